/-
  Texts of bytes: what a digit is worth, and Hex of the program and of the document.
-/
import Derived.Test.YtpdidobmfoapiaaPut
import Derived.Deep.RegionLaw
import Derived.Laws.MakeOwn
namespace Go.Proofs.Ytpdidobmfoapiaa
open Go.RowKit

/-- What a digit is worth; 16: no digit. -/
def dig (x : Nat) : Nat := if 48 ≤ x ∧ x ≤ 57 then x - 48 else if 97 ≤ x ∧ x ≤ 102 then x - 87 else 16
theorem dig_le (x : Nat) : dig x ≤ 16 := by unfold dig; split <;> (try split) <;> omega
theorem dig_high {x : Nat} (h : 128 ≤ x) : dig x = 16 := by
  unfold dig
  rw [if_neg (by omega), if_neg (by omega)]

set_option maxHeartbeats 400000 in
theorem digitOf_is (w : World) (r : Nat) (hd : dig r < 16) :
    Calls Try.prog 47 #[.int .i32 r] w fun e w' => e = .returned (.tuple #[.int .u8 (dig r), .bool true]) ∧ w = w' := by
  unfold dig at hd ⊢
  by_cases h1 : 48 ≤ r ∧ r ≤ 57
  · obtain ⟨h1, h2⟩ := h1
    rw [if_pos ⟨h1, h2⟩, show ((r - 48 : Nat) : Int) = (r : Int) - 48 by omega]
    clear hd
    go_enter Try.func47, Try.ntmps47
    go_wp2
    go_ret2
    exact ⟨rfl, rfl⟩
  · rw [if_neg h1] at hd ⊢
    by_cases h2 : 97 ≤ r ∧ r ≤ 102
    · obtain ⟨h2, h3⟩ := h2
      rw [if_pos ⟨h2, h3⟩, show ((r - 87 : Nat) : Int) = (r : Int) - 97 + 10 by omega]
      clear hd h1
      go_enter Try.func47, Try.ntmps47
      go_wp2
      go_ret2
      exact ⟨rfl, rfl⟩
    · rw [if_neg h2] at hd
      omega

set_option maxHeartbeats 400000 in
theorem digitOf_no (w : World) (r : Nat) (hd : ¬ dig r < 16) :
    Calls Try.prog 47 #[.int .i32 r] w fun e w' => e = .returned (.tuple #[.int .u8 0, .bool false]) ∧ w = w' := by
  unfold dig at hd
  by_cases h1 : 48 ≤ r ∧ r ≤ 57
  · rw [if_pos h1] at hd
    omega
  · rw [if_neg h1] at hd
    by_cases h2 : 97 ≤ r ∧ r ≤ 102
    · rw [if_pos h2] at hd
      omega
    · clear hd
      by_cases h3 : 48 ≤ r
      · have h4 : 57 < r := by omega
        by_cases h5 : 97 ≤ r
        · have h6 : 102 < r := by omega
          clear h1 h2
          go_enter Try.func47, Try.ntmps47
          go_wp2
          go_ret2
          exact ⟨rfl, rfl⟩
        · have h6 : r < 97 := by omega
          clear h1 h2 h5
          go_enter Try.func47, Try.ntmps47
          go_wp2
          go_ret2
          exact ⟨rfl, rfl⟩
      · have h4 : r < 48 := by omega
        clear h1 h2 h3
        go_enter Try.func47, Try.ntmps47
        go_wp2
        go_ret2
        exact ⟨rfl, rfl⟩

set_option maxHeartbeats 400000 in
theorem digit_any (w : World) (b : UInt8) :
    Calls Try.prog 48 #[.int .u8 (b.toNat : Int)] w fun e w' => e = .returned (.int .u8 (dig b.toNat)) ∧ w = w' := by
  have hb := b.toNat_lt
  generalize b.toNat = r at hb ⊢
  unfold dig
  by_cases h1 : 48 ≤ r
  · by_cases h2 : r ≤ 57
    · rw [if_pos ⟨h1, h2⟩, show ((r - 48 : Nat) : Int) = (r : Int) - 48 by omega]
      go_enter Try.func48, Try.ntmps48
      go_wp2
      go_ret
      exact ⟨rfl, rfl⟩
    · rw [if_neg (by omega)]
      by_cases h3 : 97 ≤ r
      · by_cases h4 : r ≤ 102
        · rw [if_pos ⟨h3, h4⟩, show ((r - 87 : Nat) : Int) = (r : Int) - 97 + 10 by omega]
          go_enter Try.func48, Try.ntmps48
          go_wp2
          go_ret
          exact ⟨rfl, rfl⟩
        · rw [if_neg (by omega)]
          go_enter Try.func48, Try.ntmps48
          go_wp2
          go_ret
          exact ⟨rfl, rfl⟩
      · rw [if_neg (by omega)]
        go_enter Try.func48, Try.ntmps48
        go_wp2
        go_ret
        exact ⟨rfl, rfl⟩
  · rw [if_neg (by omega), if_neg (by omega)]
    go_enter Try.func48, Try.ntmps48
    go_wp2
    go_ret
    exact ⟨rfl, rfl⟩

end Go.Proofs.Ytpdidobmfoapiaa
