/-
  merkle: the walks of what reckons with places and numbers alone.
-/
import Derived.Test.YtcbdjcmjchoagaaDoorMk1
import Derived.Test.YtcbdjcmjchoagaaDoorChecked
namespace Go.Proofs.YtcbdjcmjchoagaaDoor
open Go.RowKit

/-- Is there such a place? -/
def placeB (n c : Int) : Bool := decide (0 ≤ n ∧ n < c ∧ c ≤ 1048576)
theorem place_yes {n c : Int} (h0 : 0 ≤ n) (h1 : n < c) (h2 : c ≤ 1048576) : placeB n c = true := decide_eq_true ⟨h0, h1, h2⟩
theorem place_no {n c : Int} (h : ¬ (0 ≤ n ∧ n < c ∧ c ≤ 1048576)) : placeB n c = false := decide_eq_false h
theorem place_of {n c : Int} (h : placeB n c = true) : 0 ≤ n ∧ n < c ∧ c ≤ 1048576 := of_decide_eq_true h
theorem place_not {n c : Int} (h : placeB n c = false) : ¬ (0 ≤ n ∧ n < c ∧ c ≤ 1048576) := of_decide_eq_false h

theorem isPlace_any (w : World) (n c : Int) : Calls Tryd.prog 28 #[.int .i64 n, .int .i64 c] w fun e w' => e = .returned (.bool (placeB n c)) ∧ w' = w := by
  by_cases h0 : 0 ≤ n
  · by_cases h1 : n < c
    · by_cases h2 : c ≤ 1048576
      · have HR := Lib.hid (place_yes h0 h1 h2)
        go_enter Tryd.func28, Tryd.ntmps28
        go_wp2
        go_ret
        exact ⟨by rw [HR.out]; rfl, rfl⟩
      · have HR := Lib.hid (place_no (n := n) (c := c) (by omega))
        go_enter Tryd.func28, Tryd.ntmps28
        go_wp2
        go_ret
        exact ⟨by rw [HR.out]; rfl, rfl⟩
    · have HR := Lib.hid (place_no (n := n) (c := c) (by omega))
      go_enter Tryd.func28, Tryd.ntmps28
      go_wp2
      go_ret
      exact ⟨by rw [HR.out]; rfl, rfl⟩
  · have HR := Lib.hid (place_no (n := n) (c := c) (by omega))
    go_enter Tryd.func28, Tryd.ntmps28
    go_wp2
    go_ret
    exact ⟨by rw [HR.out]; rfl, rfl⟩

theorem isAlone_any (w : World) (n c : Nat) (hc : 1 ≤ c) (hn : n < c) (hm : c ≤ 4611686018427387904) : Calls Tryd.prog 31 #[.int .i64 (n : Int), .int .i64 (c : Int)] w fun e w' => e = .returned (.bool (aloneB n c)) ∧ w' = w := by
  by_cases h1 : n + 1 = c
  · subst h1
    by_cases h2 : n % 2 = 0
    · have HR : Hid (aloneB n (n + 1) = true) := decide_eq_true ⟨rfl, h2⟩
      have h3 : (n : Int) % 2 = 0 := by omega
      clear h2
      go_enter Tryd.func31, Tryd.ntmps31
      go_wp2
      go_ret
      exact ⟨by rw [HR.out]; rfl, rfl⟩
    · have HR : Hid (aloneB n (n + 1) = false) := decide_eq_false (fun h => h2 h.2)
      have h3 : ((n : Int) % 2 == 0) = false := by rw [beq_eq_false_iff_ne]; omega
      clear h2
      go_enter Tryd.func31, Tryd.ntmps31
      go_wp2
      go_ret
      exact ⟨by rw [HR.out]; rfl, rfl⟩
  · have HR : Hid (aloneB n c = false) := decide_eq_false (fun h => h1 h.1)
    have h3 : ¬ (n : Int) = (c : Int) - 1 := by omega
    clear h1
    go_enter Tryd.func31, Tryd.ntmps31
    go_wp2
    go_ret
    exact ⟨by rw [HR.out]; rfl, rfl⟩

theorem above_any (w : World) (n c : Nat) (hn : n ≤ 4611686018427387904) (hm : c ≤ 4611686018427387904) : Calls Tryd.prog 30 #[.int .i64 (n : Int), .int .i64 (c : Int)] w fun e w' => e = .returned (.tuple #[.int .i64 ((n / 2 : Nat) : Int), .int .i64 (((c + 1) / 2 : Nat) : Int)]) ∧ w' = w := by
  go_enter Tryd.func30, Tryd.ntmps30
  go_wp2
  go_ret2
  exact ⟨by simp, rfl⟩

set_option maxHeartbeats 1000000 in
theorem half_any (w : World) (n : Nat) (h2 : 2 ≤ n) (hm : n ≤ 4611686018427387904) : Calls Tryd.prog 35 #[.int .i64 (n : Int)] w fun e w' => e = .returned (.int .i64 (half n : Int)) ∧ w' = w := by
  go_enter Tryd.func35, Tryd.ntmps35
  go_wp2
  go_loop [3] (fun kv => ∃ k : Nat, kv = .int .i64 k ∧ 1 ≤ k ∧ k < n ∧ Hid (∃ j, k = 2 ^ j)) (fun kv => n - (intOf kv).toNat)
  case atStart => exact ⟨1, rfl, by omega, by omega, ⟨0, rfl⟩⟩
  case round =>
    obtain ⟨k, rfl, hk1, hkn, HJ⟩ := hrel
    by_cases hlt : 2 * k < n
    · go_wp2
      go_round
      case rel => exact ⟨2 * k, by go_num, by omega, by omega, by obtain ⟨j, hj⟩ := HJ.out; exact ⟨j + 1, by rw [hj, Nat.pow_succ]; omega⟩⟩
      case measure => simp [intOf] <;> omega
    · have HR : Hid (half n = k) := by
        obtain ⟨j, hj⟩ := HJ.out
        subst hj
        exact half_unique hkn (by omega)
      go_wp2
      go_ret
      exact ⟨by rw [HR.out]; rfl, rfl⟩

theorem num_any (w : World) (n : Int) : Calls Tryd.prog 13 #[.int .i64 n] w fun e w' => e = .returned (.int .i64 n) ∧ w' = w := by
  go_enter Tryd.func13, Tryd.ntmps13
  go_wp2
  go_ret
  exact ⟨rfl, rfl⟩

theorem szH_le (n c : Nat) : szH n c ≤ c := by
  induction hm : c using Nat.strongRecOn generalizing n c with
  | ind m ih =>
    subst hm
    by_cases h : c ≤ 1
    · rw [szH_one h]; omega
    · have h1 := half_lt (n := c) (by omega)
      have h2 := half_pos c
      by_cases hn : n < half c
      · rw [szH_left h hn]; have := ih _ h1 n (half c) rfl; omega
      · rw [szH_right h hn]; have := ih (c - half c) (by omega) (n - half c) (c - half c) rfl; omega

set_option maxHeartbeats 1000000 in
theorem rsize_any (c : Nat) : ∀ (w : World) (n : Nat), n < c ∨ c ≤ 1 → c ≤ 1048576 → Calls Tryd.prog 14 #[.int .i64 (n : Int), .int .i64 (c : Int)] w fun e w' => e = .returned (.int .i64 (szH n c : Int)) ∧ w' = w := by
  induction hm : c using Nat.strongRecOn generalizing c with
  | ind m ih =>
    subst hm
    intro w n hn hc
    have IH := Lib.hid ih
    clear ih
    by_cases h : c ≤ 1
    · have HR := Lib.hid (szH_one (n := n) h)
      go_enter Tryd.func14, Tryd.ntmps14
      go_wp2
      go_ret
      exact ⟨by rw [HR.out]; rfl, rfl⟩
    · have h1 := half_lt (n := c) (by omega)
      have h2 := half_pos c
      have HL := Lib.hid (fun hn => szH_left (n := n) h hn)
      have HR := Lib.hid (fun hn => szH_right (n := n) h hn)
      obtain ⟨k, hk⟩ : ∃ k, half c = k := ⟨_, rfl⟩
      rw [hk] at h1 h2 HL HR
      have HK := Lib.hid hk
      clear hk
      by_cases hlt : n < k
      · have HS := Lib.hid (HL.out hlt)
        have hb := szH_le n k
        go_enter Tryd.func14, Tryd.ntmps14
        go_wp2_with (first
          | (go_at_call 35; refine (half_any _ c (by omega) (by omega)).mono ?_; rw [HK.out]; rintro e w' ⟨rfl, rfl⟩)
          | (go_at_call 14; refine (IH.out k h1 k rfl _ n (.inl hlt) (by omega)).mono ?_; rintro e w' ⟨rfl, rfl⟩))
        go_ret
        exact ⟨by rw [HS.out]; rfl, rfl⟩
      · have HS := Lib.hid (HR.out hlt)
        have hb := szH_le (n - k) (c - k)
        have e1 : ((n - k : Nat) : Int) = (n : Int) - (k : Int) := by omega
        have e2 : ((c - k : Nat) : Int) = (c : Int) - (k : Int) := by omega
        have HC := (IH.out (c - k) (by omega) (c - k) rfl w (n - k) (by omega) (by omega))
        rw [e1, e2] at HC
        have HC' := Lib.hid HC
        clear HC e1 e2
        go_enter Tryd.func14, Tryd.ntmps14
        go_wp2_with (first
          | (go_at_call 35; refine (half_any _ c (by omega) (by omega)).mono ?_; rw [HK.out]; rintro e w' ⟨rfl, rfl⟩)
          | (go_at_call 14; refine HC'.out.mono ?_; rintro e w' ⟨rfl, rfl⟩))
        go_ret
        exact ⟨by rw [HS.out]; rfl, rfl⟩

set_option maxHeartbeats 1000000 in
theorem size_any (w : World) (n c : Nat) (hn : n < c) (hc : c ≤ 1048576) : Calls Tryd.prog 10 #[.int .i64 (n : Int), .int .i64 (c : Int)] w fun e w' => e = .returned (.tuple #[.int .i64 (szR n c : Int), .int .i64 0]) ∧ w' = w := by
  have HP := Lib.hid (place_yes (n := n) (c := c) (by omega) (by omega) (by omega))
  have HB : Hid (szR n c ≤ 1048576) := by have h1 := sz_eq n c hn; have h2 := szH_le n c; show _ ≤ _; omega
  go_enter Tryd.func10, Tryd.ntmps10
  go_wp2_with (go_at_call 28; refine (isPlace_any _ n c).mono ?_; rw [HP.out]; rintro e w' ⟨rfl, rfl⟩)
  go_loop [0, 1, 6] (fun nv cv sv => ∃ n1 c1 s1 : Nat, nv = .int .i64 n1 ∧ cv = .int .i64 c1 ∧ sv = .int .i64 s1 ∧ n1 < c1 ∧ c1 ≤ 1048576 ∧ s1 ≤ 1048576 ∧ Hid (s1 + szR n1 c1 = szR n c)) (fun _ cv _ => (intOf cv).toNat)
  case atStart => exact ⟨n, c, 0, rfl, rfl, rfl, hn, hc, by omega, by show _ = _; omega⟩
  case round =>
    obtain ⟨n1, c1, s1, rfl, rfl, rfl, hn1, hc1, hs1, HS⟩ := hrel
    by_cases h : c1 ≤ 1
    · have HR : Hid (s1 = szR n c) := by have := HS.out; rw [szR_one h] at this; exact this
      go_wp2
      go_ret2
      exact ⟨by rw [← HR.out]; rfl, rfl⟩
    · cases ha : aloneB n1 c1 with
      | true =>
        have HA := Lib.hid ha
        have HR : Hid (s1 + szR (n1 / 2) ((c1 + 1) / 2) = szR n c) := by have := HS.out; rw [szR_up h, ha] at this; show _ = _; simpa using this
        clear ha HS
        go_wp2_with (first
          | (go_at_call 31; refine (isAlone_any _ n1 c1 (by omega) (by omega) (by omega)).mono ?_; rw [HA.out]; rintro e w' ⟨rfl, rfl⟩)
          | (go_at_call 30; refine (above_any _ n1 c1 (by omega) (by omega)).mono ?_; rintro e w' ⟨rfl, rfl⟩))
        go_round
        case rel => exact ⟨n1 / 2, (c1 + 1) / 2, s1, by go_num, by go_num, rfl, by omega, by omega, hs1, HR.out⟩
        case measure => simp [intOf] <;> omega
      | false =>
        have HA := Lib.hid ha
        have HR : Hid ((s1 + 1) + szR (n1 / 2) ((c1 + 1) / 2) = szR n c) := by have := HS.out; rw [szR_up h, ha] at this; show _ = _; simp at this; omega
        have hb2 : s1 + 1 ≤ 1048576 := by have h1 := HR.out; have h2 := HB.out; omega
        clear ha HS
        go_wp2_with (first
          | (go_at_call 31; refine (isAlone_any _ n1 c1 (by omega) (by omega) (by omega)).mono ?_; rw [HA.out]; rintro e w' ⟨rfl, rfl⟩)
          | (go_at_call 30; refine (above_any _ n1 c1 (by omega) (by omega)).mono ?_; rintro e w' ⟨rfl, rfl⟩))
        go_round
        case rel => exact ⟨n1 / 2, (c1 + 1) / 2, s1 + 1, by go_num, by go_num, by go_num, by omega, by omega, hb2, HR.out⟩
        case measure => simp [intOf] <;> omega

theorem size_no (w : World) (n c : Int) (h : placeB n c = false) : Calls Tryd.prog 10 #[.int .i64 n, .int .i64 c] w fun e w' => e = .returned (.tuple #[.int .i64 0, .int .i64 2]) ∧ w' = w := by
  have HP := Lib.hid h
  clear h
  go_enter Tryd.func10, Tryd.ntmps10
  go_wp2_with (go_at_call 28; refine (isPlace_any _ n c).mono ?_; rw [HP.out]; rintro e w' ⟨rfl, rfl⟩)
  go_ret2
  exact ⟨rfl, rfl⟩

end Go.Proofs.YtcbdjcmjchoagaaDoor
