/-
  The writer's counts and hashes, as tx calls them; a new writer.
-/
import Derived.Test.YtjcbihdhkaiidaaWr2
namespace Go.Proofs.Ytjcbihdhkaiidaa
open Go.RowKit

/-- A new writer. -/
theorem WrS.fresh (w : World) (S : Nat → Prop) (hS : S w.heap.size) : WrS (w.alloc (.cells #[.slice none 0 0, .bool false] 63)) S w.heap.size (some []) :=
  ⟨hS, none, 0, heap_alloc_new w _, by simpa [By] using World.ownsRow_nil _ 0 _ 1, fun k hk => by simp [Value.ownBlock] at hk⟩
def putCount (st : Option (List UInt8)) (n : Int) : Option (List UInt8) := if 0 ≤ n ∧ n ≤ 65535 then putN st n.toNat 2 else none

set_option maxHeartbeats 400000 in
theorem count_s (w : World) (S : Nat → Prop) (g : Nat) (st : Option (List UInt8)) (hW : WrS w S g st) (hnew : ∀ k, w.heap.size ≤ k → S k) (n : Int) (hlen : lenS st ≤ 1099511627000) :
    Calls Try.prog 22 #[.pointer (some ⟨g, 0, none⟩), .int .i64 n] w fun e w' => e = .returned (.pointer (some ⟨g, 0, none⟩)) ∧ WrS w' S g (putCount st n) ∧ Keeps S w w' := by
  have HW := Lib.hid hW
  have Hnew := Lib.hid hnew
  clear hW hnew
  by_cases h0 : n < 0
  · have HF : Hid (putCount st n = none) := by show _ = _; rw [putCount, if_neg (by omega)]
    go_enter Try.func22, Try.ntmps22
    go_wp2_with (go_at_call 32; refine (fail_s _ _ _ _ HW.out).mono ?_; rintro e w1 ⟨rfl, hq1, hq2⟩)
    go_ret
    rw [HF.out]
    exact ⟨rfl, hq1, hq2⟩
  · by_cases h1 : 65535 < n
    · have HF : Hid (putCount st n = none) := by show _ = _; rw [putCount, if_neg (by omega)]
      go_enter Try.func22, Try.ntmps22
      go_wp2_with (go_at_call 32; refine (fail_s _ _ _ _ HW.out).mono ?_; rintro e w1 ⟨rfl, hq1, hq2⟩)
      go_ret
      rw [HF.out]
      exact ⟨rfl, hq1, hq2⟩
    · have HF : Hid (putCount st n = putN st n.toNat 2) := by show _ = _; rw [putCount, if_pos (by omega)]
      obtain ⟨k, rfl⟩ := Int.eq_ofNat_of_zero_le (show 0 ≤ n by omega)
      go_enter Try.func22, Try.ntmps22
      go_wp2_with (go_at_call 24; refine (number_s _ _ _ _ HW.out Hnew.out k 2 (by omega) (by omega)).mono ?_; rintro e w1 ⟨rfl, hq1, hq2⟩)
      go_ret
      rw [HF.out]
      exact ⟨rfl, hq1, hq2⟩

set_option maxHeartbeats 400000 in
set_option maxRecDepth 100000 in
theorem whash_s (w : World) (S : Nat → Prop) (g : Nat) (st : Option (List UInt8)) (hW : WrS w S g st) (hnew : ∀ k, w.heap.size ≤ k → S k) (h : List UInt8) (hh : h.length = 32) (hlen : lenS st ≤ 1099511627000) :
    Calls Try.prog 23 #[.pointer (some ⟨g, 0, none⟩), .agg (By h).toArray] w fun e w' => e = .returned (.pointer (some ⟨g, 0, none⟩)) ∧ WrS w' S g (putB st h) ∧ Keeps S w w' := by
  have HW := Lib.hid (hW.below ((Below.refl _ _).alloc (Nat.le_refl _) (.cells (By h).toArray 24)))
  have Hnew : Hid (∀ k, (w.alloc (.cells (By h).toArray 24)).heap.size ≤ k → S k) := fun k hk => hnew k (by simp at hk; omega)
  have Hh := Lib.hid hh
  have HS := Lib.hid (Sees.lit w h 24)
  clear hW hnew hh
  go_enter Try.func23, Try.ntmps23
  go_wp2_with (go_at_call 33; refine (bytes_s _ _ _ _ HW.out Hnew.out _ _ _ _ h Hh.out.symm HS.out (by have := Hh.out; omega)).mono ?_; rintro e w1 ⟨rfl, hq1, hq2⟩)
  go_ret
  exact ⟨rfl, hq1, ((Keeps.refl _ _).alloc _).trans hq2⟩
end Go.Proofs.Ytjcbihdhkaiidaa
