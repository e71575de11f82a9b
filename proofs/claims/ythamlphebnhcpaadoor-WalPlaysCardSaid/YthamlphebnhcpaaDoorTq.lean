/-
  The document's numbers and blobs, as tx calls them.
-/
import Derived.Test.YthamlphebnhcpaaDoorTp
namespace Go.Proofs.YthamlphebnhcpaaDoor
open Go.RowKit


set_option maxHeartbeats 400000 in
theorem refSize_any (n : Int) (w : World) : Calls Tryd.prog 86 #[.int .i64 n] w fun e w' => e = .returned (.bool (may n)) ∧ w = w' := by
  unfold may
  by_cases h1 : n = 1
  · subst h1
    go_enter Tryd.func86, Tryd.ntmps86
    go_wp2
    go_ret
    exact ⟨rfl, rfl⟩
  · by_cases h2 : n = 2
    · subst h2
      go_enter Tryd.func86, Tryd.ntmps86
      go_wp2
      go_ret
      exact ⟨rfl, rfl⟩
    · by_cases h4 : n = 4
      · subst h4
        go_enter Tryd.func86, Tryd.ntmps86
        go_wp2
        go_ret
        exact ⟨rfl, rfl⟩
      · have b1 : (n == 1) = false := beq_eq_false_iff_ne.2 h1
        have b2 : (n == 2) = false := beq_eq_false_iff_ne.2 h2
        have b4 : (n == 4) = false := beq_eq_false_iff_ne.2 h4
        go_enter Tryd.func86, Tryd.ntmps86
        go_wp2
        go_ret
        exact ⟨by simp [b1, b2, b4], rfl⟩

/-- What a call answers that makes bytes: they lie in new memory. -/
def Made (w : World) (A : Option Addr) (n c : Nat) (l : List UInt8) (w' : World) : Prop :=
  w'.ownsRow w.heap.size 5 1 (.slice A n c) n (By l) ∧ Below w.heap.size w w'
def putL (N : Nat) (Z : Int) : List UInt8 := if may Z then leB N Z.toNat else []
/-- What Put answers. -/
def PutPost (w : World) (N : Nat) (Z : Int) (e : Ending) (w' : World) : Prop :=
  ∃ A c, e = .returned (.tuple #[.slice A (putL N Z).length c, .bool (numOk N Z)]) ∧ Made w A (putL N Z).length c (putL N Z) w'

/-- One byte more. -/
theorem Sees.one (w : World) (b : UInt8) (t : TypeId) : Sees (w.alloc (.cells #[.int .u8 (b.toNat : Int)] t)) (w.heap.size + 1) (some ⟨w.heap.size, 0, none⟩) [b] := Sees.lit w [b] t

set_option maxHeartbeats 400000 in
theorem refPut_may (w : World) (N : Nat) (Z : Nat) (hN : N < 18446744073709551616) (hm : may Z = true) (hZ : Z ≤ 8) :
    Calls Tryd.prog 80 #[.int .u64 N, .int .i64 Z] w (PutPost w N Z) := by
  have Hm := Lib.hid hm
  have HL : Hid (putL N Z = leB N Z) := by show _ = _; simp [putL, hm]
  clear hm
  obtain ⟨i0, hi, hz0, hz1, hz2⟩ := info_parts Tryd.u8info
  go_enter Tryd.func80, Tryd.ntmps80
  go_wp2_with ((go_at_call 86; refine (refSize_any _ _).mono ?_; rintro e w' ⟨rfl, rfl⟩; rw [Hm.out]))
  go_loopw [0, 6, 7] (fun n v i wr => ∃ (k M : Nat) (A : Option Addr) (c : Nat), k ≤ Z ∧ M ≤ N ∧ i = .int .i64 k ∧ n = .int .u64 M ∧ v = .slice A k c ∧ Hid (M = N / 256 ^ k) ∧ Hid (wr.ownsRow w.heap.size 5 1 (.slice A k c) k (By (leB N k))) ∧ Below w.heap.size w wr) (fun _ _ i _ => Z - (intOf i).toNat)
  case atStart => exact ⟨0, N, none, 0, Nat.zero_le _, Nat.le_refl _, rfl, rfl, rfl, by simp [Hid], World.ownsRow_nil _ _ _ _, Below.refl _ _⟩
  case round =>
    obtain ⟨k, M, A, c, hk, hMN, rfl, rfl, rfl, HM, Hown, hbel⟩ := hrel
    by_cases hlt : k < Z
    · have HSe : Hid (Sees (wr.alloc (.cells #[.int .u8 ((M : Int) % 256)] 5)) (wr.heap.size + 1) (some ⟨wr.heap.size, 0, none⟩) [UInt8.ofNat (M % 256)]) := by
        have h := Sees.one wr (UInt8.ofNat (M % 256)) 5
        rw [u8_mod] at h
        exact h
      go_wp2_with (at_builtin; refine wpList_append_sees rfl (.tmp 16) (.tmp 20) 39 rfl w.heap.size 5 i0 (.int .u8 0) Tryd.underlying39 hi hz0 hz1 hz2 rfl (.slice A k c) k (By (leB N k)) rfl (Hown.out.alloc _) (wr.heap.size + 1) (some ⟨wr.heap.size, 0, none⟩) 1 1 [UInt8.ofNat (M % 256)] rfl rfl HSe.out (by omega) (by have := hbel.size; simp; omega) ?_; intro v' w1 hown hgr hat; obtain ⟨A1, c1, rfl⟩ := own_form hown; have Hown1 : Hid (w1.ownsRow w.heap.size 5 1 (.slice A1 (k + 1) c1) (k + 1) (By (leB N (k + 1)))) := (by show World.ownsRow _ _ _ _ _ _ _; rw [leB, By_append, ← HM.out]; exact hown); have hbel1 : Below w.heap.size w w1 := (hbel.alloc hbel.size _).grown hgr (by have := hbel.size; simp; omega) (fun j hj => (Hown.out.lt j hj).1); clear hown hgr hat)
      go_roundw
      case rel => exact ⟨k + 1, M / 256, A1, c1, by omega, by omega, by go_num, by go_num, rfl, by show _ = _; rw [HM.out, pow_step], Hown1, hbel1⟩
      case measure => simp [intOf]; omega
    · obtain rfl : k = Z := by omega
      have HF : Hid (numOk N k = (M == 0)) := by
        show _ = _
        have hpos : 0 < 256 ^ k := Nat.pow_pos (by omega)
        have hfit : M = 0 ↔ N < 256 ^ k := by rw [HM.out, Nat.div_eq_zero_iff]; omega
        rw [numOk, Hm.out, Bool.true_and]
        by_cases h0 : M = 0
        · simp [h0, hfit.1 h0]
        · have : ¬ N < 256 ^ k := fun h => h0 (hfit.2 h)
          simp [h0, this]
      by_cases h0 : M = 0
      · subst h0
        go_wp2
        go_ret2
        refine ⟨A, c, ?_, ?_⟩
        · rw [HF.out, HL.out, leB_length]; rfl
        · rw [HL.out, leB_length]; exact ⟨Hown.out, hbel⟩
      · have h0' : ((M : Int) == 0) = false := by simp; omega
        go_wp2
        go_ret2
        refine ⟨A, c, ?_, ?_⟩
        · rw [HF.out, HL.out, leB_length, beq_eq_false_iff_ne.2 h0]; rfl
        · rw [HL.out, leB_length]; exact ⟨Hown.out, hbel⟩

set_option maxHeartbeats 400000 in
theorem refPut_not (w : World) (N : Nat) (Z : Int) (hm : may Z = false) : Calls Tryd.prog 80 #[.int .u64 N, .int .i64 Z] w (PutPost w N Z) := by
  have Hm := Lib.hid hm
  have HL : Hid (putL N Z = []) := by show _ = _; simp [putL, hm]
  have HF : Hid (numOk N Z = false) := by show _ = _; simp [numOk, hm]
  clear hm
  go_enter Tryd.func80, Tryd.ntmps80
  go_wp2_with ((go_at_call 86; refine (refSize_any _ _).mono ?_; rintro e w' ⟨rfl, rfl⟩; rw [Hm.out]))
  go_ret2
  refine ⟨none, 0, ?_, ?_⟩
  · rw [HF.out, HL.out]; rfl
  · rw [HL.out]; exact ⟨World.ownsRow_nil _ _ _ _, Below.refl _ _⟩

theorem refPut_any (w : World) (N : Nat) (Z : Int) (hN : N < 18446744073709551616) : Calls Tryd.prog 80 #[.int .u64 N, .int .i64 Z] w (PutPost w N Z) := by
  cases hm : may Z with
  | false => exact refPut_not w N Z hm
  | true =>
    obtain ⟨k, rfl⟩ := Int.eq_ofNat_of_zero_le (show 0 ≤ Z by have := may_cases hm; omega)
    exact refPut_may w N k hN hm (by have := may_cases hm; omega)

set_option maxHeartbeats 400000 in
theorem refNumZ_any (w : World) (N : Nat) (hN : N < 18446744073709551616) (Z : Nat) (hm : may (Z : Int) = true) : Calls Tryd.prog 69 #[.int .u64 N, .int .i64 (Z : Int)] w fun e w' => ∃ A c, e = .returned (.slice A Z c) ∧ Made w A Z c (leB N Z) w' := by
  have HL : Hid (putL N (Z : Int) = leB N Z) := by show _ = _; rw [putL, if_pos hm, Int.toNat_natCast]
  go_enter Tryd.func69, Tryd.ntmps69
  go_wp2_with ((go_at_call 80; refine (refPut_any _ _ _ hN).mono ?_; rintro e w1 ⟨A, c, rfl, h1⟩; rw [HL.out, leB_length] at h1 ⊢; have H1 := Lib.hid h1; clear h1))
  go_ret
  exact ⟨A, c, rfl, H1.out⟩

set_option maxHeartbeats 400000 in
theorem refNum_any (w : World) (N : Nat) (hN : N < 18446744073709551616) : Calls Tryd.prog 69 #[.int .u64 N, .int .i64 4] w fun e w' => ∃ A c, e = .returned (.slice A 4 c) ∧ Made w A 4 c (leB N 4) w' := by
  have HL : Hid (putL N 4 = leB N 4) := rfl
  go_enter Tryd.func69, Tryd.ntmps69
  go_wp2_with ((go_at_call 80; refine (refPut_any _ _ _ hN).mono ?_; rintro e w1 ⟨A, c, rfl, h1⟩; rw [HL.out, leB_length] at h1 ⊢; have H1 := Lib.hid h1; clear h1))
  go_ret
  exact ⟨A, c, rfl, H1.out⟩

end Go.Proofs.YthamlphebnhcpaaDoor
