/-
  The document's OfHex: the same bytes.
-/
import Derived.Test.YtpdidobmfoapiaaOf
namespace Go.Proofs.Ytpdidobmfoapiaa
open Go.RowKit

/-- What the document's OfHex answers. -/
def ROfPost (w : World) (S : ByteArray) (e : Ending) (w' : World) : Prop :=
  ∃ A c, e = .returned (.tuple #[.slice A (outB S).length c, .bool (goodB S)]) ∧ Sees w' w'.heap.size A (outB S) ∧ Below w.heap.size w w'
theorem ROfPost.bad {w w' : World} {S : ByteArray} (h : goodB S = false) (hb : Below w.heap.size w w') : ROfPost w S (.returned (.tuple #[.slice none 0 0, .bool false])) w' := by
  refine ⟨none, 0, ?_, ?_, hb⟩
  · simp [outB, h]
  · simp [outB, h, Sees]
theorem run_at {P : Program} {t : TypeId} (h : P.underlying t = some .string) (S : ByteArray) (i : Int) (n : Nat) (hi : i = n) (hn : n < S.size) (w : World) :
    (Instr.index t (.string S) (.int .i64 i)).run P w = .ok (.int .u8 ((S[n]'hn).toNat : Int)) w := by
  subst hi
  rw [run_index_string _ _ _ _ _ h, dif_pos ⟨by omega, by omega⟩]
  rfl
theorem Below.drewN' {B : Nat} {w w' : World} (h : Below B w w') (n : Nat) : Below B w (w'.drewN n) := ⟨h.os, h.tape, h.output, h.size, h.block⟩

set_option maxHeartbeats 1000000 in
set_option maxRecDepth 100000 in
theorem rofHex_any (w : World) (S : ByteArray) (hmax : S.size ≤ 9000) : Calls Try.prog 28 #[.string S] w (ROfPost w S) := by
  by_cases hodd : S.size % 2 = 0
  · have hodd' : ((S.size : Int) % 2 != 0) = false := by simp; omega
    obtain ⟨i0, hi, hz0, hz1, hz2⟩ := info_parts Try.u8info
    go_enter Try.func28, Try.ntmps28
    go_wp2
    go_loopw [4, 5] (fun v i wr => ∃ (k j : Nat) (A : Option Addr) (c : Nat), Hid (j = 2 * k) ∧ j ≤ S.size ∧ i = .int .i64 j ∧ v = .slice A k c ∧ Hid (∀ i, i < j → dAt S i < 16) ∧ Hid (wr.ownsRow w.heap.size 5 1 (.slice A k c) k (By (bytesTo S k))) ∧ Below w.heap.size w wr) (fun _ i _ => S.size - (intOf i).toNat)
    case atStart => exact ⟨0, 0, none, 0, rfl, Nat.zero_le _, rfl, rfl, fun i hi => absurd hi (by omega), World.ownsRow_nil _ _ _ _, Below.refl _ _⟩
    case round =>
      obtain ⟨k, j, A, c, Hj, hjl, rfl, rfl, Hok, Hown, hbel⟩ := hrel
      by_cases hlt : j < S.size
      · have hlt1 : j + 1 < S.size := by have := Hj.out; omega
        have Ha0 := Lib.hid (dAt_eq S j hlt)
        have Ha1 := Lib.hid (dAt_eq S (j + 1) hlt1)
        have q0 : ∀ wq, (Instr.index 9 (.string S) (.int .i64 (j : Int))).run Try.prog wq = .ok (.int .u8 ((S[j]'hlt).toNat : Int)) wq := fun wq => run_at Try.underlying9 S _ j rfl hlt wq
        have q1 : ∀ wq, (Instr.index 9 (.string S) (.int .i64 (IntKind.i64.wrap ((j : Int) + 1)))).run Try.prog wq = .ok (.int .u8 ((S[j + 1]'hlt1).toNat : Int)) wq := fun wq => run_at Try.underlying9 S _ (j + 1) (by rw [IntKind.wrap_i64]; omega) hlt1 wq
        generalize S[j]'hlt = x at q0 Ha0
        generalize S[j + 1]'hlt1 = y at q1 Ha1
        by_cases hx : dig x.toNat < 16
        · by_cases hy : dig y.toNat < 16
          · have Hok2 : Hid (∀ i, i < j + 2 → dAt S i < 16) := by
              intro i hi
              by_cases e : i = j
              · rw [e, Ha0.out]; exact hx
              · by_cases e' : i = j + 1
                · rw [e', Ha1.out]; exact hy
                · exact Hok.out i (by omega)
            have Hbt : Hid (bytesTo S (k + 1) = bytesTo S k ++ [UInt8.ofNat (16 * dig x.toNat + dig y.toNat)]) := by
              show _ = _
              rw [bytesTo_succ, ← Hj.out, Ha0.out, Ha1.out]
            have HSe : Hid (Sees (wr.drew.alloc (.cells #[.int .u8 (16 * (dig x.toNat : Int) + (dig y.toNat : Int))] 5)) (wr.heap.size + 1) (some ⟨wr.heap.size, 0, none⟩) [UInt8.ofNat (16 * dig x.toNat + dig y.toNat)]) := by
              have h := Sees.one wr.drew (UInt8.ofNat (16 * dig x.toNat + dig y.toNat)) 5
              rw [show ((UInt8.ofNat (16 * dig x.toNat + dig y.toNat)).toNat : Int) = 16 * (dig x.toNat : Int) + (dig y.toNat : Int) by simp only [UInt8.toNat_ofNat']; omega] at h
              exact h
            go_wp2
            go_region_law ((go_simp; go_at_call 48; refine (digit_any _ _).mono ?_; rintro e w' ⟨rfl, rfl⟩))
            all_goals
              go_wp2_with (at_builtin; refine wpList_append_sees rfl (.tmp 33) (.tmp 38) 25 rfl w.heap.size 5 i0 (.int .u8 0) Try.underlying25 hi hz0 hz1 hz2 rfl (.slice A k c) k (By (bytesTo S k)) rfl (Hown.out.alloc _) (wr.heap.size + 1) (some ⟨wr.heap.size, 0, none⟩) 1 1 [UInt8.ofNat (16 * dig x.toNat + dig y.toNat)] rfl rfl HSe.out (by have := Hj.out; omega) (by have := hbel.size; simp; omega) ?_; intro v' w3 hown hgr hat; obtain ⟨A3, c3, rfl⟩ := own_form hown; have Hown3 : Hid (w3.ownsRow w.heap.size 5 1 (.slice A3 (k + 1) c3) (k + 1) (By (bytesTo S (k + 1)))) := (by show World.ownsRow _ _ _ _ _ _ _; rw [Hbt.out, By_append]; exact hown); have hbel3 : Below w.heap.size w w3 := ((Below.drew' hbel).alloc hbel.size _).grown hgr (by have := hbel.size; simp; omega) (fun j hj => (Hown.out.lt j hj).1); clear hown hgr hat)
              go_roundw
              case rel => exact ⟨k + 1, j + 2, A3, c3, by show _ = _; rw [Hj.out]; omega, by omega, by go_num, rfl, Hok2, Hown3, hbel3⟩
              case measure => simp [intOf]; omega
          · have hy' : 15 < dig y.toNat := by omega
            have Hb : Hid (goodB S = false) := goodB_bad hlt1 (by rw [Ha1.out]; exact hy)
            go_wp2
            go_region_law ((go_simp; go_at_call 48; refine (digit_any _ _).mono ?_; rintro e w' ⟨rfl, rfl⟩))
            all_goals
              go_wp2
              go_ret2
              exact ROfPost.bad Hb.out (Below.drew' hbel)
        · have hx' : 15 < dig x.toNat := by omega
          have Hb : Hid (goodB S = false) := goodB_bad hlt (by rw [Ha0.out]; exact hx)
          go_wp2
          go_region_law ((go_simp; go_at_call 48; refine (digit_any _ _).mono ?_; rintro e w' ⟨rfl, rfl⟩))
          all_goals
            go_wp2
            go_ret2
            exact ROfPost.bad Hb.out (Below.drew' hbel)
      · obtain rfl : j = S.size := by omega
        have Hgood : Hid (goodB S = true) := (goodB_iff S).2 ⟨hodd, Hok.out⟩
        have Hk : Hid (S.size / 2 = k) := by show _ = _; have := Hj.out; omega
        go_wp2
        go_ret2
        have hg := Hgood.out
        exact ⟨A, c, by simp [outB, hg, bytesTo_length, Hk.out], by simp only [outB, hg, if_true, Hk.out]; exact Sees.own Hown.out, hbel⟩
  · have hodd' : ((S.size : Int) % 2 != 0) = true := by simp; omega
    have Hodd := Lib.hid hodd
    clear hodd
    go_enter Try.func28, Try.ntmps28
    go_wp2
    go_ret2
    exact ROfPost.bad (goodB_odd Hodd.out) (Below.refl _ _)

end Go.Proofs.Ytpdidobmfoapiaa
