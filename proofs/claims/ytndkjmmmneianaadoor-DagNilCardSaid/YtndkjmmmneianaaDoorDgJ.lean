/-
  dag: the document's Compare, In, Equal.
-/
import Derived.Test.YtndkjmmmneianaaDoorDgI
namespace Go.Proofs.YtndkjmmmneianaaDoor
open Go.RowKit

theorem cmp_split : ∀ (k : Nat) (a b : List UInt8), a.take k = b.take k → Lib.compareBytes a b = Lib.compareBytes (a.drop k) (b.drop k)
  | 0, _, _, _ => rfl
  | k + 1, [], [], _ => rfl
  | k + 1, [], y :: b, h => by simp at h
  | k + 1, x :: a, [], h => by simp at h
  | k + 1, x :: a, y :: b, h => by
    simp only [List.take_succ_cons, List.cons.injEq] at h
    obtain ⟨rfl, h⟩ := h
    rw [Lib.compareBytes, if_neg (UInt8.lt_irrefl _), if_neg (UInt8.lt_irrefl _), cmp_split k a b h]
    rfl
theorem cmp_lt {k : Nat} {a b : List UInt8} (h : a.take k = b.take k) (ha : k < a.length) (hb : k < b.length) (hl : a[k] < b[k]) : Lib.compareBytes a b = -1 := by
  rw [cmp_split k a b h, List.drop_eq_getElem_cons ha, List.drop_eq_getElem_cons hb, Lib.compareBytes, if_pos hl]
theorem cmp_gt {k : Nat} {a b : List UInt8} (h : a.take k = b.take k) (ha : k < a.length) (hb : k < b.length) (hl : b[k] < a[k]) : Lib.compareBytes a b = 1 := by
  rw [cmp_split k a b h, List.drop_eq_getElem_cons ha, List.drop_eq_getElem_cons hb, Lib.compareBytes, if_neg (fun h1 => UInt8.lt_asymm h1 hl), if_pos hl]
set_option maxRecDepth 100000 in
set_option maxHeartbeats 2000000 in
theorem rcompare_any (w : World) (a b : Hh) : Calls Tryd.prog 47 #[.agg (hC a).toArray, .agg (hC b).toArray] w fun e w' => e = .returned (.int .i64 (cmpH a b)) ∧ Below w.heap.size w w' := by
  have ba : Blk ((w.alloc (.cells (hC a).toArray 23)).alloc (.cells (hC b).toArray 23)) w.heap.size 23 (hC a).toArray := Blk.alloc (heap_alloc_new w _) _
  have bb : Blk ((w.alloc (.cells (hC a).toArray 23)).alloc (.cells (hC b).toArray 23)) (w.heap.size + 1) 23 (hC b).toArray := blkNew (by simp) rfl
  have V : Hid (Below w.heap.size w ((w.alloc (.cells (hC a).toArray 23)).alloc (.cells (hC b).toArray 23))) := nxAlloc (nxAlloc (nxRefl w) _) _
  have BA := Lib.hid ba
  have BB := Lib.hid bb
  clear ba bb
  go_enter Tryd.func47, Tryd.ntmps47
  go_wp2
  go_loopw [5] (fun iv wr => ∃ k : Nat, k ≤ 32 ∧ iv = .int .i64 k ∧ Hid (a.1.take k = b.1.take k) ∧ Hid (Blk wr w.heap.size 23 (hC a).toArray) ∧ Hid (Blk wr (w.heap.size + 1) 23 (hC b).toArray) ∧ Hid (Below w.heap.size w wr)) (fun iv _ => 32 - (intOf iv).toNat)
  case atStart => exact ⟨0, by omega, rfl, rfl, BA, BB, V⟩
  case round =>
    obtain ⟨k, hk, rfl, HE, HA, HB, HV⟩ := hrel
    by_cases hlt : k < 32
    · have hla : k < a.1.length := by rw [a.2]; exact hlt
      have hlb : k < b.1.length := by rw [b.2]; exact hlt
      obtain ⟨x, hx⟩ : ∃ x, a.1[k] = x := ⟨_, rfl⟩
      obtain ⟨y, hy⟩ : ∃ y, b.1[k] = y := ⟨_, rfl⟩
      have ca : wr.cell? ⟨w.heap.size, k, none⟩ = some (.int .u8 (x.toNat : Int)) := by rw [HA.out.cell k, ← hx]; simp [hC, By, hla]
      have cb : wr.cell? ⟨w.heap.size + 1, k, none⟩ = some (.int .u8 (y.toNat : Int)) := by rw [HB.out.cell k, ← hy]; simp [hC, By, hlb]
      have hin : (k : Int) < 32 := by omega
      have hw1 : (x.toNat : Int) < (y.toNat : Int) → cmpH a b = -1 := fun h => cmp_lt HE.out hla hlb (by rw [hx, hy]; exact UInt8.lt_iff_toNat_lt.2 (by omega))
      have hw2 : (y.toNat : Int) < (x.toNat : Int) → cmpH a b = 1 := fun h => cmp_gt HE.out hla hlb (by rw [hx, hy]; exact UInt8.lt_iff_toNat_lt.2 (by omega))
      have hw3 : ¬ (x.toNat : Int) < (y.toNat : Int) → ¬ (y.toNat : Int) < (x.toNat : Int) → a.1.take (k + 1) = b.1.take (k + 1) := fun h1 h2 => by
        have e : x = y := UInt8.toNat_inj.1 (by omega)
        rw [List.take_succ_eq_append_getElem hla, List.take_succ_eq_append_getElem hlb, HE.out, hx, hy, e]
      have HW1 := Lib.hid hw1
      have HW2 := Lib.hid hw2
      have HW3 := Lib.hid hw3
      have hq : ∀ q, Below wr.heap.size wr (wr.drewN q) := fun q => ⟨rfl, rfl, rfl, Nat.le_refl _, fun _ _ => rfl⟩
      have HQ := Lib.hid hq
      clear hx hy hla hlb hw1 hw2 hw3 hq
      go_wp2
      by_cases h1 : x.toNat < y.toNat
      · have H1 : Hid (cmpH a b = -1) := HW1.out (by omega)
        clear HW1 HW2 HW3
        go_quiet (fail)
        go_wp2
        go_ret
        exact ⟨by rw [H1.out]; rfl, HV.out.trans ((HQ.out nq).mono HV.out.size)⟩
      · go_quiet (fail)
        have HA2 : Hid (Blk (wr.drewN nq) w.heap.size 23 (hC a).toArray) := HA.out
        have HB2 : Hid (Blk (wr.drewN nq) (w.heap.size + 1) 23 (hC b).toArray) := HB.out
        have ca2 : (wr.drewN nq).cell? ⟨w.heap.size, k, none⟩ = some (.int .u8 (x.toNat : Int)) := ca
        have cb2 : (wr.drewN nq).cell? ⟨w.heap.size + 1, k, none⟩ = some (.int .u8 (y.toNat : Int)) := cb
        have HV2 : Hid (Below w.heap.size w (wr.drewN nq)) := HV.out.trans ((HQ.out nq).mono HV.out.size)
        clear HA HB ca cb HV HQ
        generalize wr.drewN nq = W2 at *
        have hq2 : ∀ q, Below W2.heap.size W2 (W2.drewN q) := fun q => ⟨rfl, rfl, rfl, Nat.le_refl _, fun _ _ => rfl⟩
        have HQ2 := Lib.hid hq2
        clear hq2
        go_wp2
        by_cases h2 : y.toNat < x.toNat
        · have H2 : Hid (cmpH a b = 1) := HW2.out (by omega)
          clear HW1 HW2 HW3
          go_quiet (fail)
          go_wp2
          go_ret
          exact ⟨by rw [H2.out]; rfl, HV2.out.trans ((HQ2.out _).mono HV2.out.size)⟩
        · have HE2 : Hid (a.1.take (k + 1) = b.1.take (k + 1)) := HW3.out (by omega) (by omega)
          clear HW1 HW2 HW3
          go_quiet (fail)
          go_wp2
          go_roundw
          case rel => exact ⟨k + 1, by omega, by go_num, HE2, HA2, HB2, HV2.out.trans ((HQ2.out _).mono HV2.out.size)⟩
          case measure => simp [intOf] <;> omega
    · obtain rfl : k = 32 := by omega
      have h0 : cmpH a b = 0 := (dcmp_zero _ _).2 (by have := HE.out; rwa [List.take_of_length_le (Nat.le_of_eq a.2), List.take_of_length_le (Nat.le_of_eq b.2)] at this)
      have H0 := Lib.hid h0
      clear h0
      go_wp2
      go_ret
      exact ⟨by rw [H0.out]; rfl, HV.out⟩
end Go.Proofs.YtndkjmmmneianaaDoor
