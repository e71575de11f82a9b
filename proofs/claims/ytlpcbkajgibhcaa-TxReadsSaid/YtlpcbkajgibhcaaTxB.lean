/-
  tx: the law's num and known; the document's May.
-/
import Derived.Test.YtlpcbkajgibhcaaTx9
import Derived.Test.YtlpcbkajgibhcaaTxA
import Derived.Great.BuildSlice
namespace Go.Proofs.Ytlpcbkajgibhcaa
open Go.RowKit

theorem num_any (w : World) (n : Int) : Calls Try.prog 8 #[.int .i64 n] w fun e w' => e = .returned (.int .i64 n) ∧ w' = w := by
  go_enter Try.func8, Try.ntmps8
  go_wp2
  go_ret
  exact ⟨rfl, rfl⟩
theorem rmay_any (w : World) (t : TxR) (h : TxOk w t) : Calls Try.prog 21 #[.agg (txC t).toArray] w fun e w' => e = .returned (.bool (checkT t == 0)) ∧ Below w.heap.size w w' := by
  have hA := TxAt.new h
  have HR := Lib.hid (blkR (vs := txC t) hA.1)
  have HT := Lib.hid hA.2
  have HZ : Hid ((Try.prog.info? 28).map (·.size) = some (txC t).length) := Try.sizeTx
  have Hb0 : Hid (Below w.heap.size w (w.alloc (.cells (txC t).toArray 28))) := Lib.hid (nxAl (nxRf w) _)
  obtain ⟨z, hz⟩ : ∃ z, checkT t = z := ⟨_, rfl⟩
  have HZz := Lib.hid hz
  rw [hz]
  clear hA h hz
  go_enter Try.func21, Try.ntmps21
  go_wp2_with (first
    | ((with_reducible show wpList _ _ _ (⟨some 3, _, _, _, _, _⟩ :: _) _ _); refine wpList_load_mid rfl 28 (.tmp 1) rfl w.heap.size 0 rfl (txC t) _ HR.out Try.underlying28 rfl HZ.out ?_)
    | (go_at_call 36; refine (rcheck_any _ t HT.out).mono ?_; rw [HZz.out]; rintro e w2 ⟨rfl, hb2⟩; have Hb2 : Hid (Below w.heap.size w w2) := nxTr Hb0.out hb2; clear hb2))
  go_ret
  exact ⟨rfl, Hb2.out⟩

/-- The chapter's row. -/
def z32 : List UInt8 := List.replicate 32 0
def in0 : InR := ⟨z32, 0, none, 0, []⟩
def out0 : OutR := ⟨1, z32⟩
def tx0 (a b : Nat) : TxR := ⟨some ⟨a, 0, none⟩, 1, [in0], some ⟨b, 0, none⟩, 1, [out0], 0⟩
theorem make_in (w : World) : (Instr.makeSlice 24 (.int .i64 1) (.int .i64 1)).run Try.prog w = .ok (.slice (some ⟨w.heap.size, 0, none⟩) 1 1) (w.alloc (.cells (inC in0).toArray 50)) := by
  kernel_rfl
theorem pack0 (a b : Nat) : (packT (tx0 a b)).length = 92 ∧ checkT (tx0 a b) = 0 := ⟨rfl, rfl⟩
theorem ok0 (w : World) : TxOk ((w.alloc (.cells (inC in0).toArray 50)).alloc (.cells (outC out0).toArray 42)) (tx0 w.heap.size (w.heap.size + 1)) := by
  have h1 : Blk ((w.alloc (.cells (inC in0).toArray 50)).alloc (.cells (outC out0).toArray 42)) w.heap.size 50 (inC in0).toArray := Blk.alloc (heap_alloc_new w _) _
  have h2 : Blk ((w.alloc (.cells (inC in0).toArray 50)).alloc (.cells (outC out0).toArray 42)) (w.heap.size + 1) 42 (outC out0).toArray := (by have h := heap_alloc_new (w.alloc (.cells (inC in0).toArray 50)) (.cells (outC out0).toArray 42); simpa [Blk] using h)
  have g1 := blkR h1
  have g2 := blkR h2
  refine ⟨.inr ⟨w.heap.size, 0, rfl, by simp; omega, fun i hi => ?_⟩, fun i hi => ?_, .inr ⟨w.heap.size + 1, 0, rfl, by simp, fun i hi => ?_⟩, fun o ho => ?_, Nat.le_refl _, Nat.le_refl _, by show 0 < _; omega, by show 1 ≤ _; omega, by show 1 ≤ _; omega⟩
  · have e : insC (tx0 w.heap.size (w.heap.size + 1)).ins = inC in0 := by simp [insC, tx0]
    exact g1 i _ (by rw [← e]; exact List.getElem?_eq_getElem hi)
  · have e : i = in0 := by simpa [tx0] using hi
    subst e
    exact ⟨rfl, by show 0 < _; omega, Nat.le_refl _, .inl rfl, by show 0 ≤ _; omega⟩
  · have e : outsC (tx0 w.heap.size (w.heap.size + 1)).outs = outC out0 := by simp [outsC, tx0]
    exact g2 i _ (by rw [← e]; exact List.getElem?_eq_getElem hi)
  · have e : o = out0 := by simpa [tx0] using ho
    subst e
    exact ⟨by show 1 < _; omega, rfl⟩
set_option maxHeartbeats 1000000 in
set_option maxRecDepth 100000 in
theorem known_any (w : World) : Calls Try.prog 4 #[] w fun e w' => e = .returned (.bool true) ∧ Below w.heap.size w w' := by
  have hmk := make_in
  have HOk := Lib.hid (ok0 w)
  have HL := Lib.hid (pack0 w.heap.size (w.heap.size + 1)).1
  have HZ := Lib.hid (pack0 w.heap.size (w.heap.size + 1)).2
  have Hb0 : Hid (Below w.heap.size w ((w.alloc (.cells (inC in0).toArray 50)).alloc (.cells (outC out0).toArray 42))) := Lib.hid (nxAl (nxAl (nxRf w) _) _)
  go_enter Try.func4, Try.ntmps4
  go_wp2_with (first
    | (go_at_call 9; refine (bytes_yes ((w.alloc (.cells (inC in0).toArray 50)).alloc (.cells (outC out0).toArray 42)) (tx0 w.heap.size (w.heap.size + 1)) HOk.out HZ.out).mono ?_; unfold BytesPost; rw [HL.out]; rintro e w2 ⟨⟨A, c, B0, rfl, hB0, ho⟩, hb2⟩; have Hb2 : Hid (Below w.heap.size w w2) := nxTr Hb0.out hb2; clear hB0 ho hb2)
    | (go_at_call 8; refine (num_any _ _).mono ?_; rintro e w3 ⟨rfl, hw3⟩; subst hw3))
  go_ret
  exact ⟨rfl, Hb2.out⟩
end Go.Proofs.Ytlpcbkajgibhcaa
