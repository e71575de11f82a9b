/-
  tx: the law's num and known.
-/
import Derived.Test.YtjcbihdhkaiidaaPBlQ5
namespace Go.Proofs.Ytjcbihdhkaiidaa
open Go.RowKit

/-- The chapter's row. -/
def z32 : List UInt8 := List.replicate 32 0
def in0 : InR := ⟨z32, 0, none, 0, []⟩
def out0 : OutR := ⟨1, z32⟩
def tx0 (a b : Nat) : TxR := ⟨some ⟨a, 0, none⟩, 1, [in0], some ⟨b, 0, none⟩, 1, [out0], 0⟩
theorem make_in (w : World) : (Instr.makeSlice 34 (.int .i64 1) (.int .i64 1)).run Try.prog w = .ok (.slice (some ⟨w.heap.size, 0, none⟩) 1 1) (w.alloc (.cells (inC in0).toArray 44)) := by
  kernel_rfl
theorem pack0 (a b : Nat) : (packT (tx0 a b)).length = 92 ∧ checkT (tx0 a b) = 0 := ⟨rfl, rfl⟩
theorem ok0 (w : World) : TxOk ((w.alloc (.cells (inC in0).toArray 44)).alloc (.cells (outC out0).toArray 46)) (tx0 w.heap.size (w.heap.size + 1)) := by
  have h1 : Blk ((w.alloc (.cells (inC in0).toArray 44)).alloc (.cells (outC out0).toArray 46)) w.heap.size 44 (inC in0).toArray := Blk.alloc (heap_alloc_new w _) _
  have h2 : Blk ((w.alloc (.cells (inC in0).toArray 44)).alloc (.cells (outC out0).toArray 46)) (w.heap.size + 1) 46 (outC out0).toArray := (by have h := heap_alloc_new (w.alloc (.cells (inC in0).toArray 44)) (.cells (outC out0).toArray 46); simpa [Blk] using h)
  have g1 := blkR h1
  have g2 := blkR h2
  refine ⟨.inr ⟨w.heap.size, 0, rfl, by simp; omega, fun i hi => ?_⟩, fun i hi => ?_, .inr ⟨w.heap.size + 1, 0, rfl, by simp, fun i hi => ?_⟩, fun o ho => ?_, Nat.le_refl _, Nat.le_refl _, by show 0 < _; omega, by show 1 ≤ _; omega, by show 1 ≤ _; omega⟩
  · have e : insC (tx0 w.heap.size (w.heap.size + 1)).ins = inC in0 := by simp [insC, tx0]
    exact g1 i _ (by rw [← e]; exact List.getElem?_eq_getElem hi)
  · have e : i = in0 := by simpa [tx0] using hi
    subst e
    exact ⟨rfl, by show 0 < _; omega, Nat.le_refl _, .inl rfl, by show 0 ≤ _; omega⟩
  · have e : outsC (tx0 w.heap.size (w.heap.size + 1)).outs = outC out0 := by simp [outsC, tx0]
    exact g2 i _ (by rw [← e]; exact List.getElem?_eq_getElem hi)
  · have e : o = out0 := by simpa [tx0] using ho
    subst e
    exact ⟨by show 1 < _; omega, rfl⟩
end Go.Proofs.Ytjcbihdhkaiidaa
