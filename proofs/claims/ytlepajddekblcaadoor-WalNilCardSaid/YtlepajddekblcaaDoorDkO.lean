/-
  disk: DiskNil.
-/
import Derived.Test.YtlepajddekblcaaDoorDkN
import Derived.Laws.OwnMore
namespace Go.Proofs.YtlepajddekblcaaDoor
open Go.RowKit

theorem Tryd.u8infoD : (Tryd.prog.info? 5).map (fun i => (i.zero, i.size, i.bytes)) = some (some (.int .u8 0), 1, 1) := by kernel_rfl
theorem long_row (n : Nat) : ∃ L : Array Value, (∀ (w : World), n ≤ 16777217 → (Instr.makeSlice 23 (.int .i64 (n : Int)) (.int .i64 (n : Int))).run Tryd.prog w = .ok (.slice (some ⟨w.heap.size, 0, none⟩) n n) (w.alloc (.cells L 5))) ∧ L.toList = List.replicate n (.int .u8 0) := by
  obtain ⟨i, hi, hz, hs, hb⟩ : ∃ i, Tryd.prog.info? 5 = some i ∧ i.zero = some (.int .u8 0) ∧ i.size = 1 ∧ i.bytes = 1 := by
    have h := Tryd.u8infoD
    cases e : Tryd.prog.info? 5 with
    | none => rw [e] at h; cases h
    | some i =>
      rw [e] at h
      injection h with h
      injection h with h1 h2
      injection h2 with h2 h3
      exact ⟨i, rfl, h1, h2, h3⟩
  refine ⟨madeCells (Value.int .u8 0).cells n, fun w hn => ?_, toList_madeCells_one _ _⟩
  have h := run_make (P := Tryd.prog) w 23 5 i _ Tryd.underlying23 hi hz .i64 .i64 (n : Int) (n : Int) (by omega) (Int.le_refl _) (by rw [hb]; omega) (by omega)
  rw [hs, Int.toNat_natCast, Nat.mul_one] at h
  exact h
theorem long_sees (w : World) (L : Array Value) (n : Nat) (hL : L.toList = List.replicate n (.int .u8 0)) (o k : Nat) (h : o + k ≤ n) : Sees (w.alloc (.cells L 5)) (w.heap.size + 1) (some ⟨w.heap.size, o, none⟩) (zs k) := by
  refine .inr ⟨w.heap.size, o, rfl, by omega, fun i hi => ?_⟩
  rw [zs_len] at hi
  have hb : Blk (w.alloc (.cells L 5)) w.heap.size 5 L := heap_alloc_new w _
  rw [hb.cell, ← Array.getElem?_toList, hL, List.getElem?_replicate, if_pos (by omega)]
  have hx : (zs k)[i]'(by rw [zs_len]; exact hi) = 0 := List.getElem_replicate _
  show _ = some (Value.int .u8 (((zs k)[i]'(by rw [zs_len]; exact hi)).toNat : Int))
  rw [hx]
  rfl
theorem append_len (w : World) (g : Nat) (m : DkM) (h : DkOk w g m) (wf : DkWf m.d) (hW : m.W.length ≤ 1000) (log : Int) (A : Option Addr) (b : List UInt8) (n c : Nat) (hn : b.length = n) (hS : Sees w w.heap.size A b) (hb : n ≤ 100000000) :
    Calls Tryd.prog 51 #[ptrD g, .int .i64 log, .slice A n c] w (DkPost w g m (appendD m.d log b)) := by
  subst hn
  exact append_any w g m h wf hW log A b c hS hb
theorem sees_apart {W w' : World} {g : Nat} {m' : DkM} (t : DkTo W g newM w' m') {B b off : Nat} {l : List UInt8} (h : Sees W B (some ⟨b, off, none⟩) l) (hb : b ≠ g) (hs : B ≤ W.heap.size) : Sees w' w'.heap.size (some ⟨b, off, none⟩) l :=
  (h.keeps t.k (fun ad had _ hf => by injection had with had; subst had; exact hb (newM_foot g _ hf))).more (Nat.le_trans hs t.k.size)
theorem cell_apart {W w' : World} {g : Nat} {m' : DkM} (t : DkTo W g newM w' m') {b off : Nat} {v : Value} (h : W.cell? ⟨b, off, none⟩ = some v) (hb : b ≠ g) (hs : b < W.heap.size) : w'.cell? ⟨b, off, none⟩ = some v := by
  rw [t.k.cell (p := ⟨b, off, none⟩) hs (fun hf => hb (newM_foot g _ hf))]
  exact h

end Go.Proofs.YtlepajddekblcaaDoor
