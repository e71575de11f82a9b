/-
  A slice of one element that is written out; a row that is loaded in a region that draws.
-/
import Derived.Test.YtndkjmmmneianaaDoorVals
import Derived.Deep.MidRow
import Derived.Maps.OwnSet
namespace Go.Proofs.YtndkjmmmneianaaDoor
open Go.RowKit

theorem fill_of1 {P : Program} {E : TypeId} {i : TypeInfo} {z : Value} {sz by_ : Nat} (hi : P.info? E = some i) (hz : i.zero = some z) (hs : i.size = sz) {a : Act} {x : Operand} {cs : List Value} (hc : cs.length = sz) (hx : a.eval x = .agg cs.toArray) :
    Instr.fill (fun j => some (j * sz, sz)) ((Array.range (1 * sz)).map (z.cells[· % z.cells.size]!)) (#[((0 : Nat), x)].map fun (p : Nat × Operand) => (p.1, a.eval p.2)).toList = some cs.toArray := by
  have e : (#[(0, x)].map fun (p : Nat × Operand) => (p.1, a.eval p.2)).toList = [(0, .agg cs.toArray)] := by simp [hx]
  have hf := fill_one sz ((Array.range (1 * sz)).map (z.cells[· % z.cells.size]!)).toList cs (by simp) hc
  rw [Array.toArray_toList] at hf
  rw [e]; exact hf
theorem wpList_build1 {P : Program} {ops : Array Oper} {rest : List Oper} {o : Oper} {a : Act} {w : World} {Q : Exit → Act → World → Prop} (hg : o.guard = none) (T E : TypeId) (x : Operand) (ho : o.op = .buildSlice T 1 #[(0, x)])
    (cs : List Value) (z : Value) (sz by_ : Nat) (hu : P.underlying T = some (.slice E)) (hi : (P.info? E).map (fun i => (i.zero, i.size, i.bytes)) = some (some z, sz, by_)) (h0 : 0 < sz) (h1 : sz ≤ 1000) (hc : cs.length = sz) (hx : a.eval x = .agg cs.toArray)
    (h : wpList P ops Q rest (a.put o.dst (.slice (some ⟨w.heap.size, 0, none⟩) 1 1)) (w.alloc (.cells cs.toArray E))) : wpList P ops Q (o :: rest) a w := by
  obtain ⟨i0, hi0, hz, hs, _⟩ := info_parts hi
  refine wpList_plain hg fun _ hK => wp_buildSlice T E 1 #[(0, x)] ho cs.toArray i0 z hu hi0 hz (by rw [hs]; omega) (by rw [hs]; omega) ?_ (hK _ _ h)
  rw [hs]
  exact fill_of1 (by_ := by_) hi0 hz hs hc hx
theorem step_build1 {P : Program} {ops : Array Oper} {o : Oper} {a : Act} {w : World} {K : Act → World → Prop} {Q : Exit → Act → World → Prop} {F : Prop} (hg : o.guard = none) (T E : TypeId) (x : Operand) (ho : o.op = .buildSlice T 1 #[(0, x)])
    (cs : List Value) (z : Value) (sz by_ : Nat) (hu : P.underlying T = some (.slice E)) (hi : (P.info? E).map (fun i => (i.zero, i.size, i.bytes)) = some (some z, sz, by_)) (h0 : 0 < sz) (h1 : sz ≤ 1000) (hc : cs.length = sz) (hx : a.eval x = .agg cs.toArray)
    (h : K (a.put o.dst (.slice (some ⟨w.heap.size, 0, none⟩) 1 1)) (w.alloc (.cells cs.toArray E))) : if Region.wanted o (yielded ops a.tmps) = true then Oper.wp P o a w K Q else F := by
  have hw : Region.wanted o (yielded ops a.tmps) = true := by simp [Region.wanted, hg]
  rw [if_pos hw]
  obtain ⟨i0, hi0, hz, hs, _⟩ := info_parts hi
  refine wp_buildSlice T E 1 #[(0, x)] ho cs.toArray i0 z hu hi0 hz (by rw [hs]; omega) (by rw [hs]; omega) ?_ h
  rw [hs]
  exact fill_of1 (by_ := by_) hi0 hz hs hc hx
theorem step_loadmid {P : Program} {ops : Array Oper} {op : Oper} {a : Act} {w : World} {K : Act → World → Prop} {Q : Exit → Act → World → Prop} {F : Prop} (hg : op.guard = none) (ty : TypeId) (x : Operand) (ho : op.op = .load ty x)
    (b o : Nat) (hx : a.eval x = .pointer (some ⟨b, o, none⟩)) (cs : List Value) (d : TypeDesc) (hS : w.rangeAt b o cs) (hu : P.underlying ty = some d) (hd : d.isRow = true) (hi : (P.info? ty).map (·.size) = some cs.length)
    (h : K (a.put op.dst (.agg cs.toArray)) w) : if Region.wanted op (yielded ops a.tmps) = true then Oper.wp P op a w K Q else F := by
  have hw : Region.wanted op (yielded ops a.tmps) = true := by simp [Region.wanted, hg]
  rw [if_pos hw]
  unfold Oper.wp execOp
  simp only [ho, hx, Instr.loadAt, Instr.sureAddr, Sem.run_bind, Sem.run_pure, Result.andThen_ok, run_loadVar_mid w b o ty cs d hS hu hd hi]
  exact h
theorem step_mapupd {H : Type} {P : Program} (w : World) {ops : Array Oper} {o : Oper} {a : Act} {K : Act → World → Prop} {Q : Exit → Act → World → Prop} {F : Prop} (hg : o.guard = none) (m x v : Operand) (t : TypeId) (hop : o.op = Op.mapUpdate t m x v)
    (k e : TypeId) (Kd : Maps.Keyed P k) (ht : P.underlying t = some (.map k e)) (R : Value → Option (DataW H × List MemPlace)) (b n : Nat) (D : DataW H)
    (hm : a.eval m = .map (some b)) (hown : w.ownsMap P k R b n D) (hn : n < maxLen) (key val : Value) (kl : Lit) (hx : a.eval x = key) (hv : a.eval v = val) (hkey : keyOf P k key = some kl)
    (d : DataW H) (ps : List MemPlace) (hval : R val = some (d, ps))
    (hK : ∀ w', w'.ownsMap P k R b (n + 1) (D.put kl d) → w.grownBy w' (some b) → K (a.put o.dst undef) w') : if Region.wanted o (yielded ops a.tmps) = true then Oper.wp P o a w K Q else F := by
  have hw : Region.wanted o (yielded ops a.tmps) = true := by simp [Region.wanted, hg]
  rw [if_pos hw]
  obtain ⟨w', hrun, r1, r2⟩ := hown.update Kd ht hn hkey hval
  unfold Oper.wp
  simp [execOp, hop, hm, hx, hv, hrun, Result.andThen]
  exact hK w' r1 r2
end Go.Proofs.YtndkjmmmneianaaDoor
