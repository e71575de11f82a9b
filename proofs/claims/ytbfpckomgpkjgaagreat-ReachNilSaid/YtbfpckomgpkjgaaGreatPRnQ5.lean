/-
  A slice of one element that is written out; a row that is loaded in a region that draws.
  copy into the beginning of a block of bytes, from a slice that shows bytes.
  A load of a whole array behind a guard, in a region that draws no order; a whole block stored into, in one that draws.
-/
import Derived.Test.YtbfpckomgpkjgaaGreatVals
import Derived.Deep.MidRow
import Derived.Maps.OwnSet
import Derived.Test.YtbfpckomgpkjgaaGreatPRnQ3
import Derived.Laws.CopyOwn
import Derived.Deep.RegionLaw
import Derived.Test.YtbfpckomgpkjgaaGreatChecked
namespace Go.Proofs.YtbfpckomgpkjgaaGreat
open Go.RowKit

theorem fill_of1 {P : Program} {E : TypeId} {i : TypeInfo} {z : Value} {sz by_ : Nat} (hi : P.info? E = some i) (hz : i.zero = some z) (hs : i.size = sz) {a : Act} {x : Operand} {cs : List Value} (hc : cs.length = sz) (hx : a.eval x = .agg cs.toArray) :
    Instr.fill (fun j => some (j * sz, sz)) ((Array.range (1 * sz)).map (z.cells[· % z.cells.size]!)) (#[((0 : Nat), x)].map fun (p : Nat × Operand) => (p.1, a.eval p.2)).toList = some cs.toArray := by
  have e : (#[(0, x)].map fun (p : Nat × Operand) => (p.1, a.eval p.2)).toList = [(0, .agg cs.toArray)] := by simp [hx]
  have hf := fill_one sz ((Array.range (1 * sz)).map (z.cells[· % z.cells.size]!)).toList cs (by simp) hc
  rw [Array.toArray_toList] at hf
  rw [e]; exact hf
theorem wpList_build1 {P : Program} {ops : Array Oper} {rest : List Oper} {o : Oper} {a : Act} {w : World} {Q : Exit → Act → World → Prop} (hg : o.guard = none) (T E : TypeId) (x : Operand) (ho : o.op = .buildSlice T 1 #[(0, x)])
    (cs : List Value) (z : Value) (sz by_ : Nat) (hu : P.underlying T = some (.slice E)) (hi : (P.info? E).map (fun i => (i.zero, i.size, i.bytes)) = some (some z, sz, by_)) (h0 : 0 < sz) (h1 : sz ≤ 1000) (hc : cs.length = sz) (hx : a.eval x = .agg cs.toArray)
    (h : wpList P ops Q rest (a.put o.dst (.slice (some ⟨w.heap.size, 0, none⟩) 1 1)) (w.alloc (.cells cs.toArray E))) : wpList P ops Q (o :: rest) a w := by
  obtain ⟨i0, hi0, hz, hs, _⟩ := info_parts hi
  refine wpList_plain hg fun _ hK => wp_buildSlice T E 1 #[(0, x)] ho cs.toArray i0 z hu hi0 hz (by rw [hs]; omega) (by rw [hs]; omega) ?_ (hK _ _ h)
  rw [hs]
  exact fill_of1 (by_ := by_) hi0 hz hs hc hx
theorem step_build1 {P : Program} {ops : Array Oper} {o : Oper} {a : Act} {w : World} {K : Act → World → Prop} {Q : Exit → Act → World → Prop} {F : Prop} (hg : o.guard = none) (T E : TypeId) (x : Operand) (ho : o.op = .buildSlice T 1 #[(0, x)])
    (cs : List Value) (z : Value) (sz by_ : Nat) (hu : P.underlying T = some (.slice E)) (hi : (P.info? E).map (fun i => (i.zero, i.size, i.bytes)) = some (some z, sz, by_)) (h0 : 0 < sz) (h1 : sz ≤ 1000) (hc : cs.length = sz) (hx : a.eval x = .agg cs.toArray)
    (h : K (a.put o.dst (.slice (some ⟨w.heap.size, 0, none⟩) 1 1)) (w.alloc (.cells cs.toArray E))) : if Region.wanted o (yielded ops a.tmps) = true then Oper.wp P o a w K Q else F := by
  have hw : Region.wanted o (yielded ops a.tmps) = true := by simp [Region.wanted, hg]
  rw [if_pos hw]
  obtain ⟨i0, hi0, hz, hs, _⟩ := info_parts hi
  refine wp_buildSlice T E 1 #[(0, x)] ho cs.toArray i0 z hu hi0 hz (by rw [hs]; omega) (by rw [hs]; omega) ?_ h
  rw [hs]
  exact fill_of1 (by_ := by_) hi0 hz hs hc hx
theorem step_loadmid {P : Program} {ops : Array Oper} {op : Oper} {a : Act} {w : World} {K : Act → World → Prop} {Q : Exit → Act → World → Prop} {F : Prop} (hg : op.guard = none) (ty : TypeId) (x : Operand) (ho : op.op = .load ty x)
    (b o : Nat) (hx : a.eval x = .pointer (some ⟨b, o, none⟩)) (cs : List Value) (d : TypeDesc) (hS : w.rangeAt b o cs) (hu : P.underlying ty = some d) (hd : d.isRow = true) (hi : (P.info? ty).map (·.size) = some cs.length)
    (h : K (a.put op.dst (.agg cs.toArray)) w) : if Region.wanted op (yielded ops a.tmps) = true then Oper.wp P op a w K Q else F := by
  have hw : Region.wanted op (yielded ops a.tmps) = true := by simp [Region.wanted, hg]
  rw [if_pos hw]
  unfold Oper.wp execOp
  simp only [ho, hx, Instr.loadAt, Instr.sureAddr, Sem.run_bind, Sem.run_pure, Result.andThen_ok, run_loadVar_mid w b o ty cs d hS hu hd hi]
  exact h
theorem step_mapupd {H : Type} {P : Program} (w : World) {ops : Array Oper} {o : Oper} {a : Act} {K : Act → World → Prop} {Q : Exit → Act → World → Prop} {F : Prop} (hg : o.guard = none) (m x v : Operand) (t : TypeId) (hop : o.op = Op.mapUpdate t m x v)
    (k e : TypeId) (Kd : Maps.Keyed P k) (ht : P.underlying t = some (.map k e)) (R : Value → Option (DataW H × List MemPlace)) (b n : Nat) (D : DataW H)
    (hm : a.eval m = .map (some b)) (hown : w.ownsMap P k R b n D) (hn : n < maxLen) (key val : Value) (kl : Lit) (hx : a.eval x = key) (hv : a.eval v = val) (hkey : keyOf P k key = some kl)
    (d : DataW H) (ps : List MemPlace) (hval : R val = some (d, ps))
    (hK : ∀ w', w'.ownsMap P k R b (n + 1) (D.put kl d) → w.grownBy w' (some b) → K (a.put o.dst undef) w') : if Region.wanted o (yielded ops a.tmps) = true then Oper.wp P o a w K Q else F := by
  have hw : Region.wanted o (yielded ops a.tmps) = true := by simp [Region.wanted, hg]
  rw [if_pos hw]
  obtain ⟨w', hrun, r1, r2⟩ := hown.update Kd ht hn hkey hval
  unfold Oper.wp
  simp [execOp, hop, hm, hx, hv, hrun, Result.andThen]
  exact hK w' r1 r2
end Go.Proofs.YtbfpckomgpkjgaaGreat

namespace Go.Proofs.YtbfpckomgpkjgaaGreat
open Go.RowKit

/-- What lies behind a copy: the first ones of l, then what was there. -/
def over (cur l : List UInt8) (dLen : Nat) : List UInt8 := l.take dLen ++ cur.drop (Nat.min l.length dLen)
theorem over_nil (cur : List UInt8) (n : Nat) : over cur [] n = cur := by simp [over]
theorem over_all (cur l : List UInt8) (h : l.length = cur.length) : over cur l cur.length = l := by
  unfold over
  have : Nat.min l.length cur.length = cur.length := by rw [h]; exact Nat.min_self _
  rw [this]
  simp [← h]

theorem over_length (cur l : List UInt8) : (over cur l cur.length).length = cur.length := by
  unfold over
  rw [List.length_append, List.length_take, List.length_drop]
  show min cur.length l.length + (cur.length - min l.length cur.length) = cur.length
  omega

section
variable {P : Program} {w : World}
theorem run_copy_sees (dT sT ty elem : TypeId) (hu : P.underlying dT = some (.slice elem)) (hsz : (P.info? elem).map (·.size) = some 1)
    (g dLen dCap : Nat) (t : TypeId) (cur : List UInt8) (hg : Blk w g t (By cur).toArray) (hd : dLen ≤ cur.length) (B : Nat) (A : Option Addr) (l : List UInt8) (hs : Sees w B A l) (sLen sCap : Nat) (hl : sLen = l.length) :
    ∃ w', (Builtin.copy_ #[dT, sT] ty #[.slice (some ⟨g, 0, none⟩) dLen dCap, .slice A sLen sCap]).run P w = .ok (goInt (Nat.min sLen dLen)) w' ∧
      Blk w' g t (By (over cur l dLen)).toArray ∧ Keeps (· = g) w w' ∧ w'.heap.size = w.heap.size := by
  subst hl
  by_cases h0 : Nat.min l.length dLen = 0
  · refine ⟨w, ?_, ?_, Keeps.refl _ _, rfl⟩
    · rw [h0]; exact run_copy_none w dT sT ty elem _ A dLen dCap l.length sCap hu hsz h0
    · have : over cur l dLen = cur := by
        unfold over
        rw [h0]
        have : l.take dLen = [] := by
          have : (l.take dLen).length = 0 := by rw [List.length_take, Nat.min_comm]; exact h0
          exact List.eq_nil_of_length_eq_zero this
        simp [this]
      rw [this]; exact hg
  · have hpos : 0 < l.length := by
      rcases Nat.eq_zero_or_pos l.length with h | h
      · exact absurd (by rw [h]; exact Nat.zero_min _) h0
      · exact h
    obtain ⟨b, off, rfl, hb, hc⟩ := hs.at_ hpos
    have hlen : (By (l.take dLen)).length = Nat.min l.length dLen := by rw [By_length, List.length_take, Nat.min_comm]
    have hfit : 0 + (By (l.take dLen)).length ≤ (By cur).toArray.size := by
      rw [hlen]
      simp [By_length]
      exact Nat.le_trans (Nat.min_le_right _ _) hd
    have hr := run_copy_row (P := P) w dT sT ty elem g 0 dLen dCap ⟨b, off, none⟩ l.length sCap (By cur).toArray t (By (l.take dLen)) hu hsz hg hlen (fun j u hu => by
      obtain ⟨hj, rfl⟩ := By_get hu
      rw [Addr.add_lit, List.getElem_take]
      exact hc j (by rw [List.length_take] at hj; omega)) hfit (By_one _)
    rw [hlen] at hr
    refine ⟨_, hr, ?_, ⟨rfl, rfl, rfl, by simp, fun k _ hk => setRow_other w g k _ (by exact hk)⟩, by simp⟩
    have e : (List.take 0 (By cur).toArray.toList ++ By (l.take dLen) ++ List.drop (0 + Nat.min l.length dLen) (By cur).toArray.toList) = By (over cur l dLen) := by
      simp [over, By, List.map_drop]
    rw [e]
    exact setRow_heap w g _ _ t _ hg

theorem wp_copy_sees {o : Oper} {a : Act} {K : Act → World → Prop} {Q : Exit → Act → World → Prop} (d s : Operand) (dT sT : TypeId)
    (ho : o.op = .call { callee := .builtin .copy, args := #[d, s], argTypes := #[dT, sT] }) (elem : TypeId) (hu : P.underlying dT = some (.slice elem)) (hsz : (P.info? elem).map (·.size) = some 1)
    (g dLen dCap : Nat) (hd : a.eval d = .slice (some ⟨g, 0, none⟩) dLen dCap) (t : TypeId) (cur : List UInt8) (hg : Blk w g t (By cur).toArray) (hdl : dLen ≤ cur.length)
    (A : Option Addr) (sLen sCap : Nat) (hsv : a.eval s = .slice A sLen sCap) (B : Nat) (l : List UInt8) (hs : Sees w B A l) (hl : sLen = l.length)
    (h : ∀ w', Blk w' g t (By (over cur l dLen)).toArray → Keeps (· = g) w w' → w'.heap.size = w.heap.size → K (a.put o.dst (goInt (Nat.min sLen dLen))) w') : o.wp P a w K Q := by
  obtain ⟨w', hr, h1, h2, h3⟩ := run_copy_sees (P := P) dT sT o.type elem hu hsz g dLen dCap t cur hg hdl B A l hs sLen sCap hl
  unfold Oper.wp execOp
  simp only [ho, resolve, invoke, builtin, Sem.run_bind, Sem.run_pure, Result.andThen_ok, List.map_toArray, List.map_cons, List.map_nil, hd, hsv, hr]
  exact h w' h1 h2 h3

theorem wpList_copy_sees {ops : Array Oper} {rest : List Oper} {o : Oper} {a : Act} {Q : Exit → Act → World → Prop} (hgd : o.guard = none) (d s : Operand) (dT sT : TypeId)
    (ho : o.op = .call { callee := .builtin .copy, args := #[d, s], argTypes := #[dT, sT] }) (elem : TypeId) (hu : P.underlying dT = some (.slice elem)) (hsz : (P.info? elem).map (·.size) = some 1)
    (g dLen dCap : Nat) (hd : a.eval d = .slice (some ⟨g, 0, none⟩) dLen dCap) (t : TypeId) (cur : List UInt8) (hg : Blk w g t (By cur).toArray) (hdl : dLen ≤ cur.length)
    (A : Option Addr) (sLen sCap : Nat) (hsv : a.eval s = .slice A sLen sCap) (B : Nat) (l : List UInt8) (hs : Sees w B A l) (hl : sLen = l.length)
    (h : ∀ w', Blk w' g t (By (over cur l dLen)).toArray → Keeps (· = g) w w' → w'.heap.size = w.heap.size → wpList P ops Q rest (a.put o.dst (goInt (Nat.min sLen dLen))) w') : wpList P ops Q (o :: rest) a w :=
  wpList_plain hgd fun _ hK => wp_copy_sees d s dT sT ho elem hu hsz g dLen dCap hd t cur hg hdl A sLen sCap hsv B l hs hl fun w' h1 h2 h3 => hK _ _ (h w' h1 h2 h3)

theorem step_copy_sees {ops : Array Oper} {o : Oper} {a : Act} {K : Act → World → Prop} {Q : Exit → Act → World → Prop} {E : Prop} (hgd : o.guard = none) (d s : Operand) (dT sT : TypeId)
    (ho : o.op = .call { callee := .builtin .copy, args := #[d, s], argTypes := #[dT, sT] }) (elem : TypeId) (hu : P.underlying dT = some (.slice elem)) (hsz : (P.info? elem).map (·.size) = some 1)
    (g dLen dCap : Nat) (hd : a.eval d = .slice (some ⟨g, 0, none⟩) dLen dCap) (t : TypeId) (cur : List UInt8) (hg : Blk w g t (By cur).toArray) (hdl : dLen ≤ cur.length)
    (A : Option Addr) (sLen sCap : Nat) (hsv : a.eval s = .slice A sLen sCap) (B : Nat) (l : List UInt8) (hs : Sees w B A l) (hl : sLen = l.length)
    (h : ∀ w', Blk w' g t (By (over cur l dLen)).toArray → Keeps (· = g) w w' → w'.heap.size = w.heap.size → K (a.put o.dst (goInt (Nat.min sLen dLen))) w') :
    if Region.wanted o (yielded ops a.tmps) = true then Oper.wp P o a w K Q else E := by
  have hw : Region.wanted o (yielded ops a.tmps) = true := by simp [Region.wanted, hgd]
  rw [if_pos hw]
  exact wp_copy_sees d s dT sT ho elem hu hsz g dLen dCap hd t cur hg hdl A sLen sCap hsv B l hs hl h
end

section
variable {P : Program} {w : World}
/-- A whole array stored into a block of its own. -/
theorem run_storeVar_all (g : Nat) (t ty : TypeId) (old cells : Array Value) (hg : Blk w g t old) (hs : old.size = cells.size) (hi : (P.info? ty).map (·.size) = some cells.size) (h1 : ∀ v ∈ cells.toList, v.oneCell' = true) :
    ∃ w', (storeVar ty ⟨g, 0, none⟩ (.agg cells)).run P w = .ok () w' ∧ Blk w' g t cells ∧ Keeps (· = g) w w' ∧ w'.heap.size = w.heap.size := by
  have hst := run_storeCells_at P g 0 t cells.toList 0 old w hg (by simp; omega) h1
  cases hq : P.info? ty with
  | none => simp [hq] at hi
  | some i =>
    have hsz : cells.size = i.size := by simp [hq] at hi; omega
    refine ⟨w.setRow g cells, ?_, setRow_heap w g _ _ t _ hg, ⟨rfl, rfl, rfl, by simp, fun k _ hk => setRow_other w g k _ (by exact hk)⟩, by simp⟩
    have e : (List.take (0 + 0) old.toList ++ cells.toList ++ List.drop (0 + 0 + cells.toList.length) old.toList).toArray = cells := by
      have : List.drop cells.size old.toList = [] := List.drop_eq_nil_of_le (by simp; omega)
      simp [this]
    simp only [Nat.add_zero, Nat.zero_add, List.take_zero, List.nil_append, Array.length_toList] at hst e
    rw [e] at hst
    simp [storeVar, sizeOf, typeInfo, hq, Value.cells, hsz, hst]

theorem wpList_store_all {ops : Array Oper} {rest : List Oper} {op : Oper} {a : Act} {Q : Exit → Act → World → Prop} (hgd : op.guard = none) (ty : TypeId) (x y : Operand) (ho : op.op = .store ty x y)
    (g : Nat) (t : TypeId) (old cells : Array Value) (hx : a.eval x = .pointer (some ⟨g, 0, none⟩)) (hy : a.eval y = .agg cells) (hg : Blk w g t old) (hs : old.size = cells.size)
    (hi : (P.info? ty).map (·.size) = some cells.size) (h1 : ∀ v ∈ cells.toList, v.oneCell' = true)
    (h : ∀ w', Blk w' g t cells → Keeps (· = g) w w' → w'.heap.size = w.heap.size → wpList P ops Q rest (a.put op.dst undef) w') : wpList P ops Q (op :: rest) a w := by
  refine wpList_plain hgd fun _ hK => ?_
  obtain ⟨w', hr, h2, h3, h4⟩ := run_storeVar_all (P := P) g t ty old cells hg hs hi h1
  unfold Oper.wp execOp
  simp only [ho, hx, hy, Instr.storeAt, Instr.sureAddr, Sem.run_bind, Sem.run_pure, Result.andThen_ok, hr]
  exact hK _ _ (h w' h2 h3 h4)
end

end Go.Proofs.YtbfpckomgpkjgaaGreat

namespace Go.Proofs.YtbfpckomgpkjgaaGreat
open Go.RowKit

theorem wpList_load_want {P : Program} {ops : Array Oper} {rest : List Oper} {op : Oper} {a : Act} {w : World} {Q : Exit → Act → World → Prop} (hw : Region.wanted op (yielded ops a.tmps) = true) (ty : TypeId) (x : Operand) (ho : op.op = .load ty x)
    (b o : Nat) (hx : a.eval x = .pointer (some ⟨b, o, none⟩)) (cs : List Value) (d : TypeDesc) (hc : w.rangeAt b o cs)
    (hu : P.underlying ty = some d) (hd : d.isRow = true) (hi : (P.info? ty).map (·.size) = some cs.length)
    (h : wpList P ops Q rest (a.put op.dst (.agg cs.toArray)) w) : wpList P ops Q (op :: rest) a w :=
  wpList_step fun _ hK => by rw [if_pos hw]; exact wp_load_mid ty x ho b o hx cs d hc hu hd hi (hK _ _ h)
section
variable {P : Program} {w : World}
theorem step_store_all {ops : Array Oper} {o : Oper} {a : Act} {K : Act → World → Prop} {Q : Exit → Act → World → Prop} {E : Prop} (hgd : o.guard = none) (ty : TypeId) (x y : Operand) (ho : o.op = .store ty x y)
    (g : Nat) (t : TypeId) (old cells : Array Value) (hx : a.eval x = .pointer (some ⟨g, 0, none⟩)) (hy : a.eval y = .agg cells) (hg : Blk w g t old) (hs : old.size = cells.size)
    (hi : (P.info? ty).map (·.size) = some cells.size) (h1 : ∀ v ∈ cells.toList, v.oneCell' = true)
    (h : ∀ w', Blk w' g t cells → Keeps (· = g) w w' → w'.heap.size = w.heap.size → K (a.put o.dst undef) w') :
    if Region.wanted o (yielded ops a.tmps) = true then Oper.wp P o a w K Q else E := by
  have hw : Region.wanted o (yielded ops a.tmps) = true := by simp [Region.wanted, hgd]
  rw [if_pos hw]
  obtain ⟨w', hr, h2, h3, h4⟩ := run_storeVar_all (P := P) g t ty old cells hg hs hi h1
  unfold Oper.wp execOp
  simp only [ho, hx, hy, Instr.storeAt, Instr.sureAddr, Sem.run_bind, Sem.run_pure, Result.andThen_ok, hr]
  exact h w' h2 h3 h4
end
end Go.Proofs.YtbfpckomgpkjgaaGreat
