/-
  tx: rows that grow by one.
-/
import Derived.Test.YtlpcbkajgibhcaaTr1
import Derived.Test.YtlpcbkajgibhcaaTrK
import Derived.Great.BuildSlice
namespace Go.Proofs.Ytlpcbkajgibhcaa
open Go.RowKit

theorem fill_single (size : Nat) (z : List Value) (vs : List Value) (hz : z.length = size) (hv : vs.length = size) :
    Instr.fill (fun i => some (i * size, size)) z.toArray [(0, .agg vs.toArray)] = some vs.toArray := by
  have h := foldl_put 0 vs 0 z (by omega)
  simp only [Nat.zero_add, List.take_zero, List.nil_append] at h
  rw [List.drop_eq_nil_of_le (by omega), List.append_nil] at h
  have hc : (Value.agg vs.toArray).cells = vs.toArray := rfl
  unfold Instr.fill
  simp only [hc, Nat.zero_mul, Nat.zero_add, List.size_toArray]
  rw [if_neg (by simp; omega)]
  unfold Instr.fill
  congr 1
  refine Eq.trans ?_ h
  simp
theorem fill_row1 {P : Program} {E : TypeId} {z : Value} {sz by_ : Nat} {a : Act} {x : Operand} {cs : List Value} {i0 : TypeInfo} (hs : i0.size = sz) (hc : cs.length = sz) (hx : a.eval x = .agg cs.toArray) :
    Instr.fill (fun i => some (i * i0.size, i0.size)) ((Array.range (1 * i0.size)).map (z.cells[· % z.cells.size]!)) ((#[(0, x)].map fun (p : Nat × Operand) => (p.1, a.eval p.2)).toList) = some cs.toArray := by
  rw [hs]
  have e : (#[(0, x)].map fun (p : Nat × Operand) => (p.1, a.eval p.2)).toList = [(0, .agg cs.toArray)] := by simp [hx]
  have hf := fill_single sz ((Array.range (1 * sz)).map (z.cells[· % z.cells.size]!)).toList cs (by simp) hc
  rw [Array.toArray_toList] at hf
  rw [e]; exact hf
theorem wpList_build_one {P : Program} {ops : Array Oper} {rest : List Oper} {o : Oper} {a : Act} {w : World} {Q : Exit → Act → World → Prop} (hg : o.guard = none) (T E : TypeId) (x : Operand) (ho : o.op = .buildSlice T 1 #[(0, x)])
    (cs : List Value) (z : Value) (sz by_ : Nat) (hu : P.underlying T = some (.slice E)) (hi : (P.info? E).map (fun i => (i.zero, i.size, i.bytes)) = some (some z, sz, by_)) (h0 : 0 < sz) (h1 : sz ≤ 1000) (hc : cs.length = sz) (hx : a.eval x = .agg cs.toArray)
    (h : wpList P ops Q rest (a.put o.dst (.slice (some ⟨w.heap.size, 0, none⟩) 1 1)) (w.alloc (.cells cs.toArray E))) : wpList P ops Q (o :: rest) a w := by
  obtain ⟨i0, hi0, hz, hs, _⟩ := infoP hi
  exact wpList_plain hg fun _ hK => wp_buildSlice T E 1 #[(0, x)] ho cs.toArray i0 z hu hi0 hz (by rw [hs]; omega) (by rw [hs]; omega) (fill_row1 (P := P) (E := E) (by_ := by_) hs hc hx) (hK _ _ h)
theorem step_build_one {P : Program} {ops : Array Oper} {o : Oper} {a : Act} {w : World} {K : Act → World → Prop} {Q : Exit → Act → World → Prop} {F : Prop} (hg : o.guard = none) (T E : TypeId) (x : Operand) (ho : o.op = .buildSlice T 1 #[(0, x)])
    (cs : List Value) (z : Value) (sz by_ : Nat) (hu : P.underlying T = some (.slice E)) (hi : (P.info? E).map (fun i => (i.zero, i.size, i.bytes)) = some (some z, sz, by_)) (h0 : 0 < sz) (h1 : sz ≤ 1000) (hc : cs.length = sz) (hx : a.eval x = .agg cs.toArray)
    (h : K (a.put o.dst (.slice (some ⟨w.heap.size, 0, none⟩) 1 1)) (w.alloc (.cells cs.toArray E))) : if Region.wanted o (yielded ops a.tmps) = true then Oper.wp P o a w K Q else F := by
  have hw : Region.wanted o (yielded ops a.tmps) = true := by simp [Region.wanted, hg]
  rw [if_pos hw]
  obtain ⟨i0, hi0, hz, hs, _⟩ := infoP hi
  exact wp_buildSlice T E 1 #[(0, x)] ho cs.toArray i0 z hu hi0 hz (by rw [hs]; omega) (by rw [hs]; omega) (fill_row1 (P := P) (E := E) (by_ := by_) hs hc hx) h
theorem own_keepsS {S : Nat → Prop} {w w' : World} {base size n : Nat} {e : TypeId} {v : Value} {xs : List Value} (h : w.ownsRow base e size v n xs) (hk : Keeps S w w') (hn : ∀ j, v.ownBlock = some j → ¬ S j) : w'.ownsRow base e size v n xs := by
  refine ⟨h.1, ?_⟩
  rcases h.2 with h2 | ⟨g', cap, cur, rfl, hg, hh, r⟩
  · exact .inl h2
  · have hb : Blk w g' e cur := hh
    exact .inr ⟨g', cap, cur, rfl, hg, (hk.block g' hb.lt (hn g' rfl)).trans hh, r⟩
theorem row_tmp {P : Program} {fn : Func} {p u : Tmp} {ty : TypeId} (h : fn.results = #[.cell p ty, .tmp u]) (tmps : Array Value) (w : World) (g : Nat) (t : TypeId) (cs : Array Value) (d : TypeDesc)
    (hp : tmps.getD p undef = .pointer (some ⟨g, 0, none⟩)) (hg : Blk w g t cs) (hu : P.underlying ty = some d) (hd : (match d with | .struct _ | .array _ _ => true | _ => false) = true) (hi : (P.info? ty).map (·.size) = some cs.size)
    (v : Value) (hv : tmps.getD u undef = v) : (results fn tmps).run P w = .ok (.tuple #[.agg cs, v]) w := by
  rw [results_cell_tmp h, hp, hv]
  simp [asAddr, run_loadVar_row w g t ty cs (0, 0) d hg hu hd hi]
theorem of_parts {b : List UInt8} {I : List (List UInt8 × Nat × List UInt8)} {s s4 : Option (List UInt8)} {o : List OutR} (h1 : readIs (ofN (some b)) (cutRest (some b) 2 true) = (I, s)) (h2 : readOs (ofN s) (cutRest s 2 true) = (o, s4)) :
    ofP b = ⟨I, o, ofLe (cutPiece s4 8 true)⟩ ∧ ofR b = cutRest s4 8 true := by
  have e1 : ofI b = (I, s) := h1
  have e2 : ofO b = (o, s4) := by unfold ofO; rw [e1]; exact h2
  unfold ofP ofR
  rw [e1, e2]
  exact ⟨rfl, rfl⟩
theorem readIs_next {k : Nat} {s1 s : Option (List UInt8)} {I : List (List UInt8 × Nat × List UInt8)} (h : readIs k s1 = (I, s)) : readIs (k + 1) s1 = (I ++ [(readI s).1], (readI s).2) := by simp only [readIs, h]
theorem readOs_next {k : Nat} {s1 s : Option (List UInt8)} {I : List OutR} (h : readOs k s1 = (I, s)) : readOs (k + 1) s1 = (I ++ [(readO s).1], (readO s).2) := by simp only [readOs, h]
theorem insC_len {l : List InR} (h : ∀ i ∈ l, i.id.length = 32) : (insC l).length = l.length * 34 := by
  induction l with
  | nil => rfl
  | cons i r ih =>
    have e : insC (i :: r) = inC i ++ insC r := by simp [insC]
    rw [e, List.length_append, ih (fun j hj => h j (List.mem_cons_of_mem _ hj)), inC_len (h i List.mem_cons_self), List.length_cons]; omega
/-- min of a number and a bound. -/
theorem wpList_min {P : Program} {ops : Array Oper} {rest : List Oper} {o : Oper} {a : Act} {w : World} {Q : Exit → Act → World → Prop} (hg : o.guard = none) (x : Operand) (m : Int) (ho : o.op = .call { callee := .builtin .min, args := #[x, .const (.int .i64 m)], argTypes := #[3, 3] })
    (c n : Int) (hx : a.eval x = .int .i64 c) (hn : (if m < c then m else c) = n) (h : wpList P ops Q rest (a.put o.dst (.int .i64 n)) w) : wpList P ops Q (o :: rest) a w := by
  refine wpList_plain hg fun _ hK => ?_
  unfold Oper.wp execOp
  have hc : a.eval (.const (.int .i64 m)) = .int .i64 m := rfl
  have hr : (Builtin.min_ #[3, 3] o.type #[.int .i64 c, .int .i64 m]).run P w = .ok (.int .i64 n) w := by
    rw [← hn]
    by_cases hmc : m < c
    · rw [if_pos hmc]; simp [Builtin.min_, Builtin.min2, hmc]
    · rw [if_neg hmc]; simp [Builtin.min_, Builtin.min2, hmc]
  simp only [ho, resolve, invoke, builtin, Sem.run_bind, Sem.run_pure, Result.andThen_ok, List.map_toArray, List.map_cons, List.map_nil, hx, hc, hr]
  exact hK _ _ h
section
variable {P : Program} {w : World}
/-- A value stored into a part of a block. -/
theorem run_storeVar_part (g o : Nat) (t ty : TypeId) (old cells : Array Value) (v : Value) (hv : v.cells = cells) (hg : Blk w g t old) (hs : o + cells.size ≤ old.size) (hi : (P.info? ty).map (·.size) = some cells.size) (h1 : ∀ u ∈ cells.toList, u.oneCell' = true) :
    ∃ w', (storeVar ty ⟨g, o, none⟩ v).run P w = .ok () w' ∧ Blk w' g t (old.toList.take o ++ cells.toList ++ old.toList.drop (o + cells.size)).toArray ∧ Keeps (· = g) w w' ∧ w'.heap.size = w.heap.size := by
  have hst := run_storeCells_at P g o t cells.toList 0 old w hg (by simp; omega) h1
  cases hq : P.info? ty with
  | none => simp [hq] at hi
  | some i =>
    have hsz : cells.size = i.size := by simp [hq] at hi; omega
    refine ⟨w.setRow g (old.toList.take o ++ cells.toList ++ old.toList.drop (o + cells.size)).toArray, ?_, setRow_heap w g _ _ t _ hg, ⟨rfl, rfl, rfl, by simp, fun k _ hk => setRow_other w g k _ (by exact hk)⟩, by simp⟩
    simp only [Nat.add_zero, Array.length_toList] at hst
    simp [storeVar, sizeOf, typeInfo, hq, hv, hsz] at hst ⊢
    exact hst
theorem wpList_store_part {ops : Array Oper} {rest : List Oper} {op : Oper} {a : Act} {Q : Exit → Act → World → Prop} (hgd : op.guard = none) (ty : TypeId) (x y : Operand) (ho : op.op = .store ty x y)
    (g o : Nat) (t : TypeId) (old cells new : Array Value) (v : Value) (hx : a.eval x = .pointer (some ⟨g, o, none⟩)) (hy : a.eval y = v) (hv : v.cells = cells) (hg : Blk w g t old) (hs : o + cells.size ≤ old.size)
    (hi : (P.info? ty).map (·.size) = some cells.size) (h1 : ∀ u ∈ cells.toList, u.oneCell' = true) (hn : (old.toList.take o ++ cells.toList ++ old.toList.drop (o + cells.size)).toArray = new)
    (h : ∀ w', Blk w' g t new → Keeps (· = g) w w' → w'.heap.size = w.heap.size → wpList P ops Q rest (a.put op.dst undef) w') : wpList P ops Q (op :: rest) a w := by
  refine wpList_plain hgd fun _ hK => ?_
  obtain ⟨w', hr, h2, h3, h4⟩ := run_storeVar_part (P := P) g o t ty old cells v hv hg hs hi h1
  unfold Oper.wp execOp
  simp only [ho, hx, hy, Instr.storeAt, Instr.sureAddr, Sem.run_bind, Sem.run_pure, Result.andThen_ok, hr]
  exact hK _ _ (h w' (hn ▸ h2) h3 h4)
end
theorem blk_new {W : World} {t : TypeId} {cs : Array Value} {n : Nat} (h : W.heap.size = n) : Blk (W.alloc (.cells cs t)) n t cs := by subst h; exact heap_alloc_new W _
def txZ : Array Value := #[.slice none 0 0, .slice none 0 0, .int .u64 0]
/-- The blocks that reading stores into. -/
def Stored (g bt : Nat) (A : Option Addr) : Nat → Prop := fun b => b = g ∨ b = bt ∨ A.map (·.block) = some b
def Stored4 (g bt : Nat) (A : Option Addr) : Nat → Prop := fun b => Stored g bt A b ∨ b + 1 = bt
def Stored5 (g bt : Nat) (A : Option Addr) : Nat → Prop := fun b => Stored g bt A b ∨ b + 2 = bt
theorem own_blk {A : Option Addr} {n c : Nat} : (Value.slice A n c).ownBlock = A.map (·.block) := by cases A <;> rfl
end Go.Proofs.Ytlpcbkajgibhcaa
