/-
  A slice that shows values, of any number of cells an element; append of it onto a row of the call's own. · What is written out part by part: one part that fills all.
-/
import Derived.Test.YtbfpckomgpkjgaaGreatPRnQ3
import Derived.Great.BuildSlice
namespace Go.Proofs.YtbfpckomgpkjgaaGreat
open Go.RowKit

/-- The slice at A shows the cells vs, in a block below B. -/
def SeesV (w : World) (B : Nat) (A : Option Addr) (vs : List Value) : Prop :=
  vs = [] ∨ ∃ b off, A = some ⟨b, off, none⟩ ∧ b < B ∧ ∀ i (h : i < vs.length), w.cell? ⟨b, off + i, none⟩ = some vs[i]

section
variable {w w' : World} {B B' : Nat} {A : Option Addr} {vs : List Value}
theorem SeesV.nil : SeesV w B A [] := .inl rfl
theorem SeesV.keep (h : SeesV w B A vs) (hk : ∀ p : Addr, p.block < B → w'.cell? p = w.cell? p) : SeesV w' B A vs := by
  rcases h with h | ⟨b, off, hA, hb, hc⟩
  · exact .inl h
  · exact .inr ⟨b, off, hA, hb, fun i hi => (hk ⟨b, off + i, none⟩ hb).trans (hc i hi)⟩
theorem SeesV.below (h : SeesV w B A vs) (hb : Below B w w') : SeesV w' B A vs := h.keep fun _ hp => hb.cell hp
theorem SeesV.later (h : SeesV w B A vs) (hb : Below w.heap.size w w') : SeesV w' B A vs := by
  rcases h with h | ⟨b, off, hA, hlt, hc⟩
  · exact .inl h
  · exact .inr ⟨b, off, hA, hlt, fun i hi => cell_later hb (hc i hi)⟩
theorem SeesV.alloc (h : SeesV w B A vs) (o : Obj) : SeesV (w.alloc o) B A vs := h.later ((Below.refl _ _).alloc (Nat.le_refl _) o)
theorem SeesV.drew (h : SeesV w B A vs) : SeesV w.drew B A vs := h
theorem SeesV.size (h : SeesV w B A vs) : SeesV w w.heap.size A vs := by
  rcases h with h | ⟨b, off, hA, hlt, hc⟩
  · exact .inl h
  · by_cases h0 : vs.length = 0
    · exact .inl (List.eq_nil_of_length_eq_zero h0)
    · exact .inr ⟨b, off, hA, World.block_lt_of_cell? _ _ (hc 0 (by omega)), hc⟩
theorem SeesV.more (h : SeesV w B A vs) (hB : B ≤ B') : SeesV w B' A vs := by
  rcases h with h | ⟨b, off, hA, hb, hc⟩
  · exact .inl h
  · exact .inr ⟨b, off, hA, by omega, hc⟩
theorem SeesV.at_ (h : SeesV w B A vs) {k : Nat} (hk : k < vs.length) : ∃ b off, A = some ⟨b, off, none⟩ ∧ b < B ∧ ∀ i (h : i < vs.length), w.cell? ⟨b, off + i, none⟩ = some vs[i] := by
  rcases h with h | h
  · subst h; simp at hk
  · exact h
theorem SeesV.take (h : SeesV w B A vs) (n : Nat) : SeesV w B A (vs.take n) := by
  rcases h with h | ⟨b, off, hA, hb, hc⟩
  · exact .inl (by simp [h])
  · refine .inr ⟨b, off, hA, hb, fun i hi => ?_⟩
    rw [List.getElem_take]
    exact hc i (by rw [List.length_take] at hi; omega)
theorem SeesV.drop (h : SeesV w B A vs) (n : Nat) : SeesV w B (A.map (·.add n)) (vs.drop n) := by
  rcases h with h | ⟨b, off, hA, hb, hc⟩
  · exact .inl (by simp [h])
  · refine .inr ⟨b, off + n, by rw [hA]; simp [Addr.add_lit], hb, fun i hi => ?_⟩
    rw [List.getElem_drop, Nat.add_assoc]
    exact hc (n + i) (by rw [List.length_drop] at hi; omega)
theorem SeesV.own {base size : Nat} {e : TypeId} {n c : Nat} (h : w.ownsRow base e size (.slice A n c) n vs) : SeesV w w.heap.size A vs := by
  rcases h.2 with ⟨_, h0⟩ | ⟨g, cap, cur, hv, hb, hh, hnc, hcm, hcs, ht⟩
  · left
    have := h.1
    subst h0
    exact List.eq_nil_of_length_eq_zero (by simpa using this)
  · right
    injection hv with hA hn' hc
    subst hA hc
    refine ⟨g, 0, rfl, ?_, fun i hi => ?_⟩
    · rcases Nat.lt_or_ge g w.heap.size with hlt | hge
      · exact hlt
      · rw [Array.getElem?_eq_none hge] at hh; cases hh
    · have hl := h.1
      have hg : Blk w g e cur := hh
      have e1 : (cur.toList.take (n * size))[i]? = vs[i]? := by rw [ht]
      rw [List.getElem?_take, if_pos (by omega), List.getElem?_eq_getElem hi] at e1
      rw [Nat.zero_add, hg.cell i, ← e1]
      simp
theorem SeesV.blk {g : Nat} {t : TypeId} {cs : Array Value} (hb : Blk w g t cs) : SeesV w w.heap.size (some ⟨g, 0, none⟩) cs.toList := by
  refine .inr ⟨g, 0, rfl, hb.lt, fun i hi => ?_⟩
  rw [Nat.zero_add, hb.cell i]
  simp at hi
  simp [hi]
end

section
variable {P : Program} {w : World}
/-- append onto a row of the call's own, of what a slice shows. -/
theorem run_append_seesV (base : Nat) (t ty e : TypeId) (i : TypeInfo) (z : Value) (size bytes : Nat) (ht : P.underlying t = some (.slice e)) (hi : P.info? e = some i) (hz : i.zero = some z)
    (hsize : i.size = size) (hby : i.bytes = bytes) (hzs : z.cells.size = size) (hsz : 0 < size)
    (v : Value) (n : Nat) (xs : List Value) (hown : w.ownsRow base e size v n xs)
    (B : Nat) (A : Option Addr) (m c : Nat) (vs : List Value) (hm : vs.length = m * size) (hs : SeesV w B A vs) (h1 : ∀ u ∈ vs, u.oneCell' = true) (h63 : n + m ≤ 140737488355328) (hbytes : (n + m) * bytes ≤ 140737488355328) (hbase : base ≤ w.heap.size) :
    ∃ v' w', (Builtin.append_ #[t, t] ty #[v, .slice A m c]).run P w = .ok v' w' ∧ w'.ownsRow base e size v' (n + m) (xs ++ vs) ∧ w.grownBy w' v.ownBlock ∧ (v'.ownBlock = v.ownBlock ∨ v'.ownBlock = some w.heap.size) := by
  rcases A with _ | ad
  · have h0 : vs = [] := by
      rcases hs with h | ⟨b, off, h, _⟩
      · exact h
      · cases h
    subst h0
    have hm0 : m = 0 := by
      rcases Nat.eq_zero_or_pos m with h | h
      · exact h
      · have := Nat.mul_pos h hsz; simp at hm; omega
    subst hm0
    refine ⟨v, w, ?_, by simpa using hown, World.grownBy.refl w _, .inl rfl⟩
    rcases hown.2 with ⟨rfl, rfl⟩ | ⟨g, cap, cur, rfl, _, _, hnc, _⟩
    · simp [Builtin.append_, run_underlying ht, sizeOf, typeInfo, hi, Builtin.lenOf, Builtin.firstCells]
    · simp [Builtin.append_, run_underlying ht, sizeOf, typeInfo, hi, Builtin.lenOf, Builtin.firstCells, hnc, storeCells]
  · have hc : ∀ j u, vs[j]? = some u → w.cell? (ad.add j) = some u := by
      intro j u hu
      obtain ⟨hj, rfl⟩ := List.getElem?_eq_some_iff.1 hu
      obtain ⟨b, off, hA, _, hcell⟩ := hs.at_ hj
      injection hA with hA
      subst hA
      rw [Addr.add_lit]
      exact hcell j hj
    obtain ⟨v', w', h1', h2, h3, _, h5⟩ := run_append_own_at (P := P) w base t ty e i z size bytes ht hi hz hsize hby hzs hsz v n xs hown ad m c vs hm hc h1 (by simp only [maxLen]; omega) hbytes hbase
    exact ⟨v', w', h1', h2, h3, h5⟩

theorem wpList_append_seesV {ops : Array Oper} {rest : List Oper} {o : Oper} {a : Act} {Q : Exit → Act → World → Prop} (hgd : o.guard = none) (s x : Operand) (t : TypeId)
    (ho : o.op = .call { callee := .builtin .append, args := #[s, x], argTypes := #[t, t] })
    (base : Nat) (e : TypeId) (i : TypeInfo) (z : Value) (size bytes : Nat) (ht : P.underlying t = some (.slice e)) (hi : P.info? e = some i) (hz : i.zero = some z)
    (hsize : i.size = size) (hby : i.bytes = bytes) (hzs : z.cells.size = size) (hsz : 0 < size)
    (v : Value) (n : Nat) (xs : List Value) (hs : a.eval s = v) (hown : w.ownsRow base e size v n xs)
    (B : Nat) (A : Option Addr) (m c : Nat) (vs : List Value) (hx : a.eval x = .slice A m c) (hm : vs.length = m * size) (hse : SeesV w B A vs) (h1 : ∀ u ∈ vs, u.oneCell' = true) (h63 : n + m ≤ 140737488355328) (hbytes : (n + m) * bytes ≤ 140737488355328) (hbase : base ≤ w.heap.size)
    (h : ∀ v' w', w'.ownsRow base e size v' (n + m) (xs ++ vs) → w.grownBy w' v.ownBlock → (v'.ownBlock = v.ownBlock ∨ v'.ownBlock = some w.heap.size) → wpList P ops Q rest (a.put o.dst v') w') : wpList P ops Q (o :: rest) a w := by
  refine wpList_plain hgd fun _ hK => ?_
  obtain ⟨v', w', hr, h2, h3, h4⟩ := run_append_seesV (P := P) base t o.type e i z size bytes ht hi hz hsize hby hzs hsz v n xs hown B A m c vs hm hse h1 h63 hbytes hbase
  unfold Oper.wp execOp
  simp only [ho, resolve, invoke, builtin, Sem.run_bind, Sem.run_pure, Result.andThen_ok, List.map_toArray, List.map_cons, List.map_nil, hs, hx, hr]
  exact hK _ _ (h v' w' h2 h3 h4)

theorem step_append_seesV {ops : Array Oper} {o : Oper} {a : Act} {K : Act → World → Prop} {Q : Exit → Act → World → Prop} {E : Prop} (hgd : o.guard = none) (s x : Operand) (t : TypeId)
    (ho : o.op = .call { callee := .builtin .append, args := #[s, x], argTypes := #[t, t] })
    (base : Nat) (e : TypeId) (i : TypeInfo) (z : Value) (size bytes : Nat) (ht : P.underlying t = some (.slice e)) (hi : P.info? e = some i) (hz : i.zero = some z)
    (hsize : i.size = size) (hby : i.bytes = bytes) (hzs : z.cells.size = size) (hsz : 0 < size)
    (v : Value) (n : Nat) (xs : List Value) (hs : a.eval s = v) (hown : w.ownsRow base e size v n xs)
    (B : Nat) (A : Option Addr) (m c : Nat) (vs : List Value) (hx : a.eval x = .slice A m c) (hm : vs.length = m * size) (hse : SeesV w B A vs) (h1 : ∀ u ∈ vs, u.oneCell' = true) (h63 : n + m ≤ 140737488355328) (hbytes : (n + m) * bytes ≤ 140737488355328) (hbase : base ≤ w.heap.size)
    (h : ∀ v' w', w'.ownsRow base e size v' (n + m) (xs ++ vs) → w.grownBy w' v.ownBlock → (v'.ownBlock = v.ownBlock ∨ v'.ownBlock = some w.heap.size) → K (a.put o.dst v') w') :
    if Region.wanted o (yielded ops a.tmps) = true then Oper.wp P o a w K Q else E := by
  have hw : Region.wanted o (yielded ops a.tmps) = true := by simp [Region.wanted, hgd]
  rw [if_pos hw]
  obtain ⟨v', w', hr, h2, h3, h4⟩ := run_append_seesV (P := P) base t o.type e i z size bytes ht hi hz hsize hby hzs hsz v n xs hown B A m c vs hm hse h1 h63 hbytes hbase
  unfold Oper.wp execOp
  simp only [ho, resolve, invoke, builtin, Sem.run_bind, Sem.run_pure, Result.andThen_ok, List.map_toArray, List.map_cons, List.map_nil, hs, hx, hr]
  exact h v' w' h2 h3 h4
end

/-- Nothing that was there at w has changed at W. -/
theorem nxRefl (w : World) : Below w.heap.size w w := Below.refl _ _
theorem nxAlloc {w W : World} (h : Below w.heap.size w W) (o : Obj) : Below w.heap.size w (W.alloc o) := h.alloc h.size o
theorem nxTo {w W W' : World} (h : Below w.heap.size w W) (k : Below W.heap.size W W') : Below w.heap.size w W' := h.trans (k.mono h.size)
theorem nxUndr {w W : World} (h : Below w.drew.heap.size w.drew W) : Below w.heap.size w W := ⟨h.os, h.tape, h.output, h.size, h.block⟩
/-- A row that was made whole. -/
theorem own_made {w : World} {base g : Nat} {e : TypeId} {n c size : Nat} {cs : List Value} (hb : Blk w g e cs.toArray) (hg : base ≤ g) (hn : n ≤ c) (hc : c ≤ maxLen) (hl : cs.length = c * size) : w.ownsRow base e size (.slice (some ⟨g, 0, none⟩) n c) n (cs.take (n * size)) := by
  refine ⟨?_, .inr ⟨g, c, cs.toArray, rfl, hg, hb, hn, hc, by simpa using hl, by simp⟩⟩
  rw [List.length_take, hl]
  exact Nat.min_eq_left (Nat.mul_le_mul_right _ hn)

/-- A row's form, and that it lies from base on. -/
theorem own_lt {w : World} {base size : Nat} {e : TypeId} {v : Value} {n : Nat} {xs : List Value} (h : w.ownsRow base e size v n xs) : ∀ j, v.ownBlock = some j → base ≤ j ∧ j < w.heap.size := by
  intro j hj
  rcases h.2 with ⟨rfl, _⟩ | ⟨g, cap, cur, rfl, hb, hh, _⟩
  · simp [Value.ownBlock] at hj
  · have hg : Blk w g e cur := hh
    simp only [Value.ownBlock, Option.some.injEq] at hj
    subst hj
    exact ⟨hb, hg.lt⟩
theorem own_cap' {w : World} {base size : Nat} {e : TypeId} {n c : Nat} {A : Option Addr} {xs : List Value} (h : w.ownsRow base e size (.slice A n c) n xs) : n ≤ c := by
  rcases h.2 with ⟨hv, h0⟩ | ⟨g, cap, cur, hv, hb, hh, hnc, r⟩
  · injection hv with _ _ hc; omega
  · injection hv with _ _ hc; omega
/-- The cells of a row of the call's own that is set at one place. -/
theorem own_set {w : World} {base : Nat} {e : TypeId} {n c : Nat} {A : Option Addr} {xs : List Value} (h : w.ownsRow base e 1 (.slice A n c) n xs) {k : Nat} (hk : k < n) (u : Value) :
    ∃ g, A = some ⟨g, 0, none⟩ ∧ base ≤ g ∧ w.cell? ⟨g, k, none⟩ = xs[k]? ∧ w.frozen? ⟨g, k, none⟩ = false ∧ (w.setCell ⟨g, k, none⟩ u).ownsRow base e 1 (.slice A n c) n (xs.set k u) := by
  have hl := h.1
  rcases h.2 with ⟨hv, h0⟩ | ⟨g, cap, cur, hv, hb, hh, hnc, hcm, hcs, ht⟩
  · omega
  · have hg : Blk w g e cur := hh
    injection hv with hA hn' hc'
    subst hA hc'
    refine ⟨g, rfl, hb, ?_, hg.frozen k, by simpa using hl, .inr ⟨g, c, cur.setIfInBounds k u, rfl, hb, hg.set k u, hnc, hcm, by simpa using hcs, ?_⟩⟩
    · rw [hg.cell k, ← ht, List.getElem?_take, if_pos (by omega)]; simp
    · rw [← ht, Array.toList_setIfInBounds, List.take_set]

end Go.Proofs.YtbfpckomgpkjgaaGreat
namespace Go.Proofs.YtbfpckomgpkjgaaGreat
open Go.RowKit

theorem foldl_set (off : Nat) (vs : List Value) : ∀ (k : Nat) (l : List Value), off + k + vs.length ≤ l.length →
    (vs.zipIdx k).foldl (fun (cs : Array Value) (p : Value × Nat) => cs.setIfInBounds (off + p.2) p.1) l.toArray = (l.take (off + k) ++ vs ++ l.drop (off + k + vs.length)).toArray := by
  induction vs with
  | nil => intro k l h; simp
  | cons v r ih =>
    intro k l h
    simp only [List.length_cons] at h
    rw [List.zipIdx_cons, List.foldl_cons, List.setIfInBounds_toArray, ih (k + 1) _ (by rw [List.length_set]; omega)]
    congr 1
    have h1 : (l.set (off + k) v).take (off + (k + 1)) = l.take (off + k) ++ [v] := by
      rw [← Nat.add_assoc, List.take_succ_eq_append_getElem (by rw [List.length_set]; omega), List.getElem_set_self, List.take_set_of_le (Nat.le_refl _)]
    have h2 : (l.set (off + k) v).drop (off + (k + 1) + r.length) = l.drop (off + k + (r.length + 1)) := by
      rw [List.drop_set_of_lt (by omega)]; congr 1; omega
    rw [h1, h2, List.append_assoc, List.append_assoc]; simp
theorem fill_one (size : Nat) (z : List Value) (vs : List Value) (hz : z.length = size) (hv : vs.length = size) :
    Instr.fill (fun i => some (i * size, size)) z.toArray [(0, .agg vs.toArray)] = some vs.toArray := by
  have h := foldl_set 0 vs 0 z (by omega)
  simp only [Nat.zero_add, List.take_zero, List.nil_append] at h
  rw [List.drop_eq_nil_of_le (by omega), List.append_nil] at h
  have hc : (Value.agg vs.toArray).cells = vs.toArray := rfl
  unfold Instr.fill
  simp only [hc, Nat.zero_mul, Nat.zero_add, List.size_toArray]
  rw [if_neg (by simp; omega)]
  unfold Instr.fill
  congr 1
  refine Eq.trans ?_ h
  simp
end Go.Proofs.YtbfpckomgpkjgaaGreat
