/-
  reach: from one index in memory to the next, step by step.
-/
import Derived.Test.YtbfpckomgpkjgaaGreatRxC
namespace Go.Proofs.YtbfpckomgpkjgaaGreat
open Go.RowKit Go.Maps

/-- From one index to the next. -/
structure RxTo (w : World) (base : Nat) (m m' : RxM) (w' : World) : Prop where
  ok : RxOk w' base m'
  q : m'.q = m.q
  k : Keeps (rfoot m) w w'
  f : ∀ k, rfoot m' k → rfoot m k ∨ w.heap.size ≤ k
  r : ∀ k, ro m'.g k → ro m.g k ∨ w.heap.size ≤ k
theorem RxTo.same {w w' : World} {base : Nat} {m : RxM} (h : RxOk w base m) (k : Below w.heap.size w w') : RxTo w base m m w' := ⟨h.later k, rfl, Keeps.of_below k _, fun _ e => .inl e, fun _ e => .inl e⟩
theorem RxTo.trans {w w1 w2 : World} {base : Nat} {m m1 m2 : RxM} (h : RxTo w base m m1 w1) (k : RxTo w1 base m1 m2 w2) : RxTo w base m m2 w2 where
  ok := k.ok
  q := k.q.trans h.q
  k := ⟨k.k.os.trans h.k.os, k.k.tape.trans h.k.tape, k.k.output.trans h.k.output, Nat.le_trans h.k.size k.k.size, fun b hb hn => (k.k.block b (Nat.lt_of_lt_of_le hb h.k.size) (fun e => by
    rcases h.f b e with e | e
    · exact hn e
    · omega)).trans (h.k.block b hb hn)⟩
  f b e := by
    rcases k.f b e with e | e
    · exact h.f b e
    · exact .inr (Nat.le_trans h.k.size e)
  r b e := by
    rcases k.r b e with e | e
    · exact h.r b e
    · exact .inr (Nat.le_trans h.k.size e)
theorem RxTo.v {w0 w w' : World} {base : Nat} {m m' : RxM} (hv : Below w0.heap.size w0 w) (hg : RxOk w base m) (ha : RxTo w base m m' w') (hb : w0.heap.size ≤ base) : Below w0.heap.size w0 w' := hv.trans (ha.k.below hv.size fun j hj hf => by have := (hg.lt hf).1; omega)
theorem RxOk.setG {w w' : World} {base : Nat} {m : RxM} {g' : GrM} (h : RxOk w base m) (a : AddTo w base m.g g' w') : RxTo w base m { m with g := g' } w' := by
  have hfo : ∀ k, rown m k → ¬ foot m.g k := fun k e e' => h.sg k e (.inl e')
  have ht : ∀ k, touch g' k → touch m.g k ∨ w.heap.size ≤ k := fun k e => by
    rcases e with e | e
    · rcases a.f k e with e | e
      · exact .inl (.inl e)
      · exact .inr e
    · rcases a.r k e with e | e
      · exact .inl (.inr e)
      · exact .inr e
  refine ⟨?_, rfl, a.k.mono fun k _ e => .inl e, fun k e => ?_, a.r⟩
  · have hb := h.b.keeps a.k (hfo _ (.inl rfl))
    exact {
      b := by have := a.q; show Blk _ _ _ #[.pointer (some ⟨g'.q, 0, none⟩), _, _, _, _]; rw [a.q]; exact hb
      qb := h.qb
      nbb := h.nbb
      cbb := h.cbb
      g := a.ok
      t := h.t.keeps a.k fun k e e' => h.gt k (.inl e') e
      ids := a.k.own h.ids fun k e => hfo k (.inr (.inr (.inr (.inl e))))
      map := map_keep h.map a.k (hfo _ (.inr (.inl rfl)))
      cov := map_keep h.cov a.k (hfo _ (.inr (.inr (.inl rfl))))
      at_ := h.at_
      row := fun j => a.k.own (h.row j) fun k e => hfo k (.inr (.inr (.inr (.inr ⟨j, e⟩))))
      sg := fun k e e' => by
        rcases ht k e' with e9 | e9
        · exact h.sg k e e9
        · have := (h.olt e).2; omega
      st := h.st
      gt := fun k e e' => by
        rcases ht k e with e9 | e9
        · exact h.gt k e9 e'
        · have := (h.t.lt e').2; omega
      nc := h.nc
      fd := h.fd }
  · rcases e with e | e | e
    · rcases a.f k e with e | e
      · exact .inl (.inl e)
      · exact .inr e
    · exact .inl (.inr (.inl e))
    · exact .inl (.inr (.inr e))
theorem RxOk.setT {w w' : World} {base p : Nat} {m : RxM} {t' : TrM} (h : RxOk w base m) (a : TrTo w base m.t p t' w') : RxTo w base m { m with t := t' } w' := by
  have hfo : ∀ k, rown m k → ¬ tfoot m.t k := fun k e e' => h.st k e e'
  refine ⟨?_, rfl, a.k.mono fun k _ e => .inr (.inl e), fun k e => ?_, fun k e => .inl e⟩
  · have hb := h.b.keeps a.k (hfo _ (.inl rfl))
    exact {
      b := by show Blk _ _ _ #[_, .pointer (some ⟨t'.q, 0, none⟩), _, _, _]; rw [a.q]; exact hb
      qb := h.qb
      nbb := h.nbb
      cbb := h.cbb
      g := h.g.keeps a.k fun k e e' => h.gt k e e'
      t := a.ok
      ids := a.k.own h.ids fun k e => hfo k (.inr (.inr (.inr (.inl e))))
      map := map_keep h.map a.k (hfo _ (.inr (.inl rfl)))
      cov := map_keep h.cov a.k (hfo _ (.inr (.inr (.inl rfl))))
      at_ := h.at_
      row := fun j => a.k.own (h.row j) fun k e => hfo k (.inr (.inr (.inr (.inr ⟨j, e⟩))))
      sg := h.sg
      st := fun k e e' => by
        rcases a.f k e' with e9 | e9
        · exact h.st k e e9
        · have := (h.olt e).2; omega
      gt := fun k e e' => by
        rcases a.f k e' with e9 | e9
        · exact h.gt k e e9
        · have := h.g.tlt e; omega
      nc := h.nc
      fd := h.fd }
  · rcases e with e | e | e
    · exact .inl (.inl e)
    · rcases a.f k e with e | e
      · exact .inl (.inr (.inl e))
      · exact .inr e
    · exact .inl (.inr (.inr e))
/-- One more hash. -/
theorem RxOk.setI {w w1 : World} {base : Nat} {m : RxM} (h : RxOk w base m) (id : Hh) {A : Option Addr} {c : Nat} (ho : w1.ownsRow base 23 32 (.slice A (m.ids.length + 1) c) (m.ids.length + 1) (hsC m.ids ++ hC id)) (k1 : Keeps (fun b => m.iA.map Addr.block = some b) w w1) (hA : ∀ k, A.map Addr.block = some k → m.iA.map Addr.block = some k ∨ w.heap.size ≤ k) :
    RxTo w base m { m with iA := A, ic := c, ids := m.ids ++ [id] } (w1.setCell ⟨m.q, 2, none⟩ (.slice A (m.ids.length + 1) c)) := by
  have hq1 : ¬ m.iA.map Addr.block = some m.q := fun e => by
    obtain ⟨_, cur, hB⟩ := own_blk h.ids e
    exact absurd (tblk_tag hB h.b) (by decide)
  have hb1 := h.b.keeps k1 hq1
  have K : Keeps (fun b => m.iA.map Addr.block = some b ∨ b = m.q) w (w1.setCell ⟨m.q, 2, none⟩ (.slice A (m.ids.length + 1) c)) := Keeps.setCell (k1.mono fun _ _ e => .inl e) (p := ⟨m.q, 2, none⟩) (.inr rfl) _
  have hS : ∀ b, (m.iA.map Addr.block = some b ∨ b = m.q) → rown m b := fun b e => by
    rcases e with e | e
    · exact .inr (.inr (.inr (.inl e)))
    · exact .inl e
  have hmap : ∀ {b n : Nat} {P : Program} {k : TypeId} {H : Type} {R : Value → Option (DataW H × List MemPlace)} {D : DataW H}, w.ownsMap P k R b n D → ¬ (m.iA.map Addr.block = some b ∨ b = m.q) := fun hM e => by
    rcases e with e | e
    · obtain ⟨_, cur, hB⟩ := own_blk h.ids e
      exact map_ne hM hB rfl
    · exact map_ne hM h.b e.symm
  have hnew : ∀ k, rown { m with iA := A, ic := c, ids := m.ids ++ [id] } k → rown m k ∨ w.heap.size ≤ k := fun k e => by
    rcases e with e | e | e | e | e
    · exact .inl (.inl e)
    · exact .inl (.inr (.inl e))
    · exact .inl (.inr (.inr (.inl e)))
    · rcases hA k e with e | e
      · exact .inl (.inr (.inr (.inr (.inl e))))
      · exact .inr e
    · exact .inl (.inr (.inr (.inr (.inr e))))
  refine ⟨?_, rfl, K.mono fun k _ e => .inr (.inr (hS k e)), fun k e => ?_, fun k e => .inl e⟩
  · exact {
      b := by
        have h9 := hb1.set 2 (.slice A (m.ids.length + 1) c)
        show Blk _ _ _ #[_, _, .slice A (m.ids ++ [id]).length c, _, _]
        rw [List.length_append, List.length_singleton]
        exact h9
      qb := h.qb
      nbb := h.nbb
      cbb := h.cbb
      g := h.g.keeps K fun k e e' => h.sg k (hS k e') e
      t := h.t.keeps K fun k e e' => h.st k (hS k e') e
      ids := by
        have h9 := own_store ho hb1 (by decide) 2 (.slice A (m.ids.length + 1) c)
        show World.ownsRow _ _ _ _ (.slice A (m.ids ++ [id]).length c) (m.ids ++ [id]).length (hsC (m.ids ++ [id]))
        rw [List.length_append, List.length_singleton, hsC_append, show hsC [id] = hC id by simp [hsC]]
        exact h9
      map := map_keep h.map K (hmap h.map)
      cov := map_keep h.cov K (hmap h.cov)
      at_ := h.at_
      row := fun j => K.own (h.row j) fun k e e' => by
        obtain ⟨_, cur, hB⟩ := own_blk (h.row j) e
        rcases e' with e' | e'
        · obtain ⟨_, cur', hB'⟩ := own_blk h.ids e'
          exact absurd (tblk_tag hB hB') (by decide)
        · rw [e'] at hB
          exact absurd (tblk_tag hB h.b) (by decide)
      sg := fun k e e' => by
        rcases hnew k e with e | e
        · exact h.sg k e e'
        · have := h.g.tlt e'; omega
      st := fun k e e' => by
        rcases hnew k e with e | e
        · exact h.st k e e'
        · have := (h.t.lt e').2; omega
      gt := h.gt
      nc := h.nc
      fd := h.fd }
  · rcases e with e | e | e
    · exact .inl (.inl e)
    · exact .inl (.inr (.inl e))
    · rcases hnew k e with e | e
      · exact .inl (.inr (.inr e))
      · exact .inr e
/-- One more number. -/
theorem RxOk.setN {w w1 : World} {base : Nat} {m : RxM} (h : RxOk w base m) (id : Hh) (hm : w1.ownsMap Tryz.prog 23 (plainElem (H := Unit) Tryz.prog 3) m.nb (m.ks.length + 1) ((mapD m.ks).put (hKey id) (.lit (.int .i64 (m.ks.length : Int))))) (hg : w.grownBy w1 (some m.nb)) : RxTo w base m { m with ks := m.ks ++ [id] } w1 := by
  have K : Keeps (fun b => b = m.nb) w w1 := Keeps.grown (Keeps.refl _ _) hg (fun k e => by cases e; rfl)
  have hS : ∀ b, b = m.nb → rown m b := fun b e => .inr (.inl e)
  refine ⟨?_, rfl, K.mono fun k _ e => .inr (.inr (hS k e)), fun k e => .inl e, fun k e => .inl e⟩
  exact {
    b := h.b.keeps K fun e => map_ne h.map h.b e
    qb := h.qb
    nbb := h.nbb
    cbb := h.cbb
    g := h.g.keeps K fun k e e' => h.sg k (hS k e') e
    t := h.t.keeps K fun k e e' => h.st k (hS k e') e
    ids := K.own h.ids fun k e e' => by
      obtain ⟨_, cur, hB⟩ := own_blk h.ids e
      exact map_ne h.map hB e'
    map := by
      show World.ownsMap _ _ _ _ _ (m.ks ++ [id]).length (mapD (m.ks ++ [id]))
      rw [List.length_append, List.length_singleton, mapD_snoc]
      exact hm
    cov := map_keep h.cov K fun e => h.nc e.symm
    at_ := h.at_
    row := fun j => K.own (h.row j) fun k e e' => by
      obtain ⟨_, cur, hB⟩ := own_blk (h.row j) e
      exact map_ne h.map hB e'
    sg := h.sg
    st := h.st
    gt := h.gt
    nc := h.nc
    fd := h.fd }
/-- One more index: the graph behind Add. -/
def addX (G : Gr) (id s : Hh) (ps : List Hh) : Gr := if refE G id s ps = 0 then G ++ [addN G id ps] else G
/-- The selected parents' places. -/
def parT (T : List Nd) : List Nat := T.map Nd.par
theorem parT_len (T : List Nd) : (parT T).length = T.length := by simp [parT]
theorem parT_at {T : List Nd} {n : Nat} (h : n < T.length) : (parT T)[n]? = some (ndT T n).par := by rw [ndT_at h]; simp [parT, h]
theorem ExtT.parT {T T' : List Nd} {p : Nat} (e : ExtT T T' p) : parT T' = parT T ++ [p] := by
  apply List.ext_getElem?
  intro n
  by_cases h : n < T.length
  · rw [List.getElem?_append_left (by rw [parT_len]; exact h), parT_at h, parT_at (by rw [e.len]; omega), e.par n h]
  · by_cases h2 : n = T.length
    · subst h2
      rw [List.getElem?_append_right (by rw [parT_len]; exact Nat.le_refl _), parT_at (by rw [e.len]; omega), e.new, parT_len, Nat.sub_self]
      rfl
    · rw [List.getElem?_eq_none (by rw [parT_len, e.len]; omega), List.getElem?_eq_none (by rw [List.length_append, parT_len]; simp; omega)]
def addP (G : Gr) (id s : Hh) (ps : List Hh) (S : List Nat) : List Nat := if refE G id s ps = 0 then S ++ [plE G s] else S
def RxAdded (w : World) (base : Nat) (m : RxM) (G : Gr) (id s : Hh) (ps : List Hh) (w' : World) : Prop := ∃ m', RxTo w base m m' w' ∧ RxI m' (addX G id s ps) ∧ parT m'.t.T = addP G id s ps (parT m.t.T)
theorem refE_zero {G : Gr} {id s : Hh} {ps : List Hh} (h : refE G id s ps = 0) : addE G id ps = 0 ∧ s ∈ ps := by
  unfold refE at h
  split at h
  · next h1 =>
    refine ⟨h1, ?_⟩
    split at h
    · assumption
    · cases h
  · next h1 => exact absurd h h1
theorem addX_zero {G : Gr} {id s : Hh} {ps : List Hh} (h : refE G id s ps = 0) : addX G id s ps = addG G id ps ∧ addX G id s ps = G ++ [addN G id ps] := by
  have h1 := (refE_zero h).1
  unfold addX addG
  rw [if_pos h, if_pos h1]
  exact ⟨rfl, rfl⟩
theorem addX_no {G : Gr} {id s : Hh} {ps : List Hh} (h : refE G id s ps ≠ 0) : addX G id s ps = G := by unfold addX; rw [if_neg h]
theorem addX_len (G : Gr) (id s : Hh) (ps : List Hh) : (addX G id s ps).length ≤ G.length + 1 := by unfold addX; split <;> simp
/-- The tree behind Add. -/
theorem TrTo.ext {w w' : World} {base p : Nat} {m m' : TrM} (a : TrTo w base m p m' w') (hp : p < m.L.length) : ExtT m.T m'.T p where
  len := by rw [m'.T_len, m.T_len, a.len]
  par n hn := (a.par n (by rw [m.T_len] at hn; exact hn)).1
  new := by rw [m.T_len]; exact a.new.1
  p := by rw [m.T_len]; exact hp
end Go.Proofs.YtbfpckomgpkjgaaGreat
