/-
  dag: put: one more behind its parents (memory).
  dag: put: the hash, the node and its place (memory).
-/
import Derived.Test.YtbfpckomgpkjgaaGreatDg7
namespace Go.Proofs.YtbfpckomgpkjgaaGreat
open Go.RowKit Go.Maps

def kidF (A : Option Addr) (c : Nat) (ks : List Nat) (x : NodeM) : NodeM := { x with kA := A, kc := c, kids := ks }
def GrM.setKid (m : GrM) (p : Nat) (A : Option Addr) (c : Nat) (ks : List Nat) : GrM := { m with L := m.L.modify p (kidF A c ks) }
theorem setKid_len (m : GrM) (p : Nat) (A : Option Addr) (c : Nat) (ks : List Nat) : (m.setKid p A c ks).L.length = m.L.length := by simp [GrM.setKid]
theorem setKid_at (m : GrM) (p : Nat) (A : Option Addr) (c : Nat) (ks : List Nat) {i : Nat} (h : i < (m.setKid p A c ks).L.length) : (m.setKid p A c ks).L[i] = if p = i then kidF A c ks (m.L[i]'(by rw [setKid_len] at h; exact h)) else m.L[i]'(by rw [setKid_len] at h; exact h) := by
  have h' : i < (m.L.modify p (kidF A c ks)).length := h
  exact List.getElem_modify _ _ _ _ h'
theorem setKid_mem {m : GrM} {p : Nat} {A : Option Addr} {c : Nat} {ks : List Nat} {x : NodeM} (h : x ∈ (m.setKid p A c ks).L) : ∃ i, ∃ hi : i < m.L.length, x = if p = i then kidF A c ks m.L[i] else m.L[i] := by
  obtain ⟨i, hi, rfl⟩ := List.getElem_of_mem h
  exact ⟨i, by rw [setKid_len] at hi; exact hi, setKid_at m p A c ks hi⟩
/-- One cell of an own row is set. -/
theorem own_setK {w : World} {base size n c : Nat} {e : TypeId} {A : Option Addr} {xs : List Value} (h : w.ownsRow base e size (.slice A n c) n xs) {k : Nat} (hk : k < xs.length) {g : Nat} (hA : A = some ⟨g, 0, none⟩) (u : Value) : (w.setCell ⟨g, k, none⟩ u).ownsRow base e size (.slice A n c) n (xs.set k u) := by
  have hl := h.1
  rcases h.2 with ⟨hv, h0⟩ | ⟨g', cap, cur, hv, hb, hh, hnc, hcm, hcs, ht⟩
  · subst h0; omega
  · have hg : Blk w g' e cur := hh
    injection hv with hA' _ hc'
    rw [hA] at hA'
    injection hA' with hA'
    injection hA' with hA'
    subst hA' hc'
    refine ⟨by rw [List.length_set]; exact hl, .inr ⟨g, c, cur.setIfInBounds k u, by rw [hA], hb, hg.set k u, hnc, hcm, by simpa using hcs, ?_⟩⟩
    rw [← ht, Array.toList_setIfInBounds, List.take_set]
theorem ndsC_append (l m : List NodeM) : ndsC (l ++ m) = ndsC l ++ ndsC m := by simp [ndsC]
theorem ndsC_kid (L : List NodeM) (p : Nat) (hp : p < L.length) (A : Option Addr) (c : Nat) (ks : List Nat) : (ndsC L).set (p * 3 + 1) (.slice A ks.length c) = ndsC (L.modify p (kidF A c ks)) := by
  have e1 : L = L.take p ++ L[p] :: L.drop (p + 1) := by rw [List.getElem_cons_drop, List.take_append_drop]
  have e2 : L.modify p (kidF A c ks) = L.take p ++ kidF A c ks L[p] :: L.drop (p + 1) := by rw [List.modify_eq_take_cons_drop hp]
  have hl : (ndsC (L.take p)).length = p * 3 := by rw [ndsC_len, List.length_take]; omega
  rw [e2, ndsC_append]
  conv => lhs; rw [e1, ndsC_append]
  rw [List.set_append_right _ _ (by omega), hl]
  congr 1
  have e3 : p * 3 + 1 - p * 3 = 1 := by omega
  rw [e3]
  rfl
theorem ro_setKid (m : GrM) (p : Nat) (A : Option Addr) (c : Nat) (ks : List Nat) (k : Nat) : ro (m.setKid p A c ks) k ↔ ro m k := by
  constructor
  · rintro ⟨x, hx, h⟩
    obtain ⟨i, hi, rfl⟩ := setKid_mem hx
    refine ⟨m.L[i], List.getElem_mem hi, ?_⟩
    split at h <;> exact h
  · rintro ⟨x, hx, h⟩
    obtain ⟨i, hi, rfl⟩ := List.getElem_of_mem hx
    have hi' : i < (m.setKid p A c ks).L.length := by rw [setKid_len]; exact hi
    refine ⟨(m.setKid p A c ks).L[i], List.getElem_mem hi', ?_⟩
    rw [setKid_at]
    split <;> exact h
theorem foot_setKid {m : GrM} {p : Nat} {A : Option Addr} {c : Nat} {ks : List Nat} {k : Nat} (h : foot (m.setKid p A c ks) k) : foot m k ∨ A.map Addr.block = some k := by
  rcases h with h | h | h | h | ⟨x, hx, h⟩
  · exact .inl (.inl h)
  · exact .inl (.inr (.inl h))
  · exact .inl (.inr (.inr (.inl h)))
  · exact .inl (.inr (.inr (.inr (.inl h))))
  · obtain ⟨i, hi, rfl⟩ := setKid_mem hx
    split at h
    · exact .inr h
    · exact .inl (.inr (.inr (.inr (.inr ⟨_, List.getElem_mem hi, h⟩))))
/-- The blocks that lie below what a graph touches. -/
theorem GrOk.push {w w1 : World} {base : Nat} {m : GrM} (h : GrOk w base m) {p : Nat} (hp : p < m.L.length) (k1 : Keeps (fun k => m.L[p].kA.map Addr.block = some k) w w1) {A : Option Addr} {c : Nat} {ks : List Nat}
    (ho : w1.ownsRow base 3 1 (.slice A ks.length c) ks.length (iC ks)) (hn : ∀ k, A.map Addr.block = some k → m.L[p].kA.map Addr.block = some k ∨ w.heap.size ≤ k) {gn : Nat} (hA : m.nA = some ⟨gn, 0, none⟩) :
    GrOk (w1.setCell ⟨gn, p * 3 + 1, none⟩ (.slice A ks.length c)) base (m.setKid p A c ks) ∧ Keeps (foot m) w (w1.setCell ⟨gn, p * 3 + 1, none⟩ (.slice A ks.length c)) ∧ ∀ k, foot (m.setKid p A c ks) k → foot m k ∨ w.heap.size ≤ k := by
  have hfk : ∀ k, m.L[p].kA.map Addr.block = some k → foot m k := fun k e => .inr (.inr (.inr (.inr ⟨_, List.getElem_mem hp, e⟩)))
  -- blocks of other element types are none of the children's
  have hne : ∀ {k : Nat} {t : TypeId} {cur : Array Value}, Blk w k t cur → t ≠ 3 → ¬ m.L[p].kA.map Addr.block = some k := fun hb ht e => by
    obtain ⟨_, cur', hb'⟩ := own_blk (h.kid _ (List.getElem_mem hp)) e
    unfold Blk at hb hb'
    rw [hb'] at hb
    injection hb with hb
    injection hb with _ hb _
    exact ht hb.symm
  have hnb : w1.ownsRow base 119 3 (.slice m.nA m.L.length m.nc) m.L.length (ndsC m.L) := k1.own h.nds fun k e => by obtain ⟨_, cur, hb⟩ := own_blk h.nds e; exact hne hb (by decide)
  obtain ⟨_, cur, hgn⟩ := own_blk hnb (k := gn) (by rw [hA]; rfl)
  have hgn0 : ∃ cur, Blk w gn 119 cur := (own_blk h.nds (k := gn) (by rw [hA]; rfl)).2
  have hk2 : Keeps (fun k => k = gn) w1 (w1.setCell ⟨gn, p * 3 + 1, none⟩ (.slice A ks.length c)) := (Keeps.refl (fun k => k = gn) w1).setCell (p := ⟨gn, p * 3 + 1, none⟩) rfl _
  have hgf : foot m gn := .inr (.inr (.inr (.inl (by rw [hA]; rfl))))
  have hk : Keeps (foot m) w (w1.setCell ⟨gn, p * 3 + 1, none⟩ (.slice A ks.length c)) := (k1.mono fun k _ e => hfk k e).trans (hk2.mono fun k _ e => by rw [e]; exact hgf)
  -- another block of the graph's
  have hoth : ∀ {k : Nat} {t : TypeId} {cur : Array Value}, Blk w k t cur → t ≠ 3 → t ≠ 119 → Blk (w1.setCell ⟨gn, p * 3 + 1, none⟩ (.slice A ks.length c)) k t cur := fun hb h1 h2 => by
    have hb1 := hb.keeps k1 (hne hb h1)
    refine hb1.far (p := ⟨gn, p * 3 + 1, none⟩) (fun e => ?_) _
    obtain ⟨cur', hb'⟩ := hgn0
    have e' : gn = _ := e.symm
    rw [e'] at hb'
    unfold Blk at hb hb'
    rw [hb'] at hb
    injection hb with hb
    injection hb with _ hb _
    exact h2 hb.symm
  have hsz := hk.size
  refine ⟨⟨?_, h.qb, h.mbb, ?_, ?_, ?_, ?_, ?_, ?_, ?_, ?_⟩, hk, fun k hf => ?_⟩
  · rw [setKid_len]; exact hoth h.b (by decide) (by decide)
  · rcases h.ids with ⟨hl, hv | ⟨g, cap, cs, hv, hb, hh, r⟩⟩
    · exact ⟨hl, .inl hv⟩
    · exact ⟨hl, .inr ⟨g, cap, cs, hv, hb, hoth (show Blk w g _ cs from hh) (by decide) (by decide), r⟩⟩
  · rw [setKid_len]
    have h2 := own_setK hnb (k := p * 3 + 1) (by rw [ndsC_len]; omega) hA (.slice A ks.length c)
    rw [ndsC_kid m.L p hp] at h2
    exact h2
  · have h1 : w1.ownsMap Tryz.prog 23 (plainElem Tryz.prog 3) m.mb m.ks.length (mapD m.ks) := k1.map h.map fun e => by
      obtain ⟨_, cur', hb'⟩ := own_blk (h.kid _ (List.getElem_mem hp)) e
      obtain ⟨es, clock, hb, _⟩ := h.map
      unfold Blk at hb'
      rw [hb] at hb'
      cases hb'
    refine hk2.map h1 fun e => ?_
    obtain ⟨es, clock, hb, _⟩ := h1
    have e' : m.mb = gn := e
    rw [e'] at hb
    unfold Blk at hgn
    rw [hgn] at hb
    cases hb
  · intro x hx
    obtain ⟨i, hi, rfl⟩ := setKid_mem hx
    have h1 := ((hk.sees (h.par _ (List.getElem_mem hi)) fun h0 k e hf => h.sep k hf ⟨_, List.getElem_mem hi, .inl ⟨fun h1 => h0 (by rw [h1]; rfl), e⟩⟩)).more hsz
    split <;> exact h1
  · intro x hx
    obtain ⟨i, hi, rfl⟩ := setKid_mem hx
    have h1 := ((hk.sees (h.row _ (List.getElem_mem hi)) fun h0 k e hf => h.sep k hf ⟨_, List.getElem_mem hi, .inr ⟨fun h1 => h0 (by rw [h1]; rfl), e⟩⟩)).more hsz
    split <;> exact h1
  · intro x hx
    obtain ⟨i, hi, rfl⟩ := setKid_mem hx
    split
    · exact own_store ho hgn (by decide) _ _
    · next hne' =>
      have h1 : w1.ownsRow base 3 1 (.slice m.L[i].kA m.L[i].kids.length m.L[i].kc) m.L[i].kids.length (iC m.L[i].kids) := k1.own (h.kid _ (List.getElem_mem hi)) fun k e e' => h.kd p i hp hi hne' k e' e
      exact own_store h1 hgn (by decide) _ _
  · intro k hf hr
    rw [ro_setKid] at hr
    rcases foot_setKid hf with hf | e
    · exact h.sep k hf hr
    · rcases hn k e with e2 | e2
      · exact h.sep k (hfk k e2) hr
      · have := h.tlt (.inr hr); omega
  · intro i j hi hj hij k e1 e2
    rw [setKid_at] at e1 e2
    have hi' : i < m.L.length := by rw [setKid_len] at hi; exact hi
    have hj' : j < m.L.length := by rw [setKid_len] at hj; exact hj
    have key : ∀ a b (ha : a < m.L.length) (hb : b < m.L.length), a = p → b ≠ p → A.map Addr.block = some k → m.L[b].kA.map Addr.block = some k → False := fun a b ha hb h1 h2 h3 h4 => by
      rcases hn k h3 with e | e
      · exact h.kd p b hp hb (fun e => h2 e.symm) k e h4
      · have := (h.lt (.inr (.inr (.inr (.inr ⟨_, List.getElem_mem hb, h4⟩))))).2; omega
    by_cases hpi : p = i
    · rw [if_pos hpi] at e1
      rw [if_neg (fun e => hij (hpi.symm.trans e))] at e2
      exact key i j hi' hj' hpi.symm (fun e => hij (hpi.symm.trans e.symm)) e1 e2
    · rw [if_neg hpi] at e1
      by_cases hpj : p = j
      · rw [if_pos hpj] at e2
        exact key j i hj' hi' hpj.symm (fun e => hpi e.symm) e2 e1
      · rw [if_neg hpj] at e2
        exact h.kd i j hi' hj' hij k e1 e2
  · rcases foot_setKid hf with hf | e
    · exact .inl hf
    · rcases hn k e with e2 | e2
      · exact .inl (hfk k e2)
      · exact .inr e2
end Go.Proofs.YtbfpckomgpkjgaaGreat

namespace Go.Proofs.YtbfpckomgpkjgaaGreat
open Go.RowKit Go.Maps

theorem blk_tag {w : World} {k : Nat} {t t' : TypeId} {cur cur' : Array Value} (h : Blk w k t cur) (h' : Blk w k t' cur') : t = t' := by
  unfold Blk at h h'
  rw [h'] at h
  injection h with h
  injection h with _ h _
  exact h.symm
theorem own_tag {w : World} {base size n c k : Nat} {e t : TypeId} {A : Option Addr} {xs : List Value} {cur : Array Value} (h : w.ownsRow base e size (.slice A n c) n xs) (hb : Blk w k t cur) (hne : e ≠ t) : ¬ A.map Addr.block = some k := fun e' => by
  obtain ⟨_, cur', hb'⟩ := own_blk h e'
  exact hne (blk_tag hb' hb)
theorem own_apart2 {w : World} {base size n c k base' size' n' c' : Nat} {e e' : TypeId} {A A' : Option Addr} {xs xs' : List Value} (h : w.ownsRow base e size (.slice A n c) n xs) (h' : w.ownsRow base' e' size' (.slice A' n' c') n' xs') (hne : e ≠ e') (h1 : A.map Addr.block = some k) : ¬ A'.map Addr.block = some k := fun h2 => by
  obtain ⟨_, cur, hb⟩ := own_blk h h1
  obtain ⟨_, cur', hb'⟩ := own_blk h' h2
  exact hne (blk_tag hb hb')
theorem map_tag {w : World} {P : Program} {kt : TypeId} {R : Value → Option (DataW Unit × List MemPlace)} {b n : Nat} {D : DataW Unit} {t : TypeId} {cur : Array Value} (h : w.ownsMap P kt R b n D) (hb : Blk w b t cur) : False := by
  obtain ⟨es, clock, hm, _⟩ := h
  unfold Blk at hb
  rw [hb] at hm
  cases hm
/-- A graph whose hashes have one more. -/
def GrM.addId (m : GrM) (A : Option Addr) (c : Nat) (id : Hh) : GrM := { m with iA := A, ic := c, ids := m.ids ++ [id] }
theorem GrOk.addId {w w1 : World} {base : Nat} {m : GrM} (h : GrOk w base m) (k1 : Keeps (fun k => m.iA.map Addr.block = some k) w w1) {A : Option Addr} {c : Nat} {id : Hh}
    (ho : w1.ownsRow base 23 32 (.slice A (m.ids.length + 1) c) (m.ids.length + 1) (hsC (m.ids ++ [id]))) (hn : ∀ k, A.map Addr.block = some k → m.iA.map Addr.block = some k ∨ w.heap.size ≤ k) :
    GrOk (w1.setCell ⟨m.q, 0, none⟩ (.slice A (m.ids.length + 1) c)) base (m.addId A c id) ∧ Keeps (foot m) w (w1.setCell ⟨m.q, 0, none⟩ (.slice A (m.ids.length + 1) c)) ∧ ∀ k, foot (m.addId A c id) k → foot m k ∨ w.heap.size ≤ k := by
  have hk2 : Keeps (fun k => k = m.q) w1 (w1.setCell ⟨m.q, 0, none⟩ (.slice A (m.ids.length + 1) c)) := (Keeps.refl (fun k => k = m.q) w1).setCell (p := ⟨m.q, 0, none⟩) rfl _
  have hk : Keeps (foot m) w (w1.setCell ⟨m.q, 0, none⟩ (.slice A (m.ids.length + 1) c)) := (k1.mono fun k _ e => .inr (.inr (.inl e))).trans (hk2.mono fun k _ e => .inl e)
  have hb1 : Blk w1 m.q 104 #[.slice m.iA m.ids.length m.ic, .slice m.nA m.L.length m.nc, .map (some m.mb)] := h.b.keeps k1 (own_tag h.ids h.b (by decide))
  have hsz := hk.size
  have hff : ∀ k, foot (m.addId A c id) k → foot m k ∨ w.heap.size ≤ k := fun k hf => by
    rcases hf with hf | hf | e | hf | hf
    · exact .inl (.inl hf)
    · exact .inl (.inr (.inl hf))
    · exact (hn k e).imp (fun e => .inr (.inr (.inl e))) (fun e => e)
    · exact .inl (.inr (.inr (.inr (.inl hf))))
    · exact .inl (.inr (.inr (.inr (.inr hf))))
  refine ⟨⟨?_, h.qb, h.mbb, ?_, ?_, ?_, ?_, ?_, ?_, ?_, h.kd⟩, hk, hff⟩
  · have := hb1.set 0 (.slice A (m.ids.length + 1) c)
    show Blk _ _ _ #[.slice A (m.ids ++ [id]).length c, _, _]
    rw [List.length_append]
    exact this
  · show World.ownsRow _ base _ 32 (.slice A (m.ids ++ [id]).length c) (m.ids ++ [id]).length (hsC (m.ids ++ [id]))
    rw [List.length_append]
    exact own_store ho hb1 (by decide) _ _
  · exact own_store (k1.own h.nds fun k e => own_apart2 h.nds h.ids (by decide) e) hb1 (by decide) _ _
  · exact hk2.map (k1.map h.map fun e => by obtain ⟨_, cur, hb⟩ := own_blk h.ids e; exact map_tag h.map hb) fun e => by
      have hb := h.b
      have hm := h.map
      rw [show m.mb = m.q from e] at hm
      exact map_tag hm hb
  · exact fun x hx => (hk.sees (h.par x hx) fun h0 k e hf => h.sep k hf ⟨x, hx, .inl ⟨fun h1 => h0 (by rw [h1]; rfl), e⟩⟩).more hsz
  · exact fun x hx => (hk.sees (h.row x hx) fun h0 k e hf => h.sep k hf ⟨x, hx, .inr ⟨fun h1 => h0 (by rw [h1]; rfl), e⟩⟩).more hsz
  · exact fun x hx => own_store (k1.own (h.kid x hx) fun k e => own_apart2 (h.kid x hx) h.ids (by decide) e) hb1 (by decide) _ _
  · intro k hf hr
    have hr' : ro m k := hr
    rcases hff k hf with hf | e
    · exact h.sep k hf hr'
    · have := h.tlt (.inr hr'); omega
/-- A graph that has one node more. -/
def GrM.addNode (m : GrM) (A : Option Addr) (c : Nat) (x : NodeM) : GrM := { m with nA := A, nc := c, L := m.L ++ [x] }
theorem GrOk.addNode {w w1 : World} {base : Nat} {m : GrM} (h : GrOk w base m) (k1 : Keeps (fun k => m.nA.map Addr.block = some k) w w1) {A : Option Addr} {c : Nat} {x : NodeM}
    (ho : w1.ownsRow base 119 3 (.slice A (m.L.length + 1) c) (m.L.length + 1) (ndsC (m.L ++ [x]))) (hn : ∀ k, A.map Addr.block = some k → m.nA.map Addr.block = some k ∨ w.heap.size ≤ k)
    (hp : SeesV w w.heap.size x.pA (iC x.par)) (hr : SeesV w w.heap.size x.rA (uC x.row)) (hpf : x.par ≠ [] → ∀ k, x.pA.map Addr.block = some k → ¬ foot m k) (hrf : x.row ≠ [] → ∀ k, x.rA.map Addr.block = some k → ¬ foot m k)
    (hk0 : x.kA = none) (hk1 : x.kids = []) (hk3 : x.kc = 0) :
    GrOk (w1.setCell ⟨m.q, 1, none⟩ (.slice A (m.L.length + 1) c)) base (m.addNode A c x) ∧ Keeps (foot m) w (w1.setCell ⟨m.q, 1, none⟩ (.slice A (m.L.length + 1) c)) ∧ ∀ k, foot (m.addNode A c x) k → foot m k ∨ w.heap.size ≤ k := by
  have hk2 : Keeps (fun k => k = m.q) w1 (w1.setCell ⟨m.q, 1, none⟩ (.slice A (m.L.length + 1) c)) := (Keeps.refl (fun k => k = m.q) w1).setCell (p := ⟨m.q, 1, none⟩) rfl _
  have hk : Keeps (foot m) w (w1.setCell ⟨m.q, 1, none⟩ (.slice A (m.L.length + 1) c)) := (k1.mono fun k _ e => .inr (.inr (.inr (.inl e)))).trans (hk2.mono fun k _ e => .inl e)
  have hb1 : Blk w1 m.q 104 #[.slice m.iA m.ids.length m.ic, .slice m.nA m.L.length m.nc, .map (some m.mb)] := h.b.keeps k1 (own_tag h.nds h.b (by decide))
  have hsz := hk.size
  have hff : ∀ k, foot (m.addNode A c x) k → foot m k ∨ w.heap.size ≤ k := fun k hf => by
    rcases hf with hf | hf | hf | e | ⟨y, hy, hf⟩
    · exact .inl (.inl hf)
    · exact .inl (.inr (.inl hf))
    · exact .inl (.inr (.inr (.inl hf)))
    · exact (hn k e).imp (fun e => .inr (.inr (.inr (.inl e)))) (fun e => e)
    · rcases List.mem_append.1 hy with hy | hy
      · exact .inl (.inr (.inr (.inr (.inr ⟨y, hy, hf⟩))))
      · have : y = x := by simpa using hy
        subst this
        rw [hk0] at hf; cases hf
  refine ⟨⟨?_, h.qb, h.mbb, ?_, ?_, ?_, ?_, ?_, ?_, ?_, ?_⟩, hk, hff⟩
  · have := hb1.set 1 (.slice A (m.L.length + 1) c)
    show Blk _ _ _ #[_, .slice A (m.L ++ [x]).length c, _]
    rw [List.length_append]
    exact this
  · exact own_store (k1.own h.ids fun k e => own_apart2 h.ids h.nds (by decide) e) hb1 (by decide) _ _
  · show World.ownsRow _ base _ 3 (.slice A (m.L ++ [x]).length c) (m.L ++ [x]).length (ndsC (m.L ++ [x]))
    rw [List.length_append]
    exact own_store ho hb1 (by decide) _ _
  · exact hk2.map (k1.map h.map fun e => by obtain ⟨_, cur, hb⟩ := own_blk h.nds e; exact map_tag h.map hb) fun e => by
      have hb := h.b
      have hm := h.map
      rw [show m.mb = m.q from e] at hm
      exact map_tag hm hb
  · intro y hy
    rcases List.mem_append.1 hy with hy | hy
    · exact (hk.sees (h.par y hy) fun h0 k e hf => h.sep k hf ⟨y, hy, .inl ⟨fun h1 => h0 (by rw [h1]; rfl), e⟩⟩).more hsz
    · have : y = x := by simpa using hy
      subst this
      exact (hk.sees hp fun h0 k e => hpf (fun h1 => h0 (by rw [h1]; rfl)) k e).more hsz
  · intro y hy
    rcases List.mem_append.1 hy with hy | hy
    · exact (hk.sees (h.row y hy) fun h0 k e hf => h.sep k hf ⟨y, hy, .inr ⟨fun h1 => h0 (by rw [h1]; rfl), e⟩⟩).more hsz
    · have : y = x := by simpa using hy
      subst this
      exact (hk.sees hr fun h0 k e => hrf (fun h1 => h0 (by rw [h1]; rfl)) k e).more hsz
  · intro y hy
    rcases List.mem_append.1 hy with hy | hy
    · exact own_store (k1.own (h.kid y hy) fun k e => own_apart2 (h.kid y hy) h.nds (by decide) e) hb1 (by decide) _ _
    · have : y = x := by simpa using hy
      subst this
      rw [hk0, hk1, hk3]
      exact World.ownsRow_nil _ _ _ _
  · intro k hf hr'
    obtain ⟨y, hy, hr'⟩ := hr'
    rcases List.mem_append.1 hy with hy | hy
    · rcases hff k hf with hf | e
      · exact h.sep k hf ⟨y, hy, hr'⟩
      · have := h.tlt (.inr ⟨y, hy, hr'⟩); omega
    · have : y = x := by simpa using hy
      subst this
      rcases hr' with ⟨h0, e⟩ | ⟨h0, e⟩
      · rcases hff k hf with hf | e2
        · exact hpf h0 k e hf
        · have := sees_lt hp (fun h1 => h0 (by cases hq : y.par <;> simp_all [iC])) e; omega
      · rcases hff k hf with hf | e2
        · exact hrf h0 k e hf
        · have := sees_lt hr (fun h1 => h0 (by cases hq : y.row <;> simp_all [uC])) e; omega
  · intro i j hi hj hij k e1 e2
    have hl : (m.addNode A c x).L.length = m.L.length + 1 := by show (m.L ++ [x]).length = _; simp
    have get : ∀ i (hi : i < (m.addNode A c x).L.length), (m.addNode A c x).L[i].kA.map Addr.block = some k → ∃ hi' : i < m.L.length, m.L[i].kA.map Addr.block = some k := fun i hi e => by
      by_cases h1 : i < m.L.length
      · refine ⟨h1, ?_⟩
        have h2 : (m.addNode A c x).L[i] = m.L[i] := List.getElem_append_left h1
        rw [h2] at e; exact e
      · have h3 : i = m.L.length := by omega
        subst h3
        have hi2 : m.L.length < (m.L ++ [x]).length := by simp
        have h2 : ((m.addNode A c x).L[m.L.length]'hi) = x := List.getElem_concat_length rfl hi2
        rw [h2, hk0] at e; cases e
    obtain ⟨hi', e1'⟩ := get i hi e1
    obtain ⟨hj', e2'⟩ := get j hj e2
    exact h.kd i j hi' hj' hij k e1' e2'
/-- A graph whose map has one more. -/
def GrM.addKey (m : GrM) (id : Hh) : GrM := { m with ks := m.ks ++ [id] }
theorem GrOk.addKey {w w1 : World} {base : Nat} {m : GrM} (h : GrOk w base m) {id : Hh} (hg : w.grownBy w1 (some m.mb)) (hm : w1.ownsMap Tryz.prog 23 (plainElem Tryz.prog 3) m.mb (m.ks.length + 1) ((mapD m.ks).put (hKey id) (.lit (.int .i64 (m.ks.length : Int))))) :
    GrOk w1 base (m.addKey id) ∧ Keeps (foot m) w w1 := by
  have hk : Keeps (fun k => k = m.mb) w w1 := Keeps.grown (Keeps.refl _ w) hg (fun k e => by injection e with e; exact e.symm)
  have hk' : Keeps (foot m) w w1 := hk.mono fun k _ e => .inr (.inl e)
  have hsz := hk.size
  have hno : ∀ {k : Nat} {t : TypeId} {cur : Array Value}, Blk w k t cur → k ≠ m.mb := fun hb e => by subst e; exact map_tag h.map hb
  refine ⟨⟨h.b.keeps hk (hno h.b), h.qb, h.mbb, ?_, ?_, ?_, ?_, ?_, ?_, h.sep, h.kd⟩, hk'⟩
  · exact hk.own h.ids fun k e => by obtain ⟨_, cur, hb⟩ := own_blk h.ids e; exact hno hb
  · exact hk.own h.nds fun k e => by obtain ⟨_, cur, hb⟩ := own_blk h.nds e; exact hno hb
  · show World.ownsMap _ _ _ _ m.mb (m.ks ++ [id]).length (mapD (m.ks ++ [id]))
    rw [List.length_append, mapD_snoc]
    exact hm
  · exact fun x hx => (hk'.sees (h.par x hx) fun h0 k e hf => h.sep k hf ⟨x, hx, .inl ⟨fun h1 => h0 (by rw [h1]; rfl), e⟩⟩).more hsz
  · exact fun x hx => (hk'.sees (h.row x hx) fun h0 k e hf => h.sep k hf ⟨x, hx, .inr ⟨fun h1 => h0 (by rw [h1]; rfl), e⟩⟩).more hsz
  · exact fun x hx => hk.own (h.kid x hx) fun k e => by obtain ⟨_, cur, hb⟩ := own_blk (h.kid x hx) e; exact hno hb
end Go.Proofs.YtbfpckomgpkjgaaGreat
