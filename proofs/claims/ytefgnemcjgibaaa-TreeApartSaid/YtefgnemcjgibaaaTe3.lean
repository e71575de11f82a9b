/-
  tree: a tree in memory.
-/
import Derived.Test.YtefgnemcjgibaaaTe2
import Derived.Test.YtefgnemcjgibaaaVals
import Derived.Deep.MidRow
import Derived.Deep.OwnRows
import Derived.BigQuiet
import Derived.Deep.Quiet
import Derived.Test.YtefgnemcjgibaaaRk
import Derived.Test.YtefgnemcjgibaaaChecked
namespace Go.Proofs.Ytefgnemcjgibaaa
open Go.RowKit

theorem town_row {w : World} {base size n c : Nat} {e : TypeId} {A : Option Addr} {xs : List Value} (h : w.ownsRow base e size (.slice A n c) n xs) (h0 : 0 < xs.length) : ∃ g, A = some ⟨g, 0, none⟩ ∧ base ≤ g ∧ g < w.heap.size ∧ ∀ i v, xs[i]? = some v → w.cell? ⟨g, i, none⟩ = some v ∧ w.frozen? ⟨g, i, none⟩ = false := by
  have hl := h.1
  rcases h.2 with ⟨hv, hn⟩ | ⟨g, cap, cur, hv, hb, hh, hnc, hcm, hcs, ht⟩
  · subst hn; omega
  · have hg : Blk w g e cur := hh
    injection hv with hA _ _
    refine ⟨g, hA, hb, hg.lt, fun i v hi => ⟨?_, hg.frozen i⟩⟩
    obtain ⟨h1, h2⟩ := List.getElem?_eq_some_iff.1 hi
    rw [hg.cell i]
    have e1 : (cur.toList.take (n * size))[i]? = some v := by rw [ht]; exact hi
    rw [List.getElem?_take, if_pos (by omega)] at e1
    simpa using e1
theorem town_set {w : World} {base size n c : Nat} {e : TypeId} {A : Option Addr} {xs : List Value} (h : w.ownsRow base e size (.slice A n c) n xs) {k : Nat} (hk : k < xs.length) {g : Nat} (hA : A = some ⟨g, 0, none⟩) (u : Value) : (w.setCell ⟨g, k, none⟩ u).ownsRow base e size (.slice A n c) n (xs.set k u) := by
  have hl := h.1
  rcases h.2 with ⟨hv, h0⟩ | ⟨g', cap, cur, hv, hb, hh, hnc, hcm, hcs, ht⟩
  · subst h0; omega
  · have hg : Blk w g' e cur := hh
    injection hv with hA' _ hc'
    rw [hA] at hA'
    injection hA' with hA'
    injection hA' with hA'
    subst hA' hc'
    refine ⟨by rw [List.length_set]; exact hl, .inr ⟨g, c, cur.setIfInBounds k u, by rw [hA], hb, hg.set k u, hnc, hcm, by simpa using hcs, ?_⟩⟩
    rw [← ht, Array.toList_setIfInBounds, List.take_set]
theorem tblk_tag {w : World} {k : Nat} {t t' : TypeId} {cur cur' : Array Value} (h : Blk w k t cur) (h' : Blk w k t' cur') : t = t' := by
  unfold Blk at h h'
  rw [h'] at h
  injection h with h
  injection h with _ h _
  exact h.symm
theorem town_blk {w : World} {base size n c : Nat} {e : TypeId} {A : Option Addr} {xs : List Value} (h : w.ownsRow base e size (.slice A n c) n xs) {k : Nat} (hk : A.map Addr.block = some k) : base ≤ k ∧ ∃ cur, Blk w k e cur := by
  rcases h.2 with ⟨hv, h0⟩ | ⟨g, cap, cur, hv, hb, hh, hnc, r⟩
  · injection hv with hA; subst hA; cases hk
  · injection hv with hA _ _; subst hA; cases hk; exact ⟨hb, cur, hh⟩
theorem town_map (A : Option Addr) (n c : Nat) : (Value.slice A n c).ownBlock = A.map Addr.block := by cases A <;> rfl
theorem town_tag {w : World} {base size n c k : Nat} {e t : TypeId} {A : Option Addr} {xs : List Value} {cur : Array Value} (h : w.ownsRow base e size (.slice A n c) n xs) (hb : Blk w k t cur) (hne : e ≠ t) : ¬ A.map Addr.block = some k := fun e' => by
  obtain ⟨_, cur', hb'⟩ := town_blk h e'
  exact hne (tblk_tag hb' hb)
theorem town_apart {w : World} {base size n c k base' size' n' c' : Nat} {e e' : TypeId} {A A' : Option Addr} {xs xs' : List Value} (h : w.ownsRow base e size (.slice A n c) n xs) (h' : w.ownsRow base' e' size' (.slice A' n' c') n' xs') (hne : e ≠ e') (h1 : A.map Addr.block = some k) : ¬ A'.map Addr.block = some k := fun h2 => by
  obtain ⟨_, cur, hb⟩ := town_blk h h1
  obtain ⟨_, cur', hb'⟩ := town_blk h' h2
  exact hne (tblk_tag hb hb')
theorem tKeeps_own {S : Nat → Prop} {w w' : World} {base size n c : Nat} {e : TypeId} {A : Option Addr} {xs : List Value} (hk : Keeps S w w') (h : w.ownsRow base e size (.slice A n c) n xs) (hS : ∀ k, A.map Addr.block = some k → ¬ S k) : w'.ownsRow base e size (.slice A n c) n xs := by
  refine ⟨h.1, ?_⟩
  rcases h.2 with h0 | ⟨g, cap, cur, hv, hb, hh, r⟩
  · exact .inl h0
  · refine .inr ⟨g, cap, cur, hv, hb, ?_, r⟩
    injection hv with hA _ _
    exact (hk.block g (Blk.lt hh) (hS g (by rw [hA]; rfl))).trans hh
/-- A fixed size's cells at one place. -/
theorem tflat_get {α : Type} {f : α → List Value} {k : Nat} (hf : ∀ x, (f x).length = k) : ∀ (l : List α) (i j : Nat) (hi : i < l.length) (hj : j < k), (l.map f).flatten[i * k + j]? = (f l[i])[j]?
  | [], i, j, hi, _ => by simp at hi
  | a :: l, 0, j, _, hj => by
    rw [List.map_cons, List.flatten_cons, List.getElem?_append_left (by rw [hf]; omega)]
    simp
  | a :: l, i + 1, j, hi, hj => by
    have ih := tflat_get hf l i j (by simpa using hi) hj
    have e : (i + 1) * k + j = (f a).length + (i * k + j) := by rw [hf, Nat.add_mul]; omega
    rw [List.map_cons, List.flatten_cons, e, List.getElem?_append_right (by omega), Nat.add_sub_cancel_left, ih]
    simp
theorem tflat_len {α : Type} {f : α → List Value} {k : Nat} (hf : ∀ x, (f x).length = k) (l : List α) : (l.map f).flatten.length = l.length * k := by
  induction l with
  | nil => simp
  | cons a l ih => rw [List.map_cons, List.flatten_cons, List.length_append, hf, ih, List.length_cons, Nat.add_mul]; omega
/-- One cell of one of many is set. -/
theorem tflat_set {α : Type} {f : α → List Value} {k : Nat} (hf : ∀ x, (f x).length = k) {l : List α} {i j : Nat} (hi : i < l.length) {u : Value} {y : α} (hy : (f l[i]).set j u = f y) (hj : j < k) : (l.map f).flatten.set (i * k + j) u = ((l.set i y).map f).flatten := by
  have e1 : l = l.take i ++ l[i] :: l.drop (i + 1) := by rw [List.getElem_cons_drop, List.take_append_drop]
  have e2 : l.set i y = l.take i ++ y :: l.drop (i + 1) := by rw [List.set_eq_take_append_cons_drop, if_pos hi]
  have hl : ((l.take i).map f).flatten.length = i * k := by rw [tflat_len hf, List.length_take]; congr 1; omega
  rw [e2, List.map_append, List.flatten_append]
  conv => lhs; rw [e1, List.map_append, List.flatten_append]
  rw [List.set_append_right _ _ (by omega), hl]
  congr 1
  have e3 : i * k + j - i * k = j := by omega
  rw [e3, List.map_cons, List.map_cons, List.flatten_cons, List.flatten_cons, List.set_append_left _ _ (by rw [hf]; exact hj), hy]

def tiC (l : List Nat) : List Value := l.map fun (x : Nat) => .int .i64 (x : Int)
theorem tiC_len (l : List Nat) : (tiC l).length = l.length := by simp [tiC]
theorem tiC_get {l : List Nat} {i : Nat} (h : i < l.length) : (tiC l)[i]? = some (.int .i64 (l[i] : Int)) := by simp [tiC, h]
theorem tiC_one (l : List Nat) : ∀ u ∈ tiC l, u.oneCell' = true := by
  intro u hu
  obtain ⟨x, _, rfl⟩ := List.mem_map.1 hu
  rfl
def tuC (l : List Nat) : List Value := l.map fun (x : Nat) => .int .u64 (x : Int)
theorem tuC_len (l : List Nat) : (tuC l).length = l.length := by simp [tuC]
theorem tuC_get {l : List Nat} {i : Nat} (h : i < l.length) : (tuC l)[i]? = some (.int .u64 (gN l i : Int)) := by simp [tuC, gN, List.getD_eq_getElem?_getD, h]
theorem tuC_set (l : List Nat) (k x : Nat) : (tuC l).set k (.int .u64 (x : Int)) = tuC (l.set k x) := by unfold tuC; rw [List.map_set]
/-- A node in memory. -/
structure NdM where
  d : Nd
  kids : List Nat
  kA : Option Addr
  kc : Nat
def tndC (x : NdM) : List Value := [.int .i64 (x.d.par : Int), .int .i64 (x.d.dep : Int), .slice x.kA x.kids.length x.kc, .int .u64 (x.d.lo : Int), .int .u64 (x.d.hi : Int)]
theorem tndC_len (x : NdM) : (tndC x).length = 5 := rfl
def tnsC (l : List NdM) : List Value := (l.map tndC).flatten
theorem tnsC_len (l : List NdM) : (tnsC l).length = l.length * 5 := tflat_len tndC_len l
theorem tnsC_get (l : List NdM) (i j : Nat) (hi : i < l.length) (hj : j < 5) : (tnsC l)[i * 5 + j]? = (tndC l[i])[j]? := tflat_get tndC_len l i j hi hj
/-- A tree in memory. -/
structure TrM where
  q : Nat
  nA : Option Addr
  nc : Nat
  L : List NdM
  dl : Nat
def tfoot (m : TrM) (k : Nat) : Prop := k = m.q ∨ m.nA.map Addr.block = some k ∨ ∃ x ∈ m.L, x.kA.map Addr.block = some k
structure TrOk (w : World) (base : Nat) (m : TrM) : Prop where
  b : Blk w m.q 49 #[.slice m.nA m.L.length m.nc, .int .i64 (m.dl : Int)]
  qb : base ≤ m.q
  nds : w.ownsRow base 54 5 (.slice m.nA m.L.length m.nc) m.L.length (tnsC m.L)
  kid : ∀ x ∈ m.L, w.ownsRow base 3 1 (.slice x.kA x.kids.length x.kc) x.kids.length (tiC x.kids)
  kd : ∀ i j (hi : i < m.L.length) (hj : j < m.L.length), i ≠ j → ∀ k, m.L[i].kA.map Addr.block = some k → m.L[j].kA.map Addr.block ≠ some k
theorem TrOk.keeps {w w' : World} {base : Nat} {m : TrM} {S : Nat → Prop} (h : TrOk w base m) (hk : Keeps S w w') (hS : ∀ k, tfoot m k → ¬ S k) : TrOk w' base m where
  b := h.b.keeps hk (hS _ (.inl rfl))
  qb := h.qb
  nds := tKeeps_own hk h.nds fun k e => hS k (.inr (.inl e))
  kid x hx := tKeeps_own hk (h.kid x hx) fun k e => hS k (.inr (.inr ⟨x, hx, e⟩))
  kd := h.kd
theorem TrOk.later {w w' : World} {base : Nat} {m : TrM} (h : TrOk w base m) (hk : Below w.heap.size w w') : TrOk w' base m := h.keeps (Keeps.of_below hk (fun _ => False)) fun _ _ => id
theorem TrOk.lt {w : World} {base : Nat} {m : TrM} (h : TrOk w base m) {k : Nat} (hk : tfoot m k) : base ≤ k ∧ k < w.heap.size := by
  rcases hk with rfl | e | ⟨x, hx, e⟩
  · exact ⟨h.qb, h.b.lt⟩
  · obtain ⟨h1, cur, h2⟩ := town_blk h.nds e; exact ⟨h1, h2.lt⟩
  · obtain ⟨h1, cur, h2⟩ := town_blk (h.kid x hx) e; exact ⟨h1, h2.lt⟩
def TrM.T (m : TrM) : List Nd := m.L.map NdM.d
theorem TrM.T_len (m : TrM) : m.T.length = m.L.length := by simp [TrM.T]
theorem TrM.T_at (m : TrM) {i : Nat} (h : i < m.L.length) : ndT m.T i = m.L[i].d := by
  rw [ndT_at (by rw [m.T_len]; exact h)]
  simp [TrM.T]
/-- All is well with a tree. -/
structure TrI (m : TrM) : Prop where
  ok : OkT m.T
  iv : IvT m.T
  kids : ∀ i (h : i < m.L.length), m.L[i].kids = kidsT m.T i
  dl : m.dl < m.L.length
theorem TrI.ne {m : TrM} (h : TrI m) : 0 < m.L.length := by have := h.ok.ne; rwa [m.T_len] at this
theorem TrI.max {m : TrM} (h : TrI m) : m.L.length ≤ 1000 := by have := h.ok.max; rwa [m.T_len] at this
/-- The cells of a node. -/
theorem nd_cells {w : World} {base : Nat} {m : TrM} (h : TrOk w base m) {i : Nat} (hi : i < m.L.length) : ∃ g, m.nA = some ⟨g, 0, none⟩ ∧ g < w.heap.size ∧ base ≤ g ∧ w.cell? ⟨m.q, 0, none⟩ = some (.slice (some ⟨g, 0, none⟩) m.L.length m.nc) ∧ w.rangeAt g (i * 5) (tndC m.L[i]) := by
  obtain ⟨g, hA, hb, hg, hc⟩ := town_row h.nds (by rw [tnsC_len]; omega)
  refine ⟨g, hA, hg, hb, by rw [← hA]; exact h.b.cell 0, fun j v hv => ?_⟩
  have hj : j < 5 := by have := (List.getElem?_eq_some_iff.1 hv).1; exact this
  exact (hc (i * 5 + j) v (by rw [tnsC_get _ _ _ hi hj]; exact hv)).1
theorem nd_c {w : World} {g i : Nat} {x : NdM} (h : w.rangeAt g (i * 5) (tndC x)) : w.cell? ⟨g, i * 5, none⟩ = some (.int .i64 (x.d.par : Int)) ∧ w.cell? ⟨g, i * 5 + 1, none⟩ = some (.int .i64 (x.d.dep : Int)) ∧ w.cell? ⟨g, i * 5 + 2, none⟩ = some (.slice x.kA x.kids.length x.kc) ∧ w.cell? ⟨g, i * 5 + 3, none⟩ = some (.int .u64 (x.d.lo : Int)) ∧ w.cell? ⟨g, i * 5 + 4, none⟩ = some (.int .u64 (x.d.hi : Int)) :=
  ⟨h 0 _ rfl, h 1 _ rfl, h 2 _ rfl, h 3 _ rfl, h 4 _ rfl⟩
/-- A node's children. -/
theorem kid_cells {w : World} {base : Nat} {m : TrM} (h : TrOk w base m) {i : Nat} (hi : i < m.L.length) {j : Nat} (hj : j < m.L[i].kids.length) : ∃ g, m.L[i].kA = some ⟨g, 0, none⟩ ∧ g < w.heap.size ∧ w.cell? ⟨g, j, none⟩ = some (.int .i64 (m.L[i].kids[j] : Int)) := by
  obtain ⟨g, hA, hb, hg, hc⟩ := town_row (h.kid _ (List.getElem_mem hi)) (by rw [tiC_len]; omega)
  exact ⟨g, hA, hg, (hc j _ (tiC_get hj)).1⟩
end Go.Proofs.Ytefgnemcjgibaaa
