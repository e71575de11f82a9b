/-
  tree: from one tree in memory to the next.
-/
import Derived.Test.YtbfpckomgpkjgaaGreatTe6
namespace Go.Proofs.YtbfpckomgpkjgaaGreat
open Go.RowKit

def TrM.addN (m : TrM) (A : Option Addr) (c : Nat) (x : NdM) : TrM := { m with nA := A, nc := c, L := m.L ++ [x] }
def TrM.setN (m : TrM) (p : Nat) (y : NdM) : TrM := { m with L := m.L.set p y }
theorem TrM.addN_T (m : TrM) (A : Option Addr) (c : Nat) (x : NdM) : (m.addN A c x).T = m.T ++ [x.d] := by simp [TrM.T, TrM.addN]
theorem TrM.setN_T (m : TrM) (p : Nat) (y : NdM) : (m.setN p y).T = m.T.set p y.d := by simp [TrM.T, TrM.setN, List.map_set]
theorem TrM.setN_len (m : TrM) (p : Nat) (y : NdM) : (m.setN p y).L.length = m.L.length := by simp [TrM.setN]
theorem TrM.setN_at (m : TrM) (p : Nat) (y : NdM) {i : Nat} (h : i < (m.setN p y).L.length) : (m.setN p y).L[i] = if p = i then y else m.L[i]'(by rw [m.setN_len] at h; exact h) := by
  simp only [TrM.setN, List.getElem_set]
theorem tnsC_app (l m : List NdM) : tnsC (l ++ m) = tnsC l ++ tnsC m := by simp [tnsC]
theorem TrOk.addN {w w1 : World} {base : Nat} {m : TrM} (h : TrOk w base m) (k1 : Keeps (fun k => m.nA.map Addr.block = some k) w w1) {A : Option Addr} {c : Nat} {x : NdM}
    (ho : w1.ownsRow base 109 5 (.slice A (m.L.length + 1) c) (m.L.length + 1) (tnsC (m.L ++ [x]))) (hn : ∀ k, A.map Addr.block = some k → m.nA.map Addr.block = some k ∨ w.heap.size ≤ k)
    (hx1 : x.kids = []) (hx2 : x.kA = none) (hx3 : x.kc = 0) :
    TrOk (w1.setCell ⟨m.q, 0, none⟩ (.slice A (m.L.length + 1) c)) base (m.addN A c x) ∧ Keeps (tfoot m) w (w1.setCell ⟨m.q, 0, none⟩ (.slice A (m.L.length + 1) c)) ∧ ∀ k, tfoot (m.addN A c x) k → tfoot m k ∨ w.heap.size ≤ k := by
  have hk2 : Keeps (fun k => k = m.q) w1 (w1.setCell ⟨m.q, 0, none⟩ (.slice A (m.L.length + 1) c)) := (Keeps.refl (fun k => k = m.q) w1).setCell (p := ⟨m.q, 0, none⟩) rfl _
  have hk : Keeps (tfoot m) w (w1.setCell ⟨m.q, 0, none⟩ (.slice A (m.L.length + 1) c)) := (k1.mono fun k _ e => .inr (.inl e)).trans (hk2.mono fun k _ e => .inl e)
  have hb1 : Blk w1 m.q 112 #[.slice m.nA m.L.length m.nc, .int .i64 (m.dl : Int)] := h.b.keeps k1 (town_tag h.nds h.b (by decide))
  have hff : ∀ k, tfoot (m.addN A c x) k → tfoot m k ∨ w.heap.size ≤ k := fun k hf => by
    rcases hf with hf | e | ⟨y, hy, hf⟩
    · exact .inl (.inl hf)
    · exact (hn k e).imp (fun e => .inr (.inl e)) (fun e => e)
    · rcases List.mem_append.1 hy with hy | hy
      · exact .inl (.inr (.inr ⟨y, hy, hf⟩))
      · have : y = x := by simpa using hy
        subst this
        rw [hx2] at hf; cases hf
  refine ⟨⟨?_, h.qb, ?_, ?_, ?_⟩, hk, hff⟩
  · have := hb1.set 0 (.slice A (m.L.length + 1) c)
    show Blk _ _ _ #[.slice A (m.L ++ [x]).length c, _]
    rw [List.length_append]
    exact this
  · show World.ownsRow _ base _ 5 (.slice A (m.L ++ [x]).length c) (m.L ++ [x]).length (tnsC (m.L ++ [x]))
    rw [List.length_append]
    exact own_store ho hb1 (by decide) _ _
  · intro y hy
    rcases List.mem_append.1 hy with hy | hy
    · exact own_store (tKeeps_own k1 (h.kid y hy) fun k e => town_apart (h.kid y hy) h.nds (by decide) e) hb1 (by decide) _ _
    · have : y = x := by simpa using hy
      subst this
      rw [hx1, hx2, hx3]
      exact ⟨rfl, .inl ⟨rfl, rfl⟩⟩
  · intro i j hi hj hne k hk1 hk3
    have hi' : i < (m.L ++ [x]).length := hi
    have hj' : j < (m.L ++ [x]).length := hj
    rw [List.length_append] at hi' hj'
    have e1 : i ≠ m.L.length := fun e => by
      subst e
      have : (m.addN A c x).L[m.L.length] = x := by simp [TrM.addN]
      rw [this, hx2] at hk1; cases hk1
    have e2 : j ≠ m.L.length := fun e => by
      subst e
      have : (m.addN A c x).L[m.L.length] = x := by simp [TrM.addN]
      rw [this, hx2] at hk3; cases hk3
    simp only [List.length_cons, List.length_nil] at hi' hj'
    have g1 : (m.addN A c x).L[i] = m.L[i]'(by omega) := List.getElem_append_left (by omega)
    have g2 : (m.addN A c x).L[j] = m.L[j]'(by omega) := List.getElem_append_left (by omega)
    rw [g1] at hk1
    rw [g2] at hk3
    exact h.kd i j (by omega) (by omega) hne k hk1 hk3
theorem tnsC_set (L : List NdM) {p j : Nat} (hp : p < L.length) (hj : j < 5) {u : Value} {y : NdM} (hy : (tndC L[p]).set j u = tndC y) : (tnsC L).set (p * 5 + j) u = tnsC (L.set p y) := tflat_set tndC_len hp hy hj
theorem TrOk.setKid {w w1 : World} {base : Nat} {m : TrM} (h : TrOk w base m) {p : Nat} (hp : p < m.L.length) (k1 : Keeps (fun k => m.L[p].kA.map Addr.block = some k) w w1) {A : Option Addr} {c : Nat} {ks : List Nat}
    (ho : w1.ownsRow base 3 1 (.slice A ks.length c) ks.length (tiC ks)) (hn : ∀ k, A.map Addr.block = some k → m.L[p].kA.map Addr.block = some k ∨ w.heap.size ≤ k) {g : Nat} (hg : m.nA = some ⟨g, 0, none⟩) :
    TrOk (w1.setCell ⟨g, p * 5 + 2, none⟩ (.slice A ks.length c)) base (m.setN p ⟨m.L[p].d, ks, A, c⟩) ∧ Keeps (tfoot m) w (w1.setCell ⟨g, p * 5 + 2, none⟩ (.slice A ks.length c)) ∧ ∀ k, tfoot (m.setN p ⟨m.L[p].d, ks, A, c⟩) k → tfoot m k ∨ w.heap.size ≤ k := by
  have hpm := List.getElem_mem hp
  have hnd1 : w1.ownsRow base 109 5 (.slice m.nA m.L.length m.nc) m.L.length (tnsC m.L) := tKeeps_own k1 h.nds fun k e => town_apart h.nds (h.kid _ hpm) (by decide) e
  have hgb : m.nA.map Addr.block = some g := by rw [hg]; rfl
  have hk2 : Keeps (fun k => k = g) w1 (w1.setCell ⟨g, p * 5 + 2, none⟩ (.slice A ks.length c)) := (Keeps.refl (fun k => k = g) w1).setCell (p := ⟨g, p * 5 + 2, none⟩) rfl _
  have hk : Keeps (tfoot m) w (w1.setCell ⟨g, p * 5 + 2, none⟩ (.slice A ks.length c)) := (k1.mono fun k _ e => .inr (.inr ⟨_, hpm, e⟩)).trans (hk2.mono fun k _ e => .inr (.inl (by rw [hgb, e])))
  have hsz := k1.size
  obtain ⟨_, cur, hgB⟩ := town_blk hnd1 hgb
  have hff : ∀ k, tfoot (m.setN p ⟨m.L[p].d, ks, A, c⟩) k → tfoot m k ∨ w.heap.size ≤ k := fun k hf => by
    rcases hf with hf | e | ⟨y, hy, hf⟩
    · exact .inl (.inl hf)
    · exact .inl (.inr (.inl e))
    · obtain ⟨i, hi, rfl⟩ := List.getElem_of_mem hy
      rw [m.setN_at] at hf
      by_cases e : p = i
      · rw [if_pos e] at hf
        exact (hn k hf).imp (fun e => .inr (.inr ⟨_, hpm, e⟩)) id
      · rw [if_neg e] at hf
        rw [m.setN_len] at hi
        exact .inl (.inr (.inr ⟨_, List.getElem_mem hi, hf⟩))
  refine ⟨⟨?_, h.qb, ?_, ?_, ?_⟩, hk, hff⟩
  · show Blk _ _ _ #[.slice m.nA (m.L.set p _).length m.nc, _]
    rw [List.length_set]
    refine (h.b.keeps k1 (town_tag (h.kid _ hpm) h.b (by decide))).far (p := ⟨g, p * 5 + 2, none⟩) ?_ _
    intro e
    have e2 : m.q = g := e
    have := town_tag h.nds h.b (by decide)
    rw [e2] at this
    exact this hgb
  · show World.ownsRow _ base _ 5 (.slice m.nA (m.L.set p _).length m.nc) (m.L.set p _).length (tnsC (m.L.set p _))
    rw [List.length_set, ← tnsC_set m.L (u := .slice A ks.length c) hp (by omega : 2 < 5) rfl]
    exact town_set hnd1 (by rw [tnsC_len]; omega) hg _
  · intro y hy
    obtain ⟨i, hi, rfl⟩ := List.getElem_of_mem hy
    rw [m.setN_at]
    by_cases e : p = i
    · simp only [if_pos e]
      exact own_store ho hgB (by decide) _ _
    · simp only [if_neg e]
      rw [m.setN_len] at hi
      exact own_store (tKeeps_own k1 (h.kid _ (List.getElem_mem hi)) fun k e1 e2 => h.kd i p hi hp (fun e3 => e e3.symm) k e1 e2) hgB (by decide) _ _
  · intro i j hi hj hne k hk1 hk3
    rw [m.setN_at] at hk1 hk3
    rw [m.setN_len] at hi hj
    have old : ∀ j (hj : j < m.L.length), ∀ k, m.L[j].kA.map Addr.block = some k → k < w.heap.size := fun j hj k e => (h.lt (.inr (.inr ⟨_, List.getElem_mem hj, e⟩))).2
    by_cases e1 : p = i
    · by_cases e2 : p = j
      · omega
      · rw [if_pos e1] at hk1
        rw [if_neg e2] at hk3
        rcases hn k hk1 with h9 | h9
        · exact h.kd p j hp hj e2 k h9 hk3
        · have := old j hj k hk3; omega
    · by_cases e2 : p = j
      · rw [if_neg e1] at hk1
        rw [if_pos e2] at hk3
        rcases hn k hk3 with h9 | h9
        · exact h.kd p i hp hi e1 k h9 hk1
        · have := old i hi k hk1; omega
      · rw [if_neg e1] at hk1
        rw [if_neg e2] at hk3
        exact h.kd i j hi hj hne k hk1 hk3
/-- One of a node's numbers is set. -/
theorem TrOk.setD {w : World} {base : Nat} {m : TrM} (h : TrOk w base m) {p j : Nat} (hp : p < m.L.length) (hj : j < 5) {u : Value} {y : NdM} (hy : (tndC m.L[p]).set j u = tndC y) (h1 : y.kids = m.L[p].kids) (h2 : y.kA = m.L[p].kA) (h3 : y.kc = m.L[p].kc) {g : Nat} (hg : m.nA = some ⟨g, 0, none⟩) :
    TrOk (w.setCell ⟨g, p * 5 + j, none⟩ u) base (m.setN p y) ∧ (∀ k, tfoot (m.setN p y) k ↔ tfoot m k) := by
  have hgb : m.nA.map Addr.block = some g := by rw [hg]; rfl
  obtain ⟨_, cur, hgB⟩ := town_blk h.nds hgb
  have hat : ∀ i (hi : i < (m.setN p y).L.length), (m.setN p y).L[i].kids = (m.L[i]'(by rw [m.setN_len] at hi; exact hi)).kids ∧ (m.setN p y).L[i].kA = (m.L[i]'(by rw [m.setN_len] at hi; exact hi)).kA ∧ (m.setN p y).L[i].kc = (m.L[i]'(by rw [m.setN_len] at hi; exact hi)).kc := fun i hi => by
    rw [m.setN_at]
    by_cases e : p = i
    · subst e; simp only [if_pos rfl]; exact ⟨h1, h2, h3⟩
    · simp only [if_neg e]; exact ⟨trivial, trivial, trivial⟩
  refine ⟨⟨?_, h.qb, ?_, ?_, ?_⟩, fun k => ⟨?_, ?_⟩⟩
  · show Blk _ _ _ #[.slice m.nA (m.L.set p _).length m.nc, _]
    rw [List.length_set]
    refine h.b.far (p := ⟨g, p * 5 + j, none⟩) ?_ _
    intro e
    have e2 : m.q = g := e
    have := town_tag h.nds h.b (by decide)
    rw [e2] at this
    exact this hgb
  · show World.ownsRow _ base _ 5 (.slice m.nA (m.L.set p _).length m.nc) (m.L.set p _).length (tnsC (m.L.set p _))
    rw [List.length_set, ← tnsC_set m.L hp hj hy]
    exact town_set h.nds (by rw [tnsC_len]; omega) hg _
  · intro z hz
    obtain ⟨i, hi, rfl⟩ := List.getElem_of_mem hz
    obtain ⟨e1, e2, e3⟩ := hat i hi
    rw [e1, e2, e3]
    rw [m.setN_len] at hi
    exact own_store (h.kid _ (List.getElem_mem hi)) hgB (by decide) _ _
  · intro i k hi hk hne
    rw [(hat i hi).2.1, (hat k hk).2.1]
    rw [m.setN_len] at hi hk
    exact h.kd i k hi hk hne
  · rintro (hf | e | ⟨z, hz, hf⟩)
    · exact .inl hf
    · exact .inr (.inl e)
    · obtain ⟨i, hi, rfl⟩ := List.getElem_of_mem hz
      rw [(hat i hi).2.1] at hf
      rw [m.setN_len] at hi
      exact .inr (.inr ⟨_, List.getElem_mem hi, hf⟩)
  · rintro (hf | e | ⟨z, hz, hf⟩)
    · exact .inl hf
    · exact .inr (.inl e)
    · obtain ⟨i, hi, rfl⟩ := List.getElem_of_mem hz
      have hi' : i < (m.setN p y).L.length := by rw [m.setN_len]; exact hi
      refine .inr (.inr ⟨_, List.getElem_mem hi', ?_⟩)
      rw [(hat i hi').2.1]; exact hf
end Go.Proofs.YtbfpckomgpkjgaaGreat
