/-
  tree: what a child gets, pure; numbers.
-/
import Derived.Test.YtefgnemcjgibaaaTe2
namespace Go.Proofs.Ytefgnemcjgibaaa


/-- The first number that a node has left. -/
def freeT (T : List Nd) (p : Nat) : Nat := match (kidsT T p).getLast? with
  | none => (ndT T p).lo
  | some k => (ndT T k).hi + 1
theorem free_le {T : List Nd} (v : IvT T) {p : Nat} (hp : p < T.length) : (ndT T p).lo ≤ freeT T p ∧ freeT T p ≤ (ndT T p).hi := by
  have h := v.ok p hp
  unfold freeT
  cases hk : (kidsT T p).getLast? with
  | none => exact ⟨Nat.le_refl _, h.2.1⟩
  | some k =>
    obtain ⟨h0, h1, h2⟩ := mem_kids.1 (List.mem_of_getLast? hk)
    have h3 := v.sub k h0 h1
    have h4 := v.ok k h1
    rw [h2] at h3
    exact ⟨by show _ ≤ _ + 1; omega, by show _ + 1 ≤ _; omega⟩
theorem last_max {l : List Nat} (h : l.Pairwise (· < ·)) {k x : Nat} (hk : l.getLast? = some k) (hx : x ∈ l) : x ≤ k := by
  obtain ⟨j, hj, rfl⟩ := List.getElem_of_mem hx
  rw [List.getLast?_eq_getElem?, List.getElem?_eq_getElem (by omega)] at hk
  injection hk with hk
  subst hk
  by_cases e : j = l.length - 1
  · subst e; exact Nat.le_refl _
  · exact Nat.le_of_lt (List.pairwise_iff_getElem.1 h j (l.length - 1) hj (by omega) (by omega))
theorem free_above {T : List Nd} (v : IvT T) {p a : Nat} (ha : a ∈ kidsT T p) : (ndT T a).hi < freeT T p := by
  unfold freeT
  cases hk : (kidsT T p).getLast? with
  | none => rw [List.getLast?_eq_none_iff] at hk; rw [hk] at ha; cases ha
  | some k =>
    show _ < _ + 1
    have h1 := last_max (kids_sorted T p) hk ha
    obtain ⟨a0, a1, a2⟩ := mem_kids.1 ha
    obtain ⟨k0, k1, k2⟩ := mem_kids.1 (List.mem_of_getLast? hk)
    by_cases e : a = k
    · subst e; omega
    · have h2 := v.sib a k a0 (by omega) k1 (by rw [a2, k2])
      have := v.ok k k1
      omega
/-- One more behind its parent. -/
theorem OkT.add {T : List Nd} (o : OkT T) {x : Nd} (hp : x.par < T.length) (hd : x.dep = (ndT T x.par).dep + 1) (hm : T.length + 1 ≤ 1000) : OkT (T ++ [x]) where
  ne := by simp
  r := by rw [ndT_app o.ne]; exact o.r
  lt n h0 h1 := by
    by_cases e : n < T.length
    · rw [ndT_app e]; exact o.lt n h0 e
    · obtain rfl : n = T.length := by simp at h1; omega
      rw [ndT_last]; exact hp
  dep n h0 h1 := by
    by_cases e : n < T.length
    · rw [ndT_app e, ndT_app (by have := o.lt n h0 e; omega)]; exact o.dep n h0 e
    · obtain rfl : n = T.length := by simp at h1; omega
      rw [ndT_last, ndT_app hp]; exact hd
  max := by simp; omega
theorem IvT.add {T : List Nd} (v : IvT T) (o : OkT T) {x : Nd} (hp : x.par < T.length) (h1 : freeT T x.par ≤ x.lo) (h2 : x.lo ≤ x.hi) (h3 : x.hi < (ndT T x.par).hi) : IvT (T ++ [x]) where
  ok n hn := by
    by_cases e : n < T.length
    · rw [ndT_app e]; exact v.ok n e
    · obtain rfl : n = T.length := by simp at hn; omega
      rw [ndT_last]
      have := free_le v hp
      have := v.ok _ hp
      omega
  sub n h0 hn := by
    by_cases e : n < T.length
    · rw [ndT_app e, ndT_app (by have := o.lt n h0 e; omega)]; exact v.sub n h0 e
    · obtain rfl : n = T.length := by simp at hn; omega
      rw [ndT_last, ndT_app hp]
      have := free_le v hp
      omega
  sib a b h0 hab hb hpar := by
    by_cases e : b < T.length
    · rw [ndT_app e, ndT_app (by omega)]
      rw [ndT_app e, ndT_app (by omega)] at hpar
      exact v.sib a b h0 hab e hpar
    · obtain rfl : b = T.length := by simp at hb; omega
      rw [ndT_last] at hpar ⊢
      rw [ndT_app hab] at hpar ⊢
      have := free_above v (mem_kids.2 ⟨h0, hab, hpar⟩)
      omega
theorem und_app {T : List Nd} (o : OkT T) {x : Nd} {a b : Nat} (ha : a < T.length) (h : Und (T ++ [x]) a b) : Und T a b := by
  induction h with
  | refl a => exact .refl a
  | @up a b h0 h1 h2 ih =>
    have := o.lt a h0 ha
    rw [ndT_app ha] at h2 ih
    exact .up h0 ha (ih (by omega))
theorem und_up {T : List Nd} {x : Nd} {a b : Nat} (h : Und T a b) : Und (T ++ [x]) a b := by
  induction h with
  | refl a => exact .refl a
  | @up a b h0 h1 h2 ih => exact .up h0 (by simp; omega) (by rw [ndT_app h1]; exact ih)
/-- Ahead of a dealing: the one that came has no numbers yet. -/
theorem IvT.out {T : List Nd} (v : IvT T) (o : OkT T) {x : Nd} (hp : x.par < T.length) {top : Nat} (ht : top < T.length) (hu : Und T x.par top) : IvOut (T ++ [x]) top := by
  have hn : Und (T ++ [x]) T.length top := .up o.ne (by simp) (by rw [ndT_last]; exact und_up hu)
  have key : ∀ n, n < (T ++ [x]).length → (n = top ∨ ¬ Und (T ++ [x]) n top) → n < T.length := fun n h1 h2 => by
    by_cases e : n < T.length
    · exact e
    · obtain rfl : n = T.length := by simp at h1; omega
      rcases h2 with h2 | h2
      · omega
      · exact absurd hn h2
  refine ⟨fun n h1 h2 => ?_, fun n h0 h1 h2 => ?_, fun a b h0 hab hb ha2 hb2 hpar => ?_⟩
  · have e := key n h1 h2
    rw [ndT_app e]; exact v.ok n e
  · have e := key n h1 h2
    rw [ndT_app e, ndT_app (by have := o.lt n h0 e; omega)]; exact v.sub n h0 e
  · have e := key b hb hb2
    rw [ndT_app e, ndT_app (by omega)]
    rw [ndT_app e, ndT_app (by omega)] at hpar
    exact v.sib a b h0 hab e hpar
end Go.Proofs.Ytefgnemcjgibaaa
