/-
  tree, pure: nodes, who stands under whom, and intervals.
  tree, pure: all that stand under a node, each behind its parent.
-/
import Derived.WalkKit
namespace Go.Proofs.YtbfpckomgpkjgaaGreat

/-- A node: its parent, how many stand above it, its numbers. -/
structure Nd where
  par : Nat
  dep : Nat
  lo : Nat
  hi : Nat
def nd0 : Nd := ⟨0, 0, 0, 0⟩
/-- Node n of a tree. -/
def ndT (T : List Nd) (n : Nat) : Nd := T.getD n nd0
theorem ndT_at {T : List Nd} {n : Nat} (h : n < T.length) : ndT T n = T[n] := by simp [ndT, List.getD_eq_getElem?_getD, h]
theorem ndT_app {T : List Nd} {n : Nat} (h : n < T.length) (x : Nd) : ndT (T ++ [x]) n = ndT T n := by
  simp [ndT, List.getD_eq_getElem?_getD, List.getElem?_append_left h]
theorem ndT_last (T : List Nd) (x : Nd) : ndT (T ++ [x]) T.length = x := by
  simp [ndT, List.getD_eq_getElem?_getD]
/-- A node's children. -/
def kidB (T : List Nd) (p m : Nat) : Bool := decide (0 < m) && (ndT T m).par == p
def kidsT (T : List Nd) (p : Nat) : List Nat := (List.range T.length).filter (kidB T p)
theorem mem_kids {T : List Nd} {p m : Nat} : m ∈ kidsT T p ↔ 0 < m ∧ m < T.length ∧ (ndT T m).par = p := by
  simp only [kidsT, kidB, List.mem_filter, List.mem_range, Bool.and_eq_true, decide_eq_true_eq, beq_iff_eq]
  constructor
  · rintro ⟨h1, h2, h3⟩; exact ⟨h2, h1, h3⟩
  · rintro ⟨h2, h1, h3⟩; exact ⟨h1, h2, h3⟩
theorem kids_sorted (T : List Nd) (p : Nat) : (kidsT T p).Pairwise (· < ·) := List.Pairwise.filter _ List.pairwise_lt_range
theorem kids_nodup (T : List Nd) (p : Nat) : (kidsT T p).Nodup := (kids_sorted T p).imp (fun h => Nat.ne_of_lt h)
theorem kids_app {T : List Nd} (x : Nd) (p : Nat) (hT : 0 < T.length) : kidsT (T ++ [x]) p = kidsT T p ++ if x.par = p then [T.length] else [] := by
  unfold kidsT
  rw [List.length_append, List.length_cons, List.length_nil, List.range_succ, List.filter_append]
  congr 1
  · refine List.filter_congr fun m hm => ?_
    unfold kidB
    rw [ndT_app (List.mem_range.1 hm)]
  · have e : kidB (T ++ [x]) p T.length = decide (x.par = p) := by
      unfold kidB
      rw [ndT_last, decide_eq_true hT, Bool.true_and]
      rfl
    rw [List.filter_cons, e]
    by_cases h : x.par = p
    · simp [h]
    · simp [h]
/-- It hangs on the parents alone. -/
def SamePar (T T' : List Nd) : Prop := T'.length = T.length ∧ ∀ n, (ndT T' n).par = (ndT T n).par
theorem kids_same {T T' : List Nd} (h : SamePar T T') (p : Nat) : kidsT T' p = kidsT T p := by
  unfold kidsT
  rw [h.1]
  refine List.filter_congr fun m hm => ?_
  unfold kidB
  rw [h.2]

/-- A tree's form: each parent was there, each depth is one more. -/
structure OkT (T : List Nd) : Prop where
  ne : 0 < T.length
  r : ndT T 0 = ⟨0, 0, 1, 4611686018427387904⟩
  lt : ∀ n, 0 < n → n < T.length → (ndT T n).par < n
  dep : ∀ n, 0 < n → n < T.length → (ndT T n).dep = (ndT T (ndT T n).par).dep + 1
  max : T.length ≤ 1000
/-- a stands under b. -/
inductive Und (T : List Nd) : Nat → Nat → Prop
  | refl (a : Nat) : Und T a a
  | up {a b : Nat} : 0 < a → a < T.length → Und T (ndT T a).par b → Und T a b
theorem Und.le {T : List Nd} (o : OkT T) {a b : Nat} (h : Und T a b) : b ≤ a := by
  induction h with
  | refl a => exact Nat.le_refl _
  | up h0 h1 _ ih => have := o.lt _ h0 h1; omega
theorem Und.lt {T : List Nd} {a b : Nat} (h : Und T a b) : b < T.length → a < T.length := by
  cases h with
  | refl => exact id
  | up h0 h1 _ => exact fun _ => h1
theorem Und.trans {T : List Nd} {a b c : Nat} (h : Und T a b) (k : Und T b c) : Und T a c := by
  induction h with
  | refl a => exact k
  | up h0 h1 _ ih => exact .up h0 h1 (ih k)
theorem Und.kid {T : List Nd} {p m : Nat} (h : m ∈ kidsT T p) : Und T m p := by
  obtain ⟨h0, h1, h2⟩ := mem_kids.1 h
  exact .up h0 h1 (by rw [h2]; exact .refl _)
/-- Who stands under another one, stands under a child of it. -/
theorem Und.down {T : List Nd} {a b : Nat} (h : Und T a b) (hne : a ≠ b) : ∃ c ∈ kidsT T b, Und T a c := by
  induction h with
  | refl a => exact absurd rfl hne
  | @up a b h0 h1 h2 ih =>
    by_cases he : (ndT T a).par = b
    · exact ⟨a, mem_kids.2 ⟨h0, h1, he⟩, .refl _⟩
    · obtain ⟨c, hc, hu⟩ := ih he
      exact ⟨c, hc, .up h0 h1 hu⟩
theorem Und.root {T : List Nd} (o : OkT T) : ∀ a, a < T.length → Und T a 0 := by
  intro a
  induction a using Nat.strongRecOn with
  | ind a ih =>
    intro ha
    by_cases h0 : a = 0
    · subst h0; exact .refl _
    · have := o.lt a (by omega) ha
      exact .up (by omega) ha (ih _ this (by omega))
/-- Of two above one, one is above the other. -/
theorem Und.tot {T : List Nd} {a b c : Nat} (h : Und T a b) (k : Und T a c) : Und T b c ∨ Und T c b := by
  induction h with
  | refl a => exact .inl k
  | up h0 h1 h2 ih =>
    cases k with
    | refl => exact .inr (.up h0 h1 h2)
    | up _ _ k2 => exact ih k2
theorem Und.anti {T : List Nd} (o : OkT T) {a b : Nat} (h : Und T a b) (k : Und T b a) : a = b := Nat.le_antisymm (k.le o) (h.le o)

/-- Intervals are such as is said. -/
structure IvT (T : List Nd) : Prop where
  ok : ∀ n, n < T.length → 1 ≤ (ndT T n).lo ∧ (ndT T n).lo ≤ (ndT T n).hi ∧ (ndT T n).hi ≤ 4611686018427387904
  sub : ∀ n, 0 < n → n < T.length → (ndT T (ndT T n).par).lo ≤ (ndT T n).lo ∧ (ndT T n).hi < (ndT T (ndT T n).par).hi
  sib : ∀ a b, 0 < a → a < b → b < T.length → (ndT T a).par = (ndT T b).par → (ndT T a).hi < (ndT T b).lo
theorem IvT.und {T : List Nd} (v : IvT T) {a b : Nat} (h : Und T a b) : (ndT T b).lo ≤ (ndT T a).lo ∧ (ndT T a).hi ≤ (ndT T b).hi := by
  induction h with
  | refl a => exact ⟨Nat.le_refl _, Nat.le_refl _⟩
  | up h0 h1 _ ih => have := v.sub _ h0 h1; omega
theorem IvT.under {T : List Nd} (v : IvT T) {a b : Nat} (h : Und T a b) (hne : a ≠ b) : (ndT T a).hi < (ndT T b).hi := by
  cases h with
  | refl => exact absurd rfl hne
  | up h0 h1 h2 => have := v.sub _ h0 h1; have := (v.und h2).2; omega
/-- Two of which none stands under the other have no number in common. -/
theorem IvT.apart {T : List Nd} (v : IvT T) (o : OkT T) : ∀ n a b, a + b ≤ n → a < T.length → b < T.length → ¬ Und T a b → ¬ Und T b a → (ndT T a).hi < (ndT T b).lo ∨ (ndT T b).hi < (ndT T a).lo := by
  intro n
  induction n with
  | zero =>
    intro a b h _ _ h1 _
    obtain rfl : a = 0 := by omega
    obtain rfl : b = 0 := by omega
    exact absurd (.refl _) h1
  | succ n ih =>
    have step : ∀ a b, a + b ≤ n + 1 → b < a → a < T.length → b < T.length → ¬ Und T a b → ¬ Und T b a → (ndT T a).hi < (ndT T b).lo ∨ (ndT T b).hi < (ndT T a).lo := by
      intro a b hs hlt ha hb h1 h2
      have h0 : 0 < a := by omega
      have hp := o.lt a h0 ha
      have hs1 := v.sub a h0 ha
      by_cases h3 : Und T b (ndT T a).par
      · by_cases hbe : b = (ndT T a).par
        · exact absurd (.up h0 ha (by rw [← hbe]; exact .refl _)) h1
        · obtain ⟨c, hc, hu⟩ := h3.down hbe
          obtain ⟨c0, c1, c2⟩ := mem_kids.1 hc
          have hi := v.und hu
          by_cases hca : c = a
          · subst hca; exact absurd hu h2
          · by_cases hl : c < a
            · have := v.sib c a c0 hl ha c2; omega
            · have := v.sib a c h0 (by omega) c1 c2.symm; omega
      · have h4 : ¬ Und T (ndT T a).par b := fun k => h1 (.up h0 ha k)
        have := ih (ndT T a).par b (by omega) (by omega) hb h4 h3
        omega
    intro a b hs ha hb h1 h2
    rcases Nat.lt_trichotomy a b with h | h | h
    · have := step b a (by omega) h hb ha h2 h1; omega
    · subst h; exact absurd (.refl _) h1
    · exact step a b hs h ha hb h1 h2
/-- One stands under another one just if its interval lies within that one's. -/
theorem IvT.iff {T : List Nd} (v : IvT T) (o : OkT T) {a b : Nat} (ha : a < T.length) (hb : b < T.length) : Und T a b ↔ ((ndT T b).lo ≤ (ndT T a).lo ∧ (ndT T a).hi ≤ (ndT T b).hi) := by
  constructor
  · exact v.und
  · intro h
    by_cases h1 : Und T a b
    · exact h1
    exfalso
    have ka := v.ok a ha
    have kb := v.ok b hb
    by_cases h2 : Und T b a
    · have := v.under h2 (fun e => h1 (by rw [e]; exact .refl _)); omega
    · have := v.apart o (a + b) a b (Nat.le_refl _) ha hb h1 h2; omega
end Go.Proofs.YtbfpckomgpkjgaaGreat

namespace Go.Proofs.YtbfpckomgpkjgaaGreat

/-- The children of what stands at place i, but one. -/
def nextT (T : List Nd) (out i : Nat) (Q : List (Nat × Nat)) : List (Nat × Nat) := match Q[i]? with
  | some s => ((kidsT T s.1).filter (· != out)).map fun c => (c, i)
  | none => []
def bfs (T : List Nd) (n out : Nat) : Nat → List (Nat × Nat)
  | 0 => [(n, 0)]
  | i + 1 => bfs T n out i ++ nextT T out i (bfs T n out i)
theorem mem_nextT {T : List Nd} {out i : Nat} {Q : List (Nat × Nat)} {s : Nat × Nat} (h : s ∈ nextT T out i Q) : s.2 = i ∧ s.1 ≠ out ∧ ∃ u, Q[i]? = some u ∧ s.1 ∈ kidsT T u.1 := by
  unfold nextT at h
  cases hq : Q[i]? with
  | none => rw [hq] at h; simp at h
  | some u =>
    rw [hq] at h
    simp only [List.mem_map, List.mem_filter, bne_iff_ne] at h
    obtain ⟨c, ⟨h1, h2⟩, rfl⟩ := h
    exact ⟨rfl, h2, u, rfl, h1⟩
structure Bf (T : List Nd) (n out i : Nat) (Q : List (Nat × Nat)) : Prop where
  hd : Q[0]? = some (n, 0)
  up : ∀ j s, 0 < j → Q[j]? = some s → s.2 < j ∧ s.2 < i ∧ s.1 ≠ out ∧ ∃ u, Q[s.2]? = some u ∧ s.1 ∈ kidsT T u.1
  nd : (Q.map Prod.fst).Nodup
  all : ∀ j s, j < i → Q[j]? = some s → ∀ c ∈ kidsT T s.1, c ≠ out → c ∈ Q.map Prod.fst
  und : ∀ s ∈ Q, s.1 < T.length ∧ Und T s.1 n
  ord : ∀ j k s t, 0 < j → j < k → Q[j]? = some s → Q[k]? = some t → s.2 = t.2 → s.1 < t.1
theorem Bf.start {T : List Nd} {n out : Nat} (hn : n < T.length) : Bf T n out 0 [(n, 0)] where
  hd := rfl
  up j s h0 h := by
    obtain ⟨j, rfl⟩ : ∃ k, j = k + 1 := ⟨j - 1, by omega⟩
    simp at h
  nd := by simp
  all j s hj := absurd hj (Nat.not_lt_zero _)
  und s hs := by simp at hs; subst hs; exact ⟨hn, .refl _⟩
  ord j k s t h0 hjk h := by
    obtain ⟨j, rfl⟩ : ∃ k, j = k + 1 := ⟨j - 1, by omega⟩
    simp at h
theorem get_fst {Q : List (Nat × Nat)} {j k : Nat} {s t : Nat × Nat} (hn : (Q.map Prod.fst).Nodup) (h : Q[j]? = some s) (k' : Q[k]? = some t) (e : s.1 = t.1) : j = k := by
  obtain ⟨h1, h2⟩ := List.getElem?_eq_some_iff.1 h
  obtain ⟨h3, h4⟩ := List.getElem?_eq_some_iff.1 k'
  have := (List.getElem_inj (i := j) (j := k) (h₀ := by simpa using h1) (h₁ := by simpa using h3) hn).1 (by rw [List.getElem_map, List.getElem_map, h2, h4]; exact e)
  exact this
theorem Bf.step {T : List Nd} (o : OkT T) {n out i : Nat} {Q : List (Nat × Nat)} (b : Bf T n out i Q) (hi : i < Q.length) : Bf T n out (i + 1) (Q ++ nextT T out i Q) := by
  obtain ⟨u, hu⟩ : ∃ u, Q[i]? = some u := ⟨_, List.getElem?_eq_getElem hi⟩
  have hum := List.mem_of_getElem? hu
  have hul := b.und u hum
  have e1 : nextT T out i Q = ((kidsT T u.1).filter (· != out)).map fun c => (c, i) := by unfold nextT; rw [hu]
  have e2 : (nextT T out i Q).map Prod.fst = (kidsT T u.1).filter (· != out) := by rw [e1, List.map_map]; exact List.map_id _
  have old : ∀ {j s}, j < Q.length → (Q ++ nextT T out i Q)[j]? = some s → Q[j]? = some s := fun h1 h2 => by rwa [List.getElem?_append_left h1] at h2
  have mid : ∀ {j s}, Q[j]? = some s → (Q ++ nextT T out i Q)[j]? = some s := fun {j s} h => by
    rw [List.getElem?_append_left (List.getElem?_eq_some_iff.1 h).1]; exact h
  refine ⟨?_, ?_, ?_, ?_, ?_, ?_⟩
  · exact mid b.hd
  · intro j s h0 hs
    by_cases hj : j < Q.length
    · obtain ⟨h1, h2, h3, v, h4, h5⟩ := b.up j s h0 (old hj hs)
      exact ⟨h1, by omega, h3, v, mid h4, h5⟩
    · rw [List.getElem?_append_right (by omega)] at hs
      obtain ⟨h1, h2, v, h3, h4⟩ := mem_nextT (List.mem_of_getElem? hs)
      rw [hu] at h3; cases h3
      exact ⟨by omega, by omega, h2, u, by rw [h1]; exact mid hu, h4⟩
  · rw [List.map_append, e2, List.nodup_append]
    refine ⟨b.nd, (kids_nodup T _).sublist List.filter_sublist, fun x hx y hy e => ?_⟩
    subst e
    obtain ⟨s, hs, rfl⟩ := List.mem_map.1 hx
    obtain ⟨j, hj, hjs⟩ := List.getElem_of_mem hs
    have hjs' : Q[j]? = some s := by rw [List.getElem?_eq_getElem hj, hjs]
    have hk := (List.mem_filter.1 hy).1
    obtain ⟨k0, k1, k2⟩ := mem_kids.1 hk
    by_cases h0 : j = 0
    · subst h0
      rw [b.hd] at hjs'; cases hjs'
      have := hul.2.le o
      have := o.lt n k0 k1
      simp only at k2
      omega
    · obtain ⟨h1, h2, h3, v, h4, h5⟩ := b.up j s (by omega) hjs'
      have e5 := (mem_kids.1 h5).2.2
      have := get_fst b.nd h4 hu (by rw [← e5, k2])
      omega
  · intro j s hj hs c hc hco
    rw [List.map_append, List.mem_append]
    by_cases hji : j < i
    · exact .inl (b.all j s hji (old (by omega) hs) c hc hco)
    · obtain rfl : j = i := by omega
      have := old hi hs
      rw [hu] at this; cases this
      right
      rw [e2, List.mem_filter]
      exact ⟨hc, by simpa using hco⟩
  · intro s hs
    rcases List.mem_append.1 hs with hs | hs
    · exact b.und s hs
    · obtain ⟨h1, h2, v, h3, h4⟩ := mem_nextT hs
      rw [hu] at h3; cases h3
      exact ⟨(mem_kids.1 h4).2.1, (Und.kid h4).trans hul.2⟩
  · intro j k s t h0 hjk hs ht e
    by_cases hk : k < Q.length
    · exact b.ord j k s t h0 hjk (old (by omega) hs) (old hk ht) e
    · rw [List.getElem?_append_right (by omega)] at ht
      have ht2 := (mem_nextT (List.mem_of_getElem? ht)).1
      by_cases hj : j < Q.length
      · have := (b.up j s h0 (old hj hs)).2.1
        omega
      · rw [List.getElem?_append_right (by omega)] at hs
        have hsort : ((nextT T out i Q).map Prod.fst).Pairwise (· < ·) := by rw [e2]; exact (kids_sorted T _).filter _
        obtain ⟨g1, g2⟩ := List.getElem?_eq_some_iff.1 hs
        obtain ⟨g3, g4⟩ := List.getElem?_eq_some_iff.1 ht
        have := List.pairwise_iff_getElem.1 hsort (j - Q.length) (k - Q.length) (by simpa using g1) (by simpa using g3) (by omega)
        rw [List.getElem_map, List.getElem_map, g2, g4] at this
        exact this
theorem Bf.len {T : List Nd} {n out i : Nat} {Q : List (Nat × Nat)} (b : Bf T n out i Q) : 0 < Q.length ∧ Q.length ≤ T.length := by
  constructor
  · exact (List.getElem?_eq_some_iff.1 b.hd).1
  · have := b.nd.length_le_of_subset (l₂ := List.range T.length) (fun x hx => by
      obtain ⟨s, hs, rfl⟩ := List.mem_map.1 hx
      exact List.mem_range.2 (b.und s hs).1)
    simpa using this
theorem bfs_ok {T : List Nd} (o : OkT T) {n out : Nat} (hn : n < T.length) : ∀ i, (∀ j < i, j < (bfs T n out j).length) → Bf T n out i (bfs T n out i)
  | 0, _ => Bf.start hn
  | i + 1, h => (bfs_ok o hn i (fun j hj => h j (by omega))).step o (h i (by omega))
/-- Who stands under n, but not under out. -/
def Blw (T : List Nd) (n out m : Nat) : Prop := m < T.length ∧ Und T m n ∧ (out ≠ 0 → ¬ Und T m out)
theorem Bf.mem {T : List Nd} (o : OkT T) {n out : Nat} {Q : List (Nat × Nat)} (b : Bf T n out Q.length Q) (hn : n < T.length) (hout : out = 0 ∨ out ∈ kidsT T n) (m : Nat) : m ∈ Q.map Prod.fst ↔ Blw T n out m := by
  have hno : out ≠ 0 → ¬ Und T n out := fun h0 hu => by
    rcases hout with h | h
    · exact h0 h
    · have h1 := hu.le o
      obtain ⟨k0, k1, k2⟩ := mem_kids.1 h
      have := o.lt out k0 k1
      omega
  constructor
  · intro hm
    obtain ⟨s, hs, rfl⟩ := List.mem_map.1 hm
    refine ⟨(b.und s hs).1, (b.und s hs).2, fun h0 => ?_⟩
    obtain ⟨j, hj, hjs⟩ := List.getElem_of_mem hs
    have key : ∀ (k : Nat) (s : Nat × Nat), Q[k]? = some s → ¬ Und T s.1 out := by
      intro k
      induction k using Nat.strongRecOn with
      | ind k ih =>
        intro s hk hu
        by_cases hk0 : k = 0
        · subst hk0; rw [b.hd] at hk; cases hk; exact hno h0 hu
        · obtain ⟨h1, h2, h3, v, h4, h5⟩ := b.up k s (by omega) hk
          cases hu with
          | refl => exact h3 rfl
          | up g0 g1 g2 => exact ih s.2 h1 v h4 (by rw [(mem_kids.1 h5).2.2] at g2; exact g2)
    exact key j s (by rw [List.getElem?_eq_getElem hj, hjs])
  · rintro ⟨h1, h2, h3⟩
    have key : ∀ a c, Und T a c → c = n → (out ≠ 0 → ¬ Und T a out) → a ∈ Q.map Prod.fst := by
      intro a c hu
      induction hu with
      | refl a => rintro rfl _; exact List.mem_map.2 ⟨(a, 0), List.mem_of_getElem? b.hd, rfl⟩
      | @up a c g0 g1 g2 ih =>
        intro hc h4
        have := ih hc (fun h0 hu => h4 h0 (.up g0 g1 hu))
        obtain ⟨s, hs, hse⟩ := List.mem_map.1 this
        obtain ⟨j, hj, hjs⟩ := List.getElem_of_mem hs
        refine b.all j s hj (by rw [List.getElem?_eq_getElem hj, hjs]) a (mem_kids.2 ⟨g0, g1, hse.symm⟩) (fun e => ?_)
        exact h4 (by omega) (by rw [e]; exact .refl _)
    exact key m n h2 rfl h3
open Classical in
/-- How many stand under n, but not under out. -/
noncomputable def cntT (T : List Nd) (n out : Nat) : Nat := ((List.range T.length).filter fun m => decide (Blw T n out m)).length
open Classical in
theorem Bf.cnt {T : List Nd} (o : OkT T) {n out : Nat} {Q : List (Nat × Nat)} (b : Bf T n out Q.length Q) (hn : n < T.length) (hout : out = 0 ∨ out ∈ kidsT T n) : Q.length = cntT T n out := by
  unfold cntT
  rw [← List.length_map (f := Prod.fst)]
  refine ((List.perm_ext_iff_of_nodup b.nd (List.nodup_range.sublist List.filter_sublist)).2 fun m => ?_).length_eq
  rw [b.mem o hn hout m, List.mem_filter, List.mem_range]
  constructor
  · intro h; exact ⟨h.1, decide_eq_true h⟩
  · intro h; exact of_decide_eq_true h.2
open Classical in
/-- All under a node: those under one child, and the others. -/
theorem cnt_up {T : List Nd} (o : OkT T) {n c : Nat} (hc : c ∈ kidsT T n) : cntT T n 0 = cntT T c 0 + cntT T n c := by
  obtain ⟨c0, c1, c2⟩ := mem_kids.1 hc
  unfold cntT
  rw [← List.countP_eq_length_filter, ← List.countP_eq_length_filter, ← List.countP_eq_length_filter]
  have key : ∀ l : List Nat, List.countP (fun m => decide (Blw T n 0 m)) l = List.countP (fun m => decide (Blw T c 0 m)) l + List.countP (fun m => decide (Blw T n c m)) l := by
    intro l
    induction l with
    | nil => rfl
    | cons x l ih =>
      rw [List.countP_cons, List.countP_cons, List.countP_cons, ih]
      have h1 : Blw T n 0 x ↔ Blw T c 0 x ∨ Blw T n c x := by
        unfold Blw
        constructor
        · rintro ⟨a, b, _⟩
          by_cases h : Und T x c
          · exact .inl ⟨a, h, fun k => absurd rfl k⟩
          · exact .inr ⟨a, b, fun _ => h⟩
        · rintro (⟨a, b, _⟩ | ⟨a, b, _⟩)
          · exact ⟨a, b.trans (Und.kid hc), fun k => absurd rfl k⟩
          · exact ⟨a, b, fun k => absurd rfl k⟩
      have h2 : ¬ (Blw T c 0 x ∧ Blw T n c x) := fun ⟨a, b⟩ => b.2.2 (by omega) a.2.1
      by_cases p : Blw T c 0 x
      · have q : ¬ Blw T n c x := fun q => h2 ⟨p, q⟩
        have r : Blw T n 0 x := h1.2 (.inl p)
        simp only [p, q, r, decide_true, decide_false, if_true, Bool.false_eq_true, if_false]; omega
      · by_cases q : Blw T n c x
        · have r : Blw T n 0 x := h1.2 (.inr q)
          simp only [p, q, r, decide_true, decide_false, if_true, Bool.false_eq_true, if_false]; omega
        · have r : ¬ Blw T n 0 x := fun r => by rcases h1.1 r with h | h; exact p h; exact q h
          simp only [p, q, r, decide_false, Bool.false_eq_true, if_false]; omega
  exact key _
end Go.Proofs.YtbfpckomgpkjgaaGreat
