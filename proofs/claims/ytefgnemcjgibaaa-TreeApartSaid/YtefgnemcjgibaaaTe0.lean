/-
  tree, pure: nodes, who stands under whom, and intervals.
-/
import Derived.WalkKit
namespace Go.Proofs.Ytefgnemcjgibaaa

/-- A node: its parent, how many stand above it, its numbers. -/
structure Nd where
  par : Nat
  dep : Nat
  lo : Nat
  hi : Nat
def nd0 : Nd := ⟨0, 0, 0, 0⟩
/-- Node n of a tree. -/
def ndT (T : List Nd) (n : Nat) : Nd := T.getD n nd0
theorem ndT_at {T : List Nd} {n : Nat} (h : n < T.length) : ndT T n = T[n] := by simp [ndT, List.getD_eq_getElem?_getD, h]
theorem ndT_app {T : List Nd} {n : Nat} (h : n < T.length) (x : Nd) : ndT (T ++ [x]) n = ndT T n := by
  simp [ndT, List.getD_eq_getElem?_getD, List.getElem?_append_left h]
theorem ndT_last (T : List Nd) (x : Nd) : ndT (T ++ [x]) T.length = x := by
  simp [ndT, List.getD_eq_getElem?_getD]
/-- A node's children. -/
def kidB (T : List Nd) (p m : Nat) : Bool := decide (0 < m) && (ndT T m).par == p
def kidsT (T : List Nd) (p : Nat) : List Nat := (List.range T.length).filter (kidB T p)
theorem mem_kids {T : List Nd} {p m : Nat} : m ∈ kidsT T p ↔ 0 < m ∧ m < T.length ∧ (ndT T m).par = p := by
  simp only [kidsT, kidB, List.mem_filter, List.mem_range, Bool.and_eq_true, decide_eq_true_eq, beq_iff_eq]
  constructor
  · rintro ⟨h1, h2, h3⟩; exact ⟨h2, h1, h3⟩
  · rintro ⟨h2, h1, h3⟩; exact ⟨h1, h2, h3⟩
theorem kids_sorted (T : List Nd) (p : Nat) : (kidsT T p).Pairwise (· < ·) := List.Pairwise.filter _ List.pairwise_lt_range
theorem kids_nodup (T : List Nd) (p : Nat) : (kidsT T p).Nodup := (kids_sorted T p).imp (fun h => Nat.ne_of_lt h)
theorem kids_app {T : List Nd} (x : Nd) (p : Nat) (hT : 0 < T.length) : kidsT (T ++ [x]) p = kidsT T p ++ if x.par = p then [T.length] else [] := by
  unfold kidsT
  rw [List.length_append, List.length_cons, List.length_nil, List.range_succ, List.filter_append]
  congr 1
  · refine List.filter_congr fun m hm => ?_
    unfold kidB
    rw [ndT_app (List.mem_range.1 hm)]
  · have e : kidB (T ++ [x]) p T.length = decide (x.par = p) := by
      unfold kidB
      rw [ndT_last, decide_eq_true hT, Bool.true_and]
      rfl
    rw [List.filter_cons, e]
    by_cases h : x.par = p
    · simp [h]
    · simp [h]
/-- It hangs on the parents alone. -/
def SamePar (T T' : List Nd) : Prop := T'.length = T.length ∧ ∀ n, (ndT T' n).par = (ndT T n).par
theorem kids_same {T T' : List Nd} (h : SamePar T T') (p : Nat) : kidsT T' p = kidsT T p := by
  unfold kidsT
  rw [h.1]
  refine List.filter_congr fun m hm => ?_
  unfold kidB
  rw [h.2]

/-- A tree's form: each parent was there, each depth is one more. -/
structure OkT (T : List Nd) : Prop where
  ne : 0 < T.length
  r : ndT T 0 = ⟨0, 0, 1, 4611686018427387904⟩
  lt : ∀ n, 0 < n → n < T.length → (ndT T n).par < n
  dep : ∀ n, 0 < n → n < T.length → (ndT T n).dep = (ndT T (ndT T n).par).dep + 1
  max : T.length ≤ 1000
/-- a stands under b. -/
inductive Und (T : List Nd) : Nat → Nat → Prop
  | refl (a : Nat) : Und T a a
  | up {a b : Nat} : 0 < a → a < T.length → Und T (ndT T a).par b → Und T a b
theorem Und.le {T : List Nd} (o : OkT T) {a b : Nat} (h : Und T a b) : b ≤ a := by
  induction h with
  | refl a => exact Nat.le_refl _
  | up h0 h1 _ ih => have := o.lt _ h0 h1; omega
theorem Und.lt {T : List Nd} {a b : Nat} (h : Und T a b) : b < T.length → a < T.length := by
  cases h with
  | refl => exact id
  | up h0 h1 _ => exact fun _ => h1
theorem Und.trans {T : List Nd} {a b c : Nat} (h : Und T a b) (k : Und T b c) : Und T a c := by
  induction h with
  | refl a => exact k
  | up h0 h1 _ ih => exact .up h0 h1 (ih k)
theorem Und.kid {T : List Nd} {p m : Nat} (h : m ∈ kidsT T p) : Und T m p := by
  obtain ⟨h0, h1, h2⟩ := mem_kids.1 h
  exact .up h0 h1 (by rw [h2]; exact .refl _)
/-- Who stands under another one, stands under a child of it. -/
theorem Und.down {T : List Nd} {a b : Nat} (h : Und T a b) (hne : a ≠ b) : ∃ c ∈ kidsT T b, Und T a c := by
  induction h with
  | refl a => exact absurd rfl hne
  | @up a b h0 h1 h2 ih =>
    by_cases he : (ndT T a).par = b
    · exact ⟨a, mem_kids.2 ⟨h0, h1, he⟩, .refl _⟩
    · obtain ⟨c, hc, hu⟩ := ih he
      exact ⟨c, hc, .up h0 h1 hu⟩
theorem Und.root {T : List Nd} (o : OkT T) : ∀ a, a < T.length → Und T a 0 := by
  intro a
  induction a using Nat.strongRecOn with
  | ind a ih =>
    intro ha
    by_cases h0 : a = 0
    · subst h0; exact .refl _
    · have := o.lt a (by omega) ha
      exact .up (by omega) ha (ih _ this (by omega))
/-- Of two above one, one is above the other. -/
theorem Und.tot {T : List Nd} {a b c : Nat} (h : Und T a b) (k : Und T a c) : Und T b c ∨ Und T c b := by
  induction h with
  | refl a => exact .inl k
  | up h0 h1 h2 ih =>
    cases k with
    | refl => exact .inr (.up h0 h1 h2)
    | up _ _ k2 => exact ih k2
theorem Und.anti {T : List Nd} (o : OkT T) {a b : Nat} (h : Und T a b) (k : Und T b a) : a = b := Nat.le_antisymm (k.le o) (h.le o)

/-- Intervals are such as is said. -/
structure IvT (T : List Nd) : Prop where
  ok : ∀ n, n < T.length → 1 ≤ (ndT T n).lo ∧ (ndT T n).lo ≤ (ndT T n).hi ∧ (ndT T n).hi ≤ 4611686018427387904
  sub : ∀ n, 0 < n → n < T.length → (ndT T (ndT T n).par).lo ≤ (ndT T n).lo ∧ (ndT T n).hi < (ndT T (ndT T n).par).hi
  sib : ∀ a b, 0 < a → a < b → b < T.length → (ndT T a).par = (ndT T b).par → (ndT T a).hi < (ndT T b).lo
theorem IvT.und {T : List Nd} (v : IvT T) {a b : Nat} (h : Und T a b) : (ndT T b).lo ≤ (ndT T a).lo ∧ (ndT T a).hi ≤ (ndT T b).hi := by
  induction h with
  | refl a => exact ⟨Nat.le_refl _, Nat.le_refl _⟩
  | up h0 h1 _ ih => have := v.sub _ h0 h1; omega
theorem IvT.under {T : List Nd} (v : IvT T) {a b : Nat} (h : Und T a b) (hne : a ≠ b) : (ndT T a).hi < (ndT T b).hi := by
  cases h with
  | refl => exact absurd rfl hne
  | up h0 h1 h2 => have := v.sub _ h0 h1; have := (v.und h2).2; omega
/-- Two of which none stands under the other have no number in common. -/
theorem IvT.apart {T : List Nd} (v : IvT T) (o : OkT T) : ∀ n a b, a + b ≤ n → a < T.length → b < T.length → ¬ Und T a b → ¬ Und T b a → (ndT T a).hi < (ndT T b).lo ∨ (ndT T b).hi < (ndT T a).lo := by
  intro n
  induction n with
  | zero =>
    intro a b h _ _ h1 _
    obtain rfl : a = 0 := by omega
    obtain rfl : b = 0 := by omega
    exact absurd (.refl _) h1
  | succ n ih =>
    have step : ∀ a b, a + b ≤ n + 1 → b < a → a < T.length → b < T.length → ¬ Und T a b → ¬ Und T b a → (ndT T a).hi < (ndT T b).lo ∨ (ndT T b).hi < (ndT T a).lo := by
      intro a b hs hlt ha hb h1 h2
      have h0 : 0 < a := by omega
      have hp := o.lt a h0 ha
      have hs1 := v.sub a h0 ha
      by_cases h3 : Und T b (ndT T a).par
      · by_cases hbe : b = (ndT T a).par
        · exact absurd (.up h0 ha (by rw [← hbe]; exact .refl _)) h1
        · obtain ⟨c, hc, hu⟩ := h3.down hbe
          obtain ⟨c0, c1, c2⟩ := mem_kids.1 hc
          have hi := v.und hu
          by_cases hca : c = a
          · subst hca; exact absurd hu h2
          · by_cases hl : c < a
            · have := v.sib c a c0 hl ha c2; omega
            · have := v.sib a c h0 (by omega) c1 c2.symm; omega
      · have h4 : ¬ Und T (ndT T a).par b := fun k => h1 (.up h0 ha k)
        have := ih (ndT T a).par b (by omega) (by omega) hb h4 h3
        omega
    intro a b hs ha hb h1 h2
    rcases Nat.lt_trichotomy a b with h | h | h
    · have := step b a (by omega) h hb ha h2 h1; omega
    · subst h; exact absurd (.refl _) h1
    · exact step a b hs h ha hb h1 h2
/-- One stands under another one just if its interval lies within that one's. -/
theorem IvT.iff {T : List Nd} (v : IvT T) (o : OkT T) {a b : Nat} (ha : a < T.length) (hb : b < T.length) : Und T a b ↔ ((ndT T b).lo ≤ (ndT T a).lo ∧ (ndT T a).hi ≤ (ndT T b).hi) := by
  constructor
  · exact v.und
  · intro h
    by_cases h1 : Und T a b
    · exact h1
    exfalso
    have ka := v.ok a ha
    have kb := v.ok b hb
    by_cases h2 : Und T b a
    · have := v.under h2 (fun e => h1 (by rw [e]; exact .refl _)); omega
    · have := v.apart o (a + b) a b (Nat.le_refl _) ha hb h1 h2; omega
end Go.Proofs.Ytefgnemcjgibaaa
