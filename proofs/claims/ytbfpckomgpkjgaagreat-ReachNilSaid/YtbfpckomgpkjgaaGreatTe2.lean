/-
  tree, pure: sizes, and numbers that are dealt anew.
-/
import Derived.Test.YtbfpckomgpkjgaaGreatPRnQ0
namespace Go.Proofs.YtbfpckomgpkjgaaGreat

def bS (U g : Nat → Nat) (j : Nat) : Nat → Nat → Nat
  | _, 0 => 0
  | a, n + 1 => (if U a = j then g a else 0) + bS U g j (a + 1) n
theorem bS_congr {U g g' : Nat → Nat} {j : Nat} : ∀ {a n : Nat}, (∀ k, a ≤ k → k < a + n → g k = g' k) → bS U g j a n = bS U g' j a n
  | _, 0, _ => rfl
  | a, n + 1, h => by
    unfold bS
    rw [bS_congr (a := a + 1) (n := n) (fun k h1 h2 => h k (by omega) (by omega)), h a (Nat.le_refl _) (by omega)]
theorem bS_snoc {U g : Nat → Nat} {j : Nat} : ∀ {a n : Nat}, bS U g j a (n + 1) = bS U g j a n + (if U (a + n) = j then g (a + n) else 0)
  | a, 0 => by simp [bS]
  | a, n + 1 => by
    have ih := bS_snoc (U := U) (g := g) (j := j) (a := a + 1) (n := n)
    have e : a + 1 + n = a + (n + 1) := by omega
    rw [e] at ih
    conv => lhs; unfold bS
    rw [ih]
    conv => rhs; unfold bS
    omega
theorem bS_mono {U g : Nat → Nat} {j a n m : Nat} (h : n ≤ m) : bS U g j a n ≤ bS U g j a m := by
  induction m with
  | zero => obtain rfl : n = 0 := by omega
            exact Nat.le_refl _
  | succ m ih =>
    by_cases e : n = m + 1
    · subst e; exact Nat.le_refl _
    · have := ih (by omega); rw [bS_snoc]; omega
theorem bS_two {U S : Nat → Nat} {j : Nat} : ∀ {a n : Nat}, bS U (fun k => 2 * S k - 1) j a n ≤ 2 * bS U S j a n
  | _, 0 => Nat.le_refl _
  | a, n + 1 => by
    have ih := bS_two (U := U) (S := S) (j := j) (a := a + 1) (n := n)
    unfold bS
    by_cases h : U a = j
    · simp only [h, if_true]; omega
    · simp only [h, if_false]; omega
def upQ (Q : List (Nat × Nat)) (k : Nat) : Nat := (Q.getD k (0, 0)).2
def nQ (Q : List (Nat × Nat)) (k : Nat) : Nat := (Q.getD k (0, 0)).1
theorem q_at {Q : List (Nat × Nat)} {k : Nat} (h : k < Q.length) : Q[k]? = some (nQ Q k, upQ Q k) := by
  simp [nQ, upQ, List.getD_eq_getElem?_getD, h]
def gN (S : List Nat) (k : Nat) : Nat := S.getD k 0
theorem gN_set {S : List Nat} {a x : Nat} (h : a < S.length) (k : Nat) : gN (S.set a x) k = if k = a then x else gN S k := by
  unfold gN
  rw [List.getD_eq_getElem?_getD, List.getD_eq_getElem?_getD, List.getElem?_set]
  by_cases e : a = k
  · subst e; simp [h]
  · have e2 : ¬ k = a := fun h => e h.symm
    simp [e, e2]
/-- Sizes, behind the round at place a. -/
def szStep (Q : List (Nat × Nat)) (S : List Nat) (a : Nat) : List Nat :=
  let S1 := S.set a (gN S a + 1)
  if 0 < a then S1.set (upQ Q a) (gN S1 (upQ Q a) + gN S1 a) else S1
def szF (Q : List (Nat × Nat)) : Nat → List Nat
  | 0 => List.replicate Q.length 0
  | i + 1 => szStep Q (szF Q i) (Q.length - 1 - i)
def tS (g : Nat → Nat) : Nat → Nat
  | 0 => 0
  | a + 1 => tS g a + g a
theorem tS_congr {g g' : Nat → Nat} : ∀ {a : Nat}, (∀ k, k < a → g k = g' k) → tS g a = tS g' a
  | 0, _ => rfl
  | a + 1, h => by unfold tS; rw [tS_congr (a := a) (fun k hk => h k (by omega)), h a (by omega)]
theorem tS_one {g g' : Nat → Nat} {u d : Nat} : ∀ {a : Nat}, u < a → (∀ k, k < a → g' k = if k = u then g k + d else g k) → tS g' a = tS g a + d
  | 0, h, _ => absurd h (Nat.not_lt_zero _)
  | a + 1, h, e => by
    unfold tS
    by_cases hu : u = a
    · subst hu
      have h1 := tS_congr (g := g') (g' := g) (a := u) (fun k hk => by rw [e k (by omega), if_neg (by omega)])
      rw [h1, e u (by omega), if_pos rfl]; omega
    · have ih := tS_one (g := g) (g' := g') (u := u) (d := d) (a := a) (by omega) (fun k hk => e k (by omega))
      rw [ih, e a (by omega), if_neg (by omega)]; omega
theorem tS_zero {g : Nat → Nat} (h : ∀ k, g k = 0) : ∀ a, tS g a = 0
  | 0 => rfl
  | a + 1 => by unfold tS; rw [tS_zero h a, h a]
/-- Sizes: one more than those of the children come to. -/
structure SzOk (Q : List (Nat × Nat)) (S : List Nat) : Prop where
  len : S.length = Q.length
  eq : ∀ j, j < Q.length → gN S j = 1 + bS (upQ Q) (gN S) j 1 (Q.length - 1)
  top : gN S 0 = Q.length
theorem szF_len (Q : List (Nat × Nat)) : ∀ i, (szF Q i).length = Q.length
  | 0 => by simp [szF]
  | i + 1 => by
    have ih := szF_len Q i
    unfold szF szStep
    simp only
    split
    · simp [ih]
    · simp [ih]
theorem szF_mid {Q : List (Nat × Nat)} (hu : ∀ k, 0 < k → k < Q.length → upQ Q k < k) : ∀ i, i < Q.length → (∀ j, j < Q.length → gN (szF Q i) j = (if Q.length - i ≤ j then 1 else 0) + bS (upQ Q) (gN (szF Q i)) j (Q.length - i) i) ∧ tS (gN (szF Q i)) (Q.length - i) = i
  | 0, h => by
    have e : ∀ k, gN (szF Q 0) k = 0 := fun k => by
      unfold gN szF
      rw [List.getD_eq_getElem?_getD, List.getElem?_replicate]
      by_cases h : k < Q.length <;> simp [h]
    refine ⟨fun j hj => ?_, tS_zero e _⟩
    rw [e, if_neg (by omega)]; rfl
  | i + 1, h => by
    obtain ⟨ih, it⟩ := szF_mid hu i (by omega)
    have hl := szF_len Q i
    obtain ⟨a, ha⟩ : ∃ a, Q.length - i = a + 1 := ⟨Q.length - i - 1, by omega⟩
    have ha2 : Q.length - (i + 1) = a := by omega
    have ha3 : Q.length - 1 - i = a := by omega
    have ha4 : 0 < a := by omega
    have hua := hu a ha4 (by omega)
    rw [ha] at ih it
    generalize hS : szF Q i = S at *
    have hS2 : szF Q (i + 1) = (S.set a (gN S a + 1)).set (upQ Q a) (gN S (upQ Q a) + (gN S a + 1)) := by
      unfold szF szStep
      rw [hS, ha3]
      simp only [ha4, if_true]
      rw [gN_set (by omega), gN_set (by omega), if_neg (by omega), if_pos rfl]
    have g2 : ∀ k, gN (szF Q (i + 1)) k = if k = upQ Q a then gN S k + (gN S a + 1) else if k = a then gN S a + 1 else gN S k := by
      intro k
      rw [hS2, gN_set (by rw [List.length_set]; omega), gN_set (by omega)]
      by_cases e : k = upQ Q a
      · rw [if_pos e, if_pos e, e]
      · rw [if_neg e, if_neg e]
    have hc : ∀ j, bS (upQ Q) (gN (szF Q (i + 1))) j (a + 1) i = bS (upQ Q) (gN S) j (a + 1) i := fun j => bS_congr (fun k h1 h2 => by rw [g2, if_neg (by omega), if_neg (by omega)])
    refine ⟨fun j hj => ?_, ?_⟩
    · rw [ha2]
      have e0 : bS (upQ Q) (gN (szF Q (i + 1))) j a (i + 1) = (if upQ Q a = j then gN (szF Q (i + 1)) a else 0) + bS (upQ Q) (gN (szF Q (i + 1))) j (a + 1) i := rfl
      have ga : gN (szF Q (i + 1)) a = gN S a + 1 := by rw [g2, if_neg (by omega), if_pos rfl]
      rw [e0, hc, ga, g2 j]
      have := ih j hj
      by_cases e1 : j = upQ Q a
      · rw [if_pos e1, if_neg (show ¬ a ≤ j by omega), if_pos e1.symm]
        rw [if_neg (by omega)] at this
        omega
      · rw [if_neg e1, if_neg (show ¬ upQ Q a = j from fun h => e1 h.symm)]
        by_cases e2 : j = a
        · subst e2
          rw [if_pos rfl, if_pos (Nat.le_refl _)]
          rw [if_neg (by omega)] at this
          omega
        · rw [if_neg e2]
          by_cases e3 : a ≤ j
          · rw [if_pos e3]; rw [if_pos (by omega)] at this; omega
          · rw [if_neg e3]; rw [if_neg (by omega)] at this; omega
    · rw [ha2]
      have e1 : tS (gN S) a + gN S a = i := it
      have := tS_one (g := gN S) (g' := gN (szF Q (i + 1))) (u := upQ Q a) (d := gN S a + 1) (a := a) hua (fun k hk => by
        rw [g2]
        by_cases e : k = upQ Q a
        · rw [if_pos e, if_pos e]
        · rw [if_neg e, if_neg e, if_neg (by omega)])
      omega
theorem szF_ok {Q : List (Nat × Nat)} (h0 : 0 < Q.length) (hu : ∀ k, 0 < k → k < Q.length → upQ Q k < k) : SzOk Q (szF Q Q.length) := by
  obtain ⟨q, hq⟩ : ∃ q, Q.length = q + 1 := ⟨Q.length - 1, by omega⟩
  obtain ⟨h1, h2⟩ := szF_mid hu q (by omega)
  have hl := szF_len Q q
  have e1 : Q.length - q = 1 := by omega
  have e2 : Q.length - 1 - q = 0 := by omega
  rw [e1] at h1 h2
  have hS2 : szF Q Q.length = (szF Q q).set 0 (gN (szF Q q) 0 + 1) := by
    rw [hq]
    conv => lhs; unfold szF szStep
    rw [e2]
    simp
  have g2 : ∀ k, gN (szF Q Q.length) k = if k = 0 then gN (szF Q q) 0 + 1 else gN (szF Q q) k := fun k => by
    rw [hS2, gN_set (by omega)]
  have h3 : gN (szF Q q) 0 = q := by have : 0 + gN (szF Q q) 0 = q := h2; omega
  refine ⟨szF_len _ _, fun j hj => ?_, ?_⟩
  · have e3 : Q.length - 1 = q := by omega
    rw [e3, bS_congr (g' := gN (szF Q q)) (fun k h1 h2 => by rw [g2, if_neg (by omega)]), g2]
    have := h1 j hj
    by_cases e : j = 0
    · subst e
      rw [if_pos rfl]
      rw [if_neg (by omega)] at this
      omega
    · rw [if_neg e]
      rw [if_pos (by omega)] at this
      exact this
  · rw [g2, if_pos rfl, h3, hq]

theorem bS_mem {U g : Nat → Nat} {j k : Nat} : ∀ {a n : Nat}, a ≤ k → k < a + n → U k = j → g k ≤ bS U g j a n
  | a, 0, h1, h2, _ => by omega
  | a, n + 1, h1, h2, h3 => by
    unfold bS
    by_cases e : a = k
    · subst e; rw [if_pos h3]; omega
    · have := bS_mem (U := U) (g := g) (j := j) (k := k) (a := a + 1) (n := n) (by omega) (by omega) h3; omega
theorem sz_le {Q : List (Nat × Nat)} {S : List Nat} (z : SzOk Q S) (u0 : upQ Q 0 = 0) (hu : ∀ k, 0 < k → k < Q.length → upQ Q k < k) : ∀ k, k < Q.length → gN S k ≤ Q.length := by
  intro k
  induction k using Nat.strongRecOn with
  | ind k ih =>
    intro hk
    by_cases h0 : k = 0
    · subst h0; rw [z.top]; exact Nat.le_refl _
    · have h1 := hu k (by omega) hk
      have h2 := ih _ h1 (by omega)
      have h3 := z.eq (upQ Q k) (by omega)
      have h4 := bS_mem (U := upQ Q) (g := gN S) (j := upQ Q k) (k := k) (a := 1) (n := Q.length - 1) (by omega) (by omega) rfl
      omega
/-- Numbers dealt: the tree and what each has left, behind i rounds. -/
def setIv (T : List Nd) (m lo hi : Nat) : List Nd := T.set m { ndT T m with lo := lo, hi := hi }
def dT (Q : List (Nat × Nat)) (S : List Nat) (sh : Nat) (T : List Nd) : Nat → List Nd × List Nat
  | 0 => (T, List.replicate Q.length 0)
  | i + 1 =>
    let r := dT Q S sh T i
    if i = 0 then (r.1, r.2.set 0 (ndT r.1 (nQ Q 0)).lo)
    else
      let lo := gN r.2 (upQ Q i)
      let up := lo + sh * (2 * gN S i - 1)
      (setIv r.1 (nQ Q i) lo (up - 1), (r.2.set (upQ Q i) up).set i lo)
theorem ndT_set {T : List Nd} {m : Nat} (h : m < T.length) (x : Nd) (k : Nat) : ndT (T.set m x) k = if k = m then x else ndT T k := by
  unfold ndT
  rw [List.getD_eq_getElem?_getD, List.getD_eq_getElem?_getD, List.getElem?_set]
  by_cases e : m = k
  · subst e; simp [h]
  · have e2 : ¬ k = m := fun h => e h.symm
    simp [e, e2]
structure Dl (Q : List (Nat × Nat)) (S : List Nat) (sh : Nat) (T : List Nd) (i : Nat) (r : List Nd × List Nat) : Prop where
  par : SamePar T r.1
  dep : ∀ n, (ndT r.1 n).dep = (ndT T n).dep
  keep : ∀ m, (∀ k, 0 < k → k < i → nQ Q k ≠ m) → ndT r.1 m = ndT T m
  fl : r.2.length = Q.length
  f : ∀ j, j < i → gN r.2 j = (ndT r.1 (nQ Q j)).lo + sh * bS (upQ Q) (fun k => 2 * gN S k - 1) j 1 (i - 1)
  set : ∀ k, 0 < k → k < i → (ndT r.1 (nQ Q k)).lo = (ndT r.1 (nQ Q (upQ Q k))).lo + sh * bS (upQ Q) (fun k => 2 * gN S k - 1) (upQ Q k) 1 (k - 1) ∧ (ndT r.1 (nQ Q k)).hi = (ndT r.1 (nQ Q k)).lo + sh * (2 * gN S k - 1) - 1
theorem dT_ok {Q : List (Nat × Nat)} {S : List Nat} {sh : Nat} {T : List Nd} (hu : ∀ k, 0 < k → k < Q.length → upQ Q k < k) (hn : ∀ j k, j < Q.length → k < Q.length → nQ Q j = nQ Q k → j = k) (hr : ∀ k, k < Q.length → nQ Q k < T.length) : ∀ i, i ≤ Q.length → Dl Q S sh T i (dT Q S sh T i)
  | 0, _ => ⟨⟨rfl, fun _ => rfl⟩, fun _ => rfl, fun _ _ => rfl, by simp [dT], fun j hj => absurd hj (Nat.not_lt_zero _), fun k _ hk => absurd hk (Nat.not_lt_zero _)⟩
  | i + 1, h => by
    have ih := dT_ok (S := S) (sh := sh) hu hn hr i (by omega)
    by_cases h0 : i = 0
    · subst h0
      have e : dT Q S sh T 1 = (T, (List.replicate Q.length 0).set 0 (ndT T (nQ Q 0)).lo) := rfl
      rw [e]
      refine ⟨⟨rfl, fun _ => rfl⟩, fun _ => rfl, fun _ _ => rfl, by simp, fun j hj => ?_, fun k h1 h2 => by omega⟩
      obtain rfl : j = 0 := by omega
      rw [gN_set (by simp; omega), if_pos rfl]; rfl
    · generalize hR : dT Q S sh T i = r at *
      have e : dT Q S sh T (i + 1) = (setIv r.1 (nQ Q i) (gN r.2 (upQ Q i)) (gN r.2 (upQ Q i) + sh * (2 * gN S i - 1) - 1), (r.2.set (upQ Q i) (gN r.2 (upQ Q i) + sh * (2 * gN S i - 1))).set i (gN r.2 (upQ Q i))) := by
        show (if i = 0 then _ else _) = _
        rw [if_neg h0, hR]
      have hui := hu i (by omega) (by omega)
      have hni := hr i (by omega)
      have nd : ∀ n, ndT (setIv r.1 (nQ Q i) (gN r.2 (upQ Q i)) (gN r.2 (upQ Q i) + sh * (2 * gN S i - 1) - 1)) n = if n = nQ Q i then { ndT r.1 (nQ Q i) with lo := gN r.2 (upQ Q i), hi := gN r.2 (upQ Q i) + sh * (2 * gN S i - 1) - 1 } else ndT r.1 n := fun n => by
        unfold setIv
        exact ndT_set (by rw [ih.par.1]; exact hni) _ n
      have ne : ∀ j, j < i → nQ Q j ≠ nQ Q i := fun j hj e => by have := hn j i (by omega) (by omega) e; omega
      have g2 : ∀ j, j ≠ i → gN ((r.2.set (upQ Q i) (gN r.2 (upQ Q i) + sh * (2 * gN S i - 1))).set i (gN r.2 (upQ Q i))) j = if j = upQ Q i then gN r.2 (upQ Q i) + sh * (2 * gN S i - 1) else gN r.2 j := fun j hj => by
        rw [gN_set (by rw [List.length_set, ih.fl]; omega), if_neg hj, gN_set (by rw [ih.fl]; omega)]
      have sn : ∀ j, bS (upQ Q) (fun k => 2 * gN S k - 1) j 1 i = bS (upQ Q) (fun k => 2 * gN S k - 1) j 1 (i - 1) + (if upQ Q i = j then 2 * gN S i - 1 else 0) := fun j => by
        obtain ⟨p, rfl⟩ : ∃ p, i = p + 1 := ⟨i - 1, by omega⟩
        rw [bS_snoc, Nat.add_sub_cancel, Nat.add_comm 1 p]
      have z0 : ∀ n a, bS (upQ Q) (fun k => 2 * gN S k - 1) i 1 n = 0 ∨ i < n + a := by
        intro n a
        by_cases hlt : i < n + a
        · exact .inr hlt
        · left
          have key : ∀ n, n < i → bS (upQ Q) (fun k => 2 * gN S k - 1) i 1 n = 0 := by
            intro n
            induction n with
            | zero => intro _; rfl
            | succ n ihn =>
              intro hn2
              rw [bS_snoc, ihn (by omega), if_neg (by have := hu (1 + n) (by omega) (by omega); omega)]
          by_cases hni2 : n < i
          · exact key n hni2
          · obtain rfl : n = i := by omega
            rw [sn, key (n - 1) (by omega), if_neg (by omega)]
      rw [e]
      refine ⟨⟨?_, fun n => ?_⟩, fun n => ?_, fun m hm => ?_, ?_, fun j hj => ?_, fun k hk0 hk => ?_⟩
      · unfold setIv; rw [List.length_set]; exact ih.par.1
      · show (ndT (setIv _ _ _ _) n).par = _
        rw [nd]
        by_cases hh : n = nQ Q i
        · rw [if_pos hh, hh]; exact ih.par.2 _
        · rw [if_neg hh]; exact ih.par.2 _
      · show (ndT (setIv _ _ _ _) n).dep = _
        rw [nd]
        by_cases hh : n = nQ Q i
        · rw [if_pos hh, hh]; exact ih.dep _
        · rw [if_neg hh]; exact ih.dep _
      · show ndT (setIv _ _ _ _) m = _
        rw [nd, if_neg (fun hh => hm i (by omega) (by omega) hh.symm)]
        exact ih.keep m (fun k h1 h2 => hm k h1 (by omega))
      · simp [ih.fl]
      · show gN _ j = (ndT (setIv _ _ _ _) _).lo + _
        rw [nd, Nat.add_sub_cancel]
        by_cases hji : j = i
        · subst hji
          rw [if_pos rfl, gN_set (by rw [List.length_set, ih.fl]; omega), if_pos rfl]
          have h9 : bS (upQ Q) (fun k => 2 * gN S k - 1) j 1 j = 0 := by rcases z0 j 0 with h | h; exact h; omega
          rw [h9]
          rfl
        · rw [if_neg (ne j (by omega)), g2 j hji, sn]
          have := ih.f j (by omega)
          by_cases hju : j = upQ Q i
          · subst hju
            rw [if_pos rfl, if_pos rfl, this, Nat.mul_add]; omega
          · rw [if_neg hju, if_neg (fun h => hju h.symm), this, Nat.add_zero]
      · dsimp only
        have huk := hu k hk0 (by omega)
        rw [nd, nd]
        by_cases hki : k = i
        · subst hki
          rw [if_pos rfl, if_neg (ne _ (by omega))]
          exact ⟨ih.f (upQ Q k) hui, rfl⟩
        · rw [if_neg (ne k (by omega)), if_neg (ne _ (by omega))]
          exact ih.set k hk0 (by omega)
/-- What has to hold of intervals ahead of a dealing: all but those strictly under the top. -/
structure IvOut (T : List Nd) (top : Nat) : Prop where
  ok : ∀ n, n < T.length → (n = top ∨ ¬ Und T n top) → 1 ≤ (ndT T n).lo ∧ (ndT T n).lo ≤ (ndT T n).hi ∧ (ndT T n).hi ≤ 4611686018427387904
  sub : ∀ n, 0 < n → n < T.length → (n = top ∨ ¬ Und T n top) → (ndT T (ndT T n).par).lo ≤ (ndT T n).lo ∧ (ndT T n).hi < (ndT T (ndT T n).par).hi
  sib : ∀ a b, 0 < a → a < b → b < T.length → (a = top ∨ ¬ Und T a top) → (b = top ∨ ¬ Und T b top) → (ndT T a).par = (ndT T b).par → (ndT T a).hi < (ndT T b).lo
theorem und_same {T T' : List Nd} (h : SamePar T T') {a b : Nat} (k : Und T a b) : Und T' a b := by
  induction k with
  | refl a => exact .refl a
  | up h0 h1 _ ih => exact .up h0 (by rw [h.1]; exact h1) (by rw [h.2]; exact ih)
theorem SamePar.symm {T T' : List Nd} (h : SamePar T T') : SamePar T' T := ⟨h.1.symm, fun n => (h.2 n).symm⟩
theorem OkT.same {T T' : List Nd} (o : OkT T) (h : SamePar T T') (hd : ∀ n, (ndT T' n).dep = (ndT T n).dep) (hr : ndT T' 0 = ndT T 0) : OkT T' where
  ne := by rw [h.1]; exact o.ne
  r := by rw [hr]; exact o.r
  lt n h0 h1 := by rw [h.2]; exact o.lt n h0 (by rw [← h.1]; exact h1)
  dep n h0 h1 := by rw [hd, h.2, hd]; exact o.dep n h0 (by rw [← h.1]; exact h1)
  max := by rw [h.1]; exact o.max
/-- Whole queues. -/
structure Wq (T : List Nd) (top : Nat) (Q : List (Nat × Nat)) : Prop where
  q0 : 0 < Q.length
  n0 : nQ Q 0 = top
  u0 : upQ Q 0 = 0
  hu : ∀ k, 0 < k → k < Q.length → upQ Q k < k
  hn : ∀ j k, j < Q.length → k < Q.length → nQ Q j = nQ Q k → j = k
  hr : ∀ k, k < Q.length → nQ Q k < T.length
  par : ∀ k, 0 < k → k < Q.length → 0 < nQ Q k ∧ (ndT T (nQ Q k)).par = nQ Q (upQ Q k)
  ord : ∀ j k, 0 < j → j < k → k < Q.length → upQ Q j = upQ Q k → nQ Q j < nQ Q k
  mem : ∀ m, m < T.length → Und T m top → ∃ k, k < Q.length ∧ nQ Q k = m
  und : ∀ k, k < Q.length → Und T (nQ Q k) top
theorem Bf.wq {T : List Nd} (o : OkT T) {top : Nat} {Q : List (Nat × Nat)} (b : Bf T top 0 Q.length Q) (ht : top < T.length) : Wq T top Q where
  q0 := b.len.1
  n0 := by have := q_at b.len.1; rw [b.hd] at this; injection this with this; injection this with h1 h2; exact h1.symm
  u0 := by have := q_at b.len.1; rw [b.hd] at this; injection this with this; injection this with h1 h2; exact h2.symm
  hu k h0 hk := (b.up k _ h0 (q_at hk)).1
  hn j k hj hk e := get_fst b.nd (q_at hj) (q_at hk) e
  hr k hk := (b.und _ (List.mem_of_getElem? (q_at hk))).1
  par k h0 hk := by
    obtain ⟨h1, h2, h3, u, h4, h5⟩ := b.up k _ h0 (q_at hk)
    rw [q_at (by simp only at h1; omega)] at h4
    injection h4 with h4
    rw [← h4] at h5
    exact ⟨(mem_kids.1 h5).1, (mem_kids.1 h5).2.2⟩
  ord j k h0 hjk hk e := b.ord j k _ _ h0 hjk (q_at (by omega)) (q_at hk) e
  mem m hm hu := by
    obtain ⟨s, hs, rfl⟩ := List.mem_map.1 ((b.mem o ht (.inl rfl) m).2 ⟨hm, hu, fun h => absurd rfl h⟩)
    obtain ⟨k, hk, hks⟩ := List.getElem_of_mem hs
    refine ⟨k, hk, ?_⟩
    have := q_at hk
    rw [List.getElem?_eq_getElem hk, hks] at this
    injection this with this
    rw [this]
  und k hk := (b.und _ (List.mem_of_getElem? (q_at hk))).2
/-- What all have left stays in the top's interval. -/
theorem Dl.bound {Q : List (Nat × Nat)} {S : List Nat} {sh : Nat} {T : List Nd} {top i : Nat} {r : List Nd × List Nat} (d : Dl Q S sh T i r) (w : Wq T top Q) (z : SzOk Q S) (hi : i ≤ Q.length) : ∀ k, k < i → (ndT r.1 (nQ Q k)).lo + sh * (2 * gN S k - 1) ≤ (ndT T top).lo + sh * (2 * Q.length - 1) := by
  intro k
  induction k using Nat.strongRecOn with
  | ind k ih =>
    intro hk
    by_cases h0 : k = 0
    · subst h0
      rw [w.n0, d.keep top (fun k h1 h2 e => by have := w.hn k 0 (by omega) w.q0 (by rw [e, w.n0]); omega), z.top]
      exact Nat.le_refl _
    · have huk := w.hu k (by omega) (by omega)
      have h1 := ih _ huk (by omega)
      have h2 := (d.set k (by omega) hk).1
      have h3 : bS (upQ Q) (fun k => 2 * gN S k - 1) (upQ Q k) 1 (k - 1) + (2 * gN S k - 1) ≤ 2 * gN S (upQ Q k) - 1 := by
        have e1 : bS (upQ Q) (fun k => 2 * gN S k - 1) (upQ Q k) 1 k = bS (upQ Q) (fun k => 2 * gN S k - 1) (upQ Q k) 1 (k - 1) + (2 * gN S k - 1) := by
          obtain ⟨p, rfl⟩ : ∃ p, k = p + 1 := ⟨k - 1, by omega⟩
          rw [bS_snoc, Nat.add_sub_cancel, Nat.add_comm 1 p, if_pos rfl]
        have e2 := bS_mono (U := upQ Q) (g := fun k => 2 * gN S k - 1) (j := upQ Q k) (a := 1) (n := k) (m := Q.length - 1) (by omega)
        have e3 := bS_two (U := upQ Q) (S := gN S) (j := upQ Q k) (a := 1) (n := Q.length - 1)
        have e4 := z.eq (upQ Q k) (by omega)
        omega
      have h4 := Nat.mul_le_mul_left sh h3
      rw [Nat.mul_add] at h4
      omega
/-- Behind a dealing the intervals are such as is said. -/
theorem deal_iv {Q : List (Nat × Nat)} {S : List Nat} {sh : Nat} {T : List Nd} {top : Nat} {r : List Nd × List Nat} (o : OkT T) (d : Dl Q S sh T Q.length r) (w : Wq T top Q) (z : SzOk Q S) (v : IvOut T top) (ht : top < T.length) (h1 : 1 ≤ sh) (hw : sh * (2 * Q.length - 1) ≤ (ndT T top).hi - (ndT T top).lo + 1) : IvT r.1 := by
  have kp : ∀ m, (m = top ∨ ¬ Und T m top) → ndT r.1 m = ndT T m := fun m hm => d.keep m (fun k g1 g2 e => by
    rcases hm with hm | hm
    · have := w.hn k 0 g2 w.q0 (by rw [e, w.n0, hm]); omega
    · exact hm (e ▸ w.und k g2))
  have ktop := kp top (.inl rfl)
  have otop := v.ok top ht (.inl rfl)
  have fit : ∀ k, k < Q.length → (ndT r.1 (nQ Q k)).lo + sh * (2 * gN S k - 1) ≤ (ndT r.1 (nQ Q k)).hi + 1 := by
    intro k hk
    by_cases h0 : k = 0
    · subst h0
      rw [w.n0, ktop, z.top]; omega
    · rw [(d.set k (by omega) hk).2]; omega
  have sz1 : ∀ k, k < Q.length → 1 ≤ gN S k := fun k hk => by have := z.eq k hk; omega
  have m1 : ∀ k, k < Q.length → 1 ≤ sh * (2 * gN S k - 1) := fun k hk => by
    have := sz1 k hk
    exact Nat.mul_le_mul h1 (show 1 ≤ 2 * gN S k - 1 by omega)
  have nx : ∀ k, 0 < k → k < Q.length → (ndT r.1 (nQ Q k)).hi + 1 = (ndT r.1 (nQ Q (upQ Q k))).lo + sh * bS (upQ Q) (fun k => 2 * gN S k - 1) (upQ Q k) 1 k := by
    intro k h0 hk
    obtain ⟨e1, e2⟩ := d.set k h0 hk
    have e3 : bS (upQ Q) (fun k => 2 * gN S k - 1) (upQ Q k) 1 k = bS (upQ Q) (fun k => 2 * gN S k - 1) (upQ Q k) 1 (k - 1) + (2 * gN S k - 1) := by
      obtain ⟨p, rfl⟩ : ∃ p, k = p + 1 := ⟨k - 1, by omega⟩
      rw [bS_snoc, Nat.add_sub_cancel, Nat.add_comm 1 p, if_pos rfl]
    have := m1 k hk
    rw [e2, e1, e3, Nat.mul_add]
    omega
  have sub : ∀ k, 0 < k → k < Q.length → (ndT r.1 (nQ Q (upQ Q k))).lo ≤ (ndT r.1 (nQ Q k)).lo ∧ (ndT r.1 (nQ Q k)).hi < (ndT r.1 (nQ Q (upQ Q k))).hi := by
    intro k h0 hk
    have huk := w.hu k h0 hk
    refine ⟨by rw [(d.set k h0 hk).1]; omega, ?_⟩
    have e1 := nx k h0 hk
    have e2 := bS_mono (U := upQ Q) (g := fun k => 2 * gN S k - 1) (j := upQ Q k) (a := 1) (n := k) (m := Q.length - 1) (by omega)
    have e3 := bS_two (U := upQ Q) (S := gN S) (j := upQ Q k) (a := 1) (n := Q.length - 1)
    have e4 := z.eq (upQ Q k) (by omega)
    have e5 := fit (upQ Q k) (by omega)
    have e6 : sh * bS (upQ Q) (fun k => 2 * gN S k - 1) (upQ Q k) 1 k + sh * 1 ≤ sh * (2 * gN S (upQ Q k) - 1) := by
      rw [← Nat.mul_add]
      exact Nat.mul_le_mul_left sh (by omega)
    omega
  have inq : ∀ m, m < T.length → Und T m top → m ≠ top → ∃ k, 0 < k ∧ k < Q.length ∧ nQ Q k = m := by
    intro m hm hu hne
    obtain ⟨k, hk, e⟩ := w.mem m hm hu
    refine ⟨k, ?_, hk, e⟩
    by_cases h0 : k = 0
    · subst h0; exact absurd (by rw [← e, w.n0]) hne
    · omega
  have low : ∀ k, k < Q.length → (ndT T top).lo ≤ (ndT r.1 (nQ Q k)).lo ∧ (ndT r.1 (nQ Q k)).hi ≤ (ndT T top).hi := by
    intro k
    induction k using Nat.strongRecOn with
    | ind k ih =>
      intro hk
      by_cases h0 : k = 0
      · subst h0; rw [w.n0, ktop]; exact ⟨Nat.le_refl _, Nat.le_refl _⟩
      · have huk := w.hu k (by omega) hk
        have a1 := ih _ huk (by omega)
        have a2 := sub k (by omega) hk
        omega
  have cs : ∀ m, (m = top ∨ ¬ Und T m top) ∨ (Und T m top ∧ m ≠ top) := fun m => by
    by_cases h : m = top
    · exact .inl (.inl h)
    · by_cases h2 : Und T m top
      · exact .inr ⟨h2, h⟩
      · exact .inl (.inr h2)
  refine ⟨fun n hn => ?_, fun n h0 hn => ?_, fun a b h0 hab hb hp => ?_⟩
  · rw [d.par.1] at hn
    rcases cs n with h | ⟨h, hne⟩
    · rw [kp n h]; exact v.ok n hn h
    · obtain ⟨k, k0, hk, rfl⟩ := inq n hn h hne
      have := low k hk
      have := fit k hk
      have := m1 k hk
      omega
  · rw [d.par.1] at hn
    rw [d.par.2]
    rcases cs n with h | ⟨h, hne⟩
    · have hp : (ndT T n).par = top ∨ ¬ Und T (ndT T n).par top := by
        right
        intro hu
        rcases h with h | h
        · subst h
          have := hu.le o
          have := o.lt n h0 hn
          omega
        · exact h (.up h0 hn hu)
      rw [kp n h, kp _ hp]; exact v.sub n h0 hn h
    · obtain ⟨k, k0, hk, rfl⟩ := inq n hn h hne
      rw [(w.par k k0 hk).2]
      exact sub k k0 hk
  · rw [d.par.1] at hb
    rw [d.par.2, d.par.2] at hp
    have up : ∀ m, 0 < m → m < T.length → (Und T m top ∧ m ≠ top ↔ Und T (ndT T m).par top) := by
      intro m m0 hm
      constructor
      · rintro ⟨hu, hne⟩
        cases hu with
        | refl => exact absurd rfl hne
        | up _ _ h2 => exact h2
      · intro hu
        refine ⟨.up m0 hm hu, fun e => ?_⟩
        subst e
        have := hu.le o
        have := o.lt m m0 hm
        omega
    rcases cs a with ha | ha
    · rcases cs b with hb2 | hb2
      · rw [kp a ha, kp b hb2]; exact v.sib a b h0 hab hb ha hb2 hp
      · exfalso
        have h3 := (up b (by omega) hb).1 hb2
        rw [← hp] at h3
        obtain ⟨h4, h5⟩ := (up a h0 (by omega)).2 h3
        rcases ha with h | h
        · exact h5 h
        · exact h h4
    · have h3 := (up a h0 (by omega)).1 ha
      rw [hp] at h3
      obtain ⟨h4, h5⟩ := (up b (by omega) hb).2 h3
      obtain ⟨j, j0, hj, rfl⟩ := inq a (by omega) ha.1 ha.2
      obtain ⟨k, k0, hk, rfl⟩ := inq b hb h4 h5
      have hue : upQ Q j = upQ Q k := by
        refine w.hn _ _ (by have := w.hu j j0 hj; omega) (by have := w.hu k k0 hk; omega) ?_
        rw [← (w.par j j0 hj).2, ← (w.par k k0 hk).2]
        exact hp
      have hjk : j < k := by
        rcases Nat.lt_trichotomy j k with h | h | h
        · exact h
        · subst h; omega
        · have := w.ord k j k0 h hj hue.symm; omega
      have e1 := nx j j0 hj
      have e2 := (d.set k k0 hk).1
      rw [hue] at e1
      have e3 := bS_mono (U := upQ Q) (g := fun k => 2 * gN S k - 1) (j := upQ Q k) (a := 1) (n := j) (m := k - 1) (by omega)
      have e4 := Nat.mul_le_mul_left sh e3
      omega
end Go.Proofs.YtbfpckomgpkjgaaGreat
