/-
  merkle, plainly: sizes, and the way up from a leaf, by rows and by halves.
-/
import Derived.Test.YtgffpamaagkilaaDoorMk0
namespace Go.Proofs.YtgffpamaagkilaaDoor

/-- Is nothing beside the n-th of so many? -/
def aloneB (n c : Nat) : Bool := decide (n + 1 = c ∧ n % 2 = 0)
/-- How long the path of the n-th of so many is: by rows. -/
def szR (n c : Nat) : Nat := if h : c ≤ 1 then 0 else (if aloneB n c = true then 0 else 1) + szR (n / 2) ((c + 1) / 2)
termination_by c
decreasing_by omega
/-- The same by halves. -/
def szH (n c : Nat) : Nat := if h : c ≤ 1 then 0 else if n < half c then 1 + szH n (half c) else 1 + szH (n - half c) (c - half c)
termination_by c
decreasing_by
  · exact half_lt (by omega)
  · have := half_pos c; omega
theorem szR_one {n c : Nat} (h : c ≤ 1) : szR n c = 0 := by rw [szR, dif_pos h]
theorem szR_up {n c : Nat} (h : ¬ c ≤ 1) : szR n c = (if aloneB n c = true then 0 else 1) + szR (n / 2) ((c + 1) / 2) := by rw [szR, dif_neg h]
theorem szH_one {n c : Nat} (h : c ≤ 1) : szH n c = 0 := by rw [szH, dif_pos h]
theorem szH_left {n c : Nat} (h : ¬ c ≤ 1) (hn : n < half c) : szH n c = 1 + szH n (half c) := by rw [szH, dif_neg h, if_pos hn]
theorem szH_right {n c : Nat} (h : ¬ c ≤ 1) (hn : ¬ n < half c) : szH n c = 1 + szH (n - half c) (c - half c) := by rw [szH, dif_neg h, if_neg hn]

section
variable {α : Type} [Inhabited α] (kn : α → α → α)
theorem besR_len (n : Nat) (l : List α) : (besR kn n l).length = szR n l.length := by
  induction hm : l.length using Nat.strongRecOn generalizing l n with
  | ind m ih =>
    subst hm
    rw [besR]
    have hl := knotsL_len kn l
    split
    · next h => rw [szR_one h]; rfl
    · next h =>
      rw [szR_up h, List.length_append, ih _ (by omega) (n / 2) (knotsL kn l) rfl, hl]
      congr 1
      by_cases h1 : n + 1 = l.length ∧ n % 2 = 0
      · have ha : aloneB n l.length = true := decide_eq_true h1
        rw [ha, hereL, if_pos h1]; rfl
      · have ha : aloneB n l.length = false := decide_eq_false h1
        rw [ha, hereL, if_neg h1]
        split <;> rfl
theorem besH_len (n : Nat) (l : List α) : (besH kn n l).length = szH n l.length := by
  induction hm : l.length using Nat.strongRecOn generalizing l n with
  | ind m ih =>
    subst hm
    by_cases h : l.length ≤ 1
    · rw [besH_one kn h, szH_one h]; rfl
    · have hl := half_lt (n := l.length) (by omega)
      have hp := half_pos l.length
      by_cases hn : n < half l.length
      · rw [besH_left kn h hn, szH_left h hn, List.length_append, ih _ (by rw [List.length_take]; omega) n _ rfl, List.length_take, Nat.min_eq_left (by omega)]
        simp; omega
      · rw [besH_right kn h hn, szH_right h hn, List.length_append, ih _ (by rw [List.length_drop]; omega) _ _ rfl, List.length_drop]
        simp; omega
theorem sz_eq (n c : Nat) (h : n < c) : szR n c = szH n c := by
  have h1 := besR_len (fun a _ => a) n (List.replicate c (0 : Nat))
  have h2 := besH_len (fun a _ => a) n (List.replicate c (0 : Nat))
  rw [besR_eq _ _ _ (by simpa using h)] at h1
  rw [List.length_replicate] at h1 h2
  rw [← h1, ← h2]

/-- The way up from what stands at the n-th place of so many: by rows. -/
def ldR (x : α) (n c : Nat) (hs : List α) : α :=
  if h : c ≤ 1 then x else if aloneB n c = true then ldR x (n / 2) ((c + 1) / 2) hs else if n % 2 = 0 then ldR (kn x (hs.getD 0 default)) (n / 2) ((c + 1) / 2) (hs.drop 1) else ldR (kn (hs.getD 0 default) x) (n / 2) ((c + 1) / 2) (hs.drop 1)
termination_by c
decreasing_by all_goals omega
/-- The same by halves. -/
def ldH (x : α) (n c : Nat) (hs : List α) : α :=
  if h : c ≤ 1 then x else if n < half c then kn (ldH x n (half c) (hs.take (hs.length - 1))) (hs.getD (hs.length - 1) default) else kn (hs.getD (hs.length - 1) default) (ldH x (n - half c) (c - half c) (hs.take (hs.length - 1)))
termination_by c
decreasing_by
  · exact half_lt (by omega)
  · have := half_pos c; omega
theorem ldR_one {x : α} {n c : Nat} {hs : List α} (h : c ≤ 1) : ldR kn x n c hs = x := by rw [ldR, dif_pos h]
theorem ldR_alone {x : α} {n c : Nat} {hs : List α} (h : ¬ c ≤ 1) (ha : aloneB n c = true) : ldR kn x n c hs = ldR kn x (n / 2) ((c + 1) / 2) hs := by rw [ldR, dif_neg h, if_pos ha]
theorem ldR_even {x : α} {n c : Nat} {hs : List α} (h : ¬ c ≤ 1) (ha : ¬ aloneB n c = true) (he : n % 2 = 0) : ldR kn x n c hs = ldR kn (kn x (hs.getD 0 default)) (n / 2) ((c + 1) / 2) (hs.drop 1) := by rw [ldR, dif_neg h, if_neg ha, if_pos he]
theorem ldR_odd {x : α} {n c : Nat} {hs : List α} (h : ¬ c ≤ 1) (ha : ¬ aloneB n c = true) (he : ¬ n % 2 = 0) : ldR kn x n c hs = ldR kn (kn (hs.getD 0 default) x) (n / 2) ((c + 1) / 2) (hs.drop 1) := by rw [ldR, dif_neg h, if_neg ha, if_neg he]
theorem ldH_one {x : α} {n c : Nat} {hs : List α} (h : c ≤ 1) : ldH kn x n c hs = x := by rw [ldH, dif_pos h]
theorem ldH_left {x : α} {n c : Nat} {hs : List α} (h : ¬ c ≤ 1) (hn : n < half c) : ldH kn x n c hs = kn (ldH kn x n (half c) (hs.take (hs.length - 1))) (hs.getD (hs.length - 1) default) := by rw [ldH, dif_neg h, if_pos hn]
theorem ldH_right {x : α} {n c : Nat} {hs : List α} (h : ¬ c ≤ 1) (hn : ¬ n < half c) : ldH kn x n c hs = kn (hs.getD (hs.length - 1) default) (ldH kn x (n - half c) (c - half c) (hs.take (hs.length - 1))) := by rw [ldH, dif_neg h, if_neg hn]

/-- What a step by rows leaves: the hash, and the other hashes. -/
def stX (x : α) (n c : Nat) (hs : List α) : α := if aloneB n c = true then x else if n % 2 = 0 then kn x (hs.getD 0 default) else kn (hs.getD 0 default) x
def stH (n c : Nat) (hs : List α) : List α := if aloneB n c = true then hs else hs.drop 1
theorem ldR_step {x : α} {n c : Nat} {hs : List α} (h : ¬ c ≤ 1) : ldR kn x n c hs = ldR kn (stX kn x n c hs) (n / 2) ((c + 1) / 2) (stH n c hs) := by
  unfold stX stH
  by_cases ha : aloneB n c = true
  · rw [ldR_alone kn h ha, if_pos ha, if_pos ha]
  · rw [if_neg ha, if_neg ha]
    by_cases he : n % 2 = 0
    · rw [ldR_even kn h ha he, if_pos he]
    · rw [ldR_odd kn h ha he, if_neg he]
omit [Inhabited α] in
theorem take_drop_last {hs : List α} (h : 2 ≤ hs.length) : (hs.drop 1).take ((hs.drop 1).length - 1) = (hs.take (hs.length - 1)).drop 1 := by
  rw [List.drop_take, List.length_drop]
theorem ldH_step (x : α) (n c : Nat) (hs : List α) (hn : n < c) (hl : hs.length = szH n c) (h : ¬ c ≤ 1) : ldH kn x n c hs = ldH kn (stX kn x n c hs) (n / 2) ((c + 1) / 2) (stH n c hs) := by
  induction hm : c using Nat.strongRecOn generalizing c n hs with
  | ind m ih =>
    subst hm
    by_cases h2 : c = 2
    · subst h2
      have hl1 : hs.length = 1 := by
        rw [hl]
        have : n = 0 ∨ n = 1 := by omega
        rcases this with rfl | rfl
        · rw [szH_left (by omega) (by rw [half_two]; omega), half_two, szH_one (by omega)]
        · rw [szH_right (by omega) (by rw [half_two]; omega), half_two, szH_one (by omega)]
      match hs, hl1 with
      | [y], _ =>
        rw [ldH_one kn (c := (2 + 1) / 2) (by omega)]
        have : n = 0 ∨ n = 1 := by omega
        rcases this with rfl | rfl
        · rw [ldH_left kn (by omega) (by rw [half_two]; omega), half_two, ldH_one kn (by omega)]; rfl
        · rw [ldH_right kn (by omega) (by rw [half_two]; omega), half_two, ldH_one kn (by omega)]; rfl
    · have h3 : 3 ≤ c := by omega
      have hlt := half_lt (n := c) (by omega)
      have hu := half_up h3
      have hp := half_pos ((c + 1) / 2)
      by_cases hk : n < half c
      · have hs1 := szH_left h hk
        have hk1 : ¬ half c ≤ 1 := by omega
        have hs2 : 1 ≤ szH n (half c) := by
          by_cases hq : n < half (half c)
          · rw [szH_left hk1 hq]; omega
          · rw [szH_right hk1 hq]; omega
        have ha1 : aloneB n c = false := by simp [aloneB]; omega
        have ha2 : aloneB n (half c) = false := by simp [aloneB]; omega
        have hi := ih (half c) hlt n (half c) (hs.take (hs.length - 1)) hk (by rw [List.length_take]; omega) hk1 rfl
        rw [ldH_left kn h hk, hi]
        have e1 : (half c + 1) / 2 = half ((c + 1) / 2) := by omega
        rw [ldH_left kn (c := (c + 1) / 2) (by omega) (by omega), e1]
        have e2 : stX kn x n (half c) (hs.take (hs.length - 1)) = stX kn x n c hs := by
          unfold stX
          rw [ha1, ha2, getD_take (by omega)]
        have e3 : stH n (half c) (hs.take (hs.length - 1)) = (stH n c hs).take ((stH n c hs).length - 1) := by
          unfold stH
          rw [ha1, ha2]
          simp only [Bool.false_eq_true, if_false]
          exact (take_drop_last (by omega)).symm
        have e4 : (stH n c hs).getD ((stH n c hs).length - 1) default = hs.getD (hs.length - 1) default := by
          unfold stH
          rw [ha1]
          simp only [Bool.false_eq_true, if_false]
          rw [getD_drop, List.length_drop, show 1 + (hs.length - 1 - 1) = hs.length - 1 by omega]
        rw [e2, e3, e4]
      · have hs1 := szH_right h hk
        by_cases hc1 : c - half c ≤ 1
        · have hnk : n = half c := by omega
          have hcn : c = half c + 1 := by omega
          have ha : aloneB n c = true := by simp [aloneB]; omega
          have ex : stX kn x n c hs = x := by unfold stX; rw [if_pos ha]
          have eh : stH n c hs = hs := by unfold stH; rw [if_pos ha]
          rw [ex, eh, ldH_right kn h hk, ldH_one kn hc1]
          rw [ldH_right kn (c := (c + 1) / 2) (by omega) (by omega), ldH_one kn (by omega)]
        · have hs2 : 1 ≤ szH (n - half c) (c - half c) := by
            by_cases hq : n - half c < half (c - half c)
            · rw [szH_left hc1 hq]; omega
            · rw [szH_right hc1 hq]; omega
          have ha : aloneB (n - half c) (c - half c) = aloneB n c := by
            unfold aloneB
            apply decide_eq_decide.2
            omega
          have hi := ih (c - half c) (by omega) (n - half c) (c - half c) (hs.take (hs.length - 1)) (by omega) (by rw [List.length_take]; omega) hc1 rfl
          rw [ldH_right kn h hk, hi]
          have e0 : (n - half c) / 2 = n / 2 - half ((c + 1) / 2) := by omega
          have e1 : (c - half c + 1) / 2 = (c + 1) / 2 - half ((c + 1) / 2) := by omega
          have ep : (n - half c) % 2 = n % 2 := by omega
          rw [ldH_right kn (c := (c + 1) / 2) (by omega) (by omega), e0, e1]
          have e2 : stX kn x (n - half c) (c - half c) (hs.take (hs.length - 1)) = stX kn x n c hs := by
            unfold stX
            rw [ha, getD_take (by omega), ep]
          have e3 : stH (n - half c) (c - half c) (hs.take (hs.length - 1)) = (stH n c hs).take ((stH n c hs).length - 1) := by
            unfold stH
            rw [ha]
            split
            · rfl
            · exact (take_drop_last (by omega)).symm
          have e4 : (stH n c hs).getD ((stH n c hs).length - 1) default = hs.getD (hs.length - 1) default := by
            unfold stH
            split
            · rfl
            · rw [getD_drop, List.length_drop, show 1 + (hs.length - 1 - 1) = hs.length - 1 by omega]
          rw [e2, e3, e4]
omit [Inhabited α] in
theorem stH_len (n c : Nat) (hs : List α) (hn : n < c) (hl : hs.length = szH n c) (h : ¬ c ≤ 1) : (stH n c hs).length = szH (n / 2) ((c + 1) / 2) := by
  have e := sz_eq n c hn
  rw [szR_up h, sz_eq (n / 2) ((c + 1) / 2) (by omega)] at e
  unfold stH
  split
  · next ha => rw [if_pos ha] at e; omega
  · next ha => rw [if_neg ha] at e; rw [List.length_drop]; omega
theorem ld_eq (x : α) (n c : Nat) (hs : List α) (hn : n < c) (hl : hs.length = szH n c) : ldR kn x n c hs = ldH kn x n c hs := by
  induction hm : c using Nat.strongRecOn generalizing c n hs x with
  | ind m ih =>
    subst hm
    by_cases h : c ≤ 1
    · rw [ldR_one kn h, ldH_one kn h]
    · rw [ldR_step kn h, ldH_step kn x n c hs hn hl h, ih _ (by omega) _ _ _ _ (by omega) (stH_len n c hs hn hl h) rfl]
/-- The path of the n-th of a row leads to its top. -/
theorem ldR_path (n : Nat) (l : List α) (hn : n < l.length) : ldR kn (l.getD n default) n l.length (besR kn n l) = topH kn l := by
  induction hm : l.length using Nat.strongRecOn generalizing l n with
  | ind m ih =>
    subst hm
    have hl := knotsL_len kn l
    by_cases h : l.length ≤ 1
    · rw [ldR_one kn h, topH_one kn h, show n = 0 by omega]
    · rw [ldR_step kn h, ← topH_up, besR, dif_neg h]
      have hi := ih _ (by omega) (n / 2) (knotsL kn l) (by omega) rfl
      rw [hl] at hi
      have e1 : stH n l.length (hereL n l ++ besR kn (n / 2) (knotsL kn l)) = besR kn (n / 2) (knotsL kn l) := by
        unfold stH hereL aloneB
        by_cases h1 : n + 1 = l.length ∧ n % 2 = 0
        · rw [if_pos (by simpa using h1), if_pos h1]; rfl
        · rw [if_neg (by simpa using h1), if_neg h1]
          split <;> rfl
      have e2 : stX kn (l.getD n default) n l.length (hereL n l ++ besR kn (n / 2) (knotsL kn l)) = (knotsL kn l).getD (n / 2) default := by
        unfold stX hereL aloneB
        by_cases h1 : n + 1 = l.length ∧ n % 2 = 0
        · rw [if_pos (by simpa using h1), knotsL_last kn l (n / 2) (by omega), show 2 * (n / 2) = n by omega]
        · rw [if_neg (by simpa using h1), if_neg h1]
          by_cases h2 : n % 2 = 0
          · rw [if_pos h2, if_pos h2, knotsL_get kn l (n / 2) (by omega), show 2 * (n / 2) = n by omega]; rfl
          · rw [if_neg h2, if_neg h2, knotsL_get kn l (n / 2) (by omega), show 2 * (n / 2) = n - 1 by omega, show n - 1 + 1 = n by omega]; rfl
      rw [e1, e2, hi]
end
end Go.Proofs.YtgffpamaagkilaaDoor
