/-
  merkle, plainly: rows gone up two by two, and halves from above: the same top, the same path, the same size, the same way up. · merkle, plainly: sizes, and the way up from a leaf, by rows and by halves. · merkle: the walks of what reckons with places and numbers alone.
  A slice that shows values, of any number of cells an element; append of it onto a row of the call's own. · What is written out part by part: one part that fills all.
-/
import Derived.Test.YtpfjkjogljilnaaDoorWords
import Derived.Test.YtpfjkjogljilnaaDoorChecked
import Derived.Great.BuildSlice
namespace Go.Proofs.YtpfjkjogljilnaaDoor

/-- The greatest power of two below a number (of 2 or more). -/
def half (n : Nat) : Nat := 2 ^ Nat.log2 (n - 1)
theorem half_pos (n : Nat) : 0 < half n := Nat.two_pow_pos _
theorem half_lt {n : Nat} (h : 2 ≤ n) : half n < n := by
  have := Nat.log2_self_le (n := n - 1) (by omega)
  unfold half; omega
theorem half_ge {n : Nat} (h : 2 ≤ n) : n ≤ 2 * half n := by
  have := Nat.lt_log2_self (n := n - 1)
  rw [Nat.pow_succ] at this
  unfold half; omega
theorem pow2_lt {i j : Nat} (h : 2 ^ i < 2 * 2 ^ j) : i ≤ j := by
  rw [← Nat.pow_succ'] at h
  have := (Nat.pow_lt_pow_iff_right (by omega : 1 < 2)).1 h
  omega
theorem half_unique {n j : Nat} (h1 : 2 ^ j < n) (h2 : n ≤ 2 * 2 ^ j) : half n = 2 ^ j := by
  have hn : 2 ≤ n := by have := Nat.two_pow_pos j; omega
  have a := half_lt hn
  have b := half_ge hn
  unfold half at a b ⊢
  generalize Nat.log2 (n - 1) = i at *
  have p := pow2_lt (i := i) (j := j) (by omega)
  have q := pow2_lt (i := j) (j := i) (by omega)
  have : i = j := by omega
  rw [this]
theorem half_two : half 2 = 1 := half_unique (j := 0) (by decide) (by decide)
/-- Above three or more the half is twice the half of the row above. -/
theorem half_up {n : Nat} (h : 3 ≤ n) : half n = 2 * half ((n + 1) / 2) := by
  obtain ⟨j, hj⟩ : ∃ j, half ((n + 1) / 2) = 2 ^ j := ⟨_, rfl⟩
  have a := half_lt (n := (n + 1) / 2) (by omega)
  have b := half_ge (n := (n + 1) / 2) (by omega)
  rw [hj] at a b ⊢
  have := half_unique (n := n) (j := j + 1) (by rw [Nat.pow_succ]; omega) (by rw [Nat.pow_succ]; omega)
  rw [this, Nat.pow_succ]; omega

section
variable {α : Type} (kn : α → α → α)
/-- The row above a row. -/
def knotsL : List α → List α
  | a :: b :: r => kn a b :: knotsL r
  | l => l
theorem knotsL_len (l : List α) : (knotsL kn l).length = (l.length + 1) / 2 := by
  induction l using knotsL.induct with
  | case1 a b r ih => simp only [knotsL, List.length_cons, ih]; omega
  | case2 l h =>
    match l, h with
    | [], _ => simp [knotsL]
    | [x], _ => simp [knotsL]
    | a :: b :: r, h => exact absurd rfl (h a b r)
theorem knotsL_short {l : List α} (h : l.length ≤ 1) : knotsL kn l = l := by
  match l, h with
  | [], _ => rfl
  | [x], _ => rfl
theorem knotsL_append (l m : List α) (h : l.length % 2 = 0) : knotsL kn (l ++ m) = knotsL kn l ++ knotsL kn m := by
  induction l using knotsL.induct with
  | case1 a b r ih =>
    simp only [List.cons_append, knotsL]
    rw [ih (by simp only [List.length_cons] at h; omega)]
  | case2 l hl =>
    match l, hl, h with
    | [], _, _ => rfl
    | [x], _, h => simp at h
    | a :: b :: r, hl, _ => exact absurd rfl (hl a b r)
variable [Inhabited α]
theorem knotsL_get (l : List α) (i : Nat) (h : 2 * i + 1 < l.length) : (knotsL kn l).getD i default = kn (l.getD (2 * i) default) (l.getD (2 * i + 1) default) := by
  induction l using knotsL.induct generalizing i with
  | case1 a b r ih =>
    cases i with
    | zero => simp [knotsL]
    | succ i =>
      have := ih i (by simp only [List.length_cons] at h; omega)
      have e1 : 2 * (i + 1) = 2 * i + 1 + 1 := by omega
      simp only [knotsL, List.getD_cons_succ, this, e1]
  | case2 l hl =>
    match l, hl, h with
    | [], _, h => simp at h
    | [x], _, h => simp at h
    | a :: b :: r, hl, _ => exact absurd rfl (hl a b r)
theorem knotsL_last (l : List α) (i : Nat) (h : 2 * i + 1 = l.length) : (knotsL kn l).getD i default = l.getD (2 * i) default := by
  induction l using knotsL.induct generalizing i with
  | case1 a b r ih =>
    cases i with
    | zero => simp at h
    | succ i =>
      have := ih i (by simp only [List.length_cons] at h; omega)
      have e1 : 2 * (i + 1) = 2 * i + 1 + 1 := by omega
      simp only [knotsL, List.getD_cons_succ, this, e1]
  | case2 l hl =>
    match l, hl, h with
    | [], _, h => simp at h
    | [x], _, h => have h0 : i = 0 := by simp at h; omega
                   subst h0; rfl
    | a :: b :: r, hl, _ => exact absurd rfl (hl a b r)

/-- What is left of the rows above a row: by rows. -/
def topR (l : List α) : List α := if h : l.length ≤ 1 then l else topR (knotsL kn l)
termination_by l.length
decreasing_by rw [knotsL_len]; omega
/-- The same from above, by halves. -/
def topH (l : List α) : α := if h : l.length ≤ 1 then l.getD 0 default else kn (topH (l.take (half l.length))) (topH (l.drop (half l.length)))
termination_by l.length
decreasing_by
  · have := half_lt (n := l.length) (by omega); simp only [List.length_take]; omega
  · have := half_pos l.length; simp only [List.length_drop]; omega
theorem topH_one {l : List α} (h : l.length ≤ 1) : topH kn l = l.getD 0 default := by rw [topH, dif_pos h]
theorem topH_two {l : List α} (h : ¬ l.length ≤ 1) : topH kn l = kn (topH kn (l.take (half l.length))) (topH kn (l.drop (half l.length))) := by rw [topH, dif_neg h]
omit [Inhabited α] in
/-- Where a row of three or more is parted, so is the row above it. -/
theorem knotsL_part {l : List α} (h : 3 ≤ l.length) : (knotsL kn l).take (half (knotsL kn l).length) = knotsL kn (l.take (half l.length)) ∧ (knotsL kn l).drop (half (knotsL kn l).length) = knotsL kn (l.drop (half l.length)) := by
  have hu := half_up h
  have hl := half_lt (n := l.length) (by omega)
  have hlen : (knotsL kn (l.take (half l.length))).length = half ((l.length + 1) / 2) := by
    rw [knotsL_len, List.length_take, Nat.min_eq_left (by omega)]; omega
  have e : knotsL kn l = knotsL kn (l.take (half l.length)) ++ knotsL kn (l.drop (half l.length)) := by
    rw [← knotsL_append, List.take_append_drop]
    rw [List.length_take, Nat.min_eq_left (by omega)]; omega
  rw [knotsL_len, ← hlen]
  constructor
  · rw [e, List.take_left]
  · rw [e, List.drop_left]
theorem topH_up (l : List α) : topH kn (knotsL kn l) = topH kn l := by
  induction hn : l.length using Nat.strongRecOn generalizing l with
  | ind n ih =>
    subst hn
    by_cases h1 : l.length ≤ 1
    · rw [knotsL_short kn h1]
    · by_cases h2 : l.length = 2
      · match l, h2 with
        | [a, b], _ =>
          rw [topH_two kn (l := [a, b]) (by simp)]
          simp [knotsL, half_two, topH_one]
      · have h3 : 3 ≤ l.length := by omega
        obtain ⟨p1, p2⟩ := knotsL_part kn h3
        have hl := half_lt (n := l.length) (by omega)
        have hp := half_pos l.length
        rw [topH_two kn (l := knotsL kn l) (by rw [knotsL_len]; omega), p1, p2, topH_two kn h1]
        rw [ih _ (by rw [List.length_take]; omega) _ rfl, ih _ (by rw [List.length_drop]; omega) _ rfl]
theorem topR_eq (l : List α) (h : l ≠ []) : topR kn l = [topH kn l] := by
  induction hn : l.length using Nat.strongRecOn generalizing l with
  | ind n ih =>
    subst hn
    rw [topR]
    split
    · next h1 =>
      match l, h, h1 with
      | [x], _, _ => rw [topH_one kn (by simp)]; rfl
    · next h1 =>
      have hl := knotsL_len kn l
      rw [ih _ (by omega) (knotsL kn l) (by intro e; rw [e] at hl; simp at hl; omega) rfl, topH_up]

/-- What stands beside the n-th of a row. -/
def hereL (n : Nat) (l : List α) : List α := if n + 1 = l.length ∧ n % 2 = 0 then [] else if n % 2 = 0 then [l.getD (n + 1) default] else [l.getD (n - 1) default]
/-- The path of the n-th, row by row. -/
def besR (n : Nat) (l : List α) : List α := if h : l.length ≤ 1 then [] else hereL n l ++ besR (n / 2) (knotsL kn l)
termination_by l.length
decreasing_by rw [knotsL_len]; omega
/-- The same by halves. -/
def besH (n : Nat) (l : List α) : List α :=
  if h : l.length ≤ 1 then [] else if n < half l.length then besH n (l.take (half l.length)) ++ [topH kn (l.drop (half l.length))] else besH (n - half l.length) (l.drop (half l.length)) ++ [topH kn (l.take (half l.length))]
termination_by l.length
decreasing_by
  · have := half_lt (n := l.length) (by omega); simp only [List.length_take]; omega
  · have := half_pos l.length; simp only [List.length_drop]; omega
theorem besH_one {n : Nat} {l : List α} (h : l.length ≤ 1) : besH kn n l = [] := by rw [besH, dif_pos h]
theorem besH_left {n : Nat} {l : List α} (h : ¬ l.length ≤ 1) (hn : n < half l.length) : besH kn n l = besH kn n (l.take (half l.length)) ++ [topH kn (l.drop (half l.length))] := by rw [besH, dif_neg h, if_pos hn]
theorem besH_right {n : Nat} {l : List α} (h : ¬ l.length ≤ 1) (hn : ¬ n < half l.length) : besH kn n l = besH kn (n - half l.length) (l.drop (half l.length)) ++ [topH kn (l.take (half l.length))] := by rw [besH, dif_neg h, if_neg hn]
theorem getD_take {l : List α} {k i : Nat} (h : i < k) : (l.take k).getD i default = l.getD i default := by simp [List.getElem?_take, h]
theorem getD_drop (l : List α) (k i : Nat) : (l.drop k).getD i default = l.getD (k + i) default := by simp [List.getElem?_drop]
theorem hereL_left {n : Nat} {l : List α} (h3 : 3 ≤ l.length) (hn : n < half l.length) : hereL n (l.take (half l.length)) = hereL n l := by
  have hu := half_up h3
  have hl := half_lt (n := l.length) (by omega)
  have hlen : (l.take (half l.length)).length = half l.length := by rw [List.length_take]; omega
  unfold hereL
  rw [hlen]
  have h1 : ¬ (n + 1 = half l.length ∧ n % 2 = 0) := by omega
  have h2 : ¬ (n + 1 = l.length ∧ n % 2 = 0) := by omega
  rw [if_neg h1, if_neg h2]
  split
  · rw [getD_take (by omega)]
  · rw [getD_take (by omega)]
theorem hereL_right {n : Nat} {l : List α} (h3 : 3 ≤ l.length) (hn : ¬ n < half l.length) : hereL (n - half l.length) (l.drop (half l.length)) = hereL n l := by
  have hu := half_up h3
  have hlen : (l.drop (half l.length)).length = l.length - half l.length := List.length_drop
  have hp := half_pos l.length
  unfold hereL
  rw [hlen, getD_drop, getD_drop]
  have hl := half_lt (n := l.length) (by omega)
  by_cases h0 : n % 2 = 0
  · have e : (n - half l.length) % 2 = 0 := by omega
    by_cases h1 : n + 1 = l.length
    · rw [if_pos ⟨by omega, e⟩, if_pos ⟨h1, h0⟩]
    · have h1' : ¬ (n - half l.length + 1 = l.length - half l.length) := by omega
      simp only [h1', h1, false_and, if_false, e, h0, if_true, show half l.length + (n - half l.length + 1) = n + 1 by omega]
  · have e : ¬ (n - half l.length) % 2 = 0 := by omega
    simp only [e, h0, and_false, if_false, show half l.length + (n - half l.length - 1) = n - 1 by omega]
theorem besH_up (n : Nat) (l : List α) (hn : n < l.length) : besH kn n l = (if l.length ≤ 1 then [] else hereL n l) ++ besH kn (n / 2) (knotsL kn l) := by
  induction hm : l.length using Nat.strongRecOn generalizing l n with
  | ind m ih =>
    subst hm
    by_cases h1 : l.length ≤ 1
    · rw [if_pos h1, besH_one kn h1, knotsL_short kn h1, besH_one kn h1]; rfl
    · rw [if_neg h1]
      by_cases h2 : l.length = 2
      · match l, h2, hn with
        | [a, b], _, hn =>
          have e1 : besH kn (n / 2) (knotsL kn [a, b]) = [] := besH_one kn (by simp [knotsL])
          rw [e1, List.append_nil]
          have : n = 0 ∨ n = 1 := by simp at hn; omega
          rcases this with rfl | rfl
          · rw [besH_left kn (by simp) (by simp [half_two])]
            simp [half_two, besH_one, topH_one, hereL]
          · rw [besH_right kn (by simp) (by simp [half_two])]
            simp [half_two, besH_one, topH_one, hereL]
      · have h3 : 3 ≤ l.length := by omega
        obtain ⟨p1, p2⟩ := knotsL_part kn h3
        have hl := half_lt (n := l.length) (by omega)
        have hu := half_up h3
        have hp := half_pos l.length
        have hkl := knotsL_len kn l
        have hk2 : half (knotsL kn l).length = half l.length / 2 := by rw [hkl]; omega
        by_cases hk : n < half l.length
        · rw [besH_left kn h1 hk, ih _ (by rw [List.length_take]; omega) n (l.take (half l.length)) (by rw [List.length_take]; omega) rfl]
          rw [if_neg (by rw [List.length_take]; omega), hereL_left h3 hk]
          rw [besH_left kn (l := knotsL kn l) (by omega) (by rw [hk2]; omega), p1, p2, topH_up, List.append_assoc]
        · rw [besH_right kn h1 hk, ih _ (by rw [List.length_drop]; omega) (n - half l.length) (l.drop (half l.length)) (by rw [List.length_drop]; omega) rfl]
          rw [besH_right kn (l := knotsL kn l) (by omega) (by rw [hk2]; omega), p1, p2, topH_up, List.append_assoc, hk2]
          have e2 : n / 2 - half l.length / 2 = (n - half l.length) / 2 := by omega
          rw [e2]
          by_cases h4 : (l.drop (half l.length)).length ≤ 1
          · rw [if_pos h4]
            have e3 : hereL n l = [] := by
              rw [hereL, if_pos]
              rw [List.length_drop] at h4
              omega
            rw [e3]
          · rw [if_neg h4, hereL_right h3 hk]
theorem besR_eq (n : Nat) (l : List α) (hn : n < l.length) : besR kn n l = besH kn n l := by
  induction hm : l.length using Nat.strongRecOn generalizing l n with
  | ind m ih =>
    subst hm
    rw [besR, besH_up kn n l hn]
    have hl := knotsL_len kn l
    split
    · next h1 => rw [knotsL_short kn h1, besH_one kn h1]; rfl
    · next h1 => rw [ih _ (by omega) (n / 2) (knotsL kn l) (by omega) rfl]
end
end Go.Proofs.YtpfjkjogljilnaaDoor
namespace Go.Proofs.YtpfjkjogljilnaaDoor

/-- Is nothing beside the n-th of so many? -/
def aloneB (n c : Nat) : Bool := decide (n + 1 = c ∧ n % 2 = 0)
/-- How long the path of the n-th of so many is: by rows. -/
def szR (n c : Nat) : Nat := if h : c ≤ 1 then 0 else (if aloneB n c = true then 0 else 1) + szR (n / 2) ((c + 1) / 2)
termination_by c
decreasing_by omega
/-- The same by halves. -/
def szH (n c : Nat) : Nat := if h : c ≤ 1 then 0 else if n < half c then 1 + szH n (half c) else 1 + szH (n - half c) (c - half c)
termination_by c
decreasing_by
  · exact half_lt (by omega)
  · have := half_pos c; omega
theorem szR_one {n c : Nat} (h : c ≤ 1) : szR n c = 0 := by rw [szR, dif_pos h]
theorem szR_up {n c : Nat} (h : ¬ c ≤ 1) : szR n c = (if aloneB n c = true then 0 else 1) + szR (n / 2) ((c + 1) / 2) := by rw [szR, dif_neg h]
theorem szH_one {n c : Nat} (h : c ≤ 1) : szH n c = 0 := by rw [szH, dif_pos h]
theorem szH_left {n c : Nat} (h : ¬ c ≤ 1) (hn : n < half c) : szH n c = 1 + szH n (half c) := by rw [szH, dif_neg h, if_pos hn]
theorem szH_right {n c : Nat} (h : ¬ c ≤ 1) (hn : ¬ n < half c) : szH n c = 1 + szH (n - half c) (c - half c) := by rw [szH, dif_neg h, if_neg hn]

section
variable {α : Type} [Inhabited α] (kn : α → α → α)
theorem besR_len (n : Nat) (l : List α) : (besR kn n l).length = szR n l.length := by
  induction hm : l.length using Nat.strongRecOn generalizing l n with
  | ind m ih =>
    subst hm
    rw [besR]
    have hl := knotsL_len kn l
    split
    · next h => rw [szR_one h]; rfl
    · next h =>
      rw [szR_up h, List.length_append, ih _ (by omega) (n / 2) (knotsL kn l) rfl, hl]
      congr 1
      by_cases h1 : n + 1 = l.length ∧ n % 2 = 0
      · have ha : aloneB n l.length = true := decide_eq_true h1
        rw [ha, hereL, if_pos h1]; rfl
      · have ha : aloneB n l.length = false := decide_eq_false h1
        rw [ha, hereL, if_neg h1]
        split <;> rfl
theorem besH_len (n : Nat) (l : List α) : (besH kn n l).length = szH n l.length := by
  induction hm : l.length using Nat.strongRecOn generalizing l n with
  | ind m ih =>
    subst hm
    by_cases h : l.length ≤ 1
    · rw [besH_one kn h, szH_one h]; rfl
    · have hl := half_lt (n := l.length) (by omega)
      have hp := half_pos l.length
      by_cases hn : n < half l.length
      · rw [besH_left kn h hn, szH_left h hn, List.length_append, ih _ (by rw [List.length_take]; omega) n _ rfl, List.length_take, Nat.min_eq_left (by omega)]
        simp; omega
      · rw [besH_right kn h hn, szH_right h hn, List.length_append, ih _ (by rw [List.length_drop]; omega) _ _ rfl, List.length_drop]
        simp; omega
theorem sz_eq (n c : Nat) (h : n < c) : szR n c = szH n c := by
  have h1 := besR_len (fun a _ => a) n (List.replicate c (0 : Nat))
  have h2 := besH_len (fun a _ => a) n (List.replicate c (0 : Nat))
  rw [besR_eq _ _ _ (by simpa using h)] at h1
  rw [List.length_replicate] at h1 h2
  rw [← h1, ← h2]

/-- The way up from what stands at the n-th place of so many: by rows. -/
def ldR (x : α) (n c : Nat) (hs : List α) : α :=
  if h : c ≤ 1 then x else if aloneB n c = true then ldR x (n / 2) ((c + 1) / 2) hs else if n % 2 = 0 then ldR (kn x (hs.getD 0 default)) (n / 2) ((c + 1) / 2) (hs.drop 1) else ldR (kn (hs.getD 0 default) x) (n / 2) ((c + 1) / 2) (hs.drop 1)
termination_by c
decreasing_by all_goals omega
/-- The same by halves. -/
def ldH (x : α) (n c : Nat) (hs : List α) : α :=
  if h : c ≤ 1 then x else if n < half c then kn (ldH x n (half c) (hs.take (hs.length - 1))) (hs.getD (hs.length - 1) default) else kn (hs.getD (hs.length - 1) default) (ldH x (n - half c) (c - half c) (hs.take (hs.length - 1)))
termination_by c
decreasing_by
  · exact half_lt (by omega)
  · have := half_pos c; omega
theorem ldR_one {x : α} {n c : Nat} {hs : List α} (h : c ≤ 1) : ldR kn x n c hs = x := by rw [ldR, dif_pos h]
theorem ldR_alone {x : α} {n c : Nat} {hs : List α} (h : ¬ c ≤ 1) (ha : aloneB n c = true) : ldR kn x n c hs = ldR kn x (n / 2) ((c + 1) / 2) hs := by rw [ldR, dif_neg h, if_pos ha]
theorem ldR_even {x : α} {n c : Nat} {hs : List α} (h : ¬ c ≤ 1) (ha : ¬ aloneB n c = true) (he : n % 2 = 0) : ldR kn x n c hs = ldR kn (kn x (hs.getD 0 default)) (n / 2) ((c + 1) / 2) (hs.drop 1) := by rw [ldR, dif_neg h, if_neg ha, if_pos he]
theorem ldR_odd {x : α} {n c : Nat} {hs : List α} (h : ¬ c ≤ 1) (ha : ¬ aloneB n c = true) (he : ¬ n % 2 = 0) : ldR kn x n c hs = ldR kn (kn (hs.getD 0 default) x) (n / 2) ((c + 1) / 2) (hs.drop 1) := by rw [ldR, dif_neg h, if_neg ha, if_neg he]
theorem ldH_one {x : α} {n c : Nat} {hs : List α} (h : c ≤ 1) : ldH kn x n c hs = x := by rw [ldH, dif_pos h]
theorem ldH_left {x : α} {n c : Nat} {hs : List α} (h : ¬ c ≤ 1) (hn : n < half c) : ldH kn x n c hs = kn (ldH kn x n (half c) (hs.take (hs.length - 1))) (hs.getD (hs.length - 1) default) := by rw [ldH, dif_neg h, if_pos hn]
theorem ldH_right {x : α} {n c : Nat} {hs : List α} (h : ¬ c ≤ 1) (hn : ¬ n < half c) : ldH kn x n c hs = kn (hs.getD (hs.length - 1) default) (ldH kn x (n - half c) (c - half c) (hs.take (hs.length - 1))) := by rw [ldH, dif_neg h, if_neg hn]

/-- What a step by rows leaves: the hash, and the other hashes. -/
def stX (x : α) (n c : Nat) (hs : List α) : α := if aloneB n c = true then x else if n % 2 = 0 then kn x (hs.getD 0 default) else kn (hs.getD 0 default) x
def stH (n c : Nat) (hs : List α) : List α := if aloneB n c = true then hs else hs.drop 1
theorem ldR_step {x : α} {n c : Nat} {hs : List α} (h : ¬ c ≤ 1) : ldR kn x n c hs = ldR kn (stX kn x n c hs) (n / 2) ((c + 1) / 2) (stH n c hs) := by
  unfold stX stH
  by_cases ha : aloneB n c = true
  · rw [ldR_alone kn h ha, if_pos ha, if_pos ha]
  · rw [if_neg ha, if_neg ha]
    by_cases he : n % 2 = 0
    · rw [ldR_even kn h ha he, if_pos he]
    · rw [ldR_odd kn h ha he, if_neg he]
omit [Inhabited α] in
theorem take_drop_last {hs : List α} (h : 2 ≤ hs.length) : (hs.drop 1).take ((hs.drop 1).length - 1) = (hs.take (hs.length - 1)).drop 1 := by
  rw [List.drop_take, List.length_drop]
theorem ldH_step (x : α) (n c : Nat) (hs : List α) (hn : n < c) (hl : hs.length = szH n c) (h : ¬ c ≤ 1) : ldH kn x n c hs = ldH kn (stX kn x n c hs) (n / 2) ((c + 1) / 2) (stH n c hs) := by
  induction hm : c using Nat.strongRecOn generalizing c n hs with
  | ind m ih =>
    subst hm
    by_cases h2 : c = 2
    · subst h2
      have hl1 : hs.length = 1 := by
        rw [hl]
        have : n = 0 ∨ n = 1 := by omega
        rcases this with rfl | rfl
        · rw [szH_left (by omega) (by rw [half_two]; omega), half_two, szH_one (by omega)]
        · rw [szH_right (by omega) (by rw [half_two]; omega), half_two, szH_one (by omega)]
      match hs, hl1 with
      | [y], _ =>
        rw [ldH_one kn (c := (2 + 1) / 2) (by omega)]
        have : n = 0 ∨ n = 1 := by omega
        rcases this with rfl | rfl
        · rw [ldH_left kn (by omega) (by rw [half_two]; omega), half_two, ldH_one kn (by omega)]; rfl
        · rw [ldH_right kn (by omega) (by rw [half_two]; omega), half_two, ldH_one kn (by omega)]; rfl
    · have h3 : 3 ≤ c := by omega
      have hlt := half_lt (n := c) (by omega)
      have hu := half_up h3
      have hp := half_pos ((c + 1) / 2)
      by_cases hk : n < half c
      · have hs1 := szH_left h hk
        have hk1 : ¬ half c ≤ 1 := by omega
        have hs2 : 1 ≤ szH n (half c) := by
          by_cases hq : n < half (half c)
          · rw [szH_left hk1 hq]; omega
          · rw [szH_right hk1 hq]; omega
        have ha1 : aloneB n c = false := by simp [aloneB]; omega
        have ha2 : aloneB n (half c) = false := by simp [aloneB]; omega
        have hi := ih (half c) hlt n (half c) (hs.take (hs.length - 1)) hk (by rw [List.length_take]; omega) hk1 rfl
        rw [ldH_left kn h hk, hi]
        have e1 : (half c + 1) / 2 = half ((c + 1) / 2) := by omega
        rw [ldH_left kn (c := (c + 1) / 2) (by omega) (by omega), e1]
        have e2 : stX kn x n (half c) (hs.take (hs.length - 1)) = stX kn x n c hs := by
          unfold stX
          rw [ha1, ha2, getD_take (by omega)]
        have e3 : stH n (half c) (hs.take (hs.length - 1)) = (stH n c hs).take ((stH n c hs).length - 1) := by
          unfold stH
          rw [ha1, ha2]
          simp only [Bool.false_eq_true, if_false]
          exact (take_drop_last (by omega)).symm
        have e4 : (stH n c hs).getD ((stH n c hs).length - 1) default = hs.getD (hs.length - 1) default := by
          unfold stH
          rw [ha1]
          simp only [Bool.false_eq_true, if_false]
          rw [getD_drop, List.length_drop, show 1 + (hs.length - 1 - 1) = hs.length - 1 by omega]
        rw [e2, e3, e4]
      · have hs1 := szH_right h hk
        by_cases hc1 : c - half c ≤ 1
        · have hnk : n = half c := by omega
          have hcn : c = half c + 1 := by omega
          have ha : aloneB n c = true := by simp [aloneB]; omega
          have ex : stX kn x n c hs = x := by unfold stX; rw [if_pos ha]
          have eh : stH n c hs = hs := by unfold stH; rw [if_pos ha]
          rw [ex, eh, ldH_right kn h hk, ldH_one kn hc1]
          rw [ldH_right kn (c := (c + 1) / 2) (by omega) (by omega), ldH_one kn (by omega)]
        · have hs2 : 1 ≤ szH (n - half c) (c - half c) := by
            by_cases hq : n - half c < half (c - half c)
            · rw [szH_left hc1 hq]; omega
            · rw [szH_right hc1 hq]; omega
          have ha : aloneB (n - half c) (c - half c) = aloneB n c := by
            unfold aloneB
            apply decide_eq_decide.2
            omega
          have hi := ih (c - half c) (by omega) (n - half c) (c - half c) (hs.take (hs.length - 1)) (by omega) (by rw [List.length_take]; omega) hc1 rfl
          rw [ldH_right kn h hk, hi]
          have e0 : (n - half c) / 2 = n / 2 - half ((c + 1) / 2) := by omega
          have e1 : (c - half c + 1) / 2 = (c + 1) / 2 - half ((c + 1) / 2) := by omega
          have ep : (n - half c) % 2 = n % 2 := by omega
          rw [ldH_right kn (c := (c + 1) / 2) (by omega) (by omega), e0, e1]
          have e2 : stX kn x (n - half c) (c - half c) (hs.take (hs.length - 1)) = stX kn x n c hs := by
            unfold stX
            rw [ha, getD_take (by omega), ep]
          have e3 : stH (n - half c) (c - half c) (hs.take (hs.length - 1)) = (stH n c hs).take ((stH n c hs).length - 1) := by
            unfold stH
            rw [ha]
            split
            · rfl
            · exact (take_drop_last (by omega)).symm
          have e4 : (stH n c hs).getD ((stH n c hs).length - 1) default = hs.getD (hs.length - 1) default := by
            unfold stH
            split
            · rfl
            · rw [getD_drop, List.length_drop, show 1 + (hs.length - 1 - 1) = hs.length - 1 by omega]
          rw [e2, e3, e4]
omit [Inhabited α] in
theorem stH_len (n c : Nat) (hs : List α) (hn : n < c) (hl : hs.length = szH n c) (h : ¬ c ≤ 1) : (stH n c hs).length = szH (n / 2) ((c + 1) / 2) := by
  have e := sz_eq n c hn
  rw [szR_up h, sz_eq (n / 2) ((c + 1) / 2) (by omega)] at e
  unfold stH
  split
  · next ha => rw [if_pos ha] at e; omega
  · next ha => rw [if_neg ha] at e; rw [List.length_drop]; omega
theorem ld_eq (x : α) (n c : Nat) (hs : List α) (hn : n < c) (hl : hs.length = szH n c) : ldR kn x n c hs = ldH kn x n c hs := by
  induction hm : c using Nat.strongRecOn generalizing c n hs x with
  | ind m ih =>
    subst hm
    by_cases h : c ≤ 1
    · rw [ldR_one kn h, ldH_one kn h]
    · rw [ldR_step kn h, ldH_step kn x n c hs hn hl h, ih _ (by omega) _ _ _ _ (by omega) (stH_len n c hs hn hl h) rfl]
/-- The path of the n-th of a row leads to its top. -/
theorem ldR_path (n : Nat) (l : List α) (hn : n < l.length) : ldR kn (l.getD n default) n l.length (besR kn n l) = topH kn l := by
  induction hm : l.length using Nat.strongRecOn generalizing l n with
  | ind m ih =>
    subst hm
    have hl := knotsL_len kn l
    by_cases h : l.length ≤ 1
    · rw [ldR_one kn h, topH_one kn h, show n = 0 by omega]
    · rw [ldR_step kn h, ← topH_up, besR, dif_neg h]
      have hi := ih _ (by omega) (n / 2) (knotsL kn l) (by omega) rfl
      rw [hl] at hi
      have e1 : stH n l.length (hereL n l ++ besR kn (n / 2) (knotsL kn l)) = besR kn (n / 2) (knotsL kn l) := by
        unfold stH hereL aloneB
        by_cases h1 : n + 1 = l.length ∧ n % 2 = 0
        · rw [if_pos (by simpa using h1), if_pos h1]; rfl
        · rw [if_neg (by simpa using h1), if_neg h1]
          split <;> rfl
      have e2 : stX kn (l.getD n default) n l.length (hereL n l ++ besR kn (n / 2) (knotsL kn l)) = (knotsL kn l).getD (n / 2) default := by
        unfold stX hereL aloneB
        by_cases h1 : n + 1 = l.length ∧ n % 2 = 0
        · rw [if_pos (by simpa using h1), knotsL_last kn l (n / 2) (by omega), show 2 * (n / 2) = n by omega]
        · rw [if_neg (by simpa using h1), if_neg h1]
          by_cases h2 : n % 2 = 0
          · rw [if_pos h2, if_pos h2, knotsL_get kn l (n / 2) (by omega), show 2 * (n / 2) = n by omega]; rfl
          · rw [if_neg h2, if_neg h2, knotsL_get kn l (n / 2) (by omega), show 2 * (n / 2) = n - 1 by omega, show n - 1 + 1 = n by omega]; rfl
      rw [e1, e2, hi]
end
end Go.Proofs.YtpfjkjogljilnaaDoor
namespace Go.Proofs.YtpfjkjogljilnaaDoor
open Go.RowKit

/-- Is there such a place? -/
def placeB (n c : Int) : Bool := decide (0 ≤ n ∧ n < c ∧ c ≤ 1048576)
theorem place_yes {n c : Int} (h0 : 0 ≤ n) (h1 : n < c) (h2 : c ≤ 1048576) : placeB n c = true := decide_eq_true ⟨h0, h1, h2⟩
theorem place_no {n c : Int} (h : ¬ (0 ≤ n ∧ n < c ∧ c ≤ 1048576)) : placeB n c = false := decide_eq_false h
theorem place_of {n c : Int} (h : placeB n c = true) : 0 ≤ n ∧ n < c ∧ c ≤ 1048576 := of_decide_eq_true h
theorem place_not {n c : Int} (h : placeB n c = false) : ¬ (0 ≤ n ∧ n < c ∧ c ≤ 1048576) := of_decide_eq_false h

theorem isAlone_any (w : World) (n c : Nat) (hc : 1 ≤ c) (hn : n < c) (hm : c ≤ 4611686018427387904) : Calls Tryd.prog 55 #[.int .i64 (n : Int), .int .i64 (c : Int)] w fun e w' => e = .returned (.bool (aloneB n c)) ∧ w' = w := by
  by_cases h1 : n + 1 = c
  · subst h1
    by_cases h2 : n % 2 = 0
    · have HR : Hid (aloneB n (n + 1) = true) := decide_eq_true ⟨rfl, h2⟩
      have h3 : (n : Int) % 2 = 0 := by omega
      clear h2
      go_enter Tryd.func55, Tryd.ntmps55
      go_wp2
      go_ret
      exact ⟨by rw [HR.out]; rfl, rfl⟩
    · have HR : Hid (aloneB n (n + 1) = false) := decide_eq_false (fun h => h2 h.2)
      have h3 : ((n : Int) % 2 == 0) = false := by rw [beq_eq_false_iff_ne]; omega
      clear h2
      go_enter Tryd.func55, Tryd.ntmps55
      go_wp2
      go_ret
      exact ⟨by rw [HR.out]; rfl, rfl⟩
  · have HR : Hid (aloneB n c = false) := decide_eq_false (fun h => h1 h.1)
    have h3 : ¬ (n : Int) = (c : Int) - 1 := by omega
    clear h1
    go_enter Tryd.func55, Tryd.ntmps55
    go_wp2
    go_ret
    exact ⟨by rw [HR.out]; rfl, rfl⟩

theorem szH_le (n c : Nat) : szH n c ≤ c := by
  induction hm : c using Nat.strongRecOn generalizing n c with
  | ind m ih =>
    subst hm
    by_cases h : c ≤ 1
    · rw [szH_one h]; omega
    · have h1 := half_lt (n := c) (by omega)
      have h2 := half_pos c
      by_cases hn : n < half c
      · rw [szH_left h hn]; have := ih _ h1 n (half c) rfl; omega
      · rw [szH_right h hn]; have := ih (c - half c) (by omega) (n - half c) (c - half c) rfl; omega

end Go.Proofs.YtpfjkjogljilnaaDoor

namespace Go.Proofs.YtpfjkjogljilnaaDoor
open Go.RowKit

/-- The slice at A shows the cells vs, in a block below B. -/
def SeesV (w : World) (B : Nat) (A : Option Addr) (vs : List Value) : Prop :=
  vs = [] ∨ ∃ b off, A = some ⟨b, off, none⟩ ∧ b < B ∧ ∀ i (h : i < vs.length), w.cell? ⟨b, off + i, none⟩ = some vs[i]

section
variable {w w' : World} {B B' : Nat} {A : Option Addr} {vs : List Value}
theorem SeesV.nil : SeesV w B A [] := .inl rfl
theorem SeesV.keep (h : SeesV w B A vs) (hk : ∀ p : Addr, p.block < B → w'.cell? p = w.cell? p) : SeesV w' B A vs := by
  rcases h with h | ⟨b, off, hA, hb, hc⟩
  · exact .inl h
  · exact .inr ⟨b, off, hA, hb, fun i hi => (hk ⟨b, off + i, none⟩ hb).trans (hc i hi)⟩
theorem SeesV.below (h : SeesV w B A vs) (hb : Below B w w') : SeesV w' B A vs := h.keep fun _ hp => hb.cell hp
theorem SeesV.later (h : SeesV w B A vs) (hb : Below w.heap.size w w') : SeesV w' B A vs := by
  rcases h with h | ⟨b, off, hA, hlt, hc⟩
  · exact .inl h
  · exact .inr ⟨b, off, hA, hlt, fun i hi => cell_later hb (hc i hi)⟩
theorem SeesV.alloc (h : SeesV w B A vs) (o : Obj) : SeesV (w.alloc o) B A vs := h.later ((Below.refl _ _).alloc (Nat.le_refl _) o)
theorem SeesV.drew (h : SeesV w B A vs) : SeesV w.drew B A vs := h
theorem SeesV.size (h : SeesV w B A vs) : SeesV w w.heap.size A vs := by
  rcases h with h | ⟨b, off, hA, hlt, hc⟩
  · exact .inl h
  · by_cases h0 : vs.length = 0
    · exact .inl (List.eq_nil_of_length_eq_zero h0)
    · exact .inr ⟨b, off, hA, World.block_lt_of_cell? _ _ (hc 0 (by omega)), hc⟩
theorem SeesV.more (h : SeesV w B A vs) (hB : B ≤ B') : SeesV w B' A vs := by
  rcases h with h | ⟨b, off, hA, hb, hc⟩
  · exact .inl h
  · exact .inr ⟨b, off, hA, by omega, hc⟩
theorem SeesV.at_ (h : SeesV w B A vs) {k : Nat} (hk : k < vs.length) : ∃ b off, A = some ⟨b, off, none⟩ ∧ b < B ∧ ∀ i (h : i < vs.length), w.cell? ⟨b, off + i, none⟩ = some vs[i] := by
  rcases h with h | h
  · subst h; simp at hk
  · exact h
theorem SeesV.take (h : SeesV w B A vs) (n : Nat) : SeesV w B A (vs.take n) := by
  rcases h with h | ⟨b, off, hA, hb, hc⟩
  · exact .inl (by simp [h])
  · refine .inr ⟨b, off, hA, hb, fun i hi => ?_⟩
    rw [List.getElem_take]
    exact hc i (by rw [List.length_take] at hi; omega)
theorem SeesV.drop (h : SeesV w B A vs) (n : Nat) : SeesV w B (A.map (·.add n)) (vs.drop n) := by
  rcases h with h | ⟨b, off, hA, hb, hc⟩
  · exact .inl (by simp [h])
  · refine .inr ⟨b, off + n, by rw [hA]; simp [Addr.add_lit], hb, fun i hi => ?_⟩
    rw [List.getElem_drop, Nat.add_assoc]
    exact hc (n + i) (by rw [List.length_drop] at hi; omega)
theorem SeesV.own {base size : Nat} {e : TypeId} {n c : Nat} (h : w.ownsRow base e size (.slice A n c) n vs) : SeesV w w.heap.size A vs := by
  rcases h.2 with ⟨_, h0⟩ | ⟨g, cap, cur, hv, hb, hh, hnc, hcm, hcs, ht⟩
  · left
    have := h.1
    subst h0
    exact List.eq_nil_of_length_eq_zero (by simpa using this)
  · right
    injection hv with hA hn' hc
    subst hA hc
    refine ⟨g, 0, rfl, ?_, fun i hi => ?_⟩
    · rcases Nat.lt_or_ge g w.heap.size with hlt | hge
      · exact hlt
      · rw [Array.getElem?_eq_none hge] at hh; cases hh
    · have hl := h.1
      have hg : Blk w g e cur := hh
      have e1 : (cur.toList.take (n * size))[i]? = vs[i]? := by rw [ht]
      rw [List.getElem?_take, if_pos (by omega), List.getElem?_eq_getElem hi] at e1
      rw [Nat.zero_add, hg.cell i, ← e1]
      simp
theorem SeesV.blk {g : Nat} {t : TypeId} {cs : Array Value} (hb : Blk w g t cs) : SeesV w w.heap.size (some ⟨g, 0, none⟩) cs.toList := by
  refine .inr ⟨g, 0, rfl, hb.lt, fun i hi => ?_⟩
  rw [Nat.zero_add, hb.cell i]
  simp at hi
  simp [hi]
end

section
variable {P : Program} {w : World}
/-- append onto a row of the call's own, of what a slice shows. -/
theorem run_append_seesV (base : Nat) (t ty e : TypeId) (i : TypeInfo) (z : Value) (size bytes : Nat) (ht : P.underlying t = some (.slice e)) (hi : P.info? e = some i) (hz : i.zero = some z)
    (hsize : i.size = size) (hby : i.bytes = bytes) (hzs : z.cells.size = size) (hsz : 0 < size)
    (v : Value) (n : Nat) (xs : List Value) (hown : w.ownsRow base e size v n xs)
    (B : Nat) (A : Option Addr) (m c : Nat) (vs : List Value) (hm : vs.length = m * size) (hs : SeesV w B A vs) (h1 : ∀ u ∈ vs, u.oneCell' = true) (h63 : n + m ≤ 140737488355328) (hbytes : (n + m) * bytes ≤ 140737488355328) (hbase : base ≤ w.heap.size) :
    ∃ v' w', (Builtin.append_ #[t, t] ty #[v, .slice A m c]).run P w = .ok v' w' ∧ w'.ownsRow base e size v' (n + m) (xs ++ vs) ∧ w.grownBy w' v.ownBlock ∧ (v'.ownBlock = v.ownBlock ∨ v'.ownBlock = some w.heap.size) := by
  rcases A with _ | ad
  · have h0 : vs = [] := by
      rcases hs with h | ⟨b, off, h, _⟩
      · exact h
      · cases h
    subst h0
    have hm0 : m = 0 := by
      rcases Nat.eq_zero_or_pos m with h | h
      · exact h
      · have := Nat.mul_pos h hsz; simp at hm; omega
    subst hm0
    refine ⟨v, w, ?_, by simpa using hown, World.grownBy.refl w _, .inl rfl⟩
    rcases hown.2 with ⟨rfl, rfl⟩ | ⟨g, cap, cur, rfl, _, _, hnc, _⟩
    · simp [Builtin.append_, run_underlying ht, sizeOf, typeInfo, hi, Builtin.lenOf, Builtin.firstCells]
    · simp [Builtin.append_, run_underlying ht, sizeOf, typeInfo, hi, Builtin.lenOf, Builtin.firstCells, hnc, storeCells]
  · have hc : ∀ j u, vs[j]? = some u → w.cell? (ad.add j) = some u := by
      intro j u hu
      obtain ⟨hj, rfl⟩ := List.getElem?_eq_some_iff.1 hu
      obtain ⟨b, off, hA, _, hcell⟩ := hs.at_ hj
      injection hA with hA
      subst hA
      rw [Addr.add_lit]
      exact hcell j hj
    obtain ⟨v', w', h1', h2, h3, _, h5⟩ := run_append_own_at (P := P) w base t ty e i z size bytes ht hi hz hsize hby hzs hsz v n xs hown ad m c vs hm hc h1 (by simp only [maxLen]; omega) hbytes hbase
    exact ⟨v', w', h1', h2, h3, h5⟩

theorem wpList_append_seesV {ops : Array Oper} {rest : List Oper} {o : Oper} {a : Act} {Q : Exit → Act → World → Prop} (hgd : o.guard = none) (s x : Operand) (t : TypeId)
    (ho : o.op = .call { callee := .builtin .append, args := #[s, x], argTypes := #[t, t] })
    (base : Nat) (e : TypeId) (i : TypeInfo) (z : Value) (size bytes : Nat) (ht : P.underlying t = some (.slice e)) (hi : P.info? e = some i) (hz : i.zero = some z)
    (hsize : i.size = size) (hby : i.bytes = bytes) (hzs : z.cells.size = size) (hsz : 0 < size)
    (v : Value) (n : Nat) (xs : List Value) (hs : a.eval s = v) (hown : w.ownsRow base e size v n xs)
    (B : Nat) (A : Option Addr) (m c : Nat) (vs : List Value) (hx : a.eval x = .slice A m c) (hm : vs.length = m * size) (hse : SeesV w B A vs) (h1 : ∀ u ∈ vs, u.oneCell' = true) (h63 : n + m ≤ 140737488355328) (hbytes : (n + m) * bytes ≤ 140737488355328) (hbase : base ≤ w.heap.size)
    (h : ∀ v' w', w'.ownsRow base e size v' (n + m) (xs ++ vs) → w.grownBy w' v.ownBlock → (v'.ownBlock = v.ownBlock ∨ v'.ownBlock = some w.heap.size) → wpList P ops Q rest (a.put o.dst v') w') : wpList P ops Q (o :: rest) a w := by
  refine wpList_plain hgd fun _ hK => ?_
  obtain ⟨v', w', hr, h2, h3, h4⟩ := run_append_seesV (P := P) base t o.type e i z size bytes ht hi hz hsize hby hzs hsz v n xs hown B A m c vs hm hse h1 h63 hbytes hbase
  unfold Oper.wp execOp
  simp only [ho, resolve, invoke, builtin, Sem.run_bind, Sem.run_pure, Result.andThen_ok, List.map_toArray, List.map_cons, List.map_nil, hs, hx, hr]
  exact hK _ _ (h v' w' h2 h3 h4)

theorem step_append_seesV {ops : Array Oper} {o : Oper} {a : Act} {K : Act → World → Prop} {Q : Exit → Act → World → Prop} {E : Prop} (hgd : o.guard = none) (s x : Operand) (t : TypeId)
    (ho : o.op = .call { callee := .builtin .append, args := #[s, x], argTypes := #[t, t] })
    (base : Nat) (e : TypeId) (i : TypeInfo) (z : Value) (size bytes : Nat) (ht : P.underlying t = some (.slice e)) (hi : P.info? e = some i) (hz : i.zero = some z)
    (hsize : i.size = size) (hby : i.bytes = bytes) (hzs : z.cells.size = size) (hsz : 0 < size)
    (v : Value) (n : Nat) (xs : List Value) (hs : a.eval s = v) (hown : w.ownsRow base e size v n xs)
    (B : Nat) (A : Option Addr) (m c : Nat) (vs : List Value) (hx : a.eval x = .slice A m c) (hm : vs.length = m * size) (hse : SeesV w B A vs) (h1 : ∀ u ∈ vs, u.oneCell' = true) (h63 : n + m ≤ 140737488355328) (hbytes : (n + m) * bytes ≤ 140737488355328) (hbase : base ≤ w.heap.size)
    (h : ∀ v' w', w'.ownsRow base e size v' (n + m) (xs ++ vs) → w.grownBy w' v.ownBlock → (v'.ownBlock = v.ownBlock ∨ v'.ownBlock = some w.heap.size) → K (a.put o.dst v') w') :
    if Region.wanted o (yielded ops a.tmps) = true then Oper.wp P o a w K Q else E := by
  have hw : Region.wanted o (yielded ops a.tmps) = true := by simp [Region.wanted, hgd]
  rw [if_pos hw]
  obtain ⟨v', w', hr, h2, h3, h4⟩ := run_append_seesV (P := P) base t o.type e i z size bytes ht hi hz hsize hby hzs hsz v n xs hown B A m c vs hm hse h1 h63 hbytes hbase
  unfold Oper.wp execOp
  simp only [ho, resolve, invoke, builtin, Sem.run_bind, Sem.run_pure, Result.andThen_ok, List.map_toArray, List.map_cons, List.map_nil, hs, hx, hr]
  exact h v' w' h2 h3 h4
end

/-- Nothing that was there at w has changed at W. -/
theorem nxRefl (w : World) : Below w.heap.size w w := Below.refl _ _
theorem nxAlloc {w W : World} (h : Below w.heap.size w W) (o : Obj) : Below w.heap.size w (W.alloc o) := h.alloc h.size o
theorem nxTo {w W W' : World} (h : Below w.heap.size w W) (k : Below W.heap.size W W') : Below w.heap.size w W' := h.trans (k.mono h.size)
theorem nxUndr {w W : World} (h : Below w.drew.heap.size w.drew W) : Below w.heap.size w W := ⟨h.os, h.tape, h.output, h.size, h.block⟩
/-- A row that was made whole. -/
theorem own_made {w : World} {base g : Nat} {e : TypeId} {n c size : Nat} {cs : List Value} (hb : Blk w g e cs.toArray) (hg : base ≤ g) (hn : n ≤ c) (hc : c ≤ maxLen) (hl : cs.length = c * size) : w.ownsRow base e size (.slice (some ⟨g, 0, none⟩) n c) n (cs.take (n * size)) := by
  refine ⟨?_, .inr ⟨g, c, cs.toArray, rfl, hg, hb, hn, hc, by simpa using hl, by simp⟩⟩
  rw [List.length_take, hl]
  exact Nat.min_eq_left (Nat.mul_le_mul_right _ hn)

/-- A row's form, and that it lies from base on. -/
theorem own_lt {w : World} {base size : Nat} {e : TypeId} {v : Value} {n : Nat} {xs : List Value} (h : w.ownsRow base e size v n xs) : ∀ j, v.ownBlock = some j → base ≤ j ∧ j < w.heap.size := by
  intro j hj
  rcases h.2 with ⟨rfl, _⟩ | ⟨g, cap, cur, rfl, hb, hh, _⟩
  · simp [Value.ownBlock] at hj
  · have hg : Blk w g e cur := hh
    simp only [Value.ownBlock, Option.some.injEq] at hj
    subst hj
    exact ⟨hb, hg.lt⟩
theorem own_cap' {w : World} {base size : Nat} {e : TypeId} {n c : Nat} {A : Option Addr} {xs : List Value} (h : w.ownsRow base e size (.slice A n c) n xs) : n ≤ c := by
  rcases h.2 with ⟨hv, h0⟩ | ⟨g, cap, cur, hv, hb, hh, hnc, r⟩
  · injection hv with _ _ hc; omega
  · injection hv with _ _ hc; omega
/-- The cells of a row of the call's own that is set at one place. -/
theorem own_set {w : World} {base : Nat} {e : TypeId} {n c : Nat} {A : Option Addr} {xs : List Value} (h : w.ownsRow base e 1 (.slice A n c) n xs) {k : Nat} (hk : k < n) (u : Value) :
    ∃ g, A = some ⟨g, 0, none⟩ ∧ base ≤ g ∧ w.cell? ⟨g, k, none⟩ = xs[k]? ∧ w.frozen? ⟨g, k, none⟩ = false ∧ (w.setCell ⟨g, k, none⟩ u).ownsRow base e 1 (.slice A n c) n (xs.set k u) := by
  have hl := h.1
  rcases h.2 with ⟨hv, h0⟩ | ⟨g, cap, cur, hv, hb, hh, hnc, hcm, hcs, ht⟩
  · omega
  · have hg : Blk w g e cur := hh
    injection hv with hA hn' hc'
    subst hA hc'
    refine ⟨g, rfl, hb, ?_, hg.frozen k, by simpa using hl, .inr ⟨g, c, cur.setIfInBounds k u, rfl, hb, hg.set k u, hnc, hcm, by simpa using hcs, ?_⟩⟩
    · rw [hg.cell k, ← ht, List.getElem?_take, if_pos (by omega)]; simp
    · rw [← ht, Array.toList_setIfInBounds, List.take_set]

end Go.Proofs.YtpfjkjogljilnaaDoor
namespace Go.Proofs.YtpfjkjogljilnaaDoor
open Go.RowKit

theorem foldl_set (off : Nat) (vs : List Value) : ∀ (k : Nat) (l : List Value), off + k + vs.length ≤ l.length →
    (vs.zipIdx k).foldl (fun (cs : Array Value) (p : Value × Nat) => cs.setIfInBounds (off + p.2) p.1) l.toArray = (l.take (off + k) ++ vs ++ l.drop (off + k + vs.length)).toArray := by
  induction vs with
  | nil => intro k l h; simp
  | cons v r ih =>
    intro k l h
    simp only [List.length_cons] at h
    rw [List.zipIdx_cons, List.foldl_cons, List.setIfInBounds_toArray, ih (k + 1) _ (by rw [List.length_set]; omega)]
    congr 1
    have h1 : (l.set (off + k) v).take (off + (k + 1)) = l.take (off + k) ++ [v] := by
      rw [← Nat.add_assoc, List.take_succ_eq_append_getElem (by rw [List.length_set]; omega), List.getElem_set_self, List.take_set_of_le (Nat.le_refl _)]
    have h2 : (l.set (off + k) v).drop (off + (k + 1) + r.length) = l.drop (off + k + (r.length + 1)) := by
      rw [List.drop_set_of_lt (by omega)]; congr 1; omega
    rw [h1, h2, List.append_assoc, List.append_assoc]; simp
theorem fill_one (size : Nat) (z : List Value) (vs : List Value) (hz : z.length = size) (hv : vs.length = size) :
    Instr.fill (fun i => some (i * size, size)) z.toArray [(0, .agg vs.toArray)] = some vs.toArray := by
  have h := foldl_set 0 vs 0 z (by omega)
  simp only [Nat.zero_add, List.take_zero, List.nil_append] at h
  rw [List.drop_eq_nil_of_le (by omega), List.append_nil] at h
  have hc : (Value.agg vs.toArray).cells = vs.toArray := rfl
  unfold Instr.fill
  simp only [hc, Nat.zero_mul, Nat.zero_add, List.size_toArray]
  rw [if_neg (by simp; omega)]
  unfold Instr.fill
  congr 1
  refine Eq.trans ?_ h
  simp
end Go.Proofs.YtpfjkjogljilnaaDoor
