/-
  merkle, plainly: rows gone up two by two, and halves from above: the same top, the same path, the same size, the same way up. · merkle, plainly: sizes, and the way up from a leaf, by rows and by halves. · merkle: the walks of what reckons with places and numbers alone.
-/
import Derived.Test.YtjcbihdhkaiidaaWords
import Derived.Test.YtjcbihdhkaiidaaChecked
namespace Go.Proofs.Ytjcbihdhkaiidaa

/-- The greatest power of two below a number (of 2 or more). -/
def half (n : Nat) : Nat := 2 ^ Nat.log2 (n - 1)
theorem half_pos (n : Nat) : 0 < half n := Nat.two_pow_pos _
theorem half_lt {n : Nat} (h : 2 ≤ n) : half n < n := by
  have := Nat.log2_self_le (n := n - 1) (by omega)
  unfold half; omega
theorem half_ge {n : Nat} (h : 2 ≤ n) : n ≤ 2 * half n := by
  have := Nat.lt_log2_self (n := n - 1)
  rw [Nat.pow_succ] at this
  unfold half; omega
theorem pow2_lt {i j : Nat} (h : 2 ^ i < 2 * 2 ^ j) : i ≤ j := by
  rw [← Nat.pow_succ'] at h
  have := (Nat.pow_lt_pow_iff_right (by omega : 1 < 2)).1 h
  omega
theorem half_unique {n j : Nat} (h1 : 2 ^ j < n) (h2 : n ≤ 2 * 2 ^ j) : half n = 2 ^ j := by
  have hn : 2 ≤ n := by have := Nat.two_pow_pos j; omega
  have a := half_lt hn
  have b := half_ge hn
  unfold half at a b ⊢
  generalize Nat.log2 (n - 1) = i at *
  have p := pow2_lt (i := i) (j := j) (by omega)
  have q := pow2_lt (i := j) (j := i) (by omega)
  have : i = j := by omega
  rw [this]
theorem half_two : half 2 = 1 := half_unique (j := 0) (by decide) (by decide)
/-- Above three or more the half is twice the half of the row above. -/
theorem half_up {n : Nat} (h : 3 ≤ n) : half n = 2 * half ((n + 1) / 2) := by
  obtain ⟨j, hj⟩ : ∃ j, half ((n + 1) / 2) = 2 ^ j := ⟨_, rfl⟩
  have a := half_lt (n := (n + 1) / 2) (by omega)
  have b := half_ge (n := (n + 1) / 2) (by omega)
  rw [hj] at a b ⊢
  have := half_unique (n := n) (j := j + 1) (by rw [Nat.pow_succ]; omega) (by rw [Nat.pow_succ]; omega)
  rw [this, Nat.pow_succ]; omega

section
variable {α : Type} (kn : α → α → α)
/-- The row above a row. -/
def knotsL : List α → List α
  | a :: b :: r => kn a b :: knotsL r
  | l => l
theorem knotsL_len (l : List α) : (knotsL kn l).length = (l.length + 1) / 2 := by
  induction l using knotsL.induct with
  | case1 a b r ih => simp only [knotsL, List.length_cons, ih]; omega
  | case2 l h =>
    match l, h with
    | [], _ => simp [knotsL]
    | [x], _ => simp [knotsL]
    | a :: b :: r, h => exact absurd rfl (h a b r)
theorem knotsL_short {l : List α} (h : l.length ≤ 1) : knotsL kn l = l := by
  match l, h with
  | [], _ => rfl
  | [x], _ => rfl
theorem knotsL_append (l m : List α) (h : l.length % 2 = 0) : knotsL kn (l ++ m) = knotsL kn l ++ knotsL kn m := by
  induction l using knotsL.induct with
  | case1 a b r ih =>
    simp only [List.cons_append, knotsL]
    rw [ih (by simp only [List.length_cons] at h; omega)]
  | case2 l hl =>
    match l, hl, h with
    | [], _, _ => rfl
    | [x], _, h => simp at h
    | a :: b :: r, hl, _ => exact absurd rfl (hl a b r)
variable [Inhabited α]
theorem knotsL_get (l : List α) (i : Nat) (h : 2 * i + 1 < l.length) : (knotsL kn l).getD i default = kn (l.getD (2 * i) default) (l.getD (2 * i + 1) default) := by
  induction l using knotsL.induct generalizing i with
  | case1 a b r ih =>
    cases i with
    | zero => simp [knotsL]
    | succ i =>
      have := ih i (by simp only [List.length_cons] at h; omega)
      have e1 : 2 * (i + 1) = 2 * i + 1 + 1 := by omega
      simp only [knotsL, List.getD_cons_succ, this, e1]
  | case2 l hl =>
    match l, hl, h with
    | [], _, h => simp at h
    | [x], _, h => simp at h
    | a :: b :: r, hl, _ => exact absurd rfl (hl a b r)
theorem knotsL_last (l : List α) (i : Nat) (h : 2 * i + 1 = l.length) : (knotsL kn l).getD i default = l.getD (2 * i) default := by
  induction l using knotsL.induct generalizing i with
  | case1 a b r ih =>
    cases i with
    | zero => simp at h
    | succ i =>
      have := ih i (by simp only [List.length_cons] at h; omega)
      have e1 : 2 * (i + 1) = 2 * i + 1 + 1 := by omega
      simp only [knotsL, List.getD_cons_succ, this, e1]
  | case2 l hl =>
    match l, hl, h with
    | [], _, h => simp at h
    | [x], _, h => have h0 : i = 0 := by simp at h; omega
                   subst h0; rfl
    | a :: b :: r, hl, _ => exact absurd rfl (hl a b r)

/-- What is left of the rows above a row: by rows. -/
def topR (l : List α) : List α := if h : l.length ≤ 1 then l else topR (knotsL kn l)
termination_by l.length
decreasing_by rw [knotsL_len]; omega
/-- The same from above, by halves. -/
def topH (l : List α) : α := if h : l.length ≤ 1 then l.getD 0 default else kn (topH (l.take (half l.length))) (topH (l.drop (half l.length)))
termination_by l.length
decreasing_by
  · have := half_lt (n := l.length) (by omega); simp only [List.length_take]; omega
  · have := half_pos l.length; simp only [List.length_drop]; omega
theorem topH_one {l : List α} (h : l.length ≤ 1) : topH kn l = l.getD 0 default := by rw [topH, dif_pos h]
theorem topH_two {l : List α} (h : ¬ l.length ≤ 1) : topH kn l = kn (topH kn (l.take (half l.length))) (topH kn (l.drop (half l.length))) := by rw [topH, dif_neg h]
omit [Inhabited α] in
/-- Where a row of three or more is parted, so is the row above it. -/
theorem knotsL_part {l : List α} (h : 3 ≤ l.length) : (knotsL kn l).take (half (knotsL kn l).length) = knotsL kn (l.take (half l.length)) ∧ (knotsL kn l).drop (half (knotsL kn l).length) = knotsL kn (l.drop (half l.length)) := by
  have hu := half_up h
  have hl := half_lt (n := l.length) (by omega)
  have hlen : (knotsL kn (l.take (half l.length))).length = half ((l.length + 1) / 2) := by
    rw [knotsL_len, List.length_take, Nat.min_eq_left (by omega)]; omega
  have e : knotsL kn l = knotsL kn (l.take (half l.length)) ++ knotsL kn (l.drop (half l.length)) := by
    rw [← knotsL_append, List.take_append_drop]
    rw [List.length_take, Nat.min_eq_left (by omega)]; omega
  rw [knotsL_len, ← hlen]
  constructor
  · rw [e, List.take_left]
  · rw [e, List.drop_left]
theorem topH_up (l : List α) : topH kn (knotsL kn l) = topH kn l := by
  induction hn : l.length using Nat.strongRecOn generalizing l with
  | ind n ih =>
    subst hn
    by_cases h1 : l.length ≤ 1
    · rw [knotsL_short kn h1]
    · by_cases h2 : l.length = 2
      · match l, h2 with
        | [a, b], _ =>
          rw [topH_two kn (l := [a, b]) (by simp)]
          simp [knotsL, half_two, topH_one]
      · have h3 : 3 ≤ l.length := by omega
        obtain ⟨p1, p2⟩ := knotsL_part kn h3
        have hl := half_lt (n := l.length) (by omega)
        have hp := half_pos l.length
        rw [topH_two kn (l := knotsL kn l) (by rw [knotsL_len]; omega), p1, p2, topH_two kn h1]
        rw [ih _ (by rw [List.length_take]; omega) _ rfl, ih _ (by rw [List.length_drop]; omega) _ rfl]
theorem topR_eq (l : List α) (h : l ≠ []) : topR kn l = [topH kn l] := by
  induction hn : l.length using Nat.strongRecOn generalizing l with
  | ind n ih =>
    subst hn
    rw [topR]
    split
    · next h1 =>
      match l, h, h1 with
      | [x], _, _ => rw [topH_one kn (by simp)]; rfl
    · next h1 =>
      have hl := knotsL_len kn l
      rw [ih _ (by omega) (knotsL kn l) (by intro e; rw [e] at hl; simp at hl; omega) rfl, topH_up]

/-- What stands beside the n-th of a row. -/
def hereL (n : Nat) (l : List α) : List α := if n + 1 = l.length ∧ n % 2 = 0 then [] else if n % 2 = 0 then [l.getD (n + 1) default] else [l.getD (n - 1) default]
/-- The path of the n-th, row by row. -/
def besR (n : Nat) (l : List α) : List α := if h : l.length ≤ 1 then [] else hereL n l ++ besR (n / 2) (knotsL kn l)
termination_by l.length
decreasing_by rw [knotsL_len]; omega
/-- The same by halves. -/
def besH (n : Nat) (l : List α) : List α :=
  if h : l.length ≤ 1 then [] else if n < half l.length then besH n (l.take (half l.length)) ++ [topH kn (l.drop (half l.length))] else besH (n - half l.length) (l.drop (half l.length)) ++ [topH kn (l.take (half l.length))]
termination_by l.length
decreasing_by
  · have := half_lt (n := l.length) (by omega); simp only [List.length_take]; omega
  · have := half_pos l.length; simp only [List.length_drop]; omega
theorem besH_one {n : Nat} {l : List α} (h : l.length ≤ 1) : besH kn n l = [] := by rw [besH, dif_pos h]
theorem besH_left {n : Nat} {l : List α} (h : ¬ l.length ≤ 1) (hn : n < half l.length) : besH kn n l = besH kn n (l.take (half l.length)) ++ [topH kn (l.drop (half l.length))] := by rw [besH, dif_neg h, if_pos hn]
theorem besH_right {n : Nat} {l : List α} (h : ¬ l.length ≤ 1) (hn : ¬ n < half l.length) : besH kn n l = besH kn (n - half l.length) (l.drop (half l.length)) ++ [topH kn (l.take (half l.length))] := by rw [besH, dif_neg h, if_neg hn]
theorem getD_take {l : List α} {k i : Nat} (h : i < k) : (l.take k).getD i default = l.getD i default := by simp [List.getElem?_take, h]
theorem getD_drop (l : List α) (k i : Nat) : (l.drop k).getD i default = l.getD (k + i) default := by simp [List.getElem?_drop]
theorem hereL_left {n : Nat} {l : List α} (h3 : 3 ≤ l.length) (hn : n < half l.length) : hereL n (l.take (half l.length)) = hereL n l := by
  have hu := half_up h3
  have hl := half_lt (n := l.length) (by omega)
  have hlen : (l.take (half l.length)).length = half l.length := by rw [List.length_take]; omega
  unfold hereL
  rw [hlen]
  have h1 : ¬ (n + 1 = half l.length ∧ n % 2 = 0) := by omega
  have h2 : ¬ (n + 1 = l.length ∧ n % 2 = 0) := by omega
  rw [if_neg h1, if_neg h2]
  split
  · rw [getD_take (by omega)]
  · rw [getD_take (by omega)]
theorem hereL_right {n : Nat} {l : List α} (h3 : 3 ≤ l.length) (hn : ¬ n < half l.length) : hereL (n - half l.length) (l.drop (half l.length)) = hereL n l := by
  have hu := half_up h3
  have hlen : (l.drop (half l.length)).length = l.length - half l.length := List.length_drop
  have hp := half_pos l.length
  unfold hereL
  rw [hlen, getD_drop, getD_drop]
  have hl := half_lt (n := l.length) (by omega)
  by_cases h0 : n % 2 = 0
  · have e : (n - half l.length) % 2 = 0 := by omega
    by_cases h1 : n + 1 = l.length
    · rw [if_pos ⟨by omega, e⟩, if_pos ⟨h1, h0⟩]
    · have h1' : ¬ (n - half l.length + 1 = l.length - half l.length) := by omega
      simp only [h1', h1, false_and, if_false, e, h0, if_true, show half l.length + (n - half l.length + 1) = n + 1 by omega]
  · have e : ¬ (n - half l.length) % 2 = 0 := by omega
    simp only [e, h0, and_false, if_false, show half l.length + (n - half l.length - 1) = n - 1 by omega]
theorem besH_up (n : Nat) (l : List α) (hn : n < l.length) : besH kn n l = (if l.length ≤ 1 then [] else hereL n l) ++ besH kn (n / 2) (knotsL kn l) := by
  induction hm : l.length using Nat.strongRecOn generalizing l n with
  | ind m ih =>
    subst hm
    by_cases h1 : l.length ≤ 1
    · rw [if_pos h1, besH_one kn h1, knotsL_short kn h1, besH_one kn h1]; rfl
    · rw [if_neg h1]
      by_cases h2 : l.length = 2
      · match l, h2, hn with
        | [a, b], _, hn =>
          have e1 : besH kn (n / 2) (knotsL kn [a, b]) = [] := besH_one kn (by simp [knotsL])
          rw [e1, List.append_nil]
          have : n = 0 ∨ n = 1 := by simp at hn; omega
          rcases this with rfl | rfl
          · rw [besH_left kn (by simp) (by simp [half_two])]
            simp [half_two, besH_one, topH_one, hereL]
          · rw [besH_right kn (by simp) (by simp [half_two])]
            simp [half_two, besH_one, topH_one, hereL]
      · have h3 : 3 ≤ l.length := by omega
        obtain ⟨p1, p2⟩ := knotsL_part kn h3
        have hl := half_lt (n := l.length) (by omega)
        have hu := half_up h3
        have hp := half_pos l.length
        have hkl := knotsL_len kn l
        have hk2 : half (knotsL kn l).length = half l.length / 2 := by rw [hkl]; omega
        by_cases hk : n < half l.length
        · rw [besH_left kn h1 hk, ih _ (by rw [List.length_take]; omega) n (l.take (half l.length)) (by rw [List.length_take]; omega) rfl]
          rw [if_neg (by rw [List.length_take]; omega), hereL_left h3 hk]
          rw [besH_left kn (l := knotsL kn l) (by omega) (by rw [hk2]; omega), p1, p2, topH_up, List.append_assoc]
        · rw [besH_right kn h1 hk, ih _ (by rw [List.length_drop]; omega) (n - half l.length) (l.drop (half l.length)) (by rw [List.length_drop]; omega) rfl]
          rw [besH_right kn (l := knotsL kn l) (by omega) (by rw [hk2]; omega), p1, p2, topH_up, List.append_assoc, hk2]
          have e2 : n / 2 - half l.length / 2 = (n - half l.length) / 2 := by omega
          rw [e2]
          by_cases h4 : (l.drop (half l.length)).length ≤ 1
          · rw [if_pos h4]
            have e3 : hereL n l = [] := by
              rw [hereL, if_pos]
              rw [List.length_drop] at h4
              omega
            rw [e3]
          · rw [if_neg h4, hereL_right h3 hk]
theorem besR_eq (n : Nat) (l : List α) (hn : n < l.length) : besR kn n l = besH kn n l := by
  induction hm : l.length using Nat.strongRecOn generalizing l n with
  | ind m ih =>
    subst hm
    rw [besR, besH_up kn n l hn]
    have hl := knotsL_len kn l
    split
    · next h1 => rw [knotsL_short kn h1, besH_one kn h1]; rfl
    · next h1 => rw [ih _ (by omega) (n / 2) (knotsL kn l) (by omega) rfl]
end
end Go.Proofs.Ytjcbihdhkaiidaa
namespace Go.Proofs.Ytjcbihdhkaiidaa

/-- Is nothing beside the n-th of so many? -/
def aloneB (n c : Nat) : Bool := decide (n + 1 = c ∧ n % 2 = 0)
/-- How long the path of the n-th of so many is: by rows. -/
def szR (n c : Nat) : Nat := if h : c ≤ 1 then 0 else (if aloneB n c = true then 0 else 1) + szR (n / 2) ((c + 1) / 2)
termination_by c
decreasing_by omega
/-- The same by halves. -/
def szH (n c : Nat) : Nat := if h : c ≤ 1 then 0 else if n < half c then 1 + szH n (half c) else 1 + szH (n - half c) (c - half c)
termination_by c
decreasing_by
  · exact half_lt (by omega)
  · have := half_pos c; omega
theorem szR_one {n c : Nat} (h : c ≤ 1) : szR n c = 0 := by rw [szR, dif_pos h]
theorem szR_up {n c : Nat} (h : ¬ c ≤ 1) : szR n c = (if aloneB n c = true then 0 else 1) + szR (n / 2) ((c + 1) / 2) := by rw [szR, dif_neg h]
theorem szH_one {n c : Nat} (h : c ≤ 1) : szH n c = 0 := by rw [szH, dif_pos h]
theorem szH_left {n c : Nat} (h : ¬ c ≤ 1) (hn : n < half c) : szH n c = 1 + szH n (half c) := by rw [szH, dif_neg h, if_pos hn]
theorem szH_right {n c : Nat} (h : ¬ c ≤ 1) (hn : ¬ n < half c) : szH n c = 1 + szH (n - half c) (c - half c) := by rw [szH, dif_neg h, if_neg hn]

section
variable {α : Type} [Inhabited α] (kn : α → α → α)
theorem besR_len (n : Nat) (l : List α) : (besR kn n l).length = szR n l.length := by
  induction hm : l.length using Nat.strongRecOn generalizing l n with
  | ind m ih =>
    subst hm
    rw [besR]
    have hl := knotsL_len kn l
    split
    · next h => rw [szR_one h]; rfl
    · next h =>
      rw [szR_up h, List.length_append, ih _ (by omega) (n / 2) (knotsL kn l) rfl, hl]
      congr 1
      by_cases h1 : n + 1 = l.length ∧ n % 2 = 0
      · have ha : aloneB n l.length = true := decide_eq_true h1
        rw [ha, hereL, if_pos h1]; rfl
      · have ha : aloneB n l.length = false := decide_eq_false h1
        rw [ha, hereL, if_neg h1]
        split <;> rfl
theorem besH_len (n : Nat) (l : List α) : (besH kn n l).length = szH n l.length := by
  induction hm : l.length using Nat.strongRecOn generalizing l n with
  | ind m ih =>
    subst hm
    by_cases h : l.length ≤ 1
    · rw [besH_one kn h, szH_one h]; rfl
    · have hl := half_lt (n := l.length) (by omega)
      have hp := half_pos l.length
      by_cases hn : n < half l.length
      · rw [besH_left kn h hn, szH_left h hn, List.length_append, ih _ (by rw [List.length_take]; omega) n _ rfl, List.length_take, Nat.min_eq_left (by omega)]
        simp; omega
      · rw [besH_right kn h hn, szH_right h hn, List.length_append, ih _ (by rw [List.length_drop]; omega) _ _ rfl, List.length_drop]
        simp; omega
theorem sz_eq (n c : Nat) (h : n < c) : szR n c = szH n c := by
  have h1 := besR_len (fun a _ => a) n (List.replicate c (0 : Nat))
  have h2 := besH_len (fun a _ => a) n (List.replicate c (0 : Nat))
  rw [besR_eq _ _ _ (by simpa using h)] at h1
  rw [List.length_replicate] at h1 h2
  rw [← h1, ← h2]

/-- The way up from what stands at the n-th place of so many: by rows. -/
def ldR (x : α) (n c : Nat) (hs : List α) : α :=
  if h : c ≤ 1 then x else if aloneB n c = true then ldR x (n / 2) ((c + 1) / 2) hs else if n % 2 = 0 then ldR (kn x (hs.getD 0 default)) (n / 2) ((c + 1) / 2) (hs.drop 1) else ldR (kn (hs.getD 0 default) x) (n / 2) ((c + 1) / 2) (hs.drop 1)
termination_by c
decreasing_by all_goals omega
/-- The same by halves. -/
def ldH (x : α) (n c : Nat) (hs : List α) : α :=
  if h : c ≤ 1 then x else if n < half c then kn (ldH x n (half c) (hs.take (hs.length - 1))) (hs.getD (hs.length - 1) default) else kn (hs.getD (hs.length - 1) default) (ldH x (n - half c) (c - half c) (hs.take (hs.length - 1)))
termination_by c
decreasing_by
  · exact half_lt (by omega)
  · have := half_pos c; omega
theorem ldR_one {x : α} {n c : Nat} {hs : List α} (h : c ≤ 1) : ldR kn x n c hs = x := by rw [ldR, dif_pos h]
theorem ldR_alone {x : α} {n c : Nat} {hs : List α} (h : ¬ c ≤ 1) (ha : aloneB n c = true) : ldR kn x n c hs = ldR kn x (n / 2) ((c + 1) / 2) hs := by rw [ldR, dif_neg h, if_pos ha]
theorem ldR_even {x : α} {n c : Nat} {hs : List α} (h : ¬ c ≤ 1) (ha : ¬ aloneB n c = true) (he : n % 2 = 0) : ldR kn x n c hs = ldR kn (kn x (hs.getD 0 default)) (n / 2) ((c + 1) / 2) (hs.drop 1) := by rw [ldR, dif_neg h, if_neg ha, if_pos he]
theorem ldR_odd {x : α} {n c : Nat} {hs : List α} (h : ¬ c ≤ 1) (ha : ¬ aloneB n c = true) (he : ¬ n % 2 = 0) : ldR kn x n c hs = ldR kn (kn (hs.getD 0 default) x) (n / 2) ((c + 1) / 2) (hs.drop 1) := by rw [ldR, dif_neg h, if_neg ha, if_neg he]
theorem ldH_one {x : α} {n c : Nat} {hs : List α} (h : c ≤ 1) : ldH kn x n c hs = x := by rw [ldH, dif_pos h]
theorem ldH_left {x : α} {n c : Nat} {hs : List α} (h : ¬ c ≤ 1) (hn : n < half c) : ldH kn x n c hs = kn (ldH kn x n (half c) (hs.take (hs.length - 1))) (hs.getD (hs.length - 1) default) := by rw [ldH, dif_neg h, if_pos hn]
theorem ldH_right {x : α} {n c : Nat} {hs : List α} (h : ¬ c ≤ 1) (hn : ¬ n < half c) : ldH kn x n c hs = kn (hs.getD (hs.length - 1) default) (ldH kn x (n - half c) (c - half c) (hs.take (hs.length - 1))) := by rw [ldH, dif_neg h, if_neg hn]

/-- What a step by rows leaves: the hash, and the other hashes. -/
def stX (x : α) (n c : Nat) (hs : List α) : α := if aloneB n c = true then x else if n % 2 = 0 then kn x (hs.getD 0 default) else kn (hs.getD 0 default) x
def stH (n c : Nat) (hs : List α) : List α := if aloneB n c = true then hs else hs.drop 1
theorem ldR_step {x : α} {n c : Nat} {hs : List α} (h : ¬ c ≤ 1) : ldR kn x n c hs = ldR kn (stX kn x n c hs) (n / 2) ((c + 1) / 2) (stH n c hs) := by
  unfold stX stH
  by_cases ha : aloneB n c = true
  · rw [ldR_alone kn h ha, if_pos ha, if_pos ha]
  · rw [if_neg ha, if_neg ha]
    by_cases he : n % 2 = 0
    · rw [ldR_even kn h ha he, if_pos he]
    · rw [ldR_odd kn h ha he, if_neg he]
omit [Inhabited α] in
theorem take_drop_last {hs : List α} (h : 2 ≤ hs.length) : (hs.drop 1).take ((hs.drop 1).length - 1) = (hs.take (hs.length - 1)).drop 1 := by
  rw [List.drop_take, List.length_drop]
theorem ldH_step (x : α) (n c : Nat) (hs : List α) (hn : n < c) (hl : hs.length = szH n c) (h : ¬ c ≤ 1) : ldH kn x n c hs = ldH kn (stX kn x n c hs) (n / 2) ((c + 1) / 2) (stH n c hs) := by
  induction hm : c using Nat.strongRecOn generalizing c n hs with
  | ind m ih =>
    subst hm
    by_cases h2 : c = 2
    · subst h2
      have hl1 : hs.length = 1 := by
        rw [hl]
        have : n = 0 ∨ n = 1 := by omega
        rcases this with rfl | rfl
        · rw [szH_left (by omega) (by rw [half_two]; omega), half_two, szH_one (by omega)]
        · rw [szH_right (by omega) (by rw [half_two]; omega), half_two, szH_one (by omega)]
      match hs, hl1 with
      | [y], _ =>
        rw [ldH_one kn (c := (2 + 1) / 2) (by omega)]
        have : n = 0 ∨ n = 1 := by omega
        rcases this with rfl | rfl
        · rw [ldH_left kn (by omega) (by rw [half_two]; omega), half_two, ldH_one kn (by omega)]; rfl
        · rw [ldH_right kn (by omega) (by rw [half_two]; omega), half_two, ldH_one kn (by omega)]; rfl
    · have h3 : 3 ≤ c := by omega
      have hlt := half_lt (n := c) (by omega)
      have hu := half_up h3
      have hp := half_pos ((c + 1) / 2)
      by_cases hk : n < half c
      · have hs1 := szH_left h hk
        have hk1 : ¬ half c ≤ 1 := by omega
        have hs2 : 1 ≤ szH n (half c) := by
          by_cases hq : n < half (half c)
          · rw [szH_left hk1 hq]; omega
          · rw [szH_right hk1 hq]; omega
        have ha1 : aloneB n c = false := by simp [aloneB]; omega
        have ha2 : aloneB n (half c) = false := by simp [aloneB]; omega
        have hi := ih (half c) hlt n (half c) (hs.take (hs.length - 1)) hk (by rw [List.length_take]; omega) hk1 rfl
        rw [ldH_left kn h hk, hi]
        have e1 : (half c + 1) / 2 = half ((c + 1) / 2) := by omega
        rw [ldH_left kn (c := (c + 1) / 2) (by omega) (by omega), e1]
        have e2 : stX kn x n (half c) (hs.take (hs.length - 1)) = stX kn x n c hs := by
          unfold stX
          rw [ha1, ha2, getD_take (by omega)]
        have e3 : stH n (half c) (hs.take (hs.length - 1)) = (stH n c hs).take ((stH n c hs).length - 1) := by
          unfold stH
          rw [ha1, ha2]
          simp only [Bool.false_eq_true, if_false]
          exact (take_drop_last (by omega)).symm
        have e4 : (stH n c hs).getD ((stH n c hs).length - 1) default = hs.getD (hs.length - 1) default := by
          unfold stH
          rw [ha1]
          simp only [Bool.false_eq_true, if_false]
          rw [getD_drop, List.length_drop, show 1 + (hs.length - 1 - 1) = hs.length - 1 by omega]
        rw [e2, e3, e4]
      · have hs1 := szH_right h hk
        by_cases hc1 : c - half c ≤ 1
        · have hnk : n = half c := by omega
          have hcn : c = half c + 1 := by omega
          have ha : aloneB n c = true := by simp [aloneB]; omega
          have ex : stX kn x n c hs = x := by unfold stX; rw [if_pos ha]
          have eh : stH n c hs = hs := by unfold stH; rw [if_pos ha]
          rw [ex, eh, ldH_right kn h hk, ldH_one kn hc1]
          rw [ldH_right kn (c := (c + 1) / 2) (by omega) (by omega), ldH_one kn (by omega)]
        · have hs2 : 1 ≤ szH (n - half c) (c - half c) := by
            by_cases hq : n - half c < half (c - half c)
            · rw [szH_left hc1 hq]; omega
            · rw [szH_right hc1 hq]; omega
          have ha : aloneB (n - half c) (c - half c) = aloneB n c := by
            unfold aloneB
            apply decide_eq_decide.2
            omega
          have hi := ih (c - half c) (by omega) (n - half c) (c - half c) (hs.take (hs.length - 1)) (by omega) (by rw [List.length_take]; omega) hc1 rfl
          rw [ldH_right kn h hk, hi]
          have e0 : (n - half c) / 2 = n / 2 - half ((c + 1) / 2) := by omega
          have e1 : (c - half c + 1) / 2 = (c + 1) / 2 - half ((c + 1) / 2) := by omega
          have ep : (n - half c) % 2 = n % 2 := by omega
          rw [ldH_right kn (c := (c + 1) / 2) (by omega) (by omega), e0, e1]
          have e2 : stX kn x (n - half c) (c - half c) (hs.take (hs.length - 1)) = stX kn x n c hs := by
            unfold stX
            rw [ha, getD_take (by omega), ep]
          have e3 : stH (n - half c) (c - half c) (hs.take (hs.length - 1)) = (stH n c hs).take ((stH n c hs).length - 1) := by
            unfold stH
            rw [ha]
            split
            · rfl
            · exact (take_drop_last (by omega)).symm
          have e4 : (stH n c hs).getD ((stH n c hs).length - 1) default = hs.getD (hs.length - 1) default := by
            unfold stH
            split
            · rfl
            · rw [getD_drop, List.length_drop, show 1 + (hs.length - 1 - 1) = hs.length - 1 by omega]
          rw [e2, e3, e4]
omit [Inhabited α] in
theorem stH_len (n c : Nat) (hs : List α) (hn : n < c) (hl : hs.length = szH n c) (h : ¬ c ≤ 1) : (stH n c hs).length = szH (n / 2) ((c + 1) / 2) := by
  have e := sz_eq n c hn
  rw [szR_up h, sz_eq (n / 2) ((c + 1) / 2) (by omega)] at e
  unfold stH
  split
  · next ha => rw [if_pos ha] at e; omega
  · next ha => rw [if_neg ha] at e; rw [List.length_drop]; omega
theorem ld_eq (x : α) (n c : Nat) (hs : List α) (hn : n < c) (hl : hs.length = szH n c) : ldR kn x n c hs = ldH kn x n c hs := by
  induction hm : c using Nat.strongRecOn generalizing c n hs x with
  | ind m ih =>
    subst hm
    by_cases h : c ≤ 1
    · rw [ldR_one kn h, ldH_one kn h]
    · rw [ldR_step kn h, ldH_step kn x n c hs hn hl h, ih _ (by omega) _ _ _ _ (by omega) (stH_len n c hs hn hl h) rfl]
/-- The path of the n-th of a row leads to its top. -/
theorem ldR_path (n : Nat) (l : List α) (hn : n < l.length) : ldR kn (l.getD n default) n l.length (besR kn n l) = topH kn l := by
  induction hm : l.length using Nat.strongRecOn generalizing l n with
  | ind m ih =>
    subst hm
    have hl := knotsL_len kn l
    by_cases h : l.length ≤ 1
    · rw [ldR_one kn h, topH_one kn h, show n = 0 by omega]
    · rw [ldR_step kn h, ← topH_up, besR, dif_neg h]
      have hi := ih _ (by omega) (n / 2) (knotsL kn l) (by omega) rfl
      rw [hl] at hi
      have e1 : stH n l.length (hereL n l ++ besR kn (n / 2) (knotsL kn l)) = besR kn (n / 2) (knotsL kn l) := by
        unfold stH hereL aloneB
        by_cases h1 : n + 1 = l.length ∧ n % 2 = 0
        · rw [if_pos (by simpa using h1), if_pos h1]; rfl
        · rw [if_neg (by simpa using h1), if_neg h1]
          split <;> rfl
      have e2 : stX kn (l.getD n default) n l.length (hereL n l ++ besR kn (n / 2) (knotsL kn l)) = (knotsL kn l).getD (n / 2) default := by
        unfold stX hereL aloneB
        by_cases h1 : n + 1 = l.length ∧ n % 2 = 0
        · rw [if_pos (by simpa using h1), knotsL_last kn l (n / 2) (by omega), show 2 * (n / 2) = n by omega]
        · rw [if_neg (by simpa using h1), if_neg h1]
          by_cases h2 : n % 2 = 0
          · rw [if_pos h2, if_pos h2, knotsL_get kn l (n / 2) (by omega), show 2 * (n / 2) = n by omega]; rfl
          · rw [if_neg h2, if_neg h2, knotsL_get kn l (n / 2) (by omega), show 2 * (n / 2) = n - 1 by omega, show n - 1 + 1 = n by omega]; rfl
      rw [e1, e2, hi]
end
end Go.Proofs.Ytjcbihdhkaiidaa
namespace Go.Proofs.Ytjcbihdhkaiidaa
open Go.RowKit

/-- Is there such a place? -/
def placeB (n c : Int) : Bool := decide (0 ≤ n ∧ n < c ∧ c ≤ 1048576)
theorem place_yes {n c : Int} (h0 : 0 ≤ n) (h1 : n < c) (h2 : c ≤ 1048576) : placeB n c = true := decide_eq_true ⟨h0, h1, h2⟩
theorem place_no {n c : Int} (h : ¬ (0 ≤ n ∧ n < c ∧ c ≤ 1048576)) : placeB n c = false := decide_eq_false h
theorem place_of {n c : Int} (h : placeB n c = true) : 0 ≤ n ∧ n < c ∧ c ≤ 1048576 := of_decide_eq_true h
theorem place_not {n c : Int} (h : placeB n c = false) : ¬ (0 ≤ n ∧ n < c ∧ c ≤ 1048576) := of_decide_eq_false h

theorem szH_le (n c : Nat) : szH n c ≤ c := by
  induction hm : c using Nat.strongRecOn generalizing n c with
  | ind m ih =>
    subst hm
    by_cases h : c ≤ 1
    · rw [szH_one h]; omega
    · have h1 := half_lt (n := c) (by omega)
      have h2 := half_pos c
      by_cases hn : n < half c
      · rw [szH_left h hn]; have := ih _ h1 n (half c) rfl; omega
      · rw [szH_right h hn]; have := ih (c - half c) (by omega) (n - half c) (c - half c) rfl; omega

end Go.Proofs.Ytjcbihdhkaiidaa
