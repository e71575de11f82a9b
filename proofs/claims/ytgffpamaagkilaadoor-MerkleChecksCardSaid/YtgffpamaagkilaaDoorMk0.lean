/-
  merkle, plainly: rows gone up two by two, and halves from above: the same top, the same path, the same size, the same way up.
-/
import Derived.Test.YtgffpamaagkilaaDoorWords
namespace Go.Proofs.YtgffpamaagkilaaDoor

/-- The greatest power of two below a number (of 2 or more). -/
def half (n : Nat) : Nat := 2 ^ Nat.log2 (n - 1)
theorem half_pos (n : Nat) : 0 < half n := Nat.two_pow_pos _
theorem half_lt {n : Nat} (h : 2 ≤ n) : half n < n := by
  have := Nat.log2_self_le (n := n - 1) (by omega)
  unfold half; omega
theorem half_ge {n : Nat} (h : 2 ≤ n) : n ≤ 2 * half n := by
  have := Nat.lt_log2_self (n := n - 1)
  rw [Nat.pow_succ] at this
  unfold half; omega
theorem pow2_lt {i j : Nat} (h : 2 ^ i < 2 * 2 ^ j) : i ≤ j := by
  rw [← Nat.pow_succ'] at h
  have := (Nat.pow_lt_pow_iff_right (by omega : 1 < 2)).1 h
  omega
theorem half_unique {n j : Nat} (h1 : 2 ^ j < n) (h2 : n ≤ 2 * 2 ^ j) : half n = 2 ^ j := by
  have hn : 2 ≤ n := by have := Nat.two_pow_pos j; omega
  have a := half_lt hn
  have b := half_ge hn
  unfold half at a b ⊢
  generalize Nat.log2 (n - 1) = i at *
  have p := pow2_lt (i := i) (j := j) (by omega)
  have q := pow2_lt (i := j) (j := i) (by omega)
  have : i = j := by omega
  rw [this]
theorem half_two : half 2 = 1 := half_unique (j := 0) (by decide) (by decide)
/-- Above three or more the half is twice the half of the row above. -/
theorem half_up {n : Nat} (h : 3 ≤ n) : half n = 2 * half ((n + 1) / 2) := by
  obtain ⟨j, hj⟩ : ∃ j, half ((n + 1) / 2) = 2 ^ j := ⟨_, rfl⟩
  have a := half_lt (n := (n + 1) / 2) (by omega)
  have b := half_ge (n := (n + 1) / 2) (by omega)
  rw [hj] at a b ⊢
  have := half_unique (n := n) (j := j + 1) (by rw [Nat.pow_succ]; omega) (by rw [Nat.pow_succ]; omega)
  rw [this, Nat.pow_succ]; omega

section
variable {α : Type} (kn : α → α → α)
/-- The row above a row. -/
def knotsL : List α → List α
  | a :: b :: r => kn a b :: knotsL r
  | l => l
theorem knotsL_len (l : List α) : (knotsL kn l).length = (l.length + 1) / 2 := by
  induction l using knotsL.induct with
  | case1 a b r ih => simp only [knotsL, List.length_cons, ih]; omega
  | case2 l h =>
    match l, h with
    | [], _ => simp [knotsL]
    | [x], _ => simp [knotsL]
    | a :: b :: r, h => exact absurd rfl (h a b r)
theorem knotsL_short {l : List α} (h : l.length ≤ 1) : knotsL kn l = l := by
  match l, h with
  | [], _ => rfl
  | [x], _ => rfl
theorem knotsL_append (l m : List α) (h : l.length % 2 = 0) : knotsL kn (l ++ m) = knotsL kn l ++ knotsL kn m := by
  induction l using knotsL.induct with
  | case1 a b r ih =>
    simp only [List.cons_append, knotsL]
    rw [ih (by simp only [List.length_cons] at h; omega)]
  | case2 l hl =>
    match l, hl, h with
    | [], _, _ => rfl
    | [x], _, h => simp at h
    | a :: b :: r, hl, _ => exact absurd rfl (hl a b r)
variable [Inhabited α]
theorem knotsL_get (l : List α) (i : Nat) (h : 2 * i + 1 < l.length) : (knotsL kn l).getD i default = kn (l.getD (2 * i) default) (l.getD (2 * i + 1) default) := by
  induction l using knotsL.induct generalizing i with
  | case1 a b r ih =>
    cases i with
    | zero => simp [knotsL]
    | succ i =>
      have := ih i (by simp only [List.length_cons] at h; omega)
      have e1 : 2 * (i + 1) = 2 * i + 1 + 1 := by omega
      simp only [knotsL, List.getD_cons_succ, this, e1]
  | case2 l hl =>
    match l, hl, h with
    | [], _, h => simp at h
    | [x], _, h => simp at h
    | a :: b :: r, hl, _ => exact absurd rfl (hl a b r)
theorem knotsL_last (l : List α) (i : Nat) (h : 2 * i + 1 = l.length) : (knotsL kn l).getD i default = l.getD (2 * i) default := by
  induction l using knotsL.induct generalizing i with
  | case1 a b r ih =>
    cases i with
    | zero => simp at h
    | succ i =>
      have := ih i (by simp only [List.length_cons] at h; omega)
      have e1 : 2 * (i + 1) = 2 * i + 1 + 1 := by omega
      simp only [knotsL, List.getD_cons_succ, this, e1]
  | case2 l hl =>
    match l, hl, h with
    | [], _, h => simp at h
    | [x], _, h => have h0 : i = 0 := by simp at h; omega
                   subst h0; rfl
    | a :: b :: r, hl, _ => exact absurd rfl (hl a b r)

/-- What is left of the rows above a row: by rows. -/
def topR (l : List α) : List α := if h : l.length ≤ 1 then l else topR (knotsL kn l)
termination_by l.length
decreasing_by rw [knotsL_len]; omega
/-- The same from above, by halves. -/
def topH (l : List α) : α := if h : l.length ≤ 1 then l.getD 0 default else kn (topH (l.take (half l.length))) (topH (l.drop (half l.length)))
termination_by l.length
decreasing_by
  · have := half_lt (n := l.length) (by omega); simp only [List.length_take]; omega
  · have := half_pos l.length; simp only [List.length_drop]; omega
theorem topH_one {l : List α} (h : l.length ≤ 1) : topH kn l = l.getD 0 default := by rw [topH, dif_pos h]
theorem topH_two {l : List α} (h : ¬ l.length ≤ 1) : topH kn l = kn (topH kn (l.take (half l.length))) (topH kn (l.drop (half l.length))) := by rw [topH, dif_neg h]
omit [Inhabited α] in
/-- Where a row of three or more is parted, so is the row above it. -/
theorem knotsL_part {l : List α} (h : 3 ≤ l.length) : (knotsL kn l).take (half (knotsL kn l).length) = knotsL kn (l.take (half l.length)) ∧ (knotsL kn l).drop (half (knotsL kn l).length) = knotsL kn (l.drop (half l.length)) := by
  have hu := half_up h
  have hl := half_lt (n := l.length) (by omega)
  have hlen : (knotsL kn (l.take (half l.length))).length = half ((l.length + 1) / 2) := by
    rw [knotsL_len, List.length_take, Nat.min_eq_left (by omega)]; omega
  have e : knotsL kn l = knotsL kn (l.take (half l.length)) ++ knotsL kn (l.drop (half l.length)) := by
    rw [← knotsL_append, List.take_append_drop]
    rw [List.length_take, Nat.min_eq_left (by omega)]; omega
  rw [knotsL_len, ← hlen]
  constructor
  · rw [e, List.take_left]
  · rw [e, List.drop_left]
theorem topH_up (l : List α) : topH kn (knotsL kn l) = topH kn l := by
  induction hn : l.length using Nat.strongRecOn generalizing l with
  | ind n ih =>
    subst hn
    by_cases h1 : l.length ≤ 1
    · rw [knotsL_short kn h1]
    · by_cases h2 : l.length = 2
      · match l, h2 with
        | [a, b], _ =>
          rw [topH_two kn (l := [a, b]) (by simp)]
          simp [knotsL, half_two, topH_one]
      · have h3 : 3 ≤ l.length := by omega
        obtain ⟨p1, p2⟩ := knotsL_part kn h3
        have hl := half_lt (n := l.length) (by omega)
        have hp := half_pos l.length
        rw [topH_two kn (l := knotsL kn l) (by rw [knotsL_len]; omega), p1, p2, topH_two kn h1]
        rw [ih _ (by rw [List.length_take]; omega) _ rfl, ih _ (by rw [List.length_drop]; omega) _ rfl]
theorem topR_eq (l : List α) (h : l ≠ []) : topR kn l = [topH kn l] := by
  induction hn : l.length using Nat.strongRecOn generalizing l with
  | ind n ih =>
    subst hn
    rw [topR]
    split
    · next h1 =>
      match l, h, h1 with
      | [x], _, _ => rw [topH_one kn (by simp)]; rfl
    · next h1 =>
      have hl := knotsL_len kn l
      rw [ih _ (by omega) (knotsL kn l) (by intro e; rw [e] at hl; simp at hl; omega) rfl, topH_up]

/-- What stands beside the n-th of a row. -/
def hereL (n : Nat) (l : List α) : List α := if n + 1 = l.length ∧ n % 2 = 0 then [] else if n % 2 = 0 then [l.getD (n + 1) default] else [l.getD (n - 1) default]
/-- The path of the n-th, row by row. -/
def besR (n : Nat) (l : List α) : List α := if h : l.length ≤ 1 then [] else hereL n l ++ besR (n / 2) (knotsL kn l)
termination_by l.length
decreasing_by rw [knotsL_len]; omega
/-- The same by halves. -/
def besH (n : Nat) (l : List α) : List α :=
  if h : l.length ≤ 1 then [] else if n < half l.length then besH n (l.take (half l.length)) ++ [topH kn (l.drop (half l.length))] else besH (n - half l.length) (l.drop (half l.length)) ++ [topH kn (l.take (half l.length))]
termination_by l.length
decreasing_by
  · have := half_lt (n := l.length) (by omega); simp only [List.length_take]; omega
  · have := half_pos l.length; simp only [List.length_drop]; omega
theorem besH_one {n : Nat} {l : List α} (h : l.length ≤ 1) : besH kn n l = [] := by rw [besH, dif_pos h]
theorem besH_left {n : Nat} {l : List α} (h : ¬ l.length ≤ 1) (hn : n < half l.length) : besH kn n l = besH kn n (l.take (half l.length)) ++ [topH kn (l.drop (half l.length))] := by rw [besH, dif_neg h, if_pos hn]
theorem besH_right {n : Nat} {l : List α} (h : ¬ l.length ≤ 1) (hn : ¬ n < half l.length) : besH kn n l = besH kn (n - half l.length) (l.drop (half l.length)) ++ [topH kn (l.take (half l.length))] := by rw [besH, dif_neg h, if_neg hn]
theorem getD_take {l : List α} {k i : Nat} (h : i < k) : (l.take k).getD i default = l.getD i default := by simp [List.getElem?_take, h]
theorem getD_drop (l : List α) (k i : Nat) : (l.drop k).getD i default = l.getD (k + i) default := by simp [List.getElem?_drop]
theorem hereL_left {n : Nat} {l : List α} (h3 : 3 ≤ l.length) (hn : n < half l.length) : hereL n (l.take (half l.length)) = hereL n l := by
  have hu := half_up h3
  have hl := half_lt (n := l.length) (by omega)
  have hlen : (l.take (half l.length)).length = half l.length := by rw [List.length_take]; omega
  unfold hereL
  rw [hlen]
  have h1 : ¬ (n + 1 = half l.length ∧ n % 2 = 0) := by omega
  have h2 : ¬ (n + 1 = l.length ∧ n % 2 = 0) := by omega
  rw [if_neg h1, if_neg h2]
  split
  · rw [getD_take (by omega)]
  · rw [getD_take (by omega)]
theorem hereL_right {n : Nat} {l : List α} (h3 : 3 ≤ l.length) (hn : ¬ n < half l.length) : hereL (n - half l.length) (l.drop (half l.length)) = hereL n l := by
  have hu := half_up h3
  have hlen : (l.drop (half l.length)).length = l.length - half l.length := List.length_drop
  have hp := half_pos l.length
  unfold hereL
  rw [hlen, getD_drop, getD_drop]
  have hl := half_lt (n := l.length) (by omega)
  by_cases h0 : n % 2 = 0
  · have e : (n - half l.length) % 2 = 0 := by omega
    by_cases h1 : n + 1 = l.length
    · rw [if_pos ⟨by omega, e⟩, if_pos ⟨h1, h0⟩]
    · have h1' : ¬ (n - half l.length + 1 = l.length - half l.length) := by omega
      simp only [h1', h1, false_and, if_false, e, h0, if_true, show half l.length + (n - half l.length + 1) = n + 1 by omega]
  · have e : ¬ (n - half l.length) % 2 = 0 := by omega
    simp only [e, h0, and_false, if_false, show half l.length + (n - half l.length - 1) = n - 1 by omega]
theorem besH_up (n : Nat) (l : List α) (hn : n < l.length) : besH kn n l = (if l.length ≤ 1 then [] else hereL n l) ++ besH kn (n / 2) (knotsL kn l) := by
  induction hm : l.length using Nat.strongRecOn generalizing l n with
  | ind m ih =>
    subst hm
    by_cases h1 : l.length ≤ 1
    · rw [if_pos h1, besH_one kn h1, knotsL_short kn h1, besH_one kn h1]; rfl
    · rw [if_neg h1]
      by_cases h2 : l.length = 2
      · match l, h2, hn with
        | [a, b], _, hn =>
          have e1 : besH kn (n / 2) (knotsL kn [a, b]) = [] := besH_one kn (by simp [knotsL])
          rw [e1, List.append_nil]
          have : n = 0 ∨ n = 1 := by simp at hn; omega
          rcases this with rfl | rfl
          · rw [besH_left kn (by simp) (by simp [half_two])]
            simp [half_two, besH_one, topH_one, hereL]
          · rw [besH_right kn (by simp) (by simp [half_two])]
            simp [half_two, besH_one, topH_one, hereL]
      · have h3 : 3 ≤ l.length := by omega
        obtain ⟨p1, p2⟩ := knotsL_part kn h3
        have hl := half_lt (n := l.length) (by omega)
        have hu := half_up h3
        have hp := half_pos l.length
        have hkl := knotsL_len kn l
        have hk2 : half (knotsL kn l).length = half l.length / 2 := by rw [hkl]; omega
        by_cases hk : n < half l.length
        · rw [besH_left kn h1 hk, ih _ (by rw [List.length_take]; omega) n (l.take (half l.length)) (by rw [List.length_take]; omega) rfl]
          rw [if_neg (by rw [List.length_take]; omega), hereL_left h3 hk]
          rw [besH_left kn (l := knotsL kn l) (by omega) (by rw [hk2]; omega), p1, p2, topH_up, List.append_assoc]
        · rw [besH_right kn h1 hk, ih _ (by rw [List.length_drop]; omega) (n - half l.length) (l.drop (half l.length)) (by rw [List.length_drop]; omega) rfl]
          rw [besH_right kn (l := knotsL kn l) (by omega) (by rw [hk2]; omega), p1, p2, topH_up, List.append_assoc, hk2]
          have e2 : n / 2 - half l.length / 2 = (n - half l.length) / 2 := by omega
          rw [e2]
          by_cases h4 : (l.drop (half l.length)).length ≤ 1
          · rw [if_pos h4]
            have e3 : hereL n l = [] := by
              rw [hereL, if_pos]
              rw [List.length_drop] at h4
              omega
            rw [e3]
          · rw [if_neg h4, hereL_right h3 hk]
theorem besR_eq (n : Nat) (l : List α) (hn : n < l.length) : besR kn n l = besH kn n l := by
  induction hm : l.length using Nat.strongRecOn generalizing l n with
  | ind m ih =>
    subst hm
    rw [besR, besH_up kn n l hn]
    have hl := knotsL_len kn l
    split
    · next h1 => rw [knotsL_short kn h1, besH_one kn h1]; rfl
    · next h1 => rw [ih _ (by omega) (n / 2) (knotsL kn l) (by omega) rfl]
end
end Go.Proofs.YtgffpamaagkilaaDoor
