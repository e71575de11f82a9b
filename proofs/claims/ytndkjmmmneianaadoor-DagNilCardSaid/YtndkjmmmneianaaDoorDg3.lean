/-
  dag: rows of bits (pure).
-/
import Derived.Test.YtndkjmmmneianaaDoorDg1
import Derived.Lib.TrailingZeros
namespace Go.Proofs.YtndkjmmmneianaaDoor

def rowB (ws : List Nat) (m : Nat) : Bool := (ws.getD (m / 64) 0).testBit (m % 64)
def setR (ws : List Nat) (n : Nat) : List Nat := ws.set (n / 64) (ws.getD (n / 64) 0 ||| 2 ^ (n % 64))
def joinR : List Nat → List Nat → List Nat
  | ws, [] => ws
  | [], _ => []
  | a :: ws, b :: o => (a ||| b) :: joinR ws o
def Small (ws : List Nat) : Prop := ∀ x ∈ ws, x < 18446744073709551616
theorem setR_len (ws : List Nat) (n : Nat) : (setR ws n).length = ws.length := by simp [setR]
theorem joinR_len : ∀ (ws o : List Nat), (joinR ws o).length = ws.length
  | ws, [] => by cases ws <;> simp [joinR]
  | [], _ :: _ => by simp [joinR]
  | a :: ws, b :: o => by simp [joinR, joinR_len ws o]
theorem getD_lt {ws : List Nat} (h : Small ws) (i : Nat) : ws.getD i 0 < 18446744073709551616 := by
  rcases Nat.lt_or_ge i ws.length with h1 | h1
  · rw [List.getD_eq_getElem?_getD, List.getElem?_eq_getElem h1]; exact h _ (List.getElem_mem h1)
  · rw [List.getD_eq_getElem?_getD, List.getElem?_eq_none h1]; decide
theorem pow_lt (n : Nat) : 2 ^ (n % 64) < 18446744073709551616 := by
  have : 2 ^ (n % 64) < 2 ^ 64 := Nat.pow_lt_pow_right (by decide) (Nat.mod_lt _ (by decide))
  exact this
theorem or_lt {a b : Nat} (ha : a < 18446744073709551616) (hb : b < 18446744073709551616) : a ||| b < 18446744073709551616 := Nat.or_lt_two_pow (n := 64) ha hb
theorem setR_small {ws : List Nat} (h : Small ws) (n : Nat) : Small (setR ws n) := by
  intro x hx
  rcases List.mem_or_eq_of_mem_set hx with h1 | rfl
  · exact h x h1
  · exact or_lt (getD_lt h _) (pow_lt n)
theorem joinR_small : ∀ {ws o : List Nat}, Small ws → Small o → Small (joinR ws o)
  | ws, [], h, _ => by cases ws <;> exact h
  | [], _ :: _, h, _ => h
  | a :: ws, b :: o, h, k => by
    intro x hx
    rw [joinR] at hx
    rcases List.mem_cons.1 hx with rfl | hx
    · exact or_lt (h _ (by simp)) (k _ (by simp))
    · exact joinR_small (fun y hy => h y (List.mem_cons_of_mem _ hy)) (fun y hy => k y (List.mem_cons_of_mem _ hy)) x hx
theorem rowB_set {ws : List Nat} {n : Nat} (h : n / 64 < ws.length) (m : Nat) : rowB (setR ws n) m = (decide (m = n) || rowB ws m) := by
  unfold rowB setR
  rw [List.getD_eq_getElem?_getD, List.getElem?_set]
  by_cases e : n / 64 = m / 64
  · rw [if_pos e, if_pos h]
    simp only [Option.getD_some, Nat.testBit_or, Nat.testBit_two_pow, e]
    rw [Bool.or_comm]
    congr 1
    rw [decide_eq_decide]
    omega
  · rw [if_neg e, ← List.getD_eq_getElem?_getD]
    rw [decide_eq_false (by intro k; subst k; exact e rfl), Bool.false_or]
theorem joinR_get : ∀ (ws o : List Nat) (i : Nat), o.length ≤ ws.length → (joinR ws o).getD i 0 = ws.getD i 0 ||| o.getD i 0
  | ws, [], i, _ => by cases ws <;> simp [joinR]
  | [], _ :: _, i, h => by simp at h
  | a :: ws, b :: o, 0, _ => by simp [joinR]
  | a :: ws, b :: o, i + 1, h => by
    have := joinR_get ws o i (by simpa using h)
    simpa [joinR] using this
theorem rowB_join {ws o : List Nat} (h : o.length ≤ ws.length) (m : Nat) : rowB (joinR ws o) m = (rowB ws m || rowB o m) := by
  unfold rowB
  rw [joinR_get ws o _ h, Nat.testBit_or]
theorem rowB_zero (k m : Nat) : rowB (List.replicate k 0) m = false := by
  unfold rowB
  rw [List.getD_eq_getElem?_getD, List.getElem?_replicate]
  split <;> simp
theorem rowB_lt {ws : List Nat} {m : Nat} (h : rowB ws m = true) : m < 64 * ws.length := by
  unfold rowB at h
  rcases Nat.lt_or_ge (m / 64) ws.length with h1 | h1
  · omega
  · rw [List.getD_eq_getElem?_getD, List.getElem?_eq_none h1] at h; simp at h
/-- The words that are joined so far. -/
theorem joinR_take (ws o : List Nat) (k : Nat) (h : k < o.length) (hl : o.length ≤ ws.length) : joinR ws (o.take (k + 1)) = (joinR ws (o.take k)).set k (ws.getD k 0 ||| o[k]) := by
  induction o generalizing ws k with
  | nil => simp at h
  | cons b o ih =>
    cases ws with
    | nil => simp at hl
    | cons a ws =>
      cases k with
      | zero => simp [joinR]
      | succ k =>
        have := ih ws k (by simpa using h) (by simpa using hl)
        simp only [List.take_succ_cons, joinR, List.set_cons_succ, this]
        simp
theorem joinR_beyond (ws o : List Nat) (k : Nat) (hk : o.length ≤ k) : (joinR ws o).getD k 0 = ws.getD k 0 := by
  induction o generalizing ws k with
  | nil => cases ws <;> simp [joinR]
  | cons b o ih =>
    cases ws with
    | nil => simp [joinR]
    | cons a ws =>
      cases k with
      | zero => simp at hk
      | succ k => have := ih ws k (by simpa using hk); simpa [joinR] using this

/-- Without its lowest bit. -/
theorem low_form {x : Nat} (h0 : x ≠ 0) (h : x < 18446744073709551616) : ∃ m, x = 2 ^ Lib.ctz 64 x * (2 * m + 1) ∧ Lib.ctz 64 x < 64 := by
  have := Lib.ctzFrom_spec 64 x (by omega) h
  unfold Lib.ctz
  rw [if_neg h0]
  exact this
theorem low_bit {x : Nat} (h0 : x ≠ 0) (h : x < 18446744073709551616) (i : Nat) : (x &&& (x - 1)).testBit i = (decide (i ≠ Lib.ctz 64 x) && x.testBit i) := by
  obtain ⟨m, hm, _⟩ := low_form h0 h
  generalize Lib.ctz 64 x = k at *
  have hp : 0 < 2 ^ k := Nat.two_pow_pos k
  have e1 : x = 2 ^ k * (2 * m + 1) + 0 := by omega
  have e2 : x - 1 = 2 ^ k * (2 * m) + (2 ^ k - 1) := by
    rw [hm, Nat.mul_add, Nat.mul_one]; omega
  have b1 : x.testBit i = if i < k then (0 : Nat).testBit i else (2 * m + 1).testBit (i - k) := by
    conv => lhs; rw [e1]
    rw [Nat.testBit_two_pow_mul_add _ hp]
  have b2 : (x - 1).testBit i = if i < k then (2 ^ k - 1).testBit i else (2 * m).testBit (i - k) := by
    conv => lhs; rw [e2]
    rw [Nat.testBit_two_pow_mul_add _ (by omega)]
  rw [Nat.testBit_and, b1, b2]
  by_cases h1 : i < k
  · simp [h1]
  · rw [if_neg h1, if_neg h1]
    by_cases h2 : i = k
    · subst h2; simp [Nat.testBit_zero]
    · obtain ⟨j, hj⟩ : ∃ j, i - k = j + 1 := ⟨i - k - 1, by omega⟩
      rw [hj, Nat.testBit_succ, Nat.testBit_succ]
      have d1 : (2 * m + 1) / 2 = m := by omega
      have d2 : 2 * m / 2 = m := by omega
      rw [d1, d2]
      simp [h2]
theorem low_set {x : Nat} (h0 : x ≠ 0) (h : x < 18446744073709551616) : x.testBit (Lib.ctz 64 x) = true := by
  obtain ⟨m, hm, _⟩ := low_form h0 h
  generalize Lib.ctz 64 x = k at *
  have hp : 0 < 2 ^ k := Nat.two_pow_pos k
  have e1 : x = 2 ^ k * (2 * m + 1) + 0 := by omega
  rw [e1, Nat.testBit_two_pow_mul_add _ hp, if_neg (by omega)]
  simp [Nat.testBit_zero]
theorem low_lt {x : Nat} (h0 : x ≠ 0) : x &&& (x - 1) < x := by
  have := Nat.and_le_right (n := x) (m := x - 1)
  omega
/-- The bits of a word, as they are gone over. -/
def bitsL (x : Nat) : List Nat := if h : x = 0 then [] else Lib.ctz 64 x :: bitsL (x &&& (x - 1))
termination_by x
decreasing_by exact low_lt h
theorem bitsL_zero : bitsL 0 = [] := by rw [bitsL]; simp
theorem bitsL_step {x : Nat} (h : x ≠ 0) : bitsL x = Lib.ctz 64 x :: bitsL (x &&& (x - 1)) := by rw [bitsL, dif_neg h]
theorem mem_bitsL {x : Nat} (h : x < 18446744073709551616) {i : Nat} : i ∈ bitsL x ↔ x.testBit i = true := by
  induction x using Nat.strongRecOn with
  | _ x ih =>
    by_cases h0 : x = 0
    · subst h0; rw [bitsL_zero]; simp
    · have hl := low_lt h0
      rw [bitsL_step h0, List.mem_cons, ih _ hl (by omega), low_bit h0 h]
      have := low_set h0 h
      by_cases e : i = Lib.ctz 64 x
      · subst e; simp [this]
      · simp [e]
theorem bitsL_nodup {x : Nat} (h : x < 18446744073709551616) : (bitsL x).Nodup := by
  induction x using Nat.strongRecOn with
  | _ x ih =>
    by_cases h0 : x = 0
    · subst h0; rw [bitsL_zero]; simp
    · have hl := low_lt h0
      rw [bitsL_step h0, List.nodup_cons]
      refine ⟨fun hm => ?_, ih _ hl (by omega)⟩
      rw [mem_bitsL (by omega), low_bit h0 h] at hm
      simp at hm
theorem bits_lt {x i : Nat} (h : x < 18446744073709551616) (k : x.testBit i = true) : i < 64 := by
  rcases Nat.lt_or_ge i 64 with h1 | h1
  · exact h1
  · have : x < 2 ^ i := Nat.lt_of_lt_of_le h (Nat.pow_le_pow_right (n := 2) (by decide) h1)
    rw [Nat.testBit_lt_two_pow this] at k; cases k
theorem bitsL_len {x : Nat} (h : x < 18446744073709551616) : (bitsL x).length ≤ 64 := len_le_of (bitsL_nodup h) fun i hi => bits_lt h ((mem_bitsL h).1 hi)
/-- The places of a row, as they are gone over; from word k on. -/
def allFrom : Nat → List Nat → List Nat
  | _, [] => []
  | k, x :: r => (bitsL x).map (fun i => k * 64 + i) ++ allFrom (k + 1) r
theorem mem_allFrom {ws : List Nat} (h : Small ws) {k m : Nat} : m ∈ allFrom k ws ↔ ∃ j i, (ws.getD j 0).testBit i = true ∧ i < 64 ∧ j < ws.length ∧ m = (k + j) * 64 + i := by
  induction ws generalizing k with
  | nil => simp [allFrom]
  | cons x r ih =>
    have hx := h x (by simp)
    rw [allFrom, List.mem_append, List.mem_map, ih (fun y hy => h y (List.mem_cons_of_mem _ hy))]
    constructor
    · rintro (⟨i, hi, rfl⟩ | ⟨j, i, h1, h2, h3, rfl⟩)
      · have := (mem_bitsL hx).1 hi
        exact ⟨0, i, by simpa using this, bits_lt hx this, by simp, by simp⟩
      · exact ⟨j + 1, i, by simpa using h1, h2, by simp; omega, by simp only [Nat.add_mul]; omega⟩
    · rintro ⟨j, i, h1, h2, h3, rfl⟩
      cases j with
      | zero => exact .inl ⟨i, (mem_bitsL hx).2 (by simpa using h1), by simp⟩
      | succ j => exact .inr ⟨j, i, by simpa using h1, h2, by simp at h3; omega, by simp only [Nat.add_mul]; omega⟩
theorem mem_allR {ws : List Nat} (h : Small ws) {m : Nat} : m ∈ allFrom 0 ws ↔ rowB ws m = true := by
  rw [mem_allFrom h]
  unfold rowB
  constructor
  · rintro ⟨j, i, h1, h2, h3, rfl⟩
    have e1 : ((0 + j) * 64 + i) / 64 = j := by omega
    have e2 : ((0 + j) * 64 + i) % 64 = i := by omega
    rw [e1, e2]; exact h1
  · intro h1
    have h2 := rowB_lt (ws := ws) (m := m) h1
    exact ⟨m / 64, m % 64, h1, by omega, by omega, by omega⟩
theorem allFrom_nodup {ws : List Nat} (h : Small ws) (k : Nat) : (allFrom k ws).Nodup := by
  induction ws generalizing k with
  | nil => simp [allFrom]
  | cons x r ih =>
    have hx := h x (by simp)
    have hr : Small r := fun y hy => h y (List.mem_cons_of_mem _ hy)
    rw [allFrom, List.nodup_append]
    refine ⟨nodup_map_on (fun a _ b _ e => by omega) (bitsL_nodup hx), ih hr _, fun a ha b hb e => ?_⟩
    subst e
    obtain ⟨i, hi, rfl⟩ := List.mem_map.1 ha
    obtain ⟨j, i', _, h2, _, h4⟩ := (mem_allFrom hr).1 hb
    have := bits_lt hx ((mem_bitsL hx).1 hi)
    omega
end Go.Proofs.YtndkjmmmneianaaDoor
