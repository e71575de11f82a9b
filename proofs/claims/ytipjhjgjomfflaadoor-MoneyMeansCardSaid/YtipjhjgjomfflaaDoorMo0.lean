/-
  money: numbers alone: the digits of a quotient, shares, sums.
-/
import Derived.Test.YtipjhjgjomfflaaDoorWords
namespace Go.Proofs.YtipjhjgjomfflaaDoor

theorem dig_key {D1 D0 H n1 q r : Nat} (h : q * D1 + r = H) : H * 4294967296 + n1 + q * D0 = q * (D1 * 4294967296 + D0) + (r * 4294967296 + n1) := by
  subst h
  rw [Nat.add_mul, Nat.mul_add, Nat.mul_assoc]; omega
theorem dig_le {D1 D0 H n1 q r : Nat} (h : q * D1 + r = H) (hle : q * D0 ≤ r * 4294967296 + n1) (hD : 0 < D1) : q ≤ (H * 4294967296 + n1) / (D1 * 4294967296 + D0) := by
  rw [Nat.le_div_iff_mul_le (by omega)]
  have := dig_key (D0 := D0) (n1 := n1) h
  omega
theorem dig_gt {D1 D0 H n1 q r : Nat} (h : q * D1 + r = H) (hgt : r * 4294967296 + n1 < q * D0) (hD : 0 < D1) : (H * 4294967296 + n1) / (D1 * 4294967296 + D0) < q := by
  rw [Nat.div_lt_iff_lt_mul (by omega)]
  have := dig_key (D0 := D0) (n1 := n1) h
  generalize hy : q * (D1 * 4294967296 + D0) = y at *
  generalize hx : q * D0 = x at *
  clear hy hx h
  generalize 4294967296 = B at *
  omega
theorem dig_lt {D H n1 : Nat} (hH : H < D) (hn : n1 < 4294967296) : (H * 4294967296 + n1) / D < 4294967296 := by
  rw [Nat.div_lt_iff_lt_mul (by omega)]
  have : (H + 1) * 4294967296 ≤ D * 4294967296 := Nat.mul_le_mul_right _ hH
  omega

/-- What stands at the head of each round of the search for a digit. -/
def Dig (D1 D0 H n1 q r : Nat) : Prop := q * D1 + r = H ∧ (H * 4294967296 + n1) / (D1 * 4294967296 + D0) ≤ q ∧ r < 4294967296 ∧ q ≤ 4294967297

theorem Dig.start {D1 D0 H n1 : Nat} (hD1 : 2147483648 ≤ D1) (hD1' : D1 < 4294967296) (hD0 : D0 < 4294967296) (hH : H < D1 * 4294967296 + D0) (hn : n1 < 4294967296) : Dig D1 D0 H n1 (H / D1) (H % D1) := by
  have hk : H / D1 * D1 + H % D1 = H := by rw [Nat.mul_comm]; exact Nat.div_add_mod H D1
  have hr : H % D1 < D1 := Nat.mod_lt _ (by omega)
  refine ⟨hk, ?_, by omega, ?_⟩
  · -- the quotient by D is at most the one by D1
    rw [← Nat.lt_succ_iff, Nat.div_lt_iff_lt_mul (by omega)]
    have := dig_key (D0 := D0) (n1 := n1) hk
    rw [Nat.succ_mul]
    omega
  · have : H / D1 < 4294967298 := by
      rw [Nat.div_lt_iff_lt_mul (by omega)]
      omega
    omega
/-- One less, where it is too great. -/
theorem Dig.down {D1 D0 H n1 q r : Nat} (h : Dig D1 D0 H n1 q r) (hD1 : 2147483648 ≤ D1) (hH : H < D1 * 4294967296 + D0) (hn : n1 < 4294967296) (hc : 4294967296 ≤ q ∨ r * 4294967296 + n1 < q * D0) :
    1 ≤ q ∧ (q - 1) * D1 + (r + D1) = H ∧ (H * 4294967296 + n1) / (D1 * 4294967296 + D0) ≤ q - 1 := by
  obtain ⟨h1, h2, h3, h4⟩ := h
  have hlt : (H * 4294967296 + n1) / (D1 * 4294967296 + D0) < q := by
    rcases hc with hc | hc
    · have := dig_lt (n1 := n1) hH hn; omega
    · exact dig_gt h1 hc (by omega)
  have hq : 1 ≤ q := Nat.lt_of_le_of_lt (Nat.zero_le _) hlt
  refine ⟨hq, ?_, Nat.le_sub_one_of_lt hlt⟩
  clear hlt h2 hc
  obtain ⟨p, rfl⟩ : ∃ p, q = p + 1 := ⟨q - 1, by omega⟩
  rw [Nat.add_mul] at h1
  simp only [Nat.add_sub_cancel]
  omega
theorem Dig.done {D1 D0 H n1 q r : Nat} (h : Dig D1 D0 H n1 q r) (hD : 0 < D1) (hc : q * D0 ≤ r * 4294967296 + n1) : q = (H * 4294967296 + n1) / (D1 * 4294967296 + D0) :=
  Nat.le_antisymm (dig_le h.1 hc hD) h.2.1
theorem dig_out {D1 D0 H n1 q r : Nat} (h1 : q * D1 + r = H) (h2 : (H * 4294967296 + n1) / (D1 * 4294967296 + D0) ≤ q) (hD : 0 < D1) (hD0 : D0 < 4294967296) (hq : q ≤ 4294967296) (hr : 4294967296 ≤ r) : q = (H * 4294967296 + n1) / (D1 * 4294967296 + D0) := by
  refine Nat.le_antisymm (dig_le h1 ?_ hD) h2
  have a : q * D0 ≤ 4294967296 * D0 := Nat.mul_le_mul_right _ hq
  clear h1 h2
  have c : 4294967296 * D0 ≤ r * 4294967296 := by rw [Nat.mul_comm]; exact Nat.mul_le_mul_right _ (Nat.le_trans (Nat.le_of_lt hD0) hr)
  exact Nat.le_trans a (Nat.le_trans c (Nat.le_add_right _ _))
/-- Two digits. -/
theorem two_dig (N n0 D B : Nat) (hD : 0 < D) : N / D * B + (N % D * B + n0) / D = (N * B + n0) / D := by
  have h := Nat.div_add_mod N D
  have e : N * B + n0 = N / D * B * D + (N % D * B + n0) := by
    have : N * B = (D * (N / D) + N % D) * B := by rw [h]
    rw [this, Nat.add_mul, Nat.mul_comm D, Nat.mul_assoc, Nat.mul_assoc, Nat.mul_comm D, Nat.add_assoc]
  rw [e, Nat.add_comm (N / D * B * D), Nat.add_mul_div_right _ _ hD, Nat.add_comm]

/-- The shares, bit by bit. -/
theorem share_step {q r part all A b : Nat} (h : A * part = q * all + r) : (2 * A + b) * part = 2 * q * all + (2 * r + b * part) := by
  rw [Nat.add_mul, Nat.mul_assoc, h, Nat.mul_assoc, Nat.mul_add]; omega
theorem share_down {q r X all : Nat} (h : X = q * all + r) (hr : all ≤ r) : X = (q + 1) * all + (r - all) := by
  rw [Nat.add_mul]; omega
theorem share_done {q r X all : Nat} (h : X = q * all + r) (hr : r < all) : q = X / all := by
  subst h
  rw [Nat.add_comm, Nat.add_mul_div_right _ _ (by omega), Nat.div_eq_of_lt hr, Nat.zero_add]
/-- A share, and the share of the rest. -/
theorem share_rest (a b c : Nat) (hc : 0 < c) (hb : b ≤ c) : a * b / c + a * (c - b) / c ≤ a ∧ a ≤ a * b / c + a * (c - b) / c + 1 := by
  have e : a * b + a * (c - b) = a * c := by rw [← Nat.mul_add]; congr 1; omega
  have h1 := Nat.div_add_mod (a * b) c
  have h2 := Nat.div_add_mod (a * (c - b)) c
  have m1 := Nat.mod_lt (a * b) hc
  have m2 := Nat.mod_lt (a * (c - b)) hc
  generalize a * b / c = p at *
  generalize a * (c - b) / c = q at *
  have e2 : c * (p + q) + (a * b % c + a * (c - b) % c) = c * a := by rw [Nat.mul_add, Nat.mul_comm c a]; omega
  constructor
  · refine Nat.le_of_mul_le_mul_left (?_ : c * (p + q) ≤ c * a) hc; omega
  · have : c * a < c * (p + q + 2) := by rw [Nat.mul_add]; omega
    have := Nat.lt_of_mul_lt_mul_left this; omega

/-- The greatest amount. -/
def maxM : Nat := 1125899906842624
/-- Is it an amount? -/
def mayB (a : Nat) : Bool := decide (a ≤ maxM)
/-- A sum: the amount, the error. -/
def sumV (l : List Nat) : Nat := if l.sum ≤ maxM then l.sum else 0
def sumE (l : List Nat) : Int := if l.sum ≤ maxM then 0 else 5
/-- A difference. -/
def subV (a b : Nat) : Nat := if a ≤ maxM ∧ b ≤ a then a - b else 0
def subE (a b : Nat) : Int := if a ≤ maxM ∧ b ≤ a then 0 else 5
/-- Numbers as cells. -/
def Ns (l : List Nat) : List Value := l.map fun a : Nat => .int .u64 (a : Int)
theorem Ns_length (l : List Nat) : (Ns l).length = l.length := by simp [Ns]
theorem Ns_get {l : List Nat} {k : Nat} (h : k < (Ns l).length) : (Ns l)[k] = .int .u64 ((l[k]'(by simpa [Ns] using h)) : Int) := by simp [Ns]
theorem sum_take (l : List Nat) {k : Nat} (h : k < l.length) : (l.take (k + 1)).sum = (l.take k).sum + l[k] := by
  rw [List.take_succ_eq_append_getElem h, List.sum_append]; simp
theorem sum_take_le (l : List Nat) (k : Nat) : (l.take k).sum ≤ l.sum := by
  have := List.sum_append (l₁ := l.take k) (l₂ := l.drop k)
  rw [List.take_append_drop] at this
  omega
theorem sum_over {l : List Nat} {k : Nat} (h : k < l.length) (hg : maxM < (l.take k).sum + l[k]) : sumV l = 0 ∧ sumE l = 5 := by
  have h1 := sum_take l h
  have h2 := sum_take_le l (k + 1)
  have : ¬ l.sum ≤ maxM := by omega
  unfold sumV sumE
  rw [if_neg this, if_neg this]
  exact ⟨rfl, rfl⟩
theorem sum_in {l : List Nat} (h : l.sum ≤ maxM) : sumV l = l.sum ∧ sumE l = 0 := by
  unfold sumV sumE
  rw [if_pos h, if_pos h]
  exact ⟨rfl, rfl⟩

end Go.Proofs.YtipjhjgjomfflaaDoor
