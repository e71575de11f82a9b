/-
  Plain mathematics of numbers as bytes, the lowest first.
-/
import Derived.Test.YtckomfffilonlaaDoorWords
namespace Go.Proofs.YtckomfffilonlaaDoor
open Go.RowKit

/-- A number as so many bytes, the lowest first. -/
def leB (N : Nat) : Nat → List UInt8
  | 0 => []
  | k + 1 => leB N k ++ [UInt8.ofNat (N / 256 ^ k % 256)]
theorem leB_length (N k : Nat) : (leB N k).length = k := by
  induction k with
  | zero => rfl
  | succ k ih => simp [leB, ih]
theorem u8_mod (n : Nat) : (UInt8.ofNat (n % 256)).toNat = n % 256 := by
  rw [UInt8.toNat_ofNat']; omega

/-- An array of eight, of which the first k are set. -/
def arr (N k : Nat) : Array Value := (By (leB N k) ++ List.replicate (8 - k) (Value.int .u8 0)).toArray
theorem arr_zero (N : Nat) : arr N 0 = #[.int .u8 0, .int .u8 0, .int .u8 0, .int .u8 0, .int .u8 0, .int .u8 0, .int .u8 0, .int .u8 0] := rfl
theorem arr_size (N k : Nat) (hk : k ≤ 8) : (arr N k).size = 8 := by simp [arr, By_length, leB_length]; omega
theorem arr_set (N k : Nat) (hk : k < 8) : (arr N k).setIfInBounds k (.int .u8 ((N / 256 ^ k % 256 : Nat) : Int)) = arr N (k + 1) := by
  have e : 8 - k = (8 - (k + 1)) + 1 := by omega
  unfold arr
  rw [e, List.replicate_succ]
  simp only [List.setIfInBounds_toArray, leB, By_append]
  congr 1
  rw [List.set_append_right _ _ (by rw [By_length, leB_length]; exact Nat.le_refl _)]
  rw [By_length, leB_length, Nat.sub_self, List.set_cons_zero]
  simp [By]
theorem arr_get (N k i : Nat) (h : i < (leB N k).length) : (arr N k)[i]? = some (.int .u8 ((leB N k)[i].toNat : Int)) := by
  have h' : i < k := by simpa [leB_length] using h
  unfold arr
  rw [List.getElem?_toArray, List.getElem?_append_left (by rw [By_length, leB_length]; exact h')]
  simp [By, h]
theorem arr_some (N k i : Nat) (hk : k ≤ 8) (h : i < 8) : ∃ n : Int, (arr N k)[i]? = some (.int .u8 n) := by
  unfold arr
  rw [List.getElem?_toArray]
  rcases Nat.lt_or_ge i k with hi | hi
  · rw [List.getElem?_append_left (by rw [By_length, leB_length]; exact hi)]
    exact ⟨_, by simp [By, leB_length, hi]; rfl⟩
  · rw [List.getElem?_append_right (by rw [By_length, leB_length]; exact hi), By_length, leB_length]
    exact ⟨0, by rw [List.getElem?_replicate, if_pos (by omega)]⟩
theorem pow_step (N k : Nat) : N / 256 ^ k / 256 = N / 256 ^ (k + 1) := by rw [Nat.div_div_eq_div_mul, Nat.pow_succ]

/-- What reads a number back: the lowest byte first. -/
def ofLe : List UInt8 → Nat
  | [] => 0
  | b :: l => b.toNat + 256 * ofLe l
theorem ofLe_append (l : List UInt8) (b : UInt8) : ofLe (l ++ [b]) = ofLe l + 256 ^ l.length * b.toNat := by
  induction l with
  | nil => simp [ofLe]
  | cons c l ih => simp only [List.cons_append, ofLe, ih, List.length_cons, Nat.pow_succ, Nat.mul_add]; rw [Nat.mul_comm (256 ^ l.length) 256, ← Nat.mul_assoc, Nat.add_assoc]
theorem ofLe_leB (N k : Nat) : ofLe (leB N k) = N % 256 ^ k := by
  induction k with
  | zero => simp [leB, ofLe, Nat.mod_one]
  | succ k ih =>
    rw [leB, ofLe_append, ih, leB_length, u8_mod, Nat.pow_succ, Nat.mod_mul]
theorem ofLe_lt (l : List UInt8) : ofLe l < 256 ^ l.length := by
  induction l with
  | nil => simp [ofLe]
  | cons b l ih => have := b.toNat_lt; simp only [ofLe, List.length_cons, Nat.pow_succ]; omega

end Go.Proofs.YtckomfffilonlaaDoor
