/-
  ShaTables: the law's numbers of 16-bit digits, plainly: digits, one more, a product, a power held against a prime; the primes; a root's beginning.
-/
import Derived.Test.YtbfahmpppkjpbaaDoorRoot
namespace Go.Proofs.YtbfahmpppkjpbaaDoor

/-- A number's 16-bit digits, the lowest first. -/
def digL : Nat → Nat → List Nat
  | 0, _ => []
  | f + 1, n => if n = 0 then [] else (n % 65536) :: digL f (n / 65536)
theorem digL_zero (f : Nat) : digL f 0 = [] := by cases f <;> simp [digL]
theorem digL_len (f n : Nat) : (digL f n).length ≤ f := by
  induction f generalizing n with
  | zero => simp [digL]
  | succ f ih =>
    rw [digL]
    split
    · simp
    · simp only [List.length_cons]; have := ih (n / 65536); omega
/-- One more. -/
def moreL : List Nat → List Nat
  | [] => [1]
  | x :: r => if x < 65535 then ((x + 1) % 18446744073709551616) :: r else 0 :: moreL r
theorem moreL_len (l : List Nat) : (moreL l).length ≤ l.length + 1 := by
  induction l with
  | nil => simp [moreL]
  | cons x r ih =>
    rw [moreL]
    split
    · simp
    · simp only [List.length_cons]; omega

/-- A step of the product. -/
def tStep (x y i k : Nat) (e : List Nat) : List Nat :=
  let e1 := e.set (i + k) ((e.getD (i + k) 0 + (x * y) % 18446744073709551616) % 18446744073709551616)
  let e2 := e1.set (i + k + 1) ((e1.getD (i + k + 1) 0 + e1.getD (i + k) 0 / 65536 % 18446744073709551616) % 18446744073709551616)
  e2.set (i + k) (e2.getD (i + k) 0 % 65536)
theorem tStep_len (x y i k : Nat) (e : List Nat) : (tStep x y i k e).length = e.length := by simp [tStep]
def tIn (x : Nat) (b : List Nat) (i : Nat) (e : List Nat) : Nat → List Nat
  | 0 => e
  | k + 1 => tStep x (b.getD k 0) i k (tIn x b i e k)
theorem tIn_len (x : Nat) (b : List Nat) (i : Nat) (e : List Nat) (k : Nat) : (tIn x b i e k).length = e.length := by
  induction k with
  | zero => rfl
  | succ k ih => rw [tIn, tStep_len, ih]
def tOut (a b : List Nat) : Nat → List Nat
  | 0 => List.replicate (a.length + b.length + 1) 0
  | i + 1 => tIn (a.getD i 0) b i (tOut a b i) b.length
theorem tOut_len (a b : List Nat) (i : Nat) : (tOut a b i).length = a.length + b.length + 1 := by
  induction i with
  | zero => simp [tOut]
  | succ i ih => rw [tOut, tIn_len, ih]
def cStep (i : Nat) (e : List Nat) : List Nat :=
  let e1 := e.set (i + 1) ((e.getD (i + 1) 0 + e.getD i 0 / 65536 % 18446744073709551616) % 18446744073709551616)
  e1.set i (e1.getD i 0 % 65536)
theorem cStep_len (i : Nat) (e : List Nat) : (cStep i e).length = e.length := by simp [cStep]
def carryL (e : List Nat) : Nat → List Nat
  | 0 => e
  | i + 1 => cStep i (carryL e i)
theorem carryL_len (e : List Nat) (i : Nat) : (carryL e i).length = e.length := by
  induction i with
  | zero => rfl
  | succ i ih => rw [carryL, cStep_len, ih]
def timesL (a b : List Nat) : List Nat := carryL (tOut a b a.length) (a.length + b.length)
theorem timesL_len (a b : List Nat) : (timesL a b).length = a.length + b.length + 1 := by rw [timesL, carryL_len, tOut_len]

/-- Which is less, from the highest digits on; is it at most so much? -/
def cmpL (x y : List Nat) : Nat → Bool
  | 0 => true
  | i + 1 => if x.getD i 0 = y.getD i 0 then cmpL x y i else decide (x.getD i 0 < y.getD i 0)
def xpL (d : List Nat) : Nat → List Nat
  | 0 => d
  | k + 1 => timesL (xpL d k) d
theorem xpL_len (d : List Nat) (k : Nat) : (xpL d k).length = d.length + k * (d.length + 1) := by
  induction k with
  | zero => simp [xpL]
  | succ k ih => rw [xpL, timesL_len, ih, Nat.add_mul]; omega
def powL (d : List Nat) (power k p : Nat) : Bool :=
  cmpL (xpL d (power - 1)) (List.replicate k 0 ++ digL 4 p) (max (xpL d (power - 1)).length (List.replicate k 0 ++ digL 4 p).length)

/-- Is a word the beginning behind the point, where the whole is so much? -/
def fitsL (p w power N : Nat) : Bool :=
  powL (digL 4 (N * 4294967296 + w)) power (2 * power) p && !powL (moreL (digL 4 (N * 4294967296 + w))) power (2 * power) p
/-- Is the whole of a root so much? -/
def wholeL (p power N : Nat) : Bool := (List.range N).all (fun k => powL (digL 4 (k + 1)) power 0 p) && !powL (digL 4 (N + 1)) power 0 p

/-- The primes' row behind so many rounds, and the number that is asked next. -/
def prL : Nat → List Nat
  | 0 => [2]
  | r + 1 => if (prL r).all (fun q => (r + 3) % q != 0) then prL r ++ [r + 3] else prL r
theorem prL_le (r : Nat) : (prL r).length ≤ (prL (r + 1)).length := by
  rw [prL]; split <;> simp
theorem prL_mono (r s : Nat) (h : r ≤ s) : (prL r).length ≤ (prL s).length := by
  induction s with
  | zero => obtain rfl : r = 0 := by omega
            exact Nat.le_refl _
  | succ s ih =>
    rcases Nat.lt_or_ge r (s + 1) with h1 | h1
    · exact Nat.le_trans (ih (by omega)) (prL_le s)
    · obtain rfl : r = s + 1 := by omega
      exact Nat.le_refl _
theorem prL_pos (r : Nat) : ∀ q ∈ prL r, 2 ≤ q ∧ q ≤ r + 2 := by
  induction r with
  | zero => intro q hq; simp [prL] at hq; omega
  | succ r ih =>
    intro q hq
    rw [prL] at hq
    split at hq
    · rcases List.mem_append.1 hq with h | h
      · have := ih q h; omega
      · simp at h; omega
    · have := ih q hq; omega
theorem prL_len : (prL 308).length = 63 ∧ (prL 309).length = 64 := by decide +kernel
def primeL : List Nat := [2, 3, 5, 7, 11, 13, 17, 19, 23, 29, 31, 37, 41, 43, 47, 53, 59, 61, 67, 71, 73, 79, 83, 89, 97, 101, 103, 107, 109, 113, 127, 131, 137, 139, 149, 151, 157, 163, 167, 173, 179, 181, 191, 193, 197, 199, 211, 223, 227, 229, 233, 239, 241, 251, 257, 263, 269, 271, 277, 281, 283, 293, 307, 311]
theorem prL_309 : prL 309 = primeL := by decide +kernel
def n3L : List Nat := [1, 1, 1, 1, 2, 2, 2, 2, 2, 3, 3, 3, 3, 3, 3, 3, 3, 3, 4, 4, 4, 4, 4, 4, 4, 4, 4, 4, 4, 4, 5, 5, 5, 5, 5, 5, 5, 5, 5, 5, 5, 5, 5, 5, 5, 5, 5, 6, 6, 6, 6, 6, 6, 6, 6, 6, 6, 6, 6, 6, 6, 6, 6, 6]
def n2L : List Nat := [1, 1, 2, 2, 3, 3, 4, 4]
theorem fits3 : ∀ i, i < 64 → wholeL (primeL.getD i 0) 3 (n3L.getD i 0) = true ∧ fitsL (primeL.getD i 0) (kL.getD i 0).toNat 3 (n3L.getD i 0) = true := by decide +kernel
theorem fits2 : ∀ i, i < 8 → wholeL (primeL.getD i 0) 2 (n2L.getD i 0) = true ∧ fitsL (primeL.getD i 0) (startL.getD i 0).toNat 2 (n2L.getD i 0) = true := by decide +kernel
theorem primes_pos : ∀ i, i < 64 → primeL.getD i 0 < 400 := by decide +kernel
end Go.Proofs.YtbfahmpppkjpbaaDoor
