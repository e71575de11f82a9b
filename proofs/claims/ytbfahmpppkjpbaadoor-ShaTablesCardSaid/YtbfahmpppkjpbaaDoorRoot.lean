/-
  Primes and their roots, of the program.
-/
import Derived.Test.YtbfahmpppkjpbaaDoorPress
namespace Go.Proofs.YtbfahmpppkjpbaaDoor
open Go.RowKit

theorem tup2 {a b a' b' : Int} (h1 : a = a') (h2 : b = b') : Ending.returned (.tuple #[.int .u64 a, .int .u64 b]) = Ending.returned (.tuple #[.int .u64 a', .int .u64 b']) := by rw [h1, h2]
theorem wrapU (n : Int) : IntKind.u64.wrap n = n % 18446744073709551616 := by simp [IntKind.wrap, IntKind.bits, IntKind.signed]
set_option maxHeartbeats 1000000 in
set_option maxRecDepth 100000 in
theorem mul64_any (w : World) (x y : Nat) (hx : x < 18446744073709551616) (hy : y < 18446744073709551616) :
    Calls Tryd.prog 44 #[.int .u64 (x : Int), .int .u64 (y : Int)] w fun e w' => e = .returned (.tuple #[.int .u64 ((x * y / 18446744073709551616 : Nat) : Int), .int .u64 ((x * y % 18446744073709551616 : Nat) : Int)]) ∧ w' = w := by
  have hA := mul64_arith (x : Int) (y : Int) (by omega) (by omega) (by omega) (by omega)
  have HA := Lib.hid hA
  clear hA
  have e1 := and_low32 (x : Int) (by omega) (by omega)
  have e2 := and_low32 (y : Int) (by omega) (by omega)
  go_enter Tryd.func44, Tryd.ntmps44
  go_wp2
  go_ret2
  refine ⟨tup2 ?_ ?_, rfl⟩
  · show IntKind.u64.wrap _ = _
    simp only [wrapU]
    rw [and_low32 _ (Int.emod_nonneg _ (by decide)) (Int.emod_lt_of_pos _ (by decide)), HA.out]
    rw [Int.natCast_ediv, Int.natCast_mul]; rfl
  · show IntKind.u64.wrap _ = _
    rw [wrapU, Int.natCast_emod, Int.natCast_mul]; rfl

/-- Does nothing from 2 on up to the root divide it? -/
def pT (n : Nat) : Bool := (List.range n).all fun d => decide (d < 2) || decide (n < d * d) || decide (n % d ≠ 0)
theorem pT_false (n d : Nat) (h2 : 2 ≤ d) (hd : d * d ≤ n) (h0 : n % d = 0) : pT n = false := by
  have hlt : d < n := by
    rcases Nat.lt_or_ge d n with h | h
    · exact h
    · have : n ≤ d := h
      have h3 : d * 2 ≤ d * d := Nat.mul_le_mul_left d h2
      omega
  cases h : pT n with
  | false => rfl
  | true =>
    have := List.all_eq_true.1 h d (List.mem_range.2 hlt)
    simp only [Bool.or_eq_true, decide_eq_true_eq] at this
    omega
theorem pT_true (n k : Nat) (hk : n < k * k) (h : ∀ d, 2 ≤ d → d < k → n % d ≠ 0) : pT n = true := by
  refine List.all_eq_true.2 fun d hd => ?_
  simp only [Bool.or_eq_true, decide_eq_true_eq]
  rcases Nat.lt_or_ge d 2 with h2 | h2
  · exact .inl (.inl h2)
  · rcases Nat.lt_or_ge d k with h3 | h3
    · exact .inr (h d h2 h3)
    · refine .inl (.inr ?_)
      have : k * k ≤ d * d := Nat.mul_le_mul h3 h3
      omega

set_option maxHeartbeats 1000000 in
theorem isPrime_any (w : World) (n : Nat) (hn : n ≤ 1000000) : Calls Tryd.prog 66 #[.int .u64 (n : Int)] w fun e w' => e = .returned (.bool (pT n)) ∧ w' = w := by
  go_enter Tryd.func66, Tryd.ntmps66
  go_wp2
  go_loop [3] (fun i => ∃ k : Nat, 2 ≤ k ∧ k ≤ n + 2 ∧ i = .int .u64 k ∧ Hid (∀ d, 2 ≤ d → d < k → n % d ≠ 0)) (fun i => n + 3 - (intOf i).toNat)
  case atStart => exact ⟨2, by omega, by omega, rfl, fun d h1 h2 => by omega⟩
  case round =>
    obtain ⟨k, h2, hk, rfl, H⟩ := hrel
    have hkk : k * k ≤ (n + 2) * (n + 2) := Nat.mul_le_mul hk hk
    have hnn : (n + 2) * (n + 2) ≤ 1000002 * 1000002 := Nat.mul_le_mul (by omega) (by omega)
    have hw : IntKind.u64.wrap ((k : Int) * (k : Int)) = ((k * k : Nat) : Int) := by
      have e : (k : Int) * (k : Int) = ((k * k : Nat) : Int) := (Int.natCast_mul k k).symm
      rw [wrapU, e]
      generalize k * k = kk at *
      omega
    have hm : Int.tmod (n : Int) (k : Int) = ((n % k : Nat) : Int) := by rw [Int.tmod_eq_emod_of_nonneg (by omega), Int.natCast_emod]
    by_cases hlt : k * k ≤ n
    · have hkn : k ≤ n := Nat.le_trans (Nat.le_mul_self k) hlt
      by_cases h0 : n % k = 0
      · have HF := Lib.hid (pT_false n k h2 hlt h0)
        generalize k * k = kk at *
        go_wp2
        go_ret
        exact ⟨by rw [HF.out]; rfl, rfl⟩
      · have HN : Hid (∀ d, 2 ≤ d → d < k + 1 → n % d ≠ 0) := fun d h1 h3 => by
          rcases Nat.lt_or_ge d k with h4 | h4
          · exact H.out d h1 h4
          · obtain rfl : d = k := by omega
            exact h0
        generalize k * k = kk at *
        generalize n % k = r at *
        go_wp2
        go_round
        case rel => exact ⟨k + 1, by omega, by omega, by go_num, HN.out⟩
        case measure => simp [intOf]; omega
    · have HF := Lib.hid (pT_true n k (by omega) H.out)
      generalize k * k = kk at *
      go_wp2
      go_ret
      exact ⟨by rw [HF.out]; rfl, rfl⟩

/-- The first 64 primes. -/
def PL : List Nat := [2, 3, 5, 7, 11, 13, 17, 19, 23, 29, 31, 37, 41, 43, 47, 53, 59, 61, 67, 71, 73, 79, 83, 89, 97, 101, 103, 107, 109, 113, 127, 131, 137, 139, 149, 151, 157, 163, 167, 173, 179, 181, 191, 193, 197, 199, 211, 223, 227, 229, 233, 239, 241, 251, 257, 263, 269, 271, 277, 281, 283, 293, 307, 311]
def pAt (i : Nat) : Nat := PL.getD i 0
theorem pAt_gap : ∀ k, k < 63 → ∀ m, m < 312 → pAt k < m → m < pAt (k + 1) → pT m = false := by decide +kernel
theorem pAt_next : ∀ k, k < 63 → pT (pAt (k + 1)) = true ∧ pAt k < pAt (k + 1) := by decide +kernel
theorem pAt_le : ∀ k, k < 64 → pAt k ≤ 311 := by decide +kernel

set_option maxHeartbeats 1000000 in
theorem prime_any (w : World) (i : Nat) (hi : i < 64) : Calls Tryd.prog 41 #[.int .i64 (i : Int)] w fun e w' => e = .returned (.int .u64 (pAt i : Int)) ∧ w' = w := by
  go_enter Tryd.func41, Tryd.ntmps41
  go_wp2
  go_loop [3, 5] (fun v j => ∃ k : Nat, k ≤ i ∧ j = .int .i64 k ∧ v = .int .u64 (pAt k : Int)) (fun _ j => i - (intOf j).toNat)
  case atStart => exact ⟨0, by omega, rfl, rfl⟩
  case round =>
    obtain ⟨k, hk, rfl, rfl⟩ := hrel
    by_cases hlt : k < i
    · have hp := pAt_le k (by omega)
      have hp1 := pAt_le (k + 1) (by omega)
      have hn := pAt_next k (by omega)
      have HT := Lib.hid hn.1
      have hgt := hn.2
      have HG := Lib.hid (pAt_gap k (by omega))
      clear hn
      generalize hq : pAt (k + 1) = q at *
      have Hq := Lib.hid hq
      clear hq
      generalize pAt k = p at *
      go_wp2
      go_loop [3] (fun v => ∃ m : Nat, p < m ∧ m ≤ q ∧ v = .int .u64 (m : Int)) (fun v => q + 1 - (intOf v).toNat)
      case atStart => exact ⟨p + 1, by omega, by omega, by go_num⟩
      case round =>
        obtain ⟨m, hm, hmq, rfl⟩ := hrel
        by_cases hmlt : m < q
        · have HF := Lib.hid (HG.out m (by omega) hm hmlt)
          go_wp2_with (go_at_call 66; refine (isPrime_any _ m (by omega)).mono ?_; rw [HF.out]; rintro e w' ⟨rfl, rfl⟩)
          go_round
          case rel => exact ⟨m + 1, by omega, by omega, by go_num⟩
          case measure => simp [intOf]; omega
        · obtain rfl : m = q := by omega
          go_wp2_with (go_at_call 66; refine (isPrime_any _ m (by omega)).mono ?_; rw [HT.out]; rintro e w' ⟨rfl, rfl⟩)
          go_round
          case rel => exact ⟨k + 1, by omega, by go_num, by rw [Hq.out]⟩
          case measure => simp [intOf]; omega
    · obtain rfl : k = i := by omega
      go_wp2
      go_ret
      exact ⟨rfl, rfl⟩

end Go.Proofs.YtbfahmpppkjpbaaDoor
