/-
  money: Div64 at whatever it is asked; Share, of the program.
-/
import Derived.Test.YtipjhjgjomfflaaDoorMo2
import Derived.Laws.Bits64b
import Derived.BigQuiet
import Derived.Deep.QuietTactic
namespace Go.Proofs.YtipjhjgjomfflaaDoor
open Go.RowKit

theorem pow_sides {y : Nat} (h0 : 0 < y) (hy : y < 18446744073709551616) : ∃ s, Lib.bitLen y + s = 64 ∧ 9223372036854775808 ≤ y * 2 ^ s ∧ y * 2 ^ s < 18446744073709551616 := by
  obtain ⟨a, b, c⟩ := Lib.bitLenAux_bounds 64 y hy (by omega)
  have hL : Lib.bitLenAux 64 y ≤ 64 := Lib.bitLen_le y 64 (Nat.le_refl _) hy
  unfold Lib.bitLen
  generalize Lib.bitLenAux 64 y = L at a b c hL ⊢
  refine ⟨64 - L, by omega, ?_, ?_⟩
  · have h1 : 2 ^ (L - 1) * 2 ^ (64 - L) ≤ y * 2 ^ (64 - L) := Nat.mul_le_mul_right _ b
    rw [← Nat.pow_add, show L - 1 + (64 - L) = 63 by omega] at h1
    exact h1
  · have h1 : y * 2 ^ (64 - L) < 2 ^ L * 2 ^ (64 - L) := Nat.mul_lt_mul_of_pos_right c (Nat.two_pow_pos _)
    rw [← Nat.pow_add, show L + (64 - L) = 64 by omega] at h1
    exact h1

theorem or_sum {a b s : Nat} (hb : b < 2 ^ s) (h : a * 2 ^ s + b < 18446744073709551616) : bits .or .u64 ((a * 2 ^ s : Nat) : Int) (b : Int) = ((a * 2 ^ s + b : Nat) : Int) := by
  rw [bits_or_u64_nat _ _ (by omega) (by omega), Nat.mul_comm, ← Nat.two_pow_add_eq_or_of_lt hb]

theorem halves (x z B : Nat) : (x * B + z / B) * B + z % B = x * (B * B) + z := by
  have := Nat.div_add_mod z B
  rw [Nat.add_mul, Nat.mul_assoc, Nat.add_assoc, Nat.mul_comm (z / B), this]

theorem digits_of {hi lo y : Nat} (hhy : hi < y) (hy : y < 18446744073709551616) (hlo : lo < 18446744073709551616) : ∃ s Y D1 D0 H L n1 n0, Lib.bitLen y + s = 64 ∧ Digits hi lo y s Y D1 D0 H L n1 n0 ∧
    (H * 4294967296 + n1) / Y * 4294967296 + ((H * 4294967296 + n1) % Y * 4294967296 + n0) / Y = (hi * 18446744073709551616 + lo) / y := by
  obtain ⟨s, h64, hge, hlt⟩ := pow_sides (by omega) hy
  have hs : s ≤ 64 := by omega
  have hpt : 2 ^ s * 2 ^ (64 - s) = 18446744073709551616 := by rw [← Nat.pow_add, show s + (64 - s) = 64 by omega]
  have cast : ((2 : Int) ^ s) = ((2 ^ s : Nat) : Int) := by simp
  have cast' : ((2 : Int) ^ (64 - s)) = ((2 ^ (64 - s) : Nat) : Int) := by simp
  have hp0 : 0 < 2 ^ s := Nat.two_pow_pos _
  have hq : lo / 2 ^ (64 - s) < 2 ^ s := by
    rw [Nat.div_lt_iff_lt_mul (Nat.two_pow_pos _), hpt]; exact hlo
  have hsum : hi * 2 ^ s + 2 ^ s ≤ y * 2 ^ s := by
    have : (hi + 1) * 2 ^ s ≤ y * 2 ^ s := Nat.mul_le_mul_right _ hhy
    rw [Nat.add_mul, Nat.one_mul] at this; exact this
  have hor := or_sum (a := hi) (s := s) hq (by omega)
  have hL : lo * 2 ^ s / 18446744073709551616 = lo / 2 ^ (64 - s) := by
    rw [← hpt, Nat.mul_comm lo, Nat.mul_div_mul_left _ _ hp0]
  have hwhole : (hi * 2 ^ s + lo / 2 ^ (64 - s)) * 18446744073709551616 + lo * 2 ^ s % 18446744073709551616 = (hi * 18446744073709551616 + lo) * 2 ^ s := by
    rw [← hL, Nat.add_mul, Nat.add_mul, Nat.add_assoc, Nat.mul_right_comm hi]
    have := Nat.div_add_mod (lo * 2 ^ s) 18446744073709551616
    generalize lo * 2 ^ s / 18446744073709551616 = u at *
    generalize lo * 2 ^ s % 18446744073709551616 = v at *
    generalize lo * 2 ^ s = x at *
    omega
  refine ⟨s, y * 2 ^ s, y * 2 ^ s / 4294967296, y * 2 ^ s % 4294967296, hi * 2 ^ s + lo / 2 ^ (64 - s), lo * 2 ^ s % 18446744073709551616, lo * 2 ^ s % 18446744073709551616 / 4294967296, lo * 2 ^ s % 18446744073709551616 % 4294967296, h64, ⟨hs, ?_, ?_, ?_, ?_, ?_, ?_, ?_, ?_, ?_, ?_, ?_, ?_, ?_, ?_⟩, ?_⟩
  · rw [cast, ← Int.natCast_mul, IntKind.wrap_u64]
    generalize y * 2 ^ s = x at *
    omega
  · omega
  · exact Mul64.maskN _ hlt
  · rw [cast, cast', ← Int.natCast_mul, ← Int.natCast_ediv, ← hor]
    congr 1
    rw [IntKind.wrap_u64]
    generalize hi * 2 ^ s = x at *
    omega
  · rw [cast, ← Int.natCast_mul, IntKind.wrap_u64]; omega
  · omega
  · exact Mul64.maskN _ (Nat.mod_lt _ (by decide))
  · omega
  · omega
  · omega
  · omega
  · omega
  · omega
  · omega
  · have e : ∀ N D : Nat, 0 < D → N / D * 4294967296 + (N % D * 4294967296 + lo * 2 ^ s % 18446744073709551616 % 4294967296) / D = (N * 4294967296 + lo * 2 ^ s % 18446744073709551616 % 4294967296) / D := fun N D hD => two_dig _ _ _ _ hD
    rw [e _ _ (by omega)]
    have e2 : ((hi * 2 ^ s + lo / 2 ^ (64 - s)) * 4294967296 + lo * 2 ^ s % 18446744073709551616 / 4294967296) * 4294967296 + lo * 2 ^ s % 18446744073709551616 % 4294967296 = (hi * 18446744073709551616 + lo) * 2 ^ s := by
      rw [← hwhole]
      exact halves _ _ _
    rw [e2, Nat.mul_div_mul_right _ _ hp0]

set_option maxRecDepth 100000 in
theorem div_zero (w : World) (lo y : Nat) (hy : 0 < y) (hlo : lo < 18446744073709551616) : Calls Tryd.prog 21 #[.int .u64 0, .int .u64 (lo : Int), .int .u64 (y : Int)] w fun e w' => ∃ n m, e = .returned (.tuple #[.int .u64 ((lo / y : Nat) : Int), .int .u64 m]) ∧ w' = w.drewN n := by
  have e1 : ((y : Int) == 0) = false := by rw [beq_eq_false_iff_ne]; omega
  have e12 : ¬ y = 0 := by omega
  have e3 : decide (y ≤ 0) = false := by simp; omega
  have e4 := quo_eq (H := lo) (D := y) hlo
  clear hlo
  go_enter Tryd.func21, Tryd.ntmps21
  go_wp2
  go_quiet (fail)
  go_wp2
  go_ret2
  exact ⟨_, _, rfl, rfl⟩

/-- What Div64 answers of numbers that it takes. -/
theorem div_any (w : World) (hi lo y : Nat) (hhy : hi < y) (hy : y < 18446744073709551616) (hlo : lo < 18446744073709551616) :
    Calls Tryd.prog 21 #[.int .u64 (hi : Int), .int .u64 (lo : Int), .int .u64 (y : Int)] w fun e w' => ∃ n m, e = .returned (.tuple #[.int .u64 (((hi * 18446744073709551616 + lo) / y : Nat) : Int), .int .u64 m]) ∧ w' = w.drewN n := by
  by_cases h0 : hi = 0
  · subst h0
    refine (div_zero w lo y hhy hlo).mono fun e w' h => ?_
    rw [Nat.zero_mul, Nat.zero_add]
    exact h
  · obtain ⟨s, Y, D1, D0, H, L, n1, n0, h64, hd, he⟩ := digits_of hhy hy hlo
    refine (div_walk w hi lo y s Y D1 D0 H L n1 n0 (by omega) hhy hy h64 hd).mono fun e w' h => ?_
    obtain ⟨m, h1, h2⟩ := h
    rw [he] at h1
    exact ⟨0, m, h1, by rw [← h2]; rfl⟩

/-- A share: the amount, the error. -/
def shareOk (a b c : Nat) : Bool := decide (a ≤ maxM ∧ c ≤ maxM ∧ b ≤ c)
def shareV (a b c : Nat) : Nat := if shareOk a b c then a * b / c else 0
def shareE (a b c : Nat) : Int := if shareOk a b c then (if c = 0 then 2 else 0) else 5

theorem share_no {a b c : Nat} (h : ¬ (a ≤ maxM ∧ c ≤ maxM ∧ b ≤ c)) : shareV a b c = 0 ∧ shareE a b c = 5 := by
  have hf : shareOk a b c = false := decide_eq_false h
  unfold shareV shareE; rw [hf]; exact ⟨rfl, rfl⟩
theorem share_bounds {a b c : Nat} (ha : a ≤ maxM) (hc : c ≤ maxM) (hb : b ≤ c) (h0 : 0 < c) : a * b / 18446744073709551616 < c ∧ a * b / 18446744073709551616 * 18446744073709551616 + a * b % 18446744073709551616 = a * b := by
  have h1 : a * b ≤ maxM * c := Nat.mul_le_mul ha hb
  unfold maxM at *
  refine ⟨?_, by omega⟩
  rw [Nat.div_lt_iff_lt_mul (by decide)]
  generalize a * b = x at *
  omega

def SharePost (a b c : Nat) (w : World) (e : Ending) (w' : World) : Prop := e = .returned (.tuple #[.int .u64 (shareV a b c : Int), .int .i64 (shareE a b c)]) ∧ ∃ n, w' = w.drewN n

set_option maxHeartbeats 1000000 in
theorem share_any (w : World) (a b c : Nat) : Calls Tryd.prog 12 #[.int .u64 (a : Int), .int .u64 (b : Int), .int .u64 (c : Int)] w (SharePost a b c w) := by
  by_cases ha : a ≤ maxM
  · have H1 := Lib.hid (may_yes ha)
    by_cases hc : c ≤ maxM
    · have H2 := Lib.hid (may_yes hc)
      by_cases hb : b ≤ c
      · have hok : shareOk a b c = true := decide_eq_true ⟨ha, hc, hb⟩
        by_cases h0 : c = 0
        · subst h0
          obtain rfl : b = 0 := by omega
          have HV : Hid (shareV a 0 0 = 0 ∧ shareE a 0 0 = 2) := by unfold shareV shareE; rw [hok]; exact ⟨by simp, rfl⟩
          clear ha hc hok
          go_enter Tryd.func12, Tryd.ntmps12
          go_wp2_with (first
            | (go_at_call 15; ((with_reducible refine (may_any _ a).mono ?_); rw [H1.out]; rintro e w' ⟨rfl, rfl⟩))
            | (go_at_call 15; ((refine (may_at _ 0 0 rfl).mono ?_); rw [H2.out]; rintro e w' ⟨rfl, rfl⟩)))
          go_ret2
          exact ⟨by rw [HV.out.1, HV.out.2]; rfl, 0, rfl⟩
        · obtain ⟨k1, k2⟩ := share_bounds ha hc hb (by omega)
          have HV : Hid (shareV a b c = a * b / c ∧ shareE a b c = 0) := by unfold shareV shareE; rw [hok, if_neg h0]; exact ⟨rfl, rfl⟩
          have HK1 := Lib.hid k1
          have HK2 := Lib.hid k2
          have HA : Hid (a < 18446744073709551616) := by unfold maxM at ha; show _ < _; omega
          have HC : Hid (c < 18446744073709551616) := by unfold maxM at hc; show _ < _; omega
          have HB : Hid (b < 18446744073709551616) := Nat.lt_of_le_of_lt hb HC.out
          have e0 : ((c : Int) == 0) = false := by rw [beq_eq_false_iff_ne]; omega
          clear ha hc hok k1 k2
          go_enter Tryd.func12, Tryd.ntmps12
          go_wp2_with (first
            | (go_at_call 15; ((with_reducible refine (may_any _ a).mono ?_); rw [H1.out]; rintro e w' ⟨rfl, rfl⟩))
            | (go_at_call 15; ((with_reducible refine (may_any _ c).mono ?_); rw [H2.out]; rintro e w' ⟨rfl, rfl⟩))
            | (go_at_call 20; ((with_reducible refine (Tryd.bits_Mul64 a b HA.out HB.out _).mono ?_); rintro e w' ⟨rfl, rfl⟩; generalize hhi : a * b / 18446744073709551616 = hi; generalize hlo : a * b % 18446744073709551616 = lo; have HHI := Lib.hid hhi; have HLO := Lib.hid hlo; clear hhi hlo))
            | (go_at_call 21; ((with_reducible refine (div_any _ hi lo c (by rw [← HHI.out]; exact HK1.out) HC.out (by rw [← HLO.out]; exact Nat.mod_lt _ (by decide))).mono ?_); rw [show hi * 18446744073709551616 + lo = a * b by rw [← HHI.out, ← HLO.out]; exact HK2.out]; rintro e w' ⟨n, m, rfl, rfl⟩; generalize hq : a * b / c = Q; have HQ := Lib.hid hq; clear hq)))
          go_ret2
          exact ⟨by rw [HV.out.1, HV.out.2, HQ.out]; rfl, _, rfl⟩
      · have HV := Lib.hid (share_no (a := a) (b := b) (c := c) (by omega))
        clear ha hc
        go_enter Tryd.func12, Tryd.ntmps12
        go_wp2_with (first | (go_at_call 15; ((with_reducible refine (may_any _ a).mono ?_); rw [H1.out]; rintro e w' ⟨rfl, rfl⟩)) | (go_at_call 15; ((with_reducible refine (may_any _ c).mono ?_); rw [H2.out]; rintro e w' ⟨rfl, rfl⟩)))
        go_ret2
        exact ⟨by rw [HV.out.1, HV.out.2]; rfl, 0, rfl⟩
    · have H2 := Lib.hid (may_no hc)
      have HV := Lib.hid (share_no (a := a) (b := b) (c := c) (by omega))
      clear ha hc
      go_enter Tryd.func12, Tryd.ntmps12
      go_wp2_with (first | (go_at_call 15; ((with_reducible refine (may_any _ a).mono ?_); rw [H1.out]; rintro e w' ⟨rfl, rfl⟩)) | (go_at_call 15; ((with_reducible refine (may_any _ c).mono ?_); rw [H2.out]; rintro e w' ⟨rfl, rfl⟩)))
      go_ret2
      exact ⟨by rw [HV.out.1, HV.out.2]; rfl, 0, rfl⟩
  · have H1 := Lib.hid (may_no ha)
    have HV := Lib.hid (share_no (a := a) (b := b) (c := c) (by omega))
    clear ha
    go_enter Tryd.func12, Tryd.ntmps12
    go_wp2_with ((go_at_call 15; ((with_reducible refine (may_any _ a).mono ?_); rw [H1.out]; rintro e w' ⟨rfl, rfl⟩)))
    go_ret2
    exact ⟨by rw [HV.out.1, HV.out.2]; rfl, 0, rfl⟩

end Go.Proofs.YtipjhjgjomfflaaDoor
