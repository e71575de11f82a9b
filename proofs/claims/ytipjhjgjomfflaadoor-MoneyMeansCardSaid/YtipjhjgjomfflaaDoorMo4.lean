/-
  money: Share, of the document.
-/
import Derived.Test.YtipjhjgjomfflaaDoorMo3
namespace Go.Proofs.YtipjhjgjomfflaaDoor
open Go.RowKit

theorem shift_half (a i : Nat) : a / 2 ^ i = 2 * (a / 2 ^ (i + 1)) + a / 2 ^ i % 2 := by
  rw [Nat.pow_succ, ← Nat.div_div_eq_div_mul]; omega

/-- The bounds of a round. -/
theorem share_le {a b c k q r : Nat} (hb : b ≤ c) (h0 : 0 < c) (h : a / 2 ^ k * b = q * c + r) : q ≤ a ∧ (c ≤ r → q + 1 ≤ a) := by
  have h1 : a / 2 ^ k * b ≤ a * c := Nat.mul_le_mul (Nat.div_le_self _ _) hb
  rw [h] at h1
  refine ⟨?_, fun hr => ?_⟩
  · exact Nat.le_of_mul_le_mul_right (Nat.le_trans (Nat.le_add_right _ _) h1) h0
  · refine Nat.le_of_mul_le_mul_right (?_ : (q + 1) * c ≤ a * c) h0
    rw [Nat.add_mul, Nat.one_mul]
    omega
/-- What a bit more makes of quotient and rest. -/
theorem share_bit {a b c j q r : Nat} (h : a / 2 ^ (j + 1) * b = q * c + r) : a / 2 ^ j * b = 2 * q * c + (2 * r + a / 2 ^ j % 2 * b) := by
  have e := share_step (b := a / 2 ^ j % 2) h
  rw [← shift_half] at e
  exact e
theorem wrap_two {x : Nat} (h : x ≤ maxM) : IntKind.u64.wrap (2 * (x : Int)) = ((2 * x : Nat) : Int) := by
  unfold maxM at h; rw [IntKind.wrap_u64]; omega
theorem wrap_plus {x y : Nat} (h : x ≤ 2 * maxM) (h' : y ≤ maxM) : IntKind.u64.wrap ((x : Int) + (y : Int)) = ((x + y : Nat) : Int) := by
  unfold maxM at *; rw [IntKind.wrap_u64]; omega
theorem wrap_less {x y : Nat} (h : x ≤ 3 * maxM) (h' : y ≤ x) : IntKind.u64.wrap ((x : Int) - (y : Int)) = ((x - y : Nat) : Int) := by
  unfold maxM at *; rw [IntKind.wrap_u64]; omega
theorem wrap_one {x : Nat} (h : x ≤ maxM) : IntKind.u64.wrap ((x : Int) + 1) = ((x + 1 : Nat) : Int) := by
  unfold maxM at *; rw [IntKind.wrap_u64]; omega
theorem bit_mod {a j d : Nat} (h : a / 2 ^ j % 2 = d) : ((a : Int) / 2 ^ j).tmod 2 = (d : Int) := by
  have e : ((a : Int) / 2 ^ j) = ((a / 2 ^ j : Nat) : Int) := by simp
  rw [e, Int.tmod_eq_emod_of_nonneg (Int.natCast_nonneg _)]
  generalize a / 2 ^ j = x at *
  omega

set_option maxHeartbeats 1000000 in
theorem rshare_any (w : World) (a b c : Nat) : Calls Tryd.prog 13 #[.int .u64 (a : Int), .int .u64 (b : Int), .int .u64 (c : Int)] w (SharePost a b c w) := by
  by_cases ha : a ≤ maxM
  · have H1 : decide ((1125899906842624 : Int) < a) = false := by rw [over_int, may_yes ha]; rfl
    by_cases hc : c ≤ maxM
    · have H2 : decide ((1125899906842624 : Int) < c) = false := by rw [over_int, may_yes hc]; rfl
      by_cases hb : b ≤ c
      · have hok : shareOk a b c = true := decide_eq_true ⟨ha, hc, hb⟩
        by_cases h0 : c = 0
        · subst h0
          obtain rfl : b = 0 := by omega
          have HV : Hid (shareV a 0 0 = 0 ∧ shareE a 0 0 = 2) := by unfold shareV shareE; rw [hok]; exact ⟨by simp, rfl⟩
          clear ha hc hok
          go_enter Tryd.func13, Tryd.ntmps13
          go_wp2
          go_ret2
          exact ⟨by rw [HV.out.1, HV.out.2]; rfl, 0, rfl⟩
        · have HV : Hid (shareV a b c = a * b / c ∧ shareE a b c = 0) := by unfold shareV shareE; rw [hok, if_neg h0]; exact ⟨rfl, rfl⟩
          have HA := Lib.hid ha
          have HC := Lib.hid hc
          have e0 : ((c : Int) == 0) = false := by rw [beq_eq_false_iff_ne]; omega
          clear ha hc hok
          go_enter Tryd.func13, Tryd.ntmps13
          go_wp2
          go_loop [8, 9, 10] (fun qv rv iv => ∃ (k q r : Nat), k ≤ 51 ∧ iv = .int .i64 ((k : Int) - 1) ∧ qv = .int .u64 (q : Int) ∧ rv = .int .u64 (r : Int) ∧ Hid (a / 2 ^ k * b = q * c + r ∧ r < c)) (fun _ _ iv => (intOf iv + 1).toNat)
          case atStart => exact ⟨51, 0, 0, by omega, rfl, rfl, rfl, by rw [Nat.div_eq_of_lt (by have := HA.out; unfold maxM at this; omega)]; simp, by omega⟩
          case round =>
            obtain ⟨k, q, r, hk, rfl, rfl, rfl, HR⟩ := hrel
            rcases Nat.eq_zero_or_pos k with rfl | hk0
            · have HE : Hid (a * b / c = q) := by have := HR.out; rw [Nat.pow_zero, Nat.div_one] at this; exact (share_done this.1 this.2).symm
              go_wp2
              go_ret2
              exact ⟨by rw [HV.out.1, HV.out.2, HE.out]; rfl, 0, rfl⟩
            · obtain ⟨j, rfl⟩ : ∃ j, k = j + 1 := ⟨k - 1, by omega⟩
              rw [show (((j + 1 : Nat) : Int) - 1) = (j : Int) by omega]
              have hle := share_le hb (by omega) HR.out.1
              have m1 := wrap_two (x := q) (by have := HA.out; omega)
              have m2 := wrap_two (x := r) (by have := HC.out; have := HR.out.2; omega)
              have hbit := share_bit HR.out.1
              obtain ⟨q2, hq2⟩ : ∃ x, 2 * q = x := ⟨_, rfl⟩
              rw [hq2] at m1 hbit
              by_cases h1 : a / 2 ^ j % 2 = 1
              · have m3 := bit_mod h1
                have m4 := wrap_plus (x := 2 * r) (y := b) (by have := HC.out; have := HR.out.2; omega) (by have := HC.out; omega)
                rw [h1, Nat.one_mul] at hbit
                have hlt : 2 * r + b < 3 * c := by have := HR.out.2; omega
                obtain ⟨r1, hr1⟩ : ∃ x, 2 * r = x := ⟨_, rfl⟩
                rw [hr1] at m2 m4 hbit hlt
                obtain ⟨r2, hr2⟩ : ∃ x, r1 + b = x := ⟨_, rfl⟩
                rw [hr2] at m4 hbit hlt
                have HN : Hid (a / 2 ^ j * b = q2 * c + r2 ∧ r2 < 3 * c) := ⟨hbit, hlt⟩
                clear hq2 hr1 hr2 hbit hlt h1 HR hle
                go_wp2
                go_loop [8, 9] (fun qv rv => ∃ q r : Nat, qv = .int .u64 (q : Int) ∧ rv = .int .u64 (r : Int) ∧ Hid (a / 2 ^ j * b = q * c + r ∧ r < 3 * c)) (fun _ rv => (intOf rv).toNat)
                case atStart => exact ⟨q2, r2, rfl, rfl, HN⟩
                case round =>
                  clear HN
                  obtain ⟨q, r, rfl, rfl, HN⟩ := hrel
                  have hle := share_le hb (by omega) HN.out.1
                  by_cases hcr : c ≤ r
                  · have m1 := wrap_one (x := q) (by have := hle.2 hcr; have := HA.out; omega)
                    have m2 := wrap_less (x := r) (y := c) (by have := HN.out.2; have := HC.out; omega) hcr
                    have HN2 : Hid (a / 2 ^ j * b = (q + 1) * c + (r - c) ∧ r - c < 3 * c) := ⟨share_down HN.out.1 hcr, by have := HN.out.2; omega⟩
                    obtain ⟨q', hq'⟩ : ∃ x, q + 1 = x := ⟨_, rfl⟩
                    obtain ⟨r', hr'⟩ : ∃ x, r - c = x := ⟨_, rfl⟩
                    have HM : Hid (r' < r) := by show _ < _; omega
                    rw [hq', hr'] at HN2
                    rw [hq'] at m1
                    rw [hr'] at m2
                    clear hq' hr' HN hle
                    go_wp2
                    go_round
                    case rel => exact ⟨q', r', rfl, rfl, HN2⟩
                    case measure => have := HM.out; simp [intOf] <;> omega
                  · clear hle
                    go_wp2
                    go_round
                    case rel => exact ⟨_, _, _, ⟨j, by omega, rfl, q, rfl, r, rfl, HN.out.1, by omega⟩, rfl, rfl, rfl⟩
                    case measure => simp [intOf] <;> omega
              · have m3 := bit_mod (show a / 2 ^ j % 2 = 0 by omega)
                rw [show a / 2 ^ j % 2 = 0 by omega, Nat.zero_mul, Nat.add_zero] at hbit
                have hlt : 2 * r < 3 * c := by have := HR.out.2; omega
                obtain ⟨r2, hr2⟩ : ∃ x, 2 * r = x := ⟨_, rfl⟩
                rw [hr2] at m2 hbit hlt
                have HN : Hid (a / 2 ^ j * b = q2 * c + r2 ∧ r2 < 3 * c) := ⟨hbit, hlt⟩
                clear hq2 hr2 hbit hlt h1 HR hle
                go_wp2
                go_loop [8, 9] (fun qv rv => ∃ q r : Nat, qv = .int .u64 (q : Int) ∧ rv = .int .u64 (r : Int) ∧ Hid (a / 2 ^ j * b = q * c + r ∧ r < 3 * c)) (fun _ rv => (intOf rv).toNat)
                case atStart => exact ⟨q2, r2, rfl, rfl, HN⟩
                case round =>
                  clear HN
                  obtain ⟨q, r, rfl, rfl, HN⟩ := hrel
                  have hle := share_le hb (by omega) HN.out.1
                  by_cases hcr : c ≤ r
                  · have m1 := wrap_one (x := q) (by have := hle.2 hcr; have := HA.out; omega)
                    have m2 := wrap_less (x := r) (y := c) (by have := HN.out.2; have := HC.out; omega) hcr
                    have HN2 : Hid (a / 2 ^ j * b = (q + 1) * c + (r - c) ∧ r - c < 3 * c) := ⟨share_down HN.out.1 hcr, by have := HN.out.2; omega⟩
                    obtain ⟨q', hq'⟩ : ∃ x, q + 1 = x := ⟨_, rfl⟩
                    obtain ⟨r', hr'⟩ : ∃ x, r - c = x := ⟨_, rfl⟩
                    have HM : Hid (r' < r) := by show _ < _; omega
                    rw [hq', hr'] at HN2
                    rw [hq'] at m1
                    rw [hr'] at m2
                    clear hq' hr' HN hle
                    go_wp2
                    go_round
                    case rel => exact ⟨q', r', rfl, rfl, HN2⟩
                    case measure => have := HM.out; simp [intOf] <;> omega
                  · clear hle
                    go_wp2
                    go_round
                    case rel => exact ⟨_, _, _, ⟨j, by omega, rfl, q, rfl, r, rfl, HN.out.1, by omega⟩, rfl, rfl, rfl⟩
                    case measure => simp [intOf] <;> omega
      · have HV := Lib.hid (share_no (a := a) (b := b) (c := c) (by omega))
        clear ha hc
        go_enter Tryd.func13, Tryd.ntmps13
        go_wp2
        go_ret2
        exact ⟨by rw [HV.out.1, HV.out.2]; rfl, 0, rfl⟩
    · have H2 : decide ((1125899906842624 : Int) < c) = true := by rw [over_int, may_no hc]; rfl
      have HV := Lib.hid (share_no (a := a) (b := b) (c := c) (by omega))
      clear ha hc
      go_enter Tryd.func13, Tryd.ntmps13
      go_wp2
      go_ret2
      exact ⟨by rw [HV.out.1, HV.out.2]; rfl, 0, rfl⟩
  · have H1 : decide ((1125899906842624 : Int) < a) = true := by rw [over_int, may_no ha]; rfl
    have HV := Lib.hid (share_no (a := a) (b := b) (c := c) (by omega))
    clear ha
    go_enter Tryd.func13, Tryd.ntmps13
    go_wp2
    go_ret2
    exact ⟨by rw [HV.out.1, HV.out.2]; rfl, 0, rfl⟩
end Go.Proofs.YtipjhjgjomfflaaDoor
