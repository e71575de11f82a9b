/-
  money: math/bits.Div64.
-/
import Derived.Test.YtipjhjgjomfflaaDoorMo1
import Derived.Test.YtipjhjgjomfflaaDoorSh
namespace Go.Proofs.YtipjhjgjomfflaaDoor
open Go.RowKit

/-- What Div64 answers: the quotient, and some number. -/
def DivPost (Q : Nat) (w : World) (e : Ending) (w' : World) : Prop := ∃ m : Int, e = .returned (.tuple #[.int .u64 (Q : Int), .int .u64 m]) ∧ w = w'

/-- The facts of one digit, as the walk of a round wants them. -/
theorem dig_facts {D1 D0 H n1 q r : Nat} (h : Dig D1 D0 H n1 q r) (hD1 : D1 < 4294967296) (hD0 : D0 < 4294967296) (hn : n1 < 4294967296) (hq : q < 4294967296) :
    IntKind.u64.wrap ((q : Int) * (D0 : Int)) = ((q * D0 : Nat) : Int) ∧ IntKind.u64.wrap (4294967296 * (r : Int)) = 4294967296 * (r : Int) ∧ IntKind.u64.wrap (4294967296 * (r : Int) + (n1 : Int)) = ((r * 4294967296 + n1 : Nat) : Int) := by
  have hr := h.2.2.1
  have a : q * D0 ≤ 4294967295 * 4294967295 := Nat.mul_le_mul (by omega) (by omega)
  refine ⟨?_, ?_, ?_⟩
  · rw [IntKind.wrap_u64, ← Int.natCast_mul]
    generalize q * D0 = x at *
    omega
  · rw [IntKind.wrap_u64]; omega
  · rw [IntKind.wrap_u64]; omega

theorem quo_eq {H D : Nat} (hH : H < 18446744073709551616) : IntKind.u64.wrap ((H : Int) / (D : Int)) = ((H / D : Nat) : Int) := by
  rw [← Int.natCast_ediv, IntKind.wrap_u64]
  have := Nat.div_le_self H D
  generalize H / D = x at *
  omega
theorem mul_eq {H D : Nat} (hH : H < 18446744073709551616) : IntKind.u64.wrap (((H / D : Nat) : Int) * (D : Int)) = ((H / D * D : Nat) : Int) := by
  have := Nat.div_mul_le_self H D
  rw [← Int.natCast_mul, IntKind.wrap_u64]
  generalize H / D * D = x at *
  omega
theorem rem_eq {H D : Nat} (hH : H < 18446744073709551616) : IntKind.u64.wrap ((H : Int) - ((H / D * D : Nat) : Int)) = ((H % D : Nat) : Int) := by
  have h1 := Nat.div_add_mod H D
  rw [Nat.mul_comm] at h1
  have h2 := Nat.mod_le H D
  rw [IntKind.wrap_u64]
  generalize H / D * D = x at *
  generalize H % D = z at *
  omega
/-- What is left behind a digit, reckoned with all that comes round. -/
theorem left_eq {H n1 Y : Nat} (hY : Y < 18446744073709551616) (h0 : 0 < Y) :
    IntKind.u64.wrap (IntKind.u64.wrap (IntKind.u64.wrap ((H : Int) * 4294967296) + (n1 : Int)) - IntKind.u64.wrap ((((H * 4294967296 + n1) / Y : Nat) : Int) * (Y : Int))) = (((H * 4294967296 + n1) % Y : Nat) : Int) := by
  have h1 := Nat.div_add_mod (H * 4294967296 + n1) Y
  have h2 := Nat.mod_lt (H * 4294967296 + n1) h0
  have h3 : ((H : Int) * 4294967296 + (n1 : Int)) = ((H * 4294967296 + n1 : Nat) : Int) := by omega
  rw [Nat.mul_comm] at h1
  simp only [IntKind.wrap_u64]
  rw [← Int.natCast_mul]
  generalize (H * 4294967296 + n1) / Y * Y = x at *
  generalize (H * 4294967296 + n1) % Y = z at *
  generalize H * 4294967296 + n1 = N at *
  have h4 : (H : Int) * 4294967296 = (N : Int) - n1 := by omega
  rw [h4]
  omega

/-- One less: what the round leaves. -/
theorem dig_down {D1 D0 H n1 q r Q : Nat} (h : Dig D1 D0 H n1 q r) (hD1 : 2147483648 ≤ D1) (hD1' : D1 < 4294967296) (hD0 : D0 < 4294967296) (hH : H < D1 * 4294967296 + D0) (hn : n1 < 4294967296) (hc : 4294967296 ≤ q ∨ r * 4294967296 + n1 < q * D0) (hQ : (H * 4294967296 + n1) / (D1 * 4294967296 + D0) = Q) :
    ∃ q' r' : Nat, IntKind.u64.wrap ((q : Int) - 1) = (q' : Int) ∧ IntKind.u64.wrap ((r : Int) + (D1 : Int)) = (r' : Int) ∧ (r' < 4294967296 → Dig D1 D0 H n1 q' r' ∧ r < r') ∧ (¬ r' < 4294967296 → q' = Q) := by
  obtain ⟨d1, d2, d3⟩ := h.down hD1 hH hn hc
  have hr := h.2.2.1
  have hq := h.2.2.2
  refine ⟨q - 1, r + D1, ?_, ?_, fun hlt => ⟨⟨d2, d3, hlt, ?_⟩, ?_⟩, fun hge => ?_⟩
  · rw [IntKind.wrap_u64]; clear d2 d3 hH hc hQ h; omega
  · rw [IntKind.wrap_u64]; clear d2 d3 hH hc hQ h; omega
  · clear d2 d3 hH hc hQ h; omega
  · clear d2 d3 hH hc hQ h; omega
  · rw [← hQ]
    exact dig_out d2 d3 (Nat.lt_of_lt_of_le (by decide) hD1) hD0 (by clear d2 d3 hH hc hQ h; omega) (Nat.le_of_not_lt hge)
theorem top_eq {a b : Nat} (ha : a < 4294967296) (hb : b < 4294967296) : IntKind.u64.wrap (IntKind.u64.wrap ((a : Int) * 4294967296) + (b : Int)) = ((a * 4294967296 + b : Nat) : Int) := by
  simp only [IntKind.wrap_u64]
  omega
theorem big_yes {r : Nat} (h : r < 4294967296) : decide ((4294967296 : Int) ≤ (r : Int)) = false := by rw [decide_eq_false_iff_not]; omega
theorem big_no {r : Nat} (h : ¬ r < 4294967296) : decide ((4294967296 : Int) ≤ (r : Int)) = true := by rw [decide_eq_true_eq]; omega

/-- The quotient's digits, and the numbers of which they are. -/
structure Digits (hi lo y s Y D1 D0 H L n1 n0 : Nat) : Prop where
  sy : s ≤ 64
  eY : IntKind.u64.wrap ((y : Int) * 2 ^ s) = (Y : Int)
  eD1 : (Y : Int) / 4294967296 = (D1 : Int)
  eD0 : bits .and .u64 (Y : Int) 4294967295 = (D0 : Int)
  eH : bits .or .u64 (IntKind.u64.wrap ((hi : Int) * 2 ^ s)) ((lo : Int) / 2 ^ (64 - s)) = (H : Int)
  eL : IntKind.u64.wrap ((lo : Int) * 2 ^ s) = (L : Int)
  en1 : (L : Int) / 4294967296 = (n1 : Int)
  en0 : bits .and .u64 (L : Int) 4294967295 = (n0 : Int)
  hD1 : 2147483648 ≤ D1
  hD1' : D1 < 4294967296
  hD0 : D0 < 4294967296
  hn1 : n1 < 4294967296
  hn0 : n0 < 4294967296
  sum : Y = D1 * 4294967296 + D0
  lt : H < Y

theorem lz_any (w : World) (y s : Nat) (hy : y < 18446744073709551616) (hs : Lib.bitLen y + s = 64) : Calls Tryd.prog 26 #[.int .u64 (y : Int)] w fun e w' => e = .returned (.int .i64 (s : Int)) ∧ w = w' := by
  refine (Tryd.bits_LeadingZeros64 (y : Int) w (by omega) (by omega)).mono fun e w' h => ?_
  refine ⟨?_, h.2.symm⟩
  rw [h.1, Int.toNat_natCast]
  congr 2
  omega

set_option maxHeartbeats 4000000 in
set_option maxRecDepth 100000 in
theorem div_walk (w : World) (hi lo y s Y D1 D0 H L n1 n0 : Nat) (hh : 0 < hi) (hhy : hi < y) (hy : y < 18446744073709551616) (hs : Lib.bitLen y + s = 64) (hd : Digits hi lo y s Y D1 D0 H L n1 n0) :
    Calls Tryd.prog 21 #[.int .u64 (hi : Int), .int .u64 (lo : Int), .int .u64 (y : Int)] w (DivPost ((H * 4294967296 + n1) / Y * 4294967296 + ((H * 4294967296 + n1) % Y * 4294967296 + n0) / Y) w) := by
  have HD := Lib.hid hd
  have hH64 : H < 18446744073709551616 := by have := hd.sum; have := hd.lt; have := hd.hD1'; have := hd.hD0; omega
  obtain ⟨q0, hq0⟩ : ∃ q, H / D1 = q := ⟨_, rfl⟩
  obtain ⟨p0, hp0⟩ : ∃ q, H / D1 * D1 = q := ⟨_, rfl⟩
  obtain ⟨r0, hr0⟩ : ∃ q, H % D1 = q := ⟨_, rfl⟩
  have f1 := quo_eq (D := D1) hH64
  have f2 := mul_eq (D := D1) hH64
  have f3 := rem_eq (D := D1) hH64
  rw [hp0, hq0] at f2
  rw [hp0, hr0] at f3
  rw [hq0] at f1
  have HS1 : Hid (Dig D1 D0 H n1 q0 r0) := by
    have := Dig.start hd.hD1 hd.hD1' hd.hD0 (by rw [← hd.sum]; exact hd.lt) hd.hn1
    rw [hq0, hr0] at this
    exact this
  obtain ⟨Q1, hQ1⟩ : ∃ q, (H * 4294967296 + n1) / Y = q := ⟨_, rfl⟩
  obtain ⟨R, hR⟩ : ∃ q, (H * 4294967296 + n1) % Y = q := ⟨_, rfl⟩
  have hY0 : 0 < Y := by have := hd.lt; omega
  have hY64 : Y < 18446744073709551616 := by have := hd.sum; have := hd.hD1'; have := hd.hD0; omega
  have hRY : R < Y := by rw [← hR]; exact Nat.mod_lt _ hY0
  have hle := left_eq (H := H) (n1 := n1) hY64 hY0
  rw [hR, hQ1] at hle
  have hQlt : Q1 < 4294967296 := by rw [← hQ1]; exact dig_lt hd.lt hd.hn1
  obtain ⟨Q0, hQ0⟩ : ∃ q, (R * 4294967296 + n0) / Y = q := ⟨_, rfl⟩
  have hQ0lt : Q0 < 4294967296 := by rw [← hQ0]; exact dig_lt hRY hd.hn0
  rw [hQ1, hR, hQ0]
  have hR64 : R < 18446744073709551616 := Nat.lt_trans hRY hY64
  have HTop0 := top_eq hQlt hQ0lt
  obtain ⟨T, hT⟩ : ∃ q, Q1 * 4294967296 + Q0 = q := ⟨_, rfl⟩
  rw [hT] at HTop0 ⊢
  have HTop := Lib.hid HTop0
  have HQ1 := Lib.hid hQ1
  have HQ0 := Lib.hid hQ0
  have HRY := Lib.hid hRY
  obtain ⟨q2, hq2⟩ : ∃ q, R / D1 = q := ⟨_, rfl⟩
  obtain ⟨p2, hp2⟩ : ∃ q, R / D1 * D1 = q := ⟨_, rfl⟩
  obtain ⟨r2, hr2⟩ : ∃ q, R % D1 = q := ⟨_, rfl⟩
  have j1 := quo_eq (D := D1) hR64
  have j2 := mul_eq (D := D1) hR64
  have j3 := rem_eq (D := D1) hR64
  rw [hp2, hq2] at j2
  rw [hp2, hr2] at j3
  rw [hq2] at j1
  have HT := Lib.hid (And.intro hle (And.intro j1 (And.intro j2 j3)))
  have HS2 : Hid (Dig D1 D0 R n0 q2 r2) := by
    have := Dig.start hd.hD1 hd.hD1' hd.hD0 (by rw [← hd.sum]; exact hRY) hd.hn0
    rw [hq2, hr2] at this
    exact this
  clear hle j1 j2 j3 hq2 hp2 hr2 hR64 hQ0lt hQlt hRY hY64 hY0 hR hQ0 hT HTop0
  have HLZ : Hid (y < 18446744073709551616 ∧ Lib.bitLen y + s = 64) := ⟨hy, hs⟩
  have e1 : ((y : Int) == 0) = false := by rw [beq_eq_false_iff_ne]; omega
  have e2 : ((hi : Int) == 0) = false := by rw [beq_eq_false_iff_ne]; omega
  have e3 : decide (y ≤ hi) = false := by simp; omega
  have e4 : min s 64 = s := by have := hd.sy; omega
  have e5 := hd.eY
  have e6 := hd.eD1
  have e7 := hd.eD0
  have e8 := hd.eH
  have e9 := hd.eL
  have e10 := hd.en1
  have e11 := hd.en0
  have e12 : ¬ D1 = 0 := by have := hd.hD1; omega
  clear hs hy hd hH64 hq0 hp0 hr0 hQ1
  go_enter Tryd.func21, Tryd.ntmps21
  go_wp2_with (go_at_call 26; refine (lz_any w y s HLZ.out.1 HLZ.out.2).mono ?_; rintro e w' ⟨rfl, rfl⟩)
  clear e5 e6 e7 e8 e9 e10 e11 f1 f2 f3
  go_loop [15, 16] (fun qv rv => ∃ q r : Nat, qv = .int .u64 (q : Int) ∧ rv = .int .u64 (r : Int) ∧ Hid (Dig D1 D0 H n1 q r)) (fun _ rv => 4294967296 - (intOf rv).toNat)
  case atStart => exact ⟨q0, r0, rfl, rfl, HS1.out⟩
  case round =>
    clear HS1
    obtain ⟨q, r, rfl, rfl, HG⟩ := hrel
    by_cases hbig : q < 4294967296
    · obtain ⟨g1, g2, g3⟩ := dig_facts HG.out HD.out.hD1' HD.out.hD0 HD.out.hn1 hbig
      have g0 := big_yes hbig
      obtain ⟨x, hx⟩ : ∃ x, q * D0 = x := ⟨_, rfl⟩
      obtain ⟨z, hz⟩ : ∃ z, r * 4294967296 + n1 = z := ⟨_, rfl⟩
      rw [hx] at g1
      rw [hz] at g3
      by_cases hgt : z < x
      · obtain ⟨q', r', k1, k2, k3, k4⟩ := dig_down (Q := Q1) HG.out HD.out.hD1 HD.out.hD1' HD.out.hD0 (by rw [← HD.out.sum]; exact HD.out.lt) HD.out.hn1 (.inr (by rw [hx, hz]; exact hgt)) (by rw [← HD.out.sum]; exact HQ1.out)
        clear hx hz hbig
        by_cases hr' : r' < 4294967296
        · have K3 := Lib.hid (k3 hr').1
          have hr2 := (k3 hr').2
          have k5 := big_yes hr'
          have HR' := Lib.hid hr'
          clear k3 k4 hr' HG
          go_wp2
          go_round
          case rel => exact ⟨q', r', rfl, rfl, K3⟩
          case measure => have := HR'.out; simp [intOf] <;> omega
        · obtain rfl : Q1 = q' := (k4 hr').symm
          have k5 := big_no hr'
          clear k3 k4 hr' HG
          obtain ⟨t1, t2, t3, t4⟩ := HT.out
          go_wp2
          clear t1 t2 t3 t4
          go_loop [16, 18] (fun rv qv => ∃ q r : Nat, qv = .int .u64 (q : Int) ∧ rv = .int .u64 (r : Int) ∧ Hid (Dig D1 D0 R n0 q r)) (fun rv _ => 4294967296 - (intOf rv).toNat)
          case atStart => exact ⟨q2, r2, rfl, rfl, HS2.out⟩
          case round =>
            clear HS2
            obtain ⟨q, r, rfl, rfl, HG⟩ := hrel
            by_cases hbig : q < 4294967296
            · obtain ⟨g1, g2, g3⟩ := dig_facts HG.out HD.out.hD1' HD.out.hD0 HD.out.hn0 hbig
              have g0 := big_yes hbig
              obtain ⟨x, hx⟩ : ∃ x, q * D0 = x := ⟨_, rfl⟩
              obtain ⟨z, hz⟩ : ∃ z, r * 4294967296 + n0 = z := ⟨_, rfl⟩
              rw [hx] at g1
              rw [hz] at g3
              by_cases hgt : z < x
              · obtain ⟨q', r', k1, k2, k3, k4⟩ := dig_down (Q := Q0) HG.out HD.out.hD1 HD.out.hD1' HD.out.hD0 (by rw [← HD.out.sum]; exact HRY.out) HD.out.hn0 (.inr (by rw [hx, hz]; exact hgt)) (by rw [← HD.out.sum]; exact HQ0.out)
                clear hx hz hbig
                by_cases hr' : r' < 4294967296
                · have K3 := Lib.hid (k3 hr').1
                  have hr2 := (k3 hr').2
                  have k5 := big_yes hr'
                  have HR' := Lib.hid hr'
                  clear k3 k4 hr' HG
                  go_wp2
                  go_round
                  case rel => exact ⟨q', r', rfl, rfl, K3⟩
                  case measure => have := HR'.out; simp [intOf] <;> omega
                · obtain rfl : Q0 = q' := (k4 hr').symm
                  have k5 := big_no hr'
                  clear k3 k4 hr' HG
                  have t5 := HTop.out
                  go_wp2
                  go_ret2
                  exact ⟨_, rfl, rfl⟩
              · have HE : q = Q0 := by
                  have := HG.out.done (by have := HD.out.hD1; omega) (by rw [hx, hz]; omega)
                  rw [← HD.out.sum, HQ0.out] at this; exact this
                obtain rfl : Q0 = q := HE.symm
                clear hx hz hbig HG HE
                have t5 := HTop.out
                go_wp2
                go_ret2
                exact ⟨_, rfl, rfl⟩
            · obtain ⟨q', r', k1, k2, k3, k4⟩ := dig_down (Q := Q0) HG.out HD.out.hD1 HD.out.hD1' HD.out.hD0 (by rw [← HD.out.sum]; exact HRY.out) HD.out.hn0 (.inl (Nat.le_of_not_lt hbig)) (by rw [← HD.out.sum]; exact HQ0.out)
              have k0 := big_no hbig
              clear hbig
              by_cases hr' : r' < 4294967296
              · have K3 := Lib.hid (k3 hr').1
                have hr2 := (k3 hr').2
                have k5 := big_yes hr'
                have HR' := Lib.hid hr'
                clear k3 k4 hr' HG
                go_wp2
                go_round
                case rel => exact ⟨q', r', rfl, rfl, K3⟩
                case measure => have := HR'.out; simp [intOf] <;> omega
              · obtain rfl : Q0 = q' := (k4 hr').symm
                have k5 := big_no hr'
                clear k3 k4 hr' HG
                have t5 := HTop.out
                go_wp2
                go_ret2
                exact ⟨_, rfl, rfl⟩
      · have HE : q = Q1 := by
          have := HG.out.done (by have := HD.out.hD1; omega) (by rw [hx, hz]; omega)
          rw [← HD.out.sum, HQ1.out] at this; exact this
        obtain rfl : Q1 = q := HE.symm
        clear hx hz hbig HG HE
        obtain ⟨t1, t2, t3, t4⟩ := HT.out
        go_wp2
        clear t1 t2 t3 t4
        go_loop [16, 18] (fun rv qv => ∃ q r : Nat, qv = .int .u64 (q : Int) ∧ rv = .int .u64 (r : Int) ∧ Hid (Dig D1 D0 R n0 q r)) (fun rv _ => 4294967296 - (intOf rv).toNat)
        case atStart => exact ⟨q2, r2, rfl, rfl, HS2.out⟩
        case round =>
          clear HS2
          obtain ⟨q, r, rfl, rfl, HG⟩ := hrel
          by_cases hbig : q < 4294967296
          · obtain ⟨g1, g2, g3⟩ := dig_facts HG.out HD.out.hD1' HD.out.hD0 HD.out.hn0 hbig
            have g0 := big_yes hbig
            obtain ⟨x, hx⟩ : ∃ x, q * D0 = x := ⟨_, rfl⟩
            obtain ⟨z, hz⟩ : ∃ z, r * 4294967296 + n0 = z := ⟨_, rfl⟩
            rw [hx] at g1
            rw [hz] at g3
            by_cases hgt : z < x
            · obtain ⟨q', r', k1, k2, k3, k4⟩ := dig_down (Q := Q0) HG.out HD.out.hD1 HD.out.hD1' HD.out.hD0 (by rw [← HD.out.sum]; exact HRY.out) HD.out.hn0 (.inr (by rw [hx, hz]; exact hgt)) (by rw [← HD.out.sum]; exact HQ0.out)
              clear hx hz hbig
              by_cases hr' : r' < 4294967296
              · have K3 := Lib.hid (k3 hr').1
                have hr2 := (k3 hr').2
                have k5 := big_yes hr'
                have HR' := Lib.hid hr'
                clear k3 k4 hr' HG
                go_wp2
                go_round
                case rel => exact ⟨q', r', rfl, rfl, K3⟩
                case measure => have := HR'.out; simp [intOf] <;> omega
              · obtain rfl : Q0 = q' := (k4 hr').symm
                have k5 := big_no hr'
                clear k3 k4 hr' HG
                have t5 := HTop.out
                go_wp2
                go_ret2
                exact ⟨_, rfl, rfl⟩
            · have HE : q = Q0 := by
                have := HG.out.done (by have := HD.out.hD1; omega) (by rw [hx, hz]; omega)
                rw [← HD.out.sum, HQ0.out] at this; exact this
              obtain rfl : Q0 = q := HE.symm
              clear hx hz hbig HG HE
              have t5 := HTop.out
              go_wp2
              go_ret2
              exact ⟨_, rfl, rfl⟩
          · obtain ⟨q', r', k1, k2, k3, k4⟩ := dig_down (Q := Q0) HG.out HD.out.hD1 HD.out.hD1' HD.out.hD0 (by rw [← HD.out.sum]; exact HRY.out) HD.out.hn0 (.inl (Nat.le_of_not_lt hbig)) (by rw [← HD.out.sum]; exact HQ0.out)
            have k0 := big_no hbig
            clear hbig
            by_cases hr' : r' < 4294967296
            · have K3 := Lib.hid (k3 hr').1
              have hr2 := (k3 hr').2
              have k5 := big_yes hr'
              have HR' := Lib.hid hr'
              clear k3 k4 hr' HG
              go_wp2
              go_round
              case rel => exact ⟨q', r', rfl, rfl, K3⟩
              case measure => have := HR'.out; simp [intOf] <;> omega
            · obtain rfl : Q0 = q' := (k4 hr').symm
              have k5 := big_no hr'
              clear k3 k4 hr' HG
              have t5 := HTop.out
              go_wp2
              go_ret2
              exact ⟨_, rfl, rfl⟩
    · obtain ⟨q', r', k1, k2, k3, k4⟩ := dig_down (Q := Q1) HG.out HD.out.hD1 HD.out.hD1' HD.out.hD0 (by rw [← HD.out.sum]; exact HD.out.lt) HD.out.hn1 (.inl (Nat.le_of_not_lt hbig)) (by rw [← HD.out.sum]; exact HQ1.out)
      have k0 := big_no hbig
      clear hbig
      by_cases hr' : r' < 4294967296
      · have K3 := Lib.hid (k3 hr').1
        have hr2 := (k3 hr').2
        have k5 := big_yes hr'
        have HR' := Lib.hid hr'
        clear k3 k4 hr' HG
        go_wp2
        go_round
        case rel => exact ⟨q', r', rfl, rfl, K3⟩
        case measure => have := HR'.out; simp [intOf] <;> omega
      · obtain rfl : Q1 = q' := (k4 hr').symm
        have k5 := big_no hr'
        clear k3 k4 hr' HG
        obtain ⟨t1, t2, t3, t4⟩ := HT.out
        go_wp2
        clear t1 t2 t3 t4
        go_loop [16, 18] (fun rv qv => ∃ q r : Nat, qv = .int .u64 (q : Int) ∧ rv = .int .u64 (r : Int) ∧ Hid (Dig D1 D0 R n0 q r)) (fun rv _ => 4294967296 - (intOf rv).toNat)
        case atStart => exact ⟨q2, r2, rfl, rfl, HS2.out⟩
        case round =>
          clear HS2
          obtain ⟨q, r, rfl, rfl, HG⟩ := hrel
          by_cases hbig : q < 4294967296
          · obtain ⟨g1, g2, g3⟩ := dig_facts HG.out HD.out.hD1' HD.out.hD0 HD.out.hn0 hbig
            have g0 := big_yes hbig
            obtain ⟨x, hx⟩ : ∃ x, q * D0 = x := ⟨_, rfl⟩
            obtain ⟨z, hz⟩ : ∃ z, r * 4294967296 + n0 = z := ⟨_, rfl⟩
            rw [hx] at g1
            rw [hz] at g3
            by_cases hgt : z < x
            · obtain ⟨q', r', k1, k2, k3, k4⟩ := dig_down (Q := Q0) HG.out HD.out.hD1 HD.out.hD1' HD.out.hD0 (by rw [← HD.out.sum]; exact HRY.out) HD.out.hn0 (.inr (by rw [hx, hz]; exact hgt)) (by rw [← HD.out.sum]; exact HQ0.out)
              clear hx hz hbig
              by_cases hr' : r' < 4294967296
              · have K3 := Lib.hid (k3 hr').1
                have hr2 := (k3 hr').2
                have k5 := big_yes hr'
                have HR' := Lib.hid hr'
                clear k3 k4 hr' HG
                go_wp2
                go_round
                case rel => exact ⟨q', r', rfl, rfl, K3⟩
                case measure => have := HR'.out; simp [intOf] <;> omega
              · obtain rfl : Q0 = q' := (k4 hr').symm
                have k5 := big_no hr'
                clear k3 k4 hr' HG
                have t5 := HTop.out
                go_wp2
                go_ret2
                exact ⟨_, rfl, rfl⟩
            · have HE : q = Q0 := by
                have := HG.out.done (by have := HD.out.hD1; omega) (by rw [hx, hz]; omega)
                rw [← HD.out.sum, HQ0.out] at this; exact this
              obtain rfl : Q0 = q := HE.symm
              clear hx hz hbig HG HE
              have t5 := HTop.out
              go_wp2
              go_ret2
              exact ⟨_, rfl, rfl⟩
          · obtain ⟨q', r', k1, k2, k3, k4⟩ := dig_down (Q := Q0) HG.out HD.out.hD1 HD.out.hD1' HD.out.hD0 (by rw [← HD.out.sum]; exact HRY.out) HD.out.hn0 (.inl (Nat.le_of_not_lt hbig)) (by rw [← HD.out.sum]; exact HQ0.out)
            have k0 := big_no hbig
            clear hbig
            by_cases hr' : r' < 4294967296
            · have K3 := Lib.hid (k3 hr').1
              have hr2 := (k3 hr').2
              have k5 := big_yes hr'
              have HR' := Lib.hid hr'
              clear k3 k4 hr' HG
              go_wp2
              go_round
              case rel => exact ⟨q', r', rfl, rfl, K3⟩
              case measure => have := HR'.out; simp [intOf] <;> omega
            · obtain rfl : Q0 = q' := (k4 hr').symm
              have k5 := big_no hr'
              clear k3 k4 hr' HG
              have t5 := HTop.out
              go_wp2
              go_ret2
              exact ⟨_, rfl, rfl⟩

end Go.Proofs.YtipjhjgjomfflaaDoor
