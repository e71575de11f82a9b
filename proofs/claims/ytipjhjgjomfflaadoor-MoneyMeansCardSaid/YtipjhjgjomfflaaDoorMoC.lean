/-
  money: Of, of the program.
-/
import Derived.Test.YtipjhjgjomfflaaDoorMoB
import Derived.Deep.DeepCutAuto
import Derived.Deep.CutBlock
namespace Go.Proofs.YtipjhjgjomfflaaDoor
open Go.RowKit Go.Sort

theorem digit_any (w : World) (b : UInt8) : Calls Tryd.prog 30 #[.int .u8 (b.toNat : Int)] w fun e w' => e = .returned (.int .u64 (digU b : Int)) ∧ w = w' := by
  have hb := b.toNat_lt
  have h1 : IntKind.u64.wrap ((b.toNat : Int) - 48) = (digU b : Int) := by unfold digU; rw [IntKind.wrap_u64]; omega
  obtain ⟨d, hd⟩ : ∃ d, digU b = d := ⟨_, rfl⟩
  rw [hd] at h1 ⊢
  clear hd
  go_enter Tryd.func30, Tryd.ntmps30
  go_wp2
  go_ret
  exact ⟨rfl, rfl⟩

theorem run_byte (l : List UInt8) {k : Nat} (hk : k < l.length) (wq : World) : (Instr.index 9 (.string (Str l)) (.int .i64 (k : Int))).run Tryd.prog wq = .ok (.int .u8 (l[k].toNat : Int)) wq := by
  rw [run_index_string _ _ _ _ _ Tryd.underlying9, dif_pos ⟨by omega, by simp; omega⟩]
  rfl
theorem wrap_mul (x : Nat) : IntKind.u64.wrap (10 * (x : Int)) = ((10 * x % 18446744073709551616 : Nat) : Int) := by rw [IntKind.wrap_u64]; omega
theorem wrap_mul' (x : Nat) : IntKind.u64.wrap ((x : Int) * 10) = ((10 * x % 18446744073709551616 : Nat) : Int) := by rw [IntKind.wrap_u64]; omega
theorem wrap_nx (x d : Nat) : IntKind.u64.wrap (((10 * x % 18446744073709551616 : Nat) : Int) + (d : Int)) = (nx x d : Int) := by unfold nx; rw [IntKind.wrap_u64]; omega
theorem nx_zero (x : Nat) : 10 * x % 18446744073709551616 = nx x 0 := by unfold nx; rw [Nat.add_zero]

def GuessPost (s : List UInt8) (w : World) (e : Ending) (w' : World) : Prop := e = .returned (.int .u64 (guessS s : Int)) ∧ ∃ n, w' = w.drewN n

set_option maxHeartbeats 2000000 in
set_option maxRecDepth 100000 in
theorem guess_any (w : World) (hT : Tb w) (s : List UInt8) (hmax : s.length ≤ 3000) : Calls Tryd.prog 25 #[.string (Str s)] w (GuessPost s w) := by
  obtain ⟨_, m, hm⟩ := hT
  have hs : (Str s).size < 4294967281 := by rw [Str_size]; omega
  have hcut := Tryd.strings_Cut (Str s) ⟨#[46]⟩ m w hs hm
  rw [show (Str s).data.toList = s by simp [Str], show (⟨#[46]⟩ : ByteArray).data.toList = [46] from rfl] at hcut
  obtain ⟨x, hx⟩ : ∃ x, cutW s = x := ⟨_, rfl⟩
  obtain ⟨y, hy⟩ : ∃ y, cutR s = y := ⟨_, rfl⟩
  have hxl : x.length ≤ 3000 := by
    rw [← hx]; unfold cutW Lib.cut; split
    · simp only [List.length_take]; omega
    · exact hmax
  have hyl : y.length ≤ 3000 := by
    rw [← hy]; unfold cutR Lib.cut; split
    · simp only [List.length_drop]; omega
    · simp
  have hcut2 : Calls Tryd.prog 29 #[.string (Str s), .string ⟨#[46]⟩] w fun e w' => ∃ (b : Bool) (n : Nat), e = .returned (.tuple #[.string (Str x), .string (Str y), .bool b]) ∧ w' = w.drewN n := hcut.mono fun e w' h => by
    obtain ⟨h1, n, h2⟩ := h
    rw [h1, h2, ← hx, ← hy]
    exact ⟨_, n, rfl, rfl⟩
  have HC := Lib.hid hcut2
  have HG : Hid (guessS s = valR y (valW x) 8) := by show _ = _; rw [← hx, ← hy]; rfl
  clear hcut hcut2 hs hm hx hy hmax
  go_enter Tryd.func25, Tryd.ntmps25
  go_upto_block 0 with (go_at_call 29; (refine HC.out.mono ?_; rintro e w' ⟨b, n, rfl, rfl⟩))
  go_cut [6] (fun av wx => av = .int .u64 (valW x : Int) ∧ wx = w.drewN n)
  case first =>
    go_wp2_with fail
    go_loop [6, 17] (fun av iv => ∃ k a : Nat, k ≤ x.length ∧ iv = .int .i64 (k : Int) ∧ av = .int .u64 (a : Int) ∧ Hid (valW (x.take k) = a)) (fun _ iv => x.length - (intOf iv).toNat)
    case atStart => exact ⟨0, 0, by omega, rfl, rfl, by show _ = _; rfl⟩
    case round =>
      obtain ⟨k, a, hk, rfl, rfl, HA⟩ := hrel
      by_cases hlt : k < x.length
      · have q1 := run_byte x hlt
        obtain ⟨c, hc⟩ : ∃ c, x[k] = c := ⟨_, rfl⟩
        rw [hc] at q1
        have HN : Hid (valW (x.take (k + 1)) = nx a (digU c)) := by show _ = _; rw [valW_take hlt, HA.out, hc]
        obtain ⟨d, hd⟩ : ∃ d, digU c = d := ⟨_, rfl⟩
        rw [hd] at HN
        have hdg := fun wq => digit_any wq c
        rw [hd] at hdg
        have HD := Lib.hid hdg
        clear hdg
        have m1 := wrap_mul a
        obtain ⟨z, hz⟩ : ∃ z, 10 * a % 18446744073709551616 = z := ⟨_, rfl⟩
        have m2 := wrap_nx a d
        rw [hz] at m1 m2
        obtain ⟨u, hu⟩ : ∃ u, nx a d = u := ⟨_, rfl⟩
        rw [hu] at m2 HN
        clear hc hd hz hu
        go_wp2_with (go_at_call 30; (refine (HD.out _).mono ?_; rintro e w' ⟨rfl, rfl⟩))
        go_round
        case rel => exact ⟨k + 1, u, by omega, by go_num, rfl, HN⟩
        case measure => simp [intOf] <;> omega
      · obtain rfl : k = x.length := by omega
        have HA' : Hid (valW x = a) := by have := HA.out; rw [List.take_length] at this; exact this
        go_wp2_with fail
        go_meet
        exact ⟨by rw [HA'.out], rfl⟩
  case rest =>
    obtain ⟨rfl, rfl⟩ := hcut
    obtain ⟨a, ha⟩ : ∃ a, valW x = a := ⟨_, rfl⟩
    have HA' : Hid (valW x = a) := ha
    rw [ha]
    clear ha
    go_wp2_with fail
    go_loop [6, 28] (fun av iv => ∃ k a : Nat, k ≤ 8 ∧ iv = .int .i64 (k : Int) ∧ av = .int .u64 (a : Int) ∧ Hid (valR y (valW x) k = a)) (fun _ iv => 8 - (intOf iv).toNat)
    case atStart => exact ⟨0, a, by omega, rfl, rfl, HA'⟩
    case round =>
      clear HA'
      obtain ⟨k, a, hk, rfl, rfl, HA⟩ := hrel
      by_cases hlt : k < 8
      · have m1 := wrap_mul' a
        obtain ⟨z, hz⟩ : ∃ z, 10 * a % 18446744073709551616 = z := ⟨_, rfl⟩
        by_cases hky : k < y.length
        · have q1 := run_byte y hky
          obtain ⟨c, hc⟩ : ∃ c, y[k] = c := ⟨_, rfl⟩
          rw [hc] at q1
          have HN : Hid (valR y (valW x) (k + 1) = nx a (digU c)) := by show _ = _; rw [valR, HA.out, stepR, dif_pos hky, hc]
          obtain ⟨d, hd⟩ : ∃ d, digU c = d := ⟨_, rfl⟩
          rw [hd] at HN
          have hdg := fun wq => digit_any wq c
          rw [hd] at hdg
          have HD := Lib.hid hdg
          clear hdg
          have m2 := wrap_nx a d
          rw [hz] at m1 m2
          obtain ⟨u, hu⟩ : ∃ u, nx a d = u := ⟨_, rfl⟩
          rw [hu] at m2 HN
          clear hc hd hz hu
          go_wp2_with (go_at_call 30; (refine (HD.out _).mono ?_; rintro e w' ⟨rfl, rfl⟩))
          go_round
          case rel => exact ⟨k + 1, u, by omega, by go_num, rfl, HN⟩
          case measure => simp [intOf] <;> omega
        · have HN : Hid (valR y (valW x) (k + 1) = z) := by show _ = _; rw [valR, HA.out, stepR, dif_neg hky, ← nx_zero, hz]
          rw [hz] at m1
          clear hz
          go_wp2
          go_round
          case rel => exact ⟨k + 1, z, by omega, by go_num, rfl, HN⟩
          case measure => simp [intOf] <;> omega
      · obtain rfl : k = 8 := by omega
        go_wp2
        go_ret
        exact ⟨by rw [HG.out, HA.out]; rfl, n, rfl⟩
end Go.Proofs.YtipjhjgjomfflaaDoor
