/-
  money: Of, of the program and of the document.
-/
import Derived.Test.YtipjhjgjomfflaaDoorMoC
import Derived.Test.YtipjhjgjomfflaaDoorMo9
namespace Go.Proofs.YtipjhjgjomfflaaDoor
open Go.RowKit Go.Sort

theorem below_drewN (w : World) (n : Nat) : Below w.heap.size w (w.drewN n) := ⟨rfl, rfl, rfl, Nat.le_refl _, fun _ _ => rfl⟩
theorem Str_inj {a b : List UInt8} (h : Str a = Str b) : a = b := by
  have := congrArg ByteArray.toList h
  simpa using this
def OfPost (s : List UInt8) (w : World) (e : Ending) (w' : World) : Prop := e = .returned (.tuple #[.int .u64 (ofV s : Int), .int .i64 (ofE s)]) ∧ Below w.heap.size w w'

set_option maxHeartbeats 1000000 in
set_option maxRecDepth 100000 in
theorem of_any (w : World) (hT : Tb w) (s : List UInt8) (hmax : s.length ≤ 3000) : Calls Tryd.prog 18 #[.string (Str s)] w (OfPost s w) := by
  have HG := Lib.hid (guess_any w hT s hmax)
  have HT := Lib.hid hT
  obtain ⟨n, hn⟩ : ∃ n, guessS s = n := ⟨_, rfl⟩
  have HN := Lib.hid hn
  clear hT hmax
  by_cases hok : n ≤ maxM
  · have HE := Lib.hid (text_yes hok)
    by_cases ht : moneyT n = s
    · have HV : Hid (ofV s = n ∧ ofE s = 0) := by rw [← ht]; exact of_text hok
      clear hn hok
      go_enter Tryd.func18, Tryd.ntmps18
      go_wp2_with (first
        | (go_at_call 25; (refine HG.out.mono ?_; rintro e w1 ⟨rfl, q, hq⟩; rw [HN.out]; have Hb1 : Hid (Below w.heap.size w w1) := (by rw [hq]; exact below_drewN w q); clear hq))
        | (go_at_call 16; (refine (text_any _ (HT.out.later Hb1.out) n).mono ?_; rintro e w2 ⟨rfl, hb2⟩; rw [HE.out.1, HE.out.2, ht]; have Hb2 := Lib.hid hb2; clear hb2)))
      go_ret2
      exact ⟨by rw [HV.out.1, HV.out.2]; rfl, nxTo Hb1.out Hb2.out⟩
    · have HV : Hid (ofV s = 0 ∧ ofE s = 4) := by
        have : ofOk s (guessS s) = false := decide_eq_false (fun ⟨_, h2⟩ => ht (by rw [← hn]; exact h2))
        unfold ofV ofE; rw [this]; exact ⟨rfl, rfl⟩
      obtain ⟨t, htt⟩ : ∃ t, moneyT n = t := ⟨_, rfl⟩
      have hne : ¬ Str t = Str s := fun e => ht (by rw [htt]; exact Str_inj e)
      have hne2 : (t == s) = false := by rw [beq_eq_false_iff_ne, ← htt]; exact ht
      have HTT := Lib.hid htt
      clear hn hok ht htt
      go_enter Tryd.func18, Tryd.ntmps18
      go_wp2_with (first
        | (go_at_call 25; (refine HG.out.mono ?_; rintro e w1 ⟨rfl, q, hq⟩; rw [HN.out]; have Hb1 : Hid (Below w.heap.size w w1) := (by rw [hq]; exact below_drewN w q); clear hq))
        | (go_at_call 16; (refine (text_any _ (HT.out.later Hb1.out) n).mono ?_; rintro e w2 ⟨rfl, hb2⟩; rw [HE.out.1, HE.out.2, HTT.out]; have Hb2 := Lib.hid hb2; clear hb2)))
      go_ret2
      exact ⟨by rw [HV.out.1, HV.out.2]; rfl, nxTo Hb1.out Hb2.out⟩
  · have HE := Lib.hid (text_no hok)
    have HV : Hid (ofV s = 0 ∧ ofE s = 4) := by
      have : ofOk s (guessS s) = false := decide_eq_false (fun ⟨h1, _⟩ => hok (by rw [← hn]; exact h1))
      unfold ofV ofE; rw [this]; exact ⟨rfl, rfl⟩
    clear hn hok
    go_enter Tryd.func18, Tryd.ntmps18
    go_wp2_with (first
      | (go_at_call 25; (refine HG.out.mono ?_; rintro e w1 ⟨rfl, q, hq⟩; rw [HN.out]; have Hb1 : Hid (Below w.heap.size w w1) := (by rw [hq]; exact below_drewN w q); clear hq))
      | (go_at_call 16; (refine (text_any _ (HT.out.later Hb1.out) n).mono ?_; rintro e w2 ⟨rfl, hb2⟩; rw [HE.out.1, HE.out.2]; have Hb2 := Lib.hid hb2; clear hb2)))
    go_ret2
    exact ⟨by rw [HV.out.1, HV.out.2]; rfl, nxTo Hb1.out Hb2.out⟩
theorem scan_out {c : UInt8} (t : List UInt8) {n : Nat} {b : Int} (h : (c ≠ 46 ∨ ¬ b < 0) ∧ (c.toNat < 48 ∨ 57 < c.toNat ∨ maxM < n ∨ 8 ≤ b)) : scan (c :: t) n b = none := by
  rw [scan, if_neg (fun hh => h.1.elim (fun h1 => h1 hh.1) (fun h1 => h1 hh.2)), if_pos h.2]
theorem scan_on {c : UInt8} (t : List UInt8) {n : Nat} {b : Int} (h1 : ¬ c.toNat < 48) (h2 : ¬ 57 < c.toNat) (h3 : ¬ maxM < n) (h4 : ¬ 8 ≤ b) : scan (c :: t) n b = scan t (10 * n + (c.toNat - 48)) (if 0 ≤ b then b + 1 else b) := by
  have : c ≠ 46 := fun e => by
    subst e
    have h3 : (46 : UInt8).toNat = 46 := rfl
    omega
  rw [scan, if_neg (fun hh => this hh.1), if_neg (by omega)]
theorem scan_point (t : List UInt8) {n : Nat} {b : Int} (hb : b < 0) : scan (46 :: t) n b = scan t n 0 := by
  rw [scan, if_pos ⟨rfl, hb⟩]
theorem wrap_ten {n : Nat} (h : n ≤ maxM) : IntKind.u64.wrap (10 * (n : Int)) = ((10 * n : Nat) : Int) := by
  unfold maxM at h; rw [IntKind.wrap_u64]; omega
theorem wrap_ten_plus {n d : Nat} (h : n ≤ maxM) (hd : d ≤ 9) : IntKind.u64.wrap (((10 * n : Nat) : Int) + (d : Int)) = ((10 * n + d : Nat) : Int) := by
  unfold maxM at h; rw [IntKind.wrap_u64]; omega
theorem wrap_u8_less {c : UInt8} (h : ¬ c.toNat < 48) : IntKind.u8.wrap ((c.toNat : Int) - 48) = ((c.toNat - 48 : Nat) : Int) := by
  have := c.toNat_lt
  rw [IntKind.wrap_u8]; omega

set_option maxHeartbeats 4000000 in
set_option maxRecDepth 100000 in
theorem rof_any (w : World) (s : List UInt8) (hmax : s.length ≤ 3000) : Calls Tryd.prog 19 #[.string (Str s)] w (OfPost s w) := by
  go_enter Tryd.func19, Tryd.ntmps19
  go_wp2
  go_loop [4, 5, 6] (fun nv bv iv => ∃ (k n : Nat) (b : Int), k ≤ s.length ∧ iv = .int .i64 (k : Int) ∧ nv = .int .u64 (n : Int) ∧ bv = .int .i64 b ∧ -1 ≤ b ∧ b ≤ 8 ∧ Hid (n ≤ 10 * maxM + 9) ∧ Hid (scan (s.drop k) n b = scan s 0 (-1))) (fun _ _ iv => s.length - (intOf iv).toNat)
  case atStart => exact ⟨0, 0, -1, by omega, rfl, rfl, rfl, by omega, by omega, by show _ ≤ _; omega, by show _ = _; rw [List.drop_zero]⟩
  case round =>
    obtain ⟨k, n, b, hk, rfl, rfl, rfl, hb0, hb8, HB, HX⟩ := hrel
    by_cases hlt : k < s.length
    · have q1 := run_byte s hlt
      obtain ⟨c, hc⟩ : ∃ c, s[k] = c := ⟨_, rfl⟩
      rw [hc] at q1
      have HCs : Hid (s.drop k = c :: s.drop (k + 1)) := by show _ = _; rw [List.drop_eq_getElem_cons hlt, hc]
      clear hc
      by_cases h46 : c = 46
      · subst h46
        by_cases hbn : b < 0
        · have HN : Hid (scan (s.drop (k + 1)) n 0 = scan s 0 (-1)) := by show _ = _; rw [← HX.out, HCs.out, scan_point _ hbn]
          have t1 : ((46 : UInt8).toNat : Int) = 46 := rfl
          rw [t1] at q1
          clear t1
          go_wp2
          go_round
          case rel => exact ⟨k + 1, n, 0, by omega, by go_num, rfl, rfl, by omega, by omega, HB, HN⟩
          case measure => simp [intOf] <;> omega
        · have t1 : ((46 : UInt8).toNat : Int) = 46 := rfl
          rw [t1] at q1
          clear t1
          have HV := Lib.hid (of_read_none (s := s) (by unfold readN; rw [← HX.out, HCs.out, scan_out _ (⟨.inr hbn, .inl (by decide)⟩)]; rfl))
          clear HX HB
          go_wp2
          go_ret2
          exact ⟨by rw [HV.out.1, HV.out.2]; rfl, Below.refl _ _⟩
      · have hc46 : ((c.toNat : Int) == 46) = false := by
          rw [beq_eq_false_iff_ne]; intro e; apply h46
          exact UInt8.toNat_inj.1 (by have : ((46 : UInt8).toNat : Int) = 46 := rfl; omega)
        by_cases h48 : c.toNat < 48
        · have t3 : decide ((c.toNat : Int) < 48) = true := decide_eq_true (by omega)
          have HV := Lib.hid (of_read_none (s := s) (by unfold readN; rw [← HX.out, HCs.out, scan_out _ (⟨.inl h46, .inl h48⟩)]; rfl))
          clear HX HB h48 h46
          go_wp2
          go_ret2
          exact ⟨by rw [HV.out.1, HV.out.2]; rfl, Below.refl _ _⟩
        · have t3 : decide ((c.toNat : Int) < 48) = false := decide_eq_false (by omega)
          by_cases h57 : 57 < c.toNat
          · have t4 : decide ((57 : Int) < (c.toNat : Int)) = true := decide_eq_true (by omega)
            have HV := Lib.hid (of_read_none (s := s) (by unfold readN; rw [← HX.out, HCs.out, scan_out _ (⟨.inl h46, .inr (.inl h57)⟩)]; rfl))
            clear HX HB h48 h57 h46
            go_wp2
            go_ret2
            exact ⟨by rw [HV.out.1, HV.out.2]; rfl, Below.refl _ _⟩
          · have t4 : decide ((57 : Int) < (c.toNat : Int)) = false := decide_eq_false (by omega)
            by_cases hM : maxM < n
            · have t5 : decide ((1125899906842624 : Int) < (n : Int)) = true := by rw [over_int, may_no (by omega)]; rfl
              have HV := Lib.hid (of_read_none (s := s) (by unfold readN; rw [← HX.out, HCs.out, scan_out _ (⟨.inl h46, .inr (.inr (.inl hM))⟩)]; rfl))
              clear HX HB h48 h57 hM h46
              go_wp2
              go_ret2
              exact ⟨by rw [HV.out.1, HV.out.2]; rfl, Below.refl _ _⟩
            · have t5 : decide ((1125899906842624 : Int) < (n : Int)) = false := by rw [over_int, may_yes (by omega)]; rfl
              by_cases h8 : 8 ≤ b
              · have t6 : decide (8 ≤ b) = true := decide_eq_true h8
                have HV := Lib.hid (of_read_none (s := s) (by unfold readN; rw [← HX.out, HCs.out, scan_out _ (⟨.inl h46, .inr (.inr (.inr h8))⟩)]; rfl))
                clear HX HB h48 h57 hM h46
                go_wp2
                go_ret2
                exact ⟨by rw [HV.out.1, HV.out.2]; rfl, Below.refl _ _⟩
              · have t6 : decide (8 ≤ b) = false := decide_eq_false h8
                have m0 := wrap_u8_less h48
                have m1 := wrap_ten (n := n) (by omega)
                have m2 := wrap_ten_plus (n := n) (d := c.toNat - 48) (by omega) (by omega)
                have HN : Hid (scan (s.drop (k + 1)) (10 * n + (c.toNat - 48)) (if 0 ≤ b then b + 1 else b) = scan s 0 (-1)) := by show _ = _; rw [← HX.out, HCs.out, scan_on _ h48 h57 hM h8]
                have HB' : Hid (10 * n + (c.toNat - 48) ≤ 10 * maxM + 9) := by show _ ≤ _; omega
                have hd9 : c.toNat - 48 ≤ 9 := by omega
                obtain ⟨d, hd⟩ : ∃ d, c.toNat - 48 = d := ⟨_, rfl⟩
                rw [hd] at m0 m2 HN HB' hd9
                obtain ⟨z, hz⟩ : ∃ z, 10 * n = z := ⟨_, rfl⟩
                rw [hz] at m1 m2 HN HB'
                obtain ⟨u, hu⟩ : ∃ u, z + d = u := ⟨_, rfl⟩
                rw [hu] at m2 HN HB'
                clear hd hz hu HX HB h48 h57 hM h46 h8
                by_cases hb : 0 ≤ b
                · rw [if_pos hb] at HN
                  have t7 : decide ((0 : Int) ≤ b) = true := decide_eq_true hb
                  have hbn : decide (b < 0) = false := decide_eq_false (by omega)
                  have hb7 : b < 8 := of_decide_eq_false t6 |> fun h => by omega
                  go_wp2
                  go_round
                  case rel => exact ⟨k + 1, u, b + 1, by omega, by go_num, rfl, rfl, by omega, by omega, HB', HN⟩
                  case measure => simp [intOf] <;> omega
                · rw [if_neg hb] at HN
                  have t7 : decide ((0 : Int) ≤ b) = false := decide_eq_false hb
                  have hbn : decide (b < 0) = true := decide_eq_true (by omega)
                  go_wp2
                  go_round
                  case rel => exact ⟨k + 1, u, b, by omega, by go_num, rfl, rfl, by omega, by omega, HB', HN⟩
                  case measure => simp [intOf] <;> omega
    · obtain rfl : k = s.length := by omega
      have HR0 : readN s = padN (8 - (max b 0).toNat) n := by
        have := HX.out
        rw [List.drop_length, scan] at this
        unfold readN
        rw [← this]; rfl
      obtain ⟨j0, hj0⟩ : ∃ j0 : Nat, max b 0 = (j0 : Int) := ⟨(max b 0).toNat, by omega⟩
      have hj8 : j0 ≤ 8 := by omega
      rw [hj0, Int.toNat_natCast] at HR0
      have HR := Lib.hid HR0
      clear HR0 HX hlt hk hb0 hb8
      go_wp2
      go_loop [4, 7] (fun nv jv => ∃ (j n : Nat), j ≤ 8 ∧ jv = .int .i64 (j : Int) ∧ nv = .int .u64 (n : Int) ∧ Hid (n ≤ 10 * maxM + 9) ∧ Hid (readN s = padN (8 - j) n)) (fun _ jv => 8 - (intOf jv).toNat)
      case atStart => exact ⟨j0, n, hj8, rfl, rfl, HB, HR⟩
      case round =>
        clear HR HB hj8 hj0
        obtain ⟨j, n, hj, rfl, rfl, HB, HR⟩ := hrel
        by_cases hlt : j < 8
        · by_cases hM : maxM < n
          · have t5 : decide ((1125899906842624 : Int) < (n : Int)) = true := by rw [over_int, may_no (by omega)]; rfl
            have HV := Lib.hid (of_read_none (s := s) (by rw [HR.out, show 8 - j = (7 - j) + 1 by omega, padN, if_pos hM]))
            clear HR HB hM
            go_wp2
            go_ret2
            exact ⟨by rw [HV.out.1, HV.out.2]; rfl, Below.refl _ _⟩
          · have t5 : decide ((1125899906842624 : Int) < (n : Int)) = false := by rw [over_int, may_yes (by omega)]; rfl
            have m1 := wrap_ten (n := n) (by omega)
            have HN : Hid (readN s = padN (8 - (j + 1)) (10 * n)) := by show _ = _; rw [HR.out, show 8 - j = (8 - (j + 1)) + 1 by omega, padN, if_neg hM]
            have HB' : Hid (10 * n ≤ 10 * maxM + 9) := by show _ ≤ _; omega
            obtain ⟨z, hz⟩ : ∃ z, 10 * n = z := ⟨_, rfl⟩
            rw [hz] at m1 HN HB'
            clear hz HR HB hM
            go_wp2
            go_round
            case rel => exact ⟨j + 1, z, by omega, by go_num, rfl, HB', HN⟩
            case measure => simp [intOf] <;> omega
        · obtain rfl : j = 8 := by omega
          have HV0 := of_read (s := s) (n := n) (by rw [HR.out]; rfl)
          clear HR HB hlt hj
          by_cases hok : n ≤ maxM
          · have HE := Lib.hid (text_yes hok)
            by_cases ht : moneyT n = s
            · have HV : Hid (ofV s = n ∧ ofE s = 0) := by rw [show ofOk s n = true from decide_eq_true ⟨hok, ht⟩] at HV0; exact HV0
              clear hok HV0
              go_wp2_with (go_at_call 17; (refine (rtext_any _ n).mono ?_; rintro e w2 ⟨rfl, hb2⟩; rw [HE.out.1, HE.out.2, ht]; have Hb2 := Lib.hid hb2; clear hb2))
              go_ret2
              exact ⟨by rw [HV.out.1, HV.out.2]; rfl, Hb2.out⟩
            · have HV : Hid (ofV s = 0 ∧ ofE s = 4) := by rw [show ofOk s n = false from decide_eq_false (fun ⟨_, h2⟩ => ht h2)] at HV0; exact HV0
              obtain ⟨t, htt⟩ : ∃ t, moneyT n = t := ⟨_, rfl⟩
              have hne : ¬ Str t = Str s := fun e => ht (by rw [htt]; exact Str_inj e)
              have hne2 : (t == s) = false := by rw [beq_eq_false_iff_ne, ← htt]; exact ht
              have HTT := Lib.hid htt
              clear hok ht htt HV0
              go_wp2_with (go_at_call 17; (refine (rtext_any _ n).mono ?_; rintro e w2 ⟨rfl, hb2⟩; rw [HE.out.1, HE.out.2, HTT.out]; have Hb2 := Lib.hid hb2; clear hb2))
              go_ret2
              exact ⟨by rw [HV.out.1, HV.out.2]; rfl, Hb2.out⟩
          · have HE := Lib.hid (text_no hok)
            have HV : Hid (ofV s = 0 ∧ ofE s = 4) := by rw [show ofOk s n = false from decide_eq_false (fun ⟨h1, _⟩ => hok h1)] at HV0; exact HV0
            clear hok HV0
            go_wp2_with (go_at_call 17; (refine (rtext_any _ n).mono ?_; rintro e w2 ⟨rfl, hb2⟩; rw [HE.out.1, HE.out.2]; have Hb2 := Lib.hid hb2; clear hb2))
            go_ret2
            exact ⟨by rw [HV.out.1, HV.out.2]; rfl, Hb2.out⟩
end Go.Proofs.YtipjhjgjomfflaaDoor
