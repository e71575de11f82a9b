/-
  money: the texts of amounts, of the document.
-/
import Derived.Test.YtipjhjgjomfflaaDoorMo7
namespace Go.Proofs.YtipjhjgjomfflaaDoor
open Go.RowKit Go.Sort

/-- Noughts ahead of the rest's digits. -/
theorem pad8_dec {r : Nat} (h : r < 100000000) : List.replicate (8 - (dec r).length) 48 ++ dec r = pad8 r := by
  have hn : (dec r).length = Lib.nDigits r := Lib.decDigits_length r
  have hle : Lib.nDigits r ≤ 8 := by
    rcases Nat.lt_or_ge 8 (Lib.nDigits r) with h8 | h8
    · exfalso
      have hk : ∀ k u : Nat, u < 10 ^ (k + 1) → Lib.nDigits u ≤ k + 1 := by
        intro k
        induction k with
        | zero => intro u hu; rw [Lib.nDigits_small (by simpa using hu)]; exact Nat.le_refl _
        | succ k ih =>
          intro u hu
          by_cases h10 : u < 10
          · rw [Lib.nDigits_small h10]; omega
          · rw [Lib.nDigits_big h10]
            have := ih (u / 10) (by rw [Nat.pow_succ] at hu; omega)
            omega
      have := hk 7 r (by simpa using h)
      omega
    · exact h8
  have hp := Lib.lt_pow_nDigits r
  apply List.ext_getElem (by simp [pad8, hn]; omega)
  intro t h1 h2
  simp only [pad8, List.length_map, List.length_range] at h2
  simp only [pad8, List.getElem_map, List.getElem_range]
  rw [List.getElem_append]
  split
  · rename_i hlt
    rw [List.length_replicate, hn] at hlt
    rw [List.getElem_replicate]
    have hz : r / 10 ^ (7 - t) = 0 := Nat.div_eq_of_lt (Nat.lt_of_lt_of_le hp (Nat.pow_le_pow_right (by decide) (by omega)))
    unfold Lib.dg
    rw [hz]; rfl
  · rename_i hge
    rw [List.length_replicate, hn] at hge
    have he : ∀ (j : Nat) (hj : j < (dec r).length), (dec r)[j] = Lib.dg r (Lib.nDigits r - 1 - j) := by
      intro j hj
      have := Lib.decDigits_eq r
      simp only [dec, this, List.getElem_map, List.getElem_range]
    rw [he, List.length_replicate, hn]
    congr 1
    omega
theorem pad8_zero {r : Nat} (h : r < 100000000) (hz : ∀ j : Nat, j < 8 → (pad8 r)[j]? = some 48) : r = 0 := by
  have e : ∀ j : Nat, j < 8 → r / 10 ^ (7 - j) % 10 = 0 := by
    intro j hj
    have h1 := hz j hj
    simp only [pad8, List.getElem?_map, List.getElem?_range hj, Option.map_some, Option.some.injEq] at h1
    have h2 := dg_toNat r (7 - j)
    rw [h1] at h2
    generalize r / 10 ^ (7 - j) = x at *
    have h3 : ((48 : UInt8).toNat : Int) = 48 := rfl
    omega
  have e0 := e 0 (by omega)
  have e1 := e 1 (by omega)
  have e2 := e 2 (by omega)
  have e3 := e 3 (by omega)
  have e4 := e 4 (by omega)
  have e5 := e 5 (by omega)
  have e6 := e 6 (by omega)
  have e7 := e 7 (by omega)
  simp at e0 e1 e2 e3 e4 e5 e6 e7
  omega

theorem txt_join2 (x y : List UInt8) : Str x ++ ⟨#[46]⟩ ++ Str y = Str (x ++ 46 :: y) := by
  apply ByteArray.ext
  simp [Str]

set_option maxHeartbeats 1000000 in
set_option maxRecDepth 100000 in
theorem rtext_any (w : World) (a : Nat) : Calls Tryd.prog 17 #[.int .u64 (a : Int)] w (TextPost a w) := by
  by_cases ha : a ≤ maxM
  · have H1 : decide ((1125899906842624 : Int) < a) = false := by rw [over_int, may_yes ha]; rfl
    have HV := Lib.hid (text_yes ha)
    have e1 := quo_amount ha
    have e2 : (a : Int) % 100000000 = ((a % 100000000 : Nat) : Int) := by omega
    obtain ⟨q, hq⟩ : ∃ q, a / 100000000 = q := ⟨_, rfl⟩
    obtain ⟨r, hr⟩ : ∃ q, a % 100000000 = q := ⟨_, rfl⟩
    have HQ : Hid (q < 18446744073709551616) := by unfold maxM at ha; show _ < _; omega
    have HR : Hid (r < 100000000) := by show _ < _; omega
    have HR64 : Hid (r < 18446744073709551616) := by show _ < _; omega
    have HL : Hid ((dec q).length ≤ 20) := dec_le HQ.out
    rw [hq] at e1
    rw [hr] at e2
    by_cases h0 : r = 0
    · subst h0
      have HM : Hid (moneyT a = dec q) := by show _ = _; rw [money_whole hr, hq]
      clear ha hq hr
      go_enter Tryd.func17, Tryd.ntmps17
      go_wp2_with (go_at_call 24; ((refine (rdec_any _ q HQ.out).mono ?_); rintro e w1 ⟨rfl, hb1⟩; have Hb1 := Lib.hid hb1; clear hb1))
      go_ret2
      exact ⟨by rw [HV.out.1, HV.out.2, HM.out]; rfl, Hb1.out⟩
    · have HM : Hid (moneyT a = dec q ++ 46 :: restT r) := by show _ = _; rw [money_rest (by omega), hq, hr]
      have h1 : ((r : Int) == 0) = false := by rw [beq_eq_false_iff_ne]; omega
      have HP := Lib.hid (pad8_dec HR.out)
      obtain ⟨x, hx⟩ : ∃ x, dec q = x := ⟨_, rfl⟩
      obtain ⟨y, hy⟩ : ∃ y, dec r = y := ⟨_, rfl⟩
      have hl1 := HL.out
      rw [hx] at HM hl1
      rw [hy] at HP
      have HX := Lib.hid hx
      have HY := Lib.hid hy
      clear ha hq hr hx hy
      go_enter Tryd.func17, Tryd.ntmps17
      go_wp2_with (first
        | (go_at_call 24; ((with_reducible refine (rdec_any _ q HQ.out).mono ?_); rintro e w1 ⟨rfl, hb1⟩; rw [HX.out]; have Hb1 := Lib.hid hb1; clear hb1))
        | (go_at_call 24; ((with_reducible refine (rdec_any _ r HR64.out).mono ?_); rintro e w2 ⟨rfl, hb2⟩; rw [HY.out]; have Hb2 := Lib.hid hb2; clear hb2)))
      go_loop [6] (fun sv => ∃ t : List UInt8, sv = .string (Str t) ∧ t.length ≤ 20 ∧ Hid (List.replicate (8 - t.length) 48 ++ t = pad8 r)) (fun sv => 8 - Lib.strSize sv)
      case atStart => exact ⟨y, rfl, by rw [← HY.out]; exact dec_le HR64.out, HP.out⟩
      case round =>
        obtain ⟨t, rfl, ht20, HT⟩ := hrel
        by_cases hlt : t.length < 8
        · have HT' : Hid (List.replicate (8 - (48 :: t).length) 48 ++ (48 :: t) = pad8 r) := by
            have h1 := HT.out
            rw [show 8 - t.length = (8 - (48 :: t).length) + 1 by simp; omega, List.replicate_succ', List.append_assoc] at h1
            exact h1
          have HS : Hid ((⟨#[48]⟩ : ByteArray) ++ Str t = Str (48 :: t)) := by show _ = _; apply ByteArray.ext; simp [Str]
          go_wp2
          go_round
          case rel => exact ⟨48 :: t, by rw [← HS.out], by simp; omega, HT'⟩
          case measure => rw [HS.out]; simp [Lib.strSize] <;> omega
        · have HT' : Hid (t = pad8 r) := by
            have h1 := HT.out
            rw [show 8 - t.length = 0 by omega] at h1
            exact h1
          clear HT
          go_wp2
          have HP8 : Hid ((pad8 r).length = 8) := by show _ = _; simp [pad8]
          have HR0 : Hid (¬ r = 0) := h0
          obtain rfl := HT'.out
          clear hlt ht20 HT'
          go_loop [6] (fun sv => ∃ m : Nat, m < 8 ∧ sv = .string (Str ((pad8 r).take (m + 1))) ∧ Hid (∀ (j : Nat) b, m + 1 ≤ j → (pad8 r)[j]? = some b → b = 48)) (fun sv => Lib.strSize sv)
          case atStart => exact ⟨7, by omega, by rw [List.take_of_length_le (by rw [HP8.out]; omega)], fun j b hj hb => by rw [List.getElem?_eq_none (by rw [HP8.out]; omega)] at hb; cases hb⟩
          case round =>
            obtain ⟨m, hm, rfl, HJ⟩ := hrel
            obtain ⟨t, ht⟩ : ∃ t, (pad8 r).take (m + 1) = t := ⟨_, rfl⟩
            have htl : t.length = m + 1 := by rw [← ht, List.length_take, HP8.out]; omega
            obtain ⟨b, hb⟩ : ∃ b, (pad8 r)[m]? = some b := ⟨(pad8 r)[m]'(by rw [HP8.out]; omega), List.getElem?_eq_getElem _⟩
            have htb : t[m]'(by omega) = b := by
              have : t[m]? = some b := by rw [← ht, List.getElem?_take, if_pos (by omega), hb]
              rw [List.getElem?_eq_getElem (by omega)] at this
              exact Option.some.inj this
            have q1 : ∀ wq, (Instr.index 9 (.string (Str t)) (.int .i64 (m : Int))).run Tryd.prog wq = .ok (.int .u8 (b.toNat : Int)) wq := fun wq => by
              rw [run_index_string _ _ _ _ _ Tryd.underlying9, dif_pos ⟨by omega, by simp [htl]; omega⟩]
              congr 3
              rw [← htb]
              rfl
            have hx : (Str t).extract 0 m = Str ((pad8 r).take m) := by
              rw [Lib.extract_upto, ← ht]
              simp [Str, List.take_take]
            have HB := Lib.hid hb
            have HT := Lib.hid ht
            rw [ht]
            clear ht hb htb
            by_cases h48 : b = 48
            · subst h48
              have HM : Hid (1 ≤ m ∧ ∀ (j : Nat) b, m ≤ j → (pad8 r)[j]? = some b → b = 48) := by
                have hall : ∀ (j : Nat) b, m ≤ j → (pad8 r)[j]? = some b → b = 48 := fun j b hj hb => by
                  by_cases e : j = m
                  · subst e; rw [HB.out] at hb; exact (Option.some.inj hb).symm
                  · exact HJ.out j b (by omega) hb
                refine ⟨?_, hall⟩
                rcases Nat.eq_zero_or_pos m with e | e
                · exfalso
                  subst e
                  refine HR0.out (pad8_zero HR.out fun j hj => ?_)
                  have hg : (pad8 r)[j]? = some ((pad8 r)[j]'(by rw [HP8.out]; exact hj)) := List.getElem?_eq_getElem _
                  rw [hg, hall j _ (Nat.zero_le _) hg]
                · exact e
              have hm1 := HM.out.1
              go_wp2
              go_round
              case rel => exact ⟨m - 1, by omega, by rw [show m - 1 + 1 = m by omega], fun j b hj hb => HM.out.2 j b (by omega) hb⟩
              case measure => simp only [Lib.strSize, Str_size, htl, List.length_take, HP8.out]; omega
            · have hne : ((b.toNat : Int) == 48) = false := by
                rw [beq_eq_false_iff_ne]; intro e; apply h48
                exact UInt8.toNat_inj.1 (by have : ((48 : UInt8).toNat : Int) = 48 := rfl; omega)
              have HE : Hid (restT r = t) := by
                show _ = _
                unfold restT
                rw [Lib.trimRightB_take (pad8 r) 48 (m + 1) (by rw [HP8.out]; omega) HJ.out (fun b' _ hb' => by
                  rw [Nat.add_sub_cancel, HB.out] at hb'
                  rw [← Option.some.inj hb']; exact h48), HT.out]
              go_wp2
              go_ret2
              exact ⟨by rw [HV.out.1, HV.out.2, HM.out, HE.out, ← txt_join2]; rfl, nxTo Hb1.out Hb2.out⟩
  · have H1 : decide ((1125899906842624 : Int) < a) = true := by rw [over_int, may_no ha]; rfl
    have HV := Lib.hid (text_no ha)
    clear ha
    go_enter Tryd.func17, Tryd.ntmps17
    go_wp2
    go_ret2
    exact ⟨by rw [HV.out.1, HV.out.2]; rfl, Below.refl _ _⟩
end Go.Proofs.YtipjhjgjomfflaaDoor
