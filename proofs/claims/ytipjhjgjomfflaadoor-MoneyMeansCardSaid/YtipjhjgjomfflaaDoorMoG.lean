/-
  MoneyMeans, the walk.
-/
import Derived.Test.YtipjhjgjomfflaaDoorMoF
import Derived.Test.YtipjhjgjomfflaaDoorMoA
namespace Go.Proofs.YtipjhjgjomfflaaDoor
open Go.RowKit Go.Sort

set_option maxHeartbeats 8000000 in
set_option maxRecDepth 100000 in
theorem means_any (w : World) (hT : Tb w) (A : Option Addr) (n cp : Nat) (l : List Nat) (hn : n = l.length) (hS : SeesV w w.heap.size A (Ns l)) (hcp : n ≤ cp) (hcm : cp ≤ maxLen) (a b c : Nat) (hc64 : c < 18446744073709551616) :
    Calls Tryd.prog 5 #[.slice A n cp, .int .u64 (a : Int), .int .u64 (b : Int), .int .u64 (c : Int)] w (KnownPost w) := by
  subst hn
  have HT := Lib.hid hT
  have HS := Lib.hid hS
  obtain ⟨A1, hs1, q1⟩ := slice_low hS hcp hcm (l.length / 2) (by omega)
  obtain ⟨A2, hs2, q2⟩ := slice_high hS hcp hcm (l.length / 2) (by omega)
  have HS1 := Lib.hid hs1
  have HS2 := Lib.hid hs2
  have Q1 := Lib.hid q1
  have Q2 := Lib.hid q2
  have HC64 := Lib.hid hc64
  have HCm := Lib.hid hcm
  clear hT hS hs1 hs2 q1 q2 hcm hc64
  obtain ⟨i0, hi, hz0, hz1, hz2⟩ := info_parts Tryd.u64info
  by_cases hlen : 200 < l.length
  · go_enter Tryd.func5, Tryd.ntmps5
    go_wp2_with (go_at_call 6; ((refine (known_any _ HT.out).mono ?_); rintro e w1 ⟨rfl, hb1⟩; have Hb1 := Lib.hid hb1; clear hb1))
    go_ret
    exact ⟨rfl, Hb1.out⟩
  · go_enter Tryd.func5, Tryd.ntmps5
    go_upto_block 0 with (go_at_call 6; ((refine (known_any _ HT.out).mono ?_); rintro e w1 ⟨rfl, hb1⟩; have Hb1 := Lib.hid hb1; clear hb1))
    go_cut [9] (fun bv wx => ∃ (A3 : Option Addr) (c3 : Nat), bv = .slice A3 l.length c3 ∧ Hid (SeesV wx wx.heap.size A3 (Ns l.reverse)) ∧ Hid (Below w.heap.size w wx))
    case first =>
      as_aux_lemma =>
        go_wp2_with fail
        go_loopw [9, 10] (fun bv iv wr => ∃ (m : Nat) (A3 : Option Addr) (c3 : Nat), m ≤ l.length ∧ iv = .int .i64 ((m : Int) - 1) ∧ bv = .slice A3 (l.length - m) c3 ∧ Hid (wr.ownsRow w.heap.size 23 1 (.slice A3 (l.length - m) c3) (l.length - m) (Ns (l.drop m).reverse)) ∧ Hid (Below w.heap.size w wr)) (fun _ iv _ => (intOf iv + 1).toNat)
        case atStart => exact ⟨l.length, none, 0, Nat.le_refl _, rfl, by rw [Nat.sub_self], by rw [Nat.sub_self, List.drop_length]; exact World.ownsRow_nil _ _ _ _, Hb1⟩
        case round =>
          obtain ⟨m, A3, c3, hm, rfl, rfl, HO, HB⟩ := hrel
          rcases Nat.eq_zero_or_pos m with rfl | hm0
          · have HSv : Hid (SeesV wr wr.heap.size A3 (Ns l.reverse)) := by have := SeesV.own HO.out; rw [List.drop_zero] at this; exact this
            go_wp2_with fail
            go_meet
            exact ⟨A3, c3, rfl, HSv, HB⟩
          · obtain ⟨j, rfl⟩ : ∃ j, m = j + 1 := ⟨m - 1, by omega⟩
            rw [show (((j + 1 : Nat) : Int) - 1) = (j : Int) by omega]
            obtain ⟨bb, off, rfl, hbb, hr⟩ := (HS.out.below HB.out).at_ (k := j) (by rw [Ns_length]; omega)
            have hc := hr j (by rw [Ns_length]; omega)
            rw [Ns_get] at hc
            obtain ⟨x, hx⟩ : ∃ x, l[j]'(by omega) = x := ⟨_, rfl⟩
            rw [hx] at hc
            have HD : Hid (Ns (l.drop j).reverse = Ns (l.drop (j + 1)).reverse ++ Ns [x]) := by show _ = _; rw [← Ns_append, List.drop_eq_getElem_cons (show j < l.length by omega), hx, List.reverse_cons]
            have HL : Hid (l.length - (j + 1) + 1 = l.length - j) := by show _ = _; omega
            have hsx : SeesV (wr.alloc (.cells #[.int .u64 (x : Int)] 23)) (wr.heap.size + 1) (some ⟨wr.heap.size, 0, none⟩) (Ns [x]) := by
              have h : Blk (wr.alloc (.cells #[.int .u64 (x : Int)] 23)) wr.heap.size 23 #[.int .u64 (x : Int)] := heap_alloc_new wr _
              have := SeesV.blk h
              simpa [Ns] using this
            have HSx := Lib.hid hsx
            obtain ⟨z, hz⟩ : ∃ z, l.length - (j + 1) = z := ⟨_, rfl⟩
            rw [hz] at HO HL ⊢
            have HZ : Hid (z ≤ 200) := by show _ ≤ _; omega
            clear hr hx hsx hz
            go_wp2_with ((with_reducible show wpList _ _ _ (⟨some 53, _, _, _, _, _⟩ :: _) _ _); refine wpList_append_seesV rfl (.tmp 47) (.tmp 52) 22 rfl w.heap.size 23 i0 (.int .u64 0) 1 8 Tryd.underlying22 hi hz0 hz1 hz2 rfl (by decide) (.slice A3 z c3) z (Ns (l.drop (j + 1)).reverse) rfl (own_below HO.out (nxAlloc (nxRefl wr) _) (fun g e => (own_lt HO.out g e).2)) (wr.heap.size + 1) (some ⟨wr.heap.size, 0, none⟩) 1 1 (Ns [x]) rfl rfl HSx.out (Ns_one _) (by have := HZ.out; omega) (by have := HZ.out; omega) (by have := HB.out.size; simp; omega) ?_; intro v' w2 hown hgr hat; obtain ⟨A4, c4, rfl⟩ := own_form hown; have HO2 : Hid (w2.ownsRow w.heap.size 23 1 (.slice A4 (l.length - j) c4) (l.length - j) (Ns (l.drop j).reverse)) := (by show World.ownsRow _ _ _ _ _ _ _; rw [HD.out, ← HL.out]; exact hown); have HB2 : Hid (Below w.heap.size w w2) := (nxAlloc HB.out _).grown hgr (by have := HB.out.size; simp; omega) (fun k hk => (own_lt HO.out k hk).1); rw [HL.out]; clear hown hgr hat)
            go_roundw
            case rel => exact ⟨j, A4, c4, by omega, rfl, rfl, HO2, HB2⟩
            case measure => simp [intOf] <;> omega
    case rest =>
      obtain ⟨A3, c3, rfl, HS3, HB⟩ := hcut
      rename_i wx
      obtain ⟨h, hh⟩ : ∃ h, l.length / 2 = h := ⟨_, rfl⟩
      have hh2 : (l.length : Int) / 2 = (h : Int) := by omega
      have hle : h ≤ l.length := by omega
      have q1 := Q1.out
      have q2 := Q2.out
      have HS1' := HS1.out
      have HS2' := HS2.out
      rw [hh] at q1 q2 HS1' HS2'
      have HSa := Lib.hid (HS.out.below HB.out)
      have HSb := Lib.hid (HS1'.below HB.out)
      have HSc := Lib.hid (HS2'.below HB.out)
      have HP := Lib.hid (sum_parts l h)
      have HNo := Lib.hid (sum_none l h)
      obtain ⟨v0, hv0⟩ : ∃ v, sumV l = v := ⟨_, rfl⟩
      obtain ⟨e0, he0⟩ : ∃ v, sumE l = v := ⟨_, rfl⟩
      obtain ⟨x, hx⟩ : ∃ v, sumV (l.take h) = v := ⟨_, rfl⟩
      obtain ⟨e1, he1⟩ : ∃ v, sumE (l.take h) = v := ⟨_, rfl⟩
      obtain ⟨y, hy⟩ : ∃ v, sumV (l.drop h) = v := ⟨_, rfl⟩
      obtain ⟨e2, he2⟩ : ∃ v, sumE (l.drop h) = v := ⟨_, rfl⟩
      rw [hx, hy, he1, he2, hv0] at HP
      rw [hx, hy, he1, he2] at HNo
      obtain ⟨z, hz⟩ : ∃ v, sumV [x, y] = v := ⟨_, rfl⟩
      obtain ⟨e3, he3⟩ : ∃ v, sumE [x, y] = v := ⟨_, rfl⟩
      rw [hz, he3] at HP
      rw [he3] at HNo
      have b1 := sumE_le (l.take h)
      have b2 := sumE_le (l.drop h)
      have b3 := sumE_le [x, y]
      rw [he1] at b1
      rw [he2] at b2
      rw [he3] at b3
      obtain ⟨p1, p1'⟩ := b1
      obtain ⟨p2, p2'⟩ := b2
      obtain ⟨p3, p3'⟩ := b3
      have H0 : Hid (sumV l = v0 ∧ sumE l = e0) := ⟨hv0, he0⟩
      have H0r : Hid (sumV l.reverse = v0 ∧ sumE l.reverse = e0) := by rw [(sum_rev l).1, (sum_rev l).2]; exact ⟨hv0, he0⟩
      have H1 : Hid (sumV (l.take h) = x ∧ sumE (l.take h) = e1) := ⟨hx, he1⟩
      have H2 : Hid (sumV (l.drop h) = y ∧ sumE (l.drop h) = e2) := ⟨hy, he2⟩
      have H3 : Hid (sumV [x, y] = z ∧ sumE [x, y] = e3) := ⟨hz, he3⟩
      have HE0 : Hid ((l.sum ≤ maxM ∧ e0 = 0) ∨ (¬ l.sum ≤ maxM ∧ e0 = 5)) := by
        rw [← he0]; unfold sumE
        by_cases hs : l.sum ≤ maxM
        · exact .inl ⟨hs, by rw [if_pos hs]⟩
        · exact .inr ⟨hs, by rw [if_neg hs]⟩
      have HTx := Lib.hid (HT.out.later HB.out)
      have HL1 : Hid (h = (l.take h).length) := by show _ = _; rw [List.length_take]; omega
      have HL2 : Hid (l.length - h = (l.drop h).length) := by show _ = _; rw [List.length_drop]
      have HL3 : Hid (l.length = l.reverse.length) := by show _ = _; rw [List.length_reverse]
      clear hh hv0 he0 hx he1 hy he2 hz he3 HS1' HS2' Q1 Q2 HS1 HS2 HS
      go_upto_region 18 with (first
        | (go_at_call 7; ((with_reducible refine (sum_any _ _ A l.length cp l rfl HSa.out (by omega)).mono ?_); rw [H0.out.1, H0.out.2]; rintro e w' ⟨rfl, rfl⟩))
        | (go_at_call 7; ((with_reducible refine (sum_any _ _ A3 l.length c3 l.reverse HL3.out HS3.out (by omega)).mono ?_); rw [H0r.out.1, H0r.out.2]; rintro e w' ⟨rfl, rfl⟩))
        | (go_at_call 7; ((with_reducible refine (sum_any _ _ A1 h cp (l.take h) HL1.out HSb.out (by omega)).mono ?_); rw [H1.out.1, H1.out.2]; rintro e w' ⟨rfl, rfl⟩))
        | (go_at_call 7; ((with_reducible refine (sum_any _ _ A2 (l.length - h) (cp - h) (l.drop h) HL2.out HSc.out (by omega)).mono ?_); rw [H2.out.1, H2.out.2]; rintro e w' ⟨rfl, rfl⟩))
        | (go_at_call 9; ((with_reducible refine (add_any _ x y).mono ?_); rw [H3.out.1, H3.out.2]; rintro e w2 ⟨rfl, hb2⟩; have HB2 : Hid (Below w.heap.size w w2) := (nxTo HB.out hb2); clear hb2))
        | (go_at_call 14; ((refine (num_any _ _).mono ?_); rintro e w' ⟨rfl, rfl⟩)))
      go_cut [119] (fun s119 wx => s119 = .bool false ∧ wx = w2)
      case first =>
        as_aux_lemma =>
          rcases HE0.out with ⟨hs, rfl⟩ | ⟨hs, rfl⟩
          · obtain ⟨rfl, rfl, rfl, rfl⟩ := HP.out hs
            clear hs
            go_wp2_with (go_at_call 14; ((refine (num_any _ _).mono ?_); rintro e w' ⟨rfl, rfl⟩))
            go_meet
            exact ⟨rfl, rfl⟩
          · have hne := HNo.out hs
            have hne2 : (e1 + e2 + e3 == 0) = false := beq_eq_false_iff_ne.2 hne
            clear hs
            go_wp2_with (go_at_call 14; ((refine (num_any _ _).mono ?_); rintro e w' ⟨rfl, rfl⟩))
            go_meet
            exact ⟨rfl, rfl⟩
      case rest =>
        obtain ⟨rfl, rfl⟩ := hcut
        clear H0 H0r H1 H2 H3 HE0 HP HNo HL1 HL2 HL3 HSa HSb HSc p1 p1' p2 p2' p3 p3' q1 q2 hh2 hle HS3 HTx
        obtain ⟨s4, hs4⟩ : ∃ v, sumV [a, b] = v := ⟨_, rfl⟩
        obtain ⟨e4, he4⟩ : ∃ v, sumE [a, b] = v := ⟨_, rfl⟩
        have H4 : Hid (sumV [a, b] = s4 ∧ sumE [a, b] = e4) := ⟨hs4, he4⟩
        clear hs4 he4
        go_upto_if 128 with (first
          | (go_at_call 9; ((with_reducible refine (add_any _ a b).mono ?_); rw [H4.out.1, H4.out.2]; rintro e w3 ⟨rfl, hb3⟩; have HB3 : Hid (Below w.heap.size w w3) := (nxTo HB2.out hb3); clear hb3))
          | (go_at_call 14; ((refine (num_any _ _).mono ?_); rintro e w' ⟨rfl, rfl⟩)))
        go_cut [24] (fun _ wx => wx = w3)
        case first =>
          as_aux_lemma =>
            by_cases hab : a + b ≤ maxM
            · have HK := Lib.hid (add_back hab)
              obtain rfl : s4 = a + b := H4.out.1.symm.trans HK.out.1
              obtain rfl : e4 = 0 := H4.out.2.symm.trans HK.out.2.1
              have HSub : Hid (∀ wq, Calls Tryd.prog 10 #[.int .u64 ((a : Int) + (b : Int)), .int .u64 (b : Int)] wq fun e w' => e = .returned (.tuple #[.int .u64 (a : Int), .int .i64 0]) ∧ wq = w') := fun wq => by
                have := sub_any wq (a + b) b
                rw [HK.out.2.2.1, HK.out.2.2.2, Int.natCast_add] at this
                exact this
              clear hab H4 HK
              go_wp2_with (first
                | (go_at_call 10; (refine (HSub.out _).mono ?_; rintro e w' ⟨rfl, rfl⟩))
                | (go_at_call 14; ((refine (num_any _ _).mono ?_); rintro e w' ⟨rfl, rfl⟩)))
              go_meet
              exact rfl
            · obtain rfl : e4 = 5 := H4.out.2.symm.trans (add_off hab)
              clear hab H4
              go_wp2_with (go_at_call 14; ((refine (num_any _ _).mono ?_); rintro e w' ⟨rfl, rfl⟩))
              go_meet
              exact rfl
        case rest =>
          obtain rfl := hcut
          clear H4
          obtain ⟨p5, hp5⟩ : ∃ v, shareV a b c = v := ⟨_, rfl⟩
          obtain ⟨e5, he5⟩ : ∃ v, shareE a b c = v := ⟨_, rfl⟩
          have H5 : Hid (shareV a b c = p5 ∧ shareE a b c = e5) := ⟨hp5, he5⟩
          clear hp5 he5
          go_upto_if 152 with (first
            | (go_at_call 12; ((with_reducible refine (share_any _ a b c).mono ?_); rintro e w5 ⟨rfl, n5, hw5⟩; rw [H5.out.1, H5.out.2]; have HB5 : Hid (Below w.heap.size w w5) := (by rw [hw5]; exact nxDrewN HB3.out n5); clear hw5))
            | (go_at_call 14; ((refine (num_any _ _).mono ?_); rintro e w' ⟨rfl, rfl⟩)))
          go_cut [28] (fun _ wx => Hid (Below w.heap.size w wx))
          case first =>
            as_aux_lemma =>
              by_cases hok : a ≤ maxM ∧ c ≤ maxM ∧ b ≤ c ∧ ¬ c = 0
              · obtain ⟨h1, h2, h3, h4⟩ := hok
                have K1 := share_in h1 h2 h3 h4
                have K2 := share_in (b := c - b) h1 h2 (by omega) h4
                obtain rfl : p5 = a * b / c := H5.out.1.symm.trans K1.1
                obtain rfl : e5 = 0 := H5.out.2.symm.trans K1.2
                have K3 := share_rest a b c (by omega) h3
                have hpa : b = c → a * b / c = a := fun e => by subst e; exact Nat.mul_div_cancel a (by omega)
                have hp0 : b = 0 → a * b / c = 0 := fun e => by subst e; simp
                have hw0 : IntKind.u64.wrap ((c : Int) - (b : Int)) = ((c - b : Nat) : Int) := by have := HC64.out; rw [IntKind.wrap_u64]; omega
                obtain ⟨d, hd⟩ : ∃ d, c - b = d := ⟨_, rfl⟩
                rw [hd] at K2 K3 hw0
                have HSh : Hid (∀ wq, Calls Tryd.prog 12 #[.int .u64 (a : Int), .int .u64 (d : Int), .int .u64 (c : Int)] wq fun e w' => e = .returned (.tuple #[.int .u64 ((a * d / c : Nat) : Int), .int .i64 0]) ∧ ∃ n, w' = wq.drewN n) := fun wq => by
                  have := share_any wq a d c
                  unfold SharePost at this
                  rw [K2.1, K2.2] at this
                  exact this
                clear K1 K2 H5 hd
                generalize a * b / c = p at *
                generalize a * d / c = q at *
                obtain ⟨k1, k2⟩ := K3
                have hw1 : IntKind.u64.wrap ((p : Int) + (q : Int)) = ((p + q : Nat) : Int) := by unfold maxM at h1; rw [IntKind.wrap_u64]; omega
                have hw2 : IntKind.u64.wrap (((p + q : Nat) : Int) + 1) = ((p + q + 1 : Nat) : Int) := by unfold maxM at h1; rw [IntKind.wrap_u64]; omega
                obtain ⟨u, hu⟩ : ∃ u, p + q = u := ⟨_, rfl⟩
                rw [hu] at hw1 hw2 k1 k2
                obtain ⟨u1, hu1⟩ : ∃ v, u + 1 = v := ⟨_, rfl⟩
                rw [hu1] at hw2 k2
                have k1' : decide (a < u) = false := decide_eq_false (by omega)
                have k2' : decide (u1 < a) = false := decide_eq_false (by omega)
                by_cases hbc : b = c
                · have hbc1 : ((b : Int) == (c : Int)) = true := by rw [beq_iff_eq]; omega
                  have hbc2 : (b == c) = true := by rw [beq_iff_eq]; exact hbc
                  have h4' : ((b : Int) == 0) = false := by rw [beq_eq_false_iff_ne]; omega
                  obtain rfl := hpa hbc
                  clear hbc h4
                  clear hpa hp0 h1 h2 h3 hu hu1 k1 k2
                  as_aux_lemma =>
                    go_wp2_with (first | (go_at_call 12; (refine (HSh.out _).mono ?_; rintro e w6 ⟨rfl, n6, hw6⟩; have HB6 : Hid (Below w.heap.size w w6) := (by rw [hw6]; exact nxDrewN HB5.out n6); clear hw6)) | (go_at_call 14; ((refine (num_any _ _).mono ?_); rintro e w' ⟨rfl, rfl⟩)))
                    go_meet
                    exact HB6
                · have hbc1 : ((b : Int) == (c : Int)) = false := by rw [beq_eq_false_iff_ne]; omega
                  have hbc2 : (b == c) = false := by rw [beq_eq_false_iff_ne]; exact hbc
                  by_cases hb0 : b = 0
                  · have hb1 : ((b : Int) == 0) = true := by rw [beq_iff_eq]; omega
                    have hp1 : ((p : Int) == 0) = true := by rw [beq_iff_eq]; have := hp0 hb0; omega
                    clear hb0 hbc h4
                    clear hpa hp0 h1 h2 h3 hu hu1 k1 k2
                    as_aux_lemma =>
                      go_wp2_with (first | (go_at_call 12; (refine (HSh.out _).mono ?_; rintro e w6 ⟨rfl, n6, hw6⟩; have HB6 : Hid (Below w.heap.size w w6) := (by rw [hw6]; exact nxDrewN HB5.out n6); clear hw6)) | (go_at_call 14; ((refine (num_any _ _).mono ?_); rintro e w' ⟨rfl, rfl⟩)))
                      go_meet
                      exact HB6
                  · have hb1 : ((b : Int) == 0) = false := by rw [beq_eq_false_iff_ne]; omega
                    clear hb0 hbc h4
                    clear hpa hp0 h1 h2 h3 hu hu1 k1 k2
                    as_aux_lemma =>
                      go_wp2_with (first | (go_at_call 12; (refine (HSh.out _).mono ?_; rintro e w6 ⟨rfl, n6, hw6⟩; have HB6 : Hid (Below w.heap.size w w6) := (by rw [hw6]; exact nxDrewN HB5.out n6); clear hw6)) | (go_at_call 14; ((refine (num_any _ _).mono ?_); rintro e w' ⟨rfl, rfl⟩)))
                      go_meet
                      exact HB6
              · have he : (e5 == 0) = false := by
                  rw [← H5.out.2]
                  rcases share_off hok with e | e <;> rw [e] <;> rfl
                clear hok H5
                go_wp2_with (go_at_call 14; ((refine (num_any _ _).mono ?_); rintro e w' ⟨rfl, rfl⟩))
                go_meet
                exact HB5
          case rest =>
            have HB7 := hcut
            rename_i w7
            clear HB2 HB3 HB5 H5
            have HT7 := Lib.hid (HT.out.later HB7.out)
            clear hcut
            clear HB
            by_cases ha : a ≤ maxM
            · have HA := Lib.hid (text_yes ha)
              have HO := Lib.hid (of_text ha)
              have HOf : Hid ((moneyT a).length ≤ 3000) := money_len ha
              obtain ⟨t, ht⟩ : ∃ t, moneyT a = t := ⟨_, rfl⟩
              rw [ht] at HA HO HOf
              by_cases hb : b ≤ maxM
              · have HBt := Lib.hid (text_yes hb)
                obtain ⟨t2, ht2⟩ : ∃ t, moneyT b = t := ⟨_, rfl⟩
                rw [ht2] at HBt
                by_cases hab : a = b
                · have e1 : ((a : Int) == (b : Int)) = true := by rw [beq_iff_eq]; omega
                  have e2 : (a == b) = true := by rw [beq_iff_eq]; exact hab
                  obtain rfl : t = t2 := by rw [← ht, ← ht2, hab]
                  clear ha hb hab ht ht2
                  as_aux_lemma =>
                    go_wp2_with (first | (go_at_call 16; ((with_reducible refine (text_any _ HT7.out a).mono ?_); rintro e w8 ⟨rfl, hb8⟩; rw [HA.out.1, HA.out.2]; have HB8 : Hid (Below w.heap.size w w8) := (nxTo HB7.out hb8); clear hb8)) | (go_at_call 16; ((with_reducible refine (text_any _ (HT.out.later HB8.out) b).mono ?_); rintro e w9 ⟨rfl, hb9⟩; rw [HBt.out.1, HBt.out.2]; have HB9 : Hid (Below w.heap.size w w9) := (nxTo HB8.out hb9); clear hb9)) | (go_at_call 18; ((with_reducible refine (of_any _ (HT.out.later HB9.out) t HOf.out).mono ?_); rintro e wx ⟨rfl, hbx⟩; rw [HO.out.1, HO.out.2]; have HBx := Lib.hid hbx; clear hbx)) | (go_at_call 14; ((refine (num_any _ _).mono ?_); rintro e w' ⟨rfl, rfl⟩)))
                    go_ret
                    exact ⟨rfl, nxTo HB9.out HBx.out⟩
                · have e1 : ((a : Int) == (b : Int)) = false := by rw [beq_eq_false_iff_ne]; omega
                  have e2 : (a == b) = false := by rw [beq_eq_false_iff_ne]; exact hab
                  have hne2 : (t == t2) = false := by rw [beq_eq_false_iff_ne]; exact fun e => hab (money_inj ha hb (by rw [ht, ht2, e]))
                  clear ha hb hab ht ht2
                  as_aux_lemma =>
                    go_wp2_with (first | (go_at_call 16; ((with_reducible refine (text_any _ HT7.out a).mono ?_); rintro e w8 ⟨rfl, hb8⟩; rw [HA.out.1, HA.out.2]; have HB8 : Hid (Below w.heap.size w w8) := (nxTo HB7.out hb8); clear hb8)) | (go_at_call 16; ((with_reducible refine (text_any _ (HT.out.later HB8.out) b).mono ?_); rintro e w9 ⟨rfl, hb9⟩; rw [HBt.out.1, HBt.out.2]; have HB9 : Hid (Below w.heap.size w w9) := (nxTo HB8.out hb9); clear hb9)) | (go_at_call 18; ((with_reducible refine (of_any _ (HT.out.later HB9.out) t HOf.out).mono ?_); rintro e wx ⟨rfl, hbx⟩; rw [HO.out.1, HO.out.2]; have HBx := Lib.hid hbx; clear hbx)) | (go_at_call 14; ((refine (num_any _ _).mono ?_); rintro e w' ⟨rfl, rfl⟩)))
                    go_ret
                    exact ⟨rfl, nxTo HB9.out HBx.out⟩
              · have HBt := Lib.hid (text_no hb)
                clear ha hb ht
                as_aux_lemma =>
                  go_wp2_with (first | (go_at_call 16; ((with_reducible refine (text_any _ HT7.out a).mono ?_); rintro e w8 ⟨rfl, hb8⟩; rw [HA.out.1, HA.out.2]; have HB8 : Hid (Below w.heap.size w w8) := (nxTo HB7.out hb8); clear hb8)) | (go_at_call 16; ((with_reducible refine (text_any _ (HT.out.later HB8.out) b).mono ?_); rintro e w9 ⟨rfl, hb9⟩; rw [HBt.out.1, HBt.out.2]; have HB9 : Hid (Below w.heap.size w w9) := (nxTo HB8.out hb9); clear hb9)) | (go_at_call 18; ((with_reducible refine (of_any _ (HT.out.later HB9.out) t HOf.out).mono ?_); rintro e wx ⟨rfl, hbx⟩; rw [HO.out.1, HO.out.2]; have HBx := Lib.hid hbx; clear hbx)) | (go_at_call 14; ((refine (num_any _ _).mono ?_); rintro e w' ⟨rfl, rfl⟩)))
                  go_ret
                  exact ⟨rfl, nxTo HB9.out HBx.out⟩
            · have HA := Lib.hid (text_no ha)
              clear ha
              as_aux_lemma =>
                go_wp2_with (first | (go_at_call 16; ((with_reducible refine (text_any _ HT7.out a).mono ?_); rintro e w8 ⟨rfl, hb8⟩; rw [HA.out.1, HA.out.2]; have HB8 : Hid (Below w.heap.size w w8) := (nxTo HB7.out hb8); clear hb8)) | (go_at_call 16; ((with_reducible refine (text_any _ (HT.out.later HB8.out) b).mono ?_); rintro e w9 ⟨rfl, hb9⟩; have HB9 : Hid (Below w.heap.size w w9) := (nxTo HB8.out hb9); clear hb9)) | (go_at_call 14; ((refine (num_any _ _).mono ?_); rintro e w' ⟨rfl, rfl⟩)))
                go_ret
                exact ⟨rfl, HB9.out⟩
end Go.Proofs.YtipjhjgjomfflaaDoor
