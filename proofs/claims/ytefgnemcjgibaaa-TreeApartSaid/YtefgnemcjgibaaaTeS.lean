/-
  tree: TreeApart.
-/
import Derived.Test.YtefgnemcjgibaaaTeR
namespace Go.Proofs.Ytefgnemcjgibaaa
open Go.RowKit

set_option maxRecDepth 100000 in
set_option maxHeartbeats 8000000 in
theorem treeApart_any (w : World) (A : Option Addr) (l : List Int) (c : Nat) (hS : SeesV w w.heap.size A (l.map (Value.int .i64))) (hw : ∀ z ∈ l, -9223372036854775808 ≤ z ∧ z ≤ 9223372036854775807) (hc : l.length ≤ c) (hcm : c ≤ maxLen) (na nb : Int) : Calls Try.prog 6 #[.slice A l.length c, .int .i64 na, .int .i64 nb] w fun e w' => e = .returned (.bool true) ∧ Below w.heap.size w w' := by
  have hml : l.length ≤ 9223372036854775807 := by unfold maxLen at hcm; omega
  have out : ((30 : Int) < l.length ∨ na < 0 ∨ 70 < na ∨ nb < 0 ∨ 70 < nb) → Calls Try.prog 6 #[.slice A l.length c, .int .i64 na, .int .i64 nb] w fun e w' => e = .returned (.bool true) ∧ Below w.heap.size w w' := by
    intro h
    by_cases h1 : (30 : Int) < l.length
    · clear h hS hw
      go_enter Try.func6, Try.ntmps6
      go_wp2_with (go_at_call 8; refine (te_known _).mono ?_; rintro e w4 ⟨rfl, hb4⟩; have K4 := Lib.hid hb4; clear hb4)
      go_ret
      exact ⟨rfl, K4.out⟩
    by_cases h2 : na < 0
    · clear h hS hw
      go_enter Try.func6, Try.ntmps6
      go_wp2_with (go_at_call 8; refine (te_known _).mono ?_; rintro e w4 ⟨rfl, hb4⟩; have K4 := Lib.hid hb4; clear hb4)
      go_ret
      exact ⟨rfl, K4.out⟩
    by_cases h3 : 70 < na
    · clear h hS hw
      go_enter Try.func6, Try.ntmps6
      go_wp2_with (go_at_call 8; refine (te_known _).mono ?_; rintro e w4 ⟨rfl, hb4⟩; have K4 := Lib.hid hb4; clear hb4)
      go_ret
      exact ⟨rfl, K4.out⟩
    by_cases h4 : nb < 0
    · clear h hS hw
      go_enter Try.func6, Try.ntmps6
      go_wp2_with (go_at_call 8; refine (te_known _).mono ?_; rintro e w4 ⟨rfl, hb4⟩; have K4 := Lib.hid hb4; clear hb4)
      go_ret
      exact ⟨rfl, K4.out⟩
    have h5 : 70 < nb := by omega
    · clear h hS hw
      go_enter Try.func6, Try.ntmps6
      go_wp2_with (go_at_call 8; refine (te_known _).mono ?_; rintro e w4 ⟨rfl, hb4⟩; have K4 := Lib.hid hb4; clear hb4)
      go_ret
      exact ⟨rfl, K4.out⟩
  by_cases h9 : (30 : Int) < l.length ∨ na < 0 ∨ 70 < na ∨ nb < 0 ∨ 70 < nb
  · exact out h9
  clear out
  obtain ⟨a, rfl⟩ : ∃ n : Nat, na = n := ⟨na.toNat, by omega⟩
  obtain ⟨b, rfl⟩ : ∃ n : Nat, nb = n := ⟨nb.toNat, by omega⟩
  have ha : a ≤ 70 := by omega
  have hb : b ≤ 70 := by omega
  have g0 : ¬ (30 : Int) < (l.length : Int) := by omega
  have g1 : ¬ (70 : Int) < (a : Int) := by omega
  have g2 : ¬ (70 : Int) < (b : Int) := by omega
  have hl30 : l.length ≤ 30 := by omega
  have HBg := Lib.hid (te_begin w A l c hS (by omega) hw)
  clear h9 hS hw hml hc hcm
  go_enter Try.func6, Try.ntmps6
  go_wp2_with (first
    | (go_at_call 9; refine HBg.out.mono ?_; rintro e w2 ⟨m, r, rfl, ht2, hl3, hb2⟩; have T2 := Lib.hid ht2; have V2 := Lib.hid hb2; have HCp := Lib.hid (te_copy w2 _ m ht2.t ht2.i); clear ht2 hb2)
    | (go_at_call 26; refine HCp.out.mono ?_; rintro e w3 ⟨mc, rfl, hk3, hi3, ht3, hf3, hb3⟩; have F3 := Lib.hid (four_copy T2.out hk3 hi3 hf3 hb3).1; have D3 := Lib.hid (four_copy T2.out hk3 hi3 hf3 hb3).2; have V3 : Hid (Below w.heap.size w w3) := nxTo V2.out hb3; have E3 := Lib.hid ht3; clear hk3 hi3 ht3 hf3 hb3 HCp))
  have hnn : Hid (mc.L.length = m.L.length) := by show _ = _; rw [← mc.T_len, E3.out, m.T_len]
  obtain ⟨n, hn⟩ : ∃ n, m.L.length = n := ⟨_, rfl⟩
  have HN := Lib.hid hn
  have h00 := T2.out.i.ne
  rw [hn] at hl3 h00 hnn
  clear hn g0 g1 g2 HBg V2 T2
  go_loopw [11] (fun iv wr => ∃ (i : Nat) (m1 : TrM), i ≤ a ∧ iv = .int .i64 i ∧ m1.q = m.q ∧ m1.L.length = n + i ∧ Hid (FourT wr w.heap.size m1 mc) ∧ Hid (RdT wr w.heap.size m1 mc m.T r) ∧ Hid (tpC m1.T = tpC (extT m.T 0 i)) ∧ Hid (Below w.heap.size w wr)) (fun iv _ => a - (intOf iv).toNat)
  case atStart => exact ⟨0, m, by omega, rfl, rfl, HN.out, F3.out, D3.out, by show _ = _; rw [extT_zero], V3.out⟩
  case round =>
    clear F3 D3 V3
    obtain ⟨i, m1, hi, rfl, hq1, hm1, HF, HR, HP, HV⟩ := hrel
    have Hq1 := Lib.hid hq1
    have Hm1 := Lib.hid hm1
    have hT0 : 0 < m.T.length := by rw [m.T_len, HN.out]; exact h00
    have HT0 := Lib.hid hT0
    by_cases hlt : i < a
    · have hin : (i : Int) < (a : Int) := by omega
      have hadd := te_addT wr _ m1 HF.out.t1 HF.out.i1 0 (by omega) (by omega)
      rw [hq1] at hadd
      have HAd : Hid (Calls Try.prog 25 #[.pointer (some ⟨m.q, 0, none⟩), .int .i64 0] wr _) := hadd
      clear hadd hq1 hm1 hT0
      go_wp2_with (go_at_call 25; refine HAd.out.mono ?_; rintro e w5 ⟨rfl, m5, h5⟩; have H5 := Lib.hid h5; clear h5)
      go_roundw
      case rel => exact ⟨i + 1, m5, by omega, by go_num, H5.out.q.trans Hq1.out, by rw [H5.out.len, Hm1.out]; omega, HF.out.grow H5.out, HR.out.grow H5.out, by show _ = _; rw [H5.out.tp HF.out.i1, HP.out, extT_tp HT0.out], TrTo.v HV.out HF.out.t1 H5.out (Nat.le_refl _)⟩
      case measure => simp [intOf] <;> omega
    obtain rfl : i = a := by omega
    clear hlt hi hq1 hm1 hT0
    go_wp2
    go_loopw [12] (fun iv wr => ∃ (j : Nat) (m2 : TrM), j ≤ b ∧ iv = .int .i64 j ∧ m2.q = mc.q ∧ m2.L.length = n + j ∧ Hid (FourT wr w.heap.size m1 m2) ∧ Hid (RdT wr w.heap.size m1 m2 m.T r) ∧ Hid (tpC m2.T = tpC (extT m.T (n - 1) j)) ∧ Hid (Below w.heap.size w wr)) (fun iv _ => b - (intOf iv).toNat)
    case atStart => exact ⟨0, mc, by omega, rfl, rfl, by rw [hnn.out]; rfl, HF.out, HR.out, by show _ = _; rw [extT_zero, E3.out], HV.out⟩
    case round =>
      clear HF HR HV
      obtain ⟨j, m2, hj, rfl, hq2, hm2, HF, HR, HP2, HV⟩ := hrel
      have Hq2 := Lib.hid hq2
      have Hm2 := Lib.hid hm2
      have hcq : wr.cell? ⟨r.q, 0, none⟩ = some (.slice r.A n r.c) := by
        have := HR.out.d.b.cell 0
        rw [m.T_len, HN.out] at this
        exact this
      by_cases hlt : j < b
      · have hjn : (j : Int) < (b : Int) := by omega
        have hadd := te_addT wr _ m2 HF.out.t2 HF.out.i2 (n - 1) (by omega) (by omega)
        rw [hq2, show (((n - 1 : Nat)) : Int) = (n : Int) - 1 by omega] at hadd
        have HAd : Hid (Calls Try.prog 25 #[.pointer (some ⟨mc.q, 0, none⟩), .int .i64 ((n : Int) - 1)] wr _) := hadd
        clear hadd hq2 hm2
        go_wp2_with (go_at_call 25; refine HAd.out.mono ?_; rintro e w5 ⟨rfl, m5, h5⟩; have H5 := Lib.hid h5; clear h5)
        go_roundw
        case rel => exact ⟨j + 1, m5, by omega, by go_num, H5.out.q.trans Hq2.out, by rw [H5.out.len, Hm2.out]; omega, (HF.out.symm.grow H5.out).symm, (HR.out.symm.grow H5.out).symm, by show _ = _; rw [H5.out.tp HF.out.i2, HP2.out, extT_tp HT0.out], TrTo.v HV.out HF.out.t2 H5.out (Nat.le_refl _)⟩
        case measure => simp [intOf] <;> omega
      obtain rfl : j = b := by omega
      clear hlt hj hq2 hm2
      have hbd : ∀ wq : World, (Instr.build 30 #[(0, .slice r.A n r.c)]).run Try.prog wq = .ok (.agg #[.slice r.A n r.c]) wq := fun wq => by kernel_rfl
      go_wp2
      clear hbd
      obtain ⟨w4, hw4⟩ : ∃ x, wr.alloc (.cells #[.slice r.A n r.c] 30) = x := ⟨_, rfl⟩
      have V4 : Hid (Below wr.heap.size wr w4) := by rw [← hw4]; exact nxAlloc (nxRefl wr) _
      have B4 : Hid (Blk w4 wr.heap.size 30 #[.slice r.A m.T.length r.c]) := by rw [← hw4, m.T_len, HN.out]; exact heap_alloc_new wr _
      have R4 : Hid (RdT w4 w.heap.size m1 m2 m.T ⟨wr.heap.size, r.A, r.c⟩) := HR.out.twin HF.out V4.out (Nat.le_refl _) B4.out
      have F4 : Hid (FourT w4 w.heap.size m1 m2) := HF.out.later V4.out
      have R5 : Hid (RdT w4 w.heap.size m1 m2 m.T r) := HR.out.later V4.out
      have N4 : Hid (r.q ≠ wr.heap.size) := by show _ ≠ _; have := HR.out.d.b.lt; omega
      have N5 : Hid (∀ a, r.A = some a → a.block ≠ wr.heap.size) := fun a e => by have := HR.out.d.alt HT0.out e; omega
      have V5 : Hid (Below w.heap.size w w4) := nxTo HV.out V4.out
      obtain ⟨qv, hqv⟩ : ∃ q, wr.heap.size = q := ⟨_, rfl⟩
      rw [hw4, hqv]
      rw [hqv] at R4 N4 N5
      have HX : Hid (∀ a, r.A = some a → a.block ≠ r.q) := HR.out.aq
      clear hw4 hqv V4 B4 hcq HF HR HV
      go_loopw [14] (fun iv wr => ∃ (j : Nat) (r1 : RtM), j ≤ i ∧ iv = .int .i64 j ∧ r1.q = r.q ∧ Hid (FourT wr w.heap.size m1 m2) ∧ Hid (RdT wr w.heap.size m1 m2 (extT m.T 0 j) r1) ∧ Hid (RdT wr w.heap.size m1 m2 m.T ⟨qv, r.A, r.c⟩) ∧ Hid (∀ a, r1.A = some a → a.block ≠ qv) ∧ Hid (Below w.heap.size w wr)) (fun iv _ => i - (intOf iv).toNat)
      case atStart => exact ⟨0, r, by omega, rfl, rfl, F4.out, by show RdT _ _ _ _ _ _; rw [extT_zero]; exact R5.out, R4.out, N5.out, V5.out⟩
      case round =>
        clear F4 R4 R5 V5 N5
        obtain ⟨k, r1, hk, rfl, hrq, HF, HR, HR2, HN5, HV⟩ := hrel
        have Hrq := Lib.hid hrq
        by_cases hlt : k < i
        · have hkn : (k : Int) < (i : Int) := by omega
          have hadd := rt_add wr _ r1 HR.out.d HR.out.aq HR.out.ne (by rw [extT_len, m.T_len, HN.out]; omega) 0 HR.out.ne
          rw [hrq] at hadd
          have HAd : Hid (Calls Try.prog 27 #[.pointer (some ⟨r.q, 0, none⟩), .int .i64 0] wr _) := hadd
          clear hadd hrq
          go_wp2_with (go_at_call 27; refine HAd.out.mono ?_; rintro e w6 ⟨rfl, A6, c6, b6, s6, a6, k6⟩; rw [← Hrq.out] at b6; have k7 : Keeps (fun k => k = r1.q) wr w6 := (by rw [Hrq.out]; exact k6); have X6 := Lib.hid (HR.out.add HF.out b6 s6 a6 k7); have K6 := Lib.hid k6; have A7 := Lib.hid a6; clear b6 s6 a6 k6 k7)
          go_roundw
          case rel =>
            refine ⟨k + 1, ⟨r1.q, A6, c6⟩, by omega, by go_num, Hrq.out, X6.out.1, ?_, HR2.out.other K6.out (fun e => N4.out e.symm) (fun a e => HX.out a e), fun a e => ?_, ?_⟩
            · show RdT _ _ _ _ _ _; rw [extT_succ]; exact X6.out.2
            · have := A7.out a e; have : qv < wr.heap.size := HR2.out.d.b.lt; omega
            · exact HV.out.trans (K6.out.below HV.out.size (fun k hk e => by have := HR.out.qb; rw [Hrq.out] at this; omega))
          case measure => simp [intOf] <;> omega
        obtain rfl : k = i := by omega
        clear hlt hk hrq
        have hcv : wr.cell? ⟨qv, 0, none⟩ = some (.slice r.A n r.c) := by
          have := HR2.out.d.b.cell 0
          rw [m.T_len, HN.out] at this
          exact this
        have hnl : n ≤ 31 := by omega
        go_wp2
        go_loopw [16] (fun iv wr => ∃ (j2 : Nat) (r2 : RtM), j2 ≤ j ∧ iv = .int .i64 j2 ∧ r2.q = qv ∧ Hid (FourT wr w.heap.size m1 m2) ∧ Hid (RdT wr w.heap.size m1 m2 (extT m.T 0 k) r1) ∧ Hid (RdT wr w.heap.size m1 m2 (extT m.T (n - 1) j2) r2) ∧ Hid (Below w.heap.size w wr)) (fun iv _ => j - (intOf iv).toNat)
        case atStart => exact ⟨0, ⟨qv, r.A, r.c⟩, by omega, rfl, rfl, HF.out, HR.out, by show RdT _ _ _ _ _ _; rw [extT_zero]; exact HR2.out, HV.out⟩
        case round =>
          clear HF HR HR2 HV hcv
          obtain ⟨j2, r2, hj2, rfl, hrv, HF, HR, HR2, HV⟩ := hrel
          have Hrv := Lib.hid hrv
          by_cases hlt : j2 < j
          · have hjn : (j2 : Int) < (j : Int) := by omega
            have hadd := rt_add wr _ r2 HR2.out.d HR2.out.aq HR2.out.ne (by rw [extT_len, m.T_len, HN.out]; omega) (n - 1) (by rw [extT_len, m.T_len, HN.out]; omega)
            rw [hrv, show (((n - 1 : Nat)) : Int) = (n : Int) - 1 by omega] at hadd
            have HAd : Hid (Calls Try.prog 27 #[.pointer (some ⟨qv, 0, none⟩), .int .i64 ((n : Int) - 1)] wr _) := hadd
            have HE : Hid ((n : Int) - 1 = ((n - 1 : Nat) : Int)) := by show _ = _; omega
            clear hadd hrv
            go_wp2_with (go_at_call 27; refine HAd.out.mono ?_; rintro e w6 ⟨rfl, A6, c6, b6, s6, a6, k6⟩; rw [← Hrv.out] at b6; rw [HE.out] at s6; have k7 : Keeps (fun k => k = r2.q) wr w6 := (by rw [Hrv.out]; exact k6); have X6 := Lib.hid (HR2.out.add HF.out b6 s6 a6 k7); have K6 := Lib.hid k6; have A7 := Lib.hid a6; clear b6 s6 a6 k6 k7)
            go_roundw
            case rel =>
              refine ⟨j2 + 1, ⟨r2.q, A6, c6⟩, by omega, by go_num, Hrv.out, X6.out.1, HR.out.other K6.out (by rw [Hrq.out]; exact N4.out) (fun a e => HN5.out a e), ?_, ?_⟩
              · show RdT _ _ _ _ _ _; rw [extT_succ]; exact X6.out.2
              · exact HV.out.trans (K6.out.below HV.out.size (fun k hk e => by have := HR2.out.qb; rw [Hrv.out] at this; omega))
            case measure => simp [intOf] <;> omega
          obtain rfl : j2 = j := by omega
          have HT1 := Lib.hid ((HR.out.later (teDr (nxRefl wr))).two (HF.out.later (teDr (nxRefl wr))) HP.out)
          have HT2 := Lib.hid ((HR2.out.symm.later (teDr (nxRefl wr))).two (HF.out.symm.later (teDr (nxRefl wr))) HP2.out)
          have HVd : Hid (Below w.heap.size w wr.drew) := teDr HV.out
          have hl1 := te_len wr.drew _ m1 HT1.out.t HT1.out.i.ne
          have hl2 := te_len wr.drew _ m2 HT2.out.t HT2.out.i.ne
          have hs1 := te_sound wr.drew _ m1 r1 HT1.out
          rw [Hq1.out] at hl1 hs1
          rw [Hq2.out] at hl2
          rw [Hrq.out] at hs1
          rw [Hm1.out] at hl1
          rw [Hm2.out] at hl2
          have hc1 : wr.drew.cell? ⟨r.q, 0, none⟩ = some (.slice r1.A (n + k) r1.c) := by
            have := HT1.out.d.b.cell 0
            rw [m1.T_len, Hm1.out, Hrq.out] at this
            exact this
          have hc2 : wr.drew.cell? ⟨qv, 0, none⟩ = some (.slice r2.A (n + j2) r2.c) := by
            have := HT2.out.d.b.cell 0
            rw [m2.T_len, Hm2.out, Hrv.out] at this
            exact this
          have HL1 := Lib.hid hl1
          have HL2 := Lib.hid hl2
          have HS1 := Lib.hid hs1
          have H1c := Lib.hid hc1
          have H2c := Lib.hid hc2
          have HLt1 : Hid (r.q < wr.drew.heap.size) := by rw [← Hrq.out]; exact HT1.out.d.b.lt
          have HLt2 : Hid (qv < wr.drew.heap.size) := by rw [← Hrv.out]; exact HT2.out.d.b.lt
          have HSo : Hid (∀ W, Below wr.drew.heap.size wr.drew W → Calls Try.prog 21 #[.pointer (some ⟨mc.q, 0, none⟩), .pointer (some ⟨qv, 0, none⟩)] W fun e w' => e = .returned (.bool true) ∧ Below W.heap.size W w') := fun W hW => by
            have := te_sound W _ m2 r2 (HT2.out.later hW)
            rw [Hq2.out, Hrv.out] at this
            exact this
          clear hlt hj2 hrv hl1 hl2 hs1 hc1 hc2 HT1 HT2 HF HR HR2 HV
          go_wp2
          refine wp_region_held_drew (S := fun W => W.cell? ⟨r.q, 0, none⟩ = some (.slice r1.A (n + k) r1.c) ∧ W.cell? ⟨qv, 0, none⟩ = some (.slice r2.A (n + j2) r2.c)) (by kernel_rfl) ⟨H1c.out, H2c.out⟩ (fun hHeld => ?_)
          generalize wr.drew = wd at *
          refine wpAnyH_take (i := 0) (oi := ⟨_, _, _, _, _, _⟩) (v := ?_) rfl (by kernel_rfl) (by kernel_rfl) (by kernel_rfl) (fun _ _ _ h => h) (Or.inl ⟨by rfl, ?_⟩) (by assumption) ?_
          rotate_left 1
          · intro W hSw
            try dsimp only at hSw
            obtain ⟨hs1, hs2⟩ := hSw
            go_simp
            try with_reducible rfl
          try simp only [Act.put, List.setIfInBounds_toArray, List.set_cons_zero, List.set_cons_succ]
          refine wpAnyH_take (i := 2) (oi := ⟨_, _, _, _, _, _⟩) (v := ?_) rfl (by kernel_rfl) (by kernel_rfl) (by kernel_rfl) (fun _ _ _ h => h) (Or.inl ⟨by rfl, ?_⟩) (by assumption) ?_
          rotate_left 1
          · intro W hSw
            try dsimp only at hSw
            obtain ⟨hs1, hs2⟩ := hSw
            go_simp
            try with_reducible rfl
          try simp only [Act.put, List.setIfInBounds_toArray, List.set_cons_zero, List.set_cons_succ]
          refine wpAnyH_take (i := 3) (oi := ⟨_, _, _, _, _, _⟩) (v := ?_) rfl (by kernel_rfl) (by kernel_rfl) (by kernel_rfl) (fun _ _ _ h => h) (Or.inl ⟨by rfl, ?_⟩) (by assumption) ?_
          rotate_left 1
          · intro W hSw
            try dsimp only at hSw
            obtain ⟨hs1, hs2⟩ := hSw
            go_simp
            try with_reducible rfl
          try simp only [Act.put, List.setIfInBounds_toArray, List.set_cons_zero, List.set_cons_succ]
          refine wpAnyH_take (i := 4) (oi := ⟨_, _, _, _, _, _⟩) (v := ?_) rfl (by kernel_rfl) (by kernel_rfl) (by kernel_rfl) (fun _ _ _ h => h) (Or.inl ⟨by rfl, ?_⟩) (by assumption) ?_
          rotate_left 1
          · intro W hSw
            try dsimp only at hSw
            obtain ⟨hs1, hs2⟩ := hSw
            go_simp
            try with_reducible rfl
          try simp only [Act.put, List.setIfInBounds_toArray, List.set_cons_zero, List.set_cons_succ]
          refine wpAnyH_take (i := 5) (oi := ⟨_, _, _, _, _, _⟩) (v := ?_) rfl (by kernel_rfl) (by kernel_rfl) (by kernel_rfl) (fun _ _ _ h => h) (Or.inl ⟨by rfl, ?_⟩) (by assumption) ?_
          rotate_left 1
          · intro W hSw
            try dsimp only at hSw
            obtain ⟨hs1, hs2⟩ := hSw
            go_simp
            try with_reducible rfl
          try simp only [Act.put, List.setIfInBounds_toArray, List.set_cons_zero, List.set_cons_succ]
          refine wpAnyH_take (i := 6) (oi := ⟨_, _, _, _, _, _⟩) (v := ?_) rfl (by kernel_rfl) (by kernel_rfl) (by kernel_rfl) (fun _ _ _ h => h) (Or.inl ⟨by rfl, ?_⟩) (by assumption) ?_
          rotate_left 1
          · intro W hSw
            try dsimp only at hSw
            obtain ⟨hs1, hs2⟩ := hSw
            go_simp
            try with_reducible rfl
          try simp only [Act.put, List.setIfInBounds_toArray, List.set_cons_zero, List.set_cons_succ]
          refine wpAnyH_ready (rs := [1]) (by kernel_rfl) (by simp) ?_
          refine AllReadyH.cons rfl (fun K hK => ?_) AllReadyH.nil
          go_simp
          go_at_call 10
          refine HL1.out.mono ?_
          rintro e w5 ⟨rfl, hw5⟩
          obtain rfl := hw5.symm
          refine hK.out _ _ ⟨H1c.out, H2c.out⟩ (fun hSn => ?_)
          clear hK K
          try simp only [Act.put, List.setIfInBounds_toArray, List.set_cons_zero, List.set_cons_succ]
          refine wpAnyH_take (i := 7) (oi := ⟨_, _, _, _, _, _⟩) (v := ?_) rfl (by kernel_rfl) (by kernel_rfl) (by kernel_rfl) (fun _ _ _ h => h) (Or.inl ⟨by rfl, ?_⟩) (by assumption) ?_
          rotate_left 1
          · intro W hSw
            try dsimp only at hSw
            obtain ⟨hs1, hs2⟩ := hSw
            go_simp
            try with_reducible rfl
          try simp only [Act.put, List.setIfInBounds_toArray, List.set_cons_zero, List.set_cons_succ]
          refine wpAnyH_take (i := 8) (oi := ⟨_, _, _, _, _, _⟩) (v := ?_) rfl (by kernel_rfl) (by kernel_rfl) (by kernel_rfl) (fun _ _ _ h => h) (Or.inl ⟨by rfl, ?_⟩) (by assumption) ?_
          rotate_left 1
          · intro W hSw
            try dsimp only at hSw
            obtain ⟨hs1, hs2⟩ := hSw
            go_simp
            try with_reducible rfl
          try simp only [Act.put, List.setIfInBounds_toArray, List.set_cons_zero, List.set_cons_succ]
          refine wpAnyH_take (i := 9) (oi := ⟨_, _, _, _, _, _⟩) (v := ?_) rfl (by kernel_rfl) (by kernel_rfl) (by kernel_rfl) (fun _ _ _ h => h) (Or.inl ⟨by rfl, ?_⟩) (by assumption) ?_
          rotate_left 1
          · intro W hSw
            try dsimp only at hSw
            obtain ⟨hs1, hs2⟩ := hSw
            go_simp
            try with_reducible rfl
          try simp only [Act.put, List.setIfInBounds_toArray, List.set_cons_zero, List.set_cons_succ]
          refine wpAnyH_take (i := 11) (oi := ⟨_, _, _, _, _, _⟩) (v := ?_) rfl (by kernel_rfl) (by kernel_rfl) (by kernel_rfl) (fun _ _ _ h => h) (Or.inl ⟨by rfl, ?_⟩) (by assumption) ?_
          rotate_left 1
          · intro W hSw
            try dsimp only at hSw
            obtain ⟨hs1, hs2⟩ := hSw
            go_simp
            try with_reducible rfl
          try simp only [Act.put, List.setIfInBounds_toArray, List.set_cons_zero, List.set_cons_succ]
          refine wpAnyH_take (i := 12) (oi := ⟨_, _, _, _, _, _⟩) (v := ?_) rfl (by kernel_rfl) (by kernel_rfl) (by kernel_rfl) (fun _ _ _ h => h) (Or.inl ⟨by rfl, ?_⟩) (by assumption) ?_
          rotate_left 1
          · intro W hSw
            try dsimp only at hSw
            obtain ⟨hs1, hs2⟩ := hSw
            go_simp
            try with_reducible rfl
          try simp only [Act.put, List.setIfInBounds_toArray, List.set_cons_zero, List.set_cons_succ]
          refine wpAnyH_take (i := 13) (oi := ⟨_, _, _, _, _, _⟩) (v := ?_) rfl (by kernel_rfl) (by kernel_rfl) (by kernel_rfl) (fun _ _ _ h => h) (Or.inl ⟨by rfl, ?_⟩) (by assumption) ?_
          rotate_left 1
          · intro W hSw
            try dsimp only at hSw
            obtain ⟨hs1, hs2⟩ := hSw
            go_simp
            try with_reducible rfl
          try simp only [Act.put, List.setIfInBounds_toArray, List.set_cons_zero, List.set_cons_succ]
          refine wpAnyH_take (i := 14) (oi := ⟨_, _, _, _, _, _⟩) (v := ?_) rfl (by kernel_rfl) (by kernel_rfl) (by kernel_rfl) (fun _ _ _ h => h) (Or.inl ⟨by rfl, ?_⟩) (by assumption) ?_
          rotate_left 1
          · intro W hSw
            try dsimp only at hSw
            obtain ⟨hs1, hs2⟩ := hSw
            go_simp
            try with_reducible rfl
          try simp only [Act.put, List.setIfInBounds_toArray, List.set_cons_zero, List.set_cons_succ]
          refine wpAnyH_take (i := 15) (oi := ⟨_, _, _, _, _, _⟩) (v := ?_) rfl (by kernel_rfl) (by kernel_rfl) (by kernel_rfl) (fun _ _ _ h => h) (Or.inl ⟨by rfl, ?_⟩) (by assumption) ?_
          rotate_left 1
          · intro W hSw
            try dsimp only at hSw
            obtain ⟨hs1, hs2⟩ := hSw
            go_simp
            try with_reducible rfl
          try simp only [Act.put, List.setIfInBounds_toArray, List.set_cons_zero, List.set_cons_succ]
          refine wpAnyH_ready (rs := [10]) (by kernel_rfl) (by simp) ?_
          refine AllReadyH.cons rfl (fun K hK => ?_) AllReadyH.nil
          go_simp
          go_at_call 10
          refine HL2.out.mono ?_
          rintro e w6 ⟨rfl, hw6⟩
          obtain rfl := hw6.symm
          refine hK.out _ _ ⟨H1c.out, H2c.out⟩ (fun hSn => ?_)
          clear hK K
          try simp only [Act.put, List.setIfInBounds_toArray, List.set_cons_zero, List.set_cons_succ]
          refine wpAnyH_take (i := 16) (oi := ⟨_, _, _, _, _, _⟩) (v := ?_) rfl (by kernel_rfl) (by kernel_rfl) (by kernel_rfl) (fun _ _ _ h => h) (Or.inl ⟨by rfl, ?_⟩) (by assumption) ?_
          rotate_left 1
          · intro W hSw
            try dsimp only at hSw
            obtain ⟨hs1, hs2⟩ := hSw
            go_simp
            try with_reducible rfl
          try simp only [Act.put, List.setIfInBounds_toArray, List.set_cons_zero, List.set_cons_succ]
          refine wpAnyH_take (i := 17) (oi := ⟨_, _, _, _, _, _⟩) (v := ?_) rfl (by kernel_rfl) (by kernel_rfl) (by kernel_rfl) (fun _ _ _ h => h) (Or.inl ⟨by rfl, ?_⟩) (by assumption) ?_
          rotate_left 1
          · intro W hSw
            try dsimp only at hSw
            obtain ⟨hs1, hs2⟩ := hSw
            go_simp
            try with_reducible rfl
          try simp only [Act.put, List.setIfInBounds_toArray, List.set_cons_zero, List.set_cons_succ]
          refine wpAnyH_take (i := 18) (oi := ⟨_, _, _, _, _, _⟩) (v := ?_) rfl (by kernel_rfl) (by kernel_rfl) (by kernel_rfl) (fun _ _ _ h => h) (Or.inl ⟨by rfl, ?_⟩) (by assumption) ?_
          rotate_left 1
          · intro W hSw
            try dsimp only at hSw
            obtain ⟨hs1, hs2⟩ := hSw
            go_simp
            try with_reducible rfl
          try simp only [Act.put, List.setIfInBounds_toArray, List.set_cons_zero, List.set_cons_succ]
          refine wpAnyH_take (i := 19) (oi := ⟨_, _, _, _, _, _⟩) (v := ?_) rfl (by kernel_rfl) (by kernel_rfl) (by kernel_rfl) (fun _ _ _ h => h) (Or.inl ⟨by rfl, ?_⟩) (by assumption) ?_
          rotate_left 1
          · intro W hSw
            try dsimp only at hSw
            obtain ⟨hs1, hs2⟩ := hSw
            go_simp
            try with_reducible rfl
          try simp only [Act.put, List.setIfInBounds_toArray, List.set_cons_zero, List.set_cons_succ]
          refine wpAnyH_take (i := 20) (oi := ⟨_, _, _, _, _, _⟩) (v := ?_) rfl (by kernel_rfl) (by kernel_rfl) (by kernel_rfl) (fun _ _ _ h => h) (Or.inl ⟨by rfl, ?_⟩) (by assumption) ?_
          rotate_left 1
          · intro W hSw
            try dsimp only at hSw
            obtain ⟨hs1, hs2⟩ := hSw
            go_simp
            try with_reducible rfl
          try simp only [Act.put, List.setIfInBounds_toArray, List.set_cons_zero, List.set_cons_succ]
          refine wpAnyH_ready (rs := [21]) (by kernel_rfl) (by simp) ?_
          refine AllReadyH.cons rfl (fun K hK => ?_) AllReadyH.nil
          go_simp
          go_at_call 21
          refine HS1.out.mono ?_
          rintro e w7 ⟨rfl, hb7⟩
          have V7 := Lib.hid hb7
          have HS2 := Lib.hid (HSo.out w7 V7.out)
          have c71 := (V7.out.cell (p := ⟨r.q, 0, none⟩) HLt1.out).trans H1c.out
          have c72 := (V7.out.cell (p := ⟨qv, 0, none⟩) HLt2.out).trans H2c.out
          clear hb7
          refine hK.out _ _ ⟨c71, c72⟩ (fun hSn => ?_)
          clear hK K
          try simp only [Act.put, List.setIfInBounds_toArray, List.set_cons_zero, List.set_cons_succ]
          refine wpAnyH_take (i := 22) (oi := ⟨_, _, _, _, _, _⟩) (v := ?_) rfl (by kernel_rfl) (by kernel_rfl) (by kernel_rfl) (fun _ _ _ h => h) (Or.inl ⟨by rfl, ?_⟩) (by assumption) ?_
          rotate_left 1
          · intro W hSw
            try dsimp only at hSw
            obtain ⟨hs1, hs2⟩ := hSw
            go_simp
            try with_reducible rfl
          try simp only [Act.put, List.setIfInBounds_toArray, List.set_cons_zero, List.set_cons_succ]
          refine wpAnyH_take (i := 23) (oi := ⟨_, _, _, _, _, _⟩) (v := ?_) rfl (by kernel_rfl) (by kernel_rfl) (by kernel_rfl) (fun _ _ _ h => h) (Or.inl ⟨by rfl, ?_⟩) (by assumption) ?_
          rotate_left 1
          · intro W hSw
            try dsimp only at hSw
            obtain ⟨hs1, hs2⟩ := hSw
            go_simp
            try with_reducible rfl
          try simp only [Act.put, List.setIfInBounds_toArray, List.set_cons_zero, List.set_cons_succ]
          refine wpAnyH_take (i := 24) (oi := ⟨_, _, _, _, _, _⟩) (v := ?_) rfl (by kernel_rfl) (by kernel_rfl) (by kernel_rfl) (fun _ _ _ h => h) (Or.inl ⟨by rfl, ?_⟩) (by assumption) ?_
          rotate_left 1
          · intro W hSw
            try dsimp only at hSw
            obtain ⟨hs1, hs2⟩ := hSw
            go_simp
            try with_reducible rfl
          try simp only [Act.put, List.setIfInBounds_toArray, List.set_cons_zero, List.set_cons_succ]
          refine wpAnyH_take (i := 25) (oi := ⟨_, _, _, _, _, _⟩) (v := ?_) rfl (by kernel_rfl) (by kernel_rfl) (by kernel_rfl) (fun _ _ _ h => h) (Or.inl ⟨by rfl, ?_⟩) (by assumption) ?_
          rotate_left 1
          · intro W hSw
            try dsimp only at hSw
            obtain ⟨hs1, hs2⟩ := hSw
            go_simp
            try with_reducible rfl
          try simp only [Act.put, List.setIfInBounds_toArray, List.set_cons_zero, List.set_cons_succ]
          refine wpAnyH_ready (rs := [26]) (by kernel_rfl) (by simp) ?_
          refine AllReadyH.cons rfl (fun K hK => ?_) AllReadyH.nil
          go_simp
          go_at_call 21
          refine HS2.out.mono ?_
          rintro e w8 ⟨rfl, hb8⟩
          have V8 : Hid (Below wd.heap.size wd w8) := nxTo V7.out hb8
          have c81 := (V8.out.cell (p := ⟨r.q, 0, none⟩) HLt1.out).trans H1c.out
          have c82 := (V8.out.cell (p := ⟨qv, 0, none⟩) HLt2.out).trans H2c.out
          clear hb8
          refine hK.out _ _ ⟨c81, c82⟩ (fun hSn => ?_)
          clear hK K
          try simp only [Act.put, List.setIfInBounds_toArray, List.set_cons_zero, List.set_cons_succ]
          refine wpAnyH_take (i := 27) (oi := ⟨_, _, _, _, _, _⟩) (v := ?_) rfl (by kernel_rfl) (by kernel_rfl) (by kernel_rfl) (fun _ _ _ h => h) (Or.inl ⟨by rfl, ?_⟩) (by assumption) ?_
          rotate_left 1
          · intro W hSw
            try dsimp only at hSw
            obtain ⟨hs1, hs2⟩ := hSw
            go_simp
            try with_reducible rfl
          try simp only [Act.put, List.setIfInBounds_toArray, List.set_cons_zero, List.set_cons_succ]
          refine wpAnyH_take (i := 28) (oi := ⟨_, _, _, _, _, _⟩) (v := ?_) rfl (by kernel_rfl) (by kernel_rfl) (by kernel_rfl) (fun _ _ _ h => h) (Or.inl ⟨by rfl, ?_⟩) (by assumption) ?_
          rotate_left 1
          · intro W hSw
            try dsimp only at hSw
            obtain ⟨hs1, hs2⟩ := hSw
            go_simp
            try with_reducible rfl
          try simp only [Act.put, List.setIfInBounds_toArray, List.set_cons_zero, List.set_cons_succ]
          refine wpAnyH_ready (rs := [29]) (by kernel_rfl) (by simp) ?_
          refine AllReadyH.cons rfl (fun K hK => ?_) AllReadyH.nil
          go_simp
          go_at_call 8
          refine (te_known _).mono ?_
          rintro e w9 ⟨rfl, hb9⟩
          have V9 : Hid (Below wd.heap.size wd w9) := nxTo V8.out hb9
          have c91 := (V9.out.cell (p := ⟨r.q, 0, none⟩) HLt1.out).trans H1c.out
          have c92 := (V9.out.cell (p := ⟨qv, 0, none⟩) HLt2.out).trans H2c.out
          clear hb9
          refine hK.out _ _ ⟨c91, c92⟩ (fun hSn => ?_)
          clear hK K
          try simp only [Act.put, List.setIfInBounds_toArray, List.set_cons_zero, List.set_cons_succ]
          refine wpAnyH_take (i := 30) (oi := ⟨_, _, _, _, _, _⟩) (v := ?_) rfl (by kernel_rfl) (by kernel_rfl) (by kernel_rfl) (fun _ _ _ h => h) (Or.inl ⟨by rfl, ?_⟩) (by assumption) ?_
          rotate_left 1
          · intro W hSw
            try dsimp only at hSw
            obtain ⟨hs1, hs2⟩ := hSw
            go_simp
            try with_reducible rfl
          try simp only [Act.put, List.setIfInBounds_toArray, List.set_cons_zero, List.set_cons_succ]
          refine wpAnyH_take (i := 31) (oi := ⟨_, _, _, _, _, _⟩) (v := ?_) rfl (by kernel_rfl) (by kernel_rfl) (by kernel_rfl) (fun _ _ _ h => h) (Or.inl ⟨by rfl, ?_⟩) (by assumption) ?_
          rotate_left 1
          · intro W hSw
            try dsimp only at hSw
            obtain ⟨hs1, hs2⟩ := hSw
            go_simp
            try with_reducible rfl
          try simp only [Act.put, List.setIfInBounds_toArray, List.set_cons_zero, List.set_cons_succ]
          refine wpAnyH_done (by kernel_rfl) ?_ _
          go_wp2
          go_ret
          exact ⟨rfl, nxTo HVd.out V9.out⟩
end Go.Proofs.Ytefgnemcjgibaaa
