/-
  tree: TreeDeep.
-/
import Derived.Test.YtefgnemcjgibaaaTeF
namespace Go.Proofs.Ytefgnemcjgibaaa
open Go.RowKit

/-- A chain, and a wide node at its end. -/
structure DeepT (m : TrM) (ch j : Nat) : Prop where
  len : m.L.length = 1 + ch + j
  par : ∀ n, 0 < n → n < m.L.length → (ndT m.T n).par = if n ≤ ch then n - 1 else ch
theorem DeepT.up {w w' : World} {base : Nat} {m m' : TrM} {ch : Nat} (h : DeepT m ch 0) (a : TrTo w base m ch m' w') : DeepT m' (ch + 1) 0 := by
  have hl := h.len
  refine ⟨by rw [a.len, hl]; omega, fun n h0 hn => ?_⟩
  rw [a.len] at hn
  by_cases e : n < m.L.length
  · rw [(a.par n e).1, h.par n h0 e, if_pos (by omega), if_pos (by omega)]
  · obtain rfl : n = m.L.length := by omega
    rw [a.new.1, hl, if_pos (by omega)]; omega
theorem DeepT.wide {w w' : World} {base : Nat} {m m' : TrM} {ch j : Nat} (h : DeepT m ch j) (a : TrTo w base m ch m' w') : DeepT m' ch (j + 1) := by
  have hl := h.len
  refine ⟨by rw [a.len, hl]; omega, fun n h0 hn => ?_⟩
  rw [a.len] at hn
  by_cases e : n < m.L.length
  · rw [(a.par n e).1, h.par n h0 e]
  · obtain rfl : n = m.L.length := by omega
    rw [a.new.1, if_neg (by omega)]
theorem DeepT.und {m : TrM} {ch j : Nat} (h : DeepT m ch j) {n : Nat} : ∀ a, n ≤ a → a ≤ ch → Und m.T a n
  | 0, h1, _ => by obtain rfl : n = 0 := by omega
                   exact .refl _
  | a + 1, h1, h2 => by
    by_cases e : n = a + 1
    · rw [e]; exact .refl _
    · have hl := h.len
      refine .up (by omega) (by rw [m.T_len]; omega) ?_
      rw [h.par (a + 1) (by omega) (by omega), if_pos h2]
      exact h.und a (by omega) (by omega)
set_option maxRecDepth 100000 in
set_option maxHeartbeats 8000000 in
theorem treeDeep_any (w : World) (chain wide : Int) : Calls Try.prog 5 #[.int .i64 chain, .int .i64 wide] w fun e w' => e = .returned (.bool true) ∧ Below w.heap.size w w' := by
  have out : (chain < 0 ∨ wide < 0 ∨ chain > 200 ∨ wide > 200) → Calls Try.prog 5 #[.int .i64 chain, .int .i64 wide] w fun e w' => e = .returned (.bool true) ∧ Below w.heap.size w w' := by
    intro h
    by_cases h1 : chain < 0
    · clear h
      go_enter Try.func5, Try.ntmps5
      go_wp2_with (go_at_call 8; refine (te_known _).mono ?_; rintro e w4 ⟨rfl, hb4⟩; have K4 := Lib.hid hb4; clear hb4)
      go_ret
      exact ⟨rfl, K4.out⟩
    by_cases h2 : wide < 0
    · clear h
      go_enter Try.func5, Try.ntmps5
      go_wp2_with (go_at_call 8; refine (te_known _).mono ?_; rintro e w4 ⟨rfl, hb4⟩; have K4 := Lib.hid hb4; clear hb4)
      go_ret
      exact ⟨rfl, K4.out⟩
    by_cases h3 : chain > 200
    · clear h
      have h3' : (200 : Int) < chain := h3
      go_enter Try.func5, Try.ntmps5
      go_wp2_with (go_at_call 8; refine (te_known _).mono ?_; rintro e w4 ⟨rfl, hb4⟩; have K4 := Lib.hid hb4; clear hb4)
      go_ret
      exact ⟨rfl, K4.out⟩
    · have h4 : (200 : Int) < wide := by omega
      have h3' : ¬ (200 : Int) < chain := h3
      clear h
      go_enter Try.func5, Try.ntmps5
      go_wp2_with (go_at_call 8; refine (te_known _).mono ?_; rintro e w4 ⟨rfl, hb4⟩; have K4 := Lib.hid hb4; clear hb4)
      go_ret
      exact ⟨rfl, K4.out⟩
  by_cases h9 : chain < 0 ∨ wide < 0 ∨ chain > 200 ∨ wide > 200
  · exact out h9
  clear out
  obtain ⟨ch, rfl⟩ : ∃ n : Nat, chain = n := ⟨chain.toNat, by omega⟩
  obtain ⟨wi, rfl⟩ : ∃ n : Nat, wide = n := ⟨wide.toNat, by omega⟩
  have hch : ch ≤ 200 := by omega
  have hwi : wi ≤ 200 := by omega
  have g1 : ¬ (200 : Int) < (ch : Int) := by omega
  have g2 : ¬ (200 : Int) < (wi : Int) := by omega
  clear h9
  go_enter Try.func5, Try.ntmps5
  go_wp2_with (go_at_call 24; refine (te_new w).mono ?_; rintro e0 w0 ⟨m0, rfl, ho0, hi0, hl0, hd0, hb0⟩; have O0 := Lib.hid ho0; have I0 := Lib.hid hi0; have V0 := Lib.hid hb0; have D0 : Hid (DeepT m0 0 0) := (⟨by rw [hl0]; rfl, fun n h0 hn => by rw [hl0] at hn; simp at hn; omega⟩ : DeepT m0 0 0); clear ho0 hi0 hl0 hd0 hb0)
  go_loopw [6, 7] (fun lv iv wr => ∃ (k : Nat) (m : TrM), k ≤ ch ∧ iv = .int .i64 k ∧ lv = .int .i64 k ∧ m.q = m0.q ∧ Hid (TrOk wr w.heap.size m) ∧ Hid (TrI m) ∧ Hid (DeepT m k 0) ∧ Hid (Below w.heap.size w wr)) (fun _ iv _ => ch - (intOf iv).toNat)
  case atStart => exact ⟨0, m0, by omega, rfl, rfl, rfl, O0.out, I0.out, D0.out, V0.out⟩
  case round =>
    obtain ⟨k, m, hk, rfl, rfl, hq, HO, HI, HD, HV⟩ := hrel
    have Hq := Lib.hid hq
    clear hq
    by_cases hlt : k < ch
    · have ha := te_addT wr w.heap.size m HO.out HI.out k (by rw [HD.out.len]; omega) (by rw [HD.out.len]; omega)
      have hl := HD.out.len
      rw [Nat.add_zero] at hl
      rw [Hq.out, hl] at ha
      have HA := Lib.hid ha
      have hkc : (k : Int) < (ch : Int) := by omega
      clear ha hl
      go_wp2_with (go_at_call 25; refine HA.out.mono ?_; rintro e w1 ⟨rfl, m1, ht⟩; have HT1 := Lib.hid ht; clear ht)
      go_roundw
      case rel => exact ⟨k + 1, m1, by omega, by go_num, by first | rfl | (congr 1; omega), HT1.out.q.trans Hq.out, HT1.out.ok, HT1.out.i, HD.out.up HT1.out, HT1.out.v HV.out HO.out (Nat.le_refl _)⟩
      case measure => simp [intOf] <;> omega
    · obtain rfl : ch = k := by omega
      go_wp2
      clear O0 I0 V0 D0
      go_loopw [10] (fun iv wr => ∃ (j : Nat) (m : TrM), j ≤ wi ∧ iv = .int .i64 j ∧ m.q = m0.q ∧ Hid (TrOk wr w.heap.size m) ∧ Hid (TrI m) ∧ Hid (DeepT m ch j) ∧ Hid (Below w.heap.size w wr)) (fun iv _ => wi - (intOf iv).toNat)
      case atStart => exact ⟨0, m, by omega, rfl, Hq.out, HO.out, HI.out, HD.out, HV.out⟩
      case round =>
        clear HO HI HD HV Hq
        obtain ⟨j, m, hj, rfl, hq, HO, HI, HD, HV⟩ := hrel
        have Hq := Lib.hid hq
        clear hq
        by_cases hltj : j < wi
        · have hl := HD.out.len
          have ha := te_addT wr w.heap.size m HO.out HI.out ch (by omega) (by omega)
          rw [Hq.out, hl] at ha
          have HA := Lib.hid ha
          have hjc : (j : Int) < (wi : Int) := by omega
          clear ha hl
          go_wp2_with (go_at_call 25; refine HA.out.mono ?_; rintro e w1 ⟨rfl, m1, ht⟩; have HT1 := Lib.hid ht; clear ht)
          go_roundw
          case rel => exact ⟨j + 1, m1, by omega, by go_num, HT1.out.q.trans Hq.out, HT1.out.ok, HT1.out.i, HD.out.wide HT1.out, HT1.out.v HV.out HO.out (Nat.le_refl _)⟩
          case measure => simp [intOf] <;> omega
        · obtain rfl : j = wi := by omega
          have hl := HD.out.len
          have h0 := HI.out.ne
          have hlen := te_len wr w.heap.size m HO.out h0
          have hdea := te_dealt wr w.heap.size m HO.out h0
          rw [Hq.out] at hlen hdea
          rw [hl] at hlen
          have hd := HI.out.dl
          rw [hl] at hd
          obtain ⟨dl, hdl⟩ : ∃ d, m.dl = d := ⟨_, rfl⟩
          rw [hdl] at hd hdea
          have hdn : ¬ ((ch : Int) + (j : Int) < (dl : Int)) := by omega
          have HLn := Lib.hid hlen
          have HDe := Lib.hid hdea
          have HL := Lib.hid hl
          clear hlen hdea hdl hd hl h0
          go_wp2_with (first
            | (go_at_call 10; refine HLn.out.mono ?_; rintro e w1 ⟨rfl, hw1⟩; obtain rfl := hw1.symm)
            | (go_at_call 22; refine HDe.out.mono ?_; rintro e w1 ⟨rfl, hw1⟩; obtain rfl := hw1.symm))
          clear HLn HDe hdn
          have HO2 := Lib.hid HO.out
          obtain ⟨wa, hwa⟩ : ∃ W, wr = W := ⟨_, rfl⟩
          rw [hwa] at HO2 HV
          rw [hwa]
          clear hwa HO
          go_loopw [13] (fun iv wr => ∃ i : Nat, i ≤ 1 + ch + j ∧ iv = .int .i64 i ∧ Hid (Below wa.heap.size wa wr)) (fun iv _ => 1 + ch + j - (intOf iv).toNat)
          case atStart => exact ⟨0, by omega, rfl, nxRefl _⟩
          case round =>
            obtain ⟨i, hi, rfl, HVr⟩ := hrel
            have HO : Hid (TrOk wr w.heap.size m) := HO2.out.later HVr.out
            have HW : Hid (Below wr.heap.size wr wr) := nxRefl wr
            have HLen : Hid (∀ W, Below wr.heap.size wr W → Calls Try.prog 10 #[.pointer (some ⟨m0.q, 0, none⟩)] W fun e w' => e = .returned (.int .i64 ((1 + ch + j : Nat) : Int)) ∧ w' = W) := fun W hW => by
              have h9 := te_len W w.heap.size m (HO.out.later hW) HI.out.ne
              rw [Hq.out, HL.out] at h9
              exact h9
            by_cases hlti : i < 1 + ch + j
            · have hil : i < m.L.length := by rw [HL.out]; exact hlti
              have hiv := HI.out.iv.ok i (by rw [m.T_len]; exact hil)
              have HIv0 : Hid (∀ W, Below wr.heap.size wr W → Calls Try.prog 23 #[.pointer (some ⟨m0.q, 0, none⟩), .int .i64 (i : Int)] W fun e w' => e = .returned (.tuple #[.int .u64 ((ndT m.T i).lo : Int), .int .u64 ((ndT m.T i).hi : Int), .int .i64 0]) ∧ Below W.heap.size W w') := fun W hW => by
                have h9 := te_iv W w.heap.size m (HO.out.later hW) i hil HI.out.max
                rw [Hq.out] at h9
                exact h9
              have HU0 : Hid (∀ W, Below wr.heap.size wr W → Calls Try.prog 16 #[.pointer (some ⟨m0.q, 0, none⟩), .int .i64 (i : Int), .int .i64 0] W fun e w' => e = .returned (.bool true) ∧ Below W.heap.size W w') := fun W hW => by
                have h9 := te_undT W w.heap.size m (HO.out.later hW) HI.out i 0 hil HI.out.ne true ⟨fun _ => Und.root HI.out.ok i (by rw [m.T_len]; exact hil), fun _ => rfl⟩
                rw [Hq.out] at h9
                exact h9
              have hcl : ch < m.L.length := by rw [HL.out]; omega
              have hinn : (i : Int) < 1 + (ch : Int) + (j : Int) := by omega
              by_cases hic : i ≤ ch
              · obtain ⟨lo, hlo⟩ : ∃ x, (ndT m.T i).lo = x := ⟨_, rfl⟩
                obtain ⟨hi9, hhi⟩ : ∃ x, (ndT m.T i).hi = x := ⟨_, rfl⟩
                rw [hlo, hhi] at HIv0 hiv
                have HIv := Lib.hid HIv0.out
                have HUa : Hid (∀ W, Below wr.heap.size wr W → Calls Try.prog 16 #[.pointer (some ⟨m0.q, 0, none⟩), .int .i64 (ch : Int), .int .i64 (i : Int)] W fun e w' => e = .returned (.bool true) ∧ Below W.heap.size W w') := fun W hW => by
                  have h9 := te_undT W w.heap.size m (HO.out.later hW) HI.out ch i hcl hil true ⟨fun _ => HD.out.und ch hic (Nat.le_refl _), fun _ => rfl⟩
                  rw [Hq.out] at h9
                  exact h9
                have HUb := HUa
                have hle : (i : Int) ≤ (ch : Int) := by omega
                have hgt : ¬ (ch : Int) < (i : Int) := by omega
                have hgt2 : ¬ (ch : Int) + 1 < (i : Int) := by omega
                have hlh : ¬ (hi9 : Int) < (lo : Int) := by omega
                clear HIv0 hlo hhi hiv
                go_wp2_with (first
              | (go_at_call 10; refine (HLen.out _ HW.out).mono ?_; rintro e w1 ⟨rfl, hw1⟩; obtain rfl := hw1.symm)
              | ((with_reducible show Calls _ _ #[_, .int .i64 (i : Int)] _ _); refine (HIv.out _ HW.out).mono ?_; rintro e w2 ⟨rfl, hb2⟩; have HW : Hid (Below wr.heap.size wr w2) := nxTo HW.out hb2; clear hb2)
              | ((with_reducible show Calls _ _ #[_, .int .i64 (i : Int), .int .i64 0] _ _); refine (HU0.out _ HW.out).mono ?_; rintro e w3 ⟨rfl, hb3⟩; have HW : Hid (Below wr.heap.size wr w3) := nxTo HW.out hb3; clear hb3)
              | ((with_reducible show Calls _ _ #[_, .int .i64 (ch : Int), .int .i64 (i : Int)] _ _); refine (HUa.out _ HW.out).mono ?_; rintro e w4 ⟨rfl, hb4⟩; have HW : Hid (Below wr.heap.size wr w4) := nxTo HW.out hb4; clear hb4)
              | ((with_reducible show Calls _ _ #[_, .int .i64 (i : Int), .int .i64 (ch : Int)] _ _); refine (HUb.out _ HW.out).mono ?_; rintro e w5 ⟨rfl, hb5⟩; have HW : Hid (Below wr.heap.size wr w5) := nxTo HW.out hb5; clear hb5))
                go_roundw
                case rel => exact ⟨i + 1, by omega, by go_num, nxTo HVr.out HW.out⟩
                case measure => simp [intOf] <;> omega
              · have hpar := HD.out.par i (by omega) hil
                rw [if_neg hic] at hpar
                have HUa : Hid (∀ W, Below wr.heap.size wr W → Calls Try.prog 16 #[.pointer (some ⟨m0.q, 0, none⟩), .int .i64 (ch : Int), .int .i64 (i : Int)] W fun e w' => e = .returned (.bool false) ∧ Below W.heap.size W w') := fun W hW => by
                  have h9 := te_undT W w.heap.size m (HO.out.later hW) HI.out ch i hcl hil false ⟨fun k => (by cases k), fun k => (by have := k.le HI.out.ok; omega)⟩
                  rw [Hq.out] at h9
                  exact h9
                have HUb : Hid (∀ W, Below wr.heap.size wr W → Calls Try.prog 16 #[.pointer (some ⟨m0.q, 0, none⟩), .int .i64 (i : Int), .int .i64 (ch : Int)] W fun e w' => e = .returned (.bool true) ∧ Below W.heap.size W w') := fun W hW => by
                  have h9 := te_undT W w.heap.size m (HO.out.later hW) HI.out i ch hil hcl true ⟨fun _ => .up (by omega) (by rw [m.T_len]; exact hil) (by rw [hpar]; exact .refl _), fun _ => rfl⟩
                  rw [Hq.out] at h9
                  exact h9
                have hle : ¬ (i : Int) ≤ (ch : Int) := by omega
                have hgt : (ch : Int) < (i : Int) := by omega
                by_cases hi1 : i = ch + 1
                · obtain ⟨lo, hlo⟩ : ∃ x, (ndT m.T i).lo = x := ⟨_, rfl⟩
                  obtain ⟨hi9, hhi⟩ : ∃ x, (ndT m.T i).hi = x := ⟨_, rfl⟩
                  rw [hlo, hhi] at HIv0 hiv
                  have HIv := Lib.hid HIv0.out
                  have hgt2 : ¬ (ch : Int) + 1 < (i : Int) := by omega
                  have hlh : ¬ (hi9 : Int) < (lo : Int) := by omega
                  clear HIv0 hlo hhi hiv hpar hi1
                  go_wp2_with (first
              | (go_at_call 10; refine (HLen.out _ HW.out).mono ?_; rintro e w1 ⟨rfl, hw1⟩; obtain rfl := hw1.symm)
              | ((with_reducible show Calls _ _ #[_, .int .i64 (i : Int)] _ _); refine (HIv.out _ HW.out).mono ?_; rintro e w2 ⟨rfl, hb2⟩; have HW : Hid (Below wr.heap.size wr w2) := nxTo HW.out hb2; clear hb2)
              | ((with_reducible show Calls _ _ #[_, .int .i64 (i : Int), .int .i64 0] _ _); refine (HU0.out _ HW.out).mono ?_; rintro e w3 ⟨rfl, hb3⟩; have HW : Hid (Below wr.heap.size wr w3) := nxTo HW.out hb3; clear hb3)
              | ((with_reducible show Calls _ _ #[_, .int .i64 (ch : Int), .int .i64 (i : Int)] _ _); refine (HUa.out _ HW.out).mono ?_; rintro e w4 ⟨rfl, hb4⟩; have HW : Hid (Below wr.heap.size wr w4) := nxTo HW.out hb4; clear hb4)
              | ((with_reducible show Calls _ _ #[_, .int .i64 (i : Int), .int .i64 (ch : Int)] _ _); refine (HUb.out _ HW.out).mono ?_; rintro e w5 ⟨rfl, hb5⟩; have HW : Hid (Below wr.heap.size wr w5) := nxTo HW.out hb5; clear hb5))
                  go_roundw
                  case rel => exact ⟨i + 1, by omega, by go_num, nxTo HVr.out HW.out⟩
                  case measure => simp [intOf] <;> omega
                · have hsib := HI.out.iv.sib (i - 1) i (by omega) (by omega) (by rw [m.T_len]; exact hil) (by rw [hpar, HD.out.par (i - 1) (by omega) (by omega), if_neg (by omega)])
                  have hiv2 := HI.out.iv.ok (i - 1) (by rw [m.T_len]; omega)
                  obtain ⟨p, hp⟩ : ∃ p, i = p + 1 := ⟨i - 1, by omega⟩
                  have hp2 : i - 1 = p := by omega
                  rw [hp2] at hsib hiv2
                  have HIw0 : Hid (∀ W, Below wr.heap.size wr W → Calls Try.prog 23 #[.pointer (some ⟨m0.q, 0, none⟩), .int .i64 (p : Int)] W fun e w' => e = .returned (.tuple #[.int .u64 ((ndT m.T p).lo : Int), .int .u64 ((ndT m.T p).hi : Int), .int .i64 0]) ∧ Below W.heap.size W w') := fun W hW => by
                    have h9 := te_iv W w.heap.size m (HO.out.later hW) p (by omega) HI.out.max
                    rw [Hq.out] at h9
                    exact h9
                  obtain ⟨lo, hlo⟩ : ∃ x, (ndT m.T i).lo = x := ⟨_, rfl⟩
                  obtain ⟨hi9, hhi⟩ : ∃ x, (ndT m.T i).hi = x := ⟨_, rfl⟩
                  obtain ⟨lp, hlp⟩ : ∃ x, (ndT m.T p).lo = x := ⟨_, rfl⟩
                  obtain ⟨hp9, hhp⟩ : ∃ x, (ndT m.T p).hi = x := ⟨_, rfl⟩
                  rw [hlo, hhi] at HIv0 hiv
                  rw [hlo, hhp] at hsib
                  rw [hlp, hhp] at HIw0
                  have HIv := Lib.hid HIv0.out
                  have HIw := Lib.hid HIw0.out
                  have hgt2 : (ch : Int) + 1 < (i : Int) := by omega
                  have hlh : ¬ (hi9 : Int) < (lo : Int) := by omega
                  have hsb : ¬ (lo : Int) ≤ (hp9 : Int) := by omega
                  have hip : (i : Int) - 1 = (p : Int) := by omega
                  clear HIv0 HIw0 hlo hhi hlp hhp hiv hiv2 hpar hsib hp hp2
                  by_cases hxx : (lp : Int) ≤ (hi9 : Int)
                  all_goals
                    go_wp2_with (first
                | (go_at_call 10; refine (HLen.out _ HW.out).mono ?_; rintro e w1 ⟨rfl, hw1⟩; obtain rfl := hw1.symm)
                | ((with_reducible show Calls _ _ #[_, .int .i64 (i : Int)] _ _); refine (HIv.out _ HW.out).mono ?_; rintro e w2 ⟨rfl, hb2⟩; have HW : Hid (Below wr.heap.size wr w2) := nxTo HW.out hb2; clear hb2)
                | ((with_reducible show Calls _ _ #[_, .int .i64 (i : Int), .int .i64 0] _ _); refine (HU0.out _ HW.out).mono ?_; rintro e w3 ⟨rfl, hb3⟩; have HW : Hid (Below wr.heap.size wr w3) := nxTo HW.out hb3; clear hb3)
                | ((with_reducible show Calls _ _ #[_, .int .i64 (ch : Int), .int .i64 (i : Int)] _ _); refine (HUa.out _ HW.out).mono ?_; rintro e w4 ⟨rfl, hb4⟩; have HW : Hid (Below wr.heap.size wr w4) := nxTo HW.out hb4; clear hb4)
                | ((with_reducible show Calls _ _ #[_, .int .i64 (i : Int), .int .i64 (ch : Int)] _ _); refine (HUb.out _ HW.out).mono ?_; rintro e w5 ⟨rfl, hb5⟩; have HW : Hid (Below wr.heap.size wr w5) := nxTo HW.out hb5; clear hb5)
                | ((with_reducible show Calls _ _ #[_, .int .i64 (p : Int)] _ _); refine (HIw.out _ HW.out).mono ?_; rintro e w6 ⟨rfl, hb6⟩; have HW : Hid (Below wr.heap.size wr w6) := nxTo HW.out hb6; clear hb6))
                    go_roundw
                    case rel => exact ⟨i + 1, by omega, by go_num, nxTo HVr.out HW.out⟩
                    case measure => simp [intOf] <;> omega
            · obtain rfl : i = 1 + ch + j := by omega
              go_wp2_with (first
                | (go_at_call 10; refine (HLen.out _ HW.out).mono ?_; rintro e w1 ⟨rfl, hw1⟩; obtain rfl := hw1.symm)
                | (go_at_call 8; refine (te_known _).mono ?_; rintro e w4 ⟨rfl, hb4⟩; have K4 : Hid (Below w.heap.size w w4) := nxTo (nxTo HV.out HVr.out) hb4; clear hb4))
              go_ret
              exact ⟨rfl, K4.out⟩
end Go.Proofs.Ytefgnemcjgibaaa
