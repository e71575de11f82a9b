/-
  disk: a byte is changed by somebody else.
-/
import Derived.Test.YthamlphebnhcpaaDoorDkC
import Derived.Deep.DeepCutAuto
import Derived.Deep.CutBlock
import Derived.Laws.BitsAllLaws
namespace Go.Proofs.YthamlphebnhcpaaDoor
open Go.RowKit

/-- A byte of a row is another. -/
theorem RowM.flip {w : World} {g k : Nat} {m : DkM} (h : DkOk w g m) (hk : k < 32) {j : Nat} {y : UInt8} (hj : j < (rowD m.d.X k).length) : ∃ a c r', w.cell? ⟨g, 1 + k, none⟩ = some (.slice (some ⟨a, 0, none⟩) (rowD m.d.X k).length c) ∧ (rowD m.d.X k).length ≤ c ∧ c ≤ maxLen ∧
    w.cell? ⟨a, j, none⟩ = some (.int .u8 (((rowD m.d.X k).getD j 0).toNat : Int)) ∧ w.frozen? ⟨a, j, none⟩ = false ∧ r'.l = (rowD m.d.X k).set j y ∧ DkTo w g m (w.setCell ⟨a, j, none⟩ (.int .u8 (y.toNat : Int))) { m with rows := m.rows.set k r' } := by
  have hk2 : k < m.rows.length := by rw [h.n]; exact hk
  have ho := h.o _ (List.getElem_mem hk2)
  have hc := h.row hk
  rw [DkM.row_l hk2] at hj ⊢
  obtain ⟨r, hr⟩ : ∃ r, m.rows[k] = r := ⟨_, rfl⟩
  rw [hr] at ho hj hc ⊢
  obtain ⟨a, hA, _, hcell, hfr, hown⟩ := own_set (show w.ownsRow 0 5 1 (.slice r.A r.l.length r.c) r.l.length (By r.l) from ho) (k := j) hj (.int .u8 (y.toNat : Int))
  have hb : (By r.l).set j (.int .u8 (y.toNat : Int)) = By (r.l.set j y) := by simp [By, List.map_set]
  have hv : (⟨r.A, r.c, r.l.set j y⟩ : RowM).v = r.v := by simp [RowM.v]
  have hag : a ≠ g := fun e => by
    subst e
    exact h.b.notOwn ho (by decide) (by rw [RowM.v, own_blkD, hA]; rfl)
  have hx := RowM.len ho
  refine ⟨a, r.c, ⟨r.A, r.c, r.l.set j y⟩, by rw [hc, ← hA]; rfl, hx.1, hx.2, ?_, hfr, rfl, ?_⟩
  · rw [hcell]
    simp [By, hj, List.getD_eq_getElem?_getD]
  · refine DkTo.row h hk (r := ⟨r.A, r.c, r.l.set j y⟩) ?_ ?_ (.inl (by rw [hr]; rfl)) ?_
    · have e : (dkC m).toArray.setIfInBounds (1 + k) (⟨r.A, r.c, r.l.set j y⟩ : RowM).v = (dkC m).toArray := by
        rw [hv]
        have h1 := dkC_row hk2
        rw [hr] at h1
        have h2 : 1 + k < (dkC m).length := by rw [dkC_len h.n]; omega
        rw [List.setIfInBounds_toArray]
        congr 1
        apply List.ext_getElem (by simp)
        intro i h3 h4
        rw [List.getElem_set]
        split
        · rename_i e
          subst e
          rw [List.getElem?_eq_getElem h4] at h1
          exact (Option.some.inj h1).symm
        · rfl
      rw [e]
      exact h.b.far (p := ⟨a, j, none⟩) (fun e => hag e.symm) _
    · show World.ownsRow _ _ _ _ _ _ _
      rw [hv, show (⟨r.A, r.c, r.l.set j y⟩ : RowM).l.length = r.l.length from List.length_set, show By (⟨r.A, r.c, r.l.set j y⟩ : RowM).l = (By r.l).set j (.int .u8 (y.toNat : Int)) from hb.symm]
      exact hown
    · rw [hr]
      exact (Keeps.refl _ w).setCell (.inr (by show r.A.map _ = _; rw [hA]; rfl)) _
theorem xor_u8 (x y : UInt8) : bits .xor .u8 (x.toNat : Int) (y.toNat : Int) = ((x.toNat ^^^ y.toNat : Nat) : Int) :=
  u8_xor_nat _ _ x.toNat_lt y.toNat_lt

set_option maxHeartbeats 4000000 in
theorem edit_any (w : World) (g : Nat) (m : DkM) (h : DkOk w g m) (wf : DkWf m.d) (hW : m.W.length ≤ 1000) (log n : Int) (y : UInt8) : Calls Tryd.prog 31 #[ptrD g, .int .i64 log, .int .i64 n, .int .u8 (y.toNat : Int)] w (DkPost w g m (editD m.d log n y)) := by
  have H := Lib.hid h
  have HWf := Lib.hid wf
  have HWl := Lib.hid hW
  have HM : Hid (w.cell? ⟨g, 0, none⟩ = some (.bool true)) := h.made
  obtain ⟨R, hR⟩ : ∃ R, editD m.d log n y = R := ⟨_, rfl⟩
  have HR := Lib.hid hR
  rw [hR]
  unfold ptrD
  clear h wf hW hR
  cases h1 : mayD log with
  | false =>
    have HRn : Hid (R = (m.d, 2)) := by show _ = _; rw [← HR.out, editD, h1]; rfl
    go_enter Tryd.func31, Tryd.ntmps31
    go_wp2_with (first
      | (go_at_call 39; refine (isMade_any w g true HM.out).mono ?_; rintro e w1 ⟨rfl, hw1⟩; obtain rfl := hw1.symm)
      | (go_at_call 43; refine (mayLog_any _ log).mono ?_; rw [h1]; rintro e w2 ⟨rfl, hw2⟩; obtain rfl := hw2.symm))
    go_ret
    exact DkPost.no H.out HRn.out rfl
  | true =>
    obtain ⟨l0, l1⟩ := mayD_iff h1
    obtain ⟨i, rfl⟩ : ∃ i : Nat, log = (i : Int) := ⟨log.toNat, by omega⟩
    have hi16 : i < 16 := by omega
    obtain ⟨A0, c0, hc0, -⟩ := H.out.now hi16
    obtain ⟨l, hl⟩ : ∃ l, (rowD m.d.X (16 + i)).length = l := ⟨_, rfl⟩
    have HLe := Lib.hid hl
    rw [hl] at hc0
    clear hl
    by_cases hn : n < 0
    · have HRn : Hid (R = (m.d, 2)) := by show _ = _; rw [← HR.out, editD, h1, decide_eq_false (show ¬ (0 ≤ n) by omega)]; rfl
      have hd : decide (n < 0) = true := decide_eq_true hn
      go_enter Tryd.func31, Tryd.ntmps31
      go_wp2_with (first
        | (go_at_call 39; refine (isMade_any w g true HM.out).mono ?_; rintro e w1 ⟨rfl, hw1⟩; obtain rfl := hw1.symm)
        | (go_at_call 43; refine (mayLog_any _ _).mono ?_; rw [h1]; rintro e w2 ⟨rfl, hw2⟩; obtain rfl := hw2.symm))
      go_ret
      exact DkPost.no H.out HRn.out rfl
    · have hd : decide (n < 0) = false := decide_eq_false hn
      by_cases hg : (l : Int) ≤ n
      · have HRn : Hid (R = (m.d, 2)) := by show _ = _; rw [← HR.out, editD, h1, Int.toNat_natCast, HLe.out, decide_eq_true (show (0 ≤ n) by omega), decide_eq_false (show ¬ (n < (l : Int)) by omega)]; rfl
        go_enter Tryd.func31, Tryd.ntmps31
        go_wp2_with (first
          | (go_at_call 39; refine (isMade_any w g true HM.out).mono ?_; rintro e w1 ⟨rfl, hw1⟩; obtain rfl := hw1.symm)
          | (go_at_call 43; refine (mayLog_any _ _).mono ?_; rw [h1]; rintro e w2 ⟨rfl, hw2⟩; obtain rfl := hw2.symm))
        go_ret
        exact DkPost.no H.out HRn.out rfl
      · have hgd : decide ((l : Int) ≤ n) = false := decide_eq_false hg
        obtain ⟨k, rfl⟩ : ∃ k : Nat, n = (k : Int) := ⟨n.toNat, by omega⟩
        have HRn : Hid (R = (flipD (settleD m.d.W.length m.d) i k y, 0)) := by show _ = _; rw [← HR.out, editD, h1, Int.toNat_natCast, Int.toNat_natCast, HLe.out, decide_eq_true (show (0 ≤ (k : Int)) by omega), decide_eq_true (show ((k : Int) < (l : Int)) by omega)]; rfl
        have hkl : k < l := by omega
        have HKl := Lib.hid hkl
        have c33 : w.cell? ⟨g, 33, none⟩ = some (.slice m.A m.W.length m.c) := H.out.wait
        have HSe := Lib.hid (settle_any w g m H.out HWf.out m.W.length (Nat.le_refl _) HWl.out)
        have HDl : Hid (m.d.W.length = m.W.length) := List.length_map _
        have HWf1 := Lib.hid (settleD_wf HWf.out m.W.length)
        go_enter Tryd.func31, Tryd.ntmps31
        go_upto_region 6 with (first
          | (go_at_call 39; refine (isMade_any w g true HM.out).mono ?_; rintro e w1 ⟨rfl, hw1⟩; obtain rfl := hw1.symm)
          | (go_at_call 43; refine (mayLog_any _ _).mono ?_; rw [h1]; rintro e w2 ⟨rfl, hw2⟩; obtain rfl := hw2.symm)
          | (go_at_call 40; refine HSe.out.mono ?_; unfold SettlePost; rintro e w3 ⟨rfl, m3, hm3, hd3⟩; have M3 := Lib.hid hm3; have D3 := Lib.hid hd3; clear hm3 hd3))
        have HX : Hid (rowD m3.d.X (16 + i) = rowD m.d.X (16 + i)) := by
          show _ = _
          rw [D3.out]
          show rowD (doAll 0 m.d.X (m.d.W.take m.W.length)) _ = _
          exact doAll_far HWf.out.n (by rw [← HDl.out, List.take_length]; exact HWf.out.w) _ (by omega)
        have hS : (rowD m3.d.X i).length = l := by
          have h5 := (D3.out ▸ HWf1.out : DkWf m3.d).e i hi16
          have h6 : m3.d.W = [] := by rw [D3.out]; show m.d.W.drop m.W.length = []; rw [← HDl.out, List.drop_length]
          rw [h6] at h5
          have h7 : rowD m3.d.X (16 + i) = rowD m3.d.X i := h5
          rw [← h7, HX.out, HLe.out]
        obtain ⟨a, c, r', hcr, hlc, hcm, hca, hfa, hrl, hto⟩ := RowM.flip M3.out.ok (k := i) (by omega) (j := k) (y := (rowD m3.d.X i).getD k 0 ^^^ y) (by rw [hS]; exact HKl.out)
        rw [hS] at hcr hlc
        rw [show 1 + i = 1 + i from rfl] at hcr
        have TO := Lib.hid hto
        have RL := Lib.hid hrl
        obtain ⟨x, hx⟩ : ∃ x, (rowD m3.d.X i).getD k 0 = x := ⟨_, rfl⟩
        rw [hx] at hca TO RL
        have hxw := xor_u8 x y
        rw [UInt8.toNat_xor] at TO
        clear hto hrl c33 hc0
        have HIN : ((k : Int) < (l : Int)) := by omega
        go_upto_region 7 with fail
        obtain ⟨w4, hw4⟩ : ∃ W, w3.setCell ⟨a, k, none⟩ (.int .u8 ((x.toNat ^^^ y.toNat : Nat) : Int)) = W := ⟨_, rfl⟩
        rw [hw4] at TO ⊢
        obtain ⟨m4, hm4⟩ : ∃ M, ({ m3 with rows := m3.rows.set i r' } : DkM) = M := ⟨_, rfl⟩
        rw [hm4] at TO
        have hi3 : i < m3.d.X.length := by rw [D3.out]; show i < (doAll _ _ _).length; rw [doAll_len, HWf.out.n]; omega
        have D4 : Hid (m4.d = { m3.d with X := m3.d.X.set i r'.l }) := by show _ = _; rw [← hm4, DkM.set_d]
        have X4 : Hid (rowD m4.d.X (16 + i) = rowD m.d.X (16 + i)) := by
          show _ = _
          rw [D4.out]
          show rowD (m3.d.X.set i r'.l) _ = _
          rw [rowD_set hi3, if_neg (by omega), HX.out]
        have HI3 := Lib.hid hi3
        clear hcr hlc hcm hca hfa hS hw4 hm4 hxw hi3
        obtain ⟨a5, c5, r5, hcr, hlc, hcm, hca, hfa, hrl, hto⟩ := RowM.flip TO.out.ok (k := 16 + i) (by omega) (j := k) (y := (rowD m4.d.X (16 + i)).getD k 0 ^^^ y) (by rw [X4.out, HLe.out]; exact HKl.out)
        rw [show 1 + (16 + i) = 17 + i by omega] at hcr
        rw [show (rowD m4.d.X (16 + i)).length = l by rw [X4.out, HLe.out]] at hcr hlc
        have TO5 := Lib.hid hto
        have RL5 := Lib.hid hrl
        obtain ⟨x5, hx5⟩ : ∃ x, (rowD m4.d.X (16 + i)).getD k 0 = x := ⟨_, rfl⟩
        rw [hx5] at hca TO5 RL5
        have hxw5 := xor_u8 x5 y
        rw [UInt8.toNat_xor] at TO5
        clear hto hrl
        go_wp2
        go_ret
        refine ⟨by rw [HRn.out] <;> rfl, _, (M3.out.trans TO.out).trans TO5.out, ?_⟩
        have e1 : rowD m4.d.X (16 + i) = rowD m3.d.X (16 + i) := by rw [X4.out, HX.out]
        have q5 : r5.l = xorAt (rowD m3.d.X (16 + i)) k y := by rw [RL5.out, ← hx5, e1]; rfl
        have q4 : r'.l = xorAt (rowD m3.d.X i) k y := by rw [RL.out, ← hx]; rfl
        rw [HRn.out, DkM.set_d, q5, D4.out, q4, HDl.out, ← D3.out]
        rfl
end Go.Proofs.YthamlphebnhcpaaDoor
