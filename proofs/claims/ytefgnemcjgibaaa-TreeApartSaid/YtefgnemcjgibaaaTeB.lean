/-
  tree: the node whose numbers can be dealt anew.
-/
import Derived.Test.YtefgnemcjgibaaaTeA
namespace Go.Proofs.Ytefgnemcjgibaaa
open Go.RowKit

theorem te_unguard {P : Program} {ops : Array Oper} {rest : List Oper} {o : Oper} {a : Act} {w : World} {Q : Exit → Act → World → Prop} (hw : Region.wanted o (yielded ops a.tmps) = true)
    (h : wpList P ops Q ({ o with guard := none } :: rest) a w) : wpList P ops Q (o :: rest) a w := by
  unfold wpList at h ⊢
  rw [if_pos hw]
  rw [if_pos (by simp [Region.wanted])] at h
  exact h
theorem cnt_pos {T : List Nd} {n : Nat} (hn : n < T.length) (out : Nat) (h : out ≠ 0 → ¬ Und T n out) : 0 < cntT T n out := by
  unfold cntT
  refine List.length_pos_of_mem (a := n) (List.mem_filter.2 ⟨List.mem_range.2 hn, ?_⟩)
  exact @decide_eq_true _ (Classical.propDecidable _) ⟨hn, .refl _, h⟩
theorem cnt_le (T : List Nd) (n out : Nat) : cntT T n out ≤ T.length := by
  unfold cntT
  refine Nat.le_trans (List.length_filter_le _ _) ?_
  simp
set_option maxRecDepth 100000 in
set_option maxHeartbeats 4000000 in
theorem te_roomy (w : World) (base : Nat) (m : TrM) (h : TrOk w base m) (hS : TrS m) (p : Nat) (hp : p < m.L.length) (hiv : ∀ v, Und m.T p v → 1 ≤ (ndT m.T v).lo ∧ (ndT m.T v).lo ≤ (ndT m.T v).hi ∧ (ndT m.T v).hi ≤ 4611686018427387904) :
    Calls Try.prog 36 #[.pointer (some ⟨m.q, 0, none⟩), .int .i64 (p : Int)] w fun e w' => ∃ top : Nat, e = .returned (.int .i64 (top : Int)) ∧ Und m.T p top ∧ (top = 0 ∨ 16 * cntT m.T top 0 ≤ ((ndT m.T top).hi - (ndT m.T top).lo + 1) / cntT m.T top 0) ∧ Below w.heap.size w w' := by
  have hmx : m.L.length ≤ 1000 := by have := hS.ok.max; rwa [m.T_len] at this
  have HH := Lib.hid h
  have HS := Lib.hid hS
  have HI := Lib.hid hiv
  clear h hS hiv
  go_enter Try.func36, Try.ntmps36
  go_wp2_with (go_at_call 32; refine (te_below w base m HH.out HS.out p hp 0).mono ?_; rintro e1 w1 ⟨Q1, A1, c1, rfl, ho1, hb1, hf1⟩; have V1 := Lib.hid hb1; have F1 : Hid (Q1.length = cntT m.T p 0) := hf1.cnt HS.out.ok (by rw [m.T_len]; exact hp) (.inl rfl); have hq1 : Q1.length ≤ 1000 := (by have := hf1.len.2; rw [m.T_len] at this; omega); clear ho1 hb1 hf1)
  go_loopw [1, 5] (fun nv sv wr => ∃ v s : Nat, nv = .int .i64 v ∧ sv = .int .i64 s ∧ Hid (Und m.T p v) ∧ Hid (s = cntT m.T v 0) ∧ Hid (Below w.heap.size w wr)) (fun nv _ _ => (intOf nv).toNat)
  case atStart => exact ⟨p, Q1.length, rfl, rfl, .refl _, F1.out, V1.out⟩
  case round =>
    obtain ⟨v, s, rfl, rfl, HU, HC, HV⟩ := hrel
    have hvp := HU.out.le HS.out.ok
    have hvl : v < m.L.length := by omega
    have hvT : v < m.T.length := by rw [m.T_len]; exact hvl
    have hs1 : 1 ≤ s := by rw [HC.out]; exact cnt_pos hvT 0 (fun h => absurd rfl h)
    have hs2 : s ≤ 1000 := by rw [HC.out]; have := cnt_le m.T v 0; rw [m.T_len] at this; omega
    by_cases hv0 : v = 0
    · subst hv0
      go_wp2
      go_ret
      exact ⟨0, rfl, HU.out, .inl rfl, HV.out⟩
    · have hvn : ((v : Int) != 0) = true := by rw [bne_iff_ne]; omega
      have hvn2 : ((v : Int) == 0) = false := by rw [beq_eq_false_iff_ne]; omega
      have HT : Hid (TrOk wr base m) := HH.out.later HV.out
      obtain ⟨g, hnA, hg, hgb, hc0, hr⟩ := nd_cells HT.out hvl
      have hiv := HI.out v HU.out
      have hTv := m.T_at hvl
      obtain ⟨x, hx⟩ : ∃ x, m.L[v] = x := ⟨_, rfl⟩
      rw [hx] at hr hTv
      rw [hTv] at hiv
      have HR := Lib.hid hr
      have hcp := (nd_c hr).1
      have hwd : x.d.hi - x.d.lo + 1 ≤ 4611686018427387904 := by omega
      have hvn3 : (v : Int) < (m.L.length : Int) := by omega
      have HWd := Lib.hid (te_width wr x hiv.2.1 hiv.2.2)
      have HTv := Lib.hid hTv
      have HQl : Hid (m.q < wr.heap.size) := HT.out.b.lt
      have HGl := Lib.hid hg
      obtain ⟨z, hz⟩ : ∃ z, x.d.hi - x.d.lo + 1 = z := ⟨_, rfl⟩
      rw [hz] at hwd HWd
      have HZ := Lib.hid hz
      have hpl := HS.out.ok.lt v (by omega) hvT
      rw [HTv.out] at hpl
      have hkid : v ∈ kidsT m.T x.d.par := mem_kids.2 ⟨by omega, hvT, by rw [HTv.out]⟩
      have HKid := Lib.hid hkid
      have HQ0 := Lib.hid hc0
      have HP0 := Lib.hid hcp
      clear hr hg hgb hnA hx hTv hz hiv hkid hc0 hcp
      have hrm := fun W => te_isRoomy W z s hs1 hs2 hwd
      cases hb : decide (16 * s ≤ z / s) with
      | true =>
        rw [hb] at hrm
        have HRm := Lib.hid hrm
        have HBt := Lib.hid (of_decide_eq_true hb)
        clear hrm hb
        have hcq := HQ0.out
        go_wp2_with (first
          | ((with_reducible show wpList _ _ _ (⟨some 20, _, _, _, _, _⟩ :: _) _ _); refine te_unguard (by rfl) ?_; refine wpList_load_mid rfl 54 (.tmp 19) rfl g (v * 5) rfl (tndC x) _ HR.out Try.underlying54 rfl Try.tsizeN ?_)
          | (go_at_call 39; refine HWd.out.mono ?_; rintro e2 w2 ⟨rfl, hb2⟩; have V2 : Hid (Below w.heap.size w w2) := nxTo HV.out hb2; clear hb2)
          | (go_at_call 41; refine (HRm.out _).mono ?_; rintro e3 w3 ⟨rfl, hw3⟩; obtain rfl := hw3.symm))
        go_ret
        exact ⟨v, rfl, HU.out, .inr (by rw [← HC.out, HTv.out, HZ.out]; exact HBt.out), V2.out⟩
      | false =>
        rw [hb] at hrm
        have HRm := Lib.hid hrm
        clear hrm hb
        have hcq := HQ0.out
        go_wp2_with (first
          | ((with_reducible show wpList _ _ _ (⟨some 20, _, _, _, _, _⟩ :: _) _ _); refine te_unguard (by rfl) ?_; refine wpList_load_mid rfl 54 (.tmp 19) rfl g (v * 5) rfl (tndC x) _ HR.out Try.underlying54 rfl Try.tsizeN ?_)
          | (go_at_call 39; refine HWd.out.mono ?_; rintro e2 w2 ⟨rfl, hb2⟩; have V2 : Hid (Below w.heap.size w w2) := nxTo HV.out hb2; have cq2 : w2.cell? ⟨m.q, 0, none⟩ = some (.slice (some ⟨g, 0, none⟩) m.L.length m.nc) := (hb2.cell (p := ⟨m.q, 0, none⟩) HQl.out).trans HQ0.out; have cp2 : w2.cell? ⟨g, v * 5, none⟩ = some (.int .i64 (x.d.par : Int)) := (hb2.cell (p := ⟨g, v * 5, none⟩) HGl.out).trans HP0.out; clear hb2)
          | (go_at_call 41; refine (HRm.out _).mono ?_; rintro e3 w3 ⟨rfl, hw3⟩; obtain rfl := hw3.symm)
          | (go_at_call 32; refine (te_below w2 base m (HH.out.later V2.out) HS.out x.d.par (by omega) v).mono ?_; rintro e4 w4 ⟨Q4, A4, c4, rfl, ho4, hb4, hf4⟩; have V4 : Hid (Below w.heap.size w w4) := nxTo V2.out hb4; have F4 : Hid (Q4.length = cntT m.T x.d.par v) := hf4.cnt HS.out.ok (by omega) (.inr HKid.out); have hq4 : Q4.length ≤ 1000 := (by have := hf4.len.2; rw [m.T_len] at this; omega); clear ho4 hb4 hf4))
        go_roundw
        case rel =>
          refine ⟨x.d.par, s + Q4.length, rfl, by go_num, ?_, ?_, V4.out⟩
          · exact HU.out.trans (Und.kid HKid.out)
          · show _ = _
            rw [F4.out, HC.out, cnt_up HS.out.ok HKid.out]
        case measure => simp [intOf] <;> omega
end Go.Proofs.Ytefgnemcjgibaaa
