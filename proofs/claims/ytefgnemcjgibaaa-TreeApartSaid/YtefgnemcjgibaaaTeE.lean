/-
  tree: Add, whether intervals are dealt anew or not; the chapter's rows.
-/
import Derived.Test.YtefgnemcjgibaaaTeD
namespace Go.Proofs.Ytefgnemcjgibaaa
open Go.RowKit

theorem grow_tfoot_T {m : TrM} (T : List Nd) (d : Nat) (h : T.length = m.L.length) (k : Nat) : tfoot { m.withT T with dl := d } k → tfoot m k := by
  rintro (e | e | ⟨y, hy, e⟩)
  · exact .inl e
  · exact .inr (.inl e)
  · obtain ⟨i, hi, rfl⟩ := List.getElem_of_mem hy
    have hi' : i < (m.withT T).L.length := hi
    have hi2 : i < m.L.length := by rw [withT_len h] at hi'; exact hi'
    have e1 : (m.withT T).L[i].kA = m.L[i].kA := by rw [withT_at h hi2]; rfl
    exact .inr (.inr ⟨_, List.getElem_mem hi2, by rw [← e1]; exact e⟩)
theorem te_addT (w : World) (base : Nat) (m : TrM) (h : TrOk w base m) (hI : TrI m) (p : Nat) (hp : p < m.L.length) (hm : m.L.length + 1 ≤ 1000) :
    Calls Try.prog 25 #[.pointer (some ⟨m.q, 0, none⟩), .int .i64 (p : Int)] w fun e w' => e = .returned (.tuple #[.int .i64 (m.L.length : Int), .int .i64 0]) ∧ ∃ m', TrTo w base m p m' w' := by
  refine te_add w base m h hI p hp hm (fun hf w1 m1 hg => ?_)
  obtain ⟨A, c, kA, kc, hme⟩ := hg.e
  have hpT : p < m.T.length := by rw [m.T_len]; exact hp
  have hl : layT m.T p = (0, 0) := by unfold layT; rw [if_neg hf]
  have hT : m1.T = m.T ++ [⟨p, (ndT m.T p).dep + 1, 0, 0⟩] := by rw [hme, grow_T hp, hl]
  have hlen : m1.L.length = m.L.length + 1 := by rw [hme, grow_len]
  have hok : OkT m1.T := by rw [hT]; exact hI.ok.add hpT rfl (by rw [m.T_len]; exact hm)
  have hS : TrS m1 := ⟨hok, fun i hi => by subst hme; exact grow_kids hI hp _ _ _ _ _ i hi⟩
  have hq : m1.q = m.q := by rw [hme]; rfl
  have hdl : m1.dl = m.dl := by rw [hme]; rfl
  have hiv : ∀ v, Und m1.T p v → 1 ≤ (ndT m1.T v).lo ∧ (ndT m1.T v).lo ≤ (ndT m1.T v).hi ∧ (ndT m1.T v).hi ≤ 4611686018427387904 := fun v hv => by
    have := hv.le hok
    rw [hT, ndT_app (by omega)]
    exact hI.iv.ok v (by omega)
  rw [← hq]
  refine (te_roomy w1 base m1 hg.ok hS p (by omega) hiv).mono fun e w2 hr => ?_
  obtain ⟨top, rfl, hu, hr, hb2⟩ := hr
  refine ⟨top, rfl, ?_⟩
  have htp := hu.le hok
  have htT : top < m.T.length := by omega
  obtain ⟨v1, v2, v3⟩ := hiv top hu
  have hc1 := cnt_pos (T := m1.T) (n := top) (by rw [m1.T_len]; omega) 0 (fun h => absurd rfl h)
  have hc2 := cnt_le m1.T top 0
  rw [m1.T_len] at hc2
  have hshr : 2 * cntT m1.T top 0 - 1 ≤ (ndT m1.T top).hi - (ndT m1.T top).lo + 1 := by
    rcases hr with h0 | hr
    · subst h0
      rw [hok.r]
      show _ ≤ 4611686018427387904 - 1 + 1
      omega
    · generalize cntT m1.T top 0 = q at *
      have := (Nat.le_div_iff_mul_le hc1).1 hr
      have h9 : 16 * q * 1 ≤ 16 * q * q := Nat.mul_le_mul_left _ hc1
      omega
  refine (te_deal w2 base m1 (hg.ok.later hb2) hS top (by omega) v1 v2 v3 (by have := hI.dl; omega) hshr).mono fun e w3 hd => ?_
  obtain ⟨rfl, Q, hbf, hok3, hk3⟩ := hd
  have hW := hbf.wq hok (by rw [m1.T_len]; omega)
  have hZ := szF_ok hbf.len.1 hW.hu
  have hD := dT_ok (Q := Q) (S := szF Q Q.length) (sh := ((ndT m1.T top).hi - (ndT m1.T top).lo + 1) / (2 * Q.length - 1)) (T := m1.T) hW.hu hW.hn hW.hr Q.length (Nat.le_refl _)
  have hq9 := hbf.cnt hok (by rw [m1.T_len]; omega) (.inl rfl)
  rw [← hq9] at hshr
  have hq1 := hbf.len.1
  have hsh1 : 1 ≤ ((ndT m1.T top).hi - (ndT m1.T top).lo + 1) / (2 * Q.length - 1) := (Nat.le_div_iff_mul_le (by omega)).2 (by omega)
  have hut : Und m.T p top := by
    rw [hT] at hu
    exact und_app hI.ok hpT hu
  have hout : IvOut m1.T top := by
    rw [hT]
    exact IvT.out (x := ⟨p, (ndT m.T p).dep + 1, 0, 0⟩) hI.iv hI.ok hpT htT hut
  have hiv3 := deal_iv hok hD hW hZ hout (by rw [m1.T_len]; omega) hsh1 (Nat.div_mul_le_self _ _)
  generalize hRR : dT Q (szF Q Q.length) (((ndT m1.T top).hi - (ndT m1.T top).lo + 1) / (2 * Q.length - 1)) m1.T Q.length = r at *
  have hrl : r.1.length = m1.L.length := by rw [hD.par.1, m1.T_len]
  have hr0 : ndT r.1 0 = ndT m1.T 0 := hD.keep 0 (fun k k0 k1 e => by
    have := hW.par k k0 k1
    omega)
  have hT3 : ({ m1.withT r.1 with dl := m1.dl + 1 } : TrM).T = r.1 := withT_T hrl
  refine ⟨rfl, { m1.withT r.1 with dl := m1.dl + 1 }, hok3, ⟨?_, ?_, ?_, ?_⟩, hq, ?_, ?_, ?_, ?_, ?_⟩
  · rw [hT3]; exact hok.same hD.par hD.dep hr0
  · rw [hT3]; exact hiv3
  · intro i hi
    exact withT_kids hS hD.par i hi
  · show m1.dl + 1 < (m1.withT r.1).L.length
    rw [withT_len hrl, hdl, hlen]
    have := hI.dl
    omega
  · show (m1.withT r.1).L.length = _
    rw [withT_len hrl, hlen]
  · intro n hn
    rw [hT3, hD.par.2, hD.dep, hT, ndT_app (by rw [m.T_len]; exact hn)]
    exact ⟨rfl, rfl⟩
  · rw [hT3, hD.par.2, hD.dep, hT, ← m.T_len, ndT_last]
    exact ⟨rfl, rfl⟩
  · refine (hg.k.trans (Keeps.of_below hb2 _)).chain hk3 (fun k hk e => ?_)
    have : tfoot m1 k := by
      rcases e with e | e
      · exact .inl e
      · exact .inr (.inl e)
    rcases hg.f k this with h9 | h9
    · exact h9
    · omega
  · intro k hf3
    exact hg.f k (grow_tfoot_T _ _ hrl k hf3)
end Go.Proofs.Ytefgnemcjgibaaa
