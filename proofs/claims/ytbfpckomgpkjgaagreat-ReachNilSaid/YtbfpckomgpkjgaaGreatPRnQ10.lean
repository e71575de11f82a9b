/-
  tree: Add, whether intervals are dealt anew or not; the chapter's rows.
  tree: the chapter's rows.
  reach: a chain's end; where one would stand in a cover.
-/
import Derived.Test.YtbfpckomgpkjgaaGreatTeD
import Derived.Test.YtbfpckomgpkjgaaGreatPRnQ8
import Derived.Deep.LoopGhost
namespace Go.Proofs.YtbfpckomgpkjgaaGreat
open Go.RowKit

theorem grow_tfoot_T {m : TrM} (T : List Nd) (d : Nat) (h : T.length = m.L.length) (k : Nat) : tfoot { m.withT T with dl := d } k → tfoot m k := by
  rintro (e | e | ⟨y, hy, e⟩)
  · exact .inl e
  · exact .inr (.inl e)
  · obtain ⟨i, hi, rfl⟩ := List.getElem_of_mem hy
    have hi' : i < (m.withT T).L.length := hi
    have hi2 : i < m.L.length := by rw [withT_len h] at hi'; exact hi'
    have e1 : (m.withT T).L[i].kA = m.L[i].kA := by rw [withT_at h hi2]; rfl
    exact .inr (.inr ⟨_, List.getElem_mem hi2, by rw [← e1]; exact e⟩)
theorem te_addT (w : World) (base : Nat) (m : TrM) (h : TrOk w base m) (hI : TrI m) (p : Nat) (hp : p < m.L.length) (hm : m.L.length + 1 ≤ 1000) :
    Calls Tryz.prog 58 #[.pointer (some ⟨m.q, 0, none⟩), .int .i64 (p : Int)] w fun e w' => e = .returned (.tuple #[.int .i64 (m.L.length : Int), .int .i64 0]) ∧ ∃ m', TrTo w base m p m' w' := by
  refine te_add w base m h hI p hp hm (fun hf w1 m1 hg => ?_)
  obtain ⟨A, c, kA, kc, hme⟩ := hg.e
  have hpT : p < m.T.length := by rw [m.T_len]; exact hp
  have hl : layT m.T p = (0, 0) := by unfold layT; rw [if_neg hf]
  have hT : m1.T = m.T ++ [⟨p, (ndT m.T p).dep + 1, 0, 0⟩] := by rw [hme, grow_T hp, hl]
  have hlen : m1.L.length = m.L.length + 1 := by rw [hme, grow_len]
  have hok : OkT m1.T := by rw [hT]; exact hI.ok.add hpT rfl (by rw [m.T_len]; exact hm)
  have hS : TrS m1 := ⟨hok, fun i hi => by subst hme; exact grow_kids hI hp _ _ _ _ _ i hi⟩
  have hq : m1.q = m.q := by rw [hme]; rfl
  have hdl : m1.dl = m.dl := by rw [hme]; rfl
  have hiv : ∀ v, Und m1.T p v → 1 ≤ (ndT m1.T v).lo ∧ (ndT m1.T v).lo ≤ (ndT m1.T v).hi ∧ (ndT m1.T v).hi ≤ 4611686018427387904 := fun v hv => by
    have := hv.le hok
    rw [hT, ndT_app (by omega)]
    exact hI.iv.ok v (by omega)
  rw [← hq]
  refine (te_roomy w1 base m1 hg.ok hS p (by omega) hiv).mono fun e w2 hr => ?_
  obtain ⟨top, rfl, hu, hr, hb2⟩ := hr
  refine ⟨top, rfl, ?_⟩
  have htp := hu.le hok
  have htT : top < m.T.length := by omega
  obtain ⟨v1, v2, v3⟩ := hiv top hu
  have hc1 := cnt_pos (T := m1.T) (n := top) (by rw [m1.T_len]; omega) 0 (fun h => absurd rfl h)
  have hc2 := cnt_le m1.T top 0
  rw [m1.T_len] at hc2
  have hshr : 2 * cntT m1.T top 0 - 1 ≤ (ndT m1.T top).hi - (ndT m1.T top).lo + 1 := by
    rcases hr with h0 | hr
    · subst h0
      rw [hok.r]
      show _ ≤ 4611686018427387904 - 1 + 1
      omega
    · generalize cntT m1.T top 0 = q at *
      have := (Nat.le_div_iff_mul_le hc1).1 hr
      have h9 : 16 * q * 1 ≤ 16 * q * q := Nat.mul_le_mul_left _ hc1
      omega
  refine (te_deal w2 base m1 (hg.ok.later hb2) hS top (by omega) v1 v2 v3 (by have := hI.dl; omega) hshr).mono fun e w3 hd => ?_
  obtain ⟨rfl, Q, hbf, hok3, hk3⟩ := hd
  have hW := hbf.wq hok (by rw [m1.T_len]; omega)
  have hZ := szF_ok hbf.len.1 hW.hu
  have hD := dT_ok (Q := Q) (S := szF Q Q.length) (sh := ((ndT m1.T top).hi - (ndT m1.T top).lo + 1) / (2 * Q.length - 1)) (T := m1.T) hW.hu hW.hn hW.hr Q.length (Nat.le_refl _)
  have hq9 := hbf.cnt hok (by rw [m1.T_len]; omega) (.inl rfl)
  rw [← hq9] at hshr
  have hq1 := hbf.len.1
  have hsh1 : 1 ≤ ((ndT m1.T top).hi - (ndT m1.T top).lo + 1) / (2 * Q.length - 1) := (Nat.le_div_iff_mul_le (by omega)).2 (by omega)
  have hut : Und m.T p top := by
    rw [hT] at hu
    exact und_app hI.ok hpT hu
  have hout : IvOut m1.T top := by
    rw [hT]
    exact IvT.out (x := ⟨p, (ndT m.T p).dep + 1, 0, 0⟩) hI.iv hI.ok hpT htT hut
  have hiv3 := deal_iv hok hD hW hZ hout (by rw [m1.T_len]; omega) hsh1 (Nat.div_mul_le_self _ _)
  generalize hRR : dT Q (szF Q Q.length) (((ndT m1.T top).hi - (ndT m1.T top).lo + 1) / (2 * Q.length - 1)) m1.T Q.length = r at *
  have hrl : r.1.length = m1.L.length := by rw [hD.par.1, m1.T_len]
  have hr0 : ndT r.1 0 = ndT m1.T 0 := hD.keep 0 (fun k k0 k1 e => by
    have := hW.par k k0 k1
    omega)
  have hT3 : ({ m1.withT r.1 with dl := m1.dl + 1 } : TrM).T = r.1 := withT_T hrl
  refine ⟨rfl, { m1.withT r.1 with dl := m1.dl + 1 }, hok3, ⟨?_, ?_, ?_, ?_⟩, hq, ?_, ?_, ?_, ?_, ?_⟩
  · rw [hT3]; exact hok.same hD.par hD.dep hr0
  · rw [hT3]; exact hiv3
  · intro i hi
    exact withT_kids hS hD.par i hi
  · show m1.dl + 1 < (m1.withT r.1).L.length
    rw [withT_len hrl, hdl, hlen]
    have := hI.dl
    omega
  · show (m1.withT r.1).L.length = _
    rw [withT_len hrl, hlen]
  · intro n hn
    rw [hT3, hD.par.2, hD.dep, hT, ndT_app (by rw [m.T_len]; exact hn)]
    exact ⟨rfl, rfl⟩
  · rw [hT3, hD.par.2, hD.dep, hT, ← m.T_len, ndT_last]
    exact ⟨rfl, rfl⟩
  · refine (hg.k.trans (Keeps.of_below hb2 _)).chain hk3 (fun k hk e => ?_)
    have : tfoot m1 k := by
      rcases e with e | e
      · exact .inl e
      · exact .inr (.inl e)
    rcases hg.f k this with h9 | h9
    · exact h9
    · omega
  · intro k hf3
    exact hg.f k (grow_tfoot_T _ _ hrl k hf3)
end Go.Proofs.YtbfpckomgpkjgaaGreat

namespace Go.Proofs.YtbfpckomgpkjgaaGreat
open Go.RowKit

theorem TrTo.v {w0 w w' : World} {base p : Nat} {m m' : TrM} (hv : Below w0.heap.size w0 w) (hg : TrOk w base m) (ha : TrTo w base m p m' w') (hb : w0.heap.size ≤ base) : Below w0.heap.size w0 w' := hv.trans (ha.k.below hv.size fun j hj hf => by have := (hg.lt hf).1; omega)
theorem te_undT (w : World) (base : Nat) (m : TrM) (h : TrOk w base m) (hI : TrI m) (a b : Nat) (ha : a < m.L.length) (hb : b < m.L.length) (z : Bool) (hz : (z = true ↔ Und m.T a b)) : Calls Tryz.prog 43 #[.pointer (some ⟨m.q, 0, none⟩), .int .i64 (a : Int), .int .i64 (b : Int)] w fun e w' => e = .returned (.bool z) ∧ Below w.heap.size w w' := by
  have h1 := te_und w base m h a b ha hb hI.max
  have h2 := hI.iv.iff hI.ok (a := a) (b := b) (by rw [m.T_len]; exact ha) (by rw [m.T_len]; exact hb)
  have h3 : decide ((ndT m.T b).lo ≤ (ndT m.T a).lo ∧ (ndT m.T a).hi ≤ (ndT m.T b).hi) = z := by
    cases z with
    | true => exact decide_eq_true (h2.1 (hz.1 rfl))
    | false => exact decide_eq_false (fun k => by have := hz.2 (h2.2 k); cases this)
  rw [h3] at h1
  exact h1
end Go.Proofs.YtbfpckomgpkjgaaGreat

namespace Go.Proofs.YtbfpckomgpkjgaaGreat
open Go.RowKit Go.Maps

set_option maxRecDepth 100000 in
theorem rx_end (w : World) (base : Nat) (m : RxM) (h : RxOk w base m) (hI : TrI m.t) (n : Nat) (hn : n < m.t.L.length) : Calls Tryz.prog 110 #[.pointer (some ⟨m.q, 0, none⟩), .int .i64 (n : Int)] w fun e w' => e = .returned (.int .u64 ((ndT m.t.T n).hi : Int)) ∧ Below w.heap.size w w' := by
  have hc : w.cell? ⟨m.q, 1, none⟩ = some (.pointer (some ⟨m.t.q, 0, none⟩)) := h.b.cell 1
  have H1 := Lib.hid (te_iv w base m.t h.t n hn hI.max)
  clear h hI
  go_enter Tryz.func110, Tryz.ntmps110
  go_wp2_with (go_at_call 127; refine H1.out.mono ?_; rintro e1 w1 ⟨rfl, hw1⟩; have V1 : Hid (Below w.heap.size w w1) := hw1; clear hw1)
  go_ret
  exact ⟨rfl, V1.out⟩
theorem rx_nan (x : Int) (w : World) : Calls Tryz.prog 128 #[.int .u64 x] w fun e w' => e = .returned (.bool false) ∧ w' = w := by
  go_enter Tryz.func128, Tryz.ntmps128
  go_wp2
  go_ret
  exact ⟨by simp, rfl⟩
theorem rx_cmp (a b : Nat) (w : World) : Calls Tryz.prog 112 #[.int .u64 (a : Int), .int .u64 (b : Int)] w fun e w' => e = .returned (.int .i64 (if a < b then -1 else if b < a then 1 else 0)) ∧ w' = w := by
  by_cases h1 : a < b
  · have h1' : (a : Int) < (b : Int) := by omega
    rw [if_pos h1]
    go_enter Tryz.func112, Tryz.ntmps112
    go_wp2_with (go_at_call 128; refine (rx_nan _ _).mono ?_; rintro e1 w1 ⟨rfl, hw1⟩; obtain rfl := hw1.symm)
    go_ret
    exact ⟨rfl, rfl⟩
  · have h1' : ¬ (a : Int) < (b : Int) := by omega
    rw [if_neg h1]
    by_cases h2 : b < a
    · have h2' : (b : Int) < (a : Int) := by omega
      rw [if_pos h2]
      go_enter Tryz.func112, Tryz.ntmps112
      go_wp2_with (go_at_call 128; refine (rx_nan _ _).mono ?_; rintro e1 w1 ⟨rfl, hw1⟩; obtain rfl := hw1.symm)
      go_ret
      exact ⟨rfl, rfl⟩
    · have h2' : ¬ (b : Int) < (a : Int) := by omega
      rw [if_neg h2]
      go_enter Tryz.func112, Tryz.ntmps112
      go_wp2_with (go_at_call 128; refine (rx_nan _ _).mono ?_; rintro e1 w1 ⟨rfl, hw1⟩; obtain rfl := hw1.symm)
      go_ret
      exact ⟨rfl, rfl⟩
def cmpN (a b : Nat) : Int := if a < b then -1 else if b < a then 1 else 0
theorem cmpN_neg {a b : Nat} : cmpN a b < 0 ↔ a < b := by
  unfold cmpN
  split
  · simp [*]
  · split <;> simp [*]
theorem rx_seat1 (w : World) (base : Nat) (m : RxM) (h : RxOk w base m) (hI : TrI m.t) (p : Nat) (hp : w.cell? ⟨p, 0, none⟩ = some (.pointer (some ⟨m.q, 0, none⟩))) (n x : Nat) (hn : n < m.t.L.length) : Calls Tryz.prog 111 #[.int .i64 (n : Int), .int .u64 (x : Int), .pointer (some ⟨p, 0, none⟩)] w fun e w' => e = .returned (.int .i64 (cmpN (ndT m.t.T n).hi x)) ∧ Below w.heap.size w w' := by
  have H1 := Lib.hid (rx_end w base m h hI n hn)
  have HC := fun W => rx_cmp (ndT m.t.T n).hi x W
  unfold cmpN
  obtain ⟨y, hy⟩ : ∃ y, (ndT m.t.T n).hi = y := ⟨_, rfl⟩
  rw [hy] at H1 HC
  rw [hy]
  replace HC := Lib.hid HC
  clear h hI hy
  obtain ⟨z, hz⟩ : ∃ z : Int, (if y < x then -1 else if x < y then 1 else 0) = z := ⟨_, rfl⟩
  rw [hz] at HC
  rw [hz]
  clear hz
  go_enter Tryz.func111, Tryz.ntmps111
  go_wp2_with (first
    | (go_at_call 110; refine H1.out.mono ?_; rintro e1 w1 ⟨rfl, hw1⟩; have V1 : Hid (Below w.heap.size w w1) := hw1; clear hw1)
    | (go_at_call 112; refine (HC.out _).mono ?_; rintro e2 w2 ⟨rfl, hw2⟩; obtain rfl := hw2.symm))
  go_ret
  exact ⟨rfl, V1.out⟩
set_option maxRecDepth 100000 in
set_option maxHeartbeats 4000000 in
theorem rx_search (w : World) (base : Nat) (m : RxM) (h : RxOk w base m) (hI : TrI m.t) (p : Nat) (hpw : p < w.heap.size) (hp : w.cell? ⟨p, 0, none⟩ = some (.pointer (some ⟨m.q, 0, none⟩))) (k : Nat) (hk : ∀ c ∈ m.C k, c < m.t.T.length) (hs : (m.C k).Pairwise (Lft m.t.T)) (n : Nat) (hlen : (m.C k).length ≤ 1000) :
    Calls Tryz.prog 109 #[.slice (m.f k).1 (m.C k).length (m.f k).2, .int .u64 ((ndT m.t.T n).hi : Int), .func (.func 111) #[] #[.pointer (some ⟨p, 0, none⟩)]] w fun e w' =>
      (∃ z, e = .returned (.tuple #[.int .i64 (seatN m.t.T (m.C k) n : Int), .bool z])) ∧ Below w.heap.size w w' := by
  obtain ⟨x, hx⟩ : ∃ x, (ndT m.t.T n).hi = x := ⟨_, rfl⟩
  obtain ⟨s, hsx⟩ : ∃ s, seatN m.t.T (m.C k) n = s := ⟨_, rfl⟩
  obtain ⟨l, hl⟩ : ∃ l, m.C k = l := ⟨_, rfl⟩
  obtain ⟨A, hA⟩ : ∃ A, (m.f k).1 = A := ⟨_, rfl⟩
  obtain ⟨c, hc⟩ : ∃ c, (m.f k).2 = c := ⟨_, rfl⟩
  have HI : Hid (∀ j (h : j < l.length), (ndT m.t.T l[j]).hi < x ↔ j < s) := fun j hj => by
    subst hl; subst hx; subst hsx
    exact seatN_iff hI.iv hk hs hj
  have HSl : Hid (s ≤ l.length) := by subst hl; subst hsx; exact seatN_le _ _ _
  have HC : Hid (∀ W, Below w.heap.size w W → ∀ j (h : j < l.length), ∃ g, A = some ⟨g, 0, none⟩ ∧ W.cell? ⟨g, j, none⟩ = some (.int .i64 (l[j] : Int))) := fun W hW j hj => by
    subst hl; subst hA
    obtain ⟨g, h1, h2, h3⟩ := h.cc hj
    exact ⟨g, h1, (hW.cell (p := ⟨g, j, none⟩) h2).trans h3⟩
  have HK : Hid (∀ W, Below w.heap.size w W → ∀ j (h : j < l.length), Calls Tryz.prog 111 #[.int .i64 (l[j] : Int), .int .u64 (x : Int), .pointer (some ⟨p, 0, none⟩)] W fun e w' => e = .returned (.int .i64 (cmpN (ndT m.t.T l[j]).hi x)) ∧ Below W.heap.size W w') := fun W hW j hj => by
    subst hl
    have := hk _ (List.getElem_mem hj)
    exact rx_seat1 W base m (h.later hW) hI p ((hW.cell (p := ⟨p, 0, none⟩) hpw).trans hp) _ x (by rw [m.t.T_len] at this; exact this)
  have hlen : l.length ≤ 1000 := by rw [← hl]; exact hlen
  rw [hx, hsx, hl, hA, hc]
  clear h hp hk hs hl hA hc hx hsx
  go_enter Tryz.func109, Tryz.ntmps109
  go_wp2
  go_loopg [9, 10] l.length (fun kx s9 s10 wr => ∃ lo hi : Nat, s9 = .int .i64 lo ∧ s10 = .int .i64 hi ∧ lo ≤ s ∧ s ≤ hi ∧ hi ≤ l.length ∧ hi - lo ≤ kx ∧ Hid (Below w.heap.size w wr))
  case atStart => exact ⟨0, l.length, rfl, rfl, Nat.zero_le _, HSl.out, Nat.le_refl _, by omega, nxRefl w⟩
  case round =>
    obtain ⟨lo, hi, rfl, rfl, hls, hsh, hin, hg, V⟩ := hrel
    by_cases hlt : lo < hi
    · have hml : (lo + hi) / 2 < l.length := by omega
      obtain ⟨g, rfl, cm⟩ := HC.out wr V.out ((lo + hi) / 2) hml
      have hc1 := HK.out wr V.out ((lo + hi) / 2) hml
      have hii := HI.out ((lo + hi) / 2) hml
      generalize l[(lo + hi) / 2] = y at cm hc1 hii
      obtain ⟨d, hd⟩ : ∃ d, cmpN (ndT m.t.T y).hi x = d := ⟨_, rfl⟩
      have hdn : d < 0 ↔ (lo + hi) / 2 < s := by rw [← hd, cmpN_neg]; exact hii
      rw [hd] at hc1
      have HC1 := Lib.hid hc1
      have HDn := Lib.hid hdn
      clear hc1 hii hd hdn
      by_cases hyx : d < 0
      · go_wp2_with (go_at_call 111; refine HC1.out.mono ?_; rintro e1 w1 ⟨rfl, hw1⟩; have V1 : Hid (Below w.heap.size w w1) := nxTo V.out hw1; clear hw1)
        go_roundg (hi - ((lo + hi) / 2 + 1))
        case measure => omega
        case rel =>
          have := HDn.out.1 hyx
          exact ⟨(lo + hi) / 2 + 1, hi, by rw [show ((lo : Int) + (hi : Int)) / 2 + 1 = (((lo + hi) / 2 + 1 : Nat) : Int) by omega], rfl, by omega, hsh, hin, Nat.le_refl _, V1⟩
      · go_wp2_with (go_at_call 111; refine HC1.out.mono ?_; rintro e1 w1 ⟨rfl, hw1⟩; have V1 : Hid (Below w.heap.size w w1) := nxTo V.out hw1; clear hw1)
        go_roundg ((lo + hi) / 2 - lo)
        case measure => omega
        case rel =>
          have : ¬ (lo + hi) / 2 < s := fun k => by have := HDn.out.2 k; omega
          exact ⟨lo, (lo + hi) / 2, rfl, by rw [show ((lo : Int) + (hi : Int)) / 2 = (((lo + hi) / 2 : Nat) : Int) by omega], hls, by omega, by omega, Nat.le_refl _, V1⟩
    · obtain rfl : hi = lo := by omega
      obtain rfl : s = hi := by omega
      by_cases hn : s < l.length
      · obtain ⟨g, rfl, cm⟩ := HC.out wr V.out s hn
        have HC1 := Lib.hid (HK.out wr V.out s hn)
        generalize l[s] = y at cm HC1
        go_wp2_with (go_at_call 111; refine HC1.out.mono ?_; rintro e1 w1 ⟨rfl, hw1⟩; have V1 : Hid (Below w.heap.size w w1) := nxTo V.out hw1; clear hw1)
        go_ret2
        exact ⟨⟨_, rfl⟩, V1.out⟩
      · go_wp2
        go_ret2
        exact ⟨⟨_, rfl⟩, V.out⟩
end Go.Proofs.YtbfpckomgpkjgaaGreat
