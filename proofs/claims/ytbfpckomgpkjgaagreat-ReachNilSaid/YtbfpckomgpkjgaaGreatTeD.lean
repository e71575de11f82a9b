/-
  tree: intervals are dealt anew.
-/
import Derived.Test.YtbfpckomgpkjgaaGreatTeC
namespace Go.Proofs.YtbfpckomgpkjgaaGreat
open Go.RowKit

def NdM.put (x : NdM) (d : Nd) : NdM := { x with d := d }
/-- The same tree with other numbers. -/
def TrM.withT (m : TrM) (T : List Nd) : TrM := { m with L := m.L.zipWith NdM.put T }
theorem withT_len {m : TrM} {T : List Nd} (h : T.length = m.L.length) : (m.withT T).L.length = m.L.length := by simp [TrM.withT, h]
theorem withT_at {m : TrM} {T : List Nd} (h : T.length = m.L.length) {i : Nat} (hi : i < m.L.length) : (m.withT T).L[i]'(by rw [withT_len h]; exact hi) = (m.L[i]).put (ndT T i) := by
  rw [ndT_at (by omega)]
  simp only [TrM.withT, List.getElem_zipWith]
theorem withT_T {m : TrM} {T : List Nd} (h : T.length = m.L.length) : (m.withT T).T = T := by
  apply List.ext_getElem
  · rw [TrM.T_len, withT_len h, h]
  · intro i h1 h2
    have hi : i < m.L.length := by omega
    have e1 : (m.withT T).T[i] = ((m.withT T).L[i]'(by rw [withT_len h]; exact hi)).d := by simp only [TrM.T, List.getElem_map]
    rw [e1, withT_at h hi, ndT_at h2]
    rfl
theorem withT_self (m : TrM) : m.withT m.T = m := by
  have : (m.withT m.T).L = m.L := by
    apply List.ext_getElem
    · exact withT_len m.T_len
    · intro i h1 h2
      rw [withT_at m.T_len h2, m.T_at h2]
      rfl
  show ({ m with L := _ } : TrM) = m
  have e : m.L.zipWith NdM.put m.T = m.L := this
  rw [e]
theorem withT_setN {m : TrM} {T : List Nd} (h : T.length = m.L.length) {n : Nat} (hn : n < m.L.length) (d : Nd) : (m.withT T).setN n ((m.L[n]).put d) = m.withT (T.set n d) := by
  have : ((m.withT T).setN n ((m.L[n]).put d)).L = (m.withT (T.set n d)).L := by
    apply List.ext_getElem
    · rw [TrM.setN_len, withT_len h, withT_len (by rw [List.length_set]; exact h)]
    · intro i h1 h2
      have hi : i < m.L.length := by rw [TrM.setN_len, withT_len h] at h1; exact h1
      have r1 := withT_at (m := m) (T := T.set n d) (by rw [List.length_set]; exact h) hi
      rw [TrM.setN_at, r1, ndT_set (by omega)]
      by_cases e : n = i
      · subst e; rw [if_pos rfl, if_pos rfl]
      · rw [if_neg e, if_neg (fun h => e h.symm), withT_at h hi]
  show ({ m with L := _ } : TrM) = { m with L := _ }
  congr 1
theorem withT_kids {m : TrM} (hS : TrS m) {T : List Nd} (h : SamePar m.T T) (i : Nat) (hi : i < (m.withT T).L.length) : (m.withT T).L[i].kids = kidsT (m.withT T).T i := by
  have hl : T.length = m.L.length := by rw [h.1, m.T_len]
  have hi' : i < m.L.length := by rw [withT_len hl] at hi; exact hi
  rw [withT_T hl, kids_same h, withT_at hl hi', ← hS.kids i hi']
  rfl
/-- One of a queue's places. -/
theorem ts_row {w : World} {base c gq : Nat} {Q : List (Nat × Nat)} (h : w.ownsRow base 144 2 (.slice (some ⟨gq, 0, none⟩) Q.length c) Q.length (tsC Q)) {k : Nat} (hk : k < Q.length) : w.rangeAt gq (k * 2) (tsC1 (nQ Q k, upQ Q k)) := by
  obtain ⟨g, hA, _, _, hc⟩ := town_row h (by rw [tsC_len]; omega)
  obtain rfl : gq = g := by injection hA with e; injection e
  intro j v hv
  have hj : j < 2 := (List.getElem?_eq_some_iff.1 hv).1
  have h3 := q_at hk
  rw [List.getElem?_eq_getElem hk] at h3
  injection h3 with h3
  exact (hc (k * 2 + j) v (by rw [tsC_get Q k j hk hj, h3]; exact hv)).1
theorem Tryz.tsizeS : (Tryz.prog.info? 144).map (·.size) = some 2 := by kernel_rfl
theorem setD_lo {x : NdM} (v : Nat) : (tndC x).set 3 (.int .u64 (v : Int)) = tndC (x.put { x.d with lo := v }) := rfl
theorem setD_hi {x : NdM} (v : Nat) : (tndC x).set 4 (.int .u64 (v : Int)) = tndC (x.put { x.d with hi := v }) := rfl
theorem tfoot_tag {w : World} {base : Nat} {m : TrM} (h : TrOk w base m) {k : Nat} {t : TypeId} {cur : Array Value} (hb : Blk w k t cur) (h1 : 112 ≠ t) (h2 : 109 ≠ t) (h3 : 3 ≠ t) : ¬ tfoot m k := by
  rintro (rfl | e | ⟨x, hx, e⟩)
  · exact h1 (tblk_tag h.b hb)
  · exact town_tag h.nds hb h2 e
  · exact town_tag (h.kid x hx) hb h3 e
theorem wt_cells {w : World} {base : Nat} {m : TrM} {T : List Nd} (h : TrOk w base (m.withT T)) (hl : T.length = m.L.length) {g : Nat} (hA : m.nA = some ⟨g, 0, none⟩) {n : Nat} (hn : n < m.L.length) : w.cell? ⟨g, n * 5 + 3, none⟩ = some (.int .u64 ((ndT T n).lo : Int)) ∧ w.cell? ⟨g, n * 5 + 4, none⟩ = some (.int .u64 ((ndT T n).hi : Int)) ∧ (∀ j, w.frozen? ⟨g, j, none⟩ = false) ∧ w.cell? ⟨m.q, 0, none⟩ = some (.slice (some ⟨g, 0, none⟩) m.L.length m.nc) := by
  have hn' : n < (m.withT T).L.length := by rw [withT_len hl]; exact hn
  obtain ⟨g', hnA, _, _, hc0, hr⟩ := nd_cells h hn'
  have e : (m.withT T).nA = some ⟨g, 0, none⟩ := hA
  rw [e] at hnA
  obtain rfl : g = g' := by injection hnA with e; injection e
  rw [withT_at hl hn] at hr
  rw [withT_len hl] at hc0
  obtain ⟨_, _, _, h3, h4⟩ := nd_c hr
  obtain ⟨_, cur, hb⟩ := town_blk h.nds (k := g) (by rw [e]; rfl)
  exact ⟨h3, h4, fun j => hb.frozen j, hc0⟩
theorem wt_set3 {w : World} {base : Nat} {m : TrM} {T : List Nd} (h : TrOk w base (m.withT T)) (hl : T.length = m.L.length) {g : Nat} (hA : m.nA = some ⟨g, 0, none⟩) {n : Nat} (hn : n < m.L.length) (v : Nat) : TrOk (w.setCell ⟨g, n * 5 + 3, none⟩ (.int .u64 (v : Int))) base (m.withT (T.set n { ndT T n with lo := v })) := by
  have hn' : n < (m.withT T).L.length := by rw [withT_len hl]; exact hn
  have h9 := (h.setD (p := n) (j := 3) (u := .int .u64 (v : Int)) (y := (m.L[n]).put { ndT T n with lo := v }) (g := g) hn' (by omega) (by rw [withT_at hl hn]; exact setD_lo v) (by rw [withT_at hl hn]; rfl) (by rw [withT_at hl hn]; rfl) (by rw [withT_at hl hn]; rfl) hA).1
  rw [withT_setN hl hn] at h9
  exact h9
theorem wt_set4 {w : World} {base : Nat} {m : TrM} {T : List Nd} (h : TrOk w base (m.withT T)) (hl : T.length = m.L.length) {g : Nat} (hA : m.nA = some ⟨g, 0, none⟩) {n : Nat} (hn : n < m.L.length) (v : Nat) : TrOk (w.setCell ⟨g, n * 5 + 4, none⟩ (.int .u64 (v : Int))) base (m.withT (T.set n { ndT T n with hi := v })) := by
  have hn' : n < (m.withT T).L.length := by rw [withT_len hl]; exact hn
  have h9 := (h.setD (p := n) (j := 4) (u := .int .u64 (v : Int)) (y := (m.L[n]).put { ndT T n with hi := v }) (g := g) hn' (by omega) (by rw [withT_at hl hn]; exact setD_hi v) (by rw [withT_at hl hn]; rfl) (by rw [withT_at hl hn]; rfl) (by rw [withT_at hl hn]; rfl) hA).1
  rw [withT_setN hl hn] at h9
  exact h9
theorem set_two {T : List Nd} {n : Nat} (hn : n < T.length) (a b : Nat) : (T.set n { ndT T n with lo := a }).set n { ndT (T.set n { ndT T n with lo := a }) n with hi := b } = setIv T n a b := by
  unfold setIv
  rw [List.set_set, ndT_set hn, if_pos rfl]
set_option maxRecDepth 100000 in
set_option maxHeartbeats 8000000 in
theorem te_deal (w : World) (base : Nat) (m : TrM) (h : TrOk w base m) (hS : TrS m) (top : Nat) (ht : top < m.L.length) (h1 : 1 ≤ (ndT m.T top).lo) (h2 : (ndT m.T top).lo ≤ (ndT m.T top).hi) (h3 : (ndT m.T top).hi ≤ 4611686018427387904) (hdl : m.dl ≤ 1000) (hshr : 2 * cntT m.T top 0 - 1 ≤ (ndT m.T top).hi - (ndT m.T top).lo + 1) :
    Calls Tryz.prog 86 #[.pointer (some ⟨m.q, 0, none⟩), .int .i64 (top : Int)] w fun e w' => e = .returned (.tuple #[]) ∧ ∃ Q, Bf m.T top 0 Q.length Q ∧
      TrOk w' base { m.withT (dT Q (szF Q Q.length) (((ndT m.T top).hi - (ndT m.T top).lo + 1) / (2 * Q.length - 1)) m.T Q.length).1 with dl := m.dl + 1 } ∧ Keeps (fun k => k = m.q ∨ m.nA.map Addr.block = some k) w w' := by
  have hmx : m.L.length ≤ 1000 := by have := hS.ok.max; rwa [m.T_len] at this
  have HH := Lib.hid h
  have HS := Lib.hid hS
  have hTt := m.T_at ht
  obtain ⟨x, hx⟩ : ∃ x, m.L[top] = x := ⟨_, rfl⟩
  rw [hx] at hTt
  rw [hTt] at h1 h2 h3 hshr ⊢
  have hx1 := h2
  have hx2 := h3
  have HX := Lib.hid hx
  have HTt := Lib.hid hTt
  clear h hS hx hTt
  go_enter Tryz.func86, Tryz.ntmps86
  go_wp2_with (first
    | (go_at_call 100; refine (te_below w base m HH.out HS.out top ht 0).mono ?_; rintro e1 w1 ⟨Q, A, c, rfl, ho1, hb1, hf1⟩; have V1 := Lib.hid hb1; have F1 := Lib.hid hf1; have O1 := Lib.hid ho1; have W1 := Lib.hid (hf1.wq HS.out.ok (by rw [m.T_len]; exact ht)); have hq2 : Q.length ≤ 1000 := (by have := hf1.len.2; rw [m.T_len] at this; omega); have hq1 : 1 ≤ Q.length := hf1.len.1; have HSe := Lib.hid (SeesV.own ho1); clear ho1 hb1 hf1)
    | (go_at_call 101; refine (te_sizes w1 Q A c HSe.out hq1 hq2 W1.out.hu).mono ?_; rintro e2 w2 ⟨rfl, hB2, hb2⟩; have V2 := Lib.hid hb2; have B2 := Lib.hid hB2; clear hB2 hb2))
  obtain ⟨S, hS⟩ : ∃ S, szF Q Q.length = S := ⟨_, rfl⟩
  have HZ : Hid (SzOk Q S) := by show SzOk Q S; rw [← hS]; exact szF_ok hq1 W1.out.hu
  rw [hS] at B2
  have HS2 := Lib.hid hS
  obtain ⟨sh, hsh⟩ : ∃ n, (x.d.hi - x.d.lo + 1) / (2 * Q.length - 1) = n := ⟨_, rfl⟩
  have HSh := Lib.hid hsh
  have hcn := F1.out.cnt HS.out.ok (by rw [m.T_len]; exact ht) (.inl rfl)
  rw [← hcn] at hshr
  have hsh1 : Hid (1 ≤ sh) := by show _ ≤ _; rw [← hsh]; exact (Nat.le_div_iff_mul_le (by omega)).2 (by omega)
  clear hcn hshr
  have hdv := Nat.div_le_self (x.d.hi - x.d.lo + 1) (2 * Q.length - 1)
  obtain ⟨wz, hwz⟩ : ∃ z, x.d.hi - x.d.lo + 1 = z := ⟨_, rfl⟩
  rw [hwz] at hdv hsh
  have e1 : (wz : Int) / ((2 * Q.length - 1 : Nat) : Int) = ((wz / (2 * Q.length - 1) : Nat) : Int) := rfl
  rw [hsh] at e1 hdv
  have e2 : IntKind.u64.wrap ((wz : Int) / ((2 * Q.length - 1 : Nat) : Int)) = (sh : Int) := by rw [e1, IntKind.wrap_u64]; omega
  have e3 : ¬ (2 * Q.length - 1 = 0) := by omega
  have hbs : ∀ W, Below w.heap.size w W → TrOk W base m := fun W hW => HH.out.later hW
  have V12 : Hid (Below w.heap.size w w2) := nxTo V1.out V2.out
  have HT2 : Hid (TrOk w2 base m) := hbs _ V12.out
  obtain ⟨g, hnA, hg, hgb, hc0, hr⟩ := nd_cells HT2.out ht
  rw [HX.out] at hr
  have HSS : Hid (w2.drew.cell? ⟨m.q, 0, none⟩ = some (.slice (some ⟨g, 0, none⟩) m.L.length m.nc) ∧ w2.drew.rangeAt g (top * 5) (tndC x) ∧ w2.drew.cell? ⟨w1.heap.size, 0, none⟩ = some (.int .u64 (Q.length : Int))) := ⟨hc0, hr, by
    have := tuC_cell B2.out (k := 0) (by rw [HZ.out.len]; omega)
    rw [HZ.out.top] at this
    exact this⟩
  have HQl : Hid (m.q < w2.drew.heap.size) := HT2.out.b.lt
  have HGl : Hid (g < w2.drew.heap.size) := hg
  have HSl : Hid (w1.heap.size < w2.drew.heap.size) := B2.out.lt
  have HA9 := Lib.hid hnA
  have htn : (top : Int) < (m.L.length : Int) := by omega
  have hqn : 0 < Q.length := by omega
  have VD2 : Hid (Below w2.heap.size w2 w2.drew) := teDr (nxRefl _)
  clear hS hsh e1 hbs hc0 hr hg hgb hnA
  refine wp_region_held_drew (S := fun W => W.cell? ⟨m.q, 0, none⟩ = some (.slice (some ⟨g, 0, none⟩) m.L.length m.nc) ∧ W.rangeAt g (top * 5) (tndC x) ∧ W.cell? ⟨w1.heap.size, 0, none⟩ = some (.int .u64 (Q.length : Int))) (by kernel_rfl) HSS.out (fun hHeld => ?_)
  generalize w2.drew = wd at *
  refine wpAnyH_take (i := 0) (oi := ⟨_, _, _, _, _, _⟩) (v := ?_) rfl (by kernel_rfl) (by kernel_rfl) (by kernel_rfl) (fun _ _ _ h => h) (Or.inl ⟨by rfl, ?_⟩) (by assumption) ?_
  rotate_left 1
  · intro W hSw
    try dsimp only at hSw
    obtain ⟨hs1, hs2, hs3⟩ := hSw
    go_simp
    try with_reducible rfl
  try simp only [Act.put, List.setIfInBounds_toArray, List.set_cons_zero, List.set_cons_succ]
  refine wpAnyH_take (i := 1) (oi := ⟨_, _, _, _, _, _⟩) (v := ?_) rfl (by kernel_rfl) (by kernel_rfl) (by kernel_rfl) (fun _ _ _ h => h) (Or.inl ⟨by rfl, ?_⟩) (by assumption) ?_
  rotate_left 1
  · intro W hSw
    try dsimp only at hSw
    obtain ⟨hs1, hs2, hs3⟩ := hSw
    go_simp
    try with_reducible rfl
  try simp only [Act.put, List.setIfInBounds_toArray, List.set_cons_zero, List.set_cons_succ]
  refine wpAnyH_take (i := 2) (oi := ⟨_, _, _, _, _, _⟩) (v := ?_) rfl (by kernel_rfl) (by kernel_rfl) (by kernel_rfl) (fun _ _ _ h => h) (Or.inl ⟨by rfl, ?_⟩) (by assumption) ?_
  rotate_left 1
  · intro W hSw
    try dsimp only at hSw
    obtain ⟨hs1, hs2, hs3⟩ := hSw
    go_simp
    try with_reducible rfl
  try simp only [Act.put, List.setIfInBounds_toArray, List.set_cons_zero, List.set_cons_succ]
  refine wpAnyH_take (i := 3) (oi := ⟨_, _, _, _, _, _⟩) (v := ?_) rfl (by kernel_rfl) (by kernel_rfl) (by kernel_rfl) (fun _ _ _ h => h) (Or.inl ⟨by rfl, ?_⟩) (by assumption) ?_
  rotate_left 1
  · intro W hSw
    try dsimp only at hSw
    obtain ⟨hs1, hs2, hs3⟩ := hSw
    go_simp
    try with_reducible rfl
  try simp only [Act.put, List.setIfInBounds_toArray, List.set_cons_zero, List.set_cons_succ]
  refine wpAnyH_take (i := 4) (oi := ⟨_, _, _, _, _, _⟩) (v := ?_) rfl (by kernel_rfl) (by kernel_rfl) (by kernel_rfl) (fun _ _ _ h => h) (Or.inl ⟨by rfl, ?_⟩) (by assumption) ?_
  rotate_left 1
  · intro W hSw
    try dsimp only at hSw
    obtain ⟨hs1, hs2, hs3⟩ := hSw
    go_simp
    try with_reducible rfl
  try simp only [Act.put, List.setIfInBounds_toArray, List.set_cons_zero, List.set_cons_succ]
  refine wpAnyH_take (i := 5) (oi := ⟨_, _, _, _, _, _⟩) (v := ?_) rfl (by kernel_rfl) (by kernel_rfl) (by kernel_rfl) (fun _ _ _ h => h) (Or.inl ⟨by rfl, ?_⟩) (by assumption) ?_
  rotate_left 1
  · intro W hSw
    try dsimp only at hSw
    obtain ⟨hs1, hs2, hs3⟩ := hSw
    go_simp
    try with_reducible rfl
  try simp only [Act.put, List.setIfInBounds_toArray, List.set_cons_zero, List.set_cons_succ]
  refine wpAnyH_take (i := 6) (oi := ⟨_, _, _, _, _, _⟩) (v := .agg (tndC x).toArray) rfl (by kernel_rfl) (by kernel_rfl) (by kernel_rfl) (fun _ _ _ h => h) (yieldsIf_load_mid (by rfl) 109 (.tmp 21) rfl g (top * 5) rfl (tndC x) _ (fun W h => h.2.1) Tryz.underlying109 rfl Tryz.tsizeN) (by assumption) ?_
  try simp only [Act.put, List.setIfInBounds_toArray, List.set_cons_zero, List.set_cons_succ]
  refine wpAnyH_take (i := 8) (oi := ⟨_, _, _, _, _, _⟩) (v := ?_) rfl (by kernel_rfl) (by kernel_rfl) (by kernel_rfl) (fun _ _ _ h => h) (Or.inl ⟨by rfl, ?_⟩) (by assumption) ?_
  rotate_left 1
  · intro W hSw
    try dsimp only at hSw
    obtain ⟨hs1, hs2, hs3⟩ := hSw
    go_simp
    try with_reducible rfl
  try simp only [Act.put, List.setIfInBounds_toArray, List.set_cons_zero, List.set_cons_succ]
  refine wpAnyH_take (i := 9) (oi := ⟨_, _, _, _, _, _⟩) (v := ?_) rfl (by kernel_rfl) (by kernel_rfl) (by kernel_rfl) (fun _ _ _ h => h) (Or.inl ⟨by rfl, ?_⟩) (by assumption) ?_
  rotate_left 1
  · intro W hSw
    try dsimp only at hSw
    obtain ⟨hs1, hs2, hs3⟩ := hSw
    go_simp
    try with_reducible rfl
  try simp only [Act.put, List.setIfInBounds_toArray, List.set_cons_zero, List.set_cons_succ]
  refine wpAnyH_take (i := 10) (oi := ⟨_, _, _, _, _, _⟩) (v := ?_) rfl (by kernel_rfl) (by kernel_rfl) (by kernel_rfl) (fun _ _ _ h => h) (Or.inl ⟨by rfl, ?_⟩) (by assumption) ?_
  rotate_left 1
  · intro W hSw
    try dsimp only at hSw
    obtain ⟨hs1, hs2, hs3⟩ := hSw
    go_simp
    try with_reducible rfl
  try simp only [Act.put, List.setIfInBounds_toArray, List.set_cons_zero, List.set_cons_succ]
  refine wpAnyH_ready (rs := [7]) (by kernel_rfl) (by simp) ?_
  refine AllReadyH.cons rfl (fun K hK => ?_) AllReadyH.nil
  go_simp
  go_at_call 102
  refine (te_width wd x hx1 hx2).mono ?_
  rintro e w4 ⟨rfl, hb4⟩
  have V4 := Lib.hid hb4
  clear hb4
  refine hK.out _ _ ⟨(V4.out.cell (p := ⟨m.q, 0, none⟩) HQl.out).trans HSS.out.1, rngT HSS.out.2.1 V4.out HGl.out, (V4.out.cell (p := ⟨w1.heap.size, 0, none⟩) HSl.out).trans HSS.out.2.2⟩ (fun hSn => ?_)
  clear hK K
  try simp only [Act.put, List.setIfInBounds_toArray, List.set_cons_zero, List.set_cons_succ]
  refine wpAnyH_ready (rs := [11]) (by kernel_rfl) (by simp) ?_
  refine AllReadyH.cons rfl (fun K hK => ?_) AllReadyH.nil
  go_simp
  go_at_call 103
  refine (te_shares w4 Q.length hq1 hq2).mono ?_
  rintro e w5 ⟨rfl, hw5⟩
  obtain rfl := hw5.symm
  refine hK.out _ _ hSn (fun hSn => ?_)
  clear hK K
  try simp only [Act.put, List.setIfInBounds_toArray, List.set_cons_zero, List.set_cons_succ]
  refine wpAnyH_take (i := 12) (oi := ⟨_, _, _, _, _, _⟩) (v := .int .u64 (sh : Int)) rfl (by kernel_rfl) (by kernel_rfl) (by kernel_rfl) (fun _ _ _ h => h) (Or.inl ⟨by rfl, ?_⟩) (by assumption) ?_
  · intro W hSw
    try dsimp only at hSw
    skip
    go_simp
    try (first | rw [e2] | rw [if_neg e3, e2])
  try simp only [Act.put, List.setIfInBounds_toArray, List.set_cons_zero, List.set_cons_succ]
  refine wpAnyH_take (i := 13) (oi := ⟨_, _, _, _, _, _⟩) (v := ?_) rfl (by kernel_rfl) (by kernel_rfl) (by kernel_rfl) (fun _ _ _ h => h) (Or.inl ⟨by rfl, ?_⟩) (by assumption) ?_
  rotate_left 1
  · intro W hSw
    try dsimp only at hSw
    obtain ⟨hs1, hs2, hs3⟩ := hSw
    go_simp
    try with_reducible rfl
  try simp only [Act.put, List.setIfInBounds_toArray, List.set_cons_zero, List.set_cons_succ]
  refine wpAnyH_done (by kernel_rfl) ?_ _
  have V04 : Hid (Below w.heap.size w w4) := V12.out.trans ((VD2.out.trans (V4.out.mono VD2.out.size)).mono V12.out.size)
  have V14 : Hid (Below w1.heap.size w1 w4) := V2.out.trans ((VD2.out.trans (V4.out.mono VD2.out.size)).mono V2.out.size)
  have T4 : Hid (TrOk w4 base m) := HH.out.later V04.out
  have O4 : Hid (w4.ownsRow w.heap.size 144 2 (.slice A Q.length c) Q.length (tsC Q)) := own_below O1.out V14.out (fun g hg => (own_lt O1.out g hg).2)
  have B4 : Hid (Blk w4 w1.heap.size 107 (tuC S).toArray) := B2.out.below (VD2.out.trans (V4.out.mono VD2.out.size)) B2.out.lt
  obtain ⟨gS, hgS⟩ : ∃ n, w1.heap.size = n := ⟨_, rfl⟩
  rw [hgS] at B4
  rw [hgS]
  obtain ⟨gq, hqA, hgq1, hgq2, _⟩ := town_row O4.out (by rw [tsC_len]; omega)
  subst hqA
  have HGq1 := Lib.hid hgq1
  have HGq2 := Lib.hid hgq2
  have hmk := fun wq => te_makeU wq Q.length hq2
  have B5 : Hid (Blk (w4.alloc (.cells (tuC (List.replicate Q.length 0)).toArray 107)) w4.heap.size 107 (tuC (List.replicate Q.length 0)).toArray) := heap_alloc_new w4 _
  have V5 : Hid (Below w4.heap.size w4 (w4.alloc (.cells (tuC (List.replicate Q.length 0)).toArray 107))) := nxAlloc (nxRefl _) _
  have hnz : w4.heap.size = w4.heap.size := rfl
  clear e2 e3 hgq1 hgq2 hnz hSn hw5 hHeld HSS V4 VD2 HQl HGl HSl V12 HT2 V14 V2 B2 O1 V1 HSe hdv hwz
  go_wp2
  clear hmk
  obtain ⟨gF, hgF⟩ : ∃ n, w4.heap.size = n := ⟨_, rfl⟩
  have HF4 : Hid (w4.heap.size = gF) := hgF
  rw [hgF] at B5
  rw [hgF]
  have T5 : Hid (TrOk (w4.alloc (.cells (tuC (List.replicate Q.length 0)).toArray 107)) base m) := T4.out.later V5.out
  have O5 : Hid ((w4.alloc (.cells (tuC (List.replicate Q.length 0)).toArray 107)).ownsRow w.heap.size 144 2 (.slice (some ⟨gq, 0, none⟩) Q.length c) Q.length (tsC Q)) := own_below O4.out V5.out (fun g hg => (own_lt O4.out g hg).2)
  have S5 : Hid (Blk (w4.alloc (.cells (tuC (List.replicate Q.length 0)).toArray 107)) gS 107 (tuC S).toArray) := B4.out.below V5.out B4.out.lt
  have V05 : Hid (Below w.heap.size w (w4.alloc (.cells (tuC (List.replicate Q.length 0)).toArray 107))) := nxTo V04.out V5.out
  have HgS : Hid (gS < gF) := by have := B4.out.lt; show _ < _; omega
  have Hgq : Hid (gq < gF) := by have := HGq2.out; show _ < _; omega
  have HqF : Hid (m.q ≠ gF) := by have := T4.out.b.lt; show _ ≠ _; omega
  clear T4 O4 B4 V04 V5 HGq2 hgF HF4
  generalize w4.alloc (.cells (tuC (List.replicate Q.length 0)).toArray 107) = w5 at *
  obtain ⟨_, ncur, hgB⟩ := town_blk T5.out.nds (k := g) (by rw [HA9.out]; rfl)
  have HnF : Hid (g ≠ gF) := fun e => by rw [e] at hgB; exact absurd (tblk_tag hgB B5.out) (by decide)
  have HnS : Hid (g ≠ gS) := fun e => by rw [e] at hgB; exact absurd (tblk_tag hgB S5.out) (by decide)
  have Hnq : Hid (g ≠ gq) := fun e => town_tag O5.out hgB (by decide) (by rw [e]; rfl)
  have HnQ : Hid (g ≠ m.q) := fun e => by rw [e] at hgB; exact absurd (tblk_tag hgB T5.out.b) (by decide)
  clear hgB
  go_loopw [34] (fun iv wr => ∃ i : Nat, i ≤ Q.length ∧ iv = .int .i64 i ∧ Hid (TrOk wr base (m.withT (dT Q S sh m.T i).1)) ∧ Hid (Blk wr gF 107 (tuC (dT Q S sh m.T i).2).toArray) ∧ Hid (Keeps (fun k => k = gF ∨ k = g) w5 wr)) (fun iv _ => Q.length - (intOf iv).toNat)
  case atStart => exact ⟨0, by omega, rfl, by show TrOk _ _ _; rw [show (dT Q S sh m.T 0).1 = m.T from rfl, withT_self]; exact T5.out, B5.out, Keeps.refl _ _⟩
  case round =>
    obtain ⟨i, hi, rfl, HTr, HFr, HKr⟩ := hrel
    by_cases hlt : i < Q.length
    · have hDl := dT_ok (Q := Q) (S := S) (sh := sh) (T := m.T) W1.out.hu W1.out.hn W1.out.hr i hi
      have hDl2 := dT_ok (Q := Q) (S := S) (sh := sh) (T := m.T) W1.out.hu W1.out.hn W1.out.hr (i + 1) (by omega)
      have hbd := hDl2.bound W1.out HZ.out (by omega) i (by omega)
      have HDn : Hid (dT Q S sh m.T (i + 1) = if i = 0 then ((dT Q S sh m.T i).1, (dT Q S sh m.T i).2.set 0 (ndT (dT Q S sh m.T i).1 (nQ Q 0)).lo) else (setIv (dT Q S sh m.T i).1 (nQ Q i) (gN (dT Q S sh m.T i).2 (upQ Q i)) (gN (dT Q S sh m.T i).2 (upQ Q i) + sh * (2 * gN S i - 1) - 1), ((dT Q S sh m.T i).2.set (upQ Q i) (gN (dT Q S sh m.T i).2 (upQ Q i) + sh * (2 * gN S i - 1))).set i (gN (dT Q S sh m.T i).2 (upQ Q i)))) := rfl
      have hnl := W1.out.hr i hlt
      rw [m.T_len] at hnl
      have hsz := HZ.out.eq i hlt
      have hszt : gN S i ≤ 1000 := by
        have h9 := Nat.le_refl 0
        have hb := szF_ok hq1 W1.out.hu
        exact Nat.le_trans (sz_le HZ.out W1.out.u0 W1.out.hu i hlt) hq2
      have HTl : Hid ((dT Q S sh m.T i).1.length = m.L.length) := by show _ = _; rw [hDl.par.1, m.T_len]
      have HFl : Hid ((dT Q S sh m.T i).2.length = Q.length) := hDl.fl
      have HLo : Hid (0 < i → (ndT (dT Q S sh m.T (i + 1)).1 (nQ Q i)).lo = gN (dT Q S sh m.T i).2 (upQ Q i)) := fun h0 => by
        rw [HDn.out, if_neg (by omega)]
        unfold setIv
        rw [ndT_set (by rw [HTl.out]; exact hnl), if_pos rfl]
      have hOq := tKeeps_own HKr.out O5.out (fun k e => by
        have e2 : gq = k := by injection e
        subst e2
        rintro (e3 | e3)
        · have := Hgq.out; omega
        · exact Hnq.out e3.symm)
      have HRq := Lib.hid (ts_row hOq hlt)
      have HSr : Hid (Blk wr gS 107 (tuC S).toArray) := S5.out.keeps HKr.out (by rintro (e | e); have := HgS.out; omega; exact HnS.out e.symm)
      obtain ⟨r1, hr1⟩ : ∃ r, (dT Q S sh m.T i).1 = r := ⟨_, rfl⟩
      obtain ⟨F, hF⟩ : ∃ r, (dT Q S sh m.T i).2 = r := ⟨_, rfl⟩
      obtain ⟨n, hn⟩ : ∃ n, nQ Q i = n := ⟨_, rfl⟩
      obtain ⟨u, hu⟩ : ∃ n, upQ Q i = n := ⟨_, rfl⟩
      obtain ⟨s, hs⟩ : ∃ n, gN S i = n := ⟨_, rfl⟩
      rw [hn] at hbd HLo hnl
      rw [hr1, hF] at HDn
      rw [hn, hu, hs] at HDn
      rw [hr1] at HTr HTl
      rw [hF] at HFr HFl HLo
      rw [hu] at HLo
      rw [hn, hu] at HRq
      rw [hs] at hszt hsz hbd
      have HN := Lib.hid hn
      have HU := Lib.hid hu
      have HS9 := Lib.hid hs
      have HBd := Lib.hid hbd
      have hs1 : 1 ≤ s := by omega
      have hin : i < Q.length := hlt
      have hni : (n : Int) < (m.L.length : Int) := by omega
      have Bz : Hid (Blk (wr.alloc (.cells #[.int .i64 0, .int .i64 0] 144)) wr.heap.size 144 #[.int .i64 0, .int .i64 0]) := heap_alloc_new wr _
      have Vz : Hid (Below wr.heap.size wr (wr.alloc (.cells #[.int .i64 0, .int .i64 0] 144))) := nxAlloc (nxRefl _) _
      clear hDl hDl2 hbd hsz hOq hr1 hF hn hu hs
      go_wp2_with (first
        | ((with_reducible show wpList _ _ _ (⟨some 38, _, _, _, _, _⟩ :: _) _ _); refine wpList_load_mid rfl 144 (.tmp 37) rfl gq (i * 2) rfl (tsC1 (n, u)) _ HRq.out Tryz.underlying144 rfl Tryz.tsizeS ?_)
        | ((with_reducible show wpList _ _ _ (⟨none, .store 144 _ _, _, _, _, _⟩ :: _) _ _); refine wpList_store_all rfl 144 (.tmp 9) (.tmp 38) rfl wr.heap.size 144 _ (tsC1 (n, u)).toArray rfl rfl Bz.out rfl Tryz.tsizeS (by intro v hv; simp [tsC1] at hv; rcases hv with rfl | rfl <;> rfl) ?_; intro w6 h5 h6 h7; have B6 := Lib.hid h5; have K6 : Hid (Below wr.heap.size wr w6) := Vz.out.trans (h6.below Vz.out.size (fun j hj e => by omega)); clear h5 h6 h7))
      simp only [Act.put]
      have HbF : Hid (gF < wr.heap.size) := HFr.out.lt
      have T6 : Hid (TrOk w6 base (m.withT r1)) := HTr.out.later K6.out
      have F6 : Hid (Blk w6 gF 107 (tuC F).toArray) := HFr.out.below K6.out HFr.out.lt
      have S6 : Hid (Blk w6 gS 107 (tuC S).toArray) := HSr.out.below K6.out HSr.out.lt
      have KW6 : Hid (Keeps (fun k => k = gF ∨ k = g) w5 w6) := HKr.out.trans (Keeps.of_below K6.out _)
      have HbS : Hid (gS < wr.heap.size) := HSr.out.lt
      have Hbg : Hid (g < wr.heap.size) := (HTr.out.lt (.inr (.inl (by show (m.withT r1).nA.map Addr.block = some g; rw [show (m.withT r1).nA = some ⟨g, 0, none⟩ from HA9.out]; rfl)))).2
      obtain ⟨b9, hb9⟩ : ∃ n, wr.heap.size = n := ⟨_, rfl⟩
      rw [hb9] at B6 HbF HbS Hbg
      rw [hb9]
      have hq6 := (wt_cells T6.out HTl.out HA9.out hnl).2.2.2
      have hb60 : w6.cell? ⟨b9, 0, none⟩ = some (.int .i64 (n : Int)) := B6.out.cell 0
      clear K6 Bz Vz HRq HTr HFr HSr HKr hb9
      go_quiet (fail)
      have T7 : Hid (TrOk (w6.drewN nq) base (m.withT r1)) := T6.out.later (teDrN (nxRefl _) _)
      have F7 : Hid (Blk (w6.drewN nq) gF 107 (tuC F).toArray) := F6.out
      have S7 : Hid (Blk (w6.drewN nq) gS 107 (tuC S).toArray) := S6.out
      have B7 : Hid (Blk (w6.drewN nq) b9 144 (tsC1 (n, u)).toArray) := B6.out
      have KW7 : Hid (Keeps (fun k => k = gF ∨ k = g) w5 (w6.drewN nq)) := KW6.out.trans (Keeps.of_below (teDrN (nxRefl _) _) _)
      clear T6 F6 S6 B6 KW6 hq6 hb60
      generalize w6.drewN nq = w7 at *
      obtain ⟨hlo7, hhi7, hfr7, _⟩ := wt_cells T7.out HTl.out HA9.out hnl
      by_cases hi0 : i = 0
      · subst hi0
        have hD : dT Q S sh m.T (0 + 1) = (r1, F.set 0 (ndT r1 n).lo) := by rw [HDn.out, if_pos rfl, HN.out]
        have HD := Lib.hid hD
        have hcF := tuC_cell F7.out (k := 0) (by rw [HFl.out]; exact hlt)
        have hfF := F7.out.frozen 0
        clear hD hhi7 hfr7
        go_wp2
        go_roundw
        case rel =>
          have hk : Keeps (fun k => k = gF) w7 (w7.setCell ⟨gF, 0, none⟩ (.int .u64 ((ndT r1 n).lo : Int))) := (Keeps.refl (fun k => k = gF) w7).setCell (p := ⟨gF, 0, none⟩) rfl _
          refine ⟨0 + 1, by omega, by go_num, ?_, ?_, KW7.out.setCell (p := ⟨gF, 0, none⟩) (.inl rfl) _⟩
          · show TrOk _ _ _
            rw [HD.out]
            exact T7.out.keeps hk (fun k hk e => tfoot_tag T7.out F7.out (by decide) (by decide) (by decide) (e ▸ hk))
          · show Blk _ _ _ _
            rw [HD.out]
            exact tuC_blk F7.out 0 _
        case measure => simp [intOf] <;> omega
      · have hi01 : 0 < i := by omega
        have hui := W1.out.hu i hi01 hlt
        rw [HU.out] at hui
        have hlo := HLo.out hi01
        have hbd := HBd.out
        rw [hlo, HTt.out] at hbd
        have hdv := Nat.div_mul_le_self (x.d.hi - x.d.lo + 1) (2 * Q.length - 1)
        rw [HSh.out] at hdv
        have hcu := tuC_cell F7.out (k := u) (by rw [HFl.out]; omega)
        obtain ⟨lo, hlo9⟩ : ∃ k, gN F u = k := ⟨_, rfl⟩
        obtain ⟨pr, hpr⟩ : ∃ k, sh * (2 * s - 1) = k := ⟨_, rfl⟩
        have hDn := HDn.out
        rw [if_neg hi0, hlo9, hpr] at hDn
        rw [hlo9, hpr] at hbd
        rw [hlo9] at hcu
        obtain ⟨up, hup⟩ : ∃ k, lo + pr = k := ⟨_, rfl⟩
        rw [hup] at hDn hbd
        have hupb : up ≤ 4611686018427387905 := by omega
        have HUp1 : Hid (1 ≤ up) := by
          have h9 : 1 * 1 ≤ sh * (2 * s - 1) := Nat.mul_le_mul hsh1.out (by omega)
          show _ ≤ _; omega
        have e5 : IntKind.u64.wrap ((sh : Int) * ((2 * s - 1 : Nat) : Int)) = (pr : Int) := by
          have : (sh : Int) * ((2 * s - 1 : Nat) : Int) = ((sh * (2 * s - 1) : Nat) : Int) := by simp
          rw [this, hpr, IntKind.wrap_u64]; omega
        have e6 : IntKind.u64.wrap ((lo : Int) + (pr : Int)) = (up : Int) := by rw [IntKind.wrap_u64]; omega
        have hpr1 : 1 ≤ up ∨ up = 0 := by omega
        have HDN := Lib.hid hDn
        clear hDn hlo hbd hdv hlo9 hpr hup hpr1 HDn HLo HBd
        have hf3 := hfr7 (n * 5 + 3)
        have hb71 : w7.cell? ⟨b9, 1, none⟩ = some (.int .i64 (u : Int)) := B7.out.cell 1
        have huq : u < Q.length := by omega
        have hi02 : (0 : Int) < (i : Int) := by omega
        have hne1 : Hid (g ≠ b9) := by have := Hbg.out; show _ ≠ _; omega
        have T8 : Hid (TrOk (w7.setCell ⟨g, n * 5 + 3, none⟩ (.int .u64 (lo : Int))) base (m.withT (r1.set n { ndT r1 n with lo := lo }))) := wt_set3 T7.out HTl.out HA9.out hnl lo
        have F8 : Hid (Blk (w7.setCell ⟨g, n * 5 + 3, none⟩ (.int .u64 (lo : Int))) gF 107 (tuC F).toArray) := F7.out.far (p := ⟨g, n * 5 + 3, none⟩) (fun e => HnF.out e.symm) _
        have S8 : Hid (Blk (w7.setCell ⟨g, n * 5 + 3, none⟩ (.int .u64 (lo : Int))) gS 107 (tuC S).toArray) := S7.out.far (p := ⟨g, n * 5 + 3, none⟩) (fun e => HnS.out e.symm) _
        have B8 : Hid (Blk (w7.setCell ⟨g, n * 5 + 3, none⟩ (.int .u64 (lo : Int))) b9 144 (tsC1 (n, u)).toArray) := B7.out.far (p := ⟨g, n * 5 + 3, none⟩) (fun e => hne1.out e.symm) _
        have KW8 : Hid (Keeps (fun k => k = gF ∨ k = g) w5 (w7.setCell ⟨g, n * 5 + 3, none⟩ (.int .u64 (lo : Int)))) := KW7.out.setCell (p := ⟨g, n * 5 + 3, none⟩) (.inr rfl) _
        have hl8 : Hid ((r1.set n { ndT r1 n with lo := lo }).length = m.L.length) := by show _ = _; rw [List.length_set]; exact HTl.out
        go_wp2
        have T8d : Hid (TrOk (w7.setCell ⟨g, n * 5 + 3, none⟩ (.int .u64 (lo : Int))).drew base (m.withT (r1.set n { ndT r1 n with lo := lo }))) := T8.out.later (teDr (nxRefl _))
        have F8d : Hid (Blk (w7.setCell ⟨g, n * 5 + 3, none⟩ (.int .u64 (lo : Int))).drew gF 107 (tuC F).toArray) := F8.out
        have S8d : Hid (Blk (w7.setCell ⟨g, n * 5 + 3, none⟩ (.int .u64 (lo : Int))).drew gS 107 (tuC S).toArray) := S8.out
        have B8d : Hid (Blk (w7.setCell ⟨g, n * 5 + 3, none⟩ (.int .u64 (lo : Int))).drew b9 144 (tsC1 (n, u)).toArray) := B8.out
        have KW8d : Hid (Keeps (fun k => k = gF ∨ k = g) w5 (w7.setCell ⟨g, n * 5 + 3, none⟩ (.int .u64 (lo : Int))).drew) := KW8.out.drew
        have HSS : Hid ((w7.setCell ⟨g, n * 5 + 3, none⟩ (.int .u64 (lo : Int))).drew.cell? ⟨b9, 1, none⟩ = some (.int .i64 (u : Int)) ∧ (w7.setCell ⟨g, n * 5 + 3, none⟩ (.int .u64 (lo : Int))).drew.cell? ⟨gF, u, none⟩ = some (.int .u64 (lo : Int)) ∧ (w7.setCell ⟨g, n * 5 + 3, none⟩ (.int .u64 (lo : Int))).drew.cell? ⟨gS, i, none⟩ = some (.int .u64 (s : Int))) := by
          refine ⟨B8.out.cell 1, (F8.out.cell u).trans ((F7.out.cell u).symm.trans hcu), ?_⟩
          have := tuC_cell S8.out (k := i) (by rw [HZ.out.len]; exact hlt)
          rw [HS9.out] at this
          exact this
        clear T7 F7 S7 B7 KW7 T8 F8 S8 B8 KW8 hlo7 hhi7 hfr7 hf3 hb71 hcu
        refine wp_region_K (fun W => W.cell? ⟨b9, 1, none⟩ = some (.int .i64 (u : Int)) ∧ W.cell? ⟨gF, u, none⟩ = some (.int .u64 (lo : Int)) ∧ W.cell? ⟨gS, i, none⟩ = some (.int .u64 (s : Int))) 14 (by kernel_rfl) HSS.out (fun hSn => ?_)
        generalize (w7.setCell ⟨g, n * 5 + 3, none⟩ (.int .u64 (lo : Int))).drew = we at *
        have cFe : we.cell? ⟨gF, u, none⟩ = some (.int .u64 (lo : Int)) := HSS.out.2.1
        have fFe : we.frozen? ⟨gF, u, none⟩ = false := F8d.out.frozen u
        refine wpAnyK_pure (i := 0) (oi := ⟨_, _, _, _, _, _⟩) (v := ?_) rfl (by kernel_rfl) (by kernel_rfl) (by kernel_rfl) rfl (fun _ _ _ h => h) (Or.inl ⟨by rfl, ?_⟩) hSn ?_
        rotate_left 1
        · intro W hSw
          go_simp
          try with_reducible rfl
        replace hSn := (KT.set (i := 0) (by decide)).2 hSn
        try simp only [Act.put, List.setIfInBounds_toArray, List.set_cons_zero, List.set_cons_succ]
        refine wpAnyK_pure (i := 1) (oi := ⟨_, _, _, _, _, _⟩) (v := ?_) rfl (by kernel_rfl) (by kernel_rfl) (by kernel_rfl) rfl (fun _ _ _ h => h) (Or.inl ⟨by rfl, ?_⟩) hSn ?_
        rotate_left 1
        · intro W hSw
          go_simp
          try with_reducible rfl
        replace hSn := (KT.set (i := 1) (by decide)).2 hSn
        try simp only [Act.put, List.setIfInBounds_toArray, List.set_cons_zero, List.set_cons_succ]
        refine wpAnyK_chain (i := 2) [14] (oi := ⟨_, _, _, _, _, _⟩) (v := ?_) rfl (by kernel_rfl) (by kernel_rfl) (by kernel_rfl) rfl (by kernel_rfl) (by kernel_rfl) (by kernel_rfl) (fun _ _ _ h => h) (Or.inl ⟨by rfl, ?_⟩) hSn ?_
        rotate_left 1
        · intro W hSw
          try dsimp only at hSw
          obtain ⟨hs1, hs2, hs3⟩ := hSw
          go_simp
          try with_reducible rfl
        replace hSn := (KT.set (i := 2) (by decide)).2 hSn
        try simp only [Act.put, List.setIfInBounds_toArray, List.set_cons_zero, List.set_cons_succ]
        refine wpAnyK_pure (i := 3) (oi := ⟨_, _, _, _, _, _⟩) (v := ?_) rfl (by kernel_rfl) (by kernel_rfl) (by kernel_rfl) rfl (fun _ _ _ h => h) (Or.inl ⟨by rfl, ?_⟩) hSn ?_
        rotate_left 1
        · intro W hSw
          go_simp
          try with_reducible rfl
        replace hSn := (KT.set (i := 3) (by decide)).2 hSn
        try simp only [Act.put, List.setIfInBounds_toArray, List.set_cons_zero, List.set_cons_succ]
        refine wpAnyK_chain (i := 4) [14] (oi := ⟨_, _, _, _, _, _⟩) (v := ?_) rfl (by kernel_rfl) (by kernel_rfl) (by kernel_rfl) rfl (by kernel_rfl) (by kernel_rfl) (by kernel_rfl) (fun _ _ _ h => h) (Or.inl ⟨by rfl, ?_⟩) hSn ?_
        rotate_left 1
        · intro W hSw
          try dsimp only at hSw
          obtain ⟨hs1, hs2, hs3⟩ := hSw
          go_simp
          try with_reducible rfl
        replace hSn := (KT.set (i := 4) (by decide)).2 hSn
        try simp only [Act.put, List.setIfInBounds_toArray, List.set_cons_zero, List.set_cons_succ]
        refine wpAnyK_pure (i := 5) (oi := ⟨_, _, _, _, _, _⟩) (v := ?_) rfl (by kernel_rfl) (by kernel_rfl) (by kernel_rfl) rfl (fun _ _ _ h => h) (Or.inl ⟨by rfl, ?_⟩) hSn ?_
        rotate_left 1
        · intro W hSw
          go_simp
          try with_reducible rfl
        replace hSn := (KT.set (i := 5) (by decide)).2 hSn
        try simp only [Act.put, List.setIfInBounds_toArray, List.set_cons_zero, List.set_cons_succ]
        refine wpAnyK_pure (i := 6) (oi := ⟨_, _, _, _, _, _⟩) (v := ?_) rfl (by kernel_rfl) (by kernel_rfl) (by kernel_rfl) rfl (fun _ _ _ h => h) (Or.inl ⟨by rfl, ?_⟩) hSn ?_
        rotate_left 1
        · intro W hSw
          go_simp
          try with_reducible rfl
        replace hSn := (KT.set (i := 6) (by decide)).2 hSn
        try simp only [Act.put, List.setIfInBounds_toArray, List.set_cons_zero, List.set_cons_succ]
        refine wpAnyK_pure (i := 7) (oi := ⟨_, _, _, _, _, _⟩) (v := ?_) rfl (by kernel_rfl) (by kernel_rfl) (by kernel_rfl) rfl (fun _ _ _ h => h) (Or.inl ⟨by rfl, ?_⟩) hSn ?_
        rotate_left 1
        · intro W hSw
          go_simp
          try with_reducible rfl
        replace hSn := (KT.set (i := 7) (by decide)).2 hSn
        try simp only [Act.put, List.setIfInBounds_toArray, List.set_cons_zero, List.set_cons_succ]
        refine wpAnyK_pure (i := 8) (oi := ⟨_, _, _, _, _, _⟩) (v := ?_) rfl (by kernel_rfl) (by kernel_rfl) (by kernel_rfl) rfl (fun _ _ _ h => h) (Or.inl ⟨by rfl, ?_⟩) hSn ?_
        rotate_left 1
        · intro W hSw
          go_simp
          try with_reducible rfl
        replace hSn := (KT.set (i := 8) (by decide)).2 hSn
        try simp only [Act.put, List.setIfInBounds_toArray, List.set_cons_zero, List.set_cons_succ]
        refine wpAnyK_chain (i := 9) [14] (oi := ⟨_, _, _, _, _, _⟩) (v := ?_) rfl (by kernel_rfl) (by kernel_rfl) (by kernel_rfl) rfl (by kernel_rfl) (by kernel_rfl) (by kernel_rfl) (fun _ _ _ h => h) (Or.inl ⟨by rfl, ?_⟩) hSn ?_
        rotate_left 1
        · intro W hSw
          try dsimp only at hSw
          obtain ⟨hs1, hs2, hs3⟩ := hSw
          go_simp
          try with_reducible rfl
        replace hSn := (KT.set (i := 9) (by decide)).2 hSn
        try simp only [Act.put, List.setIfInBounds_toArray, List.set_cons_zero, List.set_cons_succ]
        clear hSn
        refine wpAnyK_ready (rs := [10]) (by kernel_rfl) (by simp) ?_
        refine AllReadyK.cons rfl (fun K hK => ?_) AllReadyK.nil
        go_simp
        go_at_call 103
        refine (te_shares we s hs1 hszt).mono ?_
        rintro e w8 ⟨rfl, hw8⟩
        obtain rfl := hw8.symm
        refine hK.out _ _ (fun _ => HSS.out) (fun hSn => ?_)
        clear hK K
        try simp only [Act.put, List.setIfInBounds_toArray, List.set_cons_zero, List.set_cons_succ]
        refine wpAnyK_pure (i := 11) (oi := ⟨_, _, _, _, _, _⟩) (v := .int .u64 (pr : Int)) rfl (by kernel_rfl) (by kernel_rfl) (by kernel_rfl) rfl (fun _ _ _ h => h) (Or.inl ⟨by rfl, ?_⟩) hSn ?_
        · intro W hSw
          go_simp
          try (first | rw [e5] | rfl)
        replace hSn := (KT.set (i := 11) (by decide)).2 hSn
        try simp only [Act.put, List.setIfInBounds_toArray, List.set_cons_zero, List.set_cons_succ]
        refine wpAnyK_pure (i := 12) (oi := ⟨_, _, _, _, _, _⟩) (v := .int .u64 (up : Int)) rfl (by kernel_rfl) (by kernel_rfl) (by kernel_rfl) rfl (fun _ _ _ h => h) (Or.inl ⟨by rfl, ?_⟩) hSn ?_
        · intro W hSw
          go_simp
          try (first | rw [e6] | rfl)
        replace hSn := (KT.set (i := 12) (by decide)).2 hSn
        try simp only [Act.put, List.setIfInBounds_toArray, List.set_cons_zero, List.set_cons_succ]
        refine wpAnyK_pure (i := 13) (oi := ⟨_, _, _, _, _, _⟩) (v := ?_) rfl (by kernel_rfl) (by kernel_rfl) (by kernel_rfl) rfl (fun _ _ _ h => h) (Or.inl ⟨by rfl, ?_⟩) hSn ?_
        rotate_left 1
        · intro W hSw
          go_simp
          try with_reducible rfl
        replace hSn := (KT.set (i := 13) (by decide)).2 hSn
        try simp only [Act.put, List.setIfInBounds_toArray, List.set_cons_zero, List.set_cons_succ]
        clear hSn
        refine wpAnyK_ready (rs := [14]) (by kernel_rfl) (by simp) ?_
        refine AllReadyK.cons rfl (fun K hK => ?_) AllReadyK.nil
        go_simp
        skip
        refine hK.out _ _ (fun h => absurd h (by decide +kernel)) (fun hSn => ?_)
        clear hK K
        try simp only [Act.put, List.setIfInBounds_toArray, List.set_cons_zero, List.set_cons_succ]
        refine wpAnyK_done (by kernel_rfl) ?_ _
        clear hSn hw8
        have T9 : Hid (TrOk (we.setCell ⟨gF, u, none⟩ (.int .u64 (up : Int))) base (m.withT (r1.set n { ndT r1 n with lo := lo }))) := T8d.out.keeps ((Keeps.refl (fun k => k = gF) we).setCell (p := ⟨gF, u, none⟩) rfl _) (fun k hk e => tfoot_tag T8d.out F8d.out (by decide) (by decide) (by decide) (e ▸ hk))
        have F9 : Hid (Blk (we.setCell ⟨gF, u, none⟩ (.int .u64 (up : Int))) gF 107 (tuC (F.set u up)).toArray) := tuC_blk F8d.out u up
        have B9 : Hid (Blk (we.setCell ⟨gF, u, none⟩ (.int .u64 (up : Int))) b9 144 (tsC1 (n, u)).toArray) := B8d.out.far (p := ⟨gF, u, none⟩) (fun e => by have := HbF.out; have e2 : b9 = gF := e; omega) _
        have KW9 : Hid (Keeps (fun k => k = gF ∨ k = g) w5 (we.setCell ⟨gF, u, none⟩ (.int .u64 (up : Int)))) := KW8d.out.setCell (p := ⟨gF, u, none⟩) (.inl rfl) _
        clear T8d F8d S8d B8d KW8d HSS cFe fFe
        generalize we.setCell ⟨gF, u, none⟩ (.int .u64 (up : Int)) = wf at *
        have cbf : wf.cell? ⟨b9, 1, none⟩ = some (.int .i64 (u : Int)) := B9.out.cell 1
        have cuf : wf.cell? ⟨gF, u, none⟩ = some (.int .u64 (up : Int)) := by
          have := tuC_cell F9.out (k := u) (by rw [List.length_set, HFl.out]; omega)
          rw [gN_set (by rw [HFl.out]; omega), if_pos rfl] at this
          exact this
        obtain ⟨_, hhif, hfrf, _⟩ := wt_cells T9.out hl8.out HA9.out hnl
        have hf4 := hfrf (n * 5 + 4)
        have hup1 : 1 ≤ up := HUp1.out
        have hupz : ((up : Int) - 1) = ((up - 1 : Nat) : Int) := by omega
        have T10 : Hid (TrOk (wf.setCell ⟨g, n * 5 + 4, none⟩ (.int .u64 ((up : Int) - 1))) base (m.withT ((r1.set n { ndT r1 n with lo := lo }).set n { ndT (r1.set n { ndT r1 n with lo := lo }) n with hi := up - 1 }))) := by rw [hupz]; exact wt_set4 T9.out hl8.out HA9.out hnl (up - 1)
        have F10 : Hid (Blk (wf.setCell ⟨g, n * 5 + 4, none⟩ (.int .u64 ((up : Int) - 1))) gF 107 (tuC (F.set u up)).toArray) := F9.out.far (p := ⟨g, n * 5 + 4, none⟩) (fun e => HnF.out e.symm) _
        have KW10 : Hid (Keeps (fun k => k = gF ∨ k = g) w5 (wf.setCell ⟨g, n * 5 + 4, none⟩ (.int .u64 ((up : Int) - 1)))) := KW9.out.setCell (p := ⟨g, n * 5 + 4, none⟩) (.inr rfl) _
        have hl10 : ((r1.set n { ndT r1 n with lo := lo }).set n { ndT (r1.set n { ndT r1 n with lo := lo }) n with hi := up - 1 }).length = m.L.length := by rw [List.length_set]; exact hl8.out
        obtain ⟨hlog, _, _, _⟩ := wt_cells T10.out hl10 HA9.out hnl
        rw [set_two (by rw [HTl.out]; exact hnl)] at T10 hlog hl10
        have e9 : (ndT (setIv r1 n lo (up - 1)) n).lo = lo := by unfold setIv; rw [ndT_set (by rw [HTl.out]; exact hnl), if_pos rfl]
        rw [e9] at hlog
        have cFi : (wf.setCell ⟨g, n * 5 + 4, none⟩ (.int .u64 ((up : Int) - 1))).cell? ⟨gF, i, none⟩ = some (.int .u64 (gN (F.set u up) i : Int)) := tuC_cell F10.out (by rw [List.length_set, HFl.out]; exact hlt)
        have fFi : (wf.setCell ⟨g, n * 5 + 4, none⟩ (.int .u64 ((up : Int) - 1))).frozen? ⟨gF, i, none⟩ = false := F10.out.frozen i
        clear hupz e9 hfrf
        go_wp2
        go_roundw
        case rel =>
          refine ⟨i + 1, by omega, by go_num, ?_, ?_, KW10.out.setCell (p := ⟨gF, i, none⟩) (.inl rfl) _⟩
          · show TrOk _ _ _
            rw [HDN.out]
            exact T10.out.keeps ((Keeps.refl (fun k => k = gF) _).setCell (p := ⟨gF, i, none⟩) rfl _) (fun k hk e => tfoot_tag T10.out F10.out (by decide) (by decide) (by decide) (e ▸ hk))
          · show Blk _ _ _ _
            rw [HDN.out]
            exact tuC_blk F10.out i lo
        case measure => simp [intOf] <;> omega
    · obtain rfl : i = Q.length := by omega
      have hq9 : wr.cell? ⟨m.q, 1, none⟩ = some (.int .i64 (m.dl : Int)) := HTr.out.b.cell 1
      have hf9 : wr.frozen? ⟨m.q, 1, none⟩ = false := HTr.out.b.frozen 1
      have T9 : Hid (TrOk (wr.setCell ⟨m.q, 1, none⟩ (.int .i64 ((m.dl : Int) + 1))) base { m.withT (dT Q S sh m.T Q.length).1 with dl := m.dl + 1 }) := by
        have hq0 := HTr.out.b.set 1 (.int .i64 ((m.dl : Int) + 1))
        have hd : ((m.dl : Int) + 1) = ((m.dl + 1 : Nat) : Int) := by omega
        rw [hd] at hq0 ⊢
        have hg9 : ∀ {A : Option Addr} {n c sz : Nat} {e : TypeId} {xs : List Value}, wr.ownsRow base e sz (.slice A n c) n xs → 112 ≠ e → (wr.setCell ⟨m.q, 1, none⟩ (.int .i64 ((m.dl + 1 : Nat) : Int))).ownsRow base e sz (.slice A n c) n xs := fun ho hne => own_store ho HTr.out.b (fun e => hne e.symm) _ _
        exact ⟨hq0, HTr.out.qb, hg9 HTr.out.nds (by decide), fun y hy => hg9 (HTr.out.kid y hy) (by decide), HTr.out.kd⟩
      have K9 : Hid (Keeps (fun k => k = m.q ∨ m.nA.map Addr.block = some k) w (wr.setCell ⟨m.q, 1, none⟩ (.int .i64 ((m.dl : Int) + 1)))) := by
        refine Keeps.setCell (p := ⟨m.q, 1, none⟩) ?_ (.inl rfl) _
        refine (Keeps.of_below V05.out _).chain HKr.out (fun k hk e => ?_)
        rcases e with e | e
        · have := Hgq.out; have := HGq1.out; omega
        · right; rw [HA9.out, e]; rfl
      go_wp2
      go_end0
      refine ⟨rfl, Q, F1.out, ?_, K9.out.mono (fun k _ e => e.imp id (fun e => by simpa using e))⟩
      rw [HS2.out, HSh.out]
      exact T9.out
end Go.Proofs.YtbfpckomgpkjgaaGreat
