/-
  reach: Add.
-/
import Derived.Test.YtbfpckomgpkjgaaGreatRxD
namespace Go.Proofs.YtbfpckomgpkjgaaGreat
open Go.RowKit Go.Maps

theorem rngKp {w w' : World} {S : Nat → Prop} {b o : Nat} {cs : List Value} (h : w.rangeAt b o cs) (hk : Keeps S w w') (hlt : b < w.heap.size) (hS : ¬ S b) : w'.rangeAt b o cs := fun j v hv => (hk.cell (p := ⟨b, o + j, none⟩) hlt hS).trans (h j v hv)
/-- cover's step. -/
theorem CovPost.to {w : World} {base : Nat} {m : RxM} {G' : Gr} {e : Ending} {w' : World} (h : CovPost w base m G' e w') : e = .returned (.tuple #[]) ∧ ∃ m', RxTo w base m m' w' ∧ SameG m m' ∧ IxOk G' m.t.T m'.C ∧ m'.cn ≤ m.cn + 1000 := by
  obtain ⟨he, m', h1, h2, h3, h4, h5, h6⟩ := h
  refine ⟨he, m', ⟨h1, h2.q, h5.mono fun k _ e => .inr (.inr (rcov_own e)), fun k e => ?_, fun k e => ?_⟩, h2, h3, h4⟩
  · unfold rfoot rown at e
    rw [h2.g, h2.t, h2.q, h2.nb, h2.iA] at e
    rcases e with e | e | e | e | e | e | e
    · exact .inl (.inl e)
    · exact .inl (.inr (.inl e))
    · exact .inl (.inr (.inr (.inl e)))
    · exact .inl (.inr (.inr (.inr (.inl e))))
    · rcases h6 k (.inl e) with e | e
      · exact .inl (.inr (.inr (rcov_own e)))
      · exact .inr e
    · exact .inl (.inr (.inr (.inr (.inr (.inr (.inl e))))))
    · rcases h6 k (.inr e) with e | e
      · exact .inl (.inr (.inr (rcov_own e)))
      · exact .inr e
  · rw [h2.g] at e
    exact .inl e
set_option maxRecDepth 100000 in
set_option maxHeartbeats 8000000 in
theorem rx_add (w : World) (base : Nat) (m : RxM) (G : Gr) (h : RxOk w base m) (hg : RxI m G) (hb : base ≤ w.heap.size) (id s : Hh) (A : Option Addr) (ps : List Hh) (c : Nat) (hS : SeesV w w.heap.size A (hsC ps)) (hm : ps.length ≤ 1000000) (hmx : G.length + 1 ≤ 1000) :
    Calls Tryz.prog 25 #[.pointer (some ⟨m.q, 0, none⟩), .agg (hC id).toArray, .agg (hC s).toArray, .slice A ps.length c] w fun e w' => e = .returned (.int .i64 (refE G id s ps : Int)) ∧ RxAdded w base m G id s ps w' := by
  have V0 : Hid (Below w.heap.size w ((w.alloc (.cells (hC id).toArray 23)).alloc (.cells (hC s).toArray 23))) := nxAlloc (nxAlloc (nxRefl w) _) _
  have BI : Hid (Blk ((w.alloc (.cells (hC id).toArray 23)).alloc (.cells (hC s).toArray 23)) w.heap.size 23 (hC id).toArray) := rxBlk1 w _ _ _
  have BS : Hid (Blk ((w.alloc (.cells (hC id).toArray 23)).alloc (.cells (hC s).toArray 23)) (w.heap.size + 1) 23 (hC s).toArray) := rxBlk2 w _ _ _
  have H0 := Lib.hid h
  have HG := Lib.hid hg
  have HM := Lib.hid hm
  have HB0 := Lib.hid hb
  have HMx := Lib.hid hmx
  have HS0 := Lib.hid hS
  have HRf := Lib.hid (rx_refused ((w.alloc (.cells (hC id).toArray 23)).alloc (.cells (hC s).toArray 23)) base m G (h.later V0.out) hg id s A ps c ((hS.below V0.out).more V0.out.size) hm)
  obtain ⟨E, hE⟩ : ∃ E, refE G id s ps = E := ⟨_, rfl⟩
  have HE := Lib.hid hE
  rw [hE] at HRf ⊢
  by_cases hE0 : E = 0
  case neg =>
    have hEn : ((E : Int) != 0) = true := bne_iff_ne.2 (by omega)
    have hEn2 : ¬ (E : Int) = 0 := by omega
    clear h hg hm hS hE hb hmx
    go_enter Tryz.func25, Tryz.ntmps25
    go_wp2_with (first
      | ((with_reducible show wpList _ _ _ (⟨some 13, _, _, _, _, _⟩ :: _) _ _); refine wpList_load_mid rfl 23 (.tmp 5) rfl w.heap.size 0 rfl (hC id) _ (rxRng BI.out) Tryz.underlying23 rfl (hszL id) ?_)
      | ((with_reducible show wpList _ _ _ (⟨some 14, _, _, _, _, _⟩ :: _) _ _); refine wpList_load_mid rfl 23 (.tmp 6) rfl (w.heap.size + 1) 0 rfl (hC s) _ (rxRng BS.out) Tryz.underlying23 rfl (hszL s) ?_)
      | (go_at_call 56; refine HRf.out.mono ?_; rintro e3 w3 ⟨rfl, hb3⟩; have V3 : Hid (Below w.heap.size w w3) := nxTo V0.out hb3; have VB : Hid (Below ((w.alloc (.cells (hC id).toArray 23)).alloc (.cells (hC s).toArray 23)).heap.size ((w.alloc (.cells (hC id).toArray 23)).alloc (.cells (hC s).toArray 23)) w3) := hb3; clear hb3))
    go_ret
    exact ⟨rfl, m, RxTo.same H0.out V3.out, by rw [addX_no (by rw [HE.out]; exact hE0)]; exact HG.out, by unfold addP; rw [if_neg (by rw [HE.out]; exact hE0)]⟩
  subst hE0
  obtain ⟨hz1, hz2⟩ := refE_zero hE
  have hGm : m.g.L.length ≤ 999999 := by rw [hg.g.len]; omega
  have HGm := Lib.hid hGm
  obtain ⟨sp, hsp⟩ : ∃ sp, placeG G s = some sp := (addE_zero hz1).2.2.2 s hz2
  have hspE : plE G s = sp := by unfold plE; rw [hsp]; rfl
  have HSp : Hid (sp < m.t.L.length) := by show _ < _; rw [hg.tl]; exact (placeG_some hsp).1
  have HTm : Hid (m.t.L.length + 1 ≤ 1000) := by show _ ≤ _; rw [hg.tl]; exact hmx
  have hks : m.ks.length = m.t.L.length := by rw [hg.ks, hg.il, hg.tl]
  have htl9 := hg.tl
  have HKs := Lib.hid hks
  have HZ1 := Lib.hid hz1
  have HZ2 := Lib.hid hz2
  have HLk : Hid (∀ W, ∀ {g4 t5}, RxOk W base { m with g := g4, t := t5 } → (Instr.lookup 60 (.map (some m.nb)) (.agg (hC s).toArray) false).run Tryz.prog W = .ok (.int .i64 (sp : Int)) W) := fun W {g4 t5} hO => by
    have h9 := rx_num2 (m := { m with g := g4, t := t5 }) hO HG.out.g.ok HG.out.ids HG.out.ks s
    rw [hspE] at h9
    exact h9
  have HKm : Hid (m.ks.length < maxLen) := by show _ < _; unfold maxLen; omega
  have hidl : m.ids.length ≤ 1000 := by rw [hg.il]; omega
  have hwf : (Lit.int .i64 (m.ks.length : Int)).wf = true := by
    show (decide ((-9223372036854775808 : Int) ≤ (m.ks.length : Int)) && decide ((m.ks.length : Int) ≤ 9223372036854775807)) = true
    rw [Bool.and_eq_true]
    exact ⟨decide_eq_true (by omega), decide_eq_true (by omega)⟩
  obtain ⟨i1, hi1, hy0, hy1, hy2⟩ := info_parts Tryz.dinfoH
  have HFt : Hid (∀ k, w.heap.size ≤ k → ¬ rfoot m k) := fun k hk e => by have := (H0.out.lt e).2; omega
  have HSp2 := Lib.hid hspE
  clear h hg hm hS hE hb hmx hz1 hz2 hGm hsp hspE hks htl9
  go_enter Tryz.func25, Tryz.ntmps25
  go_wp2_with (first
    | ((with_reducible show wpList _ _ _ (⟨some 13, _, _, _, _, _⟩ :: _) _ _); refine wpList_load_mid rfl 23 (.tmp 5) rfl w.heap.size 0 rfl (hC id) _ (rxRng BI.out) Tryz.underlying23 rfl (hszL id) ?_)
    | ((with_reducible show wpList _ _ _ (⟨some 14, _, _, _, _, _⟩ :: _) _ _); refine wpList_load_mid rfl 23 (.tmp 6) rfl (w.heap.size + 1) 0 rfl (hC s) _ (rxRng BS.out) Tryz.underlying23 rfl (hszL s) ?_)
    | (go_at_call 56; refine HRf.out.mono ?_; rintro e3 w3 ⟨rfl, hb3⟩; have V3 : Hid (Below w.heap.size w w3) := nxTo V0.out hb3; have VB : Hid (Below ((w.alloc (.cells (hC id).toArray 23)).alloc (.cells (hC s).toArray 23)).heap.size ((w.alloc (.cells (hC id).toArray 23)).alloc (.cells (hC s).toArray 23)) w3) := hb3; clear hb3))
  have HD : Hid (RxOk w3.drew base m) := H0.out.later (rxDr V3.out)
  have S3 : Hid (SeesV w3.drew w3.drew.heap.size A (hsC ps)) := (HS0.out.below V3.out).more V3.out.size
  have RI3 : Hid (w3.drew.rangeAt w.heap.size 0 (hC id)) := rxRng (BI.out.below (rxDr VB.out) BI.out.lt)
  have RS3 : Hid (w3.drew.rangeAt (w.heap.size + 1) 0 (hC s)) := rxRng (BS.out.below (rxDr VB.out) BS.out.lt)
  have HL3 : Hid (w.heap.size < w3.drew.heap.size ∧ w.heap.size + 1 < w3.drew.heap.size) := ⟨Nat.lt_of_lt_of_le BI.out.lt VB.out.size, Nat.lt_of_lt_of_le BS.out.lt VB.out.size⟩
  obtain ⟨p0, hp0⟩ : ∃ x, w.heap.size = x := ⟨_, rfl⟩
  obtain ⟨p1, hp1⟩ : ∃ x, p0 + 1 = x := ⟨_, rfl⟩
  have HP1 : Hid (p0 ≤ p1) := by show _ ≤ _; omega
  rw [hp0] at RI3 RS3 HL3 HFt ⊢
  rw [hp1] at RS3 HL3 ⊢
  have HP0 := Lib.hid hp0
  clear hp0 hp1 VB BI BS HRf
  refine wp_region_held_drew (S := fun W => W.cell? ⟨m.q, 0, none⟩ = some (.pointer (some ⟨m.g.q, 0, none⟩)) ∧ W.rangeAt p0 0 (hC id)) (by kernel_rfl) ⟨HD.out.c.1, RI3.out⟩ (fun hHeld => ?_)
  refine wpAnyH_take (i := 0) (oi := ⟨_, _, _, _, _, _⟩) (v := ?_) rfl (by kernel_rfl) (by kernel_rfl) (by kernel_rfl) (fun _ _ _ h => h) (Or.inl ⟨by rfl, ?_⟩) (by assumption) ?_
  rotate_left 1
  · intro W hSw
    try dsimp only at hSw
    obtain ⟨hs1, hs2⟩ := hSw
    go_simp
    try with_reducible rfl
  try simp only [Act.put, List.setIfInBounds_toArray, List.set_cons_zero, List.set_cons_succ]
  refine wpAnyH_take (i := 1) (oi := ⟨_, _, _, _, _, _⟩) (v := ?_) rfl (by kernel_rfl) (by kernel_rfl) (by kernel_rfl) (fun _ _ _ h => h) (Or.inl ⟨by rfl, ?_⟩) (by assumption) ?_
  rotate_left 1
  · intro W hSw
    try dsimp only at hSw
    obtain ⟨hs1, hs2⟩ := hSw
    go_simp
    try with_reducible rfl
  try simp only [Act.put, List.setIfInBounds_toArray, List.set_cons_zero, List.set_cons_succ]
  refine wpAnyH_take (i := 2) (oi := ⟨_, _, _, _, _, _⟩) (v := ?_) rfl (by kernel_rfl) (by kernel_rfl) (by kernel_rfl) (fun _ _ _ h => h) (Or.inl ⟨by rfl, ?_⟩) (by assumption) ?_
  rotate_left 1
  · intro W hSw
    try dsimp only at hSw
    obtain ⟨hs1, hs2⟩ := hSw
    go_simp
    try with_reducible rfl
  try simp only [Act.put, List.setIfInBounds_toArray, List.set_cons_zero, List.set_cons_succ]
  refine wpAnyH_take (i := 3) (oi := ⟨_, _, _, _, _, _⟩) (v := ?_) rfl (by kernel_rfl) (by kernel_rfl) (by kernel_rfl) (fun _ _ _ h => h) (Or.inl ⟨by rfl, ?_⟩) (by assumption) ?_
  rotate_left 1
  · intro W hSw
    try dsimp only at hSw
    obtain ⟨hs1, hs2⟩ := hSw
    go_simp
    try with_reducible rfl
  try simp only [Act.put, List.setIfInBounds_toArray, List.set_cons_zero, List.set_cons_succ]
  refine wpAnyH_take (i := 4) (oi := ⟨_, _, _, _, _, _⟩) (v := .agg (hC id).toArray) rfl (by kernel_rfl) (by kernel_rfl) (by kernel_rfl) (fun _ _ _ h => h) (yieldsIf_load_mid (by rfl) 23 (.tmp 5) rfl p0 0 rfl (hC id) _ (fun W hS => hS.2) Tryz.underlying23 rfl (hszL id)) (by assumption) ?_
  try simp only [Act.put, List.setIfInBounds_toArray, List.set_cons_zero, List.set_cons_succ]
  refine wpAnyH_take (i := 5) (oi := ⟨_, _, _, _, _, _⟩) (v := ?_) rfl (by kernel_rfl) (by kernel_rfl) (by kernel_rfl) (fun _ _ _ h => h) (Or.inl ⟨by rfl, ?_⟩) (by assumption) ?_
  rotate_left 1
  · intro W hSw
    try dsimp only at hSw
    obtain ⟨hs1, hs2⟩ := hSw
    go_simp
    try with_reducible rfl
  try simp only [Act.put, List.setIfInBounds_toArray, List.set_cons_zero, List.set_cons_succ]
  refine wpAnyH_ready (rs := [6]) (by kernel_rfl) (by simp) ?_
  refine AllReadyH.cons rfl (fun K hK => ?_) AllReadyH.nil
  go_simp
  go_at_call 57
  refine (add_any w3.drew base m.g G HD.out.g HG.out.g id A c ps S3.out HM.out HGm.out).mono ?_
  unfold AddPost
  rintro e4 w4 ⟨rfl, g4, ha4, hi4⟩
  have T1 := Lib.hid (HD.out.setG ha4)
  have I4 := Lib.hid hi4
  have QG := Lib.hid ha4.q
  clear ha4 hi4
  have K1 := Lib.hid (T1.out.k)
  have RI4 : Hid (w4.rangeAt p0 0 (hC id)) := rngKp RI3.out K1.out HL3.out.1 (HFt.out p0 (Nat.le_refl _))
  have RS4 : Hid (w4.rangeAt p1 0 (hC s)) := rngKp RS3.out K1.out HL3.out.2 (HFt.out p1 HP1.out)
  refine hK.out _ _ ⟨by rw [← QG.out]; exact T1.out.ok.c.1, RI4.out⟩ (fun hSn => ?_)
  clear hK K
  try simp only [Act.put, List.setIfInBounds_toArray, List.set_cons_zero, List.set_cons_succ]
  refine wpAnyH_done (by kernel_rfl) ?_ _
  clear hHeld hSn
  have H4d : Hid (RxOk w4.drew base { m with g := g4 }) := T1.out.ok.later (rxDr (nxRefl _))
  have HL4 : Hid (p0 < w4.drew.heap.size ∧ p1 < w4.drew.heap.size) := ⟨Nat.lt_of_lt_of_le HL3.out.1 K1.out.size, Nat.lt_of_lt_of_le HL3.out.2 K1.out.size⟩
  have HF4 : Hid (∀ k, (k = p0 ∨ k = p1) → ¬ rfoot { m with g := g4 } k) := fun k h1 e => by
    have h3 := HL3.out
    have hP := HP1.out
    rcases T1.out.f k e with e | e
    · exact HFt.out k (by rcases h1 with rfl | rfl; exact Nat.le_refl _; exact hP) e
    · rcases h1 with rfl | rfl <;> omega
  have L4 : Hid ((Instr.lookup 60 (.map (some m.nb)) (.agg (hC s).toArray) false).run Tryz.prog w4.drew = .ok (.int .i64 (sp : Int)) w4.drew) := HLk.out w4.drew H4d.out
  go_wp2
  refine wp_region_held_drew (S := fun W => W.cell? ⟨m.q, 1, none⟩ = some (.pointer (some ⟨m.t.q, 0, none⟩)) ∧ W.cell? ⟨m.q, 3, none⟩ = some (.map (some m.nb)) ∧ W.rangeAt p1 0 (hC s) ∧ (Instr.lookup 60 (.map (some m.nb)) (.agg (hC s).toArray) false).run Tryz.prog W = .ok (.int .i64 (sp : Int)) W) (by kernel_rfl) ⟨H4d.out.c.2.1, H4d.out.c.2.2.2.1, RS4.out, L4.out⟩ (fun hHeld => ?_)
  refine wpAnyH_take (i := 0) (oi := ⟨_, _, _, _, _, _⟩) (v := ?_) rfl (by kernel_rfl) (by kernel_rfl) (by kernel_rfl) (fun _ _ _ h => h) (Or.inl ⟨by rfl, ?_⟩) (by assumption) ?_
  rotate_left 1
  · intro W hSw
    try dsimp only at hSw
    obtain ⟨hs1, hs2, hs3, hs4⟩ := hSw
    go_simp
    try with_reducible rfl
  try simp only [Act.put, List.setIfInBounds_toArray, List.set_cons_zero, List.set_cons_succ]
  refine wpAnyH_take (i := 1) (oi := ⟨_, _, _, _, _, _⟩) (v := ?_) rfl (by kernel_rfl) (by kernel_rfl) (by kernel_rfl) (fun _ _ _ h => h) (Or.inl ⟨by rfl, ?_⟩) (by assumption) ?_
  rotate_left 1
  · intro W hSw
    try dsimp only at hSw
    obtain ⟨hs1, hs2, hs3, hs4⟩ := hSw
    go_simp
    try with_reducible rfl
  try simp only [Act.put, List.setIfInBounds_toArray, List.set_cons_zero, List.set_cons_succ]
  refine wpAnyH_take (i := 2) (oi := ⟨_, _, _, _, _, _⟩) (v := ?_) rfl (by kernel_rfl) (by kernel_rfl) (by kernel_rfl) (fun _ _ _ h => h) (Or.inl ⟨by rfl, ?_⟩) (by assumption) ?_
  rotate_left 1
  · intro W hSw
    try dsimp only at hSw
    obtain ⟨hs1, hs2, hs3, hs4⟩ := hSw
    go_simp
    try with_reducible rfl
  try simp only [Act.put, List.setIfInBounds_toArray, List.set_cons_zero, List.set_cons_succ]
  refine wpAnyH_take (i := 3) (oi := ⟨_, _, _, _, _, _⟩) (v := ?_) rfl (by kernel_rfl) (by kernel_rfl) (by kernel_rfl) (fun _ _ _ h => h) (Or.inl ⟨by rfl, ?_⟩) (by assumption) ?_
  rotate_left 1
  · intro W hSw
    try dsimp only at hSw
    obtain ⟨hs1, hs2, hs3, hs4⟩ := hSw
    go_simp
    try with_reducible rfl
  try simp only [Act.put, List.setIfInBounds_toArray, List.set_cons_zero, List.set_cons_succ]
  refine wpAnyH_take (i := 4) (oi := ⟨_, _, _, _, _, _⟩) (v := ?_) rfl (by kernel_rfl) (by kernel_rfl) (by kernel_rfl) (fun _ _ _ h => h) (Or.inl ⟨by rfl, ?_⟩) (by assumption) ?_
  rotate_left 1
  · intro W hSw
    try dsimp only at hSw
    obtain ⟨hs1, hs2, hs3, hs4⟩ := hSw
    go_simp
    try with_reducible rfl
  try simp only [Act.put, List.setIfInBounds_toArray, List.set_cons_zero, List.set_cons_succ]
  refine wpAnyH_take (i := 5) (oi := ⟨_, _, _, _, _, _⟩) (v := ?_) rfl (by kernel_rfl) (by kernel_rfl) (by kernel_rfl) (fun _ _ _ h => h) (Or.inl ⟨by rfl, ?_⟩) (by assumption) ?_
  rotate_left 1
  · intro W hSw
    try dsimp only at hSw
    obtain ⟨hs1, hs2, hs3, hs4⟩ := hSw
    go_simp
    try with_reducible rfl
  try simp only [Act.put, List.setIfInBounds_toArray, List.set_cons_zero, List.set_cons_succ]
  refine wpAnyH_take (i := 6) (oi := ⟨_, _, _, _, _, _⟩) (v := ?_) rfl (by kernel_rfl) (by kernel_rfl) (by kernel_rfl) (fun _ _ _ h => h) (Or.inl ⟨by rfl, ?_⟩) (by assumption) ?_
  rotate_left 1
  · intro W hSw
    try dsimp only at hSw
    obtain ⟨hs1, hs2, hs3, hs4⟩ := hSw
    go_simp
    try with_reducible rfl
  try simp only [Act.put, List.setIfInBounds_toArray, List.set_cons_zero, List.set_cons_succ]
  refine wpAnyH_take (i := 7) (oi := ⟨_, _, _, _, _, _⟩) (v := ?_) rfl (by kernel_rfl) (by kernel_rfl) (by kernel_rfl) (fun _ _ _ h => h) (Or.inl ⟨by rfl, ?_⟩) (by assumption) ?_
  rotate_left 1
  · intro W hSw
    try dsimp only at hSw
    obtain ⟨hs1, hs2, hs3, hs4⟩ := hSw
    go_simp
    try with_reducible rfl
  try simp only [Act.put, List.setIfInBounds_toArray, List.set_cons_zero, List.set_cons_succ]
  refine wpAnyH_take (i := 8) (oi := ⟨_, _, _, _, _, _⟩) (v := .agg (hC s).toArray) rfl (by kernel_rfl) (by kernel_rfl) (by kernel_rfl) (fun _ _ _ h => h) (yieldsIf_load_mid (by rfl) 23 (.tmp 6) rfl p1 0 rfl (hC s) _ (fun W hS => hS.2.2.1) Tryz.underlying23 rfl (hszL s)) (by assumption) ?_
  try simp only [Act.put, List.setIfInBounds_toArray, List.set_cons_zero, List.set_cons_succ]
  refine wpAnyH_take (i := 9) (oi := ⟨_, _, _, _, _, _⟩) (v := .int .i64 (sp : Int)) rfl (by kernel_rfl) (by kernel_rfl) (by kernel_rfl) (fun _ _ _ h => h) (yieldsIf_lookup (by rfl) 60 (.tmp 35) (.tmp 36) false rfl _ _ _ rfl rfl (fun W hS => hS.2.2.2)) (by assumption) ?_
  try simp only [Act.put, List.setIfInBounds_toArray, List.set_cons_zero, List.set_cons_succ]
  refine wpAnyH_ready (rs := [10]) (by kernel_rfl) (by simp) ?_
  refine AllReadyH.cons rfl (fun K hK => ?_) AllReadyH.nil
  go_simp
  go_at_call 58
  refine (te_addT w4.drew base m.t H4d.out.t HG.out.t sp HSp.out HTm.out).mono ?_
  rintro e5 w5 ⟨rfl, t5, ht5⟩
  have T2 := Lib.hid (H4d.out.setT ht5)
  have HT5 := Lib.hid ht5
  clear ht5
  have K2 := Lib.hid (T2.out.k)
  have RI5 : Hid (w5.rangeAt p0 0 (hC id)) := rngKp (w := w4.drew) RI4.out K2.out HL4.out.1 (HF4.out p0 (Or.inl rfl))
  have RS5 : Hid (w5.rangeAt p1 0 (hC s)) := rngKp (w := w4.drew) RS4.out K2.out HL4.out.2 (HF4.out p1 (Or.inr rfl))
  have L5 : Hid ((Instr.lookup 60 (.map (some m.nb)) (.agg (hC s).toArray) false).run Tryz.prog w5 = .ok (.int .i64 (sp : Int)) w5) := HLk.out w5 T2.out.ok
  have Q5 := Lib.hid HT5.out.q
  refine hK.out _ _ ⟨by rw [← Q5.out]; exact T2.out.ok.c.2.1, T2.out.ok.c.2.2.2.1, RS5.out, L5.out⟩ (fun hSn => ?_)
  clear hK K
  try simp only [Act.put, List.setIfInBounds_toArray, List.set_cons_zero, List.set_cons_succ]
  refine wpAnyH_take (i := 11) (oi := ⟨_, _, _, _, _, _⟩) (v := ?_) rfl (by kernel_rfl) (by kernel_rfl) (by kernel_rfl) (fun _ _ _ h => h) (Or.inl ⟨by rfl, ?_⟩) (by assumption) ?_
  rotate_left 1
  · intro W hSw
    try dsimp only at hSw
    obtain ⟨hs1, hs2, hs3, hs4⟩ := hSw
    go_simp
    try with_reducible rfl
  try simp only [Act.put, List.setIfInBounds_toArray, List.set_cons_zero, List.set_cons_succ]
  refine wpAnyH_take (i := 12) (oi := ⟨_, _, _, _, _, _⟩) (v := ?_) rfl (by kernel_rfl) (by kernel_rfl) (by kernel_rfl) (fun _ _ _ h => h) (Or.inl ⟨by rfl, ?_⟩) (by assumption) ?_
  rotate_left 1
  · intro W hSw
    try dsimp only at hSw
    obtain ⟨hs1, hs2, hs3, hs4⟩ := hSw
    go_simp
    try with_reducible rfl
  try simp only [Act.put, List.setIfInBounds_toArray, List.set_cons_zero, List.set_cons_succ]
  refine wpAnyH_take (i := 13) (oi := ⟨_, _, _, _, _, _⟩) (v := ?_) rfl (by kernel_rfl) (by kernel_rfl) (by kernel_rfl) (fun _ _ _ h => h) (Or.inl ⟨by rfl, ?_⟩) (by assumption) ?_
  rotate_left 1
  · intro W hSw
    try dsimp only at hSw
    obtain ⟨hs1, hs2, hs3, hs4⟩ := hSw
    go_simp
    try with_reducible rfl
  try simp only [Act.put, List.setIfInBounds_toArray, List.set_cons_zero, List.set_cons_succ]
  refine wpAnyH_take (i := 14) (oi := ⟨_, _, _, _, _, _⟩) (v := ?_) rfl (by kernel_rfl) (by kernel_rfl) (by kernel_rfl) (fun _ _ _ h => h) (Or.inl ⟨by rfl, ?_⟩) (by assumption) ?_
  rotate_left 1
  · intro W hSw
    try dsimp only at hSw
    obtain ⟨hs1, hs2, hs3, hs4⟩ := hSw
    go_simp
    try with_reducible rfl
  try simp only [Act.put, List.setIfInBounds_toArray, List.set_cons_zero, List.set_cons_succ]
  refine wpAnyH_take (i := 15) (oi := ⟨_, _, _, _, _, _⟩) (v := ?_) rfl (by kernel_rfl) (by kernel_rfl) (by kernel_rfl) (fun _ _ _ h => h) (Or.inl ⟨by rfl, ?_⟩) (by assumption) ?_
  rotate_left 1
  · intro W hSw
    try dsimp only at hSw
    obtain ⟨hs1, hs2, hs3, hs4⟩ := hSw
    go_simp
    try with_reducible rfl
  try simp only [Act.put, List.setIfInBounds_toArray, List.set_cons_zero, List.set_cons_succ]
  refine wpAnyH_done (by kernel_rfl) ?_ _
  clear hHeld hSn
  have HF5 : Hid (∀ k, (k = p0 ∨ k = p1) → ¬ rfoot { m with g := g4, t := t5 } k) := fun k h1 e => by
    have h3 := HL4.out
    rcases T2.out.f k e with e | e
    · exact HF4.out k h1 e
    · rcases h1 with rfl | rfl <;> omega
  have H5a : Hid (RxOk (w5.drew.alloc (.cells (hC id).toArray 23)) base { m with g := g4, t := t5 }) := T2.out.ok.later (nxAlloc (rxDr (nxRefl _)) _)
  have HL5 : Hid (p0 < w5.heap.size) := Nat.lt_of_lt_of_le HL4.out.1 K2.out.size
  have RI5a : Hid ((w5.drew.alloc (.cells (hC id).toArray 23)).rangeAt p0 0 (hC id)) := rngK RI5.out (nxAlloc (rxDr (nxRefl _)) _) HL5.out
  have HL5a : Hid (p0 < (w5.drew.alloc (.cells (hC id).toArray 23)).heap.size) := Nat.lt_of_lt_of_le HL5.out (nxAlloc (rxDr (nxRefl w5)) _).size
  have HQi : Hid (¬ m.iA.map Addr.block = some m.q) := fun e => by
    obtain ⟨_, cur, hB⟩ := own_blk H5a.out.ids e
    exact absurd (tblk_tag hB H5a.out.b) (by decide)
  have HBa : Hid (base ≤ (w5.drew.alloc (.cells (hC id).toArray 23)).heap.size) := Nat.le_of_lt (Nat.lt_of_le_of_lt H5a.out.qb (H5a.out.olt (.inl rfl)).2)
  go_wp2
  refine wp_region_K (fun W => W.cell? ⟨m.q, 2, none⟩ = some (.slice m.iA m.ids.length m.ic) ∧ W.rangeAt p0 0 (hC id)) 10 (by kernel_rfl) ⟨T2.out.ok.c.2.2.1, RI5.out⟩ (fun hSn => ?_)
  refine wpAnyK_pure (i := 0) (oi := ⟨_, _, _, _, _, _⟩) (v := ?_) rfl (by kernel_rfl) (by kernel_rfl) (by kernel_rfl) rfl (fun _ _ _ h => h) (Or.inl ⟨by rfl, ?_⟩) hSn ?_
  rotate_left 1
  · intro W hSw
    go_simp
    try with_reducible rfl
  replace hSn := (KT.set (i := 0) (by decide)).2 hSn
  try simp only [Act.put, List.setIfInBounds_toArray, List.set_cons_zero, List.set_cons_succ]
  refine wpAnyK_pure (i := 1) (oi := ⟨_, _, _, _, _, _⟩) (v := ?_) rfl (by kernel_rfl) (by kernel_rfl) (by kernel_rfl) rfl (fun _ _ _ h => h) (Or.inl ⟨by rfl, ?_⟩) hSn ?_
  rotate_left 1
  · intro W hSw
    go_simp
    try with_reducible rfl
  replace hSn := (KT.set (i := 1) (by decide)).2 hSn
  try simp only [Act.put, List.setIfInBounds_toArray, List.set_cons_zero, List.set_cons_succ]
  refine wpAnyK_pure (i := 2) (oi := ⟨_, _, _, _, _, _⟩) (v := ?_) rfl (by kernel_rfl) (by kernel_rfl) (by kernel_rfl) rfl (fun _ _ _ h => h) (Or.inl ⟨by rfl, ?_⟩) hSn ?_
  rotate_left 1
  · intro W hSw
    go_simp
    try with_reducible rfl
  replace hSn := (KT.set (i := 2) (by decide)).2 hSn
  try simp only [Act.put, List.setIfInBounds_toArray, List.set_cons_zero, List.set_cons_succ]
  refine wpAnyK_pure (i := 3) (oi := ⟨_, _, _, _, _, _⟩) (v := ?_) rfl (by kernel_rfl) (by kernel_rfl) (by kernel_rfl) rfl (fun _ _ _ h => h) (Or.inl ⟨by rfl, ?_⟩) hSn ?_
  rotate_left 1
  · intro W hSw
    go_simp
    try with_reducible rfl
  replace hSn := (KT.set (i := 3) (by decide)).2 hSn
  try simp only [Act.put, List.setIfInBounds_toArray, List.set_cons_zero, List.set_cons_succ]
  refine wpAnyK_chain (i := 4) [10] (oi := ⟨_, _, _, _, _, _⟩) (v := ?_) rfl (by kernel_rfl) (by kernel_rfl) (by kernel_rfl) rfl (by kernel_rfl) (by kernel_rfl) (by kernel_rfl) (fun _ _ _ h => h) (Or.inl ⟨by rfl, ?_⟩) hSn ?_
  rotate_left 1
  · intro W hSw
    try dsimp only at hSw
    obtain ⟨hs1, hs2⟩ := hSw
    go_simp
    try with_reducible rfl
  replace hSn := (KT.set (i := 4) (by decide)).2 hSn
  try simp only [Act.put, List.setIfInBounds_toArray, List.set_cons_zero, List.set_cons_succ]
  refine wpAnyK_chain (i := 5) [10] (oi := ⟨_, _, _, _, _, _⟩) (v := .agg (hC id).toArray) rfl (by kernel_rfl) (by kernel_rfl) (by kernel_rfl) rfl (by kernel_rfl) (by kernel_rfl) (by kernel_rfl) (fun _ _ _ h => h) (yieldsIf_load_mid (by rfl) 23 (.tmp 5) rfl p0 0 rfl (hC id) _ (fun W hS => hS.2) Tryz.underlying23 rfl (hszL id)) hSn ?_
  replace hSn := (KT.set (i := 5) (by decide)).2 hSn
  try simp only [Act.put, List.setIfInBounds_toArray, List.set_cons_zero, List.set_cons_succ]
  clear hSn
  refine wpAnyK_ready (rs := [6]) (by kernel_rfl) (by simp) ?_
  refine (AllReadyK.cons rfl (fun K hK => ?_) AllReadyK.nil)
  refine step_build1 (o := ⟨some 47, _, _, _, _, _⟩) rfl 33 23 (.tmp 46) rfl (hC id) _ 32 32 Tryz.underlying33 Tryz.dinfoH (by decide) (by decide) (hC_len id) rfl ?_
  refine hK.out _ _ (fun _ => ⟨H5a.out.c.2.2.1, RI5a.out⟩) (fun hSn => ?_)
  clear hK K
  try simp only [Act.put, List.setIfInBounds_toArray, List.set_cons_zero, List.set_cons_succ]
  clear hSn
  refine wpAnyK_ready (rs := [7]) (by kernel_rfl) (by simp) ?_
  refine (AllReadyK.cons rfl (fun K hK => ?_) AllReadyK.nil)
  refine step_append_seesV (o := ⟨some 48, _, _, _, _, _⟩) rfl (.tmp 45) (.tmp 47) 33 rfl base 23 i1 _ 32 32 Tryz.underlying33 hi1 hy0 hy1 hy2 rfl (by decide) (.slice m.iA m.ids.length m.ic) m.ids.length (hsC m.ids) rfl (H5a.out.ids) _ (some ⟨w5.drew.heap.size, 0, none⟩) 1 1 (hC id) rfl (by rw [hC_len]) (SeesV.blk (heap_alloc_new w5.drew _)) (hC_one id) (by omega) (by omega) HBa.out ?_
  intro v7 w7 ho7 hg7 ha7
  obtain ⟨A7, c7, rfl⟩ := own_form ho7
  have K7 : Hid (Keeps (fun j => m.iA.map Addr.block = some j) (w5.drew.alloc (.cells (hC id).toArray 23)) w7) := Keeps.grown (Keeps.refl _ _) hg7 (fun k e => own_ob e)
  have A7n : Hid (∀ k, A7.map Addr.block = some k → m.iA.map Addr.block = some k ∨ (w5.drew.alloc (.cells (hC id).toArray 23)).heap.size ≤ k) := (by rw [own_map, own_map] at ha7; intro k e; rcases ha7 with e2 | e2; exact (.inl (e2 ▸ e)); exact (.inr (by rw [e] at e2; injection e2 with e2; rw [e2]; exact Nat.le_refl _)))
  have T3 := Lib.hid (H5a.out.setI id ho7 K7.out A7n.out)
  have RI7 : Hid (w7.rangeAt p0 0 (hC id)) := rngKp RI5a.out (K7.out.mono (S' := rfoot { m with g := g4, t := t5 }) (fun k _ e => .inr (.inr (.inr (.inr (.inr (.inl e))))))) HL5a.out (HF5.out p0 (Or.inl rfl))
  have C7 : Hid (w7.cell? ⟨m.q, 2, none⟩ = some (.slice m.iA m.ids.length m.ic)) := (K7.out.cell (p := ⟨m.q, 2, none⟩) (H5a.out.olt (.inl rfl)).2 HQi.out).trans H5a.out.c.2.2.1
  have hcu7 : Blk w7 m.q 63 _ := H5a.out.b.keeps K7.out HQi.out
  have hfz : w7.frozen? ⟨m.q, 2, none⟩ = false := hcu7.frozen 2
  have hc7 : w7.cell? ⟨m.q, 2, none⟩ = some (.slice m.iA m.ids.length m.ic) := C7.out
  clear ho7 hg7 ha7
  refine hK.out _ _ (fun _ => ⟨C7.out, RI7.out⟩) (fun hSn => ?_)
  clear hK K
  try simp only [Act.put, List.setIfInBounds_toArray, List.set_cons_zero, List.set_cons_succ]
  refine wpAnyK_pure (i := 8) (oi := ⟨_, _, _, _, _, _⟩) (v := ?_) rfl (by kernel_rfl) (by kernel_rfl) (by kernel_rfl) rfl (fun _ _ _ h => h) (Or.inl ⟨by rfl, ?_⟩) hSn ?_
  rotate_left 1
  · intro W hSw
    go_simp
    try with_reducible rfl
  replace hSn := (KT.set (i := 8) (by decide)).2 hSn
  try simp only [Act.put, List.setIfInBounds_toArray, List.set_cons_zero, List.set_cons_succ]
  refine wpAnyK_pure (i := 9) (oi := ⟨_, _, _, _, _, _⟩) (v := ?_) rfl (by kernel_rfl) (by kernel_rfl) (by kernel_rfl) rfl (fun _ _ _ h => h) (Or.inl ⟨by rfl, ?_⟩) hSn ?_
  rotate_left 1
  · intro W hSw
    go_simp
    try with_reducible rfl
  replace hSn := (KT.set (i := 9) (by decide)).2 hSn
  try simp only [Act.put, List.setIfInBounds_toArray, List.set_cons_zero, List.set_cons_succ]
  clear hSn
  refine wpAnyK_ready (rs := [10]) (by kernel_rfl) (by simp) ?_
  refine (AllReadyK.cons rfl (fun K hK => ?_) AllReadyK.nil)
  go_simp
  skip
  refine hK.out _ _ (fun h => absurd h (by decide +kernel)) (fun hSn => ?_)
  clear hK K
  try simp only [Act.put, List.setIfInBounds_toArray, List.set_cons_zero, List.set_cons_succ]
  refine wpAnyK_done (by kernel_rfl) ?_ _
  have H8 := Lib.hid T3.out.ok
  have HF7 : Hid (¬ rfoot { m with g := g4, t := t5 } p0) := HF5.out p0 (.inl rfl)
  have K3 := Lib.hid T3.out.k
  have RI8 := Lib.hid (rngKp RI5a.out K3.out HL5a.out HF7.out)
  generalize hw8 : w7.setCell ⟨m.q, 2, none⟩ (.slice A7 (m.ids.length + 1) c7) = w8 at *
  clear hw8 C7 RI7 hcu7 hfz hc7 K7 A7n
  have H8d : Hid (RxOk w8.drew base { m with g := g4, t := t5, iA := A7, ic := c7, ids := m.ids ++ [id] }) := H8.out.later (rxDr (nxRefl _))
  rw [← HKs.out]
  go_wp2
  refine wp_region_K (fun W => W.cell? ⟨m.q, 3, none⟩ = some (.map (some m.nb)) ∧ W.rangeAt p0 0 (hC id)) 6 (by kernel_rfl) ⟨H8.out.c.2.2.2.1, RI8.out⟩ (fun hSn => ?_)
  refine wpAnyK_pure (i := 0) (oi := ⟨_, _, _, _, _, _⟩) (v := ?_) rfl (by kernel_rfl) (by kernel_rfl) (by kernel_rfl) rfl (fun _ _ _ h => h) (Or.inl ⟨by rfl, ?_⟩) hSn ?_
  rotate_left 1
  · intro W hSw
    go_simp
    try with_reducible rfl
  replace hSn := (KT.set (i := 0) (by decide)).2 hSn
  try simp only [Act.put, List.setIfInBounds_toArray, List.set_cons_zero, List.set_cons_succ]
  refine wpAnyK_pure (i := 1) (oi := ⟨_, _, _, _, _, _⟩) (v := ?_) rfl (by kernel_rfl) (by kernel_rfl) (by kernel_rfl) rfl (fun _ _ _ h => h) (Or.inl ⟨by rfl, ?_⟩) hSn ?_
  rotate_left 1
  · intro W hSw
    go_simp
    try with_reducible rfl
  replace hSn := (KT.set (i := 1) (by decide)).2 hSn
  try simp only [Act.put, List.setIfInBounds_toArray, List.set_cons_zero, List.set_cons_succ]
  refine wpAnyK_pure (i := 2) (oi := ⟨_, _, _, _, _, _⟩) (v := ?_) rfl (by kernel_rfl) (by kernel_rfl) (by kernel_rfl) rfl (fun _ _ _ h => h) (Or.inl ⟨by rfl, ?_⟩) hSn ?_
  rotate_left 1
  · intro W hSw
    go_simp
    try with_reducible rfl
  replace hSn := (KT.set (i := 2) (by decide)).2 hSn
  try simp only [Act.put, List.setIfInBounds_toArray, List.set_cons_zero, List.set_cons_succ]
  refine wpAnyK_chain (i := 3) [6] (oi := ⟨_, _, _, _, _, _⟩) (v := ?_) rfl (by kernel_rfl) (by kernel_rfl) (by kernel_rfl) rfl (by kernel_rfl) (by kernel_rfl) (by kernel_rfl) (fun _ _ _ h => h) (Or.inl ⟨by rfl, ?_⟩) hSn ?_
  rotate_left 1
  · intro W hSw
    try dsimp only at hSw
    obtain ⟨hs1, hs2⟩ := hSw
    go_simp
    try with_reducible rfl
  replace hSn := (KT.set (i := 3) (by decide)).2 hSn
  try simp only [Act.put, List.setIfInBounds_toArray, List.set_cons_zero, List.set_cons_succ]
  refine wpAnyK_chain (i := 4) [6] (oi := ⟨_, _, _, _, _, _⟩) (v := .agg (hC id).toArray) rfl (by kernel_rfl) (by kernel_rfl) (by kernel_rfl) rfl (by kernel_rfl) (by kernel_rfl) (by kernel_rfl) (fun _ _ _ h => h) (yieldsIf_load_mid (by rfl) 23 (.tmp 5) rfl p0 0 rfl (hC id) _ (fun W hS => hS.2) Tryz.underlying23 rfl (hszL id)) hSn ?_
  replace hSn := (KT.set (i := 4) (by decide)).2 hSn
  try simp only [Act.put, List.setIfInBounds_toArray, List.set_cons_zero, List.set_cons_succ]
  refine wpAnyK_pure (i := 5) (oi := ⟨_, _, _, _, _, _⟩) (v := ?_) rfl (by kernel_rfl) (by kernel_rfl) (by kernel_rfl) rfl (fun _ _ _ h => h) (Or.inl ⟨by rfl, ?_⟩) hSn ?_
  rotate_left 1
  · intro W hSw
    go_simp
    try with_reducible rfl
  replace hSn := (KT.set (i := 5) (by decide)).2 hSn
  try simp only [Act.put, List.setIfInBounds_toArray, List.set_cons_zero, List.set_cons_succ]
  clear hSn
  refine wpAnyK_ready (rs := [6]) (by kernel_rfl) (by simp) ?_
  refine (AllReadyK.cons rfl (fun K hK => ?_) AllReadyK.nil)
  refine step_mapupd (o := ⟨none, _, _, _, _, _⟩) _ rfl (.tmp 54) (.tmp 55) (.tmp 56) 60 rfl 23 3 hLaw Tryz.underlying60 (plainElem Tryz.prog 3) m.nb m.ks.length (mapD m.ks) rfl H8d.out.map HKm.out (.agg (hC id).toArray) (.int .i64 (m.ks.length : Int)) (hKey id) rfl rfl (keyOf_h id) _ [] (plainElem_int Tryz.underlying3 hwf) ?_
  intro w9 hm9 hg9
  have T4 := Lib.hid (H8d.out.setN id hm9 hg9)
  clear hm9 hg9
  refine hK.out _ _ (fun h => absurd h (by decide +kernel)) (fun hSn => ?_)
  clear hK K
  try simp only [Act.put, List.setIfInBounds_toArray, List.set_cons_zero, List.set_cons_succ]
  refine wpAnyK_done (by kernel_rfl) ?_ _
  have HTl : m.ks.length = m.t.T.length := by rw [m.t.T_len]; exact HKs.out
  have hxz := addX_zero (HE.out)
  have hix : CvO G m.t.T m.C (addX G id s ps) t5.T sp := by
    have hI5 := I4.out
    rw [← hxz.1] at hI5
    refine ⟨HG.out.ix, ⟨_, hxz.2⟩, hI5.ok, HT5.out.i.ok, HT5.out.i.iv, HT5.out.ext HSp.out, ?_⟩
    rw [hxz.2, HG.out.ix.len, parG_new]
    refine List.mem_map.2 ⟨s, HZ2.out, ?_⟩
    exact HSp2.out
  have hids : m.ids ++ [id] = (addX G id s ps).map NodeG.id := by rw [hxz.2, List.map_append, HG.out.ids]; rfl
  have hI4 : GrIs g4 (addX G id s ps) := by rw [hxz.1]; exact I4.out
  have hcnb : m.cn ≤ 1000000000 := by have := HG.out.cn; have := HTm.out; omega
  have HCv := Lib.hid (rx_cover w9 base { m with g := g4, t := t5, iA := A7, ic := c7, ids := m.ids ++ [id], ks := m.ks ++ [id] } G m.t.T (addX G id s ps) sp T4.out.ok hix hI4 HT5.out.i hids (by show m.ks ++ [id] = m.ids ++ [id]; rw [HG.out.ks]) hcnb (by have := T4.out.ok.qb; have := (T4.out.ok.olt (.inl rfl)).2; omega))
  have HIds := Lib.hid hids
  have HI4 := Lib.hid hI4
  rw [← HTl] at HCv
  clear hix hids hI4 hxz hcnb HTl
  go_wp2_with (go_at_call 59; refine HCv.out.mono ?_; intro e10 w10 hc10; obtain ⟨rfl, m10, h10, hs10, hx10, hn10⟩ := hc10.to; have T5 := Lib.hid h10; have S5 := Lib.hid hs10; have X5 := Lib.hid hx10; have N5 := Lib.hid hn10; clear hc10 h10 hs10 hx10 hn10)
  go_ret
  refine ⟨rfl, m10, ?_, ?_, by have hS := S5.out; unfold addP; rw [if_pos HE.out, HSp2.out, hS.t]; exact (HT5.out.ext HSp.out).parT⟩
  · have t0 : RxTo w base m m w3.drew := RxTo.same H0.out (rxDr V3.out)
    have t1 := t0.trans T1.out
    have t2 := (t1.trans (RxTo.same T1.out.ok (rxDr (nxRefl _)))).trans T2.out
    have t3 := (t2.trans (RxTo.same T2.out.ok (nxAlloc (rxDr (nxRefl _)) _))).trans T3.out
    have t4 := (t3.trans (RxTo.same T3.out.ok (rxDr (nxRefl _)))).trans T4.out
    exact t4.trans T5.out
  · have hS := S5.out
    refine ⟨by rw [hS.g]; exact HI4.out, by rw [hS.t]; exact HT5.out.i, by rw [hS.ids]; exact HIds.out, by rw [hS.ks, hS.ids]; show m.ks ++ [id] = m.ids ++ [id]; rw [HG.out.ks], by rw [hS.t]; exact X5.out, ?_⟩
    have h1 := N5.out
    have h2 := HG.out.cn
    have h3 := HT5.out.len
    rw [hS.t]
    show _ ≤ 1000 * t5.L.length
    rw [h3]
    have h4 : m10.cn ≤ m.cn + 1000 := h1
    omega
end Go.Proofs.YtbfpckomgpkjgaaGreat
