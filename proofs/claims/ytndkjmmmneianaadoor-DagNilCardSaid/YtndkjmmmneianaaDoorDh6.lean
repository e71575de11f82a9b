/-
  dag: one looks the same in both.
-/
import Derived.Test.YtndkjmmmneianaaDoorDh5
namespace Go.Proofs.YtndkjmmmneianaaDoor
open Go.RowKit Go.Shelf

theorem bef_at {G : Gr} (o : OkG G) {id : Hh} {n k : Nat} (hp : placeG G id = some n) (hk : k < G.length) : befB G id (idG G k) = ancB G n k := by
  unfold befB ancB
  rw [hp, placeG_id o hk]
theorem bef_at2 {G : Gr} (o : OkG G) {id : Hh} {n k : Nat} (hp : placeG G id = some n) (hk : k < G.length) : befB G (idG G k) id = ancB G k n := by
  unfold befB ancB
  rw [hp, placeG_id o hk]
theorem srt_sel {G : Gr} (o : OkG G) (f g : Nat → Bool) (h : ∀ k, k < G.length → f k = g k) : srtH (((List.range G.length).filter f).map (idG G)) = risH (selL G g G.length) := by
  have e : (List.range G.length).filter f = (List.range G.length).filter g := List.filter_congr fun k hk => h k (List.mem_range.1 hk)
  unfold selL
  rw [e]
  refine srtH_nodup (nodup_map_on (fun a ha b hb e => idG_inj o (List.mem_range.1 (List.mem_filter.1 ha).1) (List.mem_range.1 (List.mem_filter.1 hb).1) e) (List.nodup_range.filter _))
theorem fut_same {G : Gr} (o : OkG G) {id : Hh} {n : Nat} (hp : placeG G id = some n) : srtH (((List.range G.length).filter (futB G (placeG G id).isSome (plE G id))).map (idG G)) = risH (selL G (fun i => befB G id (idG G i)) G.length) := by
  refine srt_sel o _ _ fun k hk => ?_
  rw [bef_at o hp hk]
  unfold futB plE
  rw [hp]
  rfl
theorem ant_same {G : Gr} (o : OkG G) {id : Hh} {n : Nat} (hp : placeG G id = some n) : srtH (((List.range G.length).filter (antB G (placeG G id).isSome (plE G id))).map (idG G)) = risH (selL G (fun i => (placeG G id).isSome && apB G id (idG G i)) G.length) := by
  refine srt_sel o _ _ fun k hk => ?_
  unfold apB antB plE
  rw [bef_at o hp hk, bef_at2 o hp hk, hp]
  have hid := (placeG_some hp).2
  have hn := (placeG_some hp).1
  have e : (k == n) = decide (id = idG G k) := by
    rw [Bool.eq_iff_iff, beq_iff_eq, decide_eq_true_eq, ← hid]
    exact ⟨fun h => by rw [h], fun h => (idG_inj o hn hk h).symm⟩
  simp only [Option.isSome_some, Bool.true_and, Option.getD_some, e]
theorem mem_psG {G : Gr} (o : OkG G) {n k : Nat} (hn : n < G.length) : idG G n ∈ psG G k ↔ n ∈ parG G k := by
  unfold psG
  rw [mem_risH, List.mem_map]
  constructor
  · rintro ⟨q, hq, e⟩
    have := idG_inj o (Nat.lt_trans (o.par k q hq) (parG_lt hq)) hn e
    rwa [← this]
  · intro h
    exact ⟨n, h, rfl⟩
theorem kid_same {m : GrM} {G : Gr} (hg : GrI0 m G) {id : Hh} {n : Nat} (hp : placeG G id = some n) : srtH ((kidP m n).map (idG G)) = risH (selL G (fun i => decide (id ∈ psG G i)) G.length) := by
  have o := hg.ok
  have hn := (placeG_some hp).1
  have hid := (placeG_some hp).2
  have hlt : ∀ p ∈ kidP m n, p < G.length := fun p h => parG_lt ((mem_kidP hg hn).1 h)
  rw [srtH_nodup (nodup_map_on (fun a ha b hb e => idG_inj o (hlt a ha) (hlt b hb) e) (kidP_nodup hg hn))]
  refine risH_eq fun x => ?_
  unfold selL
  rw [List.mem_map, List.mem_map]
  constructor
  · rintro ⟨p, h, rfl⟩
    refine ⟨p, List.mem_filter.2 ⟨List.mem_range.2 (hlt p h), decide_eq_true ?_⟩, rfl⟩
    rw [← hid, mem_psG o hn]
    exact (mem_kidP hg hn).1 h
  · rintro ⟨p, h, rfl⟩
    obtain ⟨_, h2⟩ := List.mem_filter.1 h
    have h3 := of_decide_eq_true h2
    rw [← hid, mem_psG o hn] at h3
    exact ⟨p, (mem_kidP hg hn).2 h3, rfl⟩
theorem par_same {G : Gr} (o : OkG G) (n : Nat) : srtH ((parG G n).map (idG G)) = psG G n := by
  unfold psG
  exact srtH_nodup (nodup_map_on (fun a ha b hb e => idG_inj o (Nat.lt_trans (o.par n a ha) (parG_lt ha)) (Nat.lt_trans (o.par n b hb) (parG_lt hb)) e) (o.dis n))
theorem tip_same {G : Gr} (o : OkG G) : srtH (((List.range G.length).filter (tipB G)).map (idG G)) = risH (selL G (fun i => decide ((risH (selL G (fun k => decide (idG G i ∈ psG G k)) G.length)).length = 0)) G.length) := by
  refine srt_sel o _ _ fun k hk => ?_
  rw [Bool.eq_iff_iff, decide_eq_true_eq]
  unfold tipB
  rw [@decide_eq_true_iff _ (Classical.propDecidable _)]
  constructor
  · intro h
    have : selL G (fun j => decide (idG G k ∈ psG G j)) G.length = [] := by
      unfold selL
      rw [List.map_eq_nil_iff, List.filter_eq_nil_iff]
      intro j _ hj
      exact h j ((mem_psG o hk).1 (of_decide_eq_true hj))
    rw [this]; rfl
  · intro h j hj
    have hjl := parG_lt hj
    have h1 : idG G j ∈ risH (selL G (fun j => decide (idG G k ∈ psG G j)) G.length) := by
      rw [mem_risH]
      unfold selL
      exact List.mem_map.2 ⟨j, List.mem_filter.2 ⟨List.mem_range.2 hjl, decide_eq_true ((mem_psG o hk).2 hj)⟩, rfl⟩
    rw [List.eq_nil_of_length_eq_zero h] at h1
    exact absurd h1 List.not_mem_nil
theorem past_none {G : Gr} {id : Hh} (hp : placeG G id = none) : pastG G [id] = [] := by
  refine List.eq_nil_iff_forall_not_mem.2 fun x hx => ?_
  obtain ⟨a, ha, ⟨z, hz, n, hn, _⟩, _⟩ := mem_ansG.1 hx
  rw [List.mem_singleton] at hz
  subst hz
  rw [hp] at hn
  cases hn
theorem flt_none {G : Gr} (f : Nat → Bool) (h : ∀ k, f k = false) : srtH (((List.range G.length).filter f).map (idG G)) = [] := by
  have : (List.range G.length).filter f = [] := by
    rw [List.filter_eq_nil_iff]
    intro k _ hk
    rw [h k] at hk
    cases hk
  rw [this]
  simp [srtH]
set_option maxRecDepth 100000 in
set_option maxHeartbeats 8000000 in
theorem looks_any (w : World) (base : Nat) (m : GrM) (G : Gr) (r : RGm) (h : Two w base m G r) (hmx : G.length ≤ 1000) (hT : TabAt 0 Lib.deBruijn64tab w) (id : Hh) :
    Calls Tryd.prog 12 #[.pointer (some ⟨m.q, 0, none⟩), .pointer (some ⟨r.q, 0, none⟩), .agg (hC id).toArray] w fun e w' => e = .returned (.bool true) ∧ Below w.heap.size w w' := by
  have h0w : 0 < w.heap.size := World.block_lt_of_cell? _ _ (hT 0 (by decide))
  obtain ⟨wb, hwb⟩ : ∃ x, w.alloc (.cells (hC id).toArray 23) = x := ⟨_, rfl⟩
  have V0 : Hid (Below w.heap.size w wb) := by rw [← hwb]; exact nxAlloc (nxRefl w) _
  have HWb := Lib.hid hwb
  have BI : Hid (Blk wb w.heap.size 23 (hC id).toArray) := by rw [← hwb]; exact heap_alloc_new w _
  obtain ⟨p5, hp5⟩ : ∃ x, w.heap.size = x := ⟨_, rfl⟩
  have HP5 := Lib.hid hp5
  rw [hp5] at BI
  have LI : Hid (p5 < wb.heap.size) := BI.out.lt
  have HRI : Hid (∀ W, Below wb.heap.size wb W → W.rangeAt p5 0 (hC id)) := fun W hW => rngK (kb_range BI.out) hW LI.out
  have HTw : Hid (∀ W, Below wb.heap.size wb W → Two W base m G r) := fun W hW => h.later (nxTo V0.out hW)
  have HTb : Hid (∀ W, Below wb.heap.size wb W → TabAt 0 Lib.deBruijn64tab W) := fun W hW => tab_below hT (nxTo V0.out hW) h0w
  have HRg : Hid (∀ W, Below wb.heap.size wb W → RGd W base r G) := fun W hW => ⟨(HTw.out W hW).d, h.rel, h.i.ok, hmx⟩
  have HIs : Hid (GrIs m G) := h.i
  have K0 : Hid (Below wb.heap.size wb wb) := nxRefl wb
  clear h hT h0w hwb hp5
  cases hp : placeG G id with
  | none =>
    have HPn : Hid (pastG G [id] = []) := past_none hp
    have HFn : Hid (srtH (((List.range G.length).filter (futB G (placeG G id).isSome (plE G id))).map (idG G)) = []) := flt_none _ fun k => by rw [hp]; rfl
    have HAn : Hid (srtH (((List.range G.length).filter (antB G (placeG G id).isSome (plE G id))).map (idG G)) = []) := flt_none _ fun k => by rw [hp]; rfl
    have HAt : Hid (∀ W, Below wb.heap.size wb W → Calls Tryd.prog 33 #[.pointer (some ⟨r.q, 0, none⟩), .agg (hC id).toArray] W fun e w' => e = .returned (.int .i64 (-1)) ∧ Below W.heap.size W w') := fun W hW => by
      have := rat2_any W base r G (HRg.out W hW) id
      rw [hp] at this
      exact this
    have HHs : Hid (∀ W, Below wb.heap.size wb W → Calls Tryd.prog 28 #[.pointer (some ⟨m.q, 0, none⟩), .agg (hC id).toArray] W fun e w' => e = .returned (.bool false) ∧ Below W.heap.size W w') := fun W hW => by
      have := has2_any W base m G (HTw.out W hW).g HIs.out id
      rw [hp] at this
      exact this
    have HPl := Lib.hid hp
    clear hp
    go_enter Tryd.func12, Tryd.ntmps12
    go_wp2_with (first
      | ((with_reducible show wpList _ _ _ (⟨some 14, _, _, _, _, _⟩ :: _) _ _); rw [HWb.out, HP5.out]; refine wpList_load_mid rfl 23 (.tmp 5) rfl p5 0 rfl (hC id) _ (HRI.out _ K0.out) Tryd.underlying23 rfl (hszL id) ?_)
      | (go_at_call 26; refine (parents_any_no wb base m G (HTw.out _ K0.out).g HIs.out id HPl.out).mono ?_; rintro e w1 ⟨rfl, hb⟩; have K1 : Hid (Below wb.heap.size wb w1) := Lib.hid hb; clear hb)
      | ((with_reducible show wpList _ _ _ (⟨some 20, _, _, _, _, _⟩ :: _) _ _); refine wpList_load_mid rfl 23 (.tmp 5) rfl p5 0 rfl (hC id) _ (HRI.out _ K1.out) Tryd.underlying23 rfl (hszL id) ?_)
      | (go_at_call 27; refine (children_any_no w1 base m G (HTw.out _ K1.out).g HIs.out id HPl.out).mono ?_; rintro e w2 ⟨rfl, hb⟩; have K2 : Hid (Below wb.heap.size wb w2) := nxTo K1.out hb; clear hb)
      | ((with_reducible show wpList _ _ _ (⟨some 25, _, _, _, _, _⟩ :: _) _ _); refine wpList_load_mid rfl 23 (.tmp 5) rfl p5 0 rfl (hC id) _ (HRI.out _ K2.out) Tryd.underlying23 rfl (hszL id) ?_)
      | (go_at_call 33; refine (HAt.out w2 K2.out).mono ?_; rintro e w3 ⟨rfl, hb⟩; have K3 : Hid (Below wb.heap.size wb w3) := nxTo K2.out hb; clear hb)
      | ((with_reducible show wpList _ _ _ (⟨some 28, _, _, _, _, _⟩ :: _) _ _); refine wpList_load_mid rfl 23 (.tmp 5) rfl p5 0 rfl (hC id) _ (HRI.out _ K3.out) Tryd.underlying23 rfl (hszL id) ?_)
      | (go_at_call 28; refine (HHs.out w3 K3.out).mono ?_; rintro e w4 ⟨rfl, hb⟩; have K4 : Hid (Below wb.heap.size wb w4) := nxTo K3.out hb; clear hb)
      | ((with_reducible show wpList _ _ _ (⟨some 85, _, _, _, _, _⟩ :: _) _ _); refine wpList_load_mid rfl 23 (.tmp 5) rfl p5 0 rfl (hC id) _ (HRI.out _ K4.out) Tryd.underlying23 rfl (hszL id) ?_)
      | ((with_reducible show wpList _ _ _ (⟨some 86, _, _, _, _, _⟩ :: _) _ _); refine wpList_build1 rfl 34 23 (.tmp 85) rfl (hC id) _ 32 32 Tryd.underlying34 Tryd.dinfoH (by decide) (by decide) (hC_len id) rfl ?_; have K5 : Hid (Below wb.heap.size wb (w4.alloc (.cells (hC id).toArray 23))) := nxTo K4.out (nxAlloc (nxRefl _) _); have B5 : Hid (Blk (w4.alloc (.cells (hC id).toArray 23)) w4.heap.size 23 (hC id).toArray) := heap_alloc_new w4 _)
      | (go_at_call 17; refine (past_any _ base m G (HTw.out _ K5.out).g HIs.out (some ⟨w4.heap.size, 0, none⟩) [id] 1 (by rw [hsC_1]; exact SeesV.blk B5.out) (by simp) (HTb.out _ K5.out)).mono ?_; unfold ListPost; rw [HPn.out]; rintro e w6 ⟨A6, c6, rfl, ho6, hb6⟩; have K6 : Hid (Below wb.heap.size wb w6) := nxTo K5.out hb6; clear ho6 hb6)
      | ((with_reducible show wpList _ _ _ (⟨some 92, _, _, _, _, _⟩ :: _) _ _); refine wpList_unguard (by rfl) ?_; refine wpList_load_mid rfl 23 (.tmp 5) rfl p5 0 rfl (hC id) _ (HRI.out _ K6.out) Tryd.underlying23 rfl (hszL id) ?_)
      | (go_at_call 18; refine (fut_any _ base m G (HTw.out _ K6.out).g HIs.out id).mono ?_; unfold ListPost; rw [HFn.out]; rintro e w7 ⟨A7, c7, rfl, ho7, hb7⟩; have K7 : Hid (Below wb.heap.size wb w7) := nxTo K6.out hb7; clear ho7 hb7)
      | ((with_reducible show wpList _ _ _ (⟨some 99, _, _, _, _, _⟩ :: _) _ _); refine wpList_unguard (by rfl) ?_; refine wpList_load_mid rfl 23 (.tmp 5) rfl p5 0 rfl (hC id) _ (HRI.out _ K7.out) Tryd.underlying23 rfl (hszL id) ?_)
      | (go_at_call 19; refine (anti_any _ base m G (HTw.out _ K7.out).g HIs.out id).mono ?_; unfold ListPost; rw [HAn.out]; rintro e w8 ⟨A8, c8, rfl, ho8, hb8⟩; have K8 : Hid (Below wb.heap.size wb w8) := nxTo K7.out hb8; clear ho8 hb8))
    go_ret
    exact ⟨rfl, nxTo V0.out K8.out⟩
  | some n =>
    have HPl := Lib.hid hp
    have o := HIs.out.ok
    have hn := (placeG_some hp).1
    have HFd0 := fut_same o hp
    have HAd0 := ant_same o hp
    have hks := kid_same HIs.out.toGrI0 hp
    have hps := par_same o n
    obtain ⟨P, hP⟩ : ∃ P, pastG G [id] = P := ⟨_, rfl⟩
    obtain ⟨F, hF⟩ : ∃ P, risH (selL G (fun i => befB G id (idG G i)) G.length) = P := ⟨_, rfl⟩
    obtain ⟨An, hAn⟩ : ∃ P, risH (selL G (fun i => (placeG G id).isSome && apB G id (idG G i)) G.length) = P := ⟨_, rfl⟩
    obtain ⟨Kd, hKd⟩ : ∃ P, risH (selL G (fun i => decide (id ∈ psG G i)) G.length) = P := ⟨_, rfl⟩
    obtain ⟨Pa, hPa⟩ : ∃ P, psG G n = P := ⟨_, rfl⟩
    rw [hF] at HFd0
    rw [hAn] at HAd0
    rw [hKd] at hks
    rw [hPa] at hps
    have HPe := Lib.hid hP
    have HFe := Lib.hid HFd0
    have HFd := Lib.hid hF
    have HAe := Lib.hid HAd0
    have HAd := Lib.hid hAn
    have HKe := Lib.hid hks
    have HKd := Lib.hid hKd
    have HPa := Lib.hid hPa
    have HPs := Lib.hid hps
    have HPl9 : Hid (P.length ≤ 1000) := by show _ ≤ _; rw [← hP]; exact Nat.le_trans (past_le _ _) hmx
    have HFl : Hid (F.length ≤ 1000) := by show _ ≤ _; rw [← hF]; exact Nat.le_trans (risH_le _) (Nat.le_trans (selL_le _ _ _) hmx)
    have HAnl : Hid (An.length ≤ 1000) := by show _ ≤ _; rw [← hAn]; exact Nat.le_trans (risH_le _) (Nat.le_trans (selL_le _ _ _) hmx)
    have HKdl : Hid (Kd.length ≤ 1000) := by show _ ≤ _; rw [← hKd]; exact Nat.le_trans (risH_le _) (Nat.le_trans (selL_le _ _ _) hmx)
    have HPal : Hid (Pa.length ≤ 1000) := by show _ ≤ _; rw [← hPa]; exact Nat.le_trans (psG_len o n) hmx
    have HNe : Hid (0 < G.length) := by show _ < _; omega
    have HAt : Hid (∀ W, Below wb.heap.size wb W → Calls Tryd.prog 33 #[.pointer (some ⟨r.q, 0, none⟩), .agg (hC id).toArray] W fun e w' => e = .returned (.int .i64 (n : Int)) ∧ Below W.heap.size W w') := fun W hW => by
      have := rat2_any W base r G (HRg.out W hW) id
      rw [hp] at this
      exact this
    have HHs : Hid (∀ W, Below wb.heap.size wb W → Calls Tryd.prog 28 #[.pointer (some ⟨m.q, 0, none⟩), .agg (hC id).toArray] W fun e w' => e = .returned (.bool true) ∧ Below W.heap.size W w') := fun W hW => by
      have := has2_any W base m G (HTw.out W hW).g HIs.out id
      rw [hp] at this
      exact this
    have HNd : Hid (∀ W, Below wb.heap.size wb W → ∃ b f A c, W.cell? ⟨r.q, 0, none⟩ = some (.slice (some ⟨b, f, none⟩) G.length r.c) ∧ W.cell? ⟨b, f + n * 33 + 32, none⟩ = some (.slice A Pa.length c) ∧ SeesV W W.heap.size A (hsC Pa)) := fun W hW => by
      obtain ⟨b, f, A, c, h1, _, _, h4, h5⟩ := (HRg.out W hW).node hn
      rw [hPa] at h4 h5
      exact ⟨b, f, A, c, h1, h4, h5⟩
    have hn0 : (0 : Int) ≤ (n : Int) := by omega
    have hn1 : ¬ (n : Int) < 0 := by omega
    have hnn : (n : Int) < (G.length : Int) := by omega
    clear hp o hn HFd0 HAd0 hks hps hP hF hAn hKd hPa
    go_enter Tryd.func12, Tryd.ntmps12
    go_wp2_with (first
      | ((with_reducible show wpList _ _ _ (⟨some 14, _, _, _, _, _⟩ :: _) _ _); rw [HWb.out, HP5.out]; refine wpList_load_mid rfl 23 (.tmp 5) rfl p5 0 rfl (hC id) _ (HRI.out _ K0.out) Tryd.underlying23 rfl (hszL id) ?_)
      | (go_at_call 26; refine (parents_any wb base m G (HTw.out _ K0.out).g HIs.out id n HPl.out).mono ?_; rw [HPs.out]; rintro e w1 ⟨A1, c1, rfl, hs, hb⟩; have S1 := Lib.hid hs; have K1 : Hid (Below wb.heap.size wb w1) := Lib.hid hb; clear hs hb)
      | ((with_reducible show wpList _ _ _ (⟨some 20, _, _, _, _, _⟩ :: _) _ _); refine wpList_load_mid rfl 23 (.tmp 5) rfl p5 0 rfl (hC id) _ (HRI.out _ K1.out) Tryd.underlying23 rfl (hszL id) ?_)
      | (go_at_call 27; refine (children_any w1 base m G (HTw.out _ K1.out).g HIs.out id n HPl.out).mono ?_; rw [HKe.out]; rintro e w2 ⟨A2, c2, rfl, hs, hb⟩; have S2 := Lib.hid hs; have T1 : Hid (SeesV w2 w2.heap.size A1 (hsC Pa)) := (S1.out.below hb).more hb.size; have K2 : Hid (Below wb.heap.size wb w2) := nxTo K1.out hb; clear hs hb)
      | ((with_reducible show wpList _ _ _ (⟨some 25, _, _, _, _, _⟩ :: _) _ _); refine wpList_load_mid rfl 23 (.tmp 5) rfl p5 0 rfl (hC id) _ (HRI.out _ K2.out) Tryd.underlying23 rfl (hszL id) ?_)
      | (go_at_call 33; refine (HAt.out w2 K2.out).mono ?_; rintro e w3 ⟨rfl, hb⟩; have K3 : Hid (Below wb.heap.size wb w3) := nxTo K2.out hb; have J3 := Lib.hid hb; clear hb)
      | ((with_reducible show wpList _ _ _ (⟨some 28, _, _, _, _, _⟩ :: _) _ _); refine wpList_load_mid rfl 23 (.tmp 5) rfl p5 0 rfl (hC id) _ (HRI.out _ K3.out) Tryd.underlying23 rfl (hszL id) ?_)
      | (go_at_call 28; refine (HHs.out w3 K3.out).mono ?_; rintro e w4 ⟨rfl, hb⟩; have K4 : Hid (Below wb.heap.size wb w4) := nxTo K3.out hb; have J4 : Hid (Below w2.heap.size w2 w4) := nxTo J3.out hb; have U1 : Hid (SeesV w4 w4.heap.size A1 (hsC Pa)) := (T1.out.below J4.out).more J4.out.size; have U2 : Hid (SeesV w4 w4.heap.size A2 (hsC Kd)) := (S2.out.below J4.out).more J4.out.size; (obtain ⟨b9, f9, A9, c9, hcq9, hc9, hs9⟩ := HNd.out w4 K4.out); have S9 := Lib.hid hs9; clear hb hs9)
      | (go_at_call 16; (with_reducible show Calls _ _ #[.slice A1 Pa.length c1, _] _ _); refine (requal_any w4 A1 A9 Pa Pa c1 c9 U1.out S9.out (by have := HPal.out; omega)).mono ?_; rw [show decide (Pa = Pa) = true from decide_eq_true rfl]; rintro e w5 ⟨rfl, hb⟩; have K5 : Hid (Below wb.heap.size wb w5) := nxTo K4.out hb; have J5 := Lib.hid hb; clear hb)
      | ((with_reducible show wpList _ _ _ (⟨some 76, _, _, _, _, _⟩ :: _) _ _); refine wpList_unguard (by rfl) ?_; refine wpList_load_mid rfl 23 (.tmp 5) rfl p5 0 rfl (hC id) _ (HRI.out _ K5.out) Tryd.underlying23 rfl (hszL id) ?_)
      | (go_at_call 34; refine (rkids_any w5 base r G (HRg.out _ K5.out) id).mono ?_; unfold ListPost; rw [HKd.out]; rintro e w6 ⟨A6, c6, rfl, ho6, hb⟩; have S6 : Hid (SeesV w6 w6.heap.size A6 (hsC Kd)) := SeesV.own ho6; have K6 : Hid (Below wb.heap.size wb w6) := nxTo K5.out hb; have J6 : Hid (Below w4.heap.size w4 w6) := nxTo J5.out hb; have X2 : Hid (SeesV w6 w6.heap.size A2 (hsC Kd)) := (U2.out.below J6.out).more J6.out.size; clear hb ho6)
      | (go_at_call 16; (with_reducible show Calls _ _ #[.slice A2 Kd.length c2, _] _ _); refine (requal_any w6 A2 A6 Kd Kd c2 c6 X2.out S6.out (by have := HKdl.out; omega)).mono ?_; rw [show decide (Kd = Kd) = true from decide_eq_true rfl]; rintro e w7 ⟨rfl, hb⟩; have K7 : Hid (Below wb.heap.size wb w7) := nxTo K6.out hb; clear hb))
    have VD : Hid (Below wb.heap.size wb w7.drew) := nxDrT K7.out
    have HRd : Hid (∀ W, Below w7.drew.heap.size w7.drew W → W.rangeAt p5 0 (hC id)) := fun W hW => HRI.out W (nxTo VD.out hW)
    replace HTw : Hid (∀ W, Below w7.drew.heap.size w7.drew W → Two W base m G r) := fun W hW => HTw.out W (nxTo VD.out hW)
    replace HTb : Hid (∀ W, Below w7.drew.heap.size w7.drew W → TabAt 0 Lib.deBruijn64tab W) := fun W hW => HTb.out W (nxTo VD.out hW)
    replace HRg : Hid (∀ W, Below w7.drew.heap.size w7.drew W → RGd W base r G) := fun W hW => HRg.out W (nxTo VD.out hW)
    have KK : Hid (Below w7.drew.heap.size w7.drew w7.drew) := nxRefl _
    have HPl := HPl9
    refine wp_region_held_drew (S := fun W => W.rangeAt p5 0 (hC id)) (by kernel_rfl) (HRd.out _ KK.out) (fun hHeld => ?_)
    generalize w7.drew = wd at *
    refine wpAnyH_take (i := 0) (oi := ⟨_, _, _, _, _, _⟩) (v := ?_) rfl (by kernel_rfl) (by kernel_rfl) (by kernel_rfl) (fun _ _ _ h => h) (Or.inl ⟨by rfl, ?_⟩) (by assumption) ?_
    rotate_left 1
    · intro W hSw
      try dsimp only at hSw
      have hs1 := hSw
      go_simp
      try with_reducible rfl
    try simp only [Act.put, List.setIfInBounds_toArray, List.set_cons_zero, List.set_cons_succ]
    refine wpAnyH_take (i := 1) (oi := ⟨_, _, _, _, _, _⟩) (v := .agg (hC id).toArray) rfl (by kernel_rfl) (by kernel_rfl) (by kernel_rfl) (fun _ _ _ h => h) (yieldsIf_load_mid (by rfl) 23 (.tmp 5) rfl p5 0 rfl (hC id) _ (fun W hS => hS) Tryd.underlying23 rfl (hszL id)) (by assumption) ?_
    try simp only [Act.put, List.setIfInBounds_toArray, List.set_cons_zero, List.set_cons_succ]
    refine wpAnyH_take (i := 4) (oi := ⟨_, _, _, _, _, _⟩) (v := ?_) rfl (by kernel_rfl) (by kernel_rfl) (by kernel_rfl) (fun _ _ _ h => h) (Or.inl ⟨by rfl, ?_⟩) (by assumption) ?_
    rotate_left 1
    · intro W hSw
      try dsimp only at hSw
      have hs1 := hSw
      go_simp
      try with_reducible rfl
    try simp only [Act.put, List.setIfInBounds_toArray, List.set_cons_zero, List.set_cons_succ]
    refine wpAnyH_take (i := 5) (oi := ⟨_, _, _, _, _, _⟩) (v := .agg (hC id).toArray) rfl (by kernel_rfl) (by kernel_rfl) (by kernel_rfl) (fun _ _ _ h => h) (yieldsIf_load_mid (by rfl) 23 (.tmp 5) rfl p5 0 rfl (hC id) _ (fun W hS => hS) Tryd.underlying23 rfl (hszL id)) (by assumption) ?_
    try simp only [Act.put, List.setIfInBounds_toArray, List.set_cons_zero, List.set_cons_succ]
    refine wpAnyH_ready (rs := [2, 6]) (by kernel_rfl) (by simp) ?_
    refine (AllReadyH.cons rfl (fun K hK => ?_) (AllReadyH.cons rfl (fun K hK => ?_) AllReadyH.nil))
    · skip
      refine step_build1 (o := ⟨some 106, _, _, _, _, _⟩) rfl 34 23 (.tmp 105) rfl (hC id) _ 32 32 Tryd.underlying34 Tryd.dinfoH (by decide) (by decide) (hC_len id) rfl ?_
      obtain ⟨wP, hwx⟩ : ∃ x, wd.alloc (.cells (hC id).toArray 23) = x := ⟨_, rfl⟩
      have J : Hid (Below wd.heap.size wd wP) := (by rw [← hwx]; exact nxAlloc (nxRefl _) _)
      have BP : Hid (Blk wP wd.heap.size 23 (hC id).toArray) := (by rw [← hwx]; exact heap_alloc_new _ _)
      rw [hwx]
      obtain ⟨pP, hpx⟩ : ∃ x, wd.heap.size = x := ⟨_, rfl⟩
      rw [hpx] at BP ⊢
      replace KK := Lib.hid (nxTo KK.out J.out)
      clear hwx hpx J
      refine hK.out _ _ (HRd.out _ KK.out) (fun hSn => ?_)
      clear hK K
      try simp only [Act.put, List.setIfInBounds_toArray, List.set_cons_zero, List.set_cons_succ]
      refine wpAnyH_ready (rs := [3, 6]) (by kernel_rfl) (by simp) ?_
      refine (AllReadyH.cons rfl (fun K hK => ?_) (AllReadyH.cons rfl (fun K hK => ?_) AllReadyH.nil))
      · skip
        go_simp
        go_at_call 17
        refine (past_any _ base m G (HTw.out _ KK.out).g (HTw.out _ KK.out).i (some ⟨pP, 0, none⟩) [id] 1 (by rw [hsC_1]; exact SeesV.blk BP.out) (by simp) (HTb.out _ KK.out)).mono ?_
        unfold ListPost
        rw [HPe.out]
        rintro e w3 ⟨A3, c3, rfl, ho3, hb3⟩
        have J := Lib.hid hb3
        have S3 : Hid (SeesV w3 w3.heap.size A3 (hsC P)) := SeesV.own ho3
        replace BP := Lib.hid (BP.out.below J.out BP.out.lt)
        replace KK := Lib.hid (nxTo KK.out J.out)
        clear ho3 hb3 J
        refine hK.out _ _ (HRd.out _ KK.out) (fun hSn => ?_)
        clear hK K
        try simp only [Act.put, List.setIfInBounds_toArray, List.set_cons_zero, List.set_cons_succ]
        refine wpAnyH_ready (rs := [6]) (by kernel_rfl) (by simp) ?_
        refine (AllReadyH.cons rfl (fun K hK => ?_) AllReadyH.nil)
        refine step_build1 (o := ⟨some 110, _, _, _, _, _⟩) rfl 34 23 (.tmp 109) rfl (hC id) _ 32 32 Tryd.underlying34 Tryd.dinfoH (by decide) (by decide) (hC_len id) rfl ?_
        obtain ⟨wQ, hwx⟩ : ∃ x, w3.alloc (.cells (hC id).toArray 23) = x := ⟨_, rfl⟩
        have J : Hid (Below w3.heap.size w3 wQ) := (by rw [← hwx]; exact nxAlloc (nxRefl _) _)
        have BQ : Hid (Blk wQ w3.heap.size 23 (hC id).toArray) := (by rw [← hwx]; exact heap_alloc_new _ _)
        rw [hwx]
        obtain ⟨pQ, hpx⟩ : ∃ x, w3.heap.size = x := ⟨_, rfl⟩
        rw [hpx] at BQ ⊢
        replace BP := Lib.hid (BP.out.below J.out BP.out.lt)
        replace S3 := Lib.hid ((S3.out.below J.out).more J.out.size)
        replace KK := Lib.hid (nxTo KK.out J.out)
        clear hwx hpx J
        refine hK.out _ _ (HRd.out _ KK.out) (fun hSn => ?_)
        clear hK K
        try simp only [Act.put, List.setIfInBounds_toArray, List.set_cons_zero, List.set_cons_succ]
        refine wpAnyH_ready (rs := [7]) (by kernel_rfl) (by simp) ?_
        refine (AllReadyH.cons rfl (fun K hK => ?_) AllReadyH.nil)
        go_simp
        go_at_call 13
        refine (rpast_any _ base r G (HRg.out _ KK.out).d (HRg.out _ KK.out).rel (HRg.out _ KK.out).ok (some ⟨pQ, 0, none⟩) [id] 1 (by rw [hsC_1]; exact SeesV.blk BQ.out) (by simp) (HRg.out _ KK.out).mx).mono ?_
        unfold ListPost
        rw [HPe.out]
        rintro e w7 ⟨A7, c7, rfl, ho, hb⟩
        have J := Lib.hid hb
        have S7 : Hid (SeesV w7 w7.heap.size A7 (hsC P)) := SeesV.own ho
        replace S3 := Lib.hid ((S3.out.below J.out).more J.out.size)
        replace KK := Lib.hid (nxTo KK.out J.out)
        clear ho hb J
        refine hK.out _ _ (HRd.out _ KK.out) (fun hSn => ?_)
        clear hK K
        try simp only [Act.put, List.setIfInBounds_toArray, List.set_cons_zero, List.set_cons_succ]
        refine wpAnyH_ready (rs := [8]) (by kernel_rfl) (by simp) ?_
        refine (AllReadyH.cons rfl (fun K hK => ?_) AllReadyH.nil)
        go_simp
        go_at_call 16
        refine (requal_any _ A3 A7 P P c3 c7 S3.out S7.out (by have := HPl.out; omega)).mono ?_
        rw [show decide (P = P) = true from decide_eq_true rfl]
        rintro e w8 ⟨rfl, hb⟩
        replace KK := Lib.hid (nxTo KK.out hb)
        clear hb
        refine hK.out _ _ (HRd.out _ KK.out) (fun hSn => ?_)
        clear hK K
        try simp only [Act.put, List.setIfInBounds_toArray, List.set_cons_zero, List.set_cons_succ]
        refine wpAnyH_take (i := 9) (oi := ⟨_, _, _, _, _, _⟩) (v := ?_) rfl (by kernel_rfl) (by kernel_rfl) (by kernel_rfl) (fun _ _ _ h => h) (Or.inl ⟨by rfl, ?_⟩) (by assumption) ?_
        rotate_left 1
        · intro W hSw
          try dsimp only at hSw
          have hs1 := hSw
          go_simp
          try with_reducible rfl
        try simp only [Act.put, List.setIfInBounds_toArray, List.set_cons_zero, List.set_cons_succ]
        refine wpAnyH_take (i := 10) (oi := ⟨_, _, _, _, _, _⟩) (v := ?_) rfl (by kernel_rfl) (by kernel_rfl) (by kernel_rfl) (fun _ _ _ h => h) (Or.inl ⟨by rfl, ?_⟩) (by assumption) ?_
        rotate_left 1
        · intro W hSw
          try dsimp only at hSw
          have hs1 := hSw
          go_simp
          try with_reducible rfl
        try simp only [Act.put, List.setIfInBounds_toArray, List.set_cons_zero, List.set_cons_succ]
        refine wpAnyH_take (i := 11) (oi := ⟨_, _, _, _, _, _⟩) (v := .agg (hC id).toArray) rfl (by kernel_rfl) (by kernel_rfl) (by kernel_rfl) (fun _ _ _ h => h) (yieldsIf_load_mid (by rfl) 23 (.tmp 5) rfl p5 0 rfl (hC id) _ (fun W hS => hS) Tryd.underlying23 rfl (hszL id)) (by assumption) ?_
        try simp only [Act.put, List.setIfInBounds_toArray, List.set_cons_zero, List.set_cons_succ]
        refine wpAnyH_take (i := 13) (oi := ⟨_, _, _, _, _, _⟩) (v := ?_) rfl (by kernel_rfl) (by kernel_rfl) (by kernel_rfl) (fun _ _ _ h => h) (Or.inl ⟨by rfl, ?_⟩) (by assumption) ?_
        rotate_left 1
        · intro W hSw
          try dsimp only at hSw
          have hs1 := hSw
          go_simp
          try with_reducible rfl
        try simp only [Act.put, List.setIfInBounds_toArray, List.set_cons_zero, List.set_cons_succ]
        refine wpAnyH_take (i := 14) (oi := ⟨_, _, _, _, _, _⟩) (v := .agg (hC id).toArray) rfl (by kernel_rfl) (by kernel_rfl) (by kernel_rfl) (fun _ _ _ h => h) (yieldsIf_load_mid (by rfl) 23 (.tmp 5) rfl p5 0 rfl (hC id) _ (fun W hS => hS) Tryd.underlying23 rfl (hszL id)) (by assumption) ?_
        try simp only [Act.put, List.setIfInBounds_toArray, List.set_cons_zero, List.set_cons_succ]
        refine wpAnyH_ready (rs := [12]) (by kernel_rfl) (by simp) ?_
        refine (AllReadyH.cons rfl (fun K hK => ?_) AllReadyH.nil)
        go_simp
        go_at_call 18
        refine (fut_any _ base m G (HTw.out _ KK.out).g (HTw.out _ KK.out).i id).mono ?_
        unfold ListPost
        rw [HFe.out]
        rintro e w12 ⟨A12, c12, rfl, ho, hb⟩
        have J := Lib.hid hb
        have S12 : Hid (SeesV w12 w12.heap.size A12 (hsC F)) := SeesV.own ho
        replace KK := Lib.hid (nxTo KK.out J.out)
        clear ho hb J
        refine hK.out _ _ (HRd.out _ KK.out) (fun hSn => ?_)
        clear hK K
        try simp only [Act.put, List.setIfInBounds_toArray, List.set_cons_zero, List.set_cons_succ]
        refine wpAnyH_ready (rs := [15]) (by kernel_rfl) (by simp) ?_
        refine (AllReadyH.cons rfl (fun K hK => ?_) AllReadyH.nil)
        go_simp
        go_at_call 35
        refine (rfut_any _ base r G (HRg.out _ KK.out) id).mono ?_
        unfold ListPost
        rw [HFd.out]
        rintro e w15 ⟨A15, c15, rfl, ho, hb⟩
        have J := Lib.hid hb
        have S15 : Hid (SeesV w15 w15.heap.size A15 (hsC F)) := SeesV.own ho
        replace S12 := Lib.hid ((S12.out.below J.out).more J.out.size)
        replace KK := Lib.hid (nxTo KK.out J.out)
        clear ho hb J
        refine hK.out _ _ (HRd.out _ KK.out) (fun hSn => ?_)
        clear hK K
        try simp only [Act.put, List.setIfInBounds_toArray, List.set_cons_zero, List.set_cons_succ]
        refine wpAnyH_ready (rs := [16]) (by kernel_rfl) (by simp) ?_
        refine (AllReadyH.cons rfl (fun K hK => ?_) AllReadyH.nil)
        go_simp
        go_at_call 16
        refine (requal_any _ A12 A15 F F c12 c15 S12.out S15.out (by have := HFl.out; omega)).mono ?_
        rw [show decide (F = F) = true from decide_eq_true rfl]
        rintro e w16 ⟨rfl, hb⟩
        replace KK := Lib.hid (nxTo KK.out hb)
        clear hb
        refine hK.out _ _ (HRd.out _ KK.out) (fun hSn => ?_)
        clear hK K
        try simp only [Act.put, List.setIfInBounds_toArray, List.set_cons_zero, List.set_cons_succ]
        refine wpAnyH_take (i := 17) (oi := ⟨_, _, _, _, _, _⟩) (v := ?_) rfl (by kernel_rfl) (by kernel_rfl) (by kernel_rfl) (fun _ _ _ h => h) (Or.inl ⟨by rfl, ?_⟩) (by assumption) ?_
        rotate_left 1
        · intro W hSw
          try dsimp only at hSw
          have hs1 := hSw
          go_simp
          try with_reducible rfl
        try simp only [Act.put, List.setIfInBounds_toArray, List.set_cons_zero, List.set_cons_succ]
        refine wpAnyH_take (i := 18) (oi := ⟨_, _, _, _, _, _⟩) (v := ?_) rfl (by kernel_rfl) (by kernel_rfl) (by kernel_rfl) (fun _ _ _ h => h) (Or.inl ⟨by rfl, ?_⟩) (by assumption) ?_
        rotate_left 1
        · intro W hSw
          try dsimp only at hSw
          have hs1 := hSw
          go_simp
          try with_reducible rfl
        try simp only [Act.put, List.setIfInBounds_toArray, List.set_cons_zero, List.set_cons_succ]
        refine wpAnyH_take (i := 19) (oi := ⟨_, _, _, _, _, _⟩) (v := ?_) rfl (by kernel_rfl) (by kernel_rfl) (by kernel_rfl) (fun _ _ _ h => h) (Or.inl ⟨by rfl, ?_⟩) (by assumption) ?_
        rotate_left 1
        · intro W hSw
          try dsimp only at hSw
          have hs1 := hSw
          go_simp
          try with_reducible rfl
        try simp only [Act.put, List.setIfInBounds_toArray, List.set_cons_zero, List.set_cons_succ]
        refine wpAnyH_take (i := 20) (oi := ⟨_, _, _, _, _, _⟩) (v := .agg (hC id).toArray) rfl (by kernel_rfl) (by kernel_rfl) (by kernel_rfl) (fun _ _ _ h => h) (yieldsIf_load_mid (by rfl) 23 (.tmp 5) rfl p5 0 rfl (hC id) _ (fun W hS => hS) Tryd.underlying23 rfl (hszL id)) (by assumption) ?_
        try simp only [Act.put, List.setIfInBounds_toArray, List.set_cons_zero, List.set_cons_succ]
        refine wpAnyH_take (i := 22) (oi := ⟨_, _, _, _, _, _⟩) (v := ?_) rfl (by kernel_rfl) (by kernel_rfl) (by kernel_rfl) (fun _ _ _ h => h) (Or.inl ⟨by rfl, ?_⟩) (by assumption) ?_
        rotate_left 1
        · intro W hSw
          try dsimp only at hSw
          have hs1 := hSw
          go_simp
          try with_reducible rfl
        try simp only [Act.put, List.setIfInBounds_toArray, List.set_cons_zero, List.set_cons_succ]
        refine wpAnyH_take (i := 23) (oi := ⟨_, _, _, _, _, _⟩) (v := .agg (hC id).toArray) rfl (by kernel_rfl) (by kernel_rfl) (by kernel_rfl) (fun _ _ _ h => h) (yieldsIf_load_mid (by rfl) 23 (.tmp 5) rfl p5 0 rfl (hC id) _ (fun W hS => hS) Tryd.underlying23 rfl (hszL id)) (by assumption) ?_
        try simp only [Act.put, List.setIfInBounds_toArray, List.set_cons_zero, List.set_cons_succ]
        refine wpAnyH_ready (rs := [21]) (by kernel_rfl) (by simp) ?_
        refine (AllReadyH.cons rfl (fun K hK => ?_) AllReadyH.nil)
        go_simp
        go_at_call 19
        refine (anti_any _ base m G (HTw.out _ KK.out).g (HTw.out _ KK.out).i id).mono ?_
        unfold ListPost
        rw [HAe.out]
        rintro e w21 ⟨A21, c21, rfl, ho, hb⟩
        have J := Lib.hid hb
        have S21 : Hid (SeesV w21 w21.heap.size A21 (hsC An)) := SeesV.own ho
        replace KK := Lib.hid (nxTo KK.out J.out)
        clear ho hb J
        refine hK.out _ _ (HRd.out _ KK.out) (fun hSn => ?_)
        clear hK K
        try simp only [Act.put, List.setIfInBounds_toArray, List.set_cons_zero, List.set_cons_succ]
        refine wpAnyH_ready (rs := [24]) (by kernel_rfl) (by simp) ?_
        refine (AllReadyH.cons rfl (fun K hK => ?_) AllReadyH.nil)
        go_simp
        go_at_call 36
        refine (ranti_any _ base r G (HRg.out _ KK.out) id HNe.out).mono ?_
        unfold ListPost
        rw [HAd.out]
        rintro e w24 ⟨A24, c24, rfl, ho, hb⟩
        have J := Lib.hid hb
        have S24 : Hid (SeesV w24 w24.heap.size A24 (hsC An)) := SeesV.own ho
        replace S21 := Lib.hid ((S21.out.below J.out).more J.out.size)
        replace KK := Lib.hid (nxTo KK.out J.out)
        clear ho hb J
        refine hK.out _ _ (HRd.out _ KK.out) (fun hSn => ?_)
        clear hK K
        try simp only [Act.put, List.setIfInBounds_toArray, List.set_cons_zero, List.set_cons_succ]
        refine wpAnyH_ready (rs := [25]) (by kernel_rfl) (by simp) ?_
        refine (AllReadyH.cons rfl (fun K hK => ?_) AllReadyH.nil)
        go_simp
        go_at_call 16
        refine (requal_any _ A21 A24 An An c21 c24 S21.out S24.out (by have := HAnl.out; omega)).mono ?_
        rw [show decide (An = An) = true from decide_eq_true rfl]
        rintro e w25 ⟨rfl, hb⟩
        replace KK := Lib.hid (nxTo KK.out hb)
        clear hb
        refine hK.out _ _ (HRd.out _ KK.out) (fun hSn => ?_)
        clear hK K
        try simp only [Act.put, List.setIfInBounds_toArray, List.set_cons_zero, List.set_cons_succ]
        refine wpAnyH_take (i := 26) (oi := ⟨_, _, _, _, _, _⟩) (v := ?_) rfl (by kernel_rfl) (by kernel_rfl) (by kernel_rfl) (fun _ _ _ h => h) (Or.inl ⟨by rfl, ?_⟩) (by assumption) ?_
        rotate_left 1
        · intro W hSw
          try dsimp only at hSw
          have hs1 := hSw
          go_simp
          try with_reducible rfl
        try simp only [Act.put, List.setIfInBounds_toArray, List.set_cons_zero, List.set_cons_succ]
        refine wpAnyH_take (i := 27) (oi := ⟨_, _, _, _, _, _⟩) (v := ?_) rfl (by kernel_rfl) (by kernel_rfl) (by kernel_rfl) (fun _ _ _ h => h) (Or.inl ⟨by rfl, ?_⟩) (by assumption) ?_
        rotate_left 1
        · intro W hSw
          try dsimp only at hSw
          have hs1 := hSw
          go_simp
          try with_reducible rfl
        try simp only [Act.put, List.setIfInBounds_toArray, List.set_cons_zero, List.set_cons_succ]
        refine wpAnyH_done (by kernel_rfl) ?_ _
        go_wp2
        go_ret
        exact ⟨rfl, nxTo V0.out (nxTo VD.out KK.out)⟩
      · skip
        refine step_build1 (o := ⟨some 110, _, _, _, _, _⟩) rfl 34 23 (.tmp 109) rfl (hC id) _ 32 32 Tryd.underlying34 Tryd.dinfoH (by decide) (by decide) (hC_len id) rfl ?_
        obtain ⟨wQ, hwx⟩ : ∃ x, wP.alloc (.cells (hC id).toArray 23) = x := ⟨_, rfl⟩
        have J : Hid (Below wP.heap.size wP wQ) := (by rw [← hwx]; exact nxAlloc (nxRefl _) _)
        have BQ : Hid (Blk wQ wP.heap.size 23 (hC id).toArray) := (by rw [← hwx]; exact heap_alloc_new _ _)
        rw [hwx]
        obtain ⟨pQ, hpx⟩ : ∃ x, wP.heap.size = x := ⟨_, rfl⟩
        rw [hpx] at BQ ⊢
        replace BP := Lib.hid (BP.out.below J.out BP.out.lt)
        replace KK := Lib.hid (nxTo KK.out J.out)
        clear hwx hpx J
        refine hK.out _ _ (HRd.out _ KK.out) (fun hSn => ?_)
        clear hK K
        try simp only [Act.put, List.setIfInBounds_toArray, List.set_cons_zero, List.set_cons_succ]
        refine wpAnyH_ready (rs := [3]) (by kernel_rfl) (by simp) ?_
        refine (AllReadyH.cons rfl (fun K hK => ?_) AllReadyH.nil)
        go_simp
        go_at_call 17
        refine (past_any _ base m G (HTw.out _ KK.out).g (HTw.out _ KK.out).i (some ⟨pP, 0, none⟩) [id] 1 (by rw [hsC_1]; exact SeesV.blk BP.out) (by simp) (HTb.out _ KK.out)).mono ?_
        unfold ListPost
        rw [HPe.out]
        rintro e w3 ⟨A3, c3, rfl, ho3, hb3⟩
        have J := Lib.hid hb3
        have S3 : Hid (SeesV w3 w3.heap.size A3 (hsC P)) := SeesV.own ho3
        replace BP := Lib.hid (BP.out.below J.out BP.out.lt)
        replace BQ := Lib.hid (BQ.out.below J.out BQ.out.lt)
        replace KK := Lib.hid (nxTo KK.out J.out)
        clear ho3 hb3 J
        refine hK.out _ _ (HRd.out _ KK.out) (fun hSn => ?_)
        clear hK K
        try simp only [Act.put, List.setIfInBounds_toArray, List.set_cons_zero, List.set_cons_succ]
        refine wpAnyH_ready (rs := [7]) (by kernel_rfl) (by simp) ?_
        refine (AllReadyH.cons rfl (fun K hK => ?_) AllReadyH.nil)
        go_simp
        go_at_call 13
        refine (rpast_any _ base r G (HRg.out _ KK.out).d (HRg.out _ KK.out).rel (HRg.out _ KK.out).ok (some ⟨pQ, 0, none⟩) [id] 1 (by rw [hsC_1]; exact SeesV.blk BQ.out) (by simp) (HRg.out _ KK.out).mx).mono ?_
        unfold ListPost
        rw [HPe.out]
        rintro e w7 ⟨A7, c7, rfl, ho, hb⟩
        have J := Lib.hid hb
        have S7 : Hid (SeesV w7 w7.heap.size A7 (hsC P)) := SeesV.own ho
        replace S3 := Lib.hid ((S3.out.below J.out).more J.out.size)
        replace KK := Lib.hid (nxTo KK.out J.out)
        clear ho hb J
        refine hK.out _ _ (HRd.out _ KK.out) (fun hSn => ?_)
        clear hK K
        try simp only [Act.put, List.setIfInBounds_toArray, List.set_cons_zero, List.set_cons_succ]
        refine wpAnyH_ready (rs := [8]) (by kernel_rfl) (by simp) ?_
        refine (AllReadyH.cons rfl (fun K hK => ?_) AllReadyH.nil)
        go_simp
        go_at_call 16
        refine (requal_any _ A3 A7 P P c3 c7 S3.out S7.out (by have := HPl.out; omega)).mono ?_
        rw [show decide (P = P) = true from decide_eq_true rfl]
        rintro e w8 ⟨rfl, hb⟩
        replace KK := Lib.hid (nxTo KK.out hb)
        clear hb
        refine hK.out _ _ (HRd.out _ KK.out) (fun hSn => ?_)
        clear hK K
        try simp only [Act.put, List.setIfInBounds_toArray, List.set_cons_zero, List.set_cons_succ]
        refine wpAnyH_take (i := 9) (oi := ⟨_, _, _, _, _, _⟩) (v := ?_) rfl (by kernel_rfl) (by kernel_rfl) (by kernel_rfl) (fun _ _ _ h => h) (Or.inl ⟨by rfl, ?_⟩) (by assumption) ?_
        rotate_left 1
        · intro W hSw
          try dsimp only at hSw
          have hs1 := hSw
          go_simp
          try with_reducible rfl
        try simp only [Act.put, List.setIfInBounds_toArray, List.set_cons_zero, List.set_cons_succ]
        refine wpAnyH_take (i := 10) (oi := ⟨_, _, _, _, _, _⟩) (v := ?_) rfl (by kernel_rfl) (by kernel_rfl) (by kernel_rfl) (fun _ _ _ h => h) (Or.inl ⟨by rfl, ?_⟩) (by assumption) ?_
        rotate_left 1
        · intro W hSw
          try dsimp only at hSw
          have hs1 := hSw
          go_simp
          try with_reducible rfl
        try simp only [Act.put, List.setIfInBounds_toArray, List.set_cons_zero, List.set_cons_succ]
        refine wpAnyH_take (i := 11) (oi := ⟨_, _, _, _, _, _⟩) (v := .agg (hC id).toArray) rfl (by kernel_rfl) (by kernel_rfl) (by kernel_rfl) (fun _ _ _ h => h) (yieldsIf_load_mid (by rfl) 23 (.tmp 5) rfl p5 0 rfl (hC id) _ (fun W hS => hS) Tryd.underlying23 rfl (hszL id)) (by assumption) ?_
        try simp only [Act.put, List.setIfInBounds_toArray, List.set_cons_zero, List.set_cons_succ]
        refine wpAnyH_take (i := 13) (oi := ⟨_, _, _, _, _, _⟩) (v := ?_) rfl (by kernel_rfl) (by kernel_rfl) (by kernel_rfl) (fun _ _ _ h => h) (Or.inl ⟨by rfl, ?_⟩) (by assumption) ?_
        rotate_left 1
        · intro W hSw
          try dsimp only at hSw
          have hs1 := hSw
          go_simp
          try with_reducible rfl
        try simp only [Act.put, List.setIfInBounds_toArray, List.set_cons_zero, List.set_cons_succ]
        refine wpAnyH_take (i := 14) (oi := ⟨_, _, _, _, _, _⟩) (v := .agg (hC id).toArray) rfl (by kernel_rfl) (by kernel_rfl) (by kernel_rfl) (fun _ _ _ h => h) (yieldsIf_load_mid (by rfl) 23 (.tmp 5) rfl p5 0 rfl (hC id) _ (fun W hS => hS) Tryd.underlying23 rfl (hszL id)) (by assumption) ?_
        try simp only [Act.put, List.setIfInBounds_toArray, List.set_cons_zero, List.set_cons_succ]
        refine wpAnyH_ready (rs := [12]) (by kernel_rfl) (by simp) ?_
        refine (AllReadyH.cons rfl (fun K hK => ?_) AllReadyH.nil)
        go_simp
        go_at_call 18
        refine (fut_any _ base m G (HTw.out _ KK.out).g (HTw.out _ KK.out).i id).mono ?_
        unfold ListPost
        rw [HFe.out]
        rintro e w12 ⟨A12, c12, rfl, ho, hb⟩
        have J := Lib.hid hb
        have S12 : Hid (SeesV w12 w12.heap.size A12 (hsC F)) := SeesV.own ho
        replace KK := Lib.hid (nxTo KK.out J.out)
        clear ho hb J
        refine hK.out _ _ (HRd.out _ KK.out) (fun hSn => ?_)
        clear hK K
        try simp only [Act.put, List.setIfInBounds_toArray, List.set_cons_zero, List.set_cons_succ]
        refine wpAnyH_ready (rs := [15]) (by kernel_rfl) (by simp) ?_
        refine (AllReadyH.cons rfl (fun K hK => ?_) AllReadyH.nil)
        go_simp
        go_at_call 35
        refine (rfut_any _ base r G (HRg.out _ KK.out) id).mono ?_
        unfold ListPost
        rw [HFd.out]
        rintro e w15 ⟨A15, c15, rfl, ho, hb⟩
        have J := Lib.hid hb
        have S15 : Hid (SeesV w15 w15.heap.size A15 (hsC F)) := SeesV.own ho
        replace S12 := Lib.hid ((S12.out.below J.out).more J.out.size)
        replace KK := Lib.hid (nxTo KK.out J.out)
        clear ho hb J
        refine hK.out _ _ (HRd.out _ KK.out) (fun hSn => ?_)
        clear hK K
        try simp only [Act.put, List.setIfInBounds_toArray, List.set_cons_zero, List.set_cons_succ]
        refine wpAnyH_ready (rs := [16]) (by kernel_rfl) (by simp) ?_
        refine (AllReadyH.cons rfl (fun K hK => ?_) AllReadyH.nil)
        go_simp
        go_at_call 16
        refine (requal_any _ A12 A15 F F c12 c15 S12.out S15.out (by have := HFl.out; omega)).mono ?_
        rw [show decide (F = F) = true from decide_eq_true rfl]
        rintro e w16 ⟨rfl, hb⟩
        replace KK := Lib.hid (nxTo KK.out hb)
        clear hb
        refine hK.out _ _ (HRd.out _ KK.out) (fun hSn => ?_)
        clear hK K
        try simp only [Act.put, List.setIfInBounds_toArray, List.set_cons_zero, List.set_cons_succ]
        refine wpAnyH_take (i := 17) (oi := ⟨_, _, _, _, _, _⟩) (v := ?_) rfl (by kernel_rfl) (by kernel_rfl) (by kernel_rfl) (fun _ _ _ h => h) (Or.inl ⟨by rfl, ?_⟩) (by assumption) ?_
        rotate_left 1
        · intro W hSw
          try dsimp only at hSw
          have hs1 := hSw
          go_simp
          try with_reducible rfl
        try simp only [Act.put, List.setIfInBounds_toArray, List.set_cons_zero, List.set_cons_succ]
        refine wpAnyH_take (i := 18) (oi := ⟨_, _, _, _, _, _⟩) (v := ?_) rfl (by kernel_rfl) (by kernel_rfl) (by kernel_rfl) (fun _ _ _ h => h) (Or.inl ⟨by rfl, ?_⟩) (by assumption) ?_
        rotate_left 1
        · intro W hSw
          try dsimp only at hSw
          have hs1 := hSw
          go_simp
          try with_reducible rfl
        try simp only [Act.put, List.setIfInBounds_toArray, List.set_cons_zero, List.set_cons_succ]
        refine wpAnyH_take (i := 19) (oi := ⟨_, _, _, _, _, _⟩) (v := ?_) rfl (by kernel_rfl) (by kernel_rfl) (by kernel_rfl) (fun _ _ _ h => h) (Or.inl ⟨by rfl, ?_⟩) (by assumption) ?_
        rotate_left 1
        · intro W hSw
          try dsimp only at hSw
          have hs1 := hSw
          go_simp
          try with_reducible rfl
        try simp only [Act.put, List.setIfInBounds_toArray, List.set_cons_zero, List.set_cons_succ]
        refine wpAnyH_take (i := 20) (oi := ⟨_, _, _, _, _, _⟩) (v := .agg (hC id).toArray) rfl (by kernel_rfl) (by kernel_rfl) (by kernel_rfl) (fun _ _ _ h => h) (yieldsIf_load_mid (by rfl) 23 (.tmp 5) rfl p5 0 rfl (hC id) _ (fun W hS => hS) Tryd.underlying23 rfl (hszL id)) (by assumption) ?_
        try simp only [Act.put, List.setIfInBounds_toArray, List.set_cons_zero, List.set_cons_succ]
        refine wpAnyH_take (i := 22) (oi := ⟨_, _, _, _, _, _⟩) (v := ?_) rfl (by kernel_rfl) (by kernel_rfl) (by kernel_rfl) (fun _ _ _ h => h) (Or.inl ⟨by rfl, ?_⟩) (by assumption) ?_
        rotate_left 1
        · intro W hSw
          try dsimp only at hSw
          have hs1 := hSw
          go_simp
          try with_reducible rfl
        try simp only [Act.put, List.setIfInBounds_toArray, List.set_cons_zero, List.set_cons_succ]
        refine wpAnyH_take (i := 23) (oi := ⟨_, _, _, _, _, _⟩) (v := .agg (hC id).toArray) rfl (by kernel_rfl) (by kernel_rfl) (by kernel_rfl) (fun _ _ _ h => h) (yieldsIf_load_mid (by rfl) 23 (.tmp 5) rfl p5 0 rfl (hC id) _ (fun W hS => hS) Tryd.underlying23 rfl (hszL id)) (by assumption) ?_
        try simp only [Act.put, List.setIfInBounds_toArray, List.set_cons_zero, List.set_cons_succ]
        refine wpAnyH_ready (rs := [21]) (by kernel_rfl) (by simp) ?_
        refine (AllReadyH.cons rfl (fun K hK => ?_) AllReadyH.nil)
        go_simp
        go_at_call 19
        refine (anti_any _ base m G (HTw.out _ KK.out).g (HTw.out _ KK.out).i id).mono ?_
        unfold ListPost
        rw [HAe.out]
        rintro e w21 ⟨A21, c21, rfl, ho, hb⟩
        have J := Lib.hid hb
        have S21 : Hid (SeesV w21 w21.heap.size A21 (hsC An)) := SeesV.own ho
        replace KK := Lib.hid (nxTo KK.out J.out)
        clear ho hb J
        refine hK.out _ _ (HRd.out _ KK.out) (fun hSn => ?_)
        clear hK K
        try simp only [Act.put, List.setIfInBounds_toArray, List.set_cons_zero, List.set_cons_succ]
        refine wpAnyH_ready (rs := [24]) (by kernel_rfl) (by simp) ?_
        refine (AllReadyH.cons rfl (fun K hK => ?_) AllReadyH.nil)
        go_simp
        go_at_call 36
        refine (ranti_any _ base r G (HRg.out _ KK.out) id HNe.out).mono ?_
        unfold ListPost
        rw [HAd.out]
        rintro e w24 ⟨A24, c24, rfl, ho, hb⟩
        have J := Lib.hid hb
        have S24 : Hid (SeesV w24 w24.heap.size A24 (hsC An)) := SeesV.own ho
        replace S21 := Lib.hid ((S21.out.below J.out).more J.out.size)
        replace KK := Lib.hid (nxTo KK.out J.out)
        clear ho hb J
        refine hK.out _ _ (HRd.out _ KK.out) (fun hSn => ?_)
        clear hK K
        try simp only [Act.put, List.setIfInBounds_toArray, List.set_cons_zero, List.set_cons_succ]
        refine wpAnyH_ready (rs := [25]) (by kernel_rfl) (by simp) ?_
        refine (AllReadyH.cons rfl (fun K hK => ?_) AllReadyH.nil)
        go_simp
        go_at_call 16
        refine (requal_any _ A21 A24 An An c21 c24 S21.out S24.out (by have := HAnl.out; omega)).mono ?_
        rw [show decide (An = An) = true from decide_eq_true rfl]
        rintro e w25 ⟨rfl, hb⟩
        replace KK := Lib.hid (nxTo KK.out hb)
        clear hb
        refine hK.out _ _ (HRd.out _ KK.out) (fun hSn => ?_)
        clear hK K
        try simp only [Act.put, List.setIfInBounds_toArray, List.set_cons_zero, List.set_cons_succ]
        refine wpAnyH_take (i := 26) (oi := ⟨_, _, _, _, _, _⟩) (v := ?_) rfl (by kernel_rfl) (by kernel_rfl) (by kernel_rfl) (fun _ _ _ h => h) (Or.inl ⟨by rfl, ?_⟩) (by assumption) ?_
        rotate_left 1
        · intro W hSw
          try dsimp only at hSw
          have hs1 := hSw
          go_simp
          try with_reducible rfl
        try simp only [Act.put, List.setIfInBounds_toArray, List.set_cons_zero, List.set_cons_succ]
        refine wpAnyH_take (i := 27) (oi := ⟨_, _, _, _, _, _⟩) (v := ?_) rfl (by kernel_rfl) (by kernel_rfl) (by kernel_rfl) (fun _ _ _ h => h) (Or.inl ⟨by rfl, ?_⟩) (by assumption) ?_
        rotate_left 1
        · intro W hSw
          try dsimp only at hSw
          have hs1 := hSw
          go_simp
          try with_reducible rfl
        try simp only [Act.put, List.setIfInBounds_toArray, List.set_cons_zero, List.set_cons_succ]
        refine wpAnyH_done (by kernel_rfl) ?_ _
        go_wp2
        go_ret
        exact ⟨rfl, nxTo V0.out (nxTo VD.out KK.out)⟩
    · skip
      refine step_build1 (o := ⟨some 110, _, _, _, _, _⟩) rfl 34 23 (.tmp 109) rfl (hC id) _ 32 32 Tryd.underlying34 Tryd.dinfoH (by decide) (by decide) (hC_len id) rfl ?_
      obtain ⟨wQ, hwx⟩ : ∃ x, wd.alloc (.cells (hC id).toArray 23) = x := ⟨_, rfl⟩
      have J : Hid (Below wd.heap.size wd wQ) := (by rw [← hwx]; exact nxAlloc (nxRefl _) _)
      have BQ : Hid (Blk wQ wd.heap.size 23 (hC id).toArray) := (by rw [← hwx]; exact heap_alloc_new _ _)
      rw [hwx]
      obtain ⟨pQ, hpx⟩ : ∃ x, wd.heap.size = x := ⟨_, rfl⟩
      rw [hpx] at BQ ⊢
      replace KK := Lib.hid (nxTo KK.out J.out)
      clear hwx hpx J
      refine hK.out _ _ (HRd.out _ KK.out) (fun hSn => ?_)
      clear hK K
      try simp only [Act.put, List.setIfInBounds_toArray, List.set_cons_zero, List.set_cons_succ]
      refine wpAnyH_ready (rs := [2]) (by kernel_rfl) (by simp) ?_
      refine (AllReadyH.cons rfl (fun K hK => ?_) AllReadyH.nil)
      refine step_build1 (o := ⟨some 106, _, _, _, _, _⟩) rfl 34 23 (.tmp 105) rfl (hC id) _ 32 32 Tryd.underlying34 Tryd.dinfoH (by decide) (by decide) (hC_len id) rfl ?_
      obtain ⟨wP, hwx⟩ : ∃ x, wQ.alloc (.cells (hC id).toArray 23) = x := ⟨_, rfl⟩
      have J : Hid (Below wQ.heap.size wQ wP) := (by rw [← hwx]; exact nxAlloc (nxRefl _) _)
      have BP : Hid (Blk wP wQ.heap.size 23 (hC id).toArray) := (by rw [← hwx]; exact heap_alloc_new _ _)
      rw [hwx]
      obtain ⟨pP, hpx⟩ : ∃ x, wQ.heap.size = x := ⟨_, rfl⟩
      rw [hpx] at BP ⊢
      replace BQ := Lib.hid (BQ.out.below J.out BQ.out.lt)
      replace KK := Lib.hid (nxTo KK.out J.out)
      clear hwx hpx J
      refine hK.out _ _ (HRd.out _ KK.out) (fun hSn => ?_)
      clear hK K
      try simp only [Act.put, List.setIfInBounds_toArray, List.set_cons_zero, List.set_cons_succ]
      refine wpAnyH_ready (rs := [3]) (by kernel_rfl) (by simp) ?_
      refine (AllReadyH.cons rfl (fun K hK => ?_) AllReadyH.nil)
      go_simp
      go_at_call 17
      refine (past_any _ base m G (HTw.out _ KK.out).g (HTw.out _ KK.out).i (some ⟨pP, 0, none⟩) [id] 1 (by rw [hsC_1]; exact SeesV.blk BP.out) (by simp) (HTb.out _ KK.out)).mono ?_
      unfold ListPost
      rw [HPe.out]
      rintro e w3 ⟨A3, c3, rfl, ho3, hb3⟩
      have J := Lib.hid hb3
      have S3 : Hid (SeesV w3 w3.heap.size A3 (hsC P)) := SeesV.own ho3
      replace BP := Lib.hid (BP.out.below J.out BP.out.lt)
      replace BQ := Lib.hid (BQ.out.below J.out BQ.out.lt)
      replace KK := Lib.hid (nxTo KK.out J.out)
      clear ho3 hb3 J
      refine hK.out _ _ (HRd.out _ KK.out) (fun hSn => ?_)
      clear hK K
      try simp only [Act.put, List.setIfInBounds_toArray, List.set_cons_zero, List.set_cons_succ]
      refine wpAnyH_ready (rs := [7]) (by kernel_rfl) (by simp) ?_
      refine (AllReadyH.cons rfl (fun K hK => ?_) AllReadyH.nil)
      go_simp
      go_at_call 13
      refine (rpast_any _ base r G (HRg.out _ KK.out).d (HRg.out _ KK.out).rel (HRg.out _ KK.out).ok (some ⟨pQ, 0, none⟩) [id] 1 (by rw [hsC_1]; exact SeesV.blk BQ.out) (by simp) (HRg.out _ KK.out).mx).mono ?_
      unfold ListPost
      rw [HPe.out]
      rintro e w7 ⟨A7, c7, rfl, ho, hb⟩
      have J := Lib.hid hb
      have S7 : Hid (SeesV w7 w7.heap.size A7 (hsC P)) := SeesV.own ho
      replace S3 := Lib.hid ((S3.out.below J.out).more J.out.size)
      replace KK := Lib.hid (nxTo KK.out J.out)
      clear ho hb J
      refine hK.out _ _ (HRd.out _ KK.out) (fun hSn => ?_)
      clear hK K
      try simp only [Act.put, List.setIfInBounds_toArray, List.set_cons_zero, List.set_cons_succ]
      refine wpAnyH_ready (rs := [8]) (by kernel_rfl) (by simp) ?_
      refine (AllReadyH.cons rfl (fun K hK => ?_) AllReadyH.nil)
      go_simp
      go_at_call 16
      refine (requal_any _ A3 A7 P P c3 c7 S3.out S7.out (by have := HPl.out; omega)).mono ?_
      rw [show decide (P = P) = true from decide_eq_true rfl]
      rintro e w8 ⟨rfl, hb⟩
      replace KK := Lib.hid (nxTo KK.out hb)
      clear hb
      refine hK.out _ _ (HRd.out _ KK.out) (fun hSn => ?_)
      clear hK K
      try simp only [Act.put, List.setIfInBounds_toArray, List.set_cons_zero, List.set_cons_succ]
      refine wpAnyH_take (i := 9) (oi := ⟨_, _, _, _, _, _⟩) (v := ?_) rfl (by kernel_rfl) (by kernel_rfl) (by kernel_rfl) (fun _ _ _ h => h) (Or.inl ⟨by rfl, ?_⟩) (by assumption) ?_
      rotate_left 1
      · intro W hSw
        try dsimp only at hSw
        have hs1 := hSw
        go_simp
        try with_reducible rfl
      try simp only [Act.put, List.setIfInBounds_toArray, List.set_cons_zero, List.set_cons_succ]
      refine wpAnyH_take (i := 10) (oi := ⟨_, _, _, _, _, _⟩) (v := ?_) rfl (by kernel_rfl) (by kernel_rfl) (by kernel_rfl) (fun _ _ _ h => h) (Or.inl ⟨by rfl, ?_⟩) (by assumption) ?_
      rotate_left 1
      · intro W hSw
        try dsimp only at hSw
        have hs1 := hSw
        go_simp
        try with_reducible rfl
      try simp only [Act.put, List.setIfInBounds_toArray, List.set_cons_zero, List.set_cons_succ]
      refine wpAnyH_take (i := 11) (oi := ⟨_, _, _, _, _, _⟩) (v := .agg (hC id).toArray) rfl (by kernel_rfl) (by kernel_rfl) (by kernel_rfl) (fun _ _ _ h => h) (yieldsIf_load_mid (by rfl) 23 (.tmp 5) rfl p5 0 rfl (hC id) _ (fun W hS => hS) Tryd.underlying23 rfl (hszL id)) (by assumption) ?_
      try simp only [Act.put, List.setIfInBounds_toArray, List.set_cons_zero, List.set_cons_succ]
      refine wpAnyH_take (i := 13) (oi := ⟨_, _, _, _, _, _⟩) (v := ?_) rfl (by kernel_rfl) (by kernel_rfl) (by kernel_rfl) (fun _ _ _ h => h) (Or.inl ⟨by rfl, ?_⟩) (by assumption) ?_
      rotate_left 1
      · intro W hSw
        try dsimp only at hSw
        have hs1 := hSw
        go_simp
        try with_reducible rfl
      try simp only [Act.put, List.setIfInBounds_toArray, List.set_cons_zero, List.set_cons_succ]
      refine wpAnyH_take (i := 14) (oi := ⟨_, _, _, _, _, _⟩) (v := .agg (hC id).toArray) rfl (by kernel_rfl) (by kernel_rfl) (by kernel_rfl) (fun _ _ _ h => h) (yieldsIf_load_mid (by rfl) 23 (.tmp 5) rfl p5 0 rfl (hC id) _ (fun W hS => hS) Tryd.underlying23 rfl (hszL id)) (by assumption) ?_
      try simp only [Act.put, List.setIfInBounds_toArray, List.set_cons_zero, List.set_cons_succ]
      refine wpAnyH_ready (rs := [12]) (by kernel_rfl) (by simp) ?_
      refine (AllReadyH.cons rfl (fun K hK => ?_) AllReadyH.nil)
      go_simp
      go_at_call 18
      refine (fut_any _ base m G (HTw.out _ KK.out).g (HTw.out _ KK.out).i id).mono ?_
      unfold ListPost
      rw [HFe.out]
      rintro e w12 ⟨A12, c12, rfl, ho, hb⟩
      have J := Lib.hid hb
      have S12 : Hid (SeesV w12 w12.heap.size A12 (hsC F)) := SeesV.own ho
      replace KK := Lib.hid (nxTo KK.out J.out)
      clear ho hb J
      refine hK.out _ _ (HRd.out _ KK.out) (fun hSn => ?_)
      clear hK K
      try simp only [Act.put, List.setIfInBounds_toArray, List.set_cons_zero, List.set_cons_succ]
      refine wpAnyH_ready (rs := [15]) (by kernel_rfl) (by simp) ?_
      refine (AllReadyH.cons rfl (fun K hK => ?_) AllReadyH.nil)
      go_simp
      go_at_call 35
      refine (rfut_any _ base r G (HRg.out _ KK.out) id).mono ?_
      unfold ListPost
      rw [HFd.out]
      rintro e w15 ⟨A15, c15, rfl, ho, hb⟩
      have J := Lib.hid hb
      have S15 : Hid (SeesV w15 w15.heap.size A15 (hsC F)) := SeesV.own ho
      replace S12 := Lib.hid ((S12.out.below J.out).more J.out.size)
      replace KK := Lib.hid (nxTo KK.out J.out)
      clear ho hb J
      refine hK.out _ _ (HRd.out _ KK.out) (fun hSn => ?_)
      clear hK K
      try simp only [Act.put, List.setIfInBounds_toArray, List.set_cons_zero, List.set_cons_succ]
      refine wpAnyH_ready (rs := [16]) (by kernel_rfl) (by simp) ?_
      refine (AllReadyH.cons rfl (fun K hK => ?_) AllReadyH.nil)
      go_simp
      go_at_call 16
      refine (requal_any _ A12 A15 F F c12 c15 S12.out S15.out (by have := HFl.out; omega)).mono ?_
      rw [show decide (F = F) = true from decide_eq_true rfl]
      rintro e w16 ⟨rfl, hb⟩
      replace KK := Lib.hid (nxTo KK.out hb)
      clear hb
      refine hK.out _ _ (HRd.out _ KK.out) (fun hSn => ?_)
      clear hK K
      try simp only [Act.put, List.setIfInBounds_toArray, List.set_cons_zero, List.set_cons_succ]
      refine wpAnyH_take (i := 17) (oi := ⟨_, _, _, _, _, _⟩) (v := ?_) rfl (by kernel_rfl) (by kernel_rfl) (by kernel_rfl) (fun _ _ _ h => h) (Or.inl ⟨by rfl, ?_⟩) (by assumption) ?_
      rotate_left 1
      · intro W hSw
        try dsimp only at hSw
        have hs1 := hSw
        go_simp
        try with_reducible rfl
      try simp only [Act.put, List.setIfInBounds_toArray, List.set_cons_zero, List.set_cons_succ]
      refine wpAnyH_take (i := 18) (oi := ⟨_, _, _, _, _, _⟩) (v := ?_) rfl (by kernel_rfl) (by kernel_rfl) (by kernel_rfl) (fun _ _ _ h => h) (Or.inl ⟨by rfl, ?_⟩) (by assumption) ?_
      rotate_left 1
      · intro W hSw
        try dsimp only at hSw
        have hs1 := hSw
        go_simp
        try with_reducible rfl
      try simp only [Act.put, List.setIfInBounds_toArray, List.set_cons_zero, List.set_cons_succ]
      refine wpAnyH_take (i := 19) (oi := ⟨_, _, _, _, _, _⟩) (v := ?_) rfl (by kernel_rfl) (by kernel_rfl) (by kernel_rfl) (fun _ _ _ h => h) (Or.inl ⟨by rfl, ?_⟩) (by assumption) ?_
      rotate_left 1
      · intro W hSw
        try dsimp only at hSw
        have hs1 := hSw
        go_simp
        try with_reducible rfl
      try simp only [Act.put, List.setIfInBounds_toArray, List.set_cons_zero, List.set_cons_succ]
      refine wpAnyH_take (i := 20) (oi := ⟨_, _, _, _, _, _⟩) (v := .agg (hC id).toArray) rfl (by kernel_rfl) (by kernel_rfl) (by kernel_rfl) (fun _ _ _ h => h) (yieldsIf_load_mid (by rfl) 23 (.tmp 5) rfl p5 0 rfl (hC id) _ (fun W hS => hS) Tryd.underlying23 rfl (hszL id)) (by assumption) ?_
      try simp only [Act.put, List.setIfInBounds_toArray, List.set_cons_zero, List.set_cons_succ]
      refine wpAnyH_take (i := 22) (oi := ⟨_, _, _, _, _, _⟩) (v := ?_) rfl (by kernel_rfl) (by kernel_rfl) (by kernel_rfl) (fun _ _ _ h => h) (Or.inl ⟨by rfl, ?_⟩) (by assumption) ?_
      rotate_left 1
      · intro W hSw
        try dsimp only at hSw
        have hs1 := hSw
        go_simp
        try with_reducible rfl
      try simp only [Act.put, List.setIfInBounds_toArray, List.set_cons_zero, List.set_cons_succ]
      refine wpAnyH_take (i := 23) (oi := ⟨_, _, _, _, _, _⟩) (v := .agg (hC id).toArray) rfl (by kernel_rfl) (by kernel_rfl) (by kernel_rfl) (fun _ _ _ h => h) (yieldsIf_load_mid (by rfl) 23 (.tmp 5) rfl p5 0 rfl (hC id) _ (fun W hS => hS) Tryd.underlying23 rfl (hszL id)) (by assumption) ?_
      try simp only [Act.put, List.setIfInBounds_toArray, List.set_cons_zero, List.set_cons_succ]
      refine wpAnyH_ready (rs := [21]) (by kernel_rfl) (by simp) ?_
      refine (AllReadyH.cons rfl (fun K hK => ?_) AllReadyH.nil)
      go_simp
      go_at_call 19
      refine (anti_any _ base m G (HTw.out _ KK.out).g (HTw.out _ KK.out).i id).mono ?_
      unfold ListPost
      rw [HAe.out]
      rintro e w21 ⟨A21, c21, rfl, ho, hb⟩
      have J := Lib.hid hb
      have S21 : Hid (SeesV w21 w21.heap.size A21 (hsC An)) := SeesV.own ho
      replace KK := Lib.hid (nxTo KK.out J.out)
      clear ho hb J
      refine hK.out _ _ (HRd.out _ KK.out) (fun hSn => ?_)
      clear hK K
      try simp only [Act.put, List.setIfInBounds_toArray, List.set_cons_zero, List.set_cons_succ]
      refine wpAnyH_ready (rs := [24]) (by kernel_rfl) (by simp) ?_
      refine (AllReadyH.cons rfl (fun K hK => ?_) AllReadyH.nil)
      go_simp
      go_at_call 36
      refine (ranti_any _ base r G (HRg.out _ KK.out) id HNe.out).mono ?_
      unfold ListPost
      rw [HAd.out]
      rintro e w24 ⟨A24, c24, rfl, ho, hb⟩
      have J := Lib.hid hb
      have S24 : Hid (SeesV w24 w24.heap.size A24 (hsC An)) := SeesV.own ho
      replace S21 := Lib.hid ((S21.out.below J.out).more J.out.size)
      replace KK := Lib.hid (nxTo KK.out J.out)
      clear ho hb J
      refine hK.out _ _ (HRd.out _ KK.out) (fun hSn => ?_)
      clear hK K
      try simp only [Act.put, List.setIfInBounds_toArray, List.set_cons_zero, List.set_cons_succ]
      refine wpAnyH_ready (rs := [25]) (by kernel_rfl) (by simp) ?_
      refine (AllReadyH.cons rfl (fun K hK => ?_) AllReadyH.nil)
      go_simp
      go_at_call 16
      refine (requal_any _ A21 A24 An An c21 c24 S21.out S24.out (by have := HAnl.out; omega)).mono ?_
      rw [show decide (An = An) = true from decide_eq_true rfl]
      rintro e w25 ⟨rfl, hb⟩
      replace KK := Lib.hid (nxTo KK.out hb)
      clear hb
      refine hK.out _ _ (HRd.out _ KK.out) (fun hSn => ?_)
      clear hK K
      try simp only [Act.put, List.setIfInBounds_toArray, List.set_cons_zero, List.set_cons_succ]
      refine wpAnyH_take (i := 26) (oi := ⟨_, _, _, _, _, _⟩) (v := ?_) rfl (by kernel_rfl) (by kernel_rfl) (by kernel_rfl) (fun _ _ _ h => h) (Or.inl ⟨by rfl, ?_⟩) (by assumption) ?_
      rotate_left 1
      · intro W hSw
        try dsimp only at hSw
        have hs1 := hSw
        go_simp
        try with_reducible rfl
      try simp only [Act.put, List.setIfInBounds_toArray, List.set_cons_zero, List.set_cons_succ]
      refine wpAnyH_take (i := 27) (oi := ⟨_, _, _, _, _, _⟩) (v := ?_) rfl (by kernel_rfl) (by kernel_rfl) (by kernel_rfl) (fun _ _ _ h => h) (Or.inl ⟨by rfl, ?_⟩) (by assumption) ?_
      rotate_left 1
      · intro W hSw
        try dsimp only at hSw
        have hs1 := hSw
        go_simp
        try with_reducible rfl
      try simp only [Act.put, List.setIfInBounds_toArray, List.set_cons_zero, List.set_cons_succ]
      refine wpAnyH_done (by kernel_rfl) ?_ _
      go_wp2
      go_ret
      exact ⟨rfl, nxTo V0.out (nxTo VD.out KK.out)⟩
end Go.Proofs.YtndkjmmmneianaaDoor
