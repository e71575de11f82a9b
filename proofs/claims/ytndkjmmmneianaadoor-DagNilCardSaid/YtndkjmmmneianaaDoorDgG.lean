/-
  dag: the anticone, the future, tips.
-/
import Derived.Test.YtndkjmmmneianaaDoorDgF
namespace Go.Proofs.YtndkjmmmneianaaDoor
open Go.RowKit Go.Shelf

theorem nxDrew (w : World) : Below w.heap.size w w.drew := ⟨rfl, rfl, rfl, Nat.le_refl _, fun _ _ => rfl⟩
theorem fltB (G : Gr) (bb : Nat → Bool) : (srtH (((List.range G.length).filter bb).map (idG G))).length = ((List.range G.length).filter bb).length := by rw [(srtH_perm _).length_eq, List.length_map]
/-- What a function answers that hands out hashes. -/
def ListPost (w : World) (L : List Hh) (e : Ending) (w' : World) : Prop := ∃ A c, e = .returned (.slice A L.length c) ∧ w'.ownsRow w.heap.size 23 32 (.slice A L.length c) L.length (hsC L) ∧ Below w.heap.size w w'
theorem flt_ans {G : Gr} (o : OkG G) (bb : Nat → Bool) (f : Nat → Prop) (h : ∀ k, k < G.length → (bb k = true ↔ f k)) : srtH (((List.range G.length).filter bb).map (idG G)) = ansG G f := by
  rw [srt_places o (List.nodup_range.filter _) (fun n hn => List.mem_range.1 (List.mem_filter.1 hn).1)]
  refine ansG_congr fun n hn => ?_
  rw [List.mem_filter, List.mem_range]
  exact ⟨fun k => (h n hn).1 k.2, fun k => ⟨hn, (h n hn).2 k⟩⟩
/-- rising of what is asked for. -/
theorem ask_any (W4 : World) (base : Nat) (m : GrM) (G : Gr) (h : GrOk W4 base m) (hg : GrI0 m G) (hne : 0 < G.length) (gb ab fa : Nat) (caps : Array Value) (bb : Nat → Bool) (hgb : gb < W4.heap.size) (hab : ab < W4.heap.size)
    (hcg : W4.cell? ⟨gb, 0, none⟩ = some (.pointer (some ⟨m.q, 0, none⟩))) (hca : W4.cell? ⟨ab, 0, none⟩ = some (.func (.func fa) #[] caps)) (ea : ∀ args w, (callFunc fa args).run Tryd.prog w = .ok (.enter fa args) w)
    (hask : ∀ W1 k, Below W4.heap.size W4 W1 → k < G.length → Calls Tryd.prog fa (#[.int .i64 (k : Int)] ++ caps) W1 fun e w' => e = .returned (.bool (bb k)) ∧ Below W1.heap.size W1 w') :
    Calls Tryd.prog 41 #[.pointer (some ⟨m.q, 0, none⟩), .func (.func 65) #[] #[.pointer (some ⟨gb, 0, none⟩), .pointer (some ⟨ab, 0, none⟩)]] W4 fun e w' => (∃ A c, e = .returned (.slice A ((List.range G.length).filter bb).length c) ∧ w'.ownsRow W4.heap.size 23 32 (.slice A ((List.range G.length).filter bb).length c) ((List.range G.length).filter bb).length (hsC (srtH (((List.range G.length).filter bb).map (idG G))))) ∧ Below W4.heap.size W4 w' := by
  have hmx : G.length ≤ 1000000 := by rw [← hg.len]; exact hg.max
  refine rising_any W4 base m G h hg 65 #[.pointer (some ⟨gb, 0, none⟩), .pointer (some ⟨ab, 0, none⟩)] ((List.range G.length).filter bb) (fun p hp => List.mem_range.1 (List.mem_filter.1 hp).1) (Nat.le_trans (Nat.le_trans (List.length_filter_le _ _) (by simp)) hmx) (enters_of Tryd.func65 (by kernel_rfl) rfl) ?_
  intro W hbw hsz l J Jx W9 hW9 hJ hY h0
  exact where1_in W base m G (h.later hbw) hg hne gb ab fa caps bb W4.heap.size hsz hgb hab (fun k hk => h.tlt hk) ((hbw.cell (p := ⟨gb, 0, none⟩) hgb).trans hcg) ((hbw.cell (p := ⟨ab, 0, none⟩) hab).trans hca) ea (fun W1 k hb1 hk => hask W1 k (hbw.trans hb1) hk) l J Jx W9 (hW9.mono hsz) hJ hY h0
set_option maxRecDepth 100000 in
set_option maxHeartbeats 2000000 in
theorem anti_any (w : World) (base : Nat) (m : GrM) (G : Gr) (h : GrOk w base m) (hg : GrIs m G) (id : Hh) : Calls Tryd.prog 19 #[.pointer (some ⟨m.q, 0, none⟩), .agg (hC id).toArray] w (ListPost w (srtH (((List.range G.length).filter (antB G (placeG G id).isSome (plE G id))).map (idG G)))) := by
  have V2 : Hid (Below w.heap.size w ((w.alloc (.cells #[.pointer (some ⟨m.q, 0, none⟩)] 27)).alloc (.cells (hC id).toArray 23))) := nxAlloc (nxAlloc (nxRefl w) _) _
  have H2 : Hid (GrOk ((w.alloc (.cells #[.pointer (some ⟨m.q, 0, none⟩)] 27)).alloc (.cells (hC id).toArray 23)) base m) := h.later V2.out
  have G2 : Hid (Blk ((w.alloc (.cells #[.pointer (some ⟨m.q, 0, none⟩)] 27)).alloc (.cells (hC id).toArray 23)) w.heap.size 27 #[.pointer (some ⟨m.q, 0, none⟩)]) := Blk.alloc (blkNew rfl rfl) _
  have I2 : Hid (Blk ((w.alloc (.cells #[.pointer (some ⟨m.q, 0, none⟩)] 27)).alloc (.cells (hC id).toArray 23)) (w.heap.size + 1) 23 (hC id).toArray) := blkNew (by simp) rfl
  have c2 : ((w.alloc (.cells #[.pointer (some ⟨m.q, 0, none⟩)] 27)).alloc (.cells (hC id).toArray 23)).cell? ⟨w.heap.size, 0, none⟩ = some (.pointer (some ⟨m.q, 0, none⟩)) := G2.out.cell 0
  have Z1 := Lib.hid (hszL id)
  have HG := Lib.hid hg
  have hmf : ∀ (fn : Fn) (first cap : Array Value) (w : World), (Instr.makeFunc fn first cap).run Tryd.prog w = .ok (.func fn first cap) w := fun _ _ _ _ => rfl
  have hvp : plV G id = .tuple #[.int .i64 (plE G id : Int), .bool (placeG G id).isSome] := rfl
  have hn : plE G id < G.length := by
    unfold plE
    cases hp : placeG G id with
    | none => exact hg.ne
    | some n => exact (placeG_some hp).1
  have Hn := Lib.hid hn
  have HN := Lib.hid hg.ne
  obtain ⟨n, hnn⟩ : ∃ n, plE G id = n := ⟨_, rfl⟩
  obtain ⟨z, hzz⟩ : ∃ z, (placeG G id).isSome = z := ⟨_, rfl⟩
  rw [hnn, hzz] at hvp
  rw [hnn] at Hn
  rw [hnn, hzz]
  have HV := Lib.hid hvp
  clear h hg hn hvp hnn hzz
  go_enter Tryd.func19, Tryd.ntmps19
  go_wp2_with (first
    | ((with_reducible show wpList _ _ _ (⟨some 9, _, _, _, _, _⟩ :: _) _ _); refine wpList_load_mid rfl 23 (.tmp 3) rfl (w.heap.size + 1) 0 rfl (hC id) _ (fun j v hv => by rw [Nat.zero_add, I2.out.cell j]; simpa using hv) Tryd.underlying23 rfl Z1.out ?_)
    | (go_at_call 37; refine (place_any _ base m G H2.out HG.out id).mono ?_; rw [HV.out]; rintro e1 w1 ⟨rfl, hb1⟩; have V1 : Hid (Below w.heap.size w w1) := nxTo V2.out hb1; have H1 := Lib.hid (H2.out.later hb1); have G1 := Lib.hid (G2.out.below hb1 G2.out.lt); clear hb1))
  have hlt1 := G1.out.lt
  have BN : Hid (Blk ((w1.alloc (.cells #[.int .i64 (n : Int)] 3)).alloc (.cells #[.bool z] 4)) w1.heap.size 3 #[.int .i64 (n : Int)]) := Blk.alloc (blkNew rfl rfl) _
  have BI : Hid (Blk ((w1.alloc (.cells #[.int .i64 (n : Int)] 3)).alloc (.cells #[.bool z] 4)) (w1.heap.size + 1) 4 #[.bool z]) := blkNew (by simp) rfl
  have V3 : Hid (Below w1.heap.size w1 ((w1.alloc (.cells #[.int .i64 (n : Int)] 3)).alloc (.cells #[.bool z] 4))) := nxAlloc (nxAlloc (nxRefl w1) _) _
  generalize hW3 : ((w1.alloc (.cells #[.int .i64 (n : Int)] 3)).alloc (.cells #[.bool z] 4)) = W3 at *
  have H3 : Hid (GrOk W3 base m) := H1.out.later V3.out
  have VW : Hid (Below w.heap.size w W3) := nxTo V1.out V3.out
  have G3 : Hid (Blk W3 w.heap.size 27 #[.pointer (some ⟨m.q, 0, none⟩)]) := G1.out.below V3.out hlt1
  obtain ⟨gB, hgB⟩ : ∃ gB, w.heap.size = gB := ⟨_, rfl⟩
  obtain ⟨nB, hnB⟩ : ∃ nB, w1.heap.size = nB := ⟨_, rfl⟩
  have HB9 := Lib.hid hgB
  rw [hgB] at G3 ⊢
  rw [hnB] at BN BI ⊢
  have HGl : Hid (gB < W3.heap.size) := G3.out.lt
  have HGc : Hid (W3.cell? ⟨gB, 0, none⟩ = some (.pointer (some ⟨m.q, 0, none⟩))) := G3.out.cell 0
  have HRi : Hid (∀ w4, w4 = ((W3.drew.alloc (.cells #[.pointer (some ⟨m.q, 0, none⟩)] 27)).alloc (.cells #[.func (.func 45) #[] #[.pointer (some ⟨nB + 1, 0, none⟩), .pointer (some ⟨nB, 0, none⟩), .pointer (some ⟨gB, 0, none⟩)]] 77)) → Calls Tryd.prog 41 #[.pointer (some ⟨m.q, 0, none⟩), .func (.func 65) #[] #[.pointer (some ⟨W3.drew.heap.size, 0, none⟩), .pointer (some ⟨W3.drew.heap.size + 1, 0, none⟩)]] w4 fun e w' => (∃ A c, e = .returned (.slice A ((List.range G.length).filter (antB G z n)).length c) ∧ w'.ownsRow w4.heap.size 23 32 (.slice A ((List.range G.length).filter (antB G z n)).length c) ((List.range G.length).filter (antB G z n)).length (hsC (srtH (((List.range G.length).filter (antB G z n)).map (idG G))))) ∧ Below w4.heap.size w4 w') := by
    intro w4 hw4
    have hb4 : Below W3.heap.size W3 w4 := by rw [hw4]; exact nxAlloc (nxAlloc (nxDrew W3) _) _
    have hg4 : Blk w4 W3.drew.heap.size 27 #[.pointer (some ⟨m.q, 0, none⟩)] := by rw [hw4]; exact Blk.alloc (blkNew rfl rfl) _
    have ha4 : Blk w4 (W3.drew.heap.size + 1) 77 #[.func (.func 45) #[] #[.pointer (some ⟨nB + 1, 0, none⟩), .pointer (some ⟨nB, 0, none⟩), .pointer (some ⟨gB, 0, none⟩)]] := by rw [hw4]; exact blkNew (by simp) rfl
    refine ask_any w4 base m G (H3.out.later hb4) HG.out.toGrI0 HN.out _ _ 45 #[.pointer (some ⟨nB + 1, 0, none⟩), .pointer (some ⟨nB, 0, none⟩), .pointer (some ⟨gB, 0, none⟩)] (antB G z n) hg4.lt ha4.lt (hg4.cell 0) (ha4.cell 0) (enters_of Tryd.func45 (by kernel_rfl) rfl) (fun W1 k hb1 hk => ?_)
    have hb9 : Below W3.heap.size W3 W1 := hb4.trans (hb1.mono hb4.size)
    exact anti1_any W1 base m G (H3.out.later hb9) HG.out.toGrI0 (nB + 1) nB gB n k z hk Hn.out ((BI.out.below hb9 BI.out.lt).cell 0) ((BN.out.below hb9 BN.out.lt).cell 0) ((G3.out.below hb9 G3.out.lt).cell 0)
  clear c2 hgB hnB hW3 BN BI G1 G2 H1 H2 I2 V1 V2 V3
  refine wp_region_held_drew (S := fun W => W.cell? ⟨gB, 0, none⟩ = some (.pointer (some ⟨m.q, 0, none⟩))) (by kernel_rfl) HGc.out (fun hHeld => ?_)
  refine wpAnyH_take (i := 0) (oi := ⟨_, _, _, _, _, _⟩) (v := ?_) rfl (by kernel_rfl) (by kernel_rfl) (by kernel_rfl) (fun _ _ _ h => h) (Or.inl ⟨by rfl, ?_⟩) (by assumption) ?_
  rotate_left 1
  · intro W hSw
    try dsimp only at hSw
    have hs1 := hSw
    go_simp
    try with_reducible rfl
  try simp only [Act.put, List.setIfInBounds_toArray, List.set_cons_zero, List.set_cons_succ]
  refine wpAnyH_take (i := 1) (oi := ⟨_, _, _, _, _, _⟩) (v := ?_) rfl (by kernel_rfl) (by kernel_rfl) (by kernel_rfl) (fun _ _ _ h => h) (Or.inl ⟨by rfl, ?_⟩) (by assumption) ?_
  rotate_left 1
  · intro W hSw
    try dsimp only at hSw
    have hs1 := hSw
    go_simp
    try with_reducible rfl
  try simp only [Act.put, List.setIfInBounds_toArray, List.set_cons_zero, List.set_cons_succ]
  refine wpAnyH_take (i := 2) (oi := ⟨_, _, _, _, _, _⟩) (v := ?_) rfl (by kernel_rfl) (by kernel_rfl) (by kernel_rfl) (fun _ _ _ h => h) (Or.inl ⟨by rfl, ?_⟩) (by assumption) ?_
  rotate_left 1
  · intro W hSw
    try dsimp only at hSw
    have hs1 := hSw
    go_simp
    try with_reducible rfl
  try simp only [Act.put, List.setIfInBounds_toArray, List.set_cons_zero, List.set_cons_succ]
  refine wpAnyH_ready (rs := [3]) (by kernel_rfl) (by simp) ?_
  refine AllReadyH.cons rfl (fun K hK => ?_) AllReadyH.nil
  go_simp
  go_at_call 43
  refine (where_any _ m.q 45 #[.pointer (some ⟨nB + 1, 0, none⟩), .pointer (some ⟨nB, 0, none⟩), .pointer (some ⟨gB, 0, none⟩)]).mono ?_
  rintro e4 w4 ⟨rfl, hw4⟩
  have W4 := Lib.hid hw4
  clear hw4
  have V4 : Hid (Below W3.heap.size W3 w4) := (by rw [W4.out]; exact nxAlloc (nxAlloc (nxDrew W3) _) _)
  have C4 : Hid (w4.cell? ⟨gB, 0, none⟩ = some (.pointer (some ⟨m.q, 0, none⟩))) := (V4.out.cell (p := ⟨gB, 0, none⟩) HGl.out).trans HGc.out
  refine hK.out _ _ C4.out (fun hSn => ?_)
  clear hK K
  try simp only [Act.put, List.setIfInBounds_toArray, List.set_cons_zero, List.set_cons_succ]
  refine wpAnyH_ready (rs := [4]) (by kernel_rfl) (by simp) ?_
  refine AllReadyH.cons rfl (fun K hK => ?_) AllReadyH.nil
  go_simp
  go_at_call 41
  refine (HRi.out w4 W4.out).mono ?_
  rintro e5 w5 ⟨⟨A5, c5, rfl, ho5⟩, hb5⟩
  have O5 := Lib.hid ho5
  have V5 := Lib.hid hb5
  have C5 : Hid (w5.cell? ⟨gB, 0, none⟩ = some (.pointer (some ⟨m.q, 0, none⟩))) := (V5.out.cell (p := ⟨gB, 0, none⟩) (Nat.lt_of_lt_of_le HGl.out V4.out.size)).trans C4.out
  clear ho5 hb5
  refine hK.out _ _ C5.out (fun hSn => ?_)
  clear hK K
  try simp only [Act.put, List.setIfInBounds_toArray, List.set_cons_zero, List.set_cons_succ]
  refine wpAnyH_take (i := 5) (oi := ⟨_, _, _, _, _, _⟩) (v := ?_) rfl (by kernel_rfl) (by kernel_rfl) (by kernel_rfl) (fun _ _ _ h => h) (Or.inl ⟨by rfl, ?_⟩) (by assumption) ?_
  rotate_left 1
  · intro W hSw
    try dsimp only at hSw
    have hs1 := hSw
    go_simp
    try with_reducible rfl
  try simp only [Act.put, List.setIfInBounds_toArray, List.set_cons_zero, List.set_cons_succ]
  refine wpAnyH_done (by kernel_rfl) ?_ _
  go_wp2
  go_ret
  have hl := fltB G (antB G z n)
  have h4 := V4.out.size
  have hz : w.heap.size ≤ w4.heap.size := Nat.le_trans VW.out.size h4
  exact ⟨A5, c5, by rw [hl]; rfl, by rw [hl]; exact own_base O5.out hz, VW.out.trans ((V4.out.mono VW.out.size).trans (V5.out.mono hz))⟩
set_option maxRecDepth 100000 in
set_option maxHeartbeats 2000000 in
theorem fut_any (w : World) (base : Nat) (m : GrM) (G : Gr) (h : GrOk w base m) (hg : GrIs m G) (id : Hh) : Calls Tryd.prog 18 #[.pointer (some ⟨m.q, 0, none⟩), .agg (hC id).toArray] w (ListPost w (srtH (((List.range G.length).filter (futB G (placeG G id).isSome (plE G id))).map (idG G)))) := by
  have V2 : Hid (Below w.heap.size w ((w.alloc (.cells #[.pointer (some ⟨m.q, 0, none⟩)] 27)).alloc (.cells (hC id).toArray 23))) := nxAlloc (nxAlloc (nxRefl w) _) _
  have H2 : Hid (GrOk ((w.alloc (.cells #[.pointer (some ⟨m.q, 0, none⟩)] 27)).alloc (.cells (hC id).toArray 23)) base m) := h.later V2.out
  have G2 : Hid (Blk ((w.alloc (.cells #[.pointer (some ⟨m.q, 0, none⟩)] 27)).alloc (.cells (hC id).toArray 23)) w.heap.size 27 #[.pointer (some ⟨m.q, 0, none⟩)]) := Blk.alloc (blkNew rfl rfl) _
  have I2 : Hid (Blk ((w.alloc (.cells #[.pointer (some ⟨m.q, 0, none⟩)] 27)).alloc (.cells (hC id).toArray 23)) (w.heap.size + 1) 23 (hC id).toArray) := blkNew (by simp) rfl
  have c2 : ((w.alloc (.cells #[.pointer (some ⟨m.q, 0, none⟩)] 27)).alloc (.cells (hC id).toArray 23)).cell? ⟨w.heap.size, 0, none⟩ = some (.pointer (some ⟨m.q, 0, none⟩)) := G2.out.cell 0
  have Z1 := Lib.hid (hszL id)
  have HG := Lib.hid hg
  have hmf : ∀ (fn : Fn) (first cap : Array Value) (w : World), (Instr.makeFunc fn first cap).run Tryd.prog w = .ok (.func fn first cap) w := fun _ _ _ _ => rfl
  have hvp : plV G id = .tuple #[.int .i64 (plE G id : Int), .bool (placeG G id).isSome] := rfl
  have hn : plE G id < G.length := by
    unfold plE
    cases hp : placeG G id with
    | none => exact hg.ne
    | some n => exact (placeG_some hp).1
  have Hn := Lib.hid hn
  have HN := Lib.hid hg.ne
  obtain ⟨n, hnn⟩ : ∃ n, plE G id = n := ⟨_, rfl⟩
  obtain ⟨z, hzz⟩ : ∃ z, (placeG G id).isSome = z := ⟨_, rfl⟩
  rw [hnn, hzz] at hvp
  rw [hnn] at Hn
  rw [hnn, hzz]
  have HV := Lib.hid hvp
  clear h hg hn hvp hnn hzz
  go_enter Tryd.func18, Tryd.ntmps18
  go_wp2_with (first
    | ((with_reducible show wpList _ _ _ (⟨some 9, _, _, _, _, _⟩ :: _) _ _); refine wpList_load_mid rfl 23 (.tmp 3) rfl (w.heap.size + 1) 0 rfl (hC id) _ (fun j v hv => by rw [Nat.zero_add, I2.out.cell j]; simpa using hv) Tryd.underlying23 rfl Z1.out ?_)
    | (go_at_call 37; refine (place_any _ base m G H2.out HG.out id).mono ?_; rw [HV.out]; rintro e1 w1 ⟨rfl, hb1⟩; have V1 : Hid (Below w.heap.size w w1) := nxTo V2.out hb1; have H1 := Lib.hid (H2.out.later hb1); have G1 := Lib.hid (G2.out.below hb1 G2.out.lt); clear hb1))
  have hlt1 := G1.out.lt
  have BN : Hid (Blk ((w1.alloc (.cells #[.int .i64 (n : Int)] 3)).alloc (.cells #[.bool z] 4)) w1.heap.size 3 #[.int .i64 (n : Int)]) := Blk.alloc (blkNew rfl rfl) _
  have BI : Hid (Blk ((w1.alloc (.cells #[.int .i64 (n : Int)] 3)).alloc (.cells #[.bool z] 4)) (w1.heap.size + 1) 4 #[.bool z]) := blkNew (by simp) rfl
  have V3 : Hid (Below w1.heap.size w1 ((w1.alloc (.cells #[.int .i64 (n : Int)] 3)).alloc (.cells #[.bool z] 4))) := nxAlloc (nxAlloc (nxRefl w1) _) _
  generalize hW3 : ((w1.alloc (.cells #[.int .i64 (n : Int)] 3)).alloc (.cells #[.bool z] 4)) = W3 at *
  have H3 : Hid (GrOk W3 base m) := H1.out.later V3.out
  have VW : Hid (Below w.heap.size w W3) := nxTo V1.out V3.out
  have G3 : Hid (Blk W3 w.heap.size 27 #[.pointer (some ⟨m.q, 0, none⟩)]) := G1.out.below V3.out hlt1
  obtain ⟨gB, hgB⟩ : ∃ gB, w.heap.size = gB := ⟨_, rfl⟩
  obtain ⟨nB, hnB⟩ : ∃ nB, w1.heap.size = nB := ⟨_, rfl⟩
  have HB9 := Lib.hid hgB
  rw [hgB] at G3 ⊢
  rw [hnB] at BN BI ⊢
  have HGl : Hid (gB < W3.heap.size) := G3.out.lt
  have HGc : Hid (W3.cell? ⟨gB, 0, none⟩ = some (.pointer (some ⟨m.q, 0, none⟩))) := G3.out.cell 0
  have HRi : Hid (∀ w4, w4 = ((W3.drew.alloc (.cells #[.pointer (some ⟨m.q, 0, none⟩)] 27)).alloc (.cells #[.func (.func 44) #[] #[.pointer (some ⟨nB + 1, 0, none⟩), .pointer (some ⟨gB, 0, none⟩), .pointer (some ⟨nB, 0, none⟩)]] 77)) → Calls Tryd.prog 41 #[.pointer (some ⟨m.q, 0, none⟩), .func (.func 65) #[] #[.pointer (some ⟨W3.drew.heap.size, 0, none⟩), .pointer (some ⟨W3.drew.heap.size + 1, 0, none⟩)]] w4 fun e w' => (∃ A c, e = .returned (.slice A ((List.range G.length).filter (futB G z n)).length c) ∧ w'.ownsRow w4.heap.size 23 32 (.slice A ((List.range G.length).filter (futB G z n)).length c) ((List.range G.length).filter (futB G z n)).length (hsC (srtH (((List.range G.length).filter (futB G z n)).map (idG G))))) ∧ Below w4.heap.size w4 w') := by
    intro w4 hw4
    have hb4 : Below W3.heap.size W3 w4 := by rw [hw4]; exact nxAlloc (nxAlloc (nxDrew W3) _) _
    have hg4 : Blk w4 W3.drew.heap.size 27 #[.pointer (some ⟨m.q, 0, none⟩)] := by rw [hw4]; exact Blk.alloc (blkNew rfl rfl) _
    have ha4 : Blk w4 (W3.drew.heap.size + 1) 77 #[.func (.func 44) #[] #[.pointer (some ⟨nB + 1, 0, none⟩), .pointer (some ⟨gB, 0, none⟩), .pointer (some ⟨nB, 0, none⟩)]] := by rw [hw4]; exact blkNew (by simp) rfl
    refine ask_any w4 base m G (H3.out.later hb4) HG.out.toGrI0 HN.out _ _ 44 #[.pointer (some ⟨nB + 1, 0, none⟩), .pointer (some ⟨gB, 0, none⟩), .pointer (some ⟨nB, 0, none⟩)] (futB G z n) hg4.lt ha4.lt (hg4.cell 0) (ha4.cell 0) (enters_of Tryd.func44 (by kernel_rfl) rfl) (fun W1 k hb1 hk => ?_)
    have hb9 : Below W3.heap.size W3 W1 := hb4.trans (hb1.mono hb4.size)
    exact fut1_any W1 base m G (H3.out.later hb9) HG.out.toGrI0 (nB + 1) nB gB n k z hk Hn.out ((BI.out.below hb9 BI.out.lt).cell 0) ((BN.out.below hb9 BN.out.lt).cell 0) ((G3.out.below hb9 G3.out.lt).cell 0)
  clear c2 hgB hnB hW3 BN BI G1 G2 H1 H2 I2 V1 V2 V3
  refine wp_region_held_drew (S := fun W => W.cell? ⟨gB, 0, none⟩ = some (.pointer (some ⟨m.q, 0, none⟩))) (by kernel_rfl) HGc.out (fun hHeld => ?_)
  refine wpAnyH_take (i := 0) (oi := ⟨_, _, _, _, _, _⟩) (v := ?_) rfl (by kernel_rfl) (by kernel_rfl) (by kernel_rfl) (fun _ _ _ h => h) (Or.inl ⟨by rfl, ?_⟩) (by assumption) ?_
  rotate_left 1
  · intro W hSw
    try dsimp only at hSw
    have hs1 := hSw
    go_simp
    try with_reducible rfl
  try simp only [Act.put, List.setIfInBounds_toArray, List.set_cons_zero, List.set_cons_succ]
  refine wpAnyH_take (i := 1) (oi := ⟨_, _, _, _, _, _⟩) (v := ?_) rfl (by kernel_rfl) (by kernel_rfl) (by kernel_rfl) (fun _ _ _ h => h) (Or.inl ⟨by rfl, ?_⟩) (by assumption) ?_
  rotate_left 1
  · intro W hSw
    try dsimp only at hSw
    have hs1 := hSw
    go_simp
    try with_reducible rfl
  try simp only [Act.put, List.setIfInBounds_toArray, List.set_cons_zero, List.set_cons_succ]
  refine wpAnyH_take (i := 2) (oi := ⟨_, _, _, _, _, _⟩) (v := ?_) rfl (by kernel_rfl) (by kernel_rfl) (by kernel_rfl) (fun _ _ _ h => h) (Or.inl ⟨by rfl, ?_⟩) (by assumption) ?_
  rotate_left 1
  · intro W hSw
    try dsimp only at hSw
    have hs1 := hSw
    go_simp
    try with_reducible rfl
  try simp only [Act.put, List.setIfInBounds_toArray, List.set_cons_zero, List.set_cons_succ]
  refine wpAnyH_ready (rs := [3]) (by kernel_rfl) (by simp) ?_
  refine AllReadyH.cons rfl (fun K hK => ?_) AllReadyH.nil
  go_simp
  go_at_call 43
  refine (where_any _ m.q 44 #[.pointer (some ⟨nB + 1, 0, none⟩), .pointer (some ⟨gB, 0, none⟩), .pointer (some ⟨nB, 0, none⟩)]).mono ?_
  rintro e4 w4 ⟨rfl, hw4⟩
  have W4 := Lib.hid hw4
  clear hw4
  have V4 : Hid (Below W3.heap.size W3 w4) := (by rw [W4.out]; exact nxAlloc (nxAlloc (nxDrew W3) _) _)
  have C4 : Hid (w4.cell? ⟨gB, 0, none⟩ = some (.pointer (some ⟨m.q, 0, none⟩))) := (V4.out.cell (p := ⟨gB, 0, none⟩) HGl.out).trans HGc.out
  refine hK.out _ _ C4.out (fun hSn => ?_)
  clear hK K
  try simp only [Act.put, List.setIfInBounds_toArray, List.set_cons_zero, List.set_cons_succ]
  refine wpAnyH_ready (rs := [4]) (by kernel_rfl) (by simp) ?_
  refine AllReadyH.cons rfl (fun K hK => ?_) AllReadyH.nil
  go_simp
  go_at_call 41
  refine (HRi.out w4 W4.out).mono ?_
  rintro e5 w5 ⟨⟨A5, c5, rfl, ho5⟩, hb5⟩
  have O5 := Lib.hid ho5
  have V5 := Lib.hid hb5
  have C5 : Hid (w5.cell? ⟨gB, 0, none⟩ = some (.pointer (some ⟨m.q, 0, none⟩))) := (V5.out.cell (p := ⟨gB, 0, none⟩) (Nat.lt_of_lt_of_le HGl.out V4.out.size)).trans C4.out
  clear ho5 hb5
  refine hK.out _ _ C5.out (fun hSn => ?_)
  clear hK K
  try simp only [Act.put, List.setIfInBounds_toArray, List.set_cons_zero, List.set_cons_succ]
  refine wpAnyH_take (i := 5) (oi := ⟨_, _, _, _, _, _⟩) (v := ?_) rfl (by kernel_rfl) (by kernel_rfl) (by kernel_rfl) (fun _ _ _ h => h) (Or.inl ⟨by rfl, ?_⟩) (by assumption) ?_
  rotate_left 1
  · intro W hSw
    try dsimp only at hSw
    have hs1 := hSw
    go_simp
    try with_reducible rfl
  try simp only [Act.put, List.setIfInBounds_toArray, List.set_cons_zero, List.set_cons_succ]
  refine wpAnyH_done (by kernel_rfl) ?_ _
  go_wp2
  go_ret
  have hl := fltB G (futB G z n)
  have h4 := V4.out.size
  have hz : w.heap.size ≤ w4.heap.size := Nat.le_trans VW.out.size h4
  exact ⟨A5, c5, by rw [hl]; rfl, by rw [hl]; exact own_base O5.out hz, VW.out.trans ((V4.out.mono VW.out.size).trans (V5.out.mono hz))⟩
end Go.Proofs.YtndkjmmmneianaaDoor
