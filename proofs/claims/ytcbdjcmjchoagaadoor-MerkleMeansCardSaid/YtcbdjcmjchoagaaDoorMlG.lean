/-
  merkle: the walk of Collide: the path does not check. · merkle: the walk of Collide: another Count. · merkle: the walk of Collide: one Count, and the hash that stands there. · merkle: the walk of Collide: one Count, and another hash.
-/
import Derived.Test.YtcbdjcmjchoagaaDoorMkZ
import Derived.Test.YtcbdjcmjchoagaaDoorMlE
namespace Go.Proofs.YtcbdjcmjchoagaaDoor
open Go.RowKit

set_option maxHeartbeats 2000000 in
set_option maxRecDepth 100000 in
theorem coll_off (w : World) (hT : Tabs w) (id : List UInt8) (n c : Int) (A : Option Addr) (m d : Nat) (hs : List (List UInt8)) (B : Option Addr) (k f : Nat) (ids : List (List UInt8)) (hid : id.length = 32) (hm : m = hs.length) (hd : m ≤ d) (h32 : All32 hs) (hS : SeesV w w.heap.size A (Hs hs)) (hk : k = ids.length) (i32 : All32 ids) (iS : SeesV w w.heap.size B (Hs ids)) (hmax : k ≤ 1048576) (hno : checkB (rootL ids) id n c hs = false) :
    Calls Tryd.prog 22 #[.agg (By id).toArray, .agg (PathZ n c A m d), .slice B k f] w (NonePost w) := by
  have hA : Blk ((w.alloc (.cells (By id).toArray 32)).alloc (.cells (PathZ n c A m d) 25)) w.heap.size 32 (By id).toArray := (show Blk (w.alloc _) _ _ _ from heap_alloc_new w _).alloc _
  have hP : Blk ((w.alloc (.cells (By id).toArray 32)).alloc (.cells (PathZ n c A m d) 25)) (w.heap.size + 1) 25 (PathZ n c A m d) := Blk.newAt (by simp) rfl
  have hb0 : Below w.heap.size w ((w.alloc (.cells (By id).toArray 32)).alloc (.cells (PathZ n c A m d) 25)) := nxAlloc (nxAlloc (nxRefl w) _) _
  have HS : Hid (SeesV ((w.alloc (.cells (By id).toArray 32)).alloc (.cells (PathZ n c A m d) 25)) ((w.alloc (.cells (By id).toArray 32)).alloc (.cells (PathZ n c A m d) 25)).heap.size A (Hs hs)) := ((hS.alloc _).alloc _).size
  have IS : Hid (SeesV ((w.alloc (.cells (By id).toArray 32)).alloc (.cells (PathZ n c A m d) 25)) ((w.alloc (.cells (By id).toArray 32)).alloc (.cells (PathZ n c A m d) 25)).heap.size B (Hs ids)) := ((iS.alloc _).alloc _).size
  have hsz0 : w.heap.size + 2 = ((w.alloc (.cells (By id).toArray 32)).alloc (.cells (PathZ n c A m d) 25)).heap.size := by simp
  have HTb := Lib.hid (hT.later hb0)
  have HSI : Hid ((Tryd.prog.info? 32).map (·.size) = some (By id).length) := by have h := Tryd.hsizeB id hid; show _ = _; rw [h]; simp
  have HSP : Hid ((Tryd.prog.info? 25).map (·.size) = some [Value.int .i64 n, .int .i64 c, .slice A m d].length) := Tryd.psize
  have HRI := Lib.hid (blk_rng hA)
  have HRP := Lib.hid (blk_rng (vs := [Value.int .i64 n, .int .i64 c, .slice A m d]) hP)
  have Hb0 := Lib.hid hb0
  have Hs0 := Lib.hid hsz0
  have HL := Lib.hid hid
  have H32 := Lib.hid h32
  have I32 := Lib.hid i32
  have HM := Lib.hid hm
  have HK := Lib.hid hk
  have HD := Lib.hid hd
  have HMx := Lib.hid hmax
  obtain ⟨y, hy⟩ : ∃ y, rootL ids = y := ⟨_, rfl⟩
  have HY := Lib.hid hy
  have HYl : Hid (y.length = 32) := by show _ = _; rw [← hy]; exact rootL_len _
  clear hT hS iS hA hP hb0 hsz0 hid h32 i32 hm hk hd hmax
  have HCk : Hid (checkE y id n c hs = 21) := by show _ = _; rw [checkE, ← hy, hno, cond_false]
  clear hy hno
  go_enter Tryd.func22, Tryd.ntmps22
  go_wp2
  change Code.wp _ _ _ _ ((w.alloc (.cells (By id).toArray 32)).alloc (.cells (PathZ n c A m d) 25))
  generalize ((w.alloc (.cells (By id).toArray 32)).alloc (.cells (PathZ n c A m d) 25)) = W0 at *
  refine wp_region_held_drew (S := fun W => W.rangeAt w.heap.size 0 (By id) ∧ W.rangeAt (w.heap.size + 1) 0 [Value.int .i64 n, .int .i64 c, .slice A m d]) (by kernel_rfl) ⟨HRI.out, HRP.out⟩ (fun hHeld => ?_)
  refine wpAnyH_take (i := 0) (oi := ⟨_, _, _, _, _, _⟩) (v := ?_) rfl (by kernel_rfl) (by kernel_rfl) (by kernel_rfl) (fun _ _ _ h => h) (Or.inl ⟨by rfl, ?_⟩) (by assumption) ?_
  rotate_left 1
  · intro W hSw
    try dsimp only at hSw
    go_simp
    try with_reducible rfl
  try simp only [Act.put, List.setIfInBounds_toArray, List.set_cons_zero, List.set_cons_succ]
  refine wpAnyH_take (i := 2) (oi := ⟨_, _, _, _, _, _⟩) (v := .agg (By id).toArray) rfl (by kernel_rfl) (by kernel_rfl) (by kernel_rfl) (fun _ _ _ h => h) (yieldsIf_load_mid (by rfl) 32 (.tmp 3) rfl (w.heap.size) (0) rfl (By id) _ (fun W h => h.1) Tryd.underlying32 rfl HSI.out) (by assumption) ?_
  try simp only [Act.put, List.setIfInBounds_toArray, List.set_cons_zero, List.set_cons_succ]
  refine wpAnyH_take (i := 3) (oi := ⟨_, _, _, _, _, _⟩) (v := .agg ([Value.int .i64 n, .int .i64 c, .slice A m d]).toArray) rfl (by kernel_rfl) (by kernel_rfl) (by kernel_rfl) (fun _ _ _ h => h) (yieldsIf_load_mid (by rfl) 25 (.tmp 4) rfl (w.heap.size + 1) (0) rfl ([Value.int .i64 n, .int .i64 c, .slice A m d]) _ (fun W h => h.2) Tryd.underlying25 rfl HSP.out) (by assumption) ?_
  try simp only [Act.put, List.setIfInBounds_toArray, List.set_cons_zero, List.set_cons_succ]
  refine wpAnyH_ready (rs := [1]) (by kernel_rfl) (by simp) ?_
  refine AllReadyH.cons rfl (fun K hK => ?_) AllReadyH.nil
  go_simp
  go_at_call 11
  refine (root_any W0.drew (HTb.out.later (nxDr (nxRefl W0))) B k f ids HK.out I32.out (show SeesV W0.drew W0.drew.heap.size B (Hs ids) from IS.out) HMx.out).mono ?_
  rw [HY.out]
  rintro e v1 ⟨rfl, hv1⟩
  have V1 : Hid (Below W0.heap.size W0 v1) := nxUndr hv1
  clear hv1
  refine hK.out _ _ ⟨rng_below HRI.out V1.out (by have := Hs0.out; omega), rng_below HRP.out V1.out (by have := Hs0.out; omega)⟩ (fun hSn => ?_)
  clear hK K
  try simp only [Act.put, List.setIfInBounds_toArray, List.set_cons_zero, List.set_cons_succ]
  refine wpAnyH_ready (rs := [4]) (by kernel_rfl) (by simp) ?_
  refine AllReadyH.cons rfl (fun K hK => ?_) AllReadyH.nil
  go_simp
  go_at_call 18
  refine (check_any v1 (HTb.out.later V1.out) y id n c A m d hs HYl.out HL.out HM.out HD.out H32.out ((HS.out.below V1.out).size)).mono ?_
  rw [HCk.out]
  rintro e v2 ⟨rfl, hv2⟩
  have V2 : Hid (Below W0.heap.size W0 v2) := nxTo V1.out hv2
  clear hv2
  refine hK.out _ _ ⟨rng_below HRI.out V2.out (by have := Hs0.out; omega), rng_below HRP.out V2.out (by have := Hs0.out; omega)⟩ (fun hSn => ?_)
  clear hK K
  try simp only [Act.put, List.setIfInBounds_toArray, List.set_cons_zero, List.set_cons_succ]
  refine wpAnyH_take (i := 5) (oi := ⟨_, _, _, _, _, _⟩) (v := ?_) rfl (by kernel_rfl) (by kernel_rfl) (by kernel_rfl) (fun _ _ _ h => h) (Or.inl ⟨by rfl, ?_⟩) (by assumption) ?_
  rotate_left 1
  · intro W hSw
    try dsimp only at hSw
    go_simp
    try with_reducible rfl
  try simp only [Act.put, List.setIfInBounds_toArray, List.set_cons_zero, List.set_cons_succ]
  refine wpAnyH_done (by kernel_rfl) ?_ _
  go_wp2
  go_ret3
  exact ⟨nxTo Hb0.out V2.out, rfl⟩
end Go.Proofs.YtcbdjcmjchoagaaDoor
namespace Go.Proofs.YtcbdjcmjchoagaaDoor
open Go.RowKit

set_option maxHeartbeats 2000000 in
set_option maxRecDepth 100000 in
theorem coll_count (w : World) (hT : Tabs w) (id : List UInt8) (p q : Nat) (A : Option Addr) (m d : Nat) (hs : List (List UInt8)) (B : Option Addr) (k f : Nat) (ids : List (List UInt8)) (hid : id.length = 32) (hm : m = hs.length) (hd : m ≤ d) (h32 : All32 hs) (hS : SeesV w w.heap.size A (Hs hs)) (hk : k = ids.length) (i32 : All32 ids) (iS : SeesV w w.heap.size B (Hs ids)) (hmax : k ≤ 1048576) (hpq : p < q) (hq : q ≤ 1048576) (hsz : hs.length = szH p q) (hld : leadB id p q hs = rootL ids) (hne : q ≠ ids.length) :
    Calls Tryd.prog 22 #[.agg (By id).toArray, .agg (PathZ (p : Int) (q : Int) A m d), .slice B k f] w (ToldPost w) := by
  have hA : Blk ((w.alloc (.cells (By id).toArray 32)).alloc (.cells (PathZ (p : Int) (q : Int) A m d) 25)) w.heap.size 32 (By id).toArray := (show Blk (w.alloc _) _ _ _ from heap_alloc_new w _).alloc _
  have hP : Blk ((w.alloc (.cells (By id).toArray 32)).alloc (.cells (PathZ (p : Int) (q : Int) A m d) 25)) (w.heap.size + 1) 25 (PathZ (p : Int) (q : Int) A m d) := Blk.newAt (by simp) rfl
  have hb0 : Below w.heap.size w ((w.alloc (.cells (By id).toArray 32)).alloc (.cells (PathZ (p : Int) (q : Int) A m d) 25)) := nxAlloc (nxAlloc (nxRefl w) _) _
  have HS : Hid (SeesV ((w.alloc (.cells (By id).toArray 32)).alloc (.cells (PathZ (p : Int) (q : Int) A m d) 25)) ((w.alloc (.cells (By id).toArray 32)).alloc (.cells (PathZ (p : Int) (q : Int) A m d) 25)).heap.size A (Hs hs)) := ((hS.alloc _).alloc _).size
  have IS : Hid (SeesV ((w.alloc (.cells (By id).toArray 32)).alloc (.cells (PathZ (p : Int) (q : Int) A m d) 25)) ((w.alloc (.cells (By id).toArray 32)).alloc (.cells (PathZ (p : Int) (q : Int) A m d) 25)).heap.size B (Hs ids)) := ((iS.alloc _).alloc _).size
  have hsz0 : w.heap.size + 2 = ((w.alloc (.cells (By id).toArray 32)).alloc (.cells (PathZ (p : Int) (q : Int) A m d) 25)).heap.size := by simp
  have HTb := Lib.hid (hT.later hb0)
  have HSI : Hid ((Tryd.prog.info? 32).map (·.size) = some (By id).length) := by have h := Tryd.hsizeB id hid; show _ = _; rw [h]; simp
  have HSP : Hid ((Tryd.prog.info? 25).map (·.size) = some [Value.int .i64 (p : Int), .int .i64 (q : Int), .slice A m d].length) := Tryd.psize
  have HRI := Lib.hid (blk_rng hA)
  have HRP := Lib.hid (blk_rng (vs := [Value.int .i64 (p : Int), .int .i64 (q : Int), .slice A m d]) hP)
  have Hb0 := Lib.hid hb0
  have Hs0 := Lib.hid hsz0
  have HL := Lib.hid hid
  have H32 := Lib.hid h32
  have I32 := Lib.hid i32
  have HM := Lib.hid hm
  have HK := Lib.hid hk
  have HD := Lib.hid hd
  have HMx := Lib.hid hmax
  obtain ⟨y, hy⟩ : ∃ y, rootL ids = y := ⟨_, rfl⟩
  have HY := Lib.hid hy
  have HYl : Hid (y.length = 32) := by show _ = _; rw [← hy]; exact rootL_len _
  clear hT hS iS hA hP hb0 hsz0 hid h32 i32 hm hk hd hmax
  have HCk : Hid (checkE y id (p : Int) (q : Int) hs = 0) := by
    show _ = _
    have h1 : mayB (p : Int) (q : Int) hs.length = true := by
      rw [mayB, place_yes (by omega) (by omega) (by omega), Bool.true_and, Int.toNat_natCast, Int.toNat_natCast, hsz]; exact decide_eq_true rfl
    rw [checkE, checkB, h1, Bool.true_and, Int.toNat_natCast, Int.toNat_natCast, hld, ← hy, beq_self_eq_true, cond_true]
  have HQ : Hid (p < q ∧ q ≤ 1048576 ∧ hs.length = szH p q ∧ leadB id p q hs = rootL ids) := ⟨hpq, hq, hsz, hld⟩
  have HSr : Hid (hs.length = szR p q) := by show _ = _; rw [sz_eq p q hpq, hsz]
  obtain ⟨l, hl⟩ : ∃ l, le8 q ++ ldR knotB (leafB id) p q hs = l := ⟨_, rfl⟩
  obtain ⟨U, hU⟩ : ∃ U, (nmLeaf, id) :: trR (leafB id) p q hs = U := ⟨_, rfl⟩
  obtain ⟨tp, htp⟩ : ∃ tp, topR knotB (ids.map leafB) = tp := ⟨_, rfl⟩
  obtain ⟨bes, hbes⟩ : ∃ bes, besR knotB 0 (ids.map leafB) = bes := ⟨_, rfl⟩
  obtain ⟨body, hbody⟩ : ∃ body, le8 k ++ tp.flatten = body := ⟨_, rfl⟩
  have HTr : Hid (trailL id p q hs = U ++ [(nmRoot, l)]) := by show _ = _; rw [trailL, hU, hl]
  have HUl : Hid (U.length ≤ 1048577) := by show _ ≤ _; rw [← hU, List.length_cons]; have := trR_len (leafB id) p q hs; omega
  have HLl : Hid (l.length = 40) := by
    show _ = _
    rw [← hl, List.length_append, le8_len, ld_eq knotB (leafB id) p q hs hpq hsz, ldH_len _ _ _ _ (leafB_len id)]
  have HBl : Hid (body.length ≤ 40) := by show _ ≤ _; rw [← hbody, List.length_append, le8_len, ← htp]; have := top_le ids; omega
  have HUn : Hid (tagB nmRoot l ≠ tagB nmRoot body ∧ shaB (tagB nmRoot l) = shaB (tagB nmRoot body)) := by
    show _ ∧ _
    have h := root_texts (id := id) hpq hq (by rw [← HK.out]; exact HMx.out) hsz hld hne
    rw [← HK.out] at h
    rw [hl, htp, hbody] at h
    exact h
  have HT1 : Hid (tp.length ≤ 1) := by show _ ≤ _; rw [← htp]; exact topR_len1 _
  have HTp := Lib.hid htp
  have HBs := Lib.hid hbes
  have HBd := Lib.hid hbody
  have h4 : ((q : Int) == (k : Int)) = false := by rw [beq_eq_false_iff_ne]; have := HK.out; omega
  have HTl : Hid ((U ++ [(nmRoot, l)]).length = U.length + 1) := by show _ = _; simp
  have hTl1 : (U.length : Int) < (U.length : Int) + 1 := by omega
  have hTw : IntKind.i64.wrap (U.length : Int) = (U.length : Int) := by rw [IntKind.wrap_i64]; have := HUl.out; omega
  clear hy hpq hq hsz hld hl hU htp hbes hbody hne
  go_enter Tryd.func22, Tryd.ntmps22
  go_wp2
  change Code.wp _ _ _ _ ((w.alloc (.cells (By id).toArray 32)).alloc (.cells (PathZ (p : Int) (q : Int) A m d) 25))
  generalize ((w.alloc (.cells (By id).toArray 32)).alloc (.cells (PathZ (p : Int) (q : Int) A m d) 25)) = W0 at *
  refine wp_region_held_drew (S := fun W => W.rangeAt w.heap.size 0 (By id) ∧ W.rangeAt (w.heap.size + 1) 0 [Value.int .i64 (p : Int), .int .i64 (q : Int), .slice A m d]) (by kernel_rfl) ⟨HRI.out, HRP.out⟩ (fun hHeld => ?_)
  refine wpAnyH_take (i := 0) (oi := ⟨_, _, _, _, _, _⟩) (v := ?_) rfl (by kernel_rfl) (by kernel_rfl) (by kernel_rfl) (fun _ _ _ h => h) (Or.inl ⟨by rfl, ?_⟩) (by assumption) ?_
  rotate_left 1
  · intro W hSw
    try dsimp only at hSw
    go_simp
    try with_reducible rfl
  try simp only [Act.put, List.setIfInBounds_toArray, List.set_cons_zero, List.set_cons_succ]
  refine wpAnyH_take (i := 2) (oi := ⟨_, _, _, _, _, _⟩) (v := .agg (By id).toArray) rfl (by kernel_rfl) (by kernel_rfl) (by kernel_rfl) (fun _ _ _ h => h) (yieldsIf_load_mid (by rfl) 32 (.tmp 3) rfl (w.heap.size) (0) rfl (By id) _ (fun W h => h.1) Tryd.underlying32 rfl HSI.out) (by assumption) ?_
  try simp only [Act.put, List.setIfInBounds_toArray, List.set_cons_zero, List.set_cons_succ]
  refine wpAnyH_take (i := 3) (oi := ⟨_, _, _, _, _, _⟩) (v := .agg ([Value.int .i64 (p : Int), .int .i64 (q : Int), .slice A m d]).toArray) rfl (by kernel_rfl) (by kernel_rfl) (by kernel_rfl) (fun _ _ _ h => h) (yieldsIf_load_mid (by rfl) 25 (.tmp 4) rfl (w.heap.size + 1) (0) rfl ([Value.int .i64 (p : Int), .int .i64 (q : Int), .slice A m d]) _ (fun W h => h.2) Tryd.underlying25 rfl HSP.out) (by assumption) ?_
  try simp only [Act.put, List.setIfInBounds_toArray, List.set_cons_zero, List.set_cons_succ]
  refine wpAnyH_ready (rs := [1]) (by kernel_rfl) (by simp) ?_
  refine AllReadyH.cons rfl (fun K hK => ?_) AllReadyH.nil
  go_simp
  go_at_call 11
  refine (root_any W0.drew (HTb.out.later (nxDr (nxRefl W0))) B k f ids HK.out I32.out (show SeesV W0.drew W0.drew.heap.size B (Hs ids) from IS.out) HMx.out).mono ?_
  rw [HY.out]
  rintro e v1 ⟨rfl, hv1⟩
  have V1 : Hid (Below W0.heap.size W0 v1) := nxUndr hv1
  clear hv1
  refine hK.out _ _ ⟨rng_below HRI.out V1.out (by have := Hs0.out; omega), rng_below HRP.out V1.out (by have := Hs0.out; omega)⟩ (fun hSn => ?_)
  clear hK K
  try simp only [Act.put, List.setIfInBounds_toArray, List.set_cons_zero, List.set_cons_succ]
  refine wpAnyH_ready (rs := [4]) (by kernel_rfl) (by simp) ?_
  refine AllReadyH.cons rfl (fun K hK => ?_) AllReadyH.nil
  go_simp
  go_at_call 18
  refine (check_any v1 (HTb.out.later V1.out) y id (p : Int) (q : Int) A m d hs HYl.out HL.out HM.out HD.out H32.out ((HS.out.below V1.out).size)).mono ?_
  rw [HCk.out]
  rintro e v2 ⟨rfl, hv2⟩
  have V2 : Hid (Below W0.heap.size W0 v2) := nxTo V1.out hv2
  clear hv2
  refine hK.out _ _ ⟨rng_below HRI.out V2.out (by have := Hs0.out; omega), rng_below HRP.out V2.out (by have := Hs0.out; omega)⟩ (fun hSn => ?_)
  clear hK K
  try simp only [Act.put, List.setIfInBounds_toArray, List.set_cons_zero, List.set_cons_succ]
  refine wpAnyH_take (i := 5) (oi := ⟨_, _, _, _, _, _⟩) (v := ?_) rfl (by kernel_rfl) (by kernel_rfl) (by kernel_rfl) (fun _ _ _ h => h) (Or.inl ⟨by rfl, ?_⟩) (by assumption) ?_
  rotate_left 1
  · intro W hSw
    try dsimp only at hSw
    go_simp
    try with_reducible rfl
  try simp only [Act.put, List.setIfInBounds_toArray, List.set_cons_zero, List.set_cons_succ]
  refine wpAnyH_done (by kernel_rfl) ?_ _
  go_wp2_with (first
    | ((with_reducible show wpList _ _ _ (⟨some 20, _, _, _, _, _⟩ :: _) _ _); refine wpList_load_mid rfl 32 (.tmp 3) rfl w.heap.size 0 rfl (By id) _ (rng_below HRI.out V2.out (by have := Hs0.out; omega)) Tryd.underlying32 rfl HSI.out ?_)
    | ((with_reducible show wpList _ _ _ (⟨some 21, _, _, _, _, _⟩ :: _) _ _); refine wpList_load_mid rfl 25 (.tmp 4) rfl (w.heap.size + 1) 0 rfl [Value.int .i64 (p : Int), .int .i64 (q : Int), .slice A m d] _ (rng_below HRP.out V2.out (by have := Hs0.out; omega)) Tryd.underlying25 rfl HSP.out ?_)
    | (go_at_call 36; refine (trail_any v2 (HTb.out.later V2.out) id p q A m d hs HL.out HM.out HD.out HQ.out.1 HQ.out.2.1 HSr.out H32.out ((HS.out.below V2.out).size)).mono ?_; rw [HTr.out]; rintro e v3 ⟨A1, d1, vs, rb, a, rfl, hd1, hs1, hx1, hb1⟩; rw [HTl.out]; have hlt := last_text hs1 hx1; obtain ⟨b, off, Ab, cb, rfl, hbl, hrg, hcb, hsb⟩ := hlt; have V3 : Hid (Below W0.heap.size W0 v3) := nxTo V2.out hb1; have HRg := Lib.hid hrg; have HCb := Lib.hid hcb; have HSb := Lib.hid hsb; have hq0 : v3.cell? ⟨w.heap.size + 1, 0, none⟩ = some (.int .i64 (p : Int)) := (rng_below HRP.out V3.out (by have := Hs0.out; omega)) 0 _ rfl; have hq1 : v3.cell? ⟨w.heap.size + 1, 1, none⟩ = some (.int .i64 (q : Int)) := (rng_below HRP.out V3.out (by have := Hs0.out; omega)) 1 _ rfl; clear hd1 hs1 hx1 hb1 hbl hrg hcb hsb)
    | (go_at_call 29; refine (climb_any v3 (HTb.out.later V3.out) 0 B k f ids HK.out I32.out ((IS.out.below V3.out).size) HMx.out (by have := HK.out; omega)).mono ?_; rw [HTp.out, HBs.out]; rintro e v4 ⟨A2, c2, B2, d2, rfl, hc2, _, ht2, _, hs2, _, hb2⟩; have HT2 := Lib.hid ht2; have HS2 := Lib.hid hs2; have V4 : Hid (Below W0.heap.size W0 v4) := nxTo V3.out hb2; have HRg4 := Lib.hid (rng_later HRg.out hb2); have HSb4 := Lib.hid ((HSb.out.below hb2).more hb2.size); clear hc2 ht2 hs2 hb2)
    | ((with_reducible show wpList _ _ _ (⟨some 38, _, _, _, _, _⟩ :: _) _ _); refine wpList_load_mid rfl 63 (.tmp 37) rfl b (off + U.length * 2) rfl [.string nmRoot, .slice Ab l.length cb] _ HRg4.out Tryd.underlying63 rfl Tryd.txtsize ?_)
    | (go_at_call 38; (with_reducible show Calls _ _ _ v4 _); refine (whole_any v4 nmRoot nm_le.2.2 Ab _ cb l rfl HCb.out HSb4.out (by have := HLl.out; omega)).mono ?_; rintro e v5 ⟨A5, c5, rfl, hc5, hs5, hb5, hf5⟩; have C5 := Lib.hid hc5; have S5 := Lib.hid hs5; have V5 : Hid (Below W0.heap.size W0 v5) := nxTo V4.out hb5; have HS25 := Lib.hid (HS2.out.below hb5).size; clear hc5 hs5 hb5 hf5)
    | (go_at_call 32; refine (rootText_any v5 k (by have := HMx.out; omega) A2 _ c2 tp rfl HT2.out HS25.out (by have := HT1.out; omega)).mono ?_; rw [HBd.out]; rintro e v6 ⟨A6, c6, rfl, hc6, hs6, hb6⟩; have C6 := Lib.hid hc6; have S6 := Lib.hid hs6; have V6 : Hid (Below W0.heap.size W0 v6) := nxTo V5.out hb6; have S56 := Lib.hid ((S5.out.below hb6).more hb6.size); clear hc6 hs6 hb6)
    | (go_at_call 38; (with_reducible show Calls _ _ _ v6 _); refine (whole_any v6 nmRoot nm_le.2.2 A6 _ c6 body rfl C6.out S6.out (by have := HBl.out; omega)).mono ?_; rintro e v7 ⟨A7, c7, rfl, hc7, hs7, hb7, hf7⟩; have C7 := Lib.hid hc7; have S7 := Lib.hid hs7; have V7 : Hid (Below W0.heap.size W0 v7) := nxTo V6.out hb7; have S57 := Lib.hid ((S56.out.below hb7).more hb7.size); clear hc7 hs7 hb7 hf7))
  go_ret3
  exact ⟨nxTo Hb0.out V7.out, tagB nmRoot l, tagB nmRoot body, A5, A7, c5, c7, HUn.out.1, HUn.out.2, tagB_le nm_le.2.2 (by have := HLl.out; omega), tagB_le nm_le.2.2 (by have := HBl.out; omega), rfl, C5.out, C7.out, S57.out, S7.out⟩
end Go.Proofs.YtcbdjcmjchoagaaDoor
namespace Go.Proofs.YtcbdjcmjchoagaaDoor
open Go.RowKit

set_option maxHeartbeats 2000000 in
set_option maxRecDepth 100000 in
theorem coll_here (w : World) (hT : Tabs w) (id : List UInt8) (p q : Nat) (A : Option Addr) (m d : Nat) (hs : List (List UInt8)) (B : Option Addr) (k f : Nat) (ids : List (List UInt8)) (hid : id.length = 32) (hm : m = hs.length) (hd : m ≤ d) (h32 : All32 hs) (hS : SeesV w w.heap.size A (Hs hs)) (hk : k = ids.length) (i32 : All32 ids) (iS : SeesV w w.heap.size B (Hs ids)) (hmax : k ≤ 1048576) (hpq : p < q) (hq : q ≤ 1048576) (hsz : hs.length = szH p q) (hld : leadB id p q hs = rootL ids) (hqk : q = ids.length) (hpk' : p < ids.length) (hxi : ids[p] = id) :
    Calls Tryd.prog 22 #[.agg (By id).toArray, .agg (PathZ (p : Int) (q : Int) A m d), .slice B k f] w (NonePost w) := by
  have hA : Blk ((w.alloc (.cells (By id).toArray 32)).alloc (.cells (PathZ (p : Int) (q : Int) A m d) 25)) w.heap.size 32 (By id).toArray := (show Blk (w.alloc _) _ _ _ from heap_alloc_new w _).alloc _
  have hP : Blk ((w.alloc (.cells (By id).toArray 32)).alloc (.cells (PathZ (p : Int) (q : Int) A m d) 25)) (w.heap.size + 1) 25 (PathZ (p : Int) (q : Int) A m d) := Blk.newAt (by simp) rfl
  have hb0 : Below w.heap.size w ((w.alloc (.cells (By id).toArray 32)).alloc (.cells (PathZ (p : Int) (q : Int) A m d) 25)) := nxAlloc (nxAlloc (nxRefl w) _) _
  have HS : Hid (SeesV ((w.alloc (.cells (By id).toArray 32)).alloc (.cells (PathZ (p : Int) (q : Int) A m d) 25)) ((w.alloc (.cells (By id).toArray 32)).alloc (.cells (PathZ (p : Int) (q : Int) A m d) 25)).heap.size A (Hs hs)) := ((hS.alloc _).alloc _).size
  have IS : Hid (SeesV ((w.alloc (.cells (By id).toArray 32)).alloc (.cells (PathZ (p : Int) (q : Int) A m d) 25)) ((w.alloc (.cells (By id).toArray 32)).alloc (.cells (PathZ (p : Int) (q : Int) A m d) 25)).heap.size B (Hs ids)) := ((iS.alloc _).alloc _).size
  have hsz0 : w.heap.size + 2 = ((w.alloc (.cells (By id).toArray 32)).alloc (.cells (PathZ (p : Int) (q : Int) A m d) 25)).heap.size := by simp
  have HTb := Lib.hid (hT.later hb0)
  have HSI : Hid ((Tryd.prog.info? 32).map (·.size) = some (By id).length) := by have h := Tryd.hsizeB id hid; show _ = _; rw [h]; simp
  have HSP : Hid ((Tryd.prog.info? 25).map (·.size) = some [Value.int .i64 (p : Int), .int .i64 (q : Int), .slice A m d].length) := Tryd.psize
  have HRI := Lib.hid (blk_rng hA)
  have HRP := Lib.hid (blk_rng (vs := [Value.int .i64 (p : Int), .int .i64 (q : Int), .slice A m d]) hP)
  have Hb0 := Lib.hid hb0
  have Hs0 := Lib.hid hsz0
  have HL := Lib.hid hid
  have H32 := Lib.hid h32
  have I32 := Lib.hid i32
  have HM := Lib.hid hm
  have HK := Lib.hid hk
  have HD := Lib.hid hd
  have HMx := Lib.hid hmax
  obtain ⟨y, hy⟩ : ∃ y, rootL ids = y := ⟨_, rfl⟩
  have HY := Lib.hid hy
  have HYl : Hid (y.length = 32) := by show _ = _; rw [← hy]; exact rootL_len _
  clear hT hS iS hA hP hb0 hsz0 hid h32 i32 hm hk hd hmax
  have HCk : Hid (checkE y id (p : Int) (q : Int) hs = 0) := by
    show _ = _
    have h1 : mayB (p : Int) (q : Int) hs.length = true := by
      rw [mayB, place_yes (by omega) (by omega) (by omega), Bool.true_and, Int.toNat_natCast, Int.toNat_natCast, hsz]; exact decide_eq_true rfl
    rw [checkE, checkB, h1, Bool.true_and, Int.toNat_natCast, Int.toNat_natCast, hld, ← hy, beq_self_eq_true, cond_true]
  have HQ : Hid (p < q ∧ q ≤ 1048576 ∧ hs.length = szH p q ∧ leadB id p q hs = rootL ids) := ⟨hpq, hq, hsz, hld⟩
  have HSr : Hid (hs.length = szR p q) := by show _ = _; rw [sz_eq p q hpq, hsz]
  obtain ⟨T, hTr⟩ : ∃ T, trailL id p q hs = T := ⟨_, rfl⟩
  have HTr := Lib.hid hTr
  have hpk : p < ids.length := by omega
  obtain ⟨x, hx⟩ : ∃ x, ids[p] = x := ⟨_, rfl⟩
  have hxl : x.length = 32 := by rw [← hx]; exact I32.out.get hpk
  have HXl := Lib.hid hxl
  have HSX : Hid ((Tryd.prog.info? 32).map (·.size) = some (By x).length) := by have h := Tryd.hsizeB x hxl; show _ = _; rw [h]; simp
  have h4 : ((q : Int) == (k : Int)) = true := by rw [hqk, HK.out]; exact beq_self_eq_true _
  have HQk := Lib.hid hqk
  have hpi : (p : Int) < (k : Int) := by have := HK.out; omega
  have hwp : IntKind.i64.wrap (p : Int) = (p : Int) := by rw [IntKind.wrap_i64]; omega
  have heq : ∀ wq, (binOp .eql 32 (.agg (By x).toArray) (.agg (By id).toArray)).run Tryd.prog wq = .ok (.bool true) wq := fun wq => by rw [run_eql_bytes 32 32 5 Tryd.underlying32 Tryd.underlying5 Tryd.u8size x id hxl HL.out]; rw [← hx, hxi, beq_self_eq_true]
  have hrow : Hid (∃ b off, B = some ⟨b, off, none⟩ ∧ b < ((w.alloc (.cells (By id).toArray 32)).alloc (.cells (PathZ (p : Int) (q : Int) A m d) 25)).heap.size ∧ ((w.alloc (.cells (By id).toArray 32)).alloc (.cells (PathZ (p : Int) (q : Int) A m d) 25)).rangeAt b (off + p * 32) (By x)) := by
    obtain ⟨b, off, hB, hb, hr⟩ := SeesV.hash IS.out I32.out hpk
    have h := hr p hpk
    rw [hx] at h
    exact ⟨b, off, hB, hb, h⟩
  have HPk := Lib.hid hpk
  have HPk2 : Hid (p < k) := by show _ < _; rw [HK.out]; exact hpk
  have HMk : Hid (ids.length ≤ 1048576) := by rw [← HK.out]; exact HMx.out
  clear hy hpq hq hsz hld hTr hx hpk hpk' hqk hxi
  go_enter Tryd.func22, Tryd.ntmps22
  go_wp2
  change Code.wp _ _ _ _ ((w.alloc (.cells (By id).toArray 32)).alloc (.cells (PathZ (p : Int) (q : Int) A m d) 25))
  generalize ((w.alloc (.cells (By id).toArray 32)).alloc (.cells (PathZ (p : Int) (q : Int) A m d) 25)) = W0 at *
  refine wp_region_held_drew (S := fun W => W.rangeAt w.heap.size 0 (By id) ∧ W.rangeAt (w.heap.size + 1) 0 [Value.int .i64 (p : Int), .int .i64 (q : Int), .slice A m d]) (by kernel_rfl) ⟨HRI.out, HRP.out⟩ (fun hHeld => ?_)
  refine wpAnyH_take (i := 0) (oi := ⟨_, _, _, _, _, _⟩) (v := ?_) rfl (by kernel_rfl) (by kernel_rfl) (by kernel_rfl) (fun _ _ _ h => h) (Or.inl ⟨by rfl, ?_⟩) (by assumption) ?_
  rotate_left 1
  · intro W hSw
    try dsimp only at hSw
    go_simp
    try with_reducible rfl
  try simp only [Act.put, List.setIfInBounds_toArray, List.set_cons_zero, List.set_cons_succ]
  refine wpAnyH_take (i := 2) (oi := ⟨_, _, _, _, _, _⟩) (v := .agg (By id).toArray) rfl (by kernel_rfl) (by kernel_rfl) (by kernel_rfl) (fun _ _ _ h => h) (yieldsIf_load_mid (by rfl) 32 (.tmp 3) rfl (w.heap.size) (0) rfl (By id) _ (fun W h => h.1) Tryd.underlying32 rfl HSI.out) (by assumption) ?_
  try simp only [Act.put, List.setIfInBounds_toArray, List.set_cons_zero, List.set_cons_succ]
  refine wpAnyH_take (i := 3) (oi := ⟨_, _, _, _, _, _⟩) (v := .agg ([Value.int .i64 (p : Int), .int .i64 (q : Int), .slice A m d]).toArray) rfl (by kernel_rfl) (by kernel_rfl) (by kernel_rfl) (fun _ _ _ h => h) (yieldsIf_load_mid (by rfl) 25 (.tmp 4) rfl (w.heap.size + 1) (0) rfl ([Value.int .i64 (p : Int), .int .i64 (q : Int), .slice A m d]) _ (fun W h => h.2) Tryd.underlying25 rfl HSP.out) (by assumption) ?_
  try simp only [Act.put, List.setIfInBounds_toArray, List.set_cons_zero, List.set_cons_succ]
  refine wpAnyH_ready (rs := [1]) (by kernel_rfl) (by simp) ?_
  refine AllReadyH.cons rfl (fun K hK => ?_) AllReadyH.nil
  go_simp
  go_at_call 11
  refine (root_any W0.drew (HTb.out.later (nxDr (nxRefl W0))) B k f ids HK.out I32.out (show SeesV W0.drew W0.drew.heap.size B (Hs ids) from IS.out) HMx.out).mono ?_
  rw [HY.out]
  rintro e v1 ⟨rfl, hv1⟩
  have V1 : Hid (Below W0.heap.size W0 v1) := nxUndr hv1
  clear hv1
  refine hK.out _ _ ⟨rng_below HRI.out V1.out (by have := Hs0.out; omega), rng_below HRP.out V1.out (by have := Hs0.out; omega)⟩ (fun hSn => ?_)
  clear hK K
  try simp only [Act.put, List.setIfInBounds_toArray, List.set_cons_zero, List.set_cons_succ]
  refine wpAnyH_ready (rs := [4]) (by kernel_rfl) (by simp) ?_
  refine AllReadyH.cons rfl (fun K hK => ?_) AllReadyH.nil
  go_simp
  go_at_call 18
  refine (check_any v1 (HTb.out.later V1.out) y id (p : Int) (q : Int) A m d hs HYl.out HL.out HM.out HD.out H32.out ((HS.out.below V1.out).size)).mono ?_
  rw [HCk.out]
  rintro e v2 ⟨rfl, hv2⟩
  have V2 : Hid (Below W0.heap.size W0 v2) := nxTo V1.out hv2
  clear hv2
  refine hK.out _ _ ⟨rng_below HRI.out V2.out (by have := Hs0.out; omega), rng_below HRP.out V2.out (by have := Hs0.out; omega)⟩ (fun hSn => ?_)
  clear hK K
  try simp only [Act.put, List.setIfInBounds_toArray, List.set_cons_zero, List.set_cons_succ]
  refine wpAnyH_take (i := 5) (oi := ⟨_, _, _, _, _, _⟩) (v := ?_) rfl (by kernel_rfl) (by kernel_rfl) (by kernel_rfl) (fun _ _ _ h => h) (Or.inl ⟨by rfl, ?_⟩) (by assumption) ?_
  rotate_left 1
  · intro W hSw
    try dsimp only at hSw
    go_simp
    try with_reducible rfl
  try simp only [Act.put, List.setIfInBounds_toArray, List.set_cons_zero, List.set_cons_succ]
  refine wpAnyH_done (by kernel_rfl) ?_ _
  go_wp2_with (first
    | ((with_reducible show wpList _ _ _ (⟨some 20, _, _, _, _, _⟩ :: _) _ _); refine wpList_load_mid rfl 32 (.tmp 3) rfl w.heap.size 0 rfl (By id) _ (rng_below HRI.out V2.out (by have := Hs0.out; omega)) Tryd.underlying32 rfl HSI.out ?_)
    | ((with_reducible show wpList _ _ _ (⟨some 21, _, _, _, _, _⟩ :: _) _ _); refine wpList_load_mid rfl 25 (.tmp 4) rfl (w.heap.size + 1) 0 rfl [Value.int .i64 (p : Int), .int .i64 (q : Int), .slice A m d] _ (rng_below HRP.out V2.out (by have := Hs0.out; omega)) Tryd.underlying25 rfl HSP.out ?_)
    | (go_at_call 36; refine (trail_any v2 (HTb.out.later V2.out) id p q A m d hs HL.out HM.out HD.out HQ.out.1 HQ.out.2.1 HSr.out H32.out ((HS.out.below V2.out).size)).mono ?_; rw [HTr.out]; rintro e v3 ⟨A1, d1, vs, rb, a, rfl, hd1, hs1, hx1, hb1⟩; have D1 := Lib.hid hd1; have S1 := Lib.hid hs1; have X1 := Lib.hid hx1; have V3 : Hid (Below W0.heap.size W0 v3) := nxTo V2.out hb1; have hq0 : v3.cell? ⟨w.heap.size + 1, 0, none⟩ = some (.int .i64 (p : Int)) := (rng_below HRP.out V3.out (by have := Hs0.out; omega)) 0 _ rfl; have hq1 : v3.cell? ⟨w.heap.size + 1, 1, none⟩ = some (.int .i64 (q : Int)) := (rng_below HRP.out V3.out (by have := Hs0.out; omega)) 1 _ rfl; clear hd1 hs1 hx1 hb1))
  obtain ⟨b, off, rfl, hbb, hrg⟩ := hrow.out
  have HBb := Lib.hid hbb
  have HRg := Lib.hid hrg
  clear hbb hrg hrow
  refine wp_region_held_drew (S := fun W => W.cell? ⟨w.heap.size + 1, 0, none⟩ = some (.int .i64 (p : Int)) ∧ W.rangeAt b (off + p * 32) (By x) ∧ W.rangeAt w.heap.size 0 (By id)) (by kernel_rfl) ⟨hq0, rng_below HRg.out (nxDr V3.out) HBb.out, rng_below HRI.out (nxDr V3.out) (show w.heap.size < W0.heap.size by have := Hs0.out; omega)⟩ (fun hHeld => ?_)
  refine wpAnyH_take (i := 0) (oi := ⟨_, _, _, _, _, _⟩) (v := ?_) rfl (by kernel_rfl) (by kernel_rfl) (by kernel_rfl) (fun _ _ _ h => h) (Or.inl ⟨by rfl, ?_⟩) (by assumption) ?_
  rotate_left 1
  · intro W hSw
    try dsimp only at hSw
    go_simp
    try with_reducible rfl
  try simp only [Act.put, List.setIfInBounds_toArray, List.set_cons_zero, List.set_cons_succ]
  refine wpAnyH_take (i := 1) (oi := ⟨_, _, _, _, _, _⟩) (v := ?_) rfl (by kernel_rfl) (by kernel_rfl) (by kernel_rfl) (fun _ _ _ h => h) (Or.inl ⟨by rfl, ?_⟩) (by assumption) ?_
  rotate_left 1
  · intro W hSw
    try dsimp only at hSw
    go_simp
    try with_reducible rfl
  try simp only [Act.put, List.setIfInBounds_toArray, List.set_cons_zero, List.set_cons_succ]
  refine wpAnyH_take (i := 2) (oi := ⟨_, _, _, _, _, _⟩) (v := ?_) rfl (by kernel_rfl) (by kernel_rfl) (by kernel_rfl) (fun _ _ _ h => h) (Or.inl ⟨by rfl, ?_⟩) (by assumption) ?_
  rotate_left 1
  · intro W hSw
    try dsimp only at hSw
    go_simp
    try with_reducible rfl
  try simp only [Act.put, List.setIfInBounds_toArray, List.set_cons_zero, List.set_cons_succ]
  refine wpAnyH_take (i := 3) (oi := ⟨_, _, _, _, _, _⟩) (v := ?_) rfl (by kernel_rfl) (by kernel_rfl) (by kernel_rfl) (fun _ _ _ h => h) (Or.inl ⟨by rfl, ?_⟩) (by assumption) ?_
  rotate_left 1
  · intro W hSw
    try dsimp only at hSw
    go_simp
    try with_reducible rfl
  try simp only [Act.put, List.setIfInBounds_toArray, List.set_cons_zero, List.set_cons_succ]
  refine wpAnyH_take (i := 4) (oi := ⟨_, _, _, _, _, _⟩) (v := .agg (By x).toArray) rfl (by kernel_rfl) (by kernel_rfl) (by kernel_rfl) (fun _ _ _ h => h) (yieldsIf_load_mid (by rfl) 32 (.tmp 48) rfl (b) (off + p * 32) rfl (By x) _ (fun W h => h.2.1) Tryd.underlying32 rfl HSX.out) (by assumption) ?_
  try simp only [Act.put, List.setIfInBounds_toArray, List.set_cons_zero, List.set_cons_succ]
  refine wpAnyH_take (i := 5) (oi := ⟨_, _, _, _, _, _⟩) (v := .agg (By id).toArray) rfl (by kernel_rfl) (by kernel_rfl) (by kernel_rfl) (fun _ _ _ h => h) (yieldsIf_load_mid (by rfl) 32 (.tmp 3) rfl (w.heap.size) (0) rfl (By id) _ (fun W h => h.2.2) Tryd.underlying32 rfl HSI.out) (by assumption) ?_
  try simp only [Act.put, List.setIfInBounds_toArray, List.set_cons_zero, List.set_cons_succ]
  refine wpAnyH_take (i := 6) (oi := ⟨_, _, _, _, _, _⟩) (v := ?_) rfl (by kernel_rfl) (by kernel_rfl) (by kernel_rfl) (fun _ _ _ h => h) (Or.inl ⟨by rfl, ?_⟩) (by assumption) ?_
  rotate_left 1
  · intro W hSw
    try dsimp only at hSw
    go_simp
    try with_reducible rfl
  try simp only [Act.put, List.setIfInBounds_toArray, List.set_cons_zero, List.set_cons_succ]
  refine wpAnyH_done (by kernel_rfl) ?_ _
  go_wp2
  go_ret3
  exact ⟨nxTo Hb0.out (nxDr V3.out), rfl⟩
end Go.Proofs.YtcbdjcmjchoagaaDoor
namespace Go.Proofs.YtcbdjcmjchoagaaDoor
open Go.RowKit

set_option maxHeartbeats 2000000 in
set_option maxRecDepth 100000 in
theorem coll_other (w : World) (hT : Tabs w) (id : List UInt8) (p q : Nat) (A : Option Addr) (m d : Nat) (hs : List (List UInt8)) (B : Option Addr) (k f : Nat) (ids : List (List UInt8)) (hid : id.length = 32) (hm : m = hs.length) (hd : m ≤ d) (h32 : All32 hs) (hS : SeesV w w.heap.size A (Hs hs)) (hk : k = ids.length) (i32 : All32 ids) (iS : SeesV w w.heap.size B (Hs ids)) (hmax : k ≤ 1048576) (hpq : p < q) (hq : q ≤ 1048576) (hsz : hs.length = szH p q) (hld : leadB id p q hs = rootL ids) (hqk : q = ids.length) (hpk' : p < ids.length) (hxi : ids[p] ≠ id) :
    Calls Tryd.prog 22 #[.agg (By id).toArray, .agg (PathZ (p : Int) (q : Int) A m d), .slice B k f] w (ToldPost w) := by
  have hA : Blk ((w.alloc (.cells (By id).toArray 32)).alloc (.cells (PathZ (p : Int) (q : Int) A m d) 25)) w.heap.size 32 (By id).toArray := (show Blk (w.alloc _) _ _ _ from heap_alloc_new w _).alloc _
  have hP : Blk ((w.alloc (.cells (By id).toArray 32)).alloc (.cells (PathZ (p : Int) (q : Int) A m d) 25)) (w.heap.size + 1) 25 (PathZ (p : Int) (q : Int) A m d) := Blk.newAt (by simp) rfl
  have hb0 : Below w.heap.size w ((w.alloc (.cells (By id).toArray 32)).alloc (.cells (PathZ (p : Int) (q : Int) A m d) 25)) := nxAlloc (nxAlloc (nxRefl w) _) _
  have HS : Hid (SeesV ((w.alloc (.cells (By id).toArray 32)).alloc (.cells (PathZ (p : Int) (q : Int) A m d) 25)) ((w.alloc (.cells (By id).toArray 32)).alloc (.cells (PathZ (p : Int) (q : Int) A m d) 25)).heap.size A (Hs hs)) := ((hS.alloc _).alloc _).size
  have IS : Hid (SeesV ((w.alloc (.cells (By id).toArray 32)).alloc (.cells (PathZ (p : Int) (q : Int) A m d) 25)) ((w.alloc (.cells (By id).toArray 32)).alloc (.cells (PathZ (p : Int) (q : Int) A m d) 25)).heap.size B (Hs ids)) := ((iS.alloc _).alloc _).size
  have hsz0 : w.heap.size + 2 = ((w.alloc (.cells (By id).toArray 32)).alloc (.cells (PathZ (p : Int) (q : Int) A m d) 25)).heap.size := by simp
  have HTb := Lib.hid (hT.later hb0)
  have HSI : Hid ((Tryd.prog.info? 32).map (·.size) = some (By id).length) := by have h := Tryd.hsizeB id hid; show _ = _; rw [h]; simp
  have HSP : Hid ((Tryd.prog.info? 25).map (·.size) = some [Value.int .i64 (p : Int), .int .i64 (q : Int), .slice A m d].length) := Tryd.psize
  have HRI := Lib.hid (blk_rng hA)
  have HRP := Lib.hid (blk_rng (vs := [Value.int .i64 (p : Int), .int .i64 (q : Int), .slice A m d]) hP)
  have Hb0 := Lib.hid hb0
  have Hs0 := Lib.hid hsz0
  have HL := Lib.hid hid
  have H32 := Lib.hid h32
  have I32 := Lib.hid i32
  have HM := Lib.hid hm
  have HK := Lib.hid hk
  have HD := Lib.hid hd
  have HMx := Lib.hid hmax
  obtain ⟨y, hy⟩ : ∃ y, rootL ids = y := ⟨_, rfl⟩
  have HY := Lib.hid hy
  have HYl : Hid (y.length = 32) := by show _ = _; rw [← hy]; exact rootL_len _
  clear hT hS iS hA hP hb0 hsz0 hid h32 i32 hm hk hd hmax
  have HCk : Hid (checkE y id (p : Int) (q : Int) hs = 0) := by
    show _ = _
    have h1 : mayB (p : Int) (q : Int) hs.length = true := by
      rw [mayB, place_yes (by omega) (by omega) (by omega), Bool.true_and, Int.toNat_natCast, Int.toNat_natCast, hsz]; exact decide_eq_true rfl
    rw [checkE, checkB, h1, Bool.true_and, Int.toNat_natCast, Int.toNat_natCast, hld, ← hy, beq_self_eq_true, cond_true]
  have HQ : Hid (p < q ∧ q ≤ 1048576 ∧ hs.length = szH p q ∧ leadB id p q hs = rootL ids) := ⟨hpq, hq, hsz, hld⟩
  have HSr : Hid (hs.length = szR p q) := by show _ = _; rw [sz_eq p q hpq, hsz]
  obtain ⟨T, hTr⟩ : ∃ T, trailL id p q hs = T := ⟨_, rfl⟩
  have HTr := Lib.hid hTr
  have hpk : p < ids.length := by omega
  obtain ⟨x, hx⟩ : ∃ x, ids[p] = x := ⟨_, rfl⟩
  have hxl : x.length = 32 := by rw [← hx]; exact I32.out.get hpk
  have HXl := Lib.hid hxl
  have HSX : Hid ((Tryd.prog.info? 32).map (·.size) = some (By x).length) := by have h := Tryd.hsizeB x hxl; show _ = _; rw [h]; simp
  have hbl := beside_sz (n := p) (ids := ids) hpk
  obtain ⟨bs, hbs⟩ : ∃ bs, besideL p ids = bs := ⟨_, rfl⟩
  have HBs := Lib.hid hbs
  have HB32 : Hid (All32 bs) := by rw [← hbs]; exact beside_32 _ _
  have HSb : Hid (bs.length = szR p ids.length) := by show _ = _; rw [← hbs, sz_eq p _ hpk]; exact hbl
  obtain ⟨U, hUr⟩ : ∃ U, trailL x p ids.length bs = U := ⟨_, rfl⟩
  have HUr := Lib.hid hUr
  have HFt : Hid (FitT T ∧ FitT U ∧ T.length ≤ 2097152 ∧ U.length ≤ 2097152) := by
    refine ⟨?_, ?_, ?_, ?_⟩
    · rw [← hTr]; exact trail_fit HL.out hpq hsz H32.out
    · rw [← hUr]; exact trail_fit hxl hpk (by rw [← hbs]; exact hbl) HB32.out
    · rw [← hTr]; have := trail_len id p q hs; omega
    · rw [← hUr]; have := trail_len x p ids.length bs; omega
  have HUn : Hid (Unlike T U) := by
    show Unlike T U
    rw [← hTr, ← hUr, ← hqk]
    exact trail_unlike (by rw [HL.out, hxl]) (fun e => hxi (by rw [hx, e])) p q hs bs
  have HLs : Hid (∃ (i : Nat) (h1 : i < T.length) (h2 : i < U.length), hashT T[i] = hashT U[i]) := by
    obtain ⟨h1, e1⟩ := trail_last (x := id) hpq hsz
    obtain ⟨h2, e2⟩ := trail_last (x := x) (hs := bs) hpk (by rw [← hbs]; exact hbl)
    have hl := HUn.out.1
    subst hTr hUr
    refine ⟨_, h1, by omega, ?_⟩
    rw [e1, hld, ← lead_beside hpk, hx, hbs, ← e2]
    congr 1
    simp only [hl]
  have h4 : ((q : Int) == (k : Int)) = true := by rw [hqk, HK.out]; exact beq_self_eq_true _
  have HQk := Lib.hid hqk
  have hpi : (p : Int) < (k : Int) := by have := HK.out; omega
  have hwp : IntKind.i64.wrap (p : Int) = (p : Int) := by rw [IntKind.wrap_i64]; omega
  have heq : ∀ wq, (binOp .eql 32 (.agg (By x).toArray) (.agg (By id).toArray)).run Tryd.prog wq = .ok (.bool false) wq := fun wq => by rw [run_eql_bytes 32 32 5 Tryd.underlying32 Tryd.underlying5 Tryd.u8size x id hxl HL.out]; rw [beq_eq_false_iff_ne.2 (fun e => hxi (by rw [hx, e]))]
  have hrow : Hid (∃ b off, B = some ⟨b, off, none⟩ ∧ b < ((w.alloc (.cells (By id).toArray 32)).alloc (.cells (PathZ (p : Int) (q : Int) A m d) 25)).heap.size ∧ ((w.alloc (.cells (By id).toArray 32)).alloc (.cells (PathZ (p : Int) (q : Int) A m d) 25)).rangeAt b (off + p * 32) (By x)) := by
    obtain ⟨b, off, hB, hb, hr⟩ := SeesV.hash IS.out I32.out hpk
    have h := hr p hpk
    rw [hx] at h
    exact ⟨b, off, hB, hb, h⟩
  have HPk := Lib.hid hpk
  have HPk2 : Hid (p < k) := by show _ < _; rw [HK.out]; exact hpk
  have HMk : Hid (ids.length ≤ 1048576) := by rw [← HK.out]; exact HMx.out
  clear hy hpq hq hsz hld hTr hx hpk hpk' hqk hxi hbs hUr hbl
  go_enter Tryd.func22, Tryd.ntmps22
  go_wp2
  change Code.wp _ _ _ _ ((w.alloc (.cells (By id).toArray 32)).alloc (.cells (PathZ (p : Int) (q : Int) A m d) 25))
  generalize ((w.alloc (.cells (By id).toArray 32)).alloc (.cells (PathZ (p : Int) (q : Int) A m d) 25)) = W0 at *
  refine wp_region_held_drew (S := fun W => W.rangeAt w.heap.size 0 (By id) ∧ W.rangeAt (w.heap.size + 1) 0 [Value.int .i64 (p : Int), .int .i64 (q : Int), .slice A m d]) (by kernel_rfl) ⟨HRI.out, HRP.out⟩ (fun hHeld => ?_)
  refine wpAnyH_take (i := 0) (oi := ⟨_, _, _, _, _, _⟩) (v := ?_) rfl (by kernel_rfl) (by kernel_rfl) (by kernel_rfl) (fun _ _ _ h => h) (Or.inl ⟨by rfl, ?_⟩) (by assumption) ?_
  rotate_left 1
  · intro W hSw
    try dsimp only at hSw
    go_simp
    try with_reducible rfl
  try simp only [Act.put, List.setIfInBounds_toArray, List.set_cons_zero, List.set_cons_succ]
  refine wpAnyH_take (i := 2) (oi := ⟨_, _, _, _, _, _⟩) (v := .agg (By id).toArray) rfl (by kernel_rfl) (by kernel_rfl) (by kernel_rfl) (fun _ _ _ h => h) (yieldsIf_load_mid (by rfl) 32 (.tmp 3) rfl (w.heap.size) (0) rfl (By id) _ (fun W h => h.1) Tryd.underlying32 rfl HSI.out) (by assumption) ?_
  try simp only [Act.put, List.setIfInBounds_toArray, List.set_cons_zero, List.set_cons_succ]
  refine wpAnyH_take (i := 3) (oi := ⟨_, _, _, _, _, _⟩) (v := .agg ([Value.int .i64 (p : Int), .int .i64 (q : Int), .slice A m d]).toArray) rfl (by kernel_rfl) (by kernel_rfl) (by kernel_rfl) (fun _ _ _ h => h) (yieldsIf_load_mid (by rfl) 25 (.tmp 4) rfl (w.heap.size + 1) (0) rfl ([Value.int .i64 (p : Int), .int .i64 (q : Int), .slice A m d]) _ (fun W h => h.2) Tryd.underlying25 rfl HSP.out) (by assumption) ?_
  try simp only [Act.put, List.setIfInBounds_toArray, List.set_cons_zero, List.set_cons_succ]
  refine wpAnyH_ready (rs := [1]) (by kernel_rfl) (by simp) ?_
  refine AllReadyH.cons rfl (fun K hK => ?_) AllReadyH.nil
  go_simp
  go_at_call 11
  refine (root_any W0.drew (HTb.out.later (nxDr (nxRefl W0))) B k f ids HK.out I32.out (show SeesV W0.drew W0.drew.heap.size B (Hs ids) from IS.out) HMx.out).mono ?_
  rw [HY.out]
  rintro e v1 ⟨rfl, hv1⟩
  have V1 : Hid (Below W0.heap.size W0 v1) := nxUndr hv1
  clear hv1
  refine hK.out _ _ ⟨rng_below HRI.out V1.out (by have := Hs0.out; omega), rng_below HRP.out V1.out (by have := Hs0.out; omega)⟩ (fun hSn => ?_)
  clear hK K
  try simp only [Act.put, List.setIfInBounds_toArray, List.set_cons_zero, List.set_cons_succ]
  refine wpAnyH_ready (rs := [4]) (by kernel_rfl) (by simp) ?_
  refine AllReadyH.cons rfl (fun K hK => ?_) AllReadyH.nil
  go_simp
  go_at_call 18
  refine (check_any v1 (HTb.out.later V1.out) y id (p : Int) (q : Int) A m d hs HYl.out HL.out HM.out HD.out H32.out ((HS.out.below V1.out).size)).mono ?_
  rw [HCk.out]
  rintro e v2 ⟨rfl, hv2⟩
  have V2 : Hid (Below W0.heap.size W0 v2) := nxTo V1.out hv2
  clear hv2
  refine hK.out _ _ ⟨rng_below HRI.out V2.out (by have := Hs0.out; omega), rng_below HRP.out V2.out (by have := Hs0.out; omega)⟩ (fun hSn => ?_)
  clear hK K
  try simp only [Act.put, List.setIfInBounds_toArray, List.set_cons_zero, List.set_cons_succ]
  refine wpAnyH_take (i := 5) (oi := ⟨_, _, _, _, _, _⟩) (v := ?_) rfl (by kernel_rfl) (by kernel_rfl) (by kernel_rfl) (fun _ _ _ h => h) (Or.inl ⟨by rfl, ?_⟩) (by assumption) ?_
  rotate_left 1
  · intro W hSw
    try dsimp only at hSw
    go_simp
    try with_reducible rfl
  try simp only [Act.put, List.setIfInBounds_toArray, List.set_cons_zero, List.set_cons_succ]
  refine wpAnyH_done (by kernel_rfl) ?_ _
  go_wp2_with (first
    | ((with_reducible show wpList _ _ _ (⟨some 20, _, _, _, _, _⟩ :: _) _ _); refine wpList_load_mid rfl 32 (.tmp 3) rfl w.heap.size 0 rfl (By id) _ (rng_below HRI.out V2.out (by have := Hs0.out; omega)) Tryd.underlying32 rfl HSI.out ?_)
    | ((with_reducible show wpList _ _ _ (⟨some 21, _, _, _, _, _⟩ :: _) _ _); refine wpList_load_mid rfl 25 (.tmp 4) rfl (w.heap.size + 1) 0 rfl [Value.int .i64 (p : Int), .int .i64 (q : Int), .slice A m d] _ (rng_below HRP.out V2.out (by have := Hs0.out; omega)) Tryd.underlying25 rfl HSP.out ?_)
    | (go_at_call 36; refine (trail_any v2 (HTb.out.later V2.out) id p q A m d hs HL.out HM.out HD.out HQ.out.1 HQ.out.2.1 HSr.out H32.out ((HS.out.below V2.out).size)).mono ?_; rw [HTr.out]; rintro e v3 ⟨A1, d1, vs, rb, a, rfl, hd1, hs1, hx1, hb1⟩; have D1 := Lib.hid hd1; have S1 := Lib.hid hs1; have X1 := Lib.hid hx1; have V3 : Hid (Below W0.heap.size W0 v3) := nxTo V2.out hb1; have hq0 : v3.cell? ⟨w.heap.size + 1, 0, none⟩ = some (.int .i64 (p : Int)) := (rng_below HRP.out V3.out (by have := Hs0.out; omega)) 0 _ rfl; have hq1 : v3.cell? ⟨w.heap.size + 1, 1, none⟩ = some (.int .i64 (q : Int)) := (rng_below HRP.out V3.out (by have := Hs0.out; omega)) 1 _ rfl; clear hd1 hs1 hx1 hb1))
  obtain ⟨b, off, rfl, hbb, hrg⟩ := hrow.out
  have HBb := Lib.hid hbb
  have HRg := Lib.hid hrg
  clear hbb hrg hrow
  refine wp_region_held_drew (S := fun W => W.cell? ⟨w.heap.size + 1, 0, none⟩ = some (.int .i64 (p : Int)) ∧ W.rangeAt b (off + p * 32) (By x) ∧ W.rangeAt w.heap.size 0 (By id)) (by kernel_rfl) ⟨hq0, rng_below HRg.out (nxDr V3.out) HBb.out, rng_below HRI.out (nxDr V3.out) (show w.heap.size < W0.heap.size by have := Hs0.out; omega)⟩ (fun hHeld => ?_)
  refine wpAnyH_take (i := 0) (oi := ⟨_, _, _, _, _, _⟩) (v := ?_) rfl (by kernel_rfl) (by kernel_rfl) (by kernel_rfl) (fun _ _ _ h => h) (Or.inl ⟨by rfl, ?_⟩) (by assumption) ?_
  rotate_left 1
  · intro W hSw
    try dsimp only at hSw
    go_simp
    try with_reducible rfl
  try simp only [Act.put, List.setIfInBounds_toArray, List.set_cons_zero, List.set_cons_succ]
  refine wpAnyH_take (i := 1) (oi := ⟨_, _, _, _, _, _⟩) (v := ?_) rfl (by kernel_rfl) (by kernel_rfl) (by kernel_rfl) (fun _ _ _ h => h) (Or.inl ⟨by rfl, ?_⟩) (by assumption) ?_
  rotate_left 1
  · intro W hSw
    try dsimp only at hSw
    go_simp
    try with_reducible rfl
  try simp only [Act.put, List.setIfInBounds_toArray, List.set_cons_zero, List.set_cons_succ]
  refine wpAnyH_take (i := 2) (oi := ⟨_, _, _, _, _, _⟩) (v := ?_) rfl (by kernel_rfl) (by kernel_rfl) (by kernel_rfl) (fun _ _ _ h => h) (Or.inl ⟨by rfl, ?_⟩) (by assumption) ?_
  rotate_left 1
  · intro W hSw
    try dsimp only at hSw
    go_simp
    try with_reducible rfl
  try simp only [Act.put, List.setIfInBounds_toArray, List.set_cons_zero, List.set_cons_succ]
  refine wpAnyH_take (i := 3) (oi := ⟨_, _, _, _, _, _⟩) (v := ?_) rfl (by kernel_rfl) (by kernel_rfl) (by kernel_rfl) (fun _ _ _ h => h) (Or.inl ⟨by rfl, ?_⟩) (by assumption) ?_
  rotate_left 1
  · intro W hSw
    try dsimp only at hSw
    go_simp
    try with_reducible rfl
  try simp only [Act.put, List.setIfInBounds_toArray, List.set_cons_zero, List.set_cons_succ]
  refine wpAnyH_take (i := 4) (oi := ⟨_, _, _, _, _, _⟩) (v := .agg (By x).toArray) rfl (by kernel_rfl) (by kernel_rfl) (by kernel_rfl) (fun _ _ _ h => h) (yieldsIf_load_mid (by rfl) 32 (.tmp 48) rfl (b) (off + p * 32) rfl (By x) _ (fun W h => h.2.1) Tryd.underlying32 rfl HSX.out) (by assumption) ?_
  try simp only [Act.put, List.setIfInBounds_toArray, List.set_cons_zero, List.set_cons_succ]
  refine wpAnyH_take (i := 5) (oi := ⟨_, _, _, _, _, _⟩) (v := .agg (By id).toArray) rfl (by kernel_rfl) (by kernel_rfl) (by kernel_rfl) (fun _ _ _ h => h) (yieldsIf_load_mid (by rfl) 32 (.tmp 3) rfl (w.heap.size) (0) rfl (By id) _ (fun W h => h.2.2) Tryd.underlying32 rfl HSI.out) (by assumption) ?_
  try simp only [Act.put, List.setIfInBounds_toArray, List.set_cons_zero, List.set_cons_succ]
  refine wpAnyH_take (i := 6) (oi := ⟨_, _, _, _, _, _⟩) (v := ?_) rfl (by kernel_rfl) (by kernel_rfl) (by kernel_rfl) (fun _ _ _ h => h) (Or.inl ⟨by rfl, ?_⟩) (by assumption) ?_
  rotate_left 1
  · intro W hSw
    try dsimp only at hSw
    go_simp
    try with_reducible rfl
  try simp only [Act.put, List.setIfInBounds_toArray, List.set_cons_zero, List.set_cons_succ]
  refine wpAnyH_done (by kernel_rfl) ?_ _
  have hq2 : v3.drew.cell? ⟨w.heap.size + 1, 0, none⟩ = some (.int .i64 (p : Int)) := hq0
  have V3d : Hid (Below W0.heap.size W0 v3.drew) := nxDr V3.out
  go_wp2_with (first
    | (go_at_call 9; ((refine (path_any v3.drew (HTb.out.later V3d.out) p (some ⟨b, off, none⟩) k f ids HK.out HPk2.out I32.out ((IS.out.below V3d.out).size) HMx.out).mono ?_); unfold PathPost; rw [HBs.out]; rintro e v4 ⟨P2, d2, rfl, hd2, hs2, hb2⟩; have D2 := Lib.hid hd2; have S2 := Lib.hid hs2; have Vb4 : Hid (Below v3.drew.heap.size v3.drew v4) := hb2; have V4 : Hid (Below W0.heap.size W0 v4) := nxTo V3d.out hb2; have Q4 : Hid (Blk (v4.alloc (.cells (PathC 0 0 none 0 0) 25)) v4.heap.size 25 (PathC 0 0 none 0 0)) := Lib.hid (heap_alloc_new v4 _); clear hd2 hs2 hb2))
    | ((with_reducible show wpList _ _ _ (⟨none, .store 25 _ _, _, _, _, _⟩ :: _) _ _); refine wpList_store_all rfl 25 (.tmp 12) (.tmp 57) rfl v4.heap.size 25 (PathC 0 0 none 0 0) (PathC p ids.length P2 bs.length d2) rfl rfl Q4.out rfl Tryd.psize (PathC_one _ _ _ _ _) ?_; intro v5 h5 h6 h7; have R5 := Lib.hid (blk_rng (vs := [Value.int .i64 (p : Int), .int .i64 (ids.length : Int), .slice P2 bs.length d2]) h5); have hlt5 := Lib.hid h5.lt; have Vc5 : Hid (Below v4.heap.size v4 v5) := (nxAlloc (nxRefl v4) _).trans (h6.below (nxAlloc (nxRefl v4) _).size (fun k hk => by omega)); have V5 : Hid (Below W0.heap.size W0 v5) := nxTo V4.out Vc5.out; have Vd5 : Hid (Below v3.drew.heap.size v3.drew v5) := nxTo Vb4.out Vc5.out; have S25 := Lib.hid ((S2.out.below Vc5.out).size); clear h5 h6 h7))
  have hq5 : v5.cell? ⟨w.heap.size + 1, 0, none⟩ = some (.int .i64 (p : Int)) := (rng_below HRP.out V5.out (show w.heap.size + 1 < W0.heap.size by have := Hs0.out; omega)) 0 _ rfl
  obtain ⟨g5, hg5⟩ : ∃ g, v4.heap.size = g := ⟨_, rfl⟩
  rw [hg5] at R5 hlt5 ⊢
  clear hg5
  have S15 := Lib.hid ((S1.out.below (show Below v3.heap.size v3 v5 from nxUndr Vd5.out)).size)
  have X15 := Lib.hid (X1.out.later (show Below v3.heap.size v3 v5 from nxUndr Vd5.out))
  refine wp_region_held_drew (S := fun W => W.cell? ⟨w.heap.size + 1, 0, none⟩ = some (.int .i64 (p : Int)) ∧ W.rangeAt b (off + p * 32) (By x) ∧ W.rangeAt g5 0 [Value.int .i64 (p : Int), .int .i64 (ids.length : Int), .slice P2 bs.length d2]) (by kernel_rfl) ⟨hq5, rng_below HRg.out (nxDr V5.out) HBb.out, R5.out⟩ (fun hHeld => ?_)
  refine wpAnyH_take (i := 0) (oi := ⟨_, _, _, _, _, _⟩) (v := ?_) rfl (by kernel_rfl) (by kernel_rfl) (by kernel_rfl) (fun _ _ _ h => h) (Or.inl ⟨by rfl, ?_⟩) (by assumption) ?_
  rotate_left 1
  · intro W hSw
    try dsimp only at hSw
    go_simp
    try with_reducible rfl
  try simp only [Act.put, List.setIfInBounds_toArray, List.set_cons_zero, List.set_cons_succ]
  refine wpAnyH_take (i := 1) (oi := ⟨_, _, _, _, _, _⟩) (v := ?_) rfl (by kernel_rfl) (by kernel_rfl) (by kernel_rfl) (fun _ _ _ h => h) (Or.inl ⟨by rfl, ?_⟩) (by assumption) ?_
  rotate_left 1
  · intro W hSw
    try dsimp only at hSw
    go_simp
    try with_reducible rfl
  try simp only [Act.put, List.setIfInBounds_toArray, List.set_cons_zero, List.set_cons_succ]
  refine wpAnyH_take (i := 2) (oi := ⟨_, _, _, _, _, _⟩) (v := ?_) rfl (by kernel_rfl) (by kernel_rfl) (by kernel_rfl) (fun _ _ _ h => h) (Or.inl ⟨by rfl, ?_⟩) (by assumption) ?_
  rotate_left 1
  · intro W hSw
    try dsimp only at hSw
    go_simp
    try with_reducible rfl
  try simp only [Act.put, List.setIfInBounds_toArray, List.set_cons_zero, List.set_cons_succ]
  refine wpAnyH_take (i := 3) (oi := ⟨_, _, _, _, _, _⟩) (v := ?_) rfl (by kernel_rfl) (by kernel_rfl) (by kernel_rfl) (fun _ _ _ h => h) (Or.inl ⟨by rfl, ?_⟩) (by assumption) ?_
  rotate_left 1
  · intro W hSw
    try dsimp only at hSw
    go_simp
    try with_reducible rfl
  try simp only [Act.put, List.setIfInBounds_toArray, List.set_cons_zero, List.set_cons_succ]
  refine wpAnyH_take (i := 4) (oi := ⟨_, _, _, _, _, _⟩) (v := ?_) rfl (by kernel_rfl) (by kernel_rfl) (by kernel_rfl) (fun _ _ _ h => h) (Or.inl ⟨by rfl, ?_⟩) (by assumption) ?_
  rotate_left 1
  · intro W hSw
    try dsimp only at hSw
    go_simp
    try with_reducible rfl
  try simp only [Act.put, List.setIfInBounds_toArray, List.set_cons_zero, List.set_cons_succ]
  refine wpAnyH_take (i := 5) (oi := ⟨_, _, _, _, _, _⟩) (v := .agg (By x).toArray) rfl (by kernel_rfl) (by kernel_rfl) (by kernel_rfl) (fun _ _ _ h => h) (yieldsIf_load_mid (by rfl) 32 (.tmp 63) rfl (b) (off + p * 32) rfl (By x) _ (fun W h => h.2.1) Tryd.underlying32 rfl HSX.out) (by assumption) ?_
  try simp only [Act.put, List.setIfInBounds_toArray, List.set_cons_zero, List.set_cons_succ]
  refine wpAnyH_take (i := 6) (oi := ⟨_, _, _, _, _, _⟩) (v := .agg ([Value.int .i64 (p : Int), .int .i64 (ids.length : Int), .slice P2 bs.length d2]).toArray) rfl (by kernel_rfl) (by kernel_rfl) (by kernel_rfl) (fun _ _ _ h => h) (yieldsIf_load_mid (by rfl) 25 (.tmp 12) rfl (g5) (0) rfl ([Value.int .i64 (p : Int), .int .i64 (ids.length : Int), .slice P2 bs.length d2]) _ (fun W h => h.2.2) Tryd.underlying25 rfl Tryd.psize) (by assumption) ?_
  try simp only [Act.put, List.setIfInBounds_toArray, List.set_cons_zero, List.set_cons_succ]
  refine wpAnyH_ready (rs := [7]) (by kernel_rfl) (by simp) ?_
  refine AllReadyH.cons rfl (fun K hK => ?_) AllReadyH.nil
  go_simp
  go_at_call 36
  refine (trail_any v5.drew (HTb.out.later (nxDr V5.out)) x p ids.length P2 _ d2 bs HXl.out rfl D2.out HPk.out HMk.out HSb.out HB32.out (show SeesV v5.drew v5.drew.heap.size P2 (Hs bs) from S25.out)).mono ?_
  rw [HUr.out]
  rintro e v6 ⟨A6, d6, us, rb6, a6, rfl, hd6, hs6, hx6, hb6⟩
  have D6 := Lib.hid hd6
  have S6 := Lib.hid hs6
  have X6 := Lib.hid hx6
  have Ve6 : Hid (Below v5.heap.size v5 v6) := nxUndr hb6
  have V6 : Hid (Below W0.heap.size W0 v6) := nxTo V5.out Ve6.out
  clear hd6 hs6 hx6 hb6
  refine hK.out _ _ ⟨(rng_below HRP.out V6.out (show w.heap.size + 1 < W0.heap.size by have := Hs0.out; omega)) 0 _ rfl, rng_below HRg.out V6.out HBb.out, rng_below R5.out Ve6.out hlt5.out⟩ (fun hSn => ?_)
  clear hK K
  try simp only [Act.put, List.setIfInBounds_toArray, List.set_cons_zero, List.set_cons_succ]
  refine wpAnyH_ready (rs := [8]) (by kernel_rfl) (by simp) ?_
  refine AllReadyH.cons rfl (fun K hK => ?_) AllReadyH.nil
  go_simp
  go_at_call 39
  refine (meet_told v6 (HTb.out.later V6.out) A1 A6 _ d1 _ d6 T U rfl rfl D1.out D6.out vs us rb rb6 a a6 ((S15.out.below Ve6.out).size) S6.out (X15.out.later Ve6.out) X6.out HFt.out.1 HFt.out.2.1 HFt.out.2.2.1 HFt.out.2.2.2 HUn.out HLs.out).mono ?_
  rintro e v7 ⟨hb7, a7, b7, P7, Q7, x7, y7, hn7, he7, hla, hlb, rfl, hx7, hy7, hsa, hsb⟩
  have Ve7 : Hid (Below v5.heap.size v5 v7) := nxTo Ve6.out hb7
  have V7 : Hid (Below W0.heap.size W0 v7) := nxTo V5.out Ve7.out
  have E7 : Hid (a7 ≠ b7 ∧ shaB a7 = shaB b7 ∧ a7.length ≤ 20000 ∧ b7.length ≤ 20000 ∧ a7.length ≤ x7 ∧ b7.length ≤ y7 ∧ Sees v7 v7.heap.size P7 a7 ∧ Sees v7 v7.heap.size Q7 b7) := ⟨hn7, he7, hla, hlb, hx7, hy7, hsa, hsb⟩
  clear hb7 hn7 he7 hla hlb hx7 hy7 hsa hsb
  refine hK.out _ _ ⟨(rng_below HRP.out V7.out (show w.heap.size + 1 < W0.heap.size by have := Hs0.out; omega)) 0 _ rfl, rng_below HRg.out V7.out HBb.out, rng_below R5.out Ve7.out hlt5.out⟩ (fun hSn => ?_)
  clear hK K
  try simp only [Act.put, List.setIfInBounds_toArray, List.set_cons_zero, List.set_cons_succ]
  refine wpAnyH_take (i := 9) (oi := ⟨_, _, _, _, _, _⟩) (v := ?_) rfl (by kernel_rfl) (by kernel_rfl) (by kernel_rfl) (fun _ _ _ h => h) (Or.inl ⟨by rfl, ?_⟩) (by assumption) ?_
  rotate_left 1
  · intro W hSw
    try dsimp only at hSw
    go_simp
    try with_reducible rfl
  try simp only [Act.put, List.setIfInBounds_toArray, List.set_cons_zero, List.set_cons_succ]
  refine wpAnyH_take (i := 10) (oi := ⟨_, _, _, _, _, _⟩) (v := ?_) rfl (by kernel_rfl) (by kernel_rfl) (by kernel_rfl) (fun _ _ _ h => h) (Or.inl ⟨by rfl, ?_⟩) (by assumption) ?_
  rotate_left 1
  · intro W hSw
    try dsimp only at hSw
    go_simp
    try with_reducible rfl
  try simp only [Act.put, List.setIfInBounds_toArray, List.set_cons_zero, List.set_cons_succ]
  refine wpAnyH_take (i := 11) (oi := ⟨_, _, _, _, _, _⟩) (v := ?_) rfl (by kernel_rfl) (by kernel_rfl) (by kernel_rfl) (fun _ _ _ h => h) (Or.inl ⟨by rfl, ?_⟩) (by assumption) ?_
  rotate_left 1
  · intro W hSw
    try dsimp only at hSw
    go_simp
    try with_reducible rfl
  try simp only [Act.put, List.setIfInBounds_toArray, List.set_cons_zero, List.set_cons_succ]
  refine wpAnyH_take (i := 12) (oi := ⟨_, _, _, _, _, _⟩) (v := ?_) rfl (by kernel_rfl) (by kernel_rfl) (by kernel_rfl) (fun _ _ _ h => h) (Or.inl ⟨by rfl, ?_⟩) (by assumption) ?_
  rotate_left 1
  · intro W hSw
    try dsimp only at hSw
    go_simp
    try with_reducible rfl
  try simp only [Act.put, List.setIfInBounds_toArray, List.set_cons_zero, List.set_cons_succ]
  refine wpAnyH_take (i := 13) (oi := ⟨_, _, _, _, _, _⟩) (v := ?_) rfl (by kernel_rfl) (by kernel_rfl) (by kernel_rfl) (fun _ _ _ h => h) (Or.inl ⟨by rfl, ?_⟩) (by assumption) ?_
  rotate_left 1
  · intro W hSw
    try dsimp only at hSw
    go_simp
    try with_reducible rfl
  try simp only [Act.put, List.setIfInBounds_toArray, List.set_cons_zero, List.set_cons_succ]
  refine wpAnyH_take (i := 14) (oi := ⟨_, _, _, _, _, _⟩) (v := ?_) rfl (by kernel_rfl) (by kernel_rfl) (by kernel_rfl) (fun _ _ _ h => h) (Or.inl ⟨by rfl, ?_⟩) (by assumption) ?_
  rotate_left 1
  · intro W hSw
    try dsimp only at hSw
    go_simp
    try with_reducible rfl
  try simp only [Act.put, List.setIfInBounds_toArray, List.set_cons_zero, List.set_cons_succ]
  refine wpAnyH_done (by kernel_rfl) ?_ _
  go_wp2
  go_ret3
  exact ⟨nxTo Hb0.out V7.out, a7, b7, P7, Q7, x7, y7, E7.out.1, E7.out.2.1, E7.out.2.2.1, E7.out.2.2.2.1, rfl, E7.out.2.2.2.2.1, E7.out.2.2.2.2.2.1, E7.out.2.2.2.2.2.2.1, E7.out.2.2.2.2.2.2.2⟩
end Go.Proofs.YtcbdjcmjchoagaaDoor
