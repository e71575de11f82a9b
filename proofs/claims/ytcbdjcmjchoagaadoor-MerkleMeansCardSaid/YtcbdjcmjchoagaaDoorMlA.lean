/-
  MerkleChecks, the walk.
-/
import Derived.Test.YtcbdjcmjchoagaaDoorMkZ
namespace Go.Proofs.YtcbdjcmjchoagaaDoor
open Go.RowKit

theorem wpList_eql_bytes {ops : Array Oper} {rest : List Oper} {op : Oper} {a : Act} {w : World} {Q : Exit → Act → World → Prop} (hgd : op.guard = none) (x y : Operand) (ho : op.op = .binOp .eql 32 x y 32)
    (l k : List UInt8) (hl : l.length = 32) (hk : k.length = 32) (hx : a.eval x = .agg (By l).toArray) (hy : a.eval y = .agg (By k).toArray)
    (h : wpList Tryd.prog ops Q rest (a.put op.dst (.bool (l == k))) w) : wpList Tryd.prog ops Q (op :: rest) a w := by
  refine wpList_plain hgd fun _ hK => ?_
  have hg : Tryd.prog.eqGuardType Tryd.prog.depth 32 = false := by kernel_rfl
  have hq : (eqGuard .eql 32 x y (.agg (By l).toArray) (.agg (By k).toArray)).run Tryd.prog w = .ok () w := by simp [eqGuard, hg]
  unfold Oper.wp execOp
  simp only [ho, hx, hy, Sem.run_bind, Sem.run_pure, Result.andThen_ok, hq, run_eql_bytes 32 32 5 Tryd.underlying32 Tryd.underlying5 Tryd.u8size l k hl hk]
  exact hK _ _ h
theorem eql_same (l : List UInt8) (hl : l.length = 32) (wq : World) : (binOp .eql 32 (.agg (By l).toArray) (.agg (By l).toArray)).run Tryd.prog wq = .ok (.bool true) wq := by
  rw [run_eql_bytes 32 32 5 Tryd.underlying32 Tryd.underlying5 Tryd.u8size l l hl hl, beq_self_eq_true]

/-- A path that was read. -/
structure PathR where
  n : Int
  c : Int
  A : Option Addr
  d : Nat
  hs : List (List UInt8)
def PathOk (w : World) (V : PathR) : Prop := V.hs.length ≤ V.d ∧ All32 V.hs ∧ SeesV w w.heap.size V.A (Hs V.hs)

set_option maxHeartbeats 4000000 in
set_option maxRecDepth 100000 in
theorem checks_any (w : World) (hT : Tabs w) (root id : List UInt8) (n c : Int) (A : Option Addr) (m d : Nat) (hs : List (List UInt8)) (hroot : root.length = 32) (hid : id.length = 32) (hm : m = hs.length) (hd : m ≤ d) (h32 : All32 hs) (hS : SeesV w w.heap.size A (Hs hs)) :
    Calls Tryd.prog 4 #[.agg (By root).toArray, .agg (By id).toArray, .agg (PathZ n c A m d)] w (KnownPost w) := by
  have hR : Blk (((w.alloc (.cells (By root).toArray 32)).alloc (.cells (By id).toArray 32)).alloc (.cells (PathZ n c A m d) 25)) w.heap.size 32 (By root).toArray := ((show Blk (w.alloc _) _ _ _ from heap_alloc_new w _).alloc _).alloc _
  have hA : Blk (((w.alloc (.cells (By root).toArray 32)).alloc (.cells (By id).toArray 32)).alloc (.cells (PathZ n c A m d) 25)) (w.heap.size + 1) 32 (By id).toArray := Blk.alloc (Blk.newAt (by simp) rfl) _
  have hP : Blk (((w.alloc (.cells (By root).toArray 32)).alloc (.cells (By id).toArray 32)).alloc (.cells (PathZ n c A m d) 25)) (w.heap.size + 2) 25 (PathZ n c A m d) := Blk.newAt (by simp) rfl
  have hb0 : Below w.heap.size w (((w.alloc (.cells (By root).toArray 32)).alloc (.cells (By id).toArray 32)).alloc (.cells (PathZ n c A m d) 25)) := nxAlloc (nxAlloc (nxAlloc (nxRefl w) _) _) _
  have HS : Hid (SeesV (((w.alloc (.cells (By root).toArray 32)).alloc (.cells (By id).toArray 32)).alloc (.cells (PathZ n c A m d) 25)) (((w.alloc (.cells (By root).toArray 32)).alloc (.cells (By id).toArray 32)).alloc (.cells (PathZ n c A m d) 25)).heap.size A (Hs hs)) := (((hS.alloc _).alloc _).alloc _).size
  have hsz0 : w.heap.size + 3 = (((w.alloc (.cells (By root).toArray 32)).alloc (.cells (By id).toArray 32)).alloc (.cells (PathZ n c A m d) 25)).heap.size := by simp
  have HTb := Lib.hid (hT.later hb0)
  have HSR : Hid ((Tryd.prog.info? 32).map (·.size) = some (By root).length) := by have h := Tryd.hsizeB root hroot; show _ = _; rw [h]; simp
  have HSI : Hid ((Tryd.prog.info? 32).map (·.size) = some (By id).length) := by have h := Tryd.hsizeB id hid; show _ = _; rw [h]; simp
  have HSP : Hid ((Tryd.prog.info? 25).map (·.size) = some [Value.int .i64 n, .int .i64 c, .slice A m d].length) := Tryd.psize
  have hc2 : (((w.alloc (.cells (By root).toArray 32)).alloc (.cells (By id).toArray 32)).alloc (.cells (PathZ n c A m d) 25)).cell? ⟨w.heap.size + 2, 2, none⟩ = some (.slice A m d) := hP.cell 2
  have HRR := Lib.hid (blk_rng hR)
  have HRI := Lib.hid (blk_rng hA)
  have HRP := Lib.hid (blk_rng (vs := [Value.int .i64 n, .int .i64 c, .slice A m d]) hP)
  have Hb0 := Lib.hid hb0
  have Hs0 := Lib.hid hsz0
  have HLR := Lib.hid hroot
  have HL := Lib.hid hid
  have H32 := Lib.hid h32
  have HM := Lib.hid hm
  have HD := Lib.hid hd
  obtain ⟨x, hx⟩ : ∃ x, leadV id n c hs = x := ⟨_, rfl⟩
  obtain ⟨z, hz⟩ : ∃ z, checkE root id n c hs = z := ⟨_, rfl⟩
  have HX := Lib.hid hx
  have HCk := Lib.hid hz
  have hxl : x.length = 32 := by rw [← hx]; exact leadV_len _ _ _ _
  have HXl := Lib.hid hxl
  have HZx := Lib.hid (Tryd.hsizeB x hxl)
  have HSX : Hid ((Tryd.prog.info? 32).map (·.size) = some (By x).length) := by have h := Tryd.hsizeB x hxl; show _ = _; rw [h]; simp
  clear hT hS hR hA hP hb0 hsz0 hroot hid h32 hm hd hz
  by_cases hbig : (100 : Int) < (m : Int)
  · clear hx hxl
    go_enter Tryd.func4, Tryd.ntmps4
    go_wp2_with (go_at_call 8; ((refine (known_any _ HTb.out).mono ?_); rintro e w' ⟨rfl, hb⟩))
    go_ret
    exact ⟨rfl, nxTo Hb0.out hb⟩
  · cases hmay : mayB n c m with
    | false =>
      have HE : Hid (leadE n c m = 21) := by show _ = _; rw [leadE, hmay, cond_false]
      have HMay := Lib.hid hmay
      have HXz : Hid ((x == zero32) = true) := by show _ = _; rw [← hx, leadV, ← HM.out, hmay, cond_false]; exact beq_self_eq_true _
      clear hmay hx hxl
      go_enter Tryd.func4, Tryd.ntmps4
      go_wp2_with (first
        | ((with_reducible show wpList _ _ _ (⟨some 15, _, _, _, _, _⟩ :: _) _ _); change wpList _ _ _ _ _ (((w.alloc (.cells (By root).toArray 32)).alloc (.cells (By id).toArray 32)).alloc (.cells (PathZ n c A m d) 25)); refine wpList_load_mid rfl 32 (.tmp 4) rfl (w.heap.size + 1) 0 rfl (By id) _ HRI.out Tryd.underlying32 rfl HSI.out ?_)
        | ((with_reducible show wpList _ _ _ (⟨some 16, _, _, _, _, _⟩ :: _) _ _); change wpList _ _ _ _ _ (((w.alloc (.cells (By root).toArray 32)).alloc (.cells (By id).toArray 32)).alloc (.cells (PathZ n c A m d) 25)); refine wpList_load_mid rfl 25 (.tmp 5) rfl (w.heap.size + 2) 0 rfl [Value.int .i64 n, .int .i64 c, .slice A m d] _ HRP.out Tryd.underlying25 rfl HSP.out ?_)
        | (go_at_call 17; refine (lead_any (((w.alloc (.cells (By root).toArray 32)).alloc (.cells (By id).toArray 32)).alloc (.cells (PathZ n c A m d) 25)) HTb.out id n c A m d hs HL.out HM.out HD.out H32.out HS.out).mono ?_; rw [HX.out, HE.out]; rintro e w4 ⟨rfl, hb4⟩; have Hb4 := Lib.hid hb4; clear hb4)
        | ((with_reducible show wpList _ _ _ (⟨none, .store 32 (.tmp 7) _, _, _, _, _⟩ :: _) _ _); change wpList _ _ _ _ _ (w4.alloc (.cells (By zero32).toArray 32)); refine wpList_store_all rfl 32 (.tmp 7) (.tmp 18) rfl w4.heap.size 32 (By zero32).toArray (By x).toArray rfl rfl (heap_alloc_new w4 _) (by rw [List.size_toArray, List.size_toArray, By_length, By_length, HXl.out]; rfl) HZx.out (By_one _) ?_; intro w5 h5 h6 h7; have X5 := Lib.hid (blk_rng h5); have hlt5 := h5.lt; have Hc5 : Hid (Below w4.heap.size w4 w5) := (nxAlloc (nxRefl w4) _).trans (h6.below (nxAlloc (nxRefl w4) _).size (fun k hk => by omega)); have Hd5 := Lib.hid (nxTo Hb4.out Hc5.out); have Hb5 := Lib.hid (nxTo Hb0.out Hd5.out); have R5 := Lib.hid (rng_below HRR.out Hd5.out (by have := Hs0.out; omega)); have I5 := Lib.hid (rng_below HRI.out Hd5.out (by have := Hs0.out; omega)); have P5 := Lib.hid (rng_below HRP.out Hd5.out (by have := Hs0.out; omega)); have S5 := Lib.hid (HS.out.below Hd5.out).size; have HT5 := Lib.hid (HTb.out.later Hd5.out); have Hz5 : Hid (w.heap.size + 3 ≤ w5.heap.size ∧ w4.heap.size < w5.heap.size) := (by have h8 := Hd5.out.size; have h9 := Hs0.out; exact ⟨by omega, hlt5⟩); clear h5 h6 h7 hlt5))
      clear HRR HRI HRP Hc5 Hb4 HS
      obtain ⟨g7, hg7⟩ : ∃ g, w4.heap.size = g := ⟨_, rfl⟩
      rw [hg7] at X5 Hz5 ⊢
      clear hg7
      refine wp_region_held_drew (S := fun W => W.rangeAt w.heap.size 0 (By root) ∧ W.rangeAt (w.heap.size + 1) 0 (By id) ∧ W.rangeAt (w.heap.size + 2) 0 [Value.int .i64 n, .int .i64 c, .slice A m d]) (by kernel_rfl) ⟨R5.out, I5.out, P5.out⟩ (fun hHeld => ?_)
      refine wpAnyH_take (i := 0) (oi := ⟨_, _, _, _, _, _⟩) (v := .agg (By root).toArray) rfl (by kernel_rfl) (by kernel_rfl) (by kernel_rfl) (fun _ _ _ h => h) (yieldsIf_load_mid (by rfl) 32 (.tmp 3) rfl (w.heap.size) (0) rfl (By root) _ (fun W h => h.1) Tryd.underlying32 rfl HSR.out) (by assumption) ?_
      try simp only [Act.put, List.setIfInBounds_toArray, List.set_cons_zero, List.set_cons_succ]
      refine wpAnyH_take (i := 1) (oi := ⟨_, _, _, _, _, _⟩) (v := .agg (By id).toArray) rfl (by kernel_rfl) (by kernel_rfl) (by kernel_rfl) (fun _ _ _ h => h) (yieldsIf_load_mid (by rfl) 32 (.tmp 4) rfl (w.heap.size + 1) (0) rfl (By id) _ (fun W h => h.2.1) Tryd.underlying32 rfl HSI.out) (by assumption) ?_
      try simp only [Act.put, List.setIfInBounds_toArray, List.set_cons_zero, List.set_cons_succ]
      refine wpAnyH_take (i := 2) (oi := ⟨_, _, _, _, _, _⟩) (v := .agg ([Value.int .i64 n, .int .i64 c, .slice A m d]).toArray) rfl (by kernel_rfl) (by kernel_rfl) (by kernel_rfl) (fun _ _ _ h => h) (yieldsIf_load_mid (by rfl) 25 (.tmp 5) rfl (w.heap.size + 2) (0) rfl ([Value.int .i64 n, .int .i64 c, .slice A m d]) _ (fun W h => h.2.2) Tryd.underlying25 rfl HSP.out) (by assumption) ?_
      try simp only [Act.put, List.setIfInBounds_toArray, List.set_cons_zero, List.set_cons_succ]
      refine wpAnyH_take (i := 5) (oi := ⟨_, _, _, _, _, _⟩) (v := .agg (By root).toArray) rfl (by kernel_rfl) (by kernel_rfl) (by kernel_rfl) (fun _ _ _ h => h) (yieldsIf_load_mid (by rfl) 32 (.tmp 3) rfl (w.heap.size) (0) rfl (By root) _ (fun W h => h.1) Tryd.underlying32 rfl HSR.out) (by assumption) ?_
      try simp only [Act.put, List.setIfInBounds_toArray, List.set_cons_zero, List.set_cons_succ]
      refine wpAnyH_take (i := 6) (oi := ⟨_, _, _, _, _, _⟩) (v := .agg (By id).toArray) rfl (by kernel_rfl) (by kernel_rfl) (by kernel_rfl) (fun _ _ _ h => h) (yieldsIf_load_mid (by rfl) 32 (.tmp 4) rfl (w.heap.size + 1) (0) rfl (By id) _ (fun W h => h.2.1) Tryd.underlying32 rfl HSI.out) (by assumption) ?_
      try simp only [Act.put, List.setIfInBounds_toArray, List.set_cons_zero, List.set_cons_succ]
      refine wpAnyH_take (i := 7) (oi := ⟨_, _, _, _, _, _⟩) (v := .agg ([Value.int .i64 n, .int .i64 c, .slice A m d]).toArray) rfl (by kernel_rfl) (by kernel_rfl) (by kernel_rfl) (fun _ _ _ h => h) (yieldsIf_load_mid (by rfl) 25 (.tmp 5) rfl (w.heap.size + 2) (0) rfl ([Value.int .i64 n, .int .i64 c, .slice A m d]) _ (fun W h => h.2.2) Tryd.underlying25 rfl HSP.out) (by assumption) ?_
      try simp only [Act.put, List.setIfInBounds_toArray, List.set_cons_zero, List.set_cons_succ]
      refine wpAnyH_ready (rs := [3]) (by kernel_rfl) (by simp) ?_
      refine AllReadyH.cons rfl (fun K hK => ?_) AllReadyH.nil
      go_simp
      go_at_call 18
      refine (check_any w5.drew (HT5.out.later (nxDr (nxRefl w5))) root id n c A m d hs HLR.out HL.out HM.out HD.out H32.out (show SeesV w5.drew w5.drew.heap.size A (Hs hs) from S5.out)).mono ?_
      rw [HCk.out]
      rintro e v1 ⟨rfl, hbq⟩
      have Hr101 : Hid (Below w5.heap.size w5 v1) := nxUndr hbq
      clear hbq
      refine hK.out _ _ ⟨rng_below R5.out Hr101.out (by have := Hz5.out; omega), rng_below I5.out Hr101.out (by have := Hz5.out; omega), rng_below P5.out Hr101.out (by have := Hz5.out; omega)⟩ (fun hSn => ?_)
      clear hK K
      try simp only [Act.put, List.setIfInBounds_toArray, List.set_cons_zero, List.set_cons_succ]
      refine wpAnyH_ready (rs := [4]) (by kernel_rfl) (by simp) ?_
      refine AllReadyH.cons rfl (fun K hK => ?_) AllReadyH.nil
      go_simp
      go_at_call 13
      refine (num_any v1 z).mono ?_
      rintro e v2 ⟨rfl, hwq⟩
      obtain rfl := hwq.symm
      refine hK.out _ _ ⟨rng_below R5.out Hr101.out (by have := Hz5.out; omega), rng_below I5.out Hr101.out (by have := Hz5.out; omega), rng_below P5.out Hr101.out (by have := Hz5.out; omega)⟩ (fun hSn => ?_)
      clear hK K
      try simp only [Act.put, List.setIfInBounds_toArray, List.set_cons_zero, List.set_cons_succ]
      refine wpAnyH_ready (rs := [8]) (by kernel_rfl) (by simp) ?_
      refine AllReadyH.cons rfl (fun K hK => ?_) AllReadyH.nil
      go_simp
      go_at_call 19
      refine (rcheck_any v1 root id n c A m d hs HLR.out HL.out HM.out HD.out H32.out (S5.out.below Hr101.out).size).mono ?_
      rw [HCk.out]
      rintro e v3 ⟨rfl, hbq⟩
      have Hr103 : Hid (Below w5.heap.size w5 v3) := nxTo Hr101.out hbq
      clear hbq
      refine hK.out _ _ ⟨rng_below R5.out Hr103.out (by have := Hz5.out; omega), rng_below I5.out Hr103.out (by have := Hz5.out; omega), rng_below P5.out Hr103.out (by have := Hz5.out; omega)⟩ (fun hSn => ?_)
      clear hK K
      try simp only [Act.put, List.setIfInBounds_toArray, List.set_cons_zero, List.set_cons_succ]
      refine wpAnyH_take (i := 9) (oi := ⟨_, _, _, _, _, _⟩) (v := ?_) rfl (by kernel_rfl) (by kernel_rfl) (by kernel_rfl) (fun _ _ _ h => h) (Or.inl ⟨by rfl, ?_⟩) (by assumption) ?_
      rotate_left 1
      · intro W hSw
        try dsimp only at hSw
        go_simp
        try with_reducible rfl
      try simp only [Act.put, List.setIfInBounds_toArray, List.set_cons_zero, List.set_cons_succ]
      refine wpAnyH_done (by kernel_rfl) ?_ _
      go_wp2_with (first
        | ((with_reducible show wpList _ _ _ (⟨some 30, _, _, _, _, _⟩ :: _) _ _); refine wpList_load_mid rfl 25 (.tmp 5) rfl (w.heap.size + 2) 0 rfl [Value.int .i64 n, .int .i64 c, .slice A m d] _ (rng_below P5.out Hr103.out (by have := Hz5.out; omega)) Tryd.underlying25 rfl HSP.out ?_)
        | (go_at_call 20; refine (may_any _ n c A m d).mono ?_; rw [HMay.out]; rintro e u6 ⟨rfl, hb6⟩; have Hu6 : Hid (Below w5.heap.size w5 u6) := nxTo Hr103.out hb6; clear hb6)
        | ((with_reducible show wpList _ _ _ (⟨some 33, _, _, _, _, _⟩ :: _) _ _); refine wpList_load_mid rfl 32 (.tmp 7) rfl g7 0 rfl (By x) _ (rng_below X5.out Hu6.out Hz5.out.2) Tryd.underlying32 rfl HSX.out ?_)
        | ((with_reducible show wpList _ _ _ (⟨some 35, _, _, _, _, _⟩ :: _) _ _); refine wpList_eql_bytes rfl (.tmp 33) (.tmp 34) rfl x zero32 HXl.out rfl rfl rfl ?_; rw [HXz.out])
        | (go_at_call 13; ((refine (num_any _ _).mono ?_); rintro e w' ⟨rfl, hw'⟩; subst hw'))
        | (go_at_call 8; ((refine (known_any _ (HT5.out.later Hu6.out)).mono ?_); rintro e w7 ⟨rfl, hb7⟩; have Hu7 : Hid (Below w5.heap.size w5 w7) := nxTo Hu6.out hb7; clear hb7)))
      go_ret
      exact ⟨rfl, nxTo Hb5.out Hu7.out⟩
    | true =>
      obtain ⟨⟨h0, h1, h2⟩, h3⟩ := may_of hmay
      obtain ⟨p, rfl⟩ : ∃ p : Nat, n = p := ⟨n.toNat, by omega⟩
      obtain ⟨q, rfl⟩ : ∃ q : Nat, c = q := ⟨c.toNat, by omega⟩
      have HE : Hid (leadE (p : Int) (q : Int) m = 0) := by show _ = _; rw [leadE, hmay, cond_true]
      have HMay := Lib.hid hmay
      have HXb : Hid (leadB id p q hs = x) := by show _ = _; rw [← hx, leadV, ← HM.out, hmay, cond_true, Int.toNat_natCast, Int.toNat_natCast]
      have HQ : Hid (p < q ∧ q ≤ 1048576 ∧ hs.length = szH p q) := by
        show _ ∧ _ ∧ _
        refine ⟨by omega, by omega, ?_⟩
        rw [← HM.out, h3, Int.toNat_natCast, Int.toNat_natCast]
      have heq := eql_same x hxl
      clear hmay hx hxl h0 h1 h2 h3
      go_enter Tryd.func4, Tryd.ntmps4
      go_wp2_with (first
        | ((with_reducible show wpList _ _ _ (⟨some 15, _, _, _, _, _⟩ :: _) _ _); change wpList _ _ _ _ _ (((w.alloc (.cells (By root).toArray 32)).alloc (.cells (By id).toArray 32)).alloc (.cells (PathZ (p : Int) (q : Int) A m d) 25)); refine wpList_load_mid rfl 32 (.tmp 4) rfl (w.heap.size + 1) 0 rfl (By id) _ HRI.out Tryd.underlying32 rfl HSI.out ?_)
        | ((with_reducible show wpList _ _ _ (⟨some 16, _, _, _, _, _⟩ :: _) _ _); change wpList _ _ _ _ _ (((w.alloc (.cells (By root).toArray 32)).alloc (.cells (By id).toArray 32)).alloc (.cells (PathZ (p : Int) (q : Int) A m d) 25)); refine wpList_load_mid rfl 25 (.tmp 5) rfl (w.heap.size + 2) 0 rfl [Value.int .i64 (p : Int), .int .i64 (q : Int), .slice A m d] _ HRP.out Tryd.underlying25 rfl HSP.out ?_)
        | (go_at_call 17; refine (lead_any (((w.alloc (.cells (By root).toArray 32)).alloc (.cells (By id).toArray 32)).alloc (.cells (PathZ (p : Int) (q : Int) A m d) 25)) HTb.out id (p : Int) (q : Int) A m d hs HL.out HM.out HD.out H32.out HS.out).mono ?_; rw [HX.out, HE.out]; rintro e w4 ⟨rfl, hb4⟩; have Hb4 := Lib.hid hb4; clear hb4)
        | ((with_reducible show wpList _ _ _ (⟨none, .store 32 (.tmp 7) _, _, _, _, _⟩ :: _) _ _); change wpList _ _ _ _ _ (w4.alloc (.cells (By zero32).toArray 32)); refine wpList_store_all rfl 32 (.tmp 7) (.tmp 18) rfl w4.heap.size 32 (By zero32).toArray (By x).toArray rfl rfl (heap_alloc_new w4 _) (by rw [List.size_toArray, List.size_toArray, By_length, By_length, HXl.out]; rfl) HZx.out (By_one _) ?_; intro w5 h5 h6 h7; have X5 := Lib.hid (blk_rng h5); have hlt5 := h5.lt; have Hc5 : Hid (Below w4.heap.size w4 w5) := (nxAlloc (nxRefl w4) _).trans (h6.below (nxAlloc (nxRefl w4) _).size (fun k hk => by omega)); have Hd5 := Lib.hid (nxTo Hb4.out Hc5.out); have Hb5 := Lib.hid (nxTo Hb0.out Hd5.out); have R5 := Lib.hid (rng_below HRR.out Hd5.out (by have := Hs0.out; omega)); have I5 := Lib.hid (rng_below HRI.out Hd5.out (by have := Hs0.out; omega)); have P5 := Lib.hid (rng_below HRP.out Hd5.out (by have := Hs0.out; omega)); have S5 := Lib.hid (HS.out.below Hd5.out).size; have HT5 := Lib.hid (HTb.out.later Hd5.out); have Hz5 : Hid (w.heap.size + 3 ≤ w5.heap.size ∧ w4.heap.size < w5.heap.size) := (by have h8 := Hd5.out.size; have h9 := Hs0.out; exact ⟨by omega, hlt5⟩); clear h5 h6 h7 hlt5))
      clear HRR HRI HRP Hc5 Hb4 HS
      obtain ⟨g7, hg7⟩ : ∃ g, w4.heap.size = g := ⟨_, rfl⟩
      rw [hg7] at X5 Hz5 ⊢
      clear hg7
      refine wp_region_held_drew (S := fun W => W.rangeAt w.heap.size 0 (By root) ∧ W.rangeAt (w.heap.size + 1) 0 (By id) ∧ W.rangeAt (w.heap.size + 2) 0 [Value.int .i64 (p : Int), .int .i64 (q : Int), .slice A m d]) (by kernel_rfl) ⟨R5.out, I5.out, P5.out⟩ (fun hHeld => ?_)
      refine wpAnyH_take (i := 0) (oi := ⟨_, _, _, _, _, _⟩) (v := .agg (By root).toArray) rfl (by kernel_rfl) (by kernel_rfl) (by kernel_rfl) (fun _ _ _ h => h) (yieldsIf_load_mid (by rfl) 32 (.tmp 3) rfl (w.heap.size) (0) rfl (By root) _ (fun W h => h.1) Tryd.underlying32 rfl HSR.out) (by assumption) ?_
      try simp only [Act.put, List.setIfInBounds_toArray, List.set_cons_zero, List.set_cons_succ]
      refine wpAnyH_take (i := 1) (oi := ⟨_, _, _, _, _, _⟩) (v := .agg (By id).toArray) rfl (by kernel_rfl) (by kernel_rfl) (by kernel_rfl) (fun _ _ _ h => h) (yieldsIf_load_mid (by rfl) 32 (.tmp 4) rfl (w.heap.size + 1) (0) rfl (By id) _ (fun W h => h.2.1) Tryd.underlying32 rfl HSI.out) (by assumption) ?_
      try simp only [Act.put, List.setIfInBounds_toArray, List.set_cons_zero, List.set_cons_succ]
      refine wpAnyH_take (i := 2) (oi := ⟨_, _, _, _, _, _⟩) (v := .agg ([Value.int .i64 (p : Int), .int .i64 (q : Int), .slice A m d]).toArray) rfl (by kernel_rfl) (by kernel_rfl) (by kernel_rfl) (fun _ _ _ h => h) (yieldsIf_load_mid (by rfl) 25 (.tmp 5) rfl (w.heap.size + 2) (0) rfl ([Value.int .i64 (p : Int), .int .i64 (q : Int), .slice A m d]) _ (fun W h => h.2.2) Tryd.underlying25 rfl HSP.out) (by assumption) ?_
      try simp only [Act.put, List.setIfInBounds_toArray, List.set_cons_zero, List.set_cons_succ]
      refine wpAnyH_take (i := 5) (oi := ⟨_, _, _, _, _, _⟩) (v := .agg (By root).toArray) rfl (by kernel_rfl) (by kernel_rfl) (by kernel_rfl) (fun _ _ _ h => h) (yieldsIf_load_mid (by rfl) 32 (.tmp 3) rfl (w.heap.size) (0) rfl (By root) _ (fun W h => h.1) Tryd.underlying32 rfl HSR.out) (by assumption) ?_
      try simp only [Act.put, List.setIfInBounds_toArray, List.set_cons_zero, List.set_cons_succ]
      refine wpAnyH_take (i := 6) (oi := ⟨_, _, _, _, _, _⟩) (v := .agg (By id).toArray) rfl (by kernel_rfl) (by kernel_rfl) (by kernel_rfl) (fun _ _ _ h => h) (yieldsIf_load_mid (by rfl) 32 (.tmp 4) rfl (w.heap.size + 1) (0) rfl (By id) _ (fun W h => h.2.1) Tryd.underlying32 rfl HSI.out) (by assumption) ?_
      try simp only [Act.put, List.setIfInBounds_toArray, List.set_cons_zero, List.set_cons_succ]
      refine wpAnyH_take (i := 7) (oi := ⟨_, _, _, _, _, _⟩) (v := .agg ([Value.int .i64 (p : Int), .int .i64 (q : Int), .slice A m d]).toArray) rfl (by kernel_rfl) (by kernel_rfl) (by kernel_rfl) (fun _ _ _ h => h) (yieldsIf_load_mid (by rfl) 25 (.tmp 5) rfl (w.heap.size + 2) (0) rfl ([Value.int .i64 (p : Int), .int .i64 (q : Int), .slice A m d]) _ (fun W h => h.2.2) Tryd.underlying25 rfl HSP.out) (by assumption) ?_
      try simp only [Act.put, List.setIfInBounds_toArray, List.set_cons_zero, List.set_cons_succ]
      refine wpAnyH_ready (rs := [3]) (by kernel_rfl) (by simp) ?_
      refine AllReadyH.cons rfl (fun K hK => ?_) AllReadyH.nil
      go_simp
      go_at_call 18
      refine (check_any w5.drew (HT5.out.later (nxDr (nxRefl w5))) root id (p : Int) (q : Int) A m d hs HLR.out HL.out HM.out HD.out H32.out (show SeesV w5.drew w5.drew.heap.size A (Hs hs) from S5.out)).mono ?_
      rw [HCk.out]
      rintro e v1 ⟨rfl, hbq⟩
      have Hr101 : Hid (Below w5.heap.size w5 v1) := nxUndr hbq
      clear hbq
      refine hK.out _ _ ⟨rng_below R5.out Hr101.out (by have := Hz5.out; omega), rng_below I5.out Hr101.out (by have := Hz5.out; omega), rng_below P5.out Hr101.out (by have := Hz5.out; omega)⟩ (fun hSn => ?_)
      clear hK K
      try simp only [Act.put, List.setIfInBounds_toArray, List.set_cons_zero, List.set_cons_succ]
      refine wpAnyH_ready (rs := [4]) (by kernel_rfl) (by simp) ?_
      refine AllReadyH.cons rfl (fun K hK => ?_) AllReadyH.nil
      go_simp
      go_at_call 13
      refine (num_any v1 z).mono ?_
      rintro e v2 ⟨rfl, hwq⟩
      obtain rfl := hwq.symm
      refine hK.out _ _ ⟨rng_below R5.out Hr101.out (by have := Hz5.out; omega), rng_below I5.out Hr101.out (by have := Hz5.out; omega), rng_below P5.out Hr101.out (by have := Hz5.out; omega)⟩ (fun hSn => ?_)
      clear hK K
      try simp only [Act.put, List.setIfInBounds_toArray, List.set_cons_zero, List.set_cons_succ]
      refine wpAnyH_ready (rs := [8]) (by kernel_rfl) (by simp) ?_
      refine AllReadyH.cons rfl (fun K hK => ?_) AllReadyH.nil
      go_simp
      go_at_call 19
      refine (rcheck_any v1 root id (p : Int) (q : Int) A m d hs HLR.out HL.out HM.out HD.out H32.out (S5.out.below Hr101.out).size).mono ?_
      rw [HCk.out]
      rintro e v3 ⟨rfl, hbq⟩
      have Hr103 : Hid (Below w5.heap.size w5 v3) := nxTo Hr101.out hbq
      clear hbq
      refine hK.out _ _ ⟨rng_below R5.out Hr103.out (by have := Hz5.out; omega), rng_below I5.out Hr103.out (by have := Hz5.out; omega), rng_below P5.out Hr103.out (by have := Hz5.out; omega)⟩ (fun hSn => ?_)
      clear hK K
      try simp only [Act.put, List.setIfInBounds_toArray, List.set_cons_zero, List.set_cons_succ]
      refine wpAnyH_take (i := 9) (oi := ⟨_, _, _, _, _, _⟩) (v := ?_) rfl (by kernel_rfl) (by kernel_rfl) (by kernel_rfl) (fun _ _ _ h => h) (Or.inl ⟨by rfl, ?_⟩) (by assumption) ?_
      rotate_left 1
      · intro W hSw
        try dsimp only at hSw
        go_simp
        try with_reducible rfl
      try simp only [Act.put, List.setIfInBounds_toArray, List.set_cons_zero, List.set_cons_succ]
      refine wpAnyH_done (by kernel_rfl) ?_ _
      go_wp2_with (first
        | ((with_reducible show wpList _ _ _ (⟨some 30, _, _, _, _, _⟩ :: _) _ _); refine wpList_load_mid rfl 25 (.tmp 5) rfl (w.heap.size + 2) 0 rfl [Value.int .i64 (p : Int), .int .i64 (q : Int), .slice A m d] _ (rng_below P5.out Hr103.out (by have := Hz5.out; omega)) Tryd.underlying25 rfl HSP.out ?_)
        | (go_at_call 20; refine (may_any _ (p : Int) (q : Int) A m d).mono ?_; rw [HMay.out]; rintro e u6 ⟨rfl, hb6⟩; have Hu6 : Hid (Below w5.heap.size w5 u6) := nxTo Hr103.out hb6; clear hb6))
      have Hv6 := Lib.hid (nxDr Hu6.out)
      refine wp_region_held_drew (S := fun W => W.rangeAt w.heap.size 0 (By root) ∧ W.rangeAt (w.heap.size + 1) 0 (By id) ∧ W.rangeAt (w.heap.size + 2) 0 [Value.int .i64 (p : Int), .int .i64 (q : Int), .slice A m d] ∧ W.rangeAt g7 0 (By x)) (by kernel_rfl) ⟨rng_below R5.out Hv6.out (by have := Hz5.out; omega), rng_below I5.out Hv6.out (by have := Hz5.out; omega), rng_below P5.out Hv6.out (by have := Hz5.out; omega), rng_below X5.out Hv6.out Hz5.out.2⟩ (fun hHeld => ?_)
      refine wpAnyH_take (i := 0) (oi := ⟨_, _, _, _, _, _⟩) (v := .agg (By x).toArray) rfl (by kernel_rfl) (by kernel_rfl) (by kernel_rfl) (fun _ _ _ h => h) (yieldsIf_load_mid (by rfl) 32 (.tmp 7) rfl (g7) (0) rfl (By x) _ (fun W h => h.2.2.2) Tryd.underlying32 rfl HSX.out) (by assumption) ?_
      try simp only [Act.put, List.setIfInBounds_toArray, List.set_cons_zero, List.set_cons_succ]
      refine wpAnyH_take (i := 1) (oi := ⟨_, _, _, _, _, _⟩) (v := .agg (By id).toArray) rfl (by kernel_rfl) (by kernel_rfl) (by kernel_rfl) (fun _ _ _ h => h) (yieldsIf_load_mid (by rfl) 32 (.tmp 4) rfl (w.heap.size + 1) (0) rfl (By id) _ (fun W h => h.2.1) Tryd.underlying32 rfl HSI.out) (by assumption) ?_
      try simp only [Act.put, List.setIfInBounds_toArray, List.set_cons_zero, List.set_cons_succ]
      refine wpAnyH_take (i := 2) (oi := ⟨_, _, _, _, _, _⟩) (v := .agg ([Value.int .i64 (p : Int), .int .i64 (q : Int), .slice A m d]).toArray) rfl (by kernel_rfl) (by kernel_rfl) (by kernel_rfl) (fun _ _ _ h => h) (yieldsIf_load_mid (by rfl) 25 (.tmp 5) rfl (w.heap.size + 2) (0) rfl ([Value.int .i64 (p : Int), .int .i64 (q : Int), .slice A m d]) _ (fun W h => h.2.2.1) Tryd.underlying25 rfl HSP.out) (by assumption) ?_
      try simp only [Act.put, List.setIfInBounds_toArray, List.set_cons_zero, List.set_cons_succ]
      refine wpAnyH_ready (rs := [3]) (by kernel_rfl) (by simp) ?_
      refine AllReadyH.cons rfl (fun K hK => ?_) AllReadyH.nil
      go_simp
      go_at_call 21
      refine (rLead_any u6.drew id p q A m d hs HL.out HM.out HD.out HQ.out.1 HQ.out.2.1 HQ.out.2.2 H32.out (show SeesV u6.drew _ _ _ from (S5.out.below Hu6.out).size)).mono ?_
      rw [HXb.out]
      rintro e u7 ⟨rfl, hb7⟩
      have Hu7 : Hid (Below w5.heap.size w5 u7) := nxTo Hu6.out (nxUndr hb7)
      clear hb7
      refine hK.out _ _ ⟨rng_below R5.out Hu7.out (by have := Hz5.out; omega), rng_below I5.out Hu7.out (by have := Hz5.out; omega), rng_below P5.out Hu7.out (by have := Hz5.out; omega), rng_below X5.out Hu7.out Hz5.out.2⟩ (fun hSn => ?_)
      clear hK K
      try simp only [Act.put, List.setIfInBounds_toArray, List.set_cons_zero, List.set_cons_succ]
      refine wpAnyH_take (i := 4) (oi := ⟨_, _, _, _, _, _⟩) (v := ?_) rfl (by kernel_rfl) (by kernel_rfl) (by kernel_rfl) (fun _ _ _ h => h) (Or.inl ⟨by rfl, ?_⟩) (by assumption) ?_
      rotate_left 1
      · intro W hSw
        try dsimp only at hSw
        go_simp
        try with_reducible rfl
      try simp only [Act.put, List.setIfInBounds_toArray, List.set_cons_zero, List.set_cons_succ]
      refine wpAnyH_take (i := 5) (oi := ⟨_, _, _, _, _, _⟩) (v := ?_) rfl (by kernel_rfl) (by kernel_rfl) (by kernel_rfl) (fun _ _ _ h => h) (Or.inl ⟨by rfl, ?_⟩) (by assumption) ?_
      rotate_left 1
      · intro W hSw
        try dsimp only at hSw
        go_simp
        try with_reducible rfl
      try simp only [Act.put, List.setIfInBounds_toArray, List.set_cons_zero, List.set_cons_succ]
      refine wpAnyH_take (i := 6) (oi := ⟨_, _, _, _, _, _⟩) (v := ?_) rfl (by kernel_rfl) (by kernel_rfl) (by kernel_rfl) (fun _ _ _ h => h) (Or.inl ⟨by rfl, ?_⟩) (by assumption) ?_
      rotate_left 1
      · intro W hSw
        try dsimp only at hSw
        go_simp
        try with_reducible rfl
      try simp only [Act.put, List.setIfInBounds_toArray, List.set_cons_zero, List.set_cons_succ]
      refine wpAnyH_ready (rs := [7]) (by kernel_rfl) (by simp) ?_
      refine AllReadyH.cons rfl (fun K hK => ?_) AllReadyH.nil
      go_simp
      go_at_call 13
      refine (num_any u7 _).mono ?_
      rintro e u8 ⟨rfl, hw8⟩
      obtain rfl := hw8.symm
      refine hK.out _ _ ⟨rng_below R5.out Hu7.out (by have := Hz5.out; omega), rng_below I5.out Hu7.out (by have := Hz5.out; omega), rng_below P5.out Hu7.out (by have := Hz5.out; omega), rng_below X5.out Hu7.out Hz5.out.2⟩ (fun hSn => ?_)
      clear hK K
      try simp only [Act.put, List.setIfInBounds_toArray, List.set_cons_zero, List.set_cons_succ]
      refine wpAnyH_take (i := 8) (oi := ⟨_, _, _, _, _, _⟩) (v := ?_) rfl (by kernel_rfl) (by kernel_rfl) (by kernel_rfl) (fun _ _ _ h => h) (Or.inl ⟨by rfl, ?_⟩) (by assumption) ?_
      rotate_left 1
      · intro W hSw
        try dsimp only at hSw
        go_simp
        try with_reducible rfl
      try simp only [Act.put, List.setIfInBounds_toArray, List.set_cons_zero, List.set_cons_succ]
      refine wpAnyH_take (i := 9) (oi := ⟨_, _, _, _, _, _⟩) (v := ?_) rfl (by kernel_rfl) (by kernel_rfl) (by kernel_rfl) (fun _ _ _ h => h) (Or.inl ⟨by rfl, ?_⟩) (by assumption) ?_
      rotate_left 1
      · intro W hSw
        try dsimp only at hSw
        go_simp
        try with_reducible rfl
      try simp only [Act.put, List.setIfInBounds_toArray, List.set_cons_zero, List.set_cons_succ]
      refine wpAnyH_take (i := 10) (oi := ⟨_, _, _, _, _, _⟩) (v := ?_) rfl (by kernel_rfl) (by kernel_rfl) (by kernel_rfl) (fun _ _ _ h => h) (Or.inl ⟨by rfl, ?_⟩) (by assumption) ?_
      rotate_left 1
      · intro W hSw
        try dsimp only at hSw
        go_simp
        try with_reducible rfl
      try simp only [Act.put, List.setIfInBounds_toArray, List.set_cons_zero, List.set_cons_succ]
      refine wpAnyH_ready (rs := [11]) (by kernel_rfl) (by simp) ?_
      refine AllReadyH.cons rfl (fun K hK => ?_) AllReadyH.nil
      go_simp
      go_at_call 8
      refine (known_any _ (HT5.out.later Hu7.out)).mono ?_
      rintro e u9 ⟨rfl, hb9⟩
      have Hu9 : Hid (Below w5.heap.size w5 u9) := nxTo Hu7.out hb9
      clear hb9
      refine hK.out _ _ ⟨rng_below R5.out Hu9.out (by have := Hz5.out; omega), rng_below I5.out Hu9.out (by have := Hz5.out; omega), rng_below P5.out Hu9.out (by have := Hz5.out; omega), rng_below X5.out Hu9.out Hz5.out.2⟩ (fun hSn => ?_)
      clear hK K
      try simp only [Act.put, List.setIfInBounds_toArray, List.set_cons_zero, List.set_cons_succ]
      refine wpAnyH_take (i := 12) (oi := ⟨_, _, _, _, _, _⟩) (v := ?_) rfl (by kernel_rfl) (by kernel_rfl) (by kernel_rfl) (fun _ _ _ h => h) (Or.inl ⟨by rfl, ?_⟩) (by assumption) ?_
      rotate_left 1
      · intro W hSw
        try dsimp only at hSw
        go_simp
        try with_reducible rfl
      try simp only [Act.put, List.setIfInBounds_toArray, List.set_cons_zero, List.set_cons_succ]
      refine wpAnyH_take (i := 13) (oi := ⟨_, _, _, _, _, _⟩) (v := ?_) rfl (by kernel_rfl) (by kernel_rfl) (by kernel_rfl) (fun _ _ _ h => h) (Or.inl ⟨by rfl, ?_⟩) (by assumption) ?_
      rotate_left 1
      · intro W hSw
        try dsimp only at hSw
        go_simp
        try with_reducible rfl
      try simp only [Act.put, List.setIfInBounds_toArray, List.set_cons_zero, List.set_cons_succ]
      refine wpAnyH_done (by kernel_rfl) ?_ _
      go_wp2
      go_ret
      exact ⟨rfl, nxTo Hb5.out Hu9.out⟩

theorem merkleChecks_any (w : World) (hT : Tabs w) (root : List UInt8) (hroot : root.length = 32) (id : List UInt8) (hid : id.length = 32) (V : PathR) (hV : PathOk w V) :
    Calls Tryd.prog 4 #[.agg (By root).toArray, .agg (By id).toArray, .agg (PathZ V.n V.c V.A V.hs.length V.d)] w fun e w' => e = .returned (.bool true) ∧ Below w.heap.size w w' :=
  checks_any w hT root id V.n V.c V.A V.hs.length V.d V.hs hroot hid rfl hV.1 hV.2.1 hV.2.2
end Go.Proofs.YtcbdjcmjchoagaaDoor
