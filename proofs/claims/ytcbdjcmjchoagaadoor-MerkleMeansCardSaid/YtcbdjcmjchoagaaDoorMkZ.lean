/-
  merkle, the program's: Check.
-/
import Derived.Test.YtcbdjcmjchoagaaDoorMkY
namespace Go.Proofs.YtcbdjcmjchoagaaDoor
open Go.RowKit

theorem wpList_load_want {P : Program} {ops : Array Oper} {rest : List Oper} {op : Oper} {a : Act} {w : World} {Q : Exit → Act → World → Prop} (hw : Region.wanted op (yielded ops a.tmps) = true) (ty : TypeId) (x : Operand) (ho : op.op = .load ty x)
    (b o : Nat) (hx : a.eval x = .pointer (some ⟨b, o, none⟩)) (cs : List Value) (d : TypeDesc) (hc : w.rangeAt b o cs)
    (hu : P.underlying ty = some d) (hd : d.isRow = true) (hi : (P.info? ty).map (·.size) = some cs.length)
    (h : wpList P ops Q rest (a.put op.dst (.agg cs.toArray)) w) : wpList P ops Q (op :: rest) a w :=
  wpList_step fun _ hK => by rw [if_pos hw]; exact wp_load_mid ty x ho b o hx cs d hc hu hd hi (hK _ _ h)
theorem leadV_len (id : List UInt8) (n c : Int) (hs : List (List UInt8)) : (leadV id n c hs).length = 32 := by
  rw [leadV]
  cases mayB n c hs.length
  · rfl
  · exact leadB_len _ _ _ _

set_option maxHeartbeats 2000000 in
set_option maxRecDepth 100000 in
theorem check_any (w : World) (hT : Tabs w) (root id : List UInt8) (n c : Int) (A : Option Addr) (m d : Nat) (hs : List (List UInt8)) (hroot : root.length = 32) (hid : id.length = 32) (hm : m = hs.length) (hd : m ≤ d) (h32 : All32 hs) (hS : SeesV w w.heap.size A (Hs hs)) :
    Calls Tryd.prog 18 #[.agg (By root).toArray, .agg (By id).toArray, .agg (PathZ n c A m d)] w fun e w' => e = .returned (.int .i64 (checkE root id n c hs)) ∧ Below w.heap.size w w' := by
  have hR : Blk (((w.alloc (.cells (By root).toArray 32)).alloc (.cells (By id).toArray 32)).alloc (.cells (PathZ n c A m d) 25)) w.heap.size 32 (By root).toArray := ((show Blk (w.alloc _) _ _ _ from heap_alloc_new w _).alloc _).alloc _
  have hA : Blk (((w.alloc (.cells (By root).toArray 32)).alloc (.cells (By id).toArray 32)).alloc (.cells (PathZ n c A m d) 25)) (w.heap.size + 1) 32 (By id).toArray := Blk.alloc (Blk.newAt (by simp) rfl) _
  have hP : Blk (((w.alloc (.cells (By root).toArray 32)).alloc (.cells (By id).toArray 32)).alloc (.cells (PathZ n c A m d) 25)) (w.heap.size + 2) 25 (PathZ n c A m d) := Blk.newAt (by simp) rfl
  have hb0 : Below w.heap.size w (((w.alloc (.cells (By root).toArray 32)).alloc (.cells (By id).toArray 32)).alloc (.cells (PathZ n c A m d) 25)) := nxAlloc (nxAlloc (nxAlloc (nxRefl w) _) _) _
  have HS : Hid (SeesV (((w.alloc (.cells (By root).toArray 32)).alloc (.cells (By id).toArray 32)).alloc (.cells (PathZ n c A m d) 25)) w.heap.size A (Hs hs)) := ((hS.alloc _).alloc _).alloc _
  have hsz0 : w.heap.size + 3 = (((w.alloc (.cells (By root).toArray 32)).alloc (.cells (By id).toArray 32)).alloc (.cells (PathZ n c A m d) 25)).heap.size := by simp
  have HTb := Lib.hid (hT.later hb0)
  have HSR : Hid ((Tryd.prog.info? 32).map (·.size) = some (By root).length) := by have h := Tryd.hsizeB root hroot; show _ = _; rw [h]; simp
  have HSI : Hid ((Tryd.prog.info? 32).map (·.size) = some (By id).length) := by have h := Tryd.hsizeB id hid; show _ = _; rw [h]; simp
  have HSP : Hid ((Tryd.prog.info? 25).map (·.size) = some [Value.int .i64 n, .int .i64 c, .slice A m d].length) := Tryd.psize
  have HRR := Lib.hid (blk_rng hR)
  have HRI := Lib.hid (blk_rng hA)
  have HRP := Lib.hid (blk_rng (vs := [Value.int .i64 n, .int .i64 c, .slice A m d]) hP)
  have Hb0 := Lib.hid hb0
  have Hs0 := Lib.hid hsz0
  have HLR := Lib.hid hroot
  have HL := Lib.hid hid
  have H32 := Lib.hid h32
  have HM := Lib.hid hm
  have HD := Lib.hid hd
  obtain ⟨x, hx⟩ : ∃ x, leadV id n c hs = x := ⟨_, rfl⟩
  have HX := Lib.hid hx
  have hxl : x.length = 32 := by rw [← hx]; exact leadV_len _ _ _ _
  have HXl := Lib.hid hxl
  have HZx := Lib.hid (Tryd.hsizeB x hxl)
  have HSX : Hid ((Tryd.prog.info? 32).map (·.size) = some (By x).length) := by have h := Tryd.hsizeB x hxl; show _ = _; rw [h]; simp
  clear hT hS hR hA hP hb0 hsz0 hroot hid h32 hm hd
  cases hmay : mayB n c m with
  | false =>
    have HR : Hid (checkE root id n c hs = 21) := by show _ = _; rw [checkE, checkB, ← HM.out, hmay, Bool.false_and, cond_false]
    have HE : Hid (leadE n c m = 21) := by show _ = _; rw [leadE, hmay, cond_false]
    clear hmay hx hxl
    go_enter Tryd.func18, Tryd.ntmps18
    go_wp2_with (first
      | ((with_reducible show wpList _ _ _ (⟨some 10, _, _, _, _, _⟩ :: _) _ _); change wpList _ _ _ _ _ (((w.alloc (.cells (By root).toArray 32)).alloc (.cells (By id).toArray 32)).alloc (.cells (PathZ n c A m d) 25)); refine wpList_load_mid rfl 32 (.tmp 4) rfl (w.heap.size + 1) 0 rfl (By id) _ HRI.out Tryd.underlying32 rfl HSI.out ?_)
      | ((with_reducible show wpList _ _ _ (⟨some 11, _, _, _, _, _⟩ :: _) _ _); change wpList _ _ _ _ _ (((w.alloc (.cells (By root).toArray 32)).alloc (.cells (By id).toArray 32)).alloc (.cells (PathZ n c A m d) 25)); refine wpList_load_mid rfl 25 (.tmp 5) rfl (w.heap.size + 2) 0 rfl [Value.int .i64 n, .int .i64 c, .slice A m d] _ HRP.out Tryd.underlying25 rfl HSP.out ?_)
      | (go_at_call 17; refine (lead_any (((w.alloc (.cells (By root).toArray 32)).alloc (.cells (By id).toArray 32)).alloc (.cells (PathZ n c A m d) 25)) HTb.out id n c A m d hs HL.out HM.out HD.out H32.out (HS.out.more (by have := Hs0.out; omega))).mono ?_; rw [HX.out, HE.out]; rintro e w4 ⟨rfl, hb4⟩; have Hb4 : Hid (Below w.heap.size w w4) := nxTo Hb0.out hb4; have HR4 : Hid (w4.rangeAt w.heap.size 0 (By root)) := rng_below HRR.out hb4 (by have := Hs0.out; omega); clear hb4)
      | ((with_reducible show wpList _ _ _ (⟨none, .store 32 (.tmp 7) _, _, _, _, _⟩ :: _) _ _); change wpList _ _ _ _ _ (w4.alloc (.cells (By zero32).toArray 32)); refine wpList_store_all rfl 32 (.tmp 7) (.tmp 13) rfl w4.heap.size 32 (By zero32).toArray (By x).toArray rfl rfl (heap_alloc_new w4 _) (by rw [List.size_toArray, List.size_toArray, By_length, By_length, HXl.out]; rfl) HZx.out (By_one _) ?_; intro w5 h5 h6 h7; have H5 := Lib.hid (blk_rng h5); have Hc5 : Hid (Below w4.heap.size w4 w5) := (nxAlloc (nxRefl w4) _).trans (h6.below (nxAlloc (nxRefl w4) _).size (fun k hk => by omega)); have Hb5 := Lib.hid (nxTo Hb4.out Hc5.out); have HR5 := Lib.hid (rng_later HR4.out Hc5.out); clear h5 h6 h7)
      | ((with_reducible show wpList _ _ _ (⟨some 18, _, _, _, _, _⟩ :: _) _ _); refine wpList_load_want (by rfl) 32 (.tmp 7) rfl w4.heap.size 0 rfl (By x) _ H5.out Tryd.underlying32 rfl HSX.out ?_)
      | ((with_reducible show wpList _ _ _ (⟨some 19, _, _, _, _, _⟩ :: _) _ _); refine wpList_load_want (by rfl) 32 (.tmp 3) rfl w.heap.size 0 rfl (By root) _ HR5.out Tryd.underlying32 rfl HSR.out ?_))
    go_ret
    exact ⟨by rw [HR.out]; rfl, Hb5.out⟩
  | true =>
    have HE : Hid (leadE n c m = 0) := by show _ = _; rw [leadE, hmay, cond_true]
    have hxb : leadB id n.toNat c.toNat hs = x := by rw [← hx, leadV, ← HM.out, hmay, cond_true]
    cases hq : x == root with
    | false =>
      have HR : Hid (checkE root id n c hs = 21) := by show _ = _; rw [checkE, checkB, ← HM.out, hmay, Bool.true_and, hxb, hq, cond_false]
      have hnq := neq_run x root hxl HLR.out false hq
      rw [show (!false) = true from rfl] at hnq
      clear hmay hx hxl hq hxb
      go_enter Tryd.func18, Tryd.ntmps18
      go_wp2_with (first
        | ((with_reducible show wpList _ _ _ (⟨some 10, _, _, _, _, _⟩ :: _) _ _); change wpList _ _ _ _ _ (((w.alloc (.cells (By root).toArray 32)).alloc (.cells (By id).toArray 32)).alloc (.cells (PathZ n c A m d) 25)); refine wpList_load_mid rfl 32 (.tmp 4) rfl (w.heap.size + 1) 0 rfl (By id) _ HRI.out Tryd.underlying32 rfl HSI.out ?_)
        | ((with_reducible show wpList _ _ _ (⟨some 11, _, _, _, _, _⟩ :: _) _ _); change wpList _ _ _ _ _ (((w.alloc (.cells (By root).toArray 32)).alloc (.cells (By id).toArray 32)).alloc (.cells (PathZ n c A m d) 25)); refine wpList_load_mid rfl 25 (.tmp 5) rfl (w.heap.size + 2) 0 rfl [Value.int .i64 n, .int .i64 c, .slice A m d] _ HRP.out Tryd.underlying25 rfl HSP.out ?_)
        | (go_at_call 17; refine (lead_any (((w.alloc (.cells (By root).toArray 32)).alloc (.cells (By id).toArray 32)).alloc (.cells (PathZ n c A m d) 25)) HTb.out id n c A m d hs HL.out HM.out HD.out H32.out (HS.out.more (by have := Hs0.out; omega))).mono ?_; rw [HX.out, HE.out]; rintro e w4 ⟨rfl, hb4⟩; have Hb4 : Hid (Below w.heap.size w w4) := nxTo Hb0.out hb4; have HR4 : Hid (w4.rangeAt w.heap.size 0 (By root)) := rng_below HRR.out hb4 (by have := Hs0.out; omega); clear hb4)
        | ((with_reducible show wpList _ _ _ (⟨none, .store 32 (.tmp 7) _, _, _, _, _⟩ :: _) _ _); change wpList _ _ _ _ _ (w4.alloc (.cells (By zero32).toArray 32)); refine wpList_store_all rfl 32 (.tmp 7) (.tmp 13) rfl w4.heap.size 32 (By zero32).toArray (By x).toArray rfl rfl (heap_alloc_new w4 _) (by rw [List.size_toArray, List.size_toArray, By_length, By_length, HXl.out]; rfl) HZx.out (By_one _) ?_; intro w5 h5 h6 h7; have H5 := Lib.hid (blk_rng h5); have Hc5 : Hid (Below w4.heap.size w4 w5) := (nxAlloc (nxRefl w4) _).trans (h6.below (nxAlloc (nxRefl w4) _).size (fun k hk => by omega)); have Hb5 := Lib.hid (nxTo Hb4.out Hc5.out); have HR5 := Lib.hid (rng_later HR4.out Hc5.out); clear h5 h6 h7)
        | ((with_reducible show wpList _ _ _ (⟨some 18, _, _, _, _, _⟩ :: _) _ _); refine wpList_load_want (by rfl) 32 (.tmp 7) rfl w4.heap.size 0 rfl (By x) _ H5.out Tryd.underlying32 rfl HSX.out ?_)
        | ((with_reducible show wpList _ _ _ (⟨some 19, _, _, _, _, _⟩ :: _) _ _); refine wpList_load_want (by rfl) 32 (.tmp 3) rfl w.heap.size 0 rfl (By root) _ HR5.out Tryd.underlying32 rfl HSR.out ?_))
      go_ret
      exact ⟨by rw [HR.out]; rfl, Hb5.out⟩
    | true =>
      have HR : Hid (checkE root id n c hs = 0) := by show _ = _; rw [checkE, checkB, ← HM.out, hmay, Bool.true_and, hxb, hq, cond_true]
      have hnq := neq_run x root hxl HLR.out true hq
      rw [show (!true) = false from rfl] at hnq
      clear hmay hx hxl hq hxb
      go_enter Tryd.func18, Tryd.ntmps18
      go_wp2_with (first
        | ((with_reducible show wpList _ _ _ (⟨some 10, _, _, _, _, _⟩ :: _) _ _); change wpList _ _ _ _ _ (((w.alloc (.cells (By root).toArray 32)).alloc (.cells (By id).toArray 32)).alloc (.cells (PathZ n c A m d) 25)); refine wpList_load_mid rfl 32 (.tmp 4) rfl (w.heap.size + 1) 0 rfl (By id) _ HRI.out Tryd.underlying32 rfl HSI.out ?_)
        | ((with_reducible show wpList _ _ _ (⟨some 11, _, _, _, _, _⟩ :: _) _ _); change wpList _ _ _ _ _ (((w.alloc (.cells (By root).toArray 32)).alloc (.cells (By id).toArray 32)).alloc (.cells (PathZ n c A m d) 25)); refine wpList_load_mid rfl 25 (.tmp 5) rfl (w.heap.size + 2) 0 rfl [Value.int .i64 n, .int .i64 c, .slice A m d] _ HRP.out Tryd.underlying25 rfl HSP.out ?_)
        | (go_at_call 17; refine (lead_any (((w.alloc (.cells (By root).toArray 32)).alloc (.cells (By id).toArray 32)).alloc (.cells (PathZ n c A m d) 25)) HTb.out id n c A m d hs HL.out HM.out HD.out H32.out (HS.out.more (by have := Hs0.out; omega))).mono ?_; rw [HX.out, HE.out]; rintro e w4 ⟨rfl, hb4⟩; have Hb4 : Hid (Below w.heap.size w w4) := nxTo Hb0.out hb4; have HR4 : Hid (w4.rangeAt w.heap.size 0 (By root)) := rng_below HRR.out hb4 (by have := Hs0.out; omega); clear hb4)
        | ((with_reducible show wpList _ _ _ (⟨none, .store 32 (.tmp 7) _, _, _, _, _⟩ :: _) _ _); change wpList _ _ _ _ _ (w4.alloc (.cells (By zero32).toArray 32)); refine wpList_store_all rfl 32 (.tmp 7) (.tmp 13) rfl w4.heap.size 32 (By zero32).toArray (By x).toArray rfl rfl (heap_alloc_new w4 _) (by rw [List.size_toArray, List.size_toArray, By_length, By_length, HXl.out]; rfl) HZx.out (By_one _) ?_; intro w5 h5 h6 h7; have H5 := Lib.hid (blk_rng h5); have Hc5 : Hid (Below w4.heap.size w4 w5) := (nxAlloc (nxRefl w4) _).trans (h6.below (nxAlloc (nxRefl w4) _).size (fun k hk => by omega)); have Hb5 := Lib.hid (nxTo Hb4.out Hc5.out); have HR5 := Lib.hid (rng_later HR4.out Hc5.out); clear h5 h6 h7)
        | ((with_reducible show wpList _ _ _ (⟨some 18, _, _, _, _, _⟩ :: _) _ _); refine wpList_load_want (by rfl) 32 (.tmp 7) rfl w4.heap.size 0 rfl (By x) _ H5.out Tryd.underlying32 rfl HSX.out ?_)
        | ((with_reducible show wpList _ _ _ (⟨some 19, _, _, _, _, _⟩ :: _) _ _); refine wpList_load_want (by rfl) 32 (.tmp 3) rfl w.heap.size 0 rfl (By root) _ HR5.out Tryd.underlying32 rfl HSR.out ?_))
      go_ret
      exact ⟨by rw [HR.out]; rfl, Hb5.out⟩
end Go.Proofs.YtcbdjcmjchoagaaDoor
