/-
  TxReads, the walk.
-/
import Derived.Test.YtlpcbkajgibhcaaTr4
import Derived.Test.YtlpcbkajgibhcaaTr5
namespace Go.Proofs.Ytlpcbkajgibhcaa
open Go.RowKit

theorem below_fresh {w w1 : World} {o : Obj} (k : Keeps (· = w.heap.size) (w.alloc o) w1) : Below w.heap.size w w1 :=
  (nxAl (nxRf w) o).trans (k.below (by simp) (fun j hj => by omega))
set_option maxHeartbeats 4000000 in
set_option maxRecDepth 100000 in
theorem txReads_any (w : World) (A : Option Addr) (c : Nat) (b : List UInt8) (hS : Sees w w.heap.size A b) (hbc : b.length ≤ c) (hcm : c ≤ maxLen) :
    Calls Try.prog 3 #[.slice A b.length c] w fun e w' => e = .returned (.bool true) ∧ Below w.heap.size w w' := by
  have HS := Lib.hid hS
  have HC := Lib.hid hbc
  have HM := Lib.hid hcm
  clear hS hbc hcm
  by_cases hlen : (20000 : Int) < (b.length : Int)
  · go_enter Try.func3, Try.ntmps3
    go_wp2_with (go_at_call 4; refine (known_any w).mono ?_; rintro e w1 ⟨rfl, hb1⟩; have V1 := Lib.hid hb1; clear hb1)
    go_ret
    exact ⟨rfl, V1.out⟩
  · have HL : Hid (b.length ≤ 1099511627776) := by show _ ≤ _; omega
    have HZT0 : Hid (∀ t : TxR, (Try.prog.info? 28).map (·.size) = some (txC t).toArray.size) := fun t => Try.sizeTx
    have HZTl : Hid (∀ t : TxR, (Try.prog.info? 28).map (·.size) = some (txC t).length) := fun t => Try.sizeTx
    obtain ⟨z, hz⟩ : ∃ z, ofB b = z := ⟨_, rfl⟩
    have HZ := Lib.hid hz
    clear hz
    cases z with
    | true =>
      go_enter Try.func3, Try.ntmps3
      go_wp2_with (first
        | (go_at_call 5; refine (of_any w w.heap.size A b c HS.out HL.out).mono ?_; unfold OfPost; rw [HZ.out]; rintro e w1 ⟨t, rfl, hp1, ht1, hb1⟩; have P1 := Lib.hid hp1; have T1 := Lib.hid ht1; have V1 := Lib.hid hb1; clear hp1 ht1 hb1)
        | ((with_reducible show wpList _ _ _ (⟨none, .store 28 (.tmp 3) _, _, _, _, _⟩ :: _) _ _); (show wpList _ _ _ _ _ (w1.alloc (.cells txZ 28))); refine wpList_store_all rfl 28 (.tmp 3) (.tmp 14) rfl w1.heap.size 28 txZ (txC t).toArray rfl rfl (heap_alloc_new w1 _) rfl (HZT0.out t) (txC_one t) ?_; intro w2 h5 h6 h7; have B2 := Lib.hid h5; have V2 := Lib.hid (nxTr V1.out (below_fresh h6)); have W2 : Hid (Below w1.heap.size w1 w2) := below_fresh h6; clear h5 h6 h7)
        | (go_at_call 6; refine (rof_any w2 A b c ((HS.out.later V2.out).more V2.out.size) HC.out HM.out HL.out).mono ?_; unfold ROfPost; rw [HZ.out]; rintro e w3 ⟨u, rfl, hp3, hu3, hb3⟩; have P3 := Lib.hid hp3; have U3 := Lib.hid hu3; have V3 := Lib.hid hb3; clear hp3 hu3 hb3)
        | ((with_reducible show wpList _ _ _ (⟨none, .store 28 (.tmp 5) _, _, _, _, _⟩ :: _) _ _); (show wpList _ _ _ _ _ (w3.alloc (.cells txZ 28))); refine wpList_store_all rfl 28 (.tmp 5) (.tmp 19) rfl w3.heap.size 28 txZ (txC u).toArray rfl rfl (heap_alloc_new w3 _) rfl (HZT0.out u) (txC_one u) ?_; intro w4 h5 h6 h7; have B4 := Lib.hid h5; have W4 : Hid (Below w3.heap.size w3 w4) := below_fresh h6; have W24 : Hid (Below w2.heap.size w2 w4) := nxTr V3.out W4.out; have T4 : Hid (TxOk w4 t) := T1.out.later (nxTr W2.out W24.out); have U4 : Hid (TxOk w4 u) := U3.out.later W4.out; have R4 : Hid (w4.rangeAt w1.heap.size 0 (txC t)) := rngB (blkR B2.out) W24.out B2.out.lt; have Q4 : Hid (w4.rangeAt w3.heap.size 0 (txC u)) := blkR B4.out; clear h5 h6 h7)
        | ((with_reducible show wpList _ _ _ (⟨some 21, _, _, _, _, _⟩ :: _) _ _); refine wpList_load_mid rfl 28 (.tmp 3) rfl w1.heap.size 0 rfl (txC t) _ R4.out Try.underlying28 rfl (HZTl.out t) ?_)
        | ((with_reducible show wpList _ _ _ (⟨some 22, _, _, _, _, _⟩ :: _) _ _); refine wpList_load_mid rfl 28 (.tmp 5) rfl w3.heap.size 0 rfl (txC u) _ Q4.out Try.underlying28 rfl (HZTl.out u) ?_)
        | (go_at_call 7; refine (rsame_any w4 t u T4.out U4.out).mono ?_; unfold SamePost; rintro e w5 ⟨zs, rfl, hzs, hb5⟩; obtain rfl : zs = true := hzs.2 (P1.out.trans P3.out.symm); have V5 := Lib.hid hb5; clear hzs hb5)
        | (go_at_call 8; refine (num_any _ _).mono ?_; rintro e wn ⟨rfl, hwn⟩; obtain rfl := hwn.symm)
        | (go_at_call 4; refine (known_any _).mono ?_; rintro e w9 ⟨rfl, hb9⟩; have V9 := Lib.hid hb9; clear hb9))
      go_ret
      exact ⟨rfl, nxTr (nxTr V2.out W24.out) (nxTr V5.out V9.out)⟩
    | false =>
      go_enter Try.func3, Try.ntmps3
      go_wp2_with (first
        | (go_at_call 5; refine (of_any w w.heap.size A b c HS.out HL.out).mono ?_; unfold OfPost; rw [HZ.out]; rintro e w1 ⟨t, rfl, hp1, ht1, hb1⟩; have P1 := Lib.hid hp1; have T1 := Lib.hid ht1; have V1 := Lib.hid hb1; clear hp1 ht1 hb1)
        | ((with_reducible show wpList _ _ _ (⟨none, .store 28 (.tmp 3) _, _, _, _, _⟩ :: _) _ _); (show wpList _ _ _ _ _ (w1.alloc (.cells txZ 28))); refine wpList_store_all rfl 28 (.tmp 3) (.tmp 14) rfl w1.heap.size 28 txZ (txC t).toArray rfl rfl (heap_alloc_new w1 _) rfl (HZT0.out t) (txC_one t) ?_; intro w2 h5 h6 h7; have B2 := Lib.hid h5; have V2 := Lib.hid (nxTr V1.out (below_fresh h6)); have W2 : Hid (Below w1.heap.size w1 w2) := below_fresh h6; clear h5 h6 h7)
        | (go_at_call 6; refine (rof_any w2 A b c ((HS.out.later V2.out).more V2.out.size) HC.out HM.out HL.out).mono ?_; unfold ROfPost; rw [HZ.out]; rintro e w3 ⟨u, rfl, hp3, hu3, hb3⟩; have P3 := Lib.hid hp3; have U3 := Lib.hid hu3; have V3 := Lib.hid hb3; clear hp3 hu3 hb3)
        | ((with_reducible show wpList _ _ _ (⟨none, .store 28 (.tmp 5) _, _, _, _, _⟩ :: _) _ _); (show wpList _ _ _ _ _ (w3.alloc (.cells txZ 28))); refine wpList_store_all rfl 28 (.tmp 5) (.tmp 19) rfl w3.heap.size 28 txZ (txC u).toArray rfl rfl (heap_alloc_new w3 _) rfl (HZT0.out u) (txC_one u) ?_; intro w4 h5 h6 h7; have B4 := Lib.hid h5; have W4 : Hid (Below w3.heap.size w3 w4) := below_fresh h6; have W24 : Hid (Below w2.heap.size w2 w4) := nxTr V3.out W4.out; have T4 : Hid (TxOk w4 t) := T1.out.later (nxTr W2.out W24.out); have U4 : Hid (TxOk w4 u) := U3.out.later W4.out; have R4 : Hid (w4.rangeAt w1.heap.size 0 (txC t)) := rngB (blkR B2.out) W24.out B2.out.lt; have Q4 : Hid (w4.rangeAt w3.heap.size 0 (txC u)) := blkR B4.out; clear h5 h6 h7)
        | ((with_reducible show wpList _ _ _ (⟨some 21, _, _, _, _, _⟩ :: _) _ _); refine wpList_load_mid rfl 28 (.tmp 3) rfl w1.heap.size 0 rfl (txC t) _ R4.out Try.underlying28 rfl (HZTl.out t) ?_)
        | ((with_reducible show wpList _ _ _ (⟨some 22, _, _, _, _, _⟩ :: _) _ _); refine wpList_load_mid rfl 28 (.tmp 5) rfl w3.heap.size 0 rfl (txC u) _ Q4.out Try.underlying28 rfl (HZTl.out u) ?_)
        | (go_at_call 7; refine (rsame_any w4 t u T4.out U4.out).mono ?_; unfold SamePost; rintro e w5 ⟨zs, rfl, hzs, hb5⟩; obtain rfl : zs = true := hzs.2 (P1.out.trans P3.out.symm); have V5 := Lib.hid hb5; clear hzs hb5)
        | (go_at_call 8; refine (num_any _ _).mono ?_; rintro e wn ⟨rfl, hwn⟩; obtain rfl := hwn.symm)
        | (go_at_call 4; refine (known_any _).mono ?_; rintro e w9 ⟨rfl, hb9⟩; have V9 := Lib.hid hb9; clear hb9))
      go_ret
      exact ⟨rfl, nxTr (nxTr V2.out W24.out) (nxTr V5.out V9.out)⟩

end Go.Proofs.Ytlpcbkajgibhcaa
