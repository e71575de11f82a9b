/-
  dag: the hashes of a row, gone over; All.
-/
import Derived.Test.YtndkjmmmneianaaDoorDh6
import Derived.Test.YtndkjmmmneianaaDoorRv
namespace Go.Proofs.YtndkjmmmneianaaDoor
open Go.RowKit Go.Shelf

theorem valuesH_any (w : World) (A : Option Addr) (n c : Nat) : Calls Tryd.prog 54 #[.slice A n c] w fun e w' => e = .returned (.func (.func 69) #[] #[.pointer (some ⟨w.heap.size, 0, none⟩)]) ∧ w' = w.alloc (.cells #[.slice A n c] 34) := by
  have hmf : ∀ (fn : Fn) (first cap : Array Value) (w : World), (Instr.makeFunc fn first cap).run Tryd.prog w = .ok (.func fn first cap) w := fun _ _ _ _ => rfl
  go_enter Tryd.func54, Tryd.ntmps54
  go_wp2
  go_ret
  exact ⟨rfl, rfl⟩
theorem allH_any (w : World) (base : Nat) (m : GrM) (G : Gr) (h : GrOk w base m) (hg : GrIs m G) : Calls Tryd.prog 25 #[.pointer (some ⟨m.q, 0, none⟩)] w fun e w' => e = .returned (.func (.func 69) #[] #[.pointer (some ⟨w.heap.size, 0, none⟩)]) ∧ w' = w.alloc (.cells #[.slice m.iA G.length m.ic] 34) := by
  have HMd := Lib.hid (isMade_any w base m h (by rw [hg.ilen]; exact hg.ne))
  have hq : w.cell? ⟨m.q, 0, none⟩ = some (.slice m.iA G.length m.ic) := by rw [← hg.ilen]; exact h.b.cell 0
  clear h hg
  go_enter Tryd.func25, Tryd.ntmps25
  go_wp2_with (first
    | (go_at_call 46; refine HMd.out.mono ?_; rintro e w3 ⟨rfl, hw3⟩; obtain rfl := hw3.symm)
    | (go_at_call 54; refine (valuesH_any _ _ _ _).mono ?_; rintro e w4 ⟨rfl, hw4⟩; have H4 := Lib.hid hw4; clear hw4))
  go_ret
  exact ⟨rfl, H4.out⟩
section
set_option maxRecDepth 100000
set_option maxHeartbeats 4000000
theorem vals1H_in (w : World) (rb : Nat) (A : Option Addr) (ps : List Hh) (c B : Nat) (hrb : rb < B) (hc : w.cell? ⟨rb, 0, none⟩ = some (.slice A ps.length c)) (hS : SeesV w B A (hsC ps)) (hm : ps.length ≤ 1000000) (hBw : B ≤ w.heap.size)
    (l : Nat) (J : Nat → World → Prop) (Jx : World → Prop) (W9 : World) (hW : Below B w W9) (hJ : ∀ k W1 W2, J k W1 → Below W1.heap.size W1 W2 → J k W2)
    (hY : ∀ k vs W1, k < ps.length → (∃ h : k < ps.length, vs = #[.agg (hC ps[k]).toArray]) → J k W1 → Below B W9 W1 → YieldAt Fence.wide (5 - 1 - 1) Tryd.prog l vs W1 fun e W' => (e = .returned (.bool true) ∧ J (k + 1) W' ∧ Below B W1 W') ∨ (e = .returned (.bool false) ∧ Jx W'))
    (h0 : J 0 W9) : CallsIn Fence.wide (5 - 1) Tryd.prog 69 #[.func (.yield l) #[] #[], .pointer (some ⟨rb, 0, none⟩)] W9 fun e W' => (∃ v, e = .returned v) ∧ ((J ps.length W' ∧ Below B W9 W') ∨ Jx W') := by
  have HY := Lib.hid hY
  have HJ := Lib.hid hJ
  have c9 : W9.cell? ⟨rb, 0, none⟩ = some (.slice A ps.length c) := (hW.cell (p := ⟨rb, 0, none⟩) hrb).trans hc
  have HS9 : Hid (SeesV W9 B A (hsC ps)) := hS.below hW
  have HM := Lib.hid hm
  have HBs : Hid (B ≤ W9.heap.size) := Nat.le_trans hBw hW.size
  have HF : Hid (∀ f, Fence.wide.fn f) := fun _ => trivial
  clear hY hW hc hS hm hJ hBw
  refine callsIn_of_wp Tryd.func69 rfl trivial ?_ rfl
  simp only [Tryd.ntmps69, List.size_toArray, List.length_cons, List.length_nil, Nat.reduceAdd, Nat.reduceSub, Array.replicate_succ, Array.replicate_zero, List.push_toArray, List.append_toArray, List.nil_append, List.cons_append]
  gi_wp2
  gi_loopw [7] (fun i wr => ∃ k : Nat, k ≤ ps.length ∧ i = .int .i64 k ∧ Hid (J k wr) ∧ Hid (Below B W9 wr)) (fun i _ => ps.length - (intOf i).toNat)
  case atStart => exact ⟨0, Nat.zero_le _, rfl, h0, Below.refl _ _⟩
  case round =>
    obtain ⟨k, hk, rfl, hJs, hnx⟩ := hrel
    by_cases hlt : k < ps.length
    · obtain ⟨b, off, hA, hb, hr⟩ := sees_hash (HS9.out.below hnx.out) hlt
      subst hA
      obtain ⟨x, hx⟩ : ∃ x, ps[k] = x := ⟨_, rfl⟩
      have h1 := hr k hlt
      rw [hx] at h1
      have HR1 := Lib.hid h1
      have HYk : Hid (∀ W1, Below wr.heap.size wr W1 → YieldAt Fence.wide (5 - 1 - 1) Tryd.prog l #[.agg (hC x).toArray] W1 fun e W' => (e = .returned (.bool true) ∧ J (k + 1) W' ∧ Below B W1 W') ∨ (e = .returned (.bool false) ∧ Jx W')) := fun W1 b1 => HY.out _ _ W1 hlt ⟨hlt, by rw [hx]⟩ (HJ.out _ _ _ hJs.out b1) (hnx.out.trans (b1.mono (Nat.le_trans HBs.out hnx.out.size)))
      have HSb : Hid (B ≤ wr.heap.size) := Nat.le_trans HBs.out hnx.out.size
      have hin : (k : Int) < (ps.length : Int) := by omega
      have hm9 := HM.out
      clear hx h1 hr
      gi_wp2_with (first
        | ((with_reducible show wpListIn _ _ _ _ _ (⟨some 10, _, _, _, _, _⟩ :: _) _ _); refine gi_load_mid HF.out rfl 23 (.tmp 9) rfl b (off + k * 32) rfl (hC x) _ HR1.out Tryd.underlying23 rfl (hszL x) ?_)
        | ((with_reducible show wpListIn _ _ _ _ _ (⟨none, .store 23 (.tmp 4) _, _, _, _, _⟩ :: _) _ _); refine gi_store_all HF.out rfl 23 (.tmp 4) (.tmp 10) rfl wr.heap.size 23 (hC zH).toArray (hC x).toArray rfl rfl (blkNew rfl rfl) (by rw [List.size_toArray, List.size_toArray, hC_len, hC_len]) (hszB x) (hC_one x) ?_; intro w5 h5 h6 h7; have X5 := Lib.hid h5; have K5 : Hid (Below wr.heap.size wr w5) := (nxAlloc (nxRefl wr) _).trans (h6.below (nxAlloc (nxRefl wr) (.cells (hC zH).toArray 23)).size (fun j hj e => by omega)); clear h5 h6 h7; obtain ⟨fn, tmps, assign, body, hy, hR⟩ := HYk.out w5 K5.out; have HRd := Lib.hid hR; clear hR HYk)
        | ((with_reducible show wpListIn _ _ _ _ _ (⟨some 12, _, _, _, _, _⟩ :: _) _ _); refine gi_load_mid HF.out rfl 23 (.tmp 4) rfl wr.heap.size 0 rfl (hC x) _ (kb_range X5.out) Tryd.underlying23 rfl (hszL x) ?_))
      refine HRd.out.mono ?_
      rintro e W3 (⟨rfl, hJ3, hk3⟩ | ⟨rfl, hJx3⟩)
      · have HJ3 := Lib.hid hJ3
        have V3 : Hid (Below B W9 W3) := hnx.out.trans ((K5.out.mono HSb.out).trans hk3)
        clear hJ3 hk3 hy HRd
        gi_wp2
        go_roundw
        case rel => exact ⟨k + 1, by omega, by go_num, HJ3.out, V3.out⟩
        case measure => simp [intOf] <;> omega
      · have HX3 := Lib.hid hJx3
        clear hJx3 hy HRd
        gi_wp2
        refine bodyPost_ret (results_none rfl _ _ _) rfl ?_
        exact ⟨⟨_, rfl⟩, .inr HX3.out⟩
    · obtain rfl : k = ps.length := by omega
      gi_wp2
      go_end0
      exact ⟨⟨_, rfl⟩, .inl ⟨hJs.out, hnx.out⟩⟩
end
end Go.Proofs.YtndkjmmmneianaaDoor
