/-
  dag: few; the places of a row, gone over.
-/
import Derived.Test.YtndkjmmmneianaaDoorDgW
import Derived.Test.YtndkjmmmneianaaDoorShD
import Derived.Shelf.Spec.TrailingZeros
namespace Go.Proofs.YtndkjmmmneianaaDoor
open Go.RowKit Go.Shelf

theorem all_snoc : ∀ (l : List Nat) (j x : Nat), allFrom j (l ++ [x]) = allFrom j l ++ (bitsL x).map fun i => (j + l.length) * 64 + i
  | [], j, x => by simp [allFrom]
  | y :: l, j, x => by
    rw [List.cons_append, allFrom, allFrom, all_snoc l (j + 1) x, List.append_assoc, List.length_cons]
    congr 3
    funext i
    omega
theorem all_split : ∀ (ws : List Nat) (j k : Nat), ∃ r, allFrom j ws = allFrom j (ws.take k) ++ r
  | ws, j, 0 => ⟨allFrom j ws, by simp [allFrom]⟩
  | [], j, k + 1 => ⟨[], by simp [allFrom]⟩
  | x :: ws, j, k + 1 => by
    obtain ⟨r, hr⟩ := all_split ws (j + 1) k
    exact ⟨r, by rw [List.take_succ_cons, allFrom, allFrom, hr, List.append_assoc]⟩
/-- Which place comes next. -/
theorem all_next {ws : List Nat} {k x : Nat} {pre : List Nat} (hk : k < ws.length) (hb : bitsL ws[k] = pre ++ bitsL x) (hx : x ≠ 0) :
    ∃ h : (allFrom 0 (ws.take k)).length + pre.length < (allFrom 0 ws).length, (allFrom 0 ws)[(allFrom 0 (ws.take k)).length + pre.length] = k * 64 + Lib.ctz 64 x := by
  obtain ⟨r, hr⟩ := all_split ws 0 (k + 1)
  have e : allFrom 0 ws = allFrom 0 (ws.take k) ++ (pre.map (fun i => k * 64 + i) ++ ((k * 64 + Lib.ctz 64 x) :: ((bitsL (x &&& (x - 1))).map (fun i => k * 64 + i) ++ r))) := by
    rw [hr, List.take_succ_eq_append_getElem hk, all_snoc, hb, bitsL_step hx, List.append_assoc, List.map_append, List.map_cons, List.length_take]
    rw [show (0 + min k ws.length) = k by omega]
    simp
  refine ⟨by rw [e]; simp, ?_⟩
  simp only [e]
  rw [List.getElem_append_right (by omega), List.getElem_append_right (by simp)]
  simp
theorem tab_below {g B : Nat} {tab : List Nat} {w w' : World} (h : TabAt g tab w) (k : Below B w w') (hg : g < B) : TabAt g tab w' := fun j hj => (k.cell (p := ⟨g, j, none⟩) hg).trans (h j hj)
theorem tz_any (w : World) (hT : TabAt 0 Lib.deBruijn64tab w) (x : Nat) (hx : x < 18446744073709551616) : Calls Tryd.prog 64 #[.int .u64 x] w fun e w' => e = .returned (.int .i64 (Lib.ctz 64 x)) ∧ w' = w :=
  Any7.bits_TrailingZeros64 Tryd.tz64 x hx w fun _ => hT
section
set_option maxRecDepth 100000
set_option maxHeartbeats 4000000
theorem all1_in (w : World) (rb : Nat) (A : Option Addr) (ws : List Nat) (c B : Nat) (hBw : B ≤ w.heap.size) (hrb : rb < B) (hc : w.cell? ⟨rb, 0, none⟩ = some (.slice A ws.length c)) (hS : SeesV w B A (uC ws)) (hs : Small ws) (hm : ws.length ≤ 1000000) (hT : TabAt 0 Lib.deBruijn64tab w) (h0B : 0 < B)
    (l : Nat) (J : Nat → World → Prop) (Jx : World → Prop) (W9 : World) (hW : Below B w W9) (hJ : ∀ k W1 W2, J k W1 → Below W1.heap.size W1 W2 → J k W2)
    (hY : ∀ k vs W1, k < (allFrom 0 ws).length → (∃ h : k < (allFrom 0 ws).length, vs = #[.int .i64 ((allFrom 0 ws)[k] : Int)]) → J k W1 → Below B W9 W1 → YieldAt Fence.wide (5 - 1 - 1) Tryd.prog l vs W1 fun e W' => (e = .returned (.bool true) ∧ J (k + 1) W' ∧ Below B W1 W') ∨ (e = .returned (.bool false) ∧ Jx W'))
    (h0 : J 0 W9) : CallsIn Fence.wide (5 - 1) Tryd.prog 63 #[.func (.yield l) #[] #[], .pointer (some ⟨rb, 0, none⟩)] W9 fun e W' => (∃ v, e = .returned v) ∧ ((J (allFrom 0 ws).length W' ∧ Below B W9 W') ∨ Jx W') := by
  have HY := Lib.hid hY
  have HJ := Lib.hid hJ
  have c9 : W9.cell? ⟨rb, 0, none⟩ = some (.slice A ws.length c) := (hW.cell (p := ⟨rb, 0, none⟩) hrb).trans hc
  have HS9 : Hid (SeesV W9 B A (uC ws)) := hS.below hW
  have HT9 : Hid (TabAt 0 Lib.deBruijn64tab W9) := tab_below hT hW h0B
  have HB0 := Lib.hid h0B
  have HSm := Lib.hid hs
  have HM := Lib.hid hm
  clear hY hJ hW hc hS hT hBw h0B hs hm
  refine callsIn_of_wp Tryd.func63 rfl trivial ?_ rfl
  simp only [Tryd.ntmps63, List.size_toArray, List.length_cons, List.length_nil, Nat.reduceAdd, Nat.reduceSub, Array.replicate_succ, Array.replicate_zero, List.push_toArray, List.append_toArray, List.nil_append, List.cons_append]
  gi_wp2
  gi_loopw [7] (fun i wr => ∃ k : Nat, k ≤ ws.length ∧ i = .int .i64 k ∧ Hid (J (allFrom 0 (ws.take k)).length wr) ∧ Hid (Below B W9 wr)) (fun i _ => ws.length - (intOf i).toNat)
  case atStart => exact ⟨0, Nat.zero_le _, rfl, h0, Below.refl _ _⟩
  case round =>
    obtain ⟨k, hk, rfl, hJs, hnx⟩ := hrel
    by_cases hlt : k < ws.length
    · obtain ⟨b, off, rfl, hcw⟩ := uC_at (HS9.out.below hnx.out) hlt
      have hwk := HSm.out _ (List.getElem_mem hlt)
      have hin : (k : Int) < (ws.length : Int) := by omega
      obtain ⟨x0, hx0⟩ : ∃ x, ws[k] = x := ⟨_, rfl⟩
      rw [hx0] at hcw hwk
      have HX0 := Lib.hid hx0
      have HWk := Lib.hid hwk
      have hm9 := HM.out
      clear hx0 hwk
      gi_wp2
      gi_loopw [4] (fun xv wr => ∃ (x : Nat) (pre : List Nat), xv = .int .u64 x ∧ x < 18446744073709551616 ∧ Hid (bitsL x0 = pre ++ bitsL x) ∧ Hid (J ((allFrom 0 (ws.take k)).length + pre.length) wr) ∧ Hid (Below B W9 wr)) (fun xv _ => (intOf xv).toNat)
      case atStart => exact ⟨x0, [], rfl, HWk.out, rfl, hJs, hnx⟩
      case round =>
        clear hJs hnx hcw
        obtain ⟨x, pre, rfl, hx, HB, hJs, hnx⟩ := hrel
        by_cases hz : x = 0
        · subst hz
          have HN : Hid ((allFrom 0 (ws.take (k + 1))).length = (allFrom 0 (ws.take k)).length + pre.length) := by
            show _ = _
            have hb := HB.out
            rw [bitsL_zero, List.append_nil] at hb
            rw [List.take_succ_eq_append_getElem hlt, all_snoc, HX0.out, hb, List.length_append, List.length_map]
          gi_wp2
          go_roundw
          case rel => exact ⟨k + 1, by omega, by go_num, by rw [HN.out]; exact hJs.out, hnx.out⟩
          case measure => simp [intOf] <;> omega
        · obtain ⟨hi, hge⟩ := all_next (k := k) hlt (by rw [HX0.out]; exact HB.out) hz
          have hcz : Lib.ctz 64 x < 64 := (low_form hz hx).choose_spec.2
          have hTz := tz_any wr (tab_below HT9.out hnx.out HB0.out) x hx
          have HYk : Hid (∀ W1, J ((allFrom 0 (ws.take k)).length + pre.length) W1 → Below B W9 W1 → YieldAt Fence.wide (5 - 1 - 1) Tryd.prog l #[.int .i64 ((k : Int) * 64 + (Lib.ctz 64 x : Int))] W1 fun e W' => (e = .returned (.bool true) ∧ J ((allFrom 0 (ws.take k)).length + pre.length + 1) W' ∧ Below B W1 W') ∨ (e = .returned (.bool false) ∧ Jx W')) := fun W1 hj1 hb1 => HY.out _ _ W1 hi ⟨hi, by rw [hge]; push_cast; rfl⟩ hj1 hb1
          have HB2 : Hid (bitsL x0 = (pre ++ [Lib.ctz 64 x]) ++ bitsL (x &&& (x - 1))) := by show _ = _; rw [HB.out, bitsL_step hz]; simp
          have hll : x &&& (x - 1) < x := low_lt hz
          have HLl := Lib.hid hll
          have hsub : IntKind.u64.wrap ((x : Int) - 1) = ((x - 1 : Nat) : Int) := by rw [IntKind.wrap_u64]; omega
          have hand : bits BinOp.and IntKind.u64 (x : Int) ((x - 1 : Nat) : Int) = ((x &&& (x - 1) : Nat) : Int) := bits_and_u64_nat x (x - 1) hx (by omega)
          obtain ⟨y, hy⟩ : ∃ y, x &&& (x - 1) = y := ⟨_, rfl⟩
          obtain ⟨z, hzc⟩ : ∃ z, Lib.ctz 64 x = z := ⟨_, rfl⟩
          rw [hy] at hand HLl HB2
          rw [hzc] at hcz hTz HYk HB2
          have hb1 : ((x : Int) != 0) = true := by rw [bne_iff_ne]; omega
          have hb2 : ¬ ((x : Int) = 0) := by omega
          have hmul : IntKind.i64.wrap ((k : Int) * 64) = (k : Int) * 64 := IntWalk.i64_in _ (by omega)
          have hadd : IntKind.i64.wrap ((k : Int) * 64 + (z : Int)) = (k : Int) * 64 + (z : Int) := IntWalk.i64_in _ (by omega)
          have HTz := Lib.hid hTz
          have HXx := Lib.hid hx
          clear hi hge hcz hTz hll hy hzc hx
          gi_wp2_with (first
            | ((with_reducible show Fence.wide.fn 64 ∧ _); refine ⟨trivial, ?_⟩; refine (callsIn_wide.2 HTz.out).mono ?_; rintro e w5 ⟨rfl, hw5⟩; obtain rfl := hw5; (obtain ⟨fn, tmps, assign, body, hy, hR⟩ := HYk.out _ hJs.out hnx.out); have HRd := Lib.hid hR; clear hR))
          refine HRd.out.mono ?_
          rintro e W3 (⟨rfl, hJ3, hk3⟩ | ⟨rfl, hJx3⟩)
          · have HJ3 := Lib.hid hJ3
            have V3 : Hid (Below B W9 W3) := hnx.out.trans hk3
            clear hJ3 hk3 hy HRd
            gi_wp2
            go_roundw
            case rel => exact ⟨y, pre ++ [z], rfl, Nat.lt_trans HLl.out HXx.out, HB2, by rw [List.length_append, List.length_singleton, ← Nat.add_assoc]; exact HJ3, V3⟩
            case measure =>
              have := HLl.out
              simp [intOf]
              omega
          · have HX3 := Lib.hid hJx3
            clear hJx3 hy HRd
            gi_wp2
            refine bodyPost_ret (results_none rfl _ _ _) rfl ?_
            exact ⟨⟨_, rfl⟩, .inr HX3.out⟩
    · obtain rfl : k = ws.length := by omega
      rw [List.take_length] at hJs
      gi_wp2
      go_end0
      exact ⟨⟨_, rfl⟩, .inl ⟨hJs.out, hnx.out⟩⟩
end
end Go.Proofs.YtndkjmmmneianaaDoor
