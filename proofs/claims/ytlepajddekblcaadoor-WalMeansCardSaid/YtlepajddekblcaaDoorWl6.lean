/-
  wal: Batches, and what goes over them.
-/
import Derived.Test.YtlepajddekblcaaDoorWl5
import Derived.RangeFuncNested
import Derived.RangeFuncBound
import Derived.RangeFuncCalls
import Derived.RangeFuncLeaves
import Derived.Shelf.Abstract
import Derived.Shelf.RegionOpen
import Derived.WalkKit
import Derived.OwnWalkIn
import Derived.TacticsInMore
import Derived.LoopNIn
import Derived.LoopIn
namespace Go.Proofs.YtlepajddekblcaaDoor
open Go.RowKit Go.Shelf

section
attribute [local go_sem] Oper.semAt_some

theorem batches_any (w : World) (q d : Nat) (m : WlM) (h : WlOk w q d m) : Calls Tryd.prog 26 #[.pointer (some ⟨q, 0, none⟩)] w fun e w' => e = .returned (.func (.func 55) #[] #[.pointer (some ⟨w.heap.size, 0, none⟩)]) ∧ Blk w' w.heap.size 25 #[.slice m.A m.rows.length m.c] ∧ Below w.heap.size w w' := by
  have hmf : ∀ (fn : Fn) (first cap : Array Value) (w : World), (Instr.makeFunc fn first cap).run Tryd.prog w = .ok (.func fn first cap) w := fun _ _ _ _ => rfl
  have B0 : Hid (Blk (w.alloc (.cells #[.slice none 0 0] 25)) w.heap.size 25 #[.slice none 0 0]) := heap_alloc_new w _
  have V0 : Hid (Below w.heap.size w (w.alloc (.cells #[.slice none 0 0] 25))) := nxAlloc (nxRefl w) _
  have H0 : Hid (WlOk (w.alloc (.cells #[.slice none 0 0] 25)) q d m) := h.below V0.out
  have c2 : (w.alloc (.cells #[.slice none 0 0] 25)).cell? ⟨q, 2, none⟩ = some (.slice m.A m.rows.length m.c) := H0.out.b.cell 2
  clear h
  go_enter Tryd.func26, Tryd.ntmps26
  go_wp2_with (first
    | (go_at_call 49; refine (isOpen_any _ q d m H0.out).mono ?_; rintro e1 w1 ⟨rfl, hw1⟩; obtain rfl := hw1.symm))
  go_ret
  exact ⟨rfl, heap_alloc_new w _, nxAlloc (nxRefl w) _⟩

set_option maxRecDepth 100000 in
set_option maxHeartbeats 4000000 in
/-- The iterator: whatever a round does, if it keeps what lay below B. -/
theorem batches1_in (n l g B : Nat) (rows : List RowM) (A : Option Addr) (c : Nat) (J : Nat → World → Prop) (Jx : World → Prop) (W : World)
    (hbox : W.cell? ⟨g, 0, none⟩ = some (.slice A rows.length c)) (hBW : B ≤ W.heap.size) (hA : SeesV W B A (rowsC rows)) (hr : ∀ r ∈ rows, Sees W B r.A r.l ∧ r.l.length ≤ 100000000) (hn : rows.length ≤ 1000000000)
    (hJ : ∀ k W1 W2, J k W1 → Below W1.heap.size W1 W2 → J k W2)
    (hY : ∀ (k : Nat) (x : List UInt8) (A9 : Option Addr) (c9 : Nat) (W1 : World), (∃ hk : k < rows.length, rows[k].l = x) → J k W1 → Below B W W1 → (⟨A9, c9, x⟩ : RowM).own W1 → YieldAt Fence.wide (n - 1) Tryd.prog l #[.int .u64 ((k : Int) + 1), .slice A9 x.length c9] W1 fun e W' =>
      (e = .returned (.bool true) ∧ J (k + 1) W' ∧ Below B W1 W') ∨ (e = .returned (.bool false) ∧ Jx W'))
    (h0 : J 0 W) : CallsIn Fence.wide n Tryd.prog 55 #[.func (.yield l) #[] #[], .pointer (some ⟨g, 0, none⟩)] W fun e W' => (∃ v, e = .returned v) ∧ ((J rows.length W' ∧ Below B W W') ∨ Jx W') := by
  have HA := Lib.hid hA
  have HR := Lib.hid hr
  have HBW := Lib.hid hBW
  have HN := Lib.hid hn
  have HY := Lib.hid hY
  have HJ := Lib.hid hJ
  clear hA hr hY hJ hBW hn
  refine callsIn_of_wp Tryd.func55 rfl trivial ?_ rfl
  simp only [Tryd.ntmps55, List.size_toArray, List.length_cons, List.length_nil, Nat.reduceAdd, Nat.reduceSub, Array.replicate_succ, Array.replicate_zero, List.push_toArray, List.append_toArray, List.nil_append, List.cons_append]
  gi_wp2
  gi_loopw [7] (fun i wr => ∃ k : Nat, k ≤ rows.length ∧ i = .int .i64 k ∧ Hid (J k wr) ∧ Hid (Below B W wr)) (fun i _ => rows.length - (intOf i).toNat)
  case atStart => exact ⟨0, Nat.zero_le _, rfl, h0, Below.refl _ _⟩
  case round =>
    obtain ⟨k, hk, rfl, hJs, hnx⟩ := hrel
    by_cases hlt : k < rows.length
    · obtain ⟨b, off, hAe, hb, hcs⟩ := HA.out.at_ (k := k) (by rw [rowsC_len]; exact hlt)
      obtain ⟨r, hrk⟩ : ∃ r, rows[k] = r := ⟨_, rfl⟩
      have hck : W.cell? ⟨b, off + k, none⟩ = some (.slice r.A r.l.length r.c) := by
        rw [hcs k (by rw [rowsC_len]; exact hlt)]
        unfold rowsC
        rw [List.getElem_map, hrk]; rfl
      have hcx : wr.cell? ⟨b, off + k, none⟩ = some (.slice r.A r.l.length r.c) := (hnx.out.cell (p := ⟨b, off + k, none⟩) hb).trans hck
      have HRk : Hid (Sees W B r.A r.l ∧ r.l.length ≤ 100000000) := HR.out r (by rw [← hrk]; exact List.getElem_mem hlt)
      have HS : Hid (Sees wr wr.heap.size r.A r.l) := (HRk.out.1.below hnx.out).more (Nat.le_trans HBW.out hnx.out.size)
      have HK : Hid (∃ hk : k < rows.length, rows[k].l = r.l) := ⟨hlt, by rw [hrk]⟩
      have hn9 : rows.length ≤ 1000000000 := HN.out
      have hw1 : IntKind.u64.wrap (k : Int) = (k : Int) := by rw [IntKind.wrap_u64]; omega
      have hw2 : IntKind.u64.wrap ((k : Int) + 1) = (k : Int) + 1 := by rw [IntKind.wrap_u64]; omega
      have hw3 : IntKind.i64.wrap ((k : Int) + 1) = (k : Int) + 1 := by rw [IntKind.wrap_i64]; omega
      clear hck hcs hrk
      rw [hAe]
      gi_wp2_with (first
        | ((with_reducible show Fence.wide.fn 30 ∧ _); refine ⟨trivial, fun h => absurd h (by decide), ?_⟩; refine (callsIn_wide.2 (bclone_any wr wr.heap.size r.A r.l.length r.c r.l rfl HS.out (by have := HRk.out.2; omega))).mono ?_; unfold ClonePostD; rintro e w4 ⟨⟨A9, c9, x9⟩, rfl, hx9, ho9, hn9, hb4⟩; (have HX9 : Hid (x9 = r.l) := hx9); (have hv9 : RowM.v ⟨A9, c9, x9⟩ = .slice A9 x9.length c9 := rfl); rw [hv9]; clear hv9 hx9; have V4 : Hid (Below B W w4) := hnx.out.trans (hb4.mono (Nat.le_trans HBW.out hnx.out.size)); have VB4 : Hid (Below B wr w4) := hb4.mono (Nat.le_trans HBW.out hnx.out.size); (have hyy := HY.out k x9 A9 c9 w4 (by rw [HX9.out]; exact HK.out) (HJ.out k wr w4 hJs.out hb4) V4.out ho9); (obtain ⟨fn, tmps, assign, body, hy, hR⟩ := hyy); have HRd := Lib.hid hR; clear hR ho9 hn9 hb4))
      refine ⟨fun h => absurd h (by decide), HRd.out.mono ?_⟩
      rintro e W3 (⟨rfl, hJ3, hk3⟩ | ⟨rfl, hJx3⟩)
      · have HJ3 := Lib.hid hJ3
        have V3 : Hid (Below B W W3) := V4.out.trans hk3
        clear hJ3 hk3
        gi_wp2
        go_roundw
        case rel => exact ⟨k + 1, by omega, by go_num, HJ3.out, V3.out⟩
        case measure => simp [intOf] <;> omega
      · have HX3 := Lib.hid hJx3
        clear hJx3
        gi_wp2
        refine bodyPost_ret (results_none rfl _ _ _) rfl ?_
        exact ⟨⟨_, rfl⟩, .inr HX3.out⟩
    · obtain rfl : k = rows.length := by omega
      gi_wp2
      go_end0
      exact ⟨⟨_, rfl⟩, .inl ⟨hJs.out, hnx.out⟩⟩
end
end Go.Proofs.YtlepajddekblcaaDoor
