/-
  block: slices.Equal of hashes, slices.EqualFunc of transactions; the program's SameHeader and Same.
-/
import Derived.Test.YtjcbihdhkaiidaaBlA
import Derived.Test.YtjcbihdhkaiidaaBkMb
import Derived.Test.YtjcbihdhkaiidaaBk7
namespace Go.Proofs.Ytjcbihdhkaiidaa
open Go.RowKit

theorem neq_hs {x y : List UInt8} (hx : x.length = 32) (hy : y.length = 32) : ∃ z : Bool, (z = false ↔ x = y) ∧ ∀ wq, (binOp .neq 24 (.agg (By x).toArray) (.agg (By y).toArray)).run Try.prog wq = .ok (.bool z) wq := by
  refine ⟨x != y, by simp, fun wq => ?_⟩
  rw [run_neq_bytes 32 24 5 Try.underlying24 Try.underlying5 Try.u8sz x y hx hy]
  rfl
set_option maxHeartbeats 2000000 in
set_option maxRecDepth 100000 in
theorem equalTxs_any (w : World) (A B : Option Addr) (l m : List TxR) (c d : Nat) (hA : SeesV w w.heap.size A (txsC l)) (hB : SeesV w w.heap.size B (txsC m)) (hl : ∀ i ∈ l, TxOk w i) (hm : ∀ i ∈ m, TxOk w i) (hmax : l.length ≤ 140737488355328) :
    Calls Try.prog 18 #[.slice A l.length c, .slice B m.length d, .func (.func 19) #[] #[]] w (RowsPost w (l.map txP) (m.map txP)) := by
  have HA := Lib.hid hA
  have HB := Lib.hid hB
  have HL := Lib.hid hl
  have HM := Lib.hid hm
  unfold RowsPost
  clear hA hB hl hm
  by_cases hn : (l.length : Int) = (m.length : Int)
  · have hnn : l.length = m.length := by omega
    have HN := Lib.hid hnn
    rw [← hnn]
    clear hn hnn
    go_enter Try.func18, Try.ntmps18
    go_wp2
    go_loopw [17] (fun iv wr => ∃ k : Nat, k ≤ l.length ∧ iv = .int .i64 k ∧ Hid ((l.take k).map txP = (m.take k).map txP) ∧ Hid (Below w.heap.size w wr)) (fun iv _ => l.length - (intOf iv).toNat)
    case atStart => exact ⟨0, by omega, rfl, rfl, nxRf w⟩
    case round =>
      obtain ⟨k, hk, rfl, HE, Hb⟩ := hrel
      by_cases hlt : k < l.length
      · have hltm : k < m.length := by rw [← HN.out]; exact hlt
        obtain ⟨b1, f1, rfl, hb1, hr1⟩ := txsC_row HA.out (by omega)
        obtain ⟨b2, f2, rfl, hb2, hr2⟩ := txsC_row HB.out (by omega)
        have r1 := rngB (hr1 k hlt) Hb.out hb1
        have r2 := rngB (hr2 k hltm) Hb.out hb2
        have o1 := (HL.out _ (List.getElem_mem hlt)).later Hb.out
        have o2 := (HM.out _ (List.getElem_mem hltm)).later Hb.out
        obtain ⟨x, hx⟩ : ∃ i, l[k] = i := ⟨_, rfl⟩
        obtain ⟨y, hy⟩ : ∃ i, m[k] = i := ⟨_, rfl⟩
        rw [hx] at r1 o1
        rw [hy] at r2 o2
        have HX := Lib.hid hx
        have HY := Lib.hid hy
        have R1 := Lib.hid r1
        have R2 := Lib.hid r2
        have O1 := Lib.hid o1
        have O2 := Lib.hid o2
        have Zx : Hid ((Try.prog.info? 37).map (·.size) = some (txC x).length) := Try.sizeTx
        have Zy : Hid ((Try.prog.info? 37).map (·.size) = some (txC y).length) := Try.sizeTx
        have Lb2 := Lib.hid (Nat.lt_of_lt_of_le hb2 Hb.out.size)
        have Sx : Hid ((Try.prog.info? 37).map (·.size) = some (txC x).toArray.size) := Zx
        have Sy : Hid ((Try.prog.info? 37).map (·.size) = some (txC y).toArray.size) := Zy
        have Qx : Hid (txZ.size = (txC x).toArray.size) := rfl
        have Qy : Hid (txZ.size = (txC y).toArray.size) := rfl
        clear hr1 hr2 r1 r2 o1 o2 hx hy hb1 hb2
        go_wp2_with (first
          | ((with_reducible show wpList _ _ _ (⟨some 21, _, _, _, _, _⟩ :: _) _ _); refine wpList_load_mid rfl 37 (.tmp 20) rfl b1 (f1 + k * 3) rfl (txC x) _ R1.out Try.underlying37 rfl Zx.out ?_)
          | ((with_reducible show wpList _ _ _ (⟨none, .store 37 (.tmp 8) _, _, _, _, _⟩ :: _) _ _); (show wpList _ _ _ _ _ (wr.alloc (.cells txZ 37))); refine wpList_store_all rfl 37 (.tmp 8) (.tmp 21) rfl wr.heap.size 37 txZ (txC x).toArray rfl rfl (heap_alloc_new wr _) Qx.out Sx.out (txC_one' x) ?_; intro w2 h5 h6 h7; have Rx := Lib.hid (blkR (vs := txC x) h5); have Lx := Lib.hid h5.lt; have V2 : Hid (Below wr.heap.size wr w2) := belowFresh h6; clear h5 h6 h7)
          | ((with_reducible show wpList _ _ _ (⟨some 25, _, _, _, _, _⟩ :: _) _ _); refine wpList_load_mid rfl 37 (.tmp 24) rfl b2 (f2 + k * 3) rfl (txC y) _ (rngB R2.out V2.out Lb2.out) Try.underlying37 rfl Zy.out ?_)
          | ((with_reducible show wpList _ _ _ (⟨none, .store 37 (.tmp 9) _, _, _, _, _⟩ :: _) _ _); (show wpList _ _ _ _ _ (w2.alloc (.cells txZ 37))); refine wpList_store_all rfl 37 (.tmp 9) (.tmp 25) rfl w2.heap.size 37 txZ (txC y).toArray rfl rfl (heap_alloc_new w2 _) Qy.out Sy.out (txC_one' y) ?_; intro w3 h5 h6 h7; have Ry := Lib.hid (blkR (vs := txC y) h5); have V23 : Hid (Below w2.heap.size w2 w3) := belowFresh h6; have V3 : Hid (Below wr.heap.size wr w3) := nxTr V2.out V23.out; have Rx3 := Lib.hid (rngB Rx.out V23.out Lx.out); clear h5 h6 h7)
          | ((with_reducible show wpList _ _ _ (⟨some 27, _, _, _, _, _⟩ :: _) _ _); refine wpList_load_mid rfl 37 (.tmp 8) rfl wr.heap.size 0 rfl (txC x) _ Rx3.out Try.underlying37 rfl Zx.out ?_)
          | ((with_reducible show wpList _ _ _ (⟨some 28, _, _, _, _, _⟩ :: _) _ _); refine wpList_load_mid rfl 37 (.tmp 9) rfl w2.heap.size 0 rfl (txC y) _ Ry.out Try.underlying37 rfl Zy.out ?_)
          | (go_at_call 19; refine (same_any w3 x y (O1.out.later V3.out) (O2.out.later V3.out)).mono ?_; unfold SamePost; rintro e w4 ⟨z, rfl, hz, hb⟩; have V4 : Hid (Below w.heap.size w w4) := nxTr Hb.out (nxTr V3.out hb); have HZ := Lib.hid hz; clear hz hb; cases z))
        · go_ret
          refine ⟨false, rfl, ⟨fun h => (by cases h), fun h => ?_⟩, V4.out⟩
          have h1 : (l.map txP)[k]? = (m.map txP)[k]? := by rw [h]
          rw [List.getElem?_map, List.getElem?_map, List.getElem?_eq_getElem hlt, List.getElem?_eq_getElem (by rw [← HN.out]; exact hlt), HX.out, HY.out] at h1
          exact HZ.out.2 (by simpa using h1)
        · go_roundw
          case rel => exact ⟨k + 1, by omega, by go_num, map_next hlt (by rw [← HN.out]; exact hlt) HE.out (by rw [HX.out, HY.out]; exact HZ.out.1 (by first | rfl | trivial)), V4.out⟩
          case measure => simp [intOf] <;> omega
      · obtain rfl : k = l.length := by omega
        go_wp2
        go_ret
        have h := HE.out
        rw [List.take_length, HN.out, List.take_length] at h
        exact ⟨true, rfl, ⟨fun _ => h, fun _ => rfl⟩, Hb.out⟩
  · have hne : l.map txP ≠ m.map txP := fun h => by have := congrArg List.length h; simp at this; omega
    have HNe := Lib.hid hne
    clear hne
    go_enter Try.func18, Try.ntmps18
    go_wp2
    go_ret
    exact ⟨false, rfl, ⟨fun h => (by cases h), fun h => absurd h HNe.out⟩, nxRf w⟩

set_option maxHeartbeats 2000000 in
set_option maxRecDepth 100000 in
theorem equalHs_any (w : World) (A B : Option Addr) (l m : List (List UInt8)) (c d : Nat) (hA : SeesV w w.heap.size A (Hs l)) (hB : SeesV w w.heap.size B (Hs m)) (hl : All32 l) (hm : All32 m) (hmax : l.length ≤ 140737488355328) :
    Calls Try.prog 20 #[.slice A l.length c, .slice B m.length d] w (RowsPost w l m) := by
  have HA := Lib.hid hA
  have HB := Lib.hid hB
  have HL := Lib.hid hl
  have HM := Lib.hid hm
  unfold RowsPost
  clear hA hB hl hm
  by_cases hn : (l.length : Int) = (m.length : Int)
  · have hnn : l.length = m.length := by omega
    have HN := Lib.hid hnn
    rw [← hnn]
    clear hn hnn
    go_enter Try.func20, Try.ntmps20
    go_wp2
    go_loopw [13] (fun iv wr => ∃ k : Nat, k ≤ l.length ∧ iv = .int .i64 k ∧ Hid ((l.take k).map id = (m.take k).map id) ∧ Hid (Below w.heap.size w wr)) (fun iv _ => l.length - (intOf iv).toNat)
    case atStart => exact ⟨0, by omega, rfl, rfl, nxRf w⟩
    case round =>
      obtain ⟨k, hk, rfl, HE, Hb⟩ := hrel
      by_cases hlt : k < l.length
      · have hltm : k < m.length := by rw [← HN.out]; exact hlt
        have hin : (k : Int) < (l.length : Int) := by omega
        obtain ⟨b1, f1, rfl, hb1, hr1⟩ := SeesV.hash HA.out HL.out hlt
        obtain ⟨b2, f2, rfl, hb2, hr2⟩ := SeesV.hash HB.out HM.out hltm
        have r1 := rngB (hr1 k hlt) Hb.out hb1
        have r2 := rngB (hr2 k hltm) Hb.out hb2
        have o1 := HL.out.get hlt
        have o2 := HM.out.get hltm
        obtain ⟨x, hx⟩ : ∃ i, l[k] = i := ⟨_, rfl⟩
        obtain ⟨y, hy⟩ : ∃ i, m[k] = i := ⟨_, rfl⟩
        rw [hx] at r1 o1
        rw [hy] at r2 o2
        have HX := Lib.hid hx
        have HY := Lib.hid hy
        have R1 := Lib.hid r1
        have R2 := Lib.hid r2
        have Zx : Hid ((Try.prog.info? 24).map (·.size) = some (By x).length) := hsz o1
        have Zy : Hid ((Try.prog.info? 24).map (·.size) = some (By y).length) := hsz o2
        obtain ⟨z, hz, hneq⟩ := neq_hs o1 o2
        have HZ := Lib.hid hz
        clear hr1 hr2 r1 r2 o1 o2 hx hy hb1 hb2 hz
        go_wp2_with fail
        refine wp_region_held_drew (S := fun W => W.rangeAt b1 (f1 + k * 32) (By x) ∧ W.rangeAt b2 (f2 + k * 32) (By y)) (by kernel_rfl) ⟨R1.out, R2.out⟩ (fun hHeld => ?_)
        refine wpAnyH_take (i := 0) (oi := ⟨_, _, _, _, _, _⟩) (v := ?_) rfl (by kernel_rfl) (by kernel_rfl) (by kernel_rfl) (fun _ _ _ h => h) (Or.inl ⟨by rfl, ?_⟩) (by assumption) ?_
        rotate_left 1
        · intro W hSw
          try dsimp only at hSw
          go_simp
          try with_reducible rfl
        try simp only [Act.put, List.setIfInBounds_toArray, List.set_cons_zero, List.set_cons_succ]
        refine wpAnyH_take (i := 1) (oi := ⟨_, _, _, _, _, _⟩) (v := ?_) rfl (by kernel_rfl) (by kernel_rfl) (by kernel_rfl) (fun _ _ _ h => h) (Or.inl ⟨by rfl, ?_⟩) (by assumption) ?_
        rotate_left 1
        · intro W hSw
          try dsimp only at hSw
          go_simp
          try with_reducible rfl
        try simp only [Act.put, List.setIfInBounds_toArray, List.set_cons_zero, List.set_cons_succ]
        refine wpAnyH_take (i := 2) (oi := ⟨_, _, _, _, _, _⟩) (v := ?_) rfl (by kernel_rfl) (by kernel_rfl) (by kernel_rfl) (fun _ _ _ h => h) (Or.inl ⟨by rfl, ?_⟩) (by assumption) ?_
        rotate_left 1
        · intro W hSw
          try dsimp only at hSw
          go_simp
          try with_reducible rfl
        try simp only [Act.put, List.setIfInBounds_toArray, List.set_cons_zero, List.set_cons_succ]
        refine wpAnyH_take (i := 3) (oi := ⟨_, _, _, _, _, _⟩) (v := .agg (By x).toArray) rfl (by kernel_rfl) (by kernel_rfl) (by kernel_rfl) (fun _ _ _ h => h) (yieldsIf_load_mid (by rfl) 24 (.tmp 18) rfl (b1) (f1 + k * 32) rfl (By x) _ (fun W h => h.1) Try.underlying24 rfl Zx.out) (by assumption) ?_
        try simp only [Act.put, List.setIfInBounds_toArray, List.set_cons_zero, List.set_cons_succ]
        refine wpAnyH_take (i := 4) (oi := ⟨_, _, _, _, _, _⟩) (v := ?_) rfl (by kernel_rfl) (by kernel_rfl) (by kernel_rfl) (fun _ _ _ h => h) (Or.inl ⟨by rfl, ?_⟩) (by assumption) ?_
        rotate_left 1
        · intro W hSw
          try dsimp only at hSw
          go_simp
          try with_reducible rfl
        try simp only [Act.put, List.setIfInBounds_toArray, List.set_cons_zero, List.set_cons_succ]
        refine wpAnyH_take (i := 5) (oi := ⟨_, _, _, _, _, _⟩) (v := ?_) rfl (by kernel_rfl) (by kernel_rfl) (by kernel_rfl) (fun _ _ _ h => h) (Or.inl ⟨by rfl, ?_⟩) (by assumption) ?_
        rotate_left 1
        · intro W hSw
          try dsimp only at hSw
          go_simp
          try with_reducible rfl
        try simp only [Act.put, List.setIfInBounds_toArray, List.set_cons_zero, List.set_cons_succ]
        refine wpAnyH_take (i := 6) (oi := ⟨_, _, _, _, _, _⟩) (v := ?_) rfl (by kernel_rfl) (by kernel_rfl) (by kernel_rfl) (fun _ _ _ h => h) (Or.inl ⟨by rfl, ?_⟩) (by assumption) ?_
        rotate_left 1
        · intro W hSw
          try dsimp only at hSw
          go_simp
          try with_reducible rfl
        try simp only [Act.put, List.setIfInBounds_toArray, List.set_cons_zero, List.set_cons_succ]
        refine wpAnyH_take (i := 7) (oi := ⟨_, _, _, _, _, _⟩) (v := .agg (By y).toArray) rfl (by kernel_rfl) (by kernel_rfl) (by kernel_rfl) (fun _ _ _ h => h) (yieldsIf_load_mid (by rfl) 24 (.tmp 22) rfl (b2) (f2 + k * 32) rfl (By y) _ (fun W h => h.2) Try.underlying24 rfl Zy.out) (by assumption) ?_
        try simp only [Act.put, List.setIfInBounds_toArray, List.set_cons_zero, List.set_cons_succ]
        refine wpAnyH_take (i := 8) (oi := ⟨_, _, _, _, _, _⟩) (v := ?_) rfl (by kernel_rfl) (by kernel_rfl) (by kernel_rfl) (fun _ _ _ h => h) (Or.inl ⟨by rfl, ?_⟩) (by assumption) ?_
        rotate_left 1
        · intro W hSw
          try dsimp only at hSw
          go_simp
          try with_reducible rfl
        try simp only [Act.put, List.setIfInBounds_toArray, List.set_cons_zero, List.set_cons_succ]
        refine wpAnyH_done (by kernel_rfl) ?_ _
        have Hbd : Hid (Below w.heap.size w wr.drew) := nxDrI Hb.out
        cases z with
        | true =>
          go_wp2
          go_ret
          refine ⟨false, rfl, ⟨fun h => (by cases h), fun h => ?_⟩, Hbd.out⟩
          have h1 : l[k]? = m[k]? := by rw [h]
          rw [List.getElem?_eq_getElem hlt, List.getElem?_eq_getElem (by rw [← HN.out]; exact hlt), HX.out, HY.out] at h1
          have h2 := HZ.out.2 (by simpa using h1)
          cases h2
        | false =>
          go_wp2
          go_roundw
          case rel => exact ⟨k + 1, by omega, by go_num, map_next hlt (by rw [← HN.out]; exact hlt) HE.out (by rw [HX.out, HY.out]; exact HZ.out.1 (by first | rfl | trivial)), Hbd.out⟩
          case measure => simp [intOf] <;> omega
      · obtain rfl : k = l.length := by omega
        go_wp2
        go_ret
        have h := HE.out
        rw [List.take_length, HN.out, List.take_length, List.map_id, List.map_id] at h
        exact ⟨true, rfl, ⟨fun _ => h, fun _ => rfl⟩, Hb.out⟩
  · have hne : l ≠ m := fun h => by have := congrArg List.length h; omega
    have HNe := Lib.hid hne
    clear hne
    go_enter Try.func20, Try.ntmps20
    go_wp2
    go_ret
    exact ⟨false, rfl, ⟨fun h => (by cases h), fun h => absurd h HNe.out⟩, nxRf w⟩

theorem wpList_eql_hs {ops : Array Oper} {rest : List Oper} {op : Oper} {e : Act} {w : World} {Q : Exit → Act → World → Prop} (hw : Region.wanted op (yielded ops e.tmps) = true) (x y : Operand) {t : TypeId} (ho : op.op = .binOp .eql 24 x y t)
    (a b : List UInt8) (ha : a.length = 32) (hb : b.length = 32) (hx : e.eval x = .agg (By a).toArray) (hy : e.eval y = .agg (By b).toArray)
    (h : wpList Try.prog ops Q rest (e.put op.dst (.bool (a == b))) w) : wpList Try.prog ops Q (op :: rest) e w := by
  refine wpList_step fun _ hK => ?_
  rw [if_pos hw]
  unfold Oper.wp execOp
  have hr : (binOp .eql 24 (.agg (By a).toArray) (.agg (By b).toArray)).run Try.prog w = .ok (.bool (a == b)) w := run_eql_bytes 32 24 5 Try.underlying24 Try.underlying5 Try.u8sz a b ha hb
  have hg : (eqGuard .eql 24 x y (.agg (By a).toArray) (.agg (By b).toArray)).run Try.prog w = .ok () w := by kernel_rfl
  simp only [ho, hx, hy, Sem.run_bind, hg, hr, Result.andThen_ok]
  exact hK _ _ h
def SameHPost (w : World) (a b : HdP) (e : Ending) (w' : World) : Prop := ∃ z : Bool, e = .returned (.bool z) ∧ (z = true ↔ a = b) ∧ Below w.heap.size w w'
set_option maxHeartbeats 4000000 in
set_option maxRecDepth 100000 in
theorem psameh_any (w : World) (a b : HdR) (ha : HdOk w a) (hb : HdOk w b) : Calls Try.prog 9 #[.agg (hdC a).toArray, .agg (hdC b).toArray] w (SameHPost w a.p b.p) := by
  have hb0 : Below w.heap.size w ((w.alloc (.cells (hdC a).toArray 27)).alloc (.cells (hdC b).toArray 27)) := nxAl (nxAl (nxRf w) _) _
  have Hb0 := Lib.hid hb0
  have hB2 : Blk ((w.alloc (.cells (hdC a).toArray 27)).alloc (.cells (hdC b).toArray 27)) w.heap.size 27 (hdC a).toArray := (show Blk (w.alloc (.cells (hdC a).toArray 27)) _ _ _ from heap_alloc_new w _).alloc _
  have hB3 : Blk ((w.alloc (.cells (hdC a).toArray 27)).alloc (.cells (hdC b).toArray 27)) (w.heap.size + 1) 27 (hdC b).toArray := Blk.newAt (by simp) rfl
  have HRa := Lib.hid (HdRow.of (blkR (vs := hdC a) hB2) ha.f)
  have HRb := Lib.hid (HdRow.of (blkR (vs := hdC b) hB3) hb.f)
  have L0 := Lib.hid hB2.lt
  have L1 := Lib.hid hB3.lt
  have FA := Lib.hid ha.f
  have FB := Lib.hid hb.f
  have HMa := Lib.hid ha.m
  have HSa := Lib.hid ((ha.s.later hb0).more hb0.size)
  have HSb := Lib.hid ((hb.s.later hb0).more hb0.size)
  have c0 := HRa.out.ps
  have c1 := HRb.out.ps
  unfold SameHPost
  clear hb0 hB2 hB3 ha hb
  go_enter Try.func9, Try.ntmps9
  go_wp2_with (first
    | (go_at_call 20; refine (equalHs_any _ a.A b.A a.p.ps b.p.ps a.c b.c HSa.out HSb.out FA.out.ps FB.out.ps HMa.out).mono ?_; unfold RowsPost; rintro e w2 ⟨z1, rfl, hz1, hb⟩; have V2 : Hid (Below ((w.alloc (.cells (hdC a).toArray 27)).alloc (.cells (hdC b).toArray 27)).heap.size ((w.alloc (.cells (hdC a).toArray 27)).alloc (.cells (hdC b).toArray 27)) w2) := hb; have Z1 := Lib.hid hz1; have r1 := Lib.hid (HRa.out.below V2.out L0.out); have r2 := Lib.hid (HRb.out.below V2.out L1.out); have n0 := r1.out.nonce; have n1 := r2.out.nonce; clear hz1 hb; cases z1)
    | ((with_reducible show wpList _ _ _ (⟨some 12, _, _, _, _, _⟩ :: _) _ _); refine wpList_load_want (by rfl) 24 (.tmp 11) rfl (w.heap.size) 1 rfl (By a.p.rt) _ (r1.out.rt) Try.underlying24 rfl (hsz FA.out.rt) ?_)
    | ((with_reducible show wpList _ _ _ (⟨some 14, _, _, _, _, _⟩ :: _) _ _); refine wpList_load_want (by rfl) 24 (.tmp 13) rfl (w.heap.size + 1) 1 rfl (By b.p.rt) _ (r2.out.rt) Try.underlying24 rfl (hsz FB.out.rt) ?_)
    | ((with_reducible show wpList _ _ _ (⟨some 15, _, _, _, _, _⟩ :: _) _ _); refine wpList_eql_hs (by rfl) (.tmp 12) (.tmp 14) rfl a.p.rt b.p.rt FA.out.rt FB.out.rt rfl rfl ?_; obtain ⟨y0, hy0⟩ : ∃ z, (a.p.rt == b.p.rt) = z := ⟨_, rfl⟩; rw [hy0]; have Y0 := Lib.hid hy0; clear hy0; cases y0)
    | ((with_reducible show wpList _ _ _ (⟨some 19, _, _, _, _, _⟩ :: _) _ _); refine wpList_load_want (by rfl) 24 (.tmp 18) rfl (w.heap.size) 33 rfl (By a.p.ac) _ (r1.out.ac) Try.underlying24 rfl (hsz FA.out.ac) ?_)
    | ((with_reducible show wpList _ _ _ (⟨some 21, _, _, _, _, _⟩ :: _) _ _); refine wpList_load_want (by rfl) 24 (.tmp 20) rfl (w.heap.size + 1) 33 rfl (By b.p.ac) _ (r2.out.ac) Try.underlying24 rfl (hsz FB.out.ac) ?_)
    | ((with_reducible show wpList _ _ _ (⟨some 22, _, _, _, _, _⟩ :: _) _ _); refine wpList_eql_hs (by rfl) (.tmp 19) (.tmp 21) rfl a.p.ac b.p.ac FA.out.ac FB.out.ac rfl rfl ?_; obtain ⟨y1, hy1⟩ : ∃ z, (a.p.ac == b.p.ac) = z := ⟨_, rfl⟩; rw [hy1]; have Y1 := Lib.hid hy1; clear hy1; cases y1)
    | ((with_reducible show wpList _ _ _ (⟨some 26, _, _, _, _, _⟩ :: _) _ _); refine wpList_load_want (by rfl) 24 (.tmp 25) rfl (w.heap.size) 65 rfl (By a.p.co) _ (r1.out.co) Try.underlying24 rfl (hsz FA.out.co) ?_)
    | ((with_reducible show wpList _ _ _ (⟨some 28, _, _, _, _, _⟩ :: _) _ _); refine wpList_load_want (by rfl) 24 (.tmp 27) rfl (w.heap.size + 1) 65 rfl (By b.p.co) _ (r2.out.co) Try.underlying24 rfl (hsz FB.out.co) ?_)
    | ((with_reducible show wpList _ _ _ (⟨some 29, _, _, _, _, _⟩ :: _) _ _); refine wpList_eql_hs (by rfl) (.tmp 26) (.tmp 28) rfl a.p.co b.p.co FA.out.co FB.out.co rfl rfl ?_; obtain ⟨y2, hy2⟩ : ∃ z, (a.p.co == b.p.co) = z := ⟨_, rfl⟩; rw [hy2]; have Y2 := Lib.hid hy2; clear hy2; cases y2)
    | ((with_reducible show wpList _ _ _ (⟨some 33, _, _, _, _, _⟩ :: _) _ _); refine wpList_load_want (by rfl) 24 (.tmp 32) rfl (w.heap.size) 97 rfl (By a.p.mi) _ (r1.out.mi) Try.underlying24 rfl (hsz FA.out.mi) ?_)
    | ((with_reducible show wpList _ _ _ (⟨some 35, _, _, _, _, _⟩ :: _) _ _); refine wpList_load_want (by rfl) 24 (.tmp 34) rfl (w.heap.size + 1) 97 rfl (By b.p.mi) _ (r2.out.mi) Try.underlying24 rfl (hsz FB.out.mi) ?_)
    | ((with_reducible show wpList _ _ _ (⟨some 36, _, _, _, _, _⟩ :: _) _ _); refine wpList_eql_hs (by rfl) (.tmp 33) (.tmp 35) rfl a.p.mi b.p.mi FA.out.mi FB.out.mi rfl rfl ?_; obtain ⟨y3, hy3⟩ : ∃ z, (a.p.mi == b.p.mi) = z := ⟨_, rfl⟩; rw [hy3]; have Y3 := Lib.hid hy3; clear hy3; cases y3))
  · go_ret
    exact ⟨false, rfl, ⟨fun h => (by cases h), fun h => Z1.out.2 (congrArg HdP.ps h)⟩, nxTr Hb0.out V2.out⟩
  · go_ret
    exact ⟨false, rfl, ⟨fun h => (by cases h), fun h => by have q := Y0.out; rw [h, beq_self_eq_true] at q; cases q⟩, nxTr Hb0.out V2.out⟩
  · go_ret
    exact ⟨false, rfl, ⟨fun h => (by cases h), fun h => by have q := Y1.out; rw [h, beq_self_eq_true] at q; cases q⟩, nxTr Hb0.out V2.out⟩
  · go_ret
    exact ⟨false, rfl, ⟨fun h => (by cases h), fun h => by have q := Y2.out; rw [h, beq_self_eq_true] at q; cases q⟩, nxTr Hb0.out V2.out⟩
  · go_ret
    exact ⟨false, rfl, ⟨fun h => (by cases h), fun h => by have q := Y3.out; rw [h, beq_self_eq_true] at q; cases q⟩, nxTr Hb0.out V2.out⟩
  · go_ret
    refine ⟨_, rfl, ?_, nxTr Hb0.out V2.out⟩
    have h0 := Z1.out.1 (by first | rfl | trivial)
    constructor
    · intro h
      have h5 : a.p.nonce = b.p.nonce := by have := eq_of_beq h; omega
      exact of_decide_eq_true (hdp_eq h0 (eq_of_beq Y0.out) (eq_of_beq Y1.out) (eq_of_beq Y2.out) (eq_of_beq Y3.out) h5)
    · intro h
      rw [h]
      exact beq_self_eq_true _
def BSameP (w : World) (a b : BkR) (e : Ending) (w' : World) : Prop := ∃ z : Bool, e = .returned (.bool z) ∧ (z = true ↔ bkD a = bkD b) ∧ Below w.heap.size w w'
set_option maxHeartbeats 4000000 in
set_option maxRecDepth 100000 in
theorem psame_any (w : World) (a b : BkR) (ha : BkOk w a) (hb : BkOk w b) : Calls Try.prog 8 #[.agg (bkC a).toArray, .agg (bkC b).toArray] w (BSameP w a b) := by
  have hb0 : Below w.heap.size w ((w.alloc (.cells (bkC a).toArray 30)).alloc (.cells (bkC b).toArray 30)) := nxAl (nxAl (nxRf w) _) _
  have Hb0 := Lib.hid hb0
  have hB2 : Blk ((w.alloc (.cells (bkC a).toArray 30)).alloc (.cells (bkC b).toArray 30)) w.heap.size 30 (bkC a).toArray := (show Blk (w.alloc (.cells (bkC a).toArray 30)) _ _ _ from heap_alloc_new w _).alloc _
  have hB3 : Blk ((w.alloc (.cells (bkC a).toArray 30)).alloc (.cells (bkC b).toArray 30)) (w.heap.size + 1) 30 (bkC b).toArray := Blk.newAt (by simp) rfl
  have HRa := Lib.hid (BkRow.of (blkR (vs := bkC a) hB2) ha.h.f)
  have HRb := Lib.hid (BkRow.of (blkR (vs := bkC b) hB3) hb.h.f)
  have L0 := Lib.hid hB2.lt
  have L1 := Lib.hid hB3.lt
  have KA := Lib.hid (ha.later hb0)
  have KB := Lib.hid (hb.later hb0)
  have ZA := Lib.hid (hdSz ha.h.f)
  have ZB := Lib.hid (hdSz hb.h.f)
  have HMa := Lib.hid ha.t.m
  unfold BSameP
  clear hb0 hB2 hB3 ha hb
  go_enter Try.func8, Try.ntmps8
  go_wp2_with (first
    | ((with_reducible show wpList _ _ _ (⟨some 6, _, _, _, _, _⟩ :: _) _ _); refine wpList_load_want (by rfl) 27 (.tmp 5) rfl w.heap.size 0 rfl (hdC a.h) _ HRa.out.r Try.underlying27 rfl ZA.out ?_)
    | ((with_reducible show wpList _ _ _ (⟨some 8, _, _, _, _, _⟩ :: _) _ _); refine wpList_load_want (by rfl) 27 (.tmp 7) rfl (w.heap.size + 1) 0 rfl (hdC b.h) _ HRb.out.r Try.underlying27 rfl ZB.out ?_)
    | (go_at_call 9; refine (psameh_any _ a.h b.h KA.out.h KB.out.h).mono ?_; unfold SameHPost; rintro e w2 ⟨z1, rfl, hz1, hb⟩; have V2 : Hid (Below ((w.alloc (.cells (bkC a).toArray 30)).alloc (.cells (bkC b).toArray 30)).heap.size ((w.alloc (.cells (bkC a).toArray 30)).alloc (.cells (bkC b).toArray 30)) w2) := hb; have Z1 := Lib.hid hz1; have n0 := (HRa.out.below V2.out L0.out).t; have n1 := (HRb.out.below V2.out L1.out).t; clear hz1 hb; cases z1)
    | (go_at_call 18; refine (equalTxs_any w2 a.B b.B a.txs b.txs a.d b.d (KA.out.later V2.out).t.s (KB.out.later V2.out).t.s (KA.out.later V2.out).t.each (KB.out.later V2.out).t.each HMa.out).mono ?_; unfold RowsPost; rintro e w3 ⟨z2, rfl, hz2, hb⟩; have V3 : Hid (Below ((w.alloc (.cells (bkC a).toArray 30)).alloc (.cells (bkC b).toArray 30)).heap.size ((w.alloc (.cells (bkC a).toArray 30)).alloc (.cells (bkC b).toArray 30)) w3) := nxTr V2.out hb; have Z2 := Lib.hid hz2; clear hz2 hb))
  · go_ret
    exact ⟨false, rfl, ⟨fun h => (by cases h), fun h => Z1.out.2 (congrArg Prod.fst h)⟩, nxTr Hb0.out V2.out⟩
  · go_ret
    refine ⟨_, rfl, ?_, nxTr Hb0.out V3.out⟩
    have h0 := Z1.out.1 (by first | rfl | trivial)
    rw [Z2.out]
    unfold bkD
    rw [h0]
    simp
end Go.Proofs.Ytjcbihdhkaiidaa
