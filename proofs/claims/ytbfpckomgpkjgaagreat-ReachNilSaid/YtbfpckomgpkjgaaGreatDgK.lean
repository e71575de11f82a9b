/-
  dag: the document's In, Equal.
-/
import Derived.Test.YtbfpckomgpkjgaaGreatPRnQ14
namespace Go.Proofs.YtbfpckomgpkjgaaGreat
open Go.RowKit

theorem yieldsIf_eqH {ops : Array Oper} {S : World → Prop} {op : Oper} {a : Act} (hw : Region.wanted op (yielded ops a.tmps) = true) (t : TypeId) (x y : Operand) (ho : op.op = .binOp .eql 23 x y 23)
    (l m : Hh) (hx : a.eval x = .agg (hC l).toArray) (hy : a.eval y = .agg (hC m).toArray) (z : Bool) (hz : decide (l = m) = z) : YieldsIf Tryz.prog ops S op (.bool (z)) a :=
  .inl ⟨hw, fun w _ => by
    unfold execOp
    have hq : (eqGuard .eql 23 x y (.agg (hC l).toArray) (.agg (hC m).toArray)).run Tryz.prog w = .ok () w := by simp [eqGuard, Tryz.deqgH]
    have he : (l.1 == m.1) = z := by rw [← hz, Bool.eq_iff_iff, beq_iff_eq, decide_eq_true_eq]; exact ⟨fun h => Subtype.ext h, fun h => by rw [h]⟩
    unfold hC at hx hy hq
    simp only [ho, hx, hy, Sem.run_bind, Sem.run_pure, Result.andThen_ok, hq, run_eql_bytes 32 23 5 Tryz.underlying23 Tryz.underlying5 Tryz.u8size l.1 m.1 l.2 m.2, he]⟩
theorem yieldsIf_neH {ops : Array Oper} {S : World → Prop} {op : Oper} {a : Act} (hw : Region.wanted op (yielded ops a.tmps) = true) (t : TypeId) (x y : Operand) (ho : op.op = .binOp .neq 23 x y 23)
    (l m : Hh) (hx : a.eval x = .agg (hC l).toArray) (hy : a.eval y = .agg (hC m).toArray) (z : Bool) (hz : decide (l = m) = z) : YieldsIf Tryz.prog ops S op (.bool (!z)) a :=
  .inl ⟨hw, fun w _ => by
    unfold execOp
    have hq : (eqGuard .neq 23 x y (.agg (hC l).toArray) (.agg (hC m).toArray)).run Tryz.prog w = .ok () w := by simp [eqGuard, Tryz.deqgH]
    have he : (l.1 == m.1) = z := by rw [← hz, Bool.eq_iff_iff, beq_iff_eq, decide_eq_true_eq]; exact ⟨fun h => Subtype.ext h, fun h => by rw [h]⟩
    unfold hC at hx hy hq
    simp only [ho, hx, hy, Sem.run_bind, Sem.run_pure, Result.andThen_ok, hq, run_neq_bytes 32 23 5 Tryz.underlying23 Tryz.underlying5 Tryz.u8size l.1 m.1 l.2 m.2, bne, he]⟩

set_option maxRecDepth 100000 in
set_option maxHeartbeats 2000000 in
theorem rin_any (w : World) (A : Option Addr) (l : List Hh) (c : Nat) (x : Hh) (hS : SeesV w w.heap.size A (hsC l)) (hmax : l.length ≤ 1000000) : Calls Tryz.prog 34 #[.slice A l.length c, .agg (hC x).toArray] w fun e w' => e = .returned (.bool (decide (x ∈ l))) ∧ Below w.heap.size w w' := by
  have bx : Hid (Blk (w.alloc (.cells (hC x).toArray 23)) w.heap.size 23 (hC x).toArray) := heap_alloc_new w _
  have V : Hid (Below w.heap.size w (w.alloc (.cells (hC x).toArray 23))) := nxAlloc (nxRefl _) _
  have HS := Lib.hid hS
  have HM := Lib.hid hmax
  clear hS hmax
  go_enter Tryz.func34, Tryz.ntmps34
  go_wp2
  go_loopw [5] (fun iv wr => ∃ k : Nat, k ≤ l.length ∧ iv = .int .i64 k ∧ Hid (x ∉ l.take k) ∧ Hid (Blk wr w.heap.size 23 (hC x).toArray) ∧ Hid (Below w.heap.size w wr)) (fun iv _ => l.length - (intOf iv).toNat)
  case atStart => exact ⟨0, by omega, rfl, by show _ ∉ _; simp, bx, V⟩
  case round =>
    obtain ⟨k, hk, rfl, HN, HB, HV⟩ := hrel
    by_cases hlt : k < l.length
    · obtain ⟨b1, f1, rfl, hb1, hr1⟩ := sees_hash HS.out hlt
      have hdr : Below wr.heap.size wr wr.drew := nxDr (nxRefl _)
      have HVd : Hid (Below w.heap.size w wr.drew) := HV.out.trans (hdr.mono HV.out.size)
      have r1 : wr.drew.rangeAt b1 (f1 + k * 32) (hC l[k]) := rngK (hr1 k hlt) HVd.out hb1
      have r2 : wr.drew.rangeAt w.heap.size 0 (hC x) := kb_range HB.out
      have HBd : Hid (Blk wr.drew w.heap.size 23 (hC x).toArray) := HB.out
      obtain ⟨y, hy⟩ : ∃ y, l[k] = y := ⟨_, rfl⟩
      have hmem : y ∈ l := by rw [← hy]; exact List.getElem_mem hlt
      have hn2 : l.take (k + 1) = l.take k ++ [y] := by rw [List.take_succ_eq_append_getElem hlt, hy]
      rw [hy] at r1
      have HR1 := Lib.hid r1
      have HR2 := Lib.hid r2
      have HMm := Lib.hid hmem
      have HN2 := Lib.hid hn2
      have hmx := HM.out
      have hin : (k : Int) < (l.length : Int) := by omega
      obtain ⟨z, hz⟩ : ∃ z, decide (y = x) = z := ⟨_, rfl⟩
      have HZ := Lib.hid hz
      clear hr1 r1 r2 hdr hy hmem hn2 hz hb1
      go_wp2
      refine wp_region_held_drew (S := fun W => W.rangeAt b1 (f1 + k * 32) (hC y) ∧ W.rangeAt w.heap.size 0 (hC x)) (by kernel_rfl) ⟨HR1.out, HR2.out⟩ (fun hHeld => ?_)
      cases z with
      | true =>
        refine wpAnyH_take (i := 0) (oi := ⟨_, _, _, _, _, _⟩) (v := ?_) rfl (by kernel_rfl) (by kernel_rfl) (by kernel_rfl) (fun _ _ _ h => h) (Or.inl ⟨by rfl, ?_⟩) (by assumption) ?_
        rotate_left 1
        · intro W hSw
          try dsimp only at hSw
          obtain ⟨hs1, hs2⟩ := hSw
          go_simp
          try with_reducible rfl
        try simp only [Act.put, List.setIfInBounds_toArray, List.set_cons_zero, List.set_cons_succ]
        refine wpAnyH_take (i := 1) (oi := ⟨_, _, _, _, _, _⟩) (v := ?_) rfl (by kernel_rfl) (by kernel_rfl) (by kernel_rfl) (fun _ _ _ h => h) (Or.inl ⟨by rfl, ?_⟩) (by assumption) ?_
        rotate_left 1
        · intro W hSw
          try dsimp only at hSw
          obtain ⟨hs1, hs2⟩ := hSw
          go_simp
          try with_reducible rfl
        try simp only [Act.put, List.setIfInBounds_toArray, List.set_cons_zero, List.set_cons_succ]
        refine wpAnyH_take (i := 2) (oi := ⟨_, _, _, _, _, _⟩) (v := ?_) rfl (by kernel_rfl) (by kernel_rfl) (by kernel_rfl) (fun _ _ _ h => h) (Or.inl ⟨by rfl, ?_⟩) (by assumption) ?_
        rotate_left 1
        · intro W hSw
          try dsimp only at hSw
          obtain ⟨hs1, hs2⟩ := hSw
          go_simp
          try with_reducible rfl
        try simp only [Act.put, List.setIfInBounds_toArray, List.set_cons_zero, List.set_cons_succ]
        refine wpAnyH_take (i := 3) (oi := ⟨_, _, _, _, _, _⟩) (v := .agg (hC y).toArray) rfl (by kernel_rfl) (by kernel_rfl) (by kernel_rfl) (fun _ _ _ h => h) (yieldsIf_load_mid (by rfl) 23 (.tmp 14) rfl b1 (f1 + k * 32) rfl (hC y) _ (fun W h => h.1) Tryz.underlying23 rfl (hszL y)) (by assumption) ?_
        try simp only [Act.put, List.setIfInBounds_toArray, List.set_cons_zero, List.set_cons_succ]
        refine wpAnyH_take (i := 4) (oi := ⟨_, _, _, _, _, _⟩) (v := .agg (hC x).toArray) rfl (by kernel_rfl) (by kernel_rfl) (by kernel_rfl) (fun _ _ _ h => h) (yieldsIf_load_mid (by rfl) 23 (.tmp 3) rfl w.heap.size 0 rfl (hC x) _ (fun W h => h.2) Tryz.underlying23 rfl (hszL x)) (by assumption) ?_
        try simp only [Act.put, List.setIfInBounds_toArray, List.set_cons_zero, List.set_cons_succ]
        refine wpAnyH_take (i := 5) (oi := ⟨_, _, _, _, _, _⟩) (v := .bool true) rfl (by kernel_rfl) (by kernel_rfl) (by kernel_rfl) (fun _ _ _ h => h) (yieldsIf_eqH (by rfl) 23 (.tmp 15) (.tmp 16) rfl y x rfl rfl true HZ.out) (by assumption) ?_
        try simp only [Act.put, List.setIfInBounds_toArray, List.set_cons_zero, List.set_cons_succ]
        refine wpAnyH_done (by kernel_rfl) ?_ _
        have hyx := of_decide_eq_true HZ.out
        have hd : decide (x ∈ l) = true := decide_eq_true (by rw [← hyx]; exact HMm.out)
        have HD := Lib.hid hd
        clear hd hyx
        go_wp2
        go_ret
        exact ⟨by rw [HD.out]; rfl, HVd.out⟩
      | false =>
        refine wpAnyH_take (i := 0) (oi := ⟨_, _, _, _, _, _⟩) (v := ?_) rfl (by kernel_rfl) (by kernel_rfl) (by kernel_rfl) (fun _ _ _ h => h) (Or.inl ⟨by rfl, ?_⟩) (by assumption) ?_
        rotate_left 1
        · intro W hSw
          try dsimp only at hSw
          obtain ⟨hs1, hs2⟩ := hSw
          go_simp
          try with_reducible rfl
        try simp only [Act.put, List.setIfInBounds_toArray, List.set_cons_zero, List.set_cons_succ]
        refine wpAnyH_take (i := 1) (oi := ⟨_, _, _, _, _, _⟩) (v := ?_) rfl (by kernel_rfl) (by kernel_rfl) (by kernel_rfl) (fun _ _ _ h => h) (Or.inl ⟨by rfl, ?_⟩) (by assumption) ?_
        rotate_left 1
        · intro W hSw
          try dsimp only at hSw
          obtain ⟨hs1, hs2⟩ := hSw
          go_simp
          try with_reducible rfl
        try simp only [Act.put, List.setIfInBounds_toArray, List.set_cons_zero, List.set_cons_succ]
        refine wpAnyH_take (i := 2) (oi := ⟨_, _, _, _, _, _⟩) (v := ?_) rfl (by kernel_rfl) (by kernel_rfl) (by kernel_rfl) (fun _ _ _ h => h) (Or.inl ⟨by rfl, ?_⟩) (by assumption) ?_
        rotate_left 1
        · intro W hSw
          try dsimp only at hSw
          obtain ⟨hs1, hs2⟩ := hSw
          go_simp
          try with_reducible rfl
        try simp only [Act.put, List.setIfInBounds_toArray, List.set_cons_zero, List.set_cons_succ]
        refine wpAnyH_take (i := 3) (oi := ⟨_, _, _, _, _, _⟩) (v := .agg (hC y).toArray) rfl (by kernel_rfl) (by kernel_rfl) (by kernel_rfl) (fun _ _ _ h => h) (yieldsIf_load_mid (by rfl) 23 (.tmp 14) rfl b1 (f1 + k * 32) rfl (hC y) _ (fun W h => h.1) Tryz.underlying23 rfl (hszL y)) (by assumption) ?_
        try simp only [Act.put, List.setIfInBounds_toArray, List.set_cons_zero, List.set_cons_succ]
        refine wpAnyH_take (i := 4) (oi := ⟨_, _, _, _, _, _⟩) (v := .agg (hC x).toArray) rfl (by kernel_rfl) (by kernel_rfl) (by kernel_rfl) (fun _ _ _ h => h) (yieldsIf_load_mid (by rfl) 23 (.tmp 3) rfl w.heap.size 0 rfl (hC x) _ (fun W h => h.2) Tryz.underlying23 rfl (hszL x)) (by assumption) ?_
        try simp only [Act.put, List.setIfInBounds_toArray, List.set_cons_zero, List.set_cons_succ]
        refine wpAnyH_take (i := 5) (oi := ⟨_, _, _, _, _, _⟩) (v := .bool false) rfl (by kernel_rfl) (by kernel_rfl) (by kernel_rfl) (fun _ _ _ h => h) (yieldsIf_eqH (by rfl) 23 (.tmp 15) (.tmp 16) rfl y x rfl rfl false HZ.out) (by assumption) ?_
        try simp only [Act.put, List.setIfInBounds_toArray, List.set_cons_zero, List.set_cons_succ]
        refine wpAnyH_done (by kernel_rfl) ?_ _
        have HN3 : Hid (x ∉ l.take (k + 1)) := fun h => by
          rw [HN2.out] at h
          rcases List.mem_append.1 h with h | h
          · exact HN.out h
          · rw [List.mem_singleton] at h
            exact of_decide_eq_false HZ.out h.symm
        go_wp2
        go_roundw
        case rel => exact ⟨k + 1, by omega, by go_num, HN3, HBd, HVd⟩
        case measure => simp [intOf] <;> omega
    · obtain rfl : k = l.length := by omega
      have hd : decide (x ∈ l) = false := decide_eq_false (by have := HN.out; rwa [List.take_length] at this)
      have HD := Lib.hid hd
      clear hd
      go_wp2
      go_ret
      exact ⟨by rw [HD.out]; rfl, HV.out⟩
set_option maxRecDepth 100000 in
set_option maxHeartbeats 2000000 in
theorem requal_any (w : World) (A B : Option Addr) (l m : List Hh) (c d : Nat) (hS : SeesV w w.heap.size A (hsC l)) (hT : SeesV w w.heap.size B (hsC m)) (hmax : l.length ≤ 1000000) : Calls Tryz.prog 16 #[.slice A l.length c, .slice B m.length d] w fun e w' => e = .returned (.bool (decide (l = m))) ∧ Below w.heap.size w w' := by
  have HS := Lib.hid hS
  have HT := Lib.hid hT
  have HM := Lib.hid hmax
  clear hS hT hmax
  by_cases hnn : l.length = m.length
  · have HL := Lib.hid hnn
    rw [← hnn]
    clear hnn
    go_enter Tryz.func16, Tryz.ntmps16
    go_wp2
    go_loopw [5] (fun iv wr => ∃ k : Nat, k ≤ l.length ∧ iv = .int .i64 k ∧ Hid (l.take k = m.take k) ∧ Hid (Below w.heap.size w wr)) (fun iv _ => l.length - (intOf iv).toNat)
    case atStart => exact ⟨0, by omega, rfl, rfl, nxRefl w⟩
    case round =>
      obtain ⟨k, hk, rfl, HN, HV⟩ := hrel
      by_cases hlt : k < l.length
      · have hltm : k < m.length := by rw [← HL.out]; exact hlt
        obtain ⟨b1, f1, rfl, hb1, hr1⟩ := sees_hash HS.out hlt
        obtain ⟨b2, f2, rfl, hb2, hr2⟩ := sees_hash HT.out hltm
        have hdr : Below wr.heap.size wr wr.drew := nxDr (nxRefl _)
        have HVd : Hid (Below w.heap.size w wr.drew) := HV.out.trans (hdr.mono HV.out.size)
        have r1 : wr.drew.rangeAt b1 (f1 + k * 32) (hC l[k]) := rngK (hr1 k hlt) HVd.out hb1
        have r2 : wr.drew.rangeAt b2 (f2 + k * 32) (hC m[k]) := rngK (hr2 k hltm) HVd.out hb2
        obtain ⟨x, hx⟩ : ∃ y, l[k] = y := ⟨_, rfl⟩
        obtain ⟨y, hy⟩ : ∃ y, m[k] = y := ⟨_, rfl⟩
        have hn2 : l.take (k + 1) = l.take k ++ [x] := by rw [List.take_succ_eq_append_getElem hlt, hx]
        have hn3 : m.take (k + 1) = m.take k ++ [y] := by rw [List.take_succ_eq_append_getElem hltm, hy]
        have hno : x ≠ y → ¬ l = m := fun h e => by subst e; exact h (hx.symm.trans hy)
        rw [hx] at r1
        rw [hy] at r2
        have HR1 := Lib.hid r1
        have HR2 := Lib.hid r2
        have HN2 := Lib.hid hn2
        have HN3 := Lib.hid hn3
        have HNo := Lib.hid hno
        have hmx := HM.out
        have hin : (k : Int) < (l.length : Int) := by omega
        obtain ⟨z, hz⟩ : ∃ z, decide (x = y) = z := ⟨_, rfl⟩
        have HZ := Lib.hid hz
        clear hr1 hr2 r1 r2 hdr hx hy hn2 hn3 hno hz hb1 hb2 hltm
        have hin2 := HL.out
        go_wp2
        refine wp_region_held_drew (S := fun W => W.rangeAt b1 (f1 + k * 32) (hC x) ∧ W.rangeAt b2 (f2 + k * 32) (hC y)) (by kernel_rfl) ⟨HR1.out, HR2.out⟩ (fun hHeld => ?_)
        cases z with
        | false =>
          refine wpAnyH_take (i := 0) (oi := ⟨_, _, _, _, _, _⟩) (v := ?_) rfl (by kernel_rfl) (by kernel_rfl) (by kernel_rfl) (fun _ _ _ h => h) (Or.inl ⟨by rfl, ?_⟩) (by assumption) ?_
          rotate_left 1
          · intro W hSw
            try dsimp only at hSw
            obtain ⟨hs1, hs2⟩ := hSw
            go_simp
            try with_reducible rfl
          try simp only [Act.put, List.setIfInBounds_toArray, List.set_cons_zero, List.set_cons_succ]
          refine wpAnyH_take (i := 1) (oi := ⟨_, _, _, _, _, _⟩) (v := ?_) rfl (by kernel_rfl) (by kernel_rfl) (by kernel_rfl) (fun _ _ _ h => h) (Or.inl ⟨by rfl, ?_⟩) (by assumption) ?_
          rotate_left 1
          · intro W hSw
            try dsimp only at hSw
            obtain ⟨hs1, hs2⟩ := hSw
            go_simp
            try with_reducible rfl
          try simp only [Act.put, List.setIfInBounds_toArray, List.set_cons_zero, List.set_cons_succ]
          refine wpAnyH_take (i := 2) (oi := ⟨_, _, _, _, _, _⟩) (v := ?_) rfl (by kernel_rfl) (by kernel_rfl) (by kernel_rfl) (fun _ _ _ h => h) (Or.inl ⟨by rfl, ?_⟩) (by assumption) ?_
          rotate_left 1
          · intro W hSw
            try dsimp only at hSw
            obtain ⟨hs1, hs2⟩ := hSw
            go_simp
            try with_reducible rfl
          try simp only [Act.put, List.setIfInBounds_toArray, List.set_cons_zero, List.set_cons_succ]
          refine wpAnyH_take (i := 3) (oi := ⟨_, _, _, _, _, _⟩) (v := .agg (hC x).toArray) rfl (by kernel_rfl) (by kernel_rfl) (by kernel_rfl) (fun _ _ _ h => h) (yieldsIf_load_mid (by rfl) 23 (.tmp 19) rfl b1 (f1 + k * 32) rfl (hC x) _ (fun W h => h.1) Tryz.underlying23 rfl (hszL x)) (by assumption) ?_
          try simp only [Act.put, List.setIfInBounds_toArray, List.set_cons_zero, List.set_cons_succ]
          refine wpAnyH_take (i := 4) (oi := ⟨_, _, _, _, _, _⟩) (v := ?_) rfl (by kernel_rfl) (by kernel_rfl) (by kernel_rfl) (fun _ _ _ h => h) (Or.inl ⟨by rfl, ?_⟩) (by assumption) ?_
          rotate_left 1
          · intro W hSw
            try dsimp only at hSw
            obtain ⟨hs1, hs2⟩ := hSw
            go_simp
            try with_reducible rfl
          try simp only [Act.put, List.setIfInBounds_toArray, List.set_cons_zero, List.set_cons_succ]
          refine wpAnyH_take (i := 5) (oi := ⟨_, _, _, _, _, _⟩) (v := ?_) rfl (by kernel_rfl) (by kernel_rfl) (by kernel_rfl) (fun _ _ _ h => h) (Or.inl ⟨by rfl, ?_⟩) (by assumption) ?_
          rotate_left 1
          · intro W hSw
            try dsimp only at hSw
            obtain ⟨hs1, hs2⟩ := hSw
            go_simp
            try with_reducible rfl
          try simp only [Act.put, List.setIfInBounds_toArray, List.set_cons_zero, List.set_cons_succ]
          refine wpAnyH_take (i := 6) (oi := ⟨_, _, _, _, _, _⟩) (v := ?_) rfl (by kernel_rfl) (by kernel_rfl) (by kernel_rfl) (fun _ _ _ h => h) (Or.inl ⟨by rfl, ?_⟩) (by assumption) ?_
          rotate_left 1
          · intro W hSw
            try dsimp only at hSw
            obtain ⟨hs1, hs2⟩ := hSw
            go_simp
            try with_reducible rfl
          try simp only [Act.put, List.setIfInBounds_toArray, List.set_cons_zero, List.set_cons_succ]
          refine wpAnyH_take (i := 7) (oi := ⟨_, _, _, _, _, _⟩) (v := .agg (hC y).toArray) rfl (by kernel_rfl) (by kernel_rfl) (by kernel_rfl) (fun _ _ _ h => h) (yieldsIf_load_mid (by rfl) 23 (.tmp 23) rfl b2 (f2 + k * 32) rfl (hC y) _ (fun W h => h.2) Tryz.underlying23 rfl (hszL y)) (by assumption) ?_
          try simp only [Act.put, List.setIfInBounds_toArray, List.set_cons_zero, List.set_cons_succ]
          refine wpAnyH_take (i := 8) (oi := ⟨_, _, _, _, _, _⟩) (v := .bool true) rfl (by kernel_rfl) (by kernel_rfl) (by kernel_rfl) (fun _ _ _ h => h) (yieldsIf_neH (by rfl) 23 (.tmp 20) (.tmp 24) rfl x y rfl rfl false HZ.out) (by assumption) ?_
          try simp only [Act.put, List.setIfInBounds_toArray, List.set_cons_zero, List.set_cons_succ]
          refine wpAnyH_done (by kernel_rfl) ?_ _
          have hd : decide (l = m) = false := decide_eq_false (HNo.out (of_decide_eq_false HZ.out))
          have HD := Lib.hid hd
          clear hd
          go_wp2
          go_ret
          exact ⟨by rw [HD.out]; rfl, HVd.out⟩
        | true =>
          refine wpAnyH_take (i := 0) (oi := ⟨_, _, _, _, _, _⟩) (v := ?_) rfl (by kernel_rfl) (by kernel_rfl) (by kernel_rfl) (fun _ _ _ h => h) (Or.inl ⟨by rfl, ?_⟩) (by assumption) ?_
          rotate_left 1
          · intro W hSw
            try dsimp only at hSw
            obtain ⟨hs1, hs2⟩ := hSw
            go_simp
            try with_reducible rfl
          try simp only [Act.put, List.setIfInBounds_toArray, List.set_cons_zero, List.set_cons_succ]
          refine wpAnyH_take (i := 1) (oi := ⟨_, _, _, _, _, _⟩) (v := ?_) rfl (by kernel_rfl) (by kernel_rfl) (by kernel_rfl) (fun _ _ _ h => h) (Or.inl ⟨by rfl, ?_⟩) (by assumption) ?_
          rotate_left 1
          · intro W hSw
            try dsimp only at hSw
            obtain ⟨hs1, hs2⟩ := hSw
            go_simp
            try with_reducible rfl
          try simp only [Act.put, List.setIfInBounds_toArray, List.set_cons_zero, List.set_cons_succ]
          refine wpAnyH_take (i := 2) (oi := ⟨_, _, _, _, _, _⟩) (v := ?_) rfl (by kernel_rfl) (by kernel_rfl) (by kernel_rfl) (fun _ _ _ h => h) (Or.inl ⟨by rfl, ?_⟩) (by assumption) ?_
          rotate_left 1
          · intro W hSw
            try dsimp only at hSw
            obtain ⟨hs1, hs2⟩ := hSw
            go_simp
            try with_reducible rfl
          try simp only [Act.put, List.setIfInBounds_toArray, List.set_cons_zero, List.set_cons_succ]
          refine wpAnyH_take (i := 3) (oi := ⟨_, _, _, _, _, _⟩) (v := .agg (hC x).toArray) rfl (by kernel_rfl) (by kernel_rfl) (by kernel_rfl) (fun _ _ _ h => h) (yieldsIf_load_mid (by rfl) 23 (.tmp 19) rfl b1 (f1 + k * 32) rfl (hC x) _ (fun W h => h.1) Tryz.underlying23 rfl (hszL x)) (by assumption) ?_
          try simp only [Act.put, List.setIfInBounds_toArray, List.set_cons_zero, List.set_cons_succ]
          refine wpAnyH_take (i := 4) (oi := ⟨_, _, _, _, _, _⟩) (v := ?_) rfl (by kernel_rfl) (by kernel_rfl) (by kernel_rfl) (fun _ _ _ h => h) (Or.inl ⟨by rfl, ?_⟩) (by assumption) ?_
          rotate_left 1
          · intro W hSw
            try dsimp only at hSw
            obtain ⟨hs1, hs2⟩ := hSw
            go_simp
            try with_reducible rfl
          try simp only [Act.put, List.setIfInBounds_toArray, List.set_cons_zero, List.set_cons_succ]
          refine wpAnyH_take (i := 5) (oi := ⟨_, _, _, _, _, _⟩) (v := ?_) rfl (by kernel_rfl) (by kernel_rfl) (by kernel_rfl) (fun _ _ _ h => h) (Or.inl ⟨by rfl, ?_⟩) (by assumption) ?_
          rotate_left 1
          · intro W hSw
            try dsimp only at hSw
            obtain ⟨hs1, hs2⟩ := hSw
            go_simp
            try with_reducible rfl
          try simp only [Act.put, List.setIfInBounds_toArray, List.set_cons_zero, List.set_cons_succ]
          refine wpAnyH_take (i := 6) (oi := ⟨_, _, _, _, _, _⟩) (v := ?_) rfl (by kernel_rfl) (by kernel_rfl) (by kernel_rfl) (fun _ _ _ h => h) (Or.inl ⟨by rfl, ?_⟩) (by assumption) ?_
          rotate_left 1
          · intro W hSw
            try dsimp only at hSw
            obtain ⟨hs1, hs2⟩ := hSw
            go_simp
            try with_reducible rfl
          try simp only [Act.put, List.setIfInBounds_toArray, List.set_cons_zero, List.set_cons_succ]
          refine wpAnyH_take (i := 7) (oi := ⟨_, _, _, _, _, _⟩) (v := .agg (hC y).toArray) rfl (by kernel_rfl) (by kernel_rfl) (by kernel_rfl) (fun _ _ _ h => h) (yieldsIf_load_mid (by rfl) 23 (.tmp 23) rfl b2 (f2 + k * 32) rfl (hC y) _ (fun W h => h.2) Tryz.underlying23 rfl (hszL y)) (by assumption) ?_
          try simp only [Act.put, List.setIfInBounds_toArray, List.set_cons_zero, List.set_cons_succ]
          refine wpAnyH_take (i := 8) (oi := ⟨_, _, _, _, _, _⟩) (v := .bool false) rfl (by kernel_rfl) (by kernel_rfl) (by kernel_rfl) (fun _ _ _ h => h) (yieldsIf_neH (by rfl) 23 (.tmp 20) (.tmp 24) rfl x y rfl rfl true HZ.out) (by assumption) ?_
          try simp only [Act.put, List.setIfInBounds_toArray, List.set_cons_zero, List.set_cons_succ]
          refine wpAnyH_done (by kernel_rfl) ?_ _
          have HN4 : Hid (l.take (k + 1) = m.take (k + 1)) := by
            show _ = _
            rw [HN2.out, HN3.out, HN.out, of_decide_eq_true HZ.out]
          go_wp2
          go_roundw
          case rel => exact ⟨k + 1, by omega, by go_num, HN4, HVd⟩
          case measure => simp [intOf] <;> omega
      · obtain rfl : k = l.length := by omega
        have hd : decide (l = m) = true := decide_eq_true (by have := HN.out; rwa [List.take_length, HL.out, List.take_length] at this)
        have HD := Lib.hid hd
        clear hd
        go_wp2
        go_ret
        exact ⟨by rw [HD.out]; rfl, HV.out⟩
  · have hd : decide (l = m) = false := decide_eq_false (fun e => hnn (by rw [e]))
    have HD := Lib.hid hd
    have hne : ((l.length : Int) != (m.length : Int)) = true := by rw [bne_iff_ne]; omega
    have hne2 : ¬ ((l.length : Int) = (m.length : Int)) := by omega
    clear hd hnn
    go_enter Tryz.func16, Tryz.ntmps16
    go_wp2
    go_ret
    exact ⟨by rw [HD.out]; rfl, nxRefl w⟩
end Go.Proofs.YtbfpckomgpkjgaaGreat
