/-
  TxChecks, the walk.
-/
import Derived.Test.YtckomfffilonlaaDoorTxE
import Derived.Test.YtckomfffilonlaaDoorTx6
import Derived.Test.YtckomfffilonlaaDoorEq
namespace Go.Proofs.YtckomfffilonlaaDoor
open Go.RowKit

theorem step_conv {P : Program} {w : World} {ops : Array Oper} {o : Oper} {a : Act} {K : Act → World → Prop} {Q : Exit → Act → World → Prop} {E : Prop} (hgd : o.guard = none) (x : Operand) (t1 t2 : TypeId) (ho : o.op = .convert t1 t2 x) (u v : Value) (hx : a.eval x = u)
    (hr : (convert t1 t2 u).run P w = .ok v w) (h : K (a.put o.dst v) w) : if Region.wanted o (yielded ops a.tmps) = true then Oper.wp P o a w K Q else E := by
  have hw : Region.wanted o (yielded ops a.tmps) = true := by simp [Region.wanted, hgd]
  rw [if_pos hw]
  unfold Oper.wp execOp
  simp only [ho, hx, Sem.run_bind, Sem.run_pure, Result.andThen_ok, hr]
  exact h
theorem Tryd.u8sz : (Tryd.prog.info? 5).map (·.size) = some 1 := by kernel_rfl
theorem nxDrI {n : Nat} {w w1 : World} (h : Below n w w1) : Below n w w1.drew := ⟨h.os, h.tape, h.output, h.size, h.block⟩
theorem nxUd {w w1 : World} (h : Below w.drew.heap.size w.drew w1) : Below w.heap.size w w1 := ⟨h.os, h.tape, h.output, h.size, h.block⟩
theorem neq_hash (l : List UInt8) (hl : l.length = 32) (wq : World) : (binOp .neq 39 (.agg (By l).toArray) (.agg (By l).toArray)).run Tryd.prog wq = .ok (.bool false) wq := by
  rw [run_neq_bytes 32 39 5 Tryd.underlying39 Tryd.underlying5 Tryd.u8sz l l hl hl, beq_self_eq_true]; rfl

theorem foldl_set (off : Nat) (vs : List Value) : ∀ (k : Nat) (l : List Value), off + k + vs.length ≤ l.length →
    (vs.zipIdx k).foldl (fun (cs : Array Value) (p : Value × Nat) => cs.setIfInBounds (off + p.2) p.1) l.toArray = (l.take (off + k) ++ vs ++ l.drop (off + k + vs.length)).toArray := by
  induction vs with
  | nil => intro k l h; simp
  | cons v r ih =>
    intro k l h
    simp only [List.length_cons] at h
    rw [List.zipIdx_cons, List.foldl_cons, List.setIfInBounds_toArray, ih (k + 1) _ (by rw [List.length_set]; omega)]
    congr 1
    have h1 : (l.set (off + k) v).take (off + (k + 1)) = l.take (off + k) ++ [v] := by
      rw [← Nat.add_assoc, List.take_succ_eq_append_getElem (by rw [List.length_set]; omega), List.getElem_set_self, List.take_set_of_le (Nat.le_refl _)]
    have h2 : (l.set (off + k) v).drop (off + (k + 1) + r.length) = l.drop (off + k + (r.length + 1)) := by
      rw [List.drop_set_of_lt (by omega)]; congr 1; omega
    rw [h1, h2, List.append_assoc, List.append_assoc]; simp
theorem fill_one (size : Nat) (z : List Value) (vs : List Value) (hz : z.length = size) (hv : vs.length = size) :
    Instr.fill (fun i => some (i * size, size)) z.toArray [(0, .agg vs.toArray)] = some vs.toArray := by
  have h := foldl_set 0 vs 0 z (by omega)
  simp only [Nat.zero_add, List.take_zero, List.nil_append] at h
  rw [List.drop_eq_nil_of_le (by omega), List.append_nil] at h
  have hc : (Value.agg vs.toArray).cells = vs.toArray := rfl
  unfold Instr.fill
  simp only [hc, Nat.zero_mul, Nat.zero_add, List.size_toArray]
  rw [if_neg (by simp; omega)]
  unfold Instr.fill
  congr 1
  refine Eq.trans ?_ h
  simp
theorem Tryd.txinf : (Tryd.prog.info? 26).map (fun i => (i.zero, i.size, i.bytes)) = some (some (.agg #[.slice none 0 0, .slice none 0 0, .int .u64 0]), 3, 56) := by kernel_rfl
theorem fill_tx (t : TxR) : Instr.fill (fun i => some (i * 3, 3)) ((Array.range (1 * 3)).map ((Value.agg #[.slice none 0 0, .slice none 0 0, .int .u64 0]).cells[· % (Value.agg #[.slice none 0 0, .slice none 0 0, .int .u64 0]).cells.size]!)) [(0, .agg (txC t).toArray)] = some (txC t).toArray := by
  have hf := fill_one 3 ((Array.range (1 * 3)).map ((Value.agg #[.slice none 0 0, .slice none 0 0, .int .u64 0]).cells[· % (Value.agg #[.slice none 0 0, .slice none 0 0, .int .u64 0]).cells.size]!)).toList (txC t) (by simp) rfl
  rw [Array.toArray_toList] at hf
  exact hf
theorem wpList_build_tx {ops : Array Oper} {rest : List Oper} {o : Oper} {a : Act} {w : World} {Q : Exit → Act → World → Prop} (hg : o.guard = none) (x : Operand) (ho : o.op = .buildSlice 28 1 #[(0, x)])
    (t : TxR) (hx : a.eval x = .agg (txC t).toArray)
    (h : wpList Tryd.prog ops Q rest (a.put o.dst (.slice (some ⟨w.heap.size, 0, none⟩) 1 1)) (w.alloc (.cells (txC t).toArray 26))) : wpList Tryd.prog ops Q (o :: rest) a w := by
  obtain ⟨i0, hi, hz0, hz1, hz2⟩ := info_parts Tryd.txinf
  refine wpList_buildSlice hg 28 26 1 #[(0, x)] ho (txC t).toArray i0 _ Tryd.underlying28 hi hz0 (by rw [hz1]; omega) (by rw [hz1]; omega) ?_ h
  rw [hz1]
  have e : (#[(0, x)].map fun (p : Nat × Operand) => (p.1, a.eval p.2)).toList = [(0, .agg (txC t).toArray)] := by simp [hx]
  have hf := fill_tx t
  rw [← e] at hf
  exact hf

set_option maxHeartbeats 4000000 in
set_option maxRecDepth 100000 in
theorem checks_any (w : World) (hTb : Tabs w) (t : TxR) (h : TxOk w t) : Calls Tryd.prog 3 #[.agg (txC t).toArray] w fun e w' => e = .returned (.bool true) ∧ Below w.heap.size w w' := by
  have hA := TxAt.new h
  have HR := Lib.hid (blkR (vs := txC t) hA.1)
  have HT := Lib.hid hA.2
  have HZ : Hid ((Tryd.prog.info? 26).map (·.size) = some (txC t).length) := Tryd.sizeTx
  have hb0 : Below w.heap.size w (w.alloc (.cells (txC t).toArray 26)) := nxAl (nxRf w) _
  have Hb0 := Lib.hid hb0
  have HTb := Lib.hid (hTb.later hb0)
  have hb1 : Below w.heap.size w ((w.alloc (.cells (txC t).toArray 26)).alloc (.cells (txC t).toArray 26)) := nxAl hb0 _
  have HT1 := Lib.hid (h.later hb1)
  have HB1 : Hid (Blk ((w.alloc (.cells (txC t).toArray 26)).alloc (.cells (txC t).toArray 26)) (w.heap.size + 1) 26 (txC t).toArray) := Lib.hid (Blk.newAt (by simp) rfl)
  have Hlt : Hid (w.heap.size < (w.alloc (.cells (txC t).toArray 26)).heap.size) := by show _ < _; simp
  have HI := Lib.hid (idT_len t)
  have h3 := checkT_three t
  obtain ⟨x, hx⟩ : ∃ x, idT t = x := ⟨_, rfl⟩
  have HX := Lib.hid hx
  rw [hx] at HI
  have hnq := neq_hash x HI.out
  obtain ⟨mz, hmz⟩ : ∃ z, muchB t = z := ⟨_, rfl⟩
  have HMz := Lib.hid hmz
  obtain ⟨z, hz⟩ : ∃ z, checkT t = z := ⟨_, rfl⟩
  have HCz := Lib.hid hz
  rw [hz] at h3
  clear hA h hTb hb0 hb1 hx hmz hz
  cases mz with
  | true =>
    go_enter Tryd.func3, Tryd.ntmps3
    go_wp2_with (first
      | ((with_reducible show wpList _ _ _ (⟨some 6, _, _, _, _, _⟩ :: _) _ _); refine wpList_load_mid rfl 26 (.tmp 1) rfl w.heap.size 0 rfl (txC t) _ HR.out Tryd.underlying26 rfl HZ.out ?_)
      | ((with_reducible show wpList _ _ _ (⟨some 7, _, _, _, _, _⟩ :: _) _ _); refine wpList_build_tx rfl (.tmp 6) rfl t rfl ?_)
      | (go_at_call 7; refine (much_any ((w.alloc (.cells (txC t).toArray 26)).alloc (.cells (txC t).toArray 26)) (w.heap.size + 1) t HT1.out HB1.out).mono ?_; rw [HMz.out]; rintro e w2 ⟨rfl, hb2⟩; have V2 : Hid (Below (w.alloc (.cells (txC t).toArray 26)).heap.size (w.alloc (.cells (txC t).toArray 26)) w2) := nxTr (nxAl (nxRf _) _) hb2; clear hb2)
      | (go_at_call 8; refine (known_any w2).mono ?_; rintro e w3 ⟨rfl, hb3⟩; have V3 : Hid (Below (w.alloc (.cells (txC t).toArray 26)).heap.size (w.alloc (.cells (txC t).toArray 26)) w3) := nxTr V2.out hb3; clear hb3))
    go_ret
    exact ⟨rfl, nxTr Hb0.out V3.out⟩
  | false =>
    rcases h3 with rfl | rfl | rfl
    · obtain ⟨F, hF⟩ : ∃ F, packT t = F := ⟨_, rfl⟩
      have HF := Lib.hid hF
      clear hF
      go_enter Tryd.func3, Tryd.ntmps3
      go_wp2_with (first
        | ((with_reducible show wpList _ _ _ (⟨some 6, _, _, _, _, _⟩ :: _) _ _); refine wpList_load_mid rfl 26 (.tmp 1) rfl w.heap.size 0 rfl (txC t) _ HR.out Tryd.underlying26 rfl HZ.out ?_)
        | ((with_reducible show wpList _ _ _ (⟨some 7, _, _, _, _, _⟩ :: _) _ _); refine wpList_build_tx rfl (.tmp 6) rfl t rfl ?_)
        | (go_at_call 7; refine (much_any ((w.alloc (.cells (txC t).toArray 26)).alloc (.cells (txC t).toArray 26)) (w.heap.size + 1) t HT1.out HB1.out).mono ?_; rw [HMz.out]; rintro e w2 ⟨rfl, hb2⟩; have V2 : Hid (Below (w.alloc (.cells (txC t).toArray 26)).heap.size (w.alloc (.cells (txC t).toArray 26)) w2) := nxTr (nxAl (nxRf _) _) hb2; clear hb2)
        | ((with_reducible show wpList _ _ _ (⟨some 11, _, _, _, _, _⟩ :: _) _ _); refine wpList_load_mid rfl 26 (.tmp 1) rfl w.heap.size 0 rfl (txC t) _ (rngB HR.out V2.out Hlt.out) Tryd.underlying26 rfl HZ.out ?_)
        | (go_at_call 9; refine (bytes_yes w2 t (HT.out.later V2.out) HCz.out).mono ?_; unfold BytesPost; rw [HF.out]; rintro e w3 ⟨⟨A3, c3, B0, rfl, hB0, ho3⟩, hb3⟩; have V3 : Hid (Below (w.alloc (.cells (txC t).toArray 26)).heap.size (w.alloc (.cells (txC t).toArray 26)) w3) := nxTr V2.out hb3; have S3 := Lib.hid (Sees.own ho3); clear hB0 ho3 hb3)
        | ((with_reducible show wpList _ _ _ (⟨some 15, _, _, _, _, _⟩ :: _) _ _); refine wpList_load_mid rfl 26 (.tmp 1) rfl w.heap.size 0 rfl (txC t) _ (rngB HR.out V3.out Hlt.out) Tryd.underlying26 rfl HZ.out ?_)
        | (go_at_call 10; refine (rcheck_any w3 t (HT.out.later V3.out)).mono ?_; rw [HCz.out]; rintro e w4 ⟨rfl, hb4⟩; have V4 : Hid (Below (w.alloc (.cells (txC t).toArray 26)).heap.size (w.alloc (.cells (txC t).toArray 26)) w4) := nxTr V3.out hb4; have VS4 : Hid (Below w3.heap.size w3 w4) := hb4; clear hb4))
      have V4d : Hid (Below (w.alloc (.cells (txC t).toArray 26)).heap.size (w.alloc (.cells (txC t).toArray 26)) w4.drew) := ⟨V4.out.os, V4.out.tape, V4.out.output, V4.out.size, V4.out.block⟩
      refine wp_region_held_drew (S := fun W => W.rangeAt w.heap.size 0 (txC t)) (by kernel_rfl) (rngB HR.out V4d.out Hlt.out) (fun hHeld => ?_)
      refine wpAnyH_take (i := 0) (oi := ⟨_, _, _, _, _, _⟩) (v := .agg (txC t).toArray) rfl (by kernel_rfl) (by kernel_rfl) (by kernel_rfl) (fun _ _ _ h => h) (yieldsIf_load_mid (by rfl) 26 (.tmp 1) rfl (w.heap.size) (0) rfl (txC t) _ (fun W h => h) Tryd.underlying26 rfl HZ.out) (by assumption) ?_
      try simp only [Act.put, List.setIfInBounds_toArray, List.set_cons_zero, List.set_cons_succ]
      refine wpAnyH_take (i := 3) (oi := ⟨_, _, _, _, _, _⟩) (v := ?_) rfl (by kernel_rfl) (by kernel_rfl) (by kernel_rfl) (fun _ _ _ h => h) (Or.inl ⟨by rfl, ?_⟩) (by assumption) ?_
      rotate_left 1
      · intro W hSw
        try dsimp only at hSw
        go_simp
        try with_reducible rfl
      try simp only [Act.put, List.setIfInBounds_toArray, List.set_cons_zero, List.set_cons_succ]
      refine wpAnyH_ready (rs := [1]) (by kernel_rfl) (by simp) ?_
      refine AllReadyH.cons rfl (fun K hK => ?_) AllReadyH.nil
      go_simp
      go_at_call 12
      refine (check_any w4.drew t (HT.out.later V4d.out)).mono ?_
      rw [HCz.out]
      rintro e w5 ⟨rfl, hb⟩
      have V5 : Hid (Below (w.alloc (.cells (txC t).toArray 26)).heap.size (w.alloc (.cells (txC t).toArray 26)) w5) := nxTr V4d.out hb
      have VS5 : Hid (Below w3.heap.size w3 w5) := nxTr VS4.out (nxUd hb)
      clear hb
      refine hK.out _ _ (rngB HR.out V5.out Hlt.out) (fun hSn => ?_)
      clear hK K
      try simp only [Act.put, List.setIfInBounds_toArray, List.set_cons_zero, List.set_cons_succ]
      refine wpAnyH_ready (rs := [2]) (by kernel_rfl) (by simp) ?_
      refine AllReadyH.cons rfl (fun K hK => ?_) AllReadyH.nil
      go_simp
      go_at_call 11
      refine (num_any _ _).mono ?_
      rintro e wn ⟨rfl, hwn⟩
      obtain rfl := hwn.symm
      refine hK.out _ _ (rngB HR.out V5.out Hlt.out) (fun hSn => ?_)
      clear hK K
      try simp only [Act.put, List.setIfInBounds_toArray, List.set_cons_zero, List.set_cons_succ]
      refine wpAnyH_take (i := 4) (oi := ⟨_, _, _, _, _, _⟩) (v := ?_) rfl (by kernel_rfl) (by kernel_rfl) (by kernel_rfl) (fun _ _ _ h => h) (Or.inl ⟨by rfl, ?_⟩) (by assumption) ?_
      rotate_left 1
      · intro W hSw
        try dsimp only at hSw
        go_simp
        try with_reducible rfl
      try simp only [Act.put, List.setIfInBounds_toArray, List.set_cons_zero, List.set_cons_succ]
      refine wpAnyH_take (i := 5) (oi := ⟨_, _, _, _, _, _⟩) (v := ?_) rfl (by kernel_rfl) (by kernel_rfl) (by kernel_rfl) (fun _ _ _ h => h) (Or.inl ⟨by rfl, ?_⟩) (by assumption) ?_
      rotate_left 1
      · intro W hSw
        try dsimp only at hSw
        go_simp
        try with_reducible rfl
      try simp only [Act.put, List.setIfInBounds_toArray, List.set_cons_zero, List.set_cons_succ]
      refine wpAnyH_take (i := 6) (oi := ⟨_, _, _, _, _, _⟩) (v := .agg (txC t).toArray) rfl (by kernel_rfl) (by kernel_rfl) (by kernel_rfl) (fun _ _ _ h => h) (yieldsIf_load_mid (by rfl) 26 (.tmp 1) rfl (w.heap.size) (0) rfl (txC t) _ (fun W h => h) Tryd.underlying26 rfl HZ.out) (by assumption) ?_
      try simp only [Act.put, List.setIfInBounds_toArray, List.set_cons_zero, List.set_cons_succ]
      refine wpAnyH_take (i := 8) (oi := ⟨_, _, _, _, _, _⟩) (v := ?_) rfl (by kernel_rfl) (by kernel_rfl) (by kernel_rfl) (fun _ _ _ h => h) (Or.inl ⟨by rfl, ?_⟩) (by assumption) ?_
      rotate_left 1
      · intro W hSw
        try dsimp only at hSw
        go_simp
        try with_reducible rfl
      try simp only [Act.put, List.setIfInBounds_toArray, List.set_cons_zero, List.set_cons_succ]
      refine wpAnyH_take (i := 9) (oi := ⟨_, _, _, _, _, _⟩) (v := ?_) rfl (by kernel_rfl) (by kernel_rfl) (by kernel_rfl) (fun _ _ _ h => h) (Or.inl ⟨by rfl, ?_⟩) (by assumption) ?_
      rotate_left 1
      · intro W hSw
        try dsimp only at hSw
        go_simp
        try with_reducible rfl
      try simp only [Act.put, List.setIfInBounds_toArray, List.set_cons_zero, List.set_cons_succ]
      refine wpAnyH_ready (rs := [7]) (by kernel_rfl) (by simp) ?_
      refine AllReadyH.cons rfl (fun K hK => ?_) AllReadyH.nil
      go_simp
      go_at_call 13
      refine (may_any w5 t (HT.out.later V5.out)).mono ?_
      rw [HCz.out]
      rintro e w6 ⟨rfl, hb⟩
      have V6 : Hid (Below (w.alloc (.cells (txC t).toArray 26)).heap.size (w.alloc (.cells (txC t).toArray 26)) w6) := nxTr V5.out hb
      have VS6 : Hid (Below w3.heap.size w3 w6) := nxTr VS5.out hb
      clear hb
      refine hK.out _ _ (rngB HR.out V6.out Hlt.out) (fun hSn => ?_)
      clear hK K
      try simp only [Act.put, List.setIfInBounds_toArray, List.set_cons_zero, List.set_cons_succ]
      refine wpAnyH_take (i := 10) (oi := ⟨_, _, _, _, _, _⟩) (v := ?_) rfl (by kernel_rfl) (by kernel_rfl) (by kernel_rfl) (fun _ _ _ h => h) (Or.inl ⟨by rfl, ?_⟩) (by assumption) ?_
      rotate_left 1
      · intro W hSw
        try dsimp only at hSw
        go_simp
        try with_reducible rfl
      try simp only [Act.put, List.setIfInBounds_toArray, List.set_cons_zero, List.set_cons_succ]
      refine wpAnyH_take (i := 11) (oi := ⟨_, _, _, _, _, _⟩) (v := ?_) rfl (by kernel_rfl) (by kernel_rfl) (by kernel_rfl) (fun _ _ _ h => h) (Or.inl ⟨by rfl, ?_⟩) (by assumption) ?_
      rotate_left 1
      · intro W hSw
        try dsimp only at hSw
        go_simp
        try with_reducible rfl
      try simp only [Act.put, List.setIfInBounds_toArray, List.set_cons_zero, List.set_cons_succ]
      refine wpAnyH_take (i := 12) (oi := ⟨_, _, _, _, _, _⟩) (v := ?_) rfl (by kernel_rfl) (by kernel_rfl) (by kernel_rfl) (fun _ _ _ h => h) (Or.inl ⟨by rfl, ?_⟩) (by assumption) ?_
      rotate_left 1
      · intro W hSw
        try dsimp only at hSw
        go_simp
        try with_reducible rfl
      try simp only [Act.put, List.setIfInBounds_toArray, List.set_cons_zero, List.set_cons_succ]
      refine wpAnyH_take (i := 13) (oi := ⟨_, _, _, _, _, _⟩) (v := .agg (txC t).toArray) rfl (by kernel_rfl) (by kernel_rfl) (by kernel_rfl) (fun _ _ _ h => h) (yieldsIf_load_mid (by rfl) 26 (.tmp 1) rfl (w.heap.size) (0) rfl (txC t) _ (fun W h => h) Tryd.underlying26 rfl HZ.out) (by assumption) ?_
      try simp only [Act.put, List.setIfInBounds_toArray, List.set_cons_zero, List.set_cons_succ]
      refine wpAnyH_take (i := 15) (oi := ⟨_, _, _, _, _, _⟩) (v := .agg (txC t).toArray) rfl (by kernel_rfl) (by kernel_rfl) (by kernel_rfl) (fun _ _ _ h => h) (yieldsIf_load_mid (by rfl) 26 (.tmp 1) rfl (w.heap.size) (0) rfl (txC t) _ (fun W h => h) Tryd.underlying26 rfl HZ.out) (by assumption) ?_
      try simp only [Act.put, List.setIfInBounds_toArray, List.set_cons_zero, List.set_cons_succ]
      refine wpAnyH_ready (rs := [14]) (by kernel_rfl) (by simp) ?_
      refine AllReadyH.cons rfl (fun K hK => ?_) AllReadyH.nil
      go_simp
      go_at_call 14
      refine (id_any w6 (HTb.out.later V6.out) t (HT.out.later V6.out)).mono ?_
      rw [HX.out]
      rintro e w7 ⟨rfl, hb⟩
      have V7 : Hid (Below (w.alloc (.cells (txC t).toArray 26)).heap.size (w.alloc (.cells (txC t).toArray 26)) w7) := nxTr V6.out hb
      have VS7 : Hid (Below w3.heap.size w3 w7) := nxTr VS6.out hb
      clear hb
      refine hK.out _ _ (rngB HR.out V7.out Hlt.out) (fun hSn => ?_)
      clear hK K
      try simp only [Act.put, List.setIfInBounds_toArray, List.set_cons_zero, List.set_cons_succ]
      refine wpAnyH_ready (rs := [16]) (by kernel_rfl) (by simp) ?_
      refine AllReadyH.cons rfl (fun K hK => ?_) AllReadyH.nil
      go_simp
      go_at_call 15
      refine (rid_any w7 t (HT.out.later V7.out)).mono ?_
      rw [HX.out]
      rintro e w8 ⟨rfl, hb⟩
      have V8 : Hid (Below (w.alloc (.cells (txC t).toArray 26)).heap.size (w.alloc (.cells (txC t).toArray 26)) w8) := nxTr V7.out hb
      have VS8 : Hid (Below w3.heap.size w3 w8) := nxTr VS7.out hb
      clear hb
      refine hK.out _ _ (rngB HR.out V8.out Hlt.out) (fun hSn => ?_)
      clear hK K
      try simp only [Act.put, List.setIfInBounds_toArray, List.set_cons_zero, List.set_cons_succ]
      refine wpAnyH_take (i := 17) (oi := ⟨_, _, _, _, _, _⟩) (v := ?_) rfl (by kernel_rfl) (by kernel_rfl) (by kernel_rfl) (fun _ _ _ h => h) (Or.inl ⟨by rfl, ?_⟩) (by assumption) ?_
      rotate_left 1
      · intro W hSw
        try dsimp only at hSw
        go_simp
        try with_reducible rfl
      try simp only [Act.put, List.setIfInBounds_toArray, List.set_cons_zero, List.set_cons_succ]
      refine wpAnyH_take (i := 18) (oi := ⟨_, _, _, _, _, _⟩) (v := ?_) rfl (by kernel_rfl) (by kernel_rfl) (by kernel_rfl) (fun _ _ _ h => h) (Or.inl ⟨by rfl, ?_⟩) (by assumption) ?_
      rotate_left 1
      · intro W hSw
        try dsimp only at hSw
        go_simp
        try with_reducible rfl
      try simp only [Act.put, List.setIfInBounds_toArray, List.set_cons_zero, List.set_cons_succ]
      refine wpAnyH_take (i := 19) (oi := ⟨_, _, _, _, _, _⟩) (v := ?_) rfl (by kernel_rfl) (by kernel_rfl) (by kernel_rfl) (fun _ _ _ h => h) (Or.inl ⟨by rfl, ?_⟩) (by assumption) ?_
      rotate_left 1
      · intro W hSw
        try dsimp only at hSw
        go_simp
        try with_reducible rfl
      try simp only [Act.put, List.setIfInBounds_toArray, List.set_cons_zero, List.set_cons_succ]
      refine wpAnyH_take (i := 20) (oi := ⟨_, _, _, _, _, _⟩) (v := ?_) rfl (by kernel_rfl) (by kernel_rfl) (by kernel_rfl) (fun _ _ _ h => h) (Or.inl ⟨by rfl, ?_⟩) (by assumption) ?_
      rotate_left 1
      · intro W hSw
        try dsimp only at hSw
        go_simp
        try with_reducible rfl
      try simp only [Act.put, List.setIfInBounds_toArray, List.set_cons_zero, List.set_cons_succ]
      refine wpAnyH_take (i := 22) (oi := ⟨_, _, _, _, _, _⟩) (v := ?_) rfl (by kernel_rfl) (by kernel_rfl) (by kernel_rfl) (fun _ _ _ h => h) (Or.inl ⟨by rfl, ?_⟩) (by assumption) ?_
      rotate_left 1
      · intro W hSw
        try dsimp only at hSw
        go_simp
        try with_reducible rfl
      try simp only [Act.put, List.setIfInBounds_toArray, List.set_cons_zero, List.set_cons_succ]
      refine wpAnyH_ready (rs := [21]) (by kernel_rfl) (by simp) ?_
      refine AllReadyH.cons rfl (fun K hK => ?_) AllReadyH.nil
      go_simp
      go_at_call 11
      refine (num_any _ _).mono ?_
      rintro e wn ⟨rfl, hwn⟩
      obtain rfl := hwn.symm
      refine hK.out _ _ (rngB HR.out V8.out Hlt.out) (fun hSn => ?_)
      clear hK K
      try simp only [Act.put, List.setIfInBounds_toArray, List.set_cons_zero, List.set_cons_succ]
      refine wpAnyH_take (i := 23) (oi := ⟨_, _, _, _, _, _⟩) (v := ?_) rfl (by kernel_rfl) (by kernel_rfl) (by kernel_rfl) (fun _ _ _ h => h) (Or.inl ⟨by rfl, ?_⟩) (by assumption) ?_
      rotate_left 1
      · intro W hSw
        try dsimp only at hSw
        go_simp
        try with_reducible rfl
      try simp only [Act.put, List.setIfInBounds_toArray, List.set_cons_zero, List.set_cons_succ]
      refine wpAnyH_take (i := 24) (oi := ⟨_, _, _, _, _, _⟩) (v := ?_) rfl (by kernel_rfl) (by kernel_rfl) (by kernel_rfl) (fun _ _ _ h => h) (Or.inl ⟨by rfl, ?_⟩) (by assumption) ?_
      rotate_left 1
      · intro W hSw
        try dsimp only at hSw
        go_simp
        try with_reducible rfl
      try simp only [Act.put, List.setIfInBounds_toArray, List.set_cons_zero, List.set_cons_succ]
      refine wpAnyH_done (by kernel_rfl) ?_ _
      go_wp2_with fail
      have V8d : Hid (Below (w.alloc (.cells (txC t).toArray 26)).heap.size (w.alloc (.cells (txC t).toArray 26)) w8.drew) := ⟨V8.out.os, V8.out.tape, V8.out.output, V8.out.size, V8.out.block⟩
      refine wp_region_held_drew (S := fun W => W.rangeAt w.heap.size 0 (txC t) ∧ Sees W w3.heap.size A3 F) (by kernel_rfl) ⟨rngB HR.out V8d.out Hlt.out, (S3.out.below (nxDrI VS8.out))⟩ (fun hHeld => ?_)
      refine wpAnyH_take (i := 0) (oi := ⟨_, _, _, _, _, _⟩) (v := ?_) rfl (by kernel_rfl) (by kernel_rfl) (by kernel_rfl) (fun _ _ _ h => h) (Or.inl ⟨by rfl, ?_⟩) (by assumption) ?_
      rotate_left 1
      · intro W hSw
        try dsimp only at hSw
        go_simp
        try with_reducible rfl
      try simp only [Act.put, List.setIfInBounds_toArray, List.set_cons_zero, List.set_cons_succ]
      refine wpAnyH_take (i := 2) (oi := ⟨_, _, _, _, _, _⟩) (v := .agg (txC t).toArray) rfl (by kernel_rfl) (by kernel_rfl) (by kernel_rfl) (fun _ _ _ h => h) (yieldsIf_load_mid (by rfl) 26 (.tmp 1) rfl (w.heap.size) (0) rfl (txC t) _ (fun W h => h.1) Tryd.underlying26 rfl HZ.out) (by assumption) ?_
      try simp only [Act.put, List.setIfInBounds_toArray, List.set_cons_zero, List.set_cons_succ]
      refine wpAnyH_take (i := 1) (oi := ⟨_, _, _, _, _, _⟩) (v := ?_) rfl (by kernel_rfl) (by kernel_rfl) (by kernel_rfl) (fun _ _ _ h => h) (Or.inl ⟨by rfl, ?_⟩) (by assumption) ?_
      rotate_left 1
      · intro W hSw
        try dsimp only at hSw
        have q := run_string_sees (P := Tryd.prog) (w := W) (c := c3) (n := F.length) Tryd.underlying30 Tryd.underlying5 Tryd.underlying9 rfl hSw.2
        go_simp
        try with_reducible rfl
      try simp only [Act.put, List.setIfInBounds_toArray, List.set_cons_zero, List.set_cons_succ]
      refine wpAnyH_ready (rs := [3]) (by kernel_rfl) (by simp) ?_
      refine AllReadyH.cons rfl (fun K hK => ?_) AllReadyH.nil
      go_simp
      go_at_call 16
      refine (pack_any w8.drew t (HT.out.later V8d.out) HCz.out).mono ?_
      unfold PackPost
      rw [HF.out]
      rintro e w9 ⟨⟨A9, c9, rfl, hc9, hs9⟩, hb⟩
      have V9 : Hid (Below (w.alloc (.cells (txC t).toArray 26)).heap.size (w.alloc (.cells (txC t).toArray 26)) w9) := nxTr V8d.out hb
      have VS9 : Hid (Below w3.heap.size w3 w9) := nxTr VS8.out (nxUd hb)
      have S9 := Lib.hid hs9
      clear hc9 hs9 hb
      refine hK.out _ _ ⟨rngB HR.out V9.out Hlt.out, S3.out.below VS9.out⟩ (fun hSn => ?_)
      clear hK K
      try simp only [Act.put, List.setIfInBounds_toArray, List.set_cons_zero, List.set_cons_succ]
      refine wpAnyH_ready (rs := [4]) (by kernel_rfl) (by simp) ?_
      refine AllReadyH.cons rfl (fun K hK => ?_) AllReadyH.nil
      refine step_conv (o := ⟨some 54, _, _, _, _, _⟩) rfl (.tmp 53) 30 9 rfl (.slice A9 F.length c9) (.string (Str F)) rfl (run_string_sees Tryd.underlying30 Tryd.underlying5 Tryd.underlying9 rfl S9.out) ?_
      refine hK.out _ _ ⟨rngB HR.out V9.out Hlt.out, S3.out.below VS9.out⟩ (fun hSn => ?_)
      clear hK K
      try simp only [Act.put, List.setIfInBounds_toArray, List.set_cons_zero, List.set_cons_succ]
      refine wpAnyH_take (i := 5) (oi := ⟨_, _, _, _, _, _⟩) (v := ?_) rfl (by kernel_rfl) (by kernel_rfl) (by kernel_rfl) (fun _ _ _ h => h) (Or.inl ⟨by rfl, ?_⟩) (by assumption) ?_
      rotate_left 1
      · intro W hSw
        try dsimp only at hSw
        go_simp
        try with_reducible rfl
      try simp only [Act.put, List.setIfInBounds_toArray, List.set_cons_zero, List.set_cons_succ]
      refine wpAnyH_take (i := 6) (oi := ⟨_, _, _, _, _, _⟩) (v := ?_) rfl (by kernel_rfl) (by kernel_rfl) (by kernel_rfl) (fun _ _ _ h => h) (Or.inl ⟨by rfl, ?_⟩) (by assumption) ?_
      rotate_left 1
      · intro W hSw
        try dsimp only at hSw
        go_simp
        try with_reducible rfl
      try simp only [Act.put, List.setIfInBounds_toArray, List.set_cons_zero, List.set_cons_succ]
      refine wpAnyH_ready (rs := [7]) (by kernel_rfl) (by simp) ?_
      refine AllReadyH.cons rfl (fun K hK => ?_) AllReadyH.nil
      go_simp
      go_at_call 8
      refine (known_any w9).mono ?_
      rintro e w10 ⟨rfl, hb⟩
      have V10 : Hid (Below (w.alloc (.cells (txC t).toArray 26)).heap.size (w.alloc (.cells (txC t).toArray 26)) w10) := nxTr V9.out hb
      have VS10 : Hid (Below w3.heap.size w3 w10) := nxTr VS9.out hb
      clear hb
      refine hK.out _ _ ⟨rngB HR.out V10.out Hlt.out, S3.out.below VS10.out⟩ (fun hSn => ?_)
      clear hK K
      try simp only [Act.put, List.setIfInBounds_toArray, List.set_cons_zero, List.set_cons_succ]
      refine wpAnyH_take (i := 8) (oi := ⟨_, _, _, _, _, _⟩) (v := ?_) rfl (by kernel_rfl) (by kernel_rfl) (by kernel_rfl) (fun _ _ _ h => h) (Or.inl ⟨by rfl, ?_⟩) (by assumption) ?_
      rotate_left 1
      · intro W hSw
        try dsimp only at hSw
        go_simp
        try with_reducible rfl
      try simp only [Act.put, List.setIfInBounds_toArray, List.set_cons_zero, List.set_cons_succ]
      refine wpAnyH_take (i := 9) (oi := ⟨_, _, _, _, _, _⟩) (v := ?_) rfl (by kernel_rfl) (by kernel_rfl) (by kernel_rfl) (fun _ _ _ h => h) (Or.inl ⟨by rfl, ?_⟩) (by assumption) ?_
      rotate_left 1
      · intro W hSw
        try dsimp only at hSw
        go_simp
        try with_reducible rfl
      try simp only [Act.put, List.setIfInBounds_toArray, List.set_cons_zero, List.set_cons_succ]
      refine wpAnyH_done (by kernel_rfl) ?_ _
      go_wp2
      go_ret
      exact ⟨rfl, nxTr Hb0.out V10.out⟩
    · go_enter Tryd.func3, Tryd.ntmps3
      go_wp2_with (first
        | ((with_reducible show wpList _ _ _ (⟨some 6, _, _, _, _, _⟩ :: _) _ _); refine wpList_load_mid rfl 26 (.tmp 1) rfl w.heap.size 0 rfl (txC t) _ HR.out Tryd.underlying26 rfl HZ.out ?_)
        | ((with_reducible show wpList _ _ _ (⟨some 7, _, _, _, _, _⟩ :: _) _ _); refine wpList_build_tx rfl (.tmp 6) rfl t rfl ?_)
        | (go_at_call 7; refine (much_any ((w.alloc (.cells (txC t).toArray 26)).alloc (.cells (txC t).toArray 26)) (w.heap.size + 1) t HT1.out HB1.out).mono ?_; rw [HMz.out]; rintro e w2 ⟨rfl, hb2⟩; have V2 : Hid (Below (w.alloc (.cells (txC t).toArray 26)).heap.size (w.alloc (.cells (txC t).toArray 26)) w2) := nxTr (nxAl (nxRf _) _) hb2; clear hb2)
        | ((with_reducible show wpList _ _ _ (⟨some 11, _, _, _, _, _⟩ :: _) _ _); refine wpList_load_mid rfl 26 (.tmp 1) rfl w.heap.size 0 rfl (txC t) _ (rngB HR.out V2.out Hlt.out) Tryd.underlying26 rfl HZ.out ?_)
        | (go_at_call 9; refine (bytes_no w2 t (HT.out.later V2.out) (by rw [HCz.out]; decide)).mono ?_; rw [HCz.out]; rintro e w3 ⟨rfl, hb3⟩; have V3 : Hid (Below (w.alloc (.cells (txC t).toArray 26)).heap.size (w.alloc (.cells (txC t).toArray 26)) w3) := nxTr V2.out hb3; clear hb3)
        | ((with_reducible show wpList _ _ _ (⟨some 15, _, _, _, _, _⟩ :: _) _ _); refine wpList_load_mid rfl 26 (.tmp 1) rfl w.heap.size 0 rfl (txC t) _ (rngB HR.out V3.out Hlt.out) Tryd.underlying26 rfl HZ.out ?_)
        | (go_at_call 10; refine (rcheck_any w3 t (HT.out.later V3.out)).mono ?_; rw [HCz.out]; rintro e w4 ⟨rfl, hb4⟩; have V4 : Hid (Below (w.alloc (.cells (txC t).toArray 26)).heap.size (w.alloc (.cells (txC t).toArray 26)) w4) := nxTr V3.out hb4; have VS4 : Hid (Below w3.heap.size w3 w4) := hb4; clear hb4))
      have V4d : Hid (Below (w.alloc (.cells (txC t).toArray 26)).heap.size (w.alloc (.cells (txC t).toArray 26)) w4.drew) := ⟨V4.out.os, V4.out.tape, V4.out.output, V4.out.size, V4.out.block⟩
      refine wp_region_held_drew (S := fun W => W.rangeAt w.heap.size 0 (txC t)) (by kernel_rfl) (rngB HR.out V4d.out Hlt.out) (fun hHeld => ?_)
      refine wpAnyH_take (i := 0) (oi := ⟨_, _, _, _, _, _⟩) (v := .agg (txC t).toArray) rfl (by kernel_rfl) (by kernel_rfl) (by kernel_rfl) (fun _ _ _ h => h) (yieldsIf_load_mid (by rfl) 26 (.tmp 1) rfl (w.heap.size) (0) rfl (txC t) _ (fun W h => h) Tryd.underlying26 rfl HZ.out) (by assumption) ?_
      try simp only [Act.put, List.setIfInBounds_toArray, List.set_cons_zero, List.set_cons_succ]
      refine wpAnyH_take (i := 3) (oi := ⟨_, _, _, _, _, _⟩) (v := ?_) rfl (by kernel_rfl) (by kernel_rfl) (by kernel_rfl) (fun _ _ _ h => h) (Or.inl ⟨by rfl, ?_⟩) (by assumption) ?_
      rotate_left 1
      · intro W hSw
        try dsimp only at hSw
        go_simp
        try with_reducible rfl
      try simp only [Act.put, List.setIfInBounds_toArray, List.set_cons_zero, List.set_cons_succ]
      refine wpAnyH_ready (rs := [1]) (by kernel_rfl) (by simp) ?_
      refine AllReadyH.cons rfl (fun K hK => ?_) AllReadyH.nil
      go_simp
      go_at_call 12
      refine (check_any w4.drew t (HT.out.later V4d.out)).mono ?_
      rw [HCz.out]
      rintro e w5 ⟨rfl, hb⟩
      have V5 : Hid (Below (w.alloc (.cells (txC t).toArray 26)).heap.size (w.alloc (.cells (txC t).toArray 26)) w5) := nxTr V4d.out hb
      have VS5 : Hid (Below w3.heap.size w3 w5) := nxTr VS4.out (nxUd hb)
      clear hb
      refine hK.out _ _ (rngB HR.out V5.out Hlt.out) (fun hSn => ?_)
      clear hK K
      try simp only [Act.put, List.setIfInBounds_toArray, List.set_cons_zero, List.set_cons_succ]
      refine wpAnyH_ready (rs := [2]) (by kernel_rfl) (by simp) ?_
      refine AllReadyH.cons rfl (fun K hK => ?_) AllReadyH.nil
      go_simp
      go_at_call 11
      refine (num_any _ _).mono ?_
      rintro e wn ⟨rfl, hwn⟩
      obtain rfl := hwn.symm
      refine hK.out _ _ (rngB HR.out V5.out Hlt.out) (fun hSn => ?_)
      clear hK K
      try simp only [Act.put, List.setIfInBounds_toArray, List.set_cons_zero, List.set_cons_succ]
      refine wpAnyH_take (i := 4) (oi := ⟨_, _, _, _, _, _⟩) (v := ?_) rfl (by kernel_rfl) (by kernel_rfl) (by kernel_rfl) (fun _ _ _ h => h) (Or.inl ⟨by rfl, ?_⟩) (by assumption) ?_
      rotate_left 1
      · intro W hSw
        try dsimp only at hSw
        go_simp
        try with_reducible rfl
      try simp only [Act.put, List.setIfInBounds_toArray, List.set_cons_zero, List.set_cons_succ]
      refine wpAnyH_take (i := 5) (oi := ⟨_, _, _, _, _, _⟩) (v := ?_) rfl (by kernel_rfl) (by kernel_rfl) (by kernel_rfl) (fun _ _ _ h => h) (Or.inl ⟨by rfl, ?_⟩) (by assumption) ?_
      rotate_left 1
      · intro W hSw
        try dsimp only at hSw
        go_simp
        try with_reducible rfl
      try simp only [Act.put, List.setIfInBounds_toArray, List.set_cons_zero, List.set_cons_succ]
      refine wpAnyH_take (i := 6) (oi := ⟨_, _, _, _, _, _⟩) (v := .agg (txC t).toArray) rfl (by kernel_rfl) (by kernel_rfl) (by kernel_rfl) (fun _ _ _ h => h) (yieldsIf_load_mid (by rfl) 26 (.tmp 1) rfl (w.heap.size) (0) rfl (txC t) _ (fun W h => h) Tryd.underlying26 rfl HZ.out) (by assumption) ?_
      try simp only [Act.put, List.setIfInBounds_toArray, List.set_cons_zero, List.set_cons_succ]
      refine wpAnyH_take (i := 8) (oi := ⟨_, _, _, _, _, _⟩) (v := ?_) rfl (by kernel_rfl) (by kernel_rfl) (by kernel_rfl) (fun _ _ _ h => h) (Or.inl ⟨by rfl, ?_⟩) (by assumption) ?_
      rotate_left 1
      · intro W hSw
        try dsimp only at hSw
        go_simp
        try with_reducible rfl
      try simp only [Act.put, List.setIfInBounds_toArray, List.set_cons_zero, List.set_cons_succ]
      refine wpAnyH_take (i := 9) (oi := ⟨_, _, _, _, _, _⟩) (v := ?_) rfl (by kernel_rfl) (by kernel_rfl) (by kernel_rfl) (fun _ _ _ h => h) (Or.inl ⟨by rfl, ?_⟩) (by assumption) ?_
      rotate_left 1
      · intro W hSw
        try dsimp only at hSw
        go_simp
        try with_reducible rfl
      try simp only [Act.put, List.setIfInBounds_toArray, List.set_cons_zero, List.set_cons_succ]
      refine wpAnyH_ready (rs := [7]) (by kernel_rfl) (by simp) ?_
      refine AllReadyH.cons rfl (fun K hK => ?_) AllReadyH.nil
      go_simp
      go_at_call 13
      refine (may_any w5 t (HT.out.later V5.out)).mono ?_
      rw [HCz.out]
      rintro e w6 ⟨rfl, hb⟩
      have V6 : Hid (Below (w.alloc (.cells (txC t).toArray 26)).heap.size (w.alloc (.cells (txC t).toArray 26)) w6) := nxTr V5.out hb
      have VS6 : Hid (Below w3.heap.size w3 w6) := nxTr VS5.out hb
      clear hb
      refine hK.out _ _ (rngB HR.out V6.out Hlt.out) (fun hSn => ?_)
      clear hK K
      try simp only [Act.put, List.setIfInBounds_toArray, List.set_cons_zero, List.set_cons_succ]
      refine wpAnyH_take (i := 10) (oi := ⟨_, _, _, _, _, _⟩) (v := ?_) rfl (by kernel_rfl) (by kernel_rfl) (by kernel_rfl) (fun _ _ _ h => h) (Or.inl ⟨by rfl, ?_⟩) (by assumption) ?_
      rotate_left 1
      · intro W hSw
        try dsimp only at hSw
        go_simp
        try with_reducible rfl
      try simp only [Act.put, List.setIfInBounds_toArray, List.set_cons_zero, List.set_cons_succ]
      refine wpAnyH_take (i := 11) (oi := ⟨_, _, _, _, _, _⟩) (v := ?_) rfl (by kernel_rfl) (by kernel_rfl) (by kernel_rfl) (fun _ _ _ h => h) (Or.inl ⟨by rfl, ?_⟩) (by assumption) ?_
      rotate_left 1
      · intro W hSw
        try dsimp only at hSw
        go_simp
        try with_reducible rfl
      try simp only [Act.put, List.setIfInBounds_toArray, List.set_cons_zero, List.set_cons_succ]
      refine wpAnyH_take (i := 12) (oi := ⟨_, _, _, _, _, _⟩) (v := ?_) rfl (by kernel_rfl) (by kernel_rfl) (by kernel_rfl) (fun _ _ _ h => h) (Or.inl ⟨by rfl, ?_⟩) (by assumption) ?_
      rotate_left 1
      · intro W hSw
        try dsimp only at hSw
        go_simp
        try with_reducible rfl
      try simp only [Act.put, List.setIfInBounds_toArray, List.set_cons_zero, List.set_cons_succ]
      refine wpAnyH_take (i := 13) (oi := ⟨_, _, _, _, _, _⟩) (v := .agg (txC t).toArray) rfl (by kernel_rfl) (by kernel_rfl) (by kernel_rfl) (fun _ _ _ h => h) (yieldsIf_load_mid (by rfl) 26 (.tmp 1) rfl (w.heap.size) (0) rfl (txC t) _ (fun W h => h) Tryd.underlying26 rfl HZ.out) (by assumption) ?_
      try simp only [Act.put, List.setIfInBounds_toArray, List.set_cons_zero, List.set_cons_succ]
      refine wpAnyH_take (i := 15) (oi := ⟨_, _, _, _, _, _⟩) (v := .agg (txC t).toArray) rfl (by kernel_rfl) (by kernel_rfl) (by kernel_rfl) (fun _ _ _ h => h) (yieldsIf_load_mid (by rfl) 26 (.tmp 1) rfl (w.heap.size) (0) rfl (txC t) _ (fun W h => h) Tryd.underlying26 rfl HZ.out) (by assumption) ?_
      try simp only [Act.put, List.setIfInBounds_toArray, List.set_cons_zero, List.set_cons_succ]
      refine wpAnyH_ready (rs := [14]) (by kernel_rfl) (by simp) ?_
      refine AllReadyH.cons rfl (fun K hK => ?_) AllReadyH.nil
      go_simp
      go_at_call 14
      refine (id_any w6 (HTb.out.later V6.out) t (HT.out.later V6.out)).mono ?_
      rw [HX.out]
      rintro e w7 ⟨rfl, hb⟩
      have V7 : Hid (Below (w.alloc (.cells (txC t).toArray 26)).heap.size (w.alloc (.cells (txC t).toArray 26)) w7) := nxTr V6.out hb
      have VS7 : Hid (Below w3.heap.size w3 w7) := nxTr VS6.out hb
      clear hb
      refine hK.out _ _ (rngB HR.out V7.out Hlt.out) (fun hSn => ?_)
      clear hK K
      try simp only [Act.put, List.setIfInBounds_toArray, List.set_cons_zero, List.set_cons_succ]
      refine wpAnyH_ready (rs := [16]) (by kernel_rfl) (by simp) ?_
      refine AllReadyH.cons rfl (fun K hK => ?_) AllReadyH.nil
      go_simp
      go_at_call 15
      refine (rid_any w7 t (HT.out.later V7.out)).mono ?_
      rw [HX.out]
      rintro e w8 ⟨rfl, hb⟩
      have V8 : Hid (Below (w.alloc (.cells (txC t).toArray 26)).heap.size (w.alloc (.cells (txC t).toArray 26)) w8) := nxTr V7.out hb
      have VS8 : Hid (Below w3.heap.size w3 w8) := nxTr VS7.out hb
      clear hb
      refine hK.out _ _ (rngB HR.out V8.out Hlt.out) (fun hSn => ?_)
      clear hK K
      try simp only [Act.put, List.setIfInBounds_toArray, List.set_cons_zero, List.set_cons_succ]
      refine wpAnyH_take (i := 17) (oi := ⟨_, _, _, _, _, _⟩) (v := ?_) rfl (by kernel_rfl) (by kernel_rfl) (by kernel_rfl) (fun _ _ _ h => h) (Or.inl ⟨by rfl, ?_⟩) (by assumption) ?_
      rotate_left 1
      · intro W hSw
        try dsimp only at hSw
        go_simp
        try with_reducible rfl
      try simp only [Act.put, List.setIfInBounds_toArray, List.set_cons_zero, List.set_cons_succ]
      refine wpAnyH_take (i := 18) (oi := ⟨_, _, _, _, _, _⟩) (v := ?_) rfl (by kernel_rfl) (by kernel_rfl) (by kernel_rfl) (fun _ _ _ h => h) (Or.inl ⟨by rfl, ?_⟩) (by assumption) ?_
      rotate_left 1
      · intro W hSw
        try dsimp only at hSw
        go_simp
        try with_reducible rfl
      try simp only [Act.put, List.setIfInBounds_toArray, List.set_cons_zero, List.set_cons_succ]
      refine wpAnyH_take (i := 19) (oi := ⟨_, _, _, _, _, _⟩) (v := ?_) rfl (by kernel_rfl) (by kernel_rfl) (by kernel_rfl) (fun _ _ _ h => h) (Or.inl ⟨by rfl, ?_⟩) (by assumption) ?_
      rotate_left 1
      · intro W hSw
        try dsimp only at hSw
        go_simp
        try with_reducible rfl
      try simp only [Act.put, List.setIfInBounds_toArray, List.set_cons_zero, List.set_cons_succ]
      refine wpAnyH_take (i := 20) (oi := ⟨_, _, _, _, _, _⟩) (v := ?_) rfl (by kernel_rfl) (by kernel_rfl) (by kernel_rfl) (fun _ _ _ h => h) (Or.inl ⟨by rfl, ?_⟩) (by assumption) ?_
      rotate_left 1
      · intro W hSw
        try dsimp only at hSw
        go_simp
        try with_reducible rfl
      try simp only [Act.put, List.setIfInBounds_toArray, List.set_cons_zero, List.set_cons_succ]
      refine wpAnyH_take (i := 22) (oi := ⟨_, _, _, _, _, _⟩) (v := ?_) rfl (by kernel_rfl) (by kernel_rfl) (by kernel_rfl) (fun _ _ _ h => h) (Or.inl ⟨by rfl, ?_⟩) (by assumption) ?_
      rotate_left 1
      · intro W hSw
        try dsimp only at hSw
        go_simp
        try with_reducible rfl
      try simp only [Act.put, List.setIfInBounds_toArray, List.set_cons_zero, List.set_cons_succ]
      refine wpAnyH_ready (rs := [21]) (by kernel_rfl) (by simp) ?_
      refine AllReadyH.cons rfl (fun K hK => ?_) AllReadyH.nil
      go_simp
      go_at_call 11
      refine (num_any _ _).mono ?_
      rintro e wn ⟨rfl, hwn⟩
      obtain rfl := hwn.symm
      refine hK.out _ _ (rngB HR.out V8.out Hlt.out) (fun hSn => ?_)
      clear hK K
      try simp only [Act.put, List.setIfInBounds_toArray, List.set_cons_zero, List.set_cons_succ]
      refine wpAnyH_take (i := 23) (oi := ⟨_, _, _, _, _, _⟩) (v := ?_) rfl (by kernel_rfl) (by kernel_rfl) (by kernel_rfl) (fun _ _ _ h => h) (Or.inl ⟨by rfl, ?_⟩) (by assumption) ?_
      rotate_left 1
      · intro W hSw
        try dsimp only at hSw
        go_simp
        try with_reducible rfl
      try simp only [Act.put, List.setIfInBounds_toArray, List.set_cons_zero, List.set_cons_succ]
      refine wpAnyH_take (i := 24) (oi := ⟨_, _, _, _, _, _⟩) (v := ?_) rfl (by kernel_rfl) (by kernel_rfl) (by kernel_rfl) (fun _ _ _ h => h) (Or.inl ⟨by rfl, ?_⟩) (by assumption) ?_
      rotate_left 1
      · intro W hSw
        try dsimp only at hSw
        go_simp
        try with_reducible rfl
      try simp only [Act.put, List.setIfInBounds_toArray, List.set_cons_zero, List.set_cons_succ]
      refine wpAnyH_done (by kernel_rfl) ?_ _
      go_wp2_with (go_at_call 8; refine (known_any w8).mono ?_; rintro e w9 ⟨rfl, hb⟩; have V9 : Hid (Below (w.alloc (.cells (txC t).toArray 26)).heap.size (w.alloc (.cells (txC t).toArray 26)) w9) := nxTr V8.out hb; clear hb)
      go_ret
      exact ⟨rfl, nxTr Hb0.out V9.out⟩
    · go_enter Tryd.func3, Tryd.ntmps3
      go_wp2_with (first
        | ((with_reducible show wpList _ _ _ (⟨some 6, _, _, _, _, _⟩ :: _) _ _); refine wpList_load_mid rfl 26 (.tmp 1) rfl w.heap.size 0 rfl (txC t) _ HR.out Tryd.underlying26 rfl HZ.out ?_)
        | ((with_reducible show wpList _ _ _ (⟨some 7, _, _, _, _, _⟩ :: _) _ _); refine wpList_build_tx rfl (.tmp 6) rfl t rfl ?_)
        | (go_at_call 7; refine (much_any ((w.alloc (.cells (txC t).toArray 26)).alloc (.cells (txC t).toArray 26)) (w.heap.size + 1) t HT1.out HB1.out).mono ?_; rw [HMz.out]; rintro e w2 ⟨rfl, hb2⟩; have V2 : Hid (Below (w.alloc (.cells (txC t).toArray 26)).heap.size (w.alloc (.cells (txC t).toArray 26)) w2) := nxTr (nxAl (nxRf _) _) hb2; clear hb2)
        | ((with_reducible show wpList _ _ _ (⟨some 11, _, _, _, _, _⟩ :: _) _ _); refine wpList_load_mid rfl 26 (.tmp 1) rfl w.heap.size 0 rfl (txC t) _ (rngB HR.out V2.out Hlt.out) Tryd.underlying26 rfl HZ.out ?_)
        | (go_at_call 9; refine (bytes_no w2 t (HT.out.later V2.out) (by rw [HCz.out]; decide)).mono ?_; rw [HCz.out]; rintro e w3 ⟨rfl, hb3⟩; have V3 : Hid (Below (w.alloc (.cells (txC t).toArray 26)).heap.size (w.alloc (.cells (txC t).toArray 26)) w3) := nxTr V2.out hb3; clear hb3)
        | ((with_reducible show wpList _ _ _ (⟨some 15, _, _, _, _, _⟩ :: _) _ _); refine wpList_load_mid rfl 26 (.tmp 1) rfl w.heap.size 0 rfl (txC t) _ (rngB HR.out V3.out Hlt.out) Tryd.underlying26 rfl HZ.out ?_)
        | (go_at_call 10; refine (rcheck_any w3 t (HT.out.later V3.out)).mono ?_; rw [HCz.out]; rintro e w4 ⟨rfl, hb4⟩; have V4 : Hid (Below (w.alloc (.cells (txC t).toArray 26)).heap.size (w.alloc (.cells (txC t).toArray 26)) w4) := nxTr V3.out hb4; have VS4 : Hid (Below w3.heap.size w3 w4) := hb4; clear hb4))
      have V4d : Hid (Below (w.alloc (.cells (txC t).toArray 26)).heap.size (w.alloc (.cells (txC t).toArray 26)) w4.drew) := ⟨V4.out.os, V4.out.tape, V4.out.output, V4.out.size, V4.out.block⟩
      refine wp_region_held_drew (S := fun W => W.rangeAt w.heap.size 0 (txC t)) (by kernel_rfl) (rngB HR.out V4d.out Hlt.out) (fun hHeld => ?_)
      refine wpAnyH_take (i := 0) (oi := ⟨_, _, _, _, _, _⟩) (v := .agg (txC t).toArray) rfl (by kernel_rfl) (by kernel_rfl) (by kernel_rfl) (fun _ _ _ h => h) (yieldsIf_load_mid (by rfl) 26 (.tmp 1) rfl (w.heap.size) (0) rfl (txC t) _ (fun W h => h) Tryd.underlying26 rfl HZ.out) (by assumption) ?_
      try simp only [Act.put, List.setIfInBounds_toArray, List.set_cons_zero, List.set_cons_succ]
      refine wpAnyH_take (i := 3) (oi := ⟨_, _, _, _, _, _⟩) (v := ?_) rfl (by kernel_rfl) (by kernel_rfl) (by kernel_rfl) (fun _ _ _ h => h) (Or.inl ⟨by rfl, ?_⟩) (by assumption) ?_
      rotate_left 1
      · intro W hSw
        try dsimp only at hSw
        go_simp
        try with_reducible rfl
      try simp only [Act.put, List.setIfInBounds_toArray, List.set_cons_zero, List.set_cons_succ]
      refine wpAnyH_ready (rs := [1]) (by kernel_rfl) (by simp) ?_
      refine AllReadyH.cons rfl (fun K hK => ?_) AllReadyH.nil
      go_simp
      go_at_call 12
      refine (check_any w4.drew t (HT.out.later V4d.out)).mono ?_
      rw [HCz.out]
      rintro e w5 ⟨rfl, hb⟩
      have V5 : Hid (Below (w.alloc (.cells (txC t).toArray 26)).heap.size (w.alloc (.cells (txC t).toArray 26)) w5) := nxTr V4d.out hb
      have VS5 : Hid (Below w3.heap.size w3 w5) := nxTr VS4.out (nxUd hb)
      clear hb
      refine hK.out _ _ (rngB HR.out V5.out Hlt.out) (fun hSn => ?_)
      clear hK K
      try simp only [Act.put, List.setIfInBounds_toArray, List.set_cons_zero, List.set_cons_succ]
      refine wpAnyH_ready (rs := [2]) (by kernel_rfl) (by simp) ?_
      refine AllReadyH.cons rfl (fun K hK => ?_) AllReadyH.nil
      go_simp
      go_at_call 11
      refine (num_any _ _).mono ?_
      rintro e wn ⟨rfl, hwn⟩
      obtain rfl := hwn.symm
      refine hK.out _ _ (rngB HR.out V5.out Hlt.out) (fun hSn => ?_)
      clear hK K
      try simp only [Act.put, List.setIfInBounds_toArray, List.set_cons_zero, List.set_cons_succ]
      refine wpAnyH_take (i := 4) (oi := ⟨_, _, _, _, _, _⟩) (v := ?_) rfl (by kernel_rfl) (by kernel_rfl) (by kernel_rfl) (fun _ _ _ h => h) (Or.inl ⟨by rfl, ?_⟩) (by assumption) ?_
      rotate_left 1
      · intro W hSw
        try dsimp only at hSw
        go_simp
        try with_reducible rfl
      try simp only [Act.put, List.setIfInBounds_toArray, List.set_cons_zero, List.set_cons_succ]
      refine wpAnyH_take (i := 5) (oi := ⟨_, _, _, _, _, _⟩) (v := ?_) rfl (by kernel_rfl) (by kernel_rfl) (by kernel_rfl) (fun _ _ _ h => h) (Or.inl ⟨by rfl, ?_⟩) (by assumption) ?_
      rotate_left 1
      · intro W hSw
        try dsimp only at hSw
        go_simp
        try with_reducible rfl
      try simp only [Act.put, List.setIfInBounds_toArray, List.set_cons_zero, List.set_cons_succ]
      refine wpAnyH_take (i := 6) (oi := ⟨_, _, _, _, _, _⟩) (v := .agg (txC t).toArray) rfl (by kernel_rfl) (by kernel_rfl) (by kernel_rfl) (fun _ _ _ h => h) (yieldsIf_load_mid (by rfl) 26 (.tmp 1) rfl (w.heap.size) (0) rfl (txC t) _ (fun W h => h) Tryd.underlying26 rfl HZ.out) (by assumption) ?_
      try simp only [Act.put, List.setIfInBounds_toArray, List.set_cons_zero, List.set_cons_succ]
      refine wpAnyH_take (i := 8) (oi := ⟨_, _, _, _, _, _⟩) (v := ?_) rfl (by kernel_rfl) (by kernel_rfl) (by kernel_rfl) (fun _ _ _ h => h) (Or.inl ⟨by rfl, ?_⟩) (by assumption) ?_
      rotate_left 1
      · intro W hSw
        try dsimp only at hSw
        go_simp
        try with_reducible rfl
      try simp only [Act.put, List.setIfInBounds_toArray, List.set_cons_zero, List.set_cons_succ]
      refine wpAnyH_take (i := 9) (oi := ⟨_, _, _, _, _, _⟩) (v := ?_) rfl (by kernel_rfl) (by kernel_rfl) (by kernel_rfl) (fun _ _ _ h => h) (Or.inl ⟨by rfl, ?_⟩) (by assumption) ?_
      rotate_left 1
      · intro W hSw
        try dsimp only at hSw
        go_simp
        try with_reducible rfl
      try simp only [Act.put, List.setIfInBounds_toArray, List.set_cons_zero, List.set_cons_succ]
      refine wpAnyH_ready (rs := [7]) (by kernel_rfl) (by simp) ?_
      refine AllReadyH.cons rfl (fun K hK => ?_) AllReadyH.nil
      go_simp
      go_at_call 13
      refine (may_any w5 t (HT.out.later V5.out)).mono ?_
      rw [HCz.out]
      rintro e w6 ⟨rfl, hb⟩
      have V6 : Hid (Below (w.alloc (.cells (txC t).toArray 26)).heap.size (w.alloc (.cells (txC t).toArray 26)) w6) := nxTr V5.out hb
      have VS6 : Hid (Below w3.heap.size w3 w6) := nxTr VS5.out hb
      clear hb
      refine hK.out _ _ (rngB HR.out V6.out Hlt.out) (fun hSn => ?_)
      clear hK K
      try simp only [Act.put, List.setIfInBounds_toArray, List.set_cons_zero, List.set_cons_succ]
      refine wpAnyH_take (i := 10) (oi := ⟨_, _, _, _, _, _⟩) (v := ?_) rfl (by kernel_rfl) (by kernel_rfl) (by kernel_rfl) (fun _ _ _ h => h) (Or.inl ⟨by rfl, ?_⟩) (by assumption) ?_
      rotate_left 1
      · intro W hSw
        try dsimp only at hSw
        go_simp
        try with_reducible rfl
      try simp only [Act.put, List.setIfInBounds_toArray, List.set_cons_zero, List.set_cons_succ]
      refine wpAnyH_take (i := 11) (oi := ⟨_, _, _, _, _, _⟩) (v := ?_) rfl (by kernel_rfl) (by kernel_rfl) (by kernel_rfl) (fun _ _ _ h => h) (Or.inl ⟨by rfl, ?_⟩) (by assumption) ?_
      rotate_left 1
      · intro W hSw
        try dsimp only at hSw
        go_simp
        try with_reducible rfl
      try simp only [Act.put, List.setIfInBounds_toArray, List.set_cons_zero, List.set_cons_succ]
      refine wpAnyH_take (i := 12) (oi := ⟨_, _, _, _, _, _⟩) (v := ?_) rfl (by kernel_rfl) (by kernel_rfl) (by kernel_rfl) (fun _ _ _ h => h) (Or.inl ⟨by rfl, ?_⟩) (by assumption) ?_
      rotate_left 1
      · intro W hSw
        try dsimp only at hSw
        go_simp
        try with_reducible rfl
      try simp only [Act.put, List.setIfInBounds_toArray, List.set_cons_zero, List.set_cons_succ]
      refine wpAnyH_take (i := 13) (oi := ⟨_, _, _, _, _, _⟩) (v := .agg (txC t).toArray) rfl (by kernel_rfl) (by kernel_rfl) (by kernel_rfl) (fun _ _ _ h => h) (yieldsIf_load_mid (by rfl) 26 (.tmp 1) rfl (w.heap.size) (0) rfl (txC t) _ (fun W h => h) Tryd.underlying26 rfl HZ.out) (by assumption) ?_
      try simp only [Act.put, List.setIfInBounds_toArray, List.set_cons_zero, List.set_cons_succ]
      refine wpAnyH_take (i := 15) (oi := ⟨_, _, _, _, _, _⟩) (v := .agg (txC t).toArray) rfl (by kernel_rfl) (by kernel_rfl) (by kernel_rfl) (fun _ _ _ h => h) (yieldsIf_load_mid (by rfl) 26 (.tmp 1) rfl (w.heap.size) (0) rfl (txC t) _ (fun W h => h) Tryd.underlying26 rfl HZ.out) (by assumption) ?_
      try simp only [Act.put, List.setIfInBounds_toArray, List.set_cons_zero, List.set_cons_succ]
      refine wpAnyH_ready (rs := [14]) (by kernel_rfl) (by simp) ?_
      refine AllReadyH.cons rfl (fun K hK => ?_) AllReadyH.nil
      go_simp
      go_at_call 14
      refine (id_any w6 (HTb.out.later V6.out) t (HT.out.later V6.out)).mono ?_
      rw [HX.out]
      rintro e w7 ⟨rfl, hb⟩
      have V7 : Hid (Below (w.alloc (.cells (txC t).toArray 26)).heap.size (w.alloc (.cells (txC t).toArray 26)) w7) := nxTr V6.out hb
      have VS7 : Hid (Below w3.heap.size w3 w7) := nxTr VS6.out hb
      clear hb
      refine hK.out _ _ (rngB HR.out V7.out Hlt.out) (fun hSn => ?_)
      clear hK K
      try simp only [Act.put, List.setIfInBounds_toArray, List.set_cons_zero, List.set_cons_succ]
      refine wpAnyH_ready (rs := [16]) (by kernel_rfl) (by simp) ?_
      refine AllReadyH.cons rfl (fun K hK => ?_) AllReadyH.nil
      go_simp
      go_at_call 15
      refine (rid_any w7 t (HT.out.later V7.out)).mono ?_
      rw [HX.out]
      rintro e w8 ⟨rfl, hb⟩
      have V8 : Hid (Below (w.alloc (.cells (txC t).toArray 26)).heap.size (w.alloc (.cells (txC t).toArray 26)) w8) := nxTr V7.out hb
      have VS8 : Hid (Below w3.heap.size w3 w8) := nxTr VS7.out hb
      clear hb
      refine hK.out _ _ (rngB HR.out V8.out Hlt.out) (fun hSn => ?_)
      clear hK K
      try simp only [Act.put, List.setIfInBounds_toArray, List.set_cons_zero, List.set_cons_succ]
      refine wpAnyH_take (i := 17) (oi := ⟨_, _, _, _, _, _⟩) (v := ?_) rfl (by kernel_rfl) (by kernel_rfl) (by kernel_rfl) (fun _ _ _ h => h) (Or.inl ⟨by rfl, ?_⟩) (by assumption) ?_
      rotate_left 1
      · intro W hSw
        try dsimp only at hSw
        go_simp
        try with_reducible rfl
      try simp only [Act.put, List.setIfInBounds_toArray, List.set_cons_zero, List.set_cons_succ]
      refine wpAnyH_take (i := 18) (oi := ⟨_, _, _, _, _, _⟩) (v := ?_) rfl (by kernel_rfl) (by kernel_rfl) (by kernel_rfl) (fun _ _ _ h => h) (Or.inl ⟨by rfl, ?_⟩) (by assumption) ?_
      rotate_left 1
      · intro W hSw
        try dsimp only at hSw
        go_simp
        try with_reducible rfl
      try simp only [Act.put, List.setIfInBounds_toArray, List.set_cons_zero, List.set_cons_succ]
      refine wpAnyH_take (i := 19) (oi := ⟨_, _, _, _, _, _⟩) (v := ?_) rfl (by kernel_rfl) (by kernel_rfl) (by kernel_rfl) (fun _ _ _ h => h) (Or.inl ⟨by rfl, ?_⟩) (by assumption) ?_
      rotate_left 1
      · intro W hSw
        try dsimp only at hSw
        go_simp
        try with_reducible rfl
      try simp only [Act.put, List.setIfInBounds_toArray, List.set_cons_zero, List.set_cons_succ]
      refine wpAnyH_take (i := 20) (oi := ⟨_, _, _, _, _, _⟩) (v := ?_) rfl (by kernel_rfl) (by kernel_rfl) (by kernel_rfl) (fun _ _ _ h => h) (Or.inl ⟨by rfl, ?_⟩) (by assumption) ?_
      rotate_left 1
      · intro W hSw
        try dsimp only at hSw
        go_simp
        try with_reducible rfl
      try simp only [Act.put, List.setIfInBounds_toArray, List.set_cons_zero, List.set_cons_succ]
      refine wpAnyH_take (i := 22) (oi := ⟨_, _, _, _, _, _⟩) (v := ?_) rfl (by kernel_rfl) (by kernel_rfl) (by kernel_rfl) (fun _ _ _ h => h) (Or.inl ⟨by rfl, ?_⟩) (by assumption) ?_
      rotate_left 1
      · intro W hSw
        try dsimp only at hSw
        go_simp
        try with_reducible rfl
      try simp only [Act.put, List.setIfInBounds_toArray, List.set_cons_zero, List.set_cons_succ]
      refine wpAnyH_ready (rs := [21]) (by kernel_rfl) (by simp) ?_
      refine AllReadyH.cons rfl (fun K hK => ?_) AllReadyH.nil
      go_simp
      go_at_call 11
      refine (num_any _ _).mono ?_
      rintro e wn ⟨rfl, hwn⟩
      obtain rfl := hwn.symm
      refine hK.out _ _ (rngB HR.out V8.out Hlt.out) (fun hSn => ?_)
      clear hK K
      try simp only [Act.put, List.setIfInBounds_toArray, List.set_cons_zero, List.set_cons_succ]
      refine wpAnyH_take (i := 23) (oi := ⟨_, _, _, _, _, _⟩) (v := ?_) rfl (by kernel_rfl) (by kernel_rfl) (by kernel_rfl) (fun _ _ _ h => h) (Or.inl ⟨by rfl, ?_⟩) (by assumption) ?_
      rotate_left 1
      · intro W hSw
        try dsimp only at hSw
        go_simp
        try with_reducible rfl
      try simp only [Act.put, List.setIfInBounds_toArray, List.set_cons_zero, List.set_cons_succ]
      refine wpAnyH_take (i := 24) (oi := ⟨_, _, _, _, _, _⟩) (v := ?_) rfl (by kernel_rfl) (by kernel_rfl) (by kernel_rfl) (fun _ _ _ h => h) (Or.inl ⟨by rfl, ?_⟩) (by assumption) ?_
      rotate_left 1
      · intro W hSw
        try dsimp only at hSw
        go_simp
        try with_reducible rfl
      try simp only [Act.put, List.setIfInBounds_toArray, List.set_cons_zero, List.set_cons_succ]
      refine wpAnyH_done (by kernel_rfl) ?_ _
      go_wp2_with (go_at_call 8; refine (known_any w8).mono ?_; rintro e w9 ⟨rfl, hb⟩; have V9 : Hid (Below (w.alloc (.cells (txC t).toArray 26)).heap.size (w.alloc (.cells (txC t).toArray 26)) w9) := nxTr V8.out hb; clear hb)
      go_ret
      exact ⟨rfl, nxTr Hb0.out V9.out⟩
end Go.Proofs.YtckomfffilonlaaDoor
