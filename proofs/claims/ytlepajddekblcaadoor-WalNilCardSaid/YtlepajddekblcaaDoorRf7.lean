/-
  disk: the document's own disk: Append.
-/
import Derived.Test.YtlepajddekblcaaDoorRf6
namespace Go.Proofs.YtlepajddekblcaaDoor
open Go.RowKit

set_option maxHeartbeats 4000000 in
set_option maxRecDepth 100000 in
theorem rappend_any (w : World) (g : Nat) (m : RfM) (D : DkD) (h : RfOk w g m) (hD : RelR D m) (wf : DkWf D) (hW : m.W.length ≤ 1000) (log : Int) (A : Option Addr) (b : List UInt8) (c : Nat) (hS : Sees w w.heap.size A b) (hb : b.length ≤ 50000000) : Calls Tryd.prog 74 #[ptrD g, .int .i64 log, .slice A b.length c] w (RPost w g m (appendD D log b).1) := by
  have H := Lib.hid h
  have HDD := Lib.hid hD
  have HWf := Lib.hid wf
  have HWl := Lib.hid hW
  have HS := Lib.hid hS
  have HBl := Lib.hid hb
  have c18 := h.cD
  clear h hD wf hW hS hb
  unfold ptrD
  by_cases h0 : log < 0
  · have HC : Hid ((appendD D log b).1 = D) := by show _ = _; unfold appendD mayD; rw [decide_eq_false (by omega : ¬ (0 ≤ log))]; rfl
    have hd0 : decide (log < 0) = true := decide_eq_true h0
    rw [HC.out]
    go_enter Tryd.func74, Tryd.ntmps74
    go_wp2
    go_ret
    exact RPost.is m (RfTo.refl H.out) HDD.out
  · by_cases h1 : 16 ≤ log
    · have HC : Hid ((appendD D log b).1 = D) := by show _ = _; unfold appendD mayD; rw [decide_eq_false (by omega : ¬ (log < 16)), Bool.and_false]; rfl
      have hd0 : decide (log < 0) = false := decide_eq_false h0
      have hd1 : decide (16 ≤ log) = true := decide_eq_true h1
      rw [HC.out]
      go_enter Tryd.func74, Tryd.ntmps74
      go_wp2
      go_ret
      exact RPost.is m (RfTo.refl H.out) HDD.out
    · obtain ⟨i, rfl⟩ : ∃ i : Nat, log = (i : Int) := ⟨log.toNat, by omega⟩
      have hi : i < 16 := by omega
      have HI := Lib.hid hi
      have hd0 : decide ((i : Int) < 0) = false := decide_eq_false h0
      have hd1 : decide ((16 : Int) ≤ (i : Int)) = false := decide_eq_false h1
      have hm : mayD (i : Int) = true := by unfold mayD; rw [decide_eq_true (by omega), decide_eq_true (by omega)]; rfl
      by_cases hd : m.dead = true
      · rw [hd] at c18
        have HC : Hid ((appendD D (i : Int) b).1 = D) := by show _ = _; unfold appendD; rw [hm, HDD.out.d.trans hd]; rfl
        rw [HC.out]
        go_enter Tryd.func74, Tryd.ntmps74
        go_wp2
        go_ret
        exact RPost.is m (RfTo.refl H.out) HDD.out
      · have hd' : m.dead = false := by simpa using hd
        have hDd : D.dead = false := HDD.out.d.trans hd'
        rw [hd'] at c18
        obtain ⟨x, hx⟩ : ∃ x, rowD D.X (16 + i) = x := ⟨_, rfl⟩
        have HXe := Lib.hid hx
        have HXl : Hid (x.length ≤ 16777216) := by show _ ≤ _; rw [← hx]; exact HWf.out.m _
        have hxl : x.length ≤ 16777216 := HXl.out
        have hwx : IntKind.i64.wrap (16777216 - (x.length : Int)) = 16777216 - (x.length : Int) := by rw [IntKind.wrap_i64]; omega
        have hti : (i : Int).toNat = i := Int.toNat_natCast i
        by_cases h3 : 16777216 < x.length + b.length
        · have HC : Hid ((appendD D (i : Int) b).1 = D) := by show _ = _; unfold appendD; rw [hm, hDd, hti, hx, decide_eq_true h3]; rfl
          have h3' : 16777216 - (x.length : Int) < (b.length : Int) := by omega
          have hd3 : decide (16777216 - (x.length : Int) < (b.length : Int)) = true := decide_eq_true h3'
          rw [HC.out]
          go_enter Tryd.func74, Tryd.ntmps74
          go_wp2_with (first | (go_at_call 71; refine (RelR.now HDD.out HWf.out H.out HWl.out).mono ?_; rintro e w2 ⟨rows, rfl, hnw⟩; have N2 := Lib.hid hnw; (have hix := fun wq => index_rows wq rows hnw.n i HI.out); (rw [hnw.at_ HDD.out HWf.out H.out.n HI.out, HXe.out] at hix); clear hnw))
          go_ret
          exact RPost.is m (RfTo.below H.out N2.out.v) HDD.out
        · have HC : Hid ((appendD D (i : Int) b).1 = (burnD (waitD D (.put i b))).1) := by show _ = _; unfold appendD; rw [hm, hDd, hti, hx, decide_eq_false h3]; rfl
          have h3' : ¬ 16777216 - (x.length : Int) < (b.length : Int) := by omega
          have hd3 : decide (16777216 - (x.length : Int) < (b.length : Int)) = false := decide_eq_false h3'
          rw [HC.out]
          obtain ⟨i0, hi0, hz0, hz1, hz2⟩ := infoD Tryd.putinfo
          obtain ⟨j0, hj0, hy0, hy1, hy2⟩ := infoD Tryd.u8info
          have HI0 := Lib.hid hi0
          have HJ0 := Lib.hid hj0
          clear hi0 hj0
          go_enter Tryd.func74, Tryd.ntmps74
          go_upto_region 7 with (first | (go_at_call 71; refine (RelR.now HDD.out HWf.out H.out HWl.out).mono ?_; rintro e w2 ⟨rows, rfl, hnw⟩; have N2 := Lib.hid hnw; (have hix := fun wq => index_rows wq rows hnw.n i HI.out); (rw [hnw.at_ HDD.out HWf.out H.out.n HI.out, HXe.out] at hix); clear hnw))
          have H2 : Hid (RfOk w2 g m) := H.out.below N2.out.v
          have C16 : Hid (w2.cell? ⟨g, 16, none⟩ = some (.slice m.A m.W.length m.c)) := H2.out.cW
          have S2 : Hid (Sees w2 w2.heap.size A b) := (HS.out.later N2.out.v).more N2.out.v.size
          have hwl : m.W.length ≤ 1000 := HWl.out
          have hbl : b.length ≤ 50000000 := HBl.out
          refine wp_region_K (fun W => W.cell? ⟨g, 16, none⟩ = some (.slice m.A m.W.length m.c)) 13 (by kernel_rfl) C16.out (fun hSn => ?_)
          refine wpAnyK_pure (i := 0) (oi := ⟨_, _, _, _, _, _⟩) (v := ?_) rfl (by kernel_rfl) (by kernel_rfl) (by kernel_rfl) rfl (fun _ _ _ h => h) (Or.inl ⟨by rfl, ?_⟩) hSn ?_
          rotate_left 1
          · intro W hSw
            go_simp
            try with_reducible rfl
          replace hSn := (KT.set (i := 0) (by decide)).2 hSn
          try simp only [Act.put, List.setIfInBounds_toArray, List.set_cons_zero, List.set_cons_succ]
          refine wpAnyK_pure (i := 1) (oi := ⟨_, _, _, _, _, _⟩) (v := ?_) rfl (by kernel_rfl) (by kernel_rfl) (by kernel_rfl) rfl (fun _ _ _ h => h) (Or.inl ⟨by rfl, ?_⟩) hSn ?_
          rotate_left 1
          · intro W hSw
            go_simp
            try with_reducible rfl
          replace hSn := (KT.set (i := 1) (by decide)).2 hSn
          try simp only [Act.put, List.setIfInBounds_toArray, List.set_cons_zero, List.set_cons_succ]
          refine wpAnyK_pure (i := 2) (oi := ⟨_, _, _, _, _, _⟩) (v := ?_) rfl (by kernel_rfl) (by kernel_rfl) (by kernel_rfl) rfl (fun _ _ _ h => h) (Or.inl ⟨by rfl, ?_⟩) hSn ?_
          rotate_left 1
          · intro W hSw
            go_simp
            try with_reducible rfl
          replace hSn := (KT.set (i := 2) (by decide)).2 hSn
          try simp only [Act.put, List.setIfInBounds_toArray, List.set_cons_zero, List.set_cons_succ]
          refine wpAnyK_pure (i := 3) (oi := ⟨_, _, _, _, _, _⟩) (v := ?_) rfl (by kernel_rfl) (by kernel_rfl) (by kernel_rfl) rfl (fun _ _ _ h => h) (Or.inl ⟨by rfl, ?_⟩) hSn ?_
          rotate_left 1
          · intro W hSw
            go_simp
            try with_reducible rfl
          replace hSn := (KT.set (i := 3) (by decide)).2 hSn
          try simp only [Act.put, List.setIfInBounds_toArray, List.set_cons_zero, List.set_cons_succ]
          refine wpAnyK_chain (i := 4) [10, 13] (oi := ⟨_, _, _, _, _, _⟩) (v := ?_) rfl (by kernel_rfl) (by kernel_rfl) (by kernel_rfl) rfl (by kernel_rfl) (by kernel_rfl) (by kernel_rfl) (fun _ _ _ h => h) (Or.inl ⟨by rfl, ?_⟩) hSn ?_
          rotate_left 1
          · intro W hSw
            try dsimp only at hSw
            have hs1 := hSw
            go_simp
            try with_reducible rfl
          replace hSn := (KT.set (i := 4) (by decide)).2 hSn
          try simp only [Act.put, List.setIfInBounds_toArray, List.set_cons_zero, List.set_cons_succ]
          refine wpAnyK_pure (i := 5) (oi := ⟨_, _, _, _, _, _⟩) (v := ?_) rfl (by kernel_rfl) (by kernel_rfl) (by kernel_rfl) rfl (fun _ _ _ h => h) (Or.inl ⟨by rfl, ?_⟩) hSn ?_
          rotate_left 1
          · intro W hSw
            go_simp
            try with_reducible rfl
          replace hSn := (KT.set (i := 5) (by decide)).2 hSn
          try simp only [Act.put, List.setIfInBounds_toArray, List.set_cons_zero, List.set_cons_succ]
          refine wpAnyK_pure (i := 6) (oi := ⟨_, _, _, _, _, _⟩) (v := ?_) rfl (by kernel_rfl) (by kernel_rfl) (by kernel_rfl) rfl (fun _ _ _ h => h) (Or.inl ⟨by rfl, ?_⟩) hSn ?_
          rotate_left 1
          · intro W hSw
            go_simp
            try with_reducible rfl
          replace hSn := (KT.set (i := 6) (by decide)).2 hSn
          try simp only [Act.put, List.setIfInBounds_toArray, List.set_cons_zero, List.set_cons_succ]
          clear hSn
          refine wpAnyK_ready (rs := [7]) (by kernel_rfl) (by simp) ?_
          refine AllReadyK.cons rfl (fun K hK => ?_) AllReadyK.nil
          refine step_append_seesD (o := ⟨some 33, _, _, _, _, _⟩) rfl (.const (.slice none 0 0)) (.tmp 32) 23 rfl w2.heap.size 5 j0 _ Tryd.underlying23 HJ0.out hy0 hy1 hy2 rfl (.slice none 0 0) 0 [] rfl (World.ownsRow_nil _ _ _ _) w2.heap.size A b.length c b rfl rfl S2.out (by omega) (Nat.le_refl _) ?_
          intro v4 w4 h1 h2 h3
          simp only [Nat.zero_add, List.nil_append] at h1
          obtain ⟨A4, c4, rfl⟩ := own_form h1
          have O4 := Lib.hid h1
          have K4 : Hid (Keeps (fun _ => False) w2 w4) := Keeps.grown (Keeps.refl _ w2).drew h2 (fun k e => by cases e)
          clear h1 h2 h3
          have H4 : Hid (RfOk w4 g m) := H2.out.later K4.out (fun _ _ h => h) (fun _ _ _ _ h => h)
          have c16a : w4.cell? ⟨g, 16, none⟩ = some (.slice m.A m.W.length m.c) := H4.out.cW
          refine hK.out _ _ (fun _ => c16a) (fun hSn => ?_)
          clear hK K
          try simp only [Act.put, List.setIfInBounds_toArray, List.set_cons_zero, List.set_cons_succ]
          refine wpAnyK_pure (i := 8) (oi := ⟨_, _, _, _, _, _⟩) (v := ?_) rfl (by kernel_rfl) (by kernel_rfl) (by kernel_rfl) rfl (fun _ _ _ h => h) (Or.inl ⟨by rfl, ?_⟩) hSn ?_
          rotate_left 1
          · intro W hSw
            go_simp
            try with_reducible rfl
          replace hSn := (KT.set (i := 8) (by decide)).2 hSn
          try simp only [Act.put, List.setIfInBounds_toArray, List.set_cons_zero, List.set_cons_succ]
          clear hSn
          refine wpAnyK_ready (rs := [9]) (by kernel_rfl) (by simp) ?_
          refine AllReadyK.cons rfl (fun K hK => ?_) AllReadyK.nil
          refine step_build_oneD (o := ⟨some 35, _, _, _, _, _⟩) rfl 84 128 (.tmp 34) rfl (putC ⟨i, 0, false, A4, c4, b⟩) _ 4 48 Tryd.underlying84 Tryd.putinfo (by decide) (by decide) rfl rfl ?_
          have V5 : Hid (Below w4.heap.size w4 (w4.alloc (.cells (putC ⟨i, 0, false, A4, c4, b⟩).toArray 128))) := nxAlloc (nxRefl w4) _
          have H5 : Hid (RfOk (w4.alloc (.cells (putC ⟨i, 0, false, A4, c4, b⟩).toArray 128)) g m) := H4.out.below V5.out
          have B5 : Hid (Blk (w4.alloc (.cells (putC ⟨i, 0, false, A4, c4, b⟩).toArray 128)) w4.heap.size 128 (putC ⟨i, 0, false, A4, c4, b⟩).toArray) := heap_alloc_new w4 _
          have c16b := H5.out.cW
          refine hK.out _ _ (fun _ => c16b) (fun hSn => ?_)
          clear hK K
          try simp only [Act.put, List.setIfInBounds_toArray, List.set_cons_zero, List.set_cons_succ]
          obtain ⟨W5, hW5⟩ : ∃ W, w4.alloc (.cells (putC ⟨i, 0, false, A4, c4, b⟩).toArray 128) = W := ⟨_, rfl⟩
          rw [hW5] at V5 H5 B5 c16b hSn ⊢
          have SA : Hid (SeesV W5 W5.heap.size (some ⟨w4.heap.size, 0, none⟩) (putC ⟨i, 0, false, A4, c4, b⟩)) := SeesV.blkR B5.out
          clear hSn
          refine wpAnyK_ready (rs := [10]) (by kernel_rfl) (by simp) ?_
          refine AllReadyK.cons rfl (fun K hK => ?_) AllReadyK.nil
          refine step_append_seesV (o := ⟨some 36, _, _, _, _, _⟩) rfl (.tmp 30) (.tmp 35) 84 rfl 0 128 i0 _ 4 48 Tryd.underlying84 HI0.out hz0 hz1 hz2 rfl (by decide) (.slice m.A m.W.length m.c) m.W.length (putsC m.W) rfl H5.out.ww W5.heap.size (some ⟨w4.heap.size, 0, none⟩) 1 1 (putC ⟨i, 0, false, A4, c4, b⟩) rfl rfl SA.out (putC_one _) (by omega) (by omega) (Nat.zero_le _) ?_
          intro v6 w6 h1 h2 h3
          obtain ⟨A6, c6, rfl⟩ := own_form h1
          have O6 := Lib.hid h1
          have G6 := Lib.hid h2
          have N6 : Hid (A6.map (·.block) = m.A.map (·.block) ∨ A6.map (·.block) = some W5.heap.size) := (by rw [own_blkD, own_blkD] at h3; exact h3)
          have B6 := Lib.hid (RfOk.grown_blk H5.out h2)
          have c16c : w6.cell? ⟨g, 16, none⟩ = some (.slice m.A m.W.length m.c) := (B6.out.cell 16).trans (rfC_at16 H5.out.n)
          have f16c : w6.frozen? ⟨g, 16, none⟩ = false := B6.out.frozen _
          clear h1 h2 h3
          refine hK.out _ _ (fun _ => c16c) (fun hSn => ?_)
          clear hK K
          try simp only [Act.put, List.setIfInBounds_toArray, List.set_cons_zero, List.set_cons_succ]
          refine wpAnyK_pure (i := 11) (oi := ⟨_, _, _, _, _, _⟩) (v := ?_) rfl (by kernel_rfl) (by kernel_rfl) (by kernel_rfl) rfl (fun _ _ _ h => h) (Or.inl ⟨by rfl, ?_⟩) hSn ?_
          rotate_left 1
          · intro W hSw
            go_simp
            try with_reducible rfl
          replace hSn := (KT.set (i := 11) (by decide)).2 hSn
          try simp only [Act.put, List.setIfInBounds_toArray, List.set_cons_zero, List.set_cons_succ]
          refine wpAnyK_pure (i := 12) (oi := ⟨_, _, _, _, _, _⟩) (v := ?_) rfl (by kernel_rfl) (by kernel_rfl) (by kernel_rfl) rfl (fun _ _ _ h => h) (Or.inl ⟨by rfl, ?_⟩) hSn ?_
          rotate_left 1
          · intro W hSw
            go_simp
            try with_reducible rfl
          replace hSn := (KT.set (i := 12) (by decide)).2 hSn
          try simp only [Act.put, List.setIfInBounds_toArray, List.set_cons_zero, List.set_cons_succ]
          clear hSn
          refine wpAnyK_ready (rs := [13]) (by kernel_rfl) (by simp) ?_
          refine AllReadyK.cons rfl (fun K hK => ?_) AllReadyK.nil
          go_simp
          refine hK.out _ _ (fun h => absurd h (by decide +kernel)) (fun hSn => ?_)
          clear hK K
          try simp only [Act.put, List.setIfInBounds_toArray, List.set_cons_zero, List.set_cons_succ]
          refine wpAnyK_done (by kernel_rfl) ?_ _
          clear hSn c16a c16b c16c f16c
          have V25 : Hid (Below w.heap.size w W5) := nxTrD N2.out.v (nxTrD (K4.out.below (Nat.le_refl _) (fun _ _ h => h)) V5.out)
          have HP : Hid ((⟨i, 0, false, A4, c4, b⟩ : PutR).row.own W5) := by
            have h4 : RowM.own w4 ⟨A4, c4, b⟩ := own_lessR O4.out (Nat.zero_le _)
            exact RowM.keep h4 (Keeps.of_below V5.out (fun _ => False)) (fun _ _ h => h)
          have T4 : Hid (RfTo w g m (w6.setCell ⟨g, 16, none⟩ (.slice A6 (m.W.length + 1) c6)) { m with A := A6, c := c6, W := m.W ++ [⟨i, 0, false, A4, c4, b⟩] }) := RfTo.wait V25.out H5.out O6.out G6.out N6.out ⟨HI.out, (fun e => by cases e), HP.out⟩ (fun j hj => by
            have h5 := (O4.out.lt j (by rw [own_blkD]; exact hj)).1
            have h6 := N2.out.v.size
            omega)
          have HR4 : Hid (RelR (waitD D (.put i b)) { m with A := A6, c := c6, W := m.W ++ [⟨i, 0, false, A4, c4, b⟩] }) := RelR.wait HDD.out HWf.out HI.out rfl (by simp [PutR.d]) rfl rfl
          generalize w6.setCell ⟨g, 16, none⟩ (.slice A6 (m.W.length + 1) c6) = w7 at T4 ⊢
          generalize ({ m with A := A6, c := c6, W := m.W ++ [⟨i, 0, false, A4, c4, b⟩] } : RfM) = m4 at T4 HR4
          have HBn := Lib.hid (RelR.burn HR4.out HWf.out.f hDd)
          go_wp2_with (first
            | (go_at_call 73; refine (rburn_any w7 g m4 T4.out.ok (by rw [← HR4.out.f]; exact HWf.out.g)).mono ?_; rintro e w8 ⟨rfl, hm5⟩; have M5 := Lib.hid hm5; clear hm5))
          go_ret
          exact RPost.is _ (T4.out.trans M5.out) HBn.out.1
end Go.Proofs.YtlepajddekblcaaDoor
