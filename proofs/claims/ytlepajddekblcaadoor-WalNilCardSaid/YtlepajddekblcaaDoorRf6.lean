/-
  disk: the document's own disk: Cut.
-/
import Derived.Test.YtlepajddekblcaaDoorRf5
namespace Go.Proofs.YtlepajddekblcaaDoor
open Go.RowKit

theorem Tryd.putinfo : (Tryd.prog.info? 128).map (fun i => (i.zero, i.size, i.bytes)) = some (some (.agg #[.int .i64 0, .int .i64 0, .bool false, .slice none 0 0]), 4, 48) := by kernel_rfl
theorem Tryd.slinfo : (Tryd.prog.info? 23).map (fun i => (i.zero, i.size, i.bytes)) = some (some (.slice none 0 0), 1, 24) := by kernel_rfl
theorem index_rows (wq : World) (rows : List RowM) (n : rows.length = 16) (i : Nat) (hi : i < 16) : (Instr.index 79 (.agg (rowsC rows).toArray) (.int .i64 (i : Int))).run Tryd.prog wq = .ok (.slice (rows.getD i noRow).A (rows.getD i noRow).l.length (rows.getD i noRow).c) wq := by
  obtain ⟨i0, hi0, hz0, hz1, hz2⟩ := infoD Tryd.slinfo
  have h1 : (rowsC rows)[i]? = some (rows.getD i noRow).v := rowsC_at (by omega)
  have h2 : (0 : Int) ≤ (i : Int) ∧ (i : Int) < 16 := by omega
  obtain ⟨h3, h4⟩ := List.getElem?_eq_some_iff.1 h1
  simp [Instr.index, asIntOf, run_underlying Tryd.underlying79, part, isAgg, run_underlying Tryd.underlying23, sizeOf, typeInfo, hi0, hz1, h2, hi]
  rw [h1]
  simp [RowM.v, List.getD_eq_getElem?_getD]
theorem rfC_setW {m : RfM} (n : m.rows.length = 16) (A : Option Addr) (c : Nat) (p : PutR) : (rfC m).toArray.setIfInBounds 16 (.slice A (m.W.length + 1) c) = (rfC { m with A := A, c := c, W := m.W ++ [p] }).toArray := by
  have h : (rowsC m.rows).length = 16 := by rw [rowsC_len, n]
  have e : (m.W ++ [p]).length = m.W.length + 1 := by simp
  simp only [rfC, List.setIfInBounds_toArray, e]
  rw [List.set_append_right _ _ (by omega), h]; rfl
/-- One more step waits. -/
theorem RfTo.wait {w0 w w' : World} {g : Nat} {m : RfM} {p : PutR} {A : Option Addr} {c : Nat} (b0 : Below w0.heap.size w0 w) (h : RfOk w g m) (ho : w'.ownsRow 0 128 4 (.slice A (m.W.length + 1) c) (m.W.length + 1) (putsC m.W ++ putC p)) (hg : w.grownBy w' (Value.slice m.A m.W.length m.c).ownBlock)
    (hn : A.map (·.block) = m.A.map (·.block) ∨ A.map (·.block) = some w.heap.size) (hp : p.log < 16 ∧ (p.cut = true → 0 ≤ p.n) ∧ p.row.own w) (hpn : ∀ j, p.row.bk = some j → w0.heap.size ≤ j) :
    RfTo w0 g m (w'.setCell ⟨g, 16, none⟩ (.slice A (m.W.length + 1) c)) { m with A := A, c := c, W := m.W ++ [p] } := by
  have hgl := h.b.lt
  have K1 : Keeps (fun j => m.A.map (·.block) = some j) w w' := Keeps.grown (Keeps.refl _ w) hg (fun k e => by rw [own_blkD] at e; exact e)
  have hgA : m.A.map (·.block) ≠ some g := fun e => h.b.notOwn h.ww (by decide) (by rw [own_blkD]; exact e.symm)
  have hgA2 : A.map (·.block) ≠ some g := fun e => by
    rcases hn with h1 | h1
    · exact hgA (h1 ▸ e)
    · rw [h1] at e; injection e with e; omega
  have hb1 : Blk w' g 86 (rfC m).toArray := h.b.keeps K1 hgA
  have K2 : Keeps (footR g m) w (w'.setCell ⟨g, 16, none⟩ (.slice A (m.W.length + 1) c)) := Keeps.setCell (S := footR g m) (p := ⟨g, 16, none⟩) (K1.mono (fun j _ e => .inr e)) (.inl rfl) _
  have K3 : Keeps (fun j => j = g) w' (w'.setCell ⟨g, 16, none⟩ (.slice A (m.W.length + 1) c)) := Keeps.setCell (S := fun j => j = g) (p := ⟨g, 16, none⟩) (Keeps.refl _ _) rfl _
  have hsz := b0.size
  refine ⟨⟨by have hs := hb1.set 16 (.slice A (m.W.length + 1) c); rw [rfC_setW h.n A c p] at hs; exact hs, h.n, fun r hr => RowM.keep (h.o r hr) K2 (fun j e => h.off (h.o r hr) e), ?_, fun q hq => ?_⟩, fun j hj => ?_, fun j hj => ?_, (Keeps.of_below b0 _).trans K2⟩
  · have e1 : (m.W ++ [p]).length = m.W.length + 1 := by simp
    have e2 : putsC (m.W ++ [p]) = putsC m.W ++ putC p := by simp [putsC]
    show World.ownsRow _ _ _ _ (.slice A (m.W ++ [p]).length c) (m.W ++ [p]).length (putsC (m.W ++ [p]))
    rw [e1, e2]
    exact own_keep ho K3 (fun j e he => hgA2 (by rw [own_blkD] at e; rw [e, he]))
  · rcases List.mem_append.1 hq with h1 | h1
    · exact ⟨(h.p q h1).1, (h.p q h1).2.1, RowM.keep (h.p q h1).2.2 K2 (fun j e => h.off (h.p q h1).2.2 e)⟩
    · rw [List.mem_singleton.1 h1]
      exact ⟨hp.1, hp.2.1, RowM.keep hp.2.2 K2 (fun j e => h.off hp.2.2 e)⟩
  · rcases hj with h1 | h1
    · exact .inl (.inl h1)
    · rcases hn with h2 | h2
      · exact .inl (.inr (h2 ▸ h1))
      · have h1 : A.map (·.block) = some j := h1
        rw [h2] at h1; injection h1 with h1; exact .inr (by omega)
  · rcases hj with (h1 | h1) | ⟨r, hr | ⟨q, hq, hqr⟩, hb⟩
    · exact .inl (.inl (.inl h1))
    · rcases hn with h2 | h2
      · exact .inl (.inl (.inr (h2 ▸ h1)))
      · have h1 : A.map (·.block) = some j := h1
        rw [h2] at h1; injection h1 with h1; exact .inr (by omega)
    · exact .inl (.inr ⟨r, .inl hr, hb⟩)
    · rcases List.mem_append.1 hq with h1 | h1
      · exact .inl (.inr ⟨r, .inr ⟨q, h1, hqr⟩, hb⟩)
      · rw [List.mem_singleton.1 h1] at hqr
        rw [← hqr] at hb
        exact .inr (hpn j hb)
theorem putC_one (p : PutR) : ∀ u ∈ putC p, u.oneCell' = true := by
  intro u hu
  simp only [putC, List.mem_cons, List.not_mem_nil, or_false] at hu
  rcases hu with rfl | rfl | rfl | rfl <;> rfl
theorem SeesV.blkR {w : World} {g : Nat} {t : TypeId} {cs : List Value} (h : Blk w g t cs.toArray) : SeesV w w.heap.size (some ⟨g, 0, none⟩) cs := by
  refine .inr ⟨g, 0, rfl, h.lt, fun i hi => ?_⟩
  rw [Nat.zero_add, h.cell]
  simp [hi]
theorem RfOk.grown_blk {w w' : World} {g : Nat} {m : RfM} (h : RfOk w g m) (hg : w.grownBy w' (Value.slice m.A m.W.length m.c).ownBlock) : Blk w' g 86 (rfC m).toArray := by
  have K1 : Keeps (fun j => m.A.map (·.block) = some j) w w' := Keeps.grown (Keeps.refl _ w) hg (fun k e => by rw [own_blkD] at e; exact e)
  exact h.b.keeps K1 (fun e => h.b.notOwn h.ww (by decide) (by rw [own_blkD]; exact e.symm))
theorem RelR.wait {D : DkD} {m m' : RfM} {s : StD} (h : RelR D m) (wf : DkWf D) (hs : (match s with | .put i _ => i | .cut i _ => i) < 16) (hr : m'.rows = m.rows) (hw : m'.W.map PutR.d = m.W.map PutR.d ++ [s]) (hf : m'.fuse = m.fuse) (hd : m'.dead = m.dead) : RelR (waitD D s) m' := by
  refine ⟨fun i hi => ?_, ?_, h.f.trans hf.symm, h.d.trans hd.symm⟩
  · show rowD (doS 16 D.X s) i = rowD (m'.rows.map (·.l)) i
    rw [doS_low wf.n hs hi, hr]
    exact h.x i hi
  · show D.W ++ [s] = _
    rw [hw, h.w]

set_option maxHeartbeats 2000000 in
theorem rcut_any (w : World) (g : Nat) (m : RfM) (D : DkD) (h : RfOk w g m) (hD : RelR D m) (wf : DkWf D) (hW : m.W.length ≤ 1000) (log n : Int) : Calls Tryd.prog 42 #[ptrD g, .int .i64 log, .int .i64 n] w (RPost w g m (cutD D log n).1) := by
  have H := Lib.hid h
  have HDD := Lib.hid hD
  have HWf := Lib.hid wf
  have HWl := Lib.hid hW
  have c18 := h.cD
  have HNo : Hid ((mayD log && (decide (0 ≤ n) && decide (n ≤ ((rowD D.X (16 + log.toNat)).length : Int)))) = false → (cutD D log n).1 = D) := fun e => by unfold cutD; rw [e]; rfl
  clear h hD wf hW
  unfold ptrD
  by_cases h0 : log < 0
  · have HC : Hid ((cutD D log n).1 = D) := HNo.out (by unfold mayD; rw [decide_eq_false (by omega : ¬ (0 ≤ log))]; rfl)
    have hd0 : decide (log < 0) = true := decide_eq_true h0
    rw [HC.out]
    go_enter Tryd.func42, Tryd.ntmps42
    go_wp2
    go_ret
    exact RPost.is m (RfTo.refl H.out) HDD.out
  · by_cases h1 : 16 ≤ log
    · have HC : Hid ((cutD D log n).1 = D) := HNo.out (by unfold mayD; rw [decide_eq_false (by omega : ¬ (log < 16)), Bool.and_false]; rfl)
      have hd0 : decide (log < 0) = false := decide_eq_false h0
      have hd1 : decide (16 ≤ log) = true := decide_eq_true h1
      rw [HC.out]
      go_enter Tryd.func42, Tryd.ntmps42
      go_wp2
      go_ret
      exact RPost.is m (RfTo.refl H.out) HDD.out
    · obtain ⟨i, rfl⟩ : ∃ i : Nat, log = (i : Int) := ⟨log.toNat, by omega⟩
      have hi : i < 16 := by omega
      have HI := Lib.hid hi
      have hd0 : decide ((i : Int) < 0) = false := decide_eq_false h0
      have hd1 : decide ((16 : Int) ≤ (i : Int)) = false := decide_eq_false h1
      have hm : mayD (i : Int) = true := by unfold mayD; rw [decide_eq_true (by omega), decide_eq_true (by omega)]; rfl
      by_cases h2 : n < 0
      · have HC : Hid ((cutD D (i : Int) n).1 = D) := HNo.out (by rw [decide_eq_false (by omega : ¬ (0 ≤ n)), Bool.false_and, Bool.and_false])
        have hd2 : decide (n < 0) = true := decide_eq_true h2
        rw [HC.out]
        go_enter Tryd.func42, Tryd.ntmps42
        go_wp2
        go_ret
        exact RPost.is m (RfTo.refl H.out) HDD.out
      · obtain ⟨k, rfl⟩ : ∃ k : Nat, n = (k : Int) := ⟨n.toNat, by omega⟩
        have hd2 : decide ((k : Int) < 0) = false := decide_eq_false h2
        obtain ⟨b, hb⟩ : ∃ b, rowD D.X (16 + i) = b := ⟨_, rfl⟩
        have HBe := Lib.hid hb
        have hti : (i : Int).toNat = i := Int.toNat_natCast i
        rw [hti, hm, hb] at HNo
        by_cases h3 : b.length < k
        · have HC : Hid ((cutD D (i : Int) (k : Int)).1 = D) := HNo.out (by rw [decide_eq_false (by omega : ¬ ((k : Int) ≤ (b.length : Int))), Bool.and_false]; rfl)
          have h3' : (b.length : Int) < (k : Int) := by omega
          have hd3 : decide ((b.length : Int) < (k : Int)) = true := decide_eq_true h3'
          rw [HC.out]
          clear HNo
          go_enter Tryd.func42, Tryd.ntmps42
          go_wp2_with (first
            | (go_at_call 71; refine (RelR.now HDD.out HWf.out H.out HWl.out).mono ?_; rintro e w2 ⟨rows, rfl, hnw⟩; have N2 := Lib.hid hnw; (have hix := fun wq => index_rows wq rows hnw.n i HI.out); (rw [hnw.at_ HDD.out HWf.out H.out.n HI.out, HBe.out] at hix); clear hnw))
          go_ret
          exact RPost.is m (RfTo.below H.out N2.out.v) HDD.out
        · have h3' : ¬ (b.length : Int) < (k : Int) := by omega
          have hd3 : decide ((b.length : Int) < (k : Int)) = false := decide_eq_false h3'
          have HY : Hid ((cutD D (i : Int) (k : Int)).1 = bif D.dead then D else (burnD (waitD D (.cut i k))).1) := by
            show _ = _
            unfold cutD
            rw [hti, hb, hm, decide_eq_true (by omega : (0 : Int) ≤ (k : Int)), decide_eq_true (by omega : (k : Int) ≤ (b.length : Int)), Int.toNat_natCast]
            cases D.dead <;> rfl
          clear HNo
          by_cases hd : m.dead = true
          · rw [hd] at c18
            have hDd : D.dead = true := HDD.out.d.trans hd
            rw [hDd] at HY
            have HC : Hid ((cutD D (i : Int) (k : Int)).1 = D) := HY.out
            rw [HC.out]
            have C18 := Lib.hid c18
            clear c18
            go_enter Tryd.func42, Tryd.ntmps42
            go_wp2_with (first
              | (go_at_call 71; refine (RelR.now HDD.out HWf.out H.out HWl.out).mono ?_; rintro e w2 ⟨rows, rfl, hnw⟩; have N2 := Lib.hid hnw; (have hix := fun wq => index_rows wq rows hnw.n i HI.out); (rw [hnw.at_ HDD.out HWf.out H.out.n HI.out, HBe.out] at hix); (have c18b := (H.out.below hnw.v).cD); (rw [hd] at c18b); clear hnw))
            go_ret
            exact RPost.is m (RfTo.below H.out N2.out.v) HDD.out
          · have hd' : m.dead = false := by simpa using hd
            have hDd : D.dead = false := HDD.out.d.trans hd'
            rw [hDd] at HY
            have HC : Hid ((cutD D (i : Int) (k : Int)).1 = (burnD (waitD D (.cut i k))).1) := HY.out
            rw [HC.out]
            obtain ⟨i0, hi0, hz0, hz1, hz2⟩ := infoD Tryd.putinfo
            have HI0 := Lib.hid hi0
            clear c18 hi0
            go_enter Tryd.func42, Tryd.ntmps42
            go_upto_region 5 with (first
              | (go_at_call 71; refine (RelR.now HDD.out HWf.out H.out HWl.out).mono ?_; rintro e w2 ⟨rows, rfl, hnw⟩; have N2 := Lib.hid hnw; (have hix := fun wq => index_rows wq rows hnw.n i HI.out); (rw [hnw.at_ HDD.out HWf.out H.out.n HI.out, HBe.out] at hix); (have c18b := (H.out.below hnw.v).cD); (rw [hd'] at c18b); clear hnw))
            have H2 : Hid (RfOk w2 g m) := H.out.below N2.out.v
            have c16 : w2.cell? ⟨g, 16, none⟩ = some (.slice m.A m.W.length m.c) := H2.out.cW
            obtain ⟨W2, hW2⟩ : ∃ W, w2.alloc (.cells #[.int .i64 (i : Int), .int .i64 (k : Int), .bool true, .slice none 0 0] 128) = W := ⟨_, rfl⟩
            have VA : Hid (Below w2.heap.size w2 W2) := (by rw [← hW2]; exact nxAlloc (nxRefl w2) _)
            have BA : Hid (Blk W2 w2.heap.size 128 (putC ⟨i, (k : Int), true, none, 0, []⟩).toArray) := (by rw [← hW2]; exact heap_alloc_new w2 _)
            have SA : Hid (SeesV W2 W2.heap.size (some ⟨w2.heap.size, 0, none⟩) (putC ⟨i, (k : Int), true, none, 0, []⟩)) := SeesV.blkR BA.out
            have H3 : Hid (RfOk W2 g m) := H2.out.below VA.out
            have hwl : m.W.length ≤ 1000 := HWl.out
            go_upto_region 6 with (first
              | (at_builtin; refine wpList_append_seesV rfl (.tmp 34) (.tmp 38) 84 rfl 0 128 i0 _ 4 48 Tryd.underlying84 HI0.out hz0 hz1 hz2 rfl (by decide) (.slice m.A m.W.length m.c) m.W.length (putsC m.W) rfl H3.out.ww _ (some ⟨w2.heap.size, 0, none⟩) 1 1 (putC ⟨i, (k : Int), true, none, 0, []⟩) rfl rfl SA.out (putC_one _) (by omega) (by omega) (Nat.zero_le _) ?_; intro v3 w3 h1 h2 h3; obtain ⟨A3, c3, rfl⟩ := own_form h1; have O3 := Lib.hid h1; have G3 := Lib.hid h2; have N3 : Hid (A3.map (·.block) = m.A.map (·.block) ∨ A3.map (·.block) = some W2.heap.size) := (by rw [own_blkD, own_blkD] at h3; exact h3); (have B3 := RfOk.grown_blk H3.out h2); (have c16b : w3.cell? ⟨g, 16, none⟩ = some (.slice m.A m.W.length m.c) := (B3.cell 16).trans (rfC_at16 H3.out.n)); (have f16b : w3.frozen? ⟨g, 16, none⟩ = false := B3.frozen _); clear h1 h2 h3 B3))
            have T4 : Hid (RfTo w g m (w3.setCell ⟨g, 16, none⟩ (.slice A3 (m.W.length + 1) c3)) { m with A := A3, c := c3, W := m.W ++ [⟨i, (k : Int), true, none, 0, []⟩] }) := RfTo.wait (nxTrD N2.out.v VA.out) H3.out O3.out G3.out N3.out ⟨HI.out, fun _ => Int.natCast_nonneg _, noRow_own _⟩ (fun j hj => by cases hj)
            have HR4 : Hid (RelR (waitD D (.cut i k)) { m with A := A3, c := c3, W := m.W ++ [⟨i, (k : Int), true, none, 0, []⟩] }) := RelR.wait HDD.out HWf.out HI.out rfl (by simp [PutR.d]) rfl rfl
            generalize w3.setCell ⟨g, 16, none⟩ (.slice A3 (m.W.length + 1) c3) = w4 at T4 ⊢
            generalize ({ m with A := A3, c := c3, W := m.W ++ [⟨i, (k : Int), true, none, 0, []⟩] } : RfM) = m4 at T4 HR4
            have HBn := Lib.hid (RelR.burn HR4.out HWf.out.f hDd)
            go_wp2_with (first
              | (go_at_call 73; refine (rburn_any w4 g m4 T4.out.ok (by rw [← HR4.out.f]; exact HWf.out.g)).mono ?_; rintro e w5 ⟨rfl, hm5⟩; have M5 := Lib.hid hm5; clear hm5))
            go_ret
            exact RPost.is _ (T4.out.trans M5.out) HBn.out.1
end Go.Proofs.YtlepajddekblcaaDoor
