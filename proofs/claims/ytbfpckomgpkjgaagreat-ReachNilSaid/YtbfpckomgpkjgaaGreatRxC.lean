/-
  reach: New.
-/
import Derived.Test.YtbfpckomgpkjgaaGreatPRnQ20
namespace Go.Proofs.YtbfpckomgpkjgaaGreat
open Go.RowKit Go.Maps

set_option maxRecDepth 100000 in
set_option maxHeartbeats 20000000 in
theorem rx_new (w : World) (r : Hh) : Calls Tryz.prog 30 #[.agg (hC r).toArray] w fun e w' => ∃ m, e = .returned (.pointer (some ⟨m.q, 0, none⟩)) ∧ RxOk w' w.heap.size m ∧ RxI m (newG r) ∧ Below w.heap.size w w' := by
  have hmm : ∀ wq : World, (Instr.makeMap 60 none).run Tryz.prog wq = .ok (.map (some wq.heap.size)) (wq.alloc (.map #[] 0)) := fun wq => by
    unfold Instr.makeMap
    simp [run_underlying Tryz.underlying60]
  have hmn : ∀ wq : World, (Instr.makeMap 61 none).run Tryz.prog wq = .ok (.map (some wq.heap.size)) (wq.alloc (.map #[] 0)) := fun wq => by
    unfold Instr.makeMap
    simp [run_underlying Tryz.underlying61]
  have hbd : ∀ (a b : Option Addr) (c d e : Nat) (wq : World), (Instr.build 63 #[(0, .pointer a), (1, .pointer b), (2, .slice (some ⟨c, 0, none⟩) 1 1), (3, .map (some d)), (4, .map (some e))]).run Tryz.prog wq = .ok (.agg #[.pointer a, .pointer b, .slice (some ⟨c, 0, none⟩) 1 1, .map (some d), .map (some e)]) wq := fun a b c d e wq => by kernel_rfl
  have V0 : Hid (Below w.heap.size w (w.alloc (.cells (hC r).toArray 23))) := nxAlloc (nxRefl w) _
  have B0 : Blk (w.alloc (.cells (hC r).toArray 23)) w.heap.size 23 (hC r).toArray := heap_alloc_new w _
  have RP : Hid ((w.alloc (.cells (hC r).toArray 23)).rangeAt w.heap.size 0 (hC r)) := rxRng B0
  have HPl : Hid (w.heap.size < (w.alloc (.cells (hC r).toArray 23)).heap.size) := B0.lt
  clear B0
  go_enter Tryz.func30, Tryz.ntmps30
  go_wp2
  generalize w.alloc (.cells (hC r).toArray 23) = W0 at *
  obtain ⟨p0, hp0⟩ : ∃ x, w.heap.size = x := ⟨_, rfl⟩
  rw [hp0] at RP HPl ⊢
  have HRp : Hid (∀ W, Below W0.heap.size W0 W → W.rangeAt p0 0 (hC r)) := fun W hW => rngK RP.out hW HPl.out
  refine wp_region_inv (fun L a W => ∃ (b0 b1 b2 b3 b4 b5 b6 b7 b8 b9 b10 b11 b12 : Bool) (mg : GrM) (mt : TrM) (pb : Nat) (nb : Nat) (cb : Nat) (pq : Nat), L = #[b0, b1, b2, b3, b4, b5, b6, b7, b8, b9, b10, b11, b12] ∧ a = ⟨#[.agg (hC r).toArray, .pointer (some ⟨p0, 0, none⟩), cond b12 (.pointer (some ⟨pq, 0, none⟩)) (.pointer none), cond b0 (.agg (hC r).toArray) (undef), cond b1 (.pointer (some ⟨mg.q, 0, none⟩)) (undef), cond b2 (.pointer (some ⟨mt.q, 0, none⟩)) (undef), cond b3 (.agg (hC r).toArray) (undef), cond b4 (.slice (some ⟨pb, 0, none⟩) 1 1) (undef), cond b5 (.map (some nb)) (undef), cond b6 (.agg (hC r).toArray) (undef), cond b8 (.map (some nb)) (undef), cond b9 (.map (some cb)) (undef), cond b10 (.agg #[.pointer (some ⟨mg.q, 0, none⟩), .pointer (some ⟨mt.q, 0, none⟩), .slice (some ⟨pb, 0, none⟩) 1 1, .map (some nb), .map (some cb)]) (undef), cond b11 (.pointer (some ⟨pq, 0, none⟩)) (undef)], []⟩ ∧ (b11 = true → (b1 && b2 && b4 && b5 && b7 && b9) = true) ∧ (b10 = true → (b1 && b2 && b4 && b5 && b7 && b9) = true) ∧ (b8 = true → (b5 && b7) = true) ∧ (b7 = true → b5 = true) ∧ (b11 = false → NwI W0 r (cond b1 (some mg) none) (cond b2 (some mt) none) (cond b4 (some pb) none) (cond b5 (some (nb, b7)) none) (cond b9 (some cb) none) W) ∧ (b11 = true → RxOk W W0.heap.size (newX pq mg mt r pb nb cb) ∧ RxI (newX pq mg mt r pb nb cb) (newG r) ∧ Below W0.heap.size W0 W) ∧ (b12 = true → b11 = true)) (by kernel_rfl) (by kernel_rfl) ?_ ?_ ?_
  · exact ⟨false, false, false, false, false, false, false, false, false, false, false, false, false, zeroM 0 0, ⟨0, none, 0, [], 0⟩, 0, 0, 0, 0, rfl, rfl, ⟨fun e => (by cases e), fun e => (by cases e), fun e => (by cases e), fun e => (by cases e), fun _ => (NwI.start W0 r).later (rxDr (nxRefl _)), fun e => (by cases e), fun e => (by cases e)⟩⟩
  · rintro L a W i ⟨b0, b1, b2, b3, b4, b5, b6, b7, b8, b9, b10, b11, b12, mg, mt, pb, nb, cb, pq, rfl, rfl, hI⟩ hi
    have HI := Lib.hid hI
    clear hI
    obtain ⟨h0, o, ho, hd⟩ := mem_ready.1 hi
    have hlt : i < 13 := (Array.getElem?_eq_some_iff.1 ho).1
    clear hi
    have hcs : i = 0 ∨ i = 1 ∨ i = 2 ∨ i = 3 ∨ i = 4 ∨ i = 5 ∨ i = 6 ∨ i = 7 ∨ i = 8 ∨ i = 9 ∨ i = 10 ∨ i = 11 ∨ i = 12 := by omega
    clear hlt
    rcases hcs with rfl | hcs
    · obtain rfl : b0 = false := h0
      cases ho
      try clear h0
      clear hd
      refine wpOp_step rfl (fun K hK => ?_)
      have HK := Lib.hid hK
      clear hK
      refine step_loadmid rfl 23 (.tmp 1) rfl p0 0 rfl (hC r) _ (HRp.out W ?_) Tryz.underlying23 rfl (hszL r) ?_
      · cases b11 with
        | true => exact (HI.out.2.2.2.2.2.1 rfl).2.2
        | false => exact (HI.out.2.2.2.2.1 rfl).v
      exact HK.out _ _ ⟨true, b1, b2, b3, b4, b5, b6, b7, b8, b9, b10, b11, b12, mg, mt, pb, nb, cb, pq, rfl, rfl, HI.out⟩
    rcases hcs with rfl | hcs
    · obtain rfl : b1 = false := h0
      cases ho
      obtain rfl : b0 = true := hd ⟨0, Ground.data⟩ (by simp) rfl
      try clear h0
      clear hd
      refine wpOp_step rfl (fun K hK => ?_)
      have HK := Lib.hid hK
      clear hK
      try dsimp only [cond_true] at HI ⊢
      go_simp
      have hb11 : b11 = false := Bool.eq_false_iff.2 fun e => by have h9 := HI.out.1 e; simp at h9
      have hb10 : b10 = false := Bool.eq_false_iff.2 fun e => by have h9 := HI.out.2.1 e; simp at h9
      have I := Lib.hid (HI.out.2.2.2.2.1 hb11)
      subst hb10
      subst hb11
      go_at_call 64
      refine (new_any _ r).mono ?_
      rintro e1 wA ⟨mg2, rfl, hg1, hg2, hg3⟩
      have I2 := Lib.hid (I.out.addG hg1 hg2 hg3)
      exact HK.out _ _ ⟨true, true, b2, b3, b4, b5, b6, b7, b8, b9, false, false, b12, mg2, mt, pb, nb, cb, pq, rfl, rfl, ⟨fun e => (by cases e), fun e => (by cases e), HI.out.2.2.1, HI.out.2.2.2.1, fun _ => I2.out, fun e => (by cases e), HI.out.2.2.2.2.2.2⟩⟩
    rcases hcs with rfl | hcs
    · obtain rfl : b2 = false := h0
      cases ho
      obtain rfl : b1 = true := hd ⟨1, Ground.chain⟩ (by simp) rfl
      try clear h0
      clear hd
      refine wpOp_step rfl (fun K hK => ?_)
      have HK := Lib.hid hK
      clear hK
      try dsimp only [cond_true] at HI ⊢
      go_simp
      have hb11 : b11 = false := Bool.eq_false_iff.2 fun e => by have h9 := HI.out.1 e; simp at h9
      have hb10 : b10 = false := Bool.eq_false_iff.2 fun e => by have h9 := HI.out.2.1 e; simp at h9
      have I := Lib.hid (HI.out.2.2.2.2.1 hb11)
      subst hb10
      subst hb11
      go_at_call 65
      refine (te_new _).mono ?_
      rintro e2 wB ⟨mt2, rfl, ht1, ht2, ht3, ht4, ht5⟩
      have I2 := Lib.hid (I.out.addT ht1 ⟨ht2, ht3, ht4⟩ ht5)
      exact HK.out _ _ ⟨b0, true, true, b3, b4, b5, b6, b7, b8, b9, false, false, b12, mg, mt2, pb, nb, cb, pq, rfl, rfl, ⟨fun e => (by cases e), fun e => (by cases e), HI.out.2.2.1, HI.out.2.2.2.1, fun _ => I2.out, fun e => (by cases e), HI.out.2.2.2.2.2.2⟩⟩
    rcases hcs with rfl | hcs
    · obtain rfl : b3 = false := h0
      cases ho
      try clear h0
      clear hd
      refine wpOp_step rfl (fun K hK => ?_)
      have HK := Lib.hid hK
      clear hK
      refine step_loadmid rfl 23 (.tmp 1) rfl p0 0 rfl (hC r) _ (HRp.out W ?_) Tryz.underlying23 rfl (hszL r) ?_
      · cases b11 with
        | true => exact (HI.out.2.2.2.2.2.1 rfl).2.2
        | false => exact (HI.out.2.2.2.2.1 rfl).v
      exact HK.out _ _ ⟨b0, b1, b2, true, b4, b5, b6, b7, b8, b9, b10, b11, b12, mg, mt, pb, nb, cb, pq, rfl, rfl, HI.out⟩
    rcases hcs with rfl | hcs
    · obtain rfl : b4 = false := h0
      cases ho
      obtain rfl : b3 = true := hd ⟨3, Ground.data⟩ (by simp) rfl
      try clear h0
      clear hd
      refine wpOp_step rfl (fun K hK => ?_)
      have HK := Lib.hid hK
      clear hK
      skip
      have hb11 : b11 = false := Bool.eq_false_iff.2 fun e => by have h9 := HI.out.1 e; simp at h9
      have hb10 : b10 = false := Bool.eq_false_iff.2 fun e => by have h9 := HI.out.2.1 e; simp at h9
      have I := Lib.hid (HI.out.2.2.2.2.1 hb11)
      subst hb10
      subst hb11
      refine step_build1 rfl 33 23 (.tmp 6) rfl (hC r) _ 32 32 Tryz.underlying33 Tryz.dinfoH (by decide) (by decide) (hC_len r) rfl ?_
      have I2 := Lib.hid (I.out.addB (heap_alloc_new W _) (nxAlloc (nxRefl _) _))
      exact HK.out _ _ ⟨b0, b1, b2, true, true, b5, b6, b7, b8, b9, false, false, b12, mg, mt, W.heap.size, nb, cb, pq, rfl, rfl, ⟨fun e => (by cases e), fun e => (by cases e), HI.out.2.2.1, HI.out.2.2.2.1, fun _ => I2.out, fun e => (by cases e), HI.out.2.2.2.2.2.2⟩⟩
    rcases hcs with rfl | hcs
    · obtain rfl : b5 = false := h0
      cases ho
      try clear h0
      clear hd
      refine wpOp_step rfl (fun K hK => ?_)
      have HK := Lib.hid hK
      clear hK
      try dsimp only [cond_true] at HI ⊢
      go_simp
      have hb7 : b7 = false := Bool.eq_false_iff.2 fun e => by have h9 := HI.out.2.2.2.1 e; simp at h9
      subst hb7
      have hb11 : b11 = false := Bool.eq_false_iff.2 fun e => by have h9 := HI.out.1 e; simp at h9
      have hb10 : b10 = false := Bool.eq_false_iff.2 fun e => by have h9 := HI.out.2.1 e; simp at h9
      have I := Lib.hid (HI.out.2.2.2.2.1 hb11)
      subst hb10
      subst hb11
      have hb8 : b8 = false := Bool.eq_false_iff.2 fun e => by have h9 := HI.out.2.2.1 e; simp at h9
      subst hb8
      have I2 := Lib.hid (I.out.addN (World.ownsMap_made W _ _ _) (nxAlloc (nxRefl _) _))
      exact HK.out _ _ ⟨b0, b1, b2, b3, b4, true, b6, false, false, b9, false, false, b12, mg, mt, pb, W.heap.size, cb, pq, rfl, rfl, ⟨fun e => (by cases e), fun e => (by cases e), fun e => (by cases e), fun _ => rfl, fun _ => I2.out, fun e => (by cases e), HI.out.2.2.2.2.2.2⟩⟩
    rcases hcs with rfl | hcs
    · obtain rfl : b6 = false := h0
      cases ho
      try clear h0
      clear hd
      refine wpOp_step rfl (fun K hK => ?_)
      have HK := Lib.hid hK
      clear hK
      refine step_loadmid rfl 23 (.tmp 1) rfl p0 0 rfl (hC r) _ (HRp.out W ?_) Tryz.underlying23 rfl (hszL r) ?_
      · cases b11 with
        | true => exact (HI.out.2.2.2.2.2.1 rfl).2.2
        | false => exact (HI.out.2.2.2.2.1 rfl).v
      exact HK.out _ _ ⟨b0, b1, b2, b3, b4, b5, true, b7, b8, b9, b10, b11, b12, mg, mt, pb, nb, cb, pq, rfl, rfl, HI.out⟩
    rcases hcs with rfl | hcs
    · obtain rfl : b7 = false := h0
      cases ho
      obtain rfl : b5 = true := hd ⟨5, Ground.data⟩ (by simp) rfl
      obtain rfl : b6 = true := hd ⟨6, Ground.data⟩ (by simp) rfl
      try clear h0
      clear hd
      refine wpOp_step rfl (fun K hK => ?_)
      have HK := Lib.hid hK
      clear hK
      skip
      have hb11 : b11 = false := Bool.eq_false_iff.2 fun e => by have h9 := HI.out.1 e; simp at h9
      have hb10 : b10 = false := Bool.eq_false_iff.2 fun e => by have h9 := HI.out.2.1 e; simp at h9
      have I := Lib.hid (HI.out.2.2.2.2.1 hb11)
      subst hb10
      subst hb11
      have hb8 : b8 = false := Bool.eq_false_iff.2 fun e => by have h9 := HI.out.2.2.1 e; simp at h9
      subst hb8
      refine step_insert _ rfl (.tmp 8) (.tmp 9) (.const (.int .i64 0)) 60 rfl 23 3 hLaw Tryz.underlying60 (plainElem Tryz.prog 3) nb 0 (mapD []) rfl (show World.ownsMap _ _ _ _ _ 0 (mapD []) from (I.out.n nb false rfl).1) (by unfold maxLen; omega) (.agg (hC r).toArray) (.int .i64 0) (hKey r) rfl rfl (keyOf_h r) _ [] (plainElem_int Tryz.underlying3 (by decide)) ?_
      intro wE hm9 hg9
      have I2 := Lib.hid (I.out.put hm9 hg9)
      exact HK.out _ _ ⟨b0, b1, b2, b3, b4, true, true, true, false, b9, false, false, b12, mg, mt, pb, nb, cb, pq, rfl, rfl, ⟨fun e => (by cases e), fun e => (by cases e), fun e => (by cases e), fun _ => rfl, fun _ => I2.out, fun e => (by cases e), HI.out.2.2.2.2.2.2⟩⟩
    rcases hcs with rfl | hcs
    · obtain rfl : b8 = false := h0
      cases ho
      obtain rfl : b5 = true := hd ⟨5, Ground.data⟩ (by simp) rfl
      obtain rfl : b6 = true := hd ⟨6, Ground.data⟩ (by simp) rfl
      obtain rfl : b7 = true := hd ⟨7, Ground.data⟩ (by simp) rfl
      try clear h0
      clear hd
      refine wpOp_step rfl (fun K hK => ?_)
      have HK := Lib.hid hK
      clear hK
      try dsimp only [cond_true] at HI ⊢
      go_simp
      exact HK.out _ _ ⟨b0, b1, b2, b3, b4, true, true, true, true, b9, b10, b11, b12, mg, mt, pb, nb, cb, pq, rfl, rfl, ⟨HI.out.1, HI.out.2.1, fun _ => rfl, HI.out.2.2.2⟩⟩
    rcases hcs with rfl | hcs
    · obtain rfl : b9 = false := h0
      cases ho
      try clear h0
      clear hd
      refine wpOp_step rfl (fun K hK => ?_)
      have HK := Lib.hid hK
      clear hK
      try dsimp only [cond_true] at HI ⊢
      go_simp
      have hb11 : b11 = false := Bool.eq_false_iff.2 fun e => by have h9 := HI.out.1 e; simp at h9
      have hb10 : b10 = false := Bool.eq_false_iff.2 fun e => by have h9 := HI.out.2.1 e; simp at h9
      have I := Lib.hid (HI.out.2.2.2.2.1 hb11)
      subst hb10
      subst hb11
      have I2 := Lib.hid (I.out.addC (World.ownsMap_made W _ _ _) (nxAlloc (nxRefl _) _))
      exact HK.out _ _ ⟨b0, b1, b2, b3, b4, b5, b6, b7, b8, true, false, false, b12, mg, mt, pb, nb, W.heap.size, pq, rfl, rfl, ⟨fun e => (by cases e), fun e => (by cases e), HI.out.2.2.1, HI.out.2.2.2.1, fun _ => I2.out, fun e => (by cases e), HI.out.2.2.2.2.2.2⟩⟩
    rcases hcs with rfl | hcs
    · obtain rfl : b10 = false := h0
      cases ho
      obtain rfl : b1 = true := hd ⟨1, Ground.data⟩ (by simp) rfl
      obtain rfl : b2 = true := hd ⟨2, Ground.data⟩ (by simp) rfl
      obtain rfl : b4 = true := hd ⟨4, Ground.data⟩ (by simp) rfl
      obtain rfl : b8 = true := hd ⟨8, Ground.data⟩ (by simp) rfl
      obtain rfl : b9 = true := hd ⟨9, Ground.data⟩ (by simp) rfl
      try clear h0
      clear hd
      refine wpOp_step rfl (fun K hK => ?_)
      have HK := Lib.hid hK
      clear hK
      try dsimp only [cond_true] at HI ⊢
      go_simp
      have h57 := HI.out.2.2.1 (by trivial)
      exact HK.out _ _ ⟨b0, true, true, b3, true, b5, b6, b7, true, true, true, b11, b12, mg, mt, pb, nb, cb, pq, rfl, rfl, ⟨HI.out.1, fun _ => (by simpa using h57), HI.out.2.2.1, HI.out.2.2.2⟩⟩
    rcases hcs with rfl | hcs
    · obtain rfl : b11 = false := h0
      cases ho
      obtain rfl : b10 = true := hd ⟨10, Ground.data⟩ (by simp) rfl
      try clear h0
      clear hd
      refine wpOp_step rfl (fun K hK => ?_)
      have HK := Lib.hid hK
      clear hK
      try dsimp only [cond_true] at HI ⊢
      go_simp
      have hb12 : b12 = false := Bool.eq_false_iff.2 fun e => by have h9 := HI.out.2.2.2.2.2.2 e; simp at h9
      subst hb12
      have h9 := HI.out.2.1 (by trivial)
      simp only [Bool.and_eq_true] at h9
      obtain ⟨⟨⟨⟨⟨rfl, rfl⟩, rfl⟩, rfl⟩, rfl⟩, rfl⟩ := h9
      have HX := Lib.hid (newX_ok (HI.out.2.2.2.2.1 (by trivial)) (q := W.heap.size) rfl)
      exact HK.out _ _ ⟨b0, true, true, b3, true, true, b6, true, b8, true, true, true, false, mg, mt, pb, nb, cb, W.heap.size, rfl, rfl, ⟨fun _ => rfl, fun _ => rfl, fun _ => rfl, fun _ => rfl, fun e => (by cases e), fun _ => HX.out, fun e => (by cases e)⟩⟩
    subst hcs
    obtain rfl : b12 = false := h0
    cases ho
    obtain rfl : b11 = true := hd ⟨11, Ground.data⟩ (by simp) rfl
    obtain rfl : b2 = true := hd ⟨2, Ground.chain⟩ (by simp) rfl
    obtain rfl : b0 = true := hd ⟨0, Ground.phase⟩ (by simp) rfl
    obtain rfl : b1 = true := hd ⟨1, Ground.phase⟩ (by simp) rfl
    obtain rfl : b3 = true := hd ⟨3, Ground.phase⟩ (by simp) rfl
    obtain rfl : b4 = true := hd ⟨4, Ground.phase⟩ (by simp) rfl
    obtain rfl : b5 = true := hd ⟨5, Ground.phase⟩ (by simp) rfl
    obtain rfl : b6 = true := hd ⟨6, Ground.phase⟩ (by simp) rfl
    obtain rfl : b7 = true := hd ⟨7, Ground.phase⟩ (by simp) rfl
    obtain rfl : b8 = true := hd ⟨8, Ground.phase⟩ (by simp) rfl
    obtain rfl : b9 = true := hd ⟨9, Ground.phase⟩ (by simp) rfl
    obtain rfl : b10 = true := hd ⟨10, Ground.phase⟩ (by simp) rfl
    try clear h0
    clear hd
    refine wpOp_step rfl (fun K hK => ?_)
    have HK := Lib.hid hK
    clear hK
    try dsimp only [cond_true] at HI ⊢
    go_simp
    exact HK.out _ _ ⟨true, true, true, true, true, true, true, true, true, true, true, true, true, mg, mt, pb, nb, cb, pq, rfl, rfl, ⟨HI.out.1, HI.out.2.1, HI.out.2.2.1, HI.out.2.2.2.1, HI.out.2.2.2.2.1, HI.out.2.2.2.2.2.1, fun _ => rfl⟩⟩
  · rintro L a W ⟨b0, b1, b2, b3, b4, b5, b6, b7, b8, b9, b10, b11, b12, mg, mt, pb, nb, cb, pq, rfl, rfl, hI⟩ hall
    obtain rfl : b0 = true := hall 0 (by decide)
    obtain rfl : b1 = true := hall 1 (by decide)
    obtain rfl : b2 = true := hall 2 (by decide)
    obtain rfl : b3 = true := hall 3 (by decide)
    obtain rfl : b4 = true := hall 4 (by decide)
    obtain rfl : b5 = true := hall 5 (by decide)
    obtain rfl : b6 = true := hall 6 (by decide)
    obtain rfl : b7 = true := hall 7 (by decide)
    obtain rfl : b8 = true := hall 8 (by decide)
    obtain rfl : b9 = true := hall 9 (by decide)
    obtain rfl : b10 = true := hall 10 (by decide)
    obtain rfl : b11 = true := hall 11 (by decide)
    obtain rfl : b12 = true := hall 12 (by decide)
    clear hall
    have HI := Lib.hid hI
    clear hI
    try dsimp only [cond_true] at HI ⊢
    go_wp2
    go_ret
    have HX := HI.out.2.2.2.2.2.1 (by trivial)
    subst hp0
    exact ⟨_, rfl, HX.1.lower V0.out.size, HX.2.1, nxTo V0.out HX.2.2⟩
end Go.Proofs.YtbfpckomgpkjgaaGreat
