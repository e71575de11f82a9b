/-
  wal, the document's log in memory; done, Open.
  wal: the document's Put and Empty; the program's Empty.
-/
import Derived.Test.YthamlphebnhcpaaDoorPWpQ2
namespace Go.Proofs.YthamlphebnhcpaaDoor
open Go.RowKit

structure RlOk (w : World) (q d : Nat) (m : WlM) : Prop where
  b : Blk w q 45 (wlC d m).toArray
  ww : w.ownsRow 0 39 1 (.slice m.A m.rows.length m.c) m.rows.length (rowsC m.rows)
  o : ∀ r ∈ m.rows, r.own w
theorem RlOk.foot_lt {w : World} {q d : Nat} {m : WlM} (h : RlOk w q d m) {j : Nat} (hj : footW q m j) : j < w.heap.size := by
  rcases hj with rfl | hj
  · exact h.b.lt
  · exact (h.ww.lt j (by rw [own_blkD]; exact hj)).2
theorem RlOk.rows_lt {w : World} {q d : Nat} {m : WlM} (h : RlOk w q d m) {j : Nat} (hj : rowsW m j) : j < w.heap.size := by
  obtain ⟨r, hr, hb⟩ := hj
  exact RowM.lt (h.o r hr) hb
theorem RlOk.off {w : World} {q d : Nat} {m : WlM} (h : RlOk w q d m) {r : RowM} (hr : r.own w) {j : Nat} (hj : r.bk = some j) : ¬ footW q m j := by
  rintro (rfl | h1)
  · have h3 := h.b.notOwn hr (by decide)
    rw [RowM.v, own_blkD] at h3
    exact h3 hj.symm
  · exact own_apart hr h.ww (by decide) j (by rw [RowM.v, own_blkD]; exact hj) (by rw [own_blkD]; exact h1)
theorem RlOk.later {S : Nat → Prop} {w w' : World} {q d : Nat} {m : WlM} (h : RlOk w q d m) (k : Keeps S w w') (hf : ∀ j, footW q m j → ¬ S j) (hr : ∀ j, rowsW m j → ¬ S j) : RlOk w' q d m :=
  ⟨h.b.keeps k (hf q (.inl rfl)), own_keep h.ww k (fun j hj => hf j (.inr (by rw [own_blkD] at hj; exact hj))), fun r hm => RowM.keep (h.o r hm) k (fun j hj => hr j ⟨r, hm, hj⟩)⟩
theorem RlOk.below {w w' : World} {q d : Nat} {m : WlM} (h : RlOk w q d m) (b : Below w.heap.size w w') : RlOk w' q d m := h.later (Keeps.of_below b (fun _ => False)) (fun _ _ h => h) (fun _ _ h => h)
/-- The document's disk and a log of it. -/
structure RlPair (w : World) (g : Nat) (rm : RfM) (q : Nat) (m : WlM) (D : DkD) : Prop where
  k : RfOk w g rm
  l : RlOk w q g m
  r : RelR D rm
  wf : DkWf D
theorem Blk.tyR {w : World} {g : Nat} {t t2 : TypeId} {cs cs2 : Array Value} (h : Blk w g t cs) (h2 : Blk w g t2 cs2) : t = t2 := by
  unfold Blk at h h2
  rw [h] at h2
  injection h2 with h2
  injection h2
/-- What the log changes lies off what the disk changes. -/
theorem RfOk.offL {w : World} {g q d : Nat} {rm : RfM} {m : WlM} (k : RfOk w g rm) (l : RlOk w q d m) {j : Nat} (hj : footW q m j) : ¬ footR g rm j := by
  rintro (e1 | e1)
  · subst e1
    rcases hj with e2 | e2
    · subst e2
      exact absurd (k.b.tyR l.b) (by decide)
    · exact k.b.notOwn l.ww (by decide) (by rw [own_blkD]; exact e2.symm)
  · rcases hj with e2 | e2
    · subst e2
      exact l.b.notOwn k.ww (by decide) (by rw [own_blkD]; exact e1.symm)
    · exact own_apart l.ww k.ww (by decide) j (by rw [own_blkD]; exact e2) (by rw [own_blkD]; exact e1)
def footL (g : Nat) (rm : RfM) (q : Nat) (m : WlM) (j : Nat) : Prop := footR g rm j ∨ footW q m j
def allL (g : Nat) (rm : RfM) (q : Nat) (m : WlM) (j : Nat) : Prop := allR g rm j ∨ footW q m j ∨ rowsW m j
theorem allR_lt {w : World} {g : Nat} {m : RfM} (h : RfOk w g m) {j : Nat} (hj : allR g m j) : j < w.heap.size := by
  rcases hj with (rfl | h1) | ⟨r, hr | ⟨p, hp, rfl⟩, hb⟩
  · exact h.b.lt
  · exact (h.ww.lt j (by rw [own_blkD]; exact h1)).2
  · exact RowM.lt (h.o r hr) hb
  · exact RowM.lt (h.p p hp).2.2 hb
theorem RlPair.all_lt {w : World} {g q : Nat} {rm : RfM} {m : WlM} {D : DkD} (h : RlPair w g rm q m D) {j : Nat} (hj : allL g rm q m j) : j < w.heap.size := by
  rcases hj with h1 | h1 | h1
  · exact allR_lt h.k h1
  · exact h.l.foot_lt h1
  · exact h.l.rows_lt h1
theorem allL_of {g q : Nat} {rm : RfM} {m : WlM} {j : Nat} (h : footL g rm q m j) : allL g rm q m j := h.elim (fun h => .inl (.inl h)) (fun h => .inr (.inl h))
structure RlTo (w : World) (g : Nat) (rm : RfM) (q : Nat) (m : WlM) (w' : World) (rm' : RfM) (m' : WlM) (D' : DkD) : Prop where
  ok : RlPair w' g rm' q m' D'
  ft : ∀ j, footL g rm' q m' j → footL g rm q m j ∨ w.heap.size ≤ j
  al : ∀ j, allL g rm' q m' j → allL g rm q m j ∨ w.heap.size ≤ j
  k : Keeps (footL g rm q m) w w'
theorem RlTo.trans {w w1 w2 : World} {g q : Nat} {rm rm1 rm2 : RfM} {m m1 m2 : WlM} {D1 D2 : DkD} (h : RlTo w g rm q m w1 rm1 m1 D1) (h2 : RlTo w1 g rm1 q m1 w2 rm2 m2 D2) : RlTo w g rm q m w2 rm2 m2 D2 := by
  refine ⟨h2.ok, fun j hj => ?_, fun j hj => ?_, ?_⟩
  · rcases h2.ft j hj with h1 | h1
    · exact h.ft j h1
    · exact .inr (Nat.le_trans h.k.size h1)
  · rcases h2.al j hj with h1 | h1
    · exact h.al j h1
    · exact .inr (Nat.le_trans h.k.size h1)
  · refine ⟨h2.k.os.trans h.k.os, h2.k.tape.trans h.k.tape, h2.k.output.trans h.k.output, Nat.le_trans h.k.size h2.k.size, fun b hb hn => ?_⟩
    refine (h2.k.block b (Nat.lt_of_lt_of_le hb h.k.size) (fun h1 => ?_)).trans (h.k.block b hb hn)
    rcases h.ft b h1 with h3 | h3
    · exact hn h3
    · omega
theorem RlTo.refl {w : World} {g q : Nat} {rm : RfM} {m : WlM} {D : DkD} (h : RlPair w g rm q m D) : RlTo w g rm q m w rm m D := ⟨h, fun _ h => .inl h, fun _ h => .inl h, Keeps.refl _ _⟩
theorem RlPair.below {w w' : World} {g q : Nat} {rm : RfM} {m : WlM} {D : DkD} (h : RlPair w g rm q m D) (b : Below w.heap.size w w') : RlPair w' g rm q m D := ⟨h.k.below b, h.l.below b, h.r, h.wf⟩
theorem RlTo.below {w w' : World} {g q : Nat} {rm : RfM} {m : WlM} {D : DkD} (h : RlPair w g rm q m D) (b : Below w.heap.size w w') : RlTo w g rm q m w' rm m D := ⟨h.below b, fun _ h => .inl h, fun _ h => .inl h, Keeps.of_below b _⟩
/-- The disk alone has changed. -/
theorem RlTo.disk {w w' : World} {g q : Nat} {rm rm' : RfM} {m : WlM} {D D' : DkD} (h : RlPair w g rm q m D) (t : RfTo w g rm w' rm') (r : RelR D' rm') (wf : DkWf D') : RlTo w g rm q m w' rm' m D' := by
  refine ⟨⟨t.ok, h.l.later t.k (fun j hj => h.k.offL h.l hj) (fun j ⟨r, hr, hj⟩ => h.k.off (h.l.o r hr) hj), r, wf⟩, fun j hj => ?_, fun j hj => ?_, t.k.mono (fun j _ hj => .inl hj)⟩
  · rcases hj with hj | hj
    · exact (t.ft j hj).elim (fun h => .inl (.inl h)) .inr
    · exact .inl (.inr hj)
  · rcases hj with hj | hj
    · exact (t.al j hj).elim (fun h => .inl (.inl h)) .inr
    · exact .inl (.inr hj)
/-- The log alone has changed. -/
theorem RlTo.log {w w' : World} {g q : Nat} {rm : RfM} {m m' : WlM} {D : DkD} (h : RlPair w g rm q m D) (hl : RlOk w' q g m') (k : Keeps (footW q m) w w') (hf : ∀ j, footW q m' j → footW q m j ∨ w.heap.size ≤ j) (hr : ∀ j, rowsW m' j → rowsW m j ∨ w.heap.size ≤ j) : RlTo w g rm q m w' rm m' D := by
  refine ⟨⟨h.k.later k (fun j hj hs => h.k.offL h.l hs hj) (fun r hm j hj hs => ?_), hl, h.r, h.wf⟩, fun j hj => ?_, fun j hj => ?_, k.mono (fun j _ hj => .inr hj)⟩
  · have ho : r.own w := by
      rcases hm with hm | ⟨p, hp, rfl⟩
      · exact h.k.o r hm
      · exact (h.k.p p hp).2.2
    exact h.l.off ho hj hs
  · rcases hj with hj | hj
    · exact .inl (.inl hj)
    · exact (hf j hj).elim (fun h => .inl (.inr h)) .inr
  · rcases hj with hj | hj | hj
    · exact .inl (.inl hj)
    · exact (hf j hj).elim (fun h => .inl (.inr (.inl h))) .inr
    · exact (hr j hj).elim (fun h => .inl (.inr (.inr h))) .inr
/-- A cell of the log, but not its batches. -/
theorem RlTo.cells {w w' : World} {g q : Nat} {rm : RfM} {m m' : WlM} {D : DkD} (h : RlPair w g rm q m D) (e1 : m'.rows = m.rows) (e2 : m'.A = m.A) (e3 : m'.c = m.c) (hb : Blk w' q 45 (wlC g m').toArray) (k : Keeps (fun j => j = q) w w') : RlTo w g rm q m w' rm m' D := by
  have k2 : Keeps (footW q m) w w' := k.mono (fun j _ hj => .inl hj)
  refine RlTo.log h ⟨hb, ?_, ?_⟩ k2 (fun j hj => .inl ?_) (fun j hj => .inl ?_)
  · rw [e1, e2, e3]
    refine own_keep h.l.ww k (fun j hj e => ?_)
    subst e
    exact h.l.b.notOwn h.l.ww (by decide) hj.symm
  · rw [e1]
    exact fun r hr => RowM.keep (h.l.o r hr) k (fun j hj e => h.l.off (h.l.o r hr) hj (.inl e))
  · unfold footW at hj ⊢; rw [e2] at hj; exact hj
  · unfold rowsW at hj ⊢; rw [e1] at hj; exact hj
theorem RfTo.undrew {w w' : World} {g : Nat} {m m' : RfM} (h : RfTo w.drew g m w' m') : RfTo w g m w' m' := ⟨h.ok, h.ft, h.al, ⟨h.k.os, h.k.tape, h.k.output, h.k.size, h.k.block⟩⟩
theorem RlTo.undrew {w w' : World} {g q : Nat} {rm rm' : RfM} {m m' : WlM} {D' : DkD} (h : RlTo w.drew g rm q m w' rm' m' D') : RlTo w g rm q m w' rm' m' D' := ⟨h.ok, h.ft, h.al, ⟨h.k.os, h.k.tape, h.k.output, h.k.size, h.k.block⟩⟩
theorem RfOk.drew {w : World} {g : Nat} {m : RfM} (h : RfOk w g m) : RfOk w.drew g m := h.later (Keeps.refl (fun _ => False) w).drew (fun _ _ h => h) (fun _ _ _ _ h => h)
theorem RlOk.drew {w : World} {q d : Nat} {m : WlM} (h : RlOk w q d m) : RlOk w.drew q d m := h.later (Keeps.refl (fun _ => False) w).drew (fun _ _ h => h) (fun _ _ h => h)
theorem RlPair.drew {w : World} {g q : Nat} {rm : RfM} {m : WlM} {D : DkD} (h : RlPair w g rm q m D) : RlPair w.drew g rm q m D := ⟨h.k.drew, h.l.drew, h.r, h.wf⟩
/-- What done answers. -/
def RStlPost (w : World) (g : Nat) (rm : RfM) (q : Nat) (m : WlM) (R : DkD × Int) (e : Ending) (w' : World) : Prop := e = .returned (.int .i64 R.2) ∧ ∃ rm', RlTo w g rm q m w' rm' { m with dead := m.dead || decide (R.2 ≠ 0) } R.1

set_option maxHeartbeats 2000000 in
set_option maxRecDepth 100000 in
theorem rdone_any (w : World) (g : Nat) (rm : RfM) (q : Nat) (m : WlM) (D : DkD) (h : RlPair w g rm q m D) (hW : rm.W.length ≤ 1000) (e : Int) : Calls Tryd.prog 24 #[.pointer (some ⟨q, 0, none⟩), .int .i64 e] w (RStlPost w g rm q m (stlD D e)) := by
  have H := Lib.hid h
  have HWl := Lib.hid hW
  have c0 : w.cell? ⟨q, 0, none⟩ = some (.pointer (some ⟨g, 0, none⟩)) := h.l.b.cell 0
  have c4 : w.cell? ⟨q, 4, none⟩ = some (.bool m.dead) := h.l.b.cell 4
  have f4 : w.frozen? ⟨q, 4, none⟩ = false := h.l.b.frozen 4
  clear h hW
  by_cases he : e = 0
  · subst he
    have HR : Hid (stlD D 0 = ((syncD D).1, if (syncD D).2 = 0 then 0 else 19)) := by show _ = _; unfold stlD; rw [if_pos rfl]
    clear c4 f4
    unfold RStlPost
    rw [HR.out]
    have hs := rsync_anyS w g rm D H.out.k H.out.r H.out.wf HWl.out
    obtain ⟨n, hn⟩ : ∃ n, (syncD D).2 = n := ⟨_, rfl⟩
    unfold RPostS ptrD at hs
    rw [hn] at hs ⊢
    have HSy := Lib.hid hs
    have HWs : Hid (DkWf (syncD D).1) := syncD_wf' H.out.wf
    clear hs hn
    by_cases h0 : n = 0
    · subst h0
      rw [if_pos rfl]
      go_enter Tryd.func24, Tryd.ntmps24
      go_wp2_with (first
        | (go_at_call 51; refine HSy.out.mono ?_; rintro e1 w1 ⟨n1, rm1, rfl, hn1, ht, hd⟩; obtain rfl := hn1.symm; have T1 := Lib.hid ht; have D1 := Lib.hid hd; clear ht hd hn1))
      go_ret
      refine ⟨rfl, rm1, ?_⟩
      have := RlTo.disk H.out T1.out D1.out HWs.out
      simpa using this
    · rw [if_neg h0]
      have h0b : (n == 0) = false := beq_eq_false_iff_ne.2 h0
      go_enter Tryd.func24, Tryd.ntmps24
      go_wp2_with (first
        | (go_at_call 51; refine HSy.out.mono ?_; rintro e1 w1 ⟨n1, rm1, rfl, hn1, ht, hd⟩; obtain rfl := hn1.symm; have T1 := Lib.hid ht; have D1 := Lib.hid hd; clear ht hd hn1; (have P1 := Lib.hid (RlTo.disk H.out T1.out D1.out HWs.out)); (have c4 : w1.cell? ⟨q, 4, none⟩ = some (.bool m.dead) := P1.out.ok.l.b.cell 4); (have f4 : w1.frozen? ⟨q, 4, none⟩ = false := P1.out.ok.l.b.frozen 4)))
      go_ret
      refine ⟨rfl, rm1, P1.out.trans ?_⟩
      have e1 : (m.dead || decide ((19 : Int) ≠ 0)) = true := by rw [decide_eq_true (by decide), Bool.or_true]
      rw [e1]
      refine RlTo.cells P1.out.ok rfl rfl rfl ?_ (Keeps.setCell (S := fun j => j = q) (p := ⟨q, 4, none⟩) (Keeps.refl _ _) rfl _)
      rw [← wlC_dead]
      exact P1.out.ok.l.b.set 4 _
  · have HR : Hid (stlD D e = (D, 19)) := by show _ = _; unfold stlD; rw [if_neg he]
    have h0b : (e == 0) = false := beq_eq_false_iff_ne.2 he
    unfold RStlPost
    rw [HR.out]
    clear c0
    go_enter Tryd.func24, Tryd.ntmps24
    go_wp2
    go_ret
    refine ⟨rfl, rm, ?_⟩
    have e1 : (m.dead || decide ((19 : Int) ≠ 0)) = true := by rw [decide_eq_true (by decide), Bool.or_true]
    rw [e1]
    refine RlTo.cells H.out rfl rfl rfl ?_ (Keeps.setCell (S := fun j => j = q) (p := ⟨q, 4, none⟩) (Keeps.refl _ _) rfl _)
    rw [← wlC_dead]
    exact H.out.l.b.set 4 _
/-- A log of the document's that was opened. -/
structure ROpened (w : World) (D : DkD) (log : Int) (w' : World) (g : Nat) (rm' : RfM) (q : Nat) (m : WlM) : Prop where
  ok : RlPair w' g rm' q m (openD D log).1
  lg : m.log = log
  dd : m.dead = false
  l : m.rows.map (·.l) = scanB (logB D log)
  z : m.size = sizeL (scanB (logB D log))
  n : ∀ j, footW q m j ∨ rowsW m j → w.heap.size ≤ j
def ROpenPost (w : World) (g : Nat) (rm : RfM) (D : DkD) (log : Int) (e : Ending) (w' : World) : Prop :=
  ∃ rm', RelR (openD D log).1 rm' ∧ RfTo w g rm w' rm' ∧ (((openD D log).2 ≠ 0 ∧ e = .returned (.tuple #[.pointer none, .int .i64 (openD D log).2])) ∨
    ((openD D log).2 = 0 ∧ ∃ q m, e = .returned (.tuple #[.pointer (some ⟨q, 0, none⟩), .int .i64 0]) ∧ ROpened w D log w' g rm' q m))
theorem RlTo.toR {w w' : World} {g q : Nat} {rm rm' : RfM} {m m' : WlM} {D' : DkD} (h : RlTo w g rm q m w' rm' m' D') {w0 : World} {rm0 : RfM} (h0 : RfTo w0 g rm0 w rm) (hn : ∀ j, footW q m j → w0.heap.size ≤ j) (hn' : ∀ j, rowsW m j → w0.heap.size ≤ j) : RfTo w0 g rm0 w' rm' := by
  refine ⟨h.ok.k, fun j hj => ?_, fun j hj => ?_, ?_⟩
  · rcases h.ft j (.inl hj) with (h1 | h1) | h1
    · exact h0.ft j h1
    · exact .inr (hn j h1)
    · exact .inr (Nat.le_trans h0.k.size h1)
  · rcases h.al j (.inl hj) with (h1 | h1 | h1) | h1
    · exact h0.al j h1
    · exact .inr (hn j h1)
    · exact .inr (hn' j h1)
    · exact .inr (Nat.le_trans h0.k.size h1)
  · refine ⟨h.k.os.trans h0.k.os, h.k.tape.trans h0.k.tape, h.k.output.trans h0.k.output, Nat.le_trans h0.k.size h.k.size, fun b hb hnf => ?_⟩
    refine (h.k.block b (Nat.lt_of_lt_of_le hb h0.k.size) (fun h1 => ?_)).trans (h0.k.block b hb hnf)
    rcases h1 with h1 | h1
    · rcases h0.ft b h1 with h2 | h2
      · exact hnf h2
      · omega
    · have := hn b h1
      omega

set_option maxHeartbeats 4000000 in
set_option maxRecDepth 100000 in
theorem ropen_any (w : World) (hT : Tabs w) (g : Nat) (rm : RfM) (D : DkD) (h : RfOk w g rm) (hD : RelR D rm) (wf : DkWf D) (hW : rm.W.length ≤ 990) (log : Int) (hB : (logB D log).length ≤ 1000000) : Calls Tryd.prog 9 #[.pointer (some ⟨g, 0, none⟩), .int .i64 log] w (ROpenPost w g rm D log) := by
  have H := Lib.hid h
  have HDD := Lib.hid hD
  have HT := Lib.hid hT
  have HWf := Lib.hid wf
  have HWl := Lib.hid hW
  have hrd := rread_any w g rm D h hD wf (by omega) log
  unfold RReadPost ptrD at hrd
  clear h hT wf hW hD
  unfold ROpenPost
  cases hm : mayD log with
  | false =>
    have HO : Hid (openD D log = (D, 2)) := by show _ = _; unfold openD; rw [hm]; rfl
    have e1 : readD D log = ([], 2) := by unfold readD; rw [hm]; rfl
    rw [e1] at hrd
    rw [HO.out]
    clear hm e1
    go_enter Tryd.func9, Tryd.ntmps9
    go_wp2_with (first
      | (go_at_call 22; refine hrd.mono ?_; rintro e w1 ⟨r, rfl, -, -, -, hb⟩; have V1 := Lib.hid hb; clear hb; (obtain ⟨rv, hrv⟩ : ∃ x, r.v = x := ⟨_, rfl⟩); rw [hrv]; clear hrv))
    go_ret2
    exact ⟨rm, HDD.out, RfTo.below H.out V1.out, .inl ⟨by decide, rfl⟩⟩
  | true =>
    have e1 : readD D log = (logB D log, 0) := by unfold readD logB; rw [hm]; rfl
    have HO : Hid (openD D log = if sizeL (scanB (logB D log)) < (logB D log).length then stlD (cutD D log (sizeL (scanB (logB D log)) : Int)).1 (cutD D log (sizeL (scanB (logB D log)) : Int)).2 else (D, 0)) := by show _ = _; unfold openD; rw [hm]; rfl
    rw [e1] at hrd
    have HBl := Lib.hid hB
    obtain ⟨b, hb⟩ : ∃ b, logB D log = b := ⟨_, rfl⟩
    have Hb := Lib.hid hb
    rw [hb] at hrd HBl HO
    obtain ⟨sz, hsz⟩ : ∃ sz, sizeL (scanB b) = sz := ⟨_, rfl⟩
    have HSz := Lib.hid hsz
    rw [hsz] at HO
    clear hm e1 hb hsz hB
    have hbd : ∀ wq, (Instr.build 45 #[(0, .pointer (some ⟨g, 0, none⟩)), (1, .int .i64 log)]).run Tryd.prog wq = .ok (.agg #[.pointer (some ⟨g, 0, none⟩), .int .i64 log, .slice none 0 0, .int .i64 0, .bool false]) wq := fun wq => by kernel_rfl
    go_enter Tryd.func9, Tryd.ntmps9
    go_upto_region 4 with (first
      | (go_at_call 22; refine hrd.mono ?_; rintro e w1 ⟨⟨A1, c1, l1⟩, rfl, hl1, ho1, -, hb1⟩; obtain rfl : l1 = b := hl1; (have hv1 : RowM.v ⟨A1, c1, l1⟩ = .slice A1 l1.length c1 := rfl); rw [hv1]; clear hv1; have V1 := Lib.hid hb1; have O1 := Lib.hid ho1; clear hb1 ho1))
    have D1 : Hid (RfOk w1 g rm) := H.out.below V1.out
    have BQ : Hid (Blk (w1.alloc (.cells #[.pointer (some ⟨g, 0, none⟩), .int .i64 log, .slice none 0 0, .int .i64 0, .bool false] 45)) w1.heap.size 45 (wlC g ⟨log, [], none, 0, 0, false⟩).toArray) := heap_alloc_new w1 _
    have VQ : Hid (Below w1.heap.size w1 (w1.alloc (.cells #[.pointer (some ⟨g, 0, none⟩), .int .i64 log, .slice none 0 0, .int .i64 0, .bool false] 45))) := nxAlloc (nxRefl w1) _
    go_upto_region 5 with fail
    obtain ⟨w2, hw2⟩ : ∃ x, w1.alloc (.cells #[.pointer (some ⟨g, 0, none⟩), .int .i64 log, .slice none 0 0, .int .i64 0, .bool false] 45) = x := ⟨_, rfl⟩
    rw [hw2] at BQ VQ ⊢
    have HQl : Hid (w1.heap.size < w2.heap.size) := BQ.out.lt
    have P2 : Hid (RlPair w2 g rm w1.heap.size ⟨log, [], none, 0, 0, false⟩ D) := ⟨D1.out.below VQ.out, ⟨BQ.out, World.ownsRow_nil _ _ _ _, fun r hr => by cases hr⟩, HDD.out, HWf.out⟩
    have O2 : Hid ((⟨A1, c1, l1⟩ : RowM).own w2) := RowM.keep O1.out (Keeps.of_below VQ.out (fun _ => False)) (fun _ _ h => h)
    have HQ0 : Hid (w.heap.size ≤ w1.heap.size) := V1.out.size
    have V2 : Hid (Below w.heap.size w w2) := nxTrD V1.out VQ.out
    obtain ⟨q, hq⟩ : ∃ q, w1.heap.size = q := ⟨_, rfl⟩
    rw [hq] at BQ P2 HQ0 HQl ⊢
    clear hw2 VQ D1 O1 V1 hq
    go_upto_region 6 with (first
      | (go_at_call 23; refine (rscan_any w2 (HT.out.later V2.out) A1 c1 l1 (RowM.sees O2.out) (RowM.len O2.out).1 (RowM.len O2.out).2 HBl.out).mono ?_; unfold ScanPost; rw [HSz.out]; rintro e w3 ⟨rows, A3, c3, rfl, hl3, ho3, hr3, hb3⟩; have L3 := Lib.hid hl3; have O3 := Lib.hid ho3; have R3 := Lib.hid hr3; have V3 := Lib.hid hb3; clear hl3 ho3 hr3 hb3; (have B3 : Hid (Blk w3 q 45 (wlC g ⟨log, [], none, 0, 0, false⟩).toArray) := BQ.out.below V3.out BQ.out.lt); (have c2 : w3.cell? ⟨q, 2, none⟩ = some (.slice none 0 0) := B3.out.cell 2); (have f2 : w3.frozen? ⟨q, 2, none⟩ = false := B3.out.frozen 2); (have c3q : w3.cell? ⟨q, 3, none⟩ = some (.int .i64 0) := B3.out.cell 3); (have f3 : w3.frozen? ⟨q, 3, none⟩ = false := B3.out.frozen 3)))
    have BL5 : Hid (Blk ((w3.setCell ⟨q, 2, none⟩ (.slice A3 rows.length c3)).setCell ⟨q, 3, none⟩ (.int .i64 (sz : Int))) q 45 (wlC g ⟨log, rows, A3, c3, sz, false⟩).toArray) := by
      show Blk _ _ _ _
      exact (B3.out.set 2 _).set 3 _
    have K35 : Hid (Keeps (fun j => j = q) w3 ((w3.setCell ⟨q, 2, none⟩ (.slice A3 rows.length c3)).setCell ⟨q, 3, none⟩ (.int .i64 (sz : Int)))) := Keeps.setCell (S := fun j => j = q) (p := ⟨q, 3, none⟩) (Keeps.setCell (S := fun j => j = q) (p := ⟨q, 2, none⟩) (Keeps.refl _ _) rfl _) rfl _
    obtain ⟨w5, hw5⟩ : ∃ x, (w3.setCell ⟨q, 2, none⟩ (.slice A3 rows.length c3)).setCell ⟨q, 3, none⟩ (.int .i64 (sz : Int)) = x := ⟨_, rfl⟩
    rw [hw5] at BL5 K35 ⊢
    have c3n : w5.cell? ⟨q, 3, none⟩ = some (.int .i64 (sz : Int)) := BL5.out.cell 3
    have c0n : w5.cell? ⟨q, 0, none⟩ = some (.pointer (some ⟨g, 0, none⟩)) := BL5.out.cell 0
    have N3 : Hid (∀ j, footW q ⟨log, rows, A3, c3, sz, false⟩ j → j = q ∨ w2.heap.size ≤ j) := fun j hj => hj.elim .inl (fun e => .inr (O3.out.lt j (by rw [own_blkD]; exact e)).1)
    have N4 : Hid (∀ j, rowsW ⟨log, rows, A3, c3, sz, false⟩ j → w2.heap.size ≤ j) := fun j ⟨r, hr, e⟩ => (R3.out r hr).2 j e
    have T5 : Hid (RlTo w2 g rm q ⟨log, [], none, 0, 0, false⟩ w5 rm ⟨log, rows, A3, c3, sz, false⟩ D) := by
      refine RlTo.log P2.out ⟨BL5.out, own_keep (own_lessW O3.out (Nat.zero_le _)) K35.out (fun j hj e => ?_), fun r hr => RowM.keep (R3.out r hr).1 K35.out (fun j hj e => ?_)⟩ ((Keeps.of_below V3.out _).trans (K35.out.mono (fun j _ hj => .inl hj))) (fun j hj => (N3.out j hj).imp .inl id) (fun j hj => .inr (N4.out j hj))
      · subst e
        exact B3.out.notOwn O3.out (by decide) hj.symm
      · have h3 := (R3.out r hr).2 j hj
        have := HQl.out
        omega
    clear c2 f2 c3q f3 hw5 B3 BL5 K35 V3 O3 R3
    have HTD : Hid (∀ {w' : World} {rm' : RfM} {m' : WlM} {D' : DkD}, RlTo w2 g rm q ⟨log, [], none, 0, 0, false⟩ w' rm' m' D' → RfTo w g rm w' rm') := fun t => t.toR (RfTo.below H.out V2.out) (fun j hj => hj.elim (fun e => by rw [e]; exact HQ0.out) (fun e => by cases e)) (fun j ⟨r, hr, _⟩ => by cases hr)
    have HNew : Hid (∀ j, footW q ⟨log, rows, A3, c3, sz, false⟩ j ∨ rowsW ⟨log, rows, A3, c3, sz, false⟩ j → w.heap.size ≤ j) := fun j hj => by
      have h2 := V2.out.size
      rcases hj with hj | hj
      · rcases N3.out j hj with e | e
        · rw [e]; exact HQ0.out
        · omega
      · have := N4.out j hj; omega
    have HOpd : Hid (∀ {w' : World} {rm' : RfM}, RlPair w' g rm' q ⟨log, rows, A3, c3, sz, false⟩ (openD D log).1 → ROpened w D log w' g rm' q ⟨log, rows, A3, c3, sz, false⟩) := fun p => ⟨p, rfl, rfl, by rw [Hb.out]; exact L3.out, by rw [Hb.out, HSz.out], HNew.out⟩
    by_cases hlt : sz < l1.length
    · have hlt2 : (sz : Int) < (l1.length : Int) := by omega
      rw [if_pos hlt] at HO
      obtain ⟨R, hR⟩ : ∃ R, stlD (cutD D log (sz : Int)).1 (cutD D log (sz : Int)).2 = R := ⟨_, rfl⟩
      have HR := Lib.hid hR
      rw [hR] at HO
      have HWR : Hid (DkWf (cutD D log (sz : Int)).1) := cutD_wf' HWf.out _ _
      have HWc : Hid (∀ rm2, RelR (cutD D log (sz : Int)).1 rm2 → rm2.W.length ≤ 991) := fun rm2 hr2 => by
        have h1 := cutD_Wl D log (sz : Int)
        have h2 := HWl.out
        have h3 := congrArg List.length hr2.w
        have h4 := congrArg List.length HDD.out.w
        rw [List.length_map] at h3 h4
        omega
      have hE : R.2 = 0 ∨ R.2 = 19 := by rw [← hR]; unfold stlD; split <;> (try split) <;> simp
      clear hR hlt
      have hct := rcut_anyS w5 g rm D T5.out.ok.k HDD.out HWf.out (by have := HWl.out; omega) log (sz : Int)
      unfold RPostS ptrD at hct
      obtain ⟨ec, hec⟩ : ∃ ec, (cutD D log (sz : Int)).2 = ec := ⟨_, rfl⟩
      have HEc := Lib.hid hec
      rw [hec] at hct
      clear hec
      rcases hE with hE | hE
      · have HE := Lib.hid hE
        go_wp2_with (first
          | (go_at_call 25; refine hct.mono ?_; rintro e w6 ⟨n6, rm6, rfl, hn6, ht6, hd6⟩; obtain rfl := hn6.symm; have T6 := Lib.hid ht6; have D6 := Lib.hid hd6; clear ht6 hd6 hn6; (have T56 := Lib.hid (T5.out.trans (RlTo.disk T5.out.ok T6.out D6.out HWR.out))))
          | (go_at_call 24; refine (rdone_any w6 g rm6 q _ _ T56.out.ok (by have := HWc.out _ D6.out; omega) ec).mono ?_; unfold RStlPost; rw [← HEc.out, HR.out, HE.out]; rintro e w7 ⟨rfl, rm7, ht7⟩; have T7 := Lib.hid (T56.out.trans ht7); clear ht7))
        go_ret2
        have T7b := T7.out.ok
        rw [HO.out]
        refine ⟨rm7, T7b.r, HTD.out T7.out, .inr ⟨HE.out, q, _, rfl, HOpd.out ?_⟩⟩
        rw [HO.out]
        simpa using T7b
      · have HE := Lib.hid hE
        go_wp2_with (first
          | (go_at_call 25; refine hct.mono ?_; rintro e w6 ⟨n6, rm6, rfl, hn6, ht6, hd6⟩; obtain rfl := hn6.symm; have T6 := Lib.hid ht6; have D6 := Lib.hid hd6; clear ht6 hd6 hn6; (have T56 := Lib.hid (T5.out.trans (RlTo.disk T5.out.ok T6.out D6.out HWR.out))))
          | (go_at_call 24; refine (rdone_any w6 g rm6 q _ _ T56.out.ok (by have := HWc.out _ D6.out; omega) ec).mono ?_; unfold RStlPost; rw [← HEc.out, HR.out, HE.out]; rintro e w7 ⟨rfl, rm7, ht7⟩; have T7 := Lib.hid (T56.out.trans ht7); clear ht7))
        go_ret2
        rw [HO.out]
        exact ⟨rm7, T7.out.ok.r, HTD.out T7.out, .inl ⟨by rw [HE.out]; decide, by rw [HE.out]; rfl⟩⟩
    · have hlt2 : ¬ (sz : Int) < (l1.length : Int) := by omega
      have hlt3 : decide ((sz : Int) < (l1.length : Int)) = false := decide_eq_false hlt2
      rw [if_neg hlt] at HO
      clear hlt
      go_wp2
      go_ret2
      have T7b := T5.out.ok
      rw [HO.out]
      refine ⟨rm, HDD.out, HTD.out T5.out, Or.inr (And.intro rfl ?_)⟩
      exact ⟨q, rfl, _, HOpd.out (by rw [HO.out]; exact T7b)⟩
end Go.Proofs.YthamlphebnhcpaaDoor

namespace Go.Proofs.YthamlphebnhcpaaDoor
open Go.RowKit

def RPutPost (w : World) (g : Nat) (rm : RfM) (q : Nat) (m : WlM) (R : DkD × LgD × Int) (e : Ending) (w' : World) : Prop := e = .returned (.int .i64 R.2.2) ∧ ∃ rm' m', m'.d = R.2.1 ∧ RlTo w g rm q m w' rm' m' R.1
theorem RelR.Wl {D : DkD} {m : RfM} (h : RelR D m) : m.W.length = D.W.length := by have := congrArg List.length h.w; rw [List.length_map] at this; exact this.symm
/-- One batch more. -/
theorem RlTo.more {w w4 w8 : World} {g q : Nat} {rm : RfM} {m : WlM} {D : DkD} (h : RlPair w g rm q m D) {A8 A9 : Option Addr} {c8 c9 : Nat} {x : List UInt8}
    (v4 : Below w.heap.size w w4) (ho9 : (⟨A9, c9, x⟩ : RowM).own w4) (hb9 : ∀ j, (⟨A9, c9, x⟩ : RowM).bk = some j → w.heap.size ≤ j)
    (ho8 : w8.ownsRow 0 39 1 (.slice A8 (m.rows.length + 1) c8) (m.rows.length + 1) (rowsC m.rows ++ [.slice A9 x.length c9])) (k8 : Keeps (fun j => (Value.slice m.A m.rows.length m.c).ownBlock = some j) w4 w8)
    (hat : (Value.slice A8 (m.rows.length + 1) c8).ownBlock = (Value.slice m.A m.rows.length m.c).ownBlock ∨ ∃ j, (Value.slice A8 (m.rows.length + 1) c8).ownBlock = some j ∧ w4.heap.size ≤ j) :
    RlTo w g rm q m (w8.setCell ⟨q, 2, none⟩ (.slice A8 (m.rows.length + 1) c8)) rm { m with rows := m.rows ++ [⟨A9, c9, x⟩], A := A8, c := c8 } D := by
  have hz4 := v4.size
  have hz8 := k8.size
  have hl4 : RlOk w4 q g m := h.l.below v4
  have hB8 : Blk w8 q 45 (wlC g m).toArray := hl4.b.keeps k8 (fun e => hl4.b.notOwn hl4.ww (by decide) e.symm)
  have hblk : ∀ j, (Value.slice m.A m.rows.length m.c).ownBlock = some j → m.A.map (·.block) = some j := fun j hj => by rw [own_blkD] at hj; exact hj
  have hap : ∀ {r : RowM}, r.own w4 → ∀ j, r.bk = some j → ¬ (Value.slice m.A m.rows.length m.c).ownBlock = some j := fun hr j hj => own_apart hr hl4.ww (by decide) j (by rw [RowM.v, own_blkD]; exact hj)
  have hlen : (m.rows ++ [(⟨A9, c9, x⟩ : RowM)]).length = m.rows.length + 1 := by rw [List.length_append]; rfl
  have kq : Keeps (fun j => j = q) w8 (w8.setCell ⟨q, 2, none⟩ (.slice A8 (m.rows.length + 1) c8)) := Keeps.setCell (S := fun j => j = q) (p := ⟨q, 2, none⟩) (Keeps.refl _ _) rfl _
  have hq9 : ∀ {r : RowM}, r.own w8 → ∀ j, r.bk = some j → ¬ j = q := fun hr j hj e => by
    subst e
    have h3 := hB8.notOwn hr (by decide)
    rw [RowM.v, own_blkD] at h3
    exact h3 hj.symm
  refine RlTo.log h ⟨?_, ?_, ?_⟩ (((Keeps.of_below v4 _).trans (k8.mono (fun j _ hj => .inr (hblk j hj)))).trans (kq.mono (fun j _ hj => .inl hj))) (fun j hj => ?_) (fun j hj => ?_)
  · have := hB8.set 2 (.slice A8 (m.rows.length + 1) c8)
    have e : (wlC g { m with rows := m.rows ++ [⟨A9, c9, x⟩], A := A8, c := c8 }).toArray = (wlC g m).toArray.setIfInBounds 2 (.slice A8 (m.rows.length + 1) c8) := by
      show (#[_, _, .slice A8 (m.rows ++ [(⟨A9, c9, x⟩ : RowM)]).length c8, _, _] : Array Value) = _
      rw [hlen]; rfl
    rw [e]; exact this
  · show World.ownsRow _ 0 _ 1 (.slice A8 (m.rows ++ [(⟨A9, c9, x⟩ : RowM)]).length c8) (m.rows ++ [(⟨A9, c9, x⟩ : RowM)]).length (rowsC (m.rows ++ [(⟨A9, c9, x⟩ : RowM)]))
    rw [hlen, rowsC_snoc]
    exact own_keep ho8 kq (fun j hj e => by subst e; exact hB8.notOwn ho8 (by decide) hj.symm)
  · intro r hr
    have h8 : r.own w8 := by
      rcases List.mem_append.1 hr with hr | hr
      · exact RowM.keep (hl4.o r hr) k8 (fun j hj e => hap (hl4.o r hr) j hj e)
      · rw [List.mem_singleton.1 hr]
        exact RowM.keep ho9 k8 (fun j hj e => hap ho9 j hj e)
    exact RowM.keep h8 kq (fun j hj e => hq9 h8 j hj e)
  · rcases hj with hj | hj
    · exact .inl (.inl hj)
    · rcases hat with e | ⟨j2, e, hj2⟩
      · rw [own_blkD, own_blkD] at e
        exact .inl (.inr (e ▸ hj))
      · rw [own_blkD] at e
        rw [show (A8.map (·.block)) = some j from hj] at e
        injection e with e
        exact .inr (by omega)
  · obtain ⟨r, hr, hb⟩ := hj
    rcases List.mem_append.1 hr with hr | hr
    · exact .inl ⟨r, hr, hb⟩
    · rw [List.mem_singleton.1 hr] at hb
      exact .inr (hb9 j hb)
/-- No batch. -/
theorem RlTo.empt {w : World} {g q : Nat} {rm : RfM} {m : WlM} {D : DkD} (h : RlPair w g rm q m D) : RlTo w g rm q m ((w.setCell ⟨q, 2, none⟩ (.slice none 0 0)).setCell ⟨q, 3, none⟩ (.int .i64 0)) rm { m with rows := [], A := none, c := 0, size := 0 } D := by
  have k : Keeps (fun j => j = q) w ((w.setCell ⟨q, 2, none⟩ (.slice none 0 0)).setCell ⟨q, 3, none⟩ (.int .i64 0)) := Keeps.setCell (S := fun j => j = q) (p := ⟨q, 3, none⟩) (Keeps.setCell (S := fun j => j = q) (p := ⟨q, 2, none⟩) (Keeps.refl _ _) rfl _) rfl _
  exact RlTo.log h ⟨(h.l.b.set 2 _).set 3 _, World.ownsRow_nil _ _ _ _, fun r hr => by cases hr⟩ (k.mono (fun j _ hj => .inl hj)) (fun j hj => hj.elim (fun h => .inl (.inl h)) (fun h => by cases h)) (fun j ⟨r, hr, _⟩ => by cases hr)
theorem WlTo.empt {w : World} {d q : Nat} {dm : DkM} {m : WlM} (h : PairW w d dm q m) : WlTo w d dm q m ((w.setCell ⟨q, 2, none⟩ (.slice none 0 0)).setCell ⟨q, 3, none⟩ (.int .i64 0)) dm { m with rows := [], A := none, c := 0, size := 0 } := by
  have k : Keeps (fun j => j = q) w ((w.setCell ⟨q, 2, none⟩ (.slice none 0 0)).setCell ⟨q, 3, none⟩ (.int .i64 0)) := Keeps.setCell (S := fun j => j = q) (p := ⟨q, 3, none⟩) (Keeps.setCell (S := fun j => j = q) (p := ⟨q, 2, none⟩) (Keeps.refl _ _) rfl _) rfl _
  exact WlTo.log h ⟨(h.l.b.set 2 _).set 3 _, World.ownsRow_nil _ _ _ _, fun r hr => by cases hr⟩ (k.mono (fun j _ hj => .inl hj)) (fun j hj => hj.elim (fun h => .inl (.inl h)) (fun h => by cases h)) (fun j ⟨r, hr, _⟩ => by cases hr)

set_option maxHeartbeats 4000000 in
set_option maxRecDepth 100000 in
theorem rput_any (w : World) (hT : Tabs w) (g : Nat) (rm : RfM) (q : Nat) (m : WlM) (D : DkD) (h : RlPair w g rm q m D) (hW : D.W.length ≤ 900) (hr : m.rows.length ≤ 1000000000) (hz : m.size ≤ 1000000000000) (A : Option Addr) (c : Nat) (b : List UInt8) (hS : Sees w w.heap.size A b) (hbc : b.length ≤ c) (hb : b.length ≤ 1000000) (hoff : b ≠ [] → ∀ a, A = some a → ¬ footL g rm q m a.block) :
    Calls Tryd.prog 26 #[.pointer (some ⟨q, 0, none⟩), .slice A b.length c] w (RPutPost w g rm q m (putW D m.d b)) := by
  have H := Lib.hid h
  have HT := Lib.hid hT
  have HWl := Lib.hid hW
  have HRn := Lib.hid hr
  have HZ := Lib.hid hz
  have HS := Lib.hid hS
  have HBc := Lib.hid hbc
  have HOff := Lib.hid hoff
  have HBl : Hid (b.length ≤ 1000000) := hb
  have c4 : w.cell? ⟨q, 4, none⟩ = some (.bool m.dead) := h.l.b.cell 4
  have c2 : w.cell? ⟨q, 2, none⟩ = some (.slice m.A m.rows.length m.c) := h.l.b.cell 2
  unfold RPutPost
  by_cases hd : m.dead = true
  · have HP : Hid (putW D m.d b = (D, m.d, 20)) := by show _ = _; unfold putW; rw [if_pos (show m.d.dead = true from hd)]
    rw [hd] at c4
    clear h hT hW hr hz hS hbc hoff hd c2
    go_enter Tryd.func26, Tryd.ntmps26
    go_wp2
    go_ret
    rw [HP.out]
    exact ⟨rfl, rm, m, rfl, RlTo.refl H.out⟩
  have hdf : m.dead = false := by simpa using hd
  have hl2 : ¬ (4194304 : Int) < (b.length : Int) := by omega
  obtain ⟨N, hN⟩ : ∃ N, m.rows.length + 1 = N := ⟨_, rfl⟩
  have hwi : IntKind.i64.wrap ((m.rows.length : Int) + 1) = (m.rows.length : Int) + 1 := by rw [IntKind.wrap_i64]; omega
  have hnz : IntKind.u64.wrap ((m.rows.length : Int) + 1) = (N : Int) := by rw [IntKind.wrap_u64]; omega
  have hN64 : N < 18446744073709551616 := by omega
  have hrec := rrec_any w hT N hN64 A c b hS hb hbc
  have hRl := recB_len N b
  obtain ⟨R, hR⟩ : ∃ R, recB N b = R := ⟨_, rfl⟩
  have HR := Lib.hid hR
  unfold OwnPost at hrec
  rw [hR] at hrec hRl
  have HRl := Lib.hid hRl
  have hNd : m.d.all.length + 1 = N := by rw [← hN]; show (m.rows.map (·.l)).length + 1 = _; rw [List.length_map]
  have HP0 : Hid (putW D m.d b = if (appendD D m.log R).2 = 8 then ((appendD D m.log R).1, m.d, 8) else if (stlD (appendD D m.log R).1 (appendD D m.log R).2).2 = 0 then ((stlD (appendD D m.log R).1 (appendD D m.log R).2).1, ⟨m.log, m.d.all ++ [b], m.size + R.length, false⟩, 0) else ((stlD (appendD D m.log R).1 (appendD D m.log R).2).1, ⟨m.log, m.d.all, m.size, true⟩, 19)) := by
    show _ = _
    unfold putW
    rw [if_neg (show ¬ m.d.dead = true from hd), if_neg (by omega), hNd, hR]
    rfl
  obtain ⟨AP, hAP⟩ : ∃ AP, appendD D m.log R = AP := ⟨_, rfl⟩
  have HAP := Lib.hid hAP
  have HAW : Hid (AP.1.W.length ≤ 901) := by
    have h1 := appendD_Wl D m.log R
    rw [hAP] at h1
    show _ ≤ _
    omega
  have HAf : Hid (DkWf AP.1) := by show DkWf _; rw [← hAP]; exact appendD_wf h.wf _ _
  rw [hAP] at HP0
  obtain ⟨SP, hSP⟩ : ∃ SP, stlD AP.1 AP.2 = SP := ⟨_, rfl⟩
  have HSP := Lib.hid hSP
  have hE := stlD_2 AP.1 AP.2
  rw [hSP] at HP0 hE
  have HN1 := Lib.hid hN
  rw [hdf] at c4
  clear h hT hW hr hz hS hbc hoff hd hAP hSP hR hNd hRl hN hN64 hb
  go_enter Tryd.func26, Tryd.ntmps26
  go_upto_region 6 with (first
    | (go_at_call 50; refine hrec.mono ?_; rintro e w1 ⟨A1, c1, rfl, ho1, hb1⟩; have O1 : Hid (Sees w1 w1.heap.size A1 R) := Sees.own ho1; have V1 := Lib.hid hb1; clear ho1 hb1))
  have T1 : Hid (RlTo w g rm q m w1 rm m D) := RlTo.below H.out V1.out
  have C0 : Hid (w1.cell? ⟨q, 0, none⟩ = some (.pointer (some ⟨g, 0, none⟩))) := T1.out.ok.l.b.cell 0
  have C1 : Hid (w1.cell? ⟨q, 1, none⟩ = some (.int .i64 m.log)) := T1.out.ok.l.b.cell 1
  have HSb : Hid (Sees w1 w1.heap.size A b) := (HS.out.later V1.out).more V1.out.size
  have hap := rappend_anyS w1.drew g rm D T1.out.ok.k.drew T1.out.ok.r T1.out.ok.wf (by rw [T1.out.ok.r.Wl]; have := HWl.out; omega) m.log A1 R c1 O1.out (by have := HRl.out; have := HBl.out; omega)
  rw [HAP.out] at hap
  unfold RPostS ptrD at hap
  have HApp := Lib.hid hap
  clear c4 c2 hrec hap
  refine wp_region_held_drew (S := fun W => W.cell? ⟨q, 0, none⟩ = some (.pointer (some ⟨g, 0, none⟩)) ∧ W.cell? ⟨q, 1, none⟩ = some (.int .i64 m.log)) (by kernel_rfl) ⟨C0.out, C1.out⟩ (fun hHeld => ?_)
  refine wpAnyH_take (i := 0) (oi := ⟨_, _, _, _, _, _⟩) (v := ?_) rfl (by kernel_rfl) (by kernel_rfl) (by kernel_rfl) (fun _ _ _ h => h) (Or.inl ⟨by rfl, ?_⟩) (by assumption) ?_
  rotate_left 1
  · intro W hSw
    try dsimp only at hSw
    obtain ⟨hs1, hs2⟩ := hSw
    go_simp
    try with_reducible rfl
  try simp only [Act.put, List.setIfInBounds_toArray, List.set_cons_zero, List.set_cons_succ]
  refine wpAnyH_take (i := 1) (oi := ⟨_, _, _, _, _, _⟩) (v := ?_) rfl (by kernel_rfl) (by kernel_rfl) (by kernel_rfl) (fun _ _ _ h => h) (Or.inl ⟨by rfl, ?_⟩) (by assumption) ?_
  rotate_left 1
  · intro W hSw
    try dsimp only at hSw
    obtain ⟨hs1, hs2⟩ := hSw
    go_simp
    try with_reducible rfl
  try simp only [Act.put, List.setIfInBounds_toArray, List.set_cons_zero, List.set_cons_succ]
  refine wpAnyH_take (i := 2) (oi := ⟨_, _, _, _, _, _⟩) (v := ?_) rfl (by kernel_rfl) (by kernel_rfl) (by kernel_rfl) (fun _ _ _ h => h) (Or.inl ⟨by rfl, ?_⟩) (by assumption) ?_
  rotate_left 1
  · intro W hSw
    try dsimp only at hSw
    obtain ⟨hs1, hs2⟩ := hSw
    go_simp
    try with_reducible rfl
  try simp only [Act.put, List.setIfInBounds_toArray, List.set_cons_zero, List.set_cons_succ]
  refine wpAnyH_take (i := 3) (oi := ⟨_, _, _, _, _, _⟩) (v := ?_) rfl (by kernel_rfl) (by kernel_rfl) (by kernel_rfl) (fun _ _ _ h => h) (Or.inl ⟨by rfl, ?_⟩) (by assumption) ?_
  rotate_left 1
  · intro W hSw
    try dsimp only at hSw
    obtain ⟨hs1, hs2⟩ := hSw
    go_simp
    try with_reducible rfl
  try simp only [Act.put, List.setIfInBounds_toArray, List.set_cons_zero, List.set_cons_succ]
  refine wpAnyH_take (i := 4) (oi := ⟨_, _, _, _, _, _⟩) (v := ?_) rfl (by kernel_rfl) (by kernel_rfl) (by kernel_rfl) (fun _ _ _ h => h) (Or.inl ⟨by rfl, ?_⟩) (by assumption) ?_
  rotate_left 1
  · intro W hSw
    try dsimp only at hSw
    obtain ⟨hs1, hs2⟩ := hSw
    go_simp
    try with_reducible rfl
  try simp only [Act.put, List.setIfInBounds_toArray, List.set_cons_zero, List.set_cons_succ]
  refine wpAnyH_take (i := 5) (oi := ⟨_, _, _, _, _, _⟩) (v := ?_) rfl (by kernel_rfl) (by kernel_rfl) (by kernel_rfl) (fun _ _ _ h => h) (Or.inl ⟨by rfl, ?_⟩) (by assumption) ?_
  rotate_left 1
  · intro W hSw
    try dsimp only at hSw
    obtain ⟨hs1, hs2⟩ := hSw
    go_simp
    try with_reducible rfl
  try simp only [Act.put, List.setIfInBounds_toArray, List.set_cons_zero, List.set_cons_succ]
  refine wpAnyH_take (i := 6) (oi := ⟨_, _, _, _, _, _⟩) (v := ?_) rfl (by kernel_rfl) (by kernel_rfl) (by kernel_rfl) (fun _ _ _ h => h) (Or.inl ⟨by rfl, ?_⟩) (by assumption) ?_
  rotate_left 1
  · intro W hSw
    try dsimp only at hSw
    obtain ⟨hs1, hs2⟩ := hSw
    go_simp
    try with_reducible rfl
  try simp only [Act.put, List.setIfInBounds_toArray, List.set_cons_zero, List.set_cons_succ]
  refine wpAnyH_take (i := 7) (oi := ⟨_, _, _, _, _, _⟩) (v := ?_) rfl (by kernel_rfl) (by kernel_rfl) (by kernel_rfl) (fun _ _ _ h => h) (Or.inl ⟨by rfl, ?_⟩) (by assumption) ?_
  rotate_left 1
  · intro W hSw
    try dsimp only at hSw
    obtain ⟨hs1, hs2⟩ := hSw
    go_simp
    try with_reducible rfl
  try simp only [Act.put, List.setIfInBounds_toArray, List.set_cons_zero, List.set_cons_succ]
  refine wpAnyH_take (i := 8) (oi := ⟨_, _, _, _, _, _⟩) (v := ?_) rfl (by kernel_rfl) (by kernel_rfl) (by kernel_rfl) (fun _ _ _ h => h) (Or.inl ⟨by rfl, ?_⟩) (by assumption) ?_
  rotate_left 1
  · intro W hSw
    try dsimp only at hSw
    obtain ⟨hs1, hs2⟩ := hSw
    go_simp
    try with_reducible rfl
  try simp only [Act.put, List.setIfInBounds_toArray, List.set_cons_zero, List.set_cons_succ]
  refine wpAnyH_ready (rs := [9]) (by kernel_rfl) (by simp) ?_
  refine AllReadyH.cons rfl (fun K hK => ?_) AllReadyH.nil
  go_simp
  go_at_call 53
  refine HApp.out.mono ?_
  rintro e w2 ⟨n2, rm2, rfl, hn2, ht2, hd2⟩
  obtain rfl := hn2.symm
  have T2 : Hid (RlTo w g rm q m w2 rm2 m AP.1) := T1.out.trans (RlTo.disk T1.out.ok ht2.undrew hd2 HAf.out)
  clear ht2 hd2 hn2
  refine hK.out _ _ ⟨T2.out.ok.l.b.cell 0, T2.out.ok.l.b.cell 1⟩ (fun hSn => ?_)
  clear hK K
  try simp only [Act.put, List.setIfInBounds_toArray, List.set_cons_zero, List.set_cons_succ]
  refine wpAnyH_take (i := 10) (oi := ⟨_, _, _, _, _, _⟩) (v := ?_) rfl (by kernel_rfl) (by kernel_rfl) (by kernel_rfl) (fun _ _ _ h => h) (Or.inl ⟨by rfl, ?_⟩) (by assumption) ?_
  rotate_left 1
  · intro W hSw
    try dsimp only at hSw
    obtain ⟨hs1, hs2⟩ := hSw
    go_simp
    try with_reducible rfl
  try simp only [Act.put, List.setIfInBounds_toArray, List.set_cons_zero, List.set_cons_succ]
  refine wpAnyH_done (by kernel_rfl) ?_ _
  clear hHeld hSn
  by_cases h8 : AP.2 = 8
  · rw [if_pos h8] at HP0
    go_wp2
    go_ret
    rw [HP0.out]
    exact ⟨rfl, rm2, m, rfl, T2.out⟩
  have h8b : (AP.2 == 8) = false := beq_eq_false_iff_ne.2 h8
  rw [if_neg h8] at HP0
  have hst := rdone_any w2 g rm2 q m AP.1 T2.out.ok (by rw [T2.out.ok.r.Wl]; have := HAW.out; omega) AP.2
  rw [HSP.out] at hst
  unfold RStlPost at hst
  clear h8
  rcases hE with hE | hE
  · rw [hE] at hst
    rw [if_pos hE] at HP0
    have HSt := Lib.hid hst
    clear hst
    have HSz : Hid (m.size ≤ 1000000000000 ∧ R.length ≤ 4194324) := ⟨HZ.out, by have := HRl.out; have := HBl.out; omega⟩
    obtain ⟨ap, hap⟩ : ∃ x, AP.2 = x := ⟨_, rfl⟩
    rw [hap] at h8b HSt ⊢
    clear hap
    go_upto_region 11 with (first
      | (go_at_call 24; refine HSt.out.mono ?_; rintro e w3 ⟨rfl, rm3, ht3⟩; have T3 : Hid (RlTo w g rm q m w3 rm3 { m with dead := m.dead || decide ((0 : Int) ≠ 0) } SP.1) := T2.out.trans ht3; clear ht3))
    have HM3 : Hid (({ m with dead := m.dead || decide ((0 : Int) ≠ 0) } : WlM) = m) := by show _ = _; cases m; simp
    have T3' : Hid (RlTo w g rm q m w3 rm3 m SP.1) := by have h := T3.out; rw [HM3.out] at h; exact h
    clear T3 HM3
    have P3 : Hid (RlPair w3 g rm3 q m SP.1) := T3'.out.ok
    have C2 : Hid (w3.cell? ⟨q, 2, none⟩ = some (.slice m.A m.rows.length m.c)) := P3.out.l.b.cell 2
    have SB3 : Hid (Sees w3 w3.heap.size A b) := HS.out.offW T3'.out.k (fun hne a ha => HOff.out hne a ha)
    obtain ⟨i0, hi0, hz0, hz1, hz2⟩ := infoD Tryd.slInfo
    have HI0 := Lib.hid hi0
    obtain ⟨j0, hj0, hy0, hy1, hy2⟩ := infoD Tryd.u8info
    have HJ0 := Lib.hid hj0
    have hbl : b.length ≤ 1000000 := HBl.out
    have hrn : m.rows.length ≤ 1000000000 := HRn.out
    clear hi0 hj0
    refine wp_region_K (fun W => W.cell? ⟨q, 2, none⟩ = some (.slice m.A m.rows.length m.c)) 11 (by kernel_rfl) C2.out (fun hSn => ?_)
    refine wpAnyK_pure (i := 0) (oi := ⟨_, _, _, _, _, _⟩) (v := ?_) rfl (by kernel_rfl) (by kernel_rfl) (by kernel_rfl) rfl (fun _ _ _ h => h) (Or.inl ⟨by rfl, ?_⟩) hSn ?_
    rotate_left 1
    · intro W hSw
      go_simp
      try with_reducible rfl
    replace hSn := (KT.set (i := 0) (by decide)).2 hSn
    try simp only [Act.put, List.setIfInBounds_toArray, List.set_cons_zero, List.set_cons_succ]
    refine wpAnyK_pure (i := 1) (oi := ⟨_, _, _, _, _, _⟩) (v := ?_) rfl (by kernel_rfl) (by kernel_rfl) (by kernel_rfl) rfl (fun _ _ _ h => h) (Or.inl ⟨by rfl, ?_⟩) hSn ?_
    rotate_left 1
    · intro W hSw
      go_simp
      try with_reducible rfl
    replace hSn := (KT.set (i := 1) (by decide)).2 hSn
    try simp only [Act.put, List.setIfInBounds_toArray, List.set_cons_zero, List.set_cons_succ]
    refine wpAnyK_pure (i := 2) (oi := ⟨_, _, _, _, _, _⟩) (v := ?_) rfl (by kernel_rfl) (by kernel_rfl) (by kernel_rfl) rfl (fun _ _ _ h => h) (Or.inl ⟨by rfl, ?_⟩) hSn ?_
    rotate_left 1
    · intro W hSw
      go_simp
      try with_reducible rfl
    replace hSn := (KT.set (i := 2) (by decide)).2 hSn
    try simp only [Act.put, List.setIfInBounds_toArray, List.set_cons_zero, List.set_cons_succ]
    refine wpAnyK_pure (i := 3) (oi := ⟨_, _, _, _, _, _⟩) (v := ?_) rfl (by kernel_rfl) (by kernel_rfl) (by kernel_rfl) rfl (fun _ _ _ h => h) (Or.inl ⟨by rfl, ?_⟩) hSn ?_
    rotate_left 1
    · intro W hSw
      go_simp
      try with_reducible rfl
    replace hSn := (KT.set (i := 3) (by decide)).2 hSn
    try simp only [Act.put, List.setIfInBounds_toArray, List.set_cons_zero, List.set_cons_succ]
    refine wpAnyK_chain (i := 4) [11] (oi := ⟨_, _, _, _, _, _⟩) (v := ?_) rfl (by kernel_rfl) (by kernel_rfl) (by kernel_rfl) rfl (by kernel_rfl) (by kernel_rfl) (by kernel_rfl) (fun _ _ _ h => h) (Or.inl ⟨by rfl, ?_⟩) hSn ?_
    rotate_left 1
    · intro W hSw
      try dsimp only at hSw
      have hs1 := hSw
      go_simp
      try with_reducible rfl
    replace hSn := (KT.set (i := 4) (by decide)).2 hSn
    try simp only [Act.put, List.setIfInBounds_toArray, List.set_cons_zero, List.set_cons_succ]
    refine wpAnyK_pure (i := 5) (oi := ⟨_, _, _, _, _, _⟩) (v := ?_) rfl (by kernel_rfl) (by kernel_rfl) (by kernel_rfl) rfl (fun _ _ _ h => h) (Or.inl ⟨by rfl, ?_⟩) hSn ?_
    rotate_left 1
    · intro W hSw
      go_simp
      try with_reducible rfl
    replace hSn := (KT.set (i := 5) (by decide)).2 hSn
    try simp only [Act.put, List.setIfInBounds_toArray, List.set_cons_zero, List.set_cons_succ]
    clear hSn
    refine wpAnyK_ready (rs := [6]) (by kernel_rfl) (by simp) ?_
    refine AllReadyK.cons rfl (fun K hK => ?_) AllReadyK.nil
    refine step_append_seesD (o := ⟨some 46, _, _, _, _, _⟩) rfl (.const (.slice none 0 0)) (.tmp 45) 39 rfl w3.heap.size 5 j0 _ Tryd.underlying39 HJ0.out hy0 hy1 hy2 rfl (.slice none 0 0) 0 [] rfl (World.ownsRow_nil _ _ _ _) w3.heap.size A b.length c b rfl rfl SB3.out (by omega) (Nat.le_refl _) ?_
    intro v4 w4 h1 h2 h3
    simp only [Nat.zero_add, List.nil_append] at h1
    obtain ⟨A9, c9, rfl⟩ := own_form h1
    have O9 := Lib.hid h1
    have V4 : Hid (Below w3.heap.size w3 w4) := (Keeps.grown (S := fun _ => False) (Keeps.refl _ w3).drew h2 (fun k e => by cases e)).below (Nat.le_refl _) (fun _ _ h => h)
    clear h1 h2 h3
    have N9 : Hid (∀ j, (⟨A9, c9, b⟩ : RowM).bk = some j → w3.heap.size ≤ j) := fun j hj => (O9.out.lt j (by rw [own_blkD]; exact hj)).1
    have P4 : Hid (RlPair w4 g rm3 q m SP.1) := P3.out.below V4.out
    have C24 : Hid (w4.cell? ⟨q, 2, none⟩ = some (.slice m.A m.rows.length m.c)) := P4.out.l.b.cell 2
    refine hK.out _ _ (fun _ => C24.out) (fun hSn => ?_)
    clear hK K
    try simp only [Act.put, List.setIfInBounds_toArray, List.set_cons_zero, List.set_cons_succ]
    clear hSn
    refine wpAnyK_ready (rs := [7]) (by kernel_rfl) (by simp) ?_
    refine AllReadyK.cons rfl (fun K hK => ?_) AllReadyK.nil
    go_simp
    have C25 : Hid ((w4.alloc (.cells #[.slice A9 b.length c9] 39)).cell? ⟨q, 2, none⟩ = some (.slice m.A m.rows.length m.c)) := (World.cell?_alloc_some w4 _ _ (by rw [C24.out]; rfl)).trans C24.out
    refine hK.out _ _ (fun _ => C25.out) (fun hSn => ?_)
    clear hK K
    try simp only [Act.put, List.setIfInBounds_toArray, List.set_cons_zero, List.set_cons_succ]
    have SA : Hid (SeesV (w4.alloc (.cells #[.slice A9 b.length c9] 39)) (w4.alloc (.cells #[.slice A9 b.length c9] 39)).heap.size (some ⟨w4.heap.size, 0, none⟩) [.slice A9 b.length c9]) := SeesV.blk (heap_alloc_new w4 _)
    have KA : Hid (Keeps (fun _ => False) w4 (w4.alloc (.cells #[.slice A9 b.length c9] 39))) := (Keeps.refl _ w4).alloc _
    have OA : Hid ((w4.alloc (.cells #[.slice A9 b.length c9] 39)).ownsRow 0 39 1 (.slice m.A m.rows.length m.c) m.rows.length (rowsC m.rows)) := P4.out.l.ww.alloc _
    have SZA : Hid (w4.heap.size ≤ (w4.alloc (.cells #[.slice A9 b.length c9] 39)).heap.size) := by show _ ≤ _; rw [World.size_alloc]; omega
    obtain ⟨WA, hWA⟩ : ∃ WA, w4.alloc (.cells #[.slice A9 b.length c9] 39) = WA := ⟨_, rfl⟩
    rw [hWA] at C25 KA SA OA SZA hSn ⊢
    obtain ⟨bA, hbA⟩ : ∃ bA, w4.heap.size = bA := ⟨_, rfl⟩
    have HbA := Lib.hid hbA
    rw [hbA] at SA ⊢
    clear hWA hbA
    clear hSn
    refine wpAnyK_ready (rs := [8]) (by kernel_rfl) (by simp) ?_
    refine AllReadyK.cons rfl (fun K hK => ?_) AllReadyK.nil
    refine step_append_seesV (o := ⟨some 48, _, _, _, _, _⟩) rfl (.tmp 44) (.tmp 47) 43 rfl 0 39 i0 _ 1 24 Tryd.underlying43 HI0.out hz0 hz1 hz2 rfl (by decide) (.slice m.A m.rows.length m.c) m.rows.length (rowsC m.rows) rfl OA.out WA.heap.size (some ⟨bA, 0, none⟩) 1 1 [.slice A9 b.length c9] rfl rfl SA.out (fun u hu => by rw [List.mem_singleton.1 hu]; rfl) (by omega) (by omega) (Nat.zero_le _) ?_
    intro v8 w8 ho8 hg8 hat8
    obtain ⟨A8, c8, rfl⟩ := own_form ho8
    have O8 := Lib.hid ho8
    have K8 : Hid (Keeps (fun j => (Value.slice m.A m.rows.length m.c).ownBlock = some j) w4 w8) := Keeps.grown (KA.out.mono (fun _ _ h => h.elim)) hg8 (fun j hj => hj)
    have N8 : Hid ((Value.slice A8 (m.rows.length + 1) c8).ownBlock = (Value.slice m.A m.rows.length m.c).ownBlock ∨ ∃ j, (Value.slice A8 (m.rows.length + 1) c8).ownBlock = some j ∧ w4.heap.size ≤ j) := hat8.imp id (fun e => ⟨_, e, SZA.out⟩)
    clear ho8 hg8 hat8
    have B8 : Hid (Blk w8 q 45 (wlC g m).toArray) := P4.out.l.b.keeps K8.out (fun e => P4.out.l.b.notOwn P4.out.l.ww (by decide) e.symm)
    have C28 : Hid (w8.cell? ⟨q, 2, none⟩ = some (.slice m.A m.rows.length m.c)) := B8.out.cell 2
    have f2 : w8.frozen? ⟨q, 2, none⟩ = false := B8.out.frozen 2
    have c2 : w8.cell? ⟨q, 2, none⟩ = some (.slice m.A m.rows.length m.c) := C28.out
    refine hK.out _ _ (fun _ => C28.out) (fun hSn => ?_)
    clear hK K
    try simp only [Act.put, List.setIfInBounds_toArray, List.set_cons_zero, List.set_cons_succ]
    refine wpAnyK_pure (i := 9) (oi := ⟨_, _, _, _, _, _⟩) (v := ?_) rfl (by kernel_rfl) (by kernel_rfl) (by kernel_rfl) rfl (fun _ _ _ h => h) (Or.inl ⟨by rfl, ?_⟩) hSn ?_
    rotate_left 1
    · intro W hSw
      go_simp
      try with_reducible rfl
    replace hSn := (KT.set (i := 9) (by decide)).2 hSn
    try simp only [Act.put, List.setIfInBounds_toArray, List.set_cons_zero, List.set_cons_succ]
    refine wpAnyK_pure (i := 10) (oi := ⟨_, _, _, _, _, _⟩) (v := ?_) rfl (by kernel_rfl) (by kernel_rfl) (by kernel_rfl) rfl (fun _ _ _ h => h) (Or.inl ⟨by rfl, ?_⟩) hSn ?_
    rotate_left 1
    · intro W hSw
      go_simp
      try with_reducible rfl
    replace hSn := (KT.set (i := 10) (by decide)).2 hSn
    try simp only [Act.put, List.setIfInBounds_toArray, List.set_cons_zero, List.set_cons_succ]
    clear hSn
    refine wpAnyK_ready (rs := [11]) (by kernel_rfl) (by simp) ?_
    refine AllReadyK.cons rfl (fun K hK => ?_) AllReadyK.nil
    go_simp
    skip
    refine hK.out _ _ (fun h => absurd h (by decide +kernel)) (fun hSn => ?_)
    clear hK K
    try simp only [Act.put, List.setIfInBounds_toArray, List.set_cons_zero, List.set_cons_succ]
    refine wpAnyK_done (by kernel_rfl) ?_ _
    clear hSn
    have T9 : Hid (RlTo w g rm q m (w8.setCell ⟨q, 2, none⟩ (.slice A8 (m.rows.length + 1) c8)) rm3 { m with rows := m.rows ++ [⟨A9, c9, b⟩], A := A8, c := c8 } SP.1) := T3'.out.trans (RlTo.more P3.out V4.out (own_lessR O9.out (Nat.zero_le _)) N9.out O8.out K8.out N8.out)
    obtain ⟨w9, hw9⟩ : ∃ x, w8.setCell ⟨q, 2, none⟩ (.slice A8 (m.rows.length + 1) c8) = x := ⟨_, rfl⟩
    rw [hw9] at T9 ⊢
    have B9 : Hid (Blk w9 q 45 (wlC g { m with rows := m.rows ++ [⟨A9, c9, b⟩], A := A8, c := c8 }).toArray) := T9.out.ok.l.b
    have c3 : w9.cell? ⟨q, 3, none⟩ = some (.int .i64 (m.size : Int)) := B9.out.cell 3
    have f3 : w9.frozen? ⟨q, 3, none⟩ = false := B9.out.frozen 3
    have hsz : IntKind.i64.wrap ((m.size : Int) + (R.length : Int)) = ((m.size + R.length : Nat) : Int) := by rw [IntKind.wrap_i64]; have := HSz.out; omega
    clear f2 c2 hw9
    go_wp2
    go_ret
    rw [HP0.out]
    refine ⟨rfl, rm3, { m with rows := m.rows ++ [⟨A9, c9, b⟩], A := A8, c := c8, size := m.size + R.length }, ?_, T9.out.trans (RlTo.cells T9.out.ok rfl rfl rfl ?_ (Keeps.setCell (S := fun j => j = q) (p := ⟨q, 3, none⟩) (Keeps.refl _ _) rfl _))⟩
    · show (⟨_, (m.rows ++ [(⟨A9, c9, b⟩ : RowM)]).map (·.l), _, m.dead⟩ : LgD) = _
      rw [List.map_append, hdf]; rfl
    · exact B9.out.set 3 _
  · rw [hE] at hst
    rw [if_neg (by rw [hE]; decide)] at HP0
    have HSt := Lib.hid hst
    clear hst
    obtain ⟨ap, hap⟩ : ∃ x, AP.2 = x := ⟨_, rfl⟩
    rw [hap] at h8b HSt ⊢
    clear hap
    go_wp2_with (first
      | (go_at_call 24; refine HSt.out.mono ?_; rintro e w3 ⟨rfl, rm3, ht3⟩; have T3 : Hid (RlTo w g rm q m w3 rm3 { m with dead := m.dead || decide ((19 : Int) ≠ 0) } SP.1) := T2.out.trans ht3; clear ht3))
    go_ret
    rw [HP0.out]
    exact ⟨rfl, rm3, _, by show (⟨_, _, _, m.dead || decide ((19 : Int) ≠ 0)⟩ : LgD) = _; rw [decide_eq_true (by decide), Bool.or_true]; rfl, T3.out⟩

set_option maxHeartbeats 4000000 in
set_option maxRecDepth 100000 in
theorem rempty_any (w : World) (g : Nat) (rm : RfM) (q : Nat) (m : WlM) (D : DkD) (h : RlPair w g rm q m D) (hW : D.W.length ≤ 900) :
    Calls Tryd.prog 28 #[.pointer (some ⟨q, 0, none⟩)] w (RPutPost w g rm q m (emptyW D m.d)) := by
  have H := Lib.hid h
  have HWl := Lib.hid hW
  have c4 : w.cell? ⟨q, 4, none⟩ = some (.bool m.dead) := h.l.b.cell 4
  unfold RPutPost
  by_cases hd : m.dead = true
  · have HP : Hid (emptyW D m.d = (D, m.d, 20)) := by show _ = _; unfold emptyW; rw [if_pos (show m.d.dead = true from hd)]
    rw [hd] at c4
    clear h hW hd
    go_enter Tryd.func28, Tryd.ntmps28
    go_wp2
    go_ret
    rw [HP.out]
    exact ⟨rfl, rm, m, rfl, RlTo.refl H.out⟩
  have hdf : m.dead = false := by simpa using hd
  have HP0 : Hid (emptyW D m.d = if (stlD (cutD D m.log 0).1 (cutD D m.log 0).2).2 = 0 then ((stlD (cutD D m.log 0).1 (cutD D m.log 0).2).1, ⟨m.log, [], 0, false⟩, 0) else ((stlD (cutD D m.log 0).1 (cutD D m.log 0).2).1, ⟨m.log, m.d.all, m.size, true⟩, 19)) := by
    show _ = _
    unfold emptyW
    rw [if_neg (show ¬ m.d.dead = true from hd)]
    rfl
  obtain ⟨AP, hAP⟩ : ∃ AP, cutD D m.log 0 = AP := ⟨_, rfl⟩
  have HAP := Lib.hid hAP
  have HAW : Hid (AP.1.W.length ≤ 901) := by
    have h1 := cutD_Wl D m.log 0
    rw [hAP] at h1
    show _ ≤ _
    omega
  have HAf : Hid (DkWf AP.1) := by show DkWf _; rw [← hAP]; exact cutD_wf' h.wf _ _
  rw [hAP] at HP0
  obtain ⟨SP, hSP⟩ : ∃ SP, stlD AP.1 AP.2 = SP := ⟨_, rfl⟩
  have HSP := Lib.hid hSP
  have hE := stlD_2 AP.1 AP.2
  rw [hSP] at HP0 hE
  rw [hdf] at c4
  clear hAP hSP
  have C0 : Hid (w.cell? ⟨q, 0, none⟩ = some (.pointer (some ⟨g, 0, none⟩))) := h.l.b.cell 0
  have C1 : Hid (w.cell? ⟨q, 1, none⟩ = some (.int .i64 m.log)) := h.l.b.cell 1
  have hap := rcut_anyS w.drew g rm D h.k.drew h.r h.wf (by rw [h.r.Wl]; omega) m.log 0
  rw [HAP.out] at hap
  unfold RPostS ptrD at hap
  have HApp := Lib.hid hap
  clear hap h hW hd
  have HSt : Hid (∀ (W : World) (rm2 : RfM), RlPair W g rm2 q m AP.1 → Calls Tryd.prog 24 #[.pointer (some ⟨q, 0, none⟩), .int .i64 AP.2] W (RStlPost W g rm2 q m SP)) := fun W rm2 hp => by
    have h1 := rdone_any W g rm2 q m AP.1 hp (by rw [hp.r.Wl]; have := HAW.out; omega) AP.2
    rw [HSP.out] at h1
    exact h1
  unfold RStlPost at HSt
  obtain ⟨ap, hap⟩ : ∃ x, AP.2 = x := ⟨_, rfl⟩
  rw [hap] at HSt HApp
  clear hap
  rcases hE with hE | hE
  · rw [hE] at HSt
    rw [if_pos hE] at HP0
    go_enter Tryd.func28, Tryd.ntmps28
    go_upto_region 3 with fail
    refine wp_region_held_drew (S := fun W => W.cell? ⟨q, 0, none⟩ = some (.pointer (some ⟨g, 0, none⟩)) ∧ W.cell? ⟨q, 1, none⟩ = some (.int .i64 m.log)) (by kernel_rfl) ⟨C0.out, C1.out⟩ (fun hHeld => ?_)
    refine wpAnyH_take (i := 0) (oi := ⟨_, _, _, _, _, _⟩) (v := ?_) rfl (by kernel_rfl) (by kernel_rfl) (by kernel_rfl) (fun _ _ _ h => h) (Or.inl ⟨by rfl, ?_⟩) (by assumption) ?_
    rotate_left 1
    · intro W hSw
      try dsimp only at hSw
      obtain ⟨hs1, hs2⟩ := hSw
      go_simp
      try with_reducible rfl
    try simp only [Act.put, List.setIfInBounds_toArray, List.set_cons_zero, List.set_cons_succ]
    refine wpAnyH_take (i := 1) (oi := ⟨_, _, _, _, _, _⟩) (v := ?_) rfl (by kernel_rfl) (by kernel_rfl) (by kernel_rfl) (fun _ _ _ h => h) (Or.inl ⟨by rfl, ?_⟩) (by assumption) ?_
    rotate_left 1
    · intro W hSw
      try dsimp only at hSw
      obtain ⟨hs1, hs2⟩ := hSw
      go_simp
      try with_reducible rfl
    try simp only [Act.put, List.setIfInBounds_toArray, List.set_cons_zero, List.set_cons_succ]
    refine wpAnyH_take (i := 2) (oi := ⟨_, _, _, _, _, _⟩) (v := ?_) rfl (by kernel_rfl) (by kernel_rfl) (by kernel_rfl) (fun _ _ _ h => h) (Or.inl ⟨by rfl, ?_⟩) (by assumption) ?_
    rotate_left 1
    · intro W hSw
      try dsimp only at hSw
      obtain ⟨hs1, hs2⟩ := hSw
      go_simp
      try with_reducible rfl
    try simp only [Act.put, List.setIfInBounds_toArray, List.set_cons_zero, List.set_cons_succ]
    refine wpAnyH_take (i := 3) (oi := ⟨_, _, _, _, _, _⟩) (v := ?_) rfl (by kernel_rfl) (by kernel_rfl) (by kernel_rfl) (fun _ _ _ h => h) (Or.inl ⟨by rfl, ?_⟩) (by assumption) ?_
    rotate_left 1
    · intro W hSw
      try dsimp only at hSw
      obtain ⟨hs1, hs2⟩ := hSw
      go_simp
      try with_reducible rfl
    try simp only [Act.put, List.setIfInBounds_toArray, List.set_cons_zero, List.set_cons_succ]
    refine wpAnyH_take (i := 4) (oi := ⟨_, _, _, _, _, _⟩) (v := ?_) rfl (by kernel_rfl) (by kernel_rfl) (by kernel_rfl) (fun _ _ _ h => h) (Or.inl ⟨by rfl, ?_⟩) (by assumption) ?_
    rotate_left 1
    · intro W hSw
      try dsimp only at hSw
      obtain ⟨hs1, hs2⟩ := hSw
      go_simp
      try with_reducible rfl
    try simp only [Act.put, List.setIfInBounds_toArray, List.set_cons_zero, List.set_cons_succ]
    refine wpAnyH_take (i := 5) (oi := ⟨_, _, _, _, _, _⟩) (v := ?_) rfl (by kernel_rfl) (by kernel_rfl) (by kernel_rfl) (fun _ _ _ h => h) (Or.inl ⟨by rfl, ?_⟩) (by assumption) ?_
    rotate_left 1
    · intro W hSw
      try dsimp only at hSw
      obtain ⟨hs1, hs2⟩ := hSw
      go_simp
      try with_reducible rfl
    try simp only [Act.put, List.setIfInBounds_toArray, List.set_cons_zero, List.set_cons_succ]
    refine wpAnyH_take (i := 6) (oi := ⟨_, _, _, _, _, _⟩) (v := ?_) rfl (by kernel_rfl) (by kernel_rfl) (by kernel_rfl) (fun _ _ _ h => h) (Or.inl ⟨by rfl, ?_⟩) (by assumption) ?_
    rotate_left 1
    · intro W hSw
      try dsimp only at hSw
      obtain ⟨hs1, hs2⟩ := hSw
      go_simp
      try with_reducible rfl
    try simp only [Act.put, List.setIfInBounds_toArray, List.set_cons_zero, List.set_cons_succ]
    refine wpAnyH_take (i := 7) (oi := ⟨_, _, _, _, _, _⟩) (v := ?_) rfl (by kernel_rfl) (by kernel_rfl) (by kernel_rfl) (fun _ _ _ h => h) (Or.inl ⟨by rfl, ?_⟩) (by assumption) ?_
    rotate_left 1
    · intro W hSw
      try dsimp only at hSw
      obtain ⟨hs1, hs2⟩ := hSw
      go_simp
      try with_reducible rfl
    try simp only [Act.put, List.setIfInBounds_toArray, List.set_cons_zero, List.set_cons_succ]
    refine wpAnyH_take (i := 8) (oi := ⟨_, _, _, _, _, _⟩) (v := ?_) rfl (by kernel_rfl) (by kernel_rfl) (by kernel_rfl) (fun _ _ _ h => h) (Or.inl ⟨by rfl, ?_⟩) (by assumption) ?_
    rotate_left 1
    · intro W hSw
      try dsimp only at hSw
      obtain ⟨hs1, hs2⟩ := hSw
      go_simp
      try with_reducible rfl
    try simp only [Act.put, List.setIfInBounds_toArray, List.set_cons_zero, List.set_cons_succ]
    refine wpAnyH_ready (rs := [9]) (by kernel_rfl) (by simp) ?_
    refine AllReadyH.cons rfl (fun K hK => ?_) AllReadyH.nil
    go_simp
    go_at_call 25
    refine HApp.out.mono ?_
    rintro e w2 ⟨n2, rm2, rfl, hn2, ht2, hd2⟩
    obtain rfl := hn2.symm
    have T2 : Hid (RlTo w g rm q m w2 rm2 m AP.1) := RlTo.disk H.out ht2.undrew hd2 HAf.out
    clear ht2 hd2 hn2
    refine hK.out _ _ ⟨T2.out.ok.l.b.cell 0, T2.out.ok.l.b.cell 1⟩ (fun hSn => ?_)
    clear hK K
    try simp only [Act.put, List.setIfInBounds_toArray, List.set_cons_zero, List.set_cons_succ]
    refine wpAnyH_ready (rs := [10]) (by kernel_rfl) (by simp) ?_
    refine AllReadyH.cons rfl (fun K hK => ?_) AllReadyH.nil
    go_simp
    go_at_call 24
    refine (HSt.out w2 rm2 T2.out.ok).mono ?_
    rintro e w3 ⟨rfl, rm3, ht3⟩
    have T3 : Hid (RlTo w g rm q m w3 rm3 { m with dead := m.dead || decide ((0 : Int) ≠ 0) } SP.1) := T2.out.trans ht3
    clear ht3
    refine hK.out _ _ ⟨T3.out.ok.l.b.cell 0, T3.out.ok.l.b.cell 1⟩ (fun hSn => ?_)
    clear hK K
    try simp only [Act.put, List.setIfInBounds_toArray, List.set_cons_zero, List.set_cons_succ]
    refine wpAnyH_take (i := 11) (oi := ⟨_, _, _, _, _, _⟩) (v := ?_) rfl (by kernel_rfl) (by kernel_rfl) (by kernel_rfl) (fun _ _ _ h => h) (Or.inl ⟨by rfl, ?_⟩) (by assumption) ?_
    rotate_left 1
    · intro W hSw
      try dsimp only at hSw
      obtain ⟨hs1, hs2⟩ := hSw
      go_simp
      try with_reducible rfl
    try simp only [Act.put, List.setIfInBounds_toArray, List.set_cons_zero, List.set_cons_succ]
    refine wpAnyH_done (by kernel_rfl) ?_ _
    have HM3 : Hid (({ m with dead := m.dead || decide ((0 : Int) ≠ 0) } : WlM) = m) := by show _ = _; cases m; simp
    have T3' : Hid (RlTo w g rm q m w3 rm3 m SP.1) := by have h := T3.out; rw [HM3.out] at h; exact h
    clear T3 HM3
    have c2 : w3.cell? ⟨q, 2, none⟩ = some (.slice m.A m.rows.length m.c) := T3'.out.ok.l.b.cell 2
    have c3 : w3.cell? ⟨q, 3, none⟩ = some (.int .i64 (m.size : Int)) := T3'.out.ok.l.b.cell 3
    have f2 : w3.frozen? ⟨q, 2, none⟩ = false := T3'.out.ok.l.b.frozen 2
    have f3 : w3.frozen? ⟨q, 3, none⟩ = false := T3'.out.ok.l.b.frozen 3
    go_wp2
    go_ret
    rw [HP0.out]
    refine ⟨rfl, rm3, _, ?_, T3'.out.trans (RlTo.empt T3'.out.ok)⟩
    show (⟨m.log, [], 0, m.dead⟩ : LgD) = _
    rw [hdf]
  · rw [hE] at HSt
    rw [if_neg (by rw [hE]; decide)] at HP0
    go_enter Tryd.func28, Tryd.ntmps28
    go_upto_region 3 with fail
    refine wp_region_held_drew (S := fun W => W.cell? ⟨q, 0, none⟩ = some (.pointer (some ⟨g, 0, none⟩)) ∧ W.cell? ⟨q, 1, none⟩ = some (.int .i64 m.log)) (by kernel_rfl) ⟨C0.out, C1.out⟩ (fun hHeld => ?_)
    refine wpAnyH_take (i := 0) (oi := ⟨_, _, _, _, _, _⟩) (v := ?_) rfl (by kernel_rfl) (by kernel_rfl) (by kernel_rfl) (fun _ _ _ h => h) (Or.inl ⟨by rfl, ?_⟩) (by assumption) ?_
    rotate_left 1
    · intro W hSw
      try dsimp only at hSw
      obtain ⟨hs1, hs2⟩ := hSw
      go_simp
      try with_reducible rfl
    try simp only [Act.put, List.setIfInBounds_toArray, List.set_cons_zero, List.set_cons_succ]
    refine wpAnyH_take (i := 1) (oi := ⟨_, _, _, _, _, _⟩) (v := ?_) rfl (by kernel_rfl) (by kernel_rfl) (by kernel_rfl) (fun _ _ _ h => h) (Or.inl ⟨by rfl, ?_⟩) (by assumption) ?_
    rotate_left 1
    · intro W hSw
      try dsimp only at hSw
      obtain ⟨hs1, hs2⟩ := hSw
      go_simp
      try with_reducible rfl
    try simp only [Act.put, List.setIfInBounds_toArray, List.set_cons_zero, List.set_cons_succ]
    refine wpAnyH_take (i := 2) (oi := ⟨_, _, _, _, _, _⟩) (v := ?_) rfl (by kernel_rfl) (by kernel_rfl) (by kernel_rfl) (fun _ _ _ h => h) (Or.inl ⟨by rfl, ?_⟩) (by assumption) ?_
    rotate_left 1
    · intro W hSw
      try dsimp only at hSw
      obtain ⟨hs1, hs2⟩ := hSw
      go_simp
      try with_reducible rfl
    try simp only [Act.put, List.setIfInBounds_toArray, List.set_cons_zero, List.set_cons_succ]
    refine wpAnyH_take (i := 3) (oi := ⟨_, _, _, _, _, _⟩) (v := ?_) rfl (by kernel_rfl) (by kernel_rfl) (by kernel_rfl) (fun _ _ _ h => h) (Or.inl ⟨by rfl, ?_⟩) (by assumption) ?_
    rotate_left 1
    · intro W hSw
      try dsimp only at hSw
      obtain ⟨hs1, hs2⟩ := hSw
      go_simp
      try with_reducible rfl
    try simp only [Act.put, List.setIfInBounds_toArray, List.set_cons_zero, List.set_cons_succ]
    refine wpAnyH_take (i := 4) (oi := ⟨_, _, _, _, _, _⟩) (v := ?_) rfl (by kernel_rfl) (by kernel_rfl) (by kernel_rfl) (fun _ _ _ h => h) (Or.inl ⟨by rfl, ?_⟩) (by assumption) ?_
    rotate_left 1
    · intro W hSw
      try dsimp only at hSw
      obtain ⟨hs1, hs2⟩ := hSw
      go_simp
      try with_reducible rfl
    try simp only [Act.put, List.setIfInBounds_toArray, List.set_cons_zero, List.set_cons_succ]
    refine wpAnyH_take (i := 5) (oi := ⟨_, _, _, _, _, _⟩) (v := ?_) rfl (by kernel_rfl) (by kernel_rfl) (by kernel_rfl) (fun _ _ _ h => h) (Or.inl ⟨by rfl, ?_⟩) (by assumption) ?_
    rotate_left 1
    · intro W hSw
      try dsimp only at hSw
      obtain ⟨hs1, hs2⟩ := hSw
      go_simp
      try with_reducible rfl
    try simp only [Act.put, List.setIfInBounds_toArray, List.set_cons_zero, List.set_cons_succ]
    refine wpAnyH_take (i := 6) (oi := ⟨_, _, _, _, _, _⟩) (v := ?_) rfl (by kernel_rfl) (by kernel_rfl) (by kernel_rfl) (fun _ _ _ h => h) (Or.inl ⟨by rfl, ?_⟩) (by assumption) ?_
    rotate_left 1
    · intro W hSw
      try dsimp only at hSw
      obtain ⟨hs1, hs2⟩ := hSw
      go_simp
      try with_reducible rfl
    try simp only [Act.put, List.setIfInBounds_toArray, List.set_cons_zero, List.set_cons_succ]
    refine wpAnyH_take (i := 7) (oi := ⟨_, _, _, _, _, _⟩) (v := ?_) rfl (by kernel_rfl) (by kernel_rfl) (by kernel_rfl) (fun _ _ _ h => h) (Or.inl ⟨by rfl, ?_⟩) (by assumption) ?_
    rotate_left 1
    · intro W hSw
      try dsimp only at hSw
      obtain ⟨hs1, hs2⟩ := hSw
      go_simp
      try with_reducible rfl
    try simp only [Act.put, List.setIfInBounds_toArray, List.set_cons_zero, List.set_cons_succ]
    refine wpAnyH_take (i := 8) (oi := ⟨_, _, _, _, _, _⟩) (v := ?_) rfl (by kernel_rfl) (by kernel_rfl) (by kernel_rfl) (fun _ _ _ h => h) (Or.inl ⟨by rfl, ?_⟩) (by assumption) ?_
    rotate_left 1
    · intro W hSw
      try dsimp only at hSw
      obtain ⟨hs1, hs2⟩ := hSw
      go_simp
      try with_reducible rfl
    try simp only [Act.put, List.setIfInBounds_toArray, List.set_cons_zero, List.set_cons_succ]
    refine wpAnyH_ready (rs := [9]) (by kernel_rfl) (by simp) ?_
    refine AllReadyH.cons rfl (fun K hK => ?_) AllReadyH.nil
    go_simp
    go_at_call 25
    refine HApp.out.mono ?_
    rintro e w2 ⟨n2, rm2, rfl, hn2, ht2, hd2⟩
    obtain rfl := hn2.symm
    have T2 : Hid (RlTo w g rm q m w2 rm2 m AP.1) := RlTo.disk H.out ht2.undrew hd2 HAf.out
    clear ht2 hd2 hn2
    refine hK.out _ _ ⟨T2.out.ok.l.b.cell 0, T2.out.ok.l.b.cell 1⟩ (fun hSn => ?_)
    clear hK K
    try simp only [Act.put, List.setIfInBounds_toArray, List.set_cons_zero, List.set_cons_succ]
    refine wpAnyH_ready (rs := [10]) (by kernel_rfl) (by simp) ?_
    refine AllReadyH.cons rfl (fun K hK => ?_) AllReadyH.nil
    go_simp
    go_at_call 24
    refine (HSt.out w2 rm2 T2.out.ok).mono ?_
    rintro e w3 ⟨rfl, rm3, ht3⟩
    have T3 : Hid (RlTo w g rm q m w3 rm3 { m with dead := m.dead || decide ((19 : Int) ≠ 0) } SP.1) := T2.out.trans ht3
    clear ht3
    refine hK.out _ _ ⟨T3.out.ok.l.b.cell 0, T3.out.ok.l.b.cell 1⟩ (fun hSn => ?_)
    clear hK K
    try simp only [Act.put, List.setIfInBounds_toArray, List.set_cons_zero, List.set_cons_succ]
    refine wpAnyH_take (i := 11) (oi := ⟨_, _, _, _, _, _⟩) (v := ?_) rfl (by kernel_rfl) (by kernel_rfl) (by kernel_rfl) (fun _ _ _ h => h) (Or.inl ⟨by rfl, ?_⟩) (by assumption) ?_
    rotate_left 1
    · intro W hSw
      try dsimp only at hSw
      obtain ⟨hs1, hs2⟩ := hSw
      go_simp
      try with_reducible rfl
    try simp only [Act.put, List.setIfInBounds_toArray, List.set_cons_zero, List.set_cons_succ]
    refine wpAnyH_done (by kernel_rfl) ?_ _
    go_wp2
    go_ret
    rw [HP0.out]
    exact ⟨rfl, rm3, _, by show (⟨_, _, _, m.dead || decide ((19 : Int) ≠ 0)⟩ : LgD) = _; rw [decide_eq_true (by decide), Bool.or_true]; rfl, T3.out⟩

set_option maxHeartbeats 4000000 in
set_option maxRecDepth 100000 in
theorem wempty_any (w : World) (d : Nat) (dm : DkM) (q : Nat) (m : WlM) (h : PairW w d dm q m) (hW : dm.d.W.length ≤ 900) :
    Calls Tryd.prog 27 #[.pointer (some ⟨q, 0, none⟩)] w (WPutPost w d dm q m (emptyW dm.d m.d)) := by
  have H := Lib.hid h
  have HWl := Lib.hid hW
  have HIs := Lib.hid (isOpen_any w q d m h.l)
  have c4 : w.cell? ⟨q, 4, none⟩ = some (.bool m.dead) := h.l.b.cell 4
  unfold WPutPost
  obtain ⟨D, hDd⟩ : ∃ D, dm.d = D := ⟨_, rfl⟩
  have HDd := Lib.hid hDd
  rw [hDd] at HWl hW ⊢
  by_cases hd : m.dead = true
  · have HP : Hid (emptyW D m.d = (D, m.d, 20)) := by show _ = _; unfold emptyW; rw [if_pos (show m.d.dead = true from hd)]
    rw [hd] at c4
    clear h hW hd hDd
    go_enter Tryd.func27, Tryd.ntmps27
    go_wp2_with (first
      | (go_at_call 34; refine HIs.out.mono ?_; rintro e w1 ⟨rfl, hw1⟩; obtain rfl := hw1.symm))
    go_ret
    rw [HP.out]
    exact ⟨rfl, dm, m, HDd.out, rfl, WlTo.refl H.out⟩
  have hdf : m.dead = false := by simpa using hd
  have HP0 : Hid (emptyW D m.d = if (stlD (cutD D m.log 0).1 (cutD D m.log 0).2).2 = 0 then ((stlD (cutD D m.log 0).1 (cutD D m.log 0).2).1, ⟨m.log, [], 0, false⟩, 0) else ((stlD (cutD D m.log 0).1 (cutD D m.log 0).2).1, ⟨m.log, m.d.all, m.size, true⟩, 19)) := by
    show _ = _
    unfold emptyW
    rw [if_neg (show ¬ m.d.dead = true from hd)]
    rfl
  obtain ⟨AP, hAP⟩ : ∃ AP, cutD D m.log 0 = AP := ⟨_, rfl⟩
  have HAP := Lib.hid hAP
  have HAW : Hid (AP.1.W.length ≤ 901) := by
    have h1 := cutD_Wl D m.log 0
    rw [hAP] at h1
    show _ ≤ _
    omega
  have HAf : Hid (DkWf AP.1) := by show DkWf _; rw [← hAP]; exact cutD_wf' (hDd ▸ h.wf) _ _
  rw [hAP] at HP0
  obtain ⟨SP, hSP⟩ : ∃ SP, stlD AP.1 AP.2 = SP := ⟨_, rfl⟩
  have HSP := Lib.hid hSP
  have hE := stlD_2 AP.1 AP.2
  rw [hSP] at HP0 hE
  rw [hdf] at c4
  clear hAP hSP
  have C0 : Hid (w.cell? ⟨q, 0, none⟩ = some (.pointer (some ⟨d, 0, none⟩))) := h.l.b.cell 0
  have C1 : Hid (w.cell? ⟨q, 1, none⟩ = some (.int .i64 m.log)) := h.l.b.cell 1
  have hap := cutStep_any w.drew d dm h.k.drew h.wf (by rw [DkM.wlen, hDd]; omega) m.log 0
  rw [hDd, HAP.out] at hap
  unfold DkPost ptrD at hap
  have HApp := Lib.hid hap
  clear hap h hW hd hDd
  have HSt : Hid (∀ (W : World) (dm2 : DkM), dm2.d = AP.1 → PairW W d dm2 q m → Calls Tryd.prog 20 #[.pointer (some ⟨q, 0, none⟩), .int .i64 AP.2] W (StlPost W d dm2 q m SP)) := fun W dm2 hd2 hp => by
    have h1 := settle_any' W d dm2 q m hp (by rw [DkM.wlen, hd2]; have := HAW.out; omega) AP.2
    rw [hd2, HSP.out] at h1
    exact h1
  unfold StlPost at HSt
  obtain ⟨ap, hap⟩ : ∃ x, AP.2 = x := ⟨_, rfl⟩
  rw [hap] at HSt HApp
  clear hap
  rcases hE with hE | hE
  · rw [hE] at HSt
    rw [if_pos hE] at HP0
    go_enter Tryd.func27, Tryd.ntmps27
    go_upto_region 5 with (first
      | (go_at_call 34; refine HIs.out.mono ?_; rintro e w1 ⟨rfl, hw1⟩; obtain rfl := hw1.symm))
    refine wp_region_held_drew (S := fun W => W.cell? ⟨q, 0, none⟩ = some (.pointer (some ⟨d, 0, none⟩)) ∧ W.cell? ⟨q, 1, none⟩ = some (.int .i64 m.log)) (by kernel_rfl) ⟨C0.out, C1.out⟩ (fun hHeld => ?_)
    refine wpAnyH_take (i := 0) (oi := ⟨_, _, _, _, _, _⟩) (v := ?_) rfl (by kernel_rfl) (by kernel_rfl) (by kernel_rfl) (fun _ _ _ h => h) (Or.inl ⟨by rfl, ?_⟩) (by assumption) ?_
    rotate_left 1
    · intro W hSw
      try dsimp only at hSw
      obtain ⟨hs1, hs2⟩ := hSw
      go_simp
      try with_reducible rfl
    try simp only [Act.put, List.setIfInBounds_toArray, List.set_cons_zero, List.set_cons_succ]
    refine wpAnyH_take (i := 1) (oi := ⟨_, _, _, _, _, _⟩) (v := ?_) rfl (by kernel_rfl) (by kernel_rfl) (by kernel_rfl) (fun _ _ _ h => h) (Or.inl ⟨by rfl, ?_⟩) (by assumption) ?_
    rotate_left 1
    · intro W hSw
      try dsimp only at hSw
      obtain ⟨hs1, hs2⟩ := hSw
      go_simp
      try with_reducible rfl
    try simp only [Act.put, List.setIfInBounds_toArray, List.set_cons_zero, List.set_cons_succ]
    refine wpAnyH_take (i := 2) (oi := ⟨_, _, _, _, _, _⟩) (v := ?_) rfl (by kernel_rfl) (by kernel_rfl) (by kernel_rfl) (fun _ _ _ h => h) (Or.inl ⟨by rfl, ?_⟩) (by assumption) ?_
    rotate_left 1
    · intro W hSw
      try dsimp only at hSw
      obtain ⟨hs1, hs2⟩ := hSw
      go_simp
      try with_reducible rfl
    try simp only [Act.put, List.setIfInBounds_toArray, List.set_cons_zero, List.set_cons_succ]
    refine wpAnyH_take (i := 3) (oi := ⟨_, _, _, _, _, _⟩) (v := ?_) rfl (by kernel_rfl) (by kernel_rfl) (by kernel_rfl) (fun _ _ _ h => h) (Or.inl ⟨by rfl, ?_⟩) (by assumption) ?_
    rotate_left 1
    · intro W hSw
      try dsimp only at hSw
      obtain ⟨hs1, hs2⟩ := hSw
      go_simp
      try with_reducible rfl
    try simp only [Act.put, List.setIfInBounds_toArray, List.set_cons_zero, List.set_cons_succ]
    refine wpAnyH_take (i := 4) (oi := ⟨_, _, _, _, _, _⟩) (v := ?_) rfl (by kernel_rfl) (by kernel_rfl) (by kernel_rfl) (fun _ _ _ h => h) (Or.inl ⟨by rfl, ?_⟩) (by assumption) ?_
    rotate_left 1
    · intro W hSw
      try dsimp only at hSw
      obtain ⟨hs1, hs2⟩ := hSw
      go_simp
      try with_reducible rfl
    try simp only [Act.put, List.setIfInBounds_toArray, List.set_cons_zero, List.set_cons_succ]
    refine wpAnyH_take (i := 5) (oi := ⟨_, _, _, _, _, _⟩) (v := ?_) rfl (by kernel_rfl) (by kernel_rfl) (by kernel_rfl) (fun _ _ _ h => h) (Or.inl ⟨by rfl, ?_⟩) (by assumption) ?_
    rotate_left 1
    · intro W hSw
      try dsimp only at hSw
      obtain ⟨hs1, hs2⟩ := hSw
      go_simp
      try with_reducible rfl
    try simp only [Act.put, List.setIfInBounds_toArray, List.set_cons_zero, List.set_cons_succ]
    refine wpAnyH_take (i := 6) (oi := ⟨_, _, _, _, _, _⟩) (v := ?_) rfl (by kernel_rfl) (by kernel_rfl) (by kernel_rfl) (fun _ _ _ h => h) (Or.inl ⟨by rfl, ?_⟩) (by assumption) ?_
    rotate_left 1
    · intro W hSw
      try dsimp only at hSw
      obtain ⟨hs1, hs2⟩ := hSw
      go_simp
      try with_reducible rfl
    try simp only [Act.put, List.setIfInBounds_toArray, List.set_cons_zero, List.set_cons_succ]
    refine wpAnyH_take (i := 7) (oi := ⟨_, _, _, _, _, _⟩) (v := ?_) rfl (by kernel_rfl) (by kernel_rfl) (by kernel_rfl) (fun _ _ _ h => h) (Or.inl ⟨by rfl, ?_⟩) (by assumption) ?_
    rotate_left 1
    · intro W hSw
      try dsimp only at hSw
      obtain ⟨hs1, hs2⟩ := hSw
      go_simp
      try with_reducible rfl
    try simp only [Act.put, List.setIfInBounds_toArray, List.set_cons_zero, List.set_cons_succ]
    refine wpAnyH_take (i := 8) (oi := ⟨_, _, _, _, _, _⟩) (v := ?_) rfl (by kernel_rfl) (by kernel_rfl) (by kernel_rfl) (fun _ _ _ h => h) (Or.inl ⟨by rfl, ?_⟩) (by assumption) ?_
    rotate_left 1
    · intro W hSw
      try dsimp only at hSw
      obtain ⟨hs1, hs2⟩ := hSw
      go_simp
      try with_reducible rfl
    try simp only [Act.put, List.setIfInBounds_toArray, List.set_cons_zero, List.set_cons_succ]
    refine wpAnyH_ready (rs := [9]) (by kernel_rfl) (by simp) ?_
    refine AllReadyH.cons rfl (fun K hK => ?_) AllReadyH.nil
    go_simp
    go_at_call 21
    refine HApp.out.mono ?_
    rintro e w2 ⟨rfl, dm2, ht2, hd2⟩
    have T2 : Hid (WlTo w d dm q m w2 dm2 m) := WlTo.disk H.out ht2.undrew (by rw [hd2]; exact HAf.out)
    have D2 := Lib.hid hd2
    clear ht2 hd2
    refine hK.out _ _ ⟨T2.out.ok.l.b.cell 0, T2.out.ok.l.b.cell 1⟩ (fun hSn => ?_)
    clear hK K
    try simp only [Act.put, List.setIfInBounds_toArray, List.set_cons_zero, List.set_cons_succ]
    refine wpAnyH_ready (rs := [10]) (by kernel_rfl) (by simp) ?_
    refine AllReadyH.cons rfl (fun K hK => ?_) AllReadyH.nil
    go_simp
    go_at_call 20
    refine (HSt.out w2 dm2 D2.out T2.out.ok).mono ?_
    rintro e w3 ⟨rfl, dm3, hd3, ht3⟩
    have D3 := Lib.hid hd3
    have T3 : Hid (WlTo w d dm q m w3 dm3 { m with dead := m.dead || decide ((0 : Int) ≠ 0) }) := T2.out.trans ht3
    clear ht3 hd3
    refine hK.out _ _ ⟨T3.out.ok.l.b.cell 0, T3.out.ok.l.b.cell 1⟩ (fun hSn => ?_)
    clear hK K
    try simp only [Act.put, List.setIfInBounds_toArray, List.set_cons_zero, List.set_cons_succ]
    refine wpAnyH_take (i := 11) (oi := ⟨_, _, _, _, _, _⟩) (v := ?_) rfl (by kernel_rfl) (by kernel_rfl) (by kernel_rfl) (fun _ _ _ h => h) (Or.inl ⟨by rfl, ?_⟩) (by assumption) ?_
    rotate_left 1
    · intro W hSw
      try dsimp only at hSw
      obtain ⟨hs1, hs2⟩ := hSw
      go_simp
      try with_reducible rfl
    try simp only [Act.put, List.setIfInBounds_toArray, List.set_cons_zero, List.set_cons_succ]
    refine wpAnyH_done (by kernel_rfl) ?_ _
    have HM3 : Hid (({ m with dead := m.dead || decide ((0 : Int) ≠ 0) } : WlM) = m) := by show _ = _; cases m; simp
    have T3' : Hid (WlTo w d dm q m w3 dm3 m) := by have h := T3.out; rw [HM3.out] at h; exact h
    clear T3 HM3
    have c2 : w3.cell? ⟨q, 2, none⟩ = some (.slice m.A m.rows.length m.c) := T3'.out.ok.l.b.cell 2
    have c3 : w3.cell? ⟨q, 3, none⟩ = some (.int .i64 (m.size : Int)) := T3'.out.ok.l.b.cell 3
    have f2 : w3.frozen? ⟨q, 2, none⟩ = false := T3'.out.ok.l.b.frozen 2
    have f3 : w3.frozen? ⟨q, 3, none⟩ = false := T3'.out.ok.l.b.frozen 3
    go_wp2
    go_ret
    rw [HP0.out]
    refine ⟨rfl, dm3, _, D3.out, ?_, T3'.out.trans (WlTo.empt T3'.out.ok)⟩
    show (⟨m.log, [], 0, m.dead⟩ : LgD) = _
    rw [hdf]
  · rw [hE] at HSt
    rw [if_neg (by rw [hE]; decide)] at HP0
    go_enter Tryd.func27, Tryd.ntmps27
    go_upto_region 5 with (first
      | (go_at_call 34; refine HIs.out.mono ?_; rintro e w1 ⟨rfl, hw1⟩; obtain rfl := hw1.symm))
    refine wp_region_held_drew (S := fun W => W.cell? ⟨q, 0, none⟩ = some (.pointer (some ⟨d, 0, none⟩)) ∧ W.cell? ⟨q, 1, none⟩ = some (.int .i64 m.log)) (by kernel_rfl) ⟨C0.out, C1.out⟩ (fun hHeld => ?_)
    refine wpAnyH_take (i := 0) (oi := ⟨_, _, _, _, _, _⟩) (v := ?_) rfl (by kernel_rfl) (by kernel_rfl) (by kernel_rfl) (fun _ _ _ h => h) (Or.inl ⟨by rfl, ?_⟩) (by assumption) ?_
    rotate_left 1
    · intro W hSw
      try dsimp only at hSw
      obtain ⟨hs1, hs2⟩ := hSw
      go_simp
      try with_reducible rfl
    try simp only [Act.put, List.setIfInBounds_toArray, List.set_cons_zero, List.set_cons_succ]
    refine wpAnyH_take (i := 1) (oi := ⟨_, _, _, _, _, _⟩) (v := ?_) rfl (by kernel_rfl) (by kernel_rfl) (by kernel_rfl) (fun _ _ _ h => h) (Or.inl ⟨by rfl, ?_⟩) (by assumption) ?_
    rotate_left 1
    · intro W hSw
      try dsimp only at hSw
      obtain ⟨hs1, hs2⟩ := hSw
      go_simp
      try with_reducible rfl
    try simp only [Act.put, List.setIfInBounds_toArray, List.set_cons_zero, List.set_cons_succ]
    refine wpAnyH_take (i := 2) (oi := ⟨_, _, _, _, _, _⟩) (v := ?_) rfl (by kernel_rfl) (by kernel_rfl) (by kernel_rfl) (fun _ _ _ h => h) (Or.inl ⟨by rfl, ?_⟩) (by assumption) ?_
    rotate_left 1
    · intro W hSw
      try dsimp only at hSw
      obtain ⟨hs1, hs2⟩ := hSw
      go_simp
      try with_reducible rfl
    try simp only [Act.put, List.setIfInBounds_toArray, List.set_cons_zero, List.set_cons_succ]
    refine wpAnyH_take (i := 3) (oi := ⟨_, _, _, _, _, _⟩) (v := ?_) rfl (by kernel_rfl) (by kernel_rfl) (by kernel_rfl) (fun _ _ _ h => h) (Or.inl ⟨by rfl, ?_⟩) (by assumption) ?_
    rotate_left 1
    · intro W hSw
      try dsimp only at hSw
      obtain ⟨hs1, hs2⟩ := hSw
      go_simp
      try with_reducible rfl
    try simp only [Act.put, List.setIfInBounds_toArray, List.set_cons_zero, List.set_cons_succ]
    refine wpAnyH_take (i := 4) (oi := ⟨_, _, _, _, _, _⟩) (v := ?_) rfl (by kernel_rfl) (by kernel_rfl) (by kernel_rfl) (fun _ _ _ h => h) (Or.inl ⟨by rfl, ?_⟩) (by assumption) ?_
    rotate_left 1
    · intro W hSw
      try dsimp only at hSw
      obtain ⟨hs1, hs2⟩ := hSw
      go_simp
      try with_reducible rfl
    try simp only [Act.put, List.setIfInBounds_toArray, List.set_cons_zero, List.set_cons_succ]
    refine wpAnyH_take (i := 5) (oi := ⟨_, _, _, _, _, _⟩) (v := ?_) rfl (by kernel_rfl) (by kernel_rfl) (by kernel_rfl) (fun _ _ _ h => h) (Or.inl ⟨by rfl, ?_⟩) (by assumption) ?_
    rotate_left 1
    · intro W hSw
      try dsimp only at hSw
      obtain ⟨hs1, hs2⟩ := hSw
      go_simp
      try with_reducible rfl
    try simp only [Act.put, List.setIfInBounds_toArray, List.set_cons_zero, List.set_cons_succ]
    refine wpAnyH_take (i := 6) (oi := ⟨_, _, _, _, _, _⟩) (v := ?_) rfl (by kernel_rfl) (by kernel_rfl) (by kernel_rfl) (fun _ _ _ h => h) (Or.inl ⟨by rfl, ?_⟩) (by assumption) ?_
    rotate_left 1
    · intro W hSw
      try dsimp only at hSw
      obtain ⟨hs1, hs2⟩ := hSw
      go_simp
      try with_reducible rfl
    try simp only [Act.put, List.setIfInBounds_toArray, List.set_cons_zero, List.set_cons_succ]
    refine wpAnyH_take (i := 7) (oi := ⟨_, _, _, _, _, _⟩) (v := ?_) rfl (by kernel_rfl) (by kernel_rfl) (by kernel_rfl) (fun _ _ _ h => h) (Or.inl ⟨by rfl, ?_⟩) (by assumption) ?_
    rotate_left 1
    · intro W hSw
      try dsimp only at hSw
      obtain ⟨hs1, hs2⟩ := hSw
      go_simp
      try with_reducible rfl
    try simp only [Act.put, List.setIfInBounds_toArray, List.set_cons_zero, List.set_cons_succ]
    refine wpAnyH_take (i := 8) (oi := ⟨_, _, _, _, _, _⟩) (v := ?_) rfl (by kernel_rfl) (by kernel_rfl) (by kernel_rfl) (fun _ _ _ h => h) (Or.inl ⟨by rfl, ?_⟩) (by assumption) ?_
    rotate_left 1
    · intro W hSw
      try dsimp only at hSw
      obtain ⟨hs1, hs2⟩ := hSw
      go_simp
      try with_reducible rfl
    try simp only [Act.put, List.setIfInBounds_toArray, List.set_cons_zero, List.set_cons_succ]
    refine wpAnyH_ready (rs := [9]) (by kernel_rfl) (by simp) ?_
    refine AllReadyH.cons rfl (fun K hK => ?_) AllReadyH.nil
    go_simp
    go_at_call 21
    refine HApp.out.mono ?_
    rintro e w2 ⟨rfl, dm2, ht2, hd2⟩
    have T2 : Hid (WlTo w d dm q m w2 dm2 m) := WlTo.disk H.out ht2.undrew (by rw [hd2]; exact HAf.out)
    have D2 := Lib.hid hd2
    clear ht2 hd2
    refine hK.out _ _ ⟨T2.out.ok.l.b.cell 0, T2.out.ok.l.b.cell 1⟩ (fun hSn => ?_)
    clear hK K
    try simp only [Act.put, List.setIfInBounds_toArray, List.set_cons_zero, List.set_cons_succ]
    refine wpAnyH_ready (rs := [10]) (by kernel_rfl) (by simp) ?_
    refine AllReadyH.cons rfl (fun K hK => ?_) AllReadyH.nil
    go_simp
    go_at_call 20
    refine (HSt.out w2 dm2 D2.out T2.out.ok).mono ?_
    rintro e w3 ⟨rfl, dm3, hd3, ht3⟩
    have D3 := Lib.hid hd3
    have T3 : Hid (WlTo w d dm q m w3 dm3 { m with dead := m.dead || decide ((19 : Int) ≠ 0) }) := T2.out.trans ht3
    clear ht3 hd3
    refine hK.out _ _ ⟨T3.out.ok.l.b.cell 0, T3.out.ok.l.b.cell 1⟩ (fun hSn => ?_)
    clear hK K
    try simp only [Act.put, List.setIfInBounds_toArray, List.set_cons_zero, List.set_cons_succ]
    refine wpAnyH_take (i := 11) (oi := ⟨_, _, _, _, _, _⟩) (v := ?_) rfl (by kernel_rfl) (by kernel_rfl) (by kernel_rfl) (fun _ _ _ h => h) (Or.inl ⟨by rfl, ?_⟩) (by assumption) ?_
    rotate_left 1
    · intro W hSw
      try dsimp only at hSw
      obtain ⟨hs1, hs2⟩ := hSw
      go_simp
      try with_reducible rfl
    try simp only [Act.put, List.setIfInBounds_toArray, List.set_cons_zero, List.set_cons_succ]
    refine wpAnyH_done (by kernel_rfl) ?_ _
    go_wp2
    go_ret
    rw [HP0.out]
    exact ⟨rfl, dm3, _, D3.out, by show (⟨_, _, _, m.dead || decide ((19 : Int) ≠ 0)⟩ : LgD) = _; rw [decide_eq_true (by decide), Bool.or_true]; rfl, T3.out⟩
end Go.Proofs.YthamlphebnhcpaaDoor
