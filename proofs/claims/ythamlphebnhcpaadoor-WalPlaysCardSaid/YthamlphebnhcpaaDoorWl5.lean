/-
  wal: Put.
-/
import Derived.Test.YthamlphebnhcpaaDoorWl2
import Derived.Test.YthamlphebnhcpaaDoorDkA
import Derived.Test.YthamlphebnhcpaaDoorDk6
namespace Go.Proofs.YthamlphebnhcpaaDoor
open Go.RowKit

/-- Behind a step the sync. -/
def stlD (D : DkD) (e : Int) : DkD × Int := if e = 0 then ((syncD D).1, if (syncD D).2 = 0 then 0 else 19) else (D, 19)
/-- A log in memory. -/
structure WlM where
  log : Int
  rows : List RowM
  A : Option Addr
  c : Nat
  size : Nat
  dead : Bool
def wlC (d : Nat) (m : WlM) : List Value := [.pointer (some ⟨d, 0, none⟩), .int .i64 m.log, .slice m.A m.rows.length m.c, .int .i64 (m.size : Int), .bool m.dead]
def footW (q : Nat) (m : WlM) (j : Nat) : Prop := j = q ∨ m.A.map (·.block) = some j
def rowsW (m : WlM) (j : Nat) : Prop := ∃ r ∈ m.rows, r.bk = some j
structure WlOk (w : World) (q d : Nat) (m : WlM) : Prop where
  b : Blk w q 61 (wlC d m).toArray
  ww : w.ownsRow 0 39 1 (.slice m.A m.rows.length m.c) m.rows.length (rowsC m.rows)
  o : ∀ r ∈ m.rows, r.own w
theorem WlOk.foot_lt {w : World} {q d : Nat} {m : WlM} (h : WlOk w q d m) {j : Nat} (hj : footW q m j) : j < w.heap.size := by
  rcases hj with rfl | hj
  · exact h.b.lt
  · exact (h.ww.lt j (by rw [own_blkD]; exact hj)).2
theorem WlOk.rows_lt {w : World} {q d : Nat} {m : WlM} (h : WlOk w q d m) {j : Nat} (hj : rowsW m j) : j < w.heap.size := by
  obtain ⟨r, hr, hb⟩ := hj
  exact RowM.lt (h.o r hr) hb
/-- Rows of bytes lie off what the log changes. -/
theorem WlOk.off {w : World} {q d : Nat} {m : WlM} (h : WlOk w q d m) {r : RowM} (hr : r.own w) {j : Nat} (hj : r.bk = some j) : ¬ footW q m j := by
  rintro (rfl | h1)
  · have h3 := h.b.notOwn hr (by decide)
    rw [RowM.v, own_blkD] at h3
    exact h3 hj.symm
  · exact own_apart hr h.ww (by decide) j (by rw [RowM.v, own_blkD]; exact hj) (by rw [own_blkD]; exact h1)
theorem WlOk.later {S : Nat → Prop} {w w' : World} {q d : Nat} {m : WlM} (h : WlOk w q d m) (k : Keeps S w w') (hf : ∀ j, footW q m j → ¬ S j) (hr : ∀ j, rowsW m j → ¬ S j) : WlOk w' q d m :=
  ⟨h.b.keeps k (hf q (.inl rfl)), own_keep h.ww k (fun j hj => hf j (.inr (by rw [own_blkD] at hj; exact hj))), fun r hm => RowM.keep (h.o r hm) k (fun j hj => hr j ⟨r, hm, hj⟩)⟩
theorem WlOk.below {w w' : World} {q d : Nat} {m : WlM} (h : WlOk w q d m) (b : Below w.heap.size w w') : WlOk w' q d m := h.later (Keeps.of_below b (fun _ => False)) (fun _ _ h => h) (fun _ _ h => h)
/-- A disk and a log of it. -/
structure PairW (w : World) (d : Nat) (dm : DkM) (q : Nat) (m : WlM) : Prop where
  k : DkOk w d dm
  l : WlOk w q d m
  wf : DkWf dm.d
  o : ∀ j, footW q m j ∨ rowsW m j → ¬ foot d dm j
  p : ∀ j, footW q m j → ¬ ro dm j
structure WlTo (w : World) (d : Nat) (dm : DkM) (q : Nat) (m : WlM) (w' : World) (dm' : DkM) (m' : WlM) : Prop where
  ok : PairW w' d dm' q m'
  ft : ∀ j, foot d dm' j ∨ footW q m' j → (foot d dm j ∨ footW q m j) ∨ w.heap.size ≤ j
  rd : ∀ j, ro dm' j ∨ rowsW m' j → (ro dm j ∨ rowsW m j) ∨ w.heap.size ≤ j
  k : Keeps (fun j => foot d dm j ∨ footW q m j) w w'
theorem WlTo.trans {w w1 w2 : World} {d q : Nat} {dm dm1 dm2 : DkM} {m m1 m2 : WlM} (h : WlTo w d dm q m w1 dm1 m1) (h2 : WlTo w1 d dm1 q m1 w2 dm2 m2) : WlTo w d dm q m w2 dm2 m2 := by
  refine ⟨h2.ok, fun j hj => ?_, fun j hj => ?_, ?_⟩
  · rcases h2.ft j hj with h1 | h1
    · exact h.ft j h1
    · exact .inr (Nat.le_trans h.k.size h1)
  · rcases h2.rd j hj with h1 | h1
    · exact h.rd j h1
    · exact .inr (Nat.le_trans h.k.size h1)
  · refine ⟨h2.k.os.trans h.k.os, h2.k.tape.trans h.k.tape, h2.k.output.trans h.k.output, Nat.le_trans h.k.size h2.k.size, fun b hb hn => ?_⟩
    refine (h2.k.block b (Nat.lt_of_lt_of_le hb h.k.size) (fun h1 => ?_)).trans (h.k.block b hb hn)
    rcases h.ft b h1 with h3 | h3
    · exact hn h3
    · omega
theorem WlTo.refl {w : World} {d q : Nat} {dm : DkM} {m : WlM} (h : PairW w d dm q m) : WlTo w d dm q m w dm m := ⟨h, fun _ h => .inl h, fun _ h => .inl h, Keeps.refl _ _⟩
theorem WlTo.below {w w' : World} {d q : Nat} {dm : DkM} {m : WlM} (h : PairW w d dm q m) (b : Below w.heap.size w w') : WlTo w d dm q m w' dm m :=
  ⟨⟨(DkTo.below h.k b).ok, h.l.below b, h.wf, h.o, h.p⟩, fun _ h => .inl h, fun _ h => .inl h, Keeps.of_below b _⟩
theorem WlTo.disk {w w' : World} {d q : Nat} {dm dm' : DkM} {m : WlM} (h : PairW w d dm q m) (t : DkTo w d dm w' dm') (wf : DkWf dm'.d) : WlTo w d dm q m w' dm' m := by
  refine ⟨⟨t.ok, h.l.later t.k (fun j hj => h.o j (.inl hj)) (fun j hj => h.o j (.inr hj)), wf, fun j hj hf => ?_, fun j hj hf => ?_⟩, fun j hj => ?_, fun j hj => ?_, t.k.mono (fun j _ hj => .inl hj)⟩
  · have hlt : j < w.heap.size := hj.elim h.l.foot_lt h.l.rows_lt
    rcases t.ft j hf with h1 | h1
    · exact h.o j hj h1
    · omega
  · have hlt := h.l.foot_lt hj
    rcases t.r j hf with h1 | h1
    · exact h.p j hj h1
    · omega
  · rcases hj with hj | hj
    · exact (t.ft j hj).elim (fun h => .inl (.inl h)) .inr
    · exact .inl (.inr hj)
  · rcases hj with hj | hj
    · exact (t.r j hj).elim (fun h => .inl (.inl h)) .inr
    · exact .inl (.inr hj)
/-- The log alone has changed. -/
theorem WlTo.log {w w' : World} {d q : Nat} {dm : DkM} {m m' : WlM} (h : PairW w d dm q m) (hl : WlOk w' q d m') (k : Keeps (footW q m) w w') (hf : ∀ j, footW q m' j → footW q m j ∨ w.heap.size ≤ j) (hr : ∀ j, rowsW m' j → rowsW m j ∨ w.heap.size ≤ j) : WlTo w d dm q m w' dm m' := by
  refine ⟨⟨h.k.later k (fun j hj hs => h.o j (.inl hs) hj) (fun j hj hs => h.p j hs hj), hl, h.wf, fun j hj hft => ?_, fun j hj hro => ?_⟩, fun j hj => ?_, fun j hj => ?_, k.mono (fun j _ hj => .inr hj)⟩
  · have hlt := h.k.foot_lt hft
    rcases hj with hj | hj
    · rcases hf j hj with h1 | h1
      · exact h.o j (.inl h1) hft
      · omega
    · rcases hr j hj with h1 | h1
      · exact h.o j (.inr h1) hft
      · omega
  · have hlt := (h.k.f j hro).2
    rcases hf j hj with h1 | h1
    · exact h.p j h1 hro
    · omega
  · rcases hj with hj | hj
    · exact .inl (.inl hj)
    · exact (hf j hj).elim (fun h => .inl (.inr h)) .inr
  · rcases hj with hj | hj
    · exact .inl (.inl hj)
    · exact (hr j hj).elim (fun h => .inl (.inr h)) .inr
/-- A cell of the log, but not its batches. -/
theorem WlTo.cells {w w' : World} {d q : Nat} {dm : DkM} {m m' : WlM} (h : PairW w d dm q m) (e1 : m'.rows = m.rows) (e2 : m'.A = m.A) (e3 : m'.c = m.c) (hb : Blk w' q 61 (wlC d m').toArray) (k : Keeps (fun j => j = q) w w') : WlTo w d dm q m w' dm m' := by
  have k2 : Keeps (footW q m) w w' := k.mono (fun j _ hj => .inl hj)
  refine WlTo.log h ⟨hb, ?_, ?_⟩ k2 (fun j hj => .inl ?_) (fun j hj => .inl ?_)
  · rw [e1, e2, e3]
    refine own_keep h.l.ww k (fun j hj e => ?_)
    subst e
    exact h.l.b.notOwn h.l.ww (by decide) hj.symm
  · rw [e1]
    exact fun r hr => RowM.keep (h.l.o r hr) k (fun j hj e => h.l.off (h.l.o r hr) hj (.inl e))
  · unfold footW at hj ⊢; rw [e2] at hj; exact hj
  · unfold rowsW at hj ⊢; rw [e1] at hj; exact hj
theorem syncD_wf' {D : DkD} (h : DkWf D) : DkWf (syncD D).1 := syncD_wf h
theorem wlC_dead (d : Nat) (m : WlM) (z : Bool) : (wlC d m).toArray.setIfInBounds 4 (.bool z) = (wlC d { m with dead := z }).toArray := rfl
theorem wlC_size (d : Nat) (m : WlM) (n : Nat) : (wlC d m).toArray.setIfInBounds 3 (.int .i64 (n : Int)) = (wlC d { m with size := n }).toArray := rfl

/-- What settle answers. -/
def StlPost (w : World) (d : Nat) (dm : DkM) (q : Nat) (m : WlM) (R : DkD × Int) (e : Ending) (w' : World) : Prop := e = .returned (.int .i64 R.2) ∧ ∃ dm', dm'.d = R.1 ∧ WlTo w d dm q m w' dm' { m with dead := m.dead || decide (R.2 ≠ 0) }

set_option maxHeartbeats 2000000 in
set_option maxRecDepth 100000 in
theorem settle_any' (w : World) (d : Nat) (dm : DkM) (q : Nat) (m : WlM) (h : PairW w d dm q m) (hW : dm.W.length ≤ 1000) (e : Int) : Calls Tryd.prog 20 #[.pointer (some ⟨q, 0, none⟩), .int .i64 e] w (StlPost w d dm q m (stlD dm.d e)) := by
  have H := Lib.hid h
  have HWl := Lib.hid hW
  have c0 : w.cell? ⟨q, 0, none⟩ = some (.pointer (some ⟨d, 0, none⟩)) := h.l.b.cell 0
  have c4 : w.cell? ⟨q, 4, none⟩ = some (.bool m.dead) := h.l.b.cell 4
  have f4 : w.frozen? ⟨q, 4, none⟩ = false := h.l.b.frozen 4
  clear h hW
  by_cases he : e = 0
  · subst he
    have HR : Hid (stlD dm.d 0 = ((syncD dm.d).1, if (syncD dm.d).2 = 0 then 0 else 19)) := by show _ = _; unfold stlD; rw [if_pos rfl]
    clear c4 f4
    unfold StlPost
    rw [HR.out]
    have hs := sync_any w d dm H.out.k H.out.wf HWl.out
    obtain ⟨n, hn⟩ : ∃ n, (syncD dm.d).2 = n := ⟨_, rfl⟩
    unfold DkPost ptrD at hs
    rw [hn] at hs ⊢
    have HSy := Lib.hid hs
    clear hs hn
    by_cases h0 : n = 0
    · subst h0
      rw [if_pos rfl]
      go_enter Tryd.func20, Tryd.ntmps20
      go_wp2_with (first
        | (go_at_call 46; refine HSy.out.mono ?_; rintro e1 w1 ⟨rfl, dm1, ht, hd⟩; have T1 := Lib.hid ht; have D1 := Lib.hid hd; clear ht hd))
      go_ret
      refine ⟨rfl, dm1, D1.out, ?_⟩
      have := WlTo.disk H.out T1.out (by rw [D1.out]; exact syncD_wf' H.out.wf)
      simpa using this
    · rw [if_neg h0]
      have h0b : (n == 0) = false := beq_eq_false_iff_ne.2 h0
      go_enter Tryd.func20, Tryd.ntmps20
      go_wp2_with (first
        | (go_at_call 46; refine HSy.out.mono ?_; rintro e1 w1 ⟨rfl, dm1, ht, hd⟩; have T1 := Lib.hid ht; have D1 := Lib.hid hd; clear ht hd; (have P1 := Lib.hid (WlTo.disk H.out T1.out (by rw [D1.out]; exact syncD_wf' H.out.wf))); (have c4 : w1.cell? ⟨q, 4, none⟩ = some (.bool m.dead) := P1.out.ok.l.b.cell 4); (have f4 : w1.frozen? ⟨q, 4, none⟩ = false := P1.out.ok.l.b.frozen 4)))
      go_ret
      refine ⟨rfl, dm1, D1.out, P1.out.trans ?_⟩
      have e1 : (m.dead || decide ((19 : Int) ≠ 0)) = true := by rw [decide_eq_true (by decide), Bool.or_true]
      rw [e1]
      refine WlTo.cells P1.out.ok rfl rfl rfl ?_ (Keeps.setCell (S := fun j => j = q) (p := ⟨q, 4, none⟩) (Keeps.refl _ _) rfl _)
      rw [← wlC_dead]
      exact P1.out.ok.l.b.set 4 _
  · have HR : Hid (stlD dm.d e = (dm.d, 19)) := by show _ = _; unfold stlD; rw [if_neg he]
    have h0b : (e == 0) = false := beq_eq_false_iff_ne.2 he
    unfold StlPost
    rw [HR.out]
    clear c0
    go_enter Tryd.func20, Tryd.ntmps20
    go_wp2
    go_ret
    refine ⟨rfl, dm, rfl, ?_⟩
    have e1 : (m.dead || decide ((19 : Int) ≠ 0)) = true := by rw [decide_eq_true (by decide), Bool.or_true]
    rw [e1]
    refine WlTo.cells H.out rfl rfl rfl ?_ (Keeps.setCell (S := fun j => j = q) (p := ⟨q, 4, none⟩) (Keeps.refl _ _) rfl _)
    rw [← wlC_dead]
    exact H.out.l.b.set 4 _
theorem isOpen_any (w : World) (q d : Nat) (m : WlM) (h : WlOk w q d m) : Calls Tryd.prog 34 #[.pointer (some ⟨q, 0, none⟩)] w fun e w' => e = .returned (.bool true) ∧ w' = w := by
  have c0 : w.cell? ⟨q, 0, none⟩ = some (.pointer (some ⟨d, 0, none⟩)) := h.b.cell 0
  clear h
  go_enter Tryd.func34, Tryd.ntmps34
  go_wp2
  go_ret
  exact ⟨rfl, rfl⟩
theorem wlen_any (w : World) (q d : Nat) (m : WlM) (h : WlOk w q d m) : Calls Tryd.prog 12 #[.pointer (some ⟨q, 0, none⟩)] w fun e w' => e = .returned (.int .i64 (m.rows.length : Int)) ∧ w' = w := by
  have H := Lib.hid h
  have c2 : w.cell? ⟨q, 2, none⟩ = some (.slice m.A m.rows.length m.c) := h.b.cell 2
  clear h
  go_enter Tryd.func12, Tryd.ntmps12
  go_wp2_with (go_at_call 34; refine (isOpen_any w q d m H.out).mono ?_; rintro e1 w1 ⟨rfl, hw1⟩; obtain rfl := hw1.symm)
  go_ret
  exact ⟨rfl, rfl⟩
theorem wsize_any (w : World) (q d : Nat) (m : WlM) (h : WlOk w q d m) : Calls Tryd.prog 13 #[.pointer (some ⟨q, 0, none⟩)] w fun e w' => e = .returned (.int .i64 (m.size : Int)) ∧ w' = w := by
  have H := Lib.hid h
  have c3 : w.cell? ⟨q, 3, none⟩ = some (.int .i64 (m.size : Int)) := h.b.cell 3
  clear h
  go_enter Tryd.func13, Tryd.ntmps13
  go_wp2_with (go_at_call 34; refine (isOpen_any w q d m H.out).mono ?_; rintro e1 w1 ⟨rfl, hw1⟩; obtain rfl := hw1.symm)
  go_ret
  exact ⟨rfl, rfl⟩
theorem wdead_any (w : World) (q d : Nat) (m : WlM) (h : WlOk w q d m) : Calls Tryd.prog 14 #[.pointer (some ⟨q, 0, none⟩)] w fun e w' => e = .returned (.bool m.dead) ∧ w' = w := by
  have H := Lib.hid h
  have c4 : w.cell? ⟨q, 4, none⟩ = some (.bool m.dead) := h.b.cell 4
  clear h
  go_enter Tryd.func14, Tryd.ntmps14
  go_wp2_with (go_at_call 34; refine (isOpen_any w q d m H.out).mono ?_; rintro e1 w1 ⟨rfl, hw1⟩; obtain rfl := hw1.symm)
  go_ret
  exact ⟨rfl, rfl⟩
end Go.Proofs.YthamlphebnhcpaaDoor

namespace Go.Proofs.YthamlphebnhcpaaDoor
open Go.RowKit

/-- A log's bytes. -/
def logB (D : DkD) (log : Int) : List UInt8 := rowD D.X (16 + log.toNat)
def openD (D : DkD) (log : Int) : DkD × Int :=
  if mayD log = true then (if sizeL (scanB (logB D log)) < (logB D log).length then stlD (cutD D log (sizeL (scanB (logB D log)) : Int)).1 (cutD D log (sizeL (scanB (logB D log)) : Int)).2 else (D, 0)) else (D, 2)
/-- A log that was opened. -/
structure OpenedW (w : World) (D : DkD) (log : Int) (w' : World) (d : Nat) (dm' : DkM) (q : Nat) (m : WlM) : Prop where
  ok : PairW w' d dm' q m
  lg : m.log = log
  dd : m.dead = false
  l : m.rows.map (·.l) = scanB (logB D log)
  z : m.size = sizeL (scanB (logB D log))
  n : ∀ j, footW q m j ∨ rowsW m j → w.heap.size ≤ j
def OpenPost (w : World) (d : Nat) (dm : DkM) (log : Int) (e : Ending) (w' : World) : Prop :=
  ∃ dm', dm'.d = (openD dm.d log).1 ∧ DkTo w d dm w' dm' ∧ (((openD dm.d log).2 ≠ 0 ∧ e = .returned (.tuple #[.pointer none, .int .i64 (openD dm.d log).2])) ∨
    ((openD dm.d log).2 = 0 ∧ ∃ q m, e = .returned (.tuple #[.pointer (some ⟨q, 0, none⟩), .int .i64 0]) ∧ OpenedW w dm.d log w' d dm' q m))
theorem wlC_batches (d : Nat) (m : WlM) (rows : List RowM) (A : Option Addr) (c n : Nat) : ((wlC d m).toArray.setIfInBounds 2 (.slice A rows.length c)).setIfInBounds 3 (.int .i64 (n : Int)) = (wlC d { m with rows := rows, A := A, c := c, size := n }).toArray := rfl
theorem cutD_wf' {D : DkD} (h : DkWf D) (log n : Int) : DkWf (cutD D log n).1 := cutD_wf h log n
theorem cutD_Wl (D : DkD) (log n : Int) : (cutD D log n).1.W.length ≤ D.W.length + 1 := by
  unfold cutD
  cases !(mayD log && (decide (0 ≤ n) && decide (n ≤ ((rowD D.X (16 + log.toNat)).length : Int))))
  · cases D.dead
    · show (burnD _).1.W.length ≤ _
      rw [burnD_W]
      unfold waitD
      rw [List.length_append]; exact Nat.le_refl _
    · exact Nat.le_succ _
  · exact Nat.le_succ _
theorem stlD_wf {D : DkD} (h : DkWf D) (e : Int) : DkWf (stlD D e).1 := by
  unfold stlD
  split
  · exact syncD_wf h
  · exact h
theorem WlTo.toD {w w' : World} {d q : Nat} {dm dm' : DkM} {m m' : WlM} (h : WlTo w d dm q m w' dm' m') {w0 : World} {dm0 : DkM} (h0 : DkTo w0 d dm0 w dm) (hn : ∀ j, footW q m j → w0.heap.size ≤ j) (hn' : ∀ j, rowsW m j → w0.heap.size ≤ j) : DkTo w0 d dm0 w' dm' := by
  refine ⟨h.ok.k, fun j hj => ?_, fun j hj => ?_, ?_⟩
  · rcases h.ft j (.inl hj) with (h1 | h1) | h1
    · exact h0.ft j h1
    · exact .inr (hn j h1)
    · exact .inr (Nat.le_trans h0.k.size h1)
  · rcases h.rd j (.inl hj) with (h1 | h1) | h1
    · exact h0.r j h1
    · exact .inr (hn' j h1)
    · exact .inr (Nat.le_trans h0.k.size h1)
  · refine ⟨h.k.os.trans h0.k.os, h.k.tape.trans h0.k.tape, h.k.output.trans h0.k.output, Nat.le_trans h0.k.size h.k.size, fun b hb hnf => ?_⟩
    refine (h.k.block b (Nat.lt_of_lt_of_le hb h0.k.size) (fun h1 => ?_)).trans (h0.k.block b hb hnf)
    rcases h1 with h1 | h1
    · rcases h0.ft b h1 with h2 | h2
      · exact hnf h2
      · omega
    · have := hn b h1
      omega

set_option maxHeartbeats 4000000 in
set_option maxRecDepth 100000 in
theorem open_any (w : World) (hT : Tabs w) (d : Nat) (dm : DkM) (h : DkOk w d dm) (wf : DkWf dm.d) (hW : dm.W.length ≤ 990) (log : Int) : Calls Tryd.prog 8 #[.pointer (some ⟨d, 0, none⟩), .int .i64 log] w (OpenPost w d dm log) := by
  have H := Lib.hid h
  have HT := Lib.hid hT
  have HWf := Lib.hid wf
  have HWl := Lib.hid hW
  have hrd := readLog_any w d dm h wf log
  unfold DReadPost ptrD at hrd
  clear h hT wf hW
  unfold OpenPost
  cases hm : mayD log with
  | false =>
    have HO : Hid (openD dm.d log = (dm.d, 2)) := by show _ = _; unfold openD; rw [hm]; rfl
    have e1 : readD dm.d log = ([], 2) := by unfold readD; rw [hm]; rfl
    rw [e1] at hrd
    rw [HO.out]
    clear hm e1
    go_enter Tryd.func8, Tryd.ntmps8
    go_wp2_with (first
      | (go_at_call 18; refine hrd.mono ?_; rintro e w1 ⟨r, rfl, -, -, -, hb⟩; have V1 := Lib.hid hb; clear hb; (obtain ⟨rv, hrv⟩ : ∃ x, r.v = x := ⟨_, rfl⟩); rw [hrv]; clear hrv))
    go_ret2
    exact ⟨dm, rfl, DkTo.below H.out V1.out, .inl ⟨by decide, rfl⟩⟩
  | true =>
    have e1 : readD dm.d log = (logB dm.d log, 0) := by unfold readD logB; rw [hm]; rfl
    have HBl : Hid ((logB dm.d log).length ≤ 16777216) := HWf.out.m _
    have HO : Hid (openD dm.d log = if sizeL (scanB (logB dm.d log)) < (logB dm.d log).length then stlD (cutD dm.d log (sizeL (scanB (logB dm.d log)) : Int)).1 (cutD dm.d log (sizeL (scanB (logB dm.d log)) : Int)).2 else (dm.d, 0)) := by show _ = _; unfold openD; rw [hm]; rfl
    rw [e1] at hrd
    obtain ⟨b, hb⟩ : ∃ b, logB dm.d log = b := ⟨_, rfl⟩
    have Hb := Lib.hid hb
    rw [hb] at hrd HBl HO
    obtain ⟨sz, hsz⟩ : ∃ sz, sizeL (scanB b) = sz := ⟨_, rfl⟩
    have HSz := Lib.hid hsz
    rw [hsz] at HO
    clear hm e1 hb hsz
    go_enter Tryd.func8, Tryd.ntmps8
    go_upto_region 4 with (first
      | (go_at_call 18; refine hrd.mono ?_; rintro e w1 ⟨⟨A1, c1, l1⟩, rfl, hl1, ho1, -, hb1⟩; obtain rfl : l1 = b := hl1; (have hv1 : RowM.v ⟨A1, c1, l1⟩ = .slice A1 l1.length c1 := rfl); rw [hv1]; clear hv1; have V1 := Lib.hid hb1; have O1 := Lib.hid ho1; clear hb1 ho1))
    have D1 : Hid (DkOk w1 d dm) := (DkTo.below H.out V1.out).ok
    have BQ : Hid (Blk (w1.alloc (.cells #[.pointer (some ⟨d, 0, none⟩), .int .i64 log, .slice none 0 0, .int .i64 0, .bool false] 61)) w1.heap.size 61 (wlC d ⟨log, [], none, 0, 0, false⟩).toArray) := heap_alloc_new w1 _
    have VQ : Hid (Below w1.heap.size w1 (w1.alloc (.cells #[.pointer (some ⟨d, 0, none⟩), .int .i64 log, .slice none 0 0, .int .i64 0, .bool false] 61))) := nxAlloc (nxRefl w1) _
    go_upto_region 5 with fail
    obtain ⟨w2, hw2⟩ : ∃ x, w1.alloc (.cells #[.pointer (some ⟨d, 0, none⟩), .int .i64 log, .slice none 0 0, .int .i64 0, .bool false] 61) = x := ⟨_, rfl⟩
    rw [hw2] at BQ VQ ⊢
    have HQl : Hid (w1.heap.size < w2.heap.size) := BQ.out.lt
    have P2 : Hid (PairW w2 d dm w1.heap.size ⟨log, [], none, 0, 0, false⟩) := by
      have hn : ∀ j, footW w1.heap.size ⟨log, [], none, 0, 0, false⟩ j → j = w1.heap.size := fun j hj => hj.elim id (fun e => by cases e)
      refine ⟨(DkTo.below D1.out VQ.out).ok, ⟨BQ.out, World.ownsRow_nil _ _ _ _, fun r hr => by cases hr⟩, HWf.out, fun j hj hf => ?_, fun j hj hr => ?_⟩
      · have hlt := D1.out.foot_lt hf
        rcases hj with hj | ⟨r, hr, _⟩
        · have := hn j hj; omega
        · cases hr
      · have hlt := (D1.out.f j hr).2
        have := hn j hj; omega
    have O2 : Hid ((⟨A1, c1, l1⟩ : RowM).own w2) := RowM.keep O1.out (Keeps.of_below VQ.out (fun _ => False)) (fun _ _ h => h)
    have HQ0 : Hid (w.heap.size ≤ w1.heap.size) := V1.out.size
    have V2 : Hid (Below w.heap.size w w2) := nxTrD V1.out VQ.out
    obtain ⟨q, hq⟩ : ∃ q, w1.heap.size = q := ⟨_, rfl⟩
    rw [hq] at BQ P2 HQ0 HQl ⊢
    clear hw2 VQ D1 O1 V1 hq
    go_upto_region 6 with (first
      | (go_at_call 19; refine (scan_any w2 (HT.out.later V2.out) A1 c1 l1 (RowM.sees O2.out) (RowM.len O2.out).1 (RowM.len O2.out).2 (by have := HBl.out; omega)).mono ?_; unfold ScanPost; rw [HSz.out]; rintro e w3 ⟨rows, A3, c3, rfl, hl3, ho3, hr3, hb3⟩; have L3 := Lib.hid hl3; have O3 := Lib.hid ho3; have R3 := Lib.hid hr3; have V3 := Lib.hid hb3; clear hl3 ho3 hr3 hb3; (have B3 : Hid (Blk w3 q 61 (wlC d ⟨log, [], none, 0, 0, false⟩).toArray) := BQ.out.below V3.out BQ.out.lt); (have c2 : w3.cell? ⟨q, 2, none⟩ = some (.slice none 0 0) := B3.out.cell 2); (have f2 : w3.frozen? ⟨q, 2, none⟩ = false := B3.out.frozen 2); (have c3q : w3.cell? ⟨q, 3, none⟩ = some (.int .i64 0) := B3.out.cell 3); (have f3 : w3.frozen? ⟨q, 3, none⟩ = false := B3.out.frozen 3)))
    have BL5 : Hid (Blk ((w3.setCell ⟨q, 2, none⟩ (.slice A3 rows.length c3)).setCell ⟨q, 3, none⟩ (.int .i64 (sz : Int))) q 61 (wlC d ⟨log, rows, A3, c3, sz, false⟩).toArray) := by
      show Blk _ _ _ _
      exact (B3.out.set 2 _).set 3 _
    have K35 : Hid (Keeps (fun j => j = q) w3 ((w3.setCell ⟨q, 2, none⟩ (.slice A3 rows.length c3)).setCell ⟨q, 3, none⟩ (.int .i64 (sz : Int)))) := Keeps.setCell (S := fun j => j = q) (p := ⟨q, 3, none⟩) (Keeps.setCell (S := fun j => j = q) (p := ⟨q, 2, none⟩) (Keeps.refl _ _) rfl _) rfl _
    obtain ⟨w5, hw5⟩ : ∃ x, (w3.setCell ⟨q, 2, none⟩ (.slice A3 rows.length c3)).setCell ⟨q, 3, none⟩ (.int .i64 (sz : Int)) = x := ⟨_, rfl⟩
    rw [hw5] at BL5 K35 ⊢
    have c3n : w5.cell? ⟨q, 3, none⟩ = some (.int .i64 (sz : Int)) := BL5.out.cell 3
    have c0n : w5.cell? ⟨q, 0, none⟩ = some (.pointer (some ⟨d, 0, none⟩)) := BL5.out.cell 0
    have N3 : Hid (∀ j, footW q ⟨log, rows, A3, c3, sz, false⟩ j → j = q ∨ w2.heap.size ≤ j) := fun j hj => hj.elim .inl (fun e => .inr (O3.out.lt j (by rw [own_blkD]; exact e)).1)
    have N4 : Hid (∀ j, rowsW ⟨log, rows, A3, c3, sz, false⟩ j → w2.heap.size ≤ j) := fun j ⟨r, hr, e⟩ => (R3.out r hr).2 j e
    have T5 : Hid (WlTo w2 d dm q ⟨log, [], none, 0, 0, false⟩ w5 dm ⟨log, rows, A3, c3, sz, false⟩) := by
      refine WlTo.log P2.out ⟨BL5.out, own_keep (own_lessW O3.out (Nat.zero_le _)) K35.out (fun j hj e => ?_), fun r hr => RowM.keep (R3.out r hr).1 K35.out (fun j hj e => ?_)⟩ ((Keeps.of_below V3.out _).trans (K35.out.mono (fun j _ hj => .inl hj))) (fun j hj => (N3.out j hj).imp .inl id) (fun j hj => .inr (N4.out j hj))
      · subst e
        exact B3.out.notOwn O3.out (by decide) hj.symm
      · have h3 := (R3.out r hr).2 j hj
        have := HQl.out
        omega
    clear c2 f2 c3q f3 hw5 B3 BL5 K35 V3 O3 R3
    have HTD : Hid (∀ {w' : World} {dm' : DkM} {m' : WlM}, WlTo w2 d dm q ⟨log, [], none, 0, 0, false⟩ w' dm' m' → DkTo w d dm w' dm') := fun t => t.toD (DkTo.below H.out V2.out) (fun j hj => hj.elim (fun e => by rw [e]; exact HQ0.out) (fun e => by cases e)) (fun j ⟨r, hr, _⟩ => by cases hr)
    have HNew : Hid (∀ j, footW q ⟨log, rows, A3, c3, sz, false⟩ j ∨ rowsW ⟨log, rows, A3, c3, sz, false⟩ j → w.heap.size ≤ j) := fun j hj => by
      have h2 := V2.out.size
      rcases hj with hj | hj
      · rcases N3.out j hj with e | e
        · rw [e]; exact HQ0.out
        · omega
      · have := N4.out j hj; omega
    have HOpd : Hid (∀ {w' : World} {dm' : DkM}, PairW w' d dm' q ⟨log, rows, A3, c3, sz, false⟩ → OpenedW w dm.d log w' d dm' q ⟨log, rows, A3, c3, sz, false⟩) := fun p => ⟨p, rfl, rfl, by rw [Hb.out]; exact L3.out, by rw [Hb.out, HSz.out], HNew.out⟩
    by_cases hlt : sz < l1.length
    · have hlt2 : (sz : Int) < (l1.length : Int) := by omega
      rw [if_pos hlt] at HO
      obtain ⟨R, hR⟩ : ∃ R, stlD (cutD dm.d log (sz : Int)).1 (cutD dm.d log (sz : Int)).2 = R := ⟨_, rfl⟩
      have HR := Lib.hid hR
      rw [hR] at HO
      have HWR : Hid (DkWf (cutD dm.d log (sz : Int)).1) := cutD_wf' HWf.out _ _
      have HWc : Hid ((cutD dm.d log (sz : Int)).1.W.length ≤ 991) := by
        have h1 := cutD_Wl dm.d log (sz : Int)
        have h2 := HWl.out
        rw [DkM.wlen] at h2
        show _ ≤ _
        omega
      have hE : R.2 = 0 ∨ R.2 = 19 := by rw [← hR]; unfold stlD; split <;> (try split) <;> simp
      clear hR hlt
      have hct := cutStep_any w5 d dm T5.out.ok.k HWf.out (by have := HWl.out; omega) log (sz : Int)
      unfold DkPost ptrD at hct
      obtain ⟨ec, hec⟩ : ∃ ec, (cutD dm.d log (sz : Int)).2 = ec := ⟨_, rfl⟩
      have HEc := Lib.hid hec
      rw [hec] at hct
      clear hec
      rcases hE with hE | hE
      · have HE := Lib.hid hE
        go_wp2_with (first
          | (go_at_call 21; refine hct.mono ?_; rintro e w6 ⟨rfl, dm6, ht6, hd6⟩; have T6 := Lib.hid ht6; have D6 := Lib.hid hd6; clear ht6 hd6; (have T56 := Lib.hid (T5.out.trans (WlTo.disk T5.out.ok T6.out (by rw [D6.out]; exact HWR.out)))))
          | (go_at_call 20; refine (settle_any' w6 d dm6 q _ T56.out.ok (by rw [DkM.wlen, D6.out]; have := HWc.out; omega) ec).mono ?_; unfold StlPost; rw [D6.out, ← HEc.out, HR.out, HE.out]; rintro e w7 ⟨rfl, dm7, hd7, ht7⟩; have D7 := Lib.hid hd7; have T7 := Lib.hid (T56.out.trans ht7); clear hd7 ht7))
        go_ret2
        rw [HO.out]
        refine ⟨dm7, D7.out, HTD.out T7.out, .inr ⟨HE.out, q, _, rfl, HOpd.out ?_⟩⟩
        have := T7.out.ok
        simpa using this
      · have HE := Lib.hid hE
        go_wp2_with (first
          | (go_at_call 21; refine hct.mono ?_; rintro e w6 ⟨rfl, dm6, ht6, hd6⟩; have T6 := Lib.hid ht6; have D6 := Lib.hid hd6; clear ht6 hd6; (have T56 := Lib.hid (T5.out.trans (WlTo.disk T5.out.ok T6.out (by rw [D6.out]; exact HWR.out)))))
          | (go_at_call 20; refine (settle_any' w6 d dm6 q _ T56.out.ok (by rw [DkM.wlen, D6.out]; have := HWc.out; omega) ec).mono ?_; unfold StlPost; rw [D6.out, ← HEc.out, HR.out, HE.out]; rintro e w7 ⟨rfl, dm7, hd7, ht7⟩; have D7 := Lib.hid hd7; have T7 := Lib.hid (T56.out.trans ht7); clear hd7 ht7))
        go_ret2
        rw [HO.out]
        exact ⟨dm7, D7.out, HTD.out T7.out, .inl ⟨by rw [HE.out]; decide, by rw [HE.out]; rfl⟩⟩
    · have hlt2 : ¬ (sz : Int) < (l1.length : Int) := by omega
      rw [if_neg hlt] at HO
      clear hlt
      go_wp2
      go_ret2
      rw [HO.out]
      refine ⟨dm, rfl, HTD.out T5.out, Or.inr (And.intro rfl ?_)⟩
      exact ⟨q, rfl, _, HOpd.out T5.out.ok⟩
end Go.Proofs.YthamlphebnhcpaaDoor

namespace Go.Proofs.YthamlphebnhcpaaDoor
open Go.RowKit

/-- A log's data. -/
structure LgD where
  log : Int
  all : List (List UInt8)
  size : Nat
  dead : Bool
def WlM.d (m : WlM) : LgD := ⟨m.log, m.rows.map (·.l), m.size, m.dead⟩
def putW (D : DkD) (L : LgD) (b : List UInt8) : DkD × LgD × Int :=
  if L.dead = true then (D, L, 20) else if 4194304 < b.length then (D, L, 3) else
  if (appendD D L.log (recB (L.all.length + 1) b)).2 = 8 then ((appendD D L.log (recB (L.all.length + 1) b)).1, L, 8) else
  if (stlD (appendD D L.log (recB (L.all.length + 1) b)).1 (appendD D L.log (recB (L.all.length + 1) b)).2).2 = 0 then
    ((stlD (appendD D L.log (recB (L.all.length + 1) b)).1 (appendD D L.log (recB (L.all.length + 1) b)).2).1, ⟨L.log, L.all ++ [b], L.size + (recB (L.all.length + 1) b).length, false⟩, 0)
  else ((stlD (appendD D L.log (recB (L.all.length + 1) b)).1 (appendD D L.log (recB (L.all.length + 1) b)).2).1, ⟨L.log, L.all, L.size, true⟩, 19)
theorem appendD_Wl (D : DkD) (log : Int) (b : List UInt8) : (appendD D log b).1.W.length ≤ D.W.length + 1 := by
  unfold appendD
  cases !mayD log
  · cases D.dead
    · cases decide (16777216 < (rowD D.X (16 + log.toNat)).length + b.length)
      · show (burnD _).1.W.length ≤ _
        rw [burnD_W]
        unfold waitD
        rw [List.length_append]; exact Nat.le_refl _
      · exact Nat.le_succ _
    · exact Nat.le_succ _
  · exact Nat.le_succ _
theorem stlD_2 (D : DkD) (e : Int) : (stlD D e).2 = 0 ∨ (stlD D e).2 = 19 := by unfold stlD; split <;> (try split) <;> simp
theorem DkTo.undrew {w w' : World} {g : Nat} {m m' : DkM} (h : DkTo w.drew g m w' m') : DkTo w g m w' m' := ⟨h.ok, h.ft, h.r, ⟨h.k.os, h.k.tape, h.k.output, h.k.size, h.k.block⟩⟩
def WPutPost (w : World) (d : Nat) (dm : DkM) (q : Nat) (m : WlM) (R : DkD × LgD × Int) (e : Ending) (w' : World) : Prop := e = .returned (.int .i64 R.2.2) ∧ ∃ dm' m', dm'.d = R.1 ∧ m'.d = R.2.1 ∧ WlTo w d dm q m w' dm' m'
theorem Sees.offW {w w' : World} {S : Nat → Prop} {A : Option Addr} {l : List UInt8} (h : Sees w w.heap.size A l) (k : Keeps S w w') (ho : l ≠ [] → ∀ a, A = some a → ¬ S a.block) : Sees w' w'.heap.size A l := by
  by_cases hne : l = []
  · exact .inl hne
  rcases h with h | ⟨b, off, hA, hb, hc⟩
  · exact .inl h
  · exact .inr ⟨b, off, hA, Nat.lt_of_lt_of_le hb k.size, fun i hi => (k.cell (p := ⟨b, off + i, none⟩) hb (ho hne ⟨b, off, none⟩ hA)).trans (hc i hi)⟩
theorem wlC_size3 (d : Nat) (m : WlM) (n : Nat) : (wlC d m).toArray.setIfInBounds 3 (.int .i64 (n : Int)) = (wlC d { m with size := n }).toArray := rfl
/-- One batch more. -/
theorem WlTo.more {w w4 w8 : World} {d q : Nat} {dm : DkM} {m : WlM} (h : PairW w d dm q m) {A8 A9 : Option Addr} {c8 c9 : Nat} {x : List UInt8}
    (v4 : Below w.heap.size w w4) (ho9 : (⟨A9, c9, x⟩ : RowM).own w4) (hb9 : ∀ j, (⟨A9, c9, x⟩ : RowM).bk = some j → w.heap.size ≤ j)
    (ho8 : w8.ownsRow 0 39 1 (.slice A8 (m.rows.length + 1) c8) (m.rows.length + 1) (rowsC m.rows ++ [.slice A9 x.length c9])) (k8 : Keeps (fun j => (Value.slice m.A m.rows.length m.c).ownBlock = some j) w4 w8)
    (hat : (Value.slice A8 (m.rows.length + 1) c8).ownBlock = (Value.slice m.A m.rows.length m.c).ownBlock ∨ ∃ j, (Value.slice A8 (m.rows.length + 1) c8).ownBlock = some j ∧ w4.heap.size ≤ j) :
    WlTo w d dm q m (w8.setCell ⟨q, 2, none⟩ (.slice A8 (m.rows.length + 1) c8)) dm { m with rows := m.rows ++ [⟨A9, c9, x⟩], A := A8, c := c8 } := by
  have hz4 := v4.size
  have hz8 := k8.size
  have hl4 : WlOk w4 q d m := h.l.below v4
  have hB8 : Blk w8 q 61 (wlC d m).toArray := hl4.b.keeps k8 (fun e => hl4.b.notOwn hl4.ww (by decide) e.symm)
  have hblk : ∀ j, (Value.slice m.A m.rows.length m.c).ownBlock = some j → m.A.map (·.block) = some j := fun j hj => by rw [own_blkD] at hj; exact hj
  have hap : ∀ {r : RowM}, r.own w4 → ∀ j, r.bk = some j → ¬ (Value.slice m.A m.rows.length m.c).ownBlock = some j := fun hr j hj => own_apart hr hl4.ww (by decide) j (by rw [RowM.v, own_blkD]; exact hj)
  have hlen : (m.rows ++ [(⟨A9, c9, x⟩ : RowM)]).length = m.rows.length + 1 := by rw [List.length_append]; rfl
  have kq : Keeps (fun j => j = q) w8 (w8.setCell ⟨q, 2, none⟩ (.slice A8 (m.rows.length + 1) c8)) := Keeps.setCell (S := fun j => j = q) (p := ⟨q, 2, none⟩) (Keeps.refl _ _) rfl _
  have hq9 : ∀ {r : RowM}, r.own w8 → ∀ j, r.bk = some j → ¬ j = q := fun hr j hj e => by
    subst e
    have h3 := hB8.notOwn hr (by decide)
    rw [RowM.v, own_blkD] at h3
    exact h3 hj.symm
  refine WlTo.log h ⟨?_, ?_, ?_⟩ (((Keeps.of_below v4 _).trans (k8.mono (fun j _ hj => .inr (hblk j hj)))).trans (kq.mono (fun j _ hj => .inl hj))) (fun j hj => ?_) (fun j hj => ?_)
  · have := hB8.set 2 (.slice A8 (m.rows.length + 1) c8)
    have e : (wlC d { m with rows := m.rows ++ [⟨A9, c9, x⟩], A := A8, c := c8 }).toArray = (wlC d m).toArray.setIfInBounds 2 (.slice A8 (m.rows.length + 1) c8) := by
      show (#[_, _, .slice A8 (m.rows ++ [(⟨A9, c9, x⟩ : RowM)]).length c8, _, _] : Array Value) = _
      rw [hlen]; rfl
    rw [e]; exact this
  · show World.ownsRow _ 0 _ 1 (.slice A8 (m.rows ++ [(⟨A9, c9, x⟩ : RowM)]).length c8) (m.rows ++ [(⟨A9, c9, x⟩ : RowM)]).length (rowsC (m.rows ++ [(⟨A9, c9, x⟩ : RowM)]))
    rw [hlen, rowsC_snoc]
    exact own_keep ho8 kq (fun j hj e => by subst e; exact hB8.notOwn ho8 (by decide) hj.symm)
  · intro r hr
    have h8 : r.own w8 := by
      rcases List.mem_append.1 hr with hr | hr
      · exact RowM.keep (hl4.o r hr) k8 (fun j hj e => hap (hl4.o r hr) j hj e)
      · rw [List.mem_singleton.1 hr]
        exact RowM.keep ho9 k8 (fun j hj e => hap ho9 j hj e)
    exact RowM.keep h8 kq (fun j hj e => hq9 h8 j hj e)
  · rcases hj with hj | hj
    · exact .inl (.inl hj)
    · rcases hat with e | ⟨j2, e, hj2⟩
      · rw [own_blkD, own_blkD] at e
        exact .inl (.inr (e ▸ hj))
      · rw [own_blkD] at e
        rw [show (A8.map (·.block)) = some j from hj] at e
        injection e with e
        exact .inr (by omega)
  · obtain ⟨r, hr, hb⟩ := hj
    rcases List.mem_append.1 hr with hr | hr
    · exact .inl ⟨r, hr, hb⟩
    · rw [List.mem_singleton.1 hr] at hb
      exact .inr (hb9 j hb)

set_option maxHeartbeats 4000000 in
set_option maxRecDepth 100000 in
theorem put_anyW (w : World) (hT : Tabs w) (d : Nat) (dm : DkM) (q : Nat) (m : WlM) (h : PairW w d dm q m) (hW : dm.W.length ≤ 900) (hr : m.rows.length ≤ 1000000000) (hz : m.size ≤ 1000000000000) (A : Option Addr) (c : Nat) (b : List UInt8) (hS : Sees w w.heap.size A b) (hbc : b.length ≤ c) (hb63 : b.length < 9223372036854775808) (hoff : b ≠ [] → ∀ a, A = some a → ¬ (foot d dm a.block ∨ footW q m a.block)) :
    Calls Tryd.prog 16 #[.pointer (some ⟨q, 0, none⟩), .slice A b.length c] w (WPutPost w d dm q m (putW dm.d m.d b)) := by
  have H := Lib.hid h
  have HT := Lib.hid hT
  have HWl := Lib.hid hW
  have HRn := Lib.hid hr
  have HZ := Lib.hid hz
  have HS := Lib.hid hS
  have HBc := Lib.hid hbc
  have HIs := Lib.hid (isOpen_any w q d m h.l)
  have HOff := Lib.hid hoff
  have c4 : w.cell? ⟨q, 4, none⟩ = some (.bool m.dead) := h.l.b.cell 4
  have c2 : w.cell? ⟨q, 2, none⟩ = some (.slice m.A m.rows.length m.c) := h.l.b.cell 2
  unfold WPutPost
  by_cases hd : m.dead = true
  · have HP : Hid (putW dm.d m.d b = (dm.d, m.d, 20)) := by show _ = _; unfold putW; rw [if_pos (show m.d.dead = true from hd)]
    rw [hd] at c4
    clear h hT hW hr hz hS hbc hoff hd c2
    go_enter Tryd.func16, Tryd.ntmps16
    go_wp2_with (first
      | (go_at_call 34; refine HIs.out.mono ?_; rintro e w1 ⟨rfl, hw1⟩; obtain rfl := hw1.symm))
    go_ret
    rw [HP.out]
    exact ⟨rfl, dm, m, rfl, rfl, WlTo.refl H.out⟩
  have hdf : m.dead = false := by simpa using hd
  by_cases hlong : 4194304 < b.length
  · have HP : Hid (putW dm.d m.d b = (dm.d, m.d, 3)) := by show _ = _; unfold putW; rw [if_neg (show ¬ m.d.dead = true from hd), if_pos hlong]
    have hl2 : (4194304 : Int) < (b.length : Int) := by omega
    rw [hdf] at c4
    clear h hT hW hr hz hS hbc hoff hd hlong c2
    go_enter Tryd.func16, Tryd.ntmps16
    go_wp2_with (first
      | (go_at_call 34; refine HIs.out.mono ?_; rintro e w1 ⟨rfl, hw1⟩; obtain rfl := hw1.symm))
    go_ret
    rw [HP.out]
    exact ⟨rfl, dm, m, rfl, rfl, WlTo.refl H.out⟩
  have hl2 : ¬ (4194304 : Int) < (b.length : Int) := by omega
  have HBl : Hid (b.length ≤ 4194304) := by show _ ≤ _; omega
  obtain ⟨N, hN⟩ : ∃ N, m.rows.length + 1 = N := ⟨_, rfl⟩
  have hnl : IntKind.u64.wrap (m.rows.length : Int) = (m.rows.length : Int) := by rw [IntKind.wrap_u64]; omega
  have hnz : IntKind.u64.wrap ((m.rows.length : Int) + 1) = (N : Int) := by rw [IntKind.wrap_u64]; omega
  have hN64 : N < 18446744073709551616 := by omega
  have hrec := record_any w hT N hN64 A c b hS HBl.out hbc
  have hRl := recB_len N b
  obtain ⟨R, hR⟩ : ∃ R, recB N b = R := ⟨_, rfl⟩
  have HR := Lib.hid hR
  unfold OwnPost at hrec
  rw [hR] at hrec hRl
  have HRl := Lib.hid hRl
  have hNd : m.d.all.length + 1 = N := by rw [← hN]; show (m.rows.map (·.l)).length + 1 = _; rw [List.length_map]
  have HP0 : Hid (putW dm.d m.d b = if (appendD dm.d m.log R).2 = 8 then ((appendD dm.d m.log R).1, m.d, 8) else if (stlD (appendD dm.d m.log R).1 (appendD dm.d m.log R).2).2 = 0 then ((stlD (appendD dm.d m.log R).1 (appendD dm.d m.log R).2).1, ⟨m.log, m.d.all ++ [b], m.size + R.length, false⟩, 0) else ((stlD (appendD dm.d m.log R).1 (appendD dm.d m.log R).2).1, ⟨m.log, m.d.all, m.size, true⟩, 19)) := by
    show _ = _
    unfold putW
    rw [if_neg (show ¬ m.d.dead = true from hd), if_neg hlong, hNd, hR]
    rfl
  obtain ⟨AP, hAP⟩ : ∃ AP, appendD dm.d m.log R = AP := ⟨_, rfl⟩
  have HAP := Lib.hid hAP
  have HAW : Hid (AP.1.W.length ≤ 901) := by
    have h1 := appendD_Wl dm.d m.log R
    rw [hAP] at h1
    rw [DkM.wlen] at hW
    show _ ≤ _
    omega
  have HAf : Hid (DkWf AP.1) := by show DkWf _; rw [← hAP]; exact appendD_wf h.wf _ _
  rw [hAP] at HP0
  obtain ⟨SP, hSP⟩ : ∃ SP, stlD AP.1 AP.2 = SP := ⟨_, rfl⟩
  have HSP := Lib.hid hSP
  have hE := stlD_2 AP.1 AP.2
  rw [hSP] at HP0 hE
  have HN1 := Lib.hid hN
  rw [hdf] at c4
  clear h hT hW hr hz hS hbc hoff hd hlong hAP hSP hR hNd hRl hN hN64
  go_enter Tryd.func16, Tryd.ntmps16
  go_upto_region 8 with (first
    | (go_at_call 34; refine HIs.out.mono ?_; rintro e w1 ⟨rfl, hw1⟩; obtain rfl := hw1.symm)
    | (go_at_call 36; refine hrec.mono ?_; rintro e w1 ⟨A1, c1, rfl, ho1, hb1⟩; have O1 : Hid (Sees w1 w1.heap.size A1 R) := Sees.own ho1; have V1 := Lib.hid hb1; clear ho1 hb1))
  have T1 : Hid (WlTo w d dm q m w1 dm m) := WlTo.below H.out V1.out
  have C0 : Hid (w1.cell? ⟨q, 0, none⟩ = some (.pointer (some ⟨d, 0, none⟩))) := T1.out.ok.l.b.cell 0
  have C1 : Hid (w1.cell? ⟨q, 1, none⟩ = some (.int .i64 m.log)) := T1.out.ok.l.b.cell 1
  have HSb : Hid (Sees w1 w1.heap.size A b) := (HS.out.later V1.out).more V1.out.size
  have hap := append_any w1.drew d dm T1.out.ok.k.drew T1.out.ok.wf (by have := HWl.out; omega) m.log A1 R c1 O1.out (by have := HRl.out; have := HBl.out; omega)
  rw [HAP.out] at hap
  unfold DkPost ptrD at hap
  have HApp := Lib.hid hap
  clear c4 c2 hrec hap HIs
  refine wp_region_held_drew (S := fun W => W.cell? ⟨q, 0, none⟩ = some (.pointer (some ⟨d, 0, none⟩)) ∧ W.cell? ⟨q, 1, none⟩ = some (.int .i64 m.log)) (by kernel_rfl) ⟨C0.out, C1.out⟩ (fun hHeld => ?_)
  refine wpAnyH_take (i := 0) (oi := ⟨_, _, _, _, _, _⟩) (v := ?_) rfl (by kernel_rfl) (by kernel_rfl) (by kernel_rfl) (fun _ _ _ h => h) (Or.inl ⟨by rfl, ?_⟩) (by assumption) ?_
  rotate_left 1
  · intro W hSw
    try dsimp only at hSw
    obtain ⟨hs1, hs2⟩ := hSw
    go_simp
    try with_reducible rfl
  try simp only [Act.put, List.setIfInBounds_toArray, List.set_cons_zero, List.set_cons_succ]
  refine wpAnyH_take (i := 1) (oi := ⟨_, _, _, _, _, _⟩) (v := ?_) rfl (by kernel_rfl) (by kernel_rfl) (by kernel_rfl) (fun _ _ _ h => h) (Or.inl ⟨by rfl, ?_⟩) (by assumption) ?_
  rotate_left 1
  · intro W hSw
    try dsimp only at hSw
    obtain ⟨hs1, hs2⟩ := hSw
    go_simp
    try with_reducible rfl
  try simp only [Act.put, List.setIfInBounds_toArray, List.set_cons_zero, List.set_cons_succ]
  refine wpAnyH_take (i := 2) (oi := ⟨_, _, _, _, _, _⟩) (v := ?_) rfl (by kernel_rfl) (by kernel_rfl) (by kernel_rfl) (fun _ _ _ h => h) (Or.inl ⟨by rfl, ?_⟩) (by assumption) ?_
  rotate_left 1
  · intro W hSw
    try dsimp only at hSw
    obtain ⟨hs1, hs2⟩ := hSw
    go_simp
    try with_reducible rfl
  try simp only [Act.put, List.setIfInBounds_toArray, List.set_cons_zero, List.set_cons_succ]
  refine wpAnyH_take (i := 3) (oi := ⟨_, _, _, _, _, _⟩) (v := ?_) rfl (by kernel_rfl) (by kernel_rfl) (by kernel_rfl) (fun _ _ _ h => h) (Or.inl ⟨by rfl, ?_⟩) (by assumption) ?_
  rotate_left 1
  · intro W hSw
    try dsimp only at hSw
    obtain ⟨hs1, hs2⟩ := hSw
    go_simp
    try with_reducible rfl
  try simp only [Act.put, List.setIfInBounds_toArray, List.set_cons_zero, List.set_cons_succ]
  refine wpAnyH_take (i := 4) (oi := ⟨_, _, _, _, _, _⟩) (v := ?_) rfl (by kernel_rfl) (by kernel_rfl) (by kernel_rfl) (fun _ _ _ h => h) (Or.inl ⟨by rfl, ?_⟩) (by assumption) ?_
  rotate_left 1
  · intro W hSw
    try dsimp only at hSw
    obtain ⟨hs1, hs2⟩ := hSw
    go_simp
    try with_reducible rfl
  try simp only [Act.put, List.setIfInBounds_toArray, List.set_cons_zero, List.set_cons_succ]
  refine wpAnyH_take (i := 5) (oi := ⟨_, _, _, _, _, _⟩) (v := ?_) rfl (by kernel_rfl) (by kernel_rfl) (by kernel_rfl) (fun _ _ _ h => h) (Or.inl ⟨by rfl, ?_⟩) (by assumption) ?_
  rotate_left 1
  · intro W hSw
    try dsimp only at hSw
    obtain ⟨hs1, hs2⟩ := hSw
    go_simp
    try with_reducible rfl
  try simp only [Act.put, List.setIfInBounds_toArray, List.set_cons_zero, List.set_cons_succ]
  refine wpAnyH_take (i := 6) (oi := ⟨_, _, _, _, _, _⟩) (v := ?_) rfl (by kernel_rfl) (by kernel_rfl) (by kernel_rfl) (fun _ _ _ h => h) (Or.inl ⟨by rfl, ?_⟩) (by assumption) ?_
  rotate_left 1
  · intro W hSw
    try dsimp only at hSw
    obtain ⟨hs1, hs2⟩ := hSw
    go_simp
    try with_reducible rfl
  try simp only [Act.put, List.setIfInBounds_toArray, List.set_cons_zero, List.set_cons_succ]
  refine wpAnyH_take (i := 7) (oi := ⟨_, _, _, _, _, _⟩) (v := ?_) rfl (by kernel_rfl) (by kernel_rfl) (by kernel_rfl) (fun _ _ _ h => h) (Or.inl ⟨by rfl, ?_⟩) (by assumption) ?_
  rotate_left 1
  · intro W hSw
    try dsimp only at hSw
    obtain ⟨hs1, hs2⟩ := hSw
    go_simp
    try with_reducible rfl
  try simp only [Act.put, List.setIfInBounds_toArray, List.set_cons_zero, List.set_cons_succ]
  refine wpAnyH_take (i := 8) (oi := ⟨_, _, _, _, _, _⟩) (v := ?_) rfl (by kernel_rfl) (by kernel_rfl) (by kernel_rfl) (fun _ _ _ h => h) (Or.inl ⟨by rfl, ?_⟩) (by assumption) ?_
  rotate_left 1
  · intro W hSw
    try dsimp only at hSw
    obtain ⟨hs1, hs2⟩ := hSw
    go_simp
    try with_reducible rfl
  try simp only [Act.put, List.setIfInBounds_toArray, List.set_cons_zero, List.set_cons_succ]
  refine wpAnyH_ready (rs := [9]) (by kernel_rfl) (by simp) ?_
  refine AllReadyH.cons rfl (fun K hK => ?_) AllReadyH.nil
  go_simp
  go_at_call 37
  refine HApp.out.mono ?_
  rintro e w2 ⟨rfl, dm2, ht2, hd2⟩
  have T2 : Hid (WlTo w d dm q m w2 dm2 m) := T1.out.trans (WlTo.disk T1.out.ok ht2.undrew (by rw [hd2]; exact HAf.out))
  have D2 := Lib.hid hd2
  clear ht2 hd2
  refine hK.out _ _ ⟨T2.out.ok.l.b.cell 0, T2.out.ok.l.b.cell 1⟩ (fun hSn => ?_)
  clear hK K
  try simp only [Act.put, List.setIfInBounds_toArray, List.set_cons_zero, List.set_cons_succ]
  refine wpAnyH_take (i := 10) (oi := ⟨_, _, _, _, _, _⟩) (v := ?_) rfl (by kernel_rfl) (by kernel_rfl) (by kernel_rfl) (fun _ _ _ h => h) (Or.inl ⟨by rfl, ?_⟩) (by assumption) ?_
  rotate_left 1
  · intro W hSw
    try dsimp only at hSw
    obtain ⟨hs1, hs2⟩ := hSw
    go_simp
    try with_reducible rfl
  try simp only [Act.put, List.setIfInBounds_toArray, List.set_cons_zero, List.set_cons_succ]
  refine wpAnyH_done (by kernel_rfl) ?_ _
  clear hHeld hSn
  by_cases h8 : AP.2 = 8
  · rw [if_pos h8] at HP0
    go_wp2
    go_ret
    rw [HP0.out]
    exact ⟨by show Ending.returned (.int .i64 AP.2) = _; rw [h8], dm2, m, D2.out, rfl, T2.out⟩
  have h8b : (AP.2 == 8) = false := beq_eq_false_iff_ne.2 h8
  rw [if_neg h8] at HP0
  have hst := settle_any' w2 d dm2 q m T2.out.ok (by rw [DkM.wlen, D2.out]; have := HAW.out; omega) AP.2
  rw [D2.out, HSP.out] at hst
  unfold StlPost at hst
  clear h8
  rcases hE with hE | hE
  · rw [hE] at hst
    rw [if_pos hE] at HP0
    have HSt := Lib.hid hst
    clear hst
    have HSz : Hid (m.size ≤ 1000000000000 ∧ R.length ≤ 4194324) := ⟨HZ.out, by have := HRl.out; have := HBl.out; omega⟩
    obtain ⟨ap, hap⟩ : ∃ x, AP.2 = x := ⟨_, rfl⟩
    rw [hap] at h8b HSt ⊢
    clear hap
    go_upto_region 13 with (first
      | (go_at_call 20; refine HSt.out.mono ?_; rintro e w3 ⟨rfl, dm3, hd3, ht3⟩; have D3 := Lib.hid hd3; have T3 : Hid (WlTo w d dm q m w3 dm3 { m with dead := m.dead || decide ((0 : Int) ≠ 0) }) := T2.out.trans ht3; clear hd3 ht3))
    have HM3 : Hid (({ m with dead := m.dead || decide ((0 : Int) ≠ 0) } : WlM) = m) := by show _ = _; cases m; simp
    have T3' : Hid (WlTo w d dm q m w3 dm3 m) := by have h := T3.out; rw [HM3.out] at h; exact h
    clear T3 HM3
    have P3 : Hid (PairW w3 d dm3 q m) := T3'.out.ok
    have C2 : Hid (w3.cell? ⟨q, 2, none⟩ = some (.slice m.A m.rows.length m.c)) := P3.out.l.b.cell 2
    have SB3 : Hid (Sees w3 w3.heap.size A b) := HS.out.offW T3'.out.k (fun hne a ha => HOff.out hne a ha)
    obtain ⟨i0, hi0, hz0, hz1, hz2⟩ := infoD Tryd.slInfo
    refine wp_region_K (fun W => W.cell? ⟨q, 2, none⟩ = some (.slice m.A m.rows.length m.c)) 11 (by kernel_rfl) C2.out (fun hSn => ?_)
    refine wpAnyK_pure (i := 0) (oi := ⟨_, _, _, _, _, _⟩) (v := ?_) rfl (by kernel_rfl) (by kernel_rfl) (by kernel_rfl) rfl (fun _ _ _ h => h) (Or.inl ⟨by rfl, ?_⟩) hSn ?_
    rotate_left 1
    · intro W hSw
      go_simp
      try with_reducible rfl
    replace hSn := (KT.set (i := 0) (by decide)).2 hSn
    try simp only [Act.put, List.setIfInBounds_toArray, List.set_cons_zero, List.set_cons_succ]
    refine wpAnyK_pure (i := 1) (oi := ⟨_, _, _, _, _, _⟩) (v := ?_) rfl (by kernel_rfl) (by kernel_rfl) (by kernel_rfl) rfl (fun _ _ _ h => h) (Or.inl ⟨by rfl, ?_⟩) hSn ?_
    rotate_left 1
    · intro W hSw
      go_simp
      try with_reducible rfl
    replace hSn := (KT.set (i := 1) (by decide)).2 hSn
    try simp only [Act.put, List.setIfInBounds_toArray, List.set_cons_zero, List.set_cons_succ]
    refine wpAnyK_pure (i := 2) (oi := ⟨_, _, _, _, _, _⟩) (v := ?_) rfl (by kernel_rfl) (by kernel_rfl) (by kernel_rfl) rfl (fun _ _ _ h => h) (Or.inl ⟨by rfl, ?_⟩) hSn ?_
    rotate_left 1
    · intro W hSw
      go_simp
      try with_reducible rfl
    replace hSn := (KT.set (i := 2) (by decide)).2 hSn
    try simp only [Act.put, List.setIfInBounds_toArray, List.set_cons_zero, List.set_cons_succ]
    refine wpAnyK_pure (i := 3) (oi := ⟨_, _, _, _, _, _⟩) (v := ?_) rfl (by kernel_rfl) (by kernel_rfl) (by kernel_rfl) rfl (fun _ _ _ h => h) (Or.inl ⟨by rfl, ?_⟩) hSn ?_
    rotate_left 1
    · intro W hSw
      go_simp
      try with_reducible rfl
    replace hSn := (KT.set (i := 3) (by decide)).2 hSn
    try simp only [Act.put, List.setIfInBounds_toArray, List.set_cons_zero, List.set_cons_succ]
    refine wpAnyK_chain (i := 4) [8, 11] (oi := ⟨_, _, _, _, _, _⟩) (v := ?_) rfl (by kernel_rfl) (by kernel_rfl) (by kernel_rfl) rfl (by kernel_rfl) (by kernel_rfl) (by kernel_rfl) (fun _ _ _ h => h) (Or.inl ⟨by rfl, ?_⟩) hSn ?_
    rotate_left 1
    · intro W hSw
      try dsimp only at hSw
      go_simp
      try with_reducible rfl
    replace hSn := (KT.set (i := 4) (by decide)).2 hSn
    try simp only [Act.put, List.setIfInBounds_toArray, List.set_cons_zero, List.set_cons_succ]
    refine wpAnyK_pure (i := 5) (oi := ⟨_, _, _, _, _, _⟩) (v := ?_) rfl (by kernel_rfl) (by kernel_rfl) (by kernel_rfl) rfl (fun _ _ _ h => h) (Or.inl ⟨by rfl, ?_⟩) hSn ?_
    rotate_left 1
    · intro W hSw
      go_simp
      try with_reducible rfl
    replace hSn := (KT.set (i := 5) (by decide)).2 hSn
    try simp only [Act.put, List.setIfInBounds_toArray, List.set_cons_zero, List.set_cons_succ]
    clear hSn
    refine wpAnyK_ready (rs := [6]) (by kernel_rfl) (by simp) ?_
    refine AllReadyK.cons rfl (fun K hK => ?_) AllReadyK.nil
    go_simp
    go_at_call 38
    refine (bclone_any w3.drew w3.drew.heap.size A b.length c b rfl SB3.out (by have := HBl.out; omega)).mono ?_
    unfold ClonePostD
    rintro e w4 ⟨⟨A9, c9, x9⟩, rfl, hx9, ho9, hn9, hb4⟩
    obtain rfl : x9 = b := hx9
    (have hv9 : RowM.v ⟨A9, c9, x9⟩ = .slice A9 x9.length c9 := rfl)
    rw [hv9]
    clear hv9
    have O9 := Lib.hid ho9
    have N9 : Hid (∀ j, (⟨A9, c9, x9⟩ : RowM).bk = some j → w3.heap.size ≤ j) := fun j hj => hn9 j hj
    have V4 : Hid (Below w3.heap.size w3 w4) := nxUndr hb4
    clear ho9 hn9 hb4
    have P4 : Hid (PairW w4 d dm3 q m) := (WlTo.below P3.out V4.out).ok
    have C24 : Hid (w4.cell? ⟨q, 2, none⟩ = some (.slice m.A m.rows.length m.c)) := P4.out.l.b.cell 2
    refine hK.out _ _ (fun _ => C24.out) (fun hSn => ?_)
    clear hK K
    try simp only [Act.put, List.setIfInBounds_toArray, List.set_cons_zero, List.set_cons_succ]
    clear hSn
    refine wpAnyK_ready (rs := [7]) (by kernel_rfl) (by simp) ?_
    refine AllReadyK.cons rfl (fun K hK => ?_) AllReadyK.nil
    go_simp
    have C25 : Hid ((w4.alloc (.cells #[.slice A9 x9.length c9] 39)).cell? ⟨q, 2, none⟩ = some (.slice m.A m.rows.length m.c)) := (World.cell?_alloc_some w4 _ _ (by rw [C24.out]; rfl)).trans C24.out
    refine hK.out _ _ (fun _ => C25.out) (fun hSn => ?_)
    clear hK K
    try simp only [Act.put, List.setIfInBounds_toArray, List.set_cons_zero, List.set_cons_succ]
    have SA : Hid (SeesV (w4.alloc (.cells #[.slice A9 x9.length c9] 39)) (w4.alloc (.cells #[.slice A9 x9.length c9] 39)).heap.size (some ⟨w4.heap.size, 0, none⟩) [.slice A9 x9.length c9]) := SeesV.blk (heap_alloc_new w4 _)
    have KA : Hid (Keeps (fun _ => False) w4 (w4.alloc (.cells #[.slice A9 x9.length c9] 39))) := (Keeps.refl _ w4).alloc _
    have OA : Hid ((w4.alloc (.cells #[.slice A9 x9.length c9] 39)).ownsRow 0 39 1 (.slice m.A m.rows.length m.c) m.rows.length (rowsC m.rows)) := P4.out.l.ww.alloc _
    have SZA : Hid (w4.heap.size ≤ (w4.alloc (.cells #[.slice A9 x9.length c9] 39)).heap.size) := by show _ ≤ _; rw [World.size_alloc]; omega
    obtain ⟨WA, hWA⟩ : ∃ WA, w4.alloc (.cells #[.slice A9 x9.length c9] 39) = WA := ⟨_, rfl⟩
    rw [hWA] at C25 KA SA OA SZA hSn ⊢
    obtain ⟨bA, hbA⟩ : ∃ bA, w4.heap.size = bA := ⟨_, rfl⟩
    have HbA := Lib.hid hbA
    rw [hbA] at SA ⊢
    clear hWA hbA
    clear hSn
    refine wpAnyK_ready (rs := [8]) (by kernel_rfl) (by simp) ?_
    refine AllReadyK.cons rfl (fun K hK => ?_) AllReadyK.nil
    refine step_append_seesV (o := ⟨some 55, _, _, _, _, _⟩) rfl (.tmp 51) (.tmp 54) 43 rfl 0 39 i0 _ 1 24 Tryd.underlying43 hi0 hz0 hz1 hz2 rfl (by decide) (.slice m.A m.rows.length m.c) m.rows.length (rowsC m.rows) rfl OA.out WA.heap.size (some ⟨bA, 0, none⟩) 1 1 [.slice A9 x9.length c9] rfl rfl SA.out (fun u hu => by rw [List.mem_singleton.1 hu]; rfl) (by have := HRn.out; omega) (by have := HRn.out; omega) (Nat.zero_le _) ?_
    intro v8 w8 ho8 hg8 hat8
    obtain ⟨A8, c8, rfl⟩ := own_form ho8
    have O8 := Lib.hid ho8
    have K8 : Hid (Keeps (fun j => (Value.slice m.A m.rows.length m.c).ownBlock = some j) w4 w8) := Keeps.grown (KA.out.mono (fun _ _ h => h.elim)) hg8 (fun j hj => hj)
    have N8 : Hid ((Value.slice A8 (m.rows.length + 1) c8).ownBlock = (Value.slice m.A m.rows.length m.c).ownBlock ∨ ∃ j, (Value.slice A8 (m.rows.length + 1) c8).ownBlock = some j ∧ w4.heap.size ≤ j) := hat8.imp id (fun e => ⟨_, e, SZA.out⟩)
    clear ho8 hg8 hat8
    have B8 : Hid (Blk w8 q 61 (wlC d m).toArray) := P4.out.l.b.keeps K8.out (fun e => P4.out.l.b.notOwn P4.out.l.ww (by decide) e.symm)
    have C28 : Hid (w8.cell? ⟨q, 2, none⟩ = some (.slice m.A m.rows.length m.c)) := B8.out.cell 2
    refine hK.out _ _ (fun _ => C28.out) (fun hSn => ?_)
    clear hK K
    try simp only [Act.put, List.setIfInBounds_toArray, List.set_cons_zero, List.set_cons_succ]
    have f2 : w8.frozen? ⟨q, 2, none⟩ = false := B8.out.frozen 2
    have c2 : w8.cell? ⟨q, 2, none⟩ = some (.slice m.A m.rows.length m.c) := C28.out
    refine wpAnyK_pure (i := 9) (oi := ⟨_, _, _, _, _, _⟩) (v := ?_) rfl (by kernel_rfl) (by kernel_rfl) (by kernel_rfl) rfl (fun _ _ _ h => h) (Or.inl ⟨by rfl, ?_⟩) hSn ?_
    rotate_left 1
    · intro W hSw
      go_simp
      try with_reducible rfl
    replace hSn := (KT.set (i := 9) (by decide)).2 hSn
    try simp only [Act.put, List.setIfInBounds_toArray, List.set_cons_zero, List.set_cons_succ]
    refine wpAnyK_pure (i := 10) (oi := ⟨_, _, _, _, _, _⟩) (v := ?_) rfl (by kernel_rfl) (by kernel_rfl) (by kernel_rfl) rfl (fun _ _ _ h => h) (Or.inl ⟨by rfl, ?_⟩) hSn ?_
    rotate_left 1
    · intro W hSw
      go_simp
      try with_reducible rfl
    replace hSn := (KT.set (i := 10) (by decide)).2 hSn
    try simp only [Act.put, List.setIfInBounds_toArray, List.set_cons_zero, List.set_cons_succ]
    clear hSn
    refine wpAnyK_ready (rs := [11]) (by kernel_rfl) (by simp) ?_
    refine AllReadyK.cons rfl (fun K hK => ?_) AllReadyK.nil
    go_simp
    refine hK.out _ _ (fun h => absurd h (by decide +kernel)) (fun hSn => ?_)
    clear hK K
    try simp only [Act.put, List.setIfInBounds_toArray, List.set_cons_zero, List.set_cons_succ]
    refine wpAnyK_done (by kernel_rfl) ?_ _
    clear hSn
    have T9 : Hid (WlTo w d dm q m (w8.setCell ⟨q, 2, none⟩ (.slice A8 (m.rows.length + 1) c8)) dm3 { m with rows := m.rows ++ [⟨A9, c9, x9⟩], A := A8, c := c8 }) := T3'.out.trans (WlTo.more P3.out V4.out O9.out N9.out O8.out K8.out N8.out)
    obtain ⟨w9, hw9⟩ : ∃ x, w8.setCell ⟨q, 2, none⟩ (.slice A8 (m.rows.length + 1) c8) = x := ⟨_, rfl⟩
    rw [hw9] at T9 ⊢
    have B9 : Hid (Blk w9 q 61 (wlC d { m with rows := m.rows ++ [⟨A9, c9, x9⟩], A := A8, c := c8 }).toArray) := T9.out.ok.l.b
    have c3 : w9.cell? ⟨q, 3, none⟩ = some (.int .i64 (m.size : Int)) := B9.out.cell 3
    have f3 : w9.frozen? ⟨q, 3, none⟩ = false := B9.out.frozen 3
    have hsz : IntKind.i64.wrap ((m.size : Int) + (R.length : Int)) = ((m.size + R.length : Nat) : Int) := by rw [IntKind.wrap_i64]; have := HSz.out; omega
    clear f2 c2 hw9
    go_wp2
    go_ret
    rw [HP0.out]
    refine ⟨rfl, dm3, { m with rows := m.rows ++ [⟨A9, c9, x9⟩], A := A8, c := c8, size := m.size + R.length }, D3.out, ?_, T9.out.trans (WlTo.cells T9.out.ok rfl rfl rfl ?_ (Keeps.setCell (S := fun j => j = q) (p := ⟨q, 3, none⟩) (Keeps.refl _ _) rfl _))⟩
    · show (⟨_, (m.rows ++ [(⟨A9, c9, x9⟩ : RowM)]).map (·.l), _, m.dead⟩ : LgD) = _
      rw [List.map_append, hdf]; rfl
    · exact B9.out.set 3 _
  · rw [hE] at hst
    rw [if_neg (by rw [hE]; decide)] at HP0
    have HSt := Lib.hid hst
    clear hst
    obtain ⟨ap, hap⟩ : ∃ x, AP.2 = x := ⟨_, rfl⟩
    rw [hap] at h8b HSt ⊢
    clear hap
    go_wp2_with (first
      | (go_at_call 20; refine HSt.out.mono ?_; rintro e w3 ⟨rfl, dm3, hd3, ht3⟩; have D3 := Lib.hid hd3; have T3 : Hid (WlTo w d dm q m w3 dm3 { m with dead := m.dead || decide ((19 : Int) ≠ 0) }) := T2.out.trans ht3; clear hd3 ht3))
    go_ret
    rw [HP0.out]
    exact ⟨rfl, dm3, _, D3.out, by show (⟨_, _, _, m.dead || decide ((19 : Int) ≠ 0)⟩ : LgD) = _; rw [decide_eq_true (by decide), Bool.or_true]; rfl, T3.out⟩
end Go.Proofs.YthamlphebnhcpaaDoor
