/-
  disk: the document's own disk: New, burn, SetFuse.
-/
import Derived.Test.YtlepajddekblcaaDoorRf3
namespace Go.Proofs.YtlepajddekblcaaDoor
open Go.RowKit

/-- All blocks of the document's disk. -/
def allR (g : Nat) (m : RfM) (j : Nat) : Prop := footR g m j ∨ ∃ r : RowM, (r ∈ m.rows ∨ ∃ p ∈ m.W, p.row = r) ∧ r.bk = some j
structure RfTo (w : World) (g : Nat) (m : RfM) (w' : World) (m' : RfM) : Prop where
  ok : RfOk w' g m'
  ft : ∀ j, footR g m' j → footR g m j ∨ w.heap.size ≤ j
  al : ∀ j, allR g m' j → allR g m j ∨ w.heap.size ≤ j
  k : Keeps (footR g m) w w'
theorem RfTo.refl {w : World} {g : Nat} {m : RfM} (h : RfOk w g m) : RfTo w g m w m := ⟨h, fun _ h => .inl h, fun _ h => .inl h, Keeps.refl _ _⟩
theorem RfTo.below {w w' : World} {g : Nat} {m : RfM} (h : RfOk w g m) (b : Below w.heap.size w w') : RfTo w g m w' m := ⟨h.below b, fun _ h => .inl h, fun _ h => .inl h, Keeps.of_below b _⟩
theorem RfTo.trans {w w1 w2 : World} {g : Nat} {m m1 m2 : RfM} (h : RfTo w g m w1 m1) (k : RfTo w1 g m1 w2 m2) : RfTo w g m w2 m2 := by
  refine ⟨k.ok, fun j hj => ?_, fun j hj => ?_, ?_⟩
  · rcases k.ft j hj with h1 | h1
    · exact h.ft j h1
    · exact .inr (Nat.le_trans h.k.size h1)
  · rcases k.al j hj with h1 | h1
    · exact h.al j h1
    · exact .inr (Nat.le_trans h.k.size h1)
  · refine ⟨k.k.os.trans h.k.os, k.k.tape.trans h.k.tape, k.k.output.trans h.k.output, Nat.le_trans h.k.size k.k.size, fun b hb hn => ?_⟩
    refine (k.k.block b (Nat.lt_of_lt_of_le hb h.k.size) (fun h1 => ?_)).trans (h.k.block b hb hn)
    rcases h.ft b h1 with h2 | h2
    · exact hn h2
    · omega
/-- Own rows of bytes lie off what the disk changes. -/
theorem RfOk.off {w : World} {g : Nat} {m : RfM} (h : RfOk w g m) {r : RowM} (hr : r.own w) {j : Nat} (hj : r.bk = some j) : ¬ footR g m j := by
  rintro (rfl | h1)
  · have h3 := h.b.notOwn hr (by decide)
    rw [RowM.v, own_blkD] at h3
    exact h3 hj.symm
  · exact own_apart hr h.ww (by decide) j (by rw [RowM.v, own_blkD]; exact hj) (by rw [own_blkD]; exact h1)
theorem rfC_setF {m : RfM} (n : m.rows.length = 16) (f : Int) : (rfC m).toArray.setIfInBounds 17 (.int .i64 f) = (rfC { m with fuse := f }).toArray := by
  have h : (rowsC m.rows).length = 16 := by rw [rowsC_len, n]
  simp only [rfC, List.setIfInBounds_toArray]
  rw [List.set_append_right _ _ (by omega), h]; rfl
theorem rfC_setD {m : RfM} (n : m.rows.length = 16) (z : Bool) : (rfC m).toArray.setIfInBounds 18 (.bool z) = (rfC { m with dead := z }).toArray := by
  have h : (rowsC m.rows).length = 16 := by rw [rowsC_len, n]
  simp only [rfC, List.setIfInBounds_toArray]
  rw [List.set_append_right _ _ (by omega), h]; rfl
theorem RfTo.cells {w w' : World} {g : Nat} {m : RfM} (h : RfOk w g m) {f : Int} {z : Bool} (hb : Blk w' g 86 (rfC { m with fuse := f, dead := z }).toArray) (hK : Keeps (fun j => j = g) w w') : RfTo w g m w' { m with fuse := f, dead := z } := by
  refine ⟨⟨hb, h.n, fun r hr => RowM.keep (h.o r hr) hK (fun j e he => ?_), own_keep h.ww hK (fun j e he => ?_), fun p hp => ⟨(h.p p hp).1, (h.p p hp).2.1, RowM.keep (h.p p hp).2.2 hK (fun j e he => ?_)⟩⟩, fun j hj => .inl hj, fun j hj => .inl hj, hK.mono (fun j _ hj => .inl hj)⟩
  · exact h.off (h.o r hr) e (.inl he)
  · subst he
    exact h.b.notOwn h.ww (by decide) e.symm
  · exact h.off (h.p p hp).2.2 e (.inl he)
/-- The same data. -/
structure RelR (D : DkD) (m : RfM) : Prop where
  x : ∀ i, i < 16 → rowD D.X i = rowD (dataR m) i
  w : D.W = m.W.map PutR.d
  f : D.fuse = m.fuse
  d : D.dead = m.dead
def burnR (m : RfM) : RfM × Int := if m.dead = true then (m, 20) else if m.fuse = 0 then ({ m with fuse := m.fuse, dead := true }, 19) else if 0 < m.fuse then ({ m with fuse := m.fuse - 1, dead := m.dead }, 0) else (m, 0)
theorem RelR.burn {D : DkD} {m : RfM} (h : RelR D m) (hf : -1 ≤ D.fuse) (hd : D.dead = false) : RelR (burnD D).1 (burnR m).1 ∧ (burnR m).2 = (burnD D).2 := by
  have h1 := h.f
  have h2 : m.dead = false := by rw [← h.d]; exact hd
  have e : burnR m = if m.fuse = 0 then ({ m with fuse := m.fuse, dead := true }, 19) else if 0 < m.fuse then ({ m with fuse := m.fuse - 1, dead := m.dead }, 0) else (m, 0) := by
    unfold burnR; rw [h2]; rfl
  rw [e]
  unfold burnD
  by_cases ha : D.fuse = -1
  · have e1 : (D.fuse == -1) = true := by rw [ha]; rfl
    rw [e1, if_neg (by omega), if_neg (by omega)]
    exact ⟨h, rfl⟩
  · have e1 : (D.fuse == -1) = false := by simpa using ha
    rw [e1]
    by_cases hb : D.fuse = 0
    · have e2 : (D.fuse == 0) = true := by rw [hb]; rfl
      rw [e2, if_pos (by omega)]
      exact ⟨⟨h.x, h.w, h.f, rfl⟩, rfl⟩
    · have e2 : (D.fuse == 0) = false := by simpa using hb
      rw [e2, if_neg (by omega), if_pos (by omega)]
      exact ⟨⟨h.x, h.w, by show D.fuse - 1 = m.fuse - 1; rw [h1], h.d⟩, rfl⟩
/-- A step's answer is not looked at. -/
def RPost (w : World) (g : Nat) (m : RfM) (D : DkD) (e : Ending) (w' : World) : Prop := ∃ n m', e = .returned (.int .i64 n) ∧ RfTo w g m w' m' ∧ RelR D m'

theorem RPost.is {w w' : World} {g : Nat} {m : RfM} {D : DkD} {n : Int} (m' : RfM) (t : RfTo w g m w' m') (r : RelR D m') : RPost w g m D (.returned (.int .i64 n)) w' := ⟨n, m', rfl, t, r⟩
theorem rnew_any (w : World) : Calls Tryd.prog 14 #[] w fun e w' => ∃ g m, e = .returned (ptrD g) ∧ RfOk w' g m ∧ (∀ j, allR g m j → w.heap.size ≤ j) ∧ RelR newD m ∧ Below w.heap.size w w' := by
  have HB : Hid (Blk (w.alloc (.cells (rfC ⟨List.replicate 16 noRow, none, 0, [], -1, false⟩).toArray 86)) w.heap.size 86 (rfC ⟨List.replicate 16 noRow, none, 0, [], -1, false⟩).toArray) := heap_alloc_new w _
  have hbd : ∀ wq, (Instr.build 86 #[(2, .int .i64 (-1))]).run Tryd.prog wq = .ok (.agg (rfC ⟨List.replicate 16 noRow, none, 0, [], -1, false⟩).toArray) wq := fun wq => by kernel_rfl
  go_enter Tryd.func14, Tryd.ntmps14
  go_wp2
  go_ret
  have hno : ∀ r ∈ List.replicate 16 noRow, r = noRow := fun r hr => List.eq_of_mem_replicate hr
  refine ⟨w.heap.size, ⟨List.replicate 16 noRow, none, 0, [], -1, false⟩, rfl, ⟨HB.out, rfl, fun r hr => by rw [hno r hr]; exact noRow_own _, World.ownsRow_nil _ _ _ _, fun p hp => by cases hp⟩, fun j hj => ?_, ⟨fun i hi => ?_, rfl, rfl, rfl⟩, nxAlloc (nxRefl w) _⟩
  · rcases hj with (rfl | h) | ⟨r, h | ⟨p, hp, _⟩, hb⟩
    · exact Nat.le_refl _
    · cases h
    · rw [hno r h] at hb; cases hb
    · cases hp
  · have h1 : rowD newD.X i = [] := by unfold rowD newD; rw [List.getD_eq_getElem?_getD, List.getElem?_replicate]; split <;> rfl
    rw [h1]
    unfold rowD dataR
    rw [List.getD_eq_getElem?_getD, List.getElem?_map, List.getElem?_replicate, if_pos hi]
    rfl
theorem rburn_any (w : World) (g : Nat) (m : RfM) (h : RfOk w g m) (hf : m.fuse < 9223372036854775808) : Calls Tryd.prog 73 #[ptrD g] w fun e w' => e = .returned (.int .i64 (burnR m).2) ∧ RfTo w g m w' (burnR m).1 := by
  have H := Lib.hid h
  have c17 := h.cF
  have c18 := h.cD
  have f17 : w.frozen? ⟨g, 17, none⟩ = false := h.b.frozen _
  have f18 : w.frozen? ⟨g, 18, none⟩ = false := h.b.frozen _
  obtain ⟨R, hR⟩ : ∃ R, burnR m = R := ⟨_, rfl⟩
  have HR := Lib.hid hR
  rw [hR]
  unfold ptrD
  clear h hR
  by_cases hd : m.dead = true
  · rw [hd] at c18
    have HRn : Hid (R = (m, 20)) := by show _ = _; rw [← HR.out, burnR, if_pos hd]
    go_enter Tryd.func73, Tryd.ntmps73
    go_wp2
    go_ret
    exact ⟨by rw [HRn.out] <;> rfl, by rw [HRn.out]; exact RfTo.refl H.out⟩
  · have hd2 : m.dead = false := by simpa using hd
    rw [hd2] at c18
    by_cases h0 : m.fuse = 0
    · rw [h0] at c17
      have HRn : Hid (R = ({ m with fuse := m.fuse, dead := true }, 19)) := by show _ = _; rw [← HR.out, burnR, if_neg hd, if_pos h0]
      have HK : Hid (Keeps (fun j => j = g) w (w.setCell ⟨g, 18, none⟩ (.bool true))) := Keeps.setCell (S := fun j => j = g) (p := ⟨g, 18, none⟩) (Keeps.refl _ _) rfl _
      go_enter Tryd.func73, Tryd.ntmps73
      go_wp2
      go_ret
      refine ⟨by rw [HRn.out] <;> rfl, by rw [HRn.out]; exact RfTo.cells H.out (by have h := H.out.b.set 18 (.bool true); rw [rfC_setD H.out.n] at h; exact h) HK.out⟩
    · by_cases h1 : 0 < m.fuse
      · have HRn : Hid (R = ({ m with fuse := m.fuse - 1, dead := m.dead }, 0)) := by show _ = _; rw [← HR.out, burnR, if_neg hd, if_neg h0, if_pos h1]
        have hwf : IntKind.i64.wrap (m.fuse - 1) = m.fuse - 1 := by rw [IntKind.wrap_i64]; omega
        have HK : Hid (Keeps (fun j => j = g) w (w.setCell ⟨g, 17, none⟩ (.int .i64 (m.fuse - 1)))) := Keeps.setCell (S := fun j => j = g) (p := ⟨g, 17, none⟩) (Keeps.refl _ _) rfl _
        have hd0 : decide (m.fuse = 0) = false := decide_eq_false h0
        have hd1 : decide (0 < m.fuse) = true := decide_eq_true h1
        go_enter Tryd.func73, Tryd.ntmps73
        go_wp2
        go_ret
        refine ⟨by rw [HRn.out] <;> rfl, by rw [HRn.out]; exact RfTo.cells H.out (by have h := H.out.b.set 17 (.int .i64 (m.fuse - 1)); rw [rfC_setF H.out.n] at h; exact h) HK.out⟩
      · have HRn : Hid (R = (m, 0)) := by show _ = _; rw [← HR.out, burnR, if_neg hd, if_neg h0, if_neg h1]
        have hd0 : decide (m.fuse = 0) = false := decide_eq_false h0
        have hd1 : decide (0 < m.fuse) = false := decide_eq_false h1
        go_enter Tryd.func73, Tryd.ntmps73
        go_wp2
        go_ret
        exact ⟨by rw [HRn.out] <;> rfl, by rw [HRn.out]; exact RfTo.refl H.out⟩
theorem rsetFuse_any (w : World) (g : Nat) (m : RfM) (D : DkD) (h : RfOk w g m) (hD : RelR D m) (n : Int) : Calls Tryd.prog 45 #[ptrD g, .int .i64 n] w (RPost w g m (fuseD D n).1) := by
  have H := Lib.hid h
  have c17 := h.cF
  have f17 : w.frozen? ⟨g, 17, none⟩ = false := h.b.frozen _
  have HDD := Lib.hid hD
  unfold ptrD
  clear h hD
  by_cases h0 : n < 0
  · have e0 : decide (n < 0) = true := decide_eq_true h0
    have HF : Hid ((fuseD D n).1 = D) := by show _ = _; unfold fuseD; rw [e0]; rfl
    rw [HF.out]
    go_enter Tryd.func45, Tryd.ntmps45
    go_wp2
    go_ret
    exact RPost.is m (RfTo.refl H.out) HDD.out
  · have e0 : decide (n < 0) = false := decide_eq_false h0
    have HF : Hid ((fuseD D n).1 = { D with fuse := n }) := by show _ = _; unfold fuseD; rw [e0]; rfl
    rw [HF.out]
    have HK : Hid (Keeps (fun j => j = g) w (w.setCell ⟨g, 17, none⟩ (.int .i64 n))) := Keeps.setCell (S := fun j => j = g) (p := ⟨g, 17, none⟩) (Keeps.refl _ _) rfl _
    go_enter Tryd.func45, Tryd.ntmps45
    go_wp2
    go_ret
    exact RPost.is { m with fuse := n, dead := m.dead } (RfTo.cells H.out (by have h := H.out.b.set 17 (.int .i64 n); rw [rfC_setF H.out.n] at h; exact h) HK.out) ⟨HDD.out.x, HDD.out.w, rfl, HDD.out.d⟩
end Go.Proofs.YtlepajddekblcaaDoor
