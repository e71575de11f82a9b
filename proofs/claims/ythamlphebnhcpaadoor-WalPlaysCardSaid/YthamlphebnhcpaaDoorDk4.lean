/-
  disk: steps done to a disk; the fuse.
-/
import Derived.Test.YthamlphebnhcpaaDoorDk5
namespace Go.Proofs.YthamlphebnhcpaaDoor
open Go.RowKit

theorem DkM.row_l {m : DkM} {k : Nat} (hk : k < m.rows.length) : rowD m.d.X k = m.rows[k].l := by
  unfold rowD DkM.d
  rw [List.getD_eq_getElem?_getD, List.getElem?_map, List.getElem?_eq_getElem hk]
  rfl
theorem DkM.set_d {m : DkM} {k : Nat} {r : RowM} : ({ m with rows := m.rows.set k r } : DkM).d = { m.d with X := m.d.X.set k r.l } := by
  unfold DkM.d
  simp only [List.map_set]
/-- What a step leaves: only rows are others. -/
structure StepTo (w : World) (g : Nat) (m : DkM) (X : List (List UInt8)) (w' : World) (m' : DkM) : Prop where
  to : DkTo w g m w' m'
  d : m'.d = { m.d with X := X }
  W : m'.W = m.W
  A : m'.A = m.A
  c : m'.c = m.c
theorem StepTo.of {w w' : World} {g : Nat} {m : DkM} {k : Nat} {r' : RowM} {l : List UInt8} {X : List (List UInt8)} (h : DkOk w g m) (hk : k < 32) (t : RowTo w g (1 + k) (dkC m).toArray (m.rows[k]'(by rw [h.n]; exact hk)) l w' r') (hX : X = m.d.X.set k l) : ∃ m', StepTo w g m X w' m' := by
  refine ⟨{ m with rows := m.rows.set k r' }, DkTo.row h hk t.b t.o t.n t.k, ?_, rfl, rfl, rfl⟩
  rw [DkM.set_d, hX, t.l]
theorem put2D (w : World) (g : Nat) (m : DkM) (h : DkOk w g m) (a o i : Nat) (b : List UInt8) (p0 p1 pf c : Nat) (A : Option Addr) (ha : a = 1 + o) (ho : o + 16 ≤ 32) (hi : i < 16) (hp : PutOk w i b p0 p1 pf A c)
    (hl : (rowD m.d.X (o + i)).length + b.length ≤ 16777216) : Calls Tryd.prog 77 #[.pointer (some ⟨g, a, none⟩), ptrD pf, ptrD p1] w fun e w' => e = .returned (.tuple #[]) ∧ ∃ m', StepTo w g m (doS o m.d.X (.put i b)) w' m' := by
  subst ha
  have hk : o + i < m.rows.length := by rw [h.n]; omega
  rw [DkM.row_l hk] at hl
  have e : 1 + o + i = 1 + (o + i) := by omega
  refine (put2_any w g (1 + o) i (dkC m).toArray m.rows[o + i] b p0 p1 pf c A h.b hi (by rw [e, List.getElem?_toArray]; exact dkC_row hk) (h.o _ (List.getElem_mem hk)) hp (by omega)).mono ?_
  rintro e' w' ⟨rfl, r', hr⟩
  rw [e] at hr
  exact ⟨rfl, StepTo.of h (by omega) hr (by rw [doS, DkM.row_l hk])⟩
theorem put3D (w : World) (g : Nat) (m : DkM) (h : DkOk w g m) (a i : Nat) (t : Int) (b : List UInt8) (p0 p1 pf c : Nat) (A : Option Addr) (ha : a = 1) (hi : i < 16) (hp : PutOk w i b p0 p1 pf A c)
    (hl : (rowD m.d.X i).length + b.length ≤ 16777216) : Calls Tryd.prog 78 #[.pointer (some ⟨g, a, none⟩), .int .i64 t, ptrD pf, ptrD p1] w fun e w' => e = .returned (.tuple #[]) ∧ ∃ m', StepTo w g m (tornS m.d.X t (.put i b)) w' m' := by
  subst ha
  have hk : i < m.rows.length := by rw [h.n]; omega
  rw [DkM.row_l hk] at hl
  refine (put3_any w g 1 i t (dkC m).toArray m.rows[i] b p0 p1 pf c A h.b hi (by rw [List.getElem?_toArray]; exact dkC_row hk) (h.o _ (List.getElem_mem hk)) hp (by omega)).mono ?_
  rintro e' w' ⟨rfl, r', hr⟩
  exact ⟨rfl, StepTo.of h (by omega) hr (by rw [tornS, DkM.row_l hk])⟩
theorem cut1D (w : World) (g : Nat) (m : DkM) (h : DkOk w g m) (a o i n : Nat) (p0 p1 : Nat) (ha : a = 1 + o) (ho : o + 16 ≤ 32) (hi : i < 16) (hp : CutOk w i n p0 p1)
    (hl : n ≤ (rowD m.d.X (o + i)).length) : Calls Tryd.prog 67 #[.pointer (some ⟨g, a, none⟩), ptrD p0, ptrD p1] w fun e w' => e = .returned (.tuple #[]) ∧ ∃ m', StepTo w g m (doS o m.d.X (.cut i n)) w' m' := by
  subst ha
  have hk : o + i < m.rows.length := by rw [h.n]; omega
  rw [DkM.row_l hk] at hl
  have e : 1 + o + i = 1 + (o + i) := by omega
  refine (cut1_any w g (1 + o) i n (dkC m).toArray m.rows[o + i] p0 p1 h.b hi (by rw [e, List.getElem?_toArray]; exact dkC_row hk) (h.o _ (List.getElem_mem hk)) hp hl).mono ?_
  rintro e' w' ⟨rfl, r', hr⟩
  rw [e] at hr
  exact ⟨rfl, StepTo.of h (by omega) hr (by rw [doS, DkM.row_l hk])⟩
/-- The steps that wait are others. -/
theorem DkTo.wait {w w' : World} {g : Nat} {m : DkM} (h : DkOk w g m) {A : Option Addr} {c : Nat} {V : List StM} (hb : Blk w' g 54 ((dkC m).toArray.setIfInBounds 33 (.slice A V.length c)))
    (ho : w'.ownsRow 0 86 2 (.slice A V.length c) V.length (stsC V)) (hn : A.map (·.block) = m.A.map (·.block) ∨ A = none ∨ ∃ j, A.map (·.block) = some j ∧ w.heap.size ≤ j)
    (hK : Keeps (fun j => j = g ∨ m.A.map (·.block) = some j) w w') (hs : ∀ s ∈ V, StOk w s) (hr : ∀ s ∈ V, ∀ j ∈ s.ro, ¬ foot g m j ∧ j < w.heap.size) :
    DkOk w' g { m with A := A, c := c, W := V } ∧ (∀ j, foot g { m with A := A, c := c, W := V } j → foot g m j ∨ w.heap.size ≤ j) ∧ Keeps (foot g m) w w' := by
  have hS : Keeps (foot g m) w w' := hK.mono (fun j _ hj => by
    rcases hj with rfl | hj
    · exact .inl rfl
    · exact .inr (.inl hj))
  have hft : ∀ j, foot g { m with A := A, c := c, W := V } j → foot g m j ∨ w.heap.size ≤ j := by
    rintro j (rfl | hj | ⟨s, hs, hj⟩)
    · exact .inl (.inl rfl)
    · have hj : A.map (·.block) = some j := hj
      rcases hn with hn | hn | ⟨i, hn, hi⟩
      · exact .inl (.inr (.inl (hn.symm.trans hj)))
      · rw [hn] at hj; cases hj
      · rw [hn] at hj; injection hj with hj; subst hj; exact .inr hi
    · exact .inl (.inr (.inr ⟨s, hs, hj⟩))
  refine ⟨⟨?_, h.n, fun r hm => RowM.keep (h.o r hm) hK (fun j e => ?_), h.q, ho, fun s hm => (hs s hm).keep hS (fun j hj => (hr s hm j hj).1), ?_⟩, hft, hS⟩
  · rw [← dkC_setWait h.n A c V]; exact hb
  · rintro (rfl | h1)
    · exact h.b.notOwn (h.o r hm) (by decide) (by rw [RowM.v, own_blkD]; exact e.symm)
    · exact own_apart h.ww (h.o r hm) (by decide) j (by rw [own_blkD]; exact h1) (by rw [RowM.v, own_blkD]; exact e)
  · rintro j ⟨s, hm, hj⟩
    have h1 := hr s hm j hj
    refine ⟨fun h2 => ?_, Nat.lt_of_lt_of_le h1.2 hK.size⟩
    rcases hft j h2 with h3 | h3
    · exact h1.1 h3
    · have := h1.2; omega
set_option maxHeartbeats 1000000 in
theorem burn_any (w : World) (g : Nat) (m : DkM) (h : DkOk w g m) (hf : -1 ≤ m.fuse) (hg : m.fuse < 9223372036854775808) : Calls Tryd.prog 66 #[ptrD g] w fun e w' => e = .returned (.int .i64 (burnD m.d).2) ∧ ∃ m', DkTo w g m w' m' ∧ m'.d = (burnD m.d).1 ∧ m'.W = m.W := by
  have c34 : w.cell? ⟨g, 34, none⟩ = some (.int .i64 m.fuse) := h.fuse
  have c35 : w.cell? ⟨g, 35, none⟩ = some (.bool m.dead) := h.dead
  have f34 : w.frozen? ⟨g, 34, none⟩ = false := h.b.frozen _
  have f35 : w.frozen? ⟨g, 35, none⟩ = false := h.b.frozen _
  have H := Lib.hid h
  clear h
  obtain ⟨f, hfe⟩ : ∃ f, m.fuse = f := ⟨_, rfl⟩
  have HFE := Lib.hid hfe
  rw [hfe] at c34 hf hg
  clear hfe
  unfold ptrD
  by_cases h1 : f = -1
  · have HB : Hid (burnD m.d = (m.d, 0)) := by show _ = _; unfold burnD; rw [show m.d.fuse = -1 from HFE.out.trans h1]; rfl
    subst h1
    go_enter Tryd.func66, Tryd.ntmps66
    go_wp2
    go_ret
    exact ⟨by rw [HB.out] <;> rfl, m, DkTo.refl H.out, by rw [HB.out], rfl⟩
  · have n1 : (f == -1) = false := beq_eq_false_iff_ne.2 h1
    by_cases h2 : f = 0
    · have HB : Hid (burnD m.d = ({ m.d with dead := true }, 19)) := by
        have e1 : (m.d.fuse == -1) = false := by rw [show m.d.fuse = 0 from HFE.out.trans h2]; rfl
        have e2 : (m.d.fuse == 0) = true := by rw [show m.d.fuse = 0 from HFE.out.trans h2]; rfl
        show _ = _
        unfold burnD
        rw [e1, e2]
        rfl
      subst h2
      go_enter Tryd.func66, Tryd.ntmps66
      go_wp2
      go_ret
      refine ⟨by rw [HB.out] <;> rfl, { m with dead := true }, ?_, by rw [HB.out]; rfl, rfl⟩
      exact DkTo.cells H.out (f := m.fuse) (z := true) (by have h3 := H.out.b.set 35 (.bool true); rw [dkC_setDead H.out.n] at h3; exact h3) ((Keeps.refl (· = g) w).setCell rfl _)
    · have n2 : (f == 0) = false := beq_eq_false_iff_ne.2 h2
      have HB : Hid (burnD m.d = ({ m.d with fuse := f - 1 }, 0)) := by show _ = _; unfold burnD; rw [show m.d.fuse = f from HFE.out, n1, n2]; rfl
      have hw : IntKind.i64.wrap (f - 1) = f - 1 := by rw [IntKind.wrap_i64]; omega
      go_enter Tryd.func66, Tryd.ntmps66
      go_wp2
      go_ret
      refine ⟨by rw [HB.out] <;> rfl, { m with fuse := f - 1 }, ?_, by rw [HB.out]; rfl, rfl⟩
      exact DkTo.cells H.out (f := f - 1) (z := m.dead) (by have h3 := H.out.b.set 34 (.int .i64 (f - 1)); rw [dkC_setFuse H.out.n] at h3; exact h3) ((Keeps.refl (· = g) w).setCell rfl _)
end Go.Proofs.YthamlphebnhcpaaDoor
