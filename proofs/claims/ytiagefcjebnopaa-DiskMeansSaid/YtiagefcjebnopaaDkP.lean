/-
  disk: disks that lie apart.
-/
import Derived.Test.YtiagefcjebnopaaDkN
namespace Go.Proofs.Ytiagefcjebnopaa
open Go.RowKit

/-- A disk touches nothing of another. -/
structure Off (g1 : Nat) (m1 : DkM) (g2 : Nat) (m2 : DkM) : Prop where
  f : ∀ j, foot g1 m1 j → ¬ foot g2 m2 j
  r : ∀ j, foot g1 m1 j → ¬ ro m2 j
theorem DkOk.ro_lt {w : World} {g : Nat} {m : DkM} (h : DkOk w g m) {j : Nat} (hj : ro m j) : j < w.heap.size := (h.f j hj).2
/-- The first goes on: the second stands. -/
theorem Off.stand {w w' : World} {g1 g2 : Nat} {m1 m1' m2 : DkM} (h : Off g1 m1 g2 m2) (h2 : DkOk w g2 m2) (t : DkTo w g1 m1 w' m1') : DkOk w' g2 m2 :=
  h2.later t.k (fun j a b => h.f j b a) (fun j a b => h.r j b a)
theorem Off.step1 {w w' : World} {g1 g2 : Nat} {m1 m1' m2 : DkM} (h : Off g1 m1 g2 m2) (h2 : DkOk w g2 m2) (t : DkTo w g1 m1 w' m1') : Off g1 m1' g2 m2 :=
  ⟨fun j a b => (t.ft j a).elim (fun a => h.f j a b) (fun a => by have := h2.foot_lt b; omega), fun j a b => (t.ft j a).elim (fun a => h.r j a b) (fun a => by have := h2.ro_lt b; omega)⟩
theorem Off.step2 {w w' : World} {g1 g2 : Nat} {m1 m2 m2' : DkM} (h : Off g1 m1 g2 m2) (h1 : DkOk w g1 m1) (t : DkTo w g2 m2 w' m2') : Off g1 m1 g2 m2' :=
  ⟨fun j a b => (t.ft j b).elim (fun b => h.f j a b) (fun b => by have := h1.foot_lt a; omega), fun j a b => (t.r j b).elim (fun b => h.r j a b) (fun b => by have := h1.foot_lt a; omega)⟩
/-- Two disks that lie apart. -/
structure Two (w : World) (g1 : Nat) (m1 : DkM) (g2 : Nat) (m2 : DkM) : Prop where
  a : DkOk w g1 m1
  b : DkOk w g2 m2
  o : Off g1 m1 g2 m2
  p : Off g2 m2 g1 m1
theorem Two.swap {w : World} {g1 g2 : Nat} {m1 m2 : DkM} (h : Two w g1 m1 g2 m2) : Two w g2 m2 g1 m1 := ⟨h.b, h.a, h.p, h.o⟩
theorem Two.step {w w' : World} {g1 g2 : Nat} {m1 m1' m2 : DkM} (h : Two w g1 m1 g2 m2) (t : DkTo w g1 m1 w' m1') : Two w' g1 m1' g2 m2 :=
  ⟨t.ok, h.o.stand h.b t, h.o.step1 h.b t, h.p.step2 h.b t⟩
theorem Two.below {w w' : World} {g1 g2 : Nat} {m1 m2 : DkM} (h : Two w g1 m1 g2 m2) (b : Below w.heap.size w w') : Two w' g1 m1 g2 m2 := ⟨(DkTo.below h.a b).ok, (DkTo.below h.b b).ok, h.o, h.p⟩
/-- A third goes on. -/
theorem Two.stand {w w' : World} {g1 g2 g3 : Nat} {m1 m2 m3 m3' : DkM} (h : Two w g1 m1 g2 m2) (o1 : Off g3 m3 g1 m1) (o2 : Off g3 m3 g2 m2) (t : DkTo w g3 m3 w' m3') : Two w' g1 m1 g2 m2 := ⟨o1.stand h.a t, o2.stand h.b t, h.o, h.p⟩
/-- A block of neither is written. -/
theorem Two.keeps {S : Nat → Prop} {w w' : World} {g1 g2 : Nat} {m1 m2 : DkM} (h : Two w g1 m1 g2 m2) (k : Keeps S w w') (hf1 : ∀ j, foot g1 m1 j → ¬ S j) (hr1 : ∀ j, ro m1 j → ¬ S j) (hf2 : ∀ j, foot g2 m2 j → ¬ S j) (hr2 : ∀ j, ro m2 j → ¬ S j) : Two w' g1 m1 g2 m2 :=
  ⟨h.a.later k hf1 hr1, h.b.later k hf2 hr2, h.o, h.p⟩
/-- A block that two disks do not know. -/
def Free (j : Nat) (g1 : Nat) (m1 : DkM) (g2 : Nat) (m2 : DkM) : Prop := ¬ foot g1 m1 j ∧ ¬ ro m1 j ∧ ¬ foot g2 m2 j ∧ ¬ ro m2 j
theorem Two.free {w : World} {g1 g2 : Nat} {m1 m2 : DkM} (h : Two w g1 m1 g2 m2) {j : Nat} (hj : w.heap.size ≤ j) : Free j g1 m1 g2 m2 :=
  ⟨fun a => by have := h.a.foot_lt a; omega, fun a => by have := h.a.ro_lt a; omega, fun a => by have := h.b.foot_lt a; omega, fun a => by have := h.b.ro_lt a; omega⟩
theorem Free.step1 {w w' : World} {g1 g2 : Nat} {m1 m1' m2 : DkM} {j : Nat} (h : Free j g1 m1 g2 m2) (t : DkTo w g1 m1 w' m1') (hj : j < w.heap.size) : Free j g1 m1' g2 m2 :=
  ⟨fun a => (t.ft j a).elim h.1 (fun a => by omega), fun a => (t.r j a).elim h.2.1 (fun a => by omega), h.2.2.1, h.2.2.2⟩
theorem Free.swap {g1 g2 : Nat} {m1 m2 : DkM} {j : Nat} (h : Free j g1 m1 g2 m2) : Free j g2 m2 g1 m1 := ⟨h.2.2.1, h.2.2.2, h.1, h.2.1⟩
theorem Two.write {w w' : World} {g1 g2 : Nat} {m1 m2 : DkM} (h : Two w g1 m1 g2 m2) {j : Nat} (k : Keeps (· = j) w w') (f : Free j g1 m1 g2 m2) : Two w' g1 m1 g2 m2 :=
  h.keeps k (fun i a e => f.1 (e ▸ a)) (fun i a e => f.2.1 (e ▸ a)) (fun i a e => f.2.2.1 (e ▸ a)) (fun i a e => f.2.2.2 (e ▸ a))
/-- A copy lies apart from its own, and from another. -/
theorem CopyTo.off {w w' : World} {g g' gx : Nat} {m m' mx : DkM} (c : CopyTo w m w' g' m') (hx : DkOk w gx mx) : Off g' m' gx mx :=
  ⟨fun j a b => by have := c.f j a; have := hx.foot_lt b; omega, fun j a b => by have := c.f j a; have := hx.ro_lt b; omega⟩
theorem CopyTo.ffo {w w' : World} {g g' gx : Nat} {m m' mx : DkM} (c : CopyTo w m w' g' m') (hx : DkOk w gx mx) (hr : ∀ j, foot gx mx j → ¬ ro m j) : Off gx mx g' m' := by
  have hro : ∀ j, ro m' j → ro m j := fun j ⟨s, hs, hj⟩ => ⟨s, by rw [← c.W]; exact hs, hj⟩
  exact ⟨fun j a b => by have := c.f j b; have := hx.foot_lt a; omega, fun j a b => hr j a (hro j b)⟩
theorem CopyTo.two {w w' : World} {g g' gx : Nat} {m m' mx : DkM} (c : CopyTo w m w' g' m') (hx : DkOk w gx mx) (hr : ∀ j, foot gx mx j → ¬ ro m j) : Two w' g' m' gx mx :=
  ⟨c.ok, (DkTo.below hx c.v).ok, CopyTo.off (g := g) c hx, CopyTo.ffo (g := g) c hx hr⟩
/-- What two disks with the same data answer. -/
theorem SameD.refl (D : DkD) : SameD D D := fun _ _ => rfl
theorem lsame_true {w w' : World} {D E : DkD} (h : D = E) {e : Ending} (p : LSamePost w D E e w') : e = .returned (.bool true) ∧ Below w.heap.size w w' := by
  obtain ⟨z, rfl, hz, hb⟩ := p
  rw [hz.2 (by rw [h]; exact SameD.refl E)]
  exact ⟨rfl, hb⟩
end Go.Proofs.Ytiagefcjebnopaa
