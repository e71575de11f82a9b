/-
  disk: a disk in memory: its rows, its steps, what it may change, and what it looks at.
-/
import Derived.Test.YthamlphebnhcpaaDoorDk0
import Derived.Test.YthamlphebnhcpaaDoorVals
namespace Go.Proofs.YthamlphebnhcpaaDoor
open Go.RowKit

theorem own_blkD {A : Option Addr} {n c : Nat} : (Value.slice A n c).ownBlock = A.map (·.block) := by cases A <;> rfl
/-- A row of bytes of one's own, as a place has it. -/
structure RowM where
  A : Option Addr
  c : Nat
  l : List UInt8
def RowM.v (r : RowM) : Value := .slice r.A r.l.length r.c
def RowM.bk (r : RowM) : Option Nat := r.A.map (·.block)
def RowM.own (w : World) (r : RowM) : Prop := w.ownsRow 0 5 1 r.v r.l.length (By r.l)
def noRow : RowM := ⟨none, 0, []⟩
theorem noRow_own (w : World) : noRow.own w := ⟨rfl, .inl ⟨rfl, rfl⟩⟩
/-- A step in memory. -/
inductive StM where
  | put (i : Nat) (b : List UInt8) (p0 p1 pf : Nat) (A : Option Addr) (c : Nat)
  | cut (i n : Nat) (p0 p1 : Nat)
def ptrD (p : Nat) : Value := .pointer (some ⟨p, 0, none⟩)
def StM.d : StM → StD
  | .put i b _ _ _ _ _ => .put i b
  | .cut i n _ _ => .cut i n
def StM.whole : StM → Value
  | .put _ _ _ p1 pf _ _ => .func (.func 77) #[] #[ptrD pf, ptrD p1]
  | .cut _ _ p0 p1 => .func (.func 67) #[] #[ptrD p0, ptrD p1]
def StM.torn : StM → Value
  | .put _ _ _ p1 pf _ _ => .func (.func 78) #[] #[ptrD pf, ptrD p1]
  | .cut _ _ _ _ => .func (.func 68) #[] #[]
def StM.c (s : StM) : List Value := [s.whole, s.torn]
def StM.ro : StM → List Nat
  | .put _ _ p0 p1 pf A _ => p0 :: p1 :: pf :: (A.map (·.block)).toList
  | .cut _ _ p0 p1 => [p0, p1]
def firstV (p0 p1 : Nat) : Value := .func (.func 76) #[] #[ptrD p0, ptrD p1]
structure PutOk (w : World) (i : Nat) (b : List UInt8) (p0 p1 pf : Nat) (A : Option Addr) (c : Nat) : Prop where
  a : Blk w p0 3 #[.int .i64 (i : Int)]
  s : Blk w p1 39 #[.slice A b.length c]
  f : Blk w pf 84 #[firstV p0 p1]
  l : Sees w w.heap.size A b
  cl : b.length ≤ c
  cm : c ≤ maxLen
structure CutOk (w : World) (i n : Nat) (p0 p1 : Nat) : Prop where
  a : Blk w p0 3 #[.int .i64 (i : Int)]
  s : Blk w p1 3 #[.int .i64 (n : Int)]
def StOk (w : World) : StM → Prop
  | .put i b p0 p1 pf A c => PutOk w i b p0 p1 pf A c
  | .cut i n p0 p1 => CutOk w i n p0 p1
theorem StOk.keep {S : Nat → Prop} {w w' : World} {s : StM} (h : StOk w s) (k : Keeps S w w') (hn : ∀ j ∈ s.ro, ¬ S j) : StOk w' s := by
  cases s with
  | put i b p0 p1 pf A c =>
    have h : PutOk w i b p0 p1 pf A c := h
    refine ⟨h.a.keeps k (hn _ (by simp [StM.ro])), h.s.keeps k (hn _ (by simp [StM.ro])), h.f.keeps k (hn _ (by simp [StM.ro])), (h.l.keeps k (fun ad e _ => hn _ (by subst e; simp [StM.ro]))).more k.size, h.cl, h.cm⟩
  | cut i n p0 p1 =>
    have h : CutOk w i n p0 p1 := h
    exact ⟨h.a.keeps k (hn _ (by simp [StM.ro])), h.s.keeps k (hn _ (by simp [StM.ro]))⟩
/-- A disk in memory: the settled logs, then the logs as they are read; the steps that wait. -/
structure DkM where
  rows : List RowM
  A : Option Addr
  c : Nat
  W : List StM
  fuse : Int
  dead : Bool
def DkM.d (m : DkM) : DkD := ⟨m.rows.map (·.l), m.W.map StM.d, m.fuse, m.dead⟩
def stsC (W : List StM) : List Value := (W.map StM.c).flatten
def dkC (m : DkM) : List Value := .bool true :: (m.rows.map RowM.v ++ [.slice m.A m.W.length m.c, .int .i64 m.fuse, .bool m.dead])
/-- The blocks that a disk may change. -/
def foot (g : Nat) (m : DkM) (j : Nat) : Prop := j = g ∨ m.A.map (·.block) = some j ∨ ∃ r ∈ m.rows, r.bk = some j
/-- The blocks that its steps look at. -/
def ro (m : DkM) (j : Nat) : Prop := ∃ s ∈ m.W, j ∈ s.ro
structure DkOk (w : World) (g : Nat) (m : DkM) : Prop where
  b : Blk w g 54 (dkC m).toArray
  n : m.rows.length = 32
  o : ∀ r ∈ m.rows, r.own w
  q : ∀ i j x (hi : i < m.rows.length) (hj : j < m.rows.length), m.rows[i].bk = some x → m.rows[j].bk = some x → i = j
  ww : w.ownsRow 0 86 2 (.slice m.A m.W.length m.c) m.W.length (stsC m.W)
  s : ∀ s ∈ m.W, StOk w s
  f : ∀ j, ro m j → ¬ foot g m j ∧ j < w.heap.size
/-- From one disk to the next. -/
structure DkTo (w : World) (g : Nat) (m : DkM) (w' : World) (m' : DkM) : Prop where
  ok : DkOk w' g m'
  ft : ∀ j, foot g m' j → foot g m j ∨ w.heap.size ≤ j
  r : ∀ j, ro m' j → ro m j ∨ w.heap.size ≤ j
  k : Keeps (foot g m) w w'
theorem DkTo.trans {w w1 w2 : World} {g : Nat} {m m1 m2 : DkM} (h : DkTo w g m w1 m1) (k : DkTo w1 g m1 w2 m2) : DkTo w g m w2 m2 := by
  refine ⟨k.ok, fun j hj => ?_, fun j hj => ?_, ?_⟩
  · rcases k.ft j hj with h1 | h1
    · exact h.ft j h1
    · exact .inr (Nat.le_trans h.k.size h1)
  · rcases k.r j hj with h1 | h1
    · exact h.r j h1
    · exact .inr (Nat.le_trans h.k.size h1)
  · refine ⟨k.k.os.trans h.k.os, k.k.tape.trans h.k.tape, k.k.output.trans h.k.output, Nat.le_trans h.k.size k.k.size, fun b hb hn => ?_⟩
    refine (k.k.block b (Nat.lt_of_lt_of_le hb h.k.size) (fun h1 => ?_)).trans (h.k.block b hb hn)
    rcases h.ft b h1 with h2 | h2
    · exact hn h2
    · omega
theorem DkOk.lt {w : World} {g : Nat} {m : DkM} (h : DkOk w g m) : g < w.heap.size := h.b.lt
theorem own_apart {w : World} {b1 b2 s1 s2 n1 n2 : Nat} {t1 t2 : TypeId} {v1 v2 : Value} {x1 x2 : List Value} (h1 : w.ownsRow b1 t1 s1 v1 n1 x1) (h2 : w.ownsRow b2 t2 s2 v2 n2 x2) (hne : t1 ≠ t2) : ∀ j, v1.ownBlock = some j → v2.ownBlock ≠ some j := by
  intro j e1 e2
  rcases h1.2 with ⟨rfl, _⟩ | ⟨g, cap, cur, rfl, _, hh, _⟩
  · cases e1
  · rcases h2.2 with ⟨rfl, _⟩ | ⟨g', cap', cur', rfl, _, hh', _⟩
    · cases e2
    · have a1 : g = j := by simpa [Value.ownBlock] using e1
      have a2 : g' = j := by simpa [Value.ownBlock] using e2
      subst a1; subst a2
      rw [hh] at hh'
      injection hh' with hh'
      injection hh' with _ ht
      exact hne ht
theorem own_keep {S : Nat → Prop} {w w' : World} {base size n : Nat} {e : TypeId} {v : Value} {xs : List Value} (h : w.ownsRow base e size v n xs) (hk : Keeps S w w') (hn : ∀ j, v.ownBlock = some j → ¬ S j) : w'.ownsRow base e size v n xs := by
  refine ⟨h.1, ?_⟩
  rcases h.2 with h2 | ⟨g', cap, cur, rfl, hg, hh, r⟩
  · exact .inl h2
  · refine .inr ⟨g', cap, cur, rfl, hg, ?_, r⟩
    have hlt : g' < w.heap.size := by
      rcases Nat.lt_or_ge g' w.heap.size with hlt | hge
      · exact hlt
      · rw [Array.getElem?_eq_none hge] at hh; cases hh
    exact (hk.block g' hlt (hn g' rfl)).trans hh
theorem RowM.lt {w : World} {r : RowM} (h : r.own w) {j : Nat} (e : r.bk = some j) : j < w.heap.size := (own_lt h j (by rw [RowM.v, own_blkD]; exact e)).2
theorem RowM.keep {S : Nat → Prop} {w w' : World} {r : RowM} (h : r.own w) (hk : Keeps S w w') (hn : ∀ j, r.bk = some j → ¬ S j) : r.own w' := own_keep h hk (fun j e => hn j (by rw [RowM.v, own_blkD] at e; exact e))
theorem RowM.sees {w : World} {r : RowM} (h : r.own w) : Sees w w.heap.size r.A r.l := Sees.own h
theorem DkOk.foot_lt {w : World} {g : Nat} {m : DkM} (h : DkOk w g m) {j : Nat} (hj : foot g m j) : j < w.heap.size := by
  rcases hj with rfl | hj | ⟨r, hr, hj⟩
  · exact h.lt
  · exact (own_lt h.ww j (by rw [own_blkD]; exact hj)).2
  · exact RowM.lt (h.o r hr) hj
theorem DkOk.later {S : Nat → Prop} {w w' : World} {g : Nat} {m : DkM} (h : DkOk w g m) (k : Keeps S w w') (hf : ∀ j, foot g m j → ¬ S j) (hr : ∀ j, ro m j → ¬ S j) : DkOk w' g m :=
  ⟨h.b.keeps k (hf g (.inl rfl)), h.n, fun r hm => RowM.keep (h.o r hm) k (fun j e => hf j (.inr (.inr ⟨r, hm, e⟩))), h.q, own_keep h.ww k (fun j e => hf j (.inr (.inl (by rw [own_blkD] at e; exact e)))),
    fun s hs => (h.s s hs).keep k (fun j hj => hr j ⟨s, hs, hj⟩), fun j hj => ⟨(h.f j hj).1, Nat.lt_of_lt_of_le (h.f j hj).2 k.size⟩⟩
theorem DkTo.refl {w : World} {g : Nat} {m : DkM} (h : DkOk w g m) : DkTo w g m w m := ⟨h, fun _ hj => .inl hj, fun _ hj => .inl hj, Keeps.refl _ _⟩
/-- Only new memory was written. -/
theorem DkTo.below {w w' : World} {g : Nat} {m : DkM} (h : DkOk w g m) (b : Below w.heap.size w w') : DkTo w g m w' m :=
  ⟨h.later (Keeps.of_below b (fun _ => False)) (fun _ _ h => h) (fun _ _ h => h), fun _ hj => .inl hj, fun _ hj => .inl hj, Keeps.of_below b _⟩
theorem dkC_len {m : DkM} (n : m.rows.length = 32) : (dkC m).length = 36 := by simp [dkC, n]
theorem dkC_row {m : DkM} {k : Nat} (hk : k < m.rows.length) : (dkC m)[1 + k]? = some m.rows[k].v := by
  rw [Nat.add_comm]
  simp [dkC, List.getElem?_append_left, hk]
theorem dkC_wait {m : DkM} (n : m.rows.length = 32) : (dkC m)[33]? = some (.slice m.A m.W.length m.c) := by
  show (m.rows.map RowM.v ++ _)[32]? = _
  rw [List.getElem?_append_right (by simp [n])]
  simp [n]
theorem dkC_fuse {m : DkM} (n : m.rows.length = 32) : (dkC m)[34]? = some (.int .i64 m.fuse) := by
  show (m.rows.map RowM.v ++ _)[33]? = _
  rw [List.getElem?_append_right (by simp [n])]
  simp [n]
theorem dkC_dead {m : DkM} (n : m.rows.length = 32) : (dkC m)[35]? = some (.bool m.dead) := by
  show (m.rows.map RowM.v ++ _)[34]? = _
  rw [List.getElem?_append_right (by simp [n])]
  simp [n]
section
variable {w : World} {g : Nat} {m : DkM}
theorem DkOk.cell (h : DkOk w g m) (k : Nat) : w.cell? ⟨g, k, none⟩ = (dkC m)[k]? := by rw [h.b.cell, List.getElem?_toArray]
theorem DkOk.made (h : DkOk w g m) : w.cell? ⟨g, 0, none⟩ = some (.bool true) := by rw [h.cell]; rfl
theorem DkOk.row (h : DkOk w g m) {k : Nat} (hk : k < 32) : w.cell? ⟨g, 1 + k, none⟩ = some (m.rows[k]'(by rw [h.n]; exact hk)).v := by rw [h.cell]; exact dkC_row (by rw [h.n]; exact hk)
theorem DkOk.wait (h : DkOk w g m) : w.cell? ⟨g, 33, none⟩ = some (.slice m.A m.W.length m.c) := by rw [h.cell]; exact dkC_wait h.n
theorem DkOk.fuse (h : DkOk w g m) : w.cell? ⟨g, 34, none⟩ = some (.int .i64 m.fuse) := by rw [h.cell]; exact dkC_fuse h.n
theorem DkOk.dead (h : DkOk w g m) : w.cell? ⟨g, 35, none⟩ = some (.bool m.dead) := by rw [h.cell]; exact dkC_dead h.n
theorem DkOk.wlen (h : DkOk w g m) : m.W.length ≤ m.c ∧ m.c ≤ maxLen := by
  rcases h.ww.2 with ⟨hv, h0⟩ | ⟨g', cap, cur, hv, _, _, hnc, hcm, _⟩
  · injection hv with _ _ h3; unfold maxLen; omega
  · injection hv with _ _ h3; omega
end
theorem RowM.len {w : World} {r : RowM} (h : r.own w) : r.l.length ≤ r.c ∧ r.c ≤ maxLen := by
  rcases h.2 with ⟨hv, h0⟩ | ⟨g', cap, cur, hv, _, _, hnc, hcm, _⟩
  · injection hv with _ _ h3; unfold maxLen; omega
  · injection hv with _ _ h3; omega
theorem dkC_setRow {m : DkM} (n : m.rows.length = 32) {k : Nat} (hk : k < 32) (r : RowM) : ((dkC m).toArray.setIfInBounds (1 + k) r.v) = (dkC { m with rows := m.rows.set k r }).toArray := by
  rw [List.setIfInBounds_toArray]
  congr 1
  rw [Nat.add_comm]
  simp only [dkC, List.set_cons_succ, List.map_set]
  rw [List.set_append_left _ _ (by simp [n, hk])]
theorem dkC_setFuse {m : DkM} (n : m.rows.length = 32) (f : Int) : ((dkC m).toArray.setIfInBounds 34 (.int .i64 f)) = (dkC { m with fuse := f }).toArray := by
  rw [List.setIfInBounds_toArray]
  congr 1
  show _ :: (List.set (m.rows.map RowM.v ++ _) 33 _) = _
  rw [List.set_append_right _ _ (by simp [n])]
  simp [n, dkC]
theorem dkC_setDead {m : DkM} (n : m.rows.length = 32) (z : Bool) : ((dkC m).toArray.setIfInBounds 35 (.bool z)) = (dkC { m with dead := z }).toArray := by
  rw [List.setIfInBounds_toArray]
  congr 1
  show _ :: (List.set (m.rows.map RowM.v ++ _) 34 _) = _
  rw [List.set_append_right _ _ (by simp [n])]
  simp [n, dkC]
theorem dkC_setWait {m : DkM} (n : m.rows.length = 32) (A : Option Addr) (c : Nat) (W : List StM) : ((dkC m).toArray.setIfInBounds 33 (.slice A W.length c)) = (dkC { m with A := A, c := c, W := W }).toArray := by
  rw [List.setIfInBounds_toArray]
  congr 1
  show _ :: (List.set (m.rows.map RowM.v ++ _) 32 _) = _
  rw [List.set_append_right _ _ (by simp [n])]
  simp [n, dkC]
/-- One row is another. -/
theorem DkTo.row {w w' : World} {g : Nat} {m : DkM} (h : DkOk w g m) {k : Nat} (hk : k < 32) {r : RowM} (hb : Blk w' g 54 ((dkC m).toArray.setIfInBounds (1 + k) r.v)) (ho : r.own w')
    (hn : r.bk = (m.rows[k]'(by rw [h.n]; exact hk)).bk ∨ r.bk = none ∨ ∃ j, r.bk = some j ∧ w.heap.size ≤ j) (hK : Keeps (fun j => j = g ∨ (m.rows[k]'(by rw [h.n]; exact hk)).bk = some j) w w') : DkTo w g m w' { m with rows := m.rows.set k r } := by
  have hk' : k < m.rows.length := by rw [h.n]; exact hk
  have hS : Keeps (foot g m) w w' := hK.mono (fun j _ hj => by
    rcases hj with rfl | hj
    · exact .inl rfl
    · exact .inr (.inr ⟨_, List.getElem_mem hk', hj⟩))
  have hft : ∀ j, foot g { m with rows := m.rows.set k r } j → foot g m j ∨ w.heap.size ≤ j := by
    rintro j (rfl | hj | ⟨s, hs, hj⟩)
    · exact .inl (.inl rfl)
    · exact .inl (.inr (.inl hj))
    · rcases List.mem_or_eq_of_mem_set hs with hs | rfl
      · exact .inl (.inr (.inr ⟨s, hs, hj⟩))
      · rcases hn with hn | hn | ⟨i, hn, hi⟩
        · exact .inl (.inr (.inr ⟨_, List.getElem_mem hk', hn.symm.trans hj⟩))
        · rw [hn] at hj; cases hj
        · rw [hn] at hj; injection hj with hj; subst hj; exact .inr hi
  have hne : ∀ i (hi : i < m.rows.length), i ≠ k → ∀ j, m.rows[i].bk = some j → ¬ (j = g ∨ m.rows[k].bk = some j) := by
    intro i hi hik j hj h1
    rcases h1 with rfl | h1
    · have h2 := h.b.notOwn (h.o _ (List.getElem_mem hi)) (by decide)
      exact h2 (by rw [RowM.v, own_blkD]; exact hj.symm)
    · exact hik (h.q i k j hi hk' hj h1)
  have hq : ∀ i j x (hi : i < (m.rows.set k r).length) (hj : j < (m.rows.set k r).length), (m.rows.set k r)[i].bk = some x → (m.rows.set k r)[j].bk = some x → i = j := by
    have one : ∀ i (hi : i < m.rows.length), i ≠ k → ∀ x, m.rows[i].bk = some x → r.bk ≠ some x := by
      intro i hi hik x hx hr
      rcases hn with hn | hn | ⟨y, hn, hy⟩
      · exact hik (h.q i k x hi hk' hx (hn.symm.trans hr))
      · rw [hn] at hr; cases hr
      · rw [hn] at hr; injection hr with hr; subst hr
        have := RowM.lt (h.o _ (List.getElem_mem hi)) hx
        omega
    intro i j x hi hj hxi hxj
    rw [List.length_set] at hi hj
    rw [List.getElem_set] at hxi hxj
    by_cases e1 : k = i
    · by_cases e2 : k = j
      · omega
      · rw [if_pos e1] at hxi
        rw [if_neg e2] at hxj
        exact absurd hxi (one j hj (fun e => e2 e.symm) x hxj)
    · rw [if_neg e1] at hxi
      by_cases e2 : k = j
      · rw [if_pos e2] at hxj
        exact absurd hxj (one i hi (fun e => e1 e.symm) x hxi)
      · rw [if_neg e2] at hxj
        exact h.q i j x hi hj hxi hxj
  refine ⟨⟨?_, by rw [List.length_set]; exact h.n, fun s hs => ?_, hq, own_keep h.ww hK (fun j e => ?_), fun s hs => (h.s s hs).keep hS (fun j hj => (h.f j ⟨s, hs, hj⟩).1), fun j hj => ?_⟩, hft, fun j hj => .inl hj, hS⟩
  · rw [← dkC_setRow h.n hk]; exact hb
  · obtain ⟨i, hi, rfl⟩ := List.getElem_of_mem hs
    rw [List.length_set] at hi
    rw [List.getElem_set]
    by_cases e : k = i
    · rw [if_pos e]; exact ho
    · rw [if_neg e]
      exact RowM.keep (h.o _ (List.getElem_mem hi)) hK (fun j hj => hne i hi (fun e2 => e e2.symm) j hj)
  · rw [own_blkD] at e
    rintro (rfl | h1)
    · exact h.b.notOwn h.ww (by decide) (by rw [own_blkD]; exact e.symm)
    · exact own_apart h.ww (h.o _ (List.getElem_mem hk')) (by decide) j (by rw [own_blkD]; exact e) (by rw [RowM.v, own_blkD]; exact h1)
  · have h1 := h.f j hj
    refine ⟨fun h2 => ?_, Nat.lt_of_lt_of_le h1.2 hK.size⟩
    rcases hft j h2 with h3 | h3
    · exact h1.1 h3
    · omega
/-- The fuse, or whether it is dead, is another. -/
theorem DkTo.cells {w w' : World} {g : Nat} {m : DkM} (h : DkOk w g m) {f : Int} {z : Bool} (hb : Blk w' g 54 (dkC { m with fuse := f, dead := z }).toArray) (hK : Keeps (fun j => j = g) w w') : DkTo w g m w' { m with fuse := f, dead := z } := by
  have hS : Keeps (foot g m) w w' := hK.mono (fun j _ hj => .inl hj)
  refine ⟨⟨hb, h.n, fun r hr => RowM.keep (h.o r hr) hK (fun j e he => ?_), h.q, own_keep h.ww hK (fun j e he => ?_), fun s hs => (h.s s hs).keep hS (fun j hj => (h.f j ⟨s, hs, hj⟩).1), fun j hj => ⟨(h.f j hj).1, Nat.lt_of_lt_of_le (h.f j hj).2 hK.size⟩⟩, fun j hj => .inl hj, fun j hj => .inl hj, hS⟩
  · subst he
    exact h.b.notOwn (h.o r hr) (by decide) (by rw [RowM.v, own_blkD]; exact e.symm)
  · subst he
    exact h.b.notOwn h.ww (by decide) e.symm
end Go.Proofs.YthamlphebnhcpaaDoor
