/-
  reach: one cover that is turned; while covers are turned.
-/
import Derived.Test.YtbfpckomgpkjgaaGreatRx8
import Derived.Test.YtbfpckomgpkjgaaGreatPRnQ19
namespace Go.Proofs.YtbfpckomgpkjgaaGreat
open Go.RowKit Go.Maps

/-- What is a map is no row. -/
theorem map_ne {w : World} {P : Program} {k : TypeId} {H : Type} {R : Value → Option (DataW H × List MemPlace)} {b n g : Nat} {D : DataW H} {t : TypeId} {cs : Array Value} (h : w.ownsMap P k R b n D) (hB : Blk w g t cs) : g ≠ b := fun e => by
  obtain ⟨es, clock, hb, r⟩ := h
  unfold Blk at hB
  rw [e, hb] at hB
  cases hB
theorem map_keep {w w' : World} {P : Program} {k : TypeId} {H : Type} {R : Value → Option (DataW H × List MemPlace)} {b n : Nat} {D : DataW H} {S : Nat → Prop} (h : w.ownsMap P k R b n D) (hk : Keeps S w w') (hS : ¬ S b) : w'.ownsMap P k R b n D := by
  obtain ⟨es, clock, hb, r⟩ := h
  exact ⟨es, clock, (hk.block _ (Array.getElem?_eq_some_iff.1 hb).1 hS).trans hb, r⟩
/-- The blocks of covers. -/
def rcov (m : RxM) (b : Nat) : Prop := b = m.cb ∨ ∃ j, (m.f j).1.map Addr.block = some b
theorem rcov_own {m : RxM} {b : Nat} (h : rcov m b) : rown m b := by
  rcases h with h | h
  · exact .inr (.inr (.inl h))
  · exact .inr (.inr (.inr (.inr h)))
/-- One cover is another one. -/
def RxM.setC (m : RxM) (k : Nat) (A : Option Addr) (c : Nat) (l : List Nat) : RxM :=
  { m with cn := m.cn + 1, D := m.D.put (.int .i64 (k : Int)) (.held (A, l.length, c)), f := fun j => if j = k then (A, c) else m.f j, C := fun j => if j = k then l else m.C j }
theorem RxOk.setC {w w1 w2 : World} {base : Nat} {m : RxM} (h : RxOk w base m) (k : Nat) {A : Option Addr} {c : Nat} {l : List Nat}
    (k1 : Keeps (fun b => (m.f k).1.map Addr.block = some b) w w1) (ho : w1.ownsRow base 3 1 (.slice A l.length c) l.length (tiC l)) (hA : ∀ b, A.map Addr.block = some b → (m.f k).1.map Addr.block = some b ∨ w.heap.size ≤ b)
    (hm : w2.ownsMap Tryz.prog 3 slR m.cb (m.cn + 1) (m.D.put (.int .i64 (k : Int)) (.held (A, l.length, c)))) (hg : w1.grownBy w2 (some m.cb)) :
    RxOk w2 base (m.setC k A c l) ∧ Keeps (fun b => (m.f k).1.map Addr.block = some b ∨ b = m.cb) w w2 := by
  have k2 : Keeps (fun b => b = m.cb) w1 w2 := Keeps.grown (Keeps.refl _ _) hg (fun k e => by cases e; rfl)
  have K : Keeps (fun b => (m.f k).1.map Addr.block = some b ∨ b = m.cb) w w2 := (k1.mono fun _ _ e => .inl e).trans (k2.mono fun _ _ e => .inr e)
  have hcov : w1.ownsMap Tryz.prog 3 slR m.cb m.cn m.D := map_keep h.cov k1 fun e => by
    obtain ⟨_, cur, hB⟩ := own_blk (h.row k) e
    exact map_ne h.cov hB rfl
  have hblk : ∀ b, (m.f k).1.map Addr.block = some b → ∃ cur, Blk w b 3 cur := fun b e => by obtain ⟨_, cur, hB⟩ := own_blk (h.row k) e; exact ⟨cur, hB⟩
  have hS : ∀ b, ((m.f k).1.map Addr.block = some b ∨ b = m.cb) → rown m b := fun b e => by
    rcases e with e | e
    · exact .inr (.inr (.inr (.inr ⟨k, e⟩)))
    · exact .inr (.inr (.inl e))
  have hno : ∀ {b : Nat} {t : TypeId} {cs : Array Value}, Blk w b t cs → t ≠ 3 → ¬ ((m.f k).1.map Addr.block = some b ∨ b = m.cb) := fun hB hne e => by
    rcases e with e | e
    · obtain ⟨cur, hB'⟩ := hblk _ e
      exact hne (tblk_tag hB hB')
    · exact map_ne h.cov hB e
  refine ⟨?_, K⟩
  have hold : ∀ b, rown (m.setC k A c l) b → rown m b ∨ w.heap.size ≤ b := fun b e => by
    rcases e with e | e | e | e | ⟨j, e⟩
    · exact .inl (.inl e)
    · exact .inl (.inr (.inl e))
    · exact .inl (.inr (.inr (.inl e)))
    · exact .inl (.inr (.inr (.inr (.inl e))))
    · by_cases hj : j = k
      · simp only [RxM.setC, if_pos hj] at e
        rcases hA b e with e | e
        · exact .inl (.inr (.inr (.inr (.inr ⟨k, e⟩))))
        · exact .inr e
      · simp only [RxM.setC, if_neg hj] at e
        exact .inl (.inr (.inr (.inr (.inr ⟨j, e⟩))))
  exact {
    b := h.b.keeps K (hno h.b (by decide))
    qb := h.qb
    nbb := h.nbb
    cbb := h.cbb
    g := h.g.keeps K fun b e e' => h.sg b (hS b e') e
    t := h.t.keeps K fun b e e' => h.st b (hS b e') e
    ids := K.own h.ids fun b e => by
      obtain ⟨_, cur, hB⟩ := own_blk h.ids e
      exact hno hB (by decide)
    map := map_keep h.map K fun e => by
      rcases e with e | e
      · obtain ⟨cur, hB⟩ := hblk _ e
        exact map_ne h.map hB rfl
      · exact h.nc e
    cov := hm
    at_ := fun j => by
      have ht := h.cov.isMap
      by_cases hj : j = k
      · subst hj
        simp only [RxM.setC, if_true]
        exact atKey_put_same ht (by trivial) _ _
      · simp only [RxM.setC, if_neg hj]
        rw [atKey_put_other (fun e => hj (by injection e with _ e; omega))]
        exact h.at_ j
    row := fun j => by
      by_cases hj : j = k
      · simp only [RxM.setC, if_pos hj]
        exact k2.own ho fun b e e' => by
          obtain ⟨_, cur, hB⟩ := own_blk ho e
          exact map_ne hcov hB e'
      · simp only [RxM.setC, if_neg hj]
        exact K.own (h.row j) fun b e e' => by
          rcases e' with e' | e'
          · exact h.fd j k hj b e e'
          · obtain ⟨_, cur, hB⟩ := own_blk (h.row j) e
            exact map_ne h.cov hB e'
    sg := fun b e e' => by
      rcases hold b e with e | e
      · exact h.sg b e e'
      · have := h.g.tlt e'; omega
    st := fun b e e' => by
      rcases hold b e with e | e
      · exact h.st b e e'
      · have := (h.t.lt e').2; omega
    gt := h.gt
    nc := h.nc
    fd := fun i j hij b => by
      by_cases hi : i = k
      · have hj : ¬ j = k := fun e => hij (hi.trans e.symm)
        simp only [RxM.setC, if_pos hi, if_neg hj]
        intro e e'
        rcases hA b e with e | e
        · exact h.fd k j (fun e => hj e.symm) b e e'
        · obtain ⟨_, cur, hB⟩ := own_blk (h.row j) e'
          have := hB.lt; omega
      · by_cases hj : j = k
        · simp only [RxM.setC, if_neg hi, if_pos hj]
          intro e e'
          rcases hA b e' with e' | e'
          · exact h.fd i k hi b e e'
          · obtain ⟨_, cur, hB⟩ := own_blk (h.row i) e
            have := hB.lt; omega
        · simp only [RxM.setC, if_neg hi, if_neg hj]
          exact h.fd i j hij b }
/-- What does not change while covers are turned. -/
structure SameG (m m' : RxM) : Prop where
  q : m'.q = m.q
  g : m'.g = m.g
  t : m'.t = m.t
  iA : m'.iA = m.iA
  ic : m'.ic = m.ic
  ids : m'.ids = m.ids
  nb : m'.nb = m.nb
  ks : m'.ks = m.ks
  cb : m'.cb = m.cb
theorem SameG.refl (m : RxM) : SameG m m := ⟨rfl, rfl, rfl, rfl, rfl, rfl, rfl, rfl, rfl⟩
theorem SameG.trans {a b c : RxM} (h : SameG a b) (k : SameG b c) : SameG a c := ⟨k.q.trans h.q, k.g.trans h.g, k.t.trans h.t, k.iA.trans h.iA, k.ic.trans h.ic, k.ids.trans h.ids, k.nb.trans h.nb, k.ks.trans h.ks, k.cb.trans h.cb⟩
theorem SameG.setC (m : RxM) (k : Nat) (A : Option Addr) (c : Nat) (l : List Nat) : SameG m (m.setC k A c l) := ⟨rfl, rfl, rfl, rfl, rfl, rfl, rfl, rfl, rfl⟩
/-- From one index and queue to the next. -/
structure CvK (w : World) (m : RxM) (A0 : Option Addr) (w' : World) (m' : RxM) (A : Option Addr) : Prop where
  same : SameG m m'
  k : Keeps (fun b => rcov m b ∨ A0.map Addr.block = some b) w w'
  f : ∀ b, rcov m' b → rcov m b ∨ w.heap.size ≤ b
  q : ∀ b, A.map Addr.block = some b → A0.map Addr.block = some b ∨ w.heap.size ≤ b
theorem CvK.refl (w : World) (m : RxM) (A : Option Addr) : CvK w m A w m A := ⟨SameG.refl m, Keeps.refl _ _, fun b e => .inl e, fun b e => .inl e⟩
theorem CvK.trans {w w1 w2 : World} {m m1 m2 : RxM} {A A1 A2 : Option Addr} (h : CvK w m A w1 m1 A1) (k : CvK w1 m1 A1 w2 m2 A2) : CvK w m A w2 m2 A2 where
  same := h.same.trans k.same
  k := ⟨k.k.os.trans h.k.os, k.k.tape.trans h.k.tape, k.k.output.trans h.k.output, Nat.le_trans h.k.size k.k.size, fun b hb hn => (k.k.block b (Nat.lt_of_lt_of_le hb h.k.size) (fun e => by
    rcases e with e | e
    · rcases h.f b e with e | e
      · exact hn (.inl e)
      · omega
    · rcases h.q b e with e | e
      · exact hn (.inr e)
      · omega)).trans (h.k.block b hb hn)⟩
  f b e := by
    rcases k.f b e with e | e
    · exact h.f b e
    · exact .inr (Nat.le_trans h.k.size e)
  q b e := by
    rcases k.q b e with e | e
    · exact h.q b e
    · exact .inr (Nat.le_trans h.k.size e)
theorem CvK.later {w w1 w2 : World} {m m1 : RxM} {A A1 : Option Addr} (h : CvK w m A w1 m1 A1) (k : Below w1.heap.size w1 w2) : CvK w m A w2 m1 A1 :=
  h.trans ⟨SameG.refl _, Keeps.of_below k _, fun b e => .inl e, fun b e => .inl e⟩
/-- An index and a queue beside it. -/
structure CvW (w0 : Nat) (base : Nat) (m : RxM) (Q : List Nat) (A : Option Addr) (c : Nat) (w : World) : Prop where
  ok : RxOk w base m
  qo : w.ownsRow w0 3 1 (.slice A Q.length c) Q.length (tiC Q)
  qa : ∀ b, A.map Addr.block = some b → ¬ rtouch m b
theorem CvW.later {w0 base c : Nat} {m : RxM} {Q : List Nat} {A : Option Addr} {w w' : World} (h : CvW w0 base m Q A c w) (k : Below w.heap.size w w') : CvW w0 base m Q A c w' :=
  ⟨h.ok.later k, own_below h.qo k fun g hg => (own_lt h.qo g hg).2, h.qa⟩
/-- One more in a cover. -/
theorem CvW.ins {w0 base c : Nat} {m : RxM} {Q : List Nat} {A : Option Addr} {w w1 w2 : World} (h : CvW w0 base m Q A c w) (k i x : Nat) {A1 : Option Addr} {c1 : Nat}
    (hi : i ≤ (m.C k).length) (ho : w1.ownsRow base 3 1 (.slice A1 ((m.C k).length + 1) c1) ((m.C k).length + 1) (tiC ((m.C k).take i ++ x :: (m.C k).drop i))) (k1 : Keeps (fun b => (m.f k).1.map Addr.block = some b) w w1) (hA : ∀ b, A1.map Addr.block = some b → (m.f k).1.map Addr.block = some b ∨ w.heap.size ≤ b)
    (hm : w2.ownsMap Tryz.prog 3 slR m.cb (m.cn + 1) (m.D.put (.int .i64 (k : Int)) (.held (A1, (m.C k).length + 1, c1)))) (hg : w1.grownBy w2 (some m.cb)) :
    CvW w0 base (m.setC k A1 c1 ((m.C k).take i ++ x :: (m.C k).drop i)) Q A c w2 ∧ CvK w m A w2 (m.setC k A1 c1 ((m.C k).take i ++ x :: (m.C k).drop i)) A := by
  have hl := ins_len (m.C k) i x
  rw [← hl] at ho hm
  obtain ⟨h1, K⟩ := h.ok.setC k k1 ho hA hm hg
  have hqb : ∀ b, A.map Addr.block = some b → ¬ ((m.f k).1.map Addr.block = some b ∨ b = m.cb) := fun b e e' => by
    refine h.qa b e (.inr (.inr ?_))
    rcases e' with e' | e'
    · exact .inr (.inr (.inr (.inr ⟨k, e'⟩)))
    · exact .inr (.inr (.inl e'))
  have hf : ∀ b, rcov (m.setC k A1 c1 ((m.C k).take i ++ x :: (m.C k).drop i)) b → rcov m b ∨ w.heap.size ≤ b := fun b e => by
    rcases e with e | ⟨j, e⟩
    · exact .inl (.inl e)
    · by_cases hj : j = k
      · simp only [RxM.setC, if_pos hj] at e
        rcases hA b e with e | e
        · exact .inl (.inr ⟨k, e⟩)
        · exact .inr e
      · simp only [RxM.setC, if_neg hj] at e
        exact .inl (.inr ⟨j, e⟩)
  refine ⟨⟨h1, K.own h.qo hqb, fun b e e' => ?_⟩, ⟨SameG.setC _ _ _ _ _, K.mono fun b _ e => .inl (by
    rcases e with e | e
    · exact .inr ⟨k, e⟩
    · exact .inl e), hf, fun b e => .inl e⟩⟩
  have hlt := (own_lt h.qo b (by rw [town_map]; exact e)).2
  rcases e' with e' | e' | e'
  · exact h.qa b e (.inl e')
  · exact h.qa b e (.inr (.inl e'))
  · rcases e' with e' | e' | e' | e' | e'
    · exact h.qa b e (.inr (.inr (.inl e')))
    · exact h.qa b e (.inr (.inr (.inr (.inl e'))))
    · exact h.qa b e (.inr (.inr (.inr (.inr (.inl e')))))
    · exact h.qa b e (.inr (.inr (.inr (.inr (.inr (.inl e'))))))
    · rcases hf b (.inr e') with e9 | e9
      · exact h.qa b e (.inr (.inr (rcov_own e9)))
      · omega
/-- One more in the queue. -/
theorem CvW.push {w0 base c : Nat} {m : RxM} {Q : List Nat} {A : Option Addr} {w w1 : World} (h : CvW w0 base m Q A c w) (x : Nat) {A1 : Option Addr} {c1 : Nat}
    (ho : w1.ownsRow w0 3 1 (.slice A1 (Q.length + 1) c1) (Q.length + 1) (tiC Q ++ [.int .i64 (x : Int)])) (hg : w.grownBy w1 (A.map Addr.block)) (hA : A1.map Addr.block = A.map Addr.block ∨ A1.map Addr.block = some w.heap.size) :
    CvW w0 base m (Q ++ [x]) A1 c1 w1 ∧ CvK w m A w1 m A1 := by
  have K : Keeps (fun b => A.map Addr.block = some b) w w1 := Keeps.grown (Keeps.refl _ _) hg (fun k e => e)
  have e1 : tiC (Q ++ [x]) = tiC Q ++ [.int .i64 (x : Int)] := by simp [tiC]
  have e2 : (Q ++ [x]).length = Q.length + 1 := by simp
  refine ⟨⟨h.ok.keeps K fun b e e' => h.qa b e' e, by rw [e1, e2]; exact ho, fun b e => ?_⟩, ⟨SameG.refl _, K.mono fun b _ e => .inr e, fun b e => .inl e, fun b e => ?_⟩⟩
  · rcases hA with hA | hA
    · exact h.qa b (by rw [← hA]; exact e)
    · intro e'
      have := h.ok.tlt e'
      rw [hA] at e
      cases e
      omega
  · rcases hA with hA | hA
    · exact .inl (by rw [← hA]; exact e)
    · rw [hA] at e
      cases e
      exact .inr (Nat.le_refl _)
end Go.Proofs.YtbfpckomgpkjgaaGreat
