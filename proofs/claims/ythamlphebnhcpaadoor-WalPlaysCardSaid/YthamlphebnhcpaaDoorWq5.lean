/-
  wal, the law's step: the program's pair and the document's lie apart, and go on alike.
-/
import Derived.Test.YthamlphebnhcpaaDoorPWpQ3
namespace Go.Proofs.YthamlphebnhcpaaDoor
open Go.RowKit

/-- The program's disk and log, and the document's. -/
structure TwoL (W0 w : World) (d : Nat) (dm : DkM) (q : Nat) (m : WlM) (g : Nat) (rm : RfM) (p : Nat) (lm : WlM) (E : DkD) : Prop where
  a : PairW w d dm q m
  b : RlPair w g rm p lm E
  f : ∀ j, foot d dm j ∨ footW q m j → ¬ allL g rm p lm j
  r : ∀ j, footL g rm p lm j → ¬ (ro dm j ∨ rowsW m j)
  na : ∀ j, foot d dm j ∨ footW q m j → W0.heap.size ≤ j
  nb : ∀ j, footL g rm p lm j → W0.heap.size ≤ j
  v : Below W0.heap.size W0 w
theorem PairW.foot_lt {w : World} {d q : Nat} {dm : DkM} {m : WlM} (h : PairW w d dm q m) {j : Nat} (hj : foot d dm j ∨ footW q m j) : j < w.heap.size := hj.elim h.k.foot_lt h.l.foot_lt
theorem PairW.ro_lt {w : World} {d q : Nat} {dm : DkM} {m : WlM} (h : PairW w d dm q m) {j : Nat} (hj : ro dm j ∨ rowsW m j) : j < w.heap.size := hj.elim (fun h1 => (h.k.f j h1).2) h.l.rows_lt
theorem RlPair.later {S : Nat → Prop} {w w' : World} {g q : Nat} {rm : RfM} {m : WlM} {D : DkD} (h : RlPair w g rm q m D) (k : Keeps S w w') (hs : ∀ j, allL g rm q m j → ¬ S j) : RlPair w' g rm q m D :=
  ⟨h.k.later k (fun j hj => hs j (.inl (.inl hj))) (fun r hr j hj => hs j (.inl (.inr ⟨r, hr, hj⟩))), h.l.later k (fun j hj => hs j (.inr (.inl hj))) (fun j hj => hs j (.inr (.inr hj))), h.r, h.wf⟩
theorem PairW.later {S : Nat → Prop} {w w' : World} {d q : Nat} {dm : DkM} {m : WlM} (h : PairW w d dm q m) (k : Keeps S w w') (hf : ∀ j, foot d dm j ∨ footW q m j → ¬ S j) (hr : ∀ j, ro dm j ∨ rowsW m j → ¬ S j) : PairW w' d dm q m :=
  ⟨h.k.later k (fun j hj => hf j (.inl hj)) (fun j hj => hr j (.inl hj)), h.l.later k (fun j hj => hf j (.inr hj)) (fun j hj => hr j (.inr hj)), h.wf, h.o, h.p⟩
section
variable {W0 w w' : World} {d q g p : Nat} {dm dm' : DkM} {m m' : WlM} {rm rm' : RfM} {lm lm' : WlM} {E E' : DkD}
theorem TwoL.step1 (h : TwoL W0 w d dm q m g rm p lm E) (t : WlTo w d dm q m w' dm' m') : TwoL W0 w' d dm' q m' g rm p lm E := by
  refine ⟨t.ok, h.b.later t.k (fun j hj hs => h.f j hs hj), fun j hj ha => ?_, fun j hj hr => ?_, fun j hj => ?_, h.nb, h.v.trans (t.k.below h.v.size (fun j hj hf => by have := h.na j hf; omega))⟩
  · rcases t.ft j hj with h1 | h1
    · exact h.f j h1 ha
    · have := h.b.all_lt ha; omega
  · rcases t.rd j hr with h1 | h1
    · exact h.r j hj h1
    · have := h.b.all_lt (allL_of hj); omega
  · rcases t.ft j hj with h1 | h1
    · exact h.na j h1
    · exact Nat.le_trans h.v.size h1
theorem TwoL.step2 (h : TwoL W0 w d dm q m g rm p lm E) (t : RlTo w g rm p lm w' rm' lm' E') : TwoL W0 w' d dm q m g rm' p lm' E' := by
  refine ⟨h.a.later t.k (fun j hj hs => h.f j hj (allL_of hs)) (fun j hj hs => h.r j hs hj), t.ok, fun j hj ha => ?_, fun j hj hr => ?_, h.na, fun j hj => ?_, h.v.trans (t.k.below h.v.size (fun j hj hf => by have := h.nb j hf; omega))⟩
  · rcases t.al j ha with h1 | h1
    · exact h.f j hj h1
    · have := h.a.foot_lt hj; omega
  · rcases t.ft j hj with h1 | h1
    · exact h.r j h1 hr
    · have := h.a.ro_lt hr; omega
  · rcases t.ft j hj with h1 | h1
    · exact h.nb j h1
    · exact Nat.le_trans h.v.size h1
theorem TwoL.below (h : TwoL W0 w d dm q m g rm p lm E) (b : Below w.heap.size w w') : TwoL W0 w' d dm q m g rm p lm E := h.step1 (WlTo.below h.a b)
/-- A new log of the program's. -/
theorem TwoL.open1 {q' : Nat} (h : TwoL W0 w d dm q m g rm p lm E) (t : DkTo w d dm w' dm') (ok : PairW w' d dm' q' m') (n : ∀ j, footW q' m' j ∨ rowsW m' j → w.heap.size ≤ j) : TwoL W0 w' d dm' q' m' g rm p lm E := by
  refine ⟨ok, h.b.later t.k (fun j hj hs => h.f j (.inl hs) hj), fun j hj ha => ?_, fun j hj hr => ?_, fun j hj => ?_, h.nb, h.v.trans (t.k.below h.v.size (fun j hj hf => by have := h.na j (.inl hf); omega))⟩
  · have hlt := h.b.all_lt ha
    rcases hj with hj | hj
    · rcases t.ft j hj with h1 | h1
      · exact h.f j (.inl h1) ha
      · omega
    · have := n j (.inl hj); omega
  · have hlt := h.b.all_lt (allL_of hj)
    rcases hr with hr | hr
    · rcases t.r j hr with h1 | h1
      · exact h.r j hj (.inl h1)
      · omega
    · have := n j (.inr hr); omega
  · rcases hj with hj | hj
    · rcases t.ft j hj with h1 | h1
      · exact h.na j (.inl h1)
      · exact Nat.le_trans h.v.size h1
    · exact Nat.le_trans h.v.size (n j (.inl hj))
/-- A new log of the document's. -/
theorem TwoL.open2 {p' : Nat} (h : TwoL W0 w d dm q m g rm p lm E) (t : RfTo w g rm w' rm') (ok : RlPair w' g rm' p' lm' E') (n : ∀ j, footW p' lm' j ∨ rowsW lm' j → w.heap.size ≤ j) : TwoL W0 w' d dm q m g rm' p' lm' E' := by
  refine ⟨h.a.later t.k (fun j hj hs => h.f j hj (.inl (.inl hs))) (fun j hj hs => h.r j (.inl hs) hj), ok, fun j hj ha => ?_, fun j hj hr => ?_, h.na, fun j hj => ?_, h.v.trans (t.k.below h.v.size (fun j hj hf => by have := h.nb j (.inl hf); omega))⟩
  · have hlt := h.a.foot_lt hj
    rcases ha with ha | ha
    · rcases t.al j ha with h1 | h1
      · exact h.f j hj (.inl h1)
      · omega
    · have := n j ha; omega
  · have hlt := h.a.ro_lt hr
    rcases hj with hj | hj
    · rcases t.ft j hj with h1 | h1
      · exact h.r j (.inl h1) hr
      · omega
    · have := n j (.inl hj); omega
  · rcases hj with hj | hj
    · rcases t.ft j hj with h1 | h1
      · exact h.nb j (.inl h1)
      · exact Nat.le_trans h.v.size h1
    · exact Nat.le_trans h.v.size (n j (.inl hj))
end
/-- A step that is handed in. -/
structure ArgV where
  kind : Int
  n : Int
  m : Int
  x : UInt8
  A : Option Addr
  c : Nat
  b : List UInt8
def argVC (a : ArgV) : List Value := [.int .i64 a.kind, .int .i64 a.n, .int .i64 a.m, .int .u8 (a.x.toNat : Int), .slice a.A a.b.length a.c]
structure ArgVOk (w : World) (a : ArgV) : Prop where
  s : Sees w w.heap.size a.A a.b
  c : a.b.length ≤ a.c
  n : a.n < 9223372036854775808
theorem ArgVOk.later {w w' : World} {a : ArgV} (h : ArgVOk w a) (b : Below w.heap.size w w') : ArgVOk w' a := ⟨(h.s.later b).more b.size, h.c, h.n⟩
/-- A log opened again, if it can be. -/
def againW (D : DkD) (L : LgD) : DkD × LgD := ((openD D L.log).1, if (openD D L.log).2 = 0 then ⟨L.log, scanB (logB D L.log), sizeL (scanB (logB D L.log)), false⟩ else L)
/-- What a step makes. -/
def stepW (D : DkD) (L : LgD) (a : ArgV) : DkD × LgD :=
  if a.kind = 1 then ((putW D L a.b).1, (putW D L a.b).2.1) else if a.kind = 2 then ((emptyW D L).1, (emptyW D L).2.1) else if a.kind = 3 then ((fuseD D a.n).1, L) else
  if a.kind = 4 then againW (fuseD (crashD D a.n a.m) 1000).1 L else if a.kind = 5 then againW (fuseD (editD D L.log a.n a.x).1 1000).1 L else (D, L)
/-- What is asked of the data ahead of a step. -/
structure BndW (D : DkD) (L : LgD) (n : Nat) (i : Nat) : Prop where
  s : SmallD D n
  w : D.W.length ≤ 2 * i
  l : L.log < 16 ∧ 0 ≤ L.log
  z : L.size = sizeL L.all
  y : L.size ≤ n
theorem BndW.rows {D : DkD} {L : LgD} {n i : Nat} (h : BndW D L n i) : L.all.length ≤ n := by
  have h1 := sizeL_len L.all
  have h2 := h.y
  rw [h.z] at h2
  omega
theorem settle_Wl (D : DkD) (k : Nat) : (settleD k D).W.length ≤ D.W.length := by show (D.W.drop k).length ≤ _; rw [List.length_drop]; omega
theorem syncD_Wl (D : DkD) : (syncD D).1.W.length ≤ D.W.length := by
  unfold syncD
  cases D.dead with
  | true => exact Nat.le_refl _
  | false =>
    cases (burnD D).2 == 0 with
    | true => refine Nat.le_trans (settle_Wl _ _) ?_; rw [burnD_W]; exact Nat.le_refl _
    | false => show (burnD D).1.W.length ≤ _; rw [burnD_W]; exact Nat.le_refl _
theorem stlD_Wl (D : DkD) (e : Int) : (stlD D e).1.W.length ≤ D.W.length := by
  unfold stlD
  split
  · exact syncD_Wl D
  · exact Nat.le_refl _
theorem openD_Wl (D : DkD) (log : Int) : (openD D log).1.W.length ≤ D.W.length + 1 := by
  unfold openD
  split
  · split
    · exact Nat.le_trans (stlD_Wl _ _) (cutD_Wl _ _ _)
    · exact Nat.le_succ _
  · exact Nat.le_succ _
theorem BndW.again {D : DkD} {L : LgD} {n i : Nat} (hs : SmallD D n) (hw : D.W.length ≤ 2 * i + 1) (hl : L.log < 16 ∧ 0 ≤ L.log) (hz : L.size = sizeL L.all) (hy : L.size ≤ n) : BndW (againW D L).1 (againW D L).2 n (i + 1) := by
  unfold againW
  refine ⟨hs.open_ _, by have := openD_Wl D L.log; dsimp only; omega, ?_, ?_, ?_⟩ <;> dsimp only <;> split
  · exact hl
  · exact hl
  · rfl
  · exact hz
  · exact Nat.le_trans (scanB_size _) (hs.row _)
  · exact hy
theorem BndW.step {D : DkD} {L : LgD} {n i : Nat} (h : BndW D L n i) (a : ArgV) (hb : a.b.length ≤ 9000) : BndW (stepW D L a).1 (stepW D L a).2 (n + 18040) (i + 1) := by
  have hl := h.l
  have hz := h.z
  have hy := h.y
  have hw := h.w
  have hmono : BndW D L (n + 18040) (i + 1) := ⟨h.s.mono (by omega), by omega, hl, hz, by omega⟩
  have hc0 : ∀ D2 : DkD, D2.W.length ≤ D.W.length → SmallD D2 n → BndW (againW D2 L).1 (againW D2 L).2 (n + 18040) (i + 1) := fun D2 hw2 hs2 => by
    have h1 := BndW.again (i := i) hs2 (by omega) hl hz hy
    exact ⟨h1.s.mono (by omega), h1.w, h1.l, h1.z, Nat.le_trans h1.y (by omega)⟩
  unfold stepW
  split
  · have hrl := recB_len (L.all.length + 1) a.b
    have hap := h.s.append L.log (recB (L.all.length + 1) a.b)
    have haw := appendD_Wl D L.log (recB (L.all.length + 1) a.b)
    have hst := stlD_Wl (appendD D L.log (recB (L.all.length + 1) a.b)).1 (appendD D L.log (recB (L.all.length + 1) a.b)).2
    have hsn : sizeL (L.all ++ [a.b]) = sizeL L.all + (20 + a.b.length) := sizeL_snoc _ _
    unfold putW
    split
    · exact hmono
    · split
      · exact hmono
      · split
        · exact ⟨hap.mono (by omega), by dsimp only; omega, hl, hz, by dsimp only; omega⟩
        · split
          · exact ⟨(hap.stl _).mono (by omega), by dsimp only; omega, hl, by dsimp only; rw [hsn, hrl]; omega, by dsimp only; omega⟩
          · exact ⟨(hap.stl _).mono (by omega), by dsimp only; omega, hl, hz, by dsimp only; omega⟩
  · split
    · have hct := h.s.cut L.log 0
      have hcw := cutD_Wl D L.log 0
      have hst := stlD_Wl (cutD D L.log 0).1 (cutD D L.log 0).2
      unfold emptyW
      split
      · exact hmono
      · split
        · exact ⟨(hct.stl _).mono (by omega), by dsimp only; omega, hl, rfl, Nat.zero_le _⟩
        · exact ⟨(hct.stl _).mono (by omega), by dsimp only; omega, hl, hz, by dsimp only; omega⟩
    · split
      · refine ⟨(h.s.fuse _).mono (by omega), ?_, hl, hz, by dsimp only; omega⟩
        unfold fuseD
        dsimp only
        cases decide (a.n < 0) <;> (dsimp only [cond]; omega)
      · split
        · exact hc0 _ (Nat.zero_le _) ((h.s.crash _ _).fuse _)
        · split
          · refine hc0 _ ?_ ((h.s.edit _ _ _).fuse _)
            show (editD D L.log a.n a.x).1.W.length ≤ _
            unfold editD
            cases !(mayD L.log && (decide (0 ≤ a.n) && decide (a.n < ((rowD D.X (16 + L.log.toNat)).length : Int))))
            · exact settle_Wl D _
            · exact Nat.le_refl _
          · exact hmono
def StepPost (W0 : World) (d g : Nat) (R : DkD × LgD) (e : Ending) (w' : World) : Prop := ∃ dm' q' m' rm' p' lm',
  e = .returned (.tuple #[.pointer (some ⟨q', 0, none⟩), .pointer (some ⟨p', 0, none⟩), .bool true]) ∧ dm'.d = R.1 ∧ m'.d = R.2 ∧ lm'.d = R.2 ∧ TwoL W0 w' d dm' q' m' g rm' p' lm' R.1
theorem num8_any (w : World) (n : Int) : Calls Tryd.prog 10 #[.int .i64 n] w fun e w' => e = .returned (.int .i64 n) ∧ w' = w := num_any w n
theorem Keeps.far {S : Nat → Prop} {w w' : World} (k : Keeps S w w') {p : Addr} {v : Option Value} (h : w.cell? p = v) (hp : p.block < w.heap.size) (hn : ¬ S p.block) : w'.cell? p = v := (k.cell hp hn).trans h
theorem WlM.d_log {m : WlM} {L : LgD} (h : m.d = L) : m.log = L.log := congrArg LgD.log h
theorem WlM.d_len {m : WlM} {L : LgD} (h : m.d = L) : m.rows.length = L.all.length := by have := congrArg (fun x => x.all.length) h; simpa [WlM.d] using this
theorem WlM.d_size {m : WlM} {L : LgD} (h : m.d = L) : m.size = L.size := congrArg LgD.size h

set_option maxHeartbeats 8000000 in
set_option maxRecDepth 100000 in
theorem step_any (W0 w : World) (hT : Tabs W0) (d : Nat) (dm : DkM) (q : Nat) (m : WlM) (g : Nat) (rm : RfM) (p : Nat) (lm : WlM) (D : DkD) (L : LgD) (h : TwoL W0 w d dm q m g rm p lm D) (hD : dm.d = D) (hL : m.d = L) (hL2 : lm.d = L) (B : BndW D L 700000 400) (a : ArgV) (ha : ArgVOk W0 a) (hb : a.b.length ≤ 9000) :
    Calls Tryd.prog 11 #[.pointer (some ⟨d, 0, none⟩), .pointer (some ⟨g, 0, none⟩), .pointer (some ⟨q, 0, none⟩), .pointer (some ⟨p, 0, none⟩), .agg (argVC a).toArray] w (StepPost W0 d g (stepW D L a)) := by
  have H := Lib.hid h
  have hTv : ∀ W, Below W0.heap.size W0 W → Tabs W := fun W b => hT.later b
  have HDd := Lib.hid hD
  have HL := Lib.hid hL
  have HL2 := Lib.hid hL2
  have HB := Lib.hid B
  have HA := Lib.hid ha
  have HBl := Lib.hid hb
  have V1 : Hid (Below w.heap.size w (w.alloc (.cells (argVC a).toArray 41))) := nxAlloc (nxRefl w) _
  have BX : Hid (Blk (w.alloc (.cells (argVC a).toArray 41)) w.heap.size 41 (argVC a).toArray) := heap_alloc_new w _
  obtain ⟨w1, hw1⟩ : ∃ W, w.alloc (.cells (argVC a).toArray 41) = W := ⟨_, rfl⟩
  have HW1 := Lib.hid hw1
  rw [hw1] at V1 BX
  have T1 : Hid (TwoL W0 w1 d dm q m g rm p lm D) := h.below V1.out
  have XF : Hid (¬ (foot d dm w.heap.size ∨ footW q m w.heap.size)) := fun hf => by have := h.a.foot_lt hf; omega
  have XR : Hid (¬ footL g rm p lm w.heap.size) := fun hf => by have := h.b.all_lt (allL_of hf); omega
  have S1 : Hid (Sees w1 w1.heap.size a.A a.b) := (ha.s.later T1.out.v).more T1.out.v.size
  have x0 : w1.cell? ⟨w.heap.size, 0, none⟩ = some (.int .i64 a.kind) := BX.out.cell 0
  have x1 : w1.cell? ⟨w.heap.size, 1, none⟩ = some (.int .i64 a.n) := BX.out.cell 1
  have x2 : w1.cell? ⟨w.heap.size, 2, none⟩ = some (.int .i64 a.m) := BX.out.cell 2
  have x3 : w1.cell? ⟨w.heap.size, 3, none⟩ = some (.int .u8 (a.x.toNat : Int)) := BX.out.cell 3
  have x4 : w1.cell? ⟨w.heap.size, 4, none⟩ = some (.slice a.A a.b.length a.c) := BX.out.cell 4
  have XL : Hid (w.heap.size < w1.heap.size) := BX.out.lt
  obtain ⟨kd, hk⟩ : ∃ k, a.kind = k := ⟨_, rfl⟩
  have HK : Hid (a.kind = kd) := hk
  rw [hk] at x0
  obtain ⟨X, hX⟩ : ∃ X, w.heap.size = X := ⟨_, rfl⟩
  have HX : Hid (w.heap.size = X) := hX
  rw [hX] at x0 x1 x2 x3 x4 XF XR XL
  have HTv : Hid (∀ W, Below W0.heap.size W0 W → Tabs W) := hTv
  clear h hT hD hL hL2 B ha hb hk hTv
  by_cases k1 : kd = 1
  · have HRn : Hid (stepW D L a = ((putW D L a.b).1, (putW D L a.b).2.1)) := by show _ = _; unfold stepW; rw [if_pos (HK.out.trans k1)]
    rw [HRn.out]
    subst k1
    obtain ⟨P, hP⟩ : ∃ P, putW D L a.b = P := ⟨_, rfl⟩
    have HP := Lib.hid hP
    rw [hP]
    have c1 : Hid (∀ W, TwoL W0 W d dm q m g rm p lm D → Tabs W → Sees W W.heap.size a.A a.b → Calls Tryd.prog 16 #[.pointer (some ⟨q, 0, none⟩), .slice a.A a.b.length a.c] W (WPutPost W d dm q m P)) := fun W ht hT hS => by
      have h1 := put_anyW W hT d dm q m ht.a (by rw [DkM.wlen, HDd.out]; have := HB.out.w; omega) (by rw [WlM.d_len HL.out]; have := HB.out.rows; omega) (by rw [WlM.d_size HL.out]; have := HB.out.y; omega) a.A a.c a.b hS HA.out.c (by have := HBl.out; omega) (fun hne ad had hf => by
        have h2 := ht.na _ hf
        rcases HA.out.s with h3 | ⟨b, off, h3, h4, _⟩
        · exact hne h3
        · rw [had] at h3; injection h3 with h3; subst h3; exact absurd h4 (Nat.not_lt.2 h2))
      rw [HDd.out, HL.out, HP.out] at h1
      exact h1
    have c2 : Hid (∀ W dm2 m2, TwoL W0 W d dm2 q m2 g rm p lm D → Tabs W → Sees W W.heap.size a.A a.b → Calls Tryd.prog 26 #[.pointer (some ⟨p, 0, none⟩), .slice a.A a.b.length a.c] W (RPutPost W g rm p lm P)) := fun W dm2 m2 ht hT hS => by
      have h1 := rput_any W hT g rm p lm D ht.b (by have := HB.out.w; omega) (by rw [WlM.d_len HL2.out]; have := HB.out.rows; omega) (by rw [WlM.d_size HL2.out]; have := HB.out.y; omega) a.A a.c a.b hS HA.out.c (by have := HBl.out; omega) (fun hne ad had hf => by
        have h2 := ht.nb _ hf
        rcases HA.out.s with h3 | ⟨b, off, h3, h4, _⟩
        · exact hne h3
        · rw [had] at h3; injection h3 with h3; subst h3; exact absurd h4 (Nat.not_lt.2 h2))
      rw [HL2.out, HP.out] at h1
      exact h1
    unfold WPutPost at c1
    unfold RPutPost at c2
    obtain ⟨n, hn⟩ : ∃ n, P.2.2 = n := ⟨_, rfl⟩
    rw [hn] at c1 c2
    clear hn hP
    go_enter Tryd.func11, Tryd.ntmps11
    go_upto_region 1 with fail
    go_upto_region 3 with fail
    refine wp_region_held_drew (S := fun W => W.cell? ⟨X, 4, none⟩ = some (.slice a.A a.b.length a.c)) (by kernel_rfl) x4 (fun hHeld => ?_)
    have T1d : Hid (TwoL W0 w1.drew d dm q m g rm p lm D) := T1.out.below (Below.refl _ w1).drew
    have S1d : Hid (Sees w1.drew w1.drew.heap.size a.A a.b) := S1.out
    refine wpAnyH_take (i := 0) (oi := ⟨_, _, _, _, _, _⟩) (v := ?_) rfl (by kernel_rfl) (by kernel_rfl) (by kernel_rfl) (fun _ _ _ h => h) (Or.inl ⟨by rfl, ?_⟩) (by assumption) ?_
    rotate_left 1
    · intro W hSw
      try dsimp only at hSw
      have hs1 := hSw
      go_simp
      try with_reducible rfl
    try simp only [Act.put, List.setIfInBounds_toArray, List.set_cons_zero, List.set_cons_succ]
    refine wpAnyH_take (i := 1) (oi := ⟨_, _, _, _, _, _⟩) (v := ?_) rfl (by kernel_rfl) (by kernel_rfl) (by kernel_rfl) (fun _ _ _ h => h) (Or.inl ⟨by rfl, ?_⟩) (by assumption) ?_
    rotate_left 1
    · intro W hSw
      try dsimp only at hSw
      have hs1 := hSw
      go_simp
      try with_reducible rfl
    try simp only [Act.put, List.setIfInBounds_toArray, List.set_cons_zero, List.set_cons_succ]
    refine wpAnyH_take (i := 2) (oi := ⟨_, _, _, _, _, _⟩) (v := ?_) rfl (by kernel_rfl) (by kernel_rfl) (by kernel_rfl) (fun _ _ _ h => h) (Or.inl ⟨by rfl, ?_⟩) (by assumption) ?_
    rotate_left 1
    · intro W hSw
      try dsimp only at hSw
      have hs1 := hSw
      go_simp
      try with_reducible rfl
    try simp only [Act.put, List.setIfInBounds_toArray, List.set_cons_zero, List.set_cons_succ]
    refine wpAnyH_take (i := 3) (oi := ⟨_, _, _, _, _, _⟩) (v := ?_) rfl (by kernel_rfl) (by kernel_rfl) (by kernel_rfl) (fun _ _ _ h => h) (Or.inl ⟨by rfl, ?_⟩) (by assumption) ?_
    rotate_left 1
    · intro W hSw
      try dsimp only at hSw
      have hs1 := hSw
      go_simp
      try with_reducible rfl
    try simp only [Act.put, List.setIfInBounds_toArray, List.set_cons_zero, List.set_cons_succ]
    refine wpAnyH_take (i := 4) (oi := ⟨_, _, _, _, _, _⟩) (v := ?_) rfl (by kernel_rfl) (by kernel_rfl) (by kernel_rfl) (fun _ _ _ h => h) (Or.inl ⟨by rfl, ?_⟩) (by assumption) ?_
    rotate_left 1
    · intro W hSw
      try dsimp only at hSw
      have hs1 := hSw
      go_simp
      try with_reducible rfl
    try simp only [Act.put, List.setIfInBounds_toArray, List.set_cons_zero, List.set_cons_succ]
    refine wpAnyH_take (i := 7) (oi := ⟨_, _, _, _, _, _⟩) (v := ?_) rfl (by kernel_rfl) (by kernel_rfl) (by kernel_rfl) (fun _ _ _ h => h) (Or.inl ⟨by rfl, ?_⟩) (by assumption) ?_
    rotate_left 1
    · intro W hSw
      try dsimp only at hSw
      have hs1 := hSw
      go_simp
      try with_reducible rfl
    try simp only [Act.put, List.setIfInBounds_toArray, List.set_cons_zero, List.set_cons_succ]
    refine wpAnyH_take (i := 8) (oi := ⟨_, _, _, _, _, _⟩) (v := ?_) rfl (by kernel_rfl) (by kernel_rfl) (by kernel_rfl) (fun _ _ _ h => h) (Or.inl ⟨by rfl, ?_⟩) (by assumption) ?_
    rotate_left 1
    · intro W hSw
      try dsimp only at hSw
      have hs1 := hSw
      go_simp
      try with_reducible rfl
    try simp only [Act.put, List.setIfInBounds_toArray, List.set_cons_zero, List.set_cons_succ]
    refine wpAnyH_take (i := 9) (oi := ⟨_, _, _, _, _, _⟩) (v := ?_) rfl (by kernel_rfl) (by kernel_rfl) (by kernel_rfl) (fun _ _ _ h => h) (Or.inl ⟨by rfl, ?_⟩) (by assumption) ?_
    rotate_left 1
    · intro W hSw
      try dsimp only at hSw
      have hs1 := hSw
      go_simp
      try with_reducible rfl
    try simp only [Act.put, List.setIfInBounds_toArray, List.set_cons_zero, List.set_cons_succ]
    refine wpAnyH_ready (rs := [5]) (by kernel_rfl) (by simp) ?_
    refine AllReadyH.cons rfl (fun K hK => ?_) AllReadyH.nil
    go_simp
    go_at_call 16
    refine (c1.out _ T1d.out (HTv.out _ T1d.out.v) S1d.out).mono ?_
    rintro e w2 ⟨rfl, dm2, m2, hd2, hm2, ht2⟩
    have D2 := Lib.hid hd2
    have E2 := Lib.hid hm2
    have T2 : Hid (TwoL W0 w2 d dm2 q m2 g rm p lm D) := T1d.out.step1 ht2
    have HX2 : Hid (X < w2.heap.size) := Nat.lt_of_lt_of_le XL.out ht2.k.size
    have x4b := ht2.k.far (show w1.drew.cell? ⟨X, 4, none⟩ = _ from x4) XL.out XF.out
    clear hd2 hm2 ht2
    refine hK.out _ _ x4b (fun hSn => ?_)
    clear hK K
    try simp only [Act.put, List.setIfInBounds_toArray, List.set_cons_zero, List.set_cons_succ]
    refine wpAnyH_ready (rs := [6]) (by kernel_rfl) (by simp) ?_
    refine AllReadyH.cons rfl (fun K hK => ?_) AllReadyH.nil
    go_simp
    go_at_call 10
    refine (num_any _ _).mono ?_
    rintro e wn ⟨rfl, hwn⟩
    obtain rfl := hwn.symm
    refine hK.out _ _ x4b (fun hSn => ?_)
    clear hK K
    try simp only [Act.put, List.setIfInBounds_toArray, List.set_cons_zero, List.set_cons_succ]
    refine wpAnyH_ready (rs := [10]) (by kernel_rfl) (by simp) ?_
    refine AllReadyH.cons rfl (fun K hK => ?_) AllReadyH.nil
    go_simp
    go_at_call 26
    refine (c2.out _ _ _ T2.out (HTv.out _ T2.out.v) ((HA.out.s.later T2.out.v).more T2.out.v.size)).mono ?_
    rintro e w3 ⟨rfl, rm3, lm3, hm3, ht3⟩
    have E3 := Lib.hid hm3
    have T3 : Hid (TwoL W0 w3 d dm2 q m2 g rm3 p lm3 P.1) := T2.out.step2 ht3
    have x4c := ht3.k.far x4b HX2.out XR.out
    clear hm3 ht3
    refine hK.out _ _ x4c (fun hSn => ?_)
    clear hK K
    try simp only [Act.put, List.setIfInBounds_toArray, List.set_cons_zero, List.set_cons_succ]
    refine wpAnyH_take (i := 11) (oi := ⟨_, _, _, _, _, _⟩) (v := ?_) rfl (by kernel_rfl) (by kernel_rfl) (by kernel_rfl) (fun _ _ _ h => h) (Or.inl ⟨by rfl, ?_⟩) (by assumption) ?_
    rotate_left 1
    · intro W hSw
      try dsimp only at hSw
      have hs1 := hSw
      go_simp
      try with_reducible rfl
    try simp only [Act.put, List.setIfInBounds_toArray, List.set_cons_zero, List.set_cons_succ]
    refine wpAnyH_take (i := 12) (oi := ⟨_, _, _, _, _, _⟩) (v := ?_) rfl (by kernel_rfl) (by kernel_rfl) (by kernel_rfl) (fun _ _ _ h => h) (Or.inl ⟨by rfl, ?_⟩) (by assumption) ?_
    rotate_left 1
    · intro W hSw
      try dsimp only at hSw
      have hs1 := hSw
      go_simp
      try with_reducible rfl
    try simp only [Act.put, List.setIfInBounds_toArray, List.set_cons_zero, List.set_cons_succ]
    refine wpAnyH_take (i := 13) (oi := ⟨_, _, _, _, _, _⟩) (v := ?_) rfl (by kernel_rfl) (by kernel_rfl) (by kernel_rfl) (fun _ _ _ h => h) (Or.inl ⟨by rfl, ?_⟩) (by assumption) ?_
    rotate_left 1
    · intro W hSw
      try dsimp only at hSw
      have hs1 := hSw
      go_simp
      try with_reducible rfl
    try simp only [Act.put, List.setIfInBounds_toArray, List.set_cons_zero, List.set_cons_succ]
    refine wpAnyH_take (i := 14) (oi := ⟨_, _, _, _, _, _⟩) (v := ?_) rfl (by kernel_rfl) (by kernel_rfl) (by kernel_rfl) (fun _ _ _ h => h) (Or.inl ⟨by rfl, ?_⟩) (by assumption) ?_
    rotate_left 1
    · intro W hSw
      try dsimp only at hSw
      have hs1 := hSw
      go_simp
      try with_reducible rfl
    try simp only [Act.put, List.setIfInBounds_toArray, List.set_cons_zero, List.set_cons_succ]
    refine wpAnyH_done (by kernel_rfl) ?_ _
    go_wp2
    go_ret3
    exact ⟨dm2, q, m2, rm3, p, lm3, rfl, D2.out, E2.out, E3.out, T3.out⟩
  have n1 : (kd == 1) = false := beq_eq_false_iff_ne.2 k1
  have q1 : decide (kd = 1) = false := decide_eq_false k1
  by_cases k2 : kd = 2
  · have HRn : Hid (stepW D L a = ((emptyW D L).1, (emptyW D L).2.1)) := by show _ = _; unfold stepW; rw [if_neg (by rw [HK.out]; exact k1), if_pos (HK.out.trans k2)]
    rw [HRn.out]
    subst k2
    obtain ⟨P, hP⟩ : ∃ P, emptyW D L = P := ⟨_, rfl⟩
    have HP := Lib.hid hP
    rw [hP]
    have c1 : Hid (∀ W, TwoL W0 W d dm q m g rm p lm D → Calls Tryd.prog 27 #[.pointer (some ⟨q, 0, none⟩)] W (WPutPost W d dm q m P)) := fun W ht => by
      have h1 := wempty_any W d dm q m ht.a (by rw [HDd.out]; have := HB.out.w; omega)
      rw [HDd.out, HL.out, HP.out] at h1
      exact h1
    have c2 : Hid (∀ W dm2 m2, TwoL W0 W d dm2 q m2 g rm p lm D → Calls Tryd.prog 28 #[.pointer (some ⟨p, 0, none⟩)] W (RPutPost W g rm p lm P)) := fun W dm2 m2 ht => by
      have h1 := rempty_any W g rm p lm D ht.b (by have := HB.out.w; omega)
      rw [HL2.out, HP.out] at h1
      exact h1
    unfold WPutPost at c1
    unfold RPutPost at c2
    obtain ⟨n, hn⟩ : ∃ n, P.2.2 = n := ⟨_, rfl⟩
    rw [hn] at c1 c2
    clear hn hP
    go_enter Tryd.func11, Tryd.ntmps11
    go_upto_region 1 with fail
    go_wp2_with (first
      | (go_at_call 27; refine (c1.out _ T1.out).mono ?_; rintro e w2 ⟨rfl, dm2, m2, hd2, hm2, ht2⟩; have D2 := Lib.hid hd2; have E2 := Lib.hid hm2; have T2 : Hid (TwoL W0 w2 d dm2 q m2 g rm p lm D) := T1.out.step1 ht2; clear hd2 hm2 ht2)
      | (go_at_call 10; refine (num_any _ _).mono ?_; rintro e wn ⟨rfl, hwn⟩; obtain rfl := hwn.symm)
      | (go_at_call 28; refine (c2.out _ _ _ T2.out).mono ?_; rintro e w3 ⟨rfl, rm3, lm3, hm3, ht3⟩; have E3 := Lib.hid hm3; have T3 : Hid (TwoL W0 w3 d dm2 q m2 g rm3 p lm3 P.1) := T2.out.step2 ht3; clear hm3 ht3))
    go_ret3
    exact ⟨dm2, q, m2, rm3, p, lm3, rfl, D2.out, E2.out, E3.out, T3.out⟩
  have n2 : (kd == 2) = false := beq_eq_false_iff_ne.2 k2
  have q2 : decide (kd = 2) = false := decide_eq_false k2
  by_cases k3 : kd = 3
  · have HRn : Hid (stepW D L a = ((fuseD D a.n).1, L)) := by show _ = _; unfold stepW; rw [if_neg (by rw [HK.out]; exact k1), if_neg (by rw [HK.out]; exact k2), if_pos (HK.out.trans k3)]
    rw [HRn.out]
    subst k3
    obtain ⟨P, hP⟩ : ∃ P, fuseD D a.n = P := ⟨_, rfl⟩
    have HP := Lib.hid hP
    rw [hP]
    have HPw : Hid (DkWf P.1) := by show DkWf _; rw [← hP, ← HDd.out]; exact fuseD_wf H.out.a.wf _ HA.out.n
    have c1 : Hid (∀ W, TwoL W0 W d dm q m g rm p lm D → Calls Tryd.prog 29 #[.pointer (some ⟨d, 0, none⟩), .int .i64 a.n] W (DkPost W d dm P)) := fun W ht => by
      have h1 := setFuse_any W d dm ht.a.k a.n
      rw [HDd.out, HP.out] at h1
      exact h1
    have c2 : Hid (∀ W dm2 m2, TwoL W0 W d dm2 q m2 g rm p lm D → Calls Tryd.prog 30 #[.pointer (some ⟨g, 0, none⟩), .int .i64 a.n] W (RPostS W g rm P)) := fun W dm2 m2 ht => by
      have h1 := rsetFuse_anyS W g rm D ht.b.k ht.b.r a.n
      rw [HP.out] at h1
      exact h1
    unfold DkPost at c1
    unfold RPostS at c2
    obtain ⟨n, hn⟩ : ∃ n, P.2 = n := ⟨_, rfl⟩
    rw [hn] at c1 c2
    clear hn hP
    go_enter Tryd.func11, Tryd.ntmps11
    go_upto_region 1 with fail
    go_upto_region 7 with fail
    refine wp_region_held_drew (S := fun W => W.cell? ⟨X, 1, none⟩ = some (.int .i64 a.n)) (by kernel_rfl) x1 (fun hHeld => ?_)
    have T1d : Hid (TwoL W0 w1.drew d dm q m g rm p lm D) := T1.out.below (Below.refl _ w1).drew
    refine wpAnyH_take (i := 0) (oi := ⟨_, _, _, _, _, _⟩) (v := ?_) rfl (by kernel_rfl) (by kernel_rfl) (by kernel_rfl) (fun _ _ _ h => h) (Or.inl ⟨by rfl, ?_⟩) (by assumption) ?_
    rotate_left 1
    · intro W hSw
      try dsimp only at hSw
      have hs1 := hSw
      go_simp
      try with_reducible rfl
    try simp only [Act.put, List.setIfInBounds_toArray, List.set_cons_zero, List.set_cons_succ]
    refine wpAnyH_take (i := 1) (oi := ⟨_, _, _, _, _, _⟩) (v := ?_) rfl (by kernel_rfl) (by kernel_rfl) (by kernel_rfl) (fun _ _ _ h => h) (Or.inl ⟨by rfl, ?_⟩) (by assumption) ?_
    rotate_left 1
    · intro W hSw
      try dsimp only at hSw
      have hs1 := hSw
      go_simp
      try with_reducible rfl
    try simp only [Act.put, List.setIfInBounds_toArray, List.set_cons_zero, List.set_cons_succ]
    refine wpAnyH_take (i := 2) (oi := ⟨_, _, _, _, _, _⟩) (v := ?_) rfl (by kernel_rfl) (by kernel_rfl) (by kernel_rfl) (fun _ _ _ h => h) (Or.inl ⟨by rfl, ?_⟩) (by assumption) ?_
    rotate_left 1
    · intro W hSw
      try dsimp only at hSw
      have hs1 := hSw
      go_simp
      try with_reducible rfl
    try simp only [Act.put, List.setIfInBounds_toArray, List.set_cons_zero, List.set_cons_succ]
    refine wpAnyH_take (i := 3) (oi := ⟨_, _, _, _, _, _⟩) (v := ?_) rfl (by kernel_rfl) (by kernel_rfl) (by kernel_rfl) (fun _ _ _ h => h) (Or.inl ⟨by rfl, ?_⟩) (by assumption) ?_
    rotate_left 1
    · intro W hSw
      try dsimp only at hSw
      have hs1 := hSw
      go_simp
      try with_reducible rfl
    try simp only [Act.put, List.setIfInBounds_toArray, List.set_cons_zero, List.set_cons_succ]
    refine wpAnyH_take (i := 4) (oi := ⟨_, _, _, _, _, _⟩) (v := ?_) rfl (by kernel_rfl) (by kernel_rfl) (by kernel_rfl) (fun _ _ _ h => h) (Or.inl ⟨by rfl, ?_⟩) (by assumption) ?_
    rotate_left 1
    · intro W hSw
      try dsimp only at hSw
      have hs1 := hSw
      go_simp
      try with_reducible rfl
    try simp only [Act.put, List.setIfInBounds_toArray, List.set_cons_zero, List.set_cons_succ]
    refine wpAnyH_take (i := 7) (oi := ⟨_, _, _, _, _, _⟩) (v := ?_) rfl (by kernel_rfl) (by kernel_rfl) (by kernel_rfl) (fun _ _ _ h => h) (Or.inl ⟨by rfl, ?_⟩) (by assumption) ?_
    rotate_left 1
    · intro W hSw
      try dsimp only at hSw
      have hs1 := hSw
      go_simp
      try with_reducible rfl
    try simp only [Act.put, List.setIfInBounds_toArray, List.set_cons_zero, List.set_cons_succ]
    refine wpAnyH_take (i := 8) (oi := ⟨_, _, _, _, _, _⟩) (v := ?_) rfl (by kernel_rfl) (by kernel_rfl) (by kernel_rfl) (fun _ _ _ h => h) (Or.inl ⟨by rfl, ?_⟩) (by assumption) ?_
    rotate_left 1
    · intro W hSw
      try dsimp only at hSw
      have hs1 := hSw
      go_simp
      try with_reducible rfl
    try simp only [Act.put, List.setIfInBounds_toArray, List.set_cons_zero, List.set_cons_succ]
    refine wpAnyH_take (i := 9) (oi := ⟨_, _, _, _, _, _⟩) (v := ?_) rfl (by kernel_rfl) (by kernel_rfl) (by kernel_rfl) (fun _ _ _ h => h) (Or.inl ⟨by rfl, ?_⟩) (by assumption) ?_
    rotate_left 1
    · intro W hSw
      try dsimp only at hSw
      have hs1 := hSw
      go_simp
      try with_reducible rfl
    try simp only [Act.put, List.setIfInBounds_toArray, List.set_cons_zero, List.set_cons_succ]
    refine wpAnyH_ready (rs := [5]) (by kernel_rfl) (by simp) ?_
    refine AllReadyH.cons rfl (fun K hK => ?_) AllReadyH.nil
    go_simp
    go_at_call 29
    refine (c1.out _ T1d.out).mono ?_
    rintro e w2 ⟨rfl, dm2, ht2, hd2⟩
    have D2 := Lib.hid hd2
    have T2 : Hid (TwoL W0 w2 d dm2 q m g rm p lm D) := T1d.out.step1 (WlTo.disk T1d.out.a ht2 (by rw [hd2]; exact HPw.out))
    have HX2 : Hid (X < w2.heap.size) := Nat.lt_of_lt_of_le XL.out ht2.k.size
    have x1b := ht2.k.far (show w1.drew.cell? ⟨X, 1, none⟩ = _ from x1) XL.out (fun hf => XF.out (.inl hf))
    clear hd2 ht2
    refine hK.out _ _ x1b (fun hSn => ?_)
    clear hK K
    try simp only [Act.put, List.setIfInBounds_toArray, List.set_cons_zero, List.set_cons_succ]
    refine wpAnyH_ready (rs := [6]) (by kernel_rfl) (by simp) ?_
    refine AllReadyH.cons rfl (fun K hK => ?_) AllReadyH.nil
    go_simp
    go_at_call 10
    refine (num_any _ _).mono ?_
    rintro e wn ⟨rfl, hwn⟩
    obtain rfl := hwn.symm
    refine hK.out _ _ x1b (fun hSn => ?_)
    clear hK K
    try simp only [Act.put, List.setIfInBounds_toArray, List.set_cons_zero, List.set_cons_succ]
    refine wpAnyH_ready (rs := [10]) (by kernel_rfl) (by simp) ?_
    refine AllReadyH.cons rfl (fun K hK => ?_) AllReadyH.nil
    go_simp
    go_at_call 30
    refine (c2.out _ _ _ T2.out).mono ?_
    rintro e w3 ⟨n3, rm3, rfl, hn3, ht3, hr3⟩
    obtain rfl := hn3.symm
    have T3 : Hid (TwoL W0 w3 d dm2 q m g rm3 p lm P.1) := T2.out.step2 (RlTo.disk T2.out.b ht3 hr3 HPw.out)
    have x1c := ht3.k.far x1b HX2.out (fun hf => XR.out (.inl hf))
    clear hr3 ht3 hn3
    refine hK.out _ _ x1c (fun hSn => ?_)
    clear hK K
    try simp only [Act.put, List.setIfInBounds_toArray, List.set_cons_zero, List.set_cons_succ]
    refine wpAnyH_take (i := 11) (oi := ⟨_, _, _, _, _, _⟩) (v := ?_) rfl (by kernel_rfl) (by kernel_rfl) (by kernel_rfl) (fun _ _ _ h => h) (Or.inl ⟨by rfl, ?_⟩) (by assumption) ?_
    rotate_left 1
    · intro W hSw
      try dsimp only at hSw
      have hs1 := hSw
      go_simp
      try with_reducible rfl
    try simp only [Act.put, List.setIfInBounds_toArray, List.set_cons_zero, List.set_cons_succ]
    refine wpAnyH_take (i := 12) (oi := ⟨_, _, _, _, _, _⟩) (v := ?_) rfl (by kernel_rfl) (by kernel_rfl) (by kernel_rfl) (fun _ _ _ h => h) (Or.inl ⟨by rfl, ?_⟩) (by assumption) ?_
    rotate_left 1
    · intro W hSw
      try dsimp only at hSw
      have hs1 := hSw
      go_simp
      try with_reducible rfl
    try simp only [Act.put, List.setIfInBounds_toArray, List.set_cons_zero, List.set_cons_succ]
    refine wpAnyH_take (i := 13) (oi := ⟨_, _, _, _, _, _⟩) (v := ?_) rfl (by kernel_rfl) (by kernel_rfl) (by kernel_rfl) (fun _ _ _ h => h) (Or.inl ⟨by rfl, ?_⟩) (by assumption) ?_
    rotate_left 1
    · intro W hSw
      try dsimp only at hSw
      have hs1 := hSw
      go_simp
      try with_reducible rfl
    try simp only [Act.put, List.setIfInBounds_toArray, List.set_cons_zero, List.set_cons_succ]
    refine wpAnyH_take (i := 14) (oi := ⟨_, _, _, _, _, _⟩) (v := ?_) rfl (by kernel_rfl) (by kernel_rfl) (by kernel_rfl) (fun _ _ _ h => h) (Or.inl ⟨by rfl, ?_⟩) (by assumption) ?_
    rotate_left 1
    · intro W hSw
      try dsimp only at hSw
      have hs1 := hSw
      go_simp
      try with_reducible rfl
    try simp only [Act.put, List.setIfInBounds_toArray, List.set_cons_zero, List.set_cons_succ]
    refine wpAnyH_done (by kernel_rfl) ?_ _
    go_wp2
    go_ret3
    exact ⟨dm2, q, m, rm3, p, lm, rfl, D2.out, HL.out, HL2.out, T3.out⟩
  have n3 : (kd == 3) = false := beq_eq_false_iff_ne.2 k3
  have q3 : decide (kd = 3) = false := decide_eq_false k3
  -- the fuse, and an opening
  have HLn : Hid (lm.log = L.log ∧ m.log = L.log) := ⟨WlM.d_log HL2.out, WlM.d_log HL.out⟩
  have lo0 : w1.cell? ⟨p, 1, none⟩ = some (.int .i64 lm.log) := T1.out.b.l.b.cell 1
  obtain ⟨i, hi, hi16⟩ : ∃ i : Nat, L.log = (i : Int) ∧ i < 16 := ⟨L.log.toNat, by have := HB.out.l; omega, by have := HB.out.l; omega⟩
  have HI := Lib.hid hi
  have HI16 := Lib.hid hi16
  rw [HLn.out.1, hi] at lo0
  clear hi hi16
  have cF1 : Hid (∀ W dm2 D2, dm2.d = D2 → TwoL W0 W d dm2 q m g rm p lm D → Calls Tryd.prog 29 #[.pointer (some ⟨d, 0, none⟩), .int .i64 1000] W (DkPost W d dm2 ((fuseD D2 1000).1, 0))) := fun W dm2 D2 h0 ht => by
    have h1 := setFuse_any W d dm2 ht.a.k 1000
    rw [h0] at h1
    exact h1
  have cF : Hid (∀ W dm2 rm2 D2, dm2.d = D2 → TwoL W0 W d dm2 q m g rm2 p lm D2 → Calls Tryd.prog 29 #[.pointer (some ⟨d, 0, none⟩), .int .i64 1000] W (DkPost W d dm2 ((fuseD D2 1000).1, 0))) := fun W dm2 rm2 D2 h0 ht => by
    have h1 := setFuse_any W d dm2 ht.a.k 1000
    rw [h0] at h1
    exact h1
  have cG : Hid (∀ W dm2 rm2 D2, TwoL W0 W d dm2 q m g rm2 p lm D2 → Calls Tryd.prog 30 #[.pointer (some ⟨g, 0, none⟩), .int .i64 1000] W (RPostS W g rm2 ((fuseD D2 1000).1, 0))) := fun W dm2 rm2 D2 ht => rsetFuse_anyS W g rm2 D2 ht.b.k ht.b.r 1000
  unfold DkPost at cF
  unfold RPostS at cG
  clear cF1
  by_cases k4 : kd = 4
  · have HRn : Hid (stepW D L a = againW (fuseD (crashD D a.n a.m) 1000).1 L) := by show _ = _; unfold stepW; rw [if_neg (by rw [HK.out]; exact k1), if_neg (by rw [HK.out]; exact k2), if_neg (by rw [HK.out]; exact k3), if_pos (HK.out.trans k4)]
    rw [HRn.out]
    subst k4
    obtain ⟨D1, hD1⟩ : ∃ D1, crashD D a.n a.m = D1 := ⟨_, rfl⟩
    have HD1 := Lib.hid hD1
    have HW2 : Hid (DkWf D1) := by show DkWf _; rw [← hD1]; exact crashD_wf H.out.b.wf _ _
    have HS2 : Hid (SmallD D1 700000 ∧ D1.W.length ≤ 800) := by
      refine ⟨by rw [← hD1]; exact HB.out.s.crash _ _, by rw [← hD1]; exact Nat.zero_le _⟩
    have cC : Hid (∀ W, TwoL W0 W d dm q m g rm p lm D → Calls Tryd.prog 17 #[.pointer (some ⟨d, 0, none⟩), .int .i64 a.n, .int .i64 a.m] W (fun e w' => e = .returned (.int .i64 0) ∧ ∃ m', DkTo W d dm w' m' ∧ m'.d = D1)) := fun W ht => by
      have h1 := crash_any W d dm ht.a.k ht.a.wf (by rw [DkM.wlen, HDd.out]; have := HB.out.w; omega) a.n a.m
      unfold CrPost at h1
      rw [HDd.out, HD1.out] at h1
      exact h1
    have cD : Hid (∀ W dm2, TwoL W0 W d dm2 q m g rm p lm D → Calls Tryd.prog 33 #[.pointer (some ⟨g, 0, none⟩), .int .i64 a.n, .int .i64 a.m] W (RCrPost W g rm D1)) := fun W dm2 ht => by
      have h1 := rcrash_any W g rm D ht.b.k ht.b.r ht.b.wf (by rw [ht.b.r.Wl]; have := HB.out.w; omega) a.n a.m
      rw [HD1.out] at h1
      exact h1
    unfold RCrPost at cD
    rw [hD1]
    clear hD1
    go_enter Tryd.func11, Tryd.ntmps11
    go_upto_region 1 with fail
    have HPl : Hid (p < w1.heap.size ∧ ¬ (foot d dm p ∨ footW q m p)) := ⟨T1.out.b.l.b.lt, fun hf => T1.out.f p hf (.inr (.inl (.inl rfl)))⟩
    go_upto_region 15 with (first
      | (go_at_call 17; refine (cC.out _ T1.out).mono ?_; rintro e w2 ⟨rfl, dm2, ht2, hd2⟩; have D2 := Lib.hid hd2; have T2 : Hid (TwoL W0 w2 d dm2 q m g rm p lm D) := T1.out.step1 (WlTo.disk T1.out.a ht2 (by rw [hd2]; exact HW2.out)); (have x1b := ht2.k.far x1 XL.out (fun hf => XF.out (.inl hf))); (have x2b := ht2.k.far x2 XL.out (fun hf => XF.out (.inl hf))); clear hd2 ht2)
      | (go_at_call 33; refine (cD.out _ _ T2.out).mono ?_; rintro e w3 ⟨rfl, rm3, ht3, hr3⟩; have T3 : Hid (TwoL W0 w3 d dm2 q m g rm3 p lm D1) := T2.out.step2 (RlTo.disk T2.out.b ht3 hr3 HW2.out); clear ht3 hr3))
    obtain ⟨D2f, hD2f⟩ : ∃ E, (fuseD D1 1000).1 = E := ⟨_, rfl⟩
    have HD2f := Lib.hid hD2f
    have HW3 : Hid (DkWf D2f) := by show DkWf _; rw [← hD2f]; exact fuseD_wf HW2.out _ (by decide)
    have HS3 : Hid (SmallD D2f 700000 ∧ D2f.W.length ≤ 800) := by rw [← hD2f]; exact ⟨HS2.out.1.fuse _, HS2.out.2⟩
    have lo3 : w3.cell? ⟨p, 1, none⟩ = some (.int .i64 (i : Int)) := by rw [← HI.out, ← HLn.out.1]; exact T3.out.b.l.b.cell 1
    obtain ⟨O, hO⟩ : ∃ O, openD D2f (i : Int) = O := ⟨_, rfl⟩
    have HO := Lib.hid hO
    have HAg : Hid (againW D2f L = (O.1, if O.2 = 0 then ⟨L.log, scanB (logB D2f L.log), sizeL (scanB (logB D2f L.log)), false⟩ else L)) := by
      show _ = _
      unfold againW
      rw [HI.out, hO]
    have HWO : Hid (DkWf O.1) := by show DkWf _; rw [← hO]; exact openD_wf HW3.out _
    clear hD2f hO
    by_cases h0 : O.2 = 0
    · have HFn : Hid (againW (fuseD D1 1000).1 L = (O.1, ⟨L.log, scanB (logB D2f L.log), sizeL (scanB (logB D2f L.log)), false⟩)) := by show _ = _; rw [HD2f.out, HAg.out, if_pos h0]
      have H0 := Lib.hid h0
      go_wp2_with (first
        | (go_at_call 29; refine (cF.out _ _ _ _ D2.out T3.out).mono ?_; rintro e w4 ⟨rfl, dm4, ht4, hd4⟩; rw [HD2f.out] at hd4; have D4 := Lib.hid hd4; have T4 : Hid (TwoL W0 w4 d dm4 q m g rm3 p lm D1) := T3.out.step1 (WlTo.disk T3.out.a ht4 (by rw [hd4]; exact HW3.out)); clear hd4 ht4)
        | (go_at_call 10; refine (num_any _ _).mono ?_; rintro e wn ⟨rfl, hwn⟩; obtain rfl := hwn.symm)
        | (go_at_call 30; refine (cG.out _ _ _ _ T4.out).mono ?_; rintro e w5 ⟨n5, rm5, rfl, hn5, ht5, hr5⟩; rw [HD2f.out] at hr5; obtain rfl := hn5.symm; have T5 : Hid (TwoL W0 w5 d dm4 q m g rm5 p lm D2f) := T4.out.step2 (RlTo.disk T4.out.b ht5 hr5 HW3.out); (have lo5 : w5.cell? ⟨p, 1, none⟩ = some (.int .i64 (i : Int)) := by rw [← HI.out, ← HLn.out.1]; exact T5.out.b.l.b.cell 1); clear hn5 ht5 hr5)
        | (go_at_call 8; refine (open_any w5 (HTv.out _ T5.out.v) d dm4 T5.out.a.k T5.out.a.wf (by rw [DkM.wlen, D4.out]; have := HS3.out.2; omega) (i : Int)).mono ?_; unfold OpenPost; rw [D4.out, HO.out]; rintro e w6 ⟨dm6, hd6, ht6, ⟨hne, -⟩ | ⟨-, q6, m6, rfl, ho6⟩⟩ <;> first | exact absurd H0.out hne | skip; have D6 := Lib.hid hd6; have T6 : Hid (TwoL W0 w6 d dm6 q6 m6 g rm5 p lm D2f) := T5.out.open1 ht6 ho6.ok ho6.n; have O6 := Lib.hid ho6; (have lo6 : w6.cell? ⟨p, 1, none⟩ = some (.int .i64 (i : Int)) := by rw [← HI.out, ← HLn.out.1]; exact T6.out.b.l.b.cell 1); clear hd6 ht6 ho6)
        | (go_at_call 9; refine (ropen_any w6 (HTv.out _ T6.out.v) g rm5 D2f T6.out.b.k T6.out.b.r T6.out.b.wf (by rw [T6.out.b.r.Wl]; have := HS3.out.2; omega) (i : Int) (Nat.le_trans (HS3.out.1.row _) (by decide))).mono ?_; unfold ROpenPost; rw [HO.out]; rintro e w7 ⟨rm7, hr7, ht7, ⟨hne, -⟩ | ⟨-, p7, lm7, rfl, ho7⟩⟩ <;> first | exact absurd H0.out hne | skip; have T7 : Hid (TwoL W0 w7 d dm6 q6 m6 g rm7 p7 lm7 O.1) := T6.out.open2 ht7 (by have h := ho7.ok; rw [HO.out] at h; exact h) ho7.n; have O7 := Lib.hid ho7; clear hr7 ht7 ho7))
      go_ret3
      rw [HFn.out]
      refine ⟨dm6, q6, m6, rm7, p7, lm7, rfl, D6.out, ?_, ?_, T7.out⟩
      · show (⟨m6.log, m6.rows.map (·.l), m6.size, m6.dead⟩ : LgD) = _
        rw [O6.out.lg, O6.out.l, O6.out.z, O6.out.dd, HI.out]
      · show (⟨lm7.log, lm7.rows.map (·.l), lm7.size, lm7.dead⟩ : LgD) = _
        rw [O7.out.lg, O7.out.l, O7.out.z, O7.out.dd, HI.out]
    · have HFn : Hid (againW (fuseD D1 1000).1 L = (O.1, L)) := by show _ = _; rw [HD2f.out, HAg.out, if_neg h0]
      have H0 := Lib.hid h0
      obtain ⟨n0, hn0⟩ : ∃ n, O.2 = n := ⟨_, rfl⟩
      have HN0 := Lib.hid hn0
      clear hn0 h0
      go_wp2_with (first
        | (go_at_call 29; refine (cF.out _ _ _ _ D2.out T3.out).mono ?_; rintro e w4 ⟨rfl, dm4, ht4, hd4⟩; rw [HD2f.out] at hd4; have D4 := Lib.hid hd4; have T4 : Hid (TwoL W0 w4 d dm4 q m g rm3 p lm D1) := T3.out.step1 (WlTo.disk T3.out.a ht4 (by rw [hd4]; exact HW3.out)); clear hd4 ht4)
        | (go_at_call 10; refine (num_any _ _).mono ?_; rintro e wn ⟨rfl, hwn⟩; obtain rfl := hwn.symm)
        | (go_at_call 30; refine (cG.out _ _ _ _ T4.out).mono ?_; rintro e w5 ⟨n5, rm5, rfl, hn5, ht5, hr5⟩; rw [HD2f.out] at hr5; obtain rfl := hn5.symm; have T5 : Hid (TwoL W0 w5 d dm4 q m g rm5 p lm D2f) := T4.out.step2 (RlTo.disk T4.out.b ht5 hr5 HW3.out); (have lo5 : w5.cell? ⟨p, 1, none⟩ = some (.int .i64 (i : Int)) := by rw [← HI.out, ← HLn.out.1]; exact T5.out.b.l.b.cell 1); clear hn5 ht5 hr5)
        | (go_at_call 8; refine (open_any w5 (HTv.out _ T5.out.v) d dm4 T5.out.a.k T5.out.a.wf (by rw [DkM.wlen, D4.out]; have := HS3.out.2; omega) (i : Int)).mono ?_; unfold OpenPost; rw [D4.out, HO.out, HN0.out]; rintro e w6 ⟨dm6, hd6, ht6, ⟨-, rfl⟩ | ⟨h00, -⟩⟩ <;> first | exact absurd (HN0.out.trans h00) H0.out | skip; have D6 := Lib.hid hd6; have T6 : Hid (TwoL W0 w6 d dm6 q m g rm5 p lm D2f) := T5.out.step1 (WlTo.disk T5.out.a ht6 (by rw [hd6]; exact HWO.out)); (have lo6 : w6.cell? ⟨p, 1, none⟩ = some (.int .i64 (i : Int)) := by rw [← HI.out, ← HLn.out.1]; exact T6.out.b.l.b.cell 1); clear hd6 ht6)
        | (go_at_call 9; refine (ropen_any w6 (HTv.out _ T6.out.v) g rm5 D2f T6.out.b.k T6.out.b.r T6.out.b.wf (by rw [T6.out.b.r.Wl]; have := HS3.out.2; omega) (i : Int) (Nat.le_trans (HS3.out.1.row _) (by decide))).mono ?_; unfold ROpenPost; rw [HO.out, HN0.out]; rintro e w7 ⟨rm7, hr7, ht7, ⟨-, rfl⟩ | ⟨h00, -⟩⟩ <;> first | exact absurd (HN0.out.trans h00) H0.out | skip; have T7 : Hid (TwoL W0 w7 d dm6 q m g rm7 p lm O.1) := T6.out.step2 (RlTo.disk T6.out.b ht7 hr7 HWO.out); clear hr7 ht7))
      go_ret3
      rw [HFn.out]
      exact ⟨dm6, q, m, rm7, p, lm, rfl, D6.out, HL.out, HL2.out, T7.out⟩
  have n4 : (kd == 4) = false := beq_eq_false_iff_ne.2 k4
  have q4 : decide (kd = 4) = false := decide_eq_false k4
  by_cases k5 : kd = 5
  · have HRn : Hid (stepW D L a = againW (fuseD (editD D L.log a.n a.x).1 1000).1 L) := by show _ = _; unfold stepW; rw [if_neg (by rw [HK.out]; exact k1), if_neg (by rw [HK.out]; exact k2), if_neg (by rw [HK.out]; exact k3), if_neg (by rw [HK.out]; exact k4), if_pos (HK.out.trans k5)]
    rw [HRn.out]
    subst k5
    obtain ⟨P, hP⟩ : ∃ P, editD D L.log a.n a.x = P := ⟨_, rfl⟩
    obtain ⟨D1, hD1⟩ : ∃ D1, P.1 = D1 := ⟨_, rfl⟩
    have HP := Lib.hid hP
    have HW2 : Hid (DkWf D1) := by show DkWf _; rw [← hD1, ← hP]; exact editD_wf H.out.b.wf _ _ _
    have HS2 : Hid (SmallD D1 700000 ∧ D1.W.length ≤ 800) := by
      rw [← hD1, ← hP]
      refine ⟨HB.out.s.edit _ _ _, Nat.le_trans ?_ HB.out.w⟩
      unfold editD
      cases !(mayD L.log && (decide (0 ≤ a.n) && decide (a.n < ((rowD D.X (16 + L.log.toNat)).length : Int))))
      · exact settle_Wl D _
      · exact Nat.le_refl _
    have cC : Hid (∀ W, TwoL W0 W d dm q m g rm p lm D → Calls Tryd.prog 31 #[.pointer (some ⟨d, 0, none⟩), .int .i64 (i : Int), .int .i64 a.n, .int .u8 (a.x.toNat : Int)] W (DkPost W d dm P)) := fun W ht => by
      have h1 := edit_any W d dm ht.a.k ht.a.wf (by rw [DkM.wlen, HDd.out]; have := HB.out.w; omega) (i : Int) a.n a.x
      rw [HDd.out, ← HI.out, HP.out] at h1
      rw [HI.out] at h1
      exact h1
    have cD : Hid (∀ W dm2, TwoL W0 W d dm2 q m g rm p lm D → Calls Tryd.prog 32 #[.pointer (some ⟨g, 0, none⟩), .int .i64 (i : Int), .int .i64 a.n, .int .u8 (a.x.toNat : Int)] W (RPostS W g rm P)) := fun W dm2 ht => by
      have h1 := redit_any W g rm D ht.b.k ht.b.r ht.b.wf (by rw [ht.b.r.Wl]; have := HB.out.w; omega) i HI16.out a.n a.x
      rw [← HI.out, HP.out] at h1
      rw [HI.out] at h1
      exact h1
    unfold DkPost at cC
    unfold RPostS at cD
    rw [hP, hD1]
    obtain ⟨ne, hne⟩ : ∃ n, P.2 = n := ⟨_, rfl⟩
    rw [hne, hD1] at cC cD
    clear hne hD1 hP HP
    go_enter Tryd.func11, Tryd.ntmps11
    go_upto_region 1 with fail
    have HPl : Hid (p < w1.heap.size ∧ ¬ (foot d dm p ∨ footW q m p)) := ⟨T1.out.b.l.b.lt, fun hf => T1.out.f p hf (.inr (.inl (.inl rfl)))⟩
    go_upto_region 11 with fail
    refine wp_region_held_drew (S := fun W => W.cell? ⟨p, 1, none⟩ = some (.int .i64 (i : Int)) ∧ W.cell? ⟨X, 1, none⟩ = some (.int .i64 a.n) ∧ W.cell? ⟨X, 3, none⟩ = some (.int .u8 (a.x.toNat : Int))) (by kernel_rfl) ⟨lo0, x1, x3⟩ (fun hHeld => ?_)
    have T1d : Hid (TwoL W0 w1.drew d dm q m g rm p lm D) := T1.out.below (Below.refl _ w1).drew
    refine wpAnyH_take (i := 0) (oi := ⟨_, _, _, _, _, _⟩) (v := ?_) rfl (by kernel_rfl) (by kernel_rfl) (by kernel_rfl) (fun _ _ _ h => h) (Or.inl ⟨by rfl, ?_⟩) (by assumption) ?_
    rotate_left 1
    · intro W hSw
      try dsimp only at hSw
      obtain ⟨hs1, hs2, hs3⟩ := hSw
      go_simp
      try with_reducible rfl
    try simp only [Act.put, List.setIfInBounds_toArray, List.set_cons_zero, List.set_cons_succ]
    refine wpAnyH_take (i := 1) (oi := ⟨_, _, _, _, _, _⟩) (v := ?_) rfl (by kernel_rfl) (by kernel_rfl) (by kernel_rfl) (fun _ _ _ h => h) (Or.inl ⟨by rfl, ?_⟩) (by assumption) ?_
    rotate_left 1
    · intro W hSw
      try dsimp only at hSw
      obtain ⟨hs1, hs2, hs3⟩ := hSw
      go_simp
      try with_reducible rfl
    try simp only [Act.put, List.setIfInBounds_toArray, List.set_cons_zero, List.set_cons_succ]
    refine wpAnyH_take (i := 2) (oi := ⟨_, _, _, _, _, _⟩) (v := ?_) rfl (by kernel_rfl) (by kernel_rfl) (by kernel_rfl) (fun _ _ _ h => h) (Or.inl ⟨by rfl, ?_⟩) (by assumption) ?_
    rotate_left 1
    · intro W hSw
      try dsimp only at hSw
      obtain ⟨hs1, hs2, hs3⟩ := hSw
      go_simp
      try with_reducible rfl
    try simp only [Act.put, List.setIfInBounds_toArray, List.set_cons_zero, List.set_cons_succ]
    refine wpAnyH_take (i := 3) (oi := ⟨_, _, _, _, _, _⟩) (v := ?_) rfl (by kernel_rfl) (by kernel_rfl) (by kernel_rfl) (fun _ _ _ h => h) (Or.inl ⟨by rfl, ?_⟩) (by assumption) ?_
    rotate_left 1
    · intro W hSw
      try dsimp only at hSw
      obtain ⟨hs1, hs2, hs3⟩ := hSw
      go_simp
      try with_reducible rfl
    try simp only [Act.put, List.setIfInBounds_toArray, List.set_cons_zero, List.set_cons_succ]
    refine wpAnyH_take (i := 4) (oi := ⟨_, _, _, _, _, _⟩) (v := ?_) rfl (by kernel_rfl) (by kernel_rfl) (by kernel_rfl) (fun _ _ _ h => h) (Or.inl ⟨by rfl, ?_⟩) (by assumption) ?_
    rotate_left 1
    · intro W hSw
      try dsimp only at hSw
      obtain ⟨hs1, hs2, hs3⟩ := hSw
      go_simp
      try with_reducible rfl
    try simp only [Act.put, List.setIfInBounds_toArray, List.set_cons_zero, List.set_cons_succ]
    refine wpAnyH_take (i := 5) (oi := ⟨_, _, _, _, _, _⟩) (v := ?_) rfl (by kernel_rfl) (by kernel_rfl) (by kernel_rfl) (fun _ _ _ h => h) (Or.inl ⟨by rfl, ?_⟩) (by assumption) ?_
    rotate_left 1
    · intro W hSw
      try dsimp only at hSw
      obtain ⟨hs1, hs2, hs3⟩ := hSw
      go_simp
      try with_reducible rfl
    try simp only [Act.put, List.setIfInBounds_toArray, List.set_cons_zero, List.set_cons_succ]
    refine wpAnyH_take (i := 6) (oi := ⟨_, _, _, _, _, _⟩) (v := ?_) rfl (by kernel_rfl) (by kernel_rfl) (by kernel_rfl) (fun _ _ _ h => h) (Or.inl ⟨by rfl, ?_⟩) (by assumption) ?_
    rotate_left 1
    · intro W hSw
      try dsimp only at hSw
      obtain ⟨hs1, hs2, hs3⟩ := hSw
      go_simp
      try with_reducible rfl
    try simp only [Act.put, List.setIfInBounds_toArray, List.set_cons_zero, List.set_cons_succ]
    refine wpAnyH_take (i := 7) (oi := ⟨_, _, _, _, _, _⟩) (v := ?_) rfl (by kernel_rfl) (by kernel_rfl) (by kernel_rfl) (fun _ _ _ h => h) (Or.inl ⟨by rfl, ?_⟩) (by assumption) ?_
    rotate_left 1
    · intro W hSw
      try dsimp only at hSw
      obtain ⟨hs1, hs2, hs3⟩ := hSw
      go_simp
      try with_reducible rfl
    try simp only [Act.put, List.setIfInBounds_toArray, List.set_cons_zero, List.set_cons_succ]
    refine wpAnyH_take (i := 8) (oi := ⟨_, _, _, _, _, _⟩) (v := ?_) rfl (by kernel_rfl) (by kernel_rfl) (by kernel_rfl) (fun _ _ _ h => h) (Or.inl ⟨by rfl, ?_⟩) (by assumption) ?_
    rotate_left 1
    · intro W hSw
      try dsimp only at hSw
      obtain ⟨hs1, hs2, hs3⟩ := hSw
      go_simp
      try with_reducible rfl
    try simp only [Act.put, List.setIfInBounds_toArray, List.set_cons_zero, List.set_cons_succ]
    refine wpAnyH_take (i := 11) (oi := ⟨_, _, _, _, _, _⟩) (v := ?_) rfl (by kernel_rfl) (by kernel_rfl) (by kernel_rfl) (fun _ _ _ h => h) (Or.inl ⟨by rfl, ?_⟩) (by assumption) ?_
    rotate_left 1
    · intro W hSw
      try dsimp only at hSw
      obtain ⟨hs1, hs2, hs3⟩ := hSw
      go_simp
      try with_reducible rfl
    try simp only [Act.put, List.setIfInBounds_toArray, List.set_cons_zero, List.set_cons_succ]
    refine wpAnyH_take (i := 12) (oi := ⟨_, _, _, _, _, _⟩) (v := ?_) rfl (by kernel_rfl) (by kernel_rfl) (by kernel_rfl) (fun _ _ _ h => h) (Or.inl ⟨by rfl, ?_⟩) (by assumption) ?_
    rotate_left 1
    · intro W hSw
      try dsimp only at hSw
      obtain ⟨hs1, hs2, hs3⟩ := hSw
      go_simp
      try with_reducible rfl
    try simp only [Act.put, List.setIfInBounds_toArray, List.set_cons_zero, List.set_cons_succ]
    refine wpAnyH_take (i := 13) (oi := ⟨_, _, _, _, _, _⟩) (v := ?_) rfl (by kernel_rfl) (by kernel_rfl) (by kernel_rfl) (fun _ _ _ h => h) (Or.inl ⟨by rfl, ?_⟩) (by assumption) ?_
    rotate_left 1
    · intro W hSw
      try dsimp only at hSw
      obtain ⟨hs1, hs2, hs3⟩ := hSw
      go_simp
      try with_reducible rfl
    try simp only [Act.put, List.setIfInBounds_toArray, List.set_cons_zero, List.set_cons_succ]
    refine wpAnyH_take (i := 14) (oi := ⟨_, _, _, _, _, _⟩) (v := ?_) rfl (by kernel_rfl) (by kernel_rfl) (by kernel_rfl) (fun _ _ _ h => h) (Or.inl ⟨by rfl, ?_⟩) (by assumption) ?_
    rotate_left 1
    · intro W hSw
      try dsimp only at hSw
      obtain ⟨hs1, hs2, hs3⟩ := hSw
      go_simp
      try with_reducible rfl
    try simp only [Act.put, List.setIfInBounds_toArray, List.set_cons_zero, List.set_cons_succ]
    refine wpAnyH_take (i := 15) (oi := ⟨_, _, _, _, _, _⟩) (v := ?_) rfl (by kernel_rfl) (by kernel_rfl) (by kernel_rfl) (fun _ _ _ h => h) (Or.inl ⟨by rfl, ?_⟩) (by assumption) ?_
    rotate_left 1
    · intro W hSw
      try dsimp only at hSw
      obtain ⟨hs1, hs2, hs3⟩ := hSw
      go_simp
      try with_reducible rfl
    try simp only [Act.put, List.setIfInBounds_toArray, List.set_cons_zero, List.set_cons_succ]
    refine wpAnyH_take (i := 16) (oi := ⟨_, _, _, _, _, _⟩) (v := ?_) rfl (by kernel_rfl) (by kernel_rfl) (by kernel_rfl) (fun _ _ _ h => h) (Or.inl ⟨by rfl, ?_⟩) (by assumption) ?_
    rotate_left 1
    · intro W hSw
      try dsimp only at hSw
      obtain ⟨hs1, hs2, hs3⟩ := hSw
      go_simp
      try with_reducible rfl
    try simp only [Act.put, List.setIfInBounds_toArray, List.set_cons_zero, List.set_cons_succ]
    refine wpAnyH_take (i := 17) (oi := ⟨_, _, _, _, _, _⟩) (v := ?_) rfl (by kernel_rfl) (by kernel_rfl) (by kernel_rfl) (fun _ _ _ h => h) (Or.inl ⟨by rfl, ?_⟩) (by assumption) ?_
    rotate_left 1
    · intro W hSw
      try dsimp only at hSw
      obtain ⟨hs1, hs2, hs3⟩ := hSw
      go_simp
      try with_reducible rfl
    try simp only [Act.put, List.setIfInBounds_toArray, List.set_cons_zero, List.set_cons_succ]
    refine wpAnyH_take (i := 18) (oi := ⟨_, _, _, _, _, _⟩) (v := ?_) rfl (by kernel_rfl) (by kernel_rfl) (by kernel_rfl) (fun _ _ _ h => h) (Or.inl ⟨by rfl, ?_⟩) (by assumption) ?_
    rotate_left 1
    · intro W hSw
      try dsimp only at hSw
      obtain ⟨hs1, hs2, hs3⟩ := hSw
      go_simp
      try with_reducible rfl
    try simp only [Act.put, List.setIfInBounds_toArray, List.set_cons_zero, List.set_cons_succ]
    refine wpAnyH_take (i := 19) (oi := ⟨_, _, _, _, _, _⟩) (v := ?_) rfl (by kernel_rfl) (by kernel_rfl) (by kernel_rfl) (fun _ _ _ h => h) (Or.inl ⟨by rfl, ?_⟩) (by assumption) ?_
    rotate_left 1
    · intro W hSw
      try dsimp only at hSw
      obtain ⟨hs1, hs2, hs3⟩ := hSw
      go_simp
      try with_reducible rfl
    try simp only [Act.put, List.setIfInBounds_toArray, List.set_cons_zero, List.set_cons_succ]
    refine wpAnyH_ready (rs := [9]) (by kernel_rfl) (by simp) ?_
    refine AllReadyH.cons rfl (fun K hK => ?_) AllReadyH.nil
    go_simp
    go_at_call 31
    refine (cC.out _ T1d.out).mono ?_
    rintro e w2 ⟨rfl, dm2, ht2, hd2⟩
    have D2 := Lib.hid hd2
    have T2 : Hid (TwoL W0 w2 d dm2 q m g rm p lm D) := T1d.out.step1 (WlTo.disk T1d.out.a ht2 (by rw [hd2]; exact HW2.out))
    have HX2 : Hid (X < w2.heap.size ∧ p < w2.heap.size) := ⟨Nat.lt_of_lt_of_le XL.out ht2.k.size, Nat.lt_of_lt_of_le HPl.out.1 ht2.k.size⟩
    have hSb : w2.cell? ⟨p, 1, none⟩ = some (.int .i64 (i : Int)) ∧ w2.cell? ⟨X, 1, none⟩ = some (.int .i64 a.n) ∧ w2.cell? ⟨X, 3, none⟩ = some (.int .u8 (a.x.toNat : Int)) := ⟨ht2.k.far (show w1.drew.cell? ⟨p, 1, none⟩ = _ from lo0) HPl.out.1 (fun hf => HPl.out.2 (.inl hf)), ht2.k.far (show w1.drew.cell? ⟨X, 1, none⟩ = _ from x1) XL.out (fun hf => XF.out (.inl hf)), ht2.k.far (show w1.drew.cell? ⟨X, 3, none⟩ = _ from x3) XL.out (fun hf => XF.out (.inl hf))⟩
    clear hd2 ht2
    refine hK.out _ _ hSb (fun hSn => ?_)
    clear hK K
    try simp only [Act.put, List.setIfInBounds_toArray, List.set_cons_zero, List.set_cons_succ]
    refine wpAnyH_ready (rs := [10]) (by kernel_rfl) (by simp) ?_
    refine AllReadyH.cons rfl (fun K hK => ?_) AllReadyH.nil
    go_simp
    go_at_call 10
    refine (num_any _ _).mono ?_
    rintro e wn ⟨rfl, hwn⟩
    obtain rfl := hwn.symm
    refine hK.out _ _ hSb (fun hSn => ?_)
    clear hK K
    try simp only [Act.put, List.setIfInBounds_toArray, List.set_cons_zero, List.set_cons_succ]
    refine wpAnyH_ready (rs := [20]) (by kernel_rfl) (by simp) ?_
    refine AllReadyH.cons rfl (fun K hK => ?_) AllReadyH.nil
    go_simp
    go_at_call 32
    refine (cD.out _ _ T2.out).mono ?_
    rintro e w3 ⟨n3, rm3, rfl, hn3, ht3, hr3⟩
    obtain rfl := hn3.symm
    have T3 : Hid (TwoL W0 w3 d dm2 q m g rm3 p lm D1) := T2.out.step2 (RlTo.disk T2.out.b ht3 hr3 HW2.out)
    have hSc : w3.cell? ⟨p, 1, none⟩ = some (.int .i64 (i : Int)) ∧ w3.cell? ⟨X, 1, none⟩ = some (.int .i64 a.n) ∧ w3.cell? ⟨X, 3, none⟩ = some (.int .u8 (a.x.toNat : Int)) := ⟨by rw [← HI.out, ← HLn.out.1]; exact T3.out.b.l.b.cell 1, ht3.k.far hSb.2.1 HX2.out.1 (fun hf => XR.out (.inl hf)), ht3.k.far hSb.2.2 HX2.out.1 (fun hf => XR.out (.inl hf))⟩
    clear hr3 ht3 hn3
    refine hK.out _ _ hSc (fun hSn => ?_)
    clear hK K
    try simp only [Act.put, List.setIfInBounds_toArray, List.set_cons_zero, List.set_cons_succ]
    refine wpAnyH_take (i := 21) (oi := ⟨_, _, _, _, _, _⟩) (v := ?_) rfl (by kernel_rfl) (by kernel_rfl) (by kernel_rfl) (fun _ _ _ h => h) (Or.inl ⟨by rfl, ?_⟩) (by assumption) ?_
    rotate_left 1
    · intro W hSw
      try dsimp only at hSw
      obtain ⟨hs1, hs2, hs3⟩ := hSw
      go_simp
      try with_reducible rfl
    try simp only [Act.put, List.setIfInBounds_toArray, List.set_cons_zero, List.set_cons_succ]
    refine wpAnyH_done (by kernel_rfl) ?_ _
    go_upto_region 15 with fail
    obtain ⟨D2f, hD2f⟩ : ∃ E, (fuseD D1 1000).1 = E := ⟨_, rfl⟩
    have HD2f := Lib.hid hD2f
    have HW3 : Hid (DkWf D2f) := by show DkWf _; rw [← hD2f]; exact fuseD_wf HW2.out _ (by decide)
    have HS3 : Hid (SmallD D2f 700000 ∧ D2f.W.length ≤ 800) := by rw [← hD2f]; exact ⟨HS2.out.1.fuse _, HS2.out.2⟩
    have lo3 : w3.cell? ⟨p, 1, none⟩ = some (.int .i64 (i : Int)) := by rw [← HI.out, ← HLn.out.1]; exact T3.out.b.l.b.cell 1
    obtain ⟨O, hO⟩ : ∃ O, openD D2f (i : Int) = O := ⟨_, rfl⟩
    have HO := Lib.hid hO
    have HAg : Hid (againW D2f L = (O.1, if O.2 = 0 then ⟨L.log, scanB (logB D2f L.log), sizeL (scanB (logB D2f L.log)), false⟩ else L)) := by
      show _ = _
      unfold againW
      rw [HI.out, hO]
    have HWO : Hid (DkWf O.1) := by show DkWf _; rw [← hO]; exact openD_wf HW3.out _
    clear hD2f hO
    by_cases h0 : O.2 = 0
    · have HFn : Hid (againW (fuseD D1 1000).1 L = (O.1, ⟨L.log, scanB (logB D2f L.log), sizeL (scanB (logB D2f L.log)), false⟩)) := by show _ = _; rw [HD2f.out, HAg.out, if_pos h0]
      have H0 := Lib.hid h0
      go_wp2_with (first
        | (go_at_call 29; refine (cF.out _ _ _ _ D2.out T3.out).mono ?_; rintro e w4 ⟨rfl, dm4, ht4, hd4⟩; rw [HD2f.out] at hd4; have D4 := Lib.hid hd4; have T4 : Hid (TwoL W0 w4 d dm4 q m g rm3 p lm D1) := T3.out.step1 (WlTo.disk T3.out.a ht4 (by rw [hd4]; exact HW3.out)); clear hd4 ht4)
        | (go_at_call 10; refine (num_any _ _).mono ?_; rintro e wn ⟨rfl, hwn⟩; obtain rfl := hwn.symm)
        | (go_at_call 30; refine (cG.out _ _ _ _ T4.out).mono ?_; rintro e w5 ⟨n5, rm5, rfl, hn5, ht5, hr5⟩; rw [HD2f.out] at hr5; obtain rfl := hn5.symm; have T5 : Hid (TwoL W0 w5 d dm4 q m g rm5 p lm D2f) := T4.out.step2 (RlTo.disk T4.out.b ht5 hr5 HW3.out); (have lo5 : w5.cell? ⟨p, 1, none⟩ = some (.int .i64 (i : Int)) := by rw [← HI.out, ← HLn.out.1]; exact T5.out.b.l.b.cell 1); clear hn5 ht5 hr5)
        | (go_at_call 8; refine (open_any w5 (HTv.out _ T5.out.v) d dm4 T5.out.a.k T5.out.a.wf (by rw [DkM.wlen, D4.out]; have := HS3.out.2; omega) (i : Int)).mono ?_; unfold OpenPost; rw [D4.out, HO.out]; rintro e w6 ⟨dm6, hd6, ht6, ⟨hne, -⟩ | ⟨-, q6, m6, rfl, ho6⟩⟩ <;> first | exact absurd H0.out hne | skip; have D6 := Lib.hid hd6; have T6 : Hid (TwoL W0 w6 d dm6 q6 m6 g rm5 p lm D2f) := T5.out.open1 ht6 ho6.ok ho6.n; have O6 := Lib.hid ho6; (have lo6 : w6.cell? ⟨p, 1, none⟩ = some (.int .i64 (i : Int)) := by rw [← HI.out, ← HLn.out.1]; exact T6.out.b.l.b.cell 1); clear hd6 ht6 ho6)
        | (go_at_call 9; refine (ropen_any w6 (HTv.out _ T6.out.v) g rm5 D2f T6.out.b.k T6.out.b.r T6.out.b.wf (by rw [T6.out.b.r.Wl]; have := HS3.out.2; omega) (i : Int) (Nat.le_trans (HS3.out.1.row _) (by decide))).mono ?_; unfold ROpenPost; rw [HO.out]; rintro e w7 ⟨rm7, hr7, ht7, ⟨hne, -⟩ | ⟨-, p7, lm7, rfl, ho7⟩⟩ <;> first | exact absurd H0.out hne | skip; have T7 : Hid (TwoL W0 w7 d dm6 q6 m6 g rm7 p7 lm7 O.1) := T6.out.open2 ht7 (by have h := ho7.ok; rw [HO.out] at h; exact h) ho7.n; have O7 := Lib.hid ho7; clear hr7 ht7 ho7))
      go_ret3
      rw [HFn.out]
      refine ⟨dm6, q6, m6, rm7, p7, lm7, rfl, D6.out, ?_, ?_, T7.out⟩
      · show (⟨m6.log, m6.rows.map (·.l), m6.size, m6.dead⟩ : LgD) = _
        rw [O6.out.lg, O6.out.l, O6.out.z, O6.out.dd, HI.out]
      · show (⟨lm7.log, lm7.rows.map (·.l), lm7.size, lm7.dead⟩ : LgD) = _
        rw [O7.out.lg, O7.out.l, O7.out.z, O7.out.dd, HI.out]
    · have HFn : Hid (againW (fuseD D1 1000).1 L = (O.1, L)) := by show _ = _; rw [HD2f.out, HAg.out, if_neg h0]
      have H0 := Lib.hid h0
      obtain ⟨n0, hn0⟩ : ∃ n, O.2 = n := ⟨_, rfl⟩
      have HN0 := Lib.hid hn0
      clear hn0 h0
      go_wp2_with (first
        | (go_at_call 29; refine (cF.out _ _ _ _ D2.out T3.out).mono ?_; rintro e w4 ⟨rfl, dm4, ht4, hd4⟩; rw [HD2f.out] at hd4; have D4 := Lib.hid hd4; have T4 : Hid (TwoL W0 w4 d dm4 q m g rm3 p lm D1) := T3.out.step1 (WlTo.disk T3.out.a ht4 (by rw [hd4]; exact HW3.out)); clear hd4 ht4)
        | (go_at_call 10; refine (num_any _ _).mono ?_; rintro e wn ⟨rfl, hwn⟩; obtain rfl := hwn.symm)
        | (go_at_call 30; refine (cG.out _ _ _ _ T4.out).mono ?_; rintro e w5 ⟨n5, rm5, rfl, hn5, ht5, hr5⟩; rw [HD2f.out] at hr5; obtain rfl := hn5.symm; have T5 : Hid (TwoL W0 w5 d dm4 q m g rm5 p lm D2f) := T4.out.step2 (RlTo.disk T4.out.b ht5 hr5 HW3.out); (have lo5 : w5.cell? ⟨p, 1, none⟩ = some (.int .i64 (i : Int)) := by rw [← HI.out, ← HLn.out.1]; exact T5.out.b.l.b.cell 1); clear hn5 ht5 hr5)
        | (go_at_call 8; refine (open_any w5 (HTv.out _ T5.out.v) d dm4 T5.out.a.k T5.out.a.wf (by rw [DkM.wlen, D4.out]; have := HS3.out.2; omega) (i : Int)).mono ?_; unfold OpenPost; rw [D4.out, HO.out, HN0.out]; rintro e w6 ⟨dm6, hd6, ht6, ⟨-, rfl⟩ | ⟨h00, -⟩⟩ <;> first | exact absurd (HN0.out.trans h00) H0.out | skip; have D6 := Lib.hid hd6; have T6 : Hid (TwoL W0 w6 d dm6 q m g rm5 p lm D2f) := T5.out.step1 (WlTo.disk T5.out.a ht6 (by rw [hd6]; exact HWO.out)); (have lo6 : w6.cell? ⟨p, 1, none⟩ = some (.int .i64 (i : Int)) := by rw [← HI.out, ← HLn.out.1]; exact T6.out.b.l.b.cell 1); clear hd6 ht6)
        | (go_at_call 9; refine (ropen_any w6 (HTv.out _ T6.out.v) g rm5 D2f T6.out.b.k T6.out.b.r T6.out.b.wf (by rw [T6.out.b.r.Wl]; have := HS3.out.2; omega) (i : Int) (Nat.le_trans (HS3.out.1.row _) (by decide))).mono ?_; unfold ROpenPost; rw [HO.out, HN0.out]; rintro e w7 ⟨rm7, hr7, ht7, ⟨-, rfl⟩ | ⟨h00, -⟩⟩ <;> first | exact absurd (HN0.out.trans h00) H0.out | skip; have T7 : Hid (TwoL W0 w7 d dm6 q m g rm7 p lm O.1) := T6.out.step2 (RlTo.disk T6.out.b ht7 hr7 HWO.out); clear hr7 ht7))
      go_ret3
      rw [HFn.out]
      exact ⟨dm6, q, m, rm7, p, lm, rfl, D6.out, HL.out, HL2.out, T7.out⟩
  have n5 : (kd == 5) = false := beq_eq_false_iff_ne.2 k5
  have q5 : decide (kd = 5) = false := decide_eq_false k5
  have HRn : Hid (stepW D L a = (D, L)) := by show _ = _; unfold stepW; rw [if_neg (by rw [HK.out]; exact k1), if_neg (by rw [HK.out]; exact k2), if_neg (by rw [HK.out]; exact k3), if_neg (by rw [HK.out]; exact k4), if_neg (by rw [HK.out]; exact k5)]
  rw [HRn.out]
  go_enter Tryd.func11, Tryd.ntmps11
  go_upto_region 1 with fail
  go_wp2
  go_ret3
  exact ⟨dm, q, m, rm, p, lm, rfl, HDd.out, HL.out, HL2.out, T1.out⟩
end Go.Proofs.YthamlphebnhcpaaDoor
