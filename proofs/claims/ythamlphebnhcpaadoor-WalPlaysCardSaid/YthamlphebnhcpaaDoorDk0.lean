/-
  disk: what a disk holds, as data, and what its functions make of it.
-/
import Derived.Test.YthamlphebnhcpaaDoorWords
namespace Go.Proofs.YthamlphebnhcpaaDoor
open Go.RowKit

/-- A step that waits. -/
inductive StD where
  | put (log : Nat) (b : List UInt8)
  | cut (log n : Nat)
def rowD (X : List (List UInt8)) (k : Nat) : List UInt8 := X.getD k []
/-- A step done to the logs from place o on. -/
def doS (o : Nat) (X : List (List UInt8)) : StD → List (List UInt8)
  | .put i b => X.set (o + i) (rowD X (o + i) ++ b)
  | .cut i n => X.set (o + i) ((rowD X (o + i)).take n)
/-- What lasts of it. -/
def tornS (X : List (List UInt8)) (m : Int) : StD → List (List UInt8)
  | .put i b => X.set i (rowD X i ++ b.take (m % ((b.length : Int) + 1)).toNat)
  | .cut _ _ => X
def doAll (o : Nat) (X : List (List UInt8)) (W : List StD) : List (List UInt8) := W.foldl (doS o) X
/-- May it be done? -/
def okS (X : List (List UInt8)) : StD → Prop
  | .put i b => i < 16 ∧ (rowD X i).length + b.length ≤ 16777216
  | .cut i n => i < 16 ∧ n ≤ (rowD X i).length
def okW : List (List UInt8) → List StD → Prop
  | _, [] => True
  | X, s :: r => okS X s ∧ okW (doS 0 X s) r
/-- A disk: the settled logs, and behind them the logs as they are read; the steps that wait; the fuse. -/
structure DkD where
  X : List (List UInt8)
  W : List StD
  fuse : Int
  dead : Bool
def mayD (log : Int) : Bool := decide (0 ≤ log) && decide (log < 16)
def burnD (D : DkD) : DkD × Int := bif D.fuse == -1 then (D, 0) else bif D.fuse == 0 then ({ D with dead := true }, 19) else ({ D with fuse := D.fuse - 1 }, 0)
def waitD (D : DkD) (s : StD) : DkD := { D with X := doS 16 D.X s, W := D.W ++ [s] }
def appendD (D : DkD) (log : Int) (b : List UInt8) : DkD × Int :=
  bif !mayD log then (D, 2) else bif D.dead then (D, 20) else bif decide (16777216 < (rowD D.X (16 + log.toNat)).length + b.length) then (D, 8) else burnD (waitD D (.put log.toNat b))
def cutD (D : DkD) (log n : Int) : DkD × Int :=
  bif !(mayD log && (decide (0 ≤ n) && decide (n ≤ ((rowD D.X (16 + log.toNat)).length : Int)))) then (D, 2) else bif D.dead then (D, 20) else burnD (waitD D (.cut log.toNat n.toNat))
def settleD (n : Nat) (D : DkD) : DkD := { D with X := doAll 0 D.X (D.W.take n), W := D.W.drop n }
def syncD (D : DkD) : DkD × Int := bif D.dead then (D, 20) else bif (burnD D).2 == 0 then (settleD (burnD D).1.W.length (burnD D).1, 0) else burnD D
def fuseD (D : DkD) (n : Int) : DkD × Int := bif decide (n < 0) then (D, 2) else ({ D with fuse := n }, 0)
def tornD (D : DkD) (m : Int) : DkD := match D.W with
  | [] => D
  | s :: _ => { D with X := tornS D.X m s }
def upD (D : DkD) : DkD := { X := D.X.take 16 ++ D.X.take 16, W := [], fuse := -1, dead := false }
def crashD (D : DkD) (keep tear : Int) : DkD := upD (tornD (settleD (keep % ((D.W.length : Int) + 1)).toNat D) tear)
def xorAt (l : List UInt8) (k : Nat) (x : UInt8) : List UInt8 := l.set k (l.getD k 0 ^^^ x)
def flipD (D : DkD) (i k : Nat) (x : UInt8) : DkD := { D with X := (D.X.set i (xorAt (rowD D.X i) k x)).set (16 + i) (xorAt (rowD D.X (16 + i)) k x) }
def editD (D : DkD) (log k : Int) (x : UInt8) : DkD × Int :=
  bif !(mayD log && (decide (0 ≤ k) && decide (k < ((rowD D.X (16 + log.toNat)).length : Int)))) then (D, 2) else (flipD (settleD D.W.length D) log.toNat k.toNat x, 0)
def newD : DkD := ⟨List.replicate 32 [], [], -1, false⟩

/-! what holds of a disk always -/
structure DkWf (D : DkD) : Prop where
  n : D.X.length = 32
  m : ∀ k, (rowD D.X k).length ≤ 16777216
  w : okW D.X D.W
  e : ∀ i, i < 16 → rowD D.X (16 + i) = rowD (doAll 0 D.X D.W) i
  f : -1 ≤ D.fuse
  g : D.fuse < 9223372036854775808

theorem rowD_set {X : List (List UInt8)} {k j : Nat} {l : List UInt8} (h : k < X.length) : rowD (X.set k l) j = if j = k then l else rowD X j := by
  unfold rowD
  rw [List.getD_eq_getElem?_getD, List.getD_eq_getElem?_getD, List.getElem?_set]
  by_cases hj : k = j
  · subst hj; simp [h]
  · rw [if_neg hj, if_neg (fun e => hj e.symm)]
theorem doS_len (o : Nat) (X : List (List UInt8)) (s : StD) : (doS o X s).length = X.length := by cases s <;> simp [doS]
theorem doAll_len (o : Nat) (W : List StD) : ∀ X : List (List UInt8), (doAll o X W).length = X.length := by
  induction W with
  | nil => intro X; rfl
  | cons s r ih => intro X; show (doAll o (doS o X s) r).length = _; rw [ih, doS_len]
theorem okS_log {X : List (List UInt8)} {s : StD} (h : okS X s) : (match s with | .put i _ => i | .cut i _ => i) < 16 := by cases s <;> exact h.1
/-- A step done at 0 leaves what is read. -/
theorem doS_far {X : List (List UInt8)} {s : StD} (hn : X.length = 32) (h : okS X s) {k : Nat} (hk : 16 ≤ k) : rowD (doS 0 X s) k = rowD X k := by
  cases s with
  | put i b => have := h.1; rw [doS, rowD_set (by omega), if_neg (by omega)]
  | cut i n => have := h.1; rw [doS, rowD_set (by omega), if_neg (by omega)]
theorem doS_le {X : List (List UInt8)} {s : StD} (hn : X.length = 32) (h : okS X s) (hm : ∀ k, (rowD X k).length ≤ 16777216) : ∀ k, (rowD (doS 0 X s) k).length ≤ 16777216 := by
  intro k
  cases s with
  | put i b =>
    obtain ⟨h1, h2⟩ := h
    rw [doS, rowD_set (by omega)]
    split
    · rw [List.length_append, Nat.zero_add]; exact h2
    · exact hm k
  | cut i n =>
    obtain ⟨h1, h2⟩ := h
    rw [doS, rowD_set (by omega)]
    split
    · rw [List.length_take]; have := hm (0 + i); omega
    · exact hm k
theorem doAll_far {W : List StD} : ∀ {X : List (List UInt8)}, X.length = 32 → okW X W → ∀ k, 16 ≤ k → rowD (doAll 0 X W) k = rowD X k := by
  induction W with
  | nil => intros; rfl
  | cons s r ih => intro X hn h k hk; show rowD (doAll 0 (doS 0 X s) r) k = _; rw [ih (by rw [doS_len]; exact hn) h.2 k hk, doS_far hn h.1 hk]
theorem doAll_le {W : List StD} : ∀ {X : List (List UInt8)}, X.length = 32 → okW X W → (∀ k, (rowD X k).length ≤ 16777216) → ∀ k, (rowD (doAll 0 X W) k).length ≤ 16777216 := by
  induction W with
  | nil => intro X _ _ hm; exact hm
  | cons s r ih => intro X hn h hm; exact ih (by rw [doS_len]; exact hn) h.2 (doS_le hn h.1 hm)
theorem doAll_app (o : Nat) (X : List (List UInt8)) (V W : List StD) : doAll o X (V ++ W) = doAll o (doAll o X V) W := List.foldl_append ..
theorem okW_app {V W : List StD} : ∀ {X : List (List UInt8)}, okW X (V ++ W) ↔ okW X V ∧ okW (doAll 0 X V) W := by
  induction V with
  | nil => intro X; exact ⟨fun h => ⟨True.intro, h⟩, fun h => h.2⟩
  | cons s r ih =>
    intro X
    show (okS X s ∧ okW (doS 0 X s) (r ++ W)) ↔ (okS X s ∧ okW (doS 0 X s) r) ∧ okW (doAll 0 (doS 0 X s) r) W
    rw [ih]
    exact ⟨fun h => ⟨⟨h.1, h.2.1⟩, h.2.2⟩, fun h => ⟨h.1.1, h.1.2, h.2⟩⟩
/-- Rows that agree below 16 agree behind a step. -/
theorem doS_same {X Y : List (List UInt8)} {s : StD} (hn : X.length = 32) (hm : Y.length = 32) (h : okS X s) (he : ∀ i, i < 16 → rowD X i = rowD Y i) : ∀ i, i < 16 → rowD (doS 0 X s) i = rowD (doS 0 Y s) i := by
  intro i hi
  cases s with
  | put j b => have hj : j < 16 := h.1; rw [doS, doS, rowD_set (by omega), rowD_set (by omega), he i hi, he (0 + j) (by omega)]
  | cut j n => have hj : j < 16 := h.1; rw [doS, doS, rowD_set (by omega), rowD_set (by omega), he i hi, he (0 + j) (by omega)]
theorem okS_same {X Y : List (List UInt8)} {s : StD} (h : okS X s) (he : ∀ i, i < 16 → rowD X i = rowD Y i) : okS Y s := by
  cases s with
  | put j b => exact ⟨h.1, by rw [← he j h.1]; exact h.2⟩
  | cut j n => exact ⟨h.1, by rw [← he j h.1]; exact h.2⟩
theorem okW_same {W : List StD} : ∀ {X Y : List (List UInt8)}, X.length = 32 → Y.length = 32 → okW X W → (∀ i, i < 16 → rowD X i = rowD Y i) → okW Y W ∧ ∀ i, i < 16 → rowD (doAll 0 X W) i = rowD (doAll 0 Y W) i := by
  induction W with
  | nil => intro X Y _ _ _ he; exact ⟨True.intro, he⟩
  | cons s r ih =>
    intro X Y hn hm h he
    obtain ⟨h1, h2⟩ := ih (X := doS 0 X s) (Y := doS 0 Y s) (by rw [doS_len]; exact hn) (by rw [doS_len]; exact hm) h.2 (doS_same hn hm h.1 he)
    exact ⟨⟨okS_same h.1 he, h1⟩, h2⟩
/-- What is read, behind a step: as the settled logs behind all. -/
theorem doS_now {X Z : List (List UInt8)} {s : StD} (hn : X.length = 32) (hz : Z.length = 32) (he : ∀ i, i < 16 → rowD X (16 + i) = rowD Z i) (h : okS Z s) : ∀ i, i < 16 → rowD (doS 16 X s) (16 + i) = rowD (doS 0 Z s) i := by
  intro i hi
  cases s with
  | put j b =>
    have hj : j < 16 := h.1
    rw [doS, doS, rowD_set (by omega), rowD_set (by omega), he i hi, he j hj]
    by_cases e : i = j
    · subst e; rw [if_pos rfl, if_pos (by omega), Nat.zero_add]
    · rw [if_neg (by omega), if_neg (by omega)]
  | cut j n =>
    have hj : j < 16 := h.1
    rw [doS, doS, rowD_set (by omega), rowD_set (by omega), he i hi, he j hj]
    by_cases e : i = j
    · subst e; rw [if_pos rfl, if_pos (by omega), Nat.zero_add]
    · rw [if_neg (by omega), if_neg (by omega)]
theorem doS_low {X : List (List UInt8)} {s : StD} (hn : X.length = 32) (h : (match s with | .put i _ => i | .cut i _ => i) < 16) {k : Nat} (hk : k < 16) : rowD (doS 16 X s) k = rowD X k := by
  cases s with
  | put i b => have hi : i < 16 := h; rw [doS, rowD_set (by omega), if_neg (by omega)]
  | cut i n => have hi : i < 16 := h; rw [doS, rowD_set (by omega), if_neg (by omega)]
theorem newD_wf : DkWf newD where
  n := rfl
  m k := by
    have h : rowD newD.X k = [] := by unfold rowD newD; rw [List.getD_eq_getElem?_getD, List.getElem?_replicate]; split <;> rfl
    rw [h]; exact Nat.zero_le _
  w := True.intro
  e i hi := by
    have h : ∀ k, rowD newD.X k = [] := fun k => by unfold rowD newD; rw [List.getD_eq_getElem?_getD, List.getElem?_replicate]; split <;> rfl
    show rowD newD.X _ = rowD newD.X _
    rw [h, h]
  f := by decide
  g := by decide
theorem waitD_wf {D : DkD} (h : DkWf D) {s : StD} (hs : okS (D.X.drop 16) s) : DkWf (waitD D s) := by
  have hd : ∀ i, i < 16 → rowD (D.X.drop 16) i = rowD D.X (16 + i) := fun i _ => by unfold rowD; rw [List.getD_eq_getElem?_getD, List.getD_eq_getElem?_getD, List.getElem?_drop]
  have hz : (doAll 0 D.X D.W).length = 32 := by rw [doAll_len]; exact h.n
  have ho : okS (doAll 0 D.X D.W) s := okS_same hs (fun i hi => (hd i hi).trans (h.e i hi))
  have hlog := okS_log ho
  have hlow : ∀ i, i < 16 → rowD D.X i = rowD (doS 16 D.X s) i := fun i hi => (doS_low h.n hlog hi).symm
  have hl : (doS 16 D.X s).length = 32 := by rw [doS_len]; exact h.n
  obtain ⟨w1, w2⟩ := okW_same h.n hl h.w hlow
  have hdl : (doAll 0 (doS 16 D.X s) D.W).length = 32 := by rw [doAll_len]; exact hl
  refine ⟨hl, fun k => ?_, okW_app.2 ⟨w1, okS_same ho w2, True.intro⟩, fun i hi => ?_, h.f, h.g⟩
  · by_cases hk : k < 16
    · show (rowD (doS 16 D.X s) k).length ≤ _
      rw [← hlow k hk]; exact h.m k
    · by_cases hk2 : k < 32
      · have e : k = 16 + (k - 16) := by omega
        show (rowD (doS 16 D.X s) k).length ≤ _
        rw [e, doS_now h.n hz h.e ho _ (by omega)]
        exact doS_le hz ho (doAll_le h.n h.w h.m) _
      · have e : rowD (waitD D s).X k = [] := by
          unfold rowD
          rw [List.getD_eq_getElem?_getD, List.getElem?_eq_none (by show (doS 16 D.X s).length ≤ k; omega)]
          rfl
        rw [e]; exact Nat.zero_le _
  · show rowD (doS 16 D.X s) (16 + i) = rowD (doAll 0 (doS 16 D.X s) (D.W ++ [s])) i
    rw [doAll_app, doS_now h.n hz h.e ho i hi]
    exact doS_same hz hdl ho w2 i hi
theorem settleD_wf {D : DkD} (h : DkWf D) (n : Nat) : DkWf (settleD n D) := by
  have hw : D.W = D.W.take n ++ D.W.drop n := (List.take_append_drop n D.W).symm
  have h2 := h.w
  rw [hw] at h2
  obtain ⟨h3, h4⟩ := okW_app.1 h2
  refine ⟨by show (doAll 0 D.X _).length = _; rw [doAll_len]; exact h.n, doAll_le h.n h3 h.m, h4, fun i hi => ?_, h.f, h.g⟩
  show rowD (doAll 0 D.X (D.W.take n)) (16 + i) = rowD (doAll 0 (doAll 0 D.X (D.W.take n)) (D.W.drop n)) i
  rw [doAll_far h.n h3 _ (by omega), ← doAll_app, ← hw]
  exact h.e i hi
theorem burnD_wf {D : DkD} (h : DkWf D) : DkWf (burnD D).1 := by
  have hf := h.f
  have hg := h.g
  unfold burnD
  cases h1 : (D.fuse == -1) with
  | true => exact h
  | false =>
    have n1 : D.fuse ≠ -1 := fun e => by rw [e] at h1; cases h1
    cases h2 : (D.fuse == 0) with
    | true => exact ⟨h.n, h.m, h.w, h.e, h.f, h.g⟩
    | false =>
      have n2 : D.fuse ≠ 0 := fun e => by rw [e] at h2; cases h2
      exact ⟨h.n, h.m, h.w, h.e, by show -1 ≤ D.fuse - 1; omega, by show D.fuse - 1 < _; omega⟩
theorem mayD_iff {log : Int} (h : mayD log = true) : 0 ≤ log ∧ log < 16 := by
  unfold mayD at h
  rw [Bool.and_eq_true, decide_eq_true_eq, decide_eq_true_eq] at h
  exact h
theorem drop16 (X : List (List UInt8)) (i : Nat) : rowD (X.drop 16) i = rowD X (16 + i) := by unfold rowD; rw [List.getD_eq_getElem?_getD, List.getD_eq_getElem?_getD, List.getElem?_drop]
theorem appendD_wf {D : DkD} (h : DkWf D) (log : Int) (b : List UInt8) : DkWf (appendD D log b).1 := by
  unfold appendD
  cases h1 : mayD log with
  | false => exact h
  | true =>
    cases h2 : D.dead with
    | true => exact h
    | false =>
      cases h3 : decide (16777216 < (rowD D.X (16 + log.toNat)).length + b.length) with
      | true => exact h
      | false =>
        have h4 := of_decide_eq_false h3
        have h5 := mayD_iff h1
        refine burnD_wf (waitD_wf h ⟨by omega, ?_⟩)
        rw [drop16]; omega
theorem cutD_wf {D : DkD} (h : DkWf D) (log n : Int) : DkWf (cutD D log n).1 := by
  unfold cutD
  cases h1 : (mayD log && (decide (0 ≤ n) && decide (n ≤ ((rowD D.X (16 + log.toNat)).length : Int)))) with
  | false => exact h
  | true =>
    cases h2 : D.dead with
    | true => exact h
    | false =>
      rw [Bool.and_eq_true, Bool.and_eq_true, decide_eq_true_eq, decide_eq_true_eq] at h1
      have h5 := mayD_iff h1.1
      refine burnD_wf (waitD_wf h ⟨by omega, ?_⟩)
      rw [drop16]; omega
theorem syncD_wf {D : DkD} (h : DkWf D) : DkWf (syncD D).1 := by
  unfold syncD
  cases D.dead with
  | true => exact h
  | false =>
    cases (burnD D).2 == 0 with
    | true => exact settleD_wf (burnD_wf h) _
    | false => exact burnD_wf h
theorem fuseD_wf {D : DkD} (h : DkWf D) (n : Int) (hn : n < 9223372036854775808) : DkWf (fuseD D n).1 := by
  unfold fuseD
  cases h1 : decide (n < 0) with
  | true => exact h
  | false => have h2 := of_decide_eq_false h1; exact ⟨h.n, h.m, h.w, h.e, by show -1 ≤ n; omega, hn⟩
theorem upD_wf {D : DkD} (hn : D.X.length = 32) (hm : ∀ k, k < 16 → (rowD D.X k).length ≤ 16777216) : DkWf (upD D) := by
  have hl : (D.X.take 16).length = 16 := by rw [List.length_take]; omega
  have lo : ∀ k, k < 16 → rowD (upD D).X k = rowD D.X k := fun k hk => by
    unfold rowD upD
    rw [List.getD_eq_getElem?_getD, List.getD_eq_getElem?_getD, List.getElem?_append_left (by omega), List.getElem?_take_of_lt hk]
  have hi : ∀ k, k < 16 → rowD (upD D).X (16 + k) = rowD D.X k := fun k hk => by
    unfold rowD upD
    rw [List.getD_eq_getElem?_getD, List.getD_eq_getElem?_getD, List.getElem?_append_right (by omega), hl, show 16 + k - 16 = k by omega, List.getElem?_take_of_lt hk]
  have hn2 : (upD D).X.length = 32 := by show (D.X.take 16 ++ D.X.take 16).length = _; rw [List.length_append, hl]
  refine ⟨hn2, fun k => ?_, True.intro, fun i h => (hi i h).trans (lo i h).symm, (by show (-1 : Int) ≤ -1; omega), (by show (-1 : Int) < _; omega)⟩
  by_cases hk : k < 16
  · rw [lo k hk]; exact hm k hk
  · by_cases hk2 : k < 32
    · have e : k = 16 + (k - 16) := by omega
      rw [e, hi _ (by omega)]; exact hm _ (by omega)
    · have e : rowD (upD D).X k = [] := by
        unfold rowD
        rw [List.getD_eq_getElem?_getD, List.getElem?_eq_none (by omega)]
        rfl
      rw [e]; exact Nat.zero_le _
theorem tornD_ok {D : DkD} (h : DkWf D) (m : Int) : (tornD D m).X.length = 32 ∧ ∀ k, k < 16 → (rowD (tornD D m).X k).length ≤ 16777216 := by
  unfold tornD
  cases hW : D.W with
  | nil => exact ⟨h.n, fun k _ => h.m k⟩
  | cons s r =>
    have hw := h.w
    rw [hW] at hw
    have hn := h.n
    cases s with
    | cut i n => exact ⟨h.n, fun k _ => h.m k⟩
    | put i b =>
      obtain ⟨hi, hb⟩ := hw.1
      refine ⟨by show (List.set _ _ _).length = _; rw [List.length_set]; exact hn, fun k hk => ?_⟩
      show (rowD (D.X.set i _) k).length ≤ _
      rw [rowD_set (by omega)]
      split
      · rw [List.length_append, List.length_take]; omega
      · exact h.m k
theorem crashD_wf {D : DkD} (h : DkWf D) (keep tear : Int) : DkWf (crashD D keep tear) := by
  obtain ⟨h1, h2⟩ := tornD_ok (settleD_wf h (keep % ((D.W.length : Int) + 1)).toNat) tear
  exact upD_wf h1 h2
theorem xorAt_len (l : List UInt8) (k : Nat) (x : UInt8) : (xorAt l k x).length = l.length := List.length_set
theorem flipD_wf {D : DkD} (h : DkWf D) (hW : D.W = []) {i : Nat} (hi : i < 16) (k : Nat) (x : UInt8) : DkWf (flipD D i k x) := by
  have hn := h.n
  have hrow : ∀ j, rowD (flipD D i k x).X j = if j = 16 + i then xorAt (rowD D.X (16 + i)) k x else if j = i then xorAt (rowD D.X i) k x else rowD D.X j := fun j => by
    unfold flipD
    rw [rowD_set (by rw [List.length_set]; omega), rowD_set (by omega)]
  have he := h.e
  rw [hW] at he
  refine ⟨by show ((D.X.set _ _).set _ _).length = _; rw [List.length_set, List.length_set]; exact hn, fun j => ?_, by show okW _ D.W; rw [hW]; exact True.intro, fun j hj => ?_, h.f, h.g⟩
  · rw [hrow]
    split
    · rw [xorAt_len]; exact h.m _
    · split
      · rw [xorAt_len]; exact h.m _
      · exact h.m _
  · show rowD (flipD D i k x).X (16 + j) = rowD (doAll 0 (flipD D i k x).X D.W) j
    rw [hW]
    show rowD (flipD D i k x).X (16 + j) = rowD (flipD D i k x).X j
    have hej : rowD D.X (16 + j) = rowD D.X j := he j hj
    have hei : rowD D.X (16 + i) = rowD D.X i := he i hi
    rw [hrow, hrow, hej, hei]
    by_cases e : j = i
    · rw [if_pos (by omega), if_neg (by omega), if_pos e]
    · rw [if_neg (by omega), if_neg (by omega), if_neg (by omega), if_neg e]
theorem editD_wf {D : DkD} (h : DkWf D) (log k : Int) (x : UInt8) : DkWf (editD D log k x).1 := by
  unfold editD
  cases h1 : (mayD log && (decide (0 ≤ k) && decide (k < ((rowD D.X (16 + log.toNat)).length : Int)))) with
  | false => exact h
  | true =>
    rw [Bool.and_eq_true] at h1
    have h5 := mayD_iff h1.1
    exact flipD_wf (settleD_wf h _) (List.drop_length) (by omega) _ _
end Go.Proofs.YthamlphebnhcpaaDoor
