/-
  wal, the steps: how many bytes there may be, as data; what an empty leaves.
  wal, the document's disk: Crash.
  wal, the document's disk: Edit.
-/
import Derived.Test.YthamlphebnhcpaaDoorWlF
import Derived.Test.YthamlphebnhcpaaDoorWlP
import Derived.Test.YthamlphebnhcpaaDoorPWpQ1
import Derived.Test.YthamlphebnhcpaaDoorPWpQ5
import Derived.Test.YthamlphebnhcpaaDoorDkD
namespace Go.Proofs.YthamlphebnhcpaaDoor
open Go.RowKit

/-- How many bytes a step that waits brings. -/
def stLn : StD → Nat
  | .put _ b => b.length
  | .cut _ _ => 0
def stsLn (W : List StD) : Nat := (W.map stLn).sum
theorem stsLn_cons (s : StD) (W : List StD) : stsLn (s :: W) = stLn s + stsLn W := by unfold stsLn; rw [List.map_cons, List.sum_cons]
theorem stsLn_app (V W : List StD) : stsLn (V ++ W) = stsLn V + stsLn W := by unfold stsLn; rw [List.map_append, List.sum_append]
/-- No log has more bytes, whatever of its steps is done. -/
def SmallD (D : DkD) (n : Nat) : Prop := ∀ k, (rowD D.X k).length + stsLn D.W ≤ n
theorem SmallD.mono {D : DkD} {n m : Nat} (h : SmallD D n) (hm : n ≤ m) : SmallD D m := fun k => Nat.le_trans (h k) hm
theorem SmallD.row {D : DkD} {n : Nat} (h : SmallD D n) (k : Nat) : (rowD D.X k).length ≤ n := Nat.le_trans (Nat.le_add_right _ _) (h k)
theorem doS_small (o : Nat) {X : List (List UInt8)} {s : StD} {n : Nat} (h : ∀ k, (rowD X k).length + stLn s ≤ n) : ∀ k, (rowD (doS o X s) k).length ≤ n := by
  intro k
  by_cases hk : k < X.length
  · cases s with
    | put i b =>
      by_cases hi : o + i < X.length
      · rw [doS, rowD_set hi]
        split
        · rw [List.length_append]; exact h _
        · have := h k; omega
      · rw [doS, List.set_eq_of_length_le (by omega)]; have := h k; omega
    | cut i m =>
      by_cases hi : o + i < X.length
      · rw [doS, rowD_set hi]
        split
        · rw [List.length_take]; have := h (o + i); omega
        · have := h k; omega
      · rw [doS, List.set_eq_of_length_le (by omega)]; have := h k; omega
  · have : rowD (doS o X s) k = [] := by
      unfold rowD
      rw [List.getD_eq_getElem?_getD, List.getElem?_eq_none (by rw [doS_len]; omega)]; rfl
    rw [this]; exact Nat.zero_le _
theorem doAll_small (o : Nat) : ∀ (W : List StD) {X : List (List UInt8)} {n r : Nat}, (∀ k, (rowD X k).length + (stsLn W + r) ≤ n) → ∀ k, (rowD (doAll o X W) k).length + r ≤ n := by
  intro W
  induction W with
  | nil => intro X n r h k; have := h k; simp only [stsLn, List.map_nil, List.sum_nil] at this; show (rowD X k).length + r ≤ n; omega
  | cons s W ih =>
    intro X n r h
    refine ih (X := doS o X s) (fun k => ?_)
    have h2 : ∀ k, (rowD X k).length + stLn s ≤ n - (stsLn W + r) := fun k => by have := h k; rw [stsLn_cons] at this; omega
    have := doS_small o h2 k
    have h3 := h k
    rw [stsLn_cons] at h3
    omega
theorem SmallD.settle {D : DkD} {n : Nat} (h : SmallD D n) (k : Nat) : SmallD (settleD k D) n := by
  intro j
  have e : stsLn (D.W.take k) + stsLn (D.W.drop k) = stsLn D.W := by rw [← stsLn_app, List.take_append_drop]
  exact doAll_small 0 (D.W.take k) (X := D.X) (r := stsLn (D.W.drop k)) (fun i => by rw [e]; exact h i) j
theorem SmallD.wait {D : DkD} {n : Nat} (h : SmallD D n) (s : StD) : SmallD (waitD D s) (n + 2 * stLn s) := by
  intro k
  have h1 := doS_small 16 (X := D.X) (s := s) (n := n - stsLn D.W + stLn s) (fun j => by have := h j; omega) k
  have h2 := h k
  show (rowD (doS 16 D.X s) k).length + stsLn (D.W ++ [s]) ≤ _
  rw [stsLn_app, stsLn_cons]
  have h0 : stsLn [] = 0 := rfl
  omega
theorem SmallD.burn {D : DkD} {n : Nat} (h : SmallD D n) : SmallD (burnD D).1 n := by
  unfold burnD
  cases D.fuse == -1 with
  | true => exact h
  | false => cases D.fuse == 0 <;> exact h
theorem SmallD.sync {D : DkD} {n : Nat} (h : SmallD D n) : SmallD (syncD D).1 n := by
  unfold syncD
  cases D.dead with
  | true => exact h
  | false =>
    cases (burnD D).2 == 0 with
    | true => exact h.burn.settle _
    | false => exact h.burn
theorem SmallD.append {D : DkD} {n : Nat} (h : SmallD D n) (log : Int) (b : List UInt8) : SmallD (appendD D log b).1 (n + 2 * b.length) := by
  unfold appendD
  cases !mayD log with
  | true => exact h.mono (Nat.le_add_right _ _)
  | false =>
    cases D.dead with
    | true => exact h.mono (Nat.le_add_right _ _)
    | false =>
      cases decide (16777216 < (rowD D.X (16 + log.toNat)).length + b.length) with
      | true => exact h.mono (Nat.le_add_right _ _)
      | false => exact (h.wait (.put log.toNat b)).burn
theorem SmallD.cut {D : DkD} {n : Nat} (h : SmallD D n) (log m : Int) : SmallD (cutD D log m).1 n := by
  unfold cutD
  cases !(mayD log && (decide (0 ≤ m) && decide (m ≤ ((rowD D.X (16 + log.toNat)).length : Int)))) with
  | true => exact h
  | false =>
    cases D.dead with
    | true => exact h
    | false => exact (h.wait (.cut log.toNat m.toNat)).burn
theorem SmallD.stl {D : DkD} {n : Nat} (h : SmallD D n) (e : Int) : SmallD (stlD D e).1 n := by
  unfold stlD
  split
  · exact h.sync
  · exact h
theorem SmallD.fuse {D : DkD} {n : Nat} (h : SmallD D n) (m : Int) : SmallD (fuseD D m).1 n := by
  unfold fuseD
  cases decide (m < 0) <;> exact h
theorem rowD_len_up {X : List (List UInt8)} {n : Nat} (h : ∀ k, (rowD X k).length ≤ n) : ∀ k, (rowD (X.take 16 ++ X.take 16) k).length ≤ n := by
  intro k
  have hr : ∀ j, ((X.take 16).getD j []).length ≤ n := fun j => by
    rw [List.getD_eq_getElem?_getD, List.getElem?_take]
    split
    · have := h j; unfold rowD at this; rw [List.getD_eq_getElem?_getD] at this; exact this
    · exact Nat.zero_le _
  unfold rowD
  rw [List.getD_eq_getElem?_getD]
  by_cases hk : k < (X.take 16).length
  · rw [List.getElem?_append_left hk, ← List.getD_eq_getElem?_getD]; exact hr k
  · rw [List.getElem?_append_right (by omega), ← List.getD_eq_getElem?_getD]; exact hr _
theorem SmallD.torn {D : DkD} {n : Nat} (h : SmallD D n) (m : Int) : ∀ k, (rowD (tornD D m).X k).length ≤ n := by
  intro k
  unfold tornD
  cases hW : D.W with
  | nil => exact h.row k
  | cons s r =>
    have hs : ∀ j, (rowD D.X j).length + stLn s ≤ n := fun j => by have := h j; rw [hW, stsLn_cons] at this; omega
    cases s with
    | cut i q => exact h.row k
    | put i b =>
      show (rowD (D.X.set i (rowD D.X i ++ b.take (m % ((b.length : Int) + 1)).toNat)) k).length ≤ n
      by_cases hi : i < D.X.length
      · rw [rowD_set hi]
        split
        · rw [List.length_append, List.length_take]; have h3 : (rowD D.X i).length + b.length ≤ n := hs i; omega
        · exact h.row k
      · rw [List.set_eq_of_length_le (by omega)]; exact h.row k
theorem SmallD.crash {D : DkD} {n : Nat} (h : SmallD D n) (keep tear : Int) : SmallD (crashD D keep tear) n := by
  intro k
  exact rowD_len_up ((h.settle (keep % ((D.W.length : Int) + 1)).toNat).torn tear) k
theorem SmallD.flip {D : DkD} {n : Nat} (h : SmallD D n) (i k : Nat) (x : UInt8) : SmallD (flipD D i k x) n := by
  have one : ∀ (X : List (List UInt8)) (p : Nat) (l : List UInt8) (r : Nat), (∀ j, (rowD X j).length + r ≤ n) → l.length + r ≤ n → ∀ j, (rowD (X.set p l) j).length + r ≤ n := by
    intro X p l r hX hl j
    by_cases hp : p < X.length
    · rw [rowD_set hp]; split
      · exact hl
      · exact hX j
    · rw [List.set_eq_of_length_le (by omega)]; exact hX j
  have h1 := one D.X i (xorAt (rowD D.X i) k x) (stsLn D.W) h (by rw [xorAt_len]; exact h i)
  intro j
  exact one _ (16 + i) (xorAt (rowD D.X (16 + i)) k x) (stsLn D.W) h1 (by rw [xorAt_len]; exact h _) j
theorem SmallD.edit {D : DkD} {n : Nat} (h : SmallD D n) (log k : Int) (x : UInt8) : SmallD (editD D log k x).1 n := by
  unfold editD
  cases !(mayD log && (decide (0 ≤ k) && decide (k < ((rowD D.X (16 + log.toNat)).length : Int)))) with
  | true => exact h
  | false => exact (h.settle _).flip _ _ _
theorem SmallD.new (n : Nat) : SmallD newD n := by
  intro k
  have h : rowD newD.X k = [] := by unfold rowD newD; rw [List.getD_eq_getElem?_getD, List.getElem?_replicate]; split <;> rfl
  rw [h]; exact Nat.zero_le _
theorem SmallD.open_ {D : DkD} {n : Nat} (h : SmallD D n) (log : Int) : SmallD (openD D log).1 n := by
  unfold openD
  split
  · split
    · exact (h.cut _ _).stl _
    · exact h
  · exact h
/-- What Empty leaves. -/
def emptyW (D : DkD) (L : LgD) : DkD × LgD × Int :=
  if L.dead = true then (D, L, 20) else
  if (stlD (cutD D L.log 0).1 (cutD D L.log 0).2).2 = 0 then ((stlD (cutD D L.log 0).1 (cutD D L.log 0).2).1, ⟨L.log, [], 0, false⟩, 0)
  else ((stlD (cutD D L.log 0).1 (cutD D L.log 0).2).1, ⟨L.log, L.all, L.size, true⟩, 19)
end Go.Proofs.YthamlphebnhcpaaDoor

namespace Go.Proofs.YthamlphebnhcpaaDoor
open Go.RowKit

theorem rmodulo_any (w : World) (n m : Int) (h0 : 0 < m) (hm : m ≤ 4611686018427387904) : Calls Tryd.prog 54 #[.int .i64 n, .int .i64 m] w fun e w' => e = .returned (.int .i64 (n % m)) ∧ w' = w := by
  obtain ⟨r, hr⟩ : ∃ r, n.tmod m = r := ⟨_, rfl⟩
  have hn : m ≠ 0 := by omega
  have hb : -m < r ∧ r < m := by
    rw [← hr]
    have h1 := Int.tmod_lt_of_pos n h0
    have h2 := Int.lt_tmod_of_pos n h0
    exact ⟨h2, h1⟩
  have hw : IntKind.i64.wrap (n.tmod m) = r := by rw [hr, IntKind.wrap_i64]; omega
  have he : n % m = if r < 0 then r + m else r := by
    have h1 : n = m * n.tdiv m + r := by rw [← hr]; exact (Int.mul_tdiv_add_tmod n m).symm
    have h2 : n % m = r % m := by
      conv => lhs; rw [h1]
      rw [Int.add_comm, Int.add_mul_emod_self_left]
    rw [h2]
    split
    · rw [← Int.add_emod_right, Int.emod_eq_of_lt (by omega) (by omega)]
    · exact Int.emod_eq_of_lt (by omega) (by omega)
  rw [he]
  clear he
  by_cases hz : r < 0
  · rw [if_pos hz]
    have hw2 : IntKind.i64.wrap (r + m) = r + m := by rw [IntKind.wrap_i64]; omega
    go_enter Tryd.func54, Tryd.ntmps54
    go_wp2
    go_ret
    exact ⟨rfl, rfl⟩
  · rw [if_neg hz]
    go_enter Tryd.func54, Tryd.ntmps54
    go_wp2
    go_ret
    exact ⟨rfl, rfl⟩
theorem okW_le {X : List (List UInt8)} {W : List StD} (h : okW X W) (hm : ∀ k, (rowD X k).length ≤ 16777216) (hn : X.length = 16) (k : Nat) : ∀ j, (rowD (doAll 0 X (W.take k)) j).length ≤ 16777216 := by
  have h1 : okW X (W.take k ++ W.drop k) := by rw [List.take_append_drop]; exact h
  exact doAll_leR (okW_app.1 h1).1 hm hn
/-- The rows are others. -/
theorem RfTo.rows_ {w w2 w3 : World} {g : Nat} {m : RfM} {rows : List RowM} (h : RfOk w g m) (v : Below w.heap.size w w2) (n : rows.length = 16) (o : ∀ r ∈ rows, r.own w2) (a : ∀ r ∈ rows, r ∈ m.rows ∨ ∀ j, r.bk = some j → w.heap.size ≤ j)
    (b3 : Blk w3 g 57 (rfC { m with rows := rows }).toArray) (k3 : Keeps (fun j => j = g) w2 w3) : RfTo w g m w3 { m with rows := rows } := by
  have ho2 : RfOk w2 g m := h.below v
  have hk : Keeps (footR g m) w w3 := (Keeps.of_below v _).trans (k3.mono (fun j _ h => .inl h))
  refine ⟨⟨b3, n, fun r hr => RowM.keep (o r hr) k3 (fun j e he => ho2.off (o r hr) e (.inl he)), own_keep ho2.ww k3 (fun j e he => ?_), fun p hp => ⟨(h.p p hp).1, (h.p p hp).2.1, RowM.keep (ho2.p p hp).2.2 k3 (fun j e he => ho2.off (ho2.p p hp).2.2 e (.inl he))⟩⟩, fun j hj => .inl hj, fun j hj => ?_, hk⟩
  · subst he
    exact ho2.b.notOwn ho2.ww (by decide) e.symm
  · rcases hj with h1 | ⟨r, hr | ⟨p, hp, hpr⟩, hb⟩
    · exact .inl (.inl h1)
    · rcases a r hr with h1 | h1
      · exact .inl (.inr ⟨r, .inl h1, hb⟩)
      · exact .inr (h1 j hb)
    · exact .inl (.inr ⟨r, .inr ⟨p, hp, hpr⟩, hb⟩)
theorem rfC_up {m : RfM} (n : m.rows.length = 16) : (((rfC m).toArray.setIfInBounds 16 (.slice none 0 0)).setIfInBounds 17 (.int .i64 (-1))).setIfInBounds 18 (.bool false) = (rfC { m with A := none, c := 0, W := [], fuse := -1, dead := false }).toArray := by
  have h : (rowsC m.rows).length = 16 := by rw [rowsC_len, n]
  simp only [rfC, List.setIfInBounds_toArray]
  rw [List.set_append_right _ _ (by omega), List.set_append_right _ _ (by omega), List.set_append_right _ _ (by omega), h]; rfl
/-- No step waits, no fuse. -/
theorem RfTo.up {w : World} {g : Nat} {m : RfM} (h : RfOk w g m) : RfTo w g m (((w.setCell ⟨g, 16, none⟩ (.slice none 0 0)).setCell ⟨g, 17, none⟩ (.int .i64 (-1))).setCell ⟨g, 18, none⟩ (.bool false)) { m with A := none, c := 0, W := [], fuse := -1, dead := false } := by
  have k : Keeps (fun j => j = g) w (((w.setCell ⟨g, 16, none⟩ (.slice none 0 0)).setCell ⟨g, 17, none⟩ (.int .i64 (-1))).setCell ⟨g, 18, none⟩ (.bool false)) :=
    Keeps.setCell (S := fun j => j = g) (p := ⟨g, 18, none⟩) (Keeps.setCell (S := fun j => j = g) (p := ⟨g, 17, none⟩) (Keeps.setCell (S := fun j => j = g) (p := ⟨g, 16, none⟩) (Keeps.refl _ _) rfl _) rfl _) rfl _
  have b := ((h.b.set 16 (.slice none 0 0)).set 17 (.int .i64 (-1))).set 18 (.bool false)
  rw [rfC_up h.n] at b
  refine ⟨⟨b, h.n, fun r hr => RowM.keep (h.o r hr) k (fun j e he => h.off (h.o r hr) e (.inl he)), World.ownsRow_nil _ _ _ _, fun p hp => by cases hp⟩, fun j hj => ?_, fun j hj => ?_, k.mono (fun j _ h => .inl h)⟩
  · rcases hj with h1 | h1
    · exact .inl (.inl h1)
    · cases h1
  · rcases hj with (h1 | h1) | ⟨r, hr | ⟨p, hp, _⟩, hb⟩
    · exact .inl (.inl (.inl h1))
    · cases h1
    · exact .inl (.inr ⟨r, .inl hr, hb⟩)
    · cases hp
theorem rowD_take {X : List (List UInt8)} {i : Nat} (hi : i < 16) (hn : 16 ≤ X.length) : rowD (X.take 16 ++ X.take 16) i = rowD X i := by
  unfold rowD
  rw [List.getD_eq_getElem?_getD, List.getD_eq_getElem?_getD, List.getElem?_append_left (by rw [List.length_take]; omega), List.getElem?_take_of_lt hi]
/-- The logs behind a loss of power. -/
def crashR (X : List (List UInt8)) (W : List StD) (k : Nat) (tear : Int) : List (List UInt8) := match W.drop k with
  | [] => doAll 0 X (W.take k)
  | s :: _ => tornS (doAll 0 X (W.take k)) tear s
theorem RelR.crash {D : DkD} {m : RfM} (h : RelR D m) (wf : DkWf D) (n : m.rows.length = 16) {keep tear : Int} {k : Nat} (hk : (keep % ((D.W.length : Int) + 1)).toNat = k) {rows : List RowM} (hr : rows.map (·.l) = crashR (dataR m) (m.W.map PutR.d) k tear) :
    RelR (crashD D keep tear) { m with rows := rows, A := none, c := 0, W := [], fuse := -1, dead := false } := by
  refine ⟨fun i hi => ?_, rfl, rfl, rfl⟩
  show rowD (crashD D keep tear).X i = rowD (rows.map (·.l)) i
  have hw : okW D.X (D.W.take k ++ D.W.drop k) := by rw [List.take_append_drop]; exact wf.w
  have hX : ∀ i, i < 16 → rowD (doAll 0 D.X (D.W.take k)) i = rowD (doAll 0 (dataR m) ((m.W.map PutR.d).take k)) i := by
    rw [← h.w]
    exact (okW_sameR (X := D.X) (Y := dataR m) (by rw [wf.n]; omega) (by rw [dataR_len n]; omega) (okW_app.1 hw).1 h.x).2
  have hl1 : (doAll 0 D.X (D.W.take k)).length = 32 := by rw [doAll_len, wf.n]
  have hl2 : (doAll 0 (dataR m) ((m.W.map PutR.d).take k)).length = 16 := by rw [doAll_len, dataR_len n]
  have h2 := (okW_app.1 hw).2
  have hc : (crashD D keep tear).X = (tornD (settleD k D) tear).X.take 16 ++ (tornD (settleD k D) tear).X.take 16 := by rw [← hk]; rfl
  have hd : (m.W.map PutR.d).drop k = D.W.drop k := by rw [h.w]
  rw [hc, hr]
  unfold crashR tornD
  rw [hd]
  have e1 : (settleD k D).W = D.W.drop k := rfl
  rw [e1]
  cases hs : D.W.drop k with
  | nil => exact (rowD_take hi (by show 16 ≤ (doAll 0 D.X (D.W.take k)).length; omega)).trans (hX i hi)
  | cons s r =>
    rw [hs] at h2
    cases s with
    | cut j q => exact (rowD_take hi (by show 16 ≤ (doAll 0 D.X (D.W.take k)).length; omega)).trans (hX i hi)
    | put j b =>
      have hj : j < 16 := h2.1.1
      refine (rowD_take hi (by show 16 ≤ (List.set _ _ _).length; rw [List.length_set]; show 16 ≤ (doAll 0 D.X (D.W.take k)).length; omega)).trans ?_
      show rowD ((doAll 0 D.X (D.W.take k)).set j _) i = rowD (List.set _ j _) i
      have e9 : rowD (settleD k D).X j = rowD (doAll 0 D.X (D.W.take k)) j := rfl
      rw [rowD_set (by omega), rowD_set (by omega), e9, hX j hj, hX i hi]
/-- On the way. -/
structure CrAtR (w : World) (g : Nat) (m : RfM) (wr : World) (k : Nat) (rows : List RowM) : Prop where
  ta : RfTo w g m wr { m with rows := rows }
  l : rows.map (·.l) = doAll 0 (dataR m) ((m.W.map PutR.d).take k)
def RCrPost (w : World) (g : Nat) (m : RfM) (D : DkD) (e : Ending) (w' : World) : Prop := e = .returned (.tuple #[]) ∧ ∃ m', RfTo w g m w' m' ∧ RelR D m'
theorem putC_oneA (p : PutR) : ∀ v ∈ (putC p).toArray.toList, v.oneCell' = true := fun v hv => putC_one p v hv

set_option maxHeartbeats 8000000 in
set_option maxRecDepth 100000 in
theorem rcrash_any (w : World) (g : Nat) (m : RfM) (D : DkD) (h : RfOk w g m) (hD : RelR D m) (wf : DkWf D) (hW : m.W.length ≤ 1000) (keep tear : Int) : Calls Tryd.prog 33 #[ptrD g, .int .i64 keep, .int .i64 tear] w (RCrPost w g m (crashD D keep tear)) := by
  have H := Lib.hid h
  have HDD := Lib.hid hD
  have HWf := Lib.hid wf
  have HWl := Lib.hid hW
  have HDl : Hid (D.W.length = m.W.length) := by show _ = _; rw [hD.w, List.length_map]
  have HOk := Lib.hid (hD.ok wf h.n).1
  have HLe := Lib.hid (hD.le wf h.n)
  have c16 : w.cell? ⟨g, 16, none⟩ = some (.slice m.A m.W.length m.c) := h.cW
  have hwl : IntKind.i64.wrap ((m.W.length : Int) + 1) = (m.W.length : Int) + 1 := by rw [IntKind.wrap_i64]; omega
  obtain ⟨k, hk⟩ : ∃ k : Nat, keep % ((m.W.length : Int) + 1) = (k : Int) := ⟨(keep % ((m.W.length : Int) + 1)).toNat, by have := Int.emod_nonneg keep (show (m.W.length : Int) + 1 ≠ 0 by omega); omega⟩
  have hk2 : k ≤ m.W.length := by have := Int.emod_lt_of_pos keep (show 0 < (m.W.length : Int) + 1 by omega); omega
  have HKk : Hid ((keep % ((D.W.length : Int) + 1)).toNat = k) := by show _ = _; rw [HDl.out, hk]; rfl
  have HK2 := Lib.hid hk2
  have HMo := Lib.hid (fun W => rmodulo_any W keep ((m.W.length : Int) + 1) (by omega) (by omega))
  rw [hk] at HMo
  clear h hD wf hW hk
  unfold ptrD
  go_enter Tryd.func33, Tryd.ntmps33
  go_wp2_with (first
    | (go_at_call 54; refine (HMo.out _).mono ?_; rintro e w1 ⟨rfl, hw1⟩; obtain rfl := hw1.symm))
  clear c16 HMo hwl
  go_loopw [7] (fun iv wr => ∃ (j : Nat) (rows : List RowM), j ≤ k ∧ iv = .int .i64 j ∧ Hid (CrAtR w g m wr j rows)) (fun iv _ => k - (intOf iv).toNat)
  case atStart => exact ⟨0, m.rows, Nat.zero_le _, rfl, ⟨RfTo.refl H.out, rfl⟩⟩
  case round =>
    obtain ⟨j, rows, hj, rfl, CA⟩ := hrel
    have HR : Hid (RfOk wr g { m with rows := rows }) := CA.out.ta.ok
    have NR : Hid (rows.length = 16) := HR.out.n
    have c16 : wr.cell? ⟨g, 16, none⟩ = some (.slice m.A m.W.length m.c) := HR.out.cW
    have hl1000 : m.W.length ≤ 1000 := HWl.out
    have hkk : k ≤ m.W.length := HK2.out
    have HLr : Hid (∀ (rows2 : List RowM), rows2.length = 16 → rows2.map (·.l) = rows.map (·.l) → ∀ r ∈ rows2, r.l.length ≤ 16777216) := fun rows2 hn2 he r hr => by
      obtain ⟨i, hi, rfl⟩ := List.getElem_of_mem hr
      have h3 := okW_le HOk.out HLe.out (dataR_len H.out.n) j i
      rw [← CA.out.l, ← he] at h3
      unfold rowD at h3
      rw [List.getD_eq_getElem?_getD, List.getElem?_map, List.getElem?_eq_getElem hi] at h3
      exact h3
    have HRr : Hid (wr.rangeAt g 0 (rowsC rows)) := HR.out.rows
    have HGl : Hid (g < wr.heap.size) := HR.out.b.lt
    have hdr : Keeps (fun _ => False) wr wr.drew := (Keeps.refl _ wr).drew
    by_cases hlt : j < k
    · have hin : (j : Int) < (k : Int) := by omega
      have hwk : IntKind.i64.wrap ((j : Int) + 1) = (j : Int) + 1 := by rw [IntKind.wrap_i64]; omega
      have hjm : j < m.W.length := by omega
      have hjl : (j : Int) < (m.W.length : Int) := by omega
      obtain ⟨pb, poff, hA, hpb, hpr⟩ := HR.out.put (by show 0 < m.W.length; omega)
      obtain ⟨p, hp⟩ : ∃ p, m.W[j] = p := ⟨_, rfl⟩
      have hc : wr.rangeAt pb (poff + j * 4) (putC p) := by rw [← hp]; exact hpr j hjm
      have HP : Hid (p.log < 16 ∧ (p.cut = true → 0 ≤ p.n) ∧ p.row.own wr) := HR.out.p p (by rw [← hp]; exact List.getElem_mem hjm)
      have HPe := Lib.hid hp
      have HPd : Hid (okS (rows.map (·.l)) p.d) := by
        have h1 := okW_at HOk.out j (show j < (m.W.map PutR.d).length by simpa using hjm)
        rw [List.getElem_map, hp] at h1
        show okS _ _
        rw [CA.out.l]; exact h1
      have HPb2 : Hid (p.cut = false → p.b.length ≤ 50000000) := fun hc => by
        have h1 := HPd.out
        unfold PutR.d at h1
        rw [hc] at h1
        have h2 : _ ≤ _ := h1.2
        omega
      have HOs := HPd
      have HPk : Hid ((m.W.map PutR.d).take (j + 1) = (m.W.map PutR.d).take j ++ [p.d]) := by
        show _ = _
        rw [List.take_add_one, List.getElem?_map, List.getElem?_eq_getElem hjm, hp]; rfl
      have HC := Lib.hid hc
      have HPbl := Lib.hid hpb
      have hA2 : m.A = some ⟨pb, poff, none⟩ := hA
      rw [hA2] at c16
      clear hpr hc hp hpb hA
      have HSk : Hid ((Tryd.prog.info? 50).map (·.size) = some (rowsC rows).length) := by show _ = _; rw [rowsC_len, NR.out]; exact Tryd.rowsSize
      have HPs : Hid ((Tryd.prog.info? 97).map (·.size) = some (putC p).length) := Tryd.putSize
      go_upto_region 4 with fail
      refine wp_region_K (fun W => W.rangeAt g 0 (rowsC rows) ∧ W.cell? ⟨g, 16, none⟩ = some (.slice (some ⟨pb, poff, none⟩) m.W.length m.c) ∧ W.rangeAt pb (poff + j * 4) (putC p)) 15 (by kernel_rfl) ⟨HRr.out, c16, HC.out⟩ (fun hSn => ?_)
      refine wpAnyK_pure (i := 0) (oi := ⟨_, _, _, _, _, _⟩) (v := ?_) rfl (by kernel_rfl) (by kernel_rfl) (by kernel_rfl) rfl (fun _ _ _ h => h) (Or.inl ⟨by rfl, ?_⟩) hSn ?_
      rotate_left 1
      · intro W hSw
        go_simp
        try with_reducible rfl
      replace hSn := (KT.set (i := 0) (by decide)).2 hSn
      try simp only [Act.put, List.setIfInBounds_toArray, List.set_cons_zero, List.set_cons_succ]
      refine wpAnyK_pure (i := 1) (oi := ⟨_, _, _, _, _, _⟩) (v := ?_) rfl (by kernel_rfl) (by kernel_rfl) (by kernel_rfl) rfl (fun _ _ _ h => h) (Or.inl ⟨by rfl, ?_⟩) hSn ?_
      rotate_left 1
      · intro W hSw
        go_simp
        try with_reducible rfl
      replace hSn := (KT.set (i := 1) (by decide)).2 hSn
      try simp only [Act.put, List.setIfInBounds_toArray, List.set_cons_zero, List.set_cons_succ]
      refine wpAnyK_pure (i := 2) (oi := ⟨_, _, _, _, _, _⟩) (v := ?_) rfl (by kernel_rfl) (by kernel_rfl) (by kernel_rfl) rfl (fun _ _ _ h => h) (Or.inl ⟨by rfl, ?_⟩) hSn ?_
      rotate_left 1
      · intro W hSw
        go_simp
        try with_reducible rfl
      replace hSn := (KT.set (i := 2) (by decide)).2 hSn
      try simp only [Act.put, List.setIfInBounds_toArray, List.set_cons_zero, List.set_cons_succ]
      refine wpAnyK_pure (i := 3) (oi := ⟨_, _, _, _, _, _⟩) (v := ?_) rfl (by kernel_rfl) (by kernel_rfl) (by kernel_rfl) rfl (fun _ _ _ h => h) (Or.inl ⟨by rfl, ?_⟩) hSn ?_
      rotate_left 1
      · intro W hSw
        go_simp
        try with_reducible rfl
      replace hSn := (KT.set (i := 3) (by decide)).2 hSn
      try simp only [Act.put, List.setIfInBounds_toArray, List.set_cons_zero, List.set_cons_succ]
      refine wpAnyK_chain (i := 4) [15] (oi := ⟨_, _, _, _, _, _⟩) (v := .agg (rowsC rows).toArray) rfl (by kernel_rfl) (by kernel_rfl) (by kernel_rfl) rfl (by kernel_rfl) (by kernel_rfl) (by kernel_rfl) (fun _ _ _ h => h) (yieldsIf_load_mid (by rfl) 50 (.tmp 25) rfl g 0 rfl (rowsC rows) _ (fun W h => h.1) Tryd.underlying50 rfl HSk.out) hSn ?_
      replace hSn := (KT.set (i := 4) (by decide)).2 hSn
      try simp only [Act.put, List.setIfInBounds_toArray, List.set_cons_zero, List.set_cons_succ]
      refine wpAnyK_pure (i := 5) (oi := ⟨_, _, _, _, _, _⟩) (v := ?_) rfl (by kernel_rfl) (by kernel_rfl) (by kernel_rfl) rfl (fun _ _ _ h => h) (Or.inl ⟨by rfl, ?_⟩) hSn ?_
      rotate_left 1
      · intro W hSw
        go_simp
        try with_reducible rfl
      replace hSn := (KT.set (i := 5) (by decide)).2 hSn
      try simp only [Act.put, List.setIfInBounds_toArray, List.set_cons_zero, List.set_cons_succ]
      refine wpAnyK_pure (i := 6) (oi := ⟨_, _, _, _, _, _⟩) (v := ?_) rfl (by kernel_rfl) (by kernel_rfl) (by kernel_rfl) rfl (fun _ _ _ h => h) (Or.inl ⟨by rfl, ?_⟩) hSn ?_
      rotate_left 1
      · intro W hSw
        go_simp
        try with_reducible rfl
      replace hSn := (KT.set (i := 6) (by decide)).2 hSn
      try simp only [Act.put, List.setIfInBounds_toArray, List.set_cons_zero, List.set_cons_succ]
      refine wpAnyK_pure (i := 7) (oi := ⟨_, _, _, _, _, _⟩) (v := ?_) rfl (by kernel_rfl) (by kernel_rfl) (by kernel_rfl) rfl (fun _ _ _ h => h) (Or.inl ⟨by rfl, ?_⟩) hSn ?_
      rotate_left 1
      · intro W hSw
        go_simp
        try with_reducible rfl
      replace hSn := (KT.set (i := 7) (by decide)).2 hSn
      try simp only [Act.put, List.setIfInBounds_toArray, List.set_cons_zero, List.set_cons_succ]
      refine wpAnyK_chain (i := 8) [15] (oi := ⟨_, _, _, _, _, _⟩) (v := ?_) rfl (by kernel_rfl) (by kernel_rfl) (by kernel_rfl) rfl (by kernel_rfl) (by kernel_rfl) (by kernel_rfl) (fun _ _ _ h => h) (Or.inl ⟨by rfl, ?_⟩) hSn ?_
      rotate_left 1
      · intro W hSw
        try dsimp only at hSw
        obtain ⟨hs1, hs2, hs3⟩ := hSw
        go_simp
        try with_reducible rfl
      replace hSn := (KT.set (i := 8) (by decide)).2 hSn
      try simp only [Act.put, List.setIfInBounds_toArray, List.set_cons_zero, List.set_cons_succ]
      refine wpAnyK_pure (i := 9) (oi := ⟨_, _, _, _, _, _⟩) (v := ?_) rfl (by kernel_rfl) (by kernel_rfl) (by kernel_rfl) rfl (fun _ _ _ h => h) (Or.inl ⟨by rfl, ?_⟩) hSn ?_
      rotate_left 1
      · intro W hSw
        go_simp
        try with_reducible rfl
      replace hSn := (KT.set (i := 9) (by decide)).2 hSn
      try simp only [Act.put, List.setIfInBounds_toArray, List.set_cons_zero, List.set_cons_succ]
      refine wpAnyK_pure (i := 10) (oi := ⟨_, _, _, _, _, _⟩) (v := ?_) rfl (by kernel_rfl) (by kernel_rfl) (by kernel_rfl) rfl (fun _ _ _ h => h) (Or.inl ⟨by rfl, ?_⟩) hSn ?_
      rotate_left 1
      · intro W hSw
        go_simp
        try with_reducible rfl
      replace hSn := (KT.set (i := 10) (by decide)).2 hSn
      try simp only [Act.put, List.setIfInBounds_toArray, List.set_cons_zero, List.set_cons_succ]
      refine wpAnyK_chain (i := 11) [15] (oi := ⟨_, _, _, _, _, _⟩) (v := .agg (putC p).toArray) rfl (by kernel_rfl) (by kernel_rfl) (by kernel_rfl) rfl (by kernel_rfl) (by kernel_rfl) (by kernel_rfl) (fun _ _ _ h => h) (yieldsIf_load_mid (by rfl) 97 (.tmp 32) rfl pb (poff + j * 4) rfl (putC p) _ (fun W h => h.2.2) Tryd.underlying97 rfl HPs.out) hSn ?_
      replace hSn := (KT.set (i := 11) (by decide)).2 hSn
      try simp only [Act.put, List.setIfInBounds_toArray, List.set_cons_zero, List.set_cons_succ]
      clear hSn
      refine wpAnyK_ready (rs := [12]) (by kernel_rfl) (by simp) ?_
      refine AllReadyK.cons rfl (fun K hK => ?_) AllReadyK.nil
      go_simp
      go_at_call 55
      refine (done_any wr.drew rows p NR.out HP.out.1 (fun r hr => RowM.keep (HR.out.o r hr) hdr (fun _ _ h => h)) (RowM.keep HP.out.2.2 hdr (fun _ _ h => h)) HP.out.2.1 (HLr.out rows NR.out rfl) HPb2.out).mono ?_
      rintro e w5 ⟨r, rfl, hD⟩
      have D5 := Lib.hid hD
      clear hD
      have V5 : Hid (Below wr.heap.size wr w5) := ⟨D5.out.v.os, D5.out.v.tape, D5.out.v.output, D5.out.v.size, D5.out.v.block⟩
      have hg5 := HGl.out
      have B5 : Hid (Blk w5 g 57 (rfC { m with rows := rows }).toArray) := HR.out.b.below V5.out HGl.out
      have hS5 : w5.rangeAt g 0 (rowsC rows) ∧ w5.cell? ⟨g, 16, none⟩ = some (.slice (some ⟨pb, poff, none⟩) m.W.length m.c) ∧ w5.rangeAt pb (poff + j * 4) (putC p) := ⟨rngL HRr.out V5.out HGl.out, (V5.out.cell (p := ⟨g, 16, none⟩) hg5).trans c16, rngL HC.out V5.out HPbl.out⟩
      refine hK.out _ _ (fun _ => hS5) (fun hSn => ?_)
      clear hK K
      try simp only [Act.put, List.setIfInBounds_toArray, List.set_cons_zero, List.set_cons_succ]
      refine wpAnyK_pure (i := 13) (oi := ⟨_, _, _, _, _, _⟩) (v := ?_) rfl (by kernel_rfl) (by kernel_rfl) (by kernel_rfl) rfl (fun _ _ _ h => h) (Or.inl ⟨by rfl, ?_⟩) hSn ?_
      rotate_left 1
      · intro W hSw
        go_simp
        try with_reducible rfl
      replace hSn := (KT.set (i := 13) (by decide)).2 hSn
      try simp only [Act.put, List.setIfInBounds_toArray, List.set_cons_zero, List.set_cons_succ]
      refine wpAnyK_pure (i := 14) (oi := ⟨_, _, _, _, _, _⟩) (v := ?_) rfl (by kernel_rfl) (by kernel_rfl) (by kernel_rfl) rfl (fun _ _ _ h => h) (Or.inl ⟨by rfl, ?_⟩) hSn ?_
      rotate_left 1
      · intro W hSw
        go_simp
        try with_reducible rfl
      replace hSn := (KT.set (i := 14) (by decide)).2 hSn
      try simp only [Act.put, List.setIfInBounds_toArray, List.set_cons_zero, List.set_cons_succ]
      clear hSn
      refine wpAnyK_ready (rs := [15]) (by kernel_rfl) (by simp) ?_
      refine AllReadyK.cons rfl (fun K hK => ?_) AllReadyK.nil
      refine step_store_partD (o := ⟨none, _, _, _, _, _⟩) rfl 50 (.tmp 36) (.tmp 34) rfl g 0 57 (rfC { m with rows := rows }).toArray (rowsC (rows.set p.log r)).toArray (rfC { m with rows := rows.set p.log r }).toArray (.agg (rowsC (rows.set p.log r)).toArray) rfl rfl rfl B5.out (by rw [List.size_toArray, List.size_toArray, rowsC_len, List.length_set, NR.out, rfC_len (m := { m with rows := rows }) NR.out]; omega) (by rw [List.size_toArray, rowsC_len, List.length_set, NR.out]; exact Tryd.rowsSize) (rowsC_one _) (rfC_rows (m := { m with rows := rows }) NR.out (by rw [List.length_set]; exact NR.out)) ?_
      intro w6 h5 h6 h7
      have B6 := Lib.hid h5
      have K6 := Lib.hid h6
      clear h5 h6 h7
      refine hK.out _ _ (fun h => absurd h (by decide +kernel)) (fun hSn => ?_)
      clear hK K
      try simp only [Act.put, List.setIfInBounds_toArray, List.set_cons_zero, List.set_cons_succ]
      refine wpAnyK_done (by kernel_rfl) ?_ _
      have CA1 : Hid (CrAtR w g m w6 (j + 1) (rows.set p.log r)) := by
        refine ⟨CA.out.ta.trans (RfTo.rows_ (m := { m with rows := rows }) HR.out V5.out (by rw [List.length_set]; exact NR.out) (fun r2 hr2 => ?_) (fun r2 hr2 => ?_) B6.out K6.out), ?_⟩
        · rcases List.mem_or_eq_of_mem_set hr2 with h1 | rfl
          · exact RowM.keep (HR.out.o r2 h1) (Keeps.of_below V5.out (fun _ => False)) (fun _ _ h => h)
          · exact D5.out.o
        · rcases List.mem_or_eq_of_mem_set hr2 with h1 | rfl
          · exact .inl h1
          · exact .inr D5.out.n
        · rw [done_data D5.out (by rw [NR.out]; exact HP.out.1), CA.out.l, HPk.out, doAll_app]; rfl
      go_wp2
      go_roundw
      case rel => exact ⟨j + 1, by omega, by go_num, rows.set p.log r, CA1⟩
      case measure => simp [intOf] <;> omega
    · obtain rfl : j = k := by omega
      have hin : ¬ (j : Int) < (j : Int) := by omega
      have c17 : wr.cell? ⟨g, 17, none⟩ = some (.int .i64 m.fuse) := HR.out.cF
      have c18 : wr.cell? ⟨g, 18, none⟩ = some (.bool m.dead) := HR.out.cD
      have f16 : wr.frozen? ⟨g, 16, none⟩ = false := HR.out.b.frozen _
      have f17 : wr.frozen? ⟨g, 17, none⟩ = false := HR.out.b.frozen _
      have f18 : wr.frozen? ⟨g, 18, none⟩ = false := HR.out.b.frozen _
      have HFin : Hid (∀ (w9 : World) (rows9 : List RowM), RfTo w g m w9 { m with rows := rows9 } → rows9.map (·.l) = crashR (dataR m) (m.W.map PutR.d) j tear →
          RCrPost w g m (crashD D keep tear) (.returned (.tuple #[])) (((w9.setCell ⟨g, 16, none⟩ (.slice none 0 0)).setCell ⟨g, 17, none⟩ (.int .i64 (-1))).setCell ⟨g, 18, none⟩ (.bool false))) := fun w9 rows9 t9 e9 =>
        ⟨rfl, _, t9.trans (RfTo.up t9.ok), RelR.crash HDD.out HWf.out H.out.n HKk.out e9⟩
      by_cases hjm : j < m.W.length
      · have hjl : (j : Int) < (m.W.length : Int) := by omega
        have hjd : decide ((j : Int) < (m.W.length : Int)) = true := decide_eq_true hjl
        obtain ⟨pb, poff, hA, hpb, hpr⟩ := HR.out.put (by show 0 < m.W.length; omega)
        obtain ⟨p, hp⟩ : ∃ p, m.W[j] = p := ⟨_, rfl⟩
        have hc : wr.rangeAt pb (poff + j * 4) (putC p) := by rw [← hp]; exact hpr j hjm
        have HP : Hid (p.log < 16 ∧ (p.cut = true → 0 ≤ p.n) ∧ p.row.own wr) := HR.out.p p (by rw [← hp]; exact List.getElem_mem hjm)
        have HPe := Lib.hid hp
        have HPd : Hid (okS (rows.map (·.l)) p.d) := by
          have h1 := okW_at HOk.out j (show j < (m.W.map PutR.d).length by simpa using hjm)
          rw [List.getElem_map, hp] at h1
          show okS _ _
          rw [CA.out.l]; exact h1
        have HPb2 : Hid (p.cut = false → p.b.length ≤ 50000000) := fun hc => by
          have h1 := HPd.out
          unfold PutR.d at h1
          rw [hc] at h1
          have h2 : _ ≤ _ := h1.2
          omega
        have HOs := HPd
        have HPk : Hid ((m.W.map PutR.d).take (j + 1) = (m.W.map PutR.d).take j ++ [p.d]) := by
          show _ = _
          rw [List.take_add_one, List.getElem?_map, List.getElem?_eq_getElem hjm, hp]; rfl
        have HC := Lib.hid hc
        have HPbl := Lib.hid hpb
        have hA2 : m.A = some ⟨pb, poff, none⟩ := hA
        rw [hA2] at c16
        clear hpr hc hp hpb hA
        have HDr : Hid ((m.W.map PutR.d).drop j = p.d :: (m.W.map PutR.d).drop (j + 1)) := by
          show _ = _
          rw [List.drop_eq_getElem_cons (by simpa using hjm), List.getElem_map, HPe.out]
        have pc2 : wr.cell? ⟨pb, poff + j * 4 + 2, none⟩ = some (.bool p.cut) := HC.out 2 _ rfl
        cases hcut : p.cut with
        | true =>
          rw [hcut] at pc2
          have HE : Hid (rows.map (·.l) = crashR (dataR m) (m.W.map PutR.d) j tear) := by
            show _ = _
            unfold crashR
            rw [HDr.out, CA.out.l, PutR.d, if_pos hcut]; rfl
          clear HC HPd HP HPk HOs
          go_wp2
          exact bodyPost_end (results_none rfl _ _ _) rfl (HFin.out wr rows CA.out.ta HE.out)
        | false =>
          rw [hcut] at pc2
          have HCut := Lib.hid hcut
          obtain ⟨t, ht⟩ : ∃ t : Nat, tear % ((p.b.length : Int) + 1) = (t : Int) := ⟨(tear % ((p.b.length : Int) + 1)).toNat, by have := Int.emod_nonneg tear (show (p.b.length : Int) + 1 ≠ 0 by omega); omega⟩
          have HTl : Hid (t ≤ p.b.length) := by show _ ≤ _; have := Int.emod_lt_of_pos tear (show 0 < (p.b.length : Int) + 1 by omega); omega
          have HPb3 : Hid (p.b.length ≤ 50000000) := HPb2.out hcut
          have hwp : IntKind.i64.wrap ((p.b.length : Int) + 1) = (p.b.length : Int) + 1 := by have := HPb3.out; rw [IntKind.wrap_i64]; omega
          have HMt := Lib.hid (fun W => rmodulo_any W tear ((p.b.length : Int) + 1) (by omega) (by have := HPb3.out; omega))
          rw [ht] at HMt
          have hsl : ∀ wq, (Instr.slice 39 (.slice p.A p.b.length p.c) none (some (.int .i64 (t : Int))) none).run Tryd.prog wq = .ok (.slice p.A t p.c) wq := slice_ownD HP.out.2.2 HTl.out
          have HT2 : Hid ((tear % ((p.b.length : Int) + 1)).toNat = t) := by show _ = _; rw [ht]; rfl
          clear ht hcut
          go_upto_region 7 with (first
            | ((with_reducible show wpList _ _ _ (⟨some 61, _, _, _, _, _⟩ :: _) _ _); refine wpList_load_mid rfl 97 (.tmp 60) rfl pb (poff + j * 4) rfl (putC p) _ HC.out Tryd.underlying97 rfl Tryd.putSize ?_)
            | ((with_reducible show wpList _ _ _ (⟨none, .store 97 _ _, _, _, _, _⟩ :: _) _ _); (show wpList _ _ _ _ _ (wr.alloc (.cells #[.int .i64 0, .int .i64 0, .bool false, .slice none 0 0] 97))); refine wpList_store_wholeD rfl 97 (.tmp 8) (.tmp 61) rfl wr.heap.size 97 #[.int .i64 0, .int .i64 0, .bool false, .slice none 0 0] (putC p).toArray rfl rfl (heap_alloc_new wr _) rfl Tryd.putSize (putC_oneA p) ?_; intro wb h5 h6 h7; have BB := Lib.hid h5; have KB := Lib.hid h6; clear h5 h6 h7))
          have VB : Hid (Below wr.heap.size wr wb) := ((nxAlloc (nxRefl wr) _).trans (KB.out.below (nxAlloc (nxRefl wr) _).size (fun j hj e => by omega)))
          have x3 : wb.cell? ⟨wr.heap.size, 3, none⟩ = some (.slice p.A p.b.length p.c) := BB.out.cell 3
          have y3 : wb.frozen? ⟨wr.heap.size, 3, none⟩ = false := BB.out.frozen 3
          clear KB
          simp only [Act.put]
          refine wp_region_K (fun W => W.cell? ⟨wr.heap.size, 3, none⟩ = some (.slice p.A p.b.length p.c)) 10 (by kernel_rfl) x3 (fun hSn => ?_)
          refine wpAnyK_pure (i := 0) (oi := ⟨_, _, _, _, _, _⟩) (v := ?_) rfl (by kernel_rfl) (by kernel_rfl) (by kernel_rfl) rfl (fun _ _ _ h => h) (Or.inl ⟨by rfl, ?_⟩) hSn ?_
          rotate_left 1
          · intro W hSw
            go_simp
            try with_reducible rfl
          replace hSn := (KT.set (i := 0) (by decide)).2 hSn
          try simp only [Act.put, List.setIfInBounds_toArray, List.set_cons_zero, List.set_cons_succ]
          refine wpAnyK_chain (i := 1) [10] (oi := ⟨_, _, _, _, _, _⟩) (v := ?_) rfl (by kernel_rfl) (by kernel_rfl) (by kernel_rfl) rfl (by kernel_rfl) (by kernel_rfl) (by kernel_rfl) (fun _ _ _ h => h) (Or.inl ⟨by rfl, ?_⟩) hSn ?_
          rotate_left 1
          · intro W hSw
            try dsimp only at hSw
            have hs1 := hSw
            go_simp
            try with_reducible rfl
          replace hSn := (KT.set (i := 1) (by decide)).2 hSn
          try simp only [Act.put, List.setIfInBounds_toArray, List.set_cons_zero, List.set_cons_succ]
          refine wpAnyK_pure (i := 2) (oi := ⟨_, _, _, _, _, _⟩) (v := ?_) rfl (by kernel_rfl) (by kernel_rfl) (by kernel_rfl) rfl (fun _ _ _ h => h) (Or.inl ⟨by rfl, ?_⟩) hSn ?_
          rotate_left 1
          · intro W hSw
            go_simp
            try with_reducible rfl
          replace hSn := (KT.set (i := 2) (by decide)).2 hSn
          try simp only [Act.put, List.setIfInBounds_toArray, List.set_cons_zero, List.set_cons_succ]
          refine wpAnyK_pure (i := 3) (oi := ⟨_, _, _, _, _, _⟩) (v := ?_) rfl (by kernel_rfl) (by kernel_rfl) (by kernel_rfl) rfl (fun _ _ _ h => h) (Or.inl ⟨by rfl, ?_⟩) hSn ?_
          rotate_left 1
          · intro W hSw
            go_simp
            try with_reducible rfl
          replace hSn := (KT.set (i := 3) (by decide)).2 hSn
          try simp only [Act.put, List.setIfInBounds_toArray, List.set_cons_zero, List.set_cons_succ]
          refine wpAnyK_chain (i := 4) [10] (oi := ⟨_, _, _, _, _, _⟩) (v := ?_) rfl (by kernel_rfl) (by kernel_rfl) (by kernel_rfl) rfl (by kernel_rfl) (by kernel_rfl) (by kernel_rfl) (fun _ _ _ h => h) (Or.inl ⟨by rfl, ?_⟩) hSn ?_
          rotate_left 1
          · intro W hSw
            try dsimp only at hSw
            have hs1 := hSw
            go_simp
            try with_reducible rfl
          replace hSn := (KT.set (i := 4) (by decide)).2 hSn
          try simp only [Act.put, List.setIfInBounds_toArray, List.set_cons_zero, List.set_cons_succ]
          refine wpAnyK_pure (i := 5) (oi := ⟨_, _, _, _, _, _⟩) (v := ?_) rfl (by kernel_rfl) (by kernel_rfl) (by kernel_rfl) rfl (fun _ _ _ h => h) (Or.inl ⟨by rfl, ?_⟩) hSn ?_
          rotate_left 1
          · intro W hSw
            go_simp
            try with_reducible rfl
          replace hSn := (KT.set (i := 5) (by decide)).2 hSn
          try simp only [Act.put, List.setIfInBounds_toArray, List.set_cons_zero, List.set_cons_succ]
          refine wpAnyK_pure (i := 6) (oi := ⟨_, _, _, _, _, _⟩) (v := ?_) rfl (by kernel_rfl) (by kernel_rfl) (by kernel_rfl) rfl (fun _ _ _ h => h) (Or.inl ⟨by rfl, ?_⟩) hSn ?_
          rotate_left 1
          · intro W hSw
            go_simp
            try with_reducible rfl
          replace hSn := (KT.set (i := 6) (by decide)).2 hSn
          try simp only [Act.put, List.setIfInBounds_toArray, List.set_cons_zero, List.set_cons_succ]
          clear hSn
          refine wpAnyK_ready (rs := [7]) (by kernel_rfl) (by simp) ?_
          refine AllReadyK.cons rfl (fun K hK => ?_) AllReadyK.nil
          go_simp
          go_at_call 54
          refine (HMt.out _).mono ?_
          rintro e wn ⟨rfl, hwn⟩
          obtain rfl := hwn.symm
          refine hK.out _ _ (fun _ => x3) (fun hSn => ?_)
          clear hK K
          try simp only [Act.put, List.setIfInBounds_toArray, List.set_cons_zero, List.set_cons_succ]
          refine wpAnyK_pure (i := 8) (oi := ⟨_, _, _, _, _, _⟩) (v := ?_) rfl (by kernel_rfl) (by kernel_rfl) (by kernel_rfl) rfl (fun _ _ _ h => h) (Or.inl ⟨by rfl, ?_⟩) hSn ?_
          rotate_left 1
          · intro W hSw
            go_simp
            try with_reducible rfl
          replace hSn := (KT.set (i := 8) (by decide)).2 hSn
          try simp only [Act.put, List.setIfInBounds_toArray, List.set_cons_zero, List.set_cons_succ]
          refine wpAnyK_pure (i := 9) (oi := ⟨_, _, _, _, _, _⟩) (v := ?_) rfl (by kernel_rfl) (by kernel_rfl) (by kernel_rfl) rfl (fun _ _ _ h => h) (Or.inl ⟨by rfl, ?_⟩) hSn ?_
          rotate_left 1
          · intro W hSw
            go_simp
            try with_reducible rfl
          replace hSn := (KT.set (i := 9) (by decide)).2 hSn
          try simp only [Act.put, List.setIfInBounds_toArray, List.set_cons_zero, List.set_cons_succ]
          clear hSn
          refine wpAnyK_ready (rs := [10]) (by kernel_rfl) (by simp) ?_
          refine AllReadyK.cons rfl (fun K hK => ?_) AllReadyK.nil
          go_simp
          skip
          refine hK.out _ _ (fun h => absurd h (by decide +kernel)) (fun hSn => ?_)
          clear hK K
          try simp only [Act.put, List.setIfInBounds_toArray, List.set_cons_zero, List.set_cons_succ]
          refine wpAnyK_done (by kernel_rfl) ?_ _
          go_upto_region 8 with fail
          have BX : Hid (Blk ((wb.setCell ⟨wr.heap.size, 3, none⟩ (.slice p.A t p.c)).drew) wr.heap.size 97 (putC { p with b := p.b.take t }).toArray) := by
            have h := BB.out.set 3 (.slice p.A t p.c)
            have e : (putC p).toArray.setIfInBounds 3 (.slice p.A t p.c) = (putC { p with b := p.b.take t }).toArray := by
              have e2 : (p.b.take t).length = t := by rw [List.length_take]; have := HTl.out; omega
              show _ = (putC ⟨p.log, p.n, p.cut, p.A, p.c, p.b.take t⟩).toArray
              simp only [putC, e2]; rfl
            rw [e] at h; exact h
          have VX : Hid (Below wr.heap.size wr ((wb.setCell ⟨wr.heap.size, 3, none⟩ (.slice p.A t p.c)).drew)) := by
            have kd : Keeps (· = wr.heap.size) wb ((wb.setCell ⟨wr.heap.size, 3, none⟩ (.slice p.A t p.c)).drew) := Keeps.setCell (S := (· = wr.heap.size)) (p := ⟨wr.heap.size, 3, none⟩) (Keeps.refl _ wb) rfl _ |>.drew
            exact VB.out.trans (kd.below VB.out.size (fun j hj e => by omega))
          generalize (wb.setCell ⟨wr.heap.size, 3, none⟩ (.slice p.A t p.c)).drew = wx at BX VX ⊢
          obtain ⟨p2, hp2⟩ : ∃ p2 : PutR, ({ p with b := p.b.take t } : PutR) = p2 := ⟨_, rfl⟩
          have HP2 : Hid (p2.log = p.log ∧ p2.cut = false ∧ p2.row.own wx ∧ p2.d = .put p.log (p.b.take t) ∧ p2.b.length ≤ 50000000) := by
            rw [← hp2]
            refine ⟨rfl, HCut.out, ?_, ?_, ?_⟩
            · have h1 := own_prefix (HP.out.2.2 : wr.ownsRow 0 _ 1 (.slice p.A p.b.length p.c) p.b.length (By p.b)) HTl.out
              have h2 : RowM.own wr ⟨p.A, p.c, p.b.take t⟩ := by
                have e2 : (p.b.take t).length = t := by rw [List.length_take]; have := HTl.out; omega
                show World.ownsRow _ _ _ _ (.slice p.A (p.b.take t).length p.c) (p.b.take t).length (By (p.b.take t))
                rw [e2]
                have e3 : By (p.b.take t) = (By p.b).take (t * 1) := by rw [Nat.mul_one]; simp [By, List.map_take]
                rw [e3]; exact h1
              exact RowM.keep h2 (Keeps.of_below VX.out (fun _ => False)) (fun _ _ h => h)
            · show (if p.cut = true then _ else _) = _
              rw [if_neg (by rw [HCut.out]; decide)]
            · show (p.b.take t).length ≤ _
              rw [List.length_take]; have := HPb3.out; omega
          rw [hp2] at BX
          clear hp2
          have HRx : Hid (RfOk wx g { m with rows := rows }) := HR.out.below VX.out
          have HRrx : Hid (wx.rangeAt g 0 (rowsC rows)) := HRx.out.rows
          have HPx : Hid (wx.rangeAt wr.heap.size 0 (putC p2)) := blk_rangeR BX.out
          have HGx : Hid (g < wx.heap.size) := HRx.out.b.lt
          have hdx : Keeps (fun _ => False) wx wx.drew := (Keeps.refl _ wx).drew
          have HSk : Hid ((Tryd.prog.info? 50).map (·.size) = some (rowsC rows).length) := by show _ = _; rw [rowsC_len, NR.out]; exact Tryd.rowsSize
          have HPs : Hid ((Tryd.prog.info? 97).map (·.size) = some (putC p2).length) := Tryd.putSize
          refine wp_region_K (fun W => W.rangeAt g 0 (rowsC rows) ∧ W.rangeAt wr.heap.size 0 (putC p2)) 9 (by kernel_rfl) ⟨HRrx.out, HPx.out⟩ (fun hSn => ?_)
          refine wpAnyK_pure (i := 0) (oi := ⟨_, _, _, _, _, _⟩) (v := ?_) rfl (by kernel_rfl) (by kernel_rfl) (by kernel_rfl) rfl (fun _ _ _ h => h) (Or.inl ⟨by rfl, ?_⟩) hSn ?_
          rotate_left 1
          · intro W hSw
            go_simp
            try with_reducible rfl
          replace hSn := (KT.set (i := 0) (by decide)).2 hSn
          try simp only [Act.put, List.setIfInBounds_toArray, List.set_cons_zero, List.set_cons_succ]
          refine wpAnyK_pure (i := 1) (oi := ⟨_, _, _, _, _, _⟩) (v := ?_) rfl (by kernel_rfl) (by kernel_rfl) (by kernel_rfl) rfl (fun _ _ _ h => h) (Or.inl ⟨by rfl, ?_⟩) hSn ?_
          rotate_left 1
          · intro W hSw
            go_simp
            try with_reducible rfl
          replace hSn := (KT.set (i := 1) (by decide)).2 hSn
          try simp only [Act.put, List.setIfInBounds_toArray, List.set_cons_zero, List.set_cons_succ]
          refine wpAnyK_pure (i := 2) (oi := ⟨_, _, _, _, _, _⟩) (v := ?_) rfl (by kernel_rfl) (by kernel_rfl) (by kernel_rfl) rfl (fun _ _ _ h => h) (Or.inl ⟨by rfl, ?_⟩) hSn ?_
          rotate_left 1
          · intro W hSw
            go_simp
            try with_reducible rfl
          replace hSn := (KT.set (i := 2) (by decide)).2 hSn
          try simp only [Act.put, List.setIfInBounds_toArray, List.set_cons_zero, List.set_cons_succ]
          refine wpAnyK_pure (i := 3) (oi := ⟨_, _, _, _, _, _⟩) (v := ?_) rfl (by kernel_rfl) (by kernel_rfl) (by kernel_rfl) rfl (fun _ _ _ h => h) (Or.inl ⟨by rfl, ?_⟩) hSn ?_
          rotate_left 1
          · intro W hSw
            go_simp
            try with_reducible rfl
          replace hSn := (KT.set (i := 3) (by decide)).2 hSn
          try simp only [Act.put, List.setIfInBounds_toArray, List.set_cons_zero, List.set_cons_succ]
          refine wpAnyK_chain (i := 4) [9] (oi := ⟨_, _, _, _, _, _⟩) (v := .agg (rowsC rows).toArray) rfl (by kernel_rfl) (by kernel_rfl) (by kernel_rfl) rfl (by kernel_rfl) (by kernel_rfl) (by kernel_rfl) (fun _ _ _ h => h) (yieldsIf_load_mid (by rfl) 50 (.tmp 75) rfl g 0 rfl (rowsC rows) _ (fun W h => h.1) Tryd.underlying50 rfl HSk.out) hSn ?_
          replace hSn := (KT.set (i := 4) (by decide)).2 hSn
          try simp only [Act.put, List.setIfInBounds_toArray, List.set_cons_zero, List.set_cons_succ]
          refine wpAnyK_chain (i := 5) [9] (oi := ⟨_, _, _, _, _, _⟩) (v := .agg (putC p2).toArray) rfl (by kernel_rfl) (by kernel_rfl) (by kernel_rfl) rfl (by kernel_rfl) (by kernel_rfl) (by kernel_rfl) (fun _ _ _ h => h) (yieldsIf_load_mid (by rfl) 97 (.tmp 8) rfl wr.heap.size 0 rfl (putC p2) _ (fun W h => h.2) Tryd.underlying97 rfl HPs.out) hSn ?_
          replace hSn := (KT.set (i := 5) (by decide)).2 hSn
          try simp only [Act.put, List.setIfInBounds_toArray, List.set_cons_zero, List.set_cons_succ]
          clear hSn
          refine wpAnyK_ready (rs := [6]) (by kernel_rfl) (by simp) ?_
          refine AllReadyK.cons rfl (fun K hK => ?_) AllReadyK.nil
          go_simp
          go_at_call 55
          refine (done_any wx.drew rows p2 NR.out (by rw [HP2.out.1]; exact HP.out.1) (fun r hr => RowM.keep (HRx.out.o r hr) hdx (fun _ _ h => h)) (RowM.keep HP2.out.2.2.1 hdx (fun _ _ h => h)) (fun h => absurd h (by rw [HP2.out.2.1]; decide)) (HLr.out rows NR.out rfl) (fun _ => HP2.out.2.2.2.2)).mono ?_
          rintro e w5 ⟨r, rfl, hD⟩
          have D5 := Lib.hid hD
          clear hD
          have V5 : Hid (Below wx.heap.size wx w5) := ⟨D5.out.v.os, D5.out.v.tape, D5.out.v.output, D5.out.v.size, D5.out.v.block⟩
          have B5 : Hid (Blk w5 g 57 (rfC { m with rows := rows }).toArray) := HRx.out.b.below V5.out HGx.out
          have hS5 : w5.rangeAt g 0 (rowsC rows) ∧ w5.rangeAt wr.heap.size 0 (putC p2) := ⟨rngL HRrx.out V5.out HGx.out, rngL HPx.out V5.out BX.out.lt⟩
          refine hK.out _ _ (fun _ => hS5) (fun hSn => ?_)
          clear hK K
          try simp only [Act.put, List.setIfInBounds_toArray, List.set_cons_zero, List.set_cons_succ]
          refine wpAnyK_pure (i := 7) (oi := ⟨_, _, _, _, _, _⟩) (v := ?_) rfl (by kernel_rfl) (by kernel_rfl) (by kernel_rfl) rfl (fun _ _ _ h => h) (Or.inl ⟨by rfl, ?_⟩) hSn ?_
          rotate_left 1
          · intro W hSw
            go_simp
            try with_reducible rfl
          replace hSn := (KT.set (i := 7) (by decide)).2 hSn
          try simp only [Act.put, List.setIfInBounds_toArray, List.set_cons_zero, List.set_cons_succ]
          refine wpAnyK_pure (i := 8) (oi := ⟨_, _, _, _, _, _⟩) (v := ?_) rfl (by kernel_rfl) (by kernel_rfl) (by kernel_rfl) rfl (fun _ _ _ h => h) (Or.inl ⟨by rfl, ?_⟩) hSn ?_
          rotate_left 1
          · intro W hSw
            go_simp
            try with_reducible rfl
          replace hSn := (KT.set (i := 8) (by decide)).2 hSn
          try simp only [Act.put, List.setIfInBounds_toArray, List.set_cons_zero, List.set_cons_succ]
          clear hSn
          refine wpAnyK_ready (rs := [9]) (by kernel_rfl) (by simp) ?_
          refine AllReadyK.cons rfl (fun K hK => ?_) AllReadyK.nil
          refine step_store_partD (o := ⟨none, _, _, _, _, _⟩) rfl 50 (.tmp 80) (.tmp 78) rfl g 0 57 (rfC { m with rows := rows }).toArray (rowsC (rows.set p2.log r)).toArray (rfC { m with rows := rows.set p2.log r }).toArray (.agg (rowsC (rows.set p2.log r)).toArray) rfl rfl rfl B5.out (by rw [List.size_toArray, List.size_toArray, rowsC_len, List.length_set, NR.out, rfC_len (m := { m with rows := rows }) NR.out]; omega) (by rw [List.size_toArray, rowsC_len, List.length_set, NR.out]; exact Tryd.rowsSize) (rowsC_one _) (rfC_rows (m := { m with rows := rows }) NR.out (by rw [List.length_set]; exact NR.out)) ?_
          intro w6 h5 h6 h7
          have B6 := Lib.hid h5
          have K6 := Lib.hid h6
          clear h5 h6 h7
          refine hK.out _ _ (fun h => absurd h (by decide +kernel)) (fun hSn => ?_)
          clear hK K
          try simp only [Act.put, List.setIfInBounds_toArray, List.set_cons_zero, List.set_cons_succ]
          refine wpAnyK_done (by kernel_rfl) ?_ _
          have HE : Hid ((rows.set p2.log r).map (·.l) = crashR (dataR m) (m.W.map PutR.d) j tear) := by
            show _ = _
            have h1 : p2.log < rows.length := by rw [HP2.out.1, NR.out]; exact HP.out.1
            rw [done_data D5.out h1, CA.out.l, HP2.out.2.2.2.1]
            unfold crashR
            rw [HDr.out]
            have e : p.d = .put p.log p.b := by unfold PutR.d; rw [if_neg (by rw [HCut.out]; decide)]
            rw [e]
            show List.set _ (0 + p.log) (rowD _ (0 + p.log) ++ p.b.take t) = List.set _ p.log (rowD _ p.log ++ p.b.take (tear % ((p.b.length : Int) + 1)).toNat)
            rw [HT2.out, Nat.zero_add]
          have CT : Hid (RfTo w g m w6 { m with rows := rows.set p2.log r }) := by
            refine CA.out.ta.trans (RfTo.rows_ (m := { m with rows := rows }) HR.out (nxTrD VX.out V5.out) (by rw [List.length_set]; exact NR.out) (fun r2 hr2 => ?_) (fun r2 hr2 => ?_) B6.out K6.out)
            · rcases List.mem_or_eq_of_mem_set hr2 with h1 | rfl
              · exact RowM.keep (HRx.out.o r2 h1) (Keeps.of_below V5.out (fun _ => False)) (fun _ _ h => h)
              · exact D5.out.o
            · rcases List.mem_or_eq_of_mem_set hr2 with h1 | rfl
              · exact .inl h1
              · exact .inr (fun j hj => Nat.le_trans VX.out.size (D5.out.n j hj))
          have c16b : w6.cell? ⟨g, 16, none⟩ = some (.slice m.A m.W.length m.c) := CT.out.ok.cW
          have c17b : w6.cell? ⟨g, 17, none⟩ = some (.int .i64 m.fuse) := CT.out.ok.cF
          have c18b : w6.cell? ⟨g, 18, none⟩ = some (.bool m.dead) := CT.out.ok.cD
          have f16b : w6.frozen? ⟨g, 16, none⟩ = false := CT.out.ok.b.frozen _
          have f17b : w6.frozen? ⟨g, 17, none⟩ = false := CT.out.ok.b.frozen _
          have f18b : w6.frozen? ⟨g, 18, none⟩ = false := CT.out.ok.b.frozen _
          go_wp2
          exact bodyPost_end (results_none rfl _ _ _) rfl (HFin.out w6 _ CT.out HE.out)
      · have hjl : ¬ (j : Int) < (m.W.length : Int) := by omega
        have hjd : decide ((j : Int) < (m.W.length : Int)) = false := decide_eq_false hjl
        have HE : Hid (rows.map (·.l) = crashR (dataR m) (m.W.map PutR.d) j tear) := by
          show _ = _
          unfold crashR
          rw [List.drop_eq_nil_of_le (by rw [List.length_map]; omega), CA.out.l]
        go_wp2
        exact bodyPost_end (results_none rfl _ _ _) rfl (HFin.out wr rows CA.out.ta HE.out)
end Go.Proofs.YthamlphebnhcpaaDoor

namespace Go.Proofs.YthamlphebnhcpaaDoor
open Go.RowKit

/-- The rows are others: what lies in new memory may be written. -/
theorem RfTo.rows3 {w w3 : World} {g : Nat} {m : RfM} {rows : List RowM} (h : RfOk w g m) (k : Keeps (fun j => j = g) w w3) (n : rows.length = 16) (o : ∀ r ∈ rows, r.own w3) (a : ∀ r ∈ rows, r ∈ m.rows ∨ ∀ j, r.bk = some j → w.heap.size ≤ j)
    (b3 : Blk w3 g 57 (rfC { m with rows := rows }).toArray) : RfTo w g m w3 { m with rows := rows } := by
  refine ⟨⟨b3, n, o, own_keep h.ww k (fun j e he => ?_), fun p hp => ⟨(h.p p hp).1, (h.p p hp).2.1, RowM.keep (h.p p hp).2.2 k (fun j e he => h.off (h.p p hp).2.2 e (.inl he))⟩⟩, fun j hj => .inl hj, fun j hj => ?_, k.mono (fun j _ h => .inl h)⟩
  · subst he
    exact h.b.notOwn h.ww (by decide) e.symm
  · rcases hj with h1 | ⟨r, hr | ⟨p, hp, hpr⟩, hb⟩
    · exact .inl (.inl h1)
    · rcases a r hr with h1 | h1
      · exact .inl (.inr ⟨r, .inl h1, hb⟩)
      · exact .inr (h1 j hb)
    · exact .inl (.inr ⟨r, .inr ⟨p, hp, hpr⟩, hb⟩)
theorem RfTo.noW {w : World} {g : Nat} {m : RfM} (h : RfOk w g m) : RfTo w g m (w.setCell ⟨g, 16, none⟩ (.slice none 0 0)) { m with A := none, c := 0, W := [] } := by
  have k : Keeps (fun j => j = g) w (w.setCell ⟨g, 16, none⟩ (.slice none 0 0)) := Keeps.setCell (S := fun j => j = g) (p := ⟨g, 16, none⟩) (Keeps.refl _ _) rfl _
  have b := h.b.set 16 (.slice none 0 0)
  rw [rfC_noW h.n] at b
  refine ⟨⟨b, h.n, fun r hr => RowM.keep (h.o r hr) k (fun j e he => h.off (h.o r hr) e (.inl he)), World.ownsRow_nil _ _ _ _, fun p hp => by cases hp⟩, fun j hj => ?_, fun j hj => ?_, k.mono (fun j _ h => .inl h)⟩
  · rcases hj with h1 | h1
    · exact .inl (.inl h1)
    · cases h1
  · rcases hj with (h1 | h1) | ⟨r, hr | ⟨p, hp, _⟩, hb⟩
    · exact .inl (.inl (.inl h1))
    · cases h1
    · exact .inl (.inr ⟨r, .inl hr, hb⟩)
    · cases hp
theorem rfC_setRow {m : RfM} (n : m.rows.length = 16) {i : Nat} (hi : i < 16) (r : RowM) : (rfC m).toArray.setIfInBounds i r.v = (rfC { m with rows := m.rows.set i r }).toArray := by
  have h : (rowsC m.rows).length = 16 := by rw [rowsC_len, n]
  simp only [rfC, List.setIfInBounds_toArray]
  rw [List.set_append_left _ _ (by omega)]
  simp [rowsC, List.map_set]
theorem RelR.edit {D : DkD} {m : RfM} (h : RelR D m) (wf : DkWf D) (n : m.rows.length = 16) {i k : Nat} (hi : i < 16) {y : UInt8} {rows : List RowM} (hr : rows.map (·.l) = doAll 0 (dataR m) (m.W.map PutR.d)) {r : RowM} (hl : r.l = xorAt (rowD D.X (16 + i)) k y) :
    RelR (flipD (settleD D.W.length D) i k y) { m with rows := rows.set i r, A := none, c := 0, W := [] } := by
  have hok := h.ok wf n
  have hrn : rows.length = 16 := by
    have := congrArg List.length hr
    rw [List.length_map, doAll_len, dataR_len n] at this; exact this
  refine ⟨fun j hj => ?_, ?_, h.f, h.d⟩
  · show rowD ((List.set _ i _).set (16 + i) _) j = rowD ((rows.set i r).map (·.l)) j
    have hl1 : (doAll 0 D.X (D.W.take D.W.length)).length = 32 := by rw [doAll_len, wf.n]
    have e0 : ∀ q, rowD (settleD D.W.length D).X q = rowD (doAll 0 D.X D.W) q := fun q => by
      show rowD (doAll 0 D.X (D.W.take D.W.length)) q = _
      rw [List.take_length]
    have hls : (settleD D.W.length D).X.length = 32 := hl1
    rw [rowD_set (by rw [List.length_set]; omega), if_neg (by omega), rowD_set (by omega), List.map_set, rowD_set (by rw [List.length_map]; omega), hr, hl]
    by_cases e : i = j
    · subst e
      rw [if_pos rfl, if_pos rfl, e0, wf.e i hi]
    · rw [if_neg (fun h => e h.symm), if_neg (fun h => e h.symm), e0]
      exact hok.2 j hj
  · show (settleD D.W.length D).W = []
    exact List.drop_length

set_option maxHeartbeats 8000000 in
set_option maxRecDepth 100000 in
theorem redit_any (w : World) (g : Nat) (m : RfM) (D : DkD) (h : RfOk w g m) (hD : RelR D m) (wf : DkWf D) (hW : m.W.length ≤ 1000) (i : Nat) (hi : i < 16) (n : Int) (y : UInt8) : Calls Tryd.prog 32 #[ptrD g, .int .i64 (i : Int), .int .i64 n, .int .u8 (y.toNat : Int)] w (RPostS w g m (editD D (i : Int) n y)) := by
  have H := Lib.hid h
  have HDD := Lib.hid hD
  have HWf := Lib.hid wf
  have HWl := Lib.hid hW
  have HI := Lib.hid hi
  have hd0 : decide ((i : Int) < 0) = false := decide_eq_false (by omega)
  have hd1 : decide ((16 : Int) ≤ (i : Int)) = false := decide_eq_false (by omega)
  have hii : (i : Int) < 16 := by omega
  have hm : mayD (i : Int) = true := by unfold mayD; rw [decide_eq_true (by omega), decide_eq_true (by omega)]; rfl
  have HNo : Hid ((decide (0 ≤ n) && decide (n < ((rowD D.X (16 + i)).length : Int))) = false → editD D (i : Int) n y = (D, 2)) := fun e => by unfold editD; rw [Int.toNat_natCast, hm, e]; rfl
  have HYes : Hid ((decide (0 ≤ n) && decide (n < ((rowD D.X (16 + i)).length : Int))) = true → editD D (i : Int) n y = (flipD (settleD D.W.length D) i n.toNat y, 0)) := fun e => by unfold editD; rw [Int.toNat_natCast, hm, e]; rfl
  obtain ⟨b, hb⟩ : ∃ b, rowD D.X (16 + i) = b := ⟨_, rfl⟩
  have HBe := Lib.hid hb
  have HBl : Hid (b.length ≤ 16777216) := by show _ ≤ _; rw [← hb]; exact wf.m _
  rw [hb] at HNo HYes
  clear h hD wf hW hi hm hb
  unfold ptrD
  by_cases h2 : n < 0
  · have HC : Hid (editD D (i : Int) n y = (D, 2)) := HNo.out (by rw [decide_eq_false (by omega : ¬ (0 ≤ n)), Bool.false_and])
    have hd2 : decide (n < 0) = true := decide_eq_true h2
    rw [HC.out]
    go_enter Tryd.func32, Tryd.ntmps32
    go_wp2
    go_ret
    exact RPostS.is m (RfTo.refl H.out) HDD.out rfl
  · obtain ⟨k, rfl⟩ : ∃ k : Nat, n = (k : Int) := ⟨n.toNat, by omega⟩
    have hd2 : decide ((k : Int) < 0) = false := decide_eq_false h2
    by_cases h3 : b.length ≤ k
    · have HC : Hid (editD D (i : Int) (k : Int) y = (D, 2)) := HNo.out (by rw [decide_eq_false (by omega : ¬ ((k : Int) < (b.length : Int))), Bool.and_false])
      have h3' : (b.length : Int) ≤ (k : Int) := by omega
      have hd3 : decide ((b.length : Int) ≤ (k : Int)) = true := decide_eq_true h3'
      rw [HC.out]
      go_enter Tryd.func32, Tryd.ntmps32
      go_wp2_with (first
        | (go_at_call 49; refine (RelR.now HDD.out HWf.out H.out HWl.out).mono ?_; rintro e w2 ⟨rows, rfl, hnw⟩; have N2 := Lib.hid hnw; (have hix := fun wq => index_rows wq rows hnw.n i HI.out); (rw [hnw.at_ HDD.out HWf.out H.out.n HI.out, HBe.out] at hix); clear hnw))
      go_ret
      exact RPostS.is m (RfTo.below H.out N2.out.v) HDD.out rfl
    · have hkb : k < b.length := by omega
      have HKb := Lib.hid hkb
      have HC : Hid (editD D (i : Int) (k : Int) y = (flipD (settleD D.W.length D) i k y, 0)) := by
        have h := HYes.out (by rw [decide_eq_true (by omega : (0 : Int) ≤ (k : Int)), decide_eq_true (by omega : (k : Int) < (b.length : Int))]; rfl)
        rw [Int.toNat_natCast] at h
        exact h
      have h3' : ¬ (b.length : Int) ≤ (k : Int) := by omega
      have hd3 : decide ((b.length : Int) ≤ (k : Int)) = false := decide_eq_false h3'
      have hin : (k : Int) < (b.length : Int) := by omega
      rw [HC.out]
      clear HNo HYes HC h3
      obtain ⟨j0, hj0, hy0, hy1, hy2⟩ := infoD Tryd.u8info
      have HJ0 := Lib.hid hj0
      clear hj0
      go_enter Tryd.func32, Tryd.ntmps32
      go_upto_region 4 with (first
        | (go_at_call 49; (with_reducible show Calls _ _ _ w _); refine (RelR.now HDD.out HWf.out H.out HWl.out).mono ?_; rintro e w1 ⟨rows1, rfl, hnw⟩; have N1 := Lib.hid hnw; (have hix := fun wq => index_rows wq rows1 hnw.n i HI.out); (rw [hnw.at_ HDD.out HWf.out H.out.n HI.out, HBe.out] at hix); have H1 : Hid (RfOk w1 g m) := (H.out.below hnw.v); clear hnw)
        | (go_at_call 49; (with_reducible show Calls _ _ _ w1 _); refine (RelR.now HDD.out HWf.out H1.out HWl.out).mono ?_; rintro e w2 ⟨rows, rfl, hnw⟩; have N2 := Lib.hid hnw; clear hnw; (have B2 : Hid (Blk w2 g 57 (rfC m).toArray) := H1.out.b.below N2.out.v H1.out.b.lt))
        | ((with_reducible show wpList _ _ _ (⟨none, .store 50 _ _, _, _, _, _⟩ :: _) _ _); refine wpList_store_partD rfl 50 (.tmp 33) (.tmp 31) rfl g 0 57 (rfC m).toArray (rowsC rows).toArray (rfC { m with rows := rows }).toArray (.agg (rowsC rows).toArray) rfl rfl rfl B2.out (by rw [List.size_toArray, List.size_toArray, rowsC_len, N2.out.n, rfC_len H.out.n]; omega) (by rw [List.size_toArray, rowsC_len, N2.out.n]; exact Tryd.rowsSize) (rowsC_one _) (rfC_rows H.out.n N2.out.n) ?_; intro w3 h5 h6 h7; have B3 := Lib.hid h5; have K3 := Lib.hid h6; clear h5 h6 h7; (have c16 : w3.cell? ⟨g, 16, none⟩ = some (.slice m.A m.W.length m.c) := (B3.out.cell 16).trans (rfC_at16 N2.out.n)); (have f16 : w3.frozen? ⟨g, 16, none⟩ = false := B3.out.frozen _)))
      have T3 : Hid (RfTo w1 g m w3 { m with rows := rows }) := RfTo.rows_ H1.out N2.out.v N2.out.n N2.out.o N2.out.a B3.out K3.out
      have T4 : Hid (RfTo w g m (w3.setCell ⟨g, 16, none⟩ (.slice none 0 0)) { m with rows := rows, A := none, c := 0, W := [] }) := (RfTo.below H.out N1.out.v).trans (T3.out.trans (RfTo.noW T3.out.ok))
      generalize w3.setCell ⟨g, 16, none⟩ (.slice none 0 0) = w4 at T4 ⊢
      obtain ⟨r0, hr0⟩ : ∃ r, rows.getD i noRow = r := ⟨_, rfl⟩
      have hlt : i < rows.length := by rw [N2.out.n]; exact HI.out
      have R0 : Hid (r0.own w4 ∧ r0.l = b) := by
        rw [← hr0]
        refine ⟨T4.out.ok.o _ (by rw [List.getD_eq_getElem?_getD, List.getElem?_eq_getElem hlt]; exact List.getElem_mem hlt), ?_⟩
        rw [N2.out.at_ HDD.out HWf.out H.out.n HI.out, HBe.out]
      have ci : w4.cell? ⟨g, i, none⟩ = some (.slice r0.A b.length r0.c) := by
        rw [T4.out.ok.b.cell, List.getElem?_toArray, rfC, List.getElem?_append_left (by rw [rowsC_len]; exact hlt), rowsC_at hlt, hr0, ← R0.out.2]; rfl
      have fi : w4.frozen? ⟨g, i, none⟩ = false := T4.out.ok.b.frozen _
      have S4 : Hid (Sees w4 w4.heap.size r0.A b) := by have h := RowM.sees R0.out.1; rw [R0.out.2] at h; exact h
      have hbl : b.length ≤ 16777216 := HBl.out
      clear c16 f16 hr0
      refine wp_region_K (fun W => W.cell? ⟨g, i, none⟩ = some (.slice r0.A b.length r0.c)) 12 (by kernel_rfl) ci (fun hSn => ?_)
      refine wpAnyK_pure (i := 0) (oi := ⟨_, _, _, _, _, _⟩) (v := ?_) rfl (by kernel_rfl) (by kernel_rfl) (by kernel_rfl) rfl (fun _ _ _ h => h) (Or.inl ⟨by rfl, ?_⟩) hSn ?_
      rotate_left 1
      · intro W hSw
        go_simp
        try with_reducible rfl
      replace hSn := (KT.set (i := 0) (by decide)).2 hSn
      try simp only [Act.put, List.setIfInBounds_toArray, List.set_cons_zero, List.set_cons_succ]
      refine wpAnyK_pure (i := 1) (oi := ⟨_, _, _, _, _, _⟩) (v := ?_) rfl (by kernel_rfl) (by kernel_rfl) (by kernel_rfl) rfl (fun _ _ _ h => h) (Or.inl ⟨by rfl, ?_⟩) hSn ?_
      rotate_left 1
      · intro W hSw
        go_simp
        try with_reducible rfl
      replace hSn := (KT.set (i := 1) (by decide)).2 hSn
      try simp only [Act.put, List.setIfInBounds_toArray, List.set_cons_zero, List.set_cons_succ]
      refine wpAnyK_pure (i := 2) (oi := ⟨_, _, _, _, _, _⟩) (v := ?_) rfl (by kernel_rfl) (by kernel_rfl) (by kernel_rfl) rfl (fun _ _ _ h => h) (Or.inl ⟨by rfl, ?_⟩) hSn ?_
      rotate_left 1
      · intro W hSw
        go_simp
        try with_reducible rfl
      replace hSn := (KT.set (i := 2) (by decide)).2 hSn
      try simp only [Act.put, List.setIfInBounds_toArray, List.set_cons_zero, List.set_cons_succ]
      refine wpAnyK_pure (i := 3) (oi := ⟨_, _, _, _, _, _⟩) (v := ?_) rfl (by kernel_rfl) (by kernel_rfl) (by kernel_rfl) rfl (fun _ _ _ h => h) (Or.inl ⟨by rfl, ?_⟩) hSn ?_
      rotate_left 1
      · intro W hSw
        go_simp
        try with_reducible rfl
      replace hSn := (KT.set (i := 3) (by decide)).2 hSn
      try simp only [Act.put, List.setIfInBounds_toArray, List.set_cons_zero, List.set_cons_succ]
      refine wpAnyK_pure (i := 4) (oi := ⟨_, _, _, _, _, _⟩) (v := ?_) rfl (by kernel_rfl) (by kernel_rfl) (by kernel_rfl) rfl (fun _ _ _ h => h) (Or.inl ⟨by rfl, ?_⟩) hSn ?_
      rotate_left 1
      · intro W hSw
        go_simp
        try with_reducible rfl
      replace hSn := (KT.set (i := 4) (by decide)).2 hSn
      try simp only [Act.put, List.setIfInBounds_toArray, List.set_cons_zero, List.set_cons_succ]
      refine wpAnyK_pure (i := 5) (oi := ⟨_, _, _, _, _, _⟩) (v := ?_) rfl (by kernel_rfl) (by kernel_rfl) (by kernel_rfl) rfl (fun _ _ _ h => h) (Or.inl ⟨by rfl, ?_⟩) hSn ?_
      rotate_left 1
      · intro W hSw
        go_simp
        try with_reducible rfl
      replace hSn := (KT.set (i := 5) (by decide)).2 hSn
      try simp only [Act.put, List.setIfInBounds_toArray, List.set_cons_zero, List.set_cons_succ]
      refine wpAnyK_pure (i := 6) (oi := ⟨_, _, _, _, _, _⟩) (v := ?_) rfl (by kernel_rfl) (by kernel_rfl) (by kernel_rfl) rfl (fun _ _ _ h => h) (Or.inl ⟨by rfl, ?_⟩) hSn ?_
      rotate_left 1
      · intro W hSw
        go_simp
        try with_reducible rfl
      replace hSn := (KT.set (i := 6) (by decide)).2 hSn
      try simp only [Act.put, List.setIfInBounds_toArray, List.set_cons_zero, List.set_cons_succ]
      refine wpAnyK_chain (i := 7) [12] (oi := ⟨_, _, _, _, _, _⟩) (v := ?_) rfl (by kernel_rfl) (by kernel_rfl) (by kernel_rfl) rfl (by kernel_rfl) (by kernel_rfl) (by kernel_rfl) (fun _ _ _ h => h) (Or.inl ⟨by rfl, ?_⟩) hSn ?_
      rotate_left 1
      · intro W hSw
        try dsimp only at hSw
        have hs1 := hSw
        go_simp
        try with_reducible rfl
      replace hSn := (KT.set (i := 7) (by decide)).2 hSn
      try simp only [Act.put, List.setIfInBounds_toArray, List.set_cons_zero, List.set_cons_succ]
      refine wpAnyK_pure (i := 9) (oi := ⟨_, _, _, _, _, _⟩) (v := ?_) rfl (by kernel_rfl) (by kernel_rfl) (by kernel_rfl) rfl (fun _ _ _ h => h) (Or.inl ⟨by rfl, ?_⟩) hSn ?_
      rotate_left 1
      · intro W hSw
        go_simp
        try with_reducible rfl
      replace hSn := (KT.set (i := 9) (by decide)).2 hSn
      try simp only [Act.put, List.setIfInBounds_toArray, List.set_cons_zero, List.set_cons_succ]
      refine wpAnyK_pure (i := 10) (oi := ⟨_, _, _, _, _, _⟩) (v := ?_) rfl (by kernel_rfl) (by kernel_rfl) (by kernel_rfl) rfl (fun _ _ _ h => h) (Or.inl ⟨by rfl, ?_⟩) hSn ?_
      rotate_left 1
      · intro W hSw
        go_simp
        try with_reducible rfl
      replace hSn := (KT.set (i := 10) (by decide)).2 hSn
      try simp only [Act.put, List.setIfInBounds_toArray, List.set_cons_zero, List.set_cons_succ]
      clear hSn
      refine wpAnyK_ready (rs := [8]) (by kernel_rfl) (by simp) ?_
      refine AllReadyK.cons rfl (fun K hK => ?_) AllReadyK.nil
      refine step_append_seesD (o := ⟨some 44, _, _, _, _, _⟩) rfl (.const (.slice none 0 0)) (.tmp 43) 39 rfl w4.heap.size 5 j0 _ Tryd.underlying39 HJ0.out hy0 hy1 hy2 rfl (.slice none 0 0) 0 [] rfl (World.ownsRow_nil _ _ _ _) w4.heap.size r0.A b.length r0.c b rfl rfl S4.out (by omega) (Nat.le_refl _) ?_
      intro v5 w5 h1 h2 h3
      simp only [Nat.zero_add, List.nil_append] at h1
      obtain ⟨A5, c5, rfl⟩ := own_form h1
      have O5 := Lib.hid h1
      have K5 : Hid (Keeps (fun _ => False) w4 w5) := Keeps.grown (Keeps.refl _ w4).drew h2 (fun k e => by cases e)
      clear h1 h2 h3
      have B5 : Hid (Blk w5 g 57 (rfC { m with rows := rows, A := none, c := 0, W := [] }).toArray) := T4.out.ok.b.keeps K5.out (fun h => h)
      have ci5 : w5.cell? ⟨g, i, none⟩ = some (.slice r0.A b.length r0.c) := (K5.out.cell (p := ⟨g, i, none⟩) T4.out.ok.b.lt (fun h => h)).trans ci
      have fi5 : w5.frozen? ⟨g, i, none⟩ = false := B5.out.frozen _
      refine hK.out _ _ (fun _ => ci5) (fun hSn => ?_)
      clear hK K
      try simp only [Act.put, List.setIfInBounds_toArray, List.set_cons_zero, List.set_cons_succ]
      refine wpAnyK_pure (i := 11) (oi := ⟨_, _, _, _, _, _⟩) (v := ?_) rfl (by kernel_rfl) (by kernel_rfl) (by kernel_rfl) rfl (fun _ _ _ h => h) (Or.inl ⟨by rfl, ?_⟩) hSn ?_
      rotate_left 1
      · intro W hSw
        go_simp
        try with_reducible rfl
      replace hSn := (KT.set (i := 11) (by decide)).2 hSn
      try simp only [Act.put, List.setIfInBounds_toArray, List.set_cons_zero, List.set_cons_succ]
      clear hSn
      refine wpAnyK_ready (rs := [12]) (by kernel_rfl) (by simp) ?_
      refine AllReadyK.cons rfl (fun K hK => ?_) AllReadyK.nil
      go_simp
      skip
      refine hK.out _ _ (fun h => absurd h (by decide +kernel)) (fun hSn => ?_)
      clear hK K
      try simp only [Act.put, List.setIfInBounds_toArray, List.set_cons_zero, List.set_cons_succ]
      refine wpAnyK_done (by kernel_rfl) ?_ _
      have B6 : Hid (Blk (w5.setCell ⟨g, i, none⟩ (.slice A5 b.length c5)) g 57 (rfC { m with rows := rows.set i ⟨A5, c5, b⟩, A := none, c := 0, W := [] }).toArray) := by
        have h := B5.out.set i (RowM.v ⟨A5, c5, b⟩)
        rw [rfC_setRow (m := { m with rows := rows, A := none, c := 0, W := [] }) N2.out.n HI.out] at h
        exact h
      have O6 : Hid ((w5.setCell ⟨g, i, none⟩ (.slice A5 b.length c5)).ownsRow w4.heap.size 5 1 (.slice A5 b.length c5) b.length (By b)) := by
        refine own_keep O5.out (Keeps.setCell (S := fun j => j = g) (p := ⟨g, i, none⟩) (Keeps.refl _ _) rfl _) (fun j e he => ?_)
        have h1 := (O5.out.lt j e).1
        have h2 := T4.out.ok.b.lt
        omega
      have K6 : Hid (Keeps (fun j => j = g) w4 (w5.setCell ⟨g, i, none⟩ (.slice A5 b.length c5))) := Keeps.setCell (S := fun j => j = g) (p := ⟨g, i, none⟩) (K5.out.mono (fun _ _ h => h.elim)) rfl _
      go_upto_region 5 with fail
      show Code.wp _ _ _ _ (w5.setCell ⟨g, i, none⟩ (.slice A5 b.length c5))
      generalize w5.setCell ⟨g, i, none⟩ (.slice A5 b.length c5) = w6 at B6 O6 K6 ⊢
      obtain ⟨a, hA, hge, hcell, hfr, hown⟩ := own_set O6.out (k := k) HKb.out (.int .u8 ((b.getD k 0 ^^^ y).toNat : Int))
      subst hA
      obtain ⟨x, hbk, hx⟩ : ∃ x, b[k]? = some x ∧ b.getD k 0 = x := ⟨b[k]'HKb.out, List.getElem?_eq_getElem HKb.out, by rw [List.getD_eq_getElem?_getD, List.getElem?_eq_getElem HKb.out]; rfl⟩
      have hcell2 : w6.cell? ⟨a, k, none⟩ = some (.int .u8 (x.toNat : Int)) := by rw [hcell]; simp only [By, List.getElem?_map, hbk]; rfl
      have ci6 : w6.cell? ⟨g, i, none⟩ = some (.slice (some ⟨a, 0, none⟩) b.length c5) := by
        rw [B6.out.cell, List.getElem?_toArray, rfC, List.getElem?_append_left (by rw [rowsC_len, List.length_set]; exact hlt), rowsC_at (by rw [List.length_set]; exact hlt), List.getD_eq_getElem?_getD, List.getElem?_set_self (by exact hlt)]; rfl
      have HG : Hid (w4.heap.size ≤ a) := hge
      have hlc : b.length ≤ c5 := own_capW O6.out
      have hcm : c5 ≤ maxLen := (RowM.len (r := ⟨some ⟨a, 0, none⟩, c5, b⟩) (own_lessR O6.out (Nat.zero_le _))).2
      have HOw := Lib.hid hown
      have HX := Lib.hid hx
      rw [hx] at HOw
      have hxw := xor_u8 x y
      rw [UInt8.toNat_xor] at HOw
      clear hcell hown hx hbk fi ci
      refine wp_region_K (fun W => W.cell? ⟨g, i, none⟩ = some (.slice (some ⟨a, 0, none⟩) b.length c5) ∧ W.cell? ⟨a, k, none⟩ = some (.int .u8 (x.toNat : Int))) 19 (by kernel_rfl) ⟨ci6, hcell2⟩ (fun hSn => ?_)
      refine wpAnyK_pure (i := 0) (oi := ⟨_, _, _, _, _, _⟩) (v := ?_) rfl (by kernel_rfl) (by kernel_rfl) (by kernel_rfl) rfl (fun _ _ _ h => h) (Or.inl ⟨by rfl, ?_⟩) hSn ?_
      rotate_left 1
      · intro W hSw
        go_simp
        try with_reducible rfl
      replace hSn := (KT.set (i := 0) (by decide)).2 hSn
      try simp only [Act.put, List.setIfInBounds_toArray, List.set_cons_zero, List.set_cons_succ]
      refine wpAnyK_pure (i := 1) (oi := ⟨_, _, _, _, _, _⟩) (v := ?_) rfl (by kernel_rfl) (by kernel_rfl) (by kernel_rfl) rfl (fun _ _ _ h => h) (Or.inl ⟨by rfl, ?_⟩) hSn ?_
      rotate_left 1
      · intro W hSw
        go_simp
        try with_reducible rfl
      replace hSn := (KT.set (i := 1) (by decide)).2 hSn
      try simp only [Act.put, List.setIfInBounds_toArray, List.set_cons_zero, List.set_cons_succ]
      refine wpAnyK_pure (i := 2) (oi := ⟨_, _, _, _, _, _⟩) (v := ?_) rfl (by kernel_rfl) (by kernel_rfl) (by kernel_rfl) rfl (fun _ _ _ h => h) (Or.inl ⟨by rfl, ?_⟩) hSn ?_
      rotate_left 1
      · intro W hSw
        go_simp
        try with_reducible rfl
      replace hSn := (KT.set (i := 2) (by decide)).2 hSn
      try simp only [Act.put, List.setIfInBounds_toArray, List.set_cons_zero, List.set_cons_succ]
      refine wpAnyK_pure (i := 3) (oi := ⟨_, _, _, _, _, _⟩) (v := ?_) rfl (by kernel_rfl) (by kernel_rfl) (by kernel_rfl) rfl (fun _ _ _ h => h) (Or.inl ⟨by rfl, ?_⟩) hSn ?_
      rotate_left 1
      · intro W hSw
        go_simp
        try with_reducible rfl
      replace hSn := (KT.set (i := 3) (by decide)).2 hSn
      try simp only [Act.put, List.setIfInBounds_toArray, List.set_cons_zero, List.set_cons_succ]
      refine wpAnyK_pure (i := 4) (oi := ⟨_, _, _, _, _, _⟩) (v := ?_) rfl (by kernel_rfl) (by kernel_rfl) (by kernel_rfl) rfl (fun _ _ _ h => h) (Or.inl ⟨by rfl, ?_⟩) hSn ?_
      rotate_left 1
      · intro W hSw
        go_simp
        try with_reducible rfl
      replace hSn := (KT.set (i := 4) (by decide)).2 hSn
      try simp only [Act.put, List.setIfInBounds_toArray, List.set_cons_zero, List.set_cons_succ]
      refine wpAnyK_chain (i := 5) [19] (oi := ⟨_, _, _, _, _, _⟩) (v := ?_) rfl (by kernel_rfl) (by kernel_rfl) (by kernel_rfl) rfl (by kernel_rfl) (by kernel_rfl) (by kernel_rfl) (fun _ _ _ h => h) (Or.inl ⟨by rfl, ?_⟩) hSn ?_
      rotate_left 1
      · intro W hSw
        try dsimp only at hSw
        obtain ⟨hs1, hs2⟩ := hSw
        go_simp
        try with_reducible rfl
      replace hSn := (KT.set (i := 5) (by decide)).2 hSn
      try simp only [Act.put, List.setIfInBounds_toArray, List.set_cons_zero, List.set_cons_succ]
      refine wpAnyK_pure (i := 6) (oi := ⟨_, _, _, _, _, _⟩) (v := ?_) rfl (by kernel_rfl) (by kernel_rfl) (by kernel_rfl) rfl (fun _ _ _ h => h) (Or.inl ⟨by rfl, ?_⟩) hSn ?_
      rotate_left 1
      · intro W hSw
        go_simp
        try with_reducible rfl
      replace hSn := (KT.set (i := 6) (by decide)).2 hSn
      try simp only [Act.put, List.setIfInBounds_toArray, List.set_cons_zero, List.set_cons_succ]
      refine wpAnyK_pure (i := 7) (oi := ⟨_, _, _, _, _, _⟩) (v := ?_) rfl (by kernel_rfl) (by kernel_rfl) (by kernel_rfl) rfl (fun _ _ _ h => h) (Or.inl ⟨by rfl, ?_⟩) hSn ?_
      rotate_left 1
      · intro W hSw
        go_simp
        try with_reducible rfl
      replace hSn := (KT.set (i := 7) (by decide)).2 hSn
      try simp only [Act.put, List.setIfInBounds_toArray, List.set_cons_zero, List.set_cons_succ]
      refine wpAnyK_pure (i := 8) (oi := ⟨_, _, _, _, _, _⟩) (v := ?_) rfl (by kernel_rfl) (by kernel_rfl) (by kernel_rfl) rfl (fun _ _ _ h => h) (Or.inl ⟨by rfl, ?_⟩) hSn ?_
      rotate_left 1
      · intro W hSw
        go_simp
        try with_reducible rfl
      replace hSn := (KT.set (i := 8) (by decide)).2 hSn
      try simp only [Act.put, List.setIfInBounds_toArray, List.set_cons_zero, List.set_cons_succ]
      refine wpAnyK_pure (i := 9) (oi := ⟨_, _, _, _, _, _⟩) (v := ?_) rfl (by kernel_rfl) (by kernel_rfl) (by kernel_rfl) rfl (fun _ _ _ h => h) (Or.inl ⟨by rfl, ?_⟩) hSn ?_
      rotate_left 1
      · intro W hSw
        go_simp
        try with_reducible rfl
      replace hSn := (KT.set (i := 9) (by decide)).2 hSn
      try simp only [Act.put, List.setIfInBounds_toArray, List.set_cons_zero, List.set_cons_succ]
      refine wpAnyK_pure (i := 10) (oi := ⟨_, _, _, _, _, _⟩) (v := ?_) rfl (by kernel_rfl) (by kernel_rfl) (by kernel_rfl) rfl (fun _ _ _ h => h) (Or.inl ⟨by rfl, ?_⟩) hSn ?_
      rotate_left 1
      · intro W hSw
        go_simp
        try with_reducible rfl
      replace hSn := (KT.set (i := 10) (by decide)).2 hSn
      try simp only [Act.put, List.setIfInBounds_toArray, List.set_cons_zero, List.set_cons_succ]
      refine wpAnyK_pure (i := 11) (oi := ⟨_, _, _, _, _, _⟩) (v := ?_) rfl (by kernel_rfl) (by kernel_rfl) (by kernel_rfl) rfl (fun _ _ _ h => h) (Or.inl ⟨by rfl, ?_⟩) hSn ?_
      rotate_left 1
      · intro W hSw
        go_simp
        try with_reducible rfl
      replace hSn := (KT.set (i := 11) (by decide)).2 hSn
      try simp only [Act.put, List.setIfInBounds_toArray, List.set_cons_zero, List.set_cons_succ]
      refine wpAnyK_chain (i := 12) [19] (oi := ⟨_, _, _, _, _, _⟩) (v := ?_) rfl (by kernel_rfl) (by kernel_rfl) (by kernel_rfl) rfl (by kernel_rfl) (by kernel_rfl) (by kernel_rfl) (fun _ _ _ h => h) (Or.inl ⟨by rfl, ?_⟩) hSn ?_
      rotate_left 1
      · intro W hSw
        try dsimp only at hSw
        obtain ⟨hs1, hs2⟩ := hSw
        go_simp
        try with_reducible rfl
      replace hSn := (KT.set (i := 12) (by decide)).2 hSn
      try simp only [Act.put, List.setIfInBounds_toArray, List.set_cons_zero, List.set_cons_succ]
      refine wpAnyK_pure (i := 13) (oi := ⟨_, _, _, _, _, _⟩) (v := ?_) rfl (by kernel_rfl) (by kernel_rfl) (by kernel_rfl) rfl (fun _ _ _ h => h) (Or.inl ⟨by rfl, ?_⟩) hSn ?_
      rotate_left 1
      · intro W hSw
        go_simp
        try with_reducible rfl
      replace hSn := (KT.set (i := 13) (by decide)).2 hSn
      try simp only [Act.put, List.setIfInBounds_toArray, List.set_cons_zero, List.set_cons_succ]
      refine wpAnyK_pure (i := 14) (oi := ⟨_, _, _, _, _, _⟩) (v := ?_) rfl (by kernel_rfl) (by kernel_rfl) (by kernel_rfl) rfl (fun _ _ _ h => h) (Or.inl ⟨by rfl, ?_⟩) hSn ?_
      rotate_left 1
      · intro W hSw
        go_simp
        try with_reducible rfl
      replace hSn := (KT.set (i := 14) (by decide)).2 hSn
      try simp only [Act.put, List.setIfInBounds_toArray, List.set_cons_zero, List.set_cons_succ]
      refine wpAnyK_chain (i := 15) [19] (oi := ⟨_, _, _, _, _, _⟩) (v := ?_) rfl (by kernel_rfl) (by kernel_rfl) (by kernel_rfl) rfl (by kernel_rfl) (by kernel_rfl) (by kernel_rfl) (fun _ _ _ h => h) (Or.inl ⟨by rfl, ?_⟩) hSn ?_
      rotate_left 1
      · intro W hSw
        try dsimp only at hSw
        obtain ⟨hs1, hs2⟩ := hSw
        go_simp
        try with_reducible rfl
      replace hSn := (KT.set (i := 15) (by decide)).2 hSn
      try simp only [Act.put, List.setIfInBounds_toArray, List.set_cons_zero, List.set_cons_succ]
      refine wpAnyK_pure (i := 16) (oi := ⟨_, _, _, _, _, _⟩) (v := ?_) rfl (by kernel_rfl) (by kernel_rfl) (by kernel_rfl) rfl (fun _ _ _ h => h) (Or.inl ⟨by rfl, ?_⟩) hSn ?_
      rotate_left 1
      · intro W hSw
        go_simp
        try with_reducible rfl
      replace hSn := (KT.set (i := 16) (by decide)).2 hSn
      try simp only [Act.put, List.setIfInBounds_toArray, List.set_cons_zero, List.set_cons_succ]
      refine wpAnyK_pure (i := 17) (oi := ⟨_, _, _, _, _, _⟩) (v := ?_) rfl (by kernel_rfl) (by kernel_rfl) (by kernel_rfl) rfl (fun _ _ _ h => h) (Or.inl ⟨by rfl, ?_⟩) hSn ?_
      rotate_left 1
      · intro W hSw
        go_simp
        try with_reducible rfl
      replace hSn := (KT.set (i := 17) (by decide)).2 hSn
      try simp only [Act.put, List.setIfInBounds_toArray, List.set_cons_zero, List.set_cons_succ]
      refine wpAnyK_pure (i := 18) (oi := ⟨_, _, _, _, _, _⟩) (v := ?_) rfl (by kernel_rfl) (by kernel_rfl) (by kernel_rfl) rfl (fun _ _ _ h => h) (Or.inl ⟨by rfl, ?_⟩) hSn ?_
      rotate_left 1
      · intro W hSw
        go_simp
        try with_reducible rfl
      replace hSn := (KT.set (i := 18) (by decide)).2 hSn
      try simp only [Act.put, List.setIfInBounds_toArray, List.set_cons_zero, List.set_cons_succ]
      clear hSn
      refine wpAnyK_ready (rs := [19]) (by kernel_rfl) (by simp) ?_
      refine AllReadyK.cons rfl (fun K hK => ?_) AllReadyK.nil
      go_simp
      skip
      refine hK.out _ _ (fun h => absurd h (by decide +kernel)) (fun hSn => ?_)
      clear hK K
      try simp only [Act.put, List.setIfInBounds_toArray, List.set_cons_zero, List.set_cons_succ]
      refine wpAnyK_done (by kernel_rfl) ?_ _
      go_wp2
      go_ret
      refine RPostS.is { m with rows := rows.set i ⟨some ⟨a, 0, none⟩, c5, xorAt b k y⟩, A := none, c := 0, W := [] } (T4.out.trans ?_) (RelR.edit HDD.out HWf.out H.out.n HI.out N2.out.l (by rw [HBe.out])) rfl
      have hxl : (xorAt b k y).length = b.length := xorAt_len b k y
      have hrn : ((rows.set i (⟨some ⟨a, 0, none⟩, c5, b⟩ : RowM)).set i (⟨some ⟨a, 0, none⟩, c5, xorAt b k y⟩ : RowM)) = rows.set i ⟨some ⟨a, 0, none⟩, c5, xorAt b k y⟩ := List.set_set ..
      have hag : g ≠ a := by have h1 := HG.out; have h2 := T4.out.ok.b.lt; omega
      have KA : Keeps (fun j => j = g ∨ w4.heap.size ≤ j) w4 ((w6.setCell ⟨a, k, none⟩ (.int .u8 ((x.toNat ^^^ y.toNat : Nat) : Int))).drew) := (Keeps.setCell (S := fun j => j = g ∨ w4.heap.size ≤ j) (p := ⟨a, k, none⟩) (K6.out.mono (fun j _ h => .inl h)) (.inr HG.out) _).drew
      have hown3 : RowM.own ((w6.setCell ⟨a, k, none⟩ (.int .u8 ((x.toNat ^^^ y.toNat : Nat) : Int))).drew) ⟨some ⟨a, 0, none⟩, c5, xorAt b k y⟩ := by
        have e1 : By (xorAt b k y) = (By b).set k (.int .u8 ((x.toNat ^^^ y.toNat : Nat) : Int)) := by
          have e2 : b.getD k 0 = x := HX.out
          unfold xorAt
          rw [e2]
          simp [By, List.map_set, UInt8.toNat_xor]
        show World.ownsRow _ _ _ _ (.slice _ (xorAt b k y).length c5) (xorAt b k y).length (By (xorAt b k y))
        rw [hxl, e1]
        exact own_lessR HOw.out (Nat.zero_le _)
      refine RfTo.rows3 (m := { m with rows := rows, A := none, c := 0, W := [] }) T4.out.ok (KA.mono (fun j hj h => h.elim id (fun h => by omega))) (by rw [List.length_set]; exact N2.out.n) (fun r hr => ?_) (fun r hr => ?_) ?_
      · rcases List.mem_or_eq_of_mem_set hr with h1 | rfl
        · exact RowM.keep (T4.out.ok.o r h1) KA (fun j e he => he.elim (fun h => T4.out.ok.off (T4.out.ok.o r h1) e (.inl h)) (fun h => by have := RowM.lt (T4.out.ok.o r h1) e; omega))
        · exact hown3
      · rcases List.mem_or_eq_of_mem_set hr with h1 | rfl
        · exact .inl h1
        · exact .inr (fun j e => by have e : some a = some j := e; injection e with e; subst e; exact HG.out)
      · have h := (B6.out.far (p := ⟨a, k, none⟩) hag (.int .u8 ((x.toNat ^^^ y.toNat : Nat) : Int)))
        have e3 : (rfC { m with rows := rows.set i ⟨some ⟨a, 0, none⟩, c5, b⟩, A := none, c := 0, W := [] }).toArray = (rfC { m with rows := rows.set i ⟨some ⟨a, 0, none⟩, c5, xorAt b k y⟩, A := none, c := 0, W := [] }).toArray := by
          have e4 : rowsC (rows.set i (⟨some ⟨a, 0, none⟩, c5, b⟩ : RowM)) = rowsC (rows.set i (⟨some ⟨a, 0, none⟩, c5, xorAt b k y⟩ : RowM)) := by
            simp only [rowsC, List.map_set, RowM.v, hxl]
          simp only [rfC, e4]
        rw [e3] at h
        exact h
end Go.Proofs.YthamlphebnhcpaaDoor
