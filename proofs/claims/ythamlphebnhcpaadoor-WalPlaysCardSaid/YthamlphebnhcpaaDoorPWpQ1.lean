/-
  disk: the document's own disk: Sync.
  disk: the document's own disk: Cut.
  disk: the document's own disk: Append.
-/
import Derived.Test.YthamlphebnhcpaaDoorPWpQ0
namespace Go.Proofs.YthamlphebnhcpaaDoor
open Go.RowKit

theorem doS_sameR {X Y : List (List UInt8)} {s : StD} (hn : 16 ≤ X.length) (hm : 16 ≤ Y.length) (h : okS X s) (he : ∀ i, i < 16 → rowD X i = rowD Y i) : ∀ i, i < 16 → rowD (doS 0 X s) i = rowD (doS 0 Y s) i := by
  intro i hi
  cases s with
  | put j b => have hj : j < 16 := h.1; rw [doS, doS, rowD_set (by omega), rowD_set (by omega), he i hi, he (0 + j) (by omega)]
  | cut j n => have hj : j < 16 := h.1; rw [doS, doS, rowD_set (by omega), rowD_set (by omega), he i hi, he (0 + j) (by omega)]
theorem okW_sameR {W : List StD} : ∀ {X Y : List (List UInt8)}, 16 ≤ X.length → 16 ≤ Y.length → okW X W → (∀ i, i < 16 → rowD X i = rowD Y i) → okW Y W ∧ ∀ i, i < 16 → rowD (doAll 0 X W) i = rowD (doAll 0 Y W) i := by
  induction W with
  | nil => intro X Y _ _ _ he; exact ⟨True.intro, he⟩
  | cons s r ih =>
    intro X Y hn hm h he
    obtain ⟨h1, h2⟩ := ih (X := doS 0 X s) (Y := doS 0 Y s) (by rw [doS_len]; exact hn) (by rw [doS_len]; exact hm) h.2 (doS_sameR hn hm h.1 he)
    exact ⟨⟨okS_same h.1 he, h1⟩, h2⟩
theorem dataR_len {m : RfM} (n : m.rows.length = 16) : (dataR m).length = 16 := by rw [dataR, List.length_map, n]
theorem RelR.ok {D : DkD} {m : RfM} (h : RelR D m) (wf : DkWf D) (n : m.rows.length = 16) : okW (dataR m) (m.W.map PutR.d) ∧ ∀ i, i < 16 → rowD (doAll 0 D.X D.W) i = rowD (doAll 0 (dataR m) (m.W.map PutR.d)) i := by
  have h1 := okW_sameR (X := D.X) (Y := dataR m) (by rw [wf.n]; omega) (by rw [dataR_len n]; omega) wf.w h.x
  rw [h.w] at h1 ⊢
  exact h1
theorem RelR.le {D : DkD} {m : RfM} (h : RelR D m) (wf : DkWf D) (n : m.rows.length = 16) : ∀ k, (rowD (dataR m) k).length ≤ 16777216 := fun k => by
  by_cases hk : k < 16
  · rw [← h.x k hk]; exact wf.m k
  · unfold rowD
    rw [List.getD_eq_getElem?_getD, List.getElem?_eq_none (by rw [dataR_len n]; omega)]
    exact Nat.zero_le _
/-- What is read is the same. -/
theorem NowTo.at_ {w w' : World} {m : RfM} {rows : List RowM} {D : DkD} (t : NowTo w m w' rows) (h : RelR D m) (wf : DkWf D) (n : m.rows.length = 16) {i : Nat} (hi : i < 16) : (rows.getD i noRow).l = rowD D.X (16 + i) := by
  rw [wf.e i hi, (h.ok wf n).2 i hi, ← t.l]
  unfold rowD
  rw [List.getD_eq_getElem?_getD, List.getD_eq_getElem?_getD, List.getElem?_map, List.getElem?_eq_getElem (by rw [t.n]; exact hi)]
  rfl
theorem RelR.now {D : DkD} {m : RfM} (h : RelR D m) (wf : DkWf D) {w : World} {g : Nat} (ho : RfOk w g m) (hW : m.W.length ≤ 1000) : Calls Tryd.prog 49 #[ptrD g] w fun e w' => ∃ rows, e = .returned (.agg (rowsC rows).toArray) ∧ NowTo w m w' rows :=
  now_any w g m ho (h.ok wf ho.n).1 hW (h.le wf ho.n)
theorem burnR_rows (m : RfM) : (burnR m).1.rows = m.rows ∧ (burnR m).1.W = m.W := by
  unfold burnR; split
  · exact ⟨rfl, rfl⟩
  · split
    · exact ⟨rfl, rfl⟩
    · split <;> exact ⟨rfl, rfl⟩
theorem rfC_rows {m : RfM} {rows : List RowM} (n : m.rows.length = 16) (k : rows.length = 16) : ((rfC m).toArray.toList.take 0 ++ (rowsC rows).toArray.toList ++ (rfC m).toArray.toList.drop (0 + (rowsC rows).toArray.size)).toArray = (rfC { m with rows := rows }).toArray := by
  have h : (rowsC m.rows).length = 16 := by rw [rowsC_len, n]
  have h2 : (rowsC rows).length = 16 := by rw [rowsC_len, k]
  show (List.take 0 (rfC m) ++ rowsC rows ++ (rfC m).drop (0 + (rowsC rows).length)).toArray = _
  rw [h2, rfC, List.drop_append_of_le_length (by omega), List.drop_eq_nil_of_le (by omega)]
  rfl
theorem rfC_noW {m : RfM} (n : m.rows.length = 16) : (rfC m).toArray.setIfInBounds 16 (.slice none 0 0) = (rfC { m with A := none, c := 0, W := [] }).toArray := by
  have h : (rowsC m.rows).length = 16 := by rw [rowsC_len, n]
  simp only [rfC, List.setIfInBounds_toArray]
  rw [List.set_append_right _ _ (by omega), h]; rfl
theorem rfC_at16 {m : RfM} (n : m.rows.length = 16) : (rfC m).toArray[16]? = some (.slice m.A m.W.length m.c) := by
  rw [List.getElem?_toArray, rfC, List.getElem?_append_right (by rw [rowsC_len, n]; omega), rowsC_len, n]; rfl

set_option maxHeartbeats 1000000 in
theorem rsync_anyS (w : World) (g : Nat) (m : RfM) (D : DkD) (h : RfOk w g m) (hD : RelR D m) (wf : DkWf D) (hW : m.W.length ≤ 1000) : Calls Tryd.prog 51 #[ptrD g] w (RPostS w g m (syncD D)) := by
  have H := Lib.hid h
  have HDD := Lib.hid hD
  have HWf := Lib.hid wf
  have HBu := Lib.hid (rburn_any w g m h (by rw [← hD.f]; exact wf.g))
  obtain ⟨R, hR⟩ : ∃ R, burnR m = R := ⟨_, rfl⟩
  have HR := Lib.hid hR
  obtain ⟨m1, n1⟩ := R
  rw [hR] at HBu
  have HRR : Hid (m1.rows = m.rows ∧ m1.W = m.W) := by have := burnR_rows m; rw [hR] at this; exact this
  have HWl : Hid (m.W.length ≤ 1000) := hW
  clear h hD wf hR hW
  unfold ptrD
  by_cases hn : n1 = 0
  · subst hn
    have HX : Hid (D.dead = false ∧ RelR (burnD D).1 m1 ∧ (burnD D).2 = 0) := by
      cases hd : D.dead with
      | true =>
        have h1 : m.dead = true := by rw [← HDD.out.d]; exact hd
        have h2 := HR.out
        unfold burnR at h2
        rw [if_pos h1] at h2
        injection h2 with _ h3
        cases h3
      | false =>
        obtain ⟨h1, h2⟩ := RelR.burn HDD.out HWf.out.f hd
        rw [HR.out] at h1 h2
        exact ⟨rfl, h1, h2.symm⟩
    have HSy : Hid (syncD D = (settleD (burnD D).1.W.length (burnD D).1, 0)) := by
      show _ = _
      unfold syncD
      rw [HX.out.1, HX.out.2.2]
      rfl
    have HWfb : Hid (DkWf (burnD D).1) := burnD_wf HWf.out
    rw [HSy.out]
    go_enter Tryd.func51, Tryd.ntmps51
    go_wp2_with (first
      | (go_at_call 52; refine HBu.out.mono ?_; rintro e w1 ⟨rfl, hm1⟩; have M1 := Lib.hid hm1; clear hm1)
      | (go_at_call 49; refine (RelR.now HX.out.2.1 HWfb.out M1.out.ok (by rw [HRR.out.2]; exact HWl.out)).mono ?_; rintro e w2 ⟨rows, rfl, hnw⟩; have N2 := Lib.hid hnw; clear hnw; (have B2 : Hid (Blk w2 g 57 (rfC m1).toArray) := M1.out.ok.b.below N2.out.v M1.out.ok.b.lt))
      | ((with_reducible show wpList _ _ _ (⟨none, .store 50 _ _, _, _, _, _⟩ :: _) _ _); refine wpList_store_partD rfl 50 (.tmp 13) (.tmp 11) rfl g 0 57 (rfC m1).toArray (rowsC rows).toArray (rfC { m1 with rows := rows }).toArray (.agg (rowsC rows).toArray) rfl rfl rfl B2.out (by rw [List.size_toArray, List.size_toArray, rowsC_len, N2.out.n, rfC_len M1.out.ok.n]; omega) (by rw [List.size_toArray, rowsC_len, N2.out.n]; exact Tryd.rowsSize) (rowsC_one _) (rfC_rows M1.out.ok.n N2.out.n) ?_; intro w3 h5 h6 h7; have B3 := Lib.hid h5; have K3 := Lib.hid h6; clear h5 h6 h7; (have c16 : w3.cell? ⟨g, 16, none⟩ = some (.slice m1.A m1.W.length m1.c) := (B3.out.cell 16).trans (rfC_at16 N2.out.n)); (have f16 : w3.frozen? ⟨g, 16, none⟩ = false := B3.out.frozen _)))
    go_ret
    have B4 : Blk (w3.setCell ⟨g, 16, none⟩ (.slice none 0 0)) g 57 (rfC { m1 with rows := rows, A := none, c := 0, W := [] }).toArray := by
      have h := B3.out.set 16 (.slice none 0 0)
      rw [rfC_noW N2.out.n] at h
      exact h
    have K4 : Keeps (fun j => j = g) w2 (w3.setCell ⟨g, 16, none⟩ (.slice none 0 0)) := Keeps.setCell (S := fun j => j = g) (p := ⟨g, 16, none⟩) K3.out rfl _
    have ho2 : RfOk w2 g m1 := M1.out.ok.below N2.out.v
    refine RPostS.is { m1 with rows := rows, A := none, c := 0, W := [] } (M1.out.trans ⟨⟨B4, N2.out.n, fun r hr => RowM.keep (N2.out.o r hr) K4 (fun j e he => ho2.off (N2.out.o r hr) e (.inl he)), World.ownsRow_nil _ _ _ _, fun p hp => by cases hp⟩, fun j hj => ?_, fun j hj => ?_, ?_⟩) ⟨fun i hi => ?_, ?_, HX.out.2.1.f, HX.out.2.1.d⟩ rfl
    · rcases hj with h | h
      · exact .inl (.inl h)
      · cases h
    · rcases hj with (h | h) | ⟨r, hr | ⟨p, hp, _⟩, hb⟩
      · exact .inl (.inl (.inl h))
      · cases h
      · rcases N2.out.a r hr with h1 | h1
        · exact .inl (.inr ⟨r, .inl h1, hb⟩)
        · exact .inr (h1 j hb)
      · cases hp
    · exact (Keeps.of_below N2.out.v _).trans (K4.mono (fun j _ h => .inl h))
    · show rowD (doAll 0 (burnD D).1.X ((burnD D).1.W.take (burnD D).1.W.length)) i = rowD (rows.map (·.l)) i
      rw [List.take_length, N2.out.l]
      exact (HX.out.2.1.ok HWfb.out M1.out.ok.n).2 i hi
    · show (burnD D).1.W.drop (burnD D).1.W.length = []
      exact List.drop_length
  · have hn2 : decide (n1 = 0) = false := decide_eq_false hn
    have HX : Hid (RelR (syncD D).1 m1 ∧ n1 = (syncD D).2) := by
      show RelR _ _ ∧ _
      unfold syncD
      cases hd : D.dead with
      | true =>
        have h1 : m.dead = true := by rw [← HDD.out.d]; exact hd
        have h2 := HR.out
        unfold burnR at h2
        rw [if_pos h1] at h2
        injection h2 with h3 h4
        rw [← h3]
        exact ⟨HDD.out, h4.symm⟩
      | false =>
        obtain ⟨h1, h2⟩ := RelR.burn HDD.out HWf.out.f hd
        rw [HR.out] at h1 h2
        have h3 : ((burnD D).2 == 0) = false := by rw [← h2]; simpa using hn
        rw [h3]
        exact ⟨h1, h2⟩
    go_enter Tryd.func51, Tryd.ntmps51
    go_wp2_with (first
      | (go_at_call 52; refine HBu.out.mono ?_; rintro e w1 ⟨rfl, hm1⟩; have M1 := Lib.hid hm1; clear hm1))
    go_ret
    exact RPostS.is m1 M1.out HX.out.1 HX.out.2
theorem rsync_any (w : World) (g : Nat) (m : RfM) (D : DkD) (h : RfOk w g m) (hD : RelR D m) (wf : DkWf D) (hW : m.W.length ≤ 1000) : Calls Tryd.prog 51 #[ptrD g] w (RPost w g m (syncD D).1) :=
  (rsync_anyS w g m D h hD wf hW).mono fun _ _ h => h.weak
end Go.Proofs.YthamlphebnhcpaaDoor

namespace Go.Proofs.YthamlphebnhcpaaDoor
open Go.RowKit

theorem Tryd.putinfo : (Tryd.prog.info? 97).map (fun i => (i.zero, i.size, i.bytes)) = some (some (.agg #[.int .i64 0, .int .i64 0, .bool false, .slice none 0 0]), 4, 48) := by kernel_rfl
theorem Tryd.slinfo : (Tryd.prog.info? 39).map (fun i => (i.zero, i.size, i.bytes)) = some (some (.slice none 0 0), 1, 24) := by kernel_rfl
theorem index_rows (wq : World) (rows : List RowM) (n : rows.length = 16) (i : Nat) (hi : i < 16) : (Instr.index 50 (.agg (rowsC rows).toArray) (.int .i64 (i : Int))).run Tryd.prog wq = .ok (.slice (rows.getD i noRow).A (rows.getD i noRow).l.length (rows.getD i noRow).c) wq := by
  obtain ⟨i0, hi0, hz0, hz1, hz2⟩ := infoD Tryd.slinfo
  have h1 : (rowsC rows)[i]? = some (rows.getD i noRow).v := rowsC_at (by omega)
  have h2 : (0 : Int) ≤ (i : Int) ∧ (i : Int) < 16 := by omega
  obtain ⟨h3, h4⟩ := List.getElem?_eq_some_iff.1 h1
  simp [Instr.index, asIntOf, run_underlying Tryd.underlying50, part, isAgg, run_underlying Tryd.underlying39, sizeOf, typeInfo, hi0, hz1, h2, hi]
  rw [h1]
  simp [RowM.v, List.getD_eq_getElem?_getD]
theorem rfC_setW {m : RfM} (n : m.rows.length = 16) (A : Option Addr) (c : Nat) (p : PutR) : (rfC m).toArray.setIfInBounds 16 (.slice A (m.W.length + 1) c) = (rfC { m with A := A, c := c, W := m.W ++ [p] }).toArray := by
  have h : (rowsC m.rows).length = 16 := by rw [rowsC_len, n]
  have e : (m.W ++ [p]).length = m.W.length + 1 := by simp
  simp only [rfC, List.setIfInBounds_toArray, e]
  rw [List.set_append_right _ _ (by omega), h]; rfl
/-- One more step waits. -/
theorem RfTo.wait {w0 w w' : World} {g : Nat} {m : RfM} {p : PutR} {A : Option Addr} {c : Nat} (b0 : Below w0.heap.size w0 w) (h : RfOk w g m) (ho : w'.ownsRow 0 97 4 (.slice A (m.W.length + 1) c) (m.W.length + 1) (putsC m.W ++ putC p)) (hg : w.grownBy w' (Value.slice m.A m.W.length m.c).ownBlock)
    (hn : A.map (·.block) = m.A.map (·.block) ∨ A.map (·.block) = some w.heap.size) (hp : p.log < 16 ∧ (p.cut = true → 0 ≤ p.n) ∧ p.row.own w) (hpn : ∀ j, p.row.bk = some j → w0.heap.size ≤ j) :
    RfTo w0 g m (w'.setCell ⟨g, 16, none⟩ (.slice A (m.W.length + 1) c)) { m with A := A, c := c, W := m.W ++ [p] } := by
  have hgl := h.b.lt
  have K1 : Keeps (fun j => m.A.map (·.block) = some j) w w' := Keeps.grown (Keeps.refl _ w) hg (fun k e => by rw [own_blkD] at e; exact e)
  have hgA : m.A.map (·.block) ≠ some g := fun e => h.b.notOwn h.ww (by decide) (by rw [own_blkD]; exact e.symm)
  have hgA2 : A.map (·.block) ≠ some g := fun e => by
    rcases hn with h1 | h1
    · exact hgA (h1 ▸ e)
    · rw [h1] at e; injection e with e; omega
  have hb1 : Blk w' g 57 (rfC m).toArray := h.b.keeps K1 hgA
  have K2 : Keeps (footR g m) w (w'.setCell ⟨g, 16, none⟩ (.slice A (m.W.length + 1) c)) := Keeps.setCell (S := footR g m) (p := ⟨g, 16, none⟩) (K1.mono (fun j _ e => .inr e)) (.inl rfl) _
  have K3 : Keeps (fun j => j = g) w' (w'.setCell ⟨g, 16, none⟩ (.slice A (m.W.length + 1) c)) := Keeps.setCell (S := fun j => j = g) (p := ⟨g, 16, none⟩) (Keeps.refl _ _) rfl _
  have hsz := b0.size
  refine ⟨⟨by have hs := hb1.set 16 (.slice A (m.W.length + 1) c); rw [rfC_setW h.n A c p] at hs; exact hs, h.n, fun r hr => RowM.keep (h.o r hr) K2 (fun j e => h.off (h.o r hr) e), ?_, fun q hq => ?_⟩, fun j hj => ?_, fun j hj => ?_, (Keeps.of_below b0 _).trans K2⟩
  · have e1 : (m.W ++ [p]).length = m.W.length + 1 := by simp
    have e2 : putsC (m.W ++ [p]) = putsC m.W ++ putC p := by simp [putsC]
    show World.ownsRow _ _ _ _ (.slice A (m.W ++ [p]).length c) (m.W ++ [p]).length (putsC (m.W ++ [p]))
    rw [e1, e2]
    exact own_keep ho K3 (fun j e he => hgA2 (by rw [own_blkD] at e; rw [e, he]))
  · rcases List.mem_append.1 hq with h1 | h1
    · exact ⟨(h.p q h1).1, (h.p q h1).2.1, RowM.keep (h.p q h1).2.2 K2 (fun j e => h.off (h.p q h1).2.2 e)⟩
    · rw [List.mem_singleton.1 h1]
      exact ⟨hp.1, hp.2.1, RowM.keep hp.2.2 K2 (fun j e => h.off hp.2.2 e)⟩
  · rcases hj with h1 | h1
    · exact .inl (.inl h1)
    · rcases hn with h2 | h2
      · exact .inl (.inr (h2 ▸ h1))
      · have h1 : A.map (·.block) = some j := h1
        rw [h2] at h1; injection h1 with h1; exact .inr (by omega)
  · rcases hj with (h1 | h1) | ⟨r, hr | ⟨q, hq, hqr⟩, hb⟩
    · exact .inl (.inl (.inl h1))
    · rcases hn with h2 | h2
      · exact .inl (.inl (.inr (h2 ▸ h1)))
      · have h1 : A.map (·.block) = some j := h1
        rw [h2] at h1; injection h1 with h1; exact .inr (by omega)
    · exact .inl (.inr ⟨r, .inl hr, hb⟩)
    · rcases List.mem_append.1 hq with h1 | h1
      · exact .inl (.inr ⟨r, .inr ⟨q, h1, hqr⟩, hb⟩)
      · rw [List.mem_singleton.1 h1] at hqr
        rw [← hqr] at hb
        exact .inr (hpn j hb)
theorem putC_one (p : PutR) : ∀ u ∈ putC p, u.oneCell' = true := by
  intro u hu
  simp only [putC, List.mem_cons, List.not_mem_nil, or_false] at hu
  rcases hu with rfl | rfl | rfl | rfl <;> rfl
theorem SeesV.blkR {w : World} {g : Nat} {t : TypeId} {cs : List Value} (h : Blk w g t cs.toArray) : SeesV w w.heap.size (some ⟨g, 0, none⟩) cs := by
  refine .inr ⟨g, 0, rfl, h.lt, fun i hi => ?_⟩
  rw [Nat.zero_add, h.cell]
  simp [hi]
theorem RfOk.grown_blk {w w' : World} {g : Nat} {m : RfM} (h : RfOk w g m) (hg : w.grownBy w' (Value.slice m.A m.W.length m.c).ownBlock) : Blk w' g 57 (rfC m).toArray := by
  have K1 : Keeps (fun j => m.A.map (·.block) = some j) w w' := Keeps.grown (Keeps.refl _ w) hg (fun k e => by rw [own_blkD] at e; exact e)
  exact h.b.keeps K1 (fun e => h.b.notOwn h.ww (by decide) (by rw [own_blkD]; exact e.symm))
theorem RelR.wait {D : DkD} {m m' : RfM} {s : StD} (h : RelR D m) (wf : DkWf D) (hs : (match s with | .put i _ => i | .cut i _ => i) < 16) (hr : m'.rows = m.rows) (hw : m'.W.map PutR.d = m.W.map PutR.d ++ [s]) (hf : m'.fuse = m.fuse) (hd : m'.dead = m.dead) : RelR (waitD D s) m' := by
  refine ⟨fun i hi => ?_, ?_, h.f.trans hf.symm, h.d.trans hd.symm⟩
  · show rowD (doS 16 D.X s) i = rowD (m'.rows.map (·.l)) i
    rw [doS_low wf.n hs hi, hr]
    exact h.x i hi
  · show D.W ++ [s] = _
    rw [hw, h.w]

set_option maxHeartbeats 2000000 in
theorem rcut_anyS (w : World) (g : Nat) (m : RfM) (D : DkD) (h : RfOk w g m) (hD : RelR D m) (wf : DkWf D) (hW : m.W.length ≤ 1000) (log n : Int) : Calls Tryd.prog 25 #[ptrD g, .int .i64 log, .int .i64 n] w (RPostS w g m (cutD D log n)) := by
  have H := Lib.hid h
  have HDD := Lib.hid hD
  have HWf := Lib.hid wf
  have HWl := Lib.hid hW
  have c18 := h.cD
  have HNo : Hid ((mayD log && (decide (0 ≤ n) && decide (n ≤ ((rowD D.X (16 + log.toNat)).length : Int)))) = false → cutD D log n = (D, 2)) := fun e => by unfold cutD; rw [e]; rfl
  clear h hD wf hW
  unfold ptrD
  by_cases h0 : log < 0
  · have HC : Hid (cutD D log n = (D, 2)) := HNo.out (by unfold mayD; rw [decide_eq_false (by omega : ¬ (0 ≤ log))]; rfl)
    have hd0 : decide (log < 0) = true := decide_eq_true h0
    rw [HC.out]
    go_enter Tryd.func25, Tryd.ntmps25
    go_wp2
    go_ret
    exact RPostS.is m (RfTo.refl H.out) HDD.out rfl
  · by_cases h1 : 16 ≤ log
    · have HC : Hid (cutD D log n = (D, 2)) := HNo.out (by unfold mayD; rw [decide_eq_false (by omega : ¬ (log < 16)), Bool.and_false]; rfl)
      have hd0 : decide (log < 0) = false := decide_eq_false h0
      have hd1 : decide (16 ≤ log) = true := decide_eq_true h1
      rw [HC.out]
      go_enter Tryd.func25, Tryd.ntmps25
      go_wp2
      go_ret
      exact RPostS.is m (RfTo.refl H.out) HDD.out rfl
    · obtain ⟨i, rfl⟩ : ∃ i : Nat, log = (i : Int) := ⟨log.toNat, by omega⟩
      have hi : i < 16 := by omega
      have HI := Lib.hid hi
      have hd0 : decide ((i : Int) < 0) = false := decide_eq_false h0
      have hd1 : decide ((16 : Int) ≤ (i : Int)) = false := decide_eq_false h1
      have hm : mayD (i : Int) = true := by unfold mayD; rw [decide_eq_true (by omega), decide_eq_true (by omega)]; rfl
      by_cases h2 : n < 0
      · have HC : Hid (cutD D (i : Int) n = (D, 2)) := HNo.out (by rw [decide_eq_false (by omega : ¬ (0 ≤ n)), Bool.false_and, Bool.and_false])
        have hd2 : decide (n < 0) = true := decide_eq_true h2
        rw [HC.out]
        go_enter Tryd.func25, Tryd.ntmps25
        go_wp2
        go_ret
        exact RPostS.is m (RfTo.refl H.out) HDD.out rfl
      · obtain ⟨k, rfl⟩ : ∃ k : Nat, n = (k : Int) := ⟨n.toNat, by omega⟩
        have hd2 : decide ((k : Int) < 0) = false := decide_eq_false h2
        obtain ⟨b, hb⟩ : ∃ b, rowD D.X (16 + i) = b := ⟨_, rfl⟩
        have HBe := Lib.hid hb
        have hti : (i : Int).toNat = i := Int.toNat_natCast i
        rw [hti, hm, hb] at HNo
        by_cases h3 : b.length < k
        · have HC : Hid (cutD D (i : Int) (k : Int) = (D, 2)) := HNo.out (by rw [decide_eq_false (by omega : ¬ ((k : Int) ≤ (b.length : Int))), Bool.and_false]; rfl)
          have h3' : (b.length : Int) < (k : Int) := by omega
          have hd3 : decide ((b.length : Int) < (k : Int)) = true := decide_eq_true h3'
          rw [HC.out]
          clear HNo
          go_enter Tryd.func25, Tryd.ntmps25
          go_wp2_with (first
            | (go_at_call 49; refine (RelR.now HDD.out HWf.out H.out HWl.out).mono ?_; rintro e w2 ⟨rows, rfl, hnw⟩; have N2 := Lib.hid hnw; (have hix := fun wq => index_rows wq rows hnw.n i HI.out); (rw [hnw.at_ HDD.out HWf.out H.out.n HI.out, HBe.out] at hix); clear hnw))
          go_ret
          exact RPostS.is m (RfTo.below H.out N2.out.v) HDD.out rfl
        · have h3' : ¬ (b.length : Int) < (k : Int) := by omega
          have hd3 : decide ((b.length : Int) < (k : Int)) = false := decide_eq_false h3'
          have HY : Hid (cutD D (i : Int) (k : Int) = bif D.dead then (D, 20) else burnD (waitD D (.cut i k))) := by
            show _ = _
            unfold cutD
            rw [hti, hb, hm, decide_eq_true (by omega : (0 : Int) ≤ (k : Int)), decide_eq_true (by omega : (k : Int) ≤ (b.length : Int)), Int.toNat_natCast]
            cases D.dead <;> rfl
          clear HNo
          by_cases hd : m.dead = true
          · rw [hd] at c18
            have hDd : D.dead = true := HDD.out.d.trans hd
            rw [hDd] at HY
            have HC : Hid (cutD D (i : Int) (k : Int) = (D, 20)) := HY.out
            rw [HC.out]
            have C18 := Lib.hid c18
            clear c18
            go_enter Tryd.func25, Tryd.ntmps25
            go_wp2_with (first
              | (go_at_call 49; refine (RelR.now HDD.out HWf.out H.out HWl.out).mono ?_; rintro e w2 ⟨rows, rfl, hnw⟩; have N2 := Lib.hid hnw; (have hix := fun wq => index_rows wq rows hnw.n i HI.out); (rw [hnw.at_ HDD.out HWf.out H.out.n HI.out, HBe.out] at hix); (have c18b := (H.out.below hnw.v).cD); (rw [hd] at c18b); clear hnw))
            go_ret
            exact RPostS.is m (RfTo.below H.out N2.out.v) HDD.out rfl
          · have hd' : m.dead = false := by simpa using hd
            have hDd : D.dead = false := HDD.out.d.trans hd'
            rw [hDd] at HY
            have HC : Hid (cutD D (i : Int) (k : Int) = burnD (waitD D (.cut i k))) := HY.out
            rw [HC.out]
            obtain ⟨i0, hi0, hz0, hz1, hz2⟩ := infoD Tryd.putinfo
            have HI0 := Lib.hid hi0
            clear c18 hi0
            go_enter Tryd.func25, Tryd.ntmps25
            go_upto_region 5 with (first
              | (go_at_call 49; refine (RelR.now HDD.out HWf.out H.out HWl.out).mono ?_; rintro e w2 ⟨rows, rfl, hnw⟩; have N2 := Lib.hid hnw; (have hix := fun wq => index_rows wq rows hnw.n i HI.out); (rw [hnw.at_ HDD.out HWf.out H.out.n HI.out, HBe.out] at hix); (have c18b := (H.out.below hnw.v).cD); (rw [hd'] at c18b); clear hnw))
            have H2 : Hid (RfOk w2 g m) := H.out.below N2.out.v
            have c16 : w2.cell? ⟨g, 16, none⟩ = some (.slice m.A m.W.length m.c) := H2.out.cW
            obtain ⟨W2, hW2⟩ : ∃ W, w2.alloc (.cells #[.int .i64 (i : Int), .int .i64 (k : Int), .bool true, .slice none 0 0] 97) = W := ⟨_, rfl⟩
            have VA : Hid (Below w2.heap.size w2 W2) := (by rw [← hW2]; exact nxAlloc (nxRefl w2) _)
            have BA : Hid (Blk W2 w2.heap.size 97 (putC ⟨i, (k : Int), true, none, 0, []⟩).toArray) := (by rw [← hW2]; exact heap_alloc_new w2 _)
            have SA : Hid (SeesV W2 W2.heap.size (some ⟨w2.heap.size, 0, none⟩) (putC ⟨i, (k : Int), true, none, 0, []⟩)) := SeesV.blkR BA.out
            have H3 : Hid (RfOk W2 g m) := H2.out.below VA.out
            have hwl : m.W.length ≤ 1000 := HWl.out
            go_upto_region 6 with (first
              | (at_builtin; refine wpList_append_seesV rfl (.tmp 34) (.tmp 38) 55 rfl 0 97 i0 _ 4 48 Tryd.underlying55 HI0.out hz0 hz1 hz2 rfl (by decide) (.slice m.A m.W.length m.c) m.W.length (putsC m.W) rfl H3.out.ww _ (some ⟨w2.heap.size, 0, none⟩) 1 1 (putC ⟨i, (k : Int), true, none, 0, []⟩) rfl rfl SA.out (putC_one _) (by omega) (by omega) (Nat.zero_le _) ?_; intro v3 w3 h1 h2 h3; obtain ⟨A3, c3, rfl⟩ := own_form h1; have O3 := Lib.hid h1; have G3 := Lib.hid h2; have N3 : Hid (A3.map (·.block) = m.A.map (·.block) ∨ A3.map (·.block) = some W2.heap.size) := (by rw [own_blkD, own_blkD] at h3; exact h3); (have B3 := RfOk.grown_blk H3.out h2); (have c16b : w3.cell? ⟨g, 16, none⟩ = some (.slice m.A m.W.length m.c) := (B3.cell 16).trans (rfC_at16 H3.out.n)); (have f16b : w3.frozen? ⟨g, 16, none⟩ = false := B3.frozen _); clear h1 h2 h3 B3))
            have T4 : Hid (RfTo w g m (w3.setCell ⟨g, 16, none⟩ (.slice A3 (m.W.length + 1) c3)) { m with A := A3, c := c3, W := m.W ++ [⟨i, (k : Int), true, none, 0, []⟩] }) := RfTo.wait (nxTrD N2.out.v VA.out) H3.out O3.out G3.out N3.out ⟨HI.out, fun _ => Int.natCast_nonneg _, noRow_own _⟩ (fun j hj => by cases hj)
            have HR4 : Hid (RelR (waitD D (.cut i k)) { m with A := A3, c := c3, W := m.W ++ [⟨i, (k : Int), true, none, 0, []⟩] }) := RelR.wait HDD.out HWf.out HI.out rfl (by simp [PutR.d]) rfl rfl
            generalize w3.setCell ⟨g, 16, none⟩ (.slice A3 (m.W.length + 1) c3) = w4 at T4 ⊢
            generalize ({ m with A := A3, c := c3, W := m.W ++ [⟨i, (k : Int), true, none, 0, []⟩] } : RfM) = m4 at T4 HR4
            have HBn := Lib.hid (RelR.burn HR4.out HWf.out.f hDd)
            go_wp2_with (first
              | (go_at_call 52; refine (rburn_any w4 g m4 T4.out.ok (by rw [← HR4.out.f]; exact HWf.out.g)).mono ?_; rintro e w5 ⟨rfl, hm5⟩; have M5 := Lib.hid hm5; clear hm5))
            go_ret
            exact RPostS.is _ (T4.out.trans M5.out) HBn.out.1 HBn.out.2
theorem rcut_any (w : World) (g : Nat) (m : RfM) (D : DkD) (h : RfOk w g m) (hD : RelR D m) (wf : DkWf D) (hW : m.W.length ≤ 1000) (log n : Int) : Calls Tryd.prog 25 #[ptrD g, .int .i64 log, .int .i64 n] w (RPost w g m (cutD D log n).1) :=
  (rcut_anyS w g m D h hD wf hW log n).mono fun _ _ h => h.weak
end Go.Proofs.YthamlphebnhcpaaDoor

namespace Go.Proofs.YthamlphebnhcpaaDoor
open Go.RowKit

set_option maxHeartbeats 4000000 in
set_option maxRecDepth 100000 in
theorem rappend_anyS (w : World) (g : Nat) (m : RfM) (D : DkD) (h : RfOk w g m) (hD : RelR D m) (wf : DkWf D) (hW : m.W.length ≤ 1000) (log : Int) (A : Option Addr) (b : List UInt8) (c : Nat) (hS : Sees w w.heap.size A b) (hb : b.length ≤ 50000000) : Calls Tryd.prog 53 #[ptrD g, .int .i64 log, .slice A b.length c] w (RPostS w g m (appendD D log b)) := by
  have H := Lib.hid h
  have HDD := Lib.hid hD
  have HWf := Lib.hid wf
  have HWl := Lib.hid hW
  have HS := Lib.hid hS
  have HBl := Lib.hid hb
  have c18 := h.cD
  clear h hD wf hW hS hb
  unfold ptrD
  by_cases h0 : log < 0
  · have HC : Hid (appendD D log b = (D, 2)) := by show _ = _; unfold appendD mayD; rw [decide_eq_false (by omega : ¬ (0 ≤ log))]; rfl
    have hd0 : decide (log < 0) = true := decide_eq_true h0
    rw [HC.out]
    go_enter Tryd.func53, Tryd.ntmps53
    go_wp2
    go_ret
    exact RPostS.is m (RfTo.refl H.out) HDD.out rfl
  · by_cases h1 : 16 ≤ log
    · have HC : Hid (appendD D log b = (D, 2)) := by show _ = _; unfold appendD mayD; rw [decide_eq_false (by omega : ¬ (log < 16)), Bool.and_false]; rfl
      have hd0 : decide (log < 0) = false := decide_eq_false h0
      have hd1 : decide (16 ≤ log) = true := decide_eq_true h1
      rw [HC.out]
      go_enter Tryd.func53, Tryd.ntmps53
      go_wp2
      go_ret
      exact RPostS.is m (RfTo.refl H.out) HDD.out rfl
    · obtain ⟨i, rfl⟩ : ∃ i : Nat, log = (i : Int) := ⟨log.toNat, by omega⟩
      have hi : i < 16 := by omega
      have HI := Lib.hid hi
      have hd0 : decide ((i : Int) < 0) = false := decide_eq_false h0
      have hd1 : decide ((16 : Int) ≤ (i : Int)) = false := decide_eq_false h1
      have hm : mayD (i : Int) = true := by unfold mayD; rw [decide_eq_true (by omega), decide_eq_true (by omega)]; rfl
      by_cases hd : m.dead = true
      · rw [hd] at c18
        have HC : Hid (appendD D (i : Int) b = (D, 20)) := by show _ = _; unfold appendD; rw [hm, HDD.out.d.trans hd]; rfl
        rw [HC.out]
        go_enter Tryd.func53, Tryd.ntmps53
        go_wp2
        go_ret
        exact RPostS.is m (RfTo.refl H.out) HDD.out rfl
      · have hd' : m.dead = false := by simpa using hd
        have hDd : D.dead = false := HDD.out.d.trans hd'
        rw [hd'] at c18
        obtain ⟨x, hx⟩ : ∃ x, rowD D.X (16 + i) = x := ⟨_, rfl⟩
        have HXe := Lib.hid hx
        have HXl : Hid (x.length ≤ 16777216) := by show _ ≤ _; rw [← hx]; exact HWf.out.m _
        have hxl : x.length ≤ 16777216 := HXl.out
        have hwx : IntKind.i64.wrap (16777216 - (x.length : Int)) = 16777216 - (x.length : Int) := by rw [IntKind.wrap_i64]; omega
        have hti : (i : Int).toNat = i := Int.toNat_natCast i
        by_cases h3 : 16777216 < x.length + b.length
        · have HC : Hid (appendD D (i : Int) b = (D, 8)) := by show _ = _; unfold appendD; rw [hm, hDd, hti, hx, decide_eq_true h3]; rfl
          have h3' : 16777216 - (x.length : Int) < (b.length : Int) := by omega
          have hd3 : decide (16777216 - (x.length : Int) < (b.length : Int)) = true := decide_eq_true h3'
          rw [HC.out]
          go_enter Tryd.func53, Tryd.ntmps53
          go_wp2_with (first | (go_at_call 49; refine (RelR.now HDD.out HWf.out H.out HWl.out).mono ?_; rintro e w2 ⟨rows, rfl, hnw⟩; have N2 := Lib.hid hnw; (have hix := fun wq => index_rows wq rows hnw.n i HI.out); (rw [hnw.at_ HDD.out HWf.out H.out.n HI.out, HXe.out] at hix); clear hnw))
          go_ret
          exact RPostS.is m (RfTo.below H.out N2.out.v) HDD.out rfl
        · have HC : Hid (appendD D (i : Int) b = burnD (waitD D (.put i b))) := by show _ = _; unfold appendD; rw [hm, hDd, hti, hx, decide_eq_false h3]; rfl
          have h3' : ¬ 16777216 - (x.length : Int) < (b.length : Int) := by omega
          have hd3 : decide (16777216 - (x.length : Int) < (b.length : Int)) = false := decide_eq_false h3'
          rw [HC.out]
          obtain ⟨i0, hi0, hz0, hz1, hz2⟩ := infoD Tryd.putinfo
          obtain ⟨j0, hj0, hy0, hy1, hy2⟩ := infoD Tryd.u8info
          have HI0 := Lib.hid hi0
          have HJ0 := Lib.hid hj0
          clear hi0 hj0
          go_enter Tryd.func53, Tryd.ntmps53
          go_upto_region 7 with (first | (go_at_call 49; refine (RelR.now HDD.out HWf.out H.out HWl.out).mono ?_; rintro e w2 ⟨rows, rfl, hnw⟩; have N2 := Lib.hid hnw; (have hix := fun wq => index_rows wq rows hnw.n i HI.out); (rw [hnw.at_ HDD.out HWf.out H.out.n HI.out, HXe.out] at hix); clear hnw))
          have H2 : Hid (RfOk w2 g m) := H.out.below N2.out.v
          have C16 : Hid (w2.cell? ⟨g, 16, none⟩ = some (.slice m.A m.W.length m.c)) := H2.out.cW
          have S2 : Hid (Sees w2 w2.heap.size A b) := (HS.out.later N2.out.v).more N2.out.v.size
          have hwl : m.W.length ≤ 1000 := HWl.out
          have hbl : b.length ≤ 50000000 := HBl.out
          refine wp_region_K (fun W => W.cell? ⟨g, 16, none⟩ = some (.slice m.A m.W.length m.c)) 13 (by kernel_rfl) C16.out (fun hSn => ?_)
          refine wpAnyK_pure (i := 0) (oi := ⟨_, _, _, _, _, _⟩) (v := ?_) rfl (by kernel_rfl) (by kernel_rfl) (by kernel_rfl) rfl (fun _ _ _ h => h) (Or.inl ⟨by rfl, ?_⟩) hSn ?_
          rotate_left 1
          · intro W hSw
            go_simp
            try with_reducible rfl
          replace hSn := (KT.set (i := 0) (by decide)).2 hSn
          try simp only [Act.put, List.setIfInBounds_toArray, List.set_cons_zero, List.set_cons_succ]
          refine wpAnyK_pure (i := 1) (oi := ⟨_, _, _, _, _, _⟩) (v := ?_) rfl (by kernel_rfl) (by kernel_rfl) (by kernel_rfl) rfl (fun _ _ _ h => h) (Or.inl ⟨by rfl, ?_⟩) hSn ?_
          rotate_left 1
          · intro W hSw
            go_simp
            try with_reducible rfl
          replace hSn := (KT.set (i := 1) (by decide)).2 hSn
          try simp only [Act.put, List.setIfInBounds_toArray, List.set_cons_zero, List.set_cons_succ]
          refine wpAnyK_pure (i := 2) (oi := ⟨_, _, _, _, _, _⟩) (v := ?_) rfl (by kernel_rfl) (by kernel_rfl) (by kernel_rfl) rfl (fun _ _ _ h => h) (Or.inl ⟨by rfl, ?_⟩) hSn ?_
          rotate_left 1
          · intro W hSw
            go_simp
            try with_reducible rfl
          replace hSn := (KT.set (i := 2) (by decide)).2 hSn
          try simp only [Act.put, List.setIfInBounds_toArray, List.set_cons_zero, List.set_cons_succ]
          refine wpAnyK_pure (i := 3) (oi := ⟨_, _, _, _, _, _⟩) (v := ?_) rfl (by kernel_rfl) (by kernel_rfl) (by kernel_rfl) rfl (fun _ _ _ h => h) (Or.inl ⟨by rfl, ?_⟩) hSn ?_
          rotate_left 1
          · intro W hSw
            go_simp
            try with_reducible rfl
          replace hSn := (KT.set (i := 3) (by decide)).2 hSn
          try simp only [Act.put, List.setIfInBounds_toArray, List.set_cons_zero, List.set_cons_succ]
          refine wpAnyK_chain (i := 4) [10, 13] (oi := ⟨_, _, _, _, _, _⟩) (v := ?_) rfl (by kernel_rfl) (by kernel_rfl) (by kernel_rfl) rfl (by kernel_rfl) (by kernel_rfl) (by kernel_rfl) (fun _ _ _ h => h) (Or.inl ⟨by rfl, ?_⟩) hSn ?_
          rotate_left 1
          · intro W hSw
            try dsimp only at hSw
            have hs1 := hSw
            go_simp
            try with_reducible rfl
          replace hSn := (KT.set (i := 4) (by decide)).2 hSn
          try simp only [Act.put, List.setIfInBounds_toArray, List.set_cons_zero, List.set_cons_succ]
          refine wpAnyK_pure (i := 5) (oi := ⟨_, _, _, _, _, _⟩) (v := ?_) rfl (by kernel_rfl) (by kernel_rfl) (by kernel_rfl) rfl (fun _ _ _ h => h) (Or.inl ⟨by rfl, ?_⟩) hSn ?_
          rotate_left 1
          · intro W hSw
            go_simp
            try with_reducible rfl
          replace hSn := (KT.set (i := 5) (by decide)).2 hSn
          try simp only [Act.put, List.setIfInBounds_toArray, List.set_cons_zero, List.set_cons_succ]
          refine wpAnyK_pure (i := 6) (oi := ⟨_, _, _, _, _, _⟩) (v := ?_) rfl (by kernel_rfl) (by kernel_rfl) (by kernel_rfl) rfl (fun _ _ _ h => h) (Or.inl ⟨by rfl, ?_⟩) hSn ?_
          rotate_left 1
          · intro W hSw
            go_simp
            try with_reducible rfl
          replace hSn := (KT.set (i := 6) (by decide)).2 hSn
          try simp only [Act.put, List.setIfInBounds_toArray, List.set_cons_zero, List.set_cons_succ]
          clear hSn
          refine wpAnyK_ready (rs := [7]) (by kernel_rfl) (by simp) ?_
          refine AllReadyK.cons rfl (fun K hK => ?_) AllReadyK.nil
          refine step_append_seesD (o := ⟨some 33, _, _, _, _, _⟩) rfl (.const (.slice none 0 0)) (.tmp 32) 39 rfl w2.heap.size 5 j0 _ Tryd.underlying39 HJ0.out hy0 hy1 hy2 rfl (.slice none 0 0) 0 [] rfl (World.ownsRow_nil _ _ _ _) w2.heap.size A b.length c b rfl rfl S2.out (by omega) (Nat.le_refl _) ?_
          intro v4 w4 h1 h2 h3
          simp only [Nat.zero_add, List.nil_append] at h1
          obtain ⟨A4, c4, rfl⟩ := own_form h1
          have O4 := Lib.hid h1
          have K4 : Hid (Keeps (fun _ => False) w2 w4) := Keeps.grown (Keeps.refl _ w2).drew h2 (fun k e => by cases e)
          clear h1 h2 h3
          have H4 : Hid (RfOk w4 g m) := H2.out.later K4.out (fun _ _ h => h) (fun _ _ _ _ h => h)
          have c16a : w4.cell? ⟨g, 16, none⟩ = some (.slice m.A m.W.length m.c) := H4.out.cW
          refine hK.out _ _ (fun _ => c16a) (fun hSn => ?_)
          clear hK K
          try simp only [Act.put, List.setIfInBounds_toArray, List.set_cons_zero, List.set_cons_succ]
          refine wpAnyK_pure (i := 8) (oi := ⟨_, _, _, _, _, _⟩) (v := ?_) rfl (by kernel_rfl) (by kernel_rfl) (by kernel_rfl) rfl (fun _ _ _ h => h) (Or.inl ⟨by rfl, ?_⟩) hSn ?_
          rotate_left 1
          · intro W hSw
            go_simp
            try with_reducible rfl
          replace hSn := (KT.set (i := 8) (by decide)).2 hSn
          try simp only [Act.put, List.setIfInBounds_toArray, List.set_cons_zero, List.set_cons_succ]
          clear hSn
          refine wpAnyK_ready (rs := [9]) (by kernel_rfl) (by simp) ?_
          refine AllReadyK.cons rfl (fun K hK => ?_) AllReadyK.nil
          refine step_build_oneD (o := ⟨some 35, _, _, _, _, _⟩) rfl 55 97 (.tmp 34) rfl (putC ⟨i, 0, false, A4, c4, b⟩) _ 4 48 Tryd.underlying55 Tryd.putinfo (by decide) (by decide) rfl rfl ?_
          have V5 : Hid (Below w4.heap.size w4 (w4.alloc (.cells (putC ⟨i, 0, false, A4, c4, b⟩).toArray 97))) := nxAlloc (nxRefl w4) _
          have H5 : Hid (RfOk (w4.alloc (.cells (putC ⟨i, 0, false, A4, c4, b⟩).toArray 97)) g m) := H4.out.below V5.out
          have B5 : Hid (Blk (w4.alloc (.cells (putC ⟨i, 0, false, A4, c4, b⟩).toArray 97)) w4.heap.size 97 (putC ⟨i, 0, false, A4, c4, b⟩).toArray) := heap_alloc_new w4 _
          have c16b := H5.out.cW
          refine hK.out _ _ (fun _ => c16b) (fun hSn => ?_)
          clear hK K
          try simp only [Act.put, List.setIfInBounds_toArray, List.set_cons_zero, List.set_cons_succ]
          obtain ⟨W5, hW5⟩ : ∃ W, w4.alloc (.cells (putC ⟨i, 0, false, A4, c4, b⟩).toArray 97) = W := ⟨_, rfl⟩
          rw [hW5] at V5 H5 B5 c16b hSn ⊢
          have SA : Hid (SeesV W5 W5.heap.size (some ⟨w4.heap.size, 0, none⟩) (putC ⟨i, 0, false, A4, c4, b⟩)) := SeesV.blkR B5.out
          clear hSn
          refine wpAnyK_ready (rs := [10]) (by kernel_rfl) (by simp) ?_
          refine AllReadyK.cons rfl (fun K hK => ?_) AllReadyK.nil
          refine step_append_seesV (o := ⟨some 36, _, _, _, _, _⟩) rfl (.tmp 30) (.tmp 35) 55 rfl 0 97 i0 _ 4 48 Tryd.underlying55 HI0.out hz0 hz1 hz2 rfl (by decide) (.slice m.A m.W.length m.c) m.W.length (putsC m.W) rfl H5.out.ww W5.heap.size (some ⟨w4.heap.size, 0, none⟩) 1 1 (putC ⟨i, 0, false, A4, c4, b⟩) rfl rfl SA.out (putC_one _) (by omega) (by omega) (Nat.zero_le _) ?_
          intro v6 w6 h1 h2 h3
          obtain ⟨A6, c6, rfl⟩ := own_form h1
          have O6 := Lib.hid h1
          have G6 := Lib.hid h2
          have N6 : Hid (A6.map (·.block) = m.A.map (·.block) ∨ A6.map (·.block) = some W5.heap.size) := (by rw [own_blkD, own_blkD] at h3; exact h3)
          have B6 := Lib.hid (RfOk.grown_blk H5.out h2)
          have c16c : w6.cell? ⟨g, 16, none⟩ = some (.slice m.A m.W.length m.c) := (B6.out.cell 16).trans (rfC_at16 H5.out.n)
          have f16c : w6.frozen? ⟨g, 16, none⟩ = false := B6.out.frozen _
          clear h1 h2 h3
          refine hK.out _ _ (fun _ => c16c) (fun hSn => ?_)
          clear hK K
          try simp only [Act.put, List.setIfInBounds_toArray, List.set_cons_zero, List.set_cons_succ]
          refine wpAnyK_pure (i := 11) (oi := ⟨_, _, _, _, _, _⟩) (v := ?_) rfl (by kernel_rfl) (by kernel_rfl) (by kernel_rfl) rfl (fun _ _ _ h => h) (Or.inl ⟨by rfl, ?_⟩) hSn ?_
          rotate_left 1
          · intro W hSw
            go_simp
            try with_reducible rfl
          replace hSn := (KT.set (i := 11) (by decide)).2 hSn
          try simp only [Act.put, List.setIfInBounds_toArray, List.set_cons_zero, List.set_cons_succ]
          refine wpAnyK_pure (i := 12) (oi := ⟨_, _, _, _, _, _⟩) (v := ?_) rfl (by kernel_rfl) (by kernel_rfl) (by kernel_rfl) rfl (fun _ _ _ h => h) (Or.inl ⟨by rfl, ?_⟩) hSn ?_
          rotate_left 1
          · intro W hSw
            go_simp
            try with_reducible rfl
          replace hSn := (KT.set (i := 12) (by decide)).2 hSn
          try simp only [Act.put, List.setIfInBounds_toArray, List.set_cons_zero, List.set_cons_succ]
          clear hSn
          refine wpAnyK_ready (rs := [13]) (by kernel_rfl) (by simp) ?_
          refine AllReadyK.cons rfl (fun K hK => ?_) AllReadyK.nil
          go_simp
          refine hK.out _ _ (fun h => absurd h (by decide +kernel)) (fun hSn => ?_)
          clear hK K
          try simp only [Act.put, List.setIfInBounds_toArray, List.set_cons_zero, List.set_cons_succ]
          refine wpAnyK_done (by kernel_rfl) ?_ _
          clear hSn c16a c16b c16c f16c
          have V25 : Hid (Below w.heap.size w W5) := nxTrD N2.out.v (nxTrD (K4.out.below (Nat.le_refl _) (fun _ _ h => h)) V5.out)
          have HP : Hid ((⟨i, 0, false, A4, c4, b⟩ : PutR).row.own W5) := by
            have h4 : RowM.own w4 ⟨A4, c4, b⟩ := own_lessR O4.out (Nat.zero_le _)
            exact RowM.keep h4 (Keeps.of_below V5.out (fun _ => False)) (fun _ _ h => h)
          have T4 : Hid (RfTo w g m (w6.setCell ⟨g, 16, none⟩ (.slice A6 (m.W.length + 1) c6)) { m with A := A6, c := c6, W := m.W ++ [⟨i, 0, false, A4, c4, b⟩] }) := RfTo.wait V25.out H5.out O6.out G6.out N6.out ⟨HI.out, (fun e => by cases e), HP.out⟩ (fun j hj => by
            have h5 := (O4.out.lt j (by rw [own_blkD]; exact hj)).1
            have h6 := N2.out.v.size
            omega)
          have HR4 : Hid (RelR (waitD D (.put i b)) { m with A := A6, c := c6, W := m.W ++ [⟨i, 0, false, A4, c4, b⟩] }) := RelR.wait HDD.out HWf.out HI.out rfl (by simp [PutR.d]) rfl rfl
          generalize w6.setCell ⟨g, 16, none⟩ (.slice A6 (m.W.length + 1) c6) = w7 at T4 ⊢
          generalize ({ m with A := A6, c := c6, W := m.W ++ [⟨i, 0, false, A4, c4, b⟩] } : RfM) = m4 at T4 HR4
          have HBn := Lib.hid (RelR.burn HR4.out HWf.out.f hDd)
          go_wp2_with (first
            | (go_at_call 52; refine (rburn_any w7 g m4 T4.out.ok (by rw [← HR4.out.f]; exact HWf.out.g)).mono ?_; rintro e w8 ⟨rfl, hm5⟩; have M5 := Lib.hid hm5; clear hm5))
          go_ret
          exact RPostS.is _ (T4.out.trans M5.out) HBn.out.1 HBn.out.2
theorem rappend_any (w : World) (g : Nat) (m : RfM) (D : DkD) (h : RfOk w g m) (hD : RelR D m) (wf : DkWf D) (hW : m.W.length ≤ 1000) (log : Int) (A : Option Addr) (b : List UInt8) (c : Nat) (hS : Sees w w.heap.size A b) (hb : b.length ≤ 50000000) : Calls Tryd.prog 53 #[ptrD g, .int .i64 log, .slice A b.length c] w (RPost w g m (appendD D log b).1) :=
  (rappend_anyS w g m D h hD wf hW log A b c hS hb).mono fun _ _ h => h.weak
end Go.Proofs.YthamlphebnhcpaaDoor
