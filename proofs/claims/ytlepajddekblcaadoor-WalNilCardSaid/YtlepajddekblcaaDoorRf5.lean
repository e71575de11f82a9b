/-
  disk: the document's own disk: Sync.
-/
import Derived.Test.YtlepajddekblcaaDoorRf4
namespace Go.Proofs.YtlepajddekblcaaDoor
open Go.RowKit

theorem doS_sameR {X Y : List (List UInt8)} {s : StD} (hn : 16 ≤ X.length) (hm : 16 ≤ Y.length) (h : okS X s) (he : ∀ i, i < 16 → rowD X i = rowD Y i) : ∀ i, i < 16 → rowD (doS 0 X s) i = rowD (doS 0 Y s) i := by
  intro i hi
  cases s with
  | put j b => have hj : j < 16 := h.1; rw [doS, doS, rowD_set (by omega), rowD_set (by omega), he i hi, he (0 + j) (by omega)]
  | cut j n => have hj : j < 16 := h.1; rw [doS, doS, rowD_set (by omega), rowD_set (by omega), he i hi, he (0 + j) (by omega)]
theorem okW_sameR {W : List StD} : ∀ {X Y : List (List UInt8)}, 16 ≤ X.length → 16 ≤ Y.length → okW X W → (∀ i, i < 16 → rowD X i = rowD Y i) → okW Y W ∧ ∀ i, i < 16 → rowD (doAll 0 X W) i = rowD (doAll 0 Y W) i := by
  induction W with
  | nil => intro X Y _ _ _ he; exact ⟨True.intro, he⟩
  | cons s r ih =>
    intro X Y hn hm h he
    obtain ⟨h1, h2⟩ := ih (X := doS 0 X s) (Y := doS 0 Y s) (by rw [doS_len]; exact hn) (by rw [doS_len]; exact hm) h.2 (doS_sameR hn hm h.1 he)
    exact ⟨⟨okS_same h.1 he, h1⟩, h2⟩
theorem dataR_len {m : RfM} (n : m.rows.length = 16) : (dataR m).length = 16 := by rw [dataR, List.length_map, n]
theorem RelR.ok {D : DkD} {m : RfM} (h : RelR D m) (wf : DkWf D) (n : m.rows.length = 16) : okW (dataR m) (m.W.map PutR.d) ∧ ∀ i, i < 16 → rowD (doAll 0 D.X D.W) i = rowD (doAll 0 (dataR m) (m.W.map PutR.d)) i := by
  have h1 := okW_sameR (X := D.X) (Y := dataR m) (by rw [wf.n]; omega) (by rw [dataR_len n]; omega) wf.w h.x
  rw [h.w] at h1 ⊢
  exact h1
theorem RelR.le {D : DkD} {m : RfM} (h : RelR D m) (wf : DkWf D) (n : m.rows.length = 16) : ∀ k, (rowD (dataR m) k).length ≤ 16777216 := fun k => by
  by_cases hk : k < 16
  · rw [← h.x k hk]; exact wf.m k
  · unfold rowD
    rw [List.getD_eq_getElem?_getD, List.getElem?_eq_none (by rw [dataR_len n]; omega)]
    exact Nat.zero_le _
/-- What is read is the same. -/
theorem NowTo.at_ {w w' : World} {m : RfM} {rows : List RowM} {D : DkD} (t : NowTo w m w' rows) (h : RelR D m) (wf : DkWf D) (n : m.rows.length = 16) {i : Nat} (hi : i < 16) : (rows.getD i noRow).l = rowD D.X (16 + i) := by
  rw [wf.e i hi, (h.ok wf n).2 i hi, ← t.l]
  unfold rowD
  rw [List.getD_eq_getElem?_getD, List.getD_eq_getElem?_getD, List.getElem?_map, List.getElem?_eq_getElem (by rw [t.n]; exact hi)]
  rfl
theorem RelR.now {D : DkD} {m : RfM} (h : RelR D m) (wf : DkWf D) {w : World} {g : Nat} (ho : RfOk w g m) (hW : m.W.length ≤ 1000) : Calls Tryd.prog 71 #[ptrD g] w fun e w' => ∃ rows, e = .returned (.agg (rowsC rows).toArray) ∧ NowTo w m w' rows :=
  now_any w g m ho (h.ok wf ho.n).1 hW (h.le wf ho.n)
theorem burnR_rows (m : RfM) : (burnR m).1.rows = m.rows ∧ (burnR m).1.W = m.W := by
  unfold burnR; split
  · exact ⟨rfl, rfl⟩
  · split
    · exact ⟨rfl, rfl⟩
    · split <;> exact ⟨rfl, rfl⟩
theorem rfC_rows {m : RfM} {rows : List RowM} (n : m.rows.length = 16) (k : rows.length = 16) : ((rfC m).toArray.toList.take 0 ++ (rowsC rows).toArray.toList ++ (rfC m).toArray.toList.drop (0 + (rowsC rows).toArray.size)).toArray = (rfC { m with rows := rows }).toArray := by
  have h : (rowsC m.rows).length = 16 := by rw [rowsC_len, n]
  have h2 : (rowsC rows).length = 16 := by rw [rowsC_len, k]
  show (List.take 0 (rfC m) ++ rowsC rows ++ (rfC m).drop (0 + (rowsC rows).length)).toArray = _
  rw [h2, rfC, List.drop_append_of_le_length (by omega), List.drop_eq_nil_of_le (by omega)]
  rfl
theorem rfC_noW {m : RfM} (n : m.rows.length = 16) : (rfC m).toArray.setIfInBounds 16 (.slice none 0 0) = (rfC { m with A := none, c := 0, W := [] }).toArray := by
  have h : (rowsC m.rows).length = 16 := by rw [rowsC_len, n]
  simp only [rfC, List.setIfInBounds_toArray]
  rw [List.set_append_right _ _ (by omega), h]; rfl
theorem rfC_at16 {m : RfM} (n : m.rows.length = 16) : (rfC m).toArray[16]? = some (.slice m.A m.W.length m.c) := by
  rw [List.getElem?_toArray, rfC, List.getElem?_append_right (by rw [rowsC_len, n]; omega), rowsC_len, n]; rfl

set_option maxHeartbeats 1000000 in
theorem rsync_any (w : World) (g : Nat) (m : RfM) (D : DkD) (h : RfOk w g m) (hD : RelR D m) (wf : DkWf D) (hW : m.W.length ≤ 1000) : Calls Tryd.prog 72 #[ptrD g] w (RPost w g m (syncD D).1) := by
  have H := Lib.hid h
  have HDD := Lib.hid hD
  have HWf := Lib.hid wf
  have HBu := Lib.hid (rburn_any w g m h (by rw [← hD.f]; exact wf.g))
  obtain ⟨R, hR⟩ : ∃ R, burnR m = R := ⟨_, rfl⟩
  have HR := Lib.hid hR
  obtain ⟨m1, n1⟩ := R
  rw [hR] at HBu
  have HRR : Hid (m1.rows = m.rows ∧ m1.W = m.W) := by have := burnR_rows m; rw [hR] at this; exact this
  have HWl : Hid (m.W.length ≤ 1000) := hW
  clear h hD wf hR hW
  unfold ptrD
  by_cases hn : n1 = 0
  · subst hn
    have HX : Hid (D.dead = false ∧ RelR (burnD D).1 m1 ∧ (burnD D).2 = 0) := by
      cases hd : D.dead with
      | true =>
        have h1 : m.dead = true := by rw [← HDD.out.d]; exact hd
        have h2 := HR.out
        unfold burnR at h2
        rw [if_pos h1] at h2
        injection h2 with _ h3
        cases h3
      | false =>
        obtain ⟨h1, h2⟩ := RelR.burn HDD.out HWf.out.f hd
        rw [HR.out] at h1 h2
        exact ⟨rfl, h1, h2.symm⟩
    have HSy : Hid ((syncD D).1 = settleD (burnD D).1.W.length (burnD D).1) := by
      show _ = _
      unfold syncD
      rw [HX.out.1, HX.out.2.2]
      rfl
    have HWfb : Hid (DkWf (burnD D).1) := burnD_wf HWf.out
    rw [HSy.out]
    go_enter Tryd.func72, Tryd.ntmps72
    go_wp2_with (first
      | (go_at_call 73; refine HBu.out.mono ?_; rintro e w1 ⟨rfl, hm1⟩; have M1 := Lib.hid hm1; clear hm1)
      | (go_at_call 71; refine (RelR.now HX.out.2.1 HWfb.out M1.out.ok (by rw [HRR.out.2]; exact HWl.out)).mono ?_; rintro e w2 ⟨rows, rfl, hnw⟩; have N2 := Lib.hid hnw; clear hnw; (have B2 : Hid (Blk w2 g 86 (rfC m1).toArray) := M1.out.ok.b.below N2.out.v M1.out.ok.b.lt))
      | ((with_reducible show wpList _ _ _ (⟨none, .store 79 _ _, _, _, _, _⟩ :: _) _ _); refine wpList_store_partD rfl 79 (.tmp 13) (.tmp 11) rfl g 0 86 (rfC m1).toArray (rowsC rows).toArray (rfC { m1 with rows := rows }).toArray (.agg (rowsC rows).toArray) rfl rfl rfl B2.out (by rw [List.size_toArray, List.size_toArray, rowsC_len, N2.out.n, rfC_len M1.out.ok.n]; omega) (by rw [List.size_toArray, rowsC_len, N2.out.n]; exact Tryd.rowsSize) (rowsC_one _) (rfC_rows M1.out.ok.n N2.out.n) ?_; intro w3 h5 h6 h7; have B3 := Lib.hid h5; have K3 := Lib.hid h6; clear h5 h6 h7; (have c16 : w3.cell? ⟨g, 16, none⟩ = some (.slice m1.A m1.W.length m1.c) := (B3.out.cell 16).trans (rfC_at16 N2.out.n)); (have f16 : w3.frozen? ⟨g, 16, none⟩ = false := B3.out.frozen _)))
    go_ret
    have B4 : Blk (w3.setCell ⟨g, 16, none⟩ (.slice none 0 0)) g 86 (rfC { m1 with rows := rows, A := none, c := 0, W := [] }).toArray := by
      have h := B3.out.set 16 (.slice none 0 0)
      rw [rfC_noW N2.out.n] at h
      exact h
    have K4 : Keeps (fun j => j = g) w2 (w3.setCell ⟨g, 16, none⟩ (.slice none 0 0)) := Keeps.setCell (S := fun j => j = g) (p := ⟨g, 16, none⟩) K3.out rfl _
    have ho2 : RfOk w2 g m1 := M1.out.ok.below N2.out.v
    refine RPost.is { m1 with rows := rows, A := none, c := 0, W := [] } (M1.out.trans ⟨⟨B4, N2.out.n, fun r hr => RowM.keep (N2.out.o r hr) K4 (fun j e he => ho2.off (N2.out.o r hr) e (.inl he)), World.ownsRow_nil _ _ _ _, fun p hp => by cases hp⟩, fun j hj => ?_, fun j hj => ?_, ?_⟩) ⟨fun i hi => ?_, ?_, HX.out.2.1.f, HX.out.2.1.d⟩
    · rcases hj with h | h
      · exact .inl (.inl h)
      · cases h
    · rcases hj with (h | h) | ⟨r, hr | ⟨p, hp, _⟩, hb⟩
      · exact .inl (.inl (.inl h))
      · cases h
      · rcases N2.out.a r hr with h1 | h1
        · exact .inl (.inr ⟨r, .inl h1, hb⟩)
        · exact .inr (h1 j hb)
      · cases hp
    · exact (Keeps.of_below N2.out.v _).trans (K4.mono (fun j _ h => .inl h))
    · show rowD (doAll 0 (burnD D).1.X ((burnD D).1.W.take (burnD D).1.W.length)) i = rowD (rows.map (·.l)) i
      rw [List.take_length, N2.out.l]
      exact (HX.out.2.1.ok HWfb.out M1.out.ok.n).2 i hi
    · show (burnD D).1.W.drop (burnD D).1.W.length = []
      exact List.drop_length
  · have hn2 : decide (n1 = 0) = false := decide_eq_false hn
    have HX : Hid (RelR (syncD D).1 m1) := by
      show RelR _ _
      unfold syncD
      cases hd : D.dead with
      | true =>
        have h1 : m.dead = true := by rw [← HDD.out.d]; exact hd
        have h2 := HR.out
        unfold burnR at h2
        rw [if_pos h1] at h2
        injection h2 with h3 _
        rw [← h3]
        exact HDD.out
      | false =>
        obtain ⟨h1, h2⟩ := RelR.burn HDD.out HWf.out.f hd
        rw [HR.out] at h1 h2
        have h3 : ((burnD D).2 == 0) = false := by rw [← h2]; simpa using hn
        rw [h3]
        exact h1
    go_enter Tryd.func72, Tryd.ntmps72
    go_wp2_with (first
      | (go_at_call 73; refine HBu.out.mono ?_; rintro e w1 ⟨rfl, hm1⟩; have M1 := Lib.hid hm1; clear hm1))
    go_ret
    exact RPost.is m1 M1.out HX.out
end Go.Proofs.YtlepajddekblcaaDoor
