/-
  disk: losses of power; are two the same?
-/
import Derived.Test.YthamlphebnhcpaaDoorDkB
import Derived.Deep.DeepCutAuto
import Derived.Deep.CutBlock
namespace Go.Proofs.YthamlphebnhcpaaDoor
open Go.RowKit

/-- Have two disks the same bytes, as they are read? -/
def SameD (D E : DkD) : Prop := ∀ i, i < 16 → rowD D.X (16 + i) = rowD E.X (16 + i)
def LSamePost (w : World) (D E : DkD) (e : Ending) (w' : World) : Prop := ∃ z : Bool, e = .returned (.bool z) ∧ (z = true ↔ SameD D E) ∧ Below w.heap.size w w'
theorem LSamePost.is {w w' : World} {D E : DkD} (z : Bool) (hz : z = true ↔ SameD D E) (hb : Below w.heap.size w w') : LSamePost w D E (.returned (.bool z)) w' := ⟨z, rfl, hz, hb⟩
/-- The logs that are read are copies of the settled ones. -/
theorem DkTo.up {w w1 w' : World} {g : Nat} {m : DkM} {rs : List RowM} (h : DkOk w g m) (c : ClonedP w ((m.d.X.drop 0).take 16) w1 rs) (hK : Keeps (fun j => j = g) w1 w') (hb : Blk w' g 54 (dkC ⟨m.rows.take 16 ++ rs, none, 0, [], -1, false⟩).toArray) :
    DkTo w g m w' ⟨m.rows.take 16 ++ rs, none, 0, [], -1, false⟩ ∧ (⟨m.rows.take 16 ++ rs, none, 0, [], -1, false⟩ : DkM).d = upD m.d := by
  have K2 : Keeps (fun j => j = g) w w' := (Keeps.of_below c.v _).trans hK
  have hl : (m.rows.take 16).length = 16 := by rw [List.length_take, h.n]; rfl
  have hft : ∀ j, foot g ⟨m.rows.take 16 ++ rs, none, 0, [], -1, false⟩ j → foot g m j ∨ w.heap.size ≤ j := by
    rintro j (rfl | hj | ⟨s, hs, hj⟩)
    · exact .inl (.inl rfl)
    · cases hj
    · rcases List.mem_append.1 hs with hs | hs
      · exact .inl (.inr (.inr ⟨s, List.mem_of_mem_take hs, hj⟩))
      · exact .inr (c.f s hs j hj).1
  refine ⟨⟨⟨hb, by show (m.rows.take 16 ++ rs).length = _; rw [List.length_append, hl, c.n], fun r hr => ?_, fun i j x hi hj h1 h2 => ?_, ⟨rfl, .inl ⟨rfl, rfl⟩⟩, (fun s hs => by cases hs), (fun j ⟨s, hs, _⟩ => by cases hs)⟩, hft, (fun j ⟨s, hs, _⟩ => by cases hs), K2.mono (fun j _ e => .inl e)⟩, ?_⟩
  · rcases List.mem_append.1 hr with hr | hr
    · exact RowM.keep (h.o r (List.mem_of_mem_take hr)) K2 (fun j e e2 => by subst e2; exact h.b.notOwn (h.o r (List.mem_of_mem_take hr)) (by decide) (by rw [RowM.v, own_blkD]; exact e.symm))
    · exact RowM.keep (c.o r hr) hK (fun j e e2 => by subst e2; have := (c.f r hr j e).1; have := h.lt; omega)
  · have hi' : i < (m.rows.take 16 ++ rs).length := hi
    have hj' : j < (m.rows.take 16 ++ rs).length := hj
    have h1' : (m.rows.take 16 ++ rs)[i].bk = some x := h1
    have h2' : (m.rows.take 16 ++ rs)[j].bk = some x := h2
    rw [List.getElem_append] at h1' h2'
    split at h1'
    · rename_i h3
      have h5 : x < w.heap.size := RowM.lt (h.o _ (List.mem_of_mem_take (List.getElem_mem h3))) h1'
      split at h2'
      · rename_i h4
        rw [List.getElem_take] at h1' h2'
        exact h.q i j x _ _ h1' h2'
      · have := (c.f _ (List.getElem_mem _) x h2').1
        omega
    · rename_i h3
      split at h2'
      · rename_i h4
        have h5 : x < w.heap.size := RowM.lt (h.o _ (List.mem_of_mem_take (List.getElem_mem h4))) h2'
        have := (c.f _ (List.getElem_mem _) x h1').1
        omega
      · have := c.q _ _ x _ _ h1' h2'
        omega
  · have e1 := c.l
    rw [List.drop_zero] at e1
    unfold DkM.d upD
    simp only [List.map_append, e1, List.map_nil]
    show DkD.mk _ _ _ _ = _
    have e2 : (m.rows.take 16).map (·.l) = (m.rows.map (·.l)).take 16 := List.map_take
    rw [e2]
    rfl
theorem partD (pre old x post : List Value) (hl : old.length = x.length) (k : Nat) (hk : k = pre.length) : ((pre ++ (old ++ post)).take k ++ x ++ (pre ++ (old ++ post)).drop (k + x.length)) = pre ++ (x ++ post) := by
  subst hk
  rw [List.take_append_of_le_length (Nat.le_refl _), List.take_length, List.drop_append, List.drop_eq_nil_of_le (by omega), List.nil_append, show pre.length + x.length - pre.length = x.length by omega, List.drop_append, List.drop_eq_nil_of_le (by omega), List.nil_append, hl, Nat.sub_self, List.drop_zero, List.append_assoc]
theorem dkC_up {m : DkM} {rs : List RowM} (n : m.rows.length = 32) (hr : rs.length = 16) : ((dkC m).toArray.toList.take 17 ++ (rs.map RowM.v).toArray.toList ++ (dkC m).toArray.toList.drop (17 + (rs.map RowM.v).toArray.size)).toArray = (dkC { m with rows := m.rows.take 16 ++ rs }).toArray := by
  have h1 : (m.rows.take 16).length = 16 := by rw [List.length_take, n]; rfl
  have h2 : (m.rows.drop 16).length = 16 := by rw [List.length_drop, n]
  have e3 : m.rows.map RowM.v = (m.rows.take 16).map RowM.v ++ (m.rows.drop 16).map RowM.v := by rw [← List.map_append, List.take_append_drop]
  have e1 : dkC m = (.bool true :: (m.rows.take 16).map RowM.v) ++ ((m.rows.drop 16).map RowM.v ++ [.slice m.A m.W.length m.c, .int .i64 m.fuse, .bool m.dead]) := by
    unfold dkC
    rw [e3, List.append_assoc]
    rfl
  have e2 : dkC { m with rows := m.rows.take 16 ++ rs } = (.bool true :: (m.rows.take 16).map RowM.v) ++ (rs.map RowM.v ++ [.slice m.A m.W.length m.c, .int .i64 m.fuse, .bool m.dead]) := by
    unfold dkC
    rw [List.map_append, List.append_assoc]
    rfl
  congr 1
  rw [e2, List.size_toArray]
  show (dkC m).take 17 ++ rs.map RowM.v ++ (dkC m).drop (17 + (rs.map RowM.v).length) = _
  rw [e1]
  exact partD _ _ _ _ (by rw [List.length_map, List.length_map, h2, hr]) 17 (by rw [List.length_cons, List.length_map, h1])
theorem dkC_rest {m : DkM} (n : m.rows.length = 32) : (((dkC m).toArray.setIfInBounds 33 (.slice none 0 0)).setIfInBounds 34 (.int .i64 (-1))).setIfInBounds 35 (.bool false) = (dkC ⟨m.rows, none, 0, [], -1, false⟩).toArray := by
  have h1 := dkC_setWait n none 0 []
  rw [List.length_nil] at h1
  rw [h1, dkC_setFuse (m := { m with A := none, c := 0, W := [] }) n, dkC_setDead (m := { m with A := none, c := 0, W := [], fuse := -1 }) n]
theorem tornD_cons {D : DkD} {t : Int} {s : StD} {r : List StD} (h : D.W = s :: r) : tornD D t = { D with X := tornS D.X t s } := by
  unfold tornD
  rw [h]
theorem tornD_nil {D : DkD} {t : Int} (h : D.W = []) : tornD D t = D := by
  unfold tornD
  rw [h]
/-- What is left when the power comes back. -/
def CrPost (w : World) (g : Nat) (m : DkM) (keep tear : Int) (e : Ending) (w' : World) : Prop := e = .returned (.int .i64 0) ∧ ∃ m', DkTo w g m w' m' ∧ m'.d = crashD m.d keep tear

set_option maxHeartbeats 4000000 in
set_option maxRecDepth 100000 in
theorem crash_any (w : World) (g : Nat) (m : DkM) (h : DkOk w g m) (wf : DkWf m.d) (hW : m.W.length ≤ 1000) (keep tear : Int) : Calls Tryd.prog 17 #[ptrD g, .int .i64 keep, .int .i64 tear] w (CrPost w g m keep tear) := by
  have H := Lib.hid h
  have HWf := Lib.hid wf
  have HWl := Lib.hid hW
  have HM : Hid (w.cell? ⟨g, 0, none⟩ = some (.bool true)) := h.made
  have c33 : w.cell? ⟨g, 33, none⟩ = some (.slice m.A m.W.length m.c) := h.wait
  have hwl : IntKind.i64.wrap ((m.W.length : Int) + 1) = (m.W.length : Int) + 1 := by rw [IntKind.wrap_i64]; omega
  obtain ⟨k, hk⟩ : ∃ k : Nat, keep % ((m.W.length : Int) + 1) = (k : Int) := ⟨(keep % ((m.W.length : Int) + 1)).toNat, by have := Int.emod_nonneg keep (show (m.W.length : Int) + 1 ≠ 0 by omega); omega⟩
  have hk2 : k ≤ m.W.length := by have := Int.emod_lt_of_pos keep (show 0 < (m.W.length : Int) + 1 by omega); omega
  have HMo : Hid (Calls Tryd.prog 41 #[.int .i64 keep, .int .i64 ((m.W.length : Int) + 1)] w fun e w' => e = .returned (.int .i64 (k : Int)) ∧ w' = w) := by
    have h := modulo_any w keep ((m.W.length : Int) + 1) (by omega) (by omega)
    rw [hk] at h
    exact h
  have HSe := Lib.hid (settle_any w g m h wf k hk2 hW)
  have HCr : Hid (crashD m.d keep tear = upD (tornD (settleD k m.d) tear)) := by
    show _ = _
    rw [crashD, show m.d.W.length = m.W.length from List.length_map _, hk, Int.toNat_natCast]
  have HWf1 := Lib.hid (settleD_wf wf k)
  have HTo := Lib.hid (tornD_ok (settleD_wf wf k) tear)
  unfold ptrD CrPost
  clear h wf hW hk hk2
  rw [HCr.out]
  go_enter Tryd.func17, Tryd.ntmps17
  go_upto_region 4 with (first
    | (go_at_call 39; refine (isMade_any w g true HM.out).mono ?_; rintro e w1 ⟨rfl, hw1⟩; obtain rfl := hw1.symm)
    | (go_at_call 41; refine HMo.out.mono ?_; rintro e w1 ⟨rfl, hw1⟩; obtain rfl := hw1.symm)
    | (go_at_call 40; refine HSe.out.mono ?_; unfold SettlePost; rintro e w2 ⟨rfl, m2, hm2, hd2⟩; have M2 := Lib.hid hm2; have D2 := Lib.hid hd2; clear hm2 hd2))
  clear c33 hwl HMo HSe HM
  rw [← D2.out] at HWf1 HTo
  have HT2 : Hid (∀ k, k < 16 → (rowD (tornD m2.d tear).X (0 + k)).length ≤ 16777216) := fun k hk => by rw [Nat.zero_add]; exact HTo.out.2 k hk
  clear HTo
  obtain ⟨W2, hW2⟩ : ∃ W, m2.W = W := ⟨_, rfl⟩
  have c33 : w2.cell? ⟨g, 33, none⟩ = some (.slice m2.A W2.length m2.c) := by rw [← hW2]; exact M2.out.ok.wait
  have HW2 := Lib.hid hW2
  have HDW : Hid (m2.d.W = W2.map StM.d) := by show m2.W.map _ = _; rw [hW2]
  have FIN : Hid True := trivial
  clear hW2
  cases W2 with
  | nil =>
    have HD3 : Hid (tornD m2.d tear = m2.d) := tornD_nil HDW.out
    have HT3 : Hid (∀ k, k < 16 → (rowD m2.d.X (0 + k)).length ≤ 16777216) := by have h := HT2.out; rw [HD3.out] at h; exact h
    have E3 := Lib.hid HD3.out
    go_wp2_with (first
      | (go_at_call 42; refine (lclone_any w2 g m2 (M2.out).ok 1 0 HT3.out rfl (by omega)).mono ?_; rintro e w4 ⟨rs, rfl, hc⟩; have C4 := Lib.hid hc; have B4 : Hid (Blk w4 g 54 (dkC m2).toArray) := (M2.out).ok.b.below hc.v (M2.out).ok.lt; clear hc)
      | ((with_reducible show wpList _ _ _ (⟨none, .store 51 _ _, _, _, _, _⟩ :: _) _ _); refine wpList_store_partD rfl 51 (.tmp 44) (.tmp 42) rfl g 17 54 (dkC m2).toArray (rs.map RowM.v).toArray (dkC { m2 with rows := m2.rows.take 16 ++ rs }).toArray (.agg (rs.map RowM.v).toArray) rfl rfl rfl B4.out (by rw [List.size_toArray, List.size_toArray, List.length_map, C4.out.n, dkC_len (M2.out).ok.n]; omega) (by rw [List.size_toArray, List.length_map, C4.out.n]; exact Tryd.lgsize) (slN_one rs) (dkC_up (M2.out).ok.n C4.out.n) ?_; intro w5 h5 h6 h7; have B5 := Lib.hid h5; have K5 := Lib.hid h6; have N5 : Hid (({ m2 with rows := m2.rows.take 16 ++ rs } : DkM).rows.length = 32) := (by show (m2.rows.take 16 ++ rs).length = _; rw [List.length_append, List.length_take, C4.out.n, (M2.out).ok.n]; rfl); have c33 : w5.cell? ⟨g, 33, none⟩ = some (.slice m2.A m2.W.length m2.c) := (by rw [h5.cell, List.getElem?_toArray]; exact dkC_wait N5.out); have c34 : w5.cell? ⟨g, 34, none⟩ = some (.int .i64 m2.fuse) := (by rw [h5.cell, List.getElem?_toArray]; exact dkC_fuse N5.out); have c35 : w5.cell? ⟨g, 35, none⟩ = some (.bool m2.dead) := (by rw [h5.cell, List.getElem?_toArray]; exact dkC_dead N5.out); have f33 : w5.frozen? ⟨g, 33, none⟩ = false := h5.frozen _; have f34 : w5.frozen? ⟨g, 34, none⟩ = false := h5.frozen _; have f35 : w5.frozen? ⟨g, 35, none⟩ = false := h5.frozen _; clear h5 h6 h7))
    go_ret
    have hB := ((B5.out.set 33 (.slice none 0 0)).set 34 (.int .i64 (-1))).set 35 (.bool false)
    rw [dkC_rest N5.out] at hB
    have hU := DkTo.up (M2.out).ok C4.out (((K5.out.setCell (p := ⟨g, 33, none⟩) rfl _).setCell (p := ⟨g, 34, none⟩) rfl _).setCell (p := ⟨g, 35, none⟩) rfl _) hB
    exact ⟨rfl, _, (M2.out).trans hU.1, hU.2.trans (by rw [← D2.out, E3.out])⟩
  | cons s r =>
    have hs0 := M2.out.ok.s s (by rw [HW2.out]; exact List.mem_cons_self)
    have HSo := Lib.hid hs0
    have hok : okS m2.d.X s.d := by have h := HWf1.out.w; rw [HDW.out] at h; exact h.1
    have HOk := Lib.hid hok
    obtain ⟨a, hA, hal, hag, hr⟩ := M2.out.ok.step (k := 0) (by rw [HW2.out]; exact Nat.succ_pos _)
    have hr0 : w2.rangeAt a 0 s.c := by
      have e : m2.W[0]'(by rw [HW2.out]; exact Nat.succ_pos _) = s := by simp only [HW2.out, List.getElem_cons_zero]
      rw [e, Nat.zero_mul] at hr
      exact hr
    have HR0 := Lib.hid hr0
    have HD3 : Hid (tornD m2.d tear = { m2.d with X := tornS m2.d.X tear s.d }) := tornD_cons (by rw [HDW.out]; rfl)
    rw [hA] at c33
    have hl0 : (0 : Int) < ((s :: r).length : Int) := by simp
    have hl1 : (0 : Int) < (r.length : Int) + 1 := by omega
    have hA2 : Hid (m2.A = some ⟨a, 0, none⟩) := hA
    have C33 := Lib.hid c33
    clear hs0 hok hr hr0 hA
    cases s with
    | put i b p0 p1 pf A c =>
      have ct : w2.cell? ⟨a, 1, none⟩ = some (.func (.func 78) #[] #[.pointer (some ⟨pf, 0, none⟩), .pointer (some ⟨p1, 0, none⟩)]) := HR0.out 1 _ rfl
      have CT := Lib.hid ct
      clear ct
      go_wp2_with fail
      clear c33
      refine wp_region_held_drew (S := fun W => W.cell? ⟨g, 33, none⟩ = some (.slice (some ⟨a, 0, none⟩) (StM.put i b p0 p1 pf A c :: r).length m2.c) ∧ W.cell? ⟨a, 1, none⟩ = some (.func (.func 78) #[] #[.pointer (some ⟨pf, 0, none⟩), .pointer (some ⟨p1, 0, none⟩)])) (by kernel_rfl) ⟨C33.out, CT.out⟩ (fun hHeld => ?_)
      refine wpAnyH_take (i := 0) (oi := ⟨_, _, _, _, _, _⟩) (v := ?_) rfl (by kernel_rfl) (by kernel_rfl) (by kernel_rfl) (fun _ _ _ h => h) (Or.inl ⟨by rfl, ?_⟩) (by assumption) ?_
      rotate_left 1
      · intro W hSw
        try dsimp only at hSw
        obtain ⟨hs1, hs2⟩ := hSw
        go_simp
        try with_reducible rfl
      try simp only [Act.put, List.setIfInBounds_toArray, List.set_cons_zero, List.set_cons_succ]
      refine wpAnyH_take (i := 1) (oi := ⟨_, _, _, _, _, _⟩) (v := ?_) rfl (by kernel_rfl) (by kernel_rfl) (by kernel_rfl) (fun _ _ _ h => h) (Or.inl ⟨by rfl, ?_⟩) (by assumption) ?_
      rotate_left 1
      · intro W hSw
        try dsimp only at hSw
        obtain ⟨hs1, hs2⟩ := hSw
        go_simp
        try with_reducible rfl
      try simp only [Act.put, List.setIfInBounds_toArray, List.set_cons_zero, List.set_cons_succ]
      refine wpAnyH_take (i := 2) (oi := ⟨_, _, _, _, _, _⟩) (v := ?_) rfl (by kernel_rfl) (by kernel_rfl) (by kernel_rfl) (fun _ _ _ h => h) (Or.inl ⟨by rfl, ?_⟩) (by assumption) ?_
      rotate_left 1
      · intro W hSw
        try dsimp only at hSw
        obtain ⟨hs1, hs2⟩ := hSw
        go_simp
        try with_reducible rfl
      try simp only [Act.put, List.setIfInBounds_toArray, List.set_cons_zero, List.set_cons_succ]
      refine wpAnyH_take (i := 3) (oi := ⟨_, _, _, _, _, _⟩) (v := ?_) rfl (by kernel_rfl) (by kernel_rfl) (by kernel_rfl) (fun _ _ _ h => h) (Or.inl ⟨by rfl, ?_⟩) (by assumption) ?_
      rotate_left 1
      · intro W hSw
        try dsimp only at hSw
        obtain ⟨hs1, hs2⟩ := hSw
        go_simp
        try with_reducible rfl
      try simp only [Act.put, List.setIfInBounds_toArray, List.set_cons_zero, List.set_cons_succ]
      refine wpAnyH_take (i := 4) (oi := ⟨_, _, _, _, _, _⟩) (v := ?_) rfl (by kernel_rfl) (by kernel_rfl) (by kernel_rfl) (fun _ _ _ h => h) (Or.inl ⟨by rfl, ?_⟩) (by assumption) ?_
      rotate_left 1
      · intro W hSw
        try dsimp only at hSw
        obtain ⟨hs1, hs2⟩ := hSw
        go_simp
        try with_reducible rfl
      try simp only [Act.put, List.setIfInBounds_toArray, List.set_cons_zero, List.set_cons_succ]
      refine wpAnyH_take (i := 5) (oi := ⟨_, _, _, _, _, _⟩) (v := ?_) rfl (by kernel_rfl) (by kernel_rfl) (by kernel_rfl) (fun _ _ _ h => h) (Or.inl ⟨by rfl, ?_⟩) (by assumption) ?_
      rotate_left 1
      · intro W hSw
        try dsimp only at hSw
        obtain ⟨hs1, hs2⟩ := hSw
        go_simp
        try with_reducible rfl
      try simp only [Act.put, List.setIfInBounds_toArray, List.set_cons_zero, List.set_cons_succ]
      refine wpAnyH_take (i := 6) (oi := ⟨_, _, _, _, _, _⟩) (v := ?_) rfl (by kernel_rfl) (by kernel_rfl) (by kernel_rfl) (fun _ _ _ h => h) (Or.inl ⟨by rfl, ?_⟩) (by assumption) ?_
      rotate_left 1
      · intro W hSw
        try dsimp only at hSw
        obtain ⟨hs1, hs2⟩ := hSw
        go_simp
        try with_reducible rfl
      try simp only [Act.put, List.setIfInBounds_toArray, List.set_cons_zero, List.set_cons_succ]
      refine wpAnyH_take (i := 7) (oi := ⟨_, _, _, _, _, _⟩) (v := ?_) rfl (by kernel_rfl) (by kernel_rfl) (by kernel_rfl) (fun _ _ _ h => h) (Or.inl ⟨by rfl, ?_⟩) (by assumption) ?_
      rotate_left 1
      · intro W hSw
        try dsimp only at hSw
        obtain ⟨hs1, hs2⟩ := hSw
        go_simp
        try with_reducible rfl
      try simp only [Act.put, List.setIfInBounds_toArray, List.set_cons_zero, List.set_cons_succ]
      refine wpAnyH_take (i := 8) (oi := ⟨_, _, _, _, _, _⟩) (v := ?_) rfl (by kernel_rfl) (by kernel_rfl) (by kernel_rfl) (fun _ _ _ h => h) (Or.inl ⟨by rfl, ?_⟩) (by assumption) ?_
      rotate_left 1
      · intro W hSw
        try dsimp only at hSw
        obtain ⟨hs1, hs2⟩ := hSw
        go_simp
        try with_reducible rfl
      try simp only [Act.put, List.setIfInBounds_toArray, List.set_cons_zero, List.set_cons_succ]
      refine wpAnyH_take (i := 9) (oi := ⟨_, _, _, _, _, _⟩) (v := ?_) rfl (by kernel_rfl) (by kernel_rfl) (by kernel_rfl) (fun _ _ _ h => h) (Or.inl ⟨by rfl, ?_⟩) (by assumption) ?_
      rotate_left 1
      · intro W hSw
        try dsimp only at hSw
        obtain ⟨hs1, hs2⟩ := hSw
        go_simp
        try with_reducible rfl
      try simp only [Act.put, List.setIfInBounds_toArray, List.set_cons_zero, List.set_cons_succ]
      refine wpAnyH_take (i := 10) (oi := ⟨_, _, _, _, _, _⟩) (v := ?_) rfl (by kernel_rfl) (by kernel_rfl) (by kernel_rfl) (fun _ _ _ h => h) (Or.inl ⟨by rfl, ?_⟩) (by assumption) ?_
      rotate_left 1
      · intro W hSw
        try dsimp only at hSw
        obtain ⟨hs1, hs2⟩ := hSw
        go_simp
        try with_reducible rfl
      try simp only [Act.put, List.setIfInBounds_toArray, List.set_cons_zero, List.set_cons_succ]
      refine wpAnyH_ready (rs := [11]) (by kernel_rfl) (by simp) ?_
      refine AllReadyH.cons rfl (fun K hK => ?_) AllReadyH.nil
      go_simp
      go_at_call 78
      refine (put3D w2.drew g m2 M2.out.ok.drew 1 i tear b p0 p1 pf c A rfl HOk.out.1 HSo.out.drew HOk.out.2).mono ?_
      rintro e w3 ⟨rfl, m3, hm3⟩
      have T3 := Lib.hid hm3
      have CK33 : w3.cell? ⟨g, 33, none⟩ = some (.slice (some ⟨a, 0, none⟩) (StM.put i b p0 p1 pf A c :: r).length m2.c) := (by have h := hm3.to.ok.wait; rw [hm3.W, hm3.A, hm3.c, hA2.out, HW2.out] at h; exact h)
      have CKT : w3.cell? ⟨a, 1, none⟩ = some (.func (.func 78) #[] #[.pointer (some ⟨pf, 0, none⟩), .pointer (some ⟨p1, 0, none⟩)]) := (by obtain ⟨a', h1, _, _, h4⟩ := hm3.to.ok.step (k := 0) (by rw [hm3.W, HW2.out]; exact Nat.succ_pos _); rw [hm3.A, hA2.out] at h1; injection h1 with h1; injection h1 with h1; subst h1; have e : m3.W[0]'(by rw [hm3.W, HW2.out]; exact Nat.succ_pos _) = StM.put i b p0 p1 pf A c := (by simp only [hm3.W, HW2.out, List.getElem_cons_zero]); rw [e, Nat.zero_mul] at h4; exact h4 1 _ rfl)
      clear hm3
      refine hK.out _ _ ⟨CK33, CKT⟩ (fun hSn => ?_)
      clear hK K
      try simp only [Act.put, List.setIfInBounds_toArray, List.set_cons_zero, List.set_cons_succ]
      refine wpAnyH_done (by kernel_rfl) ?_ _
      have M3 : Hid (DkTo w2 g m2 w3 m3) := (⟨M2.out.ok.drew, fun _ h => .inl h, fun _ h => .inl h, (Keeps.refl _ _).drew⟩ : DkTo w2 g m2 w2.drew m2).trans T3.out.to
      have MM : Hid (DkTo w g m w3 m3) := M2.out.trans M3.out
      have E3 : Hid (tornD m2.d tear = m3.d) := by show _ = _; rw [HD3.out, T3.out.d]; rfl
      have HT3 : Hid (∀ k, k < 16 → (rowD m3.d.X (0 + k)).length ≤ 16777216) := by have h := HT2.out; rw [E3.out] at h; exact h
      clear hHeld hSn C33 CT HR0 HSo HOk T3 M3 hl0 hl1
      go_wp2_with (first
        | (go_at_call 42; refine (lclone_any w3 g m3 (MM.out).ok 1 0 HT3.out rfl (by omega)).mono ?_; rintro e w4 ⟨rs, rfl, hc⟩; have C4 := Lib.hid hc; have B4 : Hid (Blk w4 g 54 (dkC m3).toArray) := (MM.out).ok.b.below hc.v (MM.out).ok.lt; clear hc)
        | ((with_reducible show wpList _ _ _ (⟨none, .store 51 _ _, _, _, _, _⟩ :: _) _ _); refine wpList_store_partD rfl 51 (.tmp 44) (.tmp 42) rfl g 17 54 (dkC m3).toArray (rs.map RowM.v).toArray (dkC { m3 with rows := m3.rows.take 16 ++ rs }).toArray (.agg (rs.map RowM.v).toArray) rfl rfl rfl B4.out (by rw [List.size_toArray, List.size_toArray, List.length_map, C4.out.n, dkC_len (MM.out).ok.n]; omega) (by rw [List.size_toArray, List.length_map, C4.out.n]; exact Tryd.lgsize) (slN_one rs) (dkC_up (MM.out).ok.n C4.out.n) ?_; intro w5 h5 h6 h7; have B5 := Lib.hid h5; have K5 := Lib.hid h6; have N5 : Hid (({ m3 with rows := m3.rows.take 16 ++ rs } : DkM).rows.length = 32) := (by show (m3.rows.take 16 ++ rs).length = _; rw [List.length_append, List.length_take, C4.out.n, (MM.out).ok.n]; rfl); have c33 : w5.cell? ⟨g, 33, none⟩ = some (.slice m3.A m3.W.length m3.c) := (by rw [h5.cell, List.getElem?_toArray]; exact dkC_wait N5.out); have c34 : w5.cell? ⟨g, 34, none⟩ = some (.int .i64 m3.fuse) := (by rw [h5.cell, List.getElem?_toArray]; exact dkC_fuse N5.out); have c35 : w5.cell? ⟨g, 35, none⟩ = some (.bool m3.dead) := (by rw [h5.cell, List.getElem?_toArray]; exact dkC_dead N5.out); have f33 : w5.frozen? ⟨g, 33, none⟩ = false := h5.frozen _; have f34 : w5.frozen? ⟨g, 34, none⟩ = false := h5.frozen _; have f35 : w5.frozen? ⟨g, 35, none⟩ = false := h5.frozen _; clear h5 h6 h7))
      go_ret
      have hB := ((B5.out.set 33 (.slice none 0 0)).set 34 (.int .i64 (-1))).set 35 (.bool false)
      rw [dkC_rest N5.out] at hB
      have hU := DkTo.up (MM.out).ok C4.out (((K5.out.setCell (p := ⟨g, 33, none⟩) rfl _).setCell (p := ⟨g, 34, none⟩) rfl _).setCell (p := ⟨g, 35, none⟩) rfl _) hB
      exact ⟨rfl, _, (MM.out).trans hU.1, hU.2.trans (by rw [← D2.out, E3.out])⟩
    | cut i n p0 p1 =>
      have ct : w2.cell? ⟨a, 1, none⟩ = some (.func (.func 68) #[] #[]) := HR0.out 1 _ rfl
      have CT := Lib.hid ct
      clear ct
      go_wp2_with fail
      clear c33
      refine wp_region_held_drew (S := fun W => W.cell? ⟨g, 33, none⟩ = some (.slice (some ⟨a, 0, none⟩) (StM.cut i n p0 p1 :: r).length m2.c) ∧ W.cell? ⟨a, 1, none⟩ = some (.func (.func 68) #[] #[])) (by kernel_rfl) ⟨C33.out, CT.out⟩ (fun hHeld => ?_)
      refine wpAnyH_take (i := 0) (oi := ⟨_, _, _, _, _, _⟩) (v := ?_) rfl (by kernel_rfl) (by kernel_rfl) (by kernel_rfl) (fun _ _ _ h => h) (Or.inl ⟨by rfl, ?_⟩) (by assumption) ?_
      rotate_left 1
      · intro W hSw
        try dsimp only at hSw
        obtain ⟨hs1, hs2⟩ := hSw
        go_simp
        try with_reducible rfl
      try simp only [Act.put, List.setIfInBounds_toArray, List.set_cons_zero, List.set_cons_succ]
      refine wpAnyH_take (i := 1) (oi := ⟨_, _, _, _, _, _⟩) (v := ?_) rfl (by kernel_rfl) (by kernel_rfl) (by kernel_rfl) (fun _ _ _ h => h) (Or.inl ⟨by rfl, ?_⟩) (by assumption) ?_
      rotate_left 1
      · intro W hSw
        try dsimp only at hSw
        obtain ⟨hs1, hs2⟩ := hSw
        go_simp
        try with_reducible rfl
      try simp only [Act.put, List.setIfInBounds_toArray, List.set_cons_zero, List.set_cons_succ]
      refine wpAnyH_take (i := 2) (oi := ⟨_, _, _, _, _, _⟩) (v := ?_) rfl (by kernel_rfl) (by kernel_rfl) (by kernel_rfl) (fun _ _ _ h => h) (Or.inl ⟨by rfl, ?_⟩) (by assumption) ?_
      rotate_left 1
      · intro W hSw
        try dsimp only at hSw
        obtain ⟨hs1, hs2⟩ := hSw
        go_simp
        try with_reducible rfl
      try simp only [Act.put, List.setIfInBounds_toArray, List.set_cons_zero, List.set_cons_succ]
      refine wpAnyH_take (i := 3) (oi := ⟨_, _, _, _, _, _⟩) (v := ?_) rfl (by kernel_rfl) (by kernel_rfl) (by kernel_rfl) (fun _ _ _ h => h) (Or.inl ⟨by rfl, ?_⟩) (by assumption) ?_
      rotate_left 1
      · intro W hSw
        try dsimp only at hSw
        obtain ⟨hs1, hs2⟩ := hSw
        go_simp
        try with_reducible rfl
      try simp only [Act.put, List.setIfInBounds_toArray, List.set_cons_zero, List.set_cons_succ]
      refine wpAnyH_take (i := 4) (oi := ⟨_, _, _, _, _, _⟩) (v := ?_) rfl (by kernel_rfl) (by kernel_rfl) (by kernel_rfl) (fun _ _ _ h => h) (Or.inl ⟨by rfl, ?_⟩) (by assumption) ?_
      rotate_left 1
      · intro W hSw
        try dsimp only at hSw
        obtain ⟨hs1, hs2⟩ := hSw
        go_simp
        try with_reducible rfl
      try simp only [Act.put, List.setIfInBounds_toArray, List.set_cons_zero, List.set_cons_succ]
      refine wpAnyH_take (i := 5) (oi := ⟨_, _, _, _, _, _⟩) (v := ?_) rfl (by kernel_rfl) (by kernel_rfl) (by kernel_rfl) (fun _ _ _ h => h) (Or.inl ⟨by rfl, ?_⟩) (by assumption) ?_
      rotate_left 1
      · intro W hSw
        try dsimp only at hSw
        obtain ⟨hs1, hs2⟩ := hSw
        go_simp
        try with_reducible rfl
      try simp only [Act.put, List.setIfInBounds_toArray, List.set_cons_zero, List.set_cons_succ]
      refine wpAnyH_take (i := 6) (oi := ⟨_, _, _, _, _, _⟩) (v := ?_) rfl (by kernel_rfl) (by kernel_rfl) (by kernel_rfl) (fun _ _ _ h => h) (Or.inl ⟨by rfl, ?_⟩) (by assumption) ?_
      rotate_left 1
      · intro W hSw
        try dsimp only at hSw
        obtain ⟨hs1, hs2⟩ := hSw
        go_simp
        try with_reducible rfl
      try simp only [Act.put, List.setIfInBounds_toArray, List.set_cons_zero, List.set_cons_succ]
      refine wpAnyH_take (i := 7) (oi := ⟨_, _, _, _, _, _⟩) (v := ?_) rfl (by kernel_rfl) (by kernel_rfl) (by kernel_rfl) (fun _ _ _ h => h) (Or.inl ⟨by rfl, ?_⟩) (by assumption) ?_
      rotate_left 1
      · intro W hSw
        try dsimp only at hSw
        obtain ⟨hs1, hs2⟩ := hSw
        go_simp
        try with_reducible rfl
      try simp only [Act.put, List.setIfInBounds_toArray, List.set_cons_zero, List.set_cons_succ]
      refine wpAnyH_take (i := 8) (oi := ⟨_, _, _, _, _, _⟩) (v := ?_) rfl (by kernel_rfl) (by kernel_rfl) (by kernel_rfl) (fun _ _ _ h => h) (Or.inl ⟨by rfl, ?_⟩) (by assumption) ?_
      rotate_left 1
      · intro W hSw
        try dsimp only at hSw
        obtain ⟨hs1, hs2⟩ := hSw
        go_simp
        try with_reducible rfl
      try simp only [Act.put, List.setIfInBounds_toArray, List.set_cons_zero, List.set_cons_succ]
      refine wpAnyH_take (i := 9) (oi := ⟨_, _, _, _, _, _⟩) (v := ?_) rfl (by kernel_rfl) (by kernel_rfl) (by kernel_rfl) (fun _ _ _ h => h) (Or.inl ⟨by rfl, ?_⟩) (by assumption) ?_
      rotate_left 1
      · intro W hSw
        try dsimp only at hSw
        obtain ⟨hs1, hs2⟩ := hSw
        go_simp
        try with_reducible rfl
      try simp only [Act.put, List.setIfInBounds_toArray, List.set_cons_zero, List.set_cons_succ]
      refine wpAnyH_take (i := 10) (oi := ⟨_, _, _, _, _, _⟩) (v := ?_) rfl (by kernel_rfl) (by kernel_rfl) (by kernel_rfl) (fun _ _ _ h => h) (Or.inl ⟨by rfl, ?_⟩) (by assumption) ?_
      rotate_left 1
      · intro W hSw
        try dsimp only at hSw
        obtain ⟨hs1, hs2⟩ := hSw
        go_simp
        try with_reducible rfl
      try simp only [Act.put, List.setIfInBounds_toArray, List.set_cons_zero, List.set_cons_succ]
      refine wpAnyH_ready (rs := [11]) (by kernel_rfl) (by simp) ?_
      refine AllReadyH.cons rfl (fun K hK => ?_) AllReadyH.nil
      go_simp
      go_at_call 68
      refine (cut2_any w2.drew _ tear).mono ?_
      rintro e wn ⟨rfl, hwn⟩
      obtain rfl := hwn.symm
      refine hK.out _ _ ⟨C33.out, CT.out⟩ (fun hSn => ?_)
      clear hK K
      try simp only [Act.put, List.setIfInBounds_toArray, List.set_cons_zero, List.set_cons_succ]
      refine wpAnyH_done (by kernel_rfl) ?_ _
      have MM : Hid (DkTo w g m w2.drew m2) := M2.out.trans ⟨M2.out.ok.drew, fun _ h => .inl h, fun _ h => .inl h, (Keeps.refl _ _).drew⟩
      have E3 : Hid (tornD m2.d tear = m2.d) := by show _ = _; rw [HD3.out]; rfl
      have HT3 : Hid (∀ k, k < 16 → (rowD m2.d.X (0 + k)).length ≤ 16777216) := by have h := HT2.out; rw [E3.out] at h; exact h
      obtain ⟨w3, hw3⟩ : ∃ W, w2.drew = W := ⟨_, rfl⟩
      rw [hw3] at MM ⊢
      clear hHeld hSn C33 CT HR0 HSo HOk hl0 hl1
      go_wp2_with (first
        | (go_at_call 42; refine (lclone_any w3 g m2 (MM.out).ok 1 0 HT3.out rfl (by omega)).mono ?_; rintro e w4 ⟨rs, rfl, hc⟩; have C4 := Lib.hid hc; have B4 : Hid (Blk w4 g 54 (dkC m2).toArray) := (MM.out).ok.b.below hc.v (MM.out).ok.lt; clear hc)
        | ((with_reducible show wpList _ _ _ (⟨none, .store 51 _ _, _, _, _, _⟩ :: _) _ _); refine wpList_store_partD rfl 51 (.tmp 44) (.tmp 42) rfl g 17 54 (dkC m2).toArray (rs.map RowM.v).toArray (dkC { m2 with rows := m2.rows.take 16 ++ rs }).toArray (.agg (rs.map RowM.v).toArray) rfl rfl rfl B4.out (by rw [List.size_toArray, List.size_toArray, List.length_map, C4.out.n, dkC_len (MM.out).ok.n]; omega) (by rw [List.size_toArray, List.length_map, C4.out.n]; exact Tryd.lgsize) (slN_one rs) (dkC_up (MM.out).ok.n C4.out.n) ?_; intro w5 h5 h6 h7; have B5 := Lib.hid h5; have K5 := Lib.hid h6; have N5 : Hid (({ m2 with rows := m2.rows.take 16 ++ rs } : DkM).rows.length = 32) := (by show (m2.rows.take 16 ++ rs).length = _; rw [List.length_append, List.length_take, C4.out.n, (MM.out).ok.n]; rfl); have c33 : w5.cell? ⟨g, 33, none⟩ = some (.slice m2.A m2.W.length m2.c) := (by rw [h5.cell, List.getElem?_toArray]; exact dkC_wait N5.out); have c34 : w5.cell? ⟨g, 34, none⟩ = some (.int .i64 m2.fuse) := (by rw [h5.cell, List.getElem?_toArray]; exact dkC_fuse N5.out); have c35 : w5.cell? ⟨g, 35, none⟩ = some (.bool m2.dead) := (by rw [h5.cell, List.getElem?_toArray]; exact dkC_dead N5.out); have f33 : w5.frozen? ⟨g, 33, none⟩ = false := h5.frozen _; have f34 : w5.frozen? ⟨g, 34, none⟩ = false := h5.frozen _; have f35 : w5.frozen? ⟨g, 35, none⟩ = false := h5.frozen _; clear h5 h6 h7))
      go_ret
      have hB := ((B5.out.set 33 (.slice none 0 0)).set 34 (.int .i64 (-1))).set 35 (.bool false)
      rw [dkC_rest N5.out] at hB
      have hU := DkTo.up (MM.out).ok C4.out (((K5.out.setCell (p := ⟨g, 33, none⟩) rfl _).setCell (p := ⟨g, 34, none⟩) rfl _).setCell (p := ⟨g, 35, none⟩) rfl _) hB
      exact ⟨rfl, _, (MM.out).trans hU.1, hU.2.trans (by rw [← D2.out, E3.out])⟩
end Go.Proofs.YthamlphebnhcpaaDoor
