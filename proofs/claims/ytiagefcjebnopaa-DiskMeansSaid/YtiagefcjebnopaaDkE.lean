/-
  disk: a copy.
-/
import Derived.Test.YtiagefcjebnopaaDkD
namespace Go.Proofs.Ytiagefcjebnopaa
open Go.RowKit

section
variable {P : Program} {w : World}
theorem step_store_partD {ops : Array Oper} {o : Oper} {a : Act} {K : Act → World → Prop} {Q : Exit → Act → World → Prop} {E : Prop} (hgd : o.guard = none) (ty : TypeId) (x y : Operand) (ho : o.op = .store ty x y)
    (g off : Nat) (t : TypeId) (old cells new : Array Value) (v : Value) (hx : a.eval x = .pointer (some ⟨g, off, none⟩)) (hy : a.eval y = v) (hv : v.cells = cells) (hg : Blk w g t old) (hs : off + cells.size ≤ old.size)
    (hi : (P.info? ty).map (·.size) = some cells.size) (h1 : ∀ u ∈ cells.toList, u.oneCell' = true) (hn : (old.toList.take off ++ cells.toList ++ old.toList.drop (off + cells.size)).toArray = new)
    (h : ∀ w', Blk w' g t new → Keeps (· = g) w w' → w'.heap.size = w.heap.size → K (a.put o.dst undef) w') :
    if Region.wanted o (yielded ops a.tmps) = true then Oper.wp P o a w K Q else E := by
  have hw : Region.wanted o (yielded ops a.tmps) = true := by simp [Region.wanted, hgd]
  rw [if_pos hw]
  obtain ⟨w', hr, h2, h3, h4⟩ := run_storePartD (P := P) g off t ty old cells v hv hg hs hi h1
  unfold Oper.wp execOp
  simp only [ho, hx, hy, Instr.storeAt, Instr.sureAddr, Sem.run_bind, Sem.run_pure, Result.andThen_ok, hr]
  exact h w' (hn ▸ h2) h3 h4
end
/-- What Clone of steps answers. -/
def SClone (w : World) (W : List StM) (e : Ending) (w' : World) : Prop := ∃ A c, e = .returned (.slice A W.length c) ∧ w'.ownsRow 0 64 2 (.slice A W.length c) W.length (stsC W) ∧ (∀ j, A.map (·.block) = some j → w.heap.size ≤ j) ∧ Below w.heap.size w w'
set_option maxHeartbeats 1000000 in
theorem sclone_any (w : World) (A : Option Addr) (W : List StM) (c : Nat) (h : w.ownsRow 0 64 2 (.slice A W.length c) W.length (stsC W)) (hW : W.length ≤ 1000) : Calls Try.prog 30 #[.slice A W.length c] w (SClone w W) := by
  unfold SClone
  have HS := Lib.hid ((SeesV.own h).alloc (.cells #[] 64))
  have HM := Lib.hid hW
  have HO : Hid ((w.alloc (.cells #[] 64)).ownsRow 0 64 2 (.slice (some ⟨w.heap.size, 0, none⟩) 0 0) 0 []) := own_made (cs := []) (heap_alloc_new w _) (Nat.zero_le _) (Nat.le_refl _) (Nat.zero_le _) rfl
  obtain ⟨i0, hi, hz0, hz1, hz2⟩ := infoD Try.stinfo
  have hL : A = none → W = [] := fun e => by
    subst e
    rcases h.2 with ⟨hv, h0⟩ | ⟨_, _, _, hv, _⟩
    · exact List.eq_nil_of_length_eq_zero h0
    · injection hv with h1; cases h1
  have HSt := Lib.hid (stsC_one W)
  have HSl := Lib.hid (stsC_len W)
  clear h
  cases A with
  | none =>
    obtain rfl := hL rfl
    have hq : (binOp .eql 49 (.slice none 0 c) (.slice none 0 0)).run Try.prog w = .ok (.bool true) w := eql_snilD w 49 64 none 0 c Try.underlying49
    go_enter Try.func30, Try.ntmps30
    go_wp2
    go_ret
    exact ⟨none, 0, rfl, ⟨rfl, .inl ⟨rfl, rfl⟩⟩, (fun j e => by cases e), nxRefl w⟩
  | some ad =>
    clear hL
    have hq : (binOp .eql 49 (.slice (some ad) W.length c) (.slice none 0 0)).run Try.prog w = .ok (.bool false) w := eql_snilD w 49 64 (some ad) W.length c Try.underlying49
    go_enter Try.func30, Try.ntmps30
    go_wp2_with (at_builtin; refine wpList_append_seesV rfl (.tmp 5) (.tmp 6) 49 rfl 0 64 i0 _ 2 16 Try.underlying49 hi hz0 hz1 hz2 rfl (by decide) (.slice (some ⟨w.heap.size, 0, none⟩) 0 0) 0 [] rfl HO.out _ (some ad) W.length c (stsC W) rfl HSl.out HS.out HSt.out (by have := HM.out; omega) (by have := HM.out; omega) (Nat.zero_le _) ?_; intro v3 w3 h1 h2 h3; have H1 := Lib.hid h1; have H2 := Lib.hid h2; have H3 := Lib.hid h3; clear h1 h2 h3)
    go_ret
    obtain ⟨A3, c3, rfl⟩ := own_form H1.out
    rw [Nat.zero_add] at H1
    refine ⟨A3, c3, by rw [Nat.zero_add]; rfl, H1.out, fun j e => ?_, ?_⟩
    · rcases H3.out with h | h
      · rw [own_blkD, own_blkD] at h
        rw [h] at e
        simp at e
        omega
      · rw [own_blkD] at h
        rw [h] at e
        simp at e
        omega
    · have k1 : Keeps (· = w.heap.size) (w.alloc (.cells #[] 64)) w3 := (Keeps.refl _ _).grown H2.out (fun k e => by simpa [Value.ownBlock] using e.symm)
      exact (nxAlloc (nxRefl w) _).trans (k1.below (by simp) (fun j hj => by omega))
theorem Try.dksize : (Try.prog.info? 51).map (·.size) = some 36 := by kernel_rfl
theorem dkC_one (m : DkM) : ∀ u ∈ (dkC m).toArray.toList, u.oneCell' = true := by
  intro u hu
  rw [List.toList_toArray] at hu
  simp only [dkC, List.mem_cons, List.mem_append, List.mem_map, List.not_mem_nil, or_false] at hu
  rcases hu with rfl | ⟨r, _, rfl⟩ | rfl | rfl | rfl <;> rfl
theorem dkC_set1 {m : DkM} {rs : List RowM} (n : m.rows.length = 32) (hr : rs.length = 16) : ((dkC m).toArray.toList.take 1 ++ (rs.map RowM.v).toArray.toList ++ (dkC m).toArray.toList.drop (1 + (rs.map RowM.v).toArray.size)).toArray = (dkC { m with rows := rs ++ m.rows.drop 16 }).toArray := by
  have h1 : (m.rows.take 16).length = 16 := by rw [List.length_take, n]; rfl
  have e3 : m.rows.map RowM.v = (m.rows.take 16).map RowM.v ++ (m.rows.drop 16).map RowM.v := by rw [← List.map_append, List.take_append_drop]
  have e1 : dkC m = [.bool true] ++ ((m.rows.take 16).map RowM.v ++ ((m.rows.drop 16).map RowM.v ++ [.slice m.A m.W.length m.c, .int .i64 m.fuse, .bool m.dead])) := by
    unfold dkC
    rw [e3, List.append_assoc]
    rfl
  have e2 : dkC { m with rows := rs ++ m.rows.drop 16 } = [.bool true] ++ (rs.map RowM.v ++ ((m.rows.drop 16).map RowM.v ++ [.slice m.A m.W.length m.c, .int .i64 m.fuse, .bool m.dead])) := by
    unfold dkC
    rw [List.map_append, List.append_assoc]
    rfl
  congr 1
  rw [e2, List.size_toArray]
  show (dkC m).take 1 ++ rs.map RowM.v ++ (dkC m).drop (1 + (rs.map RowM.v).length) = _
  rw [e1]
  exact partD _ _ _ _ (by rw [List.length_map, List.length_map, h1, hr]) 1 rfl
/-- A copy. -/
structure CopyTo (w : World) (m : DkM) (w' : World) (g' : Nat) (m' : DkM) : Prop where
  ok : DkOk w' g' m'
  d : m'.d = m.d
  W : m'.W = m.W
  f : ∀ j, foot g' m' j → w.heap.size ≤ j
  v : Below w.heap.size w w'
def CopyPost (w : World) (m : DkM) (e : Ending) (w' : World) : Prop := ∃ g' m', e = .returned (ptrD g') ∧ CopyTo w m w' g' m'
theorem CopyTo.of {w w1 w2 w3 w' : World} {g cb : Nat} {m : DkM} {r1 r2 : List RowM} {A : Option Addr} {c : Nat} (h : DkOk w g m) (hcb : w.heap.size ≤ cb) (hb1 : Below w.heap.size w w1) (hcl : cb < w1.heap.size) (c1 : ClonedP w1 ((m.d.X.drop 0).take 16) w2 r1) (c2 : ClonedP w2 ((m.d.X.drop 16).take 16) w3 r2)
    (hb : Blk w' cb 51 (dkC ⟨r1 ++ r2, A, c, m.W, m.fuse, m.dead⟩).toArray) (hK : Keeps (fun j => j = cb) w3 w') (ho : w'.ownsRow 0 64 2 (.slice A m.W.length c) m.W.length (stsC m.W)) (hA : ∀ j, A.map (·.block) = some j → w3.heap.size ≤ j) : CopyTo w m w' cb ⟨r1 ++ r2, A, c, m.W, m.fuse, m.dead⟩ := by
  have b3 : Below w.heap.size w w3 := nxTo (nxTo hb1 c1.v) c2.v
  have bw : Below w.heap.size w w' := b3.trans (hK.below b3.size (fun j hj => by omega))
  have n1 : ∀ r ∈ r1, ∀ j, r.bk = some j → w1.heap.size ≤ j ∧ j < w2.heap.size := c1.f
  have n2 : ∀ r ∈ r2, ∀ j, r.bk = some j → w2.heap.size ≤ j ∧ j < w3.heap.size := c2.f
  have s12 := c1.v.size
  have s01 := hb1.size
  have s23 := c2.v.size
  have hft : ∀ j, foot cb ⟨r1 ++ r2, A, c, m.W, m.fuse, m.dead⟩ j → w.heap.size ≤ j := by
    rintro j (rfl | hj | ⟨s, hs, hj⟩)
    · exact hcb
    · have := hA j hj; omega
    · rcases List.mem_append.1 hs with hs | hs
      · have := (n1 s hs j hj).1; omega
      · have := (n2 s hs j hj).1; omega
  refine ⟨⟨hb, by show (r1 ++ r2).length = _; rw [List.length_append, c1.n, c2.n], fun r hr => ?_, fun i j x hi hj h1 h2 => ?_, ho, fun s hs => (h.s s hs).keep (Keeps.of_below bw (fun _ => False)) (fun _ _ h => h), fun j hj => ⟨fun hf => ?_, ?_⟩⟩, ?_, rfl, hft, bw⟩
  · rcases List.mem_append.1 hr with hr | hr
    · exact RowM.keep (RowM.keep (c1.o r hr) (Keeps.of_below c2.v (fun _ => False)) (fun _ _ h => h)) hK (fun j e e2 => by have := (n1 r hr j e).1; omega)
    · exact RowM.keep (c2.o r hr) hK (fun j e e2 => by have := (n2 r hr j e).1; omega)
  · have hi' : i < (r1 ++ r2).length := hi
    have hj' : j < (r1 ++ r2).length := hj
    have h1' : (r1 ++ r2)[i].bk = some x := h1
    have h2' : (r1 ++ r2)[j].bk = some x := h2
    rw [List.getElem_append] at h1' h2'
    split at h1'
    · have h5 := (n1 _ (List.getElem_mem _) x h1').2
      split at h2'
      · exact c1.q _ _ x _ _ h1' h2'
      · have := (n2 _ (List.getElem_mem _) x h2').1
        omega
    · have h5 := (n2 _ (List.getElem_mem _) x h1').1
      split at h2'
      · have := (n1 _ (List.getElem_mem _) x h2').2
        omega
      · have := c2.q _ _ x _ _ h1' h2'
        omega
  · have h1 := (h.f j hj).2
    have h2 := hft j hf
    omega
  · exact Nat.lt_of_lt_of_le (h.f j hj).2 bw.size
  · have e1 := c1.l
    have e2 := c2.l
    have hn : m.d.X.length = 32 := by show (m.rows.map _).length = _; rw [List.length_map]; exact h.n
    have e3 : (m.d.X.drop 16).take 16 = m.d.X.drop 16 := List.take_of_length_le (by rw [List.length_drop]; omega)
    rw [List.drop_zero] at e1
    rw [e3] at e2
    show DkD.mk ((r1 ++ r2).map (·.l)) _ _ _ = _
    rw [List.map_append, e1, e2, List.take_append_drop]
    rfl

set_option maxHeartbeats 4000000 in
set_option maxRecDepth 100000 in
theorem copy_any (w : World) (g : Nat) (m : DkM) (h : DkOk w g m) (hm : ∀ k, (rowD m.d.X k).length ≤ 16777216) (hW : m.W.length ≤ 1000) : Calls Try.prog 11 #[ptrD g] w (CopyPost w m) := by
  have H := Lib.hid h
  have HMx := Lib.hid hm
  have HWl := Lib.hid hW
  have HM : Hid (w.cell? ⟨g, 0, none⟩ = some (.bool true)) := h.made
  have HR := Lib.hid (blkRD h.b)
  have HZ : Hid ((Try.prog.info? 51).map (·.size) = some (dkC m).length) := by show _ = _; rw [dkC_len h.n]; exact Try.dksize
  have HZ' : Hid ((Try.prog.info? 51).map (·.size) = some (dkC m).toArray.size) := by show _ = _; rw [List.size_toArray, dkC_len h.n]; exact Try.dksize
  have Hs1 : Hid ((Value.bool false :: (List.replicate 32 (Value.slice none 0 0) ++ [Value.slice none 0 0, Value.int .i64 0, Value.bool false])).toArray.size = (dkC m).toArray.size) := (show (Value.bool false :: (List.replicate 32 (Value.slice none 0 0) ++ [Value.slice none 0 0, Value.int .i64 0, Value.bool false])).toArray.size = 36 from rfl).trans (show 36 = (dkC m).toArray.size from (dkC_len h.n).symm)
  unfold ptrD CopyPost
  clear h hm hW
  go_enter Try.func11, Try.ntmps11
  go_wp2_with (first
    | (go_at_call 26; refine (isMade_any w g true HM.out).mono ?_; rintro e w1 ⟨rfl, hw1⟩; obtain rfl := hw1.symm)
    | ((with_reducible show wpList _ _ _ (⟨some 9, _, _, _, _, _⟩ :: _) _ _); refine wpList_load_mid rfl 51 (.tmp 8) rfl g 0 rfl (dkC m) _ HR.out Try.underlying51 rfl HZ.out ?_)
    | ((with_reducible show wpList _ _ _ (⟨none, .store 51 _ _, _, _, _, _⟩ :: _) _ _); (show wpList _ _ _ _ _ (w.alloc (.cells (Value.bool false :: (List.replicate 32 (Value.slice none 0 0) ++ [Value.slice none 0 0, Value.int .i64 0, Value.bool false])).toArray 51))); refine wpList_store_wholeD rfl 51 (.tmp 3) (.tmp 9) rfl w.heap.size 51 (Value.bool false :: (List.replicate 32 (Value.slice none 0 0) ++ [Value.slice none 0 0, Value.int .i64 0, Value.bool false])).toArray (dkC m).toArray rfl rfl (blk_newD rfl) Hs1.out HZ'.out (dkC_one m) ?_; intro w1 h5 h6 h7; have B1 := Lib.hid h5; have K1 : Hid (Keeps (· = w.heap.size) (w.alloc (.cells (Value.bool false :: (List.replicate 32 (Value.slice none 0 0) ++ [Value.slice none 0 0, Value.int .i64 0, Value.bool false])).toArray 51)) w1) := h6; clear h5 h6 h7))
  have V1 : Hid (Below w.heap.size w w1) := (nxAlloc (nxRefl w) _).trans (K1.out.below (by simp) (fun j hj => by omega))
  have D1 : Hid (DkOk w1 g m) := (DkTo.below H.out V1.out).ok
  have L1 : Hid (w.heap.size < w1.heap.size) := B1.out.lt
  clear K1
  refine wp_region_held_drew (S := fun _ => True) (by kernel_rfl) True.intro (fun hHeld => ?_)
  refine wpAnyH_take (i := 0) (oi := ⟨_, _, _, _, _, _⟩) (v := ?_) rfl (by kernel_rfl) (by kernel_rfl) (by kernel_rfl) (fun _ _ _ h => h) (Or.inl ⟨by rfl, ?_⟩) (by assumption) ?_
  rotate_left 1
  · intro W hSw
    try dsimp only at hSw
    go_simp
    try with_reducible rfl
  try simp only [Act.put, List.setIfInBounds_toArray, List.set_cons_zero, List.set_cons_succ]
  refine wpAnyH_take (i := 1) (oi := ⟨_, _, _, _, _, _⟩) (v := ?_) rfl (by kernel_rfl) (by kernel_rfl) (by kernel_rfl) (fun _ _ _ h => h) (Or.inl ⟨by rfl, ?_⟩) (by assumption) ?_
  rotate_left 1
  · intro W hSw
    try dsimp only at hSw
    go_simp
    try with_reducible rfl
  try simp only [Act.put, List.setIfInBounds_toArray, List.set_cons_zero, List.set_cons_succ]
  refine wpAnyH_take (i := 2) (oi := ⟨_, _, _, _, _, _⟩) (v := ?_) rfl (by kernel_rfl) (by kernel_rfl) (by kernel_rfl) (fun _ _ _ h => h) (Or.inl ⟨by rfl, ?_⟩) (by assumption) ?_
  rotate_left 1
  · intro W hSw
    try dsimp only at hSw
    go_simp
    try with_reducible rfl
  try simp only [Act.put, List.setIfInBounds_toArray, List.set_cons_zero, List.set_cons_succ]
  refine wpAnyH_take (i := 4) (oi := ⟨_, _, _, _, _, _⟩) (v := ?_) rfl (by kernel_rfl) (by kernel_rfl) (by kernel_rfl) (fun _ _ _ h => h) (Or.inl ⟨by rfl, ?_⟩) (by assumption) ?_
  rotate_left 1
  · intro W hSw
    try dsimp only at hSw
    go_simp
    try with_reducible rfl
  try simp only [Act.put, List.setIfInBounds_toArray, List.set_cons_zero, List.set_cons_succ]
  refine wpAnyH_take (i := 5) (oi := ⟨_, _, _, _, _, _⟩) (v := ?_) rfl (by kernel_rfl) (by kernel_rfl) (by kernel_rfl) (fun _ _ _ h => h) (Or.inl ⟨by rfl, ?_⟩) (by assumption) ?_
  rotate_left 1
  · intro W hSw
    try dsimp only at hSw
    go_simp
    try with_reducible rfl
  try simp only [Act.put, List.setIfInBounds_toArray, List.set_cons_zero, List.set_cons_succ]
  refine wpAnyH_take (i := 6) (oi := ⟨_, _, _, _, _, _⟩) (v := ?_) rfl (by kernel_rfl) (by kernel_rfl) (by kernel_rfl) (fun _ _ _ h => h) (Or.inl ⟨by rfl, ?_⟩) (by assumption) ?_
  rotate_left 1
  · intro W hSw
    try dsimp only at hSw
    go_simp
    try with_reducible rfl
  try simp only [Act.put, List.setIfInBounds_toArray, List.set_cons_zero, List.set_cons_succ]
  refine wpAnyH_ready (rs := [3]) (by kernel_rfl) (by simp) ?_
  refine AllReadyH.cons rfl (fun K hK => ?_) AllReadyH.nil
  go_simp
  go_at_call 29
  refine (lclone_any w1.drew g m D1.out.drew 1 0 (fun k _ => HMx.out _) rfl (by omega)).mono ?_
  rintro e w2 ⟨r1, rfl, hc⟩
  have C1 : Hid (ClonedP w1 ((m.d.X.drop 0).take 16) w2 r1) := ⟨hc.n, hc.l, hc.o, hc.f, hc.q, nxUndr hc.v⟩
  have B2 : Hid (Blk w2 w.heap.size 51 (dkC m).toArray) := B1.out.below C1.out.v L1.out
  have D2 : Hid (DkOk w2 g m) := (DkTo.below D1.out C1.out.v).ok
  clear hc
  refine hK.out _ _ True.intro (fun hSn => ?_)
  clear hK K
  try simp only [Act.put, List.setIfInBounds_toArray, List.set_cons_zero, List.set_cons_succ]
  refine wpAnyH_ready (rs := [7]) (by kernel_rfl) (by simp) ?_
  refine AllReadyH.cons rfl (fun K hK => ?_) AllReadyH.nil
  go_simp
  go_at_call 29
  refine (lclone_any w2 g m D2.out 17 16 (fun k _ => HMx.out _) rfl (by omega)).mono ?_
  rintro e w3 ⟨r2, rfl, hc⟩
  have C2 := Lib.hid hc
  have B3 : Hid (Blk w3 w.heap.size 51 (dkC m).toArray) := B2.out.below hc.v B2.out.lt
  clear hc
  refine hK.out _ _ True.intro (fun hSn => ?_)
  clear hK K
  try simp only [Act.put, List.setIfInBounds_toArray, List.set_cons_zero, List.set_cons_succ]
  refine wpAnyH_take (i := 8) (oi := ⟨_, _, _, _, _, _⟩) (v := ?_) rfl (by kernel_rfl) (by kernel_rfl) (by kernel_rfl) (fun _ _ _ h => h) (Or.inl ⟨by rfl, ?_⟩) (by assumption) ?_
  rotate_left 1
  · intro W hSw
    try dsimp only at hSw
    go_simp
    try with_reducible rfl
  try simp only [Act.put, List.setIfInBounds_toArray, List.set_cons_zero, List.set_cons_succ]
  refine wpAnyH_ready (rs := [9]) (by kernel_rfl) (by simp) ?_
  refine AllReadyH.cons rfl (fun K hK => ?_) AllReadyH.nil
  refine step_store_partD (o := ⟨none, _, _, _, _, _⟩) rfl 48 (.tmp 18) (.tmp 13) rfl w.heap.size 1 51 (dkC m).toArray (r1.map RowM.v).toArray (dkC { m with rows := r1 ++ m.rows.drop 16 }).toArray (.agg (r1.map RowM.v).toArray) rfl rfl rfl B3.out (by rw [List.size_toArray, List.size_toArray, List.length_map, C1.out.n, dkC_len H.out.n]; omega) (by rw [List.size_toArray, List.length_map, C1.out.n]; exact Try.lgsize) (slN_one r1) (dkC_set1 H.out.n C1.out.n) ?_
  intro w4 h5 h6 h7
  have B4 := Lib.hid h5
  have K4 := Lib.hid h6
  clear h5 h6 h7
  refine hK.out _ _ True.intro (fun hSn => ?_)
  clear hK K
  try simp only [Act.put, List.setIfInBounds_toArray, List.set_cons_zero, List.set_cons_succ]
  refine wpAnyH_take (i := 10) (oi := ⟨_, _, _, _, _, _⟩) (v := ?_) rfl (by kernel_rfl) (by kernel_rfl) (by kernel_rfl) (fun _ _ _ h => h) (Or.inl ⟨by rfl, ?_⟩) (by assumption) ?_
  rotate_left 1
  · intro W hSw
    try dsimp only at hSw
    go_simp
    try with_reducible rfl
  try simp only [Act.put, List.setIfInBounds_toArray, List.set_cons_zero, List.set_cons_succ]
  have N4 : Hid (({ m with rows := r1 ++ m.rows.drop 16 } : DkM).rows.length = 32) := by show (r1 ++ m.rows.drop 16).length = _; rw [List.length_append, C1.out.n, List.length_drop, H.out.n]
  refine wpAnyH_ready (rs := [11]) (by kernel_rfl) (by simp) ?_
  refine AllReadyH.cons rfl (fun K hK => ?_) AllReadyH.nil
  refine step_store_partD (o := ⟨none, _, _, _, _, _⟩) rfl 48 (.tmp 19) (.tmp 17) rfl w.heap.size 17 51 (dkC { m with rows := r1 ++ m.rows.drop 16 }).toArray (r2.map RowM.v).toArray (dkC { m with rows := r1 ++ r2 }).toArray (.agg (r2.map RowM.v).toArray) rfl rfl rfl B4.out (by rw [List.size_toArray, List.size_toArray, List.length_map, C2.out.n, dkC_len N4.out]; omega) (by rw [List.size_toArray, List.length_map, C2.out.n]; exact Try.lgsize) (slN_one r2) (by have h := dkC_up (m := { m with rows := r1 ++ m.rows.drop 16 }) N4.out C2.out.n; have e : (r1 ++ m.rows.drop 16).take 16 = r1 := (by rw [List.take_append_of_le_length (by rw [C1.out.n]; omega), List.take_of_length_le (by rw [C1.out.n]; omega)]); rw [e] at h; exact h) ?_
  intro w5 h5 h6 h7
  have B5 := Lib.hid h5
  have K5 := Lib.hid h6
  have Z5 := Lib.hid h7
  clear h5 h6 h7
  refine hK.out _ _ True.intro (fun hSn => ?_)
  clear hK K
  try simp only [Act.put, List.setIfInBounds_toArray, List.set_cons_zero, List.set_cons_succ]
  refine wpAnyH_done (by kernel_rfl) ?_ _
  clear hHeld hSn
  have V3 : Hid (Below w.heap.size w w3) := nxTo (nxTo V1.out C1.out.v) C2.out.v
  have K35 : Hid (Keeps (fun j => j = w.heap.size) w3 w5) := K4.out.trans K5.out
  have V5 : Hid (Below w.heap.size w w5) := V3.out.trans (K35.out.below V3.out.size (fun j hj => by omega))
  have D5 : Hid (DkOk w5 g m) := (DkTo.below H.out V5.out).ok
  have c33 : w5.cell? ⟨g, 33, none⟩ = some (.slice m.A m.W.length m.c) := D5.out.wait
  have N5 : Hid (({ m with rows := r1 ++ r2 } : DkM).rows.length = 32) := by show (r1 ++ r2).length = _; rw [List.length_append, C1.out.n, C2.out.n]
  go_wp2_with (go_at_call 30; refine (sclone_any w5 m.A m.W m.c D5.out.ww HWl.out).mono ?_; unfold SClone; rintro e w6 ⟨A6, c6, rfl, ho, hA, hb⟩; have O6 := Lib.hid ho; have A6h := Lib.hid hA; have V6 := Lib.hid hb; have B6 : Hid (Blk w6 w.heap.size 51 (dkC { m with rows := r1 ++ r2 }).toArray) := B5.out.below hb B5.out.lt; have c6a : w6.cell? ⟨w.heap.size, 33, none⟩ = some (.slice m.A m.W.length m.c) := (by rw [B6.out.cell, List.getElem?_toArray]; exact dkC_wait N5.out); have f6a : w6.frozen? ⟨w.heap.size, 33, none⟩ = false := B6.out.frozen _; clear ho hA hb)
  go_ret
  have hB := B6.out.set 33 (.slice A6 m.W.length c6)
  rw [dkC_setWait N5.out A6 c6 m.W] at hB
  refine ⟨w.heap.size, _, rfl, CopyTo.of H.out (Nat.le_refl _) V1.out L1.out C1.out C2.out hB ((K35.out.trans (Keeps.of_below V6.out _)).setCell (p := ⟨w.heap.size, 33, none⟩) rfl _) (own_store O6.out B6.out (by decide) _ _) (fun j e => Nat.le_trans K35.out.size (A6h.out j e))⟩
end Go.Proofs.Ytiagefcjebnopaa
