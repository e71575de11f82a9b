/-
  merkle, the document's: left, Root.
-/
import Derived.Test.YtcbdjcmjchoagaaDoorMkI
namespace Go.Proofs.YtcbdjcmjchoagaaDoor
open Go.RowKit

theorem Hs_split (hs : List (List UInt8)) (h : All32 hs) (k : Nat) (hk : k ≤ hs.length) : Hs (hs.take k) = (Hs hs).take (k * 32) ∧ Hs (hs.drop k) = (Hs hs).drop (k * 32) := by
  have h1 : All32 (hs.take k) := fun x hx => h x (List.mem_of_mem_take hx)
  have e : Hs hs = Hs (hs.take k) ++ Hs (hs.drop k) := by
    rw [Hs, Hs, Hs, ← By_append, ← List.flatten_append, List.take_append_drop]
  have hl : (Hs (hs.take k)).length = k * 32 := by rw [Hs_length h1, List.length_take, Nat.min_eq_left hk]
  rw [e, ← hl, List.take_left, List.drop_left]
  exact ⟨rfl, rfl⟩
theorem slice_lowH {w : World} {B : Nat} {A : Option Addr} {hs : List (List UInt8)} {c : Nat} (h : SeesV w B A (Hs hs)) (h32 : All32 hs) (hc : hs.length ≤ c) (k : Nat) (hk : k ≤ hs.length) :
    ∃ A1, SeesV w B A1 (Hs (hs.take k)) ∧ ∀ wq, (Instr.slice 22 (.slice A hs.length c) none (some (.int .i64 (k : Int))) none).run Tryd.prog wq = .ok (.slice A1 k c) wq := by
  obtain ⟨i0, hi, hz0, hz1, hz2⟩ := info_parts Tryd.hinfo
  refine ⟨if c = 0 then A else A.map (·.add (0 * 32)), ?_, fun wq => ?_⟩
  · rw [(Hs_split hs h32 k hk).1]
    split
    · exact h.take _
    · have := (h.drop 0).take (k * 32)
      simpa using this
  · simp [Instr.slice, run_underlying Tryd.underlying22, Instr.sliceBounds, run_sliceBound wq .i64 (k : Int) c _ (by omega) (by omega), sizeOf, typeInfo, hi, hz1]
theorem slice_highH {w : World} {B : Nat} {A : Option Addr} {hs : List (List UInt8)} {c : Nat} (h : SeesV w B A (Hs hs)) (h32 : All32 hs) (hc : hs.length ≤ c) (k : Nat) (hk : k ≤ hs.length) :
    ∃ A1, SeesV w B A1 (Hs (hs.drop k)) ∧ ∀ wq, (Instr.slice 22 (.slice A hs.length c) (some (.int .i64 (k : Int))) none none).run Tryd.prog wq = .ok (.slice A1 (hs.length - k) (c - k)) wq := by
  obtain ⟨i0, hi, hz0, hz1, hz2⟩ := info_parts Tryd.hinfo
  refine ⟨if c = k then A else A.map (·.add (k * 32)), ?_, fun wq => ?_⟩
  · rw [(Hs_split hs h32 k hk).2]
    split
    · rw [List.drop_eq_nil_of_le (by rw [Hs_length h32]; omega)]; exact .inl rfl
    · exact h.drop _
  · simp [Instr.slice, run_underlying Tryd.underlying22, Instr.sliceBounds, run_sliceBound wq .i64 (k : Int) hs.length _ (by omega) (by omega), sizeOf, typeInfo, hi, hz1]
theorem leaves_32 (ids : List (List UInt8)) : All32 (ids.map leafB) := by
  intro z hz
  obtain ⟨q, _, rfl⟩ := List.mem_map.1 hz
  exact leafB_len q
/-- What is left of the rows above some. -/
def leftL (ids : List (List UInt8)) : List UInt8 := topH knotB (ids.map leafB)
theorem leftL_len {ids : List (List UInt8)} (h : 1 ≤ ids.length) : (leftL ids).length = 32 := by
  apply topH_len _ _ (leaves_32 ids)
  intro e
  have := congrArg List.length e
  simp at this
  rw [this] at h; simp at h
theorem leftL_one {id : List UInt8} : leftL [id] = leafB id := by rw [leftL, topH_one knotB (by simp)]; rfl
theorem leftL_sole {ids : List (List UInt8)} (h : ids.length = 1) {k : 0 < ids.length} : leafB ids[0] = leftL ids := by
  obtain ⟨y, rfl⟩ := List.length_eq_one_iff.mp h
  rw [leftL_one]; rfl
theorem leftL_two {ids : List (List UInt8)} (h : ¬ ids.length ≤ 1) : leftL ids = knotB (leftL (ids.take (half ids.length))) (leftL (ids.drop (half ids.length))) := by
  rw [leftL, topH_two knotB (by simpa using h)]
  simp only [List.length_map, ← List.map_take, ← List.map_drop, leftL]

set_option maxHeartbeats 1000000 in
set_option maxRecDepth 100000 in
theorem rleft_any (N : Nat) : ∀ (ids : List (List UInt8)), ids.length = N → ∀ (w : World) (A : Option Addr) (n c : Nat), n = ids.length → n ≤ c → 1 ≤ n → All32 ids → SeesV w w.heap.size A (Hs ids) → n ≤ 1048576 →
    Calls Tryd.prog 34 #[.slice A n c] w fun e w' => e = .returned (.agg (By (leftL ids)).toArray) ∧ Below w.heap.size w w' := by
  induction N using Nat.strongRecOn with
  | ind N ih =>
  intro ids hN w A n c hn hc h1 h32 hS hmax
  subst hn hN
  have IH := Lib.hid ih
  have hT : Blk (w.alloc (.cells (By zero32).toArray 32)) w.heap.size 32 (By zero32).toArray := heap_alloc_new w _
  have hb1 : Below w.heap.size w (w.alloc (.cells (By zero32).toArray 32)) := nxAlloc (nxRefl w) _
  have hS1 : SeesV (w.alloc (.cells (By zero32).toArray 32)) (w.alloc (.cells (By zero32).toArray 32)).heap.size A (Hs ids) := (hS.alloc _).size
  obtain ⟨x, hx⟩ : ∃ x, leftL ids = x := ⟨_, rfl⟩
  have HXl : Hid (x.length = 32) := by show _ = _; rw [← hx]; exact leftL_len h1
  have HZ0 := Lib.hid (Tryd.hsizeB x HXl.out)
  have HZ := Lib.hid hT
  have Hb1 := Lib.hid hb1
  have HS := Lib.hid hS1
  have H32 := Lib.hid h32
  rw [hx]
  clear ih hS hT hb1 hS1 h32
  by_cases hone : ids.length = 1
  · obtain ⟨b, off, rfl, hbb, hrg⟩ := SeesV.hash HS.out H32.out (k := 0) (by omega)
    have hr0 := hrg 0 (by omega)
    rw [show off + 0 * 32 = off by omega] at hr0
    have hl0 := H32.out.get (k := 0) (by omega)
    have HXa : Hid (leafB ids[0] = x) := by
      show _ = _
      rw [← hx]
      exact leftL_sole hone
    generalize ids[0] = id at *
    have HR := Lib.hid hr0
    have HL := Lib.hid hl0
    have HSX : Hid ((Tryd.prog.info? 32).map (·.size) = some (By id).length) := by have h := Tryd.hsizeB id hl0; show _ = _; rw [h]; simp
    have hl1 : (0 : Int) < (ids.length : Int) := by omega
    clear hrg hr0 hl0 hx hbb
    rw [hone]
    go_enter Tryd.func34, Tryd.ntmps34
    go_wp2_with (first
      | ((with_reducible show wpList _ _ _ (⟨some 9, _, _, _, _, _⟩ :: _) _ _); refine wpList_load_mid rfl 32 (.tmp 8) rfl b off rfl (By id) _ HR.out Tryd.underlying32 rfl HSX.out ?_)
      | (go_at_call 25; refine (rleaf_any _ id HL.out).mono ?_; rw [HXa.out]; rintro e w4 ⟨rfl, hb4⟩; have B4 := Lib.hid (HZ.out.below hb4 HZ.out.lt); have Hb4 : Hid (Below w.heap.size w w4) := nxTo Hb1.out hb4; clear hb4)
      | ((with_reducible show wpList _ _ _ (⟨none, .store 32 _ _, _, _, _, _⟩ :: _) _ _); refine wpList_store_all rfl 32 (.tmp 2) (.tmp 10) rfl w.heap.size 32 (By zero32).toArray (By x).toArray rfl rfl B4.out (by rw [List.size_toArray, List.size_toArray, By_length, By_length, HXl.out]; rfl) HZ0.out (By_one _) ?_; intro w5 h5 h6 h7; have H5 := Lib.hid h5; have Hb5 : Hid (Below w.heap.size w w5) := Hb4.out.trans (h6.below Hb4.out.size (fun k hk => by omega)); clear h5 h6 h7))
    refine bodyPost_ret (results_cell_row Tryd.results34 _ _ w.heap.size 32 _ (0, 0) _ rfl H5.out Tryd.underlying32 rfl HZ0.out) rfl ⟨rfl, Hb5.out⟩
  · have hk2 := half_lt (n := ids.length) (by omega)
    have hk0 := half_pos ids.length
    have hx2 := leftL_two (ids := ids) (by omega)
    obtain ⟨k, hk⟩ : ∃ k, half ids.length = k := ⟨_, rfl⟩
    rw [hk] at hk2 hk0 hx2
    have HK := Lib.hid hk
    have hk3 : ids.length - k < ids.length := by omega
    obtain ⟨xa, hxa⟩ : ∃ xa, leftL (ids.take k) = xa := ⟨_, rfl⟩
    obtain ⟨xb, hxb⟩ : ∃ xb, leftL (ids.drop k) = xb := ⟨_, rfl⟩
    have HTl : Hid ((ids.take k).length = k) := by show _ = _; rw [List.length_take]; omega
    have HDl : Hid ((ids.drop k).length = ids.length - k) := by show _ = _; rw [List.length_drop]
    have HXal : Hid (xa.length = 32) := by show _ = _; rw [← hxa]; exact leftL_len (by rw [HTl.out]; omega)
    have HXbl : Hid (xb.length = 32) := by show _ = _; rw [← hxb]; exact leftL_len (by rw [HDl.out]; omega)
    have HX : Hid (knotB xa xb = x) := by show _ = _; rw [← hx, hx2, hxa, hxb]
    have HXa := Lib.hid hxa
    have HXb := Lib.hid hxb
    obtain ⟨A1, hs1, q1⟩ := slice_lowH HS.out H32.out hc k (by omega)
    obtain ⟨A2, hs2, q2⟩ := slice_highH HS.out H32.out hc k (by omega)
    have HS1 := Lib.hid hs1
    have HS2 := Lib.hid hs2
    have HT32 : Hid (All32 (ids.take k)) := fun y hy => H32.out y (List.mem_of_mem_take hy)
    have HD32 := Lib.hid (H32.out.drop k)
    clear hk hx hx2 hxa hxb hs1 hs2
    have hone' : ((ids.length : Int) == 1) = false := by rw [beq_eq_false_iff_ne]; omega
    clear hone
    go_enter Tryd.func34, Tryd.ntmps34
    go_wp2_with (go_at_call 35; refine (half_any _ ids.length (by omega) (by omega)).mono ?_; rw [HK.out]; rintro e w1 ⟨rfl, hw1⟩; subst hw1)
    change Code.wp _ _ _ _ (w.alloc (.cells (By zero32).toArray 32))
    generalize w.alloc (.cells (By zero32).toArray 32) = w1 at *
    refine wp_region_held_drew (S := fun _ => True) (by kernel_rfl) trivial (fun hHeld => ?_)
    refine wpAnyH_take (i := 0) (oi := ⟨_, _, _, _, _, _⟩) (v := ?_) rfl (by kernel_rfl) (by kernel_rfl) (by kernel_rfl) (fun _ _ _ h => h) (Or.inl ⟨by rfl, ?_⟩) (by assumption) ?_
    rotate_left 1
    · intro W hSw
      try dsimp only at hSw
      go_simp
      try with_reducible rfl
    try simp only [Act.put, List.setIfInBounds_toArray, List.set_cons_zero, List.set_cons_succ]
    refine wpAnyH_take (i := 1) (oi := ⟨_, _, _, _, _, _⟩) (v := ?_) rfl (by kernel_rfl) (by kernel_rfl) (by kernel_rfl) (fun _ _ _ h => h) (Or.inl ⟨by rfl, ?_⟩) (by assumption) ?_
    rotate_left 1
    · intro W hSw
      try dsimp only at hSw
      go_simp
      try with_reducible rfl
    try simp only [Act.put, List.setIfInBounds_toArray, List.set_cons_zero, List.set_cons_succ]
    refine wpAnyH_take (i := 2) (oi := ⟨_, _, _, _, _, _⟩) (v := ?_) rfl (by kernel_rfl) (by kernel_rfl) (by kernel_rfl) (fun _ _ _ h => h) (Or.inl ⟨by rfl, ?_⟩) (by assumption) ?_
    rotate_left 1
    · intro W hSw
      try dsimp only at hSw
      go_simp
      try with_reducible rfl
    try simp only [Act.put, List.setIfInBounds_toArray, List.set_cons_zero, List.set_cons_succ]
    refine wpAnyH_take (i := 4) (oi := ⟨_, _, _, _, _, _⟩) (v := ?_) rfl (by kernel_rfl) (by kernel_rfl) (by kernel_rfl) (fun _ _ _ h => h) (Or.inl ⟨by rfl, ?_⟩) (by assumption) ?_
    rotate_left 1
    · intro W hSw
      try dsimp only at hSw
      go_simp
      try with_reducible rfl
    try simp only [Act.put, List.setIfInBounds_toArray, List.set_cons_zero, List.set_cons_succ]
    refine wpAnyH_take (i := 5) (oi := ⟨_, _, _, _, _, _⟩) (v := ?_) rfl (by kernel_rfl) (by kernel_rfl) (by kernel_rfl) (fun _ _ _ h => h) (Or.inl ⟨by rfl, ?_⟩) (by assumption) ?_
    rotate_left 1
    · intro W hSw
      try dsimp only at hSw
      go_simp
      try with_reducible rfl
    try simp only [Act.put, List.setIfInBounds_toArray, List.set_cons_zero, List.set_cons_succ]
    refine wpAnyH_take (i := 6) (oi := ⟨_, _, _, _, _, _⟩) (v := ?_) rfl (by kernel_rfl) (by kernel_rfl) (by kernel_rfl) (fun _ _ _ h => h) (Or.inl ⟨by rfl, ?_⟩) (by assumption) ?_
    rotate_left 1
    · intro W hSw
      try dsimp only at hSw
      go_simp
      try with_reducible rfl
    try simp only [Act.put, List.setIfInBounds_toArray, List.set_cons_zero, List.set_cons_succ]
    refine wpAnyH_ready (rs := [3]) (by kernel_rfl) (by simp) ?_
    refine AllReadyH.cons rfl (fun K hK => ?_) AllReadyH.nil
    go_simp
    go_at_call 34
    refine (IH.out k hk2 (ids.take k) HTl.out w1.drew A1 k c HTl.out.symm (by omega) (by omega) HT32.out (show SeesV w1.drew _ _ _ from HS1.out) (by omega)).mono ?_
    rw [HXa.out]
    rintro e w4 ⟨rfl, hb4⟩
    have Hr4 : Hid (Below w1.heap.size w1 w4) := nxUndr hb4
    clear hb4
    refine hK.out _ _ trivial (fun hSn => ?_)
    clear hK K
    try simp only [Act.put, List.setIfInBounds_toArray, List.set_cons_zero, List.set_cons_succ]
    refine wpAnyH_ready (rs := [7]) (by kernel_rfl) (by simp) ?_
    refine AllReadyH.cons rfl (fun K hK => ?_) AllReadyH.nil
    go_simp
    go_at_call 34
    refine (IH.out (ids.length - k) hk3 (ids.drop k) HDl.out w4 A2 (ids.length - k) (c - k) HDl.out.symm (by omega) (by omega) HD32.out ((HS2.out.later Hr4.out).size) (by omega)).mono ?_
    rw [HXb.out]
    rintro e w5 ⟨rfl, hb5⟩
    have Hr5 : Hid (Below w1.heap.size w1 w5) := nxTo Hr4.out hb5
    clear hb5
    refine hK.out _ _ trivial (fun hSn => ?_)
    clear hK K
    try simp only [Act.put, List.setIfInBounds_toArray, List.set_cons_zero, List.set_cons_succ]
    refine wpAnyH_ready (rs := [8]) (by kernel_rfl) (by simp) ?_
    refine AllReadyH.cons rfl (fun K hK => ?_) AllReadyH.nil
    go_simp
    go_at_call 26
    refine (rknot_any w5 xa xb HXal.out HXbl.out).mono ?_
    rw [HX.out]
    rintro e w6 ⟨rfl, hb6⟩
    have Hr6 : Hid (Below w1.heap.size w1 w6) := nxTo Hr5.out hb6
    have HZ6 := Lib.hid (HZ.out.below Hr6.out HZ.out.lt)
    clear hb6
    refine hK.out _ _ trivial (fun hSn => ?_)
    clear hK K
    try simp only [Act.put, List.setIfInBounds_toArray, List.set_cons_zero, List.set_cons_succ]
    refine wpAnyH_ready (rs := [9]) (by kernel_rfl) (by simp) ?_
    refine AllReadyH.cons rfl (fun K hK => ?_) AllReadyH.nil
    refine step_store_all (o := ⟨none, _, _, _, _, _⟩) rfl 32 (.tmp 2) (.tmp 22) rfl w.heap.size 32 (By zero32).toArray (By x).toArray rfl rfl HZ6.out (by rw [List.size_toArray, List.size_toArray, By_length, By_length, HXl.out]; rfl) HZ0.out (By_one _) ?_
    intro w8 h5 h6 h7
    have H8 := Lib.hid h5
    have Hb8 : Hid (Below w.heap.size w w8) := (nxTo Hb1.out Hr6.out).trans (h6.below (nxTo Hb1.out Hr6.out).size (fun k hk => by omega))
    clear h5 h6 h7
    refine hK.out _ _ trivial (fun hSn => ?_)
    clear hK K
    try simp only [Act.put, List.setIfInBounds_toArray, List.set_cons_zero, List.set_cons_succ]
    refine wpAnyH_done (by kernel_rfl) ?_ _
    go_wp2
    refine bodyPost_ret (results_cell_row Tryd.results34 _ _ w.heap.size 32 _ (0, 0) _ rfl H8.out Tryd.underlying32 rfl HZ0.out) rfl ⟨rfl, Hb8.out⟩

end Go.Proofs.YtcbdjcmjchoagaaDoor
