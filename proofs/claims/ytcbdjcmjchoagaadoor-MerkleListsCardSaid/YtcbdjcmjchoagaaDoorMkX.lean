/-
  merkle: the walk of trail.
-/
import Derived.Test.YtcbdjcmjchoagaaDoorMkW
namespace Go.Proofs.YtcbdjcmjchoagaaDoor
open Go.RowKit

theorem rng_grown {w w' : World} {b o : Nat} {cs : List Value} {rb : Option Nat} (h : w.rangeAt b o cs) (hg : w.grownBy w' rb) (hlt : b < w.heap.size) (hne : some b ≠ rb) : w'.rangeAt b o cs := fun j v hv => (World.cell?_of_block (a := ⟨b, o + j, none⟩) (hg.block b hlt hne)).trans (h j v hv)
theorem rng_keeps {w w' : World} {b o a : Nat} {cs : List Value} (h : w.rangeAt b o cs) (hk : Keeps (· = a) w w') (hlt : b < w.heap.size) (hne : b ≠ a) : w'.rangeAt b o cs := fun j v hv => (World.cell?_of_block (a := ⟨b, o + j, none⟩) (hk.block b hlt hne)).trans (h j v hv)
theorem blk_grown {w w' : World} {g : Nat} {t : TypeId} {cs : Array Value} {rb : Option Nat} (h : Blk w g t cs) (hg : w.grownBy w' rb) (hne : some g ≠ rb) : Blk w' g t cs := h.of_eq (hg.block g h.lt hne)
theorem text_ne_hash : 63 ≠ 32 := by decide
theorem slice_one {w : World} {B : Nat} {A : Option Addr} {hs : List (List UInt8)} {c l : Nat} (h : SeesV w B A (Hs hs)) (h32 : All32 hs) (hc : hs.length ≤ c) (hl : hs.length = l + 1) :
    ∃ A1, SeesV w B A1 (Hs (hs.drop 1)) ∧ ∀ wq, (Instr.slice 22 (.slice A (l + 1) c) (some (.int .i64 1)) none none).run Tryd.prog wq = .ok (.slice A1 l (c - 1)) wq := by
  obtain ⟨A1, h1, h2⟩ := slice_highH h h32 hc 1 (by omega)
  refine ⟨A1, h1, fun wq => ?_⟩
  have := h2 wq
  rw [hl] at this
  simpa using this

/-- What trail answers. -/
def TrailPost (w : World) (T : List (ByteArray × List UInt8)) (e : Ending) (w' : World) : Prop := ∃ A c vs rb a, e = .returned (.slice A T.length c) ∧ T.length ≤ c ∧ SeesV w' w'.heap.size A vs ∧ TxV w' rb a T vs ∧ Below w.heap.size w w'

set_option maxHeartbeats 4000000 in
set_option maxRecDepth 100000 in
theorem trail_any (w : World) (hT : Tabs w) (id : List UInt8) (n c : Nat) (A : Option Addr) (m d : Nat) (hs : List (List UInt8)) (hid : id.length = 32) (hm : m = hs.length) (hd : m ≤ d) (hnc : n < c) (hmax : c ≤ 1048576) (hsz : hs.length = szR n c) (h32 : All32 hs) (hS : SeesV w w.heap.size A (Hs hs)) :
    Calls Tryd.prog 36 #[.agg (By id).toArray, .agg (PathC n c A m d)] w (TrailPost w (trailL id n c hs)) := by
  have hA : Blk ((w.alloc (.cells (By id).toArray 32)).alloc (.cells (PathC n c A m d) 25)) w.heap.size 32 (By id).toArray := (show Blk (w.alloc _) _ _ _ from heap_alloc_new w _).alloc _
  have hP : Blk ((w.alloc (.cells (By id).toArray 32)).alloc (.cells (PathC n c A m d) 25)) (w.heap.size + 1) 25 (PathC n c A m d) := Blk.newAt (by simp) rfl
  have hb0 : Below w.heap.size w ((w.alloc (.cells (By id).toArray 32)).alloc (.cells (PathC n c A m d) 25)) := nxAlloc (nxAlloc (nxRefl w) _) _
  have HS : Hid (SeesV ((w.alloc (.cells (By id).toArray 32)).alloc (.cells (PathC n c A m d) 25)) w.heap.size A (Hs hs)) := (hS.alloc _).alloc _
  have hsz0 : w.heap.size + 2 = ((w.alloc (.cells (By id).toArray 32)).alloc (.cells (PathC n c A m d) 25)).heap.size := by simp
  have HTb := Lib.hid (hT.later hb0)
  have HSX : Hid ((Tryd.prog.info? 32).map (·.size) = some (By id).length) := by have h := Tryd.hsizeB id hid; show _ = _; rw [h]; simp
  have HST : Hid (∀ (nm : ByteArray) (A : Option Addr) (n c : Nat), (Tryd.prog.info? 63).map (·.size) = some [Value.string nm, .slice A n c].length) := fun _ _ _ _ => Tryd.txtsize
  obtain ⟨U, hU⟩ : ∃ U, (nmLeaf, id) :: trR (leafB id) n c hs = U := ⟨_, rfl⟩
  obtain ⟨R, hR⟩ : ∃ R, ldR knotB (leafB id) n c hs = R := ⟨_, rfl⟩
  have HTr : Hid (trailL id n c hs = U ++ [(nmRoot, le8 c ++ R)]) := by show _ = _; rw [trailL, hU, hR]
  have HU := Lib.hid hU
  have HRr := Lib.hid hR
  obtain ⟨x0, hx0⟩ : ∃ x, leafB id = x := ⟨_, rfl⟩
  have HX0 : Hid (shaB (tagB nmLeaf id) = x0) := hx0
  have HXl0 : Hid (x0.length = 32) := by show _ = _; rw [← hx0]; exact leafB_len id
  rw [hx0] at HU HRr
  have HZ0 := Lib.hid (Tryd.hsizeB x0 HXl0.out)
  have HP := Lib.hid hP
  have HRA := Lib.hid (blk_rng hA)
  have Hb0 := Lib.hid hb0
  have Hs0 := Lib.hid hsz0
  have HL := Lib.hid hid
  have H32 := Lib.hid h32
  have HD := Lib.hid hd
  have HM := Lib.hid hm
  have HN := Lib.hid hnc
  have HMx := Lib.hid hmax
  have HSZ := Lib.hid hsz
  obtain ⟨c0, c1, c2⟩ := path_cells hP
  obtain ⟨i0, hi, hz0, hz1, hz2⟩ := info_parts Tryd.tinfo
  rw [HTr.out]
  clear hT hS hA hP hb0 hsz0 hid h32 hd hm hnc hmax hsz hU hR hx0 HTr
  go_enter Tryd.func36, Tryd.ntmps36
  go_wp2
  change Code.wp _ _ _ _ ((w.alloc (.cells (By id).toArray 32)).alloc (.cells (PathC n c A m d) 25))
  generalize ((w.alloc (.cells (By id).toArray 32)).alloc (.cells (PathC n c A m d) 25)) = W0 at *
  go_step3
  go_wp2_with (first
    | ((with_reducible show wpList _ _ _ (⟨some 10, _, _, _, _, _⟩ :: _) _ _); refine wpList_load_mid rfl 32 (.tmp 2) rfl w.heap.size 0 rfl (By id) _ HRA.out Tryd.underlying32 rfl HSX.out ?_)
    | (go_at_call 46; refine (leafText_new _ id HL.out).mono ?_; rintro e w1 ⟨A1, d1, rfl, hd1, hs1, hb1, hf1⟩; have HD1 := Lib.hid hd1; have HS1 := Lib.hid hs1; have HB1 := Lib.hid hb1; have HF1 := Lib.hid hf1; clear hd1 hs1 hb1 hf1)
    | ((with_reducible show wpList _ _ _ (⟨some 12, _, _, _, _, _⟩ :: _) _ _); refine wpList_build_text rfl (.tmp 11) rfl nmLeaf A1 id.length d1 rfl ?_; have K1 : Hid (Blk (w1.alloc (.cells #[.string nmLeaf, .slice A1 id.length d1] 63)) w1.heap.size 63 #[.string nmLeaf, .slice A1 id.length d1]) := Lib.hid (heap_alloc_new w1 _); have HB2 : Hid (Below w1.heap.size w1 (w1.alloc (.cells #[.string nmLeaf, .slice A1 id.length d1] 63))) := nxAlloc (nxRefl w1) _)
    | ((with_reducible show wpList _ _ _ (⟨some 15, _, _, _, _, _⟩ :: _) _ _); change wpList _ _ _ _ _ (w1.alloc (.cells #[.string nmLeaf, .slice A1 id.length d1] 63)); refine wpList_load_mid rfl 63 (.tmp 14) rfl w1.heap.size 0 rfl [.string nmLeaf, .slice A1 id.length d1] _ (blk_rng K1.out) Tryd.underlying63 rfl (HST.out _ _ _ _) ?_)
    | (go_at_call 33; (with_reducible show Calls _ _ #[Value.agg #[Value.string nmLeaf, Value.slice A1 id.length d1]] _ _); refine (hash_any _ ((HTb.out.later HB1.out).later HB2.out) nmLeaf nm_le.1 A1 _ d1 id rfl HD1.out (by exact (HS1.out.below HB2.out).more HB2.out.size) (by have := HL.out; omega)).mono ?_; rw [HX0.out]; rintro e w3 ⟨rfl, hb3⟩; have HB3 : Hid (Below w1.heap.size w1 w3) := nxTo HB2.out hb3; have K3 := Lib.hid (K1.out.below hb3 K1.out.lt); clear hb3)
    | ((with_reducible show wpList _ _ _ (⟨none, .store 32 (.tmp 6) _, _, _, _, _⟩ :: _) _ _); change wpList _ _ _ _ _ (w3.alloc (.cells (By zero32).toArray 32)); refine wpList_store_all rfl 32 (.tmp 6) (.tmp 16) rfl w3.heap.size 32 (By zero32).toArray (By x0).toArray rfl rfl (heap_alloc_new w3 _) (by rw [List.size_toArray, List.size_toArray, By_length, By_length, HXl0.out]; rfl) HZ0.out (By_one _) ?_; intro w4 h5 h6 h7; have KA := Lib.hid h5; have HB4 : Hid (Below w3.heap.size w3 w4) := (nxAlloc (nxRefl w3) _).trans (h6.below (nxAlloc (nxRefl w3) _).size (fun k hk => by omega)); clear h5 h6 h7))
  have K4 := Lib.hid (K3.out.below HB4.out K3.out.lt)
  have HB14 : Hid (Below w1.heap.size w1 w4) := nxTo HB3.out HB4.out
  have HB04 : Hid (Below W0.heap.size W0 w4) := nxTo HB1.out HB14.out
  have HP4 := Lib.hid (HP.out.below HB04.out HP.out.lt)
  have HO4 : Hid (w4.ownsRow W0.heap.size 63 2 (.slice (some ⟨w1.heap.size, 0, none⟩) 1 1) 1 [.string nmLeaf, .slice A1 id.length d1]) := own_made (cs := [.string nmLeaf, .slice A1 id.length d1]) (c := 1) K4.out HB1.out.size (Nat.le_refl _) (by simp [maxLen]) rfl
  have HX4 : Hid (TxV w4 (some w1.heap.size) w3.heap.size [(nmLeaf, id)] [.string nmLeaf, .slice A1 id.length d1]) := by
    refine TxV.snoc (T := []) (vs := []) TxV.nil HD1.out (Body.of ((HS1.out.below HB14.out).more HB14.out.size) (by have := HL.out; omega) ?_)
    intro ad had
    have hlt : ad.block < w1.heap.size := by
      rcases HS1.out with h | ⟨b, off, h1, h2, _⟩
      · have := HL.out; rw [h] at this; simp at this
      · rw [h1] at had; injection had with e; subst e; exact h2
    have := HB3.out.size
    exact ⟨fun e => by injection e with e; omega, by omega⟩
  have HWa : Hid (w3.heap.size < w4.heap.size) := KA.out.lt
  have HaW : Hid (W0.heap.size ≤ w3.heap.size) := (nxTo HB1.out HB3.out).size
  have HTT := Lib.hid HTb.out
  clear K1 HB2 HS1 HF1 K3 HB4 HB14 HB3 K4 HB1 HD1
  generalize w3.heap.size = a at *
  generalize w1.heap.size = g at *
  obtain ⟨c0', c1', c2'⟩ := path_cells HP4.out
  clear c0 c1 c2
  refine wp_region_held_drew (S := fun W => W.cell? ⟨w.heap.size + 1, 0, none⟩ = some (.int .i64 (n : Int)) ∧ W.cell? ⟨w.heap.size + 1, 1, none⟩ = some (.int .i64 (c : Int)) ∧ W.cell? ⟨w.heap.size + 1, 2, none⟩ = some (.slice A m d)) (by kernel_rfl) ⟨c0', c1', c2'⟩ (fun hHeld => ?_)
  clear c0' c1' c2'
  refine wpAnyH_take (i := 0) (oi := ⟨_, _, _, _, _, _⟩) (v := ?_) rfl (by kernel_rfl) (by kernel_rfl) (by kernel_rfl) (fun _ _ _ h => h) (Or.inl ⟨by rfl, ?_⟩) (by assumption) ?_
  rotate_left 1
  · intro W hSw
    try dsimp only at hSw
    obtain ⟨s0, s1, s2⟩ := hSw
    go_simp
    try with_reducible rfl
  try simp only [Act.put, List.setIfInBounds_toArray, List.set_cons_zero, List.set_cons_succ]
  refine wpAnyH_take (i := 1) (oi := ⟨_, _, _, _, _, _⟩) (v := ?_) rfl (by kernel_rfl) (by kernel_rfl) (by kernel_rfl) (fun _ _ _ h => h) (Or.inl ⟨by rfl, ?_⟩) (by assumption) ?_
  rotate_left 1
  · intro W hSw
    try dsimp only at hSw
    obtain ⟨s0, s1, s2⟩ := hSw
    go_simp
    try with_reducible rfl
  try simp only [Act.put, List.setIfInBounds_toArray, List.set_cons_zero, List.set_cons_succ]
  refine wpAnyH_take (i := 2) (oi := ⟨_, _, _, _, _, _⟩) (v := ?_) rfl (by kernel_rfl) (by kernel_rfl) (by kernel_rfl) (fun _ _ _ h => h) (Or.inl ⟨by rfl, ?_⟩) (by assumption) ?_
  rotate_left 1
  · intro W hSw
    try dsimp only at hSw
    obtain ⟨s0, s1, s2⟩ := hSw
    go_simp
    try with_reducible rfl
  try simp only [Act.put, List.setIfInBounds_toArray, List.set_cons_zero, List.set_cons_succ]
  refine wpAnyH_take (i := 3) (oi := ⟨_, _, _, _, _, _⟩) (v := ?_) rfl (by kernel_rfl) (by kernel_rfl) (by kernel_rfl) (fun _ _ _ h => h) (Or.inl ⟨by rfl, ?_⟩) (by assumption) ?_
  rotate_left 1
  · intro W hSw
    try dsimp only at hSw
    obtain ⟨s0, s1, s2⟩ := hSw
    go_simp
    try with_reducible rfl
  try simp only [Act.put, List.setIfInBounds_toArray, List.set_cons_zero, List.set_cons_succ]
  refine wpAnyH_take (i := 4) (oi := ⟨_, _, _, _, _, _⟩) (v := ?_) rfl (by kernel_rfl) (by kernel_rfl) (by kernel_rfl) (fun _ _ _ h => h) (Or.inl ⟨by rfl, ?_⟩) (by assumption) ?_
  rotate_left 1
  · intro W hSw
    try dsimp only at hSw
    obtain ⟨s0, s1, s2⟩ := hSw
    go_simp
    try with_reducible rfl
  try simp only [Act.put, List.setIfInBounds_toArray, List.set_cons_zero, List.set_cons_succ]
  refine wpAnyH_take (i := 5) (oi := ⟨_, _, _, _, _, _⟩) (v := ?_) rfl (by kernel_rfl) (by kernel_rfl) (by kernel_rfl) (fun _ _ _ h => h) (Or.inl ⟨by rfl, ?_⟩) (by assumption) ?_
  rotate_left 1
  · intro W hSw
    try dsimp only at hSw
    obtain ⟨s0, s1, s2⟩ := hSw
    go_simp
    try with_reducible rfl
  try simp only [Act.put, List.setIfInBounds_toArray, List.set_cons_zero, List.set_cons_succ]
  refine wpAnyH_take (i := 6) (oi := ⟨_, _, _, _, _, _⟩) (v := ?_) rfl (by kernel_rfl) (by kernel_rfl) (by kernel_rfl) (fun _ _ _ h => h) (Or.inl ⟨by rfl, ?_⟩) (by assumption) ?_
  rotate_left 1
  · intro W hSw
    try dsimp only at hSw
    obtain ⟨s0, s1, s2⟩ := hSw
    go_simp
    try with_reducible rfl
  try simp only [Act.put, List.setIfInBounds_toArray, List.set_cons_zero, List.set_cons_succ]
  refine wpAnyH_take (i := 7) (oi := ⟨_, _, _, _, _, _⟩) (v := ?_) rfl (by kernel_rfl) (by kernel_rfl) (by kernel_rfl) (fun _ _ _ h => h) (Or.inl ⟨by rfl, ?_⟩) (by assumption) ?_
  rotate_left 1
  · intro W hSw
    try dsimp only at hSw
    obtain ⟨s0, s1, s2⟩ := hSw
    go_simp
    try with_reducible rfl
  try simp only [Act.put, List.setIfInBounds_toArray, List.set_cons_zero, List.set_cons_succ]
  refine wpAnyH_take (i := 8) (oi := ⟨_, _, _, _, _, _⟩) (v := ?_) rfl (by kernel_rfl) (by kernel_rfl) (by kernel_rfl) (fun _ _ _ h => h) (Or.inl ⟨by rfl, ?_⟩) (by assumption) ?_
  rotate_left 1
  · intro W hSw
    try dsimp only at hSw
    obtain ⟨s0, s1, s2⟩ := hSw
    go_simp
    try with_reducible rfl
  try simp only [Act.put, List.setIfInBounds_toArray, List.set_cons_zero, List.set_cons_succ]
  refine wpAnyH_done (by kernel_rfl) ?_ _
  go_wp2
  go_step3
  go_wp2
  have HB04' : Hid (Below W0.heap.size W0 w4.drew) := nxDr HB04.out
  have HO4' : Hid (w4.drew.ownsRow W0.heap.size 63 2 (.slice (some ⟨g, 0, none⟩) 1 1) 1 [.string nmLeaf, .slice A1 id.length d1]) := HO4
  have HX4' : Hid (TxV w4.drew (some g) a [(nmLeaf, id)] [.string nmLeaf, .slice A1 id.length d1]) := HX4
  have KA' : Hid (Blk w4.drew a 32 (By x0).toArray) := KA
  have HM' : Hid (m = hs.length) := HM
  clear HB04 HO4 HX4 KA hHeld HP4 HWa HRA HSX HX0 HZ0
  generalize w4.drew = w5 at *
  go_loopw [5, 7, 8, 9] (fun tv nv cv bv wr => ∃ (T : List (ByteArray × List UInt8)) (vs : List Value) (B : Option Addr) (e1 n1 q1 : Nat) (x : List UInt8) (hs1 : List (List UInt8)) (A1 : Option Addr) (k1 : Nat), tv = .slice B T.length e1 ∧ nv = .int .i64 n1 ∧ cv = .int .i64 q1 ∧ bv = .slice A1 hs1.length k1 ∧ hs1.length ≤ k1 ∧ T.length + q1 ≤ 1048578 ∧ n1 < q1 ∧ Hid (1 ≤ T.length) ∧ Hid (ldR knotB x n1 q1 hs1 = R) ∧ Hid (T ++ trR x n1 q1 hs1 = U) ∧ Hid (hs1.length = szR n1 q1) ∧ Hid (x.length = 32) ∧ Hid (All32 hs1) ∧ Hid (SeesV W0 W0.heap.size A1 (Hs hs1)) ∧ Hid (wr.ownsRow W0.heap.size 63 2 (.slice B T.length e1) T.length vs) ∧ Hid (TxV wr (Value.slice B T.length e1).ownBlock a T vs) ∧ Hid (Blk wr a 32 (By x).toArray) ∧ Hid (Below W0.heap.size W0 wr)) (fun _ _ cv _ _ => (intOf cv).toNat)
  case atStart => exact ⟨[(nmLeaf, id)], [.string nmLeaf, .slice A1 id.length d1], some ⟨g, 0, none⟩, 1, n, c, x0, hs, A, d, rfl, rfl, rfl, by rw [← HM.out], by rw [← HM.out]; exact HD.out, by have := HMx.out; simp; omega, HN.out, Nat.le_refl _, HRr.out, HU.out, HSZ.out, HXl0.out, H32.out, HS.out.more (by have := Hs0.out; omega), HO4'.out, HX4'.out, KA'.out, HB04'.out⟩
  case round =>
    clear HB04' HO4' HX4' KA' HRr HU HSZ HXl0 H32 HS HM HM' HD HN
    obtain ⟨T, vs, B, e1, n1, q1, x, hs1, A1, k1, rfl, rfl, rfl, rfl, hk1, hTl, hnq, HT1, HR, HTx, HSz, HXl, H32, HS, HO, HX, KA, Hb⟩ := hrel
    obtain ⟨g0, hg0⟩ : ∃ rb, (Value.slice B T.length e1).ownBlock = rb := ⟨_, rfl⟩
    by_cases h1 : q1 ≤ 1
    · have HTU : Hid (T = U) := by show _ = _; rw [← HTx.out, trR_one h1, List.append_nil]
      have HXR : Hid (x = R) := by show _ = _; rw [← HR.out, ldR_one knotB h1]
      have HFl : Hid (([x] : List (List UInt8)).flatten = x) := by show _ = _; simp
      have HSx : Hid (SeesV (wr.alloc (.cells (By x).toArray 32)) (wr.alloc (.cells (By x).toArray 32)).heap.size (some ⟨wr.heap.size, 0, none⟩) (Hs [x])) := by
        have h := SeesV.lit' wr (By x) 32
        show SeesV _ _ _ _
        rw [Hs, HFl.out]
        simpa using h
      have HX32 : Hid (All32 [x]) := by intro y hy; simp at hy; rw [hy]; exact HXl.out
      have HSX : Hid ((Tryd.prog.info? 32).map (·.size) = some (By x).length) := by have h := Tryd.hsizeB x HXl.out; show _ = _; rw [h]; simp
      have HRx := Lib.hid (blk_rng KA.out)
      have HCp : Hid (wr.cell? ⟨w.heap.size + 1, 1, none⟩ = some (.int .i64 (c : Int))) := (path_cells (HP.out.below Hb.out HP.out.lt)).2.1
      have hcp := HCp.out
      obtain ⟨t, ht⟩ : ∃ t, le8 c ++ x = t := ⟨_, rfl⟩
      have Ht := Lib.hid ht
      have HLn : Hid (t.length = 40) := by show _ = _; rw [← ht, List.length_append, le8_len, HXl.out]
      clear ht
      have HBa : Hid (Below wr.heap.size wr (wr.alloc (.cells (By x).toArray 32))) := nxAlloc (nxRefl wr) _
      clear HTx HR hg0
      go_wp2_with (first
        | ((with_reducible show wpList _ _ _ (⟨some 74, _, _, _, _, _⟩ :: _) _ _); refine wpList_load_mid rfl 32 (.tmp 6) rfl a 0 rfl (By x) _ HRx.out Tryd.underlying32 rfl HSX.out ?_)
        | ((with_reducible show wpList _ _ _ (⟨some 75, _, _, _, _, _⟩ :: _) _ _); refine wpList_build_hash rfl (.tmp 74) rfl x rfl HXl.out ?_)
        | (go_at_call 32; refine (rootText_new _ c (by have := HMx.out; omega) (some ⟨wr.heap.size, 0, none⟩) 1 1 [x] rfl HX32.out HSx.out (by omega)).mono ?_; rw [HFl.out, Ht.out]; rintro e w6 ⟨A6, c6, rfl, hc6, hs6, hb6, hf6⟩; have HC6 := Lib.hid hc6; have HS6 := Lib.hid hs6; have Hr6 : Hid (Below wr.heap.size wr w6) := nxTo HBa.out hb6; have HF6 : Hid (Fresh wr.heap.size A6) := hf6.mono HBa.out.size; clear hc6 hs6 hb6 hf6)
        | ((with_reducible show wpList _ _ _ (⟨some 77, _, _, _, _, _⟩ :: _) _ _); refine wpList_build_text rfl (.tmp 76) rfl nmRoot A6 t.length c6 rfl ?_; have HB7 : Hid (Below w6.heap.size w6 (w6.alloc (.cells #[.string nmRoot, .slice A6 t.length c6] 63))) := nxAlloc (nxRefl w6) _; have HO7 : Hid ((w6.alloc (.cells #[.string nmRoot, .slice A6 t.length c6] 63)).ownsRow W0.heap.size 63 2 (.slice B T.length e1) T.length vs) := own_below HO.out (nxTo Hr6.out HB7.out) (fun j hj => (own_lt HO.out j hj).2))
        | ((with_reducible show wpList _ _ _ (⟨some 78, _, _, _, _, _⟩ :: _) _ _); refine wpList_append_seesV rfl (.tmp 71) (.tmp 77) 67 rfl W0.heap.size 63 i0 (.agg #[.string ⟨#[]⟩, .slice none 0 0]) 2 40 Tryd.underlying67 hi hz0 hz1 hz2 rfl (by decide) (.slice B T.length e1) T.length vs rfl HO7.out (w6.heap.size + 1) (some ⟨w6.heap.size, 0, none⟩) 1 1 [.string nmRoot, .slice A6 t.length c6] rfl rfl (SeesV.lit' w6 [.string nmRoot, .slice A6 t.length c6] 63) (two_one _ _ _ _) (by omega) (by omega) (nxTo Hb.out (nxTo Hr6.out HB7.out)).size ?_; intro v8 w8 ho8 hg8 hat8; obtain ⟨B8, e8, rfl⟩ := own_form ho8; have HO8 := Lib.hid ho8; have HG8 := Lib.hid hg8; have HA8 := Lib.hid hat8; clear ho8 hg8 hat8))
      rw [Exit.noGoto_ret]
      go_ret
      have hbk : Below wr.heap.size wr (w6.alloc (.cells #[.string nmRoot, .slice A6 t.length c6] 63)) := nxTo Hr6.out HB7.out
      have hbody : Body (w6.alloc (.cells #[.string nmRoot, .slice A6 t.length c6] 63)) (Value.slice B T.length e1).ownBlock a A6 t := by
        refine Body.of ((HS6.out.below HB7.out).more HB7.out.size) (by have := HLn.out; omega) (fun ad had => ?_)
        have h1 := HF6.out ad had
        have h2 := KA.out.lt
        exact ⟨fun e => by have := (own_lt HO.out ad.block e.symm).2; omega, by omega⟩
      have htx := ((HX.out.later hbk).snoc (nm := nmRoot) HC6.out hbody).grown HG8.out HA8.out
      have hU := HTU.out
      have hRx := HXR.out
      have hT := Ht.out
      subst hU hRx hT
      refine ⟨B8, e8, _, _, a, by simp, by simpa using own_cap' HO8.out, SeesV.own HO8.out, htx, ?_⟩
      exact (nxTo Hb0.out (nxTo Hb.out hbk)).grown HG8.out (nxTo Hb0.out (nxTo Hb.out hbk)).size (fun j hj => Nat.le_trans Hb0.out.size (own_lt HO.out j hj).1)
    · cases ha : aloneB n1 q1 with
      | true =>
        have HA := Lib.hid ha
        have HR' : Hid (ldR knotB x (n1 / 2) ((q1 + 1) / 2) hs1 = R) := by show _ = _; rw [← ldR_alone knotB h1 ha]; exact HR.out
        have HTx' : Hid (T ++ trR x (n1 / 2) ((q1 + 1) / 2) hs1 = U) := by show _ = _; rw [← trR_alone h1 ha]; exact HTx.out
        have HSz' : Hid (hs1.length = szR (n1 / 2) ((q1 + 1) / 2)) := by show _ = _; rw [HSz.out, szR_up h1, ha]; simp
        clear ha hg0
        have h1' : ((q1 : Int) ≤ 1) = False := by simp; omega
        go_wp2_with (first
          | (go_at_call 31; refine (isAlone_any _ n1 q1 (by omega) (by omega) (by omega)).mono ?_; rw [HA.out]; rintro e wr ⟨rfl, rfl⟩)
          | (go_at_call 30; refine (above_any _ n1 q1 (by omega) (by omega)).mono ?_; rintro e wr ⟨rfl, rfl⟩))
        go_roundw
        case rel => exact ⟨T, vs, B, e1, n1 / 2, (q1 + 1) / 2, x, hs1, A1, k1, rfl, by go_num, by go_num, rfl, hk1, by omega, by omega, HT1.out, HR'.out, HTx'.out, HSz'.out, HXl.out, H32.out, HS.out, HO.out, HX.out, KA.out, Hb.out⟩
        case measure => simp [intOf] <;> omega
      | false =>
        have HA := Lib.hid ha
        have ha' : ¬ aloneB n1 q1 = true := by rw [ha]; simp
        have hsz1 : hs1.length = 1 + szR (n1 / 2) ((q1 + 1) / 2) := by rw [HSz.out, szR_up h1, ha]; simp
        obtain ⟨l, hl⟩ : ∃ l, szR (n1 / 2) ((q1 + 1) / 2) = l := ⟨_, rfl⟩
        have hlen : hs1.length = l + 1 := by omega
        have HDl : Hid ((hs1.drop 1).length = l) := by show _ = _; rw [List.length_drop]; omega
        have HSz' : Hid ((hs1.drop 1).length = szR (n1 / 2) ((q1 + 1) / 2)) := by show _ = _; rw [hl]; exact HDl.out
        have H32' : Hid (All32 (hs1.drop 1)) := fun y hy => H32.out y (List.mem_of_mem_drop hy)
        obtain ⟨A2, hs2, q2⟩ := slice_one HS.out H32.out hk1 hlen
        have HS2 := Lib.hid hs2
        obtain ⟨b, off, rfl, hbb, hrg⟩ := SeesV.hash HS.out H32.out (k := 0) (by omega)
        have hry := hrg 0 (by omega)
        have hyl := H32.out.get (k := 0) (by omega)
        have hyd : hs1.getD 0 default = hs1[0]'(by omega) := by rw [List.getD_eq_getElem?_getD, List.getElem?_eq_getElem (by omega)]; rfl
        obtain ⟨y, hy⟩ : ∃ y, hs1[0]'(by omega) = y := ⟨_, rfl⟩
        rw [hy] at hyd hyl hry
        have hry' : W0.rangeAt b off (By y) := by simpa using hry
        have HYl := Lib.hid hyl
        have HSX : Hid ((Tryd.prog.info? 32).map (·.size) = some (By x).length) := by have h := Tryd.hsizeB x HXl.out; show _ = _; rw [h]; simp
        have HSY : Hid ((Tryd.prog.info? 32).map (·.size) = some (By y).length) := by have h := Tryd.hsizeB y hyl; show _ = _; rw [h]; simp
        have HRx := Lib.hid (blk_rng KA.out)
        have HRy := Lib.hid (rng_below hry' Hb.out hbb)
        have HaL := Lib.hid KA.out.lt
        have HbL : Hid (b < wr.heap.size) := Nat.lt_of_lt_of_le hbb Hb.out.size
        have HNa : Hid (some a ≠ (Value.slice B T.length e1).ownBlock) := KA.out.notOwn HO.out text_ne_hash
        have HNb : Hid (some b ≠ (Value.slice B T.length e1).ownBlock) := fun e => by have := (own_lt HO.out b e.symm).1; omega
        clear ha hsz1 hl hs2 hrg hry hy hry' hyl hbb
        by_cases h2 : n1 % 2 = 0
        · obtain ⟨t, ht⟩ : ∃ t, x ++ y = t := ⟨_, rfl⟩
          obtain ⟨z, hz⟩ : ∃ z, knotB x y = z := ⟨_, rfl⟩
          have HR' : Hid (ldR knotB z (n1 / 2) ((q1 + 1) / 2) (hs1.drop 1) = R) := by show _ = _; rw [← hz, ← hyd, ← ldR_even knotB h1 ha' h2]; exact HR.out
          have HTx' : Hid ((T ++ [(nmKnot, t)]) ++ trR z (n1 / 2) ((q1 + 1) / 2) (hs1.drop 1) = U) := by show _ = _; rw [← HTx.out, trR_even h1 ha' h2, hyd, ht, hz]; simp
          have h3 : ((n1 : Int) % 2 == 0) = true := by rw [beq_iff_eq]; omega
          have HXt : Hid (shaB (tagB nmKnot t) = z) := by show _ = _; rw [← ht, ← hz]; rfl
          have HZl : Hid (z.length = 32) := by show _ = _; rw [← hz]; exact knotB_len _ _
          have HZz := Lib.hid (Tryd.hsizeB z HZl.out)
          have HLt : Hid (t.length = 64) := by show _ = _; rw [← ht, List.length_append, HXl.out, HYl.out]
          have Ht := Lib.hid ht
          have HZxx := Lib.hid (Tryd.hsizeB x HXl.out)
          clear ha' h2 hyd ht hz HR HTx HSz hg0
          have h1' : ((q1 : Int) ≤ 1) = False := by simp; omega
          rw [hlen] at hk1 ⊢
          have hk1' : 1 ≤ k1 := by omega
          clear hlen
          go_wp2_with (go_at_call 31; refine (isAlone_any _ n1 q1 (by omega) (by omega) (by omega)).mono ?_; rw [HA.out]; rintro e wr ⟨rfl, rfl⟩)
          refine wp_region_held_drew (S := fun W => W.rangeAt a 0 (By x) ∧ W.rangeAt b off (By y)) (by kernel_rfl) ⟨HRx.out, HRy.out⟩ (fun hHeld => ?_)
          refine wpAnyH_take (i := 0) (oi := ⟨_, _, _, _, _, _⟩) (v := ?_) rfl (by kernel_rfl) (by kernel_rfl) (by kernel_rfl) (fun _ _ _ h => h) (Or.inl ⟨by rfl, ?_⟩) (by assumption) ?_
          rotate_left 1
          · intro W hSw
            try dsimp only at hSw
            go_simp
            try with_reducible rfl
          try simp only [Act.put, List.setIfInBounds_toArray, List.set_cons_zero, List.set_cons_succ]
          refine wpAnyH_take (i := 1) (oi := ⟨_, _, _, _, _, _⟩) (v := .agg (By x).toArray) rfl (by kernel_rfl) (by kernel_rfl) (by kernel_rfl) (fun _ _ _ h => h) (yieldsIf_load_mid (by rfl) 32 (.tmp 6) rfl (a) (0) rfl (By x) _ (fun W h => h.1) Tryd.underlying32 rfl HSX.out) (by assumption) ?_
          try simp only [Act.put, List.setIfInBounds_toArray, List.set_cons_zero, List.set_cons_succ]
          refine wpAnyH_take (i := 2) (oi := ⟨_, _, _, _, _, _⟩) (v := ?_) rfl (by kernel_rfl) (by kernel_rfl) (by kernel_rfl) (fun _ _ _ h => h) (Or.inl ⟨by rfl, ?_⟩) (by assumption) ?_
          rotate_left 1
          · intro W hSw
            try dsimp only at hSw
            go_simp
            try with_reducible rfl
          try simp only [Act.put, List.setIfInBounds_toArray, List.set_cons_zero, List.set_cons_succ]
          refine wpAnyH_take (i := 3) (oi := ⟨_, _, _, _, _, _⟩) (v := ?_) rfl (by kernel_rfl) (by kernel_rfl) (by kernel_rfl) (fun _ _ _ h => h) (Or.inl ⟨by rfl, ?_⟩) (by assumption) ?_
          rotate_left 1
          · intro W hSw
            try dsimp only at hSw
            go_simp
            try with_reducible rfl
          try simp only [Act.put, List.setIfInBounds_toArray, List.set_cons_zero, List.set_cons_succ]
          refine wpAnyH_take (i := 4) (oi := ⟨_, _, _, _, _, _⟩) (v := .agg (By y).toArray) rfl (by kernel_rfl) (by kernel_rfl) (by kernel_rfl) (fun _ _ _ h => h) (yieldsIf_load_mid (by rfl) 32 (.tmp 51) rfl (b) (off) rfl (By y) _ (fun W h => h.2) Tryd.underlying32 rfl HSY.out) (by assumption) ?_
          try simp only [Act.put, List.setIfInBounds_toArray, List.set_cons_zero, List.set_cons_succ]
          refine wpAnyH_ready (rs := [5]) (by kernel_rfl) (by simp) ?_
          refine AllReadyH.cons rfl (fun K hK => ?_) AllReadyH.nil
          go_simp
          go_at_call 47
          refine (knotText_new wr.drew x y HXl.out HYl.out).mono ?_
          rw [Ht.out]
          rintro e w6 ⟨A6, c6, rfl, hc6, hs6, hb6, hf6⟩
          have HC6 := Lib.hid hc6
          have HS6 := Lib.hid hs6
          have Hr6 : Hid (Below wr.heap.size wr w6) := nxUndr hb6
          have HF6 : Hid (Fresh wr.heap.size A6) := hf6
          clear hc6 hs6 hb6 hf6
          refine hK.out _ _ ⟨rng_below HRx.out Hr6.out HaL.out, rng_below HRy.out Hr6.out HbL.out⟩ (fun hSn => ?_)
          clear hK K
          try simp only [Act.put, List.setIfInBounds_toArray, List.set_cons_zero, List.set_cons_succ]
          refine wpAnyH_ready (rs := [6]) (by kernel_rfl) (by simp) ?_
          refine AllReadyH.cons rfl (fun K hK => ?_) AllReadyH.nil
          refine step_build_text (o := ⟨some 54, _, _, _, _, _⟩) rfl (.tmp 53) rfl nmKnot A6 t.length c6 rfl ?_
          have HB7 : Hid (Below w6.heap.size w6 (w6.alloc (.cells #[.string nmKnot, .slice A6 t.length c6] 63))) := nxAlloc (nxRefl w6) _
          have Hr7 : Hid (Below wr.heap.size wr (w6.alloc (.cells #[.string nmKnot, .slice A6 t.length c6] 63))) := nxTo Hr6.out HB7.out
          have HO7 : Hid ((w6.alloc (.cells #[.string nmKnot, .slice A6 t.length c6] 63)).ownsRow W0.heap.size 63 2 (.slice B T.length e1) T.length vs) := own_below HO.out Hr7.out (fun j hj => (own_lt HO.out j hj).2)
          refine hK.out _ _ ⟨rng_below HRx.out Hr7.out HaL.out, rng_below HRy.out Hr7.out HbL.out⟩ (fun hSn => ?_)
          clear hK K
          try simp only [Act.put, List.setIfInBounds_toArray, List.set_cons_zero, List.set_cons_succ]
          refine wpAnyH_ready (rs := [7]) (by kernel_rfl) (by simp) ?_
          refine AllReadyH.cons rfl (fun K hK => ?_) AllReadyH.nil
          refine step_append_seesV (o := ⟨some 55, _, _, _, _, _⟩) rfl (.tmp 48) (.tmp 54) 67 rfl W0.heap.size 63 i0 (.agg #[.string ⟨#[]⟩, .slice none 0 0]) 2 40 Tryd.underlying67 hi hz0 hz1 hz2 rfl (by decide) (.slice B T.length e1) T.length vs rfl HO7.out (w6.heap.size + 1) (some ⟨w6.heap.size, 0, none⟩) 1 1 [.string nmKnot, .slice A6 t.length c6] rfl rfl (SeesV.lit' w6 [.string nmKnot, .slice A6 t.length c6] 63) (two_one _ _ _ _) (by omega) (by omega) (nxTo Hb.out Hr7.out).size ?_
          intro v8 w8 ho8 hg8 hat8
          obtain ⟨B8, e8, rfl⟩ := own_form ho8
          have hl8 := own_last ho8 HX.out.1
          obtain ⟨g8, rfl, hlt8, hrg8⟩ := hl8
          have HO8 := Lib.hid ho8
          have HG8 := Lib.hid hg8
          have HA8 := Lib.hid hat8
          have HL8 := Lib.hid hlt8
          have HR8 := Lib.hid hrg8
          clear ho8 hg8 hat8 hlt8 hrg8
          refine hK.out _ _ ⟨rng_grown (rng_below HRx.out Hr7.out HaL.out) HG8.out (Nat.lt_of_lt_of_le HaL.out Hr7.out.size) HNa.out, rng_grown (rng_below HRy.out Hr7.out HbL.out) HG8.out (Nat.lt_of_lt_of_le HbL.out Hr7.out.size) HNb.out⟩ (fun hSn => ?_)
          clear hK K
          try simp only [Act.put, List.setIfInBounds_toArray, List.set_cons_zero, List.set_cons_succ]
          refine wpAnyH_take (i := 8) (oi := ⟨_, _, _, _, _, _⟩) (v := ?_) rfl (by kernel_rfl) (by kernel_rfl) (by kernel_rfl) (fun _ _ _ h => h) (Or.inl ⟨by rfl, ?_⟩) (by assumption) ?_
          rotate_left 1
          · intro W hSw
            try dsimp only at hSw
            go_simp
            try with_reducible rfl
          try simp only [Act.put, List.setIfInBounds_toArray, List.set_cons_zero, List.set_cons_succ]
          refine wpAnyH_done (by kernel_rfl) ?_ _
          have hbody : Body (w6.alloc (.cells #[.string nmKnot, .slice A6 t.length c6] 63)) (Value.slice B T.length e1).ownBlock a A6 t := by
            refine Body.of ((HS6.out.below HB7.out).more HB7.out.size) (by have := HLt.out; omega) (fun ad had => ?_)
            have h1 := HF6.out ad had
            have h2 := HaL.out
            exact ⟨fun e => by have := (own_lt HO.out ad.block e.symm).2; omega, by omega⟩
          have HX8 : Hid (TxV w8 (some g8) a (T ++ [(nmKnot, t)]) (vs ++ [.string nmKnot, .slice A6 t.length c6])) := ((HX.out.later Hr7.out).snoc HC6.out hbody).grown HG8.out HA8.out
          have HBd8 : Hid (Body w8 (some g8) a A6 t) := hbody.grown HG8.out HA8.out
          have HK8 : Hid (Blk w8 a 32 (By x).toArray) := blk_grown (KA.out.below Hr7.out HaL.out) HG8.out HNa.out
          have HNg : Hid (some a ≠ some g8) := HK8.out.notOwn HO8.out text_ne_hash
          have Hb8 : Hid (Below W0.heap.size W0 w8) := (nxTo Hb.out Hr7.out).grown HG8.out (nxTo Hb.out Hr7.out).size (fun j hj => (own_lt HO.out j hj).1)
          have hTl1 : (T.length : Int) < (T.length : Int) + 1 := by omega
          have hTw : IntKind.i64.wrap (T.length : Int) = (T.length : Int) := by rw [IntKind.wrap_i64]; omega
          clear hbody hHeld hSn HX HO HO7 Hr6 HB7 HG8 HA8 KA HRx HRy HNa HNb HS6 HF6 Hr7 HaL HbL Hb
          go_wp2
          refine wp_region_held_drew (S := fun W => W.rangeAt g8 (T.length * 2) [.string nmKnot, .slice A6 t.length c6]) (by kernel_rfl) HR8.out (fun hHeld => ?_)
          refine wpAnyH_take (i := 0) (oi := ⟨_, _, _, _, _, _⟩) (v := ?_) rfl (by kernel_rfl) (by kernel_rfl) (by kernel_rfl) (fun _ _ _ h => h) (Or.inl ⟨by rfl, ?_⟩) (by assumption) ?_
          rotate_left 1
          · intro W hSw
            try dsimp only at hSw
            go_simp
            try with_reducible rfl
          try simp only [Act.put, List.setIfInBounds_toArray, List.set_cons_zero, List.set_cons_succ]
          refine wpAnyH_take (i := 1) (oi := ⟨_, _, _, _, _, _⟩) (v := ?_) rfl (by kernel_rfl) (by kernel_rfl) (by kernel_rfl) (fun _ _ _ h => h) (Or.inl ⟨by rfl, ?_⟩) (by assumption) ?_
          rotate_left 1
          · intro W hSw
            try dsimp only at hSw
            go_simp
            try with_reducible rfl
          try simp only [Act.put, List.setIfInBounds_toArray, List.set_cons_zero, List.set_cons_succ]
          refine wpAnyH_take (i := 2) (oi := ⟨_, _, _, _, _, _⟩) (v := ?_) rfl (by kernel_rfl) (by kernel_rfl) (by kernel_rfl) (fun _ _ _ h => h) (Or.inl ⟨by rfl, ?_⟩) (by assumption) ?_
          rotate_left 1
          · intro W hSw
            try dsimp only at hSw
            go_simp
            try with_reducible rfl
          try simp only [Act.put, List.setIfInBounds_toArray, List.set_cons_zero, List.set_cons_succ]
          refine wpAnyH_take (i := 3) (oi := ⟨_, _, _, _, _, _⟩) (v := ?_) rfl (by kernel_rfl) (by kernel_rfl) (by kernel_rfl) (fun _ _ _ h => h) (Or.inl ⟨by rfl, ?_⟩) (by assumption) ?_
          rotate_left 1
          · intro W hSw
            try dsimp only at hSw
            go_simp
            try with_reducible rfl
          try simp only [Act.put, List.setIfInBounds_toArray, List.set_cons_zero, List.set_cons_succ]
          refine wpAnyH_take (i := 4) (oi := ⟨_, _, _, _, _, _⟩) (v := ?_) rfl (by kernel_rfl) (by kernel_rfl) (by kernel_rfl) (fun _ _ _ h => h) (Or.inl ⟨by rfl, ?_⟩) (by assumption) ?_
          rotate_left 1
          · intro W hSw
            try dsimp only at hSw
            go_simp
            try with_reducible rfl
          try simp only [Act.put, List.setIfInBounds_toArray, List.set_cons_zero, List.set_cons_succ]
          refine wpAnyH_take (i := 5) (oi := ⟨_, _, _, _, _, _⟩) (v := .agg ([.string nmKnot, .slice A6 t.length c6]).toArray) rfl (by kernel_rfl) (by kernel_rfl) (by kernel_rfl) (fun _ _ _ h => h) (yieldsIf_load_mid (by rfl) 63 (.tmp 60) rfl (g8) (T.length * 2) rfl ([.string nmKnot, .slice A6 t.length c6]) _ (fun W h => h) Tryd.underlying63 rfl (HST.out _ _ _ _)) (by assumption) ?_
          try simp only [Act.put, List.setIfInBounds_toArray, List.set_cons_zero, List.set_cons_succ]
          refine wpAnyH_take (i := 7) (oi := ⟨_, _, _, _, _, _⟩) (v := ?_) rfl (by kernel_rfl) (by kernel_rfl) (by kernel_rfl) (fun _ _ _ h => h) (Or.inl ⟨by rfl, ?_⟩) (by assumption) ?_
          rotate_left 1
          · intro W hSw
            try dsimp only at hSw
            go_simp
            try with_reducible rfl
          try simp only [Act.put, List.setIfInBounds_toArray, List.set_cons_zero, List.set_cons_succ]
          refine wpAnyH_take (i := 8) (oi := ⟨_, _, _, _, _, _⟩) (v := ?_) rfl (by kernel_rfl) (by kernel_rfl) (by kernel_rfl) (fun _ _ _ h => h) (Or.inl ⟨by rfl, ?_⟩) (by assumption) ?_
          rotate_left 1
          · intro W hSw
            try dsimp only at hSw
            go_simp
            try with_reducible rfl
          try simp only [Act.put, List.setIfInBounds_toArray, List.set_cons_zero, List.set_cons_succ]
          refine wpAnyH_ready (rs := [6]) (by kernel_rfl) (by simp) ?_
          refine AllReadyH.cons rfl (fun K hK => ?_) AllReadyH.nil
          go_simp
          go_at_call 33
          refine (hash_any w8.drew (HTT.out.later (nxDr Hb8.out)) nmKnot nm_le.2.1 A6 _ c6 t rfl HC6.out (show Sees w8.drew _ _ _ from HBd8.out.sees) (by have := HLt.out; omega)).mono ?_
          rw [HXt.out]
          rintro e w10 ⟨rfl, hb10⟩
          have Hr10 : Hid (Below w8.heap.size w8 w10) := nxUndr hb10
          have HK10 : Hid (Blk w10 a 32 (By x).toArray) := HK8.out.below Hr10.out HK8.out.lt
          clear hb10
          refine hK.out _ _ (rng_below HR8.out Hr10.out HL8.out) (fun hSn => ?_)
          clear hK K
          try simp only [Act.put, List.setIfInBounds_toArray, List.set_cons_zero, List.set_cons_succ]
          refine wpAnyH_ready (rs := [9]) (by kernel_rfl) (by simp) ?_
          refine AllReadyH.cons rfl (fun K hK => ?_) AllReadyH.nil
          refine step_store_all (o := ⟨none, _, _, _, _, _⟩) rfl 32 (.tmp 6) (.tmp 62) rfl a 32 (By x).toArray (By z).toArray rfl rfl HK10.out (by rw [List.size_toArray, List.size_toArray, By_length, By_length, HXl.out, HZl.out]) HZz.out (By_one _) ?_
          intro w11 h5 h6 h7
          have HK11 := Lib.hid h5
          have HKp := Lib.hid h6
          have HZ11 := Lib.hid h7
          clear h5 h6 h7
          refine hK.out _ _ (rng_keeps (rng_below HR8.out Hr10.out HL8.out) HKp.out (Nat.lt_of_lt_of_le HL8.out Hr10.out.size) (fun e => HNg.out (by rw [e]))) (fun hSn => ?_)
          clear hK K
          try simp only [Act.put, List.setIfInBounds_toArray, List.set_cons_zero, List.set_cons_succ]
          refine wpAnyH_take (i := 10) (oi := ⟨_, _, _, _, _, _⟩) (v := ?_) rfl (by kernel_rfl) (by kernel_rfl) (by kernel_rfl) (fun _ _ _ h => h) (Or.inl ⟨by rfl, ?_⟩) (by assumption) ?_
          rotate_left 1
          · intro W hSw
            try dsimp only at hSw
            go_simp
            try with_reducible rfl
          try simp only [Act.put, List.setIfInBounds_toArray, List.set_cons_zero, List.set_cons_succ]
          refine wpAnyH_done (by kernel_rfl) ?_ _
          have HX11 : Hid (TxV w11 (some g8) a (T ++ [(nmKnot, t)]) (vs ++ [.string nmKnot, .slice A6 t.length c6])) := (HX8.out.later Hr10.out).stored HKp.out (by rw [HZ11.out]; exact Nat.le_refl _)
          have HO11 : Hid (w11.ownsRow W0.heap.size 63 2 (.slice (some ⟨g8, 0, none⟩) (T.length + 1) e8) (T.length + 1) (vs ++ [.string nmKnot, .slice A6 t.length c6])) := own_keeps (own_below HO8.out Hr10.out (fun j hj => (own_lt HO8.out j hj).2)) HKp.out HNg.out
          have Hb11 : Hid (Below W0.heap.size W0 w11) := (nxTo Hb8.out Hr10.out).trans (HKp.out.below (nxTo Hb8.out Hr10.out).size (fun k hk => by have := HaW.out; omega))
          have HTl : Hid ((T ++ [(nmKnot, t)]).length = T.length + 1) := by show _ = _; simp
          clear hHeld hSn HX8 HBd8 HK8 HNg Hb8 HO8 HR8 HL8 Hr10 HK10 HKp HZ11 hTl1 hTw
          go_wp2_with (go_at_call 30; refine (above_any _ n1 q1 (by omega) (by omega)).mono ?_; rintro e wr ⟨rfl, rfl⟩)
          go_roundw
          case rel => exact ⟨T ++ [(nmKnot, t)], vs ++ [Value.string nmKnot, Value.slice A6 t.length c6], some ⟨g8, 0, none⟩, e8, n1 / 2, (q1 + 1) / 2, z, hs1.drop 1, A2, k1 - 1, by rw [HTl.out], by go_num, by go_num, by rw [HDl.out], by rw [HDl.out]; omega, by rw [HTl.out]; omega, by omega, by show _ ≤ _; rw [HTl.out]; omega, HR'.out, HTx'.out, HSz'.out, HZl.out, H32'.out, HS2.out, by rw [HTl.out]; exact HO11.out, (show TxV wr (Value.slice (some ⟨g8, 0, none⟩) (T ++ [(nmKnot, t)]).length e8).ownBlock a (T ++ [(nmKnot, t)]) (vs ++ [Value.string nmKnot, Value.slice A6 t.length c6]) from HX11.out), HK11.out, Hb11.out⟩
          case measure => simp [intOf] <;> omega
        · obtain ⟨t, ht⟩ : ∃ t, y ++ x = t := ⟨_, rfl⟩
          obtain ⟨z, hz⟩ : ∃ z, knotB y x = z := ⟨_, rfl⟩
          have HR' : Hid (ldR knotB z (n1 / 2) ((q1 + 1) / 2) (hs1.drop 1) = R) := by show _ = _; rw [← hz, ← hyd, ← ldR_odd knotB h1 ha' h2]; exact HR.out
          have HTx' : Hid ((T ++ [(nmKnot, t)]) ++ trR z (n1 / 2) ((q1 + 1) / 2) (hs1.drop 1) = U) := by show _ = _; rw [← HTx.out, trR_odd h1 ha' h2, hyd, ht, hz]; simp
          have h3 : ((n1 : Int) % 2 == 0) = false := by rw [beq_eq_false_iff_ne]; omega
          have HXt : Hid (shaB (tagB nmKnot t) = z) := by show _ = _; rw [← ht, ← hz]; rfl
          have HZl : Hid (z.length = 32) := by show _ = _; rw [← hz]; exact knotB_len _ _
          have HZz := Lib.hid (Tryd.hsizeB z HZl.out)
          have HLt : Hid (t.length = 64) := by show _ = _; rw [← ht, List.length_append, HXl.out, HYl.out]
          have Ht := Lib.hid ht
          have HZxx := Lib.hid (Tryd.hsizeB x HXl.out)
          clear ha' h2 hyd ht hz HR HTx HSz hg0
          have h1' : ((q1 : Int) ≤ 1) = False := by simp; omega
          rw [hlen] at hk1 ⊢
          have hk1' : 1 ≤ k1 := by omega
          clear hlen
          go_wp2_with (go_at_call 31; refine (isAlone_any _ n1 q1 (by omega) (by omega) (by omega)).mono ?_; rw [HA.out]; rintro e wr ⟨rfl, rfl⟩)
          refine wp_region_held_drew (S := fun W => W.rangeAt a 0 (By x) ∧ W.rangeAt b off (By y)) (by kernel_rfl) ⟨HRx.out, HRy.out⟩ (fun hHeld => ?_)
          refine wpAnyH_take (i := 0) (oi := ⟨_, _, _, _, _, _⟩) (v := ?_) rfl (by kernel_rfl) (by kernel_rfl) (by kernel_rfl) (fun _ _ _ h => h) (Or.inl ⟨by rfl, ?_⟩) (by assumption) ?_
          rotate_left 1
          · intro W hSw
            try dsimp only at hSw
            go_simp
            try with_reducible rfl
          try simp only [Act.put, List.setIfInBounds_toArray, List.set_cons_zero, List.set_cons_succ]
          refine wpAnyH_take (i := 1) (oi := ⟨_, _, _, _, _, _⟩) (v := ?_) rfl (by kernel_rfl) (by kernel_rfl) (by kernel_rfl) (fun _ _ _ h => h) (Or.inl ⟨by rfl, ?_⟩) (by assumption) ?_
          rotate_left 1
          · intro W hSw
            try dsimp only at hSw
            go_simp
            try with_reducible rfl
          try simp only [Act.put, List.setIfInBounds_toArray, List.set_cons_zero, List.set_cons_succ]
          refine wpAnyH_take (i := 2) (oi := ⟨_, _, _, _, _, _⟩) (v := ?_) rfl (by kernel_rfl) (by kernel_rfl) (by kernel_rfl) (fun _ _ _ h => h) (Or.inl ⟨by rfl, ?_⟩) (by assumption) ?_
          rotate_left 1
          · intro W hSw
            try dsimp only at hSw
            go_simp
            try with_reducible rfl
          try simp only [Act.put, List.setIfInBounds_toArray, List.set_cons_zero, List.set_cons_succ]
          refine wpAnyH_take (i := 3) (oi := ⟨_, _, _, _, _, _⟩) (v := .agg (By y).toArray) rfl (by kernel_rfl) (by kernel_rfl) (by kernel_rfl) (fun _ _ _ h => h) (yieldsIf_load_mid (by rfl) 32 (.tmp 25) rfl (b) (off) rfl (By y) _ (fun W h => h.2) Tryd.underlying32 rfl HSY.out) (by assumption) ?_
          try simp only [Act.put, List.setIfInBounds_toArray, List.set_cons_zero, List.set_cons_succ]
          refine wpAnyH_take (i := 4) (oi := ⟨_, _, _, _, _, _⟩) (v := .agg (By x).toArray) rfl (by kernel_rfl) (by kernel_rfl) (by kernel_rfl) (fun _ _ _ h => h) (yieldsIf_load_mid (by rfl) 32 (.tmp 6) rfl (a) (0) rfl (By x) _ (fun W h => h.1) Tryd.underlying32 rfl HSX.out) (by assumption) ?_
          try simp only [Act.put, List.setIfInBounds_toArray, List.set_cons_zero, List.set_cons_succ]
          refine wpAnyH_ready (rs := [5]) (by kernel_rfl) (by simp) ?_
          refine AllReadyH.cons rfl (fun K hK => ?_) AllReadyH.nil
          go_simp
          go_at_call 47
          refine (knotText_new wr.drew y x HYl.out HXl.out).mono ?_
          rw [Ht.out]
          rintro e w6 ⟨A6, c6, rfl, hc6, hs6, hb6, hf6⟩
          have HC6 := Lib.hid hc6
          have HS6 := Lib.hid hs6
          have Hr6 : Hid (Below wr.heap.size wr w6) := nxUndr hb6
          have HF6 : Hid (Fresh wr.heap.size A6) := hf6
          clear hc6 hs6 hb6 hf6
          refine hK.out _ _ ⟨rng_below HRx.out Hr6.out HaL.out, rng_below HRy.out Hr6.out HbL.out⟩ (fun hSn => ?_)
          clear hK K
          try simp only [Act.put, List.setIfInBounds_toArray, List.set_cons_zero, List.set_cons_succ]
          refine wpAnyH_ready (rs := [6]) (by kernel_rfl) (by simp) ?_
          refine AllReadyH.cons rfl (fun K hK => ?_) AllReadyH.nil
          refine step_build_text (o := ⟨some 29, _, _, _, _, _⟩) rfl (.tmp 28) rfl nmKnot A6 t.length c6 rfl ?_
          have HB7 : Hid (Below w6.heap.size w6 (w6.alloc (.cells #[.string nmKnot, .slice A6 t.length c6] 63))) := nxAlloc (nxRefl w6) _
          have Hr7 : Hid (Below wr.heap.size wr (w6.alloc (.cells #[.string nmKnot, .slice A6 t.length c6] 63))) := nxTo Hr6.out HB7.out
          have HO7 : Hid ((w6.alloc (.cells #[.string nmKnot, .slice A6 t.length c6] 63)).ownsRow W0.heap.size 63 2 (.slice B T.length e1) T.length vs) := own_below HO.out Hr7.out (fun j hj => (own_lt HO.out j hj).2)
          refine hK.out _ _ ⟨rng_below HRx.out Hr7.out HaL.out, rng_below HRy.out Hr7.out HbL.out⟩ (fun hSn => ?_)
          clear hK K
          try simp only [Act.put, List.setIfInBounds_toArray, List.set_cons_zero, List.set_cons_succ]
          refine wpAnyH_ready (rs := [7]) (by kernel_rfl) (by simp) ?_
          refine AllReadyH.cons rfl (fun K hK => ?_) AllReadyH.nil
          refine step_append_seesV (o := ⟨some 30, _, _, _, _, _⟩) rfl (.tmp 23) (.tmp 29) 67 rfl W0.heap.size 63 i0 (.agg #[.string ⟨#[]⟩, .slice none 0 0]) 2 40 Tryd.underlying67 hi hz0 hz1 hz2 rfl (by decide) (.slice B T.length e1) T.length vs rfl HO7.out (w6.heap.size + 1) (some ⟨w6.heap.size, 0, none⟩) 1 1 [.string nmKnot, .slice A6 t.length c6] rfl rfl (SeesV.lit' w6 [.string nmKnot, .slice A6 t.length c6] 63) (two_one _ _ _ _) (by omega) (by omega) (nxTo Hb.out Hr7.out).size ?_
          intro v8 w8 ho8 hg8 hat8
          obtain ⟨B8, e8, rfl⟩ := own_form ho8
          have hl8 := own_last ho8 HX.out.1
          obtain ⟨g8, rfl, hlt8, hrg8⟩ := hl8
          have HO8 := Lib.hid ho8
          have HG8 := Lib.hid hg8
          have HA8 := Lib.hid hat8
          have HL8 := Lib.hid hlt8
          have HR8 := Lib.hid hrg8
          clear ho8 hg8 hat8 hlt8 hrg8
          refine hK.out _ _ ⟨rng_grown (rng_below HRx.out Hr7.out HaL.out) HG8.out (Nat.lt_of_lt_of_le HaL.out Hr7.out.size) HNa.out, rng_grown (rng_below HRy.out Hr7.out HbL.out) HG8.out (Nat.lt_of_lt_of_le HbL.out Hr7.out.size) HNb.out⟩ (fun hSn => ?_)
          clear hK K
          try simp only [Act.put, List.setIfInBounds_toArray, List.set_cons_zero, List.set_cons_succ]
          refine wpAnyH_take (i := 8) (oi := ⟨_, _, _, _, _, _⟩) (v := ?_) rfl (by kernel_rfl) (by kernel_rfl) (by kernel_rfl) (fun _ _ _ h => h) (Or.inl ⟨by rfl, ?_⟩) (by assumption) ?_
          rotate_left 1
          · intro W hSw
            try dsimp only at hSw
            go_simp
            try with_reducible rfl
          try simp only [Act.put, List.setIfInBounds_toArray, List.set_cons_zero, List.set_cons_succ]
          refine wpAnyH_done (by kernel_rfl) ?_ _
          have hbody : Body (w6.alloc (.cells #[.string nmKnot, .slice A6 t.length c6] 63)) (Value.slice B T.length e1).ownBlock a A6 t := by
            refine Body.of ((HS6.out.below HB7.out).more HB7.out.size) (by have := HLt.out; omega) (fun ad had => ?_)
            have h1 := HF6.out ad had
            have h2 := HaL.out
            exact ⟨fun e => by have := (own_lt HO.out ad.block e.symm).2; omega, by omega⟩
          have HX8 : Hid (TxV w8 (some g8) a (T ++ [(nmKnot, t)]) (vs ++ [.string nmKnot, .slice A6 t.length c6])) := ((HX.out.later Hr7.out).snoc HC6.out hbody).grown HG8.out HA8.out
          have HBd8 : Hid (Body w8 (some g8) a A6 t) := hbody.grown HG8.out HA8.out
          have HK8 : Hid (Blk w8 a 32 (By x).toArray) := blk_grown (KA.out.below Hr7.out HaL.out) HG8.out HNa.out
          have HNg : Hid (some a ≠ some g8) := HK8.out.notOwn HO8.out text_ne_hash
          have Hb8 : Hid (Below W0.heap.size W0 w8) := (nxTo Hb.out Hr7.out).grown HG8.out (nxTo Hb.out Hr7.out).size (fun j hj => (own_lt HO.out j hj).1)
          have hTl1 : (T.length : Int) < (T.length : Int) + 1 := by omega
          have hTw : IntKind.i64.wrap (T.length : Int) = (T.length : Int) := by rw [IntKind.wrap_i64]; omega
          clear hbody hHeld hSn HX HO HO7 Hr6 HB7 HG8 HA8 KA HRx HRy HNa HNb HS6 HF6 Hr7 HaL HbL Hb
          go_wp2
          refine wp_region_held_drew (S := fun W => W.rangeAt g8 (T.length * 2) [.string nmKnot, .slice A6 t.length c6]) (by kernel_rfl) HR8.out (fun hHeld => ?_)
          refine wpAnyH_take (i := 0) (oi := ⟨_, _, _, _, _, _⟩) (v := ?_) rfl (by kernel_rfl) (by kernel_rfl) (by kernel_rfl) (fun _ _ _ h => h) (Or.inl ⟨by rfl, ?_⟩) (by assumption) ?_
          rotate_left 1
          · intro W hSw
            try dsimp only at hSw
            go_simp
            try with_reducible rfl
          try simp only [Act.put, List.setIfInBounds_toArray, List.set_cons_zero, List.set_cons_succ]
          refine wpAnyH_take (i := 1) (oi := ⟨_, _, _, _, _, _⟩) (v := ?_) rfl (by kernel_rfl) (by kernel_rfl) (by kernel_rfl) (fun _ _ _ h => h) (Or.inl ⟨by rfl, ?_⟩) (by assumption) ?_
          rotate_left 1
          · intro W hSw
            try dsimp only at hSw
            go_simp
            try with_reducible rfl
          try simp only [Act.put, List.setIfInBounds_toArray, List.set_cons_zero, List.set_cons_succ]
          refine wpAnyH_take (i := 2) (oi := ⟨_, _, _, _, _, _⟩) (v := ?_) rfl (by kernel_rfl) (by kernel_rfl) (by kernel_rfl) (fun _ _ _ h => h) (Or.inl ⟨by rfl, ?_⟩) (by assumption) ?_
          rotate_left 1
          · intro W hSw
            try dsimp only at hSw
            go_simp
            try with_reducible rfl
          try simp only [Act.put, List.setIfInBounds_toArray, List.set_cons_zero, List.set_cons_succ]
          refine wpAnyH_take (i := 3) (oi := ⟨_, _, _, _, _, _⟩) (v := ?_) rfl (by kernel_rfl) (by kernel_rfl) (by kernel_rfl) (fun _ _ _ h => h) (Or.inl ⟨by rfl, ?_⟩) (by assumption) ?_
          rotate_left 1
          · intro W hSw
            try dsimp only at hSw
            go_simp
            try with_reducible rfl
          try simp only [Act.put, List.setIfInBounds_toArray, List.set_cons_zero, List.set_cons_succ]
          refine wpAnyH_take (i := 4) (oi := ⟨_, _, _, _, _, _⟩) (v := ?_) rfl (by kernel_rfl) (by kernel_rfl) (by kernel_rfl) (fun _ _ _ h => h) (Or.inl ⟨by rfl, ?_⟩) (by assumption) ?_
          rotate_left 1
          · intro W hSw
            try dsimp only at hSw
            go_simp
            try with_reducible rfl
          try simp only [Act.put, List.setIfInBounds_toArray, List.set_cons_zero, List.set_cons_succ]
          refine wpAnyH_take (i := 5) (oi := ⟨_, _, _, _, _, _⟩) (v := .agg ([.string nmKnot, .slice A6 t.length c6]).toArray) rfl (by kernel_rfl) (by kernel_rfl) (by kernel_rfl) (fun _ _ _ h => h) (yieldsIf_load_mid (by rfl) 63 (.tmp 60) rfl (g8) (T.length * 2) rfl ([.string nmKnot, .slice A6 t.length c6]) _ (fun W h => h) Tryd.underlying63 rfl (HST.out _ _ _ _)) (by assumption) ?_
          try simp only [Act.put, List.setIfInBounds_toArray, List.set_cons_zero, List.set_cons_succ]
          refine wpAnyH_take (i := 7) (oi := ⟨_, _, _, _, _, _⟩) (v := ?_) rfl (by kernel_rfl) (by kernel_rfl) (by kernel_rfl) (fun _ _ _ h => h) (Or.inl ⟨by rfl, ?_⟩) (by assumption) ?_
          rotate_left 1
          · intro W hSw
            try dsimp only at hSw
            go_simp
            try with_reducible rfl
          try simp only [Act.put, List.setIfInBounds_toArray, List.set_cons_zero, List.set_cons_succ]
          refine wpAnyH_take (i := 8) (oi := ⟨_, _, _, _, _, _⟩) (v := ?_) rfl (by kernel_rfl) (by kernel_rfl) (by kernel_rfl) (fun _ _ _ h => h) (Or.inl ⟨by rfl, ?_⟩) (by assumption) ?_
          rotate_left 1
          · intro W hSw
            try dsimp only at hSw
            go_simp
            try with_reducible rfl
          try simp only [Act.put, List.setIfInBounds_toArray, List.set_cons_zero, List.set_cons_succ]
          refine wpAnyH_ready (rs := [6]) (by kernel_rfl) (by simp) ?_
          refine AllReadyH.cons rfl (fun K hK => ?_) AllReadyH.nil
          go_simp
          go_at_call 33
          refine (hash_any w8.drew (HTT.out.later (nxDr Hb8.out)) nmKnot nm_le.2.1 A6 _ c6 t rfl HC6.out (show Sees w8.drew _ _ _ from HBd8.out.sees) (by have := HLt.out; omega)).mono ?_
          rw [HXt.out]
          rintro e w10 ⟨rfl, hb10⟩
          have Hr10 : Hid (Below w8.heap.size w8 w10) := nxUndr hb10
          have HK10 : Hid (Blk w10 a 32 (By x).toArray) := HK8.out.below Hr10.out HK8.out.lt
          clear hb10
          refine hK.out _ _ (rng_below HR8.out Hr10.out HL8.out) (fun hSn => ?_)
          clear hK K
          try simp only [Act.put, List.setIfInBounds_toArray, List.set_cons_zero, List.set_cons_succ]
          refine wpAnyH_ready (rs := [9]) (by kernel_rfl) (by simp) ?_
          refine AllReadyH.cons rfl (fun K hK => ?_) AllReadyH.nil
          refine step_store_all (o := ⟨none, _, _, _, _, _⟩) rfl 32 (.tmp 6) (.tmp 62) rfl a 32 (By x).toArray (By z).toArray rfl rfl HK10.out (by rw [List.size_toArray, List.size_toArray, By_length, By_length, HXl.out, HZl.out]) HZz.out (By_one _) ?_
          intro w11 h5 h6 h7
          have HK11 := Lib.hid h5
          have HKp := Lib.hid h6
          have HZ11 := Lib.hid h7
          clear h5 h6 h7
          refine hK.out _ _ (rng_keeps (rng_below HR8.out Hr10.out HL8.out) HKp.out (Nat.lt_of_lt_of_le HL8.out Hr10.out.size) (fun e => HNg.out (by rw [e]))) (fun hSn => ?_)
          clear hK K
          try simp only [Act.put, List.setIfInBounds_toArray, List.set_cons_zero, List.set_cons_succ]
          refine wpAnyH_take (i := 10) (oi := ⟨_, _, _, _, _, _⟩) (v := ?_) rfl (by kernel_rfl) (by kernel_rfl) (by kernel_rfl) (fun _ _ _ h => h) (Or.inl ⟨by rfl, ?_⟩) (by assumption) ?_
          rotate_left 1
          · intro W hSw
            try dsimp only at hSw
            go_simp
            try with_reducible rfl
          try simp only [Act.put, List.setIfInBounds_toArray, List.set_cons_zero, List.set_cons_succ]
          refine wpAnyH_done (by kernel_rfl) ?_ _
          have HX11 : Hid (TxV w11 (some g8) a (T ++ [(nmKnot, t)]) (vs ++ [.string nmKnot, .slice A6 t.length c6])) := (HX8.out.later Hr10.out).stored HKp.out (by rw [HZ11.out]; exact Nat.le_refl _)
          have HO11 : Hid (w11.ownsRow W0.heap.size 63 2 (.slice (some ⟨g8, 0, none⟩) (T.length + 1) e8) (T.length + 1) (vs ++ [.string nmKnot, .slice A6 t.length c6])) := own_keeps (own_below HO8.out Hr10.out (fun j hj => (own_lt HO8.out j hj).2)) HKp.out HNg.out
          have Hb11 : Hid (Below W0.heap.size W0 w11) := (nxTo Hb8.out Hr10.out).trans (HKp.out.below (nxTo Hb8.out Hr10.out).size (fun k hk => by have := HaW.out; omega))
          have HTl : Hid ((T ++ [(nmKnot, t)]).length = T.length + 1) := by show _ = _; simp
          clear hHeld hSn HX8 HBd8 HK8 HNg Hb8 HO8 HR8 HL8 Hr10 HK10 HKp HZ11 hTl1 hTw
          go_wp2_with (go_at_call 30; refine (above_any _ n1 q1 (by omega) (by omega)).mono ?_; rintro e wr ⟨rfl, rfl⟩)
          go_roundw
          case rel => exact ⟨T ++ [(nmKnot, t)], vs ++ [Value.string nmKnot, Value.slice A6 t.length c6], some ⟨g8, 0, none⟩, e8, n1 / 2, (q1 + 1) / 2, z, hs1.drop 1, A2, k1 - 1, by rw [HTl.out], by go_num, by go_num, by rw [HDl.out], by rw [HDl.out]; omega, by rw [HTl.out]; omega, by omega, by show _ ≤ _; rw [HTl.out]; omega, HR'.out, HTx'.out, HSz'.out, HZl.out, H32'.out, HS2.out, by rw [HTl.out]; exact HO11.out, (show TxV wr (Value.slice (some ⟨g8, 0, none⟩) (T ++ [(nmKnot, t)]).length e8).ownBlock a (T ++ [(nmKnot, t)]) (vs ++ [Value.string nmKnot, Value.slice A6 t.length c6]) from HX11.out), HK11.out, Hb11.out⟩
          case measure => simp [intOf] <;> omega
end Go.Proofs.YtcbdjcmjchoagaaDoor
