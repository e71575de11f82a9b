/-
  merkle, the document's: lead.
-/
import Derived.Test.YtcbdjcmjchoagaaDoorMkL
namespace Go.Proofs.YtcbdjcmjchoagaaDoor
open Go.RowKit

theorem ldH_len (x : List UInt8) (n c : Nat) (hs : List (List UInt8)) (hx : x.length = 32) : (ldH knotB x n c hs).length = 32 := by
  by_cases h : c ≤ 1
  · rw [ldH_one knotB h]; exact hx
  · by_cases hn : n < half c
    · rw [ldH_left knotB h hn]; exact knotB_len _ _
    · rw [ldH_right knotB h hn]; exact knotB_len _ _

set_option maxHeartbeats 1000000 in
set_option maxRecDepth 100000 in
theorem rlead_any (N : Nat) : ∀ (n c : Nat), c = N → ∀ (w : World) (id : List UInt8) (hs : List (List UInt8)) (A : Option Addr) (m cap : Nat), id.length = 32 → m = hs.length → m ≤ cap → n < c → c ≤ 1048576 → hs.length = szH n c → All32 hs → SeesV w w.heap.size A (Hs hs) →
    Calls Tryd.prog 37 #[.agg (By id).toArray, .int .i64 (n : Int), .int .i64 (c : Int), .slice A m cap] w fun e w' => e = .returned (.agg (By (ldH knotB (leafB id) n c hs)).toArray) ∧ Below w.heap.size w w' := by
  induction N using Nat.strongRecOn with
  | ind N ih =>
  intro n c hcN w id hs A m cap hid hm hcap hnc hmax hsz h32 hS
  subst hm hcN
  have IH := Lib.hid ih
  have hA : Blk ((w.alloc (.cells (By id).toArray 32)).alloc (.cells (By zero32).toArray 32)) w.heap.size 32 (By id).toArray := (show Blk (w.alloc _) _ _ _ from heap_alloc_new w _).alloc _
  have hZ : Blk ((w.alloc (.cells (By id).toArray 32)).alloc (.cells (By zero32).toArray 32)) (w.heap.size + 1) 32 (By zero32).toArray := Blk.newAt (by simp) rfl
  have hb0 : Below w.heap.size w ((w.alloc (.cells (By id).toArray 32)).alloc (.cells (By zero32).toArray 32)) := nxAlloc (nxAlloc (nxRefl w) _) _
  have HS : Hid (SeesV ((w.alloc (.cells (By id).toArray 32)).alloc (.cells (By zero32).toArray 32)) w.heap.size A (Hs hs)) := (hS.alloc _).alloc _
  have hsz0 : w.heap.size + 2 = ((w.alloc (.cells (By id).toArray 32)).alloc (.cells (By zero32).toArray 32)).heap.size := by simp
  obtain ⟨x, hx⟩ : ∃ x, ldH knotB (leafB id) n c hs = x := ⟨_, rfl⟩
  have HXl : Hid (x.length = 32) := by show _ = _; rw [← hx]; exact ldH_len _ _ _ _ (leafB_len id)
  have HZ0 := Lib.hid (Tryd.hsizeB x HXl.out)
  have HSX : Hid ((Tryd.prog.info? 32).map (·.size) = some (By id).length) := by have h := Tryd.hsizeB id hid; show _ = _; rw [h]; simp
  have HA := Lib.hid hA
  have HZ := Lib.hid hZ
  have Hb0 := Lib.hid hb0
  have Hs0 := Lib.hid hsz0
  have HL := Lib.hid hid
  have H32 := Lib.hid h32
  rw [hx]
  clear ih hS hA hZ hb0 hsz0 hid h32
  by_cases hone : c ≤ 1
  · have HXa : Hid (leafB id = x) := by show _ = _; rw [← hx, ldH_one knotB hone]
    have HRA : Hid (((w.alloc (.cells (By id).toArray 32)).alloc (.cells (By zero32).toArray 32)).rangeAt w.heap.size 0 (By id)) := by
      intro j v hv
      rw [Nat.zero_add, HA.out.cell j]
      simpa using hv
    clear hx hsz hnc hcap
    go_enter Tryd.func37, Tryd.ntmps37
    go_wp2_with (first
      | ((with_reducible show wpList _ _ _ (⟨some 13, _, _, _, _, _⟩ :: _) _ _); change wpList _ _ _ _ _ ((w.alloc (.cells (By id).toArray 32)).alloc (.cells (By zero32).toArray 32)); refine wpList_load_mid rfl 32 (.tmp 4) rfl w.heap.size 0 rfl (By id) _ HRA.out Tryd.underlying32 rfl HSX.out ?_)
      | (go_at_call 25; refine (rleaf_any _ id HL.out).mono ?_; rw [HXa.out]; rintro e w4 ⟨rfl, hb4⟩; have B4 := Lib.hid (HZ.out.below hb4 HZ.out.lt); have Hb4 : Hid (Below w.heap.size w w4) := nxTo Hb0.out hb4; clear hb4)
      | ((with_reducible show wpList _ _ _ (⟨none, .store 32 _ _, _, _, _, _⟩ :: _) _ _); refine wpList_store_all rfl 32 (.tmp 8) (.tmp 14) rfl (w.heap.size + 1) 32 (By zero32).toArray (By x).toArray rfl rfl B4.out (by rw [List.size_toArray, List.size_toArray, By_length, By_length, HXl.out]; rfl) HZ0.out (By_one _) ?_; intro w5 h5 h6 h7; have H5 := Lib.hid h5; have Hb5 : Hid (Below w.heap.size w w5) := Hb4.out.trans (h6.below Hb4.out.size (fun k hk => by omega)); clear h5 h6 h7))
    refine bodyPost_ret (results_cell_row Tryd.results37 _ _ (w.heap.size + 1) 32 _ (0, 0) _ rfl H5.out Tryd.underlying32 rfl HZ0.out) rfl ⟨rfl, Hb5.out⟩
  · have hk2 := half_lt (n := c) (by omega)
    have hk0 := half_pos c
    have hl1 : 1 ≤ hs.length := by
      rw [hsz]
      by_cases hn : n < half c
      · rw [szH_left hone hn]; omega
      · rw [szH_right hone hn]; omega
    obtain ⟨l, hl⟩ : ∃ l, hs.length - 1 = l := ⟨_, rfl⟩
    have hlen : hs.length = l + 1 := by omega
    obtain ⟨b, off, rfl, hbb, hrg⟩ := SeesV.hash HS.out H32.out (k := l) (by omega)
    have HR := Lib.hid (hrg l (by omega))
    have hyl := H32.out.get (k := l) (by omega)
    have hyd : hs.getD l default = hs[l]'(by omega) := by rw [List.getD_eq_getElem?_getD, List.getElem?_eq_getElem (by omega)]; rfl
    obtain ⟨y, hy⟩ : ∃ y, hs[l]'(by omega) = y := ⟨_, rfl⟩
    rw [hy] at hyd hyl HR
    have HYl := Lib.hid hyl
    have HSY : Hid ((Tryd.prog.info? 32).map (·.size) = some (By y).length) := by have h := Tryd.hsizeB y hyl; show _ = _; rw [h]; simp
    have HTl : Hid ((hs.take l).length = l) := by show _ = _; rw [List.length_take]; omega
    have HT32 : Hid (All32 (hs.take l)) := fun y hy => H32.out y (List.mem_of_mem_take hy)
    obtain ⟨A1, hs1, q1⟩ := slice_lowH HS.out H32.out hcap l (by omega)
    have HS1 := Lib.hid hs1
    have HLen := Lib.hid hlen
    have hone' : ((c : Int) ≤ 1) = False := by simp; omega
    obtain ⟨k, hk⟩ : ∃ k, half c = k := ⟨_, rfl⟩
    have HWL : Hid (1 ≤ hs.length) := hl1
    have hlcap : l ≤ cap := by omega
    have hlt1 : (l : Int) < (l : Int) + 1 := by omega
    have hlm : l < 1048576 := by have := szH_le n c; omega
    have HRA : Hid (((w.alloc (.cells (By id).toArray 32)).alloc (.cells (By zero32).toArray 32)).rangeAt w.heap.size 0 (By id)) := by
      intro j v hv
      rw [Nat.zero_add, HA.out.cell j]
      simpa using hv
    rw [hk] at hk2 hk0
    have HK := Lib.hid hk
    by_cases hn : n < k
    · obtain ⟨xa, hxa⟩ : ∃ xa, ldH knotB (leafB id) n k (hs.take l) = xa := ⟨_, rfl⟩
      have HX : Hid (knotB xa y = x) := by
        show _ = _
        rw [← hx, ldH_left knotB hone (by rw [hk]; exact hn), hl, hyd, hk, hxa]
      have HXal : Hid (xa.length = 32) := by show _ = _; rw [← hxa]; exact ldH_len _ _ _ _ (leafB_len id)
      have HXa := Lib.hid hxa
      have HSz : Hid ((hs.take l).length = szH n k) := by
        show _ = _
        rw [szH_left hone (by rw [hk]; exact hn), hk] at hsz
        rw [HTl.out]; omega
      rw [hlen] at q1 ⊢
      clear hrg hx hsz hk hl1 hl hy hyd hyl hlen hs1 hxa hcap
      go_enter Tryd.func37, Tryd.ntmps37
      go_wp2_with (go_at_call 35; refine (half_any _ c (by omega) (by omega)).mono ?_; rw [HK.out]; rintro e w1 ⟨rfl, hw1⟩; subst hw1)
      change Code.wp _ _ _ _ ((w.alloc (.cells (By id).toArray 32)).alloc (.cells (By zero32).toArray 32))
      generalize ((w.alloc (.cells (By id).toArray 32)).alloc (.cells (By zero32).toArray 32)) = W0 at *
      refine wp_region_held_drew (S := fun W => W.rangeAt w.heap.size 0 (By id) ∧ W.rangeAt b (off + l * 32) (By y)) (by kernel_rfl) ⟨HRA.out, HR.out⟩ (fun hHeld => ?_)
      refine wpAnyH_take (i := 0) (oi := ⟨_, _, _, _, _, _⟩) (v := .agg (By id).toArray) rfl (by kernel_rfl) (by kernel_rfl) (by kernel_rfl) (fun _ _ _ h => h) (yieldsIf_load_mid (by rfl) 32 (.tmp 4) rfl (w.heap.size) (0) rfl (By id) _ (fun W h => h.1) Tryd.underlying32 rfl HSX.out) (by assumption) ?_
      try simp only [Act.put, List.setIfInBounds_toArray, List.set_cons_zero, List.set_cons_succ]
      refine wpAnyH_take (i := 1) (oi := ⟨_, _, _, _, _, _⟩) (v := ?_) rfl (by kernel_rfl) (by kernel_rfl) (by kernel_rfl) (fun _ _ _ h => h) (Or.inl ⟨by rfl, ?_⟩) (by assumption) ?_
      rotate_left 1
      · intro W hSw
        try dsimp only at hSw
        go_simp
        try with_reducible rfl
      try simp only [Act.put, List.setIfInBounds_toArray, List.set_cons_zero, List.set_cons_succ]
      refine wpAnyH_take (i := 2) (oi := ⟨_, _, _, _, _, _⟩) (v := ?_) rfl (by kernel_rfl) (by kernel_rfl) (by kernel_rfl) (fun _ _ _ h => h) (Or.inl ⟨by rfl, ?_⟩) (by assumption) ?_
      rotate_left 1
      · intro W hSw
        try dsimp only at hSw
        go_simp
        try with_reducible rfl
      try simp only [Act.put, List.setIfInBounds_toArray, List.set_cons_zero, List.set_cons_succ]
      refine wpAnyH_take (i := 3) (oi := ⟨_, _, _, _, _, _⟩) (v := ?_) rfl (by kernel_rfl) (by kernel_rfl) (by kernel_rfl) (fun _ _ _ h => h) (Or.inl ⟨by rfl, ?_⟩) (by assumption) ?_
      rotate_left 1
      · intro W hSw
        try dsimp only at hSw
        go_simp
        try with_reducible rfl
      try simp only [Act.put, List.setIfInBounds_toArray, List.set_cons_zero, List.set_cons_succ]
      refine wpAnyH_take (i := 4) (oi := ⟨_, _, _, _, _, _⟩) (v := ?_) rfl (by kernel_rfl) (by kernel_rfl) (by kernel_rfl) (fun _ _ _ h => h) (Or.inl ⟨by rfl, ?_⟩) (by assumption) ?_
      rotate_left 1
      · intro W hSw
        try dsimp only at hSw
        go_simp
        try with_reducible rfl
      try simp only [Act.put, List.setIfInBounds_toArray, List.set_cons_zero, List.set_cons_succ]
      refine wpAnyH_take (i := 5) (oi := ⟨_, _, _, _, _, _⟩) (v := ?_) rfl (by kernel_rfl) (by kernel_rfl) (by kernel_rfl) (fun _ _ _ h => h) (Or.inl ⟨by rfl, ?_⟩) (by assumption) ?_
      rotate_left 1
      · intro W hSw
        try dsimp only at hSw
        go_simp
        try with_reducible rfl
      try simp only [Act.put, List.setIfInBounds_toArray, List.set_cons_zero, List.set_cons_succ]
      refine wpAnyH_take (i := 7) (oi := ⟨_, _, _, _, _, _⟩) (v := ?_) rfl (by kernel_rfl) (by kernel_rfl) (by kernel_rfl) (fun _ _ _ h => h) (Or.inl ⟨by rfl, ?_⟩) (by assumption) ?_
      rotate_left 1
      · intro W hSw
        try dsimp only at hSw
        go_simp
        try with_reducible rfl
      try simp only [Act.put, List.setIfInBounds_toArray, List.set_cons_zero, List.set_cons_succ]
      refine wpAnyH_take (i := 8) (oi := ⟨_, _, _, _, _, _⟩) (v := ?_) rfl (by kernel_rfl) (by kernel_rfl) (by kernel_rfl) (fun _ _ _ h => h) (Or.inl ⟨by rfl, ?_⟩) (by assumption) ?_
      rotate_left 1
      · intro W hSw
        try dsimp only at hSw
        go_simp
        try with_reducible rfl
      try simp only [Act.put, List.setIfInBounds_toArray, List.set_cons_zero, List.set_cons_succ]
      refine wpAnyH_take (i := 9) (oi := ⟨_, _, _, _, _, _⟩) (v := ?_) rfl (by kernel_rfl) (by kernel_rfl) (by kernel_rfl) (fun _ _ _ h => h) (Or.inl ⟨by rfl, ?_⟩) (by assumption) ?_
      rotate_left 1
      · intro W hSw
        try dsimp only at hSw
        go_simp
        try with_reducible rfl
      try simp only [Act.put, List.setIfInBounds_toArray, List.set_cons_zero, List.set_cons_succ]
      refine wpAnyH_take (i := 10) (oi := ⟨_, _, _, _, _, _⟩) (v := .agg (By y).toArray) rfl (by kernel_rfl) (by kernel_rfl) (by kernel_rfl) (fun _ _ _ h => h) (yieldsIf_load_mid (by rfl) 32 (.tmp 32) rfl (b) (off + l * 32) rfl (By y) _ (fun W h => h.2) Tryd.underlying32 rfl HSY.out) (by assumption) ?_
      try simp only [Act.put, List.setIfInBounds_toArray, List.set_cons_zero, List.set_cons_succ]
      refine wpAnyH_ready (rs := [6]) (by kernel_rfl) (by simp) ?_
      refine AllReadyH.cons rfl (fun K hK => ?_) AllReadyH.nil
      go_simp
      go_at_call 37
      refine (IH.out k hk2 n k rfl W0.drew id (hs.take l) A1 l cap HL.out HTl.out.symm (by omega) (by omega) (by omega) HSz.out HT32.out (show SeesV W0.drew _ _ _ from HS1.out.more (by have := Hs0.out; show _ ≤ W0.heap.size; omega)) ).mono ?_
      rw [HXa.out]
      rintro e w4 ⟨rfl, hb4⟩
      have Hr4 : Hid (Below W0.heap.size W0 w4) := nxUndr hb4
      clear hb4
      refine hK.out _ _ ⟨rng_below HRA.out Hr4.out (by have := Hs0.out; omega), rng_below HR.out Hr4.out (by have := Hs0.out; omega)⟩ (fun hSn => ?_)
      clear hK K
      try simp only [Act.put, List.setIfInBounds_toArray, List.set_cons_zero, List.set_cons_succ]
      refine wpAnyH_ready (rs := [11]) (by kernel_rfl) (by simp) ?_
      refine AllReadyH.cons rfl (fun K hK => ?_) AllReadyH.nil
      go_simp
      go_at_call 26
      refine (rknot_any w4 xa y HXal.out HYl.out).mono ?_
      rw [HX.out]
      rintro e w6 ⟨rfl, hb6⟩
      have Hr6 : Hid (Below W0.heap.size W0 w6) := nxTo Hr4.out hb6
      have HZ6 := Lib.hid (HZ.out.below Hr6.out HZ.out.lt)
      clear hb6
      refine hK.out _ _ ⟨rng_below HRA.out Hr6.out (by have := Hs0.out; omega), rng_below HR.out Hr6.out (by have := Hs0.out; omega)⟩ (fun hSn => ?_)
      clear hK K
      try simp only [Act.put, List.setIfInBounds_toArray, List.set_cons_zero, List.set_cons_succ]
      refine wpAnyH_ready (rs := [12]) (by kernel_rfl) (by simp) ?_
      refine AllReadyH.cons rfl (fun K hK => ?_) AllReadyH.nil
      refine step_store_all (o := ⟨none, _, _, _, _, _⟩) rfl 32 (.tmp 8) (.tmp 34) rfl (w.heap.size + 1) 32 (By zero32).toArray (By x).toArray rfl rfl HZ6.out (by rw [List.size_toArray, List.size_toArray, By_length, By_length, HXl.out]; rfl) HZ0.out (By_one _) ?_
      intro w8 h5 h6 h7
      have H8 := Lib.hid h5
      have Hb8 : Hid (Below w.heap.size w w8) := (nxTo Hb0.out Hr6.out).trans (h6.below (nxTo Hb0.out Hr6.out).size (fun k hk => by omega))
      have Hc8 : Hid (Below (w.heap.size + 1) w6 w8) := h6.below (by have := Hr6.out.size; have := Hs0.out; omega) (fun k hk => by omega)
      clear h5 h6 h7
      refine hK.out _ _ ⟨rng_below (rng_below HRA.out Hr6.out (by have := Hs0.out; omega)) Hc8.out (by omega), rng_below (rng_below HR.out Hr6.out (by have := Hs0.out; omega)) Hc8.out (by omega)⟩ (fun hSn => ?_)
      clear hK K
      try simp only [Act.put, List.setIfInBounds_toArray, List.set_cons_zero, List.set_cons_succ]
      refine wpAnyH_done (by kernel_rfl) ?_ _
      go_wp2
      refine bodyPost_ret (results_cell_row Tryd.results37 _ _ (w.heap.size + 1) 32 _ (0, 0) _ rfl H8.out Tryd.underlying32 rfl HZ0.out) rfl ⟨rfl, Hb8.out⟩
    · obtain ⟨d, hd⟩ : ∃ d, n - k = d := ⟨_, rfl⟩
      obtain ⟨f, hf⟩ : ∃ f, c - k = f := ⟨_, rfl⟩
      obtain ⟨xa, hxa⟩ : ∃ xa, ldH knotB (leafB id) d f (hs.take l) = xa := ⟨_, rfl⟩
      have HX : Hid (knotB y xa = x) := by
        show _ = _
        rw [← hx, ldH_right knotB hone (by rw [hk]; exact hn), hl, hyd, hk, hd, hf, hxa]
      have HXal : Hid (xa.length = 32) := by show _ = _; rw [← hxa]; exact ldH_len _ _ _ _ (leafB_len id)
      have HXa := Lib.hid hxa
      have HSz : Hid ((hs.take l).length = szH d f) := by
        show _ = _
        rw [szH_right hone (by rw [hk]; exact hn), hk, hd, hf] at hsz
        rw [HTl.out]; omega
      have e1 : (n : Int) - (k : Int) = (d : Int) := by omega
      have e2 : IntKind.i64.wrap (d : Int) = (d : Int) := by rw [IntKind.wrap_i64]; omega
      have e3 : (c : Int) - (k : Int) = (f : Int) := by omega
      have e4 : IntKind.i64.wrap (f : Int) = (f : Int) := by rw [IntKind.wrap_i64]; omega
      have HF : Hid (f < c) := by show _ < _; omega
      have HDF : Hid (d < f) := by show _ < _; omega
      rw [hlen] at q1 ⊢
      clear hrg hx hsz hk hl1 hl hy hyd hyl hlen hs1 hxa hcap hd hf
      go_enter Tryd.func37, Tryd.ntmps37
      go_wp2_with (go_at_call 35; refine (half_any _ c (by omega) (by omega)).mono ?_; rw [HK.out]; rintro e w1 ⟨rfl, hw1⟩; subst hw1)
      change Code.wp _ _ _ _ ((w.alloc (.cells (By id).toArray 32)).alloc (.cells (By zero32).toArray 32))
      generalize ((w.alloc (.cells (By id).toArray 32)).alloc (.cells (By zero32).toArray 32)) = W0 at *
      refine wp_region_held_drew (S := fun W => W.rangeAt w.heap.size 0 (By id) ∧ W.rangeAt b (off + l * 32) (By y)) (by kernel_rfl) ⟨HRA.out, HR.out⟩ (fun hHeld => ?_)
      refine wpAnyH_take (i := 0) (oi := ⟨_, _, _, _, _, _⟩) (v := ?_) rfl (by kernel_rfl) (by kernel_rfl) (by kernel_rfl) (fun _ _ _ h => h) (Or.inl ⟨by rfl, ?_⟩) (by assumption) ?_
      rotate_left 1
      · intro W hSw
        try dsimp only at hSw
        go_simp
        try with_reducible rfl
      try simp only [Act.put, List.setIfInBounds_toArray, List.set_cons_zero, List.set_cons_succ]
      refine wpAnyH_take (i := 1) (oi := ⟨_, _, _, _, _, _⟩) (v := ?_) rfl (by kernel_rfl) (by kernel_rfl) (by kernel_rfl) (fun _ _ _ h => h) (Or.inl ⟨by rfl, ?_⟩) (by assumption) ?_
      rotate_left 1
      · intro W hSw
        try dsimp only at hSw
        go_simp
        try with_reducible rfl
      try simp only [Act.put, List.setIfInBounds_toArray, List.set_cons_zero, List.set_cons_succ]
      refine wpAnyH_take (i := 2) (oi := ⟨_, _, _, _, _, _⟩) (v := ?_) rfl (by kernel_rfl) (by kernel_rfl) (by kernel_rfl) (fun _ _ _ h => h) (Or.inl ⟨by rfl, ?_⟩) (by assumption) ?_
      rotate_left 1
      · intro W hSw
        try dsimp only at hSw
        go_simp
        try with_reducible rfl
      try simp only [Act.put, List.setIfInBounds_toArray, List.set_cons_zero, List.set_cons_succ]
      refine wpAnyH_take (i := 3) (oi := ⟨_, _, _, _, _, _⟩) (v := .agg (By y).toArray) rfl (by kernel_rfl) (by kernel_rfl) (by kernel_rfl) (fun _ _ _ h => h) (yieldsIf_load_mid (by rfl) 32 (.tmp 37) rfl (b) (off + l * 32) rfl (By y) _ (fun W h => h.2) Tryd.underlying32 rfl HSY.out) (by assumption) ?_
      try simp only [Act.put, List.setIfInBounds_toArray, List.set_cons_zero, List.set_cons_succ]
      refine wpAnyH_take (i := 4) (oi := ⟨_, _, _, _, _, _⟩) (v := .agg (By id).toArray) rfl (by kernel_rfl) (by kernel_rfl) (by kernel_rfl) (fun _ _ _ h => h) (yieldsIf_load_mid (by rfl) 32 (.tmp 4) rfl (w.heap.size) (0) rfl (By id) _ (fun W h => h.1) Tryd.underlying32 rfl HSX.out) (by assumption) ?_
      try simp only [Act.put, List.setIfInBounds_toArray, List.set_cons_zero, List.set_cons_succ]
      refine wpAnyH_take (i := 5) (oi := ⟨_, _, _, _, _, _⟩) (v := ?_) rfl (by kernel_rfl) (by kernel_rfl) (by kernel_rfl) (fun _ _ _ h => h) (Or.inl ⟨by rfl, ?_⟩) (by assumption) ?_
      rotate_left 1
      · intro W hSw
        try dsimp only at hSw
        go_simp
        try with_reducible rfl
      try simp only [Act.put, List.setIfInBounds_toArray, List.set_cons_zero, List.set_cons_succ]
      refine wpAnyH_take (i := 6) (oi := ⟨_, _, _, _, _, _⟩) (v := ?_) rfl (by kernel_rfl) (by kernel_rfl) (by kernel_rfl) (fun _ _ _ h => h) (Or.inl ⟨by rfl, ?_⟩) (by assumption) ?_
      rotate_left 1
      · intro W hSw
        try dsimp only at hSw
        go_simp
        try with_reducible rfl
      try simp only [Act.put, List.setIfInBounds_toArray, List.set_cons_zero, List.set_cons_succ]
      refine wpAnyH_take (i := 7) (oi := ⟨_, _, _, _, _, _⟩) (v := ?_) rfl (by kernel_rfl) (by kernel_rfl) (by kernel_rfl) (fun _ _ _ h => h) (Or.inl ⟨by rfl, ?_⟩) (by assumption) ?_
      rotate_left 1
      · intro W hSw
        try dsimp only at hSw
        go_simp
        try with_reducible rfl
      try simp only [Act.put, List.setIfInBounds_toArray, List.set_cons_zero, List.set_cons_succ]
      refine wpAnyH_take (i := 8) (oi := ⟨_, _, _, _, _, _⟩) (v := ?_) rfl (by kernel_rfl) (by kernel_rfl) (by kernel_rfl) (fun _ _ _ h => h) (Or.inl ⟨by rfl, ?_⟩) (by assumption) ?_
      rotate_left 1
      · intro W hSw
        try dsimp only at hSw
        go_simp
        try with_reducible rfl
      try simp only [Act.put, List.setIfInBounds_toArray, List.set_cons_zero, List.set_cons_succ]
      refine wpAnyH_take (i := 9) (oi := ⟨_, _, _, _, _, _⟩) (v := ?_) rfl (by kernel_rfl) (by kernel_rfl) (by kernel_rfl) (fun _ _ _ h => h) (Or.inl ⟨by rfl, ?_⟩) (by assumption) ?_
      rotate_left 1
      · intro W hSw
        try dsimp only at hSw
        go_simp
        try with_reducible rfl
      try simp only [Act.put, List.setIfInBounds_toArray, List.set_cons_zero, List.set_cons_succ]
      refine wpAnyH_take (i := 10) (oi := ⟨_, _, _, _, _, _⟩) (v := ?_) rfl (by kernel_rfl) (by kernel_rfl) (by kernel_rfl) (fun _ _ _ h => h) (Or.inl ⟨by rfl, ?_⟩) (by assumption) ?_
      rotate_left 1
      · intro W hSw
        try dsimp only at hSw
        go_simp
        try with_reducible rfl
      try simp only [Act.put, List.setIfInBounds_toArray, List.set_cons_zero, List.set_cons_succ]
      refine wpAnyH_take (i := 11) (oi := ⟨_, _, _, _, _, _⟩) (v := ?_) rfl (by kernel_rfl) (by kernel_rfl) (by kernel_rfl) (fun _ _ _ h => h) (Or.inl ⟨by rfl, ?_⟩) (by assumption) ?_
      rotate_left 1
      · intro W hSw
        try dsimp only at hSw
        go_simp
        try with_reducible rfl
      try simp only [Act.put, List.setIfInBounds_toArray, List.set_cons_zero, List.set_cons_succ]
      refine wpAnyH_take (i := 12) (oi := ⟨_, _, _, _, _, _⟩) (v := ?_) rfl (by kernel_rfl) (by kernel_rfl) (by kernel_rfl) (fun _ _ _ h => h) (Or.inl ⟨by rfl, ?_⟩) (by assumption) ?_
      rotate_left 1
      · intro W hSw
        try dsimp only at hSw
        go_simp
        try with_reducible rfl
      try simp only [Act.put, List.setIfInBounds_toArray, List.set_cons_zero, List.set_cons_succ]
      refine wpAnyH_take (i := 13) (oi := ⟨_, _, _, _, _, _⟩) (v := ?_) rfl (by kernel_rfl) (by kernel_rfl) (by kernel_rfl) (fun _ _ _ h => h) (Or.inl ⟨by rfl, ?_⟩) (by assumption) ?_
      rotate_left 1
      · intro W hSw
        try dsimp only at hSw
        go_simp
        try with_reducible rfl
      try simp only [Act.put, List.setIfInBounds_toArray, List.set_cons_zero, List.set_cons_succ]
      refine wpAnyH_ready (rs := [14]) (by kernel_rfl) (by simp) ?_
      refine AllReadyH.cons rfl (fun K hK => ?_) AllReadyH.nil
      go_simp
      go_at_call 37
      refine (IH.out f HF.out d f rfl W0.drew id (hs.take l) A1 l cap HL.out HTl.out.symm (by omega) HDF.out (by have := HF.out; omega) HSz.out HT32.out (show SeesV W0.drew _ _ _ from HS1.out.more (by have := Hs0.out; show _ ≤ W0.heap.size; omega)) ).mono ?_
      rw [HXa.out]
      rintro e w4 ⟨rfl, hb4⟩
      have Hr4 : Hid (Below W0.heap.size W0 w4) := nxUndr hb4
      clear hb4
      refine hK.out _ _ ⟨rng_below HRA.out Hr4.out (by have := Hs0.out; omega), rng_below HR.out Hr4.out (by have := Hs0.out; omega)⟩ (fun hSn => ?_)
      clear hK K
      try simp only [Act.put, List.setIfInBounds_toArray, List.set_cons_zero, List.set_cons_succ]
      refine wpAnyH_ready (rs := [15]) (by kernel_rfl) (by simp) ?_
      refine AllReadyH.cons rfl (fun K hK => ?_) AllReadyH.nil
      go_simp
      go_at_call 26
      refine (rknot_any w4 y xa HYl.out HXal.out).mono ?_
      rw [HX.out]
      rintro e w6 ⟨rfl, hb6⟩
      have Hr6 : Hid (Below W0.heap.size W0 w6) := nxTo Hr4.out hb6
      have HZ6 := Lib.hid (HZ.out.below Hr6.out HZ.out.lt)
      clear hb6
      refine hK.out _ _ ⟨rng_below HRA.out Hr6.out (by have := Hs0.out; omega), rng_below HR.out Hr6.out (by have := Hs0.out; omega)⟩ (fun hSn => ?_)
      clear hK K
      try simp only [Act.put, List.setIfInBounds_toArray, List.set_cons_zero, List.set_cons_succ]
      refine wpAnyH_ready (rs := [16]) (by kernel_rfl) (by simp) ?_
      refine AllReadyH.cons rfl (fun K hK => ?_) AllReadyH.nil
      refine step_store_all (o := ⟨none, _, _, _, _, _⟩) rfl 32 (.tmp 8) (.tmp 50) rfl (w.heap.size + 1) 32 (By zero32).toArray (By x).toArray rfl rfl HZ6.out (by rw [List.size_toArray, List.size_toArray, By_length, By_length, HXl.out]; rfl) HZ0.out (By_one _) ?_
      intro w8 h5 h6 h7
      have H8 := Lib.hid h5
      have Hb8 : Hid (Below w.heap.size w w8) := (nxTo Hb0.out Hr6.out).trans (h6.below (nxTo Hb0.out Hr6.out).size (fun k hk => by omega))
      have Hc8 : Hid (Below (w.heap.size + 1) w6 w8) := h6.below (by have := Hr6.out.size; have := Hs0.out; omega) (fun k hk => by omega)
      clear h5 h6 h7
      refine hK.out _ _ ⟨rng_below (rng_below HRA.out Hr6.out (by have := Hs0.out; omega)) Hc8.out (by omega), rng_below (rng_below HR.out Hr6.out (by have := Hs0.out; omega)) Hc8.out (by omega)⟩ (fun hSn => ?_)
      clear hK K
      try simp only [Act.put, List.setIfInBounds_toArray, List.set_cons_zero, List.set_cons_succ]
      refine wpAnyH_done (by kernel_rfl) ?_ _
      go_wp2
      refine bodyPost_ret (results_cell_row Tryd.results37 _ _ (w.heap.size + 1) 32 _ (0, 0) _ rfl H8.out Tryd.underlying32 rfl HZ0.out) rfl ⟨rfl, Hb8.out⟩
end Go.Proofs.YtcbdjcmjchoagaaDoor
