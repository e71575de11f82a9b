/-
  ShaParts: the walk.
-/
import Derived.Test.YtheekhogmnnkaaaDoorSPh
import Derived.Deep.RegionHeld3
namespace Go.Proofs.YtheekhogmnnkaaaDoor
open Go.RowKit

set_option maxHeartbeats 2000000 in
set_option maxRecDepth 100000 in
theorem shaParts_any (w : World) (hT : Tabs w) (i : Int) (s : S8) (blk : List UInt8) (hb : blk.length = 64) :
    Calls Tryd.prog 4 #[.int .i64 i, .agg (Wd s.list).toArray, .agg (By blk).toArray] w fun e w' => e = .returned (.bool true) ∧ Below w.heap.size w w' := by
  have HT := Lib.hid hT
  have Hb := Lib.hid hb
  clear hT hb
  obtain ⟨C, hC⟩ : ∃ C, C = kL := ⟨_, rfl⟩
  have HC := Lib.hid hC
  have HCl : Hid (C.length = 64) := by show _ = _; rw [hC, kL_length]
  have HS1 := Lib.hid (wsize C HCl.out)
  have HS2 := Lib.hid (wsize' C HCl.out)
  clear hC
  have B0 : Hid (Blk ((w.alloc (.cells (Wd s.list).toArray 35)).alloc (.cells (By blk).toArray 36)) w.heap.size 35 (Wd s.list).toArray) := (Blk.newAt rfl rfl).alloc _
  have B1 : Hid (Blk ((w.alloc (.cells (Wd s.list).toArray 35)).alloc (.cells (By blk).toArray 36)) (w.heap.size + 1) 36 (By blk).toArray) := Blk.newAt (by simp) rfl
  have Hb0 : Hid (Below w.heap.size w ((w.alloc (.cells (Wd s.list).toArray 35)).alloc (.cells (By blk).toArray 36))) := ((Below.refl _ _).alloc (Nat.le_refl _) _).alloc (by simp) _
  have heq : ∀ (r : S8) wq, (binOp .eql 35 (.agg (Wd r.list).toArray) (.agg (Wd r.list).toArray)).run Tryd.prog wq = .ok (.bool true) wq := run_eql8
  obtain ⟨r, hr⟩ : ∃ r, press s blk = r := ⟨_, rfl⟩
  have HPr := Lib.hid hr
  clear hr
  by_cases h8 : 0 ≤ i ∧ i < 8
  · obtain ⟨a, ha⟩ : ∃ a, (stOf i).toNat = a := ⟨_, rfl⟩
    obtain ⟨b, hbb⟩ : ∃ b, (coOf i).toNat = b := ⟨_, rfl⟩
    have Ha := Lib.hid ha
    have Hbb := Lib.hid hbb
    have Ha' : Hid ((start8.list.getD i.toNat 0).toNat = a) := by show _ = _; rw [← ha, stOf, if_pos h8]; rfl
    have Hb' : Hid ((C.getD i.toNat 0).toNat = b) := by show _ = _; rw [← hbb, coOf, if_pos (by omega), HC.out]
    obtain ⟨h80, h81⟩ := h8
    clear ha hbb
    go_enter Tryd.func4, Tryd.ntmps4
    go_wp2_with (first
      | (go_at_call 14; refine (rstarts_any _).mono ?_; rintro e w1 ⟨rfl, hb1⟩; have hs1 : w.heap.size + 2 ≤ w1.heap.size := (by have := hb1.size; simp only [World.size_alloc] at this; omega); have C0 := Lib.hid (B0.out.below hb1 (by simp only [World.size_alloc]; omega)); have C1 := Lib.hid (B1.out.below hb1 (by simp only [World.size_alloc]; omega)); have Hb1 := Lib.hid (Hb0.out.trans (hb1.mono Hb0.out.size)); clear hb1 B0 B1 Hb0)
      | (go_at_call 15; refine (rconsts_l _ C HC.out).mono ?_; rintro e w2 ⟨rfl, hb2⟩; have hs2 : w1.heap.size ≤ w2.heap.size := hb2.size; have D0 := Lib.hid (C0.out.below hb2 (by omega)); have D1 := Lib.hid (C1.out.below hb2 (by omega)); have Hb2 := Lib.hid (Hb1.out.trans (hb2.mono Hb1.out.size)); clear hb2 C0 C1 Hb1)
      | ((with_reducible show wpList _ _ _ (⟨none, .store 35 _ _, _, _, _, _⟩ :: _) _ _); refine wpList_store_all rfl 35 (.tmp 7) (.tmp 11) rfl w2.heap.size 35 (Wd (mixS ⟨0, 0, 0, 0, 0, 0, 0, 0⟩ s 0)).toArray (Wd start8.list).toArray rfl rfl ((Blk.newAt rfl rfl).alloc _) rfl (s8size _) (Wd_one _) ?_; intro w3 h5 h6 h7; have HA := Lib.hid h5; have HK := Lib.hid ((Blk.newAt (w := w2.alloc (.cells #[.int .u32 0, .int .u32 0, .int .u32 0, .int .u32 0, .int .u32 0, .int .u32 0, .int .u32 0, .int .u32 0] 35)) (t := 38) (cs := wArr []) (g := w2.heap.size + 1) (by simp) rfl).keeps h6 (by omega)); have b3 := (((Below.refl w2.heap.size w2).alloc (Nat.le_refl _) _).alloc (by simp) _).trans (h6.below (by simp; omega) (fun k hk => by omega)); have E0 := Lib.hid (D0.out.below b3 (by omega)); have E1 := Lib.hid (D1.out.below b3 (by omega)); have Hb3 := Lib.hid (Hb2.out.trans (b3.mono (by omega))); clear h5 h6 h7 b3 D0 D1)
      | ((with_reducible show wpList _ _ _ (⟨none, .store 38 _ _, _, _, _, _⟩ :: _) _ _); refine wpList_store_all rfl 38 (.tmp 8) (.tmp 12) rfl (w2.heap.size + 1) 38 (wArr []) (Wd C).toArray rfl rfl HK.out HS2.out HS1.out (Wd_one C) ?_; intro w4 h5 h6 h7; have HA4 := Lib.hid (HA.out.keeps h6 (by omega)); have HK4 := Lib.hid h5; have F0 := Lib.hid (E0.out.keeps h6 (by omega)); have F1 := Lib.hid (E1.out.keeps h6 (by omega)); have Hb4 := Lib.hid (Hb3.out.trans (h6.below Hb3.out.size (fun k hk => by omega))); have zA : w4.cell? ⟨w2.heap.size, i.toNat, none⟩ = some (.int .u32 (a : Int)) := (by have h := blk_word HA4.out i.toNat (by rw [start_list]; show i.toNat < 8; omega); rw [h]; exact congrArg (fun n : Nat => some (Value.int .u32 (n : Int))) Ha'.out); have zB : w4.cell? ⟨w2.heap.size + 1, i.toNat, none⟩ = some (.int .u32 (b : Int)) := (by have h := blk_word HK4.out i.toNat (by rw [HCl.out]; omega); rw [h]; exact congrArg (fun n : Nat => some (Value.int .u32 (n : Int))) Hb'.out); clear h5 h6 h7 E0 E1 Hb3 HA HK))
    clear HA4 HK4 hs1 hs2 Hb2
    have q6 := And.intro (rng_words (show Blk w4.drew _ _ _ from F0.out)) (rng_bytes (show Blk w4.drew _ _ _ from F1.out))
    have hi35 : (Tryd.prog.info? 35).map (·.size) = some (Wd s.list).length := Tryd.w8size
    have hi36 : (Tryd.prog.info? 36).map (·.size) = some (By blk).length := by rw [Tryd.b64size, By_length, Hb.out]
    refine wp_region_held_drew (S := fun W => W.rangeAt w.heap.size 0 (Wd s.list) ∧ W.rangeAt (w.heap.size + 1) 0 (By blk)) (by kernel_rfl) q6 (fun hHeld => ?_)
    refine wpAnyH_take (i := 0) (oi := ⟨_, _, _, _, _, _⟩) (v := ?_) rfl (by kernel_rfl) (by kernel_rfl) (by kernel_rfl) (fun _ _ _ h => h) (Or.inl ⟨by rfl, ?_⟩) (by assumption) ?_
    rotate_left 1
    · intro W hSw
      go_simp
      try with_reducible rfl
    try simp only [Act.put, List.setIfInBounds_toArray, List.set_cons_zero, List.set_cons_succ]
    refine wpAnyH_take (i := 2) (oi := ⟨_, _, _, _, _, _⟩) (v := ?_) rfl (by kernel_rfl) (by kernel_rfl) (by kernel_rfl) (fun _ _ _ h => h) (Or.inl ⟨by rfl, ?_⟩) (by assumption) ?_
    rotate_left 1
    · intro W hSw
      go_simp
      try with_reducible rfl
    try simp only [Act.put, List.setIfInBounds_toArray, List.set_cons_zero, List.set_cons_succ]
    refine wpAnyH_ready (rs := [1]) (by kernel_rfl) (by simp) ?_
    refine AllReadyH.cons rfl (fun K hK => ?_) AllReadyH.nil
    go_simp
    go_at_call 16
    refine (startI_any _ i).mono ?_
    rw [Ha.out]
    rintro e w7 ⟨rfl, hbn⟩
    have G0 := Lib.hid ((show Blk w4.drew _ _ _ from F0.out).below hbn (show Blk w4.drew _ _ _ from F0.out).lt)
    have G1 := Lib.hid ((show Blk w4.drew _ _ _ from F1.out).below hbn (show Blk w4.drew _ _ _ from F1.out).lt)
    have Hb7 : Hid (Below w.heap.size w w7) := (Below.drew Hb4.out).trans (hbn.mono Hb4.out.size)
    have q7 := And.intro (rng_words G0.out) (rng_bytes G1.out)
    clear hbn
    refine hK.out _ _ q7 (fun hSn => ?_)
    clear hK K
    try simp only [Act.put, List.setIfInBounds_toArray, List.set_cons_zero, List.set_cons_succ]
    refine wpAnyH_take (i := 3) (oi := ⟨_, _, _, _, _, _⟩) (v := ?_) rfl (by kernel_rfl) (by kernel_rfl) (by kernel_rfl) (fun _ _ _ h => h) (Or.inl ⟨by rfl, ?_⟩) (by assumption) ?_
    rotate_left 1
    · intro W hSw
      go_simp
      try with_reducible rfl
    try simp only [Act.put, List.setIfInBounds_toArray, List.set_cons_zero, List.set_cons_succ]
    refine wpAnyH_take (i := 4) (oi := ⟨_, _, _, _, _, _⟩) (v := ?_) rfl (by kernel_rfl) (by kernel_rfl) (by kernel_rfl) (fun _ _ _ h => h) (Or.inl ⟨by rfl, ?_⟩) (by assumption) ?_
    rotate_left 1
    · intro W hSw
      go_simp
      try with_reducible rfl
    try simp only [Act.put, List.setIfInBounds_toArray, List.set_cons_zero, List.set_cons_succ]
    refine wpAnyH_take (i := 5) (oi := ⟨_, _, _, _, _, _⟩) (v := ?_) rfl (by kernel_rfl) (by kernel_rfl) (by kernel_rfl) (fun _ _ _ h => h) (Or.inl ⟨by rfl, ?_⟩) (by assumption) ?_
    rotate_left 1
    · intro W hSw
      go_simp
      try with_reducible rfl
    try simp only [Act.put, List.setIfInBounds_toArray, List.set_cons_zero, List.set_cons_succ]
    refine wpAnyH_take (i := 7) (oi := ⟨_, _, _, _, _, _⟩) (v := ?_) rfl (by kernel_rfl) (by kernel_rfl) (by kernel_rfl) (fun _ _ _ h => h) (Or.inl ⟨by rfl, ?_⟩) (by assumption) ?_
    rotate_left 1
    · intro W hSw
      go_simp
      try with_reducible rfl
    try simp only [Act.put, List.setIfInBounds_toArray, List.set_cons_zero, List.set_cons_succ]
    refine wpAnyH_ready (rs := [6]) (by kernel_rfl) (by simp) ?_
    refine AllReadyH.cons rfl (fun K hK => ?_) AllReadyH.nil
    go_simp
    go_at_call 17
    refine (constI_any _ i).mono ?_
    rw [Hbb.out]
    rintro e w8 ⟨rfl, hbn⟩
    have I0 := Lib.hid (G0.out.below hbn G0.out.lt)
    have I1 := Lib.hid (G1.out.below hbn G1.out.lt)
    have Hb8 : Hid (Below w.heap.size w w8) := Hb7.out.trans (hbn.mono Hb7.out.size)
    have q8 := And.intro (rng_words I0.out) (rng_bytes I1.out)
    clear hbn
    refine hK.out _ _ q8 (fun hSn => ?_)
    clear hK K
    try simp only [Act.put, List.setIfInBounds_toArray, List.set_cons_zero, List.set_cons_succ]
    refine wpAnyH_take (i := 8) (oi := ⟨_, _, _, _, _, _⟩) (v := ?_) rfl (by kernel_rfl) (by kernel_rfl) (by kernel_rfl) (fun _ _ _ h => h) (Or.inl ⟨by rfl, ?_⟩) (by assumption) ?_
    rotate_left 1
    · intro W hSw
      go_simp
      try with_reducible rfl
    try simp only [Act.put, List.setIfInBounds_toArray, List.set_cons_zero, List.set_cons_succ]
    refine wpAnyH_take (i := 9) (oi := ⟨_, _, _, _, _, _⟩) (v := ?_) rfl (by kernel_rfl) (by kernel_rfl) (by kernel_rfl) (fun _ _ _ h => h) (Or.inl ⟨by rfl, ?_⟩) (by assumption) ?_
    rotate_left 1
    · intro W hSw
      go_simp
      try with_reducible rfl
    try simp only [Act.put, List.setIfInBounds_toArray, List.set_cons_zero, List.set_cons_succ]
    refine wpAnyH_take (i := 10) (oi := ⟨_, _, _, _, _, _⟩) (v := ?_) rfl (by kernel_rfl) (by kernel_rfl) (by kernel_rfl) (fun _ _ _ h => h) (Or.inl ⟨by rfl, ?_⟩) (by assumption) ?_
    rotate_left 1
    · intro W hSw
      go_simp
      try with_reducible rfl
    try simp only [Act.put, List.setIfInBounds_toArray, List.set_cons_zero, List.set_cons_succ]
    refine wpAnyH_take (i := 11) (oi := ⟨_, _, _, _, _, _⟩) (v := .agg (Wd s.list).toArray) rfl (by kernel_rfl) (by kernel_rfl) (by kernel_rfl) (fun _ _ _ h => h) (yieldsIf_load_mid (by rfl) 35 (.tmp 4) rfl (w.heap.size) 0 rfl (Wd s.list) _ (fun W h => h.1) Tryd.underlying35 rfl hi35) (by assumption) ?_
    try simp only [Act.put, List.setIfInBounds_toArray, List.set_cons_zero, List.set_cons_succ]
    refine wpAnyH_take (i := 12) (oi := ⟨_, _, _, _, _, _⟩) (v := .agg (By blk).toArray) rfl (by kernel_rfl) (by kernel_rfl) (by kernel_rfl) (fun _ _ _ h => h) (yieldsIf_load_mid (by rfl) 36 (.tmp 5) rfl (w.heap.size + 1) 0 rfl (By blk) _ (fun W h => h.2) Tryd.underlying36 rfl hi36) (by assumption) ?_
    try simp only [Act.put, List.setIfInBounds_toArray, List.set_cons_zero, List.set_cons_succ]
    refine wpAnyH_take (i := 14) (oi := ⟨_, _, _, _, _, _⟩) (v := .agg (Wd s.list).toArray) rfl (by kernel_rfl) (by kernel_rfl) (by kernel_rfl) (fun _ _ _ h => h) (yieldsIf_load_mid (by rfl) 35 (.tmp 4) rfl (w.heap.size) 0 rfl (Wd s.list) _ (fun W h => h.1) Tryd.underlying35 rfl hi35) (by assumption) ?_
    try simp only [Act.put, List.setIfInBounds_toArray, List.set_cons_zero, List.set_cons_succ]
    refine wpAnyH_take (i := 15) (oi := ⟨_, _, _, _, _, _⟩) (v := .agg (By blk).toArray) rfl (by kernel_rfl) (by kernel_rfl) (by kernel_rfl) (fun _ _ _ h => h) (yieldsIf_load_mid (by rfl) 36 (.tmp 5) rfl (w.heap.size + 1) 0 rfl (By blk) _ (fun W h => h.2) Tryd.underlying36 rfl hi36) (by assumption) ?_
    try simp only [Act.put, List.setIfInBounds_toArray, List.set_cons_zero, List.set_cons_succ]
    refine wpAnyH_ready (rs := [13]) (by kernel_rfl) (by simp) ?_
    refine AllReadyH.cons rfl (fun K hK => ?_) AllReadyH.nil
    go_simp
    go_at_call 18
    refine (press_any _ (HT.out.later Hb8.out) s blk Hb.out).mono ?_
    rw [HPr.out]
    rintro e w9 ⟨rfl, hbn⟩
    have J0 := Lib.hid (I0.out.below hbn I0.out.lt)
    have J1 := Lib.hid (I1.out.below hbn I1.out.lt)
    have Hb9 : Hid (Below w.heap.size w w9) := Hb8.out.trans (hbn.mono Hb8.out.size)
    have q9 := And.intro (rng_words J0.out) (rng_bytes J1.out)
    clear hbn
    refine hK.out _ _ q9 (fun hSn => ?_)
    clear hK K
    try simp only [Act.put, List.setIfInBounds_toArray, List.set_cons_zero, List.set_cons_succ]
    refine wpAnyH_ready (rs := [16]) (by kernel_rfl) (by simp) ?_
    refine AllReadyH.cons rfl (fun K hK => ?_) AllReadyH.nil
    go_simp
    go_at_call 19
    refine (rpress_any _ s blk Hb.out).mono ?_
    rw [HPr.out]
    rintro e w10 ⟨rfl, hbn⟩
    have K0 := Lib.hid (J0.out.below hbn J0.out.lt)
    have K1 := Lib.hid (J1.out.below hbn J1.out.lt)
    have Hb10 : Hid (Below w.heap.size w w10) := Hb9.out.trans (hbn.mono Hb9.out.size)
    have q10 := And.intro (rng_words K0.out) (rng_bytes K1.out)
    clear hbn
    refine hK.out _ _ q10 (fun hSn => ?_)
    clear hK K
    try simp only [Act.put, List.setIfInBounds_toArray, List.set_cons_zero, List.set_cons_succ]
    refine wpAnyH_take (i := 17) (oi := ⟨_, _, _, _, _, _⟩) (v := ?_) rfl (by kernel_rfl) (by kernel_rfl) (by kernel_rfl) (fun _ _ _ h => h) (Or.inl ⟨by rfl, ?_⟩) (by assumption) ?_
    rotate_left 1
    · intro W hSw
      go_simp
      try with_reducible rfl
    try simp only [Act.put, List.setIfInBounds_toArray, List.set_cons_zero, List.set_cons_succ]
    refine wpAnyH_take (i := 18) (oi := ⟨_, _, _, _, _, _⟩) (v := ?_) rfl (by kernel_rfl) (by kernel_rfl) (by kernel_rfl) (fun _ _ _ h => h) (Or.inl ⟨by rfl, ?_⟩) (by assumption) ?_
    rotate_left 1
    · intro W hSw
      go_simp
      try with_reducible rfl
    try simp only [Act.put, List.setIfInBounds_toArray, List.set_cons_zero, List.set_cons_succ]
    refine wpAnyH_take (i := 19) (oi := ⟨_, _, _, _, _, _⟩) (v := ?_) rfl (by kernel_rfl) (by kernel_rfl) (by kernel_rfl) (fun _ _ _ h => h) (Or.inl ⟨by rfl, ?_⟩) (by assumption) ?_
    rotate_left 1
    · intro W hSw
      go_simp
      try with_reducible rfl
    try simp only [Act.put, List.setIfInBounds_toArray, List.set_cons_zero, List.set_cons_succ]
    refine wpAnyH_ready (rs := [20]) (by kernel_rfl) (by simp) ?_
    refine AllReadyH.cons rfl (fun K hK => ?_) AllReadyH.nil
    go_simp
    go_at_call 8
    refine (known_any _ (HT.out.later Hb10.out)).mono ?_
    rintro e w11 ⟨rfl, hbn⟩
    have M0 := Lib.hid (K0.out.below hbn K0.out.lt)
    have M1 := Lib.hid (K1.out.below hbn K1.out.lt)
    have Hb11 : Hid (Below w.heap.size w w11) := Hb10.out.trans (hbn.mono Hb10.out.size)
    have q11 := And.intro (rng_words M0.out) (rng_bytes M1.out)
    clear hbn
    refine hK.out _ _ q11 (fun hSn => ?_)
    clear hK K
    try simp only [Act.put, List.setIfInBounds_toArray, List.set_cons_zero, List.set_cons_succ]
    refine wpAnyH_take (i := 21) (oi := ⟨_, _, _, _, _, _⟩) (v := ?_) rfl (by kernel_rfl) (by kernel_rfl) (by kernel_rfl) (fun _ _ _ h => h) (Or.inl ⟨by rfl, ?_⟩) (by assumption) ?_
    rotate_left 1
    · intro W hSw
      go_simp
      try with_reducible rfl
    try simp only [Act.put, List.setIfInBounds_toArray, List.set_cons_zero, List.set_cons_succ]
    refine wpAnyH_take (i := 22) (oi := ⟨_, _, _, _, _, _⟩) (v := ?_) rfl (by kernel_rfl) (by kernel_rfl) (by kernel_rfl) (fun _ _ _ h => h) (Or.inl ⟨by rfl, ?_⟩) (by assumption) ?_
    rotate_left 1
    · intro W hSw
      go_simp
      try with_reducible rfl
    try simp only [Act.put, List.setIfInBounds_toArray, List.set_cons_zero, List.set_cons_succ]
    refine wpAnyH_done (by kernel_rfl) ?_ _
    go_wp2
    go_ret
    exact ⟨rfl, Hb11.out⟩
  · have Ha : Hid ((stOf i).toNat = 0) := by show _ = _; rw [stOf, if_neg h8]; rfl
    by_cases h64 : 0 ≤ i ∧ i < 64
    · obtain ⟨b, hbb⟩ : ∃ b, (coOf i).toNat = b := ⟨_, rfl⟩
      have Hbb := Lib.hid hbb
      have Hb' : Hid ((C.getD i.toNat 0).toNat = b) := by show _ = _; rw [← hbb, coOf, if_pos h64, HC.out]
      have h81 : 8 ≤ i := by omega
      obtain ⟨h640, h641⟩ := h64
      clear hbb h8
      go_enter Tryd.func4, Tryd.ntmps4
      go_wp2_with (first
        | (go_at_call 14; refine (rstarts_any _).mono ?_; rintro e w1 ⟨rfl, hb1⟩; have hs1 : w.heap.size + 2 ≤ w1.heap.size := (by have := hb1.size; simp only [World.size_alloc] at this; omega); have C0 := Lib.hid (B0.out.below hb1 (by simp only [World.size_alloc]; omega)); have C1 := Lib.hid (B1.out.below hb1 (by simp only [World.size_alloc]; omega)); have Hb1 := Lib.hid (Hb0.out.trans (hb1.mono Hb0.out.size)); clear hb1 B0 B1 Hb0)
        | (go_at_call 15; refine (rconsts_l _ C HC.out).mono ?_; rintro e w2 ⟨rfl, hb2⟩; have hs2 : w1.heap.size ≤ w2.heap.size := hb2.size; have D0 := Lib.hid (C0.out.below hb2 (by omega)); have D1 := Lib.hid (C1.out.below hb2 (by omega)); have Hb2 := Lib.hid (Hb1.out.trans (hb2.mono Hb1.out.size)); clear hb2 C0 C1 Hb1)
        | ((with_reducible show wpList _ _ _ (⟨none, .store 35 _ _, _, _, _, _⟩ :: _) _ _); refine wpList_store_all rfl 35 (.tmp 7) (.tmp 11) rfl w2.heap.size 35 (Wd (mixS ⟨0, 0, 0, 0, 0, 0, 0, 0⟩ s 0)).toArray (Wd start8.list).toArray rfl rfl ((Blk.newAt rfl rfl).alloc _) rfl (s8size _) (Wd_one _) ?_; intro w3 h5 h6 h7; have HA := Lib.hid h5; have HK := Lib.hid ((Blk.newAt (w := w2.alloc (.cells #[.int .u32 0, .int .u32 0, .int .u32 0, .int .u32 0, .int .u32 0, .int .u32 0, .int .u32 0, .int .u32 0] 35)) (t := 38) (cs := wArr []) (g := w2.heap.size + 1) (by simp) rfl).keeps h6 (by omega)); have b3 := (((Below.refl w2.heap.size w2).alloc (Nat.le_refl _) _).alloc (by simp) _).trans (h6.below (by simp; omega) (fun k hk => by omega)); have E0 := Lib.hid (D0.out.below b3 (by omega)); have E1 := Lib.hid (D1.out.below b3 (by omega)); have Hb3 := Lib.hid (Hb2.out.trans (b3.mono (by omega))); clear h5 h6 h7 b3 D0 D1)
        | ((with_reducible show wpList _ _ _ (⟨none, .store 38 _ _, _, _, _, _⟩ :: _) _ _); refine wpList_store_all rfl 38 (.tmp 8) (.tmp 12) rfl (w2.heap.size + 1) 38 (wArr []) (Wd C).toArray rfl rfl HK.out HS2.out HS1.out (Wd_one C) ?_; intro w4 h5 h6 h7; have HA4 := Lib.hid (HA.out.keeps h6 (by omega)); have HK4 := Lib.hid h5; have F0 := Lib.hid (E0.out.keeps h6 (by omega)); have F1 := Lib.hid (E1.out.keeps h6 (by omega)); have Hb4 := Lib.hid (Hb3.out.trans (h6.below Hb3.out.size (fun k hk => by omega))); have zB : w4.cell? ⟨w2.heap.size + 1, i.toNat, none⟩ = some (.int .u32 (b : Int)) := (by have h := blk_word HK4.out i.toNat (by rw [HCl.out]; omega); rw [h]; exact congrArg (fun n : Nat => some (Value.int .u32 (n : Int))) Hb'.out); clear h5 h6 h7 E0 E1 Hb3 HA HK))
      clear HA4 HK4 hs1 hs2 Hb2
      have q6 := And.intro (rng_words (show Blk w4.drew _ _ _ from F0.out)) (rng_bytes (show Blk w4.drew _ _ _ from F1.out))
      have hi35 : (Tryd.prog.info? 35).map (·.size) = some (Wd s.list).length := Tryd.w8size
      have hi36 : (Tryd.prog.info? 36).map (·.size) = some (By blk).length := by rw [Tryd.b64size, By_length, Hb.out]
      refine wp_region_held_drew (S := fun W => W.rangeAt w.heap.size 0 (Wd s.list) ∧ W.rangeAt (w.heap.size + 1) 0 (By blk)) (by kernel_rfl) q6 (fun hHeld => ?_)
      refine wpAnyH_take (i := 0) (oi := ⟨_, _, _, _, _, _⟩) (v := ?_) rfl (by kernel_rfl) (by kernel_rfl) (by kernel_rfl) (fun _ _ _ h => h) (Or.inl ⟨by rfl, ?_⟩) (by assumption) ?_
      rotate_left 1
      · intro W hSw
        go_simp
        try with_reducible rfl
      try simp only [Act.put, List.setIfInBounds_toArray, List.set_cons_zero, List.set_cons_succ]
      refine wpAnyH_take (i := 2) (oi := ⟨_, _, _, _, _, _⟩) (v := ?_) rfl (by kernel_rfl) (by kernel_rfl) (by kernel_rfl) (fun _ _ _ h => h) (Or.inl ⟨by rfl, ?_⟩) (by assumption) ?_
      rotate_left 1
      · intro W hSw
        go_simp
        try with_reducible rfl
      try simp only [Act.put, List.setIfInBounds_toArray, List.set_cons_zero, List.set_cons_succ]
      refine wpAnyH_ready (rs := [1]) (by kernel_rfl) (by simp) ?_
      refine AllReadyH.cons rfl (fun K hK => ?_) AllReadyH.nil
      go_simp
      go_at_call 16
      refine (startI_any _ i).mono ?_
      rw [Ha.out]
      rintro e w7 ⟨rfl, hbn⟩
      have G0 := Lib.hid ((show Blk w4.drew _ _ _ from F0.out).below hbn (show Blk w4.drew _ _ _ from F0.out).lt)
      have G1 := Lib.hid ((show Blk w4.drew _ _ _ from F1.out).below hbn (show Blk w4.drew _ _ _ from F1.out).lt)
      have Hb7 : Hid (Below w.heap.size w w7) := (Below.drew Hb4.out).trans (hbn.mono Hb4.out.size)
      have q7 := And.intro (rng_words G0.out) (rng_bytes G1.out)
      clear hbn
      refine hK.out _ _ q7 (fun hSn => ?_)
      clear hK K
      try simp only [Act.put, List.setIfInBounds_toArray, List.set_cons_zero, List.set_cons_succ]
      refine wpAnyH_take (i := 3) (oi := ⟨_, _, _, _, _, _⟩) (v := ?_) rfl (by kernel_rfl) (by kernel_rfl) (by kernel_rfl) (fun _ _ _ h => h) (Or.inl ⟨by rfl, ?_⟩) (by assumption) ?_
      rotate_left 1
      · intro W hSw
        go_simp
        try with_reducible rfl
      try simp only [Act.put, List.setIfInBounds_toArray, List.set_cons_zero, List.set_cons_succ]
      refine wpAnyH_take (i := 4) (oi := ⟨_, _, _, _, _, _⟩) (v := ?_) rfl (by kernel_rfl) (by kernel_rfl) (by kernel_rfl) (fun _ _ _ h => h) (Or.inl ⟨by rfl, ?_⟩) (by assumption) ?_
      rotate_left 1
      · intro W hSw
        go_simp
        try with_reducible rfl
      try simp only [Act.put, List.setIfInBounds_toArray, List.set_cons_zero, List.set_cons_succ]
      refine wpAnyH_take (i := 5) (oi := ⟨_, _, _, _, _, _⟩) (v := ?_) rfl (by kernel_rfl) (by kernel_rfl) (by kernel_rfl) (fun _ _ _ h => h) (Or.inl ⟨by rfl, ?_⟩) (by assumption) ?_
      rotate_left 1
      · intro W hSw
        go_simp
        try with_reducible rfl
      try simp only [Act.put, List.setIfInBounds_toArray, List.set_cons_zero, List.set_cons_succ]
      refine wpAnyH_take (i := 7) (oi := ⟨_, _, _, _, _, _⟩) (v := ?_) rfl (by kernel_rfl) (by kernel_rfl) (by kernel_rfl) (fun _ _ _ h => h) (Or.inl ⟨by rfl, ?_⟩) (by assumption) ?_
      rotate_left 1
      · intro W hSw
        go_simp
        try with_reducible rfl
      try simp only [Act.put, List.setIfInBounds_toArray, List.set_cons_zero, List.set_cons_succ]
      refine wpAnyH_ready (rs := [6]) (by kernel_rfl) (by simp) ?_
      refine AllReadyH.cons rfl (fun K hK => ?_) AllReadyH.nil
      go_simp
      go_at_call 17
      refine (constI_any _ i).mono ?_
      rw [Hbb.out]
      rintro e w8 ⟨rfl, hbn⟩
      have I0 := Lib.hid (G0.out.below hbn G0.out.lt)
      have I1 := Lib.hid (G1.out.below hbn G1.out.lt)
      have Hb8 : Hid (Below w.heap.size w w8) := Hb7.out.trans (hbn.mono Hb7.out.size)
      have q8 := And.intro (rng_words I0.out) (rng_bytes I1.out)
      clear hbn
      refine hK.out _ _ q8 (fun hSn => ?_)
      clear hK K
      try simp only [Act.put, List.setIfInBounds_toArray, List.set_cons_zero, List.set_cons_succ]
      refine wpAnyH_take (i := 8) (oi := ⟨_, _, _, _, _, _⟩) (v := ?_) rfl (by kernel_rfl) (by kernel_rfl) (by kernel_rfl) (fun _ _ _ h => h) (Or.inl ⟨by rfl, ?_⟩) (by assumption) ?_
      rotate_left 1
      · intro W hSw
        go_simp
        try with_reducible rfl
      try simp only [Act.put, List.setIfInBounds_toArray, List.set_cons_zero, List.set_cons_succ]
      refine wpAnyH_take (i := 9) (oi := ⟨_, _, _, _, _, _⟩) (v := ?_) rfl (by kernel_rfl) (by kernel_rfl) (by kernel_rfl) (fun _ _ _ h => h) (Or.inl ⟨by rfl, ?_⟩) (by assumption) ?_
      rotate_left 1
      · intro W hSw
        go_simp
        try with_reducible rfl
      try simp only [Act.put, List.setIfInBounds_toArray, List.set_cons_zero, List.set_cons_succ]
      refine wpAnyH_take (i := 10) (oi := ⟨_, _, _, _, _, _⟩) (v := ?_) rfl (by kernel_rfl) (by kernel_rfl) (by kernel_rfl) (fun _ _ _ h => h) (Or.inl ⟨by rfl, ?_⟩) (by assumption) ?_
      rotate_left 1
      · intro W hSw
        go_simp
        try with_reducible rfl
      try simp only [Act.put, List.setIfInBounds_toArray, List.set_cons_zero, List.set_cons_succ]
      refine wpAnyH_take (i := 11) (oi := ⟨_, _, _, _, _, _⟩) (v := .agg (Wd s.list).toArray) rfl (by kernel_rfl) (by kernel_rfl) (by kernel_rfl) (fun _ _ _ h => h) (yieldsIf_load_mid (by rfl) 35 (.tmp 4) rfl (w.heap.size) 0 rfl (Wd s.list) _ (fun W h => h.1) Tryd.underlying35 rfl hi35) (by assumption) ?_
      try simp only [Act.put, List.setIfInBounds_toArray, List.set_cons_zero, List.set_cons_succ]
      refine wpAnyH_take (i := 12) (oi := ⟨_, _, _, _, _, _⟩) (v := .agg (By blk).toArray) rfl (by kernel_rfl) (by kernel_rfl) (by kernel_rfl) (fun _ _ _ h => h) (yieldsIf_load_mid (by rfl) 36 (.tmp 5) rfl (w.heap.size + 1) 0 rfl (By blk) _ (fun W h => h.2) Tryd.underlying36 rfl hi36) (by assumption) ?_
      try simp only [Act.put, List.setIfInBounds_toArray, List.set_cons_zero, List.set_cons_succ]
      refine wpAnyH_take (i := 14) (oi := ⟨_, _, _, _, _, _⟩) (v := .agg (Wd s.list).toArray) rfl (by kernel_rfl) (by kernel_rfl) (by kernel_rfl) (fun _ _ _ h => h) (yieldsIf_load_mid (by rfl) 35 (.tmp 4) rfl (w.heap.size) 0 rfl (Wd s.list) _ (fun W h => h.1) Tryd.underlying35 rfl hi35) (by assumption) ?_
      try simp only [Act.put, List.setIfInBounds_toArray, List.set_cons_zero, List.set_cons_succ]
      refine wpAnyH_take (i := 15) (oi := ⟨_, _, _, _, _, _⟩) (v := .agg (By blk).toArray) rfl (by kernel_rfl) (by kernel_rfl) (by kernel_rfl) (fun _ _ _ h => h) (yieldsIf_load_mid (by rfl) 36 (.tmp 5) rfl (w.heap.size + 1) 0 rfl (By blk) _ (fun W h => h.2) Tryd.underlying36 rfl hi36) (by assumption) ?_
      try simp only [Act.put, List.setIfInBounds_toArray, List.set_cons_zero, List.set_cons_succ]
      refine wpAnyH_ready (rs := [13]) (by kernel_rfl) (by simp) ?_
      refine AllReadyH.cons rfl (fun K hK => ?_) AllReadyH.nil
      go_simp
      go_at_call 18
      refine (press_any _ (HT.out.later Hb8.out) s blk Hb.out).mono ?_
      rw [HPr.out]
      rintro e w9 ⟨rfl, hbn⟩
      have J0 := Lib.hid (I0.out.below hbn I0.out.lt)
      have J1 := Lib.hid (I1.out.below hbn I1.out.lt)
      have Hb9 : Hid (Below w.heap.size w w9) := Hb8.out.trans (hbn.mono Hb8.out.size)
      have q9 := And.intro (rng_words J0.out) (rng_bytes J1.out)
      clear hbn
      refine hK.out _ _ q9 (fun hSn => ?_)
      clear hK K
      try simp only [Act.put, List.setIfInBounds_toArray, List.set_cons_zero, List.set_cons_succ]
      refine wpAnyH_ready (rs := [16]) (by kernel_rfl) (by simp) ?_
      refine AllReadyH.cons rfl (fun K hK => ?_) AllReadyH.nil
      go_simp
      go_at_call 19
      refine (rpress_any _ s blk Hb.out).mono ?_
      rw [HPr.out]
      rintro e w10 ⟨rfl, hbn⟩
      have K0 := Lib.hid (J0.out.below hbn J0.out.lt)
      have K1 := Lib.hid (J1.out.below hbn J1.out.lt)
      have Hb10 : Hid (Below w.heap.size w w10) := Hb9.out.trans (hbn.mono Hb9.out.size)
      have q10 := And.intro (rng_words K0.out) (rng_bytes K1.out)
      clear hbn
      refine hK.out _ _ q10 (fun hSn => ?_)
      clear hK K
      try simp only [Act.put, List.setIfInBounds_toArray, List.set_cons_zero, List.set_cons_succ]
      refine wpAnyH_take (i := 17) (oi := ⟨_, _, _, _, _, _⟩) (v := ?_) rfl (by kernel_rfl) (by kernel_rfl) (by kernel_rfl) (fun _ _ _ h => h) (Or.inl ⟨by rfl, ?_⟩) (by assumption) ?_
      rotate_left 1
      · intro W hSw
        go_simp
        try with_reducible rfl
      try simp only [Act.put, List.setIfInBounds_toArray, List.set_cons_zero, List.set_cons_succ]
      refine wpAnyH_take (i := 18) (oi := ⟨_, _, _, _, _, _⟩) (v := ?_) rfl (by kernel_rfl) (by kernel_rfl) (by kernel_rfl) (fun _ _ _ h => h) (Or.inl ⟨by rfl, ?_⟩) (by assumption) ?_
      rotate_left 1
      · intro W hSw
        go_simp
        try with_reducible rfl
      try simp only [Act.put, List.setIfInBounds_toArray, List.set_cons_zero, List.set_cons_succ]
      refine wpAnyH_take (i := 19) (oi := ⟨_, _, _, _, _, _⟩) (v := ?_) rfl (by kernel_rfl) (by kernel_rfl) (by kernel_rfl) (fun _ _ _ h => h) (Or.inl ⟨by rfl, ?_⟩) (by assumption) ?_
      rotate_left 1
      · intro W hSw
        go_simp
        try with_reducible rfl
      try simp only [Act.put, List.setIfInBounds_toArray, List.set_cons_zero, List.set_cons_succ]
      refine wpAnyH_ready (rs := [20]) (by kernel_rfl) (by simp) ?_
      refine AllReadyH.cons rfl (fun K hK => ?_) AllReadyH.nil
      go_simp
      go_at_call 8
      refine (known_any _ (HT.out.later Hb10.out)).mono ?_
      rintro e w11 ⟨rfl, hbn⟩
      have M0 := Lib.hid (K0.out.below hbn K0.out.lt)
      have M1 := Lib.hid (K1.out.below hbn K1.out.lt)
      have Hb11 : Hid (Below w.heap.size w w11) := Hb10.out.trans (hbn.mono Hb10.out.size)
      have q11 := And.intro (rng_words M0.out) (rng_bytes M1.out)
      clear hbn
      refine hK.out _ _ q11 (fun hSn => ?_)
      clear hK K
      try simp only [Act.put, List.setIfInBounds_toArray, List.set_cons_zero, List.set_cons_succ]
      refine wpAnyH_take (i := 21) (oi := ⟨_, _, _, _, _, _⟩) (v := ?_) rfl (by kernel_rfl) (by kernel_rfl) (by kernel_rfl) (fun _ _ _ h => h) (Or.inl ⟨by rfl, ?_⟩) (by assumption) ?_
      rotate_left 1
      · intro W hSw
        go_simp
        try with_reducible rfl
      try simp only [Act.put, List.setIfInBounds_toArray, List.set_cons_zero, List.set_cons_succ]
      refine wpAnyH_take (i := 22) (oi := ⟨_, _, _, _, _, _⟩) (v := ?_) rfl (by kernel_rfl) (by kernel_rfl) (by kernel_rfl) (fun _ _ _ h => h) (Or.inl ⟨by rfl, ?_⟩) (by assumption) ?_
      rotate_left 1
      · intro W hSw
        go_simp
        try with_reducible rfl
      try simp only [Act.put, List.setIfInBounds_toArray, List.set_cons_zero, List.set_cons_succ]
      refine wpAnyH_done (by kernel_rfl) ?_ _
      go_wp2
      go_ret
      exact ⟨rfl, Hb11.out⟩

    · have Hbb : Hid ((coOf i).toNat = 0) := by show _ = _; rw [coOf, if_neg h64]; rfl
      have hcase : i < 0 ∨ 64 ≤ i := by omega
      clear h8 h64
      rcases hcase with hcase | hcase
      all_goals
        go_enter Tryd.func4, Tryd.ntmps4
        go_wp2_with (first
          | (go_at_call 14; refine (rstarts_any _).mono ?_; rintro e w1 ⟨rfl, hb1⟩; have hs1 : w.heap.size + 2 ≤ w1.heap.size := (by have := hb1.size; simp only [World.size_alloc] at this; omega); have C0 := Lib.hid (B0.out.below hb1 (by simp only [World.size_alloc]; omega)); have C1 := Lib.hid (B1.out.below hb1 (by simp only [World.size_alloc]; omega)); have Hb1 := Lib.hid (Hb0.out.trans (hb1.mono Hb0.out.size)); clear hb1 B0 B1 Hb0)
          | (go_at_call 15; refine (rconsts_l _ C HC.out).mono ?_; rintro e w2 ⟨rfl, hb2⟩; have hs2 : w1.heap.size ≤ w2.heap.size := hb2.size; have D0 := Lib.hid (C0.out.below hb2 (by omega)); have D1 := Lib.hid (C1.out.below hb2 (by omega)); have Hb2 := Lib.hid (Hb1.out.trans (hb2.mono Hb1.out.size)); clear hb2 C0 C1 Hb1)
          | ((with_reducible show wpList _ _ _ (⟨none, .store 35 _ _, _, _, _, _⟩ :: _) _ _); refine wpList_store_all rfl 35 (.tmp 7) (.tmp 11) rfl w2.heap.size 35 (Wd (mixS ⟨0, 0, 0, 0, 0, 0, 0, 0⟩ s 0)).toArray (Wd start8.list).toArray rfl rfl ((Blk.newAt rfl rfl).alloc _) rfl (s8size _) (Wd_one _) ?_; intro w3 h5 h6 h7; have HA := Lib.hid h5; have HK := Lib.hid ((Blk.newAt (w := w2.alloc (.cells #[.int .u32 0, .int .u32 0, .int .u32 0, .int .u32 0, .int .u32 0, .int .u32 0, .int .u32 0, .int .u32 0] 35)) (t := 38) (cs := wArr []) (g := w2.heap.size + 1) (by simp) rfl).keeps h6 (by omega)); have b3 := (((Below.refl w2.heap.size w2).alloc (Nat.le_refl _) _).alloc (by simp) _).trans (h6.below (by simp; omega) (fun k hk => by omega)); have E0 := Lib.hid (D0.out.below b3 (by omega)); have E1 := Lib.hid (D1.out.below b3 (by omega)); have Hb3 := Lib.hid (Hb2.out.trans (b3.mono (by omega))); clear h5 h6 h7 b3 D0 D1)
          | ((with_reducible show wpList _ _ _ (⟨none, .store 38 _ _, _, _, _, _⟩ :: _) _ _); refine wpList_store_all rfl 38 (.tmp 8) (.tmp 12) rfl (w2.heap.size + 1) 38 (wArr []) (Wd C).toArray rfl rfl HK.out HS2.out HS1.out (Wd_one C) ?_; intro w4 h5 h6 h7; have HA4 := Lib.hid (HA.out.keeps h6 (by omega)); have HK4 := Lib.hid h5; have F0 := Lib.hid (E0.out.keeps h6 (by omega)); have F1 := Lib.hid (E1.out.keeps h6 (by omega)); have Hb4 := Lib.hid (Hb3.out.trans (h6.below Hb3.out.size (fun k hk => by omega))); clear h5 h6 h7 E0 E1 Hb3 HA HK))
        clear HA4 HK4 hs1 hs2 Hb2
        have q6 := And.intro (rng_words (show Blk w4.drew _ _ _ from F0.out)) (rng_bytes (show Blk w4.drew _ _ _ from F1.out))
        have hi35 : (Tryd.prog.info? 35).map (·.size) = some (Wd s.list).length := Tryd.w8size
        have hi36 : (Tryd.prog.info? 36).map (·.size) = some (By blk).length := by rw [Tryd.b64size, By_length, Hb.out]
        refine wp_region_held_drew (S := fun W => W.rangeAt w.heap.size 0 (Wd s.list) ∧ W.rangeAt (w.heap.size + 1) 0 (By blk)) (by kernel_rfl) q6 (fun hHeld => ?_)
        refine wpAnyH_take (i := 0) (oi := ⟨_, _, _, _, _, _⟩) (v := ?_) rfl (by kernel_rfl) (by kernel_rfl) (by kernel_rfl) (fun _ _ _ h => h) (Or.inl ⟨by rfl, ?_⟩) (by assumption) ?_
        rotate_left 1
        · intro W hSw
          go_simp
          try with_reducible rfl
        try simp only [Act.put, List.setIfInBounds_toArray, List.set_cons_zero, List.set_cons_succ]
        refine wpAnyH_take (i := 2) (oi := ⟨_, _, _, _, _, _⟩) (v := ?_) rfl (by kernel_rfl) (by kernel_rfl) (by kernel_rfl) (fun _ _ _ h => h) (Or.inl ⟨by rfl, ?_⟩) (by assumption) ?_
        rotate_left 1
        · intro W hSw
          go_simp
          try with_reducible rfl
        try simp only [Act.put, List.setIfInBounds_toArray, List.set_cons_zero, List.set_cons_succ]
        refine wpAnyH_ready (rs := [1]) (by kernel_rfl) (by simp) ?_
        refine AllReadyH.cons rfl (fun K hK => ?_) AllReadyH.nil
        go_simp
        go_at_call 16
        refine (startI_any _ i).mono ?_
        rw [Ha.out]
        rintro e w7 ⟨rfl, hbn⟩
        have G0 := Lib.hid ((show Blk w4.drew _ _ _ from F0.out).below hbn (show Blk w4.drew _ _ _ from F0.out).lt)
        have G1 := Lib.hid ((show Blk w4.drew _ _ _ from F1.out).below hbn (show Blk w4.drew _ _ _ from F1.out).lt)
        have Hb7 : Hid (Below w.heap.size w w7) := (Below.drew Hb4.out).trans (hbn.mono Hb4.out.size)
        have q7 := And.intro (rng_words G0.out) (rng_bytes G1.out)
        clear hbn
        refine hK.out _ _ q7 (fun hSn => ?_)
        clear hK K
        try simp only [Act.put, List.setIfInBounds_toArray, List.set_cons_zero, List.set_cons_succ]
        refine wpAnyH_take (i := 3) (oi := ⟨_, _, _, _, _, _⟩) (v := ?_) rfl (by kernel_rfl) (by kernel_rfl) (by kernel_rfl) (fun _ _ _ h => h) (Or.inl ⟨by rfl, ?_⟩) (by assumption) ?_
        rotate_left 1
        · intro W hSw
          go_simp
          try with_reducible rfl
        try simp only [Act.put, List.setIfInBounds_toArray, List.set_cons_zero, List.set_cons_succ]
        refine wpAnyH_take (i := 4) (oi := ⟨_, _, _, _, _, _⟩) (v := ?_) rfl (by kernel_rfl) (by kernel_rfl) (by kernel_rfl) (fun _ _ _ h => h) (Or.inl ⟨by rfl, ?_⟩) (by assumption) ?_
        rotate_left 1
        · intro W hSw
          go_simp
          try with_reducible rfl
        try simp only [Act.put, List.setIfInBounds_toArray, List.set_cons_zero, List.set_cons_succ]
        refine wpAnyH_take (i := 5) (oi := ⟨_, _, _, _, _, _⟩) (v := ?_) rfl (by kernel_rfl) (by kernel_rfl) (by kernel_rfl) (fun _ _ _ h => h) (Or.inl ⟨by rfl, ?_⟩) (by assumption) ?_
        rotate_left 1
        · intro W hSw
          go_simp
          try with_reducible rfl
        try simp only [Act.put, List.setIfInBounds_toArray, List.set_cons_zero, List.set_cons_succ]
        refine wpAnyH_take (i := 7) (oi := ⟨_, _, _, _, _, _⟩) (v := ?_) rfl (by kernel_rfl) (by kernel_rfl) (by kernel_rfl) (fun _ _ _ h => h) (Or.inl ⟨by rfl, ?_⟩) (by assumption) ?_
        rotate_left 1
        · intro W hSw
          go_simp
          try with_reducible rfl
        try simp only [Act.put, List.setIfInBounds_toArray, List.set_cons_zero, List.set_cons_succ]
        refine wpAnyH_ready (rs := [6]) (by kernel_rfl) (by simp) ?_
        refine AllReadyH.cons rfl (fun K hK => ?_) AllReadyH.nil
        go_simp
        go_at_call 17
        refine (constI_any _ i).mono ?_
        rw [Hbb.out]
        rintro e w8 ⟨rfl, hbn⟩
        have I0 := Lib.hid (G0.out.below hbn G0.out.lt)
        have I1 := Lib.hid (G1.out.below hbn G1.out.lt)
        have Hb8 : Hid (Below w.heap.size w w8) := Hb7.out.trans (hbn.mono Hb7.out.size)
        have q8 := And.intro (rng_words I0.out) (rng_bytes I1.out)
        clear hbn
        refine hK.out _ _ q8 (fun hSn => ?_)
        clear hK K
        try simp only [Act.put, List.setIfInBounds_toArray, List.set_cons_zero, List.set_cons_succ]
        refine wpAnyH_take (i := 8) (oi := ⟨_, _, _, _, _, _⟩) (v := ?_) rfl (by kernel_rfl) (by kernel_rfl) (by kernel_rfl) (fun _ _ _ h => h) (Or.inl ⟨by rfl, ?_⟩) (by assumption) ?_
        rotate_left 1
        · intro W hSw
          go_simp
          try with_reducible rfl
        try simp only [Act.put, List.setIfInBounds_toArray, List.set_cons_zero, List.set_cons_succ]
        refine wpAnyH_take (i := 9) (oi := ⟨_, _, _, _, _, _⟩) (v := ?_) rfl (by kernel_rfl) (by kernel_rfl) (by kernel_rfl) (fun _ _ _ h => h) (Or.inl ⟨by rfl, ?_⟩) (by assumption) ?_
        rotate_left 1
        · intro W hSw
          go_simp
          try with_reducible rfl
        try simp only [Act.put, List.setIfInBounds_toArray, List.set_cons_zero, List.set_cons_succ]
        refine wpAnyH_take (i := 10) (oi := ⟨_, _, _, _, _, _⟩) (v := ?_) rfl (by kernel_rfl) (by kernel_rfl) (by kernel_rfl) (fun _ _ _ h => h) (Or.inl ⟨by rfl, ?_⟩) (by assumption) ?_
        rotate_left 1
        · intro W hSw
          go_simp
          try with_reducible rfl
        try simp only [Act.put, List.setIfInBounds_toArray, List.set_cons_zero, List.set_cons_succ]
        refine wpAnyH_take (i := 11) (oi := ⟨_, _, _, _, _, _⟩) (v := .agg (Wd s.list).toArray) rfl (by kernel_rfl) (by kernel_rfl) (by kernel_rfl) (fun _ _ _ h => h) (yieldsIf_load_mid (by rfl) 35 (.tmp 4) rfl (w.heap.size) 0 rfl (Wd s.list) _ (fun W h => h.1) Tryd.underlying35 rfl hi35) (by assumption) ?_
        try simp only [Act.put, List.setIfInBounds_toArray, List.set_cons_zero, List.set_cons_succ]
        refine wpAnyH_take (i := 12) (oi := ⟨_, _, _, _, _, _⟩) (v := .agg (By blk).toArray) rfl (by kernel_rfl) (by kernel_rfl) (by kernel_rfl) (fun _ _ _ h => h) (yieldsIf_load_mid (by rfl) 36 (.tmp 5) rfl (w.heap.size + 1) 0 rfl (By blk) _ (fun W h => h.2) Tryd.underlying36 rfl hi36) (by assumption) ?_
        try simp only [Act.put, List.setIfInBounds_toArray, List.set_cons_zero, List.set_cons_succ]
        refine wpAnyH_take (i := 14) (oi := ⟨_, _, _, _, _, _⟩) (v := .agg (Wd s.list).toArray) rfl (by kernel_rfl) (by kernel_rfl) (by kernel_rfl) (fun _ _ _ h => h) (yieldsIf_load_mid (by rfl) 35 (.tmp 4) rfl (w.heap.size) 0 rfl (Wd s.list) _ (fun W h => h.1) Tryd.underlying35 rfl hi35) (by assumption) ?_
        try simp only [Act.put, List.setIfInBounds_toArray, List.set_cons_zero, List.set_cons_succ]
        refine wpAnyH_take (i := 15) (oi := ⟨_, _, _, _, _, _⟩) (v := .agg (By blk).toArray) rfl (by kernel_rfl) (by kernel_rfl) (by kernel_rfl) (fun _ _ _ h => h) (yieldsIf_load_mid (by rfl) 36 (.tmp 5) rfl (w.heap.size + 1) 0 rfl (By blk) _ (fun W h => h.2) Tryd.underlying36 rfl hi36) (by assumption) ?_
        try simp only [Act.put, List.setIfInBounds_toArray, List.set_cons_zero, List.set_cons_succ]
        refine wpAnyH_ready (rs := [13]) (by kernel_rfl) (by simp) ?_
        refine AllReadyH.cons rfl (fun K hK => ?_) AllReadyH.nil
        go_simp
        go_at_call 18
        refine (press_any _ (HT.out.later Hb8.out) s blk Hb.out).mono ?_
        rw [HPr.out]
        rintro e w9 ⟨rfl, hbn⟩
        have J0 := Lib.hid (I0.out.below hbn I0.out.lt)
        have J1 := Lib.hid (I1.out.below hbn I1.out.lt)
        have Hb9 : Hid (Below w.heap.size w w9) := Hb8.out.trans (hbn.mono Hb8.out.size)
        have q9 := And.intro (rng_words J0.out) (rng_bytes J1.out)
        clear hbn
        refine hK.out _ _ q9 (fun hSn => ?_)
        clear hK K
        try simp only [Act.put, List.setIfInBounds_toArray, List.set_cons_zero, List.set_cons_succ]
        refine wpAnyH_ready (rs := [16]) (by kernel_rfl) (by simp) ?_
        refine AllReadyH.cons rfl (fun K hK => ?_) AllReadyH.nil
        go_simp
        go_at_call 19
        refine (rpress_any _ s blk Hb.out).mono ?_
        rw [HPr.out]
        rintro e w10 ⟨rfl, hbn⟩
        have K0 := Lib.hid (J0.out.below hbn J0.out.lt)
        have K1 := Lib.hid (J1.out.below hbn J1.out.lt)
        have Hb10 : Hid (Below w.heap.size w w10) := Hb9.out.trans (hbn.mono Hb9.out.size)
        have q10 := And.intro (rng_words K0.out) (rng_bytes K1.out)
        clear hbn
        refine hK.out _ _ q10 (fun hSn => ?_)
        clear hK K
        try simp only [Act.put, List.setIfInBounds_toArray, List.set_cons_zero, List.set_cons_succ]
        refine wpAnyH_take (i := 17) (oi := ⟨_, _, _, _, _, _⟩) (v := ?_) rfl (by kernel_rfl) (by kernel_rfl) (by kernel_rfl) (fun _ _ _ h => h) (Or.inl ⟨by rfl, ?_⟩) (by assumption) ?_
        rotate_left 1
        · intro W hSw
          go_simp
          try with_reducible rfl
        try simp only [Act.put, List.setIfInBounds_toArray, List.set_cons_zero, List.set_cons_succ]
        refine wpAnyH_take (i := 18) (oi := ⟨_, _, _, _, _, _⟩) (v := ?_) rfl (by kernel_rfl) (by kernel_rfl) (by kernel_rfl) (fun _ _ _ h => h) (Or.inl ⟨by rfl, ?_⟩) (by assumption) ?_
        rotate_left 1
        · intro W hSw
          go_simp
          try with_reducible rfl
        try simp only [Act.put, List.setIfInBounds_toArray, List.set_cons_zero, List.set_cons_succ]
        refine wpAnyH_take (i := 19) (oi := ⟨_, _, _, _, _, _⟩) (v := ?_) rfl (by kernel_rfl) (by kernel_rfl) (by kernel_rfl) (fun _ _ _ h => h) (Or.inl ⟨by rfl, ?_⟩) (by assumption) ?_
        rotate_left 1
        · intro W hSw
          go_simp
          try with_reducible rfl
        try simp only [Act.put, List.setIfInBounds_toArray, List.set_cons_zero, List.set_cons_succ]
        refine wpAnyH_ready (rs := [20]) (by kernel_rfl) (by simp) ?_
        refine AllReadyH.cons rfl (fun K hK => ?_) AllReadyH.nil
        go_simp
        go_at_call 8
        refine (known_any _ (HT.out.later Hb10.out)).mono ?_
        rintro e w11 ⟨rfl, hbn⟩
        have M0 := Lib.hid (K0.out.below hbn K0.out.lt)
        have M1 := Lib.hid (K1.out.below hbn K1.out.lt)
        have Hb11 : Hid (Below w.heap.size w w11) := Hb10.out.trans (hbn.mono Hb10.out.size)
        have q11 := And.intro (rng_words M0.out) (rng_bytes M1.out)
        clear hbn
        refine hK.out _ _ q11 (fun hSn => ?_)
        clear hK K
        try simp only [Act.put, List.setIfInBounds_toArray, List.set_cons_zero, List.set_cons_succ]
        refine wpAnyH_take (i := 21) (oi := ⟨_, _, _, _, _, _⟩) (v := ?_) rfl (by kernel_rfl) (by kernel_rfl) (by kernel_rfl) (fun _ _ _ h => h) (Or.inl ⟨by rfl, ?_⟩) (by assumption) ?_
        rotate_left 1
        · intro W hSw
          go_simp
          try with_reducible rfl
        try simp only [Act.put, List.setIfInBounds_toArray, List.set_cons_zero, List.set_cons_succ]
        refine wpAnyH_take (i := 22) (oi := ⟨_, _, _, _, _, _⟩) (v := ?_) rfl (by kernel_rfl) (by kernel_rfl) (by kernel_rfl) (fun _ _ _ h => h) (Or.inl ⟨by rfl, ?_⟩) (by assumption) ?_
        rotate_left 1
        · intro W hSw
          go_simp
          try with_reducible rfl
        try simp only [Act.put, List.setIfInBounds_toArray, List.set_cons_zero, List.set_cons_succ]
        refine wpAnyH_done (by kernel_rfl) ?_ _
        go_wp2
        go_ret
        exact ⟨rfl, Hb11.out⟩


end Go.Proofs.YtheekhogmnnkaaaDoor
