/-
  reach: why one can't come.
-/
import Derived.Test.YtbfpckomgpkjgaaGreatPRnQ11
import Derived.Test.YtbfpckomgpkjgaaGreatDgK
import Derived.Test.YtbfpckomgpkjgaaGreatPRnQ13
namespace Go.Proofs.YtbfpckomgpkjgaaGreat
open Go.RowKit Go.Maps

set_option maxRecDepth 100000 in
set_option maxHeartbeats 1000000 in
theorem rx_refused1 (w : World) (base : Nat) (m : RxM) (G : Gr) (h : RxOk w base m) (hg : RxI m G) (pB : Nat) (hp : pB < w.heap.size) (hc : w.cell? ⟨pB, 0, none⟩ = some (.pointer (some ⟨m.q, 0, none⟩))) (x : Hh) : Calls Tryz.prog 81 #[.agg (hC x).toArray, .pointer (some ⟨pB, 0, none⟩)] w fun e w' => e = .returned (.bool (placeG G x).isNone) ∧ Below w.heap.size w w' := by
  have V0 : Hid (Below w.heap.size w (w.alloc (.cells (hC x).toArray 23))) := nxAlloc (nxRefl w) _
  have B0 : Hid (Blk (w.alloc (.cells (hC x).toArray 23)) w.heap.size 23 (hC x).toArray) := heap_alloc_new w _
  have HW := Lib.hid (h.later V0.out)
  have HG := Lib.hid hg
  have HPc : Hid ((w.alloc (.cells (hC x).toArray 23)).cell? ⟨pB, 0, none⟩ = some (.pointer (some ⟨m.q, 0, none⟩))) := (V0.out.cell (p := ⟨pB, 0, none⟩) hp).trans hc
  have HPl : Hid (pB < (w.alloc (.cells (hC x).toArray 23)).heap.size) := Nat.lt_of_lt_of_le hp V0.out.size
  obtain ⟨z, hz⟩ : ∃ z, (placeG G x).isSome = z := ⟨_, rfl⟩
  have hz2 : (placeG G x).isNone = !z := by rw [← hz]; cases placeG G x <;> rfl
  rw [hz2]
  have HZ := Lib.hid hz
  clear h hg hp hc hz hz2
  go_enter Tryz.func81, Tryz.ntmps81
  go_wp2
  generalize hWW : w.alloc (.cells (hC x).toArray 23) = W at *
  obtain ⟨pX, hpX⟩ : ∃ pX, w.heap.size = pX := ⟨_, rfl⟩
  have VW : Hid (∀ W', Below W.heap.size W W' → Below w.heap.size w W') := fun W' hb => nxTo V0.out hb
  rw [hpX] at B0 ⊢
  have HXl : Hid (pX < W.heap.size) := B0.out.lt
  have HRx : Hid (W.rangeAt pX 0 (hC x)) := rxRng B0.out
  have HD : Hid (RxOk W.drew base m) := HW.out.later (rxDr (nxRefl _))
  clear hWW hpX B0 V0
  refine wp_region_held_drew (S := fun W => W.cell? ⟨pB, 0, none⟩ = some (.pointer (some ⟨m.q, 0, none⟩)) ∧ W.cell? ⟨m.q, 0, none⟩ = some (.pointer (some ⟨m.g.q, 0, none⟩)) ∧ W.rangeAt pX 0 (hC x)) (by kernel_rfl) ⟨HPc.out, HD.out.c.1, HRx.out⟩ (fun hHeld => ?_)
  refine wpAnyH_take (i := 0) (oi := ⟨_, _, _, _, _, _⟩) (v := ?_) rfl (by kernel_rfl) (by kernel_rfl) (by kernel_rfl) (fun _ _ _ h => h) (Or.inl ⟨by rfl, ?_⟩) (by assumption) ?_
  rotate_left 1
  · intro W hSw
    try dsimp only at hSw
    obtain ⟨hs1, hs2, hs3⟩ := hSw
    go_simp
    try with_reducible rfl
  try simp only [Act.put, List.setIfInBounds_toArray, List.set_cons_zero, List.set_cons_succ]
  refine wpAnyH_take (i := 1) (oi := ⟨_, _, _, _, _, _⟩) (v := ?_) rfl (by kernel_rfl) (by kernel_rfl) (by kernel_rfl) (fun _ _ _ h => h) (Or.inl ⟨by rfl, ?_⟩) (by assumption) ?_
  rotate_left 1
  · intro W hSw
    try dsimp only at hSw
    obtain ⟨hs1, hs2, hs3⟩ := hSw
    go_simp
    try with_reducible rfl
  try simp only [Act.put, List.setIfInBounds_toArray, List.set_cons_zero, List.set_cons_succ]
  refine wpAnyH_take (i := 2) (oi := ⟨_, _, _, _, _, _⟩) (v := ?_) rfl (by kernel_rfl) (by kernel_rfl) (by kernel_rfl) (fun _ _ _ h => h) (Or.inl ⟨by rfl, ?_⟩) (by assumption) ?_
  rotate_left 1
  · intro W hSw
    try dsimp only at hSw
    obtain ⟨hs1, hs2, hs3⟩ := hSw
    go_simp
    try with_reducible rfl
  try simp only [Act.put, List.setIfInBounds_toArray, List.set_cons_zero, List.set_cons_succ]
  refine wpAnyH_take (i := 3) (oi := ⟨_, _, _, _, _, _⟩) (v := ?_) rfl (by kernel_rfl) (by kernel_rfl) (by kernel_rfl) (fun _ _ _ h => h) (Or.inl ⟨by rfl, ?_⟩) (by assumption) ?_
  rotate_left 1
  · intro W hSw
    try dsimp only at hSw
    obtain ⟨hs1, hs2, hs3⟩ := hSw
    go_simp
    try with_reducible rfl
  try simp only [Act.put, List.setIfInBounds_toArray, List.set_cons_zero, List.set_cons_succ]
  refine wpAnyH_take (i := 4) (oi := ⟨_, _, _, _, _, _⟩) (v := .agg (hC x).toArray) rfl (by kernel_rfl) (by kernel_rfl) (by kernel_rfl) (fun _ _ _ h => h) (yieldsIf_load_mid (by rfl) 23 (.tmp 2) rfl pX 0 rfl (hC x) _ (fun W hS => hS.2.2) Tryz.underlying23 rfl (hszL x)) (by assumption) ?_
  try simp only [Act.put, List.setIfInBounds_toArray, List.set_cons_zero, List.set_cons_succ]
  refine wpAnyH_ready (rs := [5]) (by kernel_rfl) (by simp) ?_
  refine AllReadyH.cons rfl (fun K hK => ?_) AllReadyH.nil
  go_simp
  go_at_call 79
  refine (has2_any _ base m.g G HD.out.g HG.out.g x).mono ?_
  rintro e4 w4 ⟨rfl, hb4⟩
  have V4 : Hid (Below W.heap.size W w4) := nxUndr hb4
  clear hb4
  have C4 : Hid (w4.cell? ⟨pB, 0, none⟩ = some (.pointer (some ⟨m.q, 0, none⟩))) := (V4.out.cell (p := ⟨pB, 0, none⟩) HPl.out).trans HPc.out
  have D4 : Hid (w4.cell? ⟨m.q, 0, none⟩ = some (.pointer (some ⟨m.g.q, 0, none⟩))) := (HW.out.later V4.out).c.1
  have R4 : Hid (w4.rangeAt pX 0 (hC x)) := rngK HRx.out V4.out HXl.out
  rw [HZ.out]
  refine hK.out _ _ ⟨C4.out, D4.out, R4.out⟩ (fun hSn => ?_)
  clear hK K
  try simp only [Act.put, List.setIfInBounds_toArray, List.set_cons_zero, List.set_cons_succ]
  refine wpAnyH_take (i := 6) (oi := ⟨_, _, _, _, _, _⟩) (v := ?_) rfl (by kernel_rfl) (by kernel_rfl) (by kernel_rfl) (fun _ _ _ h => h) (Or.inl ⟨by rfl, ?_⟩) (by assumption) ?_
  rotate_left 1
  · intro W hSw
    try dsimp only at hSw
    obtain ⟨hs1, hs2, hs3⟩ := hSw
    go_simp
    try with_reducible rfl
  try simp only [Act.put, List.setIfInBounds_toArray, List.set_cons_zero, List.set_cons_succ]
  refine wpAnyH_take (i := 7) (oi := ⟨_, _, _, _, _, _⟩) (v := ?_) rfl (by kernel_rfl) (by kernel_rfl) (by kernel_rfl) (fun _ _ _ h => h) (Or.inl ⟨by rfl, ?_⟩) (by assumption) ?_
  rotate_left 1
  · intro W hSw
    try dsimp only at hSw
    obtain ⟨hs1, hs2, hs3⟩ := hSw
    go_simp
    try with_reducible rfl
  try simp only [Act.put, List.setIfInBounds_toArray, List.set_cons_zero, List.set_cons_succ]
  refine wpAnyH_done (by kernel_rfl) ?_ _
  go_wp2
  go_ret
  exact ⟨rfl, VW.out _ V4.out⟩
set_option maxRecDepth 100000 in
set_option maxHeartbeats 1000000 in
theorem rx_indexF (w : World) (A : Option Addr) (l : List Hh) (c : Nat) (hS : SeesV w w.heap.size A (hsC l)) (hm : l.length ≤ 1000000) (pB : Nat) (f : Hh → Bool) (hf : ∀ W, Below w.heap.size w W → ∀ x, Calls Tryz.prog 81 #[.agg (hC x).toArray, .pointer (some ⟨pB, 0, none⟩)] W fun e w' => e = .returned (.bool (f x)) ∧ Below W.heap.size W w') :
    Calls Tryz.prog 95 #[.slice A l.length c, .func (.func 81) #[] #[.pointer (some ⟨pB, 0, none⟩)]] w fun e w' => (∃ r : Int, e = .returned (.int .i64 r) ∧ decide (0 ≤ r) = l.any f) ∧ Below w.heap.size w w' := by
  have HS := Lib.hid hS
  have HF := Lib.hid hf
  have HM := Lib.hid hm
  clear hS hf hm
  go_enter Tryz.func95, Tryz.ntmps95
  go_wp2
  go_loopw [8] (fun iv wr => ∃ k : Nat, k ≤ l.length ∧ iv = .int .i64 k ∧ Hid (∀ j (h : j < l.length), j < k → f l[j] = false) ∧ Hid (Below w.heap.size w wr)) (fun iv _ => l.length - (intOf iv).toNat)
  case atStart => exact ⟨0, by omega, rfl, fun j _ h => absurd h (Nat.not_lt_zero _), nxRefl w⟩
  case round =>
    obtain ⟨k, hk, rfl, HN, Hb⟩ := hrel
    by_cases hlt : k < l.length
    · obtain ⟨b1, f1, rfl, hb1, hr1⟩ := sees_hash HS.out hlt
      have hm9 := HM.out
      have r1 : wr.rangeAt b1 (f1 + k * 32) (hC l[k]) := rngK (hr1 k hlt) Hb.out hb1
      have hfk := HF.out wr Hb.out l[k]
      obtain ⟨x, hx⟩ : ∃ x, l[k] = x := ⟨_, rfl⟩
      have HL : Hid (l[k] = x) := hx
      rw [hx] at r1 hfk
      have HR := Lib.hid r1
      obtain ⟨z, hz⟩ : ∃ z, f x = z := ⟨_, rfl⟩
      rw [hz] at hfk
      have HK := Lib.hid hfk
      have HZ := Lib.hid hz
      clear hr1 r1 hfk hx hz hb1
      cases z with
      | true =>
        go_wp2_with (first
          | ((with_reducible show wpList _ _ _ (⟨some 15, _, _, _, _, _⟩ :: _) _ _); refine wpList_load_mid rfl 23 (.tmp 14) rfl b1 (f1 + k * 32) rfl (hC x) _ HR.out Tryz.underlying23 rfl (hszL x) ?_)
          | (go_at_call 81; refine HK.out.mono ?_; rintro e w2 ⟨rfl, hb2⟩; have Hb2 : Hid (Below w.heap.size w w2) := nxTo Hb.out hb2; clear hb2))
        go_ret
        refine ⟨⟨(k : Int), rfl, ?_⟩, Hb2.out⟩
        rw [decide_eq_true (by omega : (0 : Int) ≤ (k : Int))]
        exact (List.any_eq_true.2 ⟨l[k], List.getElem_mem hlt, by rw [HL.out]; exact HZ.out⟩).symm
      | false =>
        have HN' : Hid (∀ j (h : j < l.length), j < k + 1 → f l[j] = false) := by
          intro j h hj
          by_cases h1 : j < k
          · exact HN.out j h h1
          · obtain rfl : j = k := by omega
            rw [HL.out]; exact HZ.out
        go_wp2_with (first
          | ((with_reducible show wpList _ _ _ (⟨some 15, _, _, _, _, _⟩ :: _) _ _); refine wpList_load_mid rfl 23 (.tmp 14) rfl b1 (f1 + k * 32) rfl (hC x) _ HR.out Tryz.underlying23 rfl (hszL x) ?_)
          | (go_at_call 81; refine HK.out.mono ?_; rintro e w2 ⟨rfl, hb2⟩; have Hb2 : Hid (Below w.heap.size w w2) := nxTo Hb.out hb2; clear hb2))
        go_roundw
        case rel => exact ⟨k + 1, by omega, by go_num, HN'.out, Hb2.out⟩
        case measure => simp [intOf] <;> omega
    · obtain rfl : k = l.length := by omega
      go_wp2
      go_ret
      refine ⟨⟨-1, rfl, ?_⟩, Hb.out⟩
      rw [decide_eq_false (by omega : ¬ (0 : Int) ≤ -1)]
      refine (Bool.eq_false_iff.2 fun h => ?_).symm
      obtain ⟨i, hi, hl⟩ := List.any_eq_true.1 h
      obtain ⟨k, hk, rfl⟩ := List.getElem_of_mem hi
      rw [HN.out k hk hk] at hl
      cases hl
theorem rx_containsF (w : World) (A : Option Addr) (l : List Hh) (c : Nat) (hS : SeesV w w.heap.size A (hsC l)) (hm : l.length ≤ 1000000) (pB : Nat) (f : Hh → Bool) (hf : ∀ W, Below w.heap.size w W → ∀ x, Calls Tryz.prog 81 #[.agg (hC x).toArray, .pointer (some ⟨pB, 0, none⟩)] W fun e w' => e = .returned (.bool (f x)) ∧ Below W.heap.size W w') :
    Calls Tryz.prog 80 #[.slice A l.length c, .func (.func 81) #[] #[.pointer (some ⟨pB, 0, none⟩)]] w fun e w' => e = .returned (.bool (l.any f)) ∧ Below w.heap.size w w' := by
  have H1 := Lib.hid (rx_indexF w A l c hS hm pB f hf)
  clear hS hf hm
  go_enter Tryz.func80, Tryz.ntmps80
  go_wp2_with (go_at_call 95; refine H1.out.mono ?_; rintro e w2 ⟨⟨r, rfl, hr⟩, hb2⟩; have V2 := Lib.hid hb2; have HR := Lib.hid hr; clear hb2 hr)
  go_ret
  exact ⟨by rw [← HR.out]; rfl, V2.out⟩
set_option maxRecDepth 100000 in
set_option maxHeartbeats 1000000 in
theorem rx_index (w : World) (A : Option Addr) (l : List Hh) (c : Nat) (x : Hh) (hS : SeesV w w.heap.size A (hsC l)) (hm : l.length ≤ 1000000) : Calls Tryz.prog 96 #[.slice A l.length c, .agg (hC x).toArray] w fun e w' => (∃ r : Int, e = .returned (.int .i64 r) ∧ decide (0 ≤ r) = decide (x ∈ l)) ∧ Below w.heap.size w w' := by
  have bx : Hid (Blk (w.alloc (.cells (hC x).toArray 23)) w.heap.size 23 (hC x).toArray) := heap_alloc_new w _
  have V : Hid (Below w.heap.size w (w.alloc (.cells (hC x).toArray 23))) := nxAlloc (nxRefl _) _
  have HS := Lib.hid hS
  have HM := Lib.hid hm
  clear hS hm
  go_enter Tryz.func96, Tryz.ntmps96
  go_wp2
  go_loopw [8] (fun iv wr => ∃ k : Nat, k ≤ l.length ∧ iv = .int .i64 k ∧ Hid (x ∉ l.take k) ∧ Hid (Blk wr w.heap.size 23 (hC x).toArray) ∧ Hid (Below w.heap.size w wr)) (fun iv _ => l.length - (intOf iv).toNat)
  case atStart => exact ⟨0, by omega, rfl, by show _ ∉ _; simp, bx, V⟩
  case round =>
    obtain ⟨k, hk, rfl, HN, HB, HV⟩ := hrel
    by_cases hlt : k < l.length
    · obtain ⟨b1, f1, rfl, hb1, hr1⟩ := sees_hash HS.out hlt
      have hdr : Below wr.heap.size wr wr.drew := rxDr (nxRefl _)
      have HVd : Hid (Below w.heap.size w wr.drew) := HV.out.trans (hdr.mono HV.out.size)
      have r1 : wr.drew.rangeAt b1 (f1 + k * 32) (hC l[k]) := rngK (hr1 k hlt) HVd.out hb1
      have r2 : wr.drew.rangeAt w.heap.size 0 (hC x) := rxRng HB.out
      have HBd : Hid (Blk wr.drew w.heap.size 23 (hC x).toArray) := HB.out
      obtain ⟨y, hy⟩ : ∃ y, l[k] = y := ⟨_, rfl⟩
      have hmem : y ∈ l := by rw [← hy]; exact List.getElem_mem hlt
      have hn2 : l.take (k + 1) = l.take k ++ [y] := by rw [List.take_succ_eq_append_getElem hlt, hy]
      rw [hy] at r1
      have HR1 := Lib.hid r1
      have HR2 := Lib.hid r2
      have HMm := Lib.hid hmem
      have HN2 := Lib.hid hn2
      have hmx := HM.out
      have hin : (k : Int) < (l.length : Int) := by omega
      obtain ⟨z, hz⟩ : ∃ z, decide (x = y) = z := ⟨_, rfl⟩
      have HZ := Lib.hid hz
      clear hr1 r1 r2 hdr hy hmem hn2 hz hb1
      go_wp2
      refine wp_region_held_drew (S := fun W => W.rangeAt b1 (f1 + k * 32) (hC y) ∧ W.rangeAt w.heap.size 0 (hC x)) (by kernel_rfl) ⟨HR1.out, HR2.out⟩ (fun hHeld => ?_)
      refine wpAnyH_take (i := 0) (oi := ⟨_, _, _, _, _, _⟩) (v := .agg (hC x).toArray) rfl (by kernel_rfl) (by kernel_rfl) (by kernel_rfl) (fun _ _ _ h => h) (yieldsIf_load_mid (by rfl) 23 (.tmp 3) rfl w.heap.size 0 rfl (hC x) _ (fun W hS => hS.2) Tryz.underlying23 rfl (hszL x)) (by assumption) ?_
      try simp only [Act.put, List.setIfInBounds_toArray, List.set_cons_zero, List.set_cons_succ]
      refine wpAnyH_take (i := 1) (oi := ⟨_, _, _, _, _, _⟩) (v := ?_) rfl (by kernel_rfl) (by kernel_rfl) (by kernel_rfl) (fun _ _ _ h => h) (Or.inl ⟨by rfl, ?_⟩) (by assumption) ?_
      rotate_left 1
      · intro W hSw
        try dsimp only at hSw
        obtain ⟨hs1, hs2⟩ := hSw
        go_simp
        try with_reducible rfl
      try simp only [Act.put, List.setIfInBounds_toArray, List.set_cons_zero, List.set_cons_succ]
      refine wpAnyH_take (i := 2) (oi := ⟨_, _, _, _, _, _⟩) (v := ?_) rfl (by kernel_rfl) (by kernel_rfl) (by kernel_rfl) (fun _ _ _ h => h) (Or.inl ⟨by rfl, ?_⟩) (by assumption) ?_
      rotate_left 1
      · intro W hSw
        try dsimp only at hSw
        obtain ⟨hs1, hs2⟩ := hSw
        go_simp
        try with_reducible rfl
      try simp only [Act.put, List.setIfInBounds_toArray, List.set_cons_zero, List.set_cons_succ]
      refine wpAnyH_take (i := 3) (oi := ⟨_, _, _, _, _, _⟩) (v := ?_) rfl (by kernel_rfl) (by kernel_rfl) (by kernel_rfl) (fun _ _ _ h => h) (Or.inl ⟨by rfl, ?_⟩) (by assumption) ?_
      rotate_left 1
      · intro W hSw
        try dsimp only at hSw
        obtain ⟨hs1, hs2⟩ := hSw
        go_simp
        try with_reducible rfl
      try simp only [Act.put, List.setIfInBounds_toArray, List.set_cons_zero, List.set_cons_succ]
      refine wpAnyH_take (i := 4) (oi := ⟨_, _, _, _, _, _⟩) (v := .agg (hC y).toArray) rfl (by kernel_rfl) (by kernel_rfl) (by kernel_rfl) (fun _ _ _ h => h) (yieldsIf_load_mid (by rfl) 23 (.tmp 14) rfl b1 (f1 + k * 32) rfl (hC y) _ (fun W hS => hS.1) Tryz.underlying23 rfl (hszL y)) (by assumption) ?_
      try simp only [Act.put, List.setIfInBounds_toArray, List.set_cons_zero, List.set_cons_succ]
      refine wpAnyH_take (i := 5) (oi := ⟨_, _, _, _, _, _⟩) (v := .bool z) rfl (by kernel_rfl) (by kernel_rfl) (by kernel_rfl) (fun _ _ _ h => h) (yieldsIf_eqH (by rfl) 23 (.tmp 11) (.tmp 15) rfl x y rfl rfl z HZ.out) (by assumption) ?_
      try simp only [Act.put, List.setIfInBounds_toArray, List.set_cons_zero, List.set_cons_succ]
      refine wpAnyH_done (by kernel_rfl) ?_ _
      cases z with
      | true =>
        have he : x = y := of_decide_eq_true HZ.out
        go_wp2
        go_ret
        exact ⟨⟨(k : Int), rfl, by rw [decide_eq_true (by omega : (0 : Int) ≤ (k : Int)), decide_eq_true (by rw [he]; exact HMm.out)]⟩, HVd.out⟩
      | false =>
        have he : Hid (¬ x = y) := of_decide_eq_false HZ.out
        go_wp2
        go_roundw
        case rel => exact ⟨k + 1, by omega, by go_num, (by show _ ∉ _; rw [HN2.out, List.mem_append, List.mem_singleton]; rintro (h | h); exact HN.out h; exact he.out h), HBd.out, HVd.out⟩
        case measure => simp [intOf] <;> omega
    · obtain rfl : k = l.length := by omega
      go_wp2
      go_ret
      refine ⟨⟨-1, rfl, ?_⟩, HV.out⟩
      have hn := HN.out
      rw [List.take_length] at hn
      rw [decide_eq_false (by omega : ¬ (0 : Int) ≤ -1), decide_eq_false hn]
theorem rx_contains (w : World) (A : Option Addr) (l : List Hh) (c : Nat) (x : Hh) (hS : SeesV w w.heap.size A (hsC l)) (hm : l.length ≤ 1000000) : Calls Tryz.prog 82 #[.slice A l.length c, .agg (hC x).toArray] w fun e w' => e = .returned (.bool (decide (x ∈ l))) ∧ Below w.heap.size w w' := by
  have B0 : Hid (Blk (w.alloc (.cells (hC x).toArray 23)) w.heap.size 23 (hC x).toArray) := heap_alloc_new w _
  have V0 : Hid (Below w.heap.size w (w.alloc (.cells (hC x).toArray 23))) := nxAlloc (nxRefl _) _
  have H1 := Lib.hid (rx_index (w.alloc (.cells (hC x).toArray 23)) A l c x ((hS.below V0.out).more V0.out.size) hm)
  clear hS hm
  go_enter Tryz.func82, Tryz.ntmps82
  go_wp2_with (first
    | ((with_reducible show wpList _ _ _ (⟨some 6, _, _, _, _, _⟩ :: _) _ _); refine wpList_load_mid rfl 23 (.tmp 3) rfl w.heap.size 0 rfl (hC x) _ (rxRng B0.out) Tryz.underlying23 rfl (hszL x) ?_)
    | (go_at_call 96; refine H1.out.mono ?_; rintro e w2 ⟨⟨r, rfl, hr⟩, hb2⟩; have V2 : Hid (Below w.heap.size w w2) := nxTo V0.out hb2; have HR := Lib.hid hr; clear hb2 hr))
  go_ret
  exact ⟨by rw [← HR.out]; rfl, V2.out⟩
end Go.Proofs.YtbfpckomgpkjgaaGreat
