/-
  reach: why one can't come.
-/
import Derived.Test.YtbfpckomgpkjgaaGreatRx7
namespace Go.Proofs.YtbfpckomgpkjgaaGreat
open Go.RowKit Go.Maps

/-- Why one can't come. -/
def refE (G : Gr) (id s : Hh) (ps : List Hh) : Nat := if addE G id ps = 0 then if s ∈ ps then 0 else 2 else addE G id ps
set_option maxRecDepth 100000 in
set_option maxHeartbeats 4000000 in
theorem rx_refused (w : World) (base : Nat) (m : RxM) (G : Gr) (h : RxOk w base m) (hg : RxI m G) (id s : Hh) (A : Option Addr) (ps : List Hh) (c : Nat) (hS : SeesV w w.heap.size A (hsC ps)) (hm : ps.length ≤ 1000000) :
    Calls Tryz.prog 56 #[.pointer (some ⟨m.q, 0, none⟩), .agg (hC id).toArray, .agg (hC s).toArray, .slice A ps.length c] w fun e w' => e = .returned (.int .i64 (refE G id s ps : Int)) ∧ Below w.heap.size w w' := by
  have V0 : Hid (Below w.heap.size w (((w.alloc (.cells #[.pointer (some ⟨m.q, 0, none⟩)] 27)).alloc (.cells (hC id).toArray 23)).alloc (.cells (hC s).toArray 23))) := nxAlloc (nxAlloc (nxAlloc (nxRefl w) _) _) _
  have BX : Hid (Blk (((w.alloc (.cells #[.pointer (some ⟨m.q, 0, none⟩)] 27)).alloc (.cells (hC id).toArray 23)).alloc (.cells (hC s).toArray 23)) w.heap.size 27 #[.pointer (some ⟨m.q, 0, none⟩)]) := (Blk.alloc (Blk.alloc (heap_alloc_new w _) _) _)
  have BI : Hid (Blk (((w.alloc (.cells #[.pointer (some ⟨m.q, 0, none⟩)] 27)).alloc (.cells (hC id).toArray 23)).alloc (.cells (hC s).toArray 23)) (w.heap.size + 1) 23 (hC id).toArray) := Blk.alloc (rxBlk2 w _ _ _) _
  have BS : Hid (Blk (((w.alloc (.cells #[.pointer (some ⟨m.q, 0, none⟩)] 27)).alloc (.cells (hC id).toArray 23)).alloc (.cells (hC s).toArray 23)) (w.heap.size + 2) 23 (hC s).toArray) := by
    have h := rxBlk2 (w.alloc (.cells #[.pointer (some ⟨m.q, 0, none⟩)] 27)) (.cells (hC id).toArray 23) 23 (hC s).toArray
    rw [World.size_alloc] at h
    exact h
  have HW := Lib.hid (h.later V0.out)
  have HG := Lib.hid hg
  have HM := Lib.hid hm
  have HL0 : Hid (0 < m.ids.length) := by show _ < _; rw [hg.il]; exact hg.g.ne
  have HS : Hid (∀ W, Below w.heap.size w W → SeesV W W.heap.size A (hsC ps)) := fun W hW => (hS.below hW).more hW.size
  have hmf : ∀ (fn : Fn) (first cap : Array Value) (w : World), (Instr.makeFunc fn first cap).run Tryz.prog w = .ok (.func fn first cap) w := fun _ _ _ _ => rfl
  obtain ⟨z, hz⟩ : ∃ z, (placeG G id).isSome = z := ⟨_, rfl⟩
  have HZ := Lib.hid hz
  cases z with
  | true =>
    have he : refE G id s ps = 7 := by unfold refE addE; simp [hz]
    rw [he]
    clear h hg hm hS he hz
    go_enter Tryz.func56, Tryz.ntmps56
    go_wp2_with (go_at_call 49; refine (rx_made _ base m HW.out HL0.out).mono ?_; rintro e1 w1 ⟨rfl, hw1⟩; obtain rfl := hw1.symm)
    generalize hWW : (((w.alloc (.cells #[.pointer (some ⟨m.q, 0, none⟩)] 27)).alloc (.cells (hC id).toArray 23)).alloc (.cells (hC s).toArray 23)) = W at *
    obtain ⟨pB, hpB⟩ : ∃ pB, w.heap.size = pB := ⟨_, rfl⟩
    obtain ⟨pI, hpI⟩ : ∃ pI, pB + 1 = pI := ⟨_, rfl⟩
    obtain ⟨pS, hpS⟩ : ∃ pS, pI + 1 = pS := ⟨_, rfl⟩
    rw [hpB] at BX BI BS ⊢
    rw [hpI] at BI ⊢
    replace BS : Hid (Blk W pS 23 (hC s).toArray) := by show Blk _ _ _ _; rw [← hpS, ← hpI]; exact BS.out
    first | rw [hpS] | rw [show pB + 2 = pS by omega]
    have HPl : Hid (pB < W.heap.size) := BX.out.lt
    have HIl : Hid (pI < W.heap.size) := BI.out.lt
    have HPc : Hid (W.cell? ⟨pB, 0, none⟩ = some (.pointer (some ⟨m.q, 0, none⟩))) := BX.out.cell 0
    have HRi : Hid (W.rangeAt pI 0 (hC id)) := rxRng BI.out
    have HD : Hid (RxOk W.drew base m) := HW.out.later (rxDr (nxRefl _))
    have VW : Hid (∀ W', Below W.heap.size W W' → Below w.heap.size w W') := fun W' hb => nxTo V0.out hb
    clear hWW hpB hpI hpS V0
    refine wp_region_held_drew (S := fun W => W.cell? ⟨pB, 0, none⟩ = some (.pointer (some ⟨m.q, 0, none⟩)) ∧ W.cell? ⟨m.q, 0, none⟩ = some (.pointer (some ⟨m.g.q, 0, none⟩)) ∧ W.rangeAt pI 0 (hC id)) (by kernel_rfl) ⟨HPc.out, HD.out.c.1, HRi.out⟩ (fun hHeld => ?_)
    refine wpAnyH_take (i := 0) (oi := ⟨_, _, _, _, _, _⟩) (v := ?_) rfl (by kernel_rfl) (by kernel_rfl) (by kernel_rfl) (fun _ _ _ h => h) (Or.inl ⟨by rfl, ?_⟩) (by assumption) ?_
    rotate_left 1
    · intro W hSw
      try dsimp only at hSw
      obtain ⟨hs1, hs2, hs3⟩ := hSw
      go_simp
      try with_reducible rfl
    try simp only [Act.put, List.setIfInBounds_toArray, List.set_cons_zero, List.set_cons_succ]
    refine wpAnyH_take (i := 1) (oi := ⟨_, _, _, _, _, _⟩) (v := ?_) rfl (by kernel_rfl) (by kernel_rfl) (by kernel_rfl) (fun _ _ _ h => h) (Or.inl ⟨by rfl, ?_⟩) (by assumption) ?_
    rotate_left 1
    · intro W hSw
      try dsimp only at hSw
      obtain ⟨hs1, hs2, hs3⟩ := hSw
      go_simp
      try with_reducible rfl
    try simp only [Act.put, List.setIfInBounds_toArray, List.set_cons_zero, List.set_cons_succ]
    refine wpAnyH_take (i := 2) (oi := ⟨_, _, _, _, _, _⟩) (v := ?_) rfl (by kernel_rfl) (by kernel_rfl) (by kernel_rfl) (fun _ _ _ h => h) (Or.inl ⟨by rfl, ?_⟩) (by assumption) ?_
    rotate_left 1
    · intro W hSw
      try dsimp only at hSw
      obtain ⟨hs1, hs2, hs3⟩ := hSw
      go_simp
      try with_reducible rfl
    try simp only [Act.put, List.setIfInBounds_toArray, List.set_cons_zero, List.set_cons_succ]
    refine wpAnyH_take (i := 3) (oi := ⟨_, _, _, _, _, _⟩) (v := ?_) rfl (by kernel_rfl) (by kernel_rfl) (by kernel_rfl) (fun _ _ _ h => h) (Or.inl ⟨by rfl, ?_⟩) (by assumption) ?_
    rotate_left 1
    · intro W hSw
      try dsimp only at hSw
      obtain ⟨hs1, hs2, hs3⟩ := hSw
      go_simp
      try with_reducible rfl
    try simp only [Act.put, List.setIfInBounds_toArray, List.set_cons_zero, List.set_cons_succ]
    refine wpAnyH_take (i := 4) (oi := ⟨_, _, _, _, _, _⟩) (v := .agg (hC id).toArray) rfl (by kernel_rfl) (by kernel_rfl) (by kernel_rfl) (fun _ _ _ h => h) (yieldsIf_load_mid (by rfl) 23 (.tmp 5) rfl pI 0 rfl (hC id) _ (fun W hS => hS.2.2) Tryz.underlying23 rfl (hszL id)) (by assumption) ?_
    try simp only [Act.put, List.setIfInBounds_toArray, List.set_cons_zero, List.set_cons_succ]
    refine wpAnyH_ready (rs := [5]) (by kernel_rfl) (by simp) ?_
    refine AllReadyH.cons rfl (fun K hK => ?_) AllReadyH.nil
    go_simp
    go_at_call 79
    refine (has2_any _ base m.g G HD.out.g HG.out.g id).mono ?_
    rintro e4 w4 ⟨rfl, hb4⟩
    have V4 : Hid (Below W.heap.size W w4) := nxUndr hb4
    clear hb4
    have C4 : Hid (w4.cell? ⟨pB, 0, none⟩ = some (.pointer (some ⟨m.q, 0, none⟩))) := (V4.out.cell (p := ⟨pB, 0, none⟩) HPl.out).trans HPc.out
    have D4 : Hid (w4.cell? ⟨m.q, 0, none⟩ = some (.pointer (some ⟨m.g.q, 0, none⟩))) := (HW.out.later V4.out).c.1
    have R4 : Hid (w4.rangeAt pI 0 (hC id)) := rngK HRi.out V4.out HIl.out
    rw [HZ.out]
    refine hK.out _ _ ⟨C4.out, D4.out, R4.out⟩ (fun hSn => ?_)
    clear hK K
    try simp only [Act.put, List.setIfInBounds_toArray, List.set_cons_zero, List.set_cons_succ]
    refine wpAnyH_take (i := 6) (oi := ⟨_, _, _, _, _, _⟩) (v := ?_) rfl (by kernel_rfl) (by kernel_rfl) (by kernel_rfl) (fun _ _ _ h => h) (Or.inl ⟨by rfl, ?_⟩) (by assumption) ?_
    rotate_left 1
    · intro W hSw
      try dsimp only at hSw
      obtain ⟨hs1, hs2, hs3⟩ := hSw
      go_simp
      try with_reducible rfl
    try simp only [Act.put, List.setIfInBounds_toArray, List.set_cons_zero, List.set_cons_succ]
    refine wpAnyH_done (by kernel_rfl) ?_ _
    go_wp2
    go_ret
    exact ⟨rfl, VW.out _ V4.out⟩
  | false =>
    by_cases h0 : ps = []
    · have he : refE G id s ps = 9 := by unfold refE addE; simp [hz, h0]
      rw [he]
      have hl0 : ps.length = 0 := by rw [h0]; rfl
      rw [hl0]
      clear h hg hm hS he hz h0 hl0
      go_enter Tryz.func56, Tryz.ntmps56
      go_wp2_with (go_at_call 49; refine (rx_made _ base m HW.out HL0.out).mono ?_; rintro e1 w1 ⟨rfl, hw1⟩; obtain rfl := hw1.symm)
      generalize hWW : (((w.alloc (.cells #[.pointer (some ⟨m.q, 0, none⟩)] 27)).alloc (.cells (hC id).toArray 23)).alloc (.cells (hC s).toArray 23)) = W at *
      obtain ⟨pB, hpB⟩ : ∃ pB, w.heap.size = pB := ⟨_, rfl⟩
      obtain ⟨pI, hpI⟩ : ∃ pI, pB + 1 = pI := ⟨_, rfl⟩
      obtain ⟨pS, hpS⟩ : ∃ pS, pI + 1 = pS := ⟨_, rfl⟩
      rw [hpB] at BX BI BS ⊢
      rw [hpI] at BI ⊢
      replace BS : Hid (Blk W pS 23 (hC s).toArray) := by show Blk _ _ _ _; rw [← hpS, ← hpI]; exact BS.out
      first | rw [hpS] | rw [show pB + 2 = pS by omega]
      have HPl : Hid (pB < W.heap.size) := BX.out.lt
      have HIl : Hid (pI < W.heap.size) := BI.out.lt
      have HPc : Hid (W.cell? ⟨pB, 0, none⟩ = some (.pointer (some ⟨m.q, 0, none⟩))) := BX.out.cell 0
      have HRi : Hid (W.rangeAt pI 0 (hC id)) := rxRng BI.out
      have HD : Hid (RxOk W.drew base m) := HW.out.later (rxDr (nxRefl _))
      have VW : Hid (∀ W', Below W.heap.size W W' → Below w.heap.size w W') := fun W' hb => nxTo V0.out hb
      clear hWW hpB hpI hpS V0
      refine wp_region_held_drew (S := fun W => W.cell? ⟨pB, 0, none⟩ = some (.pointer (some ⟨m.q, 0, none⟩)) ∧ W.cell? ⟨m.q, 0, none⟩ = some (.pointer (some ⟨m.g.q, 0, none⟩)) ∧ W.rangeAt pI 0 (hC id)) (by kernel_rfl) ⟨HPc.out, HD.out.c.1, HRi.out⟩ (fun hHeld => ?_)
      refine wpAnyH_take (i := 0) (oi := ⟨_, _, _, _, _, _⟩) (v := ?_) rfl (by kernel_rfl) (by kernel_rfl) (by kernel_rfl) (fun _ _ _ h => h) (Or.inl ⟨by rfl, ?_⟩) (by assumption) ?_
      rotate_left 1
      · intro W hSw
        try dsimp only at hSw
        obtain ⟨hs1, hs2, hs3⟩ := hSw
        go_simp
        try with_reducible rfl
      try simp only [Act.put, List.setIfInBounds_toArray, List.set_cons_zero, List.set_cons_succ]
      refine wpAnyH_take (i := 1) (oi := ⟨_, _, _, _, _, _⟩) (v := ?_) rfl (by kernel_rfl) (by kernel_rfl) (by kernel_rfl) (fun _ _ _ h => h) (Or.inl ⟨by rfl, ?_⟩) (by assumption) ?_
      rotate_left 1
      · intro W hSw
        try dsimp only at hSw
        obtain ⟨hs1, hs2, hs3⟩ := hSw
        go_simp
        try with_reducible rfl
      try simp only [Act.put, List.setIfInBounds_toArray, List.set_cons_zero, List.set_cons_succ]
      refine wpAnyH_take (i := 2) (oi := ⟨_, _, _, _, _, _⟩) (v := ?_) rfl (by kernel_rfl) (by kernel_rfl) (by kernel_rfl) (fun _ _ _ h => h) (Or.inl ⟨by rfl, ?_⟩) (by assumption) ?_
      rotate_left 1
      · intro W hSw
        try dsimp only at hSw
        obtain ⟨hs1, hs2, hs3⟩ := hSw
        go_simp
        try with_reducible rfl
      try simp only [Act.put, List.setIfInBounds_toArray, List.set_cons_zero, List.set_cons_succ]
      refine wpAnyH_take (i := 3) (oi := ⟨_, _, _, _, _, _⟩) (v := ?_) rfl (by kernel_rfl) (by kernel_rfl) (by kernel_rfl) (fun _ _ _ h => h) (Or.inl ⟨by rfl, ?_⟩) (by assumption) ?_
      rotate_left 1
      · intro W hSw
        try dsimp only at hSw
        obtain ⟨hs1, hs2, hs3⟩ := hSw
        go_simp
        try with_reducible rfl
      try simp only [Act.put, List.setIfInBounds_toArray, List.set_cons_zero, List.set_cons_succ]
      refine wpAnyH_take (i := 4) (oi := ⟨_, _, _, _, _, _⟩) (v := .agg (hC id).toArray) rfl (by kernel_rfl) (by kernel_rfl) (by kernel_rfl) (fun _ _ _ h => h) (yieldsIf_load_mid (by rfl) 23 (.tmp 5) rfl pI 0 rfl (hC id) _ (fun W hS => hS.2.2) Tryz.underlying23 rfl (hszL id)) (by assumption) ?_
      try simp only [Act.put, List.setIfInBounds_toArray, List.set_cons_zero, List.set_cons_succ]
      refine wpAnyH_ready (rs := [5]) (by kernel_rfl) (by simp) ?_
      refine AllReadyH.cons rfl (fun K hK => ?_) AllReadyH.nil
      go_simp
      go_at_call 79
      refine (has2_any _ base m.g G HD.out.g HG.out.g id).mono ?_
      rintro e4 w4 ⟨rfl, hb4⟩
      have V4 : Hid (Below W.heap.size W w4) := nxUndr hb4
      clear hb4
      have C4 : Hid (w4.cell? ⟨pB, 0, none⟩ = some (.pointer (some ⟨m.q, 0, none⟩))) := (V4.out.cell (p := ⟨pB, 0, none⟩) HPl.out).trans HPc.out
      have D4 : Hid (w4.cell? ⟨m.q, 0, none⟩ = some (.pointer (some ⟨m.g.q, 0, none⟩))) := (HW.out.later V4.out).c.1
      have R4 : Hid (w4.rangeAt pI 0 (hC id)) := rngK HRi.out V4.out HIl.out
      rw [HZ.out]
      refine hK.out _ _ ⟨C4.out, D4.out, R4.out⟩ (fun hSn => ?_)
      clear hK K
      try simp only [Act.put, List.setIfInBounds_toArray, List.set_cons_zero, List.set_cons_succ]
      refine wpAnyH_take (i := 6) (oi := ⟨_, _, _, _, _, _⟩) (v := ?_) rfl (by kernel_rfl) (by kernel_rfl) (by kernel_rfl) (fun _ _ _ h => h) (Or.inl ⟨by rfl, ?_⟩) (by assumption) ?_
      rotate_left 1
      · intro W hSw
        try dsimp only at hSw
        obtain ⟨hs1, hs2, hs3⟩ := hSw
        go_simp
        try with_reducible rfl
      try simp only [Act.put, List.setIfInBounds_toArray, List.set_cons_zero, List.set_cons_succ]
      refine wpAnyH_done (by kernel_rfl) ?_ _
      go_wp2
      go_ret
      exact ⟨rfl, VW.out _ V4.out⟩
    · have hl0 : 0 < ps.length := by cases ps with | nil => exact absurd rfl h0 | cons a r => simp
      have hle := risH_le ps
      obtain ⟨r, hr⟩ : ∃ r, risH ps = r := ⟨_, rfl⟩
      have HR := Lib.hid hr
      have hnn : ((ps.length : Int) == 0) = false := by rw [beq_eq_false_iff_ne]; omega
      have hl64 := hm
      by_cases h1 : (risH ps).length = ps.length
      · have he9 : ∀ za, ps.any (fun p => (placeG G p).isNone) = za → addE G id ps = if za then 6 else 0 := fun za hza => by
          unfold addE
          rw [if_neg (by rw [hz]; decide), if_neg (by rintro (h | h); exact h0 h; exact h h1), hza]
        rw [hr] at hle h1
        have hltN : ¬ ((r.length : Int) < (ps.length : Int)) := by omega
        obtain ⟨za, hza⟩ : ∃ za, ps.any (fun p => (placeG G p).isNone) = za := ⟨_, rfl⟩
        have HA := Lib.hid hza
        have he1 := he9 za hza
        obtain ⟨zc, hzc⟩ : ∃ zc, decide (s ∈ ps) = zc := ⟨_, rfl⟩
        have HC := Lib.hid hzc
        cases za with
        | true =>
          have he : refE G id s ps = 6 := by unfold refE; rw [he1]; rfl
          rw [he]
          clear h hg hm hS he hz h0 hr h1 hle he1 he9 hza hzc
          go_enter Tryz.func56, Tryz.ntmps56
          go_wp2_with (go_at_call 49; refine (rx_made _ base m HW.out HL0.out).mono ?_; rintro e1 w1 ⟨rfl, hw1⟩; obtain rfl := hw1.symm)
          generalize hWW : (((w.alloc (.cells #[.pointer (some ⟨m.q, 0, none⟩)] 27)).alloc (.cells (hC id).toArray 23)).alloc (.cells (hC s).toArray 23)) = W at *
          obtain ⟨pB, hpB⟩ : ∃ pB, w.heap.size = pB := ⟨_, rfl⟩
          obtain ⟨pI, hpI⟩ : ∃ pI, pB + 1 = pI := ⟨_, rfl⟩
          obtain ⟨pS, hpS⟩ : ∃ pS, pI + 1 = pS := ⟨_, rfl⟩
          rw [hpB] at BX BI BS ⊢
          rw [hpI] at BI ⊢
          replace BS : Hid (Blk W pS 23 (hC s).toArray) := by show Blk _ _ _ _; rw [← hpS, ← hpI]; exact BS.out
          first | rw [hpS] | rw [show pB + 2 = pS by omega]
          have HPl : Hid (pB < W.heap.size) := BX.out.lt
          have HIl : Hid (pI < W.heap.size) := BI.out.lt
          have HPc : Hid (W.cell? ⟨pB, 0, none⟩ = some (.pointer (some ⟨m.q, 0, none⟩))) := BX.out.cell 0
          have HRi : Hid (W.rangeAt pI 0 (hC id)) := rxRng BI.out
          have HD : Hid (RxOk W.drew base m) := HW.out.later (rxDr (nxRefl _))
          have VW : Hid (∀ W', Below W.heap.size W W' → Below w.heap.size w W') := fun W' hb => nxTo V0.out hb
          clear hWW hpB hpI hpS V0
          refine wp_region_held_drew (S := fun W => W.cell? ⟨pB, 0, none⟩ = some (.pointer (some ⟨m.q, 0, none⟩)) ∧ W.cell? ⟨m.q, 0, none⟩ = some (.pointer (some ⟨m.g.q, 0, none⟩)) ∧ W.rangeAt pI 0 (hC id)) (by kernel_rfl) ⟨HPc.out, HD.out.c.1, HRi.out⟩ (fun hHeld => ?_)
          refine wpAnyH_take (i := 0) (oi := ⟨_, _, _, _, _, _⟩) (v := ?_) rfl (by kernel_rfl) (by kernel_rfl) (by kernel_rfl) (fun _ _ _ h => h) (Or.inl ⟨by rfl, ?_⟩) (by assumption) ?_
          rotate_left 1
          · intro W hSw
            try dsimp only at hSw
            obtain ⟨hs1, hs2, hs3⟩ := hSw
            go_simp
            try with_reducible rfl
          try simp only [Act.put, List.setIfInBounds_toArray, List.set_cons_zero, List.set_cons_succ]
          refine wpAnyH_take (i := 1) (oi := ⟨_, _, _, _, _, _⟩) (v := ?_) rfl (by kernel_rfl) (by kernel_rfl) (by kernel_rfl) (fun _ _ _ h => h) (Or.inl ⟨by rfl, ?_⟩) (by assumption) ?_
          rotate_left 1
          · intro W hSw
            try dsimp only at hSw
            obtain ⟨hs1, hs2, hs3⟩ := hSw
            go_simp
            try with_reducible rfl
          try simp only [Act.put, List.setIfInBounds_toArray, List.set_cons_zero, List.set_cons_succ]
          refine wpAnyH_take (i := 2) (oi := ⟨_, _, _, _, _, _⟩) (v := ?_) rfl (by kernel_rfl) (by kernel_rfl) (by kernel_rfl) (fun _ _ _ h => h) (Or.inl ⟨by rfl, ?_⟩) (by assumption) ?_
          rotate_left 1
          · intro W hSw
            try dsimp only at hSw
            obtain ⟨hs1, hs2, hs3⟩ := hSw
            go_simp
            try with_reducible rfl
          try simp only [Act.put, List.setIfInBounds_toArray, List.set_cons_zero, List.set_cons_succ]
          refine wpAnyH_take (i := 3) (oi := ⟨_, _, _, _, _, _⟩) (v := ?_) rfl (by kernel_rfl) (by kernel_rfl) (by kernel_rfl) (fun _ _ _ h => h) (Or.inl ⟨by rfl, ?_⟩) (by assumption) ?_
          rotate_left 1
          · intro W hSw
            try dsimp only at hSw
            obtain ⟨hs1, hs2, hs3⟩ := hSw
            go_simp
            try with_reducible rfl
          try simp only [Act.put, List.setIfInBounds_toArray, List.set_cons_zero, List.set_cons_succ]
          refine wpAnyH_take (i := 4) (oi := ⟨_, _, _, _, _, _⟩) (v := .agg (hC id).toArray) rfl (by kernel_rfl) (by kernel_rfl) (by kernel_rfl) (fun _ _ _ h => h) (yieldsIf_load_mid (by rfl) 23 (.tmp 5) rfl pI 0 rfl (hC id) _ (fun W hS => hS.2.2) Tryz.underlying23 rfl (hszL id)) (by assumption) ?_
          try simp only [Act.put, List.setIfInBounds_toArray, List.set_cons_zero, List.set_cons_succ]
          refine wpAnyH_ready (rs := [5]) (by kernel_rfl) (by simp) ?_
          refine AllReadyH.cons rfl (fun K hK => ?_) AllReadyH.nil
          go_simp
          go_at_call 79
          refine (has2_any _ base m.g G HD.out.g HG.out.g id).mono ?_
          rintro e4 w4 ⟨rfl, hb4⟩
          have V4 : Hid (Below W.heap.size W w4) := nxUndr hb4
          clear hb4
          have C4 : Hid (w4.cell? ⟨pB, 0, none⟩ = some (.pointer (some ⟨m.q, 0, none⟩))) := (V4.out.cell (p := ⟨pB, 0, none⟩) HPl.out).trans HPc.out
          have D4 : Hid (w4.cell? ⟨m.q, 0, none⟩ = some (.pointer (some ⟨m.g.q, 0, none⟩))) := (HW.out.later V4.out).c.1
          have R4 : Hid (w4.rangeAt pI 0 (hC id)) := rngK HRi.out V4.out HIl.out
          rw [HZ.out]
          refine hK.out _ _ ⟨C4.out, D4.out, R4.out⟩ (fun hSn => ?_)
          clear hK K
          try simp only [Act.put, List.setIfInBounds_toArray, List.set_cons_zero, List.set_cons_succ]
          refine wpAnyH_take (i := 6) (oi := ⟨_, _, _, _, _, _⟩) (v := ?_) rfl (by kernel_rfl) (by kernel_rfl) (by kernel_rfl) (fun _ _ _ h => h) (Or.inl ⟨by rfl, ?_⟩) (by assumption) ?_
          rotate_left 1
          · intro W hSw
            try dsimp only at hSw
            obtain ⟨hs1, hs2, hs3⟩ := hSw
            go_simp
            try with_reducible rfl
          try simp only [Act.put, List.setIfInBounds_toArray, List.set_cons_zero, List.set_cons_succ]
          refine wpAnyH_done (by kernel_rfl) ?_ _
          go_wp2_with (first
            | (go_at_call 38; refine (sorted_any w4 A ps c (HS.out w4 (VW.out _ V4.out)) HM.out).mono ?_; unfold SortPost; rw [HR.out]; rintro e5 w5 ⟨A5, c5, rfl, ho5, hb5⟩; have V5 : Hid (Below W.heap.size W w5) := nxTo V4.out hb5; clear ho5 hb5)
            | (go_at_call 80; refine (rx_containsF w5 A ps c (HS.out w5 (VW.out _ V5.out)) HM.out pB (fun x => (placeG G x).isNone) (fun W' hW' x => rx_refused1 W' base m G (HW.out.later (nxTo V5.out hW')) HG.out pB (Nat.lt_of_lt_of_le HPl.out (nxTo V5.out hW').size) (((nxTo V5.out hW').cell (p := ⟨pB, 0, none⟩) HPl.out).trans HPc.out) x)).mono ?_; rw [HA.out]; rintro e6 w6 ⟨rfl, hb6⟩; have V6 : Hid (Below W.heap.size W w6) := nxTo V5.out hb6; have BS6 := Lib.hid (BS.out.below V6.out BS.out.lt); clear hb6))
          go_ret
          exact ⟨rfl, VW.out _ V6.out⟩
        | false =>
          have he : refE G id s ps = if zc then 0 else 2 := by unfold refE; rw [he1, ← hzc]; simp
          cases zc with
          | true =>
            rw [he]
            clear h hg hm hS he hz h0 hr h1 hle he1 he9 hza hzc
            go_enter Tryz.func56, Tryz.ntmps56
            go_wp2_with (go_at_call 49; refine (rx_made _ base m HW.out HL0.out).mono ?_; rintro e1 w1 ⟨rfl, hw1⟩; obtain rfl := hw1.symm)
            generalize hWW : (((w.alloc (.cells #[.pointer (some ⟨m.q, 0, none⟩)] 27)).alloc (.cells (hC id).toArray 23)).alloc (.cells (hC s).toArray 23)) = W at *
            obtain ⟨pB, hpB⟩ : ∃ pB, w.heap.size = pB := ⟨_, rfl⟩
            obtain ⟨pI, hpI⟩ : ∃ pI, pB + 1 = pI := ⟨_, rfl⟩
            obtain ⟨pS, hpS⟩ : ∃ pS, pI + 1 = pS := ⟨_, rfl⟩
            rw [hpB] at BX BI BS ⊢
            rw [hpI] at BI ⊢
            replace BS : Hid (Blk W pS 23 (hC s).toArray) := by show Blk _ _ _ _; rw [← hpS, ← hpI]; exact BS.out
            first | rw [hpS] | rw [show pB + 2 = pS by omega]
            have HPl : Hid (pB < W.heap.size) := BX.out.lt
            have HIl : Hid (pI < W.heap.size) := BI.out.lt
            have HPc : Hid (W.cell? ⟨pB, 0, none⟩ = some (.pointer (some ⟨m.q, 0, none⟩))) := BX.out.cell 0
            have HRi : Hid (W.rangeAt pI 0 (hC id)) := rxRng BI.out
            have HD : Hid (RxOk W.drew base m) := HW.out.later (rxDr (nxRefl _))
            have VW : Hid (∀ W', Below W.heap.size W W' → Below w.heap.size w W') := fun W' hb => nxTo V0.out hb
            clear hWW hpB hpI hpS V0
            refine wp_region_held_drew (S := fun W => W.cell? ⟨pB, 0, none⟩ = some (.pointer (some ⟨m.q, 0, none⟩)) ∧ W.cell? ⟨m.q, 0, none⟩ = some (.pointer (some ⟨m.g.q, 0, none⟩)) ∧ W.rangeAt pI 0 (hC id)) (by kernel_rfl) ⟨HPc.out, HD.out.c.1, HRi.out⟩ (fun hHeld => ?_)
            refine wpAnyH_take (i := 0) (oi := ⟨_, _, _, _, _, _⟩) (v := ?_) rfl (by kernel_rfl) (by kernel_rfl) (by kernel_rfl) (fun _ _ _ h => h) (Or.inl ⟨by rfl, ?_⟩) (by assumption) ?_
            rotate_left 1
            · intro W hSw
              try dsimp only at hSw
              obtain ⟨hs1, hs2, hs3⟩ := hSw
              go_simp
              try with_reducible rfl
            try simp only [Act.put, List.setIfInBounds_toArray, List.set_cons_zero, List.set_cons_succ]
            refine wpAnyH_take (i := 1) (oi := ⟨_, _, _, _, _, _⟩) (v := ?_) rfl (by kernel_rfl) (by kernel_rfl) (by kernel_rfl) (fun _ _ _ h => h) (Or.inl ⟨by rfl, ?_⟩) (by assumption) ?_
            rotate_left 1
            · intro W hSw
              try dsimp only at hSw
              obtain ⟨hs1, hs2, hs3⟩ := hSw
              go_simp
              try with_reducible rfl
            try simp only [Act.put, List.setIfInBounds_toArray, List.set_cons_zero, List.set_cons_succ]
            refine wpAnyH_take (i := 2) (oi := ⟨_, _, _, _, _, _⟩) (v := ?_) rfl (by kernel_rfl) (by kernel_rfl) (by kernel_rfl) (fun _ _ _ h => h) (Or.inl ⟨by rfl, ?_⟩) (by assumption) ?_
            rotate_left 1
            · intro W hSw
              try dsimp only at hSw
              obtain ⟨hs1, hs2, hs3⟩ := hSw
              go_simp
              try with_reducible rfl
            try simp only [Act.put, List.setIfInBounds_toArray, List.set_cons_zero, List.set_cons_succ]
            refine wpAnyH_take (i := 3) (oi := ⟨_, _, _, _, _, _⟩) (v := ?_) rfl (by kernel_rfl) (by kernel_rfl) (by kernel_rfl) (fun _ _ _ h => h) (Or.inl ⟨by rfl, ?_⟩) (by assumption) ?_
            rotate_left 1
            · intro W hSw
              try dsimp only at hSw
              obtain ⟨hs1, hs2, hs3⟩ := hSw
              go_simp
              try with_reducible rfl
            try simp only [Act.put, List.setIfInBounds_toArray, List.set_cons_zero, List.set_cons_succ]
            refine wpAnyH_take (i := 4) (oi := ⟨_, _, _, _, _, _⟩) (v := .agg (hC id).toArray) rfl (by kernel_rfl) (by kernel_rfl) (by kernel_rfl) (fun _ _ _ h => h) (yieldsIf_load_mid (by rfl) 23 (.tmp 5) rfl pI 0 rfl (hC id) _ (fun W hS => hS.2.2) Tryz.underlying23 rfl (hszL id)) (by assumption) ?_
            try simp only [Act.put, List.setIfInBounds_toArray, List.set_cons_zero, List.set_cons_succ]
            refine wpAnyH_ready (rs := [5]) (by kernel_rfl) (by simp) ?_
            refine AllReadyH.cons rfl (fun K hK => ?_) AllReadyH.nil
            go_simp
            go_at_call 79
            refine (has2_any _ base m.g G HD.out.g HG.out.g id).mono ?_
            rintro e4 w4 ⟨rfl, hb4⟩
            have V4 : Hid (Below W.heap.size W w4) := nxUndr hb4
            clear hb4
            have C4 : Hid (w4.cell? ⟨pB, 0, none⟩ = some (.pointer (some ⟨m.q, 0, none⟩))) := (V4.out.cell (p := ⟨pB, 0, none⟩) HPl.out).trans HPc.out
            have D4 : Hid (w4.cell? ⟨m.q, 0, none⟩ = some (.pointer (some ⟨m.g.q, 0, none⟩))) := (HW.out.later V4.out).c.1
            have R4 : Hid (w4.rangeAt pI 0 (hC id)) := rngK HRi.out V4.out HIl.out
            rw [HZ.out]
            refine hK.out _ _ ⟨C4.out, D4.out, R4.out⟩ (fun hSn => ?_)
            clear hK K
            try simp only [Act.put, List.setIfInBounds_toArray, List.set_cons_zero, List.set_cons_succ]
            refine wpAnyH_take (i := 6) (oi := ⟨_, _, _, _, _, _⟩) (v := ?_) rfl (by kernel_rfl) (by kernel_rfl) (by kernel_rfl) (fun _ _ _ h => h) (Or.inl ⟨by rfl, ?_⟩) (by assumption) ?_
            rotate_left 1
            · intro W hSw
              try dsimp only at hSw
              obtain ⟨hs1, hs2, hs3⟩ := hSw
              go_simp
              try with_reducible rfl
            try simp only [Act.put, List.setIfInBounds_toArray, List.set_cons_zero, List.set_cons_succ]
            refine wpAnyH_done (by kernel_rfl) ?_ _
            go_wp2_with (first
              | (go_at_call 38; refine (sorted_any w4 A ps c (HS.out w4 (VW.out _ V4.out)) HM.out).mono ?_; unfold SortPost; rw [HR.out]; rintro e5 w5 ⟨A5, c5, rfl, ho5, hb5⟩; have V5 : Hid (Below W.heap.size W w5) := nxTo V4.out hb5; clear ho5 hb5)
              | (go_at_call 80; refine (rx_containsF w5 A ps c (HS.out w5 (VW.out _ V5.out)) HM.out pB (fun x => (placeG G x).isNone) (fun W' hW' x => rx_refused1 W' base m G (HW.out.later (nxTo V5.out hW')) HG.out pB (Nat.lt_of_lt_of_le HPl.out (nxTo V5.out hW').size) (((nxTo V5.out hW').cell (p := ⟨pB, 0, none⟩) HPl.out).trans HPc.out) x)).mono ?_; rw [HA.out]; rintro e6 w6 ⟨rfl, hb6⟩; have V6 : Hid (Below W.heap.size W w6) := nxTo V5.out hb6; have BS6 := Lib.hid (BS.out.below V6.out BS.out.lt); clear hb6)
              | ((with_reducible show wpList _ _ _ (⟨some 38, _, _, _, _, _⟩ :: _) _ _); refine wpList_load_mid rfl 23 (.tmp 6) rfl pS 0 rfl (hC s) _ (rxRng BS6.out) Tryz.underlying23 rfl (hszL s) ?_)
              | (go_at_call 82; refine (rx_contains w6 A ps c s (HS.out w6 (VW.out _ V6.out)) HM.out).mono ?_; rw [HC.out]; rintro e7 w7 ⟨rfl, hb7⟩; have V7 : Hid (Below W.heap.size W w7) := nxTo V6.out hb7; clear hb7))
            go_ret
            exact ⟨rfl, VW.out _ V7.out⟩
          | false =>
            rw [he]
            clear h hg hm hS he hz h0 hr h1 hle he1 he9 hza hzc
            go_enter Tryz.func56, Tryz.ntmps56
            go_wp2_with (go_at_call 49; refine (rx_made _ base m HW.out HL0.out).mono ?_; rintro e1 w1 ⟨rfl, hw1⟩; obtain rfl := hw1.symm)
            generalize hWW : (((w.alloc (.cells #[.pointer (some ⟨m.q, 0, none⟩)] 27)).alloc (.cells (hC id).toArray 23)).alloc (.cells (hC s).toArray 23)) = W at *
            obtain ⟨pB, hpB⟩ : ∃ pB, w.heap.size = pB := ⟨_, rfl⟩
            obtain ⟨pI, hpI⟩ : ∃ pI, pB + 1 = pI := ⟨_, rfl⟩
            obtain ⟨pS, hpS⟩ : ∃ pS, pI + 1 = pS := ⟨_, rfl⟩
            rw [hpB] at BX BI BS ⊢
            rw [hpI] at BI ⊢
            replace BS : Hid (Blk W pS 23 (hC s).toArray) := by show Blk _ _ _ _; rw [← hpS, ← hpI]; exact BS.out
            first | rw [hpS] | rw [show pB + 2 = pS by omega]
            have HPl : Hid (pB < W.heap.size) := BX.out.lt
            have HIl : Hid (pI < W.heap.size) := BI.out.lt
            have HPc : Hid (W.cell? ⟨pB, 0, none⟩ = some (.pointer (some ⟨m.q, 0, none⟩))) := BX.out.cell 0
            have HRi : Hid (W.rangeAt pI 0 (hC id)) := rxRng BI.out
            have HD : Hid (RxOk W.drew base m) := HW.out.later (rxDr (nxRefl _))
            have VW : Hid (∀ W', Below W.heap.size W W' → Below w.heap.size w W') := fun W' hb => nxTo V0.out hb
            clear hWW hpB hpI hpS V0
            refine wp_region_held_drew (S := fun W => W.cell? ⟨pB, 0, none⟩ = some (.pointer (some ⟨m.q, 0, none⟩)) ∧ W.cell? ⟨m.q, 0, none⟩ = some (.pointer (some ⟨m.g.q, 0, none⟩)) ∧ W.rangeAt pI 0 (hC id)) (by kernel_rfl) ⟨HPc.out, HD.out.c.1, HRi.out⟩ (fun hHeld => ?_)
            refine wpAnyH_take (i := 0) (oi := ⟨_, _, _, _, _, _⟩) (v := ?_) rfl (by kernel_rfl) (by kernel_rfl) (by kernel_rfl) (fun _ _ _ h => h) (Or.inl ⟨by rfl, ?_⟩) (by assumption) ?_
            rotate_left 1
            · intro W hSw
              try dsimp only at hSw
              obtain ⟨hs1, hs2, hs3⟩ := hSw
              go_simp
              try with_reducible rfl
            try simp only [Act.put, List.setIfInBounds_toArray, List.set_cons_zero, List.set_cons_succ]
            refine wpAnyH_take (i := 1) (oi := ⟨_, _, _, _, _, _⟩) (v := ?_) rfl (by kernel_rfl) (by kernel_rfl) (by kernel_rfl) (fun _ _ _ h => h) (Or.inl ⟨by rfl, ?_⟩) (by assumption) ?_
            rotate_left 1
            · intro W hSw
              try dsimp only at hSw
              obtain ⟨hs1, hs2, hs3⟩ := hSw
              go_simp
              try with_reducible rfl
            try simp only [Act.put, List.setIfInBounds_toArray, List.set_cons_zero, List.set_cons_succ]
            refine wpAnyH_take (i := 2) (oi := ⟨_, _, _, _, _, _⟩) (v := ?_) rfl (by kernel_rfl) (by kernel_rfl) (by kernel_rfl) (fun _ _ _ h => h) (Or.inl ⟨by rfl, ?_⟩) (by assumption) ?_
            rotate_left 1
            · intro W hSw
              try dsimp only at hSw
              obtain ⟨hs1, hs2, hs3⟩ := hSw
              go_simp
              try with_reducible rfl
            try simp only [Act.put, List.setIfInBounds_toArray, List.set_cons_zero, List.set_cons_succ]
            refine wpAnyH_take (i := 3) (oi := ⟨_, _, _, _, _, _⟩) (v := ?_) rfl (by kernel_rfl) (by kernel_rfl) (by kernel_rfl) (fun _ _ _ h => h) (Or.inl ⟨by rfl, ?_⟩) (by assumption) ?_
            rotate_left 1
            · intro W hSw
              try dsimp only at hSw
              obtain ⟨hs1, hs2, hs3⟩ := hSw
              go_simp
              try with_reducible rfl
            try simp only [Act.put, List.setIfInBounds_toArray, List.set_cons_zero, List.set_cons_succ]
            refine wpAnyH_take (i := 4) (oi := ⟨_, _, _, _, _, _⟩) (v := .agg (hC id).toArray) rfl (by kernel_rfl) (by kernel_rfl) (by kernel_rfl) (fun _ _ _ h => h) (yieldsIf_load_mid (by rfl) 23 (.tmp 5) rfl pI 0 rfl (hC id) _ (fun W hS => hS.2.2) Tryz.underlying23 rfl (hszL id)) (by assumption) ?_
            try simp only [Act.put, List.setIfInBounds_toArray, List.set_cons_zero, List.set_cons_succ]
            refine wpAnyH_ready (rs := [5]) (by kernel_rfl) (by simp) ?_
            refine AllReadyH.cons rfl (fun K hK => ?_) AllReadyH.nil
            go_simp
            go_at_call 79
            refine (has2_any _ base m.g G HD.out.g HG.out.g id).mono ?_
            rintro e4 w4 ⟨rfl, hb4⟩
            have V4 : Hid (Below W.heap.size W w4) := nxUndr hb4
            clear hb4
            have C4 : Hid (w4.cell? ⟨pB, 0, none⟩ = some (.pointer (some ⟨m.q, 0, none⟩))) := (V4.out.cell (p := ⟨pB, 0, none⟩) HPl.out).trans HPc.out
            have D4 : Hid (w4.cell? ⟨m.q, 0, none⟩ = some (.pointer (some ⟨m.g.q, 0, none⟩))) := (HW.out.later V4.out).c.1
            have R4 : Hid (w4.rangeAt pI 0 (hC id)) := rngK HRi.out V4.out HIl.out
            rw [HZ.out]
            refine hK.out _ _ ⟨C4.out, D4.out, R4.out⟩ (fun hSn => ?_)
            clear hK K
            try simp only [Act.put, List.setIfInBounds_toArray, List.set_cons_zero, List.set_cons_succ]
            refine wpAnyH_take (i := 6) (oi := ⟨_, _, _, _, _, _⟩) (v := ?_) rfl (by kernel_rfl) (by kernel_rfl) (by kernel_rfl) (fun _ _ _ h => h) (Or.inl ⟨by rfl, ?_⟩) (by assumption) ?_
            rotate_left 1
            · intro W hSw
              try dsimp only at hSw
              obtain ⟨hs1, hs2, hs3⟩ := hSw
              go_simp
              try with_reducible rfl
            try simp only [Act.put, List.setIfInBounds_toArray, List.set_cons_zero, List.set_cons_succ]
            refine wpAnyH_done (by kernel_rfl) ?_ _
            go_wp2_with (first
              | (go_at_call 38; refine (sorted_any w4 A ps c (HS.out w4 (VW.out _ V4.out)) HM.out).mono ?_; unfold SortPost; rw [HR.out]; rintro e5 w5 ⟨A5, c5, rfl, ho5, hb5⟩; have V5 : Hid (Below W.heap.size W w5) := nxTo V4.out hb5; clear ho5 hb5)
              | (go_at_call 80; refine (rx_containsF w5 A ps c (HS.out w5 (VW.out _ V5.out)) HM.out pB (fun x => (placeG G x).isNone) (fun W' hW' x => rx_refused1 W' base m G (HW.out.later (nxTo V5.out hW')) HG.out pB (Nat.lt_of_lt_of_le HPl.out (nxTo V5.out hW').size) (((nxTo V5.out hW').cell (p := ⟨pB, 0, none⟩) HPl.out).trans HPc.out) x)).mono ?_; rw [HA.out]; rintro e6 w6 ⟨rfl, hb6⟩; have V6 : Hid (Below W.heap.size W w6) := nxTo V5.out hb6; have BS6 := Lib.hid (BS.out.below V6.out BS.out.lt); clear hb6)
              | ((with_reducible show wpList _ _ _ (⟨some 38, _, _, _, _, _⟩ :: _) _ _); refine wpList_load_mid rfl 23 (.tmp 6) rfl pS 0 rfl (hC s) _ (rxRng BS6.out) Tryz.underlying23 rfl (hszL s) ?_)
              | (go_at_call 82; refine (rx_contains w6 A ps c s (HS.out w6 (VW.out _ V6.out)) HM.out).mono ?_; rw [HC.out]; rintro e7 w7 ⟨rfl, hb7⟩; have V7 : Hid (Below W.heap.size W w7) := nxTo V6.out hb7; clear hb7))
            go_ret
            exact ⟨rfl, VW.out _ V7.out⟩
      · have he : refE G id s ps = 9 := by unfold refE addE; simp [hz, h1]
        rw [he]
        rw [hr] at hle h1
        have hltN : (r.length : Int) < (ps.length : Int) := by omega
        clear h hg hm hS he hz h0 hr h1 hle
        go_enter Tryz.func56, Tryz.ntmps56
        go_wp2_with (go_at_call 49; refine (rx_made _ base m HW.out HL0.out).mono ?_; rintro e1 w1 ⟨rfl, hw1⟩; obtain rfl := hw1.symm)
        generalize hWW : (((w.alloc (.cells #[.pointer (some ⟨m.q, 0, none⟩)] 27)).alloc (.cells (hC id).toArray 23)).alloc (.cells (hC s).toArray 23)) = W at *
        obtain ⟨pB, hpB⟩ : ∃ pB, w.heap.size = pB := ⟨_, rfl⟩
        obtain ⟨pI, hpI⟩ : ∃ pI, pB + 1 = pI := ⟨_, rfl⟩
        obtain ⟨pS, hpS⟩ : ∃ pS, pI + 1 = pS := ⟨_, rfl⟩
        rw [hpB] at BX BI BS ⊢
        rw [hpI] at BI ⊢
        replace BS : Hid (Blk W pS 23 (hC s).toArray) := by show Blk _ _ _ _; rw [← hpS, ← hpI]; exact BS.out
        first | rw [hpS] | rw [show pB + 2 = pS by omega]
        have HPl : Hid (pB < W.heap.size) := BX.out.lt
        have HIl : Hid (pI < W.heap.size) := BI.out.lt
        have HPc : Hid (W.cell? ⟨pB, 0, none⟩ = some (.pointer (some ⟨m.q, 0, none⟩))) := BX.out.cell 0
        have HRi : Hid (W.rangeAt pI 0 (hC id)) := rxRng BI.out
        have HD : Hid (RxOk W.drew base m) := HW.out.later (rxDr (nxRefl _))
        have VW : Hid (∀ W', Below W.heap.size W W' → Below w.heap.size w W') := fun W' hb => nxTo V0.out hb
        clear hWW hpB hpI hpS V0
        refine wp_region_held_drew (S := fun W => W.cell? ⟨pB, 0, none⟩ = some (.pointer (some ⟨m.q, 0, none⟩)) ∧ W.cell? ⟨m.q, 0, none⟩ = some (.pointer (some ⟨m.g.q, 0, none⟩)) ∧ W.rangeAt pI 0 (hC id)) (by kernel_rfl) ⟨HPc.out, HD.out.c.1, HRi.out⟩ (fun hHeld => ?_)
        refine wpAnyH_take (i := 0) (oi := ⟨_, _, _, _, _, _⟩) (v := ?_) rfl (by kernel_rfl) (by kernel_rfl) (by kernel_rfl) (fun _ _ _ h => h) (Or.inl ⟨by rfl, ?_⟩) (by assumption) ?_
        rotate_left 1
        · intro W hSw
          try dsimp only at hSw
          obtain ⟨hs1, hs2, hs3⟩ := hSw
          go_simp
          try with_reducible rfl
        try simp only [Act.put, List.setIfInBounds_toArray, List.set_cons_zero, List.set_cons_succ]
        refine wpAnyH_take (i := 1) (oi := ⟨_, _, _, _, _, _⟩) (v := ?_) rfl (by kernel_rfl) (by kernel_rfl) (by kernel_rfl) (fun _ _ _ h => h) (Or.inl ⟨by rfl, ?_⟩) (by assumption) ?_
        rotate_left 1
        · intro W hSw
          try dsimp only at hSw
          obtain ⟨hs1, hs2, hs3⟩ := hSw
          go_simp
          try with_reducible rfl
        try simp only [Act.put, List.setIfInBounds_toArray, List.set_cons_zero, List.set_cons_succ]
        refine wpAnyH_take (i := 2) (oi := ⟨_, _, _, _, _, _⟩) (v := ?_) rfl (by kernel_rfl) (by kernel_rfl) (by kernel_rfl) (fun _ _ _ h => h) (Or.inl ⟨by rfl, ?_⟩) (by assumption) ?_
        rotate_left 1
        · intro W hSw
          try dsimp only at hSw
          obtain ⟨hs1, hs2, hs3⟩ := hSw
          go_simp
          try with_reducible rfl
        try simp only [Act.put, List.setIfInBounds_toArray, List.set_cons_zero, List.set_cons_succ]
        refine wpAnyH_take (i := 3) (oi := ⟨_, _, _, _, _, _⟩) (v := ?_) rfl (by kernel_rfl) (by kernel_rfl) (by kernel_rfl) (fun _ _ _ h => h) (Or.inl ⟨by rfl, ?_⟩) (by assumption) ?_
        rotate_left 1
        · intro W hSw
          try dsimp only at hSw
          obtain ⟨hs1, hs2, hs3⟩ := hSw
          go_simp
          try with_reducible rfl
        try simp only [Act.put, List.setIfInBounds_toArray, List.set_cons_zero, List.set_cons_succ]
        refine wpAnyH_take (i := 4) (oi := ⟨_, _, _, _, _, _⟩) (v := .agg (hC id).toArray) rfl (by kernel_rfl) (by kernel_rfl) (by kernel_rfl) (fun _ _ _ h => h) (yieldsIf_load_mid (by rfl) 23 (.tmp 5) rfl pI 0 rfl (hC id) _ (fun W hS => hS.2.2) Tryz.underlying23 rfl (hszL id)) (by assumption) ?_
        try simp only [Act.put, List.setIfInBounds_toArray, List.set_cons_zero, List.set_cons_succ]
        refine wpAnyH_ready (rs := [5]) (by kernel_rfl) (by simp) ?_
        refine AllReadyH.cons rfl (fun K hK => ?_) AllReadyH.nil
        go_simp
        go_at_call 79
        refine (has2_any _ base m.g G HD.out.g HG.out.g id).mono ?_
        rintro e4 w4 ⟨rfl, hb4⟩
        have V4 : Hid (Below W.heap.size W w4) := nxUndr hb4
        clear hb4
        have C4 : Hid (w4.cell? ⟨pB, 0, none⟩ = some (.pointer (some ⟨m.q, 0, none⟩))) := (V4.out.cell (p := ⟨pB, 0, none⟩) HPl.out).trans HPc.out
        have D4 : Hid (w4.cell? ⟨m.q, 0, none⟩ = some (.pointer (some ⟨m.g.q, 0, none⟩))) := (HW.out.later V4.out).c.1
        have R4 : Hid (w4.rangeAt pI 0 (hC id)) := rngK HRi.out V4.out HIl.out
        rw [HZ.out]
        refine hK.out _ _ ⟨C4.out, D4.out, R4.out⟩ (fun hSn => ?_)
        clear hK K
        try simp only [Act.put, List.setIfInBounds_toArray, List.set_cons_zero, List.set_cons_succ]
        refine wpAnyH_take (i := 6) (oi := ⟨_, _, _, _, _, _⟩) (v := ?_) rfl (by kernel_rfl) (by kernel_rfl) (by kernel_rfl) (fun _ _ _ h => h) (Or.inl ⟨by rfl, ?_⟩) (by assumption) ?_
        rotate_left 1
        · intro W hSw
          try dsimp only at hSw
          obtain ⟨hs1, hs2, hs3⟩ := hSw
          go_simp
          try with_reducible rfl
        try simp only [Act.put, List.setIfInBounds_toArray, List.set_cons_zero, List.set_cons_succ]
        refine wpAnyH_done (by kernel_rfl) ?_ _
        go_wp2_with (go_at_call 38; refine (sorted_any w4 A ps c (HS.out w4 (VW.out _ V4.out)) HM.out).mono ?_; unfold SortPost; rw [HR.out]; rintro e5 w5 ⟨A5, c5, rfl, ho5, hb5⟩; have V5 : Hid (Below W.heap.size W w5) := nxTo V4.out hb5; clear ho5 hb5)
        go_ret
        exact ⟨rfl, VW.out _ V5.out⟩
end Go.Proofs.YtbfpckomgpkjgaaGreat
