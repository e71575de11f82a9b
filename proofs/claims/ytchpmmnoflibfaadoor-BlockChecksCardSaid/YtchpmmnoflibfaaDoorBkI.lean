/-
  BlockChecks, the walk.
-/
import Derived.Test.YtchpmmnoflibfaaDoorBkF
import Derived.Test.YtchpmmnoflibfaaDoorBkG
import Derived.Test.YtchpmmnoflibfaaDoorBkH
namespace Go.Proofs.YtchpmmnoflibfaaDoor
open Go.RowKit

def noBk : BkR := ⟨⟨none, 0, ⟨[], zero32, zero32, zero32, zero32, 0⟩⟩, none, [], 0⟩
theorem Tryd.bkinfo : (Tryd.prog.info? 44).map (fun i => (i.zero, i.size, i.bytes)) = some (some (.agg (bkC noBk).toArray), 131, 184) := by kernel_rfl

set_option maxHeartbeats 1000000 in
set_option maxRecDepth 100000 in
theorem bchecks_any (w : World) (hTb : Tabs w) (b : BkR) (h : BkOk w b) : Calls Tryd.prog 4 #[.agg (bkC b).toArray] w fun e w' => e = .returned (.bool true) ∧ Below w.heap.size w w' := by
  have hb0 : Below w.heap.size w (w.alloc (.cells (bkC b).toArray 44)) := nxAl (nxRf w) _
  have Hb0 := Lib.hid hb0
  have HB0 : Hid (Blk (w.alloc (.cells (bkC b).toArray 44)) w.heap.size 44 (bkC b).toArray) := heap_alloc_new w _
  have HR := Lib.hid (blkR (vs := bkC b) HB0.out)
  have HROW := Lib.hid (BkRow.of HR.out h.h.f)
  have HK := Lib.hid (h.later hb0)
  have HZ := Lib.hid (bkSz h.h.f)
  have HBl := Lib.hid (bkC_len h.h.f)
  have Hlt : Hid (w.heap.size < (w.alloc (.cells (bkC b).toArray 44)).heap.size) := by show _ < _; simp
  have HTb := Lib.hid (hTb.later hb0)
  have HMu : Hid (Calls Tryd.prog 15 #[.slice (some ⟨w.heap.size + 1, 0, none⟩) 1 1, .int .i64 1] ((w.alloc (.cells (bkC b).toArray 44)).alloc (.cells (bkC b).toArray 44)) (MuchPost ((w.alloc (.cells (bkC b).toArray 44)).alloc (.cells (bkC b).toArray 44)) (∀ x ∈ [b], fewB x))) := by
    have hB1 : Blk ((w.alloc (.cells (bkC b).toArray 44)).alloc (.cells (bkC b).toArray 44)) (w.heap.size + 1) 44 (bkC b).toArray := Blk.newAt (by simp) rfl
    have h1 := much6_any ((w.alloc (.cells (bkC b).toArray 44)).alloc (.cells (bkC b).toArray 44)) (w.heap.size + 1) 1 [b] 1 (by omega) (fun k hk => by
      have e : k = 0 := by simp at hk; exact hk
      subst e
      exact blkR hB1) (fun x hx => by
      rw [List.mem_singleton] at hx
      subst hx
      exact HK.out.later (nxAl (nxRf _) _)) (by simp)
    exact h1
  obtain ⟨x, hx⟩ : ∃ x, rootL (idsL b.txs) = x := ⟨_, rfl⟩
  have HX := Lib.hid hx
  have HXl : Hid (x.length = 32) := by show _ = _; rw [← hx, rootL_len]
  have hnq := neq_hash x HXl.out
  obtain ⟨E, hE⟩ : ∃ E, checkK b = E := ⟨_, rfl⟩
  have HE := Lib.hid hE
  clear hb0 h hTb hx hE
  by_cases hz : E = 0
  · subst hz
    have HF0 := Lib.hid (checkK_ok (b := b) HE.out)
    obtain ⟨F, hF⟩ : ∃ F, packK b = F := ⟨_, rfl⟩
    have HF := Lib.hid hF
    clear hF
    have K1 : Hid (BkOk ((w.alloc (.cells (bkC b).toArray 44)).alloc (.cells (bkC b).toArray 44)) b) := HK.out.later (nxAl (nxRf _) _)
    go_enter Tryd.func4, Tryd.ntmps4
    go_wp2_with (first
      | ((with_reducible show wpList _ _ _ (⟨some 6, _, _, _, _, _⟩ :: _) _ _); refine wpList_load_mid rfl 44 (.tmp 1) rfl w.heap.size 0 rfl (bkC b) _ HR.out Tryd.underlying44 rfl HZ.out ?_)
      | ((with_reducible show wpList _ _ _ (⟨some 7, _, _, _, _, _⟩ :: _) _ _); refine wpList_build_one rfl 46 44 (.tmp 6) rfl (bkC b) _ 131 184 Tryd.underlying46 Tryd.bkinfo (by decide) (by decide) HBl.out rfl ?_)
      | (go_at_call 15; refine HMu.out.mono ?_; rintro e w2 ⟨⟨z, rfl, hz⟩, q, rfl⟩; have HZz := Lib.hid hz; clear hz; cases z)
      | ((with_reducible show wpList _ _ _ (⟨some 11, _, _, _, _, _⟩ :: _) _ _); refine wpList_load_mid rfl 44 (.tmp 1) rfl w.heap.size 0 rfl (bkC b) _ (rngB HR.out (nxDr6 (nxAl (nxRf _) _) _) Hlt.out) Tryd.underlying44 rfl HZ.out ?_)
      | (go_at_call 16; refine (bbytes_yes (((w.alloc (.cells (bkC b).toArray 44)).alloc (.cells (bkC b).toArray 44)).drewN q) ((HTb.out.later (nxAl (nxRf _) _)).later (nxDr6 (nxRf _) _)) b (K1.out.later (nxDr6 (nxRf _) _)) HE.out).mono ?_; unfold BkBytesPost; rw [HF.out]; rintro e w3 ⟨⟨A3, c3, B0, rfl, hB0, ho3⟩, hb3⟩; have V3 : Hid (Below (w.alloc (.cells (bkC b).toArray 44)).heap.size (w.alloc (.cells (bkC b).toArray 44)) w3) := nxTr (nxDr6 (nxAl (nxRf _) _) _) hb3; have S3 := Lib.hid (Sees.own ho3); clear hB0 ho3 hb3)
      | ((with_reducible show wpList _ _ _ (⟨some 15, _, _, _, _, _⟩ :: _) _ _); refine wpList_load_mid rfl 44 (.tmp 1) rfl w.heap.size 0 rfl (bkC b) _ (rngB HR.out V3.out Hlt.out) Tryd.underlying44 rfl HZ.out ?_)
      | (go_at_call 17; refine (rcheck6_any w3 b (HK.out.later V3.out)).mono ?_; rw [HE.out]; rintro e w4 ⟨rfl, hb4⟩; have V4 : Hid (Below (w.alloc (.cells (bkC b).toArray 44)).heap.size (w.alloc (.cells (bkC b).toArray 44)) w4) := nxTr V3.out hb4; have D4 : Hid (Below w3.heap.size w3 w4) := hb4; clear hb4))
    · have HFw : Hid (fewB b) := HZz.out (by first | rfl | trivial) b (by simp)
      have Hmax : Hid (b.txs.length ≤ 1000) := by show _ ≤ _; have := HFw.out.2; omega
      have R4 := Lib.hid (rngB HR.out V4.out Hlt.out)
      have C4 := Lib.hid ((HROW.out.below V4.out Hlt.out).t)
      have L4 : Hid (w.heap.size < w4.heap.size) := Nat.lt_of_lt_of_le Hlt.out V4.out.size
      have K4 := Lib.hid (HK.out.later V4.out)
      have T4 := Lib.hid (HTb.out.later V4.out)
      have B4 := Lib.hid (nxTr Hb0.out V4.out)
      have S34 : Hid (Sees w4 w3.heap.size A3 F) := S3.out.below D4.out
      have Lw3 : Hid (w3.heap.size ≤ w4.heap.size) := D4.out.size
      clear HR HB0 HROW HTb HMu HZz V3 V4 D4 K1 HK
      refine wp_region_held_drew (S := fun W => W.rangeAt w.heap.size 0 (bkC b) ∧ W.cell? ⟨w.heap.size, 130, none⟩ = some (.slice b.B b.txs.length b.d)) (by kernel_rfl) ⟨R4.out, C4.out⟩ (fun hHeld => ?_)
      refine wpAnyH_take (i := 0) (oi := ⟨_, _, _, _, _, _⟩) (v := .agg (bkC b).toArray) rfl (by kernel_rfl) (by kernel_rfl) (by kernel_rfl) (fun _ _ _ h => h) (yieldsIf_load_mid (by rfl) 44 (.tmp 1) rfl (w.heap.size) (0) rfl (bkC b) _ (fun W h => h.1) Tryd.underlying44 rfl HZ.out) (by assumption) ?_
      try simp only [Act.put, List.setIfInBounds_toArray, List.set_cons_zero, List.set_cons_succ]
      refine wpAnyH_take (i := 3) (oi := ⟨_, _, _, _, _, _⟩) (v := ?_) rfl (by kernel_rfl) (by kernel_rfl) (by kernel_rfl) (fun _ _ _ h => h) (Or.inl ⟨by rfl, ?_⟩) (by assumption) ?_
      rotate_left 1
      · intro W hSw
        try dsimp only at hSw
        go_simp
        try with_reducible rfl
      try simp only [Act.put, List.setIfInBounds_toArray, List.set_cons_zero, List.set_cons_succ]
      refine wpAnyH_ready (rs := [1]) (by kernel_rfl) (by simp) ?_
      refine AllReadyH.cons rfl (fun K hK => ?_) AllReadyH.nil
      go_simp
      go_at_call 18
      refine (bcheck_any w4.drew (T4.out.later (nxDrI (nxRf w4))) b (K4.out.later (nxDrI (nxRf w4)))).mono ?_
      rw [HE.out]
      rintro e w5 ⟨rfl, hb⟩
      have V5 : Hid (Below w4.heap.size w4 w5) := nxUndr hb
      clear hb
      refine hK.out _ _ ⟨rngB R4.out V5.out L4.out, (V5.out.cell (p := ⟨w.heap.size, 130, none⟩) L4.out).trans C4.out⟩ (fun hSn => ?_)
      clear hK K
      try simp only [Act.put, List.setIfInBounds_toArray, List.set_cons_zero, List.set_cons_succ]
      refine wpAnyH_ready (rs := [2]) (by kernel_rfl) (by simp) ?_
      refine AllReadyH.cons rfl (fun K hK => ?_) AllReadyH.nil
      go_simp
      go_at_call 13
      refine (num6_any _ _).mono ?_
      rintro e wn ⟨rfl, hwn⟩
      obtain rfl := hwn.symm
      refine hK.out _ _ ⟨rngB R4.out V5.out L4.out, (V5.out.cell (p := ⟨w.heap.size, 130, none⟩) L4.out).trans C4.out⟩ (fun hSn => ?_)
      clear hK K
      try simp only [Act.put, List.setIfInBounds_toArray, List.set_cons_zero, List.set_cons_succ]
      refine wpAnyH_take (i := 4) (oi := ⟨_, _, _, _, _, _⟩) (v := .bool false) rfl (by kernel_rfl) (by kernel_rfl) (by kernel_rfl) (fun _ _ _ h => h) (Or.inl ⟨by rfl, ?_⟩) (by assumption) ?_
      · intro W hSw
        try dsimp only at hSw
        go_simp
        try rfl
      try simp only [Act.put, List.setIfInBounds_toArray, List.set_cons_zero, List.set_cons_succ]
      refine wpAnyH_take (i := 5) (oi := ⟨_, _, _, _, _, _⟩) (v := ?_) rfl (by kernel_rfl) (by kernel_rfl) (by kernel_rfl) (fun _ _ _ h => h) (Or.inl ⟨by rfl, ?_⟩) (by assumption) ?_
      rotate_left 1
      · intro W hSw
        try dsimp only at hSw
        go_simp
        try with_reducible rfl
      try simp only [Act.put, List.setIfInBounds_toArray, List.set_cons_zero, List.set_cons_succ]
      refine wpAnyH_take (i := 6) (oi := ⟨_, _, _, _, _, _⟩) (v := ?_) rfl (by kernel_rfl) (by kernel_rfl) (by kernel_rfl) (fun _ _ _ h => h) (Or.inl ⟨by rfl, ?_⟩) (by assumption) ?_
      rotate_left 1
      · intro W hSw
        try dsimp only at hSw
        go_simp
        try with_reducible rfl
      try simp only [Act.put, List.setIfInBounds_toArray, List.set_cons_zero, List.set_cons_succ]
      refine wpAnyH_take (i := 8) (oi := ⟨_, _, _, _, _, _⟩) (v := ?_) rfl (by kernel_rfl) (by kernel_rfl) (by kernel_rfl) (fun _ _ _ h => h) (Or.inl ⟨by rfl, ?_⟩) (by assumption) ?_
      rotate_left 1
      · intro W hSw
        try dsimp only at hSw
        go_simp
        try with_reducible rfl
      try simp only [Act.put, List.setIfInBounds_toArray, List.set_cons_zero, List.set_cons_succ]
      refine wpAnyH_ready (rs := [7]) (by kernel_rfl) (by simp) ?_
      refine AllReadyH.cons rfl (fun K hK => ?_) AllReadyH.nil
      go_simp
      go_at_call 13
      refine (num6_any _ _).mono ?_
      rintro e wn ⟨rfl, hwn⟩
      obtain rfl := hwn.symm
      refine hK.out _ _ ⟨rngB R4.out V5.out L4.out, (V5.out.cell (p := ⟨w.heap.size, 130, none⟩) L4.out).trans C4.out⟩ (fun hSn => ?_)
      clear hK K
      try simp only [Act.put, List.setIfInBounds_toArray, List.set_cons_zero, List.set_cons_succ]
      refine wpAnyH_take (i := 9) (oi := ⟨_, _, _, _, _, _⟩) (v := .bool false) rfl (by kernel_rfl) (by kernel_rfl) (by kernel_rfl) (fun _ _ _ h => h) (Or.inl ⟨by rfl, ?_⟩) (by assumption) ?_
      · intro W hSw
        try dsimp only at hSw
        go_simp
        try rfl
      try simp only [Act.put, List.setIfInBounds_toArray, List.set_cons_zero, List.set_cons_succ]
      refine wpAnyH_take (i := 10) (oi := ⟨_, _, _, _, _, _⟩) (v := ?_) rfl (by kernel_rfl) (by kernel_rfl) (by kernel_rfl) (fun _ _ _ h => h) (Or.inl ⟨by rfl, ?_⟩) (by assumption) ?_
      rotate_left 1
      · intro W hSw
        try dsimp only at hSw
        go_simp
        try with_reducible rfl
      try simp only [Act.put, List.setIfInBounds_toArray, List.set_cons_zero, List.set_cons_succ]
      refine wpAnyH_take (i := 11) (oi := ⟨_, _, _, _, _, _⟩) (v := ?_) rfl (by kernel_rfl) (by kernel_rfl) (by kernel_rfl) (fun _ _ _ h => h) (Or.inl ⟨by rfl, ?_⟩) (by assumption) ?_
      rotate_left 1
      · intro W hSw
        try dsimp only at hSw
        go_simp
        try with_reducible rfl
      try simp only [Act.put, List.setIfInBounds_toArray, List.set_cons_zero, List.set_cons_succ]
      refine wpAnyH_take (i := 12) (oi := ⟨_, _, _, _, _, _⟩) (v := ?_) rfl (by kernel_rfl) (by kernel_rfl) (by kernel_rfl) (fun _ _ _ h => h) (Or.inl ⟨by rfl, ?_⟩) (by assumption) ?_
      rotate_left 1
      · intro W hSw
        try dsimp only at hSw
        go_simp
        try with_reducible rfl
      try simp only [Act.put, List.setIfInBounds_toArray, List.set_cons_zero, List.set_cons_succ]
      refine wpAnyH_take (i := 15) (oi := ⟨_, _, _, _, _, _⟩) (v := ?_) rfl (by kernel_rfl) (by kernel_rfl) (by kernel_rfl) (fun _ _ _ h => h) (Or.inl ⟨by rfl, ?_⟩) (by assumption) ?_
      rotate_left 1
      · intro W hSw
        try dsimp only at hSw
        go_simp
        try with_reducible rfl
      try simp only [Act.put, List.setIfInBounds_toArray, List.set_cons_zero, List.set_cons_succ]
      refine wpAnyH_take (i := 13) (oi := ⟨_, _, _, _, _, _⟩) (v := ?_) rfl (by kernel_rfl) (by kernel_rfl) (by kernel_rfl) (fun _ _ _ h => h) (Or.inl ⟨by rfl, ?_⟩) (by assumption) ?_
      rotate_left 1
      · intro W hSw
        have hcw := hSw.2
        clear hSw
        go_simp
        try with_reducible rfl
      try simp only [Act.put, List.setIfInBounds_toArray, List.set_cons_zero, List.set_cons_succ]
      refine wpAnyH_take (i := 16) (oi := ⟨_, _, _, _, _, _⟩) (v := ?_) rfl (by kernel_rfl) (by kernel_rfl) (by kernel_rfl) (fun _ _ _ h => h) (Or.inl ⟨by rfl, ?_⟩) (by assumption) ?_
      rotate_left 1
      · intro W hSw
        have hcw := hSw.2
        clear hSw
        go_simp
        try with_reducible rfl
      try simp only [Act.put, List.setIfInBounds_toArray, List.set_cons_zero, List.set_cons_succ]
      refine wpAnyH_ready (rs := [14]) (by kernel_rfl) (by simp) ?_
      refine AllReadyH.cons rfl (fun K hK => ?_) AllReadyH.nil
      go_simp
      go_at_call 19
      refine (broot_any w5 (T4.out.later V5.out) b.B b.txs b.d (K4.out.later V5.out).t Hmax.out).mono ?_
      rw [HX.out]
      rintro e w6 ⟨rfl, hb⟩
      have V6 : Hid (Below w4.heap.size w4 w6) := nxTr V5.out hb
      clear hb
      refine hK.out _ _ ⟨rngB R4.out V6.out L4.out, (V6.out.cell (p := ⟨w.heap.size, 130, none⟩) L4.out).trans C4.out⟩ (fun hSn => ?_)
      clear hK K
      try simp only [Act.put, List.setIfInBounds_toArray, List.set_cons_zero, List.set_cons_succ]
      refine wpAnyH_ready (rs := [17]) (by kernel_rfl) (by simp) ?_
      refine AllReadyH.cons rfl (fun K hK => ?_) AllReadyH.nil
      go_simp
      go_at_call 20
      refine (rroot6_any w6 b.B b.txs b.d (K4.out.later V6.out).t Hmax.out).mono ?_
      rw [HX.out]
      rintro e w7 ⟨rfl, hb⟩
      have V7 : Hid (Below w4.heap.size w4 w7) := nxTr V6.out hb
      clear hb
      refine hK.out _ _ ⟨rngB R4.out V7.out L4.out, (V7.out.cell (p := ⟨w.heap.size, 130, none⟩) L4.out).trans C4.out⟩ (fun hSn => ?_)
      clear hK K
      try simp only [Act.put, List.setIfInBounds_toArray, List.set_cons_zero, List.set_cons_succ]
      refine wpAnyH_take (i := 18) (oi := ⟨_, _, _, _, _, _⟩) (v := ?_) rfl (by kernel_rfl) (by kernel_rfl) (by kernel_rfl) (fun _ _ _ h => h) (Or.inl ⟨by rfl, ?_⟩) (by assumption) ?_
      rotate_left 1
      · intro W hSw
        try dsimp only at hSw
        go_simp
        try with_reducible rfl
      try simp only [Act.put, List.setIfInBounds_toArray, List.set_cons_zero, List.set_cons_succ]
      refine wpAnyH_take (i := 19) (oi := ⟨_, _, _, _, _, _⟩) (v := ?_) rfl (by kernel_rfl) (by kernel_rfl) (by kernel_rfl) (fun _ _ _ h => h) (Or.inl ⟨by rfl, ?_⟩) (by assumption) ?_
      rotate_left 1
      · intro W hSw
        try dsimp only at hSw
        go_simp
        try with_reducible rfl
      try simp only [Act.put, List.setIfInBounds_toArray, List.set_cons_zero, List.set_cons_succ]
      refine wpAnyH_done (by kernel_rfl) ?_ _
      go_wp2_with fail
      clear hHeld hSn
      have V7d : Hid (Below w4.heap.size w4 w7.drew) := nxDrI V7.out
      refine wp_region_held_drew (S := fun W => W.rangeAt w.heap.size 0 (bkC b) ∧ Sees W w3.heap.size A3 F) (by kernel_rfl) ⟨rngB R4.out V7d.out L4.out, S34.out.below (V7d.out.mono Lw3.out)⟩ (fun hHeld => ?_)
      refine wpAnyH_take (i := 0) (oi := ⟨_, _, _, _, _, _⟩) (v := ?_) rfl (by kernel_rfl) (by kernel_rfl) (by kernel_rfl) (fun _ _ _ h => h) (Or.inl ⟨by rfl, ?_⟩) (by assumption) ?_
      rotate_left 1
      · intro W hSw
        try dsimp only at hSw
        go_simp
        try with_reducible rfl
      try simp only [Act.put, List.setIfInBounds_toArray, List.set_cons_zero, List.set_cons_succ]
      refine wpAnyH_take (i := 2) (oi := ⟨_, _, _, _, _, _⟩) (v := .agg (bkC b).toArray) rfl (by kernel_rfl) (by kernel_rfl) (by kernel_rfl) (fun _ _ _ h => h) (yieldsIf_load_mid (by rfl) 44 (.tmp 1) rfl (w.heap.size) (0) rfl (bkC b) _ (fun W h => h.1) Tryd.underlying44 rfl HZ.out) (by assumption) ?_
      try simp only [Act.put, List.setIfInBounds_toArray, List.set_cons_zero, List.set_cons_succ]
      refine wpAnyH_take (i := 1) (oi := ⟨_, _, _, _, _, _⟩) (v := ?_) rfl (by kernel_rfl) (by kernel_rfl) (by kernel_rfl) (fun _ _ _ h => h) (Or.inl ⟨by rfl, ?_⟩) (by assumption) ?_
      rotate_left 1
      · intro W hSw
        try dsimp only at hSw
        have q := run_string_sees (P := Tryd.prog) (w := W) (c := c3) (n := F.length) Tryd.underlying28 Tryd.underlying5 Tryd.underlying9 rfl hSw.2
        go_simp
        try with_reducible rfl
      try simp only [Act.put, List.setIfInBounds_toArray, List.set_cons_zero, List.set_cons_succ]
      refine wpAnyH_ready (rs := [3]) (by kernel_rfl) (by simp) ?_
      refine AllReadyH.cons rfl (fun K hK => ?_) AllReadyH.nil
      go_simp
      go_at_call 21
      refine (rpack6_any w7.drew b (K4.out.later V7d.out) HF0.out).mono ?_
      unfold RPackPost
      rw [HF.out]
      rintro e w8 ⟨⟨A9, c9, rfl, hc9, hs9⟩, hb⟩
      have V8 : Hid (Below w4.heap.size w4 w8) := nxTr V7d.out hb
      have S9 := Lib.hid hs9
      clear hc9 hs9 hb
      refine hK.out _ _ ⟨rngB R4.out V8.out L4.out, S34.out.below (V8.out.mono Lw3.out)⟩ (fun hSn => ?_)
      clear hK K
      try simp only [Act.put, List.setIfInBounds_toArray, List.set_cons_zero, List.set_cons_succ]
      refine wpAnyH_ready (rs := [4]) (by kernel_rfl) (by simp) ?_
      refine AllReadyH.cons rfl (fun K hK => ?_) AllReadyH.nil
      refine step_conv (o := ⟨some 49, _, _, _, _, _⟩) rfl (.tmp 48) 28 9 rfl (.slice A9 F.length c9) (.string (Str F)) rfl (run_string_sees Tryd.underlying28 Tryd.underlying5 Tryd.underlying9 rfl S9.out) ?_
      refine hK.out _ _ ⟨rngB R4.out V8.out L4.out, S34.out.below (V8.out.mono Lw3.out)⟩ (fun hSn => ?_)
      clear hK K
      try simp only [Act.put, List.setIfInBounds_toArray, List.set_cons_zero, List.set_cons_succ]
      refine wpAnyH_take (i := 5) (oi := ⟨_, _, _, _, _, _⟩) (v := ?_) rfl (by kernel_rfl) (by kernel_rfl) (by kernel_rfl) (fun _ _ _ h => h) (Or.inl ⟨by rfl, ?_⟩) (by assumption) ?_
      rotate_left 1
      · intro W hSw
        try dsimp only at hSw
        go_simp
        try with_reducible rfl
      try simp only [Act.put, List.setIfInBounds_toArray, List.set_cons_zero, List.set_cons_succ]
      refine wpAnyH_take (i := 6) (oi := ⟨_, _, _, _, _, _⟩) (v := ?_) rfl (by kernel_rfl) (by kernel_rfl) (by kernel_rfl) (fun _ _ _ h => h) (Or.inl ⟨by rfl, ?_⟩) (by assumption) ?_
      rotate_left 1
      · intro W hSw
        try dsimp only at hSw
        go_simp
        try with_reducible rfl
      try simp only [Act.put, List.setIfInBounds_toArray, List.set_cons_zero, List.set_cons_succ]
      refine wpAnyH_ready (rs := [7]) (by kernel_rfl) (by simp) ?_
      refine AllReadyH.cons rfl (fun K hK => ?_) AllReadyH.nil
      go_simp
      go_at_call 6
      refine (known6_any w8).mono ?_
      rintro e w9 ⟨rfl, hb⟩
      have V9 : Hid (Below w4.heap.size w4 w9) := nxTr V8.out hb
      clear hb
      refine hK.out _ _ ⟨rngB R4.out V9.out L4.out, S34.out.below (V9.out.mono Lw3.out)⟩ (fun hSn => ?_)
      clear hK K
      try simp only [Act.put, List.setIfInBounds_toArray, List.set_cons_zero, List.set_cons_succ]
      refine wpAnyH_take (i := 8) (oi := ⟨_, _, _, _, _, _⟩) (v := ?_) rfl (by kernel_rfl) (by kernel_rfl) (by kernel_rfl) (fun _ _ _ h => h) (Or.inl ⟨by rfl, ?_⟩) (by assumption) ?_
      rotate_left 1
      · intro W hSw
        try dsimp only at hSw
        go_simp
        try with_reducible rfl
      try simp only [Act.put, List.setIfInBounds_toArray, List.set_cons_zero, List.set_cons_succ]
      refine wpAnyH_take (i := 9) (oi := ⟨_, _, _, _, _, _⟩) (v := ?_) rfl (by kernel_rfl) (by kernel_rfl) (by kernel_rfl) (fun _ _ _ h => h) (Or.inl ⟨by rfl, ?_⟩) (by assumption) ?_
      rotate_left 1
      · intro W hSw
        try dsimp only at hSw
        go_simp
        try with_reducible rfl
      try simp only [Act.put, List.setIfInBounds_toArray, List.set_cons_zero, List.set_cons_succ]
      refine wpAnyH_done (by kernel_rfl) ?_ _
      go_wp2
      go_ret
      exact ⟨rfl, nxTr B4.out V9.out⟩
    · go_wp2_with (go_at_call 6; refine (known6_any _).mono ?_; rintro e w3 ⟨rfl, hb⟩; have V3 := Lib.hid (nxTr (nxTr Hb0.out (nxDr6 (nxAl (nxRf _) _) _)) hb); clear hb)
      go_ret
      exact ⟨rfl, V3.out⟩
  · have HNz := Lib.hid hz
    have hq : (E == 0) = false := beq_eq_false_iff_ne.2 hz
    have hq2 : (E != 0) = true := by rw [bne, hq]; rfl
    clear hz
    have K1 : Hid (BkOk ((w.alloc (.cells (bkC b).toArray 44)).alloc (.cells (bkC b).toArray 44)) b) := HK.out.later (nxAl (nxRf _) _)
    go_enter Tryd.func4, Tryd.ntmps4
    go_wp2_with (first
      | ((with_reducible show wpList _ _ _ (⟨some 6, _, _, _, _, _⟩ :: _) _ _); refine wpList_load_mid rfl 44 (.tmp 1) rfl w.heap.size 0 rfl (bkC b) _ HR.out Tryd.underlying44 rfl HZ.out ?_)
      | ((with_reducible show wpList _ _ _ (⟨some 7, _, _, _, _, _⟩ :: _) _ _); refine wpList_build_one rfl 46 44 (.tmp 6) rfl (bkC b) _ 131 184 Tryd.underlying46 Tryd.bkinfo (by decide) (by decide) HBl.out rfl ?_)
      | (go_at_call 15; refine HMu.out.mono ?_; rintro e w2 ⟨⟨z, rfl, hz⟩, q, rfl⟩; have HZz := Lib.hid hz; clear hz; cases z)
      | ((with_reducible show wpList _ _ _ (⟨some 11, _, _, _, _, _⟩ :: _) _ _); refine wpList_load_mid rfl 44 (.tmp 1) rfl w.heap.size 0 rfl (bkC b) _ (rngB HR.out (nxDr6 (nxAl (nxRf _) _) _) Hlt.out) Tryd.underlying44 rfl HZ.out ?_)
      | (go_at_call 16; refine (bbytes_no (((w.alloc (.cells (bkC b).toArray 44)).alloc (.cells (bkC b).toArray 44)).drewN q) ((HTb.out.later (nxAl (nxRf _) _)).later (nxDr6 (nxRf _) _)) b (K1.out.later (nxDr6 (nxRf _) _)) (by rw [HE.out]; exact HNz.out)).mono ?_; rw [HE.out]; rintro e w3 ⟨rfl, hb3⟩; have V3 : Hid (Below (w.alloc (.cells (bkC b).toArray 44)).heap.size (w.alloc (.cells (bkC b).toArray 44)) w3) := nxTr (nxDr6 (nxAl (nxRf _) _) _) hb3; clear hb3)
      | ((with_reducible show wpList _ _ _ (⟨some 15, _, _, _, _, _⟩ :: _) _ _); refine wpList_load_mid rfl 44 (.tmp 1) rfl w.heap.size 0 rfl (bkC b) _ (rngB HR.out V3.out Hlt.out) Tryd.underlying44 rfl HZ.out ?_)
      | (go_at_call 17; refine (rcheck6_any w3 b (HK.out.later V3.out)).mono ?_; rw [HE.out]; rintro e w4 ⟨rfl, hb4⟩; have V4 : Hid (Below (w.alloc (.cells (bkC b).toArray 44)).heap.size (w.alloc (.cells (bkC b).toArray 44)) w4) := nxTr V3.out hb4; have D4 : Hid (Below w3.heap.size w3 w4) := hb4; clear hb4))
    · have HFw : Hid (fewB b) := HZz.out (by first | rfl | trivial) b (by simp)
      have Hmax : Hid (b.txs.length ≤ 1000) := by show _ ≤ _; have := HFw.out.2; omega
      have R4 := Lib.hid (rngB HR.out V4.out Hlt.out)
      have C4 := Lib.hid ((HROW.out.below V4.out Hlt.out).t)
      have L4 : Hid (w.heap.size < w4.heap.size) := Nat.lt_of_lt_of_le Hlt.out V4.out.size
      have K4 := Lib.hid (HK.out.later V4.out)
      have T4 := Lib.hid (HTb.out.later V4.out)
      have B4 := Lib.hid (nxTr Hb0.out V4.out)
      clear HR HB0 HROW HTb HMu HZz V3 V4 D4 K1 HK
      refine wp_region_held_drew (S := fun W => W.rangeAt w.heap.size 0 (bkC b) ∧ W.cell? ⟨w.heap.size, 130, none⟩ = some (.slice b.B b.txs.length b.d)) (by kernel_rfl) ⟨R4.out, C4.out⟩ (fun hHeld => ?_)
      refine wpAnyH_take (i := 0) (oi := ⟨_, _, _, _, _, _⟩) (v := .agg (bkC b).toArray) rfl (by kernel_rfl) (by kernel_rfl) (by kernel_rfl) (fun _ _ _ h => h) (yieldsIf_load_mid (by rfl) 44 (.tmp 1) rfl (w.heap.size) (0) rfl (bkC b) _ (fun W h => h.1) Tryd.underlying44 rfl HZ.out) (by assumption) ?_
      try simp only [Act.put, List.setIfInBounds_toArray, List.set_cons_zero, List.set_cons_succ]
      refine wpAnyH_take (i := 3) (oi := ⟨_, _, _, _, _, _⟩) (v := ?_) rfl (by kernel_rfl) (by kernel_rfl) (by kernel_rfl) (fun _ _ _ h => h) (Or.inl ⟨by rfl, ?_⟩) (by assumption) ?_
      rotate_left 1
      · intro W hSw
        try dsimp only at hSw
        go_simp
        try with_reducible rfl
      try simp only [Act.put, List.setIfInBounds_toArray, List.set_cons_zero, List.set_cons_succ]
      refine wpAnyH_ready (rs := [1]) (by kernel_rfl) (by simp) ?_
      refine AllReadyH.cons rfl (fun K hK => ?_) AllReadyH.nil
      go_simp
      go_at_call 18
      refine (bcheck_any w4.drew (T4.out.later (nxDrI (nxRf w4))) b (K4.out.later (nxDrI (nxRf w4)))).mono ?_
      rw [HE.out]
      rintro e w5 ⟨rfl, hb⟩
      have V5 : Hid (Below w4.heap.size w4 w5) := nxUndr hb
      clear hb
      refine hK.out _ _ ⟨rngB R4.out V5.out L4.out, (V5.out.cell (p := ⟨w.heap.size, 130, none⟩) L4.out).trans C4.out⟩ (fun hSn => ?_)
      clear hK K
      try simp only [Act.put, List.setIfInBounds_toArray, List.set_cons_zero, List.set_cons_succ]
      refine wpAnyH_ready (rs := [2]) (by kernel_rfl) (by simp) ?_
      refine AllReadyH.cons rfl (fun K hK => ?_) AllReadyH.nil
      go_simp
      go_at_call 13
      refine (num6_any _ _).mono ?_
      rintro e wn ⟨rfl, hwn⟩
      obtain rfl := hwn.symm
      refine hK.out _ _ ⟨rngB R4.out V5.out L4.out, (V5.out.cell (p := ⟨w.heap.size, 130, none⟩) L4.out).trans C4.out⟩ (fun hSn => ?_)
      clear hK K
      try simp only [Act.put, List.setIfInBounds_toArray, List.set_cons_zero, List.set_cons_succ]
      refine wpAnyH_take (i := 4) (oi := ⟨_, _, _, _, _, _⟩) (v := .bool false) rfl (by kernel_rfl) (by kernel_rfl) (by kernel_rfl) (fun _ _ _ h => h) (Or.inl ⟨by rfl, ?_⟩) (by assumption) ?_
      · intro W hSw
        try dsimp only at hSw
        go_simp
        try rfl
      try simp only [Act.put, List.setIfInBounds_toArray, List.set_cons_zero, List.set_cons_succ]
      refine wpAnyH_take (i := 5) (oi := ⟨_, _, _, _, _, _⟩) (v := ?_) rfl (by kernel_rfl) (by kernel_rfl) (by kernel_rfl) (fun _ _ _ h => h) (Or.inl ⟨by rfl, ?_⟩) (by assumption) ?_
      rotate_left 1
      · intro W hSw
        try dsimp only at hSw
        go_simp
        try with_reducible rfl
      try simp only [Act.put, List.setIfInBounds_toArray, List.set_cons_zero, List.set_cons_succ]
      refine wpAnyH_take (i := 6) (oi := ⟨_, _, _, _, _, _⟩) (v := ?_) rfl (by kernel_rfl) (by kernel_rfl) (by kernel_rfl) (fun _ _ _ h => h) (Or.inl ⟨by rfl, ?_⟩) (by assumption) ?_
      rotate_left 1
      · intro W hSw
        try dsimp only at hSw
        go_simp
        try with_reducible rfl
      try simp only [Act.put, List.setIfInBounds_toArray, List.set_cons_zero, List.set_cons_succ]
      refine wpAnyH_take (i := 8) (oi := ⟨_, _, _, _, _, _⟩) (v := ?_) rfl (by kernel_rfl) (by kernel_rfl) (by kernel_rfl) (fun _ _ _ h => h) (Or.inl ⟨by rfl, ?_⟩) (by assumption) ?_
      rotate_left 1
      · intro W hSw
        try dsimp only at hSw
        go_simp
        try with_reducible rfl
      try simp only [Act.put, List.setIfInBounds_toArray, List.set_cons_zero, List.set_cons_succ]
      refine wpAnyH_ready (rs := [7]) (by kernel_rfl) (by simp) ?_
      refine AllReadyH.cons rfl (fun K hK => ?_) AllReadyH.nil
      go_simp
      go_at_call 13
      refine (num6_any _ _).mono ?_
      rintro e wn ⟨rfl, hwn⟩
      obtain rfl := hwn.symm
      refine hK.out _ _ ⟨rngB R4.out V5.out L4.out, (V5.out.cell (p := ⟨w.heap.size, 130, none⟩) L4.out).trans C4.out⟩ (fun hSn => ?_)
      clear hK K
      try simp only [Act.put, List.setIfInBounds_toArray, List.set_cons_zero, List.set_cons_succ]
      refine wpAnyH_take (i := 9) (oi := ⟨_, _, _, _, _, _⟩) (v := .bool false) rfl (by kernel_rfl) (by kernel_rfl) (by kernel_rfl) (fun _ _ _ h => h) (Or.inl ⟨by rfl, ?_⟩) (by assumption) ?_
      · intro W hSw
        try dsimp only at hSw
        go_simp
        try rfl
      try simp only [Act.put, List.setIfInBounds_toArray, List.set_cons_zero, List.set_cons_succ]
      refine wpAnyH_take (i := 10) (oi := ⟨_, _, _, _, _, _⟩) (v := ?_) rfl (by kernel_rfl) (by kernel_rfl) (by kernel_rfl) (fun _ _ _ h => h) (Or.inl ⟨by rfl, ?_⟩) (by assumption) ?_
      rotate_left 1
      · intro W hSw
        try dsimp only at hSw
        go_simp
        try with_reducible rfl
      try simp only [Act.put, List.setIfInBounds_toArray, List.set_cons_zero, List.set_cons_succ]
      refine wpAnyH_take (i := 11) (oi := ⟨_, _, _, _, _, _⟩) (v := ?_) rfl (by kernel_rfl) (by kernel_rfl) (by kernel_rfl) (fun _ _ _ h => h) (Or.inl ⟨by rfl, ?_⟩) (by assumption) ?_
      rotate_left 1
      · intro W hSw
        try dsimp only at hSw
        go_simp
        try with_reducible rfl
      try simp only [Act.put, List.setIfInBounds_toArray, List.set_cons_zero, List.set_cons_succ]
      refine wpAnyH_take (i := 12) (oi := ⟨_, _, _, _, _, _⟩) (v := ?_) rfl (by kernel_rfl) (by kernel_rfl) (by kernel_rfl) (fun _ _ _ h => h) (Or.inl ⟨by rfl, ?_⟩) (by assumption) ?_
      rotate_left 1
      · intro W hSw
        try dsimp only at hSw
        go_simp
        try with_reducible rfl
      try simp only [Act.put, List.setIfInBounds_toArray, List.set_cons_zero, List.set_cons_succ]
      refine wpAnyH_take (i := 15) (oi := ⟨_, _, _, _, _, _⟩) (v := ?_) rfl (by kernel_rfl) (by kernel_rfl) (by kernel_rfl) (fun _ _ _ h => h) (Or.inl ⟨by rfl, ?_⟩) (by assumption) ?_
      rotate_left 1
      · intro W hSw
        try dsimp only at hSw
        go_simp
        try with_reducible rfl
      try simp only [Act.put, List.setIfInBounds_toArray, List.set_cons_zero, List.set_cons_succ]
      refine wpAnyH_take (i := 13) (oi := ⟨_, _, _, _, _, _⟩) (v := ?_) rfl (by kernel_rfl) (by kernel_rfl) (by kernel_rfl) (fun _ _ _ h => h) (Or.inl ⟨by rfl, ?_⟩) (by assumption) ?_
      rotate_left 1
      · intro W hSw
        have hcw := hSw.2
        clear hSw
        go_simp
        try with_reducible rfl
      try simp only [Act.put, List.setIfInBounds_toArray, List.set_cons_zero, List.set_cons_succ]
      refine wpAnyH_take (i := 16) (oi := ⟨_, _, _, _, _, _⟩) (v := ?_) rfl (by kernel_rfl) (by kernel_rfl) (by kernel_rfl) (fun _ _ _ h => h) (Or.inl ⟨by rfl, ?_⟩) (by assumption) ?_
      rotate_left 1
      · intro W hSw
        have hcw := hSw.2
        clear hSw
        go_simp
        try with_reducible rfl
      try simp only [Act.put, List.setIfInBounds_toArray, List.set_cons_zero, List.set_cons_succ]
      refine wpAnyH_ready (rs := [14]) (by kernel_rfl) (by simp) ?_
      refine AllReadyH.cons rfl (fun K hK => ?_) AllReadyH.nil
      go_simp
      go_at_call 19
      refine (broot_any w5 (T4.out.later V5.out) b.B b.txs b.d (K4.out.later V5.out).t Hmax.out).mono ?_
      rw [HX.out]
      rintro e w6 ⟨rfl, hb⟩
      have V6 : Hid (Below w4.heap.size w4 w6) := nxTr V5.out hb
      clear hb
      refine hK.out _ _ ⟨rngB R4.out V6.out L4.out, (V6.out.cell (p := ⟨w.heap.size, 130, none⟩) L4.out).trans C4.out⟩ (fun hSn => ?_)
      clear hK K
      try simp only [Act.put, List.setIfInBounds_toArray, List.set_cons_zero, List.set_cons_succ]
      refine wpAnyH_ready (rs := [17]) (by kernel_rfl) (by simp) ?_
      refine AllReadyH.cons rfl (fun K hK => ?_) AllReadyH.nil
      go_simp
      go_at_call 20
      refine (rroot6_any w6 b.B b.txs b.d (K4.out.later V6.out).t Hmax.out).mono ?_
      rw [HX.out]
      rintro e w7 ⟨rfl, hb⟩
      have V7 : Hid (Below w4.heap.size w4 w7) := nxTr V6.out hb
      clear hb
      refine hK.out _ _ ⟨rngB R4.out V7.out L4.out, (V7.out.cell (p := ⟨w.heap.size, 130, none⟩) L4.out).trans C4.out⟩ (fun hSn => ?_)
      clear hK K
      try simp only [Act.put, List.setIfInBounds_toArray, List.set_cons_zero, List.set_cons_succ]
      refine wpAnyH_take (i := 18) (oi := ⟨_, _, _, _, _, _⟩) (v := ?_) rfl (by kernel_rfl) (by kernel_rfl) (by kernel_rfl) (fun _ _ _ h => h) (Or.inl ⟨by rfl, ?_⟩) (by assumption) ?_
      rotate_left 1
      · intro W hSw
        try dsimp only at hSw
        go_simp
        try with_reducible rfl
      try simp only [Act.put, List.setIfInBounds_toArray, List.set_cons_zero, List.set_cons_succ]
      refine wpAnyH_take (i := 19) (oi := ⟨_, _, _, _, _, _⟩) (v := ?_) rfl (by kernel_rfl) (by kernel_rfl) (by kernel_rfl) (fun _ _ _ h => h) (Or.inl ⟨by rfl, ?_⟩) (by assumption) ?_
      rotate_left 1
      · intro W hSw
        try dsimp only at hSw
        go_simp
        try with_reducible rfl
      try simp only [Act.put, List.setIfInBounds_toArray, List.set_cons_zero, List.set_cons_succ]
      refine wpAnyH_done (by kernel_rfl) ?_ _
      go_wp2_with (go_at_call 6; refine (known6_any w7).mono ?_; rintro e w8 ⟨rfl, hb⟩; have V8 : Hid (Below w4.heap.size w4 w8) := nxTr V7.out hb; clear hb)
      go_ret
      exact ⟨rfl, nxTr B4.out V8.out⟩
    · go_wp2_with (go_at_call 6; refine (known6_any _).mono ?_; rintro e w3 ⟨rfl, hb⟩; have V3 := Lib.hid (nxTr (nxTr Hb0.out (nxDr6 (nxAl (nxRf _) _) _)) hb); clear hb)
      go_ret
      exact ⟨rfl, V3.out⟩
end Go.Proofs.YtchpmmnoflibfaaDoor
