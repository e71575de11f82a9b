/-
  TxMeans, the walk.
-/
import Derived.Test.YtckomfffilonlaaDoorTrA
namespace Go.Proofs.YtckomfffilonlaaDoor
open Go.RowKit

set_option maxHeartbeats 8000000 in
set_option maxRecDepth 100000 in
theorem means_any (w : World) (hTb : Tabs w) (t u : TxR) (A : Option Addr) (c : Nat) (b : List UInt8) (ht : TxOk w t) (hu : TxOk w u) (hS : Sees w w.heap.size A b) (hbc : b.length ≤ c) :
    Calls Tryd.prog 5 #[.agg (txC t).toArray, .agg (txC u).toArray, .slice A b.length c] w fun e w' => e = .returned (.bool true) ∧ Below w.heap.size w w' := by
  have hb0 : Below w.heap.size w ((w.alloc (.cells (txC t).toArray 26)).alloc (.cells (txC u).toArray 26)) := nxAl (nxAl (nxRf w) _) _
  have Hb0 := Lib.hid hb0
  have HB2 : Blk ((w.alloc (.cells (txC t).toArray 26)).alloc (.cells (txC u).toArray 26)) w.heap.size 26 (txC t).toArray := (show Blk (w.alloc (.cells (txC t).toArray 26)) _ _ _ from heap_alloc_new w _).alloc _
  have HB3 : Blk ((w.alloc (.cells (txC t).toArray 26)).alloc (.cells (txC u).toArray 26)) (w.heap.size + 1) 26 (txC u).toArray := blk_new (by simp)
  have HR := Lib.hid (blkR (vs := txC t) HB2)
  have HQ := Lib.hid (blkR (vs := txC u) HB3)
  have HT := Lib.hid (ht.later hb0)
  have HU := Lib.hid (hu.later hb0)
  have HS := Lib.hid (hS.later hb0)
  have HTb := Lib.hid (hTb.later hb0)
  have HZT0 : Hid (∀ t : TxR, (Tryd.prog.info? 26).map (·.size) = some (txC t).toArray.size) := fun t => Tryd.sizeTx
  have HZTl : Hid (∀ t : TxR, (Tryd.prog.info? 26).map (·.size) = some (txC t).length) := fun t => Tryd.sizeTx
  have Hl0 : Hid (w.heap.size < ((w.alloc (.cells (txC t).toArray 26)).alloc (.cells (txC u).toArray 26)).heap.size) := by show _ < _; simp; omega
  have Hl1 : Hid (w.heap.size + 1 < ((w.alloc (.cells (txC t).toArray 26)).alloc (.cells (txC u).toArray 26)).heap.size) := by show _ < _; simp
  have h3 := checkT_three t
  have g3 := checkT_three u
  obtain ⟨z, hz⟩ : ∃ z, checkT t = z := ⟨_, rfl⟩
  have HCz := Lib.hid hz
  obtain ⟨y, hy⟩ : ∃ y, checkT u = y := ⟨_, rfl⟩
  have HCy := Lib.hid hy
  rw [hz] at h3
  rw [hy] at g3
  obtain ⟨F, hF⟩ : ∃ F, packT t = F := ⟨_, rfl⟩
  have HF := Lib.hid hF
  obtain ⟨G, hG⟩ : ∃ G, packT u = G := ⟨_, rfl⟩
  have HG := Lib.hid hG
  obtain ⟨k, hk⟩ : ∃ k, ofB b = k := ⟨_, rfl⟩
  have HK := Lib.hid hk
  have HTO := Lib.hid ht
  have HUO := Lib.hid hu
  clear ht hu hS hTb hb0 HB2 HB3 hz hy hF hG hk
  by_cases hlen : (20000 : Int) < (b.length : Int)
  · clear h3 g3
    go_enter Tryd.func5, Tryd.ntmps5
    go_wp2_with (first
      | (go_at_call 8; refine (known_any ((w.alloc (.cells (txC t).toArray 26)).alloc (.cells (txC u).toArray 26))).mono ?_; rintro e w1 ⟨rfl, hb1⟩; have V1 : Hid (Below ((w.alloc (.cells (txC t).toArray 26)).alloc (.cells (txC u).toArray 26)).heap.size ((w.alloc (.cells (txC t).toArray 26)).alloc (.cells (txC u).toArray 26)) w1) := hb1; clear hb1)
      | ((with_reducible show wpList _ _ _ (⟨some 20, _, _, _, _, _⟩ :: _) _ _); refine wpList_load_mid rfl 26 (.tmp 3) rfl w.heap.size 0 rfl (txC t) _ (rngB HR.out V1.out Hl0.out) Tryd.underlying26 rfl (HZTl.out t) ?_)
      | ((with_reducible show wpList _ _ _ (⟨some 21, _, _, _, _, _⟩ :: _) _ _); refine wpList_load_mid rfl 26 (.tmp 4) rfl (w.heap.size + 1) 0 rfl (txC u) _ (rngB HQ.out V1.out Hl1.out) Tryd.underlying26 rfl (HZTl.out u) ?_)
      | ((with_reducible show wpList _ _ _ (⟨some 22, _, _, _, _, _⟩ :: _) _ _); refine wpList_build_tx2 rfl (.tmp 20) (.tmp 21) rfl t u rfl rfl ?_)
      | (go_at_call 7; refine (much2_any (w1.alloc (.cells (txC t ++ txC u).toArray 26)) w1.heap.size t u (HT.out.later (nxAl V1.out _)) (HU.out.later (nxAl V1.out _)) (heap_alloc_new w1 _)).mono ?_; rintro e w2 ⟨mz, rfl, hb2⟩; have V2 : Hid (Below ((w.alloc (.cells (txC t).toArray 26)).alloc (.cells (txC u).toArray 26)).heap.size ((w.alloc (.cells (txC t).toArray 26)).alloc (.cells (txC u).toArray 26)) w2) := nxTr (nxAl V1.out _) hb2; clear hb2; cases mz))
    all_goals go_ret
    all_goals exact ⟨rfl, nxTr Hb0.out V2.out⟩
  have HLb : Hid (b.length ≤ 1099511627776) := by show _ ≤ _; omega
  rcases h3 with rfl | rfl | rfl
  · have hcz := HCz.out
    have HLF : Hid (F.length ≤ 1099511627776) := by show _ ≤ _; rw [← HF.out]; have := packT_len HTO.out hcz; omega
    have hpf := pack_ofB t (fun i hi => ⟨(HTO.out.each i hi).id, (HTO.out.each i hi).n⟩) HTO.out.eacho HTO.out.nonce hcz
    rw [HF.out] at hpf
    have HFB := Lib.hid hpf.1
    have HFV : Hid (ofV F = txP t) := hpf.2
    clear hpf hcz
    rcases g3 with rfl | rfl | rfl
    · have hcy := HCy.out
      have HLG : Hid (G.length ≤ 1099511627776) := by show _ ≤ _; rw [← HG.out]; have := packT_len HUO.out hcy; omega
      have HLF2 : Hid (F.length ≤ 1048000) := by show _ ≤ _; rw [← HF.out]; have := packT_len HTO.out HCz.out; omega
      have HLG2 : Hid (G.length ≤ 1048000) := by show _ ≤ _; rw [← HG.out]; have := packT_len HUO.out HCy.out; omega
      clear hcy
      have hbeg := begins_iff HTO.out HUO.out HCz.out HCy.out
      rw [HF.out, HG.out] at hbeg
      obtain ⟨x, hx⟩ : ∃ x, idT t = x := ⟨_, rfl⟩
      obtain ⟨v, hv⟩ : ∃ v, idT u = v := ⟨_, rfl⟩
      have HX := Lib.hid hx
      have HV := Lib.hid hv
      have HXl : Hid (x.length = 32) := by show _ = _; rw [← hx]; exact idT_len t
      have HVl : Hid (v.length = 32) := by show _ = _; rw [← hv]; exact idT_len u
      have HXs : Hid (x = shaB (tagB (cutN nmTx) F)) := by show _ = _; rw [← hx, ← HF.out, idT, HCz.out]; rfl
      have HVs : Hid (v = shaB (tagB (cutN nmTx) G)) := by show _ = _; rw [← hv, ← HG.out, idT, HCy.out]; rfl
      have hids : txP t = txP u → x = v := fun h => by rw [← hx, ← hv]; exact idT_same h
      obtain ⟨K, hK⟩ : ∃ K, G.take F.length = K := ⟨_, rfl⟩
      obtain ⟨r, hr⟩ : ∃ r, (decide (F.length ≤ G.length) && (G.take F.length == F)) = r := ⟨_, rfl⟩
      rw [hr] at hbeg
      have HB := Lib.hid hbeg
      have HI := Lib.hid hids
      have HRr := Lib.hid hr
      have HKk := Lib.hid hK
      clear hx hv hbeg hids hr hK
      go_enter Tryd.func5, Tryd.ntmps5
      go_upto_region 12 with (first
        | (go_at_call 8; refine (known_any ((w.alloc (.cells (txC t).toArray 26)).alloc (.cells (txC u).toArray 26))).mono ?_; rintro e w1 ⟨rfl, hb1⟩; have V1 : Hid (Below ((w.alloc (.cells (txC t).toArray 26)).alloc (.cells (txC u).toArray 26)).heap.size ((w.alloc (.cells (txC t).toArray 26)).alloc (.cells (txC u).toArray 26)) w1) := hb1; clear hb1)
        | ((with_reducible show wpList _ _ _ (⟨some 20, _, _, _, _, _⟩ :: _) _ _); refine wpList_load_mid rfl 26 (.tmp 3) rfl w.heap.size 0 rfl (txC t) _ (rngB HR.out V1.out Hl0.out) Tryd.underlying26 rfl (HZTl.out t) ?_)
        | ((with_reducible show wpList _ _ _ (⟨some 21, _, _, _, _, _⟩ :: _) _ _); refine wpList_load_mid rfl 26 (.tmp 4) rfl (w.heap.size + 1) 0 rfl (txC u) _ (rngB HQ.out V1.out Hl1.out) Tryd.underlying26 rfl (HZTl.out u) ?_)
        | ((with_reducible show wpList _ _ _ (⟨some 22, _, _, _, _, _⟩ :: _) _ _); refine wpList_build_tx2 rfl (.tmp 20) (.tmp 21) rfl t u rfl rfl ?_)
        | (go_at_call 7; refine (much2_any (w1.alloc (.cells (txC t ++ txC u).toArray 26)) w1.heap.size t u (HT.out.later (nxAl V1.out _)) (HU.out.later (nxAl V1.out _)) (heap_alloc_new w1 _)).mono ?_; rintro e w2 ⟨mz, rfl, hb2⟩; have V2 : Hid (Below ((w.alloc (.cells (txC t).toArray 26)).alloc (.cells (txC u).toArray 26)).heap.size ((w.alloc (.cells (txC t).toArray 26)).alloc (.cells (txC u).toArray 26)) w2) := nxTr (nxAl V1.out _) hb2; clear hb2; cases mz)
        | ((with_reducible show wpList _ _ _ (⟨some 30, _, _, _, _, _⟩ :: _) _ _); refine wpList_load_mid rfl 26 (.tmp 3) rfl w.heap.size 0 rfl (txC t) _ (rngB HR.out V2.out Hl0.out) Tryd.underlying26 rfl (HZTl.out t) ?_)
        | (go_at_call 9; (with_reducible show Calls _ _ #[.agg (txC t).toArray] _ _); refine (bytes_yes w2 t (HT.out.later V2.out) HCz.out).mono ?_; unfold BytesPost; rw [HF.out]; rintro e w3 ⟨⟨A3, c3, B3, rfl, hB0, ho⟩, hb⟩; have V3 : Hid (Below ((w.alloc (.cells (txC t).toArray 26)).alloc (.cells (txC u).toArray 26)).heap.size ((w.alloc (.cells (txC t).toArray 26)).alloc (.cells (txC u).toArray 26)) w3) := nxTr V2.out hb; have S3 := Lib.hid (Sees.own ho); have C3 := Lib.hid (own_cm ho); clear hB0 ho hb)
        | ((with_reducible show wpList _ _ _ (⟨some 35, _, _, _, _, _⟩ :: _) _ _); refine wpList_load_mid rfl 26 (.tmp 4) rfl (w.heap.size + 1) 0 rfl (txC u) _ (rngB HQ.out V3.out Hl1.out) Tryd.underlying26 rfl (HZTl.out u) ?_)
        | (go_at_call 9; (with_reducible show Calls _ _ #[.agg (txC u).toArray] _ _); refine (bytes_yes w3 u (HU.out.later V3.out) HCy.out).mono ?_; unfold BytesPost; rw [HG.out]; rintro e w4 ⟨⟨A4, c4, B4, rfl, hB0, ho⟩, hb⟩; have V4 : Hid (Below ((w.alloc (.cells (txC t).toArray 26)).alloc (.cells (txC u).toArray 26)).heap.size ((w.alloc (.cells (txC t).toArray 26)).alloc (.cells (txC u).toArray 26)) w4) := nxTr V3.out hb; have S4 := Lib.hid (Sees.own ho); have C4 := Lib.hid (own_cm ho); have V34 : Hid (Below w3.heap.size w3 w4) := hb; clear hB0 ho hb)
        | (go_at_call 11; refine (num_any _ _).mono ?_; rintro e wn ⟨rfl, hwn⟩; obtain rfl := hwn.symm)
        | (go_at_call 26; (with_reducible show Calls _ _ #[.slice A3 F.length c3] _ _); refine (of_any w4 w4.heap.size A3 F c3 ((S3.out.later V34.out).more V34.out.size) HLF.out).mono ?_; unfold OfPost; rw [HFB.out]; rintro e w5 ⟨t5, rfl, hp5, ht5, hb5⟩; have P5 := Lib.hid hp5; have T5 := Lib.hid ht5; have V5 : Hid (Below ((w.alloc (.cells (txC t).toArray 26)).alloc (.cells (txC u).toArray 26)).heap.size ((w.alloc (.cells (txC t).toArray 26)).alloc (.cells (txC u).toArray 26)) w5) := nxTr V4.out hb5; have X5 : Hid (Below w4.heap.size w4 w5) := hb5; clear hp5 ht5 hb5)
        | ((with_reducible show wpList _ _ _ (⟨none, .store 26 (.tmp 11) _, _, _, _, _⟩ :: _) _ _); (show wpList _ _ _ _ _ (w5.alloc (.cells txZ 26))); refine wpList_store_all rfl 26 (.tmp 11) (.tmp 45) rfl w5.heap.size 26 txZ (txC t5).toArray rfl rfl (heap_alloc_new w5 _) rfl (HZT0.out t5) (txC_one t5) ?_; intro w6 h5 h6 h7; have R6 := Lib.hid (blkR (vs := txC t5) h5); have X6 : Hid (Below w5.heap.size w5 w6) := belowFresh h6; have V6 : Hid (Below ((w.alloc (.cells (txC t).toArray 26)).alloc (.cells (txC u).toArray 26)).heap.size ((w.alloc (.cells (txC t).toArray 26)).alloc (.cells (txC u).toArray 26)) w6) := nxTr V5.out X6.out; clear h5 h6 h7)
        | ((with_reducible show wpList _ _ _ (⟨some 51, _, _, _, _, _⟩ :: _) _ _); refine wpList_load_want (by rfl) 26 (.tmp 11) rfl w5.heap.size 0 rfl (txC t5) _ R6.out Tryd.underlying26 rfl (HZTl.out t5) ?_)
        | ((with_reducible show wpList _ _ _ (⟨some 52, _, _, _, _, _⟩ :: _) _ _); refine wpList_load_want (by rfl) 26 (.tmp 3) rfl w.heap.size 0 rfl (txC t) _ (rngB HR.out V6.out Hl0.out) Tryd.underlying26 rfl (HZTl.out t) ?_)
        | (go_at_call 18; (with_reducible show Calls _ _ #[.agg (txC t5).toArray, .agg (txC t).toArray] _ _); refine (rsame_any w6 t5 t (T5.out.later X6.out) (HT.out.later V6.out)).mono ?_; unfold SamePost; rintro e w7 ⟨zs, rfl, hzs, hb7⟩; obtain rfl : zs = true := hzs.2 (P5.out.trans HFV.out); have V7 : Hid (Below ((w.alloc (.cells (txC t).toArray 26)).alloc (.cells (txC u).toArray 26)).heap.size ((w.alloc (.cells (txC t).toArray 26)).alloc (.cells (txC u).toArray 26)) w7) := nxTr V6.out hb7; have X7 : Hid (Below w4.heap.size w4 w7) := nxTr (nxTr X5.out X6.out) hb7; clear hzs hb7))
      rotate_left 1
      · go_ret
        exact ⟨rfl, nxTr Hb0.out V2.out⟩
      have S7 : Hid (Sees w7 w7.heap.size A3 F) := (S3.out.later (nxTr V34.out X7.out)).more (Nat.le_trans V34.out.size X7.out.size)
      have Q7 : Hid (Sees w7 w7.heap.size A4 G) := (S4.out.later X7.out).more X7.out.size
      go_cut [13] (fun q wx => q = .bool r ∧ wx = w7.drew)
      case first =>
        as_aux_lemma =>
          by_cases hle : F.length ≤ G.length
          · have hd : decide ((F.length : Int) ≤ (G.length : Int)) = true := decide_eq_true (by omega)
            have hd2 : ((F.length : Int) ≤ (G.length : Int)) = True := eq_true (by omega)
            obtain ⟨A5, hs5, hsl⟩ := low_slice Q7.out C4.out.1 C4.out.2 F.length hle
            rw [HKk.out] at hs5
            obtain ⟨kq, hkq⟩ : ∃ kq, (K == F) = kq := ⟨_, rfl⟩
            have hrr : r = kq := by rw [← HRr.out, HKk.out, hkq, decide_eq_true hle]; rfl
            have hkl : K.length = F.length := by rw [← HKk.out, List.length_take]; omega
            clear hle
            refine wp_region_held_drew (S := fun W => Sees W w7.heap.size A3 F ∧ Sees W w7.heap.size A5 K) (by kernel_rfl) ⟨S7.out.below ⟨rfl, rfl, rfl, Nat.le_refl _, fun _ _ => rfl⟩, hs5.below ⟨rfl, rfl, rfl, Nat.le_refl _, fun _ _ => rfl⟩⟩ (fun hHeld => ?_)
            refine wpAnyH_take (i := 0) (oi := ⟨_, _, _, _, _, _⟩) (v := ?_) rfl (by kernel_rfl) (by kernel_rfl) (by kernel_rfl) (fun _ _ _ h => h) (Or.inl ⟨by rfl, ?_⟩) (by assumption) ?_
            rotate_left 1
            · intro W hSw
              try dsimp only at hSw
              go_simp
              try with_reducible rfl
            try simp only [Act.put, List.setIfInBounds_toArray, List.set_cons_zero, List.set_cons_succ]
            refine wpAnyH_take (i := 1) (oi := ⟨_, _, _, _, _, _⟩) (v := ?_) rfl (by kernel_rfl) (by kernel_rfl) (by kernel_rfl) (fun _ _ _ h => h) (Or.inl ⟨by rfl, ?_⟩) (by assumption) ?_
            rotate_left 1
            · intro W hSw
              try dsimp only at hSw
              go_simp
              try with_reducible rfl
            try simp only [Act.put, List.setIfInBounds_toArray, List.set_cons_zero, List.set_cons_succ]
            refine wpAnyH_take (i := 2) (oi := ⟨_, _, _, _, _, _⟩) (v := ?_) rfl (by kernel_rfl) (by kernel_rfl) (by kernel_rfl) (fun _ _ _ h => h) (Or.inl ⟨by rfl, ?_⟩) (by assumption) ?_
            rotate_left 1
            · intro W hSw
              try dsimp only at hSw
              go_simp
              try with_reducible rfl
            try simp only [Act.put, List.setIfInBounds_toArray, List.set_cons_zero, List.set_cons_succ]
            refine wpAnyH_take (i := 3) (oi := ⟨_, _, _, _, _, _⟩) (v := ?_) rfl (by kernel_rfl) (by kernel_rfl) (by kernel_rfl) (fun _ _ _ h => h) (Or.inl ⟨by rfl, ?_⟩) (by assumption) ?_
            rotate_left 1
            · intro W hSw
              try dsimp only at hSw
              go_simp
              try with_reducible rfl
            try simp only [Act.put, List.setIfInBounds_toArray, List.set_cons_zero, List.set_cons_succ]
            refine wpAnyH_take (i := 4) (oi := ⟨_, _, _, _, _, _⟩) (v := ?_) rfl (by kernel_rfl) (by kernel_rfl) (by kernel_rfl) (fun _ _ _ h => h) (Or.inl ⟨by rfl, ?_⟩) (by assumption) ?_
            rotate_left 1
            · intro W hSw
              try dsimp only at hSw
              go_simp
              try with_reducible rfl
            try simp only [Act.put, List.setIfInBounds_toArray, List.set_cons_zero, List.set_cons_succ]
            refine wpAnyH_take (i := 5) (oi := ⟨_, _, _, _, _, _⟩) (v := ?_) rfl (by kernel_rfl) (by kernel_rfl) (by kernel_rfl) (fun _ _ _ h => h) (Or.inl ⟨by rfl, ?_⟩) (by assumption) ?_
            rotate_left 1
            · intro W hSw
              try dsimp only at hSw
              go_simp
              try with_reducible rfl
            try simp only [Act.put, List.setIfInBounds_toArray, List.set_cons_zero, List.set_cons_succ]
            refine wpAnyH_take (i := 6) (oi := ⟨_, _, _, _, _, _⟩) (v := ?_) rfl (by kernel_rfl) (by kernel_rfl) (by kernel_rfl) (fun _ _ _ h => h) (Or.inl ⟨by rfl, ?_⟩) (by assumption) ?_
            rotate_left 1
            · intro W hSw
              try dsimp only at hSw
              go_simp
              try with_reducible rfl
            try simp only [Act.put, List.setIfInBounds_toArray, List.set_cons_zero, List.set_cons_succ]
            refine wpAnyH_take (i := 7) (oi := ⟨_, _, _, _, _, _⟩) (v := ?_) rfl (by kernel_rfl) (by kernel_rfl) (by kernel_rfl) (fun _ _ _ h => h) (Or.inl ⟨by rfl, ?_⟩) (by assumption) ?_
            rotate_left 1
            · intro W hSw
              try dsimp only at hSw
              go_simp
              try with_reducible rfl
            try simp only [Act.put, List.setIfInBounds_toArray, List.set_cons_zero, List.set_cons_succ]
            refine wpAnyH_take (i := 8) (oi := ⟨_, _, _, _, _, _⟩) (v := ?_) rfl (by kernel_rfl) (by kernel_rfl) (by kernel_rfl) (fun _ _ _ h => h) (Or.inl ⟨by rfl, ?_⟩) (by assumption) ?_
            rotate_left 1
            · intro W hSw
              try dsimp only at hSw
              go_simp
              try with_reducible rfl
            try simp only [Act.put, List.setIfInBounds_toArray, List.set_cons_zero, List.set_cons_succ]
            refine wpAnyH_take (i := 9) (oi := ⟨_, _, _, _, _, _⟩) (v := ?_) rfl (by kernel_rfl) (by kernel_rfl) (by kernel_rfl) (fun _ _ _ h => h) (Or.inl ⟨by rfl, ?_⟩) (by assumption) ?_
            rotate_left 1
            · intro W hSw
              try dsimp only at hSw
              go_simp
              try with_reducible rfl
            try simp only [Act.put, List.setIfInBounds_toArray, List.set_cons_zero, List.set_cons_succ]
            refine wpAnyH_take (i := 10) (oi := ⟨_, _, _, _, _, _⟩) (v := ?_) rfl (by kernel_rfl) (by kernel_rfl) (by kernel_rfl) (fun _ _ _ h => h) (Or.inl ⟨by rfl, ?_⟩) (by assumption) ?_
            rotate_left 1
            · intro W hSw
              try dsimp only at hSw
              have q := run_string_sees (P := Tryd.prog) (w := W) (c := c4) (n := F.length) Tryd.underlying30 Tryd.underlying5 Tryd.underlying9 hkl.symm hSw.2
              go_simp
              try with_reducible rfl
            try simp only [Act.put, List.setIfInBounds_toArray, List.set_cons_zero, List.set_cons_succ]
            refine wpAnyH_take (i := 11) (oi := ⟨_, _, _, _, _, _⟩) (v := ?_) rfl (by kernel_rfl) (by kernel_rfl) (by kernel_rfl) (fun _ _ _ h => h) (Or.inl ⟨by rfl, ?_⟩) (by assumption) ?_
            rotate_left 1
            · intro W hSw
              try dsimp only at hSw
              go_simp
              try with_reducible rfl
            try simp only [Act.put, List.setIfInBounds_toArray, List.set_cons_zero, List.set_cons_succ]
            refine wpAnyH_take (i := 12) (oi := ⟨_, _, _, _, _, _⟩) (v := ?_) rfl (by kernel_rfl) (by kernel_rfl) (by kernel_rfl) (fun _ _ _ h => h) (Or.inl ⟨by rfl, ?_⟩) (by assumption) ?_
            rotate_left 1
            · intro W hSw
              try dsimp only at hSw
              have q := run_string_sees (P := Tryd.prog) (w := W) (c := c3) (n := F.length) Tryd.underlying30 Tryd.underlying5 Tryd.underlying9 rfl hSw.1
              go_simp
              try with_reducible rfl
            try simp only [Act.put, List.setIfInBounds_toArray, List.set_cons_zero, List.set_cons_succ]
            refine wpAnyH_take (i := 13) (oi := ⟨_, _, _, _, _, _⟩) (v := ?_) rfl (by kernel_rfl) (by kernel_rfl) (by kernel_rfl) (fun _ _ _ h => h) (Or.inl ⟨by rfl, ?_⟩) (by assumption) ?_
            rotate_left 1
            · intro W hSw
              try dsimp only at hSw
              go_simp
              try with_reducible rfl
            try simp only [Act.put, List.setIfInBounds_toArray, List.set_cons_zero, List.set_cons_succ]
            refine wpAnyH_take (i := 14) (oi := ⟨_, _, _, _, _, _⟩) (v := ?_) rfl (by kernel_rfl) (by kernel_rfl) (by kernel_rfl) (fun _ _ _ h => h) (Or.inl ⟨by rfl, ?_⟩) (by assumption) ?_
            rotate_left 1
            · intro W hSw
              try dsimp only at hSw
              go_simp
              try with_reducible rfl
            try simp only [Act.put, List.setIfInBounds_toArray, List.set_cons_zero, List.set_cons_succ]
            refine wpAnyH_take (i := 15) (oi := ⟨_, _, _, _, _, _⟩) (v := ?_) rfl (by kernel_rfl) (by kernel_rfl) (by kernel_rfl) (fun _ _ _ h => h) (Or.inl ⟨by rfl, ?_⟩) (by assumption) ?_
            rotate_left 1
            · intro W hSw
              try dsimp only at hSw
              go_simp
              try with_reducible rfl
            try simp only [Act.put, List.setIfInBounds_toArray, List.set_cons_zero, List.set_cons_succ]
            refine wpAnyH_done (by kernel_rfl) ?_ _
            go_wp2_with fail
            go_meet
            exact ⟨by rw [hrr], rfl⟩
          · have hd : decide ((F.length : Int) ≤ (G.length : Int)) = false := decide_eq_false (by omega)
            have hd2 : ((F.length : Int) ≤ (G.length : Int)) = False := eq_false (by omega)
            have hrr : r = false := by rw [← HRr.out, decide_eq_false hle]; rfl
            clear hle
            refine wp_region_held_drew (S := fun _ => True) (by kernel_rfl) True.intro (fun hHeld => ?_)
            refine wpAnyH_take (i := 0) (oi := ⟨_, _, _, _, _, _⟩) (v := ?_) rfl (by kernel_rfl) (by kernel_rfl) (by kernel_rfl) (fun _ _ _ h => h) (Or.inl ⟨by rfl, ?_⟩) (by assumption) ?_
            rotate_left 1
            · intro W hSw
              try dsimp only at hSw
              go_simp
              try with_reducible rfl
            try simp only [Act.put, List.setIfInBounds_toArray, List.set_cons_zero, List.set_cons_succ]
            refine wpAnyH_take (i := 1) (oi := ⟨_, _, _, _, _, _⟩) (v := ?_) rfl (by kernel_rfl) (by kernel_rfl) (by kernel_rfl) (fun _ _ _ h => h) (Or.inl ⟨by rfl, ?_⟩) (by assumption) ?_
            rotate_left 1
            · intro W hSw
              try dsimp only at hSw
              go_simp
              try with_reducible rfl
            try simp only [Act.put, List.setIfInBounds_toArray, List.set_cons_zero, List.set_cons_succ]
            refine wpAnyH_take (i := 2) (oi := ⟨_, _, _, _, _, _⟩) (v := ?_) rfl (by kernel_rfl) (by kernel_rfl) (by kernel_rfl) (fun _ _ _ h => h) (Or.inl ⟨by rfl, ?_⟩) (by assumption) ?_
            rotate_left 1
            · intro W hSw
              try dsimp only at hSw
              go_simp
              try with_reducible rfl
            try simp only [Act.put, List.setIfInBounds_toArray, List.set_cons_zero, List.set_cons_succ]
            refine wpAnyH_take (i := 3) (oi := ⟨_, _, _, _, _, _⟩) (v := ?_) rfl (by kernel_rfl) (by kernel_rfl) (by kernel_rfl) (fun _ _ _ h => h) (Or.inl ⟨by rfl, ?_⟩) (by assumption) ?_
            rotate_left 1
            · intro W hSw
              try dsimp only at hSw
              go_simp
              try with_reducible rfl
            try simp only [Act.put, List.setIfInBounds_toArray, List.set_cons_zero, List.set_cons_succ]
            refine wpAnyH_take (i := 4) (oi := ⟨_, _, _, _, _, _⟩) (v := ?_) rfl (by kernel_rfl) (by kernel_rfl) (by kernel_rfl) (fun _ _ _ h => h) (Or.inl ⟨by rfl, ?_⟩) (by assumption) ?_
            rotate_left 1
            · intro W hSw
              try dsimp only at hSw
              go_simp
              try with_reducible rfl
            try simp only [Act.put, List.setIfInBounds_toArray, List.set_cons_zero, List.set_cons_succ]
            refine wpAnyH_take (i := 5) (oi := ⟨_, _, _, _, _, _⟩) (v := ?_) rfl (by kernel_rfl) (by kernel_rfl) (by kernel_rfl) (fun _ _ _ h => h) (Or.inl ⟨by rfl, ?_⟩) (by assumption) ?_
            rotate_left 1
            · intro W hSw
              try dsimp only at hSw
              go_simp
              try with_reducible rfl
            try simp only [Act.put, List.setIfInBounds_toArray, List.set_cons_zero, List.set_cons_succ]
            refine wpAnyH_take (i := 6) (oi := ⟨_, _, _, _, _, _⟩) (v := undef) rfl (by kernel_rfl) (by kernel_rfl) (by kernel_rfl) (fun _ _ _ h => h) (Or.inr ⟨by rfl, rfl⟩) (by assumption) ?_
            try simp only [Act.put, List.setIfInBounds_toArray, List.set_cons_zero, List.set_cons_succ]
            refine wpAnyH_take (i := 7) (oi := ⟨_, _, _, _, _, _⟩) (v := undef) rfl (by kernel_rfl) (by kernel_rfl) (by kernel_rfl) (fun _ _ _ h => h) (Or.inr ⟨by rfl, rfl⟩) (by assumption) ?_
            try simp only [Act.put, List.setIfInBounds_toArray, List.set_cons_zero, List.set_cons_succ]
            refine wpAnyH_take (i := 8) (oi := ⟨_, _, _, _, _, _⟩) (v := undef) rfl (by kernel_rfl) (by kernel_rfl) (by kernel_rfl) (fun _ _ _ h => h) (Or.inr ⟨by rfl, rfl⟩) (by assumption) ?_
            try simp only [Act.put, List.setIfInBounds_toArray, List.set_cons_zero, List.set_cons_succ]
            refine wpAnyH_take (i := 9) (oi := ⟨_, _, _, _, _, _⟩) (v := undef) rfl (by kernel_rfl) (by kernel_rfl) (by kernel_rfl) (fun _ _ _ h => h) (Or.inr ⟨by rfl, rfl⟩) (by assumption) ?_
            try simp only [Act.put, List.setIfInBounds_toArray, List.set_cons_zero, List.set_cons_succ]
            refine wpAnyH_take (i := 10) (oi := ⟨_, _, _, _, _, _⟩) (v := undef) rfl (by kernel_rfl) (by kernel_rfl) (by kernel_rfl) (fun _ _ _ h => h) (Or.inr ⟨by rfl, rfl⟩) (by assumption) ?_
            try simp only [Act.put, List.setIfInBounds_toArray, List.set_cons_zero, List.set_cons_succ]
            refine wpAnyH_take (i := 11) (oi := ⟨_, _, _, _, _, _⟩) (v := undef) rfl (by kernel_rfl) (by kernel_rfl) (by kernel_rfl) (fun _ _ _ h => h) (Or.inr ⟨by rfl, rfl⟩) (by assumption) ?_
            try simp only [Act.put, List.setIfInBounds_toArray, List.set_cons_zero, List.set_cons_succ]
            refine wpAnyH_take (i := 12) (oi := ⟨_, _, _, _, _, _⟩) (v := undef) rfl (by kernel_rfl) (by kernel_rfl) (by kernel_rfl) (fun _ _ _ h => h) (Or.inr ⟨by rfl, rfl⟩) (by assumption) ?_
            try simp only [Act.put, List.setIfInBounds_toArray, List.set_cons_zero, List.set_cons_succ]
            refine wpAnyH_take (i := 13) (oi := ⟨_, _, _, _, _, _⟩) (v := undef) rfl (by kernel_rfl) (by kernel_rfl) (by kernel_rfl) (fun _ _ _ h => h) (Or.inr ⟨by rfl, rfl⟩) (by assumption) ?_
            try simp only [Act.put, List.setIfInBounds_toArray, List.set_cons_zero, List.set_cons_succ]
            refine wpAnyH_take (i := 14) (oi := ⟨_, _, _, _, _, _⟩) (v := ?_) rfl (by kernel_rfl) (by kernel_rfl) (by kernel_rfl) (fun _ _ _ h => h) (Or.inl ⟨by rfl, ?_⟩) (by assumption) ?_
            rotate_left 1
            · intro W hSw
              try dsimp only at hSw
              go_simp
              try with_reducible rfl
            try simp only [Act.put, List.setIfInBounds_toArray, List.set_cons_zero, List.set_cons_succ]
            refine wpAnyH_take (i := 15) (oi := ⟨_, _, _, _, _, _⟩) (v := ?_) rfl (by kernel_rfl) (by kernel_rfl) (by kernel_rfl) (fun _ _ _ h => h) (Or.inl ⟨by rfl, ?_⟩) (by assumption) ?_
            rotate_left 1
            · intro W hSw
              try dsimp only at hSw
              go_simp
              try with_reducible rfl
            try simp only [Act.put, List.setIfInBounds_toArray, List.set_cons_zero, List.set_cons_succ]
            refine wpAnyH_done (by kernel_rfl) ?_ _
            go_wp2_with fail
            go_meet
            exact ⟨by rw [hrr], rfl⟩
      case rest =>
        obtain ⟨rfl, rfl⟩ := hcut
        go_upto_region 13 with fail
        have V7d : Hid (Below ((w.alloc (.cells (txC t).toArray 26)).alloc (.cells (txC u).toArray 26)).heap.size ((w.alloc (.cells (txC t).toArray 26)).alloc (.cells (txC u).toArray 26)) w7.drew) := nxDrI V7.out
        have VS7d : Hid (Below w7.heap.size w7 w7.drew) := ⟨rfl, rfl, rfl, Nat.le_refl _, fun _ _ => rfl⟩
        go_cut [99] (fun q wx => q = .bool false ∧ Hid (Below ((w.alloc (.cells (txC t).toArray 26)).alloc (.cells (txC u).toArray 26)).heap.size ((w.alloc (.cells (txC t).toArray 26)).alloc (.cells (txC u).toArray 26)) wx))
        case first =>
          as_aux_lemma =>
            cases r with
            | true =>
              obtain rfl : x = v := HI.out (HB.out.1 rfl)
              have heq : ∀ wq, (binOp .eql 39 (.agg (By x).toArray) (.agg (By x).toArray)).run Tryd.prog wq = .ok (.bool true) wq := fun wq => by rw [run_eql_bytes 32 39 5 Tryd.underlying39 Tryd.underlying5 Tryd.u8sz x x HXl.out HXl.out, beq_self_eq_true]
              refine wp_region_held_drew (S := fun W => (W.rangeAt w.heap.size 0 (txC t) ∧ W.rangeAt (w.heap.size + 1) 0 (txC u)) ∧ Sees W w7.heap.size A3 F ∧ Sees W w7.heap.size A4 G) (by kernel_rfl) ⟨⟨rngB HR.out (nxDrI V7d.out) Hl0.out, rngB HQ.out (nxDrI V7d.out) Hl1.out⟩, S7.out.below (nxDrI VS7d.out), Q7.out.below (nxDrI VS7d.out)⟩ (fun hHeld => ?_)
              refine wpAnyH_take (i := 0) (oi := ⟨_, _, _, _, _, _⟩) (v := ?_) rfl (by kernel_rfl) (by kernel_rfl) (by kernel_rfl) (fun _ _ _ h => h) (Or.inl ⟨by rfl, ?_⟩) (by assumption) ?_
              rotate_left 1
              · intro W hSw
                try dsimp only at hSw
                go_simp
                try with_reducible rfl
              try simp only [Act.put, List.setIfInBounds_toArray, List.set_cons_zero, List.set_cons_succ]
              refine wpAnyH_take (i := 1) (oi := ⟨_, _, _, _, _, _⟩) (v := .agg (txC t).toArray) rfl (by kernel_rfl) (by kernel_rfl) (by kernel_rfl) (fun _ _ _ h => h) (yieldsIf_load_mid (by rfl) 26 (.tmp 3) rfl (w.heap.size) (0) rfl (txC t) _ (fun W h => h.1.1) Tryd.underlying26 rfl (HZTl.out t)) (by assumption) ?_
              try simp only [Act.put, List.setIfInBounds_toArray, List.set_cons_zero, List.set_cons_succ]
              refine wpAnyH_take (i := 2) (oi := ⟨_, _, _, _, _, _⟩) (v := .agg (txC u).toArray) rfl (by kernel_rfl) (by kernel_rfl) (by kernel_rfl) (fun _ _ _ h => h) (yieldsIf_load_mid (by rfl) 26 (.tmp 4) rfl (w.heap.size + 1) (0) rfl (txC u) _ (fun W h => h.1.2) Tryd.underlying26 rfl (HZTl.out u)) (by assumption) ?_
              try simp only [Act.put, List.setIfInBounds_toArray, List.set_cons_zero, List.set_cons_succ]
              refine wpAnyH_ready (rs := [3]) (by kernel_rfl) (by simp) ?_
              refine AllReadyH.cons rfl (fun K hK => ?_) AllReadyH.nil
              go_simp
              go_at_call 18
              refine (rsame_any w7.drew.drew t u (HT.out.later (nxDrI V7d.out)) (HU.out.later (nxDrI V7d.out))).mono ?_
              unfold SamePost
              rintro e w8 ⟨zs, rfl, hzs, hb⟩
              obtain rfl : zs = true := same_val hzs HB.out
              have V8 : Hid (Below ((w.alloc (.cells (txC t).toArray 26)).alloc (.cells (txC u).toArray 26)).heap.size ((w.alloc (.cells (txC t).toArray 26)).alloc (.cells (txC u).toArray 26)) w8) := nxTr (nxDrI V7d.out) hb
              have VS8 : Hid (Below w7.heap.size w7 w8) := nxTr (nxDrI VS7d.out) hb
              clear hzs hb
              refine hK.out _ _ ⟨⟨rngB HR.out V8.out Hl0.out, rngB HQ.out V8.out Hl1.out⟩, S7.out.below VS8.out, Q7.out.below VS8.out⟩ (fun hSn => ?_)
              clear hK K
              try simp only [Act.put, List.setIfInBounds_toArray, List.set_cons_zero, List.set_cons_succ]
              refine wpAnyH_take (i := 4) (oi := ⟨_, _, _, _, _, _⟩) (v := ?_) rfl (by kernel_rfl) (by kernel_rfl) (by kernel_rfl) (fun _ _ _ h => h) (Or.inl ⟨by rfl, ?_⟩) (by assumption) ?_
              rotate_left 1
              · intro W hSw
                try dsimp only at hSw
                go_simp
                try with_reducible rfl
              try simp only [Act.put, List.setIfInBounds_toArray, List.set_cons_zero, List.set_cons_succ]
              refine wpAnyH_take (i := 5) (oi := ⟨_, _, _, _, _, _⟩) (v := ?_) rfl (by kernel_rfl) (by kernel_rfl) (by kernel_rfl) (fun _ _ _ h => h) (Or.inl ⟨by rfl, ?_⟩) (by assumption) ?_
              rotate_left 1
              · intro W hSw
                try dsimp only at hSw
                go_simp
                try with_reducible rfl
              try simp only [Act.put, List.setIfInBounds_toArray, List.set_cons_zero, List.set_cons_succ]
              refine wpAnyH_take (i := 6) (oi := ⟨_, _, _, _, _, _⟩) (v := .agg (txC t).toArray) rfl (by kernel_rfl) (by kernel_rfl) (by kernel_rfl) (fun _ _ _ h => h) (yieldsIf_load_mid (by rfl) 26 (.tmp 3) rfl (w.heap.size) (0) rfl (txC t) _ (fun W h => h.1.1) Tryd.underlying26 rfl (HZTl.out t)) (by assumption) ?_
              try simp only [Act.put, List.setIfInBounds_toArray, List.set_cons_zero, List.set_cons_succ]
              refine wpAnyH_take (i := 8) (oi := ⟨_, _, _, _, _, _⟩) (v := .agg (txC u).toArray) rfl (by kernel_rfl) (by kernel_rfl) (by kernel_rfl) (fun _ _ _ h => h) (yieldsIf_load_mid (by rfl) 26 (.tmp 4) rfl (w.heap.size + 1) (0) rfl (txC u) _ (fun W h => h.1.2) Tryd.underlying26 rfl (HZTl.out u)) (by assumption) ?_
              try simp only [Act.put, List.setIfInBounds_toArray, List.set_cons_zero, List.set_cons_succ]
              refine wpAnyH_ready (rs := [7]) (by kernel_rfl) (by simp) ?_
              refine AllReadyH.cons rfl (fun K hK => ?_) AllReadyH.nil
              go_simp
              go_at_call 14
              refine (id_any w8 (HTb.out.later V8.out) t (HT.out.later V8.out)).mono ?_
              rw [HX.out]
              rintro e w9 ⟨rfl, hb⟩
              have V9 : Hid (Below ((w.alloc (.cells (txC t).toArray 26)).alloc (.cells (txC u).toArray 26)).heap.size ((w.alloc (.cells (txC t).toArray 26)).alloc (.cells (txC u).toArray 26)) w9) := nxTr V8.out hb
              have VS9 : Hid (Below w7.heap.size w7 w9) := nxTr VS8.out hb
              clear hb
              refine hK.out _ _ ⟨⟨rngB HR.out V9.out Hl0.out, rngB HQ.out V9.out Hl1.out⟩, S7.out.below VS9.out, Q7.out.below VS9.out⟩ (fun hSn => ?_)
              clear hK K
              try simp only [Act.put, List.setIfInBounds_toArray, List.set_cons_zero, List.set_cons_succ]
              refine wpAnyH_ready (rs := [9]) (by kernel_rfl) (by simp) ?_
              refine AllReadyH.cons rfl (fun K hK => ?_) AllReadyH.nil
              go_simp
              go_at_call 14
              refine (id_any w9 (HTb.out.later V9.out) u (HU.out.later V9.out)).mono ?_
              rw [HV.out]
              rintro e w10 ⟨rfl, hb⟩
              have V10 : Hid (Below ((w.alloc (.cells (txC t).toArray 26)).alloc (.cells (txC u).toArray 26)).heap.size ((w.alloc (.cells (txC t).toArray 26)).alloc (.cells (txC u).toArray 26)) w10) := nxTr V9.out hb
              have VS10 : Hid (Below w7.heap.size w7 w10) := nxTr VS9.out hb
              clear hb
              refine hK.out _ _ ⟨⟨rngB HR.out V10.out Hl0.out, rngB HQ.out V10.out Hl1.out⟩, S7.out.below VS10.out, Q7.out.below VS10.out⟩ (fun hSn => ?_)
              clear hK K
              try simp only [Act.put, List.setIfInBounds_toArray, List.set_cons_zero, List.set_cons_succ]
              refine wpAnyH_take (i := 10) (oi := ⟨_, _, _, _, _, _⟩) (v := ?_) rfl (by kernel_rfl) (by kernel_rfl) (by kernel_rfl) (fun _ _ _ h => h) (Or.inl ⟨by rfl, ?_⟩) (by assumption) ?_
              rotate_left 1
              · intro W hSw
                try dsimp only at hSw
                go_simp
                try with_reducible rfl
              try simp only [Act.put, List.setIfInBounds_toArray, List.set_cons_zero, List.set_cons_succ]
              refine wpAnyH_take (i := 11) (oi := ⟨_, _, _, _, _, _⟩) (v := ?_) rfl (by kernel_rfl) (by kernel_rfl) (by kernel_rfl) (fun _ _ _ h => h) (Or.inl ⟨by rfl, ?_⟩) (by assumption) ?_
              rotate_left 1
              · intro W hSw
                try dsimp only at hSw
                go_simp
                try with_reducible rfl
              try simp only [Act.put, List.setIfInBounds_toArray, List.set_cons_zero, List.set_cons_succ]
              refine wpAnyH_take (i := 12) (oi := ⟨_, _, _, _, _, _⟩) (v := ?_) rfl (by kernel_rfl) (by kernel_rfl) (by kernel_rfl) (fun _ _ _ h => h) (Or.inl ⟨by rfl, ?_⟩) (by assumption) ?_
              rotate_left 1
              · intro W hSw
                try dsimp only at hSw
                go_simp
                try with_reducible rfl
              try simp only [Act.put, List.setIfInBounds_toArray, List.set_cons_zero, List.set_cons_succ]
              refine wpAnyH_take (i := 13) (oi := ⟨_, _, _, _, _, _⟩) (v := ?_) rfl (by kernel_rfl) (by kernel_rfl) (by kernel_rfl) (fun _ _ _ h => h) (Or.inl ⟨by rfl, ?_⟩) (by assumption) ?_
              rotate_left 1
              · intro W hSw
                try dsimp only at hSw
                go_simp
                try with_reducible rfl
              try simp only [Act.put, List.setIfInBounds_toArray, List.set_cons_zero, List.set_cons_succ]
              refine wpAnyH_take (i := 14) (oi := ⟨_, _, _, _, _, _⟩) (v := ?_) rfl (by kernel_rfl) (by kernel_rfl) (by kernel_rfl) (fun _ _ _ h => h) (Or.inl ⟨by rfl, ?_⟩) (by assumption) ?_
              rotate_left 1
              · intro W hSw
                try dsimp only at hSw
                go_simp
                try with_reducible rfl
              try simp only [Act.put, List.setIfInBounds_toArray, List.set_cons_zero, List.set_cons_succ]
              refine wpAnyH_take (i := 15) (oi := ⟨_, _, _, _, _, _⟩) (v := ?_) rfl (by kernel_rfl) (by kernel_rfl) (by kernel_rfl) (fun _ _ _ h => h) (Or.inl ⟨by rfl, ?_⟩) (by assumption) ?_
              rotate_left 1
              · intro W hSw
                try dsimp only at hSw
                go_simp
                try with_reducible rfl
              try simp only [Act.put, List.setIfInBounds_toArray, List.set_cons_zero, List.set_cons_succ]
              refine wpAnyH_take (i := 16) (oi := ⟨_, _, _, _, _, _⟩) (v := undef) rfl (by kernel_rfl) (by kernel_rfl) (by kernel_rfl) (fun _ _ _ h => h) (Or.inr ⟨by rfl, rfl⟩) (by assumption) ?_
              try simp only [Act.put, List.setIfInBounds_toArray, List.set_cons_zero, List.set_cons_succ]
              refine wpAnyH_take (i := 17) (oi := ⟨_, _, _, _, _, _⟩) (v := undef) rfl (by kernel_rfl) (by kernel_rfl) (by kernel_rfl) (fun _ _ _ h => h) (Or.inr ⟨by rfl, rfl⟩) (by assumption) ?_
              try simp only [Act.put, List.setIfInBounds_toArray, List.set_cons_zero, List.set_cons_succ]
              refine wpAnyH_take (i := 18) (oi := ⟨_, _, _, _, _, _⟩) (v := undef) rfl (by kernel_rfl) (by kernel_rfl) (by kernel_rfl) (fun _ _ _ h => h) (Or.inr ⟨by rfl, rfl⟩) (by assumption) ?_
              try simp only [Act.put, List.setIfInBounds_toArray, List.set_cons_zero, List.set_cons_succ]
              refine wpAnyH_take (i := 19) (oi := ⟨_, _, _, _, _, _⟩) (v := undef) rfl (by kernel_rfl) (by kernel_rfl) (by kernel_rfl) (fun _ _ _ h => h) (Or.inr ⟨by rfl, rfl⟩) (by assumption) ?_
              try simp only [Act.put, List.setIfInBounds_toArray, List.set_cons_zero, List.set_cons_succ]
              refine wpAnyH_take (i := 20) (oi := ⟨_, _, _, _, _, _⟩) (v := undef) rfl (by kernel_rfl) (by kernel_rfl) (by kernel_rfl) (fun _ _ _ h => h) (Or.inr ⟨by rfl, rfl⟩) (by assumption) ?_
              try simp only [Act.put, List.setIfInBounds_toArray, List.set_cons_zero, List.set_cons_succ]
              refine wpAnyH_take (i := 21) (oi := ⟨_, _, _, _, _, _⟩) (v := ?_) rfl (by kernel_rfl) (by kernel_rfl) (by kernel_rfl) (fun _ _ _ h => h) (Or.inl ⟨by rfl, ?_⟩) (by assumption) ?_
              rotate_left 1
              · intro W hSw
                try dsimp only at hSw
                go_simp
                try with_reducible rfl
              try simp only [Act.put, List.setIfInBounds_toArray, List.set_cons_zero, List.set_cons_succ]
              refine wpAnyH_take (i := 22) (oi := ⟨_, _, _, _, _, _⟩) (v := ?_) rfl (by kernel_rfl) (by kernel_rfl) (by kernel_rfl) (fun _ _ _ h => h) (Or.inl ⟨by rfl, ?_⟩) (by assumption) ?_
              rotate_left 1
              · intro W hSw
                try dsimp only at hSw
                go_simp
                try with_reducible rfl
              try simp only [Act.put, List.setIfInBounds_toArray, List.set_cons_zero, List.set_cons_succ]
              refine wpAnyH_done (by kernel_rfl) ?_ _
              go_wp2_with fail
              go_meet
              exact ⟨rfl, V10⟩
            | false =>
              by_cases hxv : x = v
              · subst hxv
                have heq : ∀ wq, (binOp .eql 39 (.agg (By x).toArray) (.agg (By x).toArray)).run Tryd.prog wq = .ok (.bool true) wq := fun wq => by rw [run_eql_bytes 32 39 5 Tryd.underlying39 Tryd.underlying5 Tryd.u8sz x x HXl.out HXl.out, beq_self_eq_true]
                have hnq := neq_hash x HXl.out
                refine wp_region_held_drew (S := fun W => (W.rangeAt w.heap.size 0 (txC t) ∧ W.rangeAt (w.heap.size + 1) 0 (txC u)) ∧ Sees W w7.heap.size A3 F ∧ Sees W w7.heap.size A4 G) (by kernel_rfl) ⟨⟨rngB HR.out (nxDrI V7d.out) Hl0.out, rngB HQ.out (nxDrI V7d.out) Hl1.out⟩, S7.out.below (nxDrI VS7d.out), Q7.out.below (nxDrI VS7d.out)⟩ (fun hHeld => ?_)
                refine wpAnyH_take (i := 0) (oi := ⟨_, _, _, _, _, _⟩) (v := ?_) rfl (by kernel_rfl) (by kernel_rfl) (by kernel_rfl) (fun _ _ _ h => h) (Or.inl ⟨by rfl, ?_⟩) (by assumption) ?_
                rotate_left 1
                · intro W hSw
                  try dsimp only at hSw
                  go_simp
                  try with_reducible rfl
                try simp only [Act.put, List.setIfInBounds_toArray, List.set_cons_zero, List.set_cons_succ]
                refine wpAnyH_take (i := 1) (oi := ⟨_, _, _, _, _, _⟩) (v := .agg (txC t).toArray) rfl (by kernel_rfl) (by kernel_rfl) (by kernel_rfl) (fun _ _ _ h => h) (yieldsIf_load_mid (by rfl) 26 (.tmp 3) rfl (w.heap.size) (0) rfl (txC t) _ (fun W h => h.1.1) Tryd.underlying26 rfl (HZTl.out t)) (by assumption) ?_
                try simp only [Act.put, List.setIfInBounds_toArray, List.set_cons_zero, List.set_cons_succ]
                refine wpAnyH_take (i := 2) (oi := ⟨_, _, _, _, _, _⟩) (v := .agg (txC u).toArray) rfl (by kernel_rfl) (by kernel_rfl) (by kernel_rfl) (fun _ _ _ h => h) (yieldsIf_load_mid (by rfl) 26 (.tmp 4) rfl (w.heap.size + 1) (0) rfl (txC u) _ (fun W h => h.1.2) Tryd.underlying26 rfl (HZTl.out u)) (by assumption) ?_
                try simp only [Act.put, List.setIfInBounds_toArray, List.set_cons_zero, List.set_cons_succ]
                refine wpAnyH_ready (rs := [3]) (by kernel_rfl) (by simp) ?_
                refine AllReadyH.cons rfl (fun K hK => ?_) AllReadyH.nil
                go_simp
                go_at_call 18
                refine (rsame_any w7.drew.drew t u (HT.out.later (nxDrI V7d.out)) (HU.out.later (nxDrI V7d.out))).mono ?_
                unfold SamePost
                rintro e w8 ⟨zs, rfl, hzs, hb⟩
                obtain rfl : zs = false := same_val hzs HB.out
                have V8 : Hid (Below ((w.alloc (.cells (txC t).toArray 26)).alloc (.cells (txC u).toArray 26)).heap.size ((w.alloc (.cells (txC t).toArray 26)).alloc (.cells (txC u).toArray 26)) w8) := nxTr (nxDrI V7d.out) hb
                have VS8 : Hid (Below w7.heap.size w7 w8) := nxTr (nxDrI VS7d.out) hb
                clear hzs hb
                refine hK.out _ _ ⟨⟨rngB HR.out V8.out Hl0.out, rngB HQ.out V8.out Hl1.out⟩, S7.out.below VS8.out, Q7.out.below VS8.out⟩ (fun hSn => ?_)
                clear hK K
                try simp only [Act.put, List.setIfInBounds_toArray, List.set_cons_zero, List.set_cons_succ]
                refine wpAnyH_take (i := 4) (oi := ⟨_, _, _, _, _, _⟩) (v := ?_) rfl (by kernel_rfl) (by kernel_rfl) (by kernel_rfl) (fun _ _ _ h => h) (Or.inl ⟨by rfl, ?_⟩) (by assumption) ?_
                rotate_left 1
                · intro W hSw
                  try dsimp only at hSw
                  go_simp
                  try with_reducible rfl
                try simp only [Act.put, List.setIfInBounds_toArray, List.set_cons_zero, List.set_cons_succ]
                refine wpAnyH_take (i := 5) (oi := ⟨_, _, _, _, _, _⟩) (v := ?_) rfl (by kernel_rfl) (by kernel_rfl) (by kernel_rfl) (fun _ _ _ h => h) (Or.inl ⟨by rfl, ?_⟩) (by assumption) ?_
                rotate_left 1
                · intro W hSw
                  try dsimp only at hSw
                  go_simp
                  try with_reducible rfl
                try simp only [Act.put, List.setIfInBounds_toArray, List.set_cons_zero, List.set_cons_succ]
                refine wpAnyH_take (i := 6) (oi := ⟨_, _, _, _, _, _⟩) (v := .agg (txC t).toArray) rfl (by kernel_rfl) (by kernel_rfl) (by kernel_rfl) (fun _ _ _ h => h) (yieldsIf_load_mid (by rfl) 26 (.tmp 3) rfl (w.heap.size) (0) rfl (txC t) _ (fun W h => h.1.1) Tryd.underlying26 rfl (HZTl.out t)) (by assumption) ?_
                try simp only [Act.put, List.setIfInBounds_toArray, List.set_cons_zero, List.set_cons_succ]
                refine wpAnyH_take (i := 8) (oi := ⟨_, _, _, _, _, _⟩) (v := .agg (txC u).toArray) rfl (by kernel_rfl) (by kernel_rfl) (by kernel_rfl) (fun _ _ _ h => h) (yieldsIf_load_mid (by rfl) 26 (.tmp 4) rfl (w.heap.size + 1) (0) rfl (txC u) _ (fun W h => h.1.2) Tryd.underlying26 rfl (HZTl.out u)) (by assumption) ?_
                try simp only [Act.put, List.setIfInBounds_toArray, List.set_cons_zero, List.set_cons_succ]
                refine wpAnyH_ready (rs := [7]) (by kernel_rfl) (by simp) ?_
                refine AllReadyH.cons rfl (fun K hK => ?_) AllReadyH.nil
                go_simp
                go_at_call 14
                refine (id_any w8 (HTb.out.later V8.out) t (HT.out.later V8.out)).mono ?_
                rw [HX.out]
                rintro e w9 ⟨rfl, hb⟩
                have V9 : Hid (Below ((w.alloc (.cells (txC t).toArray 26)).alloc (.cells (txC u).toArray 26)).heap.size ((w.alloc (.cells (txC t).toArray 26)).alloc (.cells (txC u).toArray 26)) w9) := nxTr V8.out hb
                have VS9 : Hid (Below w7.heap.size w7 w9) := nxTr VS8.out hb
                clear hb
                refine hK.out _ _ ⟨⟨rngB HR.out V9.out Hl0.out, rngB HQ.out V9.out Hl1.out⟩, S7.out.below VS9.out, Q7.out.below VS9.out⟩ (fun hSn => ?_)
                clear hK K
                try simp only [Act.put, List.setIfInBounds_toArray, List.set_cons_zero, List.set_cons_succ]
                refine wpAnyH_ready (rs := [9]) (by kernel_rfl) (by simp) ?_
                refine AllReadyH.cons rfl (fun K hK => ?_) AllReadyH.nil
                go_simp
                go_at_call 14
                refine (id_any w9 (HTb.out.later V9.out) u (HU.out.later V9.out)).mono ?_
                rw [HV.out]
                rintro e w10 ⟨rfl, hb⟩
                have V10 : Hid (Below ((w.alloc (.cells (txC t).toArray 26)).alloc (.cells (txC u).toArray 26)).heap.size ((w.alloc (.cells (txC t).toArray 26)).alloc (.cells (txC u).toArray 26)) w10) := nxTr V9.out hb
                have VS10 : Hid (Below w7.heap.size w7 w10) := nxTr VS9.out hb
                clear hb
                refine hK.out _ _ ⟨⟨rngB HR.out V10.out Hl0.out, rngB HQ.out V10.out Hl1.out⟩, S7.out.below VS10.out, Q7.out.below VS10.out⟩ (fun hSn => ?_)
                clear hK K
                try simp only [Act.put, List.setIfInBounds_toArray, List.set_cons_zero, List.set_cons_succ]
                refine wpAnyH_take (i := 10) (oi := ⟨_, _, _, _, _, _⟩) (v := ?_) rfl (by kernel_rfl) (by kernel_rfl) (by kernel_rfl) (fun _ _ _ h => h) (Or.inl ⟨by rfl, ?_⟩) (by assumption) ?_
                rotate_left 1
                · intro W hSw
                  try dsimp only at hSw
                  go_simp
                  try with_reducible rfl
                try simp only [Act.put, List.setIfInBounds_toArray, List.set_cons_zero, List.set_cons_succ]
                refine wpAnyH_take (i := 11) (oi := ⟨_, _, _, _, _, _⟩) (v := ?_) rfl (by kernel_rfl) (by kernel_rfl) (by kernel_rfl) (fun _ _ _ h => h) (Or.inl ⟨by rfl, ?_⟩) (by assumption) ?_
                rotate_left 1
                · intro W hSw
                  try dsimp only at hSw
                  go_simp
                  try with_reducible rfl
                try simp only [Act.put, List.setIfInBounds_toArray, List.set_cons_zero, List.set_cons_succ]
                refine wpAnyH_take (i := 12) (oi := ⟨_, _, _, _, _, _⟩) (v := ?_) rfl (by kernel_rfl) (by kernel_rfl) (by kernel_rfl) (fun _ _ _ h => h) (Or.inl ⟨by rfl, ?_⟩) (by assumption) ?_
                rotate_left 1
                · intro W hSw
                  try dsimp only at hSw
                  go_simp
                  try with_reducible rfl
                try simp only [Act.put, List.setIfInBounds_toArray, List.set_cons_zero, List.set_cons_succ]
                refine wpAnyH_take (i := 13) (oi := ⟨_, _, _, _, _, _⟩) (v := ?_) rfl (by kernel_rfl) (by kernel_rfl) (by kernel_rfl) (fun _ _ _ h => h) (Or.inl ⟨by rfl, ?_⟩) (by assumption) ?_
                rotate_left 1
                · intro W hSw
                  try dsimp only at hSw
                  go_simp
                  try with_reducible rfl
                try simp only [Act.put, List.setIfInBounds_toArray, List.set_cons_zero, List.set_cons_succ]
                refine wpAnyH_take (i := 14) (oi := ⟨_, _, _, _, _, _⟩) (v := ?_) rfl (by kernel_rfl) (by kernel_rfl) (by kernel_rfl) (fun _ _ _ h => h) (Or.inl ⟨by rfl, ?_⟩) (by assumption) ?_
                rotate_left 1
                · intro W hSw
                  try dsimp only at hSw
                  go_simp
                  try with_reducible rfl
                try simp only [Act.put, List.setIfInBounds_toArray, List.set_cons_zero, List.set_cons_succ]
                refine wpAnyH_take (i := 15) (oi := ⟨_, _, _, _, _, _⟩) (v := ?_) rfl (by kernel_rfl) (by kernel_rfl) (by kernel_rfl) (fun _ _ _ h => h) (Or.inl ⟨by rfl, ?_⟩) (by assumption) ?_
                rotate_left 1
                · intro W hSw
                  try dsimp only at hSw
                  go_simp
                  try with_reducible rfl
                try simp only [Act.put, List.setIfInBounds_toArray, List.set_cons_zero, List.set_cons_succ]
                refine wpAnyH_take (i := 16) (oi := ⟨_, _, _, _, _, _⟩) (v := ?_) rfl (by kernel_rfl) (by kernel_rfl) (by kernel_rfl) (fun _ _ _ h => h) (Or.inl ⟨by rfl, ?_⟩) (by assumption) ?_
                rotate_left 1
                · intro W hSw
                  try dsimp only at hSw
                  go_simp
                  try with_reducible rfl
                try simp only [Act.put, List.setIfInBounds_toArray, List.set_cons_zero, List.set_cons_succ]
                refine wpAnyH_take (i := 18) (oi := ⟨_, _, _, _, _, _⟩) (v := ?_) rfl (by kernel_rfl) (by kernel_rfl) (by kernel_rfl) (fun _ _ _ h => h) (Or.inl ⟨by rfl, ?_⟩) (by assumption) ?_
                rotate_left 1
                · intro W hSw
                  try dsimp only at hSw
                  go_simp
                  try with_reducible rfl
                try simp only [Act.put, List.setIfInBounds_toArray, List.set_cons_zero, List.set_cons_succ]
                refine wpAnyH_ready (rs := [17]) (by kernel_rfl) (by simp) ?_
                refine AllReadyH.cons rfl (fun K hK => ?_) AllReadyH.nil
                go_simp
                go_at_call 27
                refine (rtag_any w10 nmTx A3 _ c3 F rfl ((S7.out.below VS10.out).more VS10.out.size) HLF2.out (by show 2 ≤ _; omega)).mono ?_
                rw [← HXs.out]
                rintro e w11 ⟨rfl, hb⟩
                have V11 : Hid (Below ((w.alloc (.cells (txC t).toArray 26)).alloc (.cells (txC u).toArray 26)).heap.size ((w.alloc (.cells (txC t).toArray 26)).alloc (.cells (txC u).toArray 26)) w11) := nxTr V10.out hb
                have VS11 : Hid (Below w7.heap.size w7 w11) := nxTr VS10.out hb
                clear hb
                refine hK.out _ _ ⟨⟨rngB HR.out V11.out Hl0.out, rngB HQ.out V11.out Hl1.out⟩, S7.out.below VS11.out, Q7.out.below VS11.out⟩ (fun hSn => ?_)
                clear hK K
                try simp only [Act.put, List.setIfInBounds_toArray, List.set_cons_zero, List.set_cons_succ]
                refine wpAnyH_ready (rs := [19]) (by kernel_rfl) (by simp) ?_
                refine AllReadyH.cons rfl (fun K hK => ?_) AllReadyH.nil
                go_simp
                go_at_call 27
                refine (rtag_any w11 nmTx A4 _ c4 G rfl ((Q7.out.below VS11.out).more VS11.out.size) HLG2.out (by show 2 ≤ _; omega)).mono ?_
                rw [← HVs.out]
                rintro e w12 ⟨rfl, hb⟩
                have V12 : Hid (Below ((w.alloc (.cells (txC t).toArray 26)).alloc (.cells (txC u).toArray 26)).heap.size ((w.alloc (.cells (txC t).toArray 26)).alloc (.cells (txC u).toArray 26)) w12) := nxTr V11.out hb
                have VS12 : Hid (Below w7.heap.size w7 w12) := nxTr VS11.out hb
                clear hb
                refine hK.out _ _ ⟨⟨rngB HR.out V12.out Hl0.out, rngB HQ.out V12.out Hl1.out⟩, S7.out.below VS12.out, Q7.out.below VS12.out⟩ (fun hSn => ?_)
                clear hK K
                try simp only [Act.put, List.setIfInBounds_toArray, List.set_cons_zero, List.set_cons_succ]
                refine wpAnyH_take (i := 20) (oi := ⟨_, _, _, _, _, _⟩) (v := ?_) rfl (by kernel_rfl) (by kernel_rfl) (by kernel_rfl) (fun _ _ _ h => h) (Or.inl ⟨by rfl, ?_⟩) (by assumption) ?_
                rotate_left 1
                · intro W hSw
                  try dsimp only at hSw
                  go_simp
                  try with_reducible rfl
                try simp only [Act.put, List.setIfInBounds_toArray, List.set_cons_zero, List.set_cons_succ]
                refine wpAnyH_take (i := 21) (oi := ⟨_, _, _, _, _, _⟩) (v := ?_) rfl (by kernel_rfl) (by kernel_rfl) (by kernel_rfl) (fun _ _ _ h => h) (Or.inl ⟨by rfl, ?_⟩) (by assumption) ?_
                rotate_left 1
                · intro W hSw
                  try dsimp only at hSw
                  go_simp
                  try with_reducible rfl
                try simp only [Act.put, List.setIfInBounds_toArray, List.set_cons_zero, List.set_cons_succ]
                refine wpAnyH_take (i := 22) (oi := ⟨_, _, _, _, _, _⟩) (v := ?_) rfl (by kernel_rfl) (by kernel_rfl) (by kernel_rfl) (fun _ _ _ h => h) (Or.inl ⟨by rfl, ?_⟩) (by assumption) ?_
                rotate_left 1
                · intro W hSw
                  try dsimp only at hSw
                  go_simp
                  try with_reducible rfl
                try simp only [Act.put, List.setIfInBounds_toArray, List.set_cons_zero, List.set_cons_succ]
                refine wpAnyH_done (by kernel_rfl) ?_ _
                go_wp2_with fail
                go_meet
                exact ⟨rfl, V12⟩
              · have heq : ∀ wq, (binOp .eql 39 (.agg (By x).toArray) (.agg (By v).toArray)).run Tryd.prog wq = .ok (.bool false) wq := fun wq => by rw [run_eql_bytes 32 39 5 Tryd.underlying39 Tryd.underlying5 Tryd.u8sz x v HXl.out HVl.out, beq_eq_false_iff_ne.2 hxv]
                clear hxv
                refine wp_region_held_drew (S := fun W => (W.rangeAt w.heap.size 0 (txC t) ∧ W.rangeAt (w.heap.size + 1) 0 (txC u)) ∧ Sees W w7.heap.size A3 F ∧ Sees W w7.heap.size A4 G) (by kernel_rfl) ⟨⟨rngB HR.out (nxDrI V7d.out) Hl0.out, rngB HQ.out (nxDrI V7d.out) Hl1.out⟩, S7.out.below (nxDrI VS7d.out), Q7.out.below (nxDrI VS7d.out)⟩ (fun hHeld => ?_)
                refine wpAnyH_take (i := 0) (oi := ⟨_, _, _, _, _, _⟩) (v := ?_) rfl (by kernel_rfl) (by kernel_rfl) (by kernel_rfl) (fun _ _ _ h => h) (Or.inl ⟨by rfl, ?_⟩) (by assumption) ?_
                rotate_left 1
                · intro W hSw
                  try dsimp only at hSw
                  go_simp
                  try with_reducible rfl
                try simp only [Act.put, List.setIfInBounds_toArray, List.set_cons_zero, List.set_cons_succ]
                refine wpAnyH_take (i := 1) (oi := ⟨_, _, _, _, _, _⟩) (v := .agg (txC t).toArray) rfl (by kernel_rfl) (by kernel_rfl) (by kernel_rfl) (fun _ _ _ h => h) (yieldsIf_load_mid (by rfl) 26 (.tmp 3) rfl (w.heap.size) (0) rfl (txC t) _ (fun W h => h.1.1) Tryd.underlying26 rfl (HZTl.out t)) (by assumption) ?_
                try simp only [Act.put, List.setIfInBounds_toArray, List.set_cons_zero, List.set_cons_succ]
                refine wpAnyH_take (i := 2) (oi := ⟨_, _, _, _, _, _⟩) (v := .agg (txC u).toArray) rfl (by kernel_rfl) (by kernel_rfl) (by kernel_rfl) (fun _ _ _ h => h) (yieldsIf_load_mid (by rfl) 26 (.tmp 4) rfl (w.heap.size + 1) (0) rfl (txC u) _ (fun W h => h.1.2) Tryd.underlying26 rfl (HZTl.out u)) (by assumption) ?_
                try simp only [Act.put, List.setIfInBounds_toArray, List.set_cons_zero, List.set_cons_succ]
                refine wpAnyH_ready (rs := [3]) (by kernel_rfl) (by simp) ?_
                refine AllReadyH.cons rfl (fun K hK => ?_) AllReadyH.nil
                go_simp
                go_at_call 18
                refine (rsame_any w7.drew.drew t u (HT.out.later (nxDrI V7d.out)) (HU.out.later (nxDrI V7d.out))).mono ?_
                unfold SamePost
                rintro e w8 ⟨zs, rfl, hzs, hb⟩
                obtain rfl : zs = false := same_val hzs HB.out
                have V8 : Hid (Below ((w.alloc (.cells (txC t).toArray 26)).alloc (.cells (txC u).toArray 26)).heap.size ((w.alloc (.cells (txC t).toArray 26)).alloc (.cells (txC u).toArray 26)) w8) := nxTr (nxDrI V7d.out) hb
                have VS8 : Hid (Below w7.heap.size w7 w8) := nxTr (nxDrI VS7d.out) hb
                clear hzs hb
                refine hK.out _ _ ⟨⟨rngB HR.out V8.out Hl0.out, rngB HQ.out V8.out Hl1.out⟩, S7.out.below VS8.out, Q7.out.below VS8.out⟩ (fun hSn => ?_)
                clear hK K
                try simp only [Act.put, List.setIfInBounds_toArray, List.set_cons_zero, List.set_cons_succ]
                refine wpAnyH_take (i := 4) (oi := ⟨_, _, _, _, _, _⟩) (v := ?_) rfl (by kernel_rfl) (by kernel_rfl) (by kernel_rfl) (fun _ _ _ h => h) (Or.inl ⟨by rfl, ?_⟩) (by assumption) ?_
                rotate_left 1
                · intro W hSw
                  try dsimp only at hSw
                  go_simp
                  try with_reducible rfl
                try simp only [Act.put, List.setIfInBounds_toArray, List.set_cons_zero, List.set_cons_succ]
                refine wpAnyH_take (i := 5) (oi := ⟨_, _, _, _, _, _⟩) (v := ?_) rfl (by kernel_rfl) (by kernel_rfl) (by kernel_rfl) (fun _ _ _ h => h) (Or.inl ⟨by rfl, ?_⟩) (by assumption) ?_
                rotate_left 1
                · intro W hSw
                  try dsimp only at hSw
                  go_simp
                  try with_reducible rfl
                try simp only [Act.put, List.setIfInBounds_toArray, List.set_cons_zero, List.set_cons_succ]
                refine wpAnyH_take (i := 6) (oi := ⟨_, _, _, _, _, _⟩) (v := .agg (txC t).toArray) rfl (by kernel_rfl) (by kernel_rfl) (by kernel_rfl) (fun _ _ _ h => h) (yieldsIf_load_mid (by rfl) 26 (.tmp 3) rfl (w.heap.size) (0) rfl (txC t) _ (fun W h => h.1.1) Tryd.underlying26 rfl (HZTl.out t)) (by assumption) ?_
                try simp only [Act.put, List.setIfInBounds_toArray, List.set_cons_zero, List.set_cons_succ]
                refine wpAnyH_take (i := 8) (oi := ⟨_, _, _, _, _, _⟩) (v := .agg (txC u).toArray) rfl (by kernel_rfl) (by kernel_rfl) (by kernel_rfl) (fun _ _ _ h => h) (yieldsIf_load_mid (by rfl) 26 (.tmp 4) rfl (w.heap.size + 1) (0) rfl (txC u) _ (fun W h => h.1.2) Tryd.underlying26 rfl (HZTl.out u)) (by assumption) ?_
                try simp only [Act.put, List.setIfInBounds_toArray, List.set_cons_zero, List.set_cons_succ]
                refine wpAnyH_ready (rs := [7]) (by kernel_rfl) (by simp) ?_
                refine AllReadyH.cons rfl (fun K hK => ?_) AllReadyH.nil
                go_simp
                go_at_call 14
                refine (id_any w8 (HTb.out.later V8.out) t (HT.out.later V8.out)).mono ?_
                rw [HX.out]
                rintro e w9 ⟨rfl, hb⟩
                have V9 : Hid (Below ((w.alloc (.cells (txC t).toArray 26)).alloc (.cells (txC u).toArray 26)).heap.size ((w.alloc (.cells (txC t).toArray 26)).alloc (.cells (txC u).toArray 26)) w9) := nxTr V8.out hb
                have VS9 : Hid (Below w7.heap.size w7 w9) := nxTr VS8.out hb
                clear hb
                refine hK.out _ _ ⟨⟨rngB HR.out V9.out Hl0.out, rngB HQ.out V9.out Hl1.out⟩, S7.out.below VS9.out, Q7.out.below VS9.out⟩ (fun hSn => ?_)
                clear hK K
                try simp only [Act.put, List.setIfInBounds_toArray, List.set_cons_zero, List.set_cons_succ]
                refine wpAnyH_ready (rs := [9]) (by kernel_rfl) (by simp) ?_
                refine AllReadyH.cons rfl (fun K hK => ?_) AllReadyH.nil
                go_simp
                go_at_call 14
                refine (id_any w9 (HTb.out.later V9.out) u (HU.out.later V9.out)).mono ?_
                rw [HV.out]
                rintro e w10 ⟨rfl, hb⟩
                have V10 : Hid (Below ((w.alloc (.cells (txC t).toArray 26)).alloc (.cells (txC u).toArray 26)).heap.size ((w.alloc (.cells (txC t).toArray 26)).alloc (.cells (txC u).toArray 26)) w10) := nxTr V9.out hb
                have VS10 : Hid (Below w7.heap.size w7 w10) := nxTr VS9.out hb
                clear hb
                refine hK.out _ _ ⟨⟨rngB HR.out V10.out Hl0.out, rngB HQ.out V10.out Hl1.out⟩, S7.out.below VS10.out, Q7.out.below VS10.out⟩ (fun hSn => ?_)
                clear hK K
                try simp only [Act.put, List.setIfInBounds_toArray, List.set_cons_zero, List.set_cons_succ]
                refine wpAnyH_take (i := 10) (oi := ⟨_, _, _, _, _, _⟩) (v := ?_) rfl (by kernel_rfl) (by kernel_rfl) (by kernel_rfl) (fun _ _ _ h => h) (Or.inl ⟨by rfl, ?_⟩) (by assumption) ?_
                rotate_left 1
                · intro W hSw
                  try dsimp only at hSw
                  go_simp
                  try with_reducible rfl
                try simp only [Act.put, List.setIfInBounds_toArray, List.set_cons_zero, List.set_cons_succ]
                refine wpAnyH_take (i := 11) (oi := ⟨_, _, _, _, _, _⟩) (v := ?_) rfl (by kernel_rfl) (by kernel_rfl) (by kernel_rfl) (fun _ _ _ h => h) (Or.inl ⟨by rfl, ?_⟩) (by assumption) ?_
                rotate_left 1
                · intro W hSw
                  try dsimp only at hSw
                  go_simp
                  try with_reducible rfl
                try simp only [Act.put, List.setIfInBounds_toArray, List.set_cons_zero, List.set_cons_succ]
                refine wpAnyH_take (i := 12) (oi := ⟨_, _, _, _, _, _⟩) (v := undef) rfl (by kernel_rfl) (by kernel_rfl) (by kernel_rfl) (fun _ _ _ h => h) (Or.inr ⟨by rfl, rfl⟩) (by assumption) ?_
                try simp only [Act.put, List.setIfInBounds_toArray, List.set_cons_zero, List.set_cons_succ]
                refine wpAnyH_take (i := 13) (oi := ⟨_, _, _, _, _, _⟩) (v := undef) rfl (by kernel_rfl) (by kernel_rfl) (by kernel_rfl) (fun _ _ _ h => h) (Or.inr ⟨by rfl, rfl⟩) (by assumption) ?_
                try simp only [Act.put, List.setIfInBounds_toArray, List.set_cons_zero, List.set_cons_succ]
                refine wpAnyH_take (i := 14) (oi := ⟨_, _, _, _, _, _⟩) (v := ?_) rfl (by kernel_rfl) (by kernel_rfl) (by kernel_rfl) (fun _ _ _ h => h) (Or.inl ⟨by rfl, ?_⟩) (by assumption) ?_
                rotate_left 1
                · intro W hSw
                  try dsimp only at hSw
                  go_simp
                  try with_reducible rfl
                try simp only [Act.put, List.setIfInBounds_toArray, List.set_cons_zero, List.set_cons_succ]
                refine wpAnyH_take (i := 15) (oi := ⟨_, _, _, _, _, _⟩) (v := ?_) rfl (by kernel_rfl) (by kernel_rfl) (by kernel_rfl) (fun _ _ _ h => h) (Or.inl ⟨by rfl, ?_⟩) (by assumption) ?_
                rotate_left 1
                · intro W hSw
                  try dsimp only at hSw
                  go_simp
                  try with_reducible rfl
                try simp only [Act.put, List.setIfInBounds_toArray, List.set_cons_zero, List.set_cons_succ]
                refine wpAnyH_take (i := 16) (oi := ⟨_, _, _, _, _, _⟩) (v := undef) rfl (by kernel_rfl) (by kernel_rfl) (by kernel_rfl) (fun _ _ _ h => h) (Or.inr ⟨by rfl, rfl⟩) (by assumption) ?_
                try simp only [Act.put, List.setIfInBounds_toArray, List.set_cons_zero, List.set_cons_succ]
                refine wpAnyH_take (i := 17) (oi := ⟨_, _, _, _, _, _⟩) (v := undef) rfl (by kernel_rfl) (by kernel_rfl) (by kernel_rfl) (fun _ _ _ h => h) (Or.inr ⟨by rfl, rfl⟩) (by assumption) ?_
                try simp only [Act.put, List.setIfInBounds_toArray, List.set_cons_zero, List.set_cons_succ]
                refine wpAnyH_take (i := 18) (oi := ⟨_, _, _, _, _, _⟩) (v := undef) rfl (by kernel_rfl) (by kernel_rfl) (by kernel_rfl) (fun _ _ _ h => h) (Or.inr ⟨by rfl, rfl⟩) (by assumption) ?_
                try simp only [Act.put, List.setIfInBounds_toArray, List.set_cons_zero, List.set_cons_succ]
                refine wpAnyH_take (i := 19) (oi := ⟨_, _, _, _, _, _⟩) (v := undef) rfl (by kernel_rfl) (by kernel_rfl) (by kernel_rfl) (fun _ _ _ h => h) (Or.inr ⟨by rfl, rfl⟩) (by assumption) ?_
                try simp only [Act.put, List.setIfInBounds_toArray, List.set_cons_zero, List.set_cons_succ]
                refine wpAnyH_take (i := 20) (oi := ⟨_, _, _, _, _, _⟩) (v := undef) rfl (by kernel_rfl) (by kernel_rfl) (by kernel_rfl) (fun _ _ _ h => h) (Or.inr ⟨by rfl, rfl⟩) (by assumption) ?_
                try simp only [Act.put, List.setIfInBounds_toArray, List.set_cons_zero, List.set_cons_succ]
                refine wpAnyH_take (i := 21) (oi := ⟨_, _, _, _, _, _⟩) (v := ?_) rfl (by kernel_rfl) (by kernel_rfl) (by kernel_rfl) (fun _ _ _ h => h) (Or.inl ⟨by rfl, ?_⟩) (by assumption) ?_
                rotate_left 1
                · intro W hSw
                  try dsimp only at hSw
                  go_simp
                  try with_reducible rfl
                try simp only [Act.put, List.setIfInBounds_toArray, List.set_cons_zero, List.set_cons_succ]
                refine wpAnyH_take (i := 22) (oi := ⟨_, _, _, _, _, _⟩) (v := ?_) rfl (by kernel_rfl) (by kernel_rfl) (by kernel_rfl) (fun _ _ _ h => h) (Or.inl ⟨by rfl, ?_⟩) (by assumption) ?_
                rotate_left 1
                · intro W hSw
                  try dsimp only at hSw
                  go_simp
                  try with_reducible rfl
                try simp only [Act.put, List.setIfInBounds_toArray, List.set_cons_zero, List.set_cons_succ]
                refine wpAnyH_done (by kernel_rfl) ?_ _
                go_wp2_with fail
                go_meet
                exact ⟨rfl, V10⟩
        case rest =>
          obtain ⟨rfl, hVc⟩ := hcut
          cases k with
          | true =>
            go_wp2_with (first
              | (go_at_call 26; (with_reducible show Calls _ _ #[.slice A b.length c] _ _); refine (of_any wc wc.heap.size A b c ((HS.out.later hVc.out).more (Nat.le_trans Hb0.out.size hVc.out.size)) HLb.out).mono ?_; unfold OfPost; rw [HK.out]; rintro e w20 ⟨t8, rfl, hp8, ht8, hb8⟩; have P8 := Lib.hid hp8; have T8 := Lib.hid ht8; have V20 : Hid (Below ((w.alloc (.cells (txC t).toArray 26)).alloc (.cells (txC u).toArray 26)).heap.size ((w.alloc (.cells (txC t).toArray 26)).alloc (.cells (txC u).toArray 26)) w20) := nxTr hVc.out hb8; clear hp8 ht8 hb8)
              | ((with_reducible show wpList _ _ _ (⟨none, .store 26 (.tmp 14) _, _, _, _, _⟩ :: _) _ _); (show wpList _ _ _ _ _ (w20.alloc (.cells txZ 26))); refine wpList_store_all rfl 26 (.tmp 14) (.tmp 103) rfl w20.heap.size 26 txZ (txC t8).toArray rfl rfl (heap_alloc_new w20 _) rfl (HZT0.out t8) (txC_one t8) ?_; intro w21 h5 h6 h7; have R21 := Lib.hid (blkR (vs := txC t8) h5); have L21 := Lib.hid h5.lt; have X21 : Hid (Below w20.heap.size w20 w21) := belowFresh h6; have V21 : Hid (Below ((w.alloc (.cells (txC t).toArray 26)).alloc (.cells (txC u).toArray 26)).heap.size ((w.alloc (.cells (txC t).toArray 26)).alloc (.cells (txC u).toArray 26)) w21) := nxTr V20.out X21.out; clear h5 h6 h7)
              | ((with_reducible show wpList _ _ _ (⟨some 109, _, _, _, _, _⟩ :: _) _ _); refine wpList_load_mid rfl 26 (.tmp 14) rfl w20.heap.size 0 rfl (txC t8) _ R21.out Tryd.underlying26 rfl (HZTl.out t8) ?_)
              | (go_at_call 9; (with_reducible show Calls _ _ #[.agg (txC t8).toArray] _ _); refine (bytes_yes w21 t8 (T8.out.later X21.out) (of_back HK.out P8.out).2).mono ?_; unfold BytesPost; rw [(of_back HK.out P8.out).1]; rintro e w22 ⟨⟨A22, c22, B22, rfl, hB0, ho⟩, hb⟩; have V22 : Hid (Below ((w.alloc (.cells (txC t).toArray 26)).alloc (.cells (txC u).toArray 26)).heap.size ((w.alloc (.cells (txC t).toArray 26)).alloc (.cells (txC u).toArray 26)) w22) := nxTr V21.out hb; have X22 : Hid (Below w21.heap.size w21 w22) := hb; have q1 := run_string_sees (P := Tryd.prog) (w := w22) (c := c22) (n := b.length) Tryd.underlying30 Tryd.underlying5 Tryd.underlying9 rfl (Sees.own ho); have q2 := run_string_sees (P := Tryd.prog) (w := w22) (c := c) (n := b.length) Tryd.underlying30 Tryd.underlying5 Tryd.underlying9 rfl (HS.out.later V22.out); clear hB0 ho hb)
              | ((with_reducible show wpList _ _ _ (⟨some 124, _, _, _, _, _⟩ :: _) _ _); refine wpList_load_want (by rfl) 26 (.tmp 14) rfl w20.heap.size 0 rfl (txC t8) _ (rngB R21.out X22.out L21.out) Tryd.underlying26 rfl (HZTl.out t8) ?_)
              | (go_at_call 13; refine (may_any w22 t8 (T8.out.later (nxTr X21.out X22.out))).mono ?_; rw [(of_back HK.out P8.out).2]; rintro e w23 ⟨rfl, hb⟩; have V23 : Hid (Below ((w.alloc (.cells (txC t).toArray 26)).alloc (.cells (txC u).toArray 26)).heap.size ((w.alloc (.cells (txC t).toArray 26)).alloc (.cells (txC u).toArray 26)) w23) := nxTr V22.out hb; clear hb)
              | (go_at_call 11; refine (num_any _ _).mono ?_; rintro e wn ⟨rfl, hwn⟩; obtain rfl := hwn.symm))
            go_ret
            exact ⟨rfl, nxTr Hb0.out V23.out⟩
          | false =>
            go_wp2_with (first
              | (go_at_call 26; (with_reducible show Calls _ _ #[.slice A b.length c] _ _); refine (of_any wc wc.heap.size A b c ((HS.out.later hVc.out).more (Nat.le_trans Hb0.out.size hVc.out.size)) HLb.out).mono ?_; unfold OfPost; rw [HK.out]; rintro e w20 ⟨t8, rfl, hp8, ht8, hb8⟩; have P8 := Lib.hid hp8; have T8 := Lib.hid ht8; have V20 : Hid (Below ((w.alloc (.cells (txC t).toArray 26)).alloc (.cells (txC u).toArray 26)).heap.size ((w.alloc (.cells (txC t).toArray 26)).alloc (.cells (txC u).toArray 26)) w20) := nxTr hVc.out hb8; clear hp8 ht8 hb8)
              | ((with_reducible show wpList _ _ _ (⟨none, .store 26 (.tmp 14) _, _, _, _, _⟩ :: _) _ _); (show wpList _ _ _ _ _ (w20.alloc (.cells txZ 26))); refine wpList_store_all rfl 26 (.tmp 14) (.tmp 103) rfl w20.heap.size 26 txZ (txC t8).toArray rfl rfl (heap_alloc_new w20 _) rfl (HZT0.out t8) (txC_one t8) ?_; intro w21 h5 h6 h7; have R21 := Lib.hid (blkR (vs := txC t8) h5); have L21 := Lib.hid h5.lt; have X21 : Hid (Below w20.heap.size w20 w21) := belowFresh h6; have V21 : Hid (Below ((w.alloc (.cells (txC t).toArray 26)).alloc (.cells (txC u).toArray 26)).heap.size ((w.alloc (.cells (txC t).toArray 26)).alloc (.cells (txC u).toArray 26)) w21) := nxTr V20.out X21.out; clear h5 h6 h7)
              | (go_at_call 11; refine (num_any _ _).mono ?_; rintro e wn ⟨rfl, hwn⟩; obtain rfl := hwn.symm))
            go_ret
            exact ⟨rfl, nxTr Hb0.out V21.out⟩
    · cases k
      case true =>
        go_enter Tryd.func5, Tryd.ntmps5
        go_wp2_with (first
          | (go_at_call 8; refine (known_any ((w.alloc (.cells (txC t).toArray 26)).alloc (.cells (txC u).toArray 26))).mono ?_; rintro e w1 ⟨rfl, hb1⟩; have V1 : Hid (Below ((w.alloc (.cells (txC t).toArray 26)).alloc (.cells (txC u).toArray 26)).heap.size ((w.alloc (.cells (txC t).toArray 26)).alloc (.cells (txC u).toArray 26)) w1) := hb1; clear hb1)
          | ((with_reducible show wpList _ _ _ (⟨some 20, _, _, _, _, _⟩ :: _) _ _); refine wpList_load_mid rfl 26 (.tmp 3) rfl w.heap.size 0 rfl (txC t) _ (rngB HR.out V1.out Hl0.out) Tryd.underlying26 rfl (HZTl.out t) ?_)
          | ((with_reducible show wpList _ _ _ (⟨some 21, _, _, _, _, _⟩ :: _) _ _); refine wpList_load_mid rfl 26 (.tmp 4) rfl (w.heap.size + 1) 0 rfl (txC u) _ (rngB HQ.out V1.out Hl1.out) Tryd.underlying26 rfl (HZTl.out u) ?_)
          | ((with_reducible show wpList _ _ _ (⟨some 22, _, _, _, _, _⟩ :: _) _ _); refine wpList_build_tx2 rfl (.tmp 20) (.tmp 21) rfl t u rfl rfl ?_)
          | (go_at_call 7; refine (much2_any (w1.alloc (.cells (txC t ++ txC u).toArray 26)) w1.heap.size t u (HT.out.later (nxAl V1.out _)) (HU.out.later (nxAl V1.out _)) (heap_alloc_new w1 _)).mono ?_; rintro e w2 ⟨mz, rfl, hb2⟩; have V2 : Hid (Below ((w.alloc (.cells (txC t).toArray 26)).alloc (.cells (txC u).toArray 26)).heap.size ((w.alloc (.cells (txC t).toArray 26)).alloc (.cells (txC u).toArray 26)) w2) := nxTr (nxAl V1.out _) hb2; clear hb2; cases mz)
          | ((with_reducible show wpList _ _ _ (⟨some 30, _, _, _, _, _⟩ :: _) _ _); refine wpList_load_mid rfl 26 (.tmp 3) rfl w.heap.size 0 rfl (txC t) _ (rngB HR.out V2.out Hl0.out) Tryd.underlying26 rfl (HZTl.out t) ?_)
          | (go_at_call 9; (with_reducible show Calls _ _ #[.agg (txC t).toArray] _ _); refine (bytes_yes w2 t (HT.out.later V2.out) HCz.out).mono ?_; unfold BytesPost; rw [HF.out]; rintro e w3 ⟨⟨A3, c3, B3, rfl, hB0, ho⟩, hb⟩; have V3 : Hid (Below ((w.alloc (.cells (txC t).toArray 26)).alloc (.cells (txC u).toArray 26)).heap.size ((w.alloc (.cells (txC t).toArray 26)).alloc (.cells (txC u).toArray 26)) w3) := nxTr V2.out hb; have S3 := Lib.hid (Sees.own ho); have C3 := Lib.hid (own_cm ho); clear hB0 ho hb)
          | ((with_reducible show wpList _ _ _ (⟨some 35, _, _, _, _, _⟩ :: _) _ _); refine wpList_load_mid rfl 26 (.tmp 4) rfl (w.heap.size + 1) 0 rfl (txC u) _ (rngB HQ.out V3.out Hl1.out) Tryd.underlying26 rfl (HZTl.out u) ?_)
          | (go_at_call 9; (with_reducible show Calls _ _ #[.agg (txC u).toArray] _ _); refine (bytes_no w3 u (HU.out.later V3.out) (by rw [HCy.out]; decide)).mono ?_; rw [HCy.out]; rintro e w4 ⟨rfl, hb⟩; have V4 : Hid (Below ((w.alloc (.cells (txC t).toArray 26)).alloc (.cells (txC u).toArray 26)).heap.size ((w.alloc (.cells (txC t).toArray 26)).alloc (.cells (txC u).toArray 26)) w4) := nxTr V3.out hb; have V34 : Hid (Below w3.heap.size w3 w4) := hb; clear hb)
          | (go_at_call 11; refine (num_any _ _).mono ?_; rintro e wn ⟨rfl, hwn⟩; obtain rfl := hwn.symm)
          | (go_at_call 26; (with_reducible show Calls _ _ #[.slice A3 F.length c3] _ _); refine (of_any w4 w4.heap.size A3 F c3 ((S3.out.later V34.out).more V34.out.size) HLF.out).mono ?_; unfold OfPost; rw [HFB.out]; rintro e w5 ⟨t5, rfl, hp5, ht5, hb5⟩; have P5 := Lib.hid hp5; have T5 := Lib.hid ht5; have V5 : Hid (Below ((w.alloc (.cells (txC t).toArray 26)).alloc (.cells (txC u).toArray 26)).heap.size ((w.alloc (.cells (txC t).toArray 26)).alloc (.cells (txC u).toArray 26)) w5) := nxTr V4.out hb5; have X5 : Hid (Below w4.heap.size w4 w5) := hb5; clear hp5 ht5 hb5)
          | ((with_reducible show wpList _ _ _ (⟨none, .store 26 (.tmp 11) _, _, _, _, _⟩ :: _) _ _); (show wpList _ _ _ _ _ (w5.alloc (.cells txZ 26))); refine wpList_store_all rfl 26 (.tmp 11) (.tmp 45) rfl w5.heap.size 26 txZ (txC t5).toArray rfl rfl (heap_alloc_new w5 _) rfl (HZT0.out t5) (txC_one t5) ?_; intro w6 h5 h6 h7; have R6 := Lib.hid (blkR (vs := txC t5) h5); have X6 : Hid (Below w5.heap.size w5 w6) := belowFresh h6; have V6 : Hid (Below ((w.alloc (.cells (txC t).toArray 26)).alloc (.cells (txC u).toArray 26)).heap.size ((w.alloc (.cells (txC t).toArray 26)).alloc (.cells (txC u).toArray 26)) w6) := nxTr V5.out X6.out; clear h5 h6 h7)
          | ((with_reducible show wpList _ _ _ (⟨some 51, _, _, _, _, _⟩ :: _) _ _); refine wpList_load_want (by rfl) 26 (.tmp 11) rfl w5.heap.size 0 rfl (txC t5) _ R6.out Tryd.underlying26 rfl (HZTl.out t5) ?_)
          | ((with_reducible show wpList _ _ _ (⟨some 52, _, _, _, _, _⟩ :: _) _ _); refine wpList_load_want (by rfl) 26 (.tmp 3) rfl w.heap.size 0 rfl (txC t) _ (rngB HR.out V6.out Hl0.out) Tryd.underlying26 rfl (HZTl.out t) ?_)
          | (go_at_call 18; (with_reducible show Calls _ _ #[.agg (txC t5).toArray, .agg (txC t).toArray] _ _); refine (rsame_any w6 t5 t (T5.out.later X6.out) (HT.out.later V6.out)).mono ?_; unfold SamePost; rintro e w7 ⟨zs, rfl, hzs, hb7⟩; obtain rfl : zs = true := hzs.2 (P5.out.trans HFV.out); have V7 : Hid (Below ((w.alloc (.cells (txC t).toArray 26)).alloc (.cells (txC u).toArray 26)).heap.size ((w.alloc (.cells (txC t).toArray 26)).alloc (.cells (txC u).toArray 26)) w7) := nxTr V6.out hb7; have X7 : Hid (Below w4.heap.size w4 w7) := nxTr (nxTr X5.out X6.out) hb7; clear hzs hb7)
          | (go_at_call 26; (with_reducible show Calls _ _ #[.slice A b.length c] _ _); refine (of_any w7 w7.heap.size A b c ((HS.out.later V7.out).more (Nat.le_trans Hb0.out.size V7.out.size)) HLb.out).mono ?_; unfold OfPost; rw [HK.out]; rintro e w20 ⟨t8, rfl, hp8, ht8, hb8⟩; have P8 := Lib.hid hp8; have T8 := Lib.hid ht8; have V20 : Hid (Below ((w.alloc (.cells (txC t).toArray 26)).alloc (.cells (txC u).toArray 26)).heap.size ((w.alloc (.cells (txC t).toArray 26)).alloc (.cells (txC u).toArray 26)) w20) := nxTr V7.out hb8; clear hp8 ht8 hb8)
          | ((with_reducible show wpList _ _ _ (⟨none, .store 26 (.tmp 14) _, _, _, _, _⟩ :: _) _ _); (show wpList _ _ _ _ _ (w20.alloc (.cells txZ 26))); refine wpList_store_all rfl 26 (.tmp 14) (.tmp 103) rfl w20.heap.size 26 txZ (txC t8).toArray rfl rfl (heap_alloc_new w20 _) rfl (HZT0.out t8) (txC_one t8) ?_; intro w21 h5 h6 h7; have R21 := Lib.hid (blkR (vs := txC t8) h5); have L21 := Lib.hid h5.lt; have X21 : Hid (Below w20.heap.size w20 w21) := belowFresh h6; have V21 : Hid (Below ((w.alloc (.cells (txC t).toArray 26)).alloc (.cells (txC u).toArray 26)).heap.size ((w.alloc (.cells (txC t).toArray 26)).alloc (.cells (txC u).toArray 26)) w21) := nxTr V20.out X21.out; clear h5 h6 h7)
          | ((with_reducible show wpList _ _ _ (⟨some 109, _, _, _, _, _⟩ :: _) _ _); refine wpList_load_mid rfl 26 (.tmp 14) rfl w20.heap.size 0 rfl (txC t8) _ R21.out Tryd.underlying26 rfl (HZTl.out t8) ?_)
          | (go_at_call 9; (with_reducible show Calls _ _ #[.agg (txC t8).toArray] _ _); refine (bytes_yes w21 t8 (T8.out.later X21.out) (of_back HK.out P8.out).2).mono ?_; unfold BytesPost; rw [(of_back HK.out P8.out).1]; rintro e w22 ⟨⟨A22, c22, B22, rfl, hB0, ho⟩, hb⟩; have V22 : Hid (Below ((w.alloc (.cells (txC t).toArray 26)).alloc (.cells (txC u).toArray 26)).heap.size ((w.alloc (.cells (txC t).toArray 26)).alloc (.cells (txC u).toArray 26)) w22) := nxTr V21.out hb; have X22 : Hid (Below w21.heap.size w21 w22) := hb; have q1 := run_string_sees (P := Tryd.prog) (w := w22) (c := c22) (n := b.length) Tryd.underlying30 Tryd.underlying5 Tryd.underlying9 rfl (Sees.own ho); have q2 := run_string_sees (P := Tryd.prog) (w := w22) (c := c) (n := b.length) Tryd.underlying30 Tryd.underlying5 Tryd.underlying9 rfl (HS.out.later V22.out); clear hB0 ho hb)
          | ((with_reducible show wpList _ _ _ (⟨some 124, _, _, _, _, _⟩ :: _) _ _); refine wpList_load_want (by rfl) 26 (.tmp 14) rfl w20.heap.size 0 rfl (txC t8) _ (rngB R21.out X22.out L21.out) Tryd.underlying26 rfl (HZTl.out t8) ?_)
          | (go_at_call 13; refine (may_any w22 t8 (T8.out.later (nxTr X21.out X22.out))).mono ?_; rw [(of_back HK.out P8.out).2]; rintro e w23 ⟨rfl, hb⟩; have V23 : Hid (Below ((w.alloc (.cells (txC t).toArray 26)).alloc (.cells (txC u).toArray 26)).heap.size ((w.alloc (.cells (txC t).toArray 26)).alloc (.cells (txC u).toArray 26)) w23) := nxTr V22.out hb; clear hb))
        all_goals (first | go_ret | go_show)
        · exact ⟨rfl, nxTr Hb0.out V23.out⟩
        · exact ⟨rfl, nxTr Hb0.out V2.out⟩
      case false =>
        go_enter Tryd.func5, Tryd.ntmps5
        go_wp2_with (first
          | (go_at_call 8; refine (known_any ((w.alloc (.cells (txC t).toArray 26)).alloc (.cells (txC u).toArray 26))).mono ?_; rintro e w1 ⟨rfl, hb1⟩; have V1 : Hid (Below ((w.alloc (.cells (txC t).toArray 26)).alloc (.cells (txC u).toArray 26)).heap.size ((w.alloc (.cells (txC t).toArray 26)).alloc (.cells (txC u).toArray 26)) w1) := hb1; clear hb1)
          | ((with_reducible show wpList _ _ _ (⟨some 20, _, _, _, _, _⟩ :: _) _ _); refine wpList_load_mid rfl 26 (.tmp 3) rfl w.heap.size 0 rfl (txC t) _ (rngB HR.out V1.out Hl0.out) Tryd.underlying26 rfl (HZTl.out t) ?_)
          | ((with_reducible show wpList _ _ _ (⟨some 21, _, _, _, _, _⟩ :: _) _ _); refine wpList_load_mid rfl 26 (.tmp 4) rfl (w.heap.size + 1) 0 rfl (txC u) _ (rngB HQ.out V1.out Hl1.out) Tryd.underlying26 rfl (HZTl.out u) ?_)
          | ((with_reducible show wpList _ _ _ (⟨some 22, _, _, _, _, _⟩ :: _) _ _); refine wpList_build_tx2 rfl (.tmp 20) (.tmp 21) rfl t u rfl rfl ?_)
          | (go_at_call 7; refine (much2_any (w1.alloc (.cells (txC t ++ txC u).toArray 26)) w1.heap.size t u (HT.out.later (nxAl V1.out _)) (HU.out.later (nxAl V1.out _)) (heap_alloc_new w1 _)).mono ?_; rintro e w2 ⟨mz, rfl, hb2⟩; have V2 : Hid (Below ((w.alloc (.cells (txC t).toArray 26)).alloc (.cells (txC u).toArray 26)).heap.size ((w.alloc (.cells (txC t).toArray 26)).alloc (.cells (txC u).toArray 26)) w2) := nxTr (nxAl V1.out _) hb2; clear hb2; cases mz)
          | ((with_reducible show wpList _ _ _ (⟨some 30, _, _, _, _, _⟩ :: _) _ _); refine wpList_load_mid rfl 26 (.tmp 3) rfl w.heap.size 0 rfl (txC t) _ (rngB HR.out V2.out Hl0.out) Tryd.underlying26 rfl (HZTl.out t) ?_)
          | (go_at_call 9; (with_reducible show Calls _ _ #[.agg (txC t).toArray] _ _); refine (bytes_yes w2 t (HT.out.later V2.out) HCz.out).mono ?_; unfold BytesPost; rw [HF.out]; rintro e w3 ⟨⟨A3, c3, B3, rfl, hB0, ho⟩, hb⟩; have V3 : Hid (Below ((w.alloc (.cells (txC t).toArray 26)).alloc (.cells (txC u).toArray 26)).heap.size ((w.alloc (.cells (txC t).toArray 26)).alloc (.cells (txC u).toArray 26)) w3) := nxTr V2.out hb; have S3 := Lib.hid (Sees.own ho); have C3 := Lib.hid (own_cm ho); clear hB0 ho hb)
          | ((with_reducible show wpList _ _ _ (⟨some 35, _, _, _, _, _⟩ :: _) _ _); refine wpList_load_mid rfl 26 (.tmp 4) rfl (w.heap.size + 1) 0 rfl (txC u) _ (rngB HQ.out V3.out Hl1.out) Tryd.underlying26 rfl (HZTl.out u) ?_)
          | (go_at_call 9; (with_reducible show Calls _ _ #[.agg (txC u).toArray] _ _); refine (bytes_no w3 u (HU.out.later V3.out) (by rw [HCy.out]; decide)).mono ?_; rw [HCy.out]; rintro e w4 ⟨rfl, hb⟩; have V4 : Hid (Below ((w.alloc (.cells (txC t).toArray 26)).alloc (.cells (txC u).toArray 26)).heap.size ((w.alloc (.cells (txC t).toArray 26)).alloc (.cells (txC u).toArray 26)) w4) := nxTr V3.out hb; have V34 : Hid (Below w3.heap.size w3 w4) := hb; clear hb)
          | (go_at_call 11; refine (num_any _ _).mono ?_; rintro e wn ⟨rfl, hwn⟩; obtain rfl := hwn.symm)
          | (go_at_call 26; (with_reducible show Calls _ _ #[.slice A3 F.length c3] _ _); refine (of_any w4 w4.heap.size A3 F c3 ((S3.out.later V34.out).more V34.out.size) HLF.out).mono ?_; unfold OfPost; rw [HFB.out]; rintro e w5 ⟨t5, rfl, hp5, ht5, hb5⟩; have P5 := Lib.hid hp5; have T5 := Lib.hid ht5; have V5 : Hid (Below ((w.alloc (.cells (txC t).toArray 26)).alloc (.cells (txC u).toArray 26)).heap.size ((w.alloc (.cells (txC t).toArray 26)).alloc (.cells (txC u).toArray 26)) w5) := nxTr V4.out hb5; have X5 : Hid (Below w4.heap.size w4 w5) := hb5; clear hp5 ht5 hb5)
          | ((with_reducible show wpList _ _ _ (⟨none, .store 26 (.tmp 11) _, _, _, _, _⟩ :: _) _ _); (show wpList _ _ _ _ _ (w5.alloc (.cells txZ 26))); refine wpList_store_all rfl 26 (.tmp 11) (.tmp 45) rfl w5.heap.size 26 txZ (txC t5).toArray rfl rfl (heap_alloc_new w5 _) rfl (HZT0.out t5) (txC_one t5) ?_; intro w6 h5 h6 h7; have R6 := Lib.hid (blkR (vs := txC t5) h5); have X6 : Hid (Below w5.heap.size w5 w6) := belowFresh h6; have V6 : Hid (Below ((w.alloc (.cells (txC t).toArray 26)).alloc (.cells (txC u).toArray 26)).heap.size ((w.alloc (.cells (txC t).toArray 26)).alloc (.cells (txC u).toArray 26)) w6) := nxTr V5.out X6.out; clear h5 h6 h7)
          | ((with_reducible show wpList _ _ _ (⟨some 51, _, _, _, _, _⟩ :: _) _ _); refine wpList_load_want (by rfl) 26 (.tmp 11) rfl w5.heap.size 0 rfl (txC t5) _ R6.out Tryd.underlying26 rfl (HZTl.out t5) ?_)
          | ((with_reducible show wpList _ _ _ (⟨some 52, _, _, _, _, _⟩ :: _) _ _); refine wpList_load_want (by rfl) 26 (.tmp 3) rfl w.heap.size 0 rfl (txC t) _ (rngB HR.out V6.out Hl0.out) Tryd.underlying26 rfl (HZTl.out t) ?_)
          | (go_at_call 18; (with_reducible show Calls _ _ #[.agg (txC t5).toArray, .agg (txC t).toArray] _ _); refine (rsame_any w6 t5 t (T5.out.later X6.out) (HT.out.later V6.out)).mono ?_; unfold SamePost; rintro e w7 ⟨zs, rfl, hzs, hb7⟩; obtain rfl : zs = true := hzs.2 (P5.out.trans HFV.out); have V7 : Hid (Below ((w.alloc (.cells (txC t).toArray 26)).alloc (.cells (txC u).toArray 26)).heap.size ((w.alloc (.cells (txC t).toArray 26)).alloc (.cells (txC u).toArray 26)) w7) := nxTr V6.out hb7; have X7 : Hid (Below w4.heap.size w4 w7) := nxTr (nxTr X5.out X6.out) hb7; clear hzs hb7)
          | (go_at_call 26; (with_reducible show Calls _ _ #[.slice A b.length c] _ _); refine (of_any w7 w7.heap.size A b c ((HS.out.later V7.out).more (Nat.le_trans Hb0.out.size V7.out.size)) HLb.out).mono ?_; unfold OfPost; rw [HK.out]; rintro e w20 ⟨t8, rfl, hp8, ht8, hb8⟩; have P8 := Lib.hid hp8; have T8 := Lib.hid ht8; have V20 : Hid (Below ((w.alloc (.cells (txC t).toArray 26)).alloc (.cells (txC u).toArray 26)).heap.size ((w.alloc (.cells (txC t).toArray 26)).alloc (.cells (txC u).toArray 26)) w20) := nxTr V7.out hb8; clear hp8 ht8 hb8)
          | ((with_reducible show wpList _ _ _ (⟨none, .store 26 (.tmp 14) _, _, _, _, _⟩ :: _) _ _); (show wpList _ _ _ _ _ (w20.alloc (.cells txZ 26))); refine wpList_store_all rfl 26 (.tmp 14) (.tmp 103) rfl w20.heap.size 26 txZ (txC t8).toArray rfl rfl (heap_alloc_new w20 _) rfl (HZT0.out t8) (txC_one t8) ?_; intro w21 h5 h6 h7; have R21 := Lib.hid (blkR (vs := txC t8) h5); have L21 := Lib.hid h5.lt; have X21 : Hid (Below w20.heap.size w20 w21) := belowFresh h6; have V21 : Hid (Below ((w.alloc (.cells (txC t).toArray 26)).alloc (.cells (txC u).toArray 26)).heap.size ((w.alloc (.cells (txC t).toArray 26)).alloc (.cells (txC u).toArray 26)) w21) := nxTr V20.out X21.out; clear h5 h6 h7))
        all_goals (first | go_ret | go_show)
        · exact ⟨rfl, nxTr Hb0.out V21.out⟩
        · exact ⟨rfl, nxTr Hb0.out V2.out⟩
    · cases k
      case true =>
        go_enter Tryd.func5, Tryd.ntmps5
        go_wp2_with (first
          | (go_at_call 8; refine (known_any ((w.alloc (.cells (txC t).toArray 26)).alloc (.cells (txC u).toArray 26))).mono ?_; rintro e w1 ⟨rfl, hb1⟩; have V1 : Hid (Below ((w.alloc (.cells (txC t).toArray 26)).alloc (.cells (txC u).toArray 26)).heap.size ((w.alloc (.cells (txC t).toArray 26)).alloc (.cells (txC u).toArray 26)) w1) := hb1; clear hb1)
          | ((with_reducible show wpList _ _ _ (⟨some 20, _, _, _, _, _⟩ :: _) _ _); refine wpList_load_mid rfl 26 (.tmp 3) rfl w.heap.size 0 rfl (txC t) _ (rngB HR.out V1.out Hl0.out) Tryd.underlying26 rfl (HZTl.out t) ?_)
          | ((with_reducible show wpList _ _ _ (⟨some 21, _, _, _, _, _⟩ :: _) _ _); refine wpList_load_mid rfl 26 (.tmp 4) rfl (w.heap.size + 1) 0 rfl (txC u) _ (rngB HQ.out V1.out Hl1.out) Tryd.underlying26 rfl (HZTl.out u) ?_)
          | ((with_reducible show wpList _ _ _ (⟨some 22, _, _, _, _, _⟩ :: _) _ _); refine wpList_build_tx2 rfl (.tmp 20) (.tmp 21) rfl t u rfl rfl ?_)
          | (go_at_call 7; refine (much2_any (w1.alloc (.cells (txC t ++ txC u).toArray 26)) w1.heap.size t u (HT.out.later (nxAl V1.out _)) (HU.out.later (nxAl V1.out _)) (heap_alloc_new w1 _)).mono ?_; rintro e w2 ⟨mz, rfl, hb2⟩; have V2 : Hid (Below ((w.alloc (.cells (txC t).toArray 26)).alloc (.cells (txC u).toArray 26)).heap.size ((w.alloc (.cells (txC t).toArray 26)).alloc (.cells (txC u).toArray 26)) w2) := nxTr (nxAl V1.out _) hb2; clear hb2; cases mz)
          | ((with_reducible show wpList _ _ _ (⟨some 30, _, _, _, _, _⟩ :: _) _ _); refine wpList_load_mid rfl 26 (.tmp 3) rfl w.heap.size 0 rfl (txC t) _ (rngB HR.out V2.out Hl0.out) Tryd.underlying26 rfl (HZTl.out t) ?_)
          | (go_at_call 9; (with_reducible show Calls _ _ #[.agg (txC t).toArray] _ _); refine (bytes_yes w2 t (HT.out.later V2.out) HCz.out).mono ?_; unfold BytesPost; rw [HF.out]; rintro e w3 ⟨⟨A3, c3, B3, rfl, hB0, ho⟩, hb⟩; have V3 : Hid (Below ((w.alloc (.cells (txC t).toArray 26)).alloc (.cells (txC u).toArray 26)).heap.size ((w.alloc (.cells (txC t).toArray 26)).alloc (.cells (txC u).toArray 26)) w3) := nxTr V2.out hb; have S3 := Lib.hid (Sees.own ho); have C3 := Lib.hid (own_cm ho); clear hB0 ho hb)
          | ((with_reducible show wpList _ _ _ (⟨some 35, _, _, _, _, _⟩ :: _) _ _); refine wpList_load_mid rfl 26 (.tmp 4) rfl (w.heap.size + 1) 0 rfl (txC u) _ (rngB HQ.out V3.out Hl1.out) Tryd.underlying26 rfl (HZTl.out u) ?_)
          | (go_at_call 9; (with_reducible show Calls _ _ #[.agg (txC u).toArray] _ _); refine (bytes_no w3 u (HU.out.later V3.out) (by rw [HCy.out]; decide)).mono ?_; rw [HCy.out]; rintro e w4 ⟨rfl, hb⟩; have V4 : Hid (Below ((w.alloc (.cells (txC t).toArray 26)).alloc (.cells (txC u).toArray 26)).heap.size ((w.alloc (.cells (txC t).toArray 26)).alloc (.cells (txC u).toArray 26)) w4) := nxTr V3.out hb; have V34 : Hid (Below w3.heap.size w3 w4) := hb; clear hb)
          | (go_at_call 11; refine (num_any _ _).mono ?_; rintro e wn ⟨rfl, hwn⟩; obtain rfl := hwn.symm)
          | (go_at_call 26; (with_reducible show Calls _ _ #[.slice A3 F.length c3] _ _); refine (of_any w4 w4.heap.size A3 F c3 ((S3.out.later V34.out).more V34.out.size) HLF.out).mono ?_; unfold OfPost; rw [HFB.out]; rintro e w5 ⟨t5, rfl, hp5, ht5, hb5⟩; have P5 := Lib.hid hp5; have T5 := Lib.hid ht5; have V5 : Hid (Below ((w.alloc (.cells (txC t).toArray 26)).alloc (.cells (txC u).toArray 26)).heap.size ((w.alloc (.cells (txC t).toArray 26)).alloc (.cells (txC u).toArray 26)) w5) := nxTr V4.out hb5; have X5 : Hid (Below w4.heap.size w4 w5) := hb5; clear hp5 ht5 hb5)
          | ((with_reducible show wpList _ _ _ (⟨none, .store 26 (.tmp 11) _, _, _, _, _⟩ :: _) _ _); (show wpList _ _ _ _ _ (w5.alloc (.cells txZ 26))); refine wpList_store_all rfl 26 (.tmp 11) (.tmp 45) rfl w5.heap.size 26 txZ (txC t5).toArray rfl rfl (heap_alloc_new w5 _) rfl (HZT0.out t5) (txC_one t5) ?_; intro w6 h5 h6 h7; have R6 := Lib.hid (blkR (vs := txC t5) h5); have X6 : Hid (Below w5.heap.size w5 w6) := belowFresh h6; have V6 : Hid (Below ((w.alloc (.cells (txC t).toArray 26)).alloc (.cells (txC u).toArray 26)).heap.size ((w.alloc (.cells (txC t).toArray 26)).alloc (.cells (txC u).toArray 26)) w6) := nxTr V5.out X6.out; clear h5 h6 h7)
          | ((with_reducible show wpList _ _ _ (⟨some 51, _, _, _, _, _⟩ :: _) _ _); refine wpList_load_want (by rfl) 26 (.tmp 11) rfl w5.heap.size 0 rfl (txC t5) _ R6.out Tryd.underlying26 rfl (HZTl.out t5) ?_)
          | ((with_reducible show wpList _ _ _ (⟨some 52, _, _, _, _, _⟩ :: _) _ _); refine wpList_load_want (by rfl) 26 (.tmp 3) rfl w.heap.size 0 rfl (txC t) _ (rngB HR.out V6.out Hl0.out) Tryd.underlying26 rfl (HZTl.out t) ?_)
          | (go_at_call 18; (with_reducible show Calls _ _ #[.agg (txC t5).toArray, .agg (txC t).toArray] _ _); refine (rsame_any w6 t5 t (T5.out.later X6.out) (HT.out.later V6.out)).mono ?_; unfold SamePost; rintro e w7 ⟨zs, rfl, hzs, hb7⟩; obtain rfl : zs = true := hzs.2 (P5.out.trans HFV.out); have V7 : Hid (Below ((w.alloc (.cells (txC t).toArray 26)).alloc (.cells (txC u).toArray 26)).heap.size ((w.alloc (.cells (txC t).toArray 26)).alloc (.cells (txC u).toArray 26)) w7) := nxTr V6.out hb7; have X7 : Hid (Below w4.heap.size w4 w7) := nxTr (nxTr X5.out X6.out) hb7; clear hzs hb7)
          | (go_at_call 26; (with_reducible show Calls _ _ #[.slice A b.length c] _ _); refine (of_any w7 w7.heap.size A b c ((HS.out.later V7.out).more (Nat.le_trans Hb0.out.size V7.out.size)) HLb.out).mono ?_; unfold OfPost; rw [HK.out]; rintro e w20 ⟨t8, rfl, hp8, ht8, hb8⟩; have P8 := Lib.hid hp8; have T8 := Lib.hid ht8; have V20 : Hid (Below ((w.alloc (.cells (txC t).toArray 26)).alloc (.cells (txC u).toArray 26)).heap.size ((w.alloc (.cells (txC t).toArray 26)).alloc (.cells (txC u).toArray 26)) w20) := nxTr V7.out hb8; clear hp8 ht8 hb8)
          | ((with_reducible show wpList _ _ _ (⟨none, .store 26 (.tmp 14) _, _, _, _, _⟩ :: _) _ _); (show wpList _ _ _ _ _ (w20.alloc (.cells txZ 26))); refine wpList_store_all rfl 26 (.tmp 14) (.tmp 103) rfl w20.heap.size 26 txZ (txC t8).toArray rfl rfl (heap_alloc_new w20 _) rfl (HZT0.out t8) (txC_one t8) ?_; intro w21 h5 h6 h7; have R21 := Lib.hid (blkR (vs := txC t8) h5); have L21 := Lib.hid h5.lt; have X21 : Hid (Below w20.heap.size w20 w21) := belowFresh h6; have V21 : Hid (Below ((w.alloc (.cells (txC t).toArray 26)).alloc (.cells (txC u).toArray 26)).heap.size ((w.alloc (.cells (txC t).toArray 26)).alloc (.cells (txC u).toArray 26)) w21) := nxTr V20.out X21.out; clear h5 h6 h7)
          | ((with_reducible show wpList _ _ _ (⟨some 109, _, _, _, _, _⟩ :: _) _ _); refine wpList_load_mid rfl 26 (.tmp 14) rfl w20.heap.size 0 rfl (txC t8) _ R21.out Tryd.underlying26 rfl (HZTl.out t8) ?_)
          | (go_at_call 9; (with_reducible show Calls _ _ #[.agg (txC t8).toArray] _ _); refine (bytes_yes w21 t8 (T8.out.later X21.out) (of_back HK.out P8.out).2).mono ?_; unfold BytesPost; rw [(of_back HK.out P8.out).1]; rintro e w22 ⟨⟨A22, c22, B22, rfl, hB0, ho⟩, hb⟩; have V22 : Hid (Below ((w.alloc (.cells (txC t).toArray 26)).alloc (.cells (txC u).toArray 26)).heap.size ((w.alloc (.cells (txC t).toArray 26)).alloc (.cells (txC u).toArray 26)) w22) := nxTr V21.out hb; have X22 : Hid (Below w21.heap.size w21 w22) := hb; have q1 := run_string_sees (P := Tryd.prog) (w := w22) (c := c22) (n := b.length) Tryd.underlying30 Tryd.underlying5 Tryd.underlying9 rfl (Sees.own ho); have q2 := run_string_sees (P := Tryd.prog) (w := w22) (c := c) (n := b.length) Tryd.underlying30 Tryd.underlying5 Tryd.underlying9 rfl (HS.out.later V22.out); clear hB0 ho hb)
          | ((with_reducible show wpList _ _ _ (⟨some 124, _, _, _, _, _⟩ :: _) _ _); refine wpList_load_want (by rfl) 26 (.tmp 14) rfl w20.heap.size 0 rfl (txC t8) _ (rngB R21.out X22.out L21.out) Tryd.underlying26 rfl (HZTl.out t8) ?_)
          | (go_at_call 13; refine (may_any w22 t8 (T8.out.later (nxTr X21.out X22.out))).mono ?_; rw [(of_back HK.out P8.out).2]; rintro e w23 ⟨rfl, hb⟩; have V23 : Hid (Below ((w.alloc (.cells (txC t).toArray 26)).alloc (.cells (txC u).toArray 26)).heap.size ((w.alloc (.cells (txC t).toArray 26)).alloc (.cells (txC u).toArray 26)) w23) := nxTr V22.out hb; clear hb))
        all_goals (first | go_ret | go_show)
        · exact ⟨rfl, nxTr Hb0.out V23.out⟩
        · exact ⟨rfl, nxTr Hb0.out V2.out⟩
      case false =>
        go_enter Tryd.func5, Tryd.ntmps5
        go_wp2_with (first
          | (go_at_call 8; refine (known_any ((w.alloc (.cells (txC t).toArray 26)).alloc (.cells (txC u).toArray 26))).mono ?_; rintro e w1 ⟨rfl, hb1⟩; have V1 : Hid (Below ((w.alloc (.cells (txC t).toArray 26)).alloc (.cells (txC u).toArray 26)).heap.size ((w.alloc (.cells (txC t).toArray 26)).alloc (.cells (txC u).toArray 26)) w1) := hb1; clear hb1)
          | ((with_reducible show wpList _ _ _ (⟨some 20, _, _, _, _, _⟩ :: _) _ _); refine wpList_load_mid rfl 26 (.tmp 3) rfl w.heap.size 0 rfl (txC t) _ (rngB HR.out V1.out Hl0.out) Tryd.underlying26 rfl (HZTl.out t) ?_)
          | ((with_reducible show wpList _ _ _ (⟨some 21, _, _, _, _, _⟩ :: _) _ _); refine wpList_load_mid rfl 26 (.tmp 4) rfl (w.heap.size + 1) 0 rfl (txC u) _ (rngB HQ.out V1.out Hl1.out) Tryd.underlying26 rfl (HZTl.out u) ?_)
          | ((with_reducible show wpList _ _ _ (⟨some 22, _, _, _, _, _⟩ :: _) _ _); refine wpList_build_tx2 rfl (.tmp 20) (.tmp 21) rfl t u rfl rfl ?_)
          | (go_at_call 7; refine (much2_any (w1.alloc (.cells (txC t ++ txC u).toArray 26)) w1.heap.size t u (HT.out.later (nxAl V1.out _)) (HU.out.later (nxAl V1.out _)) (heap_alloc_new w1 _)).mono ?_; rintro e w2 ⟨mz, rfl, hb2⟩; have V2 : Hid (Below ((w.alloc (.cells (txC t).toArray 26)).alloc (.cells (txC u).toArray 26)).heap.size ((w.alloc (.cells (txC t).toArray 26)).alloc (.cells (txC u).toArray 26)) w2) := nxTr (nxAl V1.out _) hb2; clear hb2; cases mz)
          | ((with_reducible show wpList _ _ _ (⟨some 30, _, _, _, _, _⟩ :: _) _ _); refine wpList_load_mid rfl 26 (.tmp 3) rfl w.heap.size 0 rfl (txC t) _ (rngB HR.out V2.out Hl0.out) Tryd.underlying26 rfl (HZTl.out t) ?_)
          | (go_at_call 9; (with_reducible show Calls _ _ #[.agg (txC t).toArray] _ _); refine (bytes_yes w2 t (HT.out.later V2.out) HCz.out).mono ?_; unfold BytesPost; rw [HF.out]; rintro e w3 ⟨⟨A3, c3, B3, rfl, hB0, ho⟩, hb⟩; have V3 : Hid (Below ((w.alloc (.cells (txC t).toArray 26)).alloc (.cells (txC u).toArray 26)).heap.size ((w.alloc (.cells (txC t).toArray 26)).alloc (.cells (txC u).toArray 26)) w3) := nxTr V2.out hb; have S3 := Lib.hid (Sees.own ho); have C3 := Lib.hid (own_cm ho); clear hB0 ho hb)
          | ((with_reducible show wpList _ _ _ (⟨some 35, _, _, _, _, _⟩ :: _) _ _); refine wpList_load_mid rfl 26 (.tmp 4) rfl (w.heap.size + 1) 0 rfl (txC u) _ (rngB HQ.out V3.out Hl1.out) Tryd.underlying26 rfl (HZTl.out u) ?_)
          | (go_at_call 9; (with_reducible show Calls _ _ #[.agg (txC u).toArray] _ _); refine (bytes_no w3 u (HU.out.later V3.out) (by rw [HCy.out]; decide)).mono ?_; rw [HCy.out]; rintro e w4 ⟨rfl, hb⟩; have V4 : Hid (Below ((w.alloc (.cells (txC t).toArray 26)).alloc (.cells (txC u).toArray 26)).heap.size ((w.alloc (.cells (txC t).toArray 26)).alloc (.cells (txC u).toArray 26)) w4) := nxTr V3.out hb; have V34 : Hid (Below w3.heap.size w3 w4) := hb; clear hb)
          | (go_at_call 11; refine (num_any _ _).mono ?_; rintro e wn ⟨rfl, hwn⟩; obtain rfl := hwn.symm)
          | (go_at_call 26; (with_reducible show Calls _ _ #[.slice A3 F.length c3] _ _); refine (of_any w4 w4.heap.size A3 F c3 ((S3.out.later V34.out).more V34.out.size) HLF.out).mono ?_; unfold OfPost; rw [HFB.out]; rintro e w5 ⟨t5, rfl, hp5, ht5, hb5⟩; have P5 := Lib.hid hp5; have T5 := Lib.hid ht5; have V5 : Hid (Below ((w.alloc (.cells (txC t).toArray 26)).alloc (.cells (txC u).toArray 26)).heap.size ((w.alloc (.cells (txC t).toArray 26)).alloc (.cells (txC u).toArray 26)) w5) := nxTr V4.out hb5; have X5 : Hid (Below w4.heap.size w4 w5) := hb5; clear hp5 ht5 hb5)
          | ((with_reducible show wpList _ _ _ (⟨none, .store 26 (.tmp 11) _, _, _, _, _⟩ :: _) _ _); (show wpList _ _ _ _ _ (w5.alloc (.cells txZ 26))); refine wpList_store_all rfl 26 (.tmp 11) (.tmp 45) rfl w5.heap.size 26 txZ (txC t5).toArray rfl rfl (heap_alloc_new w5 _) rfl (HZT0.out t5) (txC_one t5) ?_; intro w6 h5 h6 h7; have R6 := Lib.hid (blkR (vs := txC t5) h5); have X6 : Hid (Below w5.heap.size w5 w6) := belowFresh h6; have V6 : Hid (Below ((w.alloc (.cells (txC t).toArray 26)).alloc (.cells (txC u).toArray 26)).heap.size ((w.alloc (.cells (txC t).toArray 26)).alloc (.cells (txC u).toArray 26)) w6) := nxTr V5.out X6.out; clear h5 h6 h7)
          | ((with_reducible show wpList _ _ _ (⟨some 51, _, _, _, _, _⟩ :: _) _ _); refine wpList_load_want (by rfl) 26 (.tmp 11) rfl w5.heap.size 0 rfl (txC t5) _ R6.out Tryd.underlying26 rfl (HZTl.out t5) ?_)
          | ((with_reducible show wpList _ _ _ (⟨some 52, _, _, _, _, _⟩ :: _) _ _); refine wpList_load_want (by rfl) 26 (.tmp 3) rfl w.heap.size 0 rfl (txC t) _ (rngB HR.out V6.out Hl0.out) Tryd.underlying26 rfl (HZTl.out t) ?_)
          | (go_at_call 18; (with_reducible show Calls _ _ #[.agg (txC t5).toArray, .agg (txC t).toArray] _ _); refine (rsame_any w6 t5 t (T5.out.later X6.out) (HT.out.later V6.out)).mono ?_; unfold SamePost; rintro e w7 ⟨zs, rfl, hzs, hb7⟩; obtain rfl : zs = true := hzs.2 (P5.out.trans HFV.out); have V7 : Hid (Below ((w.alloc (.cells (txC t).toArray 26)).alloc (.cells (txC u).toArray 26)).heap.size ((w.alloc (.cells (txC t).toArray 26)).alloc (.cells (txC u).toArray 26)) w7) := nxTr V6.out hb7; have X7 : Hid (Below w4.heap.size w4 w7) := nxTr (nxTr X5.out X6.out) hb7; clear hzs hb7)
          | (go_at_call 26; (with_reducible show Calls _ _ #[.slice A b.length c] _ _); refine (of_any w7 w7.heap.size A b c ((HS.out.later V7.out).more (Nat.le_trans Hb0.out.size V7.out.size)) HLb.out).mono ?_; unfold OfPost; rw [HK.out]; rintro e w20 ⟨t8, rfl, hp8, ht8, hb8⟩; have P8 := Lib.hid hp8; have T8 := Lib.hid ht8; have V20 : Hid (Below ((w.alloc (.cells (txC t).toArray 26)).alloc (.cells (txC u).toArray 26)).heap.size ((w.alloc (.cells (txC t).toArray 26)).alloc (.cells (txC u).toArray 26)) w20) := nxTr V7.out hb8; clear hp8 ht8 hb8)
          | ((with_reducible show wpList _ _ _ (⟨none, .store 26 (.tmp 14) _, _, _, _, _⟩ :: _) _ _); (show wpList _ _ _ _ _ (w20.alloc (.cells txZ 26))); refine wpList_store_all rfl 26 (.tmp 14) (.tmp 103) rfl w20.heap.size 26 txZ (txC t8).toArray rfl rfl (heap_alloc_new w20 _) rfl (HZT0.out t8) (txC_one t8) ?_; intro w21 h5 h6 h7; have R21 := Lib.hid (blkR (vs := txC t8) h5); have L21 := Lib.hid h5.lt; have X21 : Hid (Below w20.heap.size w20 w21) := belowFresh h6; have V21 : Hid (Below ((w.alloc (.cells (txC t).toArray 26)).alloc (.cells (txC u).toArray 26)).heap.size ((w.alloc (.cells (txC t).toArray 26)).alloc (.cells (txC u).toArray 26)) w21) := nxTr V20.out X21.out; clear h5 h6 h7))
        all_goals (first | go_ret | go_show)
        · exact ⟨rfl, nxTr Hb0.out V21.out⟩
        · exact ⟨rfl, nxTr Hb0.out V2.out⟩
  · rcases g3 with rfl | rfl | rfl
    · cases k
      case true =>
        go_enter Tryd.func5, Tryd.ntmps5
        go_wp2_with (first
          | (go_at_call 8; refine (known_any ((w.alloc (.cells (txC t).toArray 26)).alloc (.cells (txC u).toArray 26))).mono ?_; rintro e w1 ⟨rfl, hb1⟩; have V1 : Hid (Below ((w.alloc (.cells (txC t).toArray 26)).alloc (.cells (txC u).toArray 26)).heap.size ((w.alloc (.cells (txC t).toArray 26)).alloc (.cells (txC u).toArray 26)) w1) := hb1; clear hb1)
          | ((with_reducible show wpList _ _ _ (⟨some 20, _, _, _, _, _⟩ :: _) _ _); refine wpList_load_mid rfl 26 (.tmp 3) rfl w.heap.size 0 rfl (txC t) _ (rngB HR.out V1.out Hl0.out) Tryd.underlying26 rfl (HZTl.out t) ?_)
          | ((with_reducible show wpList _ _ _ (⟨some 21, _, _, _, _, _⟩ :: _) _ _); refine wpList_load_mid rfl 26 (.tmp 4) rfl (w.heap.size + 1) 0 rfl (txC u) _ (rngB HQ.out V1.out Hl1.out) Tryd.underlying26 rfl (HZTl.out u) ?_)
          | ((with_reducible show wpList _ _ _ (⟨some 22, _, _, _, _, _⟩ :: _) _ _); refine wpList_build_tx2 rfl (.tmp 20) (.tmp 21) rfl t u rfl rfl ?_)
          | (go_at_call 7; refine (much2_any (w1.alloc (.cells (txC t ++ txC u).toArray 26)) w1.heap.size t u (HT.out.later (nxAl V1.out _)) (HU.out.later (nxAl V1.out _)) (heap_alloc_new w1 _)).mono ?_; rintro e w2 ⟨mz, rfl, hb2⟩; have V2 : Hid (Below ((w.alloc (.cells (txC t).toArray 26)).alloc (.cells (txC u).toArray 26)).heap.size ((w.alloc (.cells (txC t).toArray 26)).alloc (.cells (txC u).toArray 26)) w2) := nxTr (nxAl V1.out _) hb2; clear hb2; cases mz)
          | ((with_reducible show wpList _ _ _ (⟨some 30, _, _, _, _, _⟩ :: _) _ _); refine wpList_load_mid rfl 26 (.tmp 3) rfl w.heap.size 0 rfl (txC t) _ (rngB HR.out V2.out Hl0.out) Tryd.underlying26 rfl (HZTl.out t) ?_)
          | (go_at_call 9; (with_reducible show Calls _ _ #[.agg (txC t).toArray] _ _); refine (bytes_no w2 t (HT.out.later V2.out) (by rw [HCz.out]; decide)).mono ?_; rw [HCz.out]; rintro e w3 ⟨rfl, hb⟩; have V3 : Hid (Below ((w.alloc (.cells (txC t).toArray 26)).alloc (.cells (txC u).toArray 26)).heap.size ((w.alloc (.cells (txC t).toArray 26)).alloc (.cells (txC u).toArray 26)) w3) := nxTr V2.out hb; clear hb)
          | ((with_reducible show wpList _ _ _ (⟨some 35, _, _, _, _, _⟩ :: _) _ _); refine wpList_load_mid rfl 26 (.tmp 4) rfl (w.heap.size + 1) 0 rfl (txC u) _ (rngB HQ.out V3.out Hl1.out) Tryd.underlying26 rfl (HZTl.out u) ?_)
          | (go_at_call 9; (with_reducible show Calls _ _ #[.agg (txC u).toArray] _ _); refine (bytes_yes w3 u (HU.out.later V3.out) HCy.out).mono ?_; unfold BytesPost; rw [HG.out]; rintro e w4 ⟨⟨A4, c4, B4, rfl, hB0, ho⟩, hb⟩; have V4 : Hid (Below ((w.alloc (.cells (txC t).toArray 26)).alloc (.cells (txC u).toArray 26)).heap.size ((w.alloc (.cells (txC t).toArray 26)).alloc (.cells (txC u).toArray 26)) w4) := nxTr V3.out hb; have S4 := Lib.hid (Sees.own ho); have C4 := Lib.hid (own_cm ho); clear hB0 ho hb)
          | (go_at_call 11; refine (num_any _ _).mono ?_; rintro e wn ⟨rfl, hwn⟩; obtain rfl := hwn.symm)
          | (go_at_call 26; (with_reducible show Calls _ _ #[.slice A b.length c] _ _); refine (of_any w4 w4.heap.size A b c ((HS.out.later V4.out).more (Nat.le_trans Hb0.out.size V4.out.size)) HLb.out).mono ?_; unfold OfPost; rw [HK.out]; rintro e w20 ⟨t8, rfl, hp8, ht8, hb8⟩; have P8 := Lib.hid hp8; have T8 := Lib.hid ht8; have V20 : Hid (Below ((w.alloc (.cells (txC t).toArray 26)).alloc (.cells (txC u).toArray 26)).heap.size ((w.alloc (.cells (txC t).toArray 26)).alloc (.cells (txC u).toArray 26)) w20) := nxTr V4.out hb8; clear hp8 ht8 hb8)
          | ((with_reducible show wpList _ _ _ (⟨none, .store 26 (.tmp 14) _, _, _, _, _⟩ :: _) _ _); (show wpList _ _ _ _ _ (w20.alloc (.cells txZ 26))); refine wpList_store_all rfl 26 (.tmp 14) (.tmp 103) rfl w20.heap.size 26 txZ (txC t8).toArray rfl rfl (heap_alloc_new w20 _) rfl (HZT0.out t8) (txC_one t8) ?_; intro w21 h5 h6 h7; have R21 := Lib.hid (blkR (vs := txC t8) h5); have L21 := Lib.hid h5.lt; have X21 : Hid (Below w20.heap.size w20 w21) := belowFresh h6; have V21 : Hid (Below ((w.alloc (.cells (txC t).toArray 26)).alloc (.cells (txC u).toArray 26)).heap.size ((w.alloc (.cells (txC t).toArray 26)).alloc (.cells (txC u).toArray 26)) w21) := nxTr V20.out X21.out; clear h5 h6 h7)
          | ((with_reducible show wpList _ _ _ (⟨some 109, _, _, _, _, _⟩ :: _) _ _); refine wpList_load_mid rfl 26 (.tmp 14) rfl w20.heap.size 0 rfl (txC t8) _ R21.out Tryd.underlying26 rfl (HZTl.out t8) ?_)
          | (go_at_call 9; (with_reducible show Calls _ _ #[.agg (txC t8).toArray] _ _); refine (bytes_yes w21 t8 (T8.out.later X21.out) (of_back HK.out P8.out).2).mono ?_; unfold BytesPost; rw [(of_back HK.out P8.out).1]; rintro e w22 ⟨⟨A22, c22, B22, rfl, hB0, ho⟩, hb⟩; have V22 : Hid (Below ((w.alloc (.cells (txC t).toArray 26)).alloc (.cells (txC u).toArray 26)).heap.size ((w.alloc (.cells (txC t).toArray 26)).alloc (.cells (txC u).toArray 26)) w22) := nxTr V21.out hb; have X22 : Hid (Below w21.heap.size w21 w22) := hb; have q1 := run_string_sees (P := Tryd.prog) (w := w22) (c := c22) (n := b.length) Tryd.underlying30 Tryd.underlying5 Tryd.underlying9 rfl (Sees.own ho); have q2 := run_string_sees (P := Tryd.prog) (w := w22) (c := c) (n := b.length) Tryd.underlying30 Tryd.underlying5 Tryd.underlying9 rfl (HS.out.later V22.out); clear hB0 ho hb)
          | ((with_reducible show wpList _ _ _ (⟨some 124, _, _, _, _, _⟩ :: _) _ _); refine wpList_load_want (by rfl) 26 (.tmp 14) rfl w20.heap.size 0 rfl (txC t8) _ (rngB R21.out X22.out L21.out) Tryd.underlying26 rfl (HZTl.out t8) ?_)
          | (go_at_call 13; refine (may_any w22 t8 (T8.out.later (nxTr X21.out X22.out))).mono ?_; rw [(of_back HK.out P8.out).2]; rintro e w23 ⟨rfl, hb⟩; have V23 : Hid (Below ((w.alloc (.cells (txC t).toArray 26)).alloc (.cells (txC u).toArray 26)).heap.size ((w.alloc (.cells (txC t).toArray 26)).alloc (.cells (txC u).toArray 26)) w23) := nxTr V22.out hb; clear hb))
        all_goals (first | go_ret | go_show)
        · exact ⟨rfl, nxTr Hb0.out V23.out⟩
        · exact ⟨rfl, nxTr Hb0.out V2.out⟩
      case false =>
        go_enter Tryd.func5, Tryd.ntmps5
        go_wp2_with (first
          | (go_at_call 8; refine (known_any ((w.alloc (.cells (txC t).toArray 26)).alloc (.cells (txC u).toArray 26))).mono ?_; rintro e w1 ⟨rfl, hb1⟩; have V1 : Hid (Below ((w.alloc (.cells (txC t).toArray 26)).alloc (.cells (txC u).toArray 26)).heap.size ((w.alloc (.cells (txC t).toArray 26)).alloc (.cells (txC u).toArray 26)) w1) := hb1; clear hb1)
          | ((with_reducible show wpList _ _ _ (⟨some 20, _, _, _, _, _⟩ :: _) _ _); refine wpList_load_mid rfl 26 (.tmp 3) rfl w.heap.size 0 rfl (txC t) _ (rngB HR.out V1.out Hl0.out) Tryd.underlying26 rfl (HZTl.out t) ?_)
          | ((with_reducible show wpList _ _ _ (⟨some 21, _, _, _, _, _⟩ :: _) _ _); refine wpList_load_mid rfl 26 (.tmp 4) rfl (w.heap.size + 1) 0 rfl (txC u) _ (rngB HQ.out V1.out Hl1.out) Tryd.underlying26 rfl (HZTl.out u) ?_)
          | ((with_reducible show wpList _ _ _ (⟨some 22, _, _, _, _, _⟩ :: _) _ _); refine wpList_build_tx2 rfl (.tmp 20) (.tmp 21) rfl t u rfl rfl ?_)
          | (go_at_call 7; refine (much2_any (w1.alloc (.cells (txC t ++ txC u).toArray 26)) w1.heap.size t u (HT.out.later (nxAl V1.out _)) (HU.out.later (nxAl V1.out _)) (heap_alloc_new w1 _)).mono ?_; rintro e w2 ⟨mz, rfl, hb2⟩; have V2 : Hid (Below ((w.alloc (.cells (txC t).toArray 26)).alloc (.cells (txC u).toArray 26)).heap.size ((w.alloc (.cells (txC t).toArray 26)).alloc (.cells (txC u).toArray 26)) w2) := nxTr (nxAl V1.out _) hb2; clear hb2; cases mz)
          | ((with_reducible show wpList _ _ _ (⟨some 30, _, _, _, _, _⟩ :: _) _ _); refine wpList_load_mid rfl 26 (.tmp 3) rfl w.heap.size 0 rfl (txC t) _ (rngB HR.out V2.out Hl0.out) Tryd.underlying26 rfl (HZTl.out t) ?_)
          | (go_at_call 9; (with_reducible show Calls _ _ #[.agg (txC t).toArray] _ _); refine (bytes_no w2 t (HT.out.later V2.out) (by rw [HCz.out]; decide)).mono ?_; rw [HCz.out]; rintro e w3 ⟨rfl, hb⟩; have V3 : Hid (Below ((w.alloc (.cells (txC t).toArray 26)).alloc (.cells (txC u).toArray 26)).heap.size ((w.alloc (.cells (txC t).toArray 26)).alloc (.cells (txC u).toArray 26)) w3) := nxTr V2.out hb; clear hb)
          | ((with_reducible show wpList _ _ _ (⟨some 35, _, _, _, _, _⟩ :: _) _ _); refine wpList_load_mid rfl 26 (.tmp 4) rfl (w.heap.size + 1) 0 rfl (txC u) _ (rngB HQ.out V3.out Hl1.out) Tryd.underlying26 rfl (HZTl.out u) ?_)
          | (go_at_call 9; (with_reducible show Calls _ _ #[.agg (txC u).toArray] _ _); refine (bytes_yes w3 u (HU.out.later V3.out) HCy.out).mono ?_; unfold BytesPost; rw [HG.out]; rintro e w4 ⟨⟨A4, c4, B4, rfl, hB0, ho⟩, hb⟩; have V4 : Hid (Below ((w.alloc (.cells (txC t).toArray 26)).alloc (.cells (txC u).toArray 26)).heap.size ((w.alloc (.cells (txC t).toArray 26)).alloc (.cells (txC u).toArray 26)) w4) := nxTr V3.out hb; have S4 := Lib.hid (Sees.own ho); have C4 := Lib.hid (own_cm ho); clear hB0 ho hb)
          | (go_at_call 11; refine (num_any _ _).mono ?_; rintro e wn ⟨rfl, hwn⟩; obtain rfl := hwn.symm)
          | (go_at_call 26; (with_reducible show Calls _ _ #[.slice A b.length c] _ _); refine (of_any w4 w4.heap.size A b c ((HS.out.later V4.out).more (Nat.le_trans Hb0.out.size V4.out.size)) HLb.out).mono ?_; unfold OfPost; rw [HK.out]; rintro e w20 ⟨t8, rfl, hp8, ht8, hb8⟩; have P8 := Lib.hid hp8; have T8 := Lib.hid ht8; have V20 : Hid (Below ((w.alloc (.cells (txC t).toArray 26)).alloc (.cells (txC u).toArray 26)).heap.size ((w.alloc (.cells (txC t).toArray 26)).alloc (.cells (txC u).toArray 26)) w20) := nxTr V4.out hb8; clear hp8 ht8 hb8)
          | ((with_reducible show wpList _ _ _ (⟨none, .store 26 (.tmp 14) _, _, _, _, _⟩ :: _) _ _); (show wpList _ _ _ _ _ (w20.alloc (.cells txZ 26))); refine wpList_store_all rfl 26 (.tmp 14) (.tmp 103) rfl w20.heap.size 26 txZ (txC t8).toArray rfl rfl (heap_alloc_new w20 _) rfl (HZT0.out t8) (txC_one t8) ?_; intro w21 h5 h6 h7; have R21 := Lib.hid (blkR (vs := txC t8) h5); have L21 := Lib.hid h5.lt; have X21 : Hid (Below w20.heap.size w20 w21) := belowFresh h6; have V21 : Hid (Below ((w.alloc (.cells (txC t).toArray 26)).alloc (.cells (txC u).toArray 26)).heap.size ((w.alloc (.cells (txC t).toArray 26)).alloc (.cells (txC u).toArray 26)) w21) := nxTr V20.out X21.out; clear h5 h6 h7))
        all_goals (first | go_ret | go_show)
        · exact ⟨rfl, nxTr Hb0.out V21.out⟩
        · exact ⟨rfl, nxTr Hb0.out V2.out⟩
    · cases k
      case true =>
        go_enter Tryd.func5, Tryd.ntmps5
        go_wp2_with (first
          | (go_at_call 8; refine (known_any ((w.alloc (.cells (txC t).toArray 26)).alloc (.cells (txC u).toArray 26))).mono ?_; rintro e w1 ⟨rfl, hb1⟩; have V1 : Hid (Below ((w.alloc (.cells (txC t).toArray 26)).alloc (.cells (txC u).toArray 26)).heap.size ((w.alloc (.cells (txC t).toArray 26)).alloc (.cells (txC u).toArray 26)) w1) := hb1; clear hb1)
          | ((with_reducible show wpList _ _ _ (⟨some 20, _, _, _, _, _⟩ :: _) _ _); refine wpList_load_mid rfl 26 (.tmp 3) rfl w.heap.size 0 rfl (txC t) _ (rngB HR.out V1.out Hl0.out) Tryd.underlying26 rfl (HZTl.out t) ?_)
          | ((with_reducible show wpList _ _ _ (⟨some 21, _, _, _, _, _⟩ :: _) _ _); refine wpList_load_mid rfl 26 (.tmp 4) rfl (w.heap.size + 1) 0 rfl (txC u) _ (rngB HQ.out V1.out Hl1.out) Tryd.underlying26 rfl (HZTl.out u) ?_)
          | ((with_reducible show wpList _ _ _ (⟨some 22, _, _, _, _, _⟩ :: _) _ _); refine wpList_build_tx2 rfl (.tmp 20) (.tmp 21) rfl t u rfl rfl ?_)
          | (go_at_call 7; refine (much2_any (w1.alloc (.cells (txC t ++ txC u).toArray 26)) w1.heap.size t u (HT.out.later (nxAl V1.out _)) (HU.out.later (nxAl V1.out _)) (heap_alloc_new w1 _)).mono ?_; rintro e w2 ⟨mz, rfl, hb2⟩; have V2 : Hid (Below ((w.alloc (.cells (txC t).toArray 26)).alloc (.cells (txC u).toArray 26)).heap.size ((w.alloc (.cells (txC t).toArray 26)).alloc (.cells (txC u).toArray 26)) w2) := nxTr (nxAl V1.out _) hb2; clear hb2; cases mz)
          | ((with_reducible show wpList _ _ _ (⟨some 30, _, _, _, _, _⟩ :: _) _ _); refine wpList_load_mid rfl 26 (.tmp 3) rfl w.heap.size 0 rfl (txC t) _ (rngB HR.out V2.out Hl0.out) Tryd.underlying26 rfl (HZTl.out t) ?_)
          | (go_at_call 9; (with_reducible show Calls _ _ #[.agg (txC t).toArray] _ _); refine (bytes_no w2 t (HT.out.later V2.out) (by rw [HCz.out]; decide)).mono ?_; rw [HCz.out]; rintro e w3 ⟨rfl, hb⟩; have V3 : Hid (Below ((w.alloc (.cells (txC t).toArray 26)).alloc (.cells (txC u).toArray 26)).heap.size ((w.alloc (.cells (txC t).toArray 26)).alloc (.cells (txC u).toArray 26)) w3) := nxTr V2.out hb; clear hb)
          | ((with_reducible show wpList _ _ _ (⟨some 35, _, _, _, _, _⟩ :: _) _ _); refine wpList_load_mid rfl 26 (.tmp 4) rfl (w.heap.size + 1) 0 rfl (txC u) _ (rngB HQ.out V3.out Hl1.out) Tryd.underlying26 rfl (HZTl.out u) ?_)
          | (go_at_call 9; (with_reducible show Calls _ _ #[.agg (txC u).toArray] _ _); refine (bytes_no w3 u (HU.out.later V3.out) (by rw [HCy.out]; decide)).mono ?_; rw [HCy.out]; rintro e w4 ⟨rfl, hb⟩; have V4 : Hid (Below ((w.alloc (.cells (txC t).toArray 26)).alloc (.cells (txC u).toArray 26)).heap.size ((w.alloc (.cells (txC t).toArray 26)).alloc (.cells (txC u).toArray 26)) w4) := nxTr V3.out hb; have V34 : Hid (Below w3.heap.size w3 w4) := hb; clear hb)
          | (go_at_call 11; refine (num_any _ _).mono ?_; rintro e wn ⟨rfl, hwn⟩; obtain rfl := hwn.symm)
          | (go_at_call 26; (with_reducible show Calls _ _ #[.slice A b.length c] _ _); refine (of_any w4 w4.heap.size A b c ((HS.out.later V4.out).more (Nat.le_trans Hb0.out.size V4.out.size)) HLb.out).mono ?_; unfold OfPost; rw [HK.out]; rintro e w20 ⟨t8, rfl, hp8, ht8, hb8⟩; have P8 := Lib.hid hp8; have T8 := Lib.hid ht8; have V20 : Hid (Below ((w.alloc (.cells (txC t).toArray 26)).alloc (.cells (txC u).toArray 26)).heap.size ((w.alloc (.cells (txC t).toArray 26)).alloc (.cells (txC u).toArray 26)) w20) := nxTr V4.out hb8; clear hp8 ht8 hb8)
          | ((with_reducible show wpList _ _ _ (⟨none, .store 26 (.tmp 14) _, _, _, _, _⟩ :: _) _ _); (show wpList _ _ _ _ _ (w20.alloc (.cells txZ 26))); refine wpList_store_all rfl 26 (.tmp 14) (.tmp 103) rfl w20.heap.size 26 txZ (txC t8).toArray rfl rfl (heap_alloc_new w20 _) rfl (HZT0.out t8) (txC_one t8) ?_; intro w21 h5 h6 h7; have R21 := Lib.hid (blkR (vs := txC t8) h5); have L21 := Lib.hid h5.lt; have X21 : Hid (Below w20.heap.size w20 w21) := belowFresh h6; have V21 : Hid (Below ((w.alloc (.cells (txC t).toArray 26)).alloc (.cells (txC u).toArray 26)).heap.size ((w.alloc (.cells (txC t).toArray 26)).alloc (.cells (txC u).toArray 26)) w21) := nxTr V20.out X21.out; clear h5 h6 h7)
          | ((with_reducible show wpList _ _ _ (⟨some 109, _, _, _, _, _⟩ :: _) _ _); refine wpList_load_mid rfl 26 (.tmp 14) rfl w20.heap.size 0 rfl (txC t8) _ R21.out Tryd.underlying26 rfl (HZTl.out t8) ?_)
          | (go_at_call 9; (with_reducible show Calls _ _ #[.agg (txC t8).toArray] _ _); refine (bytes_yes w21 t8 (T8.out.later X21.out) (of_back HK.out P8.out).2).mono ?_; unfold BytesPost; rw [(of_back HK.out P8.out).1]; rintro e w22 ⟨⟨A22, c22, B22, rfl, hB0, ho⟩, hb⟩; have V22 : Hid (Below ((w.alloc (.cells (txC t).toArray 26)).alloc (.cells (txC u).toArray 26)).heap.size ((w.alloc (.cells (txC t).toArray 26)).alloc (.cells (txC u).toArray 26)) w22) := nxTr V21.out hb; have X22 : Hid (Below w21.heap.size w21 w22) := hb; have q1 := run_string_sees (P := Tryd.prog) (w := w22) (c := c22) (n := b.length) Tryd.underlying30 Tryd.underlying5 Tryd.underlying9 rfl (Sees.own ho); have q2 := run_string_sees (P := Tryd.prog) (w := w22) (c := c) (n := b.length) Tryd.underlying30 Tryd.underlying5 Tryd.underlying9 rfl (HS.out.later V22.out); clear hB0 ho hb)
          | ((with_reducible show wpList _ _ _ (⟨some 124, _, _, _, _, _⟩ :: _) _ _); refine wpList_load_want (by rfl) 26 (.tmp 14) rfl w20.heap.size 0 rfl (txC t8) _ (rngB R21.out X22.out L21.out) Tryd.underlying26 rfl (HZTl.out t8) ?_)
          | (go_at_call 13; refine (may_any w22 t8 (T8.out.later (nxTr X21.out X22.out))).mono ?_; rw [(of_back HK.out P8.out).2]; rintro e w23 ⟨rfl, hb⟩; have V23 : Hid (Below ((w.alloc (.cells (txC t).toArray 26)).alloc (.cells (txC u).toArray 26)).heap.size ((w.alloc (.cells (txC t).toArray 26)).alloc (.cells (txC u).toArray 26)) w23) := nxTr V22.out hb; clear hb))
        all_goals (first | go_ret | go_show)
        · exact ⟨rfl, nxTr Hb0.out V23.out⟩
        · exact ⟨rfl, nxTr Hb0.out V2.out⟩
      case false =>
        go_enter Tryd.func5, Tryd.ntmps5
        go_wp2_with (first
          | (go_at_call 8; refine (known_any ((w.alloc (.cells (txC t).toArray 26)).alloc (.cells (txC u).toArray 26))).mono ?_; rintro e w1 ⟨rfl, hb1⟩; have V1 : Hid (Below ((w.alloc (.cells (txC t).toArray 26)).alloc (.cells (txC u).toArray 26)).heap.size ((w.alloc (.cells (txC t).toArray 26)).alloc (.cells (txC u).toArray 26)) w1) := hb1; clear hb1)
          | ((with_reducible show wpList _ _ _ (⟨some 20, _, _, _, _, _⟩ :: _) _ _); refine wpList_load_mid rfl 26 (.tmp 3) rfl w.heap.size 0 rfl (txC t) _ (rngB HR.out V1.out Hl0.out) Tryd.underlying26 rfl (HZTl.out t) ?_)
          | ((with_reducible show wpList _ _ _ (⟨some 21, _, _, _, _, _⟩ :: _) _ _); refine wpList_load_mid rfl 26 (.tmp 4) rfl (w.heap.size + 1) 0 rfl (txC u) _ (rngB HQ.out V1.out Hl1.out) Tryd.underlying26 rfl (HZTl.out u) ?_)
          | ((with_reducible show wpList _ _ _ (⟨some 22, _, _, _, _, _⟩ :: _) _ _); refine wpList_build_tx2 rfl (.tmp 20) (.tmp 21) rfl t u rfl rfl ?_)
          | (go_at_call 7; refine (much2_any (w1.alloc (.cells (txC t ++ txC u).toArray 26)) w1.heap.size t u (HT.out.later (nxAl V1.out _)) (HU.out.later (nxAl V1.out _)) (heap_alloc_new w1 _)).mono ?_; rintro e w2 ⟨mz, rfl, hb2⟩; have V2 : Hid (Below ((w.alloc (.cells (txC t).toArray 26)).alloc (.cells (txC u).toArray 26)).heap.size ((w.alloc (.cells (txC t).toArray 26)).alloc (.cells (txC u).toArray 26)) w2) := nxTr (nxAl V1.out _) hb2; clear hb2; cases mz)
          | ((with_reducible show wpList _ _ _ (⟨some 30, _, _, _, _, _⟩ :: _) _ _); refine wpList_load_mid rfl 26 (.tmp 3) rfl w.heap.size 0 rfl (txC t) _ (rngB HR.out V2.out Hl0.out) Tryd.underlying26 rfl (HZTl.out t) ?_)
          | (go_at_call 9; (with_reducible show Calls _ _ #[.agg (txC t).toArray] _ _); refine (bytes_no w2 t (HT.out.later V2.out) (by rw [HCz.out]; decide)).mono ?_; rw [HCz.out]; rintro e w3 ⟨rfl, hb⟩; have V3 : Hid (Below ((w.alloc (.cells (txC t).toArray 26)).alloc (.cells (txC u).toArray 26)).heap.size ((w.alloc (.cells (txC t).toArray 26)).alloc (.cells (txC u).toArray 26)) w3) := nxTr V2.out hb; clear hb)
          | ((with_reducible show wpList _ _ _ (⟨some 35, _, _, _, _, _⟩ :: _) _ _); refine wpList_load_mid rfl 26 (.tmp 4) rfl (w.heap.size + 1) 0 rfl (txC u) _ (rngB HQ.out V3.out Hl1.out) Tryd.underlying26 rfl (HZTl.out u) ?_)
          | (go_at_call 9; (with_reducible show Calls _ _ #[.agg (txC u).toArray] _ _); refine (bytes_no w3 u (HU.out.later V3.out) (by rw [HCy.out]; decide)).mono ?_; rw [HCy.out]; rintro e w4 ⟨rfl, hb⟩; have V4 : Hid (Below ((w.alloc (.cells (txC t).toArray 26)).alloc (.cells (txC u).toArray 26)).heap.size ((w.alloc (.cells (txC t).toArray 26)).alloc (.cells (txC u).toArray 26)) w4) := nxTr V3.out hb; have V34 : Hid (Below w3.heap.size w3 w4) := hb; clear hb)
          | (go_at_call 11; refine (num_any _ _).mono ?_; rintro e wn ⟨rfl, hwn⟩; obtain rfl := hwn.symm)
          | (go_at_call 26; (with_reducible show Calls _ _ #[.slice A b.length c] _ _); refine (of_any w4 w4.heap.size A b c ((HS.out.later V4.out).more (Nat.le_trans Hb0.out.size V4.out.size)) HLb.out).mono ?_; unfold OfPost; rw [HK.out]; rintro e w20 ⟨t8, rfl, hp8, ht8, hb8⟩; have P8 := Lib.hid hp8; have T8 := Lib.hid ht8; have V20 : Hid (Below ((w.alloc (.cells (txC t).toArray 26)).alloc (.cells (txC u).toArray 26)).heap.size ((w.alloc (.cells (txC t).toArray 26)).alloc (.cells (txC u).toArray 26)) w20) := nxTr V4.out hb8; clear hp8 ht8 hb8)
          | ((with_reducible show wpList _ _ _ (⟨none, .store 26 (.tmp 14) _, _, _, _, _⟩ :: _) _ _); (show wpList _ _ _ _ _ (w20.alloc (.cells txZ 26))); refine wpList_store_all rfl 26 (.tmp 14) (.tmp 103) rfl w20.heap.size 26 txZ (txC t8).toArray rfl rfl (heap_alloc_new w20 _) rfl (HZT0.out t8) (txC_one t8) ?_; intro w21 h5 h6 h7; have R21 := Lib.hid (blkR (vs := txC t8) h5); have L21 := Lib.hid h5.lt; have X21 : Hid (Below w20.heap.size w20 w21) := belowFresh h6; have V21 : Hid (Below ((w.alloc (.cells (txC t).toArray 26)).alloc (.cells (txC u).toArray 26)).heap.size ((w.alloc (.cells (txC t).toArray 26)).alloc (.cells (txC u).toArray 26)) w21) := nxTr V20.out X21.out; clear h5 h6 h7))
        all_goals (first | go_ret | go_show)
        · exact ⟨rfl, nxTr Hb0.out V21.out⟩
        · exact ⟨rfl, nxTr Hb0.out V2.out⟩
    · cases k
      case true =>
        go_enter Tryd.func5, Tryd.ntmps5
        go_wp2_with (first
          | (go_at_call 8; refine (known_any ((w.alloc (.cells (txC t).toArray 26)).alloc (.cells (txC u).toArray 26))).mono ?_; rintro e w1 ⟨rfl, hb1⟩; have V1 : Hid (Below ((w.alloc (.cells (txC t).toArray 26)).alloc (.cells (txC u).toArray 26)).heap.size ((w.alloc (.cells (txC t).toArray 26)).alloc (.cells (txC u).toArray 26)) w1) := hb1; clear hb1)
          | ((with_reducible show wpList _ _ _ (⟨some 20, _, _, _, _, _⟩ :: _) _ _); refine wpList_load_mid rfl 26 (.tmp 3) rfl w.heap.size 0 rfl (txC t) _ (rngB HR.out V1.out Hl0.out) Tryd.underlying26 rfl (HZTl.out t) ?_)
          | ((with_reducible show wpList _ _ _ (⟨some 21, _, _, _, _, _⟩ :: _) _ _); refine wpList_load_mid rfl 26 (.tmp 4) rfl (w.heap.size + 1) 0 rfl (txC u) _ (rngB HQ.out V1.out Hl1.out) Tryd.underlying26 rfl (HZTl.out u) ?_)
          | ((with_reducible show wpList _ _ _ (⟨some 22, _, _, _, _, _⟩ :: _) _ _); refine wpList_build_tx2 rfl (.tmp 20) (.tmp 21) rfl t u rfl rfl ?_)
          | (go_at_call 7; refine (much2_any (w1.alloc (.cells (txC t ++ txC u).toArray 26)) w1.heap.size t u (HT.out.later (nxAl V1.out _)) (HU.out.later (nxAl V1.out _)) (heap_alloc_new w1 _)).mono ?_; rintro e w2 ⟨mz, rfl, hb2⟩; have V2 : Hid (Below ((w.alloc (.cells (txC t).toArray 26)).alloc (.cells (txC u).toArray 26)).heap.size ((w.alloc (.cells (txC t).toArray 26)).alloc (.cells (txC u).toArray 26)) w2) := nxTr (nxAl V1.out _) hb2; clear hb2; cases mz)
          | ((with_reducible show wpList _ _ _ (⟨some 30, _, _, _, _, _⟩ :: _) _ _); refine wpList_load_mid rfl 26 (.tmp 3) rfl w.heap.size 0 rfl (txC t) _ (rngB HR.out V2.out Hl0.out) Tryd.underlying26 rfl (HZTl.out t) ?_)
          | (go_at_call 9; (with_reducible show Calls _ _ #[.agg (txC t).toArray] _ _); refine (bytes_no w2 t (HT.out.later V2.out) (by rw [HCz.out]; decide)).mono ?_; rw [HCz.out]; rintro e w3 ⟨rfl, hb⟩; have V3 : Hid (Below ((w.alloc (.cells (txC t).toArray 26)).alloc (.cells (txC u).toArray 26)).heap.size ((w.alloc (.cells (txC t).toArray 26)).alloc (.cells (txC u).toArray 26)) w3) := nxTr V2.out hb; clear hb)
          | ((with_reducible show wpList _ _ _ (⟨some 35, _, _, _, _, _⟩ :: _) _ _); refine wpList_load_mid rfl 26 (.tmp 4) rfl (w.heap.size + 1) 0 rfl (txC u) _ (rngB HQ.out V3.out Hl1.out) Tryd.underlying26 rfl (HZTl.out u) ?_)
          | (go_at_call 9; (with_reducible show Calls _ _ #[.agg (txC u).toArray] _ _); refine (bytes_no w3 u (HU.out.later V3.out) (by rw [HCy.out]; decide)).mono ?_; rw [HCy.out]; rintro e w4 ⟨rfl, hb⟩; have V4 : Hid (Below ((w.alloc (.cells (txC t).toArray 26)).alloc (.cells (txC u).toArray 26)).heap.size ((w.alloc (.cells (txC t).toArray 26)).alloc (.cells (txC u).toArray 26)) w4) := nxTr V3.out hb; have V34 : Hid (Below w3.heap.size w3 w4) := hb; clear hb)
          | (go_at_call 11; refine (num_any _ _).mono ?_; rintro e wn ⟨rfl, hwn⟩; obtain rfl := hwn.symm)
          | (go_at_call 26; (with_reducible show Calls _ _ #[.slice A b.length c] _ _); refine (of_any w4 w4.heap.size A b c ((HS.out.later V4.out).more (Nat.le_trans Hb0.out.size V4.out.size)) HLb.out).mono ?_; unfold OfPost; rw [HK.out]; rintro e w20 ⟨t8, rfl, hp8, ht8, hb8⟩; have P8 := Lib.hid hp8; have T8 := Lib.hid ht8; have V20 : Hid (Below ((w.alloc (.cells (txC t).toArray 26)).alloc (.cells (txC u).toArray 26)).heap.size ((w.alloc (.cells (txC t).toArray 26)).alloc (.cells (txC u).toArray 26)) w20) := nxTr V4.out hb8; clear hp8 ht8 hb8)
          | ((with_reducible show wpList _ _ _ (⟨none, .store 26 (.tmp 14) _, _, _, _, _⟩ :: _) _ _); (show wpList _ _ _ _ _ (w20.alloc (.cells txZ 26))); refine wpList_store_all rfl 26 (.tmp 14) (.tmp 103) rfl w20.heap.size 26 txZ (txC t8).toArray rfl rfl (heap_alloc_new w20 _) rfl (HZT0.out t8) (txC_one t8) ?_; intro w21 h5 h6 h7; have R21 := Lib.hid (blkR (vs := txC t8) h5); have L21 := Lib.hid h5.lt; have X21 : Hid (Below w20.heap.size w20 w21) := belowFresh h6; have V21 : Hid (Below ((w.alloc (.cells (txC t).toArray 26)).alloc (.cells (txC u).toArray 26)).heap.size ((w.alloc (.cells (txC t).toArray 26)).alloc (.cells (txC u).toArray 26)) w21) := nxTr V20.out X21.out; clear h5 h6 h7)
          | ((with_reducible show wpList _ _ _ (⟨some 109, _, _, _, _, _⟩ :: _) _ _); refine wpList_load_mid rfl 26 (.tmp 14) rfl w20.heap.size 0 rfl (txC t8) _ R21.out Tryd.underlying26 rfl (HZTl.out t8) ?_)
          | (go_at_call 9; (with_reducible show Calls _ _ #[.agg (txC t8).toArray] _ _); refine (bytes_yes w21 t8 (T8.out.later X21.out) (of_back HK.out P8.out).2).mono ?_; unfold BytesPost; rw [(of_back HK.out P8.out).1]; rintro e w22 ⟨⟨A22, c22, B22, rfl, hB0, ho⟩, hb⟩; have V22 : Hid (Below ((w.alloc (.cells (txC t).toArray 26)).alloc (.cells (txC u).toArray 26)).heap.size ((w.alloc (.cells (txC t).toArray 26)).alloc (.cells (txC u).toArray 26)) w22) := nxTr V21.out hb; have X22 : Hid (Below w21.heap.size w21 w22) := hb; have q1 := run_string_sees (P := Tryd.prog) (w := w22) (c := c22) (n := b.length) Tryd.underlying30 Tryd.underlying5 Tryd.underlying9 rfl (Sees.own ho); have q2 := run_string_sees (P := Tryd.prog) (w := w22) (c := c) (n := b.length) Tryd.underlying30 Tryd.underlying5 Tryd.underlying9 rfl (HS.out.later V22.out); clear hB0 ho hb)
          | ((with_reducible show wpList _ _ _ (⟨some 124, _, _, _, _, _⟩ :: _) _ _); refine wpList_load_want (by rfl) 26 (.tmp 14) rfl w20.heap.size 0 rfl (txC t8) _ (rngB R21.out X22.out L21.out) Tryd.underlying26 rfl (HZTl.out t8) ?_)
          | (go_at_call 13; refine (may_any w22 t8 (T8.out.later (nxTr X21.out X22.out))).mono ?_; rw [(of_back HK.out P8.out).2]; rintro e w23 ⟨rfl, hb⟩; have V23 : Hid (Below ((w.alloc (.cells (txC t).toArray 26)).alloc (.cells (txC u).toArray 26)).heap.size ((w.alloc (.cells (txC t).toArray 26)).alloc (.cells (txC u).toArray 26)) w23) := nxTr V22.out hb; clear hb))
        all_goals (first | go_ret | go_show)
        · exact ⟨rfl, nxTr Hb0.out V23.out⟩
        · exact ⟨rfl, nxTr Hb0.out V2.out⟩
      case false =>
        go_enter Tryd.func5, Tryd.ntmps5
        go_wp2_with (first
          | (go_at_call 8; refine (known_any ((w.alloc (.cells (txC t).toArray 26)).alloc (.cells (txC u).toArray 26))).mono ?_; rintro e w1 ⟨rfl, hb1⟩; have V1 : Hid (Below ((w.alloc (.cells (txC t).toArray 26)).alloc (.cells (txC u).toArray 26)).heap.size ((w.alloc (.cells (txC t).toArray 26)).alloc (.cells (txC u).toArray 26)) w1) := hb1; clear hb1)
          | ((with_reducible show wpList _ _ _ (⟨some 20, _, _, _, _, _⟩ :: _) _ _); refine wpList_load_mid rfl 26 (.tmp 3) rfl w.heap.size 0 rfl (txC t) _ (rngB HR.out V1.out Hl0.out) Tryd.underlying26 rfl (HZTl.out t) ?_)
          | ((with_reducible show wpList _ _ _ (⟨some 21, _, _, _, _, _⟩ :: _) _ _); refine wpList_load_mid rfl 26 (.tmp 4) rfl (w.heap.size + 1) 0 rfl (txC u) _ (rngB HQ.out V1.out Hl1.out) Tryd.underlying26 rfl (HZTl.out u) ?_)
          | ((with_reducible show wpList _ _ _ (⟨some 22, _, _, _, _, _⟩ :: _) _ _); refine wpList_build_tx2 rfl (.tmp 20) (.tmp 21) rfl t u rfl rfl ?_)
          | (go_at_call 7; refine (much2_any (w1.alloc (.cells (txC t ++ txC u).toArray 26)) w1.heap.size t u (HT.out.later (nxAl V1.out _)) (HU.out.later (nxAl V1.out _)) (heap_alloc_new w1 _)).mono ?_; rintro e w2 ⟨mz, rfl, hb2⟩; have V2 : Hid (Below ((w.alloc (.cells (txC t).toArray 26)).alloc (.cells (txC u).toArray 26)).heap.size ((w.alloc (.cells (txC t).toArray 26)).alloc (.cells (txC u).toArray 26)) w2) := nxTr (nxAl V1.out _) hb2; clear hb2; cases mz)
          | ((with_reducible show wpList _ _ _ (⟨some 30, _, _, _, _, _⟩ :: _) _ _); refine wpList_load_mid rfl 26 (.tmp 3) rfl w.heap.size 0 rfl (txC t) _ (rngB HR.out V2.out Hl0.out) Tryd.underlying26 rfl (HZTl.out t) ?_)
          | (go_at_call 9; (with_reducible show Calls _ _ #[.agg (txC t).toArray] _ _); refine (bytes_no w2 t (HT.out.later V2.out) (by rw [HCz.out]; decide)).mono ?_; rw [HCz.out]; rintro e w3 ⟨rfl, hb⟩; have V3 : Hid (Below ((w.alloc (.cells (txC t).toArray 26)).alloc (.cells (txC u).toArray 26)).heap.size ((w.alloc (.cells (txC t).toArray 26)).alloc (.cells (txC u).toArray 26)) w3) := nxTr V2.out hb; clear hb)
          | ((with_reducible show wpList _ _ _ (⟨some 35, _, _, _, _, _⟩ :: _) _ _); refine wpList_load_mid rfl 26 (.tmp 4) rfl (w.heap.size + 1) 0 rfl (txC u) _ (rngB HQ.out V3.out Hl1.out) Tryd.underlying26 rfl (HZTl.out u) ?_)
          | (go_at_call 9; (with_reducible show Calls _ _ #[.agg (txC u).toArray] _ _); refine (bytes_no w3 u (HU.out.later V3.out) (by rw [HCy.out]; decide)).mono ?_; rw [HCy.out]; rintro e w4 ⟨rfl, hb⟩; have V4 : Hid (Below ((w.alloc (.cells (txC t).toArray 26)).alloc (.cells (txC u).toArray 26)).heap.size ((w.alloc (.cells (txC t).toArray 26)).alloc (.cells (txC u).toArray 26)) w4) := nxTr V3.out hb; have V34 : Hid (Below w3.heap.size w3 w4) := hb; clear hb)
          | (go_at_call 11; refine (num_any _ _).mono ?_; rintro e wn ⟨rfl, hwn⟩; obtain rfl := hwn.symm)
          | (go_at_call 26; (with_reducible show Calls _ _ #[.slice A b.length c] _ _); refine (of_any w4 w4.heap.size A b c ((HS.out.later V4.out).more (Nat.le_trans Hb0.out.size V4.out.size)) HLb.out).mono ?_; unfold OfPost; rw [HK.out]; rintro e w20 ⟨t8, rfl, hp8, ht8, hb8⟩; have P8 := Lib.hid hp8; have T8 := Lib.hid ht8; have V20 : Hid (Below ((w.alloc (.cells (txC t).toArray 26)).alloc (.cells (txC u).toArray 26)).heap.size ((w.alloc (.cells (txC t).toArray 26)).alloc (.cells (txC u).toArray 26)) w20) := nxTr V4.out hb8; clear hp8 ht8 hb8)
          | ((with_reducible show wpList _ _ _ (⟨none, .store 26 (.tmp 14) _, _, _, _, _⟩ :: _) _ _); (show wpList _ _ _ _ _ (w20.alloc (.cells txZ 26))); refine wpList_store_all rfl 26 (.tmp 14) (.tmp 103) rfl w20.heap.size 26 txZ (txC t8).toArray rfl rfl (heap_alloc_new w20 _) rfl (HZT0.out t8) (txC_one t8) ?_; intro w21 h5 h6 h7; have R21 := Lib.hid (blkR (vs := txC t8) h5); have L21 := Lib.hid h5.lt; have X21 : Hid (Below w20.heap.size w20 w21) := belowFresh h6; have V21 : Hid (Below ((w.alloc (.cells (txC t).toArray 26)).alloc (.cells (txC u).toArray 26)).heap.size ((w.alloc (.cells (txC t).toArray 26)).alloc (.cells (txC u).toArray 26)) w21) := nxTr V20.out X21.out; clear h5 h6 h7))
        all_goals (first | go_ret | go_show)
        · exact ⟨rfl, nxTr Hb0.out V21.out⟩
        · exact ⟨rfl, nxTr Hb0.out V2.out⟩
  · rcases g3 with rfl | rfl | rfl
    · cases k
      case true =>
        go_enter Tryd.func5, Tryd.ntmps5
        go_wp2_with (first
          | (go_at_call 8; refine (known_any ((w.alloc (.cells (txC t).toArray 26)).alloc (.cells (txC u).toArray 26))).mono ?_; rintro e w1 ⟨rfl, hb1⟩; have V1 : Hid (Below ((w.alloc (.cells (txC t).toArray 26)).alloc (.cells (txC u).toArray 26)).heap.size ((w.alloc (.cells (txC t).toArray 26)).alloc (.cells (txC u).toArray 26)) w1) := hb1; clear hb1)
          | ((with_reducible show wpList _ _ _ (⟨some 20, _, _, _, _, _⟩ :: _) _ _); refine wpList_load_mid rfl 26 (.tmp 3) rfl w.heap.size 0 rfl (txC t) _ (rngB HR.out V1.out Hl0.out) Tryd.underlying26 rfl (HZTl.out t) ?_)
          | ((with_reducible show wpList _ _ _ (⟨some 21, _, _, _, _, _⟩ :: _) _ _); refine wpList_load_mid rfl 26 (.tmp 4) rfl (w.heap.size + 1) 0 rfl (txC u) _ (rngB HQ.out V1.out Hl1.out) Tryd.underlying26 rfl (HZTl.out u) ?_)
          | ((with_reducible show wpList _ _ _ (⟨some 22, _, _, _, _, _⟩ :: _) _ _); refine wpList_build_tx2 rfl (.tmp 20) (.tmp 21) rfl t u rfl rfl ?_)
          | (go_at_call 7; refine (much2_any (w1.alloc (.cells (txC t ++ txC u).toArray 26)) w1.heap.size t u (HT.out.later (nxAl V1.out _)) (HU.out.later (nxAl V1.out _)) (heap_alloc_new w1 _)).mono ?_; rintro e w2 ⟨mz, rfl, hb2⟩; have V2 : Hid (Below ((w.alloc (.cells (txC t).toArray 26)).alloc (.cells (txC u).toArray 26)).heap.size ((w.alloc (.cells (txC t).toArray 26)).alloc (.cells (txC u).toArray 26)) w2) := nxTr (nxAl V1.out _) hb2; clear hb2; cases mz)
          | ((with_reducible show wpList _ _ _ (⟨some 30, _, _, _, _, _⟩ :: _) _ _); refine wpList_load_mid rfl 26 (.tmp 3) rfl w.heap.size 0 rfl (txC t) _ (rngB HR.out V2.out Hl0.out) Tryd.underlying26 rfl (HZTl.out t) ?_)
          | (go_at_call 9; (with_reducible show Calls _ _ #[.agg (txC t).toArray] _ _); refine (bytes_no w2 t (HT.out.later V2.out) (by rw [HCz.out]; decide)).mono ?_; rw [HCz.out]; rintro e w3 ⟨rfl, hb⟩; have V3 : Hid (Below ((w.alloc (.cells (txC t).toArray 26)).alloc (.cells (txC u).toArray 26)).heap.size ((w.alloc (.cells (txC t).toArray 26)).alloc (.cells (txC u).toArray 26)) w3) := nxTr V2.out hb; clear hb)
          | ((with_reducible show wpList _ _ _ (⟨some 35, _, _, _, _, _⟩ :: _) _ _); refine wpList_load_mid rfl 26 (.tmp 4) rfl (w.heap.size + 1) 0 rfl (txC u) _ (rngB HQ.out V3.out Hl1.out) Tryd.underlying26 rfl (HZTl.out u) ?_)
          | (go_at_call 9; (with_reducible show Calls _ _ #[.agg (txC u).toArray] _ _); refine (bytes_yes w3 u (HU.out.later V3.out) HCy.out).mono ?_; unfold BytesPost; rw [HG.out]; rintro e w4 ⟨⟨A4, c4, B4, rfl, hB0, ho⟩, hb⟩; have V4 : Hid (Below ((w.alloc (.cells (txC t).toArray 26)).alloc (.cells (txC u).toArray 26)).heap.size ((w.alloc (.cells (txC t).toArray 26)).alloc (.cells (txC u).toArray 26)) w4) := nxTr V3.out hb; have S4 := Lib.hid (Sees.own ho); have C4 := Lib.hid (own_cm ho); clear hB0 ho hb)
          | (go_at_call 11; refine (num_any _ _).mono ?_; rintro e wn ⟨rfl, hwn⟩; obtain rfl := hwn.symm)
          | (go_at_call 26; (with_reducible show Calls _ _ #[.slice A b.length c] _ _); refine (of_any w4 w4.heap.size A b c ((HS.out.later V4.out).more (Nat.le_trans Hb0.out.size V4.out.size)) HLb.out).mono ?_; unfold OfPost; rw [HK.out]; rintro e w20 ⟨t8, rfl, hp8, ht8, hb8⟩; have P8 := Lib.hid hp8; have T8 := Lib.hid ht8; have V20 : Hid (Below ((w.alloc (.cells (txC t).toArray 26)).alloc (.cells (txC u).toArray 26)).heap.size ((w.alloc (.cells (txC t).toArray 26)).alloc (.cells (txC u).toArray 26)) w20) := nxTr V4.out hb8; clear hp8 ht8 hb8)
          | ((with_reducible show wpList _ _ _ (⟨none, .store 26 (.tmp 14) _, _, _, _, _⟩ :: _) _ _); (show wpList _ _ _ _ _ (w20.alloc (.cells txZ 26))); refine wpList_store_all rfl 26 (.tmp 14) (.tmp 103) rfl w20.heap.size 26 txZ (txC t8).toArray rfl rfl (heap_alloc_new w20 _) rfl (HZT0.out t8) (txC_one t8) ?_; intro w21 h5 h6 h7; have R21 := Lib.hid (blkR (vs := txC t8) h5); have L21 := Lib.hid h5.lt; have X21 : Hid (Below w20.heap.size w20 w21) := belowFresh h6; have V21 : Hid (Below ((w.alloc (.cells (txC t).toArray 26)).alloc (.cells (txC u).toArray 26)).heap.size ((w.alloc (.cells (txC t).toArray 26)).alloc (.cells (txC u).toArray 26)) w21) := nxTr V20.out X21.out; clear h5 h6 h7)
          | ((with_reducible show wpList _ _ _ (⟨some 109, _, _, _, _, _⟩ :: _) _ _); refine wpList_load_mid rfl 26 (.tmp 14) rfl w20.heap.size 0 rfl (txC t8) _ R21.out Tryd.underlying26 rfl (HZTl.out t8) ?_)
          | (go_at_call 9; (with_reducible show Calls _ _ #[.agg (txC t8).toArray] _ _); refine (bytes_yes w21 t8 (T8.out.later X21.out) (of_back HK.out P8.out).2).mono ?_; unfold BytesPost; rw [(of_back HK.out P8.out).1]; rintro e w22 ⟨⟨A22, c22, B22, rfl, hB0, ho⟩, hb⟩; have V22 : Hid (Below ((w.alloc (.cells (txC t).toArray 26)).alloc (.cells (txC u).toArray 26)).heap.size ((w.alloc (.cells (txC t).toArray 26)).alloc (.cells (txC u).toArray 26)) w22) := nxTr V21.out hb; have X22 : Hid (Below w21.heap.size w21 w22) := hb; have q1 := run_string_sees (P := Tryd.prog) (w := w22) (c := c22) (n := b.length) Tryd.underlying30 Tryd.underlying5 Tryd.underlying9 rfl (Sees.own ho); have q2 := run_string_sees (P := Tryd.prog) (w := w22) (c := c) (n := b.length) Tryd.underlying30 Tryd.underlying5 Tryd.underlying9 rfl (HS.out.later V22.out); clear hB0 ho hb)
          | ((with_reducible show wpList _ _ _ (⟨some 124, _, _, _, _, _⟩ :: _) _ _); refine wpList_load_want (by rfl) 26 (.tmp 14) rfl w20.heap.size 0 rfl (txC t8) _ (rngB R21.out X22.out L21.out) Tryd.underlying26 rfl (HZTl.out t8) ?_)
          | (go_at_call 13; refine (may_any w22 t8 (T8.out.later (nxTr X21.out X22.out))).mono ?_; rw [(of_back HK.out P8.out).2]; rintro e w23 ⟨rfl, hb⟩; have V23 : Hid (Below ((w.alloc (.cells (txC t).toArray 26)).alloc (.cells (txC u).toArray 26)).heap.size ((w.alloc (.cells (txC t).toArray 26)).alloc (.cells (txC u).toArray 26)) w23) := nxTr V22.out hb; clear hb))
        all_goals (first | go_ret | go_show)
        · exact ⟨rfl, nxTr Hb0.out V23.out⟩
        · exact ⟨rfl, nxTr Hb0.out V2.out⟩
      case false =>
        go_enter Tryd.func5, Tryd.ntmps5
        go_wp2_with (first
          | (go_at_call 8; refine (known_any ((w.alloc (.cells (txC t).toArray 26)).alloc (.cells (txC u).toArray 26))).mono ?_; rintro e w1 ⟨rfl, hb1⟩; have V1 : Hid (Below ((w.alloc (.cells (txC t).toArray 26)).alloc (.cells (txC u).toArray 26)).heap.size ((w.alloc (.cells (txC t).toArray 26)).alloc (.cells (txC u).toArray 26)) w1) := hb1; clear hb1)
          | ((with_reducible show wpList _ _ _ (⟨some 20, _, _, _, _, _⟩ :: _) _ _); refine wpList_load_mid rfl 26 (.tmp 3) rfl w.heap.size 0 rfl (txC t) _ (rngB HR.out V1.out Hl0.out) Tryd.underlying26 rfl (HZTl.out t) ?_)
          | ((with_reducible show wpList _ _ _ (⟨some 21, _, _, _, _, _⟩ :: _) _ _); refine wpList_load_mid rfl 26 (.tmp 4) rfl (w.heap.size + 1) 0 rfl (txC u) _ (rngB HQ.out V1.out Hl1.out) Tryd.underlying26 rfl (HZTl.out u) ?_)
          | ((with_reducible show wpList _ _ _ (⟨some 22, _, _, _, _, _⟩ :: _) _ _); refine wpList_build_tx2 rfl (.tmp 20) (.tmp 21) rfl t u rfl rfl ?_)
          | (go_at_call 7; refine (much2_any (w1.alloc (.cells (txC t ++ txC u).toArray 26)) w1.heap.size t u (HT.out.later (nxAl V1.out _)) (HU.out.later (nxAl V1.out _)) (heap_alloc_new w1 _)).mono ?_; rintro e w2 ⟨mz, rfl, hb2⟩; have V2 : Hid (Below ((w.alloc (.cells (txC t).toArray 26)).alloc (.cells (txC u).toArray 26)).heap.size ((w.alloc (.cells (txC t).toArray 26)).alloc (.cells (txC u).toArray 26)) w2) := nxTr (nxAl V1.out _) hb2; clear hb2; cases mz)
          | ((with_reducible show wpList _ _ _ (⟨some 30, _, _, _, _, _⟩ :: _) _ _); refine wpList_load_mid rfl 26 (.tmp 3) rfl w.heap.size 0 rfl (txC t) _ (rngB HR.out V2.out Hl0.out) Tryd.underlying26 rfl (HZTl.out t) ?_)
          | (go_at_call 9; (with_reducible show Calls _ _ #[.agg (txC t).toArray] _ _); refine (bytes_no w2 t (HT.out.later V2.out) (by rw [HCz.out]; decide)).mono ?_; rw [HCz.out]; rintro e w3 ⟨rfl, hb⟩; have V3 : Hid (Below ((w.alloc (.cells (txC t).toArray 26)).alloc (.cells (txC u).toArray 26)).heap.size ((w.alloc (.cells (txC t).toArray 26)).alloc (.cells (txC u).toArray 26)) w3) := nxTr V2.out hb; clear hb)
          | ((with_reducible show wpList _ _ _ (⟨some 35, _, _, _, _, _⟩ :: _) _ _); refine wpList_load_mid rfl 26 (.tmp 4) rfl (w.heap.size + 1) 0 rfl (txC u) _ (rngB HQ.out V3.out Hl1.out) Tryd.underlying26 rfl (HZTl.out u) ?_)
          | (go_at_call 9; (with_reducible show Calls _ _ #[.agg (txC u).toArray] _ _); refine (bytes_yes w3 u (HU.out.later V3.out) HCy.out).mono ?_; unfold BytesPost; rw [HG.out]; rintro e w4 ⟨⟨A4, c4, B4, rfl, hB0, ho⟩, hb⟩; have V4 : Hid (Below ((w.alloc (.cells (txC t).toArray 26)).alloc (.cells (txC u).toArray 26)).heap.size ((w.alloc (.cells (txC t).toArray 26)).alloc (.cells (txC u).toArray 26)) w4) := nxTr V3.out hb; have S4 := Lib.hid (Sees.own ho); have C4 := Lib.hid (own_cm ho); clear hB0 ho hb)
          | (go_at_call 11; refine (num_any _ _).mono ?_; rintro e wn ⟨rfl, hwn⟩; obtain rfl := hwn.symm)
          | (go_at_call 26; (with_reducible show Calls _ _ #[.slice A b.length c] _ _); refine (of_any w4 w4.heap.size A b c ((HS.out.later V4.out).more (Nat.le_trans Hb0.out.size V4.out.size)) HLb.out).mono ?_; unfold OfPost; rw [HK.out]; rintro e w20 ⟨t8, rfl, hp8, ht8, hb8⟩; have P8 := Lib.hid hp8; have T8 := Lib.hid ht8; have V20 : Hid (Below ((w.alloc (.cells (txC t).toArray 26)).alloc (.cells (txC u).toArray 26)).heap.size ((w.alloc (.cells (txC t).toArray 26)).alloc (.cells (txC u).toArray 26)) w20) := nxTr V4.out hb8; clear hp8 ht8 hb8)
          | ((with_reducible show wpList _ _ _ (⟨none, .store 26 (.tmp 14) _, _, _, _, _⟩ :: _) _ _); (show wpList _ _ _ _ _ (w20.alloc (.cells txZ 26))); refine wpList_store_all rfl 26 (.tmp 14) (.tmp 103) rfl w20.heap.size 26 txZ (txC t8).toArray rfl rfl (heap_alloc_new w20 _) rfl (HZT0.out t8) (txC_one t8) ?_; intro w21 h5 h6 h7; have R21 := Lib.hid (blkR (vs := txC t8) h5); have L21 := Lib.hid h5.lt; have X21 : Hid (Below w20.heap.size w20 w21) := belowFresh h6; have V21 : Hid (Below ((w.alloc (.cells (txC t).toArray 26)).alloc (.cells (txC u).toArray 26)).heap.size ((w.alloc (.cells (txC t).toArray 26)).alloc (.cells (txC u).toArray 26)) w21) := nxTr V20.out X21.out; clear h5 h6 h7))
        all_goals (first | go_ret | go_show)
        · exact ⟨rfl, nxTr Hb0.out V21.out⟩
        · exact ⟨rfl, nxTr Hb0.out V2.out⟩
    · cases k
      case true =>
        go_enter Tryd.func5, Tryd.ntmps5
        go_wp2_with (first
          | (go_at_call 8; refine (known_any ((w.alloc (.cells (txC t).toArray 26)).alloc (.cells (txC u).toArray 26))).mono ?_; rintro e w1 ⟨rfl, hb1⟩; have V1 : Hid (Below ((w.alloc (.cells (txC t).toArray 26)).alloc (.cells (txC u).toArray 26)).heap.size ((w.alloc (.cells (txC t).toArray 26)).alloc (.cells (txC u).toArray 26)) w1) := hb1; clear hb1)
          | ((with_reducible show wpList _ _ _ (⟨some 20, _, _, _, _, _⟩ :: _) _ _); refine wpList_load_mid rfl 26 (.tmp 3) rfl w.heap.size 0 rfl (txC t) _ (rngB HR.out V1.out Hl0.out) Tryd.underlying26 rfl (HZTl.out t) ?_)
          | ((with_reducible show wpList _ _ _ (⟨some 21, _, _, _, _, _⟩ :: _) _ _); refine wpList_load_mid rfl 26 (.tmp 4) rfl (w.heap.size + 1) 0 rfl (txC u) _ (rngB HQ.out V1.out Hl1.out) Tryd.underlying26 rfl (HZTl.out u) ?_)
          | ((with_reducible show wpList _ _ _ (⟨some 22, _, _, _, _, _⟩ :: _) _ _); refine wpList_build_tx2 rfl (.tmp 20) (.tmp 21) rfl t u rfl rfl ?_)
          | (go_at_call 7; refine (much2_any (w1.alloc (.cells (txC t ++ txC u).toArray 26)) w1.heap.size t u (HT.out.later (nxAl V1.out _)) (HU.out.later (nxAl V1.out _)) (heap_alloc_new w1 _)).mono ?_; rintro e w2 ⟨mz, rfl, hb2⟩; have V2 : Hid (Below ((w.alloc (.cells (txC t).toArray 26)).alloc (.cells (txC u).toArray 26)).heap.size ((w.alloc (.cells (txC t).toArray 26)).alloc (.cells (txC u).toArray 26)) w2) := nxTr (nxAl V1.out _) hb2; clear hb2; cases mz)
          | ((with_reducible show wpList _ _ _ (⟨some 30, _, _, _, _, _⟩ :: _) _ _); refine wpList_load_mid rfl 26 (.tmp 3) rfl w.heap.size 0 rfl (txC t) _ (rngB HR.out V2.out Hl0.out) Tryd.underlying26 rfl (HZTl.out t) ?_)
          | (go_at_call 9; (with_reducible show Calls _ _ #[.agg (txC t).toArray] _ _); refine (bytes_no w2 t (HT.out.later V2.out) (by rw [HCz.out]; decide)).mono ?_; rw [HCz.out]; rintro e w3 ⟨rfl, hb⟩; have V3 : Hid (Below ((w.alloc (.cells (txC t).toArray 26)).alloc (.cells (txC u).toArray 26)).heap.size ((w.alloc (.cells (txC t).toArray 26)).alloc (.cells (txC u).toArray 26)) w3) := nxTr V2.out hb; clear hb)
          | ((with_reducible show wpList _ _ _ (⟨some 35, _, _, _, _, _⟩ :: _) _ _); refine wpList_load_mid rfl 26 (.tmp 4) rfl (w.heap.size + 1) 0 rfl (txC u) _ (rngB HQ.out V3.out Hl1.out) Tryd.underlying26 rfl (HZTl.out u) ?_)
          | (go_at_call 9; (with_reducible show Calls _ _ #[.agg (txC u).toArray] _ _); refine (bytes_no w3 u (HU.out.later V3.out) (by rw [HCy.out]; decide)).mono ?_; rw [HCy.out]; rintro e w4 ⟨rfl, hb⟩; have V4 : Hid (Below ((w.alloc (.cells (txC t).toArray 26)).alloc (.cells (txC u).toArray 26)).heap.size ((w.alloc (.cells (txC t).toArray 26)).alloc (.cells (txC u).toArray 26)) w4) := nxTr V3.out hb; have V34 : Hid (Below w3.heap.size w3 w4) := hb; clear hb)
          | (go_at_call 11; refine (num_any _ _).mono ?_; rintro e wn ⟨rfl, hwn⟩; obtain rfl := hwn.symm)
          | (go_at_call 26; (with_reducible show Calls _ _ #[.slice A b.length c] _ _); refine (of_any w4 w4.heap.size A b c ((HS.out.later V4.out).more (Nat.le_trans Hb0.out.size V4.out.size)) HLb.out).mono ?_; unfold OfPost; rw [HK.out]; rintro e w20 ⟨t8, rfl, hp8, ht8, hb8⟩; have P8 := Lib.hid hp8; have T8 := Lib.hid ht8; have V20 : Hid (Below ((w.alloc (.cells (txC t).toArray 26)).alloc (.cells (txC u).toArray 26)).heap.size ((w.alloc (.cells (txC t).toArray 26)).alloc (.cells (txC u).toArray 26)) w20) := nxTr V4.out hb8; clear hp8 ht8 hb8)
          | ((with_reducible show wpList _ _ _ (⟨none, .store 26 (.tmp 14) _, _, _, _, _⟩ :: _) _ _); (show wpList _ _ _ _ _ (w20.alloc (.cells txZ 26))); refine wpList_store_all rfl 26 (.tmp 14) (.tmp 103) rfl w20.heap.size 26 txZ (txC t8).toArray rfl rfl (heap_alloc_new w20 _) rfl (HZT0.out t8) (txC_one t8) ?_; intro w21 h5 h6 h7; have R21 := Lib.hid (blkR (vs := txC t8) h5); have L21 := Lib.hid h5.lt; have X21 : Hid (Below w20.heap.size w20 w21) := belowFresh h6; have V21 : Hid (Below ((w.alloc (.cells (txC t).toArray 26)).alloc (.cells (txC u).toArray 26)).heap.size ((w.alloc (.cells (txC t).toArray 26)).alloc (.cells (txC u).toArray 26)) w21) := nxTr V20.out X21.out; clear h5 h6 h7)
          | ((with_reducible show wpList _ _ _ (⟨some 109, _, _, _, _, _⟩ :: _) _ _); refine wpList_load_mid rfl 26 (.tmp 14) rfl w20.heap.size 0 rfl (txC t8) _ R21.out Tryd.underlying26 rfl (HZTl.out t8) ?_)
          | (go_at_call 9; (with_reducible show Calls _ _ #[.agg (txC t8).toArray] _ _); refine (bytes_yes w21 t8 (T8.out.later X21.out) (of_back HK.out P8.out).2).mono ?_; unfold BytesPost; rw [(of_back HK.out P8.out).1]; rintro e w22 ⟨⟨A22, c22, B22, rfl, hB0, ho⟩, hb⟩; have V22 : Hid (Below ((w.alloc (.cells (txC t).toArray 26)).alloc (.cells (txC u).toArray 26)).heap.size ((w.alloc (.cells (txC t).toArray 26)).alloc (.cells (txC u).toArray 26)) w22) := nxTr V21.out hb; have X22 : Hid (Below w21.heap.size w21 w22) := hb; have q1 := run_string_sees (P := Tryd.prog) (w := w22) (c := c22) (n := b.length) Tryd.underlying30 Tryd.underlying5 Tryd.underlying9 rfl (Sees.own ho); have q2 := run_string_sees (P := Tryd.prog) (w := w22) (c := c) (n := b.length) Tryd.underlying30 Tryd.underlying5 Tryd.underlying9 rfl (HS.out.later V22.out); clear hB0 ho hb)
          | ((with_reducible show wpList _ _ _ (⟨some 124, _, _, _, _, _⟩ :: _) _ _); refine wpList_load_want (by rfl) 26 (.tmp 14) rfl w20.heap.size 0 rfl (txC t8) _ (rngB R21.out X22.out L21.out) Tryd.underlying26 rfl (HZTl.out t8) ?_)
          | (go_at_call 13; refine (may_any w22 t8 (T8.out.later (nxTr X21.out X22.out))).mono ?_; rw [(of_back HK.out P8.out).2]; rintro e w23 ⟨rfl, hb⟩; have V23 : Hid (Below ((w.alloc (.cells (txC t).toArray 26)).alloc (.cells (txC u).toArray 26)).heap.size ((w.alloc (.cells (txC t).toArray 26)).alloc (.cells (txC u).toArray 26)) w23) := nxTr V22.out hb; clear hb))
        all_goals (first | go_ret | go_show)
        · exact ⟨rfl, nxTr Hb0.out V23.out⟩
        · exact ⟨rfl, nxTr Hb0.out V2.out⟩
      case false =>
        go_enter Tryd.func5, Tryd.ntmps5
        go_wp2_with (first
          | (go_at_call 8; refine (known_any ((w.alloc (.cells (txC t).toArray 26)).alloc (.cells (txC u).toArray 26))).mono ?_; rintro e w1 ⟨rfl, hb1⟩; have V1 : Hid (Below ((w.alloc (.cells (txC t).toArray 26)).alloc (.cells (txC u).toArray 26)).heap.size ((w.alloc (.cells (txC t).toArray 26)).alloc (.cells (txC u).toArray 26)) w1) := hb1; clear hb1)
          | ((with_reducible show wpList _ _ _ (⟨some 20, _, _, _, _, _⟩ :: _) _ _); refine wpList_load_mid rfl 26 (.tmp 3) rfl w.heap.size 0 rfl (txC t) _ (rngB HR.out V1.out Hl0.out) Tryd.underlying26 rfl (HZTl.out t) ?_)
          | ((with_reducible show wpList _ _ _ (⟨some 21, _, _, _, _, _⟩ :: _) _ _); refine wpList_load_mid rfl 26 (.tmp 4) rfl (w.heap.size + 1) 0 rfl (txC u) _ (rngB HQ.out V1.out Hl1.out) Tryd.underlying26 rfl (HZTl.out u) ?_)
          | ((with_reducible show wpList _ _ _ (⟨some 22, _, _, _, _, _⟩ :: _) _ _); refine wpList_build_tx2 rfl (.tmp 20) (.tmp 21) rfl t u rfl rfl ?_)
          | (go_at_call 7; refine (much2_any (w1.alloc (.cells (txC t ++ txC u).toArray 26)) w1.heap.size t u (HT.out.later (nxAl V1.out _)) (HU.out.later (nxAl V1.out _)) (heap_alloc_new w1 _)).mono ?_; rintro e w2 ⟨mz, rfl, hb2⟩; have V2 : Hid (Below ((w.alloc (.cells (txC t).toArray 26)).alloc (.cells (txC u).toArray 26)).heap.size ((w.alloc (.cells (txC t).toArray 26)).alloc (.cells (txC u).toArray 26)) w2) := nxTr (nxAl V1.out _) hb2; clear hb2; cases mz)
          | ((with_reducible show wpList _ _ _ (⟨some 30, _, _, _, _, _⟩ :: _) _ _); refine wpList_load_mid rfl 26 (.tmp 3) rfl w.heap.size 0 rfl (txC t) _ (rngB HR.out V2.out Hl0.out) Tryd.underlying26 rfl (HZTl.out t) ?_)
          | (go_at_call 9; (with_reducible show Calls _ _ #[.agg (txC t).toArray] _ _); refine (bytes_no w2 t (HT.out.later V2.out) (by rw [HCz.out]; decide)).mono ?_; rw [HCz.out]; rintro e w3 ⟨rfl, hb⟩; have V3 : Hid (Below ((w.alloc (.cells (txC t).toArray 26)).alloc (.cells (txC u).toArray 26)).heap.size ((w.alloc (.cells (txC t).toArray 26)).alloc (.cells (txC u).toArray 26)) w3) := nxTr V2.out hb; clear hb)
          | ((with_reducible show wpList _ _ _ (⟨some 35, _, _, _, _, _⟩ :: _) _ _); refine wpList_load_mid rfl 26 (.tmp 4) rfl (w.heap.size + 1) 0 rfl (txC u) _ (rngB HQ.out V3.out Hl1.out) Tryd.underlying26 rfl (HZTl.out u) ?_)
          | (go_at_call 9; (with_reducible show Calls _ _ #[.agg (txC u).toArray] _ _); refine (bytes_no w3 u (HU.out.later V3.out) (by rw [HCy.out]; decide)).mono ?_; rw [HCy.out]; rintro e w4 ⟨rfl, hb⟩; have V4 : Hid (Below ((w.alloc (.cells (txC t).toArray 26)).alloc (.cells (txC u).toArray 26)).heap.size ((w.alloc (.cells (txC t).toArray 26)).alloc (.cells (txC u).toArray 26)) w4) := nxTr V3.out hb; have V34 : Hid (Below w3.heap.size w3 w4) := hb; clear hb)
          | (go_at_call 11; refine (num_any _ _).mono ?_; rintro e wn ⟨rfl, hwn⟩; obtain rfl := hwn.symm)
          | (go_at_call 26; (with_reducible show Calls _ _ #[.slice A b.length c] _ _); refine (of_any w4 w4.heap.size A b c ((HS.out.later V4.out).more (Nat.le_trans Hb0.out.size V4.out.size)) HLb.out).mono ?_; unfold OfPost; rw [HK.out]; rintro e w20 ⟨t8, rfl, hp8, ht8, hb8⟩; have P8 := Lib.hid hp8; have T8 := Lib.hid ht8; have V20 : Hid (Below ((w.alloc (.cells (txC t).toArray 26)).alloc (.cells (txC u).toArray 26)).heap.size ((w.alloc (.cells (txC t).toArray 26)).alloc (.cells (txC u).toArray 26)) w20) := nxTr V4.out hb8; clear hp8 ht8 hb8)
          | ((with_reducible show wpList _ _ _ (⟨none, .store 26 (.tmp 14) _, _, _, _, _⟩ :: _) _ _); (show wpList _ _ _ _ _ (w20.alloc (.cells txZ 26))); refine wpList_store_all rfl 26 (.tmp 14) (.tmp 103) rfl w20.heap.size 26 txZ (txC t8).toArray rfl rfl (heap_alloc_new w20 _) rfl (HZT0.out t8) (txC_one t8) ?_; intro w21 h5 h6 h7; have R21 := Lib.hid (blkR (vs := txC t8) h5); have L21 := Lib.hid h5.lt; have X21 : Hid (Below w20.heap.size w20 w21) := belowFresh h6; have V21 : Hid (Below ((w.alloc (.cells (txC t).toArray 26)).alloc (.cells (txC u).toArray 26)).heap.size ((w.alloc (.cells (txC t).toArray 26)).alloc (.cells (txC u).toArray 26)) w21) := nxTr V20.out X21.out; clear h5 h6 h7))
        all_goals (first | go_ret | go_show)
        · exact ⟨rfl, nxTr Hb0.out V21.out⟩
        · exact ⟨rfl, nxTr Hb0.out V2.out⟩
    · cases k
      case true =>
        go_enter Tryd.func5, Tryd.ntmps5
        go_wp2_with (first
          | (go_at_call 8; refine (known_any ((w.alloc (.cells (txC t).toArray 26)).alloc (.cells (txC u).toArray 26))).mono ?_; rintro e w1 ⟨rfl, hb1⟩; have V1 : Hid (Below ((w.alloc (.cells (txC t).toArray 26)).alloc (.cells (txC u).toArray 26)).heap.size ((w.alloc (.cells (txC t).toArray 26)).alloc (.cells (txC u).toArray 26)) w1) := hb1; clear hb1)
          | ((with_reducible show wpList _ _ _ (⟨some 20, _, _, _, _, _⟩ :: _) _ _); refine wpList_load_mid rfl 26 (.tmp 3) rfl w.heap.size 0 rfl (txC t) _ (rngB HR.out V1.out Hl0.out) Tryd.underlying26 rfl (HZTl.out t) ?_)
          | ((with_reducible show wpList _ _ _ (⟨some 21, _, _, _, _, _⟩ :: _) _ _); refine wpList_load_mid rfl 26 (.tmp 4) rfl (w.heap.size + 1) 0 rfl (txC u) _ (rngB HQ.out V1.out Hl1.out) Tryd.underlying26 rfl (HZTl.out u) ?_)
          | ((with_reducible show wpList _ _ _ (⟨some 22, _, _, _, _, _⟩ :: _) _ _); refine wpList_build_tx2 rfl (.tmp 20) (.tmp 21) rfl t u rfl rfl ?_)
          | (go_at_call 7; refine (much2_any (w1.alloc (.cells (txC t ++ txC u).toArray 26)) w1.heap.size t u (HT.out.later (nxAl V1.out _)) (HU.out.later (nxAl V1.out _)) (heap_alloc_new w1 _)).mono ?_; rintro e w2 ⟨mz, rfl, hb2⟩; have V2 : Hid (Below ((w.alloc (.cells (txC t).toArray 26)).alloc (.cells (txC u).toArray 26)).heap.size ((w.alloc (.cells (txC t).toArray 26)).alloc (.cells (txC u).toArray 26)) w2) := nxTr (nxAl V1.out _) hb2; clear hb2; cases mz)
          | ((with_reducible show wpList _ _ _ (⟨some 30, _, _, _, _, _⟩ :: _) _ _); refine wpList_load_mid rfl 26 (.tmp 3) rfl w.heap.size 0 rfl (txC t) _ (rngB HR.out V2.out Hl0.out) Tryd.underlying26 rfl (HZTl.out t) ?_)
          | (go_at_call 9; (with_reducible show Calls _ _ #[.agg (txC t).toArray] _ _); refine (bytes_no w2 t (HT.out.later V2.out) (by rw [HCz.out]; decide)).mono ?_; rw [HCz.out]; rintro e w3 ⟨rfl, hb⟩; have V3 : Hid (Below ((w.alloc (.cells (txC t).toArray 26)).alloc (.cells (txC u).toArray 26)).heap.size ((w.alloc (.cells (txC t).toArray 26)).alloc (.cells (txC u).toArray 26)) w3) := nxTr V2.out hb; clear hb)
          | ((with_reducible show wpList _ _ _ (⟨some 35, _, _, _, _, _⟩ :: _) _ _); refine wpList_load_mid rfl 26 (.tmp 4) rfl (w.heap.size + 1) 0 rfl (txC u) _ (rngB HQ.out V3.out Hl1.out) Tryd.underlying26 rfl (HZTl.out u) ?_)
          | (go_at_call 9; (with_reducible show Calls _ _ #[.agg (txC u).toArray] _ _); refine (bytes_no w3 u (HU.out.later V3.out) (by rw [HCy.out]; decide)).mono ?_; rw [HCy.out]; rintro e w4 ⟨rfl, hb⟩; have V4 : Hid (Below ((w.alloc (.cells (txC t).toArray 26)).alloc (.cells (txC u).toArray 26)).heap.size ((w.alloc (.cells (txC t).toArray 26)).alloc (.cells (txC u).toArray 26)) w4) := nxTr V3.out hb; have V34 : Hid (Below w3.heap.size w3 w4) := hb; clear hb)
          | (go_at_call 11; refine (num_any _ _).mono ?_; rintro e wn ⟨rfl, hwn⟩; obtain rfl := hwn.symm)
          | (go_at_call 26; (with_reducible show Calls _ _ #[.slice A b.length c] _ _); refine (of_any w4 w4.heap.size A b c ((HS.out.later V4.out).more (Nat.le_trans Hb0.out.size V4.out.size)) HLb.out).mono ?_; unfold OfPost; rw [HK.out]; rintro e w20 ⟨t8, rfl, hp8, ht8, hb8⟩; have P8 := Lib.hid hp8; have T8 := Lib.hid ht8; have V20 : Hid (Below ((w.alloc (.cells (txC t).toArray 26)).alloc (.cells (txC u).toArray 26)).heap.size ((w.alloc (.cells (txC t).toArray 26)).alloc (.cells (txC u).toArray 26)) w20) := nxTr V4.out hb8; clear hp8 ht8 hb8)
          | ((with_reducible show wpList _ _ _ (⟨none, .store 26 (.tmp 14) _, _, _, _, _⟩ :: _) _ _); (show wpList _ _ _ _ _ (w20.alloc (.cells txZ 26))); refine wpList_store_all rfl 26 (.tmp 14) (.tmp 103) rfl w20.heap.size 26 txZ (txC t8).toArray rfl rfl (heap_alloc_new w20 _) rfl (HZT0.out t8) (txC_one t8) ?_; intro w21 h5 h6 h7; have R21 := Lib.hid (blkR (vs := txC t8) h5); have L21 := Lib.hid h5.lt; have X21 : Hid (Below w20.heap.size w20 w21) := belowFresh h6; have V21 : Hid (Below ((w.alloc (.cells (txC t).toArray 26)).alloc (.cells (txC u).toArray 26)).heap.size ((w.alloc (.cells (txC t).toArray 26)).alloc (.cells (txC u).toArray 26)) w21) := nxTr V20.out X21.out; clear h5 h6 h7)
          | ((with_reducible show wpList _ _ _ (⟨some 109, _, _, _, _, _⟩ :: _) _ _); refine wpList_load_mid rfl 26 (.tmp 14) rfl w20.heap.size 0 rfl (txC t8) _ R21.out Tryd.underlying26 rfl (HZTl.out t8) ?_)
          | (go_at_call 9; (with_reducible show Calls _ _ #[.agg (txC t8).toArray] _ _); refine (bytes_yes w21 t8 (T8.out.later X21.out) (of_back HK.out P8.out).2).mono ?_; unfold BytesPost; rw [(of_back HK.out P8.out).1]; rintro e w22 ⟨⟨A22, c22, B22, rfl, hB0, ho⟩, hb⟩; have V22 : Hid (Below ((w.alloc (.cells (txC t).toArray 26)).alloc (.cells (txC u).toArray 26)).heap.size ((w.alloc (.cells (txC t).toArray 26)).alloc (.cells (txC u).toArray 26)) w22) := nxTr V21.out hb; have X22 : Hid (Below w21.heap.size w21 w22) := hb; have q1 := run_string_sees (P := Tryd.prog) (w := w22) (c := c22) (n := b.length) Tryd.underlying30 Tryd.underlying5 Tryd.underlying9 rfl (Sees.own ho); have q2 := run_string_sees (P := Tryd.prog) (w := w22) (c := c) (n := b.length) Tryd.underlying30 Tryd.underlying5 Tryd.underlying9 rfl (HS.out.later V22.out); clear hB0 ho hb)
          | ((with_reducible show wpList _ _ _ (⟨some 124, _, _, _, _, _⟩ :: _) _ _); refine wpList_load_want (by rfl) 26 (.tmp 14) rfl w20.heap.size 0 rfl (txC t8) _ (rngB R21.out X22.out L21.out) Tryd.underlying26 rfl (HZTl.out t8) ?_)
          | (go_at_call 13; refine (may_any w22 t8 (T8.out.later (nxTr X21.out X22.out))).mono ?_; rw [(of_back HK.out P8.out).2]; rintro e w23 ⟨rfl, hb⟩; have V23 : Hid (Below ((w.alloc (.cells (txC t).toArray 26)).alloc (.cells (txC u).toArray 26)).heap.size ((w.alloc (.cells (txC t).toArray 26)).alloc (.cells (txC u).toArray 26)) w23) := nxTr V22.out hb; clear hb))
        all_goals (first | go_ret | go_show)
        · exact ⟨rfl, nxTr Hb0.out V23.out⟩
        · exact ⟨rfl, nxTr Hb0.out V2.out⟩
      case false =>
        go_enter Tryd.func5, Tryd.ntmps5
        go_wp2_with (first
          | (go_at_call 8; refine (known_any ((w.alloc (.cells (txC t).toArray 26)).alloc (.cells (txC u).toArray 26))).mono ?_; rintro e w1 ⟨rfl, hb1⟩; have V1 : Hid (Below ((w.alloc (.cells (txC t).toArray 26)).alloc (.cells (txC u).toArray 26)).heap.size ((w.alloc (.cells (txC t).toArray 26)).alloc (.cells (txC u).toArray 26)) w1) := hb1; clear hb1)
          | ((with_reducible show wpList _ _ _ (⟨some 20, _, _, _, _, _⟩ :: _) _ _); refine wpList_load_mid rfl 26 (.tmp 3) rfl w.heap.size 0 rfl (txC t) _ (rngB HR.out V1.out Hl0.out) Tryd.underlying26 rfl (HZTl.out t) ?_)
          | ((with_reducible show wpList _ _ _ (⟨some 21, _, _, _, _, _⟩ :: _) _ _); refine wpList_load_mid rfl 26 (.tmp 4) rfl (w.heap.size + 1) 0 rfl (txC u) _ (rngB HQ.out V1.out Hl1.out) Tryd.underlying26 rfl (HZTl.out u) ?_)
          | ((with_reducible show wpList _ _ _ (⟨some 22, _, _, _, _, _⟩ :: _) _ _); refine wpList_build_tx2 rfl (.tmp 20) (.tmp 21) rfl t u rfl rfl ?_)
          | (go_at_call 7; refine (much2_any (w1.alloc (.cells (txC t ++ txC u).toArray 26)) w1.heap.size t u (HT.out.later (nxAl V1.out _)) (HU.out.later (nxAl V1.out _)) (heap_alloc_new w1 _)).mono ?_; rintro e w2 ⟨mz, rfl, hb2⟩; have V2 : Hid (Below ((w.alloc (.cells (txC t).toArray 26)).alloc (.cells (txC u).toArray 26)).heap.size ((w.alloc (.cells (txC t).toArray 26)).alloc (.cells (txC u).toArray 26)) w2) := nxTr (nxAl V1.out _) hb2; clear hb2; cases mz)
          | ((with_reducible show wpList _ _ _ (⟨some 30, _, _, _, _, _⟩ :: _) _ _); refine wpList_load_mid rfl 26 (.tmp 3) rfl w.heap.size 0 rfl (txC t) _ (rngB HR.out V2.out Hl0.out) Tryd.underlying26 rfl (HZTl.out t) ?_)
          | (go_at_call 9; (with_reducible show Calls _ _ #[.agg (txC t).toArray] _ _); refine (bytes_no w2 t (HT.out.later V2.out) (by rw [HCz.out]; decide)).mono ?_; rw [HCz.out]; rintro e w3 ⟨rfl, hb⟩; have V3 : Hid (Below ((w.alloc (.cells (txC t).toArray 26)).alloc (.cells (txC u).toArray 26)).heap.size ((w.alloc (.cells (txC t).toArray 26)).alloc (.cells (txC u).toArray 26)) w3) := nxTr V2.out hb; clear hb)
          | ((with_reducible show wpList _ _ _ (⟨some 35, _, _, _, _, _⟩ :: _) _ _); refine wpList_load_mid rfl 26 (.tmp 4) rfl (w.heap.size + 1) 0 rfl (txC u) _ (rngB HQ.out V3.out Hl1.out) Tryd.underlying26 rfl (HZTl.out u) ?_)
          | (go_at_call 9; (with_reducible show Calls _ _ #[.agg (txC u).toArray] _ _); refine (bytes_no w3 u (HU.out.later V3.out) (by rw [HCy.out]; decide)).mono ?_; rw [HCy.out]; rintro e w4 ⟨rfl, hb⟩; have V4 : Hid (Below ((w.alloc (.cells (txC t).toArray 26)).alloc (.cells (txC u).toArray 26)).heap.size ((w.alloc (.cells (txC t).toArray 26)).alloc (.cells (txC u).toArray 26)) w4) := nxTr V3.out hb; have V34 : Hid (Below w3.heap.size w3 w4) := hb; clear hb)
          | (go_at_call 11; refine (num_any _ _).mono ?_; rintro e wn ⟨rfl, hwn⟩; obtain rfl := hwn.symm)
          | (go_at_call 26; (with_reducible show Calls _ _ #[.slice A b.length c] _ _); refine (of_any w4 w4.heap.size A b c ((HS.out.later V4.out).more (Nat.le_trans Hb0.out.size V4.out.size)) HLb.out).mono ?_; unfold OfPost; rw [HK.out]; rintro e w20 ⟨t8, rfl, hp8, ht8, hb8⟩; have P8 := Lib.hid hp8; have T8 := Lib.hid ht8; have V20 : Hid (Below ((w.alloc (.cells (txC t).toArray 26)).alloc (.cells (txC u).toArray 26)).heap.size ((w.alloc (.cells (txC t).toArray 26)).alloc (.cells (txC u).toArray 26)) w20) := nxTr V4.out hb8; clear hp8 ht8 hb8)
          | ((with_reducible show wpList _ _ _ (⟨none, .store 26 (.tmp 14) _, _, _, _, _⟩ :: _) _ _); (show wpList _ _ _ _ _ (w20.alloc (.cells txZ 26))); refine wpList_store_all rfl 26 (.tmp 14) (.tmp 103) rfl w20.heap.size 26 txZ (txC t8).toArray rfl rfl (heap_alloc_new w20 _) rfl (HZT0.out t8) (txC_one t8) ?_; intro w21 h5 h6 h7; have R21 := Lib.hid (blkR (vs := txC t8) h5); have L21 := Lib.hid h5.lt; have X21 : Hid (Below w20.heap.size w20 w21) := belowFresh h6; have V21 : Hid (Below ((w.alloc (.cells (txC t).toArray 26)).alloc (.cells (txC u).toArray 26)).heap.size ((w.alloc (.cells (txC t).toArray 26)).alloc (.cells (txC u).toArray 26)) w21) := nxTr V20.out X21.out; clear h5 h6 h7))
        all_goals (first | go_ret | go_show)
        · exact ⟨rfl, nxTr Hb0.out V21.out⟩
        · exact ⟨rfl, nxTr Hb0.out V2.out⟩
end Go.Proofs.YtckomfffilonlaaDoor
