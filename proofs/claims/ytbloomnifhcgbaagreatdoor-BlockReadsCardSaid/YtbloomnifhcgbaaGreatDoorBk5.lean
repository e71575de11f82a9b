/-
  block, the document's: HeaderOf.
-/
import Derived.Test.YtbloomnifhcgbaaGreatDoorBk2
import Derived.Test.YtbloomnifhcgbaaGreatDoorRg
namespace Go.Proofs.YtbloomnifhcgbaaGreatDoor
open Go.RowKit

/-- What the document's HeaderOf answers. -/
def ROfHPost (w : World) (b : List UInt8) (e : Ending) (w' : World) : Prop :=
  ∃ h : HdR, e = .returned (.tuple #[.agg (hdC h).toArray, .bool (ofHB b)]) ∧ h.p = ofHV b ∧ HdOk w' h ∧ Below w.heap.size w w'

/-- .. and it lies in new memory. -/
def ROfHPostK (w : World) (b : List UInt8) (e : Ending) (w' : World) : Prop :=
  ∃ h : HdR, e = .returned (.tuple #[.agg (hdC h).toArray, .bool (ofHB b)]) ∧ h.p = ofHV b ∧ HdOk w' h ∧ Below w.heap.size w w' ∧ Kept (fun j => j < w.heap.size) w' (fun W => HdOk W h)

set_option maxHeartbeats 8000000 in
set_option maxRecDepth 100000 in
theorem rofh_anyK (w : World) (A : Option Addr) (b : List UInt8) (c : Nat) (hS : Sees w w.heap.size A b) (hbc : b.length ≤ c) (hcm : c ≤ maxLen) (hlen : b.length ≤ 1099511627776) :
    Calls Tryz.prog 21 #[.slice A b.length c] w (ROfHPostK w b) := by
  have hz1 : (w.alloc (.cells hdZ 29)).heap.size = w.heap.size + 1 := by simp
  have hz2 : ((w.alloc (.cells hdZ 29)).alloc (.cells #[.slice A b.length c, .bool false] 59)).heap.size = w.heap.size + 2 := by simp
  have HBt0 : Hid (Blk (((w.alloc (.cells hdZ 29)).alloc (.cells #[.slice A b.length c, .bool false] 59)).alloc (.cells hdZ 29)) (w.heap.size + 2) 29 hdZ) := blk_new hz2
  have HBz0 : Hid (Blk (((w.alloc (.cells hdZ 29)).alloc (.cells #[.slice A b.length c, .bool false] 59)).alloc (.cells hdZ 29)) w.heap.size 29 hdZ) := (((blk_new rfl : Blk (w.alloc (.cells hdZ 29)) w.heap.size 29 hdZ).alloc _).alloc _)
  have hR0 : Rf (((w.alloc (.cells hdZ 29)).alloc (.cells #[.slice A b.length c, .bool false] 59)).alloc (.cells hdZ 29)) (w.alloc (.cells hdZ 29)).heap.size (tdOf b A) (some b) := (Rf.made hS hbc hcm (nxAl (nxRf w) _)).below (nxAl (nxRf _) _)
  rw [hz1] at hR0
  have Hb0 : Hid (Below w.heap.size w (((w.alloc (.cells hdZ 29)).alloc (.cells #[.slice A b.length c, .bool false] 59)).alloc (.cells hdZ 29))) := nxAl (nxAl (nxAl (nxRf w) _) _) _
  have HDd : Hid (∀ j, tdOf b A = some j → j < w.heap.size) := tdOf_lt hS
  obtain ⟨d, hd⟩ : ∃ d, tdOf b A = d := ⟨_, rfl⟩
  obtain ⟨g, hg⟩ : ∃ g, w.heap.size + 1 = g := ⟨_, rfl⟩
  rw [hd] at HDd hR0
  rw [hg] at hR0
  have HGg : Hid (g = w.heap.size + 1) := hg.symm
  have HGe : Hid (w.heap.size + 1 = g) := hg
  have HR0 := Lib.hid hR0
  obtain ⟨c1, hc1⟩ : ∃ n, ofLe (cutPiece (some b) 2 true) = n := ⟨_, rfl⟩
  obtain ⟨s1, hs1⟩ : ∃ s, cutRest (some b) 2 true = s := ⟨_, rfl⟩
  obtain ⟨n1, hn1⟩ : ∃ n, ofHN (some b) = n := ⟨_, rfl⟩
  have hm1 : n1 = min c1 256 := by rw [← hn1, ofHN, hc1]
  have hq1 : n1 ≤ 256 := by omega
  have hc16 : c1 < 65536 := by rw [← hc1]; exact ofLe_lt2 _
  have hwc1 : IntKind.i64.wrap (c1 : Int) = (c1 : Int) := by rw [IntKind.wrap_i64]; omega
  have HC1 := Lib.hid hc1
  have HS1 := Lib.hid hs1
  have HN1 := Lib.hid hn1
  have hm2 : may 2 = true := rfl
  have HM2 := Lib.hid hm2
  have HZ0 : Hid ((Tryz.prog.info? 29).map (·.size) = some hdZ.size) := hdSz' noHP_fit
  unfold ROfHPostK
  clear hS hbc hcm hlen hz1 hz2 hR0 hd hg hc1 hs1 hn1 hm2
  go_enter Tryz.func21, Tryz.ntmps21
  go_wp2_with (first
    | ((with_reducible show wpList _ _ _ (⟨none, .store 29 _ _, _, _, _, _⟩ :: _) _ _); refine wpList_store_all rfl 29 (.tmp 5) (.tmp 11) rfl (w.heap.size + 2) 29 hdZ hdZ rfl rfl HBt0.out rfl HZ0.out (hdC_one noHd) ?_; intro w4 h5 h6 h7; have HBt4 := Lib.hid h5; have R4 := Lib.hid (HR0.out.keeps h6 (by have := HGg.out; omega) (fun j e h => by have := HDd.out j e; omega)); have HBz4 := Lib.hid (HBz0.out.keeps h6 (by omega)); have V4 : Hid (Below w.heap.size w w4) := Hb0.out.trans (h6.below Hb0.out.size (fun j hj => by omega)); clear h5 h6 h7)
    | (go_at_call 23; rw [show w.heap.size + 1 + 1 = w.heap.size + 2 from rfl, HGe.out]; refine (rfnumber_s _ g d (some b) R4.out 2).mono ?_; unfold RfNum; rw [HM2.out, HS1.out, HC1.out]; rintro e w5 ⟨rfl, hr5, hk5, hz5⟩; have R5 := Lib.hid hr5; have K5 := Lib.hid hk5; clear hr5 hk5 hz5))
  have V2 : Hid (Below w.heap.size w w5) := V4.out.trans (K5.out.below V4.out.size (fun j hj => by have := HGg.out; omega))
  have HBt2 : Hid (Blk w5 (w.heap.size + 2) 29 hdZ) := HBt4.out.keeps K5.out (by have := HGg.out; omega)
  have HBz2 : Hid (Blk w5 w.heap.size 29 hdZ) := HBz4.out.keeps K5.out (by have := HGg.out; omega)
  clear HC1 HR0 HBt0 HBz0 K5 hwc1 HBt4 R4 HBz4 V4
  obtain ⟨i0, hi0, hz0, hz1, hz2⟩ := infoP Tryz.hinfo
  go_loopw [7] (fun iv wr => ∃ (k : Nat) (l : List (List UInt8)) (A1 : Option Addr) (e1 : Nat) (s : Option (List UInt8)), k ≤ n1 ∧ iv = .int .i64 k ∧ Hid (l.length = k) ∧ Hid (readHs k s1 = (l, s)) ∧ Hid (Blk wr (w.heap.size + 2) 29 (hdT (.slice A1 k e1) zero32 zero32 zero32 zero32 0)) ∧ Hid (wr.ownsRow (w.heap.size + 3) 26 32 (.slice A1 k e1) k (Hs l)) ∧ Hid (∀ j, A1.map (·.block) = some j → j ≠ g ∧ d ≠ some j) ∧ Hid (Rf wr g d s) ∧ Hid (Blk wr w.heap.size 29 hdZ) ∧ Hid (Below w.heap.size w wr)) (fun iv _ => n1 - (intOf iv).toNat)
  case atStart => exact ⟨0, [], none, 0, s1, by omega, rfl, rfl, rfl, HBt2.out, nil_own _ _ _ _, (fun j hj => by cases hj), R5.out, HBz2.out, V2.out⟩
  case round =>
    obtain ⟨k, l, A1, e1, s, hk, rfl, Hl, Hrd, HB, HO, HNe, HR, HBz, Hb⟩ := hrel
    clear HBt2 HBz2 V2 R5
    have HA32 : Hid (All32 l) := by have h := readHs_ok k s1; rw [Hrd.out] at h; exact h
    by_cases hlt : k < n1
    · have hin : (k : Int) < (c1 : Int) := by omega
      have hin2 : (k : Int) ≤ 255 := by omega
      have hgl := HR.out.lt
      have HDl : Hid (∀ j, d = some j → j < wr.heap.size) := fun j e => (HR.out.1 j e).2
      have hbl := HB.out.lt
      have Hol : Hid (∀ j, A1.map (·.block) = some j → w.heap.size + 3 ≤ j ∧ j < wr.heap.size) := fun j hj => own_lt HO.out j (by rw [own_blk]; exact hj)
      have c0 : Hid (wr.cell? ⟨w.heap.size + 2, 0, none⟩ = some (.slice A1 k e1)) := HB.out.cell 0
      go_wp2_with fail
      refine wp_region_K (fun W => W.cell? ⟨w.heap.size + 2, 0, none⟩ = some (.slice A1 k e1)) 5 (by kernel_rfl) c0.out (fun hSn => ?_)
      refine wpAnyK_pure (i := 0) (oi := ⟨_, _, _, _, _, _⟩) (v := ?_) rfl (by kernel_rfl) (by kernel_rfl) (by kernel_rfl) rfl (fun _ _ _ h => h) (Or.inl ⟨by rfl, ?_⟩) hSn ?_
      rotate_left 1
      · intro W hSw
        go_simp
        try with_reducible rfl
      replace hSn := (KT.set (i := 0) (by decide)).2 hSn
      try simp only [Act.put, List.setIfInBounds_toArray, List.set_cons_zero, List.set_cons_succ]
      refine wpAnyK_take (i := 1) (oi := ⟨_, _, _, _, _, _⟩) (v := ?_) rfl (by kernel_rfl) (by kernel_rfl) (by kernel_rfl) rfl (by kernel_rfl) (by kernel_rfl) (fun _ _ _ h => h) (Or.inl ⟨by rfl, ?_⟩) hSn ?_
      rotate_left 1
      · intro W hSw
        try dsimp only at hSw
        go_simp
        try with_reducible rfl
      replace hSn := (KT.set (i := 1) (by decide)).2 hSn
      try simp only [Act.put, List.setIfInBounds_toArray, List.set_cons_zero, List.set_cons_succ]
      refine wpAnyK_pure (i := 2) (oi := ⟨_, _, _, _, _, _⟩) (v := ?_) rfl (by kernel_rfl) (by kernel_rfl) (by kernel_rfl) rfl (fun _ _ _ h => h) (Or.inl ⟨by rfl, ?_⟩) hSn ?_
      rotate_left 1
      · intro W hSw
        go_simp
        try with_reducible rfl
      replace hSn := (KT.set (i := 2) (by decide)).2 hSn
      try simp only [Act.put, List.setIfInBounds_toArray, List.set_cons_zero, List.set_cons_succ]
      clear hSn
      refine wpAnyK_ready (rs := [3]) (by kernel_rfl) (by simp) ?_
      refine AllReadyK.cons rfl (fun K hK => ?_) AllReadyK.nil
      go_simp
      go_at_call 50
      refine (rfhash_s wr.drew g d s (HR.out.keeps ((Keeps.refl (fun _ => False) wr).drew) (fun h => h) (fun _ _ h => h))).mono ?_
      rintro e w4 ⟨rfl, hr4, hk4⟩
      have R4 := Lib.hid hr4
      have K4 : Hid (Keeps (· = g) wr w4) := ⟨hk4.os, hk4.tape, hk4.output, hk4.size, hk4.block⟩
      clear hr4 hk4
      have cc4 : Hid (w4.cell? ⟨w.heap.size + 2, 0, none⟩ = some (.slice A1 k e1)) := (K4.out.cell (p := ⟨w.heap.size + 2, 0, none⟩) hbl (by show ¬ (w.heap.size + 2 = g); have := HGg.out; omega)).trans c0.out
      obtain ⟨x, hx⟩ : ∃ x, over zero32 (cutPiece s 32 true) 32 = x := ⟨_, rfl⟩
      have HXl : Hid (x.length = 32) := hx ▸ hash_len _
      have HX : Hid (readH s = (x, cutRest s 32 true)) := (by show _ = _; rw [readH, hx])
      rw [hx]
      clear hx
      refine hK.out _ _ (fun _ => cc4.out) (fun hSn => ?_)
      clear hK K
      try simp only [Act.put, List.setIfInBounds_toArray, List.set_cons_zero, List.set_cons_succ]
      clear hSn
      refine wpAnyK_ready (rs := [4]) (by kernel_rfl) (by simp) ?_
      refine AllReadyK.cons rfl (fun K hK => ?_) AllReadyK.nil
      refine step_build_one (o := ⟨some 28, _, _, _, _, _⟩) rfl 24 26 (.tmp 27) rfl (By x) _ 32 32 Tryz.underlying24 Tryz.hinfo (by decide) (by decide) (by rw [By_length]; exact HXl.out) rfl ?_
      refine hK.out _ _ (fun _ => ((World.cell?_alloc_some w4 _ _ (by rw [cc4.out]; rfl)).trans cc4.out)) (fun hSn => ?_)
      clear hK K
      try simp only [Act.put, List.setIfInBounds_toArray, List.set_cons_zero, List.set_cons_succ]
      have KA : Hid (Keeps (fun b => b = g) wr (w4.alloc (.cells (By x).toArray 26))) := K4.out.alloc _
      have HOa : Hid ((w4.alloc (.cells (By x).toArray 26)).ownsRow (w.heap.size + 3) 26 32 (.slice A1 k e1) k (Hs l)) := own_keepsS HO.out KA.out (fun j hj => (HNe.out j (by rw [← own_blk]; exact hj)).1)
      have HSi : Hid (SeesV (w4.alloc (.cells (By x).toArray 26)) (w4.alloc (.cells (By x).toArray 26)).heap.size (some ⟨w4.heap.size, 0, none⟩) (By x)) := SeesV.blk (heap_alloc_new w4 _)
      have hsa : (w4.alloc (.cells (By x).toArray 26)).heap.size = w4.heap.size + 1 := by simp
      have HSa := Lib.hid hsa
      have h4s := K4.out.size
      have hsb : w.heap.size + 3 ≤ (w4.alloc (.cells (By x).toArray 26)).heap.size := by omega
      clear hsa
      clear hSn
      refine wpAnyK_ready (rs := [5]) (by kernel_rfl) (by simp) ?_
      refine AllReadyK.cons rfl (fun K hK => ?_) AllReadyK.nil
      refine step_append_seesV (o := ⟨some 29, _, _, _, _, _⟩) rfl (.tmp 25) (.tmp 28) 24 rfl (w.heap.size + 3) 26 i0 _ 32 32 Tryz.underlying24 hi0 hz0 hz1 hz2 rfl (by decide) (.slice A1 k e1) k (Hs l) rfl HOa.out _ (some ⟨w4.heap.size, 0, none⟩) 1 1 (By x) rfl (by rw [By_length]; exact HXl.out) HSi.out (fun u hu => By_one' _ u hu) (by omega) (by omega) hsb ?_
      intro v5 w5 ho5 hg5 hv5
      obtain ⟨A5, e5, rfl⟩ := own_form ho5
      have O5 := Lib.hid ho5
      have G5 := Lib.hid hg5
      have NV5 := Lib.hid hv5
      clear ho5 hg5 hv5
      refine hK.out _ _ (fun h => absurd h (by decide +kernel)) (fun hSn => ?_)
      clear hK K
      try simp only [Act.put, List.setIfInBounds_toArray, List.set_cons_zero, List.set_cons_succ]
      have W5 : Hid (∀ b, b < wr.heap.size → b ≠ g → A1.map (·.block) ≠ some b → w5.heap[b]? = wr.heap[b]?) := fun b hb h1 h2 => (G5.out.block b (by have := HSa.out; omega) (by rw [own_blk]; exact fun h => h2 h.symm)).trans (KA.out.block b hb h1)
      have S5 : Hid (wr.heap.size ≤ w5.heap.size) := by show _ ≤ _; have := G5.out.size; have := HSa.out; omega
      have hnb : ∀ b, b < w.heap.size + 3 → A1.map (·.block) ≠ some b := fun b hb h => by have := (Hol.out b h).1; omega
      have HB5 : Hid (Blk w5 (w.heap.size + 2) 29 (hdT (.slice A1 k e1) zero32 zero32 zero32 zero32 0)) := HB.out.of_eq (W5.out _ hbl (by have := HGg.out; omega) (hnb _ (by omega)))
      have c5 : w5.cell? ⟨w.heap.size + 2, 0, none⟩ = some (.slice A1 k e1) := HB5.out.cell 0
      have f5 : w5.frozen? ⟨w.heap.size + 2, 0, none⟩ = false := HB5.out.frozen 0
      refine wpAnyK_pure (i := 6) (oi := ⟨_, _, _, _, _, _⟩) (v := ?_) rfl (by kernel_rfl) (by kernel_rfl) (by kernel_rfl) rfl (fun _ _ _ h => h) (Or.inl ⟨by rfl, ?_⟩) hSn ?_
      rotate_left 1
      · intro W hSw
        go_simp
        try with_reducible rfl
      replace hSn := (KT.set (i := 6) (by decide)).2 hSn
      try simp only [Act.put, List.setIfInBounds_toArray, List.set_cons_zero, List.set_cons_succ]
      clear hSn
      refine wpAnyK_ready (rs := [7]) (by kernel_rfl) (by simp) ?_
      refine AllReadyK.cons rfl (fun K hK => ?_) AllReadyK.nil
      go_simp
      skip
      refine hK.out _ _ (fun h => absurd h (by decide +kernel)) (fun hSn => ?_)
      clear hK K
      try simp only [Act.put, List.setIfInBounds_toArray, List.set_cons_zero, List.set_cons_succ]
      refine wpAnyK_done (by kernel_rfl) ?_ _
      clear hSn c5 f5
      obtain ⟨w6, hw6⟩ : ∃ W, w5.setCell ⟨w.heap.size + 2, 0, none⟩ (.slice A5 (k + 1) e5) = W := ⟨_, rfl⟩
      have HW6 := Lib.hid hw6
      clear hw6
      have K56 : Hid (Keeps (fun b => b = w.heap.size + 2) w5 w6) := by show Keeps _ _ _; rw [← HW6.out]; exact (Keeps.refl (fun b => b = w.heap.size + 2) w5).setCell (p := ⟨w.heap.size + 2, 0, none⟩) rfl _
      have K36 : Hid (Keeps (Stored g (w.heap.size + 2) A1) wr w6) := by
        have k1 := K4.out.os; have k2 := K4.out.tape; have k3 := K4.out.output
        exact ⟨K56.out.os.trans (G5.out.os.trans k1), K56.out.tape.trans (G5.out.tape.trans k2), K56.out.output.trans (G5.out.output.trans k3), Nat.le_trans S5.out K56.out.size, fun b hb hn => (K56.out.block b (Nat.lt_of_lt_of_le hb S5.out) (fun h => hn (.inr (.inl h)))).trans (W5.out b hb (fun h => hn (.inl h)) (fun h => hn (.inr (.inr h))))⟩
      have K46 : Hid (Keeps (fun b => b = w.heap.size + 2 ∨ A1.map (·.block) = some b) w4 w6) :=
        ⟨K56.out.os.trans G5.out.os, K56.out.tape.trans G5.out.tape, K56.out.output.trans G5.out.output, by have := G5.out.size; have := K56.out.size; have := HSa.out; omega,
          fun b hb hn => (K56.out.block b (by have := G5.out.size; have := HSa.out; omega) (fun h => hn (.inl h))).trans ((G5.out.block b (by have := HSa.out; omega) (by rw [own_blk]; exact fun h => hn (.inr h.symm))).trans ((nxAl (nxRf w4) _).block b hb))⟩
      have N5 : Hid (∀ j, A5.map (·.block) = some j → (A1.map (·.block) = some j ∧ j < wr.heap.size) ∨ j = w4.heap.size + 1) := fun j hj => by
        rcases NV5.out with h | h
        · rw [own_blk, own_blk, hj] at h; exact .inl ⟨h.symm, (Hol.out j h.symm).2⟩
        · rw [own_blk, hj] at h; injection h with h; have := HSa.out; exact .inr (by omega)
      have HB6 : Hid (Blk w6 (w.heap.size + 2) 29 (hdT (.slice A5 (k + 1) e5) zero32 zero32 zero32 zero32 0)) := by show Blk _ _ _ _; rw [← HW6.out]; exact HB5.out.set 0 _
      have HO6 : Hid (w6.ownsRow (w.heap.size + 3) 26 32 (.slice A5 (k + 1) e5) (k + 1) (Hs (l ++ [x]))) := by
        show World.ownsRow _ _ _ _ _ _ _
        rw [Hs_snoc]
        exact own_keepsS O5.out K56.out (fun j hj h => by have := (own_lt O5.out j hj).1; omega)
      have HN6 : Hid (∀ j, A5.map (·.block) = some j → j ≠ g ∧ d ≠ some j) := fun j hj => by
        rcases N5.out j hj with h | h
        · exact HNe.out j h.1
        · exact ⟨by omega, fun e => by have := HDl.out j e; omega⟩
      have HR6 : Hid (Rf w6 g d (cutRest s 32 true)) := R4.out.keeps K46.out (fun h => by rcases h with h | h; have := HGg.out; omega; exact (HNe.out g h).1 rfl) (fun j e h => by rcases h with h | h; have := HDd.out j e; omega; exact (HNe.out j h).2 e)
      have HBz6 : Hid (Blk w6 w.heap.size 29 hdZ) := HBz.out.keeps K36.out (fun h => by rcases h with h | h | h; have := HGg.out; omega; omega; exact hnb _ (by omega) h)
      have Hb6 : Hid (Below w.heap.size w w6) := kept_below Hb.out K36.out Hb.out.size (by have := HGg.out; omega) (by omega) (fun j hj => by have := (Hol.out j hj).1; omega)
      have Hl6 : Hid ((l ++ [x]).length = k + 1) := by show _ = _; rw [List.length_append, Hl.out]; rfl
      have Hr6 : Hid (readHs (k + 1) s1 = (l ++ [x], cutRest s 32 true)) := by
        show _ = _
        rw [readHs_next Hrd.out, HX.out]
      clear HB HO HNe HR HBz Hb Hrd c0 R4 K4 cc4 KA HOa HSi O5 G5 NV5 W5 HB5 K56 K36 K46 N5 Hol HDl HX HA32
      rw [HW6.out]
      go_wp2
      go_roundw
      case rel => exact ⟨k + 1, l ++ [x], A5, e5, cutRest s 32 true, by omega, by go_num, Hl6.out, Hr6.out, HB6.out, HO6.out, HN6.out, HR6.out, HBz6.out, Hb6.out⟩
      case measure => simp [intOf] <;> omega
    · obtain rfl : k = n1 := by omega
      have hgl := HR.out.lt
      have hbl := HB.out.lt
      obtain ⟨x1, hx1⟩ : ∃ x, over zero32 (cutPiece s 32 true) 32 = x := ⟨_, rfl⟩
      obtain ⟨q1, hq1'⟩ : ∃ x, cutRest s 32 true = x := ⟨_, rfl⟩
      obtain ⟨x2, hx2⟩ : ∃ x, over zero32 (cutPiece q1 32 true) 32 = x := ⟨_, rfl⟩
      obtain ⟨q2, hq2⟩ : ∃ x, cutRest q1 32 true = x := ⟨_, rfl⟩
      obtain ⟨x3, hx3⟩ : ∃ x, over zero32 (cutPiece q2 32 true) 32 = x := ⟨_, rfl⟩
      obtain ⟨q3, hq3⟩ : ∃ x, cutRest q2 32 true = x := ⟨_, rfl⟩
      obtain ⟨x4, hx4⟩ : ∃ x, over zero32 (cutPiece q3 32 true) 32 = x := ⟨_, rfl⟩
      obtain ⟨q4, hq4⟩ : ∃ x, cutRest q3 32 true = x := ⟨_, rfl⟩
      obtain ⟨N, hN⟩ : ∃ x, ofLe (cutPiece q4 8 true) = x := ⟨_, rfl⟩
      obtain ⟨q5, hq5⟩ : ∃ x, cutRest q4 8 true = x := ⟨_, rfl⟩
      have hR : ofHR b = (⟨l, x1, x2, x3, x4, N⟩, q5) := by
        have e1 : ofHP b = (l, s) := by unfold ofHP; rw [HN1.out, HS1.out]; exact Hrd.out
        unfold ofHR tailH readH
        rw [e1]
        simp only [hx1, hq1', hx2, hq2, hx3, hq3, hx4, hq4, hN, hq5]
      have hfit := ofHR_fit b
      rw [hR] at hfit
      obtain ⟨h, hh⟩ : ∃ h : HdR, (⟨A1, e1, ⟨l, x1, x2, x3, x4, N⟩⟩ : HdR) = h := ⟨_, rfl⟩
      have hhp : h.p = (ofHR b).1 := by rw [hR, ← hh]
      have HRB : Hid ((ofHR b).2 = q5) := by show _ = _; rw [hR]
      have HHP := Lib.hid hhp
      have HBT : Hid (hdT (.slice A1 k e1) x1 x2 x3 x4 N = (hdC h).toArray) := by show _ = _; rw [← hh, ← Hl.out]; rfl
      have L1 : Hid (x1.length = 32) := hfit.rt
      have L2 : Hid (x2.length = 32) := hfit.ac
      have L3 : Hid (x3.length = 32) := hfit.co
      have L4 : Hid (x4.length = 32) := hfit.mi
      have HTk : Hid (Kept (Stored5 g (w.heap.size + 2) none) wr (fun W => HdOk W h)) := by
        have h2 : Kept (Stored5 g (w.heap.size + 2) none) wr (fun W => SeesV W W.heap.size A1 (Hs l)) := own_kept HO.out (fun j hj h => by
          have q1 := HNe.out j (by rw [← own_blk]; exact hj)
          have q2 := (own_lt HO.out j hj).1
          rcases h with (h | h | h) | h
          · exact q1.1 h
          · omega
          · cases h
          · omega)
        have hd2 := own_cap' HO.out
        refine h2.mono (fun W hW => ?_)
        rw [← hh]
        exact ⟨hW, hfit, by show l.length ≤ _; rw [Hl.out]; exact hd2, by show l.length ≤ _; rw [Hl.out]; omega⟩
      have HFt : Hid (HdFit h.p) := by show HdFit _; rw [← hh]; exact hfit
      have X1 := Lib.hid hx1
      have X2 := Lib.hid hx2
      have X3 := Lib.hid hx3
      have X4 := Lib.hid hx4
      have Q1 := Lib.hid hq1'
      have Q2 := Lib.hid hq2
      have Q3 := Lib.hid hq3
      have Q4 := Lib.hid hq4
      have Q5 := Lib.hid hq5
      have NN := Lib.hid hN
      have HM8 : Hid (may 8 = true) := rfl
      have HZT : Hid ((Tryz.prog.info? 29).map (·.size) = some (hdC h).toArray.size) := hdSz' HFt.out
      have HZN : Hid ((Tryz.prog.info? 29).map (·.size) = some (hdC noHd).toArray.size) := hdSz' noHP_fit
      have HZU : Hid ((Tryz.prog.info? 27).map (·.size) = some 1) := by show _ = _; kernel_rfl
      have hmc : mayH h.p = decide ((c1 : Int) ≤ 255) := by
        have hl := Hl.out
        rw [hhp, hR]
        show decide (l.length ≤ 255) = _
        by_cases h255 : (c1 : Int) ≤ 255
        · rw [decide_eq_true h255]; exact decide_eq_true (by omega)
        · rw [decide_eq_false h255]; exact decide_eq_false (by omega)
      have HMC := Lib.hid hmc
      clear hmc hx1 hq1' hx2 hq2 hx3 hq3 hx4 hq4 hN hq5 hR hfit hh hhp HO HNe Hl Hrd HA32 hlt HN1 HS1
      have HR0 := Lib.hid HR.out
      have HB0 := Lib.hid HB.out
      have hcase : (¬ ((k : Int) < (c1 : Int))) ∨ ((k : Int) < (c1 : Int) ∧ decide ((k : Int) ≤ 255) = false) := by
        by_cases hc0 : c1 ≤ k
        · exact .inl (by omega)
        · exact .inr ⟨by omega, decide_eq_false (by omega)⟩
      have HM1 : Hid (k = min c1 256) := hm1
      clear HR HB hm1
      rcases hcase with hin | ⟨hin, hgb⟩
      all_goals
        (go_wp2_with (first
          | ((with_reducible show Calls _ _ _ wr _); go_at_call 50; refine (rfhash_s _ g d s HR0.out).mono ?_; rw [X1.out, Q1.out]; rintro e v1 ⟨rfl, hr, hk⟩; have RR1 := Lib.hid hr; have BBv1 : Hid (Blk v1 (w.heap.size + 2) 29 (hdT (.slice A1 k e1) zero32 zero32 zero32 zero32 0)) := HB0.out.keeps hk (by have := HGg.out; omega); have KBv1 : Hid (Keeps (Stored g (w.heap.size + 2) none) wr v1) := (hk.mono (fun j _ h => .inl h)); clear hr hk)
          | ((with_reducible show wpList _ _ _ (⟨none, .store 26 (.tmp 33) _, _, _, _, _⟩ :: _) _ _); refine wpList_store_part rfl 26 (.tmp 33) (.tmp 32) rfl (w.heap.size + 2) 1 29 (hdT (.slice A1 k e1) zero32 zero32 zero32 zero32 0) (By x1).toArray (hdT (.slice A1 k e1) x1 zero32 zero32 zero32 0) (.agg (By x1).toArray) rfl rfl rfl BBv1.out (by rw [hdT_size rfl rfl rfl rfl, List.size_toArray, By_length, L1.out]; decide) (Tryz.hsizeB x1 L1.out) (By_one _) (hdT_rt L1.out rfl) ?_; intro y1 h5 h6 h7; have BB1 := Lib.hid h5; have R41 : Hid (Rf y1 g d q1) := RR1.out.keeps h6 (by have := HGg.out; omega) (fun j e h => by have := HDd.out j e; omega); have KB1 : Hid (Keeps (Stored g (w.heap.size + 2) none) wr y1) := KBv1.out.trans (h6.mono (fun j _ h => .inr (.inl h))); clear h5 h6 h7)
          | ((with_reducible show Calls _ _ _ y1 _); go_at_call 50; refine (rfhash_s _ g d q1 R41.out).mono ?_; rw [X2.out, Q2.out]; rintro e v2 ⟨rfl, hr, hk⟩; have RR2 := Lib.hid hr; have BBv2 : Hid (Blk v2 (w.heap.size + 2) 29 (hdT (.slice A1 k e1) x1 zero32 zero32 zero32 0)) := BB1.out.keeps hk (by have := HGg.out; omega); have KBv2 : Hid (Keeps (Stored g (w.heap.size + 2) none) wr v2) := KB1.out.trans (hk.mono (fun j _ h => .inl h)); clear hr hk)
          | ((with_reducible show wpList _ _ _ (⟨none, .store 26 (.tmp 36) _, _, _, _, _⟩ :: _) _ _); refine wpList_store_part rfl 26 (.tmp 36) (.tmp 35) rfl (w.heap.size + 2) 33 29 (hdT (.slice A1 k e1) x1 zero32 zero32 zero32 0) (By x2).toArray (hdT (.slice A1 k e1) x1 x2 zero32 zero32 0) (.agg (By x2).toArray) rfl rfl rfl BBv2.out (by rw [hdT_size L1.out rfl rfl rfl, List.size_toArray, By_length, L2.out]; decide) (Tryz.hsizeB x2 L2.out) (By_one _) (hdT_ac L1.out L2.out rfl) ?_; intro y2 h5 h6 h7; have BB2 := Lib.hid h5; have R42 : Hid (Rf y2 g d q2) := RR2.out.keeps h6 (by have := HGg.out; omega) (fun j e h => by have := HDd.out j e; omega); have KB2 : Hid (Keeps (Stored g (w.heap.size + 2) none) wr y2) := KBv2.out.trans (h6.mono (fun j _ h => .inr (.inl h))); clear h5 h6 h7)
          | ((with_reducible show Calls _ _ _ y2 _); go_at_call 50; refine (rfhash_s _ g d q2 R42.out).mono ?_; rw [X3.out, Q3.out]; rintro e v3 ⟨rfl, hr, hk⟩; have RR3 := Lib.hid hr; have BBv3 : Hid (Blk v3 (w.heap.size + 2) 29 (hdT (.slice A1 k e1) x1 x2 zero32 zero32 0)) := BB2.out.keeps hk (by have := HGg.out; omega); have KBv3 : Hid (Keeps (Stored g (w.heap.size + 2) none) wr v3) := KB2.out.trans (hk.mono (fun j _ h => .inl h)); clear hr hk)
          | ((with_reducible show wpList _ _ _ (⟨none, .store 26 (.tmp 39) _, _, _, _, _⟩ :: _) _ _); refine wpList_store_part rfl 26 (.tmp 39) (.tmp 38) rfl (w.heap.size + 2) 65 29 (hdT (.slice A1 k e1) x1 x2 zero32 zero32 0) (By x3).toArray (hdT (.slice A1 k e1) x1 x2 x3 zero32 0) (.agg (By x3).toArray) rfl rfl rfl BBv3.out (by rw [hdT_size L1.out L2.out rfl rfl, List.size_toArray, By_length, L3.out]; decide) (Tryz.hsizeB x3 L3.out) (By_one _) (hdT_co L1.out L2.out L3.out rfl) ?_; intro y3 h5 h6 h7; have BB3 := Lib.hid h5; have R43 : Hid (Rf y3 g d q3) := RR3.out.keeps h6 (by have := HGg.out; omega) (fun j e h => by have := HDd.out j e; omega); have KB3 : Hid (Keeps (Stored g (w.heap.size + 2) none) wr y3) := KBv3.out.trans (h6.mono (fun j _ h => .inr (.inl h))); clear h5 h6 h7)
          | ((with_reducible show Calls _ _ _ y3 _); go_at_call 50; refine (rfhash_s _ g d q3 R43.out).mono ?_; rw [X4.out, Q4.out]; rintro e v4 ⟨rfl, hr, hk⟩; have RR4 := Lib.hid hr; have BBv4 : Hid (Blk v4 (w.heap.size + 2) 29 (hdT (.slice A1 k e1) x1 x2 x3 zero32 0)) := BB3.out.keeps hk (by have := HGg.out; omega); have KBv4 : Hid (Keeps (Stored g (w.heap.size + 2) none) wr v4) := KB3.out.trans (hk.mono (fun j _ h => .inl h)); clear hr hk)
          | ((with_reducible show wpList _ _ _ (⟨none, .store 26 (.tmp 42) _, _, _, _, _⟩ :: _) _ _); refine wpList_store_part rfl 26 (.tmp 42) (.tmp 41) rfl (w.heap.size + 2) 97 29 (hdT (.slice A1 k e1) x1 x2 x3 zero32 0) (By x4).toArray (hdT (.slice A1 k e1) x1 x2 x3 x4 0) (.agg (By x4).toArray) rfl rfl rfl BBv4.out (by rw [hdT_size L1.out L2.out L3.out rfl, List.size_toArray, By_length, L4.out]; decide) (Tryz.hsizeB x4 L4.out) (By_one _) (hdT_mi L1.out L2.out L3.out L4.out rfl) ?_; intro y4 h5 h6 h7; have BB4 := Lib.hid h5; have R44 : Hid (Rf y4 g d q4) := RR4.out.keeps h6 (by have := HGg.out; omega) (fun j e h => by have := HDd.out j e; omega); have KB4 : Hid (Keeps (Stored g (w.heap.size + 2) none) wr y4) := KBv4.out.trans (h6.mono (fun j _ h => .inr (.inl h))); clear h5 h6 h7)
          | (go_at_call 23; refine (rfnumber_s _ g d q4 R44.out 8).mono ?_; unfold RfNum; rw [HM8.out, NN.out, Q5.out]; rintro e w8 ⟨rfl, hr8, hk8, hz8⟩; have R8 := Lib.hid hr8; have HB8 := Lib.hid (BB4.out.keeps hk8 (by have := HGg.out; omega)); have K8 := Lib.hid (KB4.out.trans (hk8.mono (fun j _ h => .inl h))); clear hr8 hk8 hz8)
          | ((with_reducible show wpList _ _ _ (⟨none, .store 27 _ _, _, _, _, _⟩ :: _) _ _); refine wpList_store_part rfl 27 (.tmp 45) (.tmp 44) rfl (w.heap.size + 2) 129 29 (hdT (.slice A1 k e1) x1 x2 x3 x4 0) #[.int .u64 (N : Int)] (hdT (.slice A1 k e1) x1 x2 x3 x4 N) (.int .u64 (N : Int)) rfl rfl rfl HB8.out (by rw [hdT_size L1.out L2.out L3.out L4.out]; exact Nat.le_refl 130) HZU.out (by intro u hu; simp at hu; subst hu; rfl) (hdT_no L1.out L2.out L3.out L4.out) ?_; intro w9 h5 h6 h7; have HB9 : Hid (Blk w9 (w.heap.size + 2) 29 (hdC h).toArray) := (by show Blk _ _ _ _; rw [← HBT.out]; exact h5); have K9 := Lib.hid (K8.out.trans (h6.mono (fun j _ h => .inr (.inl h)))); have R9 := Lib.hid (R8.out.keeps h6 (by have := HGg.out; omega) (fun j e h => by have := HDd.out j e; omega)); have HBz9 : Hid (Blk w9 w.heap.size 29 hdZ) := HBz.out.keeps K9.out (fun h => by rcases h with h | h | h; have := HGg.out; omega; omega; cases h); have HT9 := Lib.hid (HTk.out w9 (K9.out.mono (fun _ _ h => .inl h))); have HB9r := Lib.hid (blkR (vs := hdC h) HB9.out); have Hb9 := Lib.hid (kept_below Hb.out K9.out Hb.out.size (by have := HGg.out; omega) (by omega) (fun j hj => by cases hj)); clear h5 h6 h7))
         clear RR1 RR2 RR3 RR4 BBv1 BBv2 BBv3 BBv4 KBv1 KBv2 KBv3 KBv4 BB1 BB2 BB3 BB4 KB1 KB2 KB3 KB4 R41 R42 R43 R44 R8 HB8 K8 HB0 HR0 X1 X2 X3 X4 Q1 Q2 Q3 Q4 Q5 NN
         obtain ⟨mz, hmz⟩ : ∃ z, mayH h.p = z := ⟨_, rfl⟩
         have HMz := Lib.hid hmz
         have hcm := hmz.symm.trans HMC.out
         clear hmz
         by_cases hs : q5 = some []
         · subst hs
           have HRe : Hid (doneB (some []) = true) := by show _ = _; simp [doneB]
           cases mz with
           | true =>
             have hgt : ¬ ((255 : Int) < (c1 : Int)) := by have := of_decide_eq_true hcm.symm; omega
             have HOB : Hid (ofHB b = true) := by show _ = _; rw [ofHB, HRB.out, ← HHP.out, HMz.out]; rfl
             clear hcm
             go_wp2_with (first
               | (go_at_call 25; refine (rfdone_s _ g d _ R9.out).mono ?_; rw [HRe.out]; rintro e w10 ⟨rfl, rfl⟩)
               | ((with_reducible show wpList _ _ _ (⟨some 54, _, _, _, _, _⟩ :: _) _ _); refine wpList_load_mid rfl 29 (.tmp 5) rfl (w.heap.size + 2) 0 rfl (hdC h) _ HB9r.out Tryz.underlying29 rfl (hdSz HFt.out) ?_)
               | ((with_reducible show wpList _ _ _ (⟨none, .store 29 _ _, _, _, _, _⟩ :: _) _ _); refine wpList_store_all rfl 29 (.tmp 2) (.tmp 54) rfl w.heap.size 29 hdZ (hdC h).toArray rfl rfl HBz9.out (show (130 : Nat) = (hdC h).length from (hdC_len HFt.out).symm) HZT.out (hdC_one h) ?_; intro w12 h5 h6 h7; have B12 := Lib.hid h5; have K12 := Lib.hid h6; clear h5 h6 h7))
             refine bodyPost_ret (row_tmp Tryz.results21 _ _ w.heap.size 29 _ _ rfl B12.out Tryz.underlying29 rfl HZT.out _ rfl) rfl ⟨h, (by rw [HOB.out] <;> rfl), ?_, ?_, ?_, ?_⟩
             · rw [ofHV, HOB.out, HHP.out]; rfl
             · refine HTk.out w12 ?_
               have k1 : Keeps (Stored5 g (w.heap.size + 2) none) wr w9 := K9.out.mono (fun _ _ h => .inl h)
               exact k1.trans (K12.out.mono (fun j _ h => .inr (by omega)))
             · exact Hb9.out.trans (K12.out.below Hb9.out.size (fun j hj => by omega))
             · have k1 : Keeps (Stored5 g (w.heap.size + 2) none) wr w9 := K9.out.mono (fun _ _ h => .inl h)
               exact HTk.out.step (k1.trans (K12.out.mono (fun j _ h => .inr (by omega)))) (fun j _ h => .inr (by omega))
           | false =>
             have hgt : (255 : Int) < (c1 : Int) := by have := of_decide_eq_false hcm.symm; omega
             have HOB : Hid (ofHB b = false) := by show _ = _; rw [ofHB, HRB.out, ← HHP.out, HMz.out, Bool.and_false]
             clear hcm
             go_wp2_with (first
               | (go_at_call 25; refine (rfdone_s _ g d _ R9.out).mono ?_; rw [HRe.out]; rintro e w10 ⟨rfl, rfl⟩)
               | ((with_reducible show wpList _ _ _ (⟨none, .store 29 _ _, _, _, _, _⟩ :: _) _ _); refine wpList_store_all rfl 29 (.tmp 2) (.tmp 53) rfl w.heap.size 29 hdZ (hdC noHd).toArray rfl rfl HBz9.out rfl HZN.out (hdC_one noHd) ?_; intro w12 h5 h6 h7; have B12 := Lib.hid h5; have K12 := Lib.hid h6; clear h5 h6 h7))
             refine bodyPost_ret (row_tmp Tryz.results21 _ _ w.heap.size 29 _ _ rfl B12.out Tryz.underlying29 rfl HZN.out _ rfl) rfl ⟨noHd, (by rw [HOB.out] <;> rfl), ?_, ?_, ?_, fun W _ => noHd_ok W⟩
             · rw [ofHV, HOB.out]; rfl
             · exact noHd_ok w12
             · exact Hb9.out.trans (K12.out.below Hb9.out.size (fun j hj => by omega))
         · have HRe : Hid (doneB q5 = false) := by show _ = _; rw [doneB, decide_eq_false hs]
           have HOB : Hid (ofHB b = false) := by show _ = _; rw [ofHB, HRB.out, decide_eq_false hs, Bool.false_and]
           go_wp2_with (first
             | (go_at_call 25; refine (rfdone_s _ g d _ R9.out).mono ?_; rw [HRe.out]; rintro e w10 ⟨rfl, rfl⟩)
             | ((with_reducible show wpList _ _ _ (⟨none, .store 29 _ _, _, _, _, _⟩ :: _) _ _); refine wpList_store_all rfl 29 (.tmp 2) (.tmp 53) rfl w.heap.size 29 hdZ (hdC noHd).toArray rfl rfl HBz9.out rfl HZN.out (hdC_one noHd) ?_; intro w12 h5 h6 h7; have B12 := Lib.hid h5; have K12 := Lib.hid h6; clear h5 h6 h7))
           refine bodyPost_ret (row_tmp Tryz.results21 _ _ w.heap.size 29 _ _ rfl B12.out Tryz.underlying29 rfl HZN.out _ rfl) rfl ⟨noHd, (by rw [HOB.out] <;> rfl), ?_, ?_, ?_, fun W _ => noHd_ok W⟩
           · rw [ofHV, HOB.out]; rfl
           · exact noHd_ok w12
           · exact Hb9.out.trans (K12.out.below Hb9.out.size (fun j hj => by omega)))
theorem rofh_any (w : World) (A : Option Addr) (b : List UInt8) (c : Nat) (hS : Sees w w.heap.size A b) (hbc : b.length ≤ c) (hcm : c ≤ maxLen) (hlen : b.length ≤ 1099511627776) :
    Calls Tryz.prog 21 #[.slice A b.length c] w (ROfHPost w b) :=
  (rofh_anyK w A b c hS hbc hcm hlen).mono fun _ _ ⟨t, h1, h2, h3, h4, _⟩ => ⟨t, h1, h2, h3, h4⟩
end Go.Proofs.YtbloomnifhcgbaaGreatDoor
