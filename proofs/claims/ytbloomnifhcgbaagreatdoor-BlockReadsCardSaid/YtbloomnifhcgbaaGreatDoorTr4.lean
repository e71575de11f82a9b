/-
  tx: the document's Of.
-/
import Derived.Test.YtbloomnifhcgbaaGreatDoorRg
import Derived.Test.YtbloomnifhcgbaaGreatDoorTr3
namespace Go.Proofs.YtbloomnifhcgbaaGreatDoor
open Go.RowKit

set_option maxHeartbeats 400000 in
theorem rfblob_s (w : World) (g : Nat) (d : Option Nat) (st : Option (List UInt8)) (hR : Rf w g d st) :
    Calls Tryz.prog 22 #[.pointer (some ⟨g, 0, none⟩)] w (RfCut w g d (blobPiece st) (blobRest st)) := by
  have HR := Lib.hid hR
  have hN : blobN st < 4294967296 := by
    have h1 := ofLe_lt (cutPiece st 4 true)
    have h2 := cutPiece_le st 4 true
    have h3 : 256 ^ (cutPiece st 4 true).length ≤ 256 ^ 4 := Nat.pow_le_pow_right (by omega) h2
    unfold blobN
    omega
  have Hm2 : Hid (may 4 = true) := rfl
  have HN : Hid (ofLe (cutPiece st 4 true) = blobN st) := rfl
  by_cases hbig : 16777216 < blobN st
  · have Hp : Hid (blobPiece st = []) := by
      show _ = _
      have : blobM st = false := decide_eq_false (by omega)
      simp [blobPiece, this, cutPiece, cutOk]
    have Hs : Hid (blobRest st = none) := by
      show _ = _
      have : blobM st = false := decide_eq_false (by omega)
      simp [blobRest, this, cutRest, cutOk]
    generalize blobPiece st = p at *
    generalize blobRest st = st' at *
    generalize blobN st = N at *
    have hbig' : (16777216 : Int) < N := by omega
    clear hR
    go_enter Tryz.func22, Tryz.ntmps22
    go_wp2_with ((go_at_call 23; refine (rfnumber_s _ _ _ _ HR.out 4).mono ?_; rw [Hm2.out, HN.out]; rintro e w1 ⟨rfl, hR1, hk1, hz1⟩; have HR1 := Lib.hid hR1; have Hk1 := Lib.hid hk1; have Hz1 := Lib.hid hz1; obtain ⟨_, A1, c1, rest1, hb1, _⟩ := hR1; have d1 : w1.cell? ⟨g, 1, none⟩ = some (.bool (cutRest st 4 true).isNone) := hb1.cell 1; have f1 : w1.frozen? ⟨g, 1, none⟩ = false := hb1.frozen 1; clear hb1 hk1 hz1))
    go_ret
    rw [Hp.out, Hs.out]
    obtain ⟨hne, A, c, rest, hb, hc, hm, hs, ha, hr⟩ := HR1.out
    obtain ⟨A', c', h1, h2, h6, h3, h4, h5, h7, h8⟩ := RfCut.fail hne hb hc hm hs ha
    exact ⟨A', c', h1, h2, h6, h3, Hk1.out.trans h4, by rw [h5, Hz1.out], h7, h8⟩
  · have Hp : Hid (cutPiece (cutRest st 4 true) (blobN st) (decide (0 ≤ (blobN st : Int))) = blobPiece st) := by
      show _ = _
      have h1 : blobM st = true := decide_eq_true (by omega)
      have h2 : decide (0 ≤ (blobN st : Int)) = true := decide_eq_true (by omega)
      rw [blobPiece, h1, h2]
    have Hs : Hid (cutRest (cutRest st 4 true) (blobN st) (decide (0 ≤ (blobN st : Int))) = blobRest st) := by
      show _ = _
      have h1 : blobM st = true := decide_eq_true (by omega)
      have h2 : decide (0 ≤ (blobN st : Int)) = true := decide_eq_true (by omega)
      rw [blobRest, h1, h2]
    generalize blobPiece st = p at *
    generalize blobRest st = st' at *
    generalize blobN st = N at *
    clear hR
    go_enter Tryz.func22, Tryz.ntmps22
    go_wp2_with (first
      | (go_at_call 23; refine (rfnumber_s _ _ _ _ HR.out 4).mono ?_; rw [Hm2.out, HN.out]; rintro e w1 ⟨rfl, hR1, hk1, hz1⟩; have HR1 := Lib.hid hR1; have Hk1 := Lib.hid hk1; have Hz1 := Lib.hid hz1; clear hR1 hk1 hz1)
      | (go_at_call 51; refine (rfcut_s _ _ _ _ HR1.out N).mono ?_; rw [Hp.out, Hs.out]; rintro e w2 ⟨A, c, rfl, hs2, ha2, hR2, hk2, hz2, hc2, hm2⟩))
    go_ret
    exact ⟨A, c, rfl, hs2, ha2, hR2, Hk1.out.trans hk2, by rw [hz2, Hz1.out], hc2, hm2⟩

end Go.Proofs.YtbloomnifhcgbaaGreatDoor

namespace Go.Proofs.YtbloomnifhcgbaaGreatDoor
open Go.RowKit

theorem inZ_one : ∀ v ∈ inZ.toList, v.oneCell' = true := by decide
theorem outZ_one : ∀ v ∈ outZ.toList, v.oneCell' = true := by decide
theorem txZ_one : ∀ v ∈ txZ.toList, v.oneCell' = true := by decide
theorem cat_in0 {x : List UInt8} (hx : x.length = 32) : (inZ.toList.take 0 ++ (By x).toArray.toList ++ inZ.toList.drop (0 + (By x).toArray.size)).toArray = (By x ++ [Value.int .u32 0, .slice none 0 0]).toArray := by
  rw [List.toList_toArray, List.size_toArray, By_length, hx]; rfl
theorem cat_in1 {x : List UInt8} (hx : x.length = 32) (v u q : Value) : ((By x ++ [u, q]).toArray.toList.take 32 ++ #[v].toList ++ (By x ++ [u, q]).toArray.toList.drop (32 + #[v].size)).toArray = (By x ++ [v, q]).toArray := by
  have h : (By x).length = 32 := by rw [By_length, hx]
  rw [List.toList_toArray, List.take_append_of_le_length (by omega), List.take_of_length_le (by omega), List.drop_append, List.drop_eq_nil_of_le (by rw [h]; simp), h]
  simp
theorem cat_in2 {x : List UInt8} (hx : x.length = 32) (v u q : Value) : ((By x ++ [u, q]).toArray.toList.take 33 ++ #[v].toList ++ (By x ++ [u, q]).toArray.toList.drop (33 + #[v].size)).toArray = (By x ++ [u, v]).toArray := by
  have h : (By x).length = 32 := by rw [By_length, hx]
  rw [List.toList_toArray, List.take_append, List.take_of_length_le (by omega), List.drop_append, List.drop_eq_nil_of_le (by rw [h]; simp), h]
  simp
theorem cat_out0 (v : Value) : (outZ.toList.take 0 ++ #[v].toList ++ outZ.toList.drop (0 + #[v].size)).toArray = (v :: zeros32).toArray := rfl
theorem cat_out1 {x : List UInt8} (hx : x.length = 32) (v : Value) : ((v :: zeros32).toArray.toList.take 1 ++ (By x).toArray.toList ++ (v :: zeros32).toArray.toList.drop (1 + (By x).toArray.size)).toArray = (v :: By x).toArray := by
  rw [List.toList_toArray, List.toList_toArray, List.size_toArray, By_length, hx]
  have h : List.drop (1 + 32) (v :: zeros32) = [] := rfl
  rw [h]; simp
theorem sz34 {x : List UInt8} (hx : x.length = 32) (u q : Value) : (By x ++ [u, q]).toArray.size = 34 := by simp [By_length, hx]

/-- What the document's Of answers. -/
def ROfPost (w : World) (b : List UInt8) (e : Ending) (w' : World) : Prop :=
  ∃ t : TxR, e = .returned (.tuple #[.agg (txC t).toArray, .bool (ofB b)]) ∧ txP t = ofV b ∧ TxOk w' t ∧ Below w.heap.size w w'
/-- .. and it lies in new memory. -/
def ROfPostK (w : World) (b : List UInt8) (e : Ending) (w' : World) : Prop :=
  ∃ t : TxR, e = .returned (.tuple #[.agg (txC t).toArray, .bool (ofB b)]) ∧ txP t = ofV b ∧ TxOk w' t ∧ Below w.heap.size w w' ∧ Kept (fun j => j < w.heap.size) w' (fun W => TxOk W t)

set_option maxHeartbeats 8000000 in
set_option maxRecDepth 100000 in
theorem rof_anyK (w : World) (A : Option Addr) (b : List UInt8) (c : Nat) (hS : Sees w w.heap.size A b) (hbc : b.length ≤ c) (hcm : c ≤ maxLen) (hlen : b.length ≤ 1099511627776) :
    Calls Tryz.prog 24 #[.slice A b.length c] w (ROfPostK w b) := by
  have hz1 : (w.alloc (.cells txZ 66)).heap.size = w.heap.size + 1 := by simp
  have hz2 : ((w.alloc (.cells txZ 66)).alloc (.cells #[.slice A b.length c, .bool false] 59)).heap.size = w.heap.size + 2 := by simp
  have HBt0 : Hid (Blk (((w.alloc (.cells txZ 66)).alloc (.cells #[.slice A b.length c, .bool false] 59)).alloc (.cells txZ 66)) (w.heap.size + 2) 66 txZ) := blk_new hz2
  have HBz0 : Hid (Blk (((w.alloc (.cells txZ 66)).alloc (.cells #[.slice A b.length c, .bool false] 59)).alloc (.cells txZ 66)) w.heap.size 66 txZ) := (((blk_new rfl : Blk (w.alloc (.cells txZ 66)) w.heap.size 66 txZ).alloc _).alloc _)
  have hR0 : Rf (((w.alloc (.cells txZ 66)).alloc (.cells #[.slice A b.length c, .bool false] 59)).alloc (.cells txZ 66)) (w.alloc (.cells txZ 66)).heap.size (tdOf b A) (some b) := (Rf.made hS hbc hcm (nxAl (nxRf w) _)).below (nxAl (nxRf _) _)
  rw [hz1] at hR0
  have Hb0 : Hid (Below w.heap.size w (((w.alloc (.cells txZ 66)).alloc (.cells #[.slice A b.length c, .bool false] 59)).alloc (.cells txZ 66))) := nxAl (nxAl (nxAl (nxRf w) _) _) _
  have HDd : Hid (∀ j, tdOf b A = some j → j < w.heap.size) := tdOf_lt hS
  obtain ⟨d, hd⟩ : ∃ d, tdOf b A = d := ⟨_, rfl⟩
  obtain ⟨g, hg⟩ : ∃ g, w.heap.size + 1 = g := ⟨_, rfl⟩
  rw [hd] at HDd hR0
  rw [hg] at hR0
  have HGg : Hid (g = w.heap.size + 1) := hg.symm
  have HGe : Hid (w.heap.size + 1 = g) := hg
  have HR0 := Lib.hid hR0
  obtain ⟨c1, hc1⟩ : ∃ n, ofLe (cutPiece (some b) 2 true) = n := ⟨_, rfl⟩
  obtain ⟨s1, hs1⟩ : ∃ s, cutRest (some b) 2 true = s := ⟨_, rfl⟩
  obtain ⟨n1, hn1⟩ : ∃ n, ofN (some b) = n := ⟨_, rfl⟩
  have hm1 : n1 = min c1 65 := by rw [← hn1, ofN, hc1]
  have hq1 : n1 ≤ 65 := by omega
  have hc16 : c1 < 65536 := by rw [← hc1]; exact ofLe_lt2 _
  have hwc1 : IntKind.i64.wrap (c1 : Int) = (c1 : Int) := by rw [IntKind.wrap_i64]; omega
  have hls1 : lenS s1 ≤ 1099511627776 := by
    rw [← hs1]; exact Nat.le_trans (lenS_cutRest _ _ _) hlen
  have HC1 := Lib.hid hc1
  have HS1 := Lib.hid hs1
  have HN1 := Lib.hid hn1
  have HLs1 := Lib.hid hls1
  have hm2 : may 2 = true := rfl
  have HM2 := Lib.hid hm2
  have hm4 : may 4 = true := rfl
  have HM4 := Lib.hid hm4
  have hm8 : may 8 = true := rfl
  have HM8 := Lib.hid hm8
  have HZT0 : Hid ((Tryz.prog.info? 66).map (·.size) = some txZ.size) := Tryz.sizeTx
  have HZIN : Hid ((Tryz.prog.info? 104).map (·.size) = some inZ.size) := Tryz.sizeIn
  have HZOU : Hid ((Tryz.prog.info? 106).map (·.size) = some outZ.size) := Tryz.sizeOut
  have HZU32 : Hid ((Tryz.prog.info? 100).map (·.size) = some 1) := by show _ = _; kernel_rfl
  have HZU64 : Hid ((Tryz.prog.info? 27).map (·.size) = some 1) := by show _ = _; kernel_rfl
  have HZBS : Hid ((Tryz.prog.info? 22).map (·.size) = some 1) := by show _ = _; kernel_rfl
  unfold ROfPostK
  clear hS hbc hcm hlen hz1 hz2 hR0 hd hg hc1 hs1 hn1 hls1 hm2 hm4 hm8
  go_enter Tryz.func24, Tryz.ntmps24
  go_wp2_with (first
    | (go_at_call 23; rw [show w.heap.size + 1 + 1 = w.heap.size + 2 from rfl, HGe.out]; refine (rfnumber_s _ g d (some b) HR0.out 2).mono ?_; unfold RfNum; rw [HM2.out, HS1.out, HC1.out]; rintro e w5 ⟨rfl, hr5, hk5, hz5⟩; have R5 := Lib.hid hr5; have K5 := Lib.hid hk5; clear hr5 hk5 hz5))
  have V2 : Hid (Below w.heap.size w w5) := Hb0.out.trans (K5.out.below Hb0.out.size (fun j hj => by have := HGg.out; omega))
  have HBt2 : Hid (Blk w5 (w.heap.size + 2) 66 txZ) := HBt0.out.keeps K5.out (by have := HGg.out; omega)
  have HBz2 : Hid (Blk w5 w.heap.size 66 txZ) := HBz0.out.keeps K5.out (by have := HGg.out; omega)
  clear HC1 HR0 HBt0 HBz0 K5 hwc1
  obtain ⟨i0, hi0, hz0, hz1, hz2⟩ := infoP Tryz.ininfo
  obtain ⟨j0, hj0, hy0, hy1, hy2⟩ := infoP Tryz.outinfo
  obtain ⟨u0, hu0, hv0, hv1, hv2⟩ := infoP Tryz.u8info
  go_loopw [7] (fun iv wr => ∃ (k : Nat) (l : List InR) (A1 : Option Addr) (e1 : Nat) (s : Option (List UInt8)), k ≤ n1 ∧ iv = .int .i64 k ∧ Hid (l.length = k) ∧ Hid (readIs k s1 = (l.map inP, s)) ∧ Hid (Blk wr (w.heap.size + 2) 66 #[.slice A1 k e1, .slice none 0 0, .int .u64 0]) ∧ Hid (wr.ownsRow (w.heap.size + 3) 104 34 (.slice A1 k e1) k (insC l)) ∧ Hid (∀ j, A1.map (·.block) = some j → j ≠ g ∧ d ≠ some j) ∧ Hid (Kept (Stored5 g (w.heap.size + 2) A1) wr (fun W => ∀ i ∈ l, InOk W i)) ∧ Hid (Rf wr g d s) ∧ Hid (Blk wr w.heap.size 66 txZ) ∧ Hid (Below w.heap.size w wr)) (fun iv _ => n1 - (intOf iv).toNat)
  case atStart => exact ⟨0, [], none, 0, s1, by omega, rfl, rfl, rfl, HBt2.out, nil_own _ _ _ _, (fun j hj => by cases hj), Kept.nil, R5.out, HBz2.out, V2.out⟩
  case round =>
    obtain ⟨k, l, A1, e1, s, hk, rfl, Hl, Hrd, HB, HO, HNe, HK, HR, HBz, Hb⟩ := hrel
    clear HBt2 HBz2 V2 R5
    have hgl := HR.out.lt
    have HDl : Hid (∀ j, d = some j → j < wr.heap.size) := fun j e => (HR.out.1 j e).2
    have hbl := HB.out.lt
    have Hol : Hid (∀ j, A1.map (·.block) = some j → w.heap.size + 3 ≤ j ∧ j < wr.heap.size) := fun j hj => own_lt HO.out j (by rw [own_blk]; exact hj)
    by_cases hlt : k < n1
    · have hin : (k : Int) < (c1 : Int) := by omega
      have hin2 : (k : Int) ≤ 64 := by omega
      have hls : lenS s ≤ 1099511627776 := by
        have h1 := readIs_le k s1
        rw [Hrd.out] at h1
        exact Nat.le_trans h1 HLs1.out
      obtain ⟨q1, hq1'⟩ : ∃ x, cutRest s 32 true = x := ⟨_, rfl⟩
      obtain ⟨q2, hq2'⟩ : ∃ x, cutRest q1 4 true = x := ⟨_, rfl⟩
      obtain ⟨q3, hq3'⟩ : ∃ x, blobRest q2 = x := ⟨_, rfl⟩
      obtain ⟨x, hx⟩ : ∃ x, over zero32 (cutPiece s 32 true) 32 = x := ⟨_, rfl⟩
      obtain ⟨N, hN⟩ : ∃ x, ofLe (cutPiece q1 4 true) = x := ⟨_, rfl⟩
      obtain ⟨p, hp⟩ : ∃ x, blobPiece q2 = x := ⟨_, rfl⟩
      have hri : readI s = ((x, N, p), q3) := by unfold readI; rw [hq1', hq2', hq3', hx, hN, hp]
      have hx32 : x.length = 32 := by rw [← hx]; exact hash_len _
      have hN32 : N < 4294967296 := by rw [← hN]; exact ofLe_lt4 _
      have hpl : p.length ≤ 1099511627776 := by
        have h1 := cutPiece_lt (cutRest q2 4 true) (blobN q2) (blobM q2)
        have h2 := lenS_cutRest q2 4 true
        have h3 : blobPiece q2 = cutPiece (cutRest q2 4 true) (blobN q2) (blobM q2) := rfl
        have h4 := lenS_cutRest s 32 true
        have h5 := lenS_cutRest q1 4 true
        rw [← h3, hp] at h1
        rw [hq1'] at h4
        rw [hq2'] at h5
        omega
      have hwn : IntKind.u32.wrap (N : Int) = (N : Int) := by rw [IntKind.wrap_u32]; omega
      have HQ1 := Lib.hid hq1'
      have HQ2 := Lib.hid hq2'
      have HQ3 := Lib.hid hq3'
      have HXx := Lib.hid hx
      have HNn := Lib.hid hN
      have HPp := Lib.hid hp
      have HRi := Lib.hid hri
      have HX32 := Lib.hid hx32
      have HN32 := Lib.hid hN32
      have HPl := Lib.hid hpl
      have HZH : Hid ((Tryz.prog.info? 26).map (·.size) = some (By x).toArray.size) := by show _ = _; rw [List.size_toArray, By_length, hx32]; exact Tryz.sizeH
      clear hls hq1' hq2' hq3' hx hN hp hri hx32 hN32 hpl
      go_wp2_with (first
        | ((with_reducible show wpList _ _ _ (⟨none, .store 104 _ _, _, _, _, _⟩ :: _) _ _); (show wpList _ _ _ _ _ (wr.alloc (.cells inZ 104))); refine wpList_store_all rfl 104 (.tmp 8) (.tmp 27) rfl wr.heap.size 104 inZ inZ rfl rfl (heap_alloc_new wr _) rfl HZIN.out inZ_one ?_; intro wa h5 h6 h7; have Ba := Lib.hid h5; have Ka : Hid (Keeps (· = g) wr wa) := Keeps.fresh ((Keeps.refl (· = g) wr).alloc _) h6 (Nat.le_refl _); have Ra : Hid (Rf wa g d s) := (HR.out.below (nxAl (nxRf wr) _)).keeps h6 (by omega) (fun j e => by have := HDl.out j e; omega); clear h5 h6 h7)
        | (go_at_call 50; refine (rfhash_s _ g d s Ra.out).mono ?_; rw [HQ1.out, HXx.out]; rintro e wb ⟨rfl, hrb, hkb⟩; have Rb := Lib.hid hrb; have Kb : Hid (Keeps (· = g) wr wb) := Ka.out.trans hkb; have Bb := Lib.hid (Ba.out.keeps hkb (by omega)); clear hrb hkb)
        | ((with_reducible show wpList _ _ _ (⟨none, .store 26 _ _, _, _, _, _⟩ :: _) _ _); refine wpList_store_part rfl 26 (.tmp 31) (.tmp 29) rfl wr.heap.size 0 104 inZ (By x).toArray (By x ++ [Value.int .u32 0, .slice none 0 0]).toArray (.agg (By x).toArray) rfl rfl rfl Bb.out (by rw [List.size_toArray, By_length, HX32.out]; decide) HZH.out (By_one x) (cat_in0 HX32.out) ?_; intro wc h5 h6 h7; have Bc := Lib.hid h5; have Kc : Hid (Keeps (· = g) wr wc) := Keeps.fresh Kb.out h6 (Nat.le_refl _); have Rc : Hid (Rf wc g d q1) := Rb.out.keeps h6 (by omega) (fun j e => by have := HDl.out j e; omega); clear h5 h6 h7)
        | (go_at_call 23; refine (rfnumber_s _ g d q1 Rc.out 4).mono ?_; unfold RfNum; rw [HM4.out, HQ2.out, HNn.out]; rintro e wd ⟨rfl, hrd, hkd, hzd⟩; have Rdd := Lib.hid hrd; have Kd : Hid (Keeps (· = g) wr wd) := Kc.out.trans hkd; have Bd := Lib.hid (Bc.out.keeps hkd (by omega)); clear hrd hkd hzd)
        | ((with_reducible show wpList _ _ _ (⟨none, .store 100 _ _, _, _, _, _⟩ :: _) _ _); refine wpList_store_part rfl 100 (.tmp 36) (.tmp 34) rfl wr.heap.size 32 104 (By x ++ [Value.int .u32 0, .slice none 0 0]).toArray #[.int .u32 (N : Int)] (By x ++ [Value.int .u32 (N : Int), .slice none 0 0]).toArray (.int .u32 (N : Int)) rfl rfl rfl Bd.out (by rw [sz34 HX32.out]; show (33 : Nat) ≤ 34; omega) HZU32.out (by intro u hu; simp at hu; subst hu; rfl) (cat_in1 HX32.out _ _ _) ?_; intro we h5 h6 h7; have Be := Lib.hid h5; have Ke : Hid (Keeps (· = g) wr we) := Keeps.fresh Kd.out h6 (Nat.le_refl _); have Re : Hid (Rf we g d q2) := Rdd.out.keeps h6 (by omega) (fun j e => by have := HDl.out j e; omega); clear h5 h6 h7)
        | (go_at_call 22; refine (rfblob_s _ g d q2 Re.out).mono ?_; unfold RfCut; rw [HPp.out, HQ3.out]; rintro e wf ⟨Af, cf, rfl, hsf, haf, hrf, hkf, hzf, _, _⟩; have Rff := Lib.hid hrf; have Kf : Hid (Keeps (· = g) wr wf) := Ke.out.trans hkf; have Bf := Lib.hid (Be.out.keeps hkf (by omega)); have Sf := Lib.hid hsf; clear hsf haf hrf hkf hzf)
        | ((with_reducible show wpList _ _ _ (⟨some 39, _, _, _, _, _⟩ :: _) _ _); refine wpList_append_sees rfl (.const (.slice none 0 0)) (.tmp 38) 22 rfl wf.heap.size 5 u0 (.int .u8 0) Tryz.underlying22 hu0 hv0 hv1 hv2 rfl (.slice none 0 0) 0 [] rfl (nil_own _ _ _ _) wf.heap.size Af p.length cf p rfl rfl Sf.out (by have := HPl.out; omega) (Nat.le_refl _) ?_; intro vg wg hog hgg hvg; rw [Nat.zero_add, List.nil_append] at hog; obtain ⟨Ag, cg, rfl⟩ := own_form hog; have Og := Lib.hid hog; have Kfg : Keeps (fun _ => False) wf wg := ⟨hgg.os, hgg.tape, hgg.output, hgg.size, fun j hj _ => hgg.block j hj (by simp [Value.ownBlock])⟩; have Kg : Hid (Keeps (· = g) wr wg) := Kf.out.trans (Kfg.mono (fun _ _ h => h.elim)); have Rg := Lib.hid (Rff.out.keeps Kfg (fun h => h) (fun _ _ h => h)); have Bg := Lib.hid (Bf.out.keeps Kfg (fun h => h)); clear hog hgg hvg Kfg)
        | ((with_reducible show wpList _ _ _ (⟨none, .store 22 _ _, _, _, _, _⟩ :: _) _ _); refine wpList_store_part rfl 22 (.tmp 40) (.tmp 39) rfl wr.heap.size 33 104 (By x ++ [Value.int .u32 (N : Int), .slice none 0 0]).toArray #[.slice Ag p.length cg] (inC ⟨x, N, Ag, cg, p⟩).toArray (.slice Ag p.length cg) rfl rfl rfl Bg.out (by rw [sz34 HX32.out]; show (34 : Nat) ≤ 34; omega) HZBS.out (by intro u hu; simp at hu; subst hu; rfl) (cat_in2 HX32.out _ _ _) ?_; intro w4 h5 h6 h7; have B4 := Lib.hid h5; have K4 : Hid (Keeps (· = g) wr w4) := Keeps.fresh Kg.out h6 (Nat.le_refl _); have Og4 := Lib.hid (own_lt Og.out); have HIf : Hid (wr.heap.size < wf.heap.size) := Bf.out.lt; have S4 : Hid (Sees w4 w4.heap.size Ag p) := ((Sees.own Og.out).keeps h6 (fun ad e _ => by have := Og4.out ad.block (by rw [e]; rfl); have := HIf.out; omega)).more h6.size; have R4 : Hid (Rf w4 g d (readI s).2) := (by show Rf _ _ _ _; rw [HRi.out]; exact Rg.out.keeps h6 (by omega) (fun j e => by have := HDl.out j e; omega)); have cc4 : w4.cell? ⟨w.heap.size + 2, 0, none⟩ = some (.slice A1 k e1) := ((K4.out.cell (p := ⟨w.heap.size + 2, 0, none⟩) hbl (by show ¬ (w.heap.size + 2 = g); have := HGg.out; omega)).trans (HB.out.cell 0)); have HSg4 : Hid (wg.heap.size ≤ w4.heap.size) := h6.size; clear h5 h6 h7; obtain ⟨i, hi⟩ : ∃ i : InR, (⟨x, N, Ag, cg, p⟩ : InR) = i := ⟨_, rfl⟩; have HIo : Hid (InOk w4 i) := (hi ▸ ⟨HX32.out, HN32.out, own_cap' Og.out, S4.out, (by have := HPl.out; show p.length ≤ _; omega)⟩); have HIa : Hid (∀ ad, i.A = some ad → wr.heap.size ≤ ad.block ∧ ad.block < w4.heap.size) := (fun ad e => by rw [← hi] at e; have e2 : Ag = some ad := e; have h1 := Og4.out ad.block (by rw [e2]; rfl); have := HIf.out; have := HSg4.out; omega); have HP : Hid (inP i = (readI s).1) := (by show _ = _; rw [HRi.out, ← hi]; rfl); rw [hi] at B4; have HZi : Hid ((Tryz.prog.info? 104).map (·.size) = some (inC i).length) := (by show _ = _; rw [inC_len HIo.out.id]; exact Tryz.sizeIn); clear hi; clear Ra Rb Rc Rdd Re Rff Rg Ka Kb Kc Kd Ke Kf Kg Ba Bb Bc Bd Be Bf Bg S4 Sf Og Og4 HIf HSg4)
        | ((with_reducible show wpList _ _ _ (⟨some 43, _, _, _, _, _⟩ :: _) _ _); refine wpList_load_mid rfl 104 (.tmp 8) rfl wr.heap.size 0 rfl (inC i) _ (blkR B4.out) Tryz.underlying104 rfl HZi.out ?_)
        | ((with_reducible show wpList _ _ _ (⟨some 44, _, _, _, _, _⟩ :: _) _ _); refine wpList_build_one rfl 63 104 (.tmp 43) rfl (inC i) _ 34 64 Tryz.underlying63 Tryz.ininfo (by decide) (by decide) (inC_len HIo.out.id) rfl ?_; have KA : Hid (Keeps (fun b => b = g) wr (w4.alloc (.cells (inC i).toArray 104))) := K4.out.alloc _; have HOa : Hid ((w4.alloc (.cells (inC i).toArray 104)).ownsRow (w.heap.size + 3) 104 34 (.slice A1 k e1) k (insC l)) := own_keepsS HO.out KA.out (fun j hj => (HNe.out j (by rw [← own_blk]; exact hj)).1); have HSi : Hid (SeesV (w4.alloc (.cells (inC i).toArray 104)) (w4.alloc (.cells (inC i).toArray 104)).heap.size (some ⟨w4.heap.size, 0, none⟩) (inC i)) := SeesV.blk (heap_alloc_new w4 _); have hsa : (w4.alloc (.cells (inC i).toArray 104)).heap.size = w4.heap.size + 1 := (by simp); have HSa := Lib.hid hsa; have h4s := K4.out.size; have hsb : w.heap.size + 3 ≤ (w4.alloc (.cells (inC i).toArray 104)).heap.size := (by omega); clear hsa)
        | ((with_reducible show wpList _ _ _ (⟨some 45, _, _, _, _, _⟩ :: _) _ _); refine wpList_append_seesV rfl (.tmp 42) (.tmp 44) 63 rfl (w.heap.size + 3) 104 i0 _ 34 64 Tryz.underlying63 hi0 hz0 hz1 hz2 rfl (by decide) (.slice A1 k e1) k (insC l) rfl HOa.out _ (some ⟨w4.heap.size, 0, none⟩) 1 1 (inC i) rfl (inC_len HIo.out.id) HSi.out (fun u hu => inC_one i u (by simpa using hu)) (by omega) (by omega) hsb ?_; intro v5 w5 ho5 hg5 hv5; obtain ⟨A5, e5, rfl⟩ := own_form ho5; have O5 := Lib.hid ho5; have G5 := Lib.hid hg5; have NV5 := Lib.hid hv5; clear ho5 hg5 hv5; have W5 : Hid (∀ b, b < wr.heap.size → b ≠ g → A1.map (·.block) ≠ some b → w5.heap[b]? = wr.heap[b]?) := fun b hb h1 h2 => (G5.out.block b (by have := HSa.out; omega) (by rw [own_blk]; exact fun h => h2 h.symm)).trans (KA.out.block b hb h1); have S5 : Hid (wr.heap.size ≤ w5.heap.size) := (by show _ ≤ _; have := G5.out.size; have := HSa.out; omega); have hnb : ∀ b, b < w.heap.size + 3 → A1.map (·.block) ≠ some b := fun b hb h => (by have := (Hol.out b h).1; omega); have HB5 : Hid (Blk w5 (w.heap.size + 2) 66 #[.slice A1 k e1, .slice none 0 0, .int .u64 0]) := HB.out.of_eq (W5.out _ hbl (by have := HGg.out; omega) (hnb _ (by omega))); have c5 : w5.cell? ⟨w.heap.size + 2, 0, none⟩ = some (.slice A1 k e1) := HB5.out.cell 0; have f5 : w5.frozen? ⟨w.heap.size + 2, 0, none⟩ = false := HB5.out.frozen 0))
      obtain ⟨w6, hw6⟩ : ∃ W, w5.setCell ⟨w.heap.size + 2, 0, none⟩ (.slice A5 (k + 1) e5) = W := ⟨_, rfl⟩
      have HW6 := Lib.hid hw6
      clear hw6
      have K56 : Hid (Keeps (fun b => b = w.heap.size + 2) w5 w6) := by show Keeps _ _ _; rw [← HW6.out]; exact (Keeps.refl (fun b => b = w.heap.size + 2) w5).setCell (p := ⟨w.heap.size + 2, 0, none⟩) rfl _
      have K36 : Hid (Keeps (Stored g (w.heap.size + 2) A1) wr w6) := by
        have k1 := K4.out.os; have k2 := K4.out.tape; have k3 := K4.out.output
        exact ⟨K56.out.os.trans (G5.out.os.trans k1), K56.out.tape.trans (G5.out.tape.trans k2), K56.out.output.trans (G5.out.output.trans k3), Nat.le_trans S5.out K56.out.size, fun b hb hn => (K56.out.block b (Nat.lt_of_lt_of_le hb S5.out) (fun h => hn (.inr (.inl h)))).trans (W5.out b hb (fun h => hn (.inl h)) (fun h => hn (.inr (.inr h))))⟩
      have K46 : Hid (Keeps (fun b => b = w.heap.size + 2 ∨ A1.map (·.block) = some b) w4 w6) :=
        ⟨K56.out.os.trans G5.out.os, K56.out.tape.trans G5.out.tape, K56.out.output.trans G5.out.output, by have := G5.out.size; have := K56.out.size; have := HSa.out; omega,
          fun b hb hn => (K56.out.block b (by have := G5.out.size; have := HSa.out; omega) (fun h => hn (.inl h))).trans ((G5.out.block b (by have := HSa.out; omega) (by rw [own_blk]; exact fun h => hn (.inr h.symm))).trans ((nxAl (nxRf w4) _).block b hb))⟩
      have N5 : Hid (∀ j, A5.map (·.block) = some j → (A1.map (·.block) = some j ∧ j < wr.heap.size) ∨ j = w4.heap.size + 1) := fun j hj => by
        rcases NV5.out with h | h
        · rw [own_blk, own_blk, hj] at h; exact .inl ⟨h.symm, (Hol.out j h.symm).2⟩
        · rw [own_blk, hj] at h; injection h with h; have := HSa.out; exact .inr (by omega)
      have HB6 : Hid (Blk w6 (w.heap.size + 2) 66 #[.slice A5 (k + 1) e5, .slice none 0 0, .int .u64 0]) := by show Blk _ _ _ _; rw [← HW6.out]; exact HB5.out.set 0 _
      have HO6 : Hid (w6.ownsRow (w.heap.size + 3) 104 34 (.slice A5 (k + 1) e5) (k + 1) (insC (l ++ [i]))) := by
        show World.ownsRow _ _ _ _ _ _ _
        rw [insC_snoc]
        exact own_keepsS O5.out K56.out (fun j hj h => by have := (own_lt O5.out j hj).1; omega)
      have HN6 : Hid (∀ j, A5.map (·.block) = some j → j ≠ g ∧ d ≠ some j) := fun j hj => by
        rcases N5.out j hj with h | h
        · exact HNe.out j h.1
        · exact ⟨by omega, fun e => by have := HDl.out j e; omega⟩
      have HK6 : Hid (Kept (Stored5 g (w.heap.size + 2) A5) w6 (fun W => ∀ j ∈ l ++ [i], InOk W j)) := by
        refine Kept.snoc (HK.out.step (K36.out.mono (fun _ _ h => .inl h)) (fun b hb h => ?_)) ?_
        · rcases h with (h | h | h) | h
          · exact .inl (.inl h)
          · exact .inl (.inr (.inl h))
          · rcases N5.out b h with h | h
            · exact .inl (.inr (.inr h.1))
            · omega
          · exact .inr h
        · refine in_kept (in_kept (S := fun b => b = w.heap.size + 2 ∨ A1.map (·.block) = some b) HIo.out (fun ad e h => ?_) w6 K46.out) (fun ad e h => ?_)
          · have h1 := HIa.out ad e
            rcases h with h | h
            · omega
            · have := (Hol.out _ h).2; omega
          · have h1 := HIa.out ad e
            rcases h with (h | h | h) | h
            · omega
            · omega
            · rcases N5.out _ h with h | h
              · omega
              · omega
            · omega
      have HR6 : Hid (Rf w6 g d (readI s).2) := R4.out.keeps K46.out (fun h => by rcases h with h | h; have := HGg.out; omega; exact (HNe.out g h).1 rfl) (fun j e h => by rcases h with h | h; have := HDd.out j e; omega; exact (HNe.out j h).2 e)
      have HBz6 : Hid (Blk w6 w.heap.size 66 txZ) := HBz.out.keeps K36.out (fun h => by rcases h with h | h | h; have := HGg.out; omega; omega; exact hnb _ (by omega) h)
      have Hb6 : Hid (Below w.heap.size w w6) := kept_below Hb.out K36.out Hb.out.size (by have := HGg.out; omega) (by omega) (fun j hj => by have := (Hol.out j hj).1; omega)
      have Hl6 : Hid ((l ++ [i]).length = k + 1) := by show _ = _; rw [List.length_append, Hl.out]; rfl
      have Hr6 : Hid (readIs (k + 1) s1 = ((l ++ [i]).map inP, (readI s).2)) := by
        show _ = _
        rw [readIs_next Hrd.out, List.map_append, ← HP.out]; rfl
      clear HB HO HNe HK HR HBz Hb Hrd HIo HIa R4 K4 cc4 KA HOa HSi O5 G5 NV5 W5 HB5 K56 K36 K46 N5 Hol HDl HP c5 f5
      rw [HW6.out]
      go_roundw
      case rel => exact ⟨k + 1, l ++ [i], A5, e5, (readI s).2, by omega, by go_num, Hl6.out, Hr6.out, HB6.out, HO6.out, HN6.out, HK6.out, HR6.out, HBz6.out, Hb6.out⟩
      case measure => simp [intOf] <;> omega
    · obtain rfl : k = n1 := by omega
      have hgl := HR.out.lt
      have hbl := HB.out.lt
      obtain ⟨c2, hc2⟩ : ∃ n, ofLe (cutPiece s 2 true) = n := ⟨_, rfl⟩
      obtain ⟨s3, hs3⟩ : ∃ x, cutRest s 2 true = x := ⟨_, rfl⟩
      obtain ⟨n2, hn2⟩ : ∃ n, ofN s = n := ⟨_, rfl⟩
      have hm2 : n2 = min c2 65 := by rw [← hn2, ofN, hc2]
      have hq2 : n2 ≤ 65 := by omega
      have hc26 : c2 < 65536 := by rw [← hc2]; exact ofLe_lt2 _
      have hwc2 : IntKind.i64.wrap (c2 : Int) = (c2 : Int) := by rw [IntKind.wrap_i64]; omega
      have HC2 := Lib.hid hc2
      have HS3 := Lib.hid hs3
      have HN2 := Lib.hid hn2
      have HF : Hid (Kept (Stored5 g (w.heap.size + 2) none) wr (fun W => SeesV W W.heap.size A1 (insC l) ∧ ∀ i ∈ l, InOk W i)) :=
        (own_kept HO.out (fun j hj h => by
          have h1 := HNe.out j (by rw [← own_blk]; exact hj)
          have h2 := (own_lt HO.out j hj).1
          rcases h with (h | h | h) | h
          · exact h1.1 h
          · omega
          · cases h
          · omega)).and (HK.out.sub (fun j h => by
          rcases h with (h | h | h) | h
          · exact .inl (.inl h)
          · exact .inl (.inr (.inl h))
          · cases h
          · exact .inr h))
      have HE1 : Hid (k ≤ e1) := own_cap' HO.out
      clear hc2 hs3 hn2 hlt HK HO HNe
      by_cases hc0 : c1 ≤ k
      · have hin : ¬ ((k : Int) < (c1 : Int)) := by omega
        go_wp2_with (first
          | (go_at_call 23; refine (rfnumber_s _ g d s HR.out 2).mono ?_; unfold RfNum; rw [HM2.out, HS3.out, HC2.out]; rintro e w7 ⟨rfl, hr7, hk7, hz7⟩; have R7 := Lib.hid hr7; have K7 := Lib.hid hk7; clear hr7 hk7 hz7))
        have HB7 : Hid (Blk w7 (w.heap.size + 2) 66 #[.slice A1 k e1, .slice none 0 0, .int .u64 0]) := HB.out.keeps K7.out (by have := HGg.out; omega)
        have HBz7 : Hid (Blk w7 w.heap.size 66 txZ) := HBz.out.keeps K7.out (by have := HGg.out; omega)
        have Hb7 : Hid (Below w.heap.size w w7) := Hb.out.trans (K7.out.below Hb.out.size (fun j hj => by have := HGg.out; omega))
        have HF7 : Hid (Kept (Stored5 g (w.heap.size + 2) none) w7 (fun W => SeesV W W.heap.size A1 (insC l) ∧ ∀ i ∈ l, InOk W i)) := HF.out.step (K7.out.mono (fun j _ h => .inl (.inl h))) (fun _ _ h => h)
        clear HB HBz Hb HF K7 HR HC2 hin hwc2
        go_loopw [9] (fun jv wt => ∃ (m : Nat) (o : List OutR) (A2 : Option Addr) (e2 : Nat) (s4 : Option (List UInt8)), m ≤ n2 ∧ jv = .int .i64 m ∧ Hid (o.length = m) ∧ Hid (readOs m s3 = (o, s4)) ∧ Hid (Blk wt (w.heap.size + 2) 66 #[.slice A1 k e1, .slice A2 m e2, .int .u64 0]) ∧ Hid (wt.ownsRow (w.heap.size + 3) 106 33 (.slice A2 m e2) m (outsC o)) ∧ Hid (∀ j, A2.map (·.block) = some j → j ≠ g ∧ d ≠ some j) ∧ Hid (Kept (Stored5 g (w.heap.size + 2) A2) wt (fun W => SeesV W W.heap.size A1 (insC l) ∧ ∀ i ∈ l, InOk W i)) ∧ Hid (Rf wt g d s4) ∧ Hid (Blk wt w.heap.size 66 txZ) ∧ Hid (Below w.heap.size w wt)) (fun jv _ => n2 - (intOf jv).toNat)
        case atStart => exact ⟨0, [], none, 0, s3, by omega, rfl, rfl, rfl, HB7.out, nil_own _ _ _ _, (fun j hj => by cases hj), HF7.out, R7.out, HBz7.out, Hb7.out⟩
        case round =>
          obtain ⟨m, o, A2, e2, s4, hm, rfl, Hl2, Hrd2, HB, HO, HNe, HK, HR, HBz, Hb⟩ := hrel
          clear HB7 HBz7 Hb7 HF7 R7
          have hgl := HR.out.lt
          have HDl : Hid (∀ j, d = some j → j < wr.heap.size) := fun j e => (HR.out.1 j e).2
          have hbl := HB.out.lt
          have Hol : Hid (∀ j, A2.map (·.block) = some j → w.heap.size + 3 ≤ j ∧ j < wr.heap.size) := fun j hj => own_lt HO.out j (by rw [own_blk]; exact hj)
          by_cases hlt : m < n2
          · have hin : (m : Int) < (c2 : Int) := by omega
            have hin2 : (m : Int) ≤ 64 := by omega
            obtain ⟨q1, hq1'⟩ : ∃ x, cutRest s4 8 true = x := ⟨_, rfl⟩
            obtain ⟨q2, hq2'⟩ : ∃ x, cutRest q1 32 true = x := ⟨_, rfl⟩
            obtain ⟨N, hN⟩ : ∃ x, ofLe (cutPiece s4 8 true) = x := ⟨_, rfl⟩
            obtain ⟨xx, hxx⟩ : ∃ x, over zero32 (cutPiece q1 32 true) 32 = x := ⟨_, rfl⟩
            have hro : readO s4 = (⟨N, xx⟩, q2) := by unfold readO; rw [hq1', hq2', hxx, hN]
            have hx32 : xx.length = 32 := by rw [← hxx]; exact hash_len _
            have HQ1 := Lib.hid hq1'
            have HQ2 := Lib.hid hq2'
            have HNn := Lib.hid hN
            have HXx := Lib.hid hxx
            have HRo := Lib.hid hro
            have HX32 := Lib.hid hx32
            have HZH : Hid ((Tryz.prog.info? 26).map (·.size) = some (By xx).toArray.size) := by show _ = _; rw [List.size_toArray, By_length, hx32]; exact Tryz.sizeH
            clear hq1' hq2' hN hxx hro hx32
            go_wp2_with (first
              | ((with_reducible show wpList _ _ _ (⟨none, .store 106 _ _, _, _, _, _⟩ :: _) _ _); (show wpList _ _ _ _ _ (wr.alloc (.cells outZ 106))); refine wpList_store_all rfl 106 (.tmp 10) (.tmp 59) rfl wr.heap.size 106 outZ outZ rfl rfl (heap_alloc_new wr _) rfl HZOU.out outZ_one ?_; intro wa h5 h6 h7; have Ba := Lib.hid h5; have Ka : Hid (Keeps (· = g) wr wa) := Keeps.fresh ((Keeps.refl (· = g) wr).alloc _) h6 (Nat.le_refl _); have Ra : Hid (Rf wa g d s4) := (HR.out.below (nxAl (nxRf wr) _)).keeps h6 (by omega) (fun j e => by have := HDl.out j e; omega); clear h5 h6 h7)
              | (go_at_call 23; refine (rfnumber_s _ g d s4 Ra.out 8).mono ?_; unfold RfNum; rw [HM8.out, HQ1.out, HNn.out]; rintro e wb ⟨rfl, hrb, hkb, hzb⟩; have Rb := Lib.hid hrb; have Kb : Hid (Keeps (· = g) wr wb) := Ka.out.trans hkb; have Bb := Lib.hid (Ba.out.keeps hkb (by omega)); clear hrb hkb hzb)
              | ((with_reducible show wpList _ _ _ (⟨none, .store 27 _ _, _, _, _, _⟩ :: _) _ _); refine wpList_store_part rfl 27 (.tmp 62) (.tmp 61) rfl wr.heap.size 0 106 outZ #[.int .u64 (N : Int)] (Value.int .u64 (N : Int) :: zeros32).toArray (.int .u64 (N : Int)) rfl rfl rfl Bb.out (by show (1 : Nat) ≤ 33; omega) HZU64.out (by intro u hu; simp at hu; subst hu; rfl) (cat_out0 _) ?_; intro wc h5 h6 h7; have Bc := Lib.hid h5; have Kc : Hid (Keeps (· = g) wr wc) := Keeps.fresh Kb.out h6 (Nat.le_refl _); have Rc : Hid (Rf wc g d q1) := Rb.out.keeps h6 (by omega) (fun j e => by have := HDl.out j e; omega); clear h5 h6 h7)
              | (go_at_call 50; refine (rfhash_s _ g d q1 Rc.out).mono ?_; rw [HQ2.out, HXx.out]; rintro e wd ⟨rfl, hrd, hkd⟩; have Rdd := Lib.hid hrd; have Kd : Hid (Keeps (· = g) wr wd) := Kc.out.trans hkd; have Bd := Lib.hid (Bc.out.keeps hkd (by omega)); clear hrd hkd)
              | ((with_reducible show wpList _ _ _ (⟨none, .store 26 _ _, _, _, _, _⟩ :: _) _ _); refine wpList_store_part rfl 26 (.tmp 65) (.tmp 64) rfl wr.heap.size 1 106 (Value.int .u64 (N : Int) :: zeros32).toArray (By xx).toArray (outC ⟨N, xx⟩).toArray (.agg (By xx).toArray) rfl rfl rfl Bd.out (by rw [List.size_toArray, By_length, HX32.out]; show (33 : Nat) ≤ 33; omega) HZH.out (By_one xx) (cat_out1 HX32.out _) ?_; intro w4 h5 h6 h7; have B4 := Lib.hid h5; have K4 : Hid (Keeps (· = g) wr w4) := Keeps.fresh Kd.out h6 (Nat.le_refl _); have R4 : Hid (Rf w4 g d (readO s4).2) := (by show Rf _ _ _ _; rw [HRo.out]; exact Rdd.out.keeps h6 (by omega) (fun j e => by have := HDl.out j e; omega)); have cc4 : w4.cell? ⟨w.heap.size + 2, 1, none⟩ = some (.slice A2 m e2) := ((K4.out.cell (p := ⟨w.heap.size + 2, 1, none⟩) hbl (by show ¬ (w.heap.size + 2 = g); have := HGg.out; omega)).trans (HB.out.cell 1)); clear h5 h6 h7; obtain ⟨x, hx⟩ : ∃ x : OutR, (⟨N, xx⟩ : OutR) = x := ⟨_, rfl⟩; have HX : Hid ((readO s4).1 = x) := (by show _ = _; rw [HRo.out]; exact hx); have HXo : Hid (OutOk x) := (by have h := readO_ok s4; rw [HX.out] at h; exact h); rw [hx] at B4; have HZo : Hid ((Tryz.prog.info? 106).map (·.size) = some (outC x).length) := (by show _ = _; rw [outC_len HXo.out.lock]; exact Tryz.sizeOut); clear hx; clear Ra Rb Rc Rdd Ka Kb Kc Kd Ba Bb Bc Bd)
              | ((with_reducible show wpList _ _ _ (⟨some 68, _, _, _, _, _⟩ :: _) _ _); refine wpList_load_mid rfl 106 (.tmp 10) rfl wr.heap.size 0 rfl (outC x) _ (blkR B4.out) Tryz.underlying106 rfl HZo.out ?_)
              | ((with_reducible show wpList _ _ _ (⟨some 69, _, _, _, _, _⟩ :: _) _ _); refine wpList_build_one rfl 64 106 (.tmp 68) rfl (outC x) _ 33 40 Tryz.underlying64 Tryz.outinfo (by decide) (by decide) (outC_len HXo.out.lock) rfl ?_; have KA : Hid (Keeps (fun b => b = g) wr (w4.alloc (.cells (outC x).toArray 106))) := K4.out.alloc _; have HOa : Hid ((w4.alloc (.cells (outC x).toArray 106)).ownsRow (w.heap.size + 3) 106 33 (.slice A2 m e2) m (outsC o)) := own_keepsS HO.out KA.out (fun j hj => (HNe.out j (by rw [← own_blk]; exact hj)).1); have HSi : Hid (SeesV (w4.alloc (.cells (outC x).toArray 106)) (w4.alloc (.cells (outC x).toArray 106)).heap.size (some ⟨w4.heap.size, 0, none⟩) (outC x)) := SeesV.blk (heap_alloc_new w4 _); have hsa : (w4.alloc (.cells (outC x).toArray 106)).heap.size = w4.heap.size + 1 := (by simp); have HSa := Lib.hid hsa; have h4s := K4.out.size; have h7s : w.heap.size + 3 ≤ wr.heap.size := (by have := HGg.out; omega); have hsb : w.heap.size + 3 ≤ (w4.alloc (.cells (outC x).toArray 106)).heap.size := (by omega); clear hsa)
              | ((with_reducible show wpList _ _ _ (⟨some 70, _, _, _, _, _⟩ :: _) _ _); refine wpList_append_seesV rfl (.tmp 67) (.tmp 69) 64 rfl (w.heap.size + 3) 106 j0 _ 33 40 Tryz.underlying64 hj0 hy0 hy1 hy2 rfl (by decide) (.slice A2 m e2) m (outsC o) rfl HOa.out _ (some ⟨w4.heap.size, 0, none⟩) 1 1 (outC x) rfl (outC_len HXo.out.lock) HSi.out (fun u hu => outC_one x u (by simpa using hu)) (by omega) (by omega) hsb ?_; intro v5 w5 ho5 hg5 hv5; obtain ⟨A5, e5, rfl⟩ := own_form ho5; have O5 := Lib.hid ho5; have G5 := Lib.hid hg5; have NV5 := Lib.hid hv5; clear ho5 hg5 hv5; have W5 : Hid (∀ b, b < wr.heap.size → b ≠ g → A2.map (·.block) ≠ some b → w5.heap[b]? = wr.heap[b]?) := fun b hb h1 h2 => (G5.out.block b (by have := HSa.out; omega) (by rw [own_blk]; exact fun h => h2 h.symm)).trans (KA.out.block b hb h1); have S5 : Hid (wr.heap.size ≤ w5.heap.size) := (by show _ ≤ _; have := G5.out.size; have := HSa.out; omega); have hnb : ∀ b, b < w.heap.size + 3 → A2.map (·.block) ≠ some b := fun b hb h => (by have := (Hol.out b h).1; omega); have HB5 : Hid (Blk w5 (w.heap.size + 2) 66 #[.slice A1 k e1, .slice A2 m e2, .int .u64 0]) := HB.out.of_eq (W5.out _ hbl (by have := HGg.out; omega) (hnb _ (by omega))); have c5 : w5.cell? ⟨w.heap.size + 2, 1, none⟩ = some (.slice A2 m e2) := HB5.out.cell 1; have f5 : w5.frozen? ⟨w.heap.size + 2, 1, none⟩ = false := HB5.out.frozen 1))
            obtain ⟨w6, hw6⟩ : ∃ W, w5.setCell ⟨w.heap.size + 2, 1, none⟩ (.slice A5 (m + 1) e5) = W := ⟨_, rfl⟩
            have HW6 := Lib.hid hw6
            clear hw6
            have K56 : Hid (Keeps (fun b => b = w.heap.size + 2) w5 w6) := by show Keeps _ _ _; rw [← HW6.out]; exact (Keeps.refl (fun b => b = w.heap.size + 2) w5).setCell (p := ⟨w.heap.size + 2, 1, none⟩) rfl _
            have K36 : Hid (Keeps (Stored g (w.heap.size + 2) A2) wr w6) := by
              have k1 := K4.out.os; have k2 := K4.out.tape; have k3 := K4.out.output
              exact ⟨K56.out.os.trans (G5.out.os.trans k1), K56.out.tape.trans (G5.out.tape.trans k2), K56.out.output.trans (G5.out.output.trans k3), Nat.le_trans S5.out K56.out.size, fun b hb hn => (K56.out.block b (Nat.lt_of_lt_of_le hb S5.out) (fun h => hn (.inr (.inl h)))).trans (W5.out b hb (fun h => hn (.inl h)) (fun h => hn (.inr (.inr h))))⟩
            have K46 : Hid (Keeps (fun b => b = w.heap.size + 2 ∨ A2.map (·.block) = some b) w4 w6) :=
              ⟨K56.out.os.trans G5.out.os, K56.out.tape.trans G5.out.tape, K56.out.output.trans G5.out.output, by have := G5.out.size; have := K56.out.size; have := HSa.out; omega,
                fun b hb hn => (K56.out.block b (by have := G5.out.size; have := HSa.out; omega) (fun h => hn (.inl h))).trans ((G5.out.block b (by have := HSa.out; omega) (by rw [own_blk]; exact fun h => hn (.inr h.symm))).trans ((nxAl (nxRf w4) _).block b hb))⟩
            have N5 : Hid (∀ j, A5.map (·.block) = some j → (A2.map (·.block) = some j ∧ j < wr.heap.size) ∨ j = w4.heap.size + 1) := fun j hj => by
              rcases NV5.out with h | h
              · rw [own_blk, own_blk, hj] at h; exact .inl ⟨h.symm, (Hol.out j h.symm).2⟩
              · rw [own_blk, hj] at h; injection h with h; have := HSa.out; exact .inr (by omega)
            have HB6 : Hid (Blk w6 (w.heap.size + 2) 66 #[.slice A1 k e1, .slice A5 (m + 1) e5, .int .u64 0]) := by show Blk _ _ _ _; rw [← HW6.out]; exact HB5.out.set 1 _
            have HO6 : Hid (w6.ownsRow (w.heap.size + 3) 106 33 (.slice A5 (m + 1) e5) (m + 1) (outsC (o ++ [x]))) := by
              show World.ownsRow _ _ _ _ _ _ _
              rw [outsC_snoc]
              exact own_keepsS O5.out K56.out (fun j hj h => by have := (own_lt O5.out j hj).1; omega)
            have HN6 : Hid (∀ j, A5.map (·.block) = some j → j ≠ g ∧ d ≠ some j) := fun j hj => by
              rcases N5.out j hj with h | h
              · exact HNe.out j h.1
              · exact ⟨by omega, fun e => by have := HDl.out j e; omega⟩
            have HK6 : Hid (Kept (Stored5 g (w.heap.size + 2) A5) w6 (fun W => SeesV W W.heap.size A1 (insC l) ∧ ∀ i ∈ l, InOk W i)) := by
              refine HK.out.step (K36.out.mono (fun _ _ h => .inl h)) (fun b hb h => ?_)
              rcases h with (h | h | h) | h
              · exact .inl (.inl h)
              · exact .inl (.inr (.inl h))
              · rcases N5.out b h with h | h
                · exact .inl (.inr (.inr h.1))
                · omega
              · exact .inr h
            have HR6 : Hid (Rf w6 g d (readO s4).2) := R4.out.keeps K46.out (fun h => by rcases h with h | h; have := HGg.out; omega; exact (HNe.out g h).1 rfl) (fun j e h => by rcases h with h | h; have := HDd.out j e; omega; exact (HNe.out j h).2 e)
            have HBz6 : Hid (Blk w6 w.heap.size 66 txZ) := HBz.out.keeps K36.out (fun h => by rcases h with h | h | h; have := HGg.out; omega; omega; exact hnb _ (by omega) h)
            have Hb6 : Hid (Below w.heap.size w w6) := kept_below Hb.out K36.out Hb.out.size (by have := HGg.out; omega) (by omega) (fun j hj => by have := (Hol.out j hj).1; omega)
            have Hl6 : Hid ((o ++ [x]).length = m + 1) := by show _ = _; rw [List.length_append, Hl2.out]; rfl
            have Hr6 : Hid (readOs (m + 1) s3 = (o ++ [x], (readO s4).2)) := by
              show _ = _
              rw [readOs_next Hrd2.out, HX.out]
            clear HB HO HNe HK HR HBz Hb Hrd2 HXo R4 K4 cc4 KA HOa HSi O5 G5 NV5 W5 HB5 K56 K36 K46 N5 Hol HDl HX c5 f5
            rw [HW6.out]
            go_roundw
            case rel => exact ⟨m + 1, o ++ [x], A5, e5, (readO s4).2, by omega, by go_num, Hl6.out, Hr6.out, HB6.out, HO6.out, HN6.out, HK6.out, HR6.out, HBz6.out, Hb6.out⟩
            case measure => simp [intOf] <;> omega
          · obtain rfl : m = n2 := by omega
            obtain ⟨s5, hs5⟩ : ∃ x, cutRest s4 8 true = x := ⟨_, rfl⟩
            obtain ⟨N, hN⟩ : ∃ x, ofLe (cutPiece s4 8 true) = x := ⟨_, rfl⟩
            have hN64 : N < 18446744073709551616 := by rw [← hN]; exact ofLe_lt8 s4 8 (by decide)
            obtain ⟨hp, hr⟩ := of_parts (b := b) (I := l.map inP) (s := s) (s4 := s4) (o := o) (by rw [HN1.out, HS1.out]; exact Hrd.out) (by rw [HN2.out, HS3.out]; exact Hrd2.out)
            rw [hN] at hp
            rw [hs5] at hr
            obtain ⟨t, ht⟩ : ∃ t : TxR, (⟨A1, e1, l, A2, e2, o, N⟩ : TxR) = t := ⟨_, rfl⟩
            have hpt : txP t = ofP b := by rw [hp, ← ht]; rfl
            have hoo : ∀ y ∈ o, OutOk y := by have h1 := readOs_ok m s3; rw [Hrd2.out] at h1; exact h1
            have HTk : Hid (Kept (Stored5 g (w.heap.size + 2) none) wr (fun W => TxOk W t)) := by
              have h1 := HK.out.sub (S' := Stored5 g (w.heap.size + 2) none) (fun j h => by
                rcases h with (h | h | h) | h
                · exact .inl (.inl h)
                · exact .inl (.inr (.inl h))
                · cases h
                · exact .inr h)
              have h2 : Kept (Stored5 g (w.heap.size + 2) none) wr (fun W => SeesV W W.heap.size A2 (outsC o)) := own_kept HO.out (fun j hj h => by
                have q1 := HNe.out j (by rw [← own_blk]; exact hj)
                have q2 := (own_lt HO.out j hj).1
                rcases h with (h | h | h) | h
                · exact q1.1 h
                · omega
                · cases h
                · omega)
              have hd2 := own_cap' HO.out
              refine (h1.and h2).mono (fun W hW => ?_)
              rw [← ht]
              exact ⟨hW.1.1, hW.1.2, hW.2, hoo, by show l.length ≤ _; rw [Hl.out]; exact HE1.out, by show o.length ≤ _; rw [Hl2.out]; exact hd2, hN64, by show l.length ≤ _; rw [Hl.out]; omega, by show o.length ≤ _; rw [Hl2.out]; omega⟩
            have hBt : #[Value.slice A1 k e1, .slice A2 m e2, .int .u64 (N : Int)] = (txC t).toArray := by rw [← ht, ← Hl.out, ← Hl2.out]; rfl
            have HBT := Lib.hid hBt
            have HPT := Lib.hid hpt
            have HSv := Lib.hid hs5
            have HNv := Lib.hid hN
            have HRv := Lib.hid hr
            have hm8 : may 8 = true := rfl
            have HM8 := Lib.hid hm8
            clear hs5 hN hp hr ht hpt hoo hN64 HO HNe HK hBt Hl Hl2 Hrd Hrd2 hm8 hlt HE1
            obtain ⟨z, hz⟩ : ∃ z, checkT t = z := ⟨_, rfl⟩
            have HZv := Lib.hid hz
            clear hz
            have HZT : Hid ((Tryz.prog.info? 66).map (·.size) = some (txC t).toArray.size) := Tryz.sizeTx
            have HZN : Hid ((Tryz.prog.info? 66).map (·.size) = some (txC noT).toArray.size) := Tryz.sizeTx
            by_cases hcc : c2 ≤ m
            · have hin : ¬ ((m : Int) < (c2 : Int)) := by omega
              by_cases hs : s5 = some []
              · by_cases hz0 : z = 0
                · subst hs hz0
                  have HOB : Hid (ofB b = true) := by show _ = _; rw [ofB, HRv.out, ← HPT.out, checkT_up, HZv.out]; rfl
                  have HRe : Hid (doneB (some []) = true) := by show _ = _; simp [doneB]
                  go_wp2_with (first
                    | (go_at_call 23; refine (rfnumber_s _ g d s4 HR.out 8).mono ?_; unfold RfNum; rw [HM8.out, HNv.out, HSv.out]; rintro e w8 ⟨rfl, hr8, hk8, hz8⟩; have R8 := Lib.hid hr8; have K8 := Lib.hid hk8; clear hr8 hk8 hz8; have HB8 : Hid (Blk w8 (w.heap.size + 2) 66 #[.slice A1 k e1, .slice A2 m e2, .int .u64 0]) := HB.out.keeps K8.out (by have := HGg.out; omega); have c28 : w8.cell? ⟨w.heap.size + 2, 2, none⟩ = some (.int .u64 0) := HB8.out.cell 2; have f28 : w8.frozen? ⟨w.heap.size + 2, 2, none⟩ = false := HB8.out.frozen 2)
                    | (go_at_call 25; refine (rfdone_s _ g d (some []) (R8.out.keeps ((Keeps.refl (fun b => b = w.heap.size + 2) w8).setCell (p := ⟨w.heap.size + 2, 2, none⟩) rfl _) (by have := HGg.out; omega) (fun j e h => by have := HDd.out j e; omega))).mono ?_; rw [HRe.out]; rintro e w10 ⟨rfl, hw10⟩; have W10 := Lib.hid hw10; clear hw10; have HB10 : Hid (Blk w10 (w.heap.size + 2) 66 (txC t).toArray) := (by show Blk _ _ _ _; rw [← HBT.out, ← W10.out]; exact HB8.out.set 2 _); have K10 : Hid (Keeps (Stored g (w.heap.size + 2) none) wr w10) := (by show Keeps _ _ _; rw [← W10.out]; exact (K8.out.mono (fun j _ h => .inl h)).setCell (p := ⟨w.heap.size + 2, 2, none⟩) (.inr (.inl rfl)) _); have HBz10 := Lib.hid (HBz.out.keeps K10.out (fun h => by rcases h with h | h | h; have := HGg.out; omega; omega; cases h)); have HT10 := Lib.hid (HTk.out w10 (K10.out.mono (fun _ _ h => .inl h))); have Hb10 := Lib.hid (kept_below Hb.out K10.out Hb.out.size (by have := HGg.out; omega) (by omega) (fun j hj => by cases hj)); have HB10r := Lib.hid (blkR (vs := txC t) HB10.out); have d0 : w10.cell? ⟨w.heap.size + 2, 0, none⟩ = some (.slice t.A t.ins.length t.c) := HB10.out.cell 0; have d1 : w10.cell? ⟨w.heap.size + 2, 1, none⟩ = some (.slice t.B t.outs.length t.d) := HB10.out.cell 1; have d2 : w10.cell? ⟨w.heap.size + 2, 2, none⟩ = some (.int .u64 (t.nonce : Int)) := HB10.out.cell 2)
                    | (go_at_call 53; refine (rmay_any w10 t HT10.out).mono ?_; rw [HZv.out]; rintro e w11 ⟨rfl, hb11⟩; have V11 := Lib.hid hb11; clear hb11; have HB11 := Lib.hid (HB10.out.below V11.out HB10.out.lt); clear d0 d1 d2; have d0 : w11.cell? ⟨w.heap.size + 2, 0, none⟩ = some (.slice t.A t.ins.length t.c) := HB11.out.cell 0; have d1 : w11.cell? ⟨w.heap.size + 2, 1, none⟩ = some (.slice t.B t.outs.length t.d) := HB11.out.cell 1; have d2 : w11.cell? ⟨w.heap.size + 2, 2, none⟩ = some (.int .u64 (t.nonce : Int)) := HB11.out.cell 2)
                    | ((with_reducible show wpList _ _ _ (⟨none, .store 66 _ _, _, _, _, _⟩ :: _) _ _); refine wpList_store_all rfl 66 (.tmp 2) (.tmp 84) rfl w.heap.size 66 txZ (txC t).toArray rfl rfl (HBz10.out.below V11.out HBz10.out.lt) rfl HZT.out (txC_one t) ?_; intro w12 h5 h6 h7; have B12 := Lib.hid h5; have K12 := Lib.hid h6; clear h5 h6 h7))
                  refine bodyPost_ret (row_tmp Tryz.results24 _ _ w.heap.size 66 _ _ rfl B12.out Tryz.underlying66 rfl HZT.out _ rfl) rfl ⟨t, (by rw [HOB.out] <;> rfl), ?_, ?_, ?_, ?_⟩
                  · rw [ofV, HOB.out, HPT.out]; rfl
                  · refine HTk.out w12 ?_
                    have k1 : Keeps (Stored5 g (w.heap.size + 2) none) wr w10 := K10.out.mono (fun _ _ h => .inl h)
                    exact (k1.trans (Keeps.of_below V11.out _)).trans (K12.out.mono (fun j _ h => .inr (by omega)))
                  · exact (nxTr Hb10.out V11.out).trans (K12.out.below (nxTr Hb10.out V11.out).size (fun j hj => by omega))
                  · have k1 : Keeps (Stored5 g (w.heap.size + 2) none) wr w10 := K10.out.mono (fun _ _ h => .inl h)
                    exact HTk.out.step ((k1.trans (Keeps.of_below V11.out _)).trans (K12.out.mono (fun j _ h => .inr (by omega)))) (fun j _ h => .inr (by omega))
                · subst hs
                  have HOB : Hid (ofB b = false) := by show _ = _; rw [ofB, HRv.out, ← HPT.out, checkT_up, HZv.out]; simp [hz0]
                  have hzf : (z == 0) = false := beq_eq_false_iff_ne.2 hz0
                  have HRe : Hid (doneB (some []) = true) := by show _ = _; simp [doneB]
                  go_wp2_with (first
                    | (go_at_call 23; refine (rfnumber_s _ g d s4 HR.out 8).mono ?_; unfold RfNum; rw [HM8.out, HNv.out, HSv.out]; rintro e w8 ⟨rfl, hr8, hk8, hz8⟩; have R8 := Lib.hid hr8; have K8 := Lib.hid hk8; clear hr8 hk8 hz8; have HB8 : Hid (Blk w8 (w.heap.size + 2) 66 #[.slice A1 k e1, .slice A2 m e2, .int .u64 0]) := HB.out.keeps K8.out (by have := HGg.out; omega); have c28 : w8.cell? ⟨w.heap.size + 2, 2, none⟩ = some (.int .u64 0) := HB8.out.cell 2; have f28 : w8.frozen? ⟨w.heap.size + 2, 2, none⟩ = false := HB8.out.frozen 2)
                    | (go_at_call 25; refine (rfdone_s _ g d (some []) (R8.out.keeps ((Keeps.refl (fun b => b = w.heap.size + 2) w8).setCell (p := ⟨w.heap.size + 2, 2, none⟩) rfl _) (by have := HGg.out; omega) (fun j e h => by have := HDd.out j e; omega))).mono ?_; rw [HRe.out]; rintro e w10 ⟨rfl, hw10⟩; have W10 := Lib.hid hw10; clear hw10; have HB10 : Hid (Blk w10 (w.heap.size + 2) 66 (txC t).toArray) := (by show Blk _ _ _ _; rw [← HBT.out, ← W10.out]; exact HB8.out.set 2 _); have K10 : Hid (Keeps (Stored g (w.heap.size + 2) none) wr w10) := (by show Keeps _ _ _; rw [← W10.out]; exact (K8.out.mono (fun j _ h => .inl h)).setCell (p := ⟨w.heap.size + 2, 2, none⟩) (.inr (.inl rfl)) _); have HBz10 := Lib.hid (HBz.out.keeps K10.out (fun h => by rcases h with h | h | h; have := HGg.out; omega; omega; cases h)); have HT10 := Lib.hid (HTk.out w10 (K10.out.mono (fun _ _ h => .inl h))); have Hb10 := Lib.hid (kept_below Hb.out K10.out Hb.out.size (by have := HGg.out; omega) (by omega) (fun j hj => by cases hj)); have HB10r := Lib.hid (blkR (vs := txC t) HB10.out); have d0 : w10.cell? ⟨w.heap.size + 2, 0, none⟩ = some (.slice t.A t.ins.length t.c) := HB10.out.cell 0; have d1 : w10.cell? ⟨w.heap.size + 2, 1, none⟩ = some (.slice t.B t.outs.length t.d) := HB10.out.cell 1; have d2 : w10.cell? ⟨w.heap.size + 2, 2, none⟩ = some (.int .u64 (t.nonce : Int)) := HB10.out.cell 2)
                    | (go_at_call 53; refine (rmay_any w10 t HT10.out).mono ?_; rw [HZv.out]; rintro e w11 ⟨rfl, hb11⟩; have V11 := Lib.hid hb11; clear hb11; have HB11 := Lib.hid (HB10.out.below V11.out HB10.out.lt); clear d0 d1 d2; have d0 : w11.cell? ⟨w.heap.size + 2, 0, none⟩ = some (.slice t.A t.ins.length t.c) := HB11.out.cell 0; have d1 : w11.cell? ⟨w.heap.size + 2, 1, none⟩ = some (.slice t.B t.outs.length t.d) := HB11.out.cell 1; have d2 : w11.cell? ⟨w.heap.size + 2, 2, none⟩ = some (.int .u64 (t.nonce : Int)) := HB11.out.cell 2)
                    | ((with_reducible show wpList _ _ _ (⟨none, .store 66 _ _, _, _, _, _⟩ :: _) _ _); refine wpList_store_all rfl 66 (.tmp 2) (.tmp 83) rfl w.heap.size 66 txZ (txC noT).toArray rfl rfl (HBz10.out.below V11.out HBz10.out.lt) rfl HZN.out (txC_one noT) ?_; intro w12 h5 h6 h7; have B12 := Lib.hid h5; have K12 := Lib.hid h6; clear h5 h6 h7))
                  refine bodyPost_ret (row_tmp Tryz.results24 _ _ w.heap.size 66 _ _ rfl B12.out Tryz.underlying66 rfl HZN.out _ rfl) rfl ⟨noT, (by rw [HOB.out] <;> rfl), ?_, ?_, ?_, fun W _ => noT_ok W⟩
                  · rw [ofV, HOB.out]; rfl
                  · exact noT_ok w12
                  · exact (nxTr Hb10.out V11.out).trans (K12.out.below (nxTr Hb10.out V11.out).size (fun j hj => by omega))
              · have HOB : Hid (ofB b = false) := by show _ = _; rw [ofB, HRv.out, decide_eq_false hs, Bool.false_and]
                have HRe : Hid (doneB s5 = false) := by show _ = _; rw [doneB, decide_eq_false hs]
                go_wp2_with (first
                  | (go_at_call 23; refine (rfnumber_s _ g d s4 HR.out 8).mono ?_; unfold RfNum; rw [HM8.out, HNv.out, HSv.out]; rintro e w8 ⟨rfl, hr8, hk8, hz8⟩; have R8 := Lib.hid hr8; have K8 := Lib.hid hk8; clear hr8 hk8 hz8; have HB8 : Hid (Blk w8 (w.heap.size + 2) 66 #[.slice A1 k e1, .slice A2 m e2, .int .u64 0]) := HB.out.keeps K8.out (by have := HGg.out; omega); have c28 : w8.cell? ⟨w.heap.size + 2, 2, none⟩ = some (.int .u64 0) := HB8.out.cell 2; have f28 : w8.frozen? ⟨w.heap.size + 2, 2, none⟩ = false := HB8.out.frozen 2)
                  | (go_at_call 25; refine (rfdone_s _ g d s5 (R8.out.keeps ((Keeps.refl (fun b => b = w.heap.size + 2) w8).setCell (p := ⟨w.heap.size + 2, 2, none⟩) rfl _) (by have := HGg.out; omega) (fun j e h => by have := HDd.out j e; omega))).mono ?_; rw [HRe.out]; rintro e w10 ⟨rfl, hw10⟩; have W10 := Lib.hid hw10; clear hw10; have HB10 : Hid (Blk w10 (w.heap.size + 2) 66 (txC t).toArray) := (by show Blk _ _ _ _; rw [← HBT.out, ← W10.out]; exact HB8.out.set 2 _); have K10 : Hid (Keeps (Stored g (w.heap.size + 2) none) wr w10) := (by show Keeps _ _ _; rw [← W10.out]; exact (K8.out.mono (fun j _ h => .inl h)).setCell (p := ⟨w.heap.size + 2, 2, none⟩) (.inr (.inl rfl)) _); have HBz10 := Lib.hid (HBz.out.keeps K10.out (fun h => by rcases h with h | h | h; have := HGg.out; omega; omega; cases h)); have HT10 := Lib.hid (HTk.out w10 (K10.out.mono (fun _ _ h => .inl h))); have Hb10 := Lib.hid (kept_below Hb.out K10.out Hb.out.size (by have := HGg.out; omega) (by omega) (fun j hj => by cases hj)); have HB10r := Lib.hid (blkR (vs := txC t) HB10.out); have d0 : w10.cell? ⟨w.heap.size + 2, 0, none⟩ = some (.slice t.A t.ins.length t.c) := HB10.out.cell 0; have d1 : w10.cell? ⟨w.heap.size + 2, 1, none⟩ = some (.slice t.B t.outs.length t.d) := HB10.out.cell 1; have d2 : w10.cell? ⟨w.heap.size + 2, 2, none⟩ = some (.int .u64 (t.nonce : Int)) := HB10.out.cell 2)
                  | ((with_reducible show wpList _ _ _ (⟨none, .store 66 _ _, _, _, _, _⟩ :: _) _ _); refine wpList_store_all rfl 66 (.tmp 2) (.tmp 83) rfl w.heap.size 66 txZ (txC noT).toArray rfl rfl HBz10.out rfl HZN.out (txC_one noT) ?_; intro w12 h5 h6 h7; have B12 := Lib.hid h5; have K12 := Lib.hid h6; clear h5 h6 h7))
                refine bodyPost_ret (row_tmp Tryz.results24 _ _ w.heap.size 66 _ _ rfl B12.out Tryz.underlying66 rfl HZN.out _ rfl) rfl ⟨noT, (by rw [HOB.out] <;> rfl), ?_, ?_, ?_, fun W _ => noT_ok W⟩
                · rw [ofV, HOB.out]; rfl
                · exact noT_ok w12
                · exact (Hb10.out).trans (K12.out.below (Hb10.out).size (fun j hj => by omega))
            · have hin : (m : Int) < (c2 : Int) := by omega
              have hgb : decide ((m : Int) ≤ 64) = false := decide_eq_false (by omega)
              by_cases hs : s5 = some []
              · by_cases hz0 : z = 0
                · subst hs hz0
                  have HOB : Hid (ofB b = true) := by show _ = _; rw [ofB, HRv.out, ← HPT.out, checkT_up, HZv.out]; rfl
                  have HRe : Hid (doneB (some []) = true) := by show _ = _; simp [doneB]
                  go_wp2_with (first
                    | (go_at_call 23; refine (rfnumber_s _ g d s4 HR.out 8).mono ?_; unfold RfNum; rw [HM8.out, HNv.out, HSv.out]; rintro e w8 ⟨rfl, hr8, hk8, hz8⟩; have R8 := Lib.hid hr8; have K8 := Lib.hid hk8; clear hr8 hk8 hz8; have HB8 : Hid (Blk w8 (w.heap.size + 2) 66 #[.slice A1 k e1, .slice A2 m e2, .int .u64 0]) := HB.out.keeps K8.out (by have := HGg.out; omega); have c28 : w8.cell? ⟨w.heap.size + 2, 2, none⟩ = some (.int .u64 0) := HB8.out.cell 2; have f28 : w8.frozen? ⟨w.heap.size + 2, 2, none⟩ = false := HB8.out.frozen 2)
                    | (go_at_call 25; refine (rfdone_s _ g d (some []) (R8.out.keeps ((Keeps.refl (fun b => b = w.heap.size + 2) w8).setCell (p := ⟨w.heap.size + 2, 2, none⟩) rfl _) (by have := HGg.out; omega) (fun j e h => by have := HDd.out j e; omega))).mono ?_; rw [HRe.out]; rintro e w10 ⟨rfl, hw10⟩; have W10 := Lib.hid hw10; clear hw10; have HB10 : Hid (Blk w10 (w.heap.size + 2) 66 (txC t).toArray) := (by show Blk _ _ _ _; rw [← HBT.out, ← W10.out]; exact HB8.out.set 2 _); have K10 : Hid (Keeps (Stored g (w.heap.size + 2) none) wr w10) := (by show Keeps _ _ _; rw [← W10.out]; exact (K8.out.mono (fun j _ h => .inl h)).setCell (p := ⟨w.heap.size + 2, 2, none⟩) (.inr (.inl rfl)) _); have HBz10 := Lib.hid (HBz.out.keeps K10.out (fun h => by rcases h with h | h | h; have := HGg.out; omega; omega; cases h)); have HT10 := Lib.hid (HTk.out w10 (K10.out.mono (fun _ _ h => .inl h))); have Hb10 := Lib.hid (kept_below Hb.out K10.out Hb.out.size (by have := HGg.out; omega) (by omega) (fun j hj => by cases hj)); have HB10r := Lib.hid (blkR (vs := txC t) HB10.out); have d0 : w10.cell? ⟨w.heap.size + 2, 0, none⟩ = some (.slice t.A t.ins.length t.c) := HB10.out.cell 0; have d1 : w10.cell? ⟨w.heap.size + 2, 1, none⟩ = some (.slice t.B t.outs.length t.d) := HB10.out.cell 1; have d2 : w10.cell? ⟨w.heap.size + 2, 2, none⟩ = some (.int .u64 (t.nonce : Int)) := HB10.out.cell 2)
                    | (go_at_call 53; refine (rmay_any w10 t HT10.out).mono ?_; rw [HZv.out]; rintro e w11 ⟨rfl, hb11⟩; have V11 := Lib.hid hb11; clear hb11; have HB11 := Lib.hid (HB10.out.below V11.out HB10.out.lt); clear d0 d1 d2; have d0 : w11.cell? ⟨w.heap.size + 2, 0, none⟩ = some (.slice t.A t.ins.length t.c) := HB11.out.cell 0; have d1 : w11.cell? ⟨w.heap.size + 2, 1, none⟩ = some (.slice t.B t.outs.length t.d) := HB11.out.cell 1; have d2 : w11.cell? ⟨w.heap.size + 2, 2, none⟩ = some (.int .u64 (t.nonce : Int)) := HB11.out.cell 2)
                    | ((with_reducible show wpList _ _ _ (⟨none, .store 66 _ _, _, _, _, _⟩ :: _) _ _); refine wpList_store_all rfl 66 (.tmp 2) (.tmp 84) rfl w.heap.size 66 txZ (txC t).toArray rfl rfl (HBz10.out.below V11.out HBz10.out.lt) rfl HZT.out (txC_one t) ?_; intro w12 h5 h6 h7; have B12 := Lib.hid h5; have K12 := Lib.hid h6; clear h5 h6 h7))
                  refine bodyPost_ret (row_tmp Tryz.results24 _ _ w.heap.size 66 _ _ rfl B12.out Tryz.underlying66 rfl HZT.out _ rfl) rfl ⟨t, (by rw [HOB.out] <;> rfl), ?_, ?_, ?_, ?_⟩
                  · rw [ofV, HOB.out, HPT.out]; rfl
                  · refine HTk.out w12 ?_
                    have k1 : Keeps (Stored5 g (w.heap.size + 2) none) wr w10 := K10.out.mono (fun _ _ h => .inl h)
                    exact (k1.trans (Keeps.of_below V11.out _)).trans (K12.out.mono (fun j _ h => .inr (by omega)))
                  · exact (nxTr Hb10.out V11.out).trans (K12.out.below (nxTr Hb10.out V11.out).size (fun j hj => by omega))
                  · have k1 : Keeps (Stored5 g (w.heap.size + 2) none) wr w10 := K10.out.mono (fun _ _ h => .inl h)
                    exact HTk.out.step ((k1.trans (Keeps.of_below V11.out _)).trans (K12.out.mono (fun j _ h => .inr (by omega)))) (fun j _ h => .inr (by omega))
                · subst hs
                  have HOB : Hid (ofB b = false) := by show _ = _; rw [ofB, HRv.out, ← HPT.out, checkT_up, HZv.out]; simp [hz0]
                  have hzf : (z == 0) = false := beq_eq_false_iff_ne.2 hz0
                  have HRe : Hid (doneB (some []) = true) := by show _ = _; simp [doneB]
                  go_wp2_with (first
                    | (go_at_call 23; refine (rfnumber_s _ g d s4 HR.out 8).mono ?_; unfold RfNum; rw [HM8.out, HNv.out, HSv.out]; rintro e w8 ⟨rfl, hr8, hk8, hz8⟩; have R8 := Lib.hid hr8; have K8 := Lib.hid hk8; clear hr8 hk8 hz8; have HB8 : Hid (Blk w8 (w.heap.size + 2) 66 #[.slice A1 k e1, .slice A2 m e2, .int .u64 0]) := HB.out.keeps K8.out (by have := HGg.out; omega); have c28 : w8.cell? ⟨w.heap.size + 2, 2, none⟩ = some (.int .u64 0) := HB8.out.cell 2; have f28 : w8.frozen? ⟨w.heap.size + 2, 2, none⟩ = false := HB8.out.frozen 2)
                    | (go_at_call 25; refine (rfdone_s _ g d (some []) (R8.out.keeps ((Keeps.refl (fun b => b = w.heap.size + 2) w8).setCell (p := ⟨w.heap.size + 2, 2, none⟩) rfl _) (by have := HGg.out; omega) (fun j e h => by have := HDd.out j e; omega))).mono ?_; rw [HRe.out]; rintro e w10 ⟨rfl, hw10⟩; have W10 := Lib.hid hw10; clear hw10; have HB10 : Hid (Blk w10 (w.heap.size + 2) 66 (txC t).toArray) := (by show Blk _ _ _ _; rw [← HBT.out, ← W10.out]; exact HB8.out.set 2 _); have K10 : Hid (Keeps (Stored g (w.heap.size + 2) none) wr w10) := (by show Keeps _ _ _; rw [← W10.out]; exact (K8.out.mono (fun j _ h => .inl h)).setCell (p := ⟨w.heap.size + 2, 2, none⟩) (.inr (.inl rfl)) _); have HBz10 := Lib.hid (HBz.out.keeps K10.out (fun h => by rcases h with h | h | h; have := HGg.out; omega; omega; cases h)); have HT10 := Lib.hid (HTk.out w10 (K10.out.mono (fun _ _ h => .inl h))); have Hb10 := Lib.hid (kept_below Hb.out K10.out Hb.out.size (by have := HGg.out; omega) (by omega) (fun j hj => by cases hj)); have HB10r := Lib.hid (blkR (vs := txC t) HB10.out); have d0 : w10.cell? ⟨w.heap.size + 2, 0, none⟩ = some (.slice t.A t.ins.length t.c) := HB10.out.cell 0; have d1 : w10.cell? ⟨w.heap.size + 2, 1, none⟩ = some (.slice t.B t.outs.length t.d) := HB10.out.cell 1; have d2 : w10.cell? ⟨w.heap.size + 2, 2, none⟩ = some (.int .u64 (t.nonce : Int)) := HB10.out.cell 2)
                    | (go_at_call 53; refine (rmay_any w10 t HT10.out).mono ?_; rw [HZv.out]; rintro e w11 ⟨rfl, hb11⟩; have V11 := Lib.hid hb11; clear hb11; have HB11 := Lib.hid (HB10.out.below V11.out HB10.out.lt); clear d0 d1 d2; have d0 : w11.cell? ⟨w.heap.size + 2, 0, none⟩ = some (.slice t.A t.ins.length t.c) := HB11.out.cell 0; have d1 : w11.cell? ⟨w.heap.size + 2, 1, none⟩ = some (.slice t.B t.outs.length t.d) := HB11.out.cell 1; have d2 : w11.cell? ⟨w.heap.size + 2, 2, none⟩ = some (.int .u64 (t.nonce : Int)) := HB11.out.cell 2)
                    | ((with_reducible show wpList _ _ _ (⟨none, .store 66 _ _, _, _, _, _⟩ :: _) _ _); refine wpList_store_all rfl 66 (.tmp 2) (.tmp 83) rfl w.heap.size 66 txZ (txC noT).toArray rfl rfl (HBz10.out.below V11.out HBz10.out.lt) rfl HZN.out (txC_one noT) ?_; intro w12 h5 h6 h7; have B12 := Lib.hid h5; have K12 := Lib.hid h6; clear h5 h6 h7))
                  refine bodyPost_ret (row_tmp Tryz.results24 _ _ w.heap.size 66 _ _ rfl B12.out Tryz.underlying66 rfl HZN.out _ rfl) rfl ⟨noT, (by rw [HOB.out] <;> rfl), ?_, ?_, ?_, fun W _ => noT_ok W⟩
                  · rw [ofV, HOB.out]; rfl
                  · exact noT_ok w12
                  · exact (nxTr Hb10.out V11.out).trans (K12.out.below (nxTr Hb10.out V11.out).size (fun j hj => by omega))
              · have HOB : Hid (ofB b = false) := by show _ = _; rw [ofB, HRv.out, decide_eq_false hs, Bool.false_and]
                have HRe : Hid (doneB s5 = false) := by show _ = _; rw [doneB, decide_eq_false hs]
                go_wp2_with (first
                  | (go_at_call 23; refine (rfnumber_s _ g d s4 HR.out 8).mono ?_; unfold RfNum; rw [HM8.out, HNv.out, HSv.out]; rintro e w8 ⟨rfl, hr8, hk8, hz8⟩; have R8 := Lib.hid hr8; have K8 := Lib.hid hk8; clear hr8 hk8 hz8; have HB8 : Hid (Blk w8 (w.heap.size + 2) 66 #[.slice A1 k e1, .slice A2 m e2, .int .u64 0]) := HB.out.keeps K8.out (by have := HGg.out; omega); have c28 : w8.cell? ⟨w.heap.size + 2, 2, none⟩ = some (.int .u64 0) := HB8.out.cell 2; have f28 : w8.frozen? ⟨w.heap.size + 2, 2, none⟩ = false := HB8.out.frozen 2)
                  | (go_at_call 25; refine (rfdone_s _ g d s5 (R8.out.keeps ((Keeps.refl (fun b => b = w.heap.size + 2) w8).setCell (p := ⟨w.heap.size + 2, 2, none⟩) rfl _) (by have := HGg.out; omega) (fun j e h => by have := HDd.out j e; omega))).mono ?_; rw [HRe.out]; rintro e w10 ⟨rfl, hw10⟩; have W10 := Lib.hid hw10; clear hw10; have HB10 : Hid (Blk w10 (w.heap.size + 2) 66 (txC t).toArray) := (by show Blk _ _ _ _; rw [← HBT.out, ← W10.out]; exact HB8.out.set 2 _); have K10 : Hid (Keeps (Stored g (w.heap.size + 2) none) wr w10) := (by show Keeps _ _ _; rw [← W10.out]; exact (K8.out.mono (fun j _ h => .inl h)).setCell (p := ⟨w.heap.size + 2, 2, none⟩) (.inr (.inl rfl)) _); have HBz10 := Lib.hid (HBz.out.keeps K10.out (fun h => by rcases h with h | h | h; have := HGg.out; omega; omega; cases h)); have HT10 := Lib.hid (HTk.out w10 (K10.out.mono (fun _ _ h => .inl h))); have Hb10 := Lib.hid (kept_below Hb.out K10.out Hb.out.size (by have := HGg.out; omega) (by omega) (fun j hj => by cases hj)); have HB10r := Lib.hid (blkR (vs := txC t) HB10.out); have d0 : w10.cell? ⟨w.heap.size + 2, 0, none⟩ = some (.slice t.A t.ins.length t.c) := HB10.out.cell 0; have d1 : w10.cell? ⟨w.heap.size + 2, 1, none⟩ = some (.slice t.B t.outs.length t.d) := HB10.out.cell 1; have d2 : w10.cell? ⟨w.heap.size + 2, 2, none⟩ = some (.int .u64 (t.nonce : Int)) := HB10.out.cell 2)
                  | ((with_reducible show wpList _ _ _ (⟨none, .store 66 _ _, _, _, _, _⟩ :: _) _ _); refine wpList_store_all rfl 66 (.tmp 2) (.tmp 83) rfl w.heap.size 66 txZ (txC noT).toArray rfl rfl HBz10.out rfl HZN.out (txC_one noT) ?_; intro w12 h5 h6 h7; have B12 := Lib.hid h5; have K12 := Lib.hid h6; clear h5 h6 h7))
                refine bodyPost_ret (row_tmp Tryz.results24 _ _ w.heap.size 66 _ _ rfl B12.out Tryz.underlying66 rfl HZN.out _ rfl) rfl ⟨noT, (by rw [HOB.out] <;> rfl), ?_, ?_, ?_, fun W _ => noT_ok W⟩
                · rw [ofV, HOB.out]; rfl
                · exact noT_ok w12
                · exact (Hb10.out).trans (K12.out.below (Hb10.out).size (fun j hj => by omega))
      · have hin : (k : Int) < (c1 : Int) := by omega
        have hgb0 : decide ((k : Int) ≤ 64) = false := decide_eq_false (by omega)
        go_wp2_with (first
          | (go_at_call 23; refine (rfnumber_s _ g d s HR.out 2).mono ?_; unfold RfNum; rw [HM2.out, HS3.out, HC2.out]; rintro e w7 ⟨rfl, hr7, hk7, hz7⟩; have R7 := Lib.hid hr7; have K7 := Lib.hid hk7; clear hr7 hk7 hz7))
        have HB7 : Hid (Blk w7 (w.heap.size + 2) 66 #[.slice A1 k e1, .slice none 0 0, .int .u64 0]) := HB.out.keeps K7.out (by have := HGg.out; omega)
        have HBz7 : Hid (Blk w7 w.heap.size 66 txZ) := HBz.out.keeps K7.out (by have := HGg.out; omega)
        have Hb7 : Hid (Below w.heap.size w w7) := Hb.out.trans (K7.out.below Hb.out.size (fun j hj => by have := HGg.out; omega))
        have HF7 : Hid (Kept (Stored5 g (w.heap.size + 2) none) w7 (fun W => SeesV W W.heap.size A1 (insC l) ∧ ∀ i ∈ l, InOk W i)) := HF.out.step (K7.out.mono (fun j _ h => .inl (.inl h))) (fun _ _ h => h)
        clear HB HBz Hb HF K7 HR HC2 hin hwc2 hgb0
        go_loopw [9] (fun jv wt => ∃ (m : Nat) (o : List OutR) (A2 : Option Addr) (e2 : Nat) (s4 : Option (List UInt8)), m ≤ n2 ∧ jv = .int .i64 m ∧ Hid (o.length = m) ∧ Hid (readOs m s3 = (o, s4)) ∧ Hid (Blk wt (w.heap.size + 2) 66 #[.slice A1 k e1, .slice A2 m e2, .int .u64 0]) ∧ Hid (wt.ownsRow (w.heap.size + 3) 106 33 (.slice A2 m e2) m (outsC o)) ∧ Hid (∀ j, A2.map (·.block) = some j → j ≠ g ∧ d ≠ some j) ∧ Hid (Kept (Stored5 g (w.heap.size + 2) A2) wt (fun W => SeesV W W.heap.size A1 (insC l) ∧ ∀ i ∈ l, InOk W i)) ∧ Hid (Rf wt g d s4) ∧ Hid (Blk wt w.heap.size 66 txZ) ∧ Hid (Below w.heap.size w wt)) (fun jv _ => n2 - (intOf jv).toNat)
        case atStart => exact ⟨0, [], none, 0, s3, by omega, rfl, rfl, rfl, HB7.out, nil_own _ _ _ _, (fun j hj => by cases hj), HF7.out, R7.out, HBz7.out, Hb7.out⟩
        case round =>
          obtain ⟨m, o, A2, e2, s4, hm, rfl, Hl2, Hrd2, HB, HO, HNe, HK, HR, HBz, Hb⟩ := hrel
          clear HB7 HBz7 Hb7 HF7 R7
          have hgl := HR.out.lt
          have HDl : Hid (∀ j, d = some j → j < wr.heap.size) := fun j e => (HR.out.1 j e).2
          have hbl := HB.out.lt
          have Hol : Hid (∀ j, A2.map (·.block) = some j → w.heap.size + 3 ≤ j ∧ j < wr.heap.size) := fun j hj => own_lt HO.out j (by rw [own_blk]; exact hj)
          by_cases hlt : m < n2
          · have hin : (m : Int) < (c2 : Int) := by omega
            have hin2 : (m : Int) ≤ 64 := by omega
            obtain ⟨q1, hq1'⟩ : ∃ x, cutRest s4 8 true = x := ⟨_, rfl⟩
            obtain ⟨q2, hq2'⟩ : ∃ x, cutRest q1 32 true = x := ⟨_, rfl⟩
            obtain ⟨N, hN⟩ : ∃ x, ofLe (cutPiece s4 8 true) = x := ⟨_, rfl⟩
            obtain ⟨xx, hxx⟩ : ∃ x, over zero32 (cutPiece q1 32 true) 32 = x := ⟨_, rfl⟩
            have hro : readO s4 = (⟨N, xx⟩, q2) := by unfold readO; rw [hq1', hq2', hxx, hN]
            have hx32 : xx.length = 32 := by rw [← hxx]; exact hash_len _
            have HQ1 := Lib.hid hq1'
            have HQ2 := Lib.hid hq2'
            have HNn := Lib.hid hN
            have HXx := Lib.hid hxx
            have HRo := Lib.hid hro
            have HX32 := Lib.hid hx32
            have HZH : Hid ((Tryz.prog.info? 26).map (·.size) = some (By xx).toArray.size) := by show _ = _; rw [List.size_toArray, By_length, hx32]; exact Tryz.sizeH
            clear hq1' hq2' hN hxx hro hx32
            go_wp2_with (first
              | ((with_reducible show wpList _ _ _ (⟨none, .store 106 _ _, _, _, _, _⟩ :: _) _ _); (show wpList _ _ _ _ _ (wr.alloc (.cells outZ 106))); refine wpList_store_all rfl 106 (.tmp 10) (.tmp 59) rfl wr.heap.size 106 outZ outZ rfl rfl (heap_alloc_new wr _) rfl HZOU.out outZ_one ?_; intro wa h5 h6 h7; have Ba := Lib.hid h5; have Ka : Hid (Keeps (· = g) wr wa) := Keeps.fresh ((Keeps.refl (· = g) wr).alloc _) h6 (Nat.le_refl _); have Ra : Hid (Rf wa g d s4) := (HR.out.below (nxAl (nxRf wr) _)).keeps h6 (by omega) (fun j e => by have := HDl.out j e; omega); clear h5 h6 h7)
              | (go_at_call 23; refine (rfnumber_s _ g d s4 Ra.out 8).mono ?_; unfold RfNum; rw [HM8.out, HQ1.out, HNn.out]; rintro e wb ⟨rfl, hrb, hkb, hzb⟩; have Rb := Lib.hid hrb; have Kb : Hid (Keeps (· = g) wr wb) := Ka.out.trans hkb; have Bb := Lib.hid (Ba.out.keeps hkb (by omega)); clear hrb hkb hzb)
              | ((with_reducible show wpList _ _ _ (⟨none, .store 27 _ _, _, _, _, _⟩ :: _) _ _); refine wpList_store_part rfl 27 (.tmp 62) (.tmp 61) rfl wr.heap.size 0 106 outZ #[.int .u64 (N : Int)] (Value.int .u64 (N : Int) :: zeros32).toArray (.int .u64 (N : Int)) rfl rfl rfl Bb.out (by show (1 : Nat) ≤ 33; omega) HZU64.out (by intro u hu; simp at hu; subst hu; rfl) (cat_out0 _) ?_; intro wc h5 h6 h7; have Bc := Lib.hid h5; have Kc : Hid (Keeps (· = g) wr wc) := Keeps.fresh Kb.out h6 (Nat.le_refl _); have Rc : Hid (Rf wc g d q1) := Rb.out.keeps h6 (by omega) (fun j e => by have := HDl.out j e; omega); clear h5 h6 h7)
              | (go_at_call 50; refine (rfhash_s _ g d q1 Rc.out).mono ?_; rw [HQ2.out, HXx.out]; rintro e wd ⟨rfl, hrd, hkd⟩; have Rdd := Lib.hid hrd; have Kd : Hid (Keeps (· = g) wr wd) := Kc.out.trans hkd; have Bd := Lib.hid (Bc.out.keeps hkd (by omega)); clear hrd hkd)
              | ((with_reducible show wpList _ _ _ (⟨none, .store 26 _ _, _, _, _, _⟩ :: _) _ _); refine wpList_store_part rfl 26 (.tmp 65) (.tmp 64) rfl wr.heap.size 1 106 (Value.int .u64 (N : Int) :: zeros32).toArray (By xx).toArray (outC ⟨N, xx⟩).toArray (.agg (By xx).toArray) rfl rfl rfl Bd.out (by rw [List.size_toArray, By_length, HX32.out]; show (33 : Nat) ≤ 33; omega) HZH.out (By_one xx) (cat_out1 HX32.out _) ?_; intro w4 h5 h6 h7; have B4 := Lib.hid h5; have K4 : Hid (Keeps (· = g) wr w4) := Keeps.fresh Kd.out h6 (Nat.le_refl _); have R4 : Hid (Rf w4 g d (readO s4).2) := (by show Rf _ _ _ _; rw [HRo.out]; exact Rdd.out.keeps h6 (by omega) (fun j e => by have := HDl.out j e; omega)); have cc4 : w4.cell? ⟨w.heap.size + 2, 1, none⟩ = some (.slice A2 m e2) := ((K4.out.cell (p := ⟨w.heap.size + 2, 1, none⟩) hbl (by show ¬ (w.heap.size + 2 = g); have := HGg.out; omega)).trans (HB.out.cell 1)); clear h5 h6 h7; obtain ⟨x, hx⟩ : ∃ x : OutR, (⟨N, xx⟩ : OutR) = x := ⟨_, rfl⟩; have HX : Hid ((readO s4).1 = x) := (by show _ = _; rw [HRo.out]; exact hx); have HXo : Hid (OutOk x) := (by have h := readO_ok s4; rw [HX.out] at h; exact h); rw [hx] at B4; have HZo : Hid ((Tryz.prog.info? 106).map (·.size) = some (outC x).length) := (by show _ = _; rw [outC_len HXo.out.lock]; exact Tryz.sizeOut); clear hx; clear Ra Rb Rc Rdd Ka Kb Kc Kd Ba Bb Bc Bd)
              | ((with_reducible show wpList _ _ _ (⟨some 68, _, _, _, _, _⟩ :: _) _ _); refine wpList_load_mid rfl 106 (.tmp 10) rfl wr.heap.size 0 rfl (outC x) _ (blkR B4.out) Tryz.underlying106 rfl HZo.out ?_)
              | ((with_reducible show wpList _ _ _ (⟨some 69, _, _, _, _, _⟩ :: _) _ _); refine wpList_build_one rfl 64 106 (.tmp 68) rfl (outC x) _ 33 40 Tryz.underlying64 Tryz.outinfo (by decide) (by decide) (outC_len HXo.out.lock) rfl ?_; have KA : Hid (Keeps (fun b => b = g) wr (w4.alloc (.cells (outC x).toArray 106))) := K4.out.alloc _; have HOa : Hid ((w4.alloc (.cells (outC x).toArray 106)).ownsRow (w.heap.size + 3) 106 33 (.slice A2 m e2) m (outsC o)) := own_keepsS HO.out KA.out (fun j hj => (HNe.out j (by rw [← own_blk]; exact hj)).1); have HSi : Hid (SeesV (w4.alloc (.cells (outC x).toArray 106)) (w4.alloc (.cells (outC x).toArray 106)).heap.size (some ⟨w4.heap.size, 0, none⟩) (outC x)) := SeesV.blk (heap_alloc_new w4 _); have hsa : (w4.alloc (.cells (outC x).toArray 106)).heap.size = w4.heap.size + 1 := (by simp); have HSa := Lib.hid hsa; have h4s := K4.out.size; have h7s : w.heap.size + 3 ≤ wr.heap.size := (by have := HGg.out; omega); have hsb : w.heap.size + 3 ≤ (w4.alloc (.cells (outC x).toArray 106)).heap.size := (by omega); clear hsa)
              | ((with_reducible show wpList _ _ _ (⟨some 70, _, _, _, _, _⟩ :: _) _ _); refine wpList_append_seesV rfl (.tmp 67) (.tmp 69) 64 rfl (w.heap.size + 3) 106 j0 _ 33 40 Tryz.underlying64 hj0 hy0 hy1 hy2 rfl (by decide) (.slice A2 m e2) m (outsC o) rfl HOa.out _ (some ⟨w4.heap.size, 0, none⟩) 1 1 (outC x) rfl (outC_len HXo.out.lock) HSi.out (fun u hu => outC_one x u (by simpa using hu)) (by omega) (by omega) hsb ?_; intro v5 w5 ho5 hg5 hv5; obtain ⟨A5, e5, rfl⟩ := own_form ho5; have O5 := Lib.hid ho5; have G5 := Lib.hid hg5; have NV5 := Lib.hid hv5; clear ho5 hg5 hv5; have W5 : Hid (∀ b, b < wr.heap.size → b ≠ g → A2.map (·.block) ≠ some b → w5.heap[b]? = wr.heap[b]?) := fun b hb h1 h2 => (G5.out.block b (by have := HSa.out; omega) (by rw [own_blk]; exact fun h => h2 h.symm)).trans (KA.out.block b hb h1); have S5 : Hid (wr.heap.size ≤ w5.heap.size) := (by show _ ≤ _; have := G5.out.size; have := HSa.out; omega); have hnb : ∀ b, b < w.heap.size + 3 → A2.map (·.block) ≠ some b := fun b hb h => (by have := (Hol.out b h).1; omega); have HB5 : Hid (Blk w5 (w.heap.size + 2) 66 #[.slice A1 k e1, .slice A2 m e2, .int .u64 0]) := HB.out.of_eq (W5.out _ hbl (by have := HGg.out; omega) (hnb _ (by omega))); have c5 : w5.cell? ⟨w.heap.size + 2, 1, none⟩ = some (.slice A2 m e2) := HB5.out.cell 1; have f5 : w5.frozen? ⟨w.heap.size + 2, 1, none⟩ = false := HB5.out.frozen 1))
            obtain ⟨w6, hw6⟩ : ∃ W, w5.setCell ⟨w.heap.size + 2, 1, none⟩ (.slice A5 (m + 1) e5) = W := ⟨_, rfl⟩
            have HW6 := Lib.hid hw6
            clear hw6
            have K56 : Hid (Keeps (fun b => b = w.heap.size + 2) w5 w6) := by show Keeps _ _ _; rw [← HW6.out]; exact (Keeps.refl (fun b => b = w.heap.size + 2) w5).setCell (p := ⟨w.heap.size + 2, 1, none⟩) rfl _
            have K36 : Hid (Keeps (Stored g (w.heap.size + 2) A2) wr w6) := by
              have k1 := K4.out.os; have k2 := K4.out.tape; have k3 := K4.out.output
              exact ⟨K56.out.os.trans (G5.out.os.trans k1), K56.out.tape.trans (G5.out.tape.trans k2), K56.out.output.trans (G5.out.output.trans k3), Nat.le_trans S5.out K56.out.size, fun b hb hn => (K56.out.block b (Nat.lt_of_lt_of_le hb S5.out) (fun h => hn (.inr (.inl h)))).trans (W5.out b hb (fun h => hn (.inl h)) (fun h => hn (.inr (.inr h))))⟩
            have K46 : Hid (Keeps (fun b => b = w.heap.size + 2 ∨ A2.map (·.block) = some b) w4 w6) :=
              ⟨K56.out.os.trans G5.out.os, K56.out.tape.trans G5.out.tape, K56.out.output.trans G5.out.output, by have := G5.out.size; have := K56.out.size; have := HSa.out; omega,
                fun b hb hn => (K56.out.block b (by have := G5.out.size; have := HSa.out; omega) (fun h => hn (.inl h))).trans ((G5.out.block b (by have := HSa.out; omega) (by rw [own_blk]; exact fun h => hn (.inr h.symm))).trans ((nxAl (nxRf w4) _).block b hb))⟩
            have N5 : Hid (∀ j, A5.map (·.block) = some j → (A2.map (·.block) = some j ∧ j < wr.heap.size) ∨ j = w4.heap.size + 1) := fun j hj => by
              rcases NV5.out with h | h
              · rw [own_blk, own_blk, hj] at h; exact .inl ⟨h.symm, (Hol.out j h.symm).2⟩
              · rw [own_blk, hj] at h; injection h with h; have := HSa.out; exact .inr (by omega)
            have HB6 : Hid (Blk w6 (w.heap.size + 2) 66 #[.slice A1 k e1, .slice A5 (m + 1) e5, .int .u64 0]) := by show Blk _ _ _ _; rw [← HW6.out]; exact HB5.out.set 1 _
            have HO6 : Hid (w6.ownsRow (w.heap.size + 3) 106 33 (.slice A5 (m + 1) e5) (m + 1) (outsC (o ++ [x]))) := by
              show World.ownsRow _ _ _ _ _ _ _
              rw [outsC_snoc]
              exact own_keepsS O5.out K56.out (fun j hj h => by have := (own_lt O5.out j hj).1; omega)
            have HN6 : Hid (∀ j, A5.map (·.block) = some j → j ≠ g ∧ d ≠ some j) := fun j hj => by
              rcases N5.out j hj with h | h
              · exact HNe.out j h.1
              · exact ⟨by omega, fun e => by have := HDl.out j e; omega⟩
            have HK6 : Hid (Kept (Stored5 g (w.heap.size + 2) A5) w6 (fun W => SeesV W W.heap.size A1 (insC l) ∧ ∀ i ∈ l, InOk W i)) := by
              refine HK.out.step (K36.out.mono (fun _ _ h => .inl h)) (fun b hb h => ?_)
              rcases h with (h | h | h) | h
              · exact .inl (.inl h)
              · exact .inl (.inr (.inl h))
              · rcases N5.out b h with h | h
                · exact .inl (.inr (.inr h.1))
                · omega
              · exact .inr h
            have HR6 : Hid (Rf w6 g d (readO s4).2) := R4.out.keeps K46.out (fun h => by rcases h with h | h; have := HGg.out; omega; exact (HNe.out g h).1 rfl) (fun j e h => by rcases h with h | h; have := HDd.out j e; omega; exact (HNe.out j h).2 e)
            have HBz6 : Hid (Blk w6 w.heap.size 66 txZ) := HBz.out.keeps K36.out (fun h => by rcases h with h | h | h; have := HGg.out; omega; omega; exact hnb _ (by omega) h)
            have Hb6 : Hid (Below w.heap.size w w6) := kept_below Hb.out K36.out Hb.out.size (by have := HGg.out; omega) (by omega) (fun j hj => by have := (Hol.out j hj).1; omega)
            have Hl6 : Hid ((o ++ [x]).length = m + 1) := by show _ = _; rw [List.length_append, Hl2.out]; rfl
            have Hr6 : Hid (readOs (m + 1) s3 = (o ++ [x], (readO s4).2)) := by
              show _ = _
              rw [readOs_next Hrd2.out, HX.out]
            clear HB HO HNe HK HR HBz Hb Hrd2 HXo R4 K4 cc4 KA HOa HSi O5 G5 NV5 W5 HB5 K56 K36 K46 N5 Hol HDl HX c5 f5
            rw [HW6.out]
            go_roundw
            case rel => exact ⟨m + 1, o ++ [x], A5, e5, (readO s4).2, by omega, by go_num, Hl6.out, Hr6.out, HB6.out, HO6.out, HN6.out, HK6.out, HR6.out, HBz6.out, Hb6.out⟩
            case measure => simp [intOf] <;> omega
          · obtain rfl : m = n2 := by omega
            obtain ⟨s5, hs5⟩ : ∃ x, cutRest s4 8 true = x := ⟨_, rfl⟩
            obtain ⟨N, hN⟩ : ∃ x, ofLe (cutPiece s4 8 true) = x := ⟨_, rfl⟩
            have hN64 : N < 18446744073709551616 := by rw [← hN]; exact ofLe_lt8 s4 8 (by decide)
            obtain ⟨hp, hr⟩ := of_parts (b := b) (I := l.map inP) (s := s) (s4 := s4) (o := o) (by rw [HN1.out, HS1.out]; exact Hrd.out) (by rw [HN2.out, HS3.out]; exact Hrd2.out)
            rw [hN] at hp
            rw [hs5] at hr
            obtain ⟨t, ht⟩ : ∃ t : TxR, (⟨A1, e1, l, A2, e2, o, N⟩ : TxR) = t := ⟨_, rfl⟩
            have hpt : txP t = ofP b := by rw [hp, ← ht]; rfl
            have hoo : ∀ y ∈ o, OutOk y := by have h1 := readOs_ok m s3; rw [Hrd2.out] at h1; exact h1
            have HTk : Hid (Kept (Stored5 g (w.heap.size + 2) none) wr (fun W => TxOk W t)) := by
              have h1 := HK.out.sub (S' := Stored5 g (w.heap.size + 2) none) (fun j h => by
                rcases h with (h | h | h) | h
                · exact .inl (.inl h)
                · exact .inl (.inr (.inl h))
                · cases h
                · exact .inr h)
              have h2 : Kept (Stored5 g (w.heap.size + 2) none) wr (fun W => SeesV W W.heap.size A2 (outsC o)) := own_kept HO.out (fun j hj h => by
                have q1 := HNe.out j (by rw [← own_blk]; exact hj)
                have q2 := (own_lt HO.out j hj).1
                rcases h with (h | h | h) | h
                · exact q1.1 h
                · omega
                · cases h
                · omega)
              have hd2 := own_cap' HO.out
              refine (h1.and h2).mono (fun W hW => ?_)
              rw [← ht]
              exact ⟨hW.1.1, hW.1.2, hW.2, hoo, by show l.length ≤ _; rw [Hl.out]; exact HE1.out, by show o.length ≤ _; rw [Hl2.out]; exact hd2, hN64, by show l.length ≤ _; rw [Hl.out]; omega, by show o.length ≤ _; rw [Hl2.out]; omega⟩
            have hBt : #[Value.slice A1 k e1, .slice A2 m e2, .int .u64 (N : Int)] = (txC t).toArray := by rw [← ht, ← Hl.out, ← Hl2.out]; rfl
            have HBT := Lib.hid hBt
            have HPT := Lib.hid hpt
            have HSv := Lib.hid hs5
            have HNv := Lib.hid hN
            have HRv := Lib.hid hr
            have hm8 : may 8 = true := rfl
            have HM8 := Lib.hid hm8
            clear hs5 hN hp hr ht hpt hoo hN64 HO HNe HK hBt Hl Hl2 Hrd Hrd2 hm8 hlt HE1
            obtain ⟨z, hz⟩ : ∃ z, checkT t = z := ⟨_, rfl⟩
            have HZv := Lib.hid hz
            clear hz
            have HZT : Hid ((Tryz.prog.info? 66).map (·.size) = some (txC t).toArray.size) := Tryz.sizeTx
            have HZN : Hid ((Tryz.prog.info? 66).map (·.size) = some (txC noT).toArray.size) := Tryz.sizeTx
            by_cases hcc : c2 ≤ m
            · have hin : ¬ ((m : Int) < (c2 : Int)) := by omega
              by_cases hs : s5 = some []
              · by_cases hz0 : z = 0
                · subst hs hz0
                  have HOB : Hid (ofB b = true) := by show _ = _; rw [ofB, HRv.out, ← HPT.out, checkT_up, HZv.out]; rfl
                  have HRe : Hid (doneB (some []) = true) := by show _ = _; simp [doneB]
                  go_wp2_with (first
                    | (go_at_call 23; refine (rfnumber_s _ g d s4 HR.out 8).mono ?_; unfold RfNum; rw [HM8.out, HNv.out, HSv.out]; rintro e w8 ⟨rfl, hr8, hk8, hz8⟩; have R8 := Lib.hid hr8; have K8 := Lib.hid hk8; clear hr8 hk8 hz8; have HB8 : Hid (Blk w8 (w.heap.size + 2) 66 #[.slice A1 k e1, .slice A2 m e2, .int .u64 0]) := HB.out.keeps K8.out (by have := HGg.out; omega); have c28 : w8.cell? ⟨w.heap.size + 2, 2, none⟩ = some (.int .u64 0) := HB8.out.cell 2; have f28 : w8.frozen? ⟨w.heap.size + 2, 2, none⟩ = false := HB8.out.frozen 2)
                    | (go_at_call 25; refine (rfdone_s _ g d (some []) (R8.out.keeps ((Keeps.refl (fun b => b = w.heap.size + 2) w8).setCell (p := ⟨w.heap.size + 2, 2, none⟩) rfl _) (by have := HGg.out; omega) (fun j e h => by have := HDd.out j e; omega))).mono ?_; rw [HRe.out]; rintro e w10 ⟨rfl, hw10⟩; have W10 := Lib.hid hw10; clear hw10; have HB10 : Hid (Blk w10 (w.heap.size + 2) 66 (txC t).toArray) := (by show Blk _ _ _ _; rw [← HBT.out, ← W10.out]; exact HB8.out.set 2 _); have K10 : Hid (Keeps (Stored g (w.heap.size + 2) none) wr w10) := (by show Keeps _ _ _; rw [← W10.out]; exact (K8.out.mono (fun j _ h => .inl h)).setCell (p := ⟨w.heap.size + 2, 2, none⟩) (.inr (.inl rfl)) _); have HBz10 := Lib.hid (HBz.out.keeps K10.out (fun h => by rcases h with h | h | h; have := HGg.out; omega; omega; cases h)); have HT10 := Lib.hid (HTk.out w10 (K10.out.mono (fun _ _ h => .inl h))); have Hb10 := Lib.hid (kept_below Hb.out K10.out Hb.out.size (by have := HGg.out; omega) (by omega) (fun j hj => by cases hj)); have HB10r := Lib.hid (blkR (vs := txC t) HB10.out); have d0 : w10.cell? ⟨w.heap.size + 2, 0, none⟩ = some (.slice t.A t.ins.length t.c) := HB10.out.cell 0; have d1 : w10.cell? ⟨w.heap.size + 2, 1, none⟩ = some (.slice t.B t.outs.length t.d) := HB10.out.cell 1; have d2 : w10.cell? ⟨w.heap.size + 2, 2, none⟩ = some (.int .u64 (t.nonce : Int)) := HB10.out.cell 2)
                    | (go_at_call 53; refine (rmay_any w10 t HT10.out).mono ?_; rw [HZv.out]; rintro e w11 ⟨rfl, hb11⟩; have V11 := Lib.hid hb11; clear hb11; have HB11 := Lib.hid (HB10.out.below V11.out HB10.out.lt); clear d0 d1 d2; have d0 : w11.cell? ⟨w.heap.size + 2, 0, none⟩ = some (.slice t.A t.ins.length t.c) := HB11.out.cell 0; have d1 : w11.cell? ⟨w.heap.size + 2, 1, none⟩ = some (.slice t.B t.outs.length t.d) := HB11.out.cell 1; have d2 : w11.cell? ⟨w.heap.size + 2, 2, none⟩ = some (.int .u64 (t.nonce : Int)) := HB11.out.cell 2)
                    | ((with_reducible show wpList _ _ _ (⟨none, .store 66 _ _, _, _, _, _⟩ :: _) _ _); refine wpList_store_all rfl 66 (.tmp 2) (.tmp 84) rfl w.heap.size 66 txZ (txC t).toArray rfl rfl (HBz10.out.below V11.out HBz10.out.lt) rfl HZT.out (txC_one t) ?_; intro w12 h5 h6 h7; have B12 := Lib.hid h5; have K12 := Lib.hid h6; clear h5 h6 h7))
                  refine bodyPost_ret (row_tmp Tryz.results24 _ _ w.heap.size 66 _ _ rfl B12.out Tryz.underlying66 rfl HZT.out _ rfl) rfl ⟨t, (by rw [HOB.out] <;> rfl), ?_, ?_, ?_, ?_⟩
                  · rw [ofV, HOB.out, HPT.out]; rfl
                  · refine HTk.out w12 ?_
                    have k1 : Keeps (Stored5 g (w.heap.size + 2) none) wr w10 := K10.out.mono (fun _ _ h => .inl h)
                    exact (k1.trans (Keeps.of_below V11.out _)).trans (K12.out.mono (fun j _ h => .inr (by omega)))
                  · exact (nxTr Hb10.out V11.out).trans (K12.out.below (nxTr Hb10.out V11.out).size (fun j hj => by omega))
                  · have k1 : Keeps (Stored5 g (w.heap.size + 2) none) wr w10 := K10.out.mono (fun _ _ h => .inl h)
                    exact HTk.out.step ((k1.trans (Keeps.of_below V11.out _)).trans (K12.out.mono (fun j _ h => .inr (by omega)))) (fun j _ h => .inr (by omega))
                · subst hs
                  have HOB : Hid (ofB b = false) := by show _ = _; rw [ofB, HRv.out, ← HPT.out, checkT_up, HZv.out]; simp [hz0]
                  have hzf : (z == 0) = false := beq_eq_false_iff_ne.2 hz0
                  have HRe : Hid (doneB (some []) = true) := by show _ = _; simp [doneB]
                  go_wp2_with (first
                    | (go_at_call 23; refine (rfnumber_s _ g d s4 HR.out 8).mono ?_; unfold RfNum; rw [HM8.out, HNv.out, HSv.out]; rintro e w8 ⟨rfl, hr8, hk8, hz8⟩; have R8 := Lib.hid hr8; have K8 := Lib.hid hk8; clear hr8 hk8 hz8; have HB8 : Hid (Blk w8 (w.heap.size + 2) 66 #[.slice A1 k e1, .slice A2 m e2, .int .u64 0]) := HB.out.keeps K8.out (by have := HGg.out; omega); have c28 : w8.cell? ⟨w.heap.size + 2, 2, none⟩ = some (.int .u64 0) := HB8.out.cell 2; have f28 : w8.frozen? ⟨w.heap.size + 2, 2, none⟩ = false := HB8.out.frozen 2)
                    | (go_at_call 25; refine (rfdone_s _ g d (some []) (R8.out.keeps ((Keeps.refl (fun b => b = w.heap.size + 2) w8).setCell (p := ⟨w.heap.size + 2, 2, none⟩) rfl _) (by have := HGg.out; omega) (fun j e h => by have := HDd.out j e; omega))).mono ?_; rw [HRe.out]; rintro e w10 ⟨rfl, hw10⟩; have W10 := Lib.hid hw10; clear hw10; have HB10 : Hid (Blk w10 (w.heap.size + 2) 66 (txC t).toArray) := (by show Blk _ _ _ _; rw [← HBT.out, ← W10.out]; exact HB8.out.set 2 _); have K10 : Hid (Keeps (Stored g (w.heap.size + 2) none) wr w10) := (by show Keeps _ _ _; rw [← W10.out]; exact (K8.out.mono (fun j _ h => .inl h)).setCell (p := ⟨w.heap.size + 2, 2, none⟩) (.inr (.inl rfl)) _); have HBz10 := Lib.hid (HBz.out.keeps K10.out (fun h => by rcases h with h | h | h; have := HGg.out; omega; omega; cases h)); have HT10 := Lib.hid (HTk.out w10 (K10.out.mono (fun _ _ h => .inl h))); have Hb10 := Lib.hid (kept_below Hb.out K10.out Hb.out.size (by have := HGg.out; omega) (by omega) (fun j hj => by cases hj)); have HB10r := Lib.hid (blkR (vs := txC t) HB10.out); have d0 : w10.cell? ⟨w.heap.size + 2, 0, none⟩ = some (.slice t.A t.ins.length t.c) := HB10.out.cell 0; have d1 : w10.cell? ⟨w.heap.size + 2, 1, none⟩ = some (.slice t.B t.outs.length t.d) := HB10.out.cell 1; have d2 : w10.cell? ⟨w.heap.size + 2, 2, none⟩ = some (.int .u64 (t.nonce : Int)) := HB10.out.cell 2)
                    | (go_at_call 53; refine (rmay_any w10 t HT10.out).mono ?_; rw [HZv.out]; rintro e w11 ⟨rfl, hb11⟩; have V11 := Lib.hid hb11; clear hb11; have HB11 := Lib.hid (HB10.out.below V11.out HB10.out.lt); clear d0 d1 d2; have d0 : w11.cell? ⟨w.heap.size + 2, 0, none⟩ = some (.slice t.A t.ins.length t.c) := HB11.out.cell 0; have d1 : w11.cell? ⟨w.heap.size + 2, 1, none⟩ = some (.slice t.B t.outs.length t.d) := HB11.out.cell 1; have d2 : w11.cell? ⟨w.heap.size + 2, 2, none⟩ = some (.int .u64 (t.nonce : Int)) := HB11.out.cell 2)
                    | ((with_reducible show wpList _ _ _ (⟨none, .store 66 _ _, _, _, _, _⟩ :: _) _ _); refine wpList_store_all rfl 66 (.tmp 2) (.tmp 83) rfl w.heap.size 66 txZ (txC noT).toArray rfl rfl (HBz10.out.below V11.out HBz10.out.lt) rfl HZN.out (txC_one noT) ?_; intro w12 h5 h6 h7; have B12 := Lib.hid h5; have K12 := Lib.hid h6; clear h5 h6 h7))
                  refine bodyPost_ret (row_tmp Tryz.results24 _ _ w.heap.size 66 _ _ rfl B12.out Tryz.underlying66 rfl HZN.out _ rfl) rfl ⟨noT, (by rw [HOB.out] <;> rfl), ?_, ?_, ?_, fun W _ => noT_ok W⟩
                  · rw [ofV, HOB.out]; rfl
                  · exact noT_ok w12
                  · exact (nxTr Hb10.out V11.out).trans (K12.out.below (nxTr Hb10.out V11.out).size (fun j hj => by omega))
              · have HOB : Hid (ofB b = false) := by show _ = _; rw [ofB, HRv.out, decide_eq_false hs, Bool.false_and]
                have HRe : Hid (doneB s5 = false) := by show _ = _; rw [doneB, decide_eq_false hs]
                go_wp2_with (first
                  | (go_at_call 23; refine (rfnumber_s _ g d s4 HR.out 8).mono ?_; unfold RfNum; rw [HM8.out, HNv.out, HSv.out]; rintro e w8 ⟨rfl, hr8, hk8, hz8⟩; have R8 := Lib.hid hr8; have K8 := Lib.hid hk8; clear hr8 hk8 hz8; have HB8 : Hid (Blk w8 (w.heap.size + 2) 66 #[.slice A1 k e1, .slice A2 m e2, .int .u64 0]) := HB.out.keeps K8.out (by have := HGg.out; omega); have c28 : w8.cell? ⟨w.heap.size + 2, 2, none⟩ = some (.int .u64 0) := HB8.out.cell 2; have f28 : w8.frozen? ⟨w.heap.size + 2, 2, none⟩ = false := HB8.out.frozen 2)
                  | (go_at_call 25; refine (rfdone_s _ g d s5 (R8.out.keeps ((Keeps.refl (fun b => b = w.heap.size + 2) w8).setCell (p := ⟨w.heap.size + 2, 2, none⟩) rfl _) (by have := HGg.out; omega) (fun j e h => by have := HDd.out j e; omega))).mono ?_; rw [HRe.out]; rintro e w10 ⟨rfl, hw10⟩; have W10 := Lib.hid hw10; clear hw10; have HB10 : Hid (Blk w10 (w.heap.size + 2) 66 (txC t).toArray) := (by show Blk _ _ _ _; rw [← HBT.out, ← W10.out]; exact HB8.out.set 2 _); have K10 : Hid (Keeps (Stored g (w.heap.size + 2) none) wr w10) := (by show Keeps _ _ _; rw [← W10.out]; exact (K8.out.mono (fun j _ h => .inl h)).setCell (p := ⟨w.heap.size + 2, 2, none⟩) (.inr (.inl rfl)) _); have HBz10 := Lib.hid (HBz.out.keeps K10.out (fun h => by rcases h with h | h | h; have := HGg.out; omega; omega; cases h)); have HT10 := Lib.hid (HTk.out w10 (K10.out.mono (fun _ _ h => .inl h))); have Hb10 := Lib.hid (kept_below Hb.out K10.out Hb.out.size (by have := HGg.out; omega) (by omega) (fun j hj => by cases hj)); have HB10r := Lib.hid (blkR (vs := txC t) HB10.out); have d0 : w10.cell? ⟨w.heap.size + 2, 0, none⟩ = some (.slice t.A t.ins.length t.c) := HB10.out.cell 0; have d1 : w10.cell? ⟨w.heap.size + 2, 1, none⟩ = some (.slice t.B t.outs.length t.d) := HB10.out.cell 1; have d2 : w10.cell? ⟨w.heap.size + 2, 2, none⟩ = some (.int .u64 (t.nonce : Int)) := HB10.out.cell 2)
                  | ((with_reducible show wpList _ _ _ (⟨none, .store 66 _ _, _, _, _, _⟩ :: _) _ _); refine wpList_store_all rfl 66 (.tmp 2) (.tmp 83) rfl w.heap.size 66 txZ (txC noT).toArray rfl rfl HBz10.out rfl HZN.out (txC_one noT) ?_; intro w12 h5 h6 h7; have B12 := Lib.hid h5; have K12 := Lib.hid h6; clear h5 h6 h7))
                refine bodyPost_ret (row_tmp Tryz.results24 _ _ w.heap.size 66 _ _ rfl B12.out Tryz.underlying66 rfl HZN.out _ rfl) rfl ⟨noT, (by rw [HOB.out] <;> rfl), ?_, ?_, ?_, fun W _ => noT_ok W⟩
                · rw [ofV, HOB.out]; rfl
                · exact noT_ok w12
                · exact (Hb10.out).trans (K12.out.below (Hb10.out).size (fun j hj => by omega))
            · have hin : (m : Int) < (c2 : Int) := by omega
              have hgb : decide ((m : Int) ≤ 64) = false := decide_eq_false (by omega)
              by_cases hs : s5 = some []
              · by_cases hz0 : z = 0
                · subst hs hz0
                  have HOB : Hid (ofB b = true) := by show _ = _; rw [ofB, HRv.out, ← HPT.out, checkT_up, HZv.out]; rfl
                  have HRe : Hid (doneB (some []) = true) := by show _ = _; simp [doneB]
                  go_wp2_with (first
                    | (go_at_call 23; refine (rfnumber_s _ g d s4 HR.out 8).mono ?_; unfold RfNum; rw [HM8.out, HNv.out, HSv.out]; rintro e w8 ⟨rfl, hr8, hk8, hz8⟩; have R8 := Lib.hid hr8; have K8 := Lib.hid hk8; clear hr8 hk8 hz8; have HB8 : Hid (Blk w8 (w.heap.size + 2) 66 #[.slice A1 k e1, .slice A2 m e2, .int .u64 0]) := HB.out.keeps K8.out (by have := HGg.out; omega); have c28 : w8.cell? ⟨w.heap.size + 2, 2, none⟩ = some (.int .u64 0) := HB8.out.cell 2; have f28 : w8.frozen? ⟨w.heap.size + 2, 2, none⟩ = false := HB8.out.frozen 2)
                    | (go_at_call 25; refine (rfdone_s _ g d (some []) (R8.out.keeps ((Keeps.refl (fun b => b = w.heap.size + 2) w8).setCell (p := ⟨w.heap.size + 2, 2, none⟩) rfl _) (by have := HGg.out; omega) (fun j e h => by have := HDd.out j e; omega))).mono ?_; rw [HRe.out]; rintro e w10 ⟨rfl, hw10⟩; have W10 := Lib.hid hw10; clear hw10; have HB10 : Hid (Blk w10 (w.heap.size + 2) 66 (txC t).toArray) := (by show Blk _ _ _ _; rw [← HBT.out, ← W10.out]; exact HB8.out.set 2 _); have K10 : Hid (Keeps (Stored g (w.heap.size + 2) none) wr w10) := (by show Keeps _ _ _; rw [← W10.out]; exact (K8.out.mono (fun j _ h => .inl h)).setCell (p := ⟨w.heap.size + 2, 2, none⟩) (.inr (.inl rfl)) _); have HBz10 := Lib.hid (HBz.out.keeps K10.out (fun h => by rcases h with h | h | h; have := HGg.out; omega; omega; cases h)); have HT10 := Lib.hid (HTk.out w10 (K10.out.mono (fun _ _ h => .inl h))); have Hb10 := Lib.hid (kept_below Hb.out K10.out Hb.out.size (by have := HGg.out; omega) (by omega) (fun j hj => by cases hj)); have HB10r := Lib.hid (blkR (vs := txC t) HB10.out); have d0 : w10.cell? ⟨w.heap.size + 2, 0, none⟩ = some (.slice t.A t.ins.length t.c) := HB10.out.cell 0; have d1 : w10.cell? ⟨w.heap.size + 2, 1, none⟩ = some (.slice t.B t.outs.length t.d) := HB10.out.cell 1; have d2 : w10.cell? ⟨w.heap.size + 2, 2, none⟩ = some (.int .u64 (t.nonce : Int)) := HB10.out.cell 2)
                    | (go_at_call 53; refine (rmay_any w10 t HT10.out).mono ?_; rw [HZv.out]; rintro e w11 ⟨rfl, hb11⟩; have V11 := Lib.hid hb11; clear hb11; have HB11 := Lib.hid (HB10.out.below V11.out HB10.out.lt); clear d0 d1 d2; have d0 : w11.cell? ⟨w.heap.size + 2, 0, none⟩ = some (.slice t.A t.ins.length t.c) := HB11.out.cell 0; have d1 : w11.cell? ⟨w.heap.size + 2, 1, none⟩ = some (.slice t.B t.outs.length t.d) := HB11.out.cell 1; have d2 : w11.cell? ⟨w.heap.size + 2, 2, none⟩ = some (.int .u64 (t.nonce : Int)) := HB11.out.cell 2)
                    | ((with_reducible show wpList _ _ _ (⟨none, .store 66 _ _, _, _, _, _⟩ :: _) _ _); refine wpList_store_all rfl 66 (.tmp 2) (.tmp 84) rfl w.heap.size 66 txZ (txC t).toArray rfl rfl (HBz10.out.below V11.out HBz10.out.lt) rfl HZT.out (txC_one t) ?_; intro w12 h5 h6 h7; have B12 := Lib.hid h5; have K12 := Lib.hid h6; clear h5 h6 h7))
                  refine bodyPost_ret (row_tmp Tryz.results24 _ _ w.heap.size 66 _ _ rfl B12.out Tryz.underlying66 rfl HZT.out _ rfl) rfl ⟨t, (by rw [HOB.out] <;> rfl), ?_, ?_, ?_, ?_⟩
                  · rw [ofV, HOB.out, HPT.out]; rfl
                  · refine HTk.out w12 ?_
                    have k1 : Keeps (Stored5 g (w.heap.size + 2) none) wr w10 := K10.out.mono (fun _ _ h => .inl h)
                    exact (k1.trans (Keeps.of_below V11.out _)).trans (K12.out.mono (fun j _ h => .inr (by omega)))
                  · exact (nxTr Hb10.out V11.out).trans (K12.out.below (nxTr Hb10.out V11.out).size (fun j hj => by omega))
                  · have k1 : Keeps (Stored5 g (w.heap.size + 2) none) wr w10 := K10.out.mono (fun _ _ h => .inl h)
                    exact HTk.out.step ((k1.trans (Keeps.of_below V11.out _)).trans (K12.out.mono (fun j _ h => .inr (by omega)))) (fun j _ h => .inr (by omega))
                · subst hs
                  have HOB : Hid (ofB b = false) := by show _ = _; rw [ofB, HRv.out, ← HPT.out, checkT_up, HZv.out]; simp [hz0]
                  have hzf : (z == 0) = false := beq_eq_false_iff_ne.2 hz0
                  have HRe : Hid (doneB (some []) = true) := by show _ = _; simp [doneB]
                  go_wp2_with (first
                    | (go_at_call 23; refine (rfnumber_s _ g d s4 HR.out 8).mono ?_; unfold RfNum; rw [HM8.out, HNv.out, HSv.out]; rintro e w8 ⟨rfl, hr8, hk8, hz8⟩; have R8 := Lib.hid hr8; have K8 := Lib.hid hk8; clear hr8 hk8 hz8; have HB8 : Hid (Blk w8 (w.heap.size + 2) 66 #[.slice A1 k e1, .slice A2 m e2, .int .u64 0]) := HB.out.keeps K8.out (by have := HGg.out; omega); have c28 : w8.cell? ⟨w.heap.size + 2, 2, none⟩ = some (.int .u64 0) := HB8.out.cell 2; have f28 : w8.frozen? ⟨w.heap.size + 2, 2, none⟩ = false := HB8.out.frozen 2)
                    | (go_at_call 25; refine (rfdone_s _ g d (some []) (R8.out.keeps ((Keeps.refl (fun b => b = w.heap.size + 2) w8).setCell (p := ⟨w.heap.size + 2, 2, none⟩) rfl _) (by have := HGg.out; omega) (fun j e h => by have := HDd.out j e; omega))).mono ?_; rw [HRe.out]; rintro e w10 ⟨rfl, hw10⟩; have W10 := Lib.hid hw10; clear hw10; have HB10 : Hid (Blk w10 (w.heap.size + 2) 66 (txC t).toArray) := (by show Blk _ _ _ _; rw [← HBT.out, ← W10.out]; exact HB8.out.set 2 _); have K10 : Hid (Keeps (Stored g (w.heap.size + 2) none) wr w10) := (by show Keeps _ _ _; rw [← W10.out]; exact (K8.out.mono (fun j _ h => .inl h)).setCell (p := ⟨w.heap.size + 2, 2, none⟩) (.inr (.inl rfl)) _); have HBz10 := Lib.hid (HBz.out.keeps K10.out (fun h => by rcases h with h | h | h; have := HGg.out; omega; omega; cases h)); have HT10 := Lib.hid (HTk.out w10 (K10.out.mono (fun _ _ h => .inl h))); have Hb10 := Lib.hid (kept_below Hb.out K10.out Hb.out.size (by have := HGg.out; omega) (by omega) (fun j hj => by cases hj)); have HB10r := Lib.hid (blkR (vs := txC t) HB10.out); have d0 : w10.cell? ⟨w.heap.size + 2, 0, none⟩ = some (.slice t.A t.ins.length t.c) := HB10.out.cell 0; have d1 : w10.cell? ⟨w.heap.size + 2, 1, none⟩ = some (.slice t.B t.outs.length t.d) := HB10.out.cell 1; have d2 : w10.cell? ⟨w.heap.size + 2, 2, none⟩ = some (.int .u64 (t.nonce : Int)) := HB10.out.cell 2)
                    | (go_at_call 53; refine (rmay_any w10 t HT10.out).mono ?_; rw [HZv.out]; rintro e w11 ⟨rfl, hb11⟩; have V11 := Lib.hid hb11; clear hb11; have HB11 := Lib.hid (HB10.out.below V11.out HB10.out.lt); clear d0 d1 d2; have d0 : w11.cell? ⟨w.heap.size + 2, 0, none⟩ = some (.slice t.A t.ins.length t.c) := HB11.out.cell 0; have d1 : w11.cell? ⟨w.heap.size + 2, 1, none⟩ = some (.slice t.B t.outs.length t.d) := HB11.out.cell 1; have d2 : w11.cell? ⟨w.heap.size + 2, 2, none⟩ = some (.int .u64 (t.nonce : Int)) := HB11.out.cell 2)
                    | ((with_reducible show wpList _ _ _ (⟨none, .store 66 _ _, _, _, _, _⟩ :: _) _ _); refine wpList_store_all rfl 66 (.tmp 2) (.tmp 83) rfl w.heap.size 66 txZ (txC noT).toArray rfl rfl (HBz10.out.below V11.out HBz10.out.lt) rfl HZN.out (txC_one noT) ?_; intro w12 h5 h6 h7; have B12 := Lib.hid h5; have K12 := Lib.hid h6; clear h5 h6 h7))
                  refine bodyPost_ret (row_tmp Tryz.results24 _ _ w.heap.size 66 _ _ rfl B12.out Tryz.underlying66 rfl HZN.out _ rfl) rfl ⟨noT, (by rw [HOB.out] <;> rfl), ?_, ?_, ?_, fun W _ => noT_ok W⟩
                  · rw [ofV, HOB.out]; rfl
                  · exact noT_ok w12
                  · exact (nxTr Hb10.out V11.out).trans (K12.out.below (nxTr Hb10.out V11.out).size (fun j hj => by omega))
              · have HOB : Hid (ofB b = false) := by show _ = _; rw [ofB, HRv.out, decide_eq_false hs, Bool.false_and]
                have HRe : Hid (doneB s5 = false) := by show _ = _; rw [doneB, decide_eq_false hs]
                go_wp2_with (first
                  | (go_at_call 23; refine (rfnumber_s _ g d s4 HR.out 8).mono ?_; unfold RfNum; rw [HM8.out, HNv.out, HSv.out]; rintro e w8 ⟨rfl, hr8, hk8, hz8⟩; have R8 := Lib.hid hr8; have K8 := Lib.hid hk8; clear hr8 hk8 hz8; have HB8 : Hid (Blk w8 (w.heap.size + 2) 66 #[.slice A1 k e1, .slice A2 m e2, .int .u64 0]) := HB.out.keeps K8.out (by have := HGg.out; omega); have c28 : w8.cell? ⟨w.heap.size + 2, 2, none⟩ = some (.int .u64 0) := HB8.out.cell 2; have f28 : w8.frozen? ⟨w.heap.size + 2, 2, none⟩ = false := HB8.out.frozen 2)
                  | (go_at_call 25; refine (rfdone_s _ g d s5 (R8.out.keeps ((Keeps.refl (fun b => b = w.heap.size + 2) w8).setCell (p := ⟨w.heap.size + 2, 2, none⟩) rfl _) (by have := HGg.out; omega) (fun j e h => by have := HDd.out j e; omega))).mono ?_; rw [HRe.out]; rintro e w10 ⟨rfl, hw10⟩; have W10 := Lib.hid hw10; clear hw10; have HB10 : Hid (Blk w10 (w.heap.size + 2) 66 (txC t).toArray) := (by show Blk _ _ _ _; rw [← HBT.out, ← W10.out]; exact HB8.out.set 2 _); have K10 : Hid (Keeps (Stored g (w.heap.size + 2) none) wr w10) := (by show Keeps _ _ _; rw [← W10.out]; exact (K8.out.mono (fun j _ h => .inl h)).setCell (p := ⟨w.heap.size + 2, 2, none⟩) (.inr (.inl rfl)) _); have HBz10 := Lib.hid (HBz.out.keeps K10.out (fun h => by rcases h with h | h | h; have := HGg.out; omega; omega; cases h)); have HT10 := Lib.hid (HTk.out w10 (K10.out.mono (fun _ _ h => .inl h))); have Hb10 := Lib.hid (kept_below Hb.out K10.out Hb.out.size (by have := HGg.out; omega) (by omega) (fun j hj => by cases hj)); have HB10r := Lib.hid (blkR (vs := txC t) HB10.out); have d0 : w10.cell? ⟨w.heap.size + 2, 0, none⟩ = some (.slice t.A t.ins.length t.c) := HB10.out.cell 0; have d1 : w10.cell? ⟨w.heap.size + 2, 1, none⟩ = some (.slice t.B t.outs.length t.d) := HB10.out.cell 1; have d2 : w10.cell? ⟨w.heap.size + 2, 2, none⟩ = some (.int .u64 (t.nonce : Int)) := HB10.out.cell 2)
                  | ((with_reducible show wpList _ _ _ (⟨none, .store 66 _ _, _, _, _, _⟩ :: _) _ _); refine wpList_store_all rfl 66 (.tmp 2) (.tmp 83) rfl w.heap.size 66 txZ (txC noT).toArray rfl rfl HBz10.out rfl HZN.out (txC_one noT) ?_; intro w12 h5 h6 h7; have B12 := Lib.hid h5; have K12 := Lib.hid h6; clear h5 h6 h7))
                refine bodyPost_ret (row_tmp Tryz.results24 _ _ w.heap.size 66 _ _ rfl B12.out Tryz.underlying66 rfl HZN.out _ rfl) rfl ⟨noT, (by rw [HOB.out] <;> rfl), ?_, ?_, ?_, fun W _ => noT_ok W⟩
                · rw [ofV, HOB.out]; rfl
                · exact noT_ok w12
                · exact (Hb10.out).trans (K12.out.below (Hb10.out).size (fun j hj => by omega))

theorem rof_any (w : World) (A : Option Addr) (b : List UInt8) (c : Nat) (hS : Sees w w.heap.size A b) (hbc : b.length ≤ c) (hcm : c ≤ maxLen) (hlen : b.length ≤ 1099511627776) :
    Calls Tryz.prog 24 #[.slice A b.length c] w (ROfPost w b) :=
  (rof_anyK w A b c hS hbc hcm hlen).mono fun _ _ ⟨t, h1, h2, h3, h4, _⟩ => ⟨t, h1, h2, h3, h4⟩
end Go.Proofs.YtbloomnifhcgbaaGreatDoor
