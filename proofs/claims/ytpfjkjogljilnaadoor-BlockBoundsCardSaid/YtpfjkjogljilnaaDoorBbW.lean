/-
  BlockBounds, the walk.
-/
import Derived.Test.YtpfjkjogljilnaaDoorPBbQ10
import Derived.Test.YtpfjkjogljilnaaDoorPBbQ11
namespace Go.Proofs.YtpfjkjogljilnaaDoor
open Go.RowKit

theorem step_build_two {ops : Array Oper} {o : Oper} {a : Act} {w : World} {K : Act → World → Prop} {Q : Exit → Act → World → Prop} {F : Prop} (hg : o.guard = none) (x y : Operand) (ho : o.op = .buildSlice 34 2 #[(0, x), (1, y)])
    (t u : TxR) (hx : a.eval x = .agg (txC t).toArray) (hy : a.eval y = .agg (txC u).toArray)
    (h : K (a.put o.dst (.slice (some ⟨w.heap.size, 0, none⟩) 2 2)) (w.alloc (.cells (txC t ++ txC u).toArray 40))) : if Region.wanted o (yielded ops a.tmps) = true then Oper.wp Tryd.prog o a w K Q else F := by
  have hw : Region.wanted o (yielded ops a.tmps) = true := by simp [Region.wanted, hg]
  rw [if_pos hw]
  obtain ⟨i0, hi, hz0, hz1, hz2⟩ := info_parts Tryd.txinf
  refine wp_buildSlice 34 40 2 #[(0, x), (1, y)] ho (txC t ++ txC u).toArray i0 _ Tryd.underlying34 hi hz0 (by rw [hz1]; omega) (by rw [hz1]; omega) ?_ h
  rw [hz1]
  have e : (#[(0, x), (1, y)].map fun (p : Nat × Operand) => (p.1, a.eval p.2)).toList = [(0, .agg (txC t).toArray), (1, .agg (txC u).toArray)] := by simp [hx, hy]
  have hf := fill_two 3 ((Array.range (2 * 3)).map ((Value.agg #[.slice none 0 0, .slice none 0 0, .int .u64 0]).cells[· % (Value.agg #[.slice none 0 0, .slice none 0 0, .int .u64 0]).cells.size]!)).toList (txC t) (txC u) rfl rfl (by simp)
  rw [Array.toArray_toList] at hf
  rw [← e] at hf
  exact hf
theorem idH_no {b n : Nat} (h : 255 < n) : idH (hdOf b n).p = zero32 := by
  have e : mayH (hdOf b n).p = false := decide_eq_false (by show ¬ (List.replicate n zero32).length ≤ 255; rw [List.length_replicate]; omega)
  rw [idH, e, cond_false]
theorem hdOf_part (b c n m : Nat) :
    ((hdC (hdOf b n)).toArray.toList.take 0 ++ #[Value.slice (some ⟨c, 0, none⟩) m m].toList ++ (hdC (hdOf b n)).toArray.toList.drop (0 + #[Value.slice (some ⟨c, 0, none⟩) m m].size)).toArray = (hdC (hdOf c m)).toArray := by
  simp [hdC, hdOf, tlC]
theorem hdZ_size : hdZ.size = 130 := by
  have h : (hdC noHd).length = 130 := hdC_len noHP_fit
  unfold hdZ
  rw [List.size_toArray, h]
theorem zbk_size : (Tryd.zeroCells42).size = 131 := by kernel_rfl
theorem brootN (w : World) (hTb : Tabs w) (B : Option Addr) (l : List TxR) (n d : Nat) (x : List UInt8) (hn : l.length = n) (hx : rootL (idsL l) = x) (k : TxsOk w B l d) (hmax : n ≤ 1000) :
    Calls Tryd.prog 6 #[.slice B n d] w fun e w' => e = .returned (.agg (By x).toArray) ∧ Below w.heap.size w w' := by
  subst hn
  subst hx
  exact broot_any w hTb B l d k hmax
theorem bI_fit {x : List UInt8} {A : Option Addr} {l : List TxR} {d : Nat} (hx : x.length = 32) : HdFit (bI x A l d).h.p := ⟨(fun y hy => (by cases hy)), hx, rfl, rfl, rfl, (by show 0 < _; omega)⟩
theorem bI_cell {w : World} {g : Nat} {x : List UInt8} {A : Option Addr} {l : List TxR} {n d : Nat} (hx : x.length = 32) (hn : l.length = n) (h : Blk w g 42 (bkC (bI x A l d)).toArray) : w.cell? ⟨g, 130, none⟩ = some (.slice A n d) := by
  subst hn
  exact (BkRow.of (b := bI x A l d) (blkR h) (bI_fit hx)).t
theorem part_bkL (x : List UInt8) (hx : x = zero32) (A : Option Addr) (l : List TxR) (n d : Nat) (hn : l.length = n) (wq : World) : (Instr.build 42 #[(1, .slice A n d)]).run Tryd.prog wq = .ok (.agg (bkC (bI x A l d)).toArray) wq := by
  subst hx
  subst hn
  rw [part_bkI, bI_0]
theorem twice_ok {w : World} {g : Nat} {t : TxR} (h : Blk w g 40 (txC t ++ txC t).toArray) (k : TxOk w t) : TxsOk w (some ⟨g, 0, none⟩) [t, t] 2 where
  s := SeesV.blk h
  each := fun u hu => by
    rcases List.mem_cons.1 hu with rfl | hu
    · exact k
    · rw [List.mem_singleton.1 hu]; exact k
  d := Nat.le_refl _
  m := by show 2 ≤ _; omega
theorem own_cm3 {w : World} {base size n c : Nat} {A : Option Addr} {e : TypeId} {xs : List Value} (h : w.ownsRow base e size (.slice A n c) n xs) : n ≤ c ∧ c ≤ maxLen := by
  rcases h.2 with ⟨hv, h0⟩ | ⟨g, cap, cur, hv, _, _, hnc, hcm, _⟩
  · injection hv with _ _ h3; unfold maxLen; omega
  · injection hv with _ _ h3; omega

set_option maxHeartbeats 8000000 in
set_option maxRecDepth 100000 in
theorem blockBounds_any (w : World) (hTb : Tabs w) : Calls Tryd.prog 3 #[] w fun e w' => e = .returned (.bool true) ∧ Below w.heap.size w w' := by
  have HTb := Lib.hid hTb
  clear hTb
  obtain ⟨L1, hL1⟩ : ∃ L, (Hs (List.replicate 255 zero32)).toArray = L := ⟨_, rfl⟩
  obtain ⟨L2, hL2⟩ : ∃ L, (Hs (List.replicate 256 zero32)).toArray = L := ⟨_, rfl⟩
  have hmkA : ∀ wq : World, (Instr.makeSlice 22 (.int .i64 255) (.int .i64 255)).run Tryd.prog wq = .ok (.slice (some ⟨wq.heap.size, 0, none⟩) 255 255) (wq.alloc (.cells L1 24)) := by rw [← hL1]; exact make_zeros 255 (by omega) (by omega)
  have hmk2 : ∀ wq : World, (Instr.makeSlice 22 (.int .i64 256) (.int .i64 256)).run Tryd.prog wq = .ok (.slice (some ⟨wq.heap.size, 0, none⟩) 256 256) (wq.alloc (.cells L2 24)) := by rw [← hL2]; exact make_zeros 256 (by omega) (by omega)
  have HL1 := Lib.hid hL1
  have HL2 := Lib.hid hL2
  clear hL1 hL2
  have hmi := make_in1
  have HBd : Hid (∀ b, ∀ wq : World, (Instr.build 27 #[(0, .slice (some ⟨b, 0, none⟩) 255 255)]).run Tryd.prog wq = .ok (.agg (hdC (hdOf b 255)).toArray) wq) := fun b => build_hdOf b 255
  have HZh : Hid (∀ h : HdR, HdFit h.p → (Tryd.prog.info? 27).map (·.size) = some (hdC h).length) := fun h f => hdSz f
  have HZh' : Hid (∀ h : HdR, HdFit h.p → (Tryd.prog.info? 27).map (·.size) = some (hdC h).toArray.size) := fun h f => hdSz' f
  have HZs : Hid (∀ h : HdR, HdFit h.p → hdZ.size = (hdC h).toArray.size) := fun h f => by rw [hdZ_size, List.size_toArray, hdC_len f]
  have HK1 : Hid (HdOk (w.alloc (.cells L1 24)) (hdOf w.heap.size 255)) := hdOf_ok (by rw [HL1.out]; exact heap_alloc_new w _) (by omega)
  have HM1 : Hid (mayH (hdOf w.heap.size 255).p = true) := decide_eq_true (by show (List.replicate 255 zero32).length ≤ 255; rw [List.length_replicate]; omega)
  have V1 : Hid (Below w.heap.size w (w.alloc (.cells L1 24))) := nxAl (nxRf w) _
  obtain ⟨h1, hh1⟩ : ∃ h, hdOf w.heap.size 255 = h := ⟨_, rfl⟩
  have HBd1 := HBd.out w.heap.size
  rw [hh1] at HBd1 HK1 HM1
  have HBd1 := Lib.hid HBd1
  have HH1 := Lib.hid hh1
  have hmk1 := hmkA w
  obtain ⟨w1, hw1⟩ : ∃ W, w.alloc (.cells L1 24) = W := ⟨_, rfl⟩
  rw [hw1] at hmk1 HK1 V1
  have S1w : Hid (w.heap.size + 1 = w1.heap.size) := by show _ = _; rw [← hw1]; simp
  obtain ⟨p, hp⟩ : ∃ p, packH h1.p = p := ⟨_, rfl⟩
  have HP := Lib.hid hp
  have HPo : Hid (ofHB p = true) := by show _ = _; rw [← hp]; exact (packH_of HK1.out.f HM1.out).1
  have HPl : Hid (p.length ≤ 1099511627776) := by show _ ≤ _; rw [← hp, packH_len HK1.out.f, ← HH1.out]; show 138 + (List.replicate 255 zero32).length * 32 ≤ _; rw [List.length_replicate]; omega
  have HM2 : Hid (∀ b, mayH (hdOf b 256).p = false) := fun b => decide_eq_false (by show ¬ (List.replicate 256 zero32).length ≤ 255; rw [List.length_replicate]; omega)
  clear hw1 hh1 hp hmkA
  go_enter Tryd.func3, Tryd.ntmps3
  go_wp2_with (first
    | ((with_reducible show wpList _ _ _ (⟨some 18, _, _, _, _, _⟩ :: _) _ _); refine wpList_build1 rfl 27 (.tmp 17) rfl (.slice (some ⟨w.heap.size, 0, none⟩) 255 255) (.agg (hdC h1).toArray) rfl HBd1.out ?_)
    | ((with_reducible show wpList _ _ _ (⟨none, .store 27 (.tmp 1) _, _, _, _, _⟩ :: _) _ _); (show wpList _ _ _ _ _ (w1.alloc (.cells hdZ 27))); refine wpList_store_all rfl 27 (.tmp 1) (.tmp 18) rfl w1.heap.size 27 hdZ (hdC h1).toArray rfl rfl (heap_alloc_new w1 _) (HZs.out h1 HK1.out.f) (HZh'.out h1 HK1.out.f) (hdC_one h1) ?_; intro w2 h5 h6 h7; have B2 := Lib.hid h5; have V2 : Hid (Below w1.heap.size w1 w2) := belowFresh h6; have K2 := Lib.hid (HK1.out.later V2.out); clear h5 h6 h7)
    | ((with_reducible show wpList _ _ _ (⟨some 20, _, _, _, _, _⟩ :: _) _ _); refine wpList_load_mid rfl 27 (.tmp 1) rfl w1.heap.size 0 rfl (hdC h1) _ (blkR B2.out) Tryd.underlying27 rfl (HZh.out h1 HK1.out.f) ?_)
    | (go_at_call 4; (with_reducible show Calls _ _ #[.agg (hdC h1).toArray] _ _); refine (hbytes_yes w2 h1 K2.out HM1.out).mono ?_; unfold HBytesPost; rw [HP.out]; rintro e w3 ⟨⟨A3, c3, B3, rfl, hB3, ho⟩, hb⟩; have S3 := Lib.hid (Sees.own ho); have V3 : Hid (Below w2.heap.size w2 w3) := hb; clear hB3 ho hb)
    | (go_at_call 5; refine (ofh_any w3 w3.heap.size A3 p c3 S3.out HPl.out).mono ?_; unfold OfHPost; rw [HPo.out]; rintro e w4 ⟨h4, rfl, hp4, hk4, hb⟩; have K4 := Lib.hid hk4; have V4 : Hid (Below w2.heap.size w2 w4) := nxTr V3.out hb; clear hp4 hk4 hb)
    | ((with_reducible show wpList _ _ _ (⟨none, .store 27 (.tmp 4) _, _, _, _, _⟩ :: _) _ _); (show wpList _ _ _ _ _ (w4.alloc (.cells hdZ 27))); refine wpList_store_all rfl 27 (.tmp 4) (.tmp 27) rfl w4.heap.size 27 hdZ (hdC h4).toArray rfl rfl (heap_alloc_new w4 _) (HZs.out h4 K4.out.f) (HZh'.out h4 K4.out.f) (hdC_one h4) ?_; intro w5 h5 h6 h7; have V5 : Hid (Below w2.heap.size w2 w5) := nxTr V4.out (belowFresh h6); have B5 := Lib.hid (B2.out.below V5.out B2.out.lt); clear h5 h6 h7)
    | ((with_reducible show wpList _ _ _ (⟨none, .store 22 (.tmp 30) _, _, _, _, _⟩ :: _) _ _); refine wpList_store_part rfl 22 (.tmp 30) (.tmp 29) rfl w1.heap.size 0 27 (hdC h1).toArray #[.slice (some ⟨w5.heap.size, 0, none⟩) 256 256] (hdC (hdOf w5.heap.size 256)).toArray (.slice (some ⟨w5.heap.size, 0, none⟩) 256 256) rfl rfl rfl (B5.out.alloc _) (by have h := HZs.out h1 HK1.out.f; rw [← h, hdZ_size]; show 0 + 1 ≤ 130; omega) (by kernel_rfl) (fun u hu => by rw [List.mem_singleton.1 hu]; rfl) (by rw [← HH1.out]; exact hdOf_part _ _ _ _) ?_; intro w6 h5 h6 h7; have B6 := Lib.hid h5; have Z6 := Lib.hid h7; have Q6 := Lib.hid h6; clear h5 h6 h7; have G6 : Hid (w1.heap.size < w5.heap.size) := Nat.lt_of_lt_of_le B2.out.lt V5.out.size; have K6 : Hid (HdOk w6 (hdOf w5.heap.size 256)) := hdOf_ok ((show Blk (w5.alloc (.cells L2 24)) w5.heap.size 24 (Hs (List.replicate 256 zero32)).toArray from by rw [HL2.out]; exact heap_alloc_new w5 _).of_eq (Q6.out.block _ (by simp) (fun e => by have := G6.out; omega))) (by omega))
    | ((with_reducible show wpList _ _ _ (⟨some 32, _, _, _, _, _⟩ :: _) _ _); refine wpList_load_mid rfl 27 (.tmp 1) rfl w1.heap.size 0 rfl (hdC (hdOf w5.heap.size 256)) _ (blkR B6.out) Tryd.underlying27 rfl (HZh.out _ K6.out.f) ?_)
    | (go_at_call 4; (with_reducible show Calls _ _ #[.agg (hdC (hdOf w5.heap.size 256)).toArray] _ _); refine (hbytes_no w6 (hdOf w5.heap.size 256) K6.out (HM2.out _)).mono ?_; rintro e w7 ⟨rfl, hb⟩; have V7 : Hid (Below w6.heap.size w6 w7) := hb; clear hb))
  have V06 : Hid (Below w.heap.size w w6) := (nxAl (nxTr (nxTr V1.out V2.out) V5.out) _).trans (Q6.out.below (nxAl (nxTr (nxTr V1.out V2.out) V5.out) _).size (fun k hk => by have := S1w.out; omega))
  have V07 : Hid (Below w.heap.size w w7) := nxTr V06.out V7.out
  have B7 := Lib.hid (B6.out.below V7.out B6.out.lt)
  have K7 := Lib.hid (K6.out.later V7.out)
  have HI2 : Hid (idH (hdOf w5.heap.size 256).p = zero32) := idH_no (by omega)
  obtain ⟨h2, hh2⟩ : ∃ h, hdOf w5.heap.size 256 = h := ⟨_, rfl⟩
  rw [hh2] at B7 K7 HI2
  have HT7 := Lib.hid (HTb.out.later V07.out)
  have L7 : Hid (w1.heap.size < w7.heap.size) := B7.out.lt
  have V77 : Hid (Below w7.heap.size w7 w7) := nxRf w7
  clear hh2 B6 Z6 Q6 G6 K6 V7 V06 V5 B5 V4 K4 V3 S3 K2 V2 B2 HM2 HPl HPo HP S1w HK1 V1 hmk1 HH1 HBd1 HM1 HZs HZh' HBd HL1 HL2 hmk2
  obtain ⟨i0, hi0, hz0, hz1, hz2⟩ := infoP Tryd.txinf
  have HZl : Hid (∀ b : BkR, HdFit b.h.p → (Tryd.prog.info? 42).map (·.size) = some (bkC b).length) := fun b f => bkSz f
  have HZl' : Hid (∀ b : BkR, HdFit b.h.p → (Tryd.prog.info? 42).map (·.size) = some (bkC b).toArray.size) := fun b f => bkSz' f
  have HZx : Hid (∀ t : TxR, (Tryd.prog.info? 40).map (·.size) = some (txC t).length) := fun t => Tryd.sizeTx
  go_loopw [8, 9] (fun lv iv wr => ∃ (k : Nat) (l : List TxR) (A1 : Option Addr) (e1 : Nat), k ≤ 201 ∧ iv = .int .i64 k ∧ lv = .slice A1 k e1 ∧ Hid (l.map txP = (List.range k).map pI) ∧ Hid (wr.ownsRow w7.heap.size 40 3 (.slice A1 k e1) k (txsC l)) ∧ Hid (Kept (Older w7.heap.size A1) wr (fun W => ∀ t ∈ l, TxOk W t)) ∧ Hid (Below w7.heap.size w7 wr)) (fun _ iv _ => 201 - (intOf iv).toNat)
  case atStart => exact ⟨0, [], none, 0, by omega, rfl, rfl, rfl, ⟨rfl, .inl ⟨rfl, rfl⟩⟩, (fun _ _ t h => by cases h), V77.out⟩
  case round =>
    obtain ⟨k, l, A1, e1, hk, rfl, rfl, Hm, HO, HK, HV⟩ := hrel
    by_cases hlt : k < 201
    · have hin : (k : Int) ≤ 200 := by omega
      have hwu : IntKind.u64.wrap (k : Int) = (k : Int) := by rw [IntKind.wrap_u64]; omega
      have HSZ0 := Lib.hid HV.out.size
      go_wp2_with (first
        | ((with_reducible show wpList _ _ _ (⟨some 42, _, _, _, _, _⟩ :: _) _ _); refine wpList_buildJ (by rfl) 37 0 _ rfl (.int .u64 1) (.agg (outC oI).toArray) rfl part_outI ?_)
        | ((with_reducible show wpList _ _ _ (⟨some 43, _, _, _, _, _⟩ :: _) _ _); refine wpList_build_one rfl 38 37 (.tmp 42) rfl (outC oI) _ 33 40 Tryd.underlying38 Tryd.outinfo (by decide) (by decide) (outC_len rfl) rfl ?_)
        | ((with_reducible show wpList _ _ _ (⟨some 46, _, _, _, _, _⟩ :: _) _ _); refine wpList_buildT rfl 40 (.tmp 41) (.tmp 43) (.tmp 45) rfl (.slice (some ⟨wr.heap.size, 0, none⟩) 1 1) (.slice (some ⟨wr.heap.size + 1, 0, none⟩) 1 1) (.int .u64 (k : Int)) (.agg (txC (tI wr.heap.size (wr.heap.size + 1) k)).toArray) rfl (by simp [Act.eval]) rfl (part_txI _ _ _ _ _ _ _) ?_)
        | ((with_reducible show wpList _ _ _ (⟨some 47, _, _, _, _, _⟩ :: _) _ _); refine wpList_build_one rfl 34 40 (.tmp 46) rfl (txC (tI wr.heap.size (wr.heap.size + 1) k)) _ 3 56 Tryd.underlying34 Tryd.txinf (by decide) (by decide) rfl rfl ?_)
        | ((with_reducible show wpList _ _ _ (⟨some 48, _, _, _, _, _⟩ :: _) _ _); refine wpList_append_seesV rfl (.tmp 40) (.tmp 47) 34 rfl w7.heap.size 40 i0 _ 3 56 Tryd.underlying34 hi0 hz0 hz1 hz2 rfl (by decide) (.slice A1 k e1) k (txsC l) rfl (own_keepsS (S := fun _ => False) HO.out (Keeps.of_below (nxAl (nxAl (nxAl (nxRf wr) _) _) _) _) (fun _ _ h => h)) _ (some ⟨wr.heap.size + 1 + 1, 0, none⟩) 1 1 (txC (tI wr.heap.size (wr.heap.size + 1) k)) (by show Value.slice (some ⟨(((wr.alloc (.cells (inC zI).toArray 94)).alloc (.cells (outC oI).toArray 37))).heap.size, 0, none⟩) 1 1 = _; simp) rfl (show SeesV (((wr.alloc (.cells (inC zI).toArray 94)).alloc (.cells (outC oI).toArray 37)).alloc (.cells (txC (tI wr.heap.size (wr.heap.size + 1) k)).toArray 40)) (wr.heap.size + 1 + 1 + 1) (some ⟨wr.heap.size + 1 + 1, 0, none⟩) _ from by have h := SeesV.lit' ((wr.alloc (.cells (inC zI).toArray 94)).alloc (.cells (outC oI).toArray 37)) (txC (tI wr.heap.size (wr.heap.size + 1) k)) 40; have e : (((wr.alloc (.cells (inC zI).toArray 94)).alloc (.cells (outC oI).toArray 37))).heap.size = wr.heap.size + 1 + 1 := (by simp); rw [e] at h; exact h) (fun u hu => txC_one' _ u (by simpa using hu)) (by omega) (by omega) (by have := HSZ0.out; simp; omega) ?_; intro v8 w8 ho8 hg8 hv8; obtain ⟨A8, e8, rfl⟩ := own_form ho8; have O8 := Lib.hid ho8; have G8 := Lib.hid hg8; have NV8 := Lib.hid hv8; clear ho8 hg8 hv8))
      have hgr := grow_I (w8 := w8) (A8 := A8) hlt HV.out HK.out HO.out (by have h := G8.out; rw [own_blk] at h; exact h) (by have h := NV8.out; rw [own_blk, own_blk] at h; rcases h with h | h; exact .inl h; refine .inr (h.trans ?_); simp)
      have HGr := Lib.hid hgr
      have HO8 : Hid (w8.ownsRow w7.heap.size 40 3 (.slice A8 (k + 1) e8) (k + 1) (txsC (l ++ [tI wr.heap.size (wr.heap.size + 1) k]))) := by show World.ownsRow _ _ _ _ _ _ _; rw [txsC_snoc]; exact O8.out
      have Hm8 : Hid ((l ++ [tI wr.heap.size (wr.heap.size + 1) k]).map txP = (List.range (k + 1)).map pI) := by show _ = _; rw [List.map_append, Hm.out, List.range_succ, List.map_append]; rfl
      clear hgr
      go_roundw
      case rel => exact ⟨k + 1, l ++ [tI wr.heap.size (wr.heap.size + 1) k], A8, e8, by omega, by go_num, rfl, Hm8.out, HO8.out, HGr.out.1, HGr.out.2⟩
      case measure => simp [intOf] <;> omega
    · obtain rfl : k = 201 := by omega
      have hll : l.length = 201 := by have := congrArg List.length Hm.out; simpa using this
      have hcap := own_cm3 HO.out
      have KT : Hid (TxsOk wr A1 l e1) := ⟨SeesV.own HO.out, HK.out.now, by omega, by omega⟩
      obtain ⟨b, off, hA1, hbl, hrg⟩ := txsC_row KT.out.s (by omega)
      have hr0 := hrg 0 (by omega)
      have hok0 := KT.out.each _ (List.getElem_mem (show 0 < l.length by omega))
      have hp0 : txP l[0] = pI 0 := by
        have h : (l.map txP)[0]? = ((List.range 201).map pI)[0]? := by rw [Hm.out]
        rw [List.getElem?_map, List.getElem?_eq_getElem (by omega)] at h
        simpa using h
      obtain ⟨t0, ht0⟩ : ∃ t, l[0] = t := ⟨_, rfl⟩
      rw [ht0] at hr0 hok0 hp0
      have HA1 := Lib.hid hA1
      have HR0 : Hid (wr.rangeAt b off (txC t0)) := by have h := hr0; simp only [Nat.zero_mul, Nat.add_zero] at h; exact h
      have HB0 := Lib.hid hbl
      have HT0 := Lib.hid hok0
      have HP0 := Lib.hid hp0
      clear hA1 hbl hrg hr0 hok0 hp0 ht0
      obtain ⟨A2, k2, hsl⟩ := head_slice (n := 200) (l := l) (c := e1) (A := A1) (by omega) (by omega) hcap.2 (by omega) KT.out
      rw [hll] at hsl
      have hsl : ∀ wq : World, (Instr.slice 34 (.slice A1 201 e1) none (some (.int .i64 200)) none).run Tryd.prog wq = .ok (.slice A2 200 e1) wq := hsl
      have hm2 : (l.take 200).map txP = (List.range 200).map pI := by rw [List.map_take, Hm.out, ← List.map_take, List.take_range]; rfl
      obtain ⟨m, hm⟩ : ∃ m, l.take 200 = m := ⟨_, rfl⟩
      rw [hm] at k2 hm2
      have hlm : m.length = 200 := by have := congrArg List.length hm2; simpa using this
      obtain ⟨x1, hx1⟩ : ∃ x, rootL (idsL m) = x := ⟨_, rfl⟩
      obtain ⟨x2, hx2⟩ : ∃ x, rootL (idsL l) = x := ⟨_, rfl⟩
      have hc1 := check_full (A := A2) (d := e1) hm2
      rw [hx1] at hc1
      have HC1 := Lib.hid hc1
      have HC2 : Hid (checkK (bI x2 A1 l e1) = 8) := check_more Hm.out
      have KM := Lib.hid k2
      have HX1 := Lib.hid hx1
      have HX2 := Lib.hid hx2
      have HX1l : Hid (x1.length = 32) := by show _ = _; rw [← hx1]; exact rootL_len _
      have HX2l : Hid (x2.length = 32) := by show _ = _; rw [← hx2]; exact rootL_len _
      have HLm := Lib.hid hlm
      have HLl := Lib.hid hll
      have HZ1 : Hid (zero32.length = 32) := rfl
      have HTr := Lib.hid (HT7.out.later HV.out)
      have HSl := Lib.hid hsl
      have HPb : Hid (∀ (A : Option Addr) (L : List TxR) (n d : Nat), L.length = n → ∀ wq : World, (Instr.build 42 #[(1, .slice A n d)]).run Tryd.prog wq = .ok (.agg (bkC (bI zero32 A L d)).toArray) wq) := fun A L n d h => part_bkL zero32 rfl A L n d h
      have HZb : Hid (∀ b : BkR, HdFit b.h.p → (Tryd.zeroCells42).size = (bkC b).toArray.size) := fun b f => by rw [zbk_size, List.size_toArray, bkC_len f]
      have HRt : Hid (∀ (x : List UInt8), x.length = 32 → (Tryd.prog.info? 24).map (·.size) = some (By x).toArray.size) := fun x h => Tryd.hsizeB x h
      have HZp : Hid (∀ (x : List UInt8) (A : Option Addr) (L : List TxR) (d : Nat), x.length = 32 → 1 + (By x).toArray.size ≤ (bkC (bI zero32 A L d)).toArray.size) := fun x A L d h => by rw [List.size_toArray, By_length, h, List.size_toArray, bkC_len (bI_fit rfl)]; omega
      obtain ⟨b0, hb0⟩ : ∃ b, bI zero32 A2 m e1 = b := ⟨_, rfl⟩
      obtain ⟨b1, hb1⟩ : ∃ b, bI x1 A2 m e1 = b := ⟨_, rfl⟩
      obtain ⟨b2, hb2⟩ : ∃ b, bI zero32 A1 l e1 = b := ⟨_, rfl⟩
      obtain ⟨b3, hb3⟩ : ∃ b, bI x2 A1 l e1 = b := ⟨_, rfl⟩
      have F0 : Hid (HdFit b0.h.p) := by show HdFit _; rw [← hb0]; exact bI_fit rfl
      have F1 : Hid (HdFit b1.h.p) := by show HdFit _; rw [← hb1]; exact bI_fit HX1l.out
      have F2 : Hid (HdFit b2.h.p) := by show HdFit _; rw [← hb2]; exact bI_fit rfl
      have F3 : Hid (HdFit b3.h.p) := by show HdFit _; rw [← hb3]; exact bI_fit HX2l.out
      have P0 : Hid (∀ wq : World, (Instr.build 42 #[(1, .slice A2 200 e1)]).run Tryd.prog wq = .ok (.agg (bkC b0).toArray) wq) := by show ∀ _, _; rw [← hb0]; exact HPb.out A2 m 200 e1 hlm
      have P2 : Hid (∀ wq : World, (Instr.build 42 #[(1, .slice A1 201 e1)]).run Tryd.prog wq = .ok (.agg (bkC b2).toArray) wq) := by show ∀ _, _; rw [← hb2]; exact HPb.out A1 l 201 e1 hll
      have R1 : Hid (((bkC b0).toArray.toList.take 1 ++ (By x1).toArray.toList ++ (bkC b0).toArray.toList.drop (1 + (By x1).toArray.size)).toArray = (bkC b1).toArray) := by show _ = _; rw [← hb0, ← hb1]; exact bI_root HX1l.out _ _ _
      have R3 : Hid (((bkC b2).toArray.toList.take 1 ++ (By x2).toArray.toList ++ (bkC b2).toArray.toList.drop (1 + (By x2).toArray.size)).toArray = (bkC b3).toArray) := by show _ = _; rw [← hb2, ← hb3]; exact bI_root HX2l.out _ _ _
      have HG0 : Hid (∀ (W : World) (g : Nat), Blk W g 42 (bkC b0).toArray → W.cell? ⟨g, 130, none⟩ = some (.slice A2 200 e1)) := fun W g h => by rw [← hb0] at h; exact bI_cell rfl hlm h
      have Z1p : Hid (1 + (By x1).toArray.size ≤ (bkC b0).toArray.size) := by show _ ≤ _; rw [← hb0]; exact HZp.out x1 A2 m e1 HX1l.out
      have Z3p : Hid (1 + (By x2).toArray.size ≤ (bkC b2).toArray.size) := by show _ ≤ _; rw [← hb2]; exact HZp.out x2 A1 l e1 HX2l.out
      have OK1 : Hid (∀ W : World, TxsOk W A2 m e1 → BkOk W b1) := fun W h => by rw [← hb1]; exact bI_ok HX1l.out h
      have OK3 : Hid (∀ W : World, TxsOk W A1 l e1 → BkOk W b3) := fun W h => by rw [← hb3]; exact bI_ok HX2l.out h
      have C1 : Hid (checkK b1 = 0) := by show _ = _; rw [← hb1]; exact hc1
      have C3 : Hid (checkK b3 = 8) := by show _ = _; rw [← hb3]; exact HC2.out
      have HPk := packK_of (OK1.out wr k2) C1.out
      have hpl := packK_len (OK1.out wr k2) C1.out
      obtain ⟨pk, hpk⟩ : ∃ p, packK b1 = p := ⟨_, rfl⟩
      rw [hpk] at HPk hpl
      have HPB : Hid (bofB pk = true) := HPk.1
      have HPL : Hid (pk.length ≤ 1099511627776) := by show _ ≤ _; omega
      have HPE := Lib.hid hpk
      have Br := Lib.hid (B7.out.below HV.out B7.out.lt)
      have Kr := Lib.hid (K7.out.later HV.out)
      have Vr : Hid (Below w.heap.size w wr) := nxTr V07.out HV.out
      clear HPk hpl hpk hb0 hb1 hb2 hb3 hx1 hx2 hc1 hm hlm hll k2 hsl hmi hi0 hz0 hz1 hz2 i0 hk hlt B7 K7 V77 HT7 hcap
      have hsl := HSl.out
      go_upto_region 17 with (first
        | ((with_reducible show wpList _ _ _ (⟨some 51, _, _, _, _, _⟩ :: _) _ _); refine wpList_buildJ (by rfl) 42 1 _ rfl (.slice A2 200 e1) (.agg (bkC b0).toArray) rfl P0.out ?_)
        | ((with_reducible show wpList _ _ _ (⟨none, .store 42 (.tmp 10) _, _, _, _, _⟩ :: _) _ _); (show wpList _ _ _ _ _ (wr.alloc (.cells Tryd.zeroCells42 42))); refine wpList_store_all rfl 42 (.tmp 10) (.tmp 51) rfl wr.heap.size 42 Tryd.zeroCells42 (bkC b0).toArray rfl rfl (heap_alloc_new wr _) (HZb.out b0 F0.out) (HZl'.out b0 F0.out) (bkC_one b0) ?_; intro u1 h5 h6 h7; have D1 := Lib.hid h5; have c1 := HG0.out _ _ h5; have v1 : Hid (Below wr.heap.size wr u1) := belowFresh h6; clear h5 h6 h7)
        | (go_at_call 6; (with_reducible show Calls _ _ #[.slice A2 200 e1] _ _); refine (brootN u1 (HTr.out.later v1.out) A2 m 200 e1 x1 HLm.out HX1.out (KM.out.later v1.out) (by omega)).mono ?_; rintro e u2 ⟨rfl, hb⟩; have v2 : Hid (Below wr.heap.size wr u2) := nxTr v1.out hb; have D2 := Lib.hid (D1.out.below hb D1.out.lt); clear hb)
        | ((with_reducible show wpList _ _ _ (⟨none, .store 24 (.tmp 56) _, _, _, _, _⟩ :: _) _ _); refine wpList_store_part rfl 24 (.tmp 56) (.tmp 54) rfl wr.heap.size 1 42 (bkC b0).toArray (By x1).toArray (bkC b1).toArray (.agg (By x1).toArray) rfl rfl rfl D2.out Z1p.out (HRt.out x1 HX1l.out) (By_one x1) R1.out ?_; intro u3 h5 h6 h7; have D3 := Lib.hid h5; have v3 : Hid (Below wr.heap.size wr u3) := v2.out.trans (h6.below v2.out.size (fun k hk => by omega)); clear h5 h6 h7)
        | ((with_reducible show wpList _ _ _ (⟨some 58, _, _, _, _, _⟩ :: _) _ _); refine wpList_load_mid rfl 42 (.tmp 10) rfl wr.heap.size 0 rfl (bkC b1) _ (blkR D3.out) Tryd.underlying42 rfl (HZl.out b1 F1.out) ?_)
        | (go_at_call 7; refine (bbytes_yes u3 (HTr.out.later v3.out) b1 (OK1.out u3 (KM.out.later v3.out)) C1.out).mono ?_; unfold BkBytesPost; rw [HPE.out]; rintro e u4 ⟨⟨A4, c4, B4, rfl, hB4, ho⟩, hb⟩; have S4 := Lib.hid (Sees.own ho); have v4 : Hid (Below wr.heap.size wr u4) := nxTr v3.out hb; clear hB4 ho hb)
        | (go_at_call 8; refine (bof_any u4 (HTr.out.later v4.out) u4.heap.size A4 pk c4 S4.out HPL.out).mono ?_; unfold BOfPost; rw [HPB.out]; rintro e u5 ⟨k5, rfl, hp5, hk5, hb⟩; have K5 := Lib.hid hk5; have v5 : Hid (Below wr.heap.size wr u5) := nxTr v4.out hb; clear hp5 hk5 hb)
        | ((with_reducible show wpList _ _ _ (⟨none, .store 42 (.tmp 13) _, _, _, _, _⟩ :: _) _ _); (show wpList _ _ _ _ _ (u5.alloc (.cells Tryd.zeroCells42 42))); refine wpList_store_all rfl 42 (.tmp 13) (.tmp 65) rfl u5.heap.size 42 Tryd.zeroCells42 (bkC k5).toArray rfl rfl (heap_alloc_new u5 _) (HZb.out k5 K5.out.h.f) (HZl'.out k5 K5.out.h.f) (bkC_one k5) ?_; intro u6 h5 h6 h7; have v6 : Hid (Below wr.heap.size wr u6) := nxTr v5.out (belowFresh h6); clear h5 h6 h7)
        | ((with_reducible show wpList _ _ _ (⟨some 68, _, _, _, _, _⟩ :: _) _ _); refine wpList_buildJ (by rfl) 42 1 _ rfl (.slice A1 201 e1) (.agg (bkC b2).toArray) rfl P2.out ?_)
        | ((with_reducible show wpList _ _ _ (⟨none, .store 42 (.tmp 15) _, _, _, _, _⟩ :: _) _ _); (show wpList _ _ _ _ _ (u6.alloc (.cells Tryd.zeroCells42 42))); refine wpList_store_all rfl 42 (.tmp 15) (.tmp 68) rfl u6.heap.size 42 Tryd.zeroCells42 (bkC b2).toArray rfl rfl (heap_alloc_new u6 _) (HZb.out b2 F2.out) (HZl'.out b2 F2.out) (bkC_one b2) ?_; intro u7 h5 h6 h7; have D7 := Lib.hid h5; have v7 : Hid (Below wr.heap.size wr u7) := nxTr v6.out (belowFresh h6); clear h5 h6 h7)
        | (go_at_call 6; (with_reducible show Calls _ _ #[.slice A1 201 e1] _ _); refine (brootN u7 (HTr.out.later v7.out) A1 l 201 e1 x2 HLl.out HX2.out (KT.out.later v7.out) (by omega)).mono ?_; rintro e u8 ⟨rfl, hb⟩; have v8 : Hid (Below wr.heap.size wr u8) := nxTr v7.out hb; have D8 := Lib.hid (D7.out.below hb D7.out.lt); clear hb)
        | ((with_reducible show wpList _ _ _ (⟨none, .store 24 (.tmp 72) _, _, _, _, _⟩ :: _) _ _); refine wpList_store_part rfl 24 (.tmp 72) (.tmp 70) rfl u6.heap.size 1 42 (bkC b2).toArray (By x2).toArray (bkC b3).toArray (.agg (By x2).toArray) rfl rfl rfl D8.out Z3p.out (HRt.out x2 HX2l.out) (By_one x2) R3.out ?_; intro u9 h5 h6 h7; have D9 := Lib.hid h5; have v9 : Hid (Below wr.heap.size wr u9) := v8.out.trans (h6.below v8.out.size (fun k hk => by have := v6.out.size; omega)); clear h5 h6 h7))
      have hA1 := HA1.out
      subst hA1
      have HR9 : Hid (u9.rangeAt b off (txC t0)) := rngB HR0.out v9.out HB0.out
      have LB9 : Hid (b < u9.heap.size) := Nat.lt_of_lt_of_le HB0.out v9.out.size
      have T9 := Lib.hid (HT0.out.later v9.out)
      have P5 : Hid (∀ (s : Nat) (wq : World), (Instr.build 42 #[(1, .slice (some ⟨s, 0, none⟩) 2 2)]).run Tryd.prog wq = .ok (.agg (bkC (bI zero32 (some ⟨s, 0, none⟩) [t0, t0] 2)).toArray) wq) := fun s => HPb.out _ [t0, t0] 2 2 rfl
      clear hsl
      simp only [Act.put]
      go_cut [16] (fun q wx => ∃ (g s : Nat), q = .pointer (some ⟨g, 0, none⟩) ∧ Hid (Blk wx g 42 (bkC (bI zero32 (some ⟨s, 0, none⟩) [t0, t0] 2)).toArray) ∧ Hid (Blk wx s 40 (txC t0 ++ txC t0).toArray) ∧ Hid (s ≠ g) ∧ Hid (u9.heap.size ≤ g) ∧ Hid (Below u9.heap.size u9 wx))
      case first =>
        as_aux_lemma =>
          refine wp_region_held_drew (S := fun W => W.rangeAt b off (txC t0)) (by kernel_rfl) (rngB HR9.out (nxDrI (nxRf u9)) LB9.out) (fun hHeld => ?_)
          obtain ⟨q1, hq1⟩ : ∃ q, u9.drew = q := ⟨_, rfl⟩
          have y1 : Hid (Below u9.heap.size u9 q1) := by show Below _ _ _; rw [← hq1]; exact nxDrI (nxRf u9)
          rw [hq1] at hHeld ⊢
          clear hq1
          refine wpAnyH_take (i := 0) (oi := ⟨_, _, _, _, _, _⟩) (v := ?_) rfl (by kernel_rfl) (by kernel_rfl) (by kernel_rfl) (fun _ _ _ h => h) (Or.inl ⟨by rfl, ?_⟩) (by assumption) ?_
          rotate_left 1
          · intro W hSw
            try dsimp only at hSw
            go_simp
            try with_reducible rfl
          try simp only [Act.put, List.setIfInBounds_toArray, List.set_cons_zero, List.set_cons_succ]
          refine wpAnyH_take (i := 1) (oi := ⟨_, _, _, _, _, _⟩) (v := ?_) rfl (by kernel_rfl) (by kernel_rfl) (by kernel_rfl) (fun _ _ _ h => h) (Or.inl ⟨by rfl, ?_⟩) (by assumption) ?_
          rotate_left 1
          · intro W hSw
            try dsimp only at hSw
            go_simp
            try with_reducible rfl
          try simp only [Act.put, List.setIfInBounds_toArray, List.set_cons_zero, List.set_cons_succ]
          refine wpAnyH_take (i := 2) (oi := ⟨_, _, _, _, _, _⟩) (v := .agg (txC t0).toArray) rfl (by kernel_rfl) (by kernel_rfl) (by kernel_rfl) (fun _ _ _ h => h) (yieldsIf_load_mid (by rfl) 40 (.tmp 74) rfl b off rfl (txC t0) _ (fun W h => h) Tryd.underlying40 rfl (HZx.out t0)) (by assumption) ?_
          try simp only [Act.put, List.setIfInBounds_toArray, List.set_cons_zero, List.set_cons_succ]
          refine wpAnyH_take (i := 3) (oi := ⟨_, _, _, _, _, _⟩) (v := ?_) rfl (by kernel_rfl) (by kernel_rfl) (by kernel_rfl) (fun _ _ _ h => h) (Or.inl ⟨by rfl, ?_⟩) (by assumption) ?_
          rotate_left 1
          · intro W hSw
            try dsimp only at hSw
            go_simp
            try with_reducible rfl
          try simp only [Act.put, List.setIfInBounds_toArray, List.set_cons_zero, List.set_cons_succ]
          refine wpAnyH_take (i := 4) (oi := ⟨_, _, _, _, _, _⟩) (v := ?_) rfl (by kernel_rfl) (by kernel_rfl) (by kernel_rfl) (fun _ _ _ h => h) (Or.inl ⟨by rfl, ?_⟩) (by assumption) ?_
          rotate_left 1
          · intro W hSw
            try dsimp only at hSw
            go_simp
            try with_reducible rfl
          try simp only [Act.put, List.setIfInBounds_toArray, List.set_cons_zero, List.set_cons_succ]
          refine wpAnyH_take (i := 5) (oi := ⟨_, _, _, _, _, _⟩) (v := .agg (txC t0).toArray) rfl (by kernel_rfl) (by kernel_rfl) (by kernel_rfl) (fun _ _ _ h => h) (yieldsIf_load_mid (by rfl) 40 (.tmp 77) rfl b off rfl (txC t0) _ (fun W h => h) Tryd.underlying40 rfl (HZx.out t0)) (by assumption) ?_
          try simp only [Act.put, List.setIfInBounds_toArray, List.set_cons_zero, List.set_cons_succ]
          refine wpAnyH_ready (rs := [6, 8]) (by kernel_rfl) (by simp) ?_
          refine AllReadyH.cons rfl (fun K hK => ?_) (AllReadyH.cons rfl (fun K hK => ?_) AllReadyH.nil)
          · refine step_build_two (o := ⟨some 79, _, _, _, _, _⟩) rfl (.tmp 75) (.tmp 78) rfl t0 t0 rfl rfl ?_
            have y2 : Hid (Below u9.heap.size u9 (q1.alloc (.cells (txC t0 ++ txC t0).toArray 40))) := nxAl y1.out _
            have e2 : Hid (Blk (q1.alloc (.cells (txC t0 ++ txC t0).toArray 40)) q1.heap.size 40 (txC t0 ++ txC t0).toArray) := heap_alloc_new q1 _
            have z2 : Hid ((q1.alloc (.cells (txC t0 ++ txC t0).toArray 40)).heap.size = q1.heap.size + 1) := by show _ = _; simp
            refine hK.out _ _ (rngB HR9.out y2.out LB9.out) (fun hSn => ?_)
            clear hK K
            try simp only [Act.put, List.setIfInBounds_toArray, List.set_cons_zero, List.set_cons_succ]
            obtain ⟨q2, hq2⟩ : ∃ q, (q1.alloc (.cells (txC t0 ++ txC t0).toArray 40)) = q := ⟨_, rfl⟩
            rw [hq2] at hSn y2 e2 z2 ⊢
            clear hq2
            refine wpAnyH_take (i := 7) (oi := ⟨_, _, _, _, _, _⟩) (v := .agg (bkC (bI zero32 (some ⟨q1.heap.size, 0, none⟩) [t0, t0] 2)).toArray) rfl (by kernel_rfl) (by kernel_rfl) (by kernel_rfl) (fun _ _ _ h => h) (yieldsIf_buildJ (by rfl) 42 1 (.tmp 79) rfl (.slice (some ⟨q1.heap.size, 0, none⟩) 2 2) _ rfl (P5.out q1.heap.size)) (by assumption) ?_
            try simp only [Act.put, List.setIfInBounds_toArray, List.set_cons_zero, List.set_cons_succ]
            refine wpAnyH_ready (rs := [8]) (by kernel_rfl) (by simp) ?_
            refine AllReadyH.cons rfl (fun K hK => ?_) AllReadyH.nil
            go_simp
            have y3 : Hid (Below u9.heap.size u9 (q2.alloc (.cells Tryd.zeroCells42 42))) := nxAl y2.out _
            have g3 : Hid (Blk (q2.alloc (.cells Tryd.zeroCells42 42)) q2.heap.size 42 Tryd.zeroCells42) := heap_alloc_new q2 _
            have e3 : Hid (Blk (q2.alloc (.cells Tryd.zeroCells42 42)) q1.heap.size 40 (txC t0 ++ txC t0).toArray) := e2.out.alloc _
            have z3 : Hid (q1.heap.size < q2.heap.size ∧ q2.heap.size < (q2.alloc (.cells Tryd.zeroCells42 42)).heap.size) := ⟨by have := z2.out; omega, by simp⟩
            refine hK.out _ (q2.alloc (.cells Tryd.zeroCells42 42)) (rngB HR9.out y3.out LB9.out) (fun hSn => ?_)
            clear hK K
            try simp only [Act.put, List.setIfInBounds_toArray, List.set_cons_zero, List.set_cons_succ]
            obtain ⟨q3, hq3⟩ : ∃ q, (q2.alloc (.cells Tryd.zeroCells42 42)) = q := ⟨_, rfl⟩
            rw [hq3] at hSn y3 g3 e3 z3 ⊢
            clear hq3
            refine wpAnyH_ready (rs := [9]) (by kernel_rfl) (by simp) ?_
            refine AllReadyH.cons rfl (fun K hK => ?_) AllReadyH.nil
            refine step_store_all (o := ⟨none, _, _, _, _, _⟩) rfl 42 (.tmp 16) (.tmp 80) rfl q2.heap.size 42 Tryd.zeroCells42 (bkC (bI zero32 (some ⟨q1.heap.size, 0, none⟩) [t0, t0] 2)).toArray rfl rfl g3.out (HZb.out _ (bI_fit rfl)) (HZl'.out _ (bI_fit rfl)) (bkC_one _) ?_
            intro q4 h5 h6 h7
            have y4 : Hid (Below u9.heap.size u9 q4) := y3.out.trans (h6.below y3.out.size (fun k hk => by have := y1.out.size; have := y2.out.size; omega))
            have e4 : Hid (Blk q4 q1.heap.size 40 (txC t0 ++ txC t0).toArray) := e3.out.of_eq (h6.block _ (by have := z3.out; omega) (fun e => by have := z3.out; omega))
            have g4 := Lib.hid h5
            clear h5 h6 h7
            refine hK.out _ _ (rngB HR9.out y4.out LB9.out) (fun hSn => ?_)
            clear hK K
            try simp only [Act.put, List.setIfInBounds_toArray, List.set_cons_zero, List.set_cons_succ]
            refine wpAnyH_done (by kernel_rfl) ?_ _
            go_wp2_with fail
            go_meet
            exact ⟨q2.heap.size, q1.heap.size, rfl, g4.out, e4.out, (by show _ ≠ _; have := z3.out; omega), (by show _ ≤ _; have := y1.out.size; have := y2.out.size; omega), y4.out⟩
          · go_simp
            have y2 : Hid (Below u9.heap.size u9 (q1.alloc (.cells Tryd.zeroCells42 42))) := nxAl y1.out _
            have g2 : Hid (Blk (q1.alloc (.cells Tryd.zeroCells42 42)) q1.heap.size 42 Tryd.zeroCells42) := heap_alloc_new q1 _
            have z2 : Hid ((q1.alloc (.cells Tryd.zeroCells42 42)).heap.size = q1.heap.size + 1) := by show _ = _; simp
            refine hK.out _ (q1.alloc (.cells Tryd.zeroCells42 42)) (rngB HR9.out y2.out LB9.out) (fun hSn => ?_)
            clear hK K
            try simp only [Act.put, List.setIfInBounds_toArray, List.set_cons_zero, List.set_cons_succ]
            obtain ⟨q2, hq2⟩ : ∃ q, (q1.alloc (.cells Tryd.zeroCells42 42)) = q := ⟨_, rfl⟩
            rw [hq2] at hSn y2 g2 z2 ⊢
            clear hq2
            refine wpAnyH_ready (rs := [6]) (by kernel_rfl) (by simp) ?_
            refine AllReadyH.cons rfl (fun K hK => ?_) AllReadyH.nil
            refine step_build_two (o := ⟨some 79, _, _, _, _, _⟩) rfl (.tmp 75) (.tmp 78) rfl t0 t0 rfl rfl ?_
            have y3 : Hid (Below u9.heap.size u9 (q2.alloc (.cells (txC t0 ++ txC t0).toArray 40))) := nxAl y2.out _
            have e3 : Hid (Blk (q2.alloc (.cells (txC t0 ++ txC t0).toArray 40)) q2.heap.size 40 (txC t0 ++ txC t0).toArray) := heap_alloc_new q2 _
            have g3 : Hid (Blk (q2.alloc (.cells (txC t0 ++ txC t0).toArray 40)) q1.heap.size 42 Tryd.zeroCells42) := g2.out.alloc _
            have z3 : Hid (q1.heap.size < q2.heap.size ∧ q2.heap.size < (q2.alloc (.cells (txC t0 ++ txC t0).toArray 40)).heap.size) := ⟨by have := z2.out; omega, by simp⟩
            refine hK.out _ _ (rngB HR9.out y3.out LB9.out) (fun hSn => ?_)
            clear hK K
            try simp only [Act.put, List.setIfInBounds_toArray, List.set_cons_zero, List.set_cons_succ]
            obtain ⟨q3, hq3⟩ : ∃ q, (q2.alloc (.cells (txC t0 ++ txC t0).toArray 40)) = q := ⟨_, rfl⟩
            rw [hq3] at hSn y3 g3 e3 z3 ⊢
            clear hq3
            refine wpAnyH_take (i := 7) (oi := ⟨_, _, _, _, _, _⟩) (v := .agg (bkC (bI zero32 (some ⟨q2.heap.size, 0, none⟩) [t0, t0] 2)).toArray) rfl (by kernel_rfl) (by kernel_rfl) (by kernel_rfl) (fun _ _ _ h => h) (yieldsIf_buildJ (by rfl) 42 1 (.tmp 79) rfl (.slice (some ⟨q2.heap.size, 0, none⟩) 2 2) _ rfl (P5.out q2.heap.size)) (by assumption) ?_
            try simp only [Act.put, List.setIfInBounds_toArray, List.set_cons_zero, List.set_cons_succ]
            refine wpAnyH_ready (rs := [9]) (by kernel_rfl) (by simp) ?_
            refine AllReadyH.cons rfl (fun K hK => ?_) AllReadyH.nil
            refine step_store_all (o := ⟨none, _, _, _, _, _⟩) rfl 42 (.tmp 16) (.tmp 80) rfl q1.heap.size 42 Tryd.zeroCells42 (bkC (bI zero32 (some ⟨q2.heap.size, 0, none⟩) [t0, t0] 2)).toArray rfl rfl g3.out (HZb.out _ (bI_fit rfl)) (HZl'.out _ (bI_fit rfl)) (bkC_one _) ?_
            intro q4 h5 h6 h7
            have y4 : Hid (Below u9.heap.size u9 q4) := y3.out.trans (h6.below y3.out.size (fun k hk => by have := y1.out.size; have := y2.out.size; omega))
            have e4 : Hid (Blk q4 q2.heap.size 40 (txC t0 ++ txC t0).toArray) := e3.out.of_eq (h6.block _ (by have := z3.out; omega) (fun e => by have := z3.out; omega))
            have g4 := Lib.hid h5
            clear h5 h6 h7
            refine hK.out _ _ (rngB HR9.out y4.out LB9.out) (fun hSn => ?_)
            clear hK K
            try simp only [Act.put, List.setIfInBounds_toArray, List.set_cons_zero, List.set_cons_succ]
            refine wpAnyH_done (by kernel_rfl) ?_ _
            go_wp2_with fail
            go_meet
            exact ⟨q1.heap.size, q2.heap.size, rfl, g4.out, e4.out, (by show _ ≠ _; have := z3.out; omega), (by show _ ≤ _; have := y1.out.size; have := y2.out.size; omega), y4.out⟩
      case rest =>
        obtain ⟨ua, rfl⟩ : ∃ x, x = wc := ⟨_, rfl⟩
        obtain ⟨g5, s5, rfl, B5, S5, NE5, GE5, Va5⟩ := hcut
        have va : Hid (Below wr.heap.size wr ua) := nxTr v9.out Va5.out
        have T5 := Lib.hid (twice_ok S5.out (HT0.out.later va.out))
        have ca := bI_cell rfl (show [t0, t0].length = 2 from rfl) B5.out
        obtain ⟨x5, hx5⟩ : ∃ x, rootL (idsL [t0, t0]) = x := ⟨_, rfl⟩
        have HX5 := Lib.hid hx5
        have HX5l : Hid (x5.length = 32) := by show _ = _; rw [← hx5]; exact rootL_len _
        clear hx5
        go_upto_region 19 with (first
          | (go_at_call 6; (with_reducible show Calls _ _ #[.slice (some ⟨s5, 0, none⟩) 2 2] _ _); refine (brootN ua (HTr.out.later va.out) (some ⟨s5, 0, none⟩) [t0, t0] 2 2 x5 rfl HX5.out T5.out (by omega)).mono ?_; rintro e f1 ⟨rfl, hb⟩; have i1 : Hid (Below ua.heap.size ua f1) := hb; have E1 := Lib.hid (B5.out.below hb B5.out.lt); clear hb)
          | ((with_reducible show wpList _ _ _ (⟨none, .store 24 (.tmp 85) _, _, _, _, _⟩ :: _) _ _); refine wpList_store_part rfl 24 (.tmp 85) (.tmp 83) rfl g5 1 42 (bkC (bI zero32 (some ⟨s5, 0, none⟩) [t0, t0] 2)).toArray (By x5).toArray (bkC (bI x5 (some ⟨s5, 0, none⟩) [t0, t0] 2)).toArray (.agg (By x5).toArray) rfl rfl rfl E1.out (HZp.out x5 _ _ _ HX5l.out) (HRt.out x5 HX5l.out) (By_one x5) (bI_root HX5l.out _ _ _) ?_; intro f2 h5 h6 h7; have E2 := Lib.hid h5; have i2 : Hid (Below wr.heap.size wr f2) := (nxTr va.out i1.out).trans (h6.below (nxTr va.out i1.out).size (fun k hk => by have := v9.out.size; have := GE5.out; omega)); have Kp2 := Lib.hid h6; have Z2 := Lib.hid h7; clear h5 h6 h7))
        have i2' : Hid (Below u9.heap.size u9 f2) := (nxTr Va5.out i1.out).trans (Kp2.out.below (nxTr Va5.out i1.out).size (fun k hk => by have := GE5.out; omega))
        have B9 : Hid (Blk f2 w1.heap.size 27 (hdC h2).toArray) := Br.out.below i2.out Br.out.lt
        have K9 := Lib.hid (Kr.out.later i2.out)
        have D9' : Hid (Blk f2 u6.heap.size 42 (bkC b3).toArray) := D9.out.below i2'.out D9.out.lt
        have M3 := Lib.hid (OK3.out f2 (KT.out.later i2.out))
        have S9 : Blk f2 s5 40 (txC t0 ++ txC t0).toArray := (S5.out.below i1.out S5.out.lt).of_eq (Kp2.out.block _ (Nat.lt_of_lt_of_le S5.out.lt i1.out.size) NE5.out)
        have M5 : Hid (BkOk f2 (bI x5 (some ⟨s5, 0, none⟩) [t0, t0] 2)) := bI_ok HX5l.out (twice_ok S9 (HT0.out.later i2.out))
        have C5 : Hid (checkK (bI x5 (some ⟨s5, 0, none⟩) [t0, t0] 2) = 7) := check_twice HP0.out
        have C6 : Hid (checkK noBk = 11) := check_none
        have C7 : Hid (∀ g, checkK (bI zero32 (some ⟨g, 0, none⟩) [noT] 1) = 2) := fun g => check_noT
        have F5 : Hid (HdFit (bI x5 (some ⟨s5, 0, none⟩) [t0, t0] 2).h.p) := bI_fit HX5l.out
        have P6 : Hid (∀ (g : Nat) (wq : World), (Instr.build 42 #[(1, .slice (some ⟨g, 0, none⟩) 1 1)]).run Tryd.prog wq = .ok (.agg (bkC (bI zero32 (some ⟨g, 0, none⟩) [noT] 1)).toArray) wq) := fun g => HPb.out _ [noT] 1 1 rfl
        obtain ⟨b5, hb5⟩ : ∃ b, bI x5 (some ⟨s5, 0, none⟩) [t0, t0] 2 = b := ⟨_, rfl⟩
        rw [hb5] at M5 C5 F5 E2
        have hmt := make_tx1
        have heq : ∀ wq, (binOp .eql 24 (.agg (By zero32).toArray) (.agg (By zero32).toArray)).run Tryd.prog wq = .ok (.bool true) wq := fun wq => by rw [run_eql_bytes 32 24 5 Tryd.underlying24 Tryd.underlying5 Tryd.u8sz zero32 zero32 rfl rfl, beq_self_eq_true]
        clear hb5 S9 ca
        go_wp2_with (first
          | (go_at_call 9; refine (num6_any _ _).mono ?_; rintro e wn ⟨rfl, hwn⟩; obtain rfl := hwn.symm)
          | ((with_reducible show wpList _ _ _ (⟨some 104, _, _, _, _, _⟩ :: _) _ _); refine wpList_load_want (by rfl) 27 (.tmp 1) rfl w1.heap.size 0 rfl (hdC h2) _ (blkR B9.out) Tryd.underlying27 rfl (HZh.out h2 K9.out.f) ?_)
          | (go_at_call 10; refine (idh_any f2 (HTr.out.later i2.out) h2 K9.out).mono ?_; rw [HI2.out]; rintro e f3 ⟨rfl, hb⟩; have j3 : Hid (Below f2.heap.size f2 f3) := hb; clear hb)
          | ((with_reducible show wpList _ _ _ (⟨some 106, _, _, _, _, _⟩ :: _) _ _); refine wpList_buildN (by rfl) 24 rfl (.agg (By zero32).toArray) part_hashI ?_)
          | ((with_reducible show wpList _ _ _ (⟨some 110, _, _, _, _, _⟩ :: _) _ _); refine wpList_load_want (by rfl) 42 (.tmp 15) rfl u6.heap.size 0 rfl (bkC b3) _ (blkR (Blk.below D9'.out j3.out D9'.out.lt)) Tryd.underlying42 rfl (HZl.out b3 F3.out) ?_)
          | (go_at_call 11; (with_reducible show Calls _ _ #[.agg (bkC b3).toArray] _ _); refine (bcheck_any f3 (HTr.out.later (nxTr i2.out j3.out)) b3 (M3.out.later j3.out)).mono ?_; rw [C3.out]; rintro e f4 ⟨rfl, hb⟩; have j4 : Hid (Below f2.heap.size f2 f4) := nxTr j3.out hb; clear hb)
          | ((with_reducible show wpList _ _ _ (⟨some 116, _, _, _, _, _⟩ :: _) _ _); refine wpList_load_want (by rfl) 42 (.tmp 16) rfl g5 0 rfl (bkC b5) _ (blkR (Blk.below E2.out j4.out E2.out.lt)) Tryd.underlying42 rfl (HZl.out b5 F5.out) ?_)
          | (go_at_call 11; (with_reducible show Calls _ _ #[.agg (bkC b5).toArray] _ _); refine (bcheck_any f4 (HTr.out.later (nxTr i2.out j4.out)) b5 (M5.out.later j4.out)).mono ?_; rw [C5.out]; rintro e f5 ⟨rfl, hb⟩; have j5 : Hid (Below f2.heap.size f2 f5) := nxTr j4.out hb; clear hb)
          | ((with_reducible show wpList _ _ _ (⟨some 122, _, _, _, _, _⟩ :: _) _ _); refine wpList_buildN (by rfl) 42 rfl (.agg (bkC noBk).toArray) part_bk0 ?_)
          | (go_at_call 11; (with_reducible show Calls _ _ #[.agg (bkC noBk).toArray] _ _); refine (bcheck_any f5 (HTr.out.later (nxTr i2.out j5.out)) noBk (noBk_ok f5)).mono ?_; rw [C6.out]; rintro e f6 ⟨rfl, hb⟩; have j6 : Hid (Below f2.heap.size f2 f6) := nxTr j5.out hb; clear hb)
          | ((with_reducible show wpList _ _ _ (⟨some 129, _, _, _, _, _⟩ :: _) _ _); refine wpList_buildJ (by rfl) 42 1 _ rfl (.slice (some ⟨f6.heap.size, 0, none⟩) 1 1) (.agg (bkC (bI zero32 (some ⟨f6.heap.size, 0, none⟩) [noT] 1)).toArray) rfl (P6.out _) ?_)
          | (go_at_call 11; (with_reducible show Calls _ _ #[.agg (bkC (bI zero32 (some ⟨f6.heap.size, 0, none⟩) [noT] 1)).toArray] _ _); refine (bcheck_any _ (HTr.out.later (nxAl (nxTr i2.out j6.out) _)) (bI zero32 (some ⟨f6.heap.size, 0, none⟩) [noT] 1) (bI_ok rfl (noT1_ok (heap_alloc_new f6 _)))).mono ?_; rw [C7.out f6.heap.size]; rintro e f7 ⟨rfl, hb⟩; have j7 : Hid (Below f2.heap.size f2 f7) := nxTr (nxAl j6.out _) hb; clear hb)
          | (go_at_call 12; refine (known6_any f7).mono ?_; rintro e f8 ⟨rfl, hb⟩; have j8 : Hid (Below f2.heap.size f2 f8) := nxTr j7.out hb; clear hb))
        go_ret
        exact ⟨rfl, nxTr (nxTr Vr.out i2.out) j8.out⟩
end Go.Proofs.YtpfjkjogljilnaaDoor
