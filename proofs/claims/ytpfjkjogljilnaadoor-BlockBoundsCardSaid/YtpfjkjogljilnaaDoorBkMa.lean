/-
  block, the program's Of.
-/
import Derived.Test.YtpfjkjogljilnaaDoorBkJ
import Derived.Test.YtpfjkjogljilnaaDoorBkD
import Derived.Test.YtpfjkjogljilnaaDoorBkE
import Derived.Test.YtpfjkjogljilnaaDoorBk7
import Derived.Test.YtpfjkjogljilnaaDoorBkB
namespace Go.Proofs.YtpfjkjogljilnaaDoor
open Go.RowKit

theorem packT_up (t : TxR) : packT (txP t).up = packT t := by
  have h1 : insB ((t.ins.map inP).map unP) = insB t.ins := by
    unfold insB
    rw [List.map_map, List.map_map]
    congr 1
  show leB ((t.ins.map inP).map unP).length 2 ++ (insB ((t.ins.map inP).map unP) ++ _) = _
  rw [h1, List.length_map, List.length_map]
  rfl
theorem idT_up (t : TxR) : idT (txP t).up = idT t := by rw [idT, idT, checkT_up, packT_up]
theorem notB_up (t : TxR) : notB (txP t).up = notB t := by rw [notB, notB, checkT_up]
/-- Why what was read has not its form. -/
def checkP (p : HdP) (l : List TxP) : Int := checkK ⟨⟨none, 0, p⟩, none, l.map TxP.up, 0⟩
theorem ups_ids (l : List TxR) : idsL ((l.map txP).map TxP.up) = idsL l := by
  rw [idsL, idsL, List.map_map, List.map_map]
  exact List.map_congr_left fun t _ => idT_up t
theorem ups_any (l : List TxR) : ((l.map txP).map TxP.up).any notB = l.any notB := by
  rw [List.any_map, List.any_map]
  congr 1
  funext t
  exact notB_up t
theorem checkK_up (b : BkR) : checkP b.h.p (b.txs.map txP) = checkK b := by
  unfold checkP checkK
  simp only [ups_ids, ups_any, List.length_map]
/-- What is read from bytes. -/
def bofH (b : List UInt8) : List UInt8 := blobPiece (some b)
def bofT (b : List UInt8) : Option (List TxP) × Option (List UInt8) := rtS (blobRest (some b))
def bofB (b : List UInt8) : Bool := ofHB (bofH b) && (match bofT b with
  | (some l, r) => decide (r = some []) && (checkP (ofHV (bofH b)) l == 0)
  | (none, _) => false)
def bofV (b : List UInt8) : HdP × List TxP := bif bofB b then (ofHV (bofH b), ((bofT b).1).getD []) else (noHP, [])

theorem bkZ_eq : Tryd.zeroCells42 = (bkC noBk).toArray := by kernel_rfl
theorem bkZ_sz : (Tryd.prog.info? 42).map (·.size) = some Tryd.zeroCells42.size := Tryd.sizeBk
theorem bkZ_one : ∀ u ∈ Tryd.zeroCells42.toList, u.oneCell' = true := by rw [bkZ_eq]; exact bkC_one noBk
theorem noBk_ok (w : World) : BkOk w noBk := ⟨noHd_ok w, ⟨.inl rfl, fun t h => (by cases h), Nat.le_refl _, Nat.zero_le _⟩⟩
theorem build_bk (b : BkR) (f : HdFit b.h.p) (wq : World) : (Instr.build 42 #[(0, .agg (hdC b.h).toArray), (1, .slice b.B b.txs.length b.d)]).run Tryd.prog wq = .ok (.agg (bkC b).toArray) wq := by
  obtain ⟨i0, hi, hz, _, _⟩ := infoP Tryd.bkinfo
  refine run_build wq _ _ _ ?_
  rw [built_struct hi hz Tryd.underlying42 (places := [(0, 130), (130, 1)]) (by kernel_rfl)]
  exact fill_pair ([(0, 130), (130, 1)].toArray[·]?) (bkC noBk) (hdC b.h) [.slice b.B b.txs.length b.d] (.agg (hdC b.h).toArray) (.slice b.B b.txs.length b.d) rfl rfl (by rw [hdC_len f]; rfl) (by rw [hdC_len f]; rfl) (by rw [hdC_len f, bkC_len noHP_fit]; rfl)
theorem readTxs_yes (w : World) (g : Nat) (d : Option Nat) (st : Option (List UInt8)) (hR : Rd w g d st) (hlen : lenS st ≤ 1099511627776) (L : List TxP) (hq : (rtS st).1 = some L) :
    Calls Tryd.prog 28 #[.pointer (some ⟨g, 0, none⟩)] w fun e w' => ∃ B l c, e = .returned (.tuple #[.slice B l.length c, .int .i64 0]) ∧ l.map txP = L ∧ RTxs w g d st B l c w' :=
  (readTxs_any w g d st hR hlen).mono fun e w' h => by
    rcases h with ⟨B, l, c, rfl, h⟩ | ⟨_, h, _⟩
    · exact ⟨B, l, c, rfl, by have := h.r; rw [hq] at this; injection this with this; exact this.symm, h⟩
    · rw [hq] at h; cases h
theorem readTxs_no (w : World) (g : Nat) (d : Option Nat) (st : Option (List UInt8)) (hR : Rd w g d st) (hlen : lenS st ≤ 1099511627776) (hq : (rtS st).1 = none) :
    Calls Tryd.prog 28 #[.pointer (some ⟨g, 0, none⟩)] w fun e w' => e = .returned (.tuple #[.slice none 0 0, .int .i64 4]) ∧ Keeps (· = g) w w' :=
  (readTxs_any w g d st hR hlen).mono fun e w' h => by
    rcases h with ⟨B, l, c, _, h⟩ | ⟨h, _, k⟩
    · have := h.r; rw [hq] at this; cases this
    · exact ⟨h, k⟩
/-- What holds when the transactions have been read. -/
structure OfF (w w2 w3 w4 w5 : World) (h : HdR) (g : Nat) : Prop where
  gg : w.heap.size + 1 ≤ g
  lg : g < w2.heap.size
  v : Below w.heap.size w w5
  c : Blk w5 w.heap.size 42 Tryd.zeroCells42
  d : Blk w5 w3.heap.size 27 (hdC h).toArray
  k : Kept (fun j => j < w2.heap.size) w5 (fun W => HdOk W h)
  z : w2.heap.size ≤ w4.heap.size
theorem of_f {w w1 w2 w3 w4 w5 : World} {h : HdR} {g : Nat} (HG : (w.alloc (.cells Tryd.zeroCells42 42)).heap.size ≤ g) (V1 : Below (w.alloc (.cells Tryd.zeroCells42 42)).heap.size (w.alloc (.cells Tryd.zeroCells42 42)) w1) (K2 : Keeps (· = g) w1 w2) (lg1 : g < w1.heap.size)
    (V3 : Below w2.heap.size w2 w3) (B4 : Blk w4 w3.heap.size 27 (hdC h).toArray) (V4 : Below w3.heap.size w3 w4) (K5 : Keeps (· = g) w4 w5) (HK3 : Kept (fun j => j < w2.heap.size) w3 (fun W => HdOk W h)) : OfF w w2 w3 w4 w5 h g := by
  have hs : (w.alloc (.cells Tryd.zeroCells42 42)).heap.size = w.heap.size + 1 := by simp
  have hB0 : Blk (w.alloc (.cells Tryd.zeroCells42 42)) w.heap.size 42 Tryd.zeroCells42 := heap_alloc_new w _
  have z1 := V1.size
  have z2 := K2.size
  have z3 := V3.size
  have z4 := V4.size
  have z5 := K5.size
  rw [hs] at HG z1
  have v0 : Below w.heap.size w (w.alloc (.cells Tryd.zeroCells42 42)) := nxAl (nxRf w) _
  have v1 : Below w.heap.size w w1 := nxTr v0 V1
  have v2 : Below w.heap.size w w2 := v1.trans (K2.below v1.size (fun j hj => by omega))
  have v4 : Below w.heap.size w w4 := nxTr (nxTr v2 V3) V4
  refine ⟨HG, by omega, v4.trans (K5.below v4.size (fun j hj => by omega)), ?_, B4.keeps K5 (by omega), ?_, by omega⟩
  · have c1 := hB0.below V1 hB0.lt
    have c2 := c1.keeps K2 (by omega)
    exact ((c2.below V3 (by omega)).below V4 (by omega)).keeps K5 (by omega)
  · exact HK3.step ((Keeps.of_below V4 _).trans (K5.mono (fun j _ h => by omega))) (fun _ _ h => h)
theorem HdOk.kept {S : Nat → Prop} {w : World} {h : HdR} (k : Kept S w (fun W => HdOk W h)) : HdOk w h := k.now
/-- What Of answers. -/
def BOfPost (w : World) (b : List UInt8) (e : Ending) (w' : World) : Prop :=
  ∃ k : BkR, e = .returned (.tuple #[.agg (bkC k).toArray, .int .i64 (bif bofB b then 0 else 4)]) ∧ (k.h.p, k.txs.map txP) = bofV b ∧ BkOk w' k ∧ Below w.heap.size w w'

set_option maxHeartbeats 600000 in
set_option maxRecDepth 100000 in
theorem bof_any (w : World) (hTb : Tabs w) (Bx : Nat) (A : Option Addr) (b : List UInt8) (c : Nat) (hS : Sees w Bx A b) (hlen : b.length ≤ 1099511627776) :
    Calls Tryd.prog 8 #[.slice A b.length c] w (BOfPost w b) := by
  have HS0 := Lib.hid (show Sees (w.alloc (.cells Tryd.zeroCells42 42)) Bx A b from hS.alloc _)
  have HB0 : Hid (Blk (w.alloc (.cells Tryd.zeroCells42 42)) w.heap.size 42 Tryd.zeroCells42) := heap_alloc_new w _
  have Hb0 := Lib.hid (show Below w.heap.size w (w.alloc (.cells Tryd.zeroCells42 42)) from nxAl (nxRf w) _)
  have Hs0 : Hid (w.heap.size + 1 = (w.alloc (.cells Tryd.zeroCells42 42)).heap.size) := by show _ = _; simp
  have HTb := Lib.hid hTb
  have HL := Lib.hid hlen
  obtain ⟨p, hp⟩ : ∃ p, blobPiece (some b) = p := ⟨_, rfl⟩
  obtain ⟨s1, hs1⟩ : ∃ p, blobRest (some b) = p := ⟨_, rfl⟩
  have HPl : Hid (p.length ≤ 1099511627776) := by show _ ≤ _; rw [← hp]; exact Nat.le_trans (blobPiece_le _) hlen
  have HSl : Hid (lenS s1 ≤ 1099511627776) := by show _ ≤ _; rw [← hs1]; exact Nat.le_trans (blobRest_le _) hlen
  have HPe := Lib.hid hp
  have HSe := Lib.hid hs1
  obtain ⟨oh, hoh⟩ : ∃ z, ofHB p = z := ⟨_, rfl⟩
  have HOh := Lib.hid hoh
  have HBV : Hid (bofB b = (oh && (match rtS s1 with
      | (some l, r) => decide (r = some []) && (checkP (ofHV p) l == 0)
      | (none, _) => false))) := by show _ = _; rw [bofB, bofH, bofT, hp, hs1, hoh]
  have HVV : Hid (bofB b = true → ∀ l, (rtS s1).1 = some l → bofV b = (ofHV p, l)) := fun h l hl => by
    rw [bofV, h, cond_true, bofH, bofT, hp, hs1, hl]; rfl
  have HVN : Hid (bofB b = false → bofV b = (noHP, [])) := fun h => by rw [bofV, h]; rfl
  unfold BOfPost
  clear hS hlen hp hs1 hoh hTb
  obtain ⟨q1, hq1⟩ : ∃ q, (rtS s1).1 = q := ⟨_, rfl⟩
  have HQ := Lib.hid hq1
  obtain ⟨r, hr⟩ : ∃ q, (rtS s1).2 = q := ⟨_, rfl⟩
  have HRr := Lib.hid hr
  have HRs : Hid (rtS s1 = (q1, r)) := by show _ = _; rw [← hq1, ← hr]
  rw [HRs.out] at HBV
  clear hq1 hr
  cases q1 with
  | none =>
    have HOB : Hid (bofB b = false) := by show _ = _; rw [HBV.out]; cases oh <;> rfl
    cases oh
    all_goals
      (go_enter Tryd.func8, Tryd.ntmps8
       go_wp2_with (first
         | (go_at_call 18; refine (read_any (w.alloc (.cells Tryd.zeroCells42 42)) Bx A _ c b rfl HS0.out HL.out).mono ?_; rintro e w1 ⟨g, d, rfl, hg, hd, hr1, hb1⟩; have HG := Lib.hid hg; have HDx := Lib.hid hd; have R1 := Lib.hid hr1; have V1 := Lib.hid hb1; clear hg hd hr1 hb1)
         | (go_at_call 27; refine (rblob_s w1 g d (some b) R1.out HL.out).mono ?_; unfold PiecePost; rw [HPe.out, HSe.out]; rintro e w2 ⟨A2, c2, rfl, ho2, hr2, hk2⟩; have S2 := Lib.hid (Sees.own ho2); have R2 := Lib.hid hr2; have K2 : Hid (Keeps (· = g) w1 w2) := hk2; clear ho2 hr2 hk2)
         | (go_at_call 5; refine (ofh_anyK w2 w2.heap.size A2 p c2 S2.out HPl.out).mono ?_; unfold OfHPostK; rw [HOh.out]; rintro e w3 ⟨h, rfl, hp3, hk3, hb3, hkk3⟩; have P3 : Hid (h.p = ofHV p) := hp3; have F3 : Hid (HdFit h.p) := hk3.f; have HK3 := Lib.hid hkk3; have V3 : Hid (Below w2.heap.size w2 w3) := hb3; have HSZ := Lib.hid (hdSz (h := h) hk3.f); have HSZ' := Lib.hid (hdSz' (h := h) hk3.f); clear hp3 hk3 hb3 hkk3)
         | ((with_reducible show wpList _ _ _ (⟨none, .store 27 _ _, _, _, _, _⟩ :: _) _ _); show wpList _ _ _ _ _ (w3.alloc (.cells hdZ 27)); refine wpList_store_all rfl 27 (.tmp 5) (.tmp 16) rfl w3.heap.size 27 hdZ (hdC h).toArray rfl rfl (heap_alloc_new w3 _) (show (130 : Nat) = (hdC h).length from (hdC_len F3.out).symm) HSZ'.out (hdC_one h) ?_; intro w4 h5 h6 h7; have B4 := Lib.hid h5; have V4 : Hid (Below w3.heap.size w3 w4) := (nxAl (nxRf w3) _).trans (h6.below (nxAl (nxRf w3) _).size (fun k hk => by omega)); clear h5 h6 h7)
         | (go_at_call 28; refine (readTxs_no w4 g d s1 ((R2.out.below V3.out).below V4.out) HSl.out HQ.out).mono ?_; rintro e w5 ⟨rfl, hk5⟩; have K5 : Hid (Keeps (· = g) w4 w5) := hk5; clear hk5; have hof := of_f HG.out V1.out K2.out R1.out.lt V3.out B4.out V4.out K5.out HK3.out; have HGg := Lib.hid hof.gg; have Lg2 := Lib.hid hof.lg; have V05 := Lib.hid hof.v; have C5 := Lib.hid hof.c; have D5 := Lib.hid hof.d; have HK5 := Lib.hid hof.k; have Z24 := Lib.hid hof.z; clear hof)
         | ((with_reducible show wpList _ _ _ (⟨some 23, _, _, _, _, _⟩ :: _) _ _); refine wpList_load_mid rfl 27 (.tmp 5) rfl w3.heap.size 0 rfl (hdC h) _ (blkR D5.out) Tryd.underlying27 rfl HSZ.out ?_)
         | ((with_reducible show wpList _ _ _ (⟨some 25, _, _, _, _, _⟩ :: _) _ _); refine wpList_build2 rfl 42 (.tmp 23) (.tmp 24) rfl (.agg (hdC h).toArray) (.slice none 0 0) (.agg (bkC ⟨h, none, [], 0⟩).toArray) rfl rfl (fun wq => by have q := build_bk ⟨h, none, [], 0⟩ F3.out wq; exact q) ?_)
         | ((with_reducible show wpList _ _ _ (⟨none, .store 42 (.tmp 9) _, _, _, _, _⟩ :: _) _ _); show wpList _ _ _ _ _ (w5.alloc (.cells Tryd.zeroCells42 42)); refine wpList_store_all rfl 42 (.tmp 9) (.tmp 25) rfl w5.heap.size 42 Tryd.zeroCells42 (bkC ⟨h, none, [], 0⟩).toArray rfl rfl (heap_alloc_new w5 _) (show (131 : Nat) = (bkC ⟨h, none, [], 0⟩).length from (bkC_len F3.out).symm) (bkSz' (b := ⟨h, none, [], 0⟩) F3.out) (bkC_one ⟨h, none, [], 0⟩) ?_; intro w6 h5 h6 h7; have B6 := Lib.hid h5; have V6 : Hid (Below w5.heap.size w5 w6) := (nxAl (nxRf w5) _).trans (h6.below (nxAl (nxRf w5) _).size (fun k hk => by omega)); have C6 := Lib.hid (C5.out.below V6.out C5.out.lt); clear h5 h6 h7)
         | ((with_reducible show wpList _ _ _ (⟨none, .store 42 (.tmp 2) _, _, _, _, _⟩ :: _) _ _); refine wpList_store_all rfl 42 (.tmp 2) (.tmp 42) rfl w.heap.size 42 Tryd.zeroCells42 Tryd.zeroCells42 rfl rfl C6.out rfl bkZ_sz bkZ_one ?_; intro w8 h5 h6 h7; have B8 := Lib.hid h5; have K8 := Lib.hid h6; clear h5 h6 h7))
       refine bodyPost_ret (row_tmp Tryd.results8 _ _ w.heap.size 42 _ _ rfl B8.out Tryd.underlying42 rfl bkZ_sz _ rfl) rfl ⟨noBk, (by rw [HOB.out, ← bkZ_eq] <;> rfl), (by rw [HVN.out HOB.out]; rfl), noBk_ok w8, (nxTr V05.out V6.out).trans (K8.out.below (nxTr V05.out V6.out).size (fun j hj => by omega))⟩)
  | some LP =>
    cases oh with
    | false =>
      have HOB : Hid (bofB b = false) := by show _ = _; rw [HBV.out]; rfl
      go_enter Tryd.func8, Tryd.ntmps8
      go_wp2_with (first
        | (go_at_call 18; refine (read_any (w.alloc (.cells Tryd.zeroCells42 42)) Bx A _ c b rfl HS0.out HL.out).mono ?_; rintro e w1 ⟨g, d, rfl, hg, hd, hr1, hb1⟩; have HG := Lib.hid hg; have HDx := Lib.hid hd; have R1 := Lib.hid hr1; have V1 := Lib.hid hb1; clear hg hd hr1 hb1)
        | (go_at_call 27; refine (rblob_s w1 g d (some b) R1.out HL.out).mono ?_; unfold PiecePost; rw [HPe.out, HSe.out]; rintro e w2 ⟨A2, c2, rfl, ho2, hr2, hk2⟩; have S2 := Lib.hid (Sees.own ho2); have R2 := Lib.hid hr2; have K2 : Hid (Keeps (· = g) w1 w2) := hk2; clear ho2 hr2 hk2)
        | (go_at_call 5; refine (ofh_anyK w2 w2.heap.size A2 p c2 S2.out HPl.out).mono ?_; unfold OfHPostK; rw [HOh.out]; rintro e w3 ⟨h, rfl, hp3, hk3, hb3, hkk3⟩; have P3 : Hid (h.p = ofHV p) := hp3; have F3 : Hid (HdFit h.p) := hk3.f; have HK3 := Lib.hid hkk3; have V3 : Hid (Below w2.heap.size w2 w3) := hb3; have HSZ := Lib.hid (hdSz (h := h) hk3.f); have HSZ' := Lib.hid (hdSz' (h := h) hk3.f); clear hp3 hk3 hb3 hkk3)
        | ((with_reducible show wpList _ _ _ (⟨none, .store 27 _ _, _, _, _, _⟩ :: _) _ _); show wpList _ _ _ _ _ (w3.alloc (.cells hdZ 27)); refine wpList_store_all rfl 27 (.tmp 5) (.tmp 16) rfl w3.heap.size 27 hdZ (hdC h).toArray rfl rfl (heap_alloc_new w3 _) (show (130 : Nat) = (hdC h).length from (hdC_len F3.out).symm) HSZ'.out (hdC_one h) ?_; intro w4 h5 h6 h7; have B4 := Lib.hid h5; have V4 : Hid (Below w3.heap.size w3 w4) := (nxAl (nxRf w3) _).trans (h6.below (nxAl (nxRf w3) _).size (fun k hk => by omega)); clear h5 h6 h7)
        | (go_at_call 28; refine (readTxs_yes w4 g d s1 ((R2.out.below V3.out).below V4.out) HSl.out LP HQ.out).mono ?_; rintro e w5 ⟨B5, l5, c5, rfl, hl5, hr5⟩; have K5 : Hid (Keeps (· = g) w4 w5) := hr5.v; have R5 := Lib.hid hr5.rd; have T5 := Lib.hid hr5.k; have E5 := Lib.hid hl5; clear hr5 hl5; have hof := of_f HG.out V1.out K2.out R1.out.lt V3.out B4.out V4.out K5.out HK3.out; have HGg := Lib.hid hof.gg; have Lg2 := Lib.hid hof.lg; have V05 := Lib.hid hof.v; have C5 := Lib.hid hof.c; have D5 := Lib.hid hof.d; have HK5 := Lib.hid hof.k; have Z24 := Lib.hid hof.z; clear hof)
        | ((with_reducible show wpList _ _ _ (⟨some 23, _, _, _, _, _⟩ :: _) _ _); refine wpList_load_mid rfl 27 (.tmp 5) rfl w3.heap.size 0 rfl (hdC h) _ (blkR D5.out) Tryd.underlying27 rfl HSZ.out ?_)
        | ((with_reducible show wpList _ _ _ (⟨some 25, _, _, _, _, _⟩ :: _) _ _); refine wpList_build2 rfl 42 (.tmp 23) (.tmp 24) rfl (.agg (hdC h).toArray) (.slice B5 l5.length c5) (.agg (bkC ⟨h, B5, l5, c5⟩).toArray) rfl rfl (fun wq => by have q := build_bk ⟨h, B5, l5, c5⟩ F3.out wq; exact q) ?_)
        | ((with_reducible show wpList _ _ _ (⟨none, .store 42 (.tmp 9) _, _, _, _, _⟩ :: _) _ _); show wpList _ _ _ _ _ (w5.alloc (.cells Tryd.zeroCells42 42)); refine wpList_store_all rfl 42 (.tmp 9) (.tmp 25) rfl w5.heap.size 42 Tryd.zeroCells42 (bkC ⟨h, B5, l5, c5⟩).toArray rfl rfl (heap_alloc_new w5 _) (show (131 : Nat) = (bkC ⟨h, B5, l5, c5⟩).length from (bkC_len F3.out).symm) (bkSz' (b := ⟨h, B5, l5, c5⟩) F3.out) (bkC_one ⟨h, B5, l5, c5⟩) ?_; intro w6 h5 h6 h7; have B6 := Lib.hid h5; have V6 : Hid (Below w5.heap.size w5 w6) := (nxAl (nxRf w5) _).trans (h6.below (nxAl (nxRf w5) _).size (fun k hk => by omega)); have C6 := Lib.hid (C5.out.below V6.out C5.out.lt); clear h5 h6 h7)
        | ((with_reducible show wpList _ _ _ (⟨none, .store 42 (.tmp 2) _, _, _, _, _⟩ :: _) _ _); refine wpList_store_all rfl 42 (.tmp 2) (.tmp 42) rfl w.heap.size 42 Tryd.zeroCells42 Tryd.zeroCells42 rfl rfl C6.out rfl bkZ_sz bkZ_one ?_; intro w8 h5 h6 h7; have B8 := Lib.hid h5; have K8 := Lib.hid h6; clear h5 h6 h7))
      refine bodyPost_ret (row_tmp Tryd.results8 _ _ w.heap.size 42 _ _ rfl B8.out Tryd.underlying42 rfl bkZ_sz _ rfl) rfl ⟨noBk, (by rw [HOB.out, ← bkZ_eq] <;> rfl), (by rw [HVN.out HOB.out]; rfl), noBk_ok w8, (nxTr V05.out V6.out).trans (K8.out.below (nxTr V05.out V6.out).size (fun j hj => by omega))⟩
    | true =>
      have HBW : Hid (bofB b = (decide (r = some []) && (checkP (ofHV p) LP == 0))) := by show _ = _; rw [HBV.out, Bool.true_and]
      by_cases hs : r = some []
      rotate_left 1
      · have HRe : Hid (rend r = 4) := if_neg hs
        have HOB : Hid (bofB b = false) := by show _ = _; rw [HBW.out, decide_eq_false hs, Bool.false_and]
        go_enter Tryd.func8, Tryd.ntmps8
        go_wp2_with (first
          | (go_at_call 18; refine (read_any (w.alloc (.cells Tryd.zeroCells42 42)) Bx A _ c b rfl HS0.out HL.out).mono ?_; rintro e w1 ⟨g, d, rfl, hg, hd, hr1, hb1⟩; have HG := Lib.hid hg; have HDx := Lib.hid hd; have R1 := Lib.hid hr1; have V1 := Lib.hid hb1; clear hg hd hr1 hb1)
          | (go_at_call 27; refine (rblob_s w1 g d (some b) R1.out HL.out).mono ?_; unfold PiecePost; rw [HPe.out, HSe.out]; rintro e w2 ⟨A2, c2, rfl, ho2, hr2, hk2⟩; have S2 := Lib.hid (Sees.own ho2); have R2 := Lib.hid hr2; have K2 : Hid (Keeps (· = g) w1 w2) := hk2; clear ho2 hr2 hk2)
          | (go_at_call 5; refine (ofh_anyK w2 w2.heap.size A2 p c2 S2.out HPl.out).mono ?_; unfold OfHPostK; rw [HOh.out]; rintro e w3 ⟨h, rfl, hp3, hk3, hb3, hkk3⟩; have P3 : Hid (h.p = ofHV p) := hp3; have F3 : Hid (HdFit h.p) := hk3.f; have HK3 := Lib.hid hkk3; have V3 : Hid (Below w2.heap.size w2 w3) := hb3; have HSZ := Lib.hid (hdSz (h := h) hk3.f); have HSZ' := Lib.hid (hdSz' (h := h) hk3.f); clear hp3 hk3 hb3 hkk3)
          | ((with_reducible show wpList _ _ _ (⟨none, .store 27 _ _, _, _, _, _⟩ :: _) _ _); show wpList _ _ _ _ _ (w3.alloc (.cells hdZ 27)); refine wpList_store_all rfl 27 (.tmp 5) (.tmp 16) rfl w3.heap.size 27 hdZ (hdC h).toArray rfl rfl (heap_alloc_new w3 _) (show (130 : Nat) = (hdC h).length from (hdC_len F3.out).symm) HSZ'.out (hdC_one h) ?_; intro w4 h5 h6 h7; have B4 := Lib.hid h5; have V4 : Hid (Below w3.heap.size w3 w4) := (nxAl (nxRf w3) _).trans (h6.below (nxAl (nxRf w3) _).size (fun k hk => by omega)); clear h5 h6 h7)
          | (go_at_call 28; refine (readTxs_yes w4 g d s1 ((R2.out.below V3.out).below V4.out) HSl.out LP HQ.out).mono ?_; rintro e w5 ⟨B5, l5, c5, rfl, hl5, hr5⟩; have K5 : Hid (Keeps (· = g) w4 w5) := hr5.v; have R5 := Lib.hid hr5.rd; have T5 := Lib.hid hr5.k; have E5 := Lib.hid hl5; clear hr5 hl5; have hof := of_f HG.out V1.out K2.out R1.out.lt V3.out B4.out V4.out K5.out HK3.out; have HGg := Lib.hid hof.gg; have Lg2 := Lib.hid hof.lg; have V05 := Lib.hid hof.v; have C5 := Lib.hid hof.c; have D5 := Lib.hid hof.d; have HK5 := Lib.hid hof.k; have Z24 := Lib.hid hof.z; clear hof)
          | ((with_reducible show wpList _ _ _ (⟨some 23, _, _, _, _, _⟩ :: _) _ _); refine wpList_load_mid rfl 27 (.tmp 5) rfl w3.heap.size 0 rfl (hdC h) _ (blkR D5.out) Tryd.underlying27 rfl HSZ.out ?_)
          | ((with_reducible show wpList _ _ _ (⟨some 25, _, _, _, _, _⟩ :: _) _ _); refine wpList_build2 rfl 42 (.tmp 23) (.tmp 24) rfl (.agg (hdC h).toArray) (.slice B5 l5.length c5) (.agg (bkC ⟨h, B5, l5, c5⟩).toArray) rfl rfl (fun wq => by have q := build_bk ⟨h, B5, l5, c5⟩ F3.out wq; exact q) ?_)
          | ((with_reducible show wpList _ _ _ (⟨none, .store 42 (.tmp 9) _, _, _, _, _⟩ :: _) _ _); show wpList _ _ _ _ _ (w5.alloc (.cells Tryd.zeroCells42 42)); refine wpList_store_all rfl 42 (.tmp 9) (.tmp 25) rfl w5.heap.size 42 Tryd.zeroCells42 (bkC ⟨h, B5, l5, c5⟩).toArray rfl rfl (heap_alloc_new w5 _) (show (131 : Nat) = (bkC ⟨h, B5, l5, c5⟩).length from (bkC_len F3.out).symm) (bkSz' (b := ⟨h, B5, l5, c5⟩) F3.out) (bkC_one ⟨h, B5, l5, c5⟩) ?_; intro w6 h5 h6 h7; have B6 := Lib.hid h5; have V6 : Hid (Below w5.heap.size w5 w6) := (nxAl (nxRf w5) _).trans (h6.below (nxAl (nxRf w5) _).size (fun k hk => by omega)); have C6 := Lib.hid (C5.out.below V6.out C5.out.lt); clear h5 h6 h7)
          | (go_at_call 22; refine (rend_s w6 g d r (by have q := R5.out.below V6.out; rw [HRr.out] at q; exact q)).mono ?_; rw [HRe.out]; rintro e w6' ⟨rfl, rfl⟩)
          | ((with_reducible show wpList _ _ _ (⟨none, .store 42 (.tmp 2) _, _, _, _, _⟩ :: _) _ _); refine wpList_store_all rfl 42 (.tmp 2) (.tmp 42) rfl w.heap.size 42 Tryd.zeroCells42 Tryd.zeroCells42 rfl rfl C6.out rfl bkZ_sz bkZ_one ?_; intro w8 h5 h6 h7; have B8 := Lib.hid h5; have K8 := Lib.hid h6; clear h5 h6 h7))
        refine bodyPost_ret (row_tmp Tryd.results8 _ _ w.heap.size 42 _ _ rfl B8.out Tryd.underlying42 rfl bkZ_sz _ rfl) rfl ⟨noBk, (by rw [HOB.out, ← bkZ_eq] <;> rfl), (by rw [HVN.out HOB.out]; rfl), noBk_ok w8, (nxTr V05.out V6.out).trans (K8.out.below (nxTr V05.out V6.out).size (fun j hj => by omega))⟩
      subst hs
      have HRe : Hid (rend (some []) = 0) := rfl
      obtain ⟨E, hE⟩ : ∃ E, checkP (ofHV p) LP = E := ⟨_, rfl⟩
      have HEp := Lib.hid hE
      clear hE
      by_cases hz : E = 0
      · subst hz
        have HOB : Hid (bofB b = true) := by show _ = _; rw [HBW.out, HEp.out]; rfl
        go_enter Tryd.func8, Tryd.ntmps8
        go_wp2_with (first
          | (go_at_call 18; refine (read_any (w.alloc (.cells Tryd.zeroCells42 42)) Bx A _ c b rfl HS0.out HL.out).mono ?_; rintro e w1 ⟨g, d, rfl, hg, hd, hr1, hb1⟩; have HG := Lib.hid hg; have HDx := Lib.hid hd; have R1 := Lib.hid hr1; have V1 := Lib.hid hb1; clear hg hd hr1 hb1)
          | (go_at_call 27; refine (rblob_s w1 g d (some b) R1.out HL.out).mono ?_; unfold PiecePost; rw [HPe.out, HSe.out]; rintro e w2 ⟨A2, c2, rfl, ho2, hr2, hk2⟩; have S2 := Lib.hid (Sees.own ho2); have R2 := Lib.hid hr2; have K2 : Hid (Keeps (· = g) w1 w2) := hk2; clear ho2 hr2 hk2)
          | (go_at_call 5; refine (ofh_anyK w2 w2.heap.size A2 p c2 S2.out HPl.out).mono ?_; unfold OfHPostK; rw [HOh.out]; rintro e w3 ⟨h, rfl, hp3, hk3, hb3, hkk3⟩; have P3 : Hid (h.p = ofHV p) := hp3; have F3 : Hid (HdFit h.p) := hk3.f; have HK3 := Lib.hid hkk3; have V3 : Hid (Below w2.heap.size w2 w3) := hb3; have HSZ := Lib.hid (hdSz (h := h) hk3.f); have HSZ' := Lib.hid (hdSz' (h := h) hk3.f); clear hp3 hk3 hb3 hkk3)
          | ((with_reducible show wpList _ _ _ (⟨none, .store 27 _ _, _, _, _, _⟩ :: _) _ _); show wpList _ _ _ _ _ (w3.alloc (.cells hdZ 27)); refine wpList_store_all rfl 27 (.tmp 5) (.tmp 16) rfl w3.heap.size 27 hdZ (hdC h).toArray rfl rfl (heap_alloc_new w3 _) (show (130 : Nat) = (hdC h).length from (hdC_len F3.out).symm) HSZ'.out (hdC_one h) ?_; intro w4 h5 h6 h7; have B4 := Lib.hid h5; have V4 : Hid (Below w3.heap.size w3 w4) := (nxAl (nxRf w3) _).trans (h6.below (nxAl (nxRf w3) _).size (fun k hk => by omega)); clear h5 h6 h7)
          | (go_at_call 28; refine (readTxs_yes w4 g d s1 ((R2.out.below V3.out).below V4.out) HSl.out LP HQ.out).mono ?_; rintro e w5 ⟨B5, l5, c5, rfl, hl5, hr5⟩; have K5 : Hid (Keeps (· = g) w4 w5) := hr5.v; have R5 := Lib.hid hr5.rd; have T5 := Lib.hid hr5.k; have E5 := Lib.hid hl5; clear hr5 hl5; have hof := of_f HG.out V1.out K2.out R1.out.lt V3.out B4.out V4.out K5.out HK3.out; have HGg := Lib.hid hof.gg; have Lg2 := Lib.hid hof.lg; have V05 := Lib.hid hof.v; have C5 := Lib.hid hof.c; have D5 := Lib.hid hof.d; have HK5 := Lib.hid hof.k; have Z24 := Lib.hid hof.z; clear hof; obtain ⟨kb, hkb⟩ : ∃ kb : BkR, (⟨h, B5, l5, c5⟩ : BkR) = kb := ⟨_, rfl⟩; have HKb := Lib.hid hkb; have HFk : Hid (HdFit kb.h.p) := (by show HdFit _; rw [← hkb]; exact F3.out); have HE : Hid (checkK kb = 0) := (by show _ = _; rw [← hkb, ← checkK_up, ← HEp.out, ← E5.out]; show checkP h.p _ = _; rw [P3.out]); have KK6 : Hid (∀ W, Keeps (fun j => j < w2.heap.size) w5 W → BkOk W kb) := (fun W hW => by rw [← hkb]; exact ⟨HK5.out W hW, T5.out W (hW.mono (fun j _ h => by have h1 : j < w2.heap.size := h; have := Z24.out; omega))⟩); clear hkb)
          | ((with_reducible show wpList _ _ _ (⟨some 23, _, _, _, _, _⟩ :: _) _ _); refine wpList_load_mid rfl 27 (.tmp 5) rfl w3.heap.size 0 rfl (hdC h) _ (blkR D5.out) Tryd.underlying27 rfl HSZ.out ?_)
          | ((with_reducible show wpList _ _ _ (⟨some 25, _, _, _, _, _⟩ :: _) _ _); refine wpList_build2 rfl 42 (.tmp 23) (.tmp 24) rfl (.agg (hdC h).toArray) (.slice B5 l5.length c5) (.agg (bkC kb).toArray) rfl rfl (fun wq => by rw [← HKb.out]; exact build_bk ⟨h, B5, l5, c5⟩ F3.out wq) ?_)
          | ((with_reducible show wpList _ _ _ (⟨none, .store 42 (.tmp 9) _, _, _, _, _⟩ :: _) _ _); show wpList _ _ _ _ _ (w5.alloc (.cells Tryd.zeroCells42 42)); refine wpList_store_all rfl 42 (.tmp 9) (.tmp 25) rfl w5.heap.size 42 Tryd.zeroCells42 (bkC kb).toArray rfl rfl (heap_alloc_new w5 _) (show (131 : Nat) = (bkC kb).length from (bkC_len HFk.out).symm) (bkSz' (b := kb) HFk.out) (bkC_one kb) ?_; intro w6 h5 h6 h7; have B6 := Lib.hid h5; have V6 : Hid (Below w5.heap.size w5 w6) := (nxAl (nxRf w5) _).trans (h6.below (nxAl (nxRf w5) _).size (fun k hk => by omega)); have C6 := Lib.hid (C5.out.below V6.out C5.out.lt); have KB6 := Lib.hid (KK6.out w6 (Keeps.of_below V6.out _)); clear h5 h6 h7)
          | (go_at_call 22; refine (rend_s w6 g d (some []) (by have q := R5.out.below V6.out; rw [HRr.out] at q; exact q)).mono ?_; rw [HRe.out]; rintro e w6' ⟨rfl, rfl⟩)
          | ((with_reducible show wpList _ _ _ (⟨some 38, _, _, _, _, _⟩ :: _) _ _); refine wpList_load_midg (by rfl) 42 (.tmp 9) rfl w5.heap.size 0 rfl (bkC kb) _ (blkR B6.out) Tryd.underlying42 rfl (bkSz (b := kb) HFk.out) ?_)
          | (go_at_call 11; refine (bcheck_any w6 (HTb.out.later (nxTr V05.out V6.out)) kb KB6.out).mono ?_; rw [HE.out]; rintro e w7 ⟨rfl, hb7⟩; have V7 : Hid (Below w6.heap.size w6 w7) := hb7; have C7 := Lib.hid (C6.out.below hb7 C6.out.lt); have B7 := Lib.hid (B6.out.below hb7 B6.out.lt); clear hb7)
          | ((with_reducible show wpList _ _ _ (⟨some 43, _, _, _, _, _⟩ :: _) _ _); refine wpList_load_mid rfl 42 (.tmp 9) rfl w5.heap.size 0 rfl (bkC kb) _ (blkR B7.out) Tryd.underlying42 rfl (bkSz (b := kb) HFk.out) ?_)
          | ((with_reducible show wpList _ _ _ (⟨none, .store 42 (.tmp 2) _, _, _, _, _⟩ :: _) _ _); refine wpList_store_all rfl 42 (.tmp 2) (.tmp 43) rfl w.heap.size 42 Tryd.zeroCells42 (bkC kb).toArray rfl rfl C7.out (show (131 : Nat) = (bkC kb).length from (bkC_len HFk.out).symm) (bkSz' (b := kb) HFk.out) (bkC_one kb) ?_; intro w8 h5 h6 h7; have B8 := Lib.hid h5; have K8 := Lib.hid h6; clear h5 h6 h7))
        refine bodyPost_ret (row_tmp Tryd.results8 _ _ w.heap.size 42 _ _ rfl B8.out Tryd.underlying42 rfl (bkSz' (b := kb) HFk.out) _ rfl) rfl ⟨kb, (by rw [HOB.out] <;> rfl), ?_, ?_, ?_⟩
        · rw [HVV.out HOB.out LP HQ.out, ← HKb.out, ← E5.out, ← P3.out]
        · exact KK6.out w8 (((Keeps.of_below V6.out _).trans (Keeps.of_below V7.out _)).trans (K8.out.mono (fun j _ h => by have := Lg2.out; have := HGg.out; omega)))
        · exact (nxTr (nxTr V05.out V6.out) V7.out).trans (K8.out.below (nxTr (nxTr V05.out V6.out) V7.out).size (fun j hj => by omega))
      · have HOB : Hid (bofB b = false) := by show _ = _; rw [HBW.out, HEp.out, beq_eq_false_iff_ne.2 hz, Bool.and_false]
        have hq : (E == 0) = false := beq_eq_false_iff_ne.2 hz
        have hq2 : (E != 0) = true := by rw [bne, hq]; rfl
        clear hz
        go_enter Tryd.func8, Tryd.ntmps8
        go_wp2_with (first
          | (go_at_call 18; refine (read_any (w.alloc (.cells Tryd.zeroCells42 42)) Bx A _ c b rfl HS0.out HL.out).mono ?_; rintro e w1 ⟨g, d, rfl, hg, hd, hr1, hb1⟩; have HG := Lib.hid hg; have HDx := Lib.hid hd; have R1 := Lib.hid hr1; have V1 := Lib.hid hb1; clear hg hd hr1 hb1)
          | (go_at_call 27; refine (rblob_s w1 g d (some b) R1.out HL.out).mono ?_; unfold PiecePost; rw [HPe.out, HSe.out]; rintro e w2 ⟨A2, c2, rfl, ho2, hr2, hk2⟩; have S2 := Lib.hid (Sees.own ho2); have R2 := Lib.hid hr2; have K2 : Hid (Keeps (· = g) w1 w2) := hk2; clear ho2 hr2 hk2)
          | (go_at_call 5; refine (ofh_anyK w2 w2.heap.size A2 p c2 S2.out HPl.out).mono ?_; unfold OfHPostK; rw [HOh.out]; rintro e w3 ⟨h, rfl, hp3, hk3, hb3, hkk3⟩; have P3 : Hid (h.p = ofHV p) := hp3; have F3 : Hid (HdFit h.p) := hk3.f; have HK3 := Lib.hid hkk3; have V3 : Hid (Below w2.heap.size w2 w3) := hb3; have HSZ := Lib.hid (hdSz (h := h) hk3.f); have HSZ' := Lib.hid (hdSz' (h := h) hk3.f); clear hp3 hk3 hb3 hkk3)
          | ((with_reducible show wpList _ _ _ (⟨none, .store 27 _ _, _, _, _, _⟩ :: _) _ _); show wpList _ _ _ _ _ (w3.alloc (.cells hdZ 27)); refine wpList_store_all rfl 27 (.tmp 5) (.tmp 16) rfl w3.heap.size 27 hdZ (hdC h).toArray rfl rfl (heap_alloc_new w3 _) (show (130 : Nat) = (hdC h).length from (hdC_len F3.out).symm) HSZ'.out (hdC_one h) ?_; intro w4 h5 h6 h7; have B4 := Lib.hid h5; have V4 : Hid (Below w3.heap.size w3 w4) := (nxAl (nxRf w3) _).trans (h6.below (nxAl (nxRf w3) _).size (fun k hk => by omega)); clear h5 h6 h7)
          | (go_at_call 28; refine (readTxs_yes w4 g d s1 ((R2.out.below V3.out).below V4.out) HSl.out LP HQ.out).mono ?_; rintro e w5 ⟨B5, l5, c5, rfl, hl5, hr5⟩; have K5 : Hid (Keeps (· = g) w4 w5) := hr5.v; have R5 := Lib.hid hr5.rd; have T5 := Lib.hid hr5.k; have E5 := Lib.hid hl5; clear hr5 hl5; have hof := of_f HG.out V1.out K2.out R1.out.lt V3.out B4.out V4.out K5.out HK3.out; have HGg := Lib.hid hof.gg; have Lg2 := Lib.hid hof.lg; have V05 := Lib.hid hof.v; have C5 := Lib.hid hof.c; have D5 := Lib.hid hof.d; have HK5 := Lib.hid hof.k; have Z24 := Lib.hid hof.z; clear hof; obtain ⟨kb, hkb⟩ : ∃ kb : BkR, (⟨h, B5, l5, c5⟩ : BkR) = kb := ⟨_, rfl⟩; have HKb := Lib.hid hkb; have HFk : Hid (HdFit kb.h.p) := (by show HdFit _; rw [← hkb]; exact F3.out); have HE : Hid (checkK kb = E) := (by show _ = _; rw [← hkb, ← checkK_up, ← HEp.out, ← E5.out]; show checkP h.p _ = _; rw [P3.out]); have KK6 : Hid (∀ W, Keeps (fun j => j < w2.heap.size) w5 W → BkOk W kb) := (fun W hW => by rw [← hkb]; exact ⟨HK5.out W hW, T5.out W (hW.mono (fun j _ h => by have h1 : j < w2.heap.size := h; have := Z24.out; omega))⟩); clear hkb)
          | ((with_reducible show wpList _ _ _ (⟨some 23, _, _, _, _, _⟩ :: _) _ _); refine wpList_load_mid rfl 27 (.tmp 5) rfl w3.heap.size 0 rfl (hdC h) _ (blkR D5.out) Tryd.underlying27 rfl HSZ.out ?_)
          | ((with_reducible show wpList _ _ _ (⟨some 25, _, _, _, _, _⟩ :: _) _ _); refine wpList_build2 rfl 42 (.tmp 23) (.tmp 24) rfl (.agg (hdC h).toArray) (.slice B5 l5.length c5) (.agg (bkC kb).toArray) rfl rfl (fun wq => by rw [← HKb.out]; exact build_bk ⟨h, B5, l5, c5⟩ F3.out wq) ?_)
          | ((with_reducible show wpList _ _ _ (⟨none, .store 42 (.tmp 9) _, _, _, _, _⟩ :: _) _ _); show wpList _ _ _ _ _ (w5.alloc (.cells Tryd.zeroCells42 42)); refine wpList_store_all rfl 42 (.tmp 9) (.tmp 25) rfl w5.heap.size 42 Tryd.zeroCells42 (bkC kb).toArray rfl rfl (heap_alloc_new w5 _) (show (131 : Nat) = (bkC kb).length from (bkC_len HFk.out).symm) (bkSz' (b := kb) HFk.out) (bkC_one kb) ?_; intro w6 h5 h6 h7; have B6 := Lib.hid h5; have V6 : Hid (Below w5.heap.size w5 w6) := (nxAl (nxRf w5) _).trans (h6.below (nxAl (nxRf w5) _).size (fun k hk => by omega)); have C6 := Lib.hid (C5.out.below V6.out C5.out.lt); have KB6 := Lib.hid (KK6.out w6 (Keeps.of_below V6.out _)); clear h5 h6 h7)
          | (go_at_call 22; refine (rend_s w6 g d (some []) (by have q := R5.out.below V6.out; rw [HRr.out] at q; exact q)).mono ?_; rw [HRe.out]; rintro e w6' ⟨rfl, rfl⟩)
          | ((with_reducible show wpList _ _ _ (⟨some 38, _, _, _, _, _⟩ :: _) _ _); refine wpList_load_midg (by rfl) 42 (.tmp 9) rfl w5.heap.size 0 rfl (bkC kb) _ (blkR B6.out) Tryd.underlying42 rfl (bkSz (b := kb) HFk.out) ?_)
          | (go_at_call 11; refine (bcheck_any w6 (HTb.out.later (nxTr V05.out V6.out)) kb KB6.out).mono ?_; rw [HE.out]; rintro e w7 ⟨rfl, hb7⟩; have V7 : Hid (Below w6.heap.size w6 w7) := hb7; have C7 := Lib.hid (C6.out.below hb7 C6.out.lt); have B7 := Lib.hid (B6.out.below hb7 B6.out.lt); clear hb7)
          | ((with_reducible show wpList _ _ _ (⟨none, .store 42 (.tmp 2) _, _, _, _, _⟩ :: _) _ _); refine wpList_store_all rfl 42 (.tmp 2) (.tmp 42) rfl w.heap.size 42 Tryd.zeroCells42 Tryd.zeroCells42 rfl rfl C7.out rfl bkZ_sz bkZ_one ?_; intro w8 h5 h6 h7; have B8 := Lib.hid h5; have K8 := Lib.hid h6; clear h5 h6 h7))
        refine bodyPost_ret (row_tmp Tryd.results8 _ _ w.heap.size 42 _ _ rfl B8.out Tryd.underlying42 rfl bkZ_sz _ rfl) rfl ⟨noBk, (by rw [HOB.out, ← bkZ_eq] <;> rfl), (by rw [HVN.out HOB.out]; rfl), noBk_ok w8, (nxTr (nxTr V05.out V6.out) V7.out).trans (K8.out.below (nxTr (nxTr V05.out V6.out) V7.out).size (fun j hj => by omega))⟩
theorem bkZ_row : (Tryd.zeroCells42 : Array Value).size = 131 := by rw [bkZ_eq, List.size_toArray, bkC_len noHP_fit]
theorem checkP_few {p : HdP} {l : List TxP} (h : checkP p l = 0) : l.length ≤ 200 := by
  have h1 := (checkK_ok h).n
  rw [List.length_map] at h1
  exact h1
end Go.Proofs.YtpfjkjogljilnaaDoor
