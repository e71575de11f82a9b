/-
  block, the program's Of.
  block, the document's Same.
-/
import Derived.Test.YtbloomnifhcgbaaGreatDoorBkJ
import Derived.Test.YtbloomnifhcgbaaGreatDoorBkD
import Derived.Test.YtbloomnifhcgbaaGreatDoorPBmQ4
import Derived.Test.YtbloomnifhcgbaaGreatDoorBk7
import Derived.Test.YtbloomnifhcgbaaGreatDoorBkB
import Derived.Test.YtbloomnifhcgbaaGreatDoorTr5
namespace Go.Proofs.YtbloomnifhcgbaaGreatDoor
open Go.RowKit

theorem packT_up (t : TxR) : packT (txP t).up = packT t := by
  have h1 : insB ((t.ins.map inP).map unP) = insB t.ins := by
    unfold insB
    rw [List.map_map, List.map_map]
    congr 1
  show leB ((t.ins.map inP).map unP).length 2 ++ (insB ((t.ins.map inP).map unP) ++ _) = _
  rw [h1, List.length_map, List.length_map]
  rfl
theorem idT_up (t : TxR) : idT (txP t).up = idT t := by rw [idT, idT, checkT_up, packT_up]
theorem notB_up (t : TxR) : notB (txP t).up = notB t := by rw [notB, notB, checkT_up]
/-- Why what was read has not its form. -/
def checkP (p : HdP) (l : List TxP) : Int := checkK ⟨⟨none, 0, p⟩, none, l.map TxP.up, 0⟩
theorem ups_ids (l : List TxR) : idsL ((l.map txP).map TxP.up) = idsL l := by
  rw [idsL, idsL, List.map_map, List.map_map]
  exact List.map_congr_left fun t _ => idT_up t
theorem ups_any (l : List TxR) : ((l.map txP).map TxP.up).any notB = l.any notB := by
  rw [List.any_map, List.any_map]
  congr 1
  funext t
  exact notB_up t
theorem checkK_up (b : BkR) : checkP b.h.p (b.txs.map txP) = checkK b := by
  unfold checkP checkK
  simp only [ups_ids, ups_any, List.length_map]
/-- What is read from bytes. -/
def bofH (b : List UInt8) : List UInt8 := blobPiece (some b)
def bofT (b : List UInt8) : Option (List TxP) × Option (List UInt8) := rtS (blobRest (some b))
def bofB (b : List UInt8) : Bool := ofHB (bofH b) && (match bofT b with
  | (some l, r) => decide (r = some []) && (checkP (ofHV (bofH b)) l == 0)
  | (none, _) => false)
def bofV (b : List UInt8) : HdP × List TxP := bif bofB b then (ofHV (bofH b), ((bofT b).1).getD []) else (noHP, [])

theorem bkZ_eq : Tryz.zeroCells32 = (bkC noBk).toArray := by kernel_rfl
theorem bkZ_sz : (Tryz.prog.info? 32).map (·.size) = some Tryz.zeroCells32.size := Tryz.sizeBk
theorem bkZ_one : ∀ u ∈ Tryz.zeroCells32.toList, u.oneCell' = true := by rw [bkZ_eq]; exact bkC_one noBk
theorem noBk_ok (w : World) : BkOk w noBk := ⟨noHd_ok w, ⟨.inl rfl, fun t h => (by cases h), Nat.le_refl _, Nat.zero_le _⟩⟩
theorem build_bk (b : BkR) (f : HdFit b.h.p) (wq : World) : (Instr.build 32 #[(0, .agg (hdC b.h).toArray), (1, .slice b.B b.txs.length b.d)]).run Tryz.prog wq = .ok (.agg (bkC b).toArray) wq := by
  obtain ⟨i0, hi, hz, _, _⟩ := infoP Tryz.bkinfo
  refine run_build wq _ _ _ ?_
  rw [built_struct hi hz Tryz.underlying32 (places := [(0, 130), (130, 1)]) (by kernel_rfl)]
  exact fill_pair ([(0, 130), (130, 1)].toArray[·]?) (bkC noBk) (hdC b.h) [.slice b.B b.txs.length b.d] (.agg (hdC b.h).toArray) (.slice b.B b.txs.length b.d) rfl rfl (by rw [hdC_len f]; rfl) (by rw [hdC_len f]; rfl) (by rw [hdC_len f, bkC_len noHP_fit]; rfl)
theorem readTxs_yes (w : World) (g : Nat) (d : Option Nat) (st : Option (List UInt8)) (hR : Rd w g d st) (hlen : lenS st ≤ 1099511627776) (L : List TxP) (hq : (rtS st).1 = some L) :
    Calls Tryz.prog 18 #[.pointer (some ⟨g, 0, none⟩)] w fun e w' => ∃ B l c, e = .returned (.tuple #[.slice B l.length c, .int .i64 0]) ∧ l.map txP = L ∧ RTxs w g d st B l c w' :=
  (readTxs_any w g d st hR hlen).mono fun e w' h => by
    rcases h with ⟨B, l, c, rfl, h⟩ | ⟨_, h, _⟩
    · exact ⟨B, l, c, rfl, by have := h.r; rw [hq] at this; injection this with this; exact this.symm, h⟩
    · rw [hq] at h; cases h
theorem readTxs_no (w : World) (g : Nat) (d : Option Nat) (st : Option (List UInt8)) (hR : Rd w g d st) (hlen : lenS st ≤ 1099511627776) (hq : (rtS st).1 = none) :
    Calls Tryz.prog 18 #[.pointer (some ⟨g, 0, none⟩)] w fun e w' => e = .returned (.tuple #[.slice none 0 0, .int .i64 4]) ∧ Keeps (· = g) w w' :=
  (readTxs_any w g d st hR hlen).mono fun e w' h => by
    rcases h with ⟨B, l, c, _, h⟩ | ⟨h, _, k⟩
    · have := h.r; rw [hq] at this; cases this
    · exact ⟨h, k⟩
/-- What holds when the transactions have been read. -/
structure OfF (w w2 w3 w4 w5 : World) (h : HdR) (g : Nat) : Prop where
  gg : w.heap.size + 1 ≤ g
  lg : g < w2.heap.size
  v : Below w.heap.size w w5
  c : Blk w5 w.heap.size 32 Tryz.zeroCells32
  d : Blk w5 w3.heap.size 29 (hdC h).toArray
  k : Kept (fun j => j < w2.heap.size) w5 (fun W => HdOk W h)
  z : w2.heap.size ≤ w4.heap.size
theorem of_f {w w1 w2 w3 w4 w5 : World} {h : HdR} {g : Nat} (HG : (w.alloc (.cells Tryz.zeroCells32 32)).heap.size ≤ g) (V1 : Below (w.alloc (.cells Tryz.zeroCells32 32)).heap.size (w.alloc (.cells Tryz.zeroCells32 32)) w1) (K2 : Keeps (· = g) w1 w2) (lg1 : g < w1.heap.size)
    (V3 : Below w2.heap.size w2 w3) (B4 : Blk w4 w3.heap.size 29 (hdC h).toArray) (V4 : Below w3.heap.size w3 w4) (K5 : Keeps (· = g) w4 w5) (HK3 : Kept (fun j => j < w2.heap.size) w3 (fun W => HdOk W h)) : OfF w w2 w3 w4 w5 h g := by
  have hs : (w.alloc (.cells Tryz.zeroCells32 32)).heap.size = w.heap.size + 1 := by simp
  have hB0 : Blk (w.alloc (.cells Tryz.zeroCells32 32)) w.heap.size 32 Tryz.zeroCells32 := heap_alloc_new w _
  have z1 := V1.size
  have z2 := K2.size
  have z3 := V3.size
  have z4 := V4.size
  have z5 := K5.size
  rw [hs] at HG z1
  have v0 : Below w.heap.size w (w.alloc (.cells Tryz.zeroCells32 32)) := nxAl (nxRf w) _
  have v1 : Below w.heap.size w w1 := nxTr v0 V1
  have v2 : Below w.heap.size w w2 := v1.trans (K2.below v1.size (fun j hj => by omega))
  have v4 : Below w.heap.size w w4 := nxTr (nxTr v2 V3) V4
  refine ⟨HG, by omega, v4.trans (K5.below v4.size (fun j hj => by omega)), ?_, B4.keeps K5 (by omega), ?_, by omega⟩
  · have c1 := hB0.below V1 hB0.lt
    have c2 := c1.keeps K2 (by omega)
    exact ((c2.below V3 (by omega)).below V4 (by omega)).keeps K5 (by omega)
  · exact HK3.step ((Keeps.of_below V4 _).trans (K5.mono (fun j _ h => by omega))) (fun _ _ h => h)
theorem HdOk.kept {S : Nat → Prop} {w : World} {h : HdR} (k : Kept S w (fun W => HdOk W h)) : HdOk w h := k.now
/-- What Of answers. -/
def BOfPost (w : World) (b : List UInt8) (e : Ending) (w' : World) : Prop :=
  ∃ k : BkR, e = .returned (.tuple #[.agg (bkC k).toArray, .int .i64 (bif bofB b then 0 else 4)]) ∧ (k.h.p, k.txs.map txP) = bofV b ∧ BkOk w' k ∧ Below w.heap.size w w'

set_option maxHeartbeats 600000 in
set_option maxRecDepth 100000 in
theorem bof_any (w : World) (hTb : Tabs w) (Bx : Nat) (A : Option Addr) (b : List UInt8) (c : Nat) (hS : Sees w Bx A b) (hlen : b.length ≤ 1099511627776) :
    Calls Tryz.prog 6 #[.slice A b.length c] w (BOfPost w b) := by
  have HS0 := Lib.hid (show Sees (w.alloc (.cells Tryz.zeroCells32 32)) Bx A b from hS.alloc _)
  have HB0 : Hid (Blk (w.alloc (.cells Tryz.zeroCells32 32)) w.heap.size 32 Tryz.zeroCells32) := heap_alloc_new w _
  have Hb0 := Lib.hid (show Below w.heap.size w (w.alloc (.cells Tryz.zeroCells32 32)) from nxAl (nxRf w) _)
  have Hs0 : Hid (w.heap.size + 1 = (w.alloc (.cells Tryz.zeroCells32 32)).heap.size) := by show _ = _; simp
  have HTb := Lib.hid hTb
  have HL := Lib.hid hlen
  obtain ⟨p, hp⟩ : ∃ p, blobPiece (some b) = p := ⟨_, rfl⟩
  obtain ⟨s1, hs1⟩ : ∃ p, blobRest (some b) = p := ⟨_, rfl⟩
  have HPl : Hid (p.length ≤ 1099511627776) := by show _ ≤ _; rw [← hp]; exact Nat.le_trans (blobPiece_le _) hlen
  have HSl : Hid (lenS s1 ≤ 1099511627776) := by show _ ≤ _; rw [← hs1]; exact Nat.le_trans (blobRest_le _) hlen
  have HPe := Lib.hid hp
  have HSe := Lib.hid hs1
  obtain ⟨oh, hoh⟩ : ∃ z, ofHB p = z := ⟨_, rfl⟩
  have HOh := Lib.hid hoh
  have HBV : Hid (bofB b = (oh && (match rtS s1 with
      | (some l, r) => decide (r = some []) && (checkP (ofHV p) l == 0)
      | (none, _) => false))) := by show _ = _; rw [bofB, bofH, bofT, hp, hs1, hoh]
  have HVV : Hid (bofB b = true → ∀ l, (rtS s1).1 = some l → bofV b = (ofHV p, l)) := fun h l hl => by
    rw [bofV, h, cond_true, bofH, bofT, hp, hs1, hl]; rfl
  have HVN : Hid (bofB b = false → bofV b = (noHP, [])) := fun h => by rw [bofV, h]; rfl
  unfold BOfPost
  clear hS hlen hp hs1 hoh hTb
  obtain ⟨q1, hq1⟩ : ∃ q, (rtS s1).1 = q := ⟨_, rfl⟩
  have HQ := Lib.hid hq1
  obtain ⟨r, hr⟩ : ∃ q, (rtS s1).2 = q := ⟨_, rfl⟩
  have HRr := Lib.hid hr
  have HRs : Hid (rtS s1 = (q1, r)) := by show _ = _; rw [← hq1, ← hr]
  rw [HRs.out] at HBV
  clear hq1 hr
  cases q1 with
  | none =>
    have HOB : Hid (bofB b = false) := by show _ = _; rw [HBV.out]; cases oh <;> rfl
    cases oh
    all_goals
      (go_enter Tryz.func6, Tryz.ntmps6
       go_wp2_with (first
         | (go_at_call 15; refine (read_any (w.alloc (.cells Tryz.zeroCells32 32)) Bx A _ c b rfl HS0.out HL.out).mono ?_; rintro e w1 ⟨g, d, rfl, hg, hd, hr1, hb1⟩; have HG := Lib.hid hg; have HDx := Lib.hid hd; have R1 := Lib.hid hr1; have V1 := Lib.hid hb1; clear hg hd hr1 hb1)
         | (go_at_call 17; refine (rblob_s w1 g d (some b) R1.out HL.out).mono ?_; unfold PiecePost; rw [HPe.out, HSe.out]; rintro e w2 ⟨A2, c2, rfl, ho2, hr2, hk2⟩; have S2 := Lib.hid (Sees.own ho2); have R2 := Lib.hid hr2; have K2 : Hid (Keeps (· = g) w1 w2) := hk2; clear ho2 hr2 hk2)
         | (go_at_call 16; refine (ofh_anyK w2 w2.heap.size A2 p c2 S2.out HPl.out).mono ?_; unfold OfHPostK; rw [HOh.out]; rintro e w3 ⟨h, rfl, hp3, hk3, hb3, hkk3⟩; have P3 : Hid (h.p = ofHV p) := hp3; have F3 : Hid (HdFit h.p) := hk3.f; have HK3 := Lib.hid hkk3; have V3 : Hid (Below w2.heap.size w2 w3) := hb3; have HSZ := Lib.hid (hdSz (h := h) hk3.f); have HSZ' := Lib.hid (hdSz' (h := h) hk3.f); clear hp3 hk3 hb3 hkk3)
         | ((with_reducible show wpList _ _ _ (⟨none, .store 29 _ _, _, _, _, _⟩ :: _) _ _); show wpList _ _ _ _ _ (w3.alloc (.cells hdZ 29)); refine wpList_store_all rfl 29 (.tmp 5) (.tmp 16) rfl w3.heap.size 29 hdZ (hdC h).toArray rfl rfl (heap_alloc_new w3 _) (show (130 : Nat) = (hdC h).length from (hdC_len F3.out).symm) HSZ'.out (hdC_one h) ?_; intro w4 h5 h6 h7; have B4 := Lib.hid h5; have V4 : Hid (Below w3.heap.size w3 w4) := (nxAl (nxRf w3) _).trans (h6.below (nxAl (nxRf w3) _).size (fun k hk => by omega)); clear h5 h6 h7)
         | (go_at_call 18; refine (readTxs_no w4 g d s1 ((R2.out.below V3.out).below V4.out) HSl.out HQ.out).mono ?_; rintro e w5 ⟨rfl, hk5⟩; have K5 : Hid (Keeps (· = g) w4 w5) := hk5; clear hk5; have hof := of_f HG.out V1.out K2.out R1.out.lt V3.out B4.out V4.out K5.out HK3.out; have HGg := Lib.hid hof.gg; have Lg2 := Lib.hid hof.lg; have V05 := Lib.hid hof.v; have C5 := Lib.hid hof.c; have D5 := Lib.hid hof.d; have HK5 := Lib.hid hof.k; have Z24 := Lib.hid hof.z; clear hof)
         | ((with_reducible show wpList _ _ _ (⟨some 23, _, _, _, _, _⟩ :: _) _ _); refine wpList_load_mid rfl 29 (.tmp 5) rfl w3.heap.size 0 rfl (hdC h) _ (blkR D5.out) Tryz.underlying29 rfl HSZ.out ?_)
         | ((with_reducible show wpList _ _ _ (⟨some 25, _, _, _, _, _⟩ :: _) _ _); refine wpList_build2 rfl 32 (.tmp 23) (.tmp 24) rfl (.agg (hdC h).toArray) (.slice none 0 0) (.agg (bkC ⟨h, none, [], 0⟩).toArray) rfl rfl (fun wq => by have q := build_bk ⟨h, none, [], 0⟩ F3.out wq; exact q) ?_)
         | ((with_reducible show wpList _ _ _ (⟨none, .store 32 (.tmp 9) _, _, _, _, _⟩ :: _) _ _); show wpList _ _ _ _ _ (w5.alloc (.cells Tryz.zeroCells32 32)); refine wpList_store_all rfl 32 (.tmp 9) (.tmp 25) rfl w5.heap.size 32 Tryz.zeroCells32 (bkC ⟨h, none, [], 0⟩).toArray rfl rfl (heap_alloc_new w5 _) (show (131 : Nat) = (bkC ⟨h, none, [], 0⟩).length from (bkC_len F3.out).symm) (bkSz' (b := ⟨h, none, [], 0⟩) F3.out) (bkC_one ⟨h, none, [], 0⟩) ?_; intro w6 h5 h6 h7; have B6 := Lib.hid h5; have V6 : Hid (Below w5.heap.size w5 w6) := (nxAl (nxRf w5) _).trans (h6.below (nxAl (nxRf w5) _).size (fun k hk => by omega)); have C6 := Lib.hid (C5.out.below V6.out C5.out.lt); clear h5 h6 h7)
         | ((with_reducible show wpList _ _ _ (⟨none, .store 32 (.tmp 2) _, _, _, _, _⟩ :: _) _ _); refine wpList_store_all rfl 32 (.tmp 2) (.tmp 42) rfl w.heap.size 32 Tryz.zeroCells32 Tryz.zeroCells32 rfl rfl C6.out rfl bkZ_sz bkZ_one ?_; intro w8 h5 h6 h7; have B8 := Lib.hid h5; have K8 := Lib.hid h6; clear h5 h6 h7))
       refine bodyPost_ret (row_tmp Tryz.results6 _ _ w.heap.size 32 _ _ rfl B8.out Tryz.underlying32 rfl bkZ_sz _ rfl) rfl ⟨noBk, (by rw [HOB.out, ← bkZ_eq] <;> rfl), (by rw [HVN.out HOB.out]; rfl), noBk_ok w8, (nxTr V05.out V6.out).trans (K8.out.below (nxTr V05.out V6.out).size (fun j hj => by omega))⟩)
  | some LP =>
    cases oh with
    | false =>
      have HOB : Hid (bofB b = false) := by show _ = _; rw [HBV.out]; rfl
      go_enter Tryz.func6, Tryz.ntmps6
      go_wp2_with (first
        | (go_at_call 15; refine (read_any (w.alloc (.cells Tryz.zeroCells32 32)) Bx A _ c b rfl HS0.out HL.out).mono ?_; rintro e w1 ⟨g, d, rfl, hg, hd, hr1, hb1⟩; have HG := Lib.hid hg; have HDx := Lib.hid hd; have R1 := Lib.hid hr1; have V1 := Lib.hid hb1; clear hg hd hr1 hb1)
        | (go_at_call 17; refine (rblob_s w1 g d (some b) R1.out HL.out).mono ?_; unfold PiecePost; rw [HPe.out, HSe.out]; rintro e w2 ⟨A2, c2, rfl, ho2, hr2, hk2⟩; have S2 := Lib.hid (Sees.own ho2); have R2 := Lib.hid hr2; have K2 : Hid (Keeps (· = g) w1 w2) := hk2; clear ho2 hr2 hk2)
        | (go_at_call 16; refine (ofh_anyK w2 w2.heap.size A2 p c2 S2.out HPl.out).mono ?_; unfold OfHPostK; rw [HOh.out]; rintro e w3 ⟨h, rfl, hp3, hk3, hb3, hkk3⟩; have P3 : Hid (h.p = ofHV p) := hp3; have F3 : Hid (HdFit h.p) := hk3.f; have HK3 := Lib.hid hkk3; have V3 : Hid (Below w2.heap.size w2 w3) := hb3; have HSZ := Lib.hid (hdSz (h := h) hk3.f); have HSZ' := Lib.hid (hdSz' (h := h) hk3.f); clear hp3 hk3 hb3 hkk3)
        | ((with_reducible show wpList _ _ _ (⟨none, .store 29 _ _, _, _, _, _⟩ :: _) _ _); show wpList _ _ _ _ _ (w3.alloc (.cells hdZ 29)); refine wpList_store_all rfl 29 (.tmp 5) (.tmp 16) rfl w3.heap.size 29 hdZ (hdC h).toArray rfl rfl (heap_alloc_new w3 _) (show (130 : Nat) = (hdC h).length from (hdC_len F3.out).symm) HSZ'.out (hdC_one h) ?_; intro w4 h5 h6 h7; have B4 := Lib.hid h5; have V4 : Hid (Below w3.heap.size w3 w4) := (nxAl (nxRf w3) _).trans (h6.below (nxAl (nxRf w3) _).size (fun k hk => by omega)); clear h5 h6 h7)
        | (go_at_call 18; refine (readTxs_yes w4 g d s1 ((R2.out.below V3.out).below V4.out) HSl.out LP HQ.out).mono ?_; rintro e w5 ⟨B5, l5, c5, rfl, hl5, hr5⟩; have K5 : Hid (Keeps (· = g) w4 w5) := hr5.v; have R5 := Lib.hid hr5.rd; have T5 := Lib.hid hr5.k; have E5 := Lib.hid hl5; clear hr5 hl5; have hof := of_f HG.out V1.out K2.out R1.out.lt V3.out B4.out V4.out K5.out HK3.out; have HGg := Lib.hid hof.gg; have Lg2 := Lib.hid hof.lg; have V05 := Lib.hid hof.v; have C5 := Lib.hid hof.c; have D5 := Lib.hid hof.d; have HK5 := Lib.hid hof.k; have Z24 := Lib.hid hof.z; clear hof)
        | ((with_reducible show wpList _ _ _ (⟨some 23, _, _, _, _, _⟩ :: _) _ _); refine wpList_load_mid rfl 29 (.tmp 5) rfl w3.heap.size 0 rfl (hdC h) _ (blkR D5.out) Tryz.underlying29 rfl HSZ.out ?_)
        | ((with_reducible show wpList _ _ _ (⟨some 25, _, _, _, _, _⟩ :: _) _ _); refine wpList_build2 rfl 32 (.tmp 23) (.tmp 24) rfl (.agg (hdC h).toArray) (.slice B5 l5.length c5) (.agg (bkC ⟨h, B5, l5, c5⟩).toArray) rfl rfl (fun wq => by have q := build_bk ⟨h, B5, l5, c5⟩ F3.out wq; exact q) ?_)
        | ((with_reducible show wpList _ _ _ (⟨none, .store 32 (.tmp 9) _, _, _, _, _⟩ :: _) _ _); show wpList _ _ _ _ _ (w5.alloc (.cells Tryz.zeroCells32 32)); refine wpList_store_all rfl 32 (.tmp 9) (.tmp 25) rfl w5.heap.size 32 Tryz.zeroCells32 (bkC ⟨h, B5, l5, c5⟩).toArray rfl rfl (heap_alloc_new w5 _) (show (131 : Nat) = (bkC ⟨h, B5, l5, c5⟩).length from (bkC_len F3.out).symm) (bkSz' (b := ⟨h, B5, l5, c5⟩) F3.out) (bkC_one ⟨h, B5, l5, c5⟩) ?_; intro w6 h5 h6 h7; have B6 := Lib.hid h5; have V6 : Hid (Below w5.heap.size w5 w6) := (nxAl (nxRf w5) _).trans (h6.below (nxAl (nxRf w5) _).size (fun k hk => by omega)); have C6 := Lib.hid (C5.out.below V6.out C5.out.lt); clear h5 h6 h7)
        | ((with_reducible show wpList _ _ _ (⟨none, .store 32 (.tmp 2) _, _, _, _, _⟩ :: _) _ _); refine wpList_store_all rfl 32 (.tmp 2) (.tmp 42) rfl w.heap.size 32 Tryz.zeroCells32 Tryz.zeroCells32 rfl rfl C6.out rfl bkZ_sz bkZ_one ?_; intro w8 h5 h6 h7; have B8 := Lib.hid h5; have K8 := Lib.hid h6; clear h5 h6 h7))
      refine bodyPost_ret (row_tmp Tryz.results6 _ _ w.heap.size 32 _ _ rfl B8.out Tryz.underlying32 rfl bkZ_sz _ rfl) rfl ⟨noBk, (by rw [HOB.out, ← bkZ_eq] <;> rfl), (by rw [HVN.out HOB.out]; rfl), noBk_ok w8, (nxTr V05.out V6.out).trans (K8.out.below (nxTr V05.out V6.out).size (fun j hj => by omega))⟩
    | true =>
      have HBW : Hid (bofB b = (decide (r = some []) && (checkP (ofHV p) LP == 0))) := by show _ = _; rw [HBV.out, Bool.true_and]
      by_cases hs : r = some []
      rotate_left 1
      · have HRe : Hid (rend r = 4) := if_neg hs
        have HOB : Hid (bofB b = false) := by show _ = _; rw [HBW.out, decide_eq_false hs, Bool.false_and]
        go_enter Tryz.func6, Tryz.ntmps6
        go_wp2_with (first
          | (go_at_call 15; refine (read_any (w.alloc (.cells Tryz.zeroCells32 32)) Bx A _ c b rfl HS0.out HL.out).mono ?_; rintro e w1 ⟨g, d, rfl, hg, hd, hr1, hb1⟩; have HG := Lib.hid hg; have HDx := Lib.hid hd; have R1 := Lib.hid hr1; have V1 := Lib.hid hb1; clear hg hd hr1 hb1)
          | (go_at_call 17; refine (rblob_s w1 g d (some b) R1.out HL.out).mono ?_; unfold PiecePost; rw [HPe.out, HSe.out]; rintro e w2 ⟨A2, c2, rfl, ho2, hr2, hk2⟩; have S2 := Lib.hid (Sees.own ho2); have R2 := Lib.hid hr2; have K2 : Hid (Keeps (· = g) w1 w2) := hk2; clear ho2 hr2 hk2)
          | (go_at_call 16; refine (ofh_anyK w2 w2.heap.size A2 p c2 S2.out HPl.out).mono ?_; unfold OfHPostK; rw [HOh.out]; rintro e w3 ⟨h, rfl, hp3, hk3, hb3, hkk3⟩; have P3 : Hid (h.p = ofHV p) := hp3; have F3 : Hid (HdFit h.p) := hk3.f; have HK3 := Lib.hid hkk3; have V3 : Hid (Below w2.heap.size w2 w3) := hb3; have HSZ := Lib.hid (hdSz (h := h) hk3.f); have HSZ' := Lib.hid (hdSz' (h := h) hk3.f); clear hp3 hk3 hb3 hkk3)
          | ((with_reducible show wpList _ _ _ (⟨none, .store 29 _ _, _, _, _, _⟩ :: _) _ _); show wpList _ _ _ _ _ (w3.alloc (.cells hdZ 29)); refine wpList_store_all rfl 29 (.tmp 5) (.tmp 16) rfl w3.heap.size 29 hdZ (hdC h).toArray rfl rfl (heap_alloc_new w3 _) (show (130 : Nat) = (hdC h).length from (hdC_len F3.out).symm) HSZ'.out (hdC_one h) ?_; intro w4 h5 h6 h7; have B4 := Lib.hid h5; have V4 : Hid (Below w3.heap.size w3 w4) := (nxAl (nxRf w3) _).trans (h6.below (nxAl (nxRf w3) _).size (fun k hk => by omega)); clear h5 h6 h7)
          | (go_at_call 18; refine (readTxs_yes w4 g d s1 ((R2.out.below V3.out).below V4.out) HSl.out LP HQ.out).mono ?_; rintro e w5 ⟨B5, l5, c5, rfl, hl5, hr5⟩; have K5 : Hid (Keeps (· = g) w4 w5) := hr5.v; have R5 := Lib.hid hr5.rd; have T5 := Lib.hid hr5.k; have E5 := Lib.hid hl5; clear hr5 hl5; have hof := of_f HG.out V1.out K2.out R1.out.lt V3.out B4.out V4.out K5.out HK3.out; have HGg := Lib.hid hof.gg; have Lg2 := Lib.hid hof.lg; have V05 := Lib.hid hof.v; have C5 := Lib.hid hof.c; have D5 := Lib.hid hof.d; have HK5 := Lib.hid hof.k; have Z24 := Lib.hid hof.z; clear hof)
          | ((with_reducible show wpList _ _ _ (⟨some 23, _, _, _, _, _⟩ :: _) _ _); refine wpList_load_mid rfl 29 (.tmp 5) rfl w3.heap.size 0 rfl (hdC h) _ (blkR D5.out) Tryz.underlying29 rfl HSZ.out ?_)
          | ((with_reducible show wpList _ _ _ (⟨some 25, _, _, _, _, _⟩ :: _) _ _); refine wpList_build2 rfl 32 (.tmp 23) (.tmp 24) rfl (.agg (hdC h).toArray) (.slice B5 l5.length c5) (.agg (bkC ⟨h, B5, l5, c5⟩).toArray) rfl rfl (fun wq => by have q := build_bk ⟨h, B5, l5, c5⟩ F3.out wq; exact q) ?_)
          | ((with_reducible show wpList _ _ _ (⟨none, .store 32 (.tmp 9) _, _, _, _, _⟩ :: _) _ _); show wpList _ _ _ _ _ (w5.alloc (.cells Tryz.zeroCells32 32)); refine wpList_store_all rfl 32 (.tmp 9) (.tmp 25) rfl w5.heap.size 32 Tryz.zeroCells32 (bkC ⟨h, B5, l5, c5⟩).toArray rfl rfl (heap_alloc_new w5 _) (show (131 : Nat) = (bkC ⟨h, B5, l5, c5⟩).length from (bkC_len F3.out).symm) (bkSz' (b := ⟨h, B5, l5, c5⟩) F3.out) (bkC_one ⟨h, B5, l5, c5⟩) ?_; intro w6 h5 h6 h7; have B6 := Lib.hid h5; have V6 : Hid (Below w5.heap.size w5 w6) := (nxAl (nxRf w5) _).trans (h6.below (nxAl (nxRf w5) _).size (fun k hk => by omega)); have C6 := Lib.hid (C5.out.below V6.out C5.out.lt); clear h5 h6 h7)
          | (go_at_call 19; refine (rend_s w6 g d r (by have q := R5.out.below V6.out; rw [HRr.out] at q; exact q)).mono ?_; rw [HRe.out]; rintro e w6' ⟨rfl, rfl⟩)
          | ((with_reducible show wpList _ _ _ (⟨none, .store 32 (.tmp 2) _, _, _, _, _⟩ :: _) _ _); refine wpList_store_all rfl 32 (.tmp 2) (.tmp 42) rfl w.heap.size 32 Tryz.zeroCells32 Tryz.zeroCells32 rfl rfl C6.out rfl bkZ_sz bkZ_one ?_; intro w8 h5 h6 h7; have B8 := Lib.hid h5; have K8 := Lib.hid h6; clear h5 h6 h7))
        refine bodyPost_ret (row_tmp Tryz.results6 _ _ w.heap.size 32 _ _ rfl B8.out Tryz.underlying32 rfl bkZ_sz _ rfl) rfl ⟨noBk, (by rw [HOB.out, ← bkZ_eq] <;> rfl), (by rw [HVN.out HOB.out]; rfl), noBk_ok w8, (nxTr V05.out V6.out).trans (K8.out.below (nxTr V05.out V6.out).size (fun j hj => by omega))⟩
      subst hs
      have HRe : Hid (rend (some []) = 0) := rfl
      obtain ⟨E, hE⟩ : ∃ E, checkP (ofHV p) LP = E := ⟨_, rfl⟩
      have HEp := Lib.hid hE
      clear hE
      by_cases hz : E = 0
      · subst hz
        have HOB : Hid (bofB b = true) := by show _ = _; rw [HBW.out, HEp.out]; rfl
        go_enter Tryz.func6, Tryz.ntmps6
        go_wp2_with (first
          | (go_at_call 15; refine (read_any (w.alloc (.cells Tryz.zeroCells32 32)) Bx A _ c b rfl HS0.out HL.out).mono ?_; rintro e w1 ⟨g, d, rfl, hg, hd, hr1, hb1⟩; have HG := Lib.hid hg; have HDx := Lib.hid hd; have R1 := Lib.hid hr1; have V1 := Lib.hid hb1; clear hg hd hr1 hb1)
          | (go_at_call 17; refine (rblob_s w1 g d (some b) R1.out HL.out).mono ?_; unfold PiecePost; rw [HPe.out, HSe.out]; rintro e w2 ⟨A2, c2, rfl, ho2, hr2, hk2⟩; have S2 := Lib.hid (Sees.own ho2); have R2 := Lib.hid hr2; have K2 : Hid (Keeps (· = g) w1 w2) := hk2; clear ho2 hr2 hk2)
          | (go_at_call 16; refine (ofh_anyK w2 w2.heap.size A2 p c2 S2.out HPl.out).mono ?_; unfold OfHPostK; rw [HOh.out]; rintro e w3 ⟨h, rfl, hp3, hk3, hb3, hkk3⟩; have P3 : Hid (h.p = ofHV p) := hp3; have F3 : Hid (HdFit h.p) := hk3.f; have HK3 := Lib.hid hkk3; have V3 : Hid (Below w2.heap.size w2 w3) := hb3; have HSZ := Lib.hid (hdSz (h := h) hk3.f); have HSZ' := Lib.hid (hdSz' (h := h) hk3.f); clear hp3 hk3 hb3 hkk3)
          | ((with_reducible show wpList _ _ _ (⟨none, .store 29 _ _, _, _, _, _⟩ :: _) _ _); show wpList _ _ _ _ _ (w3.alloc (.cells hdZ 29)); refine wpList_store_all rfl 29 (.tmp 5) (.tmp 16) rfl w3.heap.size 29 hdZ (hdC h).toArray rfl rfl (heap_alloc_new w3 _) (show (130 : Nat) = (hdC h).length from (hdC_len F3.out).symm) HSZ'.out (hdC_one h) ?_; intro w4 h5 h6 h7; have B4 := Lib.hid h5; have V4 : Hid (Below w3.heap.size w3 w4) := (nxAl (nxRf w3) _).trans (h6.below (nxAl (nxRf w3) _).size (fun k hk => by omega)); clear h5 h6 h7)
          | (go_at_call 18; refine (readTxs_yes w4 g d s1 ((R2.out.below V3.out).below V4.out) HSl.out LP HQ.out).mono ?_; rintro e w5 ⟨B5, l5, c5, rfl, hl5, hr5⟩; have K5 : Hid (Keeps (· = g) w4 w5) := hr5.v; have R5 := Lib.hid hr5.rd; have T5 := Lib.hid hr5.k; have E5 := Lib.hid hl5; clear hr5 hl5; have hof := of_f HG.out V1.out K2.out R1.out.lt V3.out B4.out V4.out K5.out HK3.out; have HGg := Lib.hid hof.gg; have Lg2 := Lib.hid hof.lg; have V05 := Lib.hid hof.v; have C5 := Lib.hid hof.c; have D5 := Lib.hid hof.d; have HK5 := Lib.hid hof.k; have Z24 := Lib.hid hof.z; clear hof; obtain ⟨kb, hkb⟩ : ∃ kb : BkR, (⟨h, B5, l5, c5⟩ : BkR) = kb := ⟨_, rfl⟩; have HKb := Lib.hid hkb; have HFk : Hid (HdFit kb.h.p) := (by show HdFit _; rw [← hkb]; exact F3.out); have HE : Hid (checkK kb = 0) := (by show _ = _; rw [← hkb, ← checkK_up, ← HEp.out, ← E5.out]; show checkP h.p _ = _; rw [P3.out]); have KK6 : Hid (∀ W, Keeps (fun j => j < w2.heap.size) w5 W → BkOk W kb) := (fun W hW => by rw [← hkb]; exact ⟨HK5.out W hW, T5.out W (hW.mono (fun j _ h => by have h1 : j < w2.heap.size := h; have := Z24.out; omega))⟩); clear hkb)
          | ((with_reducible show wpList _ _ _ (⟨some 23, _, _, _, _, _⟩ :: _) _ _); refine wpList_load_mid rfl 29 (.tmp 5) rfl w3.heap.size 0 rfl (hdC h) _ (blkR D5.out) Tryz.underlying29 rfl HSZ.out ?_)
          | ((with_reducible show wpList _ _ _ (⟨some 25, _, _, _, _, _⟩ :: _) _ _); refine wpList_build2 rfl 32 (.tmp 23) (.tmp 24) rfl (.agg (hdC h).toArray) (.slice B5 l5.length c5) (.agg (bkC kb).toArray) rfl rfl (fun wq => by rw [← HKb.out]; exact build_bk ⟨h, B5, l5, c5⟩ F3.out wq) ?_)
          | ((with_reducible show wpList _ _ _ (⟨none, .store 32 (.tmp 9) _, _, _, _, _⟩ :: _) _ _); show wpList _ _ _ _ _ (w5.alloc (.cells Tryz.zeroCells32 32)); refine wpList_store_all rfl 32 (.tmp 9) (.tmp 25) rfl w5.heap.size 32 Tryz.zeroCells32 (bkC kb).toArray rfl rfl (heap_alloc_new w5 _) (show (131 : Nat) = (bkC kb).length from (bkC_len HFk.out).symm) (bkSz' (b := kb) HFk.out) (bkC_one kb) ?_; intro w6 h5 h6 h7; have B6 := Lib.hid h5; have V6 : Hid (Below w5.heap.size w5 w6) := (nxAl (nxRf w5) _).trans (h6.below (nxAl (nxRf w5) _).size (fun k hk => by omega)); have C6 := Lib.hid (C5.out.below V6.out C5.out.lt); have KB6 := Lib.hid (KK6.out w6 (Keeps.of_below V6.out _)); clear h5 h6 h7)
          | (go_at_call 19; refine (rend_s w6 g d (some []) (by have q := R5.out.below V6.out; rw [HRr.out] at q; exact q)).mono ?_; rw [HRe.out]; rintro e w6' ⟨rfl, rfl⟩)
          | ((with_reducible show wpList _ _ _ (⟨some 38, _, _, _, _, _⟩ :: _) _ _); refine wpList_load_midg (by rfl) 32 (.tmp 9) rfl w5.heap.size 0 rfl (bkC kb) _ (blkR B6.out) Tryz.underlying32 rfl (bkSz (b := kb) HFk.out) ?_)
          | (go_at_call 20; refine (bcheck_any w6 (HTb.out.later (nxTr V05.out V6.out)) kb KB6.out).mono ?_; rw [HE.out]; rintro e w7 ⟨rfl, hb7⟩; have V7 : Hid (Below w6.heap.size w6 w7) := hb7; have C7 := Lib.hid (C6.out.below hb7 C6.out.lt); have B7 := Lib.hid (B6.out.below hb7 B6.out.lt); clear hb7)
          | ((with_reducible show wpList _ _ _ (⟨some 43, _, _, _, _, _⟩ :: _) _ _); refine wpList_load_mid rfl 32 (.tmp 9) rfl w5.heap.size 0 rfl (bkC kb) _ (blkR B7.out) Tryz.underlying32 rfl (bkSz (b := kb) HFk.out) ?_)
          | ((with_reducible show wpList _ _ _ (⟨none, .store 32 (.tmp 2) _, _, _, _, _⟩ :: _) _ _); refine wpList_store_all rfl 32 (.tmp 2) (.tmp 43) rfl w.heap.size 32 Tryz.zeroCells32 (bkC kb).toArray rfl rfl C7.out (show (131 : Nat) = (bkC kb).length from (bkC_len HFk.out).symm) (bkSz' (b := kb) HFk.out) (bkC_one kb) ?_; intro w8 h5 h6 h7; have B8 := Lib.hid h5; have K8 := Lib.hid h6; clear h5 h6 h7))
        refine bodyPost_ret (row_tmp Tryz.results6 _ _ w.heap.size 32 _ _ rfl B8.out Tryz.underlying32 rfl (bkSz' (b := kb) HFk.out) _ rfl) rfl ⟨kb, (by rw [HOB.out] <;> rfl), ?_, ?_, ?_⟩
        · rw [HVV.out HOB.out LP HQ.out, ← HKb.out, ← E5.out, ← P3.out]
        · exact KK6.out w8 (((Keeps.of_below V6.out _).trans (Keeps.of_below V7.out _)).trans (K8.out.mono (fun j _ h => by have := Lg2.out; have := HGg.out; omega)))
        · exact (nxTr (nxTr V05.out V6.out) V7.out).trans (K8.out.below (nxTr (nxTr V05.out V6.out) V7.out).size (fun j hj => by omega))
      · have HOB : Hid (bofB b = false) := by show _ = _; rw [HBW.out, HEp.out, beq_eq_false_iff_ne.2 hz, Bool.and_false]
        have hq : (E == 0) = false := beq_eq_false_iff_ne.2 hz
        have hq2 : (E != 0) = true := by rw [bne, hq]; rfl
        clear hz
        go_enter Tryz.func6, Tryz.ntmps6
        go_wp2_with (first
          | (go_at_call 15; refine (read_any (w.alloc (.cells Tryz.zeroCells32 32)) Bx A _ c b rfl HS0.out HL.out).mono ?_; rintro e w1 ⟨g, d, rfl, hg, hd, hr1, hb1⟩; have HG := Lib.hid hg; have HDx := Lib.hid hd; have R1 := Lib.hid hr1; have V1 := Lib.hid hb1; clear hg hd hr1 hb1)
          | (go_at_call 17; refine (rblob_s w1 g d (some b) R1.out HL.out).mono ?_; unfold PiecePost; rw [HPe.out, HSe.out]; rintro e w2 ⟨A2, c2, rfl, ho2, hr2, hk2⟩; have S2 := Lib.hid (Sees.own ho2); have R2 := Lib.hid hr2; have K2 : Hid (Keeps (· = g) w1 w2) := hk2; clear ho2 hr2 hk2)
          | (go_at_call 16; refine (ofh_anyK w2 w2.heap.size A2 p c2 S2.out HPl.out).mono ?_; unfold OfHPostK; rw [HOh.out]; rintro e w3 ⟨h, rfl, hp3, hk3, hb3, hkk3⟩; have P3 : Hid (h.p = ofHV p) := hp3; have F3 : Hid (HdFit h.p) := hk3.f; have HK3 := Lib.hid hkk3; have V3 : Hid (Below w2.heap.size w2 w3) := hb3; have HSZ := Lib.hid (hdSz (h := h) hk3.f); have HSZ' := Lib.hid (hdSz' (h := h) hk3.f); clear hp3 hk3 hb3 hkk3)
          | ((with_reducible show wpList _ _ _ (⟨none, .store 29 _ _, _, _, _, _⟩ :: _) _ _); show wpList _ _ _ _ _ (w3.alloc (.cells hdZ 29)); refine wpList_store_all rfl 29 (.tmp 5) (.tmp 16) rfl w3.heap.size 29 hdZ (hdC h).toArray rfl rfl (heap_alloc_new w3 _) (show (130 : Nat) = (hdC h).length from (hdC_len F3.out).symm) HSZ'.out (hdC_one h) ?_; intro w4 h5 h6 h7; have B4 := Lib.hid h5; have V4 : Hid (Below w3.heap.size w3 w4) := (nxAl (nxRf w3) _).trans (h6.below (nxAl (nxRf w3) _).size (fun k hk => by omega)); clear h5 h6 h7)
          | (go_at_call 18; refine (readTxs_yes w4 g d s1 ((R2.out.below V3.out).below V4.out) HSl.out LP HQ.out).mono ?_; rintro e w5 ⟨B5, l5, c5, rfl, hl5, hr5⟩; have K5 : Hid (Keeps (· = g) w4 w5) := hr5.v; have R5 := Lib.hid hr5.rd; have T5 := Lib.hid hr5.k; have E5 := Lib.hid hl5; clear hr5 hl5; have hof := of_f HG.out V1.out K2.out R1.out.lt V3.out B4.out V4.out K5.out HK3.out; have HGg := Lib.hid hof.gg; have Lg2 := Lib.hid hof.lg; have V05 := Lib.hid hof.v; have C5 := Lib.hid hof.c; have D5 := Lib.hid hof.d; have HK5 := Lib.hid hof.k; have Z24 := Lib.hid hof.z; clear hof; obtain ⟨kb, hkb⟩ : ∃ kb : BkR, (⟨h, B5, l5, c5⟩ : BkR) = kb := ⟨_, rfl⟩; have HKb := Lib.hid hkb; have HFk : Hid (HdFit kb.h.p) := (by show HdFit _; rw [← hkb]; exact F3.out); have HE : Hid (checkK kb = E) := (by show _ = _; rw [← hkb, ← checkK_up, ← HEp.out, ← E5.out]; show checkP h.p _ = _; rw [P3.out]); have KK6 : Hid (∀ W, Keeps (fun j => j < w2.heap.size) w5 W → BkOk W kb) := (fun W hW => by rw [← hkb]; exact ⟨HK5.out W hW, T5.out W (hW.mono (fun j _ h => by have h1 : j < w2.heap.size := h; have := Z24.out; omega))⟩); clear hkb)
          | ((with_reducible show wpList _ _ _ (⟨some 23, _, _, _, _, _⟩ :: _) _ _); refine wpList_load_mid rfl 29 (.tmp 5) rfl w3.heap.size 0 rfl (hdC h) _ (blkR D5.out) Tryz.underlying29 rfl HSZ.out ?_)
          | ((with_reducible show wpList _ _ _ (⟨some 25, _, _, _, _, _⟩ :: _) _ _); refine wpList_build2 rfl 32 (.tmp 23) (.tmp 24) rfl (.agg (hdC h).toArray) (.slice B5 l5.length c5) (.agg (bkC kb).toArray) rfl rfl (fun wq => by rw [← HKb.out]; exact build_bk ⟨h, B5, l5, c5⟩ F3.out wq) ?_)
          | ((with_reducible show wpList _ _ _ (⟨none, .store 32 (.tmp 9) _, _, _, _, _⟩ :: _) _ _); show wpList _ _ _ _ _ (w5.alloc (.cells Tryz.zeroCells32 32)); refine wpList_store_all rfl 32 (.tmp 9) (.tmp 25) rfl w5.heap.size 32 Tryz.zeroCells32 (bkC kb).toArray rfl rfl (heap_alloc_new w5 _) (show (131 : Nat) = (bkC kb).length from (bkC_len HFk.out).symm) (bkSz' (b := kb) HFk.out) (bkC_one kb) ?_; intro w6 h5 h6 h7; have B6 := Lib.hid h5; have V6 : Hid (Below w5.heap.size w5 w6) := (nxAl (nxRf w5) _).trans (h6.below (nxAl (nxRf w5) _).size (fun k hk => by omega)); have C6 := Lib.hid (C5.out.below V6.out C5.out.lt); have KB6 := Lib.hid (KK6.out w6 (Keeps.of_below V6.out _)); clear h5 h6 h7)
          | (go_at_call 19; refine (rend_s w6 g d (some []) (by have q := R5.out.below V6.out; rw [HRr.out] at q; exact q)).mono ?_; rw [HRe.out]; rintro e w6' ⟨rfl, rfl⟩)
          | ((with_reducible show wpList _ _ _ (⟨some 38, _, _, _, _, _⟩ :: _) _ _); refine wpList_load_midg (by rfl) 32 (.tmp 9) rfl w5.heap.size 0 rfl (bkC kb) _ (blkR B6.out) Tryz.underlying32 rfl (bkSz (b := kb) HFk.out) ?_)
          | (go_at_call 20; refine (bcheck_any w6 (HTb.out.later (nxTr V05.out V6.out)) kb KB6.out).mono ?_; rw [HE.out]; rintro e w7 ⟨rfl, hb7⟩; have V7 : Hid (Below w6.heap.size w6 w7) := hb7; have C7 := Lib.hid (C6.out.below hb7 C6.out.lt); have B7 := Lib.hid (B6.out.below hb7 B6.out.lt); clear hb7)
          | ((with_reducible show wpList _ _ _ (⟨none, .store 32 (.tmp 2) _, _, _, _, _⟩ :: _) _ _); refine wpList_store_all rfl 32 (.tmp 2) (.tmp 42) rfl w.heap.size 32 Tryz.zeroCells32 Tryz.zeroCells32 rfl rfl C7.out rfl bkZ_sz bkZ_one ?_; intro w8 h5 h6 h7; have B8 := Lib.hid h5; have K8 := Lib.hid h6; clear h5 h6 h7))
        refine bodyPost_ret (row_tmp Tryz.results6 _ _ w.heap.size 32 _ _ rfl B8.out Tryz.underlying32 rfl bkZ_sz _ rfl) rfl ⟨noBk, (by rw [HOB.out, ← bkZ_eq] <;> rfl), (by rw [HVN.out HOB.out]; rfl), noBk_ok w8, (nxTr (nxTr V05.out V6.out) V7.out).trans (K8.out.below (nxTr (nxTr V05.out V6.out) V7.out).size (fun j hj => by omega))⟩
theorem bkZ_row : (Tryz.zeroCells32 : Array Value).size = 131 := by rw [bkZ_eq, List.size_toArray, bkC_len noHP_fit]
theorem checkP_few {p : HdP} {l : List TxP} (h : checkP p l = 0) : l.length ≤ 200 := by
  have h1 := (checkK_ok h).n
  rw [List.length_map] at h1
  exact h1
end Go.Proofs.YtbloomnifhcgbaaGreatDoor

namespace Go.Proofs.YtbloomnifhcgbaaGreatDoor
open Go.RowKit

def bkD (b : BkR) : HdP × List TxP := (b.h.p, b.txs.map txP)
def BSame (w : World) (a b : BkR) (e : Ending) (w' : World) : Prop := ∃ z : Bool, e = .returned (.bool z) ∧ (z = true ↔ bkD a = bkD b) ∧ Below w.heap.size w w'
theorem bkD_no {a b : BkR} {z : Bool} (hz : z = false) (h : bkD a ≠ bkD b) : z = true ↔ bkD a = bkD b := ⟨fun e => (by rw [hz] at e; cases e), fun e => absurd e h⟩

set_option maxHeartbeats 4000000 in
set_option maxRecDepth 100000 in
theorem rsame6_any (w : World) (a b : BkR) (ka : BkOk w a) (kb : BkOk w b) : Calls Tryz.prog 8 #[.agg (bkC a).toArray, .agg (bkC b).toArray] w (BSame w a b) := by
  have hb0 : Below w.heap.size w ((w.alloc (.cells (bkC a).toArray 32)).alloc (.cells (bkC b).toArray 32)) := nxAl (nxAl (nxRf w) _) _
  have Hb0 := Lib.hid hb0
  have HRa := Lib.hid (BkRow.of (blkR (vs := bkC a) (show Blk ((w.alloc (.cells (bkC a).toArray 32)).alloc (.cells (bkC b).toArray 32)) w.heap.size 32 (bkC a).toArray from Blk.alloc (heap_alloc_new w _) _)) ka.h.f)
  have HRb := Lib.hid (BkRow.of (blkR (vs := bkC b) (show Blk ((w.alloc (.cells (bkC a).toArray 32)).alloc (.cells (bkC b).toArray 32)) (w.heap.size + 1) 32 (bkC b).toArray from Blk.newAt (by simp) rfl)) kb.h.f)
  have HZa := Lib.hid (hdSz ka.h.f)
  have HZb := Lib.hid (hdSz kb.h.f)
  have KA := Lib.hid (ka.later hb0)
  have KB := Lib.hid (kb.later hb0)
  have TA := Lib.hid ka.t
  have TB := Lib.hid kb.t
  have HL2 : Hid (w.heap.size + 2 = ((w.alloc (.cells (bkC a).toArray 32)).alloc (.cells (bkC b).toArray 32)).heap.size) := by show _ = _; simp
  have HDe : Hid (bkD a = bkD b ↔ a.h.p = b.h.p ∧ a.txs.map txP = b.txs.map txP) := by
    show _ ↔ _
    unfold bkD
    rw [Prod.mk.injEq]
  unfold BSame
  clear hb0 ka kb
  have ENTRY : True := trivial
  by_cases hp : a.h.p = b.h.p
  rotate_left 1
  · have HSE : Hid (decide (a.h.p = b.h.p) = false) := decide_eq_false hp
    have HNo : Hid (bkD a ≠ bkD b) := fun e => hp (HDe.out.1 e).1
    clear hp
    go_enter Tryz.func8, Tryz.ntmps8
    go_wp2_with (first
      | ((with_reducible show wpList _ _ _ (⟨some 7, _, _, _, _, _⟩ :: _) _ _); refine wpList_load_mid rfl 29 (.tmp 6) rfl w.heap.size 0 rfl (hdC a.h) _ HRa.out.r Tryz.underlying29 rfl HZa.out ?_)
      | ((with_reducible show wpList _ _ _ (⟨some 9, _, _, _, _, _⟩ :: _) _ _); refine wpList_load_mid rfl 29 (.tmp 8) rfl (w.heap.size + 1) 0 rfl (hdC b.h) _ HRb.out.r Tryz.underlying29 rfl HZb.out ?_)
      | (go_at_call 27; refine (sameh_any ((w.alloc (.cells (bkC a).toArray 32)).alloc (.cells (bkC b).toArray 32)) a.h b.h KA.out.h KB.out.h).mono ?_; rw [HSE.out]; rintro e w3 ⟨rfl, hb⟩; have V3 := Lib.hid (nxTr Hb0.out hb); clear hb))
    go_ret
    exact ⟨false, rfl, bkD_no rfl HNo.out, V3.out⟩
  have HSE : Hid (decide (a.h.p = b.h.p) = true) := decide_eq_true hp
  have HPp := Lib.hid hp
  clear hp
  obtain ⟨la, hla⟩ : ∃ l, a.txs = l := ⟨_, rfl⟩
  obtain ⟨lb, hlb⟩ : ∃ l, b.txs = l := ⟨_, rfl⟩
  have HLa := Lib.hid hla
  have HLb := Lib.hid hlb
  have HDd : Hid (bkD a = bkD b ↔ la.map txP = lb.map txP) := by
    show _ ↔ _
    rw [HDe.out, hla, hlb]
    exact ⟨fun h => h.2, fun h => ⟨HPp.out, h⟩⟩
  rw [hla] at TA
  rw [hlb] at TB
  clear hla hlb HDe
  by_cases hl : la.length = lb.length
  rotate_left 1
  · have hq : ((la.length : Int) != (lb.length : Int)) = true := by rw [bne, beq_eq_false_iff_ne.2 (by omega)]; rfl
    have HNo : Hid (bkD a ≠ bkD b) := fun e => hl (by have h := congrArg List.length (HDd.out.1 e); rw [List.length_map, List.length_map] at h; exact h)
    clear hl
    go_enter Tryz.func8, Tryz.ntmps8
    go_wp2_with (first
      | ((with_reducible show wpList _ _ _ (⟨some 7, _, _, _, _, _⟩ :: _) _ _); refine wpList_load_mid rfl 29 (.tmp 6) rfl w.heap.size 0 rfl (hdC a.h) _ HRa.out.r Tryz.underlying29 rfl HZa.out ?_)
      | ((with_reducible show wpList _ _ _ (⟨some 9, _, _, _, _, _⟩ :: _) _ _); refine wpList_load_mid rfl 29 (.tmp 8) rfl (w.heap.size + 1) 0 rfl (hdC b.h) _ HRb.out.r Tryz.underlying29 rfl HZb.out ?_)
      | (go_at_call 27; refine (sameh_any ((w.alloc (.cells (bkC a).toArray 32)).alloc (.cells (bkC b).toArray 32)) a.h b.h KA.out.h KB.out.h).mono ?_; rw [HSE.out]; rintro e w3 ⟨rfl, hb⟩; have V3 := Lib.hid (nxTr Hb0.out hb); have D3 : Hid (Below ((w.alloc (.cells (bkC a).toArray 32)).alloc (.cells (bkC b).toArray 32)).heap.size ((w.alloc (.cells (bkC a).toArray 32)).alloc (.cells (bkC b).toArray 32)) w3) := hb; have c3a : w3.cell? ⟨w.heap.size, 130, none⟩ = some (.slice a.B la.length a.d) := (by have h := (HRa.out.below hb (by have := HL2.out; omega)).t; rw [HLa.out] at h; exact h); have c3b : w3.cell? ⟨w.heap.size + 1, 130, none⟩ = some (.slice b.B lb.length b.d) := (by have h := (HRb.out.below hb (by have := HL2.out; omega)).t; rw [HLb.out] at h; exact h); clear hb))
    go_ret
    exact ⟨false, rfl, bkD_no rfl HNo.out, V3.out⟩
  have hq : ((la.length : Int) != (lb.length : Int)) = false := by rw [hl, bne, beq_self_eq_true]; rfl
  have HL := Lib.hid hl
  have hlI : (la.length : Int) = (lb.length : Int) := by rw [hl]
  have HLI := Lib.hid hlI
  clear hl hlI
  go_enter Tryz.func8, Tryz.ntmps8
  go_wp2_with (first
    | ((with_reducible show wpList _ _ _ (⟨some 7, _, _, _, _, _⟩ :: _) _ _); refine wpList_load_mid rfl 29 (.tmp 6) rfl w.heap.size 0 rfl (hdC a.h) _ HRa.out.r Tryz.underlying29 rfl HZa.out ?_)
    | ((with_reducible show wpList _ _ _ (⟨some 9, _, _, _, _, _⟩ :: _) _ _); refine wpList_load_mid rfl 29 (.tmp 8) rfl (w.heap.size + 1) 0 rfl (hdC b.h) _ HRb.out.r Tryz.underlying29 rfl HZb.out ?_)
    | (go_at_call 27; refine (sameh_any ((w.alloc (.cells (bkC a).toArray 32)).alloc (.cells (bkC b).toArray 32)) a.h b.h KA.out.h KB.out.h).mono ?_; rw [HSE.out]; rintro e w3 ⟨rfl, hb⟩; have V3 := Lib.hid (nxTr Hb0.out hb); have D3 : Hid (Below ((w.alloc (.cells (bkC a).toArray 32)).alloc (.cells (bkC b).toArray 32)).heap.size ((w.alloc (.cells (bkC a).toArray 32)).alloc (.cells (bkC b).toArray 32)) w3) := hb; have c3a : w3.cell? ⟨w.heap.size, 130, none⟩ = some (.slice a.B la.length a.d) := (by have h := (HRa.out.below hb (by have := HL2.out; omega)).t; rw [HLa.out] at h; exact h); have c3b : w3.cell? ⟨w.heap.size + 1, 130, none⟩ = some (.slice b.B lb.length b.d) := (by have h := (HRb.out.below hb (by have := HL2.out; omega)).t; rw [HLb.out] at h; exact h); clear hb))
  clear c3a c3b hq
  go_loopw [5] (fun iv wr => ∃ k : Nat, k ≤ la.length ∧ iv = .int .i64 k ∧ Hid (∀ j (h1 : j < la.length) (h2 : j < lb.length), j < k → txP la[j] = txP lb[j]) ∧ Hid (Below ((w.alloc (.cells (bkC a).toArray 32)).alloc (.cells (bkC b).toArray 32)).heap.size ((w.alloc (.cells (bkC a).toArray 32)).alloc (.cells (bkC b).toArray 32)) wr)) (fun iv _ => la.length - (intOf iv).toNat)
  case atStart => exact ⟨0, by omega, rfl, fun j _ _ h => absurd h (Nat.not_lt_zero _), D3.out⟩
  case round =>
    clear V3 D3
    obtain ⟨k, hk, rfl, HE, Hb⟩ := hrel
    have L1 : Hid (w.heap.size < ((w.alloc (.cells (bkC a).toArray 32)).alloc (.cells (bkC b).toArray 32)).heap.size) := by show _ < _; have := HL2.out; omega
    have L2 : Hid (w.heap.size + 1 < ((w.alloc (.cells (bkC a).toArray 32)).alloc (.cells (bkC b).toArray 32)).heap.size) := by show _ < _; have := HL2.out; omega
    have ca : wr.cell? ⟨w.heap.size, 130, none⟩ = some (.slice a.B la.length a.d) := by have h := (HRa.out.below Hb.out L1.out).t; rw [HLa.out] at h; exact h
    have cb : wr.cell? ⟨w.heap.size + 1, 130, none⟩ = some (.slice b.B lb.length b.d) := by have h := (HRb.out.below Hb.out L2.out).t; rw [HLb.out] at h; exact h
    have HBg : Hid (Below w.heap.size w wr) := nxTr Hb0.out Hb.out
    by_cases hlt : k < la.length
    · have hlt' : k < lb.length := by rw [← HL.out]; exact hlt
      have hin : (k : Int) < (la.length : Int) := by omega
      have hin2 : (k : Int) < (lb.length : Int) := by omega
      obtain ⟨ba, oa, hA, hba, hra⟩ := txsC_row TA.out.s (by omega)
      obtain ⟨bb, ob, hB, hbb, hrb⟩ := txsC_row TB.out.s (by omega)
      have hr1 := rngB (hra k hlt) HBg.out hba
      have hr2 := rngB (hrb k hlt') HBg.out hbb
      have ht := (TA.out.each _ (List.getElem_mem hlt)).later HBg.out
      have hu := (TB.out.each _ (List.getElem_mem hlt')).later HBg.out
      rw [hA] at ca
      rw [hB] at cb
      obtain ⟨t, het⟩ : ∃ t, la[k] = t := ⟨_, rfl⟩
      obtain ⟨u, heu⟩ : ∃ t, lb[k] = t := ⟨_, rfl⟩
      rw [het] at hr1 ht
      rw [heu] at hr2 hu
      have HRt := Lib.hid hr1
      have HRu := Lib.hid hr2
      have HT := Lib.hid ht
      have HU := Lib.hid hu
      have HEt : Hid (la[k] = t) := het
      have HEu : Hid (lb[k] = u) := heu
      have Lba : Hid (ba < wr.heap.size) := Nat.lt_of_lt_of_le hba HBg.out.size
      have Lbb : Hid (bb < wr.heap.size) := Nat.lt_of_lt_of_le hbb HBg.out.size
      have Lg1 : Hid (w.heap.size < wr.heap.size) := Nat.lt_of_lt_of_le L1.out Hb.out.size
      have Lg2 : Hid (w.heap.size + 1 < wr.heap.size) := Nat.lt_of_lt_of_le L2.out Hb.out.size
      have HSZt : Hid ((Tryz.prog.info? 66).map (·.size) = some (txC t).length) := Tryz.sizeTx
      have HSZu : Hid ((Tryz.prog.info? 66).map (·.size) = some (txC u).length) := Tryz.sizeTx
      have CA := Lib.hid ca
      have CB := Lib.hid cb
      have hwk : IntKind.i64.wrap ((k : Int) + 1) = (k : Int) + 1 := by rw [IntKind.wrap_i64]; have := TA.out.m; omega
      clear hA hB hba hra hbb hrb hr1 hr2 ht hu het heu
      go_wp2_with fail
      clear ca cb
      refine wp_region_held_drew (S := fun W => W.cell? ⟨w.heap.size, 130, none⟩ = some (.slice (some ⟨ba, oa, none⟩) la.length a.d) ∧ W.cell? ⟨w.heap.size + 1, 130, none⟩ = some (.slice (some ⟨bb, ob, none⟩) lb.length b.d) ∧ W.rangeAt ba (oa + k * 3) (txC t) ∧ W.rangeAt bb (ob + k * 3) (txC u)) (by kernel_rfl) ⟨CA.out, CB.out, HRt.out, HRu.out⟩ (fun hHeld => ?_)
      refine wpAnyH_take (i := 0) (oi := ⟨_, _, _, _, _, _⟩) (v := ?_) rfl (by kernel_rfl) (by kernel_rfl) (by kernel_rfl) (fun _ _ _ h => h) (Or.inl ⟨by rfl, ?_⟩) (by assumption) ?_
      rotate_left 1
      · intro W hSw
        try dsimp only at hSw
        go_simp
        try with_reducible rfl
      try simp only [Act.put, List.setIfInBounds_toArray, List.set_cons_zero, List.set_cons_succ]
      refine wpAnyH_take (i := 5) (oi := ⟨_, _, _, _, _, _⟩) (v := ?_) rfl (by kernel_rfl) (by kernel_rfl) (by kernel_rfl) (fun _ _ _ h => h) (Or.inl ⟨by rfl, ?_⟩) (by assumption) ?_
      rotate_left 1
      · intro W hSw
        try dsimp only at hSw
        go_simp
        try with_reducible rfl
      try simp only [Act.put, List.setIfInBounds_toArray, List.set_cons_zero, List.set_cons_succ]
      refine wpAnyH_take (i := 1) (oi := ⟨_, _, _, _, _, _⟩) (v := ?_) rfl (by kernel_rfl) (by kernel_rfl) (by kernel_rfl) (fun _ _ _ h => h) (Or.inl ⟨by rfl, ?_⟩) (by assumption) ?_
      rotate_left 1
      · intro W hSw
        have hcw := hSw.1
        clear hSw
        go_simp
        try with_reducible rfl
      try simp only [Act.put, List.setIfInBounds_toArray, List.set_cons_zero, List.set_cons_succ]
      refine wpAnyH_take (i := 6) (oi := ⟨_, _, _, _, _, _⟩) (v := ?_) rfl (by kernel_rfl) (by kernel_rfl) (by kernel_rfl) (fun _ _ _ h => h) (Or.inl ⟨by rfl, ?_⟩) (by assumption) ?_
      rotate_left 1
      · intro W hSw
        have hcw := hSw.2.1
        clear hSw
        go_simp
        try with_reducible rfl
      try simp only [Act.put, List.setIfInBounds_toArray, List.set_cons_zero, List.set_cons_succ]
      refine wpAnyH_take (i := 2) (oi := ⟨_, _, _, _, _, _⟩) (v := ?_) rfl (by kernel_rfl) (by kernel_rfl) (by kernel_rfl) (fun _ _ _ h => h) (Or.inl ⟨by rfl, ?_⟩) (by assumption) ?_
      rotate_left 1
      · intro W hSw
        try dsimp only at hSw
        go_simp
        try with_reducible rfl
      try simp only [Act.put, List.setIfInBounds_toArray, List.set_cons_zero, List.set_cons_succ]
      refine wpAnyH_take (i := 7) (oi := ⟨_, _, _, _, _, _⟩) (v := ?_) rfl (by kernel_rfl) (by kernel_rfl) (by kernel_rfl) (fun _ _ _ h => h) (Or.inl ⟨by rfl, ?_⟩) (by assumption) ?_
      rotate_left 1
      · intro W hSw
        try dsimp only at hSw
        go_simp
        try with_reducible rfl
      try simp only [Act.put, List.setIfInBounds_toArray, List.set_cons_zero, List.set_cons_succ]
      refine wpAnyH_take (i := 3) (oi := ⟨_, _, _, _, _, _⟩) (v := ?_) rfl (by kernel_rfl) (by kernel_rfl) (by kernel_rfl) (fun _ _ _ h => h) (Or.inl ⟨by rfl, ?_⟩) (by assumption) ?_
      rotate_left 1
      · intro W hSw
        try dsimp only at hSw
        go_simp
        try with_reducible rfl
      try simp only [Act.put, List.setIfInBounds_toArray, List.set_cons_zero, List.set_cons_succ]
      refine wpAnyH_take (i := 8) (oi := ⟨_, _, _, _, _, _⟩) (v := ?_) rfl (by kernel_rfl) (by kernel_rfl) (by kernel_rfl) (fun _ _ _ h => h) (Or.inl ⟨by rfl, ?_⟩) (by assumption) ?_
      rotate_left 1
      · intro W hSw
        try dsimp only at hSw
        go_simp
        try with_reducible rfl
      try simp only [Act.put, List.setIfInBounds_toArray, List.set_cons_zero, List.set_cons_succ]
      refine wpAnyH_take (i := 4) (oi := ⟨_, _, _, _, _, _⟩) (v := .agg (txC t).toArray) rfl (by kernel_rfl) (by kernel_rfl) (by kernel_rfl) (fun _ _ _ h => h) (yieldsIf_load_mid (by rfl) 66 (.tmp 31) rfl (ba) (oa + k * 3) rfl (txC t) _ (fun W h => h.2.2.1) Tryz.underlying66 rfl HSZt.out) (by assumption) ?_
      try simp only [Act.put, List.setIfInBounds_toArray, List.set_cons_zero, List.set_cons_succ]
      refine wpAnyH_take (i := 9) (oi := ⟨_, _, _, _, _, _⟩) (v := .agg (txC u).toArray) rfl (by kernel_rfl) (by kernel_rfl) (by kernel_rfl) (fun _ _ _ h => h) (yieldsIf_load_mid (by rfl) 66 (.tmp 36) rfl (bb) (ob + k * 3) rfl (txC u) _ (fun W h => h.2.2.2) Tryz.underlying66 rfl HSZu.out) (by assumption) ?_
      try simp only [Act.put, List.setIfInBounds_toArray, List.set_cons_zero, List.set_cons_succ]
      refine wpAnyH_ready (rs := [10]) (by kernel_rfl) (by simp) ?_
      refine AllReadyH.cons rfl (fun K hK => ?_) AllReadyH.nil
      go_simp
      go_at_call 28
      refine (rsame_any wr.drew t u (HT.out.later ⟨rfl, rfl, rfl, Nat.le_refl _, fun _ _ => rfl⟩) (HU.out.later ⟨rfl, rfl, rfl, Nat.le_refl _, fun _ _ => rfl⟩)).mono ?_
      unfold SamePost
      rintro e w5 ⟨z, rfl, hz, hb⟩
      have D5 : Hid (Below wr.heap.size wr w5) := ⟨hb.os, hb.tape, hb.output, hb.size, hb.block⟩
      clear hb
      refine hK.out _ _ ⟨(D5.out.cell (p := ⟨w.heap.size, 130, none⟩) Lg1.out).trans CA.out, (D5.out.cell (p := ⟨w.heap.size + 1, 130, none⟩) Lg2.out).trans CB.out, rngB HRt.out D5.out Lba.out, rngB HRu.out D5.out Lbb.out⟩ (fun hSn => ?_)
      clear hK K
      try simp only [Act.put, List.setIfInBounds_toArray, List.set_cons_zero, List.set_cons_succ]
      refine wpAnyH_take (i := 11) (oi := ⟨_, _, _, _, _, _⟩) (v := ?_) rfl (by kernel_rfl) (by kernel_rfl) (by kernel_rfl) (fun _ _ _ h => h) (Or.inl ⟨by rfl, ?_⟩) (by assumption) ?_
      rotate_left 1
      · intro W hSw
        try dsimp only at hSw
        go_simp
        try with_reducible rfl
      try simp only [Act.put, List.setIfInBounds_toArray, List.set_cons_zero, List.set_cons_succ]
      refine wpAnyH_done (by kernel_rfl) ?_ _
      have HZz := Lib.hid hz
      have Hb5 : Hid (Below ((w.alloc (.cells (bkC a).toArray 32)).alloc (.cells (bkC b).toArray 32)).heap.size ((w.alloc (.cells (bkC a).toArray 32)).alloc (.cells (bkC b).toArray 32)) w5) := nxTr Hb.out D5.out
      clear hz hHeld hSn D5 CA CB HRt HRu
      cases z with
      | true =>
        have HE' : Hid (∀ j (h1 : j < la.length) (h2 : j < lb.length), j < k + 1 → txP la[j] = txP lb[j]) := by
          intro j h1 h2 hj
          by_cases h3 : j < k
          · exact HE.out j h1 h2 h3
          · obtain rfl : j = k := by omega
            rw [HEt.out, HEu.out]; exact HZz.out.1 rfl
        go_wp2
        go_roundw
        case rel => exact ⟨k + 1, by omega, by go_num, HE'.out, Hb5.out⟩
        case measure => simp [intOf] <;> omega
      | false =>
        have HNo : Hid (bkD a ≠ bkD b) := fun e => by
          have h := HDd.out.1 e
          have h1 : (la.map txP)[k]? = (lb.map txP)[k]? := by rw [h]
          rw [List.getElem?_map, List.getElem?_map, List.getElem?_eq_getElem hlt, List.getElem?_eq_getElem hlt', HEt.out, HEu.out] at h1
          have h2 : txP t = txP u := Option.some.inj h1
          have h3 := HZz.out.2 h2
          cases h3
        go_wp2
        go_ret
        exact ⟨false, rfl, bkD_no rfl HNo.out, nxTr Hb0.out Hb5.out⟩
    · obtain rfl : k = la.length := by omega
      have HYes : Hid (bkD a = bkD b) := HDd.out.2 (by
        apply List.ext_getElem
        · rw [List.length_map, List.length_map]; exact HL.out
        · intro i h1 h2
          rw [List.length_map] at h1 h2
          rw [List.getElem_map, List.getElem_map]
          exact HE.out i h1 h2 h1)
      clear hlt
      go_wp2
      go_ret
      exact ⟨true, rfl, ⟨fun _ => HYes.out, fun _ => rfl⟩, HBg.out⟩
end Go.Proofs.YtbloomnifhcgbaaGreatDoor
