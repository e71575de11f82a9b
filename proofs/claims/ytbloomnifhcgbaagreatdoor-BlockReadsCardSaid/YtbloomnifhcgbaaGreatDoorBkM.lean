/-
  BlockReads, the walk.
-/
import Derived.Test.YtbloomnifhcgbaaGreatDoorBkJ
import Derived.Test.YtbloomnifhcgbaaGreatDoorBkD
import Derived.Test.YtbloomnifhcgbaaGreatDoorBkF
import Derived.Test.YtbloomnifhcgbaaGreatDoorBkE
import Derived.Test.YtbloomnifhcgbaaGreatDoorBk5
import Derived.Test.YtbloomnifhcgbaaGreatDoorBk7
import Derived.Test.YtbloomnifhcgbaaGreatDoorTr4
import Derived.Test.YtbloomnifhcgbaaGreatDoorBkB
import Derived.Test.YtbloomnifhcgbaaGreatDoorTr5
namespace Go.Proofs.YtbloomnifhcgbaaGreatDoor
open Go.RowKit

theorem packT_up (t : TxR) : packT (txP t).up = packT t := by
  have h1 : insB ((t.ins.map inP).map unP) = insB t.ins := by
    unfold insB
    rw [List.map_map, List.map_map]
    congr 1
  show leB ((t.ins.map inP).map unP).length 2 ++ (insB ((t.ins.map inP).map unP) ++ _) = _
  rw [h1, List.length_map, List.length_map]
  rfl
theorem idT_up (t : TxR) : idT (txP t).up = idT t := by rw [idT, idT, checkT_up, packT_up]
theorem notB_up (t : TxR) : notB (txP t).up = notB t := by rw [notB, notB, checkT_up]
/-- Why what was read has not its form. -/
def checkP (p : HdP) (l : List TxP) : Int := checkK ⟨⟨none, 0, p⟩, none, l.map TxP.up, 0⟩
theorem ups_ids (l : List TxR) : idsL ((l.map txP).map TxP.up) = idsL l := by
  rw [idsL, idsL, List.map_map, List.map_map]
  exact List.map_congr_left fun t _ => idT_up t
theorem ups_any (l : List TxR) : ((l.map txP).map TxP.up).any notB = l.any notB := by
  rw [List.any_map, List.any_map]
  congr 1
  funext t
  exact notB_up t
theorem checkK_up (b : BkR) : checkP b.h.p (b.txs.map txP) = checkK b := by
  unfold checkP checkK
  simp only [ups_ids, ups_any, List.length_map]
/-- What is read from bytes. -/
def bofH (b : List UInt8) : List UInt8 := blobPiece (some b)
def bofT (b : List UInt8) : Option (List TxP) × Option (List UInt8) := rtS (blobRest (some b))
def bofB (b : List UInt8) : Bool := ofHB (bofH b) && (match bofT b with
  | (some l, r) => decide (r = some []) && (checkP (ofHV (bofH b)) l == 0)
  | (none, _) => false)
def bofV (b : List UInt8) : HdP × List TxP := bif bofB b then (ofHV (bofH b), ((bofT b).1).getD []) else (noHP, [])

theorem bkZ_eq : Tryz.zeroCells32 = (bkC noBk).toArray := by kernel_rfl
theorem bkZ_sz : (Tryz.prog.info? 32).map (·.size) = some Tryz.zeroCells32.size := Tryz.sizeBk
theorem bkZ_one : ∀ u ∈ Tryz.zeroCells32.toList, u.oneCell' = true := by rw [bkZ_eq]; exact bkC_one noBk
theorem noBk_ok (w : World) : BkOk w noBk := ⟨noHd_ok w, ⟨.inl rfl, fun t h => (by cases h), Nat.le_refl _, Nat.zero_le _⟩⟩
theorem build_bk (b : BkR) (f : HdFit b.h.p) (wq : World) : (Instr.build 32 #[(0, .agg (hdC b.h).toArray), (1, .slice b.B b.txs.length b.d)]).run Tryz.prog wq = .ok (.agg (bkC b).toArray) wq := by
  obtain ⟨i0, hi, hz, _, _⟩ := infoP Tryz.bkinfo
  refine run_build wq _ _ _ ?_
  rw [built_struct hi hz Tryz.underlying32 (places := [(0, 130), (130, 1)]) (by kernel_rfl)]
  exact fill_pair ([(0, 130), (130, 1)].toArray[·]?) (bkC noBk) (hdC b.h) [.slice b.B b.txs.length b.d] (.agg (hdC b.h).toArray) (.slice b.B b.txs.length b.d) rfl rfl (by rw [hdC_len f]; rfl) (by rw [hdC_len f]; rfl) (by rw [hdC_len f, bkC_len noHP_fit]; rfl)
theorem readTxs_yes (w : World) (g : Nat) (d : Option Nat) (st : Option (List UInt8)) (hR : Rd w g d st) (hlen : lenS st ≤ 1099511627776) (L : List TxP) (hq : (rtS st).1 = some L) :
    Calls Tryz.prog 18 #[.pointer (some ⟨g, 0, none⟩)] w fun e w' => ∃ B l c, e = .returned (.tuple #[.slice B l.length c, .int .i64 0]) ∧ l.map txP = L ∧ RTxs w g d st B l c w' :=
  (readTxs_any w g d st hR hlen).mono fun e w' h => by
    rcases h with ⟨B, l, c, rfl, h⟩ | ⟨_, h, _⟩
    · exact ⟨B, l, c, rfl, by have := h.r; rw [hq] at this; injection this with this; exact this.symm, h⟩
    · rw [hq] at h; cases h
theorem readTxs_no (w : World) (g : Nat) (d : Option Nat) (st : Option (List UInt8)) (hR : Rd w g d st) (hlen : lenS st ≤ 1099511627776) (hq : (rtS st).1 = none) :
    Calls Tryz.prog 18 #[.pointer (some ⟨g, 0, none⟩)] w fun e w' => e = .returned (.tuple #[.slice none 0 0, .int .i64 4]) ∧ Keeps (· = g) w w' :=
  (readTxs_any w g d st hR hlen).mono fun e w' h => by
    rcases h with ⟨B, l, c, _, h⟩ | ⟨h, _, k⟩
    · have := h.r; rw [hq] at this; cases this
    · exact ⟨h, k⟩
/-- What holds when the transactions have been read. -/
structure OfF (w w2 w3 w4 w5 : World) (h : HdR) (g : Nat) : Prop where
  gg : w.heap.size + 1 ≤ g
  lg : g < w2.heap.size
  v : Below w.heap.size w w5
  c : Blk w5 w.heap.size 32 Tryz.zeroCells32
  d : Blk w5 w3.heap.size 29 (hdC h).toArray
  k : Kept (fun j => j < w2.heap.size) w5 (fun W => HdOk W h)
  z : w2.heap.size ≤ w4.heap.size
theorem of_f {w w1 w2 w3 w4 w5 : World} {h : HdR} {g : Nat} (HG : (w.alloc (.cells Tryz.zeroCells32 32)).heap.size ≤ g) (V1 : Below (w.alloc (.cells Tryz.zeroCells32 32)).heap.size (w.alloc (.cells Tryz.zeroCells32 32)) w1) (K2 : Keeps (· = g) w1 w2) (lg1 : g < w1.heap.size)
    (V3 : Below w2.heap.size w2 w3) (B4 : Blk w4 w3.heap.size 29 (hdC h).toArray) (V4 : Below w3.heap.size w3 w4) (K5 : Keeps (· = g) w4 w5) (HK3 : Kept (fun j => j < w2.heap.size) w3 (fun W => HdOk W h)) : OfF w w2 w3 w4 w5 h g := by
  have hs : (w.alloc (.cells Tryz.zeroCells32 32)).heap.size = w.heap.size + 1 := by simp
  have hB0 : Blk (w.alloc (.cells Tryz.zeroCells32 32)) w.heap.size 32 Tryz.zeroCells32 := heap_alloc_new w _
  have z1 := V1.size
  have z2 := K2.size
  have z3 := V3.size
  have z4 := V4.size
  have z5 := K5.size
  rw [hs] at HG z1
  have v0 : Below w.heap.size w (w.alloc (.cells Tryz.zeroCells32 32)) := nxAl (nxRf w) _
  have v1 : Below w.heap.size w w1 := nxTr v0 V1
  have v2 : Below w.heap.size w w2 := v1.trans (K2.below v1.size (fun j hj => by omega))
  have v4 : Below w.heap.size w w4 := nxTr (nxTr v2 V3) V4
  refine ⟨HG, by omega, v4.trans (K5.below v4.size (fun j hj => by omega)), ?_, B4.keeps K5 (by omega), ?_, by omega⟩
  · have c1 := hB0.below V1 hB0.lt
    have c2 := c1.keeps K2 (by omega)
    exact ((c2.below V3 (by omega)).below V4 (by omega)).keeps K5 (by omega)
  · exact HK3.step ((Keeps.of_below V4 _).trans (K5.mono (fun j _ h => by omega))) (fun _ _ h => h)
theorem HdOk.kept {S : Nat → Prop} {w : World} {h : HdR} (k : Kept S w (fun W => HdOk W h)) : HdOk w h := k.now
/-- What Of answers. -/
def BOfPost (w : World) (b : List UInt8) (e : Ending) (w' : World) : Prop :=
  ∃ k : BkR, e = .returned (.tuple #[.agg (bkC k).toArray, .int .i64 (bif bofB b then 0 else 4)]) ∧ (k.h.p, k.txs.map txP) = bofV b ∧ BkOk w' k ∧ Below w.heap.size w w'

set_option maxHeartbeats 600000 in
set_option maxRecDepth 100000 in
theorem bof_any (w : World) (hTb : Tabs w) (Bx : Nat) (A : Option Addr) (b : List UInt8) (c : Nat) (hS : Sees w Bx A b) (hlen : b.length ≤ 1099511627776) :
    Calls Tryz.prog 6 #[.slice A b.length c] w (BOfPost w b) := by
  have HS0 := Lib.hid (show Sees (w.alloc (.cells Tryz.zeroCells32 32)) Bx A b from hS.alloc _)
  have HB0 : Hid (Blk (w.alloc (.cells Tryz.zeroCells32 32)) w.heap.size 32 Tryz.zeroCells32) := heap_alloc_new w _
  have Hb0 := Lib.hid (show Below w.heap.size w (w.alloc (.cells Tryz.zeroCells32 32)) from nxAl (nxRf w) _)
  have Hs0 : Hid (w.heap.size + 1 = (w.alloc (.cells Tryz.zeroCells32 32)).heap.size) := by show _ = _; simp
  have HTb := Lib.hid hTb
  have HL := Lib.hid hlen
  obtain ⟨p, hp⟩ : ∃ p, blobPiece (some b) = p := ⟨_, rfl⟩
  obtain ⟨s1, hs1⟩ : ∃ p, blobRest (some b) = p := ⟨_, rfl⟩
  have HPl : Hid (p.length ≤ 1099511627776) := by show _ ≤ _; rw [← hp]; exact Nat.le_trans (blobPiece_le _) hlen
  have HSl : Hid (lenS s1 ≤ 1099511627776) := by show _ ≤ _; rw [← hs1]; exact Nat.le_trans (blobRest_le _) hlen
  have HPe := Lib.hid hp
  have HSe := Lib.hid hs1
  obtain ⟨oh, hoh⟩ : ∃ z, ofHB p = z := ⟨_, rfl⟩
  have HOh := Lib.hid hoh
  have HBV : Hid (bofB b = (oh && (match rtS s1 with
      | (some l, r) => decide (r = some []) && (checkP (ofHV p) l == 0)
      | (none, _) => false))) := by show _ = _; rw [bofB, bofH, bofT, hp, hs1, hoh]
  have HVV : Hid (bofB b = true → ∀ l, (rtS s1).1 = some l → bofV b = (ofHV p, l)) := fun h l hl => by
    rw [bofV, h, cond_true, bofH, bofT, hp, hs1, hl]; rfl
  have HVN : Hid (bofB b = false → bofV b = (noHP, [])) := fun h => by rw [bofV, h]; rfl
  unfold BOfPost
  clear hS hlen hp hs1 hoh hTb
  obtain ⟨q1, hq1⟩ : ∃ q, (rtS s1).1 = q := ⟨_, rfl⟩
  have HQ := Lib.hid hq1
  obtain ⟨r, hr⟩ : ∃ q, (rtS s1).2 = q := ⟨_, rfl⟩
  have HRr := Lib.hid hr
  have HRs : Hid (rtS s1 = (q1, r)) := by show _ = _; rw [← hq1, ← hr]
  rw [HRs.out] at HBV
  clear hq1 hr
  cases q1 with
  | none =>
    have HOB : Hid (bofB b = false) := by show _ = _; rw [HBV.out]; cases oh <;> rfl
    cases oh
    all_goals
      (go_enter Tryz.func6, Tryz.ntmps6
       go_wp2_with (first
         | (go_at_call 15; refine (read_any (w.alloc (.cells Tryz.zeroCells32 32)) Bx A _ c b rfl HS0.out HL.out).mono ?_; rintro e w1 ⟨g, d, rfl, hg, hd, hr1, hb1⟩; have HG := Lib.hid hg; have HDx := Lib.hid hd; have R1 := Lib.hid hr1; have V1 := Lib.hid hb1; clear hg hd hr1 hb1)
         | (go_at_call 17; refine (rblob_s w1 g d (some b) R1.out HL.out).mono ?_; unfold PiecePost; rw [HPe.out, HSe.out]; rintro e w2 ⟨A2, c2, rfl, ho2, hr2, hk2⟩; have S2 := Lib.hid (Sees.own ho2); have R2 := Lib.hid hr2; have K2 : Hid (Keeps (· = g) w1 w2) := hk2; clear ho2 hr2 hk2)
         | (go_at_call 16; refine (ofh_anyK w2 w2.heap.size A2 p c2 S2.out HPl.out).mono ?_; unfold OfHPostK; rw [HOh.out]; rintro e w3 ⟨h, rfl, hp3, hk3, hb3, hkk3⟩; have P3 : Hid (h.p = ofHV p) := hp3; have F3 : Hid (HdFit h.p) := hk3.f; have HK3 := Lib.hid hkk3; have V3 : Hid (Below w2.heap.size w2 w3) := hb3; have HSZ := Lib.hid (hdSz (h := h) hk3.f); have HSZ' := Lib.hid (hdSz' (h := h) hk3.f); clear hp3 hk3 hb3 hkk3)
         | ((with_reducible show wpList _ _ _ (⟨none, .store 29 _ _, _, _, _, _⟩ :: _) _ _); show wpList _ _ _ _ _ (w3.alloc (.cells hdZ 29)); refine wpList_store_all rfl 29 (.tmp 5) (.tmp 16) rfl w3.heap.size 29 hdZ (hdC h).toArray rfl rfl (heap_alloc_new w3 _) (show (130 : Nat) = (hdC h).length from (hdC_len F3.out).symm) HSZ'.out (hdC_one h) ?_; intro w4 h5 h6 h7; have B4 := Lib.hid h5; have V4 : Hid (Below w3.heap.size w3 w4) := (nxAl (nxRf w3) _).trans (h6.below (nxAl (nxRf w3) _).size (fun k hk => by omega)); clear h5 h6 h7)
         | (go_at_call 18; refine (readTxs_no w4 g d s1 ((R2.out.below V3.out).below V4.out) HSl.out HQ.out).mono ?_; rintro e w5 ⟨rfl, hk5⟩; have K5 : Hid (Keeps (· = g) w4 w5) := hk5; clear hk5; have hof := of_f HG.out V1.out K2.out R1.out.lt V3.out B4.out V4.out K5.out HK3.out; have HGg := Lib.hid hof.gg; have Lg2 := Lib.hid hof.lg; have V05 := Lib.hid hof.v; have C5 := Lib.hid hof.c; have D5 := Lib.hid hof.d; have HK5 := Lib.hid hof.k; have Z24 := Lib.hid hof.z; clear hof)
         | ((with_reducible show wpList _ _ _ (⟨some 23, _, _, _, _, _⟩ :: _) _ _); refine wpList_load_mid rfl 29 (.tmp 5) rfl w3.heap.size 0 rfl (hdC h) _ (blkR D5.out) Tryz.underlying29 rfl HSZ.out ?_)
         | ((with_reducible show wpList _ _ _ (⟨some 25, _, _, _, _, _⟩ :: _) _ _); refine wpList_build2 rfl 32 (.tmp 23) (.tmp 24) rfl (.agg (hdC h).toArray) (.slice none 0 0) (.agg (bkC ⟨h, none, [], 0⟩).toArray) rfl rfl (fun wq => by have q := build_bk ⟨h, none, [], 0⟩ F3.out wq; exact q) ?_)
         | ((with_reducible show wpList _ _ _ (⟨none, .store 32 (.tmp 9) _, _, _, _, _⟩ :: _) _ _); show wpList _ _ _ _ _ (w5.alloc (.cells Tryz.zeroCells32 32)); refine wpList_store_all rfl 32 (.tmp 9) (.tmp 25) rfl w5.heap.size 32 Tryz.zeroCells32 (bkC ⟨h, none, [], 0⟩).toArray rfl rfl (heap_alloc_new w5 _) (show (131 : Nat) = (bkC ⟨h, none, [], 0⟩).length from (bkC_len F3.out).symm) (bkSz' (b := ⟨h, none, [], 0⟩) F3.out) (bkC_one ⟨h, none, [], 0⟩) ?_; intro w6 h5 h6 h7; have B6 := Lib.hid h5; have V6 : Hid (Below w5.heap.size w5 w6) := (nxAl (nxRf w5) _).trans (h6.below (nxAl (nxRf w5) _).size (fun k hk => by omega)); have C6 := Lib.hid (C5.out.below V6.out C5.out.lt); clear h5 h6 h7)
         | ((with_reducible show wpList _ _ _ (⟨none, .store 32 (.tmp 2) _, _, _, _, _⟩ :: _) _ _); refine wpList_store_all rfl 32 (.tmp 2) (.tmp 42) rfl w.heap.size 32 Tryz.zeroCells32 Tryz.zeroCells32 rfl rfl C6.out rfl bkZ_sz bkZ_one ?_; intro w8 h5 h6 h7; have B8 := Lib.hid h5; have K8 := Lib.hid h6; clear h5 h6 h7))
       refine bodyPost_ret (row_tmp Tryz.results6 _ _ w.heap.size 32 _ _ rfl B8.out Tryz.underlying32 rfl bkZ_sz _ rfl) rfl ⟨noBk, (by rw [HOB.out, ← bkZ_eq] <;> rfl), (by rw [HVN.out HOB.out]; rfl), noBk_ok w8, (nxTr V05.out V6.out).trans (K8.out.below (nxTr V05.out V6.out).size (fun j hj => by omega))⟩)
  | some LP =>
    cases oh with
    | false =>
      have HOB : Hid (bofB b = false) := by show _ = _; rw [HBV.out]; rfl
      go_enter Tryz.func6, Tryz.ntmps6
      go_wp2_with (first
        | (go_at_call 15; refine (read_any (w.alloc (.cells Tryz.zeroCells32 32)) Bx A _ c b rfl HS0.out HL.out).mono ?_; rintro e w1 ⟨g, d, rfl, hg, hd, hr1, hb1⟩; have HG := Lib.hid hg; have HDx := Lib.hid hd; have R1 := Lib.hid hr1; have V1 := Lib.hid hb1; clear hg hd hr1 hb1)
        | (go_at_call 17; refine (rblob_s w1 g d (some b) R1.out HL.out).mono ?_; unfold PiecePost; rw [HPe.out, HSe.out]; rintro e w2 ⟨A2, c2, rfl, ho2, hr2, hk2⟩; have S2 := Lib.hid (Sees.own ho2); have R2 := Lib.hid hr2; have K2 : Hid (Keeps (· = g) w1 w2) := hk2; clear ho2 hr2 hk2)
        | (go_at_call 16; refine (ofh_anyK w2 w2.heap.size A2 p c2 S2.out HPl.out).mono ?_; unfold OfHPostK; rw [HOh.out]; rintro e w3 ⟨h, rfl, hp3, hk3, hb3, hkk3⟩; have P3 : Hid (h.p = ofHV p) := hp3; have F3 : Hid (HdFit h.p) := hk3.f; have HK3 := Lib.hid hkk3; have V3 : Hid (Below w2.heap.size w2 w3) := hb3; have HSZ := Lib.hid (hdSz (h := h) hk3.f); have HSZ' := Lib.hid (hdSz' (h := h) hk3.f); clear hp3 hk3 hb3 hkk3)
        | ((with_reducible show wpList _ _ _ (⟨none, .store 29 _ _, _, _, _, _⟩ :: _) _ _); show wpList _ _ _ _ _ (w3.alloc (.cells hdZ 29)); refine wpList_store_all rfl 29 (.tmp 5) (.tmp 16) rfl w3.heap.size 29 hdZ (hdC h).toArray rfl rfl (heap_alloc_new w3 _) (show (130 : Nat) = (hdC h).length from (hdC_len F3.out).symm) HSZ'.out (hdC_one h) ?_; intro w4 h5 h6 h7; have B4 := Lib.hid h5; have V4 : Hid (Below w3.heap.size w3 w4) := (nxAl (nxRf w3) _).trans (h6.below (nxAl (nxRf w3) _).size (fun k hk => by omega)); clear h5 h6 h7)
        | (go_at_call 18; refine (readTxs_yes w4 g d s1 ((R2.out.below V3.out).below V4.out) HSl.out LP HQ.out).mono ?_; rintro e w5 ⟨B5, l5, c5, rfl, hl5, hr5⟩; have K5 : Hid (Keeps (· = g) w4 w5) := hr5.v; have R5 := Lib.hid hr5.rd; have T5 := Lib.hid hr5.k; have E5 := Lib.hid hl5; clear hr5 hl5; have hof := of_f HG.out V1.out K2.out R1.out.lt V3.out B4.out V4.out K5.out HK3.out; have HGg := Lib.hid hof.gg; have Lg2 := Lib.hid hof.lg; have V05 := Lib.hid hof.v; have C5 := Lib.hid hof.c; have D5 := Lib.hid hof.d; have HK5 := Lib.hid hof.k; have Z24 := Lib.hid hof.z; clear hof)
        | ((with_reducible show wpList _ _ _ (⟨some 23, _, _, _, _, _⟩ :: _) _ _); refine wpList_load_mid rfl 29 (.tmp 5) rfl w3.heap.size 0 rfl (hdC h) _ (blkR D5.out) Tryz.underlying29 rfl HSZ.out ?_)
        | ((with_reducible show wpList _ _ _ (⟨some 25, _, _, _, _, _⟩ :: _) _ _); refine wpList_build2 rfl 32 (.tmp 23) (.tmp 24) rfl (.agg (hdC h).toArray) (.slice B5 l5.length c5) (.agg (bkC ⟨h, B5, l5, c5⟩).toArray) rfl rfl (fun wq => by have q := build_bk ⟨h, B5, l5, c5⟩ F3.out wq; exact q) ?_)
        | ((with_reducible show wpList _ _ _ (⟨none, .store 32 (.tmp 9) _, _, _, _, _⟩ :: _) _ _); show wpList _ _ _ _ _ (w5.alloc (.cells Tryz.zeroCells32 32)); refine wpList_store_all rfl 32 (.tmp 9) (.tmp 25) rfl w5.heap.size 32 Tryz.zeroCells32 (bkC ⟨h, B5, l5, c5⟩).toArray rfl rfl (heap_alloc_new w5 _) (show (131 : Nat) = (bkC ⟨h, B5, l5, c5⟩).length from (bkC_len F3.out).symm) (bkSz' (b := ⟨h, B5, l5, c5⟩) F3.out) (bkC_one ⟨h, B5, l5, c5⟩) ?_; intro w6 h5 h6 h7; have B6 := Lib.hid h5; have V6 : Hid (Below w5.heap.size w5 w6) := (nxAl (nxRf w5) _).trans (h6.below (nxAl (nxRf w5) _).size (fun k hk => by omega)); have C6 := Lib.hid (C5.out.below V6.out C5.out.lt); clear h5 h6 h7)
        | ((with_reducible show wpList _ _ _ (⟨none, .store 32 (.tmp 2) _, _, _, _, _⟩ :: _) _ _); refine wpList_store_all rfl 32 (.tmp 2) (.tmp 42) rfl w.heap.size 32 Tryz.zeroCells32 Tryz.zeroCells32 rfl rfl C6.out rfl bkZ_sz bkZ_one ?_; intro w8 h5 h6 h7; have B8 := Lib.hid h5; have K8 := Lib.hid h6; clear h5 h6 h7))
      refine bodyPost_ret (row_tmp Tryz.results6 _ _ w.heap.size 32 _ _ rfl B8.out Tryz.underlying32 rfl bkZ_sz _ rfl) rfl ⟨noBk, (by rw [HOB.out, ← bkZ_eq] <;> rfl), (by rw [HVN.out HOB.out]; rfl), noBk_ok w8, (nxTr V05.out V6.out).trans (K8.out.below (nxTr V05.out V6.out).size (fun j hj => by omega))⟩
    | true =>
      have HBW : Hid (bofB b = (decide (r = some []) && (checkP (ofHV p) LP == 0))) := by show _ = _; rw [HBV.out, Bool.true_and]
      by_cases hs : r = some []
      rotate_left 1
      · have HRe : Hid (rend r = 4) := if_neg hs
        have HOB : Hid (bofB b = false) := by show _ = _; rw [HBW.out, decide_eq_false hs, Bool.false_and]
        go_enter Tryz.func6, Tryz.ntmps6
        go_wp2_with (first
          | (go_at_call 15; refine (read_any (w.alloc (.cells Tryz.zeroCells32 32)) Bx A _ c b rfl HS0.out HL.out).mono ?_; rintro e w1 ⟨g, d, rfl, hg, hd, hr1, hb1⟩; have HG := Lib.hid hg; have HDx := Lib.hid hd; have R1 := Lib.hid hr1; have V1 := Lib.hid hb1; clear hg hd hr1 hb1)
          | (go_at_call 17; refine (rblob_s w1 g d (some b) R1.out HL.out).mono ?_; unfold PiecePost; rw [HPe.out, HSe.out]; rintro e w2 ⟨A2, c2, rfl, ho2, hr2, hk2⟩; have S2 := Lib.hid (Sees.own ho2); have R2 := Lib.hid hr2; have K2 : Hid (Keeps (· = g) w1 w2) := hk2; clear ho2 hr2 hk2)
          | (go_at_call 16; refine (ofh_anyK w2 w2.heap.size A2 p c2 S2.out HPl.out).mono ?_; unfold OfHPostK; rw [HOh.out]; rintro e w3 ⟨h, rfl, hp3, hk3, hb3, hkk3⟩; have P3 : Hid (h.p = ofHV p) := hp3; have F3 : Hid (HdFit h.p) := hk3.f; have HK3 := Lib.hid hkk3; have V3 : Hid (Below w2.heap.size w2 w3) := hb3; have HSZ := Lib.hid (hdSz (h := h) hk3.f); have HSZ' := Lib.hid (hdSz' (h := h) hk3.f); clear hp3 hk3 hb3 hkk3)
          | ((with_reducible show wpList _ _ _ (⟨none, .store 29 _ _, _, _, _, _⟩ :: _) _ _); show wpList _ _ _ _ _ (w3.alloc (.cells hdZ 29)); refine wpList_store_all rfl 29 (.tmp 5) (.tmp 16) rfl w3.heap.size 29 hdZ (hdC h).toArray rfl rfl (heap_alloc_new w3 _) (show (130 : Nat) = (hdC h).length from (hdC_len F3.out).symm) HSZ'.out (hdC_one h) ?_; intro w4 h5 h6 h7; have B4 := Lib.hid h5; have V4 : Hid (Below w3.heap.size w3 w4) := (nxAl (nxRf w3) _).trans (h6.below (nxAl (nxRf w3) _).size (fun k hk => by omega)); clear h5 h6 h7)
          | (go_at_call 18; refine (readTxs_yes w4 g d s1 ((R2.out.below V3.out).below V4.out) HSl.out LP HQ.out).mono ?_; rintro e w5 ⟨B5, l5, c5, rfl, hl5, hr5⟩; have K5 : Hid (Keeps (· = g) w4 w5) := hr5.v; have R5 := Lib.hid hr5.rd; have T5 := Lib.hid hr5.k; have E5 := Lib.hid hl5; clear hr5 hl5; have hof := of_f HG.out V1.out K2.out R1.out.lt V3.out B4.out V4.out K5.out HK3.out; have HGg := Lib.hid hof.gg; have Lg2 := Lib.hid hof.lg; have V05 := Lib.hid hof.v; have C5 := Lib.hid hof.c; have D5 := Lib.hid hof.d; have HK5 := Lib.hid hof.k; have Z24 := Lib.hid hof.z; clear hof)
          | ((with_reducible show wpList _ _ _ (⟨some 23, _, _, _, _, _⟩ :: _) _ _); refine wpList_load_mid rfl 29 (.tmp 5) rfl w3.heap.size 0 rfl (hdC h) _ (blkR D5.out) Tryz.underlying29 rfl HSZ.out ?_)
          | ((with_reducible show wpList _ _ _ (⟨some 25, _, _, _, _, _⟩ :: _) _ _); refine wpList_build2 rfl 32 (.tmp 23) (.tmp 24) rfl (.agg (hdC h).toArray) (.slice B5 l5.length c5) (.agg (bkC ⟨h, B5, l5, c5⟩).toArray) rfl rfl (fun wq => by have q := build_bk ⟨h, B5, l5, c5⟩ F3.out wq; exact q) ?_)
          | ((with_reducible show wpList _ _ _ (⟨none, .store 32 (.tmp 9) _, _, _, _, _⟩ :: _) _ _); show wpList _ _ _ _ _ (w5.alloc (.cells Tryz.zeroCells32 32)); refine wpList_store_all rfl 32 (.tmp 9) (.tmp 25) rfl w5.heap.size 32 Tryz.zeroCells32 (bkC ⟨h, B5, l5, c5⟩).toArray rfl rfl (heap_alloc_new w5 _) (show (131 : Nat) = (bkC ⟨h, B5, l5, c5⟩).length from (bkC_len F3.out).symm) (bkSz' (b := ⟨h, B5, l5, c5⟩) F3.out) (bkC_one ⟨h, B5, l5, c5⟩) ?_; intro w6 h5 h6 h7; have B6 := Lib.hid h5; have V6 : Hid (Below w5.heap.size w5 w6) := (nxAl (nxRf w5) _).trans (h6.below (nxAl (nxRf w5) _).size (fun k hk => by omega)); have C6 := Lib.hid (C5.out.below V6.out C5.out.lt); clear h5 h6 h7)
          | (go_at_call 19; refine (rend_s w6 g d r (by have q := R5.out.below V6.out; rw [HRr.out] at q; exact q)).mono ?_; rw [HRe.out]; rintro e w6' ⟨rfl, rfl⟩)
          | ((with_reducible show wpList _ _ _ (⟨none, .store 32 (.tmp 2) _, _, _, _, _⟩ :: _) _ _); refine wpList_store_all rfl 32 (.tmp 2) (.tmp 42) rfl w.heap.size 32 Tryz.zeroCells32 Tryz.zeroCells32 rfl rfl C6.out rfl bkZ_sz bkZ_one ?_; intro w8 h5 h6 h7; have B8 := Lib.hid h5; have K8 := Lib.hid h6; clear h5 h6 h7))
        refine bodyPost_ret (row_tmp Tryz.results6 _ _ w.heap.size 32 _ _ rfl B8.out Tryz.underlying32 rfl bkZ_sz _ rfl) rfl ⟨noBk, (by rw [HOB.out, ← bkZ_eq] <;> rfl), (by rw [HVN.out HOB.out]; rfl), noBk_ok w8, (nxTr V05.out V6.out).trans (K8.out.below (nxTr V05.out V6.out).size (fun j hj => by omega))⟩
      subst hs
      have HRe : Hid (rend (some []) = 0) := rfl
      obtain ⟨E, hE⟩ : ∃ E, checkP (ofHV p) LP = E := ⟨_, rfl⟩
      have HEp := Lib.hid hE
      clear hE
      by_cases hz : E = 0
      · subst hz
        have HOB : Hid (bofB b = true) := by show _ = _; rw [HBW.out, HEp.out]; rfl
        go_enter Tryz.func6, Tryz.ntmps6
        go_wp2_with (first
          | (go_at_call 15; refine (read_any (w.alloc (.cells Tryz.zeroCells32 32)) Bx A _ c b rfl HS0.out HL.out).mono ?_; rintro e w1 ⟨g, d, rfl, hg, hd, hr1, hb1⟩; have HG := Lib.hid hg; have HDx := Lib.hid hd; have R1 := Lib.hid hr1; have V1 := Lib.hid hb1; clear hg hd hr1 hb1)
          | (go_at_call 17; refine (rblob_s w1 g d (some b) R1.out HL.out).mono ?_; unfold PiecePost; rw [HPe.out, HSe.out]; rintro e w2 ⟨A2, c2, rfl, ho2, hr2, hk2⟩; have S2 := Lib.hid (Sees.own ho2); have R2 := Lib.hid hr2; have K2 : Hid (Keeps (· = g) w1 w2) := hk2; clear ho2 hr2 hk2)
          | (go_at_call 16; refine (ofh_anyK w2 w2.heap.size A2 p c2 S2.out HPl.out).mono ?_; unfold OfHPostK; rw [HOh.out]; rintro e w3 ⟨h, rfl, hp3, hk3, hb3, hkk3⟩; have P3 : Hid (h.p = ofHV p) := hp3; have F3 : Hid (HdFit h.p) := hk3.f; have HK3 := Lib.hid hkk3; have V3 : Hid (Below w2.heap.size w2 w3) := hb3; have HSZ := Lib.hid (hdSz (h := h) hk3.f); have HSZ' := Lib.hid (hdSz' (h := h) hk3.f); clear hp3 hk3 hb3 hkk3)
          | ((with_reducible show wpList _ _ _ (⟨none, .store 29 _ _, _, _, _, _⟩ :: _) _ _); show wpList _ _ _ _ _ (w3.alloc (.cells hdZ 29)); refine wpList_store_all rfl 29 (.tmp 5) (.tmp 16) rfl w3.heap.size 29 hdZ (hdC h).toArray rfl rfl (heap_alloc_new w3 _) (show (130 : Nat) = (hdC h).length from (hdC_len F3.out).symm) HSZ'.out (hdC_one h) ?_; intro w4 h5 h6 h7; have B4 := Lib.hid h5; have V4 : Hid (Below w3.heap.size w3 w4) := (nxAl (nxRf w3) _).trans (h6.below (nxAl (nxRf w3) _).size (fun k hk => by omega)); clear h5 h6 h7)
          | (go_at_call 18; refine (readTxs_yes w4 g d s1 ((R2.out.below V3.out).below V4.out) HSl.out LP HQ.out).mono ?_; rintro e w5 ⟨B5, l5, c5, rfl, hl5, hr5⟩; have K5 : Hid (Keeps (· = g) w4 w5) := hr5.v; have R5 := Lib.hid hr5.rd; have T5 := Lib.hid hr5.k; have E5 := Lib.hid hl5; clear hr5 hl5; have hof := of_f HG.out V1.out K2.out R1.out.lt V3.out B4.out V4.out K5.out HK3.out; have HGg := Lib.hid hof.gg; have Lg2 := Lib.hid hof.lg; have V05 := Lib.hid hof.v; have C5 := Lib.hid hof.c; have D5 := Lib.hid hof.d; have HK5 := Lib.hid hof.k; have Z24 := Lib.hid hof.z; clear hof; obtain ⟨kb, hkb⟩ : ∃ kb : BkR, (⟨h, B5, l5, c5⟩ : BkR) = kb := ⟨_, rfl⟩; have HKb := Lib.hid hkb; have HFk : Hid (HdFit kb.h.p) := (by show HdFit _; rw [← hkb]; exact F3.out); have HE : Hid (checkK kb = 0) := (by show _ = _; rw [← hkb, ← checkK_up, ← HEp.out, ← E5.out]; show checkP h.p _ = _; rw [P3.out]); have KK6 : Hid (∀ W, Keeps (fun j => j < w2.heap.size) w5 W → BkOk W kb) := (fun W hW => by rw [← hkb]; exact ⟨HK5.out W hW, T5.out W (hW.mono (fun j _ h => by have h1 : j < w2.heap.size := h; have := Z24.out; omega))⟩); clear hkb)
          | ((with_reducible show wpList _ _ _ (⟨some 23, _, _, _, _, _⟩ :: _) _ _); refine wpList_load_mid rfl 29 (.tmp 5) rfl w3.heap.size 0 rfl (hdC h) _ (blkR D5.out) Tryz.underlying29 rfl HSZ.out ?_)
          | ((with_reducible show wpList _ _ _ (⟨some 25, _, _, _, _, _⟩ :: _) _ _); refine wpList_build2 rfl 32 (.tmp 23) (.tmp 24) rfl (.agg (hdC h).toArray) (.slice B5 l5.length c5) (.agg (bkC kb).toArray) rfl rfl (fun wq => by rw [← HKb.out]; exact build_bk ⟨h, B5, l5, c5⟩ F3.out wq) ?_)
          | ((with_reducible show wpList _ _ _ (⟨none, .store 32 (.tmp 9) _, _, _, _, _⟩ :: _) _ _); show wpList _ _ _ _ _ (w5.alloc (.cells Tryz.zeroCells32 32)); refine wpList_store_all rfl 32 (.tmp 9) (.tmp 25) rfl w5.heap.size 32 Tryz.zeroCells32 (bkC kb).toArray rfl rfl (heap_alloc_new w5 _) (show (131 : Nat) = (bkC kb).length from (bkC_len HFk.out).symm) (bkSz' (b := kb) HFk.out) (bkC_one kb) ?_; intro w6 h5 h6 h7; have B6 := Lib.hid h5; have V6 : Hid (Below w5.heap.size w5 w6) := (nxAl (nxRf w5) _).trans (h6.below (nxAl (nxRf w5) _).size (fun k hk => by omega)); have C6 := Lib.hid (C5.out.below V6.out C5.out.lt); have KB6 := Lib.hid (KK6.out w6 (Keeps.of_below V6.out _)); clear h5 h6 h7)
          | (go_at_call 19; refine (rend_s w6 g d (some []) (by have q := R5.out.below V6.out; rw [HRr.out] at q; exact q)).mono ?_; rw [HRe.out]; rintro e w6' ⟨rfl, rfl⟩)
          | ((with_reducible show wpList _ _ _ (⟨some 38, _, _, _, _, _⟩ :: _) _ _); refine wpList_load_midg (by rfl) 32 (.tmp 9) rfl w5.heap.size 0 rfl (bkC kb) _ (blkR B6.out) Tryz.underlying32 rfl (bkSz (b := kb) HFk.out) ?_)
          | (go_at_call 20; refine (bcheck_any w6 (HTb.out.later (nxTr V05.out V6.out)) kb KB6.out).mono ?_; rw [HE.out]; rintro e w7 ⟨rfl, hb7⟩; have V7 : Hid (Below w6.heap.size w6 w7) := hb7; have C7 := Lib.hid (C6.out.below hb7 C6.out.lt); have B7 := Lib.hid (B6.out.below hb7 B6.out.lt); clear hb7)
          | ((with_reducible show wpList _ _ _ (⟨some 43, _, _, _, _, _⟩ :: _) _ _); refine wpList_load_mid rfl 32 (.tmp 9) rfl w5.heap.size 0 rfl (bkC kb) _ (blkR B7.out) Tryz.underlying32 rfl (bkSz (b := kb) HFk.out) ?_)
          | ((with_reducible show wpList _ _ _ (⟨none, .store 32 (.tmp 2) _, _, _, _, _⟩ :: _) _ _); refine wpList_store_all rfl 32 (.tmp 2) (.tmp 43) rfl w.heap.size 32 Tryz.zeroCells32 (bkC kb).toArray rfl rfl C7.out (show (131 : Nat) = (bkC kb).length from (bkC_len HFk.out).symm) (bkSz' (b := kb) HFk.out) (bkC_one kb) ?_; intro w8 h5 h6 h7; have B8 := Lib.hid h5; have K8 := Lib.hid h6; clear h5 h6 h7))
        refine bodyPost_ret (row_tmp Tryz.results6 _ _ w.heap.size 32 _ _ rfl B8.out Tryz.underlying32 rfl (bkSz' (b := kb) HFk.out) _ rfl) rfl ⟨kb, (by rw [HOB.out] <;> rfl), ?_, ?_, ?_⟩
        · rw [HVV.out HOB.out LP HQ.out, ← HKb.out, ← E5.out, ← P3.out]
        · exact KK6.out w8 (((Keeps.of_below V6.out _).trans (Keeps.of_below V7.out _)).trans (K8.out.mono (fun j _ h => by have := Lg2.out; have := HGg.out; omega)))
        · exact (nxTr (nxTr V05.out V6.out) V7.out).trans (K8.out.below (nxTr (nxTr V05.out V6.out) V7.out).size (fun j hj => by omega))
      · have HOB : Hid (bofB b = false) := by show _ = _; rw [HBW.out, HEp.out, beq_eq_false_iff_ne.2 hz, Bool.and_false]
        have hq : (E == 0) = false := beq_eq_false_iff_ne.2 hz
        have hq2 : (E != 0) = true := by rw [bne, hq]; rfl
        clear hz
        go_enter Tryz.func6, Tryz.ntmps6
        go_wp2_with (first
          | (go_at_call 15; refine (read_any (w.alloc (.cells Tryz.zeroCells32 32)) Bx A _ c b rfl HS0.out HL.out).mono ?_; rintro e w1 ⟨g, d, rfl, hg, hd, hr1, hb1⟩; have HG := Lib.hid hg; have HDx := Lib.hid hd; have R1 := Lib.hid hr1; have V1 := Lib.hid hb1; clear hg hd hr1 hb1)
          | (go_at_call 17; refine (rblob_s w1 g d (some b) R1.out HL.out).mono ?_; unfold PiecePost; rw [HPe.out, HSe.out]; rintro e w2 ⟨A2, c2, rfl, ho2, hr2, hk2⟩; have S2 := Lib.hid (Sees.own ho2); have R2 := Lib.hid hr2; have K2 : Hid (Keeps (· = g) w1 w2) := hk2; clear ho2 hr2 hk2)
          | (go_at_call 16; refine (ofh_anyK w2 w2.heap.size A2 p c2 S2.out HPl.out).mono ?_; unfold OfHPostK; rw [HOh.out]; rintro e w3 ⟨h, rfl, hp3, hk3, hb3, hkk3⟩; have P3 : Hid (h.p = ofHV p) := hp3; have F3 : Hid (HdFit h.p) := hk3.f; have HK3 := Lib.hid hkk3; have V3 : Hid (Below w2.heap.size w2 w3) := hb3; have HSZ := Lib.hid (hdSz (h := h) hk3.f); have HSZ' := Lib.hid (hdSz' (h := h) hk3.f); clear hp3 hk3 hb3 hkk3)
          | ((with_reducible show wpList _ _ _ (⟨none, .store 29 _ _, _, _, _, _⟩ :: _) _ _); show wpList _ _ _ _ _ (w3.alloc (.cells hdZ 29)); refine wpList_store_all rfl 29 (.tmp 5) (.tmp 16) rfl w3.heap.size 29 hdZ (hdC h).toArray rfl rfl (heap_alloc_new w3 _) (show (130 : Nat) = (hdC h).length from (hdC_len F3.out).symm) HSZ'.out (hdC_one h) ?_; intro w4 h5 h6 h7; have B4 := Lib.hid h5; have V4 : Hid (Below w3.heap.size w3 w4) := (nxAl (nxRf w3) _).trans (h6.below (nxAl (nxRf w3) _).size (fun k hk => by omega)); clear h5 h6 h7)
          | (go_at_call 18; refine (readTxs_yes w4 g d s1 ((R2.out.below V3.out).below V4.out) HSl.out LP HQ.out).mono ?_; rintro e w5 ⟨B5, l5, c5, rfl, hl5, hr5⟩; have K5 : Hid (Keeps (· = g) w4 w5) := hr5.v; have R5 := Lib.hid hr5.rd; have T5 := Lib.hid hr5.k; have E5 := Lib.hid hl5; clear hr5 hl5; have hof := of_f HG.out V1.out K2.out R1.out.lt V3.out B4.out V4.out K5.out HK3.out; have HGg := Lib.hid hof.gg; have Lg2 := Lib.hid hof.lg; have V05 := Lib.hid hof.v; have C5 := Lib.hid hof.c; have D5 := Lib.hid hof.d; have HK5 := Lib.hid hof.k; have Z24 := Lib.hid hof.z; clear hof; obtain ⟨kb, hkb⟩ : ∃ kb : BkR, (⟨h, B5, l5, c5⟩ : BkR) = kb := ⟨_, rfl⟩; have HKb := Lib.hid hkb; have HFk : Hid (HdFit kb.h.p) := (by show HdFit _; rw [← hkb]; exact F3.out); have HE : Hid (checkK kb = E) := (by show _ = _; rw [← hkb, ← checkK_up, ← HEp.out, ← E5.out]; show checkP h.p _ = _; rw [P3.out]); have KK6 : Hid (∀ W, Keeps (fun j => j < w2.heap.size) w5 W → BkOk W kb) := (fun W hW => by rw [← hkb]; exact ⟨HK5.out W hW, T5.out W (hW.mono (fun j _ h => by have h1 : j < w2.heap.size := h; have := Z24.out; omega))⟩); clear hkb)
          | ((with_reducible show wpList _ _ _ (⟨some 23, _, _, _, _, _⟩ :: _) _ _); refine wpList_load_mid rfl 29 (.tmp 5) rfl w3.heap.size 0 rfl (hdC h) _ (blkR D5.out) Tryz.underlying29 rfl HSZ.out ?_)
          | ((with_reducible show wpList _ _ _ (⟨some 25, _, _, _, _, _⟩ :: _) _ _); refine wpList_build2 rfl 32 (.tmp 23) (.tmp 24) rfl (.agg (hdC h).toArray) (.slice B5 l5.length c5) (.agg (bkC kb).toArray) rfl rfl (fun wq => by rw [← HKb.out]; exact build_bk ⟨h, B5, l5, c5⟩ F3.out wq) ?_)
          | ((with_reducible show wpList _ _ _ (⟨none, .store 32 (.tmp 9) _, _, _, _, _⟩ :: _) _ _); show wpList _ _ _ _ _ (w5.alloc (.cells Tryz.zeroCells32 32)); refine wpList_store_all rfl 32 (.tmp 9) (.tmp 25) rfl w5.heap.size 32 Tryz.zeroCells32 (bkC kb).toArray rfl rfl (heap_alloc_new w5 _) (show (131 : Nat) = (bkC kb).length from (bkC_len HFk.out).symm) (bkSz' (b := kb) HFk.out) (bkC_one kb) ?_; intro w6 h5 h6 h7; have B6 := Lib.hid h5; have V6 : Hid (Below w5.heap.size w5 w6) := (nxAl (nxRf w5) _).trans (h6.below (nxAl (nxRf w5) _).size (fun k hk => by omega)); have C6 := Lib.hid (C5.out.below V6.out C5.out.lt); have KB6 := Lib.hid (KK6.out w6 (Keeps.of_below V6.out _)); clear h5 h6 h7)
          | (go_at_call 19; refine (rend_s w6 g d (some []) (by have q := R5.out.below V6.out; rw [HRr.out] at q; exact q)).mono ?_; rw [HRe.out]; rintro e w6' ⟨rfl, rfl⟩)
          | ((with_reducible show wpList _ _ _ (⟨some 38, _, _, _, _, _⟩ :: _) _ _); refine wpList_load_midg (by rfl) 32 (.tmp 9) rfl w5.heap.size 0 rfl (bkC kb) _ (blkR B6.out) Tryz.underlying32 rfl (bkSz (b := kb) HFk.out) ?_)
          | (go_at_call 20; refine (bcheck_any w6 (HTb.out.later (nxTr V05.out V6.out)) kb KB6.out).mono ?_; rw [HE.out]; rintro e w7 ⟨rfl, hb7⟩; have V7 : Hid (Below w6.heap.size w6 w7) := hb7; have C7 := Lib.hid (C6.out.below hb7 C6.out.lt); have B7 := Lib.hid (B6.out.below hb7 B6.out.lt); clear hb7)
          | ((with_reducible show wpList _ _ _ (⟨none, .store 32 (.tmp 2) _, _, _, _, _⟩ :: _) _ _); refine wpList_store_all rfl 32 (.tmp 2) (.tmp 42) rfl w.heap.size 32 Tryz.zeroCells32 Tryz.zeroCells32 rfl rfl C7.out rfl bkZ_sz bkZ_one ?_; intro w8 h5 h6 h7; have B8 := Lib.hid h5; have K8 := Lib.hid h6; clear h5 h6 h7))
        refine bodyPost_ret (row_tmp Tryz.results6 _ _ w.heap.size 32 _ _ rfl B8.out Tryz.underlying32 rfl bkZ_sz _ rfl) rfl ⟨noBk, (by rw [HOB.out, ← bkZ_eq] <;> rfl), (by rw [HVN.out HOB.out]; rfl), noBk_ok w8, (nxTr (nxTr V05.out V6.out) V7.out).trans (K8.out.below (nxTr (nxTr V05.out V6.out) V7.out).size (fun j hj => by omega))⟩
end Go.Proofs.YtbloomnifhcgbaaGreatDoor

namespace Go.Proofs.YtbloomnifhcgbaaGreatDoor
open Go.RowKit

theorem bkZ_row : (Tryz.zeroCells32 : Array Value).size = 131 := by rw [bkZ_eq, List.size_toArray, bkC_len noHP_fit]
theorem build_bk1 (h : HdR) (f : HdFit h.p) (wq : World) : (Instr.build 32 #[(0, .agg (hdC h).toArray)]).run Tryz.prog wq = .ok (.agg (bkC ⟨h, none, [], 0⟩).toArray) wq := by
  obtain ⟨i0, hi, hz, _, _⟩ := infoP Tryz.bkinfo
  refine run_build wq _ _ _ ?_
  rw [built_struct hi hz Tryz.underlying32 (places := [(0, 130), (130, 1)]) (by kernel_rfl)]
  have hl : (hdC h).length = 130 := hdC_len f
  have h1 := fill_step ([(0, 130), (130, 1)].toArray[·]?) (bkC noBk) 0 0 (hdC h) (by rw [hl]; rfl) (by rw [hl, bkC_len noHP_fit]; omega) []
  have h2 := put_part [] (hdC noHd) (hdC h) [.slice none 0 0] (by rw [hl, hdC_len noHP_fit]) 0 rfl
  have e : bkC noBk = [] ++ (hdC noHd ++ [.slice none 0 0]) := rfl
  rw [e] at h1
  rw [h2] at h1
  refine Eq.trans h1 ?_
  rfl
theorem put_txs {h : HdR} {B C : Option Addr} {l m : List TxR} {c d : Nat} (f : HdFit h.p) : (((bkC ⟨h, B, l, c⟩).toArray.toList.take 130 ++ #[Value.slice C m.length d].toList ++ (bkC ⟨h, B, l, c⟩).toArray.toList.drop (130 + #[Value.slice C m.length d].size)).toArray) = (bkC ⟨h, C, m, d⟩).toArray := by
  have h2 := put_part (hdC h) [.slice B l.length c] [.slice C m.length d] [] rfl 130 (hdC_len f).symm
  exact congrArg List.toArray h2
theorem checkP_few {p : HdP} {l : List TxP} (h : checkP p l = 0) : l.length ≤ 200 := by
  have h1 := (checkK_ok h).n
  rw [List.length_map] at h1
  exact h1
/-- What the document's Of answers. -/
def RBOfPost (w : World) (b : List UInt8) (e : Ending) (w' : World) : Prop :=
  ∃ k : BkR, e = .returned (.tuple #[.agg (bkC k).toArray, .bool (bofB b)]) ∧ (k.h.p, k.txs.map txP) = bofV b ∧ BkOk w' k ∧ Below w.heap.size w w'

set_option maxHeartbeats 1000000 in
set_option maxRecDepth 100000 in
theorem rbof_any (w : World) (A : Option Addr) (b : List UInt8) (c : Nat) (hS : Sees w w.heap.size A b) (hbc : b.length ≤ c) (hcm : c ≤ maxLen) (hlen : b.length ≤ 1099511627776) :
    Calls Tryz.prog 7 #[.slice A b.length c] w (RBOfPost w b) := by
  have hz1 : (w.alloc (.cells Tryz.zeroCells32 32)).heap.size = w.heap.size + 1 := by simp
  have HBz0 : Hid (Blk ((w.alloc (.cells Tryz.zeroCells32 32)).alloc (.cells #[.slice A b.length c, .bool false] 59)) w.heap.size 32 Tryz.zeroCells32) := (blk_new rfl : Blk (w.alloc (.cells Tryz.zeroCells32 32)) w.heap.size 32 Tryz.zeroCells32).alloc _
  have hR0 : Rf ((w.alloc (.cells Tryz.zeroCells32 32)).alloc (.cells #[.slice A b.length c, .bool false] 59)) (w.alloc (.cells Tryz.zeroCells32 32)).heap.size (tdOf b A) (some b) := Rf.made hS hbc hcm (nxAl (nxRf w) _)
  rw [hz1] at hR0
  have Hb0 : Hid (Below w.heap.size w ((w.alloc (.cells Tryz.zeroCells32 32)).alloc (.cells #[.slice A b.length c, .bool false] 59))) := nxAl (nxAl (nxRf w) _) _
  have Hs2 : Hid (w.heap.size + 2 = ((w.alloc (.cells Tryz.zeroCells32 32)).alloc (.cells #[.slice A b.length c, .bool false] 59)).heap.size) := by show _ = _; simp
  have HDd : Hid (∀ j, tdOf b A = some j → j < w.heap.size) := tdOf_lt hS
  obtain ⟨d, hd⟩ : ∃ d, tdOf b A = d := ⟨_, rfl⟩
  obtain ⟨g, hg⟩ : ∃ g, w.heap.size + 1 = g := ⟨_, rfl⟩
  rw [hd] at HDd hR0
  rw [hg] at hR0
  have HGg : Hid (g = w.heap.size + 1) := hg.symm
  have HGe : Hid (w.heap.size + 1 = g) := hg
  have HR0 := Lib.hid hR0
  obtain ⟨p, hp⟩ : ∃ p, blobPiece (some b) = p := ⟨_, rfl⟩
  obtain ⟨s1, hs1⟩ : ∃ p, blobRest (some b) = p := ⟨_, rfl⟩
  obtain ⟨c1, hc1⟩ : ∃ n, ofLe (cutPiece s1 2 true) = n := ⟨_, rfl⟩
  obtain ⟨s2, hs2⟩ : ∃ s, cutRest s1 2 true = s := ⟨_, rfl⟩
  obtain ⟨n1, hn1⟩ : ∃ n, rtN s1 = n := ⟨_, rfl⟩
  have hm1 : n1 = min c1 201 := by rw [← hn1, rtN, hc1]
  have hc16 : c1 < 65536 := by rw [← hc1]; exact ofLe_lt2 _
  have hwc1 : IntKind.i64.wrap (c1 : Int) = (c1 : Int) := by rw [IntKind.wrap_i64]; omega
  have HPl : Hid (p.length ≤ 1099511627776) := by show _ ≤ _; rw [← hp]; exact Nat.le_trans (blobPiece_le _) hlen
  have HSl : Hid (lenS s2 ≤ 1099511627776) := by show _ ≤ _; rw [← hs2, ← hs1]; exact Nat.le_trans (lenS_cutRest _ _ _) (Nat.le_trans (blobRest_le _) hlen)
  have HPe := Lib.hid hp
  have HSe := Lib.hid hs1
  have HC1 := Lib.hid hc1
  have HS2 := Lib.hid hs2
  have HRt : Hid (rtS s1 = readTs n1 s2) := by show _ = _; rw [rtS, hn1, hs2]
  obtain ⟨oh, hoh⟩ : ∃ z, ofHB p = z := ⟨_, rfl⟩
  have HOh := Lib.hid hoh
  have HBV : Hid (bofB b = (oh && (match readTs n1 s2 with
      | (some l, r) => decide (r = some []) && (checkP (ofHV p) l == 0)
      | (none, _) => false))) := by show _ = _; rw [bofB, bofH, bofT, hp, hs1, HRt.out, hoh] <;> rfl
  have HVV : Hid (bofB b = true → ∀ l, (readTs n1 s2).1 = some l → bofV b = (ofHV p, l)) := fun h l hl => by
    rw [bofV, h, cond_true, bofH, bofT, hp, hs1, HRt.out, hl]; rfl
  have HVN : Hid (bofB b = false → bofV b = (noHP, [])) := fun h => by rw [bofV, h]; rfl
  have HM2 : Hid (may 2 = true) := rfl
  unfold RBOfPost
  clear hS hbc hcm hlen hz1 hR0 hd hg hp hs1 hc1 hs2 hn1 hoh HRt
  go_enter Tryz.func7, Tryz.ntmps7
  go_wp2_with (first
    | (go_at_call 22; rw [HGe.out]; refine (rfblob_s ((w.alloc (.cells Tryz.zeroCells32 32)).alloc (.cells #[.slice A b.length c, .bool false] 59)) g d (some b) HR0.out).mono ?_; unfold RfCut; rw [HPe.out, HSe.out]; rintro e w2 ⟨A2, c2, rfl, hs, ha, hr, hk, hz, hc, hm⟩; have S2 := Lib.hid hs; have R2 := Lib.hid hr; have K2 : Hid (Keeps (· = g) ((w.alloc (.cells Tryz.zeroCells32 32)).alloc (.cells #[.slice A b.length c, .bool false] 59)) w2) := hk; have HC2 := Lib.hid hc; have HM2c := Lib.hid hm; clear hs ha hr hk hz hc hm)
    | (go_at_call 21; refine (rofh_anyK w2 A2 p c2 S2.out HC2.out HM2c.out HPl.out).mono ?_; unfold ROfHPostK; rw [HOh.out]; rintro e w3 ⟨h, rfl, hp3, hk3, hb3, hkk3⟩; have P3 : Hid (h.p = ofHV p) := hp3; have F3 : Hid (HdFit h.p) := hk3.f; have HK3 := Lib.hid hkk3; have V3 : Hid (Below w2.heap.size w2 w3) := hb3; have HSZ := Lib.hid (hdSz (h := h) hk3.f); have HSZ' := Lib.hid (hdSz' (h := h) hk3.f); clear hp3 hk3 hb3 hkk3)
    | ((with_reducible show wpList _ _ _ (⟨none, .store 29 _ _, _, _, _, _⟩ :: _) _ _); show wpList _ _ _ _ _ (w3.alloc (.cells hdZ 29)); refine wpList_store_all rfl 29 (.tmp 5) (.tmp 19) rfl w3.heap.size 29 hdZ (hdC h).toArray rfl rfl (heap_alloc_new w3 _) (show (130 : Nat) = (hdC h).length from (hdC_len F3.out).symm) HSZ'.out (hdC_one h) ?_; intro w4 h5 h6 h7; have B4 := Lib.hid h5; have V4 : Hid (Below w3.heap.size w3 w4) := (nxAl (nxRf w3) _).trans (h6.below (nxAl (nxRf w3) _).size (fun k hk => by omega)); clear h5 h6 h7)
    | ((with_reducible show wpList _ _ _ (⟨some 21, _, _, _, _, _⟩ :: _) _ _); refine wpList_load_mid rfl 29 (.tmp 5) rfl w3.heap.size 0 rfl (hdC h) _ (blkR B4.out) Tryz.underlying29 rfl HSZ.out ?_)
    | ((with_reducible show wpList _ _ _ (⟨some 22, _, _, _, _, _⟩ :: _) _ _); refine wpList_build1 rfl 32 (.tmp 21) rfl (.agg (hdC h).toArray) (.agg (bkC ⟨h, none, [], 0⟩).toArray) rfl (build_bk1 h F3.out) ?_)
    | ((with_reducible show wpList _ _ _ (⟨none, .store 32 (.tmp 7) _, _, _, _, _⟩ :: _) _ _); show wpList _ _ _ _ _ (w4.alloc (.cells Tryz.zeroCells32 32)); refine wpList_store_all rfl 32 (.tmp 7) (.tmp 22) rfl w4.heap.size 32 Tryz.zeroCells32 (bkC ⟨h, none, [], 0⟩).toArray rfl rfl (heap_alloc_new w4 _) (by rw [bkZ_row, List.size_toArray, bkC_len (b := ⟨h, none, [], 0⟩) F3.out]) (bkSz' (b := ⟨h, none, [], 0⟩) F3.out) (bkC_one _) ?_; intro w5 h5 h6 h7; have B5 := Lib.hid h5; have V5 : Hid (Below w4.heap.size w4 w5) := (nxAl (nxRf w4) _).trans (h6.below (nxAl (nxRf w4) _).size (fun k hk => by omega)); have R5 := Lib.hid (((R2.out.below V3.out).below V4.out).below V5.out); clear h5 h6 h7)
    | (go_at_call 23; refine (rfnumber_s w5 g d s1 R5.out 2).mono ?_; unfold RfNum; rw [HM2.out, HS2.out, HC1.out]; rintro e w6 ⟨rfl, hr6, hk6, hz6⟩; have R6 := Lib.hid hr6; have K6 : Hid (Keeps (· = g) w5 w6) := hk6; clear hr6 hk6 hz6))
  have hgs : g < w2.heap.size := R2.out.lt
  have HG2 := Lib.hid hgs
  have z2 := K2.out.size
  have z3 := V3.out.size
  have z4 : w3.heap.size < w4.heap.size := B4.out.lt
  have z5 : w4.heap.size < w5.heap.size := B5.out.lt
  have z6 := K6.out.size
  have h2s := Hs2.out
  have hgg := HGg.out
  obtain ⟨bt, hbt⟩ : ∃ x, w4.heap.size = x := ⟨_, rfl⟩
  rw [hbt] at B5 z4 z5 ⊢
  have HBt2 : Hid (w2.heap.size < bt) := by show _ < _; omega
  have v2 : Below w.heap.size w w2 := Hb0.out.trans (K2.out.below Hb0.out.size (fun j hj => by omega))
  have v5 : Below w.heap.size w w5 := nxTr (nxTr (nxTr v2 V3.out) V4.out) V5.out
  have V6 : Hid (Below w.heap.size w w6) := v5.trans (K6.out.below v5.size (fun j hj => by omega))
  have BT6 : Hid (Blk w6 bt 32 (bkC ⟨h, none, [], 0⟩).toArray) := B5.out.keeps K6.out (by omega)
  have C6 : Hid (Blk w6 w.heap.size 32 Tryz.zeroCells32) := by
    have e2 := HBz0.out.keeps K2.out (by omega)
    exact (((e2.below V3.out (by omega)).below V4.out (by omega)).below V5.out (by rw [hbt]; omega)).keeps K6.out (by omega)
  have HK6 : Hid (Kept (fun j => j < w2.heap.size ∨ bt ≤ j) w6 (fun W => HdOk W h)) := HK3.out.step (((Keeps.of_below V4.out (fun j => j < w2.heap.size)).trans (Keeps.of_below V5.out _)).trans (K6.out.mono (fun j _ h => by omega))) (fun b hb h => by rcases h with h | h; exact h; omega)
  obtain ⟨B0, hB0⟩ : ∃ x, w5.heap.size = x := ⟨_, rfl⟩
  have HB0 : Hid (bt < B0) := by show _ < _; omega
  have HB6 : Hid (B0 ≤ w6.heap.size) := by show _ ≤ _; omega
  have Hbw : Hid (w.heap.size + 2 ≤ bt) := by show _ ≤ _; omega
  have HGb : Hid (g < bt) := by show _ < _; omega
  have HBVn : Hid ((readTs n1 s2).1 = none → bofB b = false) := fun hq => by
    rw [HBV.out]
    cases hr : readTs n1 s2 with
    | mk a r =>
      rw [hr] at hq
      have h1 : a = none := hq
      subst h1
      exact Bool.and_false _
  clear B4 B5 V3 V4 V5 K2 K6 R2 R5 S2 HK3 hbt hB0 z2 z3 z4 z5 z6 h2s hgg v2 v5 hgs HBz0 HR0 Hb0
  obtain ⟨i0, hi0, hz0, hz1, hz2⟩ := infoP Tryz.txinf
  go_loopw [6, 9] (fun ov iv wr => ∃ (k : Nat) (l : List TxR) (A1 : Option Addr) (e1 : Nat) (s : Option (List UInt8)) (ok : Bool), k ≤ n1 ∧ ov = .bool ok ∧ iv = .int .i64 k ∧ Hid (l.length = k) ∧ Hid (ok = true → oh = true ∧ readTs k s2 = (some (l.map txP), s)) ∧ Hid (ok = false → bofB b = false) ∧ Hid (lenS s ≤ 1099511627776) ∧ Hid (Blk wr bt 32 (bkC ⟨h, A1, l, e1⟩).toArray) ∧ Hid (wr.ownsRow B0 66 3 (.slice A1 k e1) k (txsC l)) ∧ Hid (Kept (Older B0 A1) wr (fun W => ∀ t ∈ l, TxOk W t)) ∧ Hid (Kept (fun j => j < w2.heap.size ∨ bt ≤ j) wr (fun W => HdOk W h)) ∧ Hid (Rf wr g d s) ∧ Hid (Blk wr w.heap.size 32 Tryz.zeroCells32) ∧ Hid (Below w.heap.size w wr) ∧ Hid (B0 ≤ wr.heap.size)) (fun _ iv _ => n1 - (intOf iv).toNat)
  case atStart =>
    refine ⟨0, [], none, 0, s2, oh, by omega, rfl, rfl, rfl, fun h => ⟨h, rfl⟩, fun h => ?_, HSl.out, BT6.out, nil_own _ _ _ _, (fun _ _ t h => by cases h), HK6.out, R6.out, C6.out, V6.out, HB6.out⟩
    rw [HBV.out, h]; rfl
  case round =>
    clear BT6 R6 C6 V6 HK6 HB6
    obtain ⟨k, l, A1, e1, s, ok, hk, rfl, rfl, Hl, Hok, Hno, HLs, HB, HO, HK, HKh, HR, HBz, Hb, HBs⟩ := hrel
    have HDl : Hid (∀ j, d = some j → j < w.heap.size) := HDd.out
    have Hol : Hid (∀ j, A1.map (·.block) = some j → B0 ≤ j ∧ j < wr.heap.size) := fun j hj => own_lt HO.out j (by rw [own_blk]; exact hj)
    by_cases hlt : k < n1 ∧ ok = true
    · obtain ⟨hlt, rfl⟩ := hlt
      obtain ⟨hoh, hrd⟩ := Hok.out rfl
      have Hoh := Lib.hid hoh
      have Hrd := Lib.hid hrd
      have hin : (k : Int) < (c1 : Int) := by omega
      have hin2 : (k : Int) ≤ 200 := by omega
      obtain ⟨q, hq⟩ : ∃ q, blobPiece s = q := ⟨_, rfl⟩
      obtain ⟨s', hs'⟩ : ∃ q, blobRest s = q := ⟨_, rfl⟩
      have HQl : Hid (q.length ≤ 1099511627776) := by show _ ≤ _; rw [← hq]; exact Nat.le_trans (blobPiece_le s) HLs.out
      have HLs' : Hid (lenS s' ≤ 1099511627776) := by show _ ≤ _; rw [← hs']; exact Nat.le_trans (blobRest_le s) HLs.out
      have HQe := Lib.hid hq
      have HSe' := Lib.hid hs'
      obtain ⟨gd, hgd⟩ : ∃ z, ofB q = z := ⟨_, rfl⟩
      have HGd := Lib.hid hgd
      have HSZ : Hid (∀ t : TxR, (Tryz.prog.info? 66).map (·.size) = some (txC t).length) := fun _ => Tryz.sizeTx
      have HSZ' : Hid (∀ t : TxR, (Tryz.prog.info? 66).map (·.size) = some (txC t).toArray.size) := fun _ => Tryz.sizeTx
      have HZT : Hid ((Tryz.prog.info? 30).map (·.size) = some 1) := by show _ = _; kernel_rfl
      have hwk : IntKind.i64.wrap ((k : Int) + 1) = (k : Int) + 1 := by rw [IntKind.wrap_i64]; omega
      clear hq hs' hgd hoh hrd Hok
      go_wp2_with (first
        | (go_at_call 22; refine (rfblob_s wr g d s HR.out).mono ?_; unfold RfCut; rw [HQe.out, HSe'.out]; rintro e w4 ⟨A4, c4, rfl, hs, ha, hr, hk4, hz, hc, hm⟩; have S4 := Lib.hid hs; have R4 := Lib.hid hr; have K4 : Hid (Keeps (· = g) wr w4) := hk4; have HC4 := Lib.hid hc; have HM4 := Lib.hid hm; clear hs ha hr hk4 hz hc hm)
        | (go_at_call 24; refine (rof_anyK w4 A4 q c4 S4.out HC4.out HM4.out HQl.out).mono ?_; unfold ROfPostK; rw [HGd.out]; rintro e w5 ⟨t, rfl, hp5, ht5, hb5, hk5⟩; have P5 : Hid (txP t = ofV q) := hp5; have V5 : Hid (Below w4.heap.size w4 w5) := hb5; have T5K := Lib.hid hk5; clear hp5 ht5 hb5 hk5)
        | ((with_reducible show wpList _ _ _ (⟨none, .store 66 _ _, _, _, _, _⟩ :: _) _ _); show wpList _ _ _ _ _ (w5.alloc (.cells txZ 66)); refine wpList_store_all rfl 66 (.tmp 10) (.tmp 42) rfl w5.heap.size 66 txZ (txC t).toArray rfl rfl (heap_alloc_new w5 _) rfl (HSZ'.out t) (txC_one' t) ?_; intro w6 h5 h6 h7; have B6 := Lib.hid h5; have V56 : Hid (Below w5.heap.size w5 w6) := (nxAl (nxRf w5) _).trans (h6.below (nxAl (nxRf w5) _).size (fun k hk => by omega)); have V46 : Hid (Below w4.heap.size w4 w6) := nxTr V5.out V56.out; have V57 : Hid (Below w5.heap.size w5 (w6.alloc (.cells (txC t).toArray 66))) := nxAl V56.out _; have V47 : Hid (Below w4.heap.size w4 (w6.alloc (.cells (txC t).toArray 66))) := nxTr V5.out V57.out; have O7 := Lib.hid (own_below (own_keepsS HO.out K4.out (fun j hj h => by have := (own_lt HO.out j hj).1; have := HB0.out; have := HGb.out; omega)) V47.out (fun j hj => Nat.lt_of_lt_of_le (own_lt HO.out j hj).2 K4.out.size)); have HBt4 := Lib.hid (HB.out.keeps K4.out (by have := HGb.out; omega)); have kT : w6.cell? ⟨bt, 130, none⟩ = some (.slice A1 k e1) := (by have q := (BkRow.of (blkR (vs := bkC ⟨h, A1, l, e1⟩) (HBt4.out.below V46.out HBt4.out.lt)) F3.out).t; have e0 : (⟨h, A1, l, e1⟩ : BkR).txs.length = k := Hl.out; rw [e0] at q; exact q); clear h5 h6 h7)
        | ((with_reducible show wpList _ _ _ (⟨some 50, _, _, _, _, _⟩ :: _) _ _); refine wpList_load_mid rfl 66 (.tmp 10) rfl w5.heap.size 0 rfl (txC t) _ (blkR B6.out) Tryz.underlying66 rfl (HSZ.out t) ?_)
        | ((with_reducible show wpList _ _ _ (⟨some 51, _, _, _, _, _⟩ :: _) _ _); refine wpList_build_tx rfl (.tmp 50) rfl t rfl ?_; clear kT)
        | ((with_reducible show wpList _ _ _ (⟨some 52, _, _, _, _, _⟩ :: _) _ _); refine wpList_append_seesV rfl (.tmp 49) (.tmp 51) 30 rfl B0 66 i0 _ 3 56 Tryz.underlying30 hi0 hz0 hz1 hz2 rfl (by decide) (.slice A1 k e1) k (txsC l) rfl O7.out _ (some ⟨w6.heap.size, 0, none⟩) 1 1 (txC t) rfl rfl (SeesV.lit' w6 (txC t) 66) (fun u hu => txC_one' t u (by simpa using hu)) (by omega) (by omega) (Nat.le_trans HBs.out (Nat.le_trans K4.out.size V47.out.size)) ?_; intro v8 w8 ho8 hg8 hv8; obtain ⟨A8, e8, rfl⟩ := own_form ho8; have O8 := Lib.hid ho8; have G8 := Lib.hid hg8; have NV8 := Lib.hid hv8; have HBt8 : Hid (Blk w8 bt 32 (bkC ⟨h, A1, l, e1⟩).toArray) := blkG (HBt4.out.below V47.out HBt4.out.lt) hg8 (fun e => by have := (Hol.out bt (by rw [← own_blk (n := k) (c := e1)]; exact e.symm)).1; have := HB0.out; omega); have HLn : Hid ((l ++ [t]).length = k + 1) := (by show _ = _; rw [List.length_append, Hl.out]; rfl); clear ho8 hg8 hv8)
        | ((with_reducible show wpList _ _ _ (⟨none, .store 30 _ _, _, _, _, _⟩ :: _) _ _); refine wpList_store_part rfl 30 (.tmp 53) (.tmp 52) rfl bt 130 32 (bkC ⟨h, A1, l, e1⟩).toArray #[.slice A8 (k + 1) e8] (bkC ⟨h, A8, l ++ [t], e8⟩).toArray (.slice A8 (k + 1) e8) rfl rfl rfl HBt8.out (show 130 + 1 ≤ (bkC ⟨h, A1, l, e1⟩).length by rw [bkC_len (b := ⟨h, A1, l, e1⟩) F3.out]; exact Nat.le_refl 131) HZT.out (by intro u hu; simp at hu; subst hu; rfl) (by have q := put_txs (h := h) (B := A1) (C := A8) (l := l) (m := l ++ [t]) (c := e1) (d := e8) F3.out; rw [HLn.out] at q; exact q) ?_; intro w9 h5 h6 h7; have HB9 := Lib.hid h5; have K89 := Lib.hid h6; clear h5 h6 h7))
      have Z7 : Hid ((w6.alloc (.cells (txC t).toArray 66)).heap.size = w6.heap.size + 1) := by show _ = _; simp
      have S47 := V47.out.size
      have S57 := V57.out.size
      have S4 := K4.out.size
      have S5 := V5.out.size
      have S78 := G8.out.size
      have S89 := K89.out.size
      have hbs := HBs.out
      have hb0 := HB0.out
      have hgb := HGb.out
      have hbw := Hbw.out
      have hg2 := HG2.out
      have hb2 := HBt2.out
      have W8 : ∀ b, b < w4.heap.size → A1.map (·.block) ≠ some b → w8.heap[b]? = w4.heap[b]? := fun b hb h2 => (G8.out.block b (by have := Z7.out; omega) (by rw [own_blk]; exact fun h => h2 h.symm)).trans (V47.out.block b hb)
      have W9 : ∀ b, b < w4.heap.size → A1.map (·.block) ≠ some b → b ≠ bt → w9.heap[b]? = w4.heap[b]? := fun b hb h2 h3 => (K89.out.block b (by omega) h3).trans (W8 b hb h2)
      have OS : Keeps (fun b => A1.map (·.block) = some b ∨ b = bt) w4 w9 := ⟨K89.out.os.trans (G8.out.os.trans V47.out.os), K89.out.tape.trans (G8.out.tape.trans V47.out.tape), K89.out.output.trans (G8.out.output.trans V47.out.output), by omega, fun b hb hn => W9 b hb (fun h => hn (.inl h)) (fun h => hn (.inr h))⟩
      have OR : Keeps (fun b => A1.map (·.block) = some b ∨ b = bt ∨ b = g) wr w9 := ⟨OS.os.trans K4.out.os, OS.tape.trans K4.out.tape, OS.output.trans K4.out.output, by omega, fun b hb hn => (OS.block b (by omega) (fun h => hn (by rcases h with h | h; exact .inl h; exact .inr (.inl h)))).trans (K4.out.block b hb (fun h => hn (.inr (.inr h))))⟩
      have N8 : ∀ j, A8.map (·.block) = some j → (A1.map (·.block) = some j ∧ j < wr.heap.size) ∨ (w5.heap.size ≤ j) := fun j hj => by
        rcases NV8.out with h | h
        · rw [own_blk, own_blk, hj] at h; exact .inl ⟨h.symm, (Hol.out j h.symm).2⟩
        · rw [own_blk, hj] at h; injection h with h; have := Z7.out; exact .inr (by have := V56.out.size; omega)
      have HO9 : Hid (w9.ownsRow B0 66 3 (.slice A8 (k + 1) e8) (k + 1) (txsC (l ++ [t]))) := by
        show World.ownsRow _ _ _ _ _ _ _
        rw [txsC_snoc]
        exact own_keepsS O8.out K89.out (fun j hj h => by have := (own_lt O8.out j hj).1; omega)
      have K59 : Keeps (fun j => j < w4.heap.size) w5 w9 := by
        refine ⟨K89.out.os.trans (G8.out.os.trans V57.out.os), K89.out.tape.trans (G8.out.tape.trans V57.out.tape), K89.out.output.trans (G8.out.output.trans V57.out.output), by omega, fun b hb hn => ?_⟩
        have h0 : ¬ b < w4.heap.size := hn
        exact (K89.out.block b (by omega) (by omega)).trans ((G8.out.block b (by omega) (by rw [own_blk]; exact fun h => by have := (Hol.out b h.symm).2; omega)).trans (V57.out.block b hb))
      have HK9 : Hid (Kept (Older B0 A8) w9 (fun W => ∀ u ∈ l ++ [t], TxOk W u)) := by
        have h1 : Kept (Older B0 A8) w9 (fun W => ∀ u ∈ l, TxOk W u) := HK.out.step (OR.mono (fun b _ h => by
          rcases h with h | h | h
          · exact .inr h
          · exact .inl (by omega)
          · exact .inl (by omega))) (fun b hb h => by
          rcases h with h | h
          · exact .inl h
          · rcases N8 b h with h | h
            · exact .inr h.1
            · omega)
        have h2 : Kept (Older B0 A8) w9 (fun W => TxOk W t) := T5K.out.step K59 (fun b hb h => by
          rcases h with h | h
          · show b < w4.heap.size; omega
          · rcases N8 b h with h | h
            · show b < w4.heap.size; omega
            · omega)
        exact fun W hW u hu => by
          rcases List.mem_append.1 hu with hu | hu
          · exact h1 W hW u hu
          · rw [List.mem_singleton.1 hu]; exact h2 W hW
      have HKh9 : Hid (Kept (fun j => j < w2.heap.size ∨ bt ≤ j) w9 (fun W => HdOk W h)) := HKh.out.step (OR.mono (fun b _ h => by
        rcases h with h | h | h
        · exact .inr (by have := (Hol.out b h).1; omega)
        · exact .inr (by omega)
        · exact .inl (by omega))) (fun _ _ h => h)
      have HR9 : Hid (Rf w9 g d s') := R4.out.keeps OS (fun h => by rcases h with h | h; have := (Hol.out g h).1; omega; omega) (fun j e h => by have h1 := HDl.out j e; rcases h with h | h; have := (Hol.out j h).1; omega; omega)
      have HBz9 : Hid (Blk w9 w.heap.size 32 Tryz.zeroCells32) := HBz.out.keeps OR (fun h => by have hg := HGg.out; rcases h with h | h | h; have := (Hol.out _ h).1; omega; omega; omega)
      have Hb9 : Hid (Below w.heap.size w w9) := Hb.out.trans (OR.below Hb.out.size (fun j hj h => by have hg := HGg.out; rcases h with h | h | h; have := (Hol.out j h).1; omega; omega; omega))
      have HBs9 : Hid (B0 ≤ w9.heap.size) := by show _ ≤ _; omega
      have HY9 : Hid (gd = true → oh = true ∧ readTs (k + 1) s2 = (some ((l ++ [t]).map txP), s')) := fun hg => ⟨Hoh.out, by
        rw [readTs_good Hrd.out (by rw [HQe.out, HGd.out]; exact hg), HQe.out, HSe'.out, List.map_append]
        show (some (l.map txP ++ [ofP q]), s') = (some (l.map txP ++ [txP t]), s')
        rw [P5.out, ofV, HGd.out, hg]; rfl⟩
      have HN9 : Hid (gd = false → bofB b = false) := fun hg => HBVn.out (readTs_bad Hrd.out (by rw [HQe.out, HGd.out]; exact hg) n1 hlt)
      clear HB HO HK HR HBz Hb Hrd R4 K4 V5 V47 V57 B6 O7 O8 G8 NV8 W8 N8 K59 T5K P5 Hol W9 OS OR HKh Hno HBs HBt4 HBt8 K89 V56 V46
      go_wp2
      go_roundw
      case rel => exact ⟨k + 1, l ++ [t], A8, e8, s', gd, by omega, rfl, by go_num, HLn.out, HY9.out, HN9.out, HLs'.out, HB9.out, HO9.out, HK9.out, HKh9.out, HR9.out, HBz9.out, Hb9.out, HBs9.out⟩
      case measure => simp [intOf] <;> omega
    · cases ok with
      | false =>
        have HOB : Hid (bofB b = false) := Hno.out rfl
        have hcond : (¬ ((k : Int) < (c1 : Int))) ∨ ((k : Int) < (c1 : Int) ∧ decide ((k : Int) ≤ 200) = false) ∨ ((k : Int) < (c1 : Int) ∧ decide ((k : Int) ≤ 200) = true) := by
          by_cases h1 : (k : Int) < (c1 : Int)
          · by_cases h2 : (k : Int) ≤ 200
            · exact .inr (.inr ⟨h1, decide_eq_true h2⟩)
            · exact .inr (.inl ⟨h1, decide_eq_false h2⟩)
          · exact .inl h1
        clear hlt
        rcases hcond with hin | ⟨hin, hgb⟩ | ⟨hin, hgb⟩
        all_goals
          (go_wp2_with (first
             | ((with_reducible show wpList _ _ _ (⟨none, .store 32 (.tmp 2) _, _, _, _, _⟩ :: _) _ _); refine wpList_store_all rfl 32 (.tmp 2) (.tmp 70) rfl w.heap.size 32 Tryz.zeroCells32 Tryz.zeroCells32 rfl rfl HBz.out rfl bkZ_sz bkZ_one ?_; intro w8 h5 h6 h7; have B8 := Lib.hid h5; have K8 := Lib.hid h6; clear h5 h6 h7))
           refine bodyPost_ret (row_tmp Tryz.results7 _ _ w.heap.size 32 _ _ rfl B8.out Tryz.underlying32 rfl bkZ_sz _ rfl) rfl ⟨noBk, (by rw [HOB.out, ← bkZ_eq] <;> rfl), (by rw [HVN.out HOB.out]; rfl), noBk_ok w8, (Hb.out).trans (K8.out.below (Hb.out).size (fun j hj => by omega))⟩)
      | true =>
        obtain rfl : k = n1 := by
          by_cases h : k < n1
          · exact absurd ⟨h, rfl⟩ hlt
          · omega
        obtain ⟨hoh, hrd⟩ := Hok.out rfl
        have HBW : Hid (bofB b = (decide (s = some []) && (checkP (ofHV p) (l.map txP) == 0))) := by show _ = _; rw [HBV.out, hoh, hrd, Bool.true_and]
        have Hrd := Lib.hid hrd
        have hcond : (¬ ((k : Int) < (c1 : Int))) ∨ ((k : Int) < (c1 : Int) ∧ decide ((k : Int) ≤ 200) = false) := by
          by_cases h1 : (k : Int) < (c1 : Int)
          · exact .inr ⟨h1, decide_eq_false (by omega)⟩
          · exact .inl h1
        have Hkm : Hid (k = min c1 201) := hm1
        clear hlt hoh hrd hm1
        by_cases hs : s = some []
        rotate_left 1
        · have HRe : Hid (doneB s = false) := by show _ = _; rw [doneB, decide_eq_false hs]
          have HOB : Hid (bofB b = false) := by show _ = _; rw [HBW.out, decide_eq_false hs, Bool.false_and]
          rcases hcond with hin | ⟨hin, hgb⟩
          all_goals
            (go_wp2_with (first
               | (go_at_call 25; refine (rfdone_s wr g d _ HR.out).mono ?_; rw [HRe.out]; rintro e wd ⟨rfl, rfl⟩)
               | ((with_reducible show wpList _ _ _ (⟨none, .store 32 (.tmp 2) _, _, _, _, _⟩ :: _) _ _); refine wpList_store_all rfl 32 (.tmp 2) (.tmp 70) rfl w.heap.size 32 Tryz.zeroCells32 Tryz.zeroCells32 rfl rfl HBz.out rfl bkZ_sz bkZ_one ?_; intro w8 h5 h6 h7; have B8 := Lib.hid h5; have K8 := Lib.hid h6; clear h5 h6 h7))
             refine bodyPost_ret (row_tmp Tryz.results7 _ _ w.heap.size 32 _ _ rfl B8.out Tryz.underlying32 rfl bkZ_sz _ rfl) rfl ⟨noBk, (by rw [HOB.out, ← bkZ_eq] <;> rfl), (by rw [HVN.out HOB.out]; rfl), noBk_ok w8, (Hb.out).trans (K8.out.below (Hb.out).size (fun j hj => by omega))⟩)
        subst hs
        have HRe : Hid (doneB (some []) = true) := by show _ = _; simp [doneB]
        by_cases h200 : c1 ≤ 200
        rotate_left 1
        · have hgt : (200 : Int) < (c1 : Int) := by omega
          have HOB : Hid (bofB b = false) := by
            show _ = _
            rw [HBW.out]
            have h1 : checkP (ofHV p) (l.map txP) ≠ 0 := fun e => by
              have h2 := checkP_few e
              rw [List.length_map, Hl.out] at h2
              have := Hkm.out
              omega
            rw [beq_eq_false_iff_ne.2 h1, Bool.and_false]
          clear h200
          rcases hcond with hin | ⟨hin, hgb⟩
          all_goals
            (go_wp2_with (first
               | (go_at_call 25; refine (rfdone_s wr g d _ HR.out).mono ?_; rw [HRe.out]; rintro e wd ⟨rfl, rfl⟩)
               | ((with_reducible show wpList _ _ _ (⟨none, .store 32 (.tmp 2) _, _, _, _, _⟩ :: _) _ _); refine wpList_store_all rfl 32 (.tmp 2) (.tmp 70) rfl w.heap.size 32 Tryz.zeroCells32 Tryz.zeroCells32 rfl rfl HBz.out rfl bkZ_sz bkZ_one ?_; intro w8 h5 h6 h7; have B8 := Lib.hid h5; have K8 := Lib.hid h6; clear h5 h6 h7))
             refine bodyPost_ret (row_tmp Tryz.results7 _ _ w.heap.size 32 _ _ rfl B8.out Tryz.underlying32 rfl bkZ_sz _ rfl) rfl ⟨noBk, (by rw [HOB.out, ← bkZ_eq] <;> rfl), (by rw [HVN.out HOB.out]; rfl), noBk_ok w8, (Hb.out).trans (K8.out.below (Hb.out).size (fun j hj => by omega))⟩)
        have hgt : decide ((200 : Int) < (c1 : Int)) = false := decide_eq_false (by omega)
        have hin : ¬ (k : Int) < (c1 : Int) := by have := Hkm.out; omega
        have hcap := own_cap' HO.out
        have hkb : k ≤ 201 := by have := Hkm.out; omega
        clear hcond h200
        obtain ⟨kb, hkb'⟩ : ∃ kb : BkR, (⟨h, A1, l, e1⟩ : BkR) = kb := ⟨_, rfl⟩
        have HKb := Lib.hid hkb'
        have HFk : Hid (HdFit kb.h.p) := by show HdFit _; rw [← hkb']; exact F3.out
        have KKr : Hid (Kept (fun j => j = w.heap.size) wr (fun W => BkOk W kb)) := by
          have h1 : Kept (fun j => j = w.heap.size) wr (fun W => SeesV W W.heap.size A1 (txsC l)) := own_kept HO.out (fun j hj h => by have := (own_lt HO.out j hj).1; have := HB0.out; have := Hbw.out; omega)
          have h2 : Kept (fun j => j = w.heap.size) wr (fun W => ∀ t ∈ l, TxOk W t) := HK.out.sub (fun b h => .inl (by have := HB0.out; have := Hbw.out; omega))
          have h3 : Kept (fun j => j = w.heap.size) wr (fun W => HdOk W h) := HKh.out.sub (fun b h => .inl (by have := HG2.out; have := HGg.out; omega))
          rw [← hkb']
          exact fun W hW => ⟨h3 W hW, h1 W hW, h2 W hW, by show l.length ≤ e1; rw [Hl.out]; exact hcap, by show l.length ≤ _; rw [Hl.out]; omega⟩
        have HBk : Hid (Blk wr bt 32 (bkC kb).toArray) := by show Blk _ _ _ _; rw [← hkb']; exact HB.out
        have HCk : Hid (checkP (ofHV p) (l.map txP) = checkK kb) := by show _ = _; rw [← hkb', ← checkK_up, P3.out]
        clear hkb' hcap hkb
        obtain ⟨E, hE⟩ : ∃ E, checkK kb = E := ⟨_, rfl⟩
        have HE := Lib.hid hE
        clear hE
        by_cases hz : E = 0
        · subst hz
          have HOB : Hid (bofB b = true) := by show _ = _; rw [HBW.out, HCk.out, HE.out]; rfl
          go_wp2_with (first
            | (go_at_call 25; refine (rfdone_s wr g d _ HR.out).mono ?_; rw [HRe.out]; rintro e wd ⟨rfl, rfl⟩)
            | ((with_reducible show wpList _ _ _ (⟨some 66, _, _, _, _, _⟩ :: _) _ _); refine wpList_load_midg (by rfl) 32 (.tmp 7) rfl bt 0 rfl (bkC kb) _ (blkR HBk.out) Tryz.underlying32 rfl (bkSz (b := kb) HFk.out) ?_)
            | (go_at_call 26; refine (rcheck6_any wr kb KKr.out.now).mono ?_; rw [HE.out]; rintro e w7 ⟨rfl, hb7⟩; have V7 : Hid (Below wr.heap.size wr w7) := hb7; have C7 := Lib.hid (HBz.out.below hb7 HBz.out.lt); have B7 := Lib.hid (HBk.out.below hb7 HBk.out.lt); clear hb7)
            | ((with_reducible show wpList _ _ _ (⟨some 71, _, _, _, _, _⟩ :: _) _ _); refine wpList_load_mid rfl 32 (.tmp 7) rfl bt 0 rfl (bkC kb) _ (blkR B7.out) Tryz.underlying32 rfl (bkSz (b := kb) HFk.out) ?_)
            | ((with_reducible show wpList _ _ _ (⟨none, .store 32 (.tmp 2) _, _, _, _, _⟩ :: _) _ _); refine wpList_store_all rfl 32 (.tmp 2) (.tmp 71) rfl w.heap.size 32 Tryz.zeroCells32 (bkC kb).toArray rfl rfl C7.out (by rw [bkZ_row, List.size_toArray, bkC_len HFk.out]) (bkSz' (b := kb) HFk.out) (bkC_one kb) ?_; intro w8 h5 h6 h7; have B8 := Lib.hid h5; have K8 := Lib.hid h6; clear h5 h6 h7))
          refine bodyPost_ret (row_tmp Tryz.results7 _ _ w.heap.size 32 _ _ rfl B8.out Tryz.underlying32 rfl (bkSz' (b := kb) HFk.out) _ rfl) rfl ⟨kb, (by rw [HOB.out] <;> rfl), ?_, ?_, ?_⟩
          · rw [HVV.out HOB.out (l.map txP) (by rw [Hrd.out]), ← HKb.out, ← P3.out]
          · exact KKr.out w8 ((Keeps.of_below V7.out _).trans K8.out)
          · exact (nxTr Hb.out V7.out).trans (K8.out.below (nxTr Hb.out V7.out).size (fun j hj => by omega))
        · have HOB : Hid (bofB b = false) := by show _ = _; rw [HBW.out, HCk.out, HE.out, beq_eq_false_iff_ne.2 hz, Bool.and_false]
          have hq : (E == 0) = false := beq_eq_false_iff_ne.2 hz
          have hq2 : (E != 0) = true := by rw [bne, hq]; rfl
          clear hz
          go_wp2_with (first
            | (go_at_call 25; refine (rfdone_s wr g d _ HR.out).mono ?_; rw [HRe.out]; rintro e wd ⟨rfl, rfl⟩)
            | ((with_reducible show wpList _ _ _ (⟨some 66, _, _, _, _, _⟩ :: _) _ _); refine wpList_load_midg (by rfl) 32 (.tmp 7) rfl bt 0 rfl (bkC kb) _ (blkR HBk.out) Tryz.underlying32 rfl (bkSz (b := kb) HFk.out) ?_)
            | (go_at_call 26; refine (rcheck6_any wr kb KKr.out.now).mono ?_; rw [HE.out]; rintro e w7 ⟨rfl, hb7⟩; have V7 : Hid (Below wr.heap.size wr w7) := hb7; have C7 := Lib.hid (HBz.out.below hb7 HBz.out.lt); have B7 := Lib.hid (HBk.out.below hb7 HBk.out.lt); clear hb7)
            | ((with_reducible show wpList _ _ _ (⟨none, .store 32 (.tmp 2) _, _, _, _, _⟩ :: _) _ _); refine wpList_store_all rfl 32 (.tmp 2) (.tmp 70) rfl w.heap.size 32 Tryz.zeroCells32 Tryz.zeroCells32 rfl rfl C7.out rfl bkZ_sz bkZ_one ?_; intro w8 h5 h6 h7; have B8 := Lib.hid h5; have K8 := Lib.hid h6; clear h5 h6 h7))
          refine bodyPost_ret (row_tmp Tryz.results7 _ _ w.heap.size 32 _ _ rfl B8.out Tryz.underlying32 rfl bkZ_sz _ rfl) rfl ⟨noBk, (by rw [HOB.out, ← bkZ_eq] <;> rfl), (by rw [HVN.out HOB.out]; rfl), noBk_ok w8, (nxTr Hb.out V7.out).trans (K8.out.below (nxTr Hb.out V7.out).size (fun j hj => by omega))⟩
end Go.Proofs.YtbloomnifhcgbaaGreatDoor

namespace Go.Proofs.YtbloomnifhcgbaaGreatDoor
open Go.RowKit

def bkD (b : BkR) : HdP × List TxP := (b.h.p, b.txs.map txP)
def BSame (w : World) (a b : BkR) (e : Ending) (w' : World) : Prop := ∃ z : Bool, e = .returned (.bool z) ∧ (z = true ↔ bkD a = bkD b) ∧ Below w.heap.size w w'
theorem bkD_no {a b : BkR} {z : Bool} (hz : z = false) (h : bkD a ≠ bkD b) : z = true ↔ bkD a = bkD b := ⟨fun e => (by rw [hz] at e; cases e), fun e => absurd e h⟩

set_option maxHeartbeats 4000000 in
set_option maxRecDepth 100000 in
theorem rsame6_any (w : World) (a b : BkR) (ka : BkOk w a) (kb : BkOk w b) : Calls Tryz.prog 8 #[.agg (bkC a).toArray, .agg (bkC b).toArray] w (BSame w a b) := by
  have hb0 : Below w.heap.size w ((w.alloc (.cells (bkC a).toArray 32)).alloc (.cells (bkC b).toArray 32)) := nxAl (nxAl (nxRf w) _) _
  have Hb0 := Lib.hid hb0
  have HRa := Lib.hid (BkRow.of (blkR (vs := bkC a) (show Blk ((w.alloc (.cells (bkC a).toArray 32)).alloc (.cells (bkC b).toArray 32)) w.heap.size 32 (bkC a).toArray from Blk.alloc (heap_alloc_new w _) _)) ka.h.f)
  have HRb := Lib.hid (BkRow.of (blkR (vs := bkC b) (show Blk ((w.alloc (.cells (bkC a).toArray 32)).alloc (.cells (bkC b).toArray 32)) (w.heap.size + 1) 32 (bkC b).toArray from Blk.newAt (by simp) rfl)) kb.h.f)
  have HZa := Lib.hid (hdSz ka.h.f)
  have HZb := Lib.hid (hdSz kb.h.f)
  have KA := Lib.hid (ka.later hb0)
  have KB := Lib.hid (kb.later hb0)
  have TA := Lib.hid ka.t
  have TB := Lib.hid kb.t
  have HL2 : Hid (w.heap.size + 2 = ((w.alloc (.cells (bkC a).toArray 32)).alloc (.cells (bkC b).toArray 32)).heap.size) := by show _ = _; simp
  have HDe : Hid (bkD a = bkD b ↔ a.h.p = b.h.p ∧ a.txs.map txP = b.txs.map txP) := by
    show _ ↔ _
    unfold bkD
    rw [Prod.mk.injEq]
  unfold BSame
  clear hb0 ka kb
  have ENTRY : True := trivial
  by_cases hp : a.h.p = b.h.p
  rotate_left 1
  · have HSE : Hid (decide (a.h.p = b.h.p) = false) := decide_eq_false hp
    have HNo : Hid (bkD a ≠ bkD b) := fun e => hp (HDe.out.1 e).1
    clear hp
    go_enter Tryz.func8, Tryz.ntmps8
    go_wp2_with (first
      | ((with_reducible show wpList _ _ _ (⟨some 7, _, _, _, _, _⟩ :: _) _ _); refine wpList_load_mid rfl 29 (.tmp 6) rfl w.heap.size 0 rfl (hdC a.h) _ HRa.out.r Tryz.underlying29 rfl HZa.out ?_)
      | ((with_reducible show wpList _ _ _ (⟨some 9, _, _, _, _, _⟩ :: _) _ _); refine wpList_load_mid rfl 29 (.tmp 8) rfl (w.heap.size + 1) 0 rfl (hdC b.h) _ HRb.out.r Tryz.underlying29 rfl HZb.out ?_)
      | (go_at_call 27; refine (sameh_any ((w.alloc (.cells (bkC a).toArray 32)).alloc (.cells (bkC b).toArray 32)) a.h b.h KA.out.h KB.out.h).mono ?_; rw [HSE.out]; rintro e w3 ⟨rfl, hb⟩; have V3 := Lib.hid (nxTr Hb0.out hb); clear hb))
    go_ret
    exact ⟨false, rfl, bkD_no rfl HNo.out, V3.out⟩
  have HSE : Hid (decide (a.h.p = b.h.p) = true) := decide_eq_true hp
  have HPp := Lib.hid hp
  clear hp
  obtain ⟨la, hla⟩ : ∃ l, a.txs = l := ⟨_, rfl⟩
  obtain ⟨lb, hlb⟩ : ∃ l, b.txs = l := ⟨_, rfl⟩
  have HLa := Lib.hid hla
  have HLb := Lib.hid hlb
  have HDd : Hid (bkD a = bkD b ↔ la.map txP = lb.map txP) := by
    show _ ↔ _
    rw [HDe.out, hla, hlb]
    exact ⟨fun h => h.2, fun h => ⟨HPp.out, h⟩⟩
  rw [hla] at TA
  rw [hlb] at TB
  clear hla hlb HDe
  by_cases hl : la.length = lb.length
  rotate_left 1
  · have hq : ((la.length : Int) != (lb.length : Int)) = true := by rw [bne, beq_eq_false_iff_ne.2 (by omega)]; rfl
    have HNo : Hid (bkD a ≠ bkD b) := fun e => hl (by have h := congrArg List.length (HDd.out.1 e); rw [List.length_map, List.length_map] at h; exact h)
    clear hl
    go_enter Tryz.func8, Tryz.ntmps8
    go_wp2_with (first
      | ((with_reducible show wpList _ _ _ (⟨some 7, _, _, _, _, _⟩ :: _) _ _); refine wpList_load_mid rfl 29 (.tmp 6) rfl w.heap.size 0 rfl (hdC a.h) _ HRa.out.r Tryz.underlying29 rfl HZa.out ?_)
      | ((with_reducible show wpList _ _ _ (⟨some 9, _, _, _, _, _⟩ :: _) _ _); refine wpList_load_mid rfl 29 (.tmp 8) rfl (w.heap.size + 1) 0 rfl (hdC b.h) _ HRb.out.r Tryz.underlying29 rfl HZb.out ?_)
      | (go_at_call 27; refine (sameh_any ((w.alloc (.cells (bkC a).toArray 32)).alloc (.cells (bkC b).toArray 32)) a.h b.h KA.out.h KB.out.h).mono ?_; rw [HSE.out]; rintro e w3 ⟨rfl, hb⟩; have V3 := Lib.hid (nxTr Hb0.out hb); have D3 : Hid (Below ((w.alloc (.cells (bkC a).toArray 32)).alloc (.cells (bkC b).toArray 32)).heap.size ((w.alloc (.cells (bkC a).toArray 32)).alloc (.cells (bkC b).toArray 32)) w3) := hb; have c3a : w3.cell? ⟨w.heap.size, 130, none⟩ = some (.slice a.B la.length a.d) := (by have h := (HRa.out.below hb (by have := HL2.out; omega)).t; rw [HLa.out] at h; exact h); have c3b : w3.cell? ⟨w.heap.size + 1, 130, none⟩ = some (.slice b.B lb.length b.d) := (by have h := (HRb.out.below hb (by have := HL2.out; omega)).t; rw [HLb.out] at h; exact h); clear hb))
    go_ret
    exact ⟨false, rfl, bkD_no rfl HNo.out, V3.out⟩
  have hq : ((la.length : Int) != (lb.length : Int)) = false := by rw [hl, bne, beq_self_eq_true]; rfl
  have HL := Lib.hid hl
  have hlI : (la.length : Int) = (lb.length : Int) := by rw [hl]
  have HLI := Lib.hid hlI
  clear hl hlI
  go_enter Tryz.func8, Tryz.ntmps8
  go_wp2_with (first
    | ((with_reducible show wpList _ _ _ (⟨some 7, _, _, _, _, _⟩ :: _) _ _); refine wpList_load_mid rfl 29 (.tmp 6) rfl w.heap.size 0 rfl (hdC a.h) _ HRa.out.r Tryz.underlying29 rfl HZa.out ?_)
    | ((with_reducible show wpList _ _ _ (⟨some 9, _, _, _, _, _⟩ :: _) _ _); refine wpList_load_mid rfl 29 (.tmp 8) rfl (w.heap.size + 1) 0 rfl (hdC b.h) _ HRb.out.r Tryz.underlying29 rfl HZb.out ?_)
    | (go_at_call 27; refine (sameh_any ((w.alloc (.cells (bkC a).toArray 32)).alloc (.cells (bkC b).toArray 32)) a.h b.h KA.out.h KB.out.h).mono ?_; rw [HSE.out]; rintro e w3 ⟨rfl, hb⟩; have V3 := Lib.hid (nxTr Hb0.out hb); have D3 : Hid (Below ((w.alloc (.cells (bkC a).toArray 32)).alloc (.cells (bkC b).toArray 32)).heap.size ((w.alloc (.cells (bkC a).toArray 32)).alloc (.cells (bkC b).toArray 32)) w3) := hb; have c3a : w3.cell? ⟨w.heap.size, 130, none⟩ = some (.slice a.B la.length a.d) := (by have h := (HRa.out.below hb (by have := HL2.out; omega)).t; rw [HLa.out] at h; exact h); have c3b : w3.cell? ⟨w.heap.size + 1, 130, none⟩ = some (.slice b.B lb.length b.d) := (by have h := (HRb.out.below hb (by have := HL2.out; omega)).t; rw [HLb.out] at h; exact h); clear hb))
  clear c3a c3b hq
  go_loopw [5] (fun iv wr => ∃ k : Nat, k ≤ la.length ∧ iv = .int .i64 k ∧ Hid (∀ j (h1 : j < la.length) (h2 : j < lb.length), j < k → txP la[j] = txP lb[j]) ∧ Hid (Below ((w.alloc (.cells (bkC a).toArray 32)).alloc (.cells (bkC b).toArray 32)).heap.size ((w.alloc (.cells (bkC a).toArray 32)).alloc (.cells (bkC b).toArray 32)) wr)) (fun iv _ => la.length - (intOf iv).toNat)
  case atStart => exact ⟨0, by omega, rfl, fun j _ _ h => absurd h (Nat.not_lt_zero _), D3.out⟩
  case round =>
    clear V3 D3
    obtain ⟨k, hk, rfl, HE, Hb⟩ := hrel
    have L1 : Hid (w.heap.size < ((w.alloc (.cells (bkC a).toArray 32)).alloc (.cells (bkC b).toArray 32)).heap.size) := by show _ < _; have := HL2.out; omega
    have L2 : Hid (w.heap.size + 1 < ((w.alloc (.cells (bkC a).toArray 32)).alloc (.cells (bkC b).toArray 32)).heap.size) := by show _ < _; have := HL2.out; omega
    have ca : wr.cell? ⟨w.heap.size, 130, none⟩ = some (.slice a.B la.length a.d) := by have h := (HRa.out.below Hb.out L1.out).t; rw [HLa.out] at h; exact h
    have cb : wr.cell? ⟨w.heap.size + 1, 130, none⟩ = some (.slice b.B lb.length b.d) := by have h := (HRb.out.below Hb.out L2.out).t; rw [HLb.out] at h; exact h
    have HBg : Hid (Below w.heap.size w wr) := nxTr Hb0.out Hb.out
    by_cases hlt : k < la.length
    · have hlt' : k < lb.length := by rw [← HL.out]; exact hlt
      have hin : (k : Int) < (la.length : Int) := by omega
      have hin2 : (k : Int) < (lb.length : Int) := by omega
      obtain ⟨ba, oa, hA, hba, hra⟩ := txsC_row TA.out.s (by omega)
      obtain ⟨bb, ob, hB, hbb, hrb⟩ := txsC_row TB.out.s (by omega)
      have hr1 := rngB (hra k hlt) HBg.out hba
      have hr2 := rngB (hrb k hlt') HBg.out hbb
      have ht := (TA.out.each _ (List.getElem_mem hlt)).later HBg.out
      have hu := (TB.out.each _ (List.getElem_mem hlt')).later HBg.out
      rw [hA] at ca
      rw [hB] at cb
      obtain ⟨t, het⟩ : ∃ t, la[k] = t := ⟨_, rfl⟩
      obtain ⟨u, heu⟩ : ∃ t, lb[k] = t := ⟨_, rfl⟩
      rw [het] at hr1 ht
      rw [heu] at hr2 hu
      have HRt := Lib.hid hr1
      have HRu := Lib.hid hr2
      have HT := Lib.hid ht
      have HU := Lib.hid hu
      have HEt : Hid (la[k] = t) := het
      have HEu : Hid (lb[k] = u) := heu
      have Lba : Hid (ba < wr.heap.size) := Nat.lt_of_lt_of_le hba HBg.out.size
      have Lbb : Hid (bb < wr.heap.size) := Nat.lt_of_lt_of_le hbb HBg.out.size
      have Lg1 : Hid (w.heap.size < wr.heap.size) := Nat.lt_of_lt_of_le L1.out Hb.out.size
      have Lg2 : Hid (w.heap.size + 1 < wr.heap.size) := Nat.lt_of_lt_of_le L2.out Hb.out.size
      have HSZt : Hid ((Tryz.prog.info? 66).map (·.size) = some (txC t).length) := Tryz.sizeTx
      have HSZu : Hid ((Tryz.prog.info? 66).map (·.size) = some (txC u).length) := Tryz.sizeTx
      have CA := Lib.hid ca
      have CB := Lib.hid cb
      have hwk : IntKind.i64.wrap ((k : Int) + 1) = (k : Int) + 1 := by rw [IntKind.wrap_i64]; have := TA.out.m; omega
      clear hA hB hba hra hbb hrb hr1 hr2 ht hu het heu
      go_wp2_with fail
      clear ca cb
      refine wp_region_held_drew (S := fun W => W.cell? ⟨w.heap.size, 130, none⟩ = some (.slice (some ⟨ba, oa, none⟩) la.length a.d) ∧ W.cell? ⟨w.heap.size + 1, 130, none⟩ = some (.slice (some ⟨bb, ob, none⟩) lb.length b.d) ∧ W.rangeAt ba (oa + k * 3) (txC t) ∧ W.rangeAt bb (ob + k * 3) (txC u)) (by kernel_rfl) ⟨CA.out, CB.out, HRt.out, HRu.out⟩ (fun hHeld => ?_)
      refine wpAnyH_take (i := 0) (oi := ⟨_, _, _, _, _, _⟩) (v := ?_) rfl (by kernel_rfl) (by kernel_rfl) (by kernel_rfl) (fun _ _ _ h => h) (Or.inl ⟨by rfl, ?_⟩) (by assumption) ?_
      rotate_left 1
      · intro W hSw
        try dsimp only at hSw
        go_simp
        try with_reducible rfl
      try simp only [Act.put, List.setIfInBounds_toArray, List.set_cons_zero, List.set_cons_succ]
      refine wpAnyH_take (i := 5) (oi := ⟨_, _, _, _, _, _⟩) (v := ?_) rfl (by kernel_rfl) (by kernel_rfl) (by kernel_rfl) (fun _ _ _ h => h) (Or.inl ⟨by rfl, ?_⟩) (by assumption) ?_
      rotate_left 1
      · intro W hSw
        try dsimp only at hSw
        go_simp
        try with_reducible rfl
      try simp only [Act.put, List.setIfInBounds_toArray, List.set_cons_zero, List.set_cons_succ]
      refine wpAnyH_take (i := 1) (oi := ⟨_, _, _, _, _, _⟩) (v := ?_) rfl (by kernel_rfl) (by kernel_rfl) (by kernel_rfl) (fun _ _ _ h => h) (Or.inl ⟨by rfl, ?_⟩) (by assumption) ?_
      rotate_left 1
      · intro W hSw
        have hcw := hSw.1
        clear hSw
        go_simp
        try with_reducible rfl
      try simp only [Act.put, List.setIfInBounds_toArray, List.set_cons_zero, List.set_cons_succ]
      refine wpAnyH_take (i := 6) (oi := ⟨_, _, _, _, _, _⟩) (v := ?_) rfl (by kernel_rfl) (by kernel_rfl) (by kernel_rfl) (fun _ _ _ h => h) (Or.inl ⟨by rfl, ?_⟩) (by assumption) ?_
      rotate_left 1
      · intro W hSw
        have hcw := hSw.2.1
        clear hSw
        go_simp
        try with_reducible rfl
      try simp only [Act.put, List.setIfInBounds_toArray, List.set_cons_zero, List.set_cons_succ]
      refine wpAnyH_take (i := 2) (oi := ⟨_, _, _, _, _, _⟩) (v := ?_) rfl (by kernel_rfl) (by kernel_rfl) (by kernel_rfl) (fun _ _ _ h => h) (Or.inl ⟨by rfl, ?_⟩) (by assumption) ?_
      rotate_left 1
      · intro W hSw
        try dsimp only at hSw
        go_simp
        try with_reducible rfl
      try simp only [Act.put, List.setIfInBounds_toArray, List.set_cons_zero, List.set_cons_succ]
      refine wpAnyH_take (i := 7) (oi := ⟨_, _, _, _, _, _⟩) (v := ?_) rfl (by kernel_rfl) (by kernel_rfl) (by kernel_rfl) (fun _ _ _ h => h) (Or.inl ⟨by rfl, ?_⟩) (by assumption) ?_
      rotate_left 1
      · intro W hSw
        try dsimp only at hSw
        go_simp
        try with_reducible rfl
      try simp only [Act.put, List.setIfInBounds_toArray, List.set_cons_zero, List.set_cons_succ]
      refine wpAnyH_take (i := 3) (oi := ⟨_, _, _, _, _, _⟩) (v := ?_) rfl (by kernel_rfl) (by kernel_rfl) (by kernel_rfl) (fun _ _ _ h => h) (Or.inl ⟨by rfl, ?_⟩) (by assumption) ?_
      rotate_left 1
      · intro W hSw
        try dsimp only at hSw
        go_simp
        try with_reducible rfl
      try simp only [Act.put, List.setIfInBounds_toArray, List.set_cons_zero, List.set_cons_succ]
      refine wpAnyH_take (i := 8) (oi := ⟨_, _, _, _, _, _⟩) (v := ?_) rfl (by kernel_rfl) (by kernel_rfl) (by kernel_rfl) (fun _ _ _ h => h) (Or.inl ⟨by rfl, ?_⟩) (by assumption) ?_
      rotate_left 1
      · intro W hSw
        try dsimp only at hSw
        go_simp
        try with_reducible rfl
      try simp only [Act.put, List.setIfInBounds_toArray, List.set_cons_zero, List.set_cons_succ]
      refine wpAnyH_take (i := 4) (oi := ⟨_, _, _, _, _, _⟩) (v := .agg (txC t).toArray) rfl (by kernel_rfl) (by kernel_rfl) (by kernel_rfl) (fun _ _ _ h => h) (yieldsIf_load_mid (by rfl) 66 (.tmp 31) rfl (ba) (oa + k * 3) rfl (txC t) _ (fun W h => h.2.2.1) Tryz.underlying66 rfl HSZt.out) (by assumption) ?_
      try simp only [Act.put, List.setIfInBounds_toArray, List.set_cons_zero, List.set_cons_succ]
      refine wpAnyH_take (i := 9) (oi := ⟨_, _, _, _, _, _⟩) (v := .agg (txC u).toArray) rfl (by kernel_rfl) (by kernel_rfl) (by kernel_rfl) (fun _ _ _ h => h) (yieldsIf_load_mid (by rfl) 66 (.tmp 36) rfl (bb) (ob + k * 3) rfl (txC u) _ (fun W h => h.2.2.2) Tryz.underlying66 rfl HSZu.out) (by assumption) ?_
      try simp only [Act.put, List.setIfInBounds_toArray, List.set_cons_zero, List.set_cons_succ]
      refine wpAnyH_ready (rs := [10]) (by kernel_rfl) (by simp) ?_
      refine AllReadyH.cons rfl (fun K hK => ?_) AllReadyH.nil
      go_simp
      go_at_call 28
      refine (rsame_any wr.drew t u (HT.out.later ⟨rfl, rfl, rfl, Nat.le_refl _, fun _ _ => rfl⟩) (HU.out.later ⟨rfl, rfl, rfl, Nat.le_refl _, fun _ _ => rfl⟩)).mono ?_
      unfold SamePost
      rintro e w5 ⟨z, rfl, hz, hb⟩
      have D5 : Hid (Below wr.heap.size wr w5) := ⟨hb.os, hb.tape, hb.output, hb.size, hb.block⟩
      clear hb
      refine hK.out _ _ ⟨(D5.out.cell (p := ⟨w.heap.size, 130, none⟩) Lg1.out).trans CA.out, (D5.out.cell (p := ⟨w.heap.size + 1, 130, none⟩) Lg2.out).trans CB.out, rngB HRt.out D5.out Lba.out, rngB HRu.out D5.out Lbb.out⟩ (fun hSn => ?_)
      clear hK K
      try simp only [Act.put, List.setIfInBounds_toArray, List.set_cons_zero, List.set_cons_succ]
      refine wpAnyH_take (i := 11) (oi := ⟨_, _, _, _, _, _⟩) (v := ?_) rfl (by kernel_rfl) (by kernel_rfl) (by kernel_rfl) (fun _ _ _ h => h) (Or.inl ⟨by rfl, ?_⟩) (by assumption) ?_
      rotate_left 1
      · intro W hSw
        try dsimp only at hSw
        go_simp
        try with_reducible rfl
      try simp only [Act.put, List.setIfInBounds_toArray, List.set_cons_zero, List.set_cons_succ]
      refine wpAnyH_done (by kernel_rfl) ?_ _
      have HZz := Lib.hid hz
      have Hb5 : Hid (Below ((w.alloc (.cells (bkC a).toArray 32)).alloc (.cells (bkC b).toArray 32)).heap.size ((w.alloc (.cells (bkC a).toArray 32)).alloc (.cells (bkC b).toArray 32)) w5) := nxTr Hb.out D5.out
      clear hz hHeld hSn D5 CA CB HRt HRu
      cases z with
      | true =>
        have HE' : Hid (∀ j (h1 : j < la.length) (h2 : j < lb.length), j < k + 1 → txP la[j] = txP lb[j]) := by
          intro j h1 h2 hj
          by_cases h3 : j < k
          · exact HE.out j h1 h2 h3
          · obtain rfl : j = k := by omega
            rw [HEt.out, HEu.out]; exact HZz.out.1 rfl
        go_wp2
        go_roundw
        case rel => exact ⟨k + 1, by omega, by go_num, HE'.out, Hb5.out⟩
        case measure => simp [intOf] <;> omega
      | false =>
        have HNo : Hid (bkD a ≠ bkD b) := fun e => by
          have h := HDd.out.1 e
          have h1 : (la.map txP)[k]? = (lb.map txP)[k]? := by rw [h]
          rw [List.getElem?_map, List.getElem?_map, List.getElem?_eq_getElem hlt, List.getElem?_eq_getElem hlt', HEt.out, HEu.out] at h1
          have h2 : txP t = txP u := Option.some.inj h1
          have h3 := HZz.out.2 h2
          cases h3
        go_wp2
        go_ret
        exact ⟨false, rfl, bkD_no rfl HNo.out, nxTr Hb0.out Hb5.out⟩
    · obtain rfl : k = la.length := by omega
      have HYes : Hid (bkD a = bkD b) := HDd.out.2 (by
        apply List.ext_getElem
        · rw [List.length_map, List.length_map]; exact HL.out
        · intro i h1 h2
          rw [List.length_map] at h1 h2
          rw [List.getElem_map, List.getElem_map]
          exact HE.out i h1 h2 h1)
      clear hlt
      go_wp2
      go_ret
      exact ⟨true, rfl, ⟨fun _ => HYes.out, fun _ => rfl⟩, HBg.out⟩
end Go.Proofs.YtbloomnifhcgbaaGreatDoor

namespace Go.Proofs.YtbloomnifhcgbaaGreatDoor
open Go.RowKit

set_option maxHeartbeats 1000000 in
set_option maxRecDepth 100000 in
theorem breads_any (w : World) (hTb : Tabs w) (A : Option Addr) (c : Nat) (bs : List UInt8) (hS : Sees w w.heap.size A bs) (hbc : bs.length ≤ c) (hcm : c ≤ maxLen) :
    Calls Tryz.prog 3 #[.slice A bs.length c] w fun e w' => e = .returned (.bool true) ∧ Below w.heap.size w w' := by
  have HT := Lib.hid hTb
  have HS := Lib.hid hS
  have HBC := Lib.hid hbc
  have HCM := Lib.hid hcm
  clear hTb hS hbc hcm
  by_cases h2 : bs.length ≤ 20000
  rotate_left 1
  · have hg : (20000 : Int) < (bs.length : Int) := by omega
    clear h2
    go_enter Tryz.func3, Tryz.ntmps3
    go_wp2_with (go_at_call 5; refine (known6_any w).mono ?_; rintro e w3 ⟨rfl, hb⟩; have V3 := Lib.hid hb; clear hb)
    go_ret
    exact ⟨rfl, V3.out⟩
  have hg : ¬ (20000 : Int) < (bs.length : Int) := by omega
  have HL : Hid (bs.length ≤ 1099511627776) := by show _ ≤ _; omega
  obtain ⟨ob, hob⟩ : ∃ z, bofB bs = z := ⟨_, rfl⟩
  have HOb := Lib.hid hob
  obtain ⟨V, hV⟩ : ∃ V, bofV bs = V := ⟨_, rfl⟩
  have HV := Lib.hid hV
  clear h2 hob hV
  cases ob
  all_goals
    go_enter Tryz.func3, Tryz.ntmps3
    go_wp2_with (first
      | (go_at_call 6; refine (bof_any w HT.out w.heap.size A bs c HS.out HL.out).mono ?_; unfold BOfPost; rw [HOb.out, HV.out]; rintro e w2 ⟨k1, rfl, hv1, hk1, hb1⟩; have P1 : Hid (bkD k1 = V) := hv1; have K1 := Lib.hid hk1; have V1 : Hid (Below w.heap.size w w2) := hb1; clear hv1 hk1 hb1)
      | ((with_reducible show wpList _ _ _ (⟨none, .store 32 (.tmp 3) _, _, _, _, _⟩ :: _) _ _); show wpList _ _ _ _ _ (w2.alloc (.cells Tryz.zeroCells32 32)); refine wpList_store_all rfl 32 (.tmp 3) (.tmp 14) rfl w2.heap.size 32 Tryz.zeroCells32 (bkC k1).toArray rfl rfl (heap_alloc_new w2 _) (by rw [bkZ_row, List.size_toArray, bkC_len K1.out.h.f]) (bkSz' (b := k1) K1.out.h.f) (bkC_one k1) ?_; intro w3 h5 h6 h7; have B3 := Lib.hid h5; have D3 : Hid (Below w2.heap.size w2 w3) := (nxAl (nxRf w2) _).trans (h6.below (nxAl (nxRf w2) _).size (fun k hk => by omega)); have V3 : Hid (Below w.heap.size w w3) := nxTr V1.out D3.out; clear h5 h6 h7)
      | (go_at_call 7; refine (rbof_any w3 A bs c ((HS.out.below V3.out).size) HBC.out HCM.out HL.out).mono ?_; unfold RBOfPost; rw [HOb.out, HV.out]; rintro e w4 ⟨k2, rfl, hv2, hk2, hb2⟩; have P2 : Hid (bkD k2 = V) := hv2; have K2 := Lib.hid hk2; have D4 : Hid (Below w3.heap.size w3 w4) := hb2; clear hv2 hk2 hb2)
      | ((with_reducible show wpList _ _ _ (⟨none, .store 32 (.tmp 5) _, _, _, _, _⟩ :: _) _ _); show wpList _ _ _ _ _ (w4.alloc (.cells Tryz.zeroCells32 32)); refine wpList_store_all rfl 32 (.tmp 5) (.tmp 19) rfl w4.heap.size 32 Tryz.zeroCells32 (bkC k2).toArray rfl rfl (heap_alloc_new w4 _) (by rw [bkZ_row, List.size_toArray, bkC_len K2.out.h.f]) (bkSz' (b := k2) K2.out.h.f) (bkC_one k2) ?_; intro w5 h5 h6 h7; have B5 := Lib.hid h5; have D5 : Hid (Below w4.heap.size w4 w5) := (nxAl (nxRf w4) _).trans (h6.below (nxAl (nxRf w4) _).size (fun k hk => by omega)); have D35 : Hid (Below w3.heap.size w3 w5) := nxTr D4.out D5.out; have V5 : Hid (Below w.heap.size w w5) := nxTr V3.out D35.out; clear h5 h6 h7)
      | ((with_reducible show wpList _ _ _ (⟨some 21, _, _, _, _, _⟩ :: _) _ _); refine wpList_load_mid rfl 32 (.tmp 3) rfl w2.heap.size 0 rfl (bkC k1) _ (rngB (blkR B3.out) D35.out B3.out.lt) Tryz.underlying32 rfl (bkSz (b := k1) K1.out.h.f) ?_)
      | ((with_reducible show wpList _ _ _ (⟨some 22, _, _, _, _, _⟩ :: _) _ _); refine wpList_load_mid rfl 32 (.tmp 5) rfl w4.heap.size 0 rfl (bkC k2) _ (blkR B5.out) Tryz.underlying32 rfl (bkSz (b := k2) K2.out.h.f) ?_)
      | (go_at_call 8; refine (rsame6_any w5 k1 k2 ((K1.out.later D3.out).later D35.out) (K2.out.later D5.out)).mono ?_; unfold BSame; rintro e w6 ⟨z, rfl, hz, hb⟩; obtain rfl : z = true := hz.2 (P1.out.trans P2.out.symm); have V6 : Hid (Below w.heap.size w w6) := nxTr V5.out hb; clear hz hb)
      | (go_at_call 9; refine (num6_any _ _).mono ?_; rintro e wn ⟨rfl, hwn⟩; obtain rfl := hwn.symm)
      | (go_at_call 5; refine (known6_any _).mono ?_; rintro e w7 ⟨rfl, hb⟩; have V7 := Lib.hid (nxTr V6.out hb); clear hb))
    go_ret
    exact ⟨rfl, V7.out⟩
end Go.Proofs.YtbloomnifhcgbaaGreatDoor
