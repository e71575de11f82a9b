/-
  block: the program's readTxs.
-/
import Derived.Test.YtpfjkjogljilnaaDoorBkB
import Derived.Test.YtpfjkjogljilnaaDoorBk2
import Derived.Test.YtpfjkjogljilnaaDoorTxF0
namespace Go.Proofs.YtpfjkjogljilnaaDoor
open Go.RowKit

/-- Reading so many transactions: none, where one of them is none. -/
def readTs : Nat → Option (List UInt8) → Option (List TxP) × Option (List UInt8)
  | 0, s => (some [], s)
  | k + 1, s => match readTs k s with
    | (none, r) => (none, r)
    | (some l, r) => if ofB (blobPiece r) then (some (l ++ [ofP (blobPiece r)]), blobRest r) else (none, blobRest r)
theorem readTs_good {k : Nat} {s r : Option (List UInt8)} {l : List TxP} (h : readTs k s = (some l, r)) (hg : ofB (blobPiece r) = true) : readTs (k + 1) s = (some (l ++ [ofP (blobPiece r)]), blobRest r) := by
  rw [readTs, h]; simp [hg]
theorem readTs_bad {k : Nat} {s r : Option (List UInt8)} {l : List TxP} (h : readTs k s = (some l, r)) (hg : ofB (blobPiece r) = false) : ∀ n, k < n → (readTs n s).1 = none := by
  intro n hn
  induction n with
  | zero => omega
  | succ n ih =>
    by_cases hkn : k = n
    · subst hkn
      rw [readTs, h]; simp [hg]
    · have h1 := ih (by omega)
      rw [readTs]
      cases hq : readTs n s with
      | mk a c =>
        rw [hq] at h1
        have h2 : a = none := h1
        subst h2
        rfl
theorem blobRest_le (s : Option (List UInt8)) : lenS (blobRest s) ≤ lenS s := Nat.le_trans (lenS_cutRest _ _ _) (lenS_cutRest _ _ _)
theorem blobPiece_le (s : Option (List UInt8)) : (blobPiece s).length ≤ lenS s := Nat.le_trans (cutPiece_lt _ _ _) (lenS_cutRest _ _ _)
theorem readTs_le (k : Nat) (s : Option (List UInt8)) : lenS (readTs k s).2 ≤ lenS s := by
  induction k with
  | zero => exact Nat.le_refl _
  | succ k ih =>
    rw [readTs]
    cases hq : readTs k s with
    | mk a r =>
      rw [hq] at ih
      have ih2 : lenS r ≤ lenS s := ih
      cases a with
      | none => exact ih2
      | some l =>
        cases hg : ofB (blobPiece r) with
        | true => simp only [hg, if_true]; exact Nat.le_trans (blobRest_le r) ih2
        | false => simp only [hg, Bool.false_eq_true, if_false]; exact Nat.le_trans (blobRest_le r) ih2
def rtN (s : Option (List UInt8)) : Nat := min (ofLe (cutPiece s 2 true)) 201
def rtS (s : Option (List UInt8)) : Option (List TxP) × Option (List UInt8) := readTs (rtN s) (cutRest s 2 true)
/-- The blocks that an own row lies in, and all that are older. -/
def Older (B : Nat) (A : Option Addr) : Nat → Prop := fun j => j < B ∨ A.map (·.block) = some j
/-- What readTxs answers. -/
structure RTxs (w : World) (g : Nat) (d : Option Nat) (st : Option (List UInt8)) (B : Option Addr) (l : List TxR) (c : Nat) (w' : World) : Prop where
  r : (rtS st).1 = some (l.map txP)
  rd : Rd w' g d (rtS st).2
  k : Kept (fun j => j < w.heap.size) w' (fun W => TxsOk W B l c)
  v : Keeps (· = g) w w'
def RTxsPost (w : World) (g : Nat) (d : Option Nat) (st : Option (List UInt8)) (e : Ending) (w' : World) : Prop :=
  (∃ B l c, e = .returned (.tuple #[.slice B l.length c, .int .i64 0]) ∧ RTxs w g d st B l c w') ∨ (e = .returned (.tuple #[.slice none 0 0, .int .i64 4]) ∧ (rtS st).1 = none ∧ Keeps (· = g) w w')
theorem txsC_snoc (l : List TxR) (t : TxR) : txsC (l ++ [t]) = txsC l ++ txC t := by simp [txsC]
theorem txsC_len (l : List TxR) : (txsC l).length = l.length * 3 := by
  induction l with
  | nil => rfl
  | cons t r ih =>
    have e : txsC (t :: r) = txC t ++ txsC r := by simp [txsC]
    rw [e, List.length_append, ih, txC_3, List.length_cons]; omega

set_option maxHeartbeats 4000000 in
set_option maxRecDepth 100000 in
theorem readTxs_any (w : World) (g : Nat) (d : Option Nat) (st : Option (List UInt8)) (hR : Rd w g d st) (hlen : lenS st ≤ 1099511627776) :
    Calls Tryd.prog 28 #[.pointer (some ⟨g, 0, none⟩)] w (RTxsPost w g d st) := by
  have HG : Hid (g < w.heap.size) := hR.lt
  have HD : Hid (∀ j, d = some j → j < w.heap.size) := fun j e => (hR.1 j e).2
  have HR0 := Lib.hid hR
  obtain ⟨c1, hc1⟩ : ∃ n, ofLe (cutPiece st 2 true) = n := ⟨_, rfl⟩
  obtain ⟨s1, hs1⟩ : ∃ s, cutRest st 2 true = s := ⟨_, rfl⟩
  obtain ⟨n1, hn1⟩ : ∃ n, rtN st = n := ⟨_, rfl⟩
  have hm1 : (if (201 : Int) < (c1 : Int) then (201 : Int) else (c1 : Int)) = (n1 : Int) := by
    rw [← hn1, rtN, hc1]; split <;> omega
  have hq1 : n1 ≤ 201 := by rw [← hn1]; exact Nat.min_le_right _ _
  have HLs1 : Hid (lenS s1 ≤ 1099511627776) := by show _ ≤ _; rw [← hs1]; exact Nat.le_trans (lenS_cutRest _ _ _) hlen
  have HRt : Hid (rtS st = readTs n1 s1) := by show _ = _; rw [rtS, hn1, hs1]
  have HC1 := Lib.hid hc1
  have HS1 := Lib.hid hs1
  have HM1 := Lib.hid hm1
  unfold RTxsPost
  clear hR hlen hc1 hs1 hn1 hm1
  go_enter Tryd.func28, Tryd.ntmps28
  go_wp2_with (first
    | (go_at_call 19; refine (rcount_s _ g d st HR0.out).mono ?_; rw [HC1.out, HS1.out]; rintro e w2 ⟨rfl, hr2, hk2, hz2⟩; have R2 := Lib.hid hr2; have K2 := Lib.hid hk2; clear hr2 hk2 hz2)
    | ((with_reducible show wpList _ _ _ (⟨some 9, _, _, _, _, _⟩ :: _) _ _); refine wpList_min rfl (.tmp 8) 201 rfl (c1 : Int) (n1 : Int) rfl HM1.out ?_))
  clear HC1 HS1 HM1 HR0
  obtain ⟨i0, hi0, hz0, hz1, hz2⟩ := infoP Tryd.txinf
  go_loopw [4, 10] (fun lv iv wr => ∃ (k : Nat) (l : List TxR) (A1 : Option Addr) (e1 : Nat) (s : Option (List UInt8)), k ≤ n1 ∧ iv = .int .i64 k ∧ lv = .slice A1 k e1 ∧ Hid (l.length = k) ∧ Hid (readTs k s1 = (some (l.map txP), s)) ∧ Hid (wr.ownsRow w.heap.size 40 3 (.slice A1 k e1) k (txsC l)) ∧ Hid (Kept (Older w.heap.size A1) wr (fun W => ∀ t ∈ l, TxOk W t)) ∧ Hid (Rd wr g d s) ∧ Hid (Keeps (· = g) w wr)) (fun _ iv _ => n1 - (intOf iv).toNat)
  case atStart => exact ⟨0, [], none, 0, s1, by omega, rfl, rfl, rfl, rfl, ⟨rfl, .inl ⟨rfl, rfl⟩⟩, (fun _ _ t h => by cases h), R2.out, K2.out⟩
  case round =>
    clear R2 K2
    obtain ⟨k, l, A1, e1, s, hk, rfl, rfl, Hl, Hrd, HO, HK, HR, HV⟩ := hrel
    have Hol : Hid (∀ j, A1.map (·.block) = some j → w.heap.size ≤ j ∧ j < wr.heap.size) := fun j hj => own_lt HO.out j (by rw [own_blk]; exact hj)
    by_cases hlt : k < n1
    · have hin : (k : Int) < (n1 : Int) := by omega
      have HLs : Hid (lenS s ≤ 1099511627776) := by
        have h1 := readTs_le k s1
        rw [Hrd.out] at h1
        exact Nat.le_trans h1 HLs1.out
      obtain ⟨p, hp⟩ : ∃ p, blobPiece s = p := ⟨_, rfl⟩
      obtain ⟨s', hs'⟩ : ∃ p, blobRest s = p := ⟨_, rfl⟩
      have HPl : Hid (p.length ≤ 1099511627776) := by show _ ≤ _; rw [← hp]; exact Nat.le_trans (blobPiece_le s) HLs.out
      have HPe := Lib.hid hp
      have HSe := Lib.hid hs'
      obtain ⟨ob, hob⟩ : ∃ z, ofB p = z := ⟨_, rfl⟩
      have HOb := Lib.hid hob
      clear hp hs' hob
      cases ob with
      | false =>
        have HNo : Hid ((rtS st).1 = none) := by show _ = _; rw [HRt.out]; exact readTs_bad Hrd.out (by rw [HPe.out]; exact HOb.out) n1 hlt
        go_wp2_with (first
          | (go_at_call 27; refine (rblob_s wr g d s HR.out HLs.out).mono ?_; unfold PiecePost; rw [HPe.out, HSe.out]; rintro e w4 ⟨A4, c4, rfl, ho4, hr4, hk4⟩; have O4 := Lib.hid (Sees.own ho4); have R4 := Lib.hid hr4; have K4 : Hid (Keeps (· = g) wr w4) := hk4; clear ho4 hr4 hk4)
          | (go_at_call 42; refine (of_anyK w4 w4.heap.size A4 p c4 O4.out HPl.out).mono ?_; unfold OfPostK; rw [HOb.out]; rintro e w5 ⟨t, rfl, hp5, ht5, hb5, hk5⟩; have P5 : Hid (txP t = ofV p) := hp5; have T5 := Lib.hid ht5; have V5 : Hid (Below w4.heap.size w4 w5) := hb5; have T5K := Lib.hid hk5; have HSZ : Hid ((Tryd.prog.info? 40).map (·.size) = some (txC t).length) := Tryd.sizeTx; have HSZ' : Hid ((Tryd.prog.info? 40).map (·.size) = some (txC t).toArray.size) := Tryd.sizeTx; clear hp5 ht5 hb5 hk5)
          | ((with_reducible show wpList _ _ _ (⟨none, .store 40 _ _, _, _, _, _⟩ :: _) _ _); show wpList _ _ _ _ _ (w5.alloc (.cells txZ 40)); refine wpList_store_all rfl 40 (.tmp 5) (.tmp 16) rfl w5.heap.size 40 txZ (txC t).toArray rfl rfl (heap_alloc_new w5 _) rfl HSZ'.out (txC_one' t) ?_; intro w6 h5 h6 h7; have B6 := Lib.hid h5; have V56 : Hid (Below w5.heap.size w5 w6) := (nxAl (nxRf w5) _).trans (h6.below (nxAl (nxRf w5) _).size (fun k hk => by omega)); have V57 : Hid (Below w5.heap.size w5 (w6.alloc (.cells (txC t).toArray 40))) := nxAl V56.out _; have V47 : Hid (Below w4.heap.size w4 (w6.alloc (.cells (txC t).toArray 40))) := nxTr V5.out V57.out; have O7 := Lib.hid (own_below (own_keepsS HO.out K4.out (fun j hj h => by have := (own_lt HO.out j hj).1; have := HG.out; omega)) V47.out (fun j hj => Nat.lt_of_lt_of_le (own_lt HO.out j hj).2 K4.out.size)); clear h5 h6 h7))
        go_ret2
        exact .inr ⟨rfl, HNo.out, Keeps.trans (HV.out.trans K4.out) ((Keeps.of_below V5.out (· = g)).trans (Keeps.of_below V56.out (· = g)))⟩
      | true =>
        go_wp2_with (first
          | (go_at_call 27; refine (rblob_s wr g d s HR.out HLs.out).mono ?_; unfold PiecePost; rw [HPe.out, HSe.out]; rintro e w4 ⟨A4, c4, rfl, ho4, hr4, hk4⟩; have O4 := Lib.hid (Sees.own ho4); have R4 := Lib.hid hr4; have K4 : Hid (Keeps (· = g) wr w4) := hk4; clear ho4 hr4 hk4)
          | (go_at_call 42; refine (of_anyK w4 w4.heap.size A4 p c4 O4.out HPl.out).mono ?_; unfold OfPostK; rw [HOb.out]; rintro e w5 ⟨t, rfl, hp5, ht5, hb5, hk5⟩; have P5 : Hid (txP t = ofV p) := hp5; have T5 := Lib.hid ht5; have V5 : Hid (Below w4.heap.size w4 w5) := hb5; have T5K := Lib.hid hk5; have HSZ : Hid ((Tryd.prog.info? 40).map (·.size) = some (txC t).length) := Tryd.sizeTx; have HSZ' : Hid ((Tryd.prog.info? 40).map (·.size) = some (txC t).toArray.size) := Tryd.sizeTx; clear hp5 ht5 hb5 hk5)
          | ((with_reducible show wpList _ _ _ (⟨none, .store 40 _ _, _, _, _, _⟩ :: _) _ _); show wpList _ _ _ _ _ (w5.alloc (.cells txZ 40)); refine wpList_store_all rfl 40 (.tmp 5) (.tmp 16) rfl w5.heap.size 40 txZ (txC t).toArray rfl rfl (heap_alloc_new w5 _) rfl HSZ'.out (txC_one' t) ?_; intro w6 h5 h6 h7; have B6 := Lib.hid h5; have V56 : Hid (Below w5.heap.size w5 w6) := (nxAl (nxRf w5) _).trans (h6.below (nxAl (nxRf w5) _).size (fun k hk => by omega)); have V57 : Hid (Below w5.heap.size w5 (w6.alloc (.cells (txC t).toArray 40))) := nxAl V56.out _; have V47 : Hid (Below w4.heap.size w4 (w6.alloc (.cells (txC t).toArray 40))) := nxTr V5.out V57.out; have O7 := Lib.hid (own_below (own_keepsS HO.out K4.out (fun j hj h => by have := (own_lt HO.out j hj).1; have := HG.out; omega)) V47.out (fun j hj => Nat.lt_of_lt_of_le (own_lt HO.out j hj).2 K4.out.size)); clear h5 h6 h7)
          | ((with_reducible show wpList _ _ _ (⟨some 22, _, _, _, _, _⟩ :: _) _ _); refine wpList_load_mid rfl 40 (.tmp 5) rfl w5.heap.size 0 rfl (txC t) _ (blkR B6.out) Tryd.underlying40 rfl HSZ.out ?_)
          | ((with_reducible show wpList _ _ _ (⟨some 23, _, _, _, _, _⟩ :: _) _ _); refine wpList_build_tx rfl (.tmp 22) rfl t rfl ?_)
          | ((with_reducible show wpList _ _ _ (⟨some 24, _, _, _, _, _⟩ :: _) _ _); refine wpList_append_seesV rfl (.tmp 21) (.tmp 23) 34 rfl w.heap.size 40 i0 _ 3 56 Tryd.underlying34 hi0 hz0 hz1 hz2 rfl (by decide) (.slice A1 k e1) k (txsC l) rfl O7.out _ (some ⟨w6.heap.size, 0, none⟩) 1 1 (txC t) rfl rfl (SeesV.lit' w6 (txC t) 40) (fun u hu => txC_one' t u (by simpa using hu)) (by omega) (by omega) (Nat.le_trans HV.out.size (Nat.le_trans K4.out.size V47.out.size)) ?_; intro v8 w8 ho8 hg8 hv8; obtain ⟨A8, e8, rfl⟩ := own_form ho8; have O8 := Lib.hid ho8; have G8 := Lib.hid hg8; have NV8 := Lib.hid hv8; clear ho8 hg8 hv8))
        have Z7 : Hid ((w6.alloc (.cells (txC t).toArray 40)).heap.size = w6.heap.size + 1) := by show _ = _; simp
        have S47 := V47.out.size
        have S4 := K4.out.size
        have S5 := V5.out.size
        have S6 : w5.heap.size < w6.heap.size := B6.out.lt
        have W8 : Hid (∀ b, b < w4.heap.size → A1.map (·.block) ≠ some b → w8.heap[b]? = w4.heap[b]?) := fun b hb h2 => (G8.out.block b (by have := Z7.out; omega) (by rw [own_blk]; exact fun h => h2 h.symm)).trans (V47.out.block b hb)
        have S8 : Hid (w4.heap.size ≤ w8.heap.size) := Nat.le_trans S47 G8.out.size
        have K48 : Hid (Keeps (fun b => A1.map (·.block) = some b) w4 w8) := ⟨G8.out.os.trans V47.out.os, G8.out.tape.trans V47.out.tape, G8.out.output.trans V47.out.output, S8.out, fun b hb hn => W8.out b hb hn⟩
        have N8 : Hid (∀ j, A8.map (·.block) = some j → (A1.map (·.block) = some j ∧ j < wr.heap.size) ∨ (w5.heap.size ≤ j)) := fun j hj => by
          rcases NV8.out with h | h
          · rw [own_blk, own_blk, hj] at h; exact .inl ⟨h.symm, (Hol.out j h.symm).2⟩
          · rw [own_blk, hj] at h; injection h with h; have := Z7.out; exact .inr (by omega)
        have HO8 : Hid (w8.ownsRow w.heap.size 40 3 (.slice A8 (k + 1) e8) (k + 1) (txsC (l ++ [t]))) := by show World.ownsRow _ _ _ _ _ _ _; rw [txsC_snoc]; exact O8.out
        have KW8 : Hid (Keeps (· = g) w w8) := by
          refine ⟨K48.out.os.trans (K4.out.os.trans HV.out.os), K48.out.tape.trans (K4.out.tape.trans HV.out.tape), K48.out.output.trans (K4.out.output.trans HV.out.output), Nat.le_trans HV.out.size (Nat.le_trans S4 S8.out), fun b hb hn => ?_⟩
          have h1 := HV.out.size
          exact (W8.out b (by omega) (fun h => by have := (Hol.out b h).1; omega)).trans ((K4.out.block b (by omega) hn).trans (HV.out.block b hb hn))
        have KR8 : Hid (Keeps (Older w.heap.size A1) wr w8) := ⟨K48.out.os.trans K4.out.os, K48.out.tape.trans K4.out.tape, K48.out.output.trans K4.out.output, Nat.le_trans S4 S8.out, fun b hb hn => (W8.out b (by omega) (fun h => hn (.inr h))).trans (K4.out.block b hb (fun h => hn (.inl (by have := HG.out; omega))))⟩
        have K58 : Hid (Keeps (fun j => j < w4.heap.size) w5 w8) := by
          refine ⟨G8.out.os.trans (V57.out.os), G8.out.tape.trans V57.out.tape, G8.out.output.trans V57.out.output, Nat.le_trans V57.out.size G8.out.size, fun b hb hn => ?_⟩
          have h7 := V57.out.size
          exact (G8.out.block b (by omega) (by rw [own_blk]; exact fun h => hn (by have := (Hol.out b h.symm).2; omega))).trans (V57.out.block b hb)
        have HK8 : Hid (Kept (Older w.heap.size A8) w8 (fun W => ∀ u ∈ l ++ [t], TxOk W u)) := by
          have h1 : Kept (Older w.heap.size A8) w8 (fun W => ∀ u ∈ l, TxOk W u) := HK.out.step KR8.out (fun b hb h => by
            rcases h with h | h
            · exact .inl h
            · rcases N8.out b h with h | h
              · exact .inr h.1
              · omega)
          have h2 : Kept (Older w.heap.size A8) w8 (fun W => TxOk W t) := T5K.out.step K58.out (fun b hb h => by
            have h3 := HV.out.size
            rcases h with h | h
            · omega
            · rcases N8.out b h with h | h
              · omega
              · omega)
          exact fun W hW u hu => by
            rcases List.mem_append.1 hu with hu | hu
            · exact h1 W hW u hu
            · rw [List.mem_singleton.1 hu]; exact h2 W hW
        have HR8 : Hid (Rd w8 g d s') := R4.out.keeps K48.out (fun h => by have := (Hol.out g h).1; have := HG.out; omega) (fun j e h => by have := (Hol.out j h).1; have := HD.out j e; omega)
        have Hl8 : Hid ((l ++ [t]).length = k + 1) := by show _ = _; rw [List.length_append, Hl.out]; rfl
        have Hr8 : Hid (readTs (k + 1) s1 = (some ((l ++ [t]).map txP), s')) := by
          show _ = _
          rw [readTs_good Hrd.out (by rw [HPe.out]; exact HOb.out), HPe.out, HSe.out, List.map_append]
          show (some (l.map txP ++ [ofP p]), s') = (some (l.map txP ++ [txP t]), s')
          rw [P5.out, ofV, HOb.out]; rfl
        clear HO HK HR HV Hrd R4 K4 V5 V47 V57 B6 O7 O8 G8 NV8 W8 K48 N8 KR8 K58 T5K P5 Hol T5
        go_wp2
        go_roundw
        case rel => exact ⟨k + 1, l ++ [t], A8, e8, s', by omega, by go_num, rfl, Hl8.out, Hr8.out, HO8.out, HK8.out, HR8.out, KW8.out⟩
        case measure => simp [intOf] <;> omega
    · obtain rfl : k = n1 := by omega
      have hcap := own_cap' HO.out
      have HRR : Hid (RTxs w g d st A1 l e1 wr) := by
        refine ⟨by rw [HRt.out, Hrd.out], by rw [HRt.out, Hrd.out]; exact HR.out, ?_, HV.out⟩
        have h1 : Kept (fun j => j < w.heap.size) wr (fun W => SeesV W W.heap.size A1 (txsC l)) := own_kept HO.out (fun j hj h => by have := (own_lt HO.out j hj).1; omega)
        have h2 : Kept (fun j => j < w.heap.size) wr (fun W => ∀ t ∈ l, TxOk W t) := HK.out.sub (fun b h => .inl h)
        refine (h1.and h2).mono (fun W hW => ⟨hW.1, hW.2, by rw [Hl.out]; exact hcap, by rw [Hl.out]; omega⟩)
      clear hlt HO HK HR HV Hrd hcap
      go_wp2
      go_ret2
      exact .inl ⟨A1, l, e1, by rw [Hl.out]; rfl, HRR.out⟩
end Go.Proofs.YtpfjkjogljilnaaDoor
