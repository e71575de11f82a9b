/-
  block: the program's Copy.
-/
import Derived.Test.YtjcbihdhkaiidaaBlC
import Derived.Test.YtjcbihdhkaiidaaBlB
namespace Go.Proofs.Ytjcbihdhkaiidaa
open Go.RowKit

/-- A row of its own, of which one element is stored. -/
theorem own_put {w : World} {base size n c : Nat} {e : TypeId} {A : Option Addr} {xs : List Value} (h : w.ownsRow base e size (.slice A n c) n xs) (h0 : 0 < n) :
    ∃ g cur, A = some ⟨g, 0, none⟩ ∧ base ≤ g ∧ Blk w g e cur ∧ n * size ≤ cur.size ∧ ∀ (k : Nat) (cells : List Value) (w' : World), k * size + size ≤ n * size → cells.length = size →
      Blk w' g e (cur.toList.take (k * size) ++ cells ++ cur.toList.drop (k * size + size)).toArray → w'.ownsRow base e size (.slice A n c) n (xs.take (k * size) ++ cells ++ xs.drop (k * size + size)) := by
  have hl := h.1
  rcases h.2 with ⟨hv, h1⟩ | ⟨g, cap, cur, hv, hb, hh, hnc, hcm, hcs, ht⟩
  · omega
  · injection hv with hA _ hc
    subst hA hc
    have hle : n * size ≤ c * size := Nat.mul_le_mul_right _ hnc
    refine ⟨g, cur, rfl, hb, hh, by omega, fun k cells w' hk hcl hw => ⟨?_, .inr ⟨g, c, _, rfl, hb, hw, hnc, hcm, ?_, ?_⟩⟩⟩
    · rw [List.length_append, List.length_append, List.length_take, List.length_drop, hcl]; omega
    · rw [List.size_toArray, List.length_append, List.length_append, List.length_take, List.length_drop, Array.length_toList, hcl]; omega
    · have e1 : xs.take (k * size) = cur.toList.take (k * size) := by rw [← ht, List.take_take]; congr 1; omega
      have e2 : xs.drop (k * size + size) = (cur.toList.drop (k * size + size)).take (n * size - (k * size + size)) := by rw [← ht, List.drop_take]
      rw [e1, e2, List.toList_toArray, List.take_append, List.take_of_length_le (by rw [List.length_append, List.length_take, Array.length_toList, hcl]; omega)]
      congr 2
      rw [List.length_append, List.length_take, Array.length_toList, hcl]; omega
theorem txsC_set : ∀ {L : List TxR} {k : Nat} (_ : k < L.length) (t : TxR), txsC (L.set k t) = (txsC L).take (k * 3) ++ txC t ++ (txsC L).drop (k * 3 + 3)
  | [], _, h, _ => by cases h
  | u :: r, 0, _, t => by
    rw [List.set_cons_zero, txsC_cons, txsC_cons]
    rfl
  | u :: r, k + 1, h, t => by
    have ih := txsC_set (L := r) (k := k) (by simpa using h) t
    have e1 : (txC u ++ txsC r).take ((k + 1) * 3) = txC u ++ (txsC r).take (k * 3) := by
      rw [List.take_append, List.take_of_length_le (by rw [txC_3]; omega), txC_3, show (k + 1) * 3 - 3 = k * 3 by omega]
    have e2 : (txC u ++ txsC r).drop ((k + 1) * 3 + 3) = (txsC r).drop (k * 3 + 3) := by
      rw [List.drop_append, List.drop_eq_nil_of_le (by rw [txC_3]; omega), List.nil_append, txC_3, show (k + 1) * 3 + 3 - 3 = k * 3 + 3 by omega]
    rw [List.set_cons_succ, txsC_cons, txsC_cons, ih, e1, e2]
    simp
/-- Where a block lies not. -/
structure BkOut (S : Nat → Prop) (b : BkR) : Prop where
  ps : OutS S b.h.p.ps b.h.A
  txs : OutS S b.txs b.B
  each : ∀ t ∈ b.txs, TxOut S t
theorem BkOut.mono {S S' : Nat → Prop} {b : BkR} (h : BkOut S b) (hS : ∀ j, S' j → S j) : BkOut S' b := ⟨h.ps.mono hS, h.txs.mono hS, fun t ht => (h.each t ht).mono hS⟩
theorem BkOk.keepsS {w w' : World} {S : Nat → Prop} {b : BkR} (h : BkOk w b) (k : Keeps S w w') (hn : BkOut S b) : BkOk w' b where
  h := ⟨h.h.s.keepsS k (hn.ps.imp (fun e => by rw [e]; rfl) id), h.h.f, h.h.c, h.h.m⟩
  t := ⟨h.t.s.keepsS k (hn.txs.imp (fun e => by rw [e]; rfl) id), fun t ht => (h.t.each t ht).keepsS k (hn.each t ht), h.t.d, h.t.m⟩
/-- Copy's row of transactions, of which k are copies. -/
structure BCopyAt (lo : Nat) (Wc wr : World) (ts : List TxR) (B1 : Option Addr) (d1 k : Nat) (L : List TxR) : Prop where
  len : L.length = ts.length
  done : ∀ j (h : j < L.length) (h' : j < ts.length), j < k → txP L[j] = txP ts[j] ∧ TxOk wr L[j] ∧ TxOut (· < Wc.heap.size) L[j]
  rest : ∀ j (h : j < L.length) (h' : j < ts.length), k ≤ j → L[j] = ts[j]
  own : wr.ownsRow lo 37 3 (.slice B1 ts.length d1) ts.length (txsC L)
  old : ∀ j, B1.map (·.block) = some j → j < Wc.heap.size
  keeps : Keeps (fun j => B1.map (·.block) = some j) Wc wr
theorem bcopy_next {lo : Nat} {Wc wr w6 w7 : World} {ts : List TxR} {B1 : Option Addr} {d1 k gB : Nat} {L : List TxR} {t : TxR} (h : BCopyAt lo Wc wr ts B1 d1 k L) (hk : k < ts.length) (hB : B1 = some ⟨gB, 0, none⟩)
    (hb : Below wr.heap.size wr w6) (ht : txP t = txP ts[k]) (hok : TxOk w6 t) (ho : TxOut (· < wr.heap.size) t) (hs : Keeps (· = gB) w6 w7) (hw : w7.ownsRow lo 37 3 (.slice B1 ts.length d1) ts.length (txsC (L.set k t))) : BCopyAt lo Wc w7 ts B1 d1 (k + 1) (L.set k t) where
  len := by rw [List.length_set]; exact h.len
  done := fun j h1 h2 h3 => by
    have hlt := h.old gB (by rw [hB]; rfl)
    have hsz := h.keeps.size
    rw [List.getElem_set]
    by_cases e : k = j
    · subst e
      rw [if_pos rfl]
      exact ⟨ht, hok.keepsS hs (ho.mono (fun b hb => by show b < _; have e : b = gB := hb; omega)), ho.mono (fun b (hb : b < Wc.heap.size) => by show b < _; omega)⟩
    · rw [if_neg e]
      obtain ⟨q1, q2, q3⟩ := h.done j (by simpa using h1) h2 (by omega)
      exact ⟨q1, (q2.later hb).keepsS hs (q3.mono (fun b hb => by show b < _; have e : b = gB := hb; omega)), q3⟩
  rest := fun j h1 h2 h3 => by
    rw [List.getElem_set, if_neg (by omega)]
    exact h.rest j (by simpa using h1) h2 (by omega)
  own := hw
  old := h.old
  keeps := (h.keeps.trans (Keeps.of_below hb _)).trans ⟨hs.os, hs.tape, hs.output, hs.size, fun b hb hn => hs.block b hb (fun e => hn (by rw [hB, e]; rfl))⟩
def BCopyPost (w : World) (b : BkR) (e : Ending) (w' : World) : Prop := ∃ c : BkR, e = .returned (.agg (bkC c).toArray) ∧ bkD c = bkD b ∧ BkOk w' c ∧ BkOut (· < w.heap.size) c ∧ Below w.heap.size w w'
theorem bkC_ps (b : BkR) (f : HdFit b.h.p) (A : Option Addr) (c : Nat) :
    ((bkC b).toArray.toList.take 0 ++ #[Value.slice A b.h.p.ps.length c].toList ++ (bkC b).toArray.toList.drop (0 + #[Value.slice A b.h.p.ps.length c].size)).toArray = (bkC ⟨⟨A, c, b.h.p⟩, b.B, b.txs, b.d⟩).toArray := by
  simp [bkC, hdC]
theorem bkC_txs (b : BkR) (f : HdFit b.h.p) (B : Option Addr) (d : Nat) :
    ((bkC b).toArray.toList.take 130 ++ #[Value.slice B b.txs.length d].toList ++ (bkC b).toArray.toList.drop (130 + #[Value.slice B b.txs.length d].size)).toArray = (bkC ⟨b.h, B, b.txs, d⟩).toArray := by
  have hl := hdC_len f
  have e : #[Value.slice B b.txs.length d].size = 1 := rfl
  rw [e]
  simp only [List.toList_toArray, bkC]
  rw [List.take_append_of_le_length (by omega), List.take_of_length_le (by omega), List.drop_append, hl, List.drop_eq_nil_of_le (by omega)]
  simp

theorem zv_bk (wq : World) : (zeroValue 30).run Try.prog wq = .ok (.agg (bkC noBk).toArray) wq := by kernel_rfl
theorem bcopy_w2 {w W0 w1 w2 : World} (hb : Below w.heap.size w W0) (hl : w.heap.size + 2 = W0.heap.size) (h1 : Below W0.heap.size W0 w1) (k : Keeps (· = w.heap.size) w1 w2) (_ : w2.heap.size = w1.heap.size) : Keeps (fun _ => False) w w2 := by
  have q := (Below.trans hb (show Below w.heap.size W0 w1 from ⟨h1.os, h1.tape, h1.output, h1.size, fun j hj => h1.block j (by omega)⟩)).trans (k.below (show w.heap.size ≤ w1.heap.size by have := h1.size; omega) (fun j hj => by omega))
  exact Keeps.of_below q _

set_option maxHeartbeats 4000000 in
set_option maxRecDepth 100000 in
theorem bcopy_any (w : World) (b : BkR) (h : BkOk w b) (hmax : b.h.p.ps.length ≤ 100000 ∧ b.txs.length ≤ 100000 ∧ ∀ t ∈ b.txs, t.ins.length ≤ 100000 ∧ t.outs.length ≤ 100000) : Calls Try.prog 6 #[.agg (bkC b).toArray] w (BCopyPost w b) := by
  have hb0 : Below w.heap.size w ((w.alloc (.cells (bkC b).toArray 30)).alloc (.cells (bkC noBk).toArray 30)) := nxAl (nxAl (nxRf w) _) _
  have hB2 : Blk ((w.alloc (.cells (bkC b).toArray 30)).alloc (.cells (bkC noBk).toArray 30)) w.heap.size 30 (bkC b).toArray := (show Blk (w.alloc (.cells (bkC b).toArray 30)) _ _ _ from heap_alloc_new w _).alloc _
  have hB3 : Blk ((w.alloc (.cells (bkC b).toArray 30)).alloc (.cells (bkC noBk).toArray 30)) (w.heap.size + 1) 30 (bkC noBk).toArray := blk_new (by simp)
  have HL : Hid (w.heap.size + 2 = ((w.alloc (.cells (bkC b).toArray 30)).alloc (.cells (bkC noBk).toArray 30)).heap.size) := by show _ = _; simp
  have HT := Lib.hid (h.later hb0)
  have Hs0 := Lib.hid h.t.s
  have Hok := Lib.hid h
  have HM := Lib.hid hmax
  have Hb0 := Lib.hid hb0
  have HB2 := Lib.hid hB2
  have HB3 := Lib.hid hB3
  have hc0 : ((w.alloc (.cells (bkC b).toArray 30)).alloc (.cells (bkC noBk).toArray 30)).cell? ⟨w.heap.size, 0, none⟩ = some (.slice b.h.A b.h.p.ps.length b.h.c) := (BkRow.of (blkR (vs := bkC b) hB2) h.h.f).h.ps
  have HF := Lib.hid h.h.f
  have ZB : Hid (∀ q : BkR, HdFit q.h.p → (Try.prog.info? 30).map (·.size) = some (bkC q).length) := fun q f => bkSz f
  have ZB' : Hid (∀ q : BkR, HdFit q.h.p → (Try.prog.info? 30).map (·.size) = some (bkC q).toArray.size) := fun q f => bkSz' f
  have NZ : Hid (∀ q : BkR, HdFit q.h.p → (bkC q).toArray.size = 131) := fun q f => by rw [List.size_toArray, bkC_len f]
  unfold BCopyPost
  have hzv := zv_bk
  clear h hb0 hB2 hB3 hmax
  go_enter Try.func6, Try.ntmps6
  go_upto_region 1 with fail
  try change Code.wp _ _ _ _ ((w.alloc (.cells (bkC b).toArray 30)).alloc (.cells (bkC noBk).toArray 30))
  generalize ((w.alloc (.cells (bkC b).toArray 30)).alloc (.cells (bkC noBk).toArray 30)) = W0 at *
  go_wp2_with (first
    | (go_at_call 14; refine (cloneH_any W0 b.h.A b.h.p.ps b.h.c HT.out.h.s HF.out.ps HM.out.1).mono ?_; unfold ClonePost; rintro e w1 ⟨A1, c1, rfl, ho, hb⟩; have O1 := Lib.hid ho; have V1 : Hid (Below W0.heap.size W0 w1) := hb; have B1' := Lib.hid (HB2.out.below hb HB2.out.lt); clear ho hb hc0)
    | ((with_reducible show wpList _ _ _ (⟨none, .store 22 (.tmp 10) _, _, _, _, _⟩ :: _) _ _); refine wpList_store_part rfl 22 (.tmp 10) (.tmp 8) rfl w.heap.size 0 30 (bkC b).toArray #[.slice A1 b.h.p.ps.length c1] (bkC ⟨⟨A1, c1, b.h.p⟩, b.B, b.txs, b.d⟩).toArray (.slice A1 b.h.p.ps.length c1) rfl rfl rfl B1'.out (by rw [NZ.out b HF.out]; show 0 + 1 ≤ 131; omega) (by kernel_rfl) (fun u hu => by rw [List.mem_singleton.1 hu]; rfl) (bkC_ps b HF.out A1 c1) ?_; intro w2 h5 h6 h7; have B2 := Lib.hid h5; have K2 := Lib.hid h6; have Z2 := Lib.hid h7; clear h5 h6 h7; have cB := (BkRow.of (blkR (vs := bkC ⟨⟨A1, c1, b.h.p⟩, b.B, b.txs, b.d⟩) B2.out) HF.out).t; have HS2 : Hid (SeesV w2 w2.heap.size b.B (txsC b.txs)) := ((show SeesV w w.heap.size b.B (txsC b.txs) from Hs0.out).keepsS (bcopy_w2 Hb0.out HL.out V1.out K2.out Z2.out) (.inr fun _ _ h => h)))
    | (go_at_call 15; refine (cloneT_any w2 b.B b.txs b.d HS2.out HM.out.2.1).mono ?_; unfold ClonePost; rintro e w3 ⟨B1, d1, rfl, ho, hb⟩; have O3 := Lib.hid ho; have V3 : Hid (Below w2.heap.size w2 w3) := hb; have B3 := Lib.hid (B2.out.below hb B2.out.lt); clear ho hb cB)
    | ((with_reducible show wpList _ _ _ (⟨none, .store 28 (.tmp 14) _, _, _, _, _⟩ :: _) _ _); refine wpList_store_part rfl 28 (.tmp 14) (.tmp 13) rfl w.heap.size 130 30 (bkC ⟨⟨A1, c1, b.h.p⟩, b.B, b.txs, b.d⟩).toArray #[.slice B1 b.txs.length d1] (bkC ⟨⟨A1, c1, b.h.p⟩, B1, b.txs, d1⟩).toArray (.slice B1 b.txs.length d1) rfl rfl rfl B3.out (by rw [NZ.out ⟨⟨A1, c1, b.h.p⟩, b.B, b.txs, b.d⟩ HF.out]; show 130 + 1 ≤ 131; omega) (by kernel_rfl) (fun u hu => by rw [List.mem_singleton.1 hu]; rfl) (bkC_txs ⟨⟨A1, c1, b.h.p⟩, b.B, b.txs, b.d⟩ HF.out B1 d1) ?_; intro w4 h5 h6 h7; have B4 := Lib.hid h5; have K4 := Lib.hid h6; have Z4 := Lib.hid h7; clear h5 h6 h7; have cB := (BkRow.of (blkR (vs := bkC ⟨⟨A1, c1, b.h.p⟩, B1, b.txs, d1⟩) B4.out) HF.out).t))
  have V02 : Hid (Below w.heap.size w w2) := by
    have q := bcopy_w2 Hb0.out HL.out V1.out K2.out Z2.out
    exact ⟨q.os, q.tape, q.output, q.size, fun j hj => q.block j hj (fun e => e)⟩
  have HL2 : Hid (w.heap.size + 2 ≤ w2.heap.size) := by show _ ≤ _; rw [Z2.out, HL.out]; exact V1.out.size
  have V04 : Hid (Below w.heap.size w w4) := (V02.out.trans ⟨V3.out.os, V3.out.tape, V3.out.output, V3.out.size, fun j hj => V3.out.block j (by have := HL2.out; omega)⟩).trans (K4.out.below (by have := HL2.out; have := V3.out.size; omega) (fun j hj => by omega))
  have HLc : Hid (w2.heap.size ≤ w4.heap.size) := by show _ ≤ _; rw [Z4.out]; exact V3.out.size
  have O4 : Hid (w4.ownsRow w2.heap.size 37 3 (.slice B1 b.txs.length d1) b.txs.length (txsC b.txs)) := own_keepsS O3.out K4.out (fun j hj (e : j = w.heap.size) => by have := (own_lt O3.out j hj).1; have := HL2.out; omega)
  have HC0 : Hid (BCopyAt w2.heap.size w4 w4 b.txs B1 d1 0 b.txs) := ⟨rfl, fun j _ _ h => absurd h (Nat.not_lt_zero _), fun j _ _ _ => rfl, O4.out, fun j hj => (own_lt O4.out j (by rw [own_blk]; exact hj)).2, Keeps.refl _ _⟩
  have B3r : Hid (Blk w4 (w.heap.size + 1) 30 (bkC noBk).toArray) := (((HB3.out.below V1.out HB3.out.lt).of_eq (K2.out.block _ (by have := HL2.out; have := Z2.out; omega) (by omega))).below V3.out (by have := HL2.out; omega)).of_eq (K4.out.block _ (by have := HL2.out; have := V3.out.size; omega) (by omega))
  have hM2 := HM.out.2.1
  clear cB hzv HS2 B3 B2 B1' O4
  go_loopw [3, 4, 18] (fun _ _ iv wr => ∃ (k : Nat) (L : List TxR), k ≤ b.txs.length ∧ iv = .int .i64 k ∧ Hid (BCopyAt w2.heap.size w4 wr b.txs B1 d1 k L)) (fun _ _ iv _ => b.txs.length - (intOf iv).toNat)
  case atStart => exact ⟨0, b.txs, by omega, rfl, HC0.out⟩
  case round =>
    clear HC0
    obtain ⟨k, L, hk, rfl, HC⟩ := hrel
    have HLb : Hid (∀ j, B1.map (·.block) = some j → w2.heap.size ≤ j) := fun j hj => (own_lt HC.out.own j (by rw [own_blk]; exact hj)).1
    have Vr : Hid (Below w.heap.size w wr) := V04.out.trans (HC.out.keeps.below (by have := HLc.out; have := HL2.out; omega) (fun j hj e => by have := HLb.out j e; have := HL2.out; omega))
    have Br : Hid (Blk wr w.heap.size 30 (bkC ⟨⟨A1, c1, b.h.p⟩, B1, b.txs, d1⟩).toArray) := B4.out.of_eq (HC.out.keeps.block _ B4.out.lt (fun e => by have := HLb.out _ e; have := HL2.out; omega))
    have cB := (BkRow.of (blkR (vs := bkC ⟨⟨A1, c1, b.h.p⟩, B1, b.txs, d1⟩) Br.out) HF.out).t
    by_cases hlt : k < b.txs.length
    · have hin : (k : Int) < (b.txs.length : Int) := by omega
      have hkl : k < L.length := by have := HC.out.len; omega
      obtain ⟨gB, cur, hB1, hge, hblk, hcs, hput⟩ := own_put HC.out.own (by omega)
      obtain ⟨b', off', hA', hb', hrg⟩ := txsC_row (SeesV.own HC.out.own) (by have := HC.out.len; omega)
      have hr0 := hrg k hkl
      rw [hB1] at hA'
      injection hA' with hA'
      injection hA' with hA1' hA2'
      subst hA1' hA2'
      rw [Nat.zero_add] at hr0
      have hLk := HC.out.rest k hkl hlt (Nat.le_refl _)
      have ht0 := (Hok.out.t.each _ (List.getElem_mem hlt)).later Vr.out
      have hm0 := HM.out.2.2 _ (List.getElem_mem hlt)
      rw [hLk] at hr0
      obtain ⟨t, ht⟩ : ∃ t, b.txs[k] = t := ⟨_, rfl⟩
      rw [ht] at hr0 ht0 hm0
      have HTk := Lib.hid ht
      have HRk := Lib.hid hr0
      have HOt := Lib.hid ht0
      have HMt := Lib.hid hm0
      have HBc := Lib.hid hblk
      have HPut := Lib.hid hput
      have HCs := Lib.hid hcs
      have HGl := Lib.hid hblk.lt
      have HGe : Hid (w.heap.size + 2 ≤ gB) := by show _ ≤ _; have := HL2.out; omega
      have hnf := Vr.out.size
      clear hrg hb' hr0 ht0 hm0 ht hblk hput hcs hge hLk
      subst hB1
      have HZt : Hid ((Try.prog.info? 37).map (·.size) = some (txC t).length) := Try.sizeTx
      have HZt' : Hid ((Try.prog.info? 37).map (·.size) = some (txC t).toArray.size) := Try.sizeTx
      go_wp2_with (first
        | ((with_reducible show wpList _ _ _ (⟨some 22, _, _, _, _, _⟩ :: _) _ _); refine wpList_load_mid rfl 37 (.tmp 21) rfl gB (k * 3) rfl (txC t) _ HRk.out Try.underlying37 rfl HZt.out ?_)
        | ((with_reducible show wpList _ _ _ (⟨none, .store 37 (.tmp 4) _, _, _, _, _⟩ :: _) _ _); (show wpList _ _ _ _ _ (wr.alloc (.cells txZ 37))); refine wpList_store_all rfl 37 (.tmp 4) (.tmp 22) rfl wr.heap.size 37 txZ (txC t).toArray rfl rfl (heap_alloc_new wr _) rfl HZt'.out (txC_one' t) ?_; intro w5 h5 h6 h7; have B5 := Lib.hid h5; have V5 : Hid (Below wr.heap.size wr w5) := belowFresh h6; clear h5 h6 h7))
      have cB5 := cell_later V5.out cB
      refine wp_region_held_drew (S := fun W => W.cell? ⟨w.heap.size, 130, none⟩ = some (.slice (some ⟨gB, 0, none⟩) b.txs.length d1) ∧ W.rangeAt wr.heap.size 0 (txC t)) (by kernel_rfl) ⟨cB5, blkR B5.out⟩ (fun hHeld => ?_)
      obtain ⟨q5, hq5⟩ : ∃ q, w5.drew = q := ⟨_, rfl⟩
      have V5d : Hid (Below wr.heap.size wr q5) := by show Below _ _ _; rw [← hq5]; exact nxDrI V5.out
      have B5d : Hid (Blk q5 wr.heap.size 37 (txC t).toArray) := by show Blk _ _ _ _; rw [← hq5]; exact B5.out
      rw [hq5] at hHeld ⊢
      clear hq5
      refine wpAnyH_take (i := 0) (oi := ⟨_, _, _, _, _, _⟩) (v := ?_) rfl (by kernel_rfl) (by kernel_rfl) (by kernel_rfl) (fun _ _ _ h => h) (Or.inl ⟨by rfl, ?_⟩) (by assumption) ?_
      rotate_left 1
      · intro W hSw
        try dsimp only at hSw
        skip
        go_simp
        try with_reducible rfl
      try simp only [Act.put, List.setIfInBounds_toArray, List.set_cons_zero, List.set_cons_succ]
      refine wpAnyH_take (i := 1) (oi := ⟨_, _, _, _, _, _⟩) (v := ?_) rfl (by kernel_rfl) (by kernel_rfl) (by kernel_rfl) (fun _ _ _ h => h) (Or.inl ⟨by rfl, ?_⟩) (by assumption) ?_
      rotate_left 1
      · intro W hSw
        try dsimp only at hSw
        skip
        go_simp
        try with_reducible rfl
      try simp only [Act.put, List.setIfInBounds_toArray, List.set_cons_zero, List.set_cons_succ]
      refine wpAnyH_take (i := 2) (oi := ⟨_, _, _, _, _, _⟩) (v := ?_) rfl (by kernel_rfl) (by kernel_rfl) (by kernel_rfl) (fun _ _ _ h => h) (Or.inl ⟨by rfl, ?_⟩) (by assumption) ?_
      rotate_left 1
      · intro W hSw
        try dsimp only at hSw
        skip
        go_simp
        try with_reducible rfl
      try simp only [Act.put, List.setIfInBounds_toArray, List.set_cons_zero, List.set_cons_succ]
      refine wpAnyH_take (i := 3) (oi := ⟨_, _, _, _, _, _⟩) (v := .agg (txC t).toArray) rfl (by kernel_rfl) (by kernel_rfl) (by kernel_rfl) (fun _ _ _ h => h) (yieldsIf_load_mid (by rfl) 37 (.tmp 4) rfl wr.heap.size 0 rfl (txC t) _ (fun W h => h.2) Try.underlying37 rfl HZt.out) (by assumption) ?_
      try simp only [Act.put, List.setIfInBounds_toArray, List.set_cons_zero, List.set_cons_succ]
      refine wpAnyH_ready (rs := [4]) (by kernel_rfl) (by simp) ?_
      refine AllReadyH.cons rfl (fun K hK => ?_) AllReadyH.nil
      go_simp
      go_at_call 16
      refine (copy_any _ t (HOt.out.later V5d.out) HMt.out).mono ?_
      unfold CopyPost
      rintro e w6 ⟨t', rfl, hp6, hok6, hout6, hb6⟩
      have V6 : Hid (Below wr.heap.size wr w6) := nxTr V5d.out hb6
      have P6 := Lib.hid hp6
      have K6 := Lib.hid hok6
      have U6 : Hid (TxOut (· < wr.heap.size) t') := hout6.mono (fun j (hj : j < wr.heap.size) => Nat.lt_of_lt_of_le hj V5d.out.size)
      have B6 := Lib.hid (HBc.out.below V6.out HGl.out)
      have V65 : Hid (q5.heap.size ≤ w6.heap.size) := hb6.size
      have r6 : Hid (w6.rangeAt wr.heap.size 0 (txC t)) := rngB (blkR B5d.out) hb6 B5d.out.lt
      clear hp6 hok6 hout6 hb6
      refine hK.out _ _ ⟨cell_later V6.out cB, r6.out⟩ (fun hSn => ?_)
      clear hK K
      try simp only [Act.put, List.setIfInBounds_toArray, List.set_cons_zero, List.set_cons_succ]
      refine wpAnyH_take (i := 5) (oi := ⟨_, _, _, _, _, _⟩) (v := ?_) rfl (by kernel_rfl) (by kernel_rfl) (by kernel_rfl) (fun _ _ _ h => h) (Or.inl ⟨by rfl, ?_⟩) (by assumption) ?_
      rotate_left 1
      · intro W hSw
        try dsimp only at hSw
        skip
        go_simp
        try with_reducible rfl
      try simp only [Act.put, List.setIfInBounds_toArray, List.set_cons_zero, List.set_cons_succ]
      refine wpAnyH_ready (rs := [6]) (by kernel_rfl) (by simp) ?_
      refine AllReadyH.cons rfl (fun K hK => ?_) AllReadyH.nil
      refine step_store_part (o := ⟨none, _, _, _, _, _⟩) rfl 37 (.tmp 28) (.tmp 27) rfl gB (k * 3) 37 cur (txC t').toArray _ (.agg (txC t').toArray) rfl rfl rfl B6.out (by show k * 3 + 3 ≤ cur.size; have := HCs.out; omega) Try.sizeTx (txC_one' t') rfl ?_
      intro w7 h5 h6 h7
      have hN := bcopy_next HC.out hlt rfl V6.out (P6.out.trans (by rw [HTk.out])) K6.out U6.out h6 (by rw [txsC_set hkl]; exact HPut.out k (txC t') w7 (by omega) rfl h5)
      have HN := Lib.hid hN
      have c7 : w7.cell? ⟨w.heap.size, 130, none⟩ = some (.slice (some ⟨gB, 0, none⟩) b.txs.length d1) := cell_keeps h6 (by show w.heap.size < _; have := V6.out.size; have := HGe.out; have := HGl.out; omega) (by show ¬ w.heap.size = gB; have := HGe.out; omega) (cell_later V6.out cB)
      have r7 : w7.rangeAt wr.heap.size 0 (txC t) := (fun j v hv => (h6.cell (p := ⟨wr.heap.size, 0 + j, none⟩) (by show wr.heap.size < _; have := B5d.out.lt; have := V65.out; omega) (by show ¬ wr.heap.size = gB; have := HGl.out; omega)).trans (r6.out j v hv))
      clear hN h5 h6 h7
      refine hK.out _ _ ⟨c7, r7⟩ (fun hSn => ?_)
      clear hK K
      try simp only [Act.put, List.setIfInBounds_toArray, List.set_cons_zero, List.set_cons_succ]
      refine wpAnyH_done (by kernel_rfl) ?_ _
      go_wp2_with fail
      go_roundw
      case rel => exact ⟨k + 1, _, by omega, by go_num, HN.out⟩
      case measure => simp [intOf] <;> omega
    · obtain rfl : k = b.txs.length := by omega
      have hLen := HC.out.len
      obtain ⟨u, hu⟩ : ∃ u : BkR, (⟨⟨A1, c1, b.h.p⟩, B1, L, d1⟩ : BkR) = u := ⟨_, rfl⟩
      have hcu : (bkC ⟨⟨A1, c1, b.h.p⟩, B1, b.txs, d1⟩).toArray = (bkC u).toArray := by rw [← hu]; simp [bkC, hLen]
      have HFu : Hid (HdFit u.h.p) := by show HdFit _; rw [← hu]; exact HF.out
      have hbr := Br.out
      rw [hcu] at hbr
      have Bu := Lib.hid hbr
      have Bz : Hid (Blk wr (w.heap.size + 1) 30 (bkC noBk).toArray) := B3r.out.of_eq (HC.out.keeps.block _ B3r.out.lt (fun e => by have := HLb.out _ e; have := HL2.out; omega))
      have HU := Lib.hid hu
      have hnl : ¬ ((b.txs.length : Int) < (b.txs.length : Int)) := by omega
      clear hbr hcu hu cB hlt
      go_wp2_with (first
        | ((with_reducible show wpList _ _ _ (⟨some 30, _, _, _, _, _⟩ :: _) _ _); refine wpList_load_mid rfl 30 (.tmp 1) rfl w.heap.size 0 rfl (bkC u) _ (blkR Bu.out) Try.underlying30 rfl (ZB.out u HFu.out) ?_)
        | ((with_reducible show wpList _ _ _ (⟨none, .store 30 (.tmp 2) _, _, _, _, _⟩ :: _) _ _); refine wpList_store_all rfl 30 (.tmp 2) (.tmp 30) rfl (w.heap.size + 1) 30 (bkC noBk).toArray (bkC u).toArray rfl rfl Bz.out (by rw [NZ.out u HFu.out]; rfl) (ZB'.out u HFu.out) (bkC_one u) ?_; intro w8 h5 h6 h7; have B8 := Lib.hid h5; have K8 := Lib.hid h6; clear h5 h6 h7))
      have hsw := V04.out.size
      have hrs := HC.out.keeps.size
      have hls := HL2.out
      have hlc := HLc.out
      have KA : Keeps (fun j => j < w.heap.size + 2 ∨ w2.heap.size ≤ j) w1 w8 := by
        refine (((K2.out.mono (fun j _ (e : j = w.heap.size) => .inl (by omega))).trans (Keeps.of_below V3.out _)).trans (K4.out.mono (fun j _ (e : j = w.heap.size) => .inl (by omega)))).trans ((HC.out.keeps.mono (fun j _ e => .inr (HLb.out j e))).trans (K8.out.mono (fun j _ (e : j = w.heap.size + 1) => .inl (by omega))))
      have OA := own_keepsS O1.out KA (fun j hj h => by
        have h1 := own_lt O1.out j hj
        have h2 := HL.out
        have h3 := Z2.out
        rcases h with h | h <;> omega)
      have OT := own_keepsS HC.out.own K8.out (fun j hj (e : j = w.heap.size + 1) => by have := (own_lt HC.out.own j hj).1; omega)
      have hP : bkD u = bkD b := by
        rw [← HU.out]
        refine Prod.ext rfl ?_
        show L.map txP = b.txs.map txP
        apply List.ext_getElem (by simp [hLen])
        intro j h1 h2
        rw [List.getElem_map, List.getElem_map]
        rw [List.length_map] at h1 h2
        exact (HC.out.done j h1 h2 h2).1
      have hEach : ∀ t ∈ L, TxOk w8 t ∧ TxOut (· < w4.heap.size) t := fun t ht => by
        obtain ⟨j, hj, rfl⟩ := List.getElem_of_mem ht
        obtain ⟨_, q2, q3⟩ := HC.out.done j hj (by omega) (by omega)
        exact ⟨q2.keepsS K8.out (q3.mono (fun x (e : x = w.heap.size + 1) => by show x < _; omega)), q3⟩
      have hOk : BkOk w8 u := by
        rw [← HU.out]
        exact ⟨⟨SeesV.own OA, HF.out, (own_cmS' O1.out).1, by have := HM.out.1; show b.h.p.ps.length ≤ _; omega⟩, ⟨SeesV.own (by rw [← hLen] at OT; exact OT), fun t ht => (hEach t ht).1, by show L.length ≤ d1; rw [hLen]; exact (own_cmS' HC.out.own).1, by show L.length ≤ _; omega⟩⟩
      have hOut : BkOut (· < w.heap.size) u := by
        rw [← HU.out]
        refine ⟨(own_OutS O1.out).mono (fun j (h : j < w.heap.size) => by show j < _; have := HL.out; omega), (own_OutS HC.out.own).mono (fun j (h : j < w.heap.size) => by show j < _; omega), fun t ht => (hEach t ht).2.mono (fun j (h : j < w.heap.size) => by show j < _; omega)⟩
      have hBel : Below w.heap.size w w8 := Vr.out.trans (K8.out.below (by omega) (fun j hj e => by omega))
      refine bodyPost_ret (results_cell_row Try.results6 _ _ (w.heap.size + 1) 30 _ (0, 0) _ rfl B8.out Try.underlying30 rfl (ZB'.out u HFu.out)) rfl ⟨u, rfl, hP, hOk, hOut, hBel⟩
end Go.Proofs.Ytjcbihdhkaiidaa
