/-
  block: the program's closures, asked and Check. · block: the program's asked and Check.
-/
import Derived.Test.YtpfjkjogljilnaaDoorBkB
import Derived.Test.YtpfjkjogljilnaaDoorBk1
import Derived.Test.YtpfjkjogljilnaaDoorTxF0
import Derived.Test.YtpfjkjogljilnaaDoorEq
import Derived.LoopN
namespace Go.Proofs.YtpfjkjogljilnaaDoor
open Go.RowKit

theorem unless_any (w : World) (z : Bool) (n : Int) : Calls Tryd.prog 46 #[.bool z, .int .i64 n] w fun e w' => e = .returned (.int .i64 (bif z then 0 else n)) ∧ w' = w := by
  cases z
  all_goals
    go_enter Tryd.func46, Tryd.ntmps46
    go_wp2
    go_ret
    exact ⟨rfl, rfl⟩
def notB (t : TxR) : Bool := !(checkT t == 0)
set_option maxHeartbeats 1000000 in
theorem mayNot_any (w : World) (t : TxR) (h : TxOk w t) : Calls Tryd.prog 49 #[.agg (txC t).toArray] w fun e w' => e = .returned (.bool (notB t)) ∧ Below w.heap.size w w' := by
  have hA := TxAt.new h
  have HR := Lib.hid (blkR (vs := txC t) hA.1)
  have HT := Lib.hid hA.2
  have HZ : Hid ((Tryd.prog.info? 40).map (·.size) = some (txC t).length) := Tryd.sizeTx
  have Hb0 : Hid (Below w.heap.size w (w.alloc (.cells (txC t).toArray 40))) := Lib.hid (nxAl (nxRf w) _)
  obtain ⟨z, hz⟩ : ∃ z, (checkT t == 0) = z := ⟨_, rfl⟩
  have HZz := Lib.hid hz
  unfold notB
  rw [hz]
  clear hA h hz
  go_enter Tryd.func49, Tryd.ntmps49
  go_wp2_with (first
    | ((with_reducible show wpList _ _ _ (⟨some 3, _, _, _, _, _⟩ :: _) _ _); refine wpList_load_mid rfl 40 (.tmp 1) rfl w.heap.size 0 rfl (txC t) _ HR.out Tryd.underlying40 rfl HZ.out ?_)
    | (go_at_call 60; refine (may_any _ t HT.out).mono ?_; rw [HZz.out]; rintro e w2 ⟨rfl, hb2⟩; have Hb2 : Hid (Below w.heap.size w w2) := nxTr Hb0.out hb2; clear hb2))
  go_ret
  exact ⟨rfl, Hb2.out⟩

set_option maxHeartbeats 1000000 in
set_option maxRecDepth 100000 in
theorem indexT_any (w : World) (A : Option Addr) (l : List TxR) (c : Nat) (k : TxsOk w A l c) :
    Calls Tryd.prog 63 #[.slice A l.length c, .func (.func 49) #[] #[]] w fun e w' => (∃ r : Int, e = .returned (.int .i64 r) ∧ decide (0 ≤ r) = l.any notB) ∧ Below w.heap.size w w' := by
  have HS := Lib.hid k.s
  have HI := Lib.hid k.each
  have hmax := k.m
  clear k
  go_enter Tryd.func63, Tryd.ntmps63
  go_wp2
  go_loopw [8] (fun iv wr => ∃ k : Nat, k ≤ l.length ∧ iv = .int .i64 k ∧ Hid (∀ j (h : j < l.length), j < k → notB l[j] = false) ∧ Hid (Below w.heap.size w wr)) (fun iv _ => l.length - (intOf iv).toNat)
  case atStart => exact ⟨0, by omega, rfl, fun j _ h => absurd h (Nat.not_lt_zero _), nxRf w⟩
  case round =>
    obtain ⟨k, hk, rfl, HN, Hb⟩ := hrel
    by_cases hlt : k < l.length
    · obtain ⟨b, off, rfl, hbb, hr⟩ := txsC_row HS.out (by omega)
      have hrk := rngB (hr k hlt) Hb.out hbb
      have hik := (HI.out _ (List.getElem_mem hlt)).later Hb.out
      obtain ⟨i, hi⟩ : ∃ i, l[k] = i := ⟨_, rfl⟩
      rw [hi] at hrk hik
      have HLk : Hid (l[k] = i) := hi
      have HR := Lib.hid hrk
      have HIk := Lib.hid hik
      have HZ : Hid ((Tryd.prog.info? 40).map (·.size) = some (txC i).length) := Tryd.sizeTx
      obtain ⟨z, hz⟩ : ∃ z, notB i = z := ⟨_, rfl⟩
      have HLg := Lib.hid hz
      clear hr hrk hik hi hz
      cases z with
      | true =>
        go_wp2_with (first
          | ((with_reducible show wpList _ _ _ (⟨some 15, _, _, _, _, _⟩ :: _) _ _); refine wpList_load_mid rfl 40 (.tmp 14) rfl b (off + k * 3) rfl (txC i) _ HR.out Tryd.underlying40 rfl HZ.out ?_)
          | (go_at_call 49; refine (mayNot_any wr i HIk.out).mono ?_; rw [HLg.out]; rintro e w2 ⟨rfl, hb2⟩; have Hb2 : Hid (Below w.heap.size w w2) := nxTr Hb.out hb2; clear hb2))
        go_ret
        refine ⟨⟨(k : Int), rfl, ?_⟩, Hb2.out⟩
        rw [decide_eq_true (by omega : (0 : Int) ≤ (k : Int))]
        exact (List.any_eq_true.2 ⟨l[k], List.getElem_mem hlt, by rw [HLk.out]; exact HLg.out⟩).symm
      | false =>
        have HN' : Hid (∀ j (h : j < l.length), j < k + 1 → notB l[j] = false) := by
          intro j h hj
          by_cases h1 : j < k
          · exact HN.out j h h1
          · obtain rfl : j = k := by omega
            rw [HLk.out]; exact HLg.out
        go_wp2_with (first
          | ((with_reducible show wpList _ _ _ (⟨some 15, _, _, _, _, _⟩ :: _) _ _); refine wpList_load_mid rfl 40 (.tmp 14) rfl b (off + k * 3) rfl (txC i) _ HR.out Tryd.underlying40 rfl HZ.out ?_)
          | (go_at_call 49; refine (mayNot_any wr i HIk.out).mono ?_; rw [HLg.out]; rintro e w2 ⟨rfl, hb2⟩; have Hb2 : Hid (Below w.heap.size w w2) := nxTr Hb.out hb2; clear hb2))
        go_roundw
        case rel => exact ⟨k + 1, by omega, by go_num, HN'.out, Hb2.out⟩
        case measure => simp [intOf] <;> omega
    · obtain rfl : k = l.length := by omega
      go_wp2
      go_ret
      refine ⟨⟨-1, rfl, ?_⟩, Hb.out⟩
      rw [decide_eq_false (by omega : ¬ (0 : Int) ≤ -1)]
      refine (Bool.eq_false_iff.2 fun h => ?_).symm
      obtain ⟨i, hi, hl⟩ := List.any_eq_true.1 h
      obtain ⟨j, hj, rfl⟩ := List.getElem_of_mem hi
      rw [HN.out j hj hj] at hl
      cases hl
set_option maxHeartbeats 1000000 in
set_option maxRecDepth 100000 in
theorem containsT_any (w : World) (A : Option Addr) (l : List TxR) (c : Nat) (k : TxsOk w A l c) :
    Calls Tryd.prog 48 #[.slice A l.length c, .func (.func 49) #[] #[]] w fun e w' => e = .returned (.bool (l.any notB)) ∧ Below w.heap.size w w' := by
  obtain ⟨z, hz⟩ : ∃ z, l.any notB = z := ⟨_, rfl⟩
  have h := indexT_any w A l c k
  rw [hz] at h ⊢
  have H := Lib.hid h
  clear h k hz
  go_enter Tryd.func48, Tryd.ntmps48
  cases z with
  | true =>
    go_wp2_with (go_at_call 63; refine H.out.mono ?_; rintro e w2 ⟨⟨r, rfl, hr⟩, hb2⟩; have Hb2 := Lib.hid hb2; clear hb2)
    go_ret
    exact ⟨rfl, Hb2.out⟩
  | false =>
    go_wp2_with (go_at_call 63; refine H.out.mono ?_; rintro e w2 ⟨⟨r, rfl, hr⟩, hb2⟩; have Hb2 := Lib.hid hb2; clear hb2)
    go_ret
    exact ⟨rfl, Hb2.out⟩

theorem eql_hash (x y : List UInt8) (hx : x.length = 32) (hy : y.length = 32) (wq : World) : (binOp .eql 24 (.agg (By x).toArray) (.agg (By y).toArray)).run Tryd.prog wq = .ok (.bool (x == y)) wq :=
  run_eql_bytes 32 24 5 Tryd.underlying24 Tryd.underlying5 Tryd.u8size x y hx hy
/-! what is asked -/
def askE (z : Bool) (n : Int) : Int := bif z then 0 else n
/-- Why a block has not its form. -/
def checkK (b : BkR) : Int := bif !mayH b.h.p then 2 else bif b.txs.any notB then 2 else bif !decide (b.txs.length ≤ 200) then 8 else bif !decide (idsL b.txs).Nodup then 7 else bif !(rootL (idsL b.txs) == b.h.p.rt) then 11 else 0
/-- A block in a block of its own, as the closures see it. -/
def BkAt (w : World) (g : Nat) (b : BkR) : Prop := Blk w g 42 (bkC b).toArray ∧ BkOk w b
theorem BkAt.later {w w' : World} {g : Nat} {b : BkR} (h : BkAt w g b) (hb : Below w.heap.size w w') : BkAt w' g b := ⟨h.1.below hb h.1.lt, h.2.later hb⟩
theorem BkAt.row {w : World} {g : Nat} {b : BkR} (h : BkAt w g b) : BkRow w g b := BkRow.of (blkR h.1) h.2.h.f

set_option maxHeartbeats 1000000 in
set_option maxRecDepth 100000 in
theorem bask1_any (w : World) (g : Nat) (b : BkR) (h : BkAt w g b) : Calls Tryd.prog 45 #[.pointer (some ⟨g, 0, none⟩)] w fun e w' => e = .returned (.int .i64 (askE (mayH b.h.p) 2)) ∧ Below w.heap.size w w' := by
  have HR := Lib.hid h.row.r
  have HK := Lib.hid h.2.h
  have HZ := Lib.hid (hdSz h.2.h.f)
  clear h
  go_enter Tryd.func45, Tryd.ntmps45
  go_wp2_with (first
    | ((with_reducible show wpList _ _ _ (⟨some 3, _, _, _, _, _⟩ :: _) _ _); refine wpList_load_mid rfl 27 (.tmp 2) rfl g 0 rfl (hdC b.h) _ HR.out Tryd.underlying27 rfl HZ.out ?_)
    | (go_at_call 13; refine (mayName_any _ b.h HK.out).mono ?_; rintro e w2 ⟨rfl, hb⟩; have V2 := Lib.hid hb; clear hb)
    | (go_at_call 46; refine (unless_any _ _ _).mono ?_; rintro e w3 ⟨rfl, hw3⟩; subst hw3))
  go_ret
  exact ⟨rfl, V2.out⟩
set_option maxHeartbeats 1000000 in
set_option maxRecDepth 100000 in
theorem bask2_any (w : World) (g : Nat) (b : BkR) (h : BkAt w g b) : Calls Tryd.prog 47 #[.pointer (some ⟨g, 0, none⟩)] w fun e w' => e = .returned (.int .i64 (askE (!b.txs.any notB) 2)) ∧ Below w.heap.size w w' := by
  have hc : w.cell? ⟨g, 130, none⟩ = some (.slice b.B b.txs.length b.d) := h.row.t
  have HK := Lib.hid h.2.t
  clear h
  go_enter Tryd.func47, Tryd.ntmps47
  go_wp2_with (first
    | (go_at_call 48; refine (containsT_any _ b.B b.txs b.d HK.out).mono ?_; rintro e w2 ⟨rfl, hb⟩; have V2 := Lib.hid hb; clear hb)
    | (go_at_call 46; refine (unless_any _ _ _).mono ?_; rintro e w3 ⟨rfl, hw3⟩; subst hw3))
  go_ret
  exact ⟨by cases b.txs.any notB <;> rfl, V2.out⟩
set_option maxHeartbeats 1000000 in
set_option maxRecDepth 100000 in
theorem bask3_any (w : World) (g : Nat) (b : BkR) (h : BkAt w g b) : Calls Tryd.prog 50 #[.pointer (some ⟨g, 0, none⟩)] w fun e w' => e = .returned (.int .i64 (askE (decide (b.txs.length ≤ 200)) 8)) ∧ Below w.heap.size w w' := by
  have hc : w.cell? ⟨g, 130, none⟩ = some (.slice b.B b.txs.length b.d) := h.row.t
  have hv : decide (b.txs.length ≤ 200) = decide ((b.txs.length : Int) ≤ 200) := by
    by_cases hl : b.txs.length ≤ 200
    · rw [decide_eq_true hl, decide_eq_true (by omega)]
    · rw [decide_eq_false hl, decide_eq_false (by omega)]
  have HV := Lib.hid hv
  clear h hv
  rw [HV.out]
  go_enter Tryd.func50, Tryd.ntmps50
  go_wp2_with (go_at_call 46; refine (unless_any _ _ _).mono ?_; rintro e w3 ⟨rfl, hw3⟩; subst hw3)
  go_ret
  exact ⟨rfl, nxRf _⟩
/-- Where the ids are kept. -/
def IdsAt (w : World) (gi : Nat) (ids : List (List UInt8)) : Prop := ∃ A c, Blk w gi 22 #[.slice A ids.length c] ∧ SeesV w w.heap.size A (Hs ids)
set_option maxHeartbeats 1000000 in
set_option maxRecDepth 100000 in
theorem bask4_any (w : World) (hTb : Tabs w) (g gi : Nat) (b : BkR) (h : BkAt w g b) (hi : Blk w gi 22 #[.slice none 0 0]) (hmax : b.txs.length ≤ 1000) :
    Calls Tryd.prog 51 #[.pointer (some ⟨g, 0, none⟩), .pointer (some ⟨gi, 0, none⟩)] w fun e w' => e = .returned (.int .i64 (askE (decide (idsL b.txs).Nodup) 7)) ∧ IdsAt w' gi (idsL b.txs) ∧ Keeps (· = gi) w w' := by
  have hc : w.cell? ⟨g, 130, none⟩ = some (.slice b.B b.txs.length b.d) := h.row.t
  have HK := Lib.hid h.2.t
  have HI := Lib.hid hi
  have HT := Lib.hid hTb
  have HM := Lib.hid hmax
  have HLt : Hid (gi < w.heap.size) := hi.lt
  clear h hi hTb hmax
  go_enter Tryd.func51, Tryd.ntmps51
  go_wp2_with (first
    | (go_at_call 24; refine (idsOf_any w HT.out b.B b.txs b.d HK.out HM.out).mono ?_; unfold HashesPost; rintro e w2 ⟨A2, c2, rfl, ho, hb⟩; have O2 := Lib.hid ho; have V2 := Lib.hid hb; have B2 := Lib.hid (HI.out.below hb HLt.out); have k2 : w2.cell? ⟨gi, 0, none⟩ = some (.slice none 0 0) := B2.out.cell 0; have f2 : w2.frozen? ⟨gi, 0, none⟩ = false := B2.out.frozen 0; have K3 : Hid (Keeps (· = gi) w2 (w2.setCell ⟨gi, 0, none⟩ (.slice A2 (idsL b.txs).length c2))) := (Keeps.refl (· = gi) w2).setCell (p := ⟨gi, 0, none⟩) rfl _; have O3 := Lib.hid (own_kp O2.out K3.out (fun e => by have := (own_lt O2.out gi e.symm).1; have := HLt.out; omega)); have B3 : Hid (Blk (w2.setCell ⟨gi, 0, none⟩ (.slice A2 (idsL b.txs).length c2)) gi 22 #[.slice A2 (idsL b.txs).length c2]) := B2.out.set 0 _; clear ho hb)
    | (go_at_call 52; refine (unlike_any _ A2 _ c2 (idsL b.txs) rfl (idsL_32 _) (SeesV.own O3.out) (by rw [idsL_len]; have := HM.out; omega)).mono ?_; rintro e w4 ⟨rfl, hb⟩; have V4 := Lib.hid hb; clear hb)
    | (go_at_call 46; refine (unless_any _ _ _).mono ?_; rintro e w5 ⟨rfl, hw5⟩; subst hw5))
  go_ret
  refine ⟨rfl, ⟨A2, c2, B3.out.below V4.out B3.out.lt, ((SeesV.own O3.out).later V4.out).more V4.out.size⟩, ?_⟩
  exact ((Keeps.of_below V2.out (· = gi)).trans K3.out).trans (Keeps.of_below V4.out _)
set_option maxHeartbeats 1000000 in
set_option maxRecDepth 100000 in
theorem bask5_any (w : World) (hTb : Tabs w) (g gi : Nat) (b : BkR) (f : HdFit b.h.p) (h : Blk w g 42 (bkC b).toArray) (hi : IdsAt w gi (idsL b.txs)) (hmax : b.txs.length ≤ 1000) :
    Calls Tryd.prog 53 #[.pointer (some ⟨gi, 0, none⟩), .pointer (some ⟨g, 0, none⟩)] w fun e w' => e = .returned (.int .i64 (askE (rootL (idsL b.txs) == b.h.p.rt) 11)) ∧ Below w.heap.size w w' := by
  have HR := Lib.hid (BkRow.of (blkR h) f).h.rt
  have HLt : Hid (g < w.heap.size) := h.lt
  obtain ⟨A2, c2, hb2, hs2⟩ := hi
  have HC : Hid (w.cell? ⟨gi, 0, none⟩ = some (.slice A2 (idsL b.txs).length c2)) := hb2.cell 0
  have HS := Lib.hid hs2
  have HGi : Hid (gi < w.heap.size) := hb2.lt
  have HT := Lib.hid hTb
  have HF := Lib.hid f
  have HZ := Lib.hid (hsz f.rt)
  obtain ⟨x, hx⟩ : ∃ x, rootL (idsL b.txs) = x := ⟨_, rfl⟩
  have HX := Lib.hid hx
  have HXl : Hid (x.length = 32) := by show _ = _; rw [← hx, rootL_len]
  have HM : Hid ((idsL b.txs).length ≤ 1048576) := by show _ ≤ _; rw [idsL_len]; omega
  rw [hx]
  obtain ⟨z, hz⟩ : ∃ z, (x == b.h.p.rt) = z := ⟨_, rfl⟩
  have hq := fun wq => eql_hash x b.h.p.rt HXl.out f.rt wq
  rw [hz] at hq ⊢
  clear h hb2 hs2 hTb f hx hz hmax
  go_enter Tryd.func53, Tryd.ntmps53
  go_wp2_with fail
  refine wp_region_held_drew (S := fun W => W.cell? ⟨gi, 0, none⟩ = some (.slice A2 (idsL b.txs).length c2) ∧ W.rangeAt g 1 (By b.h.p.rt)) (by kernel_rfl) ⟨HC.out, HR.out⟩ (fun hHeld => ?_)
  refine wpAnyH_take (i := 0) (oi := ⟨_, _, _, _, _, _⟩) (v := ?_) rfl (by kernel_rfl) (by kernel_rfl) (by kernel_rfl) (fun _ _ _ h => h) (Or.inl ⟨by rfl, ?_⟩) (by assumption) ?_
  rotate_left 1
  · intro W hSw
    have hcw := hSw.1
    clear hSw
    go_simp
    try with_reducible rfl
  try simp only [Act.put, List.setIfInBounds_toArray, List.set_cons_zero, List.set_cons_succ]
  refine wpAnyH_take (i := 2) (oi := ⟨_, _, _, _, _, _⟩) (v := ?_) rfl (by kernel_rfl) (by kernel_rfl) (by kernel_rfl) (fun _ _ _ h => h) (Or.inl ⟨by rfl, ?_⟩) (by assumption) ?_
  rotate_left 1
  · intro W hSw
    try dsimp only at hSw
    go_simp
    try with_reducible rfl
  try simp only [Act.put, List.setIfInBounds_toArray, List.set_cons_zero, List.set_cons_succ]
  refine wpAnyH_take (i := 3) (oi := ⟨_, _, _, _, _, _⟩) (v := ?_) rfl (by kernel_rfl) (by kernel_rfl) (by kernel_rfl) (fun _ _ _ h => h) (Or.inl ⟨by rfl, ?_⟩) (by assumption) ?_
  rotate_left 1
  · intro W hSw
    try dsimp only at hSw
    go_simp
    try with_reducible rfl
  try simp only [Act.put, List.setIfInBounds_toArray, List.set_cons_zero, List.set_cons_succ]
  refine wpAnyH_take (i := 4) (oi := ⟨_, _, _, _, _, _⟩) (v := .agg (By b.h.p.rt).toArray) rfl (by kernel_rfl) (by kernel_rfl) (by kernel_rfl) (fun _ _ _ h => h) (yieldsIf_load_mid (by rfl) 24 (.tmp 6) rfl (g) (1) rfl (By b.h.p.rt) _ (fun W h => h.2) Tryd.underlying24 rfl HZ.out) (by assumption) ?_
  try simp only [Act.put, List.setIfInBounds_toArray, List.set_cons_zero, List.set_cons_succ]
  refine wpAnyH_ready (rs := [1]) (by kernel_rfl) (by simp) ?_
  refine AllReadyH.cons rfl (fun K hK => ?_) AllReadyH.nil
  go_simp
  go_at_call 23
  refine (root_any w.drew (HT.out.later (nxDrI (nxRf w))) A2 _ c2 (idsL b.txs) rfl (idsL_32 _) HS.out HM.out).mono ?_
  rw [HX.out]
  rintro e w2 ⟨rfl, hb⟩
  have V2 : Hid (Below w.heap.size w w2) := nxUndr hb
  clear hb
  refine hK.out _ _ ⟨(V2.out.cell (p := ⟨gi, 0, none⟩) HGi.out).trans HC.out, rngB HR.out V2.out HLt.out⟩ (fun hSn => ?_)
  clear hK K
  try simp only [Act.put, List.setIfInBounds_toArray, List.set_cons_zero, List.set_cons_succ]
  refine wpAnyH_take (i := 5) (oi := ⟨_, _, _, _, _, _⟩) (v := ?_) rfl (by kernel_rfl) (by kernel_rfl) (by kernel_rfl) (fun _ _ _ h => h) (Or.inl ⟨by rfl, ?_⟩) (by assumption) ?_
  rotate_left 1
  · intro W hSw
    try dsimp only at hSw
    go_simp
    try with_reducible rfl
  try simp only [Act.put, List.setIfInBounds_toArray, List.set_cons_zero, List.set_cons_succ]
  refine wpAnyH_ready (rs := [6]) (by kernel_rfl) (by simp) ?_
  refine AllReadyH.cons rfl (fun K hK => ?_) AllReadyH.nil
  go_simp
  go_at_call 46
  refine (unless_any _ _ _).mono ?_
  rintro e wn ⟨rfl, hwn⟩
  obtain rfl := hwn.symm
  have V3 := Lib.hid V2.out
  refine hK.out _ _ ⟨(V2.out.cell (p := ⟨gi, 0, none⟩) HGi.out).trans HC.out, rngB HR.out V2.out HLt.out⟩ (fun hSn => ?_)
  clear hK K
  try simp only [Act.put, List.setIfInBounds_toArray, List.set_cons_zero, List.set_cons_succ]
  refine wpAnyH_take (i := 7) (oi := ⟨_, _, _, _, _, _⟩) (v := ?_) rfl (by kernel_rfl) (by kernel_rfl) (by kernel_rfl) (fun _ _ _ h => h) (Or.inl ⟨by rfl, ?_⟩) (by assumption) ?_
  rotate_left 1
  · intro W hSw
    try dsimp only at hSw
    go_simp
    try with_reducible rfl
  try simp only [Act.put, List.setIfInBounds_toArray, List.set_cons_zero, List.set_cons_succ]
  refine wpAnyH_done (by kernel_rfl) ?_ _
  go_wp2
  go_ret
  exact ⟨rfl, V3.out⟩
end Go.Proofs.YtpfjkjogljilnaaDoor
namespace Go.Proofs.YtpfjkjogljilnaaDoor
open Go.RowKit

def baskF : Nat → Nat
  | 0 => 45
  | 1 => 47
  | 2 => 50
  | 3 => 51
  | _ => 53
def baskA (g gi : Nat) : Nat → Array Value
  | 0 => #[.pointer (some ⟨g, 0, none⟩)]
  | 1 => #[.pointer (some ⟨g, 0, none⟩)]
  | 2 => #[.pointer (some ⟨g, 0, none⟩)]
  | 3 => #[.pointer (some ⟨g, 0, none⟩), .pointer (some ⟨gi, 0, none⟩)]
  | _ => #[.pointer (some ⟨gi, 0, none⟩), .pointer (some ⟨g, 0, none⟩)]
/-- What asked answers: five closures over the block and over a place for the ids. -/
structure BAsked (w : World) (b : BkR) (fb g gi : Nat) (w' : World) : Prop where
  xk : BkAt w' g b
  xi : Blk w' gi 22 #[.slice none 0 0]
  xv : Below w.heap.size w w'
  xg : w.heap.size ≤ g
  xgi : w.heap.size ≤ gi
  xn : gi ≠ g
  xm : gi ≠ fb
  xf : fb < w'.heap.size
  xc : ∀ j, j < 5 → w'.cell? ⟨fb, j, none⟩ = some (.func (.func (baskF j)) #[] (baskA g gi j))
set_option maxHeartbeats 1000000 in
set_option maxRecDepth 100000 in
theorem basked_any (w : World) (b : BkR) (h : BkOk w b) : Calls Tryd.prog 30 #[.agg (bkC b).toArray] w fun e w' => ∃ fb g gi, e = .returned (.slice (some ⟨fb, 0, none⟩) 5 5) ∧ BAsked w b fb g gi w' := by
  have HT : Hid (BkAt (w.alloc (.cells (bkC b).toArray 42)) w.heap.size b) := ⟨heap_alloc_new w _, h.later (nxAl (nxRf w) _)⟩
  clear h
  have hmf : ∀ (fn : Fn) (first cap : Array Value) (w : World), (Instr.makeFunc fn first cap).run Tryd.prog w = .ok (.func fn first cap) w := fun _ _ _ _ => rfl
  go_enter Tryd.func30, Tryd.ntmps30
  go_wp2
  go_ret
  refine ⟨_, w.heap.size, w.heap.size + 1, rfl, HT.out.later (nxAl (nxAl (nxRf _) _) _), ?_, nxAl (nxAl (nxAl (nxRf w) _) _) _, Nat.le_refl _, by omega, by omega, by simp, by simp, fun j hj => ?_⟩
  · exact Blk.alloc (Blk.newAt (by simp) rfl) _
  have hB := fun (T : TypeId) (cs : Array Value) (j : Nat) (v : Value) (hv : cs[j]? = some v) => ((show Blk (((w.alloc (.cells (bkC b).toArray 42)).alloc (.cells #[.slice none 0 0] 22)).alloc (.cells cs T)) (w.heap.size + 1 + 1) T cs from Blk.newAt (by simp) rfl).cell j).trans hv
  match j, hj with
  | 0, _ => exact hB _ _ 0 _ rfl
  | 1, _ => exact hB _ _ 1 _ rfl
  | 2, _ => exact hB _ _ 2 _ rfl
  | 3, _ => exact hB _ _ 3 _ rfl
  | 4, _ => exact hB _ _ 4 _ rfl
theorem askE_t (n : Int) : askE true n = 0 := rfl
theorem askE_f (n : Int) : askE false n = n := rfl

set_option maxHeartbeats 4000000 in
set_option maxRecDepth 100000 in
theorem bcheck_any (w : World) (hTb : Tabs w) (b : BkR) (h : BkOk w b) : Calls Tryd.prog 11 #[.agg (bkC b).toArray] w fun e w' => e = .returned (.int .i64 (checkK b)) ∧ Below w.heap.size w w' := by
  have hb0 : Below w.heap.size w (w.alloc (.cells (bkC b).toArray 42)) := nxAl (nxRf w) _
  have HR : Hid ((w.alloc (.cells (bkC b).toArray 42)).rangeAt w.heap.size 0 (bkC b)) := blkR (heap_alloc_new w (.cells (bkC b).toArray 42))
  have HT := Lib.hid (h.later hb0)
  have HTb := Lib.hid hTb
  have HZ := Lib.hid (bkSz h.h.f)
  have HF := Lib.hid h.h.f
  have Hb0 := Lib.hid hb0
  clear hb0 h hTb
  obtain ⟨D, hD⟩ : ∃ D, checkK b = D := ⟨_, rfl⟩
  have HV0 := Lib.hid hD
  rw [hD]
  clear hD
  cases hc0 : mayH b.h.p with
  | false =>
    have HC0 := Lib.hid hc0
    have HV : Hid (D = 2) := by
      show _ = _
      rw [← HV0.out]
      unfold checkK
      simp only [hc0, Bool.not_true, Bool.not_false, cond_true, cond_false]
    clear hc0 HV0
    go_enter Tryd.func11, Tryd.ntmps11
    go_wp2_with (first
      | ((with_reducible show wpList _ _ _ (⟨some 6, _, _, _, _, _⟩ :: _) _ _); refine wpList_load_mid rfl 42 (.tmp 1) rfl w.heap.size 0 rfl (bkC b) _ HR.out Tryd.underlying42 rfl HZ.out ?_)
      | (go_at_call 30; refine (basked_any _ b HT.out).mono ?_; rintro e w1 ⟨fb, g, gi, rfl, ha⟩; have H1 := Lib.hid ha.xk; have I1 := Lib.hid ha.xi; have V1 : Hid (Below w.heap.size w w1) := nxTr Hb0.out ha.xv; have HG := Lib.hid (Nat.le_trans Hb0.out.size ha.xg); have HGi := Lib.hid (Nat.le_trans Hb0.out.size ha.xgi); have HNg := Lib.hid ha.xn; have HNf := Lib.hid ha.xm; have HFb := Lib.hid ha.xf; have c10 := ha.xc 0 (by omega); have c11 := ha.xc 1 (by omega); have c12 := ha.xc 2 (by omega); have c13 := ha.xc 3 (by omega); have c14 := ha.xc 4 (by omega); unfold baskF baskA at c10 c11 c12 c13 c14; clear ha))
    refine wp_loop_rounds 6 ?_
    rw [rounds_succ]
    go_wp2_with (go_at_call 45; refine (bask1_any w1 g b H1.out).mono ?_; rw [HC0.out, askE_f]; rintro e w2 ⟨rfl, hb⟩; have V2 : Hid (Below w.heap.size w w2) := nxTr V1.out hb; have H2 := Lib.hid (H1.out.later hb); have I2 := Lib.hid (I1.out.below hb I1.out.lt); have HFb2 : Hid (fb < w2.heap.size) := Nat.lt_of_lt_of_le HFb.out hb.size; have c21 : w2.cell? ⟨fb, 1, none⟩ = _ := cell_later hb c11; have c22 : w2.cell? ⟨fb, 2, none⟩ = _ := cell_later hb c12; have c23 : w2.cell? ⟨fb, 3, none⟩ = _ := cell_later hb c13; have c24 : w2.cell? ⟨fb, 4, none⟩ = _ := cell_later hb c14; clear hb c10 c11 c12 c13 c14)
    go_ret
    exact ⟨by rw [HV.out] <;> rfl, V2.out⟩
  | true =>
    have HC0 := Lib.hid hc0
    cases hc1 : (!b.txs.any notB) with
    | false =>
      have HC1 := Lib.hid hc1
      have HV : Hid (D = 2) := by
        show _ = _
        rw [← HV0.out]
        unfold checkK
        have h1 : b.txs.any notB = true := by rw [Bool.not_eq_false'] at hc1; exact hc1
        simp only [hc0, h1, Bool.not_true, Bool.not_false, cond_true, cond_false]
      clear hc0 hc1 HV0
      go_enter Tryd.func11, Tryd.ntmps11
      go_wp2_with (first
        | ((with_reducible show wpList _ _ _ (⟨some 6, _, _, _, _, _⟩ :: _) _ _); refine wpList_load_mid rfl 42 (.tmp 1) rfl w.heap.size 0 rfl (bkC b) _ HR.out Tryd.underlying42 rfl HZ.out ?_)
        | (go_at_call 30; refine (basked_any _ b HT.out).mono ?_; rintro e w1 ⟨fb, g, gi, rfl, ha⟩; have H1 := Lib.hid ha.xk; have I1 := Lib.hid ha.xi; have V1 : Hid (Below w.heap.size w w1) := nxTr Hb0.out ha.xv; have HG := Lib.hid (Nat.le_trans Hb0.out.size ha.xg); have HGi := Lib.hid (Nat.le_trans Hb0.out.size ha.xgi); have HNg := Lib.hid ha.xn; have HNf := Lib.hid ha.xm; have HFb := Lib.hid ha.xf; have c10 := ha.xc 0 (by omega); have c11 := ha.xc 1 (by omega); have c12 := ha.xc 2 (by omega); have c13 := ha.xc 3 (by omega); have c14 := ha.xc 4 (by omega); unfold baskF baskA at c10 c11 c12 c13 c14; clear ha))
      refine wp_loop_rounds 6 ?_
      rw [rounds_succ]
      go_wp2_with (go_at_call 45; refine (bask1_any w1 g b H1.out).mono ?_; rw [HC0.out, askE_t]; rintro e w2 ⟨rfl, hb⟩; have V2 : Hid (Below w.heap.size w w2) := nxTr V1.out hb; have H2 := Lib.hid (H1.out.later hb); have I2 := Lib.hid (I1.out.below hb I1.out.lt); have HFb2 : Hid (fb < w2.heap.size) := Nat.lt_of_lt_of_le HFb.out hb.size; have c21 : w2.cell? ⟨fb, 1, none⟩ = _ := cell_later hb c11; have c22 : w2.cell? ⟨fb, 2, none⟩ = _ := cell_later hb c12; have c23 : w2.cell? ⟨fb, 3, none⟩ = _ := cell_later hb c13; have c24 : w2.cell? ⟨fb, 4, none⟩ = _ := cell_later hb c14; clear hb c10 c11 c12 c13 c14)
      rw [rounds_succ]
      go_wp2_with (go_at_call 47; refine (bask2_any w2 g b H2.out).mono ?_; rw [HC1.out, askE_f]; rintro e w3 ⟨rfl, hb⟩; have V3 : Hid (Below w.heap.size w w3) := nxTr V2.out hb; have H3 := Lib.hid (H2.out.later hb); have I3 := Lib.hid (I2.out.below hb I2.out.lt); have HFb3 : Hid (fb < w3.heap.size) := Nat.lt_of_lt_of_le HFb2.out hb.size; have c32 : w3.cell? ⟨fb, 2, none⟩ = _ := cell_later hb c22; have c33 : w3.cell? ⟨fb, 3, none⟩ = _ := cell_later hb c23; have c34 : w3.cell? ⟨fb, 4, none⟩ = _ := cell_later hb c24; clear hb c21 c22 c23 c24)
      go_ret
      exact ⟨by rw [HV.out] <;> rfl, V3.out⟩
    | true =>
      have HC1 := Lib.hid hc1
      cases hc2 : decide (b.txs.length ≤ 200) with
      | false =>
        have HC2 := Lib.hid hc2
        have HV : Hid (D = 8) := by
          show _ = _
          rw [← HV0.out]
          unfold checkK
          have h1 : b.txs.any notB = false := by rw [Bool.not_eq_true'] at hc1; exact hc1
          simp only [hc0, h1, hc2, Bool.not_true, Bool.not_false, cond_true, cond_false]
        clear hc0 hc1 hc2 HV0
        go_enter Tryd.func11, Tryd.ntmps11
        go_wp2_with (first
          | ((with_reducible show wpList _ _ _ (⟨some 6, _, _, _, _, _⟩ :: _) _ _); refine wpList_load_mid rfl 42 (.tmp 1) rfl w.heap.size 0 rfl (bkC b) _ HR.out Tryd.underlying42 rfl HZ.out ?_)
          | (go_at_call 30; refine (basked_any _ b HT.out).mono ?_; rintro e w1 ⟨fb, g, gi, rfl, ha⟩; have H1 := Lib.hid ha.xk; have I1 := Lib.hid ha.xi; have V1 : Hid (Below w.heap.size w w1) := nxTr Hb0.out ha.xv; have HG := Lib.hid (Nat.le_trans Hb0.out.size ha.xg); have HGi := Lib.hid (Nat.le_trans Hb0.out.size ha.xgi); have HNg := Lib.hid ha.xn; have HNf := Lib.hid ha.xm; have HFb := Lib.hid ha.xf; have c10 := ha.xc 0 (by omega); have c11 := ha.xc 1 (by omega); have c12 := ha.xc 2 (by omega); have c13 := ha.xc 3 (by omega); have c14 := ha.xc 4 (by omega); unfold baskF baskA at c10 c11 c12 c13 c14; clear ha))
        refine wp_loop_rounds 6 ?_
        rw [rounds_succ]
        go_wp2_with (go_at_call 45; refine (bask1_any w1 g b H1.out).mono ?_; rw [HC0.out, askE_t]; rintro e w2 ⟨rfl, hb⟩; have V2 : Hid (Below w.heap.size w w2) := nxTr V1.out hb; have H2 := Lib.hid (H1.out.later hb); have I2 := Lib.hid (I1.out.below hb I1.out.lt); have HFb2 : Hid (fb < w2.heap.size) := Nat.lt_of_lt_of_le HFb.out hb.size; have c21 : w2.cell? ⟨fb, 1, none⟩ = _ := cell_later hb c11; have c22 : w2.cell? ⟨fb, 2, none⟩ = _ := cell_later hb c12; have c23 : w2.cell? ⟨fb, 3, none⟩ = _ := cell_later hb c13; have c24 : w2.cell? ⟨fb, 4, none⟩ = _ := cell_later hb c14; clear hb c10 c11 c12 c13 c14)
        rw [rounds_succ]
        go_wp2_with (go_at_call 47; refine (bask2_any w2 g b H2.out).mono ?_; rw [HC1.out, askE_t]; rintro e w3 ⟨rfl, hb⟩; have V3 : Hid (Below w.heap.size w w3) := nxTr V2.out hb; have H3 := Lib.hid (H2.out.later hb); have I3 := Lib.hid (I2.out.below hb I2.out.lt); have HFb3 : Hid (fb < w3.heap.size) := Nat.lt_of_lt_of_le HFb2.out hb.size; have c32 : w3.cell? ⟨fb, 2, none⟩ = _ := cell_later hb c22; have c33 : w3.cell? ⟨fb, 3, none⟩ = _ := cell_later hb c23; have c34 : w3.cell? ⟨fb, 4, none⟩ = _ := cell_later hb c24; clear hb c21 c22 c23 c24)
        rw [rounds_succ]
        go_wp2_with (go_at_call 50; refine (bask3_any w3 g b H3.out).mono ?_; rw [HC2.out, askE_f]; rintro e w4 ⟨rfl, hb⟩; have V4 : Hid (Below w.heap.size w w4) := nxTr V3.out hb; have H4 := Lib.hid (H3.out.later hb); have I4 := Lib.hid (I3.out.below hb I3.out.lt); have HFb4 : Hid (fb < w4.heap.size) := Nat.lt_of_lt_of_le HFb3.out hb.size; have c43 : w4.cell? ⟨fb, 3, none⟩ = _ := cell_later hb c33; have c44 : w4.cell? ⟨fb, 4, none⟩ = _ := cell_later hb c34; clear hb c32 c33 c34)
        go_ret
        exact ⟨by rw [HV.out] <;> rfl, V4.out⟩
      | true =>
        have HC2 := Lib.hid hc2
        cases hc3 : decide (idsL b.txs).Nodup with
        | false =>
          have HC3 := Lib.hid hc3
          have HV : Hid (D = 7) := by
            show _ = _
            rw [← HV0.out]
            unfold checkK
            have h1 : b.txs.any notB = false := by rw [Bool.not_eq_true'] at hc1; exact hc1
            simp only [hc0, h1, hc2, hc3, Bool.not_true, Bool.not_false, cond_true, cond_false]
          have HM : Hid (b.txs.length ≤ 1000) := by show _ ≤ _; have := of_decide_eq_true hc2; omega
          clear hc0 hc1 hc2 hc3 HV0
          go_enter Tryd.func11, Tryd.ntmps11
          go_wp2_with (first
            | ((with_reducible show wpList _ _ _ (⟨some 6, _, _, _, _, _⟩ :: _) _ _); refine wpList_load_mid rfl 42 (.tmp 1) rfl w.heap.size 0 rfl (bkC b) _ HR.out Tryd.underlying42 rfl HZ.out ?_)
            | (go_at_call 30; refine (basked_any _ b HT.out).mono ?_; rintro e w1 ⟨fb, g, gi, rfl, ha⟩; have H1 := Lib.hid ha.xk; have I1 := Lib.hid ha.xi; have V1 : Hid (Below w.heap.size w w1) := nxTr Hb0.out ha.xv; have HG := Lib.hid (Nat.le_trans Hb0.out.size ha.xg); have HGi := Lib.hid (Nat.le_trans Hb0.out.size ha.xgi); have HNg := Lib.hid ha.xn; have HNf := Lib.hid ha.xm; have HFb := Lib.hid ha.xf; have c10 := ha.xc 0 (by omega); have c11 := ha.xc 1 (by omega); have c12 := ha.xc 2 (by omega); have c13 := ha.xc 3 (by omega); have c14 := ha.xc 4 (by omega); unfold baskF baskA at c10 c11 c12 c13 c14; clear ha))
          refine wp_loop_rounds 6 ?_
          rw [rounds_succ]
          go_wp2_with (go_at_call 45; refine (bask1_any w1 g b H1.out).mono ?_; rw [HC0.out, askE_t]; rintro e w2 ⟨rfl, hb⟩; have V2 : Hid (Below w.heap.size w w2) := nxTr V1.out hb; have H2 := Lib.hid (H1.out.later hb); have I2 := Lib.hid (I1.out.below hb I1.out.lt); have HFb2 : Hid (fb < w2.heap.size) := Nat.lt_of_lt_of_le HFb.out hb.size; have c21 : w2.cell? ⟨fb, 1, none⟩ = _ := cell_later hb c11; have c22 : w2.cell? ⟨fb, 2, none⟩ = _ := cell_later hb c12; have c23 : w2.cell? ⟨fb, 3, none⟩ = _ := cell_later hb c13; have c24 : w2.cell? ⟨fb, 4, none⟩ = _ := cell_later hb c14; clear hb c10 c11 c12 c13 c14)
          rw [rounds_succ]
          go_wp2_with (go_at_call 47; refine (bask2_any w2 g b H2.out).mono ?_; rw [HC1.out, askE_t]; rintro e w3 ⟨rfl, hb⟩; have V3 : Hid (Below w.heap.size w w3) := nxTr V2.out hb; have H3 := Lib.hid (H2.out.later hb); have I3 := Lib.hid (I2.out.below hb I2.out.lt); have HFb3 : Hid (fb < w3.heap.size) := Nat.lt_of_lt_of_le HFb2.out hb.size; have c32 : w3.cell? ⟨fb, 2, none⟩ = _ := cell_later hb c22; have c33 : w3.cell? ⟨fb, 3, none⟩ = _ := cell_later hb c23; have c34 : w3.cell? ⟨fb, 4, none⟩ = _ := cell_later hb c24; clear hb c21 c22 c23 c24)
          rw [rounds_succ]
          go_wp2_with (go_at_call 50; refine (bask3_any w3 g b H3.out).mono ?_; rw [HC2.out, askE_t]; rintro e w4 ⟨rfl, hb⟩; have V4 : Hid (Below w.heap.size w w4) := nxTr V3.out hb; have H4 := Lib.hid (H3.out.later hb); have I4 := Lib.hid (I3.out.below hb I3.out.lt); have HFb4 : Hid (fb < w4.heap.size) := Nat.lt_of_lt_of_le HFb3.out hb.size; have c43 : w4.cell? ⟨fb, 3, none⟩ = _ := cell_later hb c33; have c44 : w4.cell? ⟨fb, 4, none⟩ = _ := cell_later hb c34; clear hb c32 c33 c34)
          rw [rounds_succ]
          go_wp2_with (go_at_call 51; refine (bask4_any w4 (HTb.out.later V4.out) g gi b H4.out I4.out HM.out).mono ?_; rw [HC3.out, askE_f]; rintro e w5 ⟨rfl, hi5, hk5⟩; have V5 : Hid (Below w.heap.size w w5) := V4.out.trans (hk5.below V4.out.size (fun j hj h => by have := HGi.out; omega)); have I5 := Lib.hid hi5; have B5 := Lib.hid (H4.out.1.keeps hk5 (fun h => HNg.out h.symm)); have c54 : w5.cell? ⟨fb, 4, none⟩ = _ := (hk5.cell (p := ⟨fb, 4, none⟩) HFb4.out (fun h => HNf.out h.symm)).trans c44; clear hi5 hk5 c43 c44)
          go_ret
          exact ⟨by rw [HV.out] <;> rfl, V5.out⟩
        | true =>
          have HC3 := Lib.hid hc3
          cases hc4 : (rootL (idsL b.txs) == b.h.p.rt) with
          | false =>
            have HC4 := Lib.hid hc4
            have HV : Hid (D = 11) := by
              show _ = _
              rw [← HV0.out]
              unfold checkK
              have h1 : b.txs.any notB = false := by rw [Bool.not_eq_true'] at hc1; exact hc1
              simp only [hc0, h1, hc2, hc3, hc4, Bool.not_true, Bool.not_false, cond_true, cond_false]
            have HM : Hid (b.txs.length ≤ 1000) := by show _ ≤ _; have := of_decide_eq_true hc2; omega
            clear hc0 hc1 hc2 hc3 hc4 HV0
            go_enter Tryd.func11, Tryd.ntmps11
            go_wp2_with (first
              | ((with_reducible show wpList _ _ _ (⟨some 6, _, _, _, _, _⟩ :: _) _ _); refine wpList_load_mid rfl 42 (.tmp 1) rfl w.heap.size 0 rfl (bkC b) _ HR.out Tryd.underlying42 rfl HZ.out ?_)
              | (go_at_call 30; refine (basked_any _ b HT.out).mono ?_; rintro e w1 ⟨fb, g, gi, rfl, ha⟩; have H1 := Lib.hid ha.xk; have I1 := Lib.hid ha.xi; have V1 : Hid (Below w.heap.size w w1) := nxTr Hb0.out ha.xv; have HG := Lib.hid (Nat.le_trans Hb0.out.size ha.xg); have HGi := Lib.hid (Nat.le_trans Hb0.out.size ha.xgi); have HNg := Lib.hid ha.xn; have HNf := Lib.hid ha.xm; have HFb := Lib.hid ha.xf; have c10 := ha.xc 0 (by omega); have c11 := ha.xc 1 (by omega); have c12 := ha.xc 2 (by omega); have c13 := ha.xc 3 (by omega); have c14 := ha.xc 4 (by omega); unfold baskF baskA at c10 c11 c12 c13 c14; clear ha))
            refine wp_loop_rounds 6 ?_
            rw [rounds_succ]
            go_wp2_with (go_at_call 45; refine (bask1_any w1 g b H1.out).mono ?_; rw [HC0.out, askE_t]; rintro e w2 ⟨rfl, hb⟩; have V2 : Hid (Below w.heap.size w w2) := nxTr V1.out hb; have H2 := Lib.hid (H1.out.later hb); have I2 := Lib.hid (I1.out.below hb I1.out.lt); have HFb2 : Hid (fb < w2.heap.size) := Nat.lt_of_lt_of_le HFb.out hb.size; have c21 : w2.cell? ⟨fb, 1, none⟩ = _ := cell_later hb c11; have c22 : w2.cell? ⟨fb, 2, none⟩ = _ := cell_later hb c12; have c23 : w2.cell? ⟨fb, 3, none⟩ = _ := cell_later hb c13; have c24 : w2.cell? ⟨fb, 4, none⟩ = _ := cell_later hb c14; clear hb c10 c11 c12 c13 c14)
            rw [rounds_succ]
            go_wp2_with (go_at_call 47; refine (bask2_any w2 g b H2.out).mono ?_; rw [HC1.out, askE_t]; rintro e w3 ⟨rfl, hb⟩; have V3 : Hid (Below w.heap.size w w3) := nxTr V2.out hb; have H3 := Lib.hid (H2.out.later hb); have I3 := Lib.hid (I2.out.below hb I2.out.lt); have HFb3 : Hid (fb < w3.heap.size) := Nat.lt_of_lt_of_le HFb2.out hb.size; have c32 : w3.cell? ⟨fb, 2, none⟩ = _ := cell_later hb c22; have c33 : w3.cell? ⟨fb, 3, none⟩ = _ := cell_later hb c23; have c34 : w3.cell? ⟨fb, 4, none⟩ = _ := cell_later hb c24; clear hb c21 c22 c23 c24)
            rw [rounds_succ]
            go_wp2_with (go_at_call 50; refine (bask3_any w3 g b H3.out).mono ?_; rw [HC2.out, askE_t]; rintro e w4 ⟨rfl, hb⟩; have V4 : Hid (Below w.heap.size w w4) := nxTr V3.out hb; have H4 := Lib.hid (H3.out.later hb); have I4 := Lib.hid (I3.out.below hb I3.out.lt); have HFb4 : Hid (fb < w4.heap.size) := Nat.lt_of_lt_of_le HFb3.out hb.size; have c43 : w4.cell? ⟨fb, 3, none⟩ = _ := cell_later hb c33; have c44 : w4.cell? ⟨fb, 4, none⟩ = _ := cell_later hb c34; clear hb c32 c33 c34)
            rw [rounds_succ]
            go_wp2_with (go_at_call 51; refine (bask4_any w4 (HTb.out.later V4.out) g gi b H4.out I4.out HM.out).mono ?_; rw [HC3.out, askE_t]; rintro e w5 ⟨rfl, hi5, hk5⟩; have V5 : Hid (Below w.heap.size w w5) := V4.out.trans (hk5.below V4.out.size (fun j hj h => by have := HGi.out; omega)); have I5 := Lib.hid hi5; have B5 := Lib.hid (H4.out.1.keeps hk5 (fun h => HNg.out h.symm)); have c54 : w5.cell? ⟨fb, 4, none⟩ = _ := (hk5.cell (p := ⟨fb, 4, none⟩) HFb4.out (fun h => HNf.out h.symm)).trans c44; clear hi5 hk5 c43 c44)
            rw [rounds_succ]
            go_wp2_with (go_at_call 53; refine (bask5_any w5 (HTb.out.later V5.out) g gi b HF.out B5.out I5.out HM.out).mono ?_; rw [HC4.out, askE_f]; rintro e w6 ⟨rfl, hb⟩; have V6 : Hid (Below w.heap.size w w6) := nxTr V5.out hb; clear hb c54)
            go_ret
            exact ⟨by rw [HV.out] <;> rfl, V6.out⟩
          | true =>
            have HC4 := Lib.hid hc4
            have HV : Hid (D = 0) := by
              show _ = _
              rw [← HV0.out]
              unfold checkK
              have h1 : b.txs.any notB = false := by rw [Bool.not_eq_true'] at hc1; exact hc1
              simp only [hc0, h1, hc2, hc3, hc4, Bool.not_true, cond_false]
            have HM : Hid (b.txs.length ≤ 1000) := by show _ ≤ _; have := of_decide_eq_true hc2; omega
            clear hc0 hc1 hc2 hc3 hc4 HV0
            go_enter Tryd.func11, Tryd.ntmps11
            go_wp2_with (first
              | ((with_reducible show wpList _ _ _ (⟨some 6, _, _, _, _, _⟩ :: _) _ _); refine wpList_load_mid rfl 42 (.tmp 1) rfl w.heap.size 0 rfl (bkC b) _ HR.out Tryd.underlying42 rfl HZ.out ?_)
              | (go_at_call 30; refine (basked_any _ b HT.out).mono ?_; rintro e w1 ⟨fb, g, gi, rfl, ha⟩; have H1 := Lib.hid ha.xk; have I1 := Lib.hid ha.xi; have V1 : Hid (Below w.heap.size w w1) := nxTr Hb0.out ha.xv; have HG := Lib.hid (Nat.le_trans Hb0.out.size ha.xg); have HGi := Lib.hid (Nat.le_trans Hb0.out.size ha.xgi); have HNg := Lib.hid ha.xn; have HNf := Lib.hid ha.xm; have HFb := Lib.hid ha.xf; have c10 := ha.xc 0 (by omega); have c11 := ha.xc 1 (by omega); have c12 := ha.xc 2 (by omega); have c13 := ha.xc 3 (by omega); have c14 := ha.xc 4 (by omega); unfold baskF baskA at c10 c11 c12 c13 c14; clear ha))
            refine wp_loop_rounds 6 ?_
            rw [rounds_succ]
            go_wp2_with (go_at_call 45; refine (bask1_any w1 g b H1.out).mono ?_; rw [HC0.out, askE_t]; rintro e w2 ⟨rfl, hb⟩; have V2 : Hid (Below w.heap.size w w2) := nxTr V1.out hb; have H2 := Lib.hid (H1.out.later hb); have I2 := Lib.hid (I1.out.below hb I1.out.lt); have HFb2 : Hid (fb < w2.heap.size) := Nat.lt_of_lt_of_le HFb.out hb.size; have c21 : w2.cell? ⟨fb, 1, none⟩ = _ := cell_later hb c11; have c22 : w2.cell? ⟨fb, 2, none⟩ = _ := cell_later hb c12; have c23 : w2.cell? ⟨fb, 3, none⟩ = _ := cell_later hb c13; have c24 : w2.cell? ⟨fb, 4, none⟩ = _ := cell_later hb c14; clear hb c10 c11 c12 c13 c14)
            rw [rounds_succ]
            go_wp2_with (go_at_call 47; refine (bask2_any w2 g b H2.out).mono ?_; rw [HC1.out, askE_t]; rintro e w3 ⟨rfl, hb⟩; have V3 : Hid (Below w.heap.size w w3) := nxTr V2.out hb; have H3 := Lib.hid (H2.out.later hb); have I3 := Lib.hid (I2.out.below hb I2.out.lt); have HFb3 : Hid (fb < w3.heap.size) := Nat.lt_of_lt_of_le HFb2.out hb.size; have c32 : w3.cell? ⟨fb, 2, none⟩ = _ := cell_later hb c22; have c33 : w3.cell? ⟨fb, 3, none⟩ = _ := cell_later hb c23; have c34 : w3.cell? ⟨fb, 4, none⟩ = _ := cell_later hb c24; clear hb c21 c22 c23 c24)
            rw [rounds_succ]
            go_wp2_with (go_at_call 50; refine (bask3_any w3 g b H3.out).mono ?_; rw [HC2.out, askE_t]; rintro e w4 ⟨rfl, hb⟩; have V4 : Hid (Below w.heap.size w w4) := nxTr V3.out hb; have H4 := Lib.hid (H3.out.later hb); have I4 := Lib.hid (I3.out.below hb I3.out.lt); have HFb4 : Hid (fb < w4.heap.size) := Nat.lt_of_lt_of_le HFb3.out hb.size; have c43 : w4.cell? ⟨fb, 3, none⟩ = _ := cell_later hb c33; have c44 : w4.cell? ⟨fb, 4, none⟩ = _ := cell_later hb c34; clear hb c32 c33 c34)
            rw [rounds_succ]
            go_wp2_with (go_at_call 51; refine (bask4_any w4 (HTb.out.later V4.out) g gi b H4.out I4.out HM.out).mono ?_; rw [HC3.out, askE_t]; rintro e w5 ⟨rfl, hi5, hk5⟩; have V5 : Hid (Below w.heap.size w w5) := V4.out.trans (hk5.below V4.out.size (fun j hj h => by have := HGi.out; omega)); have I5 := Lib.hid hi5; have B5 := Lib.hid (H4.out.1.keeps hk5 (fun h => HNg.out h.symm)); have c54 : w5.cell? ⟨fb, 4, none⟩ = _ := (hk5.cell (p := ⟨fb, 4, none⟩) HFb4.out (fun h => HNf.out h.symm)).trans c44; clear hi5 hk5 c43 c44)
            rw [rounds_succ]
            go_wp2_with (go_at_call 53; refine (bask5_any w5 (HTb.out.later V5.out) g gi b HF.out B5.out I5.out HM.out).mono ?_; rw [HC4.out, askE_t]; rintro e w6 ⟨rfl, hb⟩; have V6 : Hid (Below w.heap.size w w6) := nxTr V5.out hb; clear hb c54)
            rw [rounds_succ]
            go_wp2
            go_ret
            exact ⟨by rw [HV.out] <;> rfl, V6.out⟩
end Go.Proofs.YtpfjkjogljilnaaDoor
