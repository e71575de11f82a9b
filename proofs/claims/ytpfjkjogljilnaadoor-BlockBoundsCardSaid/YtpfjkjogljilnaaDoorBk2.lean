/-
  block: the program's HeaderOf.
-/
import Derived.Test.YtpfjkjogljilnaaDoorBk1
import Derived.Test.YtpfjkjogljilnaaDoorTr3
namespace Go.Proofs.YtpfjkjogljilnaaDoor
open Go.RowKit

/-! reading headers -/
def readH (s : Option (List UInt8)) : List UInt8 × Option (List UInt8) := (over zero32 (cutPiece s 32 true) 32, cutRest s 32 true)
def readHs : Nat → Option (List UInt8) → List (List UInt8) × Option (List UInt8)
  | 0, s => ([], s)
  | k + 1, s => ((readHs k s).1 ++ [(readH (readHs k s).2).1], (readH (readHs k s).2).2)
theorem readHs_len (k : Nat) (s : Option (List UInt8)) : (readHs k s).1.length = k := by
  induction k with
  | zero => rfl
  | succ k ih => simp [readHs, ih]
theorem readHs_ok (k : Nat) (s : Option (List UInt8)) : All32 (readHs k s).1 := by
  induction k with
  | zero => exact All32.nil
  | succ k ih => exact ih.snoc (hash_len _)
theorem readHs_le (k : Nat) (s : Option (List UInt8)) : lenS (readHs k s).2 ≤ lenS s := by
  induction k with
  | zero => exact Nat.le_refl _
  | succ k ih => exact Nat.le_trans (lenS_cutRest _ _ _) ih
theorem readHs_next {k : Nat} {s1 s : Option (List UInt8)} {I : List (List UInt8)} (h : readHs k s1 = (I, s)) : readHs (k + 1) s1 = (I ++ [(readH s).1], (readH s).2) := by simp only [readHs, h]
/-- How many parents are read. -/
def ofHN (s : Option (List UInt8)) : Nat := min (ofLe (cutPiece s 2 true)) 256
def ofHP (b : List UInt8) : List (List UInt8) × Option (List UInt8) := readHs (ofHN (some b)) (cutRest (some b) 2 true)
/-- What is read behind the parents. -/
def tailH (ps : List (List UInt8)) (s : Option (List UInt8)) : HdP × Option (List UInt8) :=
  (⟨ps, (readH s).1, (readH (readH s).2).1, (readH (readH (readH s).2).2).1, (readH (readH (readH (readH s).2).2).2).1, ofLe (cutPiece (readH (readH (readH (readH s).2).2).2).2 8 true)⟩, cutRest (readH (readH (readH (readH s).2).2).2).2 8 true)
def ofHR (b : List UInt8) : HdP × Option (List UInt8) := tailH (ofHP b).1 (ofHP b).2
def ofHB (b : List UInt8) : Bool := decide ((ofHR b).2 = some []) && mayH (ofHR b).1
def noHP : HdP := ⟨[], zero32, zero32, zero32, zero32, 0⟩
def ofHV (b : List UInt8) : HdP := bif ofHB b then (ofHR b).1 else noHP
theorem noHP_fit : HdFit noHP := ⟨All32.nil, rfl, rfl, rfl, rfl, by decide⟩
theorem tailH_fit {ps : List (List UInt8)} (h : All32 ps) (s : Option (List UInt8)) : HdFit (tailH ps s).1 := ⟨h, hash_len _, hash_len _, hash_len _, hash_len _, ofLe_lt8 _ 8 (by decide)⟩
theorem ofHR_fit (b : List UInt8) : HdFit (ofHR b).1 := tailH_fit (readHs_ok _ _) _
def noHd : HdR := ⟨none, 0, noHP⟩
theorem noHd_ok (w : World) : HdOk w noHd := ⟨.inl rfl, noHP_fit, Nat.le_refl _, Nat.zero_le _⟩
def hdZ : Array Value := (hdC noHd).toArray
/-- What HeaderOf answers. -/
def OfHPost (w : World) (b : List UInt8) (e : Ending) (w' : World) : Prop :=
  ∃ h : HdR, e = .returned (.tuple #[.agg (hdC h).toArray, .int .i64 (bif ofHB b then 0 else 4)]) ∧ h.p = ofHV b ∧ HdOk w' h ∧ Below w.heap.size w w'
/-- .. and it lies in new memory. -/
def OfHPostK (w : World) (b : List UInt8) (e : Ending) (w' : World) : Prop :=
  ∃ h : HdR, e = .returned (.tuple #[.agg (hdC h).toArray, .int .i64 (bif ofHB b then 0 else 4)]) ∧ h.p = ofHV b ∧ HdOk w' h ∧ Below w.heap.size w w' ∧ Kept (fun j => j < w.heap.size) w' (fun W => HdOk W h)
def hdT (ps : Value) (rt ac co mi : List UInt8) (nonce : Nat) : Array Value := (ps :: (By rt ++ (By ac ++ (By co ++ (By mi ++ [.int .u64 (nonce : Int)]))))).toArray
theorem hdT_of (h : HdR) : hdT (.slice h.A h.p.ps.length h.c) h.p.rt h.p.ac h.p.co h.p.mi h.p.nonce = (hdC h).toArray := rfl

section
variable {P : Program} {w : World}
theorem step_store_part {ops : Array Oper} {o : Oper} {a : Act} {K : Act → World → Prop} {Q : Exit → Act → World → Prop} {E : Prop} (hgd : o.guard = none) (ty : TypeId) (x y : Operand) (ho : o.op = .store ty x y)
    (g off : Nat) (t : TypeId) (old cells new : Array Value) (v : Value) (hx : a.eval x = .pointer (some ⟨g, off, none⟩)) (hy : a.eval y = v) (hv : v.cells = cells) (hg : Blk w g t old) (hs : off + cells.size ≤ old.size)
    (hi : (P.info? ty).map (·.size) = some cells.size) (h1 : ∀ u ∈ cells.toList, u.oneCell' = true) (hn : (old.toList.take off ++ cells.toList ++ old.toList.drop (off + cells.size)).toArray = new)
    (h : ∀ w', Blk w' g t new → Keeps (· = g) w w' → w'.heap.size = w.heap.size → K (a.put o.dst undef) w') :
    if Region.wanted o (yielded ops a.tmps) = true then Oper.wp P o a w K Q else E := by
  have hw : Region.wanted o (yielded ops a.tmps) = true := by simp [Region.wanted, hgd]
  rw [if_pos hw]
  obtain ⟨w', hr, h2, h3, h4⟩ := run_storeVar_part (P := P) g off t ty old cells v hv hg hs hi h1
  unfold Oper.wp execOp
  simp only [ho, hx, hy, Instr.storeAt, Instr.sureAddr, Sem.run_bind, Sem.run_pure, Result.andThen_ok, hr]
  exact h w' (hn ▸ h2) h3 h4
end
theorem part_set (pre old x post : List Value) (hl : old.length = x.length) (k : Nat) (hk : k = pre.length) : ((pre ++ (old ++ post)).take k ++ x ++ (pre ++ (old ++ post)).drop (k + x.length)) = pre ++ (x ++ post) := by
  subst hk
  rw [List.take_append_of_le_length (Nat.le_refl _), List.take_length, List.drop_append, List.drop_eq_nil_of_le (by omega), List.nil_append, show pre.length + x.length - pre.length = x.length by omega, List.drop_append, List.drop_eq_nil_of_le (by omega), List.nil_append, hl, Nat.sub_self, List.drop_zero, List.append_assoc]
theorem hdT_size {ps : Value} {rt ac co mi : List UInt8} {n : Nat} (h1 : rt.length = 32) (h2 : ac.length = 32) (h3 : co.length = 32) (h4 : mi.length = 32) : (hdT ps rt ac co mi n).size = 130 := by
  simp [hdT, By_length, h1, h2, h3, h4]
theorem hdT_rt {ps : Value} {x rt ac co mi : List UInt8} {n : Nat} (h1 : x.length = 32) (h2 : rt.length = 32) : ((hdT ps rt ac co mi n).toList.take 1 ++ (By x).toArray.toList ++ (hdT ps rt ac co mi n).toList.drop (1 + (By x).toArray.size)).toArray = hdT ps x ac co mi n := by
  have := part_set [ps] (By rt) (By x) (By ac ++ (By co ++ (By mi ++ [.int .u64 (n : Int)]))) (by rw [By_length, By_length, h1, h2]) 1 rfl
  exact congrArg List.toArray this
theorem hdT_ac {ps : Value} {x rt ac co mi : List UInt8} {n : Nat} (h0 : rt.length = 32) (h1 : x.length = 32) (h2 : ac.length = 32) : ((hdT ps rt ac co mi n).toList.take 33 ++ (By x).toArray.toList ++ (hdT ps rt ac co mi n).toList.drop (33 + (By x).toArray.size)).toArray = hdT ps rt x co mi n := by
  have := part_set (ps :: By rt) (By ac) (By x) (By co ++ (By mi ++ [.int .u64 (n : Int)])) (by rw [By_length, By_length, h1, h2]) 33 (by rw [List.length_cons, By_length, h0])
  exact congrArg List.toArray this
theorem hdT_co {ps : Value} {x rt ac co mi : List UInt8} {n : Nat} (h0 : rt.length = 32) (h00 : ac.length = 32) (h1 : x.length = 32) (h2 : co.length = 32) : ((hdT ps rt ac co mi n).toList.take 65 ++ (By x).toArray.toList ++ (hdT ps rt ac co mi n).toList.drop (65 + (By x).toArray.size)).toArray = hdT ps rt ac x mi n := by
  have e : ∀ z, hdT ps rt ac z mi n = ((ps :: (By rt ++ By ac)) ++ (By z ++ (By mi ++ [Value.int .u64 (n : Int)]))).toArray := fun z => by simp [hdT]
  have := part_set (ps :: (By rt ++ By ac)) (By co) (By x) (By mi ++ [.int .u64 (n : Int)]) (by rw [By_length, By_length, h1, h2]) 65 (by rw [List.length_cons, List.length_append, By_length, By_length, h0, h00])
  rw [e, e]
  exact congrArg List.toArray this
theorem hdT_mi {ps : Value} {x rt ac co mi : List UInt8} {n : Nat} (h0 : rt.length = 32) (h00 : ac.length = 32) (h01 : co.length = 32) (h1 : x.length = 32) (h2 : mi.length = 32) : ((hdT ps rt ac co mi n).toList.take 97 ++ (By x).toArray.toList ++ (hdT ps rt ac co mi n).toList.drop (97 + (By x).toArray.size)).toArray = hdT ps rt ac co x n := by
  have e : ∀ z, hdT ps rt ac co z n = ((ps :: (By rt ++ (By ac ++ By co))) ++ (By z ++ [Value.int .u64 (n : Int)])).toArray := fun z => by simp [hdT]
  have := part_set (ps :: (By rt ++ (By ac ++ By co))) (By mi) (By x) [.int .u64 (n : Int)] (by rw [By_length, By_length, h1, h2]) 97 (by simp only [List.length_cons, List.length_append, By_length, h0, h00, h01])
  rw [e, e]
  exact congrArg List.toArray this
theorem hdT_no {ps : Value} {rt ac co mi : List UInt8} {n m : Nat} (h1 : rt.length = 32) (h2 : ac.length = 32) (h3 : co.length = 32) (h4 : mi.length = 32) : ((hdT ps rt ac co mi n).toList.take 129 ++ #[Value.int .u64 (m : Int)].toList ++ (hdT ps rt ac co mi n).toList.drop (129 + #[Value.int .u64 (m : Int)].size)).toArray = hdT ps rt ac co mi m := by
  have e : ∀ z : Nat, hdT ps rt ac co mi z = ((ps :: (By rt ++ (By ac ++ (By co ++ By mi)))) ++ ([Value.int .u64 (z : Int)] ++ [])).toArray := fun z => by simp [hdT]
  have := part_set (ps :: (By rt ++ (By ac ++ (By co ++ By mi)))) [.int .u64 (n : Int)] [.int .u64 (m : Int)] [] rfl 129 (by simp only [List.length_cons, List.length_append, By_length, h1, h2, h3, h4])
  rw [e, e]
  exact congrArg List.toArray this

set_option maxHeartbeats 4000000 in
set_option maxRecDepth 100000 in
theorem ofh_anyK (w : World) (Bx : Nat) (A : Option Addr) (b : List UInt8) (c : Nat) (hS : Sees w Bx A b) (hlen : b.length ≤ 1099511627776) :
    Calls Tryd.prog 5 #[.slice A b.length c] w (OfHPostK w b) := by
  have HS0 := Lib.hid (show Sees ((w.alloc (.cells hdZ 27)).alloc (.cells hdZ 27)) Bx A b from (hS.alloc _).alloc _)
  have HBz := Lib.hid (show Blk ((w.alloc (.cells hdZ 27)).alloc (.cells hdZ 27)) w.heap.size 27 hdZ from (show Blk (w.alloc (.cells hdZ 27)) _ _ _ from heap_alloc_new w _).alloc _)
  have HBt := Lib.hid (show Blk ((w.alloc (.cells hdZ 27)).alloc (.cells hdZ 27)) (w.heap.size + 1) 27 hdZ from Blk.second w _ _ _)
  have Hb0 := Lib.hid (show Below w.heap.size w ((w.alloc (.cells hdZ 27)).alloc (.cells hdZ 27)) from nxAl (nxAl (nxRf w) _) _)
  have Hs0 : Hid (w.heap.size + 2 = ((w.alloc (.cells hdZ 27)).alloc (.cells hdZ 27)).heap.size) := by show _ = _; simp
  have HL := Lib.hid hlen
  obtain ⟨c1, hc1⟩ : ∃ n, ofLe (cutPiece (some b) 2 true) = n := ⟨_, rfl⟩
  obtain ⟨s1, hs1⟩ : ∃ s, cutRest (some b) 2 true = s := ⟨_, rfl⟩
  obtain ⟨n1, hn1⟩ : ∃ n, ofHN (some b) = n := ⟨_, rfl⟩
  have hm1 : (if (256 : Int) < (c1 : Int) then (256 : Int) else (c1 : Int)) = (n1 : Int) := by
    rw [← hn1, ofHN, hc1]; split <;> omega
  have hq1 : n1 ≤ 256 := by rw [← hn1]; exact Nat.min_le_right _ _
  have hls1 : lenS s1 ≤ 1099511627776 := by
    rw [← hs1]; exact Nat.le_trans (lenS_cutRest _ _ _) hlen
  have HC1 := Lib.hid hc1
  have HS1 := Lib.hid hs1
  have HN1 := Lib.hid hn1
  have HM1 := Lib.hid hm1
  have HLs1 := Lib.hid hls1
  unfold OfHPostK
  clear hS hlen hc1 hs1 hn1 hm1 hls1
  go_enter Tryd.func5, Tryd.ntmps5
  go_wp2_with (first
    | (go_at_call 18; refine (read_any ((w.alloc (.cells hdZ 27)).alloc (.cells hdZ 27)) Bx A _ c b rfl HS0.out HL.out).mono ?_; rintro e w1 ⟨g, d, rfl, hg, hd, hr1, hb1⟩; have HG := Lib.hid hg; have HDx := Lib.hid hd; have R1 := Lib.hid hr1; have V1 := Lib.hid hb1; clear hg hd hr1 hb1)
    | (go_at_call 19; refine (rcount_s _ g d (some b) R1.out).mono ?_; rw [HC1.out, HS1.out]; rintro e w2 ⟨rfl, hr2, hk2, hz2⟩; have R2 := Lib.hid hr2; have K2 := Lib.hid hk2; clear hr2 hk2 hz2)
    | ((with_reducible show wpList _ _ _ (⟨some 10, _, _, _, _, _⟩ :: _) _ _); refine wpList_min rfl (.tmp 9) 256 rfl (c1 : Int) (n1 : Int) rfl HM1.out ?_))
  have hG : w.heap.size + 2 ≤ g := by rw [Hs0.out]; exact HG.out
  have HGg := Lib.hid hG
  have HDd : Hid (∀ k, d = some k → w.heap.size + 2 ≤ k) := fun k e => by rw [Hs0.out]; exact HDx.out k e
  have V01 : Hid (Below w.heap.size w w1) := nxTr Hb0.out V1.out
  have V2 : Hid (Below w.heap.size w w2) := V01.out.trans (K2.out.below V01.out.size (fun k hk => by omega))
  have HBt2 : Hid (Blk w2 (w.heap.size + 1) 27 hdZ) := (HBt.out.below V1.out HBt.out.lt).keeps K2.out (by omega)
  have HBz2 : Hid (Blk w2 w.heap.size 27 hdZ) := (HBz.out.below V1.out HBz.out.lt).keeps K2.out (by omega)
  clear HG HDx V1 K2 V01 HBt HBz HS0 HL hG R1 HM1 HC1
  obtain ⟨i0, hi0, hz0, hz1, hz2⟩ := infoP Tryd.hinfo
  go_loopw [11] (fun iv wr => ∃ (k : Nat) (l : List (List UInt8)) (A1 : Option Addr) (e1 : Nat) (s : Option (List UInt8)), k ≤ n1 ∧ iv = .int .i64 k ∧ Hid (l.length = k) ∧ Hid (readHs k s1 = (l, s)) ∧ Hid (Blk wr (w.heap.size + 1) 27 (hdT (.slice A1 k e1) zero32 zero32 zero32 zero32 0)) ∧ Hid (wr.ownsRow (w.heap.size + 2) 24 32 (.slice A1 k e1) k (Hs l)) ∧ Hid (∀ j, A1.map (·.block) = some j → j ≠ g ∧ d ≠ some j) ∧ Hid (Rd wr g d s) ∧ Hid (Blk wr w.heap.size 27 hdZ) ∧ Hid (Below w.heap.size w wr)) (fun iv _ => n1 - (intOf iv).toNat)
  case atStart => exact ⟨0, [], none, 0, s1, by omega, rfl, rfl, rfl, HBt2.out, ⟨rfl, .inl ⟨rfl, rfl⟩⟩, (fun j hj => by cases hj), R2.out, HBz2.out, V2.out⟩
  case round =>
    obtain ⟨k, l, A1, e1, s, hk, rfl, Hl, Hrd, HB, HO, HNe, HR, HBz, Hb⟩ := hrel
    clear HBt2 HBz2 V2 R2
    have HA32 : Hid (All32 l) := by have h := readHs_ok k s1; rw [Hrd.out] at h; exact h
    by_cases hlt : k < n1
    · have hin : (k : Int) < (n1 : Int) := by omega
      have hgl := HR.out.lt
      have HDl : Hid (∀ j, d = some j → j < wr.heap.size) := fun j e => (HR.out.1 j e).2
      have hbl := HB.out.lt
      have Hol : Hid (∀ j, A1.map (·.block) = some j → w.heap.size + 2 ≤ j ∧ j < wr.heap.size) := fun j hj => own_lt HO.out j (by rw [own_blk]; exact hj)
      have c0 : Hid (wr.cell? ⟨w.heap.size + 1, 0, none⟩ = some (.slice A1 k e1)) := HB.out.cell 0
      go_wp2_with fail
      refine wp_region_K (fun W => W.cell? ⟨w.heap.size + 1, 0, none⟩ = some (.slice A1 k e1)) 5 (by kernel_rfl) c0.out (fun hSn => ?_)
      refine wpAnyK_pure (i := 0) (oi := ⟨_, _, _, _, _, _⟩) (v := ?_) rfl (by kernel_rfl) (by kernel_rfl) (by kernel_rfl) rfl (fun _ _ _ h => h) (Or.inl ⟨by rfl, ?_⟩) hSn ?_
      rotate_left 1
      · intro W hSw
        go_simp
        try with_reducible rfl
      replace hSn := (KT.set (i := 0) (by decide)).2 hSn
      try simp only [Act.put, List.setIfInBounds_toArray, List.set_cons_zero, List.set_cons_succ]
      refine wpAnyK_take (i := 1) (oi := ⟨_, _, _, _, _, _⟩) (v := ?_) rfl (by kernel_rfl) (by kernel_rfl) (by kernel_rfl) rfl (by kernel_rfl) (by kernel_rfl) (fun _ _ _ h => h) (Or.inl ⟨by rfl, ?_⟩) hSn ?_
      rotate_left 1
      · intro W hSw
        try dsimp only at hSw
        go_simp
        try with_reducible rfl
      replace hSn := (KT.set (i := 1) (by decide)).2 hSn
      try simp only [Act.put, List.setIfInBounds_toArray, List.set_cons_zero, List.set_cons_succ]
      refine wpAnyK_pure (i := 2) (oi := ⟨_, _, _, _, _, _⟩) (v := ?_) rfl (by kernel_rfl) (by kernel_rfl) (by kernel_rfl) rfl (fun _ _ _ h => h) (Or.inl ⟨by rfl, ?_⟩) hSn ?_
      rotate_left 1
      · intro W hSw
        go_simp
        try with_reducible rfl
      replace hSn := (KT.set (i := 2) (by decide)).2 hSn
      try simp only [Act.put, List.setIfInBounds_toArray, List.set_cons_zero, List.set_cons_succ]
      clear hSn
      refine wpAnyK_ready (rs := [3]) (by kernel_rfl) (by simp) ?_
      refine AllReadyK.cons rfl (fun K hK => ?_) AllReadyK.nil
      go_simp
      go_at_call 20
      refine (rhash_s wr.drew g d s (HR.out.keeps ((Keeps.refl (fun _ => False) wr).drew) (fun h => h) (fun _ _ h => h))).mono ?_
      rintro e w4 ⟨rfl, hr4, hk4⟩
      have R4 := Lib.hid hr4
      have K4 : Hid (Keeps (· = g) wr w4) := ⟨hk4.os, hk4.tape, hk4.output, hk4.size, hk4.block⟩
      clear hr4 hk4
      have cc4 : Hid (w4.cell? ⟨w.heap.size + 1, 0, none⟩ = some (.slice A1 k e1)) := (K4.out.cell (p := ⟨w.heap.size + 1, 0, none⟩) hbl (by show ¬ (w.heap.size + 1 = g); have := HGg.out; omega)).trans c0.out
      obtain ⟨x, hx⟩ : ∃ x, over zero32 (cutPiece s 32 true) 32 = x := ⟨_, rfl⟩
      have HXl : Hid (x.length = 32) := hx ▸ hash_len _
      have HX : Hid (readH s = (x, cutRest s 32 true)) := (by show _ = _; rw [readH, hx])
      rw [hx]
      clear hx
      refine hK.out _ _ (fun _ => cc4.out) (fun hSn => ?_)
      clear hK K
      try simp only [Act.put, List.setIfInBounds_toArray, List.set_cons_zero, List.set_cons_succ]
      clear hSn
      refine wpAnyK_ready (rs := [4]) (by kernel_rfl) (by simp) ?_
      refine AllReadyK.cons rfl (fun K hK => ?_) AllReadyK.nil
      refine step_build_one (o := ⟨some 17, _, _, _, _, _⟩) rfl 22 24 (.tmp 16) rfl (By x) _ 32 32 Tryd.underlying22 Tryd.hinfo (by decide) (by decide) (by rw [By_length]; exact HXl.out) rfl ?_
      refine hK.out _ _ (fun _ => ((World.cell?_alloc_some w4 _ _ (by rw [cc4.out]; rfl)).trans cc4.out)) (fun hSn => ?_)
      clear hK K
      try simp only [Act.put, List.setIfInBounds_toArray, List.set_cons_zero, List.set_cons_succ]
      have KA : Hid (Keeps (fun b => b = g) wr (w4.alloc (.cells (By x).toArray 24))) := K4.out.alloc _
      have HOa : Hid ((w4.alloc (.cells (By x).toArray 24)).ownsRow (w.heap.size + 2) 24 32 (.slice A1 k e1) k (Hs l)) := own_keepsS HO.out KA.out (fun j hj => (HNe.out j (by rw [← own_blk]; exact hj)).1)
      have HSi : Hid (SeesV (w4.alloc (.cells (By x).toArray 24)) (w4.alloc (.cells (By x).toArray 24)).heap.size (some ⟨w4.heap.size, 0, none⟩) (By x)) := SeesV.blk (heap_alloc_new w4 _)
      have hsa : (w4.alloc (.cells (By x).toArray 24)).heap.size = w4.heap.size + 1 := by simp
      have HSa := Lib.hid hsa
      have h4s := K4.out.size
      have hsb : w.heap.size + 2 ≤ (w4.alloc (.cells (By x).toArray 24)).heap.size := by omega
      clear hsa
      clear hSn
      refine wpAnyK_ready (rs := [5]) (by kernel_rfl) (by simp) ?_
      refine AllReadyK.cons rfl (fun K hK => ?_) AllReadyK.nil
      refine step_append_seesV (o := ⟨some 18, _, _, _, _, _⟩) rfl (.tmp 14) (.tmp 17) 22 rfl (w.heap.size + 2) 24 i0 _ 32 32 Tryd.underlying22 hi0 hz0 hz1 hz2 rfl (by decide) (.slice A1 k e1) k (Hs l) rfl HOa.out _ (some ⟨w4.heap.size, 0, none⟩) 1 1 (By x) rfl (by rw [By_length]; exact HXl.out) HSi.out (fun u hu => By_one' _ u hu) (by omega) (by omega) hsb ?_
      intro v5 w5 ho5 hg5 hv5
      obtain ⟨A5, e5, rfl⟩ := own_form ho5
      have O5 := Lib.hid ho5
      have G5 := Lib.hid hg5
      have NV5 := Lib.hid hv5
      clear ho5 hg5 hv5
      refine hK.out _ _ (fun h => absurd h (by decide +kernel)) (fun hSn => ?_)
      clear hK K
      try simp only [Act.put, List.setIfInBounds_toArray, List.set_cons_zero, List.set_cons_succ]
      have W5 : Hid (∀ b, b < wr.heap.size → b ≠ g → A1.map (·.block) ≠ some b → w5.heap[b]? = wr.heap[b]?) := fun b hb h1 h2 => (G5.out.block b (by have := HSa.out; omega) (by rw [own_blk]; exact fun h => h2 h.symm)).trans (KA.out.block b hb h1)
      have S5 : Hid (wr.heap.size ≤ w5.heap.size) := by show _ ≤ _; have := G5.out.size; have := HSa.out; omega
      have hnb : ∀ b, b < w.heap.size + 2 → A1.map (·.block) ≠ some b := fun b hb h => by have := (Hol.out b h).1; omega
      have HB5 : Hid (Blk w5 (w.heap.size + 1) 27 (hdT (.slice A1 k e1) zero32 zero32 zero32 zero32 0)) := HB.out.of_eq (W5.out _ hbl (by have := HGg.out; omega) (hnb _ (by omega)))
      have c5 : w5.cell? ⟨w.heap.size + 1, 0, none⟩ = some (.slice A1 k e1) := HB5.out.cell 0
      have f5 : w5.frozen? ⟨w.heap.size + 1, 0, none⟩ = false := HB5.out.frozen 0
      refine wpAnyK_pure (i := 6) (oi := ⟨_, _, _, _, _, _⟩) (v := ?_) rfl (by kernel_rfl) (by kernel_rfl) (by kernel_rfl) rfl (fun _ _ _ h => h) (Or.inl ⟨by rfl, ?_⟩) hSn ?_
      rotate_left 1
      · intro W hSw
        go_simp
        try with_reducible rfl
      replace hSn := (KT.set (i := 6) (by decide)).2 hSn
      try simp only [Act.put, List.setIfInBounds_toArray, List.set_cons_zero, List.set_cons_succ]
      clear hSn
      refine wpAnyK_ready (rs := [7]) (by kernel_rfl) (by simp) ?_
      refine AllReadyK.cons rfl (fun K hK => ?_) AllReadyK.nil
      go_simp
      skip
      refine hK.out _ _ (fun h => absurd h (by decide +kernel)) (fun hSn => ?_)
      clear hK K
      try simp only [Act.put, List.setIfInBounds_toArray, List.set_cons_zero, List.set_cons_succ]
      refine wpAnyK_done (by kernel_rfl) ?_ _
      clear hSn c5 f5
      obtain ⟨w6, hw6⟩ : ∃ W, w5.setCell ⟨w.heap.size + 1, 0, none⟩ (.slice A5 (k + 1) e5) = W := ⟨_, rfl⟩
      have HW6 := Lib.hid hw6
      clear hw6
      have K56 : Hid (Keeps (fun b => b = w.heap.size + 1) w5 w6) := by show Keeps _ _ _; rw [← HW6.out]; exact (Keeps.refl (fun b => b = w.heap.size + 1) w5).setCell (p := ⟨w.heap.size + 1, 0, none⟩) rfl _
      have K36 : Hid (Keeps (Stored g (w.heap.size + 1) A1) wr w6) := by
        have k1 := K4.out.os; have k2 := K4.out.tape; have k3 := K4.out.output
        exact ⟨K56.out.os.trans (G5.out.os.trans k1), K56.out.tape.trans (G5.out.tape.trans k2), K56.out.output.trans (G5.out.output.trans k3), Nat.le_trans S5.out K56.out.size, fun b hb hn => (K56.out.block b (Nat.lt_of_lt_of_le hb S5.out) (fun h => hn (.inr (.inl h)))).trans (W5.out b hb (fun h => hn (.inl h)) (fun h => hn (.inr (.inr h))))⟩
      have K46 : Hid (Keeps (fun b => b = w.heap.size + 1 ∨ A1.map (·.block) = some b) w4 w6) :=
        ⟨K56.out.os.trans G5.out.os, K56.out.tape.trans G5.out.tape, K56.out.output.trans G5.out.output, by have := G5.out.size; have := K56.out.size; have := HSa.out; omega,
          fun b hb hn => (K56.out.block b (by have := G5.out.size; have := HSa.out; omega) (fun h => hn (.inl h))).trans ((G5.out.block b (by have := HSa.out; omega) (by rw [own_blk]; exact fun h => hn (.inr h.symm))).trans ((nxAl (nxRf w4) _).block b hb))⟩
      have N5 : Hid (∀ j, A5.map (·.block) = some j → (A1.map (·.block) = some j ∧ j < wr.heap.size) ∨ j = w4.heap.size + 1) := fun j hj => by
        rcases NV5.out with h | h
        · rw [own_blk, own_blk, hj] at h; exact .inl ⟨h.symm, (Hol.out j h.symm).2⟩
        · rw [own_blk, hj] at h; injection h with h; have := HSa.out; exact .inr (by omega)
      have HB6 : Hid (Blk w6 (w.heap.size + 1) 27 (hdT (.slice A5 (k + 1) e5) zero32 zero32 zero32 zero32 0)) := by show Blk _ _ _ _; rw [← HW6.out]; exact HB5.out.set 0 _
      have HO6 : Hid (w6.ownsRow (w.heap.size + 2) 24 32 (.slice A5 (k + 1) e5) (k + 1) (Hs (l ++ [x]))) := by
        show World.ownsRow _ _ _ _ _ _ _
        rw [Hs_snoc]
        exact own_keepsS O5.out K56.out (fun j hj h => by have := (own_lt O5.out j hj).1; omega)
      have HN6 : Hid (∀ j, A5.map (·.block) = some j → j ≠ g ∧ d ≠ some j) := fun j hj => by
        rcases N5.out j hj with h | h
        · exact HNe.out j h.1
        · exact ⟨by omega, fun e => by have := HDl.out j e; omega⟩
      have HR6 : Hid (Rd w6 g d (cutRest s 32 true)) := R4.out.keeps K46.out (fun h => by rcases h with h | h; have := HGg.out; omega; exact (HNe.out g h).1 rfl) (fun j e h => by rcases h with h | h; have := HDd.out j e; omega; exact (HNe.out j h).2 e)
      have HBz6 : Hid (Blk w6 w.heap.size 27 hdZ) := HBz.out.keeps K36.out (fun h => by rcases h with h | h | h; have := HGg.out; omega; omega; exact hnb _ (by omega) h)
      have Hb6 : Hid (Below w.heap.size w w6) := kept_below Hb.out K36.out Hb.out.size (by have := HGg.out; omega) (by omega) (fun j hj => by have := (Hol.out j hj).1; omega)
      have Hl6 : Hid ((l ++ [x]).length = k + 1) := by show _ = _; rw [List.length_append, Hl.out]; rfl
      have Hr6 : Hid (readHs (k + 1) s1 = (l ++ [x], cutRest s 32 true)) := by
        show _ = _
        rw [readHs_next Hrd.out, HX.out]
      clear HB HO HNe HR HBz Hb Hrd c0 R4 K4 cc4 KA HOa HSi O5 G5 NV5 W5 HB5 K56 K36 K46 N5 Hol HDl HX HA32
      rw [HW6.out]
      go_wp2
      go_roundw
      case rel => exact ⟨k + 1, l ++ [x], A5, e5, cutRest s 32 true, by omega, by go_num, Hl6.out, Hr6.out, HB6.out, HO6.out, HN6.out, HR6.out, HBz6.out, Hb6.out⟩
      case measure => simp [intOf] <;> omega
    · obtain rfl : k = n1 := by omega
      have hgl := HR.out.lt
      have hbl := HB.out.lt
      obtain ⟨x1, hx1⟩ : ∃ x, over zero32 (cutPiece s 32 true) 32 = x := ⟨_, rfl⟩
      obtain ⟨q1, hq1'⟩ : ∃ x, cutRest s 32 true = x := ⟨_, rfl⟩
      obtain ⟨x2, hx2⟩ : ∃ x, over zero32 (cutPiece q1 32 true) 32 = x := ⟨_, rfl⟩
      obtain ⟨q2, hq2⟩ : ∃ x, cutRest q1 32 true = x := ⟨_, rfl⟩
      obtain ⟨x3, hx3⟩ : ∃ x, over zero32 (cutPiece q2 32 true) 32 = x := ⟨_, rfl⟩
      obtain ⟨q3, hq3⟩ : ∃ x, cutRest q2 32 true = x := ⟨_, rfl⟩
      obtain ⟨x4, hx4⟩ : ∃ x, over zero32 (cutPiece q3 32 true) 32 = x := ⟨_, rfl⟩
      obtain ⟨q4, hq4⟩ : ∃ x, cutRest q3 32 true = x := ⟨_, rfl⟩
      obtain ⟨N, hN⟩ : ∃ x, ofLe (cutPiece q4 8 true) = x := ⟨_, rfl⟩
      obtain ⟨q5, hq5⟩ : ∃ x, cutRest q4 8 true = x := ⟨_, rfl⟩
      have hR : ofHR b = (⟨l, x1, x2, x3, x4, N⟩, q5) := by
        have e1 : ofHP b = (l, s) := by unfold ofHP; rw [HN1.out, HS1.out]; exact Hrd.out
        unfold ofHR tailH readH
        rw [e1]
        simp only [hx1, hq1', hx2, hq2, hx3, hq3, hx4, hq4, hN, hq5]
      have hfit := ofHR_fit b
      rw [hR] at hfit
      obtain ⟨h, hh⟩ : ∃ h : HdR, (⟨A1, e1, ⟨l, x1, x2, x3, x4, N⟩⟩ : HdR) = h := ⟨_, rfl⟩
      have hhp : h.p = (ofHR b).1 := by rw [hR, ← hh]
      have HRB : Hid ((ofHR b).2 = q5) := by show _ = _; rw [hR]
      have HHP := Lib.hid hhp
      have HBT : Hid (hdT (.slice A1 k e1) x1 x2 x3 x4 N = (hdC h).toArray) := by show _ = _; rw [← hh, ← Hl.out]; rfl
      have L1 : Hid (x1.length = 32) := hfit.rt
      have L2 : Hid (x2.length = 32) := hfit.ac
      have L3 : Hid (x3.length = 32) := hfit.co
      have L4 : Hid (x4.length = 32) := hfit.mi
      have HTk : Hid (Kept (Stored4 g (w.heap.size + 1) none) wr (fun W => HdOk W h)) := by
        have h2 : Kept (Stored4 g (w.heap.size + 1) none) wr (fun W => SeesV W W.heap.size A1 (Hs l)) := own_kept HO.out (fun j hj h => by
          have q1 := HNe.out j (by rw [← own_blk]; exact hj)
          have q2 := (own_lt HO.out j hj).1
          rcases h with (h | h | h) | h
          · exact q1.1 h
          · omega
          · cases h
          · omega)
        have hd2 := own_cap' HO.out
        refine h2.mono (fun W hW => ?_)
        rw [← hh]
        exact ⟨hW, hfit, by show l.length ≤ _; rw [Hl.out]; exact hd2, by show l.length ≤ _; rw [Hl.out]; omega⟩
      have HFt : Hid (HdFit h.p) := by show HdFit _; rw [← hh]; exact hfit
      have X1 := Lib.hid hx1
      have X2 := Lib.hid hx2
      have X3 := Lib.hid hx3
      have X4 := Lib.hid hx4
      have Q1 := Lib.hid hq1'
      have Q2 := Lib.hid hq2
      have Q3 := Lib.hid hq3
      have Q4 := Lib.hid hq4
      have Q5 := Lib.hid hq5
      have NN := Lib.hid hN
      have HM8 : Hid (may 8 = true) := rfl
      have HZT : Hid ((Tryd.prog.info? 27).map (·.size) = some (hdC h).toArray.size) := hdSz' HFt.out
      have HZN : Hid ((Tryd.prog.info? 27).map (·.size) = some (hdC noHd).toArray.size) := hdSz' noHP_fit
      have HZU : Hid ((Tryd.prog.info? 25).map (·.size) = some 1) := by show _ = _; kernel_rfl
      clear hx1 hq1' hx2 hq2 hx3 hq3 hx4 hq4 hN hq5 hR hfit hh hhp HO HNe Hl Hrd HA32 hlt HN1 HS1 HLs1
      have HR0 := Lib.hid HR.out
      have HB0 := Lib.hid HB.out
      clear HR HB
      obtain ⟨mz, hmz⟩ : ∃ z, mayH h.p = z := ⟨_, rfl⟩
      have HMz := Lib.hid hmz
      clear hmz
      by_cases hs : q5 = some []
      · cases mz with
        | true =>
          subst hs
          have HOB : Hid (ofHB b = true) := by show _ = _; rw [ofHB, HRB.out, ← HHP.out, HMz.out]; rfl
          have HRe : Hid (rend (some []) = 0) := rfl
          go_wp2_with (first
            | ((with_reducible show Calls _ _ _ wr _); go_at_call 20; refine (rhash_s _ g d s HR0.out).mono ?_; rw [X1.out, Q1.out]; rintro e v1 ⟨rfl, hr, hk⟩; have RR1 := Lib.hid hr; have KK1 : Hid (Keeps (· = g) wr v1) := hk; clear hr hk)
            | ((with_reducible show Calls _ _ _ v1 _); go_at_call 20; refine (rhash_s _ g d q1 RR1.out).mono ?_; rw [X2.out, Q2.out]; rintro e v2 ⟨rfl, hr, hk⟩; have RR2 := Lib.hid hr; have KK2 : Hid (Keeps (· = g) wr v2) := KK1.out.trans hk; clear hr hk)
            | ((with_reducible show Calls _ _ _ v2 _); go_at_call 20; refine (rhash_s _ g d q2 RR2.out).mono ?_; rw [X3.out, Q3.out]; rintro e v3 ⟨rfl, hr, hk⟩; have RR3 := Lib.hid hr; have KK3 : Hid (Keeps (· = g) wr v3) := KK2.out.trans hk; clear hr hk)
            | ((with_reducible show Calls _ _ _ v3 _); go_at_call 20; refine (rhash_s _ g d q3 RR3.out).mono ?_; rw [X4.out, Q4.out]; rintro e v4 ⟨rfl, hr, hk⟩; have RR4 := Lib.hid hr; have KK4 : Hid (Keeps (· = g) wr v4) := KK3.out.trans hk; clear hr hk; have BB0 : Hid (Blk v4 (w.heap.size + 1) 27 (hdT (.slice A1 k e1) zero32 zero32 zero32 zero32 0)) := HB0.out.keeps KK4.out (by have := HGg.out; omega); have R40 : Hid (Rd v4 g d q4) := RR4.out; have KB0 : Hid (Keeps (Stored g (w.heap.size + 1) none) wr v4) := KK4.out.mono (fun j _ h => .inl h))
            | ((with_reducible show wpList _ _ _ (⟨none, .store 24 (.tmp 29) _, _, _, _, _⟩ :: _) _ _); refine wpList_store_part rfl 24 (.tmp 29) (.tmp 22) rfl (w.heap.size + 1) 1 27 (hdT (.slice A1 k e1) zero32 zero32 zero32 zero32 0) (By x1).toArray (hdT (.slice A1 k e1) x1 zero32 zero32 zero32 0) (.agg (By x1).toArray) rfl rfl rfl BB0.out (by rw [hdT_size rfl rfl rfl rfl, List.size_toArray, By_length, L1.out]; decide) (Tryd.hsizeB x1 L1.out) (By_one _) (hdT_rt L1.out rfl) ?_; intro y1 h5 h6 h7; have BB1 := Lib.hid h5; have R41 : Hid (Rd y1 g d q4) := R40.out.keeps h6 (by have := HGg.out; omega) (fun j e h => by have := HDd.out j e; omega); have KB1 : Hid (Keeps (Stored g (w.heap.size + 1) none) wr y1) := KB0.out.trans (h6.mono (fun j _ h => .inr (.inl h))); clear h5 h6 h7)
            | ((with_reducible show wpList _ _ _ (⟨none, .store 24 (.tmp 30) _, _, _, _, _⟩ :: _) _ _); refine wpList_store_part rfl 24 (.tmp 30) (.tmp 24) rfl (w.heap.size + 1) 33 27 (hdT (.slice A1 k e1) x1 zero32 zero32 zero32 0) (By x2).toArray (hdT (.slice A1 k e1) x1 x2 zero32 zero32 0) (.agg (By x2).toArray) rfl rfl rfl BB1.out (by rw [hdT_size L1.out rfl rfl rfl, List.size_toArray, By_length, L2.out]; decide) (Tryd.hsizeB x2 L2.out) (By_one _) (hdT_ac L1.out L2.out rfl) ?_; intro y2 h5 h6 h7; have BB2 := Lib.hid h5; have R42 : Hid (Rd y2 g d q4) := R41.out.keeps h6 (by have := HGg.out; omega) (fun j e h => by have := HDd.out j e; omega); have KB2 : Hid (Keeps (Stored g (w.heap.size + 1) none) wr y2) := KB1.out.trans (h6.mono (fun j _ h => .inr (.inl h))); clear h5 h6 h7)
            | ((with_reducible show wpList _ _ _ (⟨none, .store 24 (.tmp 31) _, _, _, _, _⟩ :: _) _ _); refine wpList_store_part rfl 24 (.tmp 31) (.tmp 26) rfl (w.heap.size + 1) 65 27 (hdT (.slice A1 k e1) x1 x2 zero32 zero32 0) (By x3).toArray (hdT (.slice A1 k e1) x1 x2 x3 zero32 0) (.agg (By x3).toArray) rfl rfl rfl BB2.out (by rw [hdT_size L1.out L2.out rfl rfl, List.size_toArray, By_length, L3.out]; decide) (Tryd.hsizeB x3 L3.out) (By_one _) (hdT_co L1.out L2.out L3.out rfl) ?_; intro y3 h5 h6 h7; have BB3 := Lib.hid h5; have R43 : Hid (Rd y3 g d q4) := R42.out.keeps h6 (by have := HGg.out; omega) (fun j e h => by have := HDd.out j e; omega); have KB3 : Hid (Keeps (Stored g (w.heap.size + 1) none) wr y3) := KB2.out.trans (h6.mono (fun j _ h => .inr (.inl h))); clear h5 h6 h7)
            | ((with_reducible show wpList _ _ _ (⟨none, .store 24 (.tmp 32) _, _, _, _, _⟩ :: _) _ _); refine wpList_store_part rfl 24 (.tmp 32) (.tmp 28) rfl (w.heap.size + 1) 97 27 (hdT (.slice A1 k e1) x1 x2 x3 zero32 0) (By x4).toArray (hdT (.slice A1 k e1) x1 x2 x3 x4 0) (.agg (By x4).toArray) rfl rfl rfl BB3.out (by rw [hdT_size L1.out L2.out L3.out rfl, List.size_toArray, By_length, L4.out]; decide) (Tryd.hsizeB x4 L4.out) (By_one _) (hdT_mi L1.out L2.out L3.out L4.out rfl) ?_; intro y4 h5 h6 h7; have BB4 := Lib.hid h5; have R44 : Hid (Rd y4 g d q4) := R43.out.keeps h6 (by have := HGg.out; omega) (fun j e h => by have := HDd.out j e; omega); have KB4 : Hid (Keeps (Stored g (w.heap.size + 1) none) wr y4) := KB3.out.trans (h6.mono (fun j _ h => .inr (.inl h))); clear h5 h6 h7; have HBz4 : Hid (Blk y4 w.heap.size 27 hdZ) := HBz.out.keeps KB4.out (fun h => by rcases h with h | h | h; have := HGg.out; omega; omega; cases h))
            | (go_at_call 21; refine (rnumber_s _ g d q4 R44.out 8).mono ?_; unfold NumPost; rw [HM8.out, NN.out, Q5.out]; rintro e w8 ⟨rfl, hr8, hk8, hz8⟩; have R8 := Lib.hid hr8; have HB8 := Lib.hid (BB4.out.keeps hk8 (by have := HGg.out; omega)); have HBz8 := Lib.hid (HBz4.out.keeps hk8 (by have := HGg.out; omega)); have K8 := Lib.hid (KB4.out.trans (hk8.mono (fun j _ h => .inl h))); clear hr8 hk8 hz8)
            | ((with_reducible show wpList _ _ _ (⟨none, .store 25 _ _, _, _, _, _⟩ :: _) _ _); refine wpList_store_part rfl 25 (.tmp 35) (.tmp 34) rfl (w.heap.size + 1) 129 27 (hdT (.slice A1 k e1) x1 x2 x3 x4 0) #[.int .u64 (N : Int)] (hdT (.slice A1 k e1) x1 x2 x3 x4 N) (.int .u64 (N : Int)) rfl rfl rfl HB8.out (by rw [hdT_size L1.out L2.out L3.out L4.out]; exact Nat.le_refl 130) HZU.out (by intro u hu; simp at hu; subst hu; rfl) (hdT_no L1.out L2.out L3.out L4.out) ?_; intro w9 h5 h6 h7; have HB9 : Hid (Blk w9 (w.heap.size + 1) 27 (hdC h).toArray) := (by show Blk _ _ _ _; rw [← HBT.out]; exact h5); have K9 := Lib.hid (K8.out.trans (h6.mono (fun j _ h => .inr (.inl h)))); have R9 := Lib.hid (R8.out.keeps h6 (by have := HGg.out; omega) (fun j e h => by have := HDd.out j e; omega)); have HBz9 := Lib.hid (HBz8.out.keeps h6 (by omega)); have HT9 := Lib.hid (HTk.out w9 (K9.out.mono (fun _ _ h => .inl h))); have HB9r := Lib.hid (blkR (vs := hdC h) HB9.out); have Hb9 := Lib.hid (kept_below Hb.out K9.out Hb.out.size (by have := HGg.out; omega) (by omega) (fun j hj => by cases hj)); clear h5 h6 h7)
            | (go_at_call 22; refine (rend_s _ g d _ R9.out).mono ?_; rw [HRe.out]; rintro e w10 ⟨rfl, rfl⟩)
            | ((with_reducible show wpList _ _ _ (⟨some 40, _, _, _, _, _⟩ :: _) _ _); refine wpList_load_midg (by rfl) 27 (.tmp 4) rfl (w.heap.size + 1) 0 rfl (hdC h) _ HB9r.out Tryd.underlying27 rfl (hdSz HFt.out) ?_)
            | (go_at_call 13; refine (mayName_any _ h HT9.out).mono ?_; rw [HMz.out]; rintro e w11 ⟨rfl, hb11⟩; have V11 := Lib.hid hb11; have HB11 := Lib.hid (HB9.out.below hb11 HB9.out.lt); have HB11r := Lib.hid (blkR (vs := hdC h) HB11.out); have HBz11 := Lib.hid (HBz9.out.below hb11 HBz9.out.lt); clear hb11)
            | ((with_reducible show wpList _ _ _ (⟨some 45, _, _, _, _, _⟩ :: _) _ _); refine wpList_load_mid rfl 27 (.tmp 4) rfl (w.heap.size + 1) 0 rfl (hdC h) _ HB11r.out Tryd.underlying27 rfl (hdSz HFt.out) ?_)
            | ((with_reducible show wpList _ _ _ (⟨none, .store 27 _ _, _, _, _, _⟩ :: _) _ _); refine wpList_store_all rfl 27 (.tmp 2) (.tmp 45) rfl w.heap.size 27 hdZ (hdC h).toArray rfl rfl HBz11.out (show (130 : Nat) = (hdC h).length from (hdC_len HFt.out).symm) HZT.out (hdC_one h) ?_; intro w12 h5 h6 h7; have B12 := Lib.hid h5; have K12 := Lib.hid h6; clear h5 h6 h7))
          refine bodyPost_ret (row_tmp Tryd.results5 _ _ w.heap.size 27 _ _ rfl B12.out Tryd.underlying27 rfl HZT.out _ rfl) rfl ⟨h, by rw [HOB.out]; rfl, ?_, ?_, ?_, ?_⟩
          · rw [ofHV, HOB.out, HHP.out]; rfl
          · refine HTk.out w12 ?_
            have k1 : Keeps (Stored4 g (w.heap.size + 1) none) wr w9 := K9.out.mono (fun _ _ h => .inl h)
            exact (k1.trans (Keeps.of_below V11.out _)).trans (K12.out.mono (fun j _ h => .inr (by omega)))
          · exact (nxTr Hb9.out V11.out).trans (K12.out.below (nxTr Hb9.out V11.out).size (fun j hj => by omega))
          · have k1 : Keeps (Stored4 g (w.heap.size + 1) none) wr w9 := K9.out.mono (fun _ _ h => .inl h)
            exact HTk.out.step ((k1.trans (Keeps.of_below V11.out _)).trans (K12.out.mono (fun j _ h => .inr (by omega)))) (fun j _ h => .inr (by omega))
        | false =>
          subst hs
          have HOB : Hid (ofHB b = false) := by show _ = _; rw [ofHB, HRB.out, ← HHP.out, HMz.out, Bool.and_false]
          have HRe : Hid (rend (some []) = 0) := rfl
          go_wp2_with (first
            | ((with_reducible show Calls _ _ _ wr _); go_at_call 20; refine (rhash_s _ g d s HR0.out).mono ?_; rw [X1.out, Q1.out]; rintro e v1 ⟨rfl, hr, hk⟩; have RR1 := Lib.hid hr; have KK1 : Hid (Keeps (· = g) wr v1) := hk; clear hr hk)
            | ((with_reducible show Calls _ _ _ v1 _); go_at_call 20; refine (rhash_s _ g d q1 RR1.out).mono ?_; rw [X2.out, Q2.out]; rintro e v2 ⟨rfl, hr, hk⟩; have RR2 := Lib.hid hr; have KK2 : Hid (Keeps (· = g) wr v2) := KK1.out.trans hk; clear hr hk)
            | ((with_reducible show Calls _ _ _ v2 _); go_at_call 20; refine (rhash_s _ g d q2 RR2.out).mono ?_; rw [X3.out, Q3.out]; rintro e v3 ⟨rfl, hr, hk⟩; have RR3 := Lib.hid hr; have KK3 : Hid (Keeps (· = g) wr v3) := KK2.out.trans hk; clear hr hk)
            | ((with_reducible show Calls _ _ _ v3 _); go_at_call 20; refine (rhash_s _ g d q3 RR3.out).mono ?_; rw [X4.out, Q4.out]; rintro e v4 ⟨rfl, hr, hk⟩; have RR4 := Lib.hid hr; have KK4 : Hid (Keeps (· = g) wr v4) := KK3.out.trans hk; clear hr hk; have BB0 : Hid (Blk v4 (w.heap.size + 1) 27 (hdT (.slice A1 k e1) zero32 zero32 zero32 zero32 0)) := HB0.out.keeps KK4.out (by have := HGg.out; omega); have R40 : Hid (Rd v4 g d q4) := RR4.out; have KB0 : Hid (Keeps (Stored g (w.heap.size + 1) none) wr v4) := KK4.out.mono (fun j _ h => .inl h))
            | ((with_reducible show wpList _ _ _ (⟨none, .store 24 (.tmp 29) _, _, _, _, _⟩ :: _) _ _); refine wpList_store_part rfl 24 (.tmp 29) (.tmp 22) rfl (w.heap.size + 1) 1 27 (hdT (.slice A1 k e1) zero32 zero32 zero32 zero32 0) (By x1).toArray (hdT (.slice A1 k e1) x1 zero32 zero32 zero32 0) (.agg (By x1).toArray) rfl rfl rfl BB0.out (by rw [hdT_size rfl rfl rfl rfl, List.size_toArray, By_length, L1.out]; decide) (Tryd.hsizeB x1 L1.out) (By_one _) (hdT_rt L1.out rfl) ?_; intro y1 h5 h6 h7; have BB1 := Lib.hid h5; have R41 : Hid (Rd y1 g d q4) := R40.out.keeps h6 (by have := HGg.out; omega) (fun j e h => by have := HDd.out j e; omega); have KB1 : Hid (Keeps (Stored g (w.heap.size + 1) none) wr y1) := KB0.out.trans (h6.mono (fun j _ h => .inr (.inl h))); clear h5 h6 h7)
            | ((with_reducible show wpList _ _ _ (⟨none, .store 24 (.tmp 30) _, _, _, _, _⟩ :: _) _ _); refine wpList_store_part rfl 24 (.tmp 30) (.tmp 24) rfl (w.heap.size + 1) 33 27 (hdT (.slice A1 k e1) x1 zero32 zero32 zero32 0) (By x2).toArray (hdT (.slice A1 k e1) x1 x2 zero32 zero32 0) (.agg (By x2).toArray) rfl rfl rfl BB1.out (by rw [hdT_size L1.out rfl rfl rfl, List.size_toArray, By_length, L2.out]; decide) (Tryd.hsizeB x2 L2.out) (By_one _) (hdT_ac L1.out L2.out rfl) ?_; intro y2 h5 h6 h7; have BB2 := Lib.hid h5; have R42 : Hid (Rd y2 g d q4) := R41.out.keeps h6 (by have := HGg.out; omega) (fun j e h => by have := HDd.out j e; omega); have KB2 : Hid (Keeps (Stored g (w.heap.size + 1) none) wr y2) := KB1.out.trans (h6.mono (fun j _ h => .inr (.inl h))); clear h5 h6 h7)
            | ((with_reducible show wpList _ _ _ (⟨none, .store 24 (.tmp 31) _, _, _, _, _⟩ :: _) _ _); refine wpList_store_part rfl 24 (.tmp 31) (.tmp 26) rfl (w.heap.size + 1) 65 27 (hdT (.slice A1 k e1) x1 x2 zero32 zero32 0) (By x3).toArray (hdT (.slice A1 k e1) x1 x2 x3 zero32 0) (.agg (By x3).toArray) rfl rfl rfl BB2.out (by rw [hdT_size L1.out L2.out rfl rfl, List.size_toArray, By_length, L3.out]; decide) (Tryd.hsizeB x3 L3.out) (By_one _) (hdT_co L1.out L2.out L3.out rfl) ?_; intro y3 h5 h6 h7; have BB3 := Lib.hid h5; have R43 : Hid (Rd y3 g d q4) := R42.out.keeps h6 (by have := HGg.out; omega) (fun j e h => by have := HDd.out j e; omega); have KB3 : Hid (Keeps (Stored g (w.heap.size + 1) none) wr y3) := KB2.out.trans (h6.mono (fun j _ h => .inr (.inl h))); clear h5 h6 h7)
            | ((with_reducible show wpList _ _ _ (⟨none, .store 24 (.tmp 32) _, _, _, _, _⟩ :: _) _ _); refine wpList_store_part rfl 24 (.tmp 32) (.tmp 28) rfl (w.heap.size + 1) 97 27 (hdT (.slice A1 k e1) x1 x2 x3 zero32 0) (By x4).toArray (hdT (.slice A1 k e1) x1 x2 x3 x4 0) (.agg (By x4).toArray) rfl rfl rfl BB3.out (by rw [hdT_size L1.out L2.out L3.out rfl, List.size_toArray, By_length, L4.out]; decide) (Tryd.hsizeB x4 L4.out) (By_one _) (hdT_mi L1.out L2.out L3.out L4.out rfl) ?_; intro y4 h5 h6 h7; have BB4 := Lib.hid h5; have R44 : Hid (Rd y4 g d q4) := R43.out.keeps h6 (by have := HGg.out; omega) (fun j e h => by have := HDd.out j e; omega); have KB4 : Hid (Keeps (Stored g (w.heap.size + 1) none) wr y4) := KB3.out.trans (h6.mono (fun j _ h => .inr (.inl h))); clear h5 h6 h7; have HBz4 : Hid (Blk y4 w.heap.size 27 hdZ) := HBz.out.keeps KB4.out (fun h => by rcases h with h | h | h; have := HGg.out; omega; omega; cases h))
            | (go_at_call 21; refine (rnumber_s _ g d q4 R44.out 8).mono ?_; unfold NumPost; rw [HM8.out, NN.out, Q5.out]; rintro e w8 ⟨rfl, hr8, hk8, hz8⟩; have R8 := Lib.hid hr8; have HB8 := Lib.hid (BB4.out.keeps hk8 (by have := HGg.out; omega)); have HBz8 := Lib.hid (HBz4.out.keeps hk8 (by have := HGg.out; omega)); have K8 := Lib.hid (KB4.out.trans (hk8.mono (fun j _ h => .inl h))); clear hr8 hk8 hz8)
            | ((with_reducible show wpList _ _ _ (⟨none, .store 25 _ _, _, _, _, _⟩ :: _) _ _); refine wpList_store_part rfl 25 (.tmp 35) (.tmp 34) rfl (w.heap.size + 1) 129 27 (hdT (.slice A1 k e1) x1 x2 x3 x4 0) #[.int .u64 (N : Int)] (hdT (.slice A1 k e1) x1 x2 x3 x4 N) (.int .u64 (N : Int)) rfl rfl rfl HB8.out (by rw [hdT_size L1.out L2.out L3.out L4.out]; exact Nat.le_refl 130) HZU.out (by intro u hu; simp at hu; subst hu; rfl) (hdT_no L1.out L2.out L3.out L4.out) ?_; intro w9 h5 h6 h7; have HB9 : Hid (Blk w9 (w.heap.size + 1) 27 (hdC h).toArray) := (by show Blk _ _ _ _; rw [← HBT.out]; exact h5); have K9 := Lib.hid (K8.out.trans (h6.mono (fun j _ h => .inr (.inl h)))); have R9 := Lib.hid (R8.out.keeps h6 (by have := HGg.out; omega) (fun j e h => by have := HDd.out j e; omega)); have HBz9 := Lib.hid (HBz8.out.keeps h6 (by omega)); have HT9 := Lib.hid (HTk.out w9 (K9.out.mono (fun _ _ h => .inl h))); have HB9r := Lib.hid (blkR (vs := hdC h) HB9.out); have Hb9 := Lib.hid (kept_below Hb.out K9.out Hb.out.size (by have := HGg.out; omega) (by omega) (fun j hj => by cases hj)); clear h5 h6 h7)
            | (go_at_call 22; refine (rend_s _ g d _ R9.out).mono ?_; rw [HRe.out]; rintro e w10 ⟨rfl, rfl⟩)
            | ((with_reducible show wpList _ _ _ (⟨some 40, _, _, _, _, _⟩ :: _) _ _); refine wpList_load_midg (by rfl) 27 (.tmp 4) rfl (w.heap.size + 1) 0 rfl (hdC h) _ HB9r.out Tryd.underlying27 rfl (hdSz HFt.out) ?_)
            | (go_at_call 13; refine (mayName_any _ h HT9.out).mono ?_; rw [HMz.out]; rintro e w11 ⟨rfl, hb11⟩; have V11 := Lib.hid hb11; have HB11 := Lib.hid (HB9.out.below hb11 HB9.out.lt); have HB11r := Lib.hid (blkR (vs := hdC h) HB11.out); have HBz11 := Lib.hid (HBz9.out.below hb11 HBz9.out.lt); clear hb11)
            | ((with_reducible show wpList _ _ _ (⟨some 45, _, _, _, _, _⟩ :: _) _ _); refine wpList_load_mid rfl 27 (.tmp 4) rfl (w.heap.size + 1) 0 rfl (hdC h) _ HB11r.out Tryd.underlying27 rfl (hdSz HFt.out) ?_)
            | ((with_reducible show wpList _ _ _ (⟨none, .store 27 _ _, _, _, _, _⟩ :: _) _ _); refine wpList_store_all rfl 27 (.tmp 2) (.tmp 44) rfl w.heap.size 27 hdZ (hdC noHd).toArray rfl rfl HBz11.out rfl HZN.out (hdC_one noHd) ?_; intro w12 h5 h6 h7; have B12 := Lib.hid h5; have K12 := Lib.hid h6; clear h5 h6 h7))
          refine bodyPost_ret (row_tmp Tryd.results5 _ _ w.heap.size 27 _ _ rfl B12.out Tryd.underlying27 rfl HZN.out _ rfl) rfl ⟨noHd, by rw [HOB.out]; rfl, ?_, ?_, ?_, fun W _ => noHd_ok W⟩
          · rw [ofHV, HOB.out]; rfl
          · exact noHd_ok w12
          · exact (nxTr Hb9.out V11.out).trans (K12.out.below (nxTr Hb9.out V11.out).size (fun j hj => by omega))
      · have HOB : Hid (ofHB b = false) := by show _ = _; rw [ofHB, HRB.out, decide_eq_false hs, Bool.false_and]
        have HRe : Hid (rend q5 = 4) := if_neg hs
        go_wp2_with (first
          | ((with_reducible show Calls _ _ _ wr _); go_at_call 20; refine (rhash_s _ g d s HR0.out).mono ?_; rw [X1.out, Q1.out]; rintro e v1 ⟨rfl, hr, hk⟩; have RR1 := Lib.hid hr; have KK1 : Hid (Keeps (· = g) wr v1) := hk; clear hr hk)
          | ((with_reducible show Calls _ _ _ v1 _); go_at_call 20; refine (rhash_s _ g d q1 RR1.out).mono ?_; rw [X2.out, Q2.out]; rintro e v2 ⟨rfl, hr, hk⟩; have RR2 := Lib.hid hr; have KK2 : Hid (Keeps (· = g) wr v2) := KK1.out.trans hk; clear hr hk)
          | ((with_reducible show Calls _ _ _ v2 _); go_at_call 20; refine (rhash_s _ g d q2 RR2.out).mono ?_; rw [X3.out, Q3.out]; rintro e v3 ⟨rfl, hr, hk⟩; have RR3 := Lib.hid hr; have KK3 : Hid (Keeps (· = g) wr v3) := KK2.out.trans hk; clear hr hk)
          | ((with_reducible show Calls _ _ _ v3 _); go_at_call 20; refine (rhash_s _ g d q3 RR3.out).mono ?_; rw [X4.out, Q4.out]; rintro e v4 ⟨rfl, hr, hk⟩; have RR4 := Lib.hid hr; have KK4 : Hid (Keeps (· = g) wr v4) := KK3.out.trans hk; clear hr hk; have BB0 : Hid (Blk v4 (w.heap.size + 1) 27 (hdT (.slice A1 k e1) zero32 zero32 zero32 zero32 0)) := HB0.out.keeps KK4.out (by have := HGg.out; omega); have R40 : Hid (Rd v4 g d q4) := RR4.out; have KB0 : Hid (Keeps (Stored g (w.heap.size + 1) none) wr v4) := KK4.out.mono (fun j _ h => .inl h))
          | ((with_reducible show wpList _ _ _ (⟨none, .store 24 (.tmp 29) _, _, _, _, _⟩ :: _) _ _); refine wpList_store_part rfl 24 (.tmp 29) (.tmp 22) rfl (w.heap.size + 1) 1 27 (hdT (.slice A1 k e1) zero32 zero32 zero32 zero32 0) (By x1).toArray (hdT (.slice A1 k e1) x1 zero32 zero32 zero32 0) (.agg (By x1).toArray) rfl rfl rfl BB0.out (by rw [hdT_size rfl rfl rfl rfl, List.size_toArray, By_length, L1.out]; decide) (Tryd.hsizeB x1 L1.out) (By_one _) (hdT_rt L1.out rfl) ?_; intro y1 h5 h6 h7; have BB1 := Lib.hid h5; have R41 : Hid (Rd y1 g d q4) := R40.out.keeps h6 (by have := HGg.out; omega) (fun j e h => by have := HDd.out j e; omega); have KB1 : Hid (Keeps (Stored g (w.heap.size + 1) none) wr y1) := KB0.out.trans (h6.mono (fun j _ h => .inr (.inl h))); clear h5 h6 h7)
          | ((with_reducible show wpList _ _ _ (⟨none, .store 24 (.tmp 30) _, _, _, _, _⟩ :: _) _ _); refine wpList_store_part rfl 24 (.tmp 30) (.tmp 24) rfl (w.heap.size + 1) 33 27 (hdT (.slice A1 k e1) x1 zero32 zero32 zero32 0) (By x2).toArray (hdT (.slice A1 k e1) x1 x2 zero32 zero32 0) (.agg (By x2).toArray) rfl rfl rfl BB1.out (by rw [hdT_size L1.out rfl rfl rfl, List.size_toArray, By_length, L2.out]; decide) (Tryd.hsizeB x2 L2.out) (By_one _) (hdT_ac L1.out L2.out rfl) ?_; intro y2 h5 h6 h7; have BB2 := Lib.hid h5; have R42 : Hid (Rd y2 g d q4) := R41.out.keeps h6 (by have := HGg.out; omega) (fun j e h => by have := HDd.out j e; omega); have KB2 : Hid (Keeps (Stored g (w.heap.size + 1) none) wr y2) := KB1.out.trans (h6.mono (fun j _ h => .inr (.inl h))); clear h5 h6 h7)
          | ((with_reducible show wpList _ _ _ (⟨none, .store 24 (.tmp 31) _, _, _, _, _⟩ :: _) _ _); refine wpList_store_part rfl 24 (.tmp 31) (.tmp 26) rfl (w.heap.size + 1) 65 27 (hdT (.slice A1 k e1) x1 x2 zero32 zero32 0) (By x3).toArray (hdT (.slice A1 k e1) x1 x2 x3 zero32 0) (.agg (By x3).toArray) rfl rfl rfl BB2.out (by rw [hdT_size L1.out L2.out rfl rfl, List.size_toArray, By_length, L3.out]; decide) (Tryd.hsizeB x3 L3.out) (By_one _) (hdT_co L1.out L2.out L3.out rfl) ?_; intro y3 h5 h6 h7; have BB3 := Lib.hid h5; have R43 : Hid (Rd y3 g d q4) := R42.out.keeps h6 (by have := HGg.out; omega) (fun j e h => by have := HDd.out j e; omega); have KB3 : Hid (Keeps (Stored g (w.heap.size + 1) none) wr y3) := KB2.out.trans (h6.mono (fun j _ h => .inr (.inl h))); clear h5 h6 h7)
          | ((with_reducible show wpList _ _ _ (⟨none, .store 24 (.tmp 32) _, _, _, _, _⟩ :: _) _ _); refine wpList_store_part rfl 24 (.tmp 32) (.tmp 28) rfl (w.heap.size + 1) 97 27 (hdT (.slice A1 k e1) x1 x2 x3 zero32 0) (By x4).toArray (hdT (.slice A1 k e1) x1 x2 x3 x4 0) (.agg (By x4).toArray) rfl rfl rfl BB3.out (by rw [hdT_size L1.out L2.out L3.out rfl, List.size_toArray, By_length, L4.out]; decide) (Tryd.hsizeB x4 L4.out) (By_one _) (hdT_mi L1.out L2.out L3.out L4.out rfl) ?_; intro y4 h5 h6 h7; have BB4 := Lib.hid h5; have R44 : Hid (Rd y4 g d q4) := R43.out.keeps h6 (by have := HGg.out; omega) (fun j e h => by have := HDd.out j e; omega); have KB4 : Hid (Keeps (Stored g (w.heap.size + 1) none) wr y4) := KB3.out.trans (h6.mono (fun j _ h => .inr (.inl h))); clear h5 h6 h7; have HBz4 : Hid (Blk y4 w.heap.size 27 hdZ) := HBz.out.keeps KB4.out (fun h => by rcases h with h | h | h; have := HGg.out; omega; omega; cases h))
          | (go_at_call 21; refine (rnumber_s _ g d q4 R44.out 8).mono ?_; unfold NumPost; rw [HM8.out, NN.out, Q5.out]; rintro e w8 ⟨rfl, hr8, hk8, hz8⟩; have R8 := Lib.hid hr8; have HB8 := Lib.hid (BB4.out.keeps hk8 (by have := HGg.out; omega)); have HBz8 := Lib.hid (HBz4.out.keeps hk8 (by have := HGg.out; omega)); have K8 := Lib.hid (KB4.out.trans (hk8.mono (fun j _ h => .inl h))); clear hr8 hk8 hz8)
          | ((with_reducible show wpList _ _ _ (⟨none, .store 25 _ _, _, _, _, _⟩ :: _) _ _); refine wpList_store_part rfl 25 (.tmp 35) (.tmp 34) rfl (w.heap.size + 1) 129 27 (hdT (.slice A1 k e1) x1 x2 x3 x4 0) #[.int .u64 (N : Int)] (hdT (.slice A1 k e1) x1 x2 x3 x4 N) (.int .u64 (N : Int)) rfl rfl rfl HB8.out (by rw [hdT_size L1.out L2.out L3.out L4.out]; exact Nat.le_refl 130) HZU.out (by intro u hu; simp at hu; subst hu; rfl) (hdT_no L1.out L2.out L3.out L4.out) ?_; intro w9 h5 h6 h7; have HB9 : Hid (Blk w9 (w.heap.size + 1) 27 (hdC h).toArray) := (by show Blk _ _ _ _; rw [← HBT.out]; exact h5); have K9 := Lib.hid (K8.out.trans (h6.mono (fun j _ h => .inr (.inl h)))); have R9 := Lib.hid (R8.out.keeps h6 (by have := HGg.out; omega) (fun j e h => by have := HDd.out j e; omega)); have HBz9 := Lib.hid (HBz8.out.keeps h6 (by omega)); have HT9 := Lib.hid (HTk.out w9 (K9.out.mono (fun _ _ h => .inl h))); have HB9r := Lib.hid (blkR (vs := hdC h) HB9.out); have Hb9 := Lib.hid (kept_below Hb.out K9.out Hb.out.size (by have := HGg.out; omega) (by omega) (fun j hj => by cases hj)); clear h5 h6 h7)
          | (go_at_call 22; refine (rend_s _ g d _ R9.out).mono ?_; rw [HRe.out]; rintro e w10 ⟨rfl, rfl⟩)
          | ((with_reducible show wpList _ _ _ (⟨some 45, _, _, _, _, _⟩ :: _) _ _); refine wpList_load_mid rfl 27 (.tmp 4) rfl (w.heap.size + 1) 0 rfl (hdC h) _ HB11r.out Tryd.underlying27 rfl (hdSz HFt.out) ?_)
          | ((with_reducible show wpList _ _ _ (⟨none, .store 27 _ _, _, _, _, _⟩ :: _) _ _); refine wpList_store_all rfl 27 (.tmp 2) (.tmp 44) rfl w.heap.size 27 hdZ (hdC noHd).toArray rfl rfl HBz9.out rfl HZN.out (hdC_one noHd) ?_; intro w12 h5 h6 h7; have B12 := Lib.hid h5; have K12 := Lib.hid h6; clear h5 h6 h7))
        refine bodyPost_ret (row_tmp Tryd.results5 _ _ w.heap.size 27 _ _ rfl B12.out Tryd.underlying27 rfl HZN.out _ rfl) rfl ⟨noHd, by rw [HOB.out]; rfl, ?_, ?_, ?_, fun W _ => noHd_ok W⟩
        · rw [ofHV, HOB.out]; rfl
        · exact noHd_ok w12
        · exact (Hb9.out).trans (K12.out.below (Hb9.out).size (fun j hj => by omega))
theorem ofh_any (w : World) (Bx : Nat) (A : Option Addr) (b : List UInt8) (c : Nat) (hS : Sees w Bx A b) (hlen : b.length ≤ 1099511627776) :
    Calls Tryd.prog 5 #[.slice A b.length c] w (OfHPost w b) :=
  (ofh_anyK w Bx A b c hS hlen).mono fun _ _ ⟨t, h1, h2, h3, h4, _⟩ => ⟨t, h1, h2, h3, h4⟩
end Go.Proofs.YtpfjkjogljilnaaDoor
