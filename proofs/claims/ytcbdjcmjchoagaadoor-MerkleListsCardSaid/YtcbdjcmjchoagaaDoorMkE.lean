/-
  merkle: the walk of knots.
-/
import Derived.Test.YtcbdjcmjchoagaaDoorMkD
import Derived.Deep.RegionHeld3
namespace Go.Proofs.YtcbdjcmjchoagaaDoor
open Go.RowKit

def rowLen : Value → Nat
  | .slice _ n _ => n
  | _ => 0
theorem rng_later {w w' : World} {b o : Nat} {cs : List Value} (h : w.rangeAt b o cs) (hb : Below w.heap.size w w') : w'.rangeAt b o cs := fun j v hv => cell_later hb (h j v hv)
theorem rng_below {w w' : World} {B b o : Nat} {cs : List Value} (h : w.rangeAt b o cs) (hb : Below B w w') (hlt : b < B) : w'.rangeAt b o cs := fun j v hv => (hb.cell (p := ⟨b, o + j, none⟩) hlt).trans (h j v hv)
theorem step_build_hash {ops : Array Oper} {o : Oper} {a : Act} {w : World} {K : Act → World → Prop} {Q : Exit → Act → World → Prop} {E : Prop} (hg : o.guard = none) (x : Operand) (ho : o.op = .buildSlice 22 1 #[(0, x)])
    (l : List UInt8) (hx : a.eval x = .agg (By l).toArray) (hl : l.length = 32)
    (h : K (a.put o.dst (.slice (some ⟨w.heap.size, 0, none⟩) 1 1)) (w.alloc (.cells (By l).toArray 32))) :
    if Region.wanted o (yielded ops a.tmps) = true then Oper.wp Tryd.prog o a w K Q else E := by
  have hw : Region.wanted o (yielded ops a.tmps) = true := by simp [Region.wanted, hg]
  rw [if_pos hw]
  obtain ⟨i0, hi, hz0, hz1, hz2⟩ := info_parts Tryd.hinfo
  refine wp_buildSlice 22 32 1 #[(0, x)] ho (By l).toArray i0 _ Tryd.underlying22 hi hz0 (by rw [hz1]; omega) (by rw [hz1]; omega) ?_ h
  rw [hz1]
  have e : (#[(0, x)].map fun (p : Nat × Operand) => (p.1, a.eval p.2)).toList = [(0, .agg (By l).toArray)] := by simp [hx]
  have hf := fill_one 32 ((Array.range (1 * 32)).map ((Value.agg (By zero32).toArray).cells[· % (Value.agg (By zero32).toArray).cells.size]!)).toList (By l) (by simp) (by rw [By_length, hl])
  rw [Array.toArray_toList] at hf
  rw [← e] at hf
  exact hf
/-- What is behind the first two. -/
theorem slice_two {w : World} {B : Nat} {A : Option Addr} {hs : List (List UInt8)} {c : Nat} (h : SeesV w B A (Hs hs)) (h32 : All32 hs) (hc : hs.length ≤ c) (h2 : 2 ≤ hs.length) :
    ∃ A1, SeesV w B A1 (Hs (hs.drop 2)) ∧ ∀ wq, (Instr.slice 22 (.slice A hs.length c) (some (.int .i64 2)) none none).run Tryd.prog wq = .ok (.slice A1 (hs.length - 2) (c - 2)) wq := by
  obtain ⟨i0, hi, hz0, hz1, hz2⟩ := info_parts Tryd.hinfo
  refine ⟨if c = 2 then A else A.map (·.add (2 * 32)), ?_, fun wq => ?_⟩
  · have e : Hs (hs.drop 2) = (Hs hs).drop 64 := by
      match hs, h2, h32 with
      | x :: y :: r, _, h32 =>
        have hx := h32 x (by simp)
        have hy := h32 y (by simp)
        simp only [List.drop_succ_cons, List.drop_zero, Hs, List.flatten_cons, By_append]
        rw [← List.append_assoc, List.drop_append_of_le_length (by simp [By_length, hx, hy])]
        rw [List.drop_eq_nil_of_le (by simp [By_length, hx, hy])]; rfl
    split
    · rw [List.drop_eq_nil_of_le (by omega)]; exact .inl rfl
    · rw [e]; exact h.drop 64
  · simp [Instr.slice, run_underlying Tryd.underlying22, Instr.sliceBounds, run_sliceBound wq .i64 (2 : Int) hs.length _ (by omega) (by omega), sizeOf, typeInfo, hi, hz1]
theorem All32.drop {hs : List (List UInt8)} (h : All32 hs) (n : Nat) : All32 (hs.drop n) := fun x hx => h x (List.mem_of_mem_drop hx)

set_option maxHeartbeats 2000000 in
set_option maxRecDepth 100000 in
theorem knots_any (w : World) (hT : Tabs w) (A : Option Addr) (n c : Nat) (row : List (List UInt8)) (hn : n = row.length) (hc : n ≤ c) (h32 : All32 row) (hS : SeesV w w.heap.size A (Hs row)) (hmax : n ≤ 1048576) :
    Calls Tryd.prog 44 #[.slice A n c] w (HashesPost w (knotsL knotB row)) := by
  subst hn
  have HT := Lib.hid hT
  have HS := Lib.hid hS
  have H32 := Lib.hid h32
  have qmk := make_hashes ((row.length + 1) / 2) (by omega)
  have eh : (((row.length + 1) / 2 : Nat) : Int) = ((row.length : Int) + 1) / 2 := by omega
  rw [eh] at qmk
  have HO := Lib.hid (own_hashes w ((row.length + 1) / 2) (by omega))
  have Hb : Hid (Below w.heap.size w (w.alloc (.cells (madeCells (By zero32).toArray ((row.length + 1) / 2 * 32)) 32))) := Lib.hid (nxAlloc (nxRefl w) _)
  clear hT hS h32 eh
  obtain ⟨i0, hi, hz0, hz1, hz2⟩ := info_parts Tryd.hinfo
  go_enter Tryd.func44, Tryd.ntmps44
  go_wp2
  go_loopw [0, 3] (fun rv nv wr => ∃ (done rest : List (List UInt8)) (A0 A1 : Option Addr) (c0 c1 : Nat), done.length + rest.length ≤ 1048576 ∧ rest.length ≤ c0 ∧ rv = .slice A0 rest.length c0 ∧ nv = .slice A1 done.length c1 ∧ Hid (knotsL knotB row = done ++ knotsL knotB rest) ∧ Hid (All32 rest) ∧ Hid (SeesV w w.heap.size A0 (Hs rest)) ∧ Hid (wr.ownsRow w.heap.size 32 32 (.slice A1 done.length c1) done.length (Hs done)) ∧ Hid (Below w.heap.size w wr)) (fun rv _ _ => rowLen rv)
  case atStart => exact ⟨[], row, A, _, c, _, by simpa using hmax, hc, rfl, rfl, rfl, H32.out, HS.out, HO.out, Hb.out⟩
  case round =>
    clear HO Hb qmk HS H32
    obtain ⟨done, rest, A0, A1, c0, c1, hdl, hc0, rfl, rfl, HK0, H32, HS, HO, Hb⟩ := hrel
    by_cases hlt : 1 < rest.length
    · obtain ⟨A2, hs2, q2⟩ := slice_two HS.out H32.out hc0 hlt
      have HS2 := Lib.hid hs2
      obtain ⟨b, off, rfl, hbb, hrg⟩ := SeesV.hash HS.out H32.out (k := 0) (by omega)
      have hrx := hrg 0 (by omega)
      have hry := hrg 1 hlt
      rw [show off + 0 * 32 = off by omega] at hrx
      rw [show off + 1 * 32 = off + 32 by omega] at hry
      have HKn : Hid (knotsL knotB row = done ++ [knotB rest[0] rest[1]] ++ knotsL knotB (rest.drop 2)) := by
        show _ = _
        rw [HK0.out]
        match rest, hlt with
        | x :: y :: r, _ => simp [knotsL]
      have HLx := Lib.hid (H32.out.get (k := 0) (by omega))
      have HLy := Lib.hid (H32.out.get hlt)
      generalize rest[0] = x at *
      generalize rest[1] = y at *
      obtain ⟨z, hz⟩ : ∃ z, knotB x y = z := ⟨_, rfl⟩
      have HZl : Hid (z.length = 32) := by show _ = _; rw [← hz, knotB_len]
      have HK : Hid (shaB (tagB nmKnot (x ++ y)) = z) := hz
      rw [hz] at HKn
      have HRx0 := Lib.hid hrx
      have HRy0 := Lib.hid hry
      have HBl := Lib.hid hbb
      have HRx := Lib.hid (rng_below hrx Hb.out hbb)
      have HRy := Lib.hid (rng_below hry Hb.out hbb)
      have HSX : Hid ((Tryd.prog.info? 32).map (·.size) = some (By x).length) := by have h := Tryd.hsizeB x HLx.out; show _ = _; rw [h]; simp
      have HSY : Hid ((Tryd.prog.info? 32).map (·.size) = some (By y).length) := by have h := Tryd.hsizeB y HLy.out; show _ = _; rw [h]; simp
      have HLxy : Hid (x.length + y.length ≤ 100000) := by show _ ≤ _; rw [HLx.out, HLy.out]; omega
      have Hd2 : Hid ((rest.drop 2).length = rest.length - 2) := by show _ = _; rw [List.length_drop]
      have hl0 : 0 < rest.length := by omega
      clear hrg hrx hry hbb hz hs2
      go_wp2
      refine wp_region_held_drew (S := fun W => W.rangeAt b off (By x) ∧ W.rangeAt b (off + 32) (By y)) (by kernel_rfl) (show _ from ⟨HRx.out, HRy.out⟩) (fun hHeld => ?_)
      refine wpAnyH_take (i := 0) (oi := ⟨_, _, _, _, _, _⟩) (v := ?_) rfl (by kernel_rfl) (by kernel_rfl) (by kernel_rfl) (fun _ _ _ h => h) (Or.inl ⟨by rfl, ?_⟩) (by assumption) ?_
      rotate_left 1
      · intro W hSw
        try dsimp only at hSw
        go_simp
        try with_reducible rfl
      try simp only [Act.put, List.setIfInBounds_toArray, List.set_cons_zero, List.set_cons_succ]
      refine wpAnyH_take (i := 1) (oi := ⟨_, _, _, _, _, _⟩) (v := ?_) rfl (by kernel_rfl) (by kernel_rfl) (by kernel_rfl) (fun _ _ _ h => h) (Or.inl ⟨by rfl, ?_⟩) (by assumption) ?_
      rotate_left 1
      · intro W hSw
        try dsimp only at hSw
        go_simp
        try with_reducible rfl
      try simp only [Act.put, List.setIfInBounds_toArray, List.set_cons_zero, List.set_cons_succ]
      refine wpAnyH_take (i := 2) (oi := ⟨_, _, _, _, _, _⟩) (v := ?_) rfl (by kernel_rfl) (by kernel_rfl) (by kernel_rfl) (fun _ _ _ h => h) (Or.inl ⟨by rfl, ?_⟩) (by assumption) ?_
      rotate_left 1
      · intro W hSw
        try dsimp only at hSw
        go_simp
        try with_reducible rfl
      try simp only [Act.put, List.setIfInBounds_toArray, List.set_cons_zero, List.set_cons_succ]
      refine wpAnyH_take (i := 3) (oi := ⟨_, _, _, _, _, _⟩) (v := .agg (By x).toArray) rfl (by kernel_rfl) (by kernel_rfl) (by kernel_rfl) (fun _ _ _ h => h) (yieldsIf_load_mid (by rfl) 32 (.tmp 16) rfl (b) (off) rfl (By x) _ (fun W h => h.1) Tryd.underlying32 rfl HSX.out) (by assumption) ?_
      try simp only [Act.put, List.setIfInBounds_toArray, List.set_cons_zero, List.set_cons_succ]
      refine wpAnyH_take (i := 4) (oi := ⟨_, _, _, _, _, _⟩) (v := ?_) rfl (by kernel_rfl) (by kernel_rfl) (by kernel_rfl) (fun _ _ _ h => h) (Or.inl ⟨by rfl, ?_⟩) (by assumption) ?_
      rotate_left 1
      · intro W hSw
        try dsimp only at hSw
        go_simp
        try with_reducible rfl
      try simp only [Act.put, List.setIfInBounds_toArray, List.set_cons_zero, List.set_cons_succ]
      refine wpAnyH_take (i := 5) (oi := ⟨_, _, _, _, _, _⟩) (v := ?_) rfl (by kernel_rfl) (by kernel_rfl) (by kernel_rfl) (fun _ _ _ h => h) (Or.inl ⟨by rfl, ?_⟩) (by assumption) ?_
      rotate_left 1
      · intro W hSw
        try dsimp only at hSw
        go_simp
        try with_reducible rfl
      try simp only [Act.put, List.setIfInBounds_toArray, List.set_cons_zero, List.set_cons_succ]
      refine wpAnyH_take (i := 6) (oi := ⟨_, _, _, _, _, _⟩) (v := .agg (By y).toArray) rfl (by kernel_rfl) (by kernel_rfl) (by kernel_rfl) (fun _ _ _ h => h) (yieldsIf_load_mid (by rfl) 32 (.tmp 19) rfl (b) (off + 32) rfl (By y) _ (fun W h => h.2) Tryd.underlying32 rfl HSY.out) (by assumption) ?_
      try simp only [Act.put, List.setIfInBounds_toArray, List.set_cons_zero, List.set_cons_succ]
      refine wpAnyH_ready (rs := [7]) (by kernel_rfl) (by simp) ?_
      refine AllReadyH.cons rfl (fun K hK => ?_) AllReadyH.nil
      go_simp
      go_at_call 47
      refine (knotText_any _ x y HLx.out HLy.out).mono ?_
      rintro e w6 ⟨A6, c6, rfl, hc6, hs6, hb6⟩
      have HC6 := Lib.hid hc6
      have HS6 := Lib.hid hs6
      have Hr6 : Hid (Below wr.heap.size wr w6) := nxUndr hb6
      have q6 := And.intro (rng_later HRx.out Hr6.out) (rng_later HRy.out Hr6.out)
      clear hc6 hs6 hb6
      refine hK.out _ _ q6 (fun hSn => ?_)
      clear hK K
      try simp only [Act.put, List.setIfInBounds_toArray, List.set_cons_zero, List.set_cons_succ]
      refine wpAnyH_ready (rs := [8]) (by kernel_rfl) (by simp) ?_
      refine AllReadyH.cons rfl (fun K hK => ?_) AllReadyH.nil
      go_simp
      go_at_call 33
      refine (hash_any w6 (HT.out.later (nxTo Hb.out Hr6.out)) nmKnot nm_le.2.1 A6 (x.length + y.length) c6 (x ++ y) (by rw [List.length_append]) (by have h := HC6.out; rwa [List.length_append] at h) HS6.out HLxy.out).mono ?_
      rw [HK.out]
      rintro e w7 ⟨rfl, hb7⟩
      have Hr7 : Hid (Below wr.heap.size wr w7) := nxTo Hr6.out hb7
      have HO7 := Lib.hid (own_below HO.out Hr7.out (fun g hg => (own_lt HO.out g hg).2))
      have q7 := And.intro (rng_later HRx.out Hr7.out) (rng_later HRy.out Hr7.out)
      clear hb7
      refine hK.out _ _ q7 (fun hSn => ?_)
      clear hK K
      try simp only [Act.put, List.setIfInBounds_toArray, List.set_cons_zero, List.set_cons_succ]
      refine wpAnyH_ready (rs := [9]) (by kernel_rfl) (by simp) ?_
      refine AllReadyH.cons rfl (fun K hK => ?_) AllReadyH.nil
      refine step_build_hash (o := ⟨some 23, _, _, _, _, _⟩) rfl (.tmp 22) rfl z rfl HZl.out ?_
      have q8 := And.intro (rng_later HRx.out (nxAlloc Hr7.out (.cells (By z).toArray 32))) (rng_later HRy.out (nxAlloc Hr7.out (.cells (By z).toArray 32)))
      refine hK.out _ _ q8 (fun hSn => ?_)
      clear hK K
      try simp only [Act.put, List.setIfInBounds_toArray, List.set_cons_zero, List.set_cons_succ]
      refine wpAnyH_ready (rs := [10]) (by kernel_rfl) (by simp) ?_
      refine AllReadyH.cons rfl (fun K hK => ?_) AllReadyH.nil
      refine step_append_seesV (o := ⟨some 24, _, _, _, _, _⟩) rfl (.tmp 14) (.tmp 23) 22 rfl w.heap.size 32 i0 (.agg (By zero32).toArray) 32 32 Tryd.underlying22 hi hz0 hz1 hz2 rfl (by omega) (.slice A1 done.length c1) done.length (Hs done) rfl (HO7.out.alloc _) (w7.heap.size + 1) (some ⟨w7.heap.size, 0, none⟩) 1 1 (By z) rfl (by rw [By_length, HZl.out]) (SeesV.lit' w7 (By z) 32) (By_one _) (by omega) (by omega) (by have h1 := Hb.out.size; have h2 := Hr7.out.size; simp; omega) ?_
      intro v8 w8 ho8 hg8 hat8
      obtain ⟨A8, c8, rfl⟩ := own_form ho8
      rw [← Hs_snoc] at ho8
      have HO8 := Lib.hid ho8
      have Hr8 : Hid (Below w.heap.size w w8) := (nxAlloc (nxTo Hb.out Hr7.out) _).grown hg8 (nxAlloc (nxTo Hb.out Hr7.out) _).size (fun j hj => (own_lt HO7.out j hj).1)
      have q9 := And.intro (rng_below HRx0.out Hr8.out HBl.out) (rng_below HRy0.out Hr8.out HBl.out)
      clear ho8 hg8 hat8
      refine hK.out _ _ q9 (fun hSn => ?_)
      clear hK K
      try simp only [Act.put, List.setIfInBounds_toArray, List.set_cons_zero, List.set_cons_succ]
      refine wpAnyH_take (i := 11) (oi := ⟨_, _, _, _, _, _⟩) (v := ?_) rfl (by kernel_rfl) (by kernel_rfl) (by kernel_rfl) (fun _ _ _ h => h) (Or.inl ⟨by rfl, ?_⟩) (by assumption) ?_
      rotate_left 1
      · intro W hSw
        try dsimp only at hSw
        go_simp
        try with_reducible rfl
      try simp only [Act.put, List.setIfInBounds_toArray, List.set_cons_zero, List.set_cons_succ]
      refine wpAnyH_done (by kernel_rfl) ?_ _
      go_wp2
      go_roundw
      case rel => exact ⟨done ++ [z], rest.drop 2, A2, A8, c0 - 2, c8, by have := Hd2.out; simp only [List.length_append, List.length_cons, List.length_nil]; omega, by have := Hd2.out; omega, by rw [Hd2.out], by rw [List.length_append]; rfl, HKn.out, H32.out.drop 2, HS2.out, by rw [List.length_append]; exact HO8.out, Hr8.out⟩
      case measure => simp [rowLen] <;> omega
    · have HKr : Hid (knotsL knotB row = done ++ rest) := by show _ = _; rw [HK0.out, knotsL_short _ (by omega)]
      have HLr : Hid ((Hs rest).length = rest.length * 32) := Hs_length H32.out
      have HLk : Hid ((knotsL knotB row).length = done.length + rest.length) := by show _ = _; rw [HKr.out, List.length_append]
      have HE : Hid (Hs (knotsL knotB row) = Hs done ++ Hs rest) := by show _ = _; rw [HKr.out]; simp [Hs, By]
      clear HK0
      go_wp2_with ((with_reducible show wpList _ _ _ (⟨some 27, _, _, _, _, _⟩ :: _) _ _); refine wpList_append_seesV rfl (.tmp 25) (.tmp 26) 22 rfl w.heap.size 32 i0 (.agg (By zero32).toArray) 32 32 Tryd.underlying22 hi hz0 hz1 hz2 rfl (by omega) (.slice A1 done.length c1) done.length (Hs done) rfl HO.out w.heap.size A0 rest.length c0 (Hs rest) rfl HLr.out (HS.out.below Hb.out) (Hs_one _) (by omega) (by omega) Hb.out.size ?_; intro v8 w8 ho8 hg8 hat8; obtain ⟨A8, c8, rfl⟩ := own_form ho8; have HO8 := Lib.hid ho8; have Hb8 : Hid (Below w.heap.size w w8) := Hb.out.grown hg8 Hb.out.size (fun j hj => (own_lt HO.out j hj).1); clear ho8 hg8 hat8)
      go_ret
      exact ⟨A8, c8, by rw [HLk.out]; rfl, by rw [HLk.out, HE.out]; exact HO8.out, Hb8.out⟩

end Go.Proofs.YtcbdjcmjchoagaaDoor
