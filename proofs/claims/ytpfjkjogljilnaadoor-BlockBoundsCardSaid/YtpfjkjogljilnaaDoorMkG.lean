/-
  merkle: the walk of knots. · merkle: the walk of climb. · merkle: the text of a root; Root and Path.
-/
import Derived.Test.YtpfjkjogljilnaaDoorPBbQ3
import Derived.Deep.RegionHeld3
namespace Go.Proofs.YtpfjkjogljilnaaDoor
open Go.RowKit

def rowLen : Value → Nat
  | .slice _ n _ => n
  | _ => 0
theorem rng_later {w w' : World} {b o : Nat} {cs : List Value} (h : w.rangeAt b o cs) (hb : Below w.heap.size w w') : w'.rangeAt b o cs := fun j v hv => cell_later hb (h j v hv)
theorem rng_below {w w' : World} {B b o : Nat} {cs : List Value} (h : w.rangeAt b o cs) (hb : Below B w w') (hlt : b < B) : w'.rangeAt b o cs := fun j v hv => (hb.cell (p := ⟨b, o + j, none⟩) hlt).trans (h j v hv)
theorem step_build_hash {ops : Array Oper} {o : Oper} {a : Act} {w : World} {K : Act → World → Prop} {Q : Exit → Act → World → Prop} {E : Prop} (hg : o.guard = none) (x : Operand) (ho : o.op = .buildSlice 22 1 #[(0, x)])
    (l : List UInt8) (hx : a.eval x = .agg (By l).toArray) (hl : l.length = 32)
    (h : K (a.put o.dst (.slice (some ⟨w.heap.size, 0, none⟩) 1 1)) (w.alloc (.cells (By l).toArray 24))) :
    if Region.wanted o (yielded ops a.tmps) = true then Oper.wp Tryd.prog o a w K Q else E := by
  have hw : Region.wanted o (yielded ops a.tmps) = true := by simp [Region.wanted, hg]
  rw [if_pos hw]
  obtain ⟨i0, hi, hz0, hz1, hz2⟩ := info_parts Tryd.hinfo
  refine wp_buildSlice 22 24 1 #[(0, x)] ho (By l).toArray i0 _ Tryd.underlying22 hi hz0 (by rw [hz1]; omega) (by rw [hz1]; omega) ?_ h
  rw [hz1]
  have e : (#[(0, x)].map fun (p : Nat × Operand) => (p.1, a.eval p.2)).toList = [(0, .agg (By l).toArray)] := by simp [hx]
  have hf := fill_one 32 ((Array.range (1 * 32)).map ((Value.agg (By zero32).toArray).cells[· % (Value.agg (By zero32).toArray).cells.size]!)).toList (By l) (by simp) (by rw [By_length, hl])
  rw [Array.toArray_toList] at hf
  rw [← e] at hf
  exact hf
/-- What is behind the first two. -/
theorem slice_two {w : World} {B : Nat} {A : Option Addr} {hs : List (List UInt8)} {c : Nat} (h : SeesV w B A (Hs hs)) (h32 : All32 hs) (hc : hs.length ≤ c) (h2 : 2 ≤ hs.length) :
    ∃ A1, SeesV w B A1 (Hs (hs.drop 2)) ∧ ∀ wq, (Instr.slice 22 (.slice A hs.length c) (some (.int .i64 2)) none none).run Tryd.prog wq = .ok (.slice A1 (hs.length - 2) (c - 2)) wq := by
  obtain ⟨i0, hi, hz0, hz1, hz2⟩ := info_parts Tryd.hinfo
  refine ⟨if c = 2 then A else A.map (·.add (2 * 32)), ?_, fun wq => ?_⟩
  · have e : Hs (hs.drop 2) = (Hs hs).drop 64 := by
      match hs, h2, h32 with
      | x :: y :: r, _, h32 =>
        have hx := h32 x (by simp)
        have hy := h32 y (by simp)
        simp only [List.drop_succ_cons, List.drop_zero, Hs, List.flatten_cons, By_append]
        rw [← List.append_assoc, List.drop_append_of_le_length (by simp [By_length, hx, hy])]
        rw [List.drop_eq_nil_of_le (by simp [By_length, hx, hy])]; rfl
    split
    · rw [List.drop_eq_nil_of_le (by omega)]; exact .inl rfl
    · rw [e]; exact h.drop 64
  · simp [Instr.slice, run_underlying Tryd.underlying22, Instr.sliceBounds, run_sliceBound wq .i64 (2 : Int) hs.length _ (by omega) (by omega), sizeOf, typeInfo, hi, hz1]
theorem All32.drop {hs : List (List UInt8)} (h : All32 hs) (n : Nat) : All32 (hs.drop n) := fun x hx => h x (List.mem_of_mem_drop hx)

set_option maxHeartbeats 2000000 in
set_option maxRecDepth 100000 in
theorem knots_any (w : World) (hT : Tabs w) (A : Option Addr) (n c : Nat) (row : List (List UInt8)) (hn : n = row.length) (hc : n ≤ c) (h32 : All32 row) (hS : SeesV w w.heap.size A (Hs row)) (hmax : n ≤ 1048576) :
    Calls Tryd.prog 56 #[.slice A n c] w (HashesPost w (knotsL knotB row)) := by
  subst hn
  have HT := Lib.hid hT
  have HS := Lib.hid hS
  have H32 := Lib.hid h32
  have qmk := make_hashes ((row.length + 1) / 2) (by omega)
  have eh : (((row.length + 1) / 2 : Nat) : Int) = ((row.length : Int) + 1) / 2 := by omega
  rw [eh] at qmk
  have HO := Lib.hid (own_hashes w ((row.length + 1) / 2) (by omega))
  have Hb : Hid (Below w.heap.size w (w.alloc (.cells (madeCells (By zero32).toArray ((row.length + 1) / 2 * 32)) 24))) := Lib.hid (nxAlloc (nxRefl w) _)
  clear hT hS h32 eh
  obtain ⟨i0, hi, hz0, hz1, hz2⟩ := info_parts Tryd.hinfo
  go_enter Tryd.func56, Tryd.ntmps56
  go_wp2
  go_loopw [0, 3] (fun rv nv wr => ∃ (done rest : List (List UInt8)) (A0 A1 : Option Addr) (c0 c1 : Nat), done.length + rest.length ≤ 1048576 ∧ rest.length ≤ c0 ∧ rv = .slice A0 rest.length c0 ∧ nv = .slice A1 done.length c1 ∧ Hid (knotsL knotB row = done ++ knotsL knotB rest) ∧ Hid (All32 rest) ∧ Hid (SeesV w w.heap.size A0 (Hs rest)) ∧ Hid (wr.ownsRow w.heap.size 24 32 (.slice A1 done.length c1) done.length (Hs done)) ∧ Hid (Below w.heap.size w wr)) (fun rv _ _ => rowLen rv)
  case atStart => exact ⟨[], row, A, _, c, _, by simpa using hmax, hc, rfl, rfl, rfl, H32.out, HS.out, HO.out, Hb.out⟩
  case round =>
    clear HO Hb qmk HS H32
    obtain ⟨done, rest, A0, A1, c0, c1, hdl, hc0, rfl, rfl, HK0, H32, HS, HO, Hb⟩ := hrel
    by_cases hlt : 1 < rest.length
    · obtain ⟨A2, hs2, q2⟩ := slice_two HS.out H32.out hc0 hlt
      have HS2 := Lib.hid hs2
      obtain ⟨b, off, rfl, hbb, hrg⟩ := SeesV.hash HS.out H32.out (k := 0) (by omega)
      have hrx := hrg 0 (by omega)
      have hry := hrg 1 hlt
      rw [show off + 0 * 32 = off by omega] at hrx
      rw [show off + 1 * 32 = off + 32 by omega] at hry
      have HKn : Hid (knotsL knotB row = done ++ [knotB rest[0] rest[1]] ++ knotsL knotB (rest.drop 2)) := by
        show _ = _
        rw [HK0.out]
        match rest, hlt with
        | x :: y :: r, _ => simp [knotsL]
      have HLx := Lib.hid (H32.out.get (k := 0) (by omega))
      have HLy := Lib.hid (H32.out.get hlt)
      generalize rest[0] = x at *
      generalize rest[1] = y at *
      obtain ⟨z, hz⟩ : ∃ z, knotB x y = z := ⟨_, rfl⟩
      have HZl : Hid (z.length = 32) := by show _ = _; rw [← hz, knotB_len]
      have HK : Hid (shaB (tagB nmKnot (x ++ y)) = z) := hz
      rw [hz] at HKn
      have HRx0 := Lib.hid hrx
      have HRy0 := Lib.hid hry
      have HBl := Lib.hid hbb
      have HRx := Lib.hid (rng_below hrx Hb.out hbb)
      have HRy := Lib.hid (rng_below hry Hb.out hbb)
      have HSX : Hid ((Tryd.prog.info? 24).map (·.size) = some (By x).length) := by have h := Tryd.hsizeB x HLx.out; show _ = _; rw [h]; simp
      have HSY : Hid ((Tryd.prog.info? 24).map (·.size) = some (By y).length) := by have h := Tryd.hsizeB y HLy.out; show _ = _; rw [h]; simp
      have HLxy : Hid (x.length + y.length ≤ 100000) := by show _ ≤ _; rw [HLx.out, HLy.out]; omega
      have Hd2 : Hid ((rest.drop 2).length = rest.length - 2) := by show _ = _; rw [List.length_drop]
      have hl0 : 0 < rest.length := by omega
      clear hrg hrx hry hbb hz hs2
      go_wp2
      refine wp_region_held_drew (S := fun W => W.rangeAt b off (By x) ∧ W.rangeAt b (off + 32) (By y)) (by kernel_rfl) (show _ from ⟨HRx.out, HRy.out⟩) (fun hHeld => ?_)
      refine wpAnyH_take (i := 0) (oi := ⟨_, _, _, _, _, _⟩) (v := ?_) rfl (by kernel_rfl) (by kernel_rfl) (by kernel_rfl) (fun _ _ _ h => h) (Or.inl ⟨by rfl, ?_⟩) (by assumption) ?_
      rotate_left 1
      · intro W hSw
        try dsimp only at hSw
        go_simp
        try with_reducible rfl
      try simp only [Act.put, List.setIfInBounds_toArray, List.set_cons_zero, List.set_cons_succ]
      refine wpAnyH_take (i := 1) (oi := ⟨_, _, _, _, _, _⟩) (v := ?_) rfl (by kernel_rfl) (by kernel_rfl) (by kernel_rfl) (fun _ _ _ h => h) (Or.inl ⟨by rfl, ?_⟩) (by assumption) ?_
      rotate_left 1
      · intro W hSw
        try dsimp only at hSw
        go_simp
        try with_reducible rfl
      try simp only [Act.put, List.setIfInBounds_toArray, List.set_cons_zero, List.set_cons_succ]
      refine wpAnyH_take (i := 2) (oi := ⟨_, _, _, _, _, _⟩) (v := ?_) rfl (by kernel_rfl) (by kernel_rfl) (by kernel_rfl) (fun _ _ _ h => h) (Or.inl ⟨by rfl, ?_⟩) (by assumption) ?_
      rotate_left 1
      · intro W hSw
        try dsimp only at hSw
        go_simp
        try with_reducible rfl
      try simp only [Act.put, List.setIfInBounds_toArray, List.set_cons_zero, List.set_cons_succ]
      refine wpAnyH_take (i := 3) (oi := ⟨_, _, _, _, _, _⟩) (v := .agg (By x).toArray) rfl (by kernel_rfl) (by kernel_rfl) (by kernel_rfl) (fun _ _ _ h => h) (yieldsIf_load_mid (by rfl) 24 (.tmp 16) rfl (b) (off) rfl (By x) _ (fun W h => h.1) Tryd.underlying24 rfl HSX.out) (by assumption) ?_
      try simp only [Act.put, List.setIfInBounds_toArray, List.set_cons_zero, List.set_cons_succ]
      refine wpAnyH_take (i := 4) (oi := ⟨_, _, _, _, _, _⟩) (v := ?_) rfl (by kernel_rfl) (by kernel_rfl) (by kernel_rfl) (fun _ _ _ h => h) (Or.inl ⟨by rfl, ?_⟩) (by assumption) ?_
      rotate_left 1
      · intro W hSw
        try dsimp only at hSw
        go_simp
        try with_reducible rfl
      try simp only [Act.put, List.setIfInBounds_toArray, List.set_cons_zero, List.set_cons_succ]
      refine wpAnyH_take (i := 5) (oi := ⟨_, _, _, _, _, _⟩) (v := ?_) rfl (by kernel_rfl) (by kernel_rfl) (by kernel_rfl) (fun _ _ _ h => h) (Or.inl ⟨by rfl, ?_⟩) (by assumption) ?_
      rotate_left 1
      · intro W hSw
        try dsimp only at hSw
        go_simp
        try with_reducible rfl
      try simp only [Act.put, List.setIfInBounds_toArray, List.set_cons_zero, List.set_cons_succ]
      refine wpAnyH_take (i := 6) (oi := ⟨_, _, _, _, _, _⟩) (v := .agg (By y).toArray) rfl (by kernel_rfl) (by kernel_rfl) (by kernel_rfl) (fun _ _ _ h => h) (yieldsIf_load_mid (by rfl) 24 (.tmp 19) rfl (b) (off + 32) rfl (By y) _ (fun W h => h.2) Tryd.underlying24 rfl HSY.out) (by assumption) ?_
      try simp only [Act.put, List.setIfInBounds_toArray, List.set_cons_zero, List.set_cons_succ]
      refine wpAnyH_ready (rs := [7]) (by kernel_rfl) (by simp) ?_
      refine AllReadyH.cons rfl (fun K hK => ?_) AllReadyH.nil
      go_simp
      go_at_call 65
      refine (knotText_any _ x y HLx.out HLy.out).mono ?_
      rintro e w6 ⟨A6, c6, rfl, hc6, hs6, hb6⟩
      have HC6 := Lib.hid hc6
      have HS6 := Lib.hid hs6
      have Hr6 : Hid (Below wr.heap.size wr w6) := nxUndr hb6
      have q6 := And.intro (rng_later HRx.out Hr6.out) (rng_later HRy.out Hr6.out)
      clear hc6 hs6 hb6
      refine hK.out _ _ q6 (fun hSn => ?_)
      clear hK K
      try simp only [Act.put, List.setIfInBounds_toArray, List.set_cons_zero, List.set_cons_succ]
      refine wpAnyH_ready (rs := [8]) (by kernel_rfl) (by simp) ?_
      refine AllReadyH.cons rfl (fun K hK => ?_) AllReadyH.nil
      go_simp
      go_at_call 39
      refine (hash_any w6 (HT.out.later (nxTo Hb.out Hr6.out)) nmKnot nm_le.2.1 A6 (x.length + y.length) c6 (x ++ y) (by rw [List.length_append]) (by have h := HC6.out; rwa [List.length_append] at h) HS6.out HLxy.out).mono ?_
      rw [HK.out]
      rintro e w7 ⟨rfl, hb7⟩
      have Hr7 : Hid (Below wr.heap.size wr w7) := nxTo Hr6.out hb7
      have HO7 := Lib.hid (own_below HO.out Hr7.out (fun g hg => (own_lt HO.out g hg).2))
      have q7 := And.intro (rng_later HRx.out Hr7.out) (rng_later HRy.out Hr7.out)
      clear hb7
      refine hK.out _ _ q7 (fun hSn => ?_)
      clear hK K
      try simp only [Act.put, List.setIfInBounds_toArray, List.set_cons_zero, List.set_cons_succ]
      refine wpAnyH_ready (rs := [9]) (by kernel_rfl) (by simp) ?_
      refine AllReadyH.cons rfl (fun K hK => ?_) AllReadyH.nil
      refine step_build_hash (o := ⟨some 23, _, _, _, _, _⟩) rfl (.tmp 22) rfl z rfl HZl.out ?_
      have q8 := And.intro (rng_later HRx.out (nxAlloc Hr7.out (.cells (By z).toArray 24))) (rng_later HRy.out (nxAlloc Hr7.out (.cells (By z).toArray 24)))
      refine hK.out _ _ q8 (fun hSn => ?_)
      clear hK K
      try simp only [Act.put, List.setIfInBounds_toArray, List.set_cons_zero, List.set_cons_succ]
      refine wpAnyH_ready (rs := [10]) (by kernel_rfl) (by simp) ?_
      refine AllReadyH.cons rfl (fun K hK => ?_) AllReadyH.nil
      refine step_append_seesV (o := ⟨some 24, _, _, _, _, _⟩) rfl (.tmp 14) (.tmp 23) 22 rfl w.heap.size 24 i0 (.agg (By zero32).toArray) 32 32 Tryd.underlying22 hi hz0 hz1 hz2 rfl (by omega) (.slice A1 done.length c1) done.length (Hs done) rfl (HO7.out.alloc _) (w7.heap.size + 1) (some ⟨w7.heap.size, 0, none⟩) 1 1 (By z) rfl (by rw [By_length, HZl.out]) (SeesV.lit' w7 (By z) 24) (By_one _) (by omega) (by omega) (by have h1 := Hb.out.size; have h2 := Hr7.out.size; simp; omega) ?_
      intro v8 w8 ho8 hg8 hat8
      obtain ⟨A8, c8, rfl⟩ := own_form ho8
      rw [← Hs_snoc] at ho8
      have HO8 := Lib.hid ho8
      have Hr8 : Hid (Below w.heap.size w w8) := (nxAlloc (nxTo Hb.out Hr7.out) _).grown hg8 (nxAlloc (nxTo Hb.out Hr7.out) _).size (fun j hj => (own_lt HO7.out j hj).1)
      have q9 := And.intro (rng_below HRx0.out Hr8.out HBl.out) (rng_below HRy0.out Hr8.out HBl.out)
      clear ho8 hg8 hat8
      refine hK.out _ _ q9 (fun hSn => ?_)
      clear hK K
      try simp only [Act.put, List.setIfInBounds_toArray, List.set_cons_zero, List.set_cons_succ]
      refine wpAnyH_take (i := 11) (oi := ⟨_, _, _, _, _, _⟩) (v := ?_) rfl (by kernel_rfl) (by kernel_rfl) (by kernel_rfl) (fun _ _ _ h => h) (Or.inl ⟨by rfl, ?_⟩) (by assumption) ?_
      rotate_left 1
      · intro W hSw
        try dsimp only at hSw
        go_simp
        try with_reducible rfl
      try simp only [Act.put, List.setIfInBounds_toArray, List.set_cons_zero, List.set_cons_succ]
      refine wpAnyH_done (by kernel_rfl) ?_ _
      go_wp2
      go_roundw
      case rel => exact ⟨done ++ [z], rest.drop 2, A2, A8, c0 - 2, c8, by have := Hd2.out; simp only [List.length_append, List.length_cons, List.length_nil]; omega, by have := Hd2.out; omega, by rw [Hd2.out], by rw [List.length_append]; rfl, HKn.out, H32.out.drop 2, HS2.out, by rw [List.length_append]; exact HO8.out, Hr8.out⟩
      case measure => simp [rowLen] <;> omega
    · have HKr : Hid (knotsL knotB row = done ++ rest) := by show _ = _; rw [HK0.out, knotsL_short _ (by omega)]
      have HLr : Hid ((Hs rest).length = rest.length * 32) := Hs_length H32.out
      have HLk : Hid ((knotsL knotB row).length = done.length + rest.length) := by show _ = _; rw [HKr.out, List.length_append]
      have HE : Hid (Hs (knotsL knotB row) = Hs done ++ Hs rest) := by show _ = _; rw [HKr.out]; simp [Hs, By]
      clear HK0
      go_wp2_with ((with_reducible show wpList _ _ _ (⟨some 27, _, _, _, _, _⟩ :: _) _ _); refine wpList_append_seesV rfl (.tmp 25) (.tmp 26) 22 rfl w.heap.size 24 i0 (.agg (By zero32).toArray) 32 32 Tryd.underlying22 hi hz0 hz1 hz2 rfl (by omega) (.slice A1 done.length c1) done.length (Hs done) rfl HO.out w.heap.size A0 rest.length c0 (Hs rest) rfl HLr.out (HS.out.below Hb.out) (Hs_one _) (by omega) (by omega) Hb.out.size ?_; intro v8 w8 ho8 hg8 hat8; obtain ⟨A8, c8, rfl⟩ := own_form ho8; have HO8 := Lib.hid ho8; have Hb8 : Hid (Below w.heap.size w w8) := Hb.out.grown hg8 Hb.out.size (fun j hj => (own_lt HO.out j hj).1); clear ho8 hg8 hat8)
      go_ret
      exact ⟨A8, c8, by rw [HLk.out]; rfl, by rw [HLk.out, HE.out]; exact HO8.out, Hb8.out⟩

end Go.Proofs.YtpfjkjogljilnaaDoor
namespace Go.Proofs.YtpfjkjogljilnaaDoor
open Go.RowKit

theorem knotsL_32 {l : List (List UInt8)} (h : All32 l) : All32 (knotsL knotB l) := by
  induction l using knotsL.induct with
  | case1 a b r ih =>
    intro y hy
    rw [knotsL] at hy
    rcases List.mem_cons.1 hy with rfl | hy
    · exact knotB_len a b
    · exact ih (fun z hz => h z (List.mem_cons_of_mem _ (List.mem_cons_of_mem _ hz))) y hy
  | case2 l hl =>
    match l, hl, h with
    | [], _, h => exact h
    | [x], _, h => exact h
    | a :: b :: r, hl, _ => exact absurd rfl (hl a b r)
theorem topR_short {l : List (List UInt8)} (h : l.length ≤ 1) : topR knotB l = l := by rw [topR, dif_pos h]
theorem topR_long {l : List (List UInt8)} (h : ¬ l.length ≤ 1) : topR knotB l = topR knotB (knotsL knotB l) := by rw [topR, dif_neg h]
theorem besR_short {n : Nat} {l : List (List UInt8)} (h : l.length ≤ 1) : besR knotB n l = [] := by rw [besR, dif_pos h]
theorem besR_long {n : Nat} {l : List (List UInt8)} (h : ¬ l.length ≤ 1) : besR knotB n l = hereL n l ++ besR knotB (n / 2) (knotsL knotB l) := by rw [besR, dif_neg h]
theorem SeesV.grown {w w' : World} {B : Nat} {A : Option Addr} {vs : List Value} {rb : Option Nat} (h : SeesV w B A vs) (hg : w.grownBy w' rb) (hne : ∀ ad, A = some ad → some ad.block ≠ rb) : SeesV w' B A vs := by
  rcases h with h | ⟨b, off, hA, hlt, hc⟩
  · exact .inl h
  · refine .inr ⟨b, off, hA, hlt, fun i hi => ?_⟩
    have hb := World.block_lt_of_cell? _ _ (hc i hi)
    rw [World.cell?_of_block (w := w) (hg.block b hb (hne ⟨b, off, none⟩ hA))]
    exact hc i hi
/-- Two slices lie in two blocks. -/
def Apart (A B : Option Addr) : Prop := ∀ ad, A = some ad → ∀ n c, some ad.block ≠ (Value.slice B n c).ownBlock
theorem apart_none (A : Option Addr) : Apart A none := by intro ad _ n c; simp [Value.ownBlock]
theorem apart_own {w : World} {base size : Nat} {e : TypeId} {A B : Option Addr} {n c : Nat} {xs : List Value} (h : w.ownsRow base e size (.slice A n c) n xs) (hB : ∀ bd, B = some bd → bd.block < base) : Apart A B := by
  intro ad hA m d
  subst hA
  have := own_lt h ad.block rfl
  cases B with
  | none => simp [Value.ownBlock]
  | some bd =>
    have hb := hB bd rfl
    simp only [Value.ownBlock]
    intro e
    injection e with e
    omega
/-- What climb answers. -/
def ClimbPost (w : World) (top bes : List (List UInt8)) (e : Ending) (w' : World) : Prop :=
  ∃ A c B d, e = .returned (.tuple #[.slice A top.length c, .slice B bes.length d]) ∧ top.length ≤ c ∧ bes.length ≤ d ∧ All32 top ∧ All32 bes ∧ SeesV w' w'.heap.size A (Hs top) ∧ SeesV w' w'.heap.size B (Hs bes) ∧ Below w.heap.size w w'

set_option maxHeartbeats 2000000 in
set_option maxRecDepth 100000 in
theorem climb_any (w : World) (hT : Tabs w) (n : Nat) (A : Option Addr) (m c : Nat) (ids : List (List UInt8)) (hm : m = ids.length) (h32 : All32 ids) (hS : SeesV w w.heap.size A (Hs ids)) (hmax : m ≤ 1048576) (hn : n < m ∨ n = 0 ∧ m = 0) :
    Calls Tryd.prog 37 #[.int .i64 (n : Int), .slice A m c] w (ClimbPost w (topR knotB (ids.map leafB)) (besR knotB n (ids.map leafB))) := by
  subst hm
  have HT := Lib.hid hT
  have HS := Lib.hid hS
  have H32 := Lib.hid h32
  have HL32 : Hid (All32 (ids.map leafB)) := by
    intro y hy
    obtain ⟨x, _, rfl⟩ := List.mem_map.1 hy
    exact leafB_len x
  have HLl : Hid ((ids.map leafB).length = ids.length) := by show _ = _; simp
  obtain ⟨lv, hlv⟩ : ∃ lv, ids.map leafB = lv := ⟨_, rfl⟩
  have HLv := Lib.hid hlv
  rw [hlv] at HL32 HLl ⊢
  clear hT hS h32 hlv
  obtain ⟨i0, hi, hz0, hz1, hz2⟩ := info_parts Tryd.hinfo
  go_enter Tryd.func37, Tryd.ntmps37
  go_wp2
  go_step3
  go_wp2_with (go_at_call 54; refine (leaves_any _ HT.out A _ c ids rfl H32.out HS.out (by omega)).mono ?_; rw [HLv.out]; rintro e w2 ⟨A2, c2, rfl, ho2, hb2⟩; have HO2 := Lib.hid ho2; have Hb2 := Lib.hid hb2; clear ho2 hb2)
  go_step3
  go_wp2
  go_loopw [0, 5, 6] (fun nv bv rv wr => ∃ (n1 : Nat) (row bes : List (List UInt8)) (A1 B1 : Option Addr) (c1 d1 : Nat), nv = .int .i64 n1 ∧ rv = .slice A1 row.length c1 ∧ bv = .slice B1 bes.length d1 ∧ row.length ≤ c1 ∧ row.length ≤ 1048576 ∧ bes.length + row.length ≤ 2097152 ∧ (n1 < row.length ∨ n1 = 0 ∧ row.length = 0) ∧ Hid (Apart A1 B1) ∧ Hid (All32 row) ∧ Hid (All32 bes) ∧ Hid (topR knotB row = topR knotB lv) ∧ Hid (bes ++ besR knotB n1 row = besR knotB n lv) ∧ Hid (SeesV wr wr.heap.size A1 (Hs row)) ∧ Hid (wr.ownsRow w.heap.size 24 32 (.slice B1 bes.length d1) bes.length (Hs bes)) ∧ Hid (Below w.heap.size w wr)) (fun _ _ rv _ => rowLen rv)
  case atStart => exact ⟨n, lv, [], A2, none, c2, 0, rfl, rfl, rfl, own_cap' HO2.out, by rw [HLl.out]; exact hmax, by rw [HLl.out]; simp; omega, by rw [HLl.out]; exact hn, apart_none _, HL32.out, All32.nil, rfl, rfl, SeesV.own HO2.out, World.ownsRow_nil _ _ _ _, Hb2.out⟩
  case round =>
    clear HO2 Hb2 HS H32 HL32 HLl HLv hn hmax
    obtain ⟨n1, row, bes, A1, B1, c1, d1, rfl, rfl, rfl, hc1, hrl, hbl, hn1, HAp, R32, B32, HTop, HBes, HR, HO, Hb⟩ := hrel
    by_cases h1 : row.length ≤ 1
    · have HTop' : Hid (topR knotB lv = row) := by show _ = _; rw [← HTop.out, topR_short h1]
      have HBes' : Hid (besR knotB n lv = bes) := by show _ = _; rw [← HBes.out, besR_short h1, List.append_nil]
      clear HTop HBes
      go_wp2
      rw [Exit.noGoto_ret]
      go_ret2
      exact ⟨A1, c1, B1, d1, by rw [HTop'.out, HBes'.out]; rfl, by rw [HTop'.out]; exact hc1, by rw [HBes'.out]; exact own_cap' HO.out, by rw [HTop'.out]; exact R32.out, by rw [HBes'.out]; exact B32.out, by rw [HTop'.out]; exact HR.out, by rw [HBes'.out]; exact SeesV.own HO.out, Hb.out⟩
    · have hn1' : n1 < row.length := by omega
      have HTop' : Hid (topR knotB (knotsL knotB row) = topR knotB lv) := by show _ = _; rw [← topR_long h1]; exact HTop.out
      have HKl : Hid ((knotsL knotB row).length = (row.length + 1) / 2) := knotsL_len knotB row
      have HK32 := Lib.hid (knotsL_32 R32.out)
      have HBes' : Hid (bes ++ (hereL n1 row ++ besR knotB (n1 / 2) (knotsL knotB row)) = besR knotB n lv) := by show _ = _; rw [← besR_long h1]; exact HBes.out
      clear HTop HBes hn1
      cases ha : aloneB n1 row.length with
      | true =>
        have HA := Lib.hid ha
        have HBn : Hid (bes ++ besR knotB (n1 / 2) (knotsL knotB row) = besR knotB n lv) := by
          show _ = _
          have h := HBes'.out
          rw [hereL, if_pos (of_decide_eq_true ha), List.nil_append] at h
          exact h
        clear ha HBes'
        go_wp2_with (first
          | (go_at_call 55; refine (isAlone_any _ n1 row.length (by omega) (by omega) (by omega)).mono ?_; rw [HA.out]; rintro e wr ⟨rfl, rfl⟩)
          | (go_at_call 56; refine (knots_any _ (HT.out.later Hb.out) A1 _ c1 row rfl hc1 R32.out HR.out hrl).mono ?_; rintro e w7 ⟨A7, c7, rfl, ho7, hb7⟩; have HO7 := Lib.hid ho7; have Hb7 : Hid (Below w.heap.size w w7) := nxTo Hb.out hb7; have HB7 := Lib.hid (own_below HO.out hb7 (fun g hg => (own_lt HO.out g hg).2)); have HAp7 : Hid (Apart A7 B1) := apart_own ho7 (fun bd hbd => by subst hbd; exact (own_lt HO.out bd.block rfl).2); clear ho7 hb7))
        go_roundw
        case rel => exact ⟨n1 / 2, knotsL knotB row, bes, A7, B1, c7, d1, by go_num, rfl, rfl, own_cap' HO7.out, by rw [HKl.out]; omega, by rw [HKl.out]; omega, by rw [HKl.out]; omega, HAp7.out, HK32.out, B32.out, HTop'.out, HBn.out, SeesV.own HO7.out, HB7.out, Hb7.out⟩
        case measure => have := HKl.out; simp [rowLen]; omega
      | false =>
        have HA := Lib.hid ha
        have hal := of_decide_eq_false ha
        clear ha
        by_cases h2 : n1 % 2 = 0
        · have hne : n1 + 1 ≠ row.length := fun h => hal ⟨h, h2⟩
          obtain ⟨b, off, rfl, hbb, hrg⟩ := SeesV.hash HR.out R32.out (k := 0) (by omega)
          have hrx := hrg (n1 + 1) (by omega)
          have hxl := R32.out.get (k := n1 + 1) (by omega)
          have hx : hereL (n1) row = [row[n1 + 1]] := by
            rw [hereL, if_neg hal, if_pos h2]
            simp [show n1 + 1 < row.length by omega]
          rw [hx] at HBes'
          generalize row[n1 + 1] = x at *
          have HRx := Lib.hid hrx
          have HXl := Lib.hid hxl
          have HApo : Hid (Apart (some ⟨b, off, none⟩) B1) := HAp
          have HSX : Hid ((Tryd.prog.info? 24).map (·.size) = some (By x).length) := by have h := Tryd.hsizeB x hxl; show _ = _; rw [h]; simp
          have HBn : Hid ((bes ++ [x]) ++ besR knotB ((n1) / 2) (knotsL knotB row) = besR knotB n lv) := by show _ = _; rw [List.append_assoc]; exact HBes'.out
          have B32' := Lib.hid (B32.out.snoc hxl)
          have Hbl : Hid ((bes ++ [x]).length = bes.length + 1) := by show _ = _; simp
          clear hrg hrx hxl hx hbb HBes' hal HAp
          have h3 : ((n1 : Int) % 2 == 0) = true := by rw [beq_iff_eq]; omega
          clear h2
          go_wp2_with (first
            | (go_at_call 55; refine (isAlone_any _ n1 row.length (by omega) (by omega) (by omega)).mono ?_; rw [HA.out]; rintro e wr ⟨rfl, rfl⟩)
            | ((with_reducible show wpList _ _ _ (⟨some 36, _, _, _, _, _⟩ :: _) _ _); refine wpList_load_mid rfl 24 (.tmp 35) rfl b (off + (n1 + 1) * 32) rfl (By x) _ HRx.out Tryd.underlying24 rfl HSX.out ?_)
            | ((with_reducible show wpList _ _ _ (⟨some 37, _, _, _, _, _⟩ :: _) _ _); refine wpList_build_hash rfl (.tmp 36) rfl x rfl HXl.out ?_)
            | ((with_reducible show wpList _ _ _ (⟨some 38, _, _, _, _, _⟩ :: _) _ _); refine wpList_append_seesV rfl (.tmp 31) (.tmp 37) 22 rfl w.heap.size 24 i0 (.agg (By zero32).toArray) 32 32 Tryd.underlying22 hi hz0 hz1 hz2 rfl (by omega) (.slice B1 bes.length d1) bes.length (Hs bes) rfl (HO.out.alloc _) (wr.heap.size + 1) (some ⟨wr.heap.size, 0, none⟩) 1 1 (By x) rfl (by rw [By_length, HXl.out]) (SeesV.lit' wr (By x) 24) (By_one _) (by omega) (by omega) (by have h1 := Hb.out.size; simp; omega) ?_; intro v8 w8 ho8 hg8 hat8; obtain ⟨B8, d8, rfl⟩ := own_form ho8; rw [← Hs_snoc] at ho8; have HO8 := Lib.hid ho8; have Hb8 : Hid (Below w.heap.size w w8) := (nxAlloc Hb.out _).grown hg8 (nxAlloc Hb.out _).size (fun j hj => (own_lt HO.out j hj).1); have HR8 : Hid (SeesV w8 w8.heap.size (some ⟨b, off, none⟩) (Hs row)) := ((HR.out.alloc _).grown hg8 (fun ad had => HApo.out ad had _ _)).size; clear ho8 hg8 hat8)
            | (go_at_call 56; refine (knots_any _ (HT.out.later Hb8.out) (some ⟨b, off, none⟩) _ c1 row rfl hc1 R32.out HR8.out hrl).mono ?_; rintro e w9 ⟨A7, c7, rfl, ho7, hb7⟩; have HO7 := Lib.hid ho7; have Hb7 : Hid (Below w.heap.size w w9) := nxTo Hb8.out hb7; have HB7 := Lib.hid (own_below HO8.out hb7 (fun g hg => (own_lt HO8.out g hg).2)); have HAp7 : Hid (Apart A7 B8) := apart_own ho7 (fun bd hbd => by subst hbd; exact (own_lt HO8.out bd.block rfl).2); clear ho7 hb7))
          go_roundw
          case rel => exact ⟨(n1) / 2, knotsL knotB row, bes ++ [x], A7, B8, c7, d8, by go_num, rfl, by rw [Hbl.out], own_cap' HO7.out, by rw [HKl.out]; omega, by rw [HKl.out, Hbl.out]; omega, by rw [HKl.out]; omega, HAp7.out, HK32.out, B32'.out, HTop'.out, HBn.out, SeesV.own HO7.out, by rw [Hbl.out]; exact HB7.out, Hb7.out⟩
          case measure => have := HKl.out; simp [rowLen]; omega
        · obtain ⟨p, rfl⟩ : ∃ p, n1 = p + 1 := ⟨n1 - 1, by omega⟩
          obtain ⟨b, off, rfl, hbb, hrg⟩ := SeesV.hash HR.out R32.out (k := 0) (by omega)
          have hrx := hrg (p) (by omega)
          have hxl := R32.out.get (k := p) (by omega)
          have hx : hereL (p + 1) row = [row[p]] := by
            rw [hereL, if_neg hal, if_neg h2]
            simp [show p < row.length by omega]
          rw [hx] at HBes'
          generalize row[p] = x at *
          have HRx := Lib.hid hrx
          have HXl := Lib.hid hxl
          have HApo : Hid (Apart (some ⟨b, off, none⟩) B1) := HAp
          have HSX : Hid ((Tryd.prog.info? 24).map (·.size) = some (By x).length) := by have h := Tryd.hsizeB x hxl; show _ = _; rw [h]; simp
          have HBn : Hid ((bes ++ [x]) ++ besR knotB ((p + 1) / 2) (knotsL knotB row) = besR knotB n lv) := by show _ = _; rw [List.append_assoc]; exact HBes'.out
          have B32' := Lib.hid (B32.out.snoc hxl)
          have Hbl : Hid ((bes ++ [x]).length = bes.length + 1) := by show _ = _; simp
          clear hrg hrx hxl hx hbb HBes' hal HAp
          have h3 : (((p : Int) + 1) % 2 == 0) = false := by rw [beq_eq_false_iff_ne]; omega
          clear h2
          go_wp2_with (first
            | (go_at_call 55; refine (isAlone_any _ (p + 1) row.length (by omega) (by omega) (by omega)).mono ?_; rw [HA.out]; rintro e wr ⟨rfl, rfl⟩)
            | ((with_reducible show wpList _ _ _ (⟨some 17, _, _, _, _, _⟩ :: _) _ _); refine wpList_load_mid rfl 24 (.tmp 16) rfl b (off + p * 32) rfl (By x) _ HRx.out Tryd.underlying24 rfl HSX.out ?_)
            | ((with_reducible show wpList _ _ _ (⟨some 18, _, _, _, _, _⟩ :: _) _ _); refine wpList_build_hash rfl (.tmp 17) rfl x rfl HXl.out ?_)
            | ((with_reducible show wpList _ _ _ (⟨some 19, _, _, _, _, _⟩ :: _) _ _); refine wpList_append_seesV rfl (.tmp 12) (.tmp 18) 22 rfl w.heap.size 24 i0 (.agg (By zero32).toArray) 32 32 Tryd.underlying22 hi hz0 hz1 hz2 rfl (by omega) (.slice B1 bes.length d1) bes.length (Hs bes) rfl (HO.out.alloc _) (wr.heap.size + 1) (some ⟨wr.heap.size, 0, none⟩) 1 1 (By x) rfl (by rw [By_length, HXl.out]) (SeesV.lit' wr (By x) 24) (By_one _) (by omega) (by omega) (by have h1 := Hb.out.size; simp; omega) ?_; intro v8 w8 ho8 hg8 hat8; obtain ⟨B8, d8, rfl⟩ := own_form ho8; rw [← Hs_snoc] at ho8; have HO8 := Lib.hid ho8; have Hb8 : Hid (Below w.heap.size w w8) := (nxAlloc Hb.out _).grown hg8 (nxAlloc Hb.out _).size (fun j hj => (own_lt HO.out j hj).1); have HR8 : Hid (SeesV w8 w8.heap.size (some ⟨b, off, none⟩) (Hs row)) := ((HR.out.alloc _).grown hg8 (fun ad had => HApo.out ad had _ _)).size; clear ho8 hg8 hat8)
            | (go_at_call 56; refine (knots_any _ (HT.out.later Hb8.out) (some ⟨b, off, none⟩) _ c1 row rfl hc1 R32.out HR8.out hrl).mono ?_; rintro e w9 ⟨A7, c7, rfl, ho7, hb7⟩; have HO7 := Lib.hid ho7; have Hb7 : Hid (Below w.heap.size w w9) := nxTo Hb8.out hb7; have HB7 := Lib.hid (own_below HO8.out hb7 (fun g hg => (own_lt HO8.out g hg).2)); have HAp7 : Hid (Apart A7 B8) := apart_own ho7 (fun bd hbd => by subst hbd; exact (own_lt HO8.out bd.block rfl).2); clear ho7 hb7))
          go_roundw
          case rel => exact ⟨(p + 1) / 2, knotsL knotB row, bes ++ [x], A7, B8, c7, d8, by go_num, rfl, by rw [Hbl.out], own_cap' HO7.out, by rw [HKl.out]; omega, by rw [HKl.out, Hbl.out]; omega, by rw [HKl.out]; omega, HAp7.out, HK32.out, B32'.out, HTop'.out, HBn.out, SeesV.own HO7.out, by rw [Hbl.out]; exact HB7.out, Hb7.out⟩
          case measure => have := HKl.out; simp [rowLen]; omega
end Go.Proofs.YtpfjkjogljilnaaDoor
namespace Go.Proofs.YtpfjkjogljilnaaDoor
open Go.RowKit

/-- A number's 8 bytes, the lowest first. -/
def le8 (n : Nat) : List UInt8 := (List.range 8).map fun i => UInt8.ofNat (n / 256 ^ i)
theorem le8_len (n : Nat) : (le8 n).length = 8 := rfl
theorem le8_next (n k : Nat) (h : k < 8) : (le8 n).take (k + 1) = (le8 n).take k ++ [UInt8.ofNat (n / 256 ^ k)] := by
  rw [List.take_succ_eq_append_getElem (by rw [le8_len]; exact h)]
  simp [le8]
theorem byte_of (n k : Nat) (hn : n < 4611686018427387904) : IntKind.u64.wrap (n : Int) / 2 ^ (8 * k) % 256 = ((UInt8.ofNat (n / 256 ^ k)).toNat : Int) := by
  have e1 : IntKind.u64.wrap (n : Int) = n := by rw [IntKind.wrap_u64]; omega
  have e2 : (2 : Int) ^ (8 * k) = ((256 ^ k : Nat) : Int) := by
    have : (256 : Nat) ^ k = 2 ^ (8 * k) := by rw [Nat.pow_mul]
    rw [this]; simp
  rw [e1, e2, ← Int.natCast_ediv, UInt8.toNat_ofNat']
  omega

set_option maxHeartbeats 2000000 in
set_option maxRecDepth 100000 in
theorem rootText_any (w : World) (n : Nat) (hn : n < 4611686018427387904) (A : Option Addr) (m c : Nat) (top : List (List UInt8)) (hm : m = top.length) (h32 : All32 top) (hS : SeesV w w.heap.size A (Hs top)) (hmax : m ≤ 1000) :
    Calls Tryd.prog 38 #[.int .i64 (n : Int), .slice A m c] w (TextPost w nmRoot (le8 n ++ top.flatten)) := by
  subst hm
  have HS := Lib.hid hS
  have H32 := Lib.hid h32
  have Hn := Lib.hid hn
  clear hS h32 hn
  obtain ⟨i0, hi, hz0, hz1, hz2⟩ := info_parts Tryd.u8info
  go_enter Tryd.func38, Tryd.ntmps38
  go_wp2
  have hT : Blk (w.alloc (.cells #[.string ⟨#[]⟩, .slice none 0 0] 86)) w.heap.size 86 #[.string ⟨#[]⟩, .slice none 0 0] := heap_alloc_new w _
  have hb1 : Below w.heap.size w (w.alloc (.cells #[.string ⟨#[]⟩, .slice none 0 0] 86)) := nxAlloc (nxRefl w) _
  have HT := Lib.hid hT
  have Hb1 := Lib.hid hb1
  clear hT hb1
  generalize w.alloc (.cells #[.string ⟨#[]⟩, .slice none 0 0] 86) = W1 at *
  go_loopw [5, 9] (fun bv iv wr => ∃ (k : Nat) (A1 : Option Addr) (c1 : Nat), k ≤ 8 ∧ iv = .int .i64 k ∧ bv = .slice A1 k c1 ∧ Hid (wr.ownsRow W1.heap.size 5 1 (.slice A1 k c1) k (By ((le8 n).take k))) ∧ Hid (Below W1.heap.size W1 wr)) (fun _ iv _ => 8 - (intOf iv).toNat)
  case atStart => exact ⟨0, none, 0, by omega, rfl, rfl, World.ownsRow_nil _ _ _ _, nxRefl W1⟩
  case round =>
    obtain ⟨k, A1, c1, hk, rfl, rfl, HO, Hb⟩ := hrel
    by_cases hlt : k < 8
    · have HB : Hid (By [UInt8.ofNat (n / 256 ^ k)] = [.int .u8 (IntKind.u64.wrap (n : Int) / 2 ^ (8 * k) % 256)]) := by show _ = _; rw [byte_of n k Hn.out]; rfl
      have HN := Lib.hid (le8_next n k hlt)
      go_wp2_with ((with_reducible show wpList _ _ _ (⟨some 20, _, _, _, _, _⟩ :: _) _ _); refine wpList_append_seesV rfl (.tmp 12) (.tmp 19) 28 rfl W1.heap.size 5 i0 (.int .u8 0) 1 1 Tryd.underlying28 hi hz0 hz1 hz2 rfl (by omega) (.slice A1 k c1) k (By ((le8 n).take k)) rfl (HO.out.alloc _) (wr.heap.size + 1) (some ⟨wr.heap.size, 0, none⟩) 1 1 [.int .u8 (IntKind.u64.wrap (n : Int) / 2 ^ (8 * k) % 256)] rfl rfl (SeesV.lit' wr [.int .u8 (IntKind.u64.wrap (n : Int) / 2 ^ (8 * k) % 256)] 5) (by intro u hu; simp at hu; subst hu; rfl) (by omega) (by omega) (by have h1 := Hb.out.size; simp; omega) ?_; intro v8 w8 ho8 hg8 hat8; obtain ⟨A8, c8, rfl⟩ := own_form ho8; rw [← HB.out, ← By_append, ← HN.out] at ho8; have HO8 := Lib.hid ho8; have Hb8 : Hid (Below W1.heap.size W1 w8) := (nxAlloc Hb.out _).grown hg8 (nxAlloc Hb.out _).size (fun j hj => (own_lt HO.out j hj).1); clear ho8 hg8 hat8)
      go_roundw
      case rel => exact ⟨k + 1, A8, c8, by omega, by go_num, rfl, HO8.out, Hb8.out⟩
      case measure => simp [intOf] <;> omega
    · obtain rfl : k = 8 := by omega
      have HO' : Hid (wr.ownsRow W1.heap.size 5 1 (.slice A1 8 c1) 8 (By (le8 n ++ (top.take 0).flatten))) := by
        show World.ownsRow _ _ _ _ _ _ _
        have h := HO.out
        rw [List.take_of_length_le (by rw [le8_len]; omega)] at h
        simpa using h
      clear HO
      rw [show ((8 : Nat) : Int) = (8 : Int) from rfl]
      go_wp2
      go_loopw [5, 24] (fun bv iv wr => ∃ (k : Nat) (A1 : Option Addr) (c1 : Nat), k ≤ top.length ∧ iv = .int .i64 k ∧ bv = .slice A1 (8 + k * 32) c1 ∧ Hid (wr.ownsRow W1.heap.size 5 1 (.slice A1 (8 + k * 32) c1) (8 + k * 32) (By (le8 n ++ (top.take k).flatten))) ∧ Hid (Below W1.heap.size W1 wr)) (fun _ iv _ => top.length - (intOf iv).toNat)
      case atStart => exact ⟨0, A1, c1, by omega, rfl, rfl, HO'.out, Hb.out⟩
      case round =>
        clear HO' Hb hlt hk
        obtain ⟨k, A1, c1, hk, rfl, rfl, HO, Hb⟩ := hrel
        by_cases hlt : k < top.length
        · obtain ⟨b, off, rfl, hbb, hrg⟩ := SeesV.hash (HS.out.below (nxTo Hb1.out Hb.out)) H32.out hlt
          have hrx := hrg k hlt
          have hxl := H32.out.get hlt
          have HF := Lib.hid (flat_next top k hlt)
          generalize top[k] = x at *
          have HRx := Lib.hid hrx
          have HXl := Lib.hid hxl
          have HZx := Lib.hid (Tryd.hsizeB x hxl)
          have HSX : Hid ((Tryd.prog.info? 24).map (·.size) = some (By x).length) := by have h := Tryd.hsizeB x hxl; show _ = _; rw [h]; simp
          clear hrg hrx hxl
          go_wp2_with (first
            | ((with_reducible show wpList _ _ _ (⟨some 27, _, _, _, _, _⟩ :: _) _ _); refine wpList_load_mid rfl 24 (.tmp 26) rfl b (off + k * 32) rfl (By x) _ HRx.out Tryd.underlying24 rfl HSX.out ?_)
            | ((with_reducible show wpList _ _ _ (⟨none, .store 24 _ _, _, _, _, _⟩ :: _) _ _); refine wpList_store_all rfl 24 (.tmp 8) (.tmp 27) rfl wr.heap.size 24 (By zero32).toArray (By x).toArray rfl rfl (Blk.newAt rfl rfl) (by rw [List.size_toArray, List.size_toArray, By_length, By_length, HXl.out]; rfl) HZx.out (By_one _) ?_; intro w5 h5 h6 h7; have H5 := Lib.hid h5; have Hr5 : Hid (Below wr.heap.size wr w5) := (nxAlloc (nxRefl wr) _).trans (h6.below (nxAlloc (nxRefl wr) _).size (fun k hk => by omega)); have HO5 := Lib.hid (own_below HO.out Hr5.out (fun g hg => (own_lt HO.out g hg).2)); clear h5 h6 h7)
            | ((with_reducible show wpList _ _ _ (⟨some 30, _, _, _, _, _⟩ :: _) _ _); refine wpList_append_seesV rfl (.tmp 28) (.tmp 29) 28 rfl W1.heap.size 5 i0 (.int .u8 0) 1 1 Tryd.underlying28 hi hz0 hz1 hz2 rfl (by omega) (.slice A1 (8 + k * 32) c1) (8 + k * 32) (By (le8 n ++ (top.take k).flatten)) rfl HO5.out w5.heap.size (some ⟨wr.heap.size, 0, none⟩) 32 32 (By x) rfl (by rw [By_length, HXl.out]) (by have h := SeesV.blk H5.out; simpa using h) (By_one _) (by omega) (by omega) (nxTo Hb.out Hr5.out).size ?_; intro v8 w8 ho8 hg8 hat8; obtain ⟨A8, c8, rfl⟩ := own_form ho8; rw [← By_append, List.append_assoc, ← HF.out] at ho8; have HO8 := Lib.hid ho8; have Hb8 : Hid (Below W1.heap.size W1 w8) := (nxTo Hb.out Hr5.out).grown hg8 (nxTo Hb.out Hr5.out).size (fun j hj => (own_lt HO5.out j hj).1); clear ho8 hg8 hat8))
          go_roundw
          case rel => exact ⟨k + 1, A8, c8, by omega, by go_num, by rw [Nat.add_mul, Nat.one_mul, ← Nat.add_assoc], by rw [Nat.add_mul, Nat.one_mul, ← Nat.add_assoc]; exact HO8.out, Hb8.out⟩
          case measure => simp [intOf] <;> omega
        · obtain rfl : k = top.length := by omega
          rw [List.take_length] at HO
          have h4 := HT.out.below Hb.out HT.out.lt
          have c0 : wr.cell? ⟨w.heap.size, 0, none⟩ = some (.string ⟨#[]⟩) := h4.cell 0
          have c1' : wr.cell? ⟨w.heap.size, 1, none⟩ = some (.slice none 0 0) := h4.cell 1
          have f0 := h4.frozen 0
          have f1 := h4.frozen 1
          have HT5 := Lib.hid ((h4.set 0 (.string nmRoot)).set 1 (.slice A1 (8 + top.length * 32) c1))
          have HS5 : Hid (Sees ((wr.setCell ⟨w.heap.size, 0, none⟩ (.string nmRoot)).setCell ⟨w.heap.size, 1, none⟩ (.slice A1 (8 + top.length * 32) c1)) wr.heap.size A1 (le8 n ++ top.flatten)) :=
            Sees.setFar (Sees.setFar (Sees.own HO.out) h4 two_no 0 _) (h4.set 0 _) two_no 1 _
          have Hb5 : Hid (Below w.heap.size w ((wr.setCell ⟨w.heap.size, 0, none⟩ (.string nmRoot)).setCell ⟨w.heap.size, 1, none⟩ (.slice A1 (8 + top.length * 32) c1))) :=
            ((nxTo Hb1.out Hb.out).setCell (p := ⟨w.heap.size, 0, none⟩) (Nat.le_refl _) _).setCell (p := ⟨w.heap.size, 1, none⟩) (Nat.le_refl _) _
          have HL : Hid ((le8 n ++ top.flatten).length = 8 + top.length * 32) := by show _ = _; rw [List.length_append, le8_len, H32.out.flat]
          have HC := Lib.hid (own_cap' HO.out)
          clear h4
          go_wp2
          refine bodyPost_ret (results_cell_row Tryd.results38 _ _ w.heap.size 86 _ (0, 0) _ rfl HT5.out Tryd.underlying86 rfl Tryd.txtsize) rfl ⟨A1, c1, by rw [HL.out]; rfl, by rw [HL.out]; exact HC.out, ?_, Hb5.out⟩
          exact HS5.out.more (by simp [World.setCell])

theorem topR_len1 (l : List (List UInt8)) : (topR knotB l).length ≤ 1 := by
  by_cases h : l = []
  · subst h; rw [topR_short (by simp)]; simp
  · rw [topR_eq knotB l h]; simp
theorem topH_len (l : List (List UInt8)) (hne : l ≠ []) (h : All32 l) : (topH knotB l).length = 32 := by
  by_cases h1 : l.length ≤ 1
  · rw [topH_one knotB h1]
    match l, hne, h1, h with
    | [x], _, _, h => exact h x (by simp)
  · rw [topH_two knotB h1]; exact knotB_len _ _
/-- The root of so many, above what is left; the root of hashes. -/
def rootB (n : Nat) (top : List (List UInt8)) : List UInt8 := shaB (tagB nmRoot (le8 n ++ top.flatten))
def rootL (ids : List (List UInt8)) : List UInt8 := rootB ids.length (topR knotB (ids.map leafB))
theorem rootL_len (ids : List (List UInt8)) : (rootL ids).length = 32 := shaB_length _

set_option maxHeartbeats 400000 in
set_option maxRecDepth 100000 in
theorem root_any (w : World) (hT : Tabs w) (A : Option Addr) (m c : Nat) (ids : List (List UInt8)) (hm : m = ids.length) (h32 : All32 ids) (hS : SeesV w w.heap.size A (Hs ids)) (hmax : m ≤ 1048576) :
    Calls Tryd.prog 23 #[.slice A m c] w fun e w' => e = .returned (.agg (By (rootL ids)).toArray) ∧ Below w.heap.size w w' := by
  subst hm
  have hb0 : Below w.heap.size w (w.alloc (.cells (By zero32).toArray 24)) := nxAlloc (nxRefl w) _
  have B0 : Hid (Blk (w.alloc (.cells (By zero32).toArray 24)) w.heap.size 24 (By zero32).toArray) := Lib.hid (heap_alloc_new w _)
  have HT := Lib.hid (hT.later hb0)
  have HS := Lib.hid ((hS.alloc (.cells (By zero32).toArray 24)).size)
  have H32 := Lib.hid h32
  have Hb0 := Lib.hid hb0
  have Hl1 := Lib.hid (topR_len1 (ids.map leafB))
  obtain ⟨top, htop⟩ : ∃ top, topR knotB (ids.map leafB) = top := ⟨_, rfl⟩
  obtain ⟨bes, hbes⟩ : ∃ bes, besR knotB 0 (ids.map leafB) = bes := ⟨_, rfl⟩
  obtain ⟨x, hx⟩ : ∃ x, rootL ids = x := ⟨_, rfl⟩
  obtain ⟨body, hbody⟩ : ∃ body, le8 ids.length ++ top.flatten = body := ⟨_, rfl⟩
  have HX : Hid (shaB (tagB nmRoot body) = x) := by show _ = _; rw [← hx, ← hbody, ← htop, rootL, rootB]
  have HBd := Lib.hid hbody
  have HXl : Hid (x.length = 32) := by show _ = _; rw [← hx, rootL_len]
  have HTp := Lib.hid htop
  have HBs := Lib.hid hbes
  rw [htop] at Hl1
  have HLen : Hid (body.length ≤ 100000) := by
    show _ ≤ _
    rw [← hbody, List.length_append, le8_len]
    match top, Hl1.out, htop with
    | [], _, _ => simp
    | [y], _, ht =>
      have h1 : (topR knotB (ids.map leafB)) ≠ [] := by rw [ht]; simp
      have h2 : y.length = 32 := by
        have hne : ids.map leafB ≠ [] := by intro e; rw [e, topR_short (by simp)] at h1; exact h1 rfl
        rw [topR_eq knotB _ hne] at ht
        injection ht with ht _
        rw [← ht]
        exact topH_len _ hne (by intro z hz; obtain ⟨q, _, rfl⟩ := List.mem_map.1 hz; exact leafB_len q)
      simp [h2]
  have HZ0 := Lib.hid (Tryd.hsizeB x HXl.out)
  rw [hx]
  clear hT hS h32 hb0 htop hbes hx hbody
  go_enter Tryd.func23, Tryd.ntmps23
  go_wp2_with (first
    | (go_at_call 37; refine (climb_any _ HT.out 0 A _ c ids rfl H32.out HS.out hmax (by omega)).mono ?_; rw [HTp.out, HBs.out]; rintro e w2 ⟨A2, c2, B2, d2, rfl, hc2, _, ht2, _, hs2, _, hb2⟩; have HC2 := Lib.hid hc2; have HT2 := Lib.hid ht2; have HS2 := Lib.hid hs2; have Hb2 := Lib.hid hb2; have B2' := Lib.hid (B0.out.below hb2 B0.out.lt); clear hc2 ht2 hs2 hb2)
    | (go_at_call 38; refine (rootText_any _ ids.length (by omega) A2 _ c2 top rfl HT2.out HS2.out (by have := Hl1.out; omega)).mono ?_; rw [HBd.out]; rintro e w3 ⟨A3, c3, rfl, hc3, hs3, hb3⟩; have HC3 := Lib.hid hc3; have HS3 := Lib.hid hs3; have Hb3 := Lib.hid (nxTo Hb2.out hb3); have B3 := Lib.hid (B2'.out.below hb3 B2'.out.lt); clear hc3 hs3 hb3)
    | (go_at_call 39; refine (hash_any w3 (HT.out.later Hb3.out) nmRoot nm_le.2.2 A3 body.length c3 body rfl HC3.out HS3.out HLen.out).mono ?_; rw [HX.out]; rintro e w4 ⟨rfl, hb4⟩; have Hb4 := Lib.hid (nxTo Hb3.out hb4); have B4 := Lib.hid (B3.out.below hb4 B3.out.lt); clear hb4)
    | ((with_reducible show wpList _ _ _ (⟨none, .store 24 _ _, _, _, _, _⟩ :: _) _ _); refine wpList_store_all rfl 24 (.tmp 2) (.tmp 14) rfl w.heap.size 24 (By zero32).toArray (By x).toArray rfl rfl B4.out (by rw [List.size_toArray, List.size_toArray, By_length, By_length, HXl.out]; rfl) HZ0.out (By_one _) ?_; intro w5 h5 h6 h7; have H5 := Lib.hid h5; have Hb5 : Hid (Below w.heap.size w w5) := (nxTo Hb0.out Hb4.out).trans (h6.below (nxTo Hb0.out Hb4.out).size (fun k hk => by omega)); clear h5 h6 h7))
  refine bodyPost_ret (results_cell_row Tryd.results23 _ _ w.heap.size 24 _ (0, 0) _ rfl H5.out Tryd.underlying24 rfl HZ0.out) rfl ⟨rfl, Hb5.out⟩
end Go.Proofs.YtpfjkjogljilnaaDoor
