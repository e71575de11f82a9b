/-
  dag: where: places that are asked for, gone over.
  dag: what is asked for of places: the anticone, the future, tips.
  dag: the anticone, the future, tips.
  dag: the chapter's row (pure).
  dag: known: the chapter's row.
  dag: the document's Compare, In, Equal.
-/
import Derived.Test.YtbfpckomgpkjgaaGreatDgD
namespace Go.Proofs.YtbfpckomgpkjgaaGreat
open Go.RowKit Go.Shelf

theorem flt_len (bb : Nat → Bool) (k : Nat) : ((List.range (k + 1)).filter bb).length = ((List.range k).filter bb).length + (if bb k then 1 else 0) := by
  rw [List.range_succ, List.filter_append, List.length_append]
  congr 1
  by_cases h : bb k = true <;> simp [h]
theorem flt_get (bb : Nat → Bool) {N k : Nat} (hk : k < N) (hb : bb k = true) : ∃ h : ((List.range k).filter bb).length < ((List.range N).filter bb).length, ((List.range N).filter bb)[((List.range k).filter bb).length] = k := by
  have e : List.range N = List.range k ++ (k :: (List.range' (k + 1) (N - k - 1))) := by
    rw [List.range_eq_range', List.range_eq_range']
    have h1 : N = k + (1 + (N - k - 1)) := by omega
    conv => lhs; rw [h1]
    rw [← List.range'_append_1]
    congr 1
    rw [Nat.add_comm 1, List.range'_succ]
    simp
  have e2 : (List.range N).filter bb = (List.range k).filter bb ++ k :: (List.range' (k + 1) (N - k - 1)).filter bb := by rw [e, List.filter_append, List.filter_cons, if_pos hb]
  refine ⟨by rw [e2]; simp, ?_⟩
  simp only [e2]
  rw [List.getElem_append_right (Nat.le_refl _)]
  simp
section
attribute [local go_sem] Oper.semAt_some
end
end Go.Proofs.YtbfpckomgpkjgaaGreat

namespace Go.Proofs.YtbfpckomgpkjgaaGreat
open Go.RowKit Go.Shelf

noncomputable def ancB (G : Gr) (a b : Nat) : Bool := @decide (Anc G a b) (Classical.propDecidable _)
theorem ancB_iff {G : Gr} {a b : Nat} : ancB G a b = true ↔ Anc G a b := @decide_eq_true_iff _ (Classical.propDecidable _)
noncomputable def antB (G : Gr) (z : Bool) (n k : Nat) : Bool := z && !(k == n) && !ancB G n k && !ancB G k n
noncomputable def futB (G : Gr) (z : Bool) (n k : Nat) : Bool := z && ancB G n k
noncomputable def tipB (G : Gr) (k : Nat) : Bool := @decide (∀ n, k ∉ parG G n) (Classical.propDecidable _)
end Go.Proofs.YtbfpckomgpkjgaaGreat

namespace Go.Proofs.YtbfpckomgpkjgaaGreat
open Go.RowKit Go.Shelf

theorem nxDrew (w : World) : Below w.heap.size w w.drew := ⟨rfl, rfl, rfl, Nat.le_refl _, fun _ _ => rfl⟩
theorem fltB (G : Gr) (bb : Nat → Bool) : (srtH (((List.range G.length).filter bb).map (idG G))).length = ((List.range G.length).filter bb).length := by rw [(srtH_perm _).length_eq, List.length_map]
/-- What a function answers that hands out hashes. -/
def ListPost (w : World) (L : List Hh) (e : Ending) (w' : World) : Prop := ∃ A c, e = .returned (.slice A L.length c) ∧ w'.ownsRow w.heap.size 23 32 (.slice A L.length c) L.length (hsC L) ∧ Below w.heap.size w w'
theorem flt_ans {G : Gr} (o : OkG G) (bb : Nat → Bool) (f : Nat → Prop) (h : ∀ k, k < G.length → (bb k = true ↔ f k)) : srtH (((List.range G.length).filter bb).map (idG G)) = ansG G f := by
  rw [srt_places o (List.nodup_range.filter _) (fun n hn => List.mem_range.1 (List.mem_filter.1 hn).1)]
  refine ansG_congr fun n hn => ?_
  rw [List.mem_filter, List.mem_range]
  exact ⟨fun k => (h n hn).1 k.2, fun k => ⟨hn, (h n hn).2 k⟩⟩
end Go.Proofs.YtbfpckomgpkjgaaGreat

namespace Go.Proofs.YtbfpckomgpkjgaaGreat
open Go.RowKit

/-- Reckoned. -/
def ancC (G : Gr) : Nat → Nat → Nat → Bool
  | 0, _, _ => false
  | f + 1, a, b => (parG G b).any fun p => p == a || ancC G f a p
theorem ancC_iff {G : Gr} (o : OkG G) : ∀ (f a b : Nat), b < f → (ancC G f a b = true ↔ Anc G a b)
  | 0, _, _, h => absurd h (Nat.not_lt_zero _)
  | f + 1, a, b, h => by
    rw [ancC, List.any_eq_true, anc_step]
    constructor
    · rintro ⟨p, hp, h1⟩
      rw [Bool.or_eq_true, beq_iff_eq] at h1
      refine ⟨p, hp, h1.imp (fun e => e.symm) fun h2 => (ancC_iff o f a p (by have := o.par _ _ hp; omega)).1 h2⟩
    · rintro ⟨p, hp, h1⟩
      refine ⟨p, hp, ?_⟩
      rw [Bool.or_eq_true, beq_iff_eq]
      exact h1.imp (fun e => e.symm) fun h2 => (ancC_iff o f a p (by have := o.par _ _ hp; omega)).2 h2
theorem ancB_eq {G : Gr} (o : OkG G) {f a b : Nat} (h : b < f) : ancB G a b = ancC G f a b := by rw [Bool.eq_iff_iff, ancB_iff, ancC_iff o f a b h]
def kh (n : UInt8) : Hh := ⟨n :: List.replicate 31 0, by simp⟩
def G1 : Gr := addG (newG (kh 1)) (kh 2) [kh 1]
def G2 : Gr := addG G1 (kh 3) [kh 1]
def G3 : Gr := addG G2 (kh 4) [kh 2, kh 3]
theorem kn_e1 : addE (newG (kh 1)) (kh 2) [kh 1] = 0 := by decide +kernel
theorem kn_e2 : addE G1 (kh 3) [kh 1] = 0 := by decide +kernel
theorem kn_e3 : addE G2 (kh 4) [kh 2, kh 3] = 0 := by decide +kernel
theorem kn_ok : OkG G3 := addG_ok (addG_ok (addG_ok (newG_ok _) _ _) _ _) _ _
theorem kn_g3 : G3 = [⟨kh 1, []⟩, ⟨kh 2, [0]⟩, ⟨kh 3, [0]⟩, ⟨kh 4, [1, 2]⟩] := by decide +kernel
theorem kn_pl (n : Nat) (h : n < 4) : placeG G3 (kh (UInt8.ofNat (n + 1))) = some n := by
  rw [kn_g3]
  match n, h with
  | 0, _ => decide +kernel
  | 1, _ => decide +kernel
  | 2, _ => decide +kernel
  | 3, _ => decide +kernel
def antC (G : Gr) (f : Nat) (z : Bool) (n k : Nat) : Bool := z && !(k == n) && !ancC G f n k && !ancC G f k n
theorem kn_anti : srtH (((List.range G3.length).filter (antB G3 (placeG G3 (kh 2)).isSome (plE G3 (kh 2)))).map (idG G3)) = [kh 3] := by
  have h1 : placeG G3 (kh 2) = some 1 := kn_pl 1 (by omega)
  have hl : G3.length = 4 := by rw [kn_g3]; rfl
  have h2 : (List.range G3.length).filter (antB G3 (placeG G3 (kh 2)).isSome (plE G3 (kh 2))) = (List.range G3.length).filter (antC G3 4 true 1) := by
    refine List.filter_congr fun k hk => ?_
    rw [hl, List.mem_range] at hk
    unfold antB antC plE
    rw [h1]
    simp only [Option.isSome_some, Option.getD_some]
    rw [ancB_eq kn_ok (f := 4) (by omega), ancB_eq kn_ok (f := 4) (by omega)]
  have h3 : ((List.range G3.length).filter (antC G3 4 true 1)).map (idG G3) = [kh 3] := by rw [kn_g3]; decide +kernel
  rw [h2, h3]
  simp [srtH]
theorem kn_bef1 : befB G3 (kh 1) (kh 4) = true := by
  have h1 : placeG G3 (kh 1) = some 0 := kn_pl 0 (by omega)
  have h4 : placeG G3 (kh 4) = some 3 := kn_pl 3 (by omega)
  unfold befB
  rw [h1, h4]
  show ancB G3 0 3 = true
  rw [ancB_eq kn_ok (f := 4) (by omega), kn_g3]
  decide +kernel
theorem kn_bef2 : befB G3 (kh 2) (kh 3) = false := by
  have h1 : placeG G3 (kh 2) = some 1 := kn_pl 1 (by omega)
  have h4 : placeG G3 (kh 3) = some 2 := kn_pl 2 (by omega)
  unfold befB
  rw [h1, h4]
  show ancB G3 1 2 = false
  rw [ancB_eq kn_ok (f := 4) (by omega), kn_g3]
  decide +kernel
end Go.Proofs.YtbfpckomgpkjgaaGreat

namespace Go.Proofs.YtbfpckomgpkjgaaGreat
open Go.RowKit Go.Shelf

/-- Four hashes in blocks of their own. -/
def KB (W : World) (p : Nat) (r a b c : Hh) : Prop := Blk W p 23 (hC r).toArray ∧ Blk W (p + 1) 23 (hC a).toArray ∧ Blk W (p + 2) 23 (hC b).toArray ∧ Blk W (p + 3) 23 (hC c).toArray
theorem KB.later {W W' : World} {p : Nat} {r a b c : Hh} (h : KB W p r a b c) (v : Below W.heap.size W W') : KB W' p r a b c := ⟨h.1.below v h.1.lt, h.2.1.below v h.2.1.lt, h.2.2.1.below v h.2.2.1.lt, h.2.2.2.below v h.2.2.2.lt⟩
theorem KB.keeps {S : Nat → Prop} {W W' : World} {p : Nat} {r a b c : Hh} (h : KB W p r a b c) (v : Keeps S W W') (hS : ∀ j, S j → p + 3 < j) : KB W' p r a b c := ⟨h.1.keeps v (fun e => by have := hS _ e; omega), h.2.1.keeps v (fun e => by have := hS _ e; omega), h.2.2.1.keeps v (fun e => by have := hS _ e; omega), h.2.2.2.keeps v (fun e => by have := hS _ e; omega)⟩
theorem kb_range {W : World} {g : Nat} {x : Hh} (h : Blk W g 23 (hC x).toArray) : W.rangeAt g 0 (hC x) := fun j v hv => by rw [Nat.zero_add, h.cell j]; simpa using hv
theorem kbR {W : World} {p : Nat} {r a b c x : Hh} (h : KB W p r a b c) (i : Nat) (hx : [r, a, b, c][i]? = some x) : W.rangeAt (p + i) 0 (hC x) := by
  match i, hx with
  | 0, hx => cases hx; exact kb_range h.1
  | 1, hx => cases hx; exact kb_range h.2.1
  | 2, hx => cases hx; exact kb_range h.2.2.1
  | 3, hx => cases hx; exact kb_range h.2.2.2
  | n + 4, hx => simp at hx
theorem nxDr {w W : World} (h : Below w.heap.size w W) : Below w.heap.size w W.drew := ⟨h.os, h.tape, h.output, h.size, h.block⟩
theorem yieldsIf_sameD {ops : Array Oper} {S : World → Prop} {op : Oper} {a : Act} (hw : Region.wanted op (yielded ops a.tmps) = true) (t : TypeId) (x y : Operand) (ho : op.op = .binOp .eql 23 x y 23)
    (l : Hh) (hx : a.eval x = .agg (hC l).toArray) (hy : a.eval y = .agg (hC l).toArray) : YieldsIf Tryz.prog ops S op (.bool true) a :=
  .inl ⟨hw, fun w _ => by
    unfold execOp
    have hq : (eqGuard .eql 23 x y (.agg (hC l).toArray) (.agg (hC l).toArray)).run Tryz.prog w = .ok () w := by simp [eqGuard, Tryz.deqgH]
    unfold hC at hx hy hq
    simp only [ho, hx, hy, Sem.run_bind, Sem.run_pure, Result.andThen_ok, hq, run_eql_bytes 32 23 5 Tryz.underlying23 Tryz.underlying5 Tryz.u8size l.1 l.1 l.2 l.2, beq_self_eq_true]⟩
theorem fill_two (a b : Hh) (z : Array Value) (hz : z.size = 64) : Instr.fill (fun i => some (i * 32, 32)) z [(0, .agg (hC a).toArray), (1, .agg (hC b).toArray)] = some (hC a ++ hC b).toArray := by
  have h1 := foldl_set 0 (hC a) 0 z.toList (by simp [hC_len, hz])
  have e1 : (z.toList.take (0 + 0) ++ hC a ++ z.toList.drop (0 + 0 + (hC a).length)) = hC a ++ z.toList.drop 32 := by simp [hC_len]
  rw [e1] at h1
  have h2 := foldl_set 32 (hC b) 0 (hC a ++ z.toList.drop 32) (by simp [hC_len, hz])
  have e2 : ((hC a ++ z.toList.drop 32).take (32 + 0) ++ hC b ++ (hC a ++ z.toList.drop 32).drop (32 + 0 + (hC b).length)) = hC a ++ hC b := by
    rw [hC_len, Nat.add_zero, List.take_left' (hC_len a), List.drop_eq_nil_of_le (by simp [hC_len, hz]), List.append_nil]
  rw [e2] at h2
  have ha : (Value.agg (hC a).toArray).cells = (hC a).toArray := rfl
  have hb : (Value.agg (hC b).toArray).cells = (hC b).toArray := rfl
  unfold Instr.fill
  simp only [ha, Nat.zero_mul, Nat.zero_add, List.size_toArray]
  rw [if_neg (by rw [hC_len, hz]; decide)]
  have e4 : (Array.foldl (fun (cs : Array Value) (x : Value × Nat) => cs.setIfInBounds x.2 x.1) z (hC a).toArray.zipIdx) = (hC a ++ z.toList.drop 32).toArray := by
    rw [← h1]
    simp
  rw [e4]
  unfold Instr.fill
  simp only [hb, Nat.one_mul, List.size_toArray]
  rw [if_neg (by simp [hC_len, hz])]
  unfold Instr.fill
  congr 1
  refine Eq.trans ?_ h2
  simp
theorem wpList_build_two {ops : Array Oper} {rest : List Oper} {o : Oper} {a : Act} {w : World} {Q : Exit → Act → World → Prop} (hg : o.guard = none) (x y : Operand) (ho : o.op = .buildSlice 33 2 #[(0, x), (1, y)]) (l m : Hh) (hx : a.eval x = .agg (hC l).toArray) (hy : a.eval y = .agg (hC m).toArray)
    (h : wpList Tryz.prog ops Q rest (a.put o.dst (.slice (some ⟨w.heap.size, 0, none⟩) 2 2)) (w.alloc (.cells (hC l ++ hC m).toArray 23))) : wpList Tryz.prog ops Q (o :: rest) a w := by
  obtain ⟨i0, hi0, hz, hs, _⟩ := info_parts Tryz.dinfoH
  refine wpList_plain hg fun _ hK => wp_buildSlice 33 23 2 #[(0, x), (1, y)] ho (hC l ++ hC m).toArray i0 _ Tryz.underlying33 hi0 hz (by rw [hs]; omega) (by rw [hs]; omega) ?_ (hK _ _ h)
  rw [hs]
  have e : (#[(0, x), (1, y)].map fun (p : Nat × Operand) => (p.1, a.eval p.2)).toList = [(0, .agg (hC l).toArray), (1, .agg (hC m).toArray)] := by simp [hx, hy]
  rw [e]
  exact fill_two l m _ (by simp)
theorem wpList_unguard {P : Program} {ops : Array Oper} {rest : List Oper} {o : Oper} {a : Act} {w : World} {Q : Exit → Act → World → Prop} (hw : Region.wanted o (yielded ops a.tmps) = true)
    (h : wpList P ops Q ({ o with guard := none } :: rest) a w) : wpList P ops Q (o :: rest) a w := by
  unfold wpList at h ⊢
  rw [if_pos hw]
  rw [if_pos (by simp [Region.wanted])] at h
  exact h
theorem hsC_1 (x : Hh) : hsC [x] = hC x := by simp [hsC]
theorem hsC_2 (x y : Hh) : hsC [x, y] = hC x ++ hC y := by simp [hsC]
theorem addTo_kb {w w' : World} {base : Nat} {m m' : GrM} {p : Nat} {r a b c : Hh} (hk : KB w p r a b c) (hg : GrOk w base m) (ha : AddTo w base m m' w') (hb : p + 3 < base) : KB w' p r a b c := hk.keeps ha.k fun j hj => by have := (hg.lt hj).1; omega
theorem addTo_v {w0 w w' : World} {base : Nat} {m m' : GrM} (hv : Below w0.heap.size w0 w) (hg : GrOk w base m) (ha : AddTo w base m m' w') (hb : w0.heap.size ≤ base) : Below w0.heap.size w0 w' := hv.trans (ha.k.below hv.size fun j hj hf => by have := (hg.lt hf).1; omega)
end Go.Proofs.YtbfpckomgpkjgaaGreat

namespace Go.Proofs.YtbfpckomgpkjgaaGreat
open Go.RowKit

theorem cmp_split : ∀ (k : Nat) (a b : List UInt8), a.take k = b.take k → Lib.compareBytes a b = Lib.compareBytes (a.drop k) (b.drop k)
  | 0, _, _, _ => rfl
  | k + 1, [], [], _ => rfl
  | k + 1, [], y :: b, h => by simp at h
  | k + 1, x :: a, [], h => by simp at h
  | k + 1, x :: a, y :: b, h => by
    simp only [List.take_succ_cons, List.cons.injEq] at h
    obtain ⟨rfl, h⟩ := h
    rw [Lib.compareBytes, if_neg (UInt8.lt_irrefl _), if_neg (UInt8.lt_irrefl _), cmp_split k a b h]
    rfl
theorem cmp_lt {k : Nat} {a b : List UInt8} (h : a.take k = b.take k) (ha : k < a.length) (hb : k < b.length) (hl : a[k] < b[k]) : Lib.compareBytes a b = -1 := by
  rw [cmp_split k a b h, List.drop_eq_getElem_cons ha, List.drop_eq_getElem_cons hb, Lib.compareBytes, if_pos hl]
theorem cmp_gt {k : Nat} {a b : List UInt8} (h : a.take k = b.take k) (ha : k < a.length) (hb : k < b.length) (hl : b[k] < a[k]) : Lib.compareBytes a b = 1 := by
  rw [cmp_split k a b h, List.drop_eq_getElem_cons ha, List.drop_eq_getElem_cons hb, Lib.compareBytes, if_neg (fun h1 => UInt8.lt_asymm h1 hl), if_pos hl]
set_option maxRecDepth 100000 in
set_option maxHeartbeats 2000000 in
theorem rcompare_any (w : World) (a b : Hh) : Calls Tryz.prog 71 #[.agg (hC a).toArray, .agg (hC b).toArray] w fun e w' => e = .returned (.int .i64 (cmpH a b)) ∧ Below w.heap.size w w' := by
  have ba : Blk ((w.alloc (.cells (hC a).toArray 23)).alloc (.cells (hC b).toArray 23)) w.heap.size 23 (hC a).toArray := Blk.alloc (heap_alloc_new w _) _
  have bb : Blk ((w.alloc (.cells (hC a).toArray 23)).alloc (.cells (hC b).toArray 23)) (w.heap.size + 1) 23 (hC b).toArray := blkNew (by simp) rfl
  have V : Hid (Below w.heap.size w ((w.alloc (.cells (hC a).toArray 23)).alloc (.cells (hC b).toArray 23))) := nxAlloc (nxAlloc (nxRefl w) _) _
  have BA := Lib.hid ba
  have BB := Lib.hid bb
  clear ba bb
  go_enter Tryz.func71, Tryz.ntmps71
  go_wp2
  go_loopw [5] (fun iv wr => ∃ k : Nat, k ≤ 32 ∧ iv = .int .i64 k ∧ Hid (a.1.take k = b.1.take k) ∧ Hid (Blk wr w.heap.size 23 (hC a).toArray) ∧ Hid (Blk wr (w.heap.size + 1) 23 (hC b).toArray) ∧ Hid (Below w.heap.size w wr)) (fun iv _ => 32 - (intOf iv).toNat)
  case atStart => exact ⟨0, by omega, rfl, rfl, BA, BB, V⟩
  case round =>
    obtain ⟨k, hk, rfl, HE, HA, HB, HV⟩ := hrel
    by_cases hlt : k < 32
    · have hla : k < a.1.length := by rw [a.2]; exact hlt
      have hlb : k < b.1.length := by rw [b.2]; exact hlt
      obtain ⟨x, hx⟩ : ∃ x, a.1[k] = x := ⟨_, rfl⟩
      obtain ⟨y, hy⟩ : ∃ y, b.1[k] = y := ⟨_, rfl⟩
      have ca : wr.cell? ⟨w.heap.size, k, none⟩ = some (.int .u8 (x.toNat : Int)) := by rw [HA.out.cell k, ← hx]; simp [hC, By, hla]
      have cb : wr.cell? ⟨w.heap.size + 1, k, none⟩ = some (.int .u8 (y.toNat : Int)) := by rw [HB.out.cell k, ← hy]; simp [hC, By, hlb]
      have hin : (k : Int) < 32 := by omega
      have hw1 : (x.toNat : Int) < (y.toNat : Int) → cmpH a b = -1 := fun h => cmp_lt HE.out hla hlb (by rw [hx, hy]; exact UInt8.lt_iff_toNat_lt.2 (by omega))
      have hw2 : (y.toNat : Int) < (x.toNat : Int) → cmpH a b = 1 := fun h => cmp_gt HE.out hla hlb (by rw [hx, hy]; exact UInt8.lt_iff_toNat_lt.2 (by omega))
      have hw3 : ¬ (x.toNat : Int) < (y.toNat : Int) → ¬ (y.toNat : Int) < (x.toNat : Int) → a.1.take (k + 1) = b.1.take (k + 1) := fun h1 h2 => by
        have e : x = y := UInt8.toNat_inj.1 (by omega)
        rw [List.take_succ_eq_append_getElem hla, List.take_succ_eq_append_getElem hlb, HE.out, hx, hy, e]
      have HW1 := Lib.hid hw1
      have HW2 := Lib.hid hw2
      have HW3 := Lib.hid hw3
      have hq : ∀ q, Below wr.heap.size wr (wr.drewN q) := fun q => ⟨rfl, rfl, rfl, Nat.le_refl _, fun _ _ => rfl⟩
      have HQ := Lib.hid hq
      clear hx hy hla hlb hw1 hw2 hw3 hq
      go_wp2
      by_cases h1 : x.toNat < y.toNat
      · have H1 : Hid (cmpH a b = -1) := HW1.out (by omega)
        clear HW1 HW2 HW3
        go_quiet (fail)
        go_wp2
        go_ret
        exact ⟨by rw [H1.out]; rfl, HV.out.trans ((HQ.out nq).mono HV.out.size)⟩
      · go_quiet (fail)
        have HA2 : Hid (Blk (wr.drewN nq) w.heap.size 23 (hC a).toArray) := HA.out
        have HB2 : Hid (Blk (wr.drewN nq) (w.heap.size + 1) 23 (hC b).toArray) := HB.out
        have ca2 : (wr.drewN nq).cell? ⟨w.heap.size, k, none⟩ = some (.int .u8 (x.toNat : Int)) := ca
        have cb2 : (wr.drewN nq).cell? ⟨w.heap.size + 1, k, none⟩ = some (.int .u8 (y.toNat : Int)) := cb
        have HV2 : Hid (Below w.heap.size w (wr.drewN nq)) := HV.out.trans ((HQ.out nq).mono HV.out.size)
        clear HA HB ca cb HV HQ
        generalize wr.drewN nq = W2 at *
        have hq2 : ∀ q, Below W2.heap.size W2 (W2.drewN q) := fun q => ⟨rfl, rfl, rfl, Nat.le_refl _, fun _ _ => rfl⟩
        have HQ2 := Lib.hid hq2
        clear hq2
        go_wp2
        by_cases h2 : y.toNat < x.toNat
        · have H2 : Hid (cmpH a b = 1) := HW2.out (by omega)
          clear HW1 HW2 HW3
          go_quiet (fail)
          go_wp2
          go_ret
          exact ⟨by rw [H2.out]; rfl, HV2.out.trans ((HQ2.out _).mono HV2.out.size)⟩
        · have HE2 : Hid (a.1.take (k + 1) = b.1.take (k + 1)) := HW3.out (by omega) (by omega)
          clear HW1 HW2 HW3
          go_quiet (fail)
          go_wp2
          go_roundw
          case rel => exact ⟨k + 1, by omega, by go_num, HE2, HA2, HB2, HV2.out.trans ((HQ2.out _).mono HV2.out.size)⟩
          case measure => simp [intOf] <;> omega
    · obtain rfl : k = 32 := by omega
      have h0 : cmpH a b = 0 := (dcmp_zero _ _).2 (by have := HE.out; rwa [List.take_of_length_le (Nat.le_of_eq a.2), List.take_of_length_le (Nat.le_of_eq b.2)] at this)
      have H0 := Lib.hid h0
      clear h0
      go_wp2
      go_ret
      exact ⟨by rw [H0.out]; rfl, HV.out⟩
end Go.Proofs.YtbfpckomgpkjgaaGreat
