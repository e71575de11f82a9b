/-
  dag: known: the chapter's row.
-/
import Derived.Test.YtndkjmmmneianaaDoorDgH
namespace Go.Proofs.YtndkjmmmneianaaDoor
open Go.RowKit Go.Shelf

/-- Four hashes in blocks of their own. -/
def KB (W : World) (p : Nat) (r a b c : Hh) : Prop := Blk W p 23 (hC r).toArray ∧ Blk W (p + 1) 23 (hC a).toArray ∧ Blk W (p + 2) 23 (hC b).toArray ∧ Blk W (p + 3) 23 (hC c).toArray
theorem KB.later {W W' : World} {p : Nat} {r a b c : Hh} (h : KB W p r a b c) (v : Below W.heap.size W W') : KB W' p r a b c := ⟨h.1.below v h.1.lt, h.2.1.below v h.2.1.lt, h.2.2.1.below v h.2.2.1.lt, h.2.2.2.below v h.2.2.2.lt⟩
theorem KB.keeps {S : Nat → Prop} {W W' : World} {p : Nat} {r a b c : Hh} (h : KB W p r a b c) (v : Keeps S W W') (hS : ∀ j, S j → p + 3 < j) : KB W' p r a b c := ⟨h.1.keeps v (fun e => by have := hS _ e; omega), h.2.1.keeps v (fun e => by have := hS _ e; omega), h.2.2.1.keeps v (fun e => by have := hS _ e; omega), h.2.2.2.keeps v (fun e => by have := hS _ e; omega)⟩
theorem kb_range {W : World} {g : Nat} {x : Hh} (h : Blk W g 23 (hC x).toArray) : W.rangeAt g 0 (hC x) := fun j v hv => by rw [Nat.zero_add, h.cell j]; simpa using hv
theorem kbR {W : World} {p : Nat} {r a b c x : Hh} (h : KB W p r a b c) (i : Nat) (hx : [r, a, b, c][i]? = some x) : W.rangeAt (p + i) 0 (hC x) := by
  match i, hx with
  | 0, hx => cases hx; exact kb_range h.1
  | 1, hx => cases hx; exact kb_range h.2.1
  | 2, hx => cases hx; exact kb_range h.2.2.1
  | 3, hx => cases hx; exact kb_range h.2.2.2
  | n + 4, hx => simp at hx
theorem nxDr {w W : World} (h : Below w.heap.size w W) : Below w.heap.size w W.drew := ⟨h.os, h.tape, h.output, h.size, h.block⟩
theorem yieldsIf_sameD {ops : Array Oper} {S : World → Prop} {op : Oper} {a : Act} (hw : Region.wanted op (yielded ops a.tmps) = true) (t : TypeId) (x y : Operand) (ho : op.op = .binOp .eql 23 x y 23)
    (l : Hh) (hx : a.eval x = .agg (hC l).toArray) (hy : a.eval y = .agg (hC l).toArray) : YieldsIf Tryd.prog ops S op (.bool true) a :=
  .inl ⟨hw, fun w _ => by
    unfold execOp
    have hq : (eqGuard .eql 23 x y (.agg (hC l).toArray) (.agg (hC l).toArray)).run Tryd.prog w = .ok () w := by simp [eqGuard, Tryd.deqgH]
    unfold hC at hx hy hq
    simp only [ho, hx, hy, Sem.run_bind, Sem.run_pure, Result.andThen_ok, hq, run_eql_bytes 32 23 5 Tryd.underlying23 Tryd.underlying5 Tryd.u8size l.1 l.1 l.2 l.2, beq_self_eq_true]⟩
theorem fill_two (a b : Hh) (z : Array Value) (hz : z.size = 64) : Instr.fill (fun i => some (i * 32, 32)) z [(0, .agg (hC a).toArray), (1, .agg (hC b).toArray)] = some (hC a ++ hC b).toArray := by
  have h1 := foldl_set 0 (hC a) 0 z.toList (by simp [hC_len, hz])
  have e1 : (z.toList.take (0 + 0) ++ hC a ++ z.toList.drop (0 + 0 + (hC a).length)) = hC a ++ z.toList.drop 32 := by simp [hC_len]
  rw [e1] at h1
  have h2 := foldl_set 32 (hC b) 0 (hC a ++ z.toList.drop 32) (by simp [hC_len, hz])
  have e2 : ((hC a ++ z.toList.drop 32).take (32 + 0) ++ hC b ++ (hC a ++ z.toList.drop 32).drop (32 + 0 + (hC b).length)) = hC a ++ hC b := by
    rw [hC_len, Nat.add_zero, List.take_left' (hC_len a), List.drop_eq_nil_of_le (by simp [hC_len, hz]), List.append_nil]
  rw [e2] at h2
  have ha : (Value.agg (hC a).toArray).cells = (hC a).toArray := rfl
  have hb : (Value.agg (hC b).toArray).cells = (hC b).toArray := rfl
  unfold Instr.fill
  simp only [ha, Nat.zero_mul, Nat.zero_add, List.size_toArray]
  rw [if_neg (by rw [hC_len, hz]; decide)]
  have e4 : (Array.foldl (fun (cs : Array Value) (x : Value × Nat) => cs.setIfInBounds x.2 x.1) z (hC a).toArray.zipIdx) = (hC a ++ z.toList.drop 32).toArray := by
    rw [← h1]
    simp
  rw [e4]
  unfold Instr.fill
  simp only [hb, Nat.one_mul, List.size_toArray]
  rw [if_neg (by simp [hC_len, hz])]
  unfold Instr.fill
  congr 1
  refine Eq.trans ?_ h2
  simp
theorem wpList_build_two {ops : Array Oper} {rest : List Oper} {o : Oper} {a : Act} {w : World} {Q : Exit → Act → World → Prop} (hg : o.guard = none) (x y : Operand) (ho : o.op = .buildSlice 34 2 #[(0, x), (1, y)]) (l m : Hh) (hx : a.eval x = .agg (hC l).toArray) (hy : a.eval y = .agg (hC m).toArray)
    (h : wpList Tryd.prog ops Q rest (a.put o.dst (.slice (some ⟨w.heap.size, 0, none⟩) 2 2)) (w.alloc (.cells (hC l ++ hC m).toArray 23))) : wpList Tryd.prog ops Q (o :: rest) a w := by
  obtain ⟨i0, hi0, hz, hs, _⟩ := info_parts Tryd.dinfoH
  refine wpList_plain hg fun _ hK => wp_buildSlice 34 23 2 #[(0, x), (1, y)] ho (hC l ++ hC m).toArray i0 _ Tryd.underlying34 hi0 hz (by rw [hs]; omega) (by rw [hs]; omega) ?_ (hK _ _ h)
  rw [hs]
  have e : (#[(0, x), (1, y)].map fun (p : Nat × Operand) => (p.1, a.eval p.2)).toList = [(0, .agg (hC l).toArray), (1, .agg (hC m).toArray)] := by simp [hx, hy]
  rw [e]
  exact fill_two l m _ (by simp)
theorem wpList_unguard {P : Program} {ops : Array Oper} {rest : List Oper} {o : Oper} {a : Act} {w : World} {Q : Exit → Act → World → Prop} (hw : Region.wanted o (yielded ops a.tmps) = true)
    (h : wpList P ops Q ({ o with guard := none } :: rest) a w) : wpList P ops Q (o :: rest) a w := by
  unfold wpList at h ⊢
  rw [if_pos hw]
  rw [if_pos (by simp [Region.wanted])] at h
  exact h
theorem hsC_1 (x : Hh) : hsC [x] = hC x := by simp [hsC]
theorem hsC_2 (x y : Hh) : hsC [x, y] = hC x ++ hC y := by simp [hsC]
theorem addTo_kb {w w' : World} {base : Nat} {m m' : GrM} {p : Nat} {r a b c : Hh} (hk : KB w p r a b c) (hg : GrOk w base m) (ha : AddTo w base m m' w') (hb : p + 3 < base) : KB w' p r a b c := hk.keeps ha.k fun j hj => by have := (hg.lt hj).1; omega
theorem addTo_v {w0 w w' : World} {base : Nat} {m m' : GrM} (hv : Below w0.heap.size w0 w) (hg : GrOk w base m) (ha : AddTo w base m m' w') (hb : w0.heap.size ≤ base) : Below w0.heap.size w0 w' := hv.trans (ha.k.below hv.size fun j hj hf => by have := (hg.lt hf).1; omega)
set_option maxRecDepth 100000 in
set_option maxHeartbeats 8000000 in
theorem known_any (w : World) : Calls Tryd.prog 9 #[] w fun e w' => e = .returned (.bool true) ∧ Below w.heap.size w w' := by
  have e1 : (#[.int .u8 1, .int .u8 0, .int .u8 0, .int .u8 0, .int .u8 0, .int .u8 0, .int .u8 0, .int .u8 0, .int .u8 0, .int .u8 0, .int .u8 0, .int .u8 0, .int .u8 0, .int .u8 0, .int .u8 0, .int .u8 0, .int .u8 0, .int .u8 0, .int .u8 0, .int .u8 0, .int .u8 0, .int .u8 0, .int .u8 0, .int .u8 0, .int .u8 0, .int .u8 0, .int .u8 0, .int .u8 0, .int .u8 0, .int .u8 0, .int .u8 0, .int .u8 0] : Array Value) = (hC (kh 1)).toArray := rfl
  have e2 : (#[.int .u8 2, .int .u8 0, .int .u8 0, .int .u8 0, .int .u8 0, .int .u8 0, .int .u8 0, .int .u8 0, .int .u8 0, .int .u8 0, .int .u8 0, .int .u8 0, .int .u8 0, .int .u8 0, .int .u8 0, .int .u8 0, .int .u8 0, .int .u8 0, .int .u8 0, .int .u8 0, .int .u8 0, .int .u8 0, .int .u8 0, .int .u8 0, .int .u8 0, .int .u8 0, .int .u8 0, .int .u8 0, .int .u8 0, .int .u8 0, .int .u8 0, .int .u8 0] : Array Value) = (hC (kh 2)).toArray := rfl
  have e3 : (#[.int .u8 3, .int .u8 0, .int .u8 0, .int .u8 0, .int .u8 0, .int .u8 0, .int .u8 0, .int .u8 0, .int .u8 0, .int .u8 0, .int .u8 0, .int .u8 0, .int .u8 0, .int .u8 0, .int .u8 0, .int .u8 0, .int .u8 0, .int .u8 0, .int .u8 0, .int .u8 0, .int .u8 0, .int .u8 0, .int .u8 0, .int .u8 0, .int .u8 0, .int .u8 0, .int .u8 0, .int .u8 0, .int .u8 0, .int .u8 0, .int .u8 0, .int .u8 0] : Array Value) = (hC (kh 3)).toArray := rfl
  have e4 : (#[.int .u8 4, .int .u8 0, .int .u8 0, .int .u8 0, .int .u8 0, .int .u8 0, .int .u8 0, .int .u8 0, .int .u8 0, .int .u8 0, .int .u8 0, .int .u8 0, .int .u8 0, .int .u8 0, .int .u8 0, .int .u8 0, .int .u8 0, .int .u8 0, .int .u8 0, .int .u8 0, .int .u8 0, .int .u8 0, .int .u8 0, .int .u8 0, .int .u8 0, .int .u8 0, .int .u8 0, .int .u8 0, .int .u8 0, .int .u8 0, .int .u8 0, .int .u8 0] : Array Value) = (hC (kh 4)).toArray := rfl
  have He1 := Lib.hid kn_e1
  have He2 := Lib.hid kn_e2
  have He3 := Lib.hid kn_e3
  have HAn := Lib.hid kn_anti
  have HF1 := Lib.hid kn_bef1
  have HF2 := Lib.hid kn_bef2
  have Hg1 : Hid (addG (newG (kh 1)) (kh 2) [kh 1] = G1) := rfl
  have Hg2 : Hid (addG G1 (kh 3) [kh 1] = G2) := rfl
  have Hg3 : Hid (addG G2 (kh 4) [kh 2, kh 3] = G3) := rfl
  have Hl : Hid (G1.length ≤ 2 ∧ G2.length ≤ 3 ∧ G3.length ≤ 4) := by show _ ∧ _ ∧ _; decide +kernel
  generalize G3 = g3 at *
  generalize G2 = g2 at *
  generalize G1 = g1 at *
  generalize kh 1 = r at *
  generalize kh 2 = a at *
  generalize kh 3 = b at *
  generalize kh 4 = c at *
  have V0 : Hid (Below w.heap.size w ((((w.alloc (.cells (hC zH).toArray 23)).alloc (.cells (hC zH).toArray 23)).alloc (.cells (hC zH).toArray 23)).alloc (.cells (hC zH).toArray 23))) := nxAlloc (nxAlloc (nxAlloc (nxAlloc (nxRefl w) _) _) _) _
  have KB0 : Hid (KB ((((w.alloc (.cells (hC zH).toArray 23)).alloc (.cells (hC zH).toArray 23)).alloc (.cells (hC zH).toArray 23)).alloc (.cells (hC zH).toArray 23)) w.heap.size zH zH zH zH) := ⟨((blkNew rfl rfl : Blk (w.alloc (.cells (hC zH).toArray 23)) w.heap.size 23 (hC zH).toArray).alloc _ |>.alloc _).alloc _, ((blkNew (by simp) rfl : Blk ((w.alloc (.cells (hC zH).toArray 23)).alloc (.cells (hC zH).toArray 23)) (w.heap.size + 1) 23 (hC zH).toArray).alloc _).alloc _, (blkNew (by simp) rfl : Blk (((w.alloc (.cells (hC zH).toArray 23)).alloc (.cells (hC zH).toArray 23)).alloc (.cells (hC zH).toArray 23)) (w.heap.size + 2) 23 (hC zH).toArray).alloc _, blkNew (by simp) rfl⟩
  go_enter Tryd.func9, Tryd.ntmps9
  go_wp2_with (first
    | ((with_reducible show wpList _ _ _ (⟨none, .store 23 (.tmp 1) _, _, _, _, _⟩ :: _) _ _); clear e1 e2 e3 e4; refine wpList_store_all rfl 23 (.tmp 1) (.tmp 7) rfl w.heap.size 23 (hC zH).toArray (hC r).toArray rfl rfl KB0.out.1 (by rw [List.size_toArray, List.size_toArray, hC_len, hC_len]) (hszB r) (hC_one r) ?_; intro w5 h5 h6 h7; have KB1 : Hid (KB w5 w.heap.size r zH zH zH) := ⟨h5, KB0.out.2.1.keeps h6 (by show ¬ (_ : Nat) = _; omega), KB0.out.2.2.1.keeps h6 (by show ¬ (_ : Nat) = _; omega), KB0.out.2.2.2.keeps h6 (by show ¬ (_ : Nat) = _; omega)⟩; have V1 : Hid (Below w.heap.size w w5) := V0.out.trans (h6.below V0.out.size (fun k hk => by omega)); clear h5 h6 h7)
    | ((with_reducible show wpList _ _ _ (⟨none, .store 23 (.tmp 2) _, _, _, _, _⟩ :: _) _ _); refine wpList_store_all rfl 23 (.tmp 2) (.tmp 8) rfl (w.heap.size + 1) 23 (hC zH).toArray (hC a).toArray rfl rfl KB1.out.2.1 (by rw [List.size_toArray, List.size_toArray, hC_len, hC_len]) (hszB a) (hC_one a) ?_; intro w6 h5 h6 h7; have KB2 : Hid (KB w6 w.heap.size r a zH zH) := ⟨KB1.out.1.keeps h6 (by show ¬ (_ : Nat) = _; omega), h5, KB1.out.2.2.1.keeps h6 (by show ¬ (_ : Nat) = _; omega), KB1.out.2.2.2.keeps h6 (by show ¬ (_ : Nat) = _; omega)⟩; have V2 : Hid (Below w.heap.size w w6) := V1.out.trans (h6.below V1.out.size (fun k hk => by omega)); clear h5 h6 h7)
    | ((with_reducible show wpList _ _ _ (⟨none, .store 23 (.tmp 3) _, _, _, _, _⟩ :: _) _ _); refine wpList_store_all rfl 23 (.tmp 3) (.tmp 9) rfl (w.heap.size + 2) 23 (hC zH).toArray (hC b).toArray rfl rfl KB2.out.2.2.1 (by rw [List.size_toArray, List.size_toArray, hC_len, hC_len]) (hszB b) (hC_one b) ?_; intro w7 h5 h6 h7; have KB3 : Hid (KB w7 w.heap.size r a b zH) := ⟨KB2.out.1.keeps h6 (by show ¬ (_ : Nat) = _; omega), KB2.out.2.1.keeps h6 (by show ¬ (_ : Nat) = _; omega), h5, KB2.out.2.2.2.keeps h6 (by show ¬ (_ : Nat) = _; omega)⟩; have V3 : Hid (Below w.heap.size w w7) := V2.out.trans (h6.below V2.out.size (fun k hk => by omega)); clear h5 h6 h7)
    | ((with_reducible show wpList _ _ _ (⟨none, .store 23 (.tmp 4) _, _, _, _, _⟩ :: _) _ _); refine wpList_store_all rfl 23 (.tmp 4) (.tmp 10) rfl (w.heap.size + 3) 23 (hC zH).toArray (hC c).toArray rfl rfl KB3.out.2.2.2 (by rw [List.size_toArray, List.size_toArray, hC_len, hC_len]) (hszB c) (hC_one c) ?_; intro w8 h5 h6 h7; have KB4 : Hid (KB w8 w.heap.size r a b c) := ⟨KB3.out.1.keeps h6 (by show ¬ (_ : Nat) = _; omega), KB3.out.2.1.keeps h6 (by show ¬ (_ : Nat) = _; omega), KB3.out.2.2.1.keeps h6 (by show ¬ (_ : Nat) = _; omega), h5⟩; have V4 : Hid (Below w.heap.size w w8) := V3.out.trans (h6.below V3.out.size (fun k hk => by omega)); clear h5 h6 h7)
    | ((with_reducible show wpList _ _ _ (⟨some 11, _, _, _, _, _⟩ :: _) _ _); refine wpList_load_mid rfl 23 (.tmp 1) rfl w.heap.size 0 rfl (hC r) _ (kbR KB4.out 0 rfl) Tryd.underlying23 rfl (hszL r) ?_)
    | (go_at_call 31; refine (new_any _ r).mono ?_; rintro e9 w9 ⟨m0, rfl, hg9, hi9, hb9⟩; have GW0 := Lib.hid hg9; have GI0 := Lib.hid hi9; have K9 := Lib.hid (KB4.out.later hb9); have V9 : Hid (Below w.heap.size w w9) := nxTo V4.out hb9; have HB8 : Hid (w.heap.size + 3 < w8.heap.size) := KB4.out.2.2.2.lt; clear hg9 hi9 hb9)
    | ((with_reducible show wpList _ _ _ (⟨some 14, _, _, _, _, _⟩ :: _) _ _); refine wpList_load_mid rfl 23 (.tmp 2) rfl (w.heap.size + 1) 0 rfl (hC a) _ (kbR K9.out 1 rfl) Tryd.underlying23 rfl (hszL a) ?_)
    | ((with_reducible show wpList _ _ _ (⟨some 15, _, _, _, _, _⟩ :: _) _ _); refine wpList_load_mid rfl 23 (.tmp 1) rfl w.heap.size 0 rfl (hC r) _ (kbR K9.out 0 rfl) Tryd.underlying23 rfl (hszL r) ?_)
    | ((with_reducible show wpList _ _ _ (⟨some 16, _, _, _, _, _⟩ :: _) _ _); refine wpList_build1 rfl 34 23 (.tmp 15) rfl (hC r) _ 32 32 Tryd.underlying34 Tryd.dinfoH (by decide) (by decide) (hC_len r) rfl ?_)
    | (go_at_call 23; (with_reducible show Calls _ _ #[_, .agg (hC a).toArray, _] _ _); refine (add_any _ w8.heap.size m0 (newG r) (GW0.out.later (nxAlloc (nxRefl _) _)) GI0.out a _ 1 [r] (by rw [hsC_1]; exact SeesV.blk (heap_alloc_new w9 _)) (by simp) (by rw [GI0.out.len]; simp [newG])).mono ?_; unfold AddPost; rw [Hg1.out, He1.out]; rintro e10 w10 ⟨rfl, m1, ha, hi⟩; have GW1 := Lib.hid ha.ok; have GI1 := Lib.hid hi; have K10 := Lib.hid (addTo_kb (K9.out.later (nxAlloc (nxRefl _) _)) (GW0.out.later (nxAlloc (nxRefl _) _)) ha HB8.out); have V10 := Lib.hid (addTo_v (nxAlloc V9.out _) (GW0.out.later (nxAlloc (nxRefl _) _)) ha V4.out.size); (have e1q : m1.q = m0.q := ha.q); have E1q := Lib.hid e1q; rw [← e1q]; clear ha hi e1q)
    | ((with_reducible show wpList _ _ _ (⟨some 21, _, _, _, _, _⟩ :: _) _ _); refine wpList_unguard (by rfl) ?_; refine wpList_load_mid rfl 23 (.tmp 3) rfl (w.heap.size + 2) 0 rfl (hC b) _ (kbR K10.out 2 rfl) Tryd.underlying23 rfl (hszL b) ?_)
    | ((with_reducible show wpList _ _ _ (⟨some 22, _, _, _, _, _⟩ :: _) _ _); refine wpList_unguard (by rfl) ?_; refine wpList_load_mid rfl 23 (.tmp 1) rfl w.heap.size 0 rfl (hC r) _ (kbR K10.out 0 rfl) Tryd.underlying23 rfl (hszL r) ?_)
    | ((with_reducible show wpList _ _ _ (⟨some 23, _, _, _, _, _⟩ :: _) _ _); refine wpList_unguard (by rfl) ?_; refine wpList_build1 rfl 34 23 (.tmp 22) rfl (hC r) _ 32 32 Tryd.underlying34 Tryd.dinfoH (by decide) (by decide) (hC_len r) rfl ?_)
    | (go_at_call 23; (with_reducible show Calls _ _ #[_, .agg (hC b).toArray, _] _ _); refine (add_any _ w8.heap.size m1 g1 (GW1.out.later (nxAlloc (nxRefl _) _)) GI1.out b _ 1 [r] (by rw [hsC_1]; exact SeesV.blk (heap_alloc_new w10 _)) (by simp) (by have h9 := GI1.out.len; have h8 := Hl.out.1; omega)).mono ?_; unfold AddPost; rw [Hg2.out, He2.out]; rintro e11 w11 ⟨rfl, m2, ha, hi⟩; have GW2 := Lib.hid ha.ok; have GI2 := Lib.hid hi; have K11 := Lib.hid (addTo_kb (K10.out.later (nxAlloc (nxRefl _) _)) (GW1.out.later (nxAlloc (nxRefl _) _)) ha HB8.out); have V11 := Lib.hid (addTo_v (nxAlloc V10.out _) (GW1.out.later (nxAlloc (nxRefl _) _)) ha V4.out.size); (have e2q : m2.q = m1.q := ha.q); have E2q := Lib.hid e2q; rw [← e2q]; clear ha hi e2q)
    | ((with_reducible show wpList _ _ _ (⟨some 29, _, _, _, _, _⟩ :: _) _ _); refine wpList_unguard (by rfl) ?_; refine wpList_load_mid rfl 23 (.tmp 4) rfl (w.heap.size + 3) 0 rfl (hC c) _ (kbR K11.out 3 rfl) Tryd.underlying23 rfl (hszL c) ?_)
    | ((with_reducible show wpList _ _ _ (⟨some 30, _, _, _, _, _⟩ :: _) _ _); refine wpList_unguard (by rfl) ?_; refine wpList_load_mid rfl 23 (.tmp 2) rfl (w.heap.size + 1) 0 rfl (hC a) _ (kbR K11.out 1 rfl) Tryd.underlying23 rfl (hszL a) ?_)
    | ((with_reducible show wpList _ _ _ (⟨some 31, _, _, _, _, _⟩ :: _) _ _); refine wpList_unguard (by rfl) ?_; refine wpList_load_mid rfl 23 (.tmp 3) rfl (w.heap.size + 2) 0 rfl (hC b) _ (kbR K11.out 2 rfl) Tryd.underlying23 rfl (hszL b) ?_)
    | ((with_reducible show wpList _ _ _ (⟨some 32, _, _, _, _, _⟩ :: _) _ _); refine wpList_unguard (by rfl) ?_; refine wpList_build_two rfl (.tmp 30) (.tmp 31) rfl a b rfl rfl ?_)
    | (go_at_call 23; (with_reducible show Calls _ _ #[_, .agg (hC c).toArray, _] _ _); refine (add_any _ w8.heap.size m2 g2 (GW2.out.later (nxAlloc (nxRefl _) _)) GI2.out c _ 2 [a, b] (by rw [hsC_2]; exact SeesV.blk (heap_alloc_new w11 _)) (by simp) (by have h9 := GI2.out.len; have h8 := Hl.out.2.1; omega)).mono ?_; unfold AddPost; rw [Hg3.out, He3.out]; rintro e12 w12 ⟨rfl, m3, ha, hi⟩; have GW3 := Lib.hid ha.ok; have GI3 := Lib.hid hi; have K12 := Lib.hid (addTo_kb (K11.out.later (nxAlloc (nxRefl _) _)) (GW2.out.later (nxAlloc (nxRefl _) _)) ha HB8.out); have V12 := Lib.hid (addTo_v (nxAlloc V11.out _) (GW2.out.later (nxAlloc (nxRefl _) _)) ha V4.out.size); (have e3q : m3.q = m2.q := ha.q); have E3q := Lib.hid e3q; rw [← e3q]; clear ha hi e3q)
    | ((with_reducible show wpList _ _ _ (⟨some 37, _, _, _, _, _⟩ :: _) _ _); refine wpList_load_mid rfl 23 (.tmp 2) rfl (w.heap.size + 1) 0 rfl (hC a) _ (kbR K12.out 1 rfl) Tryd.underlying23 rfl (hszL a) ?_)
    | (go_at_call 19; refine (anti_any w12 w8.heap.size m3 g3 GW3.out GI3.out a).mono ?_; rw [HAn.out]; unfold ListPost; rintro e13 w13 ⟨A13, c13, rfl, ho13, hb13⟩; have O13 := Lib.hid ho13; have K13 := Lib.hid (K12.out.later hb13); have V13 : Hid (Below w.heap.size w w13) := nxTo V12.out hb13; have GW6 := Lib.hid (GW3.out.later hb13); clear ho13 hb13))
  obtain ⟨gl, cs9, hA9, _, hB9, _, _, _, ht9, _⟩ := own_blk1 O13.out (by simp)
  subst hA9
  have L13 : Hid (w13.rangeAt gl 0 (hC b)) := by
    have h9 := blk_hash (l := [b]) (j := 0) hB9 ht9 (by simp)
    rw [Nat.zero_mul] at h9
    exact h9
  have HGl : Hid (gl < w13.heap.size) := hB9.lt
  clear hB9 ht9
  have hdr : Below w13.heap.size w13 w13.drew := nxDr (nxRefl _)
  have KD : Hid (KB w13.drew w.heap.size r a b c) := K13.out.later hdr
  have GD : Hid (GrOk w13.drew w8.heap.size m3) := GW6.out.later hdr
  have LD : Hid (w13.drew.rangeAt gl 0 (hC b)) := rngK L13.out hdr HGl.out
  have VD : Hid (Below w.heap.size w w13.drew) := nxTo V13.out hdr
  have HGd : Hid (gl < w13.drew.heap.size) := Nat.lt_of_lt_of_le HGl.out hdr.size
  clear hdr
  refine wp_region_held_drew (S := fun W => W.rangeAt w.heap.size 0 (hC r) ∧ W.rangeAt (w.heap.size + 1) 0 (hC a) ∧ W.rangeAt (w.heap.size + 2) 0 (hC b) ∧ W.rangeAt (w.heap.size + 3) 0 (hC c) ∧ W.rangeAt gl 0 (hC b)) (by kernel_rfl) ⟨kbR K13.out 0 rfl, kbR K13.out 1 rfl, kbR K13.out 2 rfl, kbR K13.out 3 rfl, L13.out⟩ (fun hHeld => ?_)
  refine wpAnyH_take (i := 0) (oi := ⟨_, _, _, _, _, _⟩) (v := ?_) rfl (by kernel_rfl) (by kernel_rfl) (by kernel_rfl) (fun _ _ _ h => h) (Or.inl ⟨by rfl, ?_⟩) (by assumption) ?_
  rotate_left 1
  · intro W hSw
    try dsimp only at hSw
    obtain ⟨hs1, hs2, hs3, hs4, hs5⟩ := hSw
    go_simp
    try with_reducible rfl
  try simp only [Act.put, List.setIfInBounds_toArray, List.set_cons_zero, List.set_cons_succ]
  refine wpAnyH_take (i := 1) (oi := ⟨_, _, _, _, _, _⟩) (v := ?_) rfl (by kernel_rfl) (by kernel_rfl) (by kernel_rfl) (fun _ _ _ h => h) (Or.inl ⟨by rfl, ?_⟩) (by assumption) ?_
  rotate_left 1
  · intro W hSw
    try dsimp only at hSw
    obtain ⟨hs1, hs2, hs3, hs4, hs5⟩ := hSw
    go_simp
    try with_reducible rfl
  try simp only [Act.put, List.setIfInBounds_toArray, List.set_cons_zero, List.set_cons_succ]
  refine wpAnyH_take (i := 2) (oi := ⟨_, _, _, _, _, _⟩) (v := ?_) rfl (by kernel_rfl) (by kernel_rfl) (by kernel_rfl) (fun _ _ _ h => h) (Or.inl ⟨by rfl, ?_⟩) (by assumption) ?_
  rotate_left 1
  · intro W hSw
    try dsimp only at hSw
    obtain ⟨hs1, hs2, hs3, hs4, hs5⟩ := hSw
    go_simp
    try with_reducible rfl
  try simp only [Act.put, List.setIfInBounds_toArray, List.set_cons_zero, List.set_cons_succ]
  refine wpAnyH_take (i := 3) (oi := ⟨_, _, _, _, _, _⟩) (v := ?_) rfl (by kernel_rfl) (by kernel_rfl) (by kernel_rfl) (fun _ _ _ h => h) (Or.inl ⟨by rfl, ?_⟩) (by assumption) ?_
  rotate_left 1
  · intro W hSw
    try dsimp only at hSw
    obtain ⟨hs1, hs2, hs3, hs4, hs5⟩ := hSw
    go_simp
    try with_reducible rfl
  try simp only [Act.put, List.setIfInBounds_toArray, List.set_cons_zero, List.set_cons_succ]
  refine wpAnyH_take (i := 4) (oi := ⟨_, _, _, _, _, _⟩) (v := ?_) rfl (by kernel_rfl) (by kernel_rfl) (by kernel_rfl) (fun _ _ _ h => h) (Or.inl ⟨by rfl, ?_⟩) (by assumption) ?_
  rotate_left 1
  · intro W hSw
    try dsimp only at hSw
    obtain ⟨hs1, hs2, hs3, hs4, hs5⟩ := hSw
    go_simp
    try with_reducible rfl
  try simp only [Act.put, List.setIfInBounds_toArray, List.set_cons_zero, List.set_cons_succ]
  refine wpAnyH_take (i := 5) (oi := ⟨_, _, _, _, _, _⟩) (v := ?_) rfl (by kernel_rfl) (by kernel_rfl) (by kernel_rfl) (fun _ _ _ h => h) (Or.inl ⟨by rfl, ?_⟩) (by assumption) ?_
  rotate_left 1
  · intro W hSw
    try dsimp only at hSw
    obtain ⟨hs1, hs2, hs3, hs4, hs5⟩ := hSw
    go_simp
    try with_reducible rfl
  try simp only [Act.put, List.setIfInBounds_toArray, List.set_cons_zero, List.set_cons_succ]
  refine wpAnyH_take (i := 6) (oi := ⟨_, _, _, _, _, _⟩) (v := .agg (hC b).toArray) rfl (by kernel_rfl) (by kernel_rfl) (by kernel_rfl) (fun _ _ _ h => h) (yieldsIf_load_mid (by rfl) 23 (.tmp 44) rfl gl 0 rfl (hC b) _ (fun W h => h.2.2.2.2) Tryd.underlying23 rfl (hszL b)) (by assumption) ?_
  try simp only [Act.put, List.setIfInBounds_toArray, List.set_cons_zero, List.set_cons_succ]
  refine wpAnyH_take (i := 7) (oi := ⟨_, _, _, _, _, _⟩) (v := .agg (hC b).toArray) rfl (by kernel_rfl) (by kernel_rfl) (by kernel_rfl) (fun _ _ _ h => h) (yieldsIf_load_mid (by rfl) 23 (.tmp 3) rfl (w.heap.size + 2) 0 rfl (hC b) _ (fun W h => h.2.2.1) Tryd.underlying23 rfl (hszL b)) (by assumption) ?_
  try simp only [Act.put, List.setIfInBounds_toArray, List.set_cons_zero, List.set_cons_succ]
  refine wpAnyH_take (i := 8) (oi := ⟨_, _, _, _, _, _⟩) (v := .bool true) rfl (by kernel_rfl) (by kernel_rfl) (by kernel_rfl) (fun _ _ _ h => h) (yieldsIf_sameD (by rfl) 23 (.tmp 45) (.tmp 46) rfl b rfl rfl) (by assumption) ?_
  try simp only [Act.put, List.setIfInBounds_toArray, List.set_cons_zero, List.set_cons_succ]
  refine wpAnyH_take (i := 9) (oi := ⟨_, _, _, _, _, _⟩) (v := ?_) rfl (by kernel_rfl) (by kernel_rfl) (by kernel_rfl) (fun _ _ _ h => h) (Or.inl ⟨by rfl, ?_⟩) (by assumption) ?_
  rotate_left 1
  · intro W hSw
    try dsimp only at hSw
    obtain ⟨hs1, hs2, hs3, hs4, hs5⟩ := hSw
    go_simp
    try with_reducible rfl
  try simp only [Act.put, List.setIfInBounds_toArray, List.set_cons_zero, List.set_cons_succ]
  refine wpAnyH_take (i := 10) (oi := ⟨_, _, _, _, _, _⟩) (v := ?_) rfl (by kernel_rfl) (by kernel_rfl) (by kernel_rfl) (fun _ _ _ h => h) (Or.inl ⟨by rfl, ?_⟩) (by assumption) ?_
  rotate_left 1
  · intro W hSw
    try dsimp only at hSw
    obtain ⟨hs1, hs2, hs3, hs4, hs5⟩ := hSw
    go_simp
    try with_reducible rfl
  try simp only [Act.put, List.setIfInBounds_toArray, List.set_cons_zero, List.set_cons_succ]
  refine wpAnyH_take (i := 11) (oi := ⟨_, _, _, _, _, _⟩) (v := ?_) rfl (by kernel_rfl) (by kernel_rfl) (by kernel_rfl) (fun _ _ _ h => h) (Or.inl ⟨by rfl, ?_⟩) (by assumption) ?_
  rotate_left 1
  · intro W hSw
    try dsimp only at hSw
    obtain ⟨hs1, hs2, hs3, hs4, hs5⟩ := hSw
    go_simp
    try with_reducible rfl
  try simp only [Act.put, List.setIfInBounds_toArray, List.set_cons_zero, List.set_cons_succ]
  refine wpAnyH_take (i := 12) (oi := ⟨_, _, _, _, _, _⟩) (v := .agg (hC r).toArray) rfl (by kernel_rfl) (by kernel_rfl) (by kernel_rfl) (fun _ _ _ h => h) (yieldsIf_load_mid (by rfl) 23 (.tmp 1) rfl w.heap.size 0 rfl (hC r) _ (fun W h => h.1) Tryd.underlying23 rfl (hszL r)) (by assumption) ?_
  try simp only [Act.put, List.setIfInBounds_toArray, List.set_cons_zero, List.set_cons_succ]
  refine wpAnyH_take (i := 13) (oi := ⟨_, _, _, _, _, _⟩) (v := .agg (hC c).toArray) rfl (by kernel_rfl) (by kernel_rfl) (by kernel_rfl) (fun _ _ _ h => h) (yieldsIf_load_mid (by rfl) 23 (.tmp 4) rfl (w.heap.size + 3) 0 rfl (hC c) _ (fun W h => h.2.2.2.1) Tryd.underlying23 rfl (hszL c)) (by assumption) ?_
  try simp only [Act.put, List.setIfInBounds_toArray, List.set_cons_zero, List.set_cons_succ]
  refine wpAnyH_ready (rs := [14]) (by kernel_rfl) (by simp) ?_
  refine AllReadyH.cons rfl (fun K hK => ?_) AllReadyH.nil
  go_simp
  go_at_call 14
  refine (before_any _ w8.heap.size m3 g3 GD.out GI3.out r c).mono ?_
  rw [HF1.out]
  rintro e14 w14 ⟨rfl, hb14⟩
  have K14 := Lib.hid (KD.out.later hb14)
  have L14 := Lib.hid (rngK LD.out hb14 HGd.out)
  have GW14 := Lib.hid (GD.out.later hb14)
  have V14 : Hid (Below w.heap.size w w14) := nxTo VD.out hb14
  have HGl14 : Hid (gl < w14.heap.size) := Nat.lt_of_lt_of_le HGd.out hb14.size
  clear hb14
  refine hK.out _ _ ⟨kbR K14.out 0 rfl, kbR K14.out 1 rfl, kbR K14.out 2 rfl, kbR K14.out 3 rfl, L14.out⟩ (fun hSn => ?_)
  clear hK K
  try simp only [Act.put, List.setIfInBounds_toArray, List.set_cons_zero, List.set_cons_succ]
  refine wpAnyH_take (i := 15) (oi := ⟨_, _, _, _, _, _⟩) (v := ?_) rfl (by kernel_rfl) (by kernel_rfl) (by kernel_rfl) (fun _ _ _ h => h) (Or.inl ⟨by rfl, ?_⟩) (by assumption) ?_
  rotate_left 1
  · intro W hSw
    try dsimp only at hSw
    obtain ⟨hs1, hs2, hs3, hs4, hs5⟩ := hSw
    go_simp
    try with_reducible rfl
  try simp only [Act.put, List.setIfInBounds_toArray, List.set_cons_zero, List.set_cons_succ]
  refine wpAnyH_take (i := 16) (oi := ⟨_, _, _, _, _, _⟩) (v := ?_) rfl (by kernel_rfl) (by kernel_rfl) (by kernel_rfl) (fun _ _ _ h => h) (Or.inl ⟨by rfl, ?_⟩) (by assumption) ?_
  rotate_left 1
  · intro W hSw
    try dsimp only at hSw
    obtain ⟨hs1, hs2, hs3, hs4, hs5⟩ := hSw
    go_simp
    try with_reducible rfl
  try simp only [Act.put, List.setIfInBounds_toArray, List.set_cons_zero, List.set_cons_succ]
  refine wpAnyH_take (i := 17) (oi := ⟨_, _, _, _, _, _⟩) (v := ?_) rfl (by kernel_rfl) (by kernel_rfl) (by kernel_rfl) (fun _ _ _ h => h) (Or.inl ⟨by rfl, ?_⟩) (by assumption) ?_
  rotate_left 1
  · intro W hSw
    try dsimp only at hSw
    obtain ⟨hs1, hs2, hs3, hs4, hs5⟩ := hSw
    go_simp
    try with_reducible rfl
  try simp only [Act.put, List.setIfInBounds_toArray, List.set_cons_zero, List.set_cons_succ]
  refine wpAnyH_take (i := 18) (oi := ⟨_, _, _, _, _, _⟩) (v := .agg (hC a).toArray) rfl (by kernel_rfl) (by kernel_rfl) (by kernel_rfl) (fun _ _ _ h => h) (yieldsIf_load_mid (by rfl) 23 (.tmp 2) rfl (w.heap.size + 1) 0 rfl (hC a) _ (fun W h => h.2.1) Tryd.underlying23 rfl (hszL a)) (by assumption) ?_
  try simp only [Act.put, List.setIfInBounds_toArray, List.set_cons_zero, List.set_cons_succ]
  refine wpAnyH_take (i := 19) (oi := ⟨_, _, _, _, _, _⟩) (v := .agg (hC b).toArray) rfl (by kernel_rfl) (by kernel_rfl) (by kernel_rfl) (fun _ _ _ h => h) (yieldsIf_load_mid (by rfl) 23 (.tmp 3) rfl (w.heap.size + 2) 0 rfl (hC b) _ (fun W h => h.2.2.1) Tryd.underlying23 rfl (hszL b)) (by assumption) ?_
  try simp only [Act.put, List.setIfInBounds_toArray, List.set_cons_zero, List.set_cons_succ]
  refine wpAnyH_ready (rs := [20]) (by kernel_rfl) (by simp) ?_
  refine AllReadyH.cons rfl (fun K hK => ?_) AllReadyH.nil
  go_simp
  go_at_call 14
  refine (before_any _ w8.heap.size m3 g3 GW14.out GI3.out a b).mono ?_
  rw [HF2.out]
  rintro e20 w20 ⟨rfl, hb20⟩
  have K20 := Lib.hid (K14.out.later hb20)
  have L20 := Lib.hid (rngK L14.out hb20 HGl14.out)
  have V20 : Hid (Below w.heap.size w w20) := nxTo V14.out hb20
  clear hb20
  refine hK.out _ _ ⟨kbR K20.out 0 rfl, kbR K20.out 1 rfl, kbR K20.out 2 rfl, kbR K20.out 3 rfl, L20.out⟩ (fun hSn => ?_)
  clear hK K
  try simp only [Act.put, List.setIfInBounds_toArray, List.set_cons_zero, List.set_cons_succ]
  refine wpAnyH_take (i := 21) (oi := ⟨_, _, _, _, _, _⟩) (v := ?_) rfl (by kernel_rfl) (by kernel_rfl) (by kernel_rfl) (fun _ _ _ h => h) (Or.inl ⟨by rfl, ?_⟩) (by assumption) ?_
  rotate_left 1
  · intro W hSw
    try dsimp only at hSw
    obtain ⟨hs1, hs2, hs3, hs4, hs5⟩ := hSw
    go_simp
    try with_reducible rfl
  try simp only [Act.put, List.setIfInBounds_toArray, List.set_cons_zero, List.set_cons_succ]
  refine wpAnyH_take (i := 22) (oi := ⟨_, _, _, _, _, _⟩) (v := ?_) rfl (by kernel_rfl) (by kernel_rfl) (by kernel_rfl) (fun _ _ _ h => h) (Or.inl ⟨by rfl, ?_⟩) (by assumption) ?_
  rotate_left 1
  · intro W hSw
    try dsimp only at hSw
    obtain ⟨hs1, hs2, hs3, hs4, hs5⟩ := hSw
    go_simp
    try with_reducible rfl
  try simp only [Act.put, List.setIfInBounds_toArray, List.set_cons_zero, List.set_cons_succ]
  refine wpAnyH_take (i := 23) (oi := ⟨_, _, _, _, _, _⟩) (v := ?_) rfl (by kernel_rfl) (by kernel_rfl) (by kernel_rfl) (fun _ _ _ h => h) (Or.inl ⟨by rfl, ?_⟩) (by assumption) ?_
  rotate_left 1
  · intro W hSw
    try dsimp only at hSw
    obtain ⟨hs1, hs2, hs3, hs4, hs5⟩ := hSw
    go_simp
    try with_reducible rfl
  try simp only [Act.put, List.setIfInBounds_toArray, List.set_cons_zero, List.set_cons_succ]
  refine wpAnyH_done (by kernel_rfl) ?_ _

  go_wp2
  go_ret
  exact ⟨rfl, V20.out⟩
end Go.Proofs.YtndkjmmmneianaaDoor
