/-
  block: the program's Root.
  BlockBounds: what the walk wants: parts that are written out, a row of transactions that grows, blocks of which a cell changes.
-/
import Derived.Test.YtpfjkjogljilnaaDoorBkB
import Derived.Test.YtpfjkjogljilnaaDoorBbA
import Derived.Test.YtpfjkjogljilnaaDoorPBbQ9
import Derived.Test.YtpfjkjogljilnaaDoorBkE
import Derived.Test.YtpfjkjogljilnaaDoorBk3
import Derived.Test.YtpfjkjogljilnaaDoorBk7
import Derived.Test.YtpfjkjogljilnaaDoorBkJ
import Derived.Test.YtpfjkjogljilnaaDoorPBbQ8
namespace Go.Proofs.YtpfjkjogljilnaaDoor
open Go.RowKit

set_option maxHeartbeats 1000000 in
set_option maxRecDepth 100000 in
theorem broot_any (w : World) (hTb : Tabs w) (B : Option Addr) (l : List TxR) (d : Nat) (k : TxsOk w B l d) (hmax : l.length ≤ 1000) :
    Calls Tryd.prog 6 #[.slice B l.length d] w fun e w' => e = .returned (.agg (By (rootL (idsL l))).toArray) ∧ Below w.heap.size w w' := by
  have hb0 : Below w.heap.size w (w.alloc (.cells (By zero32).toArray 24)) := nxAl (nxRf w) _
  have B0 : Hid (Blk (w.alloc (.cells (By zero32).toArray 24)) w.heap.size 24 (By zero32).toArray) := Lib.hid (heap_alloc_new w _)
  have HK := Lib.hid (k.later hb0)
  have HT := Lib.hid (hTb.later hb0)
  have Hb0 := Lib.hid hb0
  obtain ⟨x, hx⟩ : ∃ x, rootL (idsL l) = x := ⟨_, rfl⟩
  have HX := Lib.hid hx
  have HXl : Hid (x.length = 32) := by show _ = _; rw [← hx, rootL_len]
  have HZ0 := Lib.hid (Tryd.hsizeB x HXl.out)
  have HM := Lib.hid hmax
  rw [hx]
  clear hb0 k hTb hx hmax
  go_enter Tryd.func6, Tryd.ntmps6
  go_wp2_with (first
    | (go_at_call 24; refine (idsOf_any (w.alloc (.cells (By zero32).toArray 24)) HT.out B l d HK.out HM.out).mono ?_; unfold HashesPost; rintro e w2 ⟨A2, c2, rfl, ho, hb⟩; have S2 := Lib.hid (SeesV.own ho); have V2 := Lib.hid (nxTr Hb0.out hb); have B2 := Lib.hid (B0.out.below hb B0.out.lt); have T2 := Lib.hid (HT.out.later hb); clear ho hb)
    | (go_at_call 23; refine (root_any w2 T2.out A2 _ c2 (idsL l) rfl (idsL_32 l) S2.out (by rw [idsL_len]; have := HM.out; omega)).mono ?_; rw [HX.out]; rintro e w3 ⟨rfl, hb⟩; have V3 := Lib.hid (nxTr V2.out hb); have B3 := Lib.hid (B2.out.below hb B2.out.lt); clear hb)
    | ((with_reducible show wpList _ _ _ (⟨none, .store 24 _ _, _, _, _, _⟩ :: _) _ _); refine wpList_store_all rfl 24 (.tmp 2) (.tmp 5) rfl w.heap.size 24 (By zero32).toArray (By x).toArray rfl rfl B3.out (by rw [List.size_toArray, List.size_toArray, By_length, By_length, HXl.out]; rfl) HZ0.out (By_one _) ?_; intro w7 h5 h6 h7; have H7 := Lib.hid h5; have Hb7 : Hid (Below w.heap.size w w7) := V3.out.trans (h6.below V3.out.size (fun k hk => by omega)); clear h5 h6 h7))
  refine bodyPost_ret (results_cell_row Tryd.results6 _ _ w.heap.size 24 _ (0, 0) _ rfl H7.out Tryd.underlying24 rfl HZ0.out) rfl ⟨rfl, Hb7.out⟩
end Go.Proofs.YtpfjkjogljilnaaDoor

namespace Go.Proofs.YtpfjkjogljilnaaDoor
open Go.RowKit

def zI : InR := ⟨zero32, 0, none, 0, []⟩
def oI : OutR := ⟨1, zero32⟩
/-- The k-th transaction, in memory. -/
def tI (b1 b2 k : Nat) : TxR := ⟨some ⟨b1, 0, none⟩, 1, [zI], some ⟨b2, 0, none⟩, 1, [oI], k⟩
theorem tI_p (b1 b2 k : Nat) : txP (tI b1 b2 k) = pI k := rfl
theorem tI_ok {W : World} {b1 b2 k : Nat} (hk : k < 201) (h1 : Blk W b1 94 (inC zI).toArray) (h2 : Blk W b2 37 (outC oI).toArray) : TxOk W (tI b1 b2 k) where
  ins := SeesV.blk h1
  each := fun i hi => by rw [List.mem_singleton.1 hi]; exact ⟨rfl, by show 0 < _; omega, Nat.le_refl _, .inl rfl, Nat.zero_le _⟩
  outs := SeesV.blk h2
  eacho := fun o ho => by rw [List.mem_singleton.1 ho]; exact ⟨by show 1 < _; omega, rfl⟩
  c := Nat.le_refl _
  d := Nat.le_refl _
  nonce := by show k < _; omega
  mi := by show 1 ≤ _; omega
  mo := by show 1 ≤ _; omega
theorem make_in1 (w : World) : (Instr.makeSlice 35 (.int .i64 1) (.int .i64 1)).run Tryd.prog w = .ok (.slice (some ⟨w.heap.size, 0, none⟩) 1 1) (w.alloc (.cells (inC zI).toArray 94)) := by kernel_rfl
theorem make_tx1 (w : World) : (Instr.makeSlice 34 (.int .i64 1) (.int .i64 1)).run Tryd.prog w = .ok (.slice (some ⟨w.heap.size, 0, none⟩) 1 1) (w.alloc (.cells (txC noT).toArray 40)) := by kernel_rfl
theorem part_outI (wq : World) : (Instr.build 37 #[(0, .int .u64 1)]).run Tryd.prog wq = .ok (.agg (outC oI).toArray) wq := by kernel_rfl
theorem part_hashI (wq : World) : (Instr.build 24 #[]).run Tryd.prog wq = .ok (.agg (By zero32).toArray) wq := by kernel_rfl
theorem part_txI (A B : Option Addr) (n c m d : Nat) (k : Int) (wq : World) : (Instr.build 40 #[(0, .slice A n c), (1, .slice B m d), (2, .int .u64 k)]).run Tryd.prog wq = .ok (.agg #[.slice A n c, .slice B m d, .int .u64 k]) wq := by kernel_rfl
theorem part_bkI (A : Option Addr) (n c : Nat) (wq : World) : (Instr.build 42 #[(1, .slice A n c)]).run Tryd.prog wq = .ok (.agg (hdC noHd ++ [Value.slice A n c]).toArray) wq := by kernel_rfl
theorem part_bk0 (wq : World) : (Instr.build 42 #[]).run Tryd.prog wq = .ok (.agg (bkC noBk).toArray) wq := by kernel_rfl
theorem yieldsIf_buildJ {P : Program} {ops : Array Oper} {S : World → Prop} {o : Oper} {a : Act} (hw : Region.wanted o (yielded ops a.tmps) = true) (t : TypeId) (j : Nat) (x : Operand) (ho : o.op = .build t #[(j, x)])
    (vx v : Value) (hx : a.eval x = vx) (hr : ∀ wq, (Instr.build t #[(j, vx)]).run P wq = .ok v wq) : YieldsIf P ops S o v a :=
  .inl ⟨hw, fun w _ => by
    unfold execOp
    have e : (#[(j, x)].map fun (p : Nat × Operand) => (p.1, a.eval p.2)) = #[(j, vx)] := by simp [hx]
    simp only [ho, e, Sem.run_bind, hr, Result.andThen_ok]
    rfl⟩
theorem wpList_buildJ {P : Program} {ops : Array Oper} {rest : List Oper} {o : Oper} {a : Act} {w : World} {Q : Exit → Act → World → Prop} (hw : Region.wanted o (yielded ops a.tmps) = true) (t : TypeId) (j : Nat) (x : Operand) (ho : o.op = .build t #[(j, x)])
    (vx v : Value) (hx : a.eval x = vx) (hr : ∀ wq, (Instr.build t #[(j, vx)]).run P wq = .ok v wq) (h : wpList P ops Q rest (a.put o.dst v) w) : wpList P ops Q (o :: rest) a w := by
  refine wpList_step fun _ hK => ?_
  rw [if_pos hw]
  unfold Oper.wp execOp
  have e : (#[(j, x)].map fun (p : Nat × Operand) => (p.1, a.eval p.2)) = #[(j, vx)] := by simp [hx]
  simp only [ho, e, Sem.run_bind, hr, Result.andThen_ok]
  exact hK _ _ h
theorem wpList_buildN {P : Program} {ops : Array Oper} {rest : List Oper} {o : Oper} {a : Act} {w : World} {Q : Exit → Act → World → Prop} (hw : Region.wanted o (yielded ops a.tmps) = true) (t : TypeId) (ho : o.op = .build t #[])
    (v : Value) (hr : ∀ wq, (Instr.build t #[]).run P wq = .ok v wq) (h : wpList P ops Q rest (a.put o.dst v) w) : wpList P ops Q (o :: rest) a w := by
  refine wpList_step fun _ hK => ?_
  rw [if_pos hw]
  unfold Oper.wp execOp
  have e : ((#[] : Array (Nat × Operand)).map fun (p : Nat × Operand) => (p.1, a.eval p.2)) = #[] := by simp
  simp only [ho, e, Sem.run_bind, hr, Result.andThen_ok]
  exact hK _ _ h
theorem wpList_buildT {P : Program} {ops : Array Oper} {rest : List Oper} {o : Oper} {a : Act} {w : World} {Q : Exit → Act → World → Prop} (hg : o.guard = none) (t : TypeId) (x y z : Operand) (ho : o.op = .build t #[(0, x), (1, y), (2, z)])
    (vx vy vz v : Value) (hx : a.eval x = vx) (hy : a.eval y = vy) (hz : a.eval z = vz) (hr : ∀ wq, (Instr.build t #[(0, vx), (1, vy), (2, vz)]).run P wq = .ok v wq) (h : wpList P ops Q rest (a.put o.dst v) w) : wpList P ops Q (o :: rest) a w := by
  refine wpList_plain hg fun _ hK => ?_
  unfold Oper.wp execOp
  have e : (#[(0, x), (1, y), (2, z)].map fun (p : Nat × Operand) => (p.1, a.eval p.2)) = #[(0, vx), (1, vy), (2, vz)] := by simp [hx, hy, hz]
  simp only [ho, e, Sem.run_bind, hr, Result.andThen_ok]
  exact hK _ _ h
/-- A block of transactions, its header noughts but for the root. -/
def bI (x : List UInt8) (A : Option Addr) (l : List TxR) (d : Nat) : BkR := ⟨⟨none, 0, ⟨[], x, zero32, zero32, zero32, 0⟩⟩, A, l, d⟩
theorem bI_0 (A : Option Addr) (l : List TxR) (d : Nat) : bkC (bI zero32 A l d) = hdC noHd ++ [Value.slice A l.length d] := rfl
theorem bI_ok {w : World} {x : List UInt8} {A : Option Addr} {l : List TxR} {d : Nat} (hx : x.length = 32) (h : TxsOk w A l d) : BkOk w (bI x A l d) where
  h := ⟨.inl rfl, ⟨(fun y hy => (by cases hy)), hx, rfl, rfl, rfl, (by show 0 < _; omega)⟩, Nat.le_refl _, Nat.zero_le _⟩
  t := h
theorem bI_root {x : List UInt8} (hx : x.length = 32) (A : Option Addr) (l : List TxR) (d : Nat) :
    ((bkC (bI zero32 A l d)).toArray.toList.take 1 ++ (By x).toArray.toList ++ (bkC (bI zero32 A l d)).toArray.toList.drop (1 + (By x).toArray.size)).toArray = (bkC (bI x A l d)).toArray := by
  have e : (By x).toArray.size = 32 := by rw [List.size_toArray, By_length, hx]
  rw [e]
  simp only [List.toList_toArray]
  have e1 : (bkC (bI zero32 A l d)).take 1 = [.slice none 0 0] := rfl
  have e2 : (bkC (bI zero32 A l d)).drop (1 + 32) = By zero32 ++ (By zero32 ++ (By zero32 ++ [.int .u64 0])) ++ [.slice A l.length d] := rfl
  rw [e1, e2]
  simp [bkC, bI, hdC, tlC]
theorem mapI_nodup {l : List TxR} (h : l.map txP = (List.range 200).map pI) : (idsL l).Nodup := ids_nodup h
theorem notB_I {l : List TxR} {n : Nat} (h : l.map txP = (List.range n).map pI) : l.any notB = false := by
  rw [List.any_eq_false]
  intro t ht
  have hm : txP t ∈ (List.range n).map pI := by rw [← h]; exact List.mem_map_of_mem ht
  obtain ⟨i, _, hi⟩ := List.mem_map.1 hm
  have : checkT t = 0 := by rw [← checkT_up, ← hi]; exact pI_check i
  simp [notB, this]
theorem check_full {A : Option Addr} {l : List TxR} {d : Nat} (h : l.map txP = (List.range 200).map pI) : checkK (bI (rootL (idsL l)) A l d) = 0 := by
  have hl : l.length = 200 := by have := congrArg List.length h; simpa using this
  have e0 : mayH (bI (rootL (idsL l)) A l d).h.p = true := rfl
  have e1 : (bI (rootL (idsL l)) A l d).txs.any notB = false := notB_I h
  have e2 : decide ((bI (rootL (idsL l)) A l d).txs.length ≤ 200) = true := decide_eq_true (by show l.length ≤ 200; omega)
  have e3 : decide (idsL (bI (rootL (idsL l)) A l d).txs).Nodup = true := decide_eq_true (ids_nodup h)
  have e4 : (rootL (idsL (bI (rootL (idsL l)) A l d).txs) == (bI (rootL (idsL l)) A l d).h.p.rt) = true := beq_iff_eq.2 rfl
  unfold checkK
  rw [e0, e1, e2, e3, e4]
  rfl
theorem check_more {x : List UInt8} {A : Option Addr} {l : List TxR} {d : Nat} (h : l.map txP = (List.range 201).map pI) : checkK (bI x A l d) = 8 := by
  have hl : l.length = 201 := by have := congrArg List.length h; simpa using this
  have e0 : mayH (bI x A l d).h.p = true := rfl
  have e1 : (bI x A l d).txs.any notB = false := notB_I h
  have e2 : decide ((bI x A l d).txs.length ≤ 200) = false := decide_eq_false (by show ¬ l.length ≤ 200; omega)
  unfold checkK
  rw [e0, e1, e2]
  rfl
theorem check_twice {x : List UInt8} {A : Option Addr} {t : TxR} {d i : Nat} (h : txP t = pI i) : checkK (bI x A [t, t] d) = 7 := by
  have hc : checkT t = 0 := by rw [← checkT_up, h]; exact pI_check i
  have e0 : mayH (bI x A [t, t] d).h.p = true := rfl
  have e1 : (bI x A [t, t] d).txs.any notB = false := by show [t, t].any notB = false; simp [notB, hc]
  have e2 : decide ((bI x A [t, t] d).txs.length ≤ 200) = true := decide_eq_true (by show 2 ≤ 200; omega)
  have e3 : decide (idsL (bI x A [t, t] d).txs).Nodup = false := decide_eq_false (by
    show ¬ (idsL [t, t]).Nodup
    simp [idsL])
  unfold checkK
  rw [e0, e1, e2, e3]
  rfl
theorem check_none : checkK noBk = 11 := by
  have e4 : (rootL (idsL noBk.txs) == noBk.h.p.rt) = false := by
    show (rootL [] == zero32) = false
    rw [← rootL_nil]
    decide +kernel
  have e0 : mayH noBk.h.p = true := rfl
  have e1 : noBk.txs.any notB = false := rfl
  have e2 : decide (noBk.txs.length ≤ 200) = true := rfl
  have e3 : decide (idsL noBk.txs).Nodup = true := decide_eq_true (by show ([] : List (List UInt8)).Nodup; exact List.nodup_nil)
  unfold checkK
  rw [e0, e1, e2, e3, e4]
  rfl
theorem check_noT {x : List UInt8} {A : Option Addr} {d : Nat} : checkK (bI x A [noT] d) = 2 := by
  have e0 : mayH (bI x A [noT] d).h.p = true := rfl
  have e1 : (bI x A [noT] d).txs.any notB = true := by show [noT].any notB = true; decide
  unfold checkK
  rw [e0, e1]
  rfl
theorem noT1_ok {w : World} {g : Nat} (h : Blk w g 40 (txC noT).toArray) : TxsOk w (some ⟨g, 0, none⟩) [noT] 1 where
  s := SeesV.blk h
  each := fun t ht => by rw [List.mem_singleton.1 ht]; exact noT_ok w
  d := Nat.le_refl _
  m := by show 1 ≤ _; omega
set_option maxRecDepth 100000 in
theorem head_slice {w : World} {A : Option Addr} {l : List TxR} {c n : Nat} (hn : n ≤ l.length) (hc : l.length ≤ c) (hm : c ≤ maxLen) (h0 : 1 ≤ n) (k : TxsOk w A l c) :
    ∃ A1, TxsOk w A1 (l.take n) c ∧ ∀ wq, (Instr.slice 34 (.slice A l.length c) none (some (.int .i64 (n : Int))) none).run Tryd.prog wq = .ok (.slice A1 n c) wq := by
  obtain ⟨i0, hi0, hz0, hz1, hz2⟩ := infoP Tryd.txinf
  unfold maxLen at hm
  refine ⟨A.map (·.add (0 * 3)), ⟨?_, fun t ht => k.each t (List.mem_of_mem_take ht), by rw [List.length_take]; omega, by rw [List.length_take]; have := k.m; omega⟩, fun wq => ?_⟩
  · have h := (k.s.take (n * 3)).drop 0
    have e : (txsC l).take (n * 3) = txsC (l.take n) := by
      have e1 : txsC l = txsC (l.take n) ++ txsC (l.drop n) := by
        rw [txsC, txsC, txsC, ← List.flatten_append, ← List.map_append, List.take_append_drop]
      rw [e1, List.take_left']
      rw [txsC_len, List.length_take]
      congr 1
      omega
    rw [e] at h
    simpa using h
  · have hne : ¬ c = 0 := by omega
    simp [Instr.slice, hne, run_underlying Tryd.underlying34, Instr.sliceBounds, run_sliceBound wq .i64 (n : Int) c _ (by omega) (by omega), sizeOf, typeInfo, hi0, hz1]
/-- The row of transactions has grown by one. -/
theorem grow_I {w wr w8 : World} {k e1 : Nat} {l : List TxR} {A1 A8 : Option Addr} (hk : k < 201) (hv : Below w.heap.size w wr) (h : Kept (Older w.heap.size A1) wr (fun W => ∀ t ∈ l, TxOk W t))
    (ho : wr.ownsRow w.heap.size 40 3 (.slice A1 k e1) k (txsC l))
    (hg : (((wr.alloc (.cells (inC zI).toArray 94)).alloc (.cells (outC oI).toArray 37)).alloc (.cells (txC (tI wr.heap.size (wr.heap.size + 1) k)).toArray 40)).grownBy w8 (A1.map (·.block)))
    (hn : A8.map (·.block) = A1.map (·.block) ∨ A8.map (·.block) = some (wr.heap.size + 3)) :
    Kept (Older w.heap.size A8) w8 (fun W => ∀ t ∈ l ++ [tI wr.heap.size (wr.heap.size + 1) k], TxOk W t) ∧ Below w.heap.size w w8 := by
  have hol : ∀ j, A1.map (·.block) = some j → w.heap.size ≤ j ∧ j < wr.heap.size := fun j hj => own_lt ho j (by rw [own_blk]; exact hj)
  have hsz := hv.size
  have v7 : Below wr.heap.size wr (((wr.alloc (.cells (inC zI).toArray 94)).alloc (.cells (outC oI).toArray 37)).alloc (.cells (txC (tI wr.heap.size (wr.heap.size + 1) k)).toArray 40)) := nxAl (nxAl (nxAl (nxRf wr) _) _) _
  have b1 : Blk (((wr.alloc (.cells (inC zI).toArray 94)).alloc (.cells (outC oI).toArray 37)).alloc (.cells (txC (tI wr.heap.size (wr.heap.size + 1) k)).toArray 40)) wr.heap.size 94 (inC zI).toArray := ((show Blk (wr.alloc _) _ _ _ from heap_alloc_new wr _).alloc _).alloc _
  have b2 : Blk (((wr.alloc (.cells (inC zI).toArray 94)).alloc (.cells (outC oI).toArray 37)).alloc (.cells (txC (tI wr.heap.size (wr.heap.size + 1) k)).toArray 40)) (wr.heap.size + 1) 37 (outC oI).toArray := (show Blk ((wr.alloc (.cells (inC zI).toArray 94)).alloc (.cells (outC oI).toArray 37)) (wr.heap.size + 1) 37 (outC oI).toArray from Blk.second wr _ _ _).alloc _
  obtain ⟨w7, hw7⟩ : ∃ W, (((wr.alloc (.cells (inC zI).toArray 94)).alloc (.cells (outC oI).toArray 37)).alloc (.cells (txC (tI wr.heap.size (wr.heap.size + 1) k)).toArray 40)) = W := ⟨_, rfl⟩
  have s7 : w7.heap.size = wr.heap.size + 3 := by rw [← hw7]; simp
  rw [hw7] at hg v7 b1 b2
  clear hw7
  have s8 := hg.size
  have kr : Keeps (Older w.heap.size A1) wr w8 := ⟨hg.os.trans v7.os, hg.tape.trans v7.tape, hg.output.trans v7.output, by omega, fun b hb hx => (hg.block b (by omega) (fun e => hx (.inr e.symm))).trans (v7.block b hb)⟩
  have c1 : Blk w8 wr.heap.size 94 (inC zI).toArray := b1.of_eq (hg.block _ (by omega) (fun e => by have := (hol _ e.symm).2; omega))
  have c2 : Blk w8 (wr.heap.size + 1) 37 (outC oI).toArray := b2.of_eq (hg.block _ (by omega) (fun e => by have := (hol _ e.symm).2; omega))
  refine ⟨fun W hW t ht => ?_, ?_⟩
  · rcases List.mem_append.1 ht with ht | ht
    · refine (h.step kr (S' := Older w.heap.size A8) (fun b hb hx => ?_)) W hW t ht
      rcases hx with hx | hx
      · exact .inl hx
      · rcases hn with hn | hn
        · exact .inr (hn ▸ hx)
        · rw [hn] at hx; injection hx with hx; omega
    · rw [List.mem_singleton.1 ht]
      have hno : ∀ b, wr.heap.size ≤ b → b < wr.heap.size + 3 → ¬ Older w.heap.size A8 b := fun b h1 h2 hx => by
        rcases hx with hx | hx
        · omega
        · rcases hn with hn | hn
          · rw [hn] at hx; have := (hol b hx).2; omega
          · rw [hn] at hx; injection hx with hx; omega
      exact tI_ok hk (c1.of_eq (hW.block _ (by omega) (hno _ (by omega) (by omega)))) (c2.of_eq (hW.block _ (by omega) (hno _ (by omega) (by omega))))
  · exact ⟨hg.os.trans (v7.os.trans hv.os), hg.tape.trans (v7.tape.trans hv.tape), hg.output.trans (v7.output.trans hv.output), by omega, fun b hb => (hg.block b (by omega) (fun e => by have := (hol b e.symm).1; omega)).trans ((v7.block b (by omega)).trans (hv.block b hb))⟩
end Go.Proofs.YtpfjkjogljilnaaDoor
