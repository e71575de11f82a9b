/-
  block, the document's: SameHeader. · block: rows of noughts, and the law's num and known.
-/
import Derived.Test.YtpfjkjogljilnaaDoorBk0
import Derived.Test.YtpfjkjogljilnaaDoorEq
import Derived.Test.YtpfjkjogljilnaaDoorTxF0
import Derived.Test.YtpfjkjogljilnaaDoorBk3
import Derived.Test.YtpfjkjogljilnaaDoorTr1
namespace Go.Proofs.YtpfjkjogljilnaaDoor
open Go.RowKit

theorem neq_hashes (x y : List UInt8) (hx : x.length = 32) (hy : y.length = 32) (z : Bool) (hz : (x == y) = z) (wq : World) : (binOp .neq 24 (.agg (By x).toArray) (.agg (By y).toArray)).run Tryd.prog wq = .ok (.bool (!z)) wq := by
  rw [run_neq_bytes 32 24 5 Tryd.underlying24 Tryd.underlying5 Tryd.u8sz x y hx hy, hz]
theorem nxDr6 {w W : World} (h : Below w.heap.size w W) (n : Nat) : Below w.heap.size w (W.drewN n) := ⟨h.os, h.tape, h.output, h.size, h.block⟩
theorem hdp_ne {p q : HdP} (h : ¬ (p.ps = q.ps ∧ p.rt = q.rt ∧ p.ac = q.ac ∧ p.co = q.co ∧ p.mi = q.mi ∧ p.nonce = q.nonce)) : decide (p = q) = false := by
  apply decide_eq_false
  intro e
  subst e
  exact h ⟨rfl, rfl, rfl, rfl, rfl, rfl⟩
theorem hdp_eq {p q : HdP} (h0 : p.ps = q.ps) (h1 : p.rt = q.rt) (h2 : p.ac = q.ac) (h3 : p.co = q.co) (h4 : p.mi = q.mi) (h5 : p.nonce = q.nonce) : decide (p = q) = true := by
  apply decide_eq_true
  cases p; cases q
  simp_all

end Go.Proofs.YtpfjkjogljilnaaDoor
namespace Go.Proofs.YtpfjkjogljilnaaDoor
open Go.RowKit

theorem zero_by : By zero32 = List.replicate 32 (Value.int .u8 0) := rfl
def noHd0 : HdR := ⟨none, 0, ⟨[], zero32, zero32, zero32, zero32, 0⟩⟩
theorem zero_at (j : Nat) (h : j < 32) : (By zero32).toArray[j]! = .int .u8 0 := by
  rw [zero_by, getElem!_pos _ j (by rw [List.size_toArray, List.length_replicate]; exact h), List.getElem_toArray, List.getElem_replicate]
theorem zero_rep (m : Nat) : By (List.replicate m (0 : UInt8)) = List.replicate m (.int .u8 0) := by simp [By]
theorem zeros_flat (n : Nat) : (List.replicate n zero32).flatten = List.replicate (n * 32) (0 : UInt8) := by
  have e : zero32 = List.replicate 32 (0 : UInt8) := rfl
  rw [e]
  exact List.flatten_replicate_replicate
theorem zero_cells (n : Nat) : madeCells (By zero32).toArray (n * 32) = (Hs (List.replicate n zero32)).toArray := by
  rw [Hs, zeros_flat, zero_rep]
  apply Array.ext
  · rw [size_madeCells]; simp
  · intro i h1 h2
    have h3 : (By zero32).toArray.size = 32 := rfl
    simp only [madeCells, Array.getElem_map, Array.getElem_range, h3]
    rw [zero_at _ (Nat.mod_lt _ (by omega))]
    simp
/-- make of a row of so many hashes of noughts. -/
theorem make_zeros (n : Nat) (hn : n ≤ 1048577) (h0 : 1 ≤ n) (wq : World) :
    (Instr.makeSlice 22 (.int .i64 (n : Int)) (.int .i64 (n : Int))).run Tryd.prog wq = .ok (.slice (some ⟨wq.heap.size, 0, none⟩) n n) (wq.alloc (.cells (Hs (List.replicate n zero32)).toArray 24)) := by
  obtain ⟨i0, hi, hz0, hz1, hz2⟩ := info_parts Tryd.hinfo
  have h := run_make (P := Tryd.prog) wq 22 24 i0 _ Tryd.underlying22 hi hz0 .i64 .i64 (n : Int) (n : Int) (by omega) (by omega) (by rw [hz2]; omega) (by omega)
  rw [hz1] at h
  have e : (Value.agg (By zero32).toArray).cells = (By zero32).toArray := rfl
  rw [e] at h
  simp only [Int.toNat_natCast] at h
  rw [zero_cells] at h
  exact h
theorem all_zeros (n : Nat) : All32 (List.replicate n zero32) := fun x hx => by rw [List.eq_of_mem_replicate hx]; rfl
/-- A header of so many parents that are noughts, and all else noughts. -/
def hdOf (b n : Nat) : HdR := ⟨some ⟨b, 0, none⟩, n, ⟨List.replicate n zero32, zero32, zero32, zero32, zero32, 0⟩⟩
theorem hdOf_ok {w : World} {b n : Nat} (h : Blk w b 24 (Hs (List.replicate n zero32)).toArray) (hn : n ≤ 1000) : HdOk w (hdOf b n) where
  s := SeesV.blk h
  f := ⟨all_zeros n, rfl, rfl, rfl, rfl, by show 0 < _; omega⟩
  c := by show (List.replicate n zero32).length ≤ n; simp
  m := by show (List.replicate n zero32).length ≤ _; rw [List.length_replicate]; omega
theorem fill_first (place : Nat → Option (Nat × Nat)) (x : Value) (r : List Value) (v : Value) (hv : v.cells = #[v]) (hp : place 0 = some (0, 1)) :
    Instr.fill place (x :: r).toArray [(0, v)] = some (v :: r).toArray := by
  have h := foldl_set 0 [v] 0 (x :: r) (by simp)
  simp only [Nat.add_zero] at h
  unfold Instr.fill
  simp only [hv, hp, List.size_toArray]
  rw [if_neg (by simp)]
  unfold Instr.fill
  simp
theorem Tryd.hdinfo : (Tryd.prog.info? 27).map (fun i => (i.zero, i.size, i.bytes)) = some (some (.agg (hdC noHd0).toArray), 130, 160) := by kernel_rfl
theorem build_hd (A : Option Addr) (n c : Nat) (wq : World) : (Instr.build 27 #[(0, .slice A n c)]).run Tryd.prog wq = .ok (.agg (.slice A n c :: (hdC noHd0).tail).toArray) wq := by
  obtain ⟨i0, hi, hz, _, _⟩ := info_parts Tryd.hdinfo
  refine run_build wq _ _ _ ?_
  rw [built_struct hi hz Tryd.underlying27 (places := [(0, 1), (1, 32), (33, 32), (65, 32), (97, 32), (129, 1)]) (by kernel_rfl)]
  exact fill_first ([(0, 1), (1, 32), (33, 32), (65, 32), (97, 32), (129, 1)].toArray[·]?) (.slice none 0 0) (tlC noHd0.p) (.slice A n c) rfl rfl
theorem build_hdOf (b n : Nat) (wq : World) : (Instr.build 27 #[(0, .slice (some ⟨b, 0, none⟩) n n)]).run Tryd.prog wq = .ok (.agg (hdC (hdOf b n)).toArray) wq := by
  rw [build_hd]
  have e : Value.slice (some ⟨b, 0, none⟩) n n :: (hdC noHd0).tail = hdC (hdOf b n) := by
    show _ = Value.slice _ (List.replicate n zero32).length n :: _
    rw [List.length_replicate]; rfl
  rw [e]
theorem wpList_build1 {P : Program} {ops : Array Oper} {rest : List Oper} {o : Oper} {a : Act} {w : World} {Q : Exit → Act → World → Prop} (hg : o.guard = none) (t : TypeId) (x : Operand) (ho : o.op = .build t #[(0, x)])
    (u v : Value) (hx : a.eval x = u) (hr : ∀ wq, (Instr.build t #[(0, u)]).run P wq = .ok v wq) (h : wpList P ops Q rest (a.put o.dst v) w) : wpList P ops Q (o :: rest) a w := by
  refine wpList_plain hg fun _ hK => ?_
  unfold Oper.wp execOp
  simp only [ho, List.map_toArray, List.map_cons, List.map_nil, hx, Sem.run_bind, Sem.run_pure, Result.andThen_ok, hr]
  exact hK _ _ h
theorem num6_any (w : World) (n : Int) : Calls Tryd.prog 9 #[.int .i64 n] w fun e w' => e = .returned (.int .i64 n) ∧ w' = w := by
  go_enter Tryd.func9, Tryd.ntmps9
  go_wp2
  go_ret
  exact ⟨rfl, rfl⟩
set_option maxHeartbeats 1000000 in
set_option maxRecDepth 100000 in
theorem known6_any (w : World) : Calls Tryd.prog 12 #[] w fun e w' => e = .returned (.bool true) ∧ Below w.heap.size w w' := by
  have hmk : ∀ wq : World, (Instr.makeSlice 22 (.int .i64 1) (.int .i64 1)).run Tryd.prog wq = .ok (.slice (some ⟨wq.heap.size, 0, none⟩) 1 1) (wq.alloc (.cells (Hs (List.replicate 1 zero32)).toArray 24)) := make_zeros 1 (by omega) (by omega)
  have hbd : ∀ wq : World, (Instr.build 27 #[(0, .slice (some ⟨w.heap.size, 0, none⟩) 1 1)]).run Tryd.prog wq = .ok (.agg (hdC (hdOf w.heap.size 1)).toArray) wq := build_hdOf w.heap.size 1
  have hk : HdOk (w.alloc (.cells (Hs (List.replicate 1 zero32)).toArray 24)) (hdOf w.heap.size 1) := hdOf_ok (heap_alloc_new w (.cells (Hs (List.replicate 1 zero32)).toArray 24)) (by omega)
  have HK := Lib.hid hk
  have HL : Hid ((packH (hdOf w.heap.size 1).p).length = 170) := by show _ = _; rw [packH_len hk.f]; rfl
  clear hk
  have Hb : Hid (Below w.heap.size w (w.alloc (.cells (Hs (List.replicate 1 zero32)).toArray 24))) := nxAl (nxRf w) _
  obtain ⟨h0, hh0⟩ : ∃ h0, hdOf w.heap.size 1 = h0 := ⟨_, rfl⟩
  have HM : Hid (mayH (hdOf w.heap.size 1).p = true) := rfl
  rw [hh0] at hbd HK HL HM
  obtain ⟨W, hW⟩ : ∃ W, w.alloc (.cells (Hs (List.replicate 1 zero32)).toArray 24) = W := ⟨_, rfl⟩
  have hmk1 := hmk w
  rw [hW] at hmk1 HK Hb
  have HBd := Lib.hid hbd
  clear hmk hW hh0 hbd
  go_enter Tryd.func12, Tryd.ntmps12
  go_wp2_with (first
    | ((with_reducible show wpList _ _ _ (⟨some 5, _, _, _, _, _⟩ :: _) _ _); refine wpList_build1 rfl 27 (.tmp 4) rfl (.slice (some ⟨w.heap.size, 0, none⟩) 1 1) (.agg (hdC h0).toArray) rfl HBd.out ?_)
    | (go_at_call 4; refine (hbytes_yes W h0 HK.out HM.out).mono ?_; unfold HBytesPost; rw [HL.out]; rintro e w2 ⟨⟨A, c, B0, rfl, hB0, ho⟩, hb2⟩; have Hb2 : Hid (Below w.heap.size w w2) := nxTr Hb.out hb2; clear hB0 ho hb2)
    | (go_at_call 9; refine (num6_any _ _).mono ?_; rintro e w3 ⟨rfl, hw3⟩; subst hw3))
  go_ret
  exact ⟨rfl, Hb2.out⟩
end Go.Proofs.YtpfjkjogljilnaaDoor
