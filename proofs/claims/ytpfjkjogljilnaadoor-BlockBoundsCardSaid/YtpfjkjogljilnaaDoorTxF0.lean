/-
  What the laws' walks over transactions want: conversions, a hash beside itself, a row of one transaction.
-/
import Derived.Test.YtpfjkjogljilnaaDoorTxE
import Derived.Test.YtpfjkjogljilnaaDoorPBbQ5
import Derived.Test.YtpfjkjogljilnaaDoorEq
import Derived.Test.YtpfjkjogljilnaaDoorPBbQ0
namespace Go.Proofs.YtpfjkjogljilnaaDoor
open Go.RowKit

theorem step_conv {P : Program} {w : World} {ops : Array Oper} {o : Oper} {a : Act} {K : Act → World → Prop} {Q : Exit → Act → World → Prop} {E : Prop} (hgd : o.guard = none) (x : Operand) (t1 t2 : TypeId) (ho : o.op = .convert t1 t2 x) (u v : Value) (hx : a.eval x = u)
    (hr : (convert t1 t2 u).run P w = .ok v w) (h : K (a.put o.dst v) w) : if Region.wanted o (yielded ops a.tmps) = true then Oper.wp P o a w K Q else E := by
  have hw : Region.wanted o (yielded ops a.tmps) = true := by simp [Region.wanted, hgd]
  rw [if_pos hw]
  unfold Oper.wp execOp
  simp only [ho, hx, Sem.run_bind, Sem.run_pure, Result.andThen_ok, hr]
  exact h
theorem Tryd.u8sz : (Tryd.prog.info? 5).map (·.size) = some 1 := by kernel_rfl
theorem nxDrI {n : Nat} {w w1 : World} (h : Below n w w1) : Below n w w1.drew := ⟨h.os, h.tape, h.output, h.size, h.block⟩
theorem nxUd {w w1 : World} (h : Below w.drew.heap.size w.drew w1) : Below w.heap.size w w1 := ⟨h.os, h.tape, h.output, h.size, h.block⟩
theorem neq_hash (l : List UInt8) (hl : l.length = 32) (wq : World) : (binOp .neq 24 (.agg (By l).toArray) (.agg (By l).toArray)).run Tryd.prog wq = .ok (.bool false) wq := by
  rw [run_neq_bytes 32 24 5 Tryd.underlying24 Tryd.underlying5 Tryd.u8sz l l hl hl, beq_self_eq_true]; rfl

theorem Tryd.txinf : (Tryd.prog.info? 40).map (fun i => (i.zero, i.size, i.bytes)) = some (some (.agg #[.slice none 0 0, .slice none 0 0, .int .u64 0]), 3, 56) := by kernel_rfl
theorem fill_tx (t : TxR) : Instr.fill (fun i => some (i * 3, 3)) ((Array.range (1 * 3)).map ((Value.agg #[.slice none 0 0, .slice none 0 0, .int .u64 0]).cells[· % (Value.agg #[.slice none 0 0, .slice none 0 0, .int .u64 0]).cells.size]!)) [(0, .agg (txC t).toArray)] = some (txC t).toArray := by
  have hf := fill_one 3 ((Array.range (1 * 3)).map ((Value.agg #[.slice none 0 0, .slice none 0 0, .int .u64 0]).cells[· % (Value.agg #[.slice none 0 0, .slice none 0 0, .int .u64 0]).cells.size]!)).toList (txC t) (by simp) rfl
  rw [Array.toArray_toList] at hf
  exact hf
theorem wpList_build_tx {ops : Array Oper} {rest : List Oper} {o : Oper} {a : Act} {w : World} {Q : Exit → Act → World → Prop} (hg : o.guard = none) (x : Operand) (ho : o.op = .buildSlice 34 1 #[(0, x)])
    (t : TxR) (hx : a.eval x = .agg (txC t).toArray)
    (h : wpList Tryd.prog ops Q rest (a.put o.dst (.slice (some ⟨w.heap.size, 0, none⟩) 1 1)) (w.alloc (.cells (txC t).toArray 40))) : wpList Tryd.prog ops Q (o :: rest) a w := by
  obtain ⟨i0, hi, hz0, hz1, hz2⟩ := info_parts Tryd.txinf
  refine wpList_buildSlice hg 34 40 1 #[(0, x)] ho (txC t).toArray i0 _ Tryd.underlying34 hi hz0 (by rw [hz1]; omega) (by rw [hz1]; omega) ?_ h
  rw [hz1]
  have e : (#[(0, x)].map fun (p : Nat × Operand) => (p.1, a.eval p.2)).toList = [(0, .agg (txC t).toArray)] := by simp [hx]
  have hf := fill_tx t
  rw [← e] at hf
  exact hf

end Go.Proofs.YtpfjkjogljilnaaDoor
