/-
  TxBounds: what the walk wants: parts that are written out, rows that grow, Out.
-/
import Derived.Test.YtjcbihdhkaiidaaTrA
namespace Go.Proofs.Ytjcbihdhkaiidaa
open Go.RowKit

theorem part_pt (n : Int) (wq : World) : (Instr.build 41 #[(1, .int .u32 n)]).run Try.prog wq = .ok (.agg (By zero32 ++ [Value.int .u32 n]).toArray) wq := by kernel_rfl
theorem part_in0 (n : Int) (wq : World) : (Instr.build 44 #[(0, .agg (By zero32 ++ [Value.int .u32 n]).toArray)]).run Try.prog wq = .ok (.agg (By zero32 ++ [Value.int .u32 n, .slice none 0 0]).toArray) wq := by kernel_rfl
theorem part_in1 (A : Option Addr) (n c : Nat) (wq : World) : (Instr.build 44 #[(1, .slice A n c)]).run Try.prog wq = .ok (.agg (By zero32 ++ [Value.int .u32 0, .slice A n c]).toArray) wq := by kernel_rfl
theorem part_in2 (k : Int) (A : Option Addr) (n c : Nat) (wq : World) : (Instr.build 44 #[(0, .agg (By zero32 ++ [Value.int .u32 k]).toArray), (1, .slice A n c)]).run Try.prog wq = .ok (.agg (By zero32 ++ [Value.int .u32 k, .slice A n c]).toArray) wq := by kernel_rfl
theorem part_out (n : Int) (wq : World) : (Instr.build 46 #[(0, .int .u64 n)]).run Try.prog wq = .ok (.agg (Value.int .u64 n :: By zero32).toArray) wq := by kernel_rfl
theorem part_hash (wq : World) : (Instr.build 24 #[]).run Try.prog wq = .ok (.agg (By zero32).toArray) wq := by kernel_rfl
theorem part_tx (wq : World) : (Instr.build 37 #[]).run Try.prog wq = .ok (.agg txZ) wq := by kernel_rfl
theorem part_tx2 (A B : Option Addr) (n c m d : Nat) (wq : World) : (Instr.build 37 #[(0, .slice A n c), (1, .slice B m d)]).run Try.prog wq = .ok (.agg #[.slice A n c, .slice B m d, .int .u64 0]) wq := by kernel_rfl
theorem yieldsIf_build1 {P : Program} {ops : Array Oper} {S : World → Prop} {o : Oper} {a : Act} (hw : Region.wanted o (yielded ops a.tmps) = true) (t : TypeId) (j : Nat) (x : Operand) (ho : o.op = .build t #[(j, x)])
    (vx v : Value) (hx : a.eval x = vx) (hr : ∀ wq, (Instr.build t #[(j, vx)]).run P wq = .ok v wq) : YieldsIf P ops S o v a :=
  .inl ⟨hw, fun w _ => by
    unfold execOp
    have e : (#[(j, x)].map fun (p : Nat × Operand) => (p.1, a.eval p.2)) = #[(j, vx)] := by simp [hx]
    simp only [ho, e, Sem.run_bind, hr, Result.andThen_ok]
    rfl⟩
theorem wpList_build1 {P : Program} {ops : Array Oper} {rest : List Oper} {o : Oper} {a : Act} {w : World} {Q : Exit → Act → World → Prop} (hg : o.guard = none) (t : TypeId) (j : Nat) (x : Operand) (ho : o.op = .build t #[(j, x)])
    (vx v : Value) (hx : a.eval x = vx) (hr : ∀ wq, (Instr.build t #[(j, vx)]).run P wq = .ok v wq) (h : wpList P ops Q rest (a.put o.dst v) w) : wpList P ops Q (o :: rest) a w := by
  refine wpList_plain hg fun _ hK => ?_
  unfold Oper.wp execOp
  have e : (#[(j, x)].map fun (p : Nat × Operand) => (p.1, a.eval p.2)) = #[(j, vx)] := by simp [hx]
  simp only [ho, e, Sem.run_bind, hr, Result.andThen_ok]
  exact hK _ _ h
theorem wpList_build0 {P : Program} {ops : Array Oper} {rest : List Oper} {o : Oper} {a : Act} {w : World} {Q : Exit → Act → World → Prop} (hw : Region.wanted o (yielded ops a.tmps) = true) (t : TypeId) (ho : o.op = .build t #[])
    (v : Value) (hr : ∀ wq, (Instr.build t #[]).run P wq = .ok v wq) (h : wpList P ops Q rest (a.put o.dst v) w) : wpList P ops Q (o :: rest) a w := by
  refine wpList_step fun _ hK => ?_
  rw [if_pos hw]
  unfold Oper.wp execOp
  have e : ((#[] : Array (Nat × Operand)).map fun (p : Nat × Operand) => (p.1, a.eval p.2)) = #[] := by simp
  simp only [ho, e, Sem.run_bind, hr, Result.andThen_ok]
  exact hK _ _ h
def nulls (n : Nat) : List UInt8 := List.replicate n 0
theorem make_256 (w : World) : (Instr.makeSlice 42 (.int .i64 256) (.int .i64 256)).run Try.prog w = .ok (.slice (some ⟨w.heap.size, 0, none⟩) 256 256) (w.alloc (.cells (By (nulls 256)).toArray 5)) := by kernel_rfl
theorem make_257 (w : World) : (Instr.makeSlice 42 (.int .i64 257) (.int .i64 257)).run Try.prog w = .ok (.slice (some ⟨w.heap.size, 0, none⟩) 257 257) (w.alloc (.cells (By (nulls 257)).toArray 5)) := by kernel_rfl

/-! the rows -/
def bI (i : Nat) : List UInt8 × Nat × List UInt8 := (zero32, i, nulls 256)
def bO : OutR := ⟨17592186044416, zero32⟩
def wP : TxP := ⟨[(zero32, 0, nulls 257)], List.replicate 64 bO, 0⟩
theorem wP_check : checkT wP.up = 2 := by decide +kernel
theorem tP_out : amtV (List.replicate 64 bO) = 1125899906842624 := by decide +kernel
theorem check_of {t : TxR} {p : TxP} {z : Int} (h : txP t = p) (hp : checkT p.up = z) : checkT t = z := by rw [← checkT_up, h, hp]

/-! Out -/
/-- Out's answer. -/
def outT (t : TxR) : Nat := bif checkT t == 0 then amtV t.outs else 0
/-! rows that grow into new memory -/
theorem below_grown {w w' : World} (h : w.grownBy w' none) : Below w.heap.size w w' := ⟨h.os, h.tape, h.output, h.size, fun k hk => h.block k hk (by simp)⟩
/-- What is appended to a row that is full lies in a new block. -/
theorem step_append_full {P : Program} {w : World} {ops : Array Oper} {o : Oper} {a : Act} {K : Act → World → Prop} {Q : Exit → Act → World → Prop} {E : Prop} (hgd : o.guard = none) (s x : Operand) (t : TypeId)
    (ho : o.op = .call { callee := .builtin .append, args := #[s, x], argTypes := #[t, t] })
    (e : TypeId) (i : TypeInfo) (z : Value) (size bytes : Nat) (ht : P.underlying t = some (.slice e)) (hi : P.info? e = some i) (hz : i.zero = some z)
    (hsize : i.size = size) (hby : i.bytes = bytes) (hzs : z.cells.size = size) (hsz : 0 < size)
    (A : Option Addr) (n cap B : Nat) (xs : List Value) (hs : a.eval s = .slice A n cap) (hn : xs.length = n * size) (hss : SeesV w B A xs) (h0 : 0 < n)
    (B2 : Nat) (A2 : Option Addr) (m c : Nat) (vs : List Value) (hx : a.eval x = .slice A2 m c) (hm : vs.length = m * size) (hse : SeesV w B2 A2 vs) (h2 : 0 < m) (hg : cap < n + m) (h63 : n + m ≤ 140737488355328) (hbytes : (n + m) * bytes ≤ 140737488355328)
    (h : ∀ A' c' w', w'.ownsRow w.heap.size e size (.slice A' (n + m) c') (n + m) (xs ++ vs) → Below w.heap.size w w' → K (a.put o.dst (.slice A' (n + m) c')) w') :
    if Region.wanted o (yielded ops a.tmps) = true then Oper.wp P o a w K Q else E := by
  have hw : Region.wanted o (yielded ops a.tmps) = true := by simp [Region.wanted, hgd]
  rw [if_pos hw]
  have p0 : 0 < xs.length := by rw [hn]; exact Nat.mul_pos h0 hsz
  have p2 : 0 < vs.length := by rw [hm]; exact Nat.mul_pos h2 hsz
  obtain ⟨b, off, rfl, _, hc⟩ := hss.at_ p0
  obtain ⟨b2, off2, rfl, _, hc2⟩ := hse.at_ p2
  obtain ⟨v', w', hr, q2, q3⟩ := run_append_arg_grows (P := P) w t o.type e i z size bytes ht hi hz hsize hby hzs hsz ⟨b, off, none⟩ n cap xs hn
    (fun j u hu => by obtain ⟨hj, hu'⟩ := List.getElem?_eq_some_iff.1 hu; rw [Addr.add_lit, hc j hj, hu']) ⟨b2, off2, none⟩ m c vs hm
    (fun j u hu => by obtain ⟨hj, hu'⟩ := List.getElem?_eq_some_iff.1 hu; rw [Addr.add_lit, hc2 j hj, hu']) hg (by unfold maxLen; omega) hbytes
  obtain ⟨A', c', rfl⟩ := own_form q2
  unfold Oper.wp execOp
  simp only [ho, resolve, invoke, builtin, Sem.run_bind, Sem.run_pure, Result.andThen_ok, List.map_toArray, List.map_cons, List.map_nil, hs, hx, hr]
  exact h A' c' w' q2 (below_grown q3)
end Go.Proofs.Ytjcbihdhkaiidaa
