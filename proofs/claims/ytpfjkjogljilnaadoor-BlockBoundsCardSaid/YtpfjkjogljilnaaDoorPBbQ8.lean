/-
  tx: the document's Same.
  block, the document's Same.
  A load of a whole array behind a guard, in a region that draws no order; a whole block stored into, in one that draws.
-/
import Derived.Test.YtpfjkjogljilnaaDoorTr3
import Derived.Test.YtpfjkjogljilnaaDoorEq
import Derived.Test.YtpfjkjogljilnaaDoorBkB
import Derived.Test.YtpfjkjogljilnaaDoorBk7
import Derived.Test.YtpfjkjogljilnaaDoorChecked
import Derived.Test.YtpfjkjogljilnaaDoorCopy
import Derived.Deep.MidRow
namespace Go.Proofs.YtpfjkjogljilnaaDoor
open Go.RowKit Go.Maps

/-! two outputs, two outpoints compared -/
theorem Tryd.rowOu : (37 : TypeId) < Tryd.prog.types.size := of_decide_eq_true (by kernel_rfl)
theorem Tryd.wideOu : (match Tryd.prog.underlying 37 with | some (.array _ _) | some (.struct _) => true | _ => false) = true := by rw [Tryd.underlying37]
set_option maxRecDepth 100000 in
theorem ouLaw : Keyed Tryd.prog 37 := Keyed.of_law (deep_law_laid Tryd.laidO (m := 3) (by omega) Tryd.rowOu (by kernel_rfl) Tryd.wideOu)
theorem Tryd.ouKeyType : Tryd.prog.keyType 37 = true := by kernel_rfl
theorem Tryd.cellsOu : Tryd.prog.cellsOf 37 = 33 := by kernel_rfl
theorem Tryd.cellsU6 : Tryd.prog.cellsOf 25 = 1 := by kernel_rfl
def ouLits (o : OutR) : List Lit := Lit.int .u64 (o.amt : Int) :: (o.lock.map fun x => Lit.int .u8 (x.toNat : Int))
def ouKey (o : OutR) : Lit := .string (keyBytes (ouLits o))
theorem keyLits_u64 (d n : Nat) (h : n < 18446744073709551616) : Tryd.prog.keyLits (d + 1) 25 [.int .u64 (n : Int)] = some [.int .u64 (n : Int)] := by
  unfold Program.keyLits
  rw [Tryd.underlying25]
  have hw : (Lit.int .u64 (n : Int)).wf = true := by
    show (decide ((0 : Int) ≤ (n : Int)) && decide ((n : Int) ≤ 18446744073709551615)) = true
    rw [Bool.and_eq_true]
    exact ⟨decide_eq_true (by omega), decide_eq_true (by omega)⟩
  simp [hw]
set_option maxRecDepth 100000 in
theorem keyLits_ou (d : Nat) {o : OutR} (h : OutOk o) : Tryd.prog.keyLits (d + 3) 37 (outC o) = some (ouLits o) := by
  unfold Program.keyLits
  rw [Tryd.underlying37]
  have e1 : ((outC o).drop 0).take 1 = [.int .u64 (o.amt : Int)] := rfl
  have e2 : ((outC o).tail).take 32 = By o.lock := by show (By o.lock).take 32 = _; rw [List.take_of_length_le (by rw [By_length, h.lock]; omega)]
  simp [Tryd.cellsOu, outC_len h.lock, Tryd.cellsH, Tryd.cellsU6, List.mapM_cons]
  rw [List.drop_zero] at e1
  rw [e1, e2, keyLits_hash d h.lock, keyLits_u64 (d + 1) o.amt h.amt]
  simp [ouLits]
set_option maxRecDepth 100000 in
theorem keyOf_ou {o : OutR} (h : OutOk o) : keyOf Tryd.prog 37 (.agg (outC o).toArray) = some (ouKey o) := by
  unfold keyOf
  rw [Tryd.underlying37]
  have hf : Value.formed Tryd.prog 37 (.agg (outC o).toArray) = true := by
    unfold Value.formed
    rw [Tryd.underlying37, Tryd.cellsOu]
    simp [outC_len h.lock]
  obtain ⟨d, hd⟩ : ∃ d, Tryd.prog.types.size + 1 = d + 3 := ⟨Tryd.prog.types.size - 2, by have := of_decide_eq_true Tryd.manyTypes; omega⟩
  have e : (Value.agg (outC o).toArray).cells.toList = outC o := rfl
  rw [hd]
  simp only [Tryd.ouKeyType, hf, Bool.and_self, if_true, e, keyLits_ou d h, Option.map_some]
  rfl
set_option maxRecDepth 100000 in
theorem ouKey_inj {x y : OutR} (hx : OutOk x) (hy : OutOk y) : ouKey x = ouKey y ↔ x = y := by
  constructor
  · intro e
    have h1 := keyOf_ou hx
    have h2 := keyOf_ou hy
    rw [e] at h1
    have h3 := ouLaw.inj h1 h2
    have h4 : outC x = outC y := congrArg (fun v : Value => v.cells.toList) h3
    unfold outC at h4
    injection h4 with h5 h6
    have h7 : x.lock = y.lock := By_inj h6
    have h8 : x.amt = y.amt := by
      have h9 : (x.amt : Int) = (y.amt : Int) := congrArg backI h5
      omega
    cases x; cases y
    simp only [OutR.mk.injEq]
    exact ⟨h8, h7⟩
  · intro e; rw [e]
set_option maxRecDepth 100000 in
theorem neq_ou {x y : OutR} (hx : OutOk x) (hy : OutOk y) : ∃ z : Bool, (z = false ↔ x = y) ∧ ∀ wq, (binOp .neq 37 (.agg (outC x).toArray) (.agg (outC y).toArray)).run Tryd.prog wq = .ok (.bool z) wq := by
  obtain ⟨r, hr, hiff⟩ := run_equal_deep (P := Tryd.prog) default (m := 3) (by omega) (k := 37) (by kernel_rfl) Tryd.wideOu (keyOf_ou hx) (keyOf_ou hy)
  refine ⟨!r, by rw [← ouKey_inj hx hy, ← hiff]; cases r <;> simp, fun wq => ?_⟩
  obtain ⟨r2, hr2, hiff2⟩ := run_equal_deep (P := Tryd.prog) wq (m := 3) (by omega) (k := 37) (by kernel_rfl) Tryd.wideOu (keyOf_ou hx) (keyOf_ou hy)
  have e : r2 = r := by rw [Bool.eq_iff_iff, hiff2, hiff]
  rw [run_neq_struct]
  have hr' : (Op.equalIn 10000 37 (.agg (outC x).toArray) (.agg (outC y).toArray)).run Tryd.prog wq = .ok r2 wq := hr2
  rw [hr', e]
  rfl
set_option maxRecDepth 100000 in
theorem neq_pt {a b : InR} (ha : a.id.length = 32 ∧ a.n < 4294967296) (hb : b.id.length = 32 ∧ b.n < 4294967296) (wq : World) : (binOp .neq 92 (.agg (ptC a).toArray) (.agg (ptC b).toArray)).run Tryd.prog wq = .ok (.bool (!(pt a == pt b))) wq := by
  obtain ⟨r, hr, hiff⟩ := run_equal_deep (P := Tryd.prog) wq (m := 3) (by omega) (k := 92) (by kernel_rfl) Tryd.widePt (keyOf_pt ha.1 ha.2) (keyOf_pt hb.1 hb.2)
  have e : r = (pt a == pt b) := by
    rw [Bool.eq_iff_iff, hiff, ptKey_inj ha.1 hb.1 ha.2 hb.2]
    exact beq_iff_eq.symm
  rw [run_neq_struct]
  have hr' : (Op.equalIn 10000 92 (.agg (ptC a).toArray) (.agg (ptC b).toArray)).run Tryd.prog wq = .ok r wq := hr
  rw [hr', e]
  rfl
theorem Str_inj {a b : List UInt8} (h : Str a = Str b) : a = b := by
  have := congrArg (fun s : ByteArray => s.data.toList) h
  simpa [Str] using this
theorem same_not {t u : TxR} {z : Bool} (hz : z = false) (h : txP t ≠ txP u) : z = true ↔ txP t = txP u := ⟨fun e => (by rw [hz] at e; cases e), fun e => absurd e h⟩

/-- What Same answers. -/
def SamePost (w : World) (t u : TxR) (e : Ending) (w' : World) : Prop := ∃ z : Bool, e = .returned (.bool z) ∧ (z = true ↔ txP t = txP u) ∧ Below w.heap.size w w'

end Go.Proofs.YtpfjkjogljilnaaDoor

namespace Go.Proofs.YtpfjkjogljilnaaDoor
open Go.RowKit

def bkD (b : BkR) : HdP × List TxP := (b.h.p, b.txs.map txP)
def BSame (w : World) (a b : BkR) (e : Ending) (w' : World) : Prop := ∃ z : Bool, e = .returned (.bool z) ∧ (z = true ↔ bkD a = bkD b) ∧ Below w.heap.size w w'
theorem bkD_no {a b : BkR} {z : Bool} (hz : z = false) (h : bkD a ≠ bkD b) : z = true ↔ bkD a = bkD b := ⟨fun e => (by rw [hz] at e; cases e), fun e => absurd e h⟩

end Go.Proofs.YtpfjkjogljilnaaDoor

namespace Go.Proofs.YtpfjkjogljilnaaDoor
open Go.RowKit

theorem wpList_load_want {P : Program} {ops : Array Oper} {rest : List Oper} {op : Oper} {a : Act} {w : World} {Q : Exit → Act → World → Prop} (hw : Region.wanted op (yielded ops a.tmps) = true) (ty : TypeId) (x : Operand) (ho : op.op = .load ty x)
    (b o : Nat) (hx : a.eval x = .pointer (some ⟨b, o, none⟩)) (cs : List Value) (d : TypeDesc) (hc : w.rangeAt b o cs)
    (hu : P.underlying ty = some d) (hd : d.isRow = true) (hi : (P.info? ty).map (·.size) = some cs.length)
    (h : wpList P ops Q rest (a.put op.dst (.agg cs.toArray)) w) : wpList P ops Q (op :: rest) a w :=
  wpList_step fun _ hK => by rw [if_pos hw]; exact wp_load_mid ty x ho b o hx cs d hc hu hd hi (hK _ _ h)
section
variable {P : Program} {w : World}
theorem step_store_all {ops : Array Oper} {o : Oper} {a : Act} {K : Act → World → Prop} {Q : Exit → Act → World → Prop} {E : Prop} (hgd : o.guard = none) (ty : TypeId) (x y : Operand) (ho : o.op = .store ty x y)
    (g : Nat) (t : TypeId) (old cells : Array Value) (hx : a.eval x = .pointer (some ⟨g, 0, none⟩)) (hy : a.eval y = .agg cells) (hg : Blk w g t old) (hs : old.size = cells.size)
    (hi : (P.info? ty).map (·.size) = some cells.size) (h1 : ∀ v ∈ cells.toList, v.oneCell' = true)
    (h : ∀ w', Blk w' g t cells → Keeps (· = g) w w' → w'.heap.size = w.heap.size → K (a.put o.dst undef) w') :
    if Region.wanted o (yielded ops a.tmps) = true then Oper.wp P o a w K Q else E := by
  have hw : Region.wanted o (yielded ops a.tmps) = true := by simp [Region.wanted, hgd]
  rw [if_pos hw]
  obtain ⟨w', hr, h2, h3, h4⟩ := run_storeVar_all (P := P) g t ty old cells hg hs hi h1
  unfold Oper.wp execOp
  simp only [ho, hx, hy, Instr.storeAt, Instr.sureAddr, Sem.run_bind, Sem.run_pure, Result.andThen_ok, hr]
  exact h w' h2 h3 h4
end
end Go.Proofs.YtpfjkjogljilnaaDoor
