/-
  The program's Sum and Tag.
-/
import Derived.Test.YthamlphebnhcpaaDoorEnd
import Derived.Lib.SlBytesConst
namespace Go.Proofs.YthamlphebnhcpaaDoor
open Go.RowKit

theorem Tryd.msize : (Tryd.prog.info? 124).map (·.size) = some 73 := by kernel_rfl
theorem Tabs.range {w : World} (h : Tabs w) : w.rangeAt 0 0 (Wd startL) := by
  intro j v hv
  have hj : j < startL.length := by have := (List.getElem?_eq_some_iff.1 hv).1; rwa [Wd_length] at this
  rw [Wd_get _ _ hj] at hv
  rw [Nat.zero_add, h.start j hj, ← hv]
  simp [hj]

section
variable {P : Program} {w : World}
/-- An operation whose run is known. -/
theorem wpList_run {ops : Array Oper} {rest : List Oper} {o : Oper} {a : Act} {Q : Exit → Act → World → Prop} (hgd : o.guard = none) (v : Value) (w' : World)
    (hr : (execOp a.eval o).run P w = .ok (.value v) w') (h : wpList P ops Q rest (a.put o.dst v) w') : wpList P ops Q (o :: rest) a w := by
  refine wpList_plain hgd fun _ hK => ?_
  unfold Oper.wp
  rw [hr]
  exact hK _ _ h
end
def zero8 : S8 := ⟨0, 0, 0, 0, 0, 0, 0, 0⟩
def zero64 : List UInt8 := List.replicate 64 0
theorem Tryd.zeroM : (Tryd.prog.info? 124).map (·.zero) = some (some (.agg (MsgC zero8 zero64 0).toArray)) := by kernel_rfl
theorem run_zeroM (wq : World) : (zeroValue 124).run Tryd.prog wq = .ok (.agg (MsgC zero8 zero64 0).toArray) wq := by
  have h := Tryd.zeroM
  cases hq : Tryd.prog.info? 124 with
  | none => rw [hq] at h; cases h
  | some i =>
    rw [hq] at h
    have hz : i.zero = some (.agg (MsgC zero8 zero64 0).toArray) := by simpa using h
    simp [zeroValue, typeInfo, hq, hz]
theorem run_buildM (wq : World) : (Instr.build 124 #[(0, .agg (Wd startL).toArray)]).run Tryd.prog wq = .ok (.agg (MsgC start8 zero64 0).toArray) wq := by kernel_rfl
theorem run_exec_build (ρ : Operand → Value) (x : Operand) (h : ρ x = .agg (Wd startL).toArray) (dst : Option Tmp) (ty : TypeId) (pos : String) (after : Array Edge) (guard : Option (Nat × Bool)) (wq : World) :
    (execOp ρ { dst, op := .build 124 #[(0, x)], type := ty, pos, after, guard }).run Tryd.prog wq = .ok (.value (.agg (MsgC start8 zero64 0).toArray)) wq := by
  have e : execOp ρ { dst, op := .build 124 #[(0, x)], type := ty, pos, after, guard } = (do pure (.value (← Instr.build 124 #[(0, ρ x)]))) := by simp only [execOp, List.map_toArray, List.map_cons, List.map_nil]
  rw [e, h, Sem.run_bind, run_buildM]
  rfl
theorem msg_start {w : World} {g : Nat} (h : Blk w g 124 (MsgC start8 zero64 0).toArray) : Msg w g [] := ⟨zero64, rfl, rfl, h⟩
theorem msize_all (s : S8) (blk : List UInt8) (n : Nat) (h : blk.length = 64) : (Tryd.prog.info? 124).map (·.size) = some (MsgC s blk n).toArray.size := by
  rw [Tryd.msize, List.size_toArray, MsgC_len _ _ _ h]
theorem MsgC_one (s : S8) (blk : List UInt8) (n : Nat) : ∀ v ∈ (MsgC s blk n).toArray.toList, v.oneCell' = true := by
  intro v hv
  simp only [MsgC, List.mem_append, List.mem_singleton] at hv
  rcases hv with (hv | hv) | rfl
  · exact Wd_one _ v hv
  · exact By_one _ v hv
  · rfl
theorem SeesL.shift {w w' : World} {g g' : Nat} {A : Option Addr} {ps : List (List UInt8)} (h : SeesL w g A ps) (hk : Below w.heap.size w w') (hg : w.heap.size ≤ g') : SeesL w' g' A ps := by
  have hO : ∀ {B : Option Addr} {l : List UInt8}, SeesO w g B l → SeesO w' g' B l := by
    intro B l h
    rcases h with h | ⟨b, off, hA, hb, hn, hc⟩
    · exact .inl h
    · exact .inr ⟨b, off, hA, Nat.lt_of_lt_of_le hb hk.size, by omega, fun i hi => (hk.cell (p := ⟨b, off + i, none⟩) hb).trans (hc i hi)⟩
  rcases h with h | ⟨b, off, hA, hb, hn, hc⟩
  · exact .inl h
  · refine .inr ⟨b, off, hA, Nat.lt_of_lt_of_le hb hk.size, by omega, fun i hi => ?_⟩
    obtain ⟨Ai, ci, h1, h2, h3⟩ := hc i hi
    exact ⟨Ai, ci, (hk.cell (p := ⟨b, off + i, none⟩) hb).trans h1, h2, hO h3⟩

theorem k_abc : (shaB [97, 98, 99]).take 4 = [186, 120, 22, 191] := by decide +kernel
theorem k_nil : (shaB []).take 4 = [227, 176, 196, 66] := by decide +kernel
theorem cell_take {w : World} {g : Nat} {t : TypeId} {l m : List UInt8} (hb : Blk w g t (By l).toArray) (h : l.take m.length = m) (i : Nat) (hi : i < m.length) : w.cell? ⟨g, i, none⟩ = some (.int .u8 (m[i].toNat : Int)) := by
  have e : (l.take m.length)[i]? = m[i]? := by rw [h]
  rw [List.getElem?_take, if_pos hi, List.getElem?_eq_getElem hi] at e
  rw [hb.cell i]
  simp [By, e]

theorem cells4 {w : World} {g : Nat} {t : TypeId} {l : List UInt8} (a b c d : UInt8) (h : l.take 4 = [a, b, c, d]) (hb : Blk w g t (By l).toArray) :
    w.cell? ⟨g, 0, none⟩ = some (.int .u8 (a.toNat : Int)) ∧ w.cell? ⟨g, 1, none⟩ = some (.int .u8 (b.toNat : Int)) ∧ w.cell? ⟨g, 2, none⟩ = some (.int .u8 (c.toNat : Int)) ∧ w.cell? ⟨g, 3, none⟩ = some (.int .u8 (d.toNat : Int)) :=
  ⟨cell_take (m := [a, b, c, d]) hb h 0 (by simp), cell_take (m := [a, b, c, d]) hb h 1 (by simp), cell_take (m := [a, b, c, d]) hb h 2 (by simp), cell_take (m := [a, b, c, d]) hb h 3 (by simp)⟩
theorem cells_abc {w : World} {g : Nat} {t : TypeId} (hb : Blk w g t (By (shaB [97, 98, 99])).toArray) :
    w.cell? ⟨g, 0, none⟩ = some (.int .u8 186) ∧ w.cell? ⟨g, 1, none⟩ = some (.int .u8 120) ∧ w.cell? ⟨g, 2, none⟩ = some (.int .u8 22) ∧ w.cell? ⟨g, 3, none⟩ = some (.int .u8 191) := cells4 186 120 22 191 k_abc hb
theorem cells_nil {w : World} {g : Nat} {t : TypeId} (hb : Blk w g t (By (shaB [])).toArray) :
    w.cell? ⟨g, 0, none⟩ = some (.int .u8 227) ∧ w.cell? ⟨g, 1, none⟩ = some (.int .u8 176) ∧ w.cell? ⟨g, 2, none⟩ = some (.int .u8 196) ∧ w.cell? ⟨g, 3, none⟩ = some (.int .u8 66) := cells4 227 176 196 66 k_nil hb
/-- The three letters in memory. -/
def abcC : Array Value := #[.int .u8 97, .int .u8 98, .int .u8 99]
theorem abc_sees (w : World) (t : TypeId) (fr : Nat × Nat) (g : Nat) (hg : w.heap.size ≠ g) : SeesO (w.alloc (.cells abcC t fr)) g (some ⟨w.heap.size, 0, none⟩) [97, 98, 99] := by
  refine .inr ⟨w.heap.size, 0, rfl, by simp, hg, fun i hi => ?_⟩
  have e : (w.alloc (.cells abcC t fr)).heap[w.heap.size]? = some (.cells abcC t fr) := heap_alloc_new w _
  rw [Nat.zero_add, World.cell?]
  simp only [e]
  have : i = 0 ∨ i = 1 ∨ i = 2 := by simp at hi; omega
  rcases this with rfl | rfl | rfl <;> rfl
theorem below_new {w w2 : World} {o : Obj} (hk : Keeps (· = w.heap.size) (w.alloc o) w2) : Below w.heap.size w w2 :=
  ((Below.refl _ _).alloc (Nat.le_refl _) _).trans (hk.below (by simp) (fun k hk => by omega))

end Go.Proofs.YthamlphebnhcpaaDoor
