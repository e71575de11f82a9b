/-
  tx: are no two inputs of one outpoint: the closure that asks. · tx: the outputs' amounts in all, and the closure that asks for them.
  tx: asked, Check, May. · tx: May, Out.
-/
import Derived.Test.YtjcbihdhkaiidaaPBlQ3
import Derived.Deep.RegionHeldLaw
import Derived.Deep.RegionHeld3
import Derived.Laws.MakeOwn
import Derived.LoopN
namespace Go.Proofs.Ytjcbihdhkaiidaa
open Go.RowKit Go.Maps

theorem step_len_own {P : Program} {w : World} {ops : Array Oper} {o : Oper} {a : Act} {K : Act → World → Prop} {Q : Exit → Act → World → Prop} {E : Prop} (hg : o.guard = none) (m : Operand) (t : TypeId) (hop : o.op = Op.call { callee := Callee.builtin Builtin.len, args := #[m], argTypes := #[t] })
    (k e : TypeId) (ht : P.underlying t = some (.map k e)) (R : Value → Option (DataW Unit × List MemPlace)) (b n : Nat) (D : DataW Unit) (hm : a.eval m = .map (some b)) (hown : w.ownsMap P k R b n D)
    (hK : K (a.put o.dst (.int .i64 (Maps.size D))) w) : if Region.wanted o (yielded ops a.tmps) = true then Oper.wp P o a w K Q else E := by
  have hw : Region.wanted o (yielded ops a.tmps) = true := by simp [Region.wanted, hg]
  rw [if_pos hw]
  unfold Oper.wp
  simp [execOp, hop, resolve, invoke, builtin, hm, hown.len ht o.type, Result.andThen]
  exact hK
theorem ptKey_lit (i : InR) : WideAt.IsKeyLit (ptKey i) := by unfold ptKey; trivial
theorem same_pt {i j : InR} (hi : i.id.length = 32 ∧ i.n < 4294967296) (hj : j.id.length = 32 ∧ j.n < 4294967296) : (ptKey i).sameKey (ptKey j) = (pt i == pt j) := by
  by_cases h : pt i = pt j
  · rw [h, beq_self_eq_true, (ptKey_inj hi.1 hj.1 hi.2 hj.2).2 h]
    exact WideAt.sameKey_self (ptKey_lit j)
  · rw [beq_eq_false_iff_ne.2 h]
    exact sameKey_ne (fun e => h ((ptKey_inj hi.1 hj.1 hi.2 hj.2).1 e))
theorem has_ptSet {l : List InR} {i : InR} (hl : ∀ j ∈ l, j.id.length = 32 ∧ j.n < 4294967296) (hi : i.id.length = 32 ∧ i.n < 4294967296) : Maps.has (ptSet l) (ptKey i) = l.any (fun j => pt j == pt i) := by
  unfold ptSet
  rw [has_setOf _ _ _ (fun x hx => by obtain ⟨j, _, rfl⟩ := List.mem_map.1 hx; exact ptKey_lit j), List.any_map]
  induction l with
  | nil => rfl
  | cons a r ih =>
    rw [List.any_cons, List.any_cons, ih (fun j hj => hl j (List.mem_cons_of_mem _ hj))]
    congr 1
    exact same_pt (hl a (by simp)) hi
theorem twiceB_snoc (l : List InR) (i : InR) : twiceB (l ++ [i]) = (twiceB l || l.any (fun j => pt j == pt i)) := by
  induction l with
  | nil => rfl
  | cons a r ih =>
    have hc : (pt i == pt a) = (pt a == pt i) := by
      by_cases h : pt a = pt i
      · rw [h]
      · rw [beq_eq_false_iff_ne.2 h, beq_eq_false_iff_ne.2 (fun e => h e.symm)]
    rw [List.cons_append, twiceB, ih, List.any_append, List.any_cons, List.any_nil, Bool.or_false, List.any_cons, twiceB, hc]
    cases r.any (fun j => pt j == pt a) <;> cases (pt a == pt i) <;> cases twiceB r <;> cases r.any (fun j => pt j == pt i) <;> rfl
theorem ptSet_size {l : List InR} (hl : ∀ j ∈ l, j.id.length = 32 ∧ j.n < 4294967296) : ∀ k, k ≤ l.length → Maps.size (ptSet (l.take k)) ≤ k ∧ (Maps.size (ptSet (l.take k)) = k ↔ twiceB (l.take k) = false) := by
  intro k
  induction k with
  | zero => intro _; exact ⟨Nat.le_refl _, by simp [ptSet, setOf, Maps.size, twiceB]⟩
  | succ k ih =>
    intro hk
    obtain ⟨h1, h2⟩ := ih (by omega)
    have hlt : k < l.length := by omega
    have ht : ∀ j ∈ l.take k, j.id.length = 32 ∧ j.n < 4294967296 := fun j hj => hl j (List.mem_of_mem_take hj)
    have hti : Tidy (ptSet (l.take k)) := tidy_setOf _ _ (fun x hx => by obtain ⟨j, _, rfl⟩ := List.mem_map.1 hx; exact ptKey_lit j)
    rw [ptSet_next hlt, size_put hti, has_ptSet ht (hl _ (List.getElem_mem hlt)), List.take_succ_eq_append_getElem hlt, twiceB_snoc]
    cases hc : (l.take k).any (fun j => pt j == pt l[k]) with
    | true => simp only [if_true, Bool.or_true]; exact ⟨by omega, fun h => by omega, fun h => by cases h⟩
    | false => simp only [Bool.false_eq_true, if_false, Bool.or_false]; exact ⟨by omega, by rw [← h2]; omega⟩
theorem ptSet_all {l : List InR} (hl : ∀ j ∈ l, j.id.length = 32 ∧ j.n < 4294967296) : (((Maps.size (ptSet l) : Nat) : Int) == (l.length : Int)) = !twiceB l := by
  have h := (ptSet_size hl l.length (Nat.le_refl _)).2
  rw [List.take_length] at h
  cases ht : twiceB l with
  | false => rw [ht] at h; have := h.2 rfl; rw [this]; exact beq_self_eq_true _
  | true => rw [ht] at h; exact beq_eq_false_iff_ne.2 (fun e => by have := h.1 (by omega); cases this)
end Go.Proofs.Ytjcbihdhkaiidaa
namespace Go.Proofs.Ytjcbihdhkaiidaa
open Go.RowKit

theorem Try.u64inf : (Try.prog.info? 25).map (fun i => (i.zero, i.size, i.bytes)) = some (some (.int .u64 0), 1, 8) := by kernel_rfl
theorem own_kp {w w' : World} {a : Nat} {base size n : Nat} {e : TypeId} {v : Value} {xs : List Value} (h : w.ownsRow base e size v n xs) (hk : Keeps (· = a) w w') (hne : some a ≠ v.ownBlock) : w'.ownsRow base e size v n xs := by
  refine ⟨h.1, ?_⟩
  rcases h.2 with h2 | ⟨g', cap, cur, rfl, hg, hh, r⟩
  · exact .inl h2
  · have hb : Blk w g' e cur := hh
    refine .inr ⟨g', cap, cur, rfl, hg, (hk.block g' hb.lt (fun e => hne ?_)).trans hh, r⟩
    subst e; rfl
theorem lit_v (w : World) (vs : List Value) (t : TypeId) : SeesV (w.alloc (.cells vs.toArray t)) (w.heap.size + 1) (some ⟨w.heap.size, 0, none⟩) vs := by
  by_cases h : vs = []
  · exact .inl h
  · refine .inr ⟨w.heap.size, 0, rfl, by omega, fun i hi => ?_⟩
    have hb : Blk (w.alloc (.cells vs.toArray t)) w.heap.size t vs.toArray := heap_alloc_new w _
    rw [Nat.zero_add, hb.cell]
    simp [hi]
theorem any_zero {l : List OutR} (h : ∀ j (hj : j < l.length), l[j].amt ≠ 0) : l.any (fun o => o.amt == 0) = false := by
  refine Bool.eq_false_iff.2 fun ha => ?_
  obtain ⟨o, ho, hz⟩ := List.any_eq_true.1 ha
  obtain ⟨j, hj, rfl⟩ := List.getElem_of_mem ho
  exact h j hj (by simpa using hz)
theorem own_len1 {w : World} {base size n : Nat} {e : TypeId} {v : Value} {xs : List Value} (_ : w.ownsRow base e size v n xs) : True := trivial
def AmtPost (w : World) (l : List OutR) (e : Ending) (w' : World) : Prop := e = .returned (.tuple #[.int .u64 (amtV l : Int), .int .i64 (amtE l)]) ∧ Below w.heap.size w w'

end Go.Proofs.Ytjcbihdhkaiidaa

namespace Go.Proofs.Ytjcbihdhkaiidaa
open Go.RowKit

theorem amtE_two (l : List OutR) : amtE l = 0 ∨ amtE l = 5 := by
  unfold amtE sumE
  cases l.any (fun o => o.amt == 0)
  · rw [cond_false]; split <;> simp
  · right; rfl
end Go.Proofs.Ytjcbihdhkaiidaa
namespace Go.Proofs.Ytjcbihdhkaiidaa
open Go.RowKit

end Go.Proofs.Ytjcbihdhkaiidaa
