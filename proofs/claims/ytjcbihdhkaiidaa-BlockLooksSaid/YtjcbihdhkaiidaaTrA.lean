/-
  What TxMeans' walk wants: two transactions as a row, a beginning of bytes, what was read packed again.
-/
import Derived.Test.YtjcbihdhkaiidaaLw
import Derived.Test.YtjcbihdhkaiidaaTr3
import Derived.Test.YtjcbihdhkaiidaaTr5
import Derived.Test.YtjcbihdhkaiidaaPBlQ9
import Derived.Test.YtjcbihdhkaiidaaPBlQ7
import Derived.Deep.DeepCutAuto
import Derived.Deep.CutBlock
namespace Go.Proofs.Ytjcbihdhkaiidaa
open Go.RowKit

theorem belowFresh {w w1 : World} {o : Obj} (k : Keeps (· = w.heap.size) (w.alloc o) w1) : Below w.heap.size w w1 :=
  (nxAl (nxRf w) o).trans (k.below (by simp) (fun j hj => by omega))
theorem fill_two (n : Nat) (z a b : List Value) (ha : a.length = n) (hb : b.length = n) (hz : z.length = 2 * n) :
    Instr.fill (fun i => some (i * n, n)) z.toArray [(0, .agg a.toArray), (1, .agg b.toArray)] = some (a ++ b).toArray :=
  fill_pair (fun i => some (i * n, n)) z a b (.agg a.toArray) (.agg b.toArray) rfl rfl (by simp [ha]) (by simp [ha, hb]) (by omega)
theorem wpList_build_tx2 {ops : Array Oper} {rest : List Oper} {o : Oper} {a : Act} {w : World} {Q : Exit → Act → World → Prop} (hg : o.guard = none) (x y : Operand) (ho : o.op = .buildSlice 28 2 #[(0, x), (1, y)])
    (t u : TxR) (hx : a.eval x = .agg (txC t).toArray) (hy : a.eval y = .agg (txC u).toArray)
    (h : wpList Try.prog ops Q rest (a.put o.dst (.slice (some ⟨w.heap.size, 0, none⟩) 2 2)) (w.alloc (.cells (txC t ++ txC u).toArray 37))) : wpList Try.prog ops Q (o :: rest) a w := by
  obtain ⟨i0, hi, hz0, hz1, hz2⟩ := info_parts Try.txinf
  refine wpList_buildSlice hg 28 37 2 #[(0, x), (1, y)] ho (txC t ++ txC u).toArray i0 _ Try.underlying28 hi hz0 (by rw [hz1]; omega) (by rw [hz1]; omega) ?_ h
  rw [hz1]
  have e : (#[(0, x), (1, y)].map fun (p : Nat × Operand) => (p.1, a.eval p.2)).toList = [(0, .agg (txC t).toArray), (1, .agg (txC u).toArray)] := by simp [hx, hy]
  have hf := fill_two 3 ((Array.range (2 * 3)).map ((Value.agg #[.slice none 0 0, .slice none 0 0, .int .u64 0]).cells[· % (Value.agg #[.slice none 0 0, .slice none 0 0, .int .u64 0]).cells.size]!)).toList (txC t) (txC u) rfl rfl (by simp)
  rw [Array.toArray_toList] at hf
  rw [← e] at hf
  exact hf
theorem own_cm {w : World} {base n c : Nat} {A : Option Addr} {e : TypeId} {xs : List Value} (h : w.ownsRow base e 1 (.slice A n c) n xs) : n ≤ c ∧ c ≤ maxLen := by
  rcases h.2 with ⟨hv, h0⟩ | ⟨g, cap, cur, hv, _, _, hnc, hcm, _⟩
  · injection hv with _ _ h3; unfold maxLen; omega
  · injection hv with _ _ h3; omega
theorem low_slice {w : World} {B : Nat} {A : Option Addr} {l : List UInt8} {c : Nat} (h : Sees w B A l) (hc : l.length ≤ c) (hm : c ≤ maxLen) (k : Nat) (hk : k ≤ l.length) :
    ∃ A1, Sees w B A1 (l.take k) ∧ ∀ wq, (Instr.slice 42 (.slice A l.length c) none (some (.int .i64 (k : Int))) none).run Try.prog wq = .ok (.slice A1 k c) wq := by
  obtain ⟨i0, hi, hz1⟩ : ∃ i, Try.prog.info? 5 = some i ∧ i.size = 1 := by
    have := Try.u8sz
    cases hq : Try.prog.info? 5 with
    | none => rw [hq] at this; cases this
    | some i => rw [hq] at this; simp at this; exact ⟨i, rfl, this⟩
  unfold maxLen at hm
  refine ⟨if c = 0 then A else A.map (·.add (0 * 1)), ?_, fun wq => ?_⟩
  · split
    · exact h.take _
    · have := (h.drop 0).take k
      simpa using this
  · simp [Instr.slice, run_underlying Try.underlying42, Instr.sliceBounds, run_sliceBound wq .i64 (k : Int) c _ (by omega) (by omega), sizeOf, typeInfo, hi, hz1]
/-- What was read is packed to what it was read of. -/
theorem of_back {t : TxR} {b : List UInt8} (h : ofB b = true) (hp : txP t = ofV b) : packT t = b ∧ checkT t = 0 := by
  have e : ofV b = ofP b := by rw [ofV, h]; rfl
  obtain ⟨h1, h2⟩ := read_pack b h
  rw [← packT_back, ← checkT_up, hp, e]
  exact ⟨h1, h2⟩
theorem begins_iff {t u : TxR} {w : World} (ht : TxOk w t) (hu : TxOk w u) (hz : checkT t = 0) (hy : checkT u = 0) : (decide ((packT t).length ≤ (packT u).length) && ((packT u).take (packT t).length == packT t)) = true ↔ txP t = txP u := by
  rw [Bool.and_eq_true, decide_eq_true_eq, beq_iff_eq]
  constructor
  · rintro ⟨_, h⟩
    refine pack_begin t u (fun i hi => ⟨(ht.each i hi).id, (ht.each i hi).n⟩) ht.eacho ht.nonce hz (fun i hi => ⟨(hu.each i hi).id, (hu.each i hi).n⟩) hu.eacho hu.nonce hy ((packT u).drop (packT t).length) ?_
    have e := (List.take_append_drop (packT t).length (packT u)).symm
    rw [h] at e
    exact e
  · intro h
    rw [packT_same h]
    exact ⟨Nat.le_refl _, List.take_length⟩
theorem idT_same {t u : TxR} (h : txP t = txP u) : idT t = idT u := by
  unfold idT
  rw [checkT_same h, packT_same h]
theorem same_val {p : Prop} {z r : Bool} (hz : z = true ↔ p) (hr : r = true ↔ p) : z = r := by
  cases z <;> cases r <;> simp_all
end Go.Proofs.Ytjcbihdhkaiidaa
