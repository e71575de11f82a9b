/-
  tx, the document's: Check, May. · tx: the law's num and known; the document's May.
  tx, the document's: Much, of one transaction.
-/
import Derived.Test.YtpfjkjogljilnaaDoorTx9
import Derived.Deep.RegionHeldLaw
import Derived.Deep.RegionHeld3
import Derived.Great.BuildSlice
import Derived.LoopN
namespace Go.Proofs.YtpfjkjogljilnaaDoor
open Go.RowKit

set_option maxRecDepth 100000 in
theorem eql_pt {a b : InR} (ha : a.id.length = 32 ∧ a.n < 4294967296) (hb : b.id.length = 32 ∧ b.n < 4294967296) (wq : World) : (binOp .eql 92 (.agg (ptC a).toArray) (.agg (ptC b).toArray)).run Tryd.prog wq = .ok (.bool (pt a == pt b)) wq := by
  obtain ⟨r, hr, hiff⟩ := run_equal_deep (P := Tryd.prog) wq (m := 3) (by omega) (k := 92) (by kernel_rfl) Tryd.widePt (keyOf_pt ha.1 ha.2) (keyOf_pt hb.1 hb.2)
  have e : r = (pt a == pt b) := by
    rw [Bool.eq_iff_iff, hiff, ptKey_inj ha.1 hb.1 ha.2 hb.2]
    exact beq_iff_eq.symm
  rw [run_eql_struct]
  have hr' : (Op.equalIn 10000 92 (.agg (ptC a).toArray) (.agg (ptC b).toArray)).run Tryd.prog wq = .ok r wq := hr
  rw [hr', e]
  rfl
theorem checkT_form {t : TxR} (h : formB t = false) : checkT t = 2 := by rw [checkT, h, cond_false]
theorem form_parts {t : TxR} (h1 : t.ins.length = 0 ∨ 64 < t.ins.length ∨ t.outs.length = 0 ∨ 64 < t.outs.length) : formB t = false := by
  unfold formB
  by_cases hi : 1 ≤ t.ins.length ∧ t.ins.length ≤ 64
  · have ho : cntB t.outs.length = false := decide_eq_false (by omega)
    rw [ho, Bool.false_and, Bool.and_false]
  · have : cntB t.ins.length = false := decide_eq_false hi
    rw [this, Bool.false_and]
theorem form_long {t : TxR} {i : Nat} (hi : i < t.ins.length) (hl : longB t.ins[i] = true) : formB t = false := by
  unfold formB
  have : t.ins.any longB = true := List.any_eq_true.2 ⟨_, List.getElem_mem hi, hl⟩
  rw [this]; simp
theorem twice_of {l : List InR} {i k : Nat} (hi : i < l.length) (hk : k < i) (h : pt l[k] = pt l[i]) : twiceB l = true := by
  induction l generalizing i k with
  | nil => simp at hi
  | cons a r ih =>
    rw [twiceB]
    cases k with
    | zero =>
      obtain ⟨i', rfl⟩ : ∃ i', i = i' + 1 := ⟨i - 1, by omega⟩
      simp only [List.length_cons] at hi
      have : r.any (fun j => pt j == pt a) = true := List.any_eq_true.2 ⟨r[i'], List.getElem_mem (by omega), by simp only [List.getElem_cons_zero, List.getElem_cons_succ] at h; rw [h]; exact beq_self_eq_true _⟩
      rw [this]; rfl
    | succ k' =>
      obtain ⟨i', rfl⟩ : ∃ i', i = i' + 1 := ⟨i - 1, by omega⟩
      simp only [List.length_cons] at hi
      simp only [List.getElem_cons_succ] at h
      rw [ih (i := i') (k := k') (by omega) (by omega) h, Bool.or_true]
theorem form_twice {t : TxR} (h : twiceB t.ins = true) : formB t = false := by
  unfold formB; rw [h]; simp
theorem twice_next {l : List InR} {i : Nat} (hi : i < l.length) (h : twiceB (l.take i) = false) (hn : ∀ k (hk : k < l.length), k < i → pt l[k] ≠ pt l[i]) : twiceB (l.take (i + 1)) = false := by
  rw [List.take_succ_eq_append_getElem hi, twiceB_snoc, h, Bool.false_or]
  refine Bool.eq_false_iff.2 fun ha => ?_
  obtain ⟨j, hj, he⟩ := List.any_eq_true.1 ha
  obtain ⟨k, hk, rfl⟩ := List.getElem_of_mem hj
  rw [List.getElem_take] at he
  rw [List.length_take] at hk
  exact hn k (by omega) (by omega) (eq_of_beq he)

end Go.Proofs.YtpfjkjogljilnaaDoor
namespace Go.Proofs.YtpfjkjogljilnaaDoor
open Go.RowKit

end Go.Proofs.YtpfjkjogljilnaaDoor

namespace Go.Proofs.YtpfjkjogljilnaaDoor
open Go.RowKit

/-- What the first witnesses count. -/
def witN (l : List InR) : Nat := (l.map fun i => min i.wit.length 30001 / 50).sum
theorem witN_next {l : List InR} {k : Nat} (h : k < l.length) : witN (l.take (k + 1)) = witN (l.take k) + min l[k].wit.length 30001 / 50 := by
  unfold witN
  rw [List.take_succ_eq_append_getElem h, List.map_append, List.sum_append]
  simp
theorem witN_le (l : List InR) : witN l ≤ l.length * 600 := by
  induction l with
  | nil => simp [witN]
  | cons a r ih =>
    have e : witN (a :: r) = min a.wit.length 30001 / 50 + witN r := by simp [witN]
    rw [e, List.length_cons]; omega
def muchN (t : TxR) : Nat := t.ins.length + t.outs.length + witN (t.ins.take 301)
def muchB (t : TxR) : Bool := decide (600 < muchN t)

end Go.Proofs.YtpfjkjogljilnaaDoor
