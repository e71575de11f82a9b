/-
  tree: widths, shares; the node whose numbers can be dealt anew; sizes.
-/
import Derived.Test.YtefgnemcjgibaaaTe9
namespace Go.Proofs.Ytefgnemcjgibaaa
open Go.RowKit

theorem te_width (w : World) (x : NdM) (h1 : x.d.lo ≤ x.d.hi) (h2 : x.d.hi ≤ 4611686018427387904) : Calls Try.prog 39 #[.agg (tndC x).toArray] w fun e w' => e = .returned (.int .u64 ((x.d.hi - x.d.lo + 1 : Nat) : Int)) ∧ Below w.heap.size w w' := by
  have B0 : Hid (Blk (w.alloc (.cells (tndC x).toArray 54)) w.heap.size 54 (tndC x).toArray) := heap_alloc_new w _
  have V0 : Hid (Below w.heap.size w (w.alloc (.cells (tndC x).toArray 54))) := nxAlloc (nxRefl w) _
  have c3 : (w.alloc (.cells (tndC x).toArray 54)).cell? ⟨w.heap.size, 3, none⟩ = some (.int .u64 (x.d.lo : Int)) := B0.out.cell 3
  have c4 : (w.alloc (.cells (tndC x).toArray 54)).cell? ⟨w.heap.size, 4, none⟩ = some (.int .u64 (x.d.hi : Int)) := B0.out.cell 4
  obtain ⟨z, hz⟩ : ∃ z, x.d.hi - x.d.lo + 1 = z := ⟨_, rfl⟩
  rw [hz]
  have HZ : Hid (((x.d.hi : Int) - (x.d.lo : Int) + 1) = (z : Int)) := by show _ = _; omega
  clear hz
  go_enter Try.func39, Try.ntmps39
  go_wp2
  go_ret
  exact ⟨by first | rfl | (show _ = Ending.returned (Value.int .u64 (z : Int)); rw [← HZ.out]; first | rfl | (congr 2; go_num)), V0.out⟩
theorem te_shares (w : World) (s : Nat) (h1 : 1 ≤ s) (h2 : s ≤ 1000) : Calls Try.prog 40 #[.int .u64 (s : Int)] w fun e w' => e = .returned (.int .u64 ((2 * s - 1 : Nat) : Int)) ∧ w' = w := by
  obtain ⟨z, hz⟩ : ∃ z, 2 * s - 1 = z := ⟨_, rfl⟩
  rw [hz]
  have HZ : Hid (((2 : Int) * (s : Int) - 1) = (z : Int)) := by show _ = _; omega
  clear hz
  go_enter Try.func40, Try.ntmps40
  go_wp2
  go_ret
  exact ⟨by first | rfl | (show _ = Ending.returned (Value.int .u64 (z : Int)); rw [← HZ.out]; first | rfl | (congr 2; go_num)), rfl⟩
theorem te_isRoomy (w : World) (wd s : Nat) (h1 : 1 ≤ s) (h2 : s ≤ 1000) (h3 : wd ≤ 4611686018427387904) : Calls Try.prog 41 #[.int .u64 (wd : Int), .int .u64 (s : Int)] w fun e w' => e = .returned (.bool (decide (16 * s ≤ wd / s))) ∧ w' = w := by
  have hd := Nat.div_le_self wd s
  have e1 : Int.tdiv (wd : Int) (s : Int) = ((wd / s : Nat) : Int) := rfl
  obtain ⟨q, hq⟩ : ∃ q, wd / s = q := ⟨_, rfl⟩
  rw [hq] at hd e1 ⊢
  have e2 : IntKind.u64.wrap (Int.tdiv (wd : Int) (s : Int)) = (q : Int) := by rw [e1, IntKind.wrap_u64]; omega
  have e3 : ¬ ((s : Int) = 0) := by omega
  cases hb : decide (16 * s ≤ q) with
  | true =>
    have hb2 : (16 : Int) * (s : Int) ≤ (q : Int) := by have := of_decide_eq_true hb; omega
    clear hb hq
    go_enter Try.func41, Try.ntmps41
    go_wp2
    go_ret
    exact ⟨by first | rfl | simp [hb2], rfl⟩
  | false =>
    have hb2 : ¬ (16 : Int) * (s : Int) ≤ (q : Int) := by have := of_decide_eq_false hb; omega
    clear hb hq
    go_enter Try.func41, Try.ntmps41
    go_wp2
    go_ret
    exact ⟨by first | rfl | simp [hb2], rfl⟩
end Go.Proofs.Ytefgnemcjgibaaa
