/-
  MoneyMeans: what it wants of numbers; slices of numbers.
-/
import Derived.Test.YtipjhjgjomfflaaDoorMoD
import Derived.Deep.DeepCutAuto
import Derived.Deep.CutBlock
namespace Go.Proofs.YtipjhjgjomfflaaDoor
open Go.RowKit Go.Sort

theorem Tryd.u64info : (Tryd.prog.info? 23).map (fun i => (i.zero, i.size, i.bytes)) = some (some (.int .u64 0), 1, 8) := by kernel_rfl
theorem Ns_take (l : List Nat) (k : Nat) : Ns (l.take k) = (Ns l).take k := by simp [Ns, List.map_take]
theorem Ns_drop (l : List Nat) (k : Nat) : Ns (l.drop k) = (Ns l).drop k := by simp [Ns, List.map_drop]
theorem Ns_append (l m : List Nat) : Ns (l ++ m) = Ns l ++ Ns m := by simp [Ns]
theorem Ns_one (l : List Nat) : ∀ u ∈ Ns l, u.oneCell' = true := by
  intro u hu
  obtain ⟨b, _, rfl⟩ := List.mem_map.1 hu
  rfl
theorem slice_low {w : World} {B : Nat} {A : Option Addr} {l : List Nat} {c : Nat} (h : SeesV w B A (Ns l)) (hc : l.length ≤ c) (hm : c ≤ maxLen) (k : Nat) (hk : k ≤ l.length) :
    ∃ A1, SeesV w B A1 (Ns (l.take k)) ∧ ∀ wq, (Instr.slice 22 (.slice A l.length c) none (some (.int .i64 (k : Int))) none).run Tryd.prog wq = .ok (.slice A1 k c) wq := by
  obtain ⟨i0, hi, hz0, hz1, hz2⟩ := info_parts Tryd.u64info
  unfold maxLen at hm
  refine ⟨if c = 0 then A else A.map (·.add (0 * 1)), ?_, fun wq => ?_⟩
  · rw [Ns_take]
    split
    · exact h.take _
    · have := (h.drop 0).take k
      simpa using this
  · simp [Instr.slice, run_underlying Tryd.underlying22, Instr.sliceBounds, run_sliceBound wq .i64 (k : Int) c _ (by omega) (by omega), sizeOf, typeInfo, hi, hz1]
theorem slice_high {w : World} {B : Nat} {A : Option Addr} {l : List Nat} {c : Nat} (h : SeesV w B A (Ns l)) (hc : l.length ≤ c) (hm : c ≤ maxLen) (k : Nat) (hk : k ≤ l.length) :
    ∃ A1, SeesV w B A1 (Ns (l.drop k)) ∧ ∀ wq, (Instr.slice 22 (.slice A l.length c) (some (.int .i64 (k : Int))) none none).run Tryd.prog wq = .ok (.slice A1 (l.length - k) (c - k)) wq := by
  obtain ⟨i0, hi, hz0, hz1, hz2⟩ := info_parts Tryd.u64info
  unfold maxLen at hm
  refine ⟨if c = k then A else A.map (·.add (k * 1)), ?_, fun wq => ?_⟩
  · rw [Ns_drop]
    split
    · rw [List.drop_eq_nil_of_le (by rw [Ns_length]; omega)]; exact .inl rfl
    · have := h.drop k
      simpa using this
  · simp [Instr.slice, run_underlying Tryd.underlying22, Instr.sliceBounds, run_sliceBound wq .i64 (k : Int) l.length _ (by omega) (by omega), sizeOf, typeInfo, hi, hz1]

/-- Sums do not hang on order. -/
theorem sum_rev (l : List Nat) : sumV l.reverse = sumV l ∧ sumE l.reverse = sumE l := by
  unfold sumV sumE
  rw [List.sum_reverse]
  exact ⟨rfl, rfl⟩
theorem sumE_le (l : List Nat) : 0 ≤ sumE l ∧ sumE l ≤ 5 := by
  unfold sumE; split <;> omega
/-- Nor on how they are put together. -/
theorem sum_parts (l : List Nat) (h : Nat) (hs : l.sum ≤ maxM) : sumE (l.take h) = 0 ∧ sumE (l.drop h) = 0 ∧ sumV [sumV (l.take h), sumV (l.drop h)] = sumV l ∧ sumE [sumV (l.take h), sumV (l.drop h)] = 0 := by
  have e : (l.take h).sum + (l.drop h).sum = l.sum := by rw [← List.sum_append, List.take_append_drop]
  have h1 := sum_in (l := l.take h) (by omega)
  have h2 := sum_in (l := l.drop h) (by omega)
  have h3 := sum_in (l := [sumV (l.take h), sumV (l.drop h)]) (by rw [h1.1, h2.1]; simp; omega)
  refine ⟨h1.2, h2.2, ?_, h3.2⟩
  rw [h3.1, (sum_in hs).1, h1.1, h2.1]
  simp; omega
theorem sum_none (l : List Nat) (h : Nat) (hs : ¬ l.sum ≤ maxM) : ¬ sumE (l.take h) + sumE (l.drop h) + sumE [sumV (l.take h), sumV (l.drop h)] = 0 := by
  have e : (l.take h).sum + (l.drop h).sum = l.sum := by rw [← List.sum_append, List.take_append_drop]
  have b1 := sumE_le (l.take h)
  have b2 := sumE_le (l.drop h)
  have b3 := sumE_le [sumV (l.take h), sumV (l.drop h)]
  intro h0
  have z1 : sumE (l.take h) = 0 := by omega
  have z2 : sumE (l.drop h) = 0 := by omega
  have z3 : sumE [sumV (l.take h), sumV (l.drop h)] = 0 := by omega
  have f : ∀ m : List Nat, sumE m = 0 → m.sum ≤ maxM := fun m hm => by
    unfold sumE at hm; split at hm
    · assumption
    · cases hm
  have g1 := f _ z1
  have g2 := f _ z2
  have g3 := f _ z3
  rw [(sum_in g1).1, (sum_in g2).1] at g3
  simp at g3
  omega
/-- What was added is taken away again. -/
theorem add_back {a b : Nat} (h : a + b ≤ maxM) : sumV [a, b] = a + b ∧ sumE [a, b] = 0 ∧ subV (a + b) b = a ∧ subE (a + b) b = 0 := by
  have h1 := sum_in (l := [a, b]) (by simp; omega)
  have h2 := sub_yes (a := a + b) (b := b) h (by omega)
  refine ⟨by rw [h1.1]; simp, h1.2, by rw [h2.1]; omega, h2.2⟩
theorem add_off {a b : Nat} (h : ¬ a + b ≤ maxM) : sumE [a, b] = 5 := by
  unfold sumE; rw [if_neg (by simp; omega)]
theorem share_in {a b c : Nat} (ha : a ≤ maxM) (hc : c ≤ maxM) (hb : b ≤ c) (h0 : ¬ c = 0) : shareV a b c = a * b / c ∧ shareE a b c = 0 := by
  have hok : shareOk a b c = true := decide_eq_true ⟨ha, hc, hb⟩
  unfold shareV shareE; rw [hok, if_neg h0]; exact ⟨rfl, rfl⟩
theorem share_off {a b c : Nat} (h : ¬ (a ≤ maxM ∧ c ≤ maxM ∧ b ≤ c ∧ ¬ c = 0)) : shareE a b c = 5 ∨ shareE a b c = 2 := by
  cases hok : shareOk a b c with
  | true =>
    obtain ⟨h1, h2, h3⟩ := of_decide_eq_true hok
    by_cases h0 : c = 0
    · right; unfold shareE; rw [hok, if_pos h0]; rfl
    · exact absurd ⟨h1, h2, h3, h0⟩ h
  | false => left; unfold shareE; rw [hok]; rfl
theorem money_len {a : Nat} (h : a ≤ maxM) : (moneyT a).length ≤ 3000 := by
  have h1 := dec_le (u := a / 100000000) (by unfold maxM at h; omega)
  have h2 := restT_le (a % 100000000)
  unfold moneyT
  split
  · simp; omega
  · simp; omega
end Go.Proofs.YtipjhjgjomfflaaDoor
