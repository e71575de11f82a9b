/-
  money, as tx calls it: which amounts may be, sums.
-/
import Derived.Test.YtckomfffilonlaaDoorVals
import Derived.Test.YtckomfffilonlaaDoorChecked
import Derived.Lib.Hide
namespace Go.Proofs.YtckomfffilonlaaDoor
open Go.RowKit

/-- The greatest amount. -/
def maxM : Nat := 1125899906842624
/-- Is it an amount? -/
def mayB (a : Nat) : Bool := decide (a ≤ maxM)
/-- A sum: the amount, the error. -/
def sumV (l : List Nat) : Nat := if l.sum ≤ maxM then l.sum else 0
def sumE (l : List Nat) : Int := if l.sum ≤ maxM then 0 else 5
/-- A difference. -/
def subV (a b : Nat) : Nat := if a ≤ maxM ∧ b ≤ a then a - b else 0
def subE (a b : Nat) : Int := if a ≤ maxM ∧ b ≤ a then 0 else 5
/-- Numbers as cells. -/
def Ns (l : List Nat) : List Value := l.map fun a : Nat => .int .u64 (a : Int)
theorem Ns_length (l : List Nat) : (Ns l).length = l.length := by simp [Ns]
theorem Ns_get {l : List Nat} {k : Nat} (h : k < (Ns l).length) : (Ns l)[k] = .int .u64 ((l[k]'(by simpa [Ns] using h)) : Int) := by simp [Ns]
theorem sum_take (l : List Nat) {k : Nat} (h : k < l.length) : (l.take (k + 1)).sum = (l.take k).sum + l[k] := by
  rw [List.take_succ_eq_append_getElem h, List.sum_append]; simp
theorem sum_take_le (l : List Nat) (k : Nat) : (l.take k).sum ≤ l.sum := by
  have := List.sum_append (l₁ := l.take k) (l₂ := l.drop k)
  rw [List.take_append_drop] at this
  omega
theorem sum_over {l : List Nat} {k : Nat} (h : k < l.length) (hg : maxM < (l.take k).sum + l[k]) : sumV l = 0 ∧ sumE l = 5 := by
  have h1 := sum_take l h
  have h2 := sum_take_le l (k + 1)
  have : ¬ l.sum ≤ maxM := by omega
  unfold sumV sumE
  rw [if_neg this, if_neg this]
  exact ⟨rfl, rfl⟩
theorem sum_in {l : List Nat} (h : l.sum ≤ maxM) : sumV l = l.sum ∧ sumE l = 0 := by
  unfold sumV sumE
  rw [if_pos h, if_pos h]
  exact ⟨rfl, rfl⟩

theorem may_yes {a : Nat} (h : a ≤ maxM) : mayB a = true := decide_eq_true h
theorem may_no {a : Nat} (h : ¬ a ≤ maxM) : mayB a = false := decide_eq_false h
theorem may_int (a : Nat) : decide ((a : Int) ≤ 1125899906842624) = mayB a := by
  unfold mayB maxM
  rw [Bool.eq_iff_iff, decide_eq_true_eq, decide_eq_true_eq]
  omega
theorem over_int (a : Nat) : decide ((1125899906842624 : Int) < a) = !mayB a := by
  unfold mayB maxM
  rw [Bool.eq_iff_iff, Bool.not_eq_true', decide_eq_true_eq, decide_eq_false_iff_not]
  omega

theorem mmay_any (w : World) (a : Nat) : Calls Tryd.prog 85 #[.int .u64 (a : Int)] w fun e w' => e = .returned (.bool (mayB a)) ∧ w = w' := by
  have hm := Lib.hid (may_int a)
  go_enter Tryd.func85, Tryd.ntmps85
  go_wp2
  go_ret
  exact ⟨by rw [← hm.out]; rfl, rfl⟩

theorem mmay_at (w : World) (x : Int) (a : Nat) (hx : x = (a : Int)) : Calls Tryd.prog 85 #[.int .u64 x] w fun e w' => e = .returned (.bool (mayB a)) ∧ w = w' := by
  subst hx; exact mmay_any w a

set_option maxHeartbeats 1000000 in
theorem msum_any (w : World) (B : Nat) (A : Option Addr) (n c : Nat) (l : List Nat) (hn : n = l.length) (hS : SeesV w B A (Ns l)) (hmax : n ≤ 4611686018427387904) :
    Calls Tryd.prog 75 #[.slice A n c] w fun e w' => e = .returned (.tuple #[.int .u64 (sumV l : Int), .int .i64 (sumE l)]) ∧ w = w' := by
  subst hn
  have HS := Lib.hid hS
  clear hS
  go_enter Tryd.func75, Tryd.ntmps75
  go_wp2
  go_step3
  go_wp2
  go_step3
  go_wp2
  go_loop [4, 5, 11] (fun sv ev iv => ∃ k s : Nat, k ≤ l.length ∧ iv = .int .i64 k ∧ sv = .int .u64 (s : Int) ∧ ev = .int .i64 0 ∧ Hid ((l.take k).sum = s ∧ s ≤ maxM)) (fun _ _ iv => l.length - (intOf iv).toNat)
  case atStart => exact ⟨0, 0, by omega, rfl, rfl, rfl, by simp, by simp⟩
  case round =>
    obtain ⟨k, s, hk, rfl, rfl, rfl, Hs⟩ := hrel
    by_cases hlt : k < l.length
    · obtain ⟨b, off, rfl, hbb, hr⟩ := HS.out.at_ (k := k) (by simpa [Ns] using hlt)
      have hc := hr k (by simpa [Ns] using hlt)
      rw [Ns_get] at hc
      obtain ⟨a, ha⟩ : ∃ a, l[k] = a := ⟨_, rfl⟩
      rw [ha] at hc
      have Ha := Lib.hid ha
      clear hr ha
      by_cases hm : a ≤ maxM
      · have hw : IntKind.u64.wrap ((s : Int) + (a : Int)) = (s : Int) + (a : Int) := by
          have := Hs.out.2; rw [IntKind.wrap_u64]; unfold maxM at *; omega
        have HX : Hid ((s : Int) + (a : Int) = ((s + a : Nat) : Int)) := by show _ = _; omega
        have H1 := Lib.hid (may_yes hm)
        by_cases hm2 : s + a ≤ maxM
        · have H2 := Lib.hid (may_yes hm2)
          have HN : Hid ((l.take (k + 1)).sum = s + a ∧ s + a ≤ maxM) := ⟨by rw [sum_take l hlt, Hs.out.1, Ha.out], hm2⟩
          clear hm hm2 Hs
          go_wp2_with (first
            | (go_at_call 85; ((with_reducible refine (mmay_any _ a).mono ?_); rw [H1.out]; rintro e w' ⟨rfl, rfl⟩))
            | (go_at_call 85; ((with_reducible refine (mmay_at _ _ (s + a) HX.out).mono ?_); rw [H2.out]; rintro e w' ⟨rfl, rfl⟩)))
          go_round
          case rel => exact ⟨k + 1, s + a, by omega, by go_num, by go_num, rfl, HN.out⟩
          case measure => simp [intOf] <;> omega
        · have H2 := Lib.hid (may_no hm2)
          have HE := Lib.hid (sum_over hlt (by rw [Hs.out.1, Ha.out]; omega))
          clear hm hm2 Hs
          go_wp2_with (first
            | (go_at_call 85; ((with_reducible refine (mmay_any _ a).mono ?_); rw [H1.out]; rintro e w' ⟨rfl, rfl⟩))
            | (go_at_call 85; ((with_reducible refine (mmay_at _ _ (s + a) HX.out).mono ?_); rw [H2.out]; rintro e w' ⟨rfl, rfl⟩)))
          try rw [Exit.noGoto_ret]
          go_ret2
          exact ⟨by rw [HE.out.1, HE.out.2]; rfl, rfl⟩
      · have H1 := Lib.hid (may_no hm)
        have HE := Lib.hid (sum_over hlt (by rw [Hs.out.1, Ha.out]; omega))
        clear hm Hs
        go_wp2_with (go_at_call 85; ((with_reducible refine (mmay_any _ a).mono ?_); rw [H1.out]; rintro e w' ⟨rfl, rfl⟩))
        try rw [Exit.noGoto_ret]
        go_ret2
        exact ⟨by rw [HE.out.1, HE.out.2]; rfl, rfl⟩
    · obtain rfl : k = l.length := by omega
      have HE := Lib.hid (sum_in (l := l) (by have := Hs.out; rw [List.take_length] at this; omega))
      have HV : Hid (s = l.sum) := by have := Hs.out; rw [List.take_length] at this; exact this.1.symm
      clear Hs
      go_wp2
      try rw [Exit.noGoto_ret]
      go_ret2
      exact ⟨by rw [HE.out.1, HE.out.2, HV.out]; rfl, rfl⟩

set_option maxHeartbeats 1000000 in
theorem mrsum_any (w : World) (B : Nat) (A : Option Addr) (n c : Nat) (l : List Nat) (hn : n = l.length) (hS : SeesV w B A (Ns l)) (hmax : n ≤ 4611686018427387904) :
    Calls Tryd.prog 33 #[.slice A n c] w fun e w' => e = .returned (.tuple #[.int .u64 (sumV l : Int), .int .i64 (sumE l)]) ∧ w = w' := by
  subst hn
  have HS := Lib.hid hS
  clear hS
  go_enter Tryd.func33, Tryd.ntmps33
  go_wp2
  go_loop [4, 5] (fun sv iv => ∃ k s : Nat, k ≤ l.length ∧ iv = .int .i64 k ∧ sv = .int .u64 (s : Int) ∧ Hid ((l.take k).sum = s ∧ s ≤ maxM)) (fun _ iv => l.length - (intOf iv).toNat)
  case atStart => exact ⟨0, 0, by omega, rfl, rfl, by simp, by simp⟩
  case round =>
    obtain ⟨k, s, hk, rfl, rfl, Hs⟩ := hrel
    by_cases hlt : k < l.length
    · obtain ⟨b, off, rfl, hbb, hr⟩ := HS.out.at_ (k := k) (by simpa [Ns] using hlt)
      have hc := hr k (by simpa [Ns] using hlt)
      rw [Ns_get] at hc
      obtain ⟨a, ha⟩ : ∃ a, l[k] = a := ⟨_, rfl⟩
      rw [ha] at hc
      have Ha := Lib.hid ha
      clear hr ha
      by_cases hm : a ≤ maxM
      · have hw : IntKind.u64.wrap ((s : Int) + (a : Int)) = (s : Int) + (a : Int) := by
          have := Hs.out.2; rw [IntKind.wrap_u64]; unfold maxM at *; omega
        have H1 : decide ((1125899906842624 : Int) < a) = false := by rw [over_int, may_yes hm]; rfl
        by_cases hm2 : s + a ≤ maxM
        · have H2 : decide ((1125899906842624 : Int) < (s : Int) + (a : Int)) = false := by rw [← Int.natCast_add, over_int, may_yes hm2]; rfl
          have HN : Hid ((l.take (k + 1)).sum = s + a ∧ s + a ≤ maxM) := ⟨by rw [sum_take l hlt, Hs.out.1, Ha.out], hm2⟩
          clear hm hm2 Hs
          go_wp2
          go_round
          case rel => exact ⟨k + 1, s + a, by omega, by go_num, by go_num, HN.out⟩
          case measure => simp [intOf] <;> omega
        · have H2 : decide ((1125899906842624 : Int) < (s : Int) + (a : Int)) = true := by rw [← Int.natCast_add, over_int, may_no hm2]; rfl
          have HE := Lib.hid (sum_over hlt (by rw [Hs.out.1, Ha.out]; omega))
          clear hm hm2 Hs
          go_wp2
          go_ret2
          exact ⟨by rw [HE.out.1, HE.out.2]; rfl, rfl⟩
      · have H1 : decide ((1125899906842624 : Int) < a) = true := by rw [over_int, may_no hm]; rfl
        have HE := Lib.hid (sum_over hlt (by rw [Hs.out.1, Ha.out]; omega))
        clear hm Hs
        go_wp2
        go_ret2
        exact ⟨by rw [HE.out.1, HE.out.2]; rfl, rfl⟩
    · obtain rfl : k = l.length := by omega
      have HE := Lib.hid (sum_in (l := l) (by have := Hs.out; rw [List.take_length] at this; omega))
      have HV : Hid (s = l.sum) := by have := Hs.out; rw [List.take_length] at this; exact this.1.symm
      clear Hs
      go_wp2
      go_ret2
      exact ⟨by rw [HE.out.1, HE.out.2, HV.out]; rfl, rfl⟩
end Go.Proofs.YtckomfffilonlaaDoor
