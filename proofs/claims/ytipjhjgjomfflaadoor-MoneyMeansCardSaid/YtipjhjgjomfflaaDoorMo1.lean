/-
  money: May, Sum, Add, Sub, of the program and of the document.
-/
import Derived.Test.YtipjhjgjomfflaaDoorMo0
import Derived.Test.YtipjhjgjomfflaaDoorVals
import Derived.Test.YtipjhjgjomfflaaDoorChecked
namespace Go.Proofs.YtipjhjgjomfflaaDoor
open Go.RowKit

theorem may_yes {a : Nat} (h : a ≤ maxM) : mayB a = true := decide_eq_true h
theorem may_no {a : Nat} (h : ¬ a ≤ maxM) : mayB a = false := decide_eq_false h
theorem may_int (a : Nat) : decide ((a : Int) ≤ 1125899906842624) = mayB a := by
  unfold mayB maxM
  rw [Bool.eq_iff_iff, decide_eq_true_eq, decide_eq_true_eq]
  omega
theorem over_int (a : Nat) : decide ((1125899906842624 : Int) < a) = !mayB a := by
  unfold mayB maxM
  rw [Bool.eq_iff_iff, Bool.not_eq_true', decide_eq_true_eq, decide_eq_false_iff_not]
  omega

theorem may_any (w : World) (a : Nat) : Calls Tryd.prog 15 #[.int .u64 (a : Int)] w fun e w' => e = .returned (.bool (mayB a)) ∧ w = w' := by
  have hm := Lib.hid (may_int a)
  go_enter Tryd.func15, Tryd.ntmps15
  go_wp2
  go_ret
  exact ⟨by rw [← hm.out]; rfl, rfl⟩

theorem may_at (w : World) (x : Int) (a : Nat) (hx : x = (a : Int)) : Calls Tryd.prog 15 #[.int .u64 x] w fun e w' => e = .returned (.bool (mayB a)) ∧ w = w' := by
  subst hx; exact may_any w a

set_option maxHeartbeats 1000000 in
theorem sum_any (w : World) (B : Nat) (A : Option Addr) (n c : Nat) (l : List Nat) (hn : n = l.length) (hS : SeesV w B A (Ns l)) (hmax : n ≤ 4611686018427387904) :
    Calls Tryd.prog 7 #[.slice A n c] w fun e w' => e = .returned (.tuple #[.int .u64 (sumV l : Int), .int .i64 (sumE l)]) ∧ w = w' := by
  subst hn
  have HS := Lib.hid hS
  clear hS
  go_enter Tryd.func7, Tryd.ntmps7
  go_wp2
  go_step3
  go_wp2
  go_step3
  go_wp2
  go_loop [4, 5, 11] (fun sv ev iv => ∃ k s : Nat, k ≤ l.length ∧ iv = .int .i64 k ∧ sv = .int .u64 (s : Int) ∧ ev = .int .i64 0 ∧ Hid ((l.take k).sum = s ∧ s ≤ maxM)) (fun _ _ iv => l.length - (intOf iv).toNat)
  case atStart => exact ⟨0, 0, by omega, rfl, rfl, rfl, by simp, by simp⟩
  case round =>
    obtain ⟨k, s, hk, rfl, rfl, rfl, Hs⟩ := hrel
    by_cases hlt : k < l.length
    · obtain ⟨b, off, rfl, hbb, hr⟩ := HS.out.at_ (k := k) (by simpa [Ns] using hlt)
      have hc := hr k (by simpa [Ns] using hlt)
      rw [Ns_get] at hc
      obtain ⟨a, ha⟩ : ∃ a, l[k] = a := ⟨_, rfl⟩
      rw [ha] at hc
      have Ha := Lib.hid ha
      clear hr ha
      by_cases hm : a ≤ maxM
      · have hw : IntKind.u64.wrap ((s : Int) + (a : Int)) = (s : Int) + (a : Int) := by
          have := Hs.out.2; rw [IntKind.wrap_u64]; unfold maxM at *; omega
        have HX : Hid ((s : Int) + (a : Int) = ((s + a : Nat) : Int)) := by show _ = _; omega
        have H1 := Lib.hid (may_yes hm)
        by_cases hm2 : s + a ≤ maxM
        · have H2 := Lib.hid (may_yes hm2)
          have HN : Hid ((l.take (k + 1)).sum = s + a ∧ s + a ≤ maxM) := ⟨by rw [sum_take l hlt, Hs.out.1, Ha.out], hm2⟩
          clear hm hm2 Hs
          go_wp2_with (first
            | (go_at_call 15; ((with_reducible refine (may_any _ a).mono ?_); rw [H1.out]; rintro e w' ⟨rfl, rfl⟩))
            | (go_at_call 15; ((with_reducible refine (may_at _ _ (s + a) HX.out).mono ?_); rw [H2.out]; rintro e w' ⟨rfl, rfl⟩)))
          go_round
          case rel => exact ⟨k + 1, s + a, by omega, by go_num, by go_num, rfl, HN.out⟩
          case measure => simp [intOf] <;> omega
        · have H2 := Lib.hid (may_no hm2)
          have HE := Lib.hid (sum_over hlt (by rw [Hs.out.1, Ha.out]; omega))
          clear hm hm2 Hs
          go_wp2_with (first
            | (go_at_call 15; ((with_reducible refine (may_any _ a).mono ?_); rw [H1.out]; rintro e w' ⟨rfl, rfl⟩))
            | (go_at_call 15; ((with_reducible refine (may_at _ _ (s + a) HX.out).mono ?_); rw [H2.out]; rintro e w' ⟨rfl, rfl⟩)))
          try rw [Exit.noGoto_ret]
          go_ret2
          exact ⟨by rw [HE.out.1, HE.out.2]; rfl, rfl⟩
      · have H1 := Lib.hid (may_no hm)
        have HE := Lib.hid (sum_over hlt (by rw [Hs.out.1, Ha.out]; omega))
        clear hm Hs
        go_wp2_with (go_at_call 15; ((with_reducible refine (may_any _ a).mono ?_); rw [H1.out]; rintro e w' ⟨rfl, rfl⟩))
        try rw [Exit.noGoto_ret]
        go_ret2
        exact ⟨by rw [HE.out.1, HE.out.2]; rfl, rfl⟩
    · obtain rfl : k = l.length := by omega
      have HE := Lib.hid (sum_in (l := l) (by have := Hs.out; rw [List.take_length] at this; omega))
      have HV : Hid (s = l.sum) := by have := Hs.out; rw [List.take_length] at this; exact this.1.symm
      clear Hs
      go_wp2
      try rw [Exit.noGoto_ret]
      go_ret2
      exact ⟨by rw [HE.out.1, HE.out.2, HV.out]; rfl, rfl⟩

theorem gt_int (a b : Nat) : decide ((b : Int) < (a : Int)) = decide (b < a) := by
  rw [Bool.eq_iff_iff, decide_eq_true_eq, decide_eq_true_eq]; omega
theorem sub_yes {a b : Nat} (h : a ≤ maxM) (hb : b ≤ a) : subV a b = a - b ∧ subE a b = 0 := by
  unfold subV subE; rw [if_pos ⟨h, hb⟩, if_pos ⟨h, hb⟩]; exact ⟨rfl, rfl⟩
theorem sub_no {a b : Nat} (h : ¬ (a ≤ maxM ∧ b ≤ a)) : subV a b = 0 ∧ subE a b = 5 := by
  unfold subV subE; rw [if_neg h, if_neg h]; exact ⟨rfl, rfl⟩

set_option maxHeartbeats 1000000 in
theorem sub_any (w : World) (a b : Nat) : Calls Tryd.prog 10 #[.int .u64 (a : Int), .int .u64 (b : Int)] w fun e w' => e = .returned (.tuple #[.int .u64 (subV a b : Int), .int .i64 (subE a b)]) ∧ w = w' := by
  by_cases ha : a ≤ maxM
  · have H1 := Lib.hid (may_yes ha)
    by_cases hb : b ≤ a
    · have HE := Lib.hid (sub_yes ha hb)
      have HS : Hid (IntKind.u64.wrap ((a : Int) - (b : Int)) = ((a - b : Nat) : Int)) := by show _ = _; rw [IntKind.wrap_u64]; unfold maxM at ha; omega
      clear ha
      go_enter Tryd.func10, Tryd.ntmps10
      go_wp2_with (go_at_call 15; ((with_reducible refine (may_any _ a).mono ?_); rw [H1.out]; rintro e w' ⟨rfl, rfl⟩))
      go_ret2
      exact ⟨by rw [HE.out.1, HE.out.2, ← HS.out]; rfl, rfl⟩
    · have HE := Lib.hid (sub_no (a := a) (b := b) (by omega))
      clear ha
      go_enter Tryd.func10, Tryd.ntmps10
      go_wp2_with (go_at_call 15; ((with_reducible refine (may_any _ a).mono ?_); rw [H1.out]; rintro e w' ⟨rfl, rfl⟩))
      go_ret2
      exact ⟨by rw [HE.out.1, HE.out.2]; rfl, rfl⟩
  · have H1 := Lib.hid (may_no ha)
    have HE := Lib.hid (sub_no (a := a) (b := b) (by omega))
    clear ha
    go_enter Tryd.func10, Tryd.ntmps10
    go_wp2_with (go_at_call 15; ((with_reducible refine (may_any _ a).mono ?_); rw [H1.out]; rintro e w' ⟨rfl, rfl⟩))
    go_ret2
    exact ⟨by rw [HE.out.1, HE.out.2]; rfl, rfl⟩

theorem sees_two (w : World) (a b : Nat) : SeesV (w.alloc (.cells #[.int .u64 (a : Int), .int .u64 (b : Int)] 23)) (w.heap.size + 1) (some ⟨w.heap.size, 0, none⟩) (Ns [a, b]) := by
  have h : Blk (w.alloc (.cells #[.int .u64 (a : Int), .int .u64 (b : Int)] 23)) w.heap.size 23 #[.int .u64 (a : Int), .int .u64 (b : Int)] := heap_alloc_new w _
  have := SeesV.blk h
  simpa [Ns] using this

theorem add_any (w : World) (a b : Nat) : Calls Tryd.prog 9 #[.int .u64 (a : Int), .int .u64 (b : Int)] w fun e w' => e = .returned (.tuple #[.int .u64 (sumV [a, b] : Int), .int .i64 (sumE [a, b])]) ∧ Below w.heap.size w w' := by
  have HS := Lib.hid (sees_two w a b)
  go_enter Tryd.func9, Tryd.ntmps9
  go_wp2_with (go_at_call 7; (refine (sum_any _ _ _ 2 2 [a, b] rfl HS.out (by omega)).mono ?_); rintro e w' ⟨rfl, rfl⟩)
  go_ret2
  exact ⟨rfl, nxAlloc (nxRefl w) _⟩

theorem num_any (w : World) (n : Int) : Calls Tryd.prog 14 #[.int .i64 n] w fun e w' => e = .returned (.int .i64 n) ∧ w = w' := by
  go_enter Tryd.func14, Tryd.ntmps14
  go_wp2
  go_ret
  exact ⟨rfl, rfl⟩

set_option maxHeartbeats 1000000 in
theorem rsub_any (w : World) (a b : Nat) : Calls Tryd.prog 11 #[.int .u64 (a : Int), .int .u64 (b : Int)] w fun e w' => e = .returned (.tuple #[.int .u64 (subV a b : Int), .int .i64 (subE a b)]) ∧ w = w' := by
  by_cases ha : a ≤ maxM
  · have H1 : decide ((1125899906842624 : Int) < a) = false := by rw [over_int, may_yes ha]; rfl
    by_cases hb : b ≤ a
    · have HE := Lib.hid (sub_yes ha hb)
      have HS : Hid (IntKind.u64.wrap ((a : Int) - (b : Int)) = ((a - b : Nat) : Int)) := by show _ = _; rw [IntKind.wrap_u64]; unfold maxM at ha; omega
      clear ha
      go_enter Tryd.func11, Tryd.ntmps11
      go_wp2
      go_ret2
      exact ⟨by rw [HE.out.1, HE.out.2, ← HS.out]; rfl, rfl⟩
    · have HE := Lib.hid (sub_no (a := a) (b := b) (by omega))
      clear ha
      go_enter Tryd.func11, Tryd.ntmps11
      go_wp2
      go_ret2
      exact ⟨by rw [HE.out.1, HE.out.2]; rfl, rfl⟩
  · have H1 : decide ((1125899906842624 : Int) < a) = true := by rw [over_int, may_no ha]; rfl
    have HE := Lib.hid (sub_no (a := a) (b := b) (by omega))
    clear ha
    go_enter Tryd.func11, Tryd.ntmps11
    go_wp2
    go_ret2
    exact ⟨by rw [HE.out.1, HE.out.2]; rfl, rfl⟩

set_option maxHeartbeats 1000000 in
theorem rsum_any (w : World) (B : Nat) (A : Option Addr) (n c : Nat) (l : List Nat) (hn : n = l.length) (hS : SeesV w B A (Ns l)) (hmax : n ≤ 4611686018427387904) :
    Calls Tryd.prog 8 #[.slice A n c] w fun e w' => e = .returned (.tuple #[.int .u64 (sumV l : Int), .int .i64 (sumE l)]) ∧ w = w' := by
  subst hn
  have HS := Lib.hid hS
  clear hS
  go_enter Tryd.func8, Tryd.ntmps8
  go_wp2
  go_loop [4, 5] (fun sv iv => ∃ k s : Nat, k ≤ l.length ∧ iv = .int .i64 k ∧ sv = .int .u64 (s : Int) ∧ Hid ((l.take k).sum = s ∧ s ≤ maxM)) (fun _ iv => l.length - (intOf iv).toNat)
  case atStart => exact ⟨0, 0, by omega, rfl, rfl, by simp, by simp⟩
  case round =>
    obtain ⟨k, s, hk, rfl, rfl, Hs⟩ := hrel
    by_cases hlt : k < l.length
    · obtain ⟨b, off, rfl, hbb, hr⟩ := HS.out.at_ (k := k) (by simpa [Ns] using hlt)
      have hc := hr k (by simpa [Ns] using hlt)
      rw [Ns_get] at hc
      obtain ⟨a, ha⟩ : ∃ a, l[k] = a := ⟨_, rfl⟩
      rw [ha] at hc
      have Ha := Lib.hid ha
      clear hr ha
      by_cases hm : a ≤ maxM
      · have hw : IntKind.u64.wrap ((s : Int) + (a : Int)) = (s : Int) + (a : Int) := by
          have := Hs.out.2; rw [IntKind.wrap_u64]; unfold maxM at *; omega
        have H1 : decide ((1125899906842624 : Int) < a) = false := by rw [over_int, may_yes hm]; rfl
        by_cases hm2 : s + a ≤ maxM
        · have H2 : decide ((1125899906842624 : Int) < (s : Int) + (a : Int)) = false := by rw [← Int.natCast_add, over_int, may_yes hm2]; rfl
          have HN : Hid ((l.take (k + 1)).sum = s + a ∧ s + a ≤ maxM) := ⟨by rw [sum_take l hlt, Hs.out.1, Ha.out], hm2⟩
          clear hm hm2 Hs
          go_wp2
          go_round
          case rel => exact ⟨k + 1, s + a, by omega, by go_num, by go_num, HN.out⟩
          case measure => simp [intOf] <;> omega
        · have H2 : decide ((1125899906842624 : Int) < (s : Int) + (a : Int)) = true := by rw [← Int.natCast_add, over_int, may_no hm2]; rfl
          have HE := Lib.hid (sum_over hlt (by rw [Hs.out.1, Ha.out]; omega))
          clear hm hm2 Hs
          go_wp2
          go_ret2
          exact ⟨by rw [HE.out.1, HE.out.2]; rfl, rfl⟩
      · have H1 : decide ((1125899906842624 : Int) < a) = true := by rw [over_int, may_no hm]; rfl
        have HE := Lib.hid (sum_over hlt (by rw [Hs.out.1, Ha.out]; omega))
        clear hm Hs
        go_wp2
        go_ret2
        exact ⟨by rw [HE.out.1, HE.out.2]; rfl, rfl⟩
    · obtain rfl : k = l.length := by omega
      have HE := Lib.hid (sum_in (l := l) (by have := Hs.out; rw [List.take_length] at this; omega))
      have HV : Hid (s = l.sum) := by have := Hs.out; rw [List.take_length] at this; exact this.1.symm
      clear Hs
      go_wp2
      go_ret2
      exact ⟨by rw [HE.out.1, HE.out.2, HV.out]; rfl, rfl⟩
end Go.Proofs.YtipjhjgjomfflaaDoor
