/-
  ShaSums: the walk.
-/
import Derived.Test.YtheekhogmnnkaaaDoorTxt
import Derived.Test.YtheekhogmnnkaaaDoorEq
namespace Go.Proofs.YtheekhogmnnkaaaDoor
open Go.RowKit

/-- As many bytes as are counted. -/
def smin (l : List (List UInt8)) : Nat := (l.map fun p => min p.length 5001).sum
theorem smin_nil : smin [] = 0 := rfl
theorem smin_snoc (l : List (List UInt8)) (p : List UInt8) : smin (l ++ [p]) = smin l + min p.length 5001 := by simp [smin]
theorem smin_le (l : List (List UInt8)) : smin l ≤ l.length * 5001 := by
  induction l with
  | nil => simp [smin]
  | cons p l ih =>
    have h1 : smin (p :: l) = min p.length 5001 + smin l := by simp [smin]
    rw [h1, List.length_cons, Nat.add_mul]
    have : min p.length 5001 ≤ 5001 := Nat.min_le_right _ _
    omega
theorem smin_few (l : List (List UInt8)) (h : smin l ≤ 5000) : l.flatten.length ≤ 5000 := by
  have : l.flatten.length = smin l := by
    induction l with
    | nil => rfl
    | cons p l ih =>
      have h1 : smin (p :: l) = min p.length 5001 + smin l := by simp [smin]
      rw [h1] at h ⊢
      have h2 : min p.length 5001 ≤ p.length := Nat.min_le_left _ _
      have h3 := ih (by omega)
      rw [List.flatten_cons, List.length_append, h3]
      omega
  omega

/-- Is there more than is gone through? -/
def muchB (ps : List (List UInt8)) : Bool := decide (100 < ps.length) || decide (5000 < smin ps)
theorem muchB_few {ps : List (List UInt8)} (h : muchB ps = false) : ps.length ≤ 100 ∧ ps.flatten.length ≤ 5000 := by
  rw [muchB, Bool.or_eq_false_iff] at h
  have h1 := of_decide_eq_false h.1
  have h2 := of_decide_eq_false h.2
  exact ⟨by omega, smin_few ps (by omega)⟩
theorem muchB_many {ps : List (List UInt8)} (h : 100 < ps.length) : muchB ps = true := by rw [muchB, decide_eq_true h, Bool.true_or]
theorem muchB_eq (ps : List (List UInt8)) (s : Nat) (h : s = smin ps) : (decide ((100 : Int) < (ps.length : Int)) || decide ((5000 : Int) < (s : Int))) = muchB ps := by
  subst h
  rw [muchB]
  congr 1 <;> exact decide_eq_decide.2 (by omega)

set_option maxHeartbeats 1000000 in
set_option maxRecDepth 100000 in
theorem much_any (w : World) (A : Option Addr) (n c : Nat) (ps : List (List UInt8)) (hn : n = ps.length) (hS : SeesL w w.heap.size A ps) (hbig : n ≤ 9223372036854775807) (hrow : ∀ p ∈ ps, p.length ≤ 9223372036854775807) :
    Calls Tryd.prog 7 #[.slice A n c] w fun e w' => e = .returned (.bool (muchB ps)) ∧ w' = w := by
  subst hn
  have HS := Lib.hid hS
  have Hrow := Lib.hid hrow
  clear hS hrow
  go_enter Tryd.func7, Tryd.ntmps7
  go_wp2
  go_loop [3, 4] (fun v i => ∃ k s : Nat, k ≤ ps.length ∧ k ≤ 101 ∧ i = .int .i64 k ∧ v = .int .i64 s ∧ s ≤ k * 5001 ∧ Hid (s = smin (ps.take k))) (fun _ i => 102 - (intOf i).toNat)
  case atStart => exact ⟨0, 0, by omega, by omega, rfl, rfl, by omega, rfl⟩
  case round =>
    obtain ⟨k, s, hk, hk1, rfl, rfl, hs, Hs⟩ := hrel
    by_cases hlt : k < ps.length
    · by_cases h100 : k ≤ 100
      · obtain ⟨b, off, Ai, ci, rfl, hc, hci, ho⟩ := HS.out.at_ k hlt
        have hpl : ps[k].length ≤ 9223372036854775807 := Hrow.out _ (List.getElem_mem hlt)
        have HSn : Hid (smin (ps.take (k + 1)) = smin (ps.take k) + min ps[k].length 5001) := by show _ = _; rw [List.take_succ_eq_append_getElem hlt, smin_snoc]
        clear ho
        generalize ps[k] = p at *
        by_cases hm : p.length ≤ 5001
        · have Hm : Hid (min p.length 5001 = p.length) := Nat.min_eq_left hm
          go_wp2
          go_round
          case rel => exact ⟨k + 1, s + p.length, by omega, by omega, by go_num, by go_num, by omega, by show _ = _; rw [HSn.out, Hm.out, Hs.out]⟩
          case measure => simp [intOf]; omega
        · have Hm : Hid (min p.length 5001 = 5001) := Nat.min_eq_right (by omega)
          go_wp2
          go_round
          case rel => exact ⟨k + 1, s + 5001, by omega, by omega, by go_num, by go_num, by omega, by show _ = _; rw [HSn.out, Hm.out, Hs.out]⟩
          case measure => simp [intOf]; omega
      · have hl : 100 < ps.length := by omega
        go_wp2
        go_ret
        exact ⟨by rw [muchB_many hl]; rfl, rfl⟩
    · obtain rfl : k = ps.length := by omega
      rw [List.take_length] at Hs
      by_cases hl : 100 < ps.length
      · go_wp2
        go_ret
        exact ⟨by rw [muchB_many hl]; rfl, rfl⟩
      · go_wp2
        go_ret
        exact ⟨by rw [← muchB_eq ps s Hs.out]; rfl, rfl⟩

set_option maxHeartbeats 1000000 in
set_option maxRecDepth 100000 in
theorem shaSums_any (w : World) (hT : Tabs w) (A : Option Addr) (n c : Nat) (ps : List (List UInt8)) (hn : n = ps.length) (hS : SeesL w w.heap.size A ps) (hbig : n ≤ 9223372036854775807) (hrow : ∀ p ∈ ps, p.length ≤ 9223372036854775807) (S : ByteArray) :
    Calls Tryd.prog 3 #[.slice A n c, .string S] w fun e w' => e = .returned (.bool true) ∧ Below w.heap.size w w' := by
  have HT := Lib.hid hT
  have HS := Lib.hid hS
  have Hn := Lib.hid hn
  have Hrow := Lib.hid hrow
  clear hT hS hn hrow
  have heq : ∀ (l : List UInt8) wq, (binOp .eql 28 (.agg (By (shaB l)).toArray) (.agg (By (shaB l)).toArray)).run Tryd.prog wq = .ok (.bool true) wq := by
    intro l wq
    rw [run_eql_bytes 32 28 5 Tryd.underlying28 Tryd.underlying5 Tryd.u8size (shaB l) (shaB l) rfl rfl, beq_self_eq_true]
  cases hM : muchB ps with
  | true =>
    have HM := Lib.hid hM
    clear hM
    go_enter Tryd.func3, Tryd.ntmps3
    go_wp2_with (first
      | (go_at_call 7; refine (much_any _ A n c ps Hn.out HS.out hbig Hrow.out).mono ?_; rw [HM.out]; rintro e w' ⟨rfl, rfl⟩)
      | (go_at_call 8; refine (known_any _ HT.out).mono ?_; rintro e w1 ⟨rfl, hb1⟩; have Hb1 := Lib.hid hb1; clear hb1))
    go_ret
    exact ⟨rfl, Hb1.out⟩
  | false =>
    have HM := Lib.hid hM
    obtain ⟨hf1, hf2⟩ := muchB_few hM
    have HF := Lib.hid hf2
    have hn100 : n ≤ 100 := by rw [Hn.out]; exact hf1
    clear hM hf1 hf2
    by_cases hS3 : S.size ≤ 3000
    · obtain ⟨m, hm⟩ : ∃ m, ps.flatten = m := ⟨_, rfl⟩
      have HFl := Lib.hid hm
      have hml : m.length ≤ 5000 := by rw [← hm]; exact HF.out
      clear hm
      go_enter Tryd.func3, Tryd.ntmps3
      go_wp2_with (first
        | (go_at_call 7; refine (much_any _ A n c ps Hn.out HS.out hbig Hrow.out).mono ?_; rw [HM.out]; rintro e w' ⟨rfl, rfl⟩)
        | (go_at_call 9; refine (join_any _ A n c ps Hn.out HS.out (by omega) (by have := HF.out; omega)).mono ?_; rw [HFl.out]; rintro e w1 ⟨A1, c1, rfl, hs1, hb1⟩; have HS1 := Lib.hid hs1; have Hb1 := Lib.hid hb1; clear hs1 hb1)
        | (go_at_call 10; refine (sum_any _ (HT.out.later Hb1.out) A n c ps Hn.out (HS.out.shift Hb1.out Hb1.out.size) (by have := HF.out; omega) (by omega)).mono ?_; rw [HFl.out]; rintro e w2 ⟨rfl, hb2⟩; have HS2 := Lib.hid (HS1.out.later hb2); have Hb2 := Lib.hid (Hb1.out.trans (hb2.mono Hb1.out.size)); clear hb2)
        | (go_at_call 11; refine (rsum_any _ A1 _ c1 m rfl HS2.out.size (by omega)).mono ?_; rintro e w3 ⟨rfl, hb3⟩; have HS3 := Lib.hid (HS2.out.later hb3); have Hb3 := Lib.hid (Hb2.out.trans (hb3.mono Hb2.out.size)); clear hb3)
        | (go_at_call 12; refine (tag_any _ (HT.out.later Hb3.out) S A n c ps Hn.out (HS.out.shift Hb3.out Hb3.out.size) (by have := HF.out; omega) (by omega) (by omega)).mono ?_; rw [HFl.out]; rintro e w4 ⟨rfl, hb4⟩; have HS4 := Lib.hid (HS3.out.later hb4); have Hb4 := Lib.hid (Hb3.out.trans (hb4.mono Hb3.out.size)); clear hb4)
        | (go_at_call 13; refine (rtag_any _ S A1 _ c1 m rfl HS4.out.size (by omega) (by omega)).mono ?_; rintro e w5 ⟨rfl, hb5⟩; have Hb5 := Lib.hid (Hb4.out.trans (hb5.mono Hb4.out.size)); clear hb5)
        | (go_at_call 8; refine (known_any _ (HT.out.later Hb5.out)).mono ?_; rintro e w6 ⟨rfl, hb6⟩; have Hb6 := Lib.hid (Hb5.out.trans (hb6.mono Hb5.out.size)); clear hb6))
      go_ret
      exact ⟨rfl, Hb6.out⟩
    · go_enter Tryd.func3, Tryd.ntmps3
      go_wp2_with (first
        | (go_at_call 7; refine (much_any _ A n c ps Hn.out HS.out hbig Hrow.out).mono ?_; rw [HM.out]; rintro e w' ⟨rfl, rfl⟩)
        | (go_at_call 8; refine (known_any _ HT.out).mono ?_; rintro e w1 ⟨rfl, hb1⟩; have Hb1 := Lib.hid hb1; clear hb1))
      go_ret
      exact ⟨rfl, Hb1.out⟩

end Go.Proofs.YtheekhogmnnkaaaDoor
