/-
  tree: the document's Children, Under.
-/
import Derived.Test.YtefgnemcjgibaaaTeJ
namespace Go.Proofs.Ytefgnemcjgibaaa
open Go.RowKit

theorem tpV_kid {T : List Nd} {n i : Nat} (hi : i < T.length) : (tpV T i = (n : Int)) ↔ kidB T n i = true := by
  unfold tpV kidB
  by_cases h0 : i = 0
  · subst h0
    simp
  · have : 0 < i := by omega
    simp only [if_neg h0, this, decide_true, Bool.true_and, beq_iff_eq]
    omega
theorem tpV_bd {T : List Nd} (o : OkT T) {i : Nat} (hi : i < T.length) : -1 ≤ tpV T i ∧ tpV T i < 1000 := by
  unfold tpV
  have hm := o.max
  by_cases h0 : i = 0
  · rw [if_pos h0]; omega
  · rw [if_neg h0]
    have := o.lt i (by omega) hi
    omega
set_option maxRecDepth 100000 in
set_option maxHeartbeats 2000000 in
theorem rt_kids (w : World) (T : List Nd) (r : RtM) (h : RtOk w T r) (o : OkT T) (n : Nat) : Calls Try.prog 19 #[.pointer (some ⟨r.q, 0, none⟩), .int .i64 (n : Int)] w fun e w' => ∃ A c, e = .returned (.slice A (kidsT T n).length c) ∧ SeesV w' w'.heap.size A (tiC (kidsT T n)) ∧ Below w.heap.size w w' := by
  have hmx := o.max
  have HH := Lib.hid h
  have HO := Lib.hid o
  obtain ⟨i2, hi2, hz0, hz1, hz2⟩ := info_parts Try.tinfoI
  clear h o
  go_enter Try.func19, Try.ntmps19
  go_wp2
  go_loopw [5, 6] (fun qv iv wr => ∃ (i : Nat) (K : List Nat) (A : Option Addr) (c : Nat), i ≤ T.length ∧ qv = .slice A K.length c ∧ iv = .int .i64 i ∧ Hid (K = (List.range i).filter (kidB T n)) ∧ K.length ≤ i ∧ Hid (wr.ownsRow w.heap.size 3 1 (.slice A K.length c) K.length (tiC K)) ∧ Hid (Below w.heap.size w wr)) (fun _ iv _ => T.length - (intOf iv).toNat)
  case atStart => exact ⟨0, [], none, 0, by omega, rfl, rfl, rfl, by simp, (⟨rfl, .inl ⟨rfl, rfl⟩⟩ : w.ownsRow w.heap.size 3 1 (.slice none 0 0) 0 []), nxRefl w⟩
  case round =>
    obtain ⟨i, K, A, c, hi, rfl, rfl, HK, hKl, HR, HV⟩ := hrel
    have HD : Hid (RtOk wr T r) := HH.out.later HV.out
    have hcq : wr.cell? ⟨r.q, 0, none⟩ = some (.slice r.A T.length r.c) := HD.out.b.cell 0
    by_cases hlt : i < T.length
    · obtain ⟨b, off, hA, hb, hc⟩ := HD.out.cell hlt
      rw [hA] at hcq
      have hci := hc i hlt
      have hbd := tpV_bd HO.out hlt
      have hkd := tpV_kid (n := n) hlt
      have hnx : (List.range (i + 1)).filter (kidB T n) = (List.range i).filter (kidB T n) ++ if kidB T n i = true then [i] else [] := by
        rw [List.range_succ, List.filter_append, List.filter_cons]
        by_cases e : kidB T n i = true <;> simp [e]
      have HNx := Lib.hid hnx
      obtain ⟨z, hz⟩ : ∃ z, tpV T i = z := ⟨_, rfl⟩
      rw [hz] at hci hbd hkd
      have hin : (i : Int) < (T.length : Int) := by omega
      clear hc hnx hz hb hA
      by_cases hzn : z = (n : Int)
      · have hk := hkd.1 hzn
        have HNx2 : Hid ((List.range (i + 1)).filter (kidB T n) = K ++ [i]) := by show _ = _; rw [HNx.out, if_pos hk, HK.out]
        subst hzn
        clear hkd hk HNx hbd
        have DA : Hid (Below wr.heap.size wr (wr.alloc (.cells #[.int .i64 (i : Int)] 3))) := nxAlloc (nxRefl wr) _
        have hwb : w.heap.size ≤ wr.heap.size := HV.out.size
        go_wp2_with ((with_reducible show wpList _ _ _ (⟨some 28, _, _, _, _, _⟩ :: _) _ _); refine wpList_append_seesV rfl (.tmp 25) (.tmp 27) 22 rfl w.heap.size 3 i2 _ 1 8 Try.underlying22 hi2 hz0 hz1 hz2 rfl (by decide) (.slice A K.length c) K.length (tiC K) rfl (own_below HR.out DA.out (fun g hg => (own_lt HR.out g hg).2)) _ (some ⟨wr.heap.size, 0, none⟩) 1 1 [.int .i64 (i : Int)] rfl rfl (SeesV.blk (heap_alloc_new wr _)) (by simp [Value.oneCell']) (by omega) (by omega) (by simp; omega) ?_; intro v7 w7 ho7 hg7 ha7; obtain ⟨A7, c7, rfl⟩ := own_form ho7; have O7 := Lib.hid ho7; have V7 : Hid (Below w.heap.size w w7) := (nxAlloc HV.out _).grown hg7 (by simp; omega) (fun j hj => (own_lt HR.out j hj).1); clear ho7 hg7 ha7)
        go_roundw
        case rel =>
          have e2 : (K ++ [i]).length = K.length + 1 := by simp
          refine ⟨i + 1, K ++ [i], A7, c7, by omega, by rw [e2], by go_num, HNx2.out.symm, by rw [e2]; omega, ?_, V7.out⟩
          show World.ownsRow _ _ _ _ _ _ _
          have e3 : tiC (K ++ [i]) = tiC K ++ [.int .i64 (i : Int)] := by simp [tiC]
          rw [e2, e3]
          exact O7.out
        case measure => simp [intOf] <;> omega
      · have hk : ¬ kidB T n i = true := fun e => hzn (hkd.2 e)
        have HNx2 : Hid ((List.range (i + 1)).filter (kidB T n) = K) := by show _ = _; rw [HNx.out, if_neg hk, HK.out, List.append_nil]
        have hzb : (z == (n : Int)) = false := by rw [beq_eq_false_iff_ne]; exact hzn
        clear hkd hk HNx hbd
        go_wp2
        go_roundw
        case rel => exact ⟨i + 1, K, A, c, by omega, rfl, by go_num, HNx2.out.symm, by omega, HR.out, HV.out⟩
        case measure => simp [intOf] <;> omega
    · obtain rfl : i = T.length := by omega
      go_wp2
      go_ret
      have hK : K = kidsT T n := HK.out
      rw [← hK]
      exact ⟨A, c, rfl, SeesV.own HR.out, HV.out⟩
set_option maxRecDepth 100000 in
set_option maxHeartbeats 2000000 in
theorem rt_under (w : World) (T : List Nd) (r : RtM) (h : RtOk w T r) (o : OkT T) (a b : Nat) (ha : a < T.length) (hb : b < T.length) (z : Bool) (hz : z = true ↔ Und T a b) : Calls Try.prog 20 #[.pointer (some ⟨r.q, 0, none⟩), .int .i64 (a : Int), .int .i64 (b : Int)] w fun e w' => e = .returned (.bool z) ∧ w' = w := by
  have hmx := o.max
  have hia := rt_in w T r h a ha
  have hib := rt_in w T r h b hb
  have Hia := Lib.hid hia
  have Hib := Lib.hid hib
  have HH := Lib.hid h
  have HO := Lib.hid o
  have HZ := Lib.hid hz
  have Ha := Lib.hid ha
  have Hb := Lib.hid hb
  have hcq : w.cell? ⟨r.q, 0, none⟩ = some (.slice r.A T.length r.c) := h.b.cell 0
  obtain ⟨b0, off, hA, hb0, hc⟩ := h.cell ha
  rw [hA] at hcq
  have HC := Lib.hid hc
  clear hia hib h o hz ha hb hA hb0 hc
  go_enter Try.func20, Try.ntmps20
  go_wp2_with (first
    | ((with_reducible show Calls _ _ #[_, .int .i64 (a : Int)] _ _); refine Hia.out.mono ?_; rintro e w1 ⟨rfl, hw1⟩; obtain rfl := hw1.symm)
    | ((with_reducible show Calls _ _ #[_, .int .i64 (b : Int)] _ _); refine Hib.out.mono ?_; rintro e w2 ⟨rfl, hw2⟩; obtain rfl := hw2.symm))
  go_loopw [1] (fun av wr => ∃ v : Int, av = .int .i64 v ∧ -1 ≤ v ∧ wr = w ∧ Hid ((v = -1 ∧ ¬ Und T a b) ∨ ∃ x : Nat, v = x ∧ x < T.length ∧ (Und T a b ↔ Und T x b))) (fun av _ => (intOf av + 1).toNat)
  case atStart => exact ⟨a, rfl, by omega, rfl, .inr ⟨a, rfl, Ha.out, Iff.rfl⟩⟩
  case round =>
    obtain ⟨v, rfl, hv1, rfl, HX⟩ := hrel
    by_cases hv : v = -1
    · subst hv
      have hnu : ¬ Und T a b := by
        rcases HX.out with ⟨_, h⟩ | ⟨x, hx, _⟩
        · exact h
        · omega
      have hne : ((-1 : Int) != (b : Int)) = true := by rw [bne_iff_ne]; omega
      have hne2 : ((-1 : Int) == (b : Int)) = false := by rw [beq_eq_false_iff_ne]; omega
      have hzf : z = false := by cases z with | true => exact absurd (HZ.out.1 rfl) hnu | false => rfl
      subst hzf
      go_wp2
      go_ret
      exact ⟨by first | rfl | simp [hne2], by first | rfl | trivial⟩
    · obtain ⟨x, rfl, hxl, hxu⟩ : ∃ x : Nat, v = x ∧ x < T.length ∧ (Und T a b ↔ Und T x b) := by
        rcases HX.out with ⟨h, _⟩ | h
        · exact absurd h hv
        · exact h
      by_cases hxb : x = b
      · have hzt : z = true := HZ.out.2 (hxu.2 (by rw [hxb]; exact .refl _))
        subst hxb hzt
        have hne : ((x : Int) != (x : Int)) = false := by rw [bne_self_eq_false]
        clear hxu
        go_wp2
        go_ret
        first | exact ⟨rfl, rfl⟩ | simp
      · have hne : ((x : Int) != (b : Int)) = true := by rw [bne_iff_ne]; omega
        have hne2 : ((x : Int) == (b : Int)) = false := by rw [beq_eq_false_iff_ne]; omega
        have hge : (0 : Int) ≤ (x : Int) := by omega
        have hcx := HC.out x hxl
        have hbd := tpV_bd HO.out hxl
        have HN : Hid ((tpV T x = -1 ∧ ¬ Und T a b) ∨ ∃ y : Nat, tpV T x = y ∧ y < T.length ∧ (Und T a b ↔ Und T y b)) := by
          unfold tpV
          by_cases h0 : x = 0
          · left
            refine ⟨if_pos h0, fun hu => ?_⟩
            have := hxu.1 hu
            cases this with
            | refl => exact hxb rfl
            | up h _ _ => omega
          · right
            have hp := HO.out.lt x (by omega) hxl
            refine ⟨(ndT T x).par, if_neg h0, by omega, hxu.trans ⟨fun hu => ?_, fun hu => .up (by omega) hxl hu⟩⟩
            cases hu with
            | refl => exact absurd rfl hxb
            | up _ _ h => exact h
        have HLt : Hid (tpV T x < (x : Int)) := by
          show _ < _
          unfold tpV
          by_cases h0 : x = 0
          · rw [if_pos h0]; omega
          · rw [if_neg h0]
            have := HO.out.lt x (by omega) hxl
            omega
        obtain ⟨y, hy⟩ : ∃ y, tpV T x = y := ⟨_, rfl⟩
        rw [hy] at hcx hbd HN HLt
        have hxn : (x : Int) < (T.length : Int) := by omega
        clear hxu hy hv
        go_wp2
        go_roundw
        case rel => exact ⟨y, rfl, hbd.1, by first | rfl | trivial, HN.out⟩
        case measure => have := HLt.out; simp [intOf] <;> omega
end Go.Proofs.Ytefgnemcjgibaaa
