/-
  dag: where: places that are asked for, gone over.
-/
import Derived.Test.YtndkjmmmneianaaDoorDgD
namespace Go.Proofs.YtndkjmmmneianaaDoor
open Go.RowKit Go.Shelf

theorem where_any (w : World) (q fa : Nat) (caps : Array Value) :
    Calls Tryd.prog 43 #[.pointer (some ⟨q, 0, none⟩), .func (.func fa) #[] caps] w fun e w' => e = .returned (.func (.func 65) #[] #[.pointer (some ⟨w.heap.size, 0, none⟩), .pointer (some ⟨w.heap.size + 1, 0, none⟩)]) ∧ w' = ((w.alloc (.cells #[.pointer (some ⟨q, 0, none⟩)] 27)).alloc (.cells #[.func (.func fa) #[] caps] 77)) := by
  have hmf : ∀ (fn : Fn) (first cap : Array Value) (w : World), (Instr.makeFunc fn first cap).run Tryd.prog w = .ok (.func fn first cap) w := fun _ _ _ _ => rfl
  go_enter Tryd.func43, Tryd.ntmps43
  go_wp2
  go_ret
  exact ⟨rfl, rfl⟩
theorem flt_len (bb : Nat → Bool) (k : Nat) : ((List.range (k + 1)).filter bb).length = ((List.range k).filter bb).length + (if bb k then 1 else 0) := by
  rw [List.range_succ, List.filter_append, List.length_append]
  congr 1
  by_cases h : bb k = true <;> simp [h]
theorem flt_get (bb : Nat → Bool) {N k : Nat} (hk : k < N) (hb : bb k = true) : ∃ h : ((List.range k).filter bb).length < ((List.range N).filter bb).length, ((List.range N).filter bb)[((List.range k).filter bb).length] = k := by
  have e : List.range N = List.range k ++ (k :: (List.range' (k + 1) (N - k - 1))) := by
    rw [List.range_eq_range', List.range_eq_range']
    have h1 : N = k + (1 + (N - k - 1)) := by omega
    conv => lhs; rw [h1]
    rw [← List.range'_append_1]
    congr 1
    rw [Nat.add_comm 1, List.range'_succ]
    simp
  have e2 : (List.range N).filter bb = (List.range k).filter bb ++ k :: (List.range' (k + 1) (N - k - 1)).filter bb := by rw [e, List.filter_append, List.filter_cons, if_pos hb]
  refine ⟨by rw [e2]; simp, ?_⟩
  simp only [e2]
  rw [List.getElem_append_right (Nat.le_refl _)]
  simp
section
attribute [local go_sem] Oper.semAt_some
set_option maxRecDepth 100000 in
set_option maxHeartbeats 4000000 in
/-- The iterator over the places that are asked for. -/
theorem where1_in (w : World) (base : Nat) (m : GrM) (G : Gr) (h : GrOk w base m) (hg : GrI0 m G) (hne : 0 < G.length) (gb ab fa : Nat) (caps : Array Value) (bb : Nat → Bool) (B : Nat) (hBw : B ≤ w.heap.size) (hgb : gb < B) (hab : ab < B) (htB : ∀ k, touch m k → k < B)
    (hcg : w.cell? ⟨gb, 0, none⟩ = some (.pointer (some ⟨m.q, 0, none⟩))) (hca : w.cell? ⟨ab, 0, none⟩ = some (.func (.func fa) #[] caps)) (ea : ∀ args w, (callFunc fa args).run Tryd.prog w = .ok (.enter fa args) w)
    (hask : ∀ W1 k, Below B w W1 → k < G.length → Calls Tryd.prog fa (#[.int .i64 (k : Int)] ++ caps) W1 fun e w' => e = .returned (.bool (bb k)) ∧ Below W1.heap.size W1 w')
    (l : Nat) (J : Nat → World → Prop) (Jx : World → Prop) (W9 : World) (hW : Below B w W9) (hJ : ∀ k W1 W2, J k W1 → Below W1.heap.size W1 W2 → J k W2)
    (hY : ∀ k vs W1, k < ((List.range G.length).filter bb).length → (∃ h : k < ((List.range G.length).filter bb).length, vs = #[.int .i64 (((List.range G.length).filter bb)[k] : Int)]) → J k W1 → Below B W9 W1 → YieldAt Fence.wide (5 - 1 - 1) Tryd.prog l vs W1 fun e W' => (e = .returned (.bool true) ∧ J (k + 1) W' ∧ Below B W1 W') ∨ (e = .returned (.bool false) ∧ Jx W'))
    (h0 : J 0 W9) : CallsIn Fence.wide (5 - 1) Tryd.prog 65 #[.func (.yield l) #[] #[], .pointer (some ⟨gb, 0, none⟩), .pointer (some ⟨ab, 0, none⟩)] W9 fun e W' => (∃ v, e = .returned v) ∧ ((J ((List.range G.length).filter bb).length W' ∧ Below B W9 W') ∨ Jx W') := by
  have HGr : Hid (∀ W1, Below B w W1 → GrOk W1 base m) := fun W1 hb => h.keeps (⟨hb.os, hb.tape, hb.output, hb.size, fun k hk hn => hb.block k (by omega)⟩ : Keeps (fun k => B ≤ k) w W1) (fun k hk e => by have := htB k hk; omega)
  have HG := Lib.hid hg
  have HIl : Hid (0 < m.ids.length) := by show _ < _; rw [hg.ilen]; exact hne
  have HIe := Lib.hid hg.ilen
  have HA := Lib.hid hask
  have HY := Lib.hid hY
  have HJ := Lib.hid hJ
  have HW := Lib.hid hW
  have HBw := Lib.hid hBw
  have hmx : G.length ≤ 1000000 := by rw [← hg.len]; exact hg.max
  have c9 : W9.cell? ⟨gb, 0, none⟩ = some (.pointer (some ⟨m.q, 0, none⟩)) := (hW.cell (p := ⟨gb, 0, none⟩) hgb).trans hcg
  have hlen := len_any W9 base m (HGr.out W9 hW) HIl.out
  rw [hg.ilen] at hlen
  have HLen := Lib.hid hlen
  have HCa : Hid (∀ W1, Below B w W1 → W1.cell? ⟨ab, 0, none⟩ = some (.func (.func fa) #[] caps)) := fun W1 hb => (hb.cell (p := ⟨ab, 0, none⟩) hab).trans hca
  obtain ⟨N, hN⟩ : ∃ N, G.length = N := ⟨_, rfl⟩
  rw [hN] at HA HY hmx HLen ⊢
  clear h hg hask hY hJ hW hlen hcg hca hN htB hBw hne
  refine callsIn_of_wp Tryd.func65 rfl trivial ?_ rfl
  simp only [Tryd.ntmps65, List.size_toArray, List.length_cons, List.length_nil, Nat.reduceAdd, Nat.reduceSub, Array.replicate_succ, Array.replicate_zero, List.push_toArray, List.append_toArray, List.nil_append, List.cons_append]
  gi_wp2_with (first
    | ((with_reducible show Fence.wide.fn 20 ∧ _); refine ⟨trivial, ?_⟩; refine (callsIn_wide.2 HLen.out).mono ?_; rintro e w5 ⟨rfl, hw5⟩; obtain rfl := hw5.symm))
  gi_loopw [7] (fun i wr => ∃ k : Nat, k ≤ N ∧ i = .int .i64 k ∧ Hid (J ((List.range k).filter bb).length wr) ∧ Hid (Below B W9 wr)) (fun i _ => N - (intOf i).toNat)
  case atStart => exact ⟨0, Nat.zero_le _, rfl, h0, Below.refl _ _⟩
  case round =>
    obtain ⟨k, hk, rfl, hJs, hnx⟩ := hrel
    by_cases hlt : k < N
    · have hbw := HW.out.trans hnx.out
      have hcx : wr.cell? ⟨ab, 0, none⟩ = some (.func (.func fa) #[] caps) := HCa.out wr hbw
      have hak := HA.out wr k hbw hlt
      have hfl := flt_len bb k
      have HBr : Hid (B ≤ wr.heap.size) := Nat.le_trans HBw.out (hbw.size)
      cases hb : bb k with
      | false =>
        rw [hb] at hak hfl
        have HAk := Lib.hid hak
        have HFl : Hid (((List.range (k + 1)).filter bb).length = ((List.range k).filter bb).length) := hfl
        clear hak hfl hbw
        gi_wp2_with (first
          | ((with_reducible show Fence.wide.fn fa ∧ _); refine ⟨trivial, ?_⟩; refine (callsIn_wide.2 HAk.out).mono ?_; rintro e w5 ⟨rfl, hb5⟩; have V5 := Lib.hid hb5; clear hb5))
        refine ⟨fun _ _ => trivial, ?_⟩
        gi_wp2
        go_roundw
        case rel => exact ⟨k + 1, by omega, by go_num, by rw [HFl.out]; exact HJ.out _ _ _ hJs.out V5.out, hnx.out.trans (V5.out.mono HBr.out)⟩
        case measure => simp [intOf] <;> omega
      | true =>
        rw [hb] at hak hfl
        obtain ⟨hi, hge⟩ := flt_get bb hlt hb
        have HAk := Lib.hid hak
        have HFl : Hid (((List.range (k + 1)).filter bb).length = ((List.range k).filter bb).length + 1) := hfl
        have HYk : Hid (∀ W1, J ((List.range k).filter bb).length W1 → Below B W9 W1 → YieldAt Fence.wide (5 - 1 - 1) Tryd.prog l #[.int .i64 (k : Int)] W1 fun e W' => (e = .returned (.bool true) ∧ J (((List.range k).filter bb).length + 1) W' ∧ Below B W1 W') ∨ (e = .returned (.bool false) ∧ Jx W')) := fun W1 hj1 hb1 => HY.out _ _ W1 hi ⟨hi, by rw [hge]⟩ hj1 hb1
        clear hak hfl hbw hi hge
        gi_wp2_with (first
          | ((with_reducible show Fence.wide.fn fa ∧ _); refine ⟨trivial, ?_⟩; refine (callsIn_wide.2 HAk.out).mono ?_; rintro e w5 ⟨rfl, hb5⟩; have V5 : Hid (Below B W9 w5) := hnx.out.trans (hb5.mono HBr.out); have J5 := Lib.hid (HJ.out _ _ _ hJs.out hb5); clear hb5; (obtain ⟨fn, tmps, assign, body, hy, hR⟩ := HYk.out w5 J5.out V5.out); have HRd := Lib.hid hR; clear hR))
        refine HRd.out.mono ?_
        rintro e W3 (⟨rfl, hJ3, hk3⟩ | ⟨rfl, hJx3⟩)
        · have HJ3 := Lib.hid hJ3
          have V3 : Hid (Below B W9 W3) := V5.out.trans hk3
          clear hJ3 hk3
          gi_wp2
          go_roundw
          case rel => exact ⟨k + 1, by omega, by go_num, by rw [HFl.out]; exact HJ3.out, V3.out⟩
          case measure => simp [intOf] <;> omega
        · have HX3 := Lib.hid hJx3
          clear hJx3
          gi_wp2
          refine bodyPost_ret (results_none rfl _ _ _) rfl ?_
          exact ⟨⟨_, rfl⟩, .inr HX3.out⟩
    · obtain rfl : k = N := by omega
      gi_wp2
      go_end0
      exact ⟨⟨_, rfl⟩, .inl ⟨hJs.out, hnx.out⟩⟩
end
end Go.Proofs.YtndkjmmmneianaaDoor
