/-
  tree: TreeIntervals.
-/
import Derived.Test.YtefgnemcjgibaaaTeL
namespace Go.Proofs.Ytefgnemcjgibaaa
open Go.RowKit

theorem ti_low {w : World} {B : Nat} {A : Option Addr} {l : List Int} {c : Nat} (h : SeesV w B A (l.map (Value.int .i64))) (hc : l.length ≤ c) (hm : c ≤ maxLen) (k : Nat) (hk : k ≤ l.length) :
    ∃ A1, SeesV w B A1 ((l.take k).map (Value.int .i64)) ∧ ∀ wq, (Instr.slice 22 (.slice A l.length c) none (some (.int .i64 (k : Int))) none).run Try.prog wq = .ok (.slice A1 k c) wq := by
  obtain ⟨i0, hi, _, hz1, _⟩ := info_parts Try.tinfoI
  unfold maxLen at hm
  refine ⟨if c = 0 then A else A.map (·.add (0 * 1)), ?_, fun wq => ?_⟩
  · rw [List.map_take]
    split
    · exact h.take _
    · have := (h.drop 0).take k
      simpa using this
  · simp [Instr.slice, run_underlying Try.underlying22, Instr.sliceBounds, run_sliceBound wq .i64 (k : Int) c _ (by omega) (by omega), sizeOf, typeInfo, hi, hz1]
set_option maxRecDepth 100000 in
set_option maxHeartbeats 8000000 in
theorem treeIntervals_any (w : World) (A : Option Addr) (l : List Int) (c : Nat) (hS : SeesV w w.heap.size A (l.map (Value.int .i64))) (hw : ∀ z ∈ l, -9223372036854775808 ≤ z ∧ z ≤ 9223372036854775807) (hc : l.length ≤ c) (hcm : c ≤ maxLen) : Calls Try.prog 4 #[.slice A l.length c] w fun e w' => e = .returned (.bool true) ∧ Below w.heap.size w w' := by
  have hml : l.length ≤ 9223372036854775807 := by unfold maxLen at hcm; omega
  by_cases hlong : 60 < l.length
  · have hl2 : (60 : Int) < (l.length : Int) := by omega
    clear hS hw
    go_enter Try.func4, Try.ntmps4
    go_wp2_with (go_at_call 8; refine (te_known _).mono ?_; rintro e w4 ⟨rfl, hb4⟩; have K4 := Lib.hid hb4; clear hb4)
    go_ret
    exact ⟨rfl, K4.out⟩
  have hl60 : l.length ≤ 60 := by omega
  have hl2 : ¬ (60 : Int) < (l.length : Int) := by omega
  have HS := Lib.hid hS
  have HWf := Lib.hid hw
  clear hS hw hml hlong
  go_enter Try.func4, Try.ntmps4
  go_wp2
  go_loopw [3] (fun nv wr => ∃ n : Nat, n ≤ 68 ∧ nv = .int .i64 n ∧ Hid (Below w.heap.size w wr)) (fun nv _ => 69 - (intOf nv).toNat)
  case atStart => exact ⟨0, by omega, rfl, nxRefl w⟩
  case round =>
    obtain ⟨n, hn, rfl, HV⟩ := hrel
    by_cases hlt : n ≤ l.length
    · obtain ⟨A1, hA1, hsl⟩ := ti_low (HS.out.below HV.out) hc hcm n hlt
      have hbg := te_begin wr A1 (l.take n) c (hA1.more HV.out.size) (by rw [List.length_take]; omega) (fun z hz => HWf.out z (List.mem_of_mem_take hz))
      have hln : (l.take n).length = n := by rw [List.length_take]; omega
      rw [hln] at hbg
      have HBg := Lib.hid hbg
      have hnn : (n : Int) ≤ (l.length : Int) := by omega
      have hq8 : Int.tdiv (n : Int) 8 = ((n / 8 : Nat) : Int) := rfl
      obtain ⟨q8, hq8'⟩ : ∃ q, n / 8 = q := ⟨_, rfl⟩
      rw [hq8'] at hq8
      have hq9 : q8 ≤ 7 := by omega
      obtain ⟨w1, hw1⟩ : ∃ W, wr = W := ⟨_, rfl⟩
      rw [hw1] at HBg HV
      rw [hw1]
      clear hA1 hbg hln hq8' hw1
      go_wp2_with (go_at_call 9; refine HBg.out.mono ?_; rintro e w2 ⟨m, r, rfl, ht2, hl3, hb2⟩; have T2 := Lib.hid ht2; have V2 : Hid (Below w.heap.size w w2) := nxTo HV.out hb2; clear ht2 hb2)
      have hdl := T2.out.i.dl
      have hmx := T2.out.i.max
      have hTl := m.T_len
      obtain ⟨len, hlen⟩ : ∃ k, m.L.length = k := ⟨_, rfl⟩
      obtain ⟨dl, hdl9⟩ : ∃ k, m.dl = k := ⟨_, rfl⟩
      have HDl := Lib.hid hdl9
      have HLn := Lib.hid hlen
      rw [hlen] at hTl hmx hdl
      rw [hdl9] at hdl
      have HTl := Lib.hid hTl
      have hcd : w2.drew.cell? ⟨r.q, 0, none⟩ = some (.slice r.A len r.c) := by
        have := T2.out.d.b.cell 0
        rw [hTl] at this
        exact this
      have HCd := Lib.hid hcd
      have HQd : Hid (r.q < w2.drew.heap.size) := T2.out.d.b.lt
      have TD : Hid (TwoR w2.drew w1.heap.size m r) := T2.out.later (teDr (nxRefl _))
      have VD : Hid (Below w.heap.size w w2.drew) := teDr V2.out
      have dn1 : ¬ (dl : Int) < 0 := by omega
      have dn2 : ¬ ((len : Int) - 1 < (dl : Int)) := by omega
      have hwl : IntKind.i64.wrap ((len : Int) - 1) = (len : Int) - 1 := by rw [IntKind.wrap_i64]; omega
      clear hcd hTl hlen hdl9 HBg hsl V2 T2 hl3
      refine wp_region_held_drew (S := fun W => W.cell? ⟨r.q, 0, none⟩ = some (.slice r.A len r.c)) (by kernel_rfl) HCd.out (fun hHeld => ?_)
      generalize w2.drew = wd at *
      refine wpAnyH_take (i := 0) (oi := ⟨_, _, _, _, _, _⟩) (v := ?_) rfl (by kernel_rfl) (by kernel_rfl) (by kernel_rfl) (fun _ _ _ h => h) (Or.inl ⟨by rfl, ?_⟩) (by assumption) ?_
      rotate_left 1
      · intro W hSw
        try dsimp only at hSw
        have hs1 := hSw
        go_simp
        try with_reducible rfl
      try simp only [Act.put, List.setIfInBounds_toArray, List.set_cons_zero, List.set_cons_succ]
      refine wpAnyH_take (i := 1) (oi := ⟨_, _, _, _, _, _⟩) (v := ?_) rfl (by kernel_rfl) (by kernel_rfl) (by kernel_rfl) (fun _ _ _ h => h) (Or.inl ⟨by rfl, ?_⟩) (by assumption) ?_
      rotate_left 1
      · intro W hSw
        try dsimp only at hSw
        have hs1 := hSw
        go_simp
        try with_reducible rfl
      try simp only [Act.put, List.setIfInBounds_toArray, List.set_cons_zero, List.set_cons_succ]
      refine wpAnyH_take (i := 2) (oi := ⟨_, _, _, _, _, _⟩) (v := ?_) rfl (by kernel_rfl) (by kernel_rfl) (by kernel_rfl) (fun _ _ _ h => h) (Or.inl ⟨by rfl, ?_⟩) (by assumption) ?_
      rotate_left 1
      · intro W hSw
        try dsimp only at hSw
        have hs1 := hSw
        go_simp
        try with_reducible rfl
      try simp only [Act.put, List.setIfInBounds_toArray, List.set_cons_zero, List.set_cons_succ]
      refine wpAnyH_take (i := 3) (oi := ⟨_, _, _, _, _, _⟩) (v := ?_) rfl (by kernel_rfl) (by kernel_rfl) (by kernel_rfl) (fun _ _ _ h => h) (Or.inl ⟨by rfl, ?_⟩) (by assumption) ?_
      rotate_left 1
      · intro W hSw
        try dsimp only at hSw
        have hs1 := hSw
        go_simp
        try with_reducible rfl
      try simp only [Act.put, List.setIfInBounds_toArray, List.set_cons_zero, List.set_cons_succ]
      refine wpAnyH_take (i := 4) (oi := ⟨_, _, _, _, _, _⟩) (v := ?_) rfl (by kernel_rfl) (by kernel_rfl) (by kernel_rfl) (fun _ _ _ h => h) (Or.inl ⟨by rfl, ?_⟩) (by assumption) ?_
      rotate_left 1
      · intro W hSw
        try dsimp only at hSw
        have hs1 := hSw
        go_simp
        try with_reducible rfl
      try simp only [Act.put, List.setIfInBounds_toArray, List.set_cons_zero, List.set_cons_succ]
      refine wpAnyH_ready (rs := [5]) (by kernel_rfl) (by simp) ?_
      refine AllReadyH.cons rfl (fun K hK => ?_) AllReadyH.nil
      go_simp
      go_at_call 21
      refine (te_sound wd w1.heap.size m r TD.out).mono ?_
      rintro e w5 ⟨rfl, hb5⟩
      have V5 := Lib.hid hb5
      have T5 : Hid (TwoR w5 w1.heap.size m r) := TD.out.later V5.out
      have C5 : Hid (w5.cell? ⟨r.q, 0, none⟩ = some (.slice r.A len r.c)) := (V5.out.cell (p := ⟨r.q, 0, none⟩) HQd.out).trans HCd.out
      clear hb5
      refine hK.out _ _ C5.out (fun hSn => ?_)
      clear hK K
      try simp only [Act.put, List.setIfInBounds_toArray, List.set_cons_zero, List.set_cons_succ]
      refine wpAnyH_take (i := 6) (oi := ⟨_, _, _, _, _, _⟩) (v := ?_) rfl (by kernel_rfl) (by kernel_rfl) (by kernel_rfl) (fun _ _ _ h => h) (Or.inl ⟨by rfl, ?_⟩) (by assumption) ?_
      rotate_left 1
      · intro W hSw
        try dsimp only at hSw
        have hs1 := hSw
        go_simp
        try with_reducible rfl
      try simp only [Act.put, List.setIfInBounds_toArray, List.set_cons_zero, List.set_cons_succ]
      refine wpAnyH_take (i := 7) (oi := ⟨_, _, _, _, _, _⟩) (v := ?_) rfl (by kernel_rfl) (by kernel_rfl) (by kernel_rfl) (fun _ _ _ h => h) (Or.inl ⟨by rfl, ?_⟩) (by assumption) ?_
      rotate_left 1
      · intro W hSw
        try dsimp only at hSw
        have hs1 := hSw
        go_simp
        try with_reducible rfl
      try simp only [Act.put, List.setIfInBounds_toArray, List.set_cons_zero, List.set_cons_succ]
      refine wpAnyH_take (i := 8) (oi := ⟨_, _, _, _, _, _⟩) (v := ?_) rfl (by kernel_rfl) (by kernel_rfl) (by kernel_rfl) (fun _ _ _ h => h) (Or.inl ⟨by rfl, ?_⟩) (by assumption) ?_
      rotate_left 1
      · intro W hSw
        try dsimp only at hSw
        have hs1 := hSw
        go_simp
        try with_reducible rfl
      try simp only [Act.put, List.setIfInBounds_toArray, List.set_cons_zero, List.set_cons_succ]
      refine wpAnyH_take (i := 9) (oi := ⟨_, _, _, _, _, _⟩) (v := ?_) rfl (by kernel_rfl) (by kernel_rfl) (by kernel_rfl) (fun _ _ _ h => h) (Or.inl ⟨by rfl, ?_⟩) (by assumption) ?_
      rotate_left 1
      · intro W hSw
        try dsimp only at hSw
        have hs1 := hSw
        go_simp
        try with_reducible rfl
      try simp only [Act.put, List.setIfInBounds_toArray, List.set_cons_zero, List.set_cons_succ]
      refine wpAnyH_ready (rs := [10]) (by kernel_rfl) (by simp) ?_
      refine AllReadyH.cons rfl (fun K hK => ?_) AllReadyH.nil
      go_simp
      go_at_call 22
      refine (te_dealt w5 w1.heap.size m (T5.out.t) T5.out.i.ne).mono ?_
      rw [HDl.out]
      rintro e w6 ⟨rfl, hw6⟩
      obtain rfl := hw6.symm
      refine hK.out _ _ C5.out (fun hSn => ?_)
      clear hK K
      try simp only [Act.put, List.setIfInBounds_toArray, List.set_cons_zero, List.set_cons_succ]
      refine wpAnyH_take (i := 11) (oi := ⟨_, _, _, _, _, _⟩) (v := ?_) rfl (by kernel_rfl) (by kernel_rfl) (by kernel_rfl) (fun _ _ _ h => h) (Or.inl ⟨by rfl, ?_⟩) (by assumption) ?_
      rotate_left 1
      · intro W hSw
        try dsimp only at hSw
        have hs1 := hSw
        go_simp
        try with_reducible rfl
      try simp only [Act.put, List.setIfInBounds_toArray, List.set_cons_zero, List.set_cons_succ]
      refine wpAnyH_take (i := 12) (oi := ⟨_, _, _, _, _, _⟩) (v := ?_) rfl (by kernel_rfl) (by kernel_rfl) (by kernel_rfl) (fun _ _ _ h => h) (Or.inl ⟨by rfl, ?_⟩) (by assumption) ?_
      rotate_left 1
      · intro W hSw
        try dsimp only at hSw
        have hs1 := hSw
        go_simp
        try with_reducible rfl
      try simp only [Act.put, List.setIfInBounds_toArray, List.set_cons_zero, List.set_cons_succ]
      refine wpAnyH_take (i := 13) (oi := ⟨_, _, _, _, _, _⟩) (v := ?_) rfl (by kernel_rfl) (by kernel_rfl) (by kernel_rfl) (fun _ _ _ h => h) (Or.inl ⟨by rfl, ?_⟩) (by assumption) ?_
      rotate_left 1
      · intro W hSw
        try dsimp only at hSw
        have hs1 := hSw
        go_simp
        try with_reducible rfl
      try simp only [Act.put, List.setIfInBounds_toArray, List.set_cons_zero, List.set_cons_succ]
      refine wpAnyH_take (i := 14) (oi := ⟨_, _, _, _, _, _⟩) (v := ?_) rfl (by kernel_rfl) (by kernel_rfl) (by kernel_rfl) (fun _ _ _ h => h) (Or.inl ⟨by rfl, ?_⟩) (by assumption) ?_
      rotate_left 1
      · intro W hSw
        try dsimp only at hSw
        have hs1 := hSw
        go_simp
        try with_reducible rfl
      try simp only [Act.put, List.setIfInBounds_toArray, List.set_cons_zero, List.set_cons_succ]
      refine wpAnyH_take (i := 16) (oi := ⟨_, _, _, _, _, _⟩) (v := ?_) rfl (by kernel_rfl) (by kernel_rfl) (by kernel_rfl) (fun _ _ _ h => h) (Or.inl ⟨by rfl, ?_⟩) (by assumption) ?_
      rotate_left 1
      · intro W hSw
        try dsimp only at hSw
        have hs1 := hSw
        go_simp
        try with_reducible rfl
      try simp only [Act.put, List.setIfInBounds_toArray, List.set_cons_zero, List.set_cons_succ]
      refine wpAnyH_take (i := 17) (oi := ⟨_, _, _, _, _, _⟩) (v := ?_) rfl (by kernel_rfl) (by kernel_rfl) (by kernel_rfl) (fun _ _ _ h => h) (Or.inl ⟨by rfl, ?_⟩) (by assumption) ?_
      rotate_left 1
      · intro W hSw
        try dsimp only at hSw
        have hs1 := hSw
        go_simp
        try with_reducible rfl
      try simp only [Act.put, List.setIfInBounds_toArray, List.set_cons_zero, List.set_cons_succ]
      refine wpAnyH_take (i := 18) (oi := ⟨_, _, _, _, _, _⟩) (v := ?_) rfl (by kernel_rfl) (by kernel_rfl) (by kernel_rfl) (fun _ _ _ h => h) (Or.inl ⟨by rfl, ?_⟩) (by assumption) ?_
      rotate_left 1
      · intro W hSw
        try dsimp only at hSw
        have hs1 := hSw
        go_simp
        try with_reducible rfl
      try simp only [Act.put, List.setIfInBounds_toArray, List.set_cons_zero, List.set_cons_succ]
      refine wpAnyH_take (i := 19) (oi := ⟨_, _, _, _, _, _⟩) (v := ?_) rfl (by kernel_rfl) (by kernel_rfl) (by kernel_rfl) (fun _ _ _ h => h) (Or.inl ⟨by rfl, ?_⟩) (by assumption) ?_
      rotate_left 1
      · intro W hSw
        try dsimp only at hSw
        have hs1 := hSw
        go_simp
        try with_reducible rfl
      try simp only [Act.put, List.setIfInBounds_toArray, List.set_cons_zero, List.set_cons_succ]
      refine wpAnyH_take (i := 20) (oi := ⟨_, _, _, _, _, _⟩) (v := ?_) rfl (by kernel_rfl) (by kernel_rfl) (by kernel_rfl) (fun _ _ _ h => h) (Or.inl ⟨by rfl, ?_⟩) (by assumption) ?_
      rotate_left 1
      · intro W hSw
        try dsimp only at hSw
        have hs1 := hSw
        go_simp
        try with_reducible rfl
      try simp only [Act.put, List.setIfInBounds_toArray, List.set_cons_zero, List.set_cons_succ]
      refine wpAnyH_take (i := 21) (oi := ⟨_, _, _, _, _, _⟩) (v := ?_) rfl (by kernel_rfl) (by kernel_rfl) (by kernel_rfl) (fun _ _ _ h => h) (Or.inl ⟨by rfl, ?_⟩) (by assumption) ?_
      rotate_left 1
      · intro W hSw
        try dsimp only at hSw
        have hs1 := hSw
        go_simp
        try with_reducible rfl
      try simp only [Act.put, List.setIfInBounds_toArray, List.set_cons_zero, List.set_cons_succ]
      refine wpAnyH_ready (rs := [15]) (by kernel_rfl) (by simp) ?_
      refine AllReadyH.cons rfl (fun K hK => ?_) AllReadyH.nil
      go_simp
      go_at_call 22
      refine (te_dealt w5 w1.heap.size m (T5.out.t) T5.out.i.ne).mono ?_
      rw [HDl.out]
      rintro e w6 ⟨rfl, hw6⟩
      obtain rfl := hw6.symm
      refine hK.out _ _ C5.out (fun hSn => ?_)
      clear hK K
      try simp only [Act.put, List.setIfInBounds_toArray, List.set_cons_zero, List.set_cons_succ]
      refine wpAnyH_take (i := 22) (oi := ⟨_, _, _, _, _, _⟩) (v := ?_) rfl (by kernel_rfl) (by kernel_rfl) (by kernel_rfl) (fun _ _ _ h => h) (Or.inl ⟨by rfl, ?_⟩) (by assumption) ?_
      rotate_left 1
      · intro W hSw
        try dsimp only at hSw
        have hs1 := hSw
        go_simp
        try with_reducible rfl
      try simp only [Act.put, List.setIfInBounds_toArray, List.set_cons_zero, List.set_cons_succ]
      refine wpAnyH_take (i := 23) (oi := ⟨_, _, _, _, _, _⟩) (v := ?_) rfl (by kernel_rfl) (by kernel_rfl) (by kernel_rfl) (fun _ _ _ h => h) (Or.inl ⟨by rfl, ?_⟩) (by assumption) ?_
      rotate_left 1
      · intro W hSw
        try dsimp only at hSw
        have hs1 := hSw
        go_simp
        try with_reducible rfl
      try simp only [Act.put, List.setIfInBounds_toArray, List.set_cons_zero, List.set_cons_succ]
      refine wpAnyH_done (by kernel_rfl) ?_ _
      have V05 : Hid (Below w.heap.size w w5) := VD.out.trans (V5.out.mono VD.out.size)
      go_wp2
      clear dn1 dn2 hwl hdl HCd TD VD V5 HQd hHeld
      go_loopw [7] (fun av wr => ∃ a : Nat, a ≤ len ∧ av = .int .i64 a ∧ Hid (Below w5.heap.size w5 wr)) (fun av _ => len - (intOf av).toNat)
      case atStart => exact ⟨0, by omega, rfl, nxRefl w5⟩
      case round =>
        obtain ⟨a, ha, rfl, HVa⟩ := hrel
        have hca : wr.cell? ⟨r.q, 0, none⟩ = some (.slice r.A len r.c) := (HVa.out.cell (p := ⟨r.q, 0, none⟩) T5.out.d.b.lt).trans C5.out
        by_cases hla : a < len
        · have han : (a : Int) < (len : Int) := by omega
          go_wp2
          go_loopw [8] (fun bv wr => ∃ b : Nat, b ≤ len ∧ bv = .int .i64 b ∧ Hid (Below w5.heap.size w5 wr)) (fun bv _ => len - (intOf bv).toNat)
          case atStart => exact ⟨0, by omega, rfl, HVa.out⟩
          case round =>
            clear hca
            obtain ⟨b, hb, rfl, HVb⟩ := hrel
            have hcb : wr.cell? ⟨r.q, 0, none⟩ = some (.slice r.A len r.c) := (HVb.out.cell (p := ⟨r.q, 0, none⟩) T5.out.d.b.lt).trans C5.out
            by_cases hlb : b < len
            · have hbn : (b : Int) < (len : Int) := by omega
              have hiff := T5.out.i.iv.iff T5.out.i.ok (a := a) (b := b) (by rw [HTl.out]; exact hla) (by rw [HTl.out]; exact hlb)
              have HIv : ∀ W, Below w5.heap.size w5 W → ∀ n : Nat, n < len → Calls Try.prog 23 #[.pointer (some ⟨m.q, 0, none⟩), .int .i64 (n : Int)] W fun e w' => e = .returned (.tuple #[.int .u64 ((ndT m.T n).lo : Int), .int .u64 ((ndT m.T n).hi : Int), .int .i64 0]) ∧ Below W.heap.size W w' := fun W hW n hn => te_iv W w1.heap.size m (T5.out.t.later hW) n (by rw [HLn.out]; exact hn) T5.out.i.max
              have HI1 := Lib.hid (HIv wr HVb.out a hla)
              have HI2 : Hid _ := fun W hW => HIv W hW b hlb
              obtain ⟨la, h1⟩ : ∃ x, (ndT m.T a).lo = x := ⟨_, rfl⟩
              obtain ⟨ua, h2⟩ : ∃ x, (ndT m.T a).hi = x := ⟨_, rfl⟩
              rw [h1, h2] at HI1 hiff
              have HI2 : Hid (∀ W, Below w5.heap.size w5 W → Calls Try.prog 23 #[.pointer (some ⟨m.q, 0, none⟩), .int .i64 (b : Int)] W fun e w' => e = .returned (.tuple #[.int .u64 ((ndT m.T b).lo : Int), .int .u64 ((ndT m.T b).hi : Int), .int .i64 0]) ∧ Below W.heap.size W w') := fun W hW => HIv W hW b hlb
              obtain ⟨lb, h3⟩ : ∃ x, (ndT m.T b).lo = x := ⟨_, rfl⟩
              obtain ⟨ub, h4⟩ : ∃ x, (ndT m.T b).hi = x := ⟨_, rfl⟩
              rw [h3, h4] at HI2 hiff
              have HIff := Lib.hid hiff
              clear HIv hiff h1 h2 h3 h4
              by_cases g1 : lb ≤ la
              · have k1 : (lb : Int) ≤ (la : Int) := by omega
                by_cases g2 : ua ≤ ub
                · have k2 : (ua : Int) ≤ (ub : Int) := by omega
                  have HU : Hid (∀ W, Below w5.heap.size w5 W → Calls Try.prog 20 #[.pointer (some ⟨r.q, 0, none⟩), .int .i64 (a : Int), .int .i64 (b : Int)] W fun e w' => e = .returned (.bool true) ∧ w' = W) := fun W hW => rt_under W m.T r (T5.out.later hW).d T5.out.i.ok a b (by rw [HTl.out]; exact hla) (by rw [HTl.out]; exact hlb) true (by rw [HIff.out]; simp; try omega)
                  clear HIff
                  go_wp2_with (first
                    | ((with_reducible show Calls _ _ #[_, .int .i64 (a : Int)] _ _); refine HI1.out.mono ?_; rintro e w7 ⟨rfl, hb7⟩; have V7 : Hid (Below w5.heap.size w5 w7) := nxTo HVb.out hb7; clear hb7)
                    | ((with_reducible show Calls _ _ #[_, .int .i64 (b : Int)] _ _); refine (HI2.out w7 V7.out).mono ?_; rintro e w8 ⟨rfl, hb8⟩; have V8 : Hid (Below w5.heap.size w5 w8) := nxTo V7.out hb8; clear hb8)
                    | (go_at_call 20; refine (HU.out w8 V8.out).mono ?_; rintro e w9 ⟨rfl, hw9⟩; obtain rfl := hw9.symm))
                  go_roundw
                  case rel => exact ⟨b + 1, by omega, by go_num, V8.out⟩
                  case measure => simp [intOf] <;> omega
                · have k2 : ¬ (ua : Int) ≤ (ub : Int) := by omega
                  have HU : Hid (∀ W, Below w5.heap.size w5 W → Calls Try.prog 20 #[.pointer (some ⟨r.q, 0, none⟩), .int .i64 (a : Int), .int .i64 (b : Int)] W fun e w' => e = .returned (.bool false) ∧ w' = W) := fun W hW => rt_under W m.T r (T5.out.later hW).d T5.out.i.ok a b (by rw [HTl.out]; exact hla) (by rw [HTl.out]; exact hlb) false (by rw [HIff.out]; simp; try omega)
                  clear HIff
                  go_wp2_with (first
                    | ((with_reducible show Calls _ _ #[_, .int .i64 (a : Int)] _ _); refine HI1.out.mono ?_; rintro e w7 ⟨rfl, hb7⟩; have V7 : Hid (Below w5.heap.size w5 w7) := nxTo HVb.out hb7; clear hb7)
                    | ((with_reducible show Calls _ _ #[_, .int .i64 (b : Int)] _ _); refine (HI2.out w7 V7.out).mono ?_; rintro e w8 ⟨rfl, hb8⟩; have V8 : Hid (Below w5.heap.size w5 w8) := nxTo V7.out hb8; clear hb8)
                    | (go_at_call 20; refine (HU.out w8 V8.out).mono ?_; rintro e w9 ⟨rfl, hw9⟩; obtain rfl := hw9.symm))
                  go_roundw
                  case rel => exact ⟨b + 1, by omega, by go_num, V8.out⟩
                  case measure => simp [intOf] <;> omega
              · have k1 : ¬ (lb : Int) ≤ (la : Int) := by omega
                by_cases g2 : ua ≤ ub
                all_goals
                  have HU : Hid (∀ W, Below w5.heap.size w5 W → Calls Try.prog 20 #[.pointer (some ⟨r.q, 0, none⟩), .int .i64 (a : Int), .int .i64 (b : Int)] W fun e w' => e = .returned (.bool false) ∧ w' = W) := fun W hW => rt_under W m.T r (T5.out.later hW).d T5.out.i.ok a b (by rw [HTl.out]; exact hla) (by rw [HTl.out]; exact hlb) false (by rw [HIff.out]; simp; try omega)
                  clear HIff
                  go_wp2_with (first
                    | ((with_reducible show Calls _ _ #[_, .int .i64 (a : Int)] _ _); refine HI1.out.mono ?_; rintro e w7 ⟨rfl, hb7⟩; have V7 : Hid (Below w5.heap.size w5 w7) := nxTo HVb.out hb7; clear hb7)
                    | ((with_reducible show Calls _ _ #[_, .int .i64 (b : Int)] _ _); refine (HI2.out w7 V7.out).mono ?_; rintro e w8 ⟨rfl, hb8⟩; have V8 : Hid (Below w5.heap.size w5 w8) := nxTo V7.out hb8; clear hb8)
                    | (go_at_call 20; refine (HU.out w8 V8.out).mono ?_; rintro e w9 ⟨rfl, hw9⟩; obtain rfl := hw9.symm))
                  go_roundw
                  case rel => exact ⟨b + 1, by omega, by go_num, V8.out⟩
                  case measure => simp [intOf] <;> omega
            · obtain rfl : b = len := by omega
              go_wp2
              go_roundw
              case rel => exact ⟨a + 1, by omega, by go_num, HVb.out⟩
              case measure => simp [intOf] <;> omega
        · obtain rfl : a = len := by omega
          go_wp2
          go_roundw
          case rel => exact ⟨n + 1 + q8, by omega, by go_num, nxTo V05.out HVa.out⟩
          case measure => simp [intOf] <;> omega
    · have hnn : ¬ (n : Int) ≤ (l.length : Int) := by omega
      go_wp2_with (first
        | (go_at_call 24; refine (te_new _).mono ?_; rintro e0 w2 ⟨m0, rfl, ho0, hi0, hl0, hd0, hb0⟩; have V2 : Hid (Below w.heap.size w w2) := nxTo HV.out hb0; have h9 : Calls Try.prog 23 #[.pointer (some ⟨m0.q, 0, none⟩), .int .i64 1] w2 _ := te_ivno w2 _ m0 ho0 hi0.ne 1 (.inr (by rw [hl0]; decide)); have HN := Lib.hid h9; clear h9 ho0 hi0 hl0 hd0 hb0)
        | (go_at_call 23; refine HN.out.mono ?_; rintro e w3 ⟨rfl, hw3⟩; obtain rfl := hw3.symm)
        | (go_at_call 8; refine (te_known _).mono ?_; rintro e w4 ⟨rfl, hb4⟩; have K4 : Hid (Below w.heap.size w w4) := nxTo V2.out hb4; clear hb4))
      go_ret
      exact ⟨rfl, K4.out⟩
end Go.Proofs.Ytefgnemcjgibaaa
