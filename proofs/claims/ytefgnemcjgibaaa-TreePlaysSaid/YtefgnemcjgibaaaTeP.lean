/-
  tree: TreePlays.
-/
import Derived.Test.YtefgnemcjgibaaaTeO
namespace Go.Proofs.Ytefgnemcjgibaaa
open Go.RowKit

theorem te_parno (w : World) (base : Nat) (m : TrM) (h : TrOk w base m) (h0 : 0 < m.L.length) (n : Int) (hn : n < 0 ∨ (m.L.length : Int) ≤ n) : Calls Try.prog 11 #[.pointer (some ⟨m.q, 0, none⟩), .int .i64 n] w fun e w' => e = .returned (.tuple #[.int .i64 0, .int .i64 6]) ∧ w' = w := by
  have H1 := Lib.hid (te_refno w base m h h0 n hn)
  clear h hn h0
  go_enter Try.func11, Try.ntmps11
  go_wp2_with (go_at_call 30; refine H1.out.mono ?_; rintro e1 w1 ⟨rfl, hw1⟩; obtain rfl := hw1.symm)
  go_ret2
  exact ⟨rfl, rfl⟩
theorem te_kidsno (w : World) (base : Nat) (m : TrM) (h : TrOk w base m) (h0 : 0 < m.L.length) (n : Int) (hn : n < 0 ∨ (m.L.length : Int) ≤ n) : Calls Try.prog 12 #[.pointer (some ⟨m.q, 0, none⟩), .int .i64 n] w fun e w' => e = .returned (.tuple #[.slice none 0 0, .int .i64 6]) ∧ w' = w := by
  have H1 := Lib.hid (te_refno w base m h h0 n hn)
  clear h hn h0
  go_enter Try.func12, Try.ntmps12
  go_wp2_with (go_at_call 30; refine H1.out.mono ?_; rintro e1 w1 ⟨rfl, hw1⟩; obtain rfl := hw1.symm)
  go_ret2
  exact ⟨rfl, rfl⟩
theorem te_depno (w : World) (base : Nat) (m : TrM) (h : TrOk w base m) (h0 : 0 < m.L.length) (n : Int) (hn : n < 0 ∨ (m.L.length : Int) ≤ n) : Calls Try.prog 13 #[.pointer (some ⟨m.q, 0, none⟩), .int .i64 n] w fun e w' => e = .returned (.tuple #[.int .i64 0, .int .i64 6]) ∧ w' = w := by
  have H1 := Lib.hid (te_refno w base m h h0 n hn)
  clear h hn h0
  go_enter Try.func13, Try.ntmps13
  go_wp2_with (go_at_call 30; refine H1.out.mono ?_; rintro e1 w1 ⟨rfl, hw1⟩; obtain rfl := hw1.symm)
  go_ret2
  exact ⟨rfl, rfl⟩
theorem te_sizeno (w : World) (base : Nat) (m : TrM) (h : TrOk w base m) (h0 : 0 < m.L.length) (n : Int) (hn : n < 0 ∨ (m.L.length : Int) ≤ n) : Calls Try.prog 14 #[.pointer (some ⟨m.q, 0, none⟩), .int .i64 n] w fun e w' => e = .returned (.tuple #[.int .i64 0, .int .i64 6]) ∧ w' = w := by
  have H1 := Lib.hid (te_refno w base m h h0 n hn)
  clear h hn h0
  go_enter Try.func14, Try.ntmps14
  go_wp2_with (go_at_call 30; refine H1.out.mono ?_; rintro e1 w1 ⟨rfl, hw1⟩; obtain rfl := hw1.symm)
  go_ret2
  exact ⟨rfl, rfl⟩
set_option maxRecDepth 100000 in
set_option maxHeartbeats 8000000 in
theorem treePlays_any (w : World) (A : Option Addr) (l : List Int) (c : Nat) (hS : SeesV w w.heap.size A (l.map (Value.int .i64))) (hw : ∀ z ∈ l, -9223372036854775808 ≤ z ∧ z ≤ 9223372036854775807) (hc : l.length ≤ c) (hcm : c ≤ maxLen) : Calls Try.prog 3 #[.slice A l.length c] w fun e w' => e = .returned (.bool true) ∧ Below w.heap.size w w' := by
  have hml : l.length ≤ 9223372036854775807 := by unfold maxLen at hcm; omega
  by_cases hlong : 60 < l.length
  · have hl2 : (60 : Int) < (l.length : Int) := by omega
    clear hS hw
    go_enter Try.func3, Try.ntmps3
    go_wp2_with (go_at_call 8; refine (te_known _).mono ?_; rintro e w4 ⟨rfl, hb4⟩; have K4 := Lib.hid hb4; clear hb4)
    go_ret
    exact ⟨rfl, K4.out⟩
  have hl60 : l.length ≤ 60 := by omega
  have hl2 : ¬ (60 : Int) < (l.length : Int) := by omega
  have HBg := Lib.hid (te_begin w A l c hS (by omega) hw)
  clear hS hw hml hlong
  go_enter Try.func3, Try.ntmps3
  go_wp2_with (go_at_call 9; refine HBg.out.mono ?_; rintro e w2 ⟨m, r, rfl, ht2, hl3, hb2⟩; have T2 := Lib.hid ht2; have V2 := Lib.hid hb2; clear ht2 hb2)
  have hmx := T2.out.i.max
  have hTl := m.T_len
  have h00 := T2.out.i.ne
  have hLn := te_len w2.drew w.heap.size m (T2.out.t.later (teDr (nxRefl _))) h00
  obtain ⟨len, hlen⟩ : ∃ k, m.L.length = k := ⟨_, rfl⟩
  have HL := Lib.hid hlen
  rw [hlen] at hTl hmx h00 hLn hl3
  have HTl := Lib.hid hTl
  have HLn := Lib.hid hLn
  have hcd : w2.drew.cell? ⟨r.q, 0, none⟩ = some (.slice r.A len r.c) := by
    have := T2.out.d.b.cell 0
    rw [hTl] at this
    exact this
  have HCd := Lib.hid hcd
  have TD : Hid (TwoR w2.drew w.heap.size m r) := T2.out.later (teDr (nxRefl _))
  have VD : Hid (Below w.heap.size w w2.drew) := teDr V2.out
  clear hcd hTl hlen HBg V2 T2 hLn hl60 hl2
  refine wp_region_held_drew (S := fun W => W.cell? ⟨r.q, 0, none⟩ = some (.slice r.A len r.c)) (by kernel_rfl) HCd.out (fun hHeld => ?_)
  generalize w2.drew = wd at *
  refine wpAnyH_take (i := 0) (oi := ⟨_, _, _, _, _, _⟩) (v := ?_) rfl (by kernel_rfl) (by kernel_rfl) (by kernel_rfl) (fun _ _ _ h => h) (Or.inl ⟨by rfl, ?_⟩) (by assumption) ?_
  rotate_left 1
  · intro W hSw
    try dsimp only at hSw
    have hs1 := hSw
    go_simp
    try with_reducible rfl
  try simp only [Act.put, List.setIfInBounds_toArray, List.set_cons_zero, List.set_cons_succ]
  refine wpAnyH_take (i := 1) (oi := ⟨_, _, _, _, _, _⟩) (v := ?_) rfl (by kernel_rfl) (by kernel_rfl) (by kernel_rfl) (fun _ _ _ h => h) (Or.inl ⟨by rfl, ?_⟩) (by assumption) ?_
  rotate_left 1
  · intro W hSw
    try dsimp only at hSw
    have hs1 := hSw
    go_simp
    try with_reducible rfl
  try simp only [Act.put, List.setIfInBounds_toArray, List.set_cons_zero, List.set_cons_succ]
  refine wpAnyH_take (i := 2) (oi := ⟨_, _, _, _, _, _⟩) (v := ?_) rfl (by kernel_rfl) (by kernel_rfl) (by kernel_rfl) (fun _ _ _ h => h) (Or.inl ⟨by rfl, ?_⟩) (by assumption) ?_
  rotate_left 1
  · intro W hSw
    try dsimp only at hSw
    have hs1 := hSw
    go_simp
    try with_reducible rfl
  try simp only [Act.put, List.setIfInBounds_toArray, List.set_cons_zero, List.set_cons_succ]
  refine wpAnyH_take (i := 3) (oi := ⟨_, _, _, _, _, _⟩) (v := ?_) rfl (by kernel_rfl) (by kernel_rfl) (by kernel_rfl) (fun _ _ _ h => h) (Or.inl ⟨by rfl, ?_⟩) (by assumption) ?_
  rotate_left 1
  · intro W hSw
    try dsimp only at hSw
    have hs1 := hSw
    go_simp
    try with_reducible rfl
  try simp only [Act.put, List.setIfInBounds_toArray, List.set_cons_zero, List.set_cons_succ]
  refine wpAnyH_take (i := 5) (oi := ⟨_, _, _, _, _, _⟩) (v := ?_) rfl (by kernel_rfl) (by kernel_rfl) (by kernel_rfl) (fun _ _ _ h => h) (Or.inl ⟨by rfl, ?_⟩) (by assumption) ?_
  rotate_left 1
  · intro W hSw
    try dsimp only at hSw
    have hs1 := hSw
    go_simp
    try with_reducible rfl
  try simp only [Act.put, List.setIfInBounds_toArray, List.set_cons_zero, List.set_cons_succ]
  refine wpAnyH_take (i := 6) (oi := ⟨_, _, _, _, _, _⟩) (v := ?_) rfl (by kernel_rfl) (by kernel_rfl) (by kernel_rfl) (fun _ _ _ h => h) (Or.inl ⟨by rfl, ?_⟩) (by assumption) ?_
  rotate_left 1
  · intro W hSw
    try dsimp only at hSw
    have hs1 := hSw
    go_simp
    try with_reducible rfl
  try simp only [Act.put, List.setIfInBounds_toArray, List.set_cons_zero, List.set_cons_succ]
  refine wpAnyH_take (i := 7) (oi := ⟨_, _, _, _, _, _⟩) (v := ?_) rfl (by kernel_rfl) (by kernel_rfl) (by kernel_rfl) (fun _ _ _ h => h) (Or.inl ⟨by rfl, ?_⟩) (by assumption) ?_
  rotate_left 1
  · intro W hSw
    try dsimp only at hSw
    have hs1 := hSw
    go_simp
    try with_reducible rfl
  try simp only [Act.put, List.setIfInBounds_toArray, List.set_cons_zero, List.set_cons_succ]
  refine wpAnyH_take (i := 8) (oi := ⟨_, _, _, _, _, _⟩) (v := ?_) rfl (by kernel_rfl) (by kernel_rfl) (by kernel_rfl) (fun _ _ _ h => h) (Or.inl ⟨by rfl, ?_⟩) (by assumption) ?_
  rotate_left 1
  · intro W hSw
    try dsimp only at hSw
    have hs1 := hSw
    go_simp
    try with_reducible rfl
  try simp only [Act.put, List.setIfInBounds_toArray, List.set_cons_zero, List.set_cons_succ]
  refine wpAnyH_take (i := 9) (oi := ⟨_, _, _, _, _, _⟩) (v := ?_) rfl (by kernel_rfl) (by kernel_rfl) (by kernel_rfl) (fun _ _ _ h => h) (Or.inl ⟨by rfl, ?_⟩) (by assumption) ?_
  rotate_left 1
  · intro W hSw
    try dsimp only at hSw
    have hs1 := hSw
    go_simp
    try with_reducible rfl
  try simp only [Act.put, List.setIfInBounds_toArray, List.set_cons_zero, List.set_cons_succ]
  refine wpAnyH_ready (rs := [4]) (by kernel_rfl) (by simp) ?_
  refine AllReadyH.cons rfl (fun K hK => ?_) AllReadyH.nil
  go_simp
  go_at_call 10
  refine HLn.out.mono ?_
  rintro e w5 ⟨rfl, hw5⟩
  obtain rfl := hw5.symm
  refine hK.out _ _ HCd.out (fun hSn => ?_)
  clear hK K
  try simp only [Act.put, List.setIfInBounds_toArray, List.set_cons_zero, List.set_cons_succ]
  refine wpAnyH_take (i := 10) (oi := ⟨_, _, _, _, _, _⟩) (v := ?_) rfl (by kernel_rfl) (by kernel_rfl) (by kernel_rfl) (fun _ _ _ h => h) (Or.inl ⟨by rfl, ?_⟩) (by assumption) ?_
  rotate_left 1
  · intro W hSw
    try dsimp only at hSw
    have hs1 := hSw
    go_simp
    try with_reducible rfl
  try simp only [Act.put, List.setIfInBounds_toArray, List.set_cons_zero, List.set_cons_succ]
  refine wpAnyH_take (i := 11) (oi := ⟨_, _, _, _, _, _⟩) (v := ?_) rfl (by kernel_rfl) (by kernel_rfl) (by kernel_rfl) (fun _ _ _ h => h) (Or.inl ⟨by rfl, ?_⟩) (by assumption) ?_
  rotate_left 1
  · intro W hSw
    try dsimp only at hSw
    have hs1 := hSw
    go_simp
    try with_reducible rfl
  try simp only [Act.put, List.setIfInBounds_toArray, List.set_cons_zero, List.set_cons_succ]
  refine wpAnyH_done (by kernel_rfl) ?_ _
  go_wp2
  clear hHeld hw5 hSn HLn
  go_loopw [6] (fun nv wr => ∃ n : Int, -1 ≤ n ∧ n ≤ (len : Int) + 1 ∧ nv = .int .i64 n ∧ Hid (Below wd.heap.size wd wr)) (fun nv _ => ((len : Int) + 1 - intOf nv).toNat)
  case atStart => exact ⟨-1, by omega, by omega, rfl, nxRefl wd⟩
  case round =>
    obtain ⟨n, hn1, hn2, rfl, HV⟩ := hrel
    have HT : Hid (TwoR wr w.heap.size m r) := TD.out.later HV.out
    have HW : Hid (Below wr.heap.size wr wr) := nxRefl wr
    have hcq : wr.cell? ⟨r.q, 0, none⟩ = some (.slice r.A len r.c) := (HV.out.cell (p := ⟨r.q, 0, none⟩) TD.out.d.b.lt).trans HCd.out
    by_cases hle : n ≤ (len : Int)
    · by_cases hin : n < 0 ∨ (len : Int) ≤ n
      · have hno : n < 0 ∨ (m.L.length : Int) ≤ n := by rw [HL.out]; exact hin
        have h0L : 0 < m.L.length := by rw [HL.out]; exact h00
        have HPar : Hid (∀ W, Below wr.heap.size wr W → Calls Try.prog 11 #[.pointer (some ⟨m.q, 0, none⟩), .int .i64 n] W fun e w' => e = .returned (.tuple #[.int .i64 0, .int .i64 6]) ∧ w' = W) := fun W hW => te_parno W _ m (HT.out.later hW).t h0L n hno
        have HKids : Hid (∀ W, Below wr.heap.size wr W → Calls Try.prog 12 #[.pointer (some ⟨m.q, 0, none⟩), .int .i64 n] W fun e w' => e = .returned (.tuple #[.slice none 0 0, .int .i64 6]) ∧ w' = W) := fun W hW => te_kidsno W _ m (HT.out.later hW).t h0L n hno
        have HDep : Hid (∀ W, Below wr.heap.size wr W → Calls Try.prog 13 #[.pointer (some ⟨m.q, 0, none⟩), .int .i64 n] W fun e w' => e = .returned (.tuple #[.int .i64 0, .int .i64 6]) ∧ w' = W) := fun W hW => te_depno W _ m (HT.out.later hW).t h0L n hno
        have HSize : Hid (∀ W, Below wr.heap.size wr W → Calls Try.prog 14 #[.pointer (some ⟨m.q, 0, none⟩), .int .i64 n] W fun e w' => e = .returned (.tuple #[.int .i64 0, .int .i64 6]) ∧ w' = W) := fun W hW => te_sizeno W _ m (HT.out.later hW).t h0L n hno
        have HIn : Hid (∀ W, Below wr.heap.size wr W → Calls Try.prog 15 #[.pointer (some ⟨r.q, 0, none⟩), .int .i64 n] W fun e w' => e = .returned (.bool false) ∧ w' = W) := fun W hW => rt_inno W m.T r (HT.out.later hW).d n (by rw [HTl.out]; exact hin)
        have HU1 : Hid (∀ W, Below wr.heap.size wr W → Calls Try.prog 16 #[.pointer (some ⟨m.q, 0, none⟩), .int .i64 n, .int .i64 0] W fun e w' => e = .returned (.bool false) ∧ Below W.heap.size W w') := fun W hW => te_undno W _ m (HT.out.later hW).t h0L n 0 (.inl hno)
        have HU2 : Hid (∀ W, Below wr.heap.size wr W → Calls Try.prog 16 #[.pointer (some ⟨m.q, 0, none⟩), .int .i64 0, .int .i64 n] W fun e w' => e = .returned (.bool false) ∧ Below W.heap.size W w') := fun W hW => te_undno W _ m (HT.out.later hW).t h0L 0 n (.inr ⟨⟨0, h0L, rfl⟩, hno⟩)
        clear hno h0L
        clear hin
        go_wp2_with (first
          | (go_at_call 11; refine (HPar.out _ HW.out).mono ?_; rintro e wq ⟨rfl, hwq⟩; obtain rfl := hwq.symm)
          | (go_at_call 12; refine (HKids.out _ HW.out).mono ?_; rintro e wq ⟨rfl, hwq⟩; obtain rfl := hwq.symm)
          | (go_at_call 13; refine (HDep.out _ HW.out).mono ?_; rintro e wq ⟨rfl, hwq⟩; obtain rfl := hwq.symm)
          | (go_at_call 14; refine (HSize.out _ HW.out).mono ?_; rintro e wq ⟨rfl, hwq⟩; obtain rfl := hwq.symm)
          | (go_at_call 15; refine (HIn.out _ HW.out).mono ?_; rintro e wq ⟨rfl, hwq⟩; obtain rfl := hwq.symm)
          | ((with_reducible show Calls _ _ #[_, .int .i64 n, .int .i64 0] _ _); refine (HU1.out _ HW.out).mono ?_; rintro e wa ⟨rfl, hba⟩; have HW : Hid (Below wr.heap.size wr wa) := nxTo HW.out hba; clear hba)
          | ((with_reducible show Calls _ _ #[_, .int .i64 0, .int .i64 n] _ _); refine (HU2.out _ HW.out).mono ?_; rintro e wb ⟨rfl, hbb⟩; have HW : Hid (Below wr.heap.size wr wb) := nxTo HW.out hbb; clear hbb))
        go_roundw
        case rel => exact ⟨n + 1, by omega, by omega, by go_num, nxTo HV.out HW.out⟩
        case measure => simp [intOf] <;> omega
      · obtain ⟨k, rfl⟩ : ∃ k : Nat, n = k := ⟨n.toNat, by omega⟩
        have hkl : k < len := by omega
        have hkL : k < m.L.length := by rw [HL.out]; exact hkl
        have hkT : k < m.T.length := by rw [HTl.out]; exact hkl
        have hkn : (k : Int) < (len : Int) := by omega
        have hkn0 : (0 : Int) ≤ (k : Int) := by omega
        have HKids : Hid (∀ W, Below wr.heap.size wr W → Calls Try.prog 12 #[.pointer (some ⟨m.q, 0, none⟩), .int .i64 (k : Int)] W fun e w' => ∃ A c, e = .returned (.tuple #[.slice A (kidsT m.T k).length c, .int .i64 0]) ∧ SeesV w' w'.heap.size A (tiC (kidsT m.T k)) ∧ Below W.heap.size W w') := fun W hW => te_kidsN W _ m (HT.out.later hW).t HT.out.i k hkL
        have HDep : Hid (∀ W, Below wr.heap.size wr W → Calls Try.prog 13 #[.pointer (some ⟨m.q, 0, none⟩), .int .i64 (k : Int)] W fun e w' => e = .returned (.tuple #[.int .i64 ((ndT m.T k).dep : Int), .int .i64 0]) ∧ w' = W) := fun W hW => te_dep W _ m (HT.out.later hW).t k hkL
        have HSize : Hid (∀ W, Below wr.heap.size wr W → Calls Try.prog 14 #[.pointer (some ⟨m.q, 0, none⟩), .int .i64 (k : Int)] W fun e w' => e = .returned (.tuple #[.int .i64 (cntT m.T k 0 : Int), .int .i64 0]) ∧ Below W.heap.size W w') := fun W hW => te_size W _ m (HT.out.later hW).t HT.out.i k hkL
        have HIn : Hid (∀ W, Below wr.heap.size wr W → Calls Try.prog 15 #[.pointer (some ⟨r.q, 0, none⟩), .int .i64 (k : Int)] W fun e w' => e = .returned (.bool true) ∧ w' = W) := fun W hW => rt_in W m.T r (HT.out.later hW).d k hkT
        have HRd : Hid (∀ W, Below wr.heap.size wr W → Calls Try.prog 17 #[.pointer (some ⟨r.q, 0, none⟩), .int .i64 (k : Int)] W fun e w' => e = .returned (.int .i64 ((ndT m.T k).dep : Int)) ∧ w' = W) := fun W hW => rt_depth W m.T r (HT.out.later hW).d HT.out.i.ok k hkT
        have HRs : Hid (∀ W, Below wr.heap.size wr W → Calls Try.prog 18 #[.pointer (some ⟨r.q, 0, none⟩), .int .i64 (k : Int)] W fun e w' => e = .returned (.int .i64 (cntT m.T k 0 : Int)) ∧ w' = W) := fun W hW => rt_size W m.T r (HT.out.later hW).d HT.out.i.ok k hkT
        have HRk : Hid (∀ W, Below wr.heap.size wr W → Calls Try.prog 19 #[.pointer (some ⟨r.q, 0, none⟩), .int .i64 (k : Int)] W fun e w' => ∃ A c, e = .returned (.slice A (kidsT m.T k).length c) ∧ SeesV w' w'.heap.size A (tiC (kidsT m.T k)) ∧ Below W.heap.size W w') := fun W hW => rt_kids W m.T r (HT.out.later hW).d HT.out.i.ok k
        have HCc : Hid (∀ W, Below wr.heap.size wr W → W.cell? ⟨r.q, 0, none⟩ = some (.slice r.A len r.c)) := fun W hW => (hW.cell (p := ⟨r.q, 0, none⟩) HT.out.d.b.lt).trans hcq
        obtain ⟨K, hK⟩ : ∃ K, kidsT m.T k = K := ⟨_, rfl⟩
        obtain ⟨dp, hdp⟩ : ∃ K, (ndT m.T k).dep = K := ⟨_, rfl⟩
        obtain ⟨sz, hsz⟩ : ∃ K, cntT m.T k 0 = K := ⟨_, rfl⟩
        have hkm : K.length ≤ 1000 := by
          rw [← hK]
          have := (kids_nodup m.T k).length_le_of_subset (l₂ := List.range m.T.length) (fun k hk => List.mem_range.2 (mem_kids.1 hk).2.1)
          rw [List.length_range, HTl.out] at this
          omega
        rw [hK] at HKids HRk
        rw [hdp] at HDep HRd
        rw [hsz] at HSize HRs
        clear hK hdp hsz hin hle
        obtain ⟨b0, off0, hA0, hb0, hcc⟩ := HT.out.d.cell hkT
        rw [hA0] at hcq HCc
        have HPc : Hid (∀ W, Below wr.heap.size wr W → W.cell? ⟨b0, off0 + k, none⟩ = some (.int .i64 (tpV m.T k))) := fun W hW => (hW.cell (p := ⟨b0, off0 + k, none⟩) hb0).trans (hcc k hkT)
        clear hcc hb0 hA0
        by_cases hk0 : k = 0
        · have HPar : Hid (∀ W, Below wr.heap.size wr W → Calls Try.prog 11 #[.pointer (some ⟨m.q, 0, none⟩), .int .i64 (k : Int)] W fun e w' => e = .returned (.tuple #[.int .i64 0, .int .i64 6]) ∧ w' = W) := fun W hW => by
            rw [hk0]
            exact te_par0 W _ m (HT.out.later hW).t (by rw [HL.out]; exact h00)
          have hkb : ((k : Int) == 0) = true := by rw [beq_iff_eq]; omega
          have hkg : ¬ (0 : Int) < (k : Int) := by omega
          clear hk0
          go_wp2_with (first
            | (go_at_call 11; refine (HPar.out _ HW.out).mono ?_; rintro e wq ⟨rfl, hwq⟩; obtain rfl := hwq.symm)
            | (go_at_call 13; refine (HDep.out _ HW.out).mono ?_; rintro e wq ⟨rfl, hwq⟩; obtain rfl := hwq.symm)
            | (go_at_call 14; refine (HSize.out _ HW.out).mono ?_; rintro e wz ⟨rfl, hbq⟩; have VKz := Lib.hid hbq; have HW : Hid (Below wr.heap.size wr wz) := nxTo HW.out hbq; have hcz := HCc.out _ HW.out; have hpz := HPc.out _ HW.out; clear hbq)
            | (go_at_call 15; refine (HIn.out _ HW.out).mono ?_; rintro e wq ⟨rfl, hwq⟩; obtain rfl := hwq.symm)
            | (go_at_call 17; refine (HRd.out _ HW.out).mono ?_; rintro e wq ⟨rfl, hwq⟩; obtain rfl := hwq.symm)
            | (go_at_call 18; refine (HRs.out _ HW.out).mono ?_; rintro e wq ⟨rfl, hwq⟩; obtain rfl := hwq.symm)
            | (go_at_call 12; refine (HKids.out _ HW.out).mono ?_; rintro e wk ⟨Ak, ck, rfl, hsk, hbk⟩; have SK := Lib.hid hsk; have HKw : Hid (Below wr.heap.size wr wk) := nxTo HW.out hbk; have HW : Hid (Below wr.heap.size wr wk) := HKw.out; clear hsk hbk)
            | (go_at_call 19; refine (HRk.out _ HW.out).mono ?_; rintro e wx ⟨Ax, cx, rfl, hsx, hbx⟩; have SX := Lib.hid hsx; have SK2 : Hid (SeesV wx wk.heap.size Ak (tiC K)) := SK.out.below (nxTo VKz.out hbx); have HW : Hid (Below wr.heap.size wr wx) := nxTo HW.out hbx; clear hsx hbx))
          clear HPar HKids HDep HSize HIn HRd HRs HRk HPc hcz hpz SK VKz HKw hkb hkg
          go_loopw [16] (fun iv wr => ∃ i : Nat, i ≤ K.length ∧ iv = .int .i64 i ∧ Hid (Below wx.heap.size wx wr)) (fun iv _ => K.length - (intOf iv).toNat)
          case atStart => exact ⟨0, by omega, rfl, nxRefl wx⟩
          case round =>
            obtain ⟨i, hi, rfl, HV6⟩ := hrel
            by_cases hlti : i < K.length
            · obtain ⟨b1, f1, hA1, _, c1⟩ := ti_cell ((SK2.out.size).below HV6.out) hlti
              obtain ⟨b2, f2, hA2, _, c2⟩ := ti_cell (SX.out.below HV6.out) hlti
              rw [hA1, hA2]
              obtain ⟨ki, hki⟩ : ∃ x, K[i] = x := ⟨_, rfl⟩
              rw [hki] at c1 c2
              have hin : (i : Int) < (K.length : Int) := by omega
              have hne : ((ki : Int) != (ki : Int)) = false := by rw [bne_self_eq_false]
              have HA1 := Lib.hid hA1
              have HA2 := Lib.hid hA2
              clear hki hA1 hA2
              go_wp2
              go_quiet (fail)
              go_wp2
              go_roundw
              case rel => exact ⟨i + 1, by omega, by go_num, teDrN HV6.out _⟩
              case measure => simp [intOf] <;> omega
            · obtain rfl : i = K.length := by omega
              go_wp2
              go_loopw [17] (fun iv wr => ∃ i : Nat, i ≤ len ∧ iv = .int .i64 i ∧ Hid (Below wx.heap.size wx wr)) (fun iv _ => len - (intOf iv).toNat)
              case atStart => exact ⟨0, by omega, rfl, HV6.out⟩
              case round =>
                obtain ⟨i, hi2, rfl, HV7⟩ := hrel
                have hc7 := HCc.out _ (nxTo HW.out HV7.out)
                by_cases hlt7 : i < len
                · have hin7 : (i : Int) < (len : Int) := by omega
                  have HT7 : Hid (TwoR wr w.heap.size m r) := HT.out.later (nxTo HW.out HV7.out)
                  by_cases hu : Und m.T i k
                  · have HU7 := Lib.hid (te_undT wr _ m HT7.out.t HT7.out.i i k (by rw [HL.out]; exact hlt7) hkL true ⟨fun _ => hu, fun _ => rfl⟩)
                    have HU8 : Hid (∀ W, Below wr.heap.size wr W → Calls Try.prog 20 #[.pointer (some ⟨r.q, 0, none⟩), .int .i64 (i : Int), .int .i64 (k : Int)] W fun e w' => e = .returned (.bool true) ∧ w' = W) := fun W hW => rt_under W m.T r (HT7.out.later hW).d HT7.out.i.ok i k (by rw [HTl.out]; exact hlt7) hkT true ⟨fun _ => hu, fun _ => rfl⟩
                    go_wp2_with (first
                      | (go_at_call 16; refine HU7.out.mono ?_; rintro e wu ⟨rfl, hbu⟩; have Vu := Lib.hid hbu; clear hbu)
                      | (go_at_call 20; refine (HU8.out _ Vu.out).mono ?_; rintro e wv ⟨rfl, hwv⟩; obtain rfl := hwv.symm))
                    go_roundw
                    case rel => exact ⟨i + 1, by omega, by go_num, nxTo HV7.out Vu.out⟩
                    case measure => simp [intOf] <;> omega
                  · have HU7 := Lib.hid (te_undT wr _ m HT7.out.t HT7.out.i i k (by rw [HL.out]; exact hlt7) hkL false ⟨fun k => (by cases k), fun k => absurd k hu⟩)
                    have HU8 : Hid (∀ W, Below wr.heap.size wr W → Calls Try.prog 20 #[.pointer (some ⟨r.q, 0, none⟩), .int .i64 (i : Int), .int .i64 (k : Int)] W fun e w' => e = .returned (.bool false) ∧ w' = W) := fun W hW => rt_under W m.T r (HT7.out.later hW).d HT7.out.i.ok i k (by rw [HTl.out]; exact hlt7) hkT false ⟨fun k => (by cases k), fun k => absurd k hu⟩
                    go_wp2_with (first
                      | (go_at_call 16; refine HU7.out.mono ?_; rintro e wu ⟨rfl, hbu⟩; have Vu := Lib.hid hbu; clear hbu)
                      | (go_at_call 20; refine (HU8.out _ Vu.out).mono ?_; rintro e wv ⟨rfl, hwv⟩; obtain rfl := hwv.symm))
                    go_roundw
                    case rel => exact ⟨i + 1, by omega, by go_num, nxTo HV7.out Vu.out⟩
                    case measure => simp [intOf] <;> omega
                · obtain rfl : i = len := by omega
                  go_wp2
                  go_roundw
                  case rel => exact ⟨(k : Int) + 1, by omega, by omega, by go_num, nxTo HV.out (nxTo HW.out HV7.out)⟩
                  case measure => simp [intOf] <;> omega
        · have HPar : Hid (∀ W, Below wr.heap.size wr W → Calls Try.prog 11 #[.pointer (some ⟨m.q, 0, none⟩), .int .i64 (k : Int)] W fun e w' => e = .returned (.tuple #[.int .i64 ((ndT m.T k).par : Int), .int .i64 0]) ∧ w' = W) := fun W hW => te_par W _ m (HT.out.later hW).t k hkL (by omega)
          have hpv : tpV m.T k = ((ndT m.T k).par : Int) := by unfold tpV; rw [if_neg hk0]
          obtain ⟨pa, hpa⟩ : ∃ x, (ndT m.T k).par = x := ⟨_, rfl⟩
          rw [hpa] at HPar hpv
          rw [hpv] at HPc
          have hkb : ((k : Int) == 0) = false := by rw [beq_eq_false_iff_ne]; omega
          have hkg : (0 : Int) < (k : Int) := by omega
          clear hk0 hpv hpa
          go_wp2_with (first
            | (go_at_call 11; refine (HPar.out _ HW.out).mono ?_; rintro e wq ⟨rfl, hwq⟩; obtain rfl := hwq.symm)
            | (go_at_call 13; refine (HDep.out _ HW.out).mono ?_; rintro e wq ⟨rfl, hwq⟩; obtain rfl := hwq.symm)
            | (go_at_call 14; refine (HSize.out _ HW.out).mono ?_; rintro e wz ⟨rfl, hbq⟩; have VKz := Lib.hid hbq; have HW : Hid (Below wr.heap.size wr wz) := nxTo HW.out hbq; have hcz := HCc.out _ HW.out; have hpz := HPc.out _ HW.out; clear hbq)
            | (go_at_call 15; refine (HIn.out _ HW.out).mono ?_; rintro e wq ⟨rfl, hwq⟩; obtain rfl := hwq.symm)
            | (go_at_call 17; refine (HRd.out _ HW.out).mono ?_; rintro e wq ⟨rfl, hwq⟩; obtain rfl := hwq.symm)
            | (go_at_call 18; refine (HRs.out _ HW.out).mono ?_; rintro e wq ⟨rfl, hwq⟩; obtain rfl := hwq.symm)
            | (go_at_call 12; refine (HKids.out _ HW.out).mono ?_; rintro e wk ⟨Ak, ck, rfl, hsk, hbk⟩; have SK := Lib.hid hsk; have HKw : Hid (Below wr.heap.size wr wk) := nxTo HW.out hbk; have HW : Hid (Below wr.heap.size wr wk) := HKw.out; clear hsk hbk)
            | (go_at_call 19; refine (HRk.out _ HW.out).mono ?_; rintro e wx ⟨Ax, cx, rfl, hsx, hbx⟩; have SX := Lib.hid hsx; have SK2 : Hid (SeesV wx wk.heap.size Ak (tiC K)) := SK.out.below (nxTo VKz.out hbx); have HW : Hid (Below wr.heap.size wr wx) := nxTo HW.out hbx; clear hsx hbx))
          clear HPar HKids HDep HSize HIn HRd HRs HRk HPc hcz hpz SK VKz HKw hkb hkg
          go_loopw [16] (fun iv wr => ∃ i : Nat, i ≤ K.length ∧ iv = .int .i64 i ∧ Hid (Below wx.heap.size wx wr)) (fun iv _ => K.length - (intOf iv).toNat)
          case atStart => exact ⟨0, by omega, rfl, nxRefl wx⟩
          case round =>
            obtain ⟨i, hi, rfl, HV6⟩ := hrel
            by_cases hlti : i < K.length
            · obtain ⟨b1, f1, hA1, _, c1⟩ := ti_cell ((SK2.out.size).below HV6.out) hlti
              obtain ⟨b2, f2, hA2, _, c2⟩ := ti_cell (SX.out.below HV6.out) hlti
              rw [hA1, hA2]
              obtain ⟨ki, hki⟩ : ∃ x, K[i] = x := ⟨_, rfl⟩
              rw [hki] at c1 c2
              have hin : (i : Int) < (K.length : Int) := by omega
              have hne : ((ki : Int) != (ki : Int)) = false := by rw [bne_self_eq_false]
              have HA1 := Lib.hid hA1
              have HA2 := Lib.hid hA2
              clear hki hA1 hA2
              go_wp2
              go_quiet (fail)
              go_wp2
              go_roundw
              case rel => exact ⟨i + 1, by omega, by go_num, teDrN HV6.out _⟩
              case measure => simp [intOf] <;> omega
            · obtain rfl : i = K.length := by omega
              go_wp2
              go_loopw [17] (fun iv wr => ∃ i : Nat, i ≤ len ∧ iv = .int .i64 i ∧ Hid (Below wx.heap.size wx wr)) (fun iv _ => len - (intOf iv).toNat)
              case atStart => exact ⟨0, by omega, rfl, HV6.out⟩
              case round =>
                obtain ⟨i, hi2, rfl, HV7⟩ := hrel
                have hc7 := HCc.out _ (nxTo HW.out HV7.out)
                by_cases hlt7 : i < len
                · have hin7 : (i : Int) < (len : Int) := by omega
                  have HT7 : Hid (TwoR wr w.heap.size m r) := HT.out.later (nxTo HW.out HV7.out)
                  by_cases hu : Und m.T i k
                  · have HU7 := Lib.hid (te_undT wr _ m HT7.out.t HT7.out.i i k (by rw [HL.out]; exact hlt7) hkL true ⟨fun _ => hu, fun _ => rfl⟩)
                    have HU8 : Hid (∀ W, Below wr.heap.size wr W → Calls Try.prog 20 #[.pointer (some ⟨r.q, 0, none⟩), .int .i64 (i : Int), .int .i64 (k : Int)] W fun e w' => e = .returned (.bool true) ∧ w' = W) := fun W hW => rt_under W m.T r (HT7.out.later hW).d HT7.out.i.ok i k (by rw [HTl.out]; exact hlt7) hkT true ⟨fun _ => hu, fun _ => rfl⟩
                    go_wp2_with (first
                      | (go_at_call 16; refine HU7.out.mono ?_; rintro e wu ⟨rfl, hbu⟩; have Vu := Lib.hid hbu; clear hbu)
                      | (go_at_call 20; refine (HU8.out _ Vu.out).mono ?_; rintro e wv ⟨rfl, hwv⟩; obtain rfl := hwv.symm))
                    go_roundw
                    case rel => exact ⟨i + 1, by omega, by go_num, nxTo HV7.out Vu.out⟩
                    case measure => simp [intOf] <;> omega
                  · have HU7 := Lib.hid (te_undT wr _ m HT7.out.t HT7.out.i i k (by rw [HL.out]; exact hlt7) hkL false ⟨fun k => (by cases k), fun k => absurd k hu⟩)
                    have HU8 : Hid (∀ W, Below wr.heap.size wr W → Calls Try.prog 20 #[.pointer (some ⟨r.q, 0, none⟩), .int .i64 (i : Int), .int .i64 (k : Int)] W fun e w' => e = .returned (.bool false) ∧ w' = W) := fun W hW => rt_under W m.T r (HT7.out.later hW).d HT7.out.i.ok i k (by rw [HTl.out]; exact hlt7) hkT false ⟨fun k => (by cases k), fun k => absurd k hu⟩
                    go_wp2_with (first
                      | (go_at_call 16; refine HU7.out.mono ?_; rintro e wu ⟨rfl, hbu⟩; have Vu := Lib.hid hbu; clear hbu)
                      | (go_at_call 20; refine (HU8.out _ Vu.out).mono ?_; rintro e wv ⟨rfl, hwv⟩; obtain rfl := hwv.symm))
                    go_roundw
                    case rel => exact ⟨i + 1, by omega, by go_num, nxTo HV7.out Vu.out⟩
                    case measure => simp [intOf] <;> omega
                · obtain rfl : i = len := by omega
                  go_wp2
                  go_roundw
                  case rel => exact ⟨(k : Int) + 1, by omega, by omega, by go_num, nxTo HV.out (nxTo HW.out HV7.out)⟩
                  case measure => simp [intOf] <;> omega
    · have hgt : ¬ n ≤ (len : Int) := hle
      clear hle
      go_wp2_with (go_at_call 8; refine (te_known _).mono ?_; rintro e w4 ⟨rfl, hb4⟩; have K4 : Hid (Below w.heap.size w w4) := nxTo (nxTo VD.out HV.out) hb4; clear hb4)
      go_ret
      exact ⟨rfl, K4.out⟩
end Go.Proofs.Ytefgnemcjgibaaa
