/-
  dag: what is asked for of places: the anticone, the future, tips.
-/
import Derived.Test.YtndkjmmmneianaaDoorDgE
namespace Go.Proofs.YtndkjmmmneianaaDoor
open Go.RowKit Go.Shelf

noncomputable def ancB (G : Gr) (a b : Nat) : Bool := @decide (Anc G a b) (Classical.propDecidable _)
theorem ancB_iff {G : Gr} {a b : Nat} : ancB G a b = true ↔ Anc G a b := @decide_eq_true_iff _ (Classical.propDecidable _)
theorem has_row {W : World} {base : Nat} {m : GrM} {G : Gr} (h : GrOk W base m) (hg : GrI0 m G) {k : Nat} (hk : k < G.length) : ∃ gn A c ws, m.nA = some ⟨gn, 0, none⟩ ∧ W.cell? ⟨m.q, 1, none⟩ = some (.slice (some ⟨gn, 0, none⟩) G.length m.nc) ∧ W.cell? ⟨gn, k * 3 + 2, none⟩ = some (.slice A ws c) ∧
    ∀ (q j : Nat), j ≤ 1000000 → Calls Tryd.prog 38 #[.slice A ws c, .int .i64 (j : Int)] (W.drewN q) fun e w' => e = .returned (.bool (ancB G j k)) ∧ w' = W.drewN q := by
  have hkl : k < m.L.length := by rw [hg.len]; exact hk
  obtain ⟨gn, hnA, _, _, _, hc⟩ := nds_cell h hkl
  have hb := h.b.cell 1
  refine ⟨gn, m.L[k].rA, m.L[k].rc, m.L[k].row.length, hnA, ?_, hc, fun q j hj => ?_⟩
  · rw [hb, hnA, ← hg.len]; rfl
  · have h1 := has_any (W.drewN q) m.L[k].rA m.L[k].rc m.L[k].row j (show SeesV W W.heap.size _ _ from h.row _ (List.getElem_mem hkl)) (hg.row k hkl).2.1 (by omega)
    have e : rowB m.L[k].row j = ancB G j k := by rw [Bool.eq_iff_iff, ancB_iff]; exact (hg.row k hkl).2.2 j
    rw [e] at h1
    exact h1
noncomputable def antB (G : Gr) (z : Bool) (n k : Nat) : Bool := z && !(k == n) && !ancB G n k && !ancB G k n
set_option maxRecDepth 100000 in
set_option maxHeartbeats 2000000 in
theorem anti1_any (W : World) (base : Nat) (m : GrM) (G : Gr) (h : GrOk W base m) (hg : GrI0 m G) (bi bn bg n k : Nat) (z : Bool) (hk : k < G.length) (hn : n < G.length)
    (c1 : W.cell? ⟨bi, 0, none⟩ = some (.bool z)) (c2 : W.cell? ⟨bn, 0, none⟩ = some (.int .i64 (n : Int))) (c3 : W.cell? ⟨bg, 0, none⟩ = some (.pointer (some ⟨m.q, 0, none⟩))) :
    Calls Tryd.prog 45 #[.int .i64 (k : Int), .pointer (some ⟨bi, 0, none⟩), .pointer (some ⟨bn, 0, none⟩), .pointer (some ⟨bg, 0, none⟩)] W fun e w' => e = .returned (.bool (antB G z n k)) ∧ Below W.heap.size W w' := by
  obtain ⟨gn, A1, d1, l1, hnA, hcq, hc1, hh1⟩ := has_row h hg hk
  obtain ⟨gn2, A2, d2, l2, hnA2, _, hc2, hh2⟩ := has_row h hg hn
  have e2 : gn2 = gn := by rw [hnA] at hnA2; injection hnA2 with e; injection e with e; exact e.symm
  subst e2
  have hmx : G.length ≤ 1000000 := by rw [← hg.len]; exact hg.max
  have HH1 : Hid (∀ q, Calls Tryd.prog 38 #[.slice A1 l1 d1, .int .i64 (n : Int)] (W.drewN q) fun e w' => e = .returned (.bool (ancB G n k)) ∧ w' = W.drewN q) := fun q => hh1 q n (by omega)
  have HH2 : Hid (∀ q, Calls Tryd.prog 38 #[.slice A2 l2 d2, .int .i64 (k : Int)] (W.drewN q) fun e w' => e = .returned (.bool (ancB G k n)) ∧ w' = W.drewN q) := fun q => hh2 q k (by omega)
  have hq : ∀ q, Below W.heap.size W (W.drewN q) := fun q => ⟨rfl, rfl, rfl, Nat.le_refl _, fun _ _ => rfl⟩
  have HQ := Lib.hid hq
  unfold antB
  clear h hg hnA hnA2 hh1 hh2 hq
  generalize ancB G n k = x at *
  generalize ancB G k n = y at *
  cases z with
  | false =>
    go_enter Tryd.func45, Tryd.ntmps45
    go_wp2
    go_quiet (fail)
    go_wp2
    go_ret
    exact ⟨rfl, HQ.out _⟩
  | true =>
    by_cases hkn : k = n
    · subst hkn
      go_enter Tryd.func45, Tryd.ntmps45
      go_wp2
      go_quiet (fail)
      go_wp2
      go_ret
      exact ⟨by simp, HQ.out _⟩
    · have hne : ((k : Int) != (n : Int)) = true := by rw [bne_iff_ne]; omega
      have hne2 : (k == n) = false := by rw [beq_eq_false_iff_ne]; exact hkn
      rw [hne2]
      cases x with
      | true =>
        go_enter Tryd.func45, Tryd.ntmps45
        go_wp2
        go_quiet (first | (go_at_call 38; refine Calls.quiet_of_same (HH1.out _)))
        go_wp2
        go_ret
        exact ⟨rfl, HQ.out _⟩
      | false =>
        cases y <;>
        · go_enter Tryd.func45, Tryd.ntmps45
          go_wp2
          go_quiet (first | (go_at_call 38; (with_reducible show Calls _ _ #[.slice A1 l1 d1, _] _ _); refine Calls.quiet_of_same (HH1.out _)) | (go_at_call 38; (with_reducible show Calls _ _ #[.slice A2 l2 d2, _] _ _); refine Calls.quiet_of_same (HH2.out _)))
          go_wp2
          go_ret
          exact ⟨rfl, HQ.out _⟩
noncomputable def futB (G : Gr) (z : Bool) (n k : Nat) : Bool := z && ancB G n k
set_option maxRecDepth 100000 in
set_option maxHeartbeats 2000000 in
theorem fut1_any (W : World) (base : Nat) (m : GrM) (G : Gr) (h : GrOk W base m) (hg : GrI0 m G) (bi bn bg n k : Nat) (z : Bool) (hk : k < G.length) (hn : n < G.length)
    (c1 : W.cell? ⟨bi, 0, none⟩ = some (.bool z)) (c2 : W.cell? ⟨bn, 0, none⟩ = some (.int .i64 (n : Int))) (c3 : W.cell? ⟨bg, 0, none⟩ = some (.pointer (some ⟨m.q, 0, none⟩))) :
    Calls Tryd.prog 44 #[.int .i64 (k : Int), .pointer (some ⟨bi, 0, none⟩), .pointer (some ⟨bg, 0, none⟩), .pointer (some ⟨bn, 0, none⟩)] W fun e w' => e = .returned (.bool (futB G z n k)) ∧ Below W.heap.size W w' := by
  obtain ⟨gn, A1, d1, l1, hnA, hcq, hc1, hh1⟩ := has_row h hg hk
  have hmx : G.length ≤ 1000000 := by rw [← hg.len]; exact hg.max
  have HH1 : Hid (∀ q, Calls Tryd.prog 38 #[.slice A1 l1 d1, .int .i64 (n : Int)] (W.drewN q) fun e w' => e = .returned (.bool (ancB G n k)) ∧ w' = W.drewN q) := fun q => hh1 q n (by omega)
  have hq : ∀ q, Below W.heap.size W (W.drewN q) := fun q => ⟨rfl, rfl, rfl, Nat.le_refl _, fun _ _ => rfl⟩
  have HQ := Lib.hid hq
  unfold futB
  clear h hg hnA hh1 hq
  generalize ancB G n k = x at *
  cases z with
  | false =>
    go_enter Tryd.func44, Tryd.ntmps44
    go_wp2
    go_quiet (fail)
    go_wp2
    go_ret
    exact ⟨rfl, HQ.out _⟩
  | true =>
    go_enter Tryd.func44, Tryd.ntmps44
    go_wp2
    go_quiet (first | (go_at_call 38; refine Calls.quiet_of_same (HH1.out _)))
    go_wp2
    go_ret
    exact ⟨by simp, HQ.out _⟩
noncomputable def tipB (G : Gr) (k : Nat) : Bool := @decide (∀ n, k ∉ parG G n) (Classical.propDecidable _)
theorem tips1_any (W : World) (base : Nat) (m : GrM) (G : Gr) (h : GrOk W base m) (hg : GrI0 m G) (bg k : Nat) (hk : k < G.length) (c3 : W.cell? ⟨bg, 0, none⟩ = some (.pointer (some ⟨m.q, 0, none⟩))) :
    Calls Tryd.prog 58 #[.int .i64 (k : Int), .pointer (some ⟨bg, 0, none⟩)] W fun e w' => e = .returned (.bool (tipB G k)) ∧ Below W.heap.size W w' := by
  have hkl : k < m.L.length := by rw [hg.len]; exact hk
  obtain ⟨gn, hnA, _, _, hc, _⟩ := nds_cell h hkl
  have hb := h.b.cell 1
  have hcq : W.cell? ⟨m.q, 1, none⟩ = some (.slice (some ⟨gn, 0, none⟩) G.length m.nc) := by rw [hb, hnA, ← hg.len]; rfl
  have hmx : G.length ≤ 1000000 := by rw [← hg.len]; exact hg.max
  have hkd : m.L[k].kids.length ≤ 1000000 := Nat.le_trans (len_le_of (hg.kdis k hkl) (fun p hp => parG_lt ((hg.kids k hkl p).1 hp))) hmx
  have ht : tipB G k = ((m.L[k].kids.length : Int) == 0) := by
    rw [Bool.eq_iff_iff, beq_iff_eq]
    unfold tipB
    rw [@decide_eq_true_iff _ (Classical.propDecidable _)]
    constructor
    · intro h1
      have : m.L[k].kids = [] := List.eq_nil_iff_forall_not_mem.2 fun p hp => h1 p ((hg.kids k hkl p).1 hp)
      rw [this]; rfl
    · intro h1 n hn
      have h2 : m.L[k].kids.length = 0 := by omega
      have h3 := List.eq_nil_of_length_eq_zero h2
      have h4 := (hg.kids k hkl n).2 hn
      rw [h3] at h4; cases h4
  rw [ht]
  generalize m.L[k].kids.length = K at *
  generalize m.L[k].kA = A9 at *
  generalize m.L[k].kc = c9 at *
  clear h hg ht hnA hb
  go_enter Tryd.func58, Tryd.ntmps58
  go_wp2
  go_ret
  exact ⟨rfl, Below.refl _ _⟩
end Go.Proofs.YtndkjmmmneianaaDoor
