/-
  block, the document's: SameHeader. · block: rows of noughts, and the law's num and known.
-/
import Derived.Test.YtjcbihdhkaiidaaBk0
import Derived.Test.YtjcbihdhkaiidaaEq
import Derived.Test.YtjcbihdhkaiidaaPBlQ7
import Derived.Test.YtjcbihdhkaiidaaBk3
import Derived.Test.YtjcbihdhkaiidaaTr1
namespace Go.Proofs.Ytjcbihdhkaiidaa
open Go.RowKit

theorem neq_hashes (x y : List UInt8) (hx : x.length = 32) (hy : y.length = 32) (z : Bool) (hz : (x == y) = z) (wq : World) : (binOp .neq 24 (.agg (By x).toArray) (.agg (By y).toArray)).run Try.prog wq = .ok (.bool (!z)) wq := by
  rw [run_neq_bytes 32 24 5 Try.underlying24 Try.underlying5 Try.u8sz x y hx hy, hz]
theorem nxDr6 {w W : World} (h : Below w.heap.size w W) (n : Nat) : Below w.heap.size w (W.drewN n) := ⟨h.os, h.tape, h.output, h.size, h.block⟩
theorem hdp_ne {p q : HdP} (h : ¬ (p.ps = q.ps ∧ p.rt = q.rt ∧ p.ac = q.ac ∧ p.co = q.co ∧ p.mi = q.mi ∧ p.nonce = q.nonce)) : decide (p = q) = false := by
  apply decide_eq_false
  intro e
  subst e
  exact h ⟨rfl, rfl, rfl, rfl, rfl, rfl⟩
theorem hdp_eq {p q : HdP} (h0 : p.ps = q.ps) (h1 : p.rt = q.rt) (h2 : p.ac = q.ac) (h3 : p.co = q.co) (h4 : p.mi = q.mi) (h5 : p.nonce = q.nonce) : decide (p = q) = true := by
  apply decide_eq_true
  cases p; cases q
  simp_all

set_option maxHeartbeats 4000000 in
set_option maxRecDepth 100000 in
theorem sameh_any (w : World) (a b : HdR) (ka : HdOk w a) (kb : HdOk w b) : Calls Try.prog 10 #[.agg (hdC a).toArray, .agg (hdC b).toArray] w fun e w' => e = .returned (.bool (decide (a.p = b.p))) ∧ Below w.heap.size w w' := by
  have Hb0 : Hid (Below w.heap.size w ((w.alloc (.cells (hdC a).toArray 27)).alloc (.cells (hdC b).toArray 27))) := nxAl (nxAl (nxRf w) _) _
  have HRa := Lib.hid (HdRow.of (blkR (vs := hdC a) (show Blk ((w.alloc (.cells (hdC a).toArray 27)).alloc (.cells (hdC b).toArray 27)) w.heap.size 27 (hdC a).toArray from Blk.alloc (heap_alloc_new w _) _)) ka.f)
  have HRb := Lib.hid (HdRow.of (blkR (vs := hdC b) (show Blk ((w.alloc (.cells (hdC a).toArray 27)).alloc (.cells (hdC b).toArray 27)) (w.heap.size + 1) 27 (hdC b).toArray from Blk.newAt (by simp) rfl)) kb.f)
  have c0 : ((w.alloc (.cells (hdC a).toArray 27)).alloc (.cells (hdC b).toArray 27)).cell? ⟨w.heap.size, 0, none⟩ = some (.slice a.A a.p.ps.length a.c) := HRa.out.ps
  have c1 : ((w.alloc (.cells (hdC a).toArray 27)).alloc (.cells (hdC b).toArray 27)).cell? ⟨w.heap.size + 1, 0, none⟩ = some (.slice b.A b.p.ps.length b.c) := HRb.out.ps
  have n0 : ((w.alloc (.cells (hdC a).toArray 27)).alloc (.cells (hdC b).toArray 27)).cell? ⟨w.heap.size, 129, none⟩ = some (.int .u64 (a.p.nonce : Int)) := HRa.out.nonce
  have n1 : ((w.alloc (.cells (hdC a).toArray 27)).alloc (.cells (hdC b).toArray 27)).cell? ⟨w.heap.size + 1, 129, none⟩ = some (.int .u64 (b.p.nonce : Int)) := HRb.out.nonce
  have FA := Lib.hid ka.f
  have FB := Lib.hid kb.f
  have SA := Lib.hid ka.s
  have SB := Lib.hid kb.s
  have MA := Lib.hid ka.m
  have MB := Lib.hid kb.m
  clear ka kb
  by_cases hl : a.p.ps.length = b.p.ps.length
  rotate_left 1
  · have hl1 : ((a.p.ps.length : Int) != (b.p.ps.length : Int)) = true := by rw [bne, beq_eq_false_iff_ne.2 (by omega)]; rfl
    have HL := Lib.hid hl
    clear hl
    have HD0 : Hid (decide (a.p = b.p) = false) := hdp_ne (fun h => HL.out (by rw [h.1]))
    obtain ⟨D, hD⟩ : ∃ D, decide (a.p = b.p) = D := ⟨_, rfl⟩
    rw [hD] at HD0 ⊢
    clear hD
    go_enter Try.func10, Try.ntmps10
    go_wp2_with (first
      | ((with_reducible show wpList _ _ _ (⟨some 15, _, _, _, _, _⟩ :: _) _ _); refine wpList_load_midg (by rfl) 24 (.tmp 14) rfl w.heap.size 1 rfl (By a.p.rt) _ HRa.out.rt Try.underlying24 rfl (hsz FA.out.rt) ?_)
      | ((with_reducible show wpList _ _ _ (⟨some 17, _, _, _, _, _⟩ :: _) _ _); refine wpList_load_midg (by rfl) 24 (.tmp 16) rfl (w.heap.size + 1) 1 rfl (By b.p.rt) _ HRb.out.rt Try.underlying24 rfl (hsz FB.out.rt) ?_)
      | ((with_reducible show wpList _ _ _ (⟨some 22, _, _, _, _, _⟩ :: _) _ _); refine wpList_load_midg (by rfl) 24 (.tmp 21) rfl w.heap.size 33 rfl (By a.p.ac) _ HRa.out.ac Try.underlying24 rfl (hsz FA.out.ac) ?_)
      | ((with_reducible show wpList _ _ _ (⟨some 24, _, _, _, _, _⟩ :: _) _ _); refine wpList_load_midg (by rfl) 24 (.tmp 23) rfl (w.heap.size + 1) 33 rfl (By b.p.ac) _ HRb.out.ac Try.underlying24 rfl (hsz FB.out.ac) ?_)
      | ((with_reducible show wpList _ _ _ (⟨some 29, _, _, _, _, _⟩ :: _) _ _); refine wpList_load_midg (by rfl) 24 (.tmp 28) rfl w.heap.size 65 rfl (By a.p.co) _ HRa.out.co Try.underlying24 rfl (hsz FA.out.co) ?_)
      | ((with_reducible show wpList _ _ _ (⟨some 31, _, _, _, _, _⟩ :: _) _ _); refine wpList_load_midg (by rfl) 24 (.tmp 30) rfl (w.heap.size + 1) 65 rfl (By b.p.co) _ HRb.out.co Try.underlying24 rfl (hsz FB.out.co) ?_)
      | ((with_reducible show wpList _ _ _ (⟨some 36, _, _, _, _, _⟩ :: _) _ _); refine wpList_load_midg (by rfl) 24 (.tmp 35) rfl w.heap.size 97 rfl (By a.p.mi) _ HRa.out.mi Try.underlying24 rfl (hsz FA.out.mi) ?_)
      | ((with_reducible show wpList _ _ _ (⟨some 38, _, _, _, _, _⟩ :: _) _ _); refine wpList_load_midg (by rfl) 24 (.tmp 37) rfl (w.heap.size + 1) 97 rfl (By b.p.mi) _ HRb.out.mi Try.underlying24 rfl (hsz FB.out.mi) ?_))
    go_ret
    exact ⟨by rw [HD0.out] <;> rfl, Hb0.out⟩
  have hl1 : ((a.p.ps.length : Int) != (b.p.ps.length : Int)) = false := by rw [hl, bne, beq_self_eq_true]; rfl
  have HL := Lib.hid hl
  clear hl
  by_cases e0 : a.p.rt = b.p.rt
  rotate_left 1
  · have q0 : ∀ wq, (binOp .neq 24 (.agg (By a.p.rt).toArray) (.agg (By b.p.rt).toArray)).run Try.prog wq = .ok (.bool true) wq := fun wq => neq_hashes _ _ FA.out.rt FB.out.rt false (beq_eq_false_iff_ne.2 e0) wq
    have E0 := Lib.hid e0
    clear e0
    have HD0 : Hid (decide (a.p = b.p) = false) := hdp_ne (fun h => E0.out h.2.1)
    obtain ⟨D, hD⟩ : ∃ D, decide (a.p = b.p) = D := ⟨_, rfl⟩
    rw [hD] at HD0 ⊢
    clear hD
    go_enter Try.func10, Try.ntmps10
    go_wp2_with (first
      | ((with_reducible show wpList _ _ _ (⟨some 15, _, _, _, _, _⟩ :: _) _ _); refine wpList_load_midg (by rfl) 24 (.tmp 14) rfl w.heap.size 1 rfl (By a.p.rt) _ HRa.out.rt Try.underlying24 rfl (hsz FA.out.rt) ?_)
      | ((with_reducible show wpList _ _ _ (⟨some 17, _, _, _, _, _⟩ :: _) _ _); refine wpList_load_midg (by rfl) 24 (.tmp 16) rfl (w.heap.size + 1) 1 rfl (By b.p.rt) _ HRb.out.rt Try.underlying24 rfl (hsz FB.out.rt) ?_)
      | ((with_reducible show wpList _ _ _ (⟨some 22, _, _, _, _, _⟩ :: _) _ _); refine wpList_load_midg (by rfl) 24 (.tmp 21) rfl w.heap.size 33 rfl (By a.p.ac) _ HRa.out.ac Try.underlying24 rfl (hsz FA.out.ac) ?_)
      | ((with_reducible show wpList _ _ _ (⟨some 24, _, _, _, _, _⟩ :: _) _ _); refine wpList_load_midg (by rfl) 24 (.tmp 23) rfl (w.heap.size + 1) 33 rfl (By b.p.ac) _ HRb.out.ac Try.underlying24 rfl (hsz FB.out.ac) ?_)
      | ((with_reducible show wpList _ _ _ (⟨some 29, _, _, _, _, _⟩ :: _) _ _); refine wpList_load_midg (by rfl) 24 (.tmp 28) rfl w.heap.size 65 rfl (By a.p.co) _ HRa.out.co Try.underlying24 rfl (hsz FA.out.co) ?_)
      | ((with_reducible show wpList _ _ _ (⟨some 31, _, _, _, _, _⟩ :: _) _ _); refine wpList_load_midg (by rfl) 24 (.tmp 30) rfl (w.heap.size + 1) 65 rfl (By b.p.co) _ HRb.out.co Try.underlying24 rfl (hsz FB.out.co) ?_)
      | ((with_reducible show wpList _ _ _ (⟨some 36, _, _, _, _, _⟩ :: _) _ _); refine wpList_load_midg (by rfl) 24 (.tmp 35) rfl w.heap.size 97 rfl (By a.p.mi) _ HRa.out.mi Try.underlying24 rfl (hsz FA.out.mi) ?_)
      | ((with_reducible show wpList _ _ _ (⟨some 38, _, _, _, _, _⟩ :: _) _ _); refine wpList_load_midg (by rfl) 24 (.tmp 37) rfl (w.heap.size + 1) 97 rfl (By b.p.mi) _ HRb.out.mi Try.underlying24 rfl (hsz FB.out.mi) ?_))
    go_ret
    exact ⟨by rw [HD0.out] <;> rfl, Hb0.out⟩
  have q0 : ∀ wq, (binOp .neq 24 (.agg (By a.p.rt).toArray) (.agg (By b.p.rt).toArray)).run Try.prog wq = .ok (.bool false) wq := fun wq => neq_hashes _ _ FA.out.rt FB.out.rt true (by rw [e0]; exact beq_self_eq_true _) wq
  have E0 := Lib.hid e0
  clear e0
  by_cases e1 : a.p.ac = b.p.ac
  rotate_left 1
  · have q1 : ∀ wq, (binOp .neq 24 (.agg (By a.p.ac).toArray) (.agg (By b.p.ac).toArray)).run Try.prog wq = .ok (.bool true) wq := fun wq => neq_hashes _ _ FA.out.ac FB.out.ac false (beq_eq_false_iff_ne.2 e1) wq
    have E1 := Lib.hid e1
    clear e1
    have HD0 : Hid (decide (a.p = b.p) = false) := hdp_ne (fun h => E1.out h.2.2.1)
    obtain ⟨D, hD⟩ : ∃ D, decide (a.p = b.p) = D := ⟨_, rfl⟩
    rw [hD] at HD0 ⊢
    clear hD
    go_enter Try.func10, Try.ntmps10
    go_wp2_with (first
      | ((with_reducible show wpList _ _ _ (⟨some 15, _, _, _, _, _⟩ :: _) _ _); refine wpList_load_midg (by rfl) 24 (.tmp 14) rfl w.heap.size 1 rfl (By a.p.rt) _ HRa.out.rt Try.underlying24 rfl (hsz FA.out.rt) ?_)
      | ((with_reducible show wpList _ _ _ (⟨some 17, _, _, _, _, _⟩ :: _) _ _); refine wpList_load_midg (by rfl) 24 (.tmp 16) rfl (w.heap.size + 1) 1 rfl (By b.p.rt) _ HRb.out.rt Try.underlying24 rfl (hsz FB.out.rt) ?_)
      | ((with_reducible show wpList _ _ _ (⟨some 22, _, _, _, _, _⟩ :: _) _ _); refine wpList_load_midg (by rfl) 24 (.tmp 21) rfl w.heap.size 33 rfl (By a.p.ac) _ HRa.out.ac Try.underlying24 rfl (hsz FA.out.ac) ?_)
      | ((with_reducible show wpList _ _ _ (⟨some 24, _, _, _, _, _⟩ :: _) _ _); refine wpList_load_midg (by rfl) 24 (.tmp 23) rfl (w.heap.size + 1) 33 rfl (By b.p.ac) _ HRb.out.ac Try.underlying24 rfl (hsz FB.out.ac) ?_)
      | ((with_reducible show wpList _ _ _ (⟨some 29, _, _, _, _, _⟩ :: _) _ _); refine wpList_load_midg (by rfl) 24 (.tmp 28) rfl w.heap.size 65 rfl (By a.p.co) _ HRa.out.co Try.underlying24 rfl (hsz FA.out.co) ?_)
      | ((with_reducible show wpList _ _ _ (⟨some 31, _, _, _, _, _⟩ :: _) _ _); refine wpList_load_midg (by rfl) 24 (.tmp 30) rfl (w.heap.size + 1) 65 rfl (By b.p.co) _ HRb.out.co Try.underlying24 rfl (hsz FB.out.co) ?_)
      | ((with_reducible show wpList _ _ _ (⟨some 36, _, _, _, _, _⟩ :: _) _ _); refine wpList_load_midg (by rfl) 24 (.tmp 35) rfl w.heap.size 97 rfl (By a.p.mi) _ HRa.out.mi Try.underlying24 rfl (hsz FA.out.mi) ?_)
      | ((with_reducible show wpList _ _ _ (⟨some 38, _, _, _, _, _⟩ :: _) _ _); refine wpList_load_midg (by rfl) 24 (.tmp 37) rfl (w.heap.size + 1) 97 rfl (By b.p.mi) _ HRb.out.mi Try.underlying24 rfl (hsz FB.out.mi) ?_))
    go_ret
    exact ⟨by rw [HD0.out] <;> rfl, Hb0.out⟩
  have q1 : ∀ wq, (binOp .neq 24 (.agg (By a.p.ac).toArray) (.agg (By b.p.ac).toArray)).run Try.prog wq = .ok (.bool false) wq := fun wq => neq_hashes _ _ FA.out.ac FB.out.ac true (by rw [e1]; exact beq_self_eq_true _) wq
  have E1 := Lib.hid e1
  clear e1
  by_cases e2 : a.p.co = b.p.co
  rotate_left 1
  · have q2 : ∀ wq, (binOp .neq 24 (.agg (By a.p.co).toArray) (.agg (By b.p.co).toArray)).run Try.prog wq = .ok (.bool true) wq := fun wq => neq_hashes _ _ FA.out.co FB.out.co false (beq_eq_false_iff_ne.2 e2) wq
    have E2 := Lib.hid e2
    clear e2
    have HD0 : Hid (decide (a.p = b.p) = false) := hdp_ne (fun h => E2.out h.2.2.2.1)
    obtain ⟨D, hD⟩ : ∃ D, decide (a.p = b.p) = D := ⟨_, rfl⟩
    rw [hD] at HD0 ⊢
    clear hD
    go_enter Try.func10, Try.ntmps10
    go_wp2_with (first
      | ((with_reducible show wpList _ _ _ (⟨some 15, _, _, _, _, _⟩ :: _) _ _); refine wpList_load_midg (by rfl) 24 (.tmp 14) rfl w.heap.size 1 rfl (By a.p.rt) _ HRa.out.rt Try.underlying24 rfl (hsz FA.out.rt) ?_)
      | ((with_reducible show wpList _ _ _ (⟨some 17, _, _, _, _, _⟩ :: _) _ _); refine wpList_load_midg (by rfl) 24 (.tmp 16) rfl (w.heap.size + 1) 1 rfl (By b.p.rt) _ HRb.out.rt Try.underlying24 rfl (hsz FB.out.rt) ?_)
      | ((with_reducible show wpList _ _ _ (⟨some 22, _, _, _, _, _⟩ :: _) _ _); refine wpList_load_midg (by rfl) 24 (.tmp 21) rfl w.heap.size 33 rfl (By a.p.ac) _ HRa.out.ac Try.underlying24 rfl (hsz FA.out.ac) ?_)
      | ((with_reducible show wpList _ _ _ (⟨some 24, _, _, _, _, _⟩ :: _) _ _); refine wpList_load_midg (by rfl) 24 (.tmp 23) rfl (w.heap.size + 1) 33 rfl (By b.p.ac) _ HRb.out.ac Try.underlying24 rfl (hsz FB.out.ac) ?_)
      | ((with_reducible show wpList _ _ _ (⟨some 29, _, _, _, _, _⟩ :: _) _ _); refine wpList_load_midg (by rfl) 24 (.tmp 28) rfl w.heap.size 65 rfl (By a.p.co) _ HRa.out.co Try.underlying24 rfl (hsz FA.out.co) ?_)
      | ((with_reducible show wpList _ _ _ (⟨some 31, _, _, _, _, _⟩ :: _) _ _); refine wpList_load_midg (by rfl) 24 (.tmp 30) rfl (w.heap.size + 1) 65 rfl (By b.p.co) _ HRb.out.co Try.underlying24 rfl (hsz FB.out.co) ?_)
      | ((with_reducible show wpList _ _ _ (⟨some 36, _, _, _, _, _⟩ :: _) _ _); refine wpList_load_midg (by rfl) 24 (.tmp 35) rfl w.heap.size 97 rfl (By a.p.mi) _ HRa.out.mi Try.underlying24 rfl (hsz FA.out.mi) ?_)
      | ((with_reducible show wpList _ _ _ (⟨some 38, _, _, _, _, _⟩ :: _) _ _); refine wpList_load_midg (by rfl) 24 (.tmp 37) rfl (w.heap.size + 1) 97 rfl (By b.p.mi) _ HRb.out.mi Try.underlying24 rfl (hsz FB.out.mi) ?_))
    go_ret
    exact ⟨by rw [HD0.out] <;> rfl, Hb0.out⟩
  have q2 : ∀ wq, (binOp .neq 24 (.agg (By a.p.co).toArray) (.agg (By b.p.co).toArray)).run Try.prog wq = .ok (.bool false) wq := fun wq => neq_hashes _ _ FA.out.co FB.out.co true (by rw [e2]; exact beq_self_eq_true _) wq
  have E2 := Lib.hid e2
  clear e2
  by_cases e3 : a.p.mi = b.p.mi
  rotate_left 1
  · have q3 : ∀ wq, (binOp .neq 24 (.agg (By a.p.mi).toArray) (.agg (By b.p.mi).toArray)).run Try.prog wq = .ok (.bool true) wq := fun wq => neq_hashes _ _ FA.out.mi FB.out.mi false (beq_eq_false_iff_ne.2 e3) wq
    have E3 := Lib.hid e3
    clear e3
    have HD0 : Hid (decide (a.p = b.p) = false) := hdp_ne (fun h => E3.out h.2.2.2.2.1)
    obtain ⟨D, hD⟩ : ∃ D, decide (a.p = b.p) = D := ⟨_, rfl⟩
    rw [hD] at HD0 ⊢
    clear hD
    go_enter Try.func10, Try.ntmps10
    go_wp2_with (first
      | ((with_reducible show wpList _ _ _ (⟨some 15, _, _, _, _, _⟩ :: _) _ _); refine wpList_load_midg (by rfl) 24 (.tmp 14) rfl w.heap.size 1 rfl (By a.p.rt) _ HRa.out.rt Try.underlying24 rfl (hsz FA.out.rt) ?_)
      | ((with_reducible show wpList _ _ _ (⟨some 17, _, _, _, _, _⟩ :: _) _ _); refine wpList_load_midg (by rfl) 24 (.tmp 16) rfl (w.heap.size + 1) 1 rfl (By b.p.rt) _ HRb.out.rt Try.underlying24 rfl (hsz FB.out.rt) ?_)
      | ((with_reducible show wpList _ _ _ (⟨some 22, _, _, _, _, _⟩ :: _) _ _); refine wpList_load_midg (by rfl) 24 (.tmp 21) rfl w.heap.size 33 rfl (By a.p.ac) _ HRa.out.ac Try.underlying24 rfl (hsz FA.out.ac) ?_)
      | ((with_reducible show wpList _ _ _ (⟨some 24, _, _, _, _, _⟩ :: _) _ _); refine wpList_load_midg (by rfl) 24 (.tmp 23) rfl (w.heap.size + 1) 33 rfl (By b.p.ac) _ HRb.out.ac Try.underlying24 rfl (hsz FB.out.ac) ?_)
      | ((with_reducible show wpList _ _ _ (⟨some 29, _, _, _, _, _⟩ :: _) _ _); refine wpList_load_midg (by rfl) 24 (.tmp 28) rfl w.heap.size 65 rfl (By a.p.co) _ HRa.out.co Try.underlying24 rfl (hsz FA.out.co) ?_)
      | ((with_reducible show wpList _ _ _ (⟨some 31, _, _, _, _, _⟩ :: _) _ _); refine wpList_load_midg (by rfl) 24 (.tmp 30) rfl (w.heap.size + 1) 65 rfl (By b.p.co) _ HRb.out.co Try.underlying24 rfl (hsz FB.out.co) ?_)
      | ((with_reducible show wpList _ _ _ (⟨some 36, _, _, _, _, _⟩ :: _) _ _); refine wpList_load_midg (by rfl) 24 (.tmp 35) rfl w.heap.size 97 rfl (By a.p.mi) _ HRa.out.mi Try.underlying24 rfl (hsz FA.out.mi) ?_)
      | ((with_reducible show wpList _ _ _ (⟨some 38, _, _, _, _, _⟩ :: _) _ _); refine wpList_load_midg (by rfl) 24 (.tmp 37) rfl (w.heap.size + 1) 97 rfl (By b.p.mi) _ HRb.out.mi Try.underlying24 rfl (hsz FB.out.mi) ?_))
    go_ret
    exact ⟨by rw [HD0.out] <;> rfl, Hb0.out⟩
  have q3 : ∀ wq, (binOp .neq 24 (.agg (By a.p.mi).toArray) (.agg (By b.p.mi).toArray)).run Try.prog wq = .ok (.bool false) wq := fun wq => neq_hashes _ _ FA.out.mi FB.out.mi true (by rw [e3]; exact beq_self_eq_true _) wq
  have E3 := Lib.hid e3
  clear e3
  by_cases e4 : a.p.nonce = b.p.nonce
  rotate_left 1
  · have q4 : ((a.p.nonce : Int) != (b.p.nonce : Int)) = true := by rw [bne, beq_eq_false_iff_ne.2 (by omega)]; rfl
    have E4 := Lib.hid e4
    clear e4
    have HD0 : Hid (decide (a.p = b.p) = false) := hdp_ne (fun h => E4.out h.2.2.2.2.2)
    obtain ⟨D, hD⟩ : ∃ D, decide (a.p = b.p) = D := ⟨_, rfl⟩
    rw [hD] at HD0 ⊢
    clear hD
    go_enter Try.func10, Try.ntmps10
    go_wp2_with (first
      | ((with_reducible show wpList _ _ _ (⟨some 15, _, _, _, _, _⟩ :: _) _ _); refine wpList_load_midg (by rfl) 24 (.tmp 14) rfl w.heap.size 1 rfl (By a.p.rt) _ HRa.out.rt Try.underlying24 rfl (hsz FA.out.rt) ?_)
      | ((with_reducible show wpList _ _ _ (⟨some 17, _, _, _, _, _⟩ :: _) _ _); refine wpList_load_midg (by rfl) 24 (.tmp 16) rfl (w.heap.size + 1) 1 rfl (By b.p.rt) _ HRb.out.rt Try.underlying24 rfl (hsz FB.out.rt) ?_)
      | ((with_reducible show wpList _ _ _ (⟨some 22, _, _, _, _, _⟩ :: _) _ _); refine wpList_load_midg (by rfl) 24 (.tmp 21) rfl w.heap.size 33 rfl (By a.p.ac) _ HRa.out.ac Try.underlying24 rfl (hsz FA.out.ac) ?_)
      | ((with_reducible show wpList _ _ _ (⟨some 24, _, _, _, _, _⟩ :: _) _ _); refine wpList_load_midg (by rfl) 24 (.tmp 23) rfl (w.heap.size + 1) 33 rfl (By b.p.ac) _ HRb.out.ac Try.underlying24 rfl (hsz FB.out.ac) ?_)
      | ((with_reducible show wpList _ _ _ (⟨some 29, _, _, _, _, _⟩ :: _) _ _); refine wpList_load_midg (by rfl) 24 (.tmp 28) rfl w.heap.size 65 rfl (By a.p.co) _ HRa.out.co Try.underlying24 rfl (hsz FA.out.co) ?_)
      | ((with_reducible show wpList _ _ _ (⟨some 31, _, _, _, _, _⟩ :: _) _ _); refine wpList_load_midg (by rfl) 24 (.tmp 30) rfl (w.heap.size + 1) 65 rfl (By b.p.co) _ HRb.out.co Try.underlying24 rfl (hsz FB.out.co) ?_)
      | ((with_reducible show wpList _ _ _ (⟨some 36, _, _, _, _, _⟩ :: _) _ _); refine wpList_load_midg (by rfl) 24 (.tmp 35) rfl w.heap.size 97 rfl (By a.p.mi) _ HRa.out.mi Try.underlying24 rfl (hsz FA.out.mi) ?_)
      | ((with_reducible show wpList _ _ _ (⟨some 38, _, _, _, _, _⟩ :: _) _ _); refine wpList_load_midg (by rfl) 24 (.tmp 37) rfl (w.heap.size + 1) 97 rfl (By b.p.mi) _ HRb.out.mi Try.underlying24 rfl (hsz FB.out.mi) ?_))
    go_ret
    exact ⟨by rw [HD0.out] <;> rfl, Hb0.out⟩
  have q4 : ((a.p.nonce : Int) != (b.p.nonce : Int)) = false := by rw [e4, bne, beq_self_eq_true]; rfl
  have E4 := Lib.hid e4
  clear e4
  have HEq : Hid (a.p.ps = b.p.ps → decide (a.p = b.p) = true) := fun h => hdp_eq h E0.out E1.out E2.out E3.out E4.out
  have HNe : Hid (¬ a.p.ps = b.p.ps → decide (a.p = b.p) = false) := fun h => hdp_ne (fun q => h q.1)
  obtain ⟨D, hD⟩ : ∃ D, decide (a.p = b.p) = D := ⟨_, rfl⟩
  rw [hD] at HEq HNe ⊢
  have KA : Hid (All32 a.p.ps) := FA.out.ps
  have KB : Hid (All32 b.p.ps) := FB.out.ps
  have hlI : (a.p.ps.length : Int) = (b.p.ps.length : Int) := by rw [HL.out]
  have HLI := Lib.hid hlI
  clear hD hlI
  go_enter Try.func10, Try.ntmps10
  go_wp2_with (first
    | ((with_reducible show wpList _ _ _ (⟨some 15, _, _, _, _, _⟩ :: _) _ _); refine wpList_load_midg (by rfl) 24 (.tmp 14) rfl w.heap.size 1 rfl (By a.p.rt) _ HRa.out.rt Try.underlying24 rfl (hsz FA.out.rt) ?_)
    | ((with_reducible show wpList _ _ _ (⟨some 17, _, _, _, _, _⟩ :: _) _ _); refine wpList_load_midg (by rfl) 24 (.tmp 16) rfl (w.heap.size + 1) 1 rfl (By b.p.rt) _ HRb.out.rt Try.underlying24 rfl (hsz FB.out.rt) ?_)
    | ((with_reducible show wpList _ _ _ (⟨some 22, _, _, _, _, _⟩ :: _) _ _); refine wpList_load_midg (by rfl) 24 (.tmp 21) rfl w.heap.size 33 rfl (By a.p.ac) _ HRa.out.ac Try.underlying24 rfl (hsz FA.out.ac) ?_)
    | ((with_reducible show wpList _ _ _ (⟨some 24, _, _, _, _, _⟩ :: _) _ _); refine wpList_load_midg (by rfl) 24 (.tmp 23) rfl (w.heap.size + 1) 33 rfl (By b.p.ac) _ HRb.out.ac Try.underlying24 rfl (hsz FB.out.ac) ?_)
    | ((with_reducible show wpList _ _ _ (⟨some 29, _, _, _, _, _⟩ :: _) _ _); refine wpList_load_midg (by rfl) 24 (.tmp 28) rfl w.heap.size 65 rfl (By a.p.co) _ HRa.out.co Try.underlying24 rfl (hsz FA.out.co) ?_)
    | ((with_reducible show wpList _ _ _ (⟨some 31, _, _, _, _, _⟩ :: _) _ _); refine wpList_load_midg (by rfl) 24 (.tmp 30) rfl (w.heap.size + 1) 65 rfl (By b.p.co) _ HRb.out.co Try.underlying24 rfl (hsz FB.out.co) ?_)
    | ((with_reducible show wpList _ _ _ (⟨some 36, _, _, _, _, _⟩ :: _) _ _); refine wpList_load_midg (by rfl) 24 (.tmp 35) rfl w.heap.size 97 rfl (By a.p.mi) _ HRa.out.mi Try.underlying24 rfl (hsz FA.out.mi) ?_)
    | ((with_reducible show wpList _ _ _ (⟨some 38, _, _, _, _, _⟩ :: _) _ _); refine wpList_load_midg (by rfl) 24 (.tmp 37) rfl (w.heap.size + 1) 97 rfl (By b.p.mi) _ HRb.out.mi Try.underlying24 rfl (hsz FB.out.mi) ?_))
  have SA2 : Hid (SeesV ((w.alloc (.cells (hdC a).toArray 27)).alloc (.cells (hdC b).toArray 27)) w.heap.size a.A (Hs a.p.ps)) := (SA.out.below Hb0.out)
  have SB2 : Hid (SeesV ((w.alloc (.cells (hdC a).toArray 27)).alloc (.cells (hdC b).toArray 27)) w.heap.size b.A (Hs b.p.ps)) := (SB.out.below Hb0.out)
  clear SA SB HRa HRb n0 n1 q0 q1 q2 q3 q4 E0 E1 E2 E3 E4 hl1
  generalize ((w.alloc (.cells (hdC a).toArray 27)).alloc (.cells (hdC b).toArray 27)) = W at *
  obtain ⟨xs, hxs⟩ : ∃ xs, a.p.ps = xs := ⟨_, rfl⟩
  obtain ⟨ys, hys⟩ : ∃ xs, b.p.ps = xs := ⟨_, rfl⟩
  rw [hxs] at SA2 KA HEq HNe HL HLI MA c0
  rw [hys] at SB2 KB HEq HNe HL HLI MB c1
  rw [hxs, hys]
  clear hxs hys
  go_loopw [5] (fun iv wr => ∃ k : Nat, k ≤ xs.length ∧ iv = .int .i64 k ∧ (∃ q, wr = W.drewN q) ∧ xs.take k = ys.take k) (fun iv _ => xs.length - (intOf iv).toNat)
  case atStart => exact ⟨0, by omega, rfl, ⟨0, rfl⟩, rfl⟩
  case round =>
    obtain ⟨k, hk, rfl, ⟨q0, rfl⟩, hsm⟩ := hrel
    have c0' : (W.drewN q0).cell? ⟨w.heap.size, 0, none⟩ = some (.slice a.A xs.length a.c) := c0
    have c1' : (W.drewN q0).cell? ⟨w.heap.size + 1, 0, none⟩ = some (.slice b.A ys.length b.c) := c1
    by_cases hlt : k < xs.length
    · have hlt' : k < ys.length := by rw [← HL.out]; exact hlt
      obtain ⟨b0, off, hA, hbb, hrg⟩ := SeesV.hash SA2.out KA.out hlt
      obtain ⟨b1, off1, hB, hbb', hrg'⟩ := SeesV.hash SB2.out KB.out hlt'
      have hr0 := hrg k hlt
      have hr1 := hrg' k hlt'
      have hl0 := KA.out.get hlt
      have hl1 := KB.out.get hlt'
      have HR0 := Lib.hid hr0
      have HR1 := Lib.hid hr1
      have HZ0 := Lib.hid (hsz hl0)
      have HZ1 := Lib.hid (hsz hl1)
      rw [hA] at c0' c0
      rw [hB] at c1' c1
      clear hrg hrg' hr0 hr1 hA hB
      go_wp2
      refine wp_region_quiet_lit (by kernel_rfl) (by kernel_rfl) ?_
      repeat (go_big_quiet_step (fail))
      go_big_quiet_want
      refine quiet_load_mid 24 (.tmp 58) rfl b0 (off + k * 32) rfl (By xs[k]) _ (fun w' hw' => by obtain ⟨q, rfl⟩ := hw'; exact HR0.out) Try.underlying24 rfl HZ0.out ?_
      go_big_quiet_on
      try simp only [Act.put, List.setIfInBounds_toArray, List.set_cons_zero, List.set_cons_succ]
      repeat (go_big_quiet_step (fail))
      go_big_quiet_want
      refine quiet_load_mid 24 (.tmp 63) rfl b1 (off1 + k * 32) rfl (By ys[k]) _ (fun w' hw' => by obtain ⟨q, rfl⟩ := hw'; exact HR1.out) Try.underlying24 rfl HZ1.out ?_
      go_big_quiet_on
      try simp only [Act.put, List.setIfInBounds_toArray, List.set_cons_zero, List.set_cons_succ]
      repeat (go_big_quiet_step (fail))
      go_big_quiet_want
      refine quiet_neq_bytes 24 5 (.tmp 59) (.tmp 64) rfl 32 Try.underlying24 Try.underlying5 Try.u8size (by kernel_rfl) xs[k] ys[k] hl0 hl1 rfl rfl ?_
      go_big_quiet_on
      try simp only [Act.put, List.setIfInBounds_toArray, List.set_cons_zero, List.set_cons_succ]
      refine wpQuiet_nil ?_
      intro _ hw'
      obtain ⟨nq, rfl⟩ := hw'
      by_cases hxy : xs[k] = ys[k]
      · have hb : (xs[k] == ys[k]) = true := by rw [hxy]; exact beq_self_eq_true _
        rw [hb]
        have hnx : xs.take (k + 1) = ys.take (k + 1) := by
          rw [List.take_succ_eq_append_getElem hlt, List.take_succ_eq_append_getElem hlt', hsm, hxy]
        rw [show (!true) = false from rfl]
        have hwk : IntKind.i64.wrap ((k : Int) + 1) = (k : Int) + 1 := by rw [IntKind.wrap_i64]; have := MA.out; omega
        clear hb hxy
        go_wp2
        go_roundw
        case rel => exact ⟨k + 1, by omega, by go_num, ⟨q0 + nq, by simp⟩, hnx⟩
        case measure => simp [intOf] <;> omega
      · have hb : (xs[k] == ys[k]) = false := beq_eq_false_iff_ne.2 hxy
        rw [hb]
        have HE : Hid (D = false) := HNe.out (fun e => by subst e; exact hxy rfl)
        clear hb hxy
        go_wp2
        go_ret
        exact ⟨by rw [HE.out] <;> rfl, nxDr6 (nxDr6 Hb0.out _) _⟩
    · obtain rfl : k = xs.length := by omega
      have HE : Hid (D = true) := HEq.out (by
        rw [List.take_length, HL.out, List.take_length] at hsm
        exact hsm)
      have hnl : ¬ ((xs.length : Int) < (ys.length : Int)) := by rw [HLI.out]; omega
      clear hlt
      go_wp2
      go_ret
      exact ⟨by rw [HE.out] <;> rfl, nxDr6 Hb0.out _⟩
end Go.Proofs.Ytjcbihdhkaiidaa
namespace Go.Proofs.Ytjcbihdhkaiidaa
open Go.RowKit

theorem zero_by : By zero32 = List.replicate 32 (Value.int .u8 0) := rfl
def noHd0 : HdR := ⟨none, 0, ⟨[], zero32, zero32, zero32, zero32, 0⟩⟩
theorem zero_at (j : Nat) (h : j < 32) : (By zero32).toArray[j]! = .int .u8 0 := by
  rw [zero_by, getElem!_pos _ j (by rw [List.size_toArray, List.length_replicate]; exact h), List.getElem_toArray, List.getElem_replicate]
theorem zero_rep (m : Nat) : By (List.replicate m (0 : UInt8)) = List.replicate m (.int .u8 0) := by simp [By]
theorem zeros_flat (n : Nat) : (List.replicate n zero32).flatten = List.replicate (n * 32) (0 : UInt8) := by
  have e : zero32 = List.replicate 32 (0 : UInt8) := rfl
  rw [e]
  exact List.flatten_replicate_replicate
theorem zero_cells (n : Nat) : madeCells (By zero32).toArray (n * 32) = (Hs (List.replicate n zero32)).toArray := by
  rw [Hs, zeros_flat, zero_rep]
  apply Array.ext
  · rw [size_madeCells]; simp
  · intro i h1 h2
    have h3 : (By zero32).toArray.size = 32 := rfl
    simp only [madeCells, Array.getElem_map, Array.getElem_range, h3]
    rw [zero_at _ (Nat.mod_lt _ (by omega))]
    simp
/-- make of a row of so many hashes of noughts. -/
theorem make_zeros (n : Nat) (hn : n ≤ 1048577) (h0 : 1 ≤ n) (wq : World) :
    (Instr.makeSlice 22 (.int .i64 (n : Int)) (.int .i64 (n : Int))).run Try.prog wq = .ok (.slice (some ⟨wq.heap.size, 0, none⟩) n n) (wq.alloc (.cells (Hs (List.replicate n zero32)).toArray 24)) := by
  obtain ⟨i0, hi, hz0, hz1, hz2⟩ := info_parts Try.hinfo
  have h := run_make (P := Try.prog) wq 22 24 i0 _ Try.underlying22 hi hz0 .i64 .i64 (n : Int) (n : Int) (by omega) (by omega) (by rw [hz2]; omega) (by omega)
  rw [hz1] at h
  have e : (Value.agg (By zero32).toArray).cells = (By zero32).toArray := rfl
  rw [e] at h
  simp only [Int.toNat_natCast] at h
  rw [zero_cells] at h
  exact h
theorem all_zeros (n : Nat) : All32 (List.replicate n zero32) := fun x hx => by rw [List.eq_of_mem_replicate hx]; rfl
/-- A header of so many parents that are noughts, and all else noughts. -/
def hdOf (b n : Nat) : HdR := ⟨some ⟨b, 0, none⟩, n, ⟨List.replicate n zero32, zero32, zero32, zero32, zero32, 0⟩⟩
theorem hdOf_ok {w : World} {b n : Nat} (h : Blk w b 24 (Hs (List.replicate n zero32)).toArray) (hn : n ≤ 1000) : HdOk w (hdOf b n) where
  s := SeesV.blk h
  f := ⟨all_zeros n, rfl, rfl, rfl, rfl, by show 0 < _; omega⟩
  c := by show (List.replicate n zero32).length ≤ n; simp
  m := by show (List.replicate n zero32).length ≤ _; rw [List.length_replicate]; omega
theorem fill_first (place : Nat → Option (Nat × Nat)) (x : Value) (r : List Value) (v : Value) (hv : v.cells = #[v]) (hp : place 0 = some (0, 1)) :
    Instr.fill place (x :: r).toArray [(0, v)] = some (v :: r).toArray := by
  have h := foldl_set 0 [v] 0 (x :: r) (by simp)
  simp only [Nat.add_zero] at h
  unfold Instr.fill
  simp only [hv, hp, List.size_toArray]
  rw [if_neg (by simp)]
  unfold Instr.fill
  simp
theorem Try.hdinfo : (Try.prog.info? 27).map (fun i => (i.zero, i.size, i.bytes)) = some (some (.agg (hdC noHd0).toArray), 130, 160) := by kernel_rfl
theorem build_hd (A : Option Addr) (n c : Nat) (wq : World) : (Instr.build 27 #[(0, .slice A n c)]).run Try.prog wq = .ok (.agg (.slice A n c :: (hdC noHd0).tail).toArray) wq := by
  obtain ⟨i0, hi, hz, _, _⟩ := info_parts Try.hdinfo
  refine run_build wq _ _ _ ?_
  rw [built_struct hi hz Try.underlying27 (places := [(0, 1), (1, 32), (33, 32), (65, 32), (97, 32), (129, 1)]) (by kernel_rfl)]
  exact fill_first ([(0, 1), (1, 32), (33, 32), (65, 32), (97, 32), (129, 1)].toArray[·]?) (.slice none 0 0) (tlC noHd0.p) (.slice A n c) rfl rfl
theorem build_hdOf (b n : Nat) (wq : World) : (Instr.build 27 #[(0, .slice (some ⟨b, 0, none⟩) n n)]).run Try.prog wq = .ok (.agg (hdC (hdOf b n)).toArray) wq := by
  rw [build_hd]
  have e : Value.slice (some ⟨b, 0, none⟩) n n :: (hdC noHd0).tail = hdC (hdOf b n) := by
    show _ = Value.slice _ (List.replicate n zero32).length n :: _
    rw [List.length_replicate]; rfl
  rw [e]
theorem wpList_buildF {P : Program} {ops : Array Oper} {rest : List Oper} {o : Oper} {a : Act} {w : World} {Q : Exit → Act → World → Prop} (hg : o.guard = none) (t : TypeId) (x : Operand) (ho : o.op = .build t #[(0, x)])
    (u v : Value) (hx : a.eval x = u) (hr : ∀ wq, (Instr.build t #[(0, u)]).run P wq = .ok v wq) (h : wpList P ops Q rest (a.put o.dst v) w) : wpList P ops Q (o :: rest) a w := by
  refine wpList_plain hg fun _ hK => ?_
  unfold Oper.wp execOp
  simp only [ho, List.map_toArray, List.map_cons, List.map_nil, hx, Sem.run_bind, Sem.run_pure, Result.andThen_ok, hr]
  exact hK _ _ h
theorem num6_any (w : World) (n : Int) : Calls Try.prog 13 #[.int .i64 n] w fun e w' => e = .returned (.int .i64 n) ∧ w' = w := by
  go_enter Try.func13, Try.ntmps13
  go_wp2
  go_ret
  exact ⟨rfl, rfl⟩
set_option maxHeartbeats 1000000 in
set_option maxRecDepth 100000 in
theorem known6_any (w : World) : Calls Try.prog 5 #[] w fun e w' => e = .returned (.bool true) ∧ Below w.heap.size w w' := by
  have hmk : ∀ wq : World, (Instr.makeSlice 22 (.int .i64 1) (.int .i64 1)).run Try.prog wq = .ok (.slice (some ⟨wq.heap.size, 0, none⟩) 1 1) (wq.alloc (.cells (Hs (List.replicate 1 zero32)).toArray 24)) := make_zeros 1 (by omega) (by omega)
  have hbd : ∀ wq : World, (Instr.build 27 #[(0, .slice (some ⟨w.heap.size, 0, none⟩) 1 1)]).run Try.prog wq = .ok (.agg (hdC (hdOf w.heap.size 1)).toArray) wq := build_hdOf w.heap.size 1
  have hk : HdOk (w.alloc (.cells (Hs (List.replicate 1 zero32)).toArray 24)) (hdOf w.heap.size 1) := hdOf_ok (heap_alloc_new w (.cells (Hs (List.replicate 1 zero32)).toArray 24)) (by omega)
  have HK := Lib.hid hk
  have HL : Hid ((packH (hdOf w.heap.size 1).p).length = 170) := by show _ = _; rw [packH_len hk.f]; rfl
  clear hk
  have Hb : Hid (Below w.heap.size w (w.alloc (.cells (Hs (List.replicate 1 zero32)).toArray 24))) := nxAl (nxRf w) _
  obtain ⟨h0, hh0⟩ : ∃ h0, hdOf w.heap.size 1 = h0 := ⟨_, rfl⟩
  have HM : Hid (mayH (hdOf w.heap.size 1).p = true) := rfl
  rw [hh0] at hbd HK HL HM
  obtain ⟨W, hW⟩ : ∃ W, w.alloc (.cells (Hs (List.replicate 1 zero32)).toArray 24) = W := ⟨_, rfl⟩
  have hmk1 := hmk w
  rw [hW] at hmk1 HK Hb
  have HBd := Lib.hid hbd
  clear hmk hW hh0 hbd
  go_enter Try.func5, Try.ntmps5
  go_wp2_with (first
    | ((with_reducible show wpList _ _ _ (⟨some 5, _, _, _, _, _⟩ :: _) _ _); refine wpList_buildF rfl 27 (.tmp 4) rfl (.slice (some ⟨w.heap.size, 0, none⟩) 1 1) (.agg (hdC h0).toArray) rfl HBd.out ?_)
    | (go_at_call 12; refine (hbytes_yes W h0 HK.out HM.out).mono ?_; unfold HBytesPost; rw [HL.out]; rintro e w2 ⟨⟨A, c, B0, rfl, hB0, ho⟩, hb2⟩; have Hb2 : Hid (Below w.heap.size w w2) := nxTr Hb.out hb2; clear hB0 ho hb2)
    | (go_at_call 13; refine (num6_any _ _).mono ?_; rintro e w3 ⟨rfl, hw3⟩; subst hw3))
  go_ret
  exact ⟨rfl, Hb2.out⟩
end Go.Proofs.Ytjcbihdhkaiidaa
