/-
  disk: the document's own disk: Do.
-/
import Derived.Test.YtiagefcjebnopaaRf7
namespace Go.Proofs.Ytiagefcjebnopaa
open Go.RowKit

theorem RPost.from {w w1 w' : World} {g : Nat} {m : RfM} {D : DkD} (h : RfOk w g m) (b : Below w.heap.size w w1) {e : Ending} (p : RPost w1 g m D e w') : RPost w g m D e w' := by
  obtain ⟨n, m', he, h1, h2⟩ := p
  exact ⟨n, m', he, (RfTo.below h b).trans h1, h2⟩
set_option maxHeartbeats 4000000 in
set_option maxRecDepth 100000 in
theorem rdo_any (w : World) (g : Nat) (m : RfM) (D : DkD) (h : RfOk w g m) (hD : RelR D m) (wf : DkWf D) (hW : m.W.length ≤ 1000) (a : ArgM) (ha : ArgOk w a) (hk4 : a.kind ≤ 4) (hb : a.b.length ≤ 50000000) : Calls Try.prog 18 #[ptrD g, .agg (argC a).toArray] w (RPost w g m (doD D a.d).1) := by
  have hb0 : Below w.heap.size w (w.alloc (.cells (argC a).toArray 25)) := nxAlloc (nxRefl w) _
  have Hb0 := Lib.hid hb0
  have H := Lib.hid h
  have H0 := Lib.hid (h.below hb0)
  have HDD := Lib.hid hD
  have HWf := Lib.hid wf
  have HWl := Lib.hid hW
  have HS := Lib.hid ((ha.s.later hb0).more hb0.size)
  have HB : Blk (w.alloc (.cells (argC a).toArray 25)) w.heap.size 25 (argC a).toArray := heap_alloc_new w _
  have c0 : (w.alloc (.cells (argC a).toArray 25)).cell? ⟨w.heap.size, 0, none⟩ = some (.int .i64 a.kind) := HB.cell 0
  have c1 : (w.alloc (.cells (argC a).toArray 25)).cell? ⟨w.heap.size, 1, none⟩ = some (.int .i64 a.log) := HB.cell 1
  have c2 : (w.alloc (.cells (argC a).toArray 25)).cell? ⟨w.heap.size, 2, none⟩ = some (.int .i64 a.n) := HB.cell 2
  have c3 : (w.alloc (.cells (argC a).toArray 25)).cell? ⟨w.heap.size, 3, none⟩ = some (.int .i64 a.m) := HB.cell 3
  have c4 : (w.alloc (.cells (argC a).toArray 25)).cell? ⟨w.heap.size, 4, none⟩ = some (.int .u8 (a.x.toNat : Int)) := HB.cell 4
  have c5 : (w.alloc (.cells (argC a).toArray 25)).cell? ⟨w.heap.size, 5, none⟩ = some (.slice a.A a.b.length a.c) := HB.cell 5
  have HLb := Lib.hid hb
  unfold ptrD
  obtain ⟨kd, hk⟩ : ∃ k, a.kind = k := ⟨_, rfl⟩
  have HK : Hid (a.d.kind = kd) := hk
  rw [hk] at c0 hk4
  clear h hD wf hW ha hb hb0 HB hk
  by_cases k1 : kd = 1
  · have HRn : Hid (doD D a.d = appendD D a.log a.b) := by
      show _ = _
      rw [doD]
      simp only [HK.out, k1, if_true, if_false, reduceIte]
      try rfl
    rw [HRn.out]
    subst k1
    go_enter Try.func18, Try.ntmps18
    go_wp2_with (first
      | (go_at_call 34; refine (rappend_any (w.alloc (.cells (argC a).toArray 25)) g m D H0.out HDD.out HWf.out HWl.out a.log a.A a.b a.c HS.out HLb.out).mono ?_; intro e w2 hp; have P2 := Lib.hid (RPost.from H.out Hb0.out hp); obtain ⟨n2, m2, rfl, -, -⟩ := hp))
    go_ret
    exact P2.out
  have n1 : (kd == 1) = false := beq_eq_false_iff_ne.2 k1
  have q1 : decide (kd = 1) = false := decide_eq_false k1
  by_cases k2 : kd = 2
  · have HRn : Hid (doD D a.d = cutD D a.log a.n) := by
      show _ = _
      rw [doD]
      simp only [HK.out, k2, if_true, if_false, reduceIte]
      try rfl
    rw [HRn.out]
    subst k2
    go_enter Try.func18, Try.ntmps18
    go_wp2_with (first
      | (go_at_call 35; refine (rcut_any (w.alloc (.cells (argC a).toArray 25)) g m D H0.out HDD.out HWf.out HWl.out a.log a.n).mono ?_; intro e w2 hp; have P2 := Lib.hid (RPost.from H.out Hb0.out hp); obtain ⟨n2, m2, rfl, -, -⟩ := hp))
    go_ret
    exact P2.out
  have n2 : (kd == 2) = false := beq_eq_false_iff_ne.2 k2
  have q2 : decide (kd = 2) = false := decide_eq_false k2
  by_cases k3 : kd = 3
  · have HRn : Hid (doD D a.d = syncD D) := by
      show _ = _
      rw [doD]
      simp only [HK.out, k3, if_true, if_false, reduceIte]
      try rfl
    rw [HRn.out]
    subst k3
    go_enter Try.func18, Try.ntmps18
    go_wp2_with (first
      | (go_at_call 36; refine (rsync_any (w.alloc (.cells (argC a).toArray 25)) g m D H0.out HDD.out HWf.out HWl.out).mono ?_; intro e w2 hp; have P2 := Lib.hid (RPost.from H.out Hb0.out hp); obtain ⟨n2, m2, rfl, -, -⟩ := hp))
    go_ret
    exact P2.out
  have n3 : (kd == 3) = false := beq_eq_false_iff_ne.2 k3
  have q3 : decide (kd = 3) = false := decide_eq_false k3
  by_cases k4 : kd = 4
  · have HRn : Hid (doD D a.d = fuseD D a.n) := by
      show _ = _
      rw [doD]
      simp only [HK.out, k4, if_true, if_false, reduceIte]
      try rfl
    rw [HRn.out]
    subst k4
    go_enter Try.func18, Try.ntmps18
    go_wp2_with (first
      | (go_at_call 37; refine (rsetFuse_any (w.alloc (.cells (argC a).toArray 25)) g m D H0.out HDD.out a.n).mono ?_; intro e w2 hp; have P2 := Lib.hid (RPost.from H.out Hb0.out hp); obtain ⟨n2, m2, rfl, -, -⟩ := hp))
    go_ret
    exact P2.out
  have n4 : (kd == 4) = false := beq_eq_false_iff_ne.2 k4
  have q4 : decide (kd = 4) = false := decide_eq_false k4
  have k5 : kd ≠ 5 := by omega
  have k6 : kd ≠ 6 := by omega
  have n5 : (kd == 5) = false := beq_eq_false_iff_ne.2 k5
  have q5 : decide (kd = 5) = false := decide_eq_false k5
  have n6 : (kd == 6) = false := beq_eq_false_iff_ne.2 k6
  have q6 : decide (kd = 6) = false := decide_eq_false k6
  have HRn : Hid (doD D a.d = (D, 0)) := by
    show _ = _
    rw [doD]
    simp only [HK.out, k1, k2, k3, k4, k5, k6, if_false, reduceIte]
  rw [HRn.out]
  go_enter Try.func18, Try.ntmps18
  go_wp2
  go_ret
  exact RPost.from H.out Hb0.out (RPost.is m (RfTo.refl H0.out) HDD.out)
end Go.Proofs.Ytiagefcjebnopaa
