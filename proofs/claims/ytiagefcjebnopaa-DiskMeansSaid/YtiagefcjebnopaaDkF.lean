/-
  disk: the law's own functions: num, do, known.
-/
import Derived.Test.YtiagefcjebnopaaDkE
namespace Go.Proofs.Ytiagefcjebnopaa
open Go.RowKit

theorem numD_any (w : World) (n : Int) : Calls Try.prog 15 #[.int .i64 n] w fun e w' => e = .returned (.int .i64 n) ∧ w' = w := by
  go_enter Try.func15, Try.ntmps15
  go_wp2
  go_ret
  exact ⟨rfl, rfl⟩
/-- A step that is handed in. -/
structure ArgM where
  kind : Int
  log : Int
  n : Int
  m : Int
  x : UInt8
  A : Option Addr
  c : Nat
  b : List UInt8
def argC (a : ArgM) : List Value := [.int .i64 a.kind, .int .i64 a.log, .int .i64 a.n, .int .i64 a.m, .int .u8 (a.x.toNat : Int), .slice a.A a.b.length a.c]
structure ArgOk (w : World) (a : ArgM) : Prop where
  s : Sees w w.heap.size a.A a.b
  n : a.n < 9223372036854775808
theorem ArgOk.later {w w' : World} {a : ArgM} (h : ArgOk w a) (b : Below w.heap.size w w') : ArgOk w' a := ⟨(h.s.later b).more b.size, h.n⟩
/-- A step's data. -/
structure ArgD where
  kind : Int
  log : Int
  n : Int
  m : Int
  x : UInt8
  b : List UInt8
def ArgM.d (a : ArgM) : ArgD := ⟨a.kind, a.log, a.n, a.m, a.x, a.b⟩
def doD (D : DkD) (a : ArgD) : DkD × Int :=
  if a.kind = 1 then appendD D a.log a.b else if a.kind = 2 then cutD D a.log a.n else if a.kind = 3 then syncD D else if a.kind = 4 then fuseD D a.n else if a.kind = 5 then (crashD D a.n a.m, 0) else if a.kind = 6 then editD D a.log a.n a.x else (D, 0)
theorem doD_wf {D : DkD} (h : DkWf D) (a : ArgD) (hn : a.n < 9223372036854775808) : DkWf (doD D a).1 := by
  unfold doD
  repeat' split
  · exact appendD_wf h _ _
  · exact cutD_wf h _ _
  · exact syncD_wf h
  · exact fuseD_wf h _ hn
  · exact crashD_wf h _ _
  · exact editD_wf h _ _ _
  · exact h
theorem doD_W (D : DkD) (a : ArgD) : (doD D a).1.W.length ≤ D.W.length + 1 := by
  have hb : ∀ E : DkD, (burnD E).1.W.length = E.W.length := fun E => by rw [burnD_W]
  unfold doD
  split
  · unfold appendD
    cases mayD a.log
    · exact Nat.le_succ _
    · cases D.dead
      · cases decide (16777216 < (rowD D.X (16 + a.log.toNat)).length + a.b.length)
        · show (burnD _).1.W.length ≤ _
          rw [hb]
          show (D.W ++ [_]).length ≤ _
          rw [List.length_append]; exact Nat.le_refl _
        · exact Nat.le_succ _
      · exact Nat.le_succ _
  · split
    · unfold cutD
      cases (mayD a.log && (decide (0 ≤ a.n) && decide (a.n ≤ ((rowD D.X (16 + a.log.toNat)).length : Int))))
      · exact Nat.le_succ _
      · cases D.dead
        · show (burnD _).1.W.length ≤ _
          rw [hb]
          show (D.W ++ [_]).length ≤ _
          rw [List.length_append]; exact Nat.le_refl _
        · exact Nat.le_succ _
    · split
      · unfold syncD
        cases D.dead
        · cases (burnD D).2 == 0
          · show (burnD D).1.W.length ≤ _
            rw [hb]; omega
          · show ((burnD D).1.W.drop _).length ≤ _
            rw [List.length_drop]; omega
        · exact Nat.le_succ _
      · split
        · unfold fuseD
          cases decide (a.n < 0) <;> exact Nat.le_succ _
        · split
          · exact Nat.zero_le _
          · split
            · unfold editD
              cases (mayD a.log && (decide (0 ≤ a.n) && decide (a.n < ((rowD D.X (16 + a.log.toNat)).length : Int))))
              · exact Nat.le_succ _
              · show (D.W.drop _).length ≤ _
                rw [List.length_drop]; omega
            · exact Nat.le_succ _
theorem DkPost.from {w w1 w' : World} {g : Nat} {m : DkM} {R : DkD × Int} (h : DkOk w g m) (b : Below w.heap.size w w1) {e : Ending} (p : DkPost w1 g m R e w') : DkPost w g m R e w' := by
  obtain ⟨he, m', h1, h2⟩ := p
  exact ⟨he, m', (DkTo.below h b).trans h1, h2⟩

set_option maxHeartbeats 4000000 in
set_option maxRecDepth 100000 in
theorem ldo_any (w : World) (g : Nat) (m : DkM) (h : DkOk w g m) (wf : DkWf m.d) (hW : m.W.length ≤ 1000) (a : ArgM) (ha : ArgOk w a) (hb : a.b.length ≤ 100000000) : Calls Try.prog 9 #[ptrD g, .agg (argC a).toArray] w (DkPost w g m (doD m.d a.d)) := by
  have hb0 : Below w.heap.size w (w.alloc (.cells (argC a).toArray 25)) := nxAlloc (nxRefl w) _
  have Hb0 := Lib.hid hb0
  have H := Lib.hid h
  have H0 := Lib.hid (DkTo.below h hb0).ok
  have HWf := Lib.hid wf
  have HWl := Lib.hid hW
  have HS := Lib.hid ((ha.s.later hb0).more hb0.size)
  have HB : Blk (w.alloc (.cells (argC a).toArray 25)) w.heap.size 25 (argC a).toArray := heap_alloc_new w _
  have c0 : (w.alloc (.cells (argC a).toArray 25)).cell? ⟨w.heap.size, 0, none⟩ = some (.int .i64 a.kind) := HB.cell 0
  have c1 : (w.alloc (.cells (argC a).toArray 25)).cell? ⟨w.heap.size, 1, none⟩ = some (.int .i64 a.log) := HB.cell 1
  have c2 : (w.alloc (.cells (argC a).toArray 25)).cell? ⟨w.heap.size, 2, none⟩ = some (.int .i64 a.n) := HB.cell 2
  have c3 : (w.alloc (.cells (argC a).toArray 25)).cell? ⟨w.heap.size, 3, none⟩ = some (.int .i64 a.m) := HB.cell 3
  have c4 : (w.alloc (.cells (argC a).toArray 25)).cell? ⟨w.heap.size, 4, none⟩ = some (.int .u8 (a.x.toNat : Int)) := HB.cell 4
  have c5 : (w.alloc (.cells (argC a).toArray 25)).cell? ⟨w.heap.size, 5, none⟩ = some (.slice a.A a.b.length a.c) := HB.cell 5
  have HLb := Lib.hid hb
  obtain ⟨R, hR⟩ : ∃ R, doD m.d a.d = R := ⟨_, rfl⟩
  have HR := Lib.hid hR
  rw [hR]
  unfold ptrD
  obtain ⟨kd, hk⟩ : ∃ k, a.kind = k := ⟨_, rfl⟩
  have HK : Hid (a.d.kind = kd) := hk
  rw [hk] at c0
  clear h wf hW ha hb hb0 HB hR hk
  have EN : True := trivial
  by_cases k1 : kd = 1
  · have HRn : Hid (R = appendD m.d a.log a.b) := by
      show _ = _
      rw [← HR.out, doD]
      simp only [HK.out, k1, if_true, if_false, reduceIte]
      try rfl
    subst k1
    go_enter Try.func9, Try.ntmps9
    go_wp2_with (first
      | (go_at_call 20; refine (append_any (w.alloc (.cells (argC a).toArray 25)) g m H0.out HWf.out HWl.out a.log a.A a.b a.c HS.out HLb.out).mono ?_; unfold DkPost; rintro e w2 ⟨rfl, m2, hm2, hd2⟩; have M2 := Lib.hid hm2; have D2 := Lib.hid hd2; clear hm2 hd2)
      | (go_at_call 15; refine (numD_any _ _).mono ?_; rintro e wn ⟨rfl, hwn⟩; obtain rfl := hwn.symm))
    go_ret
    exact DkPost.from H.out Hb0.out ⟨by rw [HRn.out] <;> rfl, m2, M2.out, by rw [HRn.out]; exact D2.out⟩
  have n1 : (kd == 1) = false := beq_eq_false_iff_ne.2 k1
  have q1 : decide (kd = 1) = false := decide_eq_false k1
  by_cases k2 : kd = 2
  · have HRn : Hid (R = cutD m.d a.log a.n) := by
      show _ = _
      rw [← HR.out, doD]
      simp only [HK.out, k2, if_true, if_false, reduceIte]
      try rfl
    subst k2
    go_enter Try.func9, Try.ntmps9
    go_wp2_with (first
      | (go_at_call 21; refine (cutStep_any (w.alloc (.cells (argC a).toArray 25)) g m H0.out HWf.out HWl.out a.log a.n).mono ?_; unfold DkPost; rintro e w2 ⟨rfl, m2, hm2, hd2⟩; have M2 := Lib.hid hm2; have D2 := Lib.hid hd2; clear hm2 hd2)
      | (go_at_call 15; refine (numD_any _ _).mono ?_; rintro e wn ⟨rfl, hwn⟩; obtain rfl := hwn.symm))
    go_ret
    exact DkPost.from H.out Hb0.out ⟨by rw [HRn.out] <;> rfl, m2, M2.out, by rw [HRn.out]; exact D2.out⟩
  have n2 : (kd == 2) = false := beq_eq_false_iff_ne.2 k2
  have q2 : decide (kd = 2) = false := decide_eq_false k2
  by_cases k3 : kd = 3
  · have HRn : Hid (R = syncD m.d) := by
      show _ = _
      rw [← HR.out, doD]
      simp only [HK.out, k3, if_true, if_false, reduceIte]
      try rfl
    subst k3
    go_enter Try.func9, Try.ntmps9
    go_wp2_with (first
      | (go_at_call 22; refine (sync_any (w.alloc (.cells (argC a).toArray 25)) g m H0.out HWf.out HWl.out).mono ?_; unfold DkPost; rintro e w2 ⟨rfl, m2, hm2, hd2⟩; have M2 := Lib.hid hm2; have D2 := Lib.hid hd2; clear hm2 hd2)
      | (go_at_call 15; refine (numD_any _ _).mono ?_; rintro e wn ⟨rfl, hwn⟩; obtain rfl := hwn.symm))
    go_ret
    exact DkPost.from H.out Hb0.out ⟨by rw [HRn.out] <;> rfl, m2, M2.out, by rw [HRn.out]; exact D2.out⟩
  have n3 : (kd == 3) = false := beq_eq_false_iff_ne.2 k3
  have q3 : decide (kd = 3) = false := decide_eq_false k3
  by_cases k4 : kd = 4
  · have HRn : Hid (R = fuseD m.d a.n) := by
      show _ = _
      rw [← HR.out, doD]
      simp only [HK.out, k4, if_true, if_false, reduceIte]
      try rfl
    subst k4
    go_enter Try.func9, Try.ntmps9
    go_wp2_with (first
      | (go_at_call 23; refine (setFuse_any (w.alloc (.cells (argC a).toArray 25)) g m H0.out a.n).mono ?_; unfold DkPost; rintro e w2 ⟨rfl, m2, hm2, hd2⟩; have M2 := Lib.hid hm2; have D2 := Lib.hid hd2; clear hm2 hd2)
      | (go_at_call 15; refine (numD_any _ _).mono ?_; rintro e wn ⟨rfl, hwn⟩; obtain rfl := hwn.symm))
    go_ret
    exact DkPost.from H.out Hb0.out ⟨by rw [HRn.out] <;> rfl, m2, M2.out, by rw [HRn.out]; exact D2.out⟩
  have n4 : (kd == 4) = false := beq_eq_false_iff_ne.2 k4
  have q4 : decide (kd = 4) = false := decide_eq_false k4
  by_cases k5 : kd = 5
  · have HRn : Hid (R = (crashD m.d a.n a.m, 0)) := by
      show _ = _
      rw [← HR.out, doD]
      simp only [HK.out, k5, if_true, if_false, reduceIte]
      try rfl
    subst k5
    go_enter Try.func9, Try.ntmps9
    go_wp2_with (first
      | (go_at_call 16; refine (crash_any (w.alloc (.cells (argC a).toArray 25)) g m H0.out HWf.out HWl.out a.n a.m).mono ?_; unfold CrPost; rintro e w2 ⟨rfl, m2, hm2, hd2⟩; have M2 := Lib.hid hm2; have D2 := Lib.hid hd2; clear hm2 hd2)
      | (go_at_call 15; refine (numD_any _ _).mono ?_; rintro e wn ⟨rfl, hwn⟩; obtain rfl := hwn.symm))
    go_ret
    exact DkPost.from H.out Hb0.out ⟨by rw [HRn.out] <;> rfl, m2, M2.out, by rw [HRn.out]; exact D2.out⟩
  have n5 : (kd == 5) = false := beq_eq_false_iff_ne.2 k5
  have q5 : decide (kd = 5) = false := decide_eq_false k5
  by_cases k6 : kd = 6
  · have HRn : Hid (R = editD m.d a.log a.n a.x) := by
      show _ = _
      rw [← HR.out, doD]
      simp only [HK.out, k6, if_true, if_false, reduceIte]
      try rfl
    subst k6
    go_enter Try.func9, Try.ntmps9
    go_wp2_with (first
      | (go_at_call 24; refine (edit_any (w.alloc (.cells (argC a).toArray 25)) g m H0.out HWf.out HWl.out a.log a.n a.x).mono ?_; unfold DkPost; rintro e w2 ⟨rfl, m2, hm2, hd2⟩; have M2 := Lib.hid hm2; have D2 := Lib.hid hd2; clear hm2 hd2)
      | (go_at_call 15; refine (numD_any _ _).mono ?_; rintro e wn ⟨rfl, hwn⟩; obtain rfl := hwn.symm))
    go_ret
    exact DkPost.from H.out Hb0.out ⟨by rw [HRn.out] <;> rfl, m2, M2.out, by rw [HRn.out]; exact D2.out⟩
  have n6 : (kd == 6) = false := beq_eq_false_iff_ne.2 k6
  have q6 : decide (kd = 6) = false := decide_eq_false k6
  have HRn : Hid (R = (m.d, 0)) := by
    show _ = _
    rw [← HR.out, doD]
    simp only [HK.out, k1, k2, k3, k4, k5, k6, if_false]
  go_enter Try.func9, Try.ntmps9
  go_wp2
  go_ret
  exact DkPost.from H.out Hb0.out (DkPost.no H0.out HRn.out rfl)
end Go.Proofs.Ytiagefcjebnopaa
