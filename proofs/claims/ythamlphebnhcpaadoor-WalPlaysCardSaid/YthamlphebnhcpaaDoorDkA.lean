/-
  disk: Cut, SetFuse, Sync, Read, Len, Dead, Waiting, New.
-/
import Derived.Test.YthamlphebnhcpaaDoorDk9
namespace Go.Proofs.YthamlphebnhcpaaDoor
open Go.RowKit

set_option maxHeartbeats 2000000 in
theorem setFuse_any (w : World) (g : Nat) (m : DkM) (h : DkOk w g m) (n : Int) : Calls Tryd.prog 29 #[ptrD g, .int .i64 n] w (DkPost w g m (fuseD m.d n)) := by
  have H := Lib.hid h
  have HM : Hid (w.cell? ⟨g, 0, none⟩ = some (.bool true)) := h.made
  have c34 : w.cell? ⟨g, 34, none⟩ = some (.int .i64 m.fuse) := h.fuse
  have f34 : w.frozen? ⟨g, 34, none⟩ = false := h.b.frozen _
  obtain ⟨R, hR⟩ : ∃ R, fuseD m.d n = R := ⟨_, rfl⟩
  have HR := Lib.hid hR
  rw [hR]
  unfold ptrD
  clear h hR
  by_cases hn : n < 0
  · have HRn : Hid (R = (m.d, 2)) := by show _ = _; rw [← HR.out, fuseD, decide_eq_true hn]; rfl
    go_enter Tryd.func29, Tryd.ntmps29
    go_wp2_with (go_at_call 39; refine (isMade_any w g true HM.out).mono ?_; rintro e w1 ⟨rfl, hw1⟩; obtain rfl := hw1)
    go_ret
    exact DkPost.no H.out HRn.out rfl
  · have HRn : Hid (R = ({ m.d with fuse := n }, 0)) := by show _ = _; rw [← HR.out, fuseD, decide_eq_false hn]; rfl
    go_enter Tryd.func29, Tryd.ntmps29
    go_wp2_with (go_at_call 39; refine (isMade_any w g true HM.out).mono ?_; rintro e w1 ⟨rfl, hw1⟩; obtain rfl := hw1)
    go_ret
    refine ⟨by rw [HRn.out] <;> rfl, { m with fuse := n }, ?_, by rw [HRn.out]; rfl⟩
    exact DkTo.cells H.out (f := n) (z := m.dead) (by have h3 := H.out.b.set 34 (.int .i64 n); rw [dkC_setFuse H.out.n] at h3; exact h3) ((Keeps.refl (· = g) _).setCell rfl _)
theorem burnD_W (D : DkD) : (burnD D).1.W = D.W := by
  unfold burnD
  cases D.fuse == -1 <;> cases D.fuse == 0 <;> rfl
set_option maxHeartbeats 2000000 in
theorem sync_any (w : World) (g : Nat) (m : DkM) (h : DkOk w g m) (wf : DkWf m.d) (hW : m.W.length ≤ 1000) : Calls Tryd.prog 46 #[ptrD g] w (DkPost w g m (syncD m.d)) := by
  have H := Lib.hid h
  have HWf := Lib.hid wf
  have HWl := Lib.hid hW
  have HM : Hid (w.cell? ⟨g, 0, none⟩ = some (.bool true)) := h.made
  have c35 : w.cell? ⟨g, 35, none⟩ = some (.bool m.dead) := h.dead
  obtain ⟨R, hR⟩ : ∃ R, syncD m.d = R := ⟨_, rfl⟩
  have HR := Lib.hid hR
  rw [hR]
  have HBn : Hid (Calls Tryd.prog 66 #[.pointer (some ⟨g, 0, none⟩)] w fun e w' => e = .returned (.int .i64 (burnD m.d).2) ∧ ∃ m', DkTo w g m w' m' ∧ m'.d = (burnD m.d).1 ∧ m'.W = m.W) := burn_any w g m h wf.f wf.g
  unfold ptrD
  clear h wf hW hR
  cases h2 : m.dead with
  | true =>
    have HRn : Hid (R = (m.d, 20)) := by show _ = _; rw [← HR.out, syncD, show m.d.dead = true from h2]; rfl
    rw [h2] at c35
    go_enter Tryd.func46, Tryd.ntmps46
    go_wp2_with (go_at_call 39; refine (isMade_any w g true HM.out).mono ?_; rintro e w1 ⟨rfl, hw1⟩; obtain rfl := hw1)
    go_ret
    exact DkPost.no H.out HRn.out rfl
  | false =>
    rw [h2] at c35
    have HWb := Lib.hid (burnD_wf HWf.out)
    have HWW : Hid ((burnD m.d).1.W.length = m.W.length) := by show _ = _; rw [burnD_W]; exact List.length_map _
    have HDd : Hid (m.d.dead = false) := h2
    obtain ⟨D, hD⟩ : ∃ D, (burnD m.d).1 = D := ⟨_, rfl⟩
    obtain ⟨e0, he⟩ : ∃ e, (burnD m.d).2 = e := ⟨_, rfl⟩
    have HDe : Hid (burnD m.d = (D, e0)) := by show _ = _; rw [← hD, ← he]
    rw [hD, he] at HBn
    rw [hD] at HWb HWW
    clear hD he h2
    by_cases h0 : e0 = 0
    · subst h0
      have HRn : Hid (R = (settleD D.W.length D, 0)) := by show _ = _; rw [← HR.out, syncD, HDd.out, HDe.out]; rfl
      go_enter Tryd.func46, Tryd.ntmps46
      go_wp2_with (first
        | (go_at_call 39; refine (isMade_any w g true HM.out).mono ?_; rintro e w1 ⟨rfl, hw1⟩; obtain rfl := hw1)
        | (go_at_call 66; refine HBn.out.mono ?_; rintro e w2 ⟨rfl, m2, hm2, hd2, hw2⟩; have M2 := Lib.hid hm2; have D2 := Lib.hid hd2; have W2 := Lib.hid hw2; have c33 : w2.cell? ⟨g, 33, none⟩ = some (.slice m2.A m.W.length m2.c) := (by have h := hm2.ok.wait; rw [hw2] at h; exact h); clear hm2 hd2 hw2)
        | (go_at_call 40; refine (settle_any w2 g m2 M2.out.ok (by rw [D2.out]; exact HWb.out) m.W.length (by rw [W2.out]; exact Nat.le_refl _) (by rw [W2.out]; exact HWl.out)).mono ?_; unfold SettlePost; rw [D2.out]; rintro e w3 ⟨rfl, m3, hm3, hd3⟩; have M3 := Lib.hid hm3; have D3 := Lib.hid hd3; clear hm3 hd3))
      go_ret
      exact ⟨by rw [HRn.out] <;> rfl, m3, M2.out.trans M3.out, by rw [HRn.out, D3.out, HWW.out]⟩
    · have n0 : (e0 == 0) = false := beq_eq_false_iff_ne.2 h0
      have n1 : decide (e0 = 0) = false := decide_eq_false h0
      have HRn : Hid (R = (D, e0)) := by show _ = _; rw [← HR.out, syncD, HDd.out, HDe.out, n0]; rfl
      go_enter Tryd.func46, Tryd.ntmps46
      go_wp2_with (first
        | (go_at_call 39; refine (isMade_any w g true HM.out).mono ?_; rintro e w1 ⟨rfl, hw1⟩; obtain rfl := hw1)
        | (go_at_call 66; refine HBn.out.mono ?_; rintro e w2 ⟨rfl, m2, hm2, hd2, hw2⟩; have M2 := Lib.hid hm2; have D2 := Lib.hid hd2; clear hm2 hd2 hw2))
      go_ret
      exact ⟨by rw [HRn.out] <;> rfl, m2, M2.out, by rw [HRn.out, D2.out]⟩
set_option maxHeartbeats 2000000 in
theorem cutStep_any (w : World) (g : Nat) (m : DkM) (h : DkOk w g m) (wf : DkWf m.d) (hW : m.W.length ≤ 1000) (log n : Int) : Calls Tryd.prog 21 #[ptrD g, .int .i64 log, .int .i64 n] w (DkPost w g m (cutD m.d log n)) := by
  have H := Lib.hid h
  have HWf := Lib.hid wf
  have HWl := Lib.hid hW
  have HM : Hid (w.cell? ⟨g, 0, none⟩ = some (.bool true)) := h.made
  have c35 : w.cell? ⟨g, 35, none⟩ = some (.bool m.dead) := h.dead
  obtain ⟨R, hR⟩ : ∃ R, cutD m.d log n = R := ⟨_, rfl⟩
  have HR := Lib.hid hR
  rw [hR]
  unfold ptrD
  clear h wf hW hR
  cases h1 : mayD log with
  | false =>
    have HRn : Hid (R = (m.d, 2)) := by show _ = _; rw [← HR.out, cutD, h1]; rfl
    go_enter Tryd.func21, Tryd.ntmps21
    go_wp2_with (first
      | (go_at_call 39; refine (isMade_any w g true HM.out).mono ?_; rintro e w1 ⟨rfl, hw1⟩; obtain rfl := hw1)
      | (go_at_call 43; refine (mayLog_any _ log).mono ?_; rw [h1]; rintro e w2 ⟨rfl, hw2⟩; obtain rfl := hw2))
    go_ret
    exact DkPost.no H.out HRn.out rfl
  | true =>
    obtain ⟨l0, l1⟩ := mayD_iff h1
    obtain ⟨i, rfl⟩ : ∃ i : Nat, log = (i : Int) := ⟨log.toNat, by omega⟩
    have hi16 : i < 16 := by omega
    obtain ⟨A0, c0, hc0, -⟩ := H.out.now hi16
    obtain ⟨l, hl⟩ : ∃ l, (rowD m.d.X (16 + i)).length = l := ⟨_, rfl⟩
    have HLe := Lib.hid hl
    rw [hl] at hc0
    clear hl
    by_cases hn : n < 0
    · have HRn : Hid (R = (m.d, 2)) := by show _ = _; rw [← HR.out, cutD, h1, decide_eq_false (show ¬ (0 ≤ n) by omega)]; rfl
      have hd : decide (n < 0) = true := decide_eq_true hn
      go_enter Tryd.func21, Tryd.ntmps21
      go_wp2_with (first
        | (go_at_call 39; refine (isMade_any w g true HM.out).mono ?_; rintro e w1 ⟨rfl, hw1⟩; obtain rfl := hw1)
        | (go_at_call 43; refine (mayLog_any _ _).mono ?_; rw [h1]; rintro e w2 ⟨rfl, hw2⟩; obtain rfl := hw2))
      go_ret
      exact DkPost.no H.out HRn.out rfl
    · have hd : decide (n < 0) = false := decide_eq_false hn
      by_cases hg : (l : Int) < n
      · have HRn : Hid (R = (m.d, 2)) := by show _ = _; rw [← HR.out, cutD, h1, Int.toNat_natCast, HLe.out, decide_eq_true (show (0 ≤ n) by omega), decide_eq_false (show ¬ (n ≤ (l : Int)) by omega)]; rfl
        go_enter Tryd.func21, Tryd.ntmps21
        go_wp2_with (first
          | (go_at_call 39; refine (isMade_any w g true HM.out).mono ?_; rintro e w1 ⟨rfl, hw1⟩; obtain rfl := hw1)
          | (go_at_call 43; refine (mayLog_any _ _).mono ?_; rw [h1]; rintro e w2 ⟨rfl, hw2⟩; obtain rfl := hw2))
        go_ret
        exact DkPost.no H.out HRn.out rfl
      · have hgd : decide ((l : Int) < n) = false := decide_eq_false hg
        cases h2 : m.dead with
        | true =>
          have HRn : Hid (R = (m.d, 20)) := by show _ = _; rw [← HR.out, cutD, h1, Int.toNat_natCast, HLe.out, decide_eq_true (show (0 ≤ n) by omega), decide_eq_true (show (n ≤ (l : Int)) by omega), show m.d.dead = true from h2]; rfl
          rw [h2] at c35
          go_enter Tryd.func21, Tryd.ntmps21
          go_wp2_with (first
            | (go_at_call 39; refine (isMade_any w g true HM.out).mono ?_; rintro e w1 ⟨rfl, hw1⟩; obtain rfl := hw1)
            | (go_at_call 43; refine (mayLog_any _ _).mono ?_; rw [h1]; rintro e w2 ⟨rfl, hw2⟩; obtain rfl := hw2))
          go_ret
          exact DkPost.no H.out HRn.out rfl
        | false =>
          obtain ⟨k, rfl⟩ : ∃ k : Nat, n = (k : Int) := ⟨n.toNat, by omega⟩
          have HRn : Hid (R = burnD (waitD m.d (.cut i k))) := by show _ = _; rw [← HR.out, cutD, h1, Int.toNat_natCast, Int.toNat_natCast, HLe.out, decide_eq_true (show (0 ≤ (k : Int)) by omega), decide_eq_true (show ((k : Int) ≤ (l : Int)) by omega), show m.d.dead = false from h2]; rfl
          have HOk : Hid (okS (m.d.X.drop 16) (.cut i k)) := ⟨hi16, by rw [drop16, HLe.out]; omega⟩
          rw [h2] at c35
          go_enter Tryd.func21, Tryd.ntmps21
          go_wp2_with (first
            | (go_at_call 39; refine (isMade_any w g true HM.out).mono ?_; rintro e w1 ⟨rfl, hw1⟩; obtain rfl := hw1)
            | (go_at_call 43; refine (mayLog_any _ _).mono ?_; rw [h1]; rintro e w2 ⟨rfl, hw2⟩; obtain rfl := hw2)
            | (go_at_call 48; refine (cut_any _ i k).mono ?_; rintro e w4 ⟨p0, p1, rfl, hp, hpn, hb4⟩; have P4 := Lib.hid hp; have N4 := Lib.hid hpn; have V4 := Lib.hid hb4; clear hp hpn hb4)
            | (go_at_call 47; refine (do_any w4 g m (DkTo.below H.out V4.out).ok (.cut i k p0 p1) P4.out (fun j hj => ⟨fun hf => (by have h5 := H.out.foot_lt hf; have h7 := N4.out; simp only [StM.ro, List.mem_cons, List.not_mem_nil, or_false] at hj; rcases hj with rfl | rfl <;> omega), (by simp only [StM.ro, List.mem_cons, List.not_mem_nil, or_false] at hj; rcases hj with rfl | rfl; exact P4.out.a.lt; exact P4.out.s.lt)⟩) HOk.out HWl.out HWf.out.f HWf.out.g).mono ?_; unfold DoPost; rintro e w5 ⟨rfl, m5, hm5⟩; have M5 := Lib.hid hm5; clear hm5))
          go_ret
          refine ⟨by rw [HRn.out] <;> rfl, m5, DoTo.to H.out V4.out M5.out (fun j hj => ?_), by rw [HRn.out]; exact M5.out.d⟩
          have h7 := N4.out
          simp only [StM.ro, List.mem_cons, List.not_mem_nil, or_false] at hj
          rcases hj with rfl | rfl <;> omega
/-- What Read answers. -/
def readD (D : DkD) (log : Int) : List UInt8 × Int := bif mayD log then (rowD D.X (16 + log.toNat), 0) else ([], 2)
def DReadPost (w : World) (R : List UInt8 × Int) (e : Ending) (w' : World) : Prop := ∃ r : RowM, e = .returned (.tuple #[r.v, .int .i64 R.2]) ∧ r.l = R.1 ∧ r.own w' ∧ (∀ j, r.bk = some j → w.heap.size ≤ j) ∧ Below w.heap.size w w'
set_option maxHeartbeats 2000000 in
theorem readLog_any (w : World) (g : Nat) (m : DkM) (h : DkOk w g m) (wf : DkWf m.d) (log : Int) : Calls Tryd.prog 18 #[ptrD g, .int .i64 log] w (DReadPost w (readD m.d log)) := by
  have H := Lib.hid h
  have HM : Hid (w.cell? ⟨g, 0, none⟩ = some (.bool true)) := h.made
  have HWf := Lib.hid wf
  obtain ⟨R, hR⟩ : ∃ R, readD m.d log = R := ⟨_, rfl⟩
  have HR := Lib.hid hR
  rw [hR]
  unfold ptrD DReadPost
  clear h wf hR
  cases h1 : mayD log with
  | false =>
    have HRn : Hid (R = ([], 2)) := by show _ = _; rw [← HR.out, readD, h1]; rfl
    go_enter Tryd.func18, Tryd.ntmps18
    go_wp2_with (first
      | (go_at_call 39; refine (isMade_any w g true HM.out).mono ?_; rintro e w1 ⟨rfl, hw1⟩; obtain rfl := hw1)
      | (go_at_call 43; refine (mayLog_any _ log).mono ?_; rw [h1]; rintro e w2 ⟨rfl, hw2⟩; obtain rfl := hw2))
    go_ret2
    exact ⟨noRow, by rw [HRn.out] <;> rfl, by rw [HRn.out]; rfl, noRow_own _, (fun j e => by cases e), nxRefl _⟩
  | true =>
    obtain ⟨l0, l1⟩ := mayD_iff h1
    obtain ⟨i, rfl⟩ : ∃ i : Nat, log = (i : Int) := ⟨log.toNat, by omega⟩
    have hi16 : i < 16 := by omega
    obtain ⟨A0, c0, hc0, hs0, -⟩ := H.out.now hi16
    have HRn : Hid (R = (rowD m.d.X (16 + i), 0)) := by show _ = _; rw [← HR.out, readD, h1, Int.toNat_natCast]; rfl
    have hlm : Hid ((rowD m.d.X (16 + i)).length ≤ 16777216) := HWf.out.m _
    obtain ⟨b, hb⟩ : ∃ b, rowD m.d.X (16 + i) = b := ⟨_, rfl⟩
    rw [hb] at hc0 hs0 HRn hlm
    have HS := Lib.hid hs0
    clear hb hs0
    go_enter Tryd.func18, Tryd.ntmps18
    go_wp2_with (first
      | (go_at_call 39; refine (isMade_any w g true HM.out).mono ?_; rintro e w1 ⟨rfl, hw1⟩; obtain rfl := hw1)
      | (go_at_call 43; refine (mayLog_any _ _).mono ?_; rw [h1]; rintro e w2 ⟨rfl, hw2⟩; obtain rfl := hw2)
      | (go_at_call 38; refine (bclone_any _ _ A0 b.length c0 b rfl HS.out (by have := hlm.out; omega)).mono ?_; unfold ClonePostD; rintro e w3 ⟨r, rfl, hrl, hro, hrb, hb3⟩; have RL := Lib.hid hrl; have RO := Lib.hid hro; have RB := Lib.hid hrb; have V3 := Lib.hid hb3; clear hrl hro hrb hb3))
    go_ret2
    exact ⟨r, by rw [HRn.out] <;> rfl, by rw [HRn.out]; exact RL.out, RO.out, RB.out, V3.out⟩
/-- A new disk. -/
def newM : DkM := ⟨List.replicate 32 noRow, none, 0, [], -1, false⟩
theorem newM_d : newM.d = newD := by
  unfold newM DkM.d newD
  simp [noRow]
theorem newM_foot (g j : Nat) : foot g newM j → j = g := by
  rintro (h | h | ⟨r, hr, h⟩)
  · exact h
  · cases h
  · rw [List.eq_of_mem_replicate hr] at h; cases h
theorem new_any (w : World) : Calls Tryd.prog 6 #[] w fun e w' => ∃ g, e = .returned (ptrD g) ∧ w.heap.size ≤ g ∧ DkOk w' g newM ∧ Below w.heap.size w w' := by
  have hbd : ∀ wq, (Instr.build 54 #[(0, .bool true), (4, .int .i64 (-1))]).run Tryd.prog wq = .ok (.agg (dkC newM).toArray) wq := fun wq => by kernel_rfl
  have HB : Hid (Blk (w.alloc (.cells (dkC newM).toArray 54)) w.heap.size 54 (dkC newM).toArray) := heap_alloc_new w _
  go_enter Tryd.func6, Tryd.ntmps6
  go_wp2
  go_ret
  refine ⟨w.heap.size, rfl, Nat.le_refl _, ⟨HB.out, rfl, fun r hr => by rw [List.eq_of_mem_replicate hr]; exact noRow_own _, fun i j x hi hj h1 => ?_, ⟨rfl, .inl ⟨rfl, rfl⟩⟩, (fun s hs => by cases hs), (fun j ⟨s, hs, _⟩ => by cases hs)⟩, nxAlloc (nxRefl w) _⟩
  have e : newM.rows[i] = noRow := List.eq_of_mem_replicate (List.getElem_mem hi)
  rw [e] at h1
  cases h1
end Go.Proofs.YthamlphebnhcpaaDoor
