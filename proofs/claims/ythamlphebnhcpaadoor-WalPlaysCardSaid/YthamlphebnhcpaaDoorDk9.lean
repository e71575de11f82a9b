/-
  disk: steps are settled.
-/
import Derived.Test.YthamlphebnhcpaaDoorDk8
namespace Go.Proofs.YthamlphebnhcpaaDoor
open Go.RowKit

theorem stsC_at (W : List StM) : ∀ (k : Nat) (hk : k < W.length) (j : Nat), j < 2 → (stsC W)[k * 2 + j]? = W[k].c[j]? := by
  induction W with
  | nil => intro k hk; cases hk
  | cons s r ih =>
    intro k hk j hj
    have e : stsC (s :: r) = s.c ++ stsC r := by simp [stsC]
    have hl : s.c.length = 2 := rfl
    rw [e]
    cases k with
    | zero => rw [List.getElem?_append_left (by omega)]; simp
    | succ k =>
      rw [List.getElem?_append_right (by omega), hl, show (k + 1) * 2 + j - 2 = k * 2 + j by omega]
      exact ih k (by simpa using hk) j hj
theorem stsC_len (W : List StM) : (stsC W).length = W.length * 2 := by
  induction W with
  | nil => rfl
  | cons s r ih =>
    have e : stsC (s :: r) = s.c ++ stsC r := by simp [stsC]
    rw [e, List.length_append, ih, List.length_cons, show s.c.length = 2 from rfl]
    omega
theorem stsC_drop (W : List StM) (n : Nat) : (stsC W).drop (n * 2) = stsC (W.drop n) := by
  induction W generalizing n with
  | nil => simp [stsC]
  | cons s r ih =>
    cases n with
    | zero => simp
    | succ n =>
      have e : stsC (s :: r) = s.c ++ stsC r := by simp [stsC]
      rw [e, List.drop_append, show s.c.length = 2 from rfl, List.drop_eq_nil_of_le (by rw [show s.c.length = 2 from rfl]; omega), List.nil_append, show (n + 1) * 2 - 2 = n * 2 by omega, ih, List.drop_succ_cons]
theorem DkOk.step {w : World} {g : Nat} {m : DkM} (h : DkOk w g m) {k : Nat} (hk : k < m.W.length) : ∃ a, m.A = some ⟨a, 0, none⟩ ∧ a < w.heap.size ∧ a ≠ g ∧ w.rangeAt a (k * 2) m.W[k].c := by
  obtain ⟨a, cur, hA, hb, _, _, _, hg, hl⟩ := own_two h.ww (by omega)
  refine ⟨a, hA, hb.lt, fun e => ?_, fun j v hv => ?_⟩
  · subst e
    have h1 := h.b
    unfold Blk at h1 hb
    rw [hb] at h1
    injection h1 with h1
    injection h1 with _ h1
    revert h1
    decide
  · have hj : j < 2 := (List.getElem?_eq_some_iff.1 hv).1
    have h1 := stsC_at m.W k hk j hj
    rw [hv] at h1
    have h2 := (List.getElem?_eq_some_iff.1 h1).1
    rw [hb.cell, hg _ h2, ← List.getElem?_eq_getElem h2, h1]
theorem slice_ownT {w : World} {n m c : Nat} {A : Option Addr} {xs : List Value} (h : w.ownsRow 0 86 2 (.slice A m c) m xs) (hn : n ≤ m) (wq : World) :
    (Instr.slice 52 (.slice A m c) none (some (.int .i64 (n : Int))) none).run Tryd.prog wq = .ok (.slice A n c) wq := by
  obtain ⟨i0, hi, _, hz1, _⟩ := infoD Tryd.stinfo
  have hb : m ≤ c ∧ c ≤ maxLen := by
    rcases h.2 with ⟨hv, h0⟩ | ⟨g', cap, cur, hv, _, _, hnc, hcm, _⟩
    · injection hv with _ _ h3; unfold maxLen; omega
    · injection hv with _ _ h3; omega
  have hA : A.map (·.add (0 * 2)) = A := by
    cases A with
    | none => rfl
    | some ad => cases ad with | mk b o p => cases p <;> rfl
  obtain ⟨h1, h2⟩ := hb
  unfold maxLen at h2
  simp [Instr.slice, run_underlying Tryd.underlying52, Instr.sliceBounds, run_sliceBound wq .i64 (n : Int) c _ (by omega) (by omega), sizeOf, typeInfo, hi, hz1]
  try (intro _; simpa using hA)
theorem okW_at {W : List StD} : ∀ {X : List (List UInt8)}, okW X W → ∀ k (hk : k < W.length), okS (doAll 0 X (W.take k)) W[k] := by
  induction W with
  | nil => intro X _ k hk; cases hk
  | cons s r ih =>
    intro X h k hk
    cases k with
    | zero => exact h.1
    | succ k => exact ih h.2 k (by simpa using hk)
theorem doAll_snoc {X : List (List UInt8)} {W : List StD} {k : Nat} (hk : k < W.length) : doAll 0 X (W.take (k + 1)) = doS 0 (doAll 0 X (W.take k)) W[k] := by
  rw [List.take_succ_eq_append_getElem hk, doAll_app]
  rfl
theorem StepTo.next {w w1 w2 w3 : World} {g : Nat} {m m1 m2 : DkM} {X Y : List (List UInt8)} (h : StepTo w g m X w1 m1) (t : DkTo w1 g m1 w2 m1) (k : StepTo w2 g m1 Y w3 m2) : StepTo w g m Y w3 m2 := by
  refine ⟨(h.to.trans t).trans k.to, ?_, k.W.trans h.W, k.A.trans h.A, k.c.trans h.c⟩
  rw [k.d, h.d]
def SettlePost (w : World) (g : Nat) (m : DkM) (n : Nat) (e : Ending) (w' : World) : Prop := e = .returned (.tuple #[]) ∧ ∃ m', DkTo w g m w' m' ∧ m'.d = settleD n m.d

set_option maxHeartbeats 4000000 in
set_option maxRecDepth 100000 in
theorem settle_any (w : World) (g : Nat) (m : DkM) (h : DkOk w g m) (wf : DkWf m.d) (n : Nat) (hn : n ≤ m.W.length) (hW : m.W.length ≤ 1000) : Calls Tryd.prog 40 #[ptrD g, .int .i64 (n : Int)] w (SettlePost w g m n) := by
  have hsl := slice_ownT h.ww hn
  have c33 : w.cell? ⟨g, 33, none⟩ = some (.slice m.A m.W.length m.c) := h.wait
  have H := Lib.hid h
  have HWf := Lib.hid wf
  have HN := Lib.hid hn
  have HWl := Lib.hid hW
  have HL : Hid (m.d.W.length = m.W.length) := List.length_map _
  have S0 : Hid (StepTo w g m (doAll 0 m.d.X (m.d.W.take 0)) w m) := ⟨DkTo.refl H.out, rfl, rfl, rfl, rfl⟩
  unfold ptrD SettlePost
  clear h wf
  go_enter Tryd.func40, Tryd.ntmps40
  go_wp2
  clear c33 hsl
  go_loopw [13] (fun iv wr => ∃ (k : Nat) (m1 : DkM), k ≤ n ∧ iv = .int .i64 k ∧ Hid (StepTo w g m (doAll 0 m.d.X (m.d.W.take k)) wr m1)) (fun iv _ => n - (intOf iv).toNat)
  case atStart => exact ⟨0, m, by omega, rfl, S0.out⟩
  case round =>
    clear S0
    obtain ⟨k, m1, hk, rfl, HS⟩ := hrel
    by_cases hlt : k < n
    · have hin : (k : Int) < (n : Int) := by omega
      have hk1 : k < m1.W.length := by rw [HS.out.W]; omega
      obtain ⟨a, hA, hal, hag, hr⟩ := HS.out.to.ok.step hk1
      have hA0 : m.A = some ⟨a, 0, none⟩ := by rw [← HS.out.A]; exact hA
      have hso := HS.out.to.ok.s _ (List.getElem_mem hk1)
      have hkd : k < m.d.W.length := by rw [HL.out]; omega
      have hok := okW_at HWf.out.w k hkd
      have hsd : m.d.W[k] = m1.W[k].d := by
        have h1 : m.d.W = m1.W.map StM.d := by rw [HS.out.W]; rfl
        simp only [h1, List.getElem_map]
      have hsn := doAll_snoc (X := m.d.X) hkd
      rw [hsd] at hok hsn
      obtain ⟨s, hs⟩ : ∃ s, m1.W[k] = s := ⟨_, rfl⟩
      rw [hs] at hr hso hok hsn
      have HR := Lib.hid hr
      have HSo := Lib.hid hso
      have HOk := Lib.hid hok
      have HSn := Lib.hid hsn
      have HRO : Hid (∀ j ∈ s.ro, ro m1 j) := fun j hj => ⟨s, by rw [← hs]; exact List.getElem_mem hk1, hj⟩
      rw [hA0]
      have hwk : IntKind.i64.wrap ((k : Int) + 1) = (k : Int) + 1 := by rw [IntKind.wrap_i64]; omega
      have Hal := Lib.hid hal
      clear hr hso hok hsn hs hsd hA hk1 hkd hal
      cases s with
      | put i b p0 p1 pf A c =>
        have HR2 : Hid (wr.rangeAt a (k * 2) [Value.func (.func 77) #[] #[.pointer (some ⟨pf, 0, none⟩), .pointer (some ⟨p1, 0, none⟩)], Value.func (.func 78) #[] #[.pointer (some ⟨pf, 0, none⟩), .pointer (some ⟨p1, 0, none⟩)]]) := HR.out
        have HST : Hid ((Tryd.prog.info? 86).map (·.size) = some [Value.func (.func 77) #[] #[.pointer (some ⟨pf, 0, none⟩), .pointer (some ⟨p1, 0, none⟩)], Value.func (.func 78) #[] #[.pointer (some ⟨pf, 0, none⟩), .pointer (some ⟨p1, 0, none⟩)]].length) := Tryd.stsize
        go_wp2_with (first
          | ((with_reducible show wpList _ _ _ (⟨some 16, _, _, _, _, _⟩ :: _) _ _); refine wpList_load_mid rfl 86 (.tmp 15) rfl a (k * 2) rfl [Value.func (.func 77) #[] #[.pointer (some ⟨pf, 0, none⟩), .pointer (some ⟨p1, 0, none⟩)], Value.func (.func 78) #[] #[.pointer (some ⟨pf, 0, none⟩), .pointer (some ⟨p1, 0, none⟩)]] _ HR2.out Tryd.underlying86 rfl HST.out ?_)
          | ((with_reducible show wpList _ _ _ (⟨none, .store 86 _ _, _, _, _, _⟩ :: _) _ _); (show wpList _ _ _ _ _ (wr.alloc (.cells #[.nilFunc, .nilFunc] 86))); refine wpList_store_partD rfl 86 (.tmp 5) (.tmp 16) rfl wr.heap.size 0 86 #[.nilFunc, .nilFunc] [Value.func (.func 77) #[] #[.pointer (some ⟨pf, 0, none⟩), .pointer (some ⟨p1, 0, none⟩)], Value.func (.func 78) #[] #[.pointer (some ⟨pf, 0, none⟩), .pointer (some ⟨p1, 0, none⟩)]].toArray [Value.func (.func 77) #[] #[.pointer (some ⟨pf, 0, none⟩), .pointer (some ⟨p1, 0, none⟩)], Value.func (.func 78) #[] #[.pointer (some ⟨pf, 0, none⟩), .pointer (some ⟨p1, 0, none⟩)]].toArray (.agg [Value.func (.func 77) #[] #[.pointer (some ⟨pf, 0, none⟩), .pointer (some ⟨p1, 0, none⟩)], Value.func (.func 78) #[] #[.pointer (some ⟨pf, 0, none⟩), .pointer (some ⟨p1, 0, none⟩)]].toArray) rfl rfl rfl (blk_newD rfl) (Nat.le_refl _) Tryd.stsize (fun u hu => stC_one (StM.put i b p0 p1 pf A c) u hu) rfl ?_; intro wk h5 h6 h7; have BK := Lib.hid h5; have KK : Hid (Keeps (· = wr.heap.size) (wr.alloc (.cells #[.nilFunc, .nilFunc] 86)) wk) := h6; clear h5 h6 h7))
        have VK : Hid (Below wr.heap.size wr wk) := (nxAlloc (nxRefl wr) _).trans (KK.out.below (by simp) (fun j hj => by omega))
        have DT : Hid (DkTo wr g m1 wk m1) := DkTo.below HS.out.to.ok VK.out
        have DK : Hid (DkOk wk g m1) := DT.out.ok
        have SK : Hid (StOk wk (StM.put i b p0 p1 pf A c)) := HSo.out.keep (Keeps.of_below VK.out (fun _ => False)) (fun _ _ h => h)
        have HX : Hid (m1.d.X = doAll 0 m.d.X (m.d.W.take k)) := by show _ = _; rw [HS.out.d]
        have cwh : wk.cell? ⟨wr.heap.size, 0, none⟩ = some (Value.func (.func 77) #[] #[.pointer (some ⟨pf, 0, none⟩), .pointer (some ⟨p1, 0, none⟩)]) := BK.out.cell 0
        have CWH := Lib.hid cwh
        clear cwh
        refine wp_region_held_drew (S := fun W => W.cell? ⟨wr.heap.size, 0, none⟩ = some (Value.func (.func 77) #[] #[.pointer (some ⟨pf, 0, none⟩), .pointer (some ⟨p1, 0, none⟩)])) (by kernel_rfl) CWH.out (fun hHeld => ?_)
        refine wpAnyH_take (i := 0) (oi := ⟨_, _, _, _, _, _⟩) (v := ?_) rfl (by kernel_rfl) (by kernel_rfl) (by kernel_rfl) (fun _ _ _ h => h) (Or.inl ⟨by rfl, ?_⟩) (by assumption) ?_
        rotate_left 1
        · intro W hSw
          try dsimp only at hSw
          go_simp
          try with_reducible rfl
        try simp only [Act.put, List.setIfInBounds_toArray, List.set_cons_zero, List.set_cons_succ]
        refine wpAnyH_take (i := 1) (oi := ⟨_, _, _, _, _, _⟩) (v := ?_) rfl (by kernel_rfl) (by kernel_rfl) (by kernel_rfl) (fun _ _ _ h => h) (Or.inl ⟨by rfl, ?_⟩) (by assumption) ?_
        rotate_left 1
        · intro W hSw
          try dsimp only at hSw
          go_simp
          try with_reducible rfl
        try simp only [Act.put, List.setIfInBounds_toArray, List.set_cons_zero, List.set_cons_succ]
        refine wpAnyH_take (i := 2) (oi := ⟨_, _, _, _, _, _⟩) (v := ?_) rfl (by kernel_rfl) (by kernel_rfl) (by kernel_rfl) (fun _ _ _ h => h) (Or.inl ⟨by rfl, ?_⟩) (by assumption) ?_
        rotate_left 1
        · intro W hSw
          try dsimp only at hSw
          go_simp
          try with_reducible rfl
        try simp only [Act.put, List.setIfInBounds_toArray, List.set_cons_zero, List.set_cons_succ]
        refine wpAnyH_take (i := 3) (oi := ⟨_, _, _, _, _, _⟩) (v := ?_) rfl (by kernel_rfl) (by kernel_rfl) (by kernel_rfl) (fun _ _ _ h => h) (Or.inl ⟨by rfl, ?_⟩) (by assumption) ?_
        rotate_left 1
        · intro W hSw
          try dsimp only at hSw
          go_simp
          try with_reducible rfl
        try simp only [Act.put, List.setIfInBounds_toArray, List.set_cons_zero, List.set_cons_succ]
        refine wpAnyH_take (i := 4) (oi := ⟨_, _, _, _, _, _⟩) (v := ?_) rfl (by kernel_rfl) (by kernel_rfl) (by kernel_rfl) (fun _ _ _ h => h) (Or.inl ⟨by rfl, ?_⟩) (by assumption) ?_
        rotate_left 1
        · intro W hSw
          try dsimp only at hSw
          go_simp
          try with_reducible rfl
        try simp only [Act.put, List.setIfInBounds_toArray, List.set_cons_zero, List.set_cons_succ]
        refine wpAnyH_ready (rs := [5]) (by kernel_rfl) (by simp) ?_
        refine AllReadyH.cons rfl (fun K hK => ?_) AllReadyH.nil
        go_simp
        go_at_call 77
        refine (put2D wk.drew g m1 (DK.out.drew) 1 0 i b p0 p1 pf c A rfl (by omega) HOk.out.1 SK.out.drew (by rw [Nat.zero_add, HX.out]; exact HOk.out.2)).mono ?_
        rintro e w5 ⟨rfl, m5, hm5⟩
        have M5 := Lib.hid hm5
        clear hm5
        have B5 : Hid (Blk w5 wr.heap.size 86 [Value.func (.func 77) #[] #[.pointer (some ⟨pf, 0, none⟩), .pointer (some ⟨p1, 0, none⟩)], Value.func (.func 78) #[] #[.pointer (some ⟨pf, 0, none⟩), .pointer (some ⟨p1, 0, none⟩)]].toArray) := BK.out.keeps (show Keeps (foot g m1) wk w5 from ⟨M5.out.to.k.os, M5.out.to.k.tape, M5.out.to.k.output, M5.out.to.k.size, M5.out.to.k.block⟩) (fun hj => by have := HS.out.to.ok.foot_lt hj; omega)
        refine hK.out _ _ (B5.out.cell 0) (fun hSn => ?_)
        clear hK K
        try simp only [Act.put, List.setIfInBounds_toArray, List.set_cons_zero, List.set_cons_succ]
        refine wpAnyH_done (by kernel_rfl) ?_ _
        have HN2 : Hid (StepTo w g m (doAll 0 m.d.X (m.d.W.take (k + 1))) w5 m5) := by
          have h1 := M5.out
          rw [HX.out] at h1
          show StepTo _ _ _ _ _ _
          rw [HSn.out]
          exact HS.out.next (DT.out.trans ⟨DK.out.drew, fun _ h => .inl h, fun _ h => .inl h, (Keeps.refl _ _).drew⟩) h1
        clear hHeld hSn M5 B5 CWH BK KK VK DT DK SK HX HR HR2 HSo HOk HSn HRO
        go_wp2
        go_roundw
        case rel => exact ⟨k + 1, m5, by omega, by go_num, HN2.out⟩
        case measure => simp [intOf] <;> omega
      | cut i nn p0 p1 =>
        have HR2 : Hid (wr.rangeAt a (k * 2) [Value.func (.func 67) #[] #[.pointer (some ⟨p0, 0, none⟩), .pointer (some ⟨p1, 0, none⟩)], Value.func (.func 68) #[] #[]]) := HR.out
        have HST : Hid ((Tryd.prog.info? 86).map (·.size) = some [Value.func (.func 67) #[] #[.pointer (some ⟨p0, 0, none⟩), .pointer (some ⟨p1, 0, none⟩)], Value.func (.func 68) #[] #[]].length) := Tryd.stsize
        go_wp2_with (first
          | ((with_reducible show wpList _ _ _ (⟨some 16, _, _, _, _, _⟩ :: _) _ _); refine wpList_load_mid rfl 86 (.tmp 15) rfl a (k * 2) rfl [Value.func (.func 67) #[] #[.pointer (some ⟨p0, 0, none⟩), .pointer (some ⟨p1, 0, none⟩)], Value.func (.func 68) #[] #[]] _ HR2.out Tryd.underlying86 rfl HST.out ?_)
          | ((with_reducible show wpList _ _ _ (⟨none, .store 86 _ _, _, _, _, _⟩ :: _) _ _); (show wpList _ _ _ _ _ (wr.alloc (.cells #[.nilFunc, .nilFunc] 86))); refine wpList_store_partD rfl 86 (.tmp 5) (.tmp 16) rfl wr.heap.size 0 86 #[.nilFunc, .nilFunc] [Value.func (.func 67) #[] #[.pointer (some ⟨p0, 0, none⟩), .pointer (some ⟨p1, 0, none⟩)], Value.func (.func 68) #[] #[]].toArray [Value.func (.func 67) #[] #[.pointer (some ⟨p0, 0, none⟩), .pointer (some ⟨p1, 0, none⟩)], Value.func (.func 68) #[] #[]].toArray (.agg [Value.func (.func 67) #[] #[.pointer (some ⟨p0, 0, none⟩), .pointer (some ⟨p1, 0, none⟩)], Value.func (.func 68) #[] #[]].toArray) rfl rfl rfl (blk_newD rfl) (Nat.le_refl _) Tryd.stsize (fun u hu => stC_one (StM.cut i nn p0 p1) u hu) rfl ?_; intro wk h5 h6 h7; have BK := Lib.hid h5; have KK : Hid (Keeps (· = wr.heap.size) (wr.alloc (.cells #[.nilFunc, .nilFunc] 86)) wk) := h6; clear h5 h6 h7))
        have VK : Hid (Below wr.heap.size wr wk) := (nxAlloc (nxRefl wr) _).trans (KK.out.below (by simp) (fun j hj => by omega))
        have DT : Hid (DkTo wr g m1 wk m1) := DkTo.below HS.out.to.ok VK.out
        have DK : Hid (DkOk wk g m1) := DT.out.ok
        have SK : Hid (StOk wk (StM.cut i nn p0 p1)) := HSo.out.keep (Keeps.of_below VK.out (fun _ => False)) (fun _ _ h => h)
        have HX : Hid (m1.d.X = doAll 0 m.d.X (m.d.W.take k)) := by show _ = _; rw [HS.out.d]
        have cwh : wk.cell? ⟨wr.heap.size, 0, none⟩ = some (Value.func (.func 67) #[] #[.pointer (some ⟨p0, 0, none⟩), .pointer (some ⟨p1, 0, none⟩)]) := BK.out.cell 0
        have CWH := Lib.hid cwh
        clear cwh
        refine wp_region_held_drew (S := fun W => W.cell? ⟨wr.heap.size, 0, none⟩ = some (Value.func (.func 67) #[] #[.pointer (some ⟨p0, 0, none⟩), .pointer (some ⟨p1, 0, none⟩)])) (by kernel_rfl) CWH.out (fun hHeld => ?_)
        refine wpAnyH_take (i := 0) (oi := ⟨_, _, _, _, _, _⟩) (v := ?_) rfl (by kernel_rfl) (by kernel_rfl) (by kernel_rfl) (fun _ _ _ h => h) (Or.inl ⟨by rfl, ?_⟩) (by assumption) ?_
        rotate_left 1
        · intro W hSw
          try dsimp only at hSw
          go_simp
          try with_reducible rfl
        try simp only [Act.put, List.setIfInBounds_toArray, List.set_cons_zero, List.set_cons_succ]
        refine wpAnyH_take (i := 1) (oi := ⟨_, _, _, _, _, _⟩) (v := ?_) rfl (by kernel_rfl) (by kernel_rfl) (by kernel_rfl) (fun _ _ _ h => h) (Or.inl ⟨by rfl, ?_⟩) (by assumption) ?_
        rotate_left 1
        · intro W hSw
          try dsimp only at hSw
          go_simp
          try with_reducible rfl
        try simp only [Act.put, List.setIfInBounds_toArray, List.set_cons_zero, List.set_cons_succ]
        refine wpAnyH_take (i := 2) (oi := ⟨_, _, _, _, _, _⟩) (v := ?_) rfl (by kernel_rfl) (by kernel_rfl) (by kernel_rfl) (fun _ _ _ h => h) (Or.inl ⟨by rfl, ?_⟩) (by assumption) ?_
        rotate_left 1
        · intro W hSw
          try dsimp only at hSw
          go_simp
          try with_reducible rfl
        try simp only [Act.put, List.setIfInBounds_toArray, List.set_cons_zero, List.set_cons_succ]
        refine wpAnyH_take (i := 3) (oi := ⟨_, _, _, _, _, _⟩) (v := ?_) rfl (by kernel_rfl) (by kernel_rfl) (by kernel_rfl) (fun _ _ _ h => h) (Or.inl ⟨by rfl, ?_⟩) (by assumption) ?_
        rotate_left 1
        · intro W hSw
          try dsimp only at hSw
          go_simp
          try with_reducible rfl
        try simp only [Act.put, List.setIfInBounds_toArray, List.set_cons_zero, List.set_cons_succ]
        refine wpAnyH_take (i := 4) (oi := ⟨_, _, _, _, _, _⟩) (v := ?_) rfl (by kernel_rfl) (by kernel_rfl) (by kernel_rfl) (fun _ _ _ h => h) (Or.inl ⟨by rfl, ?_⟩) (by assumption) ?_
        rotate_left 1
        · intro W hSw
          try dsimp only at hSw
          go_simp
          try with_reducible rfl
        try simp only [Act.put, List.setIfInBounds_toArray, List.set_cons_zero, List.set_cons_succ]
        refine wpAnyH_ready (rs := [5]) (by kernel_rfl) (by simp) ?_
        refine AllReadyH.cons rfl (fun K hK => ?_) AllReadyH.nil
        go_simp
        go_at_call 67
        refine (cut1D wk.drew g m1 (DK.out.drew) 1 0 i nn p0 p1 rfl (by omega) HOk.out.1 SK.out.drew (by rw [Nat.zero_add, HX.out]; exact HOk.out.2)).mono ?_
        rintro e w5 ⟨rfl, m5, hm5⟩
        have M5 := Lib.hid hm5
        clear hm5
        have B5 : Hid (Blk w5 wr.heap.size 86 [Value.func (.func 67) #[] #[.pointer (some ⟨p0, 0, none⟩), .pointer (some ⟨p1, 0, none⟩)], Value.func (.func 68) #[] #[]].toArray) := BK.out.keeps (show Keeps (foot g m1) wk w5 from ⟨M5.out.to.k.os, M5.out.to.k.tape, M5.out.to.k.output, M5.out.to.k.size, M5.out.to.k.block⟩) (fun hj => by have := HS.out.to.ok.foot_lt hj; omega)
        refine hK.out _ _ (B5.out.cell 0) (fun hSn => ?_)
        clear hK K
        try simp only [Act.put, List.setIfInBounds_toArray, List.set_cons_zero, List.set_cons_succ]
        refine wpAnyH_done (by kernel_rfl) ?_ _
        have HN2 : Hid (StepTo w g m (doAll 0 m.d.X (m.d.W.take (k + 1))) w5 m5) := by
          have h1 := M5.out
          rw [HX.out] at h1
          show StepTo _ _ _ _ _ _
          rw [HSn.out]
          exact HS.out.next (DT.out.trans ⟨DK.out.drew, fun _ h => .inl h, fun _ h => .inl h, (Keeps.refl _ _).drew⟩) h1
        clear hHeld hSn M5 B5 CWH BK KK VK DT DK SK HX HR HR2 HSo HOk HSn HRO
        go_wp2
        go_roundw
        case rel => exact ⟨k + 1, m5, by omega, by go_num, HN2.out⟩
        case measure => simp [intOf] <;> omega
    · obtain rfl : k = n := by omega
      have c33 : wr.cell? ⟨g, 33, none⟩ = some (.slice m1.A m.W.length m1.c) := by have h := HS.out.to.ok.wait; rw [HS.out.W] at h; exact h
      have HNo : Hid (¬ k < k) := hlt
      go_wp2_with (go_at_call 62; refine (delete_any wr m1.A k m.W.length m1.c (stsC m1.W) (by have h := HS.out.to.ok.ww; rw [HS.out.W] at h ⊢; exact h) (stsC_one _) HN.out).mono ?_; rintro e w5 ⟨rfl, ho, hk5⟩; have O5 := Lib.hid ho; have K5 := Lib.hid hk5; clear ho hk5; have NG : ¬ (m1.A.map (·.block) = some g) := (fun e => HS.out.to.ok.b.notOwn HS.out.to.ok.ww (by decide) (by rw [own_blkD]; exact e.symm)); have B5 : Hid (Blk w5 g 54 (dkC m1).toArray) := HS.out.to.ok.b.keeps K5.out NG; have c35 : w5.cell? ⟨g, 33, none⟩ = some (.slice m1.A m.W.length m1.c) := (B5.out.cell 33).trans ((HS.out.to.ok.b.cell 33).symm.trans c33); have f35 : w5.frozen? ⟨g, 33, none⟩ = false := B5.out.frozen _; clear NG)
      go_end0
      have hV : (m1.W.drop k).length = m.W.length - k := by rw [List.length_drop, HS.out.W]
      have hW4 := DkTo.wait (w' := w5.setCell ⟨g, 33, none⟩ (.slice m1.A (m.W.length - k) m1.c)) HS.out.to.ok (A := m1.A) (c := m1.c) (V := m1.W.drop k) (by rw [hV]; exact B5.out.set _ _) (by
        rw [hV, ← stsC_drop]
        exact own_store O5.out B5.out (by decide) _ _) (.inl rfl) ((K5.out.mono (fun j _ h => .inr h)).setCell (.inl rfl) _) (fun s hs => HS.out.to.ok.s s (List.mem_of_mem_drop hs)) (fun s hs j hj => HS.out.to.ok.f j ⟨s, List.mem_of_mem_drop hs, hj⟩)
      have hT : DkTo wr g m1 (w5.setCell ⟨g, 33, none⟩ (.slice m1.A (m.W.length - k) m1.c)) { m1 with A := m1.A, c := m1.c, W := m1.W.drop k } := ⟨hW4.1, hW4.2.1, fun j ⟨s, hs, hj⟩ => .inl ⟨s, List.mem_of_mem_drop hs, hj⟩, hW4.2.2⟩
      refine ⟨rfl, _, HS.out.to.trans hT, ?_⟩
      have e1 : ({ m1 with A := m1.A, c := m1.c, W := m1.W.drop k } : DkM).d = { m1.d with W := m1.d.W.drop k } := by simp [DkM.d, List.map_drop]
      rw [e1, HS.out.d]
      rfl
end Go.Proofs.YthamlphebnhcpaaDoor
