/-
  dag: the document's Add.
-/
import Derived.Test.YtbfpckomgpkjgaaGreatPRnQ15
namespace Go.Proofs.YtbfpckomgpkjgaaGreat
open Go.RowKit

theorem Tryz.dinfoRN : (Tryz.prog.info? 75).map (fun i => (i.zero, i.size, i.bytes)) = some (some (.agg (By zero32 ++ [Value.slice none 0 0]).toArray), 33, 56) := by kernel_rfl
theorem rnC_one (x : RNd) : ∀ u ∈ rnC x, u.oneCell' = true := fun u h => by
  unfold rnC at h
  rcases List.mem_append.1 h with h | h
  · exact hC_one _ u h
  · rw [List.mem_singleton] at h; subst h; rfl
theorem rnsC_one (l : List RNd) : ∀ u ∈ rnsC l, u.oneCell' = true := fun u h => by
  unfold rnsC at h
  obtain ⟨r, hr, hu⟩ := List.mem_flatten.1 h
  obtain ⟨x, _, rfl⟩ := List.mem_map.1 hr
  exact rnC_one x u hu
theorem rnsC_snoc (l : List RNd) (x : RNd) : rnsC (l ++ [x]) = rnsC l ++ rnC x := by simp [rnsC]
set_option maxRecDepth 100000 in
theorem part_node (id : Hh) (A : Option Addr) (n c : Nat) (wq : World) : (Instr.build 75 #[(0, .agg (hC id).toArray), (1, .slice A n c)]).run Tryz.prog wq = .ok (.agg (hC id ++ [Value.slice A n c]).toArray) wq := by
  obtain ⟨i0, hi, hz, _, _⟩ := infoP Tryz.dinfoRN
  refine run_build wq _ _ _ ?_
  rw [built_struct hi hz Tryz.underlying75 (places := [(0, 32), (32, 1)]) (by kernel_rfl)]
  exact fill_pair ([(0, 32), (32, 1)].toArray[·]?) (By zero32 ++ [Value.slice none 0 0]) (hC id) [.slice A n c] (.agg (hC id).toArray) (.slice A n c) rfl rfl (by rw [hC_len]; rfl) (by rw [hC_len]; rfl) (by rw [hC_len]; rfl)
theorem SeesV.keeps1 {w w' : World} {q : Nat} {A : Option Addr} {vs : List Value} (h : SeesV w w.heap.size A vs) (k : Keeps (· = q) w w') (hn : ∀ a, A = some a → a.block ≠ q) : SeesV w' w'.heap.size A vs := by
  rcases h with h | ⟨b, off, hA, hb, hc⟩
  · exact .inl h
  · exact .inr ⟨b, off, hA, Nat.lt_of_lt_of_le hb k.size, fun i hi => (k.cell (p := ⟨b, off + i, none⟩) hb (show b ≠ q from hn ⟨b, off, none⟩ hA)).trans (hc i hi)⟩
theorem Keeps.ofB {S : Nat → Prop} {w w' : World} (h : Below w.heap.size w w') : Keeps S w w' := ⟨h.os, h.tape, h.output, h.size, fun k hk _ => h.block k hk⟩
theorem nxDrT {B : Nat} {w W : World} (h : Below B w W) : Below B w W.drew := ⟨h.os, h.tape, h.output, h.size, h.block⟩
open Classical in
noncomputable def rAddE (l : List RNd) (id : Hh) (ps : List Hh) : Int :=
  if 0 ≤ atI l id then 7 else if risH ps = [] ∨ (risH ps).length ≠ ps.length then 9 else if ∃ p ∈ risH ps, atI l p < 0 then 6 else 0
/-- What the document's Add leaves: the graph as it was, or with one more. -/
def RAdded (w : World) (base : Nat) (m : RGm) (id : Hh) (ps : List Hh) (w' : World) : Prop :=
  ∃ m', RGOk w' base m' ∧ m'.q = m.q ∧ Keeps (· = m.q) w w' ∧ (∀ a, m'.A = some a → w.heap.size ≤ a.block ∧ a.block < w'.heap.size) ∧ ∃ A c, m'.l = m.l ++ [⟨id, risH ps, A, c⟩] ∧ ∀ a, A = some a → w.heap.size ≤ a.block ∧ a.block < w'.heap.size
def RAddPost (w : World) (base : Nat) (m : RGm) (id : Hh) (ps : List Hh) (e : Ending) (w' : World) : Prop :=
  e = .returned (.int .i64 (rAddE m.l id ps)) ∧ (rAddE m.l id ps = 0 → RAdded w base m id ps w') ∧ (rAddE m.l id ps ≠ 0 → Below w.heap.size w w')
theorem radd_done {w wr w11 : World} (base q : Nat) (A : Option Addr) (c : Nat) (l : List RNd) (id : Hh) (ps : List Hh) (A5 : Option Addr) (c5 : Nat) (A11 : Option Addr) (c11 : Nat) (h : RGOk wr base ⟨q, A, c, l⟩) (k : Below wr.heap.size wr w11) (v : Below w.heap.size w wr) (hqw : q < w.heap.size)
    (hB : Blk w11 q 37 #[.slice A l.length c]) (ho : w11.ownsRow wr.heap.size 75 33 (.slice A11 (l.length + 1) c11) (l.length + 1) (rnsC l ++ rnC ⟨id, risH ps, A5, c5⟩)) (h5 : SeesV wr wr.heap.size A5 (hsC (risH ps))) (ha5 : ∀ a, A5 = some a → w.heap.size ≤ a.block ∧ a.block < wr.heap.size) (hmx : l.length < 1000000) (hps : ps.length ≤ 1000000) :
    rAddE l id ps = 0 → RAdded w base ⟨q, A, c, l⟩ id ps (w11.setCell ⟨q, 0, none⟩ (.slice A11 (l.length + 1) c11)) := fun _ => by
  have k1 : Keeps (· = q) w11 (w11.setCell ⟨q, 0, none⟩ (.slice A11 (l.length + 1) c11)) := (Keeps.refl (fun j => j = q) _).setCell (p := ⟨q, 0, none⟩) rfl _
  have k2 : Keeps (· = q) wr (w11.setCell ⟨q, 0, none⟩ (.slice A11 (l.length + 1) c11)) := (Keeps.ofB k).trans k1
  refine ⟨⟨q, A11, c11, l ++ [⟨id, risH ps, A5, c5⟩]⟩, ⟨?_, ?_, ?_, h.qb, ?_, ?_, ?_, ?_⟩, rfl, (Keeps.ofB v).trans k2, ?_, A5, c5, rfl, fun a ha => ⟨(ha5 a ha).1, Nat.lt_of_lt_of_le (ha5 a ha).2 k2.size⟩⟩
  · have := hB.set 0 (.slice A11 (l.length + 1) c11)
    rw [show (l ++ [(⟨id, risH ps, A5, c5⟩ : RNd)]).length = l.length + 1 by simp]
    exact this
  · have h1 := own_store ho hB (by decide) 0 (.slice A11 (l.length + 1) c11)
    rw [rnsC_snoc]
    exact SeesV.own h1
  · intro x hx
    rcases List.mem_append.1 hx with hx | hx
    · exact (h.e x hx).keeps1 k2 (h.ne x hx)
    · rw [List.mem_singleton] at hx
      subst hx
      exact h5.keeps1 k2 (fun a ha => by have := (ha5 a ha).1; omega)
  · intro a ha
    dsimp only at ha
    subst ha
    have h2 := own_lt ho a.block rfl
    have h3 := v.size
    show a.block ≠ q
    omega
  · intro x hx a ha
    rcases List.mem_append.1 hx with hx | hx
    · exact h.ne x hx a ha
    · rw [List.mem_singleton] at hx
      subst hx
      have := (ha5 a ha).1
      show a.block ≠ q
      omega
  · show (l ++ [_]).length ≤ 1000000
    simp; omega
  · intro x hx
    rcases List.mem_append.1 hx with hx | hx
    · exact h.pm x hx
    · rw [List.mem_singleton] at hx
      subst hx
      exact Nat.le_trans (risH_le ps) hps
  · intro a ha
    dsimp only at ha
    subst ha
    have h2 := own_lt ho a.block rfl
    have h3 := v.size
    have h4 := k1.size
    exact ⟨by omega, by omega⟩
set_option maxRecDepth 100000 in
set_option maxHeartbeats 4000000 in
theorem radd_any (w : World) (base : Nat) (m : RGm) (h : RGOk w base m) (id : Hh) (PA : Option Addr) (ps : List Hh) (pc : Nat) (hP : SeesV w w.heap.size PA (hsC ps)) (hmx : m.l.length < 1000000) (hps : ps.length ≤ 1000000) :
    Calls Tryz.prog 60 #[.pointer (some ⟨m.q, 0, none⟩), .agg (hC id).toArray, .slice PA ps.length pc] w (RAddPost w base m id ps) := by
  obtain ⟨q, A, c, l⟩ := m
  unfold RAddPost
  have V1 : Hid (Below w.heap.size w (w.alloc (.cells (hC id).toArray 23))) := nxAlloc (nxRefl _) _
  have B1 : Hid (Blk (w.alloc (.cells (hC id).toArray 23)) w.heap.size 23 (hC id).toArray) := heap_alloc_new w _
  have HG1 : Hid (RGOk (w.alloc (.cells (hC id).toArray 23)) base ⟨q, A, c, l⟩) := h.later V1.out
  have HWb : Hid (q < w.heap.size) := h.lt
  have H0 := Lib.hid h
  have HP := Lib.hid hP
  have HMx := Lib.hid hmx
  have HPs := Lib.hid hps
  clear h hP hmx hps
  obtain ⟨iN, hiN, hn0, hn1, hn2⟩ := infoP Tryz.dinfoRN
  dsimp only at HMx ⊢
  obtain ⟨v, hv⟩ : ∃ v, atI l id = v := ⟨_, rfl⟩
  have HV := Lib.hid hv
  by_cases h7 : 0 ≤ v
  · have HE : Hid (rAddE l id ps = 7) := by show rAddE _ _ _ = _; unfold rAddE; rw [if_pos (by rw [hv]; exact h7)]
    clear hv
    go_enter Tryz.func60, Tryz.ntmps60
    go_wp2_with (first
      | ((with_reducible show wpList _ _ _ (⟨some 10, _, _, _, _, _⟩ :: _) _ _); refine wpList_load_mid rfl 23 (.tmp 4) rfl w.heap.size 0 rfl (hC id) _ (kb_range B1.out) Tryz.underlying23 rfl (hszL id) ?_)
      | (go_at_call 13; refine (rat_any _ base ⟨q, A, c, l⟩ id HG1.out).mono ?_; rw [HV.out]; rintro e w2 ⟨rfl, hb2⟩; have V2 : Hid (Below w.heap.size w w2) := nxTo V1.out hb2; clear hb2))
    go_ret
    exact ⟨by rw [HE.out]; rfl, fun h => absurd (HE.out.symm.trans h) (by decide), fun _ => V2.out⟩
  · have h7n : v < 0 := by omega
    have HE0 : Hid (rAddE l id ps = (open Classical in if risH ps = [] ∨ (risH ps).length ≠ ps.length then 9 else if ∃ p ∈ risH ps, atI l p < 0 then 6 else 0)) := by show rAddE _ _ _ = _; unfold rAddE; rw [if_neg (by rw [hv]; exact h7)]
    have h5p : (risH ps).length ≤ 1000000 := Nat.le_trans (risH_le ps) HPs.out
    have hmx2 := HMx.out
    clear hv
    by_cases h9 : risH ps = [] ∨ (risH ps).length ≠ ps.length
    · have HE : Hid (rAddE l id ps = 9) := by show _ = _; rw [HE0.out, if_pos h9]
      by_cases h0 : (risH ps).length = 0
      · have hb0 : (((risH ps).length : Int) == 0) = true := by rw [h0]; rfl
        have hb1 : ((risH ps).length : Int) = 0 := by omega
        clear h0 h9
        go_enter Tryz.func60, Tryz.ntmps60
        go_wp2_with (first
          | ((with_reducible show wpList _ _ _ (⟨some 10, _, _, _, _, _⟩ :: _) _ _); refine wpList_load_mid rfl 23 (.tmp 4) rfl w.heap.size 0 rfl (hC id) _ (kb_range B1.out) Tryz.underlying23 rfl (hszL id) ?_)
          | (go_at_call 13; refine (rat_any _ base ⟨q, A, c, l⟩ id HG1.out).mono ?_; rw [HV.out]; rintro e w2 ⟨rfl, hb2⟩; have V2 : Hid (Below w.heap.size w w2) := nxTo V1.out hb2; have B2 : Hid (Blk w2 w.heap.size 23 (hC id).toArray) := B1.out.below hb2 B1.out.lt; clear hb2)
          | (go_at_call 41; refine (rsorted_any w2 PA ps pc ((HP.out.below V2.out).more V2.out.size) HPs.out).mono ?_; unfold SortPost; rintro e w5 ⟨A5, c5, rfl, ho5, hb5⟩; have V5 : Hid (Below w.heap.size w w5) := nxTo V2.out hb5; have S5 : Hid (SeesV w5 w5.heap.size A5 (hsC (risH ps))) := SeesV.own ho5; have HA5 : Hid (∀ a, A5 = some a → w.heap.size ≤ a.block ∧ a.block < w5.heap.size) := (fun a ha => by subst ha; have h2 := own_lt ho5 a.block rfl; have h3 := V2.out.size; exact ⟨by omega, h2.2⟩); have B5 : Hid (Blk w5 w.heap.size 23 (hC id).toArray) := B2.out.below hb5 B2.out.lt; clear ho5 hb5))
        go_ret
        exact ⟨by rw [HE.out]; rfl, fun h => absurd (HE.out.symm.trans h) (by decide), fun _ => V5.out⟩
      · have hb0 : (((risH ps).length : Int) == 0) = false := by rw [beq_eq_false_iff_ne]; omega
        have hne : (risH ps).length ≠ ps.length := h9.resolve_left (fun e => h0 (by rw [e]; rfl))
        have hb1 : (((risH ps).length : Int) != (ps.length : Int)) = true := by rw [bne_iff_ne]; omega
        clear h9 hne
        go_enter Tryz.func60, Tryz.ntmps60
        go_wp2_with (first
          | ((with_reducible show wpList _ _ _ (⟨some 10, _, _, _, _, _⟩ :: _) _ _); refine wpList_load_mid rfl 23 (.tmp 4) rfl w.heap.size 0 rfl (hC id) _ (kb_range B1.out) Tryz.underlying23 rfl (hszL id) ?_)
          | (go_at_call 13; refine (rat_any _ base ⟨q, A, c, l⟩ id HG1.out).mono ?_; rw [HV.out]; rintro e w2 ⟨rfl, hb2⟩; have V2 : Hid (Below w.heap.size w w2) := nxTo V1.out hb2; have B2 : Hid (Blk w2 w.heap.size 23 (hC id).toArray) := B1.out.below hb2 B1.out.lt; clear hb2)
          | (go_at_call 41; refine (rsorted_any w2 PA ps pc ((HP.out.below V2.out).more V2.out.size) HPs.out).mono ?_; unfold SortPost; rintro e w5 ⟨A5, c5, rfl, ho5, hb5⟩; have V5 : Hid (Below w.heap.size w w5) := nxTo V2.out hb5; have S5 : Hid (SeesV w5 w5.heap.size A5 (hsC (risH ps))) := SeesV.own ho5; have HA5 : Hid (∀ a, A5 = some a → w.heap.size ≤ a.block ∧ a.block < w5.heap.size) := (fun a ha => by subst ha; have h2 := own_lt ho5 a.block rfl; have h3 := V2.out.size; exact ⟨by omega, h2.2⟩); have B5 : Hid (Blk w5 w.heap.size 23 (hC id).toArray) := B2.out.below hb5 B2.out.lt; clear ho5 hb5))
        go_ret
        exact ⟨by rw [HE.out]; rfl, fun h => absurd (HE.out.symm.trans h) (by decide), fun _ => V5.out⟩
    · have h0 : (risH ps).length ≠ 0 := fun e => h9 (.inl (List.length_eq_zero_iff.1 e))
      have hb0 : (((risH ps).length : Int) == 0) = false := by rw [beq_eq_false_iff_ne]; omega
      have heq : (risH ps).length = ps.length := Classical.byContradiction fun e => h9 (.inr e)
      have hb1 : (((risH ps).length : Int) != (ps.length : Int)) = false := by rw [heq, bne_self_eq_false]
      have HE1 : Hid (rAddE l id ps = (open Classical in if ∃ p ∈ risH ps, atI l p < 0 then 6 else 0)) := by show _ = _; rw [HE0.out, if_neg h9]
      clear h9 h0 heq
      go_enter Tryz.func60, Tryz.ntmps60
      go_wp2_with (first
        | ((with_reducible show wpList _ _ _ (⟨some 10, _, _, _, _, _⟩ :: _) _ _); refine wpList_load_mid rfl 23 (.tmp 4) rfl w.heap.size 0 rfl (hC id) _ (kb_range B1.out) Tryz.underlying23 rfl (hszL id) ?_)
        | (go_at_call 13; refine (rat_any _ base ⟨q, A, c, l⟩ id HG1.out).mono ?_; rw [HV.out]; rintro e w2 ⟨rfl, hb2⟩; have V2 : Hid (Below w.heap.size w w2) := nxTo V1.out hb2; have B2 : Hid (Blk w2 w.heap.size 23 (hC id).toArray) := B1.out.below hb2 B1.out.lt; clear hb2)
        | (go_at_call 41; refine (rsorted_any w2 PA ps pc ((HP.out.below V2.out).more V2.out.size) HPs.out).mono ?_; unfold SortPost; rintro e w5 ⟨A5, c5, rfl, ho5, hb5⟩; have V5 : Hid (Below w.heap.size w w5) := nxTo V2.out hb5; have S5 : Hid (SeesV w5 w5.heap.size A5 (hsC (risH ps))) := SeesV.own ho5; have HA5 : Hid (∀ a, A5 = some a → w.heap.size ≤ a.block ∧ a.block < w5.heap.size) := (fun a ha => by subst ha; have h2 := own_lt ho5 a.block rfl; have h3 := V2.out.size; exact ⟨by omega, h2.2⟩); have B5 : Hid (Blk w5 w.heap.size 23 (hC id).toArray) := B2.out.below hb5 B2.out.lt; clear ho5 hb5))
      go_loopw [8] (fun iv wr => ∃ k : Nat, k ≤ (risH ps).length ∧ iv = .int .i64 k ∧ Hid (∀ p ∈ (risH ps).take k, 0 ≤ atI l p) ∧ Hid (Below w5.heap.size w5 wr)) (fun iv _ => (risH ps).length - (intOf iv).toNat)
      case atStart => exact ⟨0, by omega, rfl, by show ∀ p ∈ _, _; simp, nxRefl w5⟩
      case round =>
        obtain ⟨k, hk, rfl, HN, HK⟩ := hrel
        have V : Hid (Below w.heap.size w wr) := V5.out.trans (HK.out.mono V5.out.size)
        have HG : Hid (RGOk wr base ⟨q, A, c, l⟩) := H0.out.later V.out
        by_cases hlt : k < (risH ps).length
        · obtain ⟨b5, f5, rfl, hb5, hr5⟩ := sees_hash S5.out hlt
          have r5 : wr.rangeAt b5 (f5 + k * 32) (hC (risH ps)[k]) := rngK (hr5 k hlt) HK.out hb5
          have hin : (k : Int) < ((risH ps).length : Int) := by omega
          have hmem : (risH ps)[k] ∈ risH ps := List.getElem_mem hlt
          have hn2 : (risH ps).take (k + 1) = (risH ps).take k ++ [(risH ps)[k]] := List.take_succ_eq_append_getElem hlt
          obtain ⟨x, hx⟩ : ∃ x, (risH ps)[k] = x := ⟨_, rfl⟩
          rw [hx] at r5 hmem hn2
          have HR5 := Lib.hid r5
          have HMm := Lib.hid hmem
          have HN2 := Lib.hid hn2
          obtain ⟨z, hz⟩ : ∃ z, atI l x = z := ⟨_, rfl⟩
          have HZ := Lib.hid hz
          clear hr5 r5 hmem hn2 hx hz hb5
          by_cases hz0 : z < 0
          · have HE : Hid (rAddE l id ps = 6) := by show _ = _; rw [HE1.out, if_pos ⟨x, HMm.out, by rw [HZ.out]; exact hz0⟩]
            go_wp2_with (first
              | ((with_reducible show wpList _ _ _ (⟨some 35, _, _, _, _, _⟩ :: _) _ _); refine wpList_load_mid rfl 23 (.tmp 34) rfl b5 (f5 + k * 32) rfl (hC x) _ HR5.out Tryz.underlying23 rfl (hszL x) ?_)
              | (go_at_call 13; refine (rat_any _ base ⟨q, A, c, l⟩ x HG.out).mono ?_; rw [HZ.out]; rintro e w6 ⟨rfl, hb6⟩; have V6 : Hid (Below w.heap.size w w6) := nxTo V.out hb6; clear hb6))
            go_ret
            exact ⟨by rw [HE.out]; rfl, fun h => absurd (HE.out.symm.trans h) (by decide), fun _ => V6.out⟩
          · have HN3 : Hid (∀ p ∈ (risH ps).take (k + 1), 0 ≤ atI l p) := fun p hp => by
              rw [HN2.out] at hp
              rcases List.mem_append.1 hp with hp | hp
              · exact HN.out p hp
              · rw [List.mem_singleton] at hp
                rw [hp, HZ.out]
                omega
            go_wp2_with (first
              | ((with_reducible show wpList _ _ _ (⟨some 35, _, _, _, _, _⟩ :: _) _ _); refine wpList_load_mid rfl 23 (.tmp 34) rfl b5 (f5 + k * 32) rfl (hC x) _ HR5.out Tryz.underlying23 rfl (hszL x) ?_)
              | (go_at_call 13; refine (rat_any _ base ⟨q, A, c, l⟩ x HG.out).mono ?_; rw [HZ.out]; rintro e w6 ⟨rfl, hb6⟩; have K6 : Hid (Below w5.heap.size w5 w6) := nxTo HK.out hb6; clear hb6))
            go_roundw
            case rel => exact ⟨k + 1, by omega, by go_num, HN3, K6⟩
            case measure => simp [intOf] <;> omega
        · obtain rfl : k = (risH ps).length := by omega
          have HE : Hid (rAddE l id ps = 0) := by
            show _ = _
            rw [HE1.out, if_neg]
            rintro ⟨p, hp, h1⟩
            have h2 := HN.out p (by rw [List.take_length]; exact hp)
            omega
          have HB : Hid (Blk wr q 37 #[.slice A l.length c]) := HG.out.b
          have hcq : wr.cell? ⟨q, 0, none⟩ = some (.slice A l.length c) := HB.out.cell 0
          have HCq := Lib.hid hcq
          have HWw : Hid (Blk wr w.heap.size 23 (hC id).toArray) := B5.out.below HK.out B5.out.lt
          have HRi : Hid (wr.rangeAt w.heap.size 0 (hC id)) := kb_range HWw.out
          have HQl : Hid (q < wr.heap.size) := HB.out.lt
          have HWl : Hid (w.heap.size < wr.heap.size) := HWw.out.lt
          have HSl : Hid (SeesV wr wr.heap.size A (rnsC l)) := HG.out.s
          have HS5 : Hid (SeesV wr wr.heap.size A5 (hsC (risH ps))) := (S5.out.below HK.out).more HK.out.size
          have KDr : Hid (Below wr.heap.size wr wr.drew) := nxDrT (nxRefl _)
          have KAl : Hid (Below wr.heap.size wr (wr.drew.alloc (.cells (rnC ⟨id, risH ps, A5, c5⟩).toArray 75))) := nxAlloc KDr.out _
          clear hcq
          go_wp2
          refine wp_region_K (fun W => W.cell? ⟨q, 0, none⟩ = some (.slice A l.length c) ∧ W.rangeAt w.heap.size 0 (hC id)) 13 (by kernel_rfl) ⟨HCq.out, HRi.out⟩ (fun hSn => ?_)
          refine wpAnyK_pure (i := 0) (oi := ⟨_, _, _, _, _, _⟩) (v := ?_) rfl (by kernel_rfl) (by kernel_rfl) (by kernel_rfl) rfl (fun _ _ _ h => h) (Or.inl ⟨by rfl, ?_⟩) hSn ?_
          rotate_left 1
          · intro W hSw
            go_simp
            try with_reducible rfl
          replace hSn := (KT.set (i := 0) (by decide)).2 hSn
          try simp only [Act.put, List.setIfInBounds_toArray, List.set_cons_zero, List.set_cons_succ]
          refine wpAnyK_pure (i := 1) (oi := ⟨_, _, _, _, _, _⟩) (v := ?_) rfl (by kernel_rfl) (by kernel_rfl) (by kernel_rfl) rfl (fun _ _ _ h => h) (Or.inl ⟨by rfl, ?_⟩) hSn ?_
          rotate_left 1
          · intro W hSw
            go_simp
            try with_reducible rfl
          replace hSn := (KT.set (i := 1) (by decide)).2 hSn
          try simp only [Act.put, List.setIfInBounds_toArray, List.set_cons_zero, List.set_cons_succ]
          refine wpAnyK_pure (i := 2) (oi := ⟨_, _, _, _, _, _⟩) (v := ?_) rfl (by kernel_rfl) (by kernel_rfl) (by kernel_rfl) rfl (fun _ _ _ h => h) (Or.inl ⟨by rfl, ?_⟩) hSn ?_
          rotate_left 1
          · intro W hSw
            go_simp
            try with_reducible rfl
          replace hSn := (KT.set (i := 2) (by decide)).2 hSn
          try simp only [Act.put, List.setIfInBounds_toArray, List.set_cons_zero, List.set_cons_succ]
          refine wpAnyK_pure (i := 3) (oi := ⟨_, _, _, _, _, _⟩) (v := ?_) rfl (by kernel_rfl) (by kernel_rfl) (by kernel_rfl) rfl (fun _ _ _ h => h) (Or.inl ⟨by rfl, ?_⟩) hSn ?_
          rotate_left 1
          · intro W hSw
            go_simp
            try with_reducible rfl
          replace hSn := (KT.set (i := 3) (by decide)).2 hSn
          try simp only [Act.put, List.setIfInBounds_toArray, List.set_cons_zero, List.set_cons_succ]
          refine wpAnyK_chain (i := 4) [13] (oi := ⟨_, _, _, _, _, _⟩) (v := ?_) rfl (by kernel_rfl) (by kernel_rfl) (by kernel_rfl) rfl (by kernel_rfl) (by kernel_rfl) (by kernel_rfl) (fun _ _ _ h => h) (Or.inl ⟨by rfl, ?_⟩) hSn ?_
          rotate_left 1
          · intro W hSw
            try dsimp only at hSw
            obtain ⟨hs1, hs2⟩ := hSw
            go_simp
            try with_reducible rfl
          replace hSn := (KT.set (i := 4) (by decide)).2 hSn
          try simp only [Act.put, List.setIfInBounds_toArray, List.set_cons_zero, List.set_cons_succ]
          refine wpAnyK_chain (i := 6) [13] (oi := ⟨_, _, _, _, _, _⟩) (v := .agg (hC id).toArray) rfl (by kernel_rfl) (by kernel_rfl) (by kernel_rfl) rfl (by kernel_rfl) (by kernel_rfl) (by kernel_rfl) (fun _ _ _ h => h) (yieldsIf_load_mid (by rfl) 23 (.tmp 4) rfl w.heap.size 0 rfl (hC id) _ (fun W h => h.2) Tryz.underlying23 rfl (hszL id)) hSn ?_
          replace hSn := (KT.set (i := 6) (by decide)).2 hSn
          try simp only [Act.put, List.setIfInBounds_toArray, List.set_cons_zero, List.set_cons_succ]
          refine wpAnyK_pure (i := 7) (oi := ⟨_, _, _, _, _, _⟩) (v := ?_) rfl (by kernel_rfl) (by kernel_rfl) (by kernel_rfl) rfl (fun _ _ _ h => h) (Or.inl ⟨by rfl, ?_⟩) hSn ?_
          rotate_left 1
          · intro W hSw
            go_simp
            try with_reducible rfl
          replace hSn := (KT.set (i := 7) (by decide)).2 hSn
          try simp only [Act.put, List.setIfInBounds_toArray, List.set_cons_zero, List.set_cons_succ]
          refine wpAnyK_chain (i := 8) [13] (oi := ⟨_, _, _, _, _, _⟩) (v := .agg (rnC ⟨id, risH ps, A5, c5⟩).toArray) rfl (by kernel_rfl) (by kernel_rfl) (by kernel_rfl) rfl (by kernel_rfl) (by kernel_rfl) (by kernel_rfl) (fun _ _ _ h => h) (yieldsIf_build2 (by rfl) 75 (.tmp 44) (.tmp 45) rfl (.agg (hC id).toArray) (.slice A5 (risH ps).length c5) _ rfl rfl (part_node id A5 (risH ps).length c5)) hSn ?_
          replace hSn := (KT.set (i := 8) (by decide)).2 hSn
          try simp only [Act.put, List.setIfInBounds_toArray, List.set_cons_zero, List.set_cons_succ]
          clear hSn
          refine wpAnyK_ready (rs := [5, 9]) (by kernel_rfl) (by simp) ?_
          refine (AllReadyK.cons rfl (fun K hK => ?_) (AllReadyK.cons rfl (fun K hK => ?_) AllReadyK.nil))
          · skip
            refine step_append_seesV (o := ⟨some 43, _, _, _, _, _⟩) rfl (.const (.slice none 0 0)) (.tmp 42) 35 rfl wr.heap.size 75 iN _ 33 56 Tryz.underlying35 hiN hn0 hn1 hn2 rfl (by decide) (.slice none 0 0) 0 [] rfl (⟨by simp, .inl ⟨rfl, rfl⟩⟩) wr.heap.size A l.length c (rnsC l) rfl (by rw [rnsC_len]) (HSl.out.below KDr.out) (rnsC_one _) (by omega) (by omega) (KDr.out.size) ?_
            intro v9 w9 ho9 hg9 ha9
            obtain ⟨A9, c9, rfl⟩ := own_form ho9
            rw [Nat.zero_add, List.nil_append] at ho9
            rw [Nat.zero_add]
            have O9 := Lib.hid ho9
            have K9 : Hid (Below wr.heap.size wr w9) := KDr.out.grown hg9 KDr.out.size (fun j hj => by cases hj)
            skip
            clear ho9 hg9 ha9
            refine hK.out _ _ (fun _ => ⟨(K9.out.cell (p := ⟨q, 0, none⟩) HQl.out).trans HCq.out, rngK HRi.out K9.out HWl.out⟩) (fun hSn => ?_)
            clear hK K
            try simp only [Act.put, List.setIfInBounds_toArray, List.set_cons_zero, List.set_cons_succ]
            clear hSn
            refine wpAnyK_ready (rs := [9]) (by kernel_rfl) (by simp) ?_
            refine (AllReadyK.cons rfl (fun K hK => ?_) AllReadyK.nil)
            refine step_build1 (o := ⟨some 47, _, _, _, _, _⟩) rfl 35 75 (.tmp 46) rfl (rnC ⟨id, risH ps, A5, c5⟩) _ 33 56 Tryz.underlying35 Tryz.dinfoRN (by decide) (by decide) (rnC_len _) rfl ?_
            have K9a : Hid (Below wr.heap.size wr (w9.alloc (.cells (rnC ⟨id, risH ps, A5, c5⟩).toArray 75))) := nxAlloc K9.out _
            refine hK.out _ _ (fun _ => ⟨(K9a.out.cell (p := ⟨q, 0, none⟩) HQl.out).trans HCq.out, rngK HRi.out K9a.out HWl.out⟩) (fun hSn => ?_)
            clear hK K
            try simp only [Act.put, List.setIfInBounds_toArray, List.set_cons_zero, List.set_cons_succ]
            clear hSn
            refine wpAnyK_ready (rs := [10]) (by kernel_rfl) (by simp) ?_
            refine (AllReadyK.cons rfl (fun K hK => ?_) AllReadyK.nil)
            refine step_append_seesV (o := ⟨some 48, _, _, _, _, _⟩) rfl (.tmp 43) (.tmp 47) 35 rfl wr.heap.size 75 iN _ 33 56 Tryz.underlying35 hiN hn0 hn1 hn2 rfl (by decide) (.slice A9 l.length c9) l.length (rnsC l) rfl (O9.out.alloc _) _ (some ⟨w9.heap.size, 0, none⟩) 1 1 (rnC ⟨id, risH ps, A5, c5⟩) rfl (by rw [rnC_len]) (SeesV.blk (heap_alloc_new w9 _)) (rnC_one _) (by omega) (by omega) K9a.out.size ?_
            intro v11 w11 ho11 hg11 ha11
            obtain ⟨A11, c11, rfl⟩ := own_form ho11
            have O11 := Lib.hid ho11
            have K11 : Hid (Below wr.heap.size wr w11) := K9a.out.grown hg11 K9a.out.size (fun j hj => (own_lt O9.out j hj).1)
            have B11 : Hid (Blk w11 q 37 #[.slice A l.length c]) := HB.out.below K11.out HQl.out
            have c11q : w11.cell? ⟨q, 0, none⟩ = some (.slice A l.length c) := B11.out.cell 0
            have f11q : w11.frozen? ⟨q, 0, none⟩ = false := B11.out.frozen 0
            clear ho11 hg11 ha11
            refine hK.out _ _ (fun _ => ⟨(K11.out.cell (p := ⟨q, 0, none⟩) HQl.out).trans HCq.out, rngK HRi.out K11.out HWl.out⟩) (fun hSn => ?_)
            clear hK K
            try simp only [Act.put, List.setIfInBounds_toArray, List.set_cons_zero, List.set_cons_succ]
            refine wpAnyK_pure (i := 11) (oi := ⟨_, _, _, _, _, _⟩) (v := ?_) rfl (by kernel_rfl) (by kernel_rfl) (by kernel_rfl) rfl (fun _ _ _ h => h) (Or.inl ⟨by rfl, ?_⟩) hSn ?_
            rotate_left 1
            · intro W hSw
              go_simp
              try with_reducible rfl
            replace hSn := (KT.set (i := 11) (by decide)).2 hSn
            try simp only [Act.put, List.setIfInBounds_toArray, List.set_cons_zero, List.set_cons_succ]
            refine wpAnyK_pure (i := 12) (oi := ⟨_, _, _, _, _, _⟩) (v := ?_) rfl (by kernel_rfl) (by kernel_rfl) (by kernel_rfl) rfl (fun _ _ _ h => h) (Or.inl ⟨by rfl, ?_⟩) hSn ?_
            rotate_left 1
            · intro W hSw
              go_simp
              try with_reducible rfl
            replace hSn := (KT.set (i := 12) (by decide)).2 hSn
            try simp only [Act.put, List.setIfInBounds_toArray, List.set_cons_zero, List.set_cons_succ]
            clear hSn
            refine wpAnyK_ready (rs := [13]) (by kernel_rfl) (by simp) ?_
            refine (AllReadyK.cons rfl (fun K hK => ?_) AllReadyK.nil)
            go_simp
            skip
            refine hK.out _ _ (fun h => absurd h (by decide +kernel)) (fun hSn => ?_)
            clear hK K
            try simp only [Act.put, List.setIfInBounds_toArray, List.set_cons_zero, List.set_cons_succ]
            refine wpAnyK_done (by kernel_rfl) ?_ _
            go_wp2
            go_ret
            exact ⟨by rw [HE.out]; rfl, radd_done base q A c l id ps A5 c5 A11 c11 HG.out K11.out V.out HWb.out B11.out O11.out HS5.out (fun a ha => ⟨(HA5.out a ha).1, Nat.lt_of_lt_of_le (HA5.out a ha).2 HK.out.size⟩) HMx.out HPs.out, fun h => absurd HE.out h⟩
          · skip
            refine step_build1 (o := ⟨some 47, _, _, _, _, _⟩) rfl 35 75 (.tmp 46) rfl (rnC ⟨id, risH ps, A5, c5⟩) _ 33 56 Tryz.underlying35 Tryz.dinfoRN (by decide) (by decide) (rnC_len _) rfl ?_
            refine hK.out _ _ (fun _ => ⟨(KAl.out.cell (p := ⟨q, 0, none⟩) HQl.out).trans HCq.out, rngK HRi.out KAl.out HWl.out⟩) (fun hSn => ?_)
            clear hK K
            try simp only [Act.put, List.setIfInBounds_toArray, List.set_cons_zero, List.set_cons_succ]
            clear hSn
            refine wpAnyK_ready (rs := [5]) (by kernel_rfl) (by simp) ?_
            refine (AllReadyK.cons rfl (fun K hK => ?_) AllReadyK.nil)
            refine step_append_seesV (o := ⟨some 43, _, _, _, _, _⟩) rfl (.const (.slice none 0 0)) (.tmp 42) 35 rfl wr.heap.size 75 iN _ 33 56 Tryz.underlying35 hiN hn0 hn1 hn2 rfl (by decide) (.slice none 0 0) 0 [] rfl (⟨by simp, .inl ⟨rfl, rfl⟩⟩) wr.heap.size A l.length c (rnsC l) rfl (by rw [rnsC_len]) (HSl.out.below KAl.out) (rnsC_one _) (by omega) (by omega) (KAl.out.size) ?_
            intro v9 w9 ho9 hg9 ha9
            obtain ⟨A9, c9, rfl⟩ := own_form ho9
            rw [Nat.zero_add, List.nil_append] at ho9
            rw [Nat.zero_add]
            have O9 := Lib.hid ho9
            have K9 : Hid (Below wr.heap.size wr w9) := KAl.out.grown hg9 KAl.out.size (fun j hj => by cases hj)
            have B9 : Hid (Blk w9 wr.heap.size 75 (rnC ⟨id, risH ps, A5, c5⟩).toArray) := Blk.keeps (show Blk (wr.drew.alloc (.cells (rnC ⟨id, risH ps, A5, c5⟩).toArray 75)) wr.heap.size 75 _ from heap_alloc_new wr.drew _) (Keeps.grown (S := fun _ => False) (Keeps.refl _ _) hg9 (fun k hk => by cases hk)) (fun h => h)
            clear ho9 hg9 ha9
            refine hK.out _ _ (fun _ => ⟨(K9.out.cell (p := ⟨q, 0, none⟩) HQl.out).trans HCq.out, rngK HRi.out K9.out HWl.out⟩) (fun hSn => ?_)
            clear hK K
            try simp only [Act.put, List.setIfInBounds_toArray, List.set_cons_zero, List.set_cons_succ]
            clear hSn
            refine wpAnyK_ready (rs := [10]) (by kernel_rfl) (by simp) ?_
            refine (AllReadyK.cons rfl (fun K hK => ?_) AllReadyK.nil)
            refine step_append_seesV (o := ⟨some 48, _, _, _, _, _⟩) rfl (.tmp 43) (.tmp 47) 35 rfl wr.heap.size 75 iN _ 33 56 Tryz.underlying35 hiN hn0 hn1 hn2 rfl (by decide) (.slice A9 l.length c9) l.length (rnsC l) rfl O9.out _ (some ⟨wr.heap.size, 0, none⟩) 1 1 (rnC ⟨id, risH ps, A5, c5⟩) rfl (by rw [rnC_len]) (SeesV.blk B9.out) (rnC_one _) (by omega) (by omega) K9.out.size ?_
            intro v11 w11 ho11 hg11 ha11
            obtain ⟨A11, c11, rfl⟩ := own_form ho11
            have O11 := Lib.hid ho11
            have K11 : Hid (Below wr.heap.size wr w11) := K9.out.grown hg11 K9.out.size (fun j hj => (own_lt O9.out j hj).1)
            have B11 : Hid (Blk w11 q 37 #[.slice A l.length c]) := HB.out.below K11.out HQl.out
            have c11q : w11.cell? ⟨q, 0, none⟩ = some (.slice A l.length c) := B11.out.cell 0
            have f11q : w11.frozen? ⟨q, 0, none⟩ = false := B11.out.frozen 0
            clear ho11 hg11 ha11
            refine hK.out _ _ (fun _ => ⟨(K11.out.cell (p := ⟨q, 0, none⟩) HQl.out).trans HCq.out, rngK HRi.out K11.out HWl.out⟩) (fun hSn => ?_)
            clear hK K
            try simp only [Act.put, List.setIfInBounds_toArray, List.set_cons_zero, List.set_cons_succ]
            refine wpAnyK_pure (i := 11) (oi := ⟨_, _, _, _, _, _⟩) (v := ?_) rfl (by kernel_rfl) (by kernel_rfl) (by kernel_rfl) rfl (fun _ _ _ h => h) (Or.inl ⟨by rfl, ?_⟩) hSn ?_
            rotate_left 1
            · intro W hSw
              go_simp
              try with_reducible rfl
            replace hSn := (KT.set (i := 11) (by decide)).2 hSn
            try simp only [Act.put, List.setIfInBounds_toArray, List.set_cons_zero, List.set_cons_succ]
            refine wpAnyK_pure (i := 12) (oi := ⟨_, _, _, _, _, _⟩) (v := ?_) rfl (by kernel_rfl) (by kernel_rfl) (by kernel_rfl) rfl (fun _ _ _ h => h) (Or.inl ⟨by rfl, ?_⟩) hSn ?_
            rotate_left 1
            · intro W hSw
              go_simp
              try with_reducible rfl
            replace hSn := (KT.set (i := 12) (by decide)).2 hSn
            try simp only [Act.put, List.setIfInBounds_toArray, List.set_cons_zero, List.set_cons_succ]
            clear hSn
            refine wpAnyK_ready (rs := [13]) (by kernel_rfl) (by simp) ?_
            refine (AllReadyK.cons rfl (fun K hK => ?_) AllReadyK.nil)
            go_simp
            skip
            refine hK.out _ _ (fun h => absurd h (by decide +kernel)) (fun hSn => ?_)
            clear hK K
            try simp only [Act.put, List.setIfInBounds_toArray, List.set_cons_zero, List.set_cons_succ]
            refine wpAnyK_done (by kernel_rfl) ?_ _
            go_wp2
            go_ret
            exact ⟨by rw [HE.out]; rfl, radd_done base q A c l id ps A5 c5 A11 c11 HG.out K11.out V.out HWb.out B11.out O11.out HS5.out (fun a ha => ⟨(HA5.out a ha).1, Nat.lt_of_lt_of_le (HA5.out a ha).2 HK.out.size⟩) HMx.out HPs.out, fun h => absurd HE.out h⟩
end Go.Proofs.YtbfpckomgpkjgaaGreat
