/-
  dag: the document's Sorted.
-/
import Derived.Test.YtbfpckomgpkjgaaGreatDgK
namespace Go.Proofs.YtbfpckomgpkjgaaGreat
open Go.RowKit

theorem ins_split {x : Hh} {out : List Hh} {at1 : Nat} (h : Rises out) (hx : x ∉ out) (hat : at1 ≤ out.length) (h1 : ∀ y ∈ out.drop at1, ltH x y = true) (h2 : ∀ p (hp : p < out.length), at1 = p + 1 → ltH x out[p] = false) : insH x out = out.take at1 ++ x :: out.drop at1 := by
  refine (rises_insH h hx).unique ?_ fun z => ?_
  · have h0 := h
    rw [← List.take_append_drop at1 out] at h0
    unfold Rises at h0 ⊢
    rw [List.pairwise_append] at h0 ⊢
    refine ⟨h0.1, List.pairwise_cons.2 ⟨h1, h0.2.1⟩, fun y hy z hz => ?_⟩
    have hyx : ltH y x = true := by
      obtain ⟨j, hj, rfl⟩ := List.getElem_of_mem hy
      rw [List.length_take] at hj
      rw [List.getElem_take]
      have hp : at1 - 1 < out.length := by omega
      have h3 := h2 (at1 - 1) hp (by omega)
      have hne : out[at1 - 1] ≠ x := fun e => hx (by rw [← e]; exact List.getElem_mem hp)
      have h4 : ltH out[at1 - 1] x = true := (ltH_tot hne).resolve_right (by rw [h3]; decide)
      by_cases hj2 : j = at1 - 1
      · subst hj2; exact h4
      · exact ltH_trans (List.pairwise_iff_getElem.1 h j (at1 - 1) (by omega) hp (by omega)) h4
    rcases List.mem_cons.1 hz with rfl | hz
    · exact hyx
    · exact ltH_trans hyx (h1 z hz)
  · rw [mem_insH, List.mem_append, List.mem_cons]
    have := List.take_append_drop at1 out
    constructor
    · rintro (rfl | h5)
      · exact .inr (.inl rfl)
      · rw [← this, List.mem_append] at h5
        exact h5.imp id .inr
    · rintro (h5 | h5 | h5)
      · exact .inr (List.mem_of_mem_take h5)
      · exact .inl h5
      · exact .inr (List.mem_of_mem_drop h5)
theorem hsC_take (l : List Hh) (k : Nat) (hk : k ≤ l.length) : hsC (l.take k) = (hsC l).take (k * 32) := by
  have h := hsC_append (l.take k) (l.drop k)
  rw [List.take_append_drop] at h
  rw [h, List.take_left' (by rw [hsC_len, List.length_take]; omega)]
theorem hsC_drop (l : List Hh) (k : Nat) (hk : k ≤ l.length) : hsC (l.drop k) = (hsC l).drop (k * 32) := by
  have h := hsC_append (l.take k) (l.drop k)
  rw [List.take_append_drop] at h
  rw [h, List.drop_left' (by rw [hsC_len, List.length_take]; omega)]
theorem low_sliceH {w : World} {B : Nat} {A : Option Addr} {l : List Hh} {c : Nat} (h : SeesV w B A (hsC l)) (hc : l.length ≤ c) (hm : c ≤ maxLen) (k : Nat) (hk : k ≤ l.length) :
    ∃ A1, SeesV w B A1 (hsC (l.take k)) ∧ ∀ wq, (Instr.slice 33 (.slice A l.length c) none (some (.int .i64 (k : Int))) none).run Tryz.prog wq = .ok (.slice A1 k c) wq := by
  obtain ⟨i0, hi, _, hz1, _⟩ := info_parts Tryz.dinfoH
  unfold maxLen at hm
  refine ⟨if c = 0 then A else A.map (·.add (0 * 32)), ?_, fun wq => ?_⟩
  · rw [hsC_take l k hk]
    split
    · exact h.take _
    · have := (h.drop 0).take (k * 32)
      simpa using this
  · simp [Instr.slice, run_underlying Tryz.underlying33, Instr.sliceBounds, run_sliceBound wq .i64 (k : Int) c _ (by omega) (by omega), sizeOf, typeInfo, hi, hz1]
theorem high_sliceH {w : World} {B : Nat} {A : Option Addr} {l : List Hh} {c : Nat} (h : SeesV w B A (hsC l)) (hc : l.length ≤ c) (hm : c ≤ maxLen) (k : Nat) (hk : k ≤ l.length) :
    ∃ A1, SeesV w B A1 (hsC (l.drop k)) ∧ ∀ wq, (Instr.slice 33 (.slice A l.length c) (some (.int .i64 (k : Int))) none none).run Tryz.prog wq = .ok (.slice A1 (l.length - k) (c - k)) wq := by
  obtain ⟨i0, hi, _, hz1, _⟩ := info_parts Tryz.dinfoH
  unfold maxLen at hm
  refine ⟨if c = k then A else A.map (·.add (k * 32)), ?_, fun wq => ?_⟩
  · rw [hsC_drop l k hk]
    split
    · next he => exact .inl (List.drop_eq_nil_of_le (by rw [hsC_len]; omega))
    · have := h.drop (k * 32)
      simpa using this
  · simp [Instr.slice, run_underlying Tryz.underlying33, Instr.sliceBounds, run_sliceBound wq .i64 (k : Int) l.length _ (by omega) (by omega), sizeOf, typeInfo, hi, hz1]
theorem own_capH {w : World} {base n c : Nat} {A : Option Addr} {xs : List Value} (h : w.ownsRow base 23 32 (.slice A n c) n xs) : n ≤ c ∧ c ≤ maxLen := by
  rcases h.2 with ⟨hv, h0⟩ | ⟨g, cap, cs, hv, hb, hh, hnc, hcm, hcs, ht⟩
  · injection hv with _ _ hc
    subst hc h0
    exact ⟨Nat.le_refl _, Nat.zero_le _⟩
  · injection hv with _ _ hc
    subst hc
    exact ⟨hnc, hcm⟩
theorem risH_snoc (l : List Hh) (x : Hh) : risH (l ++ [x]) = risStep (risH l) x := by unfold risH; rw [List.foldl_append]; rfl
set_option maxRecDepth 100000 in
set_option maxHeartbeats 4000000 in
theorem rsorted_any (w : World) (A : Option Addr) (l : List Hh) (c : Nat) (hS : SeesV w w.heap.size A (hsC l)) (hmax : l.length ≤ 1000000) :
    Calls Tryz.prog 41 #[.slice A l.length c] w (SortPost w l) := by
  unfold SortPost
  have HS := Lib.hid hS
  have HM := Lib.hid hmax
  clear hS hmax
  obtain ⟨i0, hi0, hz0, hs0, hy0⟩ := info_parts Tryz.dinfoH
  go_enter Tryz.func41, Tryz.ntmps41
  go_wp2
  go_loopw [3, 4] (fun ov iv wr => ∃ (k : Nat) (A1 : Option Addr) (c1 : Nat), k ≤ l.length ∧ iv = .int .i64 k ∧ ov = .slice A1 (risH (l.take k)).length c1 ∧ Hid (wr.ownsRow w.heap.size 23 32 (.slice A1 (risH (l.take k)).length c1) (risH (l.take k)).length (hsC (risH (l.take k)))) ∧ Hid (Below w.heap.size w wr)) (fun _ iv _ => l.length - (intOf iv).toNat)
  case atStart => exact ⟨0, none, 0, by omega, rfl, rfl, ⟨by simp [risH, hsC], .inl ⟨rfl, rfl⟩⟩, nxRefl w⟩
  case round =>
    obtain ⟨k, A1, c3', hk, rfl, rfl, HO, HV⟩ := hrel
    by_cases hlt : k < l.length
    · obtain ⟨b1, f1, rfl, hb1, hr1⟩ := sees_hash HS.out hlt
      have hn2 : risH (l.take (k + 1)) = risStep (risH (l.take k)) l[k] := by rw [List.take_succ_eq_append_getElem hlt, risH_snoc]
      have hrl : wr.rangeAt b1 (f1 + k * 32) (hC l[k]) := rngK (hr1 k hlt) HV.out hb1
      have hle : (risH (l.take k)).length ≤ l.length := Nat.le_trans (risH_le _) (by rw [List.length_take]; omega)
      have hri := risH_rises (l.take k)
      obtain ⟨x, hx⟩ : ∃ x, l[k] = x := ⟨_, rfl⟩
      rw [hx] at hn2 hrl
      clear hr1 hx
      obtain ⟨out, ho⟩ : ∃ o, risH (l.take k) = o := ⟨_, rfl⟩
      rw [ho] at hn2 hle hri HO ⊢
      have hmx := HM.out
      have hmo : out.length ≤ 1000000 := by omega
      have HMo := Lib.hid hmo
      have HRi := Lib.hid hri
      have HRl0 := Lib.hid hrl
      have HL0 : Hid (b1 < w.heap.size) := hb1
      have hso : SeesV wr wr.heap.size A1 (hsC out) := SeesV.own HO.out
      have hcp := own_capH HO.out
      have HSo := Lib.hid hso
      have HCp := Lib.hid hcp
      have hin : (k : Int) < (l.length : Int) := by omega
      by_cases hxo : x ∈ out
      · have HD : Hid (decide (x ∈ out) = true) := decide_eq_true hxo
        have HRs : Hid (risH (l.take (k + 1)) = out) := by show _ = _; rw [hn2, risStep, if_pos hxo]
        clear hn2 ho hxo hso hcp hri hrl hb1
        go_wp2_with (first
          | ((with_reducible show wpList _ _ _ (⟨some 17, _, _, _, _, _⟩ :: _) _ _); refine wpList_load_mid rfl 23 (.tmp 16) rfl b1 (f1 + k * 32) rfl (hC x) _ HRl0.out Tryz.underlying23 rfl (hszL x) ?_)
          | (go_at_call 34; refine (rin_any wr A1 out c3' x HSo.out HMo.out).mono ?_; rw [HD.out]; rintro e w4 ⟨rfl, hb4⟩; have HO4 := Lib.hid (own_below HO.out hb4 (fun g hg => (own_lt HO.out g hg).2)); have HV4 : Hid (Below w.heap.size w w4) := HV.out.trans (hb4.mono HV.out.size); clear hb4))
        go_roundw
        case rel =>
          refine ⟨k + 1, A1, c3', by omega, by go_num, ?_, ?_, HV4.out⟩
          · rw [HRs.out]
          · show World.ownsRow _ _ _ _ _ _ _
            rw [HRs.out]
            exact HO4.out
        case measure => simp [intOf] <;> omega
      · have HD : Hid (decide (x ∈ out) = false) := decide_eq_false hxo
        have HNo : Hid (x ∉ out) := hxo
        have HRs : Hid (risH (l.take (k + 1)) = insH x out) := by show _ = _; rw [hn2, risStep, if_neg hxo]
        clear hn2 ho hxo hso hcp hri hrl hb1
        go_wp2_with (first
          | ((with_reducible show wpList _ _ _ (⟨some 17, _, _, _, _, _⟩ :: _) _ _); refine wpList_load_mid rfl 23 (.tmp 16) rfl b1 (f1 + k * 32) rfl (hC x) _ HRl0.out Tryz.underlying23 rfl (hszL x) ?_)
          | (go_at_call 34; refine (rin_any wr A1 out c3' x HSo.out HMo.out).mono ?_; rw [HD.out]; rintro e w4 ⟨rfl, hb4⟩; have HSo4 : Hid (SeesV w4 w4.heap.size A1 (hsC out)) := (HSo.out.below hb4).more hb4.size; have HV4 : Hid (Below w.heap.size w w4) := HV.out.trans (hb4.mono HV.out.size); have HRl : Hid (w4.rangeAt b1 (f1 + k * 32) (hC x)) := rngK HRl0.out hb4 (Nat.lt_of_lt_of_le HL0.out HV.out.size); have HL1 : Hid (b1 < w4.heap.size) := Nat.lt_of_lt_of_le HL0.out HV4.out.size; clear hb4))
        go_loopw [5] (fun av W2 => ∃ at1 : Nat, at1 ≤ out.length ∧ av = .int .i64 at1 ∧ Hid (∀ y ∈ out.drop at1, ltH x y = true) ∧ Hid (Below w4.heap.size w4 W2)) (fun av _ => (intOf av).toNat)
        case atStart => exact ⟨out.length, by omega, rfl, by show ∀ y ∈ _, _; simp, nxRefl w4⟩
        case round =>
          obtain ⟨at1, hat, rfl, HG, HK⟩ := hrel
          have hso2 : SeesV wr wr.heap.size A1 (hsC out) := (HSo4.out.below HK.out).more HK.out.size
          have HSw := Lib.hid hso2
          have hmo3 := HMo.out
          by_cases h0 : at1 = 0
          · have hd0 : decide (0 < at1) = false := by rw [h0]; rfl
            have hx2 : ∀ p (hp : p < out.length), at1 = p + 1 → ltH x out[p] = false := fun p _ e => by omega
            have HX2' := Lib.hid hx2
            clear h0 hx2 hso2
            go_wp2
            go_quiet (fail)
            have K3 : Hid (Below w4.heap.size w4 (wr.drewN nq)) := HK.out.trans ((⟨rfl, rfl, rfl, Nat.le_refl _, fun _ _ => rfl⟩ : Below wr.heap.size wr (wr.drewN nq)).mono HK.out.size)
            have HSo2 : Hid (SeesV (wr.drewN nq) (wr.drewN nq).heap.size A1 (hsC out)) := HSw.out
            generalize wr.drewN nq = W3 at *
            have HX2 := HX2'.out
            have HL3 : Hid (b1 < W3.heap.size) := Nat.lt_of_lt_of_le HL1.out K3.out.size
            clear HX2' HSw HK hd0

            have HI : Hid (insH x out = out.take at1 ++ x :: out.drop at1) := ins_split HRi.out HNo.out hat HG.out HX2
            obtain ⟨A3, hs3, q3⟩ := low_sliceH HSo2.out HCp.out.1 HCp.out.2 at1 hat
            obtain ⟨A4, hs4, q4⟩ := high_sliceH HSo2.out HCp.out.1 HCp.out.2 at1 hat
            have HS3 := Lib.hid hs3
            have HS4 := Lib.hid hs4
            have htl : (out.take at1).length = at1 := by rw [List.length_take]; omega
            have hdl : (out.drop at1).length = out.length - at1 := List.length_drop
            have HTl := Lib.hid htl
            have HDl := Lib.hid hdl
            have HRx : Hid (W3.rangeAt b1 (f1 + k * 32) (hC x)) := rngK HRl.out K3.out HL1.out
            have N0 : Hid (W3.ownsRow W3.heap.size 23 32 (.slice none 0 0) 0 []) := ⟨by simp, .inl ⟨rfl, rfl⟩⟩
            have V3 : Hid (Below w.heap.size w W3) := HV4.out.trans (K3.out.mono HV4.out.size)
            have hmx2 := HMo.out
            have hat2 := hat
            clear hs3 hs4 htl hdl HX2
            go_wp2_with (first
              | ((with_reducible show wpList _ _ _ (⟨some 42, _, _, _, _, _⟩ :: _) _ _); refine wpList_append_seesV rfl (.tmp 38) (.tmp 41) 33 rfl W3.heap.size 23 i0 _ 32 32 Tryz.underlying33 hi0 hz0 hs0 hy0 rfl (by decide) (.slice none 0 0) 0 [] rfl N0.out W3.heap.size A3 at1 c3' (hsC (out.take at1)) rfl (by rw [hsC_len, HTl.out]) HS3.out (hsC_one _) (by omega) (by omega) (by omega) ?_; intro v9 w9 ho9 hg9 hat9; obtain ⟨A9, c9, rfl⟩ := own_form ho9; rw [Nat.zero_add, List.nil_append] at ho9; rw [Nat.zero_add]; have O9 := Lib.hid ho9; have K9 : Hid (Below W3.heap.size W3 w9) := (nxRefl W3).grown hg9 (Nat.le_refl _) (fun j hj => by cases hj); clear ho9 hg9 hat9)
              | ((with_reducible show wpList _ _ _ (⟨some 47, _, _, _, _, _⟩ :: _) _ _); refine wpList_load_mid rfl 23 (.tmp 46) rfl b1 (f1 + k * 32) rfl (hC x) _ (rngK HRx.out K9.out HL3.out) Tryz.underlying23 rfl (hszL x) ?_)
              | ((with_reducible show wpList _ _ _ (⟨some 48, _, _, _, _, _⟩ :: _) _ _); refine wpList_build1 rfl 33 23 (.tmp 47) rfl (hC x) _ 32 32 Tryz.underlying33 Tryz.dinfoH (by decide) (by decide) (hC_len x) rfl ?_)
              | ((with_reducible show wpList _ _ _ (⟨some 49, _, _, _, _, _⟩ :: _) _ _); refine wpList_append_seesV rfl (.tmp 43) (.tmp 48) 33 rfl W3.heap.size 23 i0 _ 32 32 Tryz.underlying33 hi0 hz0 hs0 hy0 rfl (by decide) (.slice A9 at1 c9) at1 (hsC (out.take at1)) rfl (O9.out.alloc _) _ (some ⟨w9.heap.size, 0, none⟩) 1 1 (hC x) rfl (by rw [hC_len]) (SeesV.blk (heap_alloc_new w9 _)) (hC_one x) (by omega) (by omega) (by have h1 := K9.out.size; simp; omega) ?_; intro v10 w10 ho10 hg10 hat10; obtain ⟨A10, c10, rfl⟩ := own_form ho10; have O10 := Lib.hid ho10; have K10 : Hid (Below W3.heap.size W3 w10) := (nxAlloc K9.out _).grown hg10 (nxAlloc K9.out _).size (fun j hj => (own_lt O9.out j hj).1); clear ho10 hg10 hat10)
              | ((with_reducible show wpList _ _ _ (⟨some 54, _, _, _, _, _⟩ :: _) _ _); refine wpList_append_seesV rfl (.tmp 50) (.tmp 53) 33 rfl W3.heap.size 23 i0 _ 32 32 Tryz.underlying33 hi0 hz0 hs0 hy0 rfl (by decide) (.slice A10 (at1 + 1) c10) (at1 + 1) (hsC (out.take at1) ++ hC x) rfl O10.out W3.heap.size A4 (out.length - at1) (c3' - at1) (hsC (out.drop at1)) rfl (by rw [hsC_len, HDl.out]) (HS4.out.below K10.out) (hsC_one _) (by omega) (by omega) K10.out.size ?_; intro v11 w11 ho11 hg11 hat11; obtain ⟨A11, c11, rfl⟩ := own_form ho11; have O11 := Lib.hid ho11; have K11 : Hid (Below W3.heap.size W3 w11) := K10.out.grown hg11 K10.out.size (fun j hj => (own_lt O10.out j hj).1); clear ho11 hg11 hat11))
            go_roundw
            case rel =>
              have e1 : at1 + 1 + (out.length - at1) = (insH x out).length := by rw [length_insH]; omega
              have e2 : hsC (out.take at1) ++ hC x ++ hsC (out.drop at1) = hsC (insH x out) := by rw [HI.out, hsC_append]; simp [hsC]
              have h9 := own_base O11.out V3.out.size
              rw [e2, e1] at h9
              refine ⟨k + 1, A11, c11, by omega, by go_num, ?_, ?_, V3.out.trans (K11.out.mono V3.out.size)⟩
              · rw [HRs.out, ← e1]
              · show World.ownsRow _ _ _ _ _ _ _
                rw [HRs.out]
                exact h9
            case measure => simp [intOf] <;> omega

          · obtain ⟨p, hp⟩ : ∃ p, at1 = p + 1 := ⟨at1 - 1, by omega⟩
            have hpl : p < out.length := by omega
            obtain ⟨b2, f2, rfl, hb2, hr2⟩ := sees_hash hso2 hpl
            have r2 : wr.drew.rangeAt b2 (f2 + p * 32) (hC out[p]) := hr2 p hpl
            have r1 : wr.drew.rangeAt b1 (f1 + k * 32) (hC x) := rngK HRl.out (HK.out.trans ((nxDr (nxRefl _) : Below wr.heap.size wr wr.drew).mono HK.out.size)) HL1.out
            have HLw : Hid (b1 < wr.heap.size) := Nat.lt_of_lt_of_le HL1.out HK.out.size
            have HL2 : Hid (b2 < wr.heap.size) := hb2
            have KD : Hid (Below wr.heap.size wr wr.drew) := nxDr (nxRefl _)
            have hdr : out.drop p = out[p] :: out.drop at1 := by rw [hp]; exact List.drop_eq_getElem_cons hpl
            have hx2 : ltH x out[p] = false → ∀ q (hq : q < out.length), at1 = q + 1 → ltH x out[q] = false := fun h q hq e => by
              have : q = p := by omega
              subst this
              exact h
            obtain ⟨y, hy⟩ : ∃ y, out[p] = y := ⟨_, rfl⟩
            rw [hy] at r2 hdr hx2
            have HR1 := Lib.hid r1
            have HR2 := Lib.hid r2
            have HDr := Lib.hid hdr
            have HX2' := Lib.hid hx2
            have hgt : 0 < at1 := by omega
            have hip : (p : Int) < (out.length : Int) := by omega
            have hwr : IntKind.i64.wrap ((at1 : Int) - 1) = (p : Int) := by rw [show (at1 : Int) - 1 = (p : Int) by omega]; exact IntWalk.i64_in _ (by omega)
            obtain ⟨v, hv⟩ : ∃ v, cmpH x y = v := ⟨_, rfl⟩
            have HVv := Lib.hid hv
            have hlz : ltH x y = decide (v < 0) := by rw [← hv]; rfl
            obtain ⟨z, hz⟩ : ∃ z, decide (v < 0) = z := ⟨_, rfl⟩
            have HZ : Hid (ltH x y = z) := hlz.trans hz
            have HHp := Lib.hid hp
            clear h0 hp r1 r2 hr2 hb2 hdr hx2 hy hv hlz hso2 hpl
            go_wp2
            refine wp_region_held_drew (S := fun W => W.rangeAt b1 (f1 + k * 32) (hC x) ∧ W.rangeAt b2 (f2 + p * 32) (hC y)) (by kernel_rfl) ⟨HR1.out, HR2.out⟩ (fun hHeld => ?_)
            cases z with
            | true =>
              refine wpAnyH_take (i := 0) (oi := ⟨_, _, _, _, _, _⟩) (v := ?_) rfl (by kernel_rfl) (by kernel_rfl) (by kernel_rfl) (fun _ _ _ h => h) (Or.inl ⟨by rfl, ?_⟩) (by assumption) ?_
              rotate_left 1
              · intro W hSw
                try dsimp only at hSw
                obtain ⟨hs1, hs2⟩ := hSw
                go_simp
                try with_reducible rfl
              try simp only [Act.put, List.setIfInBounds_toArray, List.set_cons_zero, List.set_cons_succ]
              refine wpAnyH_take (i := 1) (oi := ⟨_, _, _, _, _, _⟩) (v := ?_) rfl (by kernel_rfl) (by kernel_rfl) (by kernel_rfl) (fun _ _ _ h => h) (Or.inl ⟨by rfl, ?_⟩) (by assumption) ?_
              rotate_left 1
              · intro W hSw
                try dsimp only at hSw
                obtain ⟨hs1, hs2⟩ := hSw
                go_simp
                try with_reducible rfl
              try simp only [Act.put, List.setIfInBounds_toArray, List.set_cons_zero, List.set_cons_succ]
              refine wpAnyH_take (i := 2) (oi := ⟨_, _, _, _, _, _⟩) (v := ?_) rfl (by kernel_rfl) (by kernel_rfl) (by kernel_rfl) (fun _ _ _ h => h) (Or.inl ⟨by rfl, ?_⟩) (by assumption) ?_
              rotate_left 1
              · intro W hSw
                try dsimp only at hSw
                obtain ⟨hs1, hs2⟩ := hSw
                go_simp
                try with_reducible rfl
              try simp only [Act.put, List.setIfInBounds_toArray, List.set_cons_zero, List.set_cons_succ]
              refine wpAnyH_take (i := 3) (oi := ⟨_, _, _, _, _, _⟩) (v := ?_) rfl (by kernel_rfl) (by kernel_rfl) (by kernel_rfl) (fun _ _ _ h => h) (Or.inl ⟨by rfl, ?_⟩) (by assumption) ?_
              rotate_left 1
              · intro W hSw
                try dsimp only at hSw
                obtain ⟨hs1, hs2⟩ := hSw
                go_simp
                try with_reducible rfl
              try simp only [Act.put, List.setIfInBounds_toArray, List.set_cons_zero, List.set_cons_succ]
              refine wpAnyH_take (i := 4) (oi := ⟨_, _, _, _, _, _⟩) (v := ?_) rfl (by kernel_rfl) (by kernel_rfl) (by kernel_rfl) (fun _ _ _ h => h) (Or.inl ⟨by rfl, ?_⟩) (by assumption) ?_
              rotate_left 1
              · intro W hSw
                try dsimp only at hSw
                obtain ⟨hs1, hs2⟩ := hSw
                go_simp
                try with_reducible rfl
              try simp only [Act.put, List.setIfInBounds_toArray, List.set_cons_zero, List.set_cons_succ]
              refine wpAnyH_take (i := 5) (oi := ⟨_, _, _, _, _, _⟩) (v := ?_) rfl (by kernel_rfl) (by kernel_rfl) (by kernel_rfl) (fun _ _ _ h => h) (Or.inl ⟨by rfl, ?_⟩) (by assumption) ?_
              rotate_left 1
              · intro W hSw
                try dsimp only at hSw
                obtain ⟨hs1, hs2⟩ := hSw
                go_simp
                try with_reducible rfl
              try simp only [Act.put, List.setIfInBounds_toArray, List.set_cons_zero, List.set_cons_succ]
              refine wpAnyH_take (i := 6) (oi := ⟨_, _, _, _, _, _⟩) (v := .agg (hC x).toArray) rfl (by kernel_rfl) (by kernel_rfl) (by kernel_rfl) (fun _ _ _ h => h) (yieldsIf_load_mid (by rfl) 23 (.tmp 26) rfl b1 (f1 + k * 32) rfl (hC x) _ (fun W h => h.1) Tryz.underlying23 rfl (hszL x)) (by assumption) ?_
              try simp only [Act.put, List.setIfInBounds_toArray, List.set_cons_zero, List.set_cons_succ]
              refine wpAnyH_take (i := 7) (oi := ⟨_, _, _, _, _, _⟩) (v := ?_) rfl (by kernel_rfl) (by kernel_rfl) (by kernel_rfl) (fun _ _ _ h => h) (Or.inl ⟨by rfl, ?_⟩) (by assumption) ?_
              rotate_left 1
              · intro W hSw
                try dsimp only at hSw
                obtain ⟨hs1, hs2⟩ := hSw
                go_simp
                try with_reducible rfl
              try simp only [Act.put, List.setIfInBounds_toArray, List.set_cons_zero, List.set_cons_succ]
              refine wpAnyH_take (i := 8) (oi := ⟨_, _, _, _, _, _⟩) (v := ?_) rfl (by kernel_rfl) (by kernel_rfl) (by kernel_rfl) (fun _ _ _ h => h) (Or.inl ⟨by rfl, ?_⟩) (by assumption) ?_
              rotate_left 1
              · intro W hSw
                try dsimp only at hSw
                obtain ⟨hs1, hs2⟩ := hSw
                go_simp
                try with_reducible rfl
              try simp only [Act.put, List.setIfInBounds_toArray, List.set_cons_zero, List.set_cons_succ]
              refine wpAnyH_take (i := 9) (oi := ⟨_, _, _, _, _, _⟩) (v := ?_) rfl (by kernel_rfl) (by kernel_rfl) (by kernel_rfl) (fun _ _ _ h => h) (Or.inl ⟨by rfl, ?_⟩) (by assumption) ?_
              rotate_left 1
              · intro W hSw
                try dsimp only at hSw
                obtain ⟨hs1, hs2⟩ := hSw
                go_simp
                try with_reducible rfl
              try simp only [Act.put, List.setIfInBounds_toArray, List.set_cons_zero, List.set_cons_succ]
              refine wpAnyH_take (i := 10) (oi := ⟨_, _, _, _, _, _⟩) (v := ?_) rfl (by kernel_rfl) (by kernel_rfl) (by kernel_rfl) (fun _ _ _ h => h) (Or.inl ⟨by rfl, ?_⟩) (by assumption) ?_
              rotate_left 1
              · intro W hSw
                try dsimp only at hSw
                obtain ⟨hs1, hs2⟩ := hSw
                go_simp
                try with_reducible rfl
              try simp only [Act.put, List.setIfInBounds_toArray, List.set_cons_zero, List.set_cons_succ]
              refine wpAnyH_take (i := 11) (oi := ⟨_, _, _, _, _, _⟩) (v := .agg (hC y).toArray) rfl (by kernel_rfl) (by kernel_rfl) (by kernel_rfl) (fun _ _ _ h => h) (yieldsIf_load_mid (by rfl) 23 (.tmp 31) rfl b2 (f2 + p * 32) rfl (hC y) _ (fun W h => h.2) Tryz.underlying23 rfl (hszL y)) (by assumption) ?_
              try simp only [Act.put, List.setIfInBounds_toArray, List.set_cons_zero, List.set_cons_succ]
              refine wpAnyH_ready (rs := [12]) (by kernel_rfl) (by simp) ?_
              refine AllReadyH.cons rfl (fun K hK => ?_) AllReadyH.nil
              go_simp
              go_at_call 71
              refine (rcompare_any _ x y).mono ?_
              rw [HVv.out]
              rintro e w5 ⟨rfl, hb5⟩
              have K5 : Hid (Below wr.heap.size wr w5) := nxTo KD.out hb5
              have s5 := rngK HR1.out hb5 HLw.out
              have s6 := rngK HR2.out hb5 HL2.out
              have S5 := Lib.hid s5
              have S6 := Lib.hid s6
              clear hb5 s5 s6
              refine hK.out _ _ ⟨S5.out, S6.out⟩ (fun hSn => ?_)
              clear hK K
              try simp only [Act.put, List.setIfInBounds_toArray, List.set_cons_zero, List.set_cons_succ]
              refine wpAnyH_take (i := 13) (oi := ⟨_, _, _, _, _, _⟩) (v := ?_) rfl (by kernel_rfl) (by kernel_rfl) (by kernel_rfl) (fun _ _ _ h => h) (Or.inl ⟨by rfl, ?_⟩) (by assumption) ?_
              rotate_left 1
              · intro W hSw
                try dsimp only at hSw
                obtain ⟨hs1, hs2⟩ := hSw
                go_simp
                try with_reducible rfl
              try simp only [Act.put, List.setIfInBounds_toArray, List.set_cons_zero, List.set_cons_succ]
              refine wpAnyH_take (i := 14) (oi := ⟨_, _, _, _, _, _⟩) (v := ?_) rfl (by kernel_rfl) (by kernel_rfl) (by kernel_rfl) (fun _ _ _ h => h) (Or.inl ⟨by rfl, ?_⟩) (by assumption) ?_
              rotate_left 1
              · intro W hSw
                try dsimp only at hSw
                obtain ⟨hs1, hs2⟩ := hSw
                go_simp
                try with_reducible rfl
              try simp only [Act.put, List.setIfInBounds_toArray, List.set_cons_zero, List.set_cons_succ]
              refine wpAnyH_done (by kernel_rfl) ?_ _

              have HG2 : Hid (∀ y ∈ out.drop p, ltH x y = true) := fun q hq => by
                rw [HDr.out] at hq
                rcases List.mem_cons.1 hq with rfl | hq
                · exact HZ.out
                · exact HG.out q hq
              go_wp2
              go_roundw
              case rel => exact ⟨p, by have := HHp.out; omega, by go_num, HG2, HK.out.trans (K5.out.mono HK.out.size)⟩
              case measure =>
                have := HHp.out
                simp [intOf] <;> omega
            | false =>
              refine wpAnyH_take (i := 0) (oi := ⟨_, _, _, _, _, _⟩) (v := ?_) rfl (by kernel_rfl) (by kernel_rfl) (by kernel_rfl) (fun _ _ _ h => h) (Or.inl ⟨by rfl, ?_⟩) (by assumption) ?_
              rotate_left 1
              · intro W hSw
                try dsimp only at hSw
                obtain ⟨hs1, hs2⟩ := hSw
                go_simp
                try with_reducible rfl
              try simp only [Act.put, List.setIfInBounds_toArray, List.set_cons_zero, List.set_cons_succ]
              refine wpAnyH_take (i := 1) (oi := ⟨_, _, _, _, _, _⟩) (v := ?_) rfl (by kernel_rfl) (by kernel_rfl) (by kernel_rfl) (fun _ _ _ h => h) (Or.inl ⟨by rfl, ?_⟩) (by assumption) ?_
              rotate_left 1
              · intro W hSw
                try dsimp only at hSw
                obtain ⟨hs1, hs2⟩ := hSw
                go_simp
                try with_reducible rfl
              try simp only [Act.put, List.setIfInBounds_toArray, List.set_cons_zero, List.set_cons_succ]
              refine wpAnyH_take (i := 2) (oi := ⟨_, _, _, _, _, _⟩) (v := ?_) rfl (by kernel_rfl) (by kernel_rfl) (by kernel_rfl) (fun _ _ _ h => h) (Or.inl ⟨by rfl, ?_⟩) (by assumption) ?_
              rotate_left 1
              · intro W hSw
                try dsimp only at hSw
                obtain ⟨hs1, hs2⟩ := hSw
                go_simp
                try with_reducible rfl
              try simp only [Act.put, List.setIfInBounds_toArray, List.set_cons_zero, List.set_cons_succ]
              refine wpAnyH_take (i := 3) (oi := ⟨_, _, _, _, _, _⟩) (v := ?_) rfl (by kernel_rfl) (by kernel_rfl) (by kernel_rfl) (fun _ _ _ h => h) (Or.inl ⟨by rfl, ?_⟩) (by assumption) ?_
              rotate_left 1
              · intro W hSw
                try dsimp only at hSw
                obtain ⟨hs1, hs2⟩ := hSw
                go_simp
                try with_reducible rfl
              try simp only [Act.put, List.setIfInBounds_toArray, List.set_cons_zero, List.set_cons_succ]
              refine wpAnyH_take (i := 4) (oi := ⟨_, _, _, _, _, _⟩) (v := ?_) rfl (by kernel_rfl) (by kernel_rfl) (by kernel_rfl) (fun _ _ _ h => h) (Or.inl ⟨by rfl, ?_⟩) (by assumption) ?_
              rotate_left 1
              · intro W hSw
                try dsimp only at hSw
                obtain ⟨hs1, hs2⟩ := hSw
                go_simp
                try with_reducible rfl
              try simp only [Act.put, List.setIfInBounds_toArray, List.set_cons_zero, List.set_cons_succ]
              refine wpAnyH_take (i := 5) (oi := ⟨_, _, _, _, _, _⟩) (v := ?_) rfl (by kernel_rfl) (by kernel_rfl) (by kernel_rfl) (fun _ _ _ h => h) (Or.inl ⟨by rfl, ?_⟩) (by assumption) ?_
              rotate_left 1
              · intro W hSw
                try dsimp only at hSw
                obtain ⟨hs1, hs2⟩ := hSw
                go_simp
                try with_reducible rfl
              try simp only [Act.put, List.setIfInBounds_toArray, List.set_cons_zero, List.set_cons_succ]
              refine wpAnyH_take (i := 6) (oi := ⟨_, _, _, _, _, _⟩) (v := .agg (hC x).toArray) rfl (by kernel_rfl) (by kernel_rfl) (by kernel_rfl) (fun _ _ _ h => h) (yieldsIf_load_mid (by rfl) 23 (.tmp 26) rfl b1 (f1 + k * 32) rfl (hC x) _ (fun W h => h.1) Tryz.underlying23 rfl (hszL x)) (by assumption) ?_
              try simp only [Act.put, List.setIfInBounds_toArray, List.set_cons_zero, List.set_cons_succ]
              refine wpAnyH_take (i := 7) (oi := ⟨_, _, _, _, _, _⟩) (v := ?_) rfl (by kernel_rfl) (by kernel_rfl) (by kernel_rfl) (fun _ _ _ h => h) (Or.inl ⟨by rfl, ?_⟩) (by assumption) ?_
              rotate_left 1
              · intro W hSw
                try dsimp only at hSw
                obtain ⟨hs1, hs2⟩ := hSw
                go_simp
                try with_reducible rfl
              try simp only [Act.put, List.setIfInBounds_toArray, List.set_cons_zero, List.set_cons_succ]
              refine wpAnyH_take (i := 8) (oi := ⟨_, _, _, _, _, _⟩) (v := ?_) rfl (by kernel_rfl) (by kernel_rfl) (by kernel_rfl) (fun _ _ _ h => h) (Or.inl ⟨by rfl, ?_⟩) (by assumption) ?_
              rotate_left 1
              · intro W hSw
                try dsimp only at hSw
                obtain ⟨hs1, hs2⟩ := hSw
                go_simp
                try with_reducible rfl
              try simp only [Act.put, List.setIfInBounds_toArray, List.set_cons_zero, List.set_cons_succ]
              refine wpAnyH_take (i := 9) (oi := ⟨_, _, _, _, _, _⟩) (v := ?_) rfl (by kernel_rfl) (by kernel_rfl) (by kernel_rfl) (fun _ _ _ h => h) (Or.inl ⟨by rfl, ?_⟩) (by assumption) ?_
              rotate_left 1
              · intro W hSw
                try dsimp only at hSw
                obtain ⟨hs1, hs2⟩ := hSw
                go_simp
                try with_reducible rfl
              try simp only [Act.put, List.setIfInBounds_toArray, List.set_cons_zero, List.set_cons_succ]
              refine wpAnyH_take (i := 10) (oi := ⟨_, _, _, _, _, _⟩) (v := ?_) rfl (by kernel_rfl) (by kernel_rfl) (by kernel_rfl) (fun _ _ _ h => h) (Or.inl ⟨by rfl, ?_⟩) (by assumption) ?_
              rotate_left 1
              · intro W hSw
                try dsimp only at hSw
                obtain ⟨hs1, hs2⟩ := hSw
                go_simp
                try with_reducible rfl
              try simp only [Act.put, List.setIfInBounds_toArray, List.set_cons_zero, List.set_cons_succ]
              refine wpAnyH_take (i := 11) (oi := ⟨_, _, _, _, _, _⟩) (v := .agg (hC y).toArray) rfl (by kernel_rfl) (by kernel_rfl) (by kernel_rfl) (fun _ _ _ h => h) (yieldsIf_load_mid (by rfl) 23 (.tmp 31) rfl b2 (f2 + p * 32) rfl (hC y) _ (fun W h => h.2) Tryz.underlying23 rfl (hszL y)) (by assumption) ?_
              try simp only [Act.put, List.setIfInBounds_toArray, List.set_cons_zero, List.set_cons_succ]
              refine wpAnyH_ready (rs := [12]) (by kernel_rfl) (by simp) ?_
              refine AllReadyH.cons rfl (fun K hK => ?_) AllReadyH.nil
              go_simp
              go_at_call 71
              refine (rcompare_any _ x y).mono ?_
              rw [HVv.out]
              rintro e w5 ⟨rfl, hb5⟩
              have K5 : Hid (Below wr.heap.size wr w5) := nxTo KD.out hb5
              have s5 := rngK HR1.out hb5 HLw.out
              have s6 := rngK HR2.out hb5 HL2.out
              have S5 := Lib.hid s5
              have S6 := Lib.hid s6
              clear hb5 s5 s6
              refine hK.out _ _ ⟨S5.out, S6.out⟩ (fun hSn => ?_)
              clear hK K
              try simp only [Act.put, List.setIfInBounds_toArray, List.set_cons_zero, List.set_cons_succ]
              refine wpAnyH_take (i := 13) (oi := ⟨_, _, _, _, _, _⟩) (v := ?_) rfl (by kernel_rfl) (by kernel_rfl) (by kernel_rfl) (fun _ _ _ h => h) (Or.inl ⟨by rfl, ?_⟩) (by assumption) ?_
              rotate_left 1
              · intro W hSw
                try dsimp only at hSw
                obtain ⟨hs1, hs2⟩ := hSw
                go_simp
                try with_reducible rfl
              try simp only [Act.put, List.setIfInBounds_toArray, List.set_cons_zero, List.set_cons_succ]
              refine wpAnyH_take (i := 14) (oi := ⟨_, _, _, _, _, _⟩) (v := ?_) rfl (by kernel_rfl) (by kernel_rfl) (by kernel_rfl) (fun _ _ _ h => h) (Or.inl ⟨by rfl, ?_⟩) (by assumption) ?_
              rotate_left 1
              · intro W hSw
                try dsimp only at hSw
                obtain ⟨hs1, hs2⟩ := hSw
                go_simp
                try with_reducible rfl
              try simp only [Act.put, List.setIfInBounds_toArray, List.set_cons_zero, List.set_cons_succ]
              refine wpAnyH_done (by kernel_rfl) ?_ _

              have HX2 := HX2'.out HZ.out
              have K3 : Hid (Below w4.heap.size w4 w5) := HK.out.trans (K5.out.mono HK.out.size)
              have HSo2 : Hid (SeesV w5 w5.heap.size (some ⟨b2, f2, none⟩) (hsC out)) := (HSo4.out.below K3.out).more K3.out.size
              have HL3 : Hid (b1 < w5.heap.size) := Nat.lt_of_lt_of_le HL1.out K3.out.size
              clear HX2' HSw HK hz hwr hip hgt
              generalize w5 = W3 at *

              have HI : Hid (insH x out = out.take at1 ++ x :: out.drop at1) := ins_split HRi.out HNo.out hat HG.out HX2
              obtain ⟨A3, hs3, q3⟩ := low_sliceH HSo2.out HCp.out.1 HCp.out.2 at1 hat
              obtain ⟨A4, hs4, q4⟩ := high_sliceH HSo2.out HCp.out.1 HCp.out.2 at1 hat
              have HS3 := Lib.hid hs3
              have HS4 := Lib.hid hs4
              have htl : (out.take at1).length = at1 := by rw [List.length_take]; omega
              have hdl : (out.drop at1).length = out.length - at1 := List.length_drop
              have HTl := Lib.hid htl
              have HDl := Lib.hid hdl
              have HRx : Hid (W3.rangeAt b1 (f1 + k * 32) (hC x)) := rngK HRl.out K3.out HL1.out
              have N0 : Hid (W3.ownsRow W3.heap.size 23 32 (.slice none 0 0) 0 []) := ⟨by simp, .inl ⟨rfl, rfl⟩⟩
              have V3 : Hid (Below w.heap.size w W3) := HV4.out.trans (K3.out.mono HV4.out.size)
              have hmx2 := HMo.out
              have hat2 := hat
              clear hs3 hs4 htl hdl HX2
              go_wp2_with (first
                | ((with_reducible show wpList _ _ _ (⟨some 42, _, _, _, _, _⟩ :: _) _ _); refine wpList_append_seesV rfl (.tmp 38) (.tmp 41) 33 rfl W3.heap.size 23 i0 _ 32 32 Tryz.underlying33 hi0 hz0 hs0 hy0 rfl (by decide) (.slice none 0 0) 0 [] rfl N0.out W3.heap.size A3 at1 c3' (hsC (out.take at1)) rfl (by rw [hsC_len, HTl.out]) HS3.out (hsC_one _) (by omega) (by omega) (by omega) ?_; intro v9 w9 ho9 hg9 hat9; obtain ⟨A9, c9, rfl⟩ := own_form ho9; rw [Nat.zero_add, List.nil_append] at ho9; rw [Nat.zero_add]; have O9 := Lib.hid ho9; have K9 : Hid (Below W3.heap.size W3 w9) := (nxRefl W3).grown hg9 (Nat.le_refl _) (fun j hj => by cases hj); clear ho9 hg9 hat9)
                | ((with_reducible show wpList _ _ _ (⟨some 47, _, _, _, _, _⟩ :: _) _ _); refine wpList_load_mid rfl 23 (.tmp 46) rfl b1 (f1 + k * 32) rfl (hC x) _ (rngK HRx.out K9.out HL3.out) Tryz.underlying23 rfl (hszL x) ?_)
                | ((with_reducible show wpList _ _ _ (⟨some 48, _, _, _, _, _⟩ :: _) _ _); refine wpList_build1 rfl 33 23 (.tmp 47) rfl (hC x) _ 32 32 Tryz.underlying33 Tryz.dinfoH (by decide) (by decide) (hC_len x) rfl ?_)
                | ((with_reducible show wpList _ _ _ (⟨some 49, _, _, _, _, _⟩ :: _) _ _); refine wpList_append_seesV rfl (.tmp 43) (.tmp 48) 33 rfl W3.heap.size 23 i0 _ 32 32 Tryz.underlying33 hi0 hz0 hs0 hy0 rfl (by decide) (.slice A9 at1 c9) at1 (hsC (out.take at1)) rfl (O9.out.alloc _) _ (some ⟨w9.heap.size, 0, none⟩) 1 1 (hC x) rfl (by rw [hC_len]) (SeesV.blk (heap_alloc_new w9 _)) (hC_one x) (by omega) (by omega) (by have h1 := K9.out.size; simp; omega) ?_; intro v10 w10 ho10 hg10 hat10; obtain ⟨A10, c10, rfl⟩ := own_form ho10; have O10 := Lib.hid ho10; have K10 : Hid (Below W3.heap.size W3 w10) := (nxAlloc K9.out _).grown hg10 (nxAlloc K9.out _).size (fun j hj => (own_lt O9.out j hj).1); clear ho10 hg10 hat10)
                | ((with_reducible show wpList _ _ _ (⟨some 54, _, _, _, _, _⟩ :: _) _ _); refine wpList_append_seesV rfl (.tmp 50) (.tmp 53) 33 rfl W3.heap.size 23 i0 _ 32 32 Tryz.underlying33 hi0 hz0 hs0 hy0 rfl (by decide) (.slice A10 (at1 + 1) c10) (at1 + 1) (hsC (out.take at1) ++ hC x) rfl O10.out W3.heap.size A4 (out.length - at1) (c3' - at1) (hsC (out.drop at1)) rfl (by rw [hsC_len, HDl.out]) (HS4.out.below K10.out) (hsC_one _) (by omega) (by omega) K10.out.size ?_; intro v11 w11 ho11 hg11 hat11; obtain ⟨A11, c11, rfl⟩ := own_form ho11; have O11 := Lib.hid ho11; have K11 : Hid (Below W3.heap.size W3 w11) := K10.out.grown hg11 K10.out.size (fun j hj => (own_lt O10.out j hj).1); clear ho11 hg11 hat11))
              go_roundw
              case rel =>
                have e1 : at1 + 1 + (out.length - at1) = (insH x out).length := by rw [length_insH]; omega
                have e2 : hsC (out.take at1) ++ hC x ++ hsC (out.drop at1) = hsC (insH x out) := by rw [HI.out, hsC_append]; simp [hsC]
                have h9 := own_base O11.out V3.out.size
                rw [e2, e1] at h9
                refine ⟨k + 1, A11, c11, by omega, by go_num, ?_, ?_, V3.out.trans (K11.out.mono V3.out.size)⟩
                · rw [HRs.out, ← e1]
                · show World.ownsRow _ _ _ _ _ _ _
                  rw [HRs.out]
                  exact h9
              case measure => simp [intOf] <;> omega

    · obtain rfl : k = l.length := by omega
      rw [List.take_length] at HO
      rw [List.take_length]
      go_wp2
      go_ret
      exact ⟨A1, c3', rfl, HO.out, HV.out⟩
end Go.Proofs.YtbfpckomgpkjgaaGreat
