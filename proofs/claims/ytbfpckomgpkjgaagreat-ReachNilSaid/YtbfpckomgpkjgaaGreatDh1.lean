/-
  dag: the document's Past.
-/
import Derived.Test.YtbfpckomgpkjgaaGreatPRnQ16
namespace Go.Proofs.YtbfpckomgpkjgaaGreat
open Go.RowKit

/-- One of two rows that lie apart has grown. -/
theorem rows_next {w w' : World} {base n1 n2 c1 c2 : Nat} {e : TypeId} {s : Nat} {A1 A2 : Option Addr} {xs1 xs2 : List Value} {A n c : _} (h1 : w.ownsRow base e s (.slice A1 n1 c1) n1 xs1) (h2 : w.ownsRow base e s (.slice A2 n2 c2) n2 xs2) (hd : ∀ k, A1.map Addr.block = some k → A2.map Addr.block ≠ some k)
    (hg : w.grownBy w' (Value.slice A1 n1 c1).ownBlock) (ha : (Value.slice A n c).ownBlock = (Value.slice A1 n1 c1).ownBlock ∨ (Value.slice A n c).ownBlock = some w.heap.size) : w'.ownsRow base e s (.slice A2 n2 c2) n2 xs2 ∧ ∀ k, A.map Addr.block = some k → A2.map Addr.block ≠ some k := by
  have hk : Keeps (fun k => A1.map Addr.block = some k) w w' := (Keeps.refl _ w).grown hg (fun k e => own_ob e)
  refine ⟨hk.own h2 (fun k e e2 => hd k e2 e), fun k e e2 => ?_⟩
  rw [own_map, own_map] at ha
  rcases ha with h | h
  · rw [h] at e; exact hd k e e2
  · rw [h] at e
    cases e
    obtain ⟨_, cur, hb⟩ := own_blk h2 e2
    exact Nat.lt_irrefl _ hb.lt
set_option maxRecDepth 100000 in
set_option maxHeartbeats 8000000 in
theorem rpast_any (w : World) (base : Nat) (r : RGm) (G : Gr) (h : RGOk w base r) (hr : RelG r.l G) (o : OkG G) (A : Option Addr) (ids : List Hh) (c : Nat) (hS : SeesV w w.heap.size A (hsC ids)) (hm : ids.length ≤ 1000) (hg : G.length ≤ 1000) :
    Calls Tryz.prog 32 #[.pointer (some ⟨r.q, 0, none⟩), .slice A ids.length c] w (ListPost w (pastG G ids)) := by
  unfold ListPost
  have HH := Lib.hid h
  have HRel := Lib.hid hr
  have HO := Lib.hid o
  have HS := Lib.hid hS
  have HG := Lib.hid hg
  have hrl := hr.len
  have HRl := Lib.hid hrl
  have HAt : Hid (∀ W, Below w.heap.size w W → ∀ x, Calls Tryz.prog 13 #[.pointer (some ⟨r.q, 0, none⟩), .agg (hC x).toArray] W fun e w' => e = .returned (.int .i64 (match placeG G x with | some n => (n : Int) | none => -1)) ∧ Below W.heap.size W w') := fun W hW x => by
    have := rat_any W base r x (h.later hW)
    rw [hr.place x] at this
    exact this
  obtain ⟨i0, hi0, hz0, hs0, hy0⟩ := info_parts Tryz.dinfoH
  have N0 : Hid (w.ownsRow w.heap.size 23 32 (.slice none 0 0) 0 []) := (⟨by simp, .inl ⟨rfl, rfl⟩⟩ : w.ownsRow w.heap.size 23 32 (.slice none 0 0) 0 [])
  clear h hr o hS hg hrl
  go_enter Tryz.func32, Tryz.ntmps32
  go_wp2_with (first
    | ((with_reducible show wpList _ _ _ (⟨some 12, _, _, _, _, _⟩ :: _) _ _); refine wpList_append_seesV rfl _ (.tmp 11) 33 rfl w.heap.size 23 i0 _ 32 32 Tryz.underlying33 hi0 hz0 hs0 hy0 rfl (by decide) (.slice none 0 0) 0 [] rfl N0.out w.heap.size A ids.length c (hsC ids) rfl (by rw [hsC_len]) HS.out (hsC_one _) (by omega) (by omega) (by omega) ?_; intro v7 w7 ho7 hg7 ha7; obtain ⟨A7, c7, rfl⟩ := own_form ho7; rw [Nat.zero_add, List.nil_append] at ho7; rw [Nat.zero_add]; have O7 := Lib.hid ho7; have V7 : Hid (Below w.heap.size w w7) := (nxRefl w).grown hg7 (Nat.le_refl _) (fun j hj => by cases hj); clear ho7 hg7 ha7))
  go_loopw [5, 6, 7] (fun ov tv iv wr => ∃ (i : Nat) (out : List Hh) (A1 : Option Addr) (c1 : Nat) (A2 : Option Addr) (c2 : Nat), i ≤ ids.length + out.length ∧ out.length ≤ 1000 ∧ ov = .slice A1 out.length c1 ∧ tv = .slice A2 (ids.length + out.length) c2 ∧ iv = .int .i64 i ∧ Hid (PstI G ids out i) ∧ Hid (wr.ownsRow w.heap.size 23 32 (.slice A1 out.length c1) out.length (hsC out)) ∧ Hid (wr.ownsRow w.heap.size 23 32 (.slice A2 (ids.length + out.length) c2) (ids.length + out.length) (hsC (ids ++ out))) ∧ Hid (∀ k, A1.map Addr.block = some k → A2.map Addr.block ≠ some k) ∧ Hid (Below w.heap.size w wr)) (fun _ _ iv _ => 2001 - (intOf iv).toNat)
  case atStart => exact ⟨0, [], none, 0, A7, c7, by omega, by simp, rfl, rfl, rfl, PstI.start G ids, ⟨by simp [hsC], .inl ⟨rfl, rfl⟩⟩, (by show World.ownsRow _ _ _ _ _ _ _; simpa using O7.out), (fun k e => by cases e), V7.out⟩
  case round =>
    clear O7 V7 N0
    obtain ⟨i, out, A1, c1, A2, c2, hi, hol, rfl, rfl, rfl, HP, HO1, HO2, HD, HV⟩ := hrel
    by_cases hlt : i < ids.length + out.length
    · have hil : i < (ids ++ out).length := by simpa using hlt
      obtain ⟨b2, f2, hA2, hb2, hr2⟩ := sees_hash (SeesV.own HO2.out) hil
      have hz := hr2 i hil
      obtain ⟨z, hzz⟩ : ∃ z, (ids ++ out)[i] = z := ⟨_, rfl⟩
      have hzq : (ids ++ out)[i]? = some z := by rw [List.getElem?_eq_getElem hil, hzz]
      rw [hzz] at hz
      have HZ := Lib.hid hz
      have HZq := Lib.hid hzq
      have HA2 := Lib.hid hA2
      have hin : (i : Int) < ((ids.length + out.length : Nat) : Int) := by omega
      have HAt1 := Lib.hid (HAt.out wr HV.out z)
      clear hr2 hz hzz hzq hb2 hil
      cases hp : placeG G z with
      | none =>
        rw [hp] at HAt1
        have HNx : Hid (PstI G ids out (i + 1)) := HP.out.skip HZq.out hp
        rw [hA2]
        clear hp hA2
        go_wp2_with (first
          | ((with_reducible show wpList _ _ _ (⟨some 23, _, _, _, _, _⟩ :: _) _ _); refine wpList_load_mid rfl 23 (.tmp 22) rfl b2 (f2 + i * 32) rfl (hC z) _ HZ.out Tryz.underlying23 rfl (hszL z) ?_)
          | (go_at_call 13; refine HAt1.out.mono ?_; rintro e w3 ⟨rfl, hb3⟩; have J3 := Lib.hid hb3; have V3 : Hid (Below w.heap.size w w3) := nxTo HV.out hb3; clear hb3))
        go_roundw
        case rel => exact ⟨i + 1, out, A1, c1, A2, c2, by omega, hol, rfl, by rw [HA2.out], by go_num, HNx, own_below HO1.out J3.out (fun g hg => (own_lt HO1.out g hg).2), own_below HO2.out J3.out (fun g hg => (own_lt HO2.out g hg).2), HD.out, V3.out⟩
        case measure => simp [intOf] <;> omega
      | some n =>
        rw [hp] at HAt1
        obtain ⟨hng, hnid⟩ := placeG_some hp
        have hnl : n < r.l.length := by rw [HRl.out]; exact hng
        have hcq : ∀ W, Below w.heap.size w W → W.cell? ⟨r.q, 0, none⟩ = some (.slice r.A r.l.length r.c) := fun W hW => (HH.out.later hW).b.cell 0
        obtain ⟨b3, f3, hA3, hb3, hr3⟩ := sees_node HH.out.s hnl
        have hps := HH.out.e _ (List.getElem_mem hnl)
        have hpd := (HRel.out.at_ hnl).2
        have hpc := node_ps (hr3 n hnl)
        rw [hA3, HRl.out] at hcq
        obtain ⟨y, hy⟩ : ∃ y, r.l[n] = y := ⟨_, rfl⟩
        rw [hy] at hps hpd hpc
        have hpm : y.ps.length ≤ 1000 := by
          rw [hpd]
          refine Nat.le_trans (risH_le _) ?_
          rw [List.length_map]
          exact Nat.le_trans (len_le_of (HO.out.dis n) (fun x hx => Nat.lt_trans (HO.out.par n x hx) hng)) HG.out
        have hmem : ∀ x, x ∈ y.ps ↔ x ∈ (parG G n).map (idG G) := fun x => by rw [hpd]; exact mem_risH
        have HPs := Lib.hid hps
        have HMem := Lib.hid hmem
        have HPn := Lib.hid hp
        have HCq := Lib.hid hcq
        have HPc : Hid (∀ W, Below w.heap.size w W → W.cell? ⟨b3, f3 + n * 33 + 32, none⟩ = some (.slice y.A y.ps.length y.c)) := fun W hW => (hW.cell (p := ⟨b3, f3 + n * 33 + 32, none⟩) hb3).trans hpc
        have hnn : (n : Int) < (G.length : Int) := by omega
        have hg9 := HG.out
        rw [hA2]
        clear hr3 hps hpd hpc hy hmem hp hng hnid hnl hcq hb3 hA3 hA2
        go_wp2_with (first
          | ((with_reducible show wpList _ _ _ (⟨some 23, _, _, _, _, _⟩ :: _) _ _); refine wpList_load_mid rfl 23 (.tmp 22) rfl b2 (f2 + i * 32) rfl (hC z) _ HZ.out Tryz.underlying23 rfl (hszL z) ?_)
          | (go_at_call 13; refine HAt1.out.mono ?_; rintro e w3 ⟨rfl, hb3⟩; have J3 := Lib.hid hb3; have V3 : Hid (Below w.heap.size w w3) := nxTo HV.out hb3; have cq := HCq.out w3 V3.out; have cp := HPc.out w3 V3.out; clear hb3))
        have P1 : Hid (w3.ownsRow w.heap.size 23 32 (.slice A1 out.length c1) out.length (hsC out)) := own_below HO1.out J3.out (fun g hg => (own_lt HO1.out g hg).2)
        have P2 : Hid (w3.ownsRow w.heap.size 23 32 (.slice A2 (ids.length + out.length) c2) (ids.length + out.length) (hsC (ids ++ out))) := own_below HO2.out J3.out (fun g hg => (own_lt HO2.out g hg).2)
        rw [← HA2.out]
        clear HO1 HO2 HV J3 HZ HA2 HAt1 cq cp
        go_loopw [5, 6, 10] (fun ov tv kv wr => ∃ (k : Nat) (out : List Hh) (A1 : Option Addr) (c1 : Nat) (A2 : Option Addr) (c2 : Nat), k ≤ y.ps.length ∧ i < ids.length + out.length ∧ out.length ≤ 1000 ∧ ov = .slice A1 out.length c1 ∧ tv = .slice A2 (ids.length + out.length) c2 ∧ kv = .int .i64 k ∧ Hid (PstI G ids out i) ∧ Hid ((ids ++ out)[i]? = some z) ∧ Hid (∀ x ∈ y.ps.take k, x ∈ out) ∧ Hid (wr.ownsRow w.heap.size 23 32 (.slice A1 out.length c1) out.length (hsC out)) ∧ Hid (wr.ownsRow w.heap.size 23 32 (.slice A2 (ids.length + out.length) c2) (ids.length + out.length) (hsC (ids ++ out))) ∧ Hid (∀ k, A1.map Addr.block = some k → A2.map Addr.block ≠ some k) ∧ Hid (Below w.heap.size w wr)) (fun _ _ kv _ => y.ps.length - (intOf kv).toNat)
        case atStart => exact ⟨0, out, A1, c1, A2, c2, by omega, hlt, hol, rfl, rfl, rfl, HP.out, HZq.out, (by show ∀ x ∈ _, _; simp), P1.out, P2.out, HD.out, V3.out⟩
        case round =>
          clear HP HZq P1 P2 HD V3 hlt hi hol hin
          obtain ⟨k, out, A1, c1, A2, c2, hk, hlt, hol, rfl, rfl, rfl, HP, HZq, HAll, HO1, HO2, HD, HV⟩ := hrel
          by_cases hltk : k < y.ps.length
          · obtain ⟨b4, f4, hA4, hb4, hr4⟩ := sees_hash HPs.out hltk
            have r4 := hr4 k hltk
            have hn2 : y.ps.take (k + 1) = y.ps.take k ++ [y.ps[k]] := List.take_succ_eq_append_getElem hltk
            have hxm := (HMem.out y.ps[k]).1 (List.getElem_mem hltk)
            obtain ⟨x, hx⟩ : ∃ x, y.ps[k] = x := ⟨_, rfl⟩
            rw [hx] at r4 hn2 hxm
            rw [hA4]
            have HR4 : Hid (∀ W, Below w.heap.size w W → W.rangeAt b4 (f4 + k * 32) (hC x)) := fun W hW => rngK r4 hW hb4
            have HN2 := Lib.hid hn2
            have HXm := Lib.hid hxm
            have HA4 := Lib.hid hA4
            have hkn : (k : Int) < (y.ps.length : Int) := by omega
            have hso : SeesV wr wr.heap.size A1 (hsC out) := SeesV.own HO1.out
            have HSo := Lib.hid hso
            clear hr4 r4 hn2 hxm hx hso hA4 hb4
            by_cases hxo : x ∈ out
            · have HDx : Hid (decide (x ∈ out) = true) := decide_eq_true hxo
              have HAl2 : Hid (∀ x ∈ y.ps.take (k + 1), x ∈ out) := fun x' hx' => by
                rw [HN2.out] at hx'
                rcases List.mem_append.1 hx' with h9 | h9
                · exact HAll.out x' h9
                · rw [List.mem_singleton] at h9; subst h9; exact hxo
              clear hxo
              go_wp2_with (first
                | ((with_reducible show wpList _ _ _ (⟨some 45, _, _, _, _, _⟩ :: _) _ _); refine wpList_load_mid rfl 23 (.tmp 44) rfl b4 (f4 + k * 32) rfl (hC x) _ (HR4.out _ HV.out) Tryz.underlying23 rfl (hszL x) ?_)
                | (go_at_call 34; refine (rin_any wr A1 out c1 x HSo.out (by omega)).mono ?_; rw [HDx.out]; rintro e w4 ⟨rfl, hb4⟩; have J4 := Lib.hid hb4; have V4 : Hid (Below w.heap.size w w4) := nxTo HV.out hb4; clear hb4))
              go_roundw
              case rel => exact ⟨k + 1, out, A1, c1, A2, c2, by omega, hlt, hol, rfl, rfl, by go_num, HP.out, HZq.out, HAl2.out, own_below HO1.out J4.out (fun g hg => (own_lt HO1.out g hg).2), own_below HO2.out J4.out (fun g hg => (own_lt HO2.out g hg).2), HD.out, V4.out⟩
              case measure => simp [intOf] <;> omega
            · have HDx : Hid (decide (x ∈ out) = false) := decide_eq_false hxo
              have HNx : Hid (PstI G ids (out ++ [x]) i) := HP.out.one HO.out HZq.out HPn.out HXm.out hxo
              have HAl2 : Hid (∀ x' ∈ y.ps.take (k + 1), x' ∈ out ++ [x]) := fun x' hx' => by
                rw [HN2.out] at hx'
                rcases List.mem_append.1 hx' with h9 | h9
                · exact List.mem_append_left _ (HAll.out x' h9)
                · exact List.mem_append_right _ h9
              have hol2 : out.length + 1 ≤ 1000 := by have := HNx.out.le; have := HG.out; simp at *; omega
              clear hxo
              go_wp2_with (first
                | ((with_reducible show wpList _ _ _ (⟨some 45, _, _, _, _, _⟩ :: _) _ _); refine wpList_load_mid rfl 23 (.tmp 44) rfl b4 (f4 + k * 32) rfl (hC x) _ (HR4.out _ HV.out) Tryz.underlying23 rfl (hszL x) ?_)
                | (go_at_call 34; refine (rin_any wr A1 out c1 x HSo.out (by omega)).mono ?_; rw [HDx.out]; rintro e w4 ⟨rfl, hb4⟩; have J4 := Lib.hid hb4; have V4 : Hid (Below w.heap.size w w4) := nxTo HV.out hb4; clear hb4)
                | ((with_reducible show wpList _ _ _ (⟨some 52, _, _, _, _, _⟩ :: _) _ _); refine wpList_load_mid rfl 23 (.tmp 51) rfl b4 (f4 + k * 32) rfl (hC x) _ (HR4.out _ V4.out) Tryz.underlying23 rfl (hszL x) ?_)
                | ((with_reducible show wpList _ _ _ (⟨some 53, _, _, _, _, _⟩ :: _) _ _); refine wpList_build1 rfl 33 23 (.tmp 52) rfl (hC x) _ 32 32 Tryz.underlying33 Tryz.dinfoH (by decide) (by decide) (hC_len x) rfl ?_; have J5 : Hid (Below w4.heap.size w4 (w4.alloc (.cells (hC x).toArray 23))) := nxAlloc (nxRefl _) _; have V5 : Hid (Below w.heap.size w (w4.alloc (.cells (hC x).toArray 23))) := nxTo V4.out J5.out; have P1 := Lib.hid (own_below (own_below HO1.out J4.out (fun g hg => (own_lt HO1.out g hg).2)) J5.out (fun g hg => (own_lt (own_below HO1.out J4.out (fun g hg => (own_lt HO1.out g hg).2)) g hg).2)); have P2 := Lib.hid (own_below (own_below HO2.out J4.out (fun g hg => (own_lt HO2.out g hg).2)) J5.out (fun g hg => (own_lt (own_below HO2.out J4.out (fun g hg => (own_lt HO2.out g hg).2)) g hg).2)))
                | ((with_reducible show wpList _ _ _ (⟨some 54, _, _, _, _, _⟩ :: _) _ _); refine wpList_append_seesV rfl (.tmp 48) (.tmp 53) 33 rfl w.heap.size 23 i0 _ 32 32 Tryz.underlying33 hi0 hz0 hs0 hy0 rfl (by decide) (.slice A1 out.length c1) out.length (hsC out) rfl P1.out _ (some ⟨w4.heap.size, 0, none⟩) 1 1 (hC x) rfl (by rw [hC_len]) (SeesV.blk (heap_alloc_new w4 _)) (hC_one x) (by omega) (by omega) V5.out.size ?_; intro v7 w7 ho7 hg7 ha7; obtain ⟨A7, c7, rfl⟩ := own_form ho7; have O7 := Lib.hid ho7; have V7 : Hid (Below w.heap.size w w7) := V5.out.grown hg7 V5.out.size (fun j hj => (own_lt P1.out j hj).1); have R2 := Lib.hid (rows_next P1.out P2.out HD.out hg7 ha7); clear ho7 hg7 ha7)
                | ((with_reducible show wpList _ _ _ (⟨some 59, _, _, _, _, _⟩ :: _) _ _); refine wpList_load_mid rfl 23 (.tmp 58) rfl b4 (f4 + k * 32) rfl (hC x) _ (HR4.out _ V7.out) Tryz.underlying23 rfl (hszL x) ?_)
                | ((with_reducible show wpList _ _ _ (⟨some 60, _, _, _, _, _⟩ :: _) _ _); refine wpList_build1 rfl 33 23 (.tmp 59) rfl (hC x) _ 32 32 Tryz.underlying33 Tryz.dinfoH (by decide) (by decide) (hC_len x) rfl ?_; have J8 : Hid (Below w7.heap.size w7 (w7.alloc (.cells (hC x).toArray 23))) := nxAlloc (nxRefl _) _; have V8 : Hid (Below w.heap.size w (w7.alloc (.cells (hC x).toArray 23))) := nxTo V7.out J8.out; have Q1 := Lib.hid (own_below O7.out J8.out (fun g hg => (own_lt O7.out g hg).2)); have Q2 := Lib.hid (own_below R2.out.1 J8.out (fun g hg => (own_lt R2.out.1 g hg).2)))
                | ((with_reducible show wpList _ _ _ (⟨some 61, _, _, _, _, _⟩ :: _) _ _); refine wpList_append_seesV rfl (.tmp 55) (.tmp 60) 33 rfl w.heap.size 23 i0 _ 32 32 Tryz.underlying33 hi0 hz0 hs0 hy0 rfl (by decide) (.slice A2 (ids.length + out.length) c2) (ids.length + out.length) (hsC (ids ++ out)) rfl Q2.out _ (some ⟨w7.heap.size, 0, none⟩) 1 1 (hC x) rfl (by rw [hC_len]) (SeesV.blk (heap_alloc_new w7 _)) (hC_one x) (by omega) (by omega) V8.out.size ?_; intro v9 w9 ho9 hg9 ha9; obtain ⟨A9, c9, rfl⟩ := own_form ho9; have O9 := Lib.hid ho9; have V9 : Hid (Below w.heap.size w w9) := V8.out.grown hg9 V8.out.size (fun j hj => (own_lt Q2.out j hj).1); have R3 := Lib.hid (rows_next Q2.out Q1.out (fun k e e2 => R2.out.2 k e2 e) hg9 ha9); clear ho9 hg9 ha9))
              go_roundw
              case rel =>
                have e1 : (out ++ [x]).length = out.length + 1 := by simp
                have e2 : hsC (out ++ [x]) = hsC out ++ hC x := by rw [hsC_append]; simp [hsC]
                have e3 : hsC (ids ++ (out ++ [x])) = hsC (ids ++ out) ++ hC x := by rw [← List.append_assoc, hsC_append]; simp [hsC]
                have e4 : (ids ++ (out ++ [x]))[i]? = some z := by
                  have := (List.getElem?_eq_some_iff.1 HZq.out).1
                  rw [← List.append_assoc, List.getElem?_append_left this]
                  exact HZq.out
                have z1 := R3.out.1
                have z2 := O9.out
                rw [← e2] at z1
                rw [← e3] at z2
                exact ⟨k + 1, out ++ [x], A7, c7, A9, c9, by omega, by rw [e1]; omega, by rw [e1]; omega, by rw [e1], by rw [e1, Nat.add_assoc], by go_num, HNx.out, e4, HAl2.out, (by show World.ownsRow _ _ _ _ _ _ _; rw [e1]; exact z1), (by show World.ownsRow _ _ _ _ _ _ _; rw [e1, ← Nat.add_assoc]; exact z2), (fun k e e5 => R3.out.2 k e5 e), V9.out⟩
              case measure => simp [intOf] <;> omega
          · obtain rfl : k = y.ps.length := by omega
            have HNx : Hid (PstI G ids out (i + 1)) := HP.out.close HZq.out HPn.out (fun x hx => HAll.out x (by rw [List.take_length]; exact (HMem.out x).2 hx))
            go_wp2
            go_roundw
            case rel => exact ⟨i + 1, out, A1, c1, A2, c2, by omega, hol, rfl, rfl, by go_num, HNx.out, HO1.out, HO2.out, HD.out, HV.out⟩
            case measure => simp [intOf] <;> omega
    · obtain rfl : i = ids.length + out.length := by omega
      have hfin : risH out = pastG G ids := PstI.done HO.out (by have := HP.out; rw [← List.length_append] at this; exact this)
      have HSo := rsorted_any wr A1 out c1 (SeesV.own HO1.out) (by omega)
      unfold SortPost at HSo
      rw [hfin] at HSo
      have HSt := Lib.hid HSo
      clear HSo hfin
      go_wp2_with (go_at_call 41; refine HSt.out.mono ?_; rintro e w9 ⟨A9, c9, rfl, ho9, hb9⟩; have O9 := Lib.hid ho9; have J9 := Lib.hid hb9; clear ho9 hb9)
      go_ret
      exact ⟨A9, c9, rfl, own_base O9.out HV.out.size, nxTo HV.out J9.out⟩
end Go.Proofs.YtbfpckomgpkjgaaGreat
