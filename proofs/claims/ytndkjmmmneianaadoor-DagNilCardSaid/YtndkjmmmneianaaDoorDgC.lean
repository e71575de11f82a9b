/-
  dag: Add.
-/
import Derived.Test.YtndkjmmmneianaaDoorDgB
namespace Go.Proofs.YtndkjmmmneianaaDoor
open Go.RowKit Go.Maps

/-- From one graph in memory to the next. -/
structure AddTo (w : World) (base : Nat) (m m' : GrM) (w' : World) : Prop where
  ok : GrOk w' base m'
  q : m'.q = m.q
  k : Keeps (foot m) w w'
  f : ∀ k, foot m' k → foot m k ∨ w.heap.size ≤ k
  r : ∀ k, ro m' k → ro m k ∨ w.heap.size ≤ k
def AddPost (w : World) (base : Nat) (m : GrM) (G : Gr) (id : Hh) (ps : List Hh) (e : Ending) (w' : World) : Prop := e = .returned (.int .i64 (addE G id ps : Int)) ∧ ∃ m', AddTo w base m m' w' ∧ GrIs m' (addG G id ps)
theorem make_ints (wq : World) (k : Nat) (hk : k ≤ 1000000) : (Instr.makeSlice 72 (.int .i64 (k : Int)) (.int .i64 (k : Int))).run Tryd.prog wq = .ok (.slice (some ⟨wq.heap.size, 0, none⟩) k k) (wq.alloc (.cells (iC (List.replicate k 0)).toArray 3)) := by
  have e : madeCells #[.int .i64 0] k = (iC (List.replicate k 0)).toArray := by
    apply Array.ext
    · simp [size_madeCells, iC]
    · intro i h1 h2
      simp [madeCells, iC, Nat.mod_one]
  rw [run_make_row' 72 3 (.int .i64 0) 8 Tryd.underlying72 Tryd.dinfoI rfl .i64 .i64 k (by omega) (by omega) wq, e]
theorem iC_set (l : List Nat) (k x : Nat) : (iC l).set k (.int .i64 (x : Int)) = iC (l.set k x) := by unfold iC; rw [List.map_set]
/-- The places so far. -/
def plL (G : Gr) (ps : List Hh) (k : Nat) : List Nat := (ps.take k).map (plE G) ++ List.replicate (ps.length - k) 0
theorem plL_len (G : Gr) (ps : List Hh) {k : Nat} (hk : k ≤ ps.length) : (plL G ps k).length = ps.length := by simp [plL]; omega
theorem plL_next (G : Gr) (ps : List Hh) {k : Nat} (hk : k < ps.length) : (plL G ps k).set k (plE G ps[k]) = plL G ps (k + 1) := by
  have hl : ((ps.take k).map (plE G)).length = k := by simp; omega
  unfold plL
  rw [List.set_append_right _ _ (by omega), hl, Nat.sub_self, List.take_succ_eq_append_getElem hk, List.map_append, List.append_assoc]
  congr 1
  obtain ⟨d, hd⟩ : ∃ d, ps.length - k = d + 1 := ⟨ps.length - k - 1, by omega⟩
  have hd2 : ps.length - (k + 1) = d := by omega
  rw [hd, hd2, List.replicate_succ]
  rfl
set_option maxHeartbeats 4000000 in
set_option maxRecDepth 100000 in
theorem add_any (w : World) (base : Nat) (m : GrM) (G : Gr) (h : GrOk w base m) (hg : GrIs m G) (id : Hh) (A : Option Addr) (c : Nat) (ps : List Hh) (hS : SeesV w w.heap.size A (hsC ps)) (hsz : ps.length ≤ 1000000) (hmx : m.L.length ≤ 999999) :
    Calls Tryd.prog 23 #[.pointer (some ⟨m.q, 0, none⟩), .agg (hC id).toArray, .slice A ps.length c] w (AddPost w base m G id ps) := by
  have V1 : Hid (Below w.heap.size w (w.alloc (.cells (hC id).toArray 23))) := nxAlloc (nxRefl w) _
  have H1 : Hid (GrOk (w.alloc (.cells (hC id).toArray 23)) base m) := h.later V1.out
  have B1 : Hid (Blk (w.alloc (.cells (hC id).toArray 23)) w.heap.size 23 (hC id).toArray) := heap_alloc_new w _
  have S1 : Hid (SeesV (w.alloc (.cells (hC id).toArray 23)) w.heap.size A (hsC ps)) := hS.later V1.out
  have R1 : Hid ((w.alloc (.cells (hC id).toArray 23)).rangeAt w.heap.size 0 (hC id)) := fun j v hv => by rw [Nat.zero_add, B1.out.cell j]; simpa using hv
  have Z1 := Lib.hid (hszL id)
  have HI : Hid (0 < m.ids.length) := by show _ < _; rw [hg.ilen]; exact hg.ne
  have HG := Lib.hid hg
  have HH := Lib.hid h
  have HM : Hid (ps.length ≤ 1000000) := hsz
  have HS0 : Hid (SeesV w w.heap.size A (hsC ps)) := hS
  unfold AddPost
  cases hpl : (placeG G id).isSome with
  | true =>
    have he : addE G id ps = 7 := by unfold addE; rw [if_pos hpl]
    have ha : addG G id ps = G := by unfold addG; rw [if_neg (by rw [he]; decide)]
    have HP := Lib.hid hpl
    have HAg := Lib.hid ha.symm
    rw [he]
    clear he ha hpl h hg hS
    go_enter Tryd.func23, Tryd.ntmps23
    go_wp2_with (first
      | (go_at_call 46; refine (isMade_any _ base m H1.out HI.out).mono ?_; rintro e1 w1 ⟨rfl, hw1⟩; obtain rfl := hw1.symm)
      | ((with_reducible show wpList _ _ _ (⟨some 18, _, _, _, _, _⟩ :: _) _ _); refine wpList_load_mid rfl 23 (.tmp 4) rfl w.heap.size 0 rfl (hC id) _ R1.out Tryd.underlying23 rfl Z1.out ?_)
      | (go_at_call 28; refine (has2_any _ base m G H1.out HG.out id).mono ?_; rw [HP.out]; rintro e2 w2 ⟨rfl, hb2⟩; have V2 : Hid (Below w.heap.size w w2) := nxTo V1.out hb2; have H2 := Lib.hid (H1.out.later hb2); have S2 := Lib.hid (S1.out.later hb2); have B2 := Lib.hid (B1.out.below hb2 B1.out.lt); clear hb2))
    go_ret
    exact ⟨rfl, ⟨m, ⟨H2.out, rfl, Keeps.of_below V2.out _, fun k hk => .inl hk, fun k hk => .inl hk⟩, HAg.out ▸ HG.out⟩⟩
  | false =>
    have HP := Lib.hid hpl
    by_cases h0 : ps = []
    · have he : addE G id ps = 9 := by unfold addE; rw [if_neg (by rw [hpl]; decide), if_pos (.inl h0)]
      have ha : addG G id ps = G := by unfold addG; rw [if_neg (by rw [he]; decide)]
      have HAg := Lib.hid ha.symm
      rw [he]
      have hl0 : ps.length = 0 := by rw [h0]; rfl
      rw [hl0]
      clear he ha hpl h hg hS hl0
      go_enter Tryd.func23, Tryd.ntmps23
      go_wp2_with (first
      | (go_at_call 46; refine (isMade_any _ base m H1.out HI.out).mono ?_; rintro e1 w1 ⟨rfl, hw1⟩; obtain rfl := hw1.symm)
      | ((with_reducible show wpList _ _ _ (⟨some 18, _, _, _, _, _⟩ :: _) _ _); refine wpList_load_mid rfl 23 (.tmp 4) rfl w.heap.size 0 rfl (hC id) _ R1.out Tryd.underlying23 rfl Z1.out ?_)
      | (go_at_call 28; refine (has2_any _ base m G H1.out HG.out id).mono ?_; rw [HP.out]; rintro e2 w2 ⟨rfl, hb2⟩; have V2 : Hid (Below w.heap.size w w2) := nxTo V1.out hb2; have H2 := Lib.hid (H1.out.later hb2); have S2 := Lib.hid (S1.out.later hb2); have B2 := Lib.hid (B1.out.below hb2 B1.out.lt); clear hb2))
      go_ret
      exact ⟨rfl, ⟨m, ⟨H2.out, rfl, Keeps.of_below V2.out _, fun k hk => .inl hk, fun k hk => .inl hk⟩, HAg.out ▸ HG.out⟩⟩
    · have hl0 : 0 < ps.length := by cases ps with | nil => exact absurd rfl h0 | cons a r => simp
      have hle := risH_le ps
      obtain ⟨r, hr⟩ : ∃ r, risH ps = r := ⟨_, rfl⟩
      have HR := Lib.hid hr
      by_cases h1 : (risH ps).length = ps.length
      · rw [hr] at h1 hle
        have hEs : ∀ z, ps.any (fun p => (placeG G p).isNone) = z → addE G id ps = if z then 6 else 0 := fun z hz => by
          unfold addE
          rw [if_neg (by rw [hpl]; decide), if_neg (by rintro (h | h); exact h0 h; exact h (by rw [hr]; exact h1)), hz]
        have HEs := Lib.hid hEs
        have hlt : ¬ ((r.length : Int) < (ps.length : Int)) := by omega
        have hltN : ¬ (r.length < ps.length) := by omega
        have hnn : ((ps.length : Int) == 0) = false := by rw [beq_eq_false_iff_ne]; omega
        have hl64 : ps.length ≤ 1000000 := hsz
        have hmk := fun wq => make_ints wq ps.length hsz
        have Hnd : Hid (ps.Nodup) := (risH_len ps).1 (by rw [hr]; exact h1)
        have HPn : Hid (placeG G id = none) := by show _ = _; cases hq : placeG G id with | none => rfl | some n => rw [hq] at hpl; cases hpl
        obtain ⟨cs0, hcs0⟩ : ∃ cs, (iC (List.replicate ps.length 0)).toArray = cs := ⟨_, rfl⟩
        rw [hcs0] at hmk
        have HC0 : Hid (cs0 = (iC (plL G ps 0)).toArray) := by show _ = _; rw [← hcs0]; simp [plL]
        have HL0 := Lib.hid h0
        clear hpl h hg hS hr hEs hcs0 h1 hle h0
        go_enter Tryd.func23, Tryd.ntmps23
        go_wp2_with (first
      | (go_at_call 46; refine (isMade_any _ base m H1.out HI.out).mono ?_; rintro e1 w1 ⟨rfl, hw1⟩; obtain rfl := hw1.symm)
      | ((with_reducible show wpList _ _ _ (⟨some 18, _, _, _, _, _⟩ :: _) _ _); refine wpList_load_mid rfl 23 (.tmp 4) rfl w.heap.size 0 rfl (hC id) _ R1.out Tryd.underlying23 rfl Z1.out ?_)
      | (go_at_call 28; refine (has2_any _ base m G H1.out HG.out id).mono ?_; rw [HP.out]; rintro e2 w2 ⟨rfl, hb2⟩; have V2 : Hid (Below w.heap.size w w2) := nxTo V1.out hb2; have H2 := Lib.hid (H1.out.later hb2); have S2 := Lib.hid (S1.out.later hb2); have B2 := Lib.hid (B1.out.below hb2 B1.out.lt); clear hb2)
      | (go_at_call 52; refine (sorted_any w2 A ps c ((S2.out).more V2.out.size) HM.out).mono ?_; unfold SortPost; rw [HR.out]; rintro e3 w3 ⟨A3, c3, rfl, ho3, hb3⟩; have V3 : Hid (Below w.heap.size w w3) := nxTo V2.out hb3; have H3 := Lib.hid (H2.out.later hb3); have S3 := Lib.hid (S2.out.later hb3); have B3 := Lib.hid (B2.out.below hb3 B2.out.lt); clear ho3 hb3))
        clear hmk
        obtain ⟨gR, hgR⟩ : ∃ gR, w3.heap.size = gR := ⟨_, rfl⟩
        have hgw : w.heap.size ≤ gR := by rw [← hgR]; exact V3.out.size
        have V4 : Hid (Below w.heap.size w (w3.alloc (.cells cs0 3))) := nxAlloc V3.out _
        have H4 : Hid (GrOk (w3.alloc (.cells cs0 3)) base m) := H3.out.later (nxAlloc (nxRefl _) _)
        have B4 : Hid (Blk (w3.alloc (.cells cs0 3)) w.heap.size 23 (hC id).toArray) := B3.out.alloc _
        have C4 : Hid (Blk (w3.alloc (.cells cs0 3)) gR 3 (iC (plL G ps 0)).toArray) := by have := HC0.out; exact blkNew hgR.symm this
        have hlt4 : Hid (gR < (w3.alloc (.cells cs0 3)).heap.size) := C4.out.lt
        rw [hgR]
        have HB9 : Hid (w.heap.size < gR) := by show _ < _; rw [← hgR]; exact Nat.lt_of_lt_of_le B3.out.lt (Nat.le_refl _)
        clear V3 H3 B3 S3 V2 H2 S2 B2 V1 H1 B1 R1
        generalize w3.alloc (.cells cs0 3) = W4 at *
        go_loopw [37] (fun iv wr => ∃ k : Nat, k ≤ ps.length ∧ iv = .int .i64 k ∧ Hid (Blk wr gR 3 (iC (plL G ps k)).toArray) ∧ Hid (Keeps (fun j => j = gR) W4 wr) ∧ Hid (∀ j (hj : j < ps.length), j < k → (placeG G ps[j]).isSome = true)) (fun iv _ => ps.length - (intOf iv).toNat)
        case atStart => exact ⟨0, by omega, rfl, C4.out, Keeps.refl _ _, fun j _ hj => absurd hj (Nat.not_lt_zero _)⟩
        case round =>
          clear C4
          obtain ⟨k, hk, rfl, HC, HK, HA⟩ := hrel
          have VR : Hid (Below w.heap.size w wr) := V4.out.trans (HK.out.below V4.out.size (fun j hj e => by have e2 : j = gR := e; omega))
          have GR : Hid (GrOk wr base m) := H4.out.keeps HK.out (fun j hj e => by have e2 : j = gR := e; have := HH.out.tlt hj; omega)
          by_cases hlt5 : k < ps.length
          · have hsr : SeesV wr w.heap.size A (hsC ps) := (show SeesV w w.heap.size A (hsC ps) from HS0.out).below VR.out
            obtain ⟨b, off, rfl, hbb, hrg⟩ := sees_hash hsr hlt5
            have hr0 := hrg k hlt5
            obtain ⟨x, hx⟩ : ∃ x : Hh, ps[k] = x := ⟨ps[k], rfl⟩
            have hnx := plL_next G ps hlt5
            rw [hx] at hr0 hnx
            have HX : Hid (ps[k] = x) := hx
            have HNx := Lib.hid hnx
            have RX := Lib.hid hr0
            have ZX := Lib.hid (hszL x)
            have ZB := Lib.hid (hszB x)
            have hcl : k < (plL G ps k).length := by rw [plL_len G ps hk]; exact hlt5
            have HCl : Hid (∃ v, wr.cell? ⟨gR, k, none⟩ = some v) := ⟨_, by rw [HC.out.cell, List.getElem?_toArray, List.getElem?_eq_getElem (by rw [iC_len]; exact hcl)]⟩
            have N0 : Hid (Blk (wr.alloc (.cells (hC zH).toArray 23)) wr.heap.size 23 (hC zH).toArray) := heap_alloc_new wr _
            have N1 : Hid (Below wr.heap.size wr (wr.alloc (.cells (hC zH).toArray 23))) := nxAlloc (nxRefl wr) _
            clear hr0 hrg hx hnx hsr
            have hv : plV G x = .tuple #[.int .i64 (plE G x : Int), .bool (placeG G x).isSome] := rfl
            cases hz : (placeG G x).isSome with
            | false =>
              rw [hz] at hv
              have HV := Lib.hid hv
              have HZ := Lib.hid hz
              clear hv hz
              go_wp2_with (first
                | ((with_reducible show wpList _ _ _ (⟨some 41, _, _, _, _, _⟩ :: _) _ _); refine wpList_load_mid rfl 23 (.tmp 40) rfl b (off + k * 32) rfl (hC x) _ RX.out Tryd.underlying23 rfl ZX.out ?_)
                | ((with_reducible show wpList _ _ _ (⟨none, .store 23 _ _, _, _, _, _⟩ :: _) _ _); refine wpList_store_all rfl 23 (.tmp 9) (.tmp 41) rfl wr.heap.size 23 (hC zH).toArray (hC x).toArray rfl rfl N0.out (by rw [List.size_toArray, List.size_toArray, hC_len, hC_len]) ZB.out (hC_one x) ?_; intro w5 h5 h6 h7; have B5 := Lib.hid h5; have V5 : Hid (Below wr.heap.size wr w5) := N1.out.trans (h6.below N1.out.size (fun k hk => by omega)); clear h5 h6 h7)
                | ((with_reducible show wpList _ _ _ (⟨some 44, _, _, _, _, _⟩ :: _) _ _); refine wpList_load_mid rfl 23 (.tmp 9) rfl wr.heap.size 0 rfl (hC x) _ (fun j v hv => by rw [Nat.zero_add, B5.out.cell j]; simpa using hv) Tryd.underlying23 rfl ZX.out ?_)
                | (go_at_call 37; refine (place_any w5 base m G (GR.out.later V5.out) HG.out x).mono ?_; rw [HV.out]; rintro e6 w6 ⟨rfl, hb6⟩; have V6 : Hid (Below wr.heap.size wr w6) := nxTo V5.out hb6; (obtain ⟨vx, hvx⟩ := HCl.out); have c6 : w6.cell? ⟨gR, k, none⟩ = some vx := ((V6.out.cell (p := ⟨gR, k, none⟩) HC.out.lt).trans hvx); have f6 : w6.frozen? ⟨gR, k, none⟩ = false := (HC.out.below V6.out HC.out.lt).frozen k; clear hb6))
              go_ret
              have he : addE G id ps = 6 := HEs.out true (List.any_eq_true.2 ⟨ps[k], List.getElem_mem hlt5, by rw [HX.out, Option.isNone_iff_eq_none]; have h9 := HZ.out; cases hq : placeG G x with | none => rfl | some n => rw [hq] at h9; cases h9⟩)
              have ha : addG G id ps = G := by unfold addG; rw [if_neg (by rw [he]; decide)]
              rw [he, ha]
              exact ⟨rfl, m, ⟨GR.out.later V6.out, rfl, Keeps.of_below (VR.out.trans (V6.out.mono (by have := VR.out.size; omega))) _, fun k hk => .inl hk, fun k hk => .inl hk⟩, HG.out⟩
            | true =>
              rw [hz] at hv
              have HV := Lib.hid hv
              have HZ := Lib.hid hz
              clear hv hz
              go_wp2_with (first
                | ((with_reducible show wpList _ _ _ (⟨some 41, _, _, _, _, _⟩ :: _) _ _); refine wpList_load_mid rfl 23 (.tmp 40) rfl b (off + k * 32) rfl (hC x) _ RX.out Tryd.underlying23 rfl ZX.out ?_)
                | ((with_reducible show wpList _ _ _ (⟨none, .store 23 _ _, _, _, _, _⟩ :: _) _ _); refine wpList_store_all rfl 23 (.tmp 9) (.tmp 41) rfl wr.heap.size 23 (hC zH).toArray (hC x).toArray rfl rfl N0.out (by rw [List.size_toArray, List.size_toArray, hC_len, hC_len]) ZB.out (hC_one x) ?_; intro w5 h5 h6 h7; have B5 := Lib.hid h5; have V5 : Hid (Below wr.heap.size wr w5) := N1.out.trans (h6.below N1.out.size (fun k hk => by omega)); clear h5 h6 h7)
                | ((with_reducible show wpList _ _ _ (⟨some 44, _, _, _, _, _⟩ :: _) _ _); refine wpList_load_mid rfl 23 (.tmp 9) rfl wr.heap.size 0 rfl (hC x) _ (fun j v hv => by rw [Nat.zero_add, B5.out.cell j]; simpa using hv) Tryd.underlying23 rfl ZX.out ?_)
                | (go_at_call 37; refine (place_any w5 base m G (GR.out.later V5.out) HG.out x).mono ?_; rw [HV.out]; rintro e6 w6 ⟨rfl, hb6⟩; have V6 : Hid (Below wr.heap.size wr w6) := nxTo V5.out hb6; (obtain ⟨vx, hvx⟩ := HCl.out); have c6 : w6.cell? ⟨gR, k, none⟩ = some vx := ((V6.out.cell (p := ⟨gR, k, none⟩) HC.out.lt).trans hvx); have f6 : w6.frozen? ⟨gR, k, none⟩ = false := (HC.out.below V6.out HC.out.lt).frozen k; clear hb6))
              go_roundw
              case rel =>
                have hK6 : Keeps (fun j => j = gR) W4 w6 := HK.out.trans (Keeps.of_below V6.out _)
                refine ⟨k + 1, by omega, by go_num, ?_, hK6.setCell (p := ⟨gR, k, none⟩) rfl _, fun j hj hjk => ?_⟩
                · have h9 := (HC.out.below V6.out HC.out.lt).set k (.int .i64 (plE G x : Int))
                  rw [List.setIfInBounds_toArray, iC_set, HNx.out] at h9
                  exact h9
                · by_cases hjk2 : j < k
                  · exact HA.out j hj hjk2
                  · obtain rfl : j = k := by omega
                    rw [HX.out]; exact HZ.out
              case measure => simp [intOf] <;> omega
          · obtain rfl : k = ps.length := by omega
            have hpl9 : plL G ps ps.length = ps.map (plE G) := by unfold plL; rw [List.take_length, Nat.sub_self, List.replicate_zero, List.append_nil]
            have hC9 := HC.out
            rw [hpl9] at hC9
            have hsome : ∀ p ∈ ps, ∃ n, placeG G p = some n := fun p hp => by
              obtain ⟨j, hj, rfl⟩ := List.getElem_of_mem hp
              have h9 := HA.out j hj hj
              cases hq : placeG G ps[j] with
              | none => rw [hq] at h9; cases h9
              | some n => exact ⟨n, rfl⟩
            have he : addE G id ps = 0 := HEs.out false (by
              rw [List.any_eq_false]
              intro p hp
              obtain ⟨n, hn⟩ := hsome p hp
              rw [hn]; simp)
            have HE0 := Lib.hid he
            have hpar : (addN G id ps).par = ps.map (plE G) := rfl
            have hlt9 : ∀ p ∈ ps.map (plE G), p < m.L.length := by rw [HG.out.len]; exact addN_lt he
            have hnd9 : (ps.map (plE G)).Nodup := addN_nodup he
            have hsee : SeesV wr wr.heap.size (some ⟨gR, 0, none⟩) (iC (ps.map (plE G))) := SeesV.blk hC9
            have hput := put2_any wr base m GR.out (by rw [HG.out.ilen, HG.out.len]) (by rw [HG.out.ks, HG.out.ilen, HG.out.len]) (fun n hn => ⟨(HG.out.row n hn).1, (HG.out.row n hn).2.1⟩) hmx (fun n hn => Nat.le_trans (len_le_of (HG.out.kdis n hn) (fun p hp => parG_lt ((HG.out.kids n hn p).1 hp))) (by rw [← HG.out.len]; omega)) id (some ⟨gR, 0, none⟩) ps.length (ps.map (plE G)) hsee hlt9 hnd9 (fun _ k e hf => by
              have e2 : gR = k := by injection e
              have := (HH.out.lt hf).2
              omega)
            rw [List.length_map] at hput
            have HPut := Lib.hid hput
            have HN9 := Lib.hid hnd9
            have HL9 : Hid (∀ p ∈ ps.map (plE G), p < G.length) := addN_lt he
            have R9 : Hid (wr.rangeAt w.heap.size 0 (hC id)) := by
              have hb9 := B4.out.keeps HK.out (by show ¬ w.heap.size = gR; have := HB9.out; omega)
              exact fun j v hv => by rw [Nat.zero_add, hb9.cell j]; simpa using hv
            clear hput hnd9 hlt9 hC9 hpl9 hsee hsome he hpar
            go_wp2_with (first
              | ((with_reducible show wpList _ _ _ (⟨some 56, _, _, _, _, _⟩ :: _) _ _); refine wpList_load_mid rfl 23 (.tmp 4) rfl w.heap.size 0 rfl (hC id) _ R9.out Tryd.underlying23 rfl Z1.out ?_)
              | (go_at_call 53; refine HPut.out.mono ?_; rintro e8 w8 ⟨rfl, m8, hp8⟩; have P8 := Lib.hid hp8; clear hp8))
            go_ret
            rw [HE0.out]
            have ha : addG G id ps = G ++ [⟨id, ps.map (plE G)⟩] := by unfold addG; rw [if_pos HE0.out]; rfl
            rw [ha]
            have hi := put_is HG.out.toGrI0 P8.out HPn.out HL9.out HN9.out hmx
            have hszr := VR.out.size
            refine ⟨rfl, m8, ⟨P8.out.ok, P8.out.q, (Keeps.of_below VR.out _).trans P8.out.k, fun k hf => (P8.out.f k hf).imp (fun h => h) (fun h => by omega), fun k hr => ?_⟩, ⟨hi, by simp⟩⟩
            rcases P8.out.r k hr with h9 | h9 | ⟨_, h9⟩
            · exact .inl h9
            · exact .inr (by omega)
            · exact .inr (by have e2 : gR = k := by injection h9
                             omega)
      · have he : addE G id ps = 9 := by unfold addE; rw [if_neg (by rw [hpl]; decide), if_pos (.inr h1)]
        have ha : addG G id ps = G := by unfold addG; rw [if_neg (by rw [he]; decide)]
        have HAg := Lib.hid ha.symm
        rw [he]
        rw [hr] at h1 hle
        have hlt : (r.length : Int) < (ps.length : Int) := by omega
        have hl64 : ps.length ≤ 1000000 := hsz
        clear he ha hpl h hg hS hr
        go_enter Tryd.func23, Tryd.ntmps23
        go_wp2_with (first
      | (go_at_call 46; refine (isMade_any _ base m H1.out HI.out).mono ?_; rintro e1 w1 ⟨rfl, hw1⟩; obtain rfl := hw1.symm)
      | ((with_reducible show wpList _ _ _ (⟨some 18, _, _, _, _, _⟩ :: _) _ _); refine wpList_load_mid rfl 23 (.tmp 4) rfl w.heap.size 0 rfl (hC id) _ R1.out Tryd.underlying23 rfl Z1.out ?_)
      | (go_at_call 28; refine (has2_any _ base m G H1.out HG.out id).mono ?_; rw [HP.out]; rintro e2 w2 ⟨rfl, hb2⟩; have V2 : Hid (Below w.heap.size w w2) := nxTo V1.out hb2; have H2 := Lib.hid (H1.out.later hb2); have S2 := Lib.hid (S1.out.later hb2); have B2 := Lib.hid (B1.out.below hb2 B1.out.lt); clear hb2)
      | (go_at_call 52; refine (sorted_any w2 A ps c ((S2.out).more V2.out.size) HM.out).mono ?_; unfold SortPost; rw [HR.out]; rintro e3 w3 ⟨A3, c3, rfl, ho3, hb3⟩; have V3 : Hid (Below w.heap.size w w3) := nxTo V2.out hb3; have H3 := Lib.hid (H2.out.later hb3); have S3 := Lib.hid (S2.out.later hb3); have B3 := Lib.hid (B2.out.below hb3 B2.out.lt); clear ho3 hb3))
        go_ret
        exact ⟨rfl, ⟨m, ⟨H3.out, rfl, Keeps.of_below V3.out _, fun k hk => .inl hk, fun k hk => .inl hk⟩, HAg.out ▸ HG.out⟩⟩
end Go.Proofs.YtndkjmmmneianaaDoor
