/-
  dag: a new graph; one more.
  dag: Add.
-/
import Derived.Test.YtbfpckomgpkjgaaGreatDgA
namespace Go.Proofs.YtbfpckomgpkjgaaGreat
open Go.RowKit Go.Maps

theorem put_is {w w' : World} {base : Nat} {m m' : GrM} {G : Gr} {id : Hh} {ps : List Nat} {pA : Option Addr} (hg : GrI0 m G) (hp : PutTo w base m id ps pA m' w') (h1 : placeG G id = none) (h2 : ∀ p ∈ ps, p < G.length) (h3 : ps.Nodup) (hm : m.L.length ≤ 999999) : GrI0 m' (G ++ [⟨id, ps⟩]) := by
  have hN : m.L.length = G.length := hg.len
  have hok := snoc_ok hg.ok (x := ⟨id, ps⟩) h1 h2 h3
  have hnew : m.L.length < m'.L.length := by rw [hp.l]; omega
  refine ⟨hok, ?_, ?_, ?_, ?_, ?_, ?_, ?_, ?_⟩
  · rw [hp.ids, hg.ids]; simp
  · rw [hp.ks, hp.ids, hg.ks]
  · rw [hp.l, hN]; simp
  · intro n hn
    rw [hp.l] at hn
    by_cases e : n < m.L.length
    · rw [(hp.x n e _).1, hg.par n e, parG_snoc (by omega)]
    · obtain rfl : n = m.L.length := by omega
      rw [(hp.n _).1, hN, parG_new]
  · intro n hn p
    have hn' := hn
    rw [hp.l] at hn'
    by_cases e : n < m.L.length
    · rw [(hp.x n e hn).2.2]
      have h4 := hg.kids n e p
      by_cases hp1 : p < G.length
      · rw [parG_snoc hp1, ← h4]
        split
        · simp; omega
        · exact Iff.rfl
      · have h5 : p ∉ m.L[n].kids := fun h => by have := parG_lt (h4.1 h); omega
        by_cases hp2 : p = G.length
        · subst hp2
          rw [parG_new]
          split
          · next h6 => simp [hN, h6]
          · next h6 => exact ⟨fun h => absurd h h5, fun h => absurd h h6⟩
        · have h7 : n ∉ parG (G ++ [⟨id, ps⟩]) p := fun h => by have := parG_lt h; simp at this; omega
          split
          · constructor
            · intro h
              rcases List.mem_append.1 h with h | h
              · exact absurd h h5
              · have : p = m.L.length := by simpa using h
                omega
            · intro h; exact absurd h h7
          · exact ⟨fun h => absurd h h5, fun h => absurd h h7⟩
    · obtain rfl : n = m.L.length := by omega
      rw [(hp.n hn).2.1]
      constructor
      · intro h; cases h
      · intro h
        have h4 := hok.par _ _ h
        have h5 := parG_lt h
        simp at h5
        omega
  · intro n hn
    have hn' := hn
    rw [hp.l] at hn'
    by_cases e : n < m.L.length
    · rw [(hp.x n e hn).2.2]
      split
      · rw [List.nodup_append]
        refine ⟨hg.kdis n e, by simp, fun a ha b hb e2 => ?_⟩
        have : b = m.L.length := by simpa using hb
        have := parG_lt ((hg.kids n e a).1 ha)
        omega
      · exact hg.kdis n e
    · obtain rfl : n = m.L.length := by omega
      rw [(hp.n hn).2.1]
      simp
  · intro n hn
    have hn' := hn
    rw [hp.l] at hn'
    by_cases e : n < m.L.length
    · rw [(hp.x n e hn).2.1]
      obtain ⟨r1, r2, r3⟩ := hg.row n e
      exact ⟨r1, r2, fun k => (r3 k).trans (anc_old hg.ok (by omega)).symm⟩
    · obtain rfl : n = m.L.length := by omega
      obtain ⟨r1, r2, r3⟩ := (hp.n hn).2.2
      refine ⟨?_, r2, fun k => ?_⟩
      · have := mxP_le h2; rw [r1]; omega
      · have key := anc_new (x := ⟨id, ps⟩) hg.ok h2 (m := k)
        rw [← hN] at key
        rw [r3, key]
        constructor
        · rintro ⟨p, hp1, h | ⟨hp2, h⟩⟩
          · exact ⟨p, hp1, .inl h⟩
          · exact ⟨p, hp1, .inr (((hg.row p hp2).2.2 k).1 h)⟩
        · rintro ⟨p, hp1, h | h⟩
          · exact ⟨p, hp1, .inl h⟩
          · have hp2 : p < m.L.length := by have := h2 p hp1; omega
            exact ⟨p, hp1, .inr ⟨hp2, ((hg.row p hp2).2.2 k).2 h⟩⟩
  · rw [hp.l]; omega
/-- An empty one. -/
def zeroM (q mb : Nat) : GrM := ⟨q, mb, none, 0, none, 0, [], [], []⟩
theorem zeroM_is (q mb : Nat) : GrI0 (zeroM q mb) [] := ⟨nilG_ok, rfl, rfl, rfl, fun n h => absurd h (Nat.not_lt_zero _), fun n h => absurd h (Nat.not_lt_zero _), fun n h => absurd h (Nat.not_lt_zero _), fun n h => absurd h (Nat.not_lt_zero _), Nat.zero_le _⟩
theorem zeroM_ok {w : World} {base q mb : Nat} (hb : Blk w q 104 #[.slice none 0 0, .slice none 0 0, .map (some mb)]) (hq : base ≤ q) (hm : base ≤ mb) (hmap : w.ownsMap Tryz.prog 23 (plainElem Tryz.prog 3) mb 0 (mapD [])) : GrOk w base (zeroM q mb) where
  b := hb
  qb := hq
  mbb := hm
  ids := World.ownsRow_nil _ _ _ _
  nds := World.ownsRow_nil _ _ _ _
  map := hmap
  par x hx := absurd hx (by simp [zeroM])
  row x hx := absurd hx (by simp [zeroM])
  kid x hx := absurd hx (by simp [zeroM])
  sep k _ hr := by obtain ⟨x, hx, _⟩ := hr; simp [zeroM] at hx
  kd i j hi := absurd hi (Nat.not_lt_zero _)
set_option maxHeartbeats 1000000 in
set_option maxRecDepth 100000 in
theorem new_any (w : World) (r : Hh) : Calls Tryz.prog 64 #[.agg (hC r).toArray] w fun e w' => ∃ m, e = .returned (.pointer (some ⟨m.q, 0, none⟩)) ∧ GrOk w' w.heap.size m ∧ GrIs m (newG r) ∧ Below w.heap.size w w' := by
  have hmm : ∀ wq : World, (Instr.makeMap 60 none).run Tryz.prog wq = .ok (.map (some wq.heap.size)) (wq.alloc (.map #[] 0)) := fun wq => by
    unfold Instr.makeMap
    simp [run_underlying Tryz.underlying60]
  have hbd : ∀ (b : Nat) (wq : World), (Instr.build 104 #[(2, .map (some b))]).run Tryz.prog wq = .ok (.agg #[.slice none 0 0, .slice none 0 0, .map (some b)]) wq := fun b wq => by kernel_rfl
  have V1 : Hid (Below w.heap.size w (((w.alloc (.cells (hC r).toArray 23)).alloc (.map #[] 0)).alloc (.cells #[.slice none 0 0, .slice none 0 0, .map (some (w.heap.size + 1))] 104))) := nxAlloc (nxAlloc (nxAlloc (nxRefl w) _) _) _
  have B1 : Hid (Blk (((w.alloc (.cells (hC r).toArray 23)).alloc (.map #[] 0)).alloc (.cells #[.slice none 0 0, .slice none 0 0, .map (some (w.heap.size + 1))] 104)) (w.heap.size + 2) 104 #[.slice none 0 0, .slice none 0 0, .map (some (w.heap.size + 1))]) := blkNew (by simp) rfl
  have M0 : ((w.alloc (.cells (hC r).toArray 23)).alloc (.map #[] 0)).ownsMap Tryz.prog 23 (plainElem Tryz.prog 3) (w.heap.size + 1) 0 (mapD []) := by
    have := World.ownsMap_made (w.alloc (.cells (hC r).toArray 23)) Tryz.prog 23 (plainElem (H := Unit) Tryz.prog 3)
    rw [World.size_alloc] at this
    exact this
  have M1 : Hid ((((w.alloc (.cells (hC r).toArray 23)).alloc (.map #[] 0)).alloc (.cells #[.slice none 0 0, .slice none 0 0, .map (some (w.heap.size + 1))] 104)).ownsMap Tryz.prog 23 (plainElem Tryz.prog 3) (w.heap.size + 1) 0 (mapD [])) := (Keeps.of_below (nxAlloc (nxRefl _) _) (fun _ => False)).map M0 (fun h => h)
  have R1 : Hid (Blk (((w.alloc (.cells (hC r).toArray 23)).alloc (.map #[] 0)).alloc (.cells #[.slice none 0 0, .slice none 0 0, .map (some (w.heap.size + 1))] 104)) w.heap.size 23 (hC r).toArray) := Blk.alloc (Blk.alloc (show Blk (w.alloc (.cells (hC r).toArray 23)) w.heap.size 23 (hC r).toArray from heap_alloc_new w _) _) _
  have Z1 := Lib.hid (hszL r)
  clear M0
  go_enter Tryz.func64, Tryz.ntmps64
  go_wp2_with (first
    | ((with_reducible show wpList _ _ _ (⟨some 8, _, _, _, _, _⟩ :: _) _ _); refine wpList_load_mid rfl 23 (.tmp 1) rfl w.heap.size 0 rfl (hC r) _ (fun j v hv => by rw [Nat.zero_add, R1.out.cell j]; simpa using hv) Tryz.underlying23 rfl Z1.out ?_)
    | (go_at_call 84; refine (put2_any _ w.heap.size (zeroM (w.heap.size + 2) (w.heap.size + 1)) (zeroM_ok B1.out (by omega) (by omega) M1.out) rfl rfl (fun n h => absurd h (Nat.not_lt_zero _)) (Nat.zero_le _) (fun n h => absurd h (Nat.not_lt_zero _)) r none 0 [] (SeesV.nil) (by simp) (by simp) (fun h => absurd rfl h)).mono ?_; rintro e1 w1 ⟨rfl, m1, hp1⟩; have P1 := Lib.hid hp1; clear hp1))
  go_ret
  have hi := put_is (zeroM_is (w.heap.size + 2) (w.heap.size + 1)) P1.out rfl (by simp) (by simp) (Nat.zero_le _)
  refine ⟨m1, by rw [P1.out.q]; rfl, P1.out.ok, ⟨hi, by simp [newG]⟩, V1.out.trans (P1.out.k.below V1.out.size (fun k hk hf => ?_))⟩
  rcases hf with h | h | h | h | ⟨x, hx, _⟩
  · have : k = w.heap.size + 2 := h; omega
  · have : k = w.heap.size + 1 := h; omega
  · cases h
  · cases h
  · simp [zeroM] at hx
end Go.Proofs.YtbfpckomgpkjgaaGreat

namespace Go.Proofs.YtbfpckomgpkjgaaGreat
open Go.RowKit Go.Maps

/-- From one graph in memory to the next. -/
structure AddTo (w : World) (base : Nat) (m m' : GrM) (w' : World) : Prop where
  ok : GrOk w' base m'
  q : m'.q = m.q
  k : Keeps (foot m) w w'
  f : ∀ k, foot m' k → foot m k ∨ w.heap.size ≤ k
  r : ∀ k, ro m' k → ro m k ∨ w.heap.size ≤ k
def AddPost (w : World) (base : Nat) (m : GrM) (G : Gr) (id : Hh) (ps : List Hh) (e : Ending) (w' : World) : Prop := e = .returned (.int .i64 (addE G id ps : Int)) ∧ ∃ m', AddTo w base m m' w' ∧ GrIs m' (addG G id ps)
theorem make_ints (wq : World) (k : Nat) (hk : k ≤ 1000000) : (Instr.makeSlice 80 (.int .i64 (k : Int)) (.int .i64 (k : Int))).run Tryz.prog wq = .ok (.slice (some ⟨wq.heap.size, 0, none⟩) k k) (wq.alloc (.cells (iC (List.replicate k 0)).toArray 3)) := by
  have e : madeCells #[.int .i64 0] k = (iC (List.replicate k 0)).toArray := by
    apply Array.ext
    · simp [size_madeCells, iC]
    · intro i h1 h2
      simp [madeCells, iC, Nat.mod_one]
  rw [run_make_row' 80 3 (.int .i64 0) 8 Tryz.underlying80 Tryz.dinfoI rfl .i64 .i64 k (by omega) (by omega) wq, e]
theorem iC_set (l : List Nat) (k x : Nat) : (iC l).set k (.int .i64 (x : Int)) = iC (l.set k x) := by unfold iC; rw [List.map_set]
/-- The places so far. -/
def plL (G : Gr) (ps : List Hh) (k : Nat) : List Nat := (ps.take k).map (plE G) ++ List.replicate (ps.length - k) 0
theorem plL_len (G : Gr) (ps : List Hh) {k : Nat} (hk : k ≤ ps.length) : (plL G ps k).length = ps.length := by simp [plL]; omega
theorem plL_next (G : Gr) (ps : List Hh) {k : Nat} (hk : k < ps.length) : (plL G ps k).set k (plE G ps[k]) = plL G ps (k + 1) := by
  have hl : ((ps.take k).map (plE G)).length = k := by simp; omega
  unfold plL
  rw [List.set_append_right _ _ (by omega), hl, Nat.sub_self, List.take_succ_eq_append_getElem hk, List.map_append, List.append_assoc]
  congr 1
  obtain ⟨d, hd⟩ : ∃ d, ps.length - k = d + 1 := ⟨ps.length - k - 1, by omega⟩
  have hd2 : ps.length - (k + 1) = d := by omega
  rw [hd, hd2, List.replicate_succ]
  rfl
set_option maxHeartbeats 4000000 in
set_option maxRecDepth 100000 in
theorem add_any (w : World) (base : Nat) (m : GrM) (G : Gr) (h : GrOk w base m) (hg : GrIs m G) (id : Hh) (A : Option Addr) (c : Nat) (ps : List Hh) (hS : SeesV w w.heap.size A (hsC ps)) (hsz : ps.length ≤ 1000000) (hmx : m.L.length ≤ 999999) :
    Calls Tryz.prog 57 #[.pointer (some ⟨m.q, 0, none⟩), .agg (hC id).toArray, .slice A ps.length c] w (AddPost w base m G id ps) := by
  have V1 : Hid (Below w.heap.size w (w.alloc (.cells (hC id).toArray 23))) := nxAlloc (nxRefl w) _
  have H1 : Hid (GrOk (w.alloc (.cells (hC id).toArray 23)) base m) := h.later V1.out
  have B1 : Hid (Blk (w.alloc (.cells (hC id).toArray 23)) w.heap.size 23 (hC id).toArray) := heap_alloc_new w _
  have S1 : Hid (SeesV (w.alloc (.cells (hC id).toArray 23)) w.heap.size A (hsC ps)) := hS.later V1.out
  have R1 : Hid ((w.alloc (.cells (hC id).toArray 23)).rangeAt w.heap.size 0 (hC id)) := fun j v hv => by rw [Nat.zero_add, B1.out.cell j]; simpa using hv
  have Z1 := Lib.hid (hszL id)
  have HI : Hid (0 < m.ids.length) := by show _ < _; rw [hg.ilen]; exact hg.ne
  have HG := Lib.hid hg
  have HH := Lib.hid h
  have HM : Hid (ps.length ≤ 1000000) := hsz
  have HS0 : Hid (SeesV w w.heap.size A (hsC ps)) := hS
  unfold AddPost
  cases hpl : (placeG G id).isSome with
  | true =>
    have he : addE G id ps = 7 := by unfold addE; rw [if_pos hpl]
    have ha : addG G id ps = G := by unfold addG; rw [if_neg (by rw [he]; decide)]
    have HP := Lib.hid hpl
    have HAg := Lib.hid ha.symm
    rw [he]
    clear he ha hpl h hg hS
    go_enter Tryz.func57, Tryz.ntmps57
    go_wp2_with (first
      | (go_at_call 66; refine (isMade_any _ base m H1.out HI.out).mono ?_; rintro e1 w1 ⟨rfl, hw1⟩; obtain rfl := hw1.symm)
      | ((with_reducible show wpList _ _ _ (⟨some 18, _, _, _, _, _⟩ :: _) _ _); refine wpList_load_mid rfl 23 (.tmp 4) rfl w.heap.size 0 rfl (hC id) _ R1.out Tryz.underlying23 rfl Z1.out ?_)
      | (go_at_call 79; refine (has2_any _ base m G H1.out HG.out id).mono ?_; rw [HP.out]; rintro e2 w2 ⟨rfl, hb2⟩; have V2 : Hid (Below w.heap.size w w2) := nxTo V1.out hb2; have H2 := Lib.hid (H1.out.later hb2); have S2 := Lib.hid (S1.out.later hb2); have B2 := Lib.hid (B1.out.below hb2 B1.out.lt); clear hb2))
    go_ret
    exact ⟨rfl, ⟨m, ⟨H2.out, rfl, Keeps.of_below V2.out _, fun k hk => .inl hk, fun k hk => .inl hk⟩, HAg.out ▸ HG.out⟩⟩
  | false =>
    have HP := Lib.hid hpl
    by_cases h0 : ps = []
    · have he : addE G id ps = 9 := by unfold addE; rw [if_neg (by rw [hpl]; decide), if_pos (.inl h0)]
      have ha : addG G id ps = G := by unfold addG; rw [if_neg (by rw [he]; decide)]
      have HAg := Lib.hid ha.symm
      rw [he]
      have hl0 : ps.length = 0 := by rw [h0]; rfl
      rw [hl0]
      clear he ha hpl h hg hS hl0
      go_enter Tryz.func57, Tryz.ntmps57
      go_wp2_with (first
      | (go_at_call 66; refine (isMade_any _ base m H1.out HI.out).mono ?_; rintro e1 w1 ⟨rfl, hw1⟩; obtain rfl := hw1.symm)
      | ((with_reducible show wpList _ _ _ (⟨some 18, _, _, _, _, _⟩ :: _) _ _); refine wpList_load_mid rfl 23 (.tmp 4) rfl w.heap.size 0 rfl (hC id) _ R1.out Tryz.underlying23 rfl Z1.out ?_)
      | (go_at_call 79; refine (has2_any _ base m G H1.out HG.out id).mono ?_; rw [HP.out]; rintro e2 w2 ⟨rfl, hb2⟩; have V2 : Hid (Below w.heap.size w w2) := nxTo V1.out hb2; have H2 := Lib.hid (H1.out.later hb2); have S2 := Lib.hid (S1.out.later hb2); have B2 := Lib.hid (B1.out.below hb2 B1.out.lt); clear hb2))
      go_ret
      exact ⟨rfl, ⟨m, ⟨H2.out, rfl, Keeps.of_below V2.out _, fun k hk => .inl hk, fun k hk => .inl hk⟩, HAg.out ▸ HG.out⟩⟩
    · have hl0 : 0 < ps.length := by cases ps with | nil => exact absurd rfl h0 | cons a r => simp
      have hle := risH_le ps
      obtain ⟨r, hr⟩ : ∃ r, risH ps = r := ⟨_, rfl⟩
      have HR := Lib.hid hr
      by_cases h1 : (risH ps).length = ps.length
      · rw [hr] at h1 hle
        have hEs : ∀ z, ps.any (fun p => (placeG G p).isNone) = z → addE G id ps = if z then 6 else 0 := fun z hz => by
          unfold addE
          rw [if_neg (by rw [hpl]; decide), if_neg (by rintro (h | h); exact h0 h; exact h (by rw [hr]; exact h1)), hz]
        have HEs := Lib.hid hEs
        have hlt : ¬ ((r.length : Int) < (ps.length : Int)) := by omega
        have hltN : ¬ (r.length < ps.length) := by omega
        have hnn : ((ps.length : Int) == 0) = false := by rw [beq_eq_false_iff_ne]; omega
        have hl64 : ps.length ≤ 1000000 := hsz
        have hmk := fun wq => make_ints wq ps.length hsz
        have Hnd : Hid (ps.Nodup) := (risH_len ps).1 (by rw [hr]; exact h1)
        have HPn : Hid (placeG G id = none) := by show _ = _; cases hq : placeG G id with | none => rfl | some n => rw [hq] at hpl; cases hpl
        obtain ⟨cs0, hcs0⟩ : ∃ cs, (iC (List.replicate ps.length 0)).toArray = cs := ⟨_, rfl⟩
        rw [hcs0] at hmk
        have HC0 : Hid (cs0 = (iC (plL G ps 0)).toArray) := by show _ = _; rw [← hcs0]; simp [plL]
        have HL0 := Lib.hid h0
        clear hpl h hg hS hr hEs hcs0 h1 hle h0
        go_enter Tryz.func57, Tryz.ntmps57
        go_wp2_with (first
      | (go_at_call 66; refine (isMade_any _ base m H1.out HI.out).mono ?_; rintro e1 w1 ⟨rfl, hw1⟩; obtain rfl := hw1.symm)
      | ((with_reducible show wpList _ _ _ (⟨some 18, _, _, _, _, _⟩ :: _) _ _); refine wpList_load_mid rfl 23 (.tmp 4) rfl w.heap.size 0 rfl (hC id) _ R1.out Tryz.underlying23 rfl Z1.out ?_)
      | (go_at_call 79; refine (has2_any _ base m G H1.out HG.out id).mono ?_; rw [HP.out]; rintro e2 w2 ⟨rfl, hb2⟩; have V2 : Hid (Below w.heap.size w w2) := nxTo V1.out hb2; have H2 := Lib.hid (H1.out.later hb2); have S2 := Lib.hid (S1.out.later hb2); have B2 := Lib.hid (B1.out.below hb2 B1.out.lt); clear hb2)
      | (go_at_call 38; refine (sorted_any w2 A ps c ((S2.out).more V2.out.size) HM.out).mono ?_; unfold SortPost; rw [HR.out]; rintro e3 w3 ⟨A3, c3, rfl, ho3, hb3⟩; have V3 : Hid (Below w.heap.size w w3) := nxTo V2.out hb3; have H3 := Lib.hid (H2.out.later hb3); have S3 := Lib.hid (S2.out.later hb3); have B3 := Lib.hid (B2.out.below hb3 B2.out.lt); clear ho3 hb3))
        clear hmk
        obtain ⟨gR, hgR⟩ : ∃ gR, w3.heap.size = gR := ⟨_, rfl⟩
        have hgw : w.heap.size ≤ gR := by rw [← hgR]; exact V3.out.size
        have V4 : Hid (Below w.heap.size w (w3.alloc (.cells cs0 3))) := nxAlloc V3.out _
        have H4 : Hid (GrOk (w3.alloc (.cells cs0 3)) base m) := H3.out.later (nxAlloc (nxRefl _) _)
        have B4 : Hid (Blk (w3.alloc (.cells cs0 3)) w.heap.size 23 (hC id).toArray) := B3.out.alloc _
        have C4 : Hid (Blk (w3.alloc (.cells cs0 3)) gR 3 (iC (plL G ps 0)).toArray) := by have := HC0.out; exact blkNew hgR.symm this
        have hlt4 : Hid (gR < (w3.alloc (.cells cs0 3)).heap.size) := C4.out.lt
        rw [hgR]
        have HB9 : Hid (w.heap.size < gR) := by show _ < _; rw [← hgR]; exact Nat.lt_of_lt_of_le B3.out.lt (Nat.le_refl _)
        clear V3 H3 B3 S3 V2 H2 S2 B2 V1 H1 B1 R1
        generalize w3.alloc (.cells cs0 3) = W4 at *
        go_loopw [37] (fun iv wr => ∃ k : Nat, k ≤ ps.length ∧ iv = .int .i64 k ∧ Hid (Blk wr gR 3 (iC (plL G ps k)).toArray) ∧ Hid (Keeps (fun j => j = gR) W4 wr) ∧ Hid (∀ j (hj : j < ps.length), j < k → (placeG G ps[j]).isSome = true)) (fun iv _ => ps.length - (intOf iv).toNat)
        case atStart => exact ⟨0, by omega, rfl, C4.out, Keeps.refl _ _, fun j _ hj => absurd hj (Nat.not_lt_zero _)⟩
        case round =>
          clear C4
          obtain ⟨k, hk, rfl, HC, HK, HA⟩ := hrel
          have VR : Hid (Below w.heap.size w wr) := V4.out.trans (HK.out.below V4.out.size (fun j hj e => by have e2 : j = gR := e; omega))
          have GR : Hid (GrOk wr base m) := H4.out.keeps HK.out (fun j hj e => by have e2 : j = gR := e; have := HH.out.tlt hj; omega)
          by_cases hlt5 : k < ps.length
          · have hsr : SeesV wr w.heap.size A (hsC ps) := (show SeesV w w.heap.size A (hsC ps) from HS0.out).below VR.out
            obtain ⟨b, off, rfl, hbb, hrg⟩ := sees_hash hsr hlt5
            have hr0 := hrg k hlt5
            obtain ⟨x, hx⟩ : ∃ x : Hh, ps[k] = x := ⟨ps[k], rfl⟩
            have hnx := plL_next G ps hlt5
            rw [hx] at hr0 hnx
            have HX : Hid (ps[k] = x) := hx
            have HNx := Lib.hid hnx
            have RX := Lib.hid hr0
            have ZX := Lib.hid (hszL x)
            have ZB := Lib.hid (hszB x)
            have hcl : k < (plL G ps k).length := by rw [plL_len G ps hk]; exact hlt5
            have HCl : Hid (∃ v, wr.cell? ⟨gR, k, none⟩ = some v) := ⟨_, by rw [HC.out.cell, List.getElem?_toArray, List.getElem?_eq_getElem (by rw [iC_len]; exact hcl)]⟩
            have N0 : Hid (Blk (wr.alloc (.cells (hC zH).toArray 23)) wr.heap.size 23 (hC zH).toArray) := heap_alloc_new wr _
            have N1 : Hid (Below wr.heap.size wr (wr.alloc (.cells (hC zH).toArray 23))) := nxAlloc (nxRefl wr) _
            clear hr0 hrg hx hnx hsr
            have hv : plV G x = .tuple #[.int .i64 (plE G x : Int), .bool (placeG G x).isSome] := rfl
            cases hz : (placeG G x).isSome with
            | false =>
              rw [hz] at hv
              have HV := Lib.hid hv
              have HZ := Lib.hid hz
              clear hv hz
              go_wp2_with (first
                | ((with_reducible show wpList _ _ _ (⟨some 41, _, _, _, _, _⟩ :: _) _ _); refine wpList_load_mid rfl 23 (.tmp 40) rfl b (off + k * 32) rfl (hC x) _ RX.out Tryz.underlying23 rfl ZX.out ?_)
                | ((with_reducible show wpList _ _ _ (⟨none, .store 23 _ _, _, _, _, _⟩ :: _) _ _); refine wpList_store_all rfl 23 (.tmp 9) (.tmp 41) rfl wr.heap.size 23 (hC zH).toArray (hC x).toArray rfl rfl N0.out (by rw [List.size_toArray, List.size_toArray, hC_len, hC_len]) ZB.out (hC_one x) ?_; intro w5 h5 h6 h7; have B5 := Lib.hid h5; have V5 : Hid (Below wr.heap.size wr w5) := N1.out.trans (h6.below N1.out.size (fun k hk => by omega)); clear h5 h6 h7)
                | ((with_reducible show wpList _ _ _ (⟨some 44, _, _, _, _, _⟩ :: _) _ _); refine wpList_load_mid rfl 23 (.tmp 9) rfl wr.heap.size 0 rfl (hC x) _ (fun j v hv => by rw [Nat.zero_add, B5.out.cell j]; simpa using hv) Tryz.underlying23 rfl ZX.out ?_)
                | (go_at_call 83; refine (place_any w5 base m G (GR.out.later V5.out) HG.out x).mono ?_; rw [HV.out]; rintro e6 w6 ⟨rfl, hb6⟩; have V6 : Hid (Below wr.heap.size wr w6) := nxTo V5.out hb6; (obtain ⟨vx, hvx⟩ := HCl.out); have c6 : w6.cell? ⟨gR, k, none⟩ = some vx := ((V6.out.cell (p := ⟨gR, k, none⟩) HC.out.lt).trans hvx); have f6 : w6.frozen? ⟨gR, k, none⟩ = false := (HC.out.below V6.out HC.out.lt).frozen k; clear hb6))
              go_ret
              have he : addE G id ps = 6 := HEs.out true (List.any_eq_true.2 ⟨ps[k], List.getElem_mem hlt5, by rw [HX.out, Option.isNone_iff_eq_none]; have h9 := HZ.out; cases hq : placeG G x with | none => rfl | some n => rw [hq] at h9; cases h9⟩)
              have ha : addG G id ps = G := by unfold addG; rw [if_neg (by rw [he]; decide)]
              rw [he, ha]
              exact ⟨rfl, m, ⟨GR.out.later V6.out, rfl, Keeps.of_below (VR.out.trans (V6.out.mono (by have := VR.out.size; omega))) _, fun k hk => .inl hk, fun k hk => .inl hk⟩, HG.out⟩
            | true =>
              rw [hz] at hv
              have HV := Lib.hid hv
              have HZ := Lib.hid hz
              clear hv hz
              go_wp2_with (first
                | ((with_reducible show wpList _ _ _ (⟨some 41, _, _, _, _, _⟩ :: _) _ _); refine wpList_load_mid rfl 23 (.tmp 40) rfl b (off + k * 32) rfl (hC x) _ RX.out Tryz.underlying23 rfl ZX.out ?_)
                | ((with_reducible show wpList _ _ _ (⟨none, .store 23 _ _, _, _, _, _⟩ :: _) _ _); refine wpList_store_all rfl 23 (.tmp 9) (.tmp 41) rfl wr.heap.size 23 (hC zH).toArray (hC x).toArray rfl rfl N0.out (by rw [List.size_toArray, List.size_toArray, hC_len, hC_len]) ZB.out (hC_one x) ?_; intro w5 h5 h6 h7; have B5 := Lib.hid h5; have V5 : Hid (Below wr.heap.size wr w5) := N1.out.trans (h6.below N1.out.size (fun k hk => by omega)); clear h5 h6 h7)
                | ((with_reducible show wpList _ _ _ (⟨some 44, _, _, _, _, _⟩ :: _) _ _); refine wpList_load_mid rfl 23 (.tmp 9) rfl wr.heap.size 0 rfl (hC x) _ (fun j v hv => by rw [Nat.zero_add, B5.out.cell j]; simpa using hv) Tryz.underlying23 rfl ZX.out ?_)
                | (go_at_call 83; refine (place_any w5 base m G (GR.out.later V5.out) HG.out x).mono ?_; rw [HV.out]; rintro e6 w6 ⟨rfl, hb6⟩; have V6 : Hid (Below wr.heap.size wr w6) := nxTo V5.out hb6; (obtain ⟨vx, hvx⟩ := HCl.out); have c6 : w6.cell? ⟨gR, k, none⟩ = some vx := ((V6.out.cell (p := ⟨gR, k, none⟩) HC.out.lt).trans hvx); have f6 : w6.frozen? ⟨gR, k, none⟩ = false := (HC.out.below V6.out HC.out.lt).frozen k; clear hb6))
              go_roundw
              case rel =>
                have hK6 : Keeps (fun j => j = gR) W4 w6 := HK.out.trans (Keeps.of_below V6.out _)
                refine ⟨k + 1, by omega, by go_num, ?_, hK6.setCell (p := ⟨gR, k, none⟩) rfl _, fun j hj hjk => ?_⟩
                · have h9 := (HC.out.below V6.out HC.out.lt).set k (.int .i64 (plE G x : Int))
                  rw [List.setIfInBounds_toArray, iC_set, HNx.out] at h9
                  exact h9
                · by_cases hjk2 : j < k
                  · exact HA.out j hj hjk2
                  · obtain rfl : j = k := by omega
                    rw [HX.out]; exact HZ.out
              case measure => simp [intOf] <;> omega
          · obtain rfl : k = ps.length := by omega
            have hpl9 : plL G ps ps.length = ps.map (plE G) := by unfold plL; rw [List.take_length, Nat.sub_self, List.replicate_zero, List.append_nil]
            have hC9 := HC.out
            rw [hpl9] at hC9
            have hsome : ∀ p ∈ ps, ∃ n, placeG G p = some n := fun p hp => by
              obtain ⟨j, hj, rfl⟩ := List.getElem_of_mem hp
              have h9 := HA.out j hj hj
              cases hq : placeG G ps[j] with
              | none => rw [hq] at h9; cases h9
              | some n => exact ⟨n, rfl⟩
            have he : addE G id ps = 0 := HEs.out false (by
              rw [List.any_eq_false]
              intro p hp
              obtain ⟨n, hn⟩ := hsome p hp
              rw [hn]; simp)
            have HE0 := Lib.hid he
            have hpar : (addN G id ps).par = ps.map (plE G) := rfl
            have hlt9 : ∀ p ∈ ps.map (plE G), p < m.L.length := by rw [HG.out.len]; exact addN_lt he
            have hnd9 : (ps.map (plE G)).Nodup := addN_nodup he
            have hsee : SeesV wr wr.heap.size (some ⟨gR, 0, none⟩) (iC (ps.map (plE G))) := SeesV.blk hC9
            have hput := put2_any wr base m GR.out (by rw [HG.out.ilen, HG.out.len]) (by rw [HG.out.ks, HG.out.ilen, HG.out.len]) (fun n hn => ⟨(HG.out.row n hn).1, (HG.out.row n hn).2.1⟩) hmx (fun n hn => Nat.le_trans (len_le_of (HG.out.kdis n hn) (fun p hp => parG_lt ((HG.out.kids n hn p).1 hp))) (by rw [← HG.out.len]; omega)) id (some ⟨gR, 0, none⟩) ps.length (ps.map (plE G)) hsee hlt9 hnd9 (fun _ k e hf => by
              have e2 : gR = k := by injection e
              have := (HH.out.lt hf).2
              omega)
            rw [List.length_map] at hput
            have HPut := Lib.hid hput
            have HN9 := Lib.hid hnd9
            have HL9 : Hid (∀ p ∈ ps.map (plE G), p < G.length) := addN_lt he
            have R9 : Hid (wr.rangeAt w.heap.size 0 (hC id)) := by
              have hb9 := B4.out.keeps HK.out (by show ¬ w.heap.size = gR; have := HB9.out; omega)
              exact fun j v hv => by rw [Nat.zero_add, hb9.cell j]; simpa using hv
            clear hput hnd9 hlt9 hC9 hpl9 hsee hsome he hpar
            go_wp2_with (first
              | ((with_reducible show wpList _ _ _ (⟨some 56, _, _, _, _, _⟩ :: _) _ _); refine wpList_load_mid rfl 23 (.tmp 4) rfl w.heap.size 0 rfl (hC id) _ R9.out Tryz.underlying23 rfl Z1.out ?_)
              | (go_at_call 84; refine HPut.out.mono ?_; rintro e8 w8 ⟨rfl, m8, hp8⟩; have P8 := Lib.hid hp8; clear hp8))
            go_ret
            rw [HE0.out]
            have ha : addG G id ps = G ++ [⟨id, ps.map (plE G)⟩] := by unfold addG; rw [if_pos HE0.out]; rfl
            rw [ha]
            have hi := put_is HG.out.toGrI0 P8.out HPn.out HL9.out HN9.out hmx
            have hszr := VR.out.size
            refine ⟨rfl, m8, ⟨P8.out.ok, P8.out.q, (Keeps.of_below VR.out _).trans P8.out.k, fun k hf => (P8.out.f k hf).imp (fun h => h) (fun h => by omega), fun k hr => ?_⟩, ⟨hi, by simp⟩⟩
            rcases P8.out.r k hr with h9 | h9 | ⟨_, h9⟩
            · exact .inl h9
            · exact .inr (by omega)
            · exact .inr (by have e2 : gR = k := by injection h9
                             omega)
      · have he : addE G id ps = 9 := by unfold addE; rw [if_neg (by rw [hpl]; decide), if_pos (.inr h1)]
        have ha : addG G id ps = G := by unfold addG; rw [if_neg (by rw [he]; decide)]
        have HAg := Lib.hid ha.symm
        rw [he]
        rw [hr] at h1 hle
        have hlt : (r.length : Int) < (ps.length : Int) := by omega
        have hl64 : ps.length ≤ 1000000 := hsz
        clear he ha hpl h hg hS hr
        go_enter Tryz.func57, Tryz.ntmps57
        go_wp2_with (first
      | (go_at_call 66; refine (isMade_any _ base m H1.out HI.out).mono ?_; rintro e1 w1 ⟨rfl, hw1⟩; obtain rfl := hw1.symm)
      | ((with_reducible show wpList _ _ _ (⟨some 18, _, _, _, _, _⟩ :: _) _ _); refine wpList_load_mid rfl 23 (.tmp 4) rfl w.heap.size 0 rfl (hC id) _ R1.out Tryz.underlying23 rfl Z1.out ?_)
      | (go_at_call 79; refine (has2_any _ base m G H1.out HG.out id).mono ?_; rw [HP.out]; rintro e2 w2 ⟨rfl, hb2⟩; have V2 : Hid (Below w.heap.size w w2) := nxTo V1.out hb2; have H2 := Lib.hid (H1.out.later hb2); have S2 := Lib.hid (S1.out.later hb2); have B2 := Lib.hid (B1.out.below hb2 B1.out.lt); clear hb2)
      | (go_at_call 38; refine (sorted_any w2 A ps c ((S2.out).more V2.out.size) HM.out).mono ?_; unfold SortPost; rw [HR.out]; rintro e3 w3 ⟨A3, c3, rfl, ho3, hb3⟩; have V3 : Hid (Below w.heap.size w w3) := nxTo V2.out hb3; have H3 := Lib.hid (H2.out.later hb3); have S3 := Lib.hid (S2.out.later hb3); have B3 := Lib.hid (B2.out.below hb3 B2.out.lt); clear ho3 hb3))
        go_ret
        exact ⟨rfl, ⟨m, ⟨H3.out, rfl, Keeps.of_below V3.out _, fun k hk => .inl hk, fun k hk => .inl hk⟩, HAg.out ▸ HG.out⟩⟩
end Go.Proofs.YtbfpckomgpkjgaaGreat
