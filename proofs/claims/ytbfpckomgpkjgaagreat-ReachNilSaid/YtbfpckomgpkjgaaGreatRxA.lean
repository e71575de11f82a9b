/-
  reach: one that came is put into the covers of all that it covers.
-/
import Derived.Test.YtbfpckomgpkjgaaGreatRx9
import Derived.Deep.DeepCutAuto
import Derived.Deep.CutBlock
namespace Go.Proofs.YtbfpckomgpkjgaaGreat
open Go.RowKit Go.Maps

/-- The places of one's parents, as they are handed out. -/
def plF (G : Gr) (q : Nat) : List Nat := (srtH ((parG G q).map (idG G))).map (plE G)
theorem plE_id {G : Gr} (o : OkG G) {n : Nat} (hn : n < G.length) : plE G (idG G n) = n := by unfold plE; rw [placeG_id o hn]; rfl
theorem plF_mem {G : Gr} (o : OkG G) {q m : Nat} : m ∈ plF G q ↔ m ∈ parG G q := by
  unfold plF
  rw [List.mem_map]
  constructor
  · rintro ⟨x, hx, rfl⟩
    obtain ⟨n, hn, rfl⟩ := List.mem_map.1 (mem_srtH.1 hx)
    rw [plE_id o (Nat.lt_trans (o.par q n hn) (parG_lt hn))]
    exact hn
  · intro h
    exact ⟨idG G m, mem_srtH.2 (List.mem_map.2 ⟨m, h, rfl⟩), plE_id o (Nat.lt_trans (o.par q m h) (parG_lt h))⟩
theorem plF_at {G : Gr} {q j : Nat} (hj : j < (srtH ((parG G q).map (idG G))).length) : (plF G q)[j]? = some (plE G (srtH ((parG G q).map (idG G)))[j]) := by
  unfold plF
  rw [List.getElem?_map, List.getElem?_eq_getElem hj]
  rfl
theorem covR_of {m : RxM} (hI : TrI m.t) {k : Nat} (hk : k ≤ 1000000000) (hc : ∀ c ∈ m.C k, c < m.t.T.length) (hs : (m.C k).Pairwise (Lft m.t.T)) : CovR m k where
  i := hI
  b := hk
  c := hc
  s := hs
  l := by
    have hd : (m.C k).Nodup := by
      refine (List.pairwise_iff_getElem.2 fun i j hi hj hij => ?_)
      exact lft_ne hI.iv (hc _ (List.getElem_mem hi)) (List.pairwise_iff_getElem.1 hs i j hi hj hij)
    have := hd.length_le_of_subset (l₂ := List.range m.t.T.length) fun x hx => List.mem_range.2 (hc x hx)
    have h2 := hI.ok.max
    rw [List.length_range] at this
    omega
theorem rx_num2 {w : World} {base : Nat} {m : RxM} {G : Gr} (h : RxOk w base m) (ho : OkG G) (hi : m.ids = G.map NodeG.id) (hks : m.ks = m.ids) (x : Hh) : (Instr.lookup 60 (.map (some m.nb)) (.agg (hC x).toArray) false).run Tryz.prog w = .ok (.int .i64 (plE G x : Int)) w := by
  have hm := h.map
  rw [hks, hi] at hm
  obtain ⟨hh, ha⟩ := mapD_place ho x
  obtain ⟨c, hr, hc, _⟩ := hm.lookup_int hLaw Tryz.underlying60 Tryz.underlying3 (Tryz.zeroValue3 w) (keyOf_h x)
  have h3 : (DataW.lit (.int .i64 (plE G x : Int)) : DataW Unit) = .lit (.int .i64 c) := by
    rw [← hc, ha]
    unfold plE
    cases placeG G x <;> rfl
  have h4 : (plE G x : Int) = c := congrArg litI h3
  rw [hr, h4]
theorem CvK.hash {w w' : World} {base : Nat} {m m' : RxM} {A A' : Option Addr} {w0 c : Nat} {Q : List Nat} (h : CvK w m A w' m' A') (hW : CvW w0 base m Q A c w) {b n c5 : Nat} {A5 : Option Addr} {xs : List Value} (ho : w.ownsRow b 23 32 (.slice A5 n c5) n xs) : w'.ownsRow b 23 32 (.slice A5 n c5) n xs :=
  h.k.own ho fun k e e' => by
    obtain ⟨_, cur, hB⟩ := own_blk ho e
    rcases e' with (e' | ⟨j, e'⟩) | e'
    · exact map_ne hW.ok.cov hB e'
    · obtain ⟨_, cur', hB'⟩ := own_blk (hW.ok.row j) e'
      exact absurd (tblk_tag hB hB') (by decide)
    · obtain ⟨_, cur', hB'⟩ := own_blk hW.qo e'
      exact absurd (tblk_tag hB hB') (by decide)
/-- What cover leaves. -/
def CovPost (w : World) (base : Nat) (m : RxM) (G' : Gr) (e : Ending) (w' : World) : Prop :=
  e = .returned (.tuple #[]) ∧ ∃ m', RxOk w' base m' ∧ SameG m m' ∧ IxOk G' m.t.T m'.C ∧ m'.cn ≤ m.cn + 1000 ∧ Keeps (rcov m) w w' ∧ ∀ b, rcov m' b → rcov m b ∨ w.heap.size ≤ b
set_option maxRecDepth 100000 in
set_option maxHeartbeats 8000000 in
theorem rx_cover (w : World) (base : Nat) (m : RxM) (G : Gr) (T : List Nd) (G' : Gr) (p : Nat) (h : RxOk w base m) (o : CvO G T m.C G' m.t.T p) (hg : GrIs m.g G') (hI : TrI m.t) (hids : m.ids = G'.map NodeG.id) (hks : m.ks = m.ids) (hcn : m.cn ≤ 1000000000) (hb : base ≤ w.heap.size) :
    Calls Tryz.prog 59 #[.pointer (some ⟨m.q, 0, none⟩), .int .i64 (T.length : Int)] w (CovPost w base m G') := by
  unfold CovPost
  obtain ⟨C0, hC0⟩ : ∃ C0, m.C = C0 := ⟨_, rfl⟩
  rw [hC0] at o
  have HO := Lib.hid o
  have HG := Lib.hid hg
  have HI := Lib.hid hI
  have HIds := Lib.hid hids
  have HKs := Lib.hid hks
  have HCn0 := Lib.hid hcn
  have HBs := Lib.hid hb
  obtain ⟨l1, l2⟩ := o.len
  have hTl := o.I.len
  have hmx := hI.ok.max
  have HLn : Hid (T.length + 1 = G'.length ∧ m.t.L.length = T.length + 1 ∧ T.length + 1 ≤ 1000) := by
    show _ ∧ _ ∧ _
    have := m.t.T_len
    omega
  have hmt : T.length + 1 ≤ 1000 := HLn.out.2.2
  obtain ⟨i2, hi2, hz0, hz1, hz2⟩ := info_parts Tryz.tinfoI
  have B0 : Blk (w.alloc (.cells #[.int .i64 (T.length : Int)] 3)) w.heap.size 3 #[.int .i64 (T.length : Int)] := heap_alloc_new w _
  have hW0 : CvW w.heap.size base m [T.length] (some ⟨w.heap.size, 0, none⟩) 1 (w.alloc (.cells #[.int .i64 (T.length : Int)] 3)) :=
    ⟨h.later (nxAlloc (nxRefl w) _), by
      have h9 := own_made (base := w.heap.size) (n := 1) (c := 1) (size := 1) (cs := [.int .i64 (T.length : Int)]) B0 (Nat.le_refl _) (by omega) (by simp [maxLen]) rfl
      exact h9, fun b e e' => by cases e; have := h.tlt e'; simp at this⟩
  have HW0 := Lib.hid hW0
  have HS0 : Hid (CvI (plF G') G' m.t.T C0 m.C T.length [T.length] 0 0) := by show CvI _ _ _ _ _ _ _ _ _; rw [hC0]; exact CvI.start _ _ _ _ _
  have VW0 : Hid (Below w.heap.size w (w.alloc (.cells #[.int .i64 (T.length : Int)] 3))) := nxAlloc (nxRefl w) _
  have HR0 := Lib.hid h
  clear h o hg hI hids hks hcn hb B0 hW0 hC0 l1 l2 hTl hmx
  go_enter Tryz.func59, Tryz.ntmps59
  go_wp2
  generalize hWW : w.alloc (.cells #[.int .i64 (T.length : Int)] 3) = W0 at *
  clear hWW
  go_loopw [4, 5] (fun qv iv wr => ∃ (Q : List Nat) (i : Nat) (A : Option Addr) (c : Nat) (mr : RxM), i ≤ Q.length ∧ Q.length ≤ T.length + 1 ∧ qv = .slice A Q.length c ∧ iv = .int .i64 i ∧ Hid (CvW w.heap.size base mr Q A c wr) ∧ Hid (CvI (plF G') G' m.t.T C0 mr.C T.length Q i 0) ∧ Hid (mr.cn + 1 ≤ m.cn + Q.length) ∧ Hid (CvK W0 m (some ⟨w.heap.size, 0, none⟩) wr mr A)) (fun _ iv _ => 1002 - (intOf iv).toNat)
  case atStart => exact ⟨[T.length], 0, _, 1, m, by simp, by simp, rfl, rfl, HW0.out, HS0.out, (by show _ ≤ _; simp), CvK.refl _ _ _⟩
  case round =>
    clear HW0 HS0
    obtain ⟨Q, i, A, c, mr, hi, hql, rfl, rfl, HW, HV, HCm0, HK⟩ := hrel
    by_cases hlt : i < Q.length
    · obtain ⟨q, hq⟩ : ∃ q, Q[i] = q := ⟨_, rfl⟩
      have hqi : Q[i]? = some q := by rw [List.getElem?_eq_getElem hlt, hq]
      have hqN : q ≤ T.length := HV.out.le HO.out.g (List.mem_of_getElem? hqi)
      have hs := HK.out.same
      have hqg : q < G'.length := by have := HLn.out; omega
      have hWd : CvW w.heap.size base mr Q A c wr.drew := HW.out.later (rxDr (nxRefl _))
      have hq2 : q < mr.ids.length := by rw [hs.ids, HIds.out]; simpa using hqg
      obtain ⟨gi, hgi1, hgi2, hgi3⟩ := hWd.ok.ci hq2
      obtain ⟨hid, hhid⟩ : ∃ x, idG G' q = x := ⟨_, rfl⟩
      have hidq : mr.ids[q] = hid := by
        rw [← hhid, idG_at hqg]
        simp [hs.ids, HIds.out]
      rw [hidq] at hgi3
      obtain ⟨gq, hA, hgq1, hgq2, hqc⟩ := town_row hWd.qo (by rw [tiC_len]; omega)
      have hcq : wr.drew.cell? ⟨gq, i, none⟩ = some (.int .i64 (q : Int)) := by rw [(hqc i _ (tiC_get hlt)).1, hq]
      obtain ⟨L, hL⟩ : ∃ L, G'.length = L := ⟨_, rfl⟩
      have hc0 : wr.drew.cell? ⟨m.q, 0, none⟩ = some (.pointer (some ⟨m.g.q, 0, none⟩)) := by rw [← hs.q, ← hs.g]; exact hWd.ok.c.1
      have hc2 : wr.drew.cell? ⟨m.q, 2, none⟩ = some (.slice (some ⟨gi, 0, none⟩) L m.ic) := by
        have h9 := hWd.ok.c.2.2.1
        rw [hgi1, hs.q, hs.ids, hs.ic, HIds.out] at h9
        rw [h9, List.length_map, hL]
      have HN4 : Hid (∀ W, Below wr.heap.size wr W → W.cell? ⟨m.q, 0, none⟩ = some (.pointer (some ⟨m.g.q, 0, none⟩)) ∧ W.cell? ⟨m.q, 2, none⟩ = some (.slice (some ⟨gi, 0, none⟩) L m.ic) ∧ W.cell? ⟨gq, i, none⟩ = some (.int .i64 (q : Int)) ∧ W.rangeAt gi (q * 32) (hC hid)) := fun W hV => by
        have hQ9 : m.q < wr.heap.size := World.block_lt_of_cell? _ _ hc0
        exact ⟨(hV.cell (p := ⟨m.q, 0, none⟩) hQ9).trans hc0, (hV.cell (p := ⟨m.q, 2, none⟩) hQ9).trans hc2, (hV.cell (p := ⟨gq, i, none⟩) hgq2).trans hcq, rngK hgi3 ⟨hV.os, hV.tape, hV.output, hV.size, hV.block⟩ hgi2⟩
      have HGd : GrOk wr.drew base m.g := by rw [← hs.g]; exact hWd.ok.g
      have hpq : placeG G' hid = some q := by rw [← hhid]; exact placeG_id HO.out.g hqg
      have HPa := Lib.hid (parents_own wr.drew base m.g G' HGd HG.out hid q hpq)
      have hin : (i : Int) < (Q.length : Int) := by omega
      have hqL : (q : Int) < (L : Int) := by omega
      have HQi := Lib.hid hqi
      have hN0 := HN4.out wr.drew (rxDr (nxRefl _))
      subst hA
      clear hq hs hWd hq2 hgi1 hgi2 hgi3 hidq hgq1 hgq2 hqc hcq hc0 hc2 HGd hpq hqi
      go_wp2
      refine wp_region_held_drew (S := fun W => W.cell? ⟨m.q, 0, none⟩ = some (.pointer (some ⟨m.g.q, 0, none⟩)) ∧ W.cell? ⟨m.q, 2, none⟩ = some (.slice (some ⟨gi, 0, none⟩) L m.ic) ∧ W.cell? ⟨gq, i, none⟩ = some (.int .i64 (q : Int)) ∧ W.rangeAt gi (q * 32) (hC hid)) (by kernel_rfl) hN0 (fun hHeld => ?_)
      refine wpAnyH_take (i := 0) (oi := ⟨_, _, _, _, _, _⟩) (v := ?_) rfl (by kernel_rfl) (by kernel_rfl) (by kernel_rfl) (fun _ _ _ h => h) (Or.inl ⟨by rfl, ?_⟩) (by assumption) ?_
      rotate_left 1
      · intro W hSw
        try dsimp only at hSw
        obtain ⟨hs1, hs2, hs3, hs4⟩ := hSw
        go_simp
        try with_reducible rfl
      try simp only [Act.put, List.setIfInBounds_toArray, List.set_cons_zero, List.set_cons_succ]
      refine wpAnyH_take (i := 1) (oi := ⟨_, _, _, _, _, _⟩) (v := ?_) rfl (by kernel_rfl) (by kernel_rfl) (by kernel_rfl) (fun _ _ _ h => h) (Or.inl ⟨by rfl, ?_⟩) (by assumption) ?_
      rotate_left 1
      · intro W hSw
        try dsimp only at hSw
        obtain ⟨hs1, hs2, hs3, hs4⟩ := hSw
        go_simp
        try with_reducible rfl
      try simp only [Act.put, List.setIfInBounds_toArray, List.set_cons_zero, List.set_cons_succ]
      refine wpAnyH_take (i := 2) (oi := ⟨_, _, _, _, _, _⟩) (v := ?_) rfl (by kernel_rfl) (by kernel_rfl) (by kernel_rfl) (fun _ _ _ h => h) (Or.inl ⟨by rfl, ?_⟩) (by assumption) ?_
      rotate_left 1
      · intro W hSw
        try dsimp only at hSw
        obtain ⟨hs1, hs2, hs3, hs4⟩ := hSw
        go_simp
        try with_reducible rfl
      try simp only [Act.put, List.setIfInBounds_toArray, List.set_cons_zero, List.set_cons_succ]
      refine wpAnyH_take (i := 3) (oi := ⟨_, _, _, _, _, _⟩) (v := ?_) rfl (by kernel_rfl) (by kernel_rfl) (by kernel_rfl) (fun _ _ _ h => h) (Or.inl ⟨by rfl, ?_⟩) (by assumption) ?_
      rotate_left 1
      · intro W hSw
        try dsimp only at hSw
        obtain ⟨hs1, hs2, hs3, hs4⟩ := hSw
        go_simp
        try with_reducible rfl
      try simp only [Act.put, List.setIfInBounds_toArray, List.set_cons_zero, List.set_cons_succ]
      refine wpAnyH_take (i := 4) (oi := ⟨_, _, _, _, _, _⟩) (v := ?_) rfl (by kernel_rfl) (by kernel_rfl) (by kernel_rfl) (fun _ _ _ h => h) (Or.inl ⟨by rfl, ?_⟩) (by assumption) ?_
      rotate_left 1
      · intro W hSw
        try dsimp only at hSw
        obtain ⟨hs1, hs2, hs3, hs4⟩ := hSw
        go_simp
        try with_reducible rfl
      try simp only [Act.put, List.setIfInBounds_toArray, List.set_cons_zero, List.set_cons_succ]
      refine wpAnyH_take (i := 5) (oi := ⟨_, _, _, _, _, _⟩) (v := ?_) rfl (by kernel_rfl) (by kernel_rfl) (by kernel_rfl) (fun _ _ _ h => h) (Or.inl ⟨by rfl, ?_⟩) (by assumption) ?_
      rotate_left 1
      · intro W hSw
        try dsimp only at hSw
        obtain ⟨hs1, hs2, hs3, hs4⟩ := hSw
        go_simp
        try with_reducible rfl
      try simp only [Act.put, List.setIfInBounds_toArray, List.set_cons_zero, List.set_cons_succ]
      refine wpAnyH_take (i := 6) (oi := ⟨_, _, _, _, _, _⟩) (v := ?_) rfl (by kernel_rfl) (by kernel_rfl) (by kernel_rfl) (fun _ _ _ h => h) (Or.inl ⟨by rfl, ?_⟩) (by assumption) ?_
      rotate_left 1
      · intro W hSw
        try dsimp only at hSw
        obtain ⟨hs1, hs2, hs3, hs4⟩ := hSw
        go_simp
        try with_reducible rfl
      try simp only [Act.put, List.setIfInBounds_toArray, List.set_cons_zero, List.set_cons_succ]
      refine wpAnyH_take (i := 7) (oi := ⟨_, _, _, _, _, _⟩) (v := ?_) rfl (by kernel_rfl) (by kernel_rfl) (by kernel_rfl) (fun _ _ _ h => h) (Or.inl ⟨by rfl, ?_⟩) (by assumption) ?_
      rotate_left 1
      · intro W hSw
        try dsimp only at hSw
        obtain ⟨hs1, hs2, hs3, hs4⟩ := hSw
        go_simp
        try with_reducible rfl
      try simp only [Act.put, List.setIfInBounds_toArray, List.set_cons_zero, List.set_cons_succ]
      refine wpAnyH_take (i := 8) (oi := ⟨_, _, _, _, _, _⟩) (v := ?_) rfl (by kernel_rfl) (by kernel_rfl) (by kernel_rfl) (fun _ _ _ h => h) (Or.inl ⟨by rfl, ?_⟩) (by assumption) ?_
      rotate_left 1
      · intro W hSw
        try dsimp only at hSw
        obtain ⟨hs1, hs2, hs3, hs4⟩ := hSw
        go_simp
        try with_reducible rfl
      try simp only [Act.put, List.setIfInBounds_toArray, List.set_cons_zero, List.set_cons_succ]
      refine wpAnyH_take (i := 9) (oi := ⟨_, _, _, _, _, _⟩) (v := ?_) rfl (by kernel_rfl) (by kernel_rfl) (by kernel_rfl) (fun _ _ _ h => h) (Or.inl ⟨by rfl, ?_⟩) (by assumption) ?_
      rotate_left 1
      · intro W hSw
        try dsimp only at hSw
        obtain ⟨hs1, hs2, hs3, hs4⟩ := hSw
        go_simp
        try with_reducible rfl
      try simp only [Act.put, List.setIfInBounds_toArray, List.set_cons_zero, List.set_cons_succ]
      refine wpAnyH_take (i := 10) (oi := ⟨_, _, _, _, _, _⟩) (v := ?_) rfl (by kernel_rfl) (by kernel_rfl) (by kernel_rfl) (fun _ _ _ h => h) (Or.inl ⟨by rfl, ?_⟩) (by assumption) ?_
      rotate_left 1
      · intro W hSw
        try dsimp only at hSw
        obtain ⟨hs1, hs2, hs3, hs4⟩ := hSw
        go_simp
        try with_reducible rfl
      try simp only [Act.put, List.setIfInBounds_toArray, List.set_cons_zero, List.set_cons_succ]
      refine wpAnyH_take (i := 11) (oi := ⟨_, _, _, _, _, _⟩) (v := ?_) rfl (by kernel_rfl) (by kernel_rfl) (by kernel_rfl) (fun _ _ _ h => h) (Or.inl ⟨by rfl, ?_⟩) (by assumption) ?_
      rotate_left 1
      · intro W hSw
        try dsimp only at hSw
        obtain ⟨hs1, hs2, hs3, hs4⟩ := hSw
        go_simp
        try with_reducible rfl
      try simp only [Act.put, List.setIfInBounds_toArray, List.set_cons_zero, List.set_cons_succ]
      refine wpAnyH_take (i := 12) (oi := ⟨_, _, _, _, _, _⟩) (v := ?_) rfl (by kernel_rfl) (by kernel_rfl) (by kernel_rfl) (fun _ _ _ h => h) (Or.inl ⟨by rfl, ?_⟩) (by assumption) ?_
      rotate_left 1
      · intro W hSw
        try dsimp only at hSw
        obtain ⟨hs1, hs2, hs3, hs4⟩ := hSw
        go_simp
        try with_reducible rfl
      try simp only [Act.put, List.setIfInBounds_toArray, List.set_cons_zero, List.set_cons_succ]
      refine wpAnyH_take (i := 13) (oi := ⟨_, _, _, _, _, _⟩) (v := .agg (hC hid).toArray) rfl (by kernel_rfl) (by kernel_rfl) (by kernel_rfl) (fun _ _ _ h => h) (yieldsIf_load_mid (by rfl) 23 (.tmp 32) rfl gi (q * 32) rfl (hC hid) _ (fun W hS => hS.2.2.2) Tryz.underlying23 rfl (hszL hid)) (by assumption) ?_
      try simp only [Act.put, List.setIfInBounds_toArray, List.set_cons_zero, List.set_cons_succ]
      refine wpAnyH_ready (rs := [14]) (by kernel_rfl) (by simp) ?_
      refine AllReadyH.cons rfl (fun K hK => ?_) AllReadyH.nil
      go_simp
      go_at_call 88
      refine HPa.out.mono ?_
      rintro e5 w5 ⟨A5, c5, rfl, ho5, hb5⟩
      have O5 := Lib.hid ho5
      have V5 : Hid (Below wr.heap.size wr w5) := nxUndr hb5
      clear ho5 hb5
      have HN5 := HN4.out w5 V5.out
      refine hK.out _ _ HN5 (fun hSn => ?_)
      clear hK K
      try simp only [Act.put, List.setIfInBounds_toArray, List.set_cons_zero, List.set_cons_succ]
      refine wpAnyH_take (i := 15) (oi := ⟨_, _, _, _, _, _⟩) (v := ?_) rfl (by kernel_rfl) (by kernel_rfl) (by kernel_rfl) (fun _ _ _ h => h) (Or.inl ⟨by rfl, ?_⟩) (by assumption) ?_
      rotate_left 1
      · intro W hSw
        try dsimp only at hSw
        obtain ⟨hs1, hs2, hs3, hs4⟩ := hSw
        go_simp
        try with_reducible rfl
      try simp only [Act.put, List.setIfInBounds_toArray, List.set_cons_zero, List.set_cons_succ]
      refine wpAnyH_take (i := 16) (oi := ⟨_, _, _, _, _, _⟩) (v := ?_) rfl (by kernel_rfl) (by kernel_rfl) (by kernel_rfl) (fun _ _ _ h => h) (Or.inl ⟨by rfl, ?_⟩) (by assumption) ?_
      rotate_left 1
      · intro W hSw
        try dsimp only at hSw
        obtain ⟨hs1, hs2, hs3, hs4⟩ := hSw
        go_simp
        try with_reducible rfl
      try simp only [Act.put, List.setIfInBounds_toArray, List.set_cons_zero, List.set_cons_succ]
      refine wpAnyH_take (i := 17) (oi := ⟨_, _, _, _, _, _⟩) (v := ?_) rfl (by kernel_rfl) (by kernel_rfl) (by kernel_rfl) (fun _ _ _ h => h) (Or.inl ⟨by rfl, ?_⟩) (by assumption) ?_
      rotate_left 1
      · intro W hSw
        try dsimp only at hSw
        obtain ⟨hs1, hs2, hs3, hs4⟩ := hSw
        go_simp
        try with_reducible rfl
      try simp only [Act.put, List.setIfInBounds_toArray, List.set_cons_zero, List.set_cons_succ]
      refine wpAnyH_take (i := 18) (oi := ⟨_, _, _, _, _, _⟩) (v := ?_) rfl (by kernel_rfl) (by kernel_rfl) (by kernel_rfl) (fun _ _ _ h => h) (Or.inl ⟨by rfl, ?_⟩) (by assumption) ?_
      rotate_left 1
      · intro W hSw
        try dsimp only at hSw
        obtain ⟨hs1, hs2, hs3, hs4⟩ := hSw
        go_simp
        try with_reducible rfl
      try simp only [Act.put, List.setIfInBounds_toArray, List.set_cons_zero, List.set_cons_succ]
      refine wpAnyH_take (i := 19) (oi := ⟨_, _, _, _, _, _⟩) (v := ?_) rfl (by kernel_rfl) (by kernel_rfl) (by kernel_rfl) (fun _ _ _ h => h) (Or.inl ⟨by rfl, ?_⟩) (by assumption) ?_
      rotate_left 1
      · intro W hSw
        try dsimp only at hSw
        obtain ⟨hs1, hs2, hs3, hs4⟩ := hSw
        go_simp
        try with_reducible rfl
      try simp only [Act.put, List.setIfInBounds_toArray, List.set_cons_zero, List.set_cons_succ]
      refine wpAnyH_done (by kernel_rfl) ?_ _
      clear HN4 HPa hN0 hHeld hSn HN5
      obtain ⟨ps, hps⟩ : ∃ ps, srtH ((parG G' q).map (idG G')) = ps := ⟨_, rfl⟩
      rw [hps] at O5 ⊢
      have HPs := Lib.hid hps
      have hpsl : ps.length ≤ 1000000 := by
        rw [← hps, (srtH_perm _).length_eq, List.length_map]
        have h1 := (HO.out.g.dis q).length_le_of_subset (l₂ := List.range G'.length) fun x hx => List.mem_range.2 (Nat.lt_trans (HO.out.g.par q x hx) (parG_lt hx))
        rw [List.length_range] at h1
        have := HLn.out
        omega
      obtain ⟨A, hAe⟩ : ∃ A, (some (⟨gq, 0, none⟩ : Addr)) = A := ⟨_, rfl⟩
      rw [hAe] at HW HK ⊢
      have HW5 : Hid (CvW w.heap.size base mr Q A c w5) := HW.out.later V5.out
      have HK5 : Hid (CvK W0 m (some ⟨w.heap.size, 0, none⟩) w5 mr A) := HK.out.later V5.out
      have HV5w : Hid (w.heap.size ≤ w5.heap.size) := Nat.le_trans VW0.out.size HK5.out.k.size
      clear hps hAe
      go_wp2
      go_loopw [4, 39] (fun qv jv wr2 => ∃ (Q2 : List Nat) (j : Nat) (A2 : Option Addr) (c2 : Nat) (m2 : RxM), j ≤ ps.length ∧ (Q2.length ≤ T.length + 1 ∧ Q2[i]? = some q) ∧ qv = .slice A2 Q2.length c2 ∧ jv = .int .i64 j ∧ Hid (CvW w.heap.size base m2 Q2 A2 c2 wr2) ∧ Hid (CvI (plF G') G' m.t.T C0 m2.C T.length Q2 i j) ∧ Hid (m2.cn + 1 ≤ m.cn + Q2.length) ∧ Hid (CvK w5 mr A wr2 m2 A2)) (fun _ jv _ => ps.length - (intOf jv).toNat)
      case atStart => exact ⟨Q, 0, A, c, mr, Nat.zero_le _, ⟨hql, HQi.out⟩, rfl, rfl, HW5.out, HV.out, HCm0.out, CvK.refl _ _ _⟩
      case round =>
        clear HQi HV HCm0 HW
        obtain ⟨Q2, j, A2, c2, m2, hj, hq2l, rfl, rfl, HW2, HV2, HCm, HK2⟩ := hrel
        have HS2 : Hid (SameG m m2) := HK.out.same.trans HK2.out.same
        have HQl2 := Lib.hid hq2l
        have hq2a : Q2.length ≤ T.length + 1 := hq2l.1
        clear hq2l
        by_cases hjl : j < ps.length
        · have ho5 := HK2.out.hash HW5.out O5.out
          obtain ⟨gp, hA5, hgp1, hgp2, hpc⟩ := own_row ho5 (by rw [hsC_len]; omega)
          subst hA5
          obtain ⟨x, hx⟩ : ∃ x, ps[j] = x := ⟨_, rfl⟩
          have hR : wr.rangeAt gp (j * 32) (hC x) := fun n v hv => by
            have hn : n < 32 := by have := (List.getElem?_eq_some_iff.1 hv).1; rw [hC_len] at this; exact this
            exact (hpc (j * 32 + n) v (by rw [hsC_get _ _ _ hjl hn, hx]; exact hv)).1
          have HRx := Lib.hid hR
          obtain ⟨k, hk⟩ : ∃ k, plE G' x = k := ⟨_, rfl⟩
          have hkat : (plF G' q)[j]? = some k := by
            have hps := HPs.out
            have h9 := plF_at (G := G') (q := q) (j := j) (by rw [hps]; exact hjl)
            rw [h9]
            simp only [hps, hx, hk]
          have hkmem : k ∈ parG G' q := (plF_mem HO.out.g).1 (List.mem_of_getElem? hkat)
          have hklt : k < T.length := by
            have h1 := HO.out.g.par q k hkmem
            have h2 := HV2.out.le HO.out.g (List.mem_of_getElem? HQl2.out.2)
            omega
          obtain ⟨hcv1, hcv2⟩ := HV2.out.covers HO.out k
          obtain ⟨z, hz⟩ : ∃ z : Bool, z = true ↔ k ≠ T.length ∧ (Und m.t.T T.length k ∨ ∃ c ∈ m2.C k, Und m.t.T T.length c) := ⟨@decide _ (Classical.propDecidable _), @decide_eq_true_iff _ (Classical.propDecidable _)⟩
          have HZ := Lib.hid hz
          have HKat := Lib.hid hkat
          have HKm := Lib.hid hkmem
          have hcr : CovR m2 k := covR_of (by rw [HS2.out.t]; exact HI.out) (by omega) (by rw [HS2.out.t]; exact hcv1) (by rw [HS2.out.t]; exact hcv2)
          have HCr := Lib.hid hcr
          have hnl : T.length < m.t.L.length := by have := HLn.out; omega
          have HB9 : Hid (∀ W, Below wr.heap.size wr W → Calls Tryz.prog 44 #[.pointer (some ⟨m.q, 0, none⟩), .int .i64 (k : Int), .int .i64 (T.length : Int)] W fun e w' => e = .returned (.bool z) ∧ Below W.heap.size W w') := fun W hV => by
            have h9 := rx_isBefore W base m2 (HW2.out.ok.later hV) k T.length HCr.out (by rw [HS2.out.t]; omega) (by rw [HS2.out.t]; exact hnl) z (by rw [HS2.out.t]; exact HZ.out)
            rw [HS2.out.q] at h9
            exact h9
          have B7 : Hid (Blk (wr.alloc (.cells (hC zH).toArray 23)) wr.heap.size 23 (hC zH).toArray) := heap_alloc_new wr _
          have V7 : Hid (Below wr.heap.size wr (wr.alloc (.cells (hC zH).toArray 23))) := nxAlloc (nxRefl _) _
          have HLo : Hid (∀ W, Below wr.heap.size wr W → (Instr.lookup 60 (.map (some m.nb)) (.agg (hC x).toArray) false).run Tryz.prog W = .ok (.int .i64 (k : Int)) W) := fun W hV => by
            have h9 := rx_num2 (HW2.out.ok.later hV) HO.out.g (by rw [HS2.out.ids]; exact HIds.out) (by rw [HS2.out.ks, HS2.out.ids]; exact HKs.out) x
            rw [HS2.out.nb, hk] at h9
            exact h9
          have HC3 : Hid (∀ W, Below wr.heap.size wr W → W.cell? ⟨m.q, 3, none⟩ = some (.map (some m.nb))) := fun W hV => by
            have h9 := (HW2.out.ok.later hV).c.2.2.2.1
            rw [HS2.out.q, HS2.out.nb] at h9
            exact h9
          have hjn : (j : Int) < (ps.length : Int) := by omega
          have HZ2 := Lib.hid (hszB x)
          clear ho5 hgp1 hgp2 hpc hx hR hkat hkmem hcv1 hcv2 hz hcr hnl hk
          go_wp2_with (first
            | ((with_reducible show wpList _ _ _ (⟨some 42, _, _, _, _, _⟩ :: _) _ _); refine wpList_load_mid rfl 23 (.tmp 41) rfl gp (j * 32) rfl (hC x) _ HRx.out Tryz.underlying23 rfl (hszL x) ?_)
            | ((with_reducible show wpList _ _ _ (⟨none, .store 23 _ _, _, _, _, _⟩ :: _) _ _); refine wpList_store_all rfl 23 (.tmp 9) (.tmp 42) rfl wr.heap.size 23 (hC zH).toArray (hC x).toArray rfl rfl B7.out (by rw [List.size_toArray, List.size_toArray, hC_len, hC_len]) HZ2.out (hC_one x) ?_; intro w7 h5 h6 h7; have BX := Lib.hid h5; have VX : Hid (Below wr.heap.size wr w7) := V7.out.trans (h6.below V7.out.size (fun k hk => by omega)); clear h5 h6 h7))
          obtain ⟨pX, hpX⟩ : ∃ pX, wr.heap.size = pX := ⟨_, rfl⟩
          have hc3 := HC3.out w7 VX.out
          rw [hpX] at BX ⊢
          have RX : Hid (w7.rangeAt pX 0 (hC x)) := rxRng BX.out
          have HL7 : Hid (∀ n, (Instr.lookup 60 (.map (some m.nb)) (.agg (hC x).toArray) false).run Tryz.prog (w7.drewN n) = .ok (.int .i64 (k : Int)) (w7.drewN n)) := fun n => HLo.out _ (nxTo VX.out (rxDrN (nxRefl _) n))
          clear hpX HLo HC3 B7 V7
          try simp only [Act.put, List.setIfInBounds_toArray, List.set_cons_zero, List.set_cons_succ]
          refine wp_region_quiet_lit (by kernel_rfl) (by kernel_rfl) ?_
          repeat (go_big_quiet_step (fail))
          go_big_quiet_want
          refine quiet_load_mid 23 (.tmp 9) rfl pX 0 rfl (hC x) _ (fun w' hw' => by obtain ⟨q, rfl⟩ := hw'; exact RX.out) Tryz.underlying23 rfl (hszL x) ?_
          go_big_quiet_on
          try simp only [Act.put, List.setIfInBounds_toArray, List.set_cons_zero, List.set_cons_succ]
          repeat (go_big_quiet_step (fail))
          go_big_quiet_want
          refine quiet_lookup 60 _ _ _ rfl _ _ rfl rfl (.int .i64 (k : Int)) (fun w' hw' => by obtain ⟨q, rfl⟩ := hw'; exact HL7.out q) ?_
          go_big_quiet_on
          try simp only [Act.put, List.setIfInBounds_toArray, List.set_cons_zero, List.set_cons_succ]
          repeat (go_big_quiet_step (fail))
          refine wpQuiet_nil ?_
          intro _ hw'
          obtain ⟨nq, rfl⟩ := hw'
          have VY : Hid (Below wr.heap.size wr (w7.drewN nq)) := nxTo VX.out (rxDrN (nxRefl _) nq)
          generalize w7.drewN nq = w7n at *
          clear hc3 RX HL7 BX
          cases z with
          | true =>
            go_wp2_with (go_at_call 44; refine (HB9.out _ VY.out).mono ?_; rintro e8 w8 ⟨rfl, hb8⟩; have V8 : Hid (Below wr.heap.size wr w8) := nxTo VY.out hb8; clear hb8)
            go_roundw
            case rel => exact ⟨Q2, j + 1, A2, c2, m2, by omega, HQl2.out, rfl, by go_num, HW2.out.later V8.out, HV2.out.skip HO.out HQl2.out.2 HKat.out (by omega) ((HZ.out.1 (by trivial)).2), HCm.out, HK2.out.later V8.out⟩
            case measure => simp [intOf] <;> omega
          | false =>
            have hnz : ¬ (Und m.t.T T.length k ∨ ∃ c ∈ m2.C k, Und m.t.T T.length c) := fun e => absurd (HZ.out.2 ⟨by omega, e⟩) (by decide)
            obtain ⟨hcp, hcq⟩ := HV2.out.new HO.out HQl2.out.2 HKm.out hnz
            obtain ⟨hc0e, hpu⟩ := HV2.out.push HO.out.g HQl2.out.2 HKat.out hcp hcq
            have HPl2 : Hid ((Q2 ++ [k]).length ≤ T.length + 1 ∧ (Q2 ++ [k])[i]? = some q) := ⟨(hpu.qlen HO.out.g).2, by rw [List.getElem?_append_left (List.getElem?_eq_some_iff.1 HQl2.out.2).1]; exact HQl2.out.2⟩
            have HPu : ∀ A1 c1, Hid (CvI (plF G') G' m.t.T C0 (m2.setC k A1 c1 ((m2.C k).take (seatN m.t.T (m2.C k) T.length) ++ T.length :: (m2.C k).drop (seatN m.t.T (m2.C k) T.length))).C T.length (Q2 ++ [k]) i (j + 1)) := fun A1 c1 => hpu
            have HCn : Hid (m2.cn < maxLen) := by
              have h1 := HCm.out
              have h2 := HCn0.out
              show _ < _
              unfold maxLen
              omega
            have HSeW : Hid (∀ W, Below wr.heap.size wr W → Calls Tryz.prog 90 #[.pointer (some ⟨m.q, 0, none⟩), .int .i64 (k : Int), .int .i64 (T.length : Int)] W fun e w' => e = .returned (.int .i64 (seatN m.t.T (m2.C k) T.length : Int)) ∧ Below W.heap.size W w') := fun W hV => by
              have h9 := rx_seat W base m2 (HW2.out.ok.later hV) k T.length HCr.out (by rw [HS2.out.t]; have := HLn.out; omega)
              rw [HS2.out.q, HS2.out.t] at h9
              exact h9
            have HLkW : Hid (∀ W, Below wr.heap.size wr W → (Instr.lookup 61 (.map (some m.cb)) (.int .i64 (k : Int)) false).run Tryz.prog W = .ok (.slice (m2.f k).1 (m2.C k).length (m2.f k).2) W) := fun W hV => by
              have h9 := rx_cov (HW2.out.ok.later hV) (k := k) (by omega)
              rw [HS2.out.cb] at h9
              exact h9
            have HIl : Hid (∀ W, W.ownsMap Tryz.prog 3 slR m.cb m2.cn m2.D → (∀ {w1 : World}, RxOk w1 base m2 → Keeps (fun b => (m2.f k).1.map Addr.block = some b) w1 W → W.cell? ⟨m.q, 4, none⟩ = some (.map (some m.cb)) ∧ (Instr.lookup 61 (.map (some m.cb)) (.int .i64 (k : Int)) false).run Tryz.prog W = .ok (.slice (m2.f k).1 (m2.C k).length (m2.f k).2) W)) := fun W hM {w1} hO hK => by
              refine ⟨?_, ?_⟩
              · have h9 := hO.c.2.2.2.2
                rw [HS2.out.cb, HS2.out.q] at h9
                have hb9 := hO.b
                rw [HS2.out.q] at hb9
                exact (hK.cell (p := ⟨m.q, 4, none⟩) (World.block_lt_of_cell? _ _ h9) (fun e => by
                  obtain ⟨_, cur, hB⟩ := own_blk (hO.row k) e
                  exact absurd (tblk_tag hB hb9) (by decide))).trans h9
              · obtain ⟨v, ps, hr, hv⟩ := hM.lookup rxLaw Tryz.underlying61 (Tryz.zeroValue80 W) (slR_mk none 0 0) (rxKey (k := k) (by omega))
                obtain ⟨A, n, c, rfl, hz⟩ := slR_inv hv
                rw [hO.at_] at hz
                simp only [Prod.mk.injEq, DataW.held.injEq] at hz
                obtain ⟨⟨rfl, rfl, rfl⟩, _⟩ := hz
                exact hr
            have HInW : Hid (∀ W, Below wr.heap.size wr W → ∀ pN, Blk W pN 3 #[.int .i64 (T.length : Int)] → wr.heap.size ≤ pN → Calls Tryz.prog 89 #[.slice (m2.f k).1 (m2.C k).length (m2.f k).2, .int .i64 (seatN m.t.T (m2.C k) T.length : Int), .slice (some ⟨pN, 0, none⟩) 1 1] W (InsPost W base (m2.f k).1 (m2.C k) (seatN m.t.T (m2.C k) T.length) T.length)) := fun W hV pN hB hle => by
              refine ins_any W base (m2.f k).1 (m2.f k).2 _ T.length (m2.C k) ((HW2.out.ok.later hV).row k) (seatN_le _ _ _) (by have := HCr.out.l; omega) pN hB (fun b e => ?_) (by have := HBs.out; have := HV5w.out; have := HK2.out.k.size; have := hV.size; omega)
              obtain ⟨_, cur, hB2⟩ := own_blk (HW2.out.ok.row k) e
              have := hB2.lt
              omega
            have HC4W : Hid (∀ W, Below wr.heap.size wr W → W.cell? ⟨m.q, 4, none⟩ = some (.map (some m.cb))) := fun W hV => by
              have h9 := (HW2.out.ok.later hV).c.2.2.2.2
              rw [HS2.out.q, HS2.out.cb] at h9
              exact h9
            clear hnz hcp hcq hc0e hpu
            go_wp2_with (go_at_call 44; refine (HB9.out _ VY.out).mono ?_; rintro e8 w8 ⟨rfl, hb8⟩; have V8 : Hid (Below wr.heap.size wr w8) := nxTo VY.out hb8; clear hb8)
            have HC4 : Hid (w8.cell? ⟨m.q, 4, none⟩ = some (.map (some m.cb))) := HC4W.out w8 V8.out
            have HQl : Hid (m.q < w8.heap.size) := World.block_lt_of_cell? _ _ HC4.out
            have HSe : Hid (∀ W, Below w8.heap.size w8 W → Calls Tryz.prog 90 #[.pointer (some ⟨m.q, 0, none⟩), .int .i64 (k : Int), .int .i64 (T.length : Int)] W fun e w' => e = .returned (.int .i64 (seatN m.t.T (m2.C k) T.length : Int)) ∧ Below W.heap.size W w') := fun W hV => HSeW.out W (nxTo V8.out hV)
            have HLk : Hid (∀ W, Below w8.heap.size w8 W → (Instr.lookup 61 (.map (some m.cb)) (.int .i64 (k : Int)) false).run Tryz.prog W = .ok (.slice (m2.f k).1 (m2.C k).length (m2.f k).2) W) := fun W hV => HLkW.out W (nxTo V8.out hV)
            have HIn : Hid (∀ W, Below w8.heap.size w8 W → ∀ pN, Blk W pN 3 #[.int .i64 (T.length : Int)] → w8.heap.size ≤ pN → Calls Tryz.prog 89 #[.slice (m2.f k).1 (m2.C k).length (m2.f k).2, .int .i64 (seatN m.t.T (m2.C k) T.length : Int), .slice (some ⟨pN, 0, none⟩) 1 1] W (InsPost W base (m2.f k).1 (m2.C k) (seatN m.t.T (m2.C k) T.length) T.length)) := fun W hV pN hB hle => HInW.out W (nxTo V8.out hV) pN hB (Nat.le_trans V8.out.size hle)
            have V8t : Hid (Below wr.heap.size wr w8) := V8.out
            have V8d : Hid (Below w8.heap.size w8 w8.drew) := rxDr (nxRefl _)
            clear HSeW HLkW HInW HC4W HB9 VY VX
            refine wp_region_K (fun W => W.cell? ⟨m.q, 4, none⟩ = some (.map (some m.cb)) ∧ (Instr.lookup 61 (.map (some m.cb)) (.int .i64 (k : Int)) false).run Tryz.prog W = .ok (.slice (m2.f k).1 (m2.C k).length (m2.f k).2) W) 18 (by kernel_rfl) ⟨HC4.out, HLk.out _ V8d.out⟩ (fun hSn => ?_)
            refine wpAnyK_pure (i := 0) (oi := ⟨_, _, _, _, _, _⟩) (v := ?_) rfl (by kernel_rfl) (by kernel_rfl) (by kernel_rfl) rfl (fun _ _ _ h => h) (Or.inl ⟨by rfl, ?_⟩) hSn ?_
            rotate_left 1
            · intro W hSw
              go_simp
              try with_reducible rfl
            replace hSn := (KT.set (i := 0) (by decide)).2 hSn
            try simp only [Act.put, List.setIfInBounds_toArray, List.set_cons_zero, List.set_cons_succ]
            refine wpAnyK_pure (i := 1) (oi := ⟨_, _, _, _, _, _⟩) (v := ?_) rfl (by kernel_rfl) (by kernel_rfl) (by kernel_rfl) rfl (fun _ _ _ h => h) (Or.inl ⟨by rfl, ?_⟩) hSn ?_
            rotate_left 1
            · intro W hSw
              go_simp
              try with_reducible rfl
            replace hSn := (KT.set (i := 1) (by decide)).2 hSn
            try simp only [Act.put, List.setIfInBounds_toArray, List.set_cons_zero, List.set_cons_succ]
            refine wpAnyK_pure (i := 2) (oi := ⟨_, _, _, _, _, _⟩) (v := ?_) rfl (by kernel_rfl) (by kernel_rfl) (by kernel_rfl) rfl (fun _ _ _ h => h) (Or.inl ⟨by rfl, ?_⟩) hSn ?_
            rotate_left 1
            · intro W hSw
              go_simp
              try with_reducible rfl
            replace hSn := (KT.set (i := 2) (by decide)).2 hSn
            try simp only [Act.put, List.setIfInBounds_toArray, List.set_cons_zero, List.set_cons_succ]
            refine wpAnyK_chain (i := 3) [18] (oi := ⟨_, _, _, _, _, _⟩) (v := ?_) rfl (by kernel_rfl) (by kernel_rfl) (by kernel_rfl) rfl (by kernel_rfl) (by kernel_rfl) (by kernel_rfl) (fun _ _ _ h => h) (Or.inl ⟨by rfl, ?_⟩) hSn ?_
            rotate_left 1
            · intro W hSw
              try dsimp only at hSw
              obtain ⟨hs1, hs2⟩ := hSw
              go_simp
              try with_reducible rfl
            replace hSn := (KT.set (i := 3) (by decide)).2 hSn
            try simp only [Act.put, List.setIfInBounds_toArray, List.set_cons_zero, List.set_cons_succ]
            refine wpAnyK_pure (i := 4) (oi := ⟨_, _, _, _, _, _⟩) (v := ?_) rfl (by kernel_rfl) (by kernel_rfl) (by kernel_rfl) rfl (fun _ _ _ h => h) (Or.inl ⟨by rfl, ?_⟩) hSn ?_
            rotate_left 1
            · intro W hSw
              go_simp
              try with_reducible rfl
            replace hSn := (KT.set (i := 4) (by decide)).2 hSn
            try simp only [Act.put, List.setIfInBounds_toArray, List.set_cons_zero, List.set_cons_succ]
            refine wpAnyK_pure (i := 5) (oi := ⟨_, _, _, _, _, _⟩) (v := ?_) rfl (by kernel_rfl) (by kernel_rfl) (by kernel_rfl) rfl (fun _ _ _ h => h) (Or.inl ⟨by rfl, ?_⟩) hSn ?_
            rotate_left 1
            · intro W hSw
              go_simp
              try with_reducible rfl
            replace hSn := (KT.set (i := 5) (by decide)).2 hSn
            try simp only [Act.put, List.setIfInBounds_toArray, List.set_cons_zero, List.set_cons_succ]
            refine wpAnyK_pure (i := 6) (oi := ⟨_, _, _, _, _, _⟩) (v := ?_) rfl (by kernel_rfl) (by kernel_rfl) (by kernel_rfl) rfl (fun _ _ _ h => h) (Or.inl ⟨by rfl, ?_⟩) hSn ?_
            rotate_left 1
            · intro W hSw
              go_simp
              try with_reducible rfl
            replace hSn := (KT.set (i := 6) (by decide)).2 hSn
            try simp only [Act.put, List.setIfInBounds_toArray, List.set_cons_zero, List.set_cons_succ]
            refine wpAnyK_pure (i := 7) (oi := ⟨_, _, _, _, _, _⟩) (v := ?_) rfl (by kernel_rfl) (by kernel_rfl) (by kernel_rfl) rfl (fun _ _ _ h => h) (Or.inl ⟨by rfl, ?_⟩) hSn ?_
            rotate_left 1
            · intro W hSw
              go_simp
              try with_reducible rfl
            replace hSn := (KT.set (i := 7) (by decide)).2 hSn
            try simp only [Act.put, List.setIfInBounds_toArray, List.set_cons_zero, List.set_cons_succ]
            refine wpAnyK_chain (i := 8) [18] (oi := ⟨_, _, _, _, _, _⟩) (v := ?_) rfl (by kernel_rfl) (by kernel_rfl) (by kernel_rfl) rfl (by kernel_rfl) (by kernel_rfl) (by kernel_rfl) (fun _ _ _ h => h) (Or.inl ⟨by rfl, ?_⟩) hSn ?_
            rotate_left 1
            · intro W hSw
              try dsimp only at hSw
              obtain ⟨hs1, hs2⟩ := hSw
              go_simp
              try with_reducible rfl
            replace hSn := (KT.set (i := 8) (by decide)).2 hSn
            try simp only [Act.put, List.setIfInBounds_toArray, List.set_cons_zero, List.set_cons_succ]
            refine wpAnyK_pure (i := 9) (oi := ⟨_, _, _, _, _, _⟩) (v := ?_) rfl (by kernel_rfl) (by kernel_rfl) (by kernel_rfl) rfl (fun _ _ _ h => h) (Or.inl ⟨by rfl, ?_⟩) hSn ?_
            rotate_left 1
            · intro W hSw
              go_simp
              try with_reducible rfl
            replace hSn := (KT.set (i := 9) (by decide)).2 hSn
            try simp only [Act.put, List.setIfInBounds_toArray, List.set_cons_zero, List.set_cons_succ]
            refine wpAnyK_chain (i := 10) [18] (oi := ⟨_, _, _, _, _, _⟩) (v := .slice (m2.f k).1 (m2.C k).length (m2.f k).2) rfl (by kernel_rfl) (by kernel_rfl) (by kernel_rfl) rfl (by kernel_rfl) (by kernel_rfl) (by kernel_rfl) (fun _ _ _ h => h) (yieldsIf_lookup (by rfl) 61 (.tmp 62) (.tmp 63) false rfl _ _ _ rfl rfl (fun W hS => hS.2)) hSn ?_
            replace hSn := (KT.set (i := 10) (by decide)).2 hSn
            try simp only [Act.put, List.setIfInBounds_toArray, List.set_cons_zero, List.set_cons_succ]
            refine wpAnyK_pure (i := 11) (oi := ⟨_, _, _, _, _, _⟩) (v := ?_) rfl (by kernel_rfl) (by kernel_rfl) (by kernel_rfl) rfl (fun _ _ _ h => h) (Or.inl ⟨by rfl, ?_⟩) hSn ?_
            rotate_left 1
            · intro W hSw
              go_simp
              try with_reducible rfl
            replace hSn := (KT.set (i := 11) (by decide)).2 hSn
            try simp only [Act.put, List.setIfInBounds_toArray, List.set_cons_zero, List.set_cons_succ]
            refine wpAnyK_pure (i := 12) (oi := ⟨_, _, _, _, _, _⟩) (v := ?_) rfl (by kernel_rfl) (by kernel_rfl) (by kernel_rfl) rfl (fun _ _ _ h => h) (Or.inl ⟨by rfl, ?_⟩) hSn ?_
            rotate_left 1
            · intro W hSw
              go_simp
              try with_reducible rfl
            replace hSn := (KT.set (i := 12) (by decide)).2 hSn
            try simp only [Act.put, List.setIfInBounds_toArray, List.set_cons_zero, List.set_cons_succ]
            refine wpAnyK_pure (i := 13) (oi := ⟨_, _, _, _, _, _⟩) (v := ?_) rfl (by kernel_rfl) (by kernel_rfl) (by kernel_rfl) rfl (fun _ _ _ h => h) (Or.inl ⟨by rfl, ?_⟩) hSn ?_
            rotate_left 1
            · intro W hSw
              go_simp
              try with_reducible rfl
            replace hSn := (KT.set (i := 13) (by decide)).2 hSn
            try simp only [Act.put, List.setIfInBounds_toArray, List.set_cons_zero, List.set_cons_succ]
            refine wpAnyK_pure (i := 15) (oi := ⟨_, _, _, _, _, _⟩) (v := ?_) rfl (by kernel_rfl) (by kernel_rfl) (by kernel_rfl) rfl (fun _ _ _ h => h) (Or.inl ⟨by rfl, ?_⟩) hSn ?_
            rotate_left 1
            · intro W hSw
              go_simp
              try with_reducible rfl
            replace hSn := (KT.set (i := 15) (by decide)).2 hSn
            try simp only [Act.put, List.setIfInBounds_toArray, List.set_cons_zero, List.set_cons_succ]
            clear hSn
            refine wpAnyK_ready (rs := [14, 16]) (by kernel_rfl) (by simp) ?_
            refine (AllReadyK.cons rfl (fun K hK => ?_) (AllReadyK.cons rfl (fun K hK => ?_) AllReadyK.nil))
            · skip
              go_simp
              go_at_call 90
              refine (HSe.out w8.drew V8d.out).mono ?_
              rintro e9 w9 ⟨rfl, hb9⟩
              have V9 : Hid (Below w8.heap.size w8 w9) := nxTo V8d.out hb9
              clear hb9
              refine hK.out _ _ (fun _ => ⟨(V9.out.cell (p := ⟨m.q, 4, none⟩) HQl.out).trans HC4.out, HLk.out w9 V9.out⟩) (fun hSn => ?_)
              clear hK K
              try simp only [Act.put, List.setIfInBounds_toArray, List.set_cons_zero, List.set_cons_succ]
              clear hSn
              refine wpAnyK_ready (rs := [16]) (by kernel_rfl) (by simp) ?_
              refine (AllReadyK.cons rfl (fun K hK => ?_) AllReadyK.nil)
              go_simp
              obtain ⟨w10, hw10⟩ : ∃ x, w9.alloc (.cells #[.int .i64 (T.length : Int)] 3) = x := ⟨_, rfl⟩
              have V10 : Hid (Below w8.heap.size w8 w10) := (by rw [← hw10]; exact nxAlloc V9.out _)
              have BN : Hid (Blk w10 w9.heap.size 3 #[.int .i64 (T.length : Int)]) := (by rw [← hw10]; exact heap_alloc_new _ _)
              rw [hw10]
              obtain ⟨pN, hpN⟩ : ∃ x, w9.heap.size = x := ⟨_, rfl⟩
              have HNe : Hid (w8.heap.size ≤ pN) := (by rw [← hpN]; exact V9.out.size)
              rw [hpN] at BN ⊢
              clear hw10 hpN
              refine hK.out _ _ (fun _ => ⟨(V10.out.cell (p := ⟨m.q, 4, none⟩) HQl.out).trans HC4.out, HLk.out w10 V10.out⟩) (fun hSn => ?_)
              clear hK K
              try simp only [Act.put, List.setIfInBounds_toArray, List.set_cons_zero, List.set_cons_succ]
              clear hSn
              refine wpAnyK_ready (rs := [17]) (by kernel_rfl) (by simp) ?_
              refine (AllReadyK.cons rfl (fun K hK => ?_) AllReadyK.nil)
              go_simp
              go_at_call 89
              refine (HIn.out w10 V10.out pN BN.out HNe.out).mono ?_
              rintro e11 w11 ⟨A11, c11, rfl, ho11, hk11, ha11⟩
              have O11 := Lib.hid ho11
              have K11 := Lib.hid hk11
              have HA11 := Lib.hid ha11
              have WI : Hid (CvW w.heap.size base m2 Q2 A2 c2 w10) := HW2.out.later (nxTo V8t.out V10.out)
              have KI : Hid (CvK w5 mr A w10 m2 A2) := HK2.out.later (nxTo V8t.out V10.out)
              have M11 := Lib.hid (map_keep WI.out.ok.cov hk11 (fun e => by obtain ⟨_, cur, hB⟩ := own_blk (WI.out.ok.row k) e; exact map_ne WI.out.ok.cov hB rfl))
              rw [HS2.out.cb] at M11
              have HL11 := HIl.out w11 M11.out WI.out.ok K11.out
              clear ho11 hk11 ha11
              refine hK.out _ _ (fun _ => HL11) (fun hSn => ?_)
              clear hK K
              try simp only [Act.put, List.setIfInBounds_toArray, List.set_cons_zero, List.set_cons_succ]
              clear hSn
              refine wpAnyK_ready (rs := [18]) (by kernel_rfl) (by simp) ?_
              refine (AllReadyK.cons rfl (fun K hK => ?_) AllReadyK.nil)
              refine step_mapupd (o := ⟨none, _, _, _, _, _⟩) _ rfl (.tmp 57) (.tmp 58) (.tmp 71) 61 rfl 3 80 rxLaw Tryz.underlying61 slR m.cb m2.cn m2.D rfl M11.out HCn.out (.int .i64 (k : Int)) (.slice A11 ((m2.C k).length + 1) c11) (.int .i64 (k : Int)) rfl rfl (rxKey (by omega)) _ [] (slR_mk A11 ((m2.C k).length + 1) c11) ?_
              intro w12 hm12 hg12
              have hci := WI.out.ins k (seatN m.t.T (m2.C k) T.length) T.length (seatN_le _ _ _) O11.out K11.out HA11.out (by rw [HS2.out.cb]; exact hm12) (by rw [HS2.out.cb]; exact hg12)
              have W12 := Lib.hid hci.1
              have K12 := Lib.hid (KI.out.trans hci.2)
              clear hci hm12 hg12
              refine hK.out _ _ (fun h => absurd h (by decide +kernel)) (fun hSn => ?_)
              clear hK K
              try simp only [Act.put, List.setIfInBounds_toArray, List.set_cons_zero, List.set_cons_succ]
              refine wpAnyK_done (by kernel_rfl) ?_ _
              have WA : Hid (CvW w.heap.size base (m2.setC k A11 c11 ((m2.C k).take (seatN m.t.T (m2.C k) T.length) ++ T.length :: (m2.C k).drop (seatN m.t.T (m2.C k) T.length))) Q2 A2 c2 (w12.alloc (.cells #[.int .i64 (k : Int)] 3))) := W12.out.later (nxAlloc (nxRefl _) _)
              have hwb : w.heap.size ≤ w12.heap.size := by have := HV5w.out; have := K12.out.k.size; omega
              go_wp2_with ((with_reducible show wpList _ _ _ (⟨some 75, _, _, _, _, _⟩ :: _) _ _); refine wpList_append_seesV rfl (.tmp 72) (.tmp 74) 80 rfl w.heap.size 3 i2 _ 1 8 Tryz.underlying80 hi2 hz0 hz1 hz2 rfl (by decide) (.slice A2 Q2.length c2) Q2.length (tiC Q2) rfl WA.out.qo _ (some ⟨w12.heap.size, 0, none⟩) 1 1 [.int .i64 (k : Int)] rfl rfl (SeesV.blk (heap_alloc_new w12 _)) (by intro u hu; rw [List.mem_singleton] at hu; subst hu; rfl) (by omega) (by omega) (by simp; omega) ?_; intro v13 w13 ho13 hg13 ha13; obtain ⟨A13, c13, rfl⟩ := own_form ho13; have hp13 := WA.out.push k ho13 (by rw [← town_map A2 Q2.length c2]; exact hg13) (by rw [← town_map A13 (Q2.length + 1) c13, ← town_map A2 Q2.length c2]; exact ha13); have W13 := Lib.hid hp13.1; have K13 := Lib.hid ((K12.out.later (nxAlloc (nxRefl _) (.cells #[.int .i64 (k : Int)] 3))).trans hp13.2); clear hp13 ho13 hg13 ha13)
              go_roundw
              case rel =>
                refine ⟨Q2 ++ [k], j + 1, A13, c13, _, by omega, HPl2.out, by rw [List.length_append, List.length_singleton], by go_num, W13.out, (HPu _ _).out, ?_, K13.out⟩
                have := HCm.out
                show _ ≤ _
                rw [List.length_append, List.length_singleton]
                show m2.cn + 1 + 1 ≤ _
                omega
              case measure => simp [intOf] <;> omega
            · skip
              go_simp
              obtain ⟨w10, hw10⟩ : ∃ x, (w8.alloc (.cells #[.int .i64 (T.length : Int)] 3)).drew = x := ⟨_, rfl⟩
              have V10 : Hid (Below w8.heap.size w8 w10) := (by rw [← hw10]; exact rxDr (nxAlloc (nxRefl _) _))
              have BN : Hid (Blk w10 w8.heap.size 3 #[.int .i64 (T.length : Int)]) := (by rw [← hw10]; exact heap_alloc_new _ _)
              rw [hw10]
              obtain ⟨pN, hpN⟩ : ∃ x, w8.heap.size = x := ⟨_, rfl⟩
              have HNe : Hid (w8.heap.size ≤ pN) := (by rw [← hpN]; exact Nat.le_refl _)
              rw [hpN] at BN ⊢
              clear hw10 hpN
              refine hK.out _ _ (fun _ => ⟨(V10.out.cell (p := ⟨m.q, 4, none⟩) HQl.out).trans HC4.out, HLk.out w10 V10.out⟩) (fun hSn => ?_)
              clear hK K
              try simp only [Act.put, List.setIfInBounds_toArray, List.set_cons_zero, List.set_cons_succ]
              clear hSn
              refine wpAnyK_ready (rs := [14]) (by kernel_rfl) (by simp) ?_
              refine (AllReadyK.cons rfl (fun K hK => ?_) AllReadyK.nil)
              go_simp
              go_at_call 90
              refine (HSe.out w10 V10.out).mono ?_
              rintro e9 w9 ⟨rfl, hb9⟩
              have V9 : Hid (Below w8.heap.size w8 w9) := nxTo V10.out hb9
              replace BN := Lib.hid (BN.out.below hb9 BN.out.lt)
              replace HNe := HNe
              clear hb9
              refine hK.out _ _ (fun _ => ⟨(V9.out.cell (p := ⟨m.q, 4, none⟩) HQl.out).trans HC4.out, HLk.out w9 V9.out⟩) (fun hSn => ?_)
              clear hK K
              try simp only [Act.put, List.setIfInBounds_toArray, List.set_cons_zero, List.set_cons_succ]
              clear hSn
              refine wpAnyK_ready (rs := [17]) (by kernel_rfl) (by simp) ?_
              refine (AllReadyK.cons rfl (fun K hK => ?_) AllReadyK.nil)
              go_simp
              go_at_call 89
              refine (HIn.out w9 V9.out pN BN.out HNe.out).mono ?_
              rintro e11 w11 ⟨A11, c11, rfl, ho11, hk11, ha11⟩
              have O11 := Lib.hid ho11
              have K11 := Lib.hid hk11
              have HA11 := Lib.hid ha11
              have WI : Hid (CvW w.heap.size base m2 Q2 A2 c2 w9) := HW2.out.later (nxTo V8t.out V9.out)
              have KI : Hid (CvK w5 mr A w9 m2 A2) := HK2.out.later (nxTo V8t.out V9.out)
              have M11 := Lib.hid (map_keep WI.out.ok.cov hk11 (fun e => by obtain ⟨_, cur, hB⟩ := own_blk (WI.out.ok.row k) e; exact map_ne WI.out.ok.cov hB rfl))
              rw [HS2.out.cb] at M11
              have HL11 := HIl.out w11 M11.out WI.out.ok K11.out
              clear ho11 hk11 ha11
              refine hK.out _ _ (fun _ => HL11) (fun hSn => ?_)
              clear hK K
              try simp only [Act.put, List.setIfInBounds_toArray, List.set_cons_zero, List.set_cons_succ]
              clear hSn
              refine wpAnyK_ready (rs := [18]) (by kernel_rfl) (by simp) ?_
              refine (AllReadyK.cons rfl (fun K hK => ?_) AllReadyK.nil)
              refine step_mapupd (o := ⟨none, _, _, _, _, _⟩) _ rfl (.tmp 57) (.tmp 58) (.tmp 71) 61 rfl 3 80 rxLaw Tryz.underlying61 slR m.cb m2.cn m2.D rfl M11.out HCn.out (.int .i64 (k : Int)) (.slice A11 ((m2.C k).length + 1) c11) (.int .i64 (k : Int)) rfl rfl (rxKey (by omega)) _ [] (slR_mk A11 ((m2.C k).length + 1) c11) ?_
              intro w12 hm12 hg12
              have hci := WI.out.ins k (seatN m.t.T (m2.C k) T.length) T.length (seatN_le _ _ _) O11.out K11.out HA11.out (by rw [HS2.out.cb]; exact hm12) (by rw [HS2.out.cb]; exact hg12)
              have W12 := Lib.hid hci.1
              have K12 := Lib.hid (KI.out.trans hci.2)
              clear hci hm12 hg12
              refine hK.out _ _ (fun h => absurd h (by decide +kernel)) (fun hSn => ?_)
              clear hK K
              try simp only [Act.put, List.setIfInBounds_toArray, List.set_cons_zero, List.set_cons_succ]
              refine wpAnyK_done (by kernel_rfl) ?_ _
              have WA : Hid (CvW w.heap.size base (m2.setC k A11 c11 ((m2.C k).take (seatN m.t.T (m2.C k) T.length) ++ T.length :: (m2.C k).drop (seatN m.t.T (m2.C k) T.length))) Q2 A2 c2 (w12.alloc (.cells #[.int .i64 (k : Int)] 3))) := W12.out.later (nxAlloc (nxRefl _) _)
              have hwb : w.heap.size ≤ w12.heap.size := by have := HV5w.out; have := K12.out.k.size; omega
              go_wp2_with ((with_reducible show wpList _ _ _ (⟨some 75, _, _, _, _, _⟩ :: _) _ _); refine wpList_append_seesV rfl (.tmp 72) (.tmp 74) 80 rfl w.heap.size 3 i2 _ 1 8 Tryz.underlying80 hi2 hz0 hz1 hz2 rfl (by decide) (.slice A2 Q2.length c2) Q2.length (tiC Q2) rfl WA.out.qo _ (some ⟨w12.heap.size, 0, none⟩) 1 1 [.int .i64 (k : Int)] rfl rfl (SeesV.blk (heap_alloc_new w12 _)) (by intro u hu; rw [List.mem_singleton] at hu; subst hu; rfl) (by omega) (by omega) (by simp; omega) ?_; intro v13 w13 ho13 hg13 ha13; obtain ⟨A13, c13, rfl⟩ := own_form ho13; have hp13 := WA.out.push k ho13 (by rw [← town_map A2 Q2.length c2]; exact hg13) (by rw [← town_map A13 (Q2.length + 1) c13, ← town_map A2 Q2.length c2]; exact ha13); have W13 := Lib.hid hp13.1; have K13 := Lib.hid ((K12.out.later (nxAlloc (nxRefl _) (.cells #[.int .i64 (k : Int)] 3))).trans hp13.2); clear hp13 ho13 hg13 ha13)
              go_roundw
              case rel =>
                refine ⟨Q2 ++ [k], j + 1, A13, c13, _, by omega, HPl2.out, by rw [List.length_append, List.length_singleton], by go_num, W13.out, (HPu _ _).out, ?_, K13.out⟩
                have := HCm.out
                show _ ≤ _
                rw [List.length_append, List.length_singleton]
                show m2.cn + 1 + 1 ≤ _
                omega
              case measure => simp [intOf] <;> omega
        · obtain rfl : j = ps.length := by omega
          go_wp2
          go_roundw
          case rel =>
            have hps := HPs.out
            exact ⟨Q2, i + 1, A2, c2, m2, (by have := (List.getElem?_eq_some_iff.1 HQl2.out.2).1; omega), HQl2.out.1, rfl, by go_num, HW2.out, HV2.out.next HQl2.out.2 (by unfold plF; rw [hps, List.length_map]; exact Nat.le_refl _) (fun m hm => (plF_mem HO.out.g).2 hm), HCm.out, HK5.out.trans HK2.out⟩
          case measure => simp [intOf] <;> omega
    · obtain rfl : i = Q.length := by omega
      go_wp2
      go_end0
      refine ⟨rfl, mr, HW.out.ok, HK.out.same, HV.out.end_ HO.out, ?_, ?_, fun b e => ?_⟩
      · have h1 := HCm0.out
        omega
      · have k1 := HK.out.k
        exact (Keeps.of_below VW0.out (rcov m)).chain k1 fun b hb e => by
          rcases e with e | e
          · exact e
          · have e9 : w.heap.size = b := by simpa using e
            omega
      · rcases HK.out.f b e with e | e
        · exact .inl e
        · exact .inr (Nat.le_trans VW0.out.size e)
end Go.Proofs.YtbfpckomgpkjgaaGreat
