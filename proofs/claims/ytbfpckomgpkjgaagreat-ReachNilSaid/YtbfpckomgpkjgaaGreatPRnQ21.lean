/-
  reach: Cover, Graph, Dealt.
  reach: the chapter's rows (pure).
-/
import Derived.Test.YtbfpckomgpkjgaaGreatRxE
import Derived.Test.YtbfpckomgpkjgaaGreatPRnQ14
namespace Go.Proofs.YtbfpckomgpkjgaaGreat
open Go.RowKit Go.Maps

theorem rx_graph (w : World) (base : Nat) (m : RxM) (h : RxOk w base m) (h0 : 0 < m.ids.length) : Calls Tryz.prog 28 #[.pointer (some ⟨m.q, 0, none⟩)] w fun e w' => e = .returned (.pointer (some ⟨m.g.q, 0, none⟩)) ∧ w' = w := by
  have H1 := Lib.hid (rx_made w base m h h0)
  have hc := h.c.1
  clear h h0
  go_enter Tryz.func28, Tryz.ntmps28
  go_wp2_with (go_at_call 49; refine H1.out.mono ?_; rintro e1 w1 ⟨rfl, hw1⟩; obtain rfl := hw1.symm)
  go_ret
  exact ⟨rfl, rfl⟩
theorem rx_dealt (w : World) (base : Nat) (m : RxM) (h : RxOk w base m) (h0 : 0 < m.ids.length) (ht : 0 < m.t.L.length) : Calls Tryz.prog 29 #[.pointer (some ⟨m.q, 0, none⟩)] w fun e w' => e = .returned (.int .i64 (m.t.dl : Int)) ∧ w' = w := by
  have H1 := Lib.hid (rx_made w base m h h0)
  have H2 := Lib.hid (te_dealt w base m.t h.t ht)
  have hc := h.c.2.1
  clear h h0 ht
  go_enter Tryz.func29, Tryz.ntmps29
  go_wp2_with (first
    | (go_at_call 49; refine H1.out.mono ?_; rintro e1 w1 ⟨rfl, hw1⟩; obtain rfl := hw1.symm)
    | (go_at_call 63; refine H2.out.mono ?_; rintro e2 w2 ⟨rfl, hw2⟩; obtain rfl := hw2.symm))
  go_ret
  exact ⟨rfl, rfl⟩
/-- A cover, rising. -/
def covL (G : Gr) (C : Nat → List Nat) (n : Nat) : List Hh := risH ((C n).map (idG G))
def CoverPost (w : World) (L : List Hh) (e : Ending) (w' : World) : Prop := ∃ A c, e = .returned (.tuple #[.slice A L.length c, .int .i64 0]) ∧ w'.ownsRow w.heap.size 23 32 (.slice A L.length c) L.length (hsC L) ∧ Below w.heap.size w w'
set_option maxRecDepth 100000 in
set_option maxHeartbeats 2000000 in
theorem rx_cover_no (w : World) (base : Nat) (m : RxM) (G : Gr) (h : RxOk w base m) (hg : RxI m G) (x : Hh) (hp : placeG G x = none) : Calls Tryz.prog 15 #[.pointer (some ⟨m.q, 0, none⟩), .agg (hC x).toArray] w fun e w' => e = .returned (.tuple #[.slice none 0 0, .int .i64 6]) ∧ Below w.heap.size w w' := by
  have V0 : Hid (Below w.heap.size w (w.alloc (.cells (hC x).toArray 23))) := nxAlloc (nxRefl w) _
  have B0 : Blk (w.alloc (.cells (hC x).toArray 23)) w.heap.size 23 (hC x).toArray := heap_alloc_new w _
  have H0 := Lib.hid (h.later V0.out)
  have HG := Lib.hid hg
  have HP := Lib.hid hp
  have RX := Lib.hid (rxRng B0)
  clear h hg hp B0
  go_enter Tryz.func15, Tryz.ntmps15
  go_wp2_with (first
    | ((with_reducible show wpList _ _ _ (⟨some 13, _, _, _, _, _⟩ :: _) _ _); refine wpList_load_mid rfl 23 (.tmp 3) rfl w.heap.size 0 rfl (hC x) _ RX.out Tryz.underlying23 rfl (hszL x) ?_)
    | (go_at_call 36; refine (rx_number _ base m G H0.out HG.out x).mono ?_; unfold numV; rw [HP.out]; rintro e1 w1 ⟨rfl, hw1⟩; have V1 : Hid (Below w.heap.size w w1) := nxTo V0.out hw1; clear hw1))
  go_ret2
  exact ⟨rfl, V1.out⟩
set_option maxRecDepth 100000 in
set_option maxHeartbeats 4000000 in
theorem rx_coverL (w : World) (base : Nat) (m : RxM) (G : Gr) (h : RxOk w base m) (hg : RxI m G) (x : Hh) (n : Nat) (hp : placeG G x = some n) : Calls Tryz.prog 15 #[.pointer (some ⟨m.q, 0, none⟩), .agg (hC x).toArray] w (CoverPost w (covL G m.C n)) := by
  unfold CoverPost
  have V0 : Hid (Below w.heap.size w (w.alloc (.cells (hC x).toArray 23))) := nxAlloc (nxRefl w) _
  have B0 : Blk (w.alloc (.cells (hC x).toArray 23)) w.heap.size 23 (hC x).toArray := heap_alloc_new w _
  have HH := Lib.hid h
  have H0 := Lib.hid (h.later V0.out)
  have HG := Lib.hid hg
  have HP := Lib.hid hp
  have RX := Lib.hid (rxRng B0)
  have hnl : n < G.length := (placeG_some hp).1
  have hgm := hg.max
  have hcl : (m.C n).length ≤ 1000 := (hg.cov (k := n) (by omega)).l
  have hct : ∀ c ∈ m.C n, c < m.ids.length := fun c hc => by rw [hg.il]; exact (hg.ix.mlt hc).2
  have HCt := Lib.hid hct
  have hil : m.ids.length ≤ 1000 := by rw [hg.il]; exact hgm
  have HLk : Hid (∀ W, Below w.heap.size w W → (Instr.lookup 61 (.map (some m.cb)) (.int .i64 (n : Int)) false).run Tryz.prog W = .ok (.slice (m.f n).1 (m.C n).length (m.f n).2) W) := fun W hW => rx_cov (HH.out.later hW) (by omega)
  have HSm : Hid ((m.C n).map (idG G) = (m.C n).map fun c => m.ids.getD c default) := by
    refine List.map_congr_left fun c hc => ?_
    have h1 := hct c hc
    rw [List.getD_eq_getElem?_getD, List.getElem?_eq_getElem h1, Option.getD_some, hg.id h1]
  have HHd : Hid (∀ c (h : c < m.ids.length), m.ids[c] = idG G c) := fun c hc => hg.id hc
  obtain ⟨i1, hi1, hy0, hy1, hy2⟩ := info_parts Tryz.dinfoH
  clear h hg hp B0 hct
  go_enter Tryz.func15, Tryz.ntmps15
  go_wp2_with (first
    | ((with_reducible show wpList _ _ _ (⟨some 13, _, _, _, _, _⟩ :: _) _ _); refine wpList_load_mid rfl 23 (.tmp 3) rfl w.heap.size 0 rfl (hC x) _ RX.out Tryz.underlying23 rfl (hszL x) ?_)
    | (go_at_call 36; refine (rx_number _ base m G H0.out HG.out x).mono ?_; unfold numV; rw [HP.out]; rintro e1 w1 ⟨rfl, hw1⟩; have V1 : Hid (Below w.heap.size w w1) := nxTo V0.out hw1; have hlk1 := HLk.out w1 V1.out; have hc4 := (HH.out.later V1.out).c.2.2.2.2; clear hw1))
  clear hlk1 hc4
  have VW1 : Hid (w.heap.size ≤ w1.heap.size) := V1.out.size
  go_loopw [8, 27] (fun ov iv wr => ∃ (k : Nat) (A1 : Option Addr) (c1 : Nat), k ≤ (m.C n).length ∧ ov = .slice A1 k c1 ∧ iv = .int .i64 k ∧ Hid (wr.ownsRow w.heap.size 23 32 (.slice A1 k c1) k (hsC (((m.C n).take k).map (idG G)))) ∧ Hid (Below w.heap.size w wr)) (fun _ iv _ => (m.C n).length - (intOf iv).toNat)
  case atStart => exact ⟨0, none, 0, Nat.zero_le _, rfl, rfl, ⟨rfl, .inl ⟨rfl, rfl⟩⟩, V1.out⟩
  case round =>
    obtain ⟨k, A1, c1, hk, rfl, rfl, HO, HV⟩ := hrel
    by_cases hlt : k < (m.C n).length
    · have HR : Hid (RxOk wr base m) := HH.out.later HV.out
      obtain ⟨gc, hA, hgc, hcc⟩ := HR.out.cc hlt
      obtain ⟨cc, hcx⟩ : ∃ cc, (m.C n)[k] = cc := ⟨_, rfl⟩
      rw [hcx] at hcc
      have hci : cc < m.ids.length := HCt.out cc (by rw [← hcx]; exact List.getElem_mem hlt)
      obtain ⟨gi, hiA, hgi, hri⟩ := HR.out.ci hci
      obtain ⟨y, hy⟩ : ∃ y, m.ids[cc] = y := ⟨_, rfl⟩
      rw [hy] at hri
      have hyG : idG G cc = y := by rw [← hy]; exact (HHd.out cc hci).symm
      have hstep : ((m.C n).take (k + 1)).map (idG G) = ((m.C n).take k).map (idG G) ++ [y] := by
        rw [List.take_succ_eq_append_getElem hlt, List.map_append, hcx]
        simp [hyG]
      have HSt := Lib.hid hstep
      have hc2 : wr.cell? ⟨m.q, 2, none⟩ = some (.slice (some ⟨gi, 0, none⟩) m.ids.length m.ic) := by rw [← hiA]; exact HR.out.c.2.2.1
      have HRy := Lib.hid hri
      have hkn : (k : Int) < ((m.C n).length : Int) := by omega
      have hcn : (cc : Int) < (m.ids.length : Int) := by omega
      have VB : Hid (Below w.heap.size w (wr.alloc (.cells (hC y).toArray 23))) := nxAlloc HV.out _
      have P1 := Lib.hid (own_below HO.out (nxAlloc (nxRefl wr) (.cells (hC y).toArray 23)) (fun g hg => (own_lt HO.out g hg).2))
      rw [hA]
      clear hstep hcx hri hy hyG hiA hgi hgc hA hci
      go_wp2_with (first
        | ((with_reducible show wpList _ _ _ (⟨some 38, _, _, _, _, _⟩ :: _) _ _); refine wpList_load_mid rfl 23 (.tmp 37) rfl gi (cc * 32) rfl (hC y) _ HRy.out Tryz.underlying23 rfl (hszL y) ?_)
        | ((with_reducible show wpList _ _ _ (⟨some 39, _, _, _, _, _⟩ :: _) _ _); refine wpList_build1 rfl 33 23 (.tmp 38) rfl (hC y) _ 32 32 Tryz.underlying33 Tryz.dinfoH (by decide) (by decide) (hC_len y) rfl ?_)
        | ((with_reducible show wpList _ _ _ (⟨some 40, _, _, _, _, _⟩ :: _) _ _); refine wpList_append_seesV rfl (.tmp 31) (.tmp 39) 33 rfl w.heap.size 23 i1 _ 32 32 Tryz.underlying33 hi1 hy0 hy1 hy2 rfl (by decide) (.slice A1 k c1) k (hsC (((m.C n).take k).map (idG G))) rfl P1.out _ (some ⟨wr.heap.size, 0, none⟩) 1 1 (hC y) rfl (by rw [hC_len]) (SeesV.blk (heap_alloc_new wr _)) (hC_one y) (by omega) (by omega) VB.out.size ?_; intro v7 w7 ho7 hg7 ha7; obtain ⟨A7, c7, rfl⟩ := own_form ho7; have O7 := Lib.hid ho7; have V7 : Hid (Below w.heap.size w w7) := VB.out.grown hg7 VB.out.size (fun j hj => (own_lt HO.out j hj).1); clear ho7 hg7 ha7))
      go_roundw
      case rel => exact ⟨k + 1, A7, c7, by omega, rfl, by go_num, (by show World.ownsRow _ _ _ _ _ _ _; rw [HSt.out, hsC_append, show hsC [y] = hC y by simp [hsC]]; exact O7.out), V7.out⟩
      case measure => simp [intOf] <;> omega
    · obtain rfl : k = (m.C n).length := by omega
      have HOl : Hid (wr.ownsRow w.heap.size 23 32 (.slice A1 (m.C n).length c1) (m.C n).length (hsC ((m.C n).map (idG G)))) := by
        have h9 := HO.out
        rw [List.take_length] at h9
        exact h9
      have hml : ((m.C n).map (idG G)).length = (m.C n).length := List.length_map _
      have HSo := sorted_any wr A1 ((m.C n).map (idG G)) c1 (SeesV.own HOl.out) (by rw [hml]; omega)
      rw [hml] at HSo
      unfold SortPost at HSo
      have HSr := Lib.hid HSo
      clear HSo hml
      go_wp2_with (go_at_call 38; refine HSr.out.mono ?_; rintro e w9 ⟨A9, c9, rfl, ho9, hb9⟩; have O9 := Lib.hid ho9; have J9 := Lib.hid hb9; clear ho9 hb9)
      go_ret2
      exact ⟨A9, c9, rfl, own_base O9.out HV.out.size, nxTo HV.out J9.out⟩
end Go.Proofs.YtbfpckomgpkjgaaGreat

namespace Go.Proofs.YtbfpckomgpkjgaaGreat
open Go.RowKit

theorem par_of {T : List Nd} {L : List Nat} (h : parT T = L) {n p : Nat} (hn : L[n]? = some p) : n < T.length ∧ (ndT T n).par = p := by
  have h1 : n < T.length := by
    have := (List.getElem?_eq_some_iff.1 hn).1
    rw [← h, parT_len] at this
    exact this
  refine ⟨h1, ?_⟩
  have h2 := parT_at h1
  rw [h, hn] at h2
  exact (Option.some.inj h2).symm
theorem new_par {m : RxM} {r : Hh} (h : RxI m (newG r)) : parT m.t.T = [0] := by
  have h1 : m.t.T.length = 1 := by rw [h.ix.len]; rfl
  have h2 := parT_at (T := m.t.T) (n := 0) (by omega)
  rw [h.t.ok.r] at h2
  have h3 : (parT m.t.T).length = 1 := by rw [parT_len, h1]
  match hl : parT m.t.T, h3 with
  | [x], _ => rw [hl] at h2; simp at h2; rw [h2]
theorem kx_r1 : refE (newG (kh 1)) (kh 2) (kh 1) [kh 1] = 0 := by decide +kernel
theorem kx_r2 : refE G1 (kh 3) (kh 1) [kh 1] = 0 := by decide +kernel
theorem kx_r3 : refE G2 (kh 4) (kh 2) [kh 2, kh 3] = 0 := by decide +kernel
theorem kx_x1 : addX (newG (kh 1)) (kh 2) (kh 1) [kh 1] = G1 := by decide +kernel
theorem kx_x2 : addX G1 (kh 3) (kh 1) [kh 1] = G2 := by decide +kernel
theorem kx_x3 : addX G2 (kh 4) (kh 2) [kh 2, kh 3] = G3 := by decide +kernel
theorem kx_p1 : addP (newG (kh 1)) (kh 2) (kh 1) [kh 1] [0] = [0, 0] := by decide +kernel
theorem kx_p2 : addP G1 (kh 3) (kh 1) [kh 1] [0, 0] = [0, 0, 0] := by decide +kernel
theorem kx_p3 : addP G2 (kh 4) (kh 2) [kh 2, kh 3] [0, 0, 0] = [0, 0, 0, 1] := by decide +kernel
theorem kx_anc : Anc G3 2 3 ∧ ¬ Anc G3 2 2 ∧ ¬ Anc G3 2 1 ∧ G3.length = 4 := by
  refine ⟨(ancC_iff kn_ok 4 2 3 (by omega)).1 (by rw [kn_g3]; decide +kernel), fun h => ?_, fun h => ?_, by rw [kn_g3]; rfl⟩
  · have := h.lt kn_ok; omega
  · have := h.lt kn_ok; omega
theorem kx_cov {T : List Nd} {C : Nat → List Nat} (I : IxOk G3 T C) (h : parT T = [0, 0, 0, 1]) : covL G3 C 2 = [kh 4] := by
  obtain ⟨h1, h2, h3, h4⟩ := kx_anc
  have hp := (par_of h (n := 3) (p := 1) rfl).2
  have hmem : ∀ c, c ∈ C 2 ↔ c = 3 := fun c => by
    rw [I.cov]
    constructor
    · intro k
      have k1 := k.lt
      have k2 := k.2.1.lt kn_ok
      omega
    · rintro rfl
      refine ⟨by omega, h1, ?_, ?_⟩
      · rw [hp]
        intro k
        have := k.le I.t
        omega
      · rw [hp]; exact h3
  have e : covL G3 C 2 = risH [kh 4] := by
    unfold covL
    refine risH_eq fun x => ?_
    rw [List.mem_map, List.mem_singleton]
    constructor
    · rintro ⟨c, hc, rfl⟩
      rw [(hmem c).1 hc, kn_g3]
      rfl
    · rintro rfl
      exact ⟨3, (hmem 3).2 rfl, by rw [kn_g3]; rfl⟩
  rw [e]
  exact risH_self (List.pairwise_singleton _ _)
theorem kx_pl2 : placeG G3 (kh 3) = some 2 := kn_pl 2 (by omega)
theorem kx_pl3 : placeG G3 (kh 4) = some 3 := kn_pl 3 (by omega)
theorem kx_bef : befB G3 (kh 3) (kh 4) = true := by
  unfold befB
  rw [kx_pl2, kx_pl3]
  exact @decide_eq_true _ (Classical.propDecidable _) kx_anc.1
theorem kx_ch1 {T : List Nd} (o : OkT T) (h : parT T = [0, 0, 0, 1]) : chB G3 T (kh 3) (kh 4) = false := by
  unfold chB
  rw [kx_pl2, kx_pl3]
  refine @decide_eq_false _ (Classical.propDecidable _) fun k => ?_
  cases k with
  | up _ _ k =>
    rw [(par_of h (n := 3) (p := 1) rfl).2] at k
    have := k.le o
    omega
theorem kx_ch2 {T : List Nd} (h : parT T = [0, 0, 0, 1]) : chB G3 T (kh 2) (kh 4) = true := by
  unfold chB
  rw [show placeG G3 (kh 2) = some 1 from kn_pl 1 (by omega), kx_pl3]
  refine @decide_eq_true _ (Classical.propDecidable _) (.up (by omega) (par_of h (n := 3) (p := 1) rfl).1 ?_)
  rw [(par_of h (n := 3) (p := 1) rfl).2]
  exact .refl _
end Go.Proofs.YtbfpckomgpkjgaaGreat
