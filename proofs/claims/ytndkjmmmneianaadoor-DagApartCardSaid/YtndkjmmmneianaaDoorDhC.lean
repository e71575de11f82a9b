/-
  dag: DagApart's walk.
-/
import Derived.Test.YtndkjmmmneianaaDoorPGaQ3
import Derived.Test.YtndkjmmmneianaaDoorDh9
namespace Go.Proofs.YtndkjmmmneianaaDoor
open Go.RowKit Go.Shelf

set_option maxRecDepth 100000 in
set_option maxHeartbeats 8000000 in
theorem dagApart_any (w : World) (hT : TabAt 0 Lib.deBruijn64tab w) (root : Hh) (SL : Option Addr) (l : List RNd) (c : Nat) (hS : SeesV w w.heap.size SL (rnsC l)) (hE : ∀ x ∈ l, SeesV w w.heap.size x.A (hsC x.ps)) (hl : l.length ≤ 9223372036854775807)
    (SA : Option Addr) (a : List RNd) (ca : Nat) (hSa : SeesV w w.heap.size SA (rnsC a)) (hEa : ∀ x ∈ a, SeesV w w.heap.size x.A (hsC x.ps)) (hla : a.length ≤ 9223372036854775807)
    (SB : Option Addr) (b : List RNd) (cb : Nat) (hSb : SeesV w w.heap.size SB (rnsC b)) (hEb : ∀ x ∈ b, SeesV w w.heap.size x.A (hsC x.ps)) (hlb : b.length ≤ 9223372036854775807) :
    Calls Tryd.prog 6 #[.agg (hC root).toArray, .slice SL l.length c, .slice SA a.length ca, .slice SB b.length cb] w fun e w' => e = .returned (.bool true) ∧ Below w.heap.size w w' := by
  obtain ⟨wb, hwb⟩ : ∃ x, w.alloc (.cells (hC root).toArray 23) = x := ⟨_, rfl⟩
  have V0 : Hid (Below w.heap.size w wb) := by rw [← hwb]; exact nxAlloc (nxRefl w) _
  have B0 : Hid (Blk wb w.heap.size 23 (hC root).toArray) := by rw [← hwb]; exact heap_alloc_new w _
  have HWb := Lib.hid hwb
  have h0w : 0 < w.heap.size := World.block_lt_of_cell? _ _ (hT 0 (by decide))
  have H0w := Lib.hid h0w
  have HTab := Lib.hid hT
  have hf1 := few_any wb SL l c 20 ((hS.below V0.out).more V0.out.size) hl (by omega)
  have hf2 := few_any wb SA a ca 20 ((hSa.below V0.out).more V0.out.size) hla (by omega)
  have hf3 := few_any wb SB b cb 20 ((hSb.below V0.out).more V0.out.size) hlb (by omega)
  clear hwb h0w hT
  cases h1 : fewB l 20 with
  | false =>
    rw [h1] at hf1
    have F1 := Lib.hid hf1
    clear hf1 hf2 hf3 h1 hS hE hl hSa hEa hla hSb hEb hlb
    go_enter Tryd.func6, Tryd.ntmps6
    go_wp2_with (first
      | (go_at_call 8; (with_reducible show Calls _ _ #[.slice SL _ _, _] _ _); (try rw [HWb.out]); refine F1.out.mono ?_; rintro e wn1 ⟨rfl, hw1⟩; obtain rfl := hw1.symm)
      | (go_at_call 9; refine (known_any _).mono ?_; rintro e w4 ⟨rfl, hb4⟩; have K4 : Hid (Below w.heap.size w w4) := nxTo V0.out hb4; clear hb4))
    go_ret
    exact ⟨rfl, K4.out⟩
  | true =>
  cases h2 : fewB a 20 with
  | false =>
    rw [h1] at hf1
    rw [h2] at hf2
    have F1 := Lib.hid hf1
    have F2 := Lib.hid hf2
    clear hf1 hf2 hf3 h1 h2 hS hE hl hSa hEa hla hSb hEb hlb
    go_enter Tryd.func6, Tryd.ntmps6
    go_wp2_with (first
      | (go_at_call 8; (with_reducible show Calls _ _ #[.slice SL _ _, _] _ _); (try rw [HWb.out]); refine F1.out.mono ?_; rintro e wn1 ⟨rfl, hw1⟩; obtain rfl := hw1.symm)
      | (go_at_call 8; (with_reducible show Calls _ _ #[.slice SA _ _, _] _ _); (try rw [HWb.out]); refine F2.out.mono ?_; rintro e wn2 ⟨rfl, hw1⟩; obtain rfl := hw1.symm)
      | (go_at_call 9; refine (known_any _).mono ?_; rintro e w4 ⟨rfl, hb4⟩; have K4 : Hid (Below w.heap.size w w4) := nxTo V0.out hb4; clear hb4))
    go_ret
    exact ⟨rfl, K4.out⟩
  | true =>
  cases h3 : fewB b 20 with
  | false =>
    rw [h1] at hf1
    rw [h2] at hf2
    rw [h3] at hf3
    have F1 := Lib.hid hf1
    have F2 := Lib.hid hf2
    have F3 := Lib.hid hf3
    clear hf1 hf2 hf3 h1 h2 h3 hS hE hl hSa hEa hla hSb hEb hlb
    go_enter Tryd.func6, Tryd.ntmps6
    go_wp2_with (first
      | (go_at_call 8; (with_reducible show Calls _ _ #[.slice SL _ _, _] _ _); (try rw [HWb.out]); refine F1.out.mono ?_; rintro e wn1 ⟨rfl, hw1⟩; obtain rfl := hw1.symm)
      | (go_at_call 8; (with_reducible show Calls _ _ #[.slice SA _ _, _] _ _); (try rw [HWb.out]); refine F2.out.mono ?_; rintro e wn2 ⟨rfl, hw1⟩; obtain rfl := hw1.symm)
      | (go_at_call 8; (with_reducible show Calls _ _ #[.slice SB _ _, _] _ _); (try rw [HWb.out]); refine F3.out.mono ?_; rintro e wn3 ⟨rfl, hw1⟩; obtain rfl := hw1.symm)
      | (go_at_call 9; refine (known_any _).mono ?_; rintro e w4 ⟨rfl, hb4⟩; have K4 : Hid (Below w.heap.size w w4) := nxTo V0.out hb4; clear hb4))
    go_ret
    exact ⟨rfl, K4.out⟩
  | true =>
  obtain ⟨hl20, hp8⟩ := few_le h1
  obtain ⟨ha20, hpa8⟩ := few_le h2
  obtain ⟨hb20, hpb8⟩ := few_le h3
  rw [h1] at hf1
  rw [h2] at hf2
  rw [h3] at hf3
  have F1 := Lib.hid hf1
  have F2 := Lib.hid hf2
  have F3 := Lib.hid hf3
  have HSa := Lib.hid hSa
  have HEa := Lib.hid hEa
  have HLa : Hid (a.length ≤ 20) := ha20
  have HPa := Lib.hid hpa8
  have HSb := Lib.hid hSb
  have HEb := Lib.hid hEb
  have HLb : Hid (b.length ≤ 20) := hb20
  have HPb := Lib.hid hpb8
  have hbg := begin_any wb root SL l c ((hS.below V0.out).more V0.out.size) (fun x hx => ((hE x hx).below V0.out).more V0.out.size) (by omega) hp8
  have hgl : (runG root l).length ≤ 21 := by have := runG_len root l; omega
  obtain ⟨G, hG⟩ : ∃ G, runG root l = G := ⟨_, rfl⟩
  rw [hG] at hgl hbg
  have HBg := Lib.hid hbg
  have HG0 : Hid (G.length ≤ 21) := hgl
  clear hf1 hf2 hf3 h1 h2 h3 hbg hG hp8 hl20 hl hS hE hgl hSa hEa hla hSb hEb hlb ha20 hb20 hpa8 hpb8
  go_enter Tryd.func6, Tryd.ntmps6
  go_wp2_with (first
    | (go_at_call 8; (with_reducible show Calls _ _ #[.slice SL _ _, _] _ _); (try rw [HWb.out]); refine F1.out.mono ?_; rintro e wn1 ⟨rfl, hw1⟩; obtain rfl := hw1.symm)
    | (go_at_call 8; (with_reducible show Calls _ _ #[.slice SA _ _, _] _ _); (try rw [HWb.out]); refine F2.out.mono ?_; rintro e wn2 ⟨rfl, hw1⟩; obtain rfl := hw1.symm)
    | (go_at_call 8; (with_reducible show Calls _ _ #[.slice SB _ _, _] _ _); (try rw [HWb.out]); refine F3.out.mono ?_; rintro e wn3 ⟨rfl, hw1⟩; obtain rfl := hw1.symm)
    | ((with_reducible show wpList _ _ _ (⟨some 31, _, _, _, _, _⟩ :: _) _ _); refine wpList_load_mid rfl 23 (.tmp 4) rfl w.heap.size 0 rfl (hC root) _ (kb_range B0.out) Tryd.underlying23 rfl (hszL root) ?_)
    | (go_at_call 10; refine HBg.out.mono ?_; rintro e w2 ⟨m, r, rfl, ht2, hb2⟩; have HT2 := Lib.hid ht2; have V2 : Hid (Below w.heap.size w w2) := nxTo V0.out hb2; clear ht2 hb2 HBg F1 F2 F3))
  have HB0 : Hid (w.heap.size ≤ wb.heap.size) := V0.out.size
  obtain ⟨b0, hb0⟩ : ∃ n, wb.heap.size = n := ⟨_, rfl⟩
  rw [hb0] at HT2 HB0
  clear hb0 HWb V0 B0
  go_cut [12, 13] from 39 (fun u v wx => ∃ mc rc, u = .pointer (some ⟨mc.q, 0, none⟩) ∧ v = .pointer (some ⟨rc.q, 0, none⟩) ∧ Hid (Four wx b0 m G r mc G rc) ∧ Hid (Below w.heap.size w wx))
  case first =>
    have VD : Hid (Below w.heap.size w w2.drew) := nxDrT V2.out
    have HTd : Hid (Two w2.drew b0 m G r) := HT2.out.later (nxDrT (nxRefl _))
    have HTw : Hid (∀ W, Below w2.drew.heap.size w2.drew W → Two W b0 m G r) := fun W hW => HTd.out.later hW
    have HRq : Hid (∀ W, Below w2.drew.heap.size w2.drew W → W.cell? ⟨r.q, 0, none⟩ = some (.slice r.A r.l.length r.c)) := fun W hW => (HTw.out W hW).d.b.cell 0
    have hbd : ∀ wq : World, (Instr.build 37 #[(0, .slice r.A r.l.length r.c)]).run Tryd.prog wq = .ok (.agg #[.slice r.A r.l.length r.c]) wq := fun wq => by kernel_rfl
    have KK : Hid (Below w2.drew.heap.size w2.drew w2.drew) := nxRefl _
    refine wp_region_held_drew (S := fun W => W.cell? ⟨r.q, 0, none⟩ = some (.slice r.A r.l.length r.c)) (by kernel_rfl) (HRq.out _ KK.out) (fun hHeld => ?_)
    generalize w2.drew = wd at *
    refine wpAnyH_take (i := 0) (oi := ⟨_, _, _, _, _, _⟩) (v := ?_) rfl (by kernel_rfl) (by kernel_rfl) (by kernel_rfl) (fun _ _ _ h => h) (Or.inl ⟨by rfl, ?_⟩) (by assumption) ?_
    rotate_left 1
    · intro W hSw
      try dsimp only at hSw
      have hs1 := hSw
      go_simp
      try with_reducible rfl
    try simp only [Act.put, List.setIfInBounds_toArray, List.set_cons_zero, List.set_cons_succ]
    refine wpAnyH_take (i := 2) (oi := ⟨_, _, _, _, _, _⟩) (v := ?_) rfl (by kernel_rfl) (by kernel_rfl) (by kernel_rfl) (fun _ _ _ h => h) (Or.inl ⟨by rfl, ?_⟩) (by assumption) ?_
    rotate_left 1
    · intro W hSw
      try dsimp only at hSw
      have hs1 := hSw
      go_simp
      try with_reducible rfl
    try simp only [Act.put, List.setIfInBounds_toArray, List.set_cons_zero, List.set_cons_succ]
    refine wpAnyH_take (i := 3) (oi := ⟨_, _, _, _, _, _⟩) (v := ?_) rfl (by kernel_rfl) (by kernel_rfl) (by kernel_rfl) (fun _ _ _ h => h) (Or.inl ⟨by rfl, ?_⟩) (by assumption) ?_
    rotate_left 1
    · intro W hSw
      try dsimp only at hSw
      have hs1 := hSw
      go_simp
      try with_reducible rfl
    try simp only [Act.put, List.setIfInBounds_toArray, List.set_cons_zero, List.set_cons_succ]
    refine wpAnyH_take (i := 4) (oi := ⟨_, _, _, _, _, _⟩) (v := ?_) rfl (by kernel_rfl) (by kernel_rfl) (by kernel_rfl) (fun _ _ _ h => h) (Or.inl ⟨by rfl, ?_⟩) (by assumption) ?_
    rotate_left 1
    · intro W hSw
      try dsimp only at hSw
      have hs1 := hSw
      go_simp
      try with_reducible rfl
    try simp only [Act.put, List.setIfInBounds_toArray, List.set_cons_zero, List.set_cons_succ]
    refine wpAnyH_take (i := 5) (oi := ⟨_, _, _, _, _, _⟩) (v := ?_) rfl (by kernel_rfl) (by kernel_rfl) (by kernel_rfl) (fun _ _ _ h => h) (Or.inl ⟨by rfl, ?_⟩) (by assumption) ?_
    rotate_left 1
    · intro W hSw
      try dsimp only at hSw
      have hs1 := hSw
      go_simp
      try with_reducible rfl
    try simp only [Act.put, List.setIfInBounds_toArray, List.set_cons_zero, List.set_cons_succ]
    refine wpAnyH_take (i := 6) (oi := ⟨_, _, _, _, _, _⟩) (v := ?_) rfl (by kernel_rfl) (by kernel_rfl) (by kernel_rfl) (fun _ _ _ h => h) (Or.inl ⟨by rfl, ?_⟩) (by assumption) ?_
    rotate_left 1
    · intro W hSw
      try dsimp only at hSw
      have hs1 := hSw
      go_simp
      try with_reducible rfl
    try simp only [Act.put, List.setIfInBounds_toArray, List.set_cons_zero, List.set_cons_succ]
    refine wpAnyH_ready (rs := [1, 7]) (by kernel_rfl) (by simp) ?_
    refine (AllReadyH.cons rfl (fun K hK => ?_) (AllReadyH.cons rfl (fun K hK => ?_) AllReadyH.nil))
    · skip
      go_simp
      go_at_call 22
      refine (copy_any _ b0 m G (HTw.out _ KK.out).g (HTw.out _ KK.out).i).mono ?_
      rintro e wC ⟨mc, rfl, hg, hi, hf, hro, hb⟩
      have GC := Lib.hid hg
      have IC := Lib.hid hi
      have FC := Lib.hid hf
      have RC := Lib.hid hro
      replace KK := Lib.hid (nxTo KK.out hb)
      clear hg hi hf hro hb
      refine hK.out _ _ (HRq.out _ KK.out) (fun hSn => ?_)
      clear hK K
      try simp only [Act.put, List.setIfInBounds_toArray, List.set_cons_zero, List.set_cons_succ]
      refine wpAnyH_take (i := 8) (oi := ⟨_, _, _, _, _, _⟩) (v := ?_) rfl (by kernel_rfl) (by kernel_rfl) (by kernel_rfl) (fun _ _ _ h => h) (Or.inl ⟨by rfl, ?_⟩) (by assumption) ?_
      rotate_left 1
      · intro W hSw
        try dsimp only at hSw
        have hs1 := hSw
        go_simp
        try with_reducible rfl
      try simp only [Act.put, List.setIfInBounds_toArray, List.set_cons_zero, List.set_cons_succ]
      refine wpAnyH_ready (rs := [7]) (by kernel_rfl) (by simp) ?_
      refine (AllReadyH.cons rfl (fun K hK => ?_) AllReadyH.nil)
      go_simp
      obtain ⟨wB, hwB⟩ : ∃ x, wC.alloc (.cells #[.slice r.A r.l.length r.c] 37) = x := ⟨_, rfl⟩
      have J : Hid (Below wC.heap.size wC wB) := (by rw [← hwB]; exact nxAlloc (nxRefl _) _)
      have BB : Hid (Blk wB wC.heap.size 37 #[.slice r.A r.l.length r.c]) := (by rw [← hwB]; exact heap_alloc_new _ _)
      rw [hwB]
      obtain ⟨qv, hqv⟩ : ∃ x, wC.heap.size = x := ⟨_, rfl⟩
      have HQv0 : Hid (wd.heap.size ≤ qv) := (by show _ ≤ _; rw [← hqv]; exact KK.out.size)
      rw [hqv] at BB ⊢
      have HQF : Hid (¬ foot mc qv) := (fun e => by have h1 := (GC.out.lt e).2; omega)
      replace GC := Lib.hid (GC.out.later J.out)
      replace KK := Lib.hid (nxTo KK.out J.out)
      clear hwB hqv J
      refine hK.out _ _ (HRq.out _ KK.out) (fun hSn => ?_)
      clear hK K
      try simp only [Act.put, List.setIfInBounds_toArray, List.set_cons_zero, List.set_cons_succ]
      refine wpAnyH_take (i := 9) (oi := ⟨_, _, _, _, _, _⟩) (v := ?_) rfl (by kernel_rfl) (by kernel_rfl) (by kernel_rfl) (fun _ _ _ h => h) (Or.inl ⟨by rfl, ?_⟩) (by assumption) ?_
      rotate_left 1
      · intro W hSw
        try dsimp only at hSw
        have hs1 := hSw
        go_simp
        try with_reducible rfl
      try simp only [Act.put, List.setIfInBounds_toArray, List.set_cons_zero, List.set_cons_succ]
      refine wpAnyH_done (by kernel_rfl) ?_ _
      go_wp2_with fail
      go_meet
      exact ⟨mc, ⟨qv, r.A, r.c, r.l⟩, rfl, rfl, four_new HTd.out KK.out GC.out IC.out FC.out RC.out HQv0.out BB.out HQF.out, nxTo VD.out KK.out⟩
    · skip
      go_simp
      obtain ⟨wB, hwB⟩ : ∃ x, wd.alloc (.cells #[.slice r.A r.l.length r.c] 37) = x := ⟨_, rfl⟩
      have J : Hid (Below wd.heap.size wd wB) := (by rw [← hwB]; exact nxAlloc (nxRefl _) _)
      have BB : Hid (Blk wB wd.heap.size 37 #[.slice r.A r.l.length r.c]) := (by rw [← hwB]; exact heap_alloc_new _ _)
      rw [hwB]
      obtain ⟨qv, hqv⟩ : ∃ x, wd.heap.size = x := ⟨_, rfl⟩
      have HQv0 : Hid (wd.heap.size ≤ qv) := (by show _ ≤ _; rw [← hqv]; exact KK.out.size)
      rw [hqv] at BB ⊢
      replace KK := Lib.hid (nxTo KK.out J.out)
      clear hwB hqv J
      refine hK.out _ _ (HRq.out _ KK.out) (fun hSn => ?_)
      clear hK K
      try simp only [Act.put, List.setIfInBounds_toArray, List.set_cons_zero, List.set_cons_succ]
      refine wpAnyH_ready (rs := [1]) (by kernel_rfl) (by simp) ?_
      refine (AllReadyH.cons rfl (fun K hK => ?_) AllReadyH.nil)
      go_simp
      go_at_call 22
      refine (copy_any _ b0 m G (HTw.out _ KK.out).g (HTw.out _ KK.out).i).mono ?_
      rintro e wC ⟨mc, rfl, hg, hi, hf, hro, hb⟩
      have GC := Lib.hid hg
      have IC := Lib.hid hi
      have FC := Lib.hid hf
      have RC := Lib.hid hro
      have HQF : Hid (¬ foot mc qv) := (fun e => by have h1 := FC.out _ e; have h2 := BB.out.lt; omega)
      replace BB := Lib.hid (BB.out.below hb BB.out.lt)
      replace FC : Hid (∀ k, foot mc k → wd.heap.size ≤ k) := (fun k e => Nat.le_trans KK.out.size (FC.out k e))
      replace KK := Lib.hid (nxTo KK.out hb)
      clear hg hi hf hro hb
      refine hK.out _ _ (HRq.out _ KK.out) (fun hSn => ?_)
      clear hK K
      try simp only [Act.put, List.setIfInBounds_toArray, List.set_cons_zero, List.set_cons_succ]
      refine wpAnyH_take (i := 8) (oi := ⟨_, _, _, _, _, _⟩) (v := ?_) rfl (by kernel_rfl) (by kernel_rfl) (by kernel_rfl) (fun _ _ _ h => h) (Or.inl ⟨by rfl, ?_⟩) (by assumption) ?_
      rotate_left 1
      · intro W hSw
        try dsimp only at hSw
        have hs1 := hSw
        go_simp
        try with_reducible rfl
      try simp only [Act.put, List.setIfInBounds_toArray, List.set_cons_zero, List.set_cons_succ]
      refine wpAnyH_take (i := 9) (oi := ⟨_, _, _, _, _, _⟩) (v := ?_) rfl (by kernel_rfl) (by kernel_rfl) (by kernel_rfl) (fun _ _ _ h => h) (Or.inl ⟨by rfl, ?_⟩) (by assumption) ?_
      rotate_left 1
      · intro W hSw
        try dsimp only at hSw
        have hs1 := hSw
        go_simp
        try with_reducible rfl
      try simp only [Act.put, List.setIfInBounds_toArray, List.set_cons_zero, List.set_cons_succ]
      refine wpAnyH_done (by kernel_rfl) ?_ _
      go_wp2_with fail
      go_meet
      exact ⟨mc, ⟨qv, r.A, r.c, r.l⟩, rfl, rfl, four_new HTd.out KK.out GC.out IC.out FC.out RC.out HQv0.out BB.out HQF.out, nxTo VD.out KK.out⟩
  case rest =>
    obtain ⟨mc, rc, rfl, rfl, HT0, HV0⟩ := hcut
    obtain ⟨p1, hp1⟩ : ∃ p, m.q = p := ⟨_, rfl⟩
    obtain ⟨p2, hp2⟩ : ∃ p, r.q = p := ⟨_, rfl⟩
    obtain ⟨G0, hG0⟩ : ∃ x, G = x := ⟨_, rfl⟩
    rw [hp1, hp2]
    rw [hG0] at HT0 HG0
    clear hG0 HT2 V2
    go_wp2_with fail
    go_loopw [14] (fun iv wr => ∃ (k : Nat) (m : GrM) (r : RGm), k ≤ a.length ∧ iv = .int .i64 k ∧ m.q = p1 ∧ r.q = p2 ∧ Hid (Four wr b0 m (runF G0 (a.take k)) r mc G0 rc) ∧ Hid (Below w.heap.size w wr)) (fun iv _ => a.length - (intOf iv).toNat)
    case atStart => exact ⟨0, _, _, Nat.zero_le _, rfl, hp1, hp2, HT0, HV0⟩
    case round =>
      clear HT0 HV0 hp1 hp2
      obtain ⟨k, m, r, hk, rfl, hp1, hp2, HT0, HV0⟩ := hrel
      by_cases hlt : k < a.length
      · subst hp1
        subst hp2
        obtain ⟨b1, f1, hA1, hb1, hr1⟩ := sees_node HSa.out hlt
        have HT : Hid (Four wr.drew b0 m (runF G0 (a.take k)) r mc G0 rc) := HT0.out.later (nxDrT (nxRefl _))
        have HV : Hid (Below w.heap.size w wr.drew) := nxDrT HV0.out
        have hn2 : runF G0 (a.take (k + 1)) = addG (runF G0 (a.take k)) a[k].id a[k].ps := by rw [List.take_succ_eq_append_getElem hlt, runF_snoc]
        have hgl : (runF G0 (a.take k)).length ≤ 1001 := by
          have h1 := runF_len (a.take k) G0
          rw [List.length_take] at h1
          have h2 := HLa.out
          have h3 := HG0.out
          omega
        have r1 := node_id (rngK (hr1 k hlt) HV.out hb1)
        have r2 := node_ps (rngK (hr1 k hlt) HV.out hb1)
        have sx := HEa.out _ (List.getElem_mem hlt)
        have px := HPa.out _ (List.getElem_mem hlt)
        obtain ⟨y, hy⟩ : ∃ y, a[k] = y := ⟨_, rfl⟩
        rw [hy] at r1 r2 sx px hn2
        rw [hA1]
        clear hr1 hy hA1
        obtain ⟨x, xs, xA, xc⟩ := y
        dsimp only at r1 r2 sx px hn2
        have HRl : Hid (r.l.length ≤ 1001) := by show _ ≤ _; rw [HT0.out.t1.rel.len]; exact hgl
        have HLen : Hid (m.L.length ≤ 1001) := by show _ ≤ _; rw [HT0.out.t1.i.len]; exact hgl
        generalize runF G0 (a.take k) = G at *
        have hz := HT.out.t1.rel.addE x xs
        obtain ⟨z, hzz⟩ : ∃ z, addE G x xs = z := ⟨_, rfl⟩
        rw [hzz] at hz
        have HZ := Lib.hid hzz
        have HRz := Lib.hid hz
        have HN2 := Lib.hid hn2
        have HR1 := Lib.hid r1
        have HR2 := Lib.hid r2
        have HSw := Lib.hid sx
        have HSx : Hid (SeesV wr.drew wr.drew.heap.size xA (hsC xs)) := (sx.below HV.out).more HV.out.size
        have HXl := Lib.hid px
        have HBk : Hid (b1 < w.heap.size) := hb1
        have hin : (k : Int) < (a.length : Int) := by omega
        have hl9 := HLa.out
        clear r1 r2 sx px hn2 hz hzz hb1 hgl
        go_wp2
        refine wp_region_held_drew (S := fun W => W.rangeAt b1 (f1 + k * 33) (hC x) ∧ W.cell? ⟨b1, f1 + k * 33 + 32, none⟩ = some (.slice xA xs.length xc)) (by kernel_rfl) ⟨HR1.out, HR2.out⟩ (fun hHeld => ?_)
        refine wpAnyH_take (i := 0) (oi := ⟨_, _, _, _, _, _⟩) (v := ?_) rfl (by kernel_rfl) (by kernel_rfl) (by kernel_rfl) (fun _ _ _ h => h) (Or.inl ⟨by rfl, ?_⟩) (by assumption) ?_
        rotate_left 1
        · intro W hSw
          try dsimp only at hSw
          obtain ⟨hs1, hs2⟩ := hSw
          go_simp
          try with_reducible rfl
        try simp only [Act.put, List.setIfInBounds_toArray, List.set_cons_zero, List.set_cons_succ]
        refine wpAnyH_take (i := 1) (oi := ⟨_, _, _, _, _, _⟩) (v := ?_) rfl (by kernel_rfl) (by kernel_rfl) (by kernel_rfl) (fun _ _ _ h => h) (Or.inl ⟨by rfl, ?_⟩) (by assumption) ?_
        rotate_left 1
        · intro W hSw
          try dsimp only at hSw
          obtain ⟨hs1, hs2⟩ := hSw
          go_simp
          try with_reducible rfl
        try simp only [Act.put, List.setIfInBounds_toArray, List.set_cons_zero, List.set_cons_succ]
        refine wpAnyH_take (i := 2) (oi := ⟨_, _, _, _, _, _⟩) (v := ?_) rfl (by kernel_rfl) (by kernel_rfl) (by kernel_rfl) (fun _ _ _ h => h) (Or.inl ⟨by rfl, ?_⟩) (by assumption) ?_
        rotate_left 1
        · intro W hSw
          try dsimp only at hSw
          obtain ⟨hs1, hs2⟩ := hSw
          go_simp
          try with_reducible rfl
        try simp only [Act.put, List.setIfInBounds_toArray, List.set_cons_zero, List.set_cons_succ]
        refine wpAnyH_take (i := 3) (oi := ⟨_, _, _, _, _, _⟩) (v := ?_) rfl (by kernel_rfl) (by kernel_rfl) (by kernel_rfl) (fun _ _ _ h => h) (Or.inl ⟨by rfl, ?_⟩) (by assumption) ?_
        rotate_left 1
        · intro W hSw
          try dsimp only at hSw
          obtain ⟨hs1, hs2⟩ := hSw
          go_simp
          try with_reducible rfl
        try simp only [Act.put, List.setIfInBounds_toArray, List.set_cons_zero, List.set_cons_succ]
        refine wpAnyH_take (i := 4) (oi := ⟨_, _, _, _, _, _⟩) (v := ?_) rfl (by kernel_rfl) (by kernel_rfl) (by kernel_rfl) (fun _ _ _ h => h) (Or.inl ⟨by rfl, ?_⟩) (by assumption) ?_
        rotate_left 1
        · intro W hSw
          try dsimp only at hSw
          obtain ⟨hs1, hs2⟩ := hSw
          go_simp
          try with_reducible rfl
        try simp only [Act.put, List.setIfInBounds_toArray, List.set_cons_zero, List.set_cons_succ]
        refine wpAnyH_take (i := 5) (oi := ⟨_, _, _, _, _, _⟩) (v := .agg (hC x).toArray) rfl (by kernel_rfl) (by kernel_rfl) (by kernel_rfl) (fun _ _ _ h => h) (yieldsIf_load_mid (by rfl) 23 (.tmp 57) rfl b1 (f1 + k * 33) rfl (hC x) _ (fun W h => h.1) Tryd.underlying23 rfl (hszL x)) (by assumption) ?_
        try simp only [Act.put, List.setIfInBounds_toArray, List.set_cons_zero, List.set_cons_succ]
        refine wpAnyH_take (i := 6) (oi := ⟨_, _, _, _, _, _⟩) (v := ?_) rfl (by kernel_rfl) (by kernel_rfl) (by kernel_rfl) (fun _ _ _ h => h) (Or.inl ⟨by rfl, ?_⟩) (by assumption) ?_
        rotate_left 1
        · intro W hSw
          try dsimp only at hSw
          obtain ⟨hs1, hs2⟩ := hSw
          go_simp
          try with_reducible rfl
        try simp only [Act.put, List.setIfInBounds_toArray, List.set_cons_zero, List.set_cons_succ]
        refine wpAnyH_take (i := 7) (oi := ⟨_, _, _, _, _, _⟩) (v := ?_) rfl (by kernel_rfl) (by kernel_rfl) (by kernel_rfl) (fun _ _ _ h => h) (Or.inl ⟨by rfl, ?_⟩) (by assumption) ?_
        rotate_left 1
        · intro W hSw
          try dsimp only at hSw
          obtain ⟨hs1, hs2⟩ := hSw
          go_simp
          try with_reducible rfl
        try simp only [Act.put, List.setIfInBounds_toArray, List.set_cons_zero, List.set_cons_succ]
        refine wpAnyH_take (i := 8) (oi := ⟨_, _, _, _, _, _⟩) (v := ?_) rfl (by kernel_rfl) (by kernel_rfl) (by kernel_rfl) (fun _ _ _ h => h) (Or.inl ⟨by rfl, ?_⟩) (by assumption) ?_
        rotate_left 1
        · intro W hSw
          try dsimp only at hSw
          obtain ⟨hs1, hs2⟩ := hSw
          go_simp
          try with_reducible rfl
        try simp only [Act.put, List.setIfInBounds_toArray, List.set_cons_zero, List.set_cons_succ]
        refine wpAnyH_take (i := 9) (oi := ⟨_, _, _, _, _, _⟩) (v := ?_) rfl (by kernel_rfl) (by kernel_rfl) (by kernel_rfl) (fun _ _ _ h => h) (Or.inl ⟨by rfl, ?_⟩) (by assumption) ?_
        rotate_left 1
        · intro W hSw
          try dsimp only at hSw
          obtain ⟨hs1, hs2⟩ := hSw
          go_simp
          try with_reducible rfl
        try simp only [Act.put, List.setIfInBounds_toArray, List.set_cons_zero, List.set_cons_succ]
        refine wpAnyH_take (i := 10) (oi := ⟨_, _, _, _, _, _⟩) (v := ?_) rfl (by kernel_rfl) (by kernel_rfl) (by kernel_rfl) (fun _ _ _ h => h) (Or.inl ⟨by rfl, ?_⟩) (by assumption) ?_
        rotate_left 1
        · intro W hSw
          try dsimp only at hSw
          obtain ⟨hs1, hs2⟩ := hSw
          go_simp
          try with_reducible rfl
        try simp only [Act.put, List.setIfInBounds_toArray, List.set_cons_zero, List.set_cons_succ]
        refine wpAnyH_take (i := 12) (oi := ⟨_, _, _, _, _, _⟩) (v := ?_) rfl (by kernel_rfl) (by kernel_rfl) (by kernel_rfl) (fun _ _ _ h => h) (Or.inl ⟨by rfl, ?_⟩) (by assumption) ?_
        rotate_left 1
        · intro W hSw
          try dsimp only at hSw
          obtain ⟨hs1, hs2⟩ := hSw
          go_simp
          try with_reducible rfl
        try simp only [Act.put, List.setIfInBounds_toArray, List.set_cons_zero, List.set_cons_succ]
        refine wpAnyH_take (i := 13) (oi := ⟨_, _, _, _, _, _⟩) (v := ?_) rfl (by kernel_rfl) (by kernel_rfl) (by kernel_rfl) (fun _ _ _ h => h) (Or.inl ⟨by rfl, ?_⟩) (by assumption) ?_
        rotate_left 1
        · intro W hSw
          try dsimp only at hSw
          obtain ⟨hs1, hs2⟩ := hSw
          go_simp
          try with_reducible rfl
        try simp only [Act.put, List.setIfInBounds_toArray, List.set_cons_zero, List.set_cons_succ]
        refine wpAnyH_take (i := 14) (oi := ⟨_, _, _, _, _, _⟩) (v := ?_) rfl (by kernel_rfl) (by kernel_rfl) (by kernel_rfl) (fun _ _ _ h => h) (Or.inl ⟨by rfl, ?_⟩) (by assumption) ?_
        rotate_left 1
        · intro W hSw
          try dsimp only at hSw
          obtain ⟨hs1, hs2⟩ := hSw
          go_simp
          try with_reducible rfl
        try simp only [Act.put, List.setIfInBounds_toArray, List.set_cons_zero, List.set_cons_succ]
        refine wpAnyH_take (i := 15) (oi := ⟨_, _, _, _, _, _⟩) (v := ?_) rfl (by kernel_rfl) (by kernel_rfl) (by kernel_rfl) (fun _ _ _ h => h) (Or.inl ⟨by rfl, ?_⟩) (by assumption) ?_
        rotate_left 1
        · intro W hSw
          try dsimp only at hSw
          obtain ⟨hs1, hs2⟩ := hSw
          go_simp
          try with_reducible rfl
        try simp only [Act.put, List.setIfInBounds_toArray, List.set_cons_zero, List.set_cons_succ]
        refine wpAnyH_take (i := 16) (oi := ⟨_, _, _, _, _, _⟩) (v := ?_) rfl (by kernel_rfl) (by kernel_rfl) (by kernel_rfl) (fun _ _ _ h => h) (Or.inl ⟨by rfl, ?_⟩) (by assumption) ?_
        rotate_left 1
        · intro W hSw
          try dsimp only at hSw
          obtain ⟨hs1, hs2⟩ := hSw
          go_simp
          try with_reducible rfl
        try simp only [Act.put, List.setIfInBounds_toArray, List.set_cons_zero, List.set_cons_succ]
        refine wpAnyH_take (i := 17) (oi := ⟨_, _, _, _, _, _⟩) (v := .agg (hC x).toArray) rfl (by kernel_rfl) (by kernel_rfl) (by kernel_rfl) (fun _ _ _ h => h) (yieldsIf_load_mid (by rfl) 23 (.tmp 69) rfl b1 (f1 + k * 33) rfl (hC x) _ (fun W h => h.1) Tryd.underlying23 rfl (hszL x)) (by assumption) ?_
        try simp only [Act.put, List.setIfInBounds_toArray, List.set_cons_zero, List.set_cons_succ]
        refine wpAnyH_take (i := 18) (oi := ⟨_, _, _, _, _, _⟩) (v := ?_) rfl (by kernel_rfl) (by kernel_rfl) (by kernel_rfl) (fun _ _ _ h => h) (Or.inl ⟨by rfl, ?_⟩) (by assumption) ?_
        rotate_left 1
        · intro W hSw
          try dsimp only at hSw
          obtain ⟨hs1, hs2⟩ := hSw
          go_simp
          try with_reducible rfl
        try simp only [Act.put, List.setIfInBounds_toArray, List.set_cons_zero, List.set_cons_succ]
        refine wpAnyH_take (i := 19) (oi := ⟨_, _, _, _, _, _⟩) (v := ?_) rfl (by kernel_rfl) (by kernel_rfl) (by kernel_rfl) (fun _ _ _ h => h) (Or.inl ⟨by rfl, ?_⟩) (by assumption) ?_
        rotate_left 1
        · intro W hSw
          try dsimp only at hSw
          obtain ⟨hs1, hs2⟩ := hSw
          go_simp
          try with_reducible rfl
        try simp only [Act.put, List.setIfInBounds_toArray, List.set_cons_zero, List.set_cons_succ]
        refine wpAnyH_take (i := 20) (oi := ⟨_, _, _, _, _, _⟩) (v := ?_) rfl (by kernel_rfl) (by kernel_rfl) (by kernel_rfl) (fun _ _ _ h => h) (Or.inl ⟨by rfl, ?_⟩) (by assumption) ?_
        rotate_left 1
        · intro W hSw
          try dsimp only at hSw
          obtain ⟨hs1, hs2⟩ := hSw
          go_simp
          try with_reducible rfl
        try simp only [Act.put, List.setIfInBounds_toArray, List.set_cons_zero, List.set_cons_succ]
        refine wpAnyH_take (i := 21) (oi := ⟨_, _, _, _, _, _⟩) (v := ?_) rfl (by kernel_rfl) (by kernel_rfl) (by kernel_rfl) (fun _ _ _ h => h) (Or.inl ⟨by rfl, ?_⟩) (by assumption) ?_
        rotate_left 1
        · intro W hSw
          try dsimp only at hSw
          obtain ⟨hs1, hs2⟩ := hSw
          go_simp
          try with_reducible rfl
        try simp only [Act.put, List.setIfInBounds_toArray, List.set_cons_zero, List.set_cons_succ]
        refine wpAnyH_take (i := 22) (oi := ⟨_, _, _, _, _, _⟩) (v := ?_) rfl (by kernel_rfl) (by kernel_rfl) (by kernel_rfl) (fun _ _ _ h => h) (Or.inl ⟨by rfl, ?_⟩) (by assumption) ?_
        rotate_left 1
        · intro W hSw
          try dsimp only at hSw
          obtain ⟨hs1, hs2⟩ := hSw
          go_simp
          try with_reducible rfl
        try simp only [Act.put, List.setIfInBounds_toArray, List.set_cons_zero, List.set_cons_succ]
        refine wpAnyH_ready (rs := [11]) (by kernel_rfl) (by simp) ?_
        refine AllReadyH.cons rfl (fun K hK => ?_) AllReadyH.nil
        go_simp
        go_at_call 23
        refine (add_any _ b0 m G HT.out.t1.g HT.out.t1.i x xA xc xs HSx.out (by have := HXl.out; omega) (by have := HLen.out; omega)).mono ?_
        unfold AddPost
        rw [HZ.out]
        rintro e w5 ⟨rfl, m2, ha, hi⟩
        have HAd := Lib.hid ha
        have HI2 := Lib.hid hi
        have VW5 : Hid (Below w.heap.size wr.drew w5) := ha.k.below HV.out.size (fun j hj hf => by have := (HT.out.t1.g.lt hf).1; have := HB0.out; omega)
        have s5 := rngK HR1.out VW5.out HBk.out
        have t5 := (VW5.out.cell (p := ⟨b1, f1 + k * 33 + 32, none⟩) HBk.out).trans HR2.out
        have S5 := Lib.hid s5
        have T5 := Lib.hid t5
        have SX5 : Hid (SeesV w5 w5.heap.size xA (hsC xs)) := (HSw.out.below (HV.out.trans VW5.out)).more (HV.out.trans VW5.out).size
        have HMid : Hid (RGOk w5 b0 r) := HT.out.t1.mid ha
        clear ha hi s5 t5
        refine hK.out _ _ ⟨S5.out, T5.out⟩ (fun hSn => ?_)
        clear hK K
        try simp only [Act.put, List.setIfInBounds_toArray, List.set_cons_zero, List.set_cons_succ]
        refine wpAnyH_ready (rs := [23]) (by kernel_rfl) (by simp) ?_
        refine AllReadyH.cons rfl (fun K hK => ?_) AllReadyH.nil
        go_simp
        go_at_call 24
        refine (radd_any w5 b0 r HMid.out x xA xs xc SX5.out (by have := HRl.out; omega) (by have := HXl.out; omega)).mono ?_
        unfold RAddPost
        rw [HRz.out]
        rintro e w6 ⟨rfl, h0, h1⟩
        obtain ⟨r2, ht2, hq2, hk2⟩ := HT.out.step x xs HAd.out HI2.out (fun e => h0 (HRz.out.symm.trans e)) (fun e => h1 (fun e' => e (HRz.out.trans e')))
        have HT2 := Lib.hid ht2
        have HQ2 := Lib.hid hq2
        have VW6 : Hid (Below w.heap.size wr.drew w6) := VW5.out.trans (hk2.below (Nat.le_trans HV.out.size VW5.out.size) (fun j hj e => by have := HMid.out.qb; have := HB0.out; omega))
        have s6 := rngK HR1.out VW6.out HBk.out
        have t6 := (VW6.out.cell (p := ⟨b1, f1 + k * 33 + 32, none⟩) HBk.out).trans HR2.out
        have S6 := Lib.hid s6
        have T6 := Lib.hid t6
        clear h0 h1 ht2 hq2 hk2 s6 t6
        refine hK.out _ _ ⟨S6.out, T6.out⟩ (fun hSn => ?_)
        clear hK K
        try simp only [Act.put, List.setIfInBounds_toArray, List.set_cons_zero, List.set_cons_succ]
        refine wpAnyH_take (i := 24) (oi := ⟨_, _, _, _, _, _⟩) (v := ?_) rfl (by kernel_rfl) (by kernel_rfl) (by kernel_rfl) (fun _ _ _ h => h) (Or.inl ⟨by rfl, ?_⟩) (by assumption) ?_
        rotate_left 1
        · intro W hSw
          try dsimp only at hSw
          obtain ⟨hs1, hs2⟩ := hSw
          go_simp
          try with_reducible rfl
        try simp only [Act.put, List.setIfInBounds_toArray, List.set_cons_zero, List.set_cons_succ]
        refine wpAnyH_done (by kernel_rfl) ?_ _
        have V6 : Hid (Below w.heap.size w w6) := HV.out.trans VW6.out
        go_wp2
        go_roundw
        case rel => exact ⟨k + 1, m2, r2, by omega, by go_num, HAd.out.q, HQ2.out, by rw [HN2.out]; exact HT2, V6⟩
        case measure => simp [intOf] <;> omega
      · obtain rfl : k = a.length := by omega
        rw [List.take_length] at HT0
        have HTa := Lib.hid HT0.out.swap
        obtain ⟨ma, hma⟩ : ∃ x, m = x := ⟨_, rfl⟩
        obtain ⟨ra, hra⟩ : ∃ x, r = x := ⟨_, rfl⟩
        rw [hma] at HTa hp1
        rw [hra] at HTa hp2
        clear hma hra HT0
        obtain ⟨p5, hp5⟩ : ∃ p, mc.q = p := ⟨_, rfl⟩
        obtain ⟨p6, hp6⟩ : ∃ p, rc.q = p := ⟨_, rfl⟩
        obtain ⟨wm, hwm⟩ : ∃ x, wr = x := ⟨_, rfl⟩
        rw [hwm] at HTa HV0 ⊢
        have HT0 := HTa
        clear HTa hwm
        rw [hp5, hp6]
        go_wp2_with fail
        go_loopw [15] (fun iv wr => ∃ (k : Nat) (m : GrM) (r : RGm), k ≤ b.length ∧ iv = .int .i64 k ∧ m.q = p5 ∧ r.q = p6 ∧ Hid (Four wr b0 m (runF G0 (b.take k)) r ma (runF G0 a) ra) ∧ Hid (Below w.heap.size w wr)) (fun iv _ => b.length - (intOf iv).toNat)
        case atStart => exact ⟨0, _, _, Nat.zero_le _, rfl, hp5, hp6, HT0, HV0⟩
        case round =>
          clear HT0 HV0 hp5 hp6
          obtain ⟨k, m, r, hk, rfl, hp5, hp6, HT0, HV0⟩ := hrel
          by_cases hlt : k < b.length
          · subst hp5
            subst hp6
            obtain ⟨b1, f1, hA1, hb1, hr1⟩ := sees_node HSb.out hlt
            have HT : Hid (Four wr.drew b0 m (runF G0 (b.take k)) r ma (runF G0 a) ra) := HT0.out.later (nxDrT (nxRefl _))
            have HV : Hid (Below w.heap.size w wr.drew) := nxDrT HV0.out
            have hn2 : runF G0 (b.take (k + 1)) = addG (runF G0 (b.take k)) b[k].id b[k].ps := by rw [List.take_succ_eq_append_getElem hlt, runF_snoc]
            have hgl : (runF G0 (b.take k)).length ≤ 1001 := by
              have h1 := runF_len (b.take k) G0
              rw [List.length_take] at h1
              have h2 := HLb.out
              have h3 := HG0.out
              omega
            have r1 := node_id (rngK (hr1 k hlt) HV.out hb1)
            have r2 := node_ps (rngK (hr1 k hlt) HV.out hb1)
            have sx := HEb.out _ (List.getElem_mem hlt)
            have px := HPb.out _ (List.getElem_mem hlt)
            obtain ⟨y, hy⟩ : ∃ y, b[k] = y := ⟨_, rfl⟩
            rw [hy] at r1 r2 sx px hn2
            rw [hA1]
            clear hr1 hy hA1
            obtain ⟨x, xs, xA, xc⟩ := y
            dsimp only at r1 r2 sx px hn2
            have HRl : Hid (r.l.length ≤ 1001) := by show _ ≤ _; rw [HT0.out.t1.rel.len]; exact hgl
            have HLen : Hid (m.L.length ≤ 1001) := by show _ ≤ _; rw [HT0.out.t1.i.len]; exact hgl
            generalize runF G0 (b.take k) = G at *
            have hz := HT.out.t1.rel.addE x xs
            obtain ⟨z, hzz⟩ : ∃ z, addE G x xs = z := ⟨_, rfl⟩
            rw [hzz] at hz
            have HZ := Lib.hid hzz
            have HRz := Lib.hid hz
            have HN2 := Lib.hid hn2
            have HR1 := Lib.hid r1
            have HR2 := Lib.hid r2
            have HSw := Lib.hid sx
            have HSx : Hid (SeesV wr.drew wr.drew.heap.size xA (hsC xs)) := (sx.below HV.out).more HV.out.size
            have HXl := Lib.hid px
            have HBk : Hid (b1 < w.heap.size) := hb1
            have hin : (k : Int) < (b.length : Int) := by omega
            have hl9 := HLb.out
            clear r1 r2 sx px hn2 hz hzz hb1 hgl
            go_wp2
            refine wp_region_held_drew (S := fun W => W.rangeAt b1 (f1 + k * 33) (hC x) ∧ W.cell? ⟨b1, f1 + k * 33 + 32, none⟩ = some (.slice xA xs.length xc)) (by kernel_rfl) ⟨HR1.out, HR2.out⟩ (fun hHeld => ?_)
            refine wpAnyH_take (i := 0) (oi := ⟨_, _, _, _, _, _⟩) (v := ?_) rfl (by kernel_rfl) (by kernel_rfl) (by kernel_rfl) (fun _ _ _ h => h) (Or.inl ⟨by rfl, ?_⟩) (by assumption) ?_
            rotate_left 1
            · intro W hSw
              try dsimp only at hSw
              obtain ⟨hs1, hs2⟩ := hSw
              go_simp
              try with_reducible rfl
            try simp only [Act.put, List.setIfInBounds_toArray, List.set_cons_zero, List.set_cons_succ]
            refine wpAnyH_take (i := 1) (oi := ⟨_, _, _, _, _, _⟩) (v := ?_) rfl (by kernel_rfl) (by kernel_rfl) (by kernel_rfl) (fun _ _ _ h => h) (Or.inl ⟨by rfl, ?_⟩) (by assumption) ?_
            rotate_left 1
            · intro W hSw
              try dsimp only at hSw
              obtain ⟨hs1, hs2⟩ := hSw
              go_simp
              try with_reducible rfl
            try simp only [Act.put, List.setIfInBounds_toArray, List.set_cons_zero, List.set_cons_succ]
            refine wpAnyH_take (i := 2) (oi := ⟨_, _, _, _, _, _⟩) (v := ?_) rfl (by kernel_rfl) (by kernel_rfl) (by kernel_rfl) (fun _ _ _ h => h) (Or.inl ⟨by rfl, ?_⟩) (by assumption) ?_
            rotate_left 1
            · intro W hSw
              try dsimp only at hSw
              obtain ⟨hs1, hs2⟩ := hSw
              go_simp
              try with_reducible rfl
            try simp only [Act.put, List.setIfInBounds_toArray, List.set_cons_zero, List.set_cons_succ]
            refine wpAnyH_take (i := 3) (oi := ⟨_, _, _, _, _, _⟩) (v := ?_) rfl (by kernel_rfl) (by kernel_rfl) (by kernel_rfl) (fun _ _ _ h => h) (Or.inl ⟨by rfl, ?_⟩) (by assumption) ?_
            rotate_left 1
            · intro W hSw
              try dsimp only at hSw
              obtain ⟨hs1, hs2⟩ := hSw
              go_simp
              try with_reducible rfl
            try simp only [Act.put, List.setIfInBounds_toArray, List.set_cons_zero, List.set_cons_succ]
            refine wpAnyH_take (i := 4) (oi := ⟨_, _, _, _, _, _⟩) (v := ?_) rfl (by kernel_rfl) (by kernel_rfl) (by kernel_rfl) (fun _ _ _ h => h) (Or.inl ⟨by rfl, ?_⟩) (by assumption) ?_
            rotate_left 1
            · intro W hSw
              try dsimp only at hSw
              obtain ⟨hs1, hs2⟩ := hSw
              go_simp
              try with_reducible rfl
            try simp only [Act.put, List.setIfInBounds_toArray, List.set_cons_zero, List.set_cons_succ]
            refine wpAnyH_take (i := 5) (oi := ⟨_, _, _, _, _, _⟩) (v := .agg (hC x).toArray) rfl (by kernel_rfl) (by kernel_rfl) (by kernel_rfl) (fun _ _ _ h => h) (yieldsIf_load_mid (by rfl) 23 (.tmp 88) rfl b1 (f1 + k * 33) rfl (hC x) _ (fun W h => h.1) Tryd.underlying23 rfl (hszL x)) (by assumption) ?_
            try simp only [Act.put, List.setIfInBounds_toArray, List.set_cons_zero, List.set_cons_succ]
            refine wpAnyH_take (i := 6) (oi := ⟨_, _, _, _, _, _⟩) (v := ?_) rfl (by kernel_rfl) (by kernel_rfl) (by kernel_rfl) (fun _ _ _ h => h) (Or.inl ⟨by rfl, ?_⟩) (by assumption) ?_
            rotate_left 1
            · intro W hSw
              try dsimp only at hSw
              obtain ⟨hs1, hs2⟩ := hSw
              go_simp
              try with_reducible rfl
            try simp only [Act.put, List.setIfInBounds_toArray, List.set_cons_zero, List.set_cons_succ]
            refine wpAnyH_take (i := 7) (oi := ⟨_, _, _, _, _, _⟩) (v := ?_) rfl (by kernel_rfl) (by kernel_rfl) (by kernel_rfl) (fun _ _ _ h => h) (Or.inl ⟨by rfl, ?_⟩) (by assumption) ?_
            rotate_left 1
            · intro W hSw
              try dsimp only at hSw
              obtain ⟨hs1, hs2⟩ := hSw
              go_simp
              try with_reducible rfl
            try simp only [Act.put, List.setIfInBounds_toArray, List.set_cons_zero, List.set_cons_succ]
            refine wpAnyH_take (i := 8) (oi := ⟨_, _, _, _, _, _⟩) (v := ?_) rfl (by kernel_rfl) (by kernel_rfl) (by kernel_rfl) (fun _ _ _ h => h) (Or.inl ⟨by rfl, ?_⟩) (by assumption) ?_
            rotate_left 1
            · intro W hSw
              try dsimp only at hSw
              obtain ⟨hs1, hs2⟩ := hSw
              go_simp
              try with_reducible rfl
            try simp only [Act.put, List.setIfInBounds_toArray, List.set_cons_zero, List.set_cons_succ]
            refine wpAnyH_take (i := 9) (oi := ⟨_, _, _, _, _, _⟩) (v := ?_) rfl (by kernel_rfl) (by kernel_rfl) (by kernel_rfl) (fun _ _ _ h => h) (Or.inl ⟨by rfl, ?_⟩) (by assumption) ?_
            rotate_left 1
            · intro W hSw
              try dsimp only at hSw
              obtain ⟨hs1, hs2⟩ := hSw
              go_simp
              try with_reducible rfl
            try simp only [Act.put, List.setIfInBounds_toArray, List.set_cons_zero, List.set_cons_succ]
            refine wpAnyH_take (i := 10) (oi := ⟨_, _, _, _, _, _⟩) (v := ?_) rfl (by kernel_rfl) (by kernel_rfl) (by kernel_rfl) (fun _ _ _ h => h) (Or.inl ⟨by rfl, ?_⟩) (by assumption) ?_
            rotate_left 1
            · intro W hSw
              try dsimp only at hSw
              obtain ⟨hs1, hs2⟩ := hSw
              go_simp
              try with_reducible rfl
            try simp only [Act.put, List.setIfInBounds_toArray, List.set_cons_zero, List.set_cons_succ]
            refine wpAnyH_take (i := 12) (oi := ⟨_, _, _, _, _, _⟩) (v := ?_) rfl (by kernel_rfl) (by kernel_rfl) (by kernel_rfl) (fun _ _ _ h => h) (Or.inl ⟨by rfl, ?_⟩) (by assumption) ?_
            rotate_left 1
            · intro W hSw
              try dsimp only at hSw
              obtain ⟨hs1, hs2⟩ := hSw
              go_simp
              try with_reducible rfl
            try simp only [Act.put, List.setIfInBounds_toArray, List.set_cons_zero, List.set_cons_succ]
            refine wpAnyH_take (i := 13) (oi := ⟨_, _, _, _, _, _⟩) (v := ?_) rfl (by kernel_rfl) (by kernel_rfl) (by kernel_rfl) (fun _ _ _ h => h) (Or.inl ⟨by rfl, ?_⟩) (by assumption) ?_
            rotate_left 1
            · intro W hSw
              try dsimp only at hSw
              obtain ⟨hs1, hs2⟩ := hSw
              go_simp
              try with_reducible rfl
            try simp only [Act.put, List.setIfInBounds_toArray, List.set_cons_zero, List.set_cons_succ]
            refine wpAnyH_take (i := 14) (oi := ⟨_, _, _, _, _, _⟩) (v := ?_) rfl (by kernel_rfl) (by kernel_rfl) (by kernel_rfl) (fun _ _ _ h => h) (Or.inl ⟨by rfl, ?_⟩) (by assumption) ?_
            rotate_left 1
            · intro W hSw
              try dsimp only at hSw
              obtain ⟨hs1, hs2⟩ := hSw
              go_simp
              try with_reducible rfl
            try simp only [Act.put, List.setIfInBounds_toArray, List.set_cons_zero, List.set_cons_succ]
            refine wpAnyH_take (i := 15) (oi := ⟨_, _, _, _, _, _⟩) (v := ?_) rfl (by kernel_rfl) (by kernel_rfl) (by kernel_rfl) (fun _ _ _ h => h) (Or.inl ⟨by rfl, ?_⟩) (by assumption) ?_
            rotate_left 1
            · intro W hSw
              try dsimp only at hSw
              obtain ⟨hs1, hs2⟩ := hSw
              go_simp
              try with_reducible rfl
            try simp only [Act.put, List.setIfInBounds_toArray, List.set_cons_zero, List.set_cons_succ]
            refine wpAnyH_take (i := 16) (oi := ⟨_, _, _, _, _, _⟩) (v := ?_) rfl (by kernel_rfl) (by kernel_rfl) (by kernel_rfl) (fun _ _ _ h => h) (Or.inl ⟨by rfl, ?_⟩) (by assumption) ?_
            rotate_left 1
            · intro W hSw
              try dsimp only at hSw
              obtain ⟨hs1, hs2⟩ := hSw
              go_simp
              try with_reducible rfl
            try simp only [Act.put, List.setIfInBounds_toArray, List.set_cons_zero, List.set_cons_succ]
            refine wpAnyH_take (i := 17) (oi := ⟨_, _, _, _, _, _⟩) (v := .agg (hC x).toArray) rfl (by kernel_rfl) (by kernel_rfl) (by kernel_rfl) (fun _ _ _ h => h) (yieldsIf_load_mid (by rfl) 23 (.tmp 100) rfl b1 (f1 + k * 33) rfl (hC x) _ (fun W h => h.1) Tryd.underlying23 rfl (hszL x)) (by assumption) ?_
            try simp only [Act.put, List.setIfInBounds_toArray, List.set_cons_zero, List.set_cons_succ]
            refine wpAnyH_take (i := 18) (oi := ⟨_, _, _, _, _, _⟩) (v := ?_) rfl (by kernel_rfl) (by kernel_rfl) (by kernel_rfl) (fun _ _ _ h => h) (Or.inl ⟨by rfl, ?_⟩) (by assumption) ?_
            rotate_left 1
            · intro W hSw
              try dsimp only at hSw
              obtain ⟨hs1, hs2⟩ := hSw
              go_simp
              try with_reducible rfl
            try simp only [Act.put, List.setIfInBounds_toArray, List.set_cons_zero, List.set_cons_succ]
            refine wpAnyH_take (i := 19) (oi := ⟨_, _, _, _, _, _⟩) (v := ?_) rfl (by kernel_rfl) (by kernel_rfl) (by kernel_rfl) (fun _ _ _ h => h) (Or.inl ⟨by rfl, ?_⟩) (by assumption) ?_
            rotate_left 1
            · intro W hSw
              try dsimp only at hSw
              obtain ⟨hs1, hs2⟩ := hSw
              go_simp
              try with_reducible rfl
            try simp only [Act.put, List.setIfInBounds_toArray, List.set_cons_zero, List.set_cons_succ]
            refine wpAnyH_take (i := 20) (oi := ⟨_, _, _, _, _, _⟩) (v := ?_) rfl (by kernel_rfl) (by kernel_rfl) (by kernel_rfl) (fun _ _ _ h => h) (Or.inl ⟨by rfl, ?_⟩) (by assumption) ?_
            rotate_left 1
            · intro W hSw
              try dsimp only at hSw
              obtain ⟨hs1, hs2⟩ := hSw
              go_simp
              try with_reducible rfl
            try simp only [Act.put, List.setIfInBounds_toArray, List.set_cons_zero, List.set_cons_succ]
            refine wpAnyH_take (i := 21) (oi := ⟨_, _, _, _, _, _⟩) (v := ?_) rfl (by kernel_rfl) (by kernel_rfl) (by kernel_rfl) (fun _ _ _ h => h) (Or.inl ⟨by rfl, ?_⟩) (by assumption) ?_
            rotate_left 1
            · intro W hSw
              try dsimp only at hSw
              obtain ⟨hs1, hs2⟩ := hSw
              go_simp
              try with_reducible rfl
            try simp only [Act.put, List.setIfInBounds_toArray, List.set_cons_zero, List.set_cons_succ]
            refine wpAnyH_take (i := 22) (oi := ⟨_, _, _, _, _, _⟩) (v := ?_) rfl (by kernel_rfl) (by kernel_rfl) (by kernel_rfl) (fun _ _ _ h => h) (Or.inl ⟨by rfl, ?_⟩) (by assumption) ?_
            rotate_left 1
            · intro W hSw
              try dsimp only at hSw
              obtain ⟨hs1, hs2⟩ := hSw
              go_simp
              try with_reducible rfl
            try simp only [Act.put, List.setIfInBounds_toArray, List.set_cons_zero, List.set_cons_succ]
            refine wpAnyH_ready (rs := [11]) (by kernel_rfl) (by simp) ?_
            refine AllReadyH.cons rfl (fun K hK => ?_) AllReadyH.nil
            go_simp
            go_at_call 23
            refine (add_any _ b0 m G HT.out.t1.g HT.out.t1.i x xA xc xs HSx.out (by have := HXl.out; omega) (by have := HLen.out; omega)).mono ?_
            unfold AddPost
            rw [HZ.out]
            rintro e w5 ⟨rfl, m2, ha, hi⟩
            have HAd := Lib.hid ha
            have HI2 := Lib.hid hi
            have VW5 : Hid (Below w.heap.size wr.drew w5) := ha.k.below HV.out.size (fun j hj hf => by have := (HT.out.t1.g.lt hf).1; have := HB0.out; omega)
            have s5 := rngK HR1.out VW5.out HBk.out
            have t5 := (VW5.out.cell (p := ⟨b1, f1 + k * 33 + 32, none⟩) HBk.out).trans HR2.out
            have S5 := Lib.hid s5
            have T5 := Lib.hid t5
            have SX5 : Hid (SeesV w5 w5.heap.size xA (hsC xs)) := (HSw.out.below (HV.out.trans VW5.out)).more (HV.out.trans VW5.out).size
            have HMid : Hid (RGOk w5 b0 r) := HT.out.t1.mid ha
            clear ha hi s5 t5
            refine hK.out _ _ ⟨S5.out, T5.out⟩ (fun hSn => ?_)
            clear hK K
            try simp only [Act.put, List.setIfInBounds_toArray, List.set_cons_zero, List.set_cons_succ]
            refine wpAnyH_ready (rs := [23]) (by kernel_rfl) (by simp) ?_
            refine AllReadyH.cons rfl (fun K hK => ?_) AllReadyH.nil
            go_simp
            go_at_call 24
            refine (radd_any w5 b0 r HMid.out x xA xs xc SX5.out (by have := HRl.out; omega) (by have := HXl.out; omega)).mono ?_
            unfold RAddPost
            rw [HRz.out]
            rintro e w6 ⟨rfl, h0, h1⟩
            obtain ⟨r2, ht2, hq2, hk2⟩ := HT.out.step x xs HAd.out HI2.out (fun e => h0 (HRz.out.symm.trans e)) (fun e => h1 (fun e' => e (HRz.out.trans e')))
            have HT2 := Lib.hid ht2
            have HQ2 := Lib.hid hq2
            have VW6 : Hid (Below w.heap.size wr.drew w6) := VW5.out.trans (hk2.below (Nat.le_trans HV.out.size VW5.out.size) (fun j hj e => by have := HMid.out.qb; have := HB0.out; omega))
            have s6 := rngK HR1.out VW6.out HBk.out
            have t6 := (VW6.out.cell (p := ⟨b1, f1 + k * 33 + 32, none⟩) HBk.out).trans HR2.out
            have S6 := Lib.hid s6
            have T6 := Lib.hid t6
            clear h0 h1 ht2 hq2 hk2 s6 t6
            refine hK.out _ _ ⟨S6.out, T6.out⟩ (fun hSn => ?_)
            clear hK K
            try simp only [Act.put, List.setIfInBounds_toArray, List.set_cons_zero, List.set_cons_succ]
            refine wpAnyH_take (i := 24) (oi := ⟨_, _, _, _, _, _⟩) (v := ?_) rfl (by kernel_rfl) (by kernel_rfl) (by kernel_rfl) (fun _ _ _ h => h) (Or.inl ⟨by rfl, ?_⟩) (by assumption) ?_
            rotate_left 1
            · intro W hSw
              try dsimp only at hSw
              obtain ⟨hs1, hs2⟩ := hSw
              go_simp
              try with_reducible rfl
            try simp only [Act.put, List.setIfInBounds_toArray, List.set_cons_zero, List.set_cons_succ]
            refine wpAnyH_done (by kernel_rfl) ?_ _
            have V6 : Hid (Below w.heap.size w w6) := HV.out.trans VW6.out
            go_wp2
            go_roundw
            case rel => exact ⟨k + 1, m2, r2, by omega, by go_num, HAd.out.q, HQ2.out, by rw [HN2.out]; exact HT2, V6⟩
            case measure => simp [intOf] <;> omega
          · obtain rfl : k = b.length := by omega
            rw [List.take_length] at HT0
            go_wp2_with fail
            have HTe := Lib.hid HT0.out.swap
            have HGe : Hid ((runF G0 b).length ≤ 1000) := by show _ ≤ _; have h1 := runF_len b G0; have h2 := HLb.out; have h3 := HG0.out; omega
            have HGf : Hid ((runF G0 a).length ≤ 1000) := by show _ ≤ _; have h1 := runF_len a G0; have h2 := HLa.out; have h3 := HG0.out; omega
            clear HT0
            subst hp5
            subst hp6
            subst hp1
            subst hp2
            go_wp2_with (first
              | (go_at_call 11; (with_reducible show Calls _ _ _ wr _); refine (same_any wr _ ma (runF G0 a) ra HTe.out.t1 HGf.out (tab_below HTab.out HV0.out H0w.out)).mono ?_; rintro e w8 ⟨rfl, hb8⟩; have J8 := Lib.hid hb8; have V8 : Hid (Below w.heap.size w w8) := HV0.out.trans (hb8.mono HV0.out.size); clear hb8)
              | (go_at_call 11; (with_reducible show Calls _ _ _ w8 _); refine (same_any w8 _ m (runF G0 b) r (HTe.out.t2.later J8.out) HGe.out (tab_below HTab.out V8.out H0w.out)).mono ?_; rintro e w9 ⟨rfl, hb9⟩; have V9 : Hid (Below w.heap.size w w9) := V8.out.trans (hb9.mono V8.out.size); clear hb9)
              | (go_at_call 9; refine (known_any _).mono ?_; rintro e w10 ⟨rfl, hb⟩; have V10 : Hid (Below w.heap.size w w10) := V9.out.trans (hb.mono V9.out.size); clear hb))
            go_ret
            exact ⟨rfl, V10.out⟩
end Go.Proofs.YtndkjmmmneianaaDoor
