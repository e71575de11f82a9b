/-
  dag: begin.
-/
import Derived.Test.YtndkjmmmneianaaDoorPGnQ2
namespace Go.Proofs.YtndkjmmmneianaaDoor
open Go.RowKit

theorem yieldsIf_build1 {P : Program} {ops : Array Oper} {S : World → Prop} {o : Oper} {a : Act} (hw : Region.wanted o (yielded ops a.tmps) = true) (t : TypeId) (x : Operand) (ho : o.op = .build t #[(0, x)])
    (vx v : Value) (hx : a.eval x = vx) (hr : ∀ wq, (Instr.build t #[(0, vx)]).run P wq = .ok v wq) : YieldsIf P ops S o v a :=
  .inl ⟨hw, fun w _ => by
    unfold execOp
    have e : (#[(0, x)].map fun (p : Nat × Operand) => (p.1, a.eval p.2)) = #[(0, vx)] := by simp [hx]
    simp only [ho, e, Sem.run_bind, hr, Result.andThen_ok, Sem.run_pure]⟩
theorem GrOk.lower {w : World} {base base' : Nat} {m : GrM} (h : GrOk w base m) (hb : base' ≤ base) : GrOk w base' m :=
  { h with qb := Nat.le_trans hb h.qb, mbb := Nat.le_trans hb h.mbb, ids := own_base h.ids hb, nds := own_base h.nds hb, kid := fun x hx => own_base (h.kid x hx) hb }
theorem two_new {w : World} {base : Nat} {m : GrM} {root : Hh} {b q : Nat} (hg : GrOk w base m) (hi : GrIs m (newG root)) (hS : Blk w b 39 (rnC ⟨root, [], none, 0⟩).toArray) (hQ : Blk w q 37 #[.slice (some ⟨b, 0, none⟩) 1 1])
    (hqb : base ≤ q) (hne : b ≠ q) (e1 : ¬ foot m b) (e2 : ¬ foot m q) : Two w base m (newG root) ⟨q, some ⟨b, 0, none⟩, 1, [⟨root, [], none, 0⟩]⟩ := by
  refine ⟨hg, hi, ⟨hQ, ?_, ?_, hqb, ?_, ?_, (by show (1 : Nat) ≤ 1000000; omega), ?_⟩, RelG.new root none 0, ?_, ?_, ?_⟩
  · have := SeesV.blk hS
    simpa [rnsC] using this
  · intro x hx
    rw [List.mem_singleton] at hx
    subst hx
    exact .inl rfl
  · intro a ha
    injection ha with ha
    subst ha
    exact hne
  · intro x hx a ha
    rw [List.mem_singleton] at hx
    subst hx
    cases ha
  · intro x hx
    rw [List.mem_singleton] at hx
    subst hx
    show (0 : Nat) ≤ 1000000
    omega
  · rintro (e | ⟨x, hx, e⟩)
    · exact e2 e
    · obtain ⟨n, hn, rfl⟩ := List.getElem_of_mem hx
      have hn1 : n < 1 := by rw [hi.len] at hn; simpa [newG] using hn
      have hn0 : n = 0 := by omega
      subst hn0
      rcases e with ⟨e, _⟩ | ⟨e, _⟩
      · exact e (by rw [hi.par 0 hn]; simp [parG, newG])
      · have := (hi.row 0 hn).1
        exact e (List.length_eq_zero_iff.1 (by omega))
  · intro a ha
    injection ha with ha
    subst ha
    exact ⟨hS.lt, e1⟩
  · intro x hx a ha
    rw [List.mem_singleton] at hx
    subst hx
    cases ha
/-- The graph of a row of steps. -/
def runG (root : Hh) (l : List RNd) : Gr := l.foldl (fun G x => addG G x.id x.ps) (newG root)
theorem runG_snoc (root : Hh) (l : List RNd) (x : RNd) : runG root (l ++ [x]) = addG (runG root l) x.id x.ps := by unfold runG; rw [List.foldl_append]; rfl
theorem runG_len (root : Hh) (l : List RNd) : (runG root l).length ≤ l.length + 1 := by
  have h : ∀ (l : List RNd) (G : Gr), (l.foldl (fun G x => addG G x.id x.ps) G).length ≤ G.length + l.length := fun l => by
    induction l with
    | nil => intro G; simp
    | cons x l ih =>
      intro G
      rw [List.foldl_cons, List.length_cons]
      have h1 := ih (addG G x.id x.ps)
      have h2 := addG_len G x.id x.ps
      omega
  have h1 := h l (newG root)
  unfold runG
  have h2 : (newG root).length = 1 := rfl
  omega
set_option maxRecDepth 100000 in
set_option maxHeartbeats 8000000 in
theorem begin_any (w : World) (root : Hh) (SA : Option Addr) (l : List RNd) (c : Nat) (hS : SeesV w w.heap.size SA (rnsC l)) (hE : ∀ x ∈ l, SeesV w w.heap.size x.A (hsC x.ps)) (hl : l.length ≤ 1000) (hp : ∀ x ∈ l, x.ps.length ≤ 8) :
    Calls Tryd.prog 10 #[.agg (hC root).toArray, .slice SA l.length c] w fun e w' => ∃ m r, e = .returned (.tuple #[.pointer (some ⟨m.q, 0, none⟩), .pointer (some ⟨r.q, 0, none⟩), .bool true]) ∧ Two w' w.heap.size m (runG root l) r ∧ Below w.heap.size w w' := by
  have V0 : Hid (Below w.heap.size w (w.alloc (.cells (hC root).toArray 23))) := nxAlloc (nxRefl _) _
  have B0 : Hid (Blk (w.alloc (.cells (hC root).toArray 23)) w.heap.size 23 (hC root).toArray) := heap_alloc_new w _
  have HS := Lib.hid hS
  have HE := Lib.hid hE
  have HL := Lib.hid hl
  have HP := Lib.hid hp
  clear hS hE hl hp
  go_enter Tryd.func10, Tryd.ntmps10
  go_wp2
  go_cut [7, 8] from 10 (fun a b wx => ∃ m r, a = .pointer (some ⟨m.q, 0, none⟩) ∧ b = .pointer (some ⟨r.q, 0, none⟩) ∧ Hid (Two wx w.heap.size m (newG root) r) ∧ Hid (Below w.heap.size w wx))
  case first =>
    have V1 : Hid (Below w.heap.size w (w.alloc (.cells (hC root).toArray 23)).drew) := nxDrT V0.out
    have RR : Hid ((w.alloc (.cells (hC root).toArray 23)).drew.rangeAt w.heap.size 0 (hC root)) := kb_range B0.out
    have HLw : Hid (w.heap.size < (w.alloc (.cells (hC root).toArray 23)).drew.heap.size) := B0.out.lt
    refine wp_region_K (fun W => W.rangeAt w.heap.size 0 (hC root)) 8 (by kernel_rfl) RR.out (fun hSn => ?_)
    generalize (w.alloc (.cells (hC root).toArray 23)).drew = wd at *
    have KD : Hid (Below wd.heap.size wd wd) := nxRefl wd
    refine wpAnyK_chain (i := 0) [8] (oi := ⟨_, _, _, _, _, _⟩) (v := .agg (hC root).toArray) rfl (by kernel_rfl) (by kernel_rfl) (by kernel_rfl) rfl (by kernel_rfl) (by kernel_rfl) (by kernel_rfl) (fun _ _ _ h => h) (yieldsIf_load_mid (by rfl) 23 (.tmp 2) rfl w.heap.size 0 rfl (hC root) _ (fun W h => h) Tryd.underlying23 rfl (hszL root)) hSn ?_
    replace hSn := (KT.set (i := 0) (by decide)).2 hSn
    try simp only [Act.put, List.setIfInBounds_toArray, List.set_cons_zero, List.set_cons_succ]
    refine wpAnyK_chain (i := 2) [8] (oi := ⟨_, _, _, _, _, _⟩) (v := .agg (hC root).toArray) rfl (by kernel_rfl) (by kernel_rfl) (by kernel_rfl) rfl (by kernel_rfl) (by kernel_rfl) (by kernel_rfl) (fun _ _ _ h => h) (yieldsIf_load_mid (by rfl) 23 (.tmp 2) rfl w.heap.size 0 rfl (hC root) _ (fun W h => h) Tryd.underlying23 rfl (hszL root)) hSn ?_
    replace hSn := (KT.set (i := 2) (by decide)).2 hSn
    try simp only [Act.put, List.setIfInBounds_toArray, List.set_cons_zero, List.set_cons_succ]
    refine wpAnyK_chain (i := 3) [8] (oi := ⟨_, _, _, _, _, _⟩) (v := .agg (rnC ⟨root, [], none, 0⟩).toArray) rfl (by kernel_rfl) (by kernel_rfl) (by kernel_rfl) rfl (by kernel_rfl) (by kernel_rfl) (by kernel_rfl) (fun _ _ _ h => h) (yieldsIf_build1 (by rfl) 39 (.tmp 12) rfl (.agg (hC root).toArray) _ rfl (part_node1 root)) hSn ?_
    replace hSn := (KT.set (i := 3) (by decide)).2 hSn
    try simp only [Act.put, List.setIfInBounds_toArray, List.set_cons_zero, List.set_cons_succ]
    clear hSn
    refine wpAnyK_ready (rs := [1, 4]) (by kernel_rfl) (by simp) ?_
    refine (AllReadyK.cons rfl (fun K hK => ?_) (AllReadyK.cons rfl (fun K hK => ?_) AllReadyK.nil))
    · skip
      go_simp
      go_at_call 31
      refine (new_any wd root).mono ?_
      rintro e wN ⟨m0, rfl, hgN, hiN, hbN⟩
      have J1 : Hid (Below wd.heap.size wd wN) := hbN
      have HGa1 : Hid (GrOk wN wd.heap.size m0) := hgN
      have HIs := Lib.hid hiN
      clear hbN hgN hiN
      have K1 : Hid (Below wd.heap.size wd wN) := J1.out
      refine hK.out _ _ (fun _ => (rngK RR.out K1.out HLw.out)) (fun hSn => ?_)
      clear hK K
      try simp only [Act.put, List.setIfInBounds_toArray, List.set_cons_zero, List.set_cons_succ]
      refine wpAnyK_pure (i := 7) (oi := ⟨_, _, _, _, _, _⟩) (v := ?_) rfl (by kernel_rfl) (by kernel_rfl) (by kernel_rfl) rfl (fun _ _ _ h => h) (Or.inl ⟨by rfl, ?_⟩) hSn ?_
      rotate_left 1
      · intro W hSw
        go_simp
        try with_reducible rfl
      replace hSn := (KT.set (i := 7) (by decide)).2 hSn
      try simp only [Act.put, List.setIfInBounds_toArray, List.set_cons_zero, List.set_cons_succ]
      clear hSn
      refine wpAnyK_ready (rs := [4]) (by kernel_rfl) (by simp) ?_
      refine (AllReadyK.cons rfl (fun K hK => ?_) AllReadyK.nil)
      refine step_build1 (o := ⟨some 14, _, _, _, _, _⟩) rfl 35 39 (.tmp 13) rfl (rnC ⟨root, [], none, 0⟩) _ 33 56 Tryd.underlying35 Tryd.dinfoRN (by decide) (by decide) (rnC_len _) rfl ?_
      have J14 : Hid (Below wN.heap.size wN (wN.alloc (.cells (rnC ⟨root, [], none, 0⟩).toArray 39))) := nxAlloc (nxRefl _) _
      have K14 : Hid (Below wd.heap.size wd (wN.alloc (.cells (rnC ⟨root, [], none, 0⟩).toArray 39))) := nxTo K1.out J14.out
      have S14 : Hid (Blk (wN.alloc (.cells (rnC ⟨root, [], none, 0⟩).toArray 39)) wN.heap.size 39 (rnC ⟨root, [], none, 0⟩).toArray) := heap_alloc_new _ _
      have HGa14 : Hid (GrOk (wN.alloc (.cells (rnC ⟨root, [], none, 0⟩).toArray 39)) wd.heap.size m0) := HGa1.out.later J14.out
      refine hK.out _ _ (fun _ => (rngK RR.out K14.out HLw.out)) (fun hSn => ?_)
      clear hK K
      try simp only [Act.put, List.setIfInBounds_toArray, List.set_cons_zero, List.set_cons_succ]
      refine wpAnyK_pure (i := 5) (oi := ⟨_, _, _, _, _, _⟩) (v := ?_) rfl (by kernel_rfl) (by kernel_rfl) (by kernel_rfl) rfl (fun _ _ _ h => h) (Or.inl ⟨by rfl, ?_⟩) hSn ?_
      rotate_left 1
      · intro W hSw
        go_simp
        try with_reducible rfl
      replace hSn := (KT.set (i := 5) (by decide)).2 hSn
      try simp only [Act.put, List.setIfInBounds_toArray, List.set_cons_zero, List.set_cons_succ]
      clear hSn
      refine wpAnyK_ready (rs := [6]) (by kernel_rfl) (by simp) ?_
      refine (AllReadyK.cons rfl (fun K hK => ?_) AllReadyK.nil)
      go_simp
      have J146 : Hid (Below (wN.alloc (.cells (rnC ⟨root, [], none, 0⟩).toArray 39)).heap.size (wN.alloc (.cells (rnC ⟨root, [], none, 0⟩).toArray 39)) ((wN.alloc (.cells (rnC ⟨root, [], none, 0⟩).toArray 39)).alloc (.cells #[.slice (some ⟨wN.heap.size, 0, none⟩) 1 1] 37))) := nxAlloc (nxRefl _) _
      have K146 : Hid (Below wd.heap.size wd ((wN.alloc (.cells (rnC ⟨root, [], none, 0⟩).toArray 39)).alloc (.cells #[.slice (some ⟨wN.heap.size, 0, none⟩) 1 1] 37))) := nxTo K14.out J146.out
      have S146 : Hid (Blk ((wN.alloc (.cells (rnC ⟨root, [], none, 0⟩).toArray 39)).alloc (.cells #[.slice (some ⟨wN.heap.size, 0, none⟩) 1 1] 37)) wN.heap.size 39 (rnC ⟨root, [], none, 0⟩).toArray) := S14.out.below J146.out S14.out.lt
      have Q146 : Hid (Blk ((wN.alloc (.cells (rnC ⟨root, [], none, 0⟩).toArray 39)).alloc (.cells #[.slice (some ⟨wN.heap.size, 0, none⟩) 1 1] 37)) (wN.alloc (.cells (rnC ⟨root, [], none, 0⟩).toArray 39)).heap.size 37 #[.slice (some ⟨wN.heap.size, 0, none⟩) 1 1]) := heap_alloc_new _ _
      have HGa146 : Hid (GrOk ((wN.alloc (.cells (rnC ⟨root, [], none, 0⟩).toArray 39)).alloc (.cells #[.slice (some ⟨wN.heap.size, 0, none⟩) 1 1] 37)) wd.heap.size m0) := HGa14.out.later J146.out
      refine hK.out _ _ (fun _ => (rngK RR.out K146.out HLw.out)) (fun hSn => ?_)
      clear hK K
      try simp only [Act.put, List.setIfInBounds_toArray, List.set_cons_zero, List.set_cons_succ]
      clear hSn
      refine wpAnyK_ready (rs := [8]) (by kernel_rfl) (by simp) ?_
      refine (AllReadyK.cons rfl (fun K hK => ?_) AllReadyK.nil)
      go_simp
      skip
      refine hK.out _ _ (fun h => absurd h (by decide +kernel)) (fun hSn => ?_)
      clear hK K
      try simp only [Act.put, List.setIfInBounds_toArray, List.set_cons_zero, List.set_cons_succ]
      refine wpAnyK_done (by kernel_rfl) ?_ _
      have e1 : ¬ foot m0 wN.heap.size := fun e => by have h1 := HGa1.out.lt e; have h2 := J1.out.size; (try simp only [World.size_alloc] at h1 h2 ⊢); omega
      have e2 : ¬ foot m0 (wN.alloc (.cells (rnC ⟨root, [], none, 0⟩).toArray 39)).heap.size := fun e => by have h1 := HGa1.out.lt e; have h2 := J1.out.size; (try simp only [World.size_alloc] at h1 h2 ⊢); omega
      go_wp2_with fail
      go_meet
      exact ⟨m0, ⟨(wN.alloc (.cells (rnC ⟨root, [], none, 0⟩).toArray 39)).heap.size, some ⟨wN.heap.size, 0, none⟩, 1, [⟨root, [], none, 0⟩]⟩, rfl, (by first | rfl | simp only [World.size_alloc]), two_new (HGa146.out.lower (Nat.le_trans V1.out.size (Nat.le_trans KD.out.size (Nat.le_refl _)))) HIs.out S146.out Q146.out (Nat.le_trans V1.out.size K14.out.size) (by first | (simp only [World.size_alloc]; omega) | (have h2 := J1.out.size; simp only [World.size_alloc] at h2 ⊢; omega)) e1 e2, V1.out.trans (K146.out.mono V1.out.size)⟩
    · skip
      refine step_build1 (o := ⟨some 14, _, _, _, _, _⟩) rfl 35 39 (.tmp 13) rfl (rnC ⟨root, [], none, 0⟩) _ 33 56 Tryd.underlying35 Tryd.dinfoRN (by decide) (by decide) (rnC_len _) rfl ?_
      have J4 : Hid (Below wd.heap.size wd (wd.alloc (.cells (rnC ⟨root, [], none, 0⟩).toArray 39))) := nxAlloc (nxRefl _) _
      have K4 : Hid (Below wd.heap.size wd (wd.alloc (.cells (rnC ⟨root, [], none, 0⟩).toArray 39))) := J4.out
      have S4 : Hid (Blk (wd.alloc (.cells (rnC ⟨root, [], none, 0⟩).toArray 39)) wd.heap.size 39 (rnC ⟨root, [], none, 0⟩).toArray) := heap_alloc_new _ _
      refine hK.out _ _ (fun _ => (rngK RR.out K4.out HLw.out)) (fun hSn => ?_)
      clear hK K
      try simp only [Act.put, List.setIfInBounds_toArray, List.set_cons_zero, List.set_cons_succ]
      refine wpAnyK_pure (i := 5) (oi := ⟨_, _, _, _, _, _⟩) (v := ?_) rfl (by kernel_rfl) (by kernel_rfl) (by kernel_rfl) rfl (fun _ _ _ h => h) (Or.inl ⟨by rfl, ?_⟩) hSn ?_
      rotate_left 1
      · intro W hSw
        go_simp
        try with_reducible rfl
      replace hSn := (KT.set (i := 5) (by decide)).2 hSn
      try simp only [Act.put, List.setIfInBounds_toArray, List.set_cons_zero, List.set_cons_succ]
      clear hSn
      refine wpAnyK_ready (rs := [1, 6]) (by kernel_rfl) (by simp) ?_
      refine (AllReadyK.cons rfl (fun K hK => ?_) (AllReadyK.cons rfl (fun K hK => ?_) AllReadyK.nil))
      · skip
        go_simp
        go_at_call 31
        refine (new_any (wd.alloc (.cells (rnC ⟨root, [], none, 0⟩).toArray 39)) root).mono ?_
        rintro e wN ⟨m0, rfl, hgN, hiN, hbN⟩
        have J41 : Hid (Below (wd.alloc (.cells (rnC ⟨root, [], none, 0⟩).toArray 39)).heap.size (wd.alloc (.cells (rnC ⟨root, [], none, 0⟩).toArray 39)) wN) := hbN
        have HGa41 : Hid (GrOk wN (wd.alloc (.cells (rnC ⟨root, [], none, 0⟩).toArray 39)).heap.size m0) := hgN
        have HIs := Lib.hid hiN
        clear hbN hgN hiN
        have K41 : Hid (Below wd.heap.size wd wN) := nxTo K4.out J41.out
        have S41 : Hid (Blk wN wd.heap.size 39 (rnC ⟨root, [], none, 0⟩).toArray) := S4.out.below J41.out S4.out.lt
        refine hK.out _ _ (fun _ => (rngK RR.out K41.out HLw.out)) (fun hSn => ?_)
        clear hK K
        try simp only [Act.put, List.setIfInBounds_toArray, List.set_cons_zero, List.set_cons_succ]
        refine wpAnyK_pure (i := 7) (oi := ⟨_, _, _, _, _, _⟩) (v := ?_) rfl (by kernel_rfl) (by kernel_rfl) (by kernel_rfl) rfl (fun _ _ _ h => h) (Or.inl ⟨by rfl, ?_⟩) hSn ?_
        rotate_left 1
        · intro W hSw
          go_simp
          try with_reducible rfl
        replace hSn := (KT.set (i := 7) (by decide)).2 hSn
        try simp only [Act.put, List.setIfInBounds_toArray, List.set_cons_zero, List.set_cons_succ]
        clear hSn
        refine wpAnyK_ready (rs := [6]) (by kernel_rfl) (by simp) ?_
        refine (AllReadyK.cons rfl (fun K hK => ?_) AllReadyK.nil)
        go_simp
        have J416 : Hid (Below wN.heap.size wN (wN.alloc (.cells #[.slice (some ⟨wd.heap.size, 0, none⟩) 1 1] 37))) := nxAlloc (nxRefl _) _
        have K416 : Hid (Below wd.heap.size wd (wN.alloc (.cells #[.slice (some ⟨wd.heap.size, 0, none⟩) 1 1] 37))) := nxTo K41.out J416.out
        have S416 : Hid (Blk (wN.alloc (.cells #[.slice (some ⟨wd.heap.size, 0, none⟩) 1 1] 37)) wd.heap.size 39 (rnC ⟨root, [], none, 0⟩).toArray) := S41.out.below J416.out S41.out.lt
        have Q416 : Hid (Blk (wN.alloc (.cells #[.slice (some ⟨wd.heap.size, 0, none⟩) 1 1] 37)) wN.heap.size 37 #[.slice (some ⟨wd.heap.size, 0, none⟩) 1 1]) := heap_alloc_new _ _
        have HGa416 : Hid (GrOk (wN.alloc (.cells #[.slice (some ⟨wd.heap.size, 0, none⟩) 1 1] 37)) (wd.alloc (.cells (rnC ⟨root, [], none, 0⟩).toArray 39)).heap.size m0) := HGa41.out.later J416.out
        refine hK.out _ _ (fun _ => (rngK RR.out K416.out HLw.out)) (fun hSn => ?_)
        clear hK K
        try simp only [Act.put, List.setIfInBounds_toArray, List.set_cons_zero, List.set_cons_succ]
        clear hSn
        refine wpAnyK_ready (rs := [8]) (by kernel_rfl) (by simp) ?_
        refine (AllReadyK.cons rfl (fun K hK => ?_) AllReadyK.nil)
        go_simp
        skip
        refine hK.out _ _ (fun h => absurd h (by decide +kernel)) (fun hSn => ?_)
        clear hK K
        try simp only [Act.put, List.setIfInBounds_toArray, List.set_cons_zero, List.set_cons_succ]
        refine wpAnyK_done (by kernel_rfl) ?_ _
        have e1 : ¬ foot m0 wd.heap.size := fun e => by have h1 := HGa41.out.lt e; have h2 := J41.out.size; (try simp only [World.size_alloc] at h1 h2 ⊢); omega
        have e2 : ¬ foot m0 wN.heap.size := fun e => by have h1 := HGa41.out.lt e; have h2 := J41.out.size; (try simp only [World.size_alloc] at h1 h2 ⊢); omega
        go_wp2_with fail
        go_meet
        exact ⟨m0, ⟨wN.heap.size, some ⟨wd.heap.size, 0, none⟩, 1, [⟨root, [], none, 0⟩]⟩, rfl, (by first | rfl | simp only [World.size_alloc]), two_new (HGa416.out.lower (Nat.le_trans V1.out.size (Nat.le_trans K4.out.size (Nat.le_refl _)))) HIs.out S416.out Q416.out (Nat.le_trans V1.out.size K41.out.size) (by first | (simp only [World.size_alloc]; omega) | (have h2 := J41.out.size; simp only [World.size_alloc] at h2 ⊢; omega)) e1 e2, V1.out.trans (K416.out.mono V1.out.size)⟩
      · skip
        go_simp
        have J46 : Hid (Below (wd.alloc (.cells (rnC ⟨root, [], none, 0⟩).toArray 39)).heap.size (wd.alloc (.cells (rnC ⟨root, [], none, 0⟩).toArray 39)) ((wd.alloc (.cells (rnC ⟨root, [], none, 0⟩).toArray 39)).alloc (.cells #[.slice (some ⟨wd.heap.size, 0, none⟩) 1 1] 37))) := nxAlloc (nxRefl _) _
        have K46 : Hid (Below wd.heap.size wd ((wd.alloc (.cells (rnC ⟨root, [], none, 0⟩).toArray 39)).alloc (.cells #[.slice (some ⟨wd.heap.size, 0, none⟩) 1 1] 37))) := nxTo K4.out J46.out
        have S46 : Hid (Blk ((wd.alloc (.cells (rnC ⟨root, [], none, 0⟩).toArray 39)).alloc (.cells #[.slice (some ⟨wd.heap.size, 0, none⟩) 1 1] 37)) wd.heap.size 39 (rnC ⟨root, [], none, 0⟩).toArray) := S4.out.below J46.out S4.out.lt
        have Q46 : Hid (Blk ((wd.alloc (.cells (rnC ⟨root, [], none, 0⟩).toArray 39)).alloc (.cells #[.slice (some ⟨wd.heap.size, 0, none⟩) 1 1] 37)) (wd.alloc (.cells (rnC ⟨root, [], none, 0⟩).toArray 39)).heap.size 37 #[.slice (some ⟨wd.heap.size, 0, none⟩) 1 1]) := heap_alloc_new _ _
        refine hK.out _ _ (fun _ => (rngK RR.out K46.out HLw.out)) (fun hSn => ?_)
        clear hK K
        try simp only [Act.put, List.setIfInBounds_toArray, List.set_cons_zero, List.set_cons_succ]
        clear hSn
        refine wpAnyK_ready (rs := [1]) (by kernel_rfl) (by simp) ?_
        refine (AllReadyK.cons rfl (fun K hK => ?_) AllReadyK.nil)
        go_simp
        go_at_call 31
        refine (new_any ((wd.alloc (.cells (rnC ⟨root, [], none, 0⟩).toArray 39)).alloc (.cells #[.slice (some ⟨wd.heap.size, 0, none⟩) 1 1] 37)) root).mono ?_
        rintro e wN ⟨m0, rfl, hgN, hiN, hbN⟩
        have J461 : Hid (Below ((wd.alloc (.cells (rnC ⟨root, [], none, 0⟩).toArray 39)).alloc (.cells #[.slice (some ⟨wd.heap.size, 0, none⟩) 1 1] 37)).heap.size ((wd.alloc (.cells (rnC ⟨root, [], none, 0⟩).toArray 39)).alloc (.cells #[.slice (some ⟨wd.heap.size, 0, none⟩) 1 1] 37)) wN) := hbN
        have HGa461 : Hid (GrOk wN ((wd.alloc (.cells (rnC ⟨root, [], none, 0⟩).toArray 39)).alloc (.cells #[.slice (some ⟨wd.heap.size, 0, none⟩) 1 1] 37)).heap.size m0) := hgN
        have HIs := Lib.hid hiN
        clear hbN hgN hiN
        have K461 : Hid (Below wd.heap.size wd wN) := nxTo K46.out J461.out
        have S461 : Hid (Blk wN wd.heap.size 39 (rnC ⟨root, [], none, 0⟩).toArray) := S46.out.below J461.out S46.out.lt
        have Q461 : Hid (Blk wN (wd.alloc (.cells (rnC ⟨root, [], none, 0⟩).toArray 39)).heap.size 37 #[.slice (some ⟨wd.heap.size, 0, none⟩) 1 1]) := Q46.out.below J461.out Q46.out.lt
        refine hK.out _ _ (fun _ => (rngK RR.out K461.out HLw.out)) (fun hSn => ?_)
        clear hK K
        try simp only [Act.put, List.setIfInBounds_toArray, List.set_cons_zero, List.set_cons_succ]
        refine wpAnyK_pure (i := 7) (oi := ⟨_, _, _, _, _, _⟩) (v := ?_) rfl (by kernel_rfl) (by kernel_rfl) (by kernel_rfl) rfl (fun _ _ _ h => h) (Or.inl ⟨by rfl, ?_⟩) hSn ?_
        rotate_left 1
        · intro W hSw
          go_simp
          try with_reducible rfl
        replace hSn := (KT.set (i := 7) (by decide)).2 hSn
        try simp only [Act.put, List.setIfInBounds_toArray, List.set_cons_zero, List.set_cons_succ]
        clear hSn
        refine wpAnyK_ready (rs := [8]) (by kernel_rfl) (by simp) ?_
        refine (AllReadyK.cons rfl (fun K hK => ?_) AllReadyK.nil)
        go_simp
        skip
        refine hK.out _ _ (fun h => absurd h (by decide +kernel)) (fun hSn => ?_)
        clear hK K
        try simp only [Act.put, List.setIfInBounds_toArray, List.set_cons_zero, List.set_cons_succ]
        refine wpAnyK_done (by kernel_rfl) ?_ _
        have e1 : ¬ foot m0 wd.heap.size := fun e => by have h1 := HGa461.out.lt e; have h2 := J461.out.size; (try simp only [World.size_alloc] at h1 h2 ⊢); omega
        have e2 : ¬ foot m0 (wd.alloc (.cells (rnC ⟨root, [], none, 0⟩).toArray 39)).heap.size := fun e => by have h1 := HGa461.out.lt e; have h2 := J461.out.size; (try simp only [World.size_alloc] at h1 h2 ⊢); omega
        go_wp2_with fail
        go_meet
        exact ⟨m0, ⟨(wd.alloc (.cells (rnC ⟨root, [], none, 0⟩).toArray 39)).heap.size, some ⟨wd.heap.size, 0, none⟩, 1, [⟨root, [], none, 0⟩]⟩, rfl, (by first | rfl | simp only [World.size_alloc]), two_new (HGa461.out.lower (Nat.le_trans V1.out.size (Nat.le_trans K46.out.size (Nat.le_refl _)))) HIs.out S461.out Q461.out (Nat.le_trans V1.out.size K4.out.size) (by first | (simp only [World.size_alloc]; omega) | (have h2 := J461.out.size; simp only [World.size_alloc] at h2 ⊢; omega)) e1 e2, V1.out.trans (K461.out.mono V1.out.size)⟩
  case rest =>
    obtain ⟨m0, r0, rfl, rfl, HT0, HV0⟩ := hcut
    obtain ⟨p1, hp1⟩ : ∃ p, m0.q = p := ⟨_, rfl⟩
    obtain ⟨p2, hp2⟩ : ∃ p, r0.q = p := ⟨_, rfl⟩
    rw [hp1, hp2]
    go_wp2
    go_loopw [9] (fun iv wr => ∃ (k : Nat) (m : GrM) (r : RGm), k ≤ l.length ∧ iv = .int .i64 k ∧ m.q = p1 ∧ r.q = p2 ∧ Hid (Two wr w.heap.size m (runG root (l.take k)) r) ∧ Hid (Below w.heap.size w wr)) (fun iv _ => l.length - (intOf iv).toNat)
    case atStart => exact ⟨0, m0, r0, by omega, rfl, hp1, hp2, HT0, HV0⟩
    case round =>
      clear HT0 HV0 hp1 hp2
      obtain ⟨k, m, r, hk, rfl, rfl, rfl, HT0, HV0⟩ := hrel
      by_cases hlt : k < l.length
      · obtain ⟨b1, f1, rfl, hb1, hr1⟩ := sees_node HS.out hlt
        have HT : Hid (Two wr.drew w.heap.size m (runG root (l.take k)) r) := HT0.out.later (nxDrT (nxRefl _))
        have HV : Hid (Below w.heap.size w wr.drew) := nxDrT HV0.out
        have hn2 : runG root (l.take (k + 1)) = addG (runG root (l.take k)) l[k].id l[k].ps := by rw [List.take_succ_eq_append_getElem hlt, runG_snoc]
        have hgl : (runG root (l.take k)).length ≤ 1001 := by
          have h1 := runG_len root (l.take k)
          rw [List.length_take] at h1
          have h2 := HL.out
          omega
        have r1 := node_id (rngK (hr1 k hlt) HV.out hb1)
        have r2 := node_ps (rngK (hr1 k hlt) HV.out hb1)
        have sx := HE.out _ (List.getElem_mem hlt)
        have px := HP.out _ (List.getElem_mem hlt)
        obtain ⟨y, hy⟩ : ∃ y, l[k] = y := ⟨_, rfl⟩
        rw [hy] at r1 r2 sx px hn2
        clear hr1 hy
        obtain ⟨x, xs, xA, xc⟩ := y
        dsimp only at r1 r2 sx px hn2
        have HRl : Hid (r.l.length ≤ 1001) := by show _ ≤ _; rw [HT0.out.rel.len]; exact hgl
        have HLen : Hid (m.L.length ≤ 1001) := by show _ ≤ _; rw [HT0.out.i.len]; exact hgl
        generalize runG root (l.take k) = G at *
        have hz := HT.out.rel.addE x xs
        obtain ⟨z, hzz⟩ : ∃ z, addE G x xs = z := ⟨_, rfl⟩
        rw [hzz] at hz
        have HZ := Lib.hid hzz
        have HRz := Lib.hid hz
        have HN2 := Lib.hid hn2
        have HR1 := Lib.hid r1
        have HR2 := Lib.hid r2
        have HSw := Lib.hid sx
        have HSx : Hid (SeesV wr.drew wr.drew.heap.size xA (hsC xs)) := (sx.below HV.out).more HV.out.size
        have HXl := Lib.hid px
        have HLb : Hid (b1 < w.heap.size) := hb1
        have hin : (k : Int) < (l.length : Int) := by omega
        have hl9 := HL.out
        clear r1 r2 sx px hn2 hz hzz hb1 hgl
        go_wp2
        refine wp_region_held_drew (S := fun W => W.rangeAt b1 (f1 + k * 33) (hC x) ∧ W.cell? ⟨b1, f1 + k * 33 + 32, none⟩ = some (.slice xA xs.length xc)) (by kernel_rfl) ⟨HR1.out, HR2.out⟩ (fun hHeld => ?_)
        refine wpAnyH_take (i := 0) (oi := ⟨_, _, _, _, _, _⟩) (v := ?_) rfl (by kernel_rfl) (by kernel_rfl) (by kernel_rfl) (fun _ _ _ h => h) (Or.inl ⟨by rfl, ?_⟩) (by assumption) ?_
        rotate_left 1
        · intro W hSw
          try dsimp only at hSw
          obtain ⟨hs1, hs2⟩ := hSw
          go_simp
          try with_reducible rfl
        try simp only [Act.put, List.setIfInBounds_toArray, List.set_cons_zero, List.set_cons_succ]
        refine wpAnyH_take (i := 1) (oi := ⟨_, _, _, _, _, _⟩) (v := ?_) rfl (by kernel_rfl) (by kernel_rfl) (by kernel_rfl) (fun _ _ _ h => h) (Or.inl ⟨by rfl, ?_⟩) (by assumption) ?_
        rotate_left 1
        · intro W hSw
          try dsimp only at hSw
          obtain ⟨hs1, hs2⟩ := hSw
          go_simp
          try with_reducible rfl
        try simp only [Act.put, List.setIfInBounds_toArray, List.set_cons_zero, List.set_cons_succ]
        refine wpAnyH_take (i := 2) (oi := ⟨_, _, _, _, _, _⟩) (v := ?_) rfl (by kernel_rfl) (by kernel_rfl) (by kernel_rfl) (fun _ _ _ h => h) (Or.inl ⟨by rfl, ?_⟩) (by assumption) ?_
        rotate_left 1
        · intro W hSw
          try dsimp only at hSw
          obtain ⟨hs1, hs2⟩ := hSw
          go_simp
          try with_reducible rfl
        try simp only [Act.put, List.setIfInBounds_toArray, List.set_cons_zero, List.set_cons_succ]
        refine wpAnyH_take (i := 3) (oi := ⟨_, _, _, _, _, _⟩) (v := ?_) rfl (by kernel_rfl) (by kernel_rfl) (by kernel_rfl) (fun _ _ _ h => h) (Or.inl ⟨by rfl, ?_⟩) (by assumption) ?_
        rotate_left 1
        · intro W hSw
          try dsimp only at hSw
          obtain ⟨hs1, hs2⟩ := hSw
          go_simp
          try with_reducible rfl
        try simp only [Act.put, List.setIfInBounds_toArray, List.set_cons_zero, List.set_cons_succ]
        refine wpAnyH_take (i := 4) (oi := ⟨_, _, _, _, _, _⟩) (v := ?_) rfl (by kernel_rfl) (by kernel_rfl) (by kernel_rfl) (fun _ _ _ h => h) (Or.inl ⟨by rfl, ?_⟩) (by assumption) ?_
        rotate_left 1
        · intro W hSw
          try dsimp only at hSw
          obtain ⟨hs1, hs2⟩ := hSw
          go_simp
          try with_reducible rfl
        try simp only [Act.put, List.setIfInBounds_toArray, List.set_cons_zero, List.set_cons_succ]
        refine wpAnyH_take (i := 5) (oi := ⟨_, _, _, _, _, _⟩) (v := .agg (hC x).toArray) rfl (by kernel_rfl) (by kernel_rfl) (by kernel_rfl) (fun _ _ _ h => h) (yieldsIf_load_mid (by rfl) 23 (.tmp 27) rfl b1 (f1 + k * 33) rfl (hC x) _ (fun W h => h.1) Tryd.underlying23 rfl (hszL x)) (by assumption) ?_
        try simp only [Act.put, List.setIfInBounds_toArray, List.set_cons_zero, List.set_cons_succ]
        refine wpAnyH_take (i := 6) (oi := ⟨_, _, _, _, _, _⟩) (v := ?_) rfl (by kernel_rfl) (by kernel_rfl) (by kernel_rfl) (fun _ _ _ h => h) (Or.inl ⟨by rfl, ?_⟩) (by assumption) ?_
        rotate_left 1
        · intro W hSw
          try dsimp only at hSw
          obtain ⟨hs1, hs2⟩ := hSw
          go_simp
          try with_reducible rfl
        try simp only [Act.put, List.setIfInBounds_toArray, List.set_cons_zero, List.set_cons_succ]
        refine wpAnyH_take (i := 7) (oi := ⟨_, _, _, _, _, _⟩) (v := ?_) rfl (by kernel_rfl) (by kernel_rfl) (by kernel_rfl) (fun _ _ _ h => h) (Or.inl ⟨by rfl, ?_⟩) (by assumption) ?_
        rotate_left 1
        · intro W hSw
          try dsimp only at hSw
          obtain ⟨hs1, hs2⟩ := hSw
          go_simp
          try with_reducible rfl
        try simp only [Act.put, List.setIfInBounds_toArray, List.set_cons_zero, List.set_cons_succ]
        refine wpAnyH_take (i := 8) (oi := ⟨_, _, _, _, _, _⟩) (v := ?_) rfl (by kernel_rfl) (by kernel_rfl) (by kernel_rfl) (fun _ _ _ h => h) (Or.inl ⟨by rfl, ?_⟩) (by assumption) ?_
        rotate_left 1
        · intro W hSw
          try dsimp only at hSw
          obtain ⟨hs1, hs2⟩ := hSw
          go_simp
          try with_reducible rfl
        try simp only [Act.put, List.setIfInBounds_toArray, List.set_cons_zero, List.set_cons_succ]
        refine wpAnyH_take (i := 9) (oi := ⟨_, _, _, _, _, _⟩) (v := ?_) rfl (by kernel_rfl) (by kernel_rfl) (by kernel_rfl) (fun _ _ _ h => h) (Or.inl ⟨by rfl, ?_⟩) (by assumption) ?_
        rotate_left 1
        · intro W hSw
          try dsimp only at hSw
          obtain ⟨hs1, hs2⟩ := hSw
          go_simp
          try with_reducible rfl
        try simp only [Act.put, List.setIfInBounds_toArray, List.set_cons_zero, List.set_cons_succ]
        refine wpAnyH_take (i := 10) (oi := ⟨_, _, _, _, _, _⟩) (v := ?_) rfl (by kernel_rfl) (by kernel_rfl) (by kernel_rfl) (fun _ _ _ h => h) (Or.inl ⟨by rfl, ?_⟩) (by assumption) ?_
        rotate_left 1
        · intro W hSw
          try dsimp only at hSw
          obtain ⟨hs1, hs2⟩ := hSw
          go_simp
          try with_reducible rfl
        try simp only [Act.put, List.setIfInBounds_toArray, List.set_cons_zero, List.set_cons_succ]
        refine wpAnyH_take (i := 12) (oi := ⟨_, _, _, _, _, _⟩) (v := ?_) rfl (by kernel_rfl) (by kernel_rfl) (by kernel_rfl) (fun _ _ _ h => h) (Or.inl ⟨by rfl, ?_⟩) (by assumption) ?_
        rotate_left 1
        · intro W hSw
          try dsimp only at hSw
          obtain ⟨hs1, hs2⟩ := hSw
          go_simp
          try with_reducible rfl
        try simp only [Act.put, List.setIfInBounds_toArray, List.set_cons_zero, List.set_cons_succ]
        refine wpAnyH_take (i := 13) (oi := ⟨_, _, _, _, _, _⟩) (v := ?_) rfl (by kernel_rfl) (by kernel_rfl) (by kernel_rfl) (fun _ _ _ h => h) (Or.inl ⟨by rfl, ?_⟩) (by assumption) ?_
        rotate_left 1
        · intro W hSw
          try dsimp only at hSw
          obtain ⟨hs1, hs2⟩ := hSw
          go_simp
          try with_reducible rfl
        try simp only [Act.put, List.setIfInBounds_toArray, List.set_cons_zero, List.set_cons_succ]
        refine wpAnyH_take (i := 14) (oi := ⟨_, _, _, _, _, _⟩) (v := ?_) rfl (by kernel_rfl) (by kernel_rfl) (by kernel_rfl) (fun _ _ _ h => h) (Or.inl ⟨by rfl, ?_⟩) (by assumption) ?_
        rotate_left 1
        · intro W hSw
          try dsimp only at hSw
          obtain ⟨hs1, hs2⟩ := hSw
          go_simp
          try with_reducible rfl
        try simp only [Act.put, List.setIfInBounds_toArray, List.set_cons_zero, List.set_cons_succ]
        refine wpAnyH_take (i := 15) (oi := ⟨_, _, _, _, _, _⟩) (v := ?_) rfl (by kernel_rfl) (by kernel_rfl) (by kernel_rfl) (fun _ _ _ h => h) (Or.inl ⟨by rfl, ?_⟩) (by assumption) ?_
        rotate_left 1
        · intro W hSw
          try dsimp only at hSw
          obtain ⟨hs1, hs2⟩ := hSw
          go_simp
          try with_reducible rfl
        try simp only [Act.put, List.setIfInBounds_toArray, List.set_cons_zero, List.set_cons_succ]
        refine wpAnyH_take (i := 16) (oi := ⟨_, _, _, _, _, _⟩) (v := ?_) rfl (by kernel_rfl) (by kernel_rfl) (by kernel_rfl) (fun _ _ _ h => h) (Or.inl ⟨by rfl, ?_⟩) (by assumption) ?_
        rotate_left 1
        · intro W hSw
          try dsimp only at hSw
          obtain ⟨hs1, hs2⟩ := hSw
          go_simp
          try with_reducible rfl
        try simp only [Act.put, List.setIfInBounds_toArray, List.set_cons_zero, List.set_cons_succ]
        refine wpAnyH_take (i := 17) (oi := ⟨_, _, _, _, _, _⟩) (v := .agg (hC x).toArray) rfl (by kernel_rfl) (by kernel_rfl) (by kernel_rfl) (fun _ _ _ h => h) (yieldsIf_load_mid (by rfl) 23 (.tmp 39) rfl b1 (f1 + k * 33) rfl (hC x) _ (fun W h => h.1) Tryd.underlying23 rfl (hszL x)) (by assumption) ?_
        try simp only [Act.put, List.setIfInBounds_toArray, List.set_cons_zero, List.set_cons_succ]
        refine wpAnyH_take (i := 18) (oi := ⟨_, _, _, _, _, _⟩) (v := ?_) rfl (by kernel_rfl) (by kernel_rfl) (by kernel_rfl) (fun _ _ _ h => h) (Or.inl ⟨by rfl, ?_⟩) (by assumption) ?_
        rotate_left 1
        · intro W hSw
          try dsimp only at hSw
          obtain ⟨hs1, hs2⟩ := hSw
          go_simp
          try with_reducible rfl
        try simp only [Act.put, List.setIfInBounds_toArray, List.set_cons_zero, List.set_cons_succ]
        refine wpAnyH_take (i := 19) (oi := ⟨_, _, _, _, _, _⟩) (v := ?_) rfl (by kernel_rfl) (by kernel_rfl) (by kernel_rfl) (fun _ _ _ h => h) (Or.inl ⟨by rfl, ?_⟩) (by assumption) ?_
        rotate_left 1
        · intro W hSw
          try dsimp only at hSw
          obtain ⟨hs1, hs2⟩ := hSw
          go_simp
          try with_reducible rfl
        try simp only [Act.put, List.setIfInBounds_toArray, List.set_cons_zero, List.set_cons_succ]
        refine wpAnyH_take (i := 20) (oi := ⟨_, _, _, _, _, _⟩) (v := ?_) rfl (by kernel_rfl) (by kernel_rfl) (by kernel_rfl) (fun _ _ _ h => h) (Or.inl ⟨by rfl, ?_⟩) (by assumption) ?_
        rotate_left 1
        · intro W hSw
          try dsimp only at hSw
          obtain ⟨hs1, hs2⟩ := hSw
          go_simp
          try with_reducible rfl
        try simp only [Act.put, List.setIfInBounds_toArray, List.set_cons_zero, List.set_cons_succ]
        refine wpAnyH_take (i := 21) (oi := ⟨_, _, _, _, _, _⟩) (v := ?_) rfl (by kernel_rfl) (by kernel_rfl) (by kernel_rfl) (fun _ _ _ h => h) (Or.inl ⟨by rfl, ?_⟩) (by assumption) ?_
        rotate_left 1
        · intro W hSw
          try dsimp only at hSw
          obtain ⟨hs1, hs2⟩ := hSw
          go_simp
          try with_reducible rfl
        try simp only [Act.put, List.setIfInBounds_toArray, List.set_cons_zero, List.set_cons_succ]
        refine wpAnyH_take (i := 22) (oi := ⟨_, _, _, _, _, _⟩) (v := ?_) rfl (by kernel_rfl) (by kernel_rfl) (by kernel_rfl) (fun _ _ _ h => h) (Or.inl ⟨by rfl, ?_⟩) (by assumption) ?_
        rotate_left 1
        · intro W hSw
          try dsimp only at hSw
          obtain ⟨hs1, hs2⟩ := hSw
          go_simp
          try with_reducible rfl
        try simp only [Act.put, List.setIfInBounds_toArray, List.set_cons_zero, List.set_cons_succ]
        refine wpAnyH_ready (rs := [11]) (by kernel_rfl) (by simp) ?_
        refine AllReadyH.cons rfl (fun K hK => ?_) AllReadyH.nil
        go_simp
        go_at_call 23
        refine (add_any wr.drew w.heap.size m G HT.out.g HT.out.i x xA xc xs HSx.out (by have := HXl.out; omega) (by have := HLen.out; omega)).mono ?_
        unfold AddPost
        rw [HZ.out]
        rintro e w5 ⟨rfl, m2, ha, hi⟩
        have HAd := Lib.hid ha
        have HI2 := Lib.hid hi
        have VW5 : Hid (Below w.heap.size wr.drew w5) := ha.k.below HV.out.size (fun j hj hf => by have := (HT.out.g.lt hf).1; omega)
        have s5 := rngK HR1.out VW5.out HLb.out
        have t5 := (VW5.out.cell (p := ⟨b1, f1 + k * 33 + 32, none⟩) HLb.out).trans HR2.out
        have S5 := Lib.hid s5
        have T5 := Lib.hid t5
        have SX5 : Hid (SeesV w5 w5.heap.size xA (hsC xs)) := (HSw.out.below (HV.out.trans VW5.out)).more (HV.out.trans VW5.out).size
        have HMid : Hid (RGOk w5 w.heap.size r) := HT.out.mid ha
        clear ha hi s5 t5
        refine hK.out _ _ ⟨S5.out, T5.out⟩ (fun hSn => ?_)
        clear hK K
        try simp only [Act.put, List.setIfInBounds_toArray, List.set_cons_zero, List.set_cons_succ]
        refine wpAnyH_ready (rs := [23]) (by kernel_rfl) (by simp) ?_
        refine AllReadyH.cons rfl (fun K hK => ?_) AllReadyH.nil
        go_simp
        go_at_call 24
        refine (radd_any w5 w.heap.size r HMid.out x xA xs xc SX5.out (by have := HRl.out; omega) (by have := HXl.out; omega)).mono ?_
        unfold RAddPost
        rw [HRz.out]
        rintro e w6 ⟨rfl, h0, h1⟩
        obtain ⟨r2, ht2, hq2, hk2⟩ := HT.out.step x xs HAd.out HI2.out (fun e => h0 (HRz.out.symm.trans e)) (fun e => h1 (fun e' => e (HRz.out.trans e')))
        have HT2 := Lib.hid ht2
        have HQ2 := Lib.hid hq2
        have VW6 : Hid (Below w.heap.size wr.drew w6) := VW5.out.trans (hk2.below (Nat.le_trans HV.out.size VW5.out.size) (fun j hj e => by have := HMid.out.qb; omega))
        have s6 := rngK HR1.out VW6.out HLb.out
        have t6 := (VW6.out.cell (p := ⟨b1, f1 + k * 33 + 32, none⟩) HLb.out).trans HR2.out
        have S6 := Lib.hid s6
        have T6 := Lib.hid t6
        clear h0 h1 ht2 hq2 hk2 s6 t6
        refine hK.out _ _ ⟨S6.out, T6.out⟩ (fun hSn => ?_)
        clear hK K
        try simp only [Act.put, List.setIfInBounds_toArray, List.set_cons_zero, List.set_cons_succ]
        refine wpAnyH_take (i := 24) (oi := ⟨_, _, _, _, _, _⟩) (v := ?_) rfl (by kernel_rfl) (by kernel_rfl) (by kernel_rfl) (fun _ _ _ h => h) (Or.inl ⟨by rfl, ?_⟩) (by assumption) ?_
        rotate_left 1
        · intro W hSw
          try dsimp only at hSw
          obtain ⟨hs1, hs2⟩ := hSw
          go_simp
          try with_reducible rfl
        try simp only [Act.put, List.setIfInBounds_toArray, List.set_cons_zero, List.set_cons_succ]
        refine wpAnyH_done (by kernel_rfl) ?_ _
        have V6 : Hid (Below w.heap.size w w6) := HV.out.trans VW6.out
        go_wp2
        go_roundw
        case rel => exact ⟨k + 1, m2, r2, by omega, by go_num, HAd.out.q, HQ2.out, by rw [HN2.out]; exact HT2, V6⟩
        case measure => simp [intOf] <;> omega
      · obtain rfl : k = l.length := by omega
        rw [List.take_length] at HT0
        go_wp2
        go_ret3
        exact ⟨m, r, rfl, HT0.out, HV0.out⟩
end Go.Proofs.YtndkjmmmneianaaDoor
