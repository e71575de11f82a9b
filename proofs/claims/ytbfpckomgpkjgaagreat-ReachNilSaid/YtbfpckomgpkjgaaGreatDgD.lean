/-
  dag: rising: the hashes at some places, rising.
-/
import Derived.Test.YtbfpckomgpkjgaaGreatPRnQ13
import Derived.Test.YtbfpckomgpkjgaaGreatRw
namespace Go.Proofs.YtbfpckomgpkjgaaGreat
open Go.RowKit Go.Shelf

/-- A function that is ranged over, and hands these places, one after the other. -/
def IterI (w : World) (gf : Nat) (lb : Array Value) (ps : List Nat) : Prop :=
  ∀ (l : Nat) (J : Nat → World → Prop) (Jx : World → Prop) (W : World), Below w.heap.size w W → (∀ k W1 W2, J k W1 → Below W1.heap.size W1 W2 → J k W2) →
    (∀ k vs W1, k < ps.length → (∃ h : k < ps.length, vs = #[.int .i64 (ps[k] : Int)]) → J k W1 → Below w.heap.size W W1 → YieldAt Fence.wide (5 - 1 - 1) Tryz.prog l vs W1 fun e W' => (e = .returned (.bool true) ∧ J (k + 1) W' ∧ Below w.heap.size W1 W') ∨ (e = .returned (.bool false) ∧ Jx W')) →
    J 0 W → CallsIn Fence.wide (5 - 1) Tryz.prog gf (#[.func (.yield l) #[] #[]] ++ lb) W fun e W' => (∃ v, e = .returned v) ∧ ((J ps.length W' ∧ Below w.heap.size W W') ∨ Jx W')
/-- Between two rounds. -/
structure RsI (w : World) (m : GrM) (G : Gr) (ps : List Nat) (k : Nat) (W : World) : Prop where
  l : ∃ A c, Blk W (w.heap.size + 1) 33 #[.slice A k c] ∧ W.ownsRow w.heap.size 23 32 (.slice A k c) k (hsC ((ps.take k).map (idG G)))
  g : Blk W w.heap.size 58 #[.pointer (some ⟨m.q, 0, none⟩)]
  v : Below w.heap.size w W
theorem RsI.below {w W W' : World} {m : GrM} {G : Gr} {ps : List Nat} {k : Nat} (h : RsI w m G ps k W) (b : Below W.heap.size W W') : RsI w m G ps k W' := by
  obtain ⟨A, c, h1, h2⟩ := h.l
  exact ⟨⟨A, c, h1.below b h1.lt, own_below h2 b (fun g hg => (own_lt h2 g hg).2)⟩, h.g.below b h.g.lt, nxTo h.v b⟩
theorem RsI.putW {w W : World} {m : GrM} {G : Gr} {ps : List Nat} {k l : Nat} {o : Obj} (h : RsI w m G ps k W) (o' : Obj) (hl : w.heap.size ≤ l) (hh : W.heap[l]? = some o) (ho : o.isCells = false) : RsI w m G ps k (W.putObj l o') := by
  obtain ⟨A, c, h1, h2⟩ := h.l
  exact ⟨⟨A, c, h1.putW o' hh ho, own_putW h2 o' hh ho⟩, h.g.putW o' hh ho, h.v.grown (grownBy_putObj' W l o') h.v.size (fun k e => by cases e; omega)⟩
theorem rising_leave {w W : World} {n c D : Nat} {A : Option Addr} {xs : List Value} (tmps : Array Value) (hp : tmps.getD 4 undef = .slice A n c) (h : W.ownsRow w.heap.size 23 32 (.slice A n c) n xs) (hv : Below w.heap.size w W) (hD : W.heap[D]? = some (.deferred (some []))) (hDl : w.heap.size ≤ D) :
    LeavesInM Fence.wide 5 Tryz.prog Tryz.f124 tmps (fun e w' => (∃ A' c', e = .returned (.slice A' n c') ∧ w'.ownsRow w.heap.size 23 32 (.slice A' n c') n xs) ∧ Below w.heap.size w w') [{ target := .collected D, args := #[] }] .returning W := by
  have h2 := own_putW h (.deferred none) hD rfl
  have h3 : Below w.heap.size w (W.putObj D (.deferred none)) := hv.grown (grownBy_putObj' W D (.deferred none)) hv.size (fun k e => by cases e; omega)
  refine ⟨by simp, .inl ⟨_, _, rfl, run_takeDeferred hD, ?_⟩⟩
  refine ⟨_, results_tmp rfl tmps _ _, ?_, h3⟩
  exact ⟨A, c, by rw [hp], h2⟩

section
attribute [local go_sem] Oper.semAt_some
set_option maxRecDepth 100000 in
set_option maxHeartbeats 8000000 in
theorem rising_any (w : World) (base : Nat) (m : GrM) (G : Gr) (h : GrOk w base m) (hg : GrI0 m G) (gf : Nat) (lb : Array Value) (ps : List Nat) (hps : ∀ p ∈ ps, p < G.length) (hlen : ps.length ≤ 1000000) (eg : ∀ args w, (callFunc gf args).run Tryz.prog w = .ok (.enter gf args) w)
    (hit : ∀ W, Below w.heap.size w W → w.heap.size ≤ W.heap.size → ∀ (l : Nat) (J : Nat → World → Prop) (Jx : World → Prop) (W9 : World), Below W.heap.size W W9 → (∀ k W1 W2, J k W1 → Below W1.heap.size W1 W2 → J k W2) →
      (∀ k vs W1, k < ps.length → (∃ h : k < ps.length, vs = #[.int .i64 (ps[k] : Int)]) → J k W1 → Below w.heap.size W9 W1 → YieldAt Fence.wide (5 - 1 - 1) Tryz.prog l vs W1 fun e W' => (e = .returned (.bool true) ∧ J (k + 1) W' ∧ Below w.heap.size W1 W') ∨ (e = .returned (.bool false) ∧ Jx W')) →
      J 0 W9 → CallsIn Fence.wide (5 - 1) Tryz.prog gf (#[.func (.yield l) #[] #[]] ++ lb) W9 fun e W' => (∃ v, e = .returned v) ∧ ((J ps.length W' ∧ Below w.heap.size W9 W') ∨ Jx W')) :
    Calls Tryz.prog 124 #[.pointer (some ⟨m.q, 0, none⟩), .func (.func gf) #[] lb] w fun e w' => (∃ A c, e = .returned (.slice A ps.length c) ∧ w'.ownsRow w.heap.size 23 32 (.slice A ps.length c) ps.length (hsC (srtH (ps.map (idG G))))) ∧ Below w.heap.size w w' := by
  have V2 : Hid (Below w.heap.size w ((w.alloc (.cells #[.pointer (some ⟨m.q, 0, none⟩)] 58)).alloc (.cells #[.slice none 0 0] 33))) := nxAlloc (nxAlloc (nxRefl w) _) _
  have G2 : Hid (Blk ((w.alloc (.cells #[.pointer (some ⟨m.q, 0, none⟩)] 58)).alloc (.cells #[.slice none 0 0] 33)) w.heap.size 58 #[.pointer (some ⟨m.q, 0, none⟩)]) := Blk.alloc (blkNew rfl rfl) _
  have L2 : Hid (Blk ((w.alloc (.cells #[.pointer (some ⟨m.q, 0, none⟩)] 58)).alloc (.cells #[.slice none 0 0] 33)) (w.heap.size + 1) 33 #[.slice none 0 0]) := blkNew (by simp) rfl
  have H := Lib.hid h
  have HG := Lib.hid hg
  have HPs := Lib.hid hps
  have HIt := Lib.hid hit
  have HEg := Lib.hid eg
  clear h hg hps hit eg
  refine (callsIn_wide (n := 5)).1 ?_
  refine callsIn_of_wp_marks Tryz.func124 rfl trivial ?_ rfl
  simp only [Tryz.ntmps124, List.size_toArray, List.length_cons, List.length_nil, Nat.reduceAdd, Nat.reduceSub, Array.replicate_succ, Array.replicate_zero, List.push_toArray, List.append_toArray, List.nil_append, List.cons_append]
  gi_wp2
  generalize hW2 : ((w.alloc (.cells #[.pointer (some ⟨m.q, 0, none⟩)] 58)).alloc (.cells #[.slice none 0 0] 33)) = W2 at *
  clear hW2
  have HS2 : Hid (w.heap.size ≤ W2.heap.size) := V2.out.size
  have I0 : RsI w m G ps 0 W2 := ⟨⟨none, 0, L2.out, by simpa [hsC] using World.ownsRow_nil W2 w.heap.size 23 32⟩, G2.out, V2.out⟩
  refine wpIn_rangeW (gf := gf) (lb := lb) rfl HEg.out ps.length w.heap.size HS2.out (fun k vs _ => ∃ h : k < ps.length, vs = #[.int .i64 (ps[k] : Int)])
    (fun k W => RsI w m G ps k W) (fun _ => False) ?seq ?size ?hand I0 (fun k W W' h b => h.below b) (fun k W l o o' h hl hh ho => h.putW o' (Nat.le_trans HS2.out hl) hh ho) (fun W l o o' h _ _ _ => h)
    (fun vs => { tmps := #[.pointer (some ⟨m.q, 0, none⟩), .func (.func gf) #[] lb, .pointer (some ⟨w.heap.size, 0, none⟩), undef, .slice none 0 0, .pointer (some ⟨w.heap.size + 1, 0, none⟩), vs.getD 0 undef, .func (.func gf) #[] lb, vs.getD 0 undef, undef, undef, undef, undef, undef, undef, undef, undef, undef, undef, undef, undef, undef], defers := [] }) ?assign ?body ?done ?stop
  case seq =>
    intro l J Jx W hbW hJ hY hJ0
    exact HIt.out W2 V2.out HS2.out l J Jx W hbW hJ hY hJ0
  case size =>
    rintro k vs W ⟨hk, rfl⟩
    rfl
  case hand =>
    intro k vs W l r o' hG _
    exact hG
  case assign =>
    rintro l k vs W K ⟨hk, rfl⟩ hK
    gi_wp2
    exact hK
  case body =>
    rintro l k vs W hkN ⟨hk, rfl⟩ hI
    obtain ⟨p, hp⟩ : ∃ p, ps[k] = p := ⟨ps[k], rfl⟩
    rw [hp]
    show Code.wpIn _ _ _ _ _ { tmps := #[.pointer (some ⟨m.q, 0, none⟩), .func (.func gf) #[] lb, .pointer (some ⟨w.heap.size, 0, none⟩), undef, .slice none 0 0, .pointer (some ⟨w.heap.size + 1, 0, none⟩), .int .i64 (p : Int), .func (.func gf) #[] lb, .int .i64 (p : Int), undef, undef, undef, undef, undef, undef, undef, undef, undef, undef, undef, undef, undef], defers := [] } W
    have hpl : p < G.length := HPs.out p (by rw [← hp]; exact List.getElem_mem hk)
    obtain ⟨A, c, hL, hO⟩ := hI.l
    have HL := Lib.hid hL
    have HO := Lib.hid hO
    have HGb := Lib.hid hI.g
    have HV := Lib.hid hI.v
    have h9 : GrOk W base m := H.out.later hI.v
    have hpi : p < m.ids.length := by rw [HG.out.ilen]; exact hpl
    obtain ⟨gi, hiA, hgl, hr⟩ := ids_row h9 hpi
    have hgw : gi < w.heap.size := (H.out.lt (.inr (.inr (.inl (by rw [hiA]; rfl))))).2
    have hidx : m.ids[p] = idG G p := by rw [idG_at hpl]; simp only [HG.out.ids, List.getElem_map]
    rw [hidx] at hr
    obtain ⟨x, hx⟩ : ∃ x, idG G p = x := ⟨_, rfl⟩
    rw [hx] at hr
    have HX := Lib.hid hx
    have HR := Lib.hid hr
    have HGi : Hid (gi < w.heap.size ∧ gi < W.heap.size) := ⟨hgw, hgl⟩
    have hqb := h9.b
    rw [hiA, HG.out.ilen] at hqb
    rw [HG.out.ilen] at hpi
    have HQ := Lib.hid hqb
    have ZX := Lib.hid (hszL x)
    have hcl : W.drew.cell? ⟨w.heap.size + 1, 0, none⟩ = some (.slice A k c) := hL.cell 0
    have hcg : W.drew.cell? ⟨w.heap.size, 0, none⟩ = some (.pointer (some ⟨m.q, 0, none⟩)) := hI.g.cell 0
    have hcq : W.drew.cell? ⟨m.q, 0, none⟩ = some (.slice (some ⟨gi, 0, none⟩) G.length m.ic) := hqb.cell 0
    have HN9 : Hid (ps.take (k + 1) = ps.take k ++ [p]) := by show _ = _; rw [List.take_succ_eq_append_getElem hk, hp]
    obtain ⟨i1, hi1, hy0, hy1, hy2⟩ := info_parts Tryz.dinfoH
    have hkm : k ≤ 1000000 := by omega
    have hbw : w.heap.size ≤ W.heap.size := hI.v.size
    clear hI hL hO h9 hr hidx hx hqb hp hgl hiA
    gi_wp2
    refine wpIn_round_K (fun W => W.cell? ⟨w.heap.size + 1, 0, none⟩ = some (.slice A k c) ∧ W.cell? ⟨w.heap.size, 0, none⟩ = some (.pointer (some ⟨m.q, 0, none⟩)) ∧ W.cell? ⟨m.q, 0, none⟩ = some (.slice (some ⟨gi, 0, none⟩) G.length m.ic) ∧ W.rangeAt gi (p * 32) (hC x)) 10 (fun a' W' => KeepsOthers W W' ∧ Below w.heap.size W W' ∧ RsI w m G ps (k + 1) W') (by kernel_rfl) (by kernel_rfl) ?hQ ⟨hcl, hcg, hcq, HR.out⟩ (fun hSn => ?_)
    case hQ => exact fun a' W' h => h
    refine wpAnyK_chain (i := 0) [10] (oi := ⟨_, _, _, _, _, _⟩) (v := ?_) rfl (by kernel_rfl) (by kernel_rfl) (by kernel_rfl) rfl (by kernel_rfl) (by kernel_rfl) (by kernel_rfl) (fun _ _ _ h => h) (Or.inl ⟨by rfl, ?_⟩) hSn ?_
    rotate_left 1
    · intro W hSw
      try dsimp only at hSw
      obtain ⟨hs1, hs2, hs3, hs4⟩ := hSw
      go_simp
      try with_reducible rfl
    replace hSn := (KT.set (i := 0) (by decide)).2 hSn
    try simp only [Act.put, List.setIfInBounds_toArray, List.set_cons_zero, List.set_cons_succ]
    refine wpAnyK_chain (i := 1) [10] (oi := ⟨_, _, _, _, _, _⟩) (v := ?_) rfl (by kernel_rfl) (by kernel_rfl) (by kernel_rfl) rfl (by kernel_rfl) (by kernel_rfl) (by kernel_rfl) (fun _ _ _ h => h) (Or.inl ⟨by rfl, ?_⟩) hSn ?_
    rotate_left 1
    · intro W hSw
      try dsimp only at hSw
      obtain ⟨hs1, hs2, hs3, hs4⟩ := hSw
      go_simp
      try with_reducible rfl
    replace hSn := (KT.set (i := 1) (by decide)).2 hSn
    try simp only [Act.put, List.setIfInBounds_toArray, List.set_cons_zero, List.set_cons_succ]
    refine wpAnyK_pure (i := 2) (oi := ⟨_, _, _, _, _, _⟩) (v := ?_) rfl (by kernel_rfl) (by kernel_rfl) (by kernel_rfl) rfl (fun _ _ _ h => h) (Or.inl ⟨by rfl, ?_⟩) hSn ?_
    rotate_left 1
    · intro W hSw
      go_simp
      try with_reducible rfl
    replace hSn := (KT.set (i := 2) (by decide)).2 hSn
    try simp only [Act.put, List.setIfInBounds_toArray, List.set_cons_zero, List.set_cons_succ]
    refine wpAnyK_pure (i := 3) (oi := ⟨_, _, _, _, _, _⟩) (v := ?_) rfl (by kernel_rfl) (by kernel_rfl) (by kernel_rfl) rfl (fun _ _ _ h => h) (Or.inl ⟨by rfl, ?_⟩) hSn ?_
    rotate_left 1
    · intro W hSw
      go_simp
      try with_reducible rfl
    replace hSn := (KT.set (i := 3) (by decide)).2 hSn
    try simp only [Act.put, List.setIfInBounds_toArray, List.set_cons_zero, List.set_cons_succ]
    refine wpAnyK_chain (i := 4) [10] (oi := ⟨_, _, _, _, _, _⟩) (v := ?_) rfl (by kernel_rfl) (by kernel_rfl) (by kernel_rfl) rfl (by kernel_rfl) (by kernel_rfl) (by kernel_rfl) (fun _ _ _ h => h) (Or.inl ⟨by rfl, ?_⟩) hSn ?_
    rotate_left 1
    · intro W hSw
      try dsimp only at hSw
      obtain ⟨hs1, hs2, hs3, hs4⟩ := hSw
      go_simp
      try with_reducible rfl
    replace hSn := (KT.set (i := 4) (by decide)).2 hSn
    try simp only [Act.put, List.setIfInBounds_toArray, List.set_cons_zero, List.set_cons_succ]
    refine wpAnyK_pure (i := 5) (oi := ⟨_, _, _, _, _, _⟩) (v := ?_) rfl (by kernel_rfl) (by kernel_rfl) (by kernel_rfl) rfl (fun _ _ _ h => h) (Or.inl ⟨by rfl, ?_⟩) hSn ?_
    rotate_left 1
    · intro W hSw
      go_simp
      try with_reducible rfl
    replace hSn := (KT.set (i := 5) (by decide)).2 hSn
    try simp only [Act.put, List.setIfInBounds_toArray, List.set_cons_zero, List.set_cons_succ]
    refine wpAnyK_pure (i := 6) (oi := ⟨_, _, _, _, _, _⟩) (v := ?_) rfl (by kernel_rfl) (by kernel_rfl) (by kernel_rfl) rfl (fun _ _ _ h => h) (Or.inl ⟨by rfl, ?_⟩) hSn ?_
    rotate_left 1
    · intro W hSw
      go_simp
      try with_reducible rfl
    replace hSn := (KT.set (i := 6) (by decide)).2 hSn
    try simp only [Act.put, List.setIfInBounds_toArray, List.set_cons_zero, List.set_cons_succ]
    refine wpAnyK_chain (i := 7) [10] (oi := ⟨_, _, _, _, _, _⟩) (v := .agg (hC x).toArray) rfl (by kernel_rfl) (by kernel_rfl) (by kernel_rfl) rfl (by kernel_rfl) (by kernel_rfl) (by kernel_rfl) (fun _ _ _ h => h) (yieldsIf_load_mid (by rfl) 23 (.tmp 15) rfl gi (p * 32) rfl (hC x) _ (fun W h => h.2.2.2) Tryz.underlying23 rfl ZX.out) hSn ?_
    replace hSn := (KT.set (i := 7) (by decide)).2 hSn
    try simp only [Act.put, List.setIfInBounds_toArray, List.set_cons_zero, List.set_cons_succ]
    clear hSn
    refine wpAnyK_ready (rs := [8]) (by kernel_rfl) (by simp) ?_
    refine AllReadyK.cons rfl (fun K hK => ?_) AllReadyK.nil
    refine step_build1 (o := ⟨some 17, _, _, _, _, _⟩) rfl 33 23 (.tmp 16) rfl (hC x) _ 32 32 Tryz.underlying33 Tryz.dinfoH (by decide) (by decide) (hC_len x) rfl ?_
    refine hK.out _ _ (fun _ => ⟨(Blk.alloc (w := W.drew) HL.out _).cell 0, (Blk.alloc (w := W.drew) HGb.out _).cell 0, ((Blk.alloc (w := W.drew) HQ.out _).cell 0), fun j v hv => (World.cell?_alloc_some W.drew _ _ (by rw [show W.drew.cell? ⟨gi, p * 32 + j, none⟩ = some v from HR.out j v hv]; rfl)).trans (HR.out j v hv)⟩) (fun hSn => ?_)
    clear hK K
    try simp only [Act.put, List.setIfInBounds_toArray, List.set_cons_zero, List.set_cons_succ]
    clear hSn
    refine wpAnyK_ready (rs := [9]) (by kernel_rfl) (by simp) ?_
    refine AllReadyK.cons rfl (fun K hK => ?_) AllReadyK.nil
    refine step_append_seesV (o := ⟨some 18, _, _, _, _, _⟩) rfl (.tmp 9) (.tmp 17) 33 rfl w.heap.size 23 i1 _ 32 32 Tryz.underlying33 hi1 hy0 hy1 hy2 rfl (by decide) (.slice A k c) k (hsC ((ps.take k).map (idG G))) rfl (HO.out.alloc _) _ (some ⟨W.heap.size, 0, none⟩) 1 1 (hC x) rfl (by rw [hC_len]) (SeesV.blk (heap_alloc_new W _)) (hC_one x) (by omega) (by omega) (by simp; omega) ?_
    intro v5 w5 ho5 hg5 ha5
    obtain ⟨A5, c5, rfl⟩ := own_form ho5
    have K5 : Hid (Keeps (fun j => A.map Addr.block = some j) (W.drew.alloc (.cells (hC x).toArray 23)) w5) := Keeps.grown (Keeps.refl _ _) hg5 (fun k e => own_ob e)
    have L5 : Hid (Blk w5 (w.heap.size + 1) 33 #[.slice A k c]) := Blk.keeps (Blk.alloc (w := W.drew) HL.out _) K5.out (own_tag HO.out HL.out (by decide))
    have G5 : Hid (Blk w5 w.heap.size 58 #[.pointer (some ⟨m.q, 0, none⟩)]) := Blk.keeps (Blk.alloc (w := W.drew) HGb.out _) K5.out (own_tag HO.out HGb.out (by decide))
    have Q5 : Hid (Blk w5 m.q 104 _) := Blk.keeps (Blk.alloc (w := W.drew) HQ.out _) K5.out (own_tag HO.out HQ.out (by decide))
    have D5 : Hid (w5.rangeAt gi (p * 32) (hC x)) := (fun j v hv => (K5.out.cell (p := ⟨gi, p * 32 + j, none⟩) (by show gi < (W.drew.alloc (.cells (hC x).toArray 23)).heap.size; have h1 := HGi.out.2; simp; omega) (fun e => by have h1 := (own_blk HO.out e).1; have h2 : gi < w.heap.size := HGi.out.1; have h3 : w.heap.size ≤ gi := h1; omega)).trans ((World.cell?_alloc_some W.drew _ _ (by rw [show W.drew.cell? ⟨gi, p * 32 + j, none⟩ = some v from HR.out j v hv]; rfl)).trans (HR.out j v hv)))
    have c5l : w5.cell? ⟨w.heap.size + 1, 0, none⟩ = some (.slice A k c) := L5.out.cell 0
    have f5l : w5.frozen? ⟨w.heap.size + 1, 0, none⟩ = false := L5.out.frozen 0
    have O5 := Lib.hid ho5
    have KG5 := Lib.hid hg5
    clear ho5 hg5 ha5
    refine hK.out _ _ (fun _ => ⟨c5l, G5.out.cell 0, Q5.out.cell 0, D5.out⟩) (fun hSn => ?_)
    clear hK K
    try simp only [Act.put, List.setIfInBounds_toArray, List.set_cons_zero, List.set_cons_succ]
    clear hSn
    refine wpAnyK_ready (rs := [10]) (by kernel_rfl) (by simp) ?_
    refine AllReadyK.cons rfl (fun K hK => ?_) AllReadyK.nil
    go_simp
    skip
    refine hK.out _ _ (fun h => absurd h (by decide +kernel)) (fun hSn => ?_)
    clear hK K
    try simp only [Act.put, List.setIfInBounds_toArray, List.set_cons_zero, List.set_cons_succ]
    refine wpAnyK_done (by kernel_rfl) ?_ _
    clear hSn
    have hk5 : Keeps (fun j => w.heap.size ≤ j) W w5 := ((Keeps.refl (fun j => w.heap.size ≤ j) W).drew.alloc _).trans (K5.out.mono fun j _ e => (own_blk HO.out e).1)
    have hk6 : Keeps (fun j => w.heap.size ≤ j) W (w5.setCell ⟨w.heap.size + 1, 0, none⟩ (.slice A5 (k + 1) c5)) := hk5.setCell (p := ⟨w.heap.size + 1, 0, none⟩) (by show w.heap.size ≤ w.heap.size + 1; omega) _
    have hko : KeepsOthers W w5 := by
      have h1 : KeepsOthers W.drew (W.drew.alloc (.cells (hC x).toArray 23)) := KeepsOthers.alloc _ _
      have h2 : KeepsOthers (W.drew.alloc (.cells (hC x).toArray 23)) w5 := K5.out.others (fun j e o ho => by
        obtain ⟨_, cur, hb⟩ := own_blk (HO.out.alloc (.cells (hC x).toArray 23)) e
        have hb2 : Blk (W.drew.alloc (.cells (hC x).toArray 23)) j 23 cur := hb
        unfold Blk at hb2
        rw [hb2] at ho
        injection ho with ho
        subst ho
        rfl)
      exact ((⟨Nat.le_refl _, fun _ _ h _ => h⟩ : KeepsOthers W W.drew).trans h1).trans h2
    refine ⟨rfl, hko.trans (KeepsOthers.setCell _ _ _), hk6.below hbw (fun j hj e => by omega), ⟨⟨A5, c5, ?_, ?_⟩, ?_, ?_⟩⟩
    · have := L5.out.set 0 (.slice A5 (k + 1) c5)
      exact this
    · have h1 := own_store O5.out L5.out (by decide) 0 (.slice A5 (k + 1) c5)
      rw [HN9.out, List.map_append, hsC_append]
      have h2 : hsC (List.map (idG G) [p]) = hC x := by rw [← HX.out]; simp [hsC]
      rw [h2]
      exact h1
    · exact G5.out.far (p := ⟨w.heap.size + 1, 0, none⟩) (by show w.heap.size ≠ w.heap.size + 1; omega) _
    · exact HV.out.trans (hk6.below hbw (fun j hj e => by omega))
  case done =>
    intro D W hI hD hDl
    obtain ⟨A, c, hL, hO⟩ := hI.l
    rw [List.take_length] at hO
    have HO := Lib.hid hO
    have HL := Lib.hid hL
    have HV := Lib.hid hI.v
    have HD := Lib.hid hD
    have cl : W.cell? ⟨w.heap.size + 1, 0, none⟩ = some (.slice A ps.length c) := hL.cell 0
    have hso := sort_any W w.heap.size ps.length c A (ps.map (idG G)) (by simp) hO (by omega)
    have HSo := Lib.hid hso
    clear hI hL hO hD hso
    gi_wp2_with (first
      | ((with_reducible show Fence.wide.fn 68 ∧ _); refine ⟨trivial, ?_⟩; refine (callsIn_wide.2 HSo.out).mono ?_; rintro e w5 ⟨rfl, ho5, hk5⟩; have O5 := Lib.hid ho5; have L5 : Hid (Blk w5 (w.heap.size + 1) 33 #[.slice A ps.length c]) := HL.out.keeps hk5 (own_tag HO.out HL.out (by decide)); have c5 : w5.cell? ⟨w.heap.size + 1, 0, none⟩ = some (.slice A ps.length c) := L5.out.cell 0; have V5 : Hid (Below w.heap.size w w5) := HV.out.trans (hk5.below HV.out.size (fun j hj e => by have := (own_blk HO.out e).1; omega)); have D5 : Hid (w5.heap[D]? = some (.deferred (some []))) := (hk5.block D (Array.getElem?_eq_some_iff.1 HD.out).1 (fun e => by obtain ⟨_, cur, hb⟩ := own_blk HO.out e; unfold Blk at hb; rw [HD.out] at hb; cases hb)).trans HD.out; clear ho5 hk5))
    exact rising_leave _ rfl O5.out V5.out D5.out (Nat.le_trans HS2.out hDl)
  case stop =>
    intro D W hX
    exact hX.elim
end
end Go.Proofs.YtbfpckomgpkjgaaGreat
