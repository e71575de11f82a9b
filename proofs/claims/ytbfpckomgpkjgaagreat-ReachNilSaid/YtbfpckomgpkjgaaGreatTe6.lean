/-
  tree: New; what a child gets.
-/
import Derived.Test.YtbfpckomgpkjgaaGreatTe4
import Derived.Test.YtbfpckomgpkjgaaGreatPRnQ1
import Derived.Test.YtbfpckomgpkjgaaGreatPRnQ5
namespace Go.Proofs.YtbfpckomgpkjgaaGreat
open Go.RowKit

theorem rngT {w w' : World} {B b o : Nat} {cs : List Value} (h : w.rangeAt b o cs) (hb : Below B w w') (hlt : b < B) : w'.rangeAt b o cs := fun j v hv => (hb.cell (p := ⟨b, o + j, none⟩) hlt).trans (h j v hv)
theorem Tryz.tinfoN : (Tryz.prog.info? 109).map (fun i => (i.zero, i.size, i.bytes)) = some (some (.agg #[.int .i64 0, .int .i64 0, .slice none 0 0, .int .u64 0, .int .u64 0]), 5, 56) := by kernel_rfl
theorem Tryz.tsizeN : (Tryz.prog.info? 109).map (·.size) = some 5 := by kernel_rfl
theorem tndC_one (x : NdM) : ∀ u ∈ (tndC x).toArray.toList, u.oneCell' = true := by
  intro u hu
  simp only [tndC, List.mem_cons, List.not_mem_nil, or_false] at hu
  rcases hu with rfl | rfl | rfl | rfl | rfl <;> rfl
theorem tblkNew {w : World} {t : TypeId} {cs cs' : Array Value} {g : Nat} (hg : g = w.heap.size) (hc : cs = cs') : Blk (w.alloc (.cells cs t)) g t cs' := by
  subst hg hc
  exact heap_alloc_new w _
def ndM1 : NdM := ⟨⟨0, 0, 1, 4611686018427387904⟩, [], none, 0⟩
set_option maxRecDepth 100000 in
theorem te_new (w : World) : Calls Tryz.prog 65 #[] w fun e w' => ∃ m, e = .returned (.pointer (some ⟨m.q, 0, none⟩)) ∧ TrOk w' w.heap.size m ∧ TrI m ∧ m.L = [ndM1] ∧ m.dl = 0 ∧ Below w.heap.size w w' := by
  have hb : ∀ wq : World, (Instr.build 109 #[(3, .int .u64 1), (4, .int .u64 4611686018427387904)]).run Tryz.prog wq = .ok (.agg (tndC ndM1).toArray) wq := fun wq => by kernel_rfl
  have hb2 : ∀ wq : World, (Instr.build 112 #[(0, .slice (some ⟨w.heap.size, 0, none⟩) 1 1)]).run Tryz.prog wq = .ok (.agg #[.slice (some ⟨w.heap.size, 0, none⟩) 1 1, .int .i64 0]) wq := fun wq => by kernel_rfl
  go_enter Tryz.func65, Tryz.ntmps65
  go_wp2_with ((with_reducible show wpList _ _ _ (⟨some 2, _, _, _, _, _⟩ :: _) _ _); refine wpList_build1 rfl 110 109 (.tmp 1) rfl (tndC ndM1) _ 5 56 Tryz.underlying110 Tryz.tinfoN (by decide) (by decide) rfl rfl ?_)
  go_ret
  have k1 : Below w.heap.size w (w.alloc (.cells (tndC ndM1).toArray 109)) := nxAlloc (nxRefl w) _
  refine ⟨⟨w.heap.size + 1, some ⟨w.heap.size, 0, none⟩, 1, [ndM1], 0⟩, by simp, ⟨?_, Nat.le_succ _, ?_, ?_, ?_⟩, ⟨⟨by simp [TrM.T], rfl, ?_, ?_, by simp [TrM.T]⟩, ⟨?_, ?_, ?_⟩, ?_, by simp⟩, rfl, rfl, nxAlloc k1 _⟩
  · exact tblkNew (by simp) rfl
  · have h9 := own_made (w := (w.alloc (.cells (tndC ndM1).toArray 109)).alloc (.cells #[.slice (some ⟨w.heap.size, 0, none⟩) 1 1, .int .i64 0] 112)) (base := w.heap.size) (g := w.heap.size) (e := 109) (n := 1) (c := 1) (size := 5) (cs := tndC ndM1) (Blk.alloc (heap_alloc_new w _) _) (Nat.le_refl _) (by omega) (by simp [maxLen]) rfl
    exact h9
  · intro x hx
    rw [List.mem_singleton] at hx
    subst hx
    exact ⟨rfl, .inl ⟨rfl, rfl⟩⟩
  · intro i j hi hj hne
    simp at hi hj
    omega
  · intro n h0 h1; simp [TrM.T] at h1; omega
  · intro n h0 h1; simp [TrM.T] at h1; omega
  · intro n h1
    obtain rfl : n = 0 := by simp [TrM.T] at h1; omega
    exact ⟨(by decide : 1 ≤ (1 : Nat)), (by decide : (1 : Nat) ≤ 4611686018427387904), (by decide : (4611686018427387904 : Nat) ≤ 4611686018427387904)⟩
  · intro n h0 h1; simp [TrM.T] at h1; omega
  · intro a b h0 h1 h2; simp [TrM.T] at h2; omega
  · intro i hi
    obtain rfl : i = 0 := by simp at hi; omega
    rfl
theorem lay_quo (hi fr c : Nat) (h : fr ≤ hi) (hb : hi ≤ 4611686018427387904) : IntKind.u64.wrap (((hi : Int) - (fr : Int)).tdiv ((c + 2 : Nat) : Int)) = (((hi - fr) / (c + 2) : Nat) : Int) := by
  have e1 : ((hi : Int) - (fr : Int)) = ((hi - fr : Nat) : Int) := by omega
  have e2 : Int.tdiv ((hi - fr : Nat) : Int) ((c + 2 : Nat) : Int) = (((hi - fr) / (c + 2) : Nat) : Int) := rfl
  have e3 := Nat.div_le_self (hi - fr) (c + 2)
  rw [e1, e2, IntKind.wrap_u64]
  generalize (hi - fr) / (c + 2) = z at *
  omega
theorem lay_add (hi fr c : Nat) (h : fr ≤ hi) (hb : hi ≤ 4611686018427387904) : IntKind.u64.wrap ((fr : Int) + (((hi - fr) / (c + 2) : Nat) : Int)) = ((fr + (hi - fr) / (c + 2) : Nat) : Int) := by
  have e3 := Nat.div_le_self (hi - fr) (c + 2)
  rw [IntKind.wrap_u64]
  generalize (hi - fr) / (c + 2) = z at *
  omega
/-- What a child gets. -/
def layT (T : List Nd) (p : Nat) : Nat × Nat := if freeT T p < (ndT T p).hi then (freeT T p, freeT T p + ((ndT T p).hi - freeT T p) / ((kidsT T p).length + 2)) else (0, 0)
set_option maxRecDepth 100000 in
set_option maxHeartbeats 4000000 in
theorem te_lay (w : World) (base : Nat) (m : TrM) (h : TrOk w base m) (hI : TrI m) (p d cb : Nat) (hp : p < m.L.length) (hcb : Blk w cb 109 #[.int .i64 (p : Int), .int .i64 (d : Int), .slice none 0 0, .int .u64 0, .int .u64 0]) :
    Calls Tryz.prog 85 #[.pointer (some ⟨m.q, 0, none⟩), .pointer (some ⟨cb, 0, none⟩)] w fun e w' => e = .returned (.bool (decide (freeT m.T p < (ndT m.T p).hi))) ∧ Keeps (· = cb) w w' ∧ Blk w' cb 109 #[.int .i64 (p : Int), .int .i64 (d : Int), .slice none 0 0, .int .u64 ((layT m.T p).1 : Int), .int .u64 ((layT m.T p).2 : Int)] := by
  have hiv := free_le hI.iv (p := p) (by rw [m.T_len]; exact hp)
  have hivp := hI.iv.ok p (by rw [m.T_len]; exact hp)
  have hmx := hI.max
  obtain ⟨g, hnA, hg, hgb, hc0, hr⟩ := nd_cells h hp
  have hkids := hI.kids p hp
  have HKC := fun j (hj : j < m.L[p].kids.length) => kid_cells h hp hj
  have HND := fun k (hk : k < m.L.length) => nd_cells h hk
  rw [m.T_at hp] at hiv hivp
  have hTp := m.T_at hp
  have hkl : (kidsT m.T p).length = m.L[p].kids.length := by rw [hkids]
  have hkb : ∀ k ∈ m.L[p].kids, k < m.L.length := fun k hk => by
    rw [hkids] at hk
    have := (mem_kids.1 hk).2.1
    rwa [m.T_len] at this
  have HSt := Lib.hid h
  have HI := Lib.hid hI
  obtain ⟨x, hx⟩ : ∃ x, m.L[p] = x := ⟨_, rfl⟩
  rw [hx] at hr hkids HKC hiv hivp hTp hkl hkb
  have hkm : x.kids.length ≤ 1000 := by
    have := (kids_nodup m.T p).length_le_of_subset (l₂ := List.range m.L.length) (fun k hk => List.mem_range.2 (by have := (mem_kids.1 hk).2.1; rwa [m.T_len] at this))
    rw [List.length_range, hkl] at this
    omega
  have hszN : (Tryz.prog.info? 109).map (·.size) = some (tndC x).length := Tryz.tsizeN
  have hszB : (Tryz.prog.info? 109).map (·.size) = some (tndC x).toArray.size := Tryz.tsizeN
  have RG : Hid (w.drew.rangeAt g (p * 5) (tndC x)) := hr
  have RQ : Hid (w.drew.cell? ⟨m.q, 0, none⟩ = some (.slice (some ⟨g, 0, none⟩) m.L.length m.nc)) := hc0
  have RC : Hid (w.drew.cell? ⟨cb, 0, none⟩ = some (.int .i64 (p : Int))) := hcb.cell 0
  have HGl : Hid (g < w.drew.heap.size) := hg
  have HQl : Hid (m.q < w.drew.heap.size) := h.b.lt
  have HCl : Hid (cb < w.drew.heap.size) := hcb.lt
  have HCb : Hid (Blk w.drew cb 109 #[.int .i64 (p : Int), .int .i64 (d : Int), .slice none 0 0, .int .u64 0, .int .u64 0]) := hcb
  have VD : Hid (Below w.heap.size w w.drew) := teDr (nxRefl _)
  have hlen : (p : Int) < (m.L.length : Int) := by omega
  obtain ⟨c, hc⟩ : ∃ c, x.kids.length = c := ⟨_, rfl⟩
  rw [hc] at hkm
  have hkc : (kidsT m.T p).length = c := hkl.trans hc
  unfold layT
  rw [hkc, hTp]
  obtain ⟨fre, hfre⟩ : ∃ n, freeT m.T p = n := ⟨_, rfl⟩
  rw [hfre] at hiv ⊢
  obtain ⟨lp, hlp⟩ : ∃ n, (if fre < x.d.hi then (fre, fre + (x.d.hi - fre) / (c + 2)) else (0, 0)) = n := ⟨_, rfl⟩
  rw [hlp]
  obtain ⟨l1, l2⟩ := lp
  dsimp only
  have HL1 : Hid (fre < x.d.hi → l1 = fre ∧ l2 = fre + (x.d.hi - fre) / (c + 2)) := fun hr => by
    rw [if_pos hr] at hlp
    injection hlp with e1 e2
    exact ⟨e1.symm, e2.symm⟩
  have HL2 : Hid (¬ fre < x.d.hi → l1 = 0 ∧ l2 = 0) := fun hr => by
    rw [if_neg hr] at hlp
    injection hlp with e1 e2
    exact ⟨e1.symm, e2.symm⟩
  clear hlp
  clear hcb hr hc0 hg hgb h hI HKC HND
  go_enter Tryz.func85, Tryz.ntmps85
  go_wp2
  refine wp_region_K (fun W => W.cell? ⟨m.q, 0, none⟩ = some (.slice (some ⟨g, 0, none⟩) m.L.length m.nc) ∧ W.cell? ⟨cb, 0, none⟩ = some (.int .i64 (p : Int)) ∧ W.rangeAt g (p * 5) (tndC x)) 11 (by kernel_rfl) ⟨RQ.out, RC.out, RG.out⟩ (fun hSn => ?_)
  have hsz9 : Hid (w.drew.heap.size = w.heap.size) := rfl
  generalize w.drew = wd at *
  refine wpAnyK_pure (i := 0) (oi := ⟨_, _, _, _, _, _⟩) (v := ?_) rfl (by kernel_rfl) (by kernel_rfl) (by kernel_rfl) rfl (fun _ _ _ h => h) (Or.inl ⟨by rfl, ?_⟩) hSn ?_
  rotate_left 1
  · intro W hSw
    go_simp
    try with_reducible rfl
  replace hSn := (KT.set (i := 0) (by decide)).2 hSn
  try simp only [Act.put, List.setIfInBounds_toArray, List.set_cons_zero, List.set_cons_succ]
  refine wpAnyK_pure (i := 1) (oi := ⟨_, _, _, _, _, _⟩) (v := ?_) rfl (by kernel_rfl) (by kernel_rfl) (by kernel_rfl) rfl (fun _ _ _ h => h) (Or.inl ⟨by rfl, ?_⟩) hSn ?_
  rotate_left 1
  · intro W hSw
    go_simp
    try with_reducible rfl
  replace hSn := (KT.set (i := 1) (by decide)).2 hSn
  try simp only [Act.put, List.setIfInBounds_toArray, List.set_cons_zero, List.set_cons_succ]
  refine wpAnyK_pure (i := 2) (oi := ⟨_, _, _, _, _, _⟩) (v := ?_) rfl (by kernel_rfl) (by kernel_rfl) (by kernel_rfl) rfl (fun _ _ _ h => h) (Or.inl ⟨by rfl, ?_⟩) hSn ?_
  rotate_left 1
  · intro W hSw
    go_simp
    try with_reducible rfl
  replace hSn := (KT.set (i := 2) (by decide)).2 hSn
  try simp only [Act.put, List.setIfInBounds_toArray, List.set_cons_zero, List.set_cons_succ]
  refine wpAnyK_chain (i := 3) [11] (oi := ⟨_, _, _, _, _, _⟩) (v := ?_) rfl (by kernel_rfl) (by kernel_rfl) (by kernel_rfl) rfl (by kernel_rfl) (by kernel_rfl) (by kernel_rfl) (fun _ _ _ h => h) (Or.inl ⟨by rfl, ?_⟩) hSn ?_
  rotate_left 1
  · intro W hSw
    try dsimp only at hSw
    obtain ⟨hs1, hs2, hs3⟩ := hSw
    go_simp
    try with_reducible rfl
  replace hSn := (KT.set (i := 3) (by decide)).2 hSn
  try simp only [Act.put, List.setIfInBounds_toArray, List.set_cons_zero, List.set_cons_succ]
  refine wpAnyK_pure (i := 4) (oi := ⟨_, _, _, _, _, _⟩) (v := ?_) rfl (by kernel_rfl) (by kernel_rfl) (by kernel_rfl) rfl (fun _ _ _ h => h) (Or.inl ⟨by rfl, ?_⟩) hSn ?_
  rotate_left 1
  · intro W hSw
    go_simp
    try with_reducible rfl
  replace hSn := (KT.set (i := 4) (by decide)).2 hSn
  try simp only [Act.put, List.setIfInBounds_toArray, List.set_cons_zero, List.set_cons_succ]
  refine wpAnyK_pure (i := 5) (oi := ⟨_, _, _, _, _, _⟩) (v := ?_) rfl (by kernel_rfl) (by kernel_rfl) (by kernel_rfl) rfl (fun _ _ _ h => h) (Or.inl ⟨by rfl, ?_⟩) hSn ?_
  rotate_left 1
  · intro W hSw
    go_simp
    try with_reducible rfl
  replace hSn := (KT.set (i := 5) (by decide)).2 hSn
  try simp only [Act.put, List.setIfInBounds_toArray, List.set_cons_zero, List.set_cons_succ]
  refine wpAnyK_pure (i := 6) (oi := ⟨_, _, _, _, _, _⟩) (v := ?_) rfl (by kernel_rfl) (by kernel_rfl) (by kernel_rfl) rfl (fun _ _ _ h => h) (Or.inl ⟨by rfl, ?_⟩) hSn ?_
  rotate_left 1
  · intro W hSw
    go_simp
    try with_reducible rfl
  replace hSn := (KT.set (i := 6) (by decide)).2 hSn
  try simp only [Act.put, List.setIfInBounds_toArray, List.set_cons_zero, List.set_cons_succ]
  refine wpAnyK_chain (i := 7) [11] (oi := ⟨_, _, _, _, _, _⟩) (v := ?_) rfl (by kernel_rfl) (by kernel_rfl) (by kernel_rfl) rfl (by kernel_rfl) (by kernel_rfl) (by kernel_rfl) (fun _ _ _ h => h) (Or.inl ⟨by rfl, ?_⟩) hSn ?_
  rotate_left 1
  · intro W hSw
    try dsimp only at hSw
    obtain ⟨hs1, hs2, hs3⟩ := hSw
    go_simp
    try with_reducible rfl
  replace hSn := (KT.set (i := 7) (by decide)).2 hSn
  try simp only [Act.put, List.setIfInBounds_toArray, List.set_cons_zero, List.set_cons_succ]
  refine wpAnyK_pure (i := 8) (oi := ⟨_, _, _, _, _, _⟩) (v := ?_) rfl (by kernel_rfl) (by kernel_rfl) (by kernel_rfl) rfl (fun _ _ _ h => h) (Or.inl ⟨by rfl, ?_⟩) hSn ?_
  rotate_left 1
  · intro W hSw
    go_simp
    try with_reducible rfl
  replace hSn := (KT.set (i := 8) (by decide)).2 hSn
  try simp only [Act.put, List.setIfInBounds_toArray, List.set_cons_zero, List.set_cons_succ]
  refine wpAnyK_chain (i := 9) [11] (oi := ⟨_, _, _, _, _, _⟩) (v := .agg (tndC x).toArray) rfl (by kernel_rfl) (by kernel_rfl) (by kernel_rfl) rfl (by kernel_rfl) (by kernel_rfl) (by kernel_rfl) (fun _ _ _ h => h) (yieldsIf_load_mid (by rfl) 109 (.tmp 17) rfl g (p * 5) rfl (tndC x) _ (fun W h => h.2.2) Tryz.underlying109 rfl hszN) hSn ?_
  replace hSn := (KT.set (i := 9) (by decide)).2 hSn
  try simp only [Act.put, List.setIfInBounds_toArray, List.set_cons_zero, List.set_cons_succ]
  clear hSn
  refine wpAnyK_ready (rs := [10]) (by kernel_rfl) (by simp) ?_
  refine AllReadyK.cons rfl (fun K hK => ?_) AllReadyK.nil
  go_simp
  have KD : Hid (Below wd.heap.size wd (wd.alloc (.cells #[.int .i64 0, .int .i64 0, .slice none 0 0, .int .u64 0, .int .u64 0] 109))) := nxAlloc (nxRefl wd) _
  have BN : Hid (Blk (wd.alloc (.cells #[.int .i64 0, .int .i64 0, .slice none 0 0, .int .u64 0, .int .u64 0] 109)) wd.heap.size 109 #[.int .i64 0, .int .i64 0, .slice none 0 0, .int .u64 0, .int .u64 0]) := heap_alloc_new wd _
  refine hK.out _ _ (fun _ => ⟨(KD.out.cell (p := ⟨m.q, 0, none⟩) HQl.out).trans RQ.out, (KD.out.cell (p := ⟨cb, 0, none⟩) HCl.out).trans RC.out, rngT RG.out KD.out HGl.out⟩) (fun hSn => ?_)
  clear hK K
  try simp only [Act.put, List.setIfInBounds_toArray, List.set_cons_zero, List.set_cons_succ]
  clear hSn
  refine wpAnyK_ready (rs := [11]) (by kernel_rfl) (by simp) ?_
  refine AllReadyK.cons rfl (fun K hK => ?_) AllReadyK.nil
  refine step_store_all (o := ⟨none, _, _, _, _, _⟩) rfl 109 (.tmp 5) (.tmp 18) rfl wd.heap.size 109 _ (tndC x).toArray rfl rfl BN.out rfl hszB (tndC_one x) ?_
  intro w5 h5 h6 h7
  have B5 := Lib.hid h5
  have K5 : Hid (Below wd.heap.size wd w5) := KD.out.trans (h6.below KD.out.size (fun j hj e => by omega))
  clear h5 h6 h7
  refine hK.out _ _ (fun h => absurd h (by decide +kernel)) (fun hSn => ?_)
  clear hK K
  try simp only [Act.put, List.setIfInBounds_toArray, List.set_cons_zero, List.set_cons_succ]
  refine wpAnyK_done (by kernel_rfl) ?_ _
  clear hSn
  have hT5 : TrOk w5 base m := HSt.out.later (VD.out.trans (K5.out.mono (by rw [hsz9.out]; exact Nat.le_refl _)))
  have V5 : Hid (Below w.heap.size w w5) := VD.out.trans (K5.out.mono (by rw [hsz9.out]; exact Nat.le_refl _))
  have C5 : Hid (Blk w5 cb 109 #[.int .i64 (p : Int), .int .i64 (d : Int), .slice none 0 0, .int .u64 0, .int .u64 0]) := HCb.out.below K5.out HCl.out
  have hq5 : w5.cell? ⟨m.q, 0, none⟩ = some (.slice (some ⟨g, 0, none⟩) m.L.length m.nc) := (K5.out.cell (p := ⟨m.q, 0, none⟩) HQl.out).trans RQ.out
  obtain ⟨N, hN⟩ : ∃ n, wd.heap.size = n := ⟨_, rfl⟩
  rw [hN] at B5
  rw [hN]
  have hn2 : w5.cell? ⟨N, 2, none⟩ = some (.slice x.kA x.kids.length x.kc) := B5.out.cell 2
  have hn3 : w5.cell? ⟨N, 3, none⟩ = some (.int .u64 (x.d.lo : Int)) := B5.out.cell 3
  have hn4 : w5.cell? ⟨N, 4, none⟩ = some (.int .u64 (x.d.hi : Int)) := B5.out.cell 4
  have hcl : Hid (cb < w5.heap.size) := C5.out.lt
  rw [hc] at hn2
  by_cases hk0 : x.kids = []
  · have hfr : fre = x.d.lo := by
      rw [← hfre]
      unfold freeT
      rw [← hkids, hk0]
      exact congrArg Nd.lo hTp
    have hc00 : ¬ (0 : Int) < (c : Int) := by rw [← hc, hk0]; simp
    obtain ⟨fr, hf9⟩ : ∃ n, x.d.lo = n := ⟨_, rfl⟩
    rw [hf9] at hfr hn3 hivp
    subst hfr
    clear hiv hf9
    by_cases hrm : fre < x.d.hi
    · have hne : ((x.d.hi : Int) - (fre : Int) == 0) = false := by rw [beq_eq_false_iff_ne]; omega
      go_wp2
      have e7 : IntKind.u64.wrap ((c : Int) + 2) = (c : Int) + 2 := by rw [IntKind.wrap_u64]; omega
      have e6 : IntKind.i64.wrap ((c : Int) + 2) = (c : Int) + 2 := by rw [IntKind.wrap_i64]; omega
      have e7b : ¬ ((c : Int) + 2 = 0) := by omega
      have e8 := lay_quo x.d.hi fre c (by omega) (by omega)
      have e3 := Nat.div_le_self (x.d.hi - fre) (c + 2)
      obtain ⟨z, hz⟩ : ∃ z, (x.d.hi - fre) / (c + 2) = z := ⟨_, rfl⟩
      rw [hz] at e8 e3
      have e9 : ((c + 2 : Nat) : Int) = (c : Int) + 2 := by omega
      rw [e9] at e8
      have e10 : IntKind.u64.wrap ((fre : Int) + (z : Int)) = (fre : Int) + (z : Int) := by rw [IntKind.wrap_u64]; omega
      have C6 : Hid (Blk w5.drew cb 109 #[.int .i64 (p : Int), .int .i64 (d : Int), .slice none 0 0, .int .u64 0, .int .u64 0]) := C5.out
      have V6 : Hid (Below w.heap.size w w5.drew) := teDr V5.out
      refine wp_region_K (fun _ => True) 15 (by kernel_rfl) trivial (fun hSn => ?_)
      generalize w5.drew = w6 at *
      have c3 : w6.cell? ⟨cb, 3, none⟩ = some (.int .u64 0) := C6.out.cell 3
      have f3 : w6.frozen? ⟨cb, 3, none⟩ = false := C6.out.frozen 3
      refine wpAnyK_pure (i := 0) (oi := ⟨_, _, _, _, _, _⟩) (v := ?_) rfl (by kernel_rfl) (by kernel_rfl) (by kernel_rfl) rfl (fun _ _ _ h => h) (Or.inl ⟨by rfl, ?_⟩) hSn ?_
      rotate_left 1
      · intro W hSw
        go_simp
        try with_reducible rfl
      replace hSn := (KT.set (i := 0) (by decide)).2 hSn
      try simp only [Act.put, List.setIfInBounds_toArray, List.set_cons_zero, List.set_cons_succ]
      refine wpAnyK_pure (i := 1) (oi := ⟨_, _, _, _, _, _⟩) (v := ?_) rfl (by kernel_rfl) (by kernel_rfl) (by kernel_rfl) rfl (fun _ _ _ h => h) (Or.inl ⟨by rfl, ?_⟩) hSn ?_
      rotate_left 1
      · intro W hSw
        go_simp
        try with_reducible rfl
      replace hSn := (KT.set (i := 1) (by decide)).2 hSn
      try simp only [Act.put, List.setIfInBounds_toArray, List.set_cons_zero, List.set_cons_succ]
      refine wpAnyK_pure (i := 2) (oi := ⟨_, _, _, _, _, _⟩) (v := ?_) rfl (by kernel_rfl) (by kernel_rfl) (by kernel_rfl) rfl (fun _ _ _ h => h) (Or.inl ⟨by rfl, ?_⟩) hSn ?_
      rotate_left 1
      · intro W hSw
        go_simp
        try with_reducible rfl
      replace hSn := (KT.set (i := 2) (by decide)).2 hSn
      try simp only [Act.put, List.setIfInBounds_toArray, List.set_cons_zero, List.set_cons_succ]
      refine wpAnyK_pure (i := 3) (oi := ⟨_, _, _, _, _, _⟩) (v := ?_) rfl (by kernel_rfl) (by kernel_rfl) (by kernel_rfl) rfl (fun _ _ _ h => h) (Or.inl ⟨by rfl, ?_⟩) hSn ?_
      rotate_left 1
      · intro W hSw
        go_simp
        try with_reducible rfl
      replace hSn := (KT.set (i := 3) (by decide)).2 hSn
      try simp only [Act.put, List.setIfInBounds_toArray, List.set_cons_zero, List.set_cons_succ]
      refine wpAnyK_pure (i := 4) (oi := ⟨_, _, _, _, _, _⟩) (v := ?_) rfl (by kernel_rfl) (by kernel_rfl) (by kernel_rfl) rfl (fun _ _ _ h => h) (Or.inl ⟨by rfl, ?_⟩) hSn ?_
      rotate_left 1
      · intro W hSw
        go_simp
        try with_reducible rfl
      replace hSn := (KT.set (i := 4) (by decide)).2 hSn
      try simp only [Act.put, List.setIfInBounds_toArray, List.set_cons_zero, List.set_cons_succ]
      refine wpAnyK_pure (i := 5) (oi := ⟨_, _, _, _, _, _⟩) (v := ?_) rfl (by kernel_rfl) (by kernel_rfl) (by kernel_rfl) rfl (fun _ _ _ h => h) (Or.inl ⟨by rfl, ?_⟩) hSn ?_
      rotate_left 1
      · intro W hSw
        go_simp
        try with_reducible rfl
      replace hSn := (KT.set (i := 5) (by decide)).2 hSn
      try simp only [Act.put, List.setIfInBounds_toArray, List.set_cons_zero, List.set_cons_succ]
      refine wpAnyK_pure (i := 6) (oi := ⟨_, _, _, _, _, _⟩) (v := .int .i64 ((c : Int) + 2)) rfl (by kernel_rfl) (by kernel_rfl) (by kernel_rfl) rfl (fun _ _ _ h => h) (Or.inl ⟨by rfl, ?_⟩) hSn ?_
      · intro W hSw
        go_simp
        try rw [e6]
      replace hSn := (KT.set (i := 6) (by decide)).2 hSn
      try simp only [Act.put, List.setIfInBounds_toArray, List.set_cons_zero, List.set_cons_succ]
      refine wpAnyK_pure (i := 7) (oi := ⟨_, _, _, _, _, _⟩) (v := .int .u64 ((c : Int) + 2)) rfl (by kernel_rfl) (by kernel_rfl) (by kernel_rfl) rfl (fun _ _ _ h => h) (Or.inl ⟨by rfl, ?_⟩) hSn ?_
      · intro W hSw
        go_simp
        try rw [e7]
      replace hSn := (KT.set (i := 7) (by decide)).2 hSn
      try simp only [Act.put, List.setIfInBounds_toArray, List.set_cons_zero, List.set_cons_succ]
      refine wpAnyK_pure (i := 8) (oi := ⟨_, _, _, _, _, _⟩) (v := .int .u64 (z : Int)) rfl (by kernel_rfl) (by kernel_rfl) (by kernel_rfl) rfl (fun _ _ _ h => h) (Or.inl ⟨by rfl, ?_⟩) hSn ?_
      · intro W hSw
        go_simp
        try (first | rw [e8] | rw [if_neg e7b, e8])
      replace hSn := (KT.set (i := 8) (by decide)).2 hSn
      try simp only [Act.put, List.setIfInBounds_toArray, List.set_cons_zero, List.set_cons_succ]
      refine wpAnyK_pure (i := 9) (oi := ⟨_, _, _, _, _, _⟩) (v := .int .u64 ((fre : Int) + (z : Int))) rfl (by kernel_rfl) (by kernel_rfl) (by kernel_rfl) rfl (fun _ _ _ h => h) (Or.inl ⟨by rfl, ?_⟩) hSn ?_
      · intro W hSw
        go_simp
        try rw [e10]
      replace hSn := (KT.set (i := 9) (by decide)).2 hSn
      try simp only [Act.put, List.setIfInBounds_toArray, List.set_cons_zero, List.set_cons_succ]
      refine wpAnyK_pure (i := 10) (oi := ⟨_, _, _, _, _, _⟩) (v := ?_) rfl (by kernel_rfl) (by kernel_rfl) (by kernel_rfl) rfl (fun _ _ _ h => h) (Or.inl ⟨by rfl, ?_⟩) hSn ?_
      rotate_left 1
      · intro W hSw
        go_simp
        try with_reducible rfl
      replace hSn := (KT.set (i := 10) (by decide)).2 hSn
      try simp only [Act.put, List.setIfInBounds_toArray, List.set_cons_zero, List.set_cons_succ]
      refine wpAnyK_pure (i := 11) (oi := ⟨_, _, _, _, _, _⟩) (v := ?_) rfl (by kernel_rfl) (by kernel_rfl) (by kernel_rfl) rfl (fun _ _ _ h => h) (Or.inl ⟨by rfl, ?_⟩) hSn ?_
      rotate_left 1
      · intro W hSw
        go_simp
        try with_reducible rfl
      replace hSn := (KT.set (i := 11) (by decide)).2 hSn
      try simp only [Act.put, List.setIfInBounds_toArray, List.set_cons_zero, List.set_cons_succ]
      clear hSn
      refine wpAnyK_ready (rs := [12]) (by kernel_rfl) (by simp) ?_
      refine AllReadyK.cons rfl (fun K hK => ?_) AllReadyK.nil
      go_simp
      have C7 : Hid (Blk (w6.setCell ⟨cb, 3, none⟩ (.int .u64 (fre : Int))) cb 109 #[.int .i64 (p : Int), .int .i64 (d : Int), .slice none 0 0, .int .u64 (fre : Int), .int .u64 0]) := C6.out.set 3 _
      have d4 : (w6.setCell ⟨cb, 3, none⟩ (.int .u64 (fre : Int))).cell? ⟨cb, 4, none⟩ = some (.int .u64 0) := C7.out.cell 4
      have f4 : (w6.setCell ⟨cb, 3, none⟩ (.int .u64 (fre : Int))).frozen? ⟨cb, 4, none⟩ = false := C7.out.frozen 4
      refine hK.out _ _ (fun _ => trivial) (fun hSn => ?_)
      clear hK K
      try simp only [Act.put, List.setIfInBounds_toArray, List.set_cons_zero, List.set_cons_succ]
      refine wpAnyK_pure (i := 13) (oi := ⟨_, _, _, _, _, _⟩) (v := ?_) rfl (by kernel_rfl) (by kernel_rfl) (by kernel_rfl) rfl (fun _ _ _ h => h) (Or.inl ⟨by rfl, ?_⟩) hSn ?_
      rotate_left 1
      · intro W hSw
        go_simp
        try with_reducible rfl
      replace hSn := (KT.set (i := 13) (by decide)).2 hSn
      try simp only [Act.put, List.setIfInBounds_toArray, List.set_cons_zero, List.set_cons_succ]
      refine wpAnyK_pure (i := 14) (oi := ⟨_, _, _, _, _, _⟩) (v := ?_) rfl (by kernel_rfl) (by kernel_rfl) (by kernel_rfl) rfl (fun _ _ _ h => h) (Or.inl ⟨by rfl, ?_⟩) hSn ?_
      rotate_left 1
      · intro W hSw
        go_simp
        try with_reducible rfl
      replace hSn := (KT.set (i := 14) (by decide)).2 hSn
      try simp only [Act.put, List.setIfInBounds_toArray, List.set_cons_zero, List.set_cons_succ]
      clear hSn
      refine wpAnyK_ready (rs := [15]) (by kernel_rfl) (by simp) ?_
      refine AllReadyK.cons rfl (fun K hK => ?_) AllReadyK.nil
      go_simp
      skip
      refine hK.out _ _ (fun h => absurd h (by decide +kernel)) (fun hSn => ?_)
      clear hK K
      try simp only [Act.put, List.setIfInBounds_toArray, List.set_cons_zero, List.set_cons_succ]
      refine wpAnyK_done (by kernel_rfl) ?_ _
      go_wp2
      go_ret
      refine ⟨by simp [hrm], ((Keeps.of_below V6.out (· = cb)).setCell (p := ⟨cb, 3, none⟩) rfl _).setCell (p := ⟨cb, 4, none⟩) rfl _, ?_⟩
      obtain ⟨h91, h92⟩ := HL1.out hrm
      rw [h91, h92, hz]
      have e11 : ((fre + z : Nat) : Int) = (fre : Int) + (z : Int) := by omega
      show Blk _ cb _ #[_, _, _, _, .int .u64 ((fre + z : Nat) : Int)]
      rw [e11]
      exact C7.out.set 4 _
    · have hne : ((x.d.hi : Int) - (fre : Int) == 0) = true := by rw [beq_iff_eq]; omega
      go_wp2
      go_ret
      refine ⟨by simp [hrm], Keeps.of_below V5.out _, by rw [(HL2.out hrm).1, (HL2.out hrm).2]; exact C5.out⟩
  · have hc1 : 0 < c := by rw [← hc]; cases hq : x.kids with | nil => exact absurd hq hk0 | cons a l => simp
    obtain ⟨j, rfl⟩ : ∃ j, c = j + 1 := ⟨c - 1, by omega⟩
    have hj : j < x.kids.length := by omega
    have hlast : x.kids.getLast? = some x.kids[j] := by rw [List.getLast?_eq_getElem?, hc, Nat.add_sub_cancel, List.getElem?_eq_getElem hj]
    obtain ⟨k, hk⟩ : ∃ k, x.kids[j] = k := ⟨_, rfl⟩
    have hkL : k < m.L.length := hkb k (by rw [← hk]; exact List.getElem_mem hj)
    rw [hk] at hlast
    obtain ⟨gk, hkA, hgk, hkcell⟩ := kid_cells hT5 hp (j := j) (by rw [hx]; exact hj)
    obtain ⟨g2, hnA2, _, _, _, hrk⟩ := nd_cells hT5 hkL
    have hkcell2 : w5.cell? ⟨gk, j, none⟩ = some (.int .i64 (k : Int)) := by rw [hkcell]; simp only [hx, hk]
    rw [hnA] at hnA2
    obtain rfl : g = g2 := by injection hnA2 with e; injection e
    have hkhi := (nd_c hrk).2.2.2.2
    rw [← m.T_at hkL] at hkhi
    simp only [hx] at hkA
    have hfr : fre = (ndT m.T k).hi + 1 := by
      rw [← hfre]
      unfold freeT
      rw [← hkids, hlast]
    rw [hkA] at hn2
    obtain ⟨hik, hik9⟩ : ∃ n, (ndT m.T k).hi = n := ⟨_, rfl⟩
    rw [hik9] at hkhi hfr
    have hfr2 : (hik : Int) + 1 = (fre : Int) := by omega
    have hkL2 : (k : Int) < (m.L.length : Int) := by omega
    have hc00 : (0 : Int) < ((j + 1 : Nat) : Int) := by omega
    clear hkcell hrk hnA2 hik9 hkL hlast hk hj hfr
    by_cases hrm : fre < x.d.hi
    · have hne : ((x.d.hi : Int) - (fre : Int) == 0) = false := by rw [beq_eq_false_iff_ne]; omega
      go_wp2
      go_quiet (fail)
      go_wp2
      have e7 : IntKind.u64.wrap ((j : Int) + 1 + 2) = (j : Int) + 1 + 2 := by rw [IntKind.wrap_u64]; omega
      have e6 : IntKind.i64.wrap ((j : Int) + 1 + 2) = (j : Int) + 1 + 2 := by rw [IntKind.wrap_i64]; omega
      have e7b : ¬ ((j : Int) + 1 + 2 = 0) := by omega
      have e8 := lay_quo x.d.hi fre (j + 1) (by omega) (by omega)
      have e3 := Nat.div_le_self (x.d.hi - fre) (j + 1 + 2)
      obtain ⟨z, hz⟩ : ∃ z, (x.d.hi - fre) / (j + 1 + 2) = z := ⟨_, rfl⟩
      rw [hz] at e8 e3
      have e9 : ((j + 1 + 2 : Nat) : Int) = (j : Int) + 1 + 2 := by omega
      rw [e9] at e8
      have e10 : IntKind.u64.wrap ((fre : Int) + (z : Int)) = (fre : Int) + (z : Int) := by rw [IntKind.wrap_u64]; omega
      have C6 : Hid (Blk (w5.drewN nq).drew cb 109 #[.int .i64 (p : Int), .int .i64 (d : Int), .slice none 0 0, .int .u64 0, .int .u64 0]) := C5.out
      have V6 : Hid (Below w.heap.size w (w5.drewN nq).drew) := teDr (teDrN V5.out _)
      refine wp_region_K (fun _ => True) 15 (by kernel_rfl) trivial (fun hSn => ?_)
      generalize (w5.drewN nq).drew = w6 at *
      have c3 : w6.cell? ⟨cb, 3, none⟩ = some (.int .u64 0) := C6.out.cell 3
      have f3 : w6.frozen? ⟨cb, 3, none⟩ = false := C6.out.frozen 3
      refine wpAnyK_pure (i := 0) (oi := ⟨_, _, _, _, _, _⟩) (v := ?_) rfl (by kernel_rfl) (by kernel_rfl) (by kernel_rfl) rfl (fun _ _ _ h => h) (Or.inl ⟨by rfl, ?_⟩) hSn ?_
      rotate_left 1
      · intro W hSw
        go_simp
        try with_reducible rfl
      replace hSn := (KT.set (i := 0) (by decide)).2 hSn
      try simp only [Act.put, List.setIfInBounds_toArray, List.set_cons_zero, List.set_cons_succ]
      refine wpAnyK_pure (i := 1) (oi := ⟨_, _, _, _, _, _⟩) (v := ?_) rfl (by kernel_rfl) (by kernel_rfl) (by kernel_rfl) rfl (fun _ _ _ h => h) (Or.inl ⟨by rfl, ?_⟩) hSn ?_
      rotate_left 1
      · intro W hSw
        go_simp
        try with_reducible rfl
      replace hSn := (KT.set (i := 1) (by decide)).2 hSn
      try simp only [Act.put, List.setIfInBounds_toArray, List.set_cons_zero, List.set_cons_succ]
      refine wpAnyK_pure (i := 2) (oi := ⟨_, _, _, _, _, _⟩) (v := ?_) rfl (by kernel_rfl) (by kernel_rfl) (by kernel_rfl) rfl (fun _ _ _ h => h) (Or.inl ⟨by rfl, ?_⟩) hSn ?_
      rotate_left 1
      · intro W hSw
        go_simp
        try with_reducible rfl
      replace hSn := (KT.set (i := 2) (by decide)).2 hSn
      try simp only [Act.put, List.setIfInBounds_toArray, List.set_cons_zero, List.set_cons_succ]
      refine wpAnyK_pure (i := 3) (oi := ⟨_, _, _, _, _, _⟩) (v := ?_) rfl (by kernel_rfl) (by kernel_rfl) (by kernel_rfl) rfl (fun _ _ _ h => h) (Or.inl ⟨by rfl, ?_⟩) hSn ?_
      rotate_left 1
      · intro W hSw
        go_simp
        try with_reducible rfl
      replace hSn := (KT.set (i := 3) (by decide)).2 hSn
      try simp only [Act.put, List.setIfInBounds_toArray, List.set_cons_zero, List.set_cons_succ]
      refine wpAnyK_pure (i := 4) (oi := ⟨_, _, _, _, _, _⟩) (v := ?_) rfl (by kernel_rfl) (by kernel_rfl) (by kernel_rfl) rfl (fun _ _ _ h => h) (Or.inl ⟨by rfl, ?_⟩) hSn ?_
      rotate_left 1
      · intro W hSw
        go_simp
        try with_reducible rfl
      replace hSn := (KT.set (i := 4) (by decide)).2 hSn
      try simp only [Act.put, List.setIfInBounds_toArray, List.set_cons_zero, List.set_cons_succ]
      refine wpAnyK_pure (i := 5) (oi := ⟨_, _, _, _, _, _⟩) (v := ?_) rfl (by kernel_rfl) (by kernel_rfl) (by kernel_rfl) rfl (fun _ _ _ h => h) (Or.inl ⟨by rfl, ?_⟩) hSn ?_
      rotate_left 1
      · intro W hSw
        go_simp
        try with_reducible rfl
      replace hSn := (KT.set (i := 5) (by decide)).2 hSn
      try simp only [Act.put, List.setIfInBounds_toArray, List.set_cons_zero, List.set_cons_succ]
      refine wpAnyK_pure (i := 6) (oi := ⟨_, _, _, _, _, _⟩) (v := .int .i64 ((j : Int) + 1 + 2)) rfl (by kernel_rfl) (by kernel_rfl) (by kernel_rfl) rfl (fun _ _ _ h => h) (Or.inl ⟨by rfl, ?_⟩) hSn ?_
      · intro W hSw
        go_simp
        try rw [e6]
      replace hSn := (KT.set (i := 6) (by decide)).2 hSn
      try simp only [Act.put, List.setIfInBounds_toArray, List.set_cons_zero, List.set_cons_succ]
      refine wpAnyK_pure (i := 7) (oi := ⟨_, _, _, _, _, _⟩) (v := .int .u64 ((j : Int) + 1 + 2)) rfl (by kernel_rfl) (by kernel_rfl) (by kernel_rfl) rfl (fun _ _ _ h => h) (Or.inl ⟨by rfl, ?_⟩) hSn ?_
      · intro W hSw
        go_simp
        try rw [e7]
      replace hSn := (KT.set (i := 7) (by decide)).2 hSn
      try simp only [Act.put, List.setIfInBounds_toArray, List.set_cons_zero, List.set_cons_succ]
      refine wpAnyK_pure (i := 8) (oi := ⟨_, _, _, _, _, _⟩) (v := .int .u64 (z : Int)) rfl (by kernel_rfl) (by kernel_rfl) (by kernel_rfl) rfl (fun _ _ _ h => h) (Or.inl ⟨by rfl, ?_⟩) hSn ?_
      · intro W hSw
        go_simp
        try (first | rw [e8] | rw [if_neg e7b, e8])
      replace hSn := (KT.set (i := 8) (by decide)).2 hSn
      try simp only [Act.put, List.setIfInBounds_toArray, List.set_cons_zero, List.set_cons_succ]
      refine wpAnyK_pure (i := 9) (oi := ⟨_, _, _, _, _, _⟩) (v := .int .u64 ((fre : Int) + (z : Int))) rfl (by kernel_rfl) (by kernel_rfl) (by kernel_rfl) rfl (fun _ _ _ h => h) (Or.inl ⟨by rfl, ?_⟩) hSn ?_
      · intro W hSw
        go_simp
        try rw [e10]
      replace hSn := (KT.set (i := 9) (by decide)).2 hSn
      try simp only [Act.put, List.setIfInBounds_toArray, List.set_cons_zero, List.set_cons_succ]
      refine wpAnyK_pure (i := 10) (oi := ⟨_, _, _, _, _, _⟩) (v := ?_) rfl (by kernel_rfl) (by kernel_rfl) (by kernel_rfl) rfl (fun _ _ _ h => h) (Or.inl ⟨by rfl, ?_⟩) hSn ?_
      rotate_left 1
      · intro W hSw
        go_simp
        try with_reducible rfl
      replace hSn := (KT.set (i := 10) (by decide)).2 hSn
      try simp only [Act.put, List.setIfInBounds_toArray, List.set_cons_zero, List.set_cons_succ]
      refine wpAnyK_pure (i := 11) (oi := ⟨_, _, _, _, _, _⟩) (v := ?_) rfl (by kernel_rfl) (by kernel_rfl) (by kernel_rfl) rfl (fun _ _ _ h => h) (Or.inl ⟨by rfl, ?_⟩) hSn ?_
      rotate_left 1
      · intro W hSw
        go_simp
        try with_reducible rfl
      replace hSn := (KT.set (i := 11) (by decide)).2 hSn
      try simp only [Act.put, List.setIfInBounds_toArray, List.set_cons_zero, List.set_cons_succ]
      clear hSn
      refine wpAnyK_ready (rs := [12]) (by kernel_rfl) (by simp) ?_
      refine AllReadyK.cons rfl (fun K hK => ?_) AllReadyK.nil
      go_simp
      have C7 : Hid (Blk (w6.setCell ⟨cb, 3, none⟩ (.int .u64 (fre : Int))) cb 109 #[.int .i64 (p : Int), .int .i64 (d : Int), .slice none 0 0, .int .u64 (fre : Int), .int .u64 0]) := C6.out.set 3 _
      have d4 : (w6.setCell ⟨cb, 3, none⟩ (.int .u64 (fre : Int))).cell? ⟨cb, 4, none⟩ = some (.int .u64 0) := C7.out.cell 4
      have f4 : (w6.setCell ⟨cb, 3, none⟩ (.int .u64 (fre : Int))).frozen? ⟨cb, 4, none⟩ = false := C7.out.frozen 4
      refine hK.out _ _ (fun _ => trivial) (fun hSn => ?_)
      clear hK K
      try simp only [Act.put, List.setIfInBounds_toArray, List.set_cons_zero, List.set_cons_succ]
      refine wpAnyK_pure (i := 13) (oi := ⟨_, _, _, _, _, _⟩) (v := ?_) rfl (by kernel_rfl) (by kernel_rfl) (by kernel_rfl) rfl (fun _ _ _ h => h) (Or.inl ⟨by rfl, ?_⟩) hSn ?_
      rotate_left 1
      · intro W hSw
        go_simp
        try with_reducible rfl
      replace hSn := (KT.set (i := 13) (by decide)).2 hSn
      try simp only [Act.put, List.setIfInBounds_toArray, List.set_cons_zero, List.set_cons_succ]
      refine wpAnyK_pure (i := 14) (oi := ⟨_, _, _, _, _, _⟩) (v := ?_) rfl (by kernel_rfl) (by kernel_rfl) (by kernel_rfl) rfl (fun _ _ _ h => h) (Or.inl ⟨by rfl, ?_⟩) hSn ?_
      rotate_left 1
      · intro W hSw
        go_simp
        try with_reducible rfl
      replace hSn := (KT.set (i := 14) (by decide)).2 hSn
      try simp only [Act.put, List.setIfInBounds_toArray, List.set_cons_zero, List.set_cons_succ]
      clear hSn
      refine wpAnyK_ready (rs := [15]) (by kernel_rfl) (by simp) ?_
      refine AllReadyK.cons rfl (fun K hK => ?_) AllReadyK.nil
      go_simp
      skip
      refine hK.out _ _ (fun h => absurd h (by decide +kernel)) (fun hSn => ?_)
      clear hK K
      try simp only [Act.put, List.setIfInBounds_toArray, List.set_cons_zero, List.set_cons_succ]
      refine wpAnyK_done (by kernel_rfl) ?_ _
      go_wp2
      go_ret
      refine ⟨by simp [hrm], ((Keeps.of_below V6.out (· = cb)).setCell (p := ⟨cb, 3, none⟩) rfl _).setCell (p := ⟨cb, 4, none⟩) rfl _, ?_⟩
      obtain ⟨h91, h92⟩ := HL1.out hrm
      rw [h91, h92, hz]
      have e11 : ((fre + z : Nat) : Int) = (fre : Int) + (z : Int) := by omega
      show Blk _ cb _ #[_, _, _, _, .int .u64 ((fre + z : Nat) : Int)]
      rw [e11]
      exact C7.out.set 4 _
    · have hne : ((x.d.hi : Int) - (fre : Int) == 0) = true := by rw [beq_iff_eq]; omega
      go_wp2
      go_quiet (fail)
      go_wp2
      go_ret
      refine ⟨by simp [hrm], Keeps.of_below (teDrN V5.out _) _, by rw [(HL2.out hrm).1, (HL2.out hrm).2]; exact C5.out⟩
end Go.Proofs.YtbfpckomgpkjgaaGreat
