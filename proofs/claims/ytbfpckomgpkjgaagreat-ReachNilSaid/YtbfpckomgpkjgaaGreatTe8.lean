/-
  tree: Add.
-/
import Derived.Test.YtbfpckomgpkjgaaGreatTe7
namespace Go.Proofs.YtbfpckomgpkjgaaGreat
open Go.RowKit

theorem tndC_one' (x : NdM) : ∀ u ∈ tndC x, u.oneCell' = true := fun u hu => tndC_one x u hu
theorem Tryz.tinfoI : (Tryz.prog.info? 3).map (fun i => (i.zero, i.size, i.bytes)) = some (some (.int .i64 0), 1, 8) := by kernel_rfl
/-- A tree with one more node, as it stands behind Add's stores. -/
def TrM.grow (m : TrM) (p : Nat) (l : Nat × Nat) (A : Option Addr) (c : Nat) (kA : Option Addr) (kc : Nat) : TrM :=
  (m.addN A c ⟨⟨p, (ndT m.T p).dep + 1, l.1, l.2⟩, [], none, 0⟩).setN p ⟨ndT m.T p, kidsT m.T p ++ [m.L.length], kA, kc⟩
theorem set_self {T : List Nd} {p : Nat} (hp : p < T.length) : T.set p (ndT T p) = T := by
  apply List.ext_getElem (by simp)
  intro i h1 h2
  rw [List.getElem_set]
  by_cases e : p = i
  · subst e; rw [if_pos rfl, ndT_at hp]
  · rw [if_neg e]
theorem grow_T {m : TrM} {p : Nat} (hp : p < m.L.length) (l : Nat × Nat) (A : Option Addr) (c : Nat) (kA : Option Addr) (kc : Nat) : (m.grow p l A c kA kc).T = m.T ++ [⟨p, (ndT m.T p).dep + 1, l.1, l.2⟩] := by
  unfold TrM.grow
  rw [TrM.setN_T, TrM.addN_T, List.set_append_left _ _ (by rw [m.T_len]; exact hp)]
  have : (m.T).set p (ndT m.T p) = m.T := set_self (by rw [m.T_len]; exact hp)
  simp only
  rw [this]
theorem grow_len {m : TrM} (p : Nat) (l : Nat × Nat) (A : Option Addr) (c : Nat) (kA : Option Addr) (kc : Nat) : (m.grow p l A c kA kc).L.length = m.L.length + 1 := by
  unfold TrM.grow
  rw [TrM.setN_len]
  simp [TrM.addN]
theorem grow_kids {m : TrM} (hI : TrI m) {p : Nat} (hp : p < m.L.length) (l : Nat × Nat) (A : Option Addr) (c : Nat) (kA : Option Addr) (kc : Nat) (i : Nat) (h : i < (m.grow p l A c kA kc).L.length) : (m.grow p l A c kA kc).L[i].kids = kidsT (m.grow p l A c kA kc).T i := by
  rw [grow_T hp, kids_app _ _ (by rw [m.T_len]; omega), m.T_len]
  rw [grow_len] at h
  have key : ∀ (z y : NdM) (hz : z.kids = []) (hy : y.kids = kidsT m.T p ++ [m.L.length]) (h : i < ((m.L ++ [z]).set p y).length), ((m.L ++ [z]).set p y)[i].kids = kidsT m.T i ++ if p = i then [m.L.length] else [] := by
    intro z y hz hy h
    rw [List.getElem_set]
    by_cases e : p = i
    · subst e
      rw [if_pos rfl, if_pos rfl]
      exact hy
    · rw [if_neg e, if_neg e, List.append_nil]
      by_cases e2 : i < m.L.length
      · rw [List.getElem_append_left e2]; exact hI.kids i e2
      · obtain rfl : i = m.L.length := by simp at h; omega
        rw [List.getElem_append_right (Nat.le_refl _)]
        simp only [Nat.sub_self, List.getElem_cons_zero]
        rw [hz]
        symm
        rw [List.eq_nil_iff_forall_not_mem]
        intro a ha
        obtain ⟨a0, a1, a2⟩ := mem_kids.1 ha
        have := hI.ok.lt a a0 a1
        rw [m.T_len] at a1
        omega
  exact key ⟨⟨p, (ndT m.T p).dep + 1, l.1, l.2⟩, [], none, 0⟩ ⟨ndT m.T p, kidsT m.T p ++ [m.L.length], kA, kc⟩ rfl rfl (by simp; omega)
/-- What Add leaves ahead of a dealing. -/
structure TrGrow (w : World) (base : Nat) (m : TrM) (p : Nat) (m' : TrM) (w' : World) : Prop where
  ok : TrOk w' base m'
  e : ∃ A c kA kc, m' = m.grow p (layT m.T p) A c kA kc
  k : Keeps (tfoot m) w w'
  f : ∀ k, tfoot m' k → tfoot m k ∨ w.heap.size ≤ k
/-- From one tree to the next. -/
structure TrTo (w : World) (base : Nat) (m : TrM) (p : Nat) (m' : TrM) (w' : World) : Prop where
  ok : TrOk w' base m'
  i : TrI m'
  q : m'.q = m.q
  len : m'.L.length = m.L.length + 1
  par : ∀ n, n < m.L.length → (ndT m'.T n).par = (ndT m.T n).par ∧ (ndT m'.T n).dep = (ndT m.T n).dep
  new : (ndT m'.T m.L.length).par = p ∧ (ndT m'.T m.L.length).dep = (ndT m.T p).dep + 1
  k : Keeps (tfoot m) w w'
  f : ∀ k, tfoot m' k → tfoot m k ∨ w.heap.size ≤ k
theorem Keeps.chain {S S' : Nat → Prop} {w w1 w2 : World} (h : Keeps S w w1) (h' : Keeps S' w1 w2) (hS : ∀ k, k < w.heap.size → S' k → S k) : Keeps S w w2 :=
  ⟨h'.os.trans h.os, h'.tape.trans h.tape, h'.output.trans h.output, Nat.le_trans h.size h'.size, fun i hi hn => (h'.block i (Nat.lt_of_lt_of_le hi h.size) (fun e => hn (hS i hi e))).trans (h.block i hi hn)⟩
theorem grow_room {w : World} {base : Nat} {m m' : TrM} {w' : World} {p : Nat} (hI : TrI m) (hp : p < m.L.length) (hm : m.L.length + 1 ≤ 1000) (hf : freeT m.T p < (ndT m.T p).hi) (hg : TrGrow w base m p m' w') : TrTo w base m p m' w' := by
  obtain ⟨A, c, kA, kc, rfl⟩ := hg.e
  have hpT : p < m.T.length := by rw [m.T_len]; exact hp
  have hd := Nat.div_lt_self (n := (ndT m.T p).hi - freeT m.T p) (k := (kidsT m.T p).length + 2) (by omega) (by omega)
  have hl : layT m.T p = (freeT m.T p, freeT m.T p + ((ndT m.T p).hi - freeT m.T p) / ((kidsT m.T p).length + 2)) := by unfold layT; rw [if_pos hf]
  have hT := grow_T hp (layT m.T p) A c kA kc
  refine ⟨hg.ok, ⟨?_, ?_, fun i hi => grow_kids hI hp _ _ _ _ _ i hi, ?_⟩, rfl, grow_len _ _ _ _ _ _, fun n hn => ?_, ?_, hg.k, hg.f⟩
  · rw [hT]
    exact hI.ok.add hpT rfl (by rw [m.T_len]; exact hm)
  · rw [hT, hl]
    exact hI.iv.add hI.ok hpT (Nat.le_refl _) (Nat.le_add_right _ _) (by show freeT m.T p + _ < (ndT m.T p).hi; omega)
  · have := hI.dl
    rw [grow_len]
    show m.dl < _
    omega
  · rw [hT, ndT_app (by rw [m.T_len]; exact hn)]; exact ⟨rfl, rfl⟩
  · rw [hT, ← m.T_len, ndT_last]; exact ⟨rfl, rfl⟩
theorem te_addno (w : World) (base : Nat) (m : TrM) (h : TrOk w base m) (h0 : 0 < m.L.length) (n : Int) (hn : n < 0 ∨ (m.L.length : Int) ≤ n) : Calls Tryz.prog 58 #[.pointer (some ⟨m.q, 0, none⟩), .int .i64 n] w fun e w' => e = .returned (.tuple #[.int .i64 0, .int .i64 6]) ∧ w' = w := by
  have H1 := Lib.hid (te_refno w base m h h0 n hn)
  clear h hn h0
  go_enter Tryz.func58, Tryz.ntmps58
  go_wp2_with (go_at_call 67; refine H1.out.mono ?_; rintro e1 w1 ⟨rfl, hw1⟩; obtain rfl := hw1.symm)
  go_ret2
  exact ⟨rfl, rfl⟩
set_option maxRecDepth 100000 in
set_option maxHeartbeats 4000000 in
theorem te_add (w : World) (base : Nat) (m : TrM) (h : TrOk w base m) (hI : TrI m) (p : Nat) (hp : p < m.L.length) (hm : m.L.length + 1 ≤ 1000)
    (HD : ¬ freeT m.T p < (ndT m.T p).hi → ∀ w1 m1, TrGrow w base m p m1 w1 → Calls Tryz.prog 87 #[.pointer (some ⟨m.q, 0, none⟩), .int .i64 (p : Int)] w1 (fun e w2 => ∃ top : Nat, e = .returned (.int .i64 (top : Int)) ∧
      Calls Tryz.prog 86 #[.pointer (some ⟨m.q, 0, none⟩), .int .i64 (top : Int)] w2 (fun e w3 => e = .returned (.tuple #[]) ∧ ∃ m3, TrTo w base m p m3 w3))) :
    Calls Tryz.prog 58 #[.pointer (some ⟨m.q, 0, none⟩), .int .i64 (p : Int)] w fun e w' => e = .returned (.tuple #[.int .i64 (m.L.length : Int), .int .i64 0]) ∧ ∃ m', TrTo w base m p m' w' := by
  obtain ⟨g, hnA, hg, hgb, hc0, hr⟩ := nd_cells h hp
  have hcd := (nd_c hr).2.1
  have HRf := Lib.hid (te_ref w base m h p hp)
  obtain ⟨x, hx⟩ : ∃ x, m.L[p] = x := ⟨_, rfl⟩
  have hTp := m.T_at hp
  have hkx := hI.kids p hp
  rw [hx] at hcd hTp hkx
  have hkm : x.kids.length ≤ 1000 := by
    rw [hkx]
    have := (kids_nodup m.T p).length_le_of_subset (l₂ := List.range m.L.length) (fun k hk => List.mem_range.2 (by have := (mem_kids.1 hk).2.1; rwa [m.T_len] at this))
    rw [List.length_range] at this
    omega
  have hdep : x.d.dep ≤ p := by
    rw [← hTp]
    have key : ∀ n, n < m.T.length → (ndT m.T n).dep ≤ n := by
      intro n
      induction n using Nat.strongRecOn with
      | ind n ih =>
        intro hn
        by_cases h0 : n = 0
        · subst h0; rw [hI.ok.r]; exact Nat.le_refl _
        · have h1 := hI.ok.lt n (by omega) hn
          have h2 := ih _ h1 (by omega)
          have h3 := hI.ok.dep n (by omega) hn
          omega
    exact key p (by rw [m.T_len]; exact hp)
  have hbd : ∀ wq : World, (Instr.build 109 #[(0, .int .i64 (p : Int)), (1, .int .i64 ((x.d.dep : Int) + 1))]).run Tryz.prog wq = .ok (.agg #[.int .i64 (p : Int), .int .i64 ((x.d.dep : Int) + 1), .slice none 0 0, .int .u64 0, .int .u64 0]) wq := fun wq => by kernel_rfl
  have hlen : (p : Int) < (m.L.length : Int) := by omega
  have HH := Lib.hid h
  have HI := Lib.hid hI
  have HX := Lib.hid hx
  have HTp := Lib.hid hTp
  have HKx := Lib.hid hkx
  have B0 : Hid (Blk (w.alloc (.cells #[.int .i64 0, .int .i64 0, .slice none 0 0, .int .u64 0, .int .u64 0] 109)) w.heap.size 109 #[.int .i64 0, .int .i64 0, .slice none 0 0, .int .u64 0, .int .u64 0]) := heap_alloc_new w _
  have V0 : Hid (Below w.heap.size w (w.alloc (.cells #[.int .i64 0, .int .i64 0, .slice none 0 0, .int .u64 0, .int .u64 0] 109))) := nxAlloc (nxRefl w) _
  obtain ⟨i1, hi1, hy0, hy1, hy2⟩ := info_parts Tryz.tinfoN
  obtain ⟨i2, hi2, hz0, hz1, hz2⟩ := info_parts Tryz.tinfoI
  clear h hr hI hTp hkx hgb hx
  go_enter Tryz.func58, Tryz.ntmps58
  go_wp2_with (first
    | (go_at_call 67; refine HRf.out.mono ?_; rintro e1 w1 ⟨rfl, hw1⟩; obtain rfl := hw1.symm)
    | ((with_reducible show wpList _ _ _ (⟨none, .store 109 _ _, _, _, _, _⟩ :: _) _ _); refine wpList_store_all rfl 109 (.tmp 8) (.tmp 31) rfl w.heap.size 109 _ #[.int .i64 (p : Int), .int .i64 ((x.d.dep : Int) + 1), .slice none 0 0, .int .u64 0, .int .u64 0] rfl rfl B0.out rfl Tryz.tsizeN (by intro u hu; simp at hu; rcases hu with rfl | rfl | rfl | rfl <;> rfl) ?_; intro w5 h5 h6 h7; have B5 := Lib.hid h5; have V5 : Hid (Below w.heap.size w w5) := V0.out.trans (h6.below V0.out.size (fun j hj e => by omega)); clear h5 h6 h7)
    | (go_at_call 85; refine (te_lay w5 base m (HH.out.later V5.out) HI.out p (x.d.dep + 1) w.heap.size hp B5.out).mono ?_; rintro e6 w6 ⟨rfl, hk6, hb6⟩; have K6 := Lib.hid hk6; have B6 := Lib.hid hb6; clear hk6 hb6))
  have hdn : ((x.d.dep : Int) + 1) = ((x.d.dep + 1 : Nat) : Int) := by omega
  obtain ⟨y, hy⟩ : ∃ y : NdM, (⟨⟨p, x.d.dep + 1, (layT m.T p).1, (layT m.T p).2⟩, [], none, 0⟩ : NdM) = y := ⟨_, rfl⟩
  have HB6 : Hid (Blk w6 w.heap.size 109 (tndC y).toArray) := by rw [← hy]; exact B6.out
  have Hy := Lib.hid hy
  clear hdn hy
  have hcn5 : ¬ tfoot m w.heap.size := fun e => by have := (HH.out.lt e).2; omega
  have HO6 : Hid (TrOk w6 base m) := (HH.out.later V5.out).keeps K6.out (fun k hk e => hcn5 (by rw [← e]; exact hk))
  have V6 : Hid (Below w.heap.size w w6) := V5.out.trans (K6.out.below V5.out.size (fun k hk e => by omega))
  have hsz6 : Hid (w.heap.size ≤ w6.drew.heap.size) := V6.out.size
  obtain ⟨cb, hcb⟩ : ∃ n, w.heap.size = n := ⟨_, rfl⟩
  rw [hcb] at HB6 hcn5
  rw [hcb]
  have HCb : Hid (Blk w6.drew cb 109 (tndC y).toArray) := HB6.out
  have HOk : Hid (TrOk w6.drew base m) := HO6.out.later (teDr (nxRefl _))
  have HQ : Hid (w6.drew.cell? ⟨m.q, 0, none⟩ = some (.slice m.nA m.L.length m.nc)) := HOk.out.b.cell 0
  have HR : Hid (w6.drew.rangeAt cb 0 (tndC y)) := fun j v hv => by rw [Nat.zero_add, HCb.out.cell j]; simpa using hv
  have HCn : Hid (¬ (m.nA.map Addr.block = some cb)) := fun e => hcn5 (.inr (.inl e))
  have Vd : Hid (Below w.heap.size w w6.drew) := teDr V6.out
  have hmL : m.L.length ≤ 1000 := by omega
  clear B6 HB6 HO6 V6 K6 B5 V5 B0 V0 hcn5 hc0 hcd hnA hg HRf hbd
  refine wp_region_K (fun W => W.cell? ⟨m.q, 0, none⟩ = some (.slice m.nA m.L.length m.nc) ∧ W.rangeAt cb 0 (tndC y)) 10 (by kernel_rfl) ⟨HQ.out, HR.out⟩ (fun hSn => ?_)
  generalize w6.drew = wd at *
  refine wpAnyK_pure (i := 0) (oi := ⟨_, _, _, _, _, _⟩) (v := ?_) rfl (by kernel_rfl) (by kernel_rfl) (by kernel_rfl) rfl (fun _ _ _ h => h) (Or.inl ⟨by rfl, ?_⟩) hSn ?_
  rotate_left 1
  · intro W hSw
    go_simp
    try with_reducible rfl
  replace hSn := (KT.set (i := 0) (by decide)).2 hSn
  try simp only [Act.put, List.setIfInBounds_toArray, List.set_cons_zero, List.set_cons_succ]
  refine wpAnyK_pure (i := 1) (oi := ⟨_, _, _, _, _, _⟩) (v := ?_) rfl (by kernel_rfl) (by kernel_rfl) (by kernel_rfl) rfl (fun _ _ _ h => h) (Or.inl ⟨by rfl, ?_⟩) hSn ?_
  rotate_left 1
  · intro W hSw
    go_simp
    try with_reducible rfl
  replace hSn := (KT.set (i := 1) (by decide)).2 hSn
  try simp only [Act.put, List.setIfInBounds_toArray, List.set_cons_zero, List.set_cons_succ]
  refine wpAnyK_pure (i := 2) (oi := ⟨_, _, _, _, _, _⟩) (v := ?_) rfl (by kernel_rfl) (by kernel_rfl) (by kernel_rfl) rfl (fun _ _ _ h => h) (Or.inl ⟨by rfl, ?_⟩) hSn ?_
  rotate_left 1
  · intro W hSw
    go_simp
    try with_reducible rfl
  replace hSn := (KT.set (i := 2) (by decide)).2 hSn
  try simp only [Act.put, List.setIfInBounds_toArray, List.set_cons_zero, List.set_cons_succ]
  refine wpAnyK_pure (i := 3) (oi := ⟨_, _, _, _, _, _⟩) (v := ?_) rfl (by kernel_rfl) (by kernel_rfl) (by kernel_rfl) rfl (fun _ _ _ h => h) (Or.inl ⟨by rfl, ?_⟩) hSn ?_
  rotate_left 1
  · intro W hSw
    go_simp
    try with_reducible rfl
  replace hSn := (KT.set (i := 3) (by decide)).2 hSn
  try simp only [Act.put, List.setIfInBounds_toArray, List.set_cons_zero, List.set_cons_succ]
  refine wpAnyK_chain (i := 4) [10] (oi := ⟨_, _, _, _, _, _⟩) (v := ?_) rfl (by kernel_rfl) (by kernel_rfl) (by kernel_rfl) rfl (by kernel_rfl) (by kernel_rfl) (by kernel_rfl) (fun _ _ _ h => h) (Or.inl ⟨by rfl, ?_⟩) hSn ?_
  rotate_left 1
  · intro W hSw
    try dsimp only at hSw
    obtain ⟨hs1, hs2⟩ := hSw
    go_simp
    try with_reducible rfl
  replace hSn := (KT.set (i := 4) (by decide)).2 hSn
  try simp only [Act.put, List.setIfInBounds_toArray, List.set_cons_zero, List.set_cons_succ]
  refine wpAnyK_chain (i := 5) [10] (oi := ⟨_, _, _, _, _, _⟩) (v := .agg (tndC y).toArray) rfl (by kernel_rfl) (by kernel_rfl) (by kernel_rfl) rfl (by kernel_rfl) (by kernel_rfl) (by kernel_rfl) (fun _ _ _ h => h) (yieldsIf_load_mid (by rfl) 109 (.tmp 8) rfl cb 0 rfl (tndC y) _ (fun W h => h.2) Tryz.underlying109 rfl Tryz.tsizeN) hSn ?_
  replace hSn := (KT.set (i := 5) (by decide)).2 hSn
  try simp only [Act.put, List.setIfInBounds_toArray, List.set_cons_zero, List.set_cons_succ]
  clear hSn
  refine wpAnyK_ready (rs := [6]) (by kernel_rfl) (by simp) ?_
  refine AllReadyK.cons rfl (fun K hK => ?_) AllReadyK.nil
  refine step_build1 (o := ⟨some 40, _, _, _, _, _⟩) rfl 110 109 (.tmp 39) rfl (tndC y) _ 5 56 Tryz.underlying110 Tryz.tinfoN (by decide) (by decide) rfl rfl ?_
  have DA : Hid (Below wd.heap.size wd (wd.alloc (.cells (tndC y).toArray 109))) := nxAlloc (nxRefl wd) _
  refine hK.out _ _ (fun _ => ⟨(DA.out.cell (p := ⟨m.q, 0, none⟩) HOk.out.b.lt).trans HQ.out, rngT HR.out DA.out HCb.out.lt⟩) (fun hSn => ?_)
  clear hK K
  try simp only [Act.put, List.setIfInBounds_toArray, List.set_cons_zero, List.set_cons_succ]
  clear hSn
  refine wpAnyK_ready (rs := [7]) (by kernel_rfl) (by simp) ?_
  refine AllReadyK.cons rfl (fun K hK => ?_) AllReadyK.nil
  refine step_append_seesV (o := ⟨some 41, _, _, _, _, _⟩) rfl (.tmp 38) (.tmp 40) 110 rfl base 109 i1 _ 5 56 Tryz.underlying110 hi1 hy0 hy1 hy2 rfl (by decide) (.slice m.nA m.L.length m.nc) m.L.length (tnsC m.L) rfl (own_below HOk.out.nds DA.out (fun g hg => (own_lt HOk.out.nds g hg).2)) _ (some ⟨wd.heap.size, 0, none⟩) 1 1 (tndC y) rfl rfl (SeesV.blk (heap_alloc_new wd _)) (tndC_one' y) (by omega) (by omega) (by have := HOk.out.qb; have := HOk.out.b.lt; simp; omega) ?_
  intro v7 w7 ho7 hg7 ha7
  obtain ⟨A7, c7, rfl⟩ := own_form ho7
  have O7 := Lib.hid ho7
  have K7 : Hid (Keeps (fun k => m.nA.map Addr.block = some k) wd w7) := Lib.hid ((Keeps.of_below DA.out _).grown hg7 (fun k e => by rw [town_map] at e; exact e))
  have N7 : Hid (∀ k, A7.map Addr.block = some k → m.nA.map Addr.block = some k ∨ wd.heap.size ≤ k) := (by rw [town_map, town_map] at ha7; intro k e; rcases ha7 with e2 | e2; exact (.inl (e2 ▸ e)); exact (.inr (by rw [e] at e2; injection e2 with e2; rw [e2]; exact DA.out.size)))
  have B7 : Hid (Blk w7 m.q 112 #[.slice m.nA m.L.length m.nc, .int .i64 (m.dl : Int)]) := HOk.out.b.keeps K7.out (town_tag HOk.out.nds HOk.out.b (by decide))
  have c7q : w7.cell? ⟨m.q, 0, none⟩ = some (.slice m.nA m.L.length m.nc) := B7.out.cell 0
  have f7q : w7.frozen? ⟨m.q, 0, none⟩ = false := B7.out.frozen 0
  have R7 : Hid (w7.rangeAt cb 0 (tndC y)) := (fun j v hv => (K7.out.cell (p := ⟨cb, 0 + j, none⟩) HCb.out.lt HCn.out).trans (HR.out j v hv))
  clear ho7 hg7 ha7
  refine hK.out _ _ (fun _ => ⟨B7.out.cell 0, R7.out⟩) (fun hSn => ?_)
  clear hK K
  try simp only [Act.put, List.setIfInBounds_toArray, List.set_cons_zero, List.set_cons_succ]
  refine wpAnyK_pure (i := 8) (oi := ⟨_, _, _, _, _, _⟩) (v := ?_) rfl (by kernel_rfl) (by kernel_rfl) (by kernel_rfl) rfl (fun _ _ _ h => h) (Or.inl ⟨by rfl, ?_⟩) hSn ?_
  rotate_left 1
  · intro W hSw
    go_simp
    try with_reducible rfl
  replace hSn := (KT.set (i := 8) (by decide)).2 hSn
  try simp only [Act.put, List.setIfInBounds_toArray, List.set_cons_zero, List.set_cons_succ]
  refine wpAnyK_pure (i := 9) (oi := ⟨_, _, _, _, _, _⟩) (v := ?_) rfl (by kernel_rfl) (by kernel_rfl) (by kernel_rfl) rfl (fun _ _ _ h => h) (Or.inl ⟨by rfl, ?_⟩) hSn ?_
  rotate_left 1
  · intro W hSw
    go_simp
    try with_reducible rfl
  replace hSn := (KT.set (i := 9) (by decide)).2 hSn
  try simp only [Act.put, List.setIfInBounds_toArray, List.set_cons_zero, List.set_cons_succ]
  clear hSn
  refine wpAnyK_ready (rs := [10]) (by kernel_rfl) (by simp) ?_
  refine AllReadyK.cons rfl (fun K hK => ?_) AllReadyK.nil
  go_simp
  skip
  refine hK.out _ _ (fun h => absurd h (by decide +kernel)) (fun hSn => ?_)
  clear hK K
  try simp only [Act.put, List.setIfInBounds_toArray, List.set_cons_zero, List.set_cons_succ]
  refine wpAnyK_done (by kernel_rfl) ?_ _

  clear hSn
  have O7b : Hid (w7.ownsRow base 109 5 (.slice A7 (m.L.length + 1) c7) (m.L.length + 1) (tnsC (m.L ++ [y]))) := by
    have e1 : tnsC [y] = tndC y := by simp [tnsC]
    rw [tnsC_app, e1]; exact O7.out
  have hyk : y.kids = [] ∧ y.kA = none ∧ y.kc = 0 ∧ y.d = ⟨p, x.d.dep + 1, (layT m.T p).1, (layT m.T p).2⟩ := by rw [← Hy.out]; exact ⟨rfl, rfl, rfl, rfl⟩
  obtain ⟨hO1, hK1, hF1⟩ := HOk.out.addN (x := y) K7.out O7b.out N7.out hyk.1 hyk.2.1 hyk.2.2.1
  have HO1' := Lib.hid hO1
  have HK1' := Lib.hid hK1
  have HF1' := Lib.hid hF1
  clear hO1 hK1 hF1
  obtain ⟨wz, hwz⟩ : ∃ W, w7.setCell ⟨m.q, 0, none⟩ (.slice A7 (m.L.length + 1) c7) = W := ⟨_, rfl⟩
  rw [hwz] at HO1' HK1'
  rw [hwz]
  have HO1 : Hid (TrOk wz.drew base (m.addN A7 c7 y)) := HO1'.out.later (teDr (nxRefl _))
  have hp1 : p < (m.addN A7 c7 y).L.length := by show p < (m.L ++ [y]).length; simp; omega
  have hxp : (m.addN A7 c7 y).L[p] = x := by
    have : (m.L ++ [y])[p]'(by simp; omega) = m.L[p] := List.getElem_append_left hp
    exact this.trans HX.out
  obtain ⟨g1, hnA1, hg1, hgb1, hq1, hr1⟩ := nd_cells HO1.out hp1
  rw [hxp] at hr1
  have HG1 := Lib.hid hg1
  have HA1 : Hid (A7 = some ⟨g1, 0, none⟩) := hnA1
  have HQ1 : Hid (wz.drew.cell? ⟨m.q, 0, none⟩ = some (.slice (some ⟨g1, 0, none⟩) (m.L.length + 1) c7)) := by
    have e1 : (m.addN A7 c7 y).L.length = m.L.length + 1 := by simp [TrM.addN]
    rw [e1] at hq1
    exact hq1
  have HK1 : Hid (wz.drew.cell? ⟨g1, p * 5 + 2, none⟩ = some (.slice x.kA x.kids.length x.kc)) := (nd_c hr1).2.2.1
  have HKid : Hid (wz.drew.ownsRow base 3 1 (.slice x.kA x.kids.length x.kc) x.kids.length (tiC x.kids)) := by
    have := HO1.out.kid _ (List.getElem_mem hp1)
    rw [hxp] at this
    exact this
  obtain ⟨_, cur1, hB1⟩ := town_blk HO1.out.nds (k := g1) (by rw [hnA1]; rfl)
  have HB1 := Lib.hid hB1
  have HNk : Hid (¬ (x.kA.map Addr.block = some g1)) := town_tag HKid.out hB1 (by decide)
  have hlen1 : (p : Int) < (m.L.length : Int) + 1 := by omega
  have hsz1 : Hid (w.heap.size ≤ wz.heap.size) := Nat.le_trans (by rw [hcb] at hsz6 ⊢; exact hsz6.out) HK1'.out.size
  clear hB1 hr1 hq1 hgb1 hg1 hnA1 hwz O7 O7b
  go_wp2
  refine wp_region_K (fun W => W.cell? ⟨m.q, 0, none⟩ = some (.slice (some ⟨g1, 0, none⟩) (m.L.length + 1) c7) ∧ W.cell? ⟨g1, p * 5 + 2, none⟩ = some (.slice x.kA x.kids.length x.kc)) 18 (by kernel_rfl) ⟨HQ1.out, HK1.out⟩ (fun hSn => ?_)
  have HKd : Hid (Keeps (tfoot m) wd wz.drew) := HK1'.out.drew
  have hsz9 : Hid (w.heap.size ≤ wz.drew.heap.size) := hsz1.out
  generalize wz.drew = we at *
  refine wpAnyK_pure (i := 0) (oi := ⟨_, _, _, _, _, _⟩) (v := ?_) rfl (by kernel_rfl) (by kernel_rfl) (by kernel_rfl) rfl (fun _ _ _ h => h) (Or.inl ⟨by rfl, ?_⟩) hSn ?_
  rotate_left 1
  · intro W hSw
    go_simp
    try with_reducible rfl
  replace hSn := (KT.set (i := 0) (by decide)).2 hSn
  try simp only [Act.put, List.setIfInBounds_toArray, List.set_cons_zero, List.set_cons_succ]
  refine wpAnyK_pure (i := 1) (oi := ⟨_, _, _, _, _, _⟩) (v := ?_) rfl (by kernel_rfl) (by kernel_rfl) (by kernel_rfl) rfl (fun _ _ _ h => h) (Or.inl ⟨by rfl, ?_⟩) hSn ?_
  rotate_left 1
  · intro W hSw
    go_simp
    try with_reducible rfl
  replace hSn := (KT.set (i := 1) (by decide)).2 hSn
  try simp only [Act.put, List.setIfInBounds_toArray, List.set_cons_zero, List.set_cons_succ]
  refine wpAnyK_pure (i := 2) (oi := ⟨_, _, _, _, _, _⟩) (v := ?_) rfl (by kernel_rfl) (by kernel_rfl) (by kernel_rfl) rfl (fun _ _ _ h => h) (Or.inl ⟨by rfl, ?_⟩) hSn ?_
  rotate_left 1
  · intro W hSw
    go_simp
    try with_reducible rfl
  replace hSn := (KT.set (i := 2) (by decide)).2 hSn
  try simp only [Act.put, List.setIfInBounds_toArray, List.set_cons_zero, List.set_cons_succ]
  refine wpAnyK_chain (i := 3) [18] (oi := ⟨_, _, _, _, _, _⟩) (v := ?_) rfl (by kernel_rfl) (by kernel_rfl) (by kernel_rfl) rfl (by kernel_rfl) (by kernel_rfl) (by kernel_rfl) (fun _ _ _ h => h) (Or.inl ⟨by rfl, ?_⟩) hSn ?_
  rotate_left 1
  · intro W hSw
    try dsimp only at hSw
    obtain ⟨hs1, hs2⟩ := hSw
    go_simp
    try with_reducible rfl
  replace hSn := (KT.set (i := 3) (by decide)).2 hSn
  try simp only [Act.put, List.setIfInBounds_toArray, List.set_cons_zero, List.set_cons_succ]
  refine wpAnyK_pure (i := 4) (oi := ⟨_, _, _, _, _, _⟩) (v := ?_) rfl (by kernel_rfl) (by kernel_rfl) (by kernel_rfl) rfl (fun _ _ _ h => h) (Or.inl ⟨by rfl, ?_⟩) hSn ?_
  rotate_left 1
  · intro W hSw
    go_simp
    try with_reducible rfl
  replace hSn := (KT.set (i := 4) (by decide)).2 hSn
  try simp only [Act.put, List.setIfInBounds_toArray, List.set_cons_zero, List.set_cons_succ]
  refine wpAnyK_pure (i := 5) (oi := ⟨_, _, _, _, _, _⟩) (v := ?_) rfl (by kernel_rfl) (by kernel_rfl) (by kernel_rfl) rfl (fun _ _ _ h => h) (Or.inl ⟨by rfl, ?_⟩) hSn ?_
  rotate_left 1
  · intro W hSw
    go_simp
    try with_reducible rfl
  replace hSn := (KT.set (i := 5) (by decide)).2 hSn
  try simp only [Act.put, List.setIfInBounds_toArray, List.set_cons_zero, List.set_cons_succ]
  refine wpAnyK_pure (i := 6) (oi := ⟨_, _, _, _, _, _⟩) (v := ?_) rfl (by kernel_rfl) (by kernel_rfl) (by kernel_rfl) rfl (fun _ _ _ h => h) (Or.inl ⟨by rfl, ?_⟩) hSn ?_
  rotate_left 1
  · intro W hSw
    go_simp
    try with_reducible rfl
  replace hSn := (KT.set (i := 6) (by decide)).2 hSn
  try simp only [Act.put, List.setIfInBounds_toArray, List.set_cons_zero, List.set_cons_succ]
  refine wpAnyK_pure (i := 7) (oi := ⟨_, _, _, _, _, _⟩) (v := ?_) rfl (by kernel_rfl) (by kernel_rfl) (by kernel_rfl) rfl (fun _ _ _ h => h) (Or.inl ⟨by rfl, ?_⟩) hSn ?_
  rotate_left 1
  · intro W hSw
    go_simp
    try with_reducible rfl
  replace hSn := (KT.set (i := 7) (by decide)).2 hSn
  try simp only [Act.put, List.setIfInBounds_toArray, List.set_cons_zero, List.set_cons_succ]
  refine wpAnyK_chain (i := 8) [18] (oi := ⟨_, _, _, _, _, _⟩) (v := ?_) rfl (by kernel_rfl) (by kernel_rfl) (by kernel_rfl) rfl (by kernel_rfl) (by kernel_rfl) (by kernel_rfl) (fun _ _ _ h => h) (Or.inl ⟨by rfl, ?_⟩) hSn ?_
  rotate_left 1
  · intro W hSw
    try dsimp only at hSw
    obtain ⟨hs1, hs2⟩ := hSw
    go_simp
    try with_reducible rfl
  replace hSn := (KT.set (i := 8) (by decide)).2 hSn
  try simp only [Act.put, List.setIfInBounds_toArray, List.set_cons_zero, List.set_cons_succ]
  refine wpAnyK_pure (i := 9) (oi := ⟨_, _, _, _, _, _⟩) (v := ?_) rfl (by kernel_rfl) (by kernel_rfl) (by kernel_rfl) rfl (fun _ _ _ h => h) (Or.inl ⟨by rfl, ?_⟩) hSn ?_
  rotate_left 1
  · intro W hSw
    go_simp
    try with_reducible rfl
  replace hSn := (KT.set (i := 9) (by decide)).2 hSn
  try simp only [Act.put, List.setIfInBounds_toArray, List.set_cons_zero, List.set_cons_succ]
  refine wpAnyK_pure (i := 10) (oi := ⟨_, _, _, _, _, _⟩) (v := ?_) rfl (by kernel_rfl) (by kernel_rfl) (by kernel_rfl) rfl (fun _ _ _ h => h) (Or.inl ⟨by rfl, ?_⟩) hSn ?_
  rotate_left 1
  · intro W hSw
    go_simp
    try with_reducible rfl
  replace hSn := (KT.set (i := 10) (by decide)).2 hSn
  try simp only [Act.put, List.setIfInBounds_toArray, List.set_cons_zero, List.set_cons_succ]
  refine wpAnyK_pure (i := 11) (oi := ⟨_, _, _, _, _, _⟩) (v := ?_) rfl (by kernel_rfl) (by kernel_rfl) (by kernel_rfl) rfl (fun _ _ _ h => h) (Or.inl ⟨by rfl, ?_⟩) hSn ?_
  rotate_left 1
  · intro W hSw
    go_simp
    try with_reducible rfl
  replace hSn := (KT.set (i := 11) (by decide)).2 hSn
  try simp only [Act.put, List.setIfInBounds_toArray, List.set_cons_zero, List.set_cons_succ]
  refine wpAnyK_chain (i := 12) [18] (oi := ⟨_, _, _, _, _, _⟩) (v := ?_) rfl (by kernel_rfl) (by kernel_rfl) (by kernel_rfl) rfl (by kernel_rfl) (by kernel_rfl) (by kernel_rfl) (fun _ _ _ h => h) (Or.inl ⟨by rfl, ?_⟩) hSn ?_
  rotate_left 1
  · intro W hSw
    try dsimp only at hSw
    obtain ⟨hs1, hs2⟩ := hSw
    go_simp
    try with_reducible rfl
  replace hSn := (KT.set (i := 12) (by decide)).2 hSn
  try simp only [Act.put, List.setIfInBounds_toArray, List.set_cons_zero, List.set_cons_succ]
  refine wpAnyK_pure (i := 13) (oi := ⟨_, _, _, _, _, _⟩) (v := ?_) rfl (by kernel_rfl) (by kernel_rfl) (by kernel_rfl) rfl (fun _ _ _ h => h) (Or.inl ⟨by rfl, ?_⟩) hSn ?_
  rotate_left 1
  · intro W hSw
    go_simp
    try with_reducible rfl
  replace hSn := (KT.set (i := 13) (by decide)).2 hSn
  try simp only [Act.put, List.setIfInBounds_toArray, List.set_cons_zero, List.set_cons_succ]
  clear hSn
  refine wpAnyK_ready (rs := [14]) (by kernel_rfl) (by simp) ?_
  refine AllReadyK.cons rfl (fun K hK => ?_) AllReadyK.nil
  go_simp
  skip
  have DB : Hid (Below we.heap.size we (we.alloc (.cells #[.int .i64 (m.L.length : Int)] 3))) := nxAlloc (nxRefl we) _
  refine hK.out _ _ (fun _ => ⟨(DB.out.cell (p := ⟨m.q, 0, none⟩) HO1.out.b.lt).trans HQ1.out, (DB.out.cell (p := ⟨g1, p * 5 + 2, none⟩) HG1.out).trans HK1.out⟩) (fun hSn => ?_)
  clear hK K
  try simp only [Act.put, List.setIfInBounds_toArray, List.set_cons_zero, List.set_cons_succ]
  clear hSn
  refine wpAnyK_ready (rs := [15]) (by kernel_rfl) (by simp) ?_
  refine AllReadyK.cons rfl (fun K hK => ?_) AllReadyK.nil
  refine step_append_seesV (o := ⟨some 59, _, _, _, _, _⟩) rfl (.tmp 56) (.tmp 58) 80 rfl base 3 i2 _ 1 8 Tryz.underlying80 hi2 hz0 hz1 hz2 rfl (by decide) (.slice x.kA x.kids.length x.kc) x.kids.length (tiC x.kids) rfl (own_below HKid.out DB.out (fun g hg => (own_lt HKid.out g hg).2)) _ (some ⟨we.heap.size, 0, none⟩) 1 1 [.int .i64 (m.L.length : Int)] rfl rfl (SeesV.blk (heap_alloc_new we _)) (by simp [Value.oneCell']) (by omega) (by omega) (by have := HO1.out.qb; have := HO1.out.b.lt; simp; omega) ?_
  intro v9 w9 ho9 hg9 ha9
  obtain ⟨A9, c9, rfl⟩ := own_form ho9
  have O9 := Lib.hid ho9
  have K9 : Hid (Keeps (fun k => x.kA.map Addr.block = some k) we w9) := Lib.hid ((Keeps.of_below DB.out _).grown hg9 (fun k e => by rw [town_map] at e; exact e))
  have N9 : Hid (∀ k, A9.map Addr.block = some k → x.kA.map Addr.block = some k ∨ we.heap.size ≤ k) := (by rw [town_map, town_map] at ha9; intro k e; rcases ha9 with e2 | e2; exact (.inl (e2 ▸ e)); exact (.inr (by rw [e] at e2; injection e2 with e2; rw [e2]; exact DB.out.size)))
  have hnk : ¬ (x.kA.map Addr.block = some g1) := HNk.out
  have c9q : w9.cell? ⟨m.q, 0, none⟩ = some (.slice (some ⟨g1, 0, none⟩) (m.L.length + 1) c7) := (K9.out.cell (p := ⟨m.q, 0, none⟩) HO1.out.b.lt (town_tag HKid.out HO1.out.b (by decide))).trans HQ1.out
  have c9k : w9.cell? ⟨g1, p * 5 + 2, none⟩ = some (.slice x.kA x.kids.length x.kc) := (K9.out.cell (p := ⟨g1, p * 5 + 2, none⟩) HG1.out hnk).trans HK1.out
  have f9k : w9.frozen? ⟨g1, p * 5 + 2, none⟩ = false := (HB1.out.keeps K9.out hnk).frozen _
  clear ho9 hg9 ha9
  refine hK.out _ _ (fun _ => ⟨c9q, c9k⟩) (fun hSn => ?_)
  clear hK K
  try simp only [Act.put, List.setIfInBounds_toArray, List.set_cons_zero, List.set_cons_succ]
  refine wpAnyK_pure (i := 16) (oi := ⟨_, _, _, _, _, _⟩) (v := ?_) rfl (by kernel_rfl) (by kernel_rfl) (by kernel_rfl) rfl (fun _ _ _ h => h) (Or.inl ⟨by rfl, ?_⟩) hSn ?_
  rotate_left 1
  · intro W hSw
    go_simp
    try with_reducible rfl
  replace hSn := (KT.set (i := 16) (by decide)).2 hSn
  try simp only [Act.put, List.setIfInBounds_toArray, List.set_cons_zero, List.set_cons_succ]
  refine wpAnyK_pure (i := 17) (oi := ⟨_, _, _, _, _, _⟩) (v := ?_) rfl (by kernel_rfl) (by kernel_rfl) (by kernel_rfl) rfl (fun _ _ _ h => h) (Or.inl ⟨by rfl, ?_⟩) hSn ?_
  rotate_left 1
  · intro W hSw
    go_simp
    try with_reducible rfl
  replace hSn := (KT.set (i := 17) (by decide)).2 hSn
  try simp only [Act.put, List.setIfInBounds_toArray, List.set_cons_zero, List.set_cons_succ]
  clear hSn
  refine wpAnyK_ready (rs := [18]) (by kernel_rfl) (by simp) ?_
  refine AllReadyK.cons rfl (fun K hK => ?_) AllReadyK.nil
  go_simp
  skip
  refine hK.out _ _ (fun h => absurd h (by decide +kernel)) (fun hSn => ?_)
  clear hK K
  try simp only [Act.put, List.setIfInBounds_toArray, List.set_cons_zero, List.set_cons_succ]
  refine wpAnyK_done (by kernel_rfl) ?_ _

  clear hSn
  have O9b : Hid (w9.ownsRow base 3 1 (.slice A9 (x.kids ++ [m.L.length]).length c9) (x.kids ++ [m.L.length]).length (tiC (x.kids ++ [m.L.length]))) := by
    have e1 : tiC (x.kids ++ [m.L.length]) = tiC x.kids ++ [.int .i64 (m.L.length : Int)] := by simp [tiC]
    rw [e1, List.length_append]; exact O9.out
  obtain ⟨hO2, hK2, hF2⟩ := HO1.out.setKid hp1 (ks := x.kids ++ [m.L.length]) (by rw [hxp]; exact K9.out) O9b.out (by rw [hxp]; exact N9.out) HA1.out
  have e2 : (x.kids ++ [m.L.length]).length = x.kids.length + 1 := by simp
  rw [e2] at hO2 hK2
  have HG : TrGrow w base m p _ _ := ⟨hO2, ⟨A7, c7, A9, c9, by
    unfold TrM.grow
    rw [hxp, HTp.out, ← HKx.out, ← Hy.out]⟩, (((Keeps.of_below Vd.out (tfoot m)).trans HKd.out).chain hK2 (fun k hk hf => by
      rcases HF1'.out k hf with h9 | h9
      · exact h9
      · have := hsz6.out; omega)), fun k hf => by
      rcases hF2 k hf with h9 | h9
      · rcases HF1'.out k h9 with h8 | h8
        · exact .inl h8
        · right; have := hsz6.out; omega
      · right; have := hsz9.out; omega⟩
  have HGr := Lib.hid HG
  clear HG hO2 hK2 hF2 e2
  by_cases hfr : freeT m.T p < (ndT m.T p).hi
  · have hdc : decide (freeT m.T p < (ndT m.T p).hi) = true := decide_eq_true hfr
    rw [hdc]
    go_wp2
    go_ret2
    exact ⟨rfl, _, grow_room HI.out hp hm hfr HGr.out⟩
  · have hdc : decide (freeT m.T p < (ndT m.T p).hi) = false := decide_eq_false hfr
    rw [hdc]
    have HR1 := Lib.hid (HD hfr _ _ HGr.out)
    clear HD
    go_wp2_with (first
      | (go_at_call 87; refine HR1.out.mono ?_; rintro e1 wr ⟨top, rfl, hcd⟩; have HCd := Lib.hid hcd; clear hcd)
      | (go_at_call 86; refine HCd.out.mono ?_; rintro e2 ws ⟨rfl, m3, ha3⟩; have HA3 := Lib.hid ha3; clear ha3))
    go_ret2
    exact ⟨rfl, m3, HA3.out⟩
end Go.Proofs.YtbfpckomgpkjgaaGreat
