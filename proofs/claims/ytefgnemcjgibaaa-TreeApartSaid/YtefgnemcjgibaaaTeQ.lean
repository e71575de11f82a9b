/-
  tree: Copy.
-/
import Derived.Test.YtefgnemcjgibaaaTeO
namespace Go.Proofs.Ytefgnemcjgibaaa
open Go.RowKit

theorem tsC_one (L : List NdM) : ∀ u ∈ tnsC L, u.oneCell' = true := by
  intro u hu
  obtain ⟨l, hl, hu⟩ := List.mem_flatten.1 hu
  obtain ⟨x, _, rfl⟩ := List.mem_map.1 hl
  exact tndC_one' x u hu
theorem town_less {w : World} {b b' size n : Nat} {e : TypeId} {v : Value} {xs : List Value} (h : w.ownsRow b' e size v n xs) (hb : b ≤ b') : w.ownsRow b e size v n xs := by
  refine ⟨h.1, ?_⟩
  rcases h.2 with h0 | ⟨g, cap, cur, hv, hg, r⟩
  · exact .inl h0
  · exact .inr ⟨g, cap, cur, hv, Nat.le_trans hb hg, r⟩
set_option maxHeartbeats 1000000 in
set_option maxRecDepth 100000 in
theorem te_cloneN (w : World) (A : Option Addr) (L : List NdM) (c : Nat) (hS : SeesV w w.heap.size A (tnsC L)) (h0 : 0 < L.length) (hmax : L.length ≤ 100000) :
    Calls Try.prog 37 #[.slice A L.length c] w fun e w' => ∃ A' c', e = .returned (.slice A' L.length c') ∧ w'.ownsRow w.heap.size 54 5 (.slice A' L.length c') L.length (tnsC L) ∧ Below w.heap.size w w' := by
  rcases A with _ | ad
  · exfalso
    have h1 : tnsC L = [] := by
      rcases hS with h | ⟨b, off, h, _⟩
      · exact h
      · cases h
    have := tnsC_len L
    rw [h1] at this
    simp at this
    omega
  · have hO : Hid ((w.alloc (.cells #[] 54)).ownsRow w.heap.size 54 5 (.slice (some ⟨w.heap.size, 0, none⟩) 0 0) 0 []) := own_made (cs := []) (heap_alloc_new w _) (Nat.le_refl _) (Nat.le_refl _) (by unfold maxLen; omega) rfl
    have HS : Hid (SeesV (w.alloc (.cells #[] 54)) (w.alloc (.cells #[] 54)).heap.size (some ad) (tnsC L)) := (hS.alloc _).more (by simp)
    have HL : Hid ((tnsC L).length = L.length * 5) := tnsC_len L
    have HM := Lib.hid hmax
    obtain ⟨i0, hi0, hz0, hz1, hz2⟩ := info_parts Try.tinfoN
    have hq : (binOp .eql 47 (.slice (some ad) L.length c) (.slice none 0 0)).run Try.prog w = .ok (.bool false) w := te_eql_snil w 47 54 (some ad) L.length c Try.underlying47
    clear hS hmax h0
    go_enter Try.func37, Try.ntmps37
    go_wp2_with (first
      | ((with_reducible show wpList _ _ _ (⟨some 7, _, _, _, _, _⟩ :: _) _ _); (show wpList _ _ _ _ _ (w.alloc (.cells #[] 54))); refine wpList_append_seesV rfl (.tmp 5) (.tmp 6) 47 rfl w.heap.size 54 i0 _ 5 56 Try.underlying47 hi0 hz0 hz1 hz2 rfl (by decide) (.slice (some ⟨w.heap.size, 0, none⟩) 0 0) 0 [] rfl hO.out _ (some ad) L.length c (tnsC L) rfl HL.out HS.out (tsC_one L) (by have := HM.out; omega) (by have := HM.out; omega) (by simp) ?_; intro v' w' ho hg hv; obtain ⟨A', c', rfl⟩ := own_form ho; have HO := Lib.hid ho; have HG : Hid (Below w.heap.size w w') := (nxAlloc (nxRefl w) _).grown hg (nxAlloc (nxRefl w) _).size (fun j hj => by have hj2 : w.heap.size = j := Option.some.inj hj; omega); clear ho hg hv))
    go_ret
    have ho := HO.out
    simp only [Nat.zero_add, List.nil_append] at ho
    exact ⟨A', c', by simp, ho, HG.out⟩
/-- A copy of which some children's rows are its own by now. -/
structure CpI (w : World) (base : Nat) (m : TrM) (wr : World) (mc : TrM) (j : Nat) : Prop where
  ok : TrOk wr base mc
  len : mc.L.length = m.L.length
  at_ : ∀ i (h : i < mc.L.length), mc.L[i].d = (m.L[i]'(by rw [← len]; exact h)).d ∧ mc.L[i].kids = (m.L[i]'(by rw [← len]; exact h)).kids
  dl : mc.dl = m.dl
  nq : w.heap.size ≤ mc.q
  nn : ∀ k, mc.nA.map Addr.block = some k → w.heap.size ≤ k
  nk : ∀ i (h : i < mc.L.length), i < j → ∀ k, mc.L[i].kA.map Addr.block = some k → w.heap.size ≤ k
  b : Below w.heap.size w wr
theorem CpI.next {w : World} {base : Nat} {m : TrM} {wr w1 : World} {mc : TrM} {j : Nat} (h : CpI w base m wr mc j) (hj : j < mc.L.length) (hb : Below wr.heap.size wr w1) {A : Option Addr} {c : Nat}
    (ho : w1.ownsRow wr.heap.size 3 1 (.slice A mc.L[j].kids.length c) mc.L[j].kids.length (tiC mc.L[j].kids)) {g : Nat} (hg : mc.nA = some ⟨g, 0, none⟩) :
    CpI w base m (w1.setCell ⟨g, j * 5 + 2, none⟩ (.slice A mc.L[j].kids.length c)) (mc.setN j ⟨mc.L[j].d, mc.L[j].kids, A, c⟩) (j + 1) := by
  have hqs : base ≤ wr.heap.size := Nat.le_trans h.ok.qb (Nat.le_of_lt h.ok.b.lt)
  have hn : ∀ k, A.map Addr.block = some k → wr.heap.size ≤ k := fun k e => (town_blk ho e).1
  obtain ⟨h1, h2, h3⟩ := h.ok.setKid hj (Keeps.of_below hb _) (town_less ho hqs) (fun k e => .inr (hn k e)) hg
  have hgb : w.heap.size ≤ g := h.nn g (by rw [hg]; rfl)
  have hsz := h.b.size
  refine ⟨h1, by rw [TrM.setN_len]; exact h.len, fun i hi => ?_, h.dl, h.nq, h.nn, fun i hi hij k e => ?_, ?_⟩
  · have hi' := hi
    rw [TrM.setN_len] at hi'
    rw [TrM.setN_at]
    by_cases e : j = i
    · subst e; rw [if_pos rfl]; exact h.at_ j hi'
    · rw [if_neg e]; exact h.at_ i hi'
  · have hi' := hi
    rw [TrM.setN_len] at hi'
    rw [TrM.setN_at] at e
    by_cases e1 : j = i
    · rw [if_pos e1] at e
      have := hn k e
      omega
    · rw [if_neg e1] at e
      exact h.nk i hi' (by omega) k e
  · have hk2 : Keeps (fun k => k = g) w1 (w1.setCell ⟨g, j * 5 + 2, none⟩ (.slice A mc.L[j].kids.length c)) := (Keeps.refl (fun k => k = g) w1).setCell (p := ⟨g, j * 5 + 2, none⟩) rfl _
    have hb2 := nxTo h.b hb
    exact hb2.trans (hk2.below hb2.size (fun k hk e => by omega))
theorem CpI.done {w : World} {base : Nat} {m : TrM} {wr : World} {mc : TrM} (hI : TrI m) (h : CpI w base m wr mc mc.L.length) : TrOk wr base mc ∧ TrI mc ∧ mc.T = m.T ∧ (∀ k, tfoot mc k → w.heap.size ≤ k) ∧ Below w.heap.size w wr := by
  have hT : mc.T = m.T := by
    apply List.ext_getElem (by rw [mc.T_len, m.T_len, h.len])
    intro i h1 h2
    have h1' := h1
    rw [mc.T_len] at h1'
    simp only [TrM.T, List.getElem_map]
    exact (h.at_ i h1').1
  refine ⟨h.ok, ⟨by rw [hT]; exact hI.ok, by rw [hT]; exact hI.iv, fun i hi => ?_, by rw [h.len, h.dl]; exact hI.dl⟩, hT, fun k hf => ?_, h.b⟩
  · rw [(h.at_ i hi).2, hT]
    exact hI.kids i (by rw [← h.len]; exact hi)
  · rcases hf with rfl | e | ⟨x, hx, e⟩
    · exact h.nq
    · exact h.nn k e
    · obtain ⟨i, hi, rfl⟩ := List.getElem_of_mem hx
      exact h.nk i hi hi k e
set_option maxRecDepth 100000 in
set_option maxHeartbeats 4000000 in
theorem te_copy (w : World) (base : Nat) (m : TrM) (h : TrOk w base m) (hI : TrI m) :
    Calls Try.prog 26 #[.pointer (some ⟨m.q, 0, none⟩)] w fun e w' => ∃ mc, e = .returned (.pointer (some ⟨mc.q, 0, none⟩)) ∧ TrOk w' base mc ∧ TrI mc ∧ mc.T = m.T ∧ (∀ k, tfoot mc k → w.heap.size ≤ k) ∧ Below w.heap.size w w' := by
  have hmx := hI.max
  have h00 := hI.ne
  have HM := Lib.hid (te_isMade w base m h h00)
  have HOk : Hid (TrOk w.drew base m) := h.later (teDr (nxRefl w))
  have HQ : Hid (w.drew.cell? ⟨m.q, 0, none⟩ = some (.slice m.nA m.L.length m.nc)) := h.b.cell 0
  have HD : Hid (w.drew.cell? ⟨m.q, 1, none⟩ = some (.int .i64 (m.dl : Int))) := h.b.cell 1
  have HI := Lib.hid hI
  have HC := Lib.hid (te_cloneN w.drew m.nA m.L m.nc (SeesV.own HOk.out.nds) h00 (by omega))
  have HBd : Hid (∀ A2 c2, ∀ wq : World, (Instr.build 49 #[(0, .slice A2 m.L.length c2), (1, .int .i64 (m.dl : Int))]).run Try.prog wq = .ok (.agg #[.slice A2 m.L.length c2, .int .i64 (m.dl : Int)]) wq) := fun A2 c2 wq => by kernel_rfl
  have Vd : Hid (Below w.heap.size w w.drew) := teDr (nxRefl w)
  clear h hI
  go_enter Try.func26, Try.ntmps26
  go_wp2_with (go_at_call 29; refine HM.out.mono ?_; rintro e1 w1 ⟨rfl, hw1⟩; obtain rfl := hw1.symm)
  clear HM
  refine wp_region_held_drew (S := fun W => W.cell? ⟨m.q, 0, none⟩ = some (.slice m.nA m.L.length m.nc) ∧ W.cell? ⟨m.q, 1, none⟩ = some (.int .i64 (m.dl : Int))) (by kernel_rfl) ⟨HQ.out, HD.out⟩ (fun hHeld => ?_)
  generalize w.drew = wd at *
  refine wpAnyH_take (i := 0) (oi := ⟨_, _, _, _, _, _⟩) (v := ?_) rfl (by kernel_rfl) (by kernel_rfl) (by kernel_rfl) (fun _ _ _ h => h) (Or.inl ⟨by rfl, ?_⟩) (by assumption) ?_
  rotate_left 1
  · intro W hSw
    try dsimp only at hSw
    obtain ⟨hs1, hs2⟩ := hSw
    go_simp
    try with_reducible rfl
  try simp only [Act.put, List.setIfInBounds_toArray, List.set_cons_zero, List.set_cons_succ]
  refine wpAnyH_take (i := 1) (oi := ⟨_, _, _, _, _, _⟩) (v := ?_) rfl (by kernel_rfl) (by kernel_rfl) (by kernel_rfl) (fun _ _ _ h => h) (Or.inl ⟨by rfl, ?_⟩) (by assumption) ?_
  rotate_left 1
  · intro W hSw
    try dsimp only at hSw
    obtain ⟨hs1, hs2⟩ := hSw
    go_simp
    try with_reducible rfl
  try simp only [Act.put, List.setIfInBounds_toArray, List.set_cons_zero, List.set_cons_succ]
  refine wpAnyH_take (i := 2) (oi := ⟨_, _, _, _, _, _⟩) (v := ?_) rfl (by kernel_rfl) (by kernel_rfl) (by kernel_rfl) (fun _ _ _ h => h) (Or.inl ⟨by rfl, ?_⟩) (by assumption) ?_
  rotate_left 1
  · intro W hSw
    try dsimp only at hSw
    obtain ⟨hs1, hs2⟩ := hSw
    go_simp
    try with_reducible rfl
  try simp only [Act.put, List.setIfInBounds_toArray, List.set_cons_zero, List.set_cons_succ]
  refine wpAnyH_take (i := 3) (oi := ⟨_, _, _, _, _, _⟩) (v := ?_) rfl (by kernel_rfl) (by kernel_rfl) (by kernel_rfl) (fun _ _ _ h => h) (Or.inl ⟨by rfl, ?_⟩) (by assumption) ?_
  rotate_left 1
  · intro W hSw
    try dsimp only at hSw
    obtain ⟨hs1, hs2⟩ := hSw
    go_simp
    try with_reducible rfl
  try simp only [Act.put, List.setIfInBounds_toArray, List.set_cons_zero, List.set_cons_succ]
  refine wpAnyH_take (i := 5) (oi := ⟨_, _, _, _, _, _⟩) (v := ?_) rfl (by kernel_rfl) (by kernel_rfl) (by kernel_rfl) (fun _ _ _ h => h) (Or.inl ⟨by rfl, ?_⟩) (by assumption) ?_
  rotate_left 1
  · intro W hSw
    try dsimp only at hSw
    obtain ⟨hs1, hs2⟩ := hSw
    go_simp
    try with_reducible rfl
  try simp only [Act.put, List.setIfInBounds_toArray, List.set_cons_zero, List.set_cons_succ]
  refine wpAnyH_take (i := 6) (oi := ⟨_, _, _, _, _, _⟩) (v := ?_) rfl (by kernel_rfl) (by kernel_rfl) (by kernel_rfl) (fun _ _ _ h => h) (Or.inl ⟨by rfl, ?_⟩) (by assumption) ?_
  rotate_left 1
  · intro W hSw
    try dsimp only at hSw
    obtain ⟨hs1, hs2⟩ := hSw
    go_simp
    try with_reducible rfl
  try simp only [Act.put, List.setIfInBounds_toArray, List.set_cons_zero, List.set_cons_succ]
  refine wpAnyH_take (i := 7) (oi := ⟨_, _, _, _, _, _⟩) (v := ?_) rfl (by kernel_rfl) (by kernel_rfl) (by kernel_rfl) (fun _ _ _ h => h) (Or.inl ⟨by rfl, ?_⟩) (by assumption) ?_
  rotate_left 1
  · intro W hSw
    try dsimp only at hSw
    obtain ⟨hs1, hs2⟩ := hSw
    go_simp
    try with_reducible rfl
  try simp only [Act.put, List.setIfInBounds_toArray, List.set_cons_zero, List.set_cons_succ]
  refine wpAnyH_take (i := 8) (oi := ⟨_, _, _, _, _, _⟩) (v := ?_) rfl (by kernel_rfl) (by kernel_rfl) (by kernel_rfl) (fun _ _ _ h => h) (Or.inl ⟨by rfl, ?_⟩) (by assumption) ?_
  rotate_left 1
  · intro W hSw
    try dsimp only at hSw
    obtain ⟨hs1, hs2⟩ := hSw
    go_simp
    try with_reducible rfl
  try simp only [Act.put, List.setIfInBounds_toArray, List.set_cons_zero, List.set_cons_succ]
  refine wpAnyH_ready (rs := [4]) (by kernel_rfl) (by simp) ?_
  refine AllReadyH.cons rfl (fun K hK => ?_) AllReadyH.nil
  go_simp
  go_at_call 37
  refine HC.out.mono ?_
  rintro e2 w2 ⟨A2, c2, rfl, ho2, hb2⟩
  have O2 := Lib.hid ho2
  have V2 := Lib.hid hb2
  have c2q : w2.cell? ⟨m.q, 0, none⟩ = some (.slice m.nA m.L.length m.nc) := (V2.out.cell (p := ⟨m.q, 0, none⟩) HOk.out.b.lt).trans HQ.out
  have c2d : w2.cell? ⟨m.q, 1, none⟩ = some (.int .i64 (m.dl : Int)) := (V2.out.cell (p := ⟨m.q, 1, none⟩) HOk.out.b.lt).trans HD.out
  have hbd := HBd.out A2 c2
  clear ho2 hb2
  refine hK.out _ _ ⟨c2q, c2d⟩ (fun hSn => ?_)
  clear hK K
  try simp only [Act.put, List.setIfInBounds_toArray, List.set_cons_zero, List.set_cons_succ]
  refine wpAnyH_take (i := 9) (oi := ⟨_, _, _, _, _, _⟩) (v := ?_) rfl (by kernel_rfl) (by kernel_rfl) (by kernel_rfl) (fun _ _ _ h => h) (Or.inl ⟨by rfl, ?_⟩) (by assumption) ?_
  rotate_left 1
  · intro W hSw
    try dsimp only at hSw
    obtain ⟨hs1, hs2⟩ := hSw
    go_simp
    try with_reducible rfl
  try simp only [Act.put, List.setIfInBounds_toArray, List.set_cons_zero, List.set_cons_succ]
  refine wpAnyH_ready (rs := [10]) (by kernel_rfl) (by simp) ?_
  refine AllReadyH.cons rfl (fun K hK => ?_) AllReadyH.nil
  go_simp
  have HAq : ∀ o, (w2.alloc o).cell? ⟨m.q, 0, none⟩ = some (.slice m.nA m.L.length m.nc) := fun o => ((nxAlloc (nxRefl w2) o).cell (p := ⟨m.q, 0, none⟩) (World.block_lt_of_cell? _ _ c2q)).trans c2q
  have HAd : ∀ o, (w2.alloc o).cell? ⟨m.q, 1, none⟩ = some (.int .i64 (m.dl : Int)) := fun o => ((nxAlloc (nxRefl w2) o).cell (p := ⟨m.q, 1, none⟩) (World.block_lt_of_cell? _ _ c2d)).trans c2d
  refine hK.out _ _ ⟨HAq _, HAd _⟩ (fun hSn => ?_)
  clear hK K
  try simp only [Act.put, List.setIfInBounds_toArray, List.set_cons_zero, List.set_cons_succ]
  refine wpAnyH_take (i := 11) (oi := ⟨_, _, _, _, _, _⟩) (v := ?_) rfl (by kernel_rfl) (by kernel_rfl) (by kernel_rfl) (fun _ _ _ h => h) (Or.inl ⟨by rfl, ?_⟩) (by assumption) ?_
  rotate_left 1
  · intro W hSw
    try dsimp only at hSw
    obtain ⟨hs1, hs2⟩ := hSw
    go_simp
    try with_reducible rfl
  try simp only [Act.put, List.setIfInBounds_toArray, List.set_cons_zero, List.set_cons_succ]
  refine wpAnyH_done (by kernel_rfl) ?_ _
  clear hHeld
  obtain ⟨w3, hw3⟩ : ∃ x, w2.alloc (.cells #[.slice A2 m.L.length c2, .int .i64 (m.dl : Int)] 49) = x := ⟨_, rfl⟩
  have V3 : Hid (Below w2.heap.size w2 w3) := by rw [← hw3]; exact nxAlloc (nxRefl w2) _
  have B3 : Hid (Blk w3 w2.heap.size 49 #[.slice A2 m.L.length c2, .int .i64 (m.dl : Int)]) := by rw [← hw3]; exact heap_alloc_new w2 _
  have C3 : Hid (CpI wd base m w3 ⟨w2.heap.size, A2, c2, m.L, m.dl⟩ 0) := by
    have hbw : base ≤ wd.heap.size := Nat.le_trans HOk.out.qb (Nat.le_of_lt HOk.out.b.lt)
    have hsz := V2.out.size
    have hO := HOk.out.later (nxTo V2.out V3.out)
    exact ⟨⟨B3.out, Nat.le_trans hbw hsz, town_less (own_below O2.out V3.out (fun g hg => (own_lt O2.out g hg).2)) hbw, hO.kid, hO.kd⟩, rfl, fun i hi => ⟨rfl, rfl⟩, rfl, hsz, fun k e => (town_blk O2.out e).1, fun i hi h0 => by omega, nxTo V2.out V3.out⟩
  have c3 : w3.cell? ⟨w2.heap.size, 0, none⟩ = some (.slice A2 m.L.length c2) := B3.out.cell 0
  obtain ⟨qc, hqc⟩ : ∃ q, w2.heap.size = q := ⟨_, rfl⟩
  obtain ⟨n, hn⟩ : ∃ n, m.L.length = n := ⟨_, rfl⟩
  have HN := Lib.hid hn
  rw [hw3, hqc]
  rw [hqc] at C3 c3
  rw [hn] at c3 hmx h00
  rw [hn]
  clear hw3 V3 B3 V2 O2 c2q c2d hbd hqc hn HBd HC HQ HD HAq HAd hSn
  go_wp2
  clear c3
  go_loopw [24] (fun iv wr => ∃ (j : Nat) (mc : TrM), j ≤ n ∧ iv = .int .i64 j ∧ mc.q = qc ∧ Hid (CpI wd base m wr mc j)) (fun iv _ => n - (intOf iv).toNat)
  case atStart => exact ⟨0, _, by omega, rfl, rfl, C3.out⟩
  case round =>
    clear C3
    obtain ⟨j, mc, hj, rfl, rfl, HC⟩ := hrel
    have hlen : mc.L.length = n := HC.out.len.trans HN.out
    by_cases hlt : j < n
    · have hjL : j < mc.L.length := by omega
      have hjn : (j : Int) < (n : Int) := by omega
      obtain ⟨g, hnA, hg, hgb, hc0, hr⟩ := nd_cells HC.out.ok hjL
      have hck := (nd_c hr).2.2.1
      have HKs := Lib.hid (SeesV.own (HC.out.ok.kid _ (List.getElem_mem hjL)))
      have hkm : mc.L[j].kids.length ≤ 1000 := by
        rw [(HC.out.at_ j hjL).2, HI.out.kids j (by rw [HN.out]; exact hlt)]
        have := (kids_nodup m.T j).length_le_of_subset (l₂ := List.range m.T.length) (fun k hk => List.mem_range.2 (mem_kids.1 hk).2.1)
        rw [List.length_range, m.T_len, HN.out] at this
        omega
      have HNx : Hid (∀ W1, Below wr.heap.size wr W1 → ∀ A c, W1.ownsRow wr.heap.size 3 1 (.slice A mc.L[j].kids.length c) mc.L[j].kids.length (tiC mc.L[j].kids) → CpI wd base m (W1.setCell ⟨g, j * 5 + 2, none⟩ (.slice A mc.L[j].kids.length c)) (mc.setN j ⟨mc.L[j].d, mc.L[j].kids, A, c⟩) (j + 1)) := fun W1 hW A c ho => HC.out.next hjL hW ho hnA
      obtain ⟨_, cur, hgB⟩ := town_blk HC.out.ok.nds (k := g) (by rw [hnA]; rfl)
      have HG : Hid (Blk wr g 54 cur) := hgB
      have HCq : Hid (mc.q < wr.heap.size) := HC.out.ok.b.lt
      rw [hlen] at hc0
      obtain ⟨x, hx⟩ : ∃ x, mc.L[j] = x := ⟨_, rfl⟩
      rw [hx] at hck HKs hkm HNx
      have HK := Lib.hid (te_cloneI wr.drew x.kA x.kids x.kc HKs.out (by omega))
      have HQ : Hid (wr.drew.cell? ⟨mc.q, 0, none⟩ = some (.slice (some ⟨g, 0, none⟩) n mc.nc)) := hc0
      have HKc : Hid (wr.drew.cell? ⟨g, j * 5 + 2, none⟩ = some (.slice x.kA x.kids.length x.kc)) := hck
      have HNd : Hid (∀ W1, Below wr.drew.heap.size wr.drew W1 → ∀ A c, W1.ownsRow wr.drew.heap.size 3 1 (.slice A x.kids.length c) x.kids.length (tiC x.kids) → CpI wd base m (W1.setCell ⟨g, j * 5 + 2, none⟩ (.slice A x.kids.length c)) (mc.setN j ⟨x.d, x.kids, A, c⟩) (j + 1)) := fun W1 hW A c ho => HNx.out W1 (nxUndr hW) A c ho
      have HGd : Hid (Blk wr.drew g 54 cur) := HG.out
      have HCqd : Hid (mc.q < wr.drew.heap.size) := HCq.out
      clear hr hc0 hck HKs HNx hgB hg hgb hnA hx HC HG HCq hlen hjL
      go_wp2
      refine wp_region_K (fun W => W.cell? ⟨mc.q, 0, none⟩ = some (.slice (some ⟨g, 0, none⟩) n mc.nc) ∧ W.cell? ⟨g, j * 5 + 2, none⟩ = some (.slice x.kA x.kids.length x.kc)) 16 (by kernel_rfl) ⟨HQ.out, HKc.out⟩ (fun hSn => ?_)
      generalize wr.drew = we at *
      refine wpAnyK_pure (i := 0) (oi := ⟨_, _, _, _, _, _⟩) (v := ?_) rfl (by kernel_rfl) (by kernel_rfl) (by kernel_rfl) rfl (fun _ _ _ h => h) (Or.inl ⟨by rfl, ?_⟩) hSn ?_
      rotate_left 1
      · intro W hSw
        go_simp
        try with_reducible rfl
      replace hSn := (KT.set (i := 0) (by decide)).2 hSn
      try simp only [Act.put, List.setIfInBounds_toArray, List.set_cons_zero, List.set_cons_succ]
      refine wpAnyK_pure (i := 1) (oi := ⟨_, _, _, _, _, _⟩) (v := ?_) rfl (by kernel_rfl) (by kernel_rfl) (by kernel_rfl) rfl (fun _ _ _ h => h) (Or.inl ⟨by rfl, ?_⟩) hSn ?_
      rotate_left 1
      · intro W hSw
        go_simp
        try with_reducible rfl
      replace hSn := (KT.set (i := 1) (by decide)).2 hSn
      try simp only [Act.put, List.setIfInBounds_toArray, List.set_cons_zero, List.set_cons_succ]
      refine wpAnyK_pure (i := 2) (oi := ⟨_, _, _, _, _, _⟩) (v := ?_) rfl (by kernel_rfl) (by kernel_rfl) (by kernel_rfl) rfl (fun _ _ _ h => h) (Or.inl ⟨by rfl, ?_⟩) hSn ?_
      rotate_left 1
      · intro W hSw
        go_simp
        try with_reducible rfl
      replace hSn := (KT.set (i := 2) (by decide)).2 hSn
      try simp only [Act.put, List.setIfInBounds_toArray, List.set_cons_zero, List.set_cons_succ]
      refine wpAnyK_chain (i := 3) [16] (oi := ⟨_, _, _, _, _, _⟩) (v := ?_) rfl (by kernel_rfl) (by kernel_rfl) (by kernel_rfl) rfl (by kernel_rfl) (by kernel_rfl) (by kernel_rfl) (fun _ _ _ h => h) (Or.inl ⟨by rfl, ?_⟩) hSn ?_
      rotate_left 1
      · intro W hSw
        try dsimp only at hSw
        obtain ⟨hs1, hs2⟩ := hSw
        go_simp
        try with_reducible rfl
      replace hSn := (KT.set (i := 3) (by decide)).2 hSn
      try simp only [Act.put, List.setIfInBounds_toArray, List.set_cons_zero, List.set_cons_succ]
      refine wpAnyK_pure (i := 4) (oi := ⟨_, _, _, _, _, _⟩) (v := ?_) rfl (by kernel_rfl) (by kernel_rfl) (by kernel_rfl) rfl (fun _ _ _ h => h) (Or.inl ⟨by rfl, ?_⟩) hSn ?_
      rotate_left 1
      · intro W hSw
        go_simp
        try with_reducible rfl
      replace hSn := (KT.set (i := 4) (by decide)).2 hSn
      try simp only [Act.put, List.setIfInBounds_toArray, List.set_cons_zero, List.set_cons_succ]
      refine wpAnyK_pure (i := 5) (oi := ⟨_, _, _, _, _, _⟩) (v := ?_) rfl (by kernel_rfl) (by kernel_rfl) (by kernel_rfl) rfl (fun _ _ _ h => h) (Or.inl ⟨by rfl, ?_⟩) hSn ?_
      rotate_left 1
      · intro W hSw
        go_simp
        try with_reducible rfl
      replace hSn := (KT.set (i := 5) (by decide)).2 hSn
      try simp only [Act.put, List.setIfInBounds_toArray, List.set_cons_zero, List.set_cons_succ]
      refine wpAnyK_pure (i := 6) (oi := ⟨_, _, _, _, _, _⟩) (v := ?_) rfl (by kernel_rfl) (by kernel_rfl) (by kernel_rfl) rfl (fun _ _ _ h => h) (Or.inl ⟨by rfl, ?_⟩) hSn ?_
      rotate_left 1
      · intro W hSw
        go_simp
        try with_reducible rfl
      replace hSn := (KT.set (i := 6) (by decide)).2 hSn
      try simp only [Act.put, List.setIfInBounds_toArray, List.set_cons_zero, List.set_cons_succ]
      refine wpAnyK_pure (i := 7) (oi := ⟨_, _, _, _, _, _⟩) (v := ?_) rfl (by kernel_rfl) (by kernel_rfl) (by kernel_rfl) rfl (fun _ _ _ h => h) (Or.inl ⟨by rfl, ?_⟩) hSn ?_
      rotate_left 1
      · intro W hSw
        go_simp
        try with_reducible rfl
      replace hSn := (KT.set (i := 7) (by decide)).2 hSn
      try simp only [Act.put, List.setIfInBounds_toArray, List.set_cons_zero, List.set_cons_succ]
      refine wpAnyK_chain (i := 8) [16] (oi := ⟨_, _, _, _, _, _⟩) (v := ?_) rfl (by kernel_rfl) (by kernel_rfl) (by kernel_rfl) rfl (by kernel_rfl) (by kernel_rfl) (by kernel_rfl) (fun _ _ _ h => h) (Or.inl ⟨by rfl, ?_⟩) hSn ?_
      rotate_left 1
      · intro W hSw
        try dsimp only at hSw
        obtain ⟨hs1, hs2⟩ := hSw
        go_simp
        try with_reducible rfl
      replace hSn := (KT.set (i := 8) (by decide)).2 hSn
      try simp only [Act.put, List.setIfInBounds_toArray, List.set_cons_zero, List.set_cons_succ]
      refine wpAnyK_pure (i := 9) (oi := ⟨_, _, _, _, _, _⟩) (v := ?_) rfl (by kernel_rfl) (by kernel_rfl) (by kernel_rfl) rfl (fun _ _ _ h => h) (Or.inl ⟨by rfl, ?_⟩) hSn ?_
      rotate_left 1
      · intro W hSw
        go_simp
        try with_reducible rfl
      replace hSn := (KT.set (i := 9) (by decide)).2 hSn
      try simp only [Act.put, List.setIfInBounds_toArray, List.set_cons_zero, List.set_cons_succ]
      refine wpAnyK_pure (i := 10) (oi := ⟨_, _, _, _, _, _⟩) (v := ?_) rfl (by kernel_rfl) (by kernel_rfl) (by kernel_rfl) rfl (fun _ _ _ h => h) (Or.inl ⟨by rfl, ?_⟩) hSn ?_
      rotate_left 1
      · intro W hSw
        go_simp
        try with_reducible rfl
      replace hSn := (KT.set (i := 10) (by decide)).2 hSn
      try simp only [Act.put, List.setIfInBounds_toArray, List.set_cons_zero, List.set_cons_succ]
      refine wpAnyK_pure (i := 11) (oi := ⟨_, _, _, _, _, _⟩) (v := ?_) rfl (by kernel_rfl) (by kernel_rfl) (by kernel_rfl) rfl (fun _ _ _ h => h) (Or.inl ⟨by rfl, ?_⟩) hSn ?_
      rotate_left 1
      · intro W hSw
        go_simp
        try with_reducible rfl
      replace hSn := (KT.set (i := 11) (by decide)).2 hSn
      try simp only [Act.put, List.setIfInBounds_toArray, List.set_cons_zero, List.set_cons_succ]
      refine wpAnyK_chain (i := 12) [16] (oi := ⟨_, _, _, _, _, _⟩) (v := ?_) rfl (by kernel_rfl) (by kernel_rfl) (by kernel_rfl) rfl (by kernel_rfl) (by kernel_rfl) (by kernel_rfl) (fun _ _ _ h => h) (Or.inl ⟨by rfl, ?_⟩) hSn ?_
      rotate_left 1
      · intro W hSw
        try dsimp only at hSw
        obtain ⟨hs1, hs2⟩ := hSw
        go_simp
        try with_reducible rfl
      replace hSn := (KT.set (i := 12) (by decide)).2 hSn
      try simp only [Act.put, List.setIfInBounds_toArray, List.set_cons_zero, List.set_cons_succ]
      clear hSn
      refine wpAnyK_ready (rs := [13]) (by kernel_rfl) (by simp) ?_
      refine AllReadyK.cons rfl (fun K hK => ?_) AllReadyK.nil
      go_simp
      go_at_call 31
      refine HK.out.mono ?_
      rintro e5 w5 ⟨A5, c5, rfl, ho5, hb5⟩
      have O5 := Lib.hid ho5
      have V5 := Lib.hid hb5
      have c5q : w5.cell? ⟨mc.q, 0, none⟩ = some (.slice (some ⟨g, 0, none⟩) n mc.nc) := (V5.out.cell (p := ⟨mc.q, 0, none⟩) HCqd.out).trans HQ.out
      have c5k : w5.cell? ⟨g, j * 5 + 2, none⟩ = some (.slice x.kA x.kids.length x.kc) := (V5.out.cell (p := ⟨g, j * 5 + 2, none⟩) HGd.out.lt).trans HKc.out
      have f5k : w5.frozen? ⟨g, j * 5 + 2, none⟩ = false := (HGd.out.below V5.out HGd.out.lt).frozen _
      clear ho5 hb5
      refine hK.out _ _ (fun _ => ⟨c5q, c5k⟩) (fun hSn => ?_)
      clear hK K
      try simp only [Act.put, List.setIfInBounds_toArray, List.set_cons_zero, List.set_cons_succ]
      refine wpAnyK_pure (i := 14) (oi := ⟨_, _, _, _, _, _⟩) (v := ?_) rfl (by kernel_rfl) (by kernel_rfl) (by kernel_rfl) rfl (fun _ _ _ h => h) (Or.inl ⟨by rfl, ?_⟩) hSn ?_
      rotate_left 1
      · intro W hSw
        go_simp
        try with_reducible rfl
      replace hSn := (KT.set (i := 14) (by decide)).2 hSn
      try simp only [Act.put, List.setIfInBounds_toArray, List.set_cons_zero, List.set_cons_succ]
      refine wpAnyK_pure (i := 15) (oi := ⟨_, _, _, _, _, _⟩) (v := ?_) rfl (by kernel_rfl) (by kernel_rfl) (by kernel_rfl) rfl (fun _ _ _ h => h) (Or.inl ⟨by rfl, ?_⟩) hSn ?_
      rotate_left 1
      · intro W hSw
        go_simp
        try with_reducible rfl
      replace hSn := (KT.set (i := 15) (by decide)).2 hSn
      try simp only [Act.put, List.setIfInBounds_toArray, List.set_cons_zero, List.set_cons_succ]
      clear hSn
      refine wpAnyK_ready (rs := [16]) (by kernel_rfl) (by simp) ?_
      refine AllReadyK.cons rfl (fun K hK => ?_) AllReadyK.nil
      go_simp
      skip
      refine hK.out _ _ (fun h => absurd h (by decide +kernel)) (fun hSn => ?_)
      clear hK K
      try simp only [Act.put, List.setIfInBounds_toArray, List.set_cons_zero, List.set_cons_succ]
      refine wpAnyK_done (by kernel_rfl) ?_ _
      go_wp2
      go_roundw
      case rel => exact ⟨j + 1, mc.setN j ⟨x.d, x.kids, A5, c5⟩, by omega, by go_num, rfl, HNd.out w5 V5.out A5 c5 O5.out⟩
      case measure => simp [intOf] <;> omega
    · obtain rfl : j = n := by omega
      go_wp2
      go_ret
      have h9 := HC.out
      rw [← hlen] at h9
      obtain ⟨d1, d2, d3, d4, d5⟩ := CpI.done HI.out h9
      exact ⟨mc, rfl, d1, d2, d3, fun k hk => Nat.le_trans Vd.out.size (d4 k hk), nxTo Vd.out d5⟩
end Go.Proofs.Ytefgnemcjgibaaa
