/-
  dag: Copy.
  dag: two graphs and two documents' graphs, side by side.
-/
import Derived.Test.YtndkjmmmneianaaDoorDgX
import Derived.Shelf.SlMaps.Clone
namespace Go.Proofs.YtndkjmmmneianaaDoor
open Go.RowKit Go.Shelf Go.Maps

theorem ndsC_one1 (L : List NodeM) : ∀ u ∈ ndsC L, u.oneCell' = true := by
  intro u hu
  obtain ⟨l, hl, hu⟩ := List.mem_flatten.1 (by simpa [ndsC, List.flatMap] using hu : u ∈ (L.map ndC).flatten)
  obtain ⟨x, _, rfl⟩ := List.mem_map.1 hl
  simp only [ndC, List.mem_cons, List.not_mem_nil, or_false] at hu
  rcases hu with rfl | rfl | rfl <;> rfl
theorem iC_one1 (L : List Nat) : ∀ u ∈ iC L, u.oneCell' = true := by
  intro u hu
  obtain ⟨x, _, rfl⟩ := List.mem_map.1 hu
  rfl
theorem own_less1 {w : World} {b b' size n : Nat} {e : TypeId} {v : Value} {xs : List Value} (h : w.ownsRow b' e size v n xs) (hb : b ≤ b') : w.ownsRow b e size v n xs := by
  refine ⟨h.1, ?_⟩
  rcases h.2 with h0 | ⟨g, cap, cur, hv, hg, r⟩
  · exact .inl h0
  · exact .inr ⟨g, cap, cur, hv, Nat.le_trans hb hg, r⟩
set_option maxHeartbeats 1000000 in
set_option maxRecDepth 100000 in
theorem clone_ints (w : World) (A : Option Addr) (L : List Nat) (c : Nat) (hS : SeesV w w.heap.size A (iC L)) (hmax : L.length ≤ 1000000) :
    Calls Tryd.prog 51 #[.slice A L.length c] w fun e w' => ∃ A' c', e = .returned (.slice A' L.length c') ∧ w'.ownsRow w.heap.size 3 1 (.slice A' L.length c') L.length (iC L) ∧ Below w.heap.size w w' := by
  rcases A with _ | ad
  · have h0 : iC L = [] := by
      rcases hS with h | ⟨b, off, h, _⟩
      · exact h
      · cases h
    obtain rfl : L = [] := by
      have := iC_len L
      rw [h0] at this
      exact List.eq_nil_of_length_eq_zero (by simp at this; omega)
    clear hmax hS h0
    have hq : (binOp .eql 72 (.slice none 0 c) (.slice none 0 0)).run Tryd.prog w = .ok (.bool true) w := dSnil w 72 3 none 0 c Tryd.underlying72
    go_enter Tryd.func51, Tryd.ntmps51
    go_wp2
    go_ret
    exact ⟨none, 0, rfl, ⟨rfl, .inl ⟨rfl, rfl⟩⟩, nxRefl w⟩
  · have hO : Hid ((w.alloc (.cells #[] 3)).ownsRow w.heap.size 3 1 (.slice (some ⟨w.heap.size, 0, none⟩) 0 0) 0 []) := own_made (cs := []) (heap_alloc_new w _) (Nat.le_refl _) (Nat.le_refl _) (by unfold maxLen; omega) rfl
    have HS : Hid (SeesV (w.alloc (.cells #[] 3)) (w.alloc (.cells #[] 3)).heap.size (some ad) (iC L)) := (hS.alloc _).more (by simp)
    have HL : Hid ((iC L).length = L.length * 1) := by show _ = _; rw [iC_len]; omega
    have HM := Lib.hid hmax
    obtain ⟨i0, hi0, hz0, hz1, hz2⟩ := info_parts Tryd.dinfoI
    have hq : (binOp .eql 72 (.slice (some ad) L.length c) (.slice none 0 0)).run Tryd.prog w = .ok (.bool false) w := dSnil w 72 3 (some ad) L.length c Tryd.underlying72
    clear hS hmax
    go_enter Tryd.func51, Tryd.ntmps51
    go_wp2_with (first
      | ((with_reducible show wpList _ _ _ (⟨some 7, _, _, _, _, _⟩ :: _) _ _); (show wpList _ _ _ _ _ (w.alloc (.cells #[] 3))); refine wpList_append_seesV rfl (.tmp 5) (.tmp 6) 72 rfl w.heap.size 3 i0 _ 1 8 Tryd.underlying72 hi0 hz0 hz1 hz2 rfl (by decide) (.slice (some ⟨w.heap.size, 0, none⟩) 0 0) 0 [] rfl hO.out _ (some ad) L.length c (iC L) rfl HL.out HS.out (iC_one1 L) (by have := HM.out; omega) (by have := HM.out; omega) (by simp) ?_; intro v' w' ho hg hv; obtain ⟨A', c', rfl⟩ := own_form ho; have HO := Lib.hid ho; have HG : Hid (Below w.heap.size w w') := (nxAlloc (nxRefl w) _).grown hg (nxAlloc (nxRefl w) _).size (fun j hj => by have hj2 : w.heap.size = j := Option.some.inj hj; omega); clear ho hg hv))
    go_ret
    have ho := HO.out
    simp only [Nat.zero_add, List.nil_append] at ho
    exact ⟨A', c', by simp, ho, HG.out⟩
set_option maxHeartbeats 1000000 in
set_option maxRecDepth 100000 in
theorem clone_nodes (w : World) (A : Option Addr) (L : List NodeM) (c : Nat) (hS : SeesV w w.heap.size A (ndsC L)) (hmax : L.length ≤ 1000000) :
    Calls Tryd.prog 49 #[.slice A L.length c] w fun e w' => ∃ A' c', e = .returned (.slice A' L.length c') ∧ w'.ownsRow w.heap.size 76 3 (.slice A' L.length c') L.length (ndsC L) ∧ Below w.heap.size w w' := by
  rcases A with _ | ad
  · have h0 : ndsC L = [] := by
      rcases hS with h | ⟨b, off, h, _⟩
      · exact h
      · cases h
    obtain rfl : L = [] := by
      have := ndsC_len L
      rw [h0] at this
      exact List.eq_nil_of_length_eq_zero (by simp at this; omega)
    clear hmax hS h0
    have hq : (binOp .eql 55 (.slice none 0 c) (.slice none 0 0)).run Tryd.prog w = .ok (.bool true) w := dSnil w 55 76 none 0 c Tryd.underlying55
    go_enter Tryd.func49, Tryd.ntmps49
    go_wp2
    go_ret
    exact ⟨none, 0, rfl, ⟨rfl, .inl ⟨rfl, rfl⟩⟩, nxRefl w⟩
  · have hO : Hid ((w.alloc (.cells #[] 76)).ownsRow w.heap.size 76 3 (.slice (some ⟨w.heap.size, 0, none⟩) 0 0) 0 []) := own_made (cs := []) (heap_alloc_new w _) (Nat.le_refl _) (Nat.le_refl _) (by unfold maxLen; omega) rfl
    have HS : Hid (SeesV (w.alloc (.cells #[] 76)) (w.alloc (.cells #[] 76)).heap.size (some ad) (ndsC L)) := (hS.alloc _).more (by simp)
    have HL : Hid ((ndsC L).length = L.length * 3) := by show _ = _; rw [ndsC_len]
    have HM := Lib.hid hmax
    obtain ⟨i0, hi0, hz0, hz1, hz2⟩ := info_parts Tryd.dinfoN
    have hq : (binOp .eql 55 (.slice (some ad) L.length c) (.slice none 0 0)).run Tryd.prog w = .ok (.bool false) w := dSnil w 55 76 (some ad) L.length c Tryd.underlying55
    clear hS hmax
    go_enter Tryd.func49, Tryd.ntmps49
    go_wp2_with (first
      | ((with_reducible show wpList _ _ _ (⟨some 7, _, _, _, _, _⟩ :: _) _ _); (show wpList _ _ _ _ _ (w.alloc (.cells #[] 76))); refine wpList_append_seesV rfl (.tmp 5) (.tmp 6) 55 rfl w.heap.size 76 i0 _ 3 72 Tryd.underlying55 hi0 hz0 hz1 hz2 rfl (by decide) (.slice (some ⟨w.heap.size, 0, none⟩) 0 0) 0 [] rfl hO.out _ (some ad) L.length c (ndsC L) rfl HL.out HS.out (ndsC_one1 L) (by have := HM.out; omega) (by have := HM.out; omega) (by simp) ?_; intro v' w' ho hg hv; obtain ⟨A', c', rfl⟩ := own_form ho; have HO := Lib.hid ho; have HG : Hid (Below w.heap.size w w') := (nxAlloc (nxRefl w) _).grown hg (nxAlloc (nxRefl w) _).size (fun j hj => by have hj2 : w.heap.size = j := Option.some.inj hj; omega); clear ho hg hv))
    go_ret
    have ho := HO.out
    simp only [Nat.zero_add, List.nil_append] at ho
    exact ⟨A', c', by simp, ho, HG.out⟩
/-- A copy of which some children's rows are its own by now. -/
structure CpG (w : World) (base : Nat) (m : GrM) (wr : World) (mc : GrM) (j : Nat) : Prop where
  ok : GrOk wr base mc
  len : mc.L.length = m.L.length
  at_ : ∀ i (h : i < mc.L.length), mc.L[i].par = (m.L[i]'(by rw [← len]; exact h)).par ∧ mc.L[i].kids = (m.L[i]'(by rw [← len]; exact h)).kids ∧ mc.L[i].row = (m.L[i]'(by rw [← len]; exact h)).row
  ids : mc.ids = m.ids
  ks : mc.ks = m.ks
  nq : w.heap.size ≤ mc.q
  nm : w.heap.size ≤ mc.mb
  ni : ∀ k, mc.iA.map Addr.block = some k → w.heap.size ≤ k
  nn : ∀ k, mc.nA.map Addr.block = some k → w.heap.size ≤ k
  nk : ∀ i (h : i < mc.L.length), i < j → ∀ k, mc.L[i].kA.map Addr.block = some k → w.heap.size ≤ k
  ro : ∀ k, ro mc k ↔ ro m k
  b : Below w.heap.size w wr
theorem CpG.next {w : World} {base : Nat} {m : GrM} {wr w1 : World} {mc : GrM} {j : Nat} (h : CpG w base m wr mc j) (hj : j < mc.L.length) (hb : Below wr.heap.size wr w1) {A : Option Addr} {c : Nat}
    (ho : w1.ownsRow wr.heap.size 3 1 (.slice A mc.L[j].kids.length c) mc.L[j].kids.length (iC mc.L[j].kids)) {g : Nat} (hg : mc.nA = some ⟨g, 0, none⟩) :
    CpG w base m (w1.setCell ⟨g, j * 3 + 1, none⟩ (.slice A mc.L[j].kids.length c)) (mc.setKid j A c mc.L[j].kids) (j + 1) := by
  have hqs : base ≤ wr.heap.size := Nat.le_trans h.ok.qb (Nat.le_of_lt h.ok.b.lt)
  have hn : ∀ k, A.map Addr.block = some k → wr.heap.size ≤ k := fun k e => (own_blk ho e).1
  obtain ⟨h1, h2, h3⟩ := h.ok.push hj (Keeps.of_below hb _) (own_less1 ho hqs) (fun k e => .inr (hn k e)) hg
  have hgb : w.heap.size ≤ g := h.nn g (by rw [hg]; rfl)
  have hsz := h.b.size
  refine ⟨h1, by rw [setKid_len]; exact h.len, fun i hi => ?_, h.ids, h.ks, h.nq, h.nm, h.ni, h.nn, fun i hi hij k e => ?_, fun k => (ro_setKid _ _ _ _ _ _).trans (h.ro k), ?_⟩
  · have hi' := hi
    rw [setKid_len] at hi'
    rw [setKid_at]
    by_cases e : j = i
    · subst e; rw [if_pos rfl]; exact h.at_ j hi'
    · rw [if_neg e]; exact h.at_ i hi'
  · have hi' := hi
    rw [setKid_len] at hi'
    rw [setKid_at] at e
    by_cases e1 : j = i
    · rw [if_pos e1] at e
      have := hn k e
      omega
    · rw [if_neg e1] at e
      exact h.nk i hi' (by omega) k e
  · have hk2 : Keeps (fun k => k = g) w1 (w1.setCell ⟨g, j * 3 + 1, none⟩ (.slice A mc.L[j].kids.length c)) := (Keeps.refl (fun k => k = g) w1).setCell (p := ⟨g, j * 3 + 1, none⟩) rfl _
    have hb2 := nxTo h.b hb
    exact hb2.trans (hk2.below hb2.size (fun k hk e => by omega))
theorem CpG.done {w : World} {base : Nat} {m : GrM} {G : Gr} {wr : World} {mc : GrM} (hI : GrIs m G) (h : CpG w base m wr mc mc.L.length) : GrOk wr base mc ∧ GrIs mc G ∧ (∀ k, foot mc k → w.heap.size ≤ k) ∧ (∀ k, Go.Proofs.YtndkjmmmneianaaDoor.ro mc k ↔ Go.Proofs.YtndkjmmmneianaaDoor.ro m k) ∧ Below w.heap.size w wr := by
  refine ⟨h.ok, ⟨⟨hI.ok, by rw [h.ids]; exact hI.ids, by rw [h.ks, h.ids]; exact hI.ks, by rw [h.len]; exact hI.len, fun i hi => ?_, fun i hi => ?_, fun i hi => ?_, fun i hi => ?_, by rw [h.len]; exact hI.max⟩, hI.ne⟩, fun k hf => ?_, h.ro, h.b⟩
  · rw [(h.at_ i hi).1]; exact hI.par i _
  · rw [(h.at_ i hi).2.1]; exact hI.kids i _
  · rw [(h.at_ i hi).2.1]; exact hI.kdis i _
  · rw [(h.at_ i hi).2.2]; exact hI.row i _
  · rcases hf with rfl | rfl | e | e | ⟨x, hx, e⟩
    · exact h.nq
    · exact h.nm
    · exact h.ni k e
    · exact h.nn k e
    · obtain ⟨i, hi, rfl⟩ := List.getElem_of_mem hx
      exact h.nk i hi hi k e
set_option maxRecDepth 100000 in
set_option maxHeartbeats 4000000 in
theorem copy_any (w : World) (base : Nat) (m : GrM) (G : Gr) (h : GrOk w base m) (hI : GrIs m G) :
    Calls Tryd.prog 22 #[.pointer (some ⟨m.q, 0, none⟩)] w fun e w' => ∃ mc, e = .returned (.pointer (some ⟨mc.q, 0, none⟩)) ∧ GrOk w' base mc ∧ GrIs mc G ∧ (∀ k, foot mc k → w.heap.size ≤ k) ∧ (∀ k, ro mc k ↔ ro m k) ∧ Below w.heap.size w w' := by
  have hmx := hI.max
  have h00 : 0 < m.L.length := by rw [hI.len]; exact hI.ne
  have hil : m.ids.length ≤ 1000000 := by rw [hI.ilen, ← hI.len]; exact hmx
  have HM := Lib.hid (isMade_any w base m h (by rw [hI.ilen]; exact hI.ne))
  have HOk : Hid (GrOk w.drew base m) := h.later (nxDrT (nxRefl w))
  have HQ0 : Hid (w.drew.cell? ⟨m.q, 0, none⟩ = some (.slice m.iA m.ids.length m.ic)) := h.b.cell 0
  have HQ1 : Hid (w.drew.cell? ⟨m.q, 1, none⟩ = some (.slice m.nA m.L.length m.nc)) := h.b.cell 1
  have HQ2 : Hid (w.drew.cell? ⟨m.q, 2, none⟩ = some (.map (some m.mb))) := h.b.cell 2
  have HQl : Hid (m.q < w.drew.heap.size) := h.b.lt
  have HI := Lib.hid hI
  have HC1 : Hid (∀ W, Below w.drew.heap.size w.drew W → Calls Tryd.prog 48 #[.slice m.iA m.ids.length m.ic] W fun e w' => ∃ A' c', e = .returned (.slice A' m.ids.length c') ∧ w'.ownsRow W.heap.size 23 32 (.slice A' m.ids.length c') m.ids.length (hsC m.ids) ∧ Below W.heap.size W w') := fun W hW => dclone_any W m.iA m.ids m.ic (SeesV.own (HOk.out.later hW).ids) hil
  have HC2 : Hid (∀ W, Below w.drew.heap.size w.drew W → Calls Tryd.prog 49 #[.slice m.nA m.L.length m.nc] W fun e w' => ∃ A' c', e = .returned (.slice A' m.L.length c') ∧ w'.ownsRow W.heap.size 76 3 (.slice A' m.L.length c') m.L.length (ndsC m.L) ∧ Below W.heap.size W w') := fun W hW => clone_nodes W m.nA m.L m.nc (SeesV.own (HOk.out.later hW).nds) (by omega)
  have HC3 : Hid (∀ W, Below w.drew.heap.size w.drew W → Calls Tryd.prog 50 #[.map (some m.mb)] W fun e w' => e = .returned (.map (some W.heap.size)) ∧ w'.ownsMap Tryd.prog 23 (plainElem Tryd.prog 3) W.heap.size m.ks.length (mapD m.ks) ∧ w'.ownsMap Tryd.prog 23 (plainElem Tryd.prog 3) m.mb m.ks.length (mapD m.ks) ∧ Below W.heap.size W w') := fun W hW => AnyW.maps_Clone_owns Tryd.cloneP _ _ m.mb _ _ W (HOk.out.later hW).map
  have HBd : Hid (∀ A1 c1 A2 c2 q, ∀ wq : World, (Instr.build 58 #[(0, .slice A1 m.ids.length c1), (1, .slice A2 m.L.length c2), (2, .map (some q))]).run Tryd.prog wq = .ok (.agg #[.slice A1 m.ids.length c1, .slice A2 m.L.length c2, .map (some q)]) wq) := fun A1 c1 A2 c2 q wq => by kernel_rfl
  have Vd : Hid (Below w.heap.size w w.drew) := nxDrT (nxRefl w)
  clear h hI hil
  go_enter Tryd.func22, Tryd.ntmps22
  go_wp2_with (go_at_call 46; refine HM.out.mono ?_; rintro e1 w1 ⟨rfl, hw1⟩; obtain rfl := hw1.symm)
  clear HM
  refine wp_region_held_drew (S := fun W => W.cell? ⟨m.q, 0, none⟩ = some (.slice m.iA m.ids.length m.ic) ∧ W.cell? ⟨m.q, 1, none⟩ = some (.slice m.nA m.L.length m.nc) ∧ W.cell? ⟨m.q, 2, none⟩ = some (.map (some m.mb))) (by kernel_rfl) ⟨HQ0.out, HQ1.out, HQ2.out⟩ (fun hHeld => ?_)
  generalize w.drew = wd at *
  refine wpAnyH_take (i := 0) (oi := ⟨_, _, _, _, _, _⟩) (v := ?_) rfl (by kernel_rfl) (by kernel_rfl) (by kernel_rfl) (fun _ _ _ h => h) (Or.inl ⟨by rfl, ?_⟩) (by assumption) ?_
  rotate_left 1
  · intro W hSw
    try dsimp only at hSw
    obtain ⟨hs1, hs2, hs3⟩ := hSw
    go_simp
    try with_reducible rfl
  try simp only [Act.put, List.setIfInBounds_toArray, List.set_cons_zero, List.set_cons_succ]
  refine wpAnyH_take (i := 1) (oi := ⟨_, _, _, _, _, _⟩) (v := ?_) rfl (by kernel_rfl) (by kernel_rfl) (by kernel_rfl) (fun _ _ _ h => h) (Or.inl ⟨by rfl, ?_⟩) (by assumption) ?_
  rotate_left 1
  · intro W hSw
    try dsimp only at hSw
    obtain ⟨hs1, hs2, hs3⟩ := hSw
    go_simp
    try with_reducible rfl
  try simp only [Act.put, List.setIfInBounds_toArray, List.set_cons_zero, List.set_cons_succ]
  refine wpAnyH_take (i := 2) (oi := ⟨_, _, _, _, _, _⟩) (v := ?_) rfl (by kernel_rfl) (by kernel_rfl) (by kernel_rfl) (fun _ _ _ h => h) (Or.inl ⟨by rfl, ?_⟩) (by assumption) ?_
  rotate_left 1
  · intro W hSw
    try dsimp only at hSw
    obtain ⟨hs1, hs2, hs3⟩ := hSw
    go_simp
    try with_reducible rfl
  try simp only [Act.put, List.setIfInBounds_toArray, List.set_cons_zero, List.set_cons_succ]
  refine wpAnyH_take (i := 3) (oi := ⟨_, _, _, _, _, _⟩) (v := ?_) rfl (by kernel_rfl) (by kernel_rfl) (by kernel_rfl) (fun _ _ _ h => h) (Or.inl ⟨by rfl, ?_⟩) (by assumption) ?_
  rotate_left 1
  · intro W hSw
    try dsimp only at hSw
    obtain ⟨hs1, hs2, hs3⟩ := hSw
    go_simp
    try with_reducible rfl
  try simp only [Act.put, List.setIfInBounds_toArray, List.set_cons_zero, List.set_cons_succ]
  refine wpAnyH_take (i := 5) (oi := ⟨_, _, _, _, _, _⟩) (v := ?_) rfl (by kernel_rfl) (by kernel_rfl) (by kernel_rfl) (fun _ _ _ h => h) (Or.inl ⟨by rfl, ?_⟩) (by assumption) ?_
  rotate_left 1
  · intro W hSw
    try dsimp only at hSw
    obtain ⟨hs1, hs2, hs3⟩ := hSw
    go_simp
    try with_reducible rfl
  try simp only [Act.put, List.setIfInBounds_toArray, List.set_cons_zero, List.set_cons_succ]
  refine wpAnyH_take (i := 6) (oi := ⟨_, _, _, _, _, _⟩) (v := ?_) rfl (by kernel_rfl) (by kernel_rfl) (by kernel_rfl) (fun _ _ _ h => h) (Or.inl ⟨by rfl, ?_⟩) (by assumption) ?_
  rotate_left 1
  · intro W hSw
    try dsimp only at hSw
    obtain ⟨hs1, hs2, hs3⟩ := hSw
    go_simp
    try with_reducible rfl
  try simp only [Act.put, List.setIfInBounds_toArray, List.set_cons_zero, List.set_cons_succ]
  refine wpAnyH_take (i := 7) (oi := ⟨_, _, _, _, _, _⟩) (v := ?_) rfl (by kernel_rfl) (by kernel_rfl) (by kernel_rfl) (fun _ _ _ h => h) (Or.inl ⟨by rfl, ?_⟩) (by assumption) ?_
  rotate_left 1
  · intro W hSw
    try dsimp only at hSw
    obtain ⟨hs1, hs2, hs3⟩ := hSw
    go_simp
    try with_reducible rfl
  try simp only [Act.put, List.setIfInBounds_toArray, List.set_cons_zero, List.set_cons_succ]
  refine wpAnyH_take (i := 8) (oi := ⟨_, _, _, _, _, _⟩) (v := ?_) rfl (by kernel_rfl) (by kernel_rfl) (by kernel_rfl) (fun _ _ _ h => h) (Or.inl ⟨by rfl, ?_⟩) (by assumption) ?_
  rotate_left 1
  · intro W hSw
    try dsimp only at hSw
    obtain ⟨hs1, hs2, hs3⟩ := hSw
    go_simp
    try with_reducible rfl
  try simp only [Act.put, List.setIfInBounds_toArray, List.set_cons_zero, List.set_cons_succ]
  refine wpAnyH_take (i := 10) (oi := ⟨_, _, _, _, _, _⟩) (v := ?_) rfl (by kernel_rfl) (by kernel_rfl) (by kernel_rfl) (fun _ _ _ h => h) (Or.inl ⟨by rfl, ?_⟩) (by assumption) ?_
  rotate_left 1
  · intro W hSw
    try dsimp only at hSw
    obtain ⟨hs1, hs2, hs3⟩ := hSw
    go_simp
    try with_reducible rfl
  try simp only [Act.put, List.setIfInBounds_toArray, List.set_cons_zero, List.set_cons_succ]
  refine wpAnyH_take (i := 11) (oi := ⟨_, _, _, _, _, _⟩) (v := ?_) rfl (by kernel_rfl) (by kernel_rfl) (by kernel_rfl) (fun _ _ _ h => h) (Or.inl ⟨by rfl, ?_⟩) (by assumption) ?_
  rotate_left 1
  · intro W hSw
    try dsimp only at hSw
    obtain ⟨hs1, hs2, hs3⟩ := hSw
    go_simp
    try with_reducible rfl
  try simp only [Act.put, List.setIfInBounds_toArray, List.set_cons_zero, List.set_cons_succ]
  refine wpAnyH_take (i := 12) (oi := ⟨_, _, _, _, _, _⟩) (v := ?_) rfl (by kernel_rfl) (by kernel_rfl) (by kernel_rfl) (fun _ _ _ h => h) (Or.inl ⟨by rfl, ?_⟩) (by assumption) ?_
  rotate_left 1
  · intro W hSw
    try dsimp only at hSw
    obtain ⟨hs1, hs2, hs3⟩ := hSw
    go_simp
    try with_reducible rfl
  try simp only [Act.put, List.setIfInBounds_toArray, List.set_cons_zero, List.set_cons_succ]
  refine wpAnyH_take (i := 13) (oi := ⟨_, _, _, _, _, _⟩) (v := ?_) rfl (by kernel_rfl) (by kernel_rfl) (by kernel_rfl) (fun _ _ _ h => h) (Or.inl ⟨by rfl, ?_⟩) (by assumption) ?_
  rotate_left 1
  · intro W hSw
    try dsimp only at hSw
    obtain ⟨hs1, hs2, hs3⟩ := hSw
    go_simp
    try with_reducible rfl
  try simp only [Act.put, List.setIfInBounds_toArray, List.set_cons_zero, List.set_cons_succ]
  refine wpAnyH_ready (rs := [4]) (by kernel_rfl) (by simp) ?_
  refine AllReadyH.cons rfl (fun K hK => ?_) AllReadyH.nil
  go_simp
  go_at_call 48
  refine (HC1.out _ (nxRefl _)).mono ?_
  rintro e1 w1 ⟨A1, c1, rfl, ho1, hb1⟩
  have O1 := Lib.hid ho1
  have V1 := Lib.hid hb1
  have cq0_w1 : w1.cell? ⟨m.q, 0, none⟩ = some (.slice m.iA m.ids.length m.ic) := (V1.out.cell (p := ⟨m.q, 0, none⟩) HQl.out).trans HQ0.out
  have cq1_w1 : w1.cell? ⟨m.q, 1, none⟩ = some (.slice m.nA m.L.length m.nc) := (V1.out.cell (p := ⟨m.q, 1, none⟩) HQl.out).trans HQ1.out
  have cq2_w1 : w1.cell? ⟨m.q, 2, none⟩ = some (.map (some m.mb)) := (V1.out.cell (p := ⟨m.q, 2, none⟩) HQl.out).trans HQ2.out
  clear ho1 hb1
  refine hK.out _ _ ⟨cq0_w1, cq1_w1, cq2_w1⟩ (fun hSn => ?_)
  clear hK K
  try simp only [Act.put, List.setIfInBounds_toArray, List.set_cons_zero, List.set_cons_succ]
  refine wpAnyH_ready (rs := [9]) (by kernel_rfl) (by simp) ?_
  refine AllReadyH.cons rfl (fun K hK => ?_) AllReadyH.nil
  go_simp
  go_at_call 49
  refine (HC2.out _ V1.out).mono ?_
  rintro e2 w2 ⟨A2, c2, rfl, ho2, hb2⟩
  have O2 := Lib.hid ho2
  have J2 := Lib.hid hb2
  have V2 : Hid (Below wd.heap.size wd w2) := nxTo V1.out hb2
  have cq0_w2 : w2.cell? ⟨m.q, 0, none⟩ = some (.slice m.iA m.ids.length m.ic) := (V2.out.cell (p := ⟨m.q, 0, none⟩) HQl.out).trans HQ0.out
  have cq1_w2 : w2.cell? ⟨m.q, 1, none⟩ = some (.slice m.nA m.L.length m.nc) := (V2.out.cell (p := ⟨m.q, 1, none⟩) HQl.out).trans HQ1.out
  have cq2_w2 : w2.cell? ⟨m.q, 2, none⟩ = some (.map (some m.mb)) := (V2.out.cell (p := ⟨m.q, 2, none⟩) HQl.out).trans HQ2.out
  clear ho2 hb2
  refine hK.out _ _ ⟨cq0_w2, cq1_w2, cq2_w2⟩ (fun hSn => ?_)
  clear hK K
  try simp only [Act.put, List.setIfInBounds_toArray, List.set_cons_zero, List.set_cons_succ]
  refine wpAnyH_ready (rs := [14]) (by kernel_rfl) (by simp) ?_
  refine AllReadyH.cons rfl (fun K hK => ?_) AllReadyH.nil
  go_simp
  go_at_call 50
  refine (HC3.out _ V2.out).mono ?_
  rintro e3 w3 ⟨rfl, hm3, -, hb3⟩
  have M3 := Lib.hid hm3
  have J3 := Lib.hid hb3
  have V3 : Hid (Below wd.heap.size wd w3) := nxTo V2.out hb3
  have cq0_w3 : w3.cell? ⟨m.q, 0, none⟩ = some (.slice m.iA m.ids.length m.ic) := (V3.out.cell (p := ⟨m.q, 0, none⟩) HQl.out).trans HQ0.out
  have cq1_w3 : w3.cell? ⟨m.q, 1, none⟩ = some (.slice m.nA m.L.length m.nc) := (V3.out.cell (p := ⟨m.q, 1, none⟩) HQl.out).trans HQ1.out
  have cq2_w3 : w3.cell? ⟨m.q, 2, none⟩ = some (.map (some m.mb)) := (V3.out.cell (p := ⟨m.q, 2, none⟩) HQl.out).trans HQ2.out
  have hbd := HBd.out A1 c1 A2 c2 w2.heap.size
  clear hm3 hb3
  refine hK.out _ _ ⟨cq0_w3, cq1_w3, cq2_w3⟩ (fun hSn => ?_)
  clear hK K
  try simp only [Act.put, List.setIfInBounds_toArray, List.set_cons_zero, List.set_cons_succ]
  refine wpAnyH_take (i := 15) (oi := ⟨_, _, _, _, _, _⟩) (v := ?_) rfl (by kernel_rfl) (by kernel_rfl) (by kernel_rfl) (fun _ _ _ h => h) (Or.inl ⟨by rfl, ?_⟩) (by assumption) ?_
  rotate_left 1
  · intro W hSw
    try dsimp only at hSw
    obtain ⟨hs1, hs2, hs3⟩ := hSw
    go_simp
    try with_reducible rfl
  try simp only [Act.put, List.setIfInBounds_toArray, List.set_cons_zero, List.set_cons_succ]
  refine wpAnyH_ready (rs := [16]) (by kernel_rfl) (by simp) ?_
  refine AllReadyH.cons rfl (fun K hK => ?_) AllReadyH.nil
  go_simp
  have HA0 : ∀ o, (w3.alloc o).cell? ⟨m.q, 0, none⟩ = some (.slice m.iA m.ids.length m.ic) := fun o => ((nxAlloc (nxRefl w3) o).cell (p := ⟨m.q, 0, none⟩) (World.block_lt_of_cell? _ _ cq0_w3)).trans cq0_w3
  have HA1 : ∀ o, (w3.alloc o).cell? ⟨m.q, 1, none⟩ = some (.slice m.nA m.L.length m.nc) := fun o => ((nxAlloc (nxRefl w3) o).cell (p := ⟨m.q, 1, none⟩) (World.block_lt_of_cell? _ _ cq1_w3)).trans cq1_w3
  have HA2 : ∀ o, (w3.alloc o).cell? ⟨m.q, 2, none⟩ = some (.map (some m.mb)) := fun o => ((nxAlloc (nxRefl w3) o).cell (p := ⟨m.q, 2, none⟩) (World.block_lt_of_cell? _ _ cq2_w3)).trans cq2_w3
  refine hK.out _ _ ⟨HA0 _, HA1 _, HA2 _⟩ (fun hSn => ?_)
  clear hK K
  try simp only [Act.put, List.setIfInBounds_toArray, List.set_cons_zero, List.set_cons_succ]
  refine wpAnyH_take (i := 17) (oi := ⟨_, _, _, _, _, _⟩) (v := ?_) rfl (by kernel_rfl) (by kernel_rfl) (by kernel_rfl) (fun _ _ _ h => h) (Or.inl ⟨by rfl, ?_⟩) (by assumption) ?_
  rotate_left 1
  · intro W hSw
    try dsimp only at hSw
    obtain ⟨hs1, hs2, hs3⟩ := hSw
    go_simp
    try with_reducible rfl
  try simp only [Act.put, List.setIfInBounds_toArray, List.set_cons_zero, List.set_cons_succ]
  refine wpAnyH_done (by kernel_rfl) ?_ _
  clear hHeld
  obtain ⟨w4, hw4⟩ : ∃ x, w3.alloc (.cells #[.slice A1 m.ids.length c1, .slice A2 m.L.length c2, .map (some w2.heap.size)] 58) = x := ⟨_, rfl⟩
  have V4 : Hid (Below w3.heap.size w3 w4) := by rw [← hw4]; exact nxAlloc (nxRefl w3) _
  have B4 : Hid (Blk w4 w3.heap.size 58 #[.slice A1 m.ids.length c1, .slice A2 m.L.length c2, .map (some w2.heap.size)]) := by rw [← hw4]; exact heap_alloc_new w3 _
  have C4 : Hid (CpG wd base m w4 ⟨w3.heap.size, w2.heap.size, A1, c1, A2, c2, m.ids, m.L, m.ks⟩ 0) := by
    have hbw : base ≤ wd.heap.size := Nat.le_trans HOk.out.qb (Nat.le_of_lt HOk.out.b.lt)
    have hs1 := V1.out.size
    have hs2 := J2.out.size
    have hs3 := J3.out.size
    have hV : Below wd.heap.size wd w4 := nxTo V3.out V4.out
    have hO := HOk.out.later hV
    have b14 : Below w1.heap.size w1 w4 := nxTo J2.out (nxTo J3.out V4.out)
    have b24 : Below w2.heap.size w2 w4 := nxTo J3.out V4.out
    have o1 := own_below O1.out b14 (fun g hg => (own_lt O1.out g hg).2)
    have o2 := own_below O2.out b24 (fun g hg => (own_lt O2.out g hg).2)
    have f1 : ∀ k, A1.map Addr.block = some k → wd.heap.size ≤ k := fun k e => (own_blk O1.out e).1
    have f2 : ∀ k, A2.map Addr.block = some k → wd.heap.size ≤ k := fun k e => Nat.le_trans hs1 (own_blk O2.out e).1
    have hrl : ∀ k, ro m k → k < wd.heap.size := fun k hk => HOk.out.tlt (.inr hk)
    have hm4 := (Keeps.of_below V4.out (fun _ => False)).map M3.out id
    have hsep : ∀ k, foot ⟨w3.heap.size, w2.heap.size, A1, c1, A2, c2, m.ids, m.L, m.ks⟩ k → ¬ ro ⟨w3.heap.size, w2.heap.size, A1, c1, A2, c2, m.ids, m.L, m.ks⟩ k := by
      intro k hf hr
      have hk := hrl k hr
      rcases hf with e | e | e | e | e
      · simp only at e; omega
      · simp only at e; omega
      · have := f1 k e; omega
      · have := f2 k e; omega
      · exact HOk.out.sep k (.inr (.inr (.inr (.inr e)))) hr
    exact ⟨⟨B4.out, by show base ≤ w3.heap.size; omega, by show base ≤ w2.heap.size; omega, own_less1 o1 hbw, own_less1 o2 (Nat.le_trans hbw hs1), hm4, hO.par, hO.row, hO.kid, hsep, hO.kd⟩, rfl, fun i hi => ⟨rfl, rfl, rfl⟩, rfl, rfl, by show wd.heap.size ≤ w3.heap.size; omega, by show wd.heap.size ≤ w2.heap.size; omega, f1, f2, fun i hi h0 => by omega, fun k => Iff.rfl, hV⟩
  have c4 : w4.cell? ⟨w3.heap.size, 1, none⟩ = some (.slice A2 m.L.length c2) := B4.out.cell 1
  obtain ⟨qc, hqc⟩ : ∃ q, w3.heap.size = q := ⟨_, rfl⟩
  obtain ⟨n, hn⟩ : ∃ n, m.L.length = n := ⟨_, rfl⟩
  have HN := Lib.hid hn
  rw [hw4, hqc]
  rw [hqc] at C4 c4
  rw [hn] at c4 hmx h00
  rw [hn]
  clear hw4 V4 B4 V1 V2 V3 J2 J3 O1 O2 M3 cq0_w1 cq1_w1 cq2_w1 cq0_w2 cq1_w2 cq2_w2 cq0_w3 cq1_w3 cq2_w3 hbd hqc hn HBd HC1 HC2 HC3 HQ0 HQ1 HQ2 HQl HA0 HA1 HA2 hSn
  go_wp2
  clear c4
  go_loopw [30] (fun iv wr => ∃ (j : Nat) (mc : GrM), j ≤ n ∧ iv = .int .i64 j ∧ mc.q = qc ∧ Hid (CpG wd base m wr mc j)) (fun iv _ => n - (intOf iv).toNat)
  case atStart => exact ⟨0, _, by omega, rfl, rfl, C4.out⟩
  case round =>
    clear C4
    obtain ⟨j, mc, hj, rfl, rfl, HC⟩ := hrel
    have hlen : mc.L.length = n := HC.out.len.trans HN.out
    by_cases hlt : j < n
    · have hjL : j < mc.L.length := by omega
      have hjn : (j : Int) < (n : Int) := by omega
      obtain ⟨g, hnA, hg, hx1, hck, hx3⟩ := nds_cell HC.out.ok hjL
      have hc0 : wr.cell? ⟨mc.q, 1, none⟩ = some (.slice mc.nA mc.L.length mc.nc) := HC.out.ok.b.cell 1
      rw [hnA] at hc0
      have HKs := Lib.hid (SeesV.own (HC.out.ok.kid _ (List.getElem_mem hjL)))
      have hkm : mc.L[j].kids.length ≤ 1000000 := by
        have hjm : j < m.L.length := by rw [← HC.out.len]; exact hjL
        rw [(HC.out.at_ j hjL).2.1]
        have := (HI.out.kdis j hjm).length_le_of_subset (l₂ := List.range G.length) (fun k hk => List.mem_range.2 (parG_lt ((HI.out.kids j hjm k).1 hk)))
        rw [List.length_range, ← HI.out.len, HN.out] at this
        omega
      have HNx : Hid (∀ W1, Below wr.heap.size wr W1 → ∀ A c, W1.ownsRow wr.heap.size 3 1 (.slice A mc.L[j].kids.length c) mc.L[j].kids.length (iC mc.L[j].kids) → CpG wd base m (W1.setCell ⟨g, j * 3 + 1, none⟩ (.slice A mc.L[j].kids.length c)) (mc.setKid j A c mc.L[j].kids) (j + 1)) := fun W1 hW A c ho => HC.out.next hjL hW ho hnA
      obtain ⟨_, cur, hgB⟩ := own_blk HC.out.ok.nds (k := g) (by rw [hnA]; rfl)
      have HG : Hid (Blk wr g 76 cur) := hgB
      have HCq : Hid (mc.q < wr.heap.size) := HC.out.ok.b.lt
      rw [hlen] at hc0
      obtain ⟨x, hx⟩ : ∃ x, mc.L[j] = x := ⟨_, rfl⟩
      rw [hx] at hck HKs hkm HNx
      have HK := Lib.hid (clone_ints wr.drew x.kA x.kids x.kc HKs.out (by omega))
      have HQ : Hid (wr.drew.cell? ⟨mc.q, 1, none⟩ = some (.slice (some ⟨g, 0, none⟩) n mc.nc)) := hc0
      have HKc : Hid (wr.drew.cell? ⟨g, j * 3 + 1, none⟩ = some (.slice x.kA x.kids.length x.kc)) := hck
      have HNd : Hid (∀ W1, Below wr.drew.heap.size wr.drew W1 → ∀ A c, W1.ownsRow wr.drew.heap.size 3 1 (.slice A x.kids.length c) x.kids.length (iC x.kids) → CpG wd base m (W1.setCell ⟨g, j * 3 + 1, none⟩ (.slice A x.kids.length c)) (mc.setKid j A c x.kids) (j + 1)) := fun W1 hW A c ho => HNx.out W1 (nxTo (nxDrT (nxRefl wr)) hW) A c ho
      have HGd : Hid (Blk wr.drew g 76 cur) := HG.out
      have HCqd : Hid (mc.q < wr.drew.heap.size) := HCq.out
      clear hx1 hx3 hc0 hck HKs HNx hgB hg hnA hx HC HG HCq hlen hjL
      go_wp2
      refine wp_region_K (fun W => W.cell? ⟨mc.q, 1, none⟩ = some (.slice (some ⟨g, 0, none⟩) n mc.nc) ∧ W.cell? ⟨g, j * 3 + 1, none⟩ = some (.slice x.kA x.kids.length x.kc)) 16 (by kernel_rfl) ⟨HQ.out, HKc.out⟩ (fun hSn => ?_)
      generalize wr.drew = we at *
      refine wpAnyK_pure (i := 0) (oi := ⟨_, _, _, _, _, _⟩) (v := ?_) rfl (by kernel_rfl) (by kernel_rfl) (by kernel_rfl) rfl (fun _ _ _ h => h) (Or.inl ⟨by rfl, ?_⟩) hSn ?_
      rotate_left 1
      · intro W hSw
        go_simp
        try with_reducible rfl
      replace hSn := (KT.set (i := 0) (by decide)).2 hSn
      try simp only [Act.put, List.setIfInBounds_toArray, List.set_cons_zero, List.set_cons_succ]
      refine wpAnyK_pure (i := 1) (oi := ⟨_, _, _, _, _, _⟩) (v := ?_) rfl (by kernel_rfl) (by kernel_rfl) (by kernel_rfl) rfl (fun _ _ _ h => h) (Or.inl ⟨by rfl, ?_⟩) hSn ?_
      rotate_left 1
      · intro W hSw
        go_simp
        try with_reducible rfl
      replace hSn := (KT.set (i := 1) (by decide)).2 hSn
      try simp only [Act.put, List.setIfInBounds_toArray, List.set_cons_zero, List.set_cons_succ]
      refine wpAnyK_pure (i := 2) (oi := ⟨_, _, _, _, _, _⟩) (v := ?_) rfl (by kernel_rfl) (by kernel_rfl) (by kernel_rfl) rfl (fun _ _ _ h => h) (Or.inl ⟨by rfl, ?_⟩) hSn ?_
      rotate_left 1
      · intro W hSw
        go_simp
        try with_reducible rfl
      replace hSn := (KT.set (i := 2) (by decide)).2 hSn
      try simp only [Act.put, List.setIfInBounds_toArray, List.set_cons_zero, List.set_cons_succ]
      refine wpAnyK_chain (i := 3) [16] (oi := ⟨_, _, _, _, _, _⟩) (v := ?_) rfl (by kernel_rfl) (by kernel_rfl) (by kernel_rfl) rfl (by kernel_rfl) (by kernel_rfl) (by kernel_rfl) (fun _ _ _ h => h) (Or.inl ⟨by rfl, ?_⟩) hSn ?_
      rotate_left 1
      · intro W hSw
        try dsimp only at hSw
        obtain ⟨hs1, hs2⟩ := hSw
        go_simp
        try with_reducible rfl
      replace hSn := (KT.set (i := 3) (by decide)).2 hSn
      try simp only [Act.put, List.setIfInBounds_toArray, List.set_cons_zero, List.set_cons_succ]
      refine wpAnyK_pure (i := 4) (oi := ⟨_, _, _, _, _, _⟩) (v := ?_) rfl (by kernel_rfl) (by kernel_rfl) (by kernel_rfl) rfl (fun _ _ _ h => h) (Or.inl ⟨by rfl, ?_⟩) hSn ?_
      rotate_left 1
      · intro W hSw
        go_simp
        try with_reducible rfl
      replace hSn := (KT.set (i := 4) (by decide)).2 hSn
      try simp only [Act.put, List.setIfInBounds_toArray, List.set_cons_zero, List.set_cons_succ]
      refine wpAnyK_pure (i := 5) (oi := ⟨_, _, _, _, _, _⟩) (v := ?_) rfl (by kernel_rfl) (by kernel_rfl) (by kernel_rfl) rfl (fun _ _ _ h => h) (Or.inl ⟨by rfl, ?_⟩) hSn ?_
      rotate_left 1
      · intro W hSw
        go_simp
        try with_reducible rfl
      replace hSn := (KT.set (i := 5) (by decide)).2 hSn
      try simp only [Act.put, List.setIfInBounds_toArray, List.set_cons_zero, List.set_cons_succ]
      refine wpAnyK_pure (i := 6) (oi := ⟨_, _, _, _, _, _⟩) (v := ?_) rfl (by kernel_rfl) (by kernel_rfl) (by kernel_rfl) rfl (fun _ _ _ h => h) (Or.inl ⟨by rfl, ?_⟩) hSn ?_
      rotate_left 1
      · intro W hSw
        go_simp
        try with_reducible rfl
      replace hSn := (KT.set (i := 6) (by decide)).2 hSn
      try simp only [Act.put, List.setIfInBounds_toArray, List.set_cons_zero, List.set_cons_succ]
      refine wpAnyK_pure (i := 7) (oi := ⟨_, _, _, _, _, _⟩) (v := ?_) rfl (by kernel_rfl) (by kernel_rfl) (by kernel_rfl) rfl (fun _ _ _ h => h) (Or.inl ⟨by rfl, ?_⟩) hSn ?_
      rotate_left 1
      · intro W hSw
        go_simp
        try with_reducible rfl
      replace hSn := (KT.set (i := 7) (by decide)).2 hSn
      try simp only [Act.put, List.setIfInBounds_toArray, List.set_cons_zero, List.set_cons_succ]
      refine wpAnyK_chain (i := 8) [16] (oi := ⟨_, _, _, _, _, _⟩) (v := ?_) rfl (by kernel_rfl) (by kernel_rfl) (by kernel_rfl) rfl (by kernel_rfl) (by kernel_rfl) (by kernel_rfl) (fun _ _ _ h => h) (Or.inl ⟨by rfl, ?_⟩) hSn ?_
      rotate_left 1
      · intro W hSw
        try dsimp only at hSw
        obtain ⟨hs1, hs2⟩ := hSw
        go_simp
        try with_reducible rfl
      replace hSn := (KT.set (i := 8) (by decide)).2 hSn
      try simp only [Act.put, List.setIfInBounds_toArray, List.set_cons_zero, List.set_cons_succ]
      refine wpAnyK_pure (i := 9) (oi := ⟨_, _, _, _, _, _⟩) (v := ?_) rfl (by kernel_rfl) (by kernel_rfl) (by kernel_rfl) rfl (fun _ _ _ h => h) (Or.inl ⟨by rfl, ?_⟩) hSn ?_
      rotate_left 1
      · intro W hSw
        go_simp
        try with_reducible rfl
      replace hSn := (KT.set (i := 9) (by decide)).2 hSn
      try simp only [Act.put, List.setIfInBounds_toArray, List.set_cons_zero, List.set_cons_succ]
      refine wpAnyK_pure (i := 10) (oi := ⟨_, _, _, _, _, _⟩) (v := ?_) rfl (by kernel_rfl) (by kernel_rfl) (by kernel_rfl) rfl (fun _ _ _ h => h) (Or.inl ⟨by rfl, ?_⟩) hSn ?_
      rotate_left 1
      · intro W hSw
        go_simp
        try with_reducible rfl
      replace hSn := (KT.set (i := 10) (by decide)).2 hSn
      try simp only [Act.put, List.setIfInBounds_toArray, List.set_cons_zero, List.set_cons_succ]
      refine wpAnyK_pure (i := 11) (oi := ⟨_, _, _, _, _, _⟩) (v := ?_) rfl (by kernel_rfl) (by kernel_rfl) (by kernel_rfl) rfl (fun _ _ _ h => h) (Or.inl ⟨by rfl, ?_⟩) hSn ?_
      rotate_left 1
      · intro W hSw
        go_simp
        try with_reducible rfl
      replace hSn := (KT.set (i := 11) (by decide)).2 hSn
      try simp only [Act.put, List.setIfInBounds_toArray, List.set_cons_zero, List.set_cons_succ]
      refine wpAnyK_chain (i := 12) [16] (oi := ⟨_, _, _, _, _, _⟩) (v := ?_) rfl (by kernel_rfl) (by kernel_rfl) (by kernel_rfl) rfl (by kernel_rfl) (by kernel_rfl) (by kernel_rfl) (fun _ _ _ h => h) (Or.inl ⟨by rfl, ?_⟩) hSn ?_
      rotate_left 1
      · intro W hSw
        try dsimp only at hSw
        obtain ⟨hs1, hs2⟩ := hSw
        go_simp
        try with_reducible rfl
      replace hSn := (KT.set (i := 12) (by decide)).2 hSn
      try simp only [Act.put, List.setIfInBounds_toArray, List.set_cons_zero, List.set_cons_succ]
      clear hSn
      refine wpAnyK_ready (rs := [13]) (by kernel_rfl) (by simp) ?_
      refine AllReadyK.cons rfl (fun K hK => ?_) AllReadyK.nil
      go_simp
      go_at_call 51
      refine HK.out.mono ?_
      rintro e5 w5 ⟨A5, c5, rfl, ho5, hb5⟩
      have O5 := Lib.hid ho5
      have V5 := Lib.hid hb5
      have c5q : w5.cell? ⟨mc.q, 1, none⟩ = some (.slice (some ⟨g, 0, none⟩) n mc.nc) := (V5.out.cell (p := ⟨mc.q, 1, none⟩) HCqd.out).trans HQ.out
      have c5k : w5.cell? ⟨g, j * 3 + 1, none⟩ = some (.slice x.kA x.kids.length x.kc) := (V5.out.cell (p := ⟨g, j * 3 + 1, none⟩) HGd.out.lt).trans HKc.out
      have f5k : w5.frozen? ⟨g, j * 3 + 1, none⟩ = false := (HGd.out.below V5.out HGd.out.lt).frozen _
      clear ho5 hb5
      refine hK.out _ _ (fun _ => ⟨c5q, c5k⟩) (fun hSn => ?_)
      clear hK K
      try simp only [Act.put, List.setIfInBounds_toArray, List.set_cons_zero, List.set_cons_succ]
      refine wpAnyK_pure (i := 14) (oi := ⟨_, _, _, _, _, _⟩) (v := ?_) rfl (by kernel_rfl) (by kernel_rfl) (by kernel_rfl) rfl (fun _ _ _ h => h) (Or.inl ⟨by rfl, ?_⟩) hSn ?_
      rotate_left 1
      · intro W hSw
        go_simp
        try with_reducible rfl
      replace hSn := (KT.set (i := 14) (by decide)).2 hSn
      try simp only [Act.put, List.setIfInBounds_toArray, List.set_cons_zero, List.set_cons_succ]
      refine wpAnyK_pure (i := 15) (oi := ⟨_, _, _, _, _, _⟩) (v := ?_) rfl (by kernel_rfl) (by kernel_rfl) (by kernel_rfl) rfl (fun _ _ _ h => h) (Or.inl ⟨by rfl, ?_⟩) hSn ?_
      rotate_left 1
      · intro W hSw
        go_simp
        try with_reducible rfl
      replace hSn := (KT.set (i := 15) (by decide)).2 hSn
      try simp only [Act.put, List.setIfInBounds_toArray, List.set_cons_zero, List.set_cons_succ]
      clear hSn
      refine wpAnyK_ready (rs := [16]) (by kernel_rfl) (by simp) ?_
      refine AllReadyK.cons rfl (fun K hK => ?_) AllReadyK.nil
      go_simp
      skip
      refine hK.out _ _ (fun h => absurd h (by decide +kernel)) (fun hSn => ?_)
      clear hK K
      try simp only [Act.put, List.setIfInBounds_toArray, List.set_cons_zero, List.set_cons_succ]
      refine wpAnyK_done (by kernel_rfl) ?_ _
      go_wp2
      go_roundw
      case rel => exact ⟨j + 1, mc.setKid j A5 c5 x.kids, by omega, by go_num, rfl, HNd.out w5 V5.out A5 c5 O5.out⟩
      case measure => simp [intOf] <;> omega
    · obtain rfl : j = n := by omega
      go_wp2
      go_ret
      have h9 := HC.out
      rw [← hlen] at h9
      obtain ⟨d1, d2, d3, d4, d5⟩ := CpG.done HI.out h9
      exact ⟨mc, rfl, d1, d2, fun k hk => Nat.le_trans Vd.out.size (d3 k hk), d4, nxTo Vd.out d5⟩
end Go.Proofs.YtndkjmmmneianaaDoor

namespace Go.Proofs.YtndkjmmmneianaaDoor
open Go.RowKit

/-- What a document's graph reads lies off another graph and off another document's. -/
structure Off4 (m : GrM) (q : Nat) (r : RGm) : Prop where
  off : ¬ touch m r.q
  A : ∀ a, r.A = some a → a.block ≠ q ∧ ¬ foot m a.block
  e : ∀ x ∈ r.l, ∀ a, x.A = some a → a.block ≠ q ∧ ¬ foot m a.block
structure Four (w : World) (base : Nat) (m : GrM) (G : Gr) (r : RGm) (m' : GrM) (G' : Gr) (r' : RGm) : Prop where
  t1 : Two w base m G r
  t2 : Two w base m' G' r'
  a1 : ∀ k, foot m k → ¬ touch m' k
  a2 : ∀ k, foot m' k → ¬ touch m k
  qq : r.q ≠ r'.q
  o1 : Off4 m' r'.q r
  o2 : Off4 m r.q r'
theorem Four.swap {w : World} {base : Nat} {m m' : GrM} {G G' : Gr} {r r' : RGm} (h : Four w base m G r m' G' r') : Four w base m' G' r' m G r := ⟨h.t2, h.t1, h.a2, h.a1, fun e => h.qq e.symm, h.o2, h.o1⟩
theorem Four.later {w w' : World} {base : Nat} {m m' : GrM} {G G' : Gr} {r r' : RGm} (h : Four w base m G r m' G' r') (k : Below w.heap.size w w') : Four w' base m G r m' G' r' := ⟨h.t1.later k, h.t2.later k, h.a1, h.a2, h.qq, h.o1, h.o2⟩
theorem Two.step2 {w w1 w2 : World} {base : Nat} {m m' : GrM} {G : Gr} {r : RGm} (h : Two w base m G r) (id : Hh) (ps : List Hh) (ha : AddTo w base m m' w1) (hi : GrIs m' (addG G id ps))
    (h0 : rAddE r.l id ps = 0 → RAdded w1 base r id ps w2) (h1 : rAddE r.l id ps ≠ 0 → Below w1.heap.size w1 w2) : ∃ r', Two w2 base m' (addG G id ps) r' ∧ r'.q = r.q ∧ Keeps (fun j => j = r.q) w1 w2 ∧ (∀ a, r'.A = some a → r.A = some a ∨ w.heap.size ≤ a.block) ∧ (∀ x ∈ r'.l, ∀ a, x.A = some a → (x ∈ r.l) ∨ w.heap.size ≤ a.block) := by
  have hrel := h.rel.addE id ps
  have hmid := h.mid ha
  have hws := ha.k.size
  by_cases he : addE G id ps = 0
  · obtain ⟨r', hr, hq, hk, hA, A, c, hl, hA2⟩ := h0 (by rw [hrel, he]; rfl)
    have hqs : r.q < w.heap.size := h.d.lt
    have hq' : ¬ touch m' r.q := ha.touch_old hqs h.aq
    have hnew : ∀ k, w1.heap.size ≤ k → ¬ foot m' k := fun k hk e => by
      have := (ha.ok.lt e).2
      omega
    refine ⟨r', ⟨ha.ok.keeps hk (fun k hk e => hq' (by rw [← e]; exact hk)), hi, hr, ?_, ?_, ?_, ?_⟩, hq, hk, fun a e => .inr (Nat.le_trans hws (hA a e).1), fun x hx a e => ?_⟩
    · rw [hl]
      exact h.rel.snoc h.i.ok he A c
    · rw [hq]
      exact hq'
    · intro a ha'
      exact ⟨(hA a ha').2, hnew _ (hA a ha').1⟩
    · intro x hx a ha'
      rw [hl] at hx
      rcases List.mem_append.1 hx with hx | hx
      · have h5 := h.ae x hx a ha'
        have h6 := ha.k.size
        have h7 := hk.size
        exact ⟨by omega, ha.foot_old h5.1 h5.2⟩
      · rw [List.mem_singleton] at hx
        subst hx
        exact ⟨(hA2 a ha').2, hnew _ (hA2 a ha').1⟩
    · rw [hl] at hx
      rcases List.mem_append.1 hx with hx | hx
      · exact .inl hx
      · rw [List.mem_singleton] at hx
        subst hx
        exact .inr (Nat.le_trans hws (hA2 a e).1)
  · have hb := h1 (by rw [hrel]; intro e; exact he (by exact_mod_cast e))
    have h6 := ha.k.size
    have h7 := hb.size
    exact ⟨r, ⟨ha.ok.later hb, hi, hmid.later hb, h.rel.same he, ha.touch_old h.d.lt h.aq, fun a e => ⟨by have := (h.aA a e).1; omega, ha.foot_old (h.aA a e).1 (h.aA a e).2⟩, fun x hx a e => ⟨by have := (h.ae x hx a e).1; omega, ha.foot_old (h.ae x hx a e).1 (h.ae x hx a e).2⟩⟩, rfl, Keeps.ofB hb, fun a e => .inl e, fun x hx _ _ => .inl hx⟩
/-- The first of both goes on. -/
theorem Four.step {w w1 w2 : World} {base : Nat} {m m2 mc : GrM} {G Gc : Gr} {r rc : RGm} (h : Four w base m G r mc Gc rc) (id : Hh) (ps : List Hh) (ha : AddTo w base m m2 w1) (hi : GrIs m2 (addG G id ps))
    (h0 : rAddE r.l id ps = 0 → RAdded w1 base r id ps w2) (h1 : rAddE r.l id ps ≠ 0 → Below w1.heap.size w1 w2) : ∃ r2, Four w2 base m2 (addG G id ps) r2 mc Gc rc ∧ r2.q = r.q ∧ Keeps (fun j => j = r.q) w1 w2 := by
  obtain ⟨r2, ht, hq, hk, hA, he⟩ := h.t1.step2 id ps ha hi h0 h1
  have s1 := ha.k.size
  have s2 := hk.size
  have tl : ∀ k, touch mc k → k < w.heap.size := fun k hk => h.t2.g.tlt hk
  have hcq : rc.q < w.heap.size := h.t2.d.lt
  have hg2 : GrOk w2 base mc := (h.t2.g.keeps ha.k (fun k hk hf => h.a1 k hf hk)).keeps hk (fun k hk e => h.o1.off (by rw [← e]; exact hk))
  have hr2 : RGOk w2 base rc := (h.t2.d.keepsS ha.k (fun e => h.o2.off (.inl e)) (fun a e => (h.o2.A a e).2) (fun x hx a e => (h.o2.e x hx a e).2)).keepsS hk (fun e => h.qq e.symm) (fun a e => (h.o2.A a e).1) (fun x hx a e => (h.o2.e x hx a e).1)
  refine ⟨r2, ⟨ht, ⟨hg2, h.t2.i, hr2, h.t2.rel, h.t2.aq, fun a e => ⟨by have := (h.t2.aA a e).1; omega, (h.t2.aA a e).2⟩, fun x hx a e => ⟨by have := (h.t2.ae x hx a e).1; omega, (h.t2.ae x hx a e).2⟩⟩, ?_, ?_, ?_, ?_, ?_⟩, hq, hk⟩
  · intro k hf ht
    rcases ha.f k hf with hf | hf
    · exact h.a1 k hf ht
    · have := tl k ht; omega
  · intro k hf
    exact ha.touch_old (tl k (.inl hf)) (h.a2 k hf)
  · rw [hq]; exact h.qq
  · refine ⟨by rw [hq]; exact h.o1.off, fun a e => ?_, fun x hx a e => ?_⟩
    · rcases hA a e with e | e
      · exact h.o1.A a e
      · exact ⟨by omega, fun hf => by have := tl _ (.inl hf); omega⟩
    · rcases he x hx a e with e1 | e1
      · exact h.o1.e x e1 a e
      · exact ⟨by omega, fun hf => by have := tl _ (.inl hf); omega⟩
  · refine ⟨ha.touch_old hcq h.o2.off, fun a e => ?_, fun x hx a e => ?_⟩
    · rw [hq]; exact ⟨(h.o2.A a e).1, ha.foot_old (h.t2.aA a e).1 (h.o2.A a e).2⟩
    · rw [hq]; exact ⟨(h.o2.e x hx a e).1, ha.foot_old (h.t2.ae x hx a e).1 (h.o2.e x hx a e).2⟩
/-- A copy, and another document's graph over the same row. -/
theorem four_new {w wx : World} {base : Nat} {m mc : GrM} {G : Gr} {r : RGm} (h : Two w base m G r) (hb : Below w.heap.size w wx) (hg : GrOk wx base mc) (hi : GrIs mc G) (hf : ∀ k, foot mc k → w.heap.size ≤ k) (hro : ∀ k, ro mc k ↔ ro m k) {q : Nat} (hq : w.heap.size ≤ q)
    (hB : Blk wx q 37 #[.slice r.A r.l.length r.c]) (hqf : ¬ foot mc q) : Four wx base m G r mc G ⟨q, r.A, r.c, r.l⟩ := by
  have h2 := h.later hb
  have hrq : r.q < w.heap.size := h.d.lt
  have hbq : base ≤ q := by have := h.d.qb; omega
  have tl : ∀ k, touch m k → k < w.heap.size := fun k hk => h.g.tlt hk
  have hrl : ∀ k, ro m k → k < w.heap.size := fun k hk => tl k (.inr hk)
  refine ⟨h2, ⟨hg, hi, ⟨hB, h2.d.s, h2.d.e, hbq, fun a e => ?_, fun x hx a e => ?_, h2.d.max, h2.d.pm⟩, h.rel, ?_, fun a e => ?_, fun x hx a e => ?_⟩, ?_, ?_, ?_, ⟨?_, fun a e => ?_, fun x hx a e => ?_⟩, ⟨?_, fun a e => ?_, fun x hx a e => ?_⟩⟩
  · have := (h.aA a e).1; show a.block ≠ q; omega
  · have := (h.ae x hx a e).1; show a.block ≠ q; omega
  · rintro (e | e)
    · exact hqf e
    · have := hrl q ((hro q).1 e); omega
  · refine ⟨(h2.aA a e).1, fun hh => ?_⟩
    have := (h.aA a e).1; have := hf _ hh; omega
  · refine ⟨(h2.ae x hx a e).1, fun hh => ?_⟩
    have := (h.ae x hx a e).1; have := hf _ hh; omega
  · rintro k hk (e | e)
    · have := (tl k (.inl hk)); have := hf k e; omega
    · exact h.g.sep k hk ((hro k).1 e)
  · intro k hk e
    have := hf k hk; have := tl k e; omega
  · show r.q ≠ q
    omega
  · rintro (e | e)
    · have := hf _ e; omega
    · exact h.aq (.inr ((hro _).1 e))
  · refine ⟨by have := (h.aA a e).1; show a.block ≠ q; omega, fun hh => ?_⟩
    have := (h.aA a e).1; have := hf _ hh; omega
  · refine ⟨by have := (h.ae x hx a e).1; show a.block ≠ q; omega, fun hh => ?_⟩
    have := (h.ae x hx a e).1; have := hf _ hh; omega
  · intro e
    have : q < w.heap.size := tl q e
    omega
  · exact ⟨h.d.nq a e, (h.aA a e).2⟩
  · exact ⟨h.d.ne x hx a e, (h.ae x hx a e).2⟩
/-- A graph goes on by a row of steps. -/
def runF (G : Gr) (l : List RNd) : Gr := l.foldl (fun G x => addG G x.id x.ps) G
theorem runF_snoc (G : Gr) (l : List RNd) (x : RNd) : runF G (l ++ [x]) = addG (runF G l) x.id x.ps := by unfold runF; rw [List.foldl_append]; rfl
theorem runF_len : ∀ (l : List RNd) (G : Gr), (runF G l).length ≤ G.length + l.length
  | [], G => by simp [runF]
  | x :: l, G => by
    have h1 := runF_len l (addG G x.id x.ps)
    have h2 : (addG G x.id x.ps).length ≤ G.length + 1 := by unfold addG; split <;> simp
    have h3 : runF G (x :: l) = runF (addG G x.id x.ps) l := rfl
    rw [h3, List.length_cons]
    omega
end Go.Proofs.YtndkjmmmneianaaDoor
