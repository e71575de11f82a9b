/-
  disk: steps that wait no more: slices.Delete.
-/
import Derived.Test.YthamlphebnhcpaaDoorDk3
import Derived.Lib.SliceRun
import Derived.Shelf.RegionOpenPlain
namespace Go.Proofs.YthamlphebnhcpaaDoor
open Go.RowKit

def setMany : Array Value → Nat → List Value → Array Value
  | cs, _, [] => cs
  | cs, o, v :: vs => setMany (cs.setIfInBounds o v) (o + 1) vs
theorem setMany_cons (cs : Array Value) (o : Nat) (v : Value) (vs : List Value) : setMany cs o (v :: vs) = setMany (cs.setIfInBounds o v) (o + 1) vs := rfl
theorem setMany_size (vs : List Value) : ∀ (cs : Array Value) (o : Nat), (setMany cs o vs).size = cs.size := by
  induction vs with
  | nil => intros; rfl
  | cons v vs ih => intro cs o; rw [setMany_cons, ih, Array.size_setIfInBounds]
theorem setMany_get (vs : List Value) : ∀ (cs : Array Value) (o j : Nat), (j < o ∨ o + vs.length ≤ j) → (setMany cs o vs)[j]? = cs[j]? := by
  induction vs with
  | nil => intros; rfl
  | cons v vs ih =>
    intro cs o j h
    rw [List.length_cons] at h
    rw [setMany_cons, ih _ _ _ (by omega), Array.getElem?_setIfInBounds, if_neg (by omega)]
theorem setMany_in (vs : List Value) : ∀ (cs : Array Value) (o : Nat), o + vs.length ≤ cs.size → ∀ j (hj : j < vs.length), (setMany cs o vs)[o + j]? = some vs[j] := by
  induction vs with
  | nil => intro cs o _ j hj; cases hj
  | cons v vs ih =>
    intro cs o h j hj
    rw [List.length_cons] at h hj
    rw [setMany_cons]
    cases j with
    | zero => rw [setMany_get _ _ _ _ (by omega), Array.getElem?_setIfInBounds]; simp; omega
    | succ j =>
      have h1 := ih (cs.setIfInBounds o v) (o + 1) (by rw [Array.size_setIfInBounds]; omega) j (by omega)
      rw [show o + 1 + j = o + (j + 1) by omega] at h1
      rw [h1]
      rfl
theorem blk_setCells {g : Nat} {t : TypeId} (vs : List Value) : ∀ (w : World) (cs : Array Value) (o : Nat), Blk w g t cs → Blk (w.setCells g o vs) g t (setMany cs o vs) := by
  induction vs with
  | nil => intro w cs o h; exact h
  | cons v vs ih => intro w cs o h; exact ih _ _ _ (h.set o v)
theorem keeps_setCells {g : Nat} (vs : List Value) : ∀ (w : World) (o : Nat), Keeps (· = g) w (w.setCells g o vs) := by
  induction vs with
  | nil => intro w o; exact Keeps.refl _ _
  | cons v vs ih => intro w o; exact ((Keeps.refl (· = g) w).setCell rfl v).trans (ih _ _)
theorem take_of_get {cs : Array Value} {xs : List Value} (h : xs.length ≤ cs.size) (hg : ∀ j (hj : j < xs.length), cs[j]? = some xs[j]) : cs.toList.take xs.length = xs := by
  apply List.ext_getElem
  · rw [List.length_take]
    have h5 : cs.toList.length = cs.size := Array.length_toList
    omega
  · intro i h1 h2
    have h3 := hg i h2
    rw [List.getElem_take, Array.getElem_toList]
    rw [Array.getElem?_eq_getElem (Nat.lt_of_lt_of_le h2 h)] at h3
    exact Option.some.inj h3
theorem Tryd.stinfo : (Tryd.prog.info? 86).map (fun i => (i.zero, i.size, i.bytes)) = some (some (.agg #[.nilFunc, .nilFunc]), 2, 16) := by kernel_rfl
/-- An own row of a step's two cells. -/
theorem own_two {w : World} {A : Option Addr} {n c : Nat} {xs : List Value} (h : w.ownsRow 0 86 2 (.slice A n c) n xs) (hn : 0 < n) : ∃ g cur, A = some ⟨g, 0, none⟩ ∧ Blk w g 86 cur ∧ n ≤ c ∧ c ≤ maxLen ∧ cur.size = c * 2 ∧ (∀ j (hj : j < xs.length), cur[j]? = some xs[j]) ∧ xs.length = n * 2 := by
  have hl := h.1
  rcases h.2 with ⟨_, h0⟩ | ⟨g, cap, cur, hv, _, hh, hnc, hcm, hcs, ht⟩
  · omega
  · injection hv with h1 h2 h3
    subst h3
    refine ⟨g, cur, h1, hh, hnc, hcm, hcs, fun j hj => ?_, hl⟩
    have h4 : (cur.toList.take (n * 2))[j]? = some xs[j] := by rw [ht]; exact List.getElem?_eq_getElem hj
    rw [List.getElem?_take] at h4
    split at h4
    · simpa using h4
    · cases h4
theorem own_of_two {w : World} {g c n : Nat} {cur : Array Value} {xs : List Value} (hb : Blk w g 86 cur) (hn : n ≤ c) (hc : c ≤ maxLen) (hs : cur.size = c * 2) (hl : xs.length = n * 2) (hg : ∀ j (hj : j < xs.length), cur[j]? = some xs[j]) : w.ownsRow 0 86 2 (.slice (some ⟨g, 0, none⟩) n c) n xs := by
  refine ⟨hl, .inr ⟨g, c, cur, rfl, Nat.zero_le _, hb, hn, hc, hs, ?_⟩⟩
  rw [← hl]
  exact take_of_get (by omega) hg
theorem run_clear_step {w : World} {g o n c : Nat} {cs : Array Value} (ty : TypeId) (hb : Blk w g 86 cs) (hn : 0 < n) (hs : o + n * 2 ≤ cs.size) :
    ∃ vs : List Value, vs.length = n * 2 ∧ (Builtin.clear_ #[52] ty #[.slice (some ⟨g, o, none⟩) n c]).run Tryd.prog w = .ok (.tuple #[]) (w.setCells g o vs) := by
  have hz : ∀ w, (zeroValue 86).run Tryd.prog w = .ok (.agg #[.nilFunc, .nilFunc]) w := fun w => by kernel_rfl
  have hl : (Builtin.zeroCells #[Value.nilFunc, Value.nilFunc] n).toList.length = n * 2 := by simp [Builtin.zeroCells]
  have hv : ∀ v ∈ (Builtin.zeroCells #[Value.nilFunc, Value.nilFunc] n).toList, v = .nilFunc := fun v h => by
    simp only [Builtin.zeroCells, Array.toList_map, List.mem_map] at h
    obtain ⟨i, _, rfl⟩ := h
    have h2 : i % (#[Value.nilFunc, Value.nilFunc] : Array Value).size = 0 ∨ i % (#[Value.nilFunc, Value.nilFunc] : Array Value).size = 1 := by
      show i % 2 = 0 ∨ i % 2 = 1
      omega
    rcases h2 with h2 | h2 <;> rw [h2] <;> rfl
  refine ⟨(Builtin.zeroCells #[Value.nilFunc, Value.nilFunc] n).toList, hl, ?_⟩
  have hst := run_storeCells_cells (P := Tryd.prog) g o (Builtin.zeroCells #[Value.nilFunc, Value.nilFunc] n).toList 0 w (fun j hj => by rw [Nat.add_zero, hb.cell]; rw [hl] at hj; rw [Array.getElem?_eq_getElem (by omega)]; rfl) (fun j _ => hb.frozen _) (fun v h => by rw [hv v h]; rfl)
  simp only [Nat.add_zero] at hst
  obtain ⟨m, rfl⟩ : ∃ m, n = m + 1 := ⟨n - 1, by omega⟩
  simp [Builtin.clear_, run_underlying Tryd.underlying52, hz, Value.cells, hst]

set_option maxHeartbeats 2000000 in
set_option maxRecDepth 100000 in
theorem delete_any (w : World) (A : Option Addr) (n len c : Nat) (xs : List Value) (h : w.ownsRow 0 86 2 (.slice A len c) len xs) (h1 : ∀ u ∈ xs, u.oneCell' = true) (hn : n ≤ len) : Calls Tryd.prog 62 #[.slice A len c, .int .i64 0, .int .i64 (n : Int)] w fun e w' =>
    e = .returned (.slice A (len - n) c) ∧ w'.ownsRow 0 86 2 (.slice A (len - n) c) (len - n) (xs.drop (n * 2)) ∧ Keeps (fun j => A.map (·.block) = some j) w w' := by
  by_cases h0 : n = 0
  · subst h0
    have hb : len ≤ c ∧ c ≤ 9223372036854775807 := by
      rcases h.2 with ⟨hv, h0⟩ | ⟨g', cap, cur, hv, _, _, hnc, hcm, _⟩
      · injection hv with _ _ h3; omega
      · injection hv with _ _ h3; unfold maxLen at hcm; omega
    obtain ⟨hb1, hb2⟩ := hb
    have H := Lib.hid h
    clear h h1
    obtain ⟨i0, hi0, hz0, hz1, hz2⟩ := infoD Tryd.stinfo
    cases A with
    | none =>
      go_enter Tryd.func62, Tryd.ntmps62
      go_wp2
      all_goals go_ret
      all_goals exact ⟨rfl, by simpa using H.out, Keeps.refl _ _⟩
    | some ad =>
      go_enter Tryd.func62, Tryd.ntmps62
      go_wp2
      all_goals go_ret
      all_goals exact ⟨rfl, by simpa using H.out, Keeps.refl _ _⟩
  · obtain ⟨g, cur, rfl, hB, hb1, hb2, hs, hg, hl⟩ := own_two h (by omega)
    obtain ⟨l2, rfl⟩ : ∃ l2, len = l2 + n := ⟨len - n, by omega⟩
    obtain ⟨i0, hi0, hz0, hz1, hz2⟩ := infoD Tryd.stinfo
    have hnl : ((0 : Int) == (n : Int)) = false := by rw [beq_eq_false_iff_ne]; omega
    have HB := Lib.hid hB
    have hnews : (xs.drop (n * 2)).length = l2 * 2 := by rw [List.length_drop, hl]; omega
    have HS1 := Lib.hid hnews
    have HS2 : Hid (∀ u ∈ xs.drop (n * 2), u.oneCell' = true) := fun u hu => h1 u (List.mem_of_mem_drop hu)
    have HSrc : Hid (∀ j u, (xs.drop (n * 2))[j]? = some u → w.drew.cell? ((⟨g, n * 2, none⟩ : Addr).add j) = some u) := fun j u hu => by
      rw [List.getElem?_drop] at hu
      have hj : n * 2 + j < xs.length := by
        rcases Nat.lt_or_ge (n * 2 + j) xs.length with h | h
        · exact h
        · rw [List.getElem?_eq_none h] at hu; cases hu
      rw [Addr.add_lit]
      show w.cell? _ = _
      rw [hB.cell, hg _ hj, ← hu, List.getElem?_eq_getElem hj]
    have HSp : Hid (∀ j, j < (xs.drop (n * 2)).length → (w.drew.cell? ⟨g, 0 + 0 * 2 + j, none⟩).isSome = true ∧ w.drew.frozen? ⟨g, 0 + 0 * 2 + j, none⟩ = false) := fun j hj => by
      rw [hnews] at hj
      refine ⟨?_, hB.frozen _⟩
      show (w.cell? _).isSome = true
      rw [hB.cell, Array.getElem?_eq_getElem (by omega)]
      rfl
    obtain ⟨news, hne⟩ : ∃ news, xs.drop (n * 2) = news := ⟨_, rfl⟩
    rw [hne] at HS1 HS2 HSrc HSp ⊢
    obtain ⟨W1, hW1⟩ : ∃ W1, w.drew.setCells g (0 + 0 * 2) news = W1 := ⟨_, rfl⟩
    have HW := Lib.hid hW1
    have B1 : Blk W1 g 86 (setMany cur (0 + 0 * 2) news) := by rw [← hW1]; exact blk_setCells _ _ _ _ hB
    have K1 : Keeps (· = g) w W1 := by rw [← hW1]; exact (Keeps.refl (· = g) w).drew.trans (keeps_setCells _ _ _)
    have HK1 := Lib.hid K1
    have z1 : (setMany cur (0 + 0 * 2) news).size = c * 2 := by rw [setMany_size, hs]
    have g1 : ∀ j (hj : j < news.length), (setMany cur (0 + 0 * 2) news)[j]? = some news[j] := fun j hj => by
      have h2 := setMany_in news cur 0 (by rw [HS1.out]; omega) j hj
      rw [Nat.zero_add] at h2
      exact h2
    obtain ⟨vs, hvl, hcl⟩ := run_clear_step (n := n) (o := l2 * 2) (c := c - l2) (52) B1 (by omega) (by rw [z1]; omega)
    have hcl2 : ∀ ty, (Builtin.clear_ #[52] ty #[.slice (some ⟨g, l2 * 2, none⟩) n (c - l2)]).run Tryd.prog W1 = .ok (.tuple #[]) (W1.setCells g (l2 * 2) vs) := fun ty => by
      obtain ⟨vs', _, h'⟩ := run_clear_step (n := n) (o := l2 * 2) (c := c - l2) ty B1 (by omega) (by rw [z1]; omega)
      have h2 : (Builtin.clear_ #[52] ty #[.slice (some ⟨g, l2 * 2, none⟩) n (c - l2)]) = (Builtin.clear_ #[52] 52 #[.slice (some ⟨g, l2 * 2, none⟩) n (c - l2)]) := rfl
      rw [h2, hcl]
    have HB2 : Hid (Blk (W1.setCells g (l2 * 2) vs) g 86 (setMany (setMany cur (0 + 0 * 2) news) (l2 * 2) vs)) := blk_setCells _ _ _ _ B1
    have HG2 : Hid (∀ j (hj : j < news.length), (setMany (setMany cur (0 + 0 * 2) news) (l2 * 2) vs)[j]? = some news[j]) := fun j hj => by
      rw [setMany_get _ _ _ _ (by left; rw [HS1.out] at hj; exact hj)]
      exact g1 j hj
    have HZ2 : Hid ((setMany (setMany cur (0 + 0 * 2) news) (l2 * 2) vs).size = c * 2) := by show _ = _; rw [setMany_size, z1]
    have HK2 : Hid (Keeps (· = g) w (W1.setCells g (l2 * 2) vs)) := K1.trans (keeps_setCells _ _ _)
    have HCM := Lib.hid hb2
    unfold maxLen at hb2
    clear h h1 hB hg hnews hne hW1 B1 K1 z1 g1 hcl hvl hs hl
    have hle : (n : Int) ≤ (l2 : Int) + (n : Int) := by omega
    have hle2 : (0 : Int) ≤ (l2 : Int) + (n : Int) := by omega
    have hlc : l2 ≤ c := by omega
    by_cases hcn : c = n
    · obtain rfl : l2 = 0 := by omega
      have hnn : news = [] := List.eq_nil_of_length_eq_zero (by have := HS1.out; omega)
      have HSrc2 : Hid (∀ j u, news[j]? = some u → w.drew.cell? ((⟨g, 0, none⟩ : Addr).add j) = some u) := fun j u hu => by rw [hnn] at hu; cases hu
      subst hcn
      have hcl3 := hcl2
      rw [Nat.zero_mul, Nat.sub_zero] at hcl3
      clear hnn hcl2
      go_enter Tryd.func62, Tryd.ntmps62
      go_wp2_with fail
      go_region_law (refine step_append_room rfl (.tmp 22) (.tmp 25) 52 rfl 86 i0 2 Tryd.underlying52 hi0 hz1 g 0 0 c (by simp [Act.eval, Act.put]) ⟨g, 0, none⟩ 0 0 news (by simp [Act.eval, Act.put]) HS1.out HSrc2.out HS2.out (by omega) HSp.out ?_; rw [HW.out])
      go_wp2
      go_ret
      refine ⟨by rw [Nat.add_sub_cancel] <;> rfl, ?_, HK2.out.mono (fun j _ h => by subst h; rfl)⟩
      rw [Nat.add_sub_cancel]
      exact own_of_two HB2.out hlc HCM.out HZ2.out HS1.out HG2.out
    · go_enter Tryd.func62, Tryd.ntmps62
      go_wp2_with fail
      go_region_law (refine step_append_room rfl (.tmp 22) (.tmp 25) 52 rfl 86 i0 2 Tryd.underlying52 hi0 hz1 g 0 0 c (by simp [Act.eval, Act.put]) ⟨g, n * 2, none⟩ l2 (c - n) news (by simp [Act.eval, Act.put]) HS1.out HSrc.out HS2.out (by omega) HSp.out ?_; rw [HW.out])
      go_wp2
      go_ret
      refine ⟨by rw [Nat.add_sub_cancel] <;> rfl, ?_, HK2.out.mono (fun j _ h => by subst h; rfl)⟩
      rw [Nat.add_sub_cancel]
      exact own_of_two HB2.out hlc HCM.out HZ2.out HS1.out HG2.out
end Go.Proofs.YthamlphebnhcpaaDoor
