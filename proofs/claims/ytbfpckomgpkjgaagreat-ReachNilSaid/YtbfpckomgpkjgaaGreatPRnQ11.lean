/-
  reach: Chain and Before.
  dag: hashes that are sorted.
  A value stored into a part of a block.
  Cells of a block that are set one behind the other.
-/
import Derived.Test.YtbfpckomgpkjgaaGreatRx5
import Derived.Test.YtbfpckomgpkjgaaGreatPRnQ7
import Derived.Test.YtbfpckomgpkjgaaGreatShD
import Derived.Test.YtbfpckomgpkjgaaGreatPRnQ3
namespace Go.Proofs.YtbfpckomgpkjgaaGreat
open Go.RowKit Go.Maps

theorem lft_ne {T : List Nd} (v : IvT T) {a b : Nat} (ha : a < T.length) (h : Lft T a b) : a ≠ b := fun e => by
  have h1 := h.lo v
  subst e
  have := (v.ok a ha).2.1
  omega
theorem RxI.cov {m : RxM} {G : Gr} (h : RxI m G) {k : Nat} (hk : k ≤ 1000000000) : CovR m k where
  i := h.t
  b := hk
  c := fun c hc => by rw [h.ix.len]; exact (h.ix.mlt hc).2
  s := h.ix.srt k
  l := by
    have hc : ∀ c ∈ m.C k, c < m.t.T.length := fun c hc => by rw [h.ix.len]; exact (h.ix.mlt hc).2
    have hd : (m.C k).Nodup := by
      refine (List.pairwise_iff_getElem.2 fun i j hi hj hij => ?_)
      exact lft_ne h.ix.v (hc _ (List.getElem_mem hi)) (List.pairwise_iff_getElem.1 (h.ix.srt k) i j hi hj hij)
    have := hd.length_le_of_subset (l₂ := List.range m.t.T.length) fun x hx => List.mem_range.2 (hc x hx)
    have h2 := h.t.ok.max
    rw [List.length_range] at this
    omega
set_option maxRecDepth 100000 in
set_option maxHeartbeats 1000000 in
theorem rx_isBefore (w : World) (base : Nat) (m : RxM) (h : RxOk w base m) (a b : Nat) (hr : CovR m a) (ha : a < m.t.L.length) (hb : b < m.t.L.length) (z : Bool) (hz : z = true ↔ a ≠ b ∧ (Und m.t.T b a ∨ ∃ c ∈ m.C a, Und m.t.T b c)) : Calls Tryz.prog 44 #[.pointer (some ⟨m.q, 0, none⟩), .int .i64 (a : Int), .int .i64 (b : Int)] w fun e w' => e = .returned (.bool z) ∧ Below w.heap.size w w' := by
  have hc : w.cell? ⟨m.q, 1, none⟩ = some (.pointer (some ⟨m.t.q, 0, none⟩)) := h.c.2.1
  by_cases hab : a = b
  · have hz0 : z = false := Bool.eq_false_iff.2 fun e => (hz.1 e).1 hab
    subst hz0; subst hab
    clear h hr ha hb hz
    go_enter Tryz.func44, Tryz.ntmps44
    go_wp2
    go_ret
    exact ⟨rfl, nxRefl _⟩
  · have hab' : ¬ (a : Int) = (b : Int) := by omega
    have hbn : Hid (((a : Int) != (b : Int)) = true) := bne_iff_ne.2 hab'
    by_cases hu : Und m.t.T b a
    · have hz1 : z = true := hz.2 ⟨hab, .inl hu⟩
      subst hz1
      have HU := Lib.hid (te_undT w base m.t h.t hr.i b a hb ha true ⟨fun _ => hu, fun _ => rfl⟩)
      clear h hr ha hb hz hu hab
      go_enter Tryz.func44, Tryz.ntmps44
      go_wp2_with (go_at_call 43; refine HU.out.mono ?_; rintro e1 w1 ⟨rfl, hb1⟩; have V1 : Hid (Below w.heap.size w w1) := hb1; clear hb1)
      go_ret
      exact ⟨by simp [hbn.out], V1.out⟩
    · have hz2 : z = true ↔ ∃ c ∈ m.C a, Und m.t.T b c := hz.trans ⟨fun k => k.2.resolve_left hu, fun k => ⟨hab, .inr k⟩⟩
      have HU := Lib.hid (te_undT w base m.t h.t hr.i b a hb ha false ⟨fun k => absurd k (by decide), fun k => absurd k hu⟩)
      have HC : Hid (∀ W, Below w.heap.size w W → Calls Tryz.prog 73 #[.pointer (some ⟨m.q, 0, none⟩), .int .i64 (a : Int), .int .i64 (b : Int)] W fun e w' => e = .returned (.bool z) ∧ Below W.heap.size W w') := fun W hW => rx_isCovered W base m (h.later hW) a b hr hb z hz2
      clear h hr ha hb hz hu hab hz2
      go_enter Tryz.func44, Tryz.ntmps44
      go_wp2_with (first
        | (go_at_call 43; refine HU.out.mono ?_; rintro e1 w1 ⟨rfl, hb1⟩; have V1 : Hid (Below w.heap.size w w1) := hb1; clear hb1)
        | (go_at_call 73; refine (HC.out _ V1.out).mono ?_; rintro e2 w2 ⟨rfl, hb2⟩; have V2 : Hid (Below w.heap.size w w2) := nxTo V1.out hb2; clear hb2))
      go_ret
      exact ⟨by simp [hbn.out], V2.out⟩
/-- Whether a stands on b's chain. -/
noncomputable def chB (G : Gr) (T : List Nd) (a b : Hh) : Bool := match placeG G a, placeG G b with
  | some n, some k => @decide (Und T k n) (Classical.propDecidable _)
  | _, _ => false
set_option maxRecDepth 100000 in
set_option maxHeartbeats 1000000 in
theorem rx_chain (w : World) (base : Nat) (m : RxM) (G : Gr) (h : RxOk w base m) (hg : RxI m G) (a b : Hh) : Calls Tryz.prog 18 #[.pointer (some ⟨m.q, 0, none⟩), .agg (hC a).toArray, .agg (hC b).toArray] w fun e w' => e = .returned (.bool (chB G m.t.T a b)) ∧ Below w.heap.size w w' := by
  have h2 : RxOk ((w.alloc (.cells (hC a).toArray 23)).alloc (.cells (hC b).toArray 23)) base m := h.later (nxAlloc (nxAlloc (nxRefl w) _) _)
  have V0 : Hid (Below w.heap.size w ((w.alloc (.cells (hC a).toArray 23)).alloc (.cells (hC b).toArray 23))) := nxAlloc (nxAlloc (nxRefl w) _) _
  have BA : Hid (Blk ((w.alloc (.cells (hC a).toArray 23)).alloc (.cells (hC b).toArray 23)) w.heap.size 23 (hC a).toArray) := rxBlk1 w _ _ _
  have BB : Hid (Blk ((w.alloc (.cells (hC a).toArray 23)).alloc (.cells (hC b).toArray 23)) (w.heap.size + 1) 23 (hC b).toArray) := rxBlk2 w _ _ _
  have H2 := Lib.hid h2
  have HG := Lib.hid hg
  have HP := Lib.hid (rx_pair _ base m G h2 hg a b)
  unfold chB
  unfold pairV at HP
  cases ha : placeG G a with
  | none =>
    rw [ha] at HP
    clear h h2 hg ha
    dsimp only at HP ⊢
    go_enter Tryz.func18, Tryz.ntmps18
    go_wp2_with (first
      | ((with_reducible show wpList _ _ _ (⟨some 12, _, _, _, _, _⟩ :: _) _ _); refine wpList_load_mid rfl 23 (.tmp 4) rfl w.heap.size 0 rfl (hC a) _ (rxRng BA.out) Tryz.underlying23 rfl (hszL a) ?_)
      | ((with_reducible show wpList _ _ _ (⟨some 13, _, _, _, _, _⟩ :: _) _ _); refine wpList_load_mid rfl 23 (.tmp 5) rfl (w.heap.size + 1) 0 rfl (hC b) _ (rxRng BB.out) Tryz.underlying23 rfl (hszL b) ?_)
      | (go_at_call 42; refine HP.out.mono ?_; rintro e1 w1 ⟨rfl, hw1⟩; have V1 : Hid (Below w.heap.size w w1) := nxTo V0.out hw1; clear hw1))
    go_ret
    exact ⟨rfl, V1.out⟩
  | some n =>
    cases hb : placeG G b with
    | none =>
      rw [ha, hb] at HP
      clear h h2 hg ha hb
      dsimp only at HP ⊢
      go_enter Tryz.func18, Tryz.ntmps18
      go_wp2_with (first
        | ((with_reducible show wpList _ _ _ (⟨some 12, _, _, _, _, _⟩ :: _) _ _); refine wpList_load_mid rfl 23 (.tmp 4) rfl w.heap.size 0 rfl (hC a) _ (rxRng BA.out) Tryz.underlying23 rfl (hszL a) ?_)
        | ((with_reducible show wpList _ _ _ (⟨some 13, _, _, _, _, _⟩ :: _) _ _); refine wpList_load_mid rfl 23 (.tmp 5) rfl (w.heap.size + 1) 0 rfl (hC b) _ (rxRng BB.out) Tryz.underlying23 rfl (hszL b) ?_)
        | (go_at_call 42; refine HP.out.mono ?_; rintro e1 w1 ⟨rfl, hw1⟩; have V1 : Hid (Below w.heap.size w w1) := nxTo V0.out hw1; clear hw1))
      go_ret
      exact ⟨rfl, V1.out⟩
    | some k =>
      rw [ha, hb] at HP
      dsimp only at HP ⊢
      have hn := (placeG_some ha).1
      have hk := (placeG_some hb).1
      rw [← hg.tl] at hn hk
      have hz : @decide (Und m.t.T k n) (Classical.propDecidable _) = true ↔ Und m.t.T k n := @decide_eq_true_iff _ (Classical.propDecidable _)
      generalize @decide (Und m.t.T k n) (Classical.propDecidable _) = z at hz
      have HC : Hid (∀ W, Below w.heap.size w W → Calls Tryz.prog 43 #[.pointer (some ⟨m.t.q, 0, none⟩), .int .i64 (k : Int), .int .i64 (n : Int)] W fun e w' => e = .returned (.bool z) ∧ Below W.heap.size W w') := fun W hW => te_undT W base m.t (h.later hW).t hg.t k n hk hn z hz
      have c2 : ((w.alloc (.cells (hC a).toArray 23)).alloc (.cells (hC b).toArray 23)).cell? ⟨m.q, 1, none⟩ = some (.pointer (some ⟨m.t.q, 0, none⟩)) := h2.c.2.1
      clear h h2 hg ha hb hn hk hz
      go_enter Tryz.func18, Tryz.ntmps18
      go_wp2_with (first
        | ((with_reducible show wpList _ _ _ (⟨some 12, _, _, _, _, _⟩ :: _) _ _); refine wpList_load_mid rfl 23 (.tmp 4) rfl w.heap.size 0 rfl (hC a) _ (rxRng BA.out) Tryz.underlying23 rfl (hszL a) ?_)
        | ((with_reducible show wpList _ _ _ (⟨some 13, _, _, _, _, _⟩ :: _) _ _); refine wpList_load_mid rfl 23 (.tmp 5) rfl (w.heap.size + 1) 0 rfl (hC b) _ (rxRng BB.out) Tryz.underlying23 rfl (hszL b) ?_)
        | (go_at_call 42; refine HP.out.mono ?_; rintro e1 w1 ⟨rfl, hw1⟩; have V1 : Hid (Below w.heap.size w w1) := nxTo V0.out hw1; have c3 : w1.cell? ⟨m.q, 1, none⟩ = some (.pointer (some ⟨m.t.q, 0, none⟩)) := (H2.out.later hw1).c.2.1; clear hw1)
        | (go_at_call 43; refine (HC.out _ V1.out).mono ?_; rintro e2 w2 ⟨rfl, hb2⟩; have V2 : Hid (Below w.heap.size w w2) := nxTo V1.out hb2; clear hb2))
      go_ret
      exact ⟨rfl, V2.out⟩
set_option maxRecDepth 100000 in
set_option maxHeartbeats 1000000 in
theorem rx_before (w : World) (base : Nat) (m : RxM) (G : Gr) (h : RxOk w base m) (hg : RxI m G) (a b : Hh) : Calls Tryz.prog 19 #[.pointer (some ⟨m.q, 0, none⟩), .agg (hC a).toArray, .agg (hC b).toArray] w fun e w' => e = .returned (.bool (befB G a b)) ∧ Below w.heap.size w w' := by
  have h2 : RxOk ((w.alloc (.cells (hC a).toArray 23)).alloc (.cells (hC b).toArray 23)) base m := h.later (nxAlloc (nxAlloc (nxRefl w) _) _)
  have V0 : Hid (Below w.heap.size w ((w.alloc (.cells (hC a).toArray 23)).alloc (.cells (hC b).toArray 23))) := nxAlloc (nxAlloc (nxRefl w) _) _
  have BA : Hid (Blk ((w.alloc (.cells (hC a).toArray 23)).alloc (.cells (hC b).toArray 23)) w.heap.size 23 (hC a).toArray) := rxBlk1 w _ _ _
  have BB : Hid (Blk ((w.alloc (.cells (hC a).toArray 23)).alloc (.cells (hC b).toArray 23)) (w.heap.size + 1) 23 (hC b).toArray) := rxBlk2 w _ _ _
  have H2 := Lib.hid h2
  have HG := Lib.hid hg
  have HP := Lib.hid (rx_pair _ base m G h2 hg a b)
  unfold befB
  unfold pairV at HP
  cases ha : placeG G a with
  | none =>
    rw [ha] at HP
    clear h h2 hg ha
    dsimp only at HP ⊢
    go_enter Tryz.func19, Tryz.ntmps19
    go_wp2_with (first
      | ((with_reducible show wpList _ _ _ (⟨some 12, _, _, _, _, _⟩ :: _) _ _); refine wpList_load_mid rfl 23 (.tmp 4) rfl w.heap.size 0 rfl (hC a) _ (rxRng BA.out) Tryz.underlying23 rfl (hszL a) ?_)
      | ((with_reducible show wpList _ _ _ (⟨some 13, _, _, _, _, _⟩ :: _) _ _); refine wpList_load_mid rfl 23 (.tmp 5) rfl (w.heap.size + 1) 0 rfl (hC b) _ (rxRng BB.out) Tryz.underlying23 rfl (hszL b) ?_)
      | (go_at_call 42; refine HP.out.mono ?_; rintro e1 w1 ⟨rfl, hw1⟩; have V1 : Hid (Below w.heap.size w w1) := nxTo V0.out hw1; clear hw1))
    go_ret
    exact ⟨rfl, V1.out⟩
  | some n =>
    cases hb : placeG G b with
    | none =>
      rw [ha, hb] at HP
      clear h h2 hg ha hb
      dsimp only at HP ⊢
      go_enter Tryz.func19, Tryz.ntmps19
      go_wp2_with (first
        | ((with_reducible show wpList _ _ _ (⟨some 12, _, _, _, _, _⟩ :: _) _ _); refine wpList_load_mid rfl 23 (.tmp 4) rfl w.heap.size 0 rfl (hC a) _ (rxRng BA.out) Tryz.underlying23 rfl (hszL a) ?_)
        | ((with_reducible show wpList _ _ _ (⟨some 13, _, _, _, _, _⟩ :: _) _ _); refine wpList_load_mid rfl 23 (.tmp 5) rfl (w.heap.size + 1) 0 rfl (hC b) _ (rxRng BB.out) Tryz.underlying23 rfl (hszL b) ?_)
        | (go_at_call 42; refine HP.out.mono ?_; rintro e1 w1 ⟨rfl, hw1⟩; have V1 : Hid (Below w.heap.size w w1) := nxTo V0.out hw1; clear hw1))
      go_ret
      exact ⟨rfl, V1.out⟩
    | some k =>
      rw [ha, hb] at HP
      dsimp only at HP ⊢
      have hn := (placeG_some ha).1
      have hk := (placeG_some hb).1
      rw [← hg.tl] at hn hk
      have hz : @decide (Anc G n k) (Classical.propDecidable _) = true ↔ n ≠ k ∧ (Und m.t.T k n ∨ ∃ c ∈ m.C n, Und m.t.T k c) := (@decide_eq_true_iff _ (Classical.propDecidable _)).trans (hg.ix.bef k (by rw [m.t.T_len]; exact hk))
      generalize @decide (Anc G n k) (Classical.propDecidable _) = z at hz
      have hmx := hg.t.max
      have HC : Hid (∀ W, Below w.heap.size w W → Calls Tryz.prog 44 #[.pointer (some ⟨m.q, 0, none⟩), .int .i64 (n : Int), .int .i64 (k : Int)] W fun e w' => e = .returned (.bool z) ∧ Below W.heap.size W w') := fun W hW => rx_isBefore W base m (h.later hW) n k (hg.cov (by omega)) hn hk z hz
      have c2 : ((w.alloc (.cells (hC a).toArray 23)).alloc (.cells (hC b).toArray 23)).cell? ⟨m.q, 1, none⟩ = some (.pointer (some ⟨m.t.q, 0, none⟩)) := h2.c.2.1
      clear h h2 hg ha hb hn hk hz
      go_enter Tryz.func19, Tryz.ntmps19
      go_wp2_with (first
        | ((with_reducible show wpList _ _ _ (⟨some 12, _, _, _, _, _⟩ :: _) _ _); refine wpList_load_mid rfl 23 (.tmp 4) rfl w.heap.size 0 rfl (hC a) _ (rxRng BA.out) Tryz.underlying23 rfl (hszL a) ?_)
        | ((with_reducible show wpList _ _ _ (⟨some 13, _, _, _, _, _⟩ :: _) _ _); refine wpList_load_mid rfl 23 (.tmp 5) rfl (w.heap.size + 1) 0 rfl (hC b) _ (rxRng BB.out) Tryz.underlying23 rfl (hszL b) ?_)
        | (go_at_call 42; refine HP.out.mono ?_; rintro e1 w1 ⟨rfl, hw1⟩; have V1 : Hid (Below w.heap.size w w1) := nxTo V0.out hw1; have c3 : w1.cell? ⟨m.q, 1, none⟩ = some (.pointer (some ⟨m.t.q, 0, none⟩)) := (H2.out.later hw1).c.2.1; clear hw1)
        | (go_at_call 44; refine (HC.out _ V1.out).mono ?_; rintro e2 w2 ⟨rfl, hb2⟩; have V2 : Hid (Below w.heap.size w w2) := nxTo V1.out hb2; clear hb2))
      go_ret
      exact ⟨rfl, V2.out⟩
end Go.Proofs.YtbfpckomgpkjgaaGreat

namespace Go.Proofs.YtbfpckomgpkjgaaGreat
open Go.RowKit Go.Maps Go.Shelf Go.Sort

theorem flat_hsC (l : List Hh) : flatK hC 32 l.toArray = (hsC l).toArray := by
  apply Array.ext
  · simp [hsC_len]
  · intro t h1 h2
    have ht : t < l.length * 32 := by simpa using h1
    have hd : t / 32 < l.length := by omega
    have hm : t % 32 < 32 := by omega
    have e : t = t / 32 * 32 + t % 32 := by omega
    have h3 := hsC_get l (t / 32) (t % 32) hd hm
    rw [← e] at h3
    have h4 := get_flatK hC 32 l.toArray t (by simpa using ht)
    have h5 : (flatK hC 32 l.toArray)[t]! = (flatK hC 32 l.toArray)[t] := getElem!_pos (flatK hC 32 l.toArray) t h1
    rw [h5] at h4
    rw [h4]
    have h6 : l.toArray[t / 32]! = l[t / 32] := by rw [getElem!_pos l.toArray (t / 32) (by simpa using hd)]; simp
    rw [h6]
    have h7 : t % 32 < (hC l[t / 32]).length := by rw [hC_len]; exact hm
    rw [getElem!_pos (hC l[t / 32]) (t % 32) h7]
    rw [List.getElem?_eq_getElem h7, List.getElem?_eq_getElem (by rw [hsC_len]; exact ht)] at h3
    injection h3 with h3
    simp [h3]
theorem grow_block {w : World} {os : Array Obj} {k : Nat} (h : k < w.heap.size) : (Sort.grow w os).heap[k]? = w.heap[k]? := by
  show (w.heap ++ os)[k]? = _
  rw [Array.getElem?_append_left h]
/-- The world behind a sort. -/
theorem sorted_world {w : World} {g : Nat} {t : TypeId} {cs : Array Value} (hB : Blk w g t cs) (m : Nat) (s : List Hh) (os : Array Obj) :
    Blk (sortWorldK hC 32 w g 0 m s.toArray os) g t (putCells id 0 (hsC s).toArray cs) ∧ Keeps (· = g) w (sortWorldK hC 32 w g 0 m s.toArray os) := by
  have e0 : sortWorldK hC 32 w g 0 m s.toArray os = Sort.grow (mapBlock (Sort.ahead w m) g (putCells id 0 (hsC s).toArray)) os := by
    rw [← flat_hsC]; rfl
  have hlt := hB.lt
  have hsz : (mapBlock (Sort.ahead w m) g (putCells id 0 (hsC s).toArray)).heap.size = w.heap.size := by simp [mapBlock, Sort.ahead]
  rw [e0]
  constructor
  · unfold Blk
    rw [grow_block (by rw [hsz]; exact hlt)]
    show ((w.heap.modify g (onCells _))[g]?) = _
    unfold Blk at hB
    rw [Array.getElem?_modify, if_pos rfl, hB]
    rfl
  · refine ⟨rfl, rfl, rfl, ?_, fun k hk hn => ?_⟩
    · show _ ≤ (Sort.grow _ os).heap.size
      simp only [Sort.grow, Array.size_append, hsz]
      omega
    · rw [grow_block (by rw [hsz]; exact hk)]
      show ((w.heap.modify g (onCells _))[k]?) = _
      rw [Array.getElem?_modify, if_neg (fun e => hn e.symm)]
theorem putCells_take {cs : Array Value} {vs : List Value} (h : vs.length ≤ cs.size) : (putCells id 0 vs.toArray cs).toList.take vs.length = vs := by
  apply List.ext_getElem
  · simp [putCells]; omega
  · intro i h1 h2
    have h3 : i < cs.size := by omega
    simp [putCells, h2]
theorem ltOf_ltH : ltOf cmpH = ltH := rfl
theorem Tryz.aggH : ∀ w, (isAgg (Tryz.sortH_ren.t 24)).run Tryz.prog w = .ok true w := Tryz.isAgg23
theorem Tryz.szH : ∀ w, (Go.sizeOf (Tryz.sortH_ren.t 24)).run Tryz.prog w = .ok 32 w := Tryz.sizeOf23
theorem holdsK_own {w : World} {g : Nat} {t : TypeId} {cs : Array Value} {l : List Hh} (hB : Blk w g t cs) (h : cs.toList.take (l.length * 32) = hsC l) : HoldsK hC 32 w g 0 l.toArray := by
  intro j hj
  rw [flat_hsC] at hj ⊢
  have hj' : j < l.length * 32 := by simpa [hsC_len] using hj
  refine ⟨?_, hB.frozen _⟩
  rw [hB.cell, Nat.zero_add]
  have e : (cs.toList.take (l.length * 32))[j]? = (hsC l)[j]? := by rw [h]
  rw [List.getElem?_take, if_pos hj'] at e
  rw [getElem!_pos (hsC l).toArray j hj]
  have h2 : j < (hsC l).length := by simpa using hj
  rw [List.getElem?_eq_getElem h2] at e
  simpa using e
theorem drewN_alloc2 (W : World) (o p : Obj) (q : Nat) : ((W.alloc o).alloc p).drewN q = Sort.grow (W.drewN q) #[o, p] := by
  rw [alloc_eq_grow, alloc_eq_grow, grow_grow]
  rfl
theorem sort_any (w : World) (base n c : Nat) (A : Option Addr) (l : List Hh) (hl : n = l.length) (h : w.ownsRow base 23 32 (.slice A n c) n (hsC l)) (hmax : n ≤ 1000000000) :
    Calls Tryz.prog 68 #[.slice A n c, .func (.func 69) #[] #[]] w fun e w' => e = .returned (.tuple #[]) ∧ w'.ownsRow base 23 32 (.slice A n c) n (hsC (srtH l)) ∧ Keeps (fun k => A.map Addr.block = some k) w w' := by
  subst hl
  by_cases h0 : l = []
  · subst h0
    refine (AnyF.slices_SortFunc_none { Tryz.sortH with } A c (.func (.func 69) #[] #[]) w).mono ?_
    rintro e w' ⟨he, rfl⟩
    exact ⟨he, by rw [show srtH [] = [] by simp [srtH]]; exact h, Keeps.refl _ _⟩
  · rcases h.2 with ⟨hv, hn⟩ | ⟨g, cap, cs, hv, hb, hh, hnc, hcm, hcs, ht⟩
    · exact absurd (List.eq_nil_of_length_eq_zero hn) h0
    · have hB : Blk w g 23 cs := hh
      injection hv with hA _ hc
      subst hA hc
      have eg : ∀ args w, (callFunc 69 args).run Tryz.prog w = .ok (.enter 69 args) w := enters_of Tryz.func69 (by kernel_rfl) rfl
      have hcmp : CmpLays Tryz.prog 69 #[] hC 32 cmpH g 0 l.toArray.size w := fun m os dk _ x y => (compare_any _ x y).mono fun e w' ⟨he, q, hq⟩ => ⟨he, q, #[.cells (hC x).toArray 23, .cells (hC y).toArray 23], hq.trans (drewN_alloc2 _ _ _ _)⟩
      have hcon := AnyQ.slices_SortFunc_total Tryz.sortH 32 Tryz.aggH Tryz.szH hC hC_len (fun x v hv => hC_one x v hv) cmpH swoH 69 #[] g 0 c l.toArray w eg hcmp (holdsK_own hB ht) hB.lt (by simp; omega) totH
      refine hcon.mono ?_
      rintro e w' ⟨he, m, os, rfl⟩
      obtain ⟨h1, h2⟩ := sorted_world hB m (srtH l) os
      refine ⟨he, ⟨?_, .inr ⟨g, c, _, rfl, hb, h1, hnc, hcm, ?_, ?_⟩⟩, h2.mono fun k _ e => by rw [e]; rfl⟩
      · rw [hsC_len, (srtH_perm l).length_eq]
      · simpa [putCells] using hcs
      · have h3 : (hsC (srtH l)).length = l.length * 32 := by rw [hsC_len, (srtH_perm l).length_eq]
        rw [← h3]
        exact putCells_take (by rw [h3, hcs]; exact Nat.mul_le_mul_right _ hnc)
end Go.Proofs.YtbfpckomgpkjgaaGreat

namespace Go.Proofs.YtbfpckomgpkjgaaGreat
open Go.RowKit

section
variable {P : Program} {w : World}
/-- A value stored into a part of a block. -/
theorem run_storePartD (g o : Nat) (t ty : TypeId) (old cells : Array Value) (v : Value) (hv : v.cells = cells) (hg : Blk w g t old) (hs : o + cells.size ≤ old.size) (hi : (P.info? ty).map (·.size) = some cells.size) (h1 : ∀ u ∈ cells.toList, u.oneCell' = true) :
    ∃ w', (storeVar ty ⟨g, o, none⟩ v).run P w = .ok () w' ∧ Blk w' g t (old.toList.take o ++ cells.toList ++ old.toList.drop (o + cells.size)).toArray ∧ Keeps (· = g) w w' ∧ w'.heap.size = w.heap.size := by
  have hst := run_storeCells_at P g o t cells.toList 0 old w hg (by simp; omega) h1
  cases hq : P.info? ty with
  | none => simp [hq] at hi
  | some i =>
    have hsz : cells.size = i.size := by simp [hq] at hi; omega
    refine ⟨w.setRow g (old.toList.take o ++ cells.toList ++ old.toList.drop (o + cells.size)).toArray, ?_, setRow_heap w g _ _ t _ hg, ⟨rfl, rfl, rfl, by simp, fun k _ hk => setRow_other w g k _ (by exact hk)⟩, by simp⟩
    simp only [Nat.add_zero, Array.length_toList] at hst
    simp [storeVar, sizeOf, typeInfo, hq, hv, hsz] at hst ⊢
    exact hst
theorem wpList_store_partD {ops : Array Oper} {rest : List Oper} {op : Oper} {a : Act} {Q : Exit → Act → World → Prop} (hgd : op.guard = none) (ty : TypeId) (x y : Operand) (ho : op.op = .store ty x y)
    (g o : Nat) (t : TypeId) (old cells new : Array Value) (v : Value) (hx : a.eval x = .pointer (some ⟨g, o, none⟩)) (hy : a.eval y = v) (hv : v.cells = cells) (hg : Blk w g t old) (hs : o + cells.size ≤ old.size)
    (hi : (P.info? ty).map (·.size) = some cells.size) (h1 : ∀ u ∈ cells.toList, u.oneCell' = true) (hn : (old.toList.take o ++ cells.toList ++ old.toList.drop (o + cells.size)).toArray = new)
    (h : ∀ w', Blk w' g t new → Keeps (· = g) w w' → w'.heap.size = w.heap.size → wpList P ops Q rest (a.put op.dst undef) w') : wpList P ops Q (op :: rest) a w := by
  refine wpList_plain hgd fun _ hK => ?_
  obtain ⟨w', hr, h2, h3, h4⟩ := run_storePartD (P := P) g o t ty old cells v hv hg hs hi h1
  unfold Oper.wp execOp
  simp only [ho, hx, hy, Instr.storeAt, Instr.sureAddr, Sem.run_bind, Sem.run_pure, Result.andThen_ok, hr]
  exact hK _ _ (h w' (hn ▸ h2) h3 h4)
end
end Go.Proofs.YtbfpckomgpkjgaaGreat

namespace Go.Proofs.YtbfpckomgpkjgaaGreat
open Go.RowKit

def setMany : Array Value → Nat → List Value → Array Value
  | cs, _, [] => cs
  | cs, o, v :: vs => setMany (cs.setIfInBounds o v) (o + 1) vs
theorem setMany_cons (cs : Array Value) (o : Nat) (v : Value) (vs : List Value) : setMany cs o (v :: vs) = setMany (cs.setIfInBounds o v) (o + 1) vs := rfl
theorem setMany_size (vs : List Value) : ∀ (cs : Array Value) (o : Nat), (setMany cs o vs).size = cs.size := by
  induction vs with
  | nil => intros; rfl
  | cons v vs ih => intro cs o; rw [setMany_cons, ih, Array.size_setIfInBounds]
theorem setMany_get (vs : List Value) : ∀ (cs : Array Value) (o j : Nat), (j < o ∨ o + vs.length ≤ j) → (setMany cs o vs)[j]? = cs[j]? := by
  induction vs with
  | nil => intros; rfl
  | cons v vs ih =>
    intro cs o j h
    rw [List.length_cons] at h
    rw [setMany_cons, ih _ _ _ (by omega), Array.getElem?_setIfInBounds, if_neg (by omega)]
theorem setMany_in (vs : List Value) : ∀ (cs : Array Value) (o : Nat), o + vs.length ≤ cs.size → ∀ j (hj : j < vs.length), (setMany cs o vs)[o + j]? = some vs[j] := by
  induction vs with
  | nil => intro cs o _ j hj; cases hj
  | cons v vs ih =>
    intro cs o h j hj
    rw [List.length_cons] at h hj
    rw [setMany_cons]
    cases j with
    | zero => rw [setMany_get _ _ _ _ (by omega), Array.getElem?_setIfInBounds]; simp; omega
    | succ j =>
      have h1 := ih (cs.setIfInBounds o v) (o + 1) (by rw [Array.size_setIfInBounds]; omega) j (by omega)
      rw [show o + 1 + j = o + (j + 1) by omega] at h1
      rw [h1]
      rfl
theorem blk_setCells {g : Nat} {t : TypeId} (vs : List Value) : ∀ (w : World) (cs : Array Value) (o : Nat), Blk w g t cs → Blk (w.setCells g o vs) g t (setMany cs o vs) := by
  induction vs with
  | nil => intro w cs o h; exact h
  | cons v vs ih => intro w cs o h; exact ih _ _ _ (h.set o v)
theorem keeps_setCells {g : Nat} (vs : List Value) : ∀ (w : World) (o : Nat), Keeps (· = g) w (w.setCells g o vs) := by
  induction vs with
  | nil => intro w o; exact Keeps.refl _ _
  | cons v vs ih => intro w o; exact ((Keeps.refl (· = g) w).setCell rfl v).trans (ih _ _)
theorem take_of_get {cs : Array Value} {xs : List Value} (h : xs.length ≤ cs.size) (hg : ∀ j (hj : j < xs.length), cs[j]? = some xs[j]) : cs.toList.take xs.length = xs := by
  apply List.ext_getElem
  · rw [List.length_take]
    have h5 : cs.toList.length = cs.size := Array.length_toList
    omega
  · intro i h1 h2
    have h3 := hg i h2
    rw [List.getElem_take, Array.getElem_toList]
    rw [Array.getElem?_eq_getElem (Nat.lt_of_lt_of_le h2 h)] at h3
    exact Option.some.inj h3
end Go.Proofs.YtbfpckomgpkjgaaGreat
