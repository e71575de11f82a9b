/-
  dag: a new graph; one more.
-/
import Derived.Test.YtndkjmmmneianaaDoorDgA
namespace Go.Proofs.YtndkjmmmneianaaDoor
open Go.RowKit Go.Maps

theorem put_is {w w' : World} {base : Nat} {m m' : GrM} {G : Gr} {id : Hh} {ps : List Nat} {pA : Option Addr} (hg : GrI0 m G) (hp : PutTo w base m id ps pA m' w') (h1 : placeG G id = none) (h2 : ∀ p ∈ ps, p < G.length) (h3 : ps.Nodup) (hm : m.L.length ≤ 999999) : GrI0 m' (G ++ [⟨id, ps⟩]) := by
  have hN : m.L.length = G.length := hg.len
  have hok := snoc_ok hg.ok (x := ⟨id, ps⟩) h1 h2 h3
  have hnew : m.L.length < m'.L.length := by rw [hp.l]; omega
  refine ⟨hok, ?_, ?_, ?_, ?_, ?_, ?_, ?_, ?_⟩
  · rw [hp.ids, hg.ids]; simp
  · rw [hp.ks, hp.ids, hg.ks]
  · rw [hp.l, hN]; simp
  · intro n hn
    rw [hp.l] at hn
    by_cases e : n < m.L.length
    · rw [(hp.x n e _).1, hg.par n e, parG_snoc (by omega)]
    · obtain rfl : n = m.L.length := by omega
      rw [(hp.n _).1, hN, parG_new]
  · intro n hn p
    have hn' := hn
    rw [hp.l] at hn'
    by_cases e : n < m.L.length
    · rw [(hp.x n e hn).2.2]
      have h4 := hg.kids n e p
      by_cases hp1 : p < G.length
      · rw [parG_snoc hp1, ← h4]
        split
        · simp; omega
        · exact Iff.rfl
      · have h5 : p ∉ m.L[n].kids := fun h => by have := parG_lt (h4.1 h); omega
        by_cases hp2 : p = G.length
        · subst hp2
          rw [parG_new]
          split
          · next h6 => simp [hN, h6]
          · next h6 => exact ⟨fun h => absurd h h5, fun h => absurd h h6⟩
        · have h7 : n ∉ parG (G ++ [⟨id, ps⟩]) p := fun h => by have := parG_lt h; simp at this; omega
          split
          · constructor
            · intro h
              rcases List.mem_append.1 h with h | h
              · exact absurd h h5
              · have : p = m.L.length := by simpa using h
                omega
            · intro h; exact absurd h h7
          · exact ⟨fun h => absurd h h5, fun h => absurd h h7⟩
    · obtain rfl : n = m.L.length := by omega
      rw [(hp.n hn).2.1]
      constructor
      · intro h; cases h
      · intro h
        have h4 := hok.par _ _ h
        have h5 := parG_lt h
        simp at h5
        omega
  · intro n hn
    have hn' := hn
    rw [hp.l] at hn'
    by_cases e : n < m.L.length
    · rw [(hp.x n e hn).2.2]
      split
      · rw [List.nodup_append]
        refine ⟨hg.kdis n e, by simp, fun a ha b hb e2 => ?_⟩
        have : b = m.L.length := by simpa using hb
        have := parG_lt ((hg.kids n e a).1 ha)
        omega
      · exact hg.kdis n e
    · obtain rfl : n = m.L.length := by omega
      rw [(hp.n hn).2.1]
      simp
  · intro n hn
    have hn' := hn
    rw [hp.l] at hn'
    by_cases e : n < m.L.length
    · rw [(hp.x n e hn).2.1]
      obtain ⟨r1, r2, r3⟩ := hg.row n e
      exact ⟨r1, r2, fun k => (r3 k).trans (anc_old hg.ok (by omega)).symm⟩
    · obtain rfl : n = m.L.length := by omega
      obtain ⟨r1, r2, r3⟩ := (hp.n hn).2.2
      refine ⟨?_, r2, fun k => ?_⟩
      · have := mxP_le h2; rw [r1]; omega
      · have key := anc_new (x := ⟨id, ps⟩) hg.ok h2 (m := k)
        rw [← hN] at key
        rw [r3, key]
        constructor
        · rintro ⟨p, hp1, h | ⟨hp2, h⟩⟩
          · exact ⟨p, hp1, .inl h⟩
          · exact ⟨p, hp1, .inr (((hg.row p hp2).2.2 k).1 h)⟩
        · rintro ⟨p, hp1, h | h⟩
          · exact ⟨p, hp1, .inl h⟩
          · have hp2 : p < m.L.length := by have := h2 p hp1; omega
            exact ⟨p, hp1, .inr ⟨hp2, ((hg.row p hp2).2.2 k).2 h⟩⟩
  · rw [hp.l]; omega
/-- An empty one. -/
def zeroM (q mb : Nat) : GrM := ⟨q, mb, none, 0, none, 0, [], [], []⟩
theorem zeroM_is (q mb : Nat) : GrI0 (zeroM q mb) [] := ⟨nilG_ok, rfl, rfl, rfl, fun n h => absurd h (Nat.not_lt_zero _), fun n h => absurd h (Nat.not_lt_zero _), fun n h => absurd h (Nat.not_lt_zero _), fun n h => absurd h (Nat.not_lt_zero _), Nat.zero_le _⟩
theorem zeroM_ok {w : World} {base q mb : Nat} (hb : Blk w q 58 #[.slice none 0 0, .slice none 0 0, .map (some mb)]) (hq : base ≤ q) (hm : base ≤ mb) (hmap : w.ownsMap Tryd.prog 23 (plainElem Tryd.prog 3) mb 0 (mapD [])) : GrOk w base (zeroM q mb) where
  b := hb
  qb := hq
  mbb := hm
  ids := World.ownsRow_nil _ _ _ _
  nds := World.ownsRow_nil _ _ _ _
  map := hmap
  par x hx := absurd hx (by simp [zeroM])
  row x hx := absurd hx (by simp [zeroM])
  kid x hx := absurd hx (by simp [zeroM])
  sep k _ hr := by obtain ⟨x, hx, _⟩ := hr; simp [zeroM] at hx
  kd i j hi := absurd hi (Nat.not_lt_zero _)
set_option maxHeartbeats 1000000 in
set_option maxRecDepth 100000 in
theorem new_any (w : World) (r : Hh) : Calls Tryd.prog 31 #[.agg (hC r).toArray] w fun e w' => ∃ m, e = .returned (.pointer (some ⟨m.q, 0, none⟩)) ∧ GrOk w' w.heap.size m ∧ GrIs m (newG r) ∧ Below w.heap.size w w' := by
  have hmm : ∀ wq : World, (Instr.makeMap 56 none).run Tryd.prog wq = .ok (.map (some wq.heap.size)) (wq.alloc (.map #[] 0)) := fun wq => by
    unfold Instr.makeMap
    simp [run_underlying Tryd.underlying56]
  have hbd : ∀ (b : Nat) (wq : World), (Instr.build 58 #[(2, .map (some b))]).run Tryd.prog wq = .ok (.agg #[.slice none 0 0, .slice none 0 0, .map (some b)]) wq := fun b wq => by kernel_rfl
  have V1 : Hid (Below w.heap.size w (((w.alloc (.cells (hC r).toArray 23)).alloc (.map #[] 0)).alloc (.cells #[.slice none 0 0, .slice none 0 0, .map (some (w.heap.size + 1))] 58))) := nxAlloc (nxAlloc (nxAlloc (nxRefl w) _) _) _
  have B1 : Hid (Blk (((w.alloc (.cells (hC r).toArray 23)).alloc (.map #[] 0)).alloc (.cells #[.slice none 0 0, .slice none 0 0, .map (some (w.heap.size + 1))] 58)) (w.heap.size + 2) 58 #[.slice none 0 0, .slice none 0 0, .map (some (w.heap.size + 1))]) := blkNew (by simp) rfl
  have M0 : ((w.alloc (.cells (hC r).toArray 23)).alloc (.map #[] 0)).ownsMap Tryd.prog 23 (plainElem Tryd.prog 3) (w.heap.size + 1) 0 (mapD []) := by
    have := World.ownsMap_made (w.alloc (.cells (hC r).toArray 23)) Tryd.prog 23 (plainElem (H := Unit) Tryd.prog 3)
    rw [World.size_alloc] at this
    exact this
  have M1 : Hid ((((w.alloc (.cells (hC r).toArray 23)).alloc (.map #[] 0)).alloc (.cells #[.slice none 0 0, .slice none 0 0, .map (some (w.heap.size + 1))] 58)).ownsMap Tryd.prog 23 (plainElem Tryd.prog 3) (w.heap.size + 1) 0 (mapD [])) := (Keeps.of_below (nxAlloc (nxRefl _) _) (fun _ => False)).map M0 (fun h => h)
  have R1 : Hid (Blk (((w.alloc (.cells (hC r).toArray 23)).alloc (.map #[] 0)).alloc (.cells #[.slice none 0 0, .slice none 0 0, .map (some (w.heap.size + 1))] 58)) w.heap.size 23 (hC r).toArray) := Blk.alloc (Blk.alloc (show Blk (w.alloc (.cells (hC r).toArray 23)) w.heap.size 23 (hC r).toArray from heap_alloc_new w _) _) _
  have Z1 := Lib.hid (hszL r)
  clear M0
  go_enter Tryd.func31, Tryd.ntmps31
  go_wp2_with (first
    | ((with_reducible show wpList _ _ _ (⟨some 8, _, _, _, _, _⟩ :: _) _ _); refine wpList_load_mid rfl 23 (.tmp 1) rfl w.heap.size 0 rfl (hC r) _ (fun j v hv => by rw [Nat.zero_add, R1.out.cell j]; simpa using hv) Tryd.underlying23 rfl Z1.out ?_)
    | (go_at_call 53; refine (put2_any _ w.heap.size (zeroM (w.heap.size + 2) (w.heap.size + 1)) (zeroM_ok B1.out (by omega) (by omega) M1.out) rfl rfl (fun n h => absurd h (Nat.not_lt_zero _)) (Nat.zero_le _) (fun n h => absurd h (Nat.not_lt_zero _)) r none 0 [] (SeesV.nil) (by simp) (by simp) (fun h => absurd rfl h)).mono ?_; rintro e1 w1 ⟨rfl, m1, hp1⟩; have P1 := Lib.hid hp1; clear hp1))
  go_ret
  have hi := put_is (zeroM_is (w.heap.size + 2) (w.heap.size + 1)) P1.out rfl (by simp) (by simp) (Nat.zero_le _)
  refine ⟨m1, by rw [P1.out.q]; rfl, P1.out.ok, ⟨hi, by simp [newG]⟩, V1.out.trans (P1.out.k.below V1.out.size (fun k hk hf => ?_))⟩
  rcases hf with h | h | h | h | ⟨x, hx, _⟩
  · have : k = w.heap.size + 2 := h; omega
  · have : k = w.heap.size + 1 := h; omega
  · cases h
  · cases h
  · simp [zeroM] at hx
end Go.Proofs.YtndkjmmmneianaaDoor
