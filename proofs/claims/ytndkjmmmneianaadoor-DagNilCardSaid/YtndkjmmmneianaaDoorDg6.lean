/-
  dag: hashes that are sorted.
-/
import Derived.Test.YtndkjmmmneianaaDoorDg5
import Derived.Test.YtndkjmmmneianaaDoorShD
namespace Go.Proofs.YtndkjmmmneianaaDoor
open Go.RowKit Go.Maps Go.Shelf Go.Sort

theorem flat_hsC (l : List Hh) : flatK hC 32 l.toArray = (hsC l).toArray := by
  apply Array.ext
  · simp [hsC_len]
  · intro t h1 h2
    have ht : t < l.length * 32 := by simpa using h1
    have hd : t / 32 < l.length := by omega
    have hm : t % 32 < 32 := by omega
    have e : t = t / 32 * 32 + t % 32 := by omega
    have h3 := hsC_get l (t / 32) (t % 32) hd hm
    rw [← e] at h3
    have h4 := get_flatK hC 32 l.toArray t (by simpa using ht)
    have h5 : (flatK hC 32 l.toArray)[t]! = (flatK hC 32 l.toArray)[t] := getElem!_pos (flatK hC 32 l.toArray) t h1
    rw [h5] at h4
    rw [h4]
    have h6 : l.toArray[t / 32]! = l[t / 32] := by rw [getElem!_pos l.toArray (t / 32) (by simpa using hd)]; simp
    rw [h6]
    have h7 : t % 32 < (hC l[t / 32]).length := by rw [hC_len]; exact hm
    rw [getElem!_pos (hC l[t / 32]) (t % 32) h7]
    rw [List.getElem?_eq_getElem h7, List.getElem?_eq_getElem (by rw [hsC_len]; exact ht)] at h3
    injection h3 with h3
    simp [h3]
theorem grow_block {w : World} {os : Array Obj} {k : Nat} (h : k < w.heap.size) : (Sort.grow w os).heap[k]? = w.heap[k]? := by
  show (w.heap ++ os)[k]? = _
  rw [Array.getElem?_append_left h]
/-- The world behind a sort. -/
theorem sorted_world {w : World} {g : Nat} {t : TypeId} {cs : Array Value} (hB : Blk w g t cs) (m : Nat) (s : List Hh) (os : Array Obj) :
    Blk (sortWorldK hC 32 w g 0 m s.toArray os) g t (putCells id 0 (hsC s).toArray cs) ∧ Keeps (· = g) w (sortWorldK hC 32 w g 0 m s.toArray os) := by
  have e0 : sortWorldK hC 32 w g 0 m s.toArray os = Sort.grow (mapBlock (Sort.ahead w m) g (putCells id 0 (hsC s).toArray)) os := by
    rw [← flat_hsC]; rfl
  have hlt := hB.lt
  have hsz : (mapBlock (Sort.ahead w m) g (putCells id 0 (hsC s).toArray)).heap.size = w.heap.size := by simp [mapBlock, Sort.ahead]
  rw [e0]
  constructor
  · unfold Blk
    rw [grow_block (by rw [hsz]; exact hlt)]
    show ((w.heap.modify g (onCells _))[g]?) = _
    unfold Blk at hB
    rw [Array.getElem?_modify, if_pos rfl, hB]
    rfl
  · refine ⟨rfl, rfl, rfl, ?_, fun k hk hn => ?_⟩
    · show _ ≤ (Sort.grow _ os).heap.size
      simp only [Sort.grow, Array.size_append, hsz]
      omega
    · rw [grow_block (by rw [hsz]; exact hk)]
      show ((w.heap.modify g (onCells _))[k]?) = _
      rw [Array.getElem?_modify, if_neg (fun e => hn e.symm)]
theorem putCells_take {cs : Array Value} {vs : List Value} (h : vs.length ≤ cs.size) : (putCells id 0 vs.toArray cs).toList.take vs.length = vs := by
  apply List.ext_getElem
  · simp [putCells]; omega
  · intro i h1 h2
    have h3 : i < cs.size := by omega
    simp [putCells, h2]
theorem ltOf_ltH : ltOf cmpH = ltH := rfl
theorem Tryd.aggH : ∀ w, (isAgg (Tryd.sortH_ren.t 24)).run Tryd.prog w = .ok true w := Tryd.isAgg23
theorem Tryd.szH : ∀ w, (Go.sizeOf (Tryd.sortH_ren.t 24)).run Tryd.prog w = .ok 32 w := Tryd.sizeOf23
theorem holdsK_own {w : World} {g : Nat} {t : TypeId} {cs : Array Value} {l : List Hh} (hB : Blk w g t cs) (h : cs.toList.take (l.length * 32) = hsC l) : HoldsK hC 32 w g 0 l.toArray := by
  intro j hj
  rw [flat_hsC] at hj ⊢
  have hj' : j < l.length * 32 := by simpa [hsC_len] using hj
  refine ⟨?_, hB.frozen _⟩
  rw [hB.cell, Nat.zero_add]
  have e : (cs.toList.take (l.length * 32))[j]? = (hsC l)[j]? := by rw [h]
  rw [List.getElem?_take, if_pos hj'] at e
  rw [getElem!_pos (hsC l).toArray j hj]
  have h2 : j < (hsC l).length := by simpa using hj
  rw [List.getElem?_eq_getElem h2] at e
  simpa using e
theorem drewN_alloc2 (W : World) (o p : Obj) (q : Nat) : ((W.alloc o).alloc p).drewN q = Sort.grow (W.drewN q) #[o, p] := by
  rw [alloc_eq_grow, alloc_eq_grow, grow_grow]
  rfl
theorem sort_any (w : World) (base n c : Nat) (A : Option Addr) (l : List Hh) (hl : n = l.length) (h : w.ownsRow base 23 32 (.slice A n c) n (hsC l)) (hmax : n ≤ 1000000000) :
    Calls Tryd.prog 61 #[.slice A n c, .func (.func 62) #[] #[]] w fun e w' => e = .returned (.tuple #[]) ∧ w'.ownsRow base 23 32 (.slice A n c) n (hsC (srtH l)) ∧ Keeps (fun k => A.map Addr.block = some k) w w' := by
  subst hl
  by_cases h0 : l = []
  · subst h0
    refine (AnyF.slices_SortFunc_none { Tryd.sortH with } A c (.func (.func 62) #[] #[]) w).mono ?_
    rintro e w' ⟨he, rfl⟩
    exact ⟨he, by rw [show srtH [] = [] by simp [srtH]]; exact h, Keeps.refl _ _⟩
  · rcases h.2 with ⟨hv, hn⟩ | ⟨g, cap, cs, hv, hb, hh, hnc, hcm, hcs, ht⟩
    · exact absurd (List.eq_nil_of_length_eq_zero hn) h0
    · have hB : Blk w g 23 cs := hh
      injection hv with hA _ hc
      subst hA hc
      have eg : ∀ args w, (callFunc 62 args).run Tryd.prog w = .ok (.enter 62 args) w := enters_of Tryd.func62 (by kernel_rfl) rfl
      have hcmp : CmpLays Tryd.prog 62 #[] hC 32 cmpH g 0 l.toArray.size w := fun m os dk _ x y => (compare_any _ x y).mono fun e w' ⟨he, q, hq⟩ => ⟨he, q, #[.cells (hC x).toArray 23, .cells (hC y).toArray 23], hq.trans (drewN_alloc2 _ _ _ _)⟩
      have hcon := AnyQ.slices_SortFunc_total Tryd.sortH 32 Tryd.aggH Tryd.szH hC hC_len (fun x v hv => hC_one x v hv) cmpH swoH 62 #[] g 0 c l.toArray w eg hcmp (holdsK_own hB ht) hB.lt (by simp; omega) totH
      refine hcon.mono ?_
      rintro e w' ⟨he, m, os, rfl⟩
      obtain ⟨h1, h2⟩ := sorted_world hB m (srtH l) os
      refine ⟨he, ⟨?_, .inr ⟨g, c, _, rfl, hb, h1, hnc, hcm, ?_, ?_⟩⟩, h2.mono fun k _ e => by rw [e]; rfl⟩
      · rw [hsC_len, (srtH_perm l).length_eq]
      · simpa [putCells] using hcs
      · have h3 : (hsC (srtH l)).length = l.length * 32 := by rw [hsC_len, (srtH_perm l).length_eq]
        rw [← h3]
        exact putCells_take (by rw [h3, hcs]; exact Nat.mul_le_mul_right _ hnc)
end Go.Proofs.YtndkjmmmneianaaDoor
