/-
  dag: the document's list and the graph: the same; pure.
-/
import Derived.Test.YtndkjmmmneianaaDoorDgT
namespace Go.Proofs.YtndkjmmmneianaaDoor
open Go.RowKit

def dataG (G : Gr) : List (Hh × List Hh) := (List.range G.length).map fun n => (idG G n, risH ((parG G n).map (idG G)))
def dataR (l : List RNd) : List (Hh × List Hh) := l.map fun x => (x.id, x.ps)
def RelG (l : List RNd) (G : Gr) : Prop := dataR l = dataG G
theorem RelG.len {l : List RNd} {G : Gr} (h : RelG l G) : l.length = G.length := by
  have := congrArg List.length h
  simpa [dataR, dataG] using this
theorem RelG.at_ {l : List RNd} {G : Gr} (h : RelG l G) {n : Nat} (hn : n < l.length) : l[n].id = idG G n ∧ l[n].ps = risH ((parG G n).map (idG G)) := by
  have h1 : (dataR l)[n]? = (dataG G)[n]? := by rw [h]
  have hg : n < G.length := by rw [← h.len]; exact hn
  unfold dataR dataG at h1
  rw [List.getElem?_map, List.getElem?_map, List.getElem?_eq_getElem hn, List.getElem?_eq_getElem (by simpa using hg)] at h1
  simp only [Option.map_some, List.getElem_range, Option.some.injEq, Prod.mk.injEq] at h1
  exact h1
theorem RelG.place {l : List RNd} {G : Gr} (h : RelG l G) (x : Hh) : atI l x = match placeG G x with | some n => (n : Int) | none => -1 := by
  cases hp : placeG G x with
  | some n =>
    obtain ⟨h1, h2⟩ := placeG_some hp
    have hn : n < l.length := by rw [h.len]; exact h1
    refine atI_at hn ((h.at_ hn).1.trans h2) ?_
    intro y hy e
    obtain ⟨j, hj, rfl⟩ := List.mem_take_iff_getElem.1 hy
    have hjn : j < n := by omega
    have hjl : j < l.length := by omega
    have h3 := hp
    unfold placeG at h3
    rw [List.findIdx?_eq_some_iff_getElem] at h3
    obtain ⟨_, _, h5⟩ := h3
    have h6 := h5 j hjn
    have h7 : idG G j = x := (h.at_ hjl).1.symm.trans e
    rw [idG_at (by omega)] at h7
    exact h6 (beq_iff_eq.2 h7)
  | none =>
    refine atI_none fun y hy e => ?_
    obtain ⟨j, hj, rfl⟩ := List.getElem_of_mem hy
    exact placeG_none.1 hp j (by rw [← h.len]; exact hj) ((h.at_ hj).1.symm.trans e)
theorem RelG.addE {l : List RNd} {G : Gr} (h : RelG l G) (id : Hh) (ps : List Hh) : rAddE l id ps = (Proofs.YtndkjmmmneianaaDoor.addE G id ps : Int) := by
  have hat : ∀ x, (0 ≤ atI l x ↔ ∃ n, placeG G x = some n) := fun x => by
    rw [h.place]
    cases placeG G x with
    | none => simp
    | some n => simp
  have hng : ∀ x, (atI l x < 0 ↔ placeG G x = none) := fun x => by
    rw [h.place]
    cases placeG G x with
    | none => simp
    | some n => simp
  have hr : risH ps = [] ↔ ps = [] := ⟨fun e => List.eq_nil_iff_forall_not_mem.2 fun x hx => (by have h9 := mem_risH.2 hx; rw [e] at h9; exact absurd h9 (by simp)), fun e => by rw [e]; rfl⟩
  have hx : (∃ p ∈ risH ps, atI l p < 0) ↔ ps.any (fun p => (placeG G p).isNone) = true := by
    rw [List.any_eq_true]
    constructor
    · rintro ⟨p, hp, h1⟩
      exact ⟨p, mem_risH.1 hp, by rw [(hng p).1 h1]; rfl⟩
    · rintro ⟨p, hp, h1⟩
      exact ⟨p, mem_risH.2 hp, (hng p).2 (Option.isNone_iff_eq_none.1 h1)⟩
  unfold rAddE Proofs.YtndkjmmmneianaaDoor.addE
  by_cases h1 : (placeG G id).isSome = true
  · rw [if_pos ((hat id).2 (Option.isSome_iff_exists.1 h1)), if_pos h1]; rfl
  · rw [if_neg (fun h => h1 (Option.isSome_iff_exists.2 ((hat id).1 h))), if_neg h1]
    by_cases h2 : ps = [] ∨ ¬ (risH ps).length = ps.length
    · rw [if_pos (h2.imp hr.2 fun h => h), if_pos h2]; rfl
    · rw [if_neg (fun h => h2 (h.imp hr.1 fun h => h)), if_neg h2]
      by_cases h3 : ps.any (fun p => (placeG G p).isNone) = true
      · rw [if_pos (hx.2 h3), if_pos h3]; rfl
      · rw [if_neg (fun h => h3 (hx.1 h)), if_neg h3]; rfl
theorem RelG.snoc {l : List RNd} {G : Gr} (h : RelG l G) (o : OkG G) {id : Hh} {ps : List Hh} (h0 : Proofs.YtndkjmmmneianaaDoor.addE G id ps = 0) (A : Option Addr) (c : Nat) : RelG (l ++ [⟨id, risH ps, A, c⟩]) (addG G id ps) := by
  have e1 : dataR (l ++ [(⟨id, risH ps, A, c⟩ : RNd)]) = dataR l ++ [(id, risH ps)] := by simp [dataR]
  have e2 : addG G id ps = G ++ [addN G id ps] := by unfold addG; rw [if_pos h0]
  have e3 : dataG (G ++ [addN G id ps]) = dataG G ++ [(id, risH ps)] := by
    unfold dataG
    rw [List.length_append, List.length_singleton, List.range_succ, List.map_append]
    congr 1
    · refine List.map_congr_left fun n hn => ?_
      have hn := List.mem_range.1 hn
      rw [idG_snoc hn, parG_snoc hn]
      congr 2
      refine List.map_congr_left fun p hp => ?_
      exact idG_snoc (Nat.lt_trans (o.par n p hp) hn)
    · rw [List.map_singleton, idG_new, parG_new]
      show [(id, risH (((ps.map fun p => (placeG G p).getD 0)).map (idG (G ++ [addN G id ps]))))] = _
      have e4 : ((ps.map fun p => (placeG G p).getD 0)).map (idG (G ++ [addN G id ps])) = ps := by
        rw [List.map_map]
        refine (List.map_congr_left fun p hp => ?_).trans (List.map_id ps)
        obtain ⟨n, hn⟩ := (addE_zero h0).2.2.2 p hp
        obtain ⟨h1, h2⟩ := placeG_some hn
        show idG (G ++ [addN G id ps]) ((placeG G p).getD 0) = p
        rw [hn, Option.getD_some, idG_snoc h1, h2]
      rw [e4]
  show dataR _ = dataG _
  rw [e1, e2, e3, show dataR l = dataG G from h]
theorem RelG.new (r : Hh) (A : Option Addr) (c : Nat) : RelG [⟨r, [], A, c⟩] (newG r) := by
  show dataR _ = dataG _
  simp [dataR, dataG, newG, idG, parG, risH]
theorem RelG.same {l : List RNd} {G : Gr} (h : RelG l G) {id : Hh} {ps : List Hh} (h0 : Proofs.YtndkjmmmneianaaDoor.addE G id ps ≠ 0) : RelG l (addG G id ps) := by
  unfold addG
  rw [if_neg h0]
  exact h
end Go.Proofs.YtndkjmmmneianaaDoor
