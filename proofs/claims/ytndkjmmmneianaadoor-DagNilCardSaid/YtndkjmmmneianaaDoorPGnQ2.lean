/-
  dag: the document's list and the graph: the same; pure.
  dag: the graph and the document's, side by side.
-/
import Derived.Test.YtndkjmmmneianaaDoorDgT
namespace Go.Proofs.YtndkjmmmneianaaDoor
open Go.RowKit

def dataG (G : Gr) : List (Hh × List Hh) := (List.range G.length).map fun n => (idG G n, risH ((parG G n).map (idG G)))
def dataR (l : List RNd) : List (Hh × List Hh) := l.map fun x => (x.id, x.ps)
def RelG (l : List RNd) (G : Gr) : Prop := dataR l = dataG G
theorem RelG.len {l : List RNd} {G : Gr} (h : RelG l G) : l.length = G.length := by
  have := congrArg List.length h
  simpa [dataR, dataG] using this
theorem RelG.at_ {l : List RNd} {G : Gr} (h : RelG l G) {n : Nat} (hn : n < l.length) : l[n].id = idG G n ∧ l[n].ps = risH ((parG G n).map (idG G)) := by
  have h1 : (dataR l)[n]? = (dataG G)[n]? := by rw [h]
  have hg : n < G.length := by rw [← h.len]; exact hn
  unfold dataR dataG at h1
  rw [List.getElem?_map, List.getElem?_map, List.getElem?_eq_getElem hn, List.getElem?_eq_getElem (by simpa using hg)] at h1
  simp only [Option.map_some, List.getElem_range, Option.some.injEq, Prod.mk.injEq] at h1
  exact h1
theorem RelG.place {l : List RNd} {G : Gr} (h : RelG l G) (x : Hh) : atI l x = match placeG G x with | some n => (n : Int) | none => -1 := by
  cases hp : placeG G x with
  | some n =>
    obtain ⟨h1, h2⟩ := placeG_some hp
    have hn : n < l.length := by rw [h.len]; exact h1
    refine atI_at hn ((h.at_ hn).1.trans h2) ?_
    intro y hy e
    obtain ⟨j, hj, rfl⟩ := List.mem_take_iff_getElem.1 hy
    have hjn : j < n := by omega
    have hjl : j < l.length := by omega
    have h3 := hp
    unfold placeG at h3
    rw [List.findIdx?_eq_some_iff_getElem] at h3
    obtain ⟨_, _, h5⟩ := h3
    have h6 := h5 j hjn
    have h7 : idG G j = x := (h.at_ hjl).1.symm.trans e
    rw [idG_at (by omega)] at h7
    exact h6 (beq_iff_eq.2 h7)
  | none =>
    refine atI_none fun y hy e => ?_
    obtain ⟨j, hj, rfl⟩ := List.getElem_of_mem hy
    exact placeG_none.1 hp j (by rw [← h.len]; exact hj) ((h.at_ hj).1.symm.trans e)
theorem RelG.addE {l : List RNd} {G : Gr} (h : RelG l G) (id : Hh) (ps : List Hh) : rAddE l id ps = (Proofs.YtndkjmmmneianaaDoor.addE G id ps : Int) := by
  have hat : ∀ x, (0 ≤ atI l x ↔ ∃ n, placeG G x = some n) := fun x => by
    rw [h.place]
    cases placeG G x with
    | none => simp
    | some n => simp
  have hng : ∀ x, (atI l x < 0 ↔ placeG G x = none) := fun x => by
    rw [h.place]
    cases placeG G x with
    | none => simp
    | some n => simp
  have hr : risH ps = [] ↔ ps = [] := ⟨fun e => List.eq_nil_iff_forall_not_mem.2 fun x hx => (by have h9 := mem_risH.2 hx; rw [e] at h9; exact absurd h9 (by simp)), fun e => by rw [e]; rfl⟩
  have hx : (∃ p ∈ risH ps, atI l p < 0) ↔ ps.any (fun p => (placeG G p).isNone) = true := by
    rw [List.any_eq_true]
    constructor
    · rintro ⟨p, hp, h1⟩
      exact ⟨p, mem_risH.1 hp, by rw [(hng p).1 h1]; rfl⟩
    · rintro ⟨p, hp, h1⟩
      exact ⟨p, mem_risH.2 hp, (hng p).2 (Option.isNone_iff_eq_none.1 h1)⟩
  unfold rAddE Proofs.YtndkjmmmneianaaDoor.addE
  by_cases h1 : (placeG G id).isSome = true
  · rw [if_pos ((hat id).2 (Option.isSome_iff_exists.1 h1)), if_pos h1]; rfl
  · rw [if_neg (fun h => h1 (Option.isSome_iff_exists.2 ((hat id).1 h))), if_neg h1]
    by_cases h2 : ps = [] ∨ ¬ (risH ps).length = ps.length
    · rw [if_pos (h2.imp hr.2 fun h => h), if_pos h2]; rfl
    · rw [if_neg (fun h => h2 (h.imp hr.1 fun h => h)), if_neg h2]
      by_cases h3 : ps.any (fun p => (placeG G p).isNone) = true
      · rw [if_pos (hx.2 h3), if_pos h3]; rfl
      · rw [if_neg (fun h => h3 (hx.1 h)), if_neg h3]; rfl
theorem RelG.snoc {l : List RNd} {G : Gr} (h : RelG l G) (o : OkG G) {id : Hh} {ps : List Hh} (h0 : Proofs.YtndkjmmmneianaaDoor.addE G id ps = 0) (A : Option Addr) (c : Nat) : RelG (l ++ [⟨id, risH ps, A, c⟩]) (addG G id ps) := by
  have e1 : dataR (l ++ [(⟨id, risH ps, A, c⟩ : RNd)]) = dataR l ++ [(id, risH ps)] := by simp [dataR]
  have e2 : addG G id ps = G ++ [addN G id ps] := by unfold addG; rw [if_pos h0]
  have e3 : dataG (G ++ [addN G id ps]) = dataG G ++ [(id, risH ps)] := by
    unfold dataG
    rw [List.length_append, List.length_singleton, List.range_succ, List.map_append]
    congr 1
    · refine List.map_congr_left fun n hn => ?_
      have hn := List.mem_range.1 hn
      rw [idG_snoc hn, parG_snoc hn]
      congr 2
      refine List.map_congr_left fun p hp => ?_
      exact idG_snoc (Nat.lt_trans (o.par n p hp) hn)
    · rw [List.map_singleton, idG_new, parG_new]
      show [(id, risH (((ps.map fun p => (placeG G p).getD 0)).map (idG (G ++ [addN G id ps]))))] = _
      have e4 : ((ps.map fun p => (placeG G p).getD 0)).map (idG (G ++ [addN G id ps])) = ps := by
        rw [List.map_map]
        refine (List.map_congr_left fun p hp => ?_).trans (List.map_id ps)
        obtain ⟨n, hn⟩ := (addE_zero h0).2.2.2 p hp
        obtain ⟨h1, h2⟩ := placeG_some hn
        show idG (G ++ [addN G id ps]) ((placeG G p).getD 0) = p
        rw [hn, Option.getD_some, idG_snoc h1, h2]
      rw [e4]
  show dataR _ = dataG _
  rw [e1, e2, e3, show dataR l = dataG G from h]
theorem RelG.new (r : Hh) (A : Option Addr) (c : Nat) : RelG [⟨r, [], A, c⟩] (newG r) := by
  show dataR _ = dataG _
  simp [dataR, dataG, newG, idG, parG, risH]
theorem RelG.same {l : List RNd} {G : Gr} (h : RelG l G) {id : Hh} {ps : List Hh} (h0 : Proofs.YtndkjmmmneianaaDoor.addE G id ps ≠ 0) : RelG l (addG G id ps) := by
  unfold addG
  rw [if_neg h0]
  exact h
end Go.Proofs.YtndkjmmmneianaaDoor

namespace Go.Proofs.YtndkjmmmneianaaDoor
open Go.RowKit

theorem SeesV.keepsS {S : Nat → Prop} {w w' : World} {A : Option Addr} {vs : List Value} (h : SeesV w w.heap.size A vs) (k : Keeps S w w') (hn : ∀ a, A = some a → ¬ S a.block) : SeesV w' w'.heap.size A vs := by
  rcases h with h | ⟨b, off, hA, hb, hc⟩
  · exact .inl h
  · exact .inr ⟨b, off, hA, Nat.lt_of_lt_of_le hb k.size, fun i hi => (k.cell (p := ⟨b, off + i, none⟩) hb (show ¬ S b from hn ⟨b, off, none⟩ hA)).trans (hc i hi)⟩
theorem RGOk.keepsS {S : Nat → Prop} {w w' : World} {base : Nat} {r : RGm} (h : RGOk w base r) (k : Keeps S w w') (hq : ¬ S r.q) (hA : ∀ a, r.A = some a → ¬ S a.block) (he : ∀ x ∈ r.l, ∀ a, x.A = some a → ¬ S a.block) : RGOk w' base r :=
  ⟨h.b.keeps k hq, h.s.keepsS k hA, fun x hx => (h.e x hx).keepsS k (he x hx), h.qb, h.nq, h.ne, h.max, h.pm⟩
/-- The graph and the document's, side by side. -/
structure Two (w : World) (base : Nat) (m : GrM) (G : Gr) (r : RGm) : Prop where
  g : GrOk w base m
  i : GrIs m G
  d : RGOk w base r
  rel : RelG r.l G
  aq : ¬ touch m r.q
  aA : ∀ a, r.A = some a → a.block < w.heap.size ∧ ¬ foot m a.block
  ae : ∀ x ∈ r.l, ∀ a, x.A = some a → a.block < w.heap.size ∧ ¬ foot m a.block
theorem Two.later {w w' : World} {base : Nat} {m : GrM} {G : Gr} {r : RGm} (h : Two w base m G r) (k : Below w.heap.size w w') : Two w' base m G r :=
  ⟨h.g.later k, h.i, h.d.later k, h.rel, h.aq, fun a ha => ⟨Nat.lt_of_lt_of_le (h.aA a ha).1 k.size, (h.aA a ha).2⟩, fun x hx a ha => ⟨Nat.lt_of_lt_of_le (h.ae x hx a ha).1 k.size, (h.ae x hx a ha).2⟩⟩
theorem AddTo.foot_old {w w' : World} {base : Nat} {m m' : GrM} (h : AddTo w base m m' w') {k : Nat} (hk : k < w.heap.size) (hn : ¬ foot m k) : ¬ foot m' k := fun e => by
  rcases h.f k e with e | e
  · exact hn e
  · omega
theorem AddTo.touch_old {w w' : World} {base : Nat} {m m' : GrM} (h : AddTo w base m m' w') {k : Nat} (hk : k < w.heap.size) (hn : ¬ touch m k) : ¬ touch m' k := fun e => by
  rcases e with e | e
  · exact h.foot_old hk (fun e => hn (.inl e)) e
  · rcases h.r k e with e | e
    · exact hn (.inr e)
    · omega
/-- Behind the graph's own Add the document's graph is as it was. -/
theorem Two.mid {w w1 : World} {base : Nat} {m m' : GrM} {G : Gr} {r : RGm} (h : Two w base m G r) (ha : AddTo w base m m' w1) : RGOk w1 base r :=
  h.d.keepsS ha.k (fun e => h.aq (.inl e)) (fun a e => (h.aA a e).2) (fun x hx a e => (h.ae x hx a e).2)
theorem Two.step {w w1 w2 : World} {base : Nat} {m m' : GrM} {G : Gr} {r : RGm} (h : Two w base m G r) (id : Hh) (ps : List Hh) (ha : AddTo w base m m' w1) (hi : GrIs m' (addG G id ps))
    (h0 : rAddE r.l id ps = 0 → RAdded w1 base r id ps w2) (h1 : rAddE r.l id ps ≠ 0 → Below w1.heap.size w1 w2) : ∃ r', Two w2 base m' (addG G id ps) r' ∧ r'.q = r.q ∧ Keeps (fun j => j = r.q) w1 w2 := by
  have hrel := h.rel.addE id ps
  have hmid := h.mid ha
  by_cases he : addE G id ps = 0
  · obtain ⟨r', hr, hq, hk, hA, A, c, hl, hA2⟩ := h0 (by rw [hrel, he]; rfl)
    have hqs : r.q < w.heap.size := h.d.lt
    have hq' : ¬ touch m' r.q := ha.touch_old hqs h.aq
    have hnew : ∀ k, w1.heap.size ≤ k → ¬ foot m' k := fun k hk e => by
      have := (ha.ok.lt e).2
      omega
    refine ⟨r', ⟨ha.ok.keeps hk (fun k hk e => hq' (by rw [← e]; exact hk)), hi, hr, ?_, ?_, ?_, ?_⟩, hq, hk⟩
    · rw [hl]
      exact h.rel.snoc h.i.ok he A c
    · rw [hq]
      exact hq'
    · intro a ha'
      exact ⟨(hA a ha').2, hnew _ (hA a ha').1⟩
    · intro x hx a ha'
      rw [hl] at hx
      rcases List.mem_append.1 hx with hx | hx
      · have h5 := h.ae x hx a ha'
        have h6 := ha.k.size
        have h7 := hk.size
        exact ⟨by omega, ha.foot_old h5.1 h5.2⟩
      · rw [List.mem_singleton] at hx
        subst hx
        exact ⟨(hA2 a ha').2, hnew _ (hA2 a ha').1⟩
  · have hb := h1 (by rw [hrel]; intro e; exact he (by exact_mod_cast e))
    have h6 := ha.k.size
    have h7 := hb.size
    exact ⟨r, ⟨ha.ok.later hb, hi, hmid.later hb, h.rel.same he, ha.touch_old h.d.lt h.aq, fun a e => ⟨by have := (h.aA a e).1; omega, ha.foot_old (h.aA a e).1 (h.aA a e).2⟩, fun x hx a e => ⟨by have := (h.ae x hx a e).1; omega, ha.foot_old (h.ae x hx a e).1 (h.ae x hx a e).2⟩⟩, rfl, Keeps.ofB hb⟩
theorem part_node1 (id : Hh) (wq : World) : (Instr.build 39 #[(0, .agg (hC id).toArray)]).run Tryd.prog wq = .ok (.agg (rnC ⟨id, [], none, 0⟩).toArray) wq := by
  obtain ⟨i0, hi, hz, _, _⟩ := infoP Tryd.dinfoRN
  refine run_build wq _ _ _ ?_
  rw [built_struct hi hz Tryd.underlying39 (places := [(0, 32), (32, 1)]) (by kernel_rfl)]
  have f0 := foldl_put 0 (hC id) 0 (By zero32 ++ [Value.slice none 0 0]) (by rw [hC_len]; decide)
  simp only [Nat.zero_add, List.take_zero, List.nil_append] at f0
  show Instr.fill _ (By zero32 ++ [Value.slice none 0 0]).toArray [(0, .agg (hC id).toArray)] = _
  unfold Instr.fill
  have ha : (Value.agg (hC id).toArray).cells = (hC id).toArray := rfl
  simp only [show ([(0, 32), (32, 1)].toArray[0]? : Option (Nat × Nat)) = some (0, 32) from rfl, ha, List.size_toArray]
  rw [if_neg (by rw [hC_len]; decide)]
  unfold Instr.fill
  rw [show rnC ⟨id, [], none, 0⟩ = hC id ++ (By zero32 ++ [Value.slice none 0 0]).drop (hC id).length by rw [hC_len]; rfl, ← f0]
  simp
end Go.Proofs.YtndkjmmmneianaaDoor
