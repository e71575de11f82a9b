/-
  dag: the graph and the document's, side by side.
-/
import Derived.Test.YtndkjmmmneianaaDoorDgU
namespace Go.Proofs.YtndkjmmmneianaaDoor
open Go.RowKit

theorem SeesV.keepsS {S : Nat → Prop} {w w' : World} {A : Option Addr} {vs : List Value} (h : SeesV w w.heap.size A vs) (k : Keeps S w w') (hn : ∀ a, A = some a → ¬ S a.block) : SeesV w' w'.heap.size A vs := by
  rcases h with h | ⟨b, off, hA, hb, hc⟩
  · exact .inl h
  · exact .inr ⟨b, off, hA, Nat.lt_of_lt_of_le hb k.size, fun i hi => (k.cell (p := ⟨b, off + i, none⟩) hb (show ¬ S b from hn ⟨b, off, none⟩ hA)).trans (hc i hi)⟩
theorem RGOk.keepsS {S : Nat → Prop} {w w' : World} {base : Nat} {r : RGm} (h : RGOk w base r) (k : Keeps S w w') (hq : ¬ S r.q) (hA : ∀ a, r.A = some a → ¬ S a.block) (he : ∀ x ∈ r.l, ∀ a, x.A = some a → ¬ S a.block) : RGOk w' base r :=
  ⟨h.b.keeps k hq, h.s.keepsS k hA, fun x hx => (h.e x hx).keepsS k (he x hx), h.qb, h.nq, h.ne, h.max, h.pm⟩
/-- The graph and the document's, side by side. -/
structure Two (w : World) (base : Nat) (m : GrM) (G : Gr) (r : RGm) : Prop where
  g : GrOk w base m
  i : GrIs m G
  d : RGOk w base r
  rel : RelG r.l G
  aq : ¬ touch m r.q
  aA : ∀ a, r.A = some a → a.block < w.heap.size ∧ ¬ foot m a.block
  ae : ∀ x ∈ r.l, ∀ a, x.A = some a → a.block < w.heap.size ∧ ¬ foot m a.block
theorem Two.later {w w' : World} {base : Nat} {m : GrM} {G : Gr} {r : RGm} (h : Two w base m G r) (k : Below w.heap.size w w') : Two w' base m G r :=
  ⟨h.g.later k, h.i, h.d.later k, h.rel, h.aq, fun a ha => ⟨Nat.lt_of_lt_of_le (h.aA a ha).1 k.size, (h.aA a ha).2⟩, fun x hx a ha => ⟨Nat.lt_of_lt_of_le (h.ae x hx a ha).1 k.size, (h.ae x hx a ha).2⟩⟩
theorem AddTo.foot_old {w w' : World} {base : Nat} {m m' : GrM} (h : AddTo w base m m' w') {k : Nat} (hk : k < w.heap.size) (hn : ¬ foot m k) : ¬ foot m' k := fun e => by
  rcases h.f k e with e | e
  · exact hn e
  · omega
theorem AddTo.touch_old {w w' : World} {base : Nat} {m m' : GrM} (h : AddTo w base m m' w') {k : Nat} (hk : k < w.heap.size) (hn : ¬ touch m k) : ¬ touch m' k := fun e => by
  rcases e with e | e
  · exact h.foot_old hk (fun e => hn (.inl e)) e
  · rcases h.r k e with e | e
    · exact hn (.inr e)
    · omega
/-- Behind the graph's own Add the document's graph is as it was. -/
theorem Two.mid {w w1 : World} {base : Nat} {m m' : GrM} {G : Gr} {r : RGm} (h : Two w base m G r) (ha : AddTo w base m m' w1) : RGOk w1 base r :=
  h.d.keepsS ha.k (fun e => h.aq (.inl e)) (fun a e => (h.aA a e).2) (fun x hx a e => (h.ae x hx a e).2)
theorem Two.step {w w1 w2 : World} {base : Nat} {m m' : GrM} {G : Gr} {r : RGm} (h : Two w base m G r) (id : Hh) (ps : List Hh) (ha : AddTo w base m m' w1) (hi : GrIs m' (addG G id ps))
    (h0 : rAddE r.l id ps = 0 → RAdded w1 base r id ps w2) (h1 : rAddE r.l id ps ≠ 0 → Below w1.heap.size w1 w2) : ∃ r', Two w2 base m' (addG G id ps) r' ∧ r'.q = r.q ∧ Keeps (fun j => j = r.q) w1 w2 := by
  have hrel := h.rel.addE id ps
  have hmid := h.mid ha
  by_cases he : addE G id ps = 0
  · obtain ⟨r', hr, hq, hk, hA, A, c, hl, hA2⟩ := h0 (by rw [hrel, he]; rfl)
    have hqs : r.q < w.heap.size := h.d.lt
    have hq' : ¬ touch m' r.q := ha.touch_old hqs h.aq
    have hnew : ∀ k, w1.heap.size ≤ k → ¬ foot m' k := fun k hk e => by
      have := (ha.ok.lt e).2
      omega
    refine ⟨r', ⟨ha.ok.keeps hk (fun k hk e => hq' (by rw [← e]; exact hk)), hi, hr, ?_, ?_, ?_, ?_⟩, hq, hk⟩
    · rw [hl]
      exact h.rel.snoc h.i.ok he A c
    · rw [hq]
      exact hq'
    · intro a ha'
      exact ⟨(hA a ha').2, hnew _ (hA a ha').1⟩
    · intro x hx a ha'
      rw [hl] at hx
      rcases List.mem_append.1 hx with hx | hx
      · have h5 := h.ae x hx a ha'
        have h6 := ha.k.size
        have h7 := hk.size
        exact ⟨by omega, ha.foot_old h5.1 h5.2⟩
      · rw [List.mem_singleton] at hx
        subst hx
        exact ⟨(hA2 a ha').2, hnew _ (hA2 a ha').1⟩
  · have hb := h1 (by rw [hrel]; intro e; exact he (by exact_mod_cast e))
    have h6 := ha.k.size
    have h7 := hb.size
    exact ⟨r, ⟨ha.ok.later hb, hi, hmid.later hb, h.rel.same he, ha.touch_old h.d.lt h.aq, fun a e => ⟨by have := (h.aA a e).1; omega, ha.foot_old (h.aA a e).1 (h.aA a e).2⟩, fun x hx a e => ⟨by have := (h.ae x hx a e).1; omega, ha.foot_old (h.ae x hx a e).1 (h.ae x hx a e).2⟩⟩, rfl, Keeps.ofB hb⟩
theorem part_node1 (id : Hh) (wq : World) : (Instr.build 39 #[(0, .agg (hC id).toArray)]).run Tryd.prog wq = .ok (.agg (rnC ⟨id, [], none, 0⟩).toArray) wq := by
  obtain ⟨i0, hi, hz, _, _⟩ := infoP Tryd.dinfoRN
  refine run_build wq _ _ _ ?_
  rw [built_struct hi hz Tryd.underlying39 (places := [(0, 32), (32, 1)]) (by kernel_rfl)]
  have f0 := foldl_put 0 (hC id) 0 (By zero32 ++ [Value.slice none 0 0]) (by rw [hC_len]; decide)
  simp only [Nat.zero_add, List.take_zero, List.nil_append] at f0
  show Instr.fill _ (By zero32 ++ [Value.slice none 0 0]).toArray [(0, .agg (hC id).toArray)] = _
  unfold Instr.fill
  have ha : (Value.agg (hC id).toArray).cells = (hC id).toArray := rfl
  simp only [show ([(0, 32), (32, 1)].toArray[0]? : Option (Nat × Nat)) = some (0, 32) from rfl, ha, List.size_toArray]
  rw [if_neg (by rw [hC_len]; decide)]
  unfold Instr.fill
  rw [show rnC ⟨id, [], none, 0⟩ = hC id ++ (By zero32 ++ [Value.slice none 0 0]).drop (hC id).length by rw [hC_len]; rfl, ← f0]
  simp
end Go.Proofs.YtndkjmmmneianaaDoor
