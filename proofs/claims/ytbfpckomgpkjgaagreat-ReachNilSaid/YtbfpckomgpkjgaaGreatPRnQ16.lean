/-
  dag: the document's list and the graph: the same; pure.
  dag: the graph and the document's, side by side.
  dag: begin.
  dag: few; the places of a row, gone over.
  dag: Past.
  dag: few; all that stand around one, each once.
  dag: the document's Past, as lists; pure.
-/
import Derived.Test.YtbfpckomgpkjgaaGreatDgT
import Derived.Test.YtbfpckomgpkjgaaGreatShD
import Derived.Shelf.Spec.TrailingZeros
namespace Go.Proofs.YtbfpckomgpkjgaaGreat
open Go.RowKit

def dataG (G : Gr) : List (Hh × List Hh) := (List.range G.length).map fun n => (idG G n, risH ((parG G n).map (idG G)))
def dataR (l : List RNd) : List (Hh × List Hh) := l.map fun x => (x.id, x.ps)
def RelG (l : List RNd) (G : Gr) : Prop := dataR l = dataG G
theorem RelG.len {l : List RNd} {G : Gr} (h : RelG l G) : l.length = G.length := by
  have := congrArg List.length h
  simpa [dataR, dataG] using this
theorem RelG.at_ {l : List RNd} {G : Gr} (h : RelG l G) {n : Nat} (hn : n < l.length) : l[n].id = idG G n ∧ l[n].ps = risH ((parG G n).map (idG G)) := by
  have h1 : (dataR l)[n]? = (dataG G)[n]? := by rw [h]
  have hg : n < G.length := by rw [← h.len]; exact hn
  unfold dataR dataG at h1
  rw [List.getElem?_map, List.getElem?_map, List.getElem?_eq_getElem hn, List.getElem?_eq_getElem (by simpa using hg)] at h1
  simp only [Option.map_some, List.getElem_range, Option.some.injEq, Prod.mk.injEq] at h1
  exact h1
theorem RelG.place {l : List RNd} {G : Gr} (h : RelG l G) (x : Hh) : atI l x = match placeG G x with | some n => (n : Int) | none => -1 := by
  cases hp : placeG G x with
  | some n =>
    obtain ⟨h1, h2⟩ := placeG_some hp
    have hn : n < l.length := by rw [h.len]; exact h1
    refine atI_at hn ((h.at_ hn).1.trans h2) ?_
    intro y hy e
    obtain ⟨j, hj, rfl⟩ := List.mem_take_iff_getElem.1 hy
    have hjn : j < n := by omega
    have hjl : j < l.length := by omega
    have h3 := hp
    unfold placeG at h3
    rw [List.findIdx?_eq_some_iff_getElem] at h3
    obtain ⟨_, _, h5⟩ := h3
    have h6 := h5 j hjn
    have h7 : idG G j = x := (h.at_ hjl).1.symm.trans e
    rw [idG_at (by omega)] at h7
    exact h6 (beq_iff_eq.2 h7)
  | none =>
    refine atI_none fun y hy e => ?_
    obtain ⟨j, hj, rfl⟩ := List.getElem_of_mem hy
    exact placeG_none.1 hp j (by rw [← h.len]; exact hj) ((h.at_ hj).1.symm.trans e)
theorem RelG.addE {l : List RNd} {G : Gr} (h : RelG l G) (id : Hh) (ps : List Hh) : rAddE l id ps = (Proofs.YtbfpckomgpkjgaaGreat.addE G id ps : Int) := by
  have hat : ∀ x, (0 ≤ atI l x ↔ ∃ n, placeG G x = some n) := fun x => by
    rw [h.place]
    cases placeG G x with
    | none => simp
    | some n => simp
  have hng : ∀ x, (atI l x < 0 ↔ placeG G x = none) := fun x => by
    rw [h.place]
    cases placeG G x with
    | none => simp
    | some n => simp
  have hr : risH ps = [] ↔ ps = [] := ⟨fun e => List.eq_nil_iff_forall_not_mem.2 fun x hx => (by have h9 := mem_risH.2 hx; rw [e] at h9; exact absurd h9 (by simp)), fun e => by rw [e]; rfl⟩
  have hx : (∃ p ∈ risH ps, atI l p < 0) ↔ ps.any (fun p => (placeG G p).isNone) = true := by
    rw [List.any_eq_true]
    constructor
    · rintro ⟨p, hp, h1⟩
      exact ⟨p, mem_risH.1 hp, by rw [(hng p).1 h1]; rfl⟩
    · rintro ⟨p, hp, h1⟩
      exact ⟨p, mem_risH.2 hp, (hng p).2 (Option.isNone_iff_eq_none.1 h1)⟩
  unfold rAddE Proofs.YtbfpckomgpkjgaaGreat.addE
  by_cases h1 : (placeG G id).isSome = true
  · rw [if_pos ((hat id).2 (Option.isSome_iff_exists.1 h1)), if_pos h1]; rfl
  · rw [if_neg (fun h => h1 (Option.isSome_iff_exists.2 ((hat id).1 h))), if_neg h1]
    by_cases h2 : ps = [] ∨ ¬ (risH ps).length = ps.length
    · rw [if_pos (h2.imp hr.2 fun h => h), if_pos h2]; rfl
    · rw [if_neg (fun h => h2 (h.imp hr.1 fun h => h)), if_neg h2]
      by_cases h3 : ps.any (fun p => (placeG G p).isNone) = true
      · rw [if_pos (hx.2 h3), if_pos h3]; rfl
      · rw [if_neg (fun h => h3 (hx.1 h)), if_neg h3]; rfl
theorem RelG.snoc {l : List RNd} {G : Gr} (h : RelG l G) (o : OkG G) {id : Hh} {ps : List Hh} (h0 : Proofs.YtbfpckomgpkjgaaGreat.addE G id ps = 0) (A : Option Addr) (c : Nat) : RelG (l ++ [⟨id, risH ps, A, c⟩]) (addG G id ps) := by
  have e1 : dataR (l ++ [(⟨id, risH ps, A, c⟩ : RNd)]) = dataR l ++ [(id, risH ps)] := by simp [dataR]
  have e2 : addG G id ps = G ++ [addN G id ps] := by unfold addG; rw [if_pos h0]
  have e3 : dataG (G ++ [addN G id ps]) = dataG G ++ [(id, risH ps)] := by
    unfold dataG
    rw [List.length_append, List.length_singleton, List.range_succ, List.map_append]
    congr 1
    · refine List.map_congr_left fun n hn => ?_
      have hn := List.mem_range.1 hn
      rw [idG_snoc hn, parG_snoc hn]
      congr 2
      refine List.map_congr_left fun p hp => ?_
      exact idG_snoc (Nat.lt_trans (o.par n p hp) hn)
    · rw [List.map_singleton, idG_new, parG_new]
      show [(id, risH (((ps.map fun p => (placeG G p).getD 0)).map (idG (G ++ [addN G id ps]))))] = _
      have e4 : ((ps.map fun p => (placeG G p).getD 0)).map (idG (G ++ [addN G id ps])) = ps := by
        rw [List.map_map]
        refine (List.map_congr_left fun p hp => ?_).trans (List.map_id ps)
        obtain ⟨n, hn⟩ := (addE_zero h0).2.2.2 p hp
        obtain ⟨h1, h2⟩ := placeG_some hn
        show idG (G ++ [addN G id ps]) ((placeG G p).getD 0) = p
        rw [hn, Option.getD_some, idG_snoc h1, h2]
      rw [e4]
  show dataR _ = dataG _
  rw [e1, e2, e3, show dataR l = dataG G from h]
theorem RelG.new (r : Hh) (A : Option Addr) (c : Nat) : RelG [⟨r, [], A, c⟩] (newG r) := by
  show dataR _ = dataG _
  simp [dataR, dataG, newG, idG, parG, risH]
theorem RelG.same {l : List RNd} {G : Gr} (h : RelG l G) {id : Hh} {ps : List Hh} (h0 : Proofs.YtbfpckomgpkjgaaGreat.addE G id ps ≠ 0) : RelG l (addG G id ps) := by
  unfold addG
  rw [if_neg h0]
  exact h
end Go.Proofs.YtbfpckomgpkjgaaGreat

namespace Go.Proofs.YtbfpckomgpkjgaaGreat
open Go.RowKit

theorem SeesV.keepsS {S : Nat → Prop} {w w' : World} {A : Option Addr} {vs : List Value} (h : SeesV w w.heap.size A vs) (k : Keeps S w w') (hn : ∀ a, A = some a → ¬ S a.block) : SeesV w' w'.heap.size A vs := by
  rcases h with h | ⟨b, off, hA, hb, hc⟩
  · exact .inl h
  · exact .inr ⟨b, off, hA, Nat.lt_of_lt_of_le hb k.size, fun i hi => (k.cell (p := ⟨b, off + i, none⟩) hb (show ¬ S b from hn ⟨b, off, none⟩ hA)).trans (hc i hi)⟩
theorem RGOk.keepsS {S : Nat → Prop} {w w' : World} {base : Nat} {r : RGm} (h : RGOk w base r) (k : Keeps S w w') (hq : ¬ S r.q) (hA : ∀ a, r.A = some a → ¬ S a.block) (he : ∀ x ∈ r.l, ∀ a, x.A = some a → ¬ S a.block) : RGOk w' base r :=
  ⟨h.b.keeps k hq, h.s.keepsS k hA, fun x hx => (h.e x hx).keepsS k (he x hx), h.qb, h.nq, h.ne, h.max, h.pm⟩
/-- The graph and the document's, side by side. -/
structure Two (w : World) (base : Nat) (m : GrM) (G : Gr) (r : RGm) : Prop where
  g : GrOk w base m
  i : GrIs m G
  d : RGOk w base r
  rel : RelG r.l G
  aq : ¬ touch m r.q
  aA : ∀ a, r.A = some a → a.block < w.heap.size ∧ ¬ foot m a.block
  ae : ∀ x ∈ r.l, ∀ a, x.A = some a → a.block < w.heap.size ∧ ¬ foot m a.block
theorem Two.later {w w' : World} {base : Nat} {m : GrM} {G : Gr} {r : RGm} (h : Two w base m G r) (k : Below w.heap.size w w') : Two w' base m G r :=
  ⟨h.g.later k, h.i, h.d.later k, h.rel, h.aq, fun a ha => ⟨Nat.lt_of_lt_of_le (h.aA a ha).1 k.size, (h.aA a ha).2⟩, fun x hx a ha => ⟨Nat.lt_of_lt_of_le (h.ae x hx a ha).1 k.size, (h.ae x hx a ha).2⟩⟩
theorem AddTo.foot_old {w w' : World} {base : Nat} {m m' : GrM} (h : AddTo w base m m' w') {k : Nat} (hk : k < w.heap.size) (hn : ¬ foot m k) : ¬ foot m' k := fun e => by
  rcases h.f k e with e | e
  · exact hn e
  · omega
theorem AddTo.touch_old {w w' : World} {base : Nat} {m m' : GrM} (h : AddTo w base m m' w') {k : Nat} (hk : k < w.heap.size) (hn : ¬ touch m k) : ¬ touch m' k := fun e => by
  rcases e with e | e
  · exact h.foot_old hk (fun e => hn (.inl e)) e
  · rcases h.r k e with e | e
    · exact hn (.inr e)
    · omega
/-- Behind the graph's own Add the document's graph is as it was. -/
theorem Two.mid {w w1 : World} {base : Nat} {m m' : GrM} {G : Gr} {r : RGm} (h : Two w base m G r) (ha : AddTo w base m m' w1) : RGOk w1 base r :=
  h.d.keepsS ha.k (fun e => h.aq (.inl e)) (fun a e => (h.aA a e).2) (fun x hx a e => (h.ae x hx a e).2)
theorem Two.step {w w1 w2 : World} {base : Nat} {m m' : GrM} {G : Gr} {r : RGm} (h : Two w base m G r) (id : Hh) (ps : List Hh) (ha : AddTo w base m m' w1) (hi : GrIs m' (addG G id ps))
    (h0 : rAddE r.l id ps = 0 → RAdded w1 base r id ps w2) (h1 : rAddE r.l id ps ≠ 0 → Below w1.heap.size w1 w2) : ∃ r', Two w2 base m' (addG G id ps) r' ∧ r'.q = r.q ∧ Keeps (fun j => j = r.q) w1 w2 := by
  have hrel := h.rel.addE id ps
  have hmid := h.mid ha
  by_cases he : addE G id ps = 0
  · obtain ⟨r', hr, hq, hk, hA, A, c, hl, hA2⟩ := h0 (by rw [hrel, he]; rfl)
    have hqs : r.q < w.heap.size := h.d.lt
    have hq' : ¬ touch m' r.q := ha.touch_old hqs h.aq
    have hnew : ∀ k, w1.heap.size ≤ k → ¬ foot m' k := fun k hk e => by
      have := (ha.ok.lt e).2
      omega
    refine ⟨r', ⟨ha.ok.keeps hk (fun k hk e => hq' (by rw [← e]; exact hk)), hi, hr, ?_, ?_, ?_, ?_⟩, hq, hk⟩
    · rw [hl]
      exact h.rel.snoc h.i.ok he A c
    · rw [hq]
      exact hq'
    · intro a ha'
      exact ⟨(hA a ha').2, hnew _ (hA a ha').1⟩
    · intro x hx a ha'
      rw [hl] at hx
      rcases List.mem_append.1 hx with hx | hx
      · have h5 := h.ae x hx a ha'
        have h6 := ha.k.size
        have h7 := hk.size
        exact ⟨by omega, ha.foot_old h5.1 h5.2⟩
      · rw [List.mem_singleton] at hx
        subst hx
        exact ⟨(hA2 a ha').2, hnew _ (hA2 a ha').1⟩
  · have hb := h1 (by rw [hrel]; intro e; exact he (by exact_mod_cast e))
    have h6 := ha.k.size
    have h7 := hb.size
    exact ⟨r, ⟨ha.ok.later hb, hi, hmid.later hb, h.rel.same he, ha.touch_old h.d.lt h.aq, fun a e => ⟨by have := (h.aA a e).1; omega, ha.foot_old (h.aA a e).1 (h.aA a e).2⟩, fun x hx a e => ⟨by have := (h.ae x hx a e).1; omega, ha.foot_old (h.ae x hx a e).1 (h.ae x hx a e).2⟩⟩, rfl, Keeps.ofB hb⟩
theorem part_node1 (id : Hh) (wq : World) : (Instr.build 75 #[(0, .agg (hC id).toArray)]).run Tryz.prog wq = .ok (.agg (rnC ⟨id, [], none, 0⟩).toArray) wq := by
  obtain ⟨i0, hi, hz, _, _⟩ := infoP Tryz.dinfoRN
  refine run_build wq _ _ _ ?_
  rw [built_struct hi hz Tryz.underlying75 (places := [(0, 32), (32, 1)]) (by kernel_rfl)]
  have f0 := foldl_put 0 (hC id) 0 (By zero32 ++ [Value.slice none 0 0]) (by rw [hC_len]; decide)
  simp only [Nat.zero_add, List.take_zero, List.nil_append] at f0
  show Instr.fill _ (By zero32 ++ [Value.slice none 0 0]).toArray [(0, .agg (hC id).toArray)] = _
  unfold Instr.fill
  have ha : (Value.agg (hC id).toArray).cells = (hC id).toArray := rfl
  simp only [show ([(0, 32), (32, 1)].toArray[0]? : Option (Nat × Nat)) = some (0, 32) from rfl, ha, List.size_toArray]
  rw [if_neg (by rw [hC_len]; decide)]
  unfold Instr.fill
  rw [show rnC ⟨id, [], none, 0⟩ = hC id ++ (By zero32 ++ [Value.slice none 0 0]).drop (hC id).length by rw [hC_len]; rfl, ← f0]
  simp
end Go.Proofs.YtbfpckomgpkjgaaGreat

namespace Go.Proofs.YtbfpckomgpkjgaaGreat
open Go.RowKit

theorem yieldsIf_build1 {P : Program} {ops : Array Oper} {S : World → Prop} {o : Oper} {a : Act} (hw : Region.wanted o (yielded ops a.tmps) = true) (t : TypeId) (x : Operand) (ho : o.op = .build t #[(0, x)])
    (vx v : Value) (hx : a.eval x = vx) (hr : ∀ wq, (Instr.build t #[(0, vx)]).run P wq = .ok v wq) : YieldsIf P ops S o v a :=
  .inl ⟨hw, fun w _ => by
    unfold execOp
    have e : (#[(0, x)].map fun (p : Nat × Operand) => (p.1, a.eval p.2)) = #[(0, vx)] := by simp [hx]
    simp only [ho, e, Sem.run_bind, hr, Result.andThen_ok, Sem.run_pure]⟩
theorem GrOk.lower {w : World} {base base' : Nat} {m : GrM} (h : GrOk w base m) (hb : base' ≤ base) : GrOk w base' m :=
  { h with qb := Nat.le_trans hb h.qb, mbb := Nat.le_trans hb h.mbb, ids := own_base h.ids hb, nds := own_base h.nds hb, kid := fun x hx => own_base (h.kid x hx) hb }
theorem two_new {w : World} {base : Nat} {m : GrM} {root : Hh} {b q : Nat} (hg : GrOk w base m) (hi : GrIs m (newG root)) (hS : Blk w b 75 (rnC ⟨root, [], none, 0⟩).toArray) (hQ : Blk w q 37 #[.slice (some ⟨b, 0, none⟩) 1 1])
    (hqb : base ≤ q) (hne : b ≠ q) (e1 : ¬ foot m b) (e2 : ¬ foot m q) : Two w base m (newG root) ⟨q, some ⟨b, 0, none⟩, 1, [⟨root, [], none, 0⟩]⟩ := by
  refine ⟨hg, hi, ⟨hQ, ?_, ?_, hqb, ?_, ?_, (by show (1 : Nat) ≤ 1000000; omega), ?_⟩, RelG.new root none 0, ?_, ?_, ?_⟩
  · have := SeesV.blk hS
    simpa [rnsC] using this
  · intro x hx
    rw [List.mem_singleton] at hx
    subst hx
    exact .inl rfl
  · intro a ha
    injection ha with ha
    subst ha
    exact hne
  · intro x hx a ha
    rw [List.mem_singleton] at hx
    subst hx
    cases ha
  · intro x hx
    rw [List.mem_singleton] at hx
    subst hx
    show (0 : Nat) ≤ 1000000
    omega
  · rintro (e | ⟨x, hx, e⟩)
    · exact e2 e
    · obtain ⟨n, hn, rfl⟩ := List.getElem_of_mem hx
      have hn1 : n < 1 := by rw [hi.len] at hn; simpa [newG] using hn
      have hn0 : n = 0 := by omega
      subst hn0
      rcases e with ⟨e, _⟩ | ⟨e, _⟩
      · exact e (by rw [hi.par 0 hn]; simp [parG, newG])
      · have := (hi.row 0 hn).1
        exact e (List.length_eq_zero_iff.1 (by omega))
  · intro a ha
    injection ha with ha
    subst ha
    exact ⟨hS.lt, e1⟩
  · intro x hx a ha
    rw [List.mem_singleton] at hx
    subst hx
    cases ha
/-- The graph of a row of steps. -/
def runG (root : Hh) (l : List RNd) : Gr := l.foldl (fun G x => addG G x.id x.ps) (newG root)
theorem runG_snoc (root : Hh) (l : List RNd) (x : RNd) : runG root (l ++ [x]) = addG (runG root l) x.id x.ps := by unfold runG; rw [List.foldl_append]; rfl
theorem runG_len (root : Hh) (l : List RNd) : (runG root l).length ≤ l.length + 1 := by
  have h : ∀ (l : List RNd) (G : Gr), (l.foldl (fun G x => addG G x.id x.ps) G).length ≤ G.length + l.length := fun l => by
    induction l with
    | nil => intro G; simp
    | cons x l ih =>
      intro G
      rw [List.foldl_cons, List.length_cons]
      have h1 := ih (addG G x.id x.ps)
      have h2 := addG_len G x.id x.ps
      omega
  have h1 := h l (newG root)
  unfold runG
  have h2 : (newG root).length = 1 := rfl
  omega
end Go.Proofs.YtbfpckomgpkjgaaGreat

namespace Go.Proofs.YtbfpckomgpkjgaaGreat
open Go.RowKit Go.Shelf

theorem all_snoc : ∀ (l : List Nat) (j x : Nat), allFrom j (l ++ [x]) = allFrom j l ++ (bitsL x).map fun i => (j + l.length) * 64 + i
  | [], j, x => by simp [allFrom]
  | y :: l, j, x => by
    rw [List.cons_append, allFrom, allFrom, all_snoc l (j + 1) x, List.append_assoc, List.length_cons]
    congr 3
    funext i
    omega
theorem all_split : ∀ (ws : List Nat) (j k : Nat), ∃ r, allFrom j ws = allFrom j (ws.take k) ++ r
  | ws, j, 0 => ⟨allFrom j ws, by simp [allFrom]⟩
  | [], j, k + 1 => ⟨[], by simp [allFrom]⟩
  | x :: ws, j, k + 1 => by
    obtain ⟨r, hr⟩ := all_split ws (j + 1) k
    exact ⟨r, by rw [List.take_succ_cons, allFrom, allFrom, hr, List.append_assoc]⟩
/-- Which place comes next. -/
theorem all_next {ws : List Nat} {k x : Nat} {pre : List Nat} (hk : k < ws.length) (hb : bitsL ws[k] = pre ++ bitsL x) (hx : x ≠ 0) :
    ∃ h : (allFrom 0 (ws.take k)).length + pre.length < (allFrom 0 ws).length, (allFrom 0 ws)[(allFrom 0 (ws.take k)).length + pre.length] = k * 64 + Lib.ctz 64 x := by
  obtain ⟨r, hr⟩ := all_split ws 0 (k + 1)
  have e : allFrom 0 ws = allFrom 0 (ws.take k) ++ (pre.map (fun i => k * 64 + i) ++ ((k * 64 + Lib.ctz 64 x) :: ((bitsL (x &&& (x - 1))).map (fun i => k * 64 + i) ++ r))) := by
    rw [hr, List.take_succ_eq_append_getElem hk, all_snoc, hb, bitsL_step hx, List.append_assoc, List.map_append, List.map_cons, List.length_take]
    rw [show (0 + min k ws.length) = k by omega]
    simp
  refine ⟨by rw [e]; simp, ?_⟩
  simp only [e]
  rw [List.getElem_append_right (by omega), List.getElem_append_right (by simp)]
  simp
theorem tab_below {g B : Nat} {tab : List Nat} {w w' : World} (h : TabAt g tab w) (k : Below B w w') (hg : g < B) : TabAt g tab w' := fun j hj => (k.cell (p := ⟨g, j, none⟩) hg).trans (h j hj)
section
set_option maxRecDepth 100000
set_option maxHeartbeats 4000000
end
end Go.Proofs.YtbfpckomgpkjgaaGreat

namespace Go.Proofs.YtbfpckomgpkjgaaGreat
open Go.RowKit Go.Shelf

noncomputable def pastG (G : Gr) (ids : List Hh) : List Hh := ansG G fun k => ∃ x ∈ ids, ∃ n, placeG G x = some n ∧ Anc G k n
end Go.Proofs.YtbfpckomgpkjgaaGreat

namespace Go.Proofs.YtbfpckomgpkjgaaGreat
open Go.RowKit

def fewB (l : List RNd) (most : Nat) : Bool := l.all (fun x => decide (x.ps.length ≤ 8)) && decide (l.length ≤ most)
theorem few_le {l : List RNd} {most : Nat} (h : fewB l most = true) : l.length ≤ most ∧ ∀ x ∈ l, x.ps.length ≤ 8 := by
  unfold fewB at h
  rw [Bool.and_eq_true, List.all_eq_true] at h
  exact ⟨of_decide_eq_true h.2, fun x hx => of_decide_eq_true (h.1 x hx)⟩
/-- One's future, and its anticone. -/
noncomputable def futG (G : Gr) (h : Hh) : List Hh := srtH (((List.range G.length).filter (futB G (placeG G h).isSome (plE G h))).map (idG G))
noncomputable def antG (G : Gr) (h : Hh) : List Hh := srtH (((List.range G.length).filter (antB G (placeG G h).isSome (plE G h))).map (idG G))
theorem mem_srtPl {G : Gr} {f : Nat → Bool} {x : Hh} : x ∈ srtH (((List.range G.length).filter f).map (idG G)) ↔ ∃ n, n < G.length ∧ f n = true ∧ idG G n = x := by
  rw [mem_srtH, List.mem_map]
  constructor
  · rintro ⟨n, hn, rfl⟩
    rw [List.mem_filter, List.mem_range] at hn
    exact ⟨n, hn.1, hn.2, rfl⟩
  · rintro ⟨n, h1, h2, rfl⟩
    exact ⟨n, by rw [List.mem_filter, List.mem_range]; exact ⟨h1, h2⟩, rfl⟩
theorem nodup_srtPl {G : Gr} (o : OkG G) {f : Nat → Bool} : (srtH (((List.range G.length).filter f).map (idG G))).Nodup := by
  rw [(srtH_perm _).nodup_iff]
  exact nodup_map_on (fun a ha b hb e => idG_inj o (List.mem_range.1 (List.mem_filter.1 ha).1) (List.mem_range.1 (List.mem_filter.1 hb).1) e) (List.nodup_range.filter _)
/-- One, its past, its future and its anticone are all, each once. -/
theorem parts_all {G : Gr} (o : OkG G) {n : Nat} (hn : n < G.length) :
    (idG G n :: (pastG G [idG G n] ++ (futG G (idG G n) ++ antG G (idG G n)))).Nodup ∧ (idG G n :: (pastG G [idG G n] ++ (futG G (idG G n) ++ antG G (idG G n)))).length = G.length := by
  have hp := placeG_id o hn
  have hfp : ∀ x, x ∈ pastG G [idG G n] ↔ ∃ k, k < G.length ∧ Anc G k n ∧ idG G k = x := fun x => by
    unfold pastG
    rw [mem_ansG]
    constructor
    · rintro ⟨k, h1, ⟨y, hy, n', h2, h3⟩, h4⟩
      rw [List.mem_singleton] at hy
      rw [hy, hp] at h2
      injection h2 with h2
      exact ⟨k, h1, by rw [h2]; exact h3, h4⟩
    · rintro ⟨k, h1, h2, h3⟩
      exact ⟨k, h1, ⟨_, List.mem_singleton.2 rfl, n, hp, h2⟩, h3⟩
  have hff : ∀ x, x ∈ futG G (idG G n) ↔ ∃ k, k < G.length ∧ Anc G n k ∧ idG G k = x := fun x => by
    unfold futG
    rw [mem_srtPl]
    have e : plE G (idG G n) = n := by unfold plE; rw [hp]; rfl
    have hb : ∀ k, futB G (placeG G (idG G n)).isSome (plE G (idG G n)) k = true ↔ Anc G n k := fun k => by
      unfold futB
      rw [hp, e]
      simp only [Option.isSome_some, Bool.true_and]
      exact ancB_iff
    exact ⟨fun ⟨k, h1, h2, h3⟩ => ⟨k, h1, (hb k).1 h2, h3⟩, fun ⟨k, h1, h2, h3⟩ => ⟨k, h1, (hb k).2 h2, h3⟩⟩
  have hfa : ∀ x, x ∈ antG G (idG G n) ↔ ∃ k, k < G.length ∧ (k ≠ n ∧ ¬ Anc G n k ∧ ¬ Anc G k n) ∧ idG G k = x := fun x => by
    unfold antG
    rw [mem_srtPl]
    have e : plE G (idG G n) = n := by unfold plE; rw [hp]; rfl
    have hb : ∀ k, antB G (placeG G (idG G n)).isSome (plE G (idG G n)) k = true ↔ (k ≠ n ∧ ¬ Anc G n k ∧ ¬ Anc G k n) := fun k => by
      unfold antB
      rw [hp, e, ← ancB_iff, ← ancB_iff]
      simp [and_assoc]
    exact ⟨fun ⟨k, h1, h2, h3⟩ => ⟨k, h1, (hb k).1 h2, h3⟩, fun ⟨k, h1, h2, h3⟩ => ⟨k, h1, (hb k).2 h2, h3⟩⟩
  have inj : ∀ {a b : Nat}, a < G.length → b < G.length → idG G a = idG G b → a = b := fun ha hb e => idG_inj o ha hb e
  have hnd : (idG G n :: (pastG G [idG G n] ++ (futG G (idG G n) ++ antG G (idG G n)))).Nodup := by
    rw [List.nodup_cons, List.nodup_append, List.nodup_append]
    refine ⟨?_, (risH_rises _).nodup, ⟨nodup_srtPl o, nodup_srtPl o, ?_⟩, ?_⟩
    · intro h
      rw [List.mem_append, List.mem_append, hfp, hff, hfa] at h
      rcases h with ⟨k, h1, h2, h3⟩ | ⟨k, h1, h2, h3⟩ | ⟨k, h1, h2, h3⟩
      · have := inj h1 hn h3; subst this; exact absurd (h2.lt o) (by omega)
      · have := inj h1 hn h3; subst this; exact absurd (h2.lt o) (by omega)
      · exact h2.1 (inj h1 hn h3)
    · intro a ha b hb e
      subst e
      obtain ⟨k, h1, h2, h3⟩ := (hff a).1 ha
      obtain ⟨j, j1, j2, j3⟩ := (hfa a).1 hb
      have := inj h1 j1 (h3.trans j3.symm)
      subst this
      exact j2.2.1 h2
    · intro a ha b hb e
      subst e
      obtain ⟨k, h1, h2, h3⟩ := (hfp a).1 ha
      rcases List.mem_append.1 hb with hb | hb
      · obtain ⟨j, j1, j2, j3⟩ := (hff a).1 hb
        have := inj h1 j1 (h3.trans j3.symm)
        subst this
        have e1 := h2.lt o
        have e2 := j2.lt o
        omega
      · obtain ⟨j, j1, j2, j3⟩ := (hfa a).1 hb
        have := inj h1 j1 (h3.trans j3.symm)
        subst this
        exact j2.2.2 h2
  refine ⟨hnd, ?_⟩
  have hall : ((List.range G.length).map (idG G)).Perm (idG G n :: (pastG G [idG G n] ++ (futG G (idG G n) ++ antG G (idG G n)))) := by
    refine (List.perm_ext_iff_of_nodup (nodup_map_on (fun a ha b hb e => inj (List.mem_range.1 ha) (List.mem_range.1 hb) e) List.nodup_range) hnd).2 fun x => ?_
    rw [List.mem_map, List.mem_cons, List.mem_append, List.mem_append, hfp, hff, hfa]
    constructor
    · rintro ⟨k, hk, rfl⟩
      have hk := List.mem_range.1 hk
      by_cases e1 : k = n
      · exact .inl (by rw [e1])
      · by_cases e2 : Anc G k n
        · exact .inr (.inl ⟨k, hk, e2, rfl⟩)
        · by_cases e3 : Anc G n k
          · exact .inr (.inr (.inl ⟨k, hk, e3, rfl⟩))
          · exact .inr (.inr (.inr ⟨k, hk, ⟨e1, e3, e2⟩, rfl⟩))
    · rintro (rfl | ⟨k, hk, _, rfl⟩ | ⟨k, hk, _, rfl⟩ | ⟨k, hk, _, rfl⟩)
      · exact ⟨n, List.mem_range.2 hn, rfl⟩
      · exact ⟨k, List.mem_range.2 hk, rfl⟩
      · exact ⟨k, List.mem_range.2 hk, rfl⟩
      · exact ⟨k, List.mem_range.2 hk, rfl⟩
  rw [← hall.length_eq]
  simp
end Go.Proofs.YtbfpckomgpkjgaaGreat

namespace Go.Proofs.YtbfpckomgpkjgaaGreat
open Go.RowKit

/-- What the document's Past has found, when the first i that it looks at are gone over. -/
structure PstI (G : Gr) (ids out : List Hh) (i : Nat) : Prop where
  nd : out.Nodup
  sub : ∀ x ∈ out, ∃ a, a < G.length ∧ idG G a = x ∧ ∃ z ∈ ids, ∃ n, placeG G z = some n ∧ Anc G a n
  cl : ∀ j x, (ids ++ out)[j]? = some x → j < i → ∀ n, placeG G x = some n → ∀ p ∈ parG G n, idG G p ∈ out
theorem PstI.start (G : Gr) (ids : List Hh) : PstI G ids [] 0 := ⟨List.nodup_nil, fun x hx => by simp at hx, fun j x _ h => by omega⟩
theorem PstI.le {G : Gr} {ids out : List Hh} {i : Nat} (h : PstI G ids out i) : out.length ≤ G.length := by
  have := h.nd.length_le_of_subset (l₂ := (List.range G.length).map (idG G)) (fun x hx => by
    obtain ⟨a, ha, hx, _⟩ := h.sub x hx
    exact List.mem_map.2 ⟨a, List.mem_range.2 ha, hx⟩)
  simpa using this
theorem PstI.skip {G : Gr} {ids out : List Hh} {i : Nat} (h : PstI G ids out i) {z : Hh} (hz : (ids ++ out)[i]? = some z) (hp : placeG G z = none) : PstI G ids out (i + 1) :=
  ⟨h.nd, h.sub, fun j x hx hj n hn => by
    by_cases e : j = i
    · subst e
      rw [hz] at hx
      cases hx
      rw [hp] at hn
      cases hn
    · exact h.cl j x hx (by omega) n hn⟩
theorem PstI.one {G : Gr} (o : OkG G) {ids out : List Hh} {i : Nat} (h : PstI G ids out i) {z : Hh} (hz : (ids ++ out)[i]? = some z) {n : Nat} (hp : placeG G z = some n) {x : Hh} (hx : x ∈ (parG G n).map (idG G)) (hno : x ∉ out) : PstI G ids (out ++ [x]) i := by
  obtain ⟨p, hpp, rfl⟩ := List.mem_map.1 hx
  have hpl : p < G.length := Nat.lt_trans (o.par n p hpp) (parG_lt hpp)
  have hil : i < (ids ++ out).length := (List.getElem?_eq_some_iff.1 hz).1
  refine ⟨?_, fun y hy => ?_, fun j y hy hj m hm q hq => ?_⟩
  · rw [List.nodup_append]
    exact ⟨h.nd, by simp, fun a ha b hb e => by rw [List.mem_singleton] at hb; subst hb e; exact hno ha⟩
  · rcases List.mem_append.1 hy with hy | hy
    · exact h.sub y hy
    · rw [List.mem_singleton] at hy
      subst hy
      refine ⟨p, hpl, rfl, ?_⟩
      rcases List.mem_append.1 (List.mem_of_getElem? hz) with hm | hm
      · exact ⟨z, hm, n, hp, .one hpp⟩
      · obtain ⟨a, ha, hid, z', hz', n', hn', hA⟩ := h.sub z hm
        rw [← hid, placeG_id o ha] at hp
        cases hp
        exact ⟨z', hz', n', hn', (Anc.one hpp).trans hA⟩
  · rw [← List.append_assoc, List.getElem?_append_left (by omega)] at hy
    exact List.mem_append_left _ (h.cl j y hy hj m hm q hq)
theorem PstI.close {G : Gr} {ids out : List Hh} {i : Nat} (h : PstI G ids out i) {z : Hh} (hz : (ids ++ out)[i]? = some z) {n : Nat} (hp : placeG G z = some n) (hall : ∀ x ∈ (parG G n).map (idG G), x ∈ out) : PstI G ids out (i + 1) :=
  ⟨h.nd, h.sub, fun j x hx hj m hm q hq => by
    by_cases e : j = i
    · subst e
      rw [hz] at hx
      cases hx
      rw [hp] at hm
      cases hm
      exact hall _ (List.mem_map.2 ⟨q, hq, rfl⟩)
    · exact h.cl j x hx (by omega) m hm q hq⟩
theorem PstI.anc {G : Gr} (o : OkG G) {ids out : List Hh} (h : PstI G ids out (ids ++ out).length) {a n : Nat} (k : Anc G a n) : ∀ x, x ∈ ids ++ out → placeG G x = some n → idG G a ∈ out := by
  have cl : ∀ x, x ∈ ids ++ out → ∀ n, placeG G x = some n → ∀ p ∈ parG G n, idG G p ∈ out := fun x hx n hn p hp => by
    obtain ⟨j, hj, rfl⟩ := List.getElem_of_mem hx
    exact h.cl j _ (List.getElem?_eq_getElem hj) hj n hn p hp
  induction k with
  | one k => exact fun x hx hn => cl x hx _ hn _ k
  | @more q n k1 k2 ih =>
    intro x hx hn
    have h1 := cl x hx _ hn _ k2
    exact ih (idG G q) (List.mem_append_right _ h1) (placeG_id o k1.bnd)
theorem PstI.done {G : Gr} (o : OkG G) {ids out : List Hh} (h : PstI G ids out (ids ++ out).length) : risH out = pastG G ids := by
  unfold pastG
  refine ansG_of fun x => ⟨fun hx => ?_, ?_⟩
  · obtain ⟨a, ha, hid, z, hz, n, hn, hA⟩ := h.sub x hx
    exact ⟨a, ha, ⟨z, hz, n, hn, hA⟩, hid⟩
  · rintro ⟨a, ha, ⟨z, hz, n, hn, hA⟩, rfl⟩
    exact h.anc o hA z (List.mem_append_left _ hz) hn
end Go.Proofs.YtbfpckomgpkjgaaGreat
