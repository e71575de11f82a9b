/-
  reach: what New makes, whatever the order in which it makes it.
  A region that draws its order, walked by what stands while some of its operations are done: one proof for each operation, none for each order.
-/
import Derived.Test.YtbfpckomgpkjgaaGreatRxA
import Derived.Test.YtbfpckomgpkjgaaGreatPRnQ16
import Derived.Test.YtbfpckomgpkjgaaGreatPRnQ4
namespace Go.Proofs.YtbfpckomgpkjgaaGreat
open Go.RowKit Go.Maps

theorem step_insert {H : Type} {P : Program} (w : World) {ops : Array Oper} {o : Oper} {a : Act} {K : Act → World → Prop} {Q : Exit → Act → World → Prop} {F : Prop} (hg : o.guard = none) (m x v : Operand) (t : TypeId) (hop : o.op = Op.insert t m x v)
    (k e : TypeId) (Kd : Maps.Keyed P k) (ht : P.underlying t = some (.map k e)) (R : Value → Option (DataW H × List MemPlace)) (b n : Nat) (D : DataW H)
    (hm : a.eval m = .map (some b)) (hown : w.ownsMap P k R b n D) (hn : n < maxLen) (key val : Value) (kl : Lit) (hx : a.eval x = key) (hv : a.eval v = val) (hkey : keyOf P k key = some kl)
    (d : DataW H) (ps : List MemPlace) (hval : R val = some (d, ps))
    (hK : ∀ w', w'.ownsMap P k R b (n + 1) (D.put kl d) → w.grownBy w' (some b) → K (a.put o.dst undef) w') : if Region.wanted o (yielded ops a.tmps) = true then Oper.wp P o a w K Q else F := by
  have hw : Region.wanted o (yielded ops a.tmps) = true := by simp [Region.wanted, hg]
  rw [if_pos hw]
  obtain ⟨w', hrun, r1, r2⟩ := hown.update Kd ht hn hkey hval
  unfold Oper.wp
  simp [execOp, hop, hm, hx, hv, hrun, Result.andThen]
  exact hK w' r1 r2
/-- What there is so far. -/
structure NwI (w : World) (r : Hh) (og : Option GrM) (ot : Option TrM) (ob : Option Nat) (on : Option (Nat × Bool)) (oc : Option Nat) (W : World) : Prop where
  v : Below w.heap.size w W
  g : ∀ m, og = some m → GrOk W w.heap.size m ∧ GrIs m (newG r)
  t : ∀ m, ot = some m → TrOk W w.heap.size m ∧ TrI m ∧ m.L = [ndM1] ∧ m.dl = 0
  b : ∀ p, ob = some p → Blk W p 23 (hC r).toArray ∧ w.heap.size ≤ p
  n : ∀ p z, on = some (p, z) → W.ownsMap Tryz.prog 23 (plainElem Tryz.prog 3) p (if z then 1 else 0) (mapD (if z then [r] else [])) ∧ w.heap.size ≤ p
  c : ∀ p, oc = some p → W.ownsMap Tryz.prog 3 slR p 0 (.map []) ∧ w.heap.size ≤ p
  gt : ∀ m m', og = some m → ot = some m' → ∀ k, touch m k → ¬ tfoot m' k
  gb : ∀ m p, og = some m → ob = some p → ¬ touch m p
  gn : ∀ m p z, og = some m → on = some (p, z) → ¬ touch m p
  gc : ∀ m p, og = some m → oc = some p → ¬ touch m p
  tb : ∀ m p, ot = some m → ob = some p → ¬ tfoot m p
  tn : ∀ m p z, ot = some m → on = some (p, z) → ¬ tfoot m p
  tc : ∀ m p, ot = some m → oc = some p → ¬ tfoot m p
  nc : ∀ p z q, on = some (p, z) → oc = some q → p ≠ q
theorem map_lt {w : World} {P : Program} {k : TypeId} {H : Type} {R : Value → Option (DataW H × List MemPlace)} {b n : Nat} {D : DataW H} (h : w.ownsMap P k R b n D) : b < w.heap.size := by
  obtain ⟨es, clock, hb, r⟩ := h
  exact (Array.getElem?_eq_some_iff.1 hb).1
theorem NwI.start (w : World) (r : Hh) : NwI w r none none none none none w where
  v := nxRefl w
  g m e := by cases e
  t m e := by cases e
  b m e := by cases e
  n m z e := by cases e
  c m e := by cases e
  gt m m' e := by cases e
  gb m p e := by cases e
  gn m p z e := by cases e
  gc m p e := by cases e
  tb m p e := by cases e
  tn m p z e := by cases e
  tc m p e := by cases e
  nc m z p e := by cases e
section
variable {w W W' : World} {r : Hh} {og : Option GrM} {ot : Option TrM} {ob : Option Nat} {on : Option (Nat × Bool)} {oc : Option Nat}
theorem NwI.later (h : NwI w r og ot ob on oc W) (k : Below W.heap.size W W') : NwI w r og ot ob on oc W' where
  v := nxTo h.v k
  g m e := ⟨(h.g m e).1.later k, (h.g m e).2⟩
  t m e := ⟨(h.t m e).1.later k, (h.t m e).2⟩
  b p e := ⟨(h.b p e).1.below k (h.b p e).1.lt, (h.b p e).2⟩
  n p z e := ⟨map_keep (h.n p z e).1 (Keeps.of_below k (fun _ => False)) id, (h.n p z e).2⟩
  c p e := ⟨map_keep (h.c p e).1 (Keeps.of_below k (fun _ => False)) id, (h.c p e).2⟩
  gt := h.gt
  gb := h.gb
  gn := h.gn
  gc := h.gc
  tb := h.tb
  tn := h.tn
  tc := h.tc
  nc := h.nc
theorem GrOk.tge {base : Nat} {m : GrM} (h : GrOk W base m) (hi : GrIs m (newG r)) {k : Nat} (hk : touch m k) : base ≤ k := by
  rcases hk with hk | ⟨x, hx, hk⟩
  · exact (h.lt hk).1
  · exfalso
    obtain ⟨n, hn, rfl⟩ := List.getElem_of_mem hx
    have h1 := hi.len
    have h2 : (newG r).length = 1 := rfl
    obtain rfl : n = 0 := by omega
    rcases hk with ⟨h0, _⟩ | ⟨h0, _⟩
    · refine h0 ?_
      rw [hi.par 0 hn]
      rfl
    · have h3 := (hi.row 0 hn).1
      simp at h3
      exact h0 h3
theorem NwI.addG (h : NwI w r none ot ob on oc W) {m : GrM} (hg : GrOk W' W.heap.size m) (hi : GrIs m (newG r)) (k : Below W.heap.size W W') : NwI w r (some m) ot ob on oc W' := by
  have h' := h.later k
  exact { h' with
    g := fun m' e => by cases e; exact ⟨hg.lower h.v.size, hi⟩
    gt := fun m1 m' e e' k hk hf => by
      cases e
      have := hg.tge hi hk
      have := ((h.t m' e').1.lt hf).2
      omega
    gb := fun m1 p e e' hk => by
      cases e
      have := hg.tge hi hk
      have := (h.b p e').1.lt
      omega
    gn := fun m1 p z e e' hk => by
      cases e
      have := hg.tge hi hk
      have := map_lt (h.n p z e').1
      omega
    gc := fun m1 p e e' hk => by
      cases e
      have := hg.tge hi hk
      have := map_lt (h.c p e').1
      omega }
theorem TrOk.lower {base base' : Nat} {m : TrM} (h : TrOk W base m) (hb : base' ≤ base) : TrOk W base' m :=
  { h with qb := Nat.le_trans hb h.qb, nds := own_base h.nds hb, kid := fun x hx => own_base (h.kid x hx) hb }
theorem NwI.addT (h : NwI w r og none ob on oc W) {m : TrM} (hg : TrOk W' W.heap.size m) (hi : TrI m ∧ m.L = [ndM1] ∧ m.dl = 0) (k : Below W.heap.size W W') : NwI w r og (some m) ob on oc W' := by
  have h' := h.later k
  exact { h' with
    t := fun m' e => by cases e; exact ⟨hg.lower h.v.size, hi⟩
    gt := fun m1 m' e e' k hk hf => by
      cases e'
      have := (hg.lt hf).1
      have := (h.g m1 e).1.tlt hk
      omega
    tb := fun m1 p e e' hk => by
      cases e
      have := (hg.lt hk).1
      have := (h.b p e').1.lt
      omega
    tn := fun m1 p z e e' hk => by
      cases e
      have := (hg.lt hk).1
      have := map_lt (h.n p z e').1
      omega
    tc := fun m1 p e e' hk => by
      cases e
      have := (hg.lt hk).1
      have := map_lt (h.c p e').1
      omega }
theorem NwI.addB (h : NwI w r og ot none on oc W) (hB : Blk W' W.heap.size 23 (hC r).toArray) (k : Below W.heap.size W W') : NwI w r og ot (some W.heap.size) on oc W' := by
  have h' := h.later k
  exact { h' with
    b := fun p e => by cases e; exact ⟨hB, h.v.size⟩
    gb := fun m1 p e e' hk => by
      cases e'
      have := (h.g m1 e).1.tlt hk
      omega
    tb := fun m1 p e e' hk => by
      cases e'
      have := ((h.t m1 e).1.lt hk).2
      omega }
theorem NwI.addN (h : NwI w r og ot ob none oc W) (hM : W'.ownsMap Tryz.prog 23 (plainElem (H := Unit) Tryz.prog 3) W.heap.size 0 (mapD [])) (k : Below W.heap.size W W') : NwI w r og ot ob (some (W.heap.size, false)) oc W' := by
  have h' := h.later k
  exact { h' with
    n := fun p z e => by cases e; exact ⟨hM, h.v.size⟩
    gn := fun m1 p z e e' hk => by
      cases e'
      have := (h.g m1 e).1.tlt hk
      omega
    tn := fun m1 p z e e' hk => by
      cases e'
      have := ((h.t m1 e).1.lt hk).2
      omega
    nc := fun p z q e e' hk => by
      cases e
      have := map_lt (h.c q e').1
      omega }
theorem NwI.addC (h : NwI w r og ot ob on none W) (hM : W'.ownsMap Tryz.prog 3 slR W.heap.size 0 (.map [])) (k : Below W.heap.size W W') : NwI w r og ot ob on (some W.heap.size) W' := by
  have h' := h.later k
  exact { h' with
    c := fun p e => by cases e; exact ⟨hM, h.v.size⟩
    gc := fun m1 p e e' hk => by
      cases e'
      have := (h.g m1 e).1.tlt hk
      omega
    tc := fun m1 p e e' hk => by
      cases e'
      have := ((h.t m1 e).1.lt hk).2
      omega
    nc := fun p z q e e' hk => by
      cases e'
      have := map_lt (h.n p z e).1
      omega }
theorem NwI.put {pn : Nat} (h : NwI w r og ot ob (some (pn, false)) oc W) (hM : W'.ownsMap Tryz.prog 23 (plainElem (H := Unit) Tryz.prog 3) pn (0 + 1) ((mapD []).put (hKey r) (.lit (.int .i64 0)))) (hg : W.grownBy W' (some pn)) : NwI w r og ot ob (some (pn, true)) oc W' := by
  have K : Keeps (fun b => b = pn) W W' := Keeps.grown (Keeps.refl _ _) hg (fun k e => by cases e; rfl)
  have hn := (h.n pn false rfl).2
  exact {
    v := h.v.trans (K.below h.v.size fun k hk e => by omega)
    g := fun m e => ⟨(h.g m e).1.keeps K fun k e' e9 => h.gn m pn false e rfl (by rw [← e9]; exact e'), (h.g m e).2⟩
    t := fun m e => ⟨(h.t m e).1.keeps K fun k e' e9 => h.tn m pn false e rfl (by rw [← e9]; exact e'), (h.t m e).2⟩
    b := fun p e => ⟨(h.b p e).1.keeps K fun e9 => map_ne (h.n pn false rfl).1 (h.b p e).1 e9, (h.b p e).2⟩
    n := fun p z e => by
      injection e with e
      injection e with e1 e2
      subst e1 e2
      refine ⟨?_, hn⟩
      have e3 : mapD [r] = (mapD []).put (hKey r) (.lit (.int .i64 0)) := mapD_snoc [] r
      simp only [if_true]
      rw [e3]
      exact hM
    c := fun p e => ⟨map_keep (h.c p e).1 K fun e9 => h.nc pn false p rfl e e9.symm, (h.c p e).2⟩
    gt := h.gt
    gb := h.gb
    gn := fun m p z e e' => by cases e'; exact h.gn m pn false e rfl
    gc := h.gc
    tb := h.tb
    tn := fun m p z e e' => by cases e'; exact h.tn m pn false e rfl
    tc := h.tc
    nc := fun p z q e e' => by cases e; exact h.nc pn false q rfl e' }
end
/-- A new index. -/
def newX (q : Nat) (g : GrM) (t : TrM) (r : Hh) (pb nb cb : Nat) : RxM := ⟨q, g, t, some ⟨pb, 0, none⟩, 1, [r], nb, [r], cb, 0, .map [], fun _ => (none, 0), fun _ => []⟩
def nd0x : Nd := ndM1.d
theorem newX_ok {w W : World} {r : Hh} {g : GrM} {t : TrM} {pb nb cb : Nat} (h : NwI w r (some g) (some t) (some pb) (some (nb, true)) (some cb) W) {q : Nat} (hq : q = W.heap.size) :
    RxOk (W.alloc (.cells #[.pointer (some ⟨g.q, 0, none⟩), .pointer (some ⟨t.q, 0, none⟩), .slice (some ⟨pb, 0, none⟩) 1 1, .map (some nb), .map (some cb)] 63)) w.heap.size (newX q g t r pb nb cb) ∧ RxI (newX q g t r pb nb cb) (newG r) ∧ Below w.heap.size w (W.alloc (.cells #[.pointer (some ⟨g.q, 0, none⟩), .pointer (some ⟨t.q, 0, none⟩), .slice (some ⟨pb, 0, none⟩) 1 1, .map (some nb), .map (some cb)] 63)) := by
  have hv := h.v
  have h' := h.later (nxAlloc (nxRefl W) (.cells #[.pointer (some ⟨g.q, 0, none⟩), .pointer (some ⟨t.q, 0, none⟩), .slice (some ⟨pb, 0, none⟩) 1 1, .map (some nb), .map (some cb)] 63))
  have hown : ∀ k, rown (newX q g t r pb nb cb) k → k = q ∨ k = nb ∨ k = cb ∨ k = pb := fun k e => by
    rcases e with e | e | e | e | ⟨j, e⟩
    · exact .inl e
    · exact .inr (.inl e)
    · exact .inr (.inr (.inl e))
    · cases e; exact .inr (.inr (.inr rfl))
    · cases e
  refine ⟨?_, ?_, h'.v⟩
  · exact {
      b := by subst hq; exact heap_alloc_new W _
      qb := by rw [hq]; exact hv.size
      nbb := (h.n nb true rfl).2
      cbb := (h.c cb rfl).2
      g := (h'.g g rfl).1
      t := (h'.t t rfl).1
      ids := by
        have h9 := own_made (base := w.heap.size) (n := 1) (c := 1) (size := 32) (cs := hC r) (h'.b pb rfl).1 (h'.b pb rfl).2 (by omega) (by simp [maxLen]) (by rw [hC_len])
        have e : hsC [r] = hC r := by simp [hsC]
        rw [List.take_of_length_le (by rw [hC_len]; omega), ← e] at h9
        exact h9
      map := (h'.n nb true rfl).1
      cov := (h'.c cb rfl).1
      at_ := fun k => rfl
      row := fun k => ⟨rfl, .inl ⟨rfl, rfl⟩⟩
      sg := fun k e e' => by
        rcases hown k e with rfl | rfl | rfl | rfl
        · have := (h.g g rfl).1.tlt e'; omega
        · exact h.gn g _ true rfl rfl e'
        · exact h.gc g _ rfl rfl e'
        · exact h.gb g _ rfl rfl e'
      st := fun k e e' => by
        rcases hown k e with rfl | rfl | rfl | rfl
        · have := ((h.t t rfl).1.lt e').2; omega
        · exact h.tn t _ true rfl rfl e'
        · exact h.tc t _ rfl rfl e'
        · exact h.tb t _ rfl rfl e'
      gt := h.gt g t rfl rfl
      nc := h.nc nb true cb rfl rfl
      fd := fun i j _ k e => by cases e }
  · obtain ⟨_, hi, hl, _⟩ := h.t t rfl
    have hT : t.T = [nd0x] := by simp [TrM.T, hl, nd0x]
    have hlen : t.T.length = 1 := by rw [hT]; rfl
    refine ⟨(h.g g rfl).2, hi, rfl, rfl, ?_, Nat.zero_le _⟩
    refine ⟨newG_ok r, hi.ok, hi.iv, by rw [show (newX q g t r pb nb cb).t = t from rfl, hlen]; rfl, fun n h0 hn => ?_, fun m c => ?_, fun m => List.Pairwise.nil⟩
    · have : n < t.T.length := hn
      omega
    · refine ⟨fun e => (by cases e), fun e => ?_⟩
      have h1 := e.2.1.lt (newG_ok r)
      have h2 := e.lt
      have : (newG r).length = 1 := rfl
      omega
theorem RxOk.lower {w : World} {base base' : Nat} {m : RxM} (h : RxOk w base m) (hb : base' ≤ base) : RxOk w base' m :=
  { h with qb := Nat.le_trans hb h.qb, nbb := Nat.le_trans hb h.nbb, cbb := Nat.le_trans hb h.cbb, g := h.g.lower hb, t := h.t.lower hb, ids := own_base h.ids hb, row := fun k => own_base (h.row k) hb }
end Go.Proofs.YtbfpckomgpkjgaaGreat

namespace Go.Proofs.YtbfpckomgpkjgaaGreat
open Go

section
variable {P : Program} {ops : Array Oper} {Q : Exit → Act → World → Prop} {md : Region.Mode}
theorem count_set : ∀ (l : List Bool) (i : Nat), l[i]? = some false → (l.set i true).countP (· == false) + 1 = l.countP (· == false)
  | [], i, h => by simp at h
  | b :: l, 0, h => by simp at h; subst h; simp
  | b :: l, i + 1, h => by
    have ih := count_set l i (by simpa using h)
    rw [List.set_cons_succ, List.countP_cons, List.countP_cons]
    omega
theorem wpAny_inv (Inv : Array Bool → Act → World → Prop)
    (hstep : ∀ L a w i, L.size = ops.size → Inv L a w → i ∈ Region.ready md ops L → wpOp P ops Q i (fun a' w' => Inv (L.setIfInBounds i true) a' w') a w)
    (hend : ∀ L a w, L.size = ops.size → Inv L a w → Region.ready md ops L = [] → Q .normal a w) :
    ∀ (fuel : Nat) (L : Array Bool) (a : Act) (w : World), L.size = ops.size → L.toList.countP (· == false) ≤ fuel → Inv L a w → wpAny P md ops Q fuel L a w
  | 0, L, a, w, hs, hc, hI => by
    have hr : Region.ready md ops L = [] := by
      rw [List.eq_nil_iff_forall_not_mem]
      intro j hj
      obtain ⟨h0, o, ho, _⟩ := mem_ready.1 hj
      have hj2 : j < L.size := by rw [hs]; exact (Array.getElem?_eq_some_iff.1 ho).1
      have h1 : L[j] = false := by rw [Array.getD_eq_getD_getElem?, Array.getElem?_eq_getElem hj2] at h0; exact h0
      have h2 : 0 < L.toList.countP (· == false) := List.countP_pos_iff.2 ⟨L[j], by simp, by rw [h1]; rfl⟩
      omega
    exact ⟨hr, hend L a w hs hI hr⟩
  | fuel + 1, L, a, w, hs, hc, hI => by
    refine ⟨fun hr => hend L a w hs hI hr, fun i hi => wpOp_mono (fun a' w' h' => ?_) (hstep L a w i hs hI hi)⟩
    obtain ⟨h0, o, ho, _⟩ := mem_ready.1 hi
    have hj2 : i < L.size := by rw [hs]; exact (Array.getElem?_eq_some_iff.1 ho).1
    have h1 : L.toList[i]? = some false := by
      rw [Array.getD_eq_getD_getElem?, Array.getElem?_eq_getElem hj2] at h0
      simp only [Option.getD_some] at h0
      simp [hj2, h0]
    have h2 := count_set L.toList i h1
    exact wpAny_inv Inv hstep hend fuel _ a' w' (by simp [hs]) (by rw [Array.toList_setIfInBounds]; omega) h'
/-- Each operation waits for earlier ones alone. -/
def upB (md : Region.Mode) (ops : Array Oper) : Bool := (List.range ops.size).all fun j => ((ops[j]?).map fun o => o.after.all fun e => !Region.binds md e || decide (e.on < j)).getD true
theorem all_done {L : Array Bool} (hu : upB md ops = true) (hs : L.size = ops.size) (hr : Region.ready md ops L = []) : ∀ i, i < ops.size → L.getD i false = true := by
  intro i
  induction i using Nat.strongRecOn with
  | ind i ih =>
    intro hi
    have hi2 : i < L.size := by omega
    cases hb : L[i] with
    | true => rw [Array.getD_eq_getD_getElem?, Array.getElem?_eq_getElem hi2, hb]; rfl
    | false =>
      exfalso
      have : i ∈ Region.ready md ops L := by
        refine mem_ready.2 ⟨by rw [Array.getD_eq_getD_getElem?, Array.getElem?_eq_getElem hi2, hb]; rfl, ops[i], Array.getElem?_eq_getElem hi, fun e he hbd => ?_⟩
        unfold upB at hu
        have h1 := List.all_eq_true.1 hu i (List.mem_range.2 hi)
        rw [Array.getElem?_eq_getElem hi] at h1
        simp only [Option.map_some, Option.getD_some, Array.all_eq_true_iff_forall_mem] at h1
        have h2 := h1 e he
        rw [hbd] at h2
        simp at h2
        exact ih e.on h2 (by omega)
      rw [hr] at this
      cases this
theorem wp_region_inv {id : Nat} {a : Act} {w : World} (Inv : Array Bool → Act → World → Prop) (hm : P.follows .mixedOrders = true) (hu : upB .any ops = true)
    (h0 : Inv (Array.replicate ops.size false) a w.drew)
    (hstep : ∀ L a w i, Inv L a w → i ∈ Region.ready .any ops L → wpOp P ops Q i (fun a' w' => Inv (L.setIfInBounds i true) a' w') a w)
    (hend : ∀ L a w, Inv L a w → (∀ i, i < ops.size → L.getD i false = true) → Q .normal a w) : (Code.region id ops true).wp P Q a w := by
  refine wp_region_any hm (wpAny_inv Inv (fun L a w i _ hI hi => hstep L a w i hI hi) (fun L a w hs hI hr => hend L a w hI (all_done hu hs hr)) ops.size _ a _ (by simp) ?_ h0)
  have := List.countP_le_length (p := fun b : Bool => b == false) (l := (Array.replicate ops.size false).toList)
  simpa using this
end
end Go.Proofs.YtbfpckomgpkjgaaGreat
