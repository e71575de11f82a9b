/-
  Maps whose elements are slices: a slice as a datum.
  reach: an index in memory.
  reach: numbers; the chain's ends; where one would stand in a cover.
-/
import Derived.Test.YtbfpckomgpkjgaaGreatChecked
import Derived.Maps.RangeWalk
import Derived.Maps.OwnSet
import Derived.Test.YtbfpckomgpkjgaaGreatPRnQ3
import Derived.Test.YtbfpckomgpkjgaaGreatTe4
import Derived.Test.YtbfpckomgpkjgaaGreatTe8
import Derived.Test.YtbfpckomgpkjgaaGreatPRnQ7
import Derived.Deep.RegionHeldLaw
import Derived.BigQuiet
import Derived.Deep.Quiet
namespace Go.Proofs.YtbfpckomgpkjgaaGreat
open Go.RowKit Go.Maps

/-- A slice as a map's element. -/
abbrev SlH := Option Addr × Nat × Nat
def slR : Value → Option (DataW SlH × List MemPlace)
  | .slice A n c => some (.held (A, n, c), [])
  | _ => none
theorem slR_mk (A : Option Addr) (n c : Nat) : slR (.slice A n c) = some (.held (A, n, c), []) := rfl
theorem slR_inv {v : Value} {z : DataW SlH × List MemPlace} (h : slR v = some z) : ∃ A n c, v = .slice A n c ∧ z = (.held (A, n, c), []) := by
  cases v <;> simp [slR] at h
  subst h
  exact ⟨_, _, _, rfl, rfl⟩

end Go.Proofs.YtbfpckomgpkjgaaGreat

namespace Go.Proofs.YtbfpckomgpkjgaaGreat
open Go.RowKit Go.Maps

theorem rxLaw : Keyed Tryz.prog 3 := int_keyed Tryz.underlying3
theorem rxKey {k : Nat} (hk : k ≤ 1000000000) : keyOf Tryz.prog 3 (.int .i64 (k : Int)) = some (.int .i64 (k : Int)) :=
  keyOf_int_mk Tryz.underlying3 (by
    show (decide ((-9223372036854775808 : Int) ≤ (k : Int)) && decide ((k : Int) ≤ 9223372036854775807)) = true
    rw [Bool.and_eq_true]
    exact ⟨decide_eq_true (by omega), decide_eq_true (by omega)⟩)
/-- An index in memory. -/
structure RxM where
  q : Nat
  g : GrM
  t : TrM
  iA : Option Addr
  ic : Nat
  ids : List Hh
  nb : Nat
  ks : List Hh
  cb : Nat
  cn : Nat
  D : DataW SlH
  f : Nat → Option Addr × Nat
  C : Nat → List Nat
/-- Its own blocks. -/
def rown (m : RxM) (k : Nat) : Prop := k = m.q ∨ k = m.nb ∨ k = m.cb ∨ m.iA.map Addr.block = some k ∨ ∃ j, (m.f j).1.map Addr.block = some k
/-- What it may change; what it looks at. -/
def rfoot (m : RxM) (k : Nat) : Prop := foot m.g k ∨ tfoot m.t k ∨ rown m k
def rtouch (m : RxM) (k : Nat) : Prop := touch m.g k ∨ tfoot m.t k ∨ rown m k
theorem rfoot_touch {m : RxM} {k : Nat} (h : rfoot m k) : rtouch m k := h.imp .inl id
structure RxOk (w : World) (base : Nat) (m : RxM) : Prop where
  b : Blk w m.q 63 #[.pointer (some ⟨m.g.q, 0, none⟩), .pointer (some ⟨m.t.q, 0, none⟩), .slice m.iA m.ids.length m.ic, .map (some m.nb), .map (some m.cb)]
  qb : base ≤ m.q
  nbb : base ≤ m.nb
  cbb : base ≤ m.cb
  g : GrOk w base m.g
  t : TrOk w base m.t
  ids : w.ownsRow base 23 32 (.slice m.iA m.ids.length m.ic) m.ids.length (hsC m.ids)
  map : w.ownsMap Tryz.prog 23 (plainElem Tryz.prog 3) m.nb m.ks.length (mapD m.ks)
  cov : w.ownsMap Tryz.prog 3 slR m.cb m.cn m.D
  at_ : ∀ k : Nat, m.D.atKey (.int .i64 (k : Int)) (.held (none, 0, 0)) = .held ((m.f k).1, (m.C k).length, (m.f k).2)
  row : ∀ k, w.ownsRow base 3 1 (.slice (m.f k).1 (m.C k).length (m.f k).2) (m.C k).length (tiC (m.C k))
  sg : ∀ k, rown m k → ¬ touch m.g k
  st : ∀ k, rown m k → ¬ tfoot m.t k
  gt : ∀ k, touch m.g k → ¬ tfoot m.t k
  nc : m.nb ≠ m.cb
  fd : ∀ i j, i ≠ j → ∀ k, (m.f i).1.map Addr.block = some k → (m.f j).1.map Addr.block ≠ some k
theorem RxOk.keeps {w w' : World} {base : Nat} {m : RxM} {S : Nat → Prop} (h : RxOk w base m) (hk : Keeps S w w') (hS : ∀ k, rtouch m k → ¬ S k) : RxOk w' base m where
  b := h.b.keeps hk (hS _ (.inr (.inr (.inl rfl))))
  qb := h.qb
  nbb := h.nbb
  cbb := h.cbb
  g := h.g.keeps hk fun k e => hS k (.inl e)
  t := h.t.keeps hk fun k e => hS k (.inr (.inl e))
  ids := hk.own h.ids fun k e => hS k (.inr (.inr (.inr (.inr (.inr (.inl e))))))
  map := hk.map h.map (hS _ (.inr (.inr (.inr (.inl rfl)))))
  cov := by
    obtain ⟨es, clock, hb, r⟩ := h.cov
    exact ⟨es, clock, (hk.block _ (Array.getElem?_eq_some_iff.1 hb).1 (hS _ (.inr (.inr (.inr (.inr (.inl rfl))))))).trans hb, r⟩
  at_ := h.at_
  row k := hk.own (h.row k) fun j e => hS j (.inr (.inr (.inr (.inr (.inr (.inr ⟨k, e⟩))))))
  sg := h.sg
  st := h.st
  gt := h.gt
  nc := h.nc
  fd := h.fd
theorem RxOk.later {w w' : World} {base : Nat} {m : RxM} (h : RxOk w base m) (hk : Below w.heap.size w w') : RxOk w' base m := h.keeps (Keeps.of_below hk (fun _ => False)) fun _ _ => id
theorem RxOk.olt {w : World} {base : Nat} {m : RxM} (h : RxOk w base m) {k : Nat} (hk : rown m k) : base ≤ k ∧ k < w.heap.size := by
  rcases hk with rfl | rfl | rfl | e | ⟨j, e⟩
  · exact ⟨h.qb, h.b.lt⟩
  · obtain ⟨es, clock, hb, r⟩ := h.map; exact ⟨h.nbb, (Array.getElem?_eq_some_iff.1 hb).1⟩
  · obtain ⟨es, clock, hb, r⟩ := h.cov; exact ⟨h.cbb, (Array.getElem?_eq_some_iff.1 hb).1⟩
  · obtain ⟨h1, cur, h2⟩ := own_blk h.ids e; exact ⟨h1, h2.lt⟩
  · obtain ⟨h1, cur, h2⟩ := own_blk (h.row j) e; exact ⟨h1, h2.lt⟩
theorem RxOk.lt {w : World} {base : Nat} {m : RxM} (h : RxOk w base m) {k : Nat} (hk : rfoot m k) : base ≤ k ∧ k < w.heap.size := by
  rcases hk with hk | hk | hk
  · exact h.g.lt hk
  · exact h.t.lt hk
  · exact h.olt hk
theorem RxOk.tlt {w : World} {base : Nat} {m : RxM} (h : RxOk w base m) {k : Nat} (hk : rtouch m k) : k < w.heap.size := by
  rcases hk with hk | hk | hk
  · exact h.g.tlt hk
  · exact (h.t.lt hk).2
  · exact (h.olt hk).2
/-- All is well with an index. -/
structure RxI (m : RxM) (G : Gr) : Prop where
  g : GrIs m.g G
  t : TrI m.t
  ids : m.ids = G.map NodeG.id
  ks : m.ks = m.ids
  ix : IxOk G m.t.T m.C
  cn : m.cn ≤ 1000 * m.t.L.length
theorem RxI.tl {m : RxM} {G : Gr} (h : RxI m G) : m.t.L.length = G.length := by rw [← m.t.T_len, h.ix.len]
theorem RxI.max {m : RxM} {G : Gr} (h : RxI m G) : G.length ≤ 1000 := by rw [← h.tl]; exact h.t.max
theorem RxI.il {m : RxM} {G : Gr} (h : RxI m G) : m.ids.length = G.length := by rw [h.ids]; simp
theorem RxI.id {m : RxM} {G : Gr} (h : RxI m G) {n : Nat} (hn : n < m.ids.length) : m.ids[n] = idG G n := by
  have hg : n < G.length := by rw [← h.il]; exact hn
  rw [idG_at hg]
  simp [h.ids]
/-- A look into the map of numbers. -/
theorem rx_num {w : World} {base : Nat} {m : RxM} {G : Gr} (h : RxOk w base m) (hg : RxI m G) (x : Hh) : (Instr.lookup 60 (.map (some m.nb)) (.agg (hC x).toArray) true).run Tryz.prog w = .ok (plV G x) w := by
  have hm := h.map
  rw [hg.ks, hg.ids] at hm
  obtain ⟨hh, ha⟩ := mapD_place hg.g.ok x
  obtain ⟨v, ps, hr, hv⟩ := hm.look_ok hLaw Tryz.underlying60 (Tryz.zeroValue3 w) (zd := .lit (.int .i64 0)) (zp := []) (plainElem_int Tryz.underlying3 (by decide)) (keyOf_h x)
  obtain ⟨c, rfl, hc, _⟩ := plainElem_int_inv Tryz.underlying3 hv
  rw [hr, hh]
  have h2 : (mapD (G.map NodeG.id)).atKey (hKey x) (.lit (.int .i64 0)) = .lit (.int .i64 c) := congrArg Prod.fst hc
  have h3 : (DataW.lit (.int .i64 (plE G x : Int)) : DataW Unit) = .lit (.int .i64 c) := by
    rw [← h2, ha]
    unfold plE
    cases placeG G x <;> rfl
  have h4 : (plE G x : Int) = c := congrArg litI h3
  unfold plV
  rw [h4]
theorem rx_num1 {w : World} {base : Nat} {m : RxM} {G : Gr} (h : RxOk w base m) (hg : RxI m G) (x : Hh) : (Instr.lookup 60 (.map (some m.nb)) (.agg (hC x).toArray) false).run Tryz.prog w = .ok (.int .i64 (plE G x : Int)) w := by
  have hm := h.map
  rw [hg.ks, hg.ids] at hm
  obtain ⟨hh, ha⟩ := mapD_place hg.g.ok x
  obtain ⟨c, hr, hc, _⟩ := hm.lookup_int hLaw Tryz.underlying60 Tryz.underlying3 (Tryz.zeroValue3 w) (keyOf_h x)
  have h3 : (DataW.lit (.int .i64 (plE G x : Int)) : DataW Unit) = .lit (.int .i64 c) := by
    rw [← hc, ha]
    unfold plE
    cases placeG G x <;> rfl
  have h4 : (plE G x : Int) = c := congrArg litI h3
  rw [hr, h4]
/-- A look into the map of covers. -/
theorem rx_cov {w : World} {base : Nat} {m : RxM} (h : RxOk w base m) {k : Nat} (hk : k ≤ 1000000000) : (Instr.lookup 61 (.map (some m.cb)) (.int .i64 (k : Int)) false).run Tryz.prog w = .ok (.slice (m.f k).1 (m.C k).length (m.f k).2) w := by
  obtain ⟨v, ps, hr, hv⟩ := h.cov.lookup rxLaw Tryz.underlying61 (Tryz.zeroValue80 w) (slR_mk none 0 0) (rxKey hk)
  obtain ⟨A, n, c, rfl, hz⟩ := slR_inv hv
  rw [h.at_] at hz
  simp only [Prod.mk.injEq, DataW.held.injEq] at hz
  obtain ⟨⟨rfl, rfl, rfl⟩, _⟩ := hz
  exact hr
/-- The cells of an index. -/
theorem RxOk.c {w : World} {base : Nat} {m : RxM} (h : RxOk w base m) : w.cell? ⟨m.q, 0, none⟩ = some (.pointer (some ⟨m.g.q, 0, none⟩)) ∧ w.cell? ⟨m.q, 1, none⟩ = some (.pointer (some ⟨m.t.q, 0, none⟩)) ∧ w.cell? ⟨m.q, 2, none⟩ = some (.slice m.iA m.ids.length m.ic) ∧ w.cell? ⟨m.q, 3, none⟩ = some (.map (some m.nb)) ∧ w.cell? ⟨m.q, 4, none⟩ = some (.map (some m.cb)) :=
  ⟨h.b.cell 0, h.b.cell 1, h.b.cell 2, h.b.cell 3, h.b.cell 4⟩
/-- A cover's cells. -/
theorem RxOk.cc {w : World} {base : Nat} {m : RxM} (h : RxOk w base m) {k j : Nat} (hj : j < (m.C k).length) : ∃ g, (m.f k).1 = some ⟨g, 0, none⟩ ∧ g < w.heap.size ∧ w.cell? ⟨g, j, none⟩ = some (.int .i64 ((m.C k)[j] : Int)) := by
  obtain ⟨g, hA, hb, hg, hc⟩ := town_row (h.row k) (by rw [tiC_len]; omega)
  exact ⟨g, hA, hg, (hc j _ (tiC_get hj)).1⟩
/-- A hash's cells. -/
theorem RxOk.ci {w : World} {base : Nat} {m : RxM} (h : RxOk w base m) {i : Nat} (hi : i < m.ids.length) : ∃ g, m.iA = some ⟨g, 0, none⟩ ∧ g < w.heap.size ∧ w.rangeAt g (i * 32) (hC m.ids[i]) := by
  obtain ⟨g, hA, hb, hg, hc⟩ := own_row h.ids (by rw [hsC_len]; omega)
  refine ⟨g, hA, hg, fun j v hv => ?_⟩
  have hj : j < 32 := by have := (List.getElem?_eq_some_iff.1 hv).1; rw [hC_len] at this; exact this
  exact (hc (i * 32 + j) v (by rw [hsC_get _ _ _ hi hj]; exact hv)).1
end Go.Proofs.YtbfpckomgpkjgaaGreat

namespace Go.Proofs.YtbfpckomgpkjgaaGreat
open Go.RowKit Go.Maps

theorem rxDr {w W : World} (h : Below w.heap.size w W) : Below w.heap.size w W.drew := ⟨h.os, h.tape, h.output, h.size, h.block⟩
theorem rxDrN {w W : World} (h : Below w.heap.size w W) (n : Nat) : Below w.heap.size w (W.drewN n) := ⟨h.os, h.tape, h.output, h.size, h.block⟩
theorem rxRng {W : World} {g : Nat} {x : Hh} (h : Blk W g 23 (hC x).toArray) : W.rangeAt g 0 (hC x) := fun j v hv => by rw [Nat.zero_add, h.cell j]; simpa using hv
theorem rxBlk2 (w : World) (o : Obj) (t : TypeId) (cs : Array Value) : Blk ((w.alloc o).alloc (.cells cs t)) (w.heap.size + 1) t cs := by
  have h := heap_alloc_new (w.alloc o) (.cells cs t)
  rw [World.size_alloc] at h
  exact h
theorem rxBlk1 (w : World) (o : Obj) (t : TypeId) (cs : Array Value) : Blk ((w.alloc (.cells cs t)).alloc o) w.heap.size t cs := by
  have h : Blk (w.alloc (.cells cs t)) w.heap.size t cs := heap_alloc_new w _
  exact h.below (nxAlloc (nxRefl _) _) h.lt
/-- What stands before an index's own addresses is kept. -/
theorem rx_made (w : World) (base : Nat) (m : RxM) (h : RxOk w base m) (h0 : 0 < m.ids.length) : Calls Tryz.prog 49 #[.pointer (some ⟨m.q, 0, none⟩)] w fun e w' => e = .returned (.bool true) ∧ w' = w := by
  have hc : w.cell? ⟨m.q, 2, none⟩ = some (.slice m.iA m.ids.length m.ic) := h.b.cell 2
  clear h
  generalize m.ids.length = k at *
  have hk : (0 : Int) < (k : Int) := by omega
  go_enter Tryz.func49, Tryz.ntmps49
  go_wp2
  go_ret
  exact ⟨rfl, rfl⟩
/-- What number answers. -/
def numV (G : Gr) (x : Hh) : Value := match placeG G x with
  | some n => .tuple #[.int .i64 (n : Int), .int .i64 0]
  | none => .tuple #[.int .i64 0, .int .i64 6]
set_option maxRecDepth 100000 in
set_option maxHeartbeats 1000000 in
theorem rx_number (w : World) (base : Nat) (m : RxM) (G : Gr) (h : RxOk w base m) (hg : RxI m G) (x : Hh) : Calls Tryz.prog 36 #[.pointer (some ⟨m.q, 0, none⟩), .agg (hC x).toArray] w fun e w' => e = .returned (numV G x) ∧ Below w.heap.size w w' := by
  have h1 := h.later (nxAlloc (nxRefl w) (.cells (hC x).toArray 23))
  have H1 := Lib.hid h1
  have b0 : Blk (w.alloc (.cells (hC x).toArray 23)) w.heap.size 23 (hC x).toArray := heap_alloc_new w _
  have V0 : Hid (Below w.heap.size w (w.alloc (.cells (hC x).toArray 23))) := nxAlloc (nxRefl w) _
  have R0 : Hid ((w.alloc (.cells (hC x).toArray 23)).rangeAt w.heap.size 0 (hC x)) := rxRng b0
  obtain ⟨z, hz⟩ : ∃ z, (placeG G x).isSome = z := ⟨_, rfl⟩
  obtain ⟨n, hn⟩ : ∃ n, plE G x = n := ⟨_, rfl⟩
  have hpv : plV G x = .tuple #[.int .i64 (n : Int), .bool z] := by unfold plV; rw [hz, hn]
  have HF : Hid (numV G x = if z then .tuple #[.int .i64 (n : Int), .int .i64 0] else .tuple #[.int .i64 0, .int .i64 6]) := by
    show _ = _
    unfold numV
    unfold plE at hn
    cases hp : placeG G x with
    | none => rw [hp] at hz; subst hz; rfl
    | some k => rw [hp] at hz hn; subst hz; simp at hn; subst hn; rfl
  have HL : Hid (∀ q, (Instr.lookup 60 (.map (some m.nb)) (.agg (hC x).toArray) true).run Tryz.prog ((w.alloc (.cells (hC x).toArray 23)).drewN q) = .ok (.tuple #[.int .i64 (n : Int), .bool z]) ((w.alloc (.cells (hC x).toArray 23)).drewN q)) := fun q => by rw [← hpv]; exact rx_num (h1.later (rxDrN (nxRefl _) q)) hg x
  have hc : (w.alloc (.cells (hC x).toArray 23)).cell? ⟨m.q, 3, none⟩ = some (.map (some m.nb)) := h1.b.cell 3
  have hil : 0 < m.ids.length := by rw [hg.il]; exact hg.g.ne
  have HIL := Lib.hid hil
  rw [HF.out]
  clear h1 b0 h hil hz hn hpv HF
  go_enter Tryz.func36, Tryz.ntmps36
  go_wp2_with (go_at_call 49; refine (rx_made _ base m H1.out HIL.out).mono ?_; rintro e1 w1 ⟨rfl, hw1⟩; obtain rfl := hw1.symm)
  generalize w.alloc (.cells (hC x).toArray 23) = W at *
  refine wp_region_quiet_lit (by kernel_rfl) (by kernel_rfl) ?_
  repeat (go_big_quiet_step (fail))
  go_big_quiet_want
  refine quiet_load_mid 23 (.tmp 3) rfl w.heap.size 0 rfl (hC x) _ (fun w' hw' => by obtain ⟨q, rfl⟩ := hw'; exact R0.out) Tryz.underlying23 rfl (hszL x) ?_
  go_big_quiet_on
  try simp only [Act.put, List.setIfInBounds_toArray, List.set_cons_zero, List.set_cons_succ]
  repeat (go_big_quiet_step (fail))
  go_big_quiet_want
  refine quiet_lookup 60 _ _ _ rfl _ _ rfl rfl (.tuple #[.int .i64 (n : Int), .bool z]) (fun w' hw' => by obtain ⟨q, rfl⟩ := hw'; exact HL.out q) ?_
  go_big_quiet_on
  try simp only [Act.put, List.setIfInBounds_toArray, List.set_cons_zero, List.set_cons_succ]
  repeat (go_big_quiet_step (fail))
  refine wpQuiet_nil ?_
  intro _ hw'
  obtain ⟨nq, rfl⟩ := hw'
  cases z with
  | true =>
    go_wp2
    go_ret2
    exact ⟨rfl, rxDrN V0.out _⟩
  | false =>
    go_wp2
    go_ret2
    exact ⟨rfl, rxDrN V0.out _⟩
/-- What pair answers. -/
def pairV (G : Gr) (a b : Hh) : Value := match placeG G a, placeG G b with
  | some n, some k => .tuple #[.int .i64 (n : Int), .int .i64 (k : Int), .int .i64 0]
  | some n, none => .tuple #[.int .i64 (n : Int), .int .i64 0, .int .i64 6]
  | none, _ => .tuple #[.int .i64 0, .int .i64 0, .int .i64 6]
set_option maxRecDepth 100000 in
set_option maxHeartbeats 1000000 in
theorem rx_pair (w : World) (base : Nat) (m : RxM) (G : Gr) (h : RxOk w base m) (hg : RxI m G) (a b : Hh) : Calls Tryz.prog 42 #[.pointer (some ⟨m.q, 0, none⟩), .agg (hC a).toArray, .agg (hC b).toArray] w fun e w' => e = .returned (pairV G a b) ∧ Below w.heap.size w w' := by
  have h2 : RxOk ((w.alloc (.cells (hC a).toArray 23)).alloc (.cells (hC b).toArray 23)) base m := h.later (nxAlloc (nxAlloc (nxRefl w) _) _)
  have V0 : Hid (Below w.heap.size w ((w.alloc (.cells (hC a).toArray 23)).alloc (.cells (hC b).toArray 23))) := nxAlloc (nxAlloc (nxRefl w) _) _
  have BA : Hid (Blk ((w.alloc (.cells (hC a).toArray 23)).alloc (.cells (hC b).toArray 23)) w.heap.size 23 (hC a).toArray) := rxBlk1 w _ _ _
  have BB : Hid (Blk ((w.alloc (.cells (hC a).toArray 23)).alloc (.cells (hC b).toArray 23)) (w.heap.size + 1) 23 (hC b).toArray) := rxBlk2 w _ _ _
  have H2 := Lib.hid h2
  have HG := Lib.hid hg
  unfold pairV
  clear h h2 hg
  cases ha : placeG G a with
  | none =>
    have HA := Lib.hid ha
    clear ha
    dsimp only
    go_enter Tryz.func42, Tryz.ntmps42
    go_wp2_with (first
      | ((with_reducible show wpList _ _ _ (⟨some 14, _, _, _, _, _⟩ :: _) _ _); refine wpList_load_mid rfl 23 (.tmp 4) rfl w.heap.size 0 rfl (hC a) _ (rxRng BA.out) Tryz.underlying23 rfl (hszL a) ?_)
      | (go_at_call 36; refine (rx_number _ base m G H2.out HG.out a).mono ?_; unfold numV; rw [HA.out]; rintro e1 w1 ⟨rfl, hw1⟩; have V1 : Hid (Below w.heap.size w w1) := nxTo V0.out hw1; clear hw1))
    go_ret3
    exact ⟨rfl, V1.out⟩
  | some n =>
    have HA := Lib.hid ha
    clear ha
    have body : ∀ k : Nat, ∀ f : Int, Hid (numV G b = .tuple #[.int .i64 (k : Int), .int .i64 f]) → Calls Tryz.prog 42 #[.pointer (some ⟨m.q, 0, none⟩), .agg (hC a).toArray, .agg (hC b).toArray] w fun e w' => e = .returned (.tuple #[.int .i64 (n : Int), .int .i64 (k : Int), .int .i64 f]) ∧ Below w.heap.size w w' := by
      intro k f HB
      go_enter Tryz.func42, Tryz.ntmps42
      go_wp2_with (first
        | ((with_reducible show wpList _ _ _ (⟨some 14, _, _, _, _, _⟩ :: _) _ _); refine wpList_load_mid rfl 23 (.tmp 4) rfl w.heap.size 0 rfl (hC a) _ (rxRng BA.out) Tryz.underlying23 rfl (hszL a) ?_)
        | ((with_reducible show wpList _ _ _ (⟨some 23, _, _, _, _, _⟩ :: _) _ _); refine wpList_load_mid rfl 23 (.tmp 5) rfl (w.heap.size + 1) 0 rfl (hC b) _ (rxRng BB1.out) Tryz.underlying23 rfl (hszL b) ?_)
        | ((with_reducible show Calls _ _ #[_, .agg (hC a).toArray] _ _); go_at_call 36; refine (rx_number _ base m G H2.out HG.out a).mono ?_; unfold numV; rw [HA.out]; rintro e1 w1 ⟨rfl, hw1⟩; have V1 : Hid (Below w.heap.size w w1) := nxTo V0.out hw1; have H3 := Lib.hid (H2.out.later hw1); have BB1 := Lib.hid (BB.out.below hw1 BB.out.lt); clear hw1)
        | ((with_reducible show Calls _ _ #[_, .agg (hC b).toArray] _ _); go_at_call 36; refine (rx_number _ base m G H3.out HG.out b).mono ?_; rw [HB.out]; rintro e2 w2 ⟨rfl, hw2⟩; have V2 : Hid (Below w.heap.size w w2) := nxTo V1.out hw2; clear hw2))
      go_ret3
      exact ⟨rfl, V2.out⟩
    cases hb : placeG G b with
    | none => exact body 0 6 (by show _ = _; unfold numV; rw [hb]; rfl)
    | some k => exact body k 0 (by show _ = _; unfold numV; rw [hb])
end Go.Proofs.YtbfpckomgpkjgaaGreat
