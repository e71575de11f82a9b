/-
  wal: has a log these batches?
-/
import Derived.Test.YthamlphebnhcpaaDoorWl5
import Derived.RangeFuncNested
import Derived.RangeFuncBound
import Derived.RangeFuncCalls
import Derived.RangeFuncLeaves
import Derived.Shelf.Abstract
import Derived.Shelf.RegionOpen
import Derived.WalkKit
import Derived.OwnWalkIn
import Derived.TacticsInMore
import Derived.LoopNIn
import Derived.LoopIn
import Derived.Deep.Quiet
import Derived.BigQuiet
namespace Go.Proofs.YthamlphebnhcpaaDoor
open Go.RowKit Go.Shelf

section
attribute [local go_sem] Oper.semAt_some

theorem batches_any (w : World) (q d : Nat) (m : WlM) (h : WlOk w q d m) : Calls Tryd.prog 35 #[.pointer (some ⟨q, 0, none⟩)] w fun e w' => e = .returned (.func (.func 56) #[] #[.pointer (some ⟨w.heap.size, 0, none⟩)]) ∧ Blk w' w.heap.size 43 #[.slice m.A m.rows.length m.c] ∧ Below w.heap.size w w' := by
  have hmf : ∀ (fn : Fn) (first cap : Array Value) (w : World), (Instr.makeFunc fn first cap).run Tryd.prog w = .ok (.func fn first cap) w := fun _ _ _ _ => rfl
  have B0 : Hid (Blk (w.alloc (.cells #[.slice none 0 0] 43)) w.heap.size 43 #[.slice none 0 0]) := heap_alloc_new w _
  have V0 : Hid (Below w.heap.size w (w.alloc (.cells #[.slice none 0 0] 43))) := nxAlloc (nxRefl w) _
  have H0 : Hid (WlOk (w.alloc (.cells #[.slice none 0 0] 43)) q d m) := h.below V0.out
  have c2 : (w.alloc (.cells #[.slice none 0 0] 43)).cell? ⟨q, 2, none⟩ = some (.slice m.A m.rows.length m.c) := H0.out.b.cell 2
  clear h
  go_enter Tryd.func35, Tryd.ntmps35
  go_wp2_with (first
    | (go_at_call 34; refine (isOpen_any _ q d m H0.out).mono ?_; rintro e1 w1 ⟨rfl, hw1⟩; obtain rfl := hw1.symm))
  go_ret
  exact ⟨rfl, heap_alloc_new w _, nxAlloc (nxRefl w) _⟩

set_option maxRecDepth 100000 in
set_option maxHeartbeats 4000000 in
/-- The iterator: whatever a round does, if it keeps what lay below B. -/
theorem batches1_in (n l g B : Nat) (rows : List RowM) (A : Option Addr) (c : Nat) (J : Nat → World → Prop) (Jx : World → Prop) (W : World)
    (hbox : W.cell? ⟨g, 0, none⟩ = some (.slice A rows.length c)) (hBW : B ≤ W.heap.size) (hA : SeesV W B A (rowsC rows)) (hr : ∀ r ∈ rows, Sees W B r.A r.l ∧ r.l.length ≤ 100000000) (hn : rows.length ≤ 1000000000)
    (hJ : ∀ k W1 W2, J k W1 → Below W1.heap.size W1 W2 → J k W2)
    (hY : ∀ (k : Nat) (x : List UInt8) (A9 : Option Addr) (c9 : Nat) (W1 : World), (∃ hk : k < rows.length, rows[k].l = x) → J k W1 → Below B W W1 → (⟨A9, c9, x⟩ : RowM).own W1 → YieldAt Fence.wide (n - 1) Tryd.prog l #[.int .u64 ((k : Int) + 1), .slice A9 x.length c9] W1 fun e W' =>
      (e = .returned (.bool true) ∧ J (k + 1) W' ∧ Below B W1 W') ∨ (e = .returned (.bool false) ∧ Jx W'))
    (h0 : J 0 W) : CallsIn Fence.wide n Tryd.prog 56 #[.func (.yield l) #[] #[], .pointer (some ⟨g, 0, none⟩)] W fun e W' => (∃ v, e = .returned v) ∧ ((J rows.length W' ∧ Below B W W') ∨ Jx W') := by
  have HA := Lib.hid hA
  have HR := Lib.hid hr
  have HBW := Lib.hid hBW
  have HN := Lib.hid hn
  have HY := Lib.hid hY
  have HJ := Lib.hid hJ
  clear hA hr hY hJ hBW hn
  refine callsIn_of_wp Tryd.func56 rfl trivial ?_ rfl
  simp only [Tryd.ntmps56, List.size_toArray, List.length_cons, List.length_nil, Nat.reduceAdd, Nat.reduceSub, Array.replicate_succ, Array.replicate_zero, List.push_toArray, List.append_toArray, List.nil_append, List.cons_append]
  gi_wp2
  gi_loopw [7] (fun i wr => ∃ k : Nat, k ≤ rows.length ∧ i = .int .i64 k ∧ Hid (J k wr) ∧ Hid (Below B W wr)) (fun i _ => rows.length - (intOf i).toNat)
  case atStart => exact ⟨0, Nat.zero_le _, rfl, h0, Below.refl _ _⟩
  case round =>
    obtain ⟨k, hk, rfl, hJs, hnx⟩ := hrel
    by_cases hlt : k < rows.length
    · obtain ⟨b, off, hAe, hb, hcs⟩ := HA.out.at_ (k := k) (by rw [rowsC_len]; exact hlt)
      obtain ⟨r, hrk⟩ : ∃ r, rows[k] = r := ⟨_, rfl⟩
      have hck : W.cell? ⟨b, off + k, none⟩ = some (.slice r.A r.l.length r.c) := by
        rw [hcs k (by rw [rowsC_len]; exact hlt)]
        unfold rowsC
        rw [List.getElem_map, hrk]; rfl
      have hcx : wr.cell? ⟨b, off + k, none⟩ = some (.slice r.A r.l.length r.c) := (hnx.out.cell (p := ⟨b, off + k, none⟩) hb).trans hck
      have HRk : Hid (Sees W B r.A r.l ∧ r.l.length ≤ 100000000) := HR.out r (by rw [← hrk]; exact List.getElem_mem hlt)
      have HS : Hid (Sees wr wr.heap.size r.A r.l) := (HRk.out.1.below hnx.out).more (Nat.le_trans HBW.out hnx.out.size)
      have HK : Hid (∃ hk : k < rows.length, rows[k].l = r.l) := ⟨hlt, by rw [hrk]⟩
      have hn9 : rows.length ≤ 1000000000 := HN.out
      have hw1 : IntKind.u64.wrap (k : Int) = (k : Int) := by rw [IntKind.wrap_u64]; omega
      have hw2 : IntKind.u64.wrap ((k : Int) + 1) = (k : Int) + 1 := by rw [IntKind.wrap_u64]; omega
      have hw3 : IntKind.i64.wrap ((k : Int) + 1) = (k : Int) + 1 := by rw [IntKind.wrap_i64]; omega
      clear hck hcs hrk
      rw [hAe]
      gi_wp2_with (first
        | ((with_reducible show Fence.wide.fn 38 ∧ _); refine ⟨trivial, fun h => absurd h (by decide), ?_⟩; refine (callsIn_wide.2 (bclone_any wr wr.heap.size r.A r.l.length r.c r.l rfl HS.out (by have := HRk.out.2; omega))).mono ?_; unfold ClonePostD; rintro e w4 ⟨⟨A9, c9, x9⟩, rfl, hx9, ho9, hn9, hb4⟩; (have HX9 : Hid (x9 = r.l) := hx9); (have hv9 : RowM.v ⟨A9, c9, x9⟩ = .slice A9 x9.length c9 := rfl); rw [hv9]; clear hv9 hx9; have V4 : Hid (Below B W w4) := hnx.out.trans (hb4.mono (Nat.le_trans HBW.out hnx.out.size)); have VB4 : Hid (Below B wr w4) := hb4.mono (Nat.le_trans HBW.out hnx.out.size); (have hyy := HY.out k x9 A9 c9 w4 (by rw [HX9.out]; exact HK.out) (HJ.out k wr w4 hJs.out hb4) V4.out ho9); (obtain ⟨fn, tmps, assign, body, hy, hR⟩ := hyy); have HRd := Lib.hid hR; clear hR ho9 hn9 hb4))
      refine ⟨fun h => absurd h (by decide), HRd.out.mono ?_⟩
      rintro e W3 (⟨rfl, hJ3, hk3⟩ | ⟨rfl, hJx3⟩)
      · have HJ3 := Lib.hid hJ3
        have V3 : Hid (Below B W W3) := V4.out.trans hk3
        clear hJ3 hk3
        gi_wp2
        go_roundw
        case rel => exact ⟨k + 1, by omega, by go_num, HJ3.out, V3.out⟩
        case measure => simp [intOf] <;> omega
      · have HX3 := Lib.hid hJx3
        clear hJx3
        gi_wp2
        refine bodyPost_ret (results_none rfl _ _ _) rfl ?_
        exact ⟨⟨_, rfl⟩, .inr HX3.out⟩
    · obtain rfl : k = rows.length := by omega
      gi_wp2
      go_end0
      exact ⟨⟨_, rfl⟩, .inl ⟨hJs.out, hnx.out⟩⟩
end
end Go.Proofs.YthamlphebnhcpaaDoor

namespace Go.Proofs.YthamlphebnhcpaaDoor
open Go.RowKit Go.Shelf

section
variable {P : Program} {ops : Array Oper} {C : World → Prop}
/-- One operation of a region that only reads, in a round. -/
theorem round_op {i l n : Nat} {a : Act} {K : Act → Prop} {K' : Act → World → Prop} {Q' : Exit → Act → World → Prop} {w : World} (hnd : ∀ (o : Oper), ops[i]? = some o → ∀ (c : Call), o.op ≠ .defer c) (hC : C w) (h : ∀ a w', C w' → K a → K' a w') (hh : qOp P ops C i K a) : wpOpIn (Fence.wide.inRound l) n P ops Q' i K' a w := by
  unfold qOp at hh
  unfold wpOpIn
  cases ho : ops[i]? with
  | none => rw [ho] at hh; exact h _ _ hC hh
  | some o =>
    rw [ho] at hh
    dsimp only at hh ⊢
    by_cases hw : Region.wanted o (yielded ops a.tmps) = true
    · rw [if_pos hw] at hh ⊢
      obtain ⟨v, h1, h2⟩ := hh
      have h3 := h1 w hC
      refine ⟨fun _ _ => trivial, ?_⟩
      rw [Oper.semAt_eq _ _ _ (hnd o ho)]
      unfold Oper.quietAt at h3
      cases hr : (execOp a.eval o).run P w with
      | halt x w' => rw [hr] at h3; exact h3.elim
      | ok x w' =>
        rw [hr] at h3
        cases x with
        | value u => obtain ⟨e1, e2⟩ := h3; rw [Oper.uponIn_value, e1, e2]; exact h _ _ hC h2
        | skip => obtain ⟨e1, e2⟩ := h3; rw [Oper.uponIn_skip, e1, ← e2]; exact h _ _ hC h2
        | enter f args =>
          obtain ⟨e1, hc⟩ := h3
          rw [Oper.uponIn_enter, e1]
          refine ⟨fun hd => by simp [Fence.wide] at hd, CallsIn.inRound l (callsIn_wide.2 (hc.mono fun e w'' he => ?_))⟩
          obtain ⟨he, hw''⟩ := he
          subst he
          exact h _ _ hw'' h2
        | row a b => exact h3.elim
        | round a b c d e => exact h3.elim
        | defer d => exact h3.elim
        | _ => exact h3.elim
    · rw [if_neg hw] at hh ⊢
      exact ⟨fun _ _ => trivial, h _ _ hC hh⟩
theorem round_any {md : Region.Mode} {l n : Nat} (hnd : ∀ (i : Nat) (o : Oper), ops[i]? = some o → ∀ (c : Call), o.op ≠ .defer c) {Q : Act → Prop} {Q' : Exit → Act → World → Prop} (hQ : ∀ a w, C w → Q a → Q' .normal a w) : ∀ (fuel : Nat) (listed : Array Bool) (a : Act) (w : World), C w →
    wpAnyQ P md ops C Q fuel listed a → wpAnyIn (Fence.wide.inRound l) n P md ops Q' fuel listed a w
  | 0, _, _, _, hw, h => ⟨h.1, hQ _ _ hw h.2⟩
  | fuel + 1, _, _, _, hw, h => ⟨fun h0 => hQ _ _ hw (h.1 h0), fun i hi => round_op (hnd i) hw (fun a' w' hw' hh => round_any hnd hQ fuel _ a' w' hw' hh) (h.2 i hi)⟩
def noDefer (o : Oper) : Bool := match o.op with | .defer _ => false | _ => true
theorem noDefer_at {L : List Oper} (h : L.all noDefer = true) (i : Nat) (o : Oper) (ho : L.toArray[i]? = some o) (c : Call) : o.op ≠ .defer c := by
  have h1 : o ∈ L := by rw [List.getElem?_toArray] at ho; exact List.mem_of_getElem? ho
  have h2 := List.all_eq_true.1 h o h1
  intro e
  unfold noDefer at h2
  rw [e] at h2
  cases h2
/-- A region that only reads, in a round: one walk of the text's order serves every order. -/
theorem wpIn_round_quiet {id l n : Nat} {Q : Exit → Act → World → Prop} {a : Act} {w : World} {L : List Oper} (hm : P.follows .mixedOrders = true) (hB : Region.lexB .any L.toArray = true) (hnd : L.all noDefer = true)
    (h : wpQuiet P L.toArray (fun w' => ∃ n, w' = w.drewN n) (fun a' => ∀ w', (∃ n, w' = w.drewN n) → Q .normal a' w') L a) : (Code.region id L.toArray true).wpIn (Fence.wide.inRound l) n P Q a w := by
  simp only [Region.lexB, Bool.and_eq_true] at hB
  refine wpIn_region_any hm (round_any (C := fun w' => ∃ n, w' = w.drewN n) (noDefer_at hnd) (Q := fun a' => ∀ w', (∃ n, w' = w.drewN n) → Q .normal a' w') (fun _ w' hw' h => h w' hw') _ _ _ _ ⟨1, rfl⟩ ?_)
  have := wpAnyQ_lex (P := P) (C := fun w' => ∃ n, w' = w.drewN n) (md := .any) hB.1 L 0 (Array.replicate L.toArray.size false) a (by simp) (by simpa using hB.2) h
  simpa using this

/-- How a round may be left. -/
def leftW (I : Nat → World → Prop) (Ix : World → Prop) (B k : Nat) (W : World) : Exit → Act → World → Prop
  | .normal, _, W' => KeepsOthers W W' ∧ Below B W W' ∧ I (k + 1) W'
  | .ret, _, W' => KeepsOthers W W' ∧ Ix W'
  | _, _, _ => False

theorem wpIn_rangeW {n : Nat} {g : Operand} {ps : Array Tmp} {assign body : Code} {Q : Exit → Act → World → Prop} {a : Act} {w : World} {gf : Nat} {lb : Array Value}
    (hg : a.eval g = .func (.func gf) #[] lb) (eg : ∀ args w, (callFunc gf args).run P w = .ok (.enter gf args) w)
    (N B : Nat) (hB : B ≤ w.heap.size) (G : Nat → Array Value → World → Prop) (I : Nat → World → Prop) (Ix : World → Prop)
    (hseq : ∀ (l : Nat) (J : Nat → World → Prop) (Jx : World → Prop) (W : World), Below w.heap.size w W → (∀ k W1 W2, J k W1 → Below W1.heap.size W1 W2 → J k W2) →
      (∀ k vs W1, k < N → G k vs W1 → J k W1 → Below B W W1 → YieldAt Fence.wide (n - 1 - 1) P l vs W1 fun e W' => (e = .returned (.bool true) ∧ J (k + 1) W' ∧ Below B W1 W') ∨ (e = .returned (.bool false) ∧ Jx W')) →
      J 0 W → CallsIn Fence.wide (n - 1) P gf (#[.func (.yield l) #[] #[]] ++ lb) W fun e W' => (∃ v, e = .returned v) ∧ ((J N W' ∧ Below B W W') ∨ Jx W'))
    (hGs : ∀ k vs W, G k vs W → vs.size = ps.size) (hGp : ∀ k vs W l r o', G k vs W → W.heap[l]? = some (.loop r) → G k vs (W.putObj l o'))
    (h0 : I 0 w) (hIb : ∀ k W W', I k W → Below W.heap.size W W' → I k W') (hIp : ∀ k W l o o', I k W → w.heap.size ≤ l → W.heap[l]? = some o → o.isCells = false → I k (W.putObj l o'))
    (hXp : ∀ W l o o', Ix W → w.heap.size ≤ l → W.heap[l]? = some o → o.isCells = false → Ix (W.putObj l o'))
    (a₁ : Array Value → Act)
    (hassign : ∀ (l k : Nat) (vs : Array Value) (W : World) (K : Act → World → Prop), G k vs W → K (a₁ vs) W →
      assign.wpIn (Fence.wide.inRound l) (n - 1 - 1) P (Exit.then K (fun _ _ _ => False)) { tmps := (ps.zip vs).foldl (fun t (p, v) => t.setIfInBounds p v) a.tmps, defers := [] } W)
    (hbody : ∀ (l k : Nat) (vs : Array Value) (W : World), k < N → G k vs W → I k W → body.wpIn (Fence.wide.inRound l) (n - 1 - 1) P (leftW I Ix B k W) (a₁ vs) W)
    (hdone : ∀ (D : Nat) (W : World), I N W → W.heap[D]? = some (.deferred (some [])) → w.heap.size ≤ D → Q .normal { a with defers := { target := .collected D, args := #[] } :: a.defers } W)
    (hstop : ∀ (D : Nat) (W : World), Ix W → W.heap[D]? = some (.deferred (some [])) → w.heap.size ≤ D → Code.ret.wpIn Fence.wide n P Q { a with defers := { target := .collected D, args := #[] } :: a.defers } W) :
    (Code.rangeFunc g ps assign body).wpIn Fence.wide n P Q a w := by
  refine wpIn_rangeFunc fun fn hfn => ?_
  obtain ⟨rec, hrec⟩ : ∃ rec : LoopState → Option Code → Loop, rec = fun st pe => { state := st, pending := pe, fn, tmps := a.tmps, params := ps, assign, body, defers := w.heap.size } := ⟨_, rfl⟩
  obtain ⟨D, hD⟩ : ∃ D, w.heap.size = D := ⟨_, rfl⟩
  obtain ⟨L, hL⟩ : ∃ L, D + 1 = L := ⟨_, rfl⟩
  have hen : ∀ W1, (w.alloc (.deferred (some []))).alloc (.loop (rec .ready none)) = W1 → (Instr.enterLoop fn a.tmps ps assign body none).run P w = .ok (L, [{ target := .collected D, args := #[] }]) W1 := fun W1 e => by
    rw [← e, hrec, ← hL, ← hD]
    exact run_enterLoop_outer fn a.tmps ps assign body
  obtain ⟨W1, hW1⟩ : ∃ W1, (w.alloc (.deferred (some []))).alloc (.loop (rec .ready none)) = W1 := ⟨_, rfl⟩
  have hb1 : Below D w W1 := by rw [← hW1, ← hD]; exact nxAlloc (nxAlloc (nxRefl w) _) _
  have hr1 : W1.heap[L]? = some (.loop (rec .ready none)) := by
    rw [← hW1, ← hL, ← hD]
    have := World.alloc_heap_new (w.alloc (.deferred (some []))) (.loop (rec .ready none))
    rwa [World.size_alloc] at this
  have hd1 : W1.heap[D]? = some (.deferred (some [])) := by
    rw [← hW1, ← hD]
    exact (Below.heap_alloc _ _ _ (by simp)).trans (World.alloc_heap_new w _)
  have hI1 : I 0 W1 := hIb 0 w W1 h0 (by rw [hD]; exact hb1)
  -- the record and the block for the rounds' deferred calls
  let At : Loop → World → Prop := fun r W => W.heap[L]? = some (.loop r) ∧ W.heap[D]? = some (.deferred (some []))
  have hlt : ∀ {r W}, At r W → L < W.heap.size := fun h => (Array.getElem?_eq_some_iff.1 h.1).1
  have hput : ∀ {r W} (r' : Loop), At r W → At r' (W.putObj L (.loop r')) := fun r' h => ⟨World.putObj_heap_same (hlt h), (World.putObj_heap_other (by omega)).trans h.2⟩
  have hko : ∀ {r W W'}, At r W → KeepsOthers W W' → At r W' := fun h k => ⟨k.same _ _ h.1 rfl, k.same _ _ h.2 rfl⟩
  have hbe : ∀ {r W W'}, At r W → Below W.heap.size W W' → At r W' := fun h b => ⟨(b.block L (hlt h)).trans h.1, (b.block D (by have := hlt h; omega)).trans h.2⟩
  have hpb : ∀ {r W} (o' : Obj), At r W → Below B W (W.putObj L o') := fun o' h => belowK_b (w := w) hB _ L _ o' (by omega) h.1 rfl rfl
  have hpI : ∀ {r W k} (o' : Obj), At r W → I k W → I k (W.putObj L o') := fun o' h i => hIp _ _ L _ o' i (by omega) h.1 rfl
  have hpX : ∀ {r W} (o' : Obj), At r W → Ix W → Ix (W.putObj L o') := fun o' h i => hXp _ L _ o' i (by omega) h.1 rfl
  refine ⟨L, [{ target := .collected D, args := #[] }], W1, { target := .fn (.func gf) lb, args := #[.func (.yield L) #[] #[]] }, W1, gf, #[.func (.yield L) #[] #[]] ++ lb, W1, hen W1 hW1, ?_, fun _ _ => trivial, ?_, fun h => absurd h (by decide), ?_⟩
  · simp only [resolve, hg]
    simp [go_sem]
  · simp [invoke, go_sem, eg]
  refine (hseq L (fun k W => I k W ∧ At (rec .ready none) W) (fun W => Ix W ∧ At (rec .done (some .ret)) W) W1 (by rw [hD]; exact hb1) (fun k Wa Wb h b => ⟨hIb k Wa Wb h.1 b, hbe h.2 b⟩) ?_ ⟨hI1, hr1, hd1⟩).mono ?_
  · rintro k vs W hk hG ⟨hi, ha⟩ hbW
    have hy := run_yield (P := P) (args := vs) ha.1 (by rw [hrec]; exact hGs k vs W hG)
    rw [hrec] at hy
    have hbg := run_beginRound (P := P) ha.1 (by rw [hrec])
    have ha2 := hput { rec .ready none with state := .busy } ha
    refine ⟨fn, _, assign, body, hy, roundIn_of_wpIn hfn (hassign L k vs W _ hG ⟨_, hbg, ?_⟩)⟩
    refine wpIn_mono (hbody L k vs _ hk (hGp k vs W L _ _ hG ha.1) (hpI _ ha hi)) ?_
    rintro e a3 W3 hp
    have hend : ∀ jump, KeepsOthers (W.putObj L (.loop { rec .ready none with state := .busy })) W3 → (Instr.endRound L jump).run P W3 = .ok (.bool jump.isNone) (W3.putObj L (.loop (rec (if jump.isNone then .ready else .done) jump))) ∧ At { rec .ready none with state := .busy } W3 := fun jump k3 => by
      have h3 := hko ha2 k3
      have h4 := run_endRound (P := P) jump h3.1
      rw [hrec] at h4 ⊢
      exact ⟨h4, by rw [hrec] at h3; exact h3⟩
    cases e with
    | normal =>
      obtain ⟨k3, kb, i3⟩ := hp
      obtain ⟨h4, h3⟩ := hend none k3
      exact ⟨_, _, h4, .inl ⟨rfl, ⟨hpI _ h3 i3, hput _ h3⟩, ((hpb _ ha).trans kb).trans (hpb _ h3)⟩⟩
    | ret =>
      obtain ⟨k3, i3⟩ := hp
      obtain ⟨h4, h3⟩ := hend (some .ret) k3
      exact ⟨_, _, h4, .inr ⟨rfl, hpX _ h3 i3, hput _ h3⟩⟩
    | exit id => exact hp.elim
    | goto t => exact hp.elim
    | panic ch => exact hp.elim
    | outgrown => exact hp.elim
  · rintro e W2 ⟨⟨v, rfl⟩, ⟨⟨hi, ha⟩, -⟩ | ⟨hi, ha⟩⟩
    · have h5 := run_endLoop (P := P) ha.1 (by rw [hrec]; simp)
      rw [hrec] at h5
      refine ⟨none, _, h5, ?_⟩
      have := hdone D _ (hpI (.loop { rec .ready none with state := .exhausted }) ha hi) (hput { rec .ready none with state := .exhausted } ha).2 (by omega)
      rw [hrec] at this
      exact this
    · have h5 := run_endLoop (P := P) ha.1 (by rw [hrec]; simp)
      rw [hrec] at h5
      refine ⟨some .ret, _, h5, ?_⟩
      have := hstop D _ (hpX (.loop { rec .done (some .ret) with state := .exhausted }) ha hi) (hput { rec .done (some .ret) with state := .exhausted } ha).2 (by omega)
      rw [hrec] at this
      exact this
end
end Go.Proofs.YthamlphebnhcpaaDoor

namespace Go.Proofs.YthamlphebnhcpaaDoor
open Go.RowKit Go.Shelf

/-- What same answers: the batches, and what is asked, from one place on. -/
def sameB : List (List UInt8) → List (List UInt8) → Int → Nat → Bool
  | [], W, _, _ => W.isEmpty
  | _ :: _, [], _, _ => false
  | x :: L, y :: W, most, k => if x = y then (if ((k : Int) + 1) = most then true else sameB L W most (k + 1)) else false
theorem sameB_eq (L W : List (List UInt8)) (k : Nat) : sameB L W 0 k = decide (L = W) := by
  induction L generalizing W k with
  | nil => cases W <;> simp [sameB]
  | cons x L ih =>
    cases W with
    | nil => simp [sameB]
    | cons y W =>
      unfold sameB
      rw [ih]
      by_cases h : x = y
      · rw [if_pos h, if_neg (by omega)]; subst h; simp
      · rw [if_neg h]; simp [h]
theorem Blk.putW {W : World} {g l : Nat} {t : TypeId} {cs : Array Value} {o : Obj} (h : Blk W g t cs) (o' : Obj) (hl : W.heap[l]? = some o) (ho : o.isCells = false) : Blk (W.putObj l o') g t cs := by
  refine (World.putObj_heap_other (fun e => ?_)).trans h
  subst e
  unfold Blk at h
  rw [h] at hl
  injection hl with hl
  subst hl
  cases ho
theorem own_putW {W : World} {base size n l : Nat} {e : TypeId} {v : Value} {xs : List Value} {o : Obj} (h : W.ownsRow base e size v n xs) (o' : Obj) (hl : W.heap[l]? = some o) (ho : o.isCells = false) : (W.putObj l o').ownsRow base e size v n xs := by
  refine ⟨h.1, ?_⟩
  rcases h.2 with h0 | ⟨g, cap, cur, hv, hg, hh, hr⟩
  · exact .inl h0
  · refine .inr ⟨g, cap, cur, hv, hg, (World.putObj_heap_other (fun e => ?_)).trans hh, hr⟩
    subst e
    rw [hh] at hl
    injection hl with hl
    subst hl
    cases ho
/-- What is asked for, in memory. -/
structure WantW (w : World) (B : Nat) (A : Option Addr) (W : List RowM) : Prop where
  s : SeesV w B A (rowsC W)
  r : ∀ r ∈ W, Sees w B r.A r.l
theorem WantW.below {w w' : World} {B : Nat} {A : Option Addr} {W : List RowM} (h : WantW w B A W) (b : Below B w w') : WantW w' B A W := ⟨h.s.below b, fun r hr => (h.r r hr).below b⟩
/-- Between two rounds. -/
structure SmI (w : World) (L : List (List UInt8)) (A : Option Addr) (c : Nat) (V : List RowM) (most : Int) (k : Nat) (W : World) : Prop where
  a : Blk W w.heap.size 43 #[.slice A V.length c]
  m : Blk W (w.heap.size + 1) 3 #[.int .i64 most]
  z : Blk W (w.heap.size + 1 + 1) 4 #[.bool false]
  i : Blk W (w.heap.size + 1 + 1 + 1) 3 #[.int .i64 (k : Int)]
  n : k ≤ V.length
  e : sameB (L.drop k) ((V.map (·.l)).drop k) most k = sameB L (V.map (·.l)) most 0
  v : Below w.heap.size w W
theorem SmI.below {w W W' : World} {L : List (List UInt8)} {A : Option Addr} {c : Nat} {V : List RowM} {most : Int} {k : Nat} (h : SmI w L A c V most k W) (b : Below W.heap.size W W') : SmI w L A c V most k W' :=
  ⟨h.a.below b h.a.lt, h.m.below b h.m.lt, h.z.below b h.z.lt, h.i.below b h.i.lt, h.n, h.e, nxTrD h.v b⟩
theorem SmI.putW {w W : World} {L : List (List UInt8)} {A : Option Addr} {c : Nat} {V : List RowM} {most : Int} {k l : Nat} {o : Obj} (h : SmI w L A c V most k W) (o' : Obj) (hl : w.heap.size ≤ l) (hh : W.heap[l]? = some o) (ho : o.isCells = false) : SmI w L A c V most k (W.putObj l o') :=
  ⟨h.a.putW o' hh ho, h.m.putW o' hh ho, h.z.putW o' hh ho, h.i.putW o' hh ho, h.n, h.e, h.v.grown (grownBy_putObj' W l o') h.v.size (fun k e => by cases e; omega)⟩
structure SmX (w : World) (zb : Bool) (W : World) : Prop where
  z : Blk W (w.heap.size + 1 + 1) 4 #[.bool zb]
  v : Below w.heap.size w W
theorem SmX.putW {w W : World} {zb : Bool} {l : Nat} {o : Obj} (h : SmX w zb W) (o' : Obj) (hl : w.heap.size ≤ l) (hh : W.heap[l]? = some o) (ho : o.isCells = false) : SmX w zb (W.putObj l o') :=
  ⟨h.z.putW o' hh ho, h.v.grown (grownBy_putObj' W l o') h.v.size (fun k e => by cases e; omega)⟩
/-- What a round is handed. -/
def HandW (rows : List RowM) (k : Nat) (vs : Array Value) (W : World) : Prop := ∃ (x : List UInt8) (A9 : Option Addr) (c9 : Nat), vs = #[.int .u64 ((k : Int) + 1), .slice A9 x.length c9] ∧ (∃ hk : k < rows.length, rows[k].l = x) ∧ (⟨A9, c9, x⟩ : RowM).own W
theorem Keeps.others {S : Nat → Prop} {W W' : World} (k : Keeps S W W') (h : ∀ j, S j → ∀ o : Obj, W.heap[j]? = some o → o.isCells = true) : KeepsOthers W W' :=
  ⟨k.size, fun j o hj ho => (k.block j (Array.getElem?_eq_some_iff.1 hj).1 (fun hs => by rw [h j hs o hj] at ho; cases ho)).trans hj⟩
theorem results_cell_bool {fn : Func} {p : Tmp} (h : fn.results = #[.cell p 4]) (tmps : Array Value) (w : World) (g : Nat) (v : Value) (hp : tmps.getD p undef = .pointer (some ⟨g, 0, none⟩)) (hc : w.cell? ⟨g, 0, none⟩ = some v) : (results fn tmps).run Tryd.prog w = .ok v w := by
  have hp' : tmps[p]?.getD undef = .pointer (some ⟨g, 0, none⟩) := by simpa using hp
  simp [results, h, hp', asAddr, go_sem, hc]
theorem wsame_leave {w W : World} {zb : Bool} {D : Nat} (tmps : Array Value) (hp : tmps.getD 6 undef = .pointer (some ⟨w.heap.size + 1 + 1, 0, none⟩)) (h : SmX w zb W) (hD : W.heap[D]? = some (.deferred (some []))) (hDl : w.heap.size ≤ D) :
    LeavesInM Fence.wide 5 Tryd.prog Tryd.f15 tmps (fun e w' => e = .returned (.bool zb) ∧ Below w.heap.size w w') [{ target := .collected D, args := #[] }] .returning W := by
  have h2 := h.putW (.deferred none) hDl hD rfl
  refine ⟨by simp, .inl ⟨_, _, rfl, run_takeDeferred hD, ?_⟩⟩
  exact ⟨_, results_cell_bool rfl tmps _ _ _ hp (h2.z.cell 0), rfl, h2.v⟩
theorem SmI.drewN {w W : World} {L : List (List UInt8)} {A : Option Addr} {c : Nat} {V : List RowM} {most : Int} {k : Nat} (h : SmI w L A c V most k W) (n : Nat) : SmI w L A c V most k (W.drewN n) :=
  ⟨h.a, h.m, h.z, h.i, h.n, h.e, ⟨h.v.os, h.v.tape, h.v.output, h.v.size, h.v.block⟩⟩
theorem dropV {V : List RowM} {k : Nat} (hk : k < V.length) : (V.map (fun r : RowM => r.l)).drop k = V[k].l :: (V.map (fun r : RowM => r.l)).drop (k + 1) := by
  rw [List.drop_eq_getElem_cons (by rw [List.length_map]; exact hk), List.getElem_map]
theorem dropV0 {V : List RowM} {k : Nat} (hk : V.length ≤ k) : (V.map (fun r : RowM => r.l)).drop k = [] := List.drop_eq_nil_of_le (by rw [List.length_map]; exact hk)
theorem SmI.next {w W : World} {L : List (List UInt8)} {A : Option Addr} {c : Nat} {V : List RowM} {most : Int} {k : Nat} {x : List UInt8} (h : SmI w L A c V most k W) (hL : L.drop k = x :: L.drop (k + 1)) (hk : k < V.length) (hx : x = V[k].l) (hm : ¬ (k : Int) + 1 = most) :
    SmI w L A c V most (k + 1) (W.setCell ⟨w.heap.size + 1 + 1 + 1, 0, none⟩ (.int .i64 ((k : Int) + 1))) := by
  refine ⟨h.a.far (by show _ ≠ _ + 1 + 1 + 1; omega) _, h.m.far (by show _ + 1 ≠ _ + 1 + 1 + 1; omega) _, h.z.far (by show _ + 1 + 1 ≠ _ + 1 + 1 + 1; omega) _, ?_, hk, ?_, h.v.setCell (p := ⟨w.heap.size + 1 + 1 + 1, 0, none⟩) (by show _ ≤ _ + 1 + 1 + 1; omega) _⟩
  · have := h.i.set 0 (.int .i64 ((k : Int) + 1))
    exact this
  · have he := h.e
    rw [hL, dropV hk] at he
    rw [← he, sameB, if_pos hx, if_neg hm]
theorem SmI.val {w W : World} {L : List (List UInt8)} {A : Option Addr} {c : Nat} {V : List RowM} {most : Int} {k : Nat} {x : List UInt8} (h : SmI w L A c V most k W) (hL : L.drop k = x :: L.drop (k + 1)) : sameB L (V.map (·.l)) most 0 = (if h : k < V.length then (if x = V[k].l then (if (k : Int) + 1 = most then true else sameB (L.drop (k + 1)) ((V.map (·.l)).drop (k + 1)) most (k + 1)) else false) else false) := by
  rw [← h.e, hL]
  by_cases hk : k < V.length
  · rw [dif_pos hk, dropV hk, sameB]
  · rw [dif_neg hk, dropV0 (by omega), sameB]
theorem SmI.last {w W : World} {L : List (List UInt8)} {A : Option Addr} {c : Nat} {V : List RowM} {most : Int} {k : Nat} (h : SmI w L A c V most k W) (hL : L.length = k) : sameB L (V.map (·.l)) most 0 = ((k : Int) == (V.length : Int)) := by
  rw [← h.e, show L.drop k = [] from List.drop_eq_nil_of_le (by omega), sameB]
  have := h.n
  by_cases hk : k = V.length
  · subst hk
    rw [dropV0 (Nat.le_refl _)]
    simp
  · have h1 : ((k : Int) == (V.length : Int)) = false := beq_eq_false_iff_ne.2 (by omega)
    rw [h1, dropV (by omega)]
    rfl

section
attribute [local go_sem] Oper.semAt_some
set_option maxRecDepth 100000 in
set_option maxHeartbeats 8000000 in
theorem wsame_any (w : World) (q d : Nat) (m : WlM) (h : WlOk w q d m) (hrb : ∀ r ∈ m.rows, r.l.length ≤ 100000000) (hn : m.rows.length ≤ 1000000000) (A : Option Addr) (c : Nat) (V : List RowM) (hV : WantW w w.heap.size A V) (hVn : V.length ≤ 1000000000) (most : Int) :
    Calls Tryd.prog 15 #[.pointer (some ⟨q, 0, none⟩), .slice A V.length c, .int .i64 most] w fun e w' => e = .returned (.bool (sameB (m.rows.map (·.l)) (V.map (·.l)) most 0)) ∧ Below w.heap.size w w' := by
  have H := Lib.hid h
  have HRb := Lib.hid hrb
  have HN := Lib.hid hn
  have HV := Lib.hid hV
  have HVn := Lib.hid hVn
  clear h hrb hn hV hVn
  obtain ⟨L, hL⟩ : ∃ L, m.rows.map (·.l) = L := ⟨_, rfl⟩
  have HL := Lib.hid hL
  rw [hL]
  have V4 : Hid (Below w.heap.size w ((((w.alloc (.cells #[.slice A V.length c] 43)).alloc (.cells #[.int .i64 most] 3)).alloc (.cells #[.bool false] 4)).alloc (.cells #[.int .i64 0] 3))) := nxAlloc (nxAlloc (nxAlloc (nxAlloc (nxRefl w) _) _) _) _
  have A4 : Hid (Blk ((((w.alloc (.cells #[.slice A V.length c] 43)).alloc (.cells #[.int .i64 most] 3)).alloc (.cells #[.bool false] 4)).alloc (.cells #[.int .i64 0] 3)) w.heap.size 43 #[.slice A V.length c]) := (((Blk.newAt rfl rfl : Blk (w.alloc (.cells #[.slice A V.length c] 43)) w.heap.size 43 #[.slice A V.length c]).alloc _).alloc _).alloc _
  have M4 : Hid (Blk ((((w.alloc (.cells #[.slice A V.length c] 43)).alloc (.cells #[.int .i64 most] 3)).alloc (.cells #[.bool false] 4)).alloc (.cells #[.int .i64 0] 3)) (w.heap.size + 1) 3 #[.int .i64 most]) := ((Blk.newAt (by simp) rfl : Blk ((w.alloc (.cells #[.slice A V.length c] 43)).alloc (.cells #[.int .i64 most] 3)) (w.heap.size + 1) 3 #[.int .i64 most]).alloc _).alloc _
  have Z4 : Hid (Blk ((((w.alloc (.cells #[.slice A V.length c] 43)).alloc (.cells #[.int .i64 most] 3)).alloc (.cells #[.bool false] 4)).alloc (.cells #[.int .i64 0] 3)) (w.heap.size + 2) 4 #[.bool false]) := (Blk.newAt (by simp) rfl : Blk (((w.alloc (.cells #[.slice A V.length c] 43)).alloc (.cells #[.int .i64 most] 3)).alloc (.cells #[.bool false] 4)) (w.heap.size + 2) 4 #[.bool false]).alloc _
  have I4 : Hid (Blk ((((w.alloc (.cells #[.slice A V.length c] 43)).alloc (.cells #[.int .i64 most] 3)).alloc (.cells #[.bool false] 4)).alloc (.cells #[.int .i64 0] 3)) (w.heap.size + 3) 3 #[.int .i64 0]) := Blk.newAt (by simp) rfl
  have HB4 : Hid (w.heap.size ≤ (((((w.alloc (.cells #[.slice A V.length c] 43)).alloc (.cells #[.int .i64 most] 3)).alloc (.cells #[.bool false] 4)).alloc (.cells #[.int .i64 0] 3))).heap.size) := V4.out.size
  have HW4 : Hid (WlOk ((((w.alloc (.cells #[.slice A V.length c] 43)).alloc (.cells #[.int .i64 most] 3)).alloc (.cells #[.bool false] 4)).alloc (.cells #[.int .i64 0] 3)) q d m) := H.out.below V4.out
  have hba := batches_any ((((w.alloc (.cells #[.slice A V.length c] 43)).alloc (.cells #[.int .i64 most] 3)).alloc (.cells #[.bool false] 4)).alloc (.cells #[.int .i64 0] 3)) q d m HW4.out
  have HBa := Lib.hid hba
  have qfn : ∀ (W : World) (g : Nat), (binOp .eql 76 (.func (.func 56) #[] #[.pointer (some ⟨g, 0, none⟩)]) .nilFunc).run Tryd.prog W = .ok (.bool false) W := fun W g => by kernel_rfl
  clear hba hL
  refine (callsIn_wide (n := 5)).1 ?_
  refine callsIn_of_wp_marks Tryd.func15 rfl trivial ?_ rfl
  simp only [Tryd.ntmps15, List.size_toArray, List.length_cons, List.length_nil, Nat.reduceAdd, Nat.reduceSub, Array.replicate_succ, Array.replicate_zero, List.push_toArray, List.append_toArray, List.nil_append, List.cons_append]
  gi_wp2_with (first
    | ((with_reducible show Fence.wide.fn 35 ∧ _); refine ⟨trivial, ?_⟩; refine (callsIn_wide.2 HBa.out).mono ?_; rintro e w5 ⟨rfl, hbx, hv5⟩; have V5 : Hid (Below w.heap.size w w5) := nxTrD V4.out hv5; have BX5 := Lib.hid hbx; have A5 := Lib.hid (A4.out.below hv5 A4.out.lt); have M5 := Lib.hid (M4.out.below hv5 M4.out.lt); have Z5 := Lib.hid (Z4.out.below hv5 Z4.out.lt); have I5 := Lib.hid (I4.out.below hv5 I4.out.lt); have HW5 : Hid (WlOk w5 q d m) := HW4.out.below hv5; clear hbx hv5))
  have SM0 : Hid (SmI w L A c V most 0 w5) := ⟨A5.out, M5.out, Z5.out, I5.out, Nat.zero_le _, rfl, V5.out⟩
  clear HBa A4 M4 Z4 I4 V4 HB4 HW4
  have HWt : Hid (WantW w5 w.heap.size A V) := HV.out.below V5.out
  have HBs : Hid (SeesV w5 w.heap.size m.A (rowsC m.rows) ∧ ∀ r ∈ m.rows, Sees w5 w.heap.size r.A r.l ∧ r.l.length ≤ 100000000) := ⟨(SeesV.own H.out.ww).below V5.out, fun r hr => ⟨(RowM.sees (H.out.o r hr)).below V5.out, HRb.out r hr⟩⟩
  have hgb5 : w5.cell? ⟨w.heap.size + 1 + 1 + 1 + 1, 0, none⟩ = some (.slice m.A m.rows.length m.c) := by
    have e : (((((w.alloc (.cells #[.slice A V.length c] 43)).alloc (.cells #[.int .i64 most] 3)).alloc (.cells #[.bool false] 4)).alloc (.cells #[.int .i64 0] 3)) : World).heap.size = w.heap.size + 1 + 1 + 1 + 1 := by rw [World.size_alloc, World.size_alloc, World.size_alloc, World.size_alloc]
    rw [← e]
    exact BX5.out.cell 0
  have HGB5 := Lib.hid hgb5
  have HS5 : Hid (w.heap.size ≤ w5.heap.size) := V5.out.size
  clear qfn hgb5 BX5 A5 M5 Z5 I5 HW5 V5
  obtain ⟨zb, hzb⟩ : ∃ z, sameB L (V.map (·.l)) most 0 = z := ⟨_, rfl⟩
  have HZb := Lib.hid hzb
  refine wpIn_rangeW (gf := 56) (lb := #[.pointer (some ⟨w.heap.size + 1 + 1 + 1 + 1, 0, none⟩)]) rfl (enters_of Tryd.func56 (by kernel_rfl) rfl) m.rows.length w.heap.size HS5.out (HandW m.rows)
    (fun k W => SmI w L A c V most k W) (fun W => SmX w zb W) ?seq ?size ?hand SM0.out (fun k W W' h b => h.below b) (fun k W l o o' h hl hh ho => h.putW o' (Nat.le_trans HS5.out hl) hh ho) (fun W l o o' h hl hh ho => h.putW o' (Nat.le_trans HS5.out hl) hh ho)
    (fun vs => { tmps := #[.pointer (some ⟨q, 0, none⟩), .slice A V.length c, .int .i64 most, undef, .pointer (some ⟨w.heap.size, 0, none⟩), .pointer (some ⟨w.heap.size + 1, 0, none⟩), .pointer (some ⟨w.heap.size + 1 + 1, 0, none⟩), .pointer (some ⟨w.heap.size + 1 + 1 + 1, 0, none⟩), .func (.func 56) #[] #[.pointer (some ⟨w.heap.size + 1 + 1 + 1 + 1, 0, none⟩)], vs.getD 0 undef, vs.getD 1 undef, .pointer (some ⟨q, 0, none⟩), .func (.func 56) #[] #[.pointer (some ⟨w.heap.size + 1 + 1 + 1 + 1, 0, none⟩)], .func (.func 56) #[] #[.pointer (some ⟨w.heap.size + 1 + 1 + 1 + 1, 0, none⟩)], .bool false, .func (.func 56) #[] #[.pointer (some ⟨w.heap.size + 1 + 1 + 1 + 1, 0, none⟩)], vs.getD 0 undef, vs.getD 1 undef, undef, undef, undef, undef, undef, undef, undef, undef, undef, undef, undef, undef, undef, undef, undef, undef, undef, undef, undef, undef, undef, undef, undef, undef, undef, undef, undef, undef, undef, undef], defers := [] }) ?assign ?body ?done ?stop
  case seq =>
    intro l J Jx W hbW hJ hY hJ0
    have hcell : W.cell? ⟨w.heap.size + 1 + 1 + 1 + 1, 0, none⟩ = some (.slice m.A m.rows.length m.c) := cell_later hbW HGB5.out
    exact batches1_in 4 l _ w.heap.size m.rows m.A m.c J Jx W hcell (Nat.le_trans HS5.out hbW.size) (HBs.out.1.below (hbW.mono HS5.out)) (fun r hr => ⟨((HBs.out.2 r hr).1).below (hbW.mono HS5.out), (HBs.out.2 r hr).2⟩) HN.out hJ
      (fun k x A9 c9 W1 hk hj hb ho => hY k _ W1 hk.1 ⟨x, A9, c9, rfl, hk, ho⟩ hj hb) hJ0
  case size =>
    rintro k vs W ⟨x, A9, c9, rfl, -, -⟩
    rfl
  case hand =>
    rintro k vs W l r o' ⟨x, A9, c9, rfl, hk, ho⟩ hl
    exact ⟨x, A9, c9, rfl, hk, own_putW ho o' hl rfl⟩
  case assign =>
    rintro l k vs W K ⟨x, A9, c9, rfl, -, -⟩ hK
    gi_wp2
    exact hK
  case body =>
    rintro l k vs W hkN ⟨x, A9, c9, rfl, ⟨hk, hx⟩, ho⟩ hI
    show Code.wpIn _ _ _ _ _ { tmps := #[.pointer (some ⟨q, 0, none⟩), .slice A V.length c, .int .i64 most, undef, .pointer (some ⟨w.heap.size, 0, none⟩), .pointer (some ⟨w.heap.size + 1, 0, none⟩), .pointer (some ⟨w.heap.size + 1 + 1, 0, none⟩), .pointer (some ⟨w.heap.size + 1 + 1 + 1, 0, none⟩), .func (.func 56) #[] #[.pointer (some ⟨w.heap.size + 1 + 1 + 1 + 1, 0, none⟩)], .int .u64 ((k : Int) + 1), .slice A9 x.length c9, .pointer (some ⟨q, 0, none⟩), .func (.func 56) #[] #[.pointer (some ⟨w.heap.size + 1 + 1 + 1 + 1, 0, none⟩)], .func (.func 56) #[] #[.pointer (some ⟨w.heap.size + 1 + 1 + 1 + 1, 0, none⟩)], .bool false, .func (.func 56) #[] #[.pointer (some ⟨w.heap.size + 1 + 1 + 1 + 1, 0, none⟩)], .int .u64 ((k : Int) + 1), .slice A9 x.length c9, undef, undef, undef, undef, undef, undef, undef, undef, undef, undef, undef, undef, undef, undef, undef, undef, undef, undef, undef, undef, undef, undef, undef, undef, undef, undef, undef, undef, undef, undef], defers := [] } W
    have HI : Hid (SmI w L A c V most k W) := hI
    have HO9 := Lib.hid ho
    have HLk : Hid (L.drop k = x :: L.drop (k + 1)) := by
      have hkL : k < L.length := by rw [← HL.out, List.length_map]; exact hk
      show _ = _
      rw [List.drop_eq_getElem_cons hkL]
      congr 1
      rw [← hx]
      simp [← HL.out]
    have hkV : k ≤ V.length := hI.n
    have hVn : V.length ≤ 1000000000 := HVn.out
    have ca : W.cell? ⟨w.heap.size, 0, none⟩ = some (.slice A V.length c) := hI.a.cell 0
    have cm : W.cell? ⟨w.heap.size + 1, 0, none⟩ = some (.int .i64 most) := hI.m.cell 0
    have ci : W.cell? ⟨w.heap.size + 1 + 1 + 1, 0, none⟩ = some (.int .i64 (k : Int)) := hI.i.cell 0
    have hw1 : IntKind.i64.wrap ((k : Int) + 1) = (k : Int) + 1 := by rw [IntKind.wrap_i64]; omega
    have hw2 : IntKind.u64.wrap ((k : Int) + 1) = (k : Int) + 1 := by rw [IntKind.wrap_u64]; omega
    have HWk : Hid (WantW W w.heap.size A V) := HV.out.below hI.v
    have HBW : Hid (w.heap.size ≤ W.heap.size) := hI.v.size
    clear hI hx hk ho
    gi_wp2
    by_cases hlt : k < V.length
    · obtain ⟨b, off, hAe, hb, hcs⟩ := HWk.out.s.at_ (k := k) (by rw [rowsC_len]; exact hlt)
      obtain ⟨y, hy⟩ : ∃ y, V[k] = y := ⟨_, rfl⟩
      have cv : W.cell? ⟨b, off + k, none⟩ = some (.slice y.A y.l.length y.c) := by
        rw [hcs k (by rw [rowsC_len]; exact hlt)]
        unfold rowsC
        rw [List.getElem_map, hy]; rfl
      have HSy : Hid (Sees W W.heap.size y.A y.l) := (HWk.out.r y (by rw [← hy]; exact List.getElem_mem hlt)).more HBW.out
      have HVal : Hid (zb = (if x = y.l then (if (k : Int) + 1 = most then true else sameB (L.drop (k + 1)) ((V.map (·.l)).drop (k + 1)) most (k + 1)) else false)) := by show _ = _; rw [← HZb.out, HI.out.val HLk.out, dif_pos hlt, hy]
      have HYl : Hid (∃ h : k < V.length, V[k].l = y.l) := ⟨hlt, by rw [hy]⟩
      have q1 : ∀ n, (convert 39 9 (.slice A9 x.length c9)).run Tryd.prog (W.drewN n) = .ok (.string (Str x)) (W.drewN n) := fun n => run_string_sees Tryd.underlying39 Tryd.underlying5 Tryd.underlying9 rfl (show Sees (W.drewN n) W.heap.size A9 x from RowM.sees HO9.out)
      obtain ⟨t, ht⟩ : ∃ t, y.l = t := ⟨_, rfl⟩
      rw [ht] at cv HSy HVal HYl
      have q2 : ∀ n, (convert 39 9 (.slice y.A t.length y.c)).run Tryd.prog (W.drewN n) = .ok (.string (Str t)) (W.drewN n) := fun n => run_string_sees Tryd.underlying39 Tryd.underlying5 Tryd.underlying9 rfl (show Sees (W.drewN n) W.heap.size y.A t from HSy.out)
      have hge : ¬ (V.length : Int) ≤ (k : Int) := by omega
      have hge2 : decide ((V.length : Int) ≤ (k : Int)) = false := decide_eq_false hge
      have HLt := Lib.hid hlt
      clear hcs hy ht hlt
      subst hAe
      by_cases hxt : x = t
      · have q3 : (x == t) = true := by rw [hxt]; simp
        rw [if_pos hxt] at HVal
        have HXt := Lib.hid hxt
        clear hxt
        by_cases hm : (k : Int) + 1 = most
        · rw [if_pos hm] at HVal
          have hm2 : ((k : Int) + 1 == most) = true := by rw [hm]; simp
          refine wpIn_round_quiet (by kernel_rfl) (by kernel_rfl) (by kernel_rfl) ?_
          repeat (go_big_quiet_step (fail))
          refine wpQuiet_nil ?_
          intro _ hw'
          obtain ⟨nq, rfl⟩ := hw'
          have HId := Lib.hid (HI.out.drewN nq)
          have KO : Hid (KeepsOthers W (W.drewN nq)) := ⟨Nat.le_refl _, fun _ _ h _ => h⟩
          have BO : Hid (Below w.heap.size W (W.drewN nq)) := ⟨rfl, rfl, rfl, Nat.le_refl _, fun _ _ => rfl⟩
          obtain ⟨Wd, hWd⟩ : ∃ x, W.drewN nq = x := ⟨_, rfl⟩
          rw [hWd] at HId KO BO ⊢
          clear hWd
          have ciz : Wd.cell? ⟨w.heap.size + 1 + 1 + 1, 0, none⟩ = some (.int .i64 (k : Int)) := HId.out.i.cell 0
          have fiz : Wd.frozen? ⟨w.heap.size + 1 + 1 + 1, 0, none⟩ = false := HId.out.i.frozen 0
          have czz : Wd.cell? ⟨w.heap.size + 1 + 1, 0, none⟩ = some (.bool false) := HId.out.z.cell 0
          have fzz : Wd.frozen? ⟨w.heap.size + 1 + 1, 0, none⟩ = false := HId.out.z.frozen 0
          have cmz : Wd.cell? ⟨w.heap.size + 1, 0, none⟩ = some (.int .i64 most) := HId.out.m.cell 0
          gi_wp2
          show KeepsOthers W _ ∧ SmX w zb _
          rw [HVal.out]
          exact ⟨(KO.out.trans (KeepsOthers.setCell _ _ _)).trans (KeepsOthers.setCell _ _ _), (HId.out.z.far (by show _ + 1 + 1 ≠ _ + 1 + 1 + 1; omega) _).set 0 _, (HId.out.v.setCell (p := ⟨w.heap.size + 1 + 1 + 1, 0, none⟩) (by show _ ≤ _ + 1 + 1 + 1; omega) _).setCell (p := ⟨w.heap.size + 1 + 1, 0, none⟩) (by show _ ≤ _ + 1 + 1; omega) _⟩
        · rw [if_neg hm] at HVal
          have hm2 : ((k : Int) + 1 == most) = false := beq_eq_false_iff_ne.2 hm
          have HM := Lib.hid hm
          refine wpIn_round_quiet (by kernel_rfl) (by kernel_rfl) (by kernel_rfl) ?_
          repeat (go_big_quiet_step (fail))
          refine wpQuiet_nil ?_
          intro _ hw'
          obtain ⟨nq, rfl⟩ := hw'
          have HId := Lib.hid (HI.out.drewN nq)
          have KO : Hid (KeepsOthers W (W.drewN nq)) := ⟨Nat.le_refl _, fun _ _ h _ => h⟩
          have BO : Hid (Below w.heap.size W (W.drewN nq)) := ⟨rfl, rfl, rfl, Nat.le_refl _, fun _ _ => rfl⟩
          obtain ⟨Wd, hWd⟩ : ∃ x, W.drewN nq = x := ⟨_, rfl⟩
          rw [hWd] at HId KO BO ⊢
          clear hWd
          have ciz : Wd.cell? ⟨w.heap.size + 1 + 1 + 1, 0, none⟩ = some (.int .i64 (k : Int)) := HId.out.i.cell 0
          have fiz : Wd.frozen? ⟨w.heap.size + 1 + 1 + 1, 0, none⟩ = false := HId.out.i.frozen 0
          have czz : Wd.cell? ⟨w.heap.size + 1 + 1, 0, none⟩ = some (.bool false) := HId.out.z.cell 0
          have fzz : Wd.frozen? ⟨w.heap.size + 1 + 1, 0, none⟩ = false := HId.out.z.frozen 0
          have cmz : Wd.cell? ⟨w.heap.size + 1, 0, none⟩ = some (.int .i64 most) := HId.out.m.cell 0
          gi_wp2
          obtain ⟨hk9, hyl⟩ := HYl.out
          exact ⟨KO.out.trans (KeepsOthers.setCell _ _ _), BO.out.setCell (p := ⟨w.heap.size + 1 + 1 + 1, 0, none⟩) (by show _ ≤ _ + 1 + 1 + 1; omega) _, HId.out.next HLk.out hk9 (by rw [HXt.out, hyl]) HM.out⟩
      · have q3 : (x == t) = false := beq_eq_false_iff_ne.2 hxt
        rw [if_neg hxt] at HVal
        clear hxt
        refine wpIn_round_quiet (by kernel_rfl) (by kernel_rfl) (by kernel_rfl) ?_
        repeat (go_big_quiet_step (fail))
        refine wpQuiet_nil ?_
        intro _ hw'
        obtain ⟨nq, rfl⟩ := hw'
        have HId := Lib.hid (HI.out.drewN nq)
        have KO : Hid (KeepsOthers W (W.drewN nq)) := ⟨Nat.le_refl _, fun _ _ h _ => h⟩
        have BO : Hid (Below w.heap.size W (W.drewN nq)) := ⟨rfl, rfl, rfl, Nat.le_refl _, fun _ _ => rfl⟩
        obtain ⟨Wd, hWd⟩ : ∃ x, W.drewN nq = x := ⟨_, rfl⟩
        rw [hWd] at HId KO BO ⊢
        clear hWd
        have ciz : Wd.cell? ⟨w.heap.size + 1 + 1 + 1, 0, none⟩ = some (.int .i64 (k : Int)) := HId.out.i.cell 0
        have fiz : Wd.frozen? ⟨w.heap.size + 1 + 1 + 1, 0, none⟩ = false := HId.out.i.frozen 0
        have czz : Wd.cell? ⟨w.heap.size + 1 + 1, 0, none⟩ = some (.bool false) := HId.out.z.cell 0
        have fzz : Wd.frozen? ⟨w.heap.size + 1 + 1, 0, none⟩ = false := HId.out.z.frozen 0
        have cmz : Wd.cell? ⟨w.heap.size + 1, 0, none⟩ = some (.int .i64 most) := HId.out.m.cell 0
        gi_wp2
        show KeepsOthers W _ ∧ SmX w zb _
        rw [HVal.out]
        exact ⟨KO.out.trans (KeepsOthers.setCell _ _ _), HId.out.z.set 0 _, HId.out.v.setCell (p := ⟨w.heap.size + 1 + 1, 0, none⟩) (by show _ ≤ _ + 1 + 1; omega) _⟩
    · have HVal : Hid (zb = false) := by show _ = _; rw [← HZb.out, HI.out.val HLk.out, dif_neg hlt]
      have hge : (V.length : Int) ≤ (k : Int) := by omega
      have hge2 : decide ((V.length : Int) ≤ (k : Int)) = true := decide_eq_true hge
      clear hlt
      refine wpIn_round_quiet (by kernel_rfl) (by kernel_rfl) (by kernel_rfl) ?_
      repeat (go_big_quiet_step (fail))
      refine wpQuiet_nil ?_
      intro _ hw'
      obtain ⟨nq, rfl⟩ := hw'
      have HId := Lib.hid (HI.out.drewN nq)
      have KO : Hid (KeepsOthers W (W.drewN nq)) := ⟨Nat.le_refl _, fun _ _ h _ => h⟩
      have BO : Hid (Below w.heap.size W (W.drewN nq)) := ⟨rfl, rfl, rfl, Nat.le_refl _, fun _ _ => rfl⟩
      obtain ⟨Wd, hWd⟩ : ∃ x, W.drewN nq = x := ⟨_, rfl⟩
      rw [hWd] at HId KO BO ⊢
      clear hWd
      have ciz : Wd.cell? ⟨w.heap.size + 1 + 1 + 1, 0, none⟩ = some (.int .i64 (k : Int)) := HId.out.i.cell 0
      have fiz : Wd.frozen? ⟨w.heap.size + 1 + 1 + 1, 0, none⟩ = false := HId.out.i.frozen 0
      have czz : Wd.cell? ⟨w.heap.size + 1 + 1, 0, none⟩ = some (.bool false) := HId.out.z.cell 0
      have fzz : Wd.frozen? ⟨w.heap.size + 1 + 1, 0, none⟩ = false := HId.out.z.frozen 0
      have cmz : Wd.cell? ⟨w.heap.size + 1, 0, none⟩ = some (.int .i64 most) := HId.out.m.cell 0
      gi_wp2
      show KeepsOthers W _ ∧ SmX w zb _
      rw [HVal.out]
      exact ⟨KO.out.trans (KeepsOthers.setCell _ _ _), HId.out.z.set 0 _, HId.out.v.setCell (p := ⟨w.heap.size + 1 + 1, 0, none⟩) (by show _ ≤ _ + 1 + 1; omega) _⟩
  case done =>
    intro D W hI hD hDl
    have HI : Hid (SmI w L A c V most m.rows.length W) := hI
    have ca : W.cell? ⟨w.heap.size, 0, none⟩ = some (.slice A V.length c) := hI.a.cell 0
    have cz : W.cell? ⟨w.heap.size + 1 + 1, 0, none⟩ = some (.bool false) := hI.z.cell 0
    have fz : W.frozen? ⟨w.heap.size + 1 + 1, 0, none⟩ = false := hI.z.frozen 0
    have ci : W.cell? ⟨w.heap.size + 1 + 1 + 1, 0, none⟩ = some (.int .i64 (m.rows.length : Int)) := hI.i.cell 0
    have HD := Lib.hid hD
    have HLn : Hid (L.length = m.rows.length) := by show _ = _; rw [← HL.out, List.length_map]
    clear hI hD
    gi_wp2
    rw [HZb.out]
    have hv : zb = ((m.rows.length : Int) == (V.length : Int)) := by rw [← HZb.out]; exact HI.out.last HLn.out
    have hz2 : Blk (W.setCell ⟨w.heap.size + 1 + 1, 0, none⟩ (.bool ((m.rows.length : Int) == (V.length : Int)))) (w.heap.size + 1 + 1) 4 #[.bool zb] := by
      rw [← hv]; exact HI.out.z.set 0 _
    exact wsame_leave _ rfl ⟨hz2, HI.out.v.setCell (p := ⟨w.heap.size + 1 + 1, 0, none⟩) (by show _ ≤ _ + 1 + 1; omega) _⟩ ((KeepsOthers.setCell W _ _).same D _ HD.out rfl) (Nat.le_trans HS5.out hDl)
  case stop =>
    intro D W hX hD hDl
    have HX := Lib.hid hX
    have HD := Lib.hid hD
    clear hX hD
    gi_wp2
    rw [HZb.out]
    exact wsame_leave _ rfl HX.out HD.out (Nat.le_trans HS5.out hDl)
end
end Go.Proofs.YthamlphebnhcpaaDoor
