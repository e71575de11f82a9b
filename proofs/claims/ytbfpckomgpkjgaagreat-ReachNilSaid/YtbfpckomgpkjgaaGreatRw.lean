/-
  A range over a function: the law; drawn regions in its rounds.
-/
import Derived.Test.YtbfpckomgpkjgaaGreatVals
import Derived.Test.YtbfpckomgpkjgaaGreatPRnQ4
import Derived.RangeFuncNested
import Derived.RangeFuncBound
import Derived.RangeFuncCalls
import Derived.RangeFuncLeaves
import Derived.Shelf.Abstract
import Derived.Shelf.RegionOpen
import Derived.WalkKit
import Derived.OwnWalkIn
import Derived.TacticsInMore
import Derived.LoopNIn
import Derived.LoopIn
import Derived.Deep.Quiet
import Derived.BigQuiet
namespace Go.Proofs.YtbfpckomgpkjgaaGreat
open Go.RowKit Go.Shelf

section
variable {P : Program} {ops : Array Oper} {C : World → Prop}
/-- One operation of a region that only reads, in a round. -/
theorem round_op {i l n : Nat} {a : Act} {K : Act → Prop} {K' : Act → World → Prop} {Q' : Exit → Act → World → Prop} {w : World} (hnd : ∀ (o : Oper), ops[i]? = some o → ∀ (c : Call), o.op ≠ .defer c) (hC : C w) (h : ∀ a w', C w' → K a → K' a w') (hh : qOp P ops C i K a) : wpOpIn (Fence.wide.inRound l) n P ops Q' i K' a w := by
  unfold qOp at hh
  unfold wpOpIn
  cases ho : ops[i]? with
  | none => rw [ho] at hh; exact h _ _ hC hh
  | some o =>
    rw [ho] at hh
    dsimp only at hh ⊢
    by_cases hw : Region.wanted o (yielded ops a.tmps) = true
    · rw [if_pos hw] at hh ⊢
      obtain ⟨v, h1, h2⟩ := hh
      have h3 := h1 w hC
      refine ⟨fun _ _ => trivial, ?_⟩
      rw [Oper.semAt_eq _ _ _ (hnd o ho)]
      unfold Oper.quietAt at h3
      cases hr : (execOp a.eval o).run P w with
      | halt x w' => rw [hr] at h3; exact h3.elim
      | ok x w' =>
        rw [hr] at h3
        cases x with
        | value u => obtain ⟨e1, e2⟩ := h3; rw [Oper.uponIn_value, e1, e2]; exact h _ _ hC h2
        | skip => obtain ⟨e1, e2⟩ := h3; rw [Oper.uponIn_skip, e1, ← e2]; exact h _ _ hC h2
        | enter f args =>
          obtain ⟨e1, hc⟩ := h3
          rw [Oper.uponIn_enter, e1]
          refine ⟨fun hd => by simp [Fence.wide] at hd, CallsIn.inRound l (callsIn_wide.2 (hc.mono fun e w'' he => ?_))⟩
          obtain ⟨he, hw''⟩ := he
          subst he
          exact h _ _ hw'' h2
        | row a b => exact h3.elim
        | round a b c d e => exact h3.elim
        | defer d => exact h3.elim
        | _ => exact h3.elim
    · rw [if_neg hw] at hh ⊢
      exact ⟨fun _ _ => trivial, h _ _ hC hh⟩
theorem round_any {md : Region.Mode} {l n : Nat} (hnd : ∀ (i : Nat) (o : Oper), ops[i]? = some o → ∀ (c : Call), o.op ≠ .defer c) {Q : Act → Prop} {Q' : Exit → Act → World → Prop} (hQ : ∀ a w, C w → Q a → Q' .normal a w) : ∀ (fuel : Nat) (listed : Array Bool) (a : Act) (w : World), C w →
    wpAnyQ P md ops C Q fuel listed a → wpAnyIn (Fence.wide.inRound l) n P md ops Q' fuel listed a w
  | 0, _, _, _, hw, h => ⟨h.1, hQ _ _ hw h.2⟩
  | fuel + 1, _, _, _, hw, h => ⟨fun h0 => hQ _ _ hw (h.1 h0), fun i hi => round_op (hnd i) hw (fun a' w' hw' hh => round_any hnd hQ fuel _ a' w' hw' hh) (h.2 i hi)⟩
def noDefer (o : Oper) : Bool := match o.op with | .defer _ => false | _ => true
theorem noDefer_at {L : List Oper} (h : L.all noDefer = true) (i : Nat) (o : Oper) (ho : L.toArray[i]? = some o) (c : Call) : o.op ≠ .defer c := by
  have h1 : o ∈ L := by rw [List.getElem?_toArray] at ho; exact List.mem_of_getElem? ho
  have h2 := List.all_eq_true.1 h o h1
  intro e
  unfold noDefer at h2
  rw [e] at h2
  cases h2
/-- A region that only reads, in a round: one walk of the text's order serves every order. -/
theorem wpIn_round_quiet {id l n : Nat} {Q : Exit → Act → World → Prop} {a : Act} {w : World} {L : List Oper} (hm : P.follows .mixedOrders = true) (hB : Region.lexB .any L.toArray = true) (hnd : L.all noDefer = true)
    (h : wpQuiet P L.toArray (fun w' => ∃ n, w' = w.drewN n) (fun a' => ∀ w', (∃ n, w' = w.drewN n) → Q .normal a' w') L a) : (Code.region id L.toArray true).wpIn (Fence.wide.inRound l) n P Q a w := by
  simp only [Region.lexB, Bool.and_eq_true] at hB
  refine wpIn_region_any hm (round_any (C := fun w' => ∃ n, w' = w.drewN n) (noDefer_at hnd) (Q := fun a' => ∀ w', (∃ n, w' = w.drewN n) → Q .normal a' w') (fun _ w' hw' h => h w' hw') _ _ _ _ ⟨1, rfl⟩ ?_)
  have := wpAnyQ_lex (P := P) (C := fun w' => ∃ n, w' = w.drewN n) (md := .any) hB.1 L 0 (Array.replicate L.toArray.size false) a (by simp) (by simpa using hB.2) h
  simpa using this

/-- How a round may be left. -/
def leftW (I : Nat → World → Prop) (Ix : World → Prop) (B k : Nat) (W : World) : Exit → Act → World → Prop
  | .normal, _, W' => KeepsOthers W W' ∧ Below B W W' ∧ I (k + 1) W'
  | .ret, _, W' => KeepsOthers W W' ∧ Ix W'
  | _, _, _ => False

theorem wpIn_rangeW {n : Nat} {g : Operand} {ps : Array Tmp} {assign body : Code} {Q : Exit → Act → World → Prop} {a : Act} {w : World} {gf : Nat} {lb : Array Value}
    (hg : a.eval g = .func (.func gf) #[] lb) (eg : ∀ args w, (callFunc gf args).run P w = .ok (.enter gf args) w)
    (N B : Nat) (hB : B ≤ w.heap.size) (G : Nat → Array Value → World → Prop) (I : Nat → World → Prop) (Ix : World → Prop)
    (hseq : ∀ (l : Nat) (J : Nat → World → Prop) (Jx : World → Prop) (W : World), Below w.heap.size w W → (∀ k W1 W2, J k W1 → Below W1.heap.size W1 W2 → J k W2) →
      (∀ k vs W1, k < N → G k vs W1 → J k W1 → Below B W W1 → YieldAt Fence.wide (n - 1 - 1) P l vs W1 fun e W' => (e = .returned (.bool true) ∧ J (k + 1) W' ∧ Below B W1 W') ∨ (e = .returned (.bool false) ∧ Jx W')) →
      J 0 W → CallsIn Fence.wide (n - 1) P gf (#[.func (.yield l) #[] #[]] ++ lb) W fun e W' => (∃ v, e = .returned v) ∧ ((J N W' ∧ Below B W W') ∨ Jx W'))
    (hGs : ∀ k vs W, G k vs W → vs.size = ps.size) (hGp : ∀ k vs W l r o', G k vs W → W.heap[l]? = some (.loop r) → G k vs (W.putObj l o'))
    (h0 : I 0 w) (hIb : ∀ k W W', I k W → Below W.heap.size W W' → I k W') (hIp : ∀ k W l o o', I k W → w.heap.size ≤ l → W.heap[l]? = some o → o.isCells = false → I k (W.putObj l o'))
    (hXp : ∀ W l o o', Ix W → w.heap.size ≤ l → W.heap[l]? = some o → o.isCells = false → Ix (W.putObj l o'))
    (a₁ : Array Value → Act)
    (hassign : ∀ (l k : Nat) (vs : Array Value) (W : World) (K : Act → World → Prop), G k vs W → K (a₁ vs) W →
      assign.wpIn (Fence.wide.inRound l) (n - 1 - 1) P (Exit.then K (fun _ _ _ => False)) { tmps := (ps.zip vs).foldl (fun t (p, v) => t.setIfInBounds p v) a.tmps, defers := [] } W)
    (hbody : ∀ (l k : Nat) (vs : Array Value) (W : World), k < N → G k vs W → I k W → body.wpIn (Fence.wide.inRound l) (n - 1 - 1) P (leftW I Ix B k W) (a₁ vs) W)
    (hdone : ∀ (D : Nat) (W : World), I N W → W.heap[D]? = some (.deferred (some [])) → w.heap.size ≤ D → Q .normal { a with defers := { target := .collected D, args := #[] } :: a.defers } W)
    (hstop : ∀ (D : Nat) (W : World), Ix W → W.heap[D]? = some (.deferred (some [])) → w.heap.size ≤ D → Code.ret.wpIn Fence.wide n P Q { a with defers := { target := .collected D, args := #[] } :: a.defers } W) :
    (Code.rangeFunc g ps assign body).wpIn Fence.wide n P Q a w := by
  refine wpIn_rangeFunc fun fn hfn => ?_
  obtain ⟨rec, hrec⟩ : ∃ rec : LoopState → Option Code → Loop, rec = fun st pe => { state := st, pending := pe, fn, tmps := a.tmps, params := ps, assign, body, defers := w.heap.size } := ⟨_, rfl⟩
  obtain ⟨D, hD⟩ : ∃ D, w.heap.size = D := ⟨_, rfl⟩
  obtain ⟨L, hL⟩ : ∃ L, D + 1 = L := ⟨_, rfl⟩
  have hen : ∀ W1, (w.alloc (.deferred (some []))).alloc (.loop (rec .ready none)) = W1 → (Instr.enterLoop fn a.tmps ps assign body none).run P w = .ok (L, [{ target := .collected D, args := #[] }]) W1 := fun W1 e => by
    rw [← e, hrec, ← hL, ← hD]
    exact run_enterLoop_outer fn a.tmps ps assign body
  obtain ⟨W1, hW1⟩ : ∃ W1, (w.alloc (.deferred (some []))).alloc (.loop (rec .ready none)) = W1 := ⟨_, rfl⟩
  have hb1 : Below D w W1 := by rw [← hW1, ← hD]; exact nxAlloc (nxAlloc (nxRefl w) _) _
  have hr1 : W1.heap[L]? = some (.loop (rec .ready none)) := by
    rw [← hW1, ← hL, ← hD]
    have := World.alloc_heap_new (w.alloc (.deferred (some []))) (.loop (rec .ready none))
    rwa [World.size_alloc] at this
  have hd1 : W1.heap[D]? = some (.deferred (some [])) := by
    rw [← hW1, ← hD]
    exact (Below.heap_alloc _ _ _ (by simp)).trans (World.alloc_heap_new w _)
  have hI1 : I 0 W1 := hIb 0 w W1 h0 (by rw [hD]; exact hb1)
  -- the record and the block for the rounds' deferred calls
  let At : Loop → World → Prop := fun r W => W.heap[L]? = some (.loop r) ∧ W.heap[D]? = some (.deferred (some []))
  have hlt : ∀ {r W}, At r W → L < W.heap.size := fun h => (Array.getElem?_eq_some_iff.1 h.1).1
  have hput : ∀ {r W} (r' : Loop), At r W → At r' (W.putObj L (.loop r')) := fun r' h => ⟨World.putObj_heap_same (hlt h), (World.putObj_heap_other (by omega)).trans h.2⟩
  have hko : ∀ {r W W'}, At r W → KeepsOthers W W' → At r W' := fun h k => ⟨k.same _ _ h.1 rfl, k.same _ _ h.2 rfl⟩
  have hbe : ∀ {r W W'}, At r W → Below W.heap.size W W' → At r W' := fun h b => ⟨(b.block L (hlt h)).trans h.1, (b.block D (by have := hlt h; omega)).trans h.2⟩
  have hpb : ∀ {r W} (o' : Obj), At r W → Below B W (W.putObj L o') := fun o' h => belowK_b (w := w) hB _ L _ o' (by omega) h.1 rfl rfl
  have hpI : ∀ {r W k} (o' : Obj), At r W → I k W → I k (W.putObj L o') := fun o' h i => hIp _ _ L _ o' i (by omega) h.1 rfl
  have hpX : ∀ {r W} (o' : Obj), At r W → Ix W → Ix (W.putObj L o') := fun o' h i => hXp _ L _ o' i (by omega) h.1 rfl
  refine ⟨L, [{ target := .collected D, args := #[] }], W1, { target := .fn (.func gf) lb, args := #[.func (.yield L) #[] #[]] }, W1, gf, #[.func (.yield L) #[] #[]] ++ lb, W1, hen W1 hW1, ?_, fun _ _ => trivial, ?_, fun h => absurd h (by decide), ?_⟩
  · simp only [resolve, hg]
    simp [go_sem]
  · simp [invoke, go_sem, eg]
  refine (hseq L (fun k W => I k W ∧ At (rec .ready none) W) (fun W => Ix W ∧ At (rec .done (some .ret)) W) W1 (by rw [hD]; exact hb1) (fun k Wa Wb h b => ⟨hIb k Wa Wb h.1 b, hbe h.2 b⟩) ?_ ⟨hI1, hr1, hd1⟩).mono ?_
  · rintro k vs W hk hG ⟨hi, ha⟩ hbW
    have hy := run_yield (P := P) (args := vs) ha.1 (by rw [hrec]; exact hGs k vs W hG)
    rw [hrec] at hy
    have hbg := run_beginRound (P := P) ha.1 (by rw [hrec])
    have ha2 := hput { rec .ready none with state := .busy } ha
    refine ⟨fn, _, assign, body, hy, roundIn_of_wpIn hfn (hassign L k vs W _ hG ⟨_, hbg, ?_⟩)⟩
    refine wpIn_mono (hbody L k vs _ hk (hGp k vs W L _ _ hG ha.1) (hpI _ ha hi)) ?_
    rintro e a3 W3 hp
    have hend : ∀ jump, KeepsOthers (W.putObj L (.loop { rec .ready none with state := .busy })) W3 → (Instr.endRound L jump).run P W3 = .ok (.bool jump.isNone) (W3.putObj L (.loop (rec (if jump.isNone then .ready else .done) jump))) ∧ At { rec .ready none with state := .busy } W3 := fun jump k3 => by
      have h3 := hko ha2 k3
      have h4 := run_endRound (P := P) jump h3.1
      rw [hrec] at h4 ⊢
      exact ⟨h4, by rw [hrec] at h3; exact h3⟩
    cases e with
    | normal =>
      obtain ⟨k3, kb, i3⟩ := hp
      obtain ⟨h4, h3⟩ := hend none k3
      exact ⟨_, _, h4, .inl ⟨rfl, ⟨hpI _ h3 i3, hput _ h3⟩, ((hpb _ ha).trans kb).trans (hpb _ h3)⟩⟩
    | ret =>
      obtain ⟨k3, i3⟩ := hp
      obtain ⟨h4, h3⟩ := hend (some .ret) k3
      exact ⟨_, _, h4, .inr ⟨rfl, hpX _ h3 i3, hput _ h3⟩⟩
    | exit id => exact hp.elim
    | goto t => exact hp.elim
    | panic ch => exact hp.elim
    | outgrown => exact hp.elim
  · rintro e W2 ⟨⟨v, rfl⟩, ⟨⟨hi, ha⟩, -⟩ | ⟨hi, ha⟩⟩
    · have h5 := run_endLoop (P := P) ha.1 (by rw [hrec]; simp)
      rw [hrec] at h5
      refine ⟨none, _, h5, ?_⟩
      have := hdone D _ (hpI (.loop { rec .ready none with state := .exhausted }) ha hi) (hput { rec .ready none with state := .exhausted } ha).2 (by omega)
      rw [hrec] at this
      exact this
    · have h5 := run_endLoop (P := P) ha.1 (by rw [hrec]; simp)
      rw [hrec] at h5
      refine ⟨some .ret, _, h5, ?_⟩
      have := hstop D _ (hpX (.loop { rec .done (some .ret) with state := .exhausted }) ha hi) (hput { rec .done (some .ret) with state := .exhausted } ha).2 (by omega)
      rw [hrec] at this
      exact this
end
theorem Blk.putW {W : World} {g l : Nat} {t : TypeId} {cs : Array Value} {o : Obj} (h : Blk W g t cs) (o' : Obj) (hl : W.heap[l]? = some o) (ho : o.isCells = false) : Blk (W.putObj l o') g t cs := by
  refine (World.putObj_heap_other (fun e => ?_)).trans h
  subst e
  unfold Blk at h
  rw [h] at hl
  injection hl with hl
  subst hl
  cases ho
theorem own_putW {W : World} {base size n l : Nat} {e : TypeId} {v : Value} {xs : List Value} {o : Obj} (h : W.ownsRow base e size v n xs) (o' : Obj) (hl : W.heap[l]? = some o) (ho : o.isCells = false) : (W.putObj l o').ownsRow base e size v n xs := by
  refine ⟨h.1, ?_⟩
  rcases h.2 with h0 | ⟨g, cap, cur, hv, hg, hh, hr⟩
  · exact .inl h0
  · refine .inr ⟨g, cap, cur, hv, hg, (World.putObj_heap_other (fun e => ?_)).trans hh, hr⟩
    subst e
    rw [hh] at hl
    injection hl with hl
    subst hl
    cases ho
section
variable {P : Program} {ops : Array Oper}
/-- A region that is left in one way alone. -/
def OnlyR (R : Act → World → Prop) : Exit → Act → World → Prop := fun e a w => e = .normal ∧ R a w
theorem OnlyR.not {R : Act → World → Prop} : ¬ LetsOut (OnlyR R) := by
  rintro ⟨a, w, h, _⟩
  cases h
theorem opIn_of {i l n : Nat} {a : Act} {K : Act → World → Prop} {R : Act → World → Prop} {Q' : Exit → Act → World → Prop} {w : World} (hnd : ∀ (o : Oper), ops[i]? = some o → ∀ (c : Call), o.op ≠ .defer c) (hh : wpOp P ops (OnlyR R) i K a w) : wpOpIn (Fence.wide.inRound l) n P ops Q' i K a w := by
  unfold wpOp at hh
  unfold wpOpIn
  cases ho : ops[i]? with
  | none => rw [ho] at hh; exact hh
  | some o =>
    rw [ho] at hh
    dsimp only at hh ⊢
    by_cases hw : Region.wanted o (yielded ops a.tmps) = true
    · rw [if_pos hw] at hh ⊢
      rcases hh with hh | ⟨_, hh⟩
      · refine ⟨fun _ _ => trivial, ?_⟩
        rw [Oper.semAt_eq _ _ _ (hnd o ho)]
        unfold Oper.wp at hh
        cases hr : (execOp a.eval o).run P w with
        | halt x w' =>
          rw [hr] at hh
          cases x with
          | panic v => exact absurd hh.1 (by intro h; cases h)
          | _ => exact hh.elim
        | ok x w' =>
          rw [hr] at hh
          cases x with
          | value u => exact hh
          | skip => exact hh
          | defer d => exact hh
          | enter f args =>
            rw [Oper.uponIn_enter]
            refine ⟨fun hd => by simp [Fence.wide] at hd, CallsIn.inRound l (callsIn_wide.2 (Calls.mono hh fun e w'' he => ?_))⟩
            cases e with
            | returned v => exact he
            | panicked c => exact absurd he.1 (by intro h; cases h)
            | outgrown => exact absurd he OnlyR.not
          | row r args =>
            rw [Oper.uponIn_row]
            exact ⟨fun hd => by simp [Fence.wide] at hd, fun c cs _ => let ⟨v, w'', r, s⟩ := hh c cs; ⟨v, w'', r, stepsIn_wide.2 s⟩⟩
          | _ => exact hh.elim
      · exact absurd hh OnlyR.not
    · rw [if_neg hw] at hh ⊢
      exact ⟨fun _ _ => trivial, hh⟩
theorem opIn_mono {i l n : Nat} {a : Act} {K K' : Act → World → Prop} {Q' : Exit → Act → World → Prop} {w : World} (h : ∀ a w, K a w → K' a w) (hh : wpOpIn (Fence.wide.inRound l) n P ops Q' i K a w) : wpOpIn (Fence.wide.inRound l) n P ops Q' i K' a w := by
  unfold wpOpIn at *
  cases ho : ops[i]? with
  | none => rw [ho] at hh; exact h _ _ hh
  | some o =>
    rw [ho] at hh
    dsimp only at hh ⊢
    split
    · next hw => rw [if_pos hw] at hh; exact Oper.wpIn_mono h hh
    · next hw => rw [if_neg hw] at hh; exact ⟨hh.1, h _ _ hh.2⟩
theorem anyIn_of {md : Region.Mode} {l n : Nat} (hnd : ∀ (i : Nat) (o : Oper), ops[i]? = some o → ∀ (c : Call), o.op ≠ .defer c) {R : Act → World → Prop} {Q' : Exit → Act → World → Prop} (hQ : ∀ a w, R a w → Q' .normal a w) : ∀ (fuel : Nat) (listed : Array Bool) (a : Act) (w : World),
    wpAny P md ops (OnlyR R) fuel listed a w → wpAnyIn (Fence.wide.inRound l) n P md ops Q' fuel listed a w
  | 0, _, _, _, h => ⟨h.1, hQ _ _ h.2.2⟩
  | fuel + 1, _, _, _, h => ⟨fun h0 => hQ _ _ (h.1 h0).2, fun i hi => opIn_mono (fun a' w' h' => anyIn_of hnd hQ fuel _ a' w' h') (opIn_of (hnd i) (h.2 i hi))⟩
/-- A drawn region in a round, walked as anywhere else. -/
theorem wpIn_round_K {id l n : Nat} {Q : Exit → Act → World → Prop} {a : Act} {w : World} {L : List Oper} (S : World → Prop) (k : Nat) (R : Act → World → Prop) (hm : P.follows .mixedOrders = true) (hnd : L.all noDefer = true) (hQ : ∀ a w, R a w → Q .normal a w) (hS : S w.drew)
    (h : KT S k (Array.replicate L.toArray.size false) w.drew → wpAnyK P .any L.toArray (OnlyR R) S k L.toArray.size (Array.replicate L.toArray.size false) a w.drew) : (Code.region id L.toArray true).wpIn (Fence.wide.inRound l) n P Q a w :=
  wpIn_region_any hm (anyIn_of (noDefer_at hnd) hQ _ _ _ _ (wpAny_of_K _ _ _ _ (h (fun _ => hS))))
end
theorem Keeps.others {S : Nat → Prop} {W W' : World} (k : Keeps S W W') (h : ∀ j, S j → ∀ o : Obj, W.heap[j]? = some o → o.isCells = true) : KeepsOthers W W' :=
  ⟨k.size, fun j o hj ho => (k.block j (Array.getElem?_eq_some_iff.1 hj).1 (fun hs => by rw [h j hs o hj] at ho; cases ho)).trans hj⟩
end Go.Proofs.YtbfpckomgpkjgaaGreat
