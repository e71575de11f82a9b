/-
  A range over a function: the law; what is handed is laid into memory. Laws of a round's operations on whole arrays.
-/
import Derived.Test.YtndkjmmmneianaaDoorRw
import Derived.Test.YtndkjmmmneianaaDoorCopy
namespace Go.Proofs.YtndkjmmmneianaaDoor
open Go.RowKit Go.Shelf

section
variable {P : Program}
theorem wpIn_rangeW2 {n : Nat} {g : Operand} {ps : Array Tmp} {assign body : Code} {Q : Exit → Act → World → Prop} {a : Act} {w : World} {gf : Nat} {lb : Array Value}
    (hg : a.eval g = .func (.func gf) #[] lb) (eg : ∀ args w, (callFunc gf args).run P w = .ok (.enter gf args) w)
    (N B : Nat) (hB : B ≤ w.heap.size) (G : Nat → Array Value → World → Prop) (I : Nat → World → Prop) (Ix : World → Prop)
    (hseq : ∀ (l : Nat) (J : Nat → World → Prop) (Jx : World → Prop) (W : World), Below w.heap.size w W → (∀ k W1 W2, J k W1 → Below W1.heap.size W1 W2 → J k W2) →
      (∀ k vs W1, k < N → G k vs W1 → J k W1 → Below B W W1 → YieldAt Fence.wide (n - 1 - 1) P l vs W1 fun e W' => (e = .returned (.bool true) ∧ J (k + 1) W' ∧ Below B W1 W') ∨ (e = .returned (.bool false) ∧ Jx W')) →
      J 0 W → CallsIn Fence.wide (n - 1) P gf (#[.func (.yield l) #[] #[]] ++ lb) W fun e W' => (∃ v, e = .returned v) ∧ ((J N W' ∧ Below B W W') ∨ Jx W'))
    (hGs : ∀ k vs W, G k vs W → vs.size = ps.size) (hGp : ∀ k vs W l r o', G k vs W → W.heap[l]? = some (.loop r) → G k vs (W.putObj l o'))
    (h0 : I 0 w) (hIb : ∀ k W W', I k W → Below W.heap.size W W' → I k W') (hIp : ∀ k W l o o', I k W → w.heap.size ≤ l → W.heap[l]? = some o → o.isCells = false → I k (W.putObj l o'))
    (hXp : ∀ W l o o', Ix W → w.heap.size ≤ l → W.heap[l]? = some o → o.isCells = false → Ix (W.putObj l o'))
    (R : Nat → Array Value → Act → World → Prop)
    (hassign : ∀ (l k : Nat) (vs : Array Value) (W : World), k < N → G k vs W → I k W → 
      assign.wpIn (Fence.wide.inRound l) (n - 1 - 1) P (Exit.then (fun a1 W1 => KeepsOthers W W1 ∧ Below B W W1 ∧ R k vs a1 W1) (fun _ _ _ => False)) { tmps := (ps.zip vs).foldl (fun t (p, v) => t.setIfInBounds p v) a.tmps, defers := [] } W)
    (hRp : ∀ k vs a1 W l o o', R k vs a1 W → w.heap.size ≤ l → W.heap[l]? = some o → o.isCells = false → R k vs a1 (W.putObj l o'))
    (hbody : ∀ (l k : Nat) (vs : Array Value) (a1 : Act) (W : World), k < N → R k vs a1 W → body.wpIn (Fence.wide.inRound l) (n - 1 - 1) P (leftW I Ix B k W) a1 W)
    (hdone : ∀ (D : Nat) (W : World), I N W → W.heap[D]? = some (.deferred (some [])) → w.heap.size ≤ D → Q .normal { a with defers := { target := .collected D, args := #[] } :: a.defers } W)
    (hstop : ∀ (D : Nat) (W : World), Ix W → W.heap[D]? = some (.deferred (some [])) → w.heap.size ≤ D → Code.ret.wpIn Fence.wide n P Q { a with defers := { target := .collected D, args := #[] } :: a.defers } W) :
    (Code.rangeFunc g ps assign body).wpIn Fence.wide n P Q a w := by
  refine wpIn_rangeFunc fun fn hfn => ?_
  obtain ⟨rec, hrec⟩ : ∃ rec : LoopState → Option Code → Loop, rec = fun st pe => { state := st, pending := pe, fn, tmps := a.tmps, params := ps, assign, body, defers := w.heap.size } := ⟨_, rfl⟩
  obtain ⟨D, hD⟩ : ∃ D, w.heap.size = D := ⟨_, rfl⟩
  obtain ⟨L, hL⟩ : ∃ L, D + 1 = L := ⟨_, rfl⟩
  have hen : ∀ W1, (w.alloc (.deferred (some []))).alloc (.loop (rec .ready none)) = W1 → (Instr.enterLoop fn a.tmps ps assign body none).run P w = .ok (L, [{ target := .collected D, args := #[] }]) W1 := fun W1 e => by
    rw [← e, hrec, ← hL, ← hD]
    exact run_enterLoop_outer fn a.tmps ps assign body
  obtain ⟨W1, hW1⟩ : ∃ W1, (w.alloc (.deferred (some []))).alloc (.loop (rec .ready none)) = W1 := ⟨_, rfl⟩
  have hb1 : Below D w W1 := by rw [← hW1, ← hD]; exact nxAlloc (nxAlloc (nxRefl w) _) _
  have hr1 : W1.heap[L]? = some (.loop (rec .ready none)) := by
    rw [← hW1, ← hL, ← hD]
    have := World.alloc_heap_new (w.alloc (.deferred (some []))) (.loop (rec .ready none))
    rwa [World.size_alloc] at this
  have hd1 : W1.heap[D]? = some (.deferred (some [])) := by
    rw [← hW1, ← hD]
    exact (Below.heap_alloc _ _ _ (by simp)).trans (World.alloc_heap_new w _)
  have hI1 : I 0 W1 := hIb 0 w W1 h0 (by rw [hD]; exact hb1)
  -- the record and the block for the rounds' deferred calls
  let At : Loop → World → Prop := fun r W => W.heap[L]? = some (.loop r) ∧ W.heap[D]? = some (.deferred (some []))
  have hlt : ∀ {r W}, At r W → L < W.heap.size := fun h => (Array.getElem?_eq_some_iff.1 h.1).1
  have hput : ∀ {r W} (r' : Loop), At r W → At r' (W.putObj L (.loop r')) := fun r' h => ⟨World.putObj_heap_same (hlt h), (World.putObj_heap_other (by omega)).trans h.2⟩
  have hko : ∀ {r W W'}, At r W → KeepsOthers W W' → At r W' := fun h k => ⟨k.same _ _ h.1 rfl, k.same _ _ h.2 rfl⟩
  have hbe : ∀ {r W W'}, At r W → Below W.heap.size W W' → At r W' := fun h b => ⟨(b.block L (hlt h)).trans h.1, (b.block D (by have := hlt h; omega)).trans h.2⟩
  have hpb : ∀ {r W} (o' : Obj), At r W → Below B W (W.putObj L o') := fun o' h => belowK_b (w := w) hB _ L _ o' (by omega) h.1 rfl rfl
  have hpI : ∀ {r W k} (o' : Obj), At r W → I k W → I k (W.putObj L o') := fun o' h i => hIp _ _ L _ o' i (by omega) h.1 rfl
  have hpX : ∀ {r W} (o' : Obj), At r W → Ix W → Ix (W.putObj L o') := fun o' h i => hXp _ L _ o' i (by omega) h.1 rfl
  refine ⟨L, [{ target := .collected D, args := #[] }], W1, { target := .fn (.func gf) lb, args := #[.func (.yield L) #[] #[]] }, W1, gf, #[.func (.yield L) #[] #[]] ++ lb, W1, hen W1 hW1, ?_, fun _ _ => trivial, ?_, fun h => absurd h (by decide), ?_⟩
  · simp only [resolve, hg]
    simp [go_sem]
  · simp [invoke, go_sem, eg]
  refine (hseq L (fun k W => I k W ∧ At (rec .ready none) W) (fun W => Ix W ∧ At (rec .done (some .ret)) W) W1 (by rw [hD]; exact hb1) (fun k Wa Wb h b => ⟨hIb k Wa Wb h.1 b, hbe h.2 b⟩) ?_ ⟨hI1, hr1, hd1⟩).mono ?_
  · rintro k vs W hk hG ⟨hi, ha⟩ hbW
    have hy := run_yield (P := P) (args := vs) ha.1 (by rw [hrec]; exact hGs k vs W hG)
    rw [hrec] at hy
    refine ⟨fn, _, assign, body, hy, roundIn_of_wpIn hfn (wpIn_mono (hassign L k vs W hk hG hi) ?_)⟩
    intro e1 a1 W1 hq1
    have hnorm : e1 = .normal := by cases e1 <;> first | rfl | exact hq1.elim
    subst hnorm
    obtain ⟨hk1, hb1', hR1⟩ := hq1
    have ha1 := hko ha hk1
    have hbg := run_beginRound (P := P) ha1.1 (by rw [hrec])
    have ha2 := hput { rec .ready none with state := .busy } ha1
    refine ⟨_, hbg, ?_⟩
    refine wpIn_mono (hbody L k vs a1 _ hk (hRp k vs a1 W1 L _ _ hR1 (by omega) ha1.1 rfl)) ?_
    rintro e a3 W3 hp
    have hend : ∀ jump, KeepsOthers (W1.putObj L (.loop { rec .ready none with state := .busy })) W3 → (Instr.endRound L jump).run P W3 = .ok (.bool jump.isNone) (W3.putObj L (.loop (rec (if jump.isNone then .ready else .done) jump))) ∧ At { rec .ready none with state := .busy } W3 := fun jump k3 => by
      have h3 := hko ha2 k3
      have h4 := run_endRound (P := P) jump h3.1
      rw [hrec] at h4 ⊢
      exact ⟨h4, by rw [hrec] at h3; exact h3⟩
    cases e with
    | normal =>
      obtain ⟨k3, kb, i3⟩ := hp
      obtain ⟨h4, h3⟩ := hend none k3
      exact ⟨_, _, h4, .inl ⟨rfl, ⟨hpI _ h3 i3, hput _ h3⟩, ((hb1'.trans (hpb _ ha1)).trans kb).trans (hpb _ h3)⟩⟩
    | ret =>
      obtain ⟨k3, i3⟩ := hp
      obtain ⟨h4, h3⟩ := hend (some .ret) k3
      exact ⟨_, _, h4, .inr ⟨rfl, hpX _ h3 i3, hput _ h3⟩⟩
    | exit id => exact hp.elim
    | goto t => exact hp.elim
    | panic ch => exact hp.elim
    | outgrown => exact hp.elim
  · rintro e W2 ⟨⟨v, rfl⟩, ⟨⟨hi, ha⟩, -⟩ | ⟨hi, ha⟩⟩
    · have h5 := run_endLoop (P := P) ha.1 (by rw [hrec]; simp)
      rw [hrec] at h5
      refine ⟨none, _, h5, ?_⟩
      have := hdone D _ (hpI (.loop { rec .ready none with state := .exhausted }) ha hi) (hput { rec .ready none with state := .exhausted } ha).2 (by omega)
      rw [hrec] at this
      exact this
    · have h5 := run_endLoop (P := P) ha.1 (by rw [hrec]; simp)
      rw [hrec] at h5
      refine ⟨some .ret, _, h5, ?_⟩
      have := hstop D _ (hpX (.loop { rec .done (some .ret) with state := .exhausted }) ha hi) (hput { rec .done (some .ret) with state := .exhausted } ha).2 (by omega)
      rw [hrec] at this
      exact this
end
section
variable {P : Program} {F : Fence} {n : Nat}
theorem gi_load_mid {ops : Array Oper} {rest : List Oper} {op : Oper} {a : Act} {w : World} {Q : Exit → Act → World → Prop} (hF : ∀ f, F.fn f) (hgd : op.guard = none) (ty : TypeId) (x : Operand) (ho : op.op = .load ty x)
    (b o : Nat) (hx : a.eval x = .pointer (some ⟨b, o, none⟩)) (cs : List Value) (d : TypeDesc) (hc : w.rangeAt b o cs)
    (hu : P.underlying ty = some d) (hd : d.isRow = true) (hi : (P.info? ty).map (·.size) = some cs.length)
    (h : wpListIn F n P ops Q rest (a.put op.dst (.agg cs.toArray)) w) : wpListIn F n P ops Q (op :: rest) a w := by
  refine wpListIn_plain hgd fun K hK => ⟨fun f _ => hF f, ?_⟩
  rw [Oper.semAt_eq _ _ _ (by rw [ho]; intro c e; cases e)]
  unfold execOp
  simp only [ho, hx, Instr.loadAt, Instr.sureAddr, Sem.run_bind, Sem.run_pure, Result.andThen_ok, run_loadVar_mid w b o ty cs d hc hu hd hi]
  exact hK _ _ h
theorem gi_store_all {ops : Array Oper} {rest : List Oper} {op : Oper} {a : Act} {w : World} {Q : Exit → Act → World → Prop} (hF : ∀ f, F.fn f) (hgd : op.guard = none) (ty : TypeId) (x y : Operand) (ho : op.op = .store ty x y)
    (g : Nat) (t : TypeId) (old cells : Array Value) (hx : a.eval x = .pointer (some ⟨g, 0, none⟩)) (hy : a.eval y = .agg cells) (hg : Blk w g t old) (hs : old.size = cells.size)
    (hi : (P.info? ty).map (·.size) = some cells.size) (h1 : ∀ v ∈ cells.toList, v.oneCell' = true)
    (h : ∀ w', Blk w' g t cells → Keeps (· = g) w w' → w'.heap.size = w.heap.size → wpListIn F n P ops Q rest (a.put op.dst undef) w') : wpListIn F n P ops Q (op :: rest) a w := by
  refine wpListIn_plain hgd fun K hK => ⟨fun f _ => hF f, ?_⟩
  obtain ⟨w', hr, h2, h3, h4⟩ := run_storeVar_all (P := P) g t ty old cells hg hs hi h1
  rw [Oper.semAt_eq _ _ _ (by rw [ho]; intro c e; cases e)]
  unfold execOp
  simp only [ho, hx, hy, Instr.storeAt, Instr.sureAddr, Sem.run_bind, Sem.run_pure, Result.andThen_ok, hr]
  exact hK _ _ (h w' h2 h3 h4)
end
end Go.Proofs.YtndkjmmmneianaaDoor
