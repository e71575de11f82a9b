/-
  dag: one looks the same in both.
  A range over a function: the law; what is handed is laid into memory. Laws of a round's operations on whole arrays.
  dag: the hashes of a row, gone over; All.
  dag: both graphs are the same.
-/
import Derived.Test.YtbfpckomgpkjgaaGreatPRnQ18
import Derived.Test.YtbfpckomgpkjgaaGreatRw
import Derived.Test.YtbfpckomgpkjgaaGreatPRnQ5
import Derived.LoopN
namespace Go.Proofs.YtbfpckomgpkjgaaGreat
open Go.RowKit Go.Shelf

theorem bef_at {G : Gr} (o : OkG G) {id : Hh} {n k : Nat} (hp : placeG G id = some n) (hk : k < G.length) : befB G id (idG G k) = ancB G n k := by
  unfold befB ancB
  rw [hp, placeG_id o hk]
theorem bef_at2 {G : Gr} (o : OkG G) {id : Hh} {n k : Nat} (hp : placeG G id = some n) (hk : k < G.length) : befB G (idG G k) id = ancB G k n := by
  unfold befB ancB
  rw [hp, placeG_id o hk]
theorem srt_sel {G : Gr} (o : OkG G) (f g : Nat → Bool) (h : ∀ k, k < G.length → f k = g k) : srtH (((List.range G.length).filter f).map (idG G)) = risH (selL G g G.length) := by
  have e : (List.range G.length).filter f = (List.range G.length).filter g := List.filter_congr fun k hk => h k (List.mem_range.1 hk)
  unfold selL
  rw [e]
  refine srtH_nodup (nodup_map_on (fun a ha b hb e => idG_inj o (List.mem_range.1 (List.mem_filter.1 ha).1) (List.mem_range.1 (List.mem_filter.1 hb).1) e) (List.nodup_range.filter _))
theorem fut_same {G : Gr} (o : OkG G) {id : Hh} {n : Nat} (hp : placeG G id = some n) : srtH (((List.range G.length).filter (futB G (placeG G id).isSome (plE G id))).map (idG G)) = risH (selL G (fun i => befB G id (idG G i)) G.length) := by
  refine srt_sel o _ _ fun k hk => ?_
  rw [bef_at o hp hk]
  unfold futB plE
  rw [hp]
  rfl
theorem ant_same {G : Gr} (o : OkG G) {id : Hh} {n : Nat} (hp : placeG G id = some n) : srtH (((List.range G.length).filter (antB G (placeG G id).isSome (plE G id))).map (idG G)) = risH (selL G (fun i => (placeG G id).isSome && apB G id (idG G i)) G.length) := by
  refine srt_sel o _ _ fun k hk => ?_
  unfold apB antB plE
  rw [bef_at o hp hk, bef_at2 o hp hk, hp]
  have hid := (placeG_some hp).2
  have hn := (placeG_some hp).1
  have e : (k == n) = decide (id = idG G k) := by
    rw [Bool.eq_iff_iff, beq_iff_eq, decide_eq_true_eq, ← hid]
    exact ⟨fun h => by rw [h], fun h => (idG_inj o hn hk h).symm⟩
  simp only [Option.isSome_some, Bool.true_and, Option.getD_some, e]
theorem mem_psG {G : Gr} (o : OkG G) {n k : Nat} (hn : n < G.length) : idG G n ∈ psG G k ↔ n ∈ parG G k := by
  unfold psG
  rw [mem_risH, List.mem_map]
  constructor
  · rintro ⟨q, hq, e⟩
    have := idG_inj o (Nat.lt_trans (o.par k q hq) (parG_lt hq)) hn e
    rwa [← this]
  · intro h
    exact ⟨n, h, rfl⟩
theorem kid_same {m : GrM} {G : Gr} (hg : GrI0 m G) {id : Hh} {n : Nat} (hp : placeG G id = some n) : srtH ((kidP m n).map (idG G)) = risH (selL G (fun i => decide (id ∈ psG G i)) G.length) := by
  have o := hg.ok
  have hn := (placeG_some hp).1
  have hid := (placeG_some hp).2
  have hlt : ∀ p ∈ kidP m n, p < G.length := fun p h => parG_lt ((mem_kidP hg hn).1 h)
  rw [srtH_nodup (nodup_map_on (fun a ha b hb e => idG_inj o (hlt a ha) (hlt b hb) e) (kidP_nodup hg hn))]
  refine risH_eq fun x => ?_
  unfold selL
  rw [List.mem_map, List.mem_map]
  constructor
  · rintro ⟨p, h, rfl⟩
    refine ⟨p, List.mem_filter.2 ⟨List.mem_range.2 (hlt p h), decide_eq_true ?_⟩, rfl⟩
    rw [← hid, mem_psG o hn]
    exact (mem_kidP hg hn).1 h
  · rintro ⟨p, h, rfl⟩
    obtain ⟨_, h2⟩ := List.mem_filter.1 h
    have h3 := of_decide_eq_true h2
    rw [← hid, mem_psG o hn] at h3
    exact ⟨p, (mem_kidP hg hn).2 h3, rfl⟩
theorem par_same {G : Gr} (o : OkG G) (n : Nat) : srtH ((parG G n).map (idG G)) = psG G n := by
  unfold psG
  exact srtH_nodup (nodup_map_on (fun a ha b hb e => idG_inj o (Nat.lt_trans (o.par n a ha) (parG_lt ha)) (Nat.lt_trans (o.par n b hb) (parG_lt hb)) e) (o.dis n))
theorem tip_same {G : Gr} (o : OkG G) : srtH (((List.range G.length).filter (tipB G)).map (idG G)) = risH (selL G (fun i => decide ((risH (selL G (fun k => decide (idG G i ∈ psG G k)) G.length)).length = 0)) G.length) := by
  refine srt_sel o _ _ fun k hk => ?_
  rw [Bool.eq_iff_iff, decide_eq_true_eq]
  unfold tipB
  rw [@decide_eq_true_iff _ (Classical.propDecidable _)]
  constructor
  · intro h
    have : selL G (fun j => decide (idG G k ∈ psG G j)) G.length = [] := by
      unfold selL
      rw [List.map_eq_nil_iff, List.filter_eq_nil_iff]
      intro j _ hj
      exact h j ((mem_psG o hk).1 (of_decide_eq_true hj))
    rw [this]; rfl
  · intro h j hj
    have hjl := parG_lt hj
    have h1 : idG G j ∈ risH (selL G (fun j => decide (idG G k ∈ psG G j)) G.length) := by
      rw [mem_risH]
      unfold selL
      exact List.mem_map.2 ⟨j, List.mem_filter.2 ⟨List.mem_range.2 hjl, decide_eq_true ((mem_psG o hk).2 hj)⟩, rfl⟩
    rw [List.eq_nil_of_length_eq_zero h] at h1
    exact absurd h1 List.not_mem_nil
theorem past_none {G : Gr} {id : Hh} (hp : placeG G id = none) : pastG G [id] = [] := by
  refine List.eq_nil_iff_forall_not_mem.2 fun x hx => ?_
  obtain ⟨a, ha, ⟨z, hz, n, hn, _⟩, _⟩ := mem_ansG.1 hx
  rw [List.mem_singleton] at hz
  subst hz
  rw [hp] at hn
  cases hn
theorem flt_none {G : Gr} (f : Nat → Bool) (h : ∀ k, f k = false) : srtH (((List.range G.length).filter f).map (idG G)) = [] := by
  have : (List.range G.length).filter f = [] := by
    rw [List.filter_eq_nil_iff]
    intro k _ hk
    rw [h k] at hk
    cases hk
  rw [this]
  simp [srtH]
end Go.Proofs.YtbfpckomgpkjgaaGreat

namespace Go.Proofs.YtbfpckomgpkjgaaGreat
open Go.RowKit Go.Shelf

section
variable {P : Program}
theorem wpIn_rangeW2 {n : Nat} {g : Operand} {ps : Array Tmp} {assign body : Code} {Q : Exit → Act → World → Prop} {a : Act} {w : World} {gf : Nat} {lb : Array Value}
    (hg : a.eval g = .func (.func gf) #[] lb) (eg : ∀ args w, (callFunc gf args).run P w = .ok (.enter gf args) w)
    (N B : Nat) (hB : B ≤ w.heap.size) (G : Nat → Array Value → World → Prop) (I : Nat → World → Prop) (Ix : World → Prop)
    (hseq : ∀ (l : Nat) (J : Nat → World → Prop) (Jx : World → Prop) (W : World), Below w.heap.size w W → (∀ k W1 W2, J k W1 → Below W1.heap.size W1 W2 → J k W2) →
      (∀ k vs W1, k < N → G k vs W1 → J k W1 → Below B W W1 → YieldAt Fence.wide (n - 1 - 1) P l vs W1 fun e W' => (e = .returned (.bool true) ∧ J (k + 1) W' ∧ Below B W1 W') ∨ (e = .returned (.bool false) ∧ Jx W')) →
      J 0 W → CallsIn Fence.wide (n - 1) P gf (#[.func (.yield l) #[] #[]] ++ lb) W fun e W' => (∃ v, e = .returned v) ∧ ((J N W' ∧ Below B W W') ∨ Jx W'))
    (hGs : ∀ k vs W, G k vs W → vs.size = ps.size) (hGp : ∀ k vs W l r o', G k vs W → W.heap[l]? = some (.loop r) → G k vs (W.putObj l o'))
    (h0 : I 0 w) (hIb : ∀ k W W', I k W → Below W.heap.size W W' → I k W') (hIp : ∀ k W l o o', I k W → w.heap.size ≤ l → W.heap[l]? = some o → o.isCells = false → I k (W.putObj l o'))
    (hXp : ∀ W l o o', Ix W → w.heap.size ≤ l → W.heap[l]? = some o → o.isCells = false → Ix (W.putObj l o'))
    (R : Nat → Array Value → Act → World → Prop)
    (hassign : ∀ (l k : Nat) (vs : Array Value) (W : World), k < N → G k vs W → I k W → 
      assign.wpIn (Fence.wide.inRound l) (n - 1 - 1) P (Exit.then (fun a1 W1 => KeepsOthers W W1 ∧ Below B W W1 ∧ R k vs a1 W1) (fun _ _ _ => False)) { tmps := (ps.zip vs).foldl (fun t (p, v) => t.setIfInBounds p v) a.tmps, defers := [] } W)
    (hRp : ∀ k vs a1 W l o o', R k vs a1 W → w.heap.size ≤ l → W.heap[l]? = some o → o.isCells = false → R k vs a1 (W.putObj l o'))
    (hbody : ∀ (l k : Nat) (vs : Array Value) (a1 : Act) (W : World), k < N → R k vs a1 W → body.wpIn (Fence.wide.inRound l) (n - 1 - 1) P (leftW I Ix B k W) a1 W)
    (hdone : ∀ (D : Nat) (W : World), I N W → W.heap[D]? = some (.deferred (some [])) → w.heap.size ≤ D → Q .normal { a with defers := { target := .collected D, args := #[] } :: a.defers } W)
    (hstop : ∀ (D : Nat) (W : World), Ix W → W.heap[D]? = some (.deferred (some [])) → w.heap.size ≤ D → Code.ret.wpIn Fence.wide n P Q { a with defers := { target := .collected D, args := #[] } :: a.defers } W) :
    (Code.rangeFunc g ps assign body).wpIn Fence.wide n P Q a w := by
  refine wpIn_rangeFunc fun fn hfn => ?_
  obtain ⟨rec, hrec⟩ : ∃ rec : LoopState → Option Code → Loop, rec = fun st pe => { state := st, pending := pe, fn, tmps := a.tmps, params := ps, assign, body, defers := w.heap.size } := ⟨_, rfl⟩
  obtain ⟨D, hD⟩ : ∃ D, w.heap.size = D := ⟨_, rfl⟩
  obtain ⟨L, hL⟩ : ∃ L, D + 1 = L := ⟨_, rfl⟩
  have hen : ∀ W1, (w.alloc (.deferred (some []))).alloc (.loop (rec .ready none)) = W1 → (Instr.enterLoop fn a.tmps ps assign body none).run P w = .ok (L, [{ target := .collected D, args := #[] }]) W1 := fun W1 e => by
    rw [← e, hrec, ← hL, ← hD]
    exact run_enterLoop_outer fn a.tmps ps assign body
  obtain ⟨W1, hW1⟩ : ∃ W1, (w.alloc (.deferred (some []))).alloc (.loop (rec .ready none)) = W1 := ⟨_, rfl⟩
  have hb1 : Below D w W1 := by rw [← hW1, ← hD]; exact nxAlloc (nxAlloc (nxRefl w) _) _
  have hr1 : W1.heap[L]? = some (.loop (rec .ready none)) := by
    rw [← hW1, ← hL, ← hD]
    have := World.alloc_heap_new (w.alloc (.deferred (some []))) (.loop (rec .ready none))
    rwa [World.size_alloc] at this
  have hd1 : W1.heap[D]? = some (.deferred (some [])) := by
    rw [← hW1, ← hD]
    exact (Below.heap_alloc _ _ _ (by simp)).trans (World.alloc_heap_new w _)
  have hI1 : I 0 W1 := hIb 0 w W1 h0 (by rw [hD]; exact hb1)
  -- the record and the block for the rounds' deferred calls
  let At : Loop → World → Prop := fun r W => W.heap[L]? = some (.loop r) ∧ W.heap[D]? = some (.deferred (some []))
  have hlt : ∀ {r W}, At r W → L < W.heap.size := fun h => (Array.getElem?_eq_some_iff.1 h.1).1
  have hput : ∀ {r W} (r' : Loop), At r W → At r' (W.putObj L (.loop r')) := fun r' h => ⟨World.putObj_heap_same (hlt h), (World.putObj_heap_other (by omega)).trans h.2⟩
  have hko : ∀ {r W W'}, At r W → KeepsOthers W W' → At r W' := fun h k => ⟨k.same _ _ h.1 rfl, k.same _ _ h.2 rfl⟩
  have hbe : ∀ {r W W'}, At r W → Below W.heap.size W W' → At r W' := fun h b => ⟨(b.block L (hlt h)).trans h.1, (b.block D (by have := hlt h; omega)).trans h.2⟩
  have hpb : ∀ {r W} (o' : Obj), At r W → Below B W (W.putObj L o') := fun o' h => belowK_b (w := w) hB _ L _ o' (by omega) h.1 rfl rfl
  have hpI : ∀ {r W k} (o' : Obj), At r W → I k W → I k (W.putObj L o') := fun o' h i => hIp _ _ L _ o' i (by omega) h.1 rfl
  have hpX : ∀ {r W} (o' : Obj), At r W → Ix W → Ix (W.putObj L o') := fun o' h i => hXp _ L _ o' i (by omega) h.1 rfl
  refine ⟨L, [{ target := .collected D, args := #[] }], W1, { target := .fn (.func gf) lb, args := #[.func (.yield L) #[] #[]] }, W1, gf, #[.func (.yield L) #[] #[]] ++ lb, W1, hen W1 hW1, ?_, fun _ _ => trivial, ?_, fun h => absurd h (by decide), ?_⟩
  · simp only [resolve, hg]
    simp [go_sem]
  · simp [invoke, go_sem, eg]
  refine (hseq L (fun k W => I k W ∧ At (rec .ready none) W) (fun W => Ix W ∧ At (rec .done (some .ret)) W) W1 (by rw [hD]; exact hb1) (fun k Wa Wb h b => ⟨hIb k Wa Wb h.1 b, hbe h.2 b⟩) ?_ ⟨hI1, hr1, hd1⟩).mono ?_
  · rintro k vs W hk hG ⟨hi, ha⟩ hbW
    have hy := run_yield (P := P) (args := vs) ha.1 (by rw [hrec]; exact hGs k vs W hG)
    rw [hrec] at hy
    refine ⟨fn, _, assign, body, hy, roundIn_of_wpIn hfn (wpIn_mono (hassign L k vs W hk hG hi) ?_)⟩
    intro e1 a1 W1 hq1
    have hnorm : e1 = .normal := by cases e1 <;> first | rfl | exact hq1.elim
    subst hnorm
    obtain ⟨hk1, hb1', hR1⟩ := hq1
    have ha1 := hko ha hk1
    have hbg := run_beginRound (P := P) ha1.1 (by rw [hrec])
    have ha2 := hput { rec .ready none with state := .busy } ha1
    refine ⟨_, hbg, ?_⟩
    refine wpIn_mono (hbody L k vs a1 _ hk (hRp k vs a1 W1 L _ _ hR1 (by omega) ha1.1 rfl)) ?_
    rintro e a3 W3 hp
    have hend : ∀ jump, KeepsOthers (W1.putObj L (.loop { rec .ready none with state := .busy })) W3 → (Instr.endRound L jump).run P W3 = .ok (.bool jump.isNone) (W3.putObj L (.loop (rec (if jump.isNone then .ready else .done) jump))) ∧ At { rec .ready none with state := .busy } W3 := fun jump k3 => by
      have h3 := hko ha2 k3
      have h4 := run_endRound (P := P) jump h3.1
      rw [hrec] at h4 ⊢
      exact ⟨h4, by rw [hrec] at h3; exact h3⟩
    cases e with
    | normal =>
      obtain ⟨k3, kb, i3⟩ := hp
      obtain ⟨h4, h3⟩ := hend none k3
      exact ⟨_, _, h4, .inl ⟨rfl, ⟨hpI _ h3 i3, hput _ h3⟩, ((hb1'.trans (hpb _ ha1)).trans kb).trans (hpb _ h3)⟩⟩
    | ret =>
      obtain ⟨k3, i3⟩ := hp
      obtain ⟨h4, h3⟩ := hend (some .ret) k3
      exact ⟨_, _, h4, .inr ⟨rfl, hpX _ h3 i3, hput _ h3⟩⟩
    | exit id => exact hp.elim
    | goto t => exact hp.elim
    | panic ch => exact hp.elim
    | outgrown => exact hp.elim
  · rintro e W2 ⟨⟨v, rfl⟩, ⟨⟨hi, ha⟩, -⟩ | ⟨hi, ha⟩⟩
    · have h5 := run_endLoop (P := P) ha.1 (by rw [hrec]; simp)
      rw [hrec] at h5
      refine ⟨none, _, h5, ?_⟩
      have := hdone D _ (hpI (.loop { rec .ready none with state := .exhausted }) ha hi) (hput { rec .ready none with state := .exhausted } ha).2 (by omega)
      rw [hrec] at this
      exact this
    · have h5 := run_endLoop (P := P) ha.1 (by rw [hrec]; simp)
      rw [hrec] at h5
      refine ⟨some .ret, _, h5, ?_⟩
      have := hstop D _ (hpX (.loop { rec .done (some .ret) with state := .exhausted }) ha hi) (hput { rec .done (some .ret) with state := .exhausted } ha).2 (by omega)
      rw [hrec] at this
      exact this
end
section
variable {P : Program} {F : Fence} {n : Nat}
theorem gi_load_mid {ops : Array Oper} {rest : List Oper} {op : Oper} {a : Act} {w : World} {Q : Exit → Act → World → Prop} (hF : ∀ f, F.fn f) (hgd : op.guard = none) (ty : TypeId) (x : Operand) (ho : op.op = .load ty x)
    (b o : Nat) (hx : a.eval x = .pointer (some ⟨b, o, none⟩)) (cs : List Value) (d : TypeDesc) (hc : w.rangeAt b o cs)
    (hu : P.underlying ty = some d) (hd : d.isRow = true) (hi : (P.info? ty).map (·.size) = some cs.length)
    (h : wpListIn F n P ops Q rest (a.put op.dst (.agg cs.toArray)) w) : wpListIn F n P ops Q (op :: rest) a w := by
  refine wpListIn_plain hgd fun K hK => ⟨fun f _ => hF f, ?_⟩
  rw [Oper.semAt_eq _ _ _ (by rw [ho]; intro c e; cases e)]
  unfold execOp
  simp only [ho, hx, Instr.loadAt, Instr.sureAddr, Sem.run_bind, Sem.run_pure, Result.andThen_ok, run_loadVar_mid w b o ty cs d hc hu hd hi]
  exact hK _ _ h
theorem gi_store_all {ops : Array Oper} {rest : List Oper} {op : Oper} {a : Act} {w : World} {Q : Exit → Act → World → Prop} (hF : ∀ f, F.fn f) (hgd : op.guard = none) (ty : TypeId) (x y : Operand) (ho : op.op = .store ty x y)
    (g : Nat) (t : TypeId) (old cells : Array Value) (hx : a.eval x = .pointer (some ⟨g, 0, none⟩)) (hy : a.eval y = .agg cells) (hg : Blk w g t old) (hs : old.size = cells.size)
    (hi : (P.info? ty).map (·.size) = some cells.size) (h1 : ∀ v ∈ cells.toList, v.oneCell' = true)
    (h : ∀ w', Blk w' g t cells → Keeps (· = g) w w' → w'.heap.size = w.heap.size → wpListIn F n P ops Q rest (a.put op.dst undef) w') : wpListIn F n P ops Q (op :: rest) a w := by
  refine wpListIn_plain hgd fun K hK => ⟨fun f _ => hF f, ?_⟩
  obtain ⟨w', hr, h2, h3, h4⟩ := run_storeVar_all (P := P) g t ty old cells hg hs hi h1
  rw [Oper.semAt_eq _ _ _ (by rw [ho]; intro c e; cases e)]
  unfold execOp
  simp only [ho, hx, hy, Instr.storeAt, Instr.sureAddr, Sem.run_bind, Sem.run_pure, Result.andThen_ok, hr]
  exact hK _ _ (h w' h2 h3 h4)
end
end Go.Proofs.YtbfpckomgpkjgaaGreat

namespace Go.Proofs.YtbfpckomgpkjgaaGreat
open Go.RowKit Go.Shelf

section
set_option maxRecDepth 100000
set_option maxHeartbeats 4000000
end
end Go.Proofs.YtbfpckomgpkjgaaGreat

namespace Go.Proofs.YtbfpckomgpkjgaaGreat
open Go.RowKit Go.Shelf

theorem name_actIn {F : Fence} {n : Nat} {P : Program} {c : Code} {Q : Exit → Act → World → Prop} {a : Act} {w : World} (h : ∀ a0, a0 = a → c.wpIn F n P Q a0 w) : c.wpIn F n P Q a w := h a rfl
theorem nxDrN8 {w W : World} (h : Below w.heap.size w W) (n : Nat) : Below w.heap.size w (W.drewN n) := ⟨h.os, h.tape, h.output, h.size, h.block⟩
theorem wp_noQD {P : Program} {c : Code} {K : Act → World → Prop} {Q' : Exit → Act → World → Prop} {a : Act} {w : World} (h : c.wp P (Exit.then K (fun _ _ _ => False)) a w) : c.wp P (Exit.then K Q') a w :=
  wp_mono h (by intro e a' w' hq; cases e <;> first | exact hq | exact hq.elim)
theorem results_cellb {P : Program} {fn : Func} {p : Tmp} {ty : TypeId} (h : fn.results = #[.cell p ty]) (tmps : Array Value) (w : World) (g : Nat) (v : Value) (hp : tmps.getD p undef = .pointer (some ⟨g, 0, none⟩)) (hl : (loadVar ty ⟨g, 0, none⟩).run P w = .ok v w) :
    (results fn tmps).run P w = .ok v w := by
  have hp' : tmps[p]?.getD undef = .pointer (some ⟨g, 0, none⟩) := by simpa using hp
  simp [results, h, hp', asAddr, hl]
theorem RGd.nodes {w : World} {base : Nat} {r : RGm} {G : Gr} (h : RGd w base r G) (h0 : 0 < G.length) : ∃ b f, w.cell? ⟨r.q, 0, none⟩ = some (.slice (some ⟨b, f, none⟩) G.length r.c) ∧ b < w.heap.size ∧ ∀ i, i < G.length → w.rangeAt b (f + i * 33) (hC (idG G i)) := by
  obtain ⟨b, f, A, c, h1, h2, _, _, _⟩ := h.node h0
  refine ⟨b, f, h1, h2, fun i hi => ?_⟩
  obtain ⟨b', f', A', c', h1', _, h3, _, _⟩ := h.node hi
  rw [h1] at h1'
  injection h1' with h1'
  injection h1' with h1'
  injection h1' with h1'
  injection h1' with e1 e2
  subst e1
  subst e2
  exact h3
section
attribute [local go_sem] Oper.semAt_some
end
end Go.Proofs.YtbfpckomgpkjgaaGreat
