/-
  disk: the steps that wait: what they do to logs.
-/
import Derived.Test.YthamlphebnhcpaaDoorDk2
namespace Go.Proofs.YthamlphebnhcpaaDoor
open Go.RowKit

theorem low_sliceD {w : World} {B : Nat} {A : Option Addr} {l : List UInt8} {c : Nat} (h : Sees w B A l) (hc : l.length ≤ c) (hm : c ≤ maxLen) (k : Nat) (hk : k ≤ l.length) :
    ∃ A1, Sees w B A1 (l.take k) ∧ ∀ wq, (Instr.slice 39 (.slice A l.length c) none (some (.int .i64 (k : Int))) none).run Tryd.prog wq = .ok (.slice A1 k c) wq := by
  obtain ⟨i0, hi, _, hz1, _⟩ := infoD Tryd.u8info
  unfold maxLen at hm
  refine ⟨if c = 0 then A else A.map (·.add (0 * 1)), ?_, fun wq => ?_⟩
  · split
    · exact h.take _
    · have := (h.drop 0).take k
      simpa using this
  · simp [Instr.slice, run_underlying Tryd.underlying39, Instr.sliceBounds, run_sliceBound wq .i64 (k : Int) c _ (by omega) (by omega), sizeOf, typeInfo, hi, hz1]
theorem step_append_seesD {P : Program} {w : World} {ops : Array Oper} {o : Oper} {a : Act} {K : Act → World → Prop} {Q : Exit → Act → World → Prop} {E : Prop} (hgd : o.guard = none) (s x : Operand) (t : TypeId)
    (ho : o.op = .call { callee := .builtin .append, args := #[s, x], argTypes := #[t, t] })
    (base : Nat) (e : TypeId) (i : TypeInfo) (z : Value) (ht : P.underlying t = some (.slice e)) (hi : P.info? e = some i) (hz : i.zero = some z)
    (hsize : i.size = 1) (hby : i.bytes = 1) (hzs : z.cells.size = 1)
    (v : Value) (n : Nat) (xs : List Value) (hs : a.eval s = v) (hown : w.ownsRow base e 1 v n xs)
    (B : Nat) (A : Option Addr) (m c : Nat) (l : List UInt8) (hx : a.eval x = .slice A m c) (hm : m = l.length) (hse : Sees w B A l) (hbytes : n + m ≤ 140737488355328) (hbase : base ≤ w.heap.size)
    (h : ∀ v' w', w'.ownsRow base e 1 v' (n + m) (xs ++ By l) → w.grownBy w' v.ownBlock → (v'.ownBlock = v.ownBlock ∨ v'.ownBlock = some w.heap.size) → K (a.put o.dst v') w') :
    if Region.wanted o (yielded ops a.tmps) = true then Oper.wp P o a w K Q else E := by
  have hw : Region.wanted o (yielded ops a.tmps) = true := by simp [Region.wanted, hgd]
  rw [if_pos hw]
  obtain ⟨v', w', hr, h2, h3, h4⟩ := run_append_sees (P := P) base t o.type e i z ht hi hz hsize hby hzs v n xs hown B A m c l hm hse hbytes hbase
  unfold Oper.wp execOp
  simp only [ho, resolve, invoke, builtin, Sem.run_bind, Sem.run_pure, Result.andThen_ok, List.map_toArray, List.map_cons, List.map_nil, hs, hx, hr]
  exact h v' w' h2 h3 h4
/-- What a step leaves: the row another one. -/
structure RowTo (w : World) (g k : Nat) (cs : Array Value) (r : RowM) (l : List UInt8) (w' : World) (r' : RowM) : Prop where
  l : r'.l = l
  b : Blk w' g 54 (cs.setIfInBounds k r'.v)
  o : r'.own w'
  n : r'.bk = r.bk ∨ r'.bk = none ∨ ∃ j, r'.bk = some j ∧ w.heap.size ≤ j
  k : Keeps (fun j => j = g ∨ r.bk = some j) w w'

set_option maxHeartbeats 1000000 in
set_option maxRecDepth 100000 in
theorem put1_any (w : World) (g a i nn : Nat) (cs : Array Value) (r : RowM) (b : List UInt8) (p0 p1 pf c : Nat) (A : Option Addr) (hB : Blk w g 54 cs) (hi : i < 16) (hc : cs[a + i]? = some r.v) (ho : r.own w) (hp : PutOk w i b p0 p1 pf A c)
    (hn : nn ≤ b.length) (hl : r.l.length + nn ≤ 100000000) : Calls Tryd.prog 76 #[.pointer (some ⟨g, a, none⟩), .int .i64 (nn : Int), ptrD p0, ptrD p1] w fun e w' => e = .returned (.tuple #[]) ∧ ∃ r', RowTo w g (a + i) cs r (r.l ++ b.take nn) w' r' := by
  obtain ⟨A1, hs1, hsl⟩ := low_sliceD hp.l hp.cl hp.cm nn hn
  have HC0 : Hid (w.cell? ⟨p0, 0, none⟩ = some (.int .i64 (i : Int))) := hp.a.cell 0
  have HC1 : Hid (w.cell? ⟨p1, 0, none⟩ = some (.slice A b.length c)) := hp.s.cell 0
  have HC2 : Hid (w.cell? ⟨g, a + i, none⟩ = some (.slice r.A r.l.length r.c)) := (hB.cell (a + i)).trans hc
  have HS := Lib.hid hs1
  have HB := Lib.hid hB
  have HO : Hid (w.ownsRow 0 5 1 (.slice r.A r.l.length r.c) r.l.length (By r.l)) := ho
  have HN0 : Hid (∀ j, r.bk = some j → j ≠ g ∧ j ≠ p0 ∧ j ≠ p1) := fun j e => by
    have e2 : r.v.ownBlock = some j := by rw [RowM.v, own_blkD]; exact e
    exact ⟨fun h => hB.notOwn ho (by decide) (by rw [e2, h]), fun h => hp.a.notOwn ho (by decide) (by rw [e2, h]), fun h => hp.s.notOwn ho (by decide) (by rw [e2, h])⟩
  have HL : Hid (g < w.heap.size ∧ p0 < w.heap.size ∧ p1 < w.heap.size) := ⟨hB.lt, hp.a.lt, hp.s.lt⟩
  have HTl : Hid ((b.take nn).length = nn) := by show _ = _; rw [List.length_take]; omega
  have HLl := Lib.hid hl
  have hi2 : (i : Int) < 16 := by omega
  obtain ⟨q, hq⟩ : ∃ q, b.take nn = q := ⟨_, rfl⟩
  rw [hq] at HS HTl ⊢
  obtain ⟨i0, hi0, hz0, hz1, hz2⟩ := infoD Tryd.u8info
  have HI0 := Lib.hid hi0
  have HSZ : Hid ((Tryd.prog.info? 39).map (·.size) = some 1) := by show _ = _; kernel_rfl
  obtain ⟨ll, hll⟩ : ∃ n, r.l.length = n := ⟨_, rfl⟩
  rw [hll] at HC2 HO HLl
  clear hp hs1 hB ho hc hq hl hn hi0
  unfold ptrD
  go_enter Tryd.func76, Tryd.ntmps76
  refine wp_region_K (fun W => W.cell? ⟨p0, 0, none⟩ = some (.int .i64 (i : Int)) ∧ W.cell? ⟨p1, 0, none⟩ = some (.slice A b.length c) ∧ W.cell? ⟨g, a + i, none⟩ = some (.slice r.A ll r.c)) 13 (by kernel_rfl) ⟨HC0.out, HC1.out, HC2.out⟩ (fun hSn => ?_)
  refine wpAnyK_pure (i := 0) (oi := ⟨_, _, _, _, _, _⟩) (v := ?_) rfl (by kernel_rfl) (by kernel_rfl) (by kernel_rfl) rfl (fun _ _ _ h => h) (Or.inl ⟨by rfl, ?_⟩) hSn ?_
  rotate_left 1
  · intro W hSw
    go_simp
    try with_reducible rfl
  replace hSn := (KT.set (i := 0) (by decide)).2 hSn
  try simp only [Act.put, List.setIfInBounds_toArray, List.set_cons_zero, List.set_cons_succ]
  refine wpAnyK_chain (i := 1) [12, 13] (oi := ⟨_, _, _, _, _, _⟩) (v := ?_) rfl (by kernel_rfl) (by kernel_rfl) (by kernel_rfl) rfl (by kernel_rfl) (by kernel_rfl) (by kernel_rfl) (fun _ _ _ h => h) (Or.inl ⟨by rfl, ?_⟩) hSn ?_
  rotate_left 1
  · intro W hSw
    try dsimp only at hSw
    obtain ⟨hs1, hs2, hs3⟩ := hSw
    go_simp
    try with_reducible rfl
  replace hSn := (KT.set (i := 1) (by decide)).2 hSn
  try simp only [Act.put, List.setIfInBounds_toArray, List.set_cons_zero, List.set_cons_succ]
  refine wpAnyK_pure (i := 2) (oi := ⟨_, _, _, _, _, _⟩) (v := ?_) rfl (by kernel_rfl) (by kernel_rfl) (by kernel_rfl) rfl (fun _ _ _ h => h) (Or.inl ⟨by rfl, ?_⟩) hSn ?_
  rotate_left 1
  · intro W hSw
    go_simp
    try with_reducible rfl
  replace hSn := (KT.set (i := 2) (by decide)).2 hSn
  try simp only [Act.put, List.setIfInBounds_toArray, List.set_cons_zero, List.set_cons_succ]
  refine wpAnyK_chain (i := 3) [5, 6, 10, 13] (oi := ⟨_, _, _, _, _, _⟩) (v := ?_) rfl (by kernel_rfl) (by kernel_rfl) (by kernel_rfl) rfl (by kernel_rfl) (by kernel_rfl) (by kernel_rfl) (fun _ _ _ h => h) (Or.inl ⟨by rfl, ?_⟩) hSn ?_
  rotate_left 1
  · intro W hSw
    try dsimp only at hSw
    obtain ⟨hs1, hs2, hs3⟩ := hSw
    go_simp
    try with_reducible rfl
  replace hSn := (KT.set (i := 3) (by decide)).2 hSn
  try simp only [Act.put, List.setIfInBounds_toArray, List.set_cons_zero, List.set_cons_succ]
  refine wpAnyK_pure (i := 4) (oi := ⟨_, _, _, _, _, _⟩) (v := ?_) rfl (by kernel_rfl) (by kernel_rfl) (by kernel_rfl) rfl (fun _ _ _ h => h) (Or.inl ⟨by rfl, ?_⟩) hSn ?_
  rotate_left 1
  · intro W hSw
    go_simp
    try with_reducible rfl
  replace hSn := (KT.set (i := 4) (by decide)).2 hSn
  try simp only [Act.put, List.setIfInBounds_toArray, List.set_cons_zero, List.set_cons_succ]
  refine wpAnyK_pure (i := 5) (oi := ⟨_, _, _, _, _, _⟩) (v := ?_) rfl (by kernel_rfl) (by kernel_rfl) (by kernel_rfl) rfl (fun _ _ _ h => h) (Or.inl ⟨by rfl, ?_⟩) hSn ?_
  rotate_left 1
  · intro W hSw
    go_simp
    try with_reducible rfl
  replace hSn := (KT.set (i := 5) (by decide)).2 hSn
  try simp only [Act.put, List.setIfInBounds_toArray, List.set_cons_zero, List.set_cons_succ]
  refine wpAnyK_chain (i := 6) [10, 13] (oi := ⟨_, _, _, _, _, _⟩) (v := ?_) rfl (by kernel_rfl) (by kernel_rfl) (by kernel_rfl) rfl (by kernel_rfl) (by kernel_rfl) (by kernel_rfl) (fun _ _ _ h => h) (Or.inl ⟨by rfl, ?_⟩) hSn ?_
  rotate_left 1
  · intro W hSw
    try dsimp only at hSw
    obtain ⟨hs1, hs2, hs3⟩ := hSw
    go_simp
    try with_reducible rfl
  replace hSn := (KT.set (i := 6) (by decide)).2 hSn
  try simp only [Act.put, List.setIfInBounds_toArray, List.set_cons_zero, List.set_cons_succ]
  refine wpAnyK_chain (i := 7) [9, 10, 13] (oi := ⟨_, _, _, _, _, _⟩) (v := ?_) rfl (by kernel_rfl) (by kernel_rfl) (by kernel_rfl) rfl (by kernel_rfl) (by kernel_rfl) (by kernel_rfl) (fun _ _ _ h => h) (Or.inl ⟨by rfl, ?_⟩) hSn ?_
  rotate_left 1
  · intro W hSw
    try dsimp only at hSw
    obtain ⟨hs1, hs2, hs3⟩ := hSw
    go_simp
    try with_reducible rfl
  replace hSn := (KT.set (i := 7) (by decide)).2 hSn
  try simp only [Act.put, List.setIfInBounds_toArray, List.set_cons_zero, List.set_cons_succ]
  refine wpAnyK_pure (i := 8) (oi := ⟨_, _, _, _, _, _⟩) (v := ?_) rfl (by kernel_rfl) (by kernel_rfl) (by kernel_rfl) rfl (fun _ _ _ h => h) (Or.inl ⟨by rfl, ?_⟩) hSn ?_
  rotate_left 1
  · intro W hSw
    go_simp
    try with_reducible rfl
  replace hSn := (KT.set (i := 8) (by decide)).2 hSn
  try simp only [Act.put, List.setIfInBounds_toArray, List.set_cons_zero, List.set_cons_succ]
  refine wpAnyK_pure (i := 9) (oi := ⟨_, _, _, _, _, _⟩) (v := ?_) rfl (by kernel_rfl) (by kernel_rfl) (by kernel_rfl) rfl (fun _ _ _ h => h) (Or.inl ⟨by rfl, ?_⟩) hSn ?_
  rotate_left 1
  · intro W hSw
    go_simp
    try with_reducible rfl
  replace hSn := (KT.set (i := 9) (by decide)).2 hSn
  try simp only [Act.put, List.setIfInBounds_toArray, List.set_cons_zero, List.set_cons_succ]
  refine wpAnyK_pure (i := 11) (oi := ⟨_, _, _, _, _, _⟩) (v := ?_) rfl (by kernel_rfl) (by kernel_rfl) (by kernel_rfl) rfl (fun _ _ _ h => h) (Or.inl ⟨by rfl, ?_⟩) hSn ?_
  rotate_left 1
  · intro W hSw
    go_simp
    try with_reducible rfl
  replace hSn := (KT.set (i := 11) (by decide)).2 hSn
  try simp only [Act.put, List.setIfInBounds_toArray, List.set_cons_zero, List.set_cons_succ]
  clear hSn
  refine wpAnyK_ready (rs := [10]) (by kernel_rfl) (by simp) ?_
  refine AllReadyK.cons rfl (fun K hK => ?_) AllReadyK.nil
  refine step_append_seesD (o := ⟨some 16, _, _, _, _, _⟩) rfl (.tmp 12) (.tmp 15) 39 rfl 0 5 i0 _ Tryd.underlying39 HI0.out hz0 hz1 hz2 rfl (.slice r.A ll r.c) ll (By r.l) rfl HO.out w.heap.size A1 nn c q rfl HTl.out.symm HS.out (by have := HLl.out; omega) (Nat.zero_le _) ?_
  intro v3 w3 h1 h2 h3
  have O3 := Lib.hid h1
  have G3 := Lib.hid h2
  have N3 := Lib.hid h3
  clear h1 h2 h3
  have K3 : Hid (Keeps (fun j => r.bk = some j) w w3) := Keeps.grown (Keeps.refl (fun j => r.bk = some j) w).drew G3.out (fun k e => by rw [own_blkD] at e; exact e)
  have c30 := (K3.out.cell (p := ⟨p0, 0, none⟩) HL.out.2.1 (fun e => (HN0.out _ e).2.1 rfl)).trans HC0.out
  have c31 := (K3.out.cell (p := ⟨p1, 0, none⟩) HL.out.2.2 (fun e => (HN0.out _ e).2.2 rfl)).trans HC1.out
  have B3 := Lib.hid (HB.out.keeps K3.out (fun e => (HN0.out _ e).1 rfl))
  have c32 := (B3.out.cell (a + i)).trans ((HB.out.cell (a + i)).symm.trans HC2.out)
  obtain ⟨A3, c3, rfl⟩ := own_form O3.out
  refine hK.out _ _ (fun _ => ⟨c30, c31, c32⟩) (fun hSn => ?_)
  clear hK K
  try simp only [Act.put, List.setIfInBounds_toArray, List.set_cons_zero, List.set_cons_succ]
  have f32 : w3.frozen? ⟨g, a + i, none⟩ = false := B3.out.frozen _
  refine wpAnyK_pure (i := 12) (oi := ⟨_, _, _, _, _, _⟩) (v := ?_) rfl (by kernel_rfl) (by kernel_rfl) (by kernel_rfl) rfl (fun _ _ _ h => h) (Or.inl ⟨by rfl, ?_⟩) hSn ?_
  rotate_left 1
  · intro W hSw
    go_simp
    try with_reducible rfl
  replace hSn := (KT.set (i := 12) (by decide)).2 hSn
  try simp only [Act.put, List.setIfInBounds_toArray, List.set_cons_zero, List.set_cons_succ]
  clear hSn
  refine wpAnyK_ready (rs := [13]) (by kernel_rfl) (by simp) ?_
  refine AllReadyK.cons rfl (fun K hK => ?_) AllReadyK.nil
  go_simp
  refine hK.out _ _ (fun h => absurd h (by decide +kernel)) (fun hSn => ?_)
  clear hK K
  try simp only [Act.put, List.setIfInBounds_toArray, List.set_cons_zero, List.set_cons_succ]
  refine wpAnyK_done (by kernel_rfl) ?_ _
  go_wp2
  go_end0
  have hlen : (r.l ++ q).length = ll + nn := by rw [List.length_append, hll, HTl.out]
  have hv : (⟨A3, c3, r.l ++ q⟩ : RowM).v = .slice A3 (ll + nn) c3 := by rw [← hlen]; rfl
  refine ⟨rfl, ⟨A3, c3, r.l ++ q⟩, rfl, ?_, ?_, ?_, ?_⟩
  · rw [hv]; exact B3.out.set _ _
  · show World.ownsRow _ _ _ _ _ _ _
    rw [hv, show (⟨A3, c3, r.l ++ q⟩ : RowM).l.length = ll + nn from hlen, show By (⟨A3, c3, r.l ++ q⟩ : RowM).l = By r.l ++ By q from By_append _ _]
    exact own_store O3.out B3.out (by decide) _ _
  · have h := N3.out
    rw [own_blkD, own_blkD] at h
    rcases h with h | h
    · exact .inl h
    · exact .inr (.inr ⟨_, h, Nat.le_refl _⟩)
  · exact (K3.out.mono (fun j _ h => .inr h)).setCell (.inl rfl) _

set_option maxHeartbeats 1000000 in
theorem put2_any (w : World) (g a i : Nat) (cs : Array Value) (r : RowM) (b : List UInt8) (p0 p1 pf c : Nat) (A : Option Addr) (hB : Blk w g 54 cs) (hi : i < 16) (hc : cs[a + i]? = some r.v) (ho : r.own w) (hp : PutOk w i b p0 p1 pf A c)
    (hl : r.l.length + b.length ≤ 100000000) : Calls Tryd.prog 77 #[.pointer (some ⟨g, a, none⟩), ptrD pf, ptrD p1] w fun e w' => e = .returned (.tuple #[]) ∧ ∃ r', RowTo w g (a + i) cs r (r.l ++ b) w' r' := by
  have H := Lib.hid (put1_any w g a i b.length cs r b p0 p1 pf c A hB hi hc ho hp (Nat.le_refl _) hl)
  have c1 : w.cell? ⟨p1, 0, none⟩ = some (.slice A b.length c) := hp.s.cell 0
  have cf : w.cell? ⟨pf, 0, none⟩ = some (firstV p0 p1) := hp.f.cell 0
  rw [List.take_length] at H
  unfold firstV at cf
  unfold ptrD at *
  clear hB hc ho hp
  go_enter Tryd.func77, Tryd.ntmps77
  go_wp2_with (go_at_call 76; refine H.out.mono ?_; rintro e w2 ⟨rfl, hr2⟩; have R2 := Lib.hid hr2; clear hr2)
  go_end0
  exact ⟨rfl, R2.out⟩

set_option maxHeartbeats 1000000 in
set_option maxRecDepth 100000 in
theorem put3_any (w : World) (g a i : Nat) (t : Int) (cs : Array Value) (r : RowM) (b : List UInt8) (p0 p1 pf c : Nat) (A : Option Addr) (hB : Blk w g 54 cs) (hi : i < 16) (hc : cs[a + i]? = some r.v) (ho : r.own w) (hp : PutOk w i b p0 p1 pf A c)
    (hl : r.l.length + b.length ≤ 100000000) : Calls Tryd.prog 78 #[.pointer (some ⟨g, a, none⟩), .int .i64 t, ptrD pf, ptrD p1] w fun e w' => e = .returned (.tuple #[]) ∧ ∃ r', RowTo w g (a + i) cs r (r.l ++ b.take (t % ((b.length : Int) + 1)).toNat) w' r' := by
  obtain ⟨z, hz⟩ : ∃ z, t % ((b.length : Int) + 1) = z := ⟨_, rfl⟩
  have hz0 : 0 ≤ z ∧ z < (b.length : Int) + 1 := by rw [← hz]; exact ⟨Int.emod_nonneg _ (by omega), Int.emod_lt_of_pos _ (by omega)⟩
  have hzc : z = (z.toNat : Int) := by omega
  have hdr : Keeps (fun _ => False) w w.drew := (Keeps.refl _ w).drew
  have H : Hid (Calls Tryd.prog 76 #[.pointer (some ⟨g, a, none⟩), .int .i64 (z.toNat : Int), ptrD p0, ptrD p1] w.drew fun e w' => e = .returned (.tuple #[]) ∧ ∃ r', RowTo w.drew g (a + i) cs r (r.l ++ b.take z.toNat) w' r') :=
    put1_any w.drew g a i z.toNat cs r b p0 p1 pf c A (hB.keeps hdr (fun h => h)) hi hc (RowM.keep ho hdr (fun _ _ h => h)) (StOk.keep (s := .put i b p0 p1 pf A c) hp hdr (fun _ _ h => h)) (by omega) (by omega)
  have c1 : w.cell? ⟨p1, 0, none⟩ = some (.slice A b.length c) := hp.s.cell 0
  have cf : w.cell? ⟨pf, 0, none⟩ = some (firstV p0 p1) := hp.f.cell 0
  have HM : Hid (Calls Tryd.prog 41 #[.int .i64 t, .int .i64 ((b.length : Int) + 1)] w.drew fun e w' => e = .returned (.int .i64 z) ∧ w' = w.drew) := by
    have h := modulo_any w.drew t ((b.length : Int) + 1) (by omega) (by omega)
    rw [hz] at h
    exact h
  have hwl : IntKind.i64.wrap ((b.length : Int) + 1) = (b.length : Int) + 1 := by rw [IntKind.wrap_i64]; omega
  have HN : Hid (∀ j, r.bk = some j → j ≠ pf ∧ j ≠ p1) := fun j e => by
    have e2 : r.v.ownBlock = some j := by rw [RowM.v, own_blkD]; exact e
    exact ⟨fun h => hp.f.notOwn ho (by decide) (by rw [e2, h]), fun h => hp.s.notOwn ho (by decide) (by rw [e2, h])⟩
  have HG : Hid (pf ≠ g ∧ p1 ≠ g) := by
    refine ⟨fun h => ?_, fun h => ?_⟩
    · have h1 := hp.f; rw [h] at h1; unfold Blk at h1 hB; rw [hB] at h1; injection h1 with h1; injection h1 with _ h1; revert h1; decide
    · have h1 := hp.s; rw [h] at h1; unfold Blk at h1 hB; rw [hB] at h1; injection h1 with h1; injection h1 with _ h1; revert h1; decide
  have HL : Hid (pf < w.heap.size ∧ p1 < w.heap.size) := ⟨hp.f.lt, hp.s.lt⟩
  rw [hz]
  rw [← hzc] at H
  unfold firstV at cf
  unfold ptrD at *
  have C1 := Lib.hid c1
  have CF := Lib.hid cf
  clear hB hc ho hp hz hz0 hzc hdr
  go_enter Tryd.func78, Tryd.ntmps78
  clear c1 cf
  refine wp_region_held_drew (S := fun W => W.cell? ⟨pf, 0, none⟩ = some (.func (.func 76) #[] #[.pointer (some ⟨p0, 0, none⟩), .pointer (some ⟨p1, 0, none⟩)]) ∧ W.cell? ⟨p1, 0, none⟩ = some (.slice A b.length c)) (by kernel_rfl) ⟨CF.out, C1.out⟩ (fun hHeld => ?_)
  refine wpAnyH_take (i := 0) (oi := ⟨_, _, _, _, _, _⟩) (v := ?_) rfl (by kernel_rfl) (by kernel_rfl) (by kernel_rfl) (fun _ _ _ h => h) (Or.inl ⟨by rfl, ?_⟩) (by assumption) ?_
  rotate_left 1
  · intro W hSw
    try dsimp only at hSw
    obtain ⟨hs1, hs2⟩ := hSw
    go_simp
    try with_reducible rfl
  try simp only [Act.put, List.setIfInBounds_toArray, List.set_cons_zero, List.set_cons_succ]
  refine wpAnyH_take (i := 1) (oi := ⟨_, _, _, _, _, _⟩) (v := ?_) rfl (by kernel_rfl) (by kernel_rfl) (by kernel_rfl) (fun _ _ _ h => h) (Or.inl ⟨by rfl, ?_⟩) (by assumption) ?_
  rotate_left 1
  · intro W hSw
    try dsimp only at hSw
    obtain ⟨hs1, hs2⟩ := hSw
    go_simp
    try with_reducible rfl
  try simp only [Act.put, List.setIfInBounds_toArray, List.set_cons_zero, List.set_cons_succ]
  refine wpAnyH_take (i := 2) (oi := ⟨_, _, _, _, _, _⟩) (v := ?_) rfl (by kernel_rfl) (by kernel_rfl) (by kernel_rfl) (fun _ _ _ h => h) (Or.inl ⟨by rfl, ?_⟩) (by assumption) ?_
  rotate_left 1
  · intro W hSw
    try dsimp only at hSw
    obtain ⟨hs1, hs2⟩ := hSw
    go_simp
    try with_reducible rfl
  try simp only [Act.put, List.setIfInBounds_toArray, List.set_cons_zero, List.set_cons_succ]
  refine wpAnyH_take (i := 3) (oi := ⟨_, _, _, _, _, _⟩) (v := ?_) rfl (by kernel_rfl) (by kernel_rfl) (by kernel_rfl) (fun _ _ _ h => h) (Or.inl ⟨by rfl, ?_⟩) (by assumption) ?_
  rotate_left 1
  · intro W hSw
    try dsimp only at hSw
    obtain ⟨hs1, hs2⟩ := hSw
    go_simp
    try with_reducible rfl
  try simp only [Act.put, List.setIfInBounds_toArray, List.set_cons_zero, List.set_cons_succ]
  refine wpAnyH_take (i := 4) (oi := ⟨_, _, _, _, _, _⟩) (v := ?_) rfl (by kernel_rfl) (by kernel_rfl) (by kernel_rfl) (fun _ _ _ h => h) (Or.inl ⟨by rfl, ?_⟩) (by assumption) ?_
  rotate_left 1
  · intro W hSw
    try dsimp only at hSw
    obtain ⟨hs1, hs2⟩ := hSw
    go_simp
    try with_reducible rfl
  try simp only [Act.put, List.setIfInBounds_toArray, List.set_cons_zero, List.set_cons_succ]
  refine wpAnyH_take (i := 5) (oi := ⟨_, _, _, _, _, _⟩) (v := ?_) rfl (by kernel_rfl) (by kernel_rfl) (by kernel_rfl) (fun _ _ _ h => h) (Or.inl ⟨by rfl, ?_⟩) (by assumption) ?_
  rotate_left 1
  · intro W hSw
    try dsimp only at hSw
    obtain ⟨hs1, hs2⟩ := hSw
    go_simp
    try with_reducible rfl
  try simp only [Act.put, List.setIfInBounds_toArray, List.set_cons_zero, List.set_cons_succ]
  refine wpAnyH_ready (rs := [6]) (by kernel_rfl) (by simp) ?_
  refine AllReadyH.cons rfl (fun K hK => ?_) AllReadyH.nil
  go_simp
  go_at_call 41
  refine HM.out.mono ?_
  rintro e wn ⟨rfl, hwn⟩
  obtain rfl := hwn.symm
  refine hK.out _ _ ⟨CF.out, C1.out⟩ (fun hSn => ?_)
  clear hK K
  try simp only [Act.put, List.setIfInBounds_toArray, List.set_cons_zero, List.set_cons_succ]
  refine wpAnyH_ready (rs := [7]) (by kernel_rfl) (by simp) ?_
  refine AllReadyH.cons rfl (fun K hK => ?_) AllReadyH.nil
  go_simp
  go_at_call 76
  refine H.out.mono ?_
  rintro e w2 ⟨rfl, r2, hr2⟩
  have R2 := Lib.hid hr2
  have K2 : Hid (Keeps (fun j => j = g ∨ r.bk = some j) w w2) := ⟨hr2.k.os, hr2.k.tape, hr2.k.output, hr2.k.size, hr2.k.block⟩
  clear hr2
  refine hK.out _ _ ⟨(K2.out.cell (p := ⟨pf, 0, none⟩) HL.out.1 (fun h => by rcases h with h | h; exact HG.out.1 h; exact (HN.out _ h).1 rfl)).trans CF.out, (K2.out.cell (p := ⟨p1, 0, none⟩) HL.out.2 (fun h => by rcases h with h | h; exact HG.out.2 h; exact (HN.out _ h).2 rfl)).trans C1.out⟩ (fun hSn => ?_)
  clear hK K
  try simp only [Act.put, List.setIfInBounds_toArray, List.set_cons_zero, List.set_cons_succ]
  refine wpAnyH_done (by kernel_rfl) ?_ _
  go_wp2
  go_end0
  exact ⟨rfl, r2, R2.out.l, R2.out.b, R2.out.o, R2.out.n, K2.out⟩

theorem own_cutD {w : World} {base n m c : Nat} {e : TypeId} {A : Option Addr} {xs : List Value} (h : w.ownsRow base e 1 (.slice A m c) m xs) (hn : n ≤ m) : w.ownsRow base e 1 (.slice A n c) n (xs.take n) := by
  have hl : xs.length = m := by have := h.1; omega
  refine ⟨by rw [List.length_take]; omega, ?_⟩
  rcases h.2 with ⟨hv, h0⟩ | ⟨g, cap, cur, hv, hg, hh, hnc, hcm, hcs, ht⟩
  · injection hv with h1 h2 h3
    subst h1; subst h3
    obtain rfl : n = 0 := by omega
    exact .inl ⟨rfl, rfl⟩
  · injection hv with h1 h2 h3
    subst h1; subst h3
    refine .inr ⟨g, c, cur, rfl, hg, hh, by omega, hcm, hcs, ?_⟩
    rw [← ht, List.take_take]
    congr 1
    omega
theorem slice_ownD {w : World} {base n m c : Nat} {e : TypeId} {A : Option Addr} {xs : List Value} (h : w.ownsRow base e 1 (.slice A m c) m xs) (hn : n ≤ m) (wq : World) :
    (Instr.slice 39 (.slice A m c) none (some (.int .i64 (n : Int))) none).run Tryd.prog wq = .ok (.slice A n c) wq := by
  obtain ⟨i0, hi, _, hz1, _⟩ := infoD Tryd.u8info
  have hb : m ≤ c ∧ c ≤ maxLen := by
    rcases h.2 with ⟨hv, h0⟩ | ⟨g', cap, cur, hv, _, _, hnc, hcm, _⟩
    · injection hv with _ _ h3; unfold maxLen; omega
    · injection hv with _ _ h3; omega
  have hA : A.map (·.add (0 * 1)) = A := by
    cases A with
    | none => rfl
    | some ad => cases ad with | mk b o p => cases p <;> rfl
  obtain ⟨h1, h2⟩ := hb
  unfold maxLen at h2
  simp [Instr.slice, run_underlying Tryd.underlying39, Instr.sliceBounds, run_sliceBound wq .i64 (n : Int) c _ (by omega) (by omega), sizeOf, typeInfo, hi, hz1]
  try (intro _; simpa using hA)

set_option maxHeartbeats 1000000 in
set_option maxRecDepth 100000 in
theorem cut1_any (w : World) (g a i n : Nat) (cs : Array Value) (r : RowM) (p0 p1 : Nat) (hB : Blk w g 54 cs) (hi : i < 16) (hc : cs[a + i]? = some r.v) (ho : r.own w) (hp : CutOk w i n p0 p1)
    (hn : n ≤ r.l.length) : Calls Tryd.prog 67 #[.pointer (some ⟨g, a, none⟩), ptrD p0, ptrD p1] w fun e w' => e = .returned (.tuple #[]) ∧ ∃ r', RowTo w g (a + i) cs r (r.l.take n) w' r' := by
  have hsl : ∀ wq, (Instr.slice 39 (.slice r.A r.l.length r.c) none (some (.int .i64 (n : Int))) none).run Tryd.prog wq = .ok (.slice r.A n r.c) wq := slice_ownD (show w.ownsRow 0 5 1 (.slice r.A r.l.length r.c) r.l.length (By r.l) from ho) hn
  have HC0 : Hid (w.cell? ⟨p0, 0, none⟩ = some (.int .i64 (i : Int))) := hp.a.cell 0
  have HC1 : Hid (w.cell? ⟨p1, 0, none⟩ = some (.int .i64 (n : Int))) := hp.s.cell 0
  have HC2 : Hid (w.cell? ⟨g, a + i, none⟩ = some (.slice r.A r.l.length r.c)) := (hB.cell (a + i)).trans hc
  have HB := Lib.hid hB
  have HO : Hid (w.ownsRow 0 5 1 (.slice r.A n r.c) n ((By r.l).take n)) := own_cutD (show w.ownsRow 0 5 1 (.slice r.A r.l.length r.c) r.l.length (By r.l) from ho) hn
  have hi2 : (i : Int) < 16 := by omega
  have HSZ : Hid ((Tryd.prog.info? 39).map (·.size) = some 1) := by show _ = _; kernel_rfl
  have HTl : Hid ((r.l.take n).length = n) := by show _ = _; rw [List.length_take]; omega
  obtain ⟨ll, hll⟩ : ∃ n, r.l.length = n := ⟨_, rfl⟩
  rw [hll] at HC2 hsl
  have hfr : w.drew.frozen? ⟨g, a + i, none⟩ = false := hB.frozen _
  have HC2d : w.drew.cell? ⟨g, a + i, none⟩ = some (.slice r.A ll r.c) := HC2.out
  have C2D := Lib.hid HC2d
  have HFr := Lib.hid hfr
  clear hp hB ho hc hn HC2d hfr
  unfold ptrD
  go_enter Tryd.func67, Tryd.ntmps67
  refine wp_region_K (fun W => W.cell? ⟨p0, 0, none⟩ = some (.int .i64 (i : Int)) ∧ W.cell? ⟨p1, 0, none⟩ = some (.int .i64 (n : Int)) ∧ W.cell? ⟨g, a + i, none⟩ = some (.slice r.A ll r.c)) 11 (by kernel_rfl) ⟨HC0.out, HC1.out, HC2.out⟩ (fun hSn => ?_)
  refine wpAnyK_pure (i := 0) (oi := ⟨_, _, _, _, _, _⟩) (v := ?_) rfl (by kernel_rfl) (by kernel_rfl) (by kernel_rfl) rfl (fun _ _ _ h => h) (Or.inl ⟨by rfl, ?_⟩) hSn ?_
  rotate_left 1
  · intro W hSw
    go_simp
    try with_reducible rfl
  replace hSn := (KT.set (i := 0) (by decide)).2 hSn
  try simp only [Act.put, List.setIfInBounds_toArray, List.set_cons_zero, List.set_cons_succ]
  refine wpAnyK_chain (i := 1) [10, 11] (oi := ⟨_, _, _, _, _, _⟩) (v := ?_) rfl (by kernel_rfl) (by kernel_rfl) (by kernel_rfl) rfl (by kernel_rfl) (by kernel_rfl) (by kernel_rfl) (fun _ _ _ h => h) (Or.inl ⟨by rfl, ?_⟩) hSn ?_
  rotate_left 1
  · intro W hSw
    try dsimp only at hSw
    obtain ⟨hs1, hs2, hs3⟩ := hSw
    go_simp
    try with_reducible rfl
  replace hSn := (KT.set (i := 1) (by decide)).2 hSn
  try simp only [Act.put, List.setIfInBounds_toArray, List.set_cons_zero, List.set_cons_succ]
  refine wpAnyK_pure (i := 2) (oi := ⟨_, _, _, _, _, _⟩) (v := ?_) rfl (by kernel_rfl) (by kernel_rfl) (by kernel_rfl) rfl (fun _ _ _ h => h) (Or.inl ⟨by rfl, ?_⟩) hSn ?_
  rotate_left 1
  · intro W hSw
    go_simp
    try with_reducible rfl
  replace hSn := (KT.set (i := 2) (by decide)).2 hSn
  try simp only [Act.put, List.setIfInBounds_toArray, List.set_cons_zero, List.set_cons_succ]
  refine wpAnyK_chain (i := 3) [5, 6, 8, 11] (oi := ⟨_, _, _, _, _, _⟩) (v := ?_) rfl (by kernel_rfl) (by kernel_rfl) (by kernel_rfl) rfl (by kernel_rfl) (by kernel_rfl) (by kernel_rfl) (fun _ _ _ h => h) (Or.inl ⟨by rfl, ?_⟩) hSn ?_
  rotate_left 1
  · intro W hSw
    try dsimp only at hSw
    obtain ⟨hs1, hs2, hs3⟩ := hSw
    go_simp
    try with_reducible rfl
  replace hSn := (KT.set (i := 3) (by decide)).2 hSn
  try simp only [Act.put, List.setIfInBounds_toArray, List.set_cons_zero, List.set_cons_succ]
  refine wpAnyK_pure (i := 4) (oi := ⟨_, _, _, _, _, _⟩) (v := ?_) rfl (by kernel_rfl) (by kernel_rfl) (by kernel_rfl) rfl (fun _ _ _ h => h) (Or.inl ⟨by rfl, ?_⟩) hSn ?_
  rotate_left 1
  · intro W hSw
    go_simp
    try with_reducible rfl
  replace hSn := (KT.set (i := 4) (by decide)).2 hSn
  try simp only [Act.put, List.setIfInBounds_toArray, List.set_cons_zero, List.set_cons_succ]
  refine wpAnyK_pure (i := 5) (oi := ⟨_, _, _, _, _, _⟩) (v := ?_) rfl (by kernel_rfl) (by kernel_rfl) (by kernel_rfl) rfl (fun _ _ _ h => h) (Or.inl ⟨by rfl, ?_⟩) hSn ?_
  rotate_left 1
  · intro W hSw
    go_simp
    try with_reducible rfl
  replace hSn := (KT.set (i := 5) (by decide)).2 hSn
  try simp only [Act.put, List.setIfInBounds_toArray, List.set_cons_zero, List.set_cons_succ]
  refine wpAnyK_chain (i := 6) [8, 11] (oi := ⟨_, _, _, _, _, _⟩) (v := ?_) rfl (by kernel_rfl) (by kernel_rfl) (by kernel_rfl) rfl (by kernel_rfl) (by kernel_rfl) (by kernel_rfl) (fun _ _ _ h => h) (Or.inl ⟨by rfl, ?_⟩) hSn ?_
  rotate_left 1
  · intro W hSw
    try dsimp only at hSw
    obtain ⟨hs1, hs2, hs3⟩ := hSw
    go_simp
    try with_reducible rfl
  replace hSn := (KT.set (i := 6) (by decide)).2 hSn
  try simp only [Act.put, List.setIfInBounds_toArray, List.set_cons_zero, List.set_cons_succ]
  refine wpAnyK_chain (i := 7) [8, 11] (oi := ⟨_, _, _, _, _, _⟩) (v := ?_) rfl (by kernel_rfl) (by kernel_rfl) (by kernel_rfl) rfl (by kernel_rfl) (by kernel_rfl) (by kernel_rfl) (fun _ _ _ h => h) (Or.inl ⟨by rfl, ?_⟩) hSn ?_
  rotate_left 1
  · intro W hSw
    try dsimp only at hSw
    obtain ⟨hs1, hs2, hs3⟩ := hSw
    go_simp
    try with_reducible rfl
  replace hSn := (KT.set (i := 7) (by decide)).2 hSn
  try simp only [Act.put, List.setIfInBounds_toArray, List.set_cons_zero, List.set_cons_succ]
  refine wpAnyK_pure (i := 8) (oi := ⟨_, _, _, _, _, _⟩) (v := ?_) rfl (by kernel_rfl) (by kernel_rfl) (by kernel_rfl) rfl (fun _ _ _ h => h) (Or.inl ⟨by rfl, ?_⟩) hSn ?_
  rotate_left 1
  · intro W hSw
    go_simp
    try with_reducible rfl
  replace hSn := (KT.set (i := 8) (by decide)).2 hSn
  try simp only [Act.put, List.setIfInBounds_toArray, List.set_cons_zero, List.set_cons_succ]
  refine wpAnyK_pure (i := 9) (oi := ⟨_, _, _, _, _, _⟩) (v := ?_) rfl (by kernel_rfl) (by kernel_rfl) (by kernel_rfl) rfl (fun _ _ _ h => h) (Or.inl ⟨by rfl, ?_⟩) hSn ?_
  rotate_left 1
  · intro W hSw
    go_simp
    try with_reducible rfl
  replace hSn := (KT.set (i := 9) (by decide)).2 hSn
  try simp only [Act.put, List.setIfInBounds_toArray, List.set_cons_zero, List.set_cons_succ]
  refine wpAnyK_pure (i := 10) (oi := ⟨_, _, _, _, _, _⟩) (v := ?_) rfl (by kernel_rfl) (by kernel_rfl) (by kernel_rfl) rfl (fun _ _ _ h => h) (Or.inl ⟨by rfl, ?_⟩) hSn ?_
  rotate_left 1
  · intro W hSw
    go_simp
    try with_reducible rfl
  replace hSn := (KT.set (i := 10) (by decide)).2 hSn
  try simp only [Act.put, List.setIfInBounds_toArray, List.set_cons_zero, List.set_cons_succ]
  have c32 : w.drew.cell? ⟨g, a + i, none⟩ = some (.slice r.A ll r.c) := C2D.out
  have f32 : w.drew.frozen? ⟨g, a + i, none⟩ = false := HFr.out
  clear hSn
  refine wpAnyK_ready (rs := [11]) (by kernel_rfl) (by simp) ?_
  refine AllReadyK.cons rfl (fun K hK => ?_) AllReadyK.nil
  go_simp
  refine hK.out _ _ (fun h => absurd h (by decide +kernel)) (fun hSn => ?_)
  clear hK K
  try simp only [Act.put, List.setIfInBounds_toArray, List.set_cons_zero, List.set_cons_succ]
  refine wpAnyK_done (by kernel_rfl) ?_ _
  go_wp2
  go_end0
  have hv : (⟨r.A, r.c, r.l.take n⟩ : RowM).v = .slice r.A n r.c := by rw [RowM.v]; show Value.slice r.A (r.l.take n).length r.c = _; rw [HTl.out]
  have HBd : Blk w.drew g 54 cs := HB.out
  have HOd : w.drew.ownsRow 0 5 1 (.slice r.A n r.c) n ((By r.l).take n) := HO.out
  refine ⟨rfl, ⟨r.A, r.c, r.l.take n⟩, rfl, ?_, ?_, .inl rfl, ?_⟩
  · rw [hv]; exact HBd.set _ _
  · show World.ownsRow _ _ _ _ _ _ _
    rw [hv, show (⟨r.A, r.c, r.l.take n⟩ : RowM).l.length = n from HTl.out, show By (⟨r.A, r.c, r.l.take n⟩ : RowM).l = (By r.l).take n from by simp [By]]
    exact own_store HOd HBd (by decide) _ _
  · exact (Keeps.refl _ w).drew.setCell (.inl rfl) _
theorem cut2_any (w : World) (p : Value) (t : Int) : Calls Tryd.prog 68 #[p, .int .i64 t] w fun e w' => e = .returned (.tuple #[]) ∧ w' = w := by
  go_enter Tryd.func68, Tryd.ntmps68
  go_wp2
  go_end0
  exact ⟨rfl, rfl⟩
end Go.Proofs.YthamlphebnhcpaaDoor
