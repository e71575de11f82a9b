/-
  disk: DiskMeans.
-/
import Derived.Test.YtiagefcjebnopaaDkQ
import Derived.Test.YtiagefcjebnopaaRfA
namespace Go.Proofs.Ytiagefcjebnopaa
open Go.RowKit

theorem RfOk.all_lt {w : World} {g : Nat} {m : RfM} (h : RfOk w g m) {j : Nat} (hj : allR g m j) : j < w.heap.size := by
  rcases hj with (rfl | h1) | ⟨r, h1, hb⟩
  · exact h.b.lt
  · exact (h.ww.lt j (by rw [own_blkD]; exact h1)).2
  · rcases h1 with h1 | ⟨p, hp, rfl⟩
    · exact RowM.lt (h.o r h1) hb
    · exact RowM.lt (h.p p hp).2.2 hb
/-- The program's disk and the document's, side by side. -/
structure MnInv (W0 wr : World) (g : Nat) (m : DkM) (q : Nat) (r : RfM) (i : Nat) : Prop where
  t : DkOk wr g m
  s : RfOk wr q r
  e : RelR m.d r
  wf : DkWf m.d
  wl : m.W.length ≤ i
  b : Below W0.heap.size W0 wr
  f : ∀ j, foot g m j → W0.heap.size ≤ j
  f2 : ∀ j, footR q r j → W0.heap.size ≤ j
  o : ∀ j, allR q r j → ¬ foot g m j
  p : ∀ j, footR q r j → ¬ ro m j
theorem MnInv.rW {W0 wr : World} {g q i : Nat} {m : DkM} {r : RfM} (h : MnInv W0 wr g m q r i) : r.W.length = m.W.length := by
  have := congrArg List.length h.e.w
  rw [List.length_map, ← DkM.wlen] at this
  exact this.symm
theorem MnInv.stepD {W0 wr w1 : World} {g q i : Nat} {m m1 : DkM} {r : RfM} (h : MnInv W0 wr g m q r i) (t : DkTo wr g m w1 m1) :
    RfOk w1 q r ∧ Below W0.heap.size W0 w1 ∧ (∀ j, foot g m1 j → W0.heap.size ≤ j) ∧ (∀ j, allR q r j → ¬ foot g m1 j) ∧ (∀ j, footR q r j → ¬ ro m1 j) :=
  ⟨h.s.later t.k (fun j hj => h.o j (.inl hj)) (fun x hx j hb => h.o j (.inr ⟨x, hx, hb⟩)), h.b.trans (t.k.below h.b.size (fun j hj hf => by have := h.f j hf; omega)),
    fun j hj => (t.ft j hj).elim (h.f j) (fun h1 => Nat.le_trans h.b.size h1),
    fun j ha hf => (t.ft j hf).elim (h.o j ha) (fun h1 => by have := h.s.all_lt ha; omega),
    fun j ha hf => (t.r j hf).elim (h.p j ha) (fun h1 => by have := h.s.all_lt (.inl ha); omega)⟩
theorem MnInv.both {W0 wr w1 w2 : World} {g q i : Nat} {m m1 : DkM} {r r2 : RfM} (h : MnInv W0 wr g m q r i) (t : DkTo wr g m w1 m1) (u : RfTo w1 q r w2 r2) (e : RelR m1.d r2) (wf : DkWf m1.d) (wl : m1.W.length ≤ i + 1) : MnInv W0 w2 g m1 q r2 (i + 1) := by
  obtain ⟨a1, a2, a3, a4, a5⟩ := h.stepD t
  exact ⟨t.ok.later u.k (fun j hj hf => a4 j (.inl hf) hj) (fun j hj hf => a5 j hf hj), u.ok, e, wf, wl, a2.trans (u.k.below a2.size (fun j hj hf => by have := h.f2 j hf; omega)), a3,
    fun j hj => (u.ft j hj).elim (h.f2 j) (fun h1 => Nat.le_trans a2.size h1),
    fun j ha hf => (u.al j ha).elim (fun h1 => a4 j h1 hf) (fun h1 => by have := t.ok.foot_lt hf; omega),
    fun j ha hf => (u.ft j ha).elim (fun h1 => a5 j h1 hf) (fun h1 => by have := t.ok.ro_lt hf; omega)⟩
/-- The document's disk behind the first k steps. -/
def cutR (r : RfM) (k : Nat) : RfM := ⟨r.rows, r.A, r.c, r.W.take k, 0, false⟩
theorem putsC_len (W : List PutR) : (putsC W).length = W.length * 4 := by
  unfold putsC
  rw [flat_lenD (n := 4) (fun r hr => by obtain ⟨y, _, rfl⟩ := List.mem_map.1 hr; rfl), List.length_map]
theorem putsC_app (V W : List PutR) : putsC (V ++ W) = putsC V ++ putsC W := by unfold putsC; rw [List.map_append, List.flatten_append]
theorem putsC_take (W : List PutR) (k : Nat) (hk : k ≤ W.length) : (putsC W).take (k * 4) = putsC (W.take k) := by
  have h : putsC W = putsC (W.take k) ++ putsC (W.drop k) := by rw [← putsC_app, List.take_append_drop]
  have hl : (putsC (W.take k)).length = k * 4 := by rw [putsC_len, List.length_take, Nat.min_eq_left hk]
  rw [h, ← hl, List.take_left]
theorem putsC_drop (W : List PutR) (k : Nat) (hk : k ≤ W.length) : (putsC W).drop (k * 4) = putsC (W.drop k) := by
  have h : putsC W = putsC (W.take k) ++ putsC (W.drop k) := by rw [← putsC_app, List.take_append_drop]
  have hl : (putsC (W.take k)).length = k * 4 := by rw [putsC_len, List.length_take, Nat.min_eq_left hk]
  rw [h, ← hl, List.drop_left]
theorem cutR_ok {w w' : World} {q b : Nat} {r : RfM} (h : RfOk w q r) (hb : Below w.heap.size w w') {k : Nat} (hk : k ≤ r.W.length) (hB : Blk w' b 45 (rfC (cutR r k)).toArray) : RfOk w' b (cutR r k) := by
  have h1 := h.below hb
  refine ⟨hB, h1.n, h1.o, ?_, fun p hp => h1.p p (List.mem_of_mem_take hp)⟩
  have h2 := own_prefix h1.ww hk
  rw [putsC_take _ _ hk] at h2
  show World.ownsRow _ _ _ _ (.slice r.A (r.W.take k).length r.c) (r.W.take k).length (putsC (r.W.take k))
  rw [List.length_take, Nat.min_eq_left hk]
  exact h2
/-- There are first steps behind which the document's disk is near. -/
theorem near_at {D : DkD} {r : RfM} (h : RelR D r) (wf : DkWf D) (n : r.rows.length = 16) (keep tear : Int) : ∃ K, K ≤ r.W.length ∧
    ∀ i, i < 16 → NearOk (rowD (crashD D keep tear).X (16 + i)) (rowD (doAll 0 (dataR (cutR r K)) ((cutR r K).W.map PutR.d)) i) i (r.W.drop K) := by
  obtain ⟨K, hK, hn⟩ := crashD_near wf keep tear
  rw [h.w, List.length_map] at hK
  refine ⟨K, hK, fun i hi => ?_⟩
  obtain ⟨e, he, h1⟩ := hn i hi
  have hw1 : okW D.X (D.W.take K) := by
    have h2 : okW D.X (D.W.take K ++ D.W.drop K) := by rw [List.take_append_drop]; exact wf.w
    exact (okW_app.1 h2).1
  have h2 := (okW_sameR (by have := wf.n; omega) (by rw [dataR_len n]; exact Nat.le_refl _) hw1 h.x).2 i hi
  refine ⟨e, ?_, fun h0 => ?_⟩
  · rw [he, h2, h.w, ← List.map_take]; rfl
  · obtain ⟨b, x, h3, h4, h5⟩ := h1 h0
    rw [h.w, ← List.map_drop] at h3
    cases hd : r.W.drop K with
    | nil => rw [hd] at h3; cases h3
    | cons p s =>
      rw [hd, List.map_cons] at h3
      injection h3 with h6 _
      unfold PutR.d at h6
      cases hc : p.cut with
      | true => rw [hc] at h6; cases h6
      | false =>
        rw [hc] at h6
        injection h6 with h7 h8
        exact ⟨p, s, rfl, hc, h7, by rw [h8]; exact h4, by rw [h8]; exact h5⟩
theorem Try.putInfo : (Try.prog.info? 74).map (·.size) = some 4 := Try.putSize
theorem lowP (A : Option Addr) (n c k : Nat) (hk : k ≤ c) (hm : c ≤ maxLen) (hA : ∀ a, A = some a → a.add 0 = a) (wq : World) : (Instr.slice 43 (.slice A n c) none (some (.int .i64 (k : Int))) none).run Try.prog wq = .ok (.slice A k c) wq := by
  obtain ⟨i0, hi, hs⟩ : ∃ i, Try.prog.info? 74 = some i ∧ i.size = 4 := by
    have h := Try.putSize
    cases e : Try.prog.info? 74 with
    | none => rw [e] at h; cases h
    | some i => rw [e] at h; injection h with h; exact ⟨i, rfl, h⟩
  unfold maxLen at hm
  have hz : (if c = 0 then A else A.map (·.add (0 * 4))) = A := by
    split
    · rfl
    · cases A with
      | none => rfl
      | some a => simpa using hA a rfl
  simp [Instr.slice, run_underlying Try.underlying43, Instr.sliceBounds, run_sliceBound wq .i64 (k : Int) c _ (by omega) (by omega), sizeOf, typeInfo, hi, hs]
  simpa using hz
theorem build16 (a0 a1 a2 a3 a4 a5 a6 a7 a8 a9 aa ab ac ad ae af : RowM) (A : Option Addr) (k c : Nat) (wq : World) : (Instr.build 45 #[(0, .agg (rowsC [a0, a1, a2, a3, a4, a5, a6, a7, a8, a9, aa, ab, ac, ad, ae, af]).toArray), (1, .slice A k c)]).run Try.prog wq = .ok (.agg (rowsC [a0, a1, a2, a3, a4, a5, a6, a7, a8, a9, aa, ab, ac, ad, ae, af] ++ ([.slice A k c, .int .i64 0, .bool false] : List Value)).toArray) wq := by
  kernel_rfl
theorem highP (A : Option Addr) (n c k : Nat) (hk : k ≤ n) (hn : n ≤ c) (hm : c ≤ maxLen) (wq : World) : (Instr.slice 43 (.slice A n c) (some (.int .i64 (k : Int))) none none).run Try.prog wq = .ok (.slice (if c = k then A else A.map (·.add (k * 4))) (n - k) (c - k)) wq := by
  obtain ⟨i0, hi, hs⟩ : ∃ i, Try.prog.info? 74 = some i ∧ i.size = 4 := by
    have h := Try.putSize
    cases e : Try.prog.info? 74 with
    | none => rw [e] at h; cases h
    | some i => rw [e] at h; injection h with h; exact ⟨i, rfl, h⟩
  unfold maxLen at hm
  simp [Instr.slice, run_underlying Try.underlying43, Instr.sliceBounds, run_sliceBound wq .i64 (k : Int) n _ (by omega) (by omega), sizeOf, typeInfo, hi, hs]
theorem build_disk (r : RfM) (k : Nat) (hn : r.rows.length = 16) (hk : k ≤ r.W.length) (wq : World) : (Instr.build 45 #[(0, .agg (rowsC r.rows).toArray), (1, .slice r.A k r.c)]).run Try.prog wq = .ok (.agg (rfC (cutR r k)).toArray) wq := by
  have h1 : rfC (cutR r k) = rowsC r.rows ++ [.slice r.A k r.c, .int .i64 0, .bool false] := by
    show rowsC r.rows ++ [.slice r.A (r.W.take k).length r.c, .int .i64 0, .bool false] = _
    rw [List.length_take, Nat.min_eq_left hk]
  rw [h1]
  obtain ⟨rows, hr⟩ : ∃ x, r.rows = x := ⟨_, rfl⟩
  obtain ⟨A, hA⟩ : ∃ x, r.A = x := ⟨_, rfl⟩
  obtain ⟨c, hc⟩ : ∃ x, r.c = x := ⟨_, rfl⟩
  rw [hr] at hn
  rw [hr, hA, hc]
  match rows, hn with
  | [a0, a1, a2, a3, a4, a5, a6, a7, a8, a9, aa, ab, ac, ad, ae, af], _ =>
    exact build16 a0 a1 a2 a3 a4 a5 a6 a7 a8 a9 aa ab ac ad ae af A k c wq

theorem exec_buildD (r : RfM) (k : Nat) (hn : r.rows.length = 16) (hk : k ≤ r.W.length) (ρ : Operand → Value) (x y : Operand) (hx : ρ x = .agg (rowsC r.rows).toArray) (hy : ρ y = .slice r.A k r.c) (o : Oper)
    (ho : o.op = .build 45 #[(0, x), (1, y)]) (wq : World) : Sem.run Try.prog (execOp ρ o) wq = .ok (.value (.agg (rfC (cutR r k)).toArray)) wq := by
  unfold execOp
  rw [ho]
  simp only [List.map_toArray, List.map_cons, List.map_nil, hx, hy]
  rw [Sem.run_bind, build_disk r k hn hk]
  rfl

set_option maxHeartbeats 8000000 in
set_option maxRecDepth 100000 in
theorem diskMeans_any (w : World) (A : Option Addr) (l : List ArgM) (c : Nat) (k : ArgsOk w A l c) (keep tear : Int) : Calls Try.prog 4 #[.slice A l.length c, .int .i64 keep, .int .i64 tear] w fun e w' => e = .returned (.bool true) ∧ Below w.heap.size w w' := by
  have K0 := Lib.hid k
  clear k
  go_enter Try.func4, Try.ntmps4
  go_upto_region 3 with (first
    | (go_at_call 7; refine (knownD_any _).mono ?_; rintro e W0 ⟨rfl, hbk⟩; have VK := Lib.hid hbk; clear hbk))
  have K1 : Hid (ArgsOk W0 A l c) := K0.out.later VK.out
  have hMuch := muchD_any W0 A l c K1.out
  unfold MuchD at hMuch
  have KN : ∀ (e : Ending) (wk : World), (e = .returned (.bool true) ∧ Below W0.heap.size W0 wk) → (e = .returned (.bool true) ∧ Below w.heap.size w wk) := fun e wk h => ⟨h.1, nxTrD VK.out h.2⟩
  clear K0
  go_upto_region 5 with (first
    | (go_at_call 6; refine hMuch.mono ?_; rintro e w1 ⟨zb, rfl, hzb, hw1⟩; obtain rfl := hw1.symm; have HZb := Lib.hid hzb; clear hzb; cases zb))
  rotate_left 1
  · try go_wp2
    go_ret
    exact KN _ _ ⟨rfl, nxRefl _⟩
  have HM : Hid (l.length ≤ 60 ∧ ∀ a ∈ l, a.b.length ≤ 20000) := HZb.out trivial
  clear HZb hMuch
  go_wp2_with (first
    | (go_at_call 8; refine (new_any W0).mono ?_; unfold ptrD; rintro e w1 ⟨g, rfl, hg, hok, hb⟩; have D1 := Lib.hid hok; have HG := Lib.hid hg; have V1 := Lib.hid hb; clear hg hok hb)
    | (go_at_call 17; refine (rnew_any w1).mono ?_; unfold ptrD; rintro e w2 ⟨q, r0, rfl, hok, ha, hre, hb⟩; have R2 := Lib.hid hok; have HA2 := Lib.hid ha; have HRe := Lib.hid hre; have V2 := Lib.hid hb; clear hok ha hre hb))
  have MN0 : Hid (MnInv W0 w2 g newM q r0 0) := by
    have hg : g < w1.heap.size := D1.out.lt
    have hro : ∀ j, ¬ ro newM j := fun j ⟨s, hs, _⟩ => by cases hs
    exact ⟨(DkTo.below D1.out V2.out).ok, R2.out, by rw [newM_d]; exact HRe.out, by rw [newM_d]; exact newD_wf, Nat.le_refl _, nxTrD V1.out V2.out, fun j hj => by rw [newM_foot g j hj]; exact HG.out,
      fun j hj => Nat.le_trans V1.out.size (HA2.out j (.inl hj)), fun j ha hf => by have := newM_foot g j hf; have := HA2.out j ha; omega, fun j _ h => hro j h⟩
  clear D1 HG V1 R2 HA2 HRe V2
  go_loopw [9] (fun iv wr => ∃ (i : Nat) (m : DkM) (r : RfM), i ≤ l.length ∧ iv = .int .i64 i ∧ Hid (MnInv W0 wr g m q r i)) (fun iv _ => l.length - (intOf iv).toNat)
  case atStart => exact ⟨0, newM, r0, by omega, rfl, MN0.out⟩
  case round =>
    obtain ⟨i, m, r, hi, rfl, MN⟩ := hrel
    clear MN0
    by_cases hlt : i < l.length
    · have hin : (i : Int) < (l.length : Int) := by omega
      have hl60 : l.length ≤ 60 := HM.out.1
      have hwi : IntKind.i64.wrap ((i : Int) + 1) = (i : Int) + 1 := by rw [IntKind.wrap_i64]; omega
      obtain ⟨b, off, hA, hb, hr⟩ := K1.out.row (by omega)
      obtain ⟨a, ha⟩ : ∃ a, l[i] = a := ⟨_, rfl⟩
      have hc := hr i hlt
      rw [ha] at hc
      have AO : Hid (ArgOk W0 a) := K1.out.a a (by rw [← ha]; exact List.getElem_mem hlt)
      have AL : Hid (a.b.length ≤ 20000) := HM.out.2 a (by rw [← ha]; exact List.getElem_mem hlt)
      have HC := Lib.hid hc
      have HB := Lib.hid hb
      clear hr hc ha hb
      rw [hA]
      have HCr : Hid (wr.rangeAt b (off + i * 6) (argC a)) := rngD HC.out MN.out.b HB.out
      have k0 : wr.cell? ⟨b, off + i * 6, none⟩ = some (.int .i64 a.kind) := HCr.out 0 _ rfl
      by_cases hk4 : 4 < a.kind
      · go_wp2
        go_ret
        exact KN _ _ ⟨rfl, MN.out.b⟩
      · go_upto_region 13 with fail
        have HK4 : Hid (a.kind ≤ 4) := by show _ ≤ _; omega
        clear k0 hk4
        go_upto_region 14 with (first
          | ((with_reducible show wpList _ _ _ (⟨some 36, _, _, _, _, _⟩ :: _) _ _); refine wpList_load_mid rfl 25 (.tmp 35) rfl b (off + i * 6) rfl (argC a) _ HCr.out Try.underlying25 rfl Try.stepSize ?_)
          | (go_at_call 9; refine (ldo_any wr g m MN.out.t MN.out.wf (by have := MN.out.wl; omega) a (AO.out.later MN.out.b) (by have := AL.out; omega)).mono ?_; unfold DkPost; rintro e w5 ⟨rfl, m5, hm5, hd5⟩; have M5 := Lib.hid hm5; have E5 := Lib.hid hd5; clear hm5 hd5))
        have S5 := Lib.hid (MN.out.stepD M5.out)
        have WF5 : Hid (DkWf m5.d) := by show DkWf _; rw [E5.out]; exact doD_wf MN.out.wf _ AO.out.n
        have WL5 : Hid (m5.W.length ≤ i + 1) := by
          show m5.W.length ≤ _
          have h1 := doD_W m.d a.d
          have h2 := MN.out.wl
          rw [DkM.wlen] at h2
          rw [DkM.wlen, E5.out]
          omega
        have HC5 : Hid (w5.rangeAt b (off + i * 6) (argC a)) := rngD HC.out S5.out.2.1 HB.out
        go_wp2_with (first
          | ((with_reducible show wpList _ _ _ (⟨some 42, _, _, _, _, _⟩ :: _) _ _); refine wpList_load_mid rfl 25 (.tmp 41) rfl b (off + i * 6) rfl (argC a) _ HC5.out Try.underlying25 rfl Try.stepSize ?_)
          | (go_at_call 18; refine (rdo_any w5 q r m.d S5.out.1 MN.out.e MN.out.wf (by have := MN.out.wl; rw [MN.out.rW]; omega) a (AO.out.later S5.out.2.1) HK4.out (by have := AL.out; omega)).mono ?_; unfold RPost; rintro e w6 ⟨n6, r6, rfl, ht6, he6⟩; have T6 := Lib.hid ht6; have E6 := Lib.hid he6; clear ht6 he6))
        go_roundw
        case rel => exact ⟨i + 1, m5, r6, by omega, by go_num, MN.out.both M5.out T6.out (by rw [E5.out]; exact E6.out) WF5.out WL5.out⟩
        case measure => simp [intOf] <;> omega
    · obtain rfl : i = l.length := by omega
      have hl60 : l.length ≤ 60 := HM.out.1
      have HWl : Hid (m.W.length ≤ 60) := Nat.le_trans MN.out.wl hl60
      go_upto_region 17 with (first
        | (go_at_call 16; refine (crash_any wr g m MN.out.t MN.out.wf (by have := HWl.out; omega) keep tear).mono ?_; unfold CrPost; rintro e w5 ⟨rfl, m5, hm5, hd5⟩; have M5 := Lib.hid hm5; have E5 := Lib.hid hd5; clear hm5 hd5; (have S5 := Lib.hid (MN.out.stepD M5.out)); (have ED : Hid (m5.dead = false) := congrArg DkD.dead E5.out); (have EW : Hid (m5.W.length = 0) := (by show m5.W.length = _; rw [DkM.wlen, E5.out]; rfl)))
        | (go_at_call 15; refine (numD_any _ _).mono ?_; rintro e wn ⟨rfl, hwn⟩; obtain rfl := hwn.symm)
        | (go_at_call 14; refine (dead_any w5 g m5 M5.out.ok).mono ?_; rw [ED.out]; rintro e wn ⟨rfl, hwn⟩; obtain rfl := hwn.symm)
        | (go_at_call 13; refine (waiting_any w5 g m5 M5.out.ok).mono ?_; rw [EW.out]; rintro e wn ⟨rfl, hwn⟩; obtain rfl := hwn.symm))
      have WF5 : Hid (DkWf m5.d) := by show DkWf _; rw [E5.out]; exact crashD_wf MN.out.wf _ _
      obtain ⟨kn, hK, hnear⟩ := near_at MN.out.e MN.out.wf MN.out.s.n keep tear
      rw [← E5.out] at hnear
      have HK := Lib.hid hK
      have HNear := Lib.hid hnear
      have HRn : Hid (r.rows.length = 16) := MN.out.s.n
      have HRW : Hid (r.W.length ≤ 60) := by show r.W.length ≤ _; rw [MN.out.rW]; exact HWl.out
      have HokR : Hid (okW (dataR r) (r.W.map PutR.d)) := (MN.out.e.ok MN.out.wf MN.out.s.n).1
      have HleR : Hid (∀ k, (rowD (dataR r) k).length ≤ 16777216) := MN.out.e.le MN.out.wf MN.out.s.n
      have R5 : Hid (RfOk w5 q r) := S5.out.1
      have D5 : Hid (DkOk w5 g m5) := M5.out.ok
      have V5 : Hid (Below W0.heap.size W0 w5) := S5.out.2.1
      clear hK hnear S5 M5 E5 ED EW MN HWl hl60
      go_wp2
      go_loopw [10] (fun kv wx => ∃ k : Nat, k ≤ kn ∧ kv = .int .i64 k ∧ Hid (Below w5.heap.size w5 wx)) (fun kv _ => kn - (intOf kv).toNat)
      case atStart => exact ⟨0, Nat.zero_le _, rfl, nxRefl _⟩
      case round =>
        obtain ⟨k, hk, rfl, VX⟩ := hrel
        obtain ⟨wo, hwo⟩ : ∃ wo : World, wo = wr := ⟨_, rfl⟩
        have hkr : k ≤ r.W.length := Nat.le_trans hk HK.out
        have HKr := Lib.hid hkr
        have RX : Hid (RfOk wr q r) := R5.out.below VX.out
        have DX : Hid (DkOk wr g m5) := (DkTo.below D5.out VX.out).ok
        have c16 : wr.cell? ⟨q, 16, none⟩ = some (.slice r.A r.W.length r.c) := RX.out.cW
        have HCl : Hid (r.W.length ≤ r.c ∧ r.c ≤ maxLen ∧ ∀ a, r.A = some a → a.add 0 = a) := by
          rcases RX.out.ww.2 with ⟨hv, h0⟩ | ⟨gb, cap, cur, hv, hb, hh, hnc, hcm, hcs, ht⟩
          · injection hv with a1 a2 a3
            exact ⟨by omega, by rw [a3]; simp [maxLen], fun a h => by rw [a1] at h; cases h⟩
          · injection hv with a1 a2 a3
            exact ⟨by omega, by omega, fun a h => by rw [a1] at h; injection h with h; subst h; simp [Addr.add_lit]⟩
        have h60 : r.W.length ≤ 60 := HRW.out
        have hkl : (k : Int) ≤ (r.W.length : Int) := by omega
        have hwk : IntKind.i64.wrap ((k : Int) + 1) = (k : Int) + 1 := by rw [IntKind.wrap_i64]; omega
        have Q1 : Hid (∀ wq, (Instr.slice 43 (.slice r.A r.W.length r.c) none (some (.int .i64 (k : Int))) none).run Try.prog wq = .ok (.slice r.A k r.c) wq) := fun wq => lowP _ _ _ _ (Nat.le_trans HKr.out HCl.out.1) HCl.out.2.1 HCl.out.2.2 wq
        have Q2 : Hid (∀ wq, (Instr.slice 43 (.slice r.A r.W.length r.c) (some (.int .i64 (k : Int))) none none).run Try.prog wq = .ok (.slice (if r.c = k then r.A else r.A.map (·.add (k * 4))) (r.W.length - k) (r.c - k)) wq) := fun wq => highP _ _ _ _ HKr.out HCl.out.1 HCl.out.2.1 wq
        have QB : Hid (∀ wq, (Instr.build 45 #[(0, .agg (rowsC r.rows).toArray), (1, .slice r.A k r.c)]).run Try.prog wq = .ok (.agg (rfC (cutR r k)).toArray) wq) := fun wq => build_disk r k HRn.out HKr.out wq
        have RR : Hid (wr.rangeAt q 0 (rowsC r.rows)) := RX.out.rows
        have HSz : Hid ((Try.prog.info? 42).map (·.size) = some (rowsC r.rows).length) := by show _ = _; rw [rowsC_len, HRn.out]; exact Try.rowsSize
        go_upto_region 20 with fail
        refine wp_region_held_drew (S := fun W => W.rangeAt q 0 (rowsC r.rows) ∧ W.cell? ⟨q, 16, none⟩ = some (.slice r.A r.W.length r.c)) (by kernel_rfl) ⟨RR.out, c16⟩ (fun hHeld => ?_)
        refine wpAnyH_take (i := 0) (oi := ⟨_, _, _, _, _, _⟩) (v := ?_) rfl (by kernel_rfl) (by kernel_rfl) (by kernel_rfl) (fun _ _ _ h => h) (Or.inl ⟨by rfl, ?_⟩) (by assumption) ?_
        rotate_left 1
        · intro W hSw
          try dsimp only at hSw
          obtain ⟨hs1, hs2⟩ := hSw
          go_simp
          try with_reducible rfl
        try simp only [Act.put, List.setIfInBounds_toArray, List.set_cons_zero, List.set_cons_succ]
        refine wpAnyH_take (i := 1) (oi := ⟨_, _, _, _, _, _⟩) (v := ?_) rfl (by kernel_rfl) (by kernel_rfl) (by kernel_rfl) (fun _ _ _ h => h) (Or.inl ⟨by rfl, ?_⟩) (by assumption) ?_
        rotate_left 1
        · intro W hSw
          try dsimp only at hSw
          obtain ⟨hs1, hs2⟩ := hSw
          go_simp
          try with_reducible rfl
        try simp only [Act.put, List.setIfInBounds_toArray, List.set_cons_zero, List.set_cons_succ]
        refine wpAnyH_take (i := 2) (oi := ⟨_, _, _, _, _, _⟩) (v := ?_) rfl (by kernel_rfl) (by kernel_rfl) (by kernel_rfl) (fun _ _ _ h => h) (Or.inl ⟨by rfl, ?_⟩) (by assumption) ?_
        rotate_left 1
        · intro W hSw
          try dsimp only at hSw
          obtain ⟨hs1, hs2⟩ := hSw
          go_simp
          try with_reducible rfl
        try simp only [Act.put, List.setIfInBounds_toArray, List.set_cons_zero, List.set_cons_succ]
        refine wpAnyH_take (i := 3) (oi := ⟨_, _, _, _, _, _⟩) (v := .agg (rowsC r.rows).toArray) rfl (by kernel_rfl) (by kernel_rfl) (by kernel_rfl) (fun _ _ _ h => h) (yieldsIf_load_mid (by rfl) 42 (.tmp 70) rfl (q) (0) rfl (rowsC r.rows) _ (fun W h => h.1) Try.underlying42 rfl HSz.out) (by assumption) ?_
        try simp only [Act.put, List.setIfInBounds_toArray, List.set_cons_zero, List.set_cons_succ]
        refine wpAnyH_take (i := 4) (oi := ⟨_, _, _, _, _, _⟩) (v := ?_) rfl (by kernel_rfl) (by kernel_rfl) (by kernel_rfl) (fun _ _ _ h => h) (Or.inl ⟨by rfl, ?_⟩) (by assumption) ?_
        rotate_left 1
        · intro W hSw
          try dsimp only at hSw
          obtain ⟨hs1, hs2⟩ := hSw
          go_simp
          try with_reducible rfl
        try simp only [Act.put, List.setIfInBounds_toArray, List.set_cons_zero, List.set_cons_succ]
        refine wpAnyH_take (i := 5) (oi := ⟨_, _, _, _, _, _⟩) (v := ?_) rfl (by kernel_rfl) (by kernel_rfl) (by kernel_rfl) (fun _ _ _ h => h) (Or.inl ⟨by rfl, ?_⟩) (by assumption) ?_
        rotate_left 1
        · intro W hSw
          try dsimp only at hSw
          obtain ⟨hs1, hs2⟩ := hSw
          go_simp
          try with_reducible rfl
        try simp only [Act.put, List.setIfInBounds_toArray, List.set_cons_zero, List.set_cons_succ]
        refine wpAnyH_take (i := 6) (oi := ⟨_, _, _, _, _, _⟩) (v := ?_) rfl (by kernel_rfl) (by kernel_rfl) (by kernel_rfl) (fun _ _ _ h => h) (Or.inl ⟨by rfl, ?_⟩) (by assumption) ?_
        rotate_left 1
        · intro W hSw
          try dsimp only at hSw
          obtain ⟨hs1, hs2⟩ := hSw
          go_simp
          try with_reducible rfl
        try simp only [Act.put, List.setIfInBounds_toArray, List.set_cons_zero, List.set_cons_succ]
        refine wpAnyH_take (i := 7) (oi := ⟨_, _, _, _, _, _⟩) (v := ?_) rfl (by kernel_rfl) (by kernel_rfl) (by kernel_rfl) (fun _ _ _ h => h) (Or.inl ⟨by rfl, ?_⟩) (by assumption) ?_
        rotate_left 1
        · intro W hSw
          try dsimp only at hSw
          obtain ⟨hs1, hs2⟩ := hSw
          go_simp
          try with_reducible rfl
        try simp only [Act.put, List.setIfInBounds_toArray, List.set_cons_zero, List.set_cons_succ]
        refine wpAnyH_take (i := 8) (oi := ⟨_, _, _, _, _, _⟩) (v := ?_) rfl (by kernel_rfl) (by kernel_rfl) (by kernel_rfl) (fun _ _ _ h => h) (Or.inl ⟨by rfl, ?_⟩) (by assumption) ?_
        rotate_left 1
        · intro W hSw
          try dsimp only at hSw
          obtain ⟨hs1, hs2⟩ := hSw
          go_simp
          try with_reducible rfl
        try simp only [Act.put, List.setIfInBounds_toArray, List.set_cons_zero, List.set_cons_succ]
        refine wpAnyH_take (i := 9) (oi := ⟨_, _, _, _, _, _⟩) (v := ?_) rfl (by kernel_rfl) (by kernel_rfl) (by kernel_rfl) (fun _ _ _ h => h) (Or.inl ⟨by rfl, ?_⟩) (by assumption) ?_
        rotate_left 1
        · intro W hSw
          try dsimp only at hSw
          obtain ⟨hs1, hs2⟩ := hSw
          have hq := Q1.out
          go_simp
          try with_reducible rfl
        try simp only [Act.put, List.setIfInBounds_toArray, List.set_cons_zero, List.set_cons_succ]
        refine wpAnyH_take (i := 10) (oi := ⟨_, _, _, _, _, _⟩) (v := .agg (rfC (cutR r k)).toArray) rfl (by kernel_rfl) (by kernel_rfl) (by kernel_rfl) (fun _ _ _ h => h) (Or.inl ⟨by rfl, ?_⟩) (by assumption) ?_
        · intro W hSw
          try dsimp only at hSw
          obtain ⟨hs1, hs2⟩ := hSw
          have hq := QB.out
          exact exec_buildD r k HRn.out HKr.out _ (.tmp 71) (.tmp 77) rfl rfl _ rfl W
        try simp only [Act.put, List.setIfInBounds_toArray, List.set_cons_zero, List.set_cons_succ]
        refine wpAnyH_ready (rs := [11]) (by kernel_rfl) (by simp) ?_
        refine AllReadyH.cons rfl (fun K hK => ?_) AllReadyH.nil
        go_simp
        have BO : Hid (Blk (wr.alloc (.cells (rfC (cutR r k)).toArray 45)).drew wr.heap.size 45 (rfC (cutR r k)).toArray) := (heap_alloc_new wr _ : Blk (wr.alloc (.cells (rfC (cutR r k)).toArray 45)) wr.heap.size 45 (rfC (cutR r k)).toArray)
        have VO : Hid (Below wr.heap.size wr (wr.alloc (.cells (rfC (cutR r k)).toArray 45)).drew) := nxDrN (nxAlloc (nxRefl wr) _) 1
        obtain ⟨wb, hwb⟩ : ∃ wb, (wr.alloc (.cells (rfC (cutR r k)).toArray 45)).drew = wb := ⟨_, rfl⟩
        rw [hwb] at BO VO ⊢
        have RB : Hid (RfOk wb q r) := RX.out.below VO.out
        refine hK.out _ wb ⟨RB.out.rows, RB.out.cW⟩ (fun hSn => ?_)
        clear hK K
        try simp only [Act.put, List.setIfInBounds_toArray, List.set_cons_zero, List.set_cons_succ]
        refine wpAnyH_take (i := 12) (oi := ⟨_, _, _, _, _, _⟩) (v := ?_) rfl (by kernel_rfl) (by kernel_rfl) (by kernel_rfl) (fun _ _ _ h => h) (Or.inl ⟨by rfl, ?_⟩) (by assumption) ?_
        rotate_left 1
        · intro W hSw
          try dsimp only at hSw
          obtain ⟨hs1, hs2⟩ := hSw
          go_simp
          try with_reducible rfl
        try simp only [Act.put, List.setIfInBounds_toArray, List.set_cons_zero, List.set_cons_succ]
        refine wpAnyH_done (by kernel_rfl) ?_ _
        clear hHeld hSn hwb
        have RC : Hid (RfOk wb wr.heap.size (cutR r k)) := cutR_ok RX.out VO.out HKr.out BO.out
        have DB : Hid (DkOk wb g m5) := (DkTo.below DX.out VO.out).ok
        have c16b : wb.cell? ⟨q, 16, none⟩ = some (.slice r.A r.W.length r.c) := RB.out.cW
        obtain ⟨A2, hA2⟩ : ∃ A2, (if r.c = k then r.A else r.A.map (·.add (k * 4))) = A2 := ⟨_, rfl⟩
        have S2 : Hid (SeesV wb wb.heap.size A2 (putsC (r.W.drop k))) := by
          show SeesV _ _ _ _
          rw [← hA2]
          split
          · next hc =>
            have h1 := HCl.out.1
            have h2 := HKr.out
            rw [List.drop_eq_nil_of_le (by omega)]
            exact .inl rfl
          · rw [← putsC_drop _ _ HKr.out]
            exact (SeesV.own RB.out.ww).drop _
        have hq2 := Q2.out
        rw [hA2] at hq2
        have hld : (r.W.drop k).length = r.W.length - k := List.length_drop
        rw [← hld] at hq2
        have HP2 : Hid (∀ p ∈ r.W.drop k, p.row.own wb) := fun p hp => (RB.out.p p (List.mem_of_mem_drop hp)).2.2
        have HOk2 : Hid (okW (dataR (cutR r k)) ((cutR r k).W.map PutR.d)) := by
          have h2 : okW (dataR r) ((r.W.take k).map PutR.d ++ (r.W.drop k).map PutR.d) := by rw [← List.map_append, List.take_append_drop]; exact HokR.out
          exact (okW_app.1 h2).1
        have HL2 : Hid ((cutR r k).W.length ≤ 1000 ∧ (r.W.drop k).length ≤ 1000) := by
          have h1 := HRW.out
          refine ⟨?_, ?_⟩
          · show (r.W.take k).length ≤ 1000
            rw [List.length_take]; omega
          · rw [List.length_drop]; omega
        have hnear := near_any wb g m5 wr.heap.size (cutR r k) DB.out WF5.out RC.out HOk2.out HL2.out.1 HleR.out (r.W.drop k) A2 (r.c - k) S2.out HP2.out HL2.out.2
        unfold NearPost ptrD at hnear
        obtain ⟨rest, hrest⟩ : ∃ x, r.W.drop k = x := ⟨_, rfl⟩
        obtain ⟨c2, hc2⟩ : ∃ x, r.c - k = x := ⟨_, rfl⟩
        have HRest := Lib.hid hrest
        rw [hrest, hc2] at hnear hq2
        have HN := Lib.hid hnear
        obtain ⟨vb, hvb⟩ : ∃ x, wr.heap.size = x := ⟨_, rfl⟩
        rw [hvb] at HN ⊢
        clear hnear hld hA2 c16 Q1 QB Q2 hrest hc2 hvb S2 HP2
        go_wp2_with (first
          | (go_at_call 19; refine HN.out.mono ?_; rintro e wn ⟨zb, rfl, hzb, hbn⟩; have HZb := Lib.hid hzb; have VN := Lib.hid hbn; clear hzb hbn; cases zb))
        · have hkk : k ≠ kn := fun h => by
            have h1 := HZb.out (fun i hi => by rw [← HRest.out, h]; exact HNear.out i hi)
            cases h1
          have VNn : Hid (Below w5.heap.size w5 wn) := nxTrD (nxTrD VX.out VO.out) VN.out
          go_wp2
          go_roundw
          case rel => exact ⟨k + 1, by omega, by go_num, VNn.out⟩
          case measure => simp [intOf] <;> omega
        · go_wp2
          go_ret
          exact KN _ _ ⟨rfl, nxTrD V5.out (nxTrD (nxTrD VX.out VO.out) VN.out)⟩
end Go.Proofs.Ytiagefcjebnopaa
