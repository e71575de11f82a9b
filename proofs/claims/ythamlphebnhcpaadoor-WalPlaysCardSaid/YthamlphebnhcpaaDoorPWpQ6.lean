/-
  wal: WalPlays.
  wal: steps that come in, opened.
-/
import Derived.Test.YthamlphebnhcpaaDoorWq5
import Derived.Test.YthamlphebnhcpaaDoorSOpen
namespace Go.Proofs.YthamlphebnhcpaaDoor
open Go.RowKit

def argsVC (l : List ArgV) : List Value := (l.map argVC).flatten
/-- Steps that are handed in. -/
structure ArgsVOk (w : World) (A : Option Addr) (l : List ArgV) (c : Nat) : Prop where
  s : SeesV w w.heap.size A (argsVC l)
  a : ∀ a ∈ l, ArgVOk w a
  c : l.length ≤ c
  m : l.length ≤ 9223372036854775807
theorem ArgsVOk.later {w w' : World} {A : Option Addr} {l : List ArgV} {c : Nat} (h : ArgsVOk w A l c) (b : Below w.heap.size w w') : ArgsVOk w' A l c := ⟨(h.s.later b).more b.size, fun a m => (h.a a m).later b, h.c, h.m⟩
theorem ArgsVOk.row {w : World} {A : Option Addr} {l : List ArgV} {c : Nat} (h : ArgsVOk w A l c) (h0 : 0 < l.length) : ∃ b off, A = some ⟨b, off, none⟩ ∧ b < w.heap.size ∧ ∀ k (hk : k < l.length), w.rangeAt b (off + k * 5) (argVC l[k]) := by
  obtain ⟨b, off, hA, hb, hr⟩ := SeesV.rowD (n := 5) h.s (by intro r hr; obtain ⟨i, _, rfl⟩ := List.mem_map.1 hr; rfl) (by omega) (by simpa using h0)
  exact ⟨b, off, hA, hb, fun k hk => by have h := hr k (by simpa using hk); rw [List.getElem_map] at h; exact h⟩
/-- What Much answers. -/
def MuchV (w : World) (l : List ArgV) (e : Ending) (w' : World) : Prop := ∃ z : Bool, e = .returned (.bool z) ∧ (z = false → l.length ≤ 25 ∧ ∀ a ∈ l, a.b.length ≤ 9000) ∧ w' = w
theorem MuchV.is {w w' : World} {l : List ArgV} (z : Bool) (hz : z = false → l.length ≤ 25 ∧ ∀ a ∈ l, a.b.length ≤ 9000) (hw : w' = w) : MuchV w l (.returned (.bool z)) w' := ⟨z, rfl, hz, hw⟩
set_option maxHeartbeats 4000000 in
set_option maxRecDepth 100000 in
theorem muchV_any (w : World) (A : Option Addr) (l : List ArgV) (c : Nat) (k : ArgsVOk w A l c) : Calls Tryd.prog 4 #[.slice A l.length c, .int .i64 25] w (MuchV w l) := by
  have HK := Lib.hid k
  have Hm : Hid (l.length ≤ 9223372036854775807) := k.m
  clear k
  go_enter Tryd.func4, Tryd.ntmps4
  go_wp2
  go_loopw [5, 6] (fun nv iv wr => ∃ i n : Nat, i ≤ l.length ∧ i ≤ 26 ∧ n ≤ i * 9001 ∧ nv = .int .i64 n ∧ iv = .int .i64 i ∧ Hid (∀ j (hj : j < l.length), j < i → min l[j].b.length 9001 ≤ n) ∧ wr = w) (fun _ iv _ => l.length - (intOf iv).toNat)
  case atStart => exact ⟨0, 0, by omega, by omega, by omega, rfl, rfl, fun j _ h => absurd h (Nat.not_lt_zero _), rfl⟩
  case round =>
    obtain ⟨i, n, hi, hi61, hn, rfl, rfl, HF, rfl⟩ := hrel
    by_cases hlt : i < l.length ∧ i ≤ 25
    · obtain ⟨hlt, h25⟩ := hlt
      have hin : (i : Int) < (l.length : Int) := by omega
      have hin2 : (i : Int) ≤ 25 := by omega
      obtain ⟨b, off, hA, hb, hr⟩ := HK.out.row (by omega)
      have hc := hr i hlt 4 _ rfl
      obtain ⟨a, ha⟩ : ∃ a, l[i] = a := ⟨_, rfl⟩
      rw [ha] at hc
      have HAe : Hid (l[i] = a) := ha
      rw [hA]
      obtain ⟨q, hq⟩ : ∃ q : Nat, min a.b.length 9001 = q := ⟨_, rfl⟩
      have HQ : Hid ((if (9001 : Int) < (a.b.length : Int) then (9001 : Int) else (a.b.length : Int)) = (q : Int)) := by
        show _ = _
        rw [← hq]; split <;> omega
      have hq2 : q ≤ 9001 := by rw [← hq]; exact Nat.min_le_right _ _
      have hwn : IntKind.i64.wrap ((n : Int) + (q : Int)) = (n : Int) + (q : Int) := by rw [IntKind.wrap_i64]; omega
      have hwi : IntKind.i64.wrap ((i : Int) + 1) = (i : Int) + 1 := by rw [IntKind.wrap_i64]; omega
      have HF' : Hid (∀ j (hj : j < l.length), j < i + 1 → min l[j].b.length 9001 ≤ n + q) := by
        intro j hj h
        by_cases h3 : j < i
        · have := HF.out j hj h3; omega
        · obtain rfl : j = i := by omega
          rw [HAe.out, hq]; omega
      have ha2 : Hid (l[i] = a) := ha
      clear hr ha hq hA
      go_wp2_with ((with_reducible show wpList _ _ _ (⟨some 25, _, _, _, _, _⟩ :: _) _ _); refine wpList_minD rfl (.tmp 24) 9001 rfl (a.b.length : Int) (q : Int) rfl HQ.out ?_)
      go_roundw
      case rel => exact ⟨i + 1, n + q, by omega, by omega, by omega, by go_num, by go_num, HF'.out, (by first | rfl | trivial)⟩
      case measure => simp [intOf] <;> omega
    · by_cases hex : i < l.length
      · have h25 : ¬ i ≤ 25 := fun h => hlt ⟨hex, h⟩
        have h1 : (i : Int) < (l.length : Int) := by omega
        have h2 : ¬ (i : Int) ≤ 25 := by omega
        have h3 : decide ((i : Int) ≤ 25) = false := decide_eq_false h2
        have hl : (25 : Int) < (l.length : Int) := by omega
        have hd25 : decide ((25 : Int) < (l.length : Int)) = true := decide_eq_true hl
        clear hlt
        go_wp2
        go_ret
        exact MuchV.is true (fun h => by cases h) rfl
      · have h1 : ¬ (i : Int) < (l.length : Int) := by omega
        have h2 : decide ((i : Int) < (l.length : Int)) = false := decide_eq_false h1
        clear hlt
        by_cases hl : (25 : Int) < (l.length : Int)
        · have hd25 : decide ((25 : Int) < (l.length : Int)) = true := decide_eq_true hl
          go_wp2
          go_ret
          exact MuchV.is true (fun h => by cases h) rfl
        · have hd25 : decide ((25 : Int) < (l.length : Int)) = false := decide_eq_false hl
          have hil : i = l.length := by omega
          have HAll : Hid (n ≤ 9000 → l.length ≤ 25 ∧ ∀ a ∈ l, a.b.length ≤ 9000) := fun h => by
            refine ⟨by omega, fun a ha => ?_⟩
            obtain ⟨j, hj, rfl⟩ := List.getElem_of_mem ha
            have := HF.out j hj (by omega)
            omega
          by_cases hn2 : (9000 : Int) < (n : Int)
          · have hd : decide ((9000 : Int) < (n : Int)) = true := decide_eq_true hn2
            go_wp2
            go_ret
            exact MuchV.is true (fun h => by cases h) rfl
          · have hd : decide ((9000 : Int) < (n : Int)) = false := decide_eq_false hn2
            go_wp2
            go_ret
            exact MuchV.is false (fun _ => HAll.out (by omega)) rfl
theorem sameB_self (L : List (List UInt8)) (most : Int) : ∀ k, sameB L L most k = true := by
  induction L with
  | nil => intro k; rfl
  | cons x L ih =>
    intro k
    unfold sameB
    rw [if_pos rfl]
    split
    · rfl
    · exact ih _
theorem RlOk.want {w : World} {q d : Nat} {m : WlM} (h : RlOk w q d m) : WantW w w.heap.size m.A m.rows := ⟨SeesV.own h.ww, fun r hr => RowM.sees (h.o r hr)⟩
theorem openD_new (log : Int) : openD newD log = (newD, if mayD log = true then 0 else 2) := by
  have h : logB newD log = [] := by
    unfold logB rowD newD
    rw [List.getD_eq_getElem?_getD, List.getElem?_replicate]
    split <;> rfl
  unfold openD
  rw [h]
  split <;> rfl
theorem BndW.mono {D : DkD} {L : LgD} {n n' i i' : Nat} (h : BndW D L n i) (hn : n ≤ n') (hi : i ≤ i') : BndW D L n' i' := ⟨h.s.mono hn, by have := h.w; omega, h.l, h.z, Nat.le_trans h.y hn⟩
theorem argVC_one (a : ArgV) : ∀ v ∈ (argVC a).toArray.toList, v.oneCell' = true := by
  intro v hv
  simp only [argVC, List.mem_cons, List.not_mem_nil, or_false] at hv
  rcases hv with rfl | rfl | rfl | rfl | rfl <;> rfl
theorem Tryd.stepVSize : (Tryd.prog.info? 41).map (·.size) = some 5 := by kernel_rfl
/-- Both opened, in new memory. -/
theorem TwoL.start {w w1 w2 w3 w4 : World} {d q g p : Nat} {dm3 : DkM} {m : WlM} {rm rm4 : RfM} {lm : WlM} {log : Int} (h1 : DiskW w w1 d newM) (h2 : RfOk w2 g rm) (n2 : ∀ j, allR g rm j → w1.heap.size ≤ j) (v2 : Below w1.heap.size w1 w2)
    (t3 : DkTo w2 d newM w3 dm3) (o3 : OpenedW w2 newD log w3 d dm3 q m) (t4 : RfTo w3 g rm w4 rm4) (o4 : ROpened w3 newD log w4 g rm4 p lm) (hm : mayD log = true) : TwoL w w4 d dm3 q m g rm4 p lm newD := by
  have hd1 : d < w1.heap.size := h1.k.lt
  have z1 := h1.v.size
  have z2 := v2.size
  have z3 := t3.k.size
  have z4 := t4.k.size
  have hro : ∀ j, ¬ ro newM j := fun j ⟨s, hs, _⟩ => by cases hs
  have hf3 : ∀ j, foot d dm3 j ∨ footW q m j → j = d ∨ (w2.heap.size ≤ j ∧ j < w3.heap.size) := fun j hj => by
    have hlt := o3.ok.foot_lt hj
    rcases hj with hj | hj
    · rcases t3.ft j hj with h | h
      · exact .inl (newM_foot d j h)
      · exact .inr ⟨h, hlt⟩
    · exact .inr ⟨o3.n j (.inl hj), hlt⟩
  have hr3 : ∀ j, ro dm3 j ∨ rowsW m j → w2.heap.size ≤ j ∧ j < w3.heap.size := fun j hj => by
    have hlt := o3.ok.ro_lt hj
    rcases hj with hj | hj
    · rcases t3.r j hj with h | h
      · exact absurd h (hro j)
      · exact ⟨h, hlt⟩
    · exact ⟨o3.n j (.inr hj), hlt⟩
  have ha2 : ∀ j, allR g rm j → w1.heap.size ≤ j ∧ j < w2.heap.size := fun j hj => ⟨n2 j hj, allR_lt h2 hj⟩
  have ha4 : ∀ j, allL g rm4 p lm j → (w1.heap.size ≤ j ∧ j < w2.heap.size) ∨ w3.heap.size ≤ j := fun j hj => by
    rcases hj with hj | hj
    · rcases t4.al j hj with h | h
      · exact .inl (ha2 j h)
      · exact .inr h
    · exact .inr (o4.n j hj)
  have hb := o4.ok
  rw [openD_new] at hb
  refine ⟨o3.ok.later t4.k (fun j hj hs => ?_) (fun j hj hs => ?_), hb, fun j hj hs => ?_, fun j hj hs => ?_, fun j hj => ?_, fun j hj => ?_, ?_⟩
  · have a := hf3 j hj; have b := ha2 j (.inl hs); omega
  · have a := hr3 j hj; have b := ha2 j (.inl hs); omega
  · have a := hf3 j hj; have b := ha4 j hs; omega
  · have a := hr3 j hs; have b := ha4 j (allL_of hj); omega
  · have a := hf3 j hj
    rcases a with rfl | a
    · exact h1.n j (.inl rfl)
    · omega
  · have b := ha4 j (allL_of hj); omega
  · have va : Below w.heap.size w w2 := nxTrD h1.v v2
    have vb : Below w.heap.size w w3 := va.trans (t3.k.below va.size (fun j hj hf => by have := newM_foot d j hf; subst this; have := h1.n j (.inl rfl); omega))
    exact vb.trans (t4.k.below vb.size (fun j hj hf => by have := ha2 j (.inl hf); omega))
structure PlInv (W0 wr : World) (d : Nat) (dm : DkM) (q : Nat) (m : WlM) (g : Nat) (rm : RfM) (p : Nat) (lm : WlM) (i : Nat) : Prop where
  t : TwoL W0 wr d dm q m g rm p lm dm.d
  e : lm.d = m.d
  b : BndW dm.d m.d (18040 * i) i

set_option maxHeartbeats 8000000 in
set_option maxRecDepth 100000 in
theorem walPlays_any (w : World) (hT : Tabs w) (log : Int) (A : Option Addr) (l : List ArgV) (c : Nat) (k : ArgsVOk w A l c) (leave : Int) : Calls Tryd.prog 3 #[.int .i64 log, .slice A l.length c, .int .i64 leave] w fun e w' => e = .returned (.bool true) ∧ Below w.heap.size w w' := by
  have HT := Lib.hid hT
  have HK := Lib.hid k
  have hMuch := muchV_any w A l c k
  unfold MuchV at hMuch
  clear hT k
  go_enter Tryd.func3, Tryd.ntmps3
  go_upto_region 3 with (first
    | (go_at_call 4; refine hMuch.mono ?_; rintro e w1 ⟨zb, rfl, hzb, hw1⟩; obtain rfl := hw1.symm; have HZb := Lib.hid hzb; cases zb))
  rotate_left 1
  · go_wp2_with (first
      | (go_at_call 5; refine (wknown_any w HT.out).mono ?_; rintro e wk ⟨rfl, hbk⟩; have VK := Lib.hid hbk; clear hbk))
    go_ret
    exact ⟨rfl, VK.out⟩
  have HM : Hid (l.length ≤ 25 ∧ ∀ a ∈ l, a.b.length ≤ 9000) := HZb.out trivial
  clear HZb hMuch
  have HON : Hid (openD newD log = (newD, if mayD log = true then 0 else 2)) := openD_new log
  by_cases hm : mayD log = true
  · rw [if_pos hm] at HON
    have HMl := Lib.hid hm
    go_upto_region 6 with (first
      | (go_at_call 6; refine (newDisk_law _).mono ?_; rintro e w1 ⟨d, rfl, hd⟩; have D1 := Lib.hid hd; clear hd)
      | (go_at_call 7; refine (rnew_any w1).mono ?_; unfold ptrD; rintro e w2 ⟨g, rm, rfl, h1, h2, h3, h4⟩; have G2 := Lib.hid h1; have N2 := Lib.hid h2; have R2 := Lib.hid h3; have V2 := Lib.hid h4; clear h1 h2 h3 h4; (have D2 : Hid (DiskW w w2 d newM) := D1.out.below V2.out); (have T2 : Hid (Tabs w2) := HT.out.later D2.out.v))
      | (go_at_call 8; refine (open_any w2 T2.out d newM D2.out.k D2.out.wf (by rw [DkM.wlen, newM_d]; exact Nat.zero_le _) log).mono ?_; unfold OpenPost; rw [newM_d, HON.out]; rintro e w3 ⟨dm3, hd3, ht3, ⟨hne, -⟩ | ⟨-, q, m, rfl, ho3⟩⟩ <;> first | exact absurd rfl hne | skip; have D3 := Lib.hid hd3; have T3 := Lib.hid ht3; have O3 := Lib.hid ho3; clear hd3 ht3 ho3; (have NF : Hid (∀ j, allR g rm j → ¬ foot d newM j) := fun j hj hf => by have h1 := newM_foot d j hf; have h2 := N2.out j hj; have h3 := D1.out.k.lt; omega); (have G3 : Hid (RfOk w3 g rm) := G2.out.later T3.out.k (fun j hj => NF.out j (.inl hj)) (fun r hr j hj => NF.out j (.inr ⟨r, hr, hj⟩))); (have V3 : Hid (Below w.heap.size w w3) := D2.out.v.trans (T3.out.k.below D2.out.v.size (fun j hj hf => by have h1 := newM_foot d j hf; subst h1; have := D2.out.n j (.inl rfl); omega))))
      | (go_at_call 9; refine (ropen_any w3 (HT.out.later V3.out) g rm newD G3.out R2.out newD_wf (by rw [R2.out.Wl]; exact Nat.zero_le _) log (by rw [show logB newD log = [] by unfold logB rowD newD; rw [List.getD_eq_getElem?_getD, List.getElem?_replicate]; split <;> rfl]; exact Nat.zero_le _)).mono ?_; unfold ROpenPost; rw [HON.out]; rintro e w4 ⟨rm4, -, ht4, ⟨hne, -⟩ | ⟨-, p, lm, rfl, ho4⟩⟩ <;> first | exact absurd rfl hne | skip; have T4 := Lib.hid ht4; have O4 := Lib.hid ho4; clear ht4 ho4))
    have IN0 : Hid (PlInv w w4 d dm3 q m g rm4 p lm 0) := by
      have hd : dm3.d = newD := D3.out
      have hsc : logB newD log = [] := by unfold logB rowD newD; rw [List.getD_eq_getElem?_getD, List.getElem?_replicate]; split <;> rfl
      have hmd : m.d = ⟨log, [], 0, false⟩ := by
        show (⟨m.log, m.rows.map (·.l), m.size, m.dead⟩ : LgD) = _
        rw [O3.out.lg, O3.out.l, O3.out.z, O3.out.dd, hsc]; rfl
      have hld : lm.d = ⟨log, [], 0, false⟩ := by
        show (⟨lm.log, lm.rows.map (·.l), lm.size, lm.dead⟩ : LgD) = _
        rw [O4.out.lg, O4.out.l, O4.out.z, O4.out.dd, hsc]; rfl
      refine ⟨by rw [hd]; exact TwoL.start D1.out G2.out N2.out V2.out T3.out O3.out T4.out O4.out HMl.out, by rw [hmd, hld], ?_⟩
      rw [hd, hmd]
      exact ⟨SmallD.new _, Nat.zero_le _, (by have h := mayD_iff HMl.out; exact ⟨h.2, h.1⟩), rfl, Nat.le_refl _⟩
    clear D1 G2 N2 R2 V2 D2 T2 D3 T3 O3 NF G3 V3 T4 O4 hm
    go_wp2_with (first
      | (go_at_call 10; refine (num_any _ _).mono ?_; rintro e wn ⟨rfl, hwn⟩; obtain rfl := hwn.symm))
    obtain ⟨q0, hq0⟩ : ∃ x, q = x := ⟨_, rfl⟩
    obtain ⟨p0, hp0⟩ : ∃ x, p = x := ⟨_, rfl⟩
    go_loopw [9, 11, 13, 14] (fun lv mv iv gv wr => ∃ (i q p : Nat) (dm : DkM) (m : WlM) (rm : RfM) (lm : WlM), i ≤ l.length ∧ lv = .pointer (some ⟨q, 0, none⟩) ∧ mv = .pointer (some ⟨p, 0, none⟩) ∧ iv = .int .i64 i ∧ Hid (PlInv w wr d dm q m g rm p lm i)) (fun _ _ iv _ _ => l.length - (intOf iv).toNat)
    case atStart => exact ⟨0, q, p, dm3, m, rm4, lm, Nat.zero_le _, rfl, rfl, rfl, IN0.out⟩
    case round =>
      obtain ⟨i, q, p, dm, m, rm, lm, hi, rfl, rfl, rfl, IN⟩ := hrel
      clear IN0
      have VR : Hid (Below w.heap.size w wr) := IN.out.t.v
      by_cases hlt : i < l.length
      · have hin : (i : Int) < (l.length : Int) := by omega
        have hl25 : l.length ≤ 25 := HM.out.1
        have hwi : IntKind.i64.wrap ((i : Int) + 1) = (i : Int) + 1 := by rw [IntKind.wrap_i64]; omega
        obtain ⟨b, off, hA, hb, hr⟩ := HK.out.row (by omega)
        obtain ⟨a, ha⟩ : ∃ a, l[i] = a := ⟨_, rfl⟩
        have hc := hr i hlt
        rw [ha] at hc
        have AO : Hid (ArgVOk w a) := HK.out.a a (by rw [← ha]; exact List.getElem_mem hlt)
        have AL : Hid (a.b.length ≤ 9000) := HM.out.2 a (by rw [← ha]; exact List.getElem_mem hlt)
        have HC := Lib.hid hc
        have HB := Lib.hid hb
        have HI25 : Hid (i < 25) := by show _ < _; omega
        clear hr hc ha hb
        rw [hA]
        have HCr : Hid (wr.rangeAt b (off + i * 5) (argVC a)) := rngL HC.out VR.out HB.out
        have hst := step_any w wr HT.out d dm q m g rm p lm dm.d m.d IN.out.t rfl rfl IN.out.e (IN.out.b.mono (by have := HI25.out; omega) (by have := HI25.out; omega)) a AO.out AL.out
        have HBs : Hid (BndW (stepW dm.d m.d a).1 (stepW dm.d m.d a).2 (18040 * (i + 1)) (i + 1)) := by
          have h := IN.out.b.step a AL.out
          show BndW _ _ _ _
          rw [show 18040 * (i + 1) = 18040 * i + 18040 by omega]; exact h
        unfold StepPost at hst
        go_upto_region 15 with (first
          | ((with_reducible show wpList _ _ _ (⟨some 67, _, _, _, _, _⟩ :: _) _ _); refine wpList_load_mid rfl 41 (.tmp 66) rfl b (off + i * 5) rfl (argVC a) _ HCr.out Tryd.underlying41 rfl Tryd.stepVSize ?_)
          | (go_at_call 11; refine hst.mono ?_; rintro e w5 ⟨dm5, q5, m5, rm5, p5, lm5, rfl, hd5, hm5, hl5, ht5⟩; have T5 := Lib.hid ht5; have D5 := Lib.hid hd5; have M5 := Lib.hid hm5; have L5 := Lib.hid hl5; clear hd5 hm5 hl5 ht5))
        obtain ⟨S, hS⟩ : ∃ S, stepW dm.d m.d a = S := ⟨_, rfl⟩
        rw [hS] at T5 D5 M5 L5 HBs
        clear hS hst
        have HLn : Hid (m5.rows.length = S.2.all.length ∧ m5.size = S.2.size ∧ m5.dead = S.2.dead ∧ m5.rows.map (·.l) = S.2.all) := ⟨WlM.d_len M5.out, WlM.d_size M5.out, congrArg LgD.dead M5.out, congrArg LgD.all M5.out⟩
        have HLl : Hid (lm5.rows.length = S.2.all.length ∧ lm5.size = S.2.size ∧ lm5.dead = S.2.dead ∧ lm5.rows.map (·.l) = S.2.all) := ⟨WlM.d_len L5.out, WlM.d_size L5.out, congrArg LgD.dead L5.out, congrArg LgD.all L5.out⟩
        have HRows : Hid (S.2.all.length ≤ 500000 ∧ ∀ x ∈ S.2.all, x.length ≤ 500000) := by
          have h1 := HBs.out.rows
          have h2 := HBs.out.y
          have h3 := HBs.out.z
          have h4 := HI25.out
          refine ⟨by omega, fun x hx => ?_⟩
          have h5 : ∀ (L : List (List UInt8)), ∀ x ∈ L, x.length ≤ sizeL L := by
            intro L
            induction L with
            | nil => intro x hx; cases hx
            | cons y L ih =>
              intro x hx
              have e : sizeL (y :: L) = (20 + y.length) + sizeL L := by unfold sizeL; rw [List.map_cons, List.sum_cons]
              rcases List.mem_cons.1 hx with rfl | hx
              · omega
              · have := ih x hx; omega
          have := h5 _ x hx
          omega
        have n2 : w5.drew.cell? ⟨p5, 2, none⟩ = some (.slice lm5.A S.2.all.length lm5.c) := by have h : w5.cell? ⟨p5, 2, none⟩ = some (.slice lm5.A lm5.rows.length lm5.c) := T5.out.b.l.b.cell 2; rw [HLl.out.1] at h; exact h
        have n3 : w5.drew.cell? ⟨p5, 3, none⟩ = some (.int .i64 (S.2.size : Int)) := by have h : w5.cell? ⟨p5, 3, none⟩ = some (.int .i64 (lm5.size : Int)) := T5.out.b.l.b.cell 3; rw [HLl.out.2.1] at h; exact h
        have n4 : w5.drew.cell? ⟨p5, 4, none⟩ = some (.bool S.2.dead) := by have h : w5.cell? ⟨p5, 4, none⟩ = some (.bool lm5.dead) := T5.out.b.l.b.cell 4; rw [HLl.out.2.2.1] at h; exact h
        have cLen := wlen_any w5.drew q5 d m5 (T5.out.below (Below.refl _ w5).drew).a.l
        have cSize := wsize_any w5.drew q5 d m5 (T5.out.below (Below.refl _ w5).drew).a.l
        have cDead := wdead_any w5.drew q5 d m5 (T5.out.below (Below.refl _ w5).drew).a.l
        rw [HLn.out.1] at cLen
        rw [HLn.out.2.1] at cSize
        rw [HLn.out.2.2.1] at cDead
        have cSame : Hid (∀ W most, TwoL w W d dm5 q5 m5 g rm5 p5 lm5 S.1 → Calls Tryd.prog 15 #[.pointer (some ⟨q5, 0, none⟩), .slice lm5.A S.2.all.length lm5.c, .int .i64 most] W fun e w' => e = .returned (.bool true) ∧ Below W.heap.size W w') := fun W most ht => by
          have h := wsame_any W q5 d m5 ht.a.l (fun r hr => by
            have h1 : r.l ∈ m5.rows.map (·.l) := List.mem_map.2 ⟨r, hr, rfl⟩
            rw [HLn.out.2.2.2] at h1
            have := HRows.out.2 _ h1
            omega) (by rw [HLn.out.1]; have := HRows.out.1; omega) lm5.A lm5.c lm5.rows ht.b.l.want (by rw [HLl.out.1]; have := HRows.out.1; omega) most
          rw [HLn.out.2.2.2, HLl.out.2.2.2, sameB_self, HLl.out.1] at h
          exact h
        have HcLen := Lib.hid cLen
        have HcSize := Lib.hid cSize
        have HcDead := Lib.hid cDead
        have T5d : Hid (TwoL w w5.drew d dm5 q5 m5 g rm5 p5 lm5 S.1) := T5.out.below (Below.refl _ w5).drew
        have HQ5 : Hid (p5 < w5.drew.heap.size) := T5d.out.b.l.b.lt
        obtain ⟨sn, hsn⟩ : ∃ n, S.2.all.length = n := ⟨_, rfl⟩
        obtain ⟨sz, hsz⟩ : ∃ n, S.2.size = n := ⟨_, rfl⟩
        obtain ⟨sd, hsd⟩ : ∃ n, S.2.dead = n := ⟨_, rfl⟩
        rw [hsn] at n2 HcLen cSame
        rw [hsz] at n3 HcSize
        rw [hsd] at n4 HcDead
        clear hsn hsz hsd cLen cSize cDead
        have hdd : (sd == sd) = true := by cases sd <;> rfl
        go_upto_region 15 with fail
        refine wp_region_held_drew (S := fun W => W.cell? ⟨p5, 2, none⟩ = some (.slice lm5.A sn lm5.c) ∧ W.cell? ⟨p5, 3, none⟩ = some (.int .i64 (sz : Int)) ∧ W.cell? ⟨p5, 4, none⟩ = some (.bool sd)) (by kernel_rfl) ⟨n2, n3, n4⟩ (fun hHeld => ?_)
        refine wpAnyH_take (i := 0) (oi := ⟨_, _, _, _, _, _⟩) (v := ?_) rfl (by kernel_rfl) (by kernel_rfl) (by kernel_rfl) (fun _ _ _ h => h) (Or.inl ⟨by rfl, ?_⟩) (by assumption) ?_
        rotate_left 1
        · intro W hSw
          try dsimp only at hSw
          obtain ⟨hs1, hs2, hs3⟩ := hSw
          go_simp
          try with_reducible rfl
        try simp only [Act.put, List.setIfInBounds_toArray, List.set_cons_zero, List.set_cons_succ]
        refine wpAnyH_take (i := 1) (oi := ⟨_, _, _, _, _, _⟩) (v := ?_) rfl (by kernel_rfl) (by kernel_rfl) (by kernel_rfl) (fun _ _ _ h => h) (Or.inl ⟨by rfl, ?_⟩) (by assumption) ?_
        rotate_left 1
        · intro W hSw
          try dsimp only at hSw
          obtain ⟨hs1, hs2, hs3⟩ := hSw
          go_simp
          try with_reducible rfl
        try simp only [Act.put, List.setIfInBounds_toArray, List.set_cons_zero, List.set_cons_succ]
        refine wpAnyH_take (i := 2) (oi := ⟨_, _, _, _, _, _⟩) (v := ?_) rfl (by kernel_rfl) (by kernel_rfl) (by kernel_rfl) (fun _ _ _ h => h) (Or.inl ⟨by rfl, ?_⟩) (by assumption) ?_
        rotate_left 1
        · intro W hSw
          try dsimp only at hSw
          obtain ⟨hs1, hs2, hs3⟩ := hSw
          go_simp
          try with_reducible rfl
        try simp only [Act.put, List.setIfInBounds_toArray, List.set_cons_zero, List.set_cons_succ]
        refine wpAnyH_take (i := 3) (oi := ⟨_, _, _, _, _, _⟩) (v := ?_) rfl (by kernel_rfl) (by kernel_rfl) (by kernel_rfl) (fun _ _ _ h => h) (Or.inl ⟨by rfl, ?_⟩) (by assumption) ?_
        rotate_left 1
        · intro W hSw
          try dsimp only at hSw
          obtain ⟨hs1, hs2, hs3⟩ := hSw
          go_simp
          try with_reducible rfl
        try simp only [Act.put, List.setIfInBounds_toArray, List.set_cons_zero, List.set_cons_succ]
        refine wpAnyH_take (i := 5) (oi := ⟨_, _, _, _, _, _⟩) (v := ?_) rfl (by kernel_rfl) (by kernel_rfl) (by kernel_rfl) (fun _ _ _ h => h) (Or.inl ⟨by rfl, ?_⟩) (by assumption) ?_
        rotate_left 1
        · intro W hSw
          try dsimp only at hSw
          obtain ⟨hs1, hs2, hs3⟩ := hSw
          go_simp
          try with_reducible rfl
        try simp only [Act.put, List.setIfInBounds_toArray, List.set_cons_zero, List.set_cons_succ]
        refine wpAnyH_take (i := 6) (oi := ⟨_, _, _, _, _, _⟩) (v := ?_) rfl (by kernel_rfl) (by kernel_rfl) (by kernel_rfl) (fun _ _ _ h => h) (Or.inl ⟨by rfl, ?_⟩) (by assumption) ?_
        rotate_left 1
        · intro W hSw
          try dsimp only at hSw
          obtain ⟨hs1, hs2, hs3⟩ := hSw
          go_simp
          try with_reducible rfl
        try simp only [Act.put, List.setIfInBounds_toArray, List.set_cons_zero, List.set_cons_succ]
        refine wpAnyH_take (i := 7) (oi := ⟨_, _, _, _, _, _⟩) (v := ?_) rfl (by kernel_rfl) (by kernel_rfl) (by kernel_rfl) (fun _ _ _ h => h) (Or.inl ⟨by rfl, ?_⟩) (by assumption) ?_
        rotate_left 1
        · intro W hSw
          try dsimp only at hSw
          obtain ⟨hs1, hs2, hs3⟩ := hSw
          go_simp
          try with_reducible rfl
        try simp only [Act.put, List.setIfInBounds_toArray, List.set_cons_zero, List.set_cons_succ]
        refine wpAnyH_take (i := 8) (oi := ⟨_, _, _, _, _, _⟩) (v := ?_) rfl (by kernel_rfl) (by kernel_rfl) (by kernel_rfl) (fun _ _ _ h => h) (Or.inl ⟨by rfl, ?_⟩) (by assumption) ?_
        rotate_left 1
        · intro W hSw
          try dsimp only at hSw
          obtain ⟨hs1, hs2, hs3⟩ := hSw
          go_simp
          try with_reducible rfl
        try simp only [Act.put, List.setIfInBounds_toArray, List.set_cons_zero, List.set_cons_succ]
        refine wpAnyH_take (i := 9) (oi := ⟨_, _, _, _, _, _⟩) (v := ?_) rfl (by kernel_rfl) (by kernel_rfl) (by kernel_rfl) (fun _ _ _ h => h) (Or.inl ⟨by rfl, ?_⟩) (by assumption) ?_
        rotate_left 1
        · intro W hSw
          try dsimp only at hSw
          obtain ⟨hs1, hs2, hs3⟩ := hSw
          go_simp
          try with_reducible rfl
        try simp only [Act.put, List.setIfInBounds_toArray, List.set_cons_zero, List.set_cons_succ]
        refine wpAnyH_ready (rs := [4]) (by kernel_rfl) (by simp) ?_
        refine AllReadyH.cons rfl (fun K hK => ?_) AllReadyH.nil
        go_simp
        go_at_call 12
        refine HcLen.out.mono ?_
        rintro e wn ⟨rfl, hwn⟩
        obtain rfl := hwn.symm
        refine hK.out _ _ ⟨n2, n3, n4⟩ (fun hSn => ?_)
        clear hK K
        try simp only [Act.put, List.setIfInBounds_toArray, List.set_cons_zero, List.set_cons_succ]
        refine wpAnyH_take (i := 10) (oi := ⟨_, _, _, _, _, _⟩) (v := ?_) rfl (by kernel_rfl) (by kernel_rfl) (by kernel_rfl) (fun _ _ _ h => h) (Or.inl ⟨by rfl, ?_⟩) (by assumption) ?_
        rotate_left 1
        · intro W hSw
          try dsimp only at hSw
          obtain ⟨hs1, hs2, hs3⟩ := hSw
          go_simp
          try with_reducible rfl
        try simp only [Act.put, List.setIfInBounds_toArray, List.set_cons_zero, List.set_cons_succ]
        refine wpAnyH_take (i := 11) (oi := ⟨_, _, _, _, _, _⟩) (v := ?_) rfl (by kernel_rfl) (by kernel_rfl) (by kernel_rfl) (fun _ _ _ h => h) (Or.inl ⟨by rfl, ?_⟩) (by assumption) ?_
        rotate_left 1
        · intro W hSw
          try dsimp only at hSw
          obtain ⟨hs1, hs2, hs3⟩ := hSw
          go_simp
          try with_reducible rfl
        try simp only [Act.put, List.setIfInBounds_toArray, List.set_cons_zero, List.set_cons_succ]
        refine wpAnyH_take (i := 12) (oi := ⟨_, _, _, _, _, _⟩) (v := ?_) rfl (by kernel_rfl) (by kernel_rfl) (by kernel_rfl) (fun _ _ _ h => h) (Or.inl ⟨by rfl, ?_⟩) (by assumption) ?_
        rotate_left 1
        · intro W hSw
          try dsimp only at hSw
          obtain ⟨hs1, hs2, hs3⟩ := hSw
          go_simp
          try with_reducible rfl
        try simp only [Act.put, List.setIfInBounds_toArray, List.set_cons_zero, List.set_cons_succ]
        refine wpAnyH_take (i := 13) (oi := ⟨_, _, _, _, _, _⟩) (v := ?_) rfl (by kernel_rfl) (by kernel_rfl) (by kernel_rfl) (fun _ _ _ h => h) (Or.inl ⟨by rfl, ?_⟩) (by assumption) ?_
        rotate_left 1
        · intro W hSw
          try dsimp only at hSw
          obtain ⟨hs1, hs2, hs3⟩ := hSw
          go_simp
          try with_reducible rfl
        try simp only [Act.put, List.setIfInBounds_toArray, List.set_cons_zero, List.set_cons_succ]
        refine wpAnyH_take (i := 15) (oi := ⟨_, _, _, _, _, _⟩) (v := ?_) rfl (by kernel_rfl) (by kernel_rfl) (by kernel_rfl) (fun _ _ _ h => h) (Or.inl ⟨by rfl, ?_⟩) (by assumption) ?_
        rotate_left 1
        · intro W hSw
          try dsimp only at hSw
          obtain ⟨hs1, hs2, hs3⟩ := hSw
          go_simp
          try with_reducible rfl
        try simp only [Act.put, List.setIfInBounds_toArray, List.set_cons_zero, List.set_cons_succ]
        refine wpAnyH_take (i := 16) (oi := ⟨_, _, _, _, _, _⟩) (v := ?_) rfl (by kernel_rfl) (by kernel_rfl) (by kernel_rfl) (fun _ _ _ h => h) (Or.inl ⟨by rfl, ?_⟩) (by assumption) ?_
        rotate_left 1
        · intro W hSw
          try dsimp only at hSw
          obtain ⟨hs1, hs2, hs3⟩ := hSw
          go_simp
          try with_reducible rfl
        try simp only [Act.put, List.setIfInBounds_toArray, List.set_cons_zero, List.set_cons_succ]
        refine wpAnyH_take (i := 17) (oi := ⟨_, _, _, _, _, _⟩) (v := ?_) rfl (by kernel_rfl) (by kernel_rfl) (by kernel_rfl) (fun _ _ _ h => h) (Or.inl ⟨by rfl, ?_⟩) (by assumption) ?_
        rotate_left 1
        · intro W hSw
          try dsimp only at hSw
          obtain ⟨hs1, hs2, hs3⟩ := hSw
          go_simp
          try with_reducible rfl
        try simp only [Act.put, List.setIfInBounds_toArray, List.set_cons_zero, List.set_cons_succ]
        refine wpAnyH_take (i := 18) (oi := ⟨_, _, _, _, _, _⟩) (v := ?_) rfl (by kernel_rfl) (by kernel_rfl) (by kernel_rfl) (fun _ _ _ h => h) (Or.inl ⟨by rfl, ?_⟩) (by assumption) ?_
        rotate_left 1
        · intro W hSw
          try dsimp only at hSw
          obtain ⟨hs1, hs2, hs3⟩ := hSw
          go_simp
          try with_reducible rfl
        try simp only [Act.put, List.setIfInBounds_toArray, List.set_cons_zero, List.set_cons_succ]
        refine wpAnyH_ready (rs := [14]) (by kernel_rfl) (by simp) ?_
        refine AllReadyH.cons rfl (fun K hK => ?_) AllReadyH.nil
        go_simp
        go_at_call 13
        refine HcSize.out.mono ?_
        rintro e wn ⟨rfl, hwn⟩
        obtain rfl := hwn.symm
        refine hK.out _ _ ⟨n2, n3, n4⟩ (fun hSn => ?_)
        clear hK K
        try simp only [Act.put, List.setIfInBounds_toArray, List.set_cons_zero, List.set_cons_succ]
        refine wpAnyH_take (i := 19) (oi := ⟨_, _, _, _, _, _⟩) (v := ?_) rfl (by kernel_rfl) (by kernel_rfl) (by kernel_rfl) (fun _ _ _ h => h) (Or.inl ⟨by rfl, ?_⟩) (by assumption) ?_
        rotate_left 1
        · intro W hSw
          try dsimp only at hSw
          obtain ⟨hs1, hs2, hs3⟩ := hSw
          go_simp
          try with_reducible rfl
        try simp only [Act.put, List.setIfInBounds_toArray, List.set_cons_zero, List.set_cons_succ]
        refine wpAnyH_take (i := 20) (oi := ⟨_, _, _, _, _, _⟩) (v := ?_) rfl (by kernel_rfl) (by kernel_rfl) (by kernel_rfl) (fun _ _ _ h => h) (Or.inl ⟨by rfl, ?_⟩) (by assumption) ?_
        rotate_left 1
        · intro W hSw
          try dsimp only at hSw
          obtain ⟨hs1, hs2, hs3⟩ := hSw
          go_simp
          try with_reducible rfl
        try simp only [Act.put, List.setIfInBounds_toArray, List.set_cons_zero, List.set_cons_succ]
        refine wpAnyH_take (i := 21) (oi := ⟨_, _, _, _, _, _⟩) (v := ?_) rfl (by kernel_rfl) (by kernel_rfl) (by kernel_rfl) (fun _ _ _ h => h) (Or.inl ⟨by rfl, ?_⟩) (by assumption) ?_
        rotate_left 1
        · intro W hSw
          try dsimp only at hSw
          obtain ⟨hs1, hs2, hs3⟩ := hSw
          go_simp
          try with_reducible rfl
        try simp only [Act.put, List.setIfInBounds_toArray, List.set_cons_zero, List.set_cons_succ]
        refine wpAnyH_take (i := 22) (oi := ⟨_, _, _, _, _, _⟩) (v := ?_) rfl (by kernel_rfl) (by kernel_rfl) (by kernel_rfl) (fun _ _ _ h => h) (Or.inl ⟨by rfl, ?_⟩) (by assumption) ?_
        rotate_left 1
        · intro W hSw
          try dsimp only at hSw
          obtain ⟨hs1, hs2, hs3⟩ := hSw
          go_simp
          try with_reducible rfl
        try simp only [Act.put, List.setIfInBounds_toArray, List.set_cons_zero, List.set_cons_succ]
        refine wpAnyH_take (i := 24) (oi := ⟨_, _, _, _, _, _⟩) (v := ?_) rfl (by kernel_rfl) (by kernel_rfl) (by kernel_rfl) (fun _ _ _ h => h) (Or.inl ⟨by rfl, ?_⟩) (by assumption) ?_
        rotate_left 1
        · intro W hSw
          try dsimp only at hSw
          obtain ⟨hs1, hs2, hs3⟩ := hSw
          go_simp
          try with_reducible rfl
        try simp only [Act.put, List.setIfInBounds_toArray, List.set_cons_zero, List.set_cons_succ]
        refine wpAnyH_take (i := 25) (oi := ⟨_, _, _, _, _, _⟩) (v := ?_) rfl (by kernel_rfl) (by kernel_rfl) (by kernel_rfl) (fun _ _ _ h => h) (Or.inl ⟨by rfl, ?_⟩) (by assumption) ?_
        rotate_left 1
        · intro W hSw
          try dsimp only at hSw
          obtain ⟨hs1, hs2, hs3⟩ := hSw
          go_simp
          try with_reducible rfl
        try simp only [Act.put, List.setIfInBounds_toArray, List.set_cons_zero, List.set_cons_succ]
        refine wpAnyH_take (i := 26) (oi := ⟨_, _, _, _, _, _⟩) (v := ?_) rfl (by kernel_rfl) (by kernel_rfl) (by kernel_rfl) (fun _ _ _ h => h) (Or.inl ⟨by rfl, ?_⟩) (by assumption) ?_
        rotate_left 1
        · intro W hSw
          try dsimp only at hSw
          obtain ⟨hs1, hs2, hs3⟩ := hSw
          go_simp
          try with_reducible rfl
        try simp only [Act.put, List.setIfInBounds_toArray, List.set_cons_zero, List.set_cons_succ]
        refine wpAnyH_take (i := 27) (oi := ⟨_, _, _, _, _, _⟩) (v := ?_) rfl (by kernel_rfl) (by kernel_rfl) (by kernel_rfl) (fun _ _ _ h => h) (Or.inl ⟨by rfl, ?_⟩) (by assumption) ?_
        rotate_left 1
        · intro W hSw
          try dsimp only at hSw
          obtain ⟨hs1, hs2, hs3⟩ := hSw
          go_simp
          try with_reducible rfl
        try simp only [Act.put, List.setIfInBounds_toArray, List.set_cons_zero, List.set_cons_succ]
        refine wpAnyH_ready (rs := [23]) (by kernel_rfl) (by simp) ?_
        refine AllReadyH.cons rfl (fun K hK => ?_) AllReadyH.nil
        go_simp
        go_at_call 14
        refine HcDead.out.mono ?_
        rintro e wn ⟨rfl, hwn⟩
        obtain rfl := hwn.symm
        refine hK.out _ _ ⟨n2, n3, n4⟩ (fun hSn => ?_)
        clear hK K
        try simp only [Act.put, List.setIfInBounds_toArray, List.set_cons_zero, List.set_cons_succ]
        refine wpAnyH_take (i := 28) (oi := ⟨_, _, _, _, _, _⟩) (v := ?_) rfl (by kernel_rfl) (by kernel_rfl) (by kernel_rfl) (fun _ _ _ h => h) (Or.inl ⟨by rfl, ?_⟩) (by assumption) ?_
        rotate_left 1
        · intro W hSw
          try dsimp only at hSw
          obtain ⟨hs1, hs2, hs3⟩ := hSw
          go_simp
          try with_reducible rfl
        try simp only [Act.put, List.setIfInBounds_toArray, List.set_cons_zero, List.set_cons_succ]
        refine wpAnyH_take (i := 29) (oi := ⟨_, _, _, _, _, _⟩) (v := ?_) rfl (by kernel_rfl) (by kernel_rfl) (by kernel_rfl) (fun _ _ _ h => h) (Or.inl ⟨by rfl, ?_⟩) (by assumption) ?_
        rotate_left 1
        · intro W hSw
          try dsimp only at hSw
          obtain ⟨hs1, hs2, hs3⟩ := hSw
          go_simp
          try with_reducible rfl
        try simp only [Act.put, List.setIfInBounds_toArray, List.set_cons_zero, List.set_cons_succ]
        refine wpAnyH_take (i := 30) (oi := ⟨_, _, _, _, _, _⟩) (v := ?_) rfl (by kernel_rfl) (by kernel_rfl) (by kernel_rfl) (fun _ _ _ h => h) (Or.inl ⟨by rfl, ?_⟩) (by assumption) ?_
        rotate_left 1
        · intro W hSw
          try dsimp only at hSw
          obtain ⟨hs1, hs2, hs3⟩ := hSw
          go_simp
          try with_reducible rfl
        try simp only [Act.put, List.setIfInBounds_toArray, List.set_cons_zero, List.set_cons_succ]
        refine wpAnyH_take (i := 31) (oi := ⟨_, _, _, _, _, _⟩) (v := ?_) rfl (by kernel_rfl) (by kernel_rfl) (by kernel_rfl) (fun _ _ _ h => h) (Or.inl ⟨by rfl, ?_⟩) (by assumption) ?_
        rotate_left 1
        · intro W hSw
          try dsimp only at hSw
          obtain ⟨hs1, hs2, hs3⟩ := hSw
          go_simp
          try with_reducible rfl
        try simp only [Act.put, List.setIfInBounds_toArray, List.set_cons_zero, List.set_cons_succ]
        refine wpAnyH_take (i := 32) (oi := ⟨_, _, _, _, _, _⟩) (v := ?_) rfl (by kernel_rfl) (by kernel_rfl) (by kernel_rfl) (fun _ _ _ h => h) (Or.inl ⟨by rfl, ?_⟩) (by assumption) ?_
        rotate_left 1
        · intro W hSw
          try dsimp only at hSw
          obtain ⟨hs1, hs2, hs3⟩ := hSw
          go_simp
          try with_reducible rfl
        try simp only [Act.put, List.setIfInBounds_toArray, List.set_cons_zero, List.set_cons_succ]
        refine wpAnyH_take (i := 33) (oi := ⟨_, _, _, _, _, _⟩) (v := ?_) rfl (by kernel_rfl) (by kernel_rfl) (by kernel_rfl) (fun _ _ _ h => h) (Or.inl ⟨by rfl, ?_⟩) (by assumption) ?_
        rotate_left 1
        · intro W hSw
          try dsimp only at hSw
          obtain ⟨hs1, hs2, hs3⟩ := hSw
          go_simp
          try with_reducible rfl
        try simp only [Act.put, List.setIfInBounds_toArray, List.set_cons_zero, List.set_cons_succ]
        refine wpAnyH_take (i := 34) (oi := ⟨_, _, _, _, _, _⟩) (v := ?_) rfl (by kernel_rfl) (by kernel_rfl) (by kernel_rfl) (fun _ _ _ h => h) (Or.inl ⟨by rfl, ?_⟩) (by assumption) ?_
        rotate_left 1
        · intro W hSw
          try dsimp only at hSw
          obtain ⟨hs1, hs2, hs3⟩ := hSw
          go_simp
          try with_reducible rfl
        try simp only [Act.put, List.setIfInBounds_toArray, List.set_cons_zero, List.set_cons_succ]
        refine wpAnyH_take (i := 35) (oi := ⟨_, _, _, _, _, _⟩) (v := ?_) rfl (by kernel_rfl) (by kernel_rfl) (by kernel_rfl) (fun _ _ _ h => h) (Or.inl ⟨by rfl, ?_⟩) (by assumption) ?_
        rotate_left 1
        · intro W hSw
          try dsimp only at hSw
          obtain ⟨hs1, hs2, hs3⟩ := hSw
          go_simp
          try with_reducible rfl
        try simp only [Act.put, List.setIfInBounds_toArray, List.set_cons_zero, List.set_cons_succ]
        refine wpAnyH_ready (rs := [36]) (by kernel_rfl) (by simp) ?_
        refine AllReadyH.cons rfl (fun K hK => ?_) AllReadyH.nil
        go_simp
        go_at_call 15
        refine (cSame.out _ _ T5d.out).mono ?_
        rintro e w6 ⟨rfl, hb6⟩
        have T6 : Hid (TwoL w w6 d dm5 q5 m5 g rm5 p5 lm5 S.1) := T5d.out.below hb6
        have HQ6 : Hid (p5 < w6.heap.size) := Nat.lt_of_lt_of_le HQ5.out hb6.size
        have k6 : w6.cell? ⟨p5, 2, none⟩ = some (.slice lm5.A sn lm5.c) ∧ w6.cell? ⟨p5, 3, none⟩ = some (.int .i64 (sz : Int)) ∧ w6.cell? ⟨p5, 4, none⟩ = some (.bool sd) := ⟨(hb6.cell (p := ⟨p5, 2, none⟩) HQ5.out).trans n2, (hb6.cell (p := ⟨p5, 3, none⟩) HQ5.out).trans n3, (hb6.cell (p := ⟨p5, 4, none⟩) HQ5.out).trans n4⟩
        clear hb6
        refine hK.out _ _ k6 (fun hSn => ?_)
        clear hK K
        try simp only [Act.put, List.setIfInBounds_toArray, List.set_cons_zero, List.set_cons_succ]
        refine wpAnyH_take (i := 37) (oi := ⟨_, _, _, _, _, _⟩) (v := ?_) rfl (by kernel_rfl) (by kernel_rfl) (by kernel_rfl) (fun _ _ _ h => h) (Or.inl ⟨by rfl, ?_⟩) (by assumption) ?_
        rotate_left 1
        · intro W hSw
          try dsimp only at hSw
          obtain ⟨hs1, hs2, hs3⟩ := hSw
          go_simp
          try with_reducible rfl
        try simp only [Act.put, List.setIfInBounds_toArray, List.set_cons_zero, List.set_cons_succ]
        refine wpAnyH_take (i := 38) (oi := ⟨_, _, _, _, _, _⟩) (v := ?_) rfl (by kernel_rfl) (by kernel_rfl) (by kernel_rfl) (fun _ _ _ h => h) (Or.inl ⟨by rfl, ?_⟩) (by assumption) ?_
        rotate_left 1
        · intro W hSw
          try dsimp only at hSw
          obtain ⟨hs1, hs2, hs3⟩ := hSw
          go_simp
          try with_reducible rfl
        try simp only [Act.put, List.setIfInBounds_toArray, List.set_cons_zero, List.set_cons_succ]
        refine wpAnyH_take (i := 39) (oi := ⟨_, _, _, _, _, _⟩) (v := ?_) rfl (by kernel_rfl) (by kernel_rfl) (by kernel_rfl) (fun _ _ _ h => h) (Or.inl ⟨by rfl, ?_⟩) (by assumption) ?_
        rotate_left 1
        · intro W hSw
          try dsimp only at hSw
          obtain ⟨hs1, hs2, hs3⟩ := hSw
          go_simp
          try with_reducible rfl
        try simp only [Act.put, List.setIfInBounds_toArray, List.set_cons_zero, List.set_cons_succ]
        refine wpAnyH_take (i := 40) (oi := ⟨_, _, _, _, _, _⟩) (v := ?_) rfl (by kernel_rfl) (by kernel_rfl) (by kernel_rfl) (fun _ _ _ h => h) (Or.inl ⟨by rfl, ?_⟩) (by assumption) ?_
        rotate_left 1
        · intro W hSw
          try dsimp only at hSw
          obtain ⟨hs1, hs2, hs3⟩ := hSw
          go_simp
          try with_reducible rfl
        try simp only [Act.put, List.setIfInBounds_toArray, List.set_cons_zero, List.set_cons_succ]
        refine wpAnyH_take (i := 41) (oi := ⟨_, _, _, _, _, _⟩) (v := ?_) rfl (by kernel_rfl) (by kernel_rfl) (by kernel_rfl) (fun _ _ _ h => h) (Or.inl ⟨by rfl, ?_⟩) (by assumption) ?_
        rotate_left 1
        · intro W hSw
          try dsimp only at hSw
          obtain ⟨hs1, hs2, hs3⟩ := hSw
          go_simp
          try with_reducible rfl
        try simp only [Act.put, List.setIfInBounds_toArray, List.set_cons_zero, List.set_cons_succ]
        refine wpAnyH_take (i := 42) (oi := ⟨_, _, _, _, _, _⟩) (v := ?_) rfl (by kernel_rfl) (by kernel_rfl) (by kernel_rfl) (fun _ _ _ h => h) (Or.inl ⟨by rfl, ?_⟩) (by assumption) ?_
        rotate_left 1
        · intro W hSw
          try dsimp only at hSw
          obtain ⟨hs1, hs2, hs3⟩ := hSw
          go_simp
          try with_reducible rfl
        try simp only [Act.put, List.setIfInBounds_toArray, List.set_cons_zero, List.set_cons_succ]
        refine wpAnyH_take (i := 43) (oi := ⟨_, _, _, _, _, _⟩) (v := ?_) rfl (by kernel_rfl) (by kernel_rfl) (by kernel_rfl) (fun _ _ _ h => h) (Or.inl ⟨by rfl, ?_⟩) (by assumption) ?_
        rotate_left 1
        · intro W hSw
          try dsimp only at hSw
          obtain ⟨hs1, hs2, hs3⟩ := hSw
          go_simp
          try with_reducible rfl
        try simp only [Act.put, List.setIfInBounds_toArray, List.set_cons_zero, List.set_cons_succ]
        refine wpAnyH_take (i := 44) (oi := ⟨_, _, _, _, _, _⟩) (v := ?_) rfl (by kernel_rfl) (by kernel_rfl) (by kernel_rfl) (fun _ _ _ h => h) (Or.inl ⟨by rfl, ?_⟩) (by assumption) ?_
        rotate_left 1
        · intro W hSw
          try dsimp only at hSw
          obtain ⟨hs1, hs2, hs3⟩ := hSw
          go_simp
          try with_reducible rfl
        try simp only [Act.put, List.setIfInBounds_toArray, List.set_cons_zero, List.set_cons_succ]
        refine wpAnyH_take (i := 45) (oi := ⟨_, _, _, _, _, _⟩) (v := ?_) rfl (by kernel_rfl) (by kernel_rfl) (by kernel_rfl) (fun _ _ _ h => h) (Or.inl ⟨by rfl, ?_⟩) (by assumption) ?_
        rotate_left 1
        · intro W hSw
          try dsimp only at hSw
          obtain ⟨hs1, hs2, hs3⟩ := hSw
          go_simp
          try with_reducible rfl
        try simp only [Act.put, List.setIfInBounds_toArray, List.set_cons_zero, List.set_cons_succ]
        refine wpAnyH_ready (rs := [46]) (by kernel_rfl) (by simp) ?_
        refine AllReadyH.cons rfl (fun K hK => ?_) AllReadyH.nil
        go_simp
        go_at_call 15
        refine (cSame.out _ _ T6.out).mono ?_
        rintro e w7 ⟨rfl, hb7⟩
        have T7 : Hid (TwoL w w7 d dm5 q5 m5 g rm5 p5 lm5 S.1) := T6.out.below hb7
        have k7 : w7.cell? ⟨p5, 2, none⟩ = some (.slice lm5.A sn lm5.c) ∧ w7.cell? ⟨p5, 3, none⟩ = some (.int .i64 (sz : Int)) ∧ w7.cell? ⟨p5, 4, none⟩ = some (.bool sd) := ⟨(hb7.cell (p := ⟨p5, 2, none⟩) HQ6.out).trans k6.1, (hb7.cell (p := ⟨p5, 3, none⟩) HQ6.out).trans k6.2.1, (hb7.cell (p := ⟨p5, 4, none⟩) HQ6.out).trans k6.2.2⟩
        clear hb7
        refine hK.out _ _ k7 (fun hSn => ?_)
        clear hK K
        try simp only [Act.put, List.setIfInBounds_toArray, List.set_cons_zero, List.set_cons_succ]
        refine wpAnyH_take (i := 47) (oi := ⟨_, _, _, _, _, _⟩) (v := ?_) rfl (by kernel_rfl) (by kernel_rfl) (by kernel_rfl) (fun _ _ _ h => h) (Or.inl ⟨by rfl, ?_⟩) (by assumption) ?_
        rotate_left 1
        · intro W hSw
          try dsimp only at hSw
          obtain ⟨hs1, hs2, hs3⟩ := hSw
          go_simp
          try with_reducible rfl
        try simp only [Act.put, List.setIfInBounds_toArray, List.set_cons_zero, List.set_cons_succ]
        refine wpAnyH_take (i := 48) (oi := ⟨_, _, _, _, _, _⟩) (v := ?_) rfl (by kernel_rfl) (by kernel_rfl) (by kernel_rfl) (fun _ _ _ h => h) (Or.inl ⟨by rfl, ?_⟩) (by assumption) ?_
        rotate_left 1
        · intro W hSw
          try dsimp only at hSw
          obtain ⟨hs1, hs2, hs3⟩ := hSw
          go_simp
          try with_reducible rfl
        try simp only [Act.put, List.setIfInBounds_toArray, List.set_cons_zero, List.set_cons_succ]
        refine wpAnyH_done (by kernel_rfl) ?_ _
        have IN5 : Hid (PlInv w w7 d dm5 q5 m5 g rm5 p5 lm5 (i + 1)) := ⟨by rw [D5.out]; exact T7.out, by rw [L5.out, M5.out], by rw [D5.out, M5.out]; exact HBs.out⟩
        go_wp2
        go_roundw
        case rel => exact ⟨_, _, _, _, ⟨i + 1, by omega, q5, rfl, p5, rfl, by go_num, dm5, m5, rm5, lm5, IN5⟩, rfl, rfl, rfl, rfl⟩
        case measure => simp [intOf] <;> omega
      · have hin : ¬ (i : Int) < (l.length : Int) := by omega
        have hin2 : decide ((i : Int) < (l.length : Int)) = false := decide_eq_false hin
        go_wp2_with (first
          | (go_at_call 5; refine (wknown_any wr (HT.out.later VR.out)).mono ?_; rintro e wk ⟨rfl, hbk⟩; have VK := Lib.hid hbk; clear hbk))
        go_ret
        exact ⟨rfl, nxTrD VR.out VK.out⟩
  · rw [if_neg hm] at HON
    go_wp2_with (first
      | (go_at_call 6; refine (newDisk_law _).mono ?_; rintro e w1 ⟨d, rfl, hd⟩; have D1 := Lib.hid hd; clear hd)
      | (go_at_call 7; refine (rnew_any w1).mono ?_; unfold ptrD; rintro e w2 ⟨g, rm, rfl, h1, h2, h3, h4⟩; have G2 := Lib.hid h1; have N2 := Lib.hid h2; have R2 := Lib.hid h3; have V2 := Lib.hid h4; clear h1 h2 h3 h4; (have D2 : Hid (DiskW w w2 d newM) := D1.out.below V2.out); (have T2 : Hid (Tabs w2) := HT.out.later D2.out.v))
      | (go_at_call 8; refine (open_any w2 T2.out d newM D2.out.k D2.out.wf (by rw [DkM.wlen, newM_d]; exact Nat.zero_le _) log).mono ?_; unfold OpenPost; rw [newM_d, HON.out]; rintro e w3 ⟨dm3, hd3, ht3, ⟨-, rfl⟩ | ⟨h00, -⟩⟩ <;> first | exact absurd h00 (by decide) | skip; have T3 := Lib.hid ht3; clear hd3 ht3; (have NF : Hid (∀ j, allR g rm j → ¬ foot d newM j) := fun j hj hf => by have h1 := newM_foot d j hf; have h2 := N2.out j hj; have h3 := D1.out.k.lt; omega); (have G3 : Hid (RfOk w3 g rm) := G2.out.later T3.out.k (fun j hj => NF.out j (.inl hj)) (fun r hr j hj => NF.out j (.inr ⟨r, hr, hj⟩))); (have V3 : Hid (Below w.heap.size w w3) := D2.out.v.trans (T3.out.k.below D2.out.v.size (fun j hj hf => by have h1 := newM_foot d j hf; subst h1; have := D2.out.n j (.inl rfl); omega))))
      | (go_at_call 9; refine (ropen_any w3 (HT.out.later V3.out) g rm newD G3.out R2.out newD_wf (by rw [R2.out.Wl]; exact Nat.zero_le _) log (by rw [show logB newD log = [] by unfold logB rowD newD; rw [List.getD_eq_getElem?_getD, List.getElem?_replicate]; split <;> rfl]; exact Nat.zero_le _)).mono ?_; unfold ROpenPost; rw [HON.out]; rintro e w4 ⟨rm4, -, ht4, ⟨-, rfl⟩ | ⟨h00, -⟩⟩ <;> first | exact absurd h00 (by decide) | skip; have V4 : Hid (Below w.heap.size w w4) := V3.out.trans (ht4.k.below V3.out.size (fun j hj hf => by have h1 := N2.out j (.inl hf); have h2 := D1.out.v.size; omega)); clear ht4)
      | (go_at_call 10; refine (num_any _ _).mono ?_; rintro e wn ⟨rfl, hwn⟩; obtain rfl := hwn.symm)
      | (go_at_call 5; refine (wknown_any w4 (HT.out.later V4.out)).mono ?_; rintro e wk ⟨rfl, hbk⟩; have VK := Lib.hid hbk; clear hbk))
    go_ret
    exact ⟨rfl, nxTrD V4.out VK.out⟩
end Go.Proofs.YthamlphebnhcpaaDoor

namespace Go.Proofs.YthamlphebnhcpaaDoor
open Go.ChangeShapes Go.WideShapes Go.ChangeAt Go.RowKit Go.Deep

theorem Tryd.cellsInt : Tryd.prog.cellsOf 3 = 1 := by kernel_rfl
theorem Tryd.cellsStepV : Tryd.prog.cellsOf 41 = 5 := by kernel_rfl
section
variable {H : Type} {enc : TypeId × Value → H} {w : World} {base : Nat} {held : Bool}
/-- Rows of rows of one length that lie behind one another. -/
theorem rows_seenD {a : Addr} {len n : Nat} {L : List (List Value)} (hL : L.length = len) (hn : 0 < n) (h : ∀ r ∈ L, r.length = n) (hc : ∀ i (hi : i < len) (j : Nat) (v : Value), (L[i]'(by omega))[j]? = some v → w.cell? ((a.add (i * n)).add j) = some v) : SeesV w w.heap.size (some a) L.flatten := by
  by_cases h0 : len = 0
  · left; rw [List.eq_nil_of_length_eq_zero (hL.trans h0)]; rfl
  · right
    have hl0 : (L[0]'(by omega)).length = n := h _ (List.getElem_mem _)
    have hc0 := hc 0 (by omega) 0 _ (List.getElem?_eq_getElem (by omega))
    obtain ⟨b, off, spot⟩ := a
    have hsp : spot = none := by
      cases spot with
      | none => rfl
      | some s =>
        exfalso
        simp only [Addr.add, World.cell?] at hc0
        split at hc0 <;> simp at hc0
    subst hsp
    simp only [Addr.add_lit] at hc hc0
    refine ⟨b, off, rfl, World.block_lt_of_cell? _ _ hc0, fun j hj => ?_⟩
    have hfl := flat_lenD h
    have hjl : j < len * n := by rw [hfl, hL] at hj; exact hj
    have hk : j / n < len := Nat.div_lt_of_lt_mul (by rw [Nat.mul_comm]; exact hjl)
    have hm : j % n < n := Nat.mod_lt _ hn
    have h2 := flat_atD h (k := j / n) (by omega) (j % n) hm
    have e : j / n * n + j % n = j := by rw [Nat.mul_comm]; exact Nat.div_add_mod j n
    rw [e, List.getElem?_eq_getElem hj] at h2
    have h3 := hc (j / n) hk (j % n) _ h2.symm
    rw [show off + j / n * n + j % n = off + j by omega] at h3
    exact h3

/-- A step that was read. -/
theorem five_of {α : Type} {cs : List α} (h : cs.length = 5) : ∃ c0 c1 c2 c3 c4, cs = [c0, c1, c2, c3, c4] := by
  match cs, h with
  | [c0, c1, c2, c3, c4], _ => exact ⟨c0, c1, c2, c3, c4, rfl⟩
theorem read_stepV {fuel : Nat} {cs : List Value} {x : DataW H × List MemPlace} (h : DataW.trod enc Tryd.prog w base (fun _ => true) held fuel 41 cs = some x) :
    ∃ p : ArgV, cs = argVC p ∧ ArgVOk w p := by
  obtain ⟨xs, n, _, _, hlen, hxl, hf⟩ := DataW.trod_struct Tryd.underlying41 h
  rw [Tryd.cellsStepV] at hlen
  have g0 : DataW.trod enc Tryd.prog w base (fun _ => true) held n 3 ((cs.drop 0).take (Tryd.prog.cellsOf 3)) = xs[0]? := hf 0 _ rfl
  have g1 : DataW.trod enc Tryd.prog w base (fun _ => true) held n 3 ((cs.drop 1).take (Tryd.prog.cellsOf 3)) = xs[1]? := hf 1 _ rfl
  have g2 : DataW.trod enc Tryd.prog w base (fun _ => true) held n 3 ((cs.drop 2).take (Tryd.prog.cellsOf 3)) = xs[2]? := hf 2 _ rfl
  have g3 : DataW.trod enc Tryd.prog w base (fun _ => true) held n 5 ((cs.drop 3).take (Tryd.prog.cellsOf 5)) = xs[3]? := hf 3 _ rfl
  have g4 : DataW.trod enc Tryd.prog w base (fun _ => true) held n 39 ((cs.drop 4).take (Tryd.prog.cellsOf 39)) = xs[4]? := hf 4 _ rfl
  have hx : xs.length = 5 := hxl
  rw [Tryd.cellsInt] at g0 g1 g2
  rw [Tryd.cellsU8] at g3
  rw [Tryd.cellsSl] at g4
  rw [take_drop_one (by omega), List.getElem?_eq_getElem (by omega)] at g0 g1 g2 g3 g4
  obtain ⟨k, e0, _, _⟩ := DataW.trod_int Tryd.underlying3 g0
  obtain ⟨m, e1, _, w2⟩ := DataW.trod_int Tryd.underlying3 g1
  obtain ⟨q, e2, _, _⟩ := DataW.trod_int Tryd.underlying3 g2
  obtain ⟨z, e3, _, w4⟩ := DataW.trod_int Tryd.underlying5 g3
  obtain ⟨A, c, l, e4, hs, hm1, hlc, hm2⟩ := read_bytes g4
  have b2 : m < 9223372036854775808 := by
    have h := bounds_i64 w2
    clear hs hm1 hlc hm2
    omega
  refine ⟨⟨k, m, q, UInt8.ofNat z.toNat, A, c, l⟩, ?_, ⟨hs, hlc, b2⟩⟩
  clear hm1 hm2 hlc hs b2 w2
  have e6 := toB_cast w4
  clear w4
  obtain ⟨c0, c1, c2, c3, c4, rfl⟩ := five_of hlen
  simp at e0 e1 e2 e3 e4
  simp only [argVC, e0, e1, e2, e3, e4, e6]
/-- Steps that were read. -/
theorem read_stepsV {fuel : Nat} {cs : List Value} {x : DataW H × List MemPlace} (h : DataW.trod enc Tryd.prog w base (fun _ => true) held fuel 22 cs = some x) :
    ∃ (A : Option Addr) (c : Nat) (L : List ArgV), cs = [.slice A L.length c] ∧ ArgsVOk w A L c := by
  rcases open_slice Tryd.underlying22 h with ⟨hcs, _⟩ | ⟨a, len, cap, m, n, D, Pl, hcs, hb, hl, hm, hmm, _, hi⟩
  · exact ⟨none, 0, [], hcs, ⟨.inl rfl, by intro q hq; exact absurd hq List.not_mem_nil, Nat.le_refl _, by simp⟩⟩
  · simp only [if_true] at hmm
    subst hmm
    rw [Tryd.cellsStepV] at hi
    have hp : ∀ i, i < len → ∃ p : ArgV, ArgVOk w p ∧ ∀ (j : Nat) (v : Value), (argVC p)[j]? = some v → w.cell? ((a.add (i * 5)).add j) = some v := by
      intro i him
      obtain ⟨cs', hc, ht⟩ := hi i (by omega)
      obtain ⟨p, rfl, hok⟩ := read_stepV ht
      obtain ⟨_, _, hat⟩ := World.cells?_some hc
      refine ⟨p, hok, fun j v hv => ?_⟩
      have hj : j < 5 := (List.getElem?_eq_some_iff.1 hv).1
      rw [hat j hj]; exact hv
    obtain ⟨F, hF⟩ : ∃ F : Nat → ArgV, ∀ i, i < len → ArgVOk w (F i) ∧ ∀ (j : Nat) (v : Value), (argVC (F i))[j]? = some v → w.cell? ((a.add (i * 5)).add j) = some v :=
      ⟨fun i => if h : i < len then Classical.choose (hp i h) else ⟨0, 0, 0, 0, none, 0, []⟩, fun i h => by simp only [h, dif_pos]; exact Classical.choose_spec (hp i h)⟩
    have hin : ∀ p ∈ (List.range len).map F, ArgVOk w p := by
      intro p hp
      obtain ⟨i, hi, rfl⟩ := List.mem_map.1 hp
      exact (hF i (List.mem_range.1 hi)).1
    refine ⟨some a, m, (List.range len).map F, by simpa using hcs, ⟨?_, hin, by simpa using hl, by simp only [List.length_map, List.length_range]; simp only [maxLen] at hm; omega⟩⟩
    unfold argsVC
    refine rows_seenD (n := 5) (len := len) (by simp) (by omega) (by intro r hr; obtain ⟨i, h1, rfl⟩ := List.mem_map.1 hr; rfl) (fun i hi j v hv => ?_)
    simp only [List.getElem_map, List.getElem_range] at hv
    exact (hF i hi).2 j v hv
end
end Go.Proofs.YthamlphebnhcpaaDoor
