/-
  disk: the chapter's rows; how much is handed in.
-/
import Derived.Test.YtiagefcjebnopaaDkF
import Derived.Lib.SlBytesConst
namespace Go.Proofs.Ytiagefcjebnopaa
open Go.RowKit

theorem flat_lenD {α : Type} {L : List (List α)} {n : Nat} (h : ∀ r ∈ L, r.length = n) : L.flatten.length = L.length * n := by
  induction L with
  | nil => simp
  | cons a r ih => rw [List.flatten_cons, List.length_append, ih (fun x hx => h x (List.mem_cons_of_mem _ hx)), h a (by simp), List.length_cons, Nat.succ_mul]; omega
theorem flat_atD {α : Type} {L : List (List α)} {n : Nat} (h : ∀ r ∈ L, r.length = n) : ∀ {k : Nat} (hk : k < L.length) (j : Nat) (_ : j < n), L.flatten[k * n + j]? = L[k][j]? := by
  induction L with
  | nil => intro k hk; simp at hk
  | cons a r ih =>
    intro k hk j hj
    have ha : a.length = n := h a (by simp)
    cases k with
    | zero => rw [List.flatten_cons, Nat.zero_mul, Nat.zero_add, List.getElem?_append_left (by omega)]; rfl
    | succ k =>
      rw [List.flatten_cons, List.getElem?_append_right (by rw [ha, Nat.succ_mul]; omega), ha, Nat.succ_mul, show k * n + n + j - n = k * n + j by omega]
      exact ih (fun x hx => h x (List.mem_cons_of_mem _ hx)) (by simpa using hk) j hj
/-- A row of a row of rows, in memory. -/
theorem SeesV.rowD {w : World} {B : Nat} {A : Option Addr} {L : List (List Value)} {n : Nat} (hS : SeesV w B A L.flatten) (h : ∀ r ∈ L, r.length = n) (hn : 0 < n) (h0 : 0 < L.length) :
    ∃ b off, A = some ⟨b, off, none⟩ ∧ b < B ∧ ∀ k (hk : k < L.length), w.rangeAt b (off + k * n) L[k] := by
  have hl := flat_lenD h
  have hp : 0 < L.length * n := Nat.mul_pos h0 hn
  obtain ⟨b, off, hA, hb, hc⟩ := hS.at_ (k := 0) (by omega)
  refine ⟨b, off, hA, hb, fun k hk j v hv => ?_⟩
  have hjl : j < n := by
    have h1 := (List.getElem?_eq_some_iff.1 hv).1
    rw [h _ (List.getElem_mem hk)] at h1
    exact h1
  have hlt : k * n + j < L.flatten.length := by
    rw [hl]
    have : (k + 1) * n ≤ L.length * n := Nat.mul_le_mul_right n (by omega)
    rw [Nat.succ_mul] at this
    omega
  have h2 := flat_atD h hk j hjl
  rw [hv, List.getElem?_eq_getElem hlt] at h2
  rw [Nat.add_assoc, hc _ hlt]
  exact h2

theorem wpList_minD {P : Program} {ops : Array Oper} {rest : List Oper} {o : Oper} {a : Act} {w : World} {Q : Exit → Act → World → Prop} (hg : o.guard = none) (x : Operand) (m : Int) (ho : o.op = .call { callee := .builtin .min, args := #[x, .const (.int .i64 m)], argTypes := #[3, 3] })
    (c n : Int) (hx : a.eval x = .int .i64 c) (hn : (if m < c then m else c) = n) (h : wpList P ops Q rest (a.put o.dst (.int .i64 n)) w) : wpList P ops Q (o :: rest) a w := by
  refine wpList_plain hg fun _ hK => ?_
  unfold Oper.wp execOp
  have hc : a.eval (.const (.int .i64 m)) = .int .i64 m := rfl
  have hr : (Builtin.min_ #[3, 3] o.type #[.int .i64 c, .int .i64 m]).run P w = .ok (.int .i64 n) w := by
    rw [← hn]
    by_cases hmc : m < c
    · rw [if_pos hmc]; simp [Builtin.min_, Builtin.min2, hmc]
    · rw [if_neg hmc]; simp [Builtin.min_, Builtin.min2, hmc]
  simp only [ho, resolve, invoke, builtin, Sem.run_bind, Sem.run_pure, Result.andThen_ok, List.map_toArray, List.map_cons, List.map_nil, hx, hc, hr]
  exact hK _ _ h

def argsC (l : List ArgM) : List Value := (l.map argC).flatten
/-- Steps that are handed in. -/
structure ArgsOk (w : World) (A : Option Addr) (l : List ArgM) (c : Nat) : Prop where
  s : SeesV w w.heap.size A (argsC l)
  a : ∀ a ∈ l, ArgOk w a
  c : l.length ≤ c
  m : l.length ≤ 9223372036854775807
theorem ArgsOk.later {w w' : World} {A : Option Addr} {l : List ArgM} {c : Nat} (h : ArgsOk w A l c) (b : Below w.heap.size w w') : ArgsOk w' A l c := ⟨(h.s.later b).more b.size, fun a m => (h.a a m).later b, h.c, h.m⟩
theorem ArgsOk.row {w : World} {A : Option Addr} {l : List ArgM} {c : Nat} (h : ArgsOk w A l c) (h0 : 0 < l.length) : ∃ b off, A = some ⟨b, off, none⟩ ∧ b < w.heap.size ∧ ∀ k (hk : k < l.length), w.rangeAt b (off + k * 6) (argC l[k]) := by
  obtain ⟨b, off, hA, hb, hr⟩ := SeesV.rowD (n := 6) h.s (by intro r hr; obtain ⟨i, _, rfl⟩ := List.mem_map.1 hr; rfl) (by omega) (by simpa using h0)
  exact ⟨b, off, hA, hb, fun k hk => by have h := hr k (by simpa using hk); rw [List.getElem_map] at h; exact h⟩
/-- What Much answers. -/
def MuchD (w : World) (l : List ArgM) (e : Ending) (w' : World) : Prop := ∃ z : Bool, e = .returned (.bool z) ∧ (z = false → l.length ≤ 60 ∧ ∀ a ∈ l, a.b.length ≤ 20000) ∧ w' = w
theorem MuchD.is {w w' : World} {l : List ArgM} (z : Bool) (hz : z = false → l.length ≤ 60 ∧ ∀ a ∈ l, a.b.length ≤ 20000) (hw : w' = w) : MuchD w l (.returned (.bool z)) w' := ⟨z, rfl, hz, hw⟩
set_option maxHeartbeats 4000000 in
set_option maxRecDepth 100000 in
theorem muchD_any (w : World) (A : Option Addr) (l : List ArgM) (c : Nat) (k : ArgsOk w A l c) : Calls Try.prog 6 #[.slice A l.length c, .int .i64 60] w (MuchD w l) := by
  have HK := Lib.hid k
  have Hm : Hid (l.length ≤ 9223372036854775807) := k.m
  clear k
  go_enter Try.func6, Try.ntmps6
  go_wp2
  go_loopw [5, 6] (fun nv iv wr => ∃ i n : Nat, i ≤ l.length ∧ i ≤ 61 ∧ n ≤ i * 20001 ∧ nv = .int .i64 n ∧ iv = .int .i64 i ∧ Hid (∀ j (hj : j < l.length), j < i → min l[j].b.length 20001 ≤ n) ∧ wr = w) (fun _ iv _ => l.length - (intOf iv).toNat)
  case atStart => exact ⟨0, 0, by omega, by omega, by omega, rfl, rfl, fun j _ h => absurd h (Nat.not_lt_zero _), rfl⟩
  case round =>
    obtain ⟨i, n, hi, hi61, hn, rfl, rfl, HF, rfl⟩ := hrel
    by_cases hlt : i < l.length ∧ i ≤ 60
    · obtain ⟨hlt, h60⟩ := hlt
      have hin : (i : Int) < (l.length : Int) := by omega
      have hin2 : (i : Int) ≤ 60 := by omega
      obtain ⟨b, off, hA, hb, hr⟩ := HK.out.row (by omega)
      have hc := hr i hlt 5 _ rfl
      obtain ⟨a, ha⟩ : ∃ a, l[i] = a := ⟨_, rfl⟩
      rw [ha] at hc
      have HAe : Hid (l[i] = a) := ha
      rw [hA]
      obtain ⟨q, hq⟩ : ∃ q : Nat, min a.b.length 20001 = q := ⟨_, rfl⟩
      have HQ : Hid ((if (20001 : Int) < (a.b.length : Int) then (20001 : Int) else (a.b.length : Int)) = (q : Int)) := by
        show _ = _
        rw [← hq]; split <;> omega
      have hq2 : q ≤ 20001 := by rw [← hq]; exact Nat.min_le_right _ _
      have hwn : IntKind.i64.wrap ((n : Int) + (q : Int)) = (n : Int) + (q : Int) := by rw [IntKind.wrap_i64]; omega
      have hwi : IntKind.i64.wrap ((i : Int) + 1) = (i : Int) + 1 := by rw [IntKind.wrap_i64]; omega
      have HF' : Hid (∀ j (hj : j < l.length), j < i + 1 → min l[j].b.length 20001 ≤ n + q) := by
        intro j hj h
        by_cases h3 : j < i
        · have := HF.out j hj h3; omega
        · obtain rfl : j = i := by omega
          rw [HAe.out, hq]; omega
      have ha2 : Hid (l[i] = a) := ha
      clear hr ha hq hA
      go_wp2_with ((with_reducible show wpList _ _ _ (⟨some 25, _, _, _, _, _⟩ :: _) _ _); refine wpList_minD rfl (.tmp 24) 20001 rfl (a.b.length : Int) (q : Int) rfl HQ.out ?_)
      go_roundw
      case rel => exact ⟨i + 1, n + q, by omega, by omega, by omega, by go_num, by go_num, HF'.out, (by first | rfl | trivial)⟩
      case measure => simp [intOf] <;> omega
    · by_cases hex : i < l.length
      · have h60 : ¬ i ≤ 60 := fun h => hlt ⟨hex, h⟩
        have h1 : (i : Int) < (l.length : Int) := by omega
        have h2 : ¬ (i : Int) ≤ 60 := by omega
        have h3 : decide ((i : Int) ≤ 60) = false := decide_eq_false h2
        have hl : (60 : Int) < (l.length : Int) := by omega
        have hd60 : decide ((60 : Int) < (l.length : Int)) = true := decide_eq_true hl
        clear hlt
        go_wp2
        go_ret
        exact MuchD.is true (fun h => by cases h) rfl
      · have h1 : ¬ (i : Int) < (l.length : Int) := by omega
        have h2 : decide ((i : Int) < (l.length : Int)) = false := decide_eq_false h1
        clear hlt
        by_cases hl : (60 : Int) < (l.length : Int)
        · have hd60 : decide ((60 : Int) < (l.length : Int)) = true := decide_eq_true hl
          go_wp2
          go_ret
          exact MuchD.is true (fun h => by cases h) rfl
        · have hd60 : decide ((60 : Int) < (l.length : Int)) = false := decide_eq_false hl
          have hil : i = l.length := by omega
          have HAll : Hid (n ≤ 20000 → l.length ≤ 60 ∧ ∀ a ∈ l, a.b.length ≤ 20000) := fun h => by
            refine ⟨by omega, fun a ha => ?_⟩
            obtain ⟨j, hj, rfl⟩ := List.getElem_of_mem ha
            have := HF.out j hj (by omega)
            omega
          by_cases hn2 : (20000 : Int) < (n : Int)
          · have hd : decide ((20000 : Int) < (n : Int)) = true := decide_eq_true hn2
            go_wp2
            go_ret
            exact MuchD.is true (fun h => by cases h) rfl
          · have hd : decide ((20000 : Int) < (n : Int)) = false := decide_eq_false hn2
            go_wp2
            go_ret
            exact MuchD.is false (fun _ => HAll.out (by omega)) rfl

theorem Sees.litM (w : World) (l : List UInt8) (t : TypeId) (fr : Nat × Nat) : Sees (w.alloc (.cells (By l).toArray t fr)) (w.heap.size + 1) (some ⟨w.heap.size, 0, none⟩) l := by
  refine .inr ⟨w.heap.size, 0, rfl, by omega, fun i hi => ?_⟩
  rw [Nat.zero_add, World.cell?_alloc_mark]
  simp [By, hi]

/-! the chapter's rows -/
def kn1 : DkD := (appendD newD 0 [97, 98]).1
def kn2 : DkD := (syncD kn1).1
def kn3 : DkD := (appendD kn2 0 [99, 100]).1
theorem kn1_e : appendD newD 0 [97, 98] = (kn1, 0) := rfl
theorem kn2_e : syncD kn1 = (kn2, 0) := rfl
theorem kn3_e : appendD kn2 0 [99, 100] = (kn3, 0) := rfl
theorem kn4_e (k : Nat) (hk : k < 2) : readD (crashD kn3 0 (k : Int)) 0 = ([97, 98, 99].take (2 + k), 0) := by
  match k, hk with
  | 0, _ => rfl
  | 1, _ => rfl
theorem kn_w : kn1.W.length = 1 ∧ kn2.W.length = 0 ∧ kn3.W.length = 1 := ⟨rfl, rfl, rfl⟩
theorem kn1_wf : DkWf kn1 := appendD_wf newD_wf _ _
theorem kn2_wf : DkWf kn2 := syncD_wf kn1_wf
theorem kn3_wf : DkWf kn3 := appendD_wf kn2_wf _ _
theorem DkM.wlen {m : DkM} : m.W.length = m.d.W.length := (List.length_map _).symm
theorem nxTrD {w w1 w2 : World} (h : Below w.heap.size w w1) (h' : Below w1.heap.size w1 w2) : Below w.heap.size w w2 := h.trans ⟨h'.os, h'.tape, h'.output, h'.size, fun b hb => h'.block b (Nat.lt_of_lt_of_le hb h.size)⟩
theorem new_of {w : World} {g : Nat} (hg : w.heap.size ≤ g) : ∀ j, foot g newM j → w.heap.size ≤ j := fun j hj => by rw [newM_foot g j hj]; exact hg
theorem DkTo.fresh {w w1 w2 : World} {g : Nat} {m m' : DkM} (b : Below w.heap.size w w1) (hf : ∀ j, foot g m j → w.heap.size ≤ j) (t : DkTo w1 g m w2 m') : Below w.heap.size w w2 ∧ ∀ j, foot g m' j → w.heap.size ≤ j := by
  refine ⟨b.trans (t.k.below b.size (fun j hj h => by have := hf j h; omega)), fun j hj => ?_⟩
  rcases t.ft j hj with h | h
  · exact hf j h
  · exact Nat.le_trans b.size h

set_option maxHeartbeats 4000000 in
set_option maxRecDepth 100000 in
theorem knownD_any (w : World) : Calls Try.prog 7 #[] w fun e w' => e = .returned (.bool true) ∧ Below w.heap.size w w' := by
  have kc := fun (w : World) (C : Array Value) (n c : Nat) => Lib.run_convert_bytes_const (P := Try.prog) w 23 5 C n c Try.underlying23 Try.underlying5
  go_enter Try.func7, Try.ntmps7
  go_wp2
  go_loopw [1] (fun iv wr => ∃ k : Nat, k ≤ 2 ∧ iv = .int .i64 k ∧ Hid (Below w.heap.size w wr)) (fun iv _ => 2 - (intOf iv).toNat)
  case atStart => exact ⟨0, by omega, rfl, nxRefl w⟩
  case round =>
    obtain ⟨k, hk, rfl, HV⟩ := hrel
    by_cases hlt : k < 2
    · have hin : (k : Int) < 2 := by omega
      have HKe := Lib.hid (kn4_e k hlt)
      have hwk : IntKind.i64.wrap ((k : Int) + 1) = (k : Int) + 1 := by rw [IntKind.wrap_i64]; omega
      have HLt := Lib.hid hlt
      go_upto_region 8 with (first
        | (go_at_call 8; refine (new_any wr).mono ?_; unfold ptrD; rintro e w1 ⟨g, rfl, hg, hok, hb⟩; have D1 := Lib.hid hok; have HG := Lib.hid hg; have V1 := Lib.hid hb; clear hg hok hb)
        | (go_at_call 20; (with_reducible show Calls _ _ _ (w1.alloc _) _); refine (append_any (w1.alloc (.cells (By [97, 98]).toArray 5 (2, 3))) g newM (DkTo.below D1.out (nxAlloc (nxRefl w1) (.cells (By [97, 98]).toArray 5 (2, 3)))).ok (by rw [newM_d]; exact newD_wf) (Nat.zero_le _) 0 _ [97, 98] 2 ((Sees.litM w1 [97, 98] 5 (2, 3)).more (by simp)) (by decide)).mono ?_; rw [newM_d, kn1_e]; unfold DkPost; rintro e w2 ⟨rfl, m2, hm2, hd2⟩; have M2 : Hid (DkTo w1 g newM w2 m2) := (DkTo.below D1.out (nxAlloc (nxRefl w1) (.cells (By [97, 98]).toArray 5 (2, 3)))).trans hm2; have E2 := Lib.hid hd2; clear hm2 hd2)
        | (go_at_call 22; refine (sync_any w2 g m2 M2.out.ok (by rw [E2.out]; exact kn1_wf) (by rw [DkM.wlen, E2.out, kn_w.1]; decide)).mono ?_; rw [E2.out, kn2_e]; unfold DkPost; rintro e w3 ⟨rfl, m3, hm3, hd3⟩; have M3 : Hid (DkTo w1 g newM w3 m3) := M2.out.trans hm3; have E3 := Lib.hid hd3; clear hm3 hd3)
        | (go_at_call 20; (with_reducible show Calls _ _ _ (w3.alloc _) _); refine (append_any (w3.alloc (.cells (By [99, 100]).toArray 5 (2, 3))) g m3 (DkTo.below M3.out.ok (nxAlloc (nxRefl w3) (.cells (By [99, 100]).toArray 5 (2, 3)))).ok (by rw [E3.out]; exact kn2_wf) (by rw [DkM.wlen, E3.out, kn_w.2.1]; decide) 0 _ [99, 100] 2 ((Sees.litM w3 [99, 100] 5 (2, 3)).more (by simp)) (by decide)).mono ?_; rw [E3.out, kn3_e]; unfold DkPost; rintro e w4 ⟨rfl, m4, hm4, hd4⟩; have M4 : Hid (DkTo w1 g newM w4 m4) := M3.out.trans ((DkTo.below M3.out.ok (nxAlloc (nxRefl w3) (.cells (By [99, 100]).toArray 5 (2, 3)))).trans hm4); have E4 := Lib.hid hd4; clear hm4 hd4)
        | (go_at_call 16; refine (crash_any w4 g m4 M4.out.ok (by rw [E4.out]; exact kn3_wf) (by rw [DkM.wlen, E4.out, kn_w.2.2]; decide) 0 (k : Int)).mono ?_; unfold CrPost; rw [E4.out]; rintro e w5 ⟨rfl, m5, hm5, hd5⟩; have M5 : Hid (DkTo w1 g newM w5 m5) := M4.out.trans hm5; have E5 := Lib.hid hd5; clear hm5 hd5)
        | (go_at_call 10; refine (readLog_any w5 g m5 M5.out.ok (by rw [E5.out]; exact crashD_wf kn3_wf _ _) 0).mono ?_; rw [E5.out, HKe.out]; unfold ReadPost; rintro e w6 ⟨⟨A, c, l⟩, rfl, hl, hro, -, hb6⟩; replace hl : l = List.take (2 + k) [97, 98, 99] := hl; have hln : l.length = 2 + k := (by rw [hl]; simp; omega); have SR : Hid (Sees w6 w6.heap.size A l) := RowM.sees hro; have B6 := Lib.hid hb6; have HL := Lib.hid hl; have HLn := Lib.hid hln; (have hv : RowM.v ⟨A, c, l⟩ = .slice A (2 + k) c := (by show Value.slice A l.length c = _; rw [hln])); rw [hv]; clear hro hb6 hl hln hv)
        | (go_at_call 15; refine (numD_any _ _).mono ?_; rintro e wn ⟨rfl, hwn⟩; obtain rfl := hwn.symm))
      have hw2 : IntKind.i64.wrap (2 + (k : Int)) = 2 + (k : Int) := by rw [IntKind.wrap_i64]; omega
      have hs0 : (0 : Int) ≤ 2 + (k : Int) := by omega
      have hs1 : (2 + (k : Int)) ≤ (({ data := #[97, 98, 99] } : ByteArray).size : Int) := by show _ ≤ (3 : Int); omega
      have hs := fun (W : World) => run_slice_string_h (P := Try.prog) (w := W) (t := 9) (s := { data := #[97, 98, 99] }) Try.underlying9 .i64 (2 + (k : Int)) hs0 hs1
      have hx : ({ data := #[97, 98, 99] } : ByteArray).extract 0 (2 + (k : Int)).toNat = Str l := by
        rw [HL.out]
        match k, HLt.out with
        | 0, _ => rfl
        | 1, _ => rfl
      rw [hx] at hs
      have qc := fun (W : World) (h : Sees W w6.heap.size A l) => run_string_sees (P := Try.prog) (w := W) (c := c) (n := 2 + k) Try.underlying23 Try.underlying5 Try.underlying9 HLn.out.symm h
      clear hx
      have BV : Hid (Below w.heap.size w w6.drew) := (by
        have h1 := (DkTo.fresh V1.out (new_of HG.out) M5.out).1
        exact (nxTrD HV.out (nxTrD h1 B6.out)).drew)
      refine wp_region_held_drew (S := fun W => Sees W w6.heap.size A l) (by kernel_rfl) SR.out (fun hHeld => ?_)
      refine wpAnyH_take (i := 0) (oi := ⟨_, _, _, _, _, _⟩) (v := ?_) rfl (by kernel_rfl) (by kernel_rfl) (by kernel_rfl) (fun _ _ _ h => h) (Or.inl ⟨by rfl, ?_⟩) (by assumption) ?_
      rotate_left 1
      · intro W hSw
        try dsimp only at hSw
        go_simp
        try with_reducible rfl
      try simp only [Act.put, List.setIfInBounds_toArray, List.set_cons_zero, List.set_cons_succ]
      refine wpAnyH_take (i := 1) (oi := ⟨_, _, _, _, _, _⟩) (v := ?_) rfl (by kernel_rfl) (by kernel_rfl) (by kernel_rfl) (fun _ _ _ h => h) (Or.inl ⟨by rfl, ?_⟩) (by assumption) ?_
      rotate_left 1
      · intro W hSw
        have qw := qc W hSw
        go_simp
        try with_reducible rfl
      try simp only [Act.put, List.setIfInBounds_toArray, List.set_cons_zero, List.set_cons_succ]
      refine wpAnyH_take (i := 2) (oi := ⟨_, _, _, _, _, _⟩) (v := ?_) rfl (by kernel_rfl) (by kernel_rfl) (by kernel_rfl) (fun _ _ _ h => h) (Or.inl ⟨by rfl, ?_⟩) (by assumption) ?_
      rotate_left 1
      · intro W hSw
        try dsimp only at hSw
        go_simp
        try with_reducible rfl
      try simp only [Act.put, List.setIfInBounds_toArray, List.set_cons_zero, List.set_cons_succ]
      refine wpAnyH_take (i := 3) (oi := ⟨_, _, _, _, _, _⟩) (v := ?_) rfl (by kernel_rfl) (by kernel_rfl) (by kernel_rfl) (fun _ _ _ h => h) (Or.inl ⟨by rfl, ?_⟩) (by assumption) ?_
      rotate_left 1
      · intro W hSw
        try dsimp only at hSw
        go_simp
        try with_reducible rfl
      try simp only [Act.put, List.setIfInBounds_toArray, List.set_cons_zero, List.set_cons_succ]
      refine wpAnyH_take (i := 4) (oi := ⟨_, _, _, _, _, _⟩) (v := ?_) rfl (by kernel_rfl) (by kernel_rfl) (by kernel_rfl) (fun _ _ _ h => h) (Or.inl ⟨by rfl, ?_⟩) (by assumption) ?_
      rotate_left 1
      · intro W hSw
        try dsimp only at hSw
        go_simp
        try with_reducible rfl
      try simp only [Act.put, List.setIfInBounds_toArray, List.set_cons_zero, List.set_cons_succ]
      refine wpAnyH_take (i := 5) (oi := ⟨_, _, _, _, _, _⟩) (v := ?_) rfl (by kernel_rfl) (by kernel_rfl) (by kernel_rfl) (fun _ _ _ h => h) (Or.inl ⟨by rfl, ?_⟩) (by assumption) ?_
      rotate_left 1
      · intro W hSw
        try dsimp only at hSw
        go_simp
        try with_reducible rfl
      try simp only [Act.put, List.setIfInBounds_toArray, List.set_cons_zero, List.set_cons_succ]
      refine wpAnyH_take (i := 6) (oi := ⟨_, _, _, _, _, _⟩) (v := ?_) rfl (by kernel_rfl) (by kernel_rfl) (by kernel_rfl) (fun _ _ _ h => h) (Or.inl ⟨by rfl, ?_⟩) (by assumption) ?_
      rotate_left 1
      · intro W hSw
        try dsimp only at hSw
        go_simp
        try with_reducible rfl
      try simp only [Act.put, List.setIfInBounds_toArray, List.set_cons_zero, List.set_cons_succ]
      refine wpAnyH_take (i := 7) (oi := ⟨_, _, _, _, _, _⟩) (v := ?_) rfl (by kernel_rfl) (by kernel_rfl) (by kernel_rfl) (fun _ _ _ h => h) (Or.inl ⟨by rfl, ?_⟩) (by assumption) ?_
      rotate_left 1
      · intro W hSw
        try dsimp only at hSw
        go_simp
        try with_reducible rfl
      try simp only [Act.put, List.setIfInBounds_toArray, List.set_cons_zero, List.set_cons_succ]
      refine wpAnyH_ready (rs := [8]) (by kernel_rfl) (by simp) ?_
      refine AllReadyH.cons rfl (fun K hK => ?_) AllReadyH.nil
      go_simp
      go_at_call 15
      refine (numD_any _ _).mono ?_
      rintro e wn ⟨rfl, hwn⟩
      obtain rfl := hwn.symm
      refine hK.out _ _ SR.out (fun hSn => ?_)
      clear hK K
      try simp only [Act.put, List.setIfInBounds_toArray, List.set_cons_zero, List.set_cons_succ]
      refine wpAnyH_take (i := 9) (oi := ⟨_, _, _, _, _, _⟩) (v := ?_) rfl (by kernel_rfl) (by kernel_rfl) (by kernel_rfl) (fun _ _ _ h => h) (Or.inl ⟨by rfl, ?_⟩) (by assumption) ?_
      rotate_left 1
      · intro W hSw
        try dsimp only at hSw
        go_simp
        try with_reducible rfl
      try simp only [Act.put, List.setIfInBounds_toArray, List.set_cons_zero, List.set_cons_succ]
      refine wpAnyH_take (i := 10) (oi := ⟨_, _, _, _, _, _⟩) (v := ?_) rfl (by kernel_rfl) (by kernel_rfl) (by kernel_rfl) (fun _ _ _ h => h) (Or.inl ⟨by rfl, ?_⟩) (by assumption) ?_
      rotate_left 1
      · intro W hSw
        try dsimp only at hSw
        go_simp
        try with_reducible rfl
      try simp only [Act.put, List.setIfInBounds_toArray, List.set_cons_zero, List.set_cons_succ]
      refine wpAnyH_done (by kernel_rfl) ?_ _

      go_wp2
      go_roundw
      case rel => exact ⟨k + 1, by omega, by go_num, BV.out⟩
      case measure => simp [intOf] <;> omega
    · obtain rfl : k = 2 := by omega
      go_wp2
      go_ret
      exact ⟨rfl, HV.out⟩
end Go.Proofs.Ytiagefcjebnopaa
