/-
  money, as tx calls it: which amounts may be, sums. · tx: transactions in memory; what may be; the small functions that Check calls.
-/
import Derived.Test.YtbloomnifhcgbaaGreatDoorVals
import Derived.Test.YtbloomnifhcgbaaGreatDoorChecked
import Derived.Lib.Hide
import Derived.Deep.MidRow
namespace Go.Proofs.YtbloomnifhcgbaaGreatDoor
open Go.RowKit

/-- The greatest amount. -/
def maxM : Nat := 1125899906842624
/-- Is it an amount? -/
def mayB (a : Nat) : Bool := decide (a ≤ maxM)
/-- A sum: the amount, the error. -/
def sumV (l : List Nat) : Nat := if l.sum ≤ maxM then l.sum else 0
def sumE (l : List Nat) : Int := if l.sum ≤ maxM then 0 else 5
/-- A difference. -/
def subV (a b : Nat) : Nat := if a ≤ maxM ∧ b ≤ a then a - b else 0
def subE (a b : Nat) : Int := if a ≤ maxM ∧ b ≤ a then 0 else 5
/-- Numbers as cells. -/
def Ns (l : List Nat) : List Value := l.map fun a : Nat => .int .u64 (a : Int)
theorem Ns_length (l : List Nat) : (Ns l).length = l.length := by simp [Ns]
theorem Ns_get {l : List Nat} {k : Nat} (h : k < (Ns l).length) : (Ns l)[k] = .int .u64 ((l[k]'(by simpa [Ns] using h)) : Int) := by simp [Ns]
theorem sum_take (l : List Nat) {k : Nat} (h : k < l.length) : (l.take (k + 1)).sum = (l.take k).sum + l[k] := by
  rw [List.take_succ_eq_append_getElem h, List.sum_append]; simp
theorem sum_take_le (l : List Nat) (k : Nat) : (l.take k).sum ≤ l.sum := by
  have := List.sum_append (l₁ := l.take k) (l₂ := l.drop k)
  rw [List.take_append_drop] at this
  omega
theorem sum_over {l : List Nat} {k : Nat} (h : k < l.length) (hg : maxM < (l.take k).sum + l[k]) : sumV l = 0 ∧ sumE l = 5 := by
  have h1 := sum_take l h
  have h2 := sum_take_le l (k + 1)
  have : ¬ l.sum ≤ maxM := by omega
  unfold sumV sumE
  rw [if_neg this, if_neg this]
  exact ⟨rfl, rfl⟩
theorem sum_in {l : List Nat} (h : l.sum ≤ maxM) : sumV l = l.sum ∧ sumE l = 0 := by
  unfold sumV sumE
  rw [if_pos h, if_pos h]
  exact ⟨rfl, rfl⟩

theorem may_yes {a : Nat} (h : a ≤ maxM) : mayB a = true := decide_eq_true h
theorem may_no {a : Nat} (h : ¬ a ≤ maxM) : mayB a = false := decide_eq_false h
theorem may_int (a : Nat) : decide ((a : Int) ≤ 1125899906842624) = mayB a := by
  unfold mayB maxM
  rw [Bool.eq_iff_iff, decide_eq_true_eq, decide_eq_true_eq]
  omega
theorem over_int (a : Nat) : decide ((1125899906842624 : Int) < a) = !mayB a := by
  unfold mayB maxM
  rw [Bool.eq_iff_iff, Bool.not_eq_true', decide_eq_true_eq, decide_eq_false_iff_not]
  omega

theorem mmay_any (w : World) (a : Nat) : Calls Tryz.prog 122 #[.int .u64 (a : Int)] w fun e w' => e = .returned (.bool (mayB a)) ∧ w = w' := by
  have hm := Lib.hid (may_int a)
  go_enter Tryz.func122, Tryz.ntmps122
  go_wp2
  go_ret
  exact ⟨by rw [← hm.out]; rfl, rfl⟩

theorem mmay_at (w : World) (x : Int) (a : Nat) (hx : x = (a : Int)) : Calls Tryz.prog 122 #[.int .u64 x] w fun e w' => e = .returned (.bool (mayB a)) ∧ w = w' := by
  subst hx; exact mmay_any w a

set_option maxHeartbeats 1000000 in
theorem msum_any (w : World) (B : Nat) (A : Option Addr) (n c : Nat) (l : List Nat) (hn : n = l.length) (hS : SeesV w B A (Ns l)) (hmax : n ≤ 4611686018427387904) :
    Calls Tryz.prog 118 #[.slice A n c] w fun e w' => e = .returned (.tuple #[.int .u64 (sumV l : Int), .int .i64 (sumE l)]) ∧ w = w' := by
  subst hn
  have HS := Lib.hid hS
  clear hS
  go_enter Tryz.func118, Tryz.ntmps118
  go_wp2
  go_step3
  go_wp2
  go_step3
  go_wp2
  go_loop [4, 5, 11] (fun sv ev iv => ∃ k s : Nat, k ≤ l.length ∧ iv = .int .i64 k ∧ sv = .int .u64 (s : Int) ∧ ev = .int .i64 0 ∧ Hid ((l.take k).sum = s ∧ s ≤ maxM)) (fun _ _ iv => l.length - (intOf iv).toNat)
  case atStart => exact ⟨0, 0, by omega, rfl, rfl, rfl, by simp, by simp⟩
  case round =>
    obtain ⟨k, s, hk, rfl, rfl, rfl, Hs⟩ := hrel
    by_cases hlt : k < l.length
    · obtain ⟨b, off, rfl, hbb, hr⟩ := HS.out.at_ (k := k) (by simpa [Ns] using hlt)
      have hc := hr k (by simpa [Ns] using hlt)
      rw [Ns_get] at hc
      obtain ⟨a, ha⟩ : ∃ a, l[k] = a := ⟨_, rfl⟩
      rw [ha] at hc
      have Ha := Lib.hid ha
      clear hr ha
      by_cases hm : a ≤ maxM
      · have hw : IntKind.u64.wrap ((s : Int) + (a : Int)) = (s : Int) + (a : Int) := by
          have := Hs.out.2; rw [IntKind.wrap_u64]; unfold maxM at *; omega
        have HX : Hid ((s : Int) + (a : Int) = ((s + a : Nat) : Int)) := by show _ = _; omega
        have H1 := Lib.hid (may_yes hm)
        by_cases hm2 : s + a ≤ maxM
        · have H2 := Lib.hid (may_yes hm2)
          have HN : Hid ((l.take (k + 1)).sum = s + a ∧ s + a ≤ maxM) := ⟨by rw [sum_take l hlt, Hs.out.1, Ha.out], hm2⟩
          clear hm hm2 Hs
          go_wp2_with (first
            | (go_at_call 122; ((with_reducible refine (mmay_any _ a).mono ?_); rw [H1.out]; rintro e w' ⟨rfl, rfl⟩))
            | (go_at_call 122; ((with_reducible refine (mmay_at _ _ (s + a) HX.out).mono ?_); rw [H2.out]; rintro e w' ⟨rfl, rfl⟩)))
          go_round
          case rel => exact ⟨k + 1, s + a, by omega, by go_num, by go_num, rfl, HN.out⟩
          case measure => simp [intOf] <;> omega
        · have H2 := Lib.hid (may_no hm2)
          have HE := Lib.hid (sum_over hlt (by rw [Hs.out.1, Ha.out]; omega))
          clear hm hm2 Hs
          go_wp2_with (first
            | (go_at_call 122; ((with_reducible refine (mmay_any _ a).mono ?_); rw [H1.out]; rintro e w' ⟨rfl, rfl⟩))
            | (go_at_call 122; ((with_reducible refine (mmay_at _ _ (s + a) HX.out).mono ?_); rw [H2.out]; rintro e w' ⟨rfl, rfl⟩)))
          try rw [Exit.noGoto_ret]
          go_ret2
          exact ⟨by rw [HE.out.1, HE.out.2]; rfl, rfl⟩
      · have H1 := Lib.hid (may_no hm)
        have HE := Lib.hid (sum_over hlt (by rw [Hs.out.1, Ha.out]; omega))
        clear hm Hs
        go_wp2_with (go_at_call 122; ((with_reducible refine (mmay_any _ a).mono ?_); rw [H1.out]; rintro e w' ⟨rfl, rfl⟩))
        try rw [Exit.noGoto_ret]
        go_ret2
        exact ⟨by rw [HE.out.1, HE.out.2]; rfl, rfl⟩
    · obtain rfl : k = l.length := by omega
      have HE := Lib.hid (sum_in (l := l) (by have := Hs.out; rw [List.take_length] at this; omega))
      have HV : Hid (s = l.sum) := by have := Hs.out; rw [List.take_length] at this; exact this.1.symm
      clear Hs
      go_wp2
      try rw [Exit.noGoto_ret]
      go_ret2
      exact ⟨by rw [HE.out.1, HE.out.2, HV.out]; rfl, rfl⟩

set_option maxHeartbeats 1000000 in
theorem mrsum_any (w : World) (B : Nat) (A : Option Addr) (n c : Nat) (l : List Nat) (hn : n = l.length) (hS : SeesV w B A (Ns l)) (hmax : n ≤ 4611686018427387904) :
    Calls Tryz.prog 95 #[.slice A n c] w fun e w' => e = .returned (.tuple #[.int .u64 (sumV l : Int), .int .i64 (sumE l)]) ∧ w = w' := by
  subst hn
  have HS := Lib.hid hS
  clear hS
  go_enter Tryz.func95, Tryz.ntmps95
  go_wp2
  go_loop [4, 5] (fun sv iv => ∃ k s : Nat, k ≤ l.length ∧ iv = .int .i64 k ∧ sv = .int .u64 (s : Int) ∧ Hid ((l.take k).sum = s ∧ s ≤ maxM)) (fun _ iv => l.length - (intOf iv).toNat)
  case atStart => exact ⟨0, 0, by omega, rfl, rfl, by simp, by simp⟩
  case round =>
    obtain ⟨k, s, hk, rfl, rfl, Hs⟩ := hrel
    by_cases hlt : k < l.length
    · obtain ⟨b, off, rfl, hbb, hr⟩ := HS.out.at_ (k := k) (by simpa [Ns] using hlt)
      have hc := hr k (by simpa [Ns] using hlt)
      rw [Ns_get] at hc
      obtain ⟨a, ha⟩ : ∃ a, l[k] = a := ⟨_, rfl⟩
      rw [ha] at hc
      have Ha := Lib.hid ha
      clear hr ha
      by_cases hm : a ≤ maxM
      · have hw : IntKind.u64.wrap ((s : Int) + (a : Int)) = (s : Int) + (a : Int) := by
          have := Hs.out.2; rw [IntKind.wrap_u64]; unfold maxM at *; omega
        have H1 : decide ((1125899906842624 : Int) < a) = false := by rw [over_int, may_yes hm]; rfl
        by_cases hm2 : s + a ≤ maxM
        · have H2 : decide ((1125899906842624 : Int) < (s : Int) + (a : Int)) = false := by rw [← Int.natCast_add, over_int, may_yes hm2]; rfl
          have HN : Hid ((l.take (k + 1)).sum = s + a ∧ s + a ≤ maxM) := ⟨by rw [sum_take l hlt, Hs.out.1, Ha.out], hm2⟩
          clear hm hm2 Hs
          go_wp2
          go_round
          case rel => exact ⟨k + 1, s + a, by omega, by go_num, by go_num, HN.out⟩
          case measure => simp [intOf] <;> omega
        · have H2 : decide ((1125899906842624 : Int) < (s : Int) + (a : Int)) = true := by rw [← Int.natCast_add, over_int, may_no hm2]; rfl
          have HE := Lib.hid (sum_over hlt (by rw [Hs.out.1, Ha.out]; omega))
          clear hm hm2 Hs
          go_wp2
          go_ret2
          exact ⟨by rw [HE.out.1, HE.out.2]; rfl, rfl⟩
      · have H1 : decide ((1125899906842624 : Int) < a) = true := by rw [over_int, may_no hm]; rfl
        have HE := Lib.hid (sum_over hlt (by rw [Hs.out.1, Ha.out]; omega))
        clear hm Hs
        go_wp2
        go_ret2
        exact ⟨by rw [HE.out.1, HE.out.2]; rfl, rfl⟩
    · obtain rfl : k = l.length := by omega
      have HE := Lib.hid (sum_in (l := l) (by have := Hs.out; rw [List.take_length] at this; omega))
      have HV : Hid (s = l.sum) := by have := Hs.out; rw [List.take_length] at this; exact this.1.symm
      clear Hs
      go_wp2
      go_ret2
      exact ⟨by rw [HE.out.1, HE.out.2, HV.out]; rfl, rfl⟩
end Go.Proofs.YtbloomnifhcgbaaGreatDoor
namespace Go.Proofs.YtbloomnifhcgbaaGreatDoor
open Go.RowKit

/-! rows of rows of one length -/
theorem flat_len {α : Type} {L : List (List α)} {n : Nat} (h : ∀ r ∈ L, r.length = n) : L.flatten.length = L.length * n := by
  induction L with
  | nil => simp
  | cons a r ih => rw [List.flatten_cons, List.length_append, ih (fun x hx => h x (List.mem_cons_of_mem _ hx)), h a (by simp), List.length_cons, Nat.succ_mul]; omega
theorem flat_at {α : Type} {L : List (List α)} {n : Nat} (h : ∀ r ∈ L, r.length = n) : ∀ {k : Nat} (hk : k < L.length) (j : Nat) (_ : j < n), L.flatten[k * n + j]? = L[k][j]? := by
  induction L with
  | nil => intro k hk; simp at hk
  | cons a r ih =>
    intro k hk j hj
    have ha : a.length = n := h a (by simp)
    cases k with
    | zero => rw [List.flatten_cons, Nat.zero_mul, Nat.zero_add, List.getElem?_append_left (by omega)]; rfl
    | succ k =>
      rw [List.flatten_cons, List.getElem?_append_right (by rw [ha, Nat.succ_mul]; omega), ha, Nat.succ_mul, show k * n + n + j - n = k * n + j by omega]
      exact ih (fun x hx => h x (List.mem_cons_of_mem _ hx)) (by simpa using hk) j hj
/-- A row of a row of rows, in memory. -/
theorem SeesV.row {w : World} {B : Nat} {A : Option Addr} {L : List (List Value)} {n : Nat} (hS : SeesV w B A L.flatten) (h : ∀ r ∈ L, r.length = n) (hn : 0 < n) (h0 : 0 < L.length) :
    ∃ b off, A = some ⟨b, off, none⟩ ∧ b < B ∧ ∀ k (hk : k < L.length), w.rangeAt b (off + k * n) L[k] := by
  have hl := flat_len h
  have hp : 0 < L.length * n := Nat.mul_pos h0 hn
  obtain ⟨b, off, hA, hb, hc⟩ := hS.at_ (k := 0) (by omega)
  refine ⟨b, off, hA, hb, fun k hk j v hv => ?_⟩
  have hjl : j < n := by
    have h1 := (List.getElem?_eq_some_iff.1 hv).1
    rw [h _ (List.getElem_mem hk)] at h1
    exact h1
  have hlt : k * n + j < L.flatten.length := by
    rw [hl]
    have : (k + 1) * n ≤ L.length * n := Nat.mul_le_mul_right n (by omega)
    rw [Nat.succ_mul] at this
    omega
  have h2 := flat_at h hk j hjl
  rw [hv, List.getElem?_eq_getElem hlt] at h2
  rw [Nat.add_assoc, hc _ hlt]
  exact h2

/-! transactions -/
structure InR where
  id : List UInt8
  n : Nat
  A : Option Addr
  c : Nat
  wit : List UInt8
structure OutR where
  amt : Nat
  lock : List UInt8
structure TxR where
  A : Option Addr
  c : Nat
  ins : List InR
  B : Option Addr
  d : Nat
  outs : List OutR
  nonce : Nat
def ptC (i : InR) : List Value := By i.id ++ [.int .u32 (i.n : Int)]
def inC (i : InR) : List Value := By i.id ++ [.int .u32 (i.n : Int), .slice i.A i.wit.length i.c]
def outC (o : OutR) : List Value := .int .u64 (o.amt : Int) :: By o.lock
def txC (t : TxR) : List Value := [.slice t.A t.ins.length t.c, .slice t.B t.outs.length t.d, .int .u64 (t.nonce : Int)]
def insC (l : List InR) : List Value := (l.map inC).flatten
def outsC (l : List OutR) : List Value := (l.map outC).flatten
structure InOk (w : World) (i : InR) : Prop where
  id : i.id.length = 32
  n : i.n < 4294967296
  c : i.wit.length ≤ i.c
  s : Sees w w.heap.size i.A i.wit
  m : i.wit.length ≤ 140737488355328
structure OutOk (o : OutR) : Prop where
  amt : o.amt < 18446744073709551616
  lock : o.lock.length = 32
structure TxOk (w : World) (t : TxR) : Prop where
  ins : SeesV w w.heap.size t.A (insC t.ins)
  each : ∀ i ∈ t.ins, InOk w i
  outs : SeesV w w.heap.size t.B (outsC t.outs)
  eacho : ∀ o ∈ t.outs, OutOk o
  c : t.ins.length ≤ t.c
  d : t.outs.length ≤ t.d
  nonce : t.nonce < 18446744073709551616
  mi : t.ins.length ≤ 140737488355328
  mo : t.outs.length ≤ 140737488355328
theorem InOk.later {w w' : World} {i : InR} (h : InOk w i) (hb : Below w.heap.size w w') : InOk w' i := ⟨h.id, h.n, h.c, (h.s.below hb).more hb.size, h.m⟩
theorem TxOk.later {w w' : World} {t : TxR} (h : TxOk w t) (hb : Below w.heap.size w w') : TxOk w' t := ⟨(h.ins.later hb).more hb.size, fun i hi => (h.each i hi).later hb, (h.outs.later hb).more hb.size, h.eacho, h.c, h.d, h.nonce, h.mi, h.mo⟩
theorem ptC_len {i : InR} (h : i.id.length = 32) : (ptC i).length = 33 := by simp [ptC, By_length, h]
theorem inC_len {i : InR} (h : i.id.length = 32) : (inC i).length = 34 := by simp [inC, By_length, h]
theorem outC_len {o : OutR} (h : o.lock.length = 32) : (outC o).length = 33 := by simp [outC, By_length, h]
theorem By_one' (l : List UInt8) : ∀ u ∈ By l, u.oneCell' = true := by
  intro u hu
  unfold By at hu
  obtain ⟨x, _, rfl⟩ := List.mem_map.1 hu
  rfl
theorem inC_one (i : InR) : ∀ u ∈ (inC i).toArray.toList, u.oneCell' = true := by
  intro u hu
  simp only [inC, List.mem_append] at hu
  rcases hu with hu | hu
  · exact By_one' _ u hu
  · simp at hu; rcases hu with rfl | rfl <;> rfl
theorem outC_one (o : OutR) : ∀ u ∈ (outC o).toArray.toList, u.oneCell' = true := by
  intro u hu
  simp only [outC, List.mem_cons] at hu
  rcases hu with rfl | hu
  · rfl
  · exact By_one' _ u hu
theorem inC_at {i : InR} (h : i.id.length = 32) : (inC i)[32]? = some (.int .u32 (i.n : Int)) ∧ (inC i)[33]? = some (.slice i.A i.wit.length i.c) := by
  unfold inC
  rw [List.getElem?_append_right (by rw [By_length, h]; exact Nat.le_refl _), List.getElem?_append_right (by rw [By_length, h]; omega), By_length, h]
  exact ⟨rfl, rfl⟩
theorem insC_row {w : World} {B : Nat} {A : Option Addr} {l : List InR} (hS : SeesV w B A (insC l)) (hi : ∀ i ∈ l, i.id.length = 32) (h0 : 0 < l.length) : ∃ b off, A = some ⟨b, off, none⟩ ∧ b < B ∧ ∀ k (hk : k < l.length), w.rangeAt b (off + k * 34) (inC l[k]) := by
  obtain ⟨b, off, hA, hb, hr⟩ := SeesV.row (n := 34) hS (by intro r hr; obtain ⟨i, h1, rfl⟩ := List.mem_map.1 hr; exact inC_len (hi i h1)) (by omega) (by simpa using h0)
  exact ⟨b, off, hA, hb, fun k hk => by have h := hr k (by simpa using hk); rw [List.getElem_map] at h; exact h⟩
theorem outsC_row {w : World} {B : Nat} {A : Option Addr} {l : List OutR} (hS : SeesV w B A (outsC l)) (hi : ∀ o ∈ l, o.lock.length = 32) (h0 : 0 < l.length) : ∃ b off, A = some ⟨b, off, none⟩ ∧ b < B ∧ ∀ k (hk : k < l.length), w.rangeAt b (off + k * 33) (outC l[k]) := by
  obtain ⟨b, off, hA, hb, hr⟩ := SeesV.row (n := 33) hS (by intro r hr; obtain ⟨i, h1, rfl⟩ := List.mem_map.1 hr; exact outC_len (hi i h1)) (by omega) (by simpa using h0)
  exact ⟨b, off, hA, hb, fun k hk => by have h := hr k (by simpa using hk); rw [List.getElem_map] at h; exact h⟩

/-! what may be -/
def longB (i : InR) : Bool := decide (256 < i.wit.length)
def cntB (n : Nat) : Bool := decide (1 ≤ n ∧ n ≤ 64)
def pt (i : InR) : List UInt8 × Nat := (i.id, i.n)
def twiceB : List InR → Bool
  | [] => false
  | i :: r => r.any (fun j => pt j == pt i) || twiceB r
def formB (t : TxR) : Bool := cntB t.ins.length && (cntB t.outs.length && (!t.ins.any longB && !twiceB t.ins))
def amtV (l : List OutR) : Nat := bif l.any (fun o => o.amt == 0) then 0 else sumV (l.map (·.amt))
def amtE (l : List OutR) : Int := bif l.any (fun o => o.amt == 0) then 5 else sumE (l.map (·.amt))
/-- Check's answer. -/
def checkT (t : TxR) : Int := bif formB t then amtE t.outs else 2

theorem Tryz.sizeIn : (Tryz.prog.info? 104).map (·.size) = some 34 := by kernel_rfl
theorem Tryz.sizeOut : (Tryz.prog.info? 106).map (·.size) = some 33 := by kernel_rfl
theorem Tryz.sizePt : (Tryz.prog.info? 102).map (·.size) = some 33 := by kernel_rfl
theorem Tryz.sizeTx : (Tryz.prog.info? 66).map (·.size) = some 3 := by kernel_rfl

def argE (b : Bool) : Int := bif b then 0 else 2
theorem argUnless_any (w : World) (b : Bool) : Calls Tryz.prog 100 #[.bool b] w fun e w' => e = .returned (.int .i64 (argE b)) ∧ w' = w := by
  cases b with
  | true =>
    go_enter Tryz.func100, Tryz.ntmps100
    go_wp2
    go_ret
    exact ⟨rfl, rfl⟩
  | false =>
    go_enter Tryz.func100, Tryz.ntmps100
    go_wp2
    go_ret
    exact ⟨rfl, rfl⟩
theorem mayCount_any (w : World) (n : Nat) : Calls Tryz.prog 101 #[.int .i64 (n : Int), .int .i64 64] w fun e w' => e = .returned (.bool (cntB n)) ∧ w' = w := by
  by_cases h1 : (1 : Int) ≤ (n : Int)
  · by_cases h2 : (n : Int) ≤ 64
    · have H : Hid (cntB n = true) := by show _ = _; exact decide_eq_true ⟨by omega, by omega⟩
      go_enter Tryz.func101, Tryz.ntmps101
      go_wp2
      go_ret
      exact ⟨by rw [H.out]; rfl, rfl⟩
    · have H : Hid (cntB n = false) := by show _ = _; exact decide_eq_false (by omega)
      go_enter Tryz.func101, Tryz.ntmps101
      go_wp2
      go_ret
      exact ⟨by rw [H.out]; rfl, rfl⟩
  · have H : Hid (cntB n = false) := by show _ = _; exact decide_eq_false (by omega)
    go_enter Tryz.func101, Tryz.ntmps101
    go_wp2
    go_ret
    exact ⟨by rw [H.out]; rfl, rfl⟩
theorem isLong_any (w : World) (i : InR) (hi : i.id.length = 32) (hm : i.wit.length ≤ 140737488355328) : Calls Tryz.prog 105 #[.agg (inC i).toArray] w fun e w' => e = .returned (.bool (longB i)) ∧ Below w.heap.size w w' := by
  have hB : Blk (w.alloc (.cells (inC i).toArray 104)) w.heap.size 104 (inC i).toArray := heap_alloc_new w _
  have hc : (w.alloc (.cells (inC i).toArray 104)).cell? ⟨w.heap.size, 33, none⟩ = some (.slice i.A i.wit.length i.c) := by
    rw [hB.cell]
    have := (inC_at hi).2
    simpa using this
  have Hb : Hid (Below w.heap.size w (w.alloc (.cells (inC i).toArray 104))) := Lib.hid ((Below.refl _ _).alloc (Nat.le_refl _) _)
  clear hB
  by_cases hl : (256 : Int) < (i.wit.length : Int)
  · have H : Hid (longB i = true) := by show _ = _; exact decide_eq_true (by omega)
    go_enter Tryz.func105, Tryz.ntmps105
    go_wp2
    go_ret
    exact ⟨by rw [H.out]; rfl, Hb.out⟩
  · have H : Hid (longB i = false) := by show _ = _; exact decide_eq_false (by omega)
    go_enter Tryz.func105, Tryz.ntmps105
    go_wp2
    go_ret
    exact ⟨by rw [H.out]; rfl, Hb.out⟩
end Go.Proofs.YtbloomnifhcgbaaGreatDoor
