/-
  tx: transactions in memory; what may be; the small functions that Check calls.
-/
import Derived.Test.YtckomfffilonlaaDoorTm
import Derived.Lib.Hide
import Derived.Deep.MidRow
namespace Go.Proofs.YtckomfffilonlaaDoor
open Go.RowKit

/-! rows of rows of one length -/
theorem flat_len {α : Type} {L : List (List α)} {n : Nat} (h : ∀ r ∈ L, r.length = n) : L.flatten.length = L.length * n := by
  induction L with
  | nil => simp
  | cons a r ih => rw [List.flatten_cons, List.length_append, ih (fun x hx => h x (List.mem_cons_of_mem _ hx)), h a (by simp), List.length_cons, Nat.succ_mul]; omega
theorem flat_at {α : Type} {L : List (List α)} {n : Nat} (h : ∀ r ∈ L, r.length = n) : ∀ {k : Nat} (hk : k < L.length) (j : Nat) (_ : j < n), L.flatten[k * n + j]? = L[k][j]? := by
  induction L with
  | nil => intro k hk; simp at hk
  | cons a r ih =>
    intro k hk j hj
    have ha : a.length = n := h a (by simp)
    cases k with
    | zero => rw [List.flatten_cons, Nat.zero_mul, Nat.zero_add, List.getElem?_append_left (by omega)]; rfl
    | succ k =>
      rw [List.flatten_cons, List.getElem?_append_right (by rw [ha, Nat.succ_mul]; omega), ha, Nat.succ_mul, show k * n + n + j - n = k * n + j by omega]
      exact ih (fun x hx => h x (List.mem_cons_of_mem _ hx)) (by simpa using hk) j hj
/-- A row of a row of rows, in memory. -/
theorem SeesV.row {w : World} {B : Nat} {A : Option Addr} {L : List (List Value)} {n : Nat} (hS : SeesV w B A L.flatten) (h : ∀ r ∈ L, r.length = n) (hn : 0 < n) (h0 : 0 < L.length) :
    ∃ b off, A = some ⟨b, off, none⟩ ∧ b < B ∧ ∀ k (hk : k < L.length), w.rangeAt b (off + k * n) L[k] := by
  have hl := flat_len h
  have hp : 0 < L.length * n := Nat.mul_pos h0 hn
  obtain ⟨b, off, hA, hb, hc⟩ := hS.at_ (k := 0) (by omega)
  refine ⟨b, off, hA, hb, fun k hk j v hv => ?_⟩
  have hjl : j < n := by
    have h1 := (List.getElem?_eq_some_iff.1 hv).1
    rw [h _ (List.getElem_mem hk)] at h1
    exact h1
  have hlt : k * n + j < L.flatten.length := by
    rw [hl]
    have : (k + 1) * n ≤ L.length * n := Nat.mul_le_mul_right n (by omega)
    rw [Nat.succ_mul] at this
    omega
  have h2 := flat_at h hk j hjl
  rw [hv, List.getElem?_eq_getElem hlt] at h2
  rw [Nat.add_assoc, hc _ hlt]
  exact h2

/-! transactions -/
structure InR where
  id : List UInt8
  n : Nat
  A : Option Addr
  c : Nat
  wit : List UInt8
structure OutR where
  amt : Nat
  lock : List UInt8
structure TxR where
  A : Option Addr
  c : Nat
  ins : List InR
  B : Option Addr
  d : Nat
  outs : List OutR
  nonce : Nat
def ptC (i : InR) : List Value := By i.id ++ [.int .u32 (i.n : Int)]
def inC (i : InR) : List Value := By i.id ++ [.int .u32 (i.n : Int), .slice i.A i.wit.length i.c]
def outC (o : OutR) : List Value := .int .u64 (o.amt : Int) :: By o.lock
def txC (t : TxR) : List Value := [.slice t.A t.ins.length t.c, .slice t.B t.outs.length t.d, .int .u64 (t.nonce : Int)]
def insC (l : List InR) : List Value := (l.map inC).flatten
def outsC (l : List OutR) : List Value := (l.map outC).flatten
structure InOk (w : World) (i : InR) : Prop where
  id : i.id.length = 32
  n : i.n < 4294967296
  c : i.wit.length ≤ i.c
  s : Sees w w.heap.size i.A i.wit
  m : i.wit.length ≤ 140737488355328
structure OutOk (o : OutR) : Prop where
  amt : o.amt < 18446744073709551616
  lock : o.lock.length = 32
structure TxOk (w : World) (t : TxR) : Prop where
  ins : SeesV w w.heap.size t.A (insC t.ins)
  each : ∀ i ∈ t.ins, InOk w i
  outs : SeesV w w.heap.size t.B (outsC t.outs)
  eacho : ∀ o ∈ t.outs, OutOk o
  c : t.ins.length ≤ t.c
  d : t.outs.length ≤ t.d
  nonce : t.nonce < 18446744073709551616
  mi : t.ins.length ≤ 140737488355328
  mo : t.outs.length ≤ 140737488355328
theorem InOk.later {w w' : World} {i : InR} (h : InOk w i) (hb : Below w.heap.size w w') : InOk w' i := ⟨h.id, h.n, h.c, (h.s.below hb).more hb.size, h.m⟩
theorem TxOk.later {w w' : World} {t : TxR} (h : TxOk w t) (hb : Below w.heap.size w w') : TxOk w' t := ⟨(h.ins.later hb).more hb.size, fun i hi => (h.each i hi).later hb, (h.outs.later hb).more hb.size, h.eacho, h.c, h.d, h.nonce, h.mi, h.mo⟩
theorem ptC_len {i : InR} (h : i.id.length = 32) : (ptC i).length = 33 := by simp [ptC, By_length, h]
theorem inC_len {i : InR} (h : i.id.length = 32) : (inC i).length = 34 := by simp [inC, By_length, h]
theorem outC_len {o : OutR} (h : o.lock.length = 32) : (outC o).length = 33 := by simp [outC, By_length, h]
theorem By_one' (l : List UInt8) : ∀ u ∈ By l, u.oneCell' = true := by
  intro u hu
  unfold By at hu
  obtain ⟨x, _, rfl⟩ := List.mem_map.1 hu
  rfl
theorem inC_one (i : InR) : ∀ u ∈ (inC i).toArray.toList, u.oneCell' = true := by
  intro u hu
  simp only [inC, List.mem_append] at hu
  rcases hu with hu | hu
  · exact By_one' _ u hu
  · simp at hu; rcases hu with rfl | rfl <;> rfl
theorem outC_one (o : OutR) : ∀ u ∈ (outC o).toArray.toList, u.oneCell' = true := by
  intro u hu
  simp only [outC, List.mem_cons] at hu
  rcases hu with rfl | hu
  · rfl
  · exact By_one' _ u hu
theorem inC_at {i : InR} (h : i.id.length = 32) : (inC i)[32]? = some (.int .u32 (i.n : Int)) ∧ (inC i)[33]? = some (.slice i.A i.wit.length i.c) := by
  unfold inC
  rw [List.getElem?_append_right (by rw [By_length, h]; exact Nat.le_refl _), List.getElem?_append_right (by rw [By_length, h]; omega), By_length, h]
  exact ⟨rfl, rfl⟩
theorem insC_row {w : World} {B : Nat} {A : Option Addr} {l : List InR} (hS : SeesV w B A (insC l)) (hi : ∀ i ∈ l, i.id.length = 32) (h0 : 0 < l.length) : ∃ b off, A = some ⟨b, off, none⟩ ∧ b < B ∧ ∀ k (hk : k < l.length), w.rangeAt b (off + k * 34) (inC l[k]) := by
  obtain ⟨b, off, hA, hb, hr⟩ := SeesV.row (n := 34) hS (by intro r hr; obtain ⟨i, h1, rfl⟩ := List.mem_map.1 hr; exact inC_len (hi i h1)) (by omega) (by simpa using h0)
  exact ⟨b, off, hA, hb, fun k hk => by have h := hr k (by simpa using hk); rw [List.getElem_map] at h; exact h⟩
theorem outsC_row {w : World} {B : Nat} {A : Option Addr} {l : List OutR} (hS : SeesV w B A (outsC l)) (hi : ∀ o ∈ l, o.lock.length = 32) (h0 : 0 < l.length) : ∃ b off, A = some ⟨b, off, none⟩ ∧ b < B ∧ ∀ k (hk : k < l.length), w.rangeAt b (off + k * 33) (outC l[k]) := by
  obtain ⟨b, off, hA, hb, hr⟩ := SeesV.row (n := 33) hS (by intro r hr; obtain ⟨i, h1, rfl⟩ := List.mem_map.1 hr; exact outC_len (hi i h1)) (by omega) (by simpa using h0)
  exact ⟨b, off, hA, hb, fun k hk => by have h := hr k (by simpa using hk); rw [List.getElem_map] at h; exact h⟩

/-! what may be -/
def longB (i : InR) : Bool := decide (256 < i.wit.length)
def cntB (n : Nat) : Bool := decide (1 ≤ n ∧ n ≤ 64)
def pt (i : InR) : List UInt8 × Nat := (i.id, i.n)
def twiceB : List InR → Bool
  | [] => false
  | i :: r => r.any (fun j => pt j == pt i) || twiceB r
def formB (t : TxR) : Bool := cntB t.ins.length && (cntB t.outs.length && (!t.ins.any longB && !twiceB t.ins))
def amtV (l : List OutR) : Nat := bif l.any (fun o => o.amt == 0) then 0 else sumV (l.map (·.amt))
def amtE (l : List OutR) : Int := bif l.any (fun o => o.amt == 0) then 5 else sumE (l.map (·.amt))
/-- Check's answer. -/
def checkT (t : TxR) : Int := bif formB t then amtE t.outs else 2

theorem Tryd.sizeIn : (Tryd.prog.info? 46).map (·.size) = some 34 := by kernel_rfl
theorem Tryd.sizeOut : (Tryd.prog.info? 49).map (·.size) = some 33 := by kernel_rfl
theorem Tryd.sizePt : (Tryd.prog.info? 44).map (·.size) = some 33 := by kernel_rfl
theorem Tryd.sizeTx : (Tryd.prog.info? 26).map (·.size) = some 3 := by kernel_rfl

def argE (b : Bool) : Int := bif b then 0 else 2
theorem argUnless_any (w : World) (b : Bool) : Calls Tryd.prog 63 #[.bool b] w fun e w' => e = .returned (.int .i64 (argE b)) ∧ w' = w := by
  cases b with
  | true =>
    go_enter Tryd.func63, Tryd.ntmps63
    go_wp2
    go_ret
    exact ⟨rfl, rfl⟩
  | false =>
    go_enter Tryd.func63, Tryd.ntmps63
    go_wp2
    go_ret
    exact ⟨rfl, rfl⟩
theorem mayCount_any (w : World) (n : Nat) : Calls Tryd.prog 64 #[.int .i64 (n : Int), .int .i64 64] w fun e w' => e = .returned (.bool (cntB n)) ∧ w' = w := by
  by_cases h1 : (1 : Int) ≤ (n : Int)
  · by_cases h2 : (n : Int) ≤ 64
    · have H : Hid (cntB n = true) := by show _ = _; exact decide_eq_true ⟨by omega, by omega⟩
      go_enter Tryd.func64, Tryd.ntmps64
      go_wp2
      go_ret
      exact ⟨by rw [H.out]; rfl, rfl⟩
    · have H : Hid (cntB n = false) := by show _ = _; exact decide_eq_false (by omega)
      go_enter Tryd.func64, Tryd.ntmps64
      go_wp2
      go_ret
      exact ⟨by rw [H.out]; rfl, rfl⟩
  · have H : Hid (cntB n = false) := by show _ = _; exact decide_eq_false (by omega)
    go_enter Tryd.func64, Tryd.ntmps64
    go_wp2
    go_ret
    exact ⟨by rw [H.out]; rfl, rfl⟩
theorem isLong_any (w : World) (i : InR) (hi : i.id.length = 32) (hm : i.wit.length ≤ 140737488355328) : Calls Tryd.prog 67 #[.agg (inC i).toArray] w fun e w' => e = .returned (.bool (longB i)) ∧ Below w.heap.size w w' := by
  have hB : Blk (w.alloc (.cells (inC i).toArray 46)) w.heap.size 46 (inC i).toArray := heap_alloc_new w _
  have hc : (w.alloc (.cells (inC i).toArray 46)).cell? ⟨w.heap.size, 33, none⟩ = some (.slice i.A i.wit.length i.c) := by
    rw [hB.cell]
    have := (inC_at hi).2
    simpa using this
  have Hb : Hid (Below w.heap.size w (w.alloc (.cells (inC i).toArray 46))) := Lib.hid ((Below.refl _ _).alloc (Nat.le_refl _) _)
  clear hB
  by_cases hl : (256 : Int) < (i.wit.length : Int)
  · have H : Hid (longB i = true) := by show _ = _; exact decide_eq_true (by omega)
    go_enter Tryd.func67, Tryd.ntmps67
    go_wp2
    go_ret
    exact ⟨by rw [H.out]; rfl, Hb.out⟩
  · have H : Hid (longB i = false) := by show _ = _; exact decide_eq_false (by omega)
    go_enter Tryd.func67, Tryd.ntmps67
    go_wp2
    go_ret
    exact ⟨by rw [H.out]; rfl, Hb.out⟩
end Go.Proofs.YtckomfffilonlaaDoor
