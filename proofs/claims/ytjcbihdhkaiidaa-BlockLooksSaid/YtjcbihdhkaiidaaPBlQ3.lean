/-
  money, as tx calls it: which amounts may be, sums. · tx: transactions in memory; what may be; the small functions that Check calls.
  tx: is one of the inputs long; the closures that ask for counts and lengths. · tx: the outpoints that are spent, a map; how many there are. · tx: spent: the map of outpoints.
-/
import Derived.Test.YtjcbihdhkaiidaaVals
import Derived.Test.YtjcbihdhkaiidaaChecked
import Derived.Lib.Hide
import Derived.Deep.MidRow
import Derived.Maps.OwnSet
import Derived.DeepKeys4
import Derived.Test.YtjcbihdhkaiidaaPBlQ0
namespace Go.Proofs.Ytjcbihdhkaiidaa
open Go.RowKit

/-- The greatest amount. -/
def maxM : Nat := 1125899906842624
/-- Is it an amount? -/
def mayB (a : Nat) : Bool := decide (a ≤ maxM)
/-- A sum: the amount, the error. -/
def sumV (l : List Nat) : Nat := if l.sum ≤ maxM then l.sum else 0
def sumE (l : List Nat) : Int := if l.sum ≤ maxM then 0 else 5
/-- A difference. -/
def subV (a b : Nat) : Nat := if a ≤ maxM ∧ b ≤ a then a - b else 0
def subE (a b : Nat) : Int := if a ≤ maxM ∧ b ≤ a then 0 else 5
/-- Numbers as cells. -/
def Ns (l : List Nat) : List Value := l.map fun a : Nat => .int .u64 (a : Int)
theorem Ns_length (l : List Nat) : (Ns l).length = l.length := by simp [Ns]
theorem Ns_get {l : List Nat} {k : Nat} (h : k < (Ns l).length) : (Ns l)[k] = .int .u64 ((l[k]'(by simpa [Ns] using h)) : Int) := by simp [Ns]
theorem sum_take (l : List Nat) {k : Nat} (h : k < l.length) : (l.take (k + 1)).sum = (l.take k).sum + l[k] := by
  rw [List.take_succ_eq_append_getElem h, List.sum_append]; simp
theorem sum_take_le (l : List Nat) (k : Nat) : (l.take k).sum ≤ l.sum := by
  have := List.sum_append (l₁ := l.take k) (l₂ := l.drop k)
  rw [List.take_append_drop] at this
  omega
theorem sum_over {l : List Nat} {k : Nat} (h : k < l.length) (hg : maxM < (l.take k).sum + l[k]) : sumV l = 0 ∧ sumE l = 5 := by
  have h1 := sum_take l h
  have h2 := sum_take_le l (k + 1)
  have : ¬ l.sum ≤ maxM := by omega
  unfold sumV sumE
  rw [if_neg this, if_neg this]
  exact ⟨rfl, rfl⟩
theorem sum_in {l : List Nat} (h : l.sum ≤ maxM) : sumV l = l.sum ∧ sumE l = 0 := by
  unfold sumV sumE
  rw [if_pos h, if_pos h]
  exact ⟨rfl, rfl⟩

theorem may_yes {a : Nat} (h : a ≤ maxM) : mayB a = true := decide_eq_true h
theorem may_no {a : Nat} (h : ¬ a ≤ maxM) : mayB a = false := decide_eq_false h
theorem may_int (a : Nat) : decide ((a : Int) ≤ 1125899906842624) = mayB a := by
  unfold mayB maxM
  rw [Bool.eq_iff_iff, decide_eq_true_eq, decide_eq_true_eq]
  omega
theorem over_int (a : Nat) : decide ((1125899906842624 : Int) < a) = !mayB a := by
  unfold mayB maxM
  rw [Bool.eq_iff_iff, Bool.not_eq_true', decide_eq_true_eq, decide_eq_false_iff_not]
  omega

end Go.Proofs.Ytjcbihdhkaiidaa
namespace Go.Proofs.Ytjcbihdhkaiidaa
open Go.RowKit

/-! rows of rows of one length -/
theorem flat_len {α : Type} {L : List (List α)} {n : Nat} (h : ∀ r ∈ L, r.length = n) : L.flatten.length = L.length * n := by
  induction L with
  | nil => simp
  | cons a r ih => rw [List.flatten_cons, List.length_append, ih (fun x hx => h x (List.mem_cons_of_mem _ hx)), h a (by simp), List.length_cons, Nat.succ_mul]; omega
theorem flat_at {α : Type} {L : List (List α)} {n : Nat} (h : ∀ r ∈ L, r.length = n) : ∀ {k : Nat} (hk : k < L.length) (j : Nat) (_ : j < n), L.flatten[k * n + j]? = L[k][j]? := by
  induction L with
  | nil => intro k hk; simp at hk
  | cons a r ih =>
    intro k hk j hj
    have ha : a.length = n := h a (by simp)
    cases k with
    | zero => rw [List.flatten_cons, Nat.zero_mul, Nat.zero_add, List.getElem?_append_left (by omega)]; rfl
    | succ k =>
      rw [List.flatten_cons, List.getElem?_append_right (by rw [ha, Nat.succ_mul]; omega), ha, Nat.succ_mul, show k * n + n + j - n = k * n + j by omega]
      exact ih (fun x hx => h x (List.mem_cons_of_mem _ hx)) (by simpa using hk) j hj
/-- A row of a row of rows, in memory. -/
theorem SeesV.row {w : World} {B : Nat} {A : Option Addr} {L : List (List Value)} {n : Nat} (hS : SeesV w B A L.flatten) (h : ∀ r ∈ L, r.length = n) (hn : 0 < n) (h0 : 0 < L.length) :
    ∃ b off, A = some ⟨b, off, none⟩ ∧ b < B ∧ ∀ k (hk : k < L.length), w.rangeAt b (off + k * n) L[k] := by
  have hl := flat_len h
  have hp : 0 < L.length * n := Nat.mul_pos h0 hn
  obtain ⟨b, off, hA, hb, hc⟩ := hS.at_ (k := 0) (by omega)
  refine ⟨b, off, hA, hb, fun k hk j v hv => ?_⟩
  have hjl : j < n := by
    have h1 := (List.getElem?_eq_some_iff.1 hv).1
    rw [h _ (List.getElem_mem hk)] at h1
    exact h1
  have hlt : k * n + j < L.flatten.length := by
    rw [hl]
    have : (k + 1) * n ≤ L.length * n := Nat.mul_le_mul_right n (by omega)
    rw [Nat.succ_mul] at this
    omega
  have h2 := flat_at h hk j hjl
  rw [hv, List.getElem?_eq_getElem hlt] at h2
  rw [Nat.add_assoc, hc _ hlt]
  exact h2

/-! transactions -/
structure InR where
  id : List UInt8
  n : Nat
  A : Option Addr
  c : Nat
  wit : List UInt8
structure OutR where
  amt : Nat
  lock : List UInt8
structure TxR where
  A : Option Addr
  c : Nat
  ins : List InR
  B : Option Addr
  d : Nat
  outs : List OutR
  nonce : Nat
def ptC (i : InR) : List Value := By i.id ++ [.int .u32 (i.n : Int)]
def inC (i : InR) : List Value := By i.id ++ [.int .u32 (i.n : Int), .slice i.A i.wit.length i.c]
def outC (o : OutR) : List Value := .int .u64 (o.amt : Int) :: By o.lock
def txC (t : TxR) : List Value := [.slice t.A t.ins.length t.c, .slice t.B t.outs.length t.d, .int .u64 (t.nonce : Int)]
def insC (l : List InR) : List Value := (l.map inC).flatten
def outsC (l : List OutR) : List Value := (l.map outC).flatten
structure InOk (w : World) (i : InR) : Prop where
  id : i.id.length = 32
  n : i.n < 4294967296
  c : i.wit.length ≤ i.c
  s : Sees w w.heap.size i.A i.wit
  m : i.wit.length ≤ 140737488355328
structure OutOk (o : OutR) : Prop where
  amt : o.amt < 18446744073709551616
  lock : o.lock.length = 32
structure TxOk (w : World) (t : TxR) : Prop where
  ins : SeesV w w.heap.size t.A (insC t.ins)
  each : ∀ i ∈ t.ins, InOk w i
  outs : SeesV w w.heap.size t.B (outsC t.outs)
  eacho : ∀ o ∈ t.outs, OutOk o
  c : t.ins.length ≤ t.c
  d : t.outs.length ≤ t.d
  nonce : t.nonce < 18446744073709551616
  mi : t.ins.length ≤ 140737488355328
  mo : t.outs.length ≤ 140737488355328
theorem InOk.later {w w' : World} {i : InR} (h : InOk w i) (hb : Below w.heap.size w w') : InOk w' i := ⟨h.id, h.n, h.c, (h.s.below hb).more hb.size, h.m⟩
theorem TxOk.later {w w' : World} {t : TxR} (h : TxOk w t) (hb : Below w.heap.size w w') : TxOk w' t := ⟨(h.ins.later hb).more hb.size, fun i hi => (h.each i hi).later hb, (h.outs.later hb).more hb.size, h.eacho, h.c, h.d, h.nonce, h.mi, h.mo⟩
theorem ptC_len {i : InR} (h : i.id.length = 32) : (ptC i).length = 33 := by simp [ptC, By_length, h]
theorem inC_len {i : InR} (h : i.id.length = 32) : (inC i).length = 34 := by simp [inC, By_length, h]
theorem outC_len {o : OutR} (h : o.lock.length = 32) : (outC o).length = 33 := by simp [outC, By_length, h]
theorem By_one' (l : List UInt8) : ∀ u ∈ By l, u.oneCell' = true := by
  intro u hu
  unfold By at hu
  obtain ⟨x, _, rfl⟩ := List.mem_map.1 hu
  rfl
theorem inC_one (i : InR) : ∀ u ∈ (inC i).toArray.toList, u.oneCell' = true := by
  intro u hu
  simp only [inC, List.mem_append] at hu
  rcases hu with hu | hu
  · exact By_one' _ u hu
  · simp at hu; rcases hu with rfl | rfl <;> rfl
theorem outC_one (o : OutR) : ∀ u ∈ (outC o).toArray.toList, u.oneCell' = true := by
  intro u hu
  simp only [outC, List.mem_cons] at hu
  rcases hu with rfl | hu
  · rfl
  · exact By_one' _ u hu
theorem inC_at {i : InR} (h : i.id.length = 32) : (inC i)[32]? = some (.int .u32 (i.n : Int)) ∧ (inC i)[33]? = some (.slice i.A i.wit.length i.c) := by
  unfold inC
  rw [List.getElem?_append_right (by rw [By_length, h]; exact Nat.le_refl _), List.getElem?_append_right (by rw [By_length, h]; omega), By_length, h]
  exact ⟨rfl, rfl⟩
theorem insC_row {w : World} {B : Nat} {A : Option Addr} {l : List InR} (hS : SeesV w B A (insC l)) (hi : ∀ i ∈ l, i.id.length = 32) (h0 : 0 < l.length) : ∃ b off, A = some ⟨b, off, none⟩ ∧ b < B ∧ ∀ k (hk : k < l.length), w.rangeAt b (off + k * 34) (inC l[k]) := by
  obtain ⟨b, off, hA, hb, hr⟩ := SeesV.row (n := 34) hS (by intro r hr; obtain ⟨i, h1, rfl⟩ := List.mem_map.1 hr; exact inC_len (hi i h1)) (by omega) (by simpa using h0)
  exact ⟨b, off, hA, hb, fun k hk => by have h := hr k (by simpa using hk); rw [List.getElem_map] at h; exact h⟩
theorem outsC_row {w : World} {B : Nat} {A : Option Addr} {l : List OutR} (hS : SeesV w B A (outsC l)) (hi : ∀ o ∈ l, o.lock.length = 32) (h0 : 0 < l.length) : ∃ b off, A = some ⟨b, off, none⟩ ∧ b < B ∧ ∀ k (hk : k < l.length), w.rangeAt b (off + k * 33) (outC l[k]) := by
  obtain ⟨b, off, hA, hb, hr⟩ := SeesV.row (n := 33) hS (by intro r hr; obtain ⟨i, h1, rfl⟩ := List.mem_map.1 hr; exact outC_len (hi i h1)) (by omega) (by simpa using h0)
  exact ⟨b, off, hA, hb, fun k hk => by have h := hr k (by simpa using hk); rw [List.getElem_map] at h; exact h⟩

/-! what may be -/
def longB (i : InR) : Bool := decide (256 < i.wit.length)
def cntB (n : Nat) : Bool := decide (1 ≤ n ∧ n ≤ 64)
def pt (i : InR) : List UInt8 × Nat := (i.id, i.n)
def twiceB : List InR → Bool
  | [] => false
  | i :: r => r.any (fun j => pt j == pt i) || twiceB r
def formB (t : TxR) : Bool := cntB t.ins.length && (cntB t.outs.length && (!t.ins.any longB && !twiceB t.ins))
def amtV (l : List OutR) : Nat := bif l.any (fun o => o.amt == 0) then 0 else sumV (l.map (·.amt))
def amtE (l : List OutR) : Int := bif l.any (fun o => o.amt == 0) then 5 else sumE (l.map (·.amt))
/-- Check's answer. -/
def checkT (t : TxR) : Int := bif formB t then amtE t.outs else 2

theorem Try.sizeIn : (Try.prog.info? 44).map (·.size) = some 34 := by kernel_rfl
theorem Try.sizeOut : (Try.prog.info? 46).map (·.size) = some 33 := by kernel_rfl
theorem Try.sizePt : (Try.prog.info? 41).map (·.size) = some 33 := by kernel_rfl
theorem Try.sizeTx : (Try.prog.info? 37).map (·.size) = some 3 := by kernel_rfl

def argE (b : Bool) : Int := bif b then 0 else 2
end Go.Proofs.Ytjcbihdhkaiidaa

namespace Go.Proofs.Ytjcbihdhkaiidaa
open Go.RowKit

theorem nxRf (w : World) : Below w.heap.size w w := Below.refl _ _
theorem nxAl {w W : World} (h : Below w.heap.size w W) (o : Obj) : Below w.heap.size w (W.alloc o) := h.alloc h.size o
theorem nxTr {w w1 w2 : World} (h : Below w.heap.size w w1) (h' : Below w1.heap.size w1 w2) : Below w.heap.size w w2 := h.trans ⟨h'.os, h'.tape, h'.output, h'.size, fun b hb => h'.block b (Nat.lt_of_lt_of_le hb h.size)⟩
theorem rngB {w w' : World} {B b o : Nat} {cs : List Value} (h : w.rangeAt b o cs) (hb : Below B w w') (hlt : b < B) : w'.rangeAt b o cs := fun j v hv => (hb.cell (p := ⟨b, o + j, none⟩) hlt).trans (h j v hv)
theorem blkR {w : World} {g : Nat} {t : TypeId} {vs : List Value} (h : Blk w g t vs.toArray) : w.rangeAt g 0 vs := by
  intro j v hv
  rw [Nat.zero_add, h.cell j]
  simpa using hv

/-- A transaction in a block of its own, as the closures see it. -/
def TxAt (w : World) (g : Nat) (t : TxR) : Prop := Blk w g 37 (txC t).toArray ∧ TxOk w t
theorem TxAt.later {w w' : World} {g : Nat} {t : TxR} (h : TxAt w g t) (hb : Below w.heap.size w w') : TxAt w' g t := ⟨h.1.below hb h.1.lt, h.2.later hb⟩
theorem TxAt.new {w : World} {t : TxR} (h : TxOk w t) : TxAt (w.alloc (.cells (txC t).toArray 37)) w.heap.size t := ⟨heap_alloc_new w _, h.later (nxAl (nxRf w) _)⟩
end Go.Proofs.Ytjcbihdhkaiidaa
namespace Go.Proofs.Ytjcbihdhkaiidaa
open Go.RowKit Go.Maps

theorem Try.laidO : laidOutB Try.prog = true := by kernel_rfl
theorem Try.rowPt : (41 : TypeId) < Try.prog.types.size := of_decide_eq_true (by kernel_rfl)
theorem Try.widePt : (match Try.prog.underlying 41 with | some (.array _ _) | some (.struct _) => true | _ => false) = true := by rw [Try.underlying41]
set_option maxRecDepth 100000 in
theorem ptLaw : Keyed Try.prog 41 := Keyed.of_law (deep_law_laid Try.laidO (m := 3) (by omega) Try.rowPt (by kernel_rfl) Try.widePt)
theorem Try.ptKeyType : Try.prog.keyType 41 = true := by kernel_rfl
theorem Try.cellsPt : Try.prog.cellsOf 41 = 33 := by kernel_rfl
theorem Try.cellsH : Try.prog.cellsOf 24 = 32 := by kernel_rfl
theorem Try.cellsB : Try.prog.cellsOf 5 = 1 := by kernel_rfl
theorem Try.cellsN : Try.prog.cellsOf 39 = 1 := by kernel_rfl
theorem Try.manyTypes : decide (2 ≤ Try.prog.types.size) = true := by kernel_rfl
def ptLits (i : InR) : List Lit := (i.id.map fun x => Lit.int .u8 (x.toNat : Int)) ++ [.int .u32 (i.n : Int)]
def ptKey (i : InR) : Lit := .string (keyBytes (ptLits i))
theorem tdo {cs : List Value} {i : Nat} (h : i < cs.length) : (cs.drop i).take 1 = [cs[i]] := by
  rw [List.drop_eq_getElem_cons h]; rfl
theorem keyLits_u8 (d : Nat) (x : UInt8) : Try.prog.keyLits (d + 1) 5 [.int .u8 (x.toNat : Int)] = some [.int .u8 (x.toNat : Int)] := by
  unfold Program.keyLits
  rw [Try.underlying5]
  have hw : (Lit.int .u8 (x.toNat : Int)).wf = true := by
    have := x.toNat_lt
    show (decide ((0 : Int) ≤ (x.toNat : Int)) && decide ((x.toNat : Int) ≤ 255)) = true
    rw [Bool.and_eq_true]
    exact ⟨decide_eq_true (by omega), decide_eq_true (by omega)⟩
  simp [hw]
theorem flat_one {α β : Type} (f : α → β) (l : List α) : (l.map fun x => [f x]).flatten = l.map f := by
  induction l with
  | nil => rfl
  | cons a r ih => simp only [List.map_cons, List.flatten_cons, ih]; rfl
theorem mapM_range {l : List UInt8} (d : Nat) : ∀ (n : Nat), n ≤ l.length → (List.range n).mapM (fun i => Try.prog.keyLits (d + 1) 5 (((By l).drop (i * 1)).take 1)) = some ((l.take n).map fun x => [Lit.int .u8 (x.toNat : Int)])
  | 0, _ => by simp
  | n + 1, h => by
    have ih := mapM_range (l := l) d n (by omega)
    have e : ((By l).drop (n * 1)).take 1 = [.int .u8 ((l[n]'(by omega)).toNat : Int)] := by
      rw [Nat.mul_one, tdo (by rw [By_length]; omega)]
      simp [By]
    rw [List.range_succ, List.mapM_append, ih]
    simp only [List.mapM_cons, List.mapM_nil, e, keyLits_u8]
    simp
    rw [List.take_succ_eq_append_getElem (by rw [List.length_map]; omega)]
    simp
theorem keyLits_hash (d : Nat) {l : List UInt8} (h : l.length = 32) : Try.prog.keyLits (d + 2) 24 (By l) = some (l.map fun x => Lit.int .u8 (x.toNat : Int)) := by
  unfold Program.keyLits
  rw [Try.underlying24]
  simp only [Try.cellsH, Try.cellsB, By_length, h, if_true]
  have e := mapM_range (l := l) d 32 (by omega)
  rw [e, List.take_of_length_le (by omega)]
  rw [Option.map_some, flat_one]
theorem keyLits_u32 (d n : Nat) (h : n < 4294967296) : Try.prog.keyLits (d + 1) 39 [.int .u32 (n : Int)] = some [.int .u32 (n : Int)] := by
  unfold Program.keyLits
  rw [Try.underlying39]
  have hw : (Lit.int .u32 (n : Int)).wf = true := by
    show (decide ((0 : Int) ≤ (n : Int)) && decide ((n : Int) ≤ 4294967295)) = true
    rw [Bool.and_eq_true]
    exact ⟨decide_eq_true (by omega), decide_eq_true (by omega)⟩
  simp [hw]
theorem keyLits_pt (d : Nat) {i : InR} (h : i.id.length = 32) (hn : i.n < 4294967296) : Try.prog.keyLits (d + 3) 41 (ptC i) = some (ptLits i) := by
  unfold Program.keyLits
  rw [Try.underlying41]
  have e1 : ((ptC i).drop 0).take 32 = By i.id := by unfold ptC; rw [List.drop_zero, List.take_left' (by rw [By_length, h])]
  have e2 : ((ptC i).drop 32).take 1 = [.int .u32 (i.n : Int)] := by unfold ptC; rw [List.drop_left' (by rw [By_length, h])]; rfl
  simp [Try.cellsPt, ptC_len h, Try.cellsH, Try.cellsN, List.mapM_cons]
  rw [List.drop_zero] at e1
  rw [e1, e2, keyLits_hash d h, keyLits_u32 (d + 1) i.n hn]
  simp [ptLits]
set_option maxRecDepth 100000 in
theorem keyOf_pt {i : InR} (h : i.id.length = 32) (hn : i.n < 4294967296) : keyOf Try.prog 41 (.agg (ptC i).toArray) = some (ptKey i) := by
  unfold keyOf
  rw [Try.underlying41]
  have hf : Value.formed Try.prog 41 (.agg (ptC i).toArray) = true := by
    unfold Value.formed
    rw [Try.underlying41, Try.cellsPt]
    simp [ptC_len h]
  obtain ⟨d, hd⟩ : ∃ d, Try.prog.types.size + 1 = d + 3 := ⟨Try.prog.types.size - 2, by have := of_decide_eq_true Try.manyTypes; omega⟩
  have e : (Value.agg (ptC i).toArray).cells.toList = ptC i := rfl
  rw [hd]
  simp only [Try.ptKeyType, hf, Bool.and_self, if_true, e, keyLits_pt d h hn, Option.map_some]
  rfl
def backI : Value → Int
  | .int _ n => n
  | _ => 0
theorem By_back (l : List UInt8) : (By l).map (fun v => UInt8.ofNat (backI v).toNat) = l := by
  unfold By
  rw [List.map_map]
  induction l with
  | nil => rfl
  | cons a r ih =>
    rw [List.map_cons, ih]
    congr 1
    show UInt8.ofNat ((a.toNat : Int)).toNat = a
    rw [Int.toNat_natCast, UInt8.ofNat_toNat]
theorem By_inj {l m : List UInt8} (h : By l = By m) : l = m := by rw [← By_back l, h, By_back]
theorem ptKey_inj {i j : InR} (hi : i.id.length = 32) (hj : j.id.length = 32) (hn : i.n < 4294967296) (hm : j.n < 4294967296) : ptKey i = ptKey j ↔ pt i = pt j := by
  constructor
  · intro e
    have h1 := keyOf_pt hi hn
    have h2 := keyOf_pt hj hm
    rw [e] at h1
    have h3 := ptLaw.inj h1 h2
    have h4 : ptC i = ptC j := congrArg (fun v : Value => v.cells.toList) h3
    unfold ptC at h4
    obtain ⟨h5, h6⟩ := List.append_inj h4 (by rw [By_length, By_length, hi, hj])
    have h7 : i.id = j.id := By_inj h5
    have h8 : i.n = j.n := by
      have h9 : (i.n : Int) = (j.n : Int) := congrArg (fun l : List Value => backI (l.getD 0 undef)) h6
      omega
    unfold pt
    rw [h7, h8]
  · intro e
    unfold pt at e
    injection e with e1 e2
    unfold ptKey ptLits
    rw [e1, e2]
end Go.Proofs.Ytjcbihdhkaiidaa
namespace Go.Proofs.Ytjcbihdhkaiidaa
open Go.RowKit Go.Maps

/-- The outpoints as keys. -/
def ptSet (l : List InR) : DataW Unit := setOf (.agg []) (l.map ptKey)
theorem ptSet_next {l : List InR} {k : Nat} (h : k < l.length) : ptSet (l.take (k + 1)) = (ptSet (l.take k)).put (ptKey l[k]) (.agg []) := by
  unfold ptSet
  rw [List.take_succ_eq_append_getElem h, List.map_append, List.map_singleton, setOf_snoc]
/-- What spent answers. -/
def SpentPost (w : World) (l : List InR) (e : Ending) (w' : World) : Prop := ∃ B, e = .returned (.map (some B)) ∧ w'.ownsMap Try.prog 41 (unitElem (H := Unit)) B l.length (ptSet l) ∧ Below w.heap.size w w'
theorem inC_pt (i : InR) : inC i = ptC i ++ [.slice i.A i.wit.length i.c] := by simp [inC, ptC]
theorem rng_prefix {w : World} {b o : Nat} {cs ds : List Value} (h : w.rangeAt b o (cs ++ ds)) : w.rangeAt b o cs := fun j v hv => h j v (by rw [List.getElem?_append_left (List.getElem?_eq_some_iff.1 hv).1]; exact hv)
theorem own_map_keeps {w w' : World} {P : Program} {k : TypeId} {R : Value → Option (DataW Unit × List MemPlace)} {b n g : Nat} {D : DataW Unit} (h : w.ownsMap P k R b n D) (hk : Keeps (· = g) w w') (hne : b ≠ g) : w'.ownsMap P k R b n D := by
  obtain ⟨es, clock, hb, r⟩ := h
  exact ⟨es, clock, (hk.block b (Array.getElem?_eq_some_iff.1 hb).1 hne).trans hb, r⟩
theorem own_map_ne {w : World} {P : Program} {k : TypeId} {R : Value → Option (DataW Unit × List MemPlace)} {b n : Nat} {D : DataW Unit} (h : w.ownsMap P k R b n D) : b ≠ w.heap.size := by
  obtain ⟨es, clock, hb, r⟩ := h
  have := (Array.getElem?_eq_some_iff.1 hb).1
  omega
end Go.Proofs.Ytjcbihdhkaiidaa
