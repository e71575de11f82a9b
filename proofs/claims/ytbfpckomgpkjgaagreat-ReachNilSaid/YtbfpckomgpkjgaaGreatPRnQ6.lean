/-
  bytes.Compare, of what two slices show.
  dag: rows of bits (pure).
  dag: how two hashes stand; rows of bits in memory.
-/
import Derived.Test.YtbfpckomgpkjgaaGreatPRnQ3
import Derived.Lib.Bytealg
import Derived.Test.YtbfpckomgpkjgaaGreatProg
import Derived.Test.YtbfpckomgpkjgaaGreatPRnQ2
import Derived.Lib.TrailingZeros
import Derived.Test.YtbfpckomgpkjgaaGreatVals
import Derived.Laws.Bits64b
import Derived.Deep.OwnRows
import Derived.BigQuiet
import Derived.Deep.Quiet
namespace Go.Proofs.YtbfpckomgpkjgaaGreat
open Go.RowKit

theorem run_loadBytes {P : Program} {w : World} {b : Nat} : ∀ (l : List UInt8) (off : Nat) (acc : ByteArray), (∀ i (h : i < l.length), w.cell? ⟨b, off + i, none⟩ = some (.int .u8 (l[i].toNat : Int))) →
    (Extern.Bytes.loadBytes ⟨b, off, none⟩ l.length acc).run P w = .ok ⟨(acc.data.toList ++ l).toArray⟩ w
  | [], off, acc, _ => by
    simp [Extern.Bytes.loadBytes, Sem.run_pure]
  | x :: r, off, acc, h => by
    have h0 := h 0 (by simp)
    rw [Nat.add_zero] at h0
    have ih := run_loadBytes (P := P) (w := w) (b := b) r (off + 1) (acc.push x) (fun i hi => by
      have := h (i + 1) (by simpa using hi)
      rw [show off + (i + 1) = off + 1 + i by omega] at this
      simpa using this)
    rw [List.length_cons, Extern.Bytes.loadBytes]
    have hl : Sem.run P (load ⟨b, off, none⟩) w = .ok (.int .u8 (x.toNat : Int)) w := by
      unfold load
      simp [Sem.run, h0]
    rw [Sem.run_bind, hl, Result.andThen_ok]
    have e : (Int.toNat (x.toNat : Int)).toUInt8 = x := by simp
    simp only [e]
    have ea : (⟨b, off, none⟩ : Addr).add 1 = ⟨b, off + 1, none⟩ := rfl
    rw [ea, ih]
    simp
theorem run_bytesOf {P : Program} {w : World} {B : Nat} {A : Option Addr} {l : List UInt8} {c : Nat} (h : Sees w B A l) : (Extern.Bytes.bytesOf (.slice A l.length c)).run P w = .ok ⟨l.toArray⟩ w := by
  rcases h with rfl | ⟨b, off, rfl, _, hc⟩
  · cases A with
    | none => rfl
    | some a => rfl
  · have := run_loadBytes (P := P) (w := w) (b := b) l off .empty hc
    show Sem.run P (Extern.Bytes.loadBytes ⟨b, off, none⟩ l.length .empty) w = _
    rw [this]
    rfl
theorem run_compare {w : World} {B B' : Nat} {A C : Option Addr} {a b : List UInt8} {c d : Nat} (ha : Sees w B A a) (hb : Sees w B' C b) :
    (callFunc 123 #[.slice A a.length c, .slice C b.length d]).run Tryz.prog w = .ok (.value (.int .i64 (Lib.compareBytes a b))) w := by
  rw [run_callFunc_extern (e := Extern.BytealgCompare.compare) Tryz.func123 (by kernel_rfl) (by kernel_rfl) (by kernel_rfl) (by kernel_rfl)]
  have e : Sem.run Tryz.prog (Extern.BytealgCompare.compare #[.slice A a.length c, .slice C b.length d]) w = .ok (.int .i64 (Lib.compareBytes a b)) w := by
    change Sem.run Tryz.prog (do pure (goInt (Extern.BytealgCompare.cmp (← Extern.Bytes.bytesOf (.slice A a.length c)) (← Extern.Bytes.bytesOf (.slice C b.length d))))) w = _
    rw [Sem.run_bind, run_bytesOf ha, Result.andThen_ok, Sem.run_bind, run_bytesOf hb, Result.andThen_ok, Lib.cmp_eq]
    rfl
  rw [e]
  rfl
theorem bytesCompare_any (w : World) (A C : Option Addr) (a b : List UInt8) (c d : Nat) (ha : Sees w w.heap.size A a) (hb : Sees w w.heap.size C b) :
    Calls Tryz.prog 94 #[.slice A a.length c, .slice C b.length d] w fun e w' => e = .returned (.int .i64 (Lib.compareBytes a b)) ∧ w' = w := by
  have hE := run_compare (c := c) (d := d) ha hb
  go_enter Tryz.func94, Tryz.ntmps94
  go_wp2
  go_ret
  exact ⟨rfl, rfl⟩
end Go.Proofs.YtbfpckomgpkjgaaGreat

namespace Go.Proofs.YtbfpckomgpkjgaaGreat

def rowB (ws : List Nat) (m : Nat) : Bool := (ws.getD (m / 64) 0).testBit (m % 64)
def setR (ws : List Nat) (n : Nat) : List Nat := ws.set (n / 64) (ws.getD (n / 64) 0 ||| 2 ^ (n % 64))
def joinR : List Nat → List Nat → List Nat
  | ws, [] => ws
  | [], _ => []
  | a :: ws, b :: o => (a ||| b) :: joinR ws o
def Small (ws : List Nat) : Prop := ∀ x ∈ ws, x < 18446744073709551616
theorem setR_len (ws : List Nat) (n : Nat) : (setR ws n).length = ws.length := by simp [setR]
theorem joinR_len : ∀ (ws o : List Nat), (joinR ws o).length = ws.length
  | ws, [] => by cases ws <;> simp [joinR]
  | [], _ :: _ => by simp [joinR]
  | a :: ws, b :: o => by simp [joinR, joinR_len ws o]
theorem getD_lt {ws : List Nat} (h : Small ws) (i : Nat) : ws.getD i 0 < 18446744073709551616 := by
  rcases Nat.lt_or_ge i ws.length with h1 | h1
  · rw [List.getD_eq_getElem?_getD, List.getElem?_eq_getElem h1]; exact h _ (List.getElem_mem h1)
  · rw [List.getD_eq_getElem?_getD, List.getElem?_eq_none h1]; decide
theorem pow_lt (n : Nat) : 2 ^ (n % 64) < 18446744073709551616 := by
  have : 2 ^ (n % 64) < 2 ^ 64 := Nat.pow_lt_pow_right (by decide) (Nat.mod_lt _ (by decide))
  exact this
theorem or_lt {a b : Nat} (ha : a < 18446744073709551616) (hb : b < 18446744073709551616) : a ||| b < 18446744073709551616 := Nat.or_lt_two_pow (n := 64) ha hb
theorem setR_small {ws : List Nat} (h : Small ws) (n : Nat) : Small (setR ws n) := by
  intro x hx
  rcases List.mem_or_eq_of_mem_set hx with h1 | rfl
  · exact h x h1
  · exact or_lt (getD_lt h _) (pow_lt n)
theorem joinR_small : ∀ {ws o : List Nat}, Small ws → Small o → Small (joinR ws o)
  | ws, [], h, _ => by cases ws <;> exact h
  | [], _ :: _, h, _ => h
  | a :: ws, b :: o, h, k => by
    intro x hx
    rw [joinR] at hx
    rcases List.mem_cons.1 hx with rfl | hx
    · exact or_lt (h _ (by simp)) (k _ (by simp))
    · exact joinR_small (fun y hy => h y (List.mem_cons_of_mem _ hy)) (fun y hy => k y (List.mem_cons_of_mem _ hy)) x hx
theorem rowB_set {ws : List Nat} {n : Nat} (h : n / 64 < ws.length) (m : Nat) : rowB (setR ws n) m = (decide (m = n) || rowB ws m) := by
  unfold rowB setR
  rw [List.getD_eq_getElem?_getD, List.getElem?_set]
  by_cases e : n / 64 = m / 64
  · rw [if_pos e, if_pos h]
    simp only [Option.getD_some, Nat.testBit_or, Nat.testBit_two_pow, e]
    rw [Bool.or_comm]
    congr 1
    rw [decide_eq_decide]
    omega
  · rw [if_neg e, ← List.getD_eq_getElem?_getD]
    rw [decide_eq_false (by intro k; subst k; exact e rfl), Bool.false_or]
theorem joinR_get : ∀ (ws o : List Nat) (i : Nat), o.length ≤ ws.length → (joinR ws o).getD i 0 = ws.getD i 0 ||| o.getD i 0
  | ws, [], i, _ => by cases ws <;> simp [joinR]
  | [], _ :: _, i, h => by simp at h
  | a :: ws, b :: o, 0, _ => by simp [joinR]
  | a :: ws, b :: o, i + 1, h => by
    have := joinR_get ws o i (by simpa using h)
    simpa [joinR] using this
theorem rowB_join {ws o : List Nat} (h : o.length ≤ ws.length) (m : Nat) : rowB (joinR ws o) m = (rowB ws m || rowB o m) := by
  unfold rowB
  rw [joinR_get ws o _ h, Nat.testBit_or]
theorem rowB_zero (k m : Nat) : rowB (List.replicate k 0) m = false := by
  unfold rowB
  rw [List.getD_eq_getElem?_getD, List.getElem?_replicate]
  split <;> simp
theorem rowB_lt {ws : List Nat} {m : Nat} (h : rowB ws m = true) : m < 64 * ws.length := by
  unfold rowB at h
  rcases Nat.lt_or_ge (m / 64) ws.length with h1 | h1
  · omega
  · rw [List.getD_eq_getElem?_getD, List.getElem?_eq_none h1] at h; simp at h
/-- The words that are joined so far. -/
theorem joinR_take (ws o : List Nat) (k : Nat) (h : k < o.length) (hl : o.length ≤ ws.length) : joinR ws (o.take (k + 1)) = (joinR ws (o.take k)).set k (ws.getD k 0 ||| o[k]) := by
  induction o generalizing ws k with
  | nil => simp at h
  | cons b o ih =>
    cases ws with
    | nil => simp at hl
    | cons a ws =>
      cases k with
      | zero => simp [joinR]
      | succ k =>
        have := ih ws k (by simpa using h) (by simpa using hl)
        simp only [List.take_succ_cons, joinR, List.set_cons_succ, this]
        simp
theorem joinR_beyond (ws o : List Nat) (k : Nat) (hk : o.length ≤ k) : (joinR ws o).getD k 0 = ws.getD k 0 := by
  induction o generalizing ws k with
  | nil => cases ws <;> simp [joinR]
  | cons b o ih =>
    cases ws with
    | nil => simp [joinR]
    | cons a ws =>
      cases k with
      | zero => simp at hk
      | succ k => have := ih ws k (by simpa using hk); simpa [joinR] using this

/-- Without its lowest bit. -/
theorem low_form {x : Nat} (h0 : x ≠ 0) (h : x < 18446744073709551616) : ∃ m, x = 2 ^ Lib.ctz 64 x * (2 * m + 1) ∧ Lib.ctz 64 x < 64 := by
  have := Lib.ctzFrom_spec 64 x (by omega) h
  unfold Lib.ctz
  rw [if_neg h0]
  exact this
theorem low_bit {x : Nat} (h0 : x ≠ 0) (h : x < 18446744073709551616) (i : Nat) : (x &&& (x - 1)).testBit i = (decide (i ≠ Lib.ctz 64 x) && x.testBit i) := by
  obtain ⟨m, hm, _⟩ := low_form h0 h
  generalize Lib.ctz 64 x = k at *
  have hp : 0 < 2 ^ k := Nat.two_pow_pos k
  have e1 : x = 2 ^ k * (2 * m + 1) + 0 := by omega
  have e2 : x - 1 = 2 ^ k * (2 * m) + (2 ^ k - 1) := by
    rw [hm, Nat.mul_add, Nat.mul_one]; omega
  have b1 : x.testBit i = if i < k then (0 : Nat).testBit i else (2 * m + 1).testBit (i - k) := by
    conv => lhs; rw [e1]
    rw [Nat.testBit_two_pow_mul_add _ hp]
  have b2 : (x - 1).testBit i = if i < k then (2 ^ k - 1).testBit i else (2 * m).testBit (i - k) := by
    conv => lhs; rw [e2]
    rw [Nat.testBit_two_pow_mul_add _ (by omega)]
  rw [Nat.testBit_and, b1, b2]
  by_cases h1 : i < k
  · simp [h1]
  · rw [if_neg h1, if_neg h1]
    by_cases h2 : i = k
    · subst h2; simp [Nat.testBit_zero]
    · obtain ⟨j, hj⟩ : ∃ j, i - k = j + 1 := ⟨i - k - 1, by omega⟩
      rw [hj, Nat.testBit_succ, Nat.testBit_succ]
      have d1 : (2 * m + 1) / 2 = m := by omega
      have d2 : 2 * m / 2 = m := by omega
      rw [d1, d2]
      simp [h2]
theorem low_set {x : Nat} (h0 : x ≠ 0) (h : x < 18446744073709551616) : x.testBit (Lib.ctz 64 x) = true := by
  obtain ⟨m, hm, _⟩ := low_form h0 h
  generalize Lib.ctz 64 x = k at *
  have hp : 0 < 2 ^ k := Nat.two_pow_pos k
  have e1 : x = 2 ^ k * (2 * m + 1) + 0 := by omega
  rw [e1, Nat.testBit_two_pow_mul_add _ hp, if_neg (by omega)]
  simp [Nat.testBit_zero]
theorem low_lt {x : Nat} (h0 : x ≠ 0) : x &&& (x - 1) < x := by
  have := Nat.and_le_right (n := x) (m := x - 1)
  omega
/-- The bits of a word, as they are gone over. -/
def bitsL (x : Nat) : List Nat := if h : x = 0 then [] else Lib.ctz 64 x :: bitsL (x &&& (x - 1))
termination_by x
decreasing_by exact low_lt h
theorem bitsL_zero : bitsL 0 = [] := by rw [bitsL]; simp
theorem bitsL_step {x : Nat} (h : x ≠ 0) : bitsL x = Lib.ctz 64 x :: bitsL (x &&& (x - 1)) := by rw [bitsL, dif_neg h]
theorem mem_bitsL {x : Nat} (h : x < 18446744073709551616) {i : Nat} : i ∈ bitsL x ↔ x.testBit i = true := by
  induction x using Nat.strongRecOn with
  | _ x ih =>
    by_cases h0 : x = 0
    · subst h0; rw [bitsL_zero]; simp
    · have hl := low_lt h0
      rw [bitsL_step h0, List.mem_cons, ih _ hl (by omega), low_bit h0 h]
      have := low_set h0 h
      by_cases e : i = Lib.ctz 64 x
      · subst e; simp [this]
      · simp [e]
theorem bitsL_nodup {x : Nat} (h : x < 18446744073709551616) : (bitsL x).Nodup := by
  induction x using Nat.strongRecOn with
  | _ x ih =>
    by_cases h0 : x = 0
    · subst h0; rw [bitsL_zero]; simp
    · have hl := low_lt h0
      rw [bitsL_step h0, List.nodup_cons]
      refine ⟨fun hm => ?_, ih _ hl (by omega)⟩
      rw [mem_bitsL (by omega), low_bit h0 h] at hm
      simp at hm
theorem bits_lt {x i : Nat} (h : x < 18446744073709551616) (k : x.testBit i = true) : i < 64 := by
  rcases Nat.lt_or_ge i 64 with h1 | h1
  · exact h1
  · have : x < 2 ^ i := Nat.lt_of_lt_of_le h (Nat.pow_le_pow_right (n := 2) (by decide) h1)
    rw [Nat.testBit_lt_two_pow this] at k; cases k
theorem bitsL_len {x : Nat} (h : x < 18446744073709551616) : (bitsL x).length ≤ 64 := len_le_of (bitsL_nodup h) fun i hi => bits_lt h ((mem_bitsL h).1 hi)
/-- The places of a row, as they are gone over; from word k on. -/
def allFrom : Nat → List Nat → List Nat
  | _, [] => []
  | k, x :: r => (bitsL x).map (fun i => k * 64 + i) ++ allFrom (k + 1) r
theorem mem_allFrom {ws : List Nat} (h : Small ws) {k m : Nat} : m ∈ allFrom k ws ↔ ∃ j i, (ws.getD j 0).testBit i = true ∧ i < 64 ∧ j < ws.length ∧ m = (k + j) * 64 + i := by
  induction ws generalizing k with
  | nil => simp [allFrom]
  | cons x r ih =>
    have hx := h x (by simp)
    rw [allFrom, List.mem_append, List.mem_map, ih (fun y hy => h y (List.mem_cons_of_mem _ hy))]
    constructor
    · rintro (⟨i, hi, rfl⟩ | ⟨j, i, h1, h2, h3, rfl⟩)
      · have := (mem_bitsL hx).1 hi
        exact ⟨0, i, by simpa using this, bits_lt hx this, by simp, by simp⟩
      · exact ⟨j + 1, i, by simpa using h1, h2, by simp; omega, by simp only [Nat.add_mul]; omega⟩
    · rintro ⟨j, i, h1, h2, h3, rfl⟩
      cases j with
      | zero => exact .inl ⟨i, (mem_bitsL hx).2 (by simpa using h1), by simp⟩
      | succ j => exact .inr ⟨j, i, by simpa using h1, h2, by simp at h3; omega, by simp only [Nat.add_mul]; omega⟩
theorem mem_allR {ws : List Nat} (h : Small ws) {m : Nat} : m ∈ allFrom 0 ws ↔ rowB ws m = true := by
  rw [mem_allFrom h]
  unfold rowB
  constructor
  · rintro ⟨j, i, h1, h2, h3, rfl⟩
    have e1 : ((0 + j) * 64 + i) / 64 = j := by omega
    have e2 : ((0 + j) * 64 + i) % 64 = i := by omega
    rw [e1, e2]; exact h1
  · intro h1
    have h2 := rowB_lt (ws := ws) (m := m) h1
    exact ⟨m / 64, m % 64, h1, by omega, by omega, by omega⟩
theorem allFrom_nodup {ws : List Nat} (h : Small ws) (k : Nat) : (allFrom k ws).Nodup := by
  induction ws generalizing k with
  | nil => simp [allFrom]
  | cons x r ih =>
    have hx := h x (by simp)
    have hr : Small r := fun y hy => h y (List.mem_cons_of_mem _ hy)
    rw [allFrom, List.nodup_append]
    refine ⟨nodup_map_on (fun a _ b _ e => by omega) (bitsL_nodup hx), ih hr _, fun a ha b hb e => ?_⟩
    subst e
    obtain ⟨i, hi, rfl⟩ := List.mem_map.1 ha
    obtain ⟨j, i', _, h2, _, h4⟩ := (mem_allFrom hr).1 hb
    have := bits_lt hx ((mem_bitsL hx).1 hi)
    omega
end Go.Proofs.YtbfpckomgpkjgaaGreat

namespace Go.Proofs.YtbfpckomgpkjgaaGreat
open Go.RowKit

/-- A hash's cells. -/
def hC (h : Hh) : List Value := By h.1
theorem hC_len (h : Hh) : (hC h).length = 32 := by rw [hC, By_length]; exact h.2
theorem hC_one (h : Hh) : ∀ u ∈ hC h, u.oneCell' = true := By_one _
set_option maxHeartbeats 1000000 in
theorem compare_any (w : World) (a b : Hh) : Calls Tryz.prog 69 #[.agg (hC a).toArray, .agg (hC b).toArray] w fun e w' => e = .returned (.int .i64 (cmpH a b)) ∧ ∃ q, w' = ((w.alloc (.cells (hC a).toArray 23)).alloc (.cells (hC b).toArray 23)).drewN q := by
  unfold hC cmpH
  obtain ⟨W, hW⟩ : ∃ W, W = ((w.alloc (.cells (By a.1).toArray 23)).alloc (.cells (By b.1).toArray 23)) := ⟨_, rfl⟩
  have ba : Blk W w.heap.size 23 (By a.1).toArray := by rw [hW]; exact (Blk.alloc (heap_alloc_new w _) _)
  have bb : Blk W (w.heap.size + 1) 23 (By b.1).toArray := by
    rw [hW]
    have := heap_alloc_new (w.alloc (.cells (By a.1).toArray 23)) (.cells (By b.1).toArray 23)
    rw [World.size_alloc] at this
    exact this
  have sa : Hid (Sees W W.heap.size (some ⟨w.heap.size, 0, none⟩) a.1) := .inr ⟨_, _, rfl, ba.lt, fun i hi => by rw [Nat.zero_add, ba.cell i]; simp [By, hi]⟩
  have sb : Hid (Sees W W.heap.size (some ⟨w.heap.size + 1, 0, none⟩) b.1) := .inr ⟨_, _, rfl, bb.lt, fun i hi => by rw [Nat.zero_add, bb.cell i]; simp [By, hi]⟩
  have HW := Lib.hid hW
  have ha := a.2
  have hb := b.2
  generalize a.1 = x at *
  generalize b.1 = y at *
  have hc := fun (q : Nat) => bytesCompare_any (W.drewN q) (some ⟨w.heap.size, 0, none⟩) (some ⟨w.heap.size + 1, 0, none⟩) x y 32 32 sa.out sb.out
  rw [ha, hb] at hc
  have HC := Lib.hid hc
  clear ba bb hW hc ha hb
  go_enter Tryz.func69, Tryz.ntmps69
  go_wp2
  rw [← HW.out]
  go_quiet (first | (go_at_call 94; refine Calls.quiet_of_same (HC.out _)))
  have hw := HW.out
  subst hw
  go_wp2
  go_ret
  exact ⟨rfl, nq, rfl⟩

/-- Words' cells. -/
def uC (ws : List Nat) : List Value := ws.map fun (x : Nat) => .int .u64 (x : Int)
theorem uC_len (ws : List Nat) : (uC ws).length = ws.length := by simp [uC]
theorem uC_at {w : World} {B : Nat} {A : Option Addr} {ws : List Nat} (h : SeesV w B A (uC ws)) {i : Nat} (hi : i < ws.length) : ∃ b off, A = some ⟨b, off, none⟩ ∧ w.cell? ⟨b, off + i, none⟩ = some (.int .u64 (ws[i] : Int)) := by
  obtain ⟨b, off, hA, _, hc⟩ := h.at_ (k := i) (by rw [uC_len]; exact hi)
  refine ⟨b, off, hA, ?_⟩
  rw [hc i (by rw [uC_len]; exact hi)]
  simp [uC]
theorem bit_and (x i : Nat) (hx : x < 18446744073709551616) : (bits BinOp.and IntKind.u64 ((x : Int) / 2 ^ i) 1 == 1) = x.testBit i := by
  have e : (x : Int) / 2 ^ i = ((x / 2 ^ i : Nat) : Int) := by push_cast; rfl
  rw [e]
  have h1 : x / 2 ^ i < 18446744073709551616 := Nat.lt_of_le_of_lt (Nat.div_le_self _ _) hx
  have h2 := bits_and_u64_nat (x / 2 ^ i) 1 h1 (by decide)
  rw [show ((1 : Nat) : Int) = 1 from rfl] at h2
  rw [h2, Nat.and_one_is_mod, Nat.testBit_eq_decide_div_mod_eq, Bool.eq_iff_iff, beq_iff_eq, decide_eq_true_eq]
  omega
/-- A row of words of the call's own. -/
theorem Tryz.u64infoD : (Tryz.prog.info? 107).map (fun i => (i.zero, i.size, i.bytes)) = some (some (.int .u64 0), 1, 8) := by kernel_rfl
theorem made_uC (n : Nat) : madeCells #[.int .u64 0] n = (uC (List.replicate n 0)).toArray := by
  apply Array.ext
  · simp [size_madeCells, uC]
  · intro i h1 h2
    simp [madeCells, uC, Nat.mod_one]
theorem make_words (wq : World) (k : Nat) (hk : k ≤ 1000000) : (Instr.makeSlice 117 (.int .i64 (k : Int)) (.int .i64 (k : Int))).run Tryz.prog wq = .ok (.slice (some ⟨wq.heap.size, 0, none⟩) k k) (wq.alloc (.cells (uC (List.replicate k 0)).toArray 107)) := by
  rw [run_make_row' 117 107 (.int .u64 0) 8 Tryz.underlying117 Tryz.u64infoD rfl .i64 .i64 k (by omega) (by omega) wq, made_uC]
theorem newRow_any (w : World) (n : Nat) (hn : n ≤ 1000000) :
    Calls Tryz.prog 97 #[.int .i64 (n : Int)] w fun e w' => e = .returned (.slice (some ⟨w.heap.size, 0, none⟩) ((n + 63) / 64) ((n + 63) / 64)) ∧ w' = w.alloc (.cells (uC (List.replicate ((n + 63) / 64) 0)).toArray 107) := by
  have hmk : ∀ wq : World, (Instr.makeSlice 117 (.int .i64 (((n + 63) / 64 : Nat) : Int)) (.int .i64 (((n + 63) / 64 : Nat) : Int))).run Tryz.prog wq = .ok (.slice (some ⟨wq.heap.size, 0, none⟩) ((n + 63) / 64) ((n + 63) / 64)) (wq.alloc (.cells (uC (List.replicate ((n + 63) / 64) 0)).toArray 107)) := fun wq => make_words wq _ (by omega)
  go_enter Tryz.func97, Tryz.ntmps97
  obtain ⟨k, hk⟩ : ∃ k, (n + 63) / 64 = k := ⟨_, rfl⟩
  rw [hk] at hmk ⊢
  obtain ⟨cs, hcs⟩ : ∃ cs, (uC (List.replicate k 0)).toArray = cs := ⟨_, rfl⟩
  rw [hcs] at hmk ⊢
  have hq : ((n : Int) + 64 - 1) / 64 = (k : Int) := by omega
  clear hcs
  go_wp2
  go_ret
  exact ⟨rfl, rfl⟩
set_option maxHeartbeats 1000000 in
theorem put_any (w : World) (g c : Nat) (ws : List Nat) (n : Nat) (hB : Blk w g 107 (uC ws).toArray) (hs : Small ws) (hn : n / 64 < ws.length) (hm : n ≤ 1000000000000) :
    Calls Tryz.prog 98 #[.slice (some ⟨g, 0, none⟩) ws.length c, .int .i64 (n : Int)] w fun e w' => e = .returned (.tuple #[]) ∧ Blk w' g 107 (uC (setR ws n)).toArray ∧ Keeps (· = g) w w' := by
  have hx := hs _ (List.getElem_mem hn)
  have hc : w.cell? ⟨g, n / 64, none⟩ = some (.int .u64 (ws[n / 64] : Int)) := by
    rw [hB.cell]; simp [uC, hn]
  have hf : w.frozen? ⟨g, n / 64, none⟩ = false := hB.frozen _
  have hr : setR ws n = ws.set (n / 64) (ws[n / 64] ||| 2 ^ (n % 64)) := by unfold setR; rw [List.getD_eq_getElem?_getD, List.getElem?_eq_getElem hn]; rfl
  have HB := Lib.hid hB
  have HR := Lib.hid hr
  have HX := Lib.hid hx
  obtain ⟨k, hk⟩ : ∃ k, ws.length = k := ⟨_, rfl⟩
  obtain ⟨x, hxx⟩ : ∃ x, ws[n / 64] = x := ⟨_, rfl⟩
  rw [hxx] at hc HR HX
  rw [hk] at hn ⊢
  clear hB hs hx hr hk
  go_enter Tryz.func98, Tryz.ntmps98
  go_wp2
  go_region
  go_wp2
  have hw : IntKind.u64.wrap (2 ^ (n % 64)) = ((2 ^ (n % 64) : Nat) : Int) := by
    have h1 := pow_lt n
    have h2 : ((2 : Int) ^ (n % 64)) = ((2 ^ (n % 64) : Nat) : Int) := by push_cast; rfl
    rw [h2, IntKind.wrap_u64]
    generalize 2 ^ (n % 64) = p at *
    omega
  rw [hw, bits_or_u64_nat x _ HX.out (pow_lt n)]
  go_end0
  refine ⟨rfl, ?_, ((Keeps.refl (fun x => x = g) w).setCell (p := ⟨g, n / 64, none⟩) rfl _).drew⟩
  have h := HB.out.set (n / 64) (.int .u64 ((x ||| 2 ^ (n % 64) : Nat) : Int))
  rw [HR.out]
  unfold uC at h ⊢
  rw [List.setIfInBounds_toArray] at h
  rw [List.map_set]
  exact h
theorem uC_set (ws : List Nat) (k x : Nat) : (uC ws).set k (.int .u64 (x : Int)) = uC (ws.set k x) := by unfold uC; rw [List.map_set]
set_option maxHeartbeats 1000000 in
theorem join_any (w : World) (g c B d : Nat) (ws o : List Nat) (A : Option Addr) (hB : Blk w g 107 (uC ws).toArray) (hS : SeesV w B A (uC o)) (hg : B ≤ g) (hl : o.length ≤ ws.length) (hs : Small ws) (ho : Small o) (hm : o.length ≤ 1000000) :
    Calls Tryz.prog 99 #[.slice (some ⟨g, 0, none⟩) ws.length c, .slice A o.length d] w fun e w' => e = .returned (.tuple #[]) ∧ Blk w' g 107 (uC (joinR ws o)).toArray ∧ Keeps (· = g) w w' := by
  have HB := Lib.hid hB
  have HS := Lib.hid hS
  have HG := Lib.hid hg
  have HL := Lib.hid hl
  have HW := Lib.hid hs
  have HO := Lib.hid ho
  clear hB hS hg hl hs ho
  go_enter Tryz.func99, Tryz.ntmps99
  go_wp2
  go_loopw [8] (fun iv wr => ∃ k : Nat, k ≤ o.length ∧ iv = .int .i64 k ∧ Hid (Blk wr g 107 (uC (joinR ws (o.take k))).toArray) ∧ Hid (Keeps (· = g) w wr)) (fun iv _ => o.length - (intOf iv).toNat)
  case atStart => exact ⟨0, by omega, rfl, by rw [List.take_zero]; cases ws <;> exact HB.out, Keeps.refl _ _⟩
  case round =>
    obtain ⟨k, hk, rfl, HBk, HK⟩ := hrel
    by_cases hlt : k < o.length
    · have hb := HG.out
      have hlt2 : k < ws.length := by have := HL.out; omega
      obtain ⟨b, off, hA, hb2, hcs⟩ := HS.out.at_ (k := k) (by rw [uC_len]; exact hlt)
      have hc0 : w.cell? ⟨b, off + k, none⟩ = some (.int .u64 (o[k] : Int)) := by rw [hcs k (by rw [uC_len]; exact hlt)]; simp [uC]
      have hblt : b < w.heap.size := World.block_lt_of_cell? _ _ hc0
      have hc1 : wr.cell? ⟨b, off + k, none⟩ = some (.int .u64 (o[k] : Int)) := (HK.out.cell (p := ⟨b, off + k, none⟩) hblt (by show ¬ b = g; omega)).trans hc0
      have hjl : k < (joinR ws (o.take k)).length := by rw [joinR_len]; exact hlt2
      have hje : (joinR ws (o.take k))[k] = ws[k] := by
        have h1 := joinR_beyond ws (o.take k) k (by rw [List.length_take]; omega)
        rw [List.getD_eq_getElem?_getD, List.getD_eq_getElem?_getD, List.getElem?_eq_getElem hjl, List.getElem?_eq_getElem hlt2] at h1
        exact h1
      have hc2 : wr.cell? ⟨g, k, none⟩ = some (.int .u64 (ws[k] : Int)) := by
        rw [HBk.out.cell, List.getElem?_toArray]
        unfold uC
        rw [List.getElem?_map, List.getElem?_eq_getElem hjl, hje]; rfl
      have hf2 : wr.frozen? ⟨g, k, none⟩ = false := HBk.out.frozen _
      have hx1 := HO.out _ (List.getElem_mem hlt)
      have hx2 := HW.out _ (List.getElem_mem hlt2)
      have HT : Hid (joinR ws (o.take (k + 1)) = (joinR ws (o.take k)).set k (ws[k] ||| o[k])) := by
        show _ = _
        rw [joinR_take ws o k hlt HL.out, List.getD_eq_getElem?_getD, List.getElem?_eq_getElem hlt2]; rfl
      obtain ⟨x, hx⟩ : ∃ x, o[k] = x := ⟨_, rfl⟩
      obtain ⟨y, hy⟩ : ∃ y, ws[k] = y := ⟨_, rfl⟩
      rw [hx] at hc1 hx1 HT
      rw [hy] at hc2 hx2 HT
      obtain ⟨L, hL⟩ : ∃ L, ws.length = L := ⟨_, rfl⟩
      rw [hA]
      rw [hL] at hlt2 ⊢
      have HX1 := Lib.hid hx1
      have HX2 := Lib.hid hx2
      clear hcs hc0 hje hjl hx hy hx1 hx2 hA hL
      go_wp2
      rw [bits_or_u64_nat y x HX2.out HX1.out]
      go_roundw
      case rel =>
        refine ⟨k + 1, by omega, by go_num, ?_, HK.out.setCell (p := ⟨g, k, none⟩) rfl _⟩
        have h := HBk.out.set k (.int .u64 ((y ||| x : Nat) : Int))
        rw [List.setIfInBounds_toArray, uC_set] at h
        show Blk _ _ _ _
        rw [HT.out]
        exact h
      case measure => simp [intOf] <;> omega
    · obtain rfl : k = o.length := by omega
      go_wp2
      go_end0
      exact ⟨rfl, by have := HBk.out; rwa [List.take_length] at this, HK.out⟩
end Go.Proofs.YtbfpckomgpkjgaaGreat
