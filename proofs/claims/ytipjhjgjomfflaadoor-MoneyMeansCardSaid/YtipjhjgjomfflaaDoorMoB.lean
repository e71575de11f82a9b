/-
  money: the amounts of texts, numbers and lists alone.
-/
import Derived.Test.YtipjhjgjomfflaaDoorMo8
import Derived.Lib.IndexBytes
namespace Go.Proofs.YtipjhjgjomfflaaDoor
open Go.RowKit Go.Sort

/-- The number behind a digit more, and what comes round. -/
def nx (acc d : Nat) : Nat := (10 * acc + d) % 18446744073709551616
def digU (b : UInt8) : Nat := (b.toNat + 18446744073709551568) % 18446744073709551616
theorem nx_in {acc d x : Nat} (h : 10 * acc + d = x) (hx : x ≤ maxM) : nx acc d = x := by
  unfold nx maxM at *; omega
theorem digU_ofNat {d : Nat} (h : d < 10) : digU (UInt8.ofNat (48 + d)) = d := by
  unfold digU; rw [UInt8.toNat_ofNat']; omega

/-- The rest's row of numbers: q, and j digits of r. -/
def upTo (q r j : Nat) : Nat := q * 10 ^ j + r / 10 ^ (8 - j)
theorem upTo_zero {q r : Nat} (h : r < 100000000) : upTo q r 0 = q := by
  unfold upTo; rw [Nat.pow_zero, Nat.mul_one, Nat.div_eq_of_lt (by simpa using h), Nat.add_zero]
theorem upTo_all {q r : Nat} : upTo q r 8 = q * 100000000 + r := by
  unfold upTo; simp
theorem upTo_succ {q r j : Nat} (hj : j < 8) : upTo q r (j + 1) = 10 * upTo q r j + r / 10 ^ (7 - j) % 10 := by
  unfold upTo
  rw [show 8 - (j + 1) = 7 - j by omega, show 8 - j = 7 - j + 1 by omega, Nat.pow_succ, Nat.pow_succ, ← Nat.div_div_eq_div_mul, Nat.mul_add]
  generalize r / 10 ^ (7 - j) = x
  rw [show q * (10 ^ j * 10) = 10 * (q * 10 ^ j) by rw [← Nat.mul_assoc, Nat.mul_comm]]
  omega
theorem upTo_mono {q r j : Nat} (hj : j ≤ 8) : upTo q r j ≤ q * 100000000 + r := by
  have : ∀ k, k ≤ 8 → upTo q r (8 - k) ≤ q * 100000000 + r := by
    intro k
    induction k with
    | zero => intro _; rw [Nat.sub_zero, upTo_all]; exact Nat.le_refl _
    | succ k ih =>
      intro hk
      have h1 := ih (by omega)
      have h2 := upTo_succ (q := q) (r := r) (j := 8 - (k + 1)) (by omega)
      rw [show 8 - (k + 1) + 1 = 8 - k by omega] at h2
      omega
  have h := this (8 - j) (by omega)
  rw [show 8 - (8 - j) = j by omega] at h
  exact h

/-- The digits that are there, and the noughts that are not. -/
theorem trim_back (l : List UInt8) (c : UInt8) : ∃ n, l = Lib.trimRightB l c ++ List.replicate n c := by
  refine ⟨(l.reverse.takeWhile (· == c)).length, ?_⟩
  have h1 : l.reverse.takeWhile (· == c) = List.replicate (l.reverse.takeWhile (· == c)).length c := by
    rw [List.eq_replicate_iff]
    refine ⟨rfl, fun b hb => ?_⟩
    have := List.all_takeWhile (p := (· == c)) (l := l.reverse)
    rw [List.all_eq_true] at this
    exact beq_iff_eq.1 (this b hb)
  have h2 := List.takeWhile_append_dropWhile (p := (· == c)) (l := l.reverse)
  have h3 := congrArg List.reverse h2
  rw [List.reverse_append, List.reverse_reverse, h1, List.reverse_replicate] at h3
  unfold Lib.trimRightB
  simpa using h3.symm
theorem rest_get {r k : Nat} (h : k < (restT r).length) : (restT r)[k] = Lib.dg r (7 - k) := by
  have h8 := restT_le r
  obtain ⟨n, hn⟩ := trim_back (pad8 r) 48
  have h1 : (pad8 r)[k]? = (restT r)[k]? := by
    conv => lhs; rw [hn]
    exact List.getElem?_append_left h
  rw [List.getElem?_eq_getElem h] at h1
  simp only [pad8, List.getElem?_map, List.getElem?_range (show k < 8 by omega), Option.map_some, Option.some.injEq] at h1
  exact h1.symm
theorem rest_none {r k : Nat} (h : (restT r).length ≤ k) (hk : k < 8) : r / 10 ^ (7 - k) % 10 = 0 := by
  obtain ⟨n, hn⟩ := trim_back (pad8 r) 48
  have hl : (pad8 r).length = 8 := by simp [pad8]
  have h1 : (pad8 r)[k]? = some 48 := by
    have h : (Lib.trimRightB (pad8 r) 48).length ≤ k := h
    rw [hn, List.getElem?_append_right h]
    have : k - (Lib.trimRightB (pad8 r) 48).length < n := by
      have := congrArg List.length hn
      rw [List.length_append, List.length_replicate, hl] at this
      have h' : (Lib.trimRightB (pad8 r) 48).length ≤ k := h
      omega
    rw [List.getElem?_replicate, if_pos this]
  simp only [pad8, List.getElem?_map, List.getElem?_range hk, Option.map_some, Option.some.injEq] at h1
  have h2 := dg_toNat r (7 - k)
  rw [h1] at h2
  generalize r / 10 ^ (7 - k) = x at *
  have h3 : ((48 : UInt8).toNat : Int) = 48 := rfl
  omega
/-- The digits behind the point, of an amount. -/
def behind (r : Nat) : List UInt8 := if r = 0 then [] else restT r
theorem behind_le (r : Nat) : (behind r).length ≤ 8 := by
  unfold behind; split
  · simp
  · exact restT_le r
theorem behind_get {r k : Nat} (h : k < (behind r).length) : (behind r)[k] = Lib.dg r (7 - k) := by
  unfold behind at *
  split at h
  · simp at h
  · rename_i h0
    simp only [h0, if_false]
    exact rest_get h
theorem behind_none {r k : Nat} (h : (behind r).length ≤ k) (hk : k < 8) : r / 10 ^ (7 - k) % 10 = 0 := by
  unfold behind at h
  split at h
  · rename_i h0; subst h0; simp
  · exact rest_none h hk

/-- The program's guess. -/
def valW (l : List UInt8) : Nat := l.foldl (fun acc b => nx acc (digU b)) 0
theorem valW_snoc (l : List UInt8) (b : UInt8) : valW (l ++ [b]) = nx (valW l) (digU b) := by
  unfold valW
  rw [List.foldl_append, List.foldl_cons, List.foldl_nil]
theorem valW_one (b : UInt8) : valW [b] = nx 0 (digU b) := by
  unfold valW
  rw [List.foldl_cons, List.foldl_nil]
theorem valW_take {l : List UInt8} {k : Nat} (h : k < l.length) : valW (l.take (k + 1)) = nx (valW (l.take k)) (digU l[k]) := by
  rw [List.take_succ_eq_append_getElem h, valW_snoc]
theorem valW_lt (l : List UInt8) : valW l < 18446744073709551616 := by
  rcases List.eq_nil_or_concat l with h | ⟨l', b, h⟩
  · subst h; show 0 < 18446744073709551616; decide
  · rw [h, List.concat_eq_append, valW_snoc]; exact Nat.mod_lt _ (by decide)
def stepR (rest : List UInt8) (acc k : Nat) : Nat := nx acc (if h : k < rest.length then digU rest[k] else 0)
def valR (rest : List UInt8) (a : Nat) : Nat → Nat
  | 0 => a
  | k + 1 => stepR rest (valR rest a k) k
def guessN (whole rest : List UInt8) : Nat := valR rest (valW whole) 8

theorem valW_dec : ∀ q : Nat, q ≤ maxM → valW (dec q) = q := by
  intro q
  induction q using Nat.strongRecOn with
  | ind q ih =>
    intro hq
    by_cases h : q < 10
    · rw [dec_small h, valW_one, digU_ofNat h]
      exact nx_in (by omega) hq
    · rw [dec_big h, valW_snoc, ih (q / 10) (by omega) (by omega), digU_ofNat (by omega)]
      exact nx_in (by omega) hq
theorem stepR_behind {q r j : Nat} (hj : j < 8) (hm : q * 100000000 + r ≤ maxM) : stepR (behind r) (upTo q r j) j = upTo q r (j + 1) := by
  have h1 := upTo_succ (q := q) (r := r) hj
  have h2 := upTo_mono (q := q) (r := r) (j := j + 1) (by omega)
  unfold stepR
  split
  · rename_i hlt
    rw [behind_get hlt]
    unfold Lib.dg
    rw [digU_ofNat (by omega)]
    exact nx_in h1.symm (by omega)
  · rename_i hge
    have h3 := behind_none (r := r) (k := j) (by omega) hj
    exact nx_in (by omega) (by omega)
theorem guess_text {a : Nat} (h : a ≤ maxM) : guessN (dec (a / 100000000)) (behind (a % 100000000)) = a := by
  unfold guessN
  rw [valW_dec _ (by omega)]
  have hm : a / 100000000 * 100000000 + a % 100000000 ≤ maxM := by omega
  have : ∀ j, j ≤ 8 → valR (behind (a % 100000000)) (a / 100000000) j = upTo (a / 100000000) (a % 100000000) j := by
    intro j
    induction j with
    | zero => intro _; rw [upTo_zero (by omega)]; rfl
    | succ j ih => intro hj; rw [valR, ih (by omega), stepR_behind (by omega) hm]
  rw [this 8 (by omega), upTo_all]
  omega

/-- Digits are no points. -/
theorem dec_digit (u : Nat) : ∀ b ∈ dec u, 48 ≤ b.toNat ∧ b.toNat ≤ 57 := by
  induction u using Nat.strongRecOn with
  | ind u ih =>
    intro b hb
    by_cases h : u < 10
    · rw [dec_small h] at hb
      obtain rfl := List.mem_singleton.1 hb
      rw [UInt8.toNat_ofNat']; omega
    · rw [dec_big h] at hb
      rcases List.mem_append.1 hb with hb | hb
      · exact ih _ (by omega) b hb
      · obtain rfl := List.mem_singleton.1 hb
        rw [UInt8.toNat_ofNat']; omega
theorem index_at (c : UInt8) (y : List UInt8) : ∀ x : List UInt8, (∀ b ∈ x, b ≠ c) → Lib.indexByte (x ++ c :: y) c = x.length
  | [], _ => by simp [Lib.indexByte]
  | b :: x, h => by
    have hb : (b == c) = false := beq_eq_false_iff_ne.2 (h b (by simp))
    have := index_at c y x (fun b' hb' => h b' (by simp [hb']))
    rw [List.cons_append]
    unfold Lib.indexByte
    rw [hb, this]
    have : ((x.length : Int) == -1) = false := by rw [beq_eq_false_iff_ne]; omega
    rw [this]
    simp
theorem index_no (c : UInt8) : ∀ x : List UInt8, (∀ b ∈ x, b ≠ c) → Lib.indexByte x c = -1
  | [], _ => rfl
  | b :: x, h => by
    have hb : (b == c) = false := beq_eq_false_iff_ne.2 (h b (by simp))
    have := index_no c x (fun b' hb' => h b' (by simp [hb']))
    unfold Lib.indexByte
    rw [hb, this]
    rfl
/-- The text's two sides. -/
def cutW (s : List UInt8) : List UInt8 := (Lib.cut s [46]).1
def cutR (s : List UInt8) : List UInt8 := (Lib.cut s [46]).2.1
theorem cut_text (a : Nat) : cutW (moneyT a) = dec (a / 100000000) ∧ cutR (moneyT a) = behind (a % 100000000) := by
  have hd : ∀ b ∈ dec (a / 100000000), b ≠ 46 := fun b hb e => by
    have := dec_digit _ b hb
    rw [e] at this
    have h3 : (46 : UInt8).toNat = 46 := rfl
    omega
  unfold cutW cutR Lib.cut
  rw [Lib.index_one]
  by_cases h : a % 100000000 = 0
  · rw [money_whole h, index_no 46 _ hd, if_neg (by omega), h]
    exact ⟨rfl, rfl⟩
  · rw [money_rest h, index_at 46 _ _ hd, if_pos (by omega)]
    unfold behind
    rw [if_neg h]
    simp
/-- The amount that a text can be of. -/
def guessS (s : List UInt8) : Nat := guessN (cutW s) (cutR s)
theorem guess_money {a : Nat} (h : a ≤ maxM) : guessS (moneyT a) = a := by
  unfold guessS
  rw [(cut_text a).1, (cut_text a).2, guess_text h]
theorem money_inj {a b : Nat} (ha : a ≤ maxM) (hb : b ≤ maxM) (h : moneyT a = moneyT b) : a = b := by
  rw [← guess_money ha, h, guess_money hb]

/-- Is s just n's text? -/
def ofOk (s : List UInt8) (n : Nat) : Bool := decide (n ≤ maxM ∧ moneyT n = s)
def ofV (s : List UInt8) : Nat := if ofOk s (guessS s) then guessS s else 0
def ofE (s : List UInt8) : Int := if ofOk s (guessS s) then 0 else 4
theorem of_text {a : Nat} (h : a ≤ maxM) : ofV (moneyT a) = a ∧ ofE (moneyT a) = 0 := by
  have : ofOk (moneyT a) (guessS (moneyT a)) = true := by rw [guess_money h]; exact decide_eq_true ⟨h, rfl⟩
  unfold ofV ofE
  rw [this]
  exact ⟨guess_money h, rfl⟩
theorem of_none {s : List UInt8} (h : ∀ a, a ≤ maxM → moneyT a ≠ s) : ofV s = 0 ∧ ofE s = 4 := by
  have : ofOk s (guessS s) = false := decide_eq_false (fun ⟨h1, h2⟩ => h _ h1 h2)
  unfold ofV ofE
  rw [this]
  exact ⟨rfl, rfl⟩

/-- The document's way through a text. -/
def scan : List UInt8 → Nat → Int → Option (Nat × Int)
  | [], n, b => some (n, b)
  | c :: s, n, b =>
    if c = 46 ∧ b < 0 then scan s n 0
    else if c.toNat < 48 ∨ 57 < c.toNat ∨ maxM < n ∨ 8 ≤ b then none
    else scan s (10 * n + (c.toNat - 48)) (if 0 ≤ b then b + 1 else b)
/-- The noughts that are not there: k of them. -/
def padN : Nat → Nat → Option Nat
  | 0, n => some n
  | k + 1, n => if maxM < n then none else padN k (10 * n)
def readN (s : List UInt8) : Option Nat := (scan s 0 (-1)).bind fun x => padN (8 - (max x.2 0).toNat) x.1

theorem scan_digit {d n : Nat} {b : Int} (s : List UInt8) (hd : d < 10) (hn : n ≤ maxM) (hb : b < 8) : scan (UInt8.ofNat (48 + d) :: s) n b = scan s (10 * n + d) (if 0 ≤ b then b + 1 else b) := by
  have h1 : (UInt8.ofNat (48 + d)).toNat = 48 + d := by rw [UInt8.toNat_ofNat']; omega
  have h2 : UInt8.ofNat (48 + d) ≠ 46 := fun e => by
    have := congrArg UInt8.toNat e
    rw [h1] at this
    have h3 : (46 : UInt8).toNat = 46 := rfl
    omega
  rw [scan, if_neg (fun h => h2 h.1), if_neg (by rw [h1]; omega), h1, show 48 + d - 48 = d by omega]
theorem scan_dec : ∀ q : Nat, q ≤ maxM → ∀ t, scan (dec q ++ t) 0 (-1) = scan t q (-1) := by
  intro q
  induction q using Nat.strongRecOn with
  | ind q ih =>
    intro hq t
    by_cases h : q < 10
    · rw [dec_small h, List.singleton_append, scan_digit t h (by omega) (by omega), Nat.mul_zero, Nat.zero_add]; rfl
    · rw [dec_big h, List.append_assoc, List.singleton_append, ih (q / 10) (by omega) (by omega), scan_digit t (by omega) (by omega) (by omega), show 10 * (q / 10) + q % 10 = q by omega]; rfl
theorem scan_rest {q r : Nat} (hm : q * 100000000 + r ≤ maxM) : ∀ k j, j + k = (behind r).length → scan ((behind r).drop j) (upTo q r j) j = some (upTo q r (behind r).length, ((behind r).length : Int)) := by
  have h8 := behind_le r
  intro k
  induction k with
  | zero =>
    intro j hj
    rw [List.drop_of_length_le (by omega), show (behind r).length = j by omega]; rfl
  | succ k ih =>
    intro j hj
    rw [List.drop_eq_getElem_cons (show j < (behind r).length by omega), behind_get (by omega)]
    unfold Lib.dg
    rw [scan_digit _ (by omega) (by have := upTo_mono (q := q) (r := r) (j := j) (by omega); omega) (by omega), ← upTo_succ (by omega), if_pos (by omega)]
    exact ih (j + 1) (by omega)
theorem pad_rest {q r : Nat} (hm : q * 100000000 + r ≤ maxM) : ∀ k j, j + k = 8 → (behind r).length ≤ j → padN k (upTo q r j) = some (q * 100000000 + r) := by
  intro k
  induction k with
  | zero => intro j hj _; rw [show j = 8 by omega, upTo_all]; rfl
  | succ k ih =>
    intro j hj hl
    have h1 := upTo_mono (q := q) (r := r) (j := j) (by omega)
    have h2 := upTo_succ (q := q) (r := r) (j := j) (by omega)
    rw [behind_none hl (by omega)] at h2
    have h3 : 10 * upTo q r j = upTo q r (j + 1) := h2.symm
    rw [padN, if_neg (by omega), h3]
    exact ih (j + 1) (by omega) (by omega)
theorem read_text {a : Nat} (h : a ≤ maxM) : readN (moneyT a) = some a := by
  have hm : a / 100000000 * 100000000 + a % 100000000 ≤ maxM := by omega
  unfold readN
  by_cases h0 : a % 100000000 = 0
  · have hd := scan_dec (a / 100000000) (by omega) []
    rw [List.append_nil] at hd
    rw [money_whole h0, hd]
    rw [h0] at hm
    have hp := pad_rest hm 8 0 rfl (by rw [behind, if_pos rfl]; exact Nat.le_refl _)
    rw [upTo_zero (by decide)] at hp
    rw [scan, Option.bind_some]
    dsimp only
    rw [show 8 - (max (-1 : Int) 0).toNat = 8 from rfl, hp]
    congr 1
    omega
  · have hb : behind (a % 100000000) = restT (a % 100000000) := by unfold behind; rw [if_neg h0]
    rw [money_rest h0, scan_dec _ (by omega)]
    have hs : scan (46 :: restT (a % 100000000)) (a / 100000000) (-1) = scan (restT (a % 100000000)) (a / 100000000) 0 := by
      rw [scan, if_pos ⟨rfl, by omega⟩]
    have hr := scan_rest hm (behind (a % 100000000)).length 0 (by omega)
    rw [List.drop_zero, upTo_zero (by omega), hb] at hr
    have hr' : scan (restT (a % 100000000)) (a / 100000000) 0 = some (upTo (a / 100000000) (a % 100000000) (restT (a % 100000000)).length, ((restT (a % 100000000)).length : Int)) := hr
    rw [hs, hr']
    have h8 := restT_le (a % 100000000)
    have hp := pad_rest hm (8 - (restT (a % 100000000)).length) (restT (a % 100000000)).length (by omega) (by rw [hb]; exact Nat.le_refl _)
    rw [Option.bind_some]
    dsimp only
    rw [show (max ((restT (a % 100000000)).length : Int) 0).toNat = (restT (a % 100000000)).length by omega, hp]
    congr 1
    omega
/-- What is none's text is none's, whatever number it may be held for. -/
theorem of_read {s : List UInt8} {n : Nat} (h : readN s = some n) : ofV s = (if ofOk s n then n else 0) ∧ ofE s = (if ofOk s n then 0 else 4) := by
  cases hk : ofOk s n with
  | true =>
    obtain ⟨h1, h2⟩ := of_decide_eq_true hk
    subst h2
    exact of_text h1
  | false =>
    refine of_none fun a ha e => ?_
    subst e
    rw [read_text ha] at h
    obtain rfl := Option.some.inj h
    exact of_decide_eq_false hk ⟨ha, rfl⟩
theorem of_read_none {s : List UInt8} (h : readN s = none) : ofV s = 0 ∧ ofE s = 4 := by
  refine of_none fun a ha e => ?_
  subst e
  rw [read_text ha] at h
  cases h
theorem textE_zero {n : Nat} (h : textE n = 0) : n ≤ maxM := by
  rcases Nat.lt_or_ge maxM n with h' | h'
  · rw [(text_no (by omega)).2] at h; cases h
  · exact h'
end Go.Proofs.YtipjhjgjomfflaaDoor
