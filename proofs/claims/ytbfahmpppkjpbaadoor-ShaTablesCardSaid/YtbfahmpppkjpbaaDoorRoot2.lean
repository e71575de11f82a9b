/-
  Roots, bit by bit.
-/
import Derived.Test.YtbfahmpppkjpbaaDoorRoot
namespace Go.Proofs.YtbfahmpppkjpbaaDoor
open Go.RowKit

/-- Too great for the square root? for the cube root? (in units of 2^-32) -/
def tooS (p x : Nat) : Bool := decide (p * 18446744073709551616 < x * x)
def tooC (p x : Nat) : Bool := decide (p * 79228162514264337593543950336 < x * x * x)

theorem tooS_lt {p x hi lo : Nat} (h1 : x * x / 18446744073709551616 = hi) (h2 : x * x % 18446744073709551616 = lo) (h : hi < p) : tooS p x = false := by
  rw [tooS, decide_eq_false_iff_not]; generalize x * x = y at *; omega
theorem tooS_gt {p x hi lo : Nat} (h1 : x * x / 18446744073709551616 = hi) (h2 : x * x % 18446744073709551616 = lo) (h : p < hi) : tooS p x = true := by
  rw [tooS, decide_eq_true_eq]; generalize x * x = y at *; omega
theorem tooS_eq {p x hi lo : Nat} (h1 : x * x / 18446744073709551616 = hi) (h2 : x * x % 18446744073709551616 = lo) (h : hi = p) : tooS p x = decide ((0 : Int) < (lo : Int)) := by
  rw [tooS, Bool.eq_iff_iff, decide_eq_true_eq, decide_eq_true_eq]; generalize x * x = y at *; omega

set_option maxHeartbeats 1000000 in
theorem start1_any (w : World) (g p x : Nat) (hc : w.cell? ⟨g, 0, none⟩ = some (.int .u64 (p : Int))) (hx : x < 34359738368) :
    Calls Tryd.prog 45 #[.int .u64 (x : Int), .pointer (some ⟨g, 0, none⟩)] w fun e w' => e = .returned (.bool (tooS p x)) ∧ w' = w := by
  obtain ⟨hi, h1⟩ : ∃ hi, x * x / 18446744073709551616 = hi := ⟨_, rfl⟩
  obtain ⟨lo, h2⟩ : ∃ lo, x * x % 18446744073709551616 = lo := ⟨_, rfl⟩
  have H1 := Lib.hid h1
  have H2 := Lib.hid h2
  clear h1 h2
  rcases Nat.lt_trichotomy hi p with h | h | h
  · have HT := Lib.hid (tooS_lt H1.out H2.out h)
    go_enter Tryd.func45, Tryd.ntmps45
    go_wp2_with (go_at_call 44; refine (mul64_any _ x x (by omega) (by omega)).mono ?_; rw [H1.out, H2.out]; rintro e w' ⟨rfl, rfl⟩)
    go_ret
    exact ⟨by rw [HT.out]; first | rfl | (simp; omega), rfl⟩
  · have HT := Lib.hid (tooS_eq H1.out H2.out h)
    subst h
    go_enter Tryd.func45, Tryd.ntmps45
    go_wp2_with (go_at_call 44; refine (mul64_any _ x x (by omega) (by omega)).mono ?_; rw [H1.out, H2.out]; rintro e w' ⟨rfl, rfl⟩)
    all_goals
      go_ret
      exact ⟨by rw [HT.out]; first | rfl | simp, rfl⟩
  · have HT := Lib.hid (tooS_gt H1.out H2.out h)
    go_enter Tryd.func45, Tryd.ntmps45
    go_wp2_with (go_at_call 44; refine (mul64_any _ x x (by omega) (by omega)).mono ?_; rw [H1.out, H2.out]; rintro e w' ⟨rfl, rfl⟩)
    go_ret
    exact ⟨by rw [HT.out]; first | rfl | (simp; omega), rfl⟩

/-- The cube's upper part, and its lower one. -/
theorem cube_parts (x h1 l1 h2 l2 : Nat) (e1 : x * x / 18446744073709551616 = h1) (e2 : x * x % 18446744073709551616 = l1) (e3 : l1 * x / 18446744073709551616 = h2) (e4 : l1 * x % 18446744073709551616 = l2) :
    x * x * x = (h2 + h1 * x) * 18446744073709551616 + l2 := by
  have hy : x * x = h1 * 18446744073709551616 + l1 := by rw [← e1, ← e2, Nat.div_add_mod']
  have hz : l1 * x = h2 * 18446744073709551616 + l2 := by rw [← e3, ← e4, Nat.div_add_mod']
  have h3 : x * x * x = h1 * x * 18446744073709551616 + l1 * x := by rw [hy, Nat.add_mul, Nat.mul_right_comm]
  rw [h3, hz, Nat.add_mul]
  generalize h1 * x = k
  omega

set_option maxHeartbeats 1000000 in
theorem const1_any (w : World) (g p x : Nat) (hc : w.cell? ⟨g, 0, none⟩ = some (.int .u64 (p : Int))) (hx : x < 34359738368) (hp : p ≤ 311) :
    Calls Tryd.prog 43 #[.int .u64 (x : Int), .pointer (some ⟨g, 0, none⟩)] w fun e w' => e = .returned (.bool (tooC p x)) ∧ w' = w := by
  obtain ⟨h1, e1⟩ : ∃ hi, x * x / 18446744073709551616 = hi := ⟨_, rfl⟩
  obtain ⟨l1, e2⟩ : ∃ lo, x * x % 18446744073709551616 = lo := ⟨_, rfl⟩
  obtain ⟨h2, e3⟩ : ∃ hi, l1 * x / 18446744073709551616 = hi := ⟨_, rfl⟩
  obtain ⟨l2, e4⟩ : ∃ lo, l1 * x % 18446744073709551616 = lo := ⟨_, rfl⟩
  have hcu := cube_parts x h1 l1 h2 l2 e1 e2 e3 e4
  have hl1 : l1 < 18446744073709551616 := by rw [← e2]; exact Nat.mod_lt _ (by decide)
  have hl2 : l2 < 18446744073709551616 := by rw [← e4]; exact Nat.mod_lt _ (by decide)
  have hh1 : h1 ≤ 64 := by
    have : x * x < 34359738368 * 34359738368 := Nat.mul_lt_mul'' hx hx
    generalize x * x = y at *
    omega
  have hh1x : h1 * x ≤ 64 * 34359738368 := Nat.mul_le_mul hh1 (by omega)
  have hh2 : h2 ≤ 34359738368 := by
    have : l1 * x < 18446744073709551616 * 34359738368 := Nat.mul_lt_mul'' hl1 hx
    generalize l1 * x = y at *
    omega
  have E1 := Lib.hid e1
  have E2 := Lib.hid e2
  have E3 := Lib.hid e3
  have E4 := Lib.hid e4
  have hw : IntKind.u64.wrap ((h1 : Int) * (x : Int)) = ((h1 * x : Nat) : Int) := by
    have e : (h1 : Int) * (x : Int) = ((h1 * x : Nat) : Int) := (Int.natCast_mul h1 x).symm
    rw [wrapU, e]
    generalize h1 * x = kk at *
    omega
  obtain ⟨U, hU⟩ : ∃ U, h2 + h1 * x = U := ⟨_, rfl⟩
  have hU' : U ≤ 4000000000000 := by generalize h1 * x = kk at *; omega
  have hw2 : IntKind.u64.wrap ((h2 : Int) + ((h1 * x : Nat) : Int)) = (U : Int) := by
    rw [wrapU]
    generalize h1 * x = kk at *
    omega
  rw [hU] at hcu
  have hsh : IntKind.u64.wrap ((p : Int) * 4294967296) = ((p * 4294967296 : Nat) : Int) := by rw [wrapU]; omega
  obtain ⟨Q, hQ⟩ : ∃ Q, p * 4294967296 = Q := ⟨_, rfl⟩
  have HT : Hid (tooC p x = (decide (Q < U) || (decide (U = Q) && decide (0 < l2)))) := by
    show _ = _
    rw [tooC, hcu, Bool.eq_iff_iff]
    simp only [Bool.or_eq_true, Bool.and_eq_true, decide_eq_true_eq]
    omega
  rw [hQ] at hsh
  have Hx := Lib.hid hx
  have Hl1 := Lib.hid hl1
  generalize h1 * x = kk at *
  clear e1 e2 e3 e4 hcu hh1x hU hQ hl2 hh1 hh2 hU' hp hx hl1
  rcases Nat.lt_trichotomy U Q with h | h | h
  · have HT2 : Hid (tooC p x = false) := by show _ = _; rw [HT.out]; simp; omega
    go_enter Tryd.func43, Tryd.ntmps43
    go_wp2_with (first
      | (go_at_call 44; (with_reducible show Calls _ _ #[.int .u64 (x : Int), _] _ _); refine (mul64_any _ x x (by have := Hx.out; omega) (by have := Hx.out; omega)).mono ?_; rw [E1.out, E2.out]; rintro e w' ⟨rfl, rfl⟩)
      | (go_at_call 44; (with_reducible show Calls _ _ #[.int .u64 (l1 : Int), _] _ _); refine (mul64_any _ l1 x Hl1.out (by have := Hx.out; omega)).mono ?_; rw [E3.out, E4.out]; rintro e w' ⟨rfl, rfl⟩))
    all_goals
      go_ret
      exact ⟨by rw [HT2.out]; first | rfl | (simp; omega) | simp, rfl⟩
  · have HT2 : Hid (tooC p x = decide (0 < l2)) := by show _ = _; rw [HT.out]; simp [h]
    subst h
    go_enter Tryd.func43, Tryd.ntmps43
    go_wp2_with (first
      | (go_at_call 44; (with_reducible show Calls _ _ #[.int .u64 (x : Int), _] _ _); refine (mul64_any _ x x (by have := Hx.out; omega) (by have := Hx.out; omega)).mono ?_; rw [E1.out, E2.out]; rintro e w' ⟨rfl, rfl⟩)
      | (go_at_call 44; (with_reducible show Calls _ _ #[.int .u64 (l1 : Int), _] _ _); refine (mul64_any _ l1 x Hl1.out (by have := Hx.out; omega)).mono ?_; rw [E3.out, E4.out]; rintro e w' ⟨rfl, rfl⟩))
    all_goals
      go_ret
      exact ⟨by rw [HT2.out]; first | rfl | (simp; omega) | simp, rfl⟩
  · have HT2 : Hid (tooC p x = true) := by show _ = _; rw [HT.out]; simp [h]
    go_enter Tryd.func43, Tryd.ntmps43
    go_wp2_with (first
      | (go_at_call 44; (with_reducible show Calls _ _ #[.int .u64 (x : Int), _] _ _); refine (mul64_any _ x x (by have := Hx.out; omega) (by have := Hx.out; omega)).mono ?_; rw [E1.out, E2.out]; rintro e w' ⟨rfl, rfl⟩)
      | (go_at_call 44; (with_reducible show Calls _ _ #[.int .u64 (l1 : Int), _] _ _); refine (mul64_any _ l1 x Hl1.out (by have := Hx.out; omega)).mono ?_; rw [E3.out, E4.out]; rintro e w' ⟨rfl, rfl⟩))
    all_goals
      go_ret
      exact ⟨by rw [HT2.out]; first | rfl | (simp; omega) | simp, rfl⟩

/-- The bits behind the point, after k steps. -/
def rt (f : Nat → Bool) : Nat → Nat
  | 0 => 0
  | k + 1 => if f (rt f k + 2 ^ (34 - k)) then rt f k else rt f k + 2 ^ (34 - k)
theorem rt_mod (f : Nat → Bool) (k : Nat) (h : k ≤ 35) : rt f k % 2 ^ (35 - k) = 0 ∧ rt f k + 2 ^ (35 - k) ≤ 34359738368 := by
  induction k with
  | zero => exact ⟨rfl, by show 0 + 2 ^ 35 ≤ 34359738368; decide⟩
  | succ k ih =>
    have hi := ih (by omega)
    have e : 2 ^ (35 - k) = 2 * 2 ^ (35 - (k + 1)) := by rw [← Nat.pow_succ']; congr 1; omega
    have e2 : 34 - k = 35 - (k + 1) := by omega
    rw [e] at hi
    simp only [rt, e2]
    generalize 2 ^ (35 - (k + 1)) = b at *
    have hb : rt f k % b = 0 := by
      have := Nat.mod_mul_left_mod (rt f k) 2 b
      rw [hi.1] at this
      simpa using this.symm
    split
    · exact ⟨hb, by omega⟩
    · exact ⟨by rw [Nat.add_mod_right]; exact hb, by omega⟩
theorem rt_start : ∀ i, i < 8 → rt (tooS (pAt i)) 35 % 4294967296 = (startL.getD i 0).toNat := by decide +kernel
theorem rt_const : ∀ i, i < 64 → rt (tooC (pAt i)) 35 % 4294967296 = (kL.getD i 0).toNat := by decide +kernel
theorem or_bit (x k : Nat) (hk : k < 35) (h : x % 2 ^ (35 - k) = 0) (hx : x + 2 ^ (35 - k) ≤ 34359738368) : bits .or .u64 (x : Int) ((2 ^ (34 - k) : Nat) : Int) = ((x + 2 ^ (34 - k) : Nat) : Int) := by
  have hb : 2 ^ (34 - k) < 2 ^ (35 - k) := Nat.pow_lt_pow_right (by omega) (by omega)
  have hp : 2 ^ (35 - k) ≤ 34359738368 := by omega
  rw [u64_or_nat _ _ (by omega) (by omega), nat_join (35 - k) x _ h hb]

set_option maxHeartbeats 1000000 in
theorem rootS_any (w : World) (g p : Nat) (hc : w.cell? ⟨g, 0, none⟩ = some (.int .u64 (p : Int))) (hp : p ≤ 311) (X : Nat) (hX : rt (tooS p) 35 % 4294967296 = X) :
    Calls Tryd.prog 42 #[.func (.func 45) #[] #[.pointer (some ⟨g, 0, none⟩)]] w fun e w' => e = .returned (.int .u32 (X : Int)) ∧ w' = w := by
  have HX := Lib.hid hX
  have Hc := Lib.hid hc
  have Hp := Lib.hid hp
  clear hX hc hp
  go_enter Tryd.func42, Tryd.ntmps42
  go_wp2
  go_loop [3, 6] (fun v i => ∃ (k x : Nat), k ≤ 35 ∧ i = .int .i64 k ∧ v = .int .u64 (x : Int) ∧ Hid (x = rt (tooS p) k)) (fun _ i => 35 - (intOf i).toNat)
  case atStart => exact ⟨0, 0, by omega, rfl, rfl, rfl⟩
  case round =>
    obtain ⟨k, x, hk, rfl, rfl, Hxk⟩ := hrel
    by_cases hlt : k < 35
    · have hm := rt_mod (tooS p) k hk
      rw [← Hxk.out] at hm
      have hor := or_bit x k hlt hm.1 hm.2
      have hxb : x + 2 ^ (34 - k) < 34359738368 := by
        have : 2 ^ (34 - k) < 2 ^ (35 - k) := Nat.pow_lt_pow_right (by omega) (by omega)
        omega
      have hsh : IntKind.u64.wrap ((2 : Int) ^ (34 - k)) = ((2 ^ (34 - k) : Nat) : Int) := by
        have e : (2 : Int) ^ (34 - k) = ((2 ^ (34 - k) : Nat) : Int) := by rw [Int.natCast_pow]; rfl
        rw [wrapU, e]
        generalize 2 ^ (34 - k) = b at *
        omega
      have HR : Hid (rt (tooS p) (k + 1) = if tooS p (x + 2 ^ (34 - k)) then x else x + 2 ^ (34 - k)) := by show _ = _; rw [rt, ← Hxk.out]
      clear hm Hxk
      generalize 2 ^ (34 - k) = b at *
      generalize x + b = y at *
      have Hy := Lib.hid hxb
      clear hxb
      cases hf : tooS p y with
      | true =>
        have HF := Lib.hid hf
        clear hf
        rw [HF.out, if_pos rfl] at HR
        go_wp2_with (go_at_call 45; refine (start1_any _ g p y Hc.out Hy.out).mono ?_; rw [HF.out]; rintro e w' ⟨rfl, rfl⟩)
        go_round
        case rel => exact ⟨k + 1, x, by omega, by go_num, rfl, HR.out.symm⟩
        case measure => simp [intOf]; omega
      | false =>
        have HF := Lib.hid hf
        clear hf
        rw [HF.out, if_neg (by decide)] at HR
        go_wp2_with (go_at_call 45; refine (start1_any _ g p y Hc.out Hy.out).mono ?_; rw [HF.out]; rintro e w' ⟨rfl, rfl⟩)
        go_round
        case rel => exact ⟨k + 1, y, by omega, by go_num, rfl, HR.out.symm⟩
        case measure => simp [intOf]; omega
    · obtain rfl : k = 35 := by omega
      rw [← Hxk.out] at HX
      have hx32 : (x : Int) % 4294967296 = (X : Int) := by have := HX.out; omega
      go_wp2
      go_ret
      exact ⟨rfl, rfl⟩

set_option maxHeartbeats 1000000 in
theorem rootC_any (w : World) (g p : Nat) (hc : w.cell? ⟨g, 0, none⟩ = some (.int .u64 (p : Int))) (hp : p ≤ 311) (X : Nat) (hX : rt (tooC p) 35 % 4294967296 = X) :
    Calls Tryd.prog 42 #[.func (.func 43) #[] #[.pointer (some ⟨g, 0, none⟩)]] w fun e w' => e = .returned (.int .u32 (X : Int)) ∧ w' = w := by
  have HX := Lib.hid hX
  have Hc := Lib.hid hc
  have Hp := Lib.hid hp
  clear hX hc hp
  go_enter Tryd.func42, Tryd.ntmps42
  go_wp2
  go_loop [3, 6] (fun v i => ∃ (k x : Nat), k ≤ 35 ∧ i = .int .i64 k ∧ v = .int .u64 (x : Int) ∧ Hid (x = rt (tooC p) k)) (fun _ i => 35 - (intOf i).toNat)
  case atStart => exact ⟨0, 0, by omega, rfl, rfl, rfl⟩
  case round =>
    obtain ⟨k, x, hk, rfl, rfl, Hxk⟩ := hrel
    by_cases hlt : k < 35
    · have hm := rt_mod (tooC p) k hk
      rw [← Hxk.out] at hm
      have hor := or_bit x k hlt hm.1 hm.2
      have hxb : x + 2 ^ (34 - k) < 34359738368 := by
        have : 2 ^ (34 - k) < 2 ^ (35 - k) := Nat.pow_lt_pow_right (by omega) (by omega)
        omega
      have hsh : IntKind.u64.wrap ((2 : Int) ^ (34 - k)) = ((2 ^ (34 - k) : Nat) : Int) := by
        have e : (2 : Int) ^ (34 - k) = ((2 ^ (34 - k) : Nat) : Int) := by rw [Int.natCast_pow]; rfl
        rw [wrapU, e]
        generalize 2 ^ (34 - k) = b at *
        omega
      have HR : Hid (rt (tooC p) (k + 1) = if tooC p (x + 2 ^ (34 - k)) then x else x + 2 ^ (34 - k)) := by show _ = _; rw [rt, ← Hxk.out]
      clear hm Hxk
      generalize 2 ^ (34 - k) = b at *
      generalize x + b = y at *
      have Hy := Lib.hid hxb
      clear hxb
      cases hf : tooC p y with
      | true =>
        have HF := Lib.hid hf
        clear hf
        rw [HF.out, if_pos rfl] at HR
        go_wp2_with (go_at_call 43; refine (const1_any _ g p y Hc.out Hy.out Hp.out).mono ?_; rw [HF.out]; rintro e w' ⟨rfl, rfl⟩)
        go_round
        case rel => exact ⟨k + 1, x, by omega, by go_num, rfl, HR.out.symm⟩
        case measure => simp [intOf]; omega
      | false =>
        have HF := Lib.hid hf
        clear hf
        rw [HF.out, if_neg (by decide)] at HR
        go_wp2_with (go_at_call 43; refine (const1_any _ g p y Hc.out Hy.out Hp.out).mono ?_; rw [HF.out]; rintro e w' ⟨rfl, rfl⟩)
        go_round
        case rel => exact ⟨k + 1, y, by omega, by go_num, rfl, HR.out.symm⟩
        case measure => simp [intOf]; omega
    · obtain rfl : k = 35 := by omega
      rw [← Hxk.out] at HX
      have hx32 : (x : Int) % 4294967296 = (X : Int) := by have := HX.out; omega
      go_wp2
      go_ret
      exact ⟨rfl, rfl⟩

set_option maxHeartbeats 1000000 in
theorem start_any (w : World) (i : Nat) (hi : i < 8) : Calls Tryd.prog 17 #[.int .i64 (i : Int)] w fun e w' => e = .returned (.int .u32 ((startL.getD i 0).toNat : Int)) ∧ Below w.heap.size w w' := by
  have HX := Lib.hid (rt_start i hi)
  have Hp := Lib.hid (pAt_le i (by omega))
  have HPr := Lib.hid (fun (w : World) => prime_any w i (by omega))
  generalize (startL.getD i 0).toNat = X at *
  generalize pAt i = p at *
  go_enter Tryd.func17, Tryd.ntmps17
  go_wp2_with (first
    | (go_at_call 41; refine (HPr.out _).mono ?_; rintro e w' ⟨rfl, rfl⟩)
    | (go_at_call 42; refine (rootS_any _ _ p (by have hb : Blk (w'.alloc (.cells #[.int .u64 (p : Int)] 31)) w'.heap.size 31 #[.int .u64 (p : Int)] := heap_alloc_new w' _; rw [hb.cell]; rfl) Hp.out X HX.out).mono ?_; rintro e w'' ⟨rfl, rfl⟩))
  go_ret
  exact ⟨rfl, (Below.refl _ _).alloc (Nat.le_refl _) _⟩
theorem start_none (w : World) (i : Int) (hi : i < 0 ∨ 8 ≤ i) : Calls Tryd.prog 17 #[.int .i64 i] w fun e w' => e = .returned (.int .u32 0) ∧ w' = w := by
  rcases hi with hi | hi
  all_goals
    go_enter Tryd.func17, Tryd.ntmps17
    go_wp2
    go_ret
    exact ⟨rfl, rfl⟩
set_option maxHeartbeats 1000000 in
theorem const_any (w : World) (i : Nat) (hi : i < 64) : Calls Tryd.prog 16 #[.int .i64 (i : Int)] w fun e w' => e = .returned (.int .u32 ((kL.getD i 0).toNat : Int)) ∧ Below w.heap.size w w' := by
  have HX := Lib.hid (rt_const i hi)
  have Hp := Lib.hid (pAt_le i (by omega))
  have HPr := Lib.hid (fun (w : World) => prime_any w i (by omega))
  generalize (kL.getD i 0).toNat = X at *
  generalize pAt i = p at *
  go_enter Tryd.func16, Tryd.ntmps16
  go_wp2_with (first
    | (go_at_call 41; refine (HPr.out _).mono ?_; rintro e w' ⟨rfl, rfl⟩)
    | (go_at_call 42; refine (rootC_any _ _ p (by have hb : Blk (w'.alloc (.cells #[.int .u64 (p : Int)] 31)) w'.heap.size 31 #[.int .u64 (p : Int)] := heap_alloc_new w' _; rw [hb.cell]; rfl) Hp.out X HX.out).mono ?_; rintro e w'' ⟨rfl, rfl⟩))
  go_ret
  exact ⟨rfl, (Below.refl _ _).alloc (Nat.le_refl _) _⟩
theorem const_none (w : World) (i : Int) (hi : i < 0 ∨ 64 ≤ i) : Calls Tryd.prog 16 #[.int .i64 i] w fun e w' => e = .returned (.int .u32 0) ∧ w' = w := by
  rcases hi with hi | hi
  all_goals
    go_enter Tryd.func16, Tryd.ntmps16
    go_wp2
    go_ret
    exact ⟨rfl, rfl⟩

end Go.Proofs.YtbfahmpppkjpbaaDoor
