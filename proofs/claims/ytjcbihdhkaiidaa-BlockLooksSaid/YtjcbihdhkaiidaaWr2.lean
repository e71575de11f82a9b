/-
  Plain mathematics of numbers as bytes, the lowest first. · The writers of package wire: what each call does, in the words of YWords. · The writer.
-/
import Derived.Test.YtjcbihdhkaiidaaWords
import Derived.Test.YtjcbihdhkaiidaaProg
import Derived.WalkLawsBesides
import Derived.BigQuiet
import Derived.Deep.QuietTactic
namespace Go.Proofs.Ytjcbihdhkaiidaa
open Go.RowKit

/-- A number as so many bytes, the lowest first. -/
def leB (N : Nat) : Nat → List UInt8
  | 0 => []
  | k + 1 => leB N k ++ [UInt8.ofNat (N / 256 ^ k % 256)]
theorem leB_length (N k : Nat) : (leB N k).length = k := by
  induction k with
  | zero => rfl
  | succ k ih => simp [leB, ih]
theorem u8_mod (n : Nat) : (UInt8.ofNat (n % 256)).toNat = n % 256 := by
  rw [UInt8.toNat_ofNat']; omega

/-- An array of eight, of which the first k are set. -/
def arr (N k : Nat) : Array Value := (By (leB N k) ++ List.replicate (8 - k) (Value.int .u8 0)).toArray
theorem arr_zero (N : Nat) : arr N 0 = #[.int .u8 0, .int .u8 0, .int .u8 0, .int .u8 0, .int .u8 0, .int .u8 0, .int .u8 0, .int .u8 0] := rfl
theorem arr_size (N k : Nat) (hk : k ≤ 8) : (arr N k).size = 8 := by simp [arr, By_length, leB_length]; omega
theorem arr_set (N k : Nat) (hk : k < 8) : (arr N k).setIfInBounds k (.int .u8 ((N / 256 ^ k % 256 : Nat) : Int)) = arr N (k + 1) := by
  have e : 8 - k = (8 - (k + 1)) + 1 := by omega
  unfold arr
  rw [e, List.replicate_succ]
  simp only [List.setIfInBounds_toArray, leB, By_append]
  congr 1
  rw [List.set_append_right _ _ (by rw [By_length, leB_length]; exact Nat.le_refl _)]
  rw [By_length, leB_length, Nat.sub_self, List.set_cons_zero]
  simp [By]
theorem arr_get (N k i : Nat) (h : i < (leB N k).length) : (arr N k)[i]? = some (.int .u8 ((leB N k)[i].toNat : Int)) := by
  have h' : i < k := by simpa [leB_length] using h
  unfold arr
  rw [List.getElem?_toArray, List.getElem?_append_left (by rw [By_length, leB_length]; exact h')]
  simp [By, h]
theorem arr_some (N k i : Nat) (hk : k ≤ 8) (h : i < 8) : ∃ n : Int, (arr N k)[i]? = some (.int .u8 n) := by
  unfold arr
  rw [List.getElem?_toArray]
  rcases Nat.lt_or_ge i k with hi | hi
  · rw [List.getElem?_append_left (by rw [By_length, leB_length]; exact hi)]
    exact ⟨_, by simp [By, leB_length, hi]; rfl⟩
  · rw [List.getElem?_append_right (by rw [By_length, leB_length]; exact hi), By_length, leB_length]
    exact ⟨0, by rw [List.getElem?_replicate, if_pos (by omega)]⟩
theorem pow_step (N k : Nat) : N / 256 ^ k / 256 = N / 256 ^ (k + 1) := by rw [Nat.div_div_eq_div_mul, Nat.pow_succ]

/-- What reads a number back: the lowest byte first. -/
def ofLe : List UInt8 → Nat
  | [] => 0
  | b :: l => b.toNat + 256 * ofLe l
theorem ofLe_append (l : List UInt8) (b : UInt8) : ofLe (l ++ [b]) = ofLe l + 256 ^ l.length * b.toNat := by
  induction l with
  | nil => simp [ofLe]
  | cons c l ih => simp only [List.cons_append, ofLe, ih, List.length_cons, Nat.pow_succ, Nat.mul_add]; rw [Nat.mul_comm (256 ^ l.length) 256, ← Nat.mul_assoc, Nat.add_assoc]
theorem ofLe_leB (N k : Nat) : ofLe (leB N k) = N % 256 ^ k := by
  induction k with
  | zero => simp [leB, ofLe, Nat.mod_one]
  | succ k ih =>
    rw [leB, ofLe_append, ih, leB_length, u8_mod, Nat.pow_succ, Nat.mod_mul]
theorem ofLe_lt (l : List UInt8) : ofLe l < 256 ^ l.length := by
  induction l with
  | nil => simp [ofLe]
  | cons b l ih => have := b.toNat_lt; simp only [ofLe, List.length_cons, Nat.pow_succ]; omega

end Go.Proofs.Ytjcbihdhkaiidaa
namespace Go.Proofs.Ytjcbihdhkaiidaa
open Go.RowKit

theorem Try.u8info : (Try.prog.info? 5).map (fun i => (i.zero, i.size, i.bytes)) = some (some (.int .u8 0), 1, 1) := by kernel_rfl

/-- A writer at block g: what was put, and whether it failed; its blocks are in S. -/
def Wr (w : World) (S : Nat → Prop) (g : Nat) (l : List UInt8) (bad : Bool) : Prop :=
  S g ∧ ∃ A c, Blk w g 63 #[.slice A l.length c, .bool bad] ∧ w.ownsRow 0 5 1 (.slice A l.length c) l.length (By l) ∧ ∀ k, (Value.slice A l.length c).ownBlock = some k → S k

theorem Wr.lt {w : World} {S : Nat → Prop} {g : Nat} {l : List UInt8} {bad : Bool} (h : Wr w S g l bad) : g < w.heap.size := by
  obtain ⟨_, A, c, hb, _⟩ := h; exact hb.lt
theorem Wr.below {w w' : World} {S : Nat → Prop} {g : Nat} {l : List UInt8} {bad : Bool} (h : Wr w S g l bad) (hb : Below w.heap.size w w') : Wr w' S g l bad := by
  obtain ⟨h1, A, c, hk, ho, hs⟩ := h
  exact ⟨h1, A, c, hk.below hb hk.lt, own_below ho hb (fun g' hg' => (ho.lt g' hg').2), hs⟩
theorem Wr.re {w : World} {S S' : Nat → Prop} {g : Nat} {l : List UInt8} {bad : Bool} (h : Wr w S g l bad) (hS : ∀ k, k < w.heap.size → S k → S' k) : Wr w S' g l bad := by
  obtain ⟨h1, A, c, hk, ho, hs⟩ := h
  exact ⟨hS g hk.lt h1, A, c, hk, ho, fun k e => hS k (ho.lt k e).2 (hs k e)⟩

def may (n : Int) : Bool := n == 1 || n == 2 || n == 4 || n == 8

set_option maxHeartbeats 400000 in
theorem maySize_any (n : Int) (w : World) : Calls Try.prog 34 #[.int .i64 n] w fun e w' => e = .returned (.bool (may n)) ∧ w = w' := by
  unfold may
  by_cases h1 : n = 1
  · subst h1
    go_enter Try.func34, Try.ntmps34
    go_wp2
    go_ret
    exact ⟨rfl, rfl⟩
  · by_cases h2 : n = 2
    · subst h2
      go_enter Try.func34, Try.ntmps34
      go_wp2
      go_ret
      exact ⟨rfl, rfl⟩
    · by_cases h4 : n = 4
      · subst h4
        go_enter Try.func34, Try.ntmps34
        go_wp2
        go_ret
        exact ⟨rfl, rfl⟩
      · have b1 : (n == 1) = false := beq_eq_false_iff_ne.2 h1
        have b2 : (n == 2) = false := beq_eq_false_iff_ne.2 h2
        have b4 : (n == 4) = false := beq_eq_false_iff_ne.2 h4
        go_enter Try.func34, Try.ntmps34
        go_wp2
        go_ret
        exact ⟨by simp [b1, b2, b4], rfl⟩

set_option maxHeartbeats 400000 in
theorem fail_nil (w : World) : Calls Try.prog 32 #[.pointer none] w fun e w' => e = .returned (.pointer none) ∧ w = w' := by
  go_enter Try.func32, Try.ntmps32
  go_wp2
  go_ret
  exact ⟨rfl, rfl⟩

set_option maxHeartbeats 400000 in
theorem fail_any (w : World) (S : Nat → Prop) (g : Nat) (l : List UInt8) (bad : Bool) (hW : Wr w S g l bad) :
    Calls Try.prog 32 #[.pointer (some ⟨g, 0, none⟩)] w fun e w' => e = .returned (.pointer (some ⟨g, 0, none⟩)) ∧ Wr w' S g [] true ∧ Keeps S w w' := by
  obtain ⟨hg, A, c, hb, ho, _⟩ := hW
  have c0 : w.cell? ⟨g, 0, none⟩ = some (.slice A l.length c) := hb.cell 0
  have c1 : w.cell? ⟨g, 1, none⟩ = some (.bool bad) := hb.cell 1
  have f0 : w.frozen? ⟨g, 0, none⟩ = false := hb.frozen 0
  have f1 : w.frozen? ⟨g, 1, none⟩ = false := hb.frozen 1
  have hlt := hb.lt
  go_enter Try.func32, Try.ntmps32
  go_wp2
  go_ret
  refine ⟨rfl, ⟨hg, none, 0, by simpa using (hb.set 0 (.slice none 0 0)).set 1 (.bool true), by simpa [By] using World.ownsRow_nil _ 0 _ 1, fun k e => by simp [Value.ownBlock] at e⟩, ((Keeps.refl _ _).setCell (by exact hg) _).setCell (by exact hg) _⟩

set_option maxHeartbeats 400000 in
theorem bytes_nil (w : World) (A : Option Addr) (n c : Nat) : Calls Try.prog 33 #[.pointer none, .slice A n c] w fun e w' => e = .returned (.pointer none) ∧ w = w' := by
  go_enter Try.func33, Try.ntmps33
  go_wp2
  go_ret
  exact ⟨rfl, rfl⟩

set_option maxHeartbeats 400000 in
theorem bytes_bad (w : World) (S : Nat → Prop) (g : Nat) (l : List UInt8) (hW : Wr w S g l true) (A : Option Addr) (n c : Nat) :
    Calls Try.prog 33 #[.pointer (some ⟨g, 0, none⟩), .slice A n c] w fun e w' => e = .returned (.pointer (some ⟨g, 0, none⟩)) ∧ w = w' := by
  obtain ⟨hg, A', c', hb, ho, _⟩ := hW
  have c1 : w.cell? ⟨g, 1, none⟩ = some (.bool true) := hb.cell 1
  go_enter Try.func33, Try.ntmps33
  go_wp2
  go_ret
  exact ⟨rfl, rfl⟩

set_option maxHeartbeats 400000 in
theorem bytes_ok (w : World) (S : Nat → Prop) (g : Nat) (l : List UInt8) (hW : Wr w S g l false) (hnew : ∀ k, w.heap.size ≤ k → S k) (Bx : Nat) (A : Option Addr) (n c : Nat) (x : List UInt8) (hn : n = x.length) (hx : Sees w Bx A x) (hlen : l.length + x.length ≤ 1099511627776) :
    Calls Try.prog 33 #[.pointer (some ⟨g, 0, none⟩), .slice A n c] w fun e w' => e = .returned (.pointer (some ⟨g, 0, none⟩)) ∧ Wr w' S g (l ++ x) false ∧ Keeps S w w' := by
  subst hn
  obtain ⟨hg, A', c', hb, ho, hso⟩ := hW
  have Hnew := Lib.hid hnew
  have Hso := Lib.hid hso
  clear hnew hso
  obtain ⟨i0, hi, hz0, hz1, hz2⟩ := info_parts Try.u8info
  have c0 : w.cell? ⟨g, 0, none⟩ = some (.slice A' l.length c') := hb.cell 0
  have c1 : w.cell? ⟨g, 1, none⟩ = some (.bool false) := hb.cell 1
  go_enter Try.func33, Try.ntmps33
  go_wp2_with (at_builtin; refine wpList_append_sees rfl (.tmp 18) (.tmp 19) 42 rfl 0 5 i0 (.int .u8 0) Try.underlying42 hi hz0 hz1 hz2 rfl (.slice A' l.length c') l.length (By l) rfl ho Bx A x.length c x rfl rfl hx (by omega) (Nat.zero_le _) ?_; intro v' w1 hown hgr hat; obtain ⟨A1, c2, rfl⟩ := own_form hown; have Hat := Lib.hid hat; clear hat; have hb1 : Blk w1 g 63 #[.slice A' l.length c', .bool false] := hb.of_eq (hgr.block g hb.lt (hb.notOwn ho (by decide))); have d0 : w1.cell? ⟨g, 0, none⟩ = some (.slice A' l.length c') := hb1.cell 0; have e0 : w1.frozen? ⟨g, 0, none⟩ = false := hb1.frozen 0)
  go_ret
  have hkp : Keeps S w w1 := (Keeps.refl _ _).grown hgr (fun k hk => Hso.out k hk)
  refine ⟨rfl, ⟨hg, A1, c2, ?_, ?_, fun k hk => ?_⟩, hkp.setCell (by exact hg) _⟩
  · have := hb1.set 0 (.slice A1 (l.length + x.length) c2)
    simpa using this
  · have := own_store hown hb1 (by decide) 0 (.slice A1 (l.length + x.length) c2)
    simpa [By] using this
  · rw [List.length_append] at hk
    rcases Hat.out with e | e
    · rw [e] at hk; exact Hso.out k hk
    · rw [e] at hk; injection hk with hk; exact Hnew.out k (by omega)

end Go.Proofs.Ytjcbihdhkaiidaa

namespace Go.Proofs.Ytjcbihdhkaiidaa
open Go.RowKit

/-- A writer's state: what was put, or none: it failed. -/
def WrS (w : World) (S : Nat → Prop) (g : Nat) (st : Option (List UInt8)) : Prop :=
  match st with
  | none => Wr w S g [] true
  | some l => Wr w S g l false
theorem WrS.lt {w : World} {S : Nat → Prop} {g : Nat} {st : Option (List UInt8)} (h : WrS w S g st) : g < w.heap.size := by cases st <;> exact Wr.lt h
theorem WrS.re {w : World} {S S' : Nat → Prop} {g : Nat} {st : Option (List UInt8)} (h : WrS w S g st) (hS : ∀ k, k < w.heap.size → S k → S' k) : WrS w S' g st := by cases st <;> exact Wr.re h hS
theorem WrS.below {w w' : World} {S : Nat → Prop} {g : Nat} {st : Option (List UInt8)} (h : WrS w S g st) (hb : Below w.heap.size w w') : WrS w' S g st := by cases st <;> exact Wr.below h hb
/-- How much was put. -/
def lenS (st : Option (List UInt8)) : Nat := (st.getD []).length

theorem fail_s (w : World) (S : Nat → Prop) (g : Nat) (st : Option (List UInt8)) (hW : WrS w S g st) :
    Calls Try.prog 32 #[.pointer (some ⟨g, 0, none⟩)] w fun e w' => e = .returned (.pointer (some ⟨g, 0, none⟩)) ∧ WrS w' S g none ∧ Keeps S w w' := by
  cases st with
  | none => exact fail_any w S g _ _ hW
  | some l => exact fail_any w S g _ _ hW

def putB (st : Option (List UInt8)) (x : List UInt8) : Option (List UInt8) := st.map (· ++ x)
theorem bytes_s (w : World) (S : Nat → Prop) (g : Nat) (st : Option (List UInt8)) (hW : WrS w S g st) (hnew : ∀ k, w.heap.size ≤ k → S k) (Bx : Nat) (A : Option Addr) (n c : Nat) (x : List UInt8) (hn : n = x.length) (hx : Sees w Bx A x) (hlen : lenS st + x.length ≤ 1099511627776) :
    Calls Try.prog 33 #[.pointer (some ⟨g, 0, none⟩), .slice A n c] w fun e w' => e = .returned (.pointer (some ⟨g, 0, none⟩)) ∧ WrS w' S g (putB st x) ∧ Keeps S w w' := by
  cases st with
  | none => exact (bytes_bad w S g _ hW A n c).mono fun _ _ ⟨h, hw⟩ => ⟨h, hw ▸ hW, hw ▸ Keeps.refl _ _⟩
  | some l => exact bytes_ok w S g _ hW hnew Bx A n c x hn hx (by simpa [lenS] using hlen)

/-- Has a number room in a size that may be? -/
def numOk (N : Nat) (Z : Int) : Bool := may Z && decide (N < 256 ^ Z.toNat)
def putN (st : Option (List UInt8)) (N : Nat) (Z : Int) : Option (List UInt8) := if numOk N Z then putB st (leB N Z.toNat) else none

set_option maxHeartbeats 400000 in
/-- Number, of a size that may be. -/
theorem number_may (w : World) (S : Nat → Prop) (g : Nat) (st : Option (List UInt8)) (hW : WrS w S g st) (hnew : ∀ k, w.heap.size ≤ k → S k) (N : Nat) (Z : Nat) (hN : N < 18446744073709551616) (hm : may Z = true) (hZ : Z ≤ 8) (hlen : lenS st ≤ 1099511627000) :
    Calls Try.prog 24 #[.pointer (some ⟨g, 0, none⟩), .int .u64 N, .int .i64 Z] w fun e w' => e = .returned (.pointer (some ⟨g, 0, none⟩)) ∧ WrS w' S g (putN st N Z) ∧ Keeps S w w' := by
  have HW := Lib.hid hW
  have Hm := Lib.hid hm
  have Hnew := Lib.hid hnew
  have hg : g < w.heap.size := hW.lt
  clear hW hm hnew
  have hZ' : (Z : Int) ≤ 8 := by omega
  go_enter Try.func24, Try.ntmps24
  go_wp2_with ((go_at_call 34; refine (maySize_any _ _).mono ?_; rintro e w' ⟨rfl, rfl⟩; rw [Hm.out]))
  go_loopw [1, 15] (fun n i wr => ∃ k M : Nat, k ≤ Z ∧ M ≤ N ∧ i = .int .i64 k ∧ n = .int .u64 M ∧ Hid (M = N / 256 ^ k) ∧ Blk wr w.heap.size 76 (arr N k) ∧ Below w.heap.size w wr) (fun _ i _ => Z - (intOf i).toNat)
  case atStart => exact ⟨0, N, Nat.zero_le _, Nat.le_refl _, rfl, rfl, by simp [Hid], by rw [arr_zero]; exact heap_alloc_new w _, (Below.refl _ _).alloc (Nat.le_refl _) _⟩
  case round =>
    obtain ⟨k, M, hk, hMN, rfl, rfl, HM, hb, hbel⟩ := hrel
    by_cases hlt : k < Z
    · obtain ⟨q, hq⟩ := arr_some N k k (by omega) (by omega)
      have ck : wr.cell? ⟨w.heap.size, k, none⟩ = some (.int .u8 q) := (hb.cell k).trans hq
      have fk : wr.frozen? ⟨w.heap.size, k, none⟩ = false := hb.frozen k
      clear hq
      go_wp2
      go_roundw
      case rel =>
        refine ⟨k + 1, M / 256, by omega, by omega, by go_num, by go_num, ?_, ?_, hbel.setCell (by exact Nat.le_refl _) _⟩
        · show _ = _
          rw [HM.out, pow_step]
        · have := hb.set k (.int .u8 ((N / 256 ^ k % 256 : Nat) : Int))
          rw [arr_set N k (by omega), ← HM.out] at this
          exact this
      case measure => simp [intOf]; omega
    · obtain rfl : k = Z := by omega
      have HWr := Lib.hid (HW.out.below hbel)
      have Hkp := Lib.hid (Keeps.of_below hbel S)
      have Hnw : Hid (∀ j, wr.heap.size ≤ j → S j) := fun j hj => Hnew.out j (Nat.le_trans hbel.size hj)
      have hpos : 0 < 256 ^ k := Nat.pow_pos (by omega)
      have Hfit : Hid (M = 0 ↔ N < 256 ^ k) := by
        show _ ↔ _
        rw [HM.out, Nat.div_eq_zero_iff]
        omega
      clear hpos
      by_cases h0 : M = 0
      · have HN : Hid (N < 256 ^ k) := Hfit.out.1 h0
        subst h0
        have hsee : Sees wr wr.heap.size (some ⟨w.heap.size, 0, none⟩) (leB N k) := .inr ⟨w.heap.size, 0, rfl, hb.lt, fun i hi => by rw [Nat.zero_add, hb.cell i]; exact arr_get N k i hi⟩
        have Hsee := Lib.hid hsee
        clear hsee hb
        have Hfin : Hid (putN st N k = putB st (leB N k)) := by
          show _ = _
          simp [putN, numOk, Hm.out, HN.out]
        go_wp2_with ((go_at_call 33; refine (bytes_s _ _ _ _ HWr.out Hnw.out _ _ _ _ (leB N k) (leB_length N k).symm Hsee.out (by rw [leB_length]; omega)).mono ?_; rintro e w' ⟨rfl, hq1, hq2⟩))
        go_ret
        exact ⟨rfl, Hfin.out ▸ hq1, Hkp.out.trans hq2⟩
      · have HN : Hid (¬ N < 256 ^ k) := fun h => h0 (Hfit.out.2 h)
        have h0' : (0 : Int) < M := by omega
        have Hfin : Hid (putN st N k = none) := by
          show _ = _
          simp [putN, numOk, HN.out]
        go_wp2_with ((go_at_call 32; refine (fail_s _ _ _ _ HWr.out).mono ?_; rintro e w' ⟨rfl, hq1, hq2⟩))
        go_ret
        exact ⟨rfl, Hfin.out ▸ hq1, Hkp.out.trans hq2⟩


set_option maxHeartbeats 400000 in
theorem number_not (w : World) (S : Nat → Prop) (g : Nat) (st : Option (List UInt8)) (hW : WrS w S g st) (hnew : ∀ k, w.heap.size ≤ k → S k) (N : Nat) (Z : Int) (hm : may Z = false) :
    Calls Try.prog 24 #[.pointer (some ⟨g, 0, none⟩), .int .u64 N, .int .i64 Z] w fun e w' => e = .returned (.pointer (some ⟨g, 0, none⟩)) ∧ WrS w' S g (putN st N Z) ∧ Keeps S w w' := by
  have HW := Lib.hid hW
  have Hm := Lib.hid hm
  have Hnew := Lib.hid hnew
  have Hfin : Hid (putN st N Z = none) := by
    show _ = _
    simp [putN, numOk, hm]
  clear hW hm hnew
  go_enter Try.func24, Try.ntmps24
  go_wp2_with (first
    | (go_at_call 34; refine (maySize_any _ _).mono ?_; rintro e w' ⟨rfl, rfl⟩; rw [Hm.out])
    | (go_at_call 32; refine (fail_s _ _ _ _ (HW.out.below ((Below.refl _ _).alloc (Nat.le_refl _) _))).mono ?_; rintro e w' ⟨rfl, hq1, hq2⟩))
  go_ret
  exact ⟨rfl, Hfin.out ▸ hq1, ((Keeps.refl _ _).alloc _).trans hq2⟩

theorem may_cases {Z : Int} (h : may Z = true) : Z = 1 ∨ Z = 2 ∨ Z = 4 ∨ Z = 8 := by
  simp [may] at h
  omega

theorem number_s (w : World) (S : Nat → Prop) (g : Nat) (st : Option (List UInt8)) (hW : WrS w S g st) (hnew : ∀ k, w.heap.size ≤ k → S k) (N : Nat) (Z : Int) (hN : N < 18446744073709551616) (hlen : lenS st ≤ 1099511627000) :
    Calls Try.prog 24 #[.pointer (some ⟨g, 0, none⟩), .int .u64 N, .int .i64 Z] w fun e w' => e = .returned (.pointer (some ⟨g, 0, none⟩)) ∧ WrS w' S g (putN st N Z) ∧ Keeps S w w' := by
  cases hm : may Z with
  | false => exact number_not w S g st hW hnew N Z hm
  | true =>
    obtain ⟨k, rfl⟩ := Int.eq_ofNat_of_zero_le (show 0 ≤ Z by have := may_cases hm; omega)
    exact number_may w S g st hW hnew N k hN hm (by have := may_cases hm; omega) hlen

def putBlob (st : Option (List UInt8)) (x : List UInt8) : Option (List UInt8) := if x.length ≤ 16777216 then putB (putN st x.length 4) x else none
theorem lenS_putB (st : Option (List UInt8)) (x : List UInt8) : lenS (putB st x) ≤ lenS st + x.length := by cases st <;> simp [lenS, putB]
theorem lenS_putN (st : Option (List UInt8)) (N : Nat) (Z : Int) : lenS (putN st N Z) ≤ lenS st + 8 := by
  unfold putN
  split
  · rename_i h
    have h2 := lenS_putB st (leB N Z.toNat)
    rw [leB_length] at h2
    have : Z.toNat ≤ 8 := by
      have h1 : may Z = true := by simp [numOk] at h; exact h.1
      have := may_cases h1; omega
    omega
  · simp [lenS]

theorem Sees.keeps2 {S : Nat → Prop} {w w' : World} {B : Nat} {A : Option Addr} {l : List UInt8} (h : Sees w B A l) (hk : Keeps S w w') (hn : l ≠ [] → ∀ ad, A = some ad → ad.block < w.heap.size → ¬ S ad.block) : Sees w' B A l := by
  by_cases h0 : l = []
  · exact .inl h0
  · exact h.keeps hk (hn h0)

theorem run_eql_snil {P : Program} (w : World) (t e : TypeId) (a : Option Addr) (n c : Nat) (h : P.underlying t = some (.slice e)) :
    (binOp .eql t (.slice a n c) (.slice none 0 0)).run P w = .ok (.bool a.isNone) w := by
  simp only [binOp]
  simp [Op.equal, Op.maxDepth, Lib.run_equalIn_slice_nil w 9999 t e a n c 0 0 h]

set_option maxHeartbeats 400000 in
theorem clone_any (w : World) (Bx : Nat) (A : Option Addr) (n c : Nat) (x : List UInt8) (hn : n = x.length) (hx : Sees w Bx A x) (hlen : n ≤ 140737488355328) :
    Calls Try.prog 27 #[.slice A n c] w fun e w' => (∃ A' c', e = .returned (.slice A' n c') ∧ w'.ownsRow w.heap.size 5 1 (.slice A' n c') n (By x)) ∧ Below w.heap.size w w' := by
  cases A with
  | none =>
    have h0 : x = [] := by
      rcases hx with h | ⟨b, off, h, _⟩
      · exact h
      · cases h
    subst h0
    obtain rfl : n = 0 := by simpa using hn
    clear hn
    have qn := fun (W : World) (a : Option Addr) (n c : Nat) => run_eql_snil (P := Try.prog) W 42 5 a n c Try.underlying42
    go_enter Try.func27, Try.ntmps27
    go_wp2
    go_ret
    exact ⟨⟨_, _, rfl, World.ownsRow_nil _ _ _ _⟩, Below.refl _ _⟩
  | some a =>
    have Hx := Lib.hid hx
    have Hn := Lib.hid hn
    clear hx hn
    obtain ⟨i0, hi, hz0, hz1, hz2⟩ := info_parts Try.u8info
    have qn := fun (W : World) (a : Option Addr) (n c : Nat) => run_eql_snil (P := Try.prog) W 42 5 a n c Try.underlying42
    go_enter Try.func27, Try.ntmps27
    go_wp2_with (at_builtin; refine wpList_append_sees rfl (.tmp 5) (.tmp 6) 42 rfl w.heap.size 5 i0 (.int .u8 0) Try.underlying42 hi hz0 hz1 hz2 rfl (.slice (some ⟨w.heap.size, 0, none⟩) 0 0) 0 [] rfl (World.ownsRow_made w #[] 0 (Nat.le_refl _) (by simp [maxLen]) rfl) Bx (some a) n c x rfl Hn.out (Hx.out.alloc _) (by omega) (by simp) ?_; intro v' w1 hown hgr hat; clear hat; simp only [Nat.zero_add, List.nil_append] at hown; obtain ⟨A1, c2, rfl⟩ := own_form hown)
    go_ret
    exact ⟨⟨_, _, rfl, hown⟩, ((Below.refl _ _).alloc (Nat.le_refl _) _).grown hgr (by simp) (fun k hk => by simp [Value.ownBlock] at hk; omega)⟩

set_option maxHeartbeats 400000 in
theorem end_nil (w : World) : Calls Try.prog 25 #[.pointer none] w fun e w' => e = .returned (.tuple #[.slice none 0 0, .int .i64 1]) ∧ w = w' := by
  go_enter Try.func25, Try.ntmps25
  go_wp2
  go_ret2
  exact ⟨rfl, rfl⟩

/-- What End answers: the bytes in new memory, and OK; or nothing, and ErrArg. -/
def EndPost (w : World) (st : Option (List UInt8)) (e : Ending) (w' : World) : Prop :=
  match st with
  | none => e = .returned (.tuple #[.slice none 0 0, .int .i64 2]) ∧ w = w'
  | some l => (∃ A c, e = .returned (.tuple #[.slice A l.length c, .int .i64 0]) ∧ w'.ownsRow w.heap.size 5 1 (.slice A l.length c) l.length (By l)) ∧ Below w.heap.size w w'

set_option maxHeartbeats 400000 in
theorem end_s (w : World) (S : Nat → Prop) (g : Nat) (st : Option (List UInt8)) (hW : WrS w S g st) (hlen : lenS st ≤ 1099511627776) :
    Calls Try.prog 25 #[.pointer (some ⟨g, 0, none⟩)] w (EndPost w st) := by
  cases st with
  | none =>
    obtain ⟨hg, A', c', hb, ho, _⟩ := hW
    have c1 : w.cell? ⟨g, 1, none⟩ = some (.bool true) := hb.cell 1
    go_enter Try.func25, Try.ntmps25
    go_wp2
    go_ret2
    exact ⟨rfl, rfl⟩
  | some l =>
    obtain ⟨hg, A', c', hb, ho, _⟩ := hW
    have hl : l.length ≤ 1099511627776 := by simpa [lenS] using hlen
    have c0 : w.cell? ⟨g, 0, none⟩ = some (.slice A' l.length c') := hb.cell 0
    have c1 : w.cell? ⟨g, 1, none⟩ = some (.bool false) := hb.cell 1
    have Hs := Lib.hid (Sees.own ho)
    clear hlen
    go_enter Try.func25, Try.ntmps25
    go_wp2_with (go_at_call 27; refine (clone_any _ _ _ _ _ l rfl Hs.out (by omega)).mono ?_; rintro e w1 ⟨⟨A1, c1, rfl, hown⟩, hb1⟩)
    go_ret2
    exact ⟨⟨_, _, rfl, hown⟩, hb1⟩

end Go.Proofs.Ytjcbihdhkaiidaa
