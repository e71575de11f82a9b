/-
  Parts in memory: what one holds, and how a slice of them lies.
-/
import Derived.Test.YtpdidobmfoapiaaRd4
import Derived.Test.YtpdidobmfoapiaaKn
import Derived.Deep.MidRow
namespace Go.Proofs.Ytpdidobmfoapiaa
open Go.RowKit

/-- A part: its numbers, its slice's address and capacity, its bytes, its hash. -/
structure Prt where
  kind : Int
  size : Int
  n : Nat
  A : Option Addr
  c : Nat
  b : List UInt8
  h : List UInt8

def PCells (p : Prt) : List Value := .int .i64 p.kind :: .int .i64 p.size :: .int .u64 p.n :: .slice p.A p.b.length p.c :: By p.h
structure Prt.ok (w : World) (B : Nat) (p : Prt) : Prop where
  n : p.n < 18446744073709551616
  h : p.h.length = 32
  see : Sees w B p.A p.b
  lo : -9223372036854775808 ≤ p.size
  hi : p.size ≤ 9223372036854775807
theorem PCells_length {w : World} {B : Nat} {p : Prt} (h : p.ok w B) : (PCells p).length = 36 := by simp [PCells, By_length, h.h]
theorem PCells_one (p : Prt) : ∀ u ∈ PCells p, u.oneCell' = true := by
  intro u hu
  simp only [PCells, List.mem_cons] at hu
  rcases hu with rfl | rfl | rfl | rfl | hu
  · rfl
  · rfl
  · rfl
  · rfl
  · exact By_one _ u hu

/-- The slice value '.slice A L.length c' shows the parts L, all of it in blocks below B. -/
def PSees (w : World) (B : Nat) (A : Option Addr) (L : List Prt) : Prop :=
  (∀ p ∈ L, p.ok w B) ∧ (L = [] ∨ ∃ b off, A = some ⟨b, off, none⟩ ∧ b < B ∧ ∀ i (h : i < L.length), w.rangeAt b (off + i * 36) (PCells L[i]))
theorem Prt.ok.at_ {w : World} {B : Nat} {p : Prt} (h : p.ok w B) (h0 : p.b ≠ []) : ∀ ad, p.A = some ad → ad.block < B := by
  intro ad had
  rcases h.see with h1 | ⟨b, off, hA, hb, _⟩
  · exact absurd h1 h0
  · rw [hA] at had; injection had with had; subst had; exact hb
theorem Prt.ok.later {w w' : World} {B : Nat} {p : Prt} (h : p.ok w B) (hb : Below B w w') : p.ok w' B := ⟨h.n, h.h, h.see.below hb, h.lo, h.hi⟩
theorem PSees.below {w w' : World} {B : Nat} {A : Option Addr} {L : List Prt} (h : PSees w B A L) (hb : Below B w w') : PSees w' B A L := by
  refine ⟨fun p hp => (h.1 p hp).later hb, ?_⟩
  rcases h.2 with h0 | ⟨b, off, hA, hlt, hr⟩
  · exact .inl h0
  · exact .inr ⟨b, off, hA, hlt, fun i hi j v hv => (hb.cell (p := ⟨b, off + i * 36 + j, none⟩) hlt).trans (hr i hi j v hv)⟩
theorem PSees.at_ {w : World} {B : Nat} {A : Option Addr} {L : List Prt} (h : PSees w B A L) {k : Nat} (hk : k < L.length) : ∃ b off, A = some ⟨b, off, none⟩ ∧ b < B ∧ w.rangeAt b (off + k * 36) (PCells L[k]) ∧ L[k].ok w B := by
  rcases h.2 with h0 | ⟨b, off, hA, hlt, hr⟩
  · subst h0; simp at hk
  · exact ⟨b, off, hA, hlt, hr k hk, h.1 _ (List.getElem_mem hk)⟩

/-- How much the first k parts hold, each counted up to 20001. -/
def sumM (L : List Prt) : Nat → Nat
  | 0 => 0
  | k + 1 => sumM L k + min ((L[k]?.map (·.b.length)).getD 0) 20001
theorem sumM_succ (L : List Prt) (k : Nat) (h : k < L.length) : sumM L (k + 1) = sumM L k + min L[k].b.length 20001 := by simp [sumM, h]
theorem sumM_le (L : List Prt) (k : Nat) : sumM L k ≤ 20001 * k := by
  induction k with
  | zero => simp [sumM]
  | succ k ih => simp only [sumM]; omega
def muchB (L : List Prt) : Bool := decide (40 < L.length) || decide (20000 < sumM L (min L.length 41))

set_option maxHeartbeats 400000 in
theorem much_any (w : World) (B : Nat) (A : Option Addr) (n c : Nat) (L : List Prt) (hn : n = L.length) (hS : PSees w B A L) (hmax : n ≤ 9223372036854775807) (hbig : ∀ p ∈ L, p.b.length ≤ 9223372036854775807) :
    Calls Try.prog 8 #[.slice A n c] w fun e w' => e = .returned (.bool (muchB L)) ∧ w = w' := by
  subst hn
  have HS := Lib.hid hS
  have Hbig := Lib.hid hbig
  clear hS hbig
  go_enter Try.func8, Try.ntmps8
  go_wp2
  go_loop [3, 4] (fun n i => ∃ k s : Nat, k ≤ L.length ∧ k ≤ 41 ∧ i = .int .i64 k ∧ n = .int .i64 s ∧ s ≤ 20001 * k ∧ Hid (s = sumM L k)) (fun _ i => L.length - (intOf i).toNat)
  case atStart => exact ⟨0, 0, Nat.zero_le _, by omega, rfl, rfl, by omega, rfl⟩
  case round =>
    obtain ⟨k, s, hk, hk41, rfl, rfl, hs, Hs⟩ := hrel
    by_cases hlt : k < L.length ∧ k ≤ 40
    · obtain ⟨h1, h2⟩ := hlt
      obtain ⟨b, off, rfl, hb, hr, hok⟩ := HS.out.at_ h1
      have c3 : w.cell? ⟨b, off + k * 36 + 3, none⟩ = some (.slice L[k].A L[k].b.length L[k].c) := hr 3 _ rfl
      have hlb : L[k].b.length ≤ 9223372036854775807 := Hbig.out _ (List.getElem_mem h1)
      have Hsn := Lib.hid (sumM_succ L k h1)
      generalize L[k].b.length = m at *
      generalize L[k].A = Ak at *
      generalize L[k].c = ck at *
      clear hr hok
      go_wp2
      all_goals
        go_round
        case rel => exact ⟨k + 1, s + min m 20001, by omega, by omega, by go_num, by congr 1; split <;> omega, by omega, by show _ = _; rw [Hsn.out, Hs.out]⟩
        case measure => simp [intOf]; omega
    · by_cases h1 : k < L.length
      · obtain rfl : k = 41 := by omega
        have HF : Hid (muchB L = true) := by
          show _ = _
          simp [muchB]; left; omega
        have hL : (40 : Int) < L.length := by omega
        go_wp2
        go_ret
        rw [HF.out]
        exact ⟨rfl, rfl⟩
      · obtain rfl : k = L.length := by omega
        have HF : Hid (muchB L = (decide (40 < L.length) || decide (20000 < s))) := by
          show _ = _
          rw [Hs.out, muchB]
          rcases Nat.lt_or_ge 40 L.length with h | h
          · simp [h]
          · rw [Nat.min_eq_left (by omega)]
        by_cases hL : 40 < L.length
        · have hL' : (40 : Int) < L.length := by omega
          go_wp2
          go_ret
          rw [HF.out]
          exact ⟨by simp [hL], rfl⟩
        · by_cases hs2 : 20000 < s
          · have hs3 : (20000 : Int) < s := by omega
            go_wp2
            go_ret
            rw [HF.out]
            exact ⟨by simp [hs2], rfl⟩
          · have hL' : ¬ (40 : Int) < L.length := by omega
            have hs3 : ¬ (20000 : Int) < s := by omega
            go_wp2
            go_ret
            rw [HF.out]
            exact ⟨by simp [hL, hs2], rfl⟩

theorem sumM_ge (L : List Prt) (k i : Nat) (hi : i < k) (hk : k ≤ L.length) (h : i < L.length) : min L[i].b.length 20001 ≤ sumM L k := by
  induction k with
  | zero => omega
  | succ k ih =>
    rw [sumM_succ L k (by omega)]
    rcases Nat.lt_or_ge i k with h1 | h1
    · have := ih h1 (by omega); omega
    · obtain rfl : i = k := by omega
      omega
/-- All the bytes that parts hold. -/
def total (L : List Prt) : Nat := (L.map (·.b.length)).sum
theorem sumM_total (L : List Prt) : ∀ k, k ≤ L.length → (∀ p ∈ L, p.b.length ≤ 20000) → sumM L k = total (L.take k) := by
  intro k hk hp
  induction k with
  | zero => simp [sumM, total]
  | succ k ih =>
    rw [sumM_succ L k (by omega), ih (by omega)]
    have := hp _ (List.getElem_mem (show k < L.length by omega))
    rw [List.take_succ_eq_append_getElem (by omega)]
    simp only [total, List.map_append, List.sum_append, List.map_cons, List.map_nil, List.sum_cons, List.sum_nil]
    omega
theorem much_no {L : List Prt} (h : muchB L = false) : L.length ≤ 40 ∧ (∀ p ∈ L, p.b.length ≤ 20000) ∧ total L ≤ 20000 := by
  simp only [muchB, Bool.or_eq_false_iff, decide_eq_false_iff_not] at h
  obtain ⟨h1, h2⟩ := h
  have hl : L.length ≤ 40 := by omega
  rw [Nat.min_eq_left (by omega)] at h2
  have hp : ∀ p ∈ L, p.b.length ≤ 20000 := by
    intro p hp
    obtain ⟨i, hi, rfl⟩ := List.mem_iff_getElem.1 hp
    have := sumM_ge L L.length i hi (Nat.le_refl _) hi
    omega
  refine ⟨hl, hp, ?_⟩
  have := sumM_total L L.length (Nat.le_refl _) hp
  rw [List.take_length] at this
  omega

end Go.Proofs.Ytpdidobmfoapiaa
