/-
  The readers of package wire: numbers, bytes, blobs, counts, hashes.
-/
import Derived.Test.YtlepajddekblcaaDoorRd2
namespace Go.Proofs.YtlepajddekblcaaDoor
open Go.RowKit

theorem cutPiece_le (st : Option (List UInt8)) (n : Int) (m : Bool) : (cutPiece st n m).length ≤ n.toNat := by
  unfold cutPiece
  split
  · exact List.length_take_le _ _
  · simp

theorem pow256 (k : Nat) : 256 ^ k = 2 ^ (8 * k) := by rw [Nat.pow_mul]
theorem or_add (N b k : Nat) (hN : N < 256 ^ k) : N ||| b * 256 ^ k = N + 256 ^ k * b := by
  rw [pow256] at hN ⊢
  rw [← Nat.shiftLeft_eq, Nat.or_comm, ← Nat.shiftLeft_add_eq_or_of_lt hN, Nat.shiftLeft_eq, Nat.mul_comm, Nat.add_comm]
/-- One round of Number's loop. -/
theorem num_step (N b k : Nat) (hN : N < 256 ^ k) (hb : b < 256) (hk : k < 8) :
    bits .or .u64 (N : Int) (IntKind.u64.wrap ((b : Int) * 2 ^ (8 * k))) = ((N + 256 ^ k * b : Nat) : Int) := by
  have h8 : 256 ^ (k + 1) ≤ 256 ^ 8 := Nat.pow_le_pow_right (by omega) (by omega)
  have h64 : (256 : Nat) ^ 8 = 18446744073709551616 := by decide
  have hbk : b * 256 ^ k < 256 ^ (k + 1) := by
    rw [Nat.pow_succ, Nat.mul_comm (256 ^ k)]
    exact Nat.mul_lt_mul_of_pos_right hb (Nat.pow_pos (by omega))
  have hkk : 256 ^ k ≤ 256 ^ (k + 1) := Nat.pow_le_pow_right (by omega) (by omega)
  have e2 : ((b : Int) * 2 ^ (8 * k)) = ((b * 256 ^ k : Nat) : Int) := by rw [pow256]; simp
  rw [e2]
  generalize hm : b * 256 ^ k = m at *
  have e3 : IntKind.u64.wrap (m : Int) = (m : Int) := by rw [IntKind.wrap_u64]; omega
  rw [e3, u64_or_nat N m (by omega) (by omega), ← hm, or_add N b k hN]
theorem ofLe_snoc (p : List UInt8) (k : Nat) (h : k < p.length) : ofLe (p.take (k + 1)) = ofLe (p.take k) + 256 ^ k * p[k].toNat := by
  rw [List.take_succ_eq_append_getElem h, ofLe_append, List.length_take, Nat.min_eq_left (by omega)]

/-- What Number answers. -/
def NumPost (w : World) (g : Nat) (d : Option Nat) (N : Nat) (st' : Option (List UInt8)) (e : Ending) (w' : World) : Prop :=
  e = .returned (.int .u64 N) ∧ Rd w' g d st' ∧ Keeps (· = g) w w' ∧ w'.heap.size = w.heap.size

set_option maxHeartbeats 400000 in
theorem rnumber_s (w : World) (g : Nat) (d : Option Nat) (st : Option (List UInt8)) (hR : Rd w g d st) (Z : Int) :
    Calls Tryd.prog 58 #[.pointer (some ⟨g, 0, none⟩), .int .i64 Z] w (NumPost w g d (ofLe (cutPiece st Z (may Z))) (cutRest st Z (may Z))) := by
  have HR := Lib.hid hR
  have hp8 : (cutPiece st Z (may Z)).length ≤ 8 := by
    have := cutPiece_le st Z (may Z)
    cases h : may Z with
    | false => simp [cutPiece, cutOk]
    | true => rw [h] at this; have := may_cases h; omega
  generalize hpe : cutPiece st Z (may Z) = p at hp8 ⊢
  generalize hse : cutRest st Z (may Z) = st' at *
  have Hpe := Lib.hid hpe
  have Hse := Lib.hid hse
  clear hR hpe hse
  go_enter Tryd.func58, Tryd.ntmps58
  go_wp2_with (first
    | (go_at_call 59; refine (maySize_any _ _).mono ?_; rintro e w' ⟨rfl, rfl⟩)
    | (go_at_call 79; refine (cut_s _ _ _ _ HR.out Z (may Z) (fun h => by have := may_cases h; omega)).mono ?_; rw [Hpe.out, Hse.out]; rintro e w1 ⟨A, c, rfl, hs1, ha1, hR1, hk1, hz1⟩; have Hs1 := Lib.hid hs1; have Hfin := Lib.hid (And.intro hR1 (And.intro hk1 hz1)); clear hs1 ha1 hR1 hk1 hz1))
  go_loop [5, 14] (fun n i => ∃ k N : Nat, k ≤ p.length ∧ i = .int .i64 k ∧ n = .int .u64 N ∧ Hid (N = ofLe (p.take k)) ∧ N < 256 ^ k) (fun _ i => p.length - (intOf i).toNat)
  case atStart => exact ⟨0, 0, Nat.zero_le _, rfl, rfl, rfl, by simp⟩
  case round =>
    obtain ⟨k, N, hk, rfl, rfl, HN, hlt⟩ := hrel
    by_cases hkl : k < p.length
    · obtain ⟨b, off, rfl, hb, hc⟩ := Hs1.out.at_ hkl
      have ck : w1.cell? ⟨b, off + k, none⟩ = some (.int .u8 (p[k].toNat : Int)) := hc k hkl
      clear hc
      have hb256 : p[k].toNat < 256 := p[k].toNat_lt
      have HT := Lib.hid (num_step N p[k].toNat k hlt hb256 (by omega))
      have HO := Lib.hid (ofLe_snoc p k hkl)
      have HL : Hid (N + 256 ^ k * p[k].toNat < 256 ^ (k + 1)) := by
        have h1 : 256 ^ k * p[k].toNat ≤ 256 ^ k * 255 := Nat.mul_le_mul_left _ (by omega)
        show _ < _
        rw [Nat.pow_succ]
        omega
      go_wp2
      go_round
      case rel => exact ⟨k + 1, N + 256 ^ k * p[k].toNat, by omega, by go_num, congrArg (Value.int .u64) HT.out, by show _ = _; rw [HO.out, HN.out], HL.out⟩
      case measure => simp [intOf]; omega
    · obtain rfl : k = p.length := by omega
      have HT : Hid (N = ofLe p) := by show _ = _; rw [HN.out, List.take_length]
      go_wp2
      go_ret
      obtain ⟨h1, h2, h3⟩ := Hfin.out
      exact ⟨by rw [← HT.out]; rfl, h1, h2, h3⟩

/-- What Bytes and Blob answer: a copy in new memory. -/
def PiecePost (w : World) (g : Nat) (d : Option Nat) (p : List UInt8) (st' : Option (List UInt8)) (e : Ending) (w' : World) : Prop :=
  ∃ A c, e = .returned (.slice A p.length c) ∧ w'.ownsRow w.heap.size 5 1 (.slice A p.length c) p.length (By p) ∧ Rd w' g d st' ∧ Keeps (· = g) w w'

theorem cutPiece_lt (st : Option (List UInt8)) (n : Int) (m : Bool) : (cutPiece st n m).length ≤ lenS st := by
  unfold cutPiece lenS
  split
  · exact List.length_take_le' _ _
  · simp

/-- A blob's length, and whether it may be. -/
def blobN (st : Option (List UInt8)) : Nat := ofLe (cutPiece st 4 true)
def blobM (st : Option (List UInt8)) : Bool := decide (blobN st ≤ 16777216)
def blobPiece (st : Option (List UInt8)) : List UInt8 := cutPiece (cutRest st 4 true) (blobN st) (blobM st)
def blobRest (st : Option (List UInt8)) : Option (List UInt8) := cutRest (cutRest st 4 true) (blobN st) (blobM st)

theorem lenS_cutRest (st : Option (List UInt8)) (n : Int) (m : Bool) : lenS (cutRest st n m) ≤ lenS st := by
  unfold cutRest lenS
  split
  · simp
  · simp

/-- Read: a reader over a copy. -/
def ReadPost (w : World) (l : List UInt8) (e : Ending) (w' : World) : Prop :=
  ∃ g d, e = .returned (.pointer (some ⟨g, 0, none⟩)) ∧ w.heap.size ≤ g ∧ (∀ k, d = some k → w.heap.size ≤ k) ∧ Rd w' g d (some l) ∧ Below w.heap.size w w'
set_option maxHeartbeats 400000 in
theorem read_any (w : World) (Bx : Nat) (A : Option Addr) (n c : Nat) (x : List UInt8) (hn : n = x.length) (hx : Sees w Bx A x) (hlen : n ≤ 1099511627776) :
    Calls Tryd.prog 57 #[.slice A n c] w (ReadPost w x) := by
  have Hx := Lib.hid hx
  have Hn := Lib.hid hn
  clear hx hn
  go_enter Tryd.func57, Tryd.ntmps57
  go_wp2_with (go_at_call 61; refine (clone_any _ _ _ _ _ x Hn.out Hx.out (by omega)).mono ?_; rintro e w1 ⟨⟨A1, c1, rfl, ho1⟩, hb1⟩)
  go_ret
  obtain rfl := Hn.out
  have hb2 : Below w.heap.size w (w1.alloc (.cells #[.slice A1 x.length c1, .bool true, .bool false] 134)) := hb1.alloc hb1.size _
  have hs := (Sees.own ho1).alloc (.cells #[.slice A1 x.length c1, .bool true, .bool false] 134)
  refine ⟨w1.heap.size, A1.map (·.block), rfl, hb1.size, ?_, ⟨?_, A1, c1, by exact heap_alloc_new w1 _, ?_, ?_, hs.size, ?_⟩, hb2⟩
  · intro k hk
    cases A1 with
    | none => cases hk
    | some ad => obtain rfl : ad.block = k := by simpa using hk
                 exact (ho1.lt ad.block rfl).1
  · intro k hk
    cases A1 with
    | none => cases hk
    | some ad => obtain rfl : ad.block = k := by simpa using hk
                 have := (ho1.lt ad.block rfl).2
                 simp; omega
  · rcases ho1.2 with ⟨h, h0⟩ | ⟨g, cap, cur, hv, _, _, hnc, hcm, _⟩
    · simp [lenS, h0]
    · injection hv with _ _ hc; subst hc; simpa [lenS] using hnc
  · rcases ho1.2 with ⟨h, h0⟩ | ⟨g, cap, cur, hv, _, _, hnc, hcm, _⟩
    · injection h with _ _ hc; subst hc; simp [maxLen]
    · injection hv with _ _ hc; subst hc; exact hcm
  · intro ad e; subst e; rfl

end Go.Proofs.YtlepajddekblcaaDoor
