/-
  A part's bytes, by the document: bytes(x).
-/
import Derived.Test.YtpdidobmfoapiaaPut
namespace Go.Proofs.Ytpdidobmfoapiaa
open Go.RowKit

/-- A part's bytes by the document, and whether it can be put. -/
def partB (p : Prt) : List UInt8 × Bool :=
  if p.kind = 1 then (putL p.n p.size, numOk p.n p.size)
  else if p.kind = 2 then (p.b, true)
  else if p.kind = 3 then (leB p.b.length 4 ++ p.b, true)
  else if p.kind = 4 then (if 0 ≤ p.size ∧ p.size ≤ 65535 then (putL p.size.toNat 2, numOk p.size.toNat 2) else ([], false))
  else if p.kind = 5 then (p.h, true)
  else ([], true)

/-- What bytes answers. -/
def BytPost (w : World) (l : List UInt8) (ok : Bool) (e : Ending) (w' : World) : Prop :=
  ∃ A c, e = .returned (.tuple #[.slice A l.length c, .bool ok]) ∧ Sees w' w'.heap.size A l ∧ Below w.heap.size w w'

theorem PCells_0 (p : Prt) : (PCells p)[0]? = some (.int .i64 p.kind) := rfl
theorem PCells_1 (p : Prt) : (PCells p)[1]? = some (.int .i64 p.size) := rfl
theorem PCells_2 (p : Prt) : (PCells p)[2]? = some (.int .u64 p.n) := rfl
theorem PCells_3 (p : Prt) : (PCells p)[3]? = some (.slice p.A p.b.length p.c) := rfl

set_option maxHeartbeats 400000 in
set_option maxRecDepth 100000 in
theorem byt_1 (w : World) (B : Nat) (p : Prt) (hp : p.ok w B) (hk : p.kind = 1) :
    Calls Try.prog 10 #[.agg (PCells p).toArray] w (BytPost w (partB p).1 (partB p).2) := by
  have HF : Hid (partB p = (putL p.n p.size, numOk p.n p.size)) := by show _ = _; simp [partB, hk]
  have HP := Lib.hid hp
  have e0 := PCells_0 p
  have e1 := PCells_1 p
  have e2 := PCells_2 p
  rw [hk] at e0
  clear hp hk
  go_enter Try.func10, Try.ntmps10
  go_wp2_with (go_at_call 37; refine (refPut_any _ _ _ HP.out.n).mono ?_; rintro e w1 ⟨A, c, rfl, h1⟩; have H1 := Lib.hid h1; clear h1)
  go_ret2
  rw [HF.out]
  exact ⟨A, c, rfl, Sees.own H1.out.1, ((Below.refl _ _).alloc (Nat.le_refl _) _).trans (H1.out.2.mono (by simp))⟩

set_option maxHeartbeats 400000 in
set_option maxRecDepth 100000 in
theorem byt_2 (w : World) (B : Nat) (p : Prt) (hp : p.ok w B) (hk : p.kind = 2) :
    Calls Try.prog 10 #[.agg (PCells p).toArray] w (BytPost w (partB p).1 (partB p).2) := by
  have HF : Hid (partB p = (p.b, true)) := by show _ = _; simp [partB, hk]
  have HP := Lib.hid hp
  have e0 := PCells_0 p
  have e3 := PCells_3 p
  rw [hk] at e0
  clear hp hk
  go_enter Try.func10, Try.ntmps10
  go_wp2
  go_ret2
  rw [HF.out]
  exact ⟨p.A, p.c, rfl, (HP.out.see.alloc _).size, (Below.refl _ _).alloc (Nat.le_refl _) _⟩

set_option maxHeartbeats 400000 in
set_option maxRecDepth 100000 in
theorem byt_3 (w : World) (B : Nat) (p : Prt) (hp : p.ok w B) (hk : p.kind = 3) (hb : p.b.length ≤ 20000) :
    Calls Try.prog 10 #[.agg (PCells p).toArray] w (BytPost w (partB p).1 (partB p).2) := by
  have HF : Hid (partB p = (leB p.b.length 4 ++ p.b, true)) := by show _ = _; simp [partB, hk]
  have HP := Lib.hid hp
  have e0 := PCells_0 p
  have e3 := PCells_3 p
  rw [hk] at e0
  clear hp hk
  go_enter Try.func10, Try.ntmps10
  go_wp2_with (go_at_call 38; refine (refBlob_any _ _ _ _ _ p.b rfl (HP.out.see.alloc _) (by omega)).mono ?_; rintro e w1 ⟨A, c, rfl, h1⟩; have H1 := Lib.hid h1; clear h1)
  go_ret2
  rw [HF.out]
  refine ⟨A, c, ?_, Sees.own H1.out.1, ((Below.refl _ _).alloc (Nat.le_refl _) _).trans (H1.out.2.mono (by simp))⟩
  rw [List.length_append, leB_length, Nat.add_comm]
  rfl

set_option maxHeartbeats 400000 in
set_option maxRecDepth 100000 in
theorem byt_4 (w : World) (B : Nat) (p : Prt) (hp : p.ok w B) (hk : p.kind = 4) :
    Calls Try.prog 10 #[.agg (PCells p).toArray] w (BytPost w (partB p).1 (partB p).2) := by
  have HP := Lib.hid hp
  have e0 := PCells_0 p
  have e1 := PCells_1 p
  rw [hk] at e0
  by_cases h0 : p.size < 0
  · have HF : Hid (partB p = ([], false)) := by show _ = _; simp [partB, hk]; omega
    clear hp hk
    go_enter Try.func10, Try.ntmps10
    go_wp2
    go_ret2
    rw [HF.out]
    exact ⟨none, 0, rfl, .inl rfl, (Below.refl _ _).alloc (Nat.le_refl _) _⟩
  · by_cases h1 : 65535 < p.size
    · have HF : Hid (partB p = ([], false)) := by show _ = _; simp [partB, hk]; omega
      clear hp hk
      go_enter Try.func10, Try.ntmps10
      go_wp2
      go_ret2
      rw [HF.out]
      exact ⟨none, 0, rfl, .inl rfl, (Below.refl _ _).alloc (Nat.le_refl _) _⟩
    · obtain ⟨k, hks⟩ := Int.eq_ofNat_of_zero_le (show 0 ≤ p.size by omega)
      have HF : Hid (partB p = (putL k 2, numOk k 2)) := by
        show _ = _
        simp only [partB, hk]
        rw [if_neg (by omega), if_neg (by omega), if_neg (by omega), if_pos trivial, if_pos (by omega), hks]
        rfl
      rw [hks] at e1 h0 h1
      clear hp hk hks
      go_enter Try.func10, Try.ntmps10
      go_wp2_with (go_at_call 37; refine (refPut_any _ _ _ (by omega)).mono ?_; rintro e w1 ⟨A, c, rfl, h1⟩; have H1 := Lib.hid h1; clear h1)
      go_ret2
      rw [HF.out]
      exact ⟨A, c, rfl, Sees.own H1.out.1, ((Below.refl _ _).alloc (Nat.le_refl _) _).trans (H1.out.2.mono (by simp))⟩

/-- The hash inside a part's block shows its bytes. -/
theorem Sees.hash {w' : World} {g : Nat} {t : TypeId} {p : Prt} (hb : Blk w' g t (PCells p).toArray) : Sees w' w'.heap.size (some ⟨g, 4, none⟩) p.h := by
  refine .inr ⟨g, 4, rfl, hb.lt, fun i hi => ?_⟩
  rw [hb.cell (4 + i)]
  simp [PCells, By, Nat.add_comm 4 i, hi]

set_option maxHeartbeats 400000 in
set_option maxRecDepth 100000 in
theorem byt_5 (w : World) (B : Nat) (p : Prt) (hp : p.ok w B) (hk : p.kind = 5) :
    Calls Try.prog 10 #[.agg (PCells p).toArray] w (BytPost w (partB p).1 (partB p).2) := by
  have HF : Hid (partB p = (p.h, true)) := by show _ = _; simp [partB, hk]
  have HP := Lib.hid hp
  have e0 := PCells_0 p
  rw [hk] at e0
  have HB : Hid (Blk (w.alloc (.cells (PCells p).toArray 32)) w.heap.size 32 (PCells p).toArray) := heap_alloc_new w _
  clear hp hk
  go_enter Try.func10, Try.ntmps10
  go_wp2
  go_ret2
  rw [HF.out]
  refine ⟨some ⟨w.heap.size, 4, none⟩, 32, ?_, Sees.hash HB.out, (Below.refl _ _).alloc (Nat.le_refl _) _⟩
  rw [HP.out.h]
  rfl

set_option maxHeartbeats 400000 in
set_option maxRecDepth 100000 in
theorem byt_6 (w : World) (p : Prt) (hk : ¬ (p.kind = 1 ∨ p.kind = 2 ∨ p.kind = 3 ∨ p.kind = 4 ∨ p.kind = 5)) :
    Calls Try.prog 10 #[.agg (PCells p).toArray] w (BytPost w (partB p).1 (partB p).2) := by
  have HF : Hid (partB p = ([], true)) := by show _ = _; simp only [partB]; rw [if_neg (by omega), if_neg (by omega), if_neg (by omega), if_neg (by omega), if_neg (by omega)]
  have e0 := PCells_0 p
  have b1 : (p.kind == 1) = false := beq_eq_false_iff_ne.2 (by omega)
  have b2 : (p.kind == 2) = false := beq_eq_false_iff_ne.2 (by omega)
  have b3 : (p.kind == 3) = false := beq_eq_false_iff_ne.2 (by omega)
  have b4 : (p.kind == 4) = false := beq_eq_false_iff_ne.2 (by omega)
  have b5 : (p.kind == 5) = false := beq_eq_false_iff_ne.2 (by omega)
  clear hk
  go_enter Try.func10, Try.ntmps10
  go_wp2
  go_ret2
  rw [HF.out]
  exact ⟨none, 0, rfl, .inl rfl, (Below.refl _ _).alloc (Nat.le_refl _) _⟩

theorem byt_any (w : World) (B : Nat) (p : Prt) (hp : p.ok w B) (hb : p.b.length ≤ 20000) : Calls Try.prog 10 #[.agg (PCells p).toArray] w (BytPost w (partB p).1 (partB p).2) := by
  by_cases h1 : p.kind = 1
  · exact byt_1 w B p hp h1
  by_cases h2 : p.kind = 2
  · exact byt_2 w B p hp h2
  by_cases h3 : p.kind = 3
  · exact byt_3 w B p hp h3 hb
  by_cases h4 : p.kind = 4
  · exact byt_4 w B p hp h4
  by_cases h5 : p.kind = 5
  · exact byt_5 w B p hp h5
  · exact byt_6 w p (by omega)

end Go.Proofs.Ytpdidobmfoapiaa
