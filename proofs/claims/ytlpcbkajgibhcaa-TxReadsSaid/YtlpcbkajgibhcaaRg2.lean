/-
  The document's reader: numbers, blobs, hashes, and whether all was read.
-/
import Derived.Test.YtlpcbkajgibhcaaRg
namespace Go.Proofs.Ytlpcbkajgibhcaa
open Go.RowKit

/-- What Number answers. -/
def RfNum (w : World) (g : Nat) (d : Option Nat) (N : Nat) (st' : Option (List UInt8)) (e : Ending) (w' : World) : Prop :=
  e = .returned (.int .u64 N) ∧ Rf w' g d st' ∧ Keeps (· = g) w w' ∧ w'.heap.size = w.heap.size

theorem ofLe_drop (p : List UInt8) (j : Nat) (h : j < p.length) : ofLe (p.drop j) = p[j].toNat + 256 * ofLe (p.drop (j + 1)) := by
  rw [List.drop_eq_getElem_cons h]; rfl

set_option maxHeartbeats 400000 in
theorem rfnumber_s (w : World) (g : Nat) (d : Option Nat) (st : Option (List UInt8)) (hR : Rf w g d st) (Z : Int) :
    Calls Try.prog 17 #[.pointer (some ⟨g, 0, none⟩), .int .i64 Z] w (RfNum w g d (ofLe (cutPiece st Z (may Z))) (cutRest st Z (may Z))) := by
  cases hm : may Z with
  | false =>
    have HF : Hid (RfNum w g d (ofLe (cutPiece st Z false)) (cutRest st Z false) (.returned (.int .u64 0)) (w.setCell ⟨g, 1, none⟩ (.bool true))) := by
      obtain ⟨hne, A, c, rest, hb, hc, hm, hs, ha, hr⟩ := hR
      exact ⟨by simp [cutPiece, cutOk, ofLe], by simpa [cutRest, cutOk] using Rf.fail hne hb hc hm hs ha, (Keeps.refl _ _).setCell (by exact rfl) _, by simp⟩
    obtain ⟨hne, A, c, rest, hb, _⟩ := hR
    have c1 : w.cell? ⟨g, 1, none⟩ = some (.bool st.isNone) := hb.cell 1
    have f1 : w.frozen? ⟨g, 1, none⟩ = false := hb.frozen 1
    have Hm := Lib.hid hm
    clear hne hb hm
    go_enter Try.func17, Try.ntmps17
    go_wp2_with ((go_at_call 34; refine (dSize_any _ _).mono ?_; rintro e w' ⟨rfl, rfl⟩; rw [Hm.out]))
    go_ret
    exact HF.out
  | true =>
    have HR := Lib.hid hR
    have Hm := Lib.hid hm
    have hZ : 0 ≤ Z := by have := may_cases hm; omega
    have Hd : Hid (decide (0 ≤ Z) = true) := decide_eq_true hZ
    have hp8 : (cutPiece st Z true).length ≤ 8 := by
      have h1 := cutPiece_le st Z true
      have h2 := may_cases hm
      omega
    generalize hpe : cutPiece st Z true = p at hp8 ⊢
    generalize hse : cutRest st Z true = st' at *
    have Hpe := Lib.hid hpe
    have Hse := Lib.hid hse
    clear hR hpe hse hm
    go_enter Try.func17, Try.ntmps17
    go_wp2_with (first
      | (go_at_call 34; refine (dSize_any _ _).mono ?_; rintro e w' ⟨rfl, rfl⟩; rw [Hm.out])
      | (go_at_call 35; refine (rfcut_s _ _ _ _ HR.out Z).mono ?_; rw [Hd.out, Hpe.out, Hse.out]; rintro e w1 ⟨A, c, rfl, hs1, _, hR1, hk1, hz1⟩; have Hs1 := Lib.hid hs1; have Hfin := Lib.hid (And.intro hR1 (And.intro hk1 hz1)); clear hs1 hR1 hk1 hz1))
    go_loop [6, 7] (fun n i => ∃ k N : Nat, k ≤ p.length ∧ i = .int .i64 ((k : Int) - 1) ∧ n = .int .u64 N ∧ Hid (N = ofLe (p.drop k))) (fun _ i => (intOf i + 1).toNat)
    case atStart => exact ⟨p.length, 0, Nat.le_refl _, rfl, rfl, by show _ = _; rw [List.drop_length]; rfl⟩
    case round =>
      obtain ⟨k, N, hk, rfl, rfl, HN⟩ := hrel
      by_cases h0 : k = 0
      · subst h0
        have HT : Hid (N = ofLe p) := by show _ = _; rw [HN.out, List.drop_zero]
        go_wp2
        go_ret
        obtain ⟨h1, h2, h3⟩ := Hfin.out
        exact ⟨by rw [← HT.out]; rfl, h1, h2, h3⟩
      · obtain ⟨j, rfl⟩ : ∃ j, k = j + 1 := ⟨k - 1, by omega⟩
        have hN : N < 72057594037927936 := by
          rw [HN.out]
          have h1 := ofLe_lt (p.drop (j + 1))
          have h2 : 256 ^ (p.drop (j + 1)).length ≤ 256 ^ 7 := Nat.pow_le_pow_right (by omega) (by rw [List.length_drop]; omega)
          omega
        have hjl : j < p.length := by omega
        obtain ⟨b, off, rfl, hb, hc⟩ := Hs1.out.at_ hjl
        have cj : w1.cell? ⟨b, off + j, none⟩ = some (.int .u8 (p[j].toNat : Int)) := hc j hjl
        have hb256 : p[j].toNat < 256 := p[j].toNat_lt
        have HO := Lib.hid (ofLe_drop p j hjl)
        have e : (((j + 1 : Nat) : Int) - 1) = (j : Int) := by omega
        rw [e]
        clear hc e
        go_wp2
        go_round
        case rel => exact ⟨j, p[j].toNat + 256 * N, by omega, by go_num, by go_num, by show _ = _; rw [HO.out, HN.out]⟩
        case measure => simp [intOf]

set_option maxHeartbeats 400000 in
theorem rfblob_s (w : World) (g : Nat) (d : Option Nat) (st : Option (List UInt8)) (hR : Rf w g d st) :
    Calls Try.prog 19 #[.pointer (some ⟨g, 0, none⟩)] w (RfCut w g d (blobPiece st) (blobRest st)) := by
  have HR := Lib.hid hR
  have hN : blobN st < 4294967296 := by
    have h1 := ofLe_lt (cutPiece st 4 true)
    have h2 := cutPiece_le st 4 true
    have h3 : 256 ^ (cutPiece st 4 true).length ≤ 256 ^ 4 := Nat.pow_le_pow_right (by omega) h2
    unfold blobN
    omega
  have Hm2 : Hid (may 4 = true) := rfl
  have HN : Hid (ofLe (cutPiece st 4 true) = blobN st) := rfl
  by_cases hbig : 16777216 < blobN st
  · have Hp : Hid (blobPiece st = []) := by
      show _ = _
      have : blobM st = false := decide_eq_false (by omega)
      simp [blobPiece, this, cutPiece, cutOk]
    have Hs : Hid (blobRest st = none) := by
      show _ = _
      have : blobM st = false := decide_eq_false (by omega)
      simp [blobRest, this, cutRest, cutOk]
    generalize blobPiece st = p at *
    generalize blobRest st = st' at *
    generalize blobN st = N at *
    have hbig' : (16777216 : Int) < N := by omega
    clear hR
    go_enter Try.func19, Try.ntmps19
    go_wp2_with ((go_at_call 17; refine (rfnumber_s _ _ _ _ HR.out 4).mono ?_; rw [Hm2.out, HN.out]; rintro e w1 ⟨rfl, hR1, hk1, hz1⟩; have HR1 := Lib.hid hR1; have Hk1 := Lib.hid hk1; have Hz1 := Lib.hid hz1; obtain ⟨_, A1, c1, rest1, hb1, _⟩ := hR1; have d1 : w1.cell? ⟨g, 1, none⟩ = some (.bool (cutRest st 4 true).isNone) := hb1.cell 1; have f1 : w1.frozen? ⟨g, 1, none⟩ = false := hb1.frozen 1; clear hb1 hk1 hz1))
    go_ret
    rw [Hp.out, Hs.out]
    obtain ⟨hne, A, c, rest, hb, hc, hm, hs, ha, hr⟩ := HR1.out
    obtain ⟨A', c', h1, h2, h6, h3, h4, h5⟩ := RfCut.fail hne hb hc hm hs ha
    exact ⟨A', c', h1, h2, h6, h3, Hk1.out.trans h4, by rw [h5, Hz1.out]⟩
  · have Hp : Hid (cutPiece (cutRest st 4 true) (blobN st) (decide (0 ≤ (blobN st : Int))) = blobPiece st) := by
      show _ = _
      have h1 : blobM st = true := decide_eq_true (by omega)
      have h2 : decide (0 ≤ (blobN st : Int)) = true := decide_eq_true (by omega)
      rw [blobPiece, h1, h2]
    have Hs : Hid (cutRest (cutRest st 4 true) (blobN st) (decide (0 ≤ (blobN st : Int))) = blobRest st) := by
      show _ = _
      have h1 : blobM st = true := decide_eq_true (by omega)
      have h2 : decide (0 ≤ (blobN st : Int)) = true := decide_eq_true (by omega)
      rw [blobRest, h1, h2]
    generalize blobPiece st = p at *
    generalize blobRest st = st' at *
    generalize blobN st = N at *
    clear hR
    go_enter Try.func19, Try.ntmps19
    go_wp2_with (first
      | (go_at_call 17; refine (rfnumber_s _ _ _ _ HR.out 4).mono ?_; rw [Hm2.out, HN.out]; rintro e w1 ⟨rfl, hR1, hk1, hz1⟩; have HR1 := Lib.hid hR1; have Hk1 := Lib.hid hk1; have Hz1 := Lib.hid hz1; clear hR1 hk1 hz1)
      | (go_at_call 35; refine (rfcut_s _ _ _ _ HR1.out N).mono ?_; rw [Hp.out, Hs.out]; rintro e w2 ⟨A, c, rfl, hs2, ha2, hR2, hk2, hz2⟩))
    go_ret
    exact ⟨A, c, rfl, hs2, ha2, hR2, Hk1.out.trans hk2, by rw [hz2, Hz1.out]⟩

/-- Was all read? -/
def doneB (st : Option (List UInt8)) : Bool := decide (st = some [])
set_option maxHeartbeats 400000 in
theorem rfdone_s (w : World) (g : Nat) (d : Option Nat) (st : Option (List UInt8)) (hR : Rf w g d st) : Calls Try.prog 20 #[.pointer (some ⟨g, 0, none⟩)] w fun e w' => e = .returned (.bool (doneB st)) ∧ w = w' := by
  obtain ⟨hne, A, c, rest, hb, hc, hm, hs, ha, hr⟩ := hR
  have c0 : w.cell? ⟨g, 0, none⟩ = some (.slice A rest.length c) := hb.cell 0
  cases st with
  | none =>
    have c1 : w.cell? ⟨g, 1, none⟩ = some (.bool true) := hb.cell 1
    have HF : Hid (doneB none = false) := rfl
    clear hne hb hs ha hr
    go_enter Try.func20, Try.ntmps20
    go_wp2
    go_ret
    rw [HF.out]
    exact ⟨rfl, rfl⟩
  | some l =>
    have c1 : w.cell? ⟨g, 1, none⟩ = some (.bool false) := hb.cell 1
    obtain rfl := hr l rfl
    have HF : Hid (doneB (some rest) = ((rest.length : Int) == 0)) := by
      show _ = _
      cases rest with
      | nil => rfl
      | cons b l =>
        simp [doneB]
        omega
    generalize rest.length = n at *
    generalize (some rest) = st at *
    clear hne hb hs ha hr
    go_enter Try.func20, Try.ntmps20
    go_wp2
    go_ret
    rw [HF.out]
    exact ⟨rfl, rfl⟩

end Go.Proofs.Ytlpcbkajgibhcaa
