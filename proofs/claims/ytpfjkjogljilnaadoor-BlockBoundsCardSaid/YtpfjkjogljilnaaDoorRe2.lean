/-
  The readers of package wire: what each call does, the second part. · The readers of package wire: numbers, bytes, blobs, counts, hashes. · The readers of package wire: hashes.
-/
import Derived.Test.YtpfjkjogljilnaaDoorRd
import Derived.ScopeJumps
import Derived.Test.YtpfjkjogljilnaaDoorCopy
import Derived.Test.YtpfjkjogljilnaaDoorZ32
import Derived.Deep.RegionWith
namespace Go.Proofs.YtpfjkjogljilnaaDoor
open Go.RowKit

theorem cut_end (w : World) (g : Nat) (d : Option Nat) (hne : ∀ k, d = some k → k ≠ g ∧ k < w.heap.size) (A : Option Addr) (n c : Nat) (b : Bool) (hb : Blk w g 81 #[.slice A n c, .bool true, .bool b]) :
    CutPost w g d [] none (.returned (.slice none 0 0)) ((w.setCell ⟨g, 0, none⟩ (.slice none 0 0)).setCell ⟨g, 2, none⟩ (.bool true)) := by
  refine ⟨none, 0, rfl, .inl rfl, (fun ad e => by cases e), ⟨fun k e => ⟨(hne k e).1, by simpa using (hne k e).2⟩, none, 0, ?_, by simp [lenS], by simp [maxLen], .inl rfl, (fun ad e => by cases e)⟩, ((Keeps.refl _ _).setCell (by exact rfl) _).setCell (by exact rfl) _, by simp⟩
  simpa [lenS] using (hb.set 0 (.slice none 0 0)).set 2 (.bool true)

/-- What holds where cut comes to its label. -/
def AtPast (w : World) (g : Nat) (a' : Act) (w' : World) : Prop := w' = w ∧ ∃ u1 u2 u3 u4 u5 u6 u7 u8 u9 u10 u11 u12 u13 u14 u15 u16 u17 u18 u19 u20 u21 u22 u23 u24 u25 u26 u27 u28 u29 u30 u31 u32 u33 u34 u35 u36 u37 u38 u39 u40 u41 u42 u43 u44 u45 u46 u47 u48 u49 : Value, a' = { tmps := #[.pointer (some ⟨g, 0, none⟩), u1, u2, u3, u4, u5, u6, u7, u8, u9, u10, u11, u12, u13, u14, u15, u16, u17, u18, u19, u20, u21, u22, u23, u24, u25, u26, u27, u28, u29, u30, u31, u32, u33, u34, u35, u36, u37, u38, u39, u40, u41, u42, u43, u44, u45, u46, u47, u48, u49], defers := [] }

set_option maxHeartbeats 400000 in
theorem cut_not (w : World) (g : Nat) (d : Option Nat) (st : Option (List UInt8)) (hR : Rd w g d st) (n : Int) :
    Calls Tryd.prog 35 #[.pointer (some ⟨g, 0, none⟩), .int .i64 n, .bool false] w (CutPost w g d [] none) := by
  obtain ⟨hne, A, c, hb, hc, hm, hs, ha⟩ := hR
  clear hs ha
  have c0 : w.cell? ⟨g, 0, none⟩ = some (.slice A (lenS st) c) := hb.cell 0
  have c1 : w.cell? ⟨g, 1, none⟩ = some (.bool true) := hb.cell 1
  have c2 : w.cell? ⟨g, 2, none⟩ = some (.bool st.isNone) := hb.cell 2
  have f0 : w.frozen? ⟨g, 0, none⟩ = false := hb.frozen 0
  have f2 : w.frozen? ⟨g, 2, none⟩ = false := hb.frozen 2
  have Hfin := Lib.hid (cut_end w g d hne A _ c _ hb)
  clear hb hne
  go_enter Tryd.func35, Tryd.ntmps35
  go_wp2_with fail
  refine wp_scope_jumps 0 (AtPast w g) (fun _ _ => 0) rfl ?first ?pass
  case first =>
    go_wp2_with (go_at_call 36; refine (isNil_made _ _ _ c1).mono ?_; rintro e w' ⟨rfl, rfl⟩)
    go_step3
    exact ⟨rfl, rfl, _, _, _, _, _, _, _, _, _, _, _, _, _, _, _, _, _, _, _, _, _, _, _, _, _, _, _, _, _, _, _, _, _, _, _, _, _, _, _, _, _, _, _, _, _, _, _, _, _, rfl⟩
  case pass =>
    rintro a' w' ⟨rfl, u1, u2, u3, u4, u5, u6, u7, u8, u9, u10, u11, u12, u13, u14, u15, u16, u17, u18, u19, u20, u21, u22, u23, u24, u25, u26, u27, u28, u29, u30, u31, u32, u33, u34, u35, u36, u37, u38, u39, u40, u41, u42, u43, u44, u45, u46, u47, u48, u49, rfl⟩
    go_wp2
    simp only [Exit.jump]
    go_ret
    exact Hfin.out

set_option maxHeartbeats 400000 in
theorem cut_failed (w : World) (g : Nat) (d : Option Nat) (hR : Rd w g d none) (n : Int) :
    Calls Tryd.prog 35 #[.pointer (some ⟨g, 0, none⟩), .int .i64 n, .bool true] w (CutPost w g d [] none) := by
  obtain ⟨hne, A, c, hb, hc, hm, hs, ha⟩ := hR
  clear hs ha
  have c0 : w.cell? ⟨g, 0, none⟩ = some (.slice A (lenS none) c) := hb.cell 0
  have c1 : w.cell? ⟨g, 1, none⟩ = some (.bool true) := hb.cell 1
  have c2 : w.cell? ⟨g, 2, none⟩ = some (.bool true) := hb.cell 2
  have f0 : w.frozen? ⟨g, 0, none⟩ = false := hb.frozen 0
  have f2 : w.frozen? ⟨g, 2, none⟩ = false := hb.frozen 2
  have Hfin := Lib.hid (cut_end w g d hne A _ c _ hb)
  clear hb hne
  go_enter Tryd.func35, Tryd.ntmps35
  go_wp2_with fail
  refine wp_scope_jumps 0 (AtPast w g) (fun _ _ => 0) rfl ?first ?pass
  case first =>
    go_wp2_with (go_at_call 36; refine (isNil_made _ _ _ c1).mono ?_; rintro e w' ⟨rfl, rfl⟩)
    go_step3
    exact ⟨rfl, rfl, _, _, _, _, _, _, _, _, _, _, _, _, _, _, _, _, _, _, _, _, _, _, _, _, _, _, _, _, _, _, _, _, _, _, _, _, _, _, _, _, _, _, _, _, _, _, _, _, _, rfl⟩
  case pass =>
    rintro a' w' ⟨rfl, u1, u2, u3, u4, u5, u6, u7, u8, u9, u10, u11, u12, u13, u14, u15, u16, u17, u18, u19, u20, u21, u22, u23, u24, u25, u26, u27, u28, u29, u30, u31, u32, u33, u34, u35, u36, u37, u38, u39, u40, u41, u42, u43, u44, u45, u46, u47, u48, u49, rfl⟩
    go_wp2
    simp only [Exit.jump]
    go_ret
    exact Hfin.out

set_option maxHeartbeats 400000 in
theorem cut_past (w : World) (g : Nat) (d : Option Nat) (l : List UInt8) (hR : Rd w g d (some l)) (n : Int) (hn : (l.length : Int) < n) :
    Calls Tryd.prog 35 #[.pointer (some ⟨g, 0, none⟩), .int .i64 n, .bool true] w (CutPost w g d [] none) := by
  obtain ⟨hne, A, c, hb, hc, hm, hs, ha⟩ := hR
  clear hs ha
  simp only [lenS, Option.getD_some, Option.isNone_some] at hb
  have c0 : w.cell? ⟨g, 0, none⟩ = some (.slice A l.length c) := hb.cell 0
  have c1 : w.cell? ⟨g, 1, none⟩ = some (.bool true) := hb.cell 1
  have c2 : w.cell? ⟨g, 2, none⟩ = some (.bool false) := hb.cell 2
  have f0 : w.frozen? ⟨g, 0, none⟩ = false := hb.frozen 0
  have f2 : w.frozen? ⟨g, 2, none⟩ = false := hb.frozen 2
  have Hfin := Lib.hid (cut_end w g d hne A _ c _ hb)
  clear hb hne
  go_enter Tryd.func35, Tryd.ntmps35
  go_wp2_with fail
  refine wp_scope_jumps 0 (AtPast w g) (fun _ _ => 0) rfl ?first ?pass
  case first =>
    go_wp2_with (go_at_call 36; refine (isNil_made _ _ _ c1).mono ?_; rintro e w' ⟨rfl, rfl⟩)
    go_step3
    exact ⟨rfl, rfl, _, _, _, _, _, _, _, _, _, _, _, _, _, _, _, _, _, _, _, _, _, _, _, _, _, _, _, _, _, _, _, _, _, _, _, _, _, _, _, _, _, _, _, _, _, _, _, _, _, rfl⟩
  case pass =>
    rintro a' w' ⟨rfl, u1, u2, u3, u4, u5, u6, u7, u8, u9, u10, u11, u12, u13, u14, u15, u16, u17, u18, u19, u20, u21, u22, u23, u24, u25, u26, u27, u28, u29, u30, u31, u32, u33, u34, u35, u36, u37, u38, u39, u40, u41, u42, u43, u44, u45, u46, u47, u48, u49, rfl⟩
    go_wp2
    simp only [Exit.jump]
    go_ret
    exact Hfin.out

/-- cut, of any reader. -/
theorem cut_s (w : World) (g : Nat) (d : Option Nat) (st : Option (List UInt8)) (hR : Rd w g d st) (n : Int) (m : Bool) (hm : m = true → 0 ≤ n) :
    Calls Tryd.prog 35 #[.pointer (some ⟨g, 0, none⟩), .int .i64 n, .bool m] w (CutPost w g d (cutPiece st n m) (cutRest st n m)) := by
  cases m with
  | false => simpa [cutPiece, cutRest, cutOk] using cut_not w g d st hR n
  | true =>
    cases st with
    | none => simpa [cutPiece, cutRest, cutOk] using cut_failed w g d hR n
    | some l =>
      by_cases h : n ≤ (l.length : Int)
      · obtain ⟨k, rfl⟩ := Int.eq_ofNat_of_zero_le (hm rfl)
        have h' : k ≤ l.length := by omega
        simpa [cutPiece, cutRest, cutOk, lenS, h'] using cut_ok w g d l hR k h'
      · simpa [cutPiece, cutRest, cutOk, lenS, h] using cut_past w g d l hR n (by omega)

/-- A reader that is not there: nil, or a zero one. -/
def NoRd (w : World) (p : Value) : Prop := p = .pointer none ∨ ∃ g, p = .pointer (some ⟨g, 0, none⟩) ∧ w.cell? ⟨g, 1, none⟩ = some (.bool false)
theorem isNil_no (w : World) (p : Value) (h : NoRd w p) : Calls Tryd.prog 36 #[p] w fun e w' => e = .returned (.bool true) ∧ w = w' := by
  rcases h with rfl | ⟨g, rfl, hc⟩
  · exact isNil_nil w
  · exact isNil_made w g false hc
set_option maxHeartbeats 400000 in
theorem cut_no (w : World) (p : Value) (h : NoRd w p) (n : Int) (m : Bool) : Calls Tryd.prog 35 #[p, .int .i64 n, .bool m] w fun e w' => e = .returned (.slice none 0 0) ∧ w = w' := by
  have H := Lib.hid h
  clear h
  go_enter Tryd.func35, Tryd.ntmps35
  go_wp2_with fail
  go_step3
  go_wp2_with (go_at_call 36; refine (isNil_no _ _ H.out).mono ?_; rintro e w' ⟨rfl, rfl⟩)
  rw [Exit.noGoto_ret]
  go_ret
  exact ⟨rfl, rfl⟩

set_option maxHeartbeats 400000 in
theorem rend_no (w : World) (p : Value) (h : NoRd w p) : Calls Tryd.prog 22 #[p] w fun e w' => e = .returned (.int .i64 1) ∧ w = w' := by
  have H := Lib.hid h
  clear h
  go_enter Tryd.func22, Tryd.ntmps22
  go_wp2_with (go_at_call 36; refine (isNil_no _ _ H.out).mono ?_; rintro e w' ⟨rfl, rfl⟩)
  go_ret
  exact ⟨rfl, rfl⟩
/-- What End answers. -/
def rend (st : Option (List UInt8)) : Int := if st = some [] then 0 else 4
set_option maxHeartbeats 400000 in
theorem rend_s (w : World) (g : Nat) (d : Option Nat) (st : Option (List UInt8)) (hR : Rd w g d st) : Calls Tryd.prog 22 #[.pointer (some ⟨g, 0, none⟩)] w fun e w' => e = .returned (.int .i64 (rend st)) ∧ w = w' := by
  obtain ⟨hne, A, c, hb, hc, hm, hs, ha⟩ := hR
  clear hs ha hne
  have c1 : w.cell? ⟨g, 1, none⟩ = some (.bool true) := hb.cell 1
  cases st with
  | none =>
    have c2 : w.cell? ⟨g, 2, none⟩ = some (.bool true) := hb.cell 2
    have HF : Hid (rend none = 4) := rfl
    go_enter Tryd.func22, Tryd.ntmps22
    go_wp2_with (go_at_call 36; refine (isNil_made _ _ _ c1).mono ?_; rintro e w' ⟨rfl, rfl⟩)
    go_ret
    rw [HF.out]
    exact ⟨rfl, rfl⟩
  | some l =>
    simp only [lenS, Option.getD_some, Option.isNone_some] at hb
    have c0 : w.cell? ⟨g, 0, none⟩ = some (.slice A l.length c) := hb.cell 0
    have c2 : w.cell? ⟨g, 2, none⟩ = some (.bool false) := hb.cell 2
    cases l with
    | nil =>
      have HF : Hid (rend (some []) = 0) := rfl
      go_enter Tryd.func22, Tryd.ntmps22
      go_wp2_with (go_at_call 36; refine (isNil_made _ _ _ c1).mono ?_; rintro e w' ⟨rfl, rfl⟩)
      go_ret
      rw [HF.out]
      exact ⟨rfl, rfl⟩
    | cons b l =>
      have HF : Hid (rend (some (b :: l)) = 4) := by show _ = _; simp [rend]
      have hl : (0 : Int) < (b :: l).length := by simp
      generalize (b :: l).length = n at *
      generalize (some (b :: l)) = st at *
      go_enter Tryd.func22, Tryd.ntmps22
      go_wp2_with (go_at_call 36; refine (isNil_made _ _ _ c1).mono ?_; rintro e w' ⟨rfl, rfl⟩)
      go_ret
      rw [HF.out]
      exact ⟨rfl, rfl⟩

end Go.Proofs.YtpfjkjogljilnaaDoor
namespace Go.Proofs.YtpfjkjogljilnaaDoor
open Go.RowKit

theorem cutPiece_le (st : Option (List UInt8)) (n : Int) (m : Bool) : (cutPiece st n m).length ≤ n.toNat := by
  unfold cutPiece
  split
  · exact List.length_take_le _ _
  · simp

theorem pow256 (k : Nat) : 256 ^ k = 2 ^ (8 * k) := by rw [Nat.pow_mul]
theorem or_add (N b k : Nat) (hN : N < 256 ^ k) : N ||| b * 256 ^ k = N + 256 ^ k * b := by
  rw [pow256] at hN ⊢
  rw [← Nat.shiftLeft_eq, Nat.or_comm, ← Nat.shiftLeft_add_eq_or_of_lt hN, Nat.shiftLeft_eq, Nat.mul_comm, Nat.add_comm]
/-- One round of Number's loop. -/
theorem num_step (N b k : Nat) (hN : N < 256 ^ k) (hb : b < 256) (hk : k < 8) :
    bits .or .u64 (N : Int) (IntKind.u64.wrap ((b : Int) * 2 ^ (8 * k))) = ((N + 256 ^ k * b : Nat) : Int) := by
  have h8 : 256 ^ (k + 1) ≤ 256 ^ 8 := Nat.pow_le_pow_right (by omega) (by omega)
  have h64 : (256 : Nat) ^ 8 = 18446744073709551616 := by decide
  have hbk : b * 256 ^ k < 256 ^ (k + 1) := by
    rw [Nat.pow_succ, Nat.mul_comm (256 ^ k)]
    exact Nat.mul_lt_mul_of_pos_right hb (Nat.pow_pos (by omega))
  have hkk : 256 ^ k ≤ 256 ^ (k + 1) := Nat.pow_le_pow_right (by omega) (by omega)
  have e2 : ((b : Int) * 2 ^ (8 * k)) = ((b * 256 ^ k : Nat) : Int) := by rw [pow256]; simp
  rw [e2]
  generalize hm : b * 256 ^ k = m at *
  have e3 : IntKind.u64.wrap (m : Int) = (m : Int) := by rw [IntKind.wrap_u64]; omega
  rw [e3, u64_or_nat N m (by omega) (by omega), ← hm, or_add N b k hN]
theorem ofLe_snoc (p : List UInt8) (k : Nat) (h : k < p.length) : ofLe (p.take (k + 1)) = ofLe (p.take k) + 256 ^ k * p[k].toNat := by
  rw [List.take_succ_eq_append_getElem h, ofLe_append, List.length_take, Nat.min_eq_left (by omega)]

/-- What Number answers. -/
def NumPost (w : World) (g : Nat) (d : Option Nat) (N : Nat) (st' : Option (List UInt8)) (e : Ending) (w' : World) : Prop :=
  e = .returned (.int .u64 N) ∧ Rd w' g d st' ∧ Keeps (· = g) w w' ∧ w'.heap.size = w.heap.size

set_option maxHeartbeats 400000 in
theorem rnumber_s (w : World) (g : Nat) (d : Option Nat) (st : Option (List UInt8)) (hR : Rd w g d st) (Z : Int) :
    Calls Tryd.prog 21 #[.pointer (some ⟨g, 0, none⟩), .int .i64 Z] w (NumPost w g d (ofLe (cutPiece st Z (may Z))) (cutRest st Z (may Z))) := by
  have HR := Lib.hid hR
  have hp8 : (cutPiece st Z (may Z)).length ≤ 8 := by
    have := cutPiece_le st Z (may Z)
    cases h : may Z with
    | false => simp [cutPiece, cutOk]
    | true => rw [h] at this; have := may_cases h; omega
  generalize hpe : cutPiece st Z (may Z) = p at hp8 ⊢
  generalize hse : cutRest st Z (may Z) = st' at *
  have Hpe := Lib.hid hpe
  have Hse := Lib.hid hse
  clear hR hpe hse
  go_enter Tryd.func21, Tryd.ntmps21
  go_wp2_with (first
    | (go_at_call 33; refine (maySize_any _ _).mono ?_; rintro e w' ⟨rfl, rfl⟩)
    | (go_at_call 35; refine (cut_s _ _ _ _ HR.out Z (may Z) (fun h => by have := may_cases h; omega)).mono ?_; rw [Hpe.out, Hse.out]; rintro e w1 ⟨A, c, rfl, hs1, ha1, hR1, hk1, hz1⟩; have Hs1 := Lib.hid hs1; have Hfin := Lib.hid (And.intro hR1 (And.intro hk1 hz1)); clear hs1 ha1 hR1 hk1 hz1))
  go_loop [5, 14] (fun n i => ∃ k N : Nat, k ≤ p.length ∧ i = .int .i64 k ∧ n = .int .u64 N ∧ Hid (N = ofLe (p.take k)) ∧ N < 256 ^ k) (fun _ i => p.length - (intOf i).toNat)
  case atStart => exact ⟨0, 0, Nat.zero_le _, rfl, rfl, rfl, by simp⟩
  case round =>
    obtain ⟨k, N, hk, rfl, rfl, HN, hlt⟩ := hrel
    by_cases hkl : k < p.length
    · obtain ⟨b, off, rfl, hb, hc⟩ := Hs1.out.at_ hkl
      have ck : w1.cell? ⟨b, off + k, none⟩ = some (.int .u8 (p[k].toNat : Int)) := hc k hkl
      clear hc
      have hb256 : p[k].toNat < 256 := p[k].toNat_lt
      have HT := Lib.hid (num_step N p[k].toNat k hlt hb256 (by omega))
      have HO := Lib.hid (ofLe_snoc p k hkl)
      have HL : Hid (N + 256 ^ k * p[k].toNat < 256 ^ (k + 1)) := by
        have h1 : 256 ^ k * p[k].toNat ≤ 256 ^ k * 255 := Nat.mul_le_mul_left _ (by omega)
        show _ < _
        rw [Nat.pow_succ]
        omega
      go_wp2
      go_round
      case rel => exact ⟨k + 1, N + 256 ^ k * p[k].toNat, by omega, by go_num, congrArg (Value.int .u64) HT.out, by show _ = _; rw [HO.out, HN.out], HL.out⟩
      case measure => simp [intOf]; omega
    · obtain rfl : k = p.length := by omega
      have HT : Hid (N = ofLe p) := by show _ = _; rw [HN.out, List.take_length]
      go_wp2
      go_ret
      obtain ⟨h1, h2, h3⟩ := Hfin.out
      exact ⟨by rw [← HT.out]; rfl, h1, h2, h3⟩

/-- What Bytes and Blob answer: a copy in new memory. -/
def PiecePost (w : World) (g : Nat) (d : Option Nat) (p : List UInt8) (st' : Option (List UInt8)) (e : Ending) (w' : World) : Prop :=
  ∃ A c, e = .returned (.slice A p.length c) ∧ w'.ownsRow w.heap.size 5 1 (.slice A p.length c) p.length (By p) ∧ Rd w' g d st' ∧ Keeps (· = g) w w'

theorem cutPiece_lt (st : Option (List UInt8)) (n : Int) (m : Bool) : (cutPiece st n m).length ≤ lenS st := by
  unfold cutPiece lenS
  split
  · exact List.length_take_le' _ _
  · simp

set_option maxHeartbeats 400000 in
theorem rcount_s (w : World) (g : Nat) (d : Option Nat) (st : Option (List UInt8)) (hR : Rd w g d st) :
    Calls Tryd.prog 19 #[.pointer (some ⟨g, 0, none⟩)] w fun e w' => e = .returned (.int .i64 (ofLe (cutPiece st 2 true))) ∧ Rd w' g d (cutRest st 2 true) ∧ Keeps (· = g) w w' ∧ w'.heap.size = w.heap.size := by
  have HR := Lib.hid hR
  have hN : ofLe (cutPiece st 2 true) < 65536 := by
    have h1 := ofLe_lt (cutPiece st 2 true)
    have h2 := cutPiece_le st 2 true
    have h3 : 256 ^ (cutPiece st 2 true).length ≤ 256 ^ 2 := Nat.pow_le_pow_right (by omega) h2
    omega
  generalize hNe : ofLe (cutPiece st 2 true) = N at hN ⊢
  generalize hse : cutRest st 2 true = st' at *
  have Hpe := Lib.hid hNe
  have Hse := Lib.hid hse
  clear hR hNe hse
  have hm2 : may 2 = true := rfl
  have Hm2 := Lib.hid hm2
  clear hm2
  go_enter Tryd.func19, Tryd.ntmps19
  go_wp2_with (go_at_call 21; refine (rnumber_s _ _ _ _ HR.out 2).mono ?_; rw [Hm2.out, Hpe.out, Hse.out]; rintro e w1 ⟨rfl, h1⟩; have H1 := Lib.hid h1; clear h1)
  go_ret
  obtain ⟨h1, h2, h3⟩ := H1.out
  exact ⟨rfl, h1, h2, h3⟩

/-- A blob's length, and whether it may be. -/
def blobN (st : Option (List UInt8)) : Nat := ofLe (cutPiece st 4 true)
def blobM (st : Option (List UInt8)) : Bool := decide (blobN st ≤ 16777216)
def blobPiece (st : Option (List UInt8)) : List UInt8 := cutPiece (cutRest st 4 true) (blobN st) (blobM st)
def blobRest (st : Option (List UInt8)) : Option (List UInt8) := cutRest (cutRest st 4 true) (blobN st) (blobM st)

theorem lenS_cutRest (st : Option (List UInt8)) (n : Int) (m : Bool) : lenS (cutRest st n m) ≤ lenS st := by
  unfold cutRest lenS
  split
  · simp
  · simp

set_option maxHeartbeats 400000 in
theorem rblob_s (w : World) (g : Nat) (d : Option Nat) (st : Option (List UInt8)) (hR : Rd w g d st) (hlen : lenS st ≤ 1099511627776) :
    Calls Tryd.prog 27 #[.pointer (some ⟨g, 0, none⟩)] w (PiecePost w g d (blobPiece st) (blobRest st)) := by
  have HR := Lib.hid hR
  have hN : blobN st < 4294967296 := by
    have h1 := ofLe_lt (cutPiece st 4 true)
    have h2 := cutPiece_le st 4 true
    have h3 : 256 ^ (cutPiece st 4 true).length ≤ 256 ^ 4 := Nat.pow_le_pow_right (by omega) h2
    unfold blobN
    omega
  have hpl : (blobPiece st).length ≤ lenS st := Nat.le_trans (cutPiece_lt _ _ _) (lenS_cutRest _ _ _)
  have Hp : Hid (cutPiece (cutRest st 4 true) (blobN st) (decide ((blobN st : Int) ≤ 16777216)) = blobPiece st) := by
    show _ = _
    unfold blobPiece blobM
    congr 1
    exact decide_eq_decide.2 (by omega)
  have Hs : Hid (cutRest (cutRest st 4 true) (blobN st) (decide ((blobN st : Int) ≤ 16777216)) = blobRest st) := by
    show _ = _
    unfold blobRest blobM
    congr 1
    exact decide_eq_decide.2 (by omega)
  generalize blobPiece st = p at *
  generalize blobRest st = st' at *
  have HN : Hid (ofLe (cutPiece st 4 true) = blobN st) := rfl
  generalize blobN st = N at *
  clear hR
  have Hm2 : Hid (may 4 = true) := rfl
  go_enter Tryd.func27, Tryd.ntmps27
  go_wp2_with (first
    | (go_at_call 21; refine (rnumber_s _ _ _ _ HR.out 4).mono ?_; rw [Hm2.out, HN.out]; rintro e w1 ⟨rfl, hR1, hk1, hz1⟩; have HR1 := Lib.hid hR1; have Hk1 := Lib.hid hk1; have Hz1 := Lib.hid hz1; clear hR1 hk1 hz1)
    | (go_at_call 35; refine (cut_s _ _ _ _ HR1.out N (decide ((N : Int) ≤ 16777216)) (fun _ => by omega)).mono ?_; rw [Hp.out, Hs.out]; rintro e w2 ⟨A, c, rfl, hs2, ha2, hR2, hk2, hz2⟩; have Hs2 := Lib.hid hs2; have HR2 := Lib.hid hR2; have Hk2 := Lib.hid hk2; have Hz2 := Lib.hid hz2; clear hs2 ha2 hR2 hk2 hz2)
    | (go_at_call 34; refine (clone_any _ _ _ _ _ p rfl Hs2.out (by omega)).mono ?_; rintro e w3 ⟨⟨A3, c3, rfl, ho3⟩, hb3⟩))
  go_ret
  rw [Hz2.out, Hz1.out] at ho3
  exact ⟨A3, c3, rfl, ho3, HR2.out.below hb3, (Hk1.out.trans Hk2.out).trans (Keeps.of_below hb3 _)⟩

/-- Read: a reader over a copy. -/
def ReadPost (w : World) (l : List UInt8) (e : Ending) (w' : World) : Prop :=
  ∃ g d, e = .returned (.pointer (some ⟨g, 0, none⟩)) ∧ w.heap.size ≤ g ∧ (∀ k, d = some k → w.heap.size ≤ k) ∧ Rd w' g d (some l) ∧ Below w.heap.size w w'
set_option maxHeartbeats 400000 in
theorem read_any (w : World) (Bx : Nat) (A : Option Addr) (n c : Nat) (x : List UInt8) (hn : n = x.length) (hx : Sees w Bx A x) (hlen : n ≤ 1099511627776) :
    Calls Tryd.prog 18 #[.slice A n c] w (ReadPost w x) := by
  have Hx := Lib.hid hx
  have Hn := Lib.hid hn
  clear hx hn
  go_enter Tryd.func18, Tryd.ntmps18
  go_wp2_with (go_at_call 34; refine (clone_any _ _ _ _ _ x Hn.out Hx.out (by omega)).mono ?_; rintro e w1 ⟨⟨A1, c1, rfl, ho1⟩, hb1⟩)
  go_ret
  obtain rfl := Hn.out
  have hb2 : Below w.heap.size w (w1.alloc (.cells #[.slice A1 x.length c1, .bool true, .bool false] 81)) := hb1.alloc hb1.size _
  have hs := (Sees.own ho1).alloc (.cells #[.slice A1 x.length c1, .bool true, .bool false] 81)
  refine ⟨w1.heap.size, A1.map (·.block), rfl, hb1.size, ?_, ⟨?_, A1, c1, by exact heap_alloc_new w1 _, ?_, ?_, hs.size, ?_⟩, hb2⟩
  · intro k hk
    cases A1 with
    | none => cases hk
    | some ad => obtain rfl : ad.block = k := by simpa using hk
                 exact (ho1.lt ad.block rfl).1
  · intro k hk
    cases A1 with
    | none => cases hk
    | some ad => obtain rfl : ad.block = k := by simpa using hk
                 have := (ho1.lt ad.block rfl).2
                 simp; omega
  · rcases ho1.2 with ⟨h, h0⟩ | ⟨g, cap, cur, hv, _, _, hnc, hcm, _⟩
    · simp [lenS, h0]
    · injection hv with _ _ hc; subst hc; simpa [lenS] using hnc
  · rcases ho1.2 with ⟨h, h0⟩ | ⟨g, cap, cur, hv, _, _, hnc, hcm, _⟩
    · injection h with _ _ hc; subst hc; simp [maxLen]
    · injection hv with _ _ hc; subst hc; exact hcm
  · intro ad e; subst e; rfl

end Go.Proofs.YtpfjkjogljilnaaDoor
namespace Go.Proofs.YtpfjkjogljilnaaDoor
open Go.RowKit

theorem hsize_over (p : List UInt8) : (Tryd.prog.info? 24).map (·.size) = some (By (over zero32 p 32)).toArray.size := by
  rw [Tryd.hsize, List.size_toArray, By_length]
  exact congrArg some (over_length zero32 p).symm
theorem size_over (p : List UInt8) : (By zero32).toArray.size = (By (over zero32 p 32)).toArray.size := by
  rw [List.size_toArray, By_length, List.size_toArray, By_length]
  exact (over_length zero32 p).symm
theorem Rd.lt {w : World} {g : Nat} {d : Option Nat} {st : Option (List UInt8)} (h : Rd w g d st) : g < w.heap.size := by
  obtain ⟨_, A, c, hb, _⟩ := h; exact hb.lt
/-- The second of two new blocks. -/
theorem Blk.second (w : World) (o : Obj) (t : TypeId) (cs : Array Value) : Blk ((w.alloc o).alloc (.cells cs t)).drew (w.heap.size + 1) t cs := by
  have := heap_alloc_new (w.alloc o) (.cells cs t)
  rw [World.size_alloc] at this
  exact this
/-- The first of two new blocks. -/
theorem Blk.first (w : World) (o : Obj) (t : TypeId) (cs : Array Value) : Blk ((w.alloc (.cells cs t)).alloc o).drew w.heap.size t cs := by
  have h1 : Blk (w.alloc (.cells cs t)) w.heap.size t cs := heap_alloc_new w _
  exact h1.alloc o
theorem below_two (w : World) (o o' : Obj) : Below w.heap.size w ((w.alloc o).alloc o').drew := (((Below.refl _ _).alloc (Nat.le_refl _) _).alloc (by simp) _).drew

set_option maxHeartbeats 400000 in
set_option maxRecDepth 100000 in
theorem rhash_s (w : World) (g : Nat) (d : Option Nat) (st : Option (List UInt8)) (hR : Rd w g d st) :
    Calls Tryd.prog 20 #[.pointer (some ⟨g, 0, none⟩)] w fun e w' => e = .returned (.agg (By (over zero32 (cutPiece st 32 true) 32)).toArray) ∧ Rd w' g d (cutRest st 32 true) ∧ Keeps (· = g) w w' := by
  have hg := hR.lt
  have Hd : Hid (∀ k, d = some k → k < w.heap.size) := fun k e => (hR.1 k e).2
  have HR := Lib.hid hR
  clear hR
  generalize hp : cutPiece st 32 true = p at *
  generalize hr : cutRest st 32 true = st' at *
  have Hp := Lib.hid hp
  have Hr := Lib.hid hr
  clear hp hr
  go_enter Tryd.func20, Tryd.ntmps20
  go_wp2
  go_region_law (first | (refine step_copy_sees rfl (.tmp 4) (.tmp 6) 28 28 rfl 5 Tryd.underlying28 Tryd.u8size (w.heap.size + 1) 32 32 (by simp [Act.eval]) 24 zero32 HB1.out (by simp [zero32]) A p.length c (by simp [Act.eval]) _ p Hs1.out rfl ?_; intro w4 h1 h2 h3) | (go_simp; go_at_call 35; refine (cut_s _ _ _ _ (HR.out.below (below_two w _ _)) 32 true (fun _ => by omega)).mono ?_; rw [Hp.out, Hr.out]; rintro e w1 ⟨A, c, rfl, hs1, ha1, hR1, hk1, hz1⟩; have Hs1 := Lib.hid hs1; have HB1 := Lib.hid ((Blk.second w _ 24 (By zero32).toArray).keeps hk1 (by omega)); have HB0 := Lib.hid ((Blk.first w _ 24 (By zero32).toArray).keeps hk1 (by omega)); have HR1 := Lib.hid hR1; have Hk1 := Lib.hid hk1; have Hz1 := Lib.hid hz1; clear hs1 ha1 hR1 hk1 hz1))
  have HB4 : Hid (Blk w4 w.heap.size 24 (By zero32).toArray) := HB0.out.keeps h2 (by omega)
  have HX := Lib.hid h1
  have Hk2 := Lib.hid h2
  have Hz2 := Lib.hid h3
  clear h1 h2 h3
  have HO := Lib.hid (hsize_over p)
  have HZ := Lib.hid (size_over p)
  go_wp2_with (first
    | ((with_reducible show wpList _ _ _ (⟨some 8, _, _, _, _, _⟩ :: _) _ _); refine wpList_load_row rfl 24 (.tmp 3) rfl (w.heap.size + 1) rfl 24 (By (over zero32 p 32)).toArray (0, 0) _ HX.out Tryd.underlying24 rfl HO.out ?_)
    | ((with_reducible show wpList _ _ _ (⟨none, _, _, _, _, _⟩ :: _) _ _); refine wpList_store_all rfl 24 (.tmp 2) (.tmp 8) rfl w.heap.size 24 (By zero32).toArray (By (over zero32 p 32)).toArray rfl rfl HB4.out HZ.out HO.out (By_one _) ?_; intro w5 h5 h6 h7; have H5 := Lib.hid h5; have H6 := Lib.hid h6; have H7 := Lib.hid h7; clear h5 h6 h7))
  refine bodyPost_ret (results_cell_row Tryd.results20 _ _ w.heap.size 24 _ (0, 0) _ rfl H5.out Tryd.underlying24 rfl HO.out) rfl ⟨rfl, ?_, ?_⟩
  · exact (HR1.out.keeps Hk2.out (by omega) (fun k e => by have := Hd.out k e; omega)).keeps H6.out (by omega) (fun k e => by have := Hd.out k e; omega)
  · have k1 : Keeps (· = g) w w1 := (Keeps.of_below (below_two w _ _) _).trans Hk1.out
    have z1 : w.heap.size + 2 = w1.heap.size := by have := Hz1.out; simp at this; omega
    exact ⟨H6.out.os.trans (Hk2.out.os.trans k1.os), H6.out.tape.trans (Hk2.out.tape.trans k1.tape), H6.out.output.trans (Hk2.out.output.trans k1.output), by have := H7.out; have := Hz2.out; omega,
      fun k hk hn => (H6.out.block k (by have := Hz2.out; omega) (by omega)).trans ((Hk2.out.block k (by omega) (by omega)).trans (k1.block k hk hn))⟩

end Go.Proofs.YtpfjkjogljilnaaDoor
