/-
  The readers of package wire: what each call does, the second part.
-/
import Derived.Test.YtlepajddekblcaaDoorRd
import Derived.ScopeJumps
namespace Go.Proofs.YtlepajddekblcaaDoor
open Go.RowKit

theorem cut_end (w : World) (g : Nat) (d : Option Nat) (hne : ∀ k, d = some k → k ≠ g ∧ k < w.heap.size) (A : Option Addr) (n c : Nat) (b : Bool) (hb : Blk w g 134 #[.slice A n c, .bool true, .bool b]) :
    CutPost w g d [] none (.returned (.slice none 0 0)) ((w.setCell ⟨g, 0, none⟩ (.slice none 0 0)).setCell ⟨g, 2, none⟩ (.bool true)) := by
  refine ⟨none, 0, rfl, .inl rfl, (fun ad e => by cases e), ⟨fun k e => ⟨(hne k e).1, by simpa using (hne k e).2⟩, none, 0, ?_, by simp [lenS], by simp [maxLen], .inl rfl, (fun ad e => by cases e)⟩, ((Keeps.refl _ _).setCell (by exact rfl) _).setCell (by exact rfl) _, by simp⟩
  simpa [lenS] using (hb.set 0 (.slice none 0 0)).set 2 (.bool true)

/-- What holds where cut comes to its label. -/
def AtPast (w : World) (g : Nat) (a' : Act) (w' : World) : Prop := w' = w ∧ ∃ u1 u2 u3 u4 u5 u6 u7 u8 u9 u10 u11 u12 u13 u14 u15 u16 u17 u18 u19 u20 u21 u22 u23 u24 u25 u26 u27 u28 u29 u30 u31 u32 u33 u34 u35 u36 u37 u38 u39 u40 u41 u42 u43 u44 u45 u46 u47 u48 u49 : Value, a' = { tmps := #[.pointer (some ⟨g, 0, none⟩), u1, u2, u3, u4, u5, u6, u7, u8, u9, u10, u11, u12, u13, u14, u15, u16, u17, u18, u19, u20, u21, u22, u23, u24, u25, u26, u27, u28, u29, u30, u31, u32, u33, u34, u35, u36, u37, u38, u39, u40, u41, u42, u43, u44, u45, u46, u47, u48, u49], defers := [] }

set_option maxHeartbeats 400000 in
theorem cut_not (w : World) (g : Nat) (d : Option Nat) (st : Option (List UInt8)) (hR : Rd w g d st) (n : Int) :
    Calls Tryd.prog 79 #[.pointer (some ⟨g, 0, none⟩), .int .i64 n, .bool false] w (CutPost w g d [] none) := by
  obtain ⟨hne, A, c, hb, hc, hm, hs, ha⟩ := hR
  clear hs ha
  have c0 : w.cell? ⟨g, 0, none⟩ = some (.slice A (lenS st) c) := hb.cell 0
  have c1 : w.cell? ⟨g, 1, none⟩ = some (.bool true) := hb.cell 1
  have c2 : w.cell? ⟨g, 2, none⟩ = some (.bool st.isNone) := hb.cell 2
  have f0 : w.frozen? ⟨g, 0, none⟩ = false := hb.frozen 0
  have f2 : w.frozen? ⟨g, 2, none⟩ = false := hb.frozen 2
  have Hfin := Lib.hid (cut_end w g d hne A _ c _ hb)
  clear hb hne
  go_enter Tryd.func79, Tryd.ntmps79
  go_wp2_with fail
  refine wp_scope_jumps 0 (AtPast w g) (fun _ _ => 0) rfl ?first ?pass
  case first =>
    go_wp2_with (go_at_call 91; refine (isNil_made _ _ _ c1).mono ?_; rintro e w' ⟨rfl, rfl⟩)
    go_step3
    exact ⟨rfl, rfl, _, _, _, _, _, _, _, _, _, _, _, _, _, _, _, _, _, _, _, _, _, _, _, _, _, _, _, _, _, _, _, _, _, _, _, _, _, _, _, _, _, _, _, _, _, _, _, _, _, rfl⟩
  case pass =>
    rintro a' w' ⟨rfl, u1, u2, u3, u4, u5, u6, u7, u8, u9, u10, u11, u12, u13, u14, u15, u16, u17, u18, u19, u20, u21, u22, u23, u24, u25, u26, u27, u28, u29, u30, u31, u32, u33, u34, u35, u36, u37, u38, u39, u40, u41, u42, u43, u44, u45, u46, u47, u48, u49, rfl⟩
    go_wp2
    simp only [Exit.jump]
    go_ret
    exact Hfin.out

set_option maxHeartbeats 400000 in
theorem cut_failed (w : World) (g : Nat) (d : Option Nat) (hR : Rd w g d none) (n : Int) :
    Calls Tryd.prog 79 #[.pointer (some ⟨g, 0, none⟩), .int .i64 n, .bool true] w (CutPost w g d [] none) := by
  obtain ⟨hne, A, c, hb, hc, hm, hs, ha⟩ := hR
  clear hs ha
  have c0 : w.cell? ⟨g, 0, none⟩ = some (.slice A (lenS none) c) := hb.cell 0
  have c1 : w.cell? ⟨g, 1, none⟩ = some (.bool true) := hb.cell 1
  have c2 : w.cell? ⟨g, 2, none⟩ = some (.bool true) := hb.cell 2
  have f0 : w.frozen? ⟨g, 0, none⟩ = false := hb.frozen 0
  have f2 : w.frozen? ⟨g, 2, none⟩ = false := hb.frozen 2
  have Hfin := Lib.hid (cut_end w g d hne A _ c _ hb)
  clear hb hne
  go_enter Tryd.func79, Tryd.ntmps79
  go_wp2_with fail
  refine wp_scope_jumps 0 (AtPast w g) (fun _ _ => 0) rfl ?first ?pass
  case first =>
    go_wp2_with (go_at_call 91; refine (isNil_made _ _ _ c1).mono ?_; rintro e w' ⟨rfl, rfl⟩)
    go_step3
    exact ⟨rfl, rfl, _, _, _, _, _, _, _, _, _, _, _, _, _, _, _, _, _, _, _, _, _, _, _, _, _, _, _, _, _, _, _, _, _, _, _, _, _, _, _, _, _, _, _, _, _, _, _, _, _, rfl⟩
  case pass =>
    rintro a' w' ⟨rfl, u1, u2, u3, u4, u5, u6, u7, u8, u9, u10, u11, u12, u13, u14, u15, u16, u17, u18, u19, u20, u21, u22, u23, u24, u25, u26, u27, u28, u29, u30, u31, u32, u33, u34, u35, u36, u37, u38, u39, u40, u41, u42, u43, u44, u45, u46, u47, u48, u49, rfl⟩
    go_wp2
    simp only [Exit.jump]
    go_ret
    exact Hfin.out

set_option maxHeartbeats 400000 in
theorem cut_past (w : World) (g : Nat) (d : Option Nat) (l : List UInt8) (hR : Rd w g d (some l)) (n : Int) (hn : (l.length : Int) < n) :
    Calls Tryd.prog 79 #[.pointer (some ⟨g, 0, none⟩), .int .i64 n, .bool true] w (CutPost w g d [] none) := by
  obtain ⟨hne, A, c, hb, hc, hm, hs, ha⟩ := hR
  clear hs ha
  simp only [lenS, Option.getD_some, Option.isNone_some] at hb
  have c0 : w.cell? ⟨g, 0, none⟩ = some (.slice A l.length c) := hb.cell 0
  have c1 : w.cell? ⟨g, 1, none⟩ = some (.bool true) := hb.cell 1
  have c2 : w.cell? ⟨g, 2, none⟩ = some (.bool false) := hb.cell 2
  have f0 : w.frozen? ⟨g, 0, none⟩ = false := hb.frozen 0
  have f2 : w.frozen? ⟨g, 2, none⟩ = false := hb.frozen 2
  have Hfin := Lib.hid (cut_end w g d hne A _ c _ hb)
  clear hb hne
  go_enter Tryd.func79, Tryd.ntmps79
  go_wp2_with fail
  refine wp_scope_jumps 0 (AtPast w g) (fun _ _ => 0) rfl ?first ?pass
  case first =>
    go_wp2_with (go_at_call 91; refine (isNil_made _ _ _ c1).mono ?_; rintro e w' ⟨rfl, rfl⟩)
    go_step3
    exact ⟨rfl, rfl, _, _, _, _, _, _, _, _, _, _, _, _, _, _, _, _, _, _, _, _, _, _, _, _, _, _, _, _, _, _, _, _, _, _, _, _, _, _, _, _, _, _, _, _, _, _, _, _, _, rfl⟩
  case pass =>
    rintro a' w' ⟨rfl, u1, u2, u3, u4, u5, u6, u7, u8, u9, u10, u11, u12, u13, u14, u15, u16, u17, u18, u19, u20, u21, u22, u23, u24, u25, u26, u27, u28, u29, u30, u31, u32, u33, u34, u35, u36, u37, u38, u39, u40, u41, u42, u43, u44, u45, u46, u47, u48, u49, rfl⟩
    go_wp2
    simp only [Exit.jump]
    go_ret
    exact Hfin.out

/-- cut, of any reader. -/
theorem cut_s (w : World) (g : Nat) (d : Option Nat) (st : Option (List UInt8)) (hR : Rd w g d st) (n : Int) (m : Bool) (hm : m = true → 0 ≤ n) :
    Calls Tryd.prog 79 #[.pointer (some ⟨g, 0, none⟩), .int .i64 n, .bool m] w (CutPost w g d (cutPiece st n m) (cutRest st n m)) := by
  cases m with
  | false => simpa [cutPiece, cutRest, cutOk] using cut_not w g d st hR n
  | true =>
    cases st with
    | none => simpa [cutPiece, cutRest, cutOk] using cut_failed w g d hR n
    | some l =>
      by_cases h : n ≤ (l.length : Int)
      · obtain ⟨k, rfl⟩ := Int.eq_ofNat_of_zero_le (hm rfl)
        have h' : k ≤ l.length := by omega
        simpa [cutPiece, cutRest, cutOk, lenS, h'] using cut_ok w g d l hR k h'
      · simpa [cutPiece, cutRest, cutOk, lenS, h] using cut_past w g d l hR n (by omega)

/-- A reader that is not there: nil, or a zero one. -/
def NoRd (w : World) (p : Value) : Prop := p = .pointer none ∨ ∃ g, p = .pointer (some ⟨g, 0, none⟩) ∧ w.cell? ⟨g, 1, none⟩ = some (.bool false)
theorem isNil_no (w : World) (p : Value) (h : NoRd w p) : Calls Tryd.prog 91 #[p] w fun e w' => e = .returned (.bool true) ∧ w = w' := by
  rcases h with rfl | ⟨g, rfl, hc⟩
  · exact isNil_nil w
  · exact isNil_made w g false hc
set_option maxHeartbeats 400000 in
theorem cut_no (w : World) (p : Value) (h : NoRd w p) (n : Int) (m : Bool) : Calls Tryd.prog 79 #[p, .int .i64 n, .bool m] w fun e w' => e = .returned (.slice none 0 0) ∧ w = w' := by
  have H := Lib.hid h
  clear h
  go_enter Tryd.func79, Tryd.ntmps79
  go_wp2_with fail
  go_step3
  go_wp2_with (go_at_call 91; refine (isNil_no _ _ H.out).mono ?_; rintro e w' ⟨rfl, rfl⟩)
  rw [Exit.noGoto_ret]
  go_ret
  exact ⟨rfl, rfl⟩

/-- What End answers. -/
def rend (st : Option (List UInt8)) : Int := if st = some [] then 0 else 4
end Go.Proofs.YtlepajddekblcaaDoor
