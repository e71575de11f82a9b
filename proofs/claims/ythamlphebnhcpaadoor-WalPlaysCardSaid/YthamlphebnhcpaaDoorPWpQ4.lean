/-
  The readers of package wire: what each call does.
  The readers of package wire: what each call does, the second part.
  The readers of package wire: numbers, bytes, blobs, counts, hashes.
-/
import Derived.Test.YthamlphebnhcpaaDoorWr2
import Derived.ScopeJumps
namespace Go.Proofs.YthamlphebnhcpaaDoor
open Go.RowKit

/-- A reader at block g over bytes in block d: what is left, or none: it failed. -/
def Rd (w : World) (g : Nat) (d : Option Nat) (st : Option (List UInt8)) : Prop :=
  (∀ k, d = some k → k ≠ g ∧ k < w.heap.size) ∧ ∃ A c, Blk w g 128 #[.slice A (lenS st) c, .bool true, .bool st.isNone] ∧ lenS st ≤ c ∧ c ≤ maxLen ∧ Sees w w.heap.size A (st.getD []) ∧ ∀ ad, A = some ad → d = some ad.block

theorem Rd.keeps {w w' : World} {S : Nat → Prop} {g : Nat} {d : Option Nat} {st : Option (List UInt8)} (h : Rd w g d st) (hk : Keeps S w w') (hg : ¬ S g) (hd : ∀ k, d = some k → ¬ S k) : Rd w' g d st := by
  obtain ⟨hne, A, c, hb, hc, hm, hs, ha⟩ := h
  exact ⟨fun k e => ⟨(hne k e).1, Nat.lt_of_lt_of_le (hne k e).2 hk.size⟩, A, c, hb.keeps hk hg, hc, hm, (hs.keeps hk (fun ad e _ => hd _ (ha ad e))).size, ha⟩
theorem Rd.below {w w' : World} {g : Nat} {d : Option Nat} {st : Option (List UInt8)} (h : Rd w g d st) (hk : Below w.heap.size w w') : Rd w' g d st := by
  obtain ⟨hne, A, c, hb, hc, hm, hs, ha⟩ := h
  exact ⟨fun k e => ⟨(hne k e).1, Nat.lt_of_lt_of_le (hne k e).2 hk.size⟩, A, c, hb.below hk hb.lt, hc, hm, (hs.later hk).size, ha⟩

set_option maxHeartbeats 400000 in
theorem isNil_nil (w : World) : Calls Tryd.prog 85 #[.pointer none] w fun e w' => e = .returned (.bool true) ∧ w = w' := by
  go_enter Tryd.func85, Tryd.ntmps85
  go_wp2
  go_ret
  exact ⟨rfl, rfl⟩
set_option maxHeartbeats 400000 in
theorem isNil_made (w : World) (g : Nat) (b : Bool) (hc : w.cell? ⟨g, 1, none⟩ = some (.bool b)) : Calls Tryd.prog 85 #[.pointer (some ⟨g, 0, none⟩)] w fun e w' => e = .returned (.bool (!b)) ∧ w = w' := by
  cases b with
  | true =>
    go_enter Tryd.func85, Tryd.ntmps85
    go_wp2
    go_ret
    exact ⟨rfl, rfl⟩
  | false =>
    go_enter Tryd.func85, Tryd.ntmps85
    go_wp2
    go_ret
    exact ⟨rfl, rfl⟩

/-- Can so many bytes be cut off? -/
def cutOk (st : Option (List UInt8)) (n : Int) (m : Bool) : Bool := m && st.isSome && decide (n ≤ (lenS st : Int))
def cutPiece (st : Option (List UInt8)) (n : Int) (m : Bool) : List UInt8 := if cutOk st n m then (st.getD []).take n.toNat else []
def cutRest (st : Option (List UInt8)) (n : Int) (m : Bool) : Option (List UInt8) := if cutOk st n m then some ((st.getD []).drop n.toNat) else none

/-- What cut answers: a piece that shows bytes of block d, and the reader behind it. -/
def CutPost (w : World) (g : Nat) (d : Option Nat) (p : List UInt8) (st' : Option (List UInt8)) (e : Ending) (w' : World) : Prop :=
  ∃ A c, e = .returned (.slice A p.length c) ∧ Sees w' w'.heap.size A p ∧ (∀ ad, A = some ad → d = some ad.block) ∧ Rd w' g d st' ∧ Keeps (· = g) w w' ∧ w'.heap.size = w.heap.size

set_option maxHeartbeats 400000 in
theorem cut_ok (w : World) (g : Nat) (d : Option Nat) (l : List UInt8) (hR : Rd w g d (some l)) (n : Nat) (hn : n ≤ l.length) :
    Calls Tryd.prog 79 #[.pointer (some ⟨g, 0, none⟩), .int .i64 n, .bool true] w (CutPost w g d (l.take n) (some (l.drop n))) := by
  obtain ⟨hne, A, c, hb, hc, hm, hs, ha⟩ := hR
  simp only [lenS, Option.getD_some, Option.isNone_some] at hb hc hs
  unfold maxLen at hm
  have c0 : w.cell? ⟨g, 0, none⟩ = some (.slice A l.length c) := hb.cell 0
  have c1 : w.cell? ⟨g, 1, none⟩ = some (.bool true) := hb.cell 1
  have c2 : w.cell? ⟨g, 2, none⟩ = some (.bool false) := hb.cell 2
  have f0 : w.frozen? ⟨g, 0, none⟩ = false := hb.frozen 0
  have hnc : n ≤ c := by omega
  have hn' : ¬ (l.length : Int) < n := by omega
  have hn2 : (n : Int) ≤ l.length := by omega
  have hn3 : (l.length : Int) ≤ c := by omega
  have HS := Lib.hid hs
  have HA := Lib.hid ha
  have Hne := Lib.hid hne
  clear hs ha hne
  by_cases hcn : c = n
  · obtain rfl : n = l.length := by omega
    subst hcn
    go_enter Tryd.func79, Tryd.ntmps79
    go_wp2_with fail
    go_step3
    go_wp2_with (go_at_call 85; refine (isNil_made _ _ _ c1).mono ?_; rintro e w' ⟨rfl, rfl⟩)
    rw [Exit.noGoto_ret]
    go_ret
    refine ⟨A, l.length, rfl, ?_, HA.out, ⟨fun k e => ⟨(Hne.out k e).1, by simpa using (Hne.out k e).2⟩, A, 0, ?_, ?_, ?_, ?_, HA.out⟩, (Keeps.refl _ _).setCell (by exact rfl) _, by simp⟩
    · exact (HS.out.keeps ((Keeps.refl (· = g) w).setCell (by exact rfl) _) (fun ad e _ => (Hne.out _ (HA.out ad e)).1)).size
    · simpa [lenS] using hb.set 0 (.slice A 0 0)
    · simp [lenS]
    · simp [maxLen]
    · exact .inl rfl
  · go_enter Tryd.func79, Tryd.ntmps79
    go_wp2_with fail
    go_step3
    go_wp2_with (go_at_call 85; refine (isNil_made _ _ _ c1).mono ?_; rintro e w' ⟨rfl, rfl⟩)
    rw [Exit.noGoto_ret]
    go_ret
    have hks : Keeps (· = g) w (w.setCell ⟨g, 0, none⟩ (.slice (A.map (·.add n)) (l.length - n) (c - n))) := (Keeps.refl _ _).setCell (by exact rfl) _
    have hss := HS.out.keeps hks (fun ad e _ => (Hne.out _ (HA.out ad e)).1)
    refine ⟨A, n, ?_, ?_, HA.out, ⟨fun k e => ⟨(Hne.out k e).1, by simpa using (Hne.out k e).2⟩, A.map (·.add n), c - n, ?_, ?_, ?_, ?_, ?_⟩, hks, by simp⟩
    · rw [List.length_take, Nat.min_eq_left hn]; rfl
    · exact (hss.take n).size
    · simpa [lenS] using hb.set 0 (.slice (A.map (·.add n)) (l.length - n) (c - n))
    · simp [lenS]; omega
    · simp [maxLen]; omega
    · exact (hss.drop n).size
    · intro ad e
      rcases A with _ | a
      · simp at e
      · simp at e
        rw [← e]
        have := HA.out a rfl
        rw [this]
        unfold Addr.add
        split <;> rfl

end Go.Proofs.YthamlphebnhcpaaDoor

namespace Go.Proofs.YthamlphebnhcpaaDoor
open Go.RowKit

theorem cut_end (w : World) (g : Nat) (d : Option Nat) (hne : ∀ k, d = some k → k ≠ g ∧ k < w.heap.size) (A : Option Addr) (n c : Nat) (b : Bool) (hb : Blk w g 128 #[.slice A n c, .bool true, .bool b]) :
    CutPost w g d [] none (.returned (.slice none 0 0)) ((w.setCell ⟨g, 0, none⟩ (.slice none 0 0)).setCell ⟨g, 2, none⟩ (.bool true)) := by
  refine ⟨none, 0, rfl, .inl rfl, (fun ad e => by cases e), ⟨fun k e => ⟨(hne k e).1, by simpa using (hne k e).2⟩, none, 0, ?_, by simp [lenS], by simp [maxLen], .inl rfl, (fun ad e => by cases e)⟩, ((Keeps.refl _ _).setCell (by exact rfl) _).setCell (by exact rfl) _, by simp⟩
  simpa [lenS] using (hb.set 0 (.slice none 0 0)).set 2 (.bool true)

/-- What holds where cut comes to its label. -/
def AtPast (w : World) (g : Nat) (a' : Act) (w' : World) : Prop := w' = w ∧ ∃ u1 u2 u3 u4 u5 u6 u7 u8 u9 u10 u11 u12 u13 u14 u15 u16 u17 u18 u19 u20 u21 u22 u23 u24 u25 u26 u27 u28 u29 u30 u31 u32 u33 u34 u35 u36 u37 u38 u39 u40 u41 u42 u43 u44 u45 u46 u47 u48 u49 : Value, a' = { tmps := #[.pointer (some ⟨g, 0, none⟩), u1, u2, u3, u4, u5, u6, u7, u8, u9, u10, u11, u12, u13, u14, u15, u16, u17, u18, u19, u20, u21, u22, u23, u24, u25, u26, u27, u28, u29, u30, u31, u32, u33, u34, u35, u36, u37, u38, u39, u40, u41, u42, u43, u44, u45, u46, u47, u48, u49], defers := [] }

set_option maxHeartbeats 400000 in
theorem cut_not (w : World) (g : Nat) (d : Option Nat) (st : Option (List UInt8)) (hR : Rd w g d st) (n : Int) :
    Calls Tryd.prog 79 #[.pointer (some ⟨g, 0, none⟩), .int .i64 n, .bool false] w (CutPost w g d [] none) := by
  obtain ⟨hne, A, c, hb, hc, hm, hs, ha⟩ := hR
  clear hs ha
  have c0 : w.cell? ⟨g, 0, none⟩ = some (.slice A (lenS st) c) := hb.cell 0
  have c1 : w.cell? ⟨g, 1, none⟩ = some (.bool true) := hb.cell 1
  have c2 : w.cell? ⟨g, 2, none⟩ = some (.bool st.isNone) := hb.cell 2
  have f0 : w.frozen? ⟨g, 0, none⟩ = false := hb.frozen 0
  have f2 : w.frozen? ⟨g, 2, none⟩ = false := hb.frozen 2
  have Hfin := Lib.hid (cut_end w g d hne A _ c _ hb)
  clear hb hne
  go_enter Tryd.func79, Tryd.ntmps79
  go_wp2_with fail
  refine wp_scope_jumps 0 (AtPast w g) (fun _ _ => 0) rfl ?first ?pass
  case first =>
    go_wp2_with (go_at_call 85; refine (isNil_made _ _ _ c1).mono ?_; rintro e w' ⟨rfl, rfl⟩)
    go_step3
    exact ⟨rfl, rfl, _, _, _, _, _, _, _, _, _, _, _, _, _, _, _, _, _, _, _, _, _, _, _, _, _, _, _, _, _, _, _, _, _, _, _, _, _, _, _, _, _, _, _, _, _, _, _, _, _, rfl⟩
  case pass =>
    rintro a' w' ⟨rfl, u1, u2, u3, u4, u5, u6, u7, u8, u9, u10, u11, u12, u13, u14, u15, u16, u17, u18, u19, u20, u21, u22, u23, u24, u25, u26, u27, u28, u29, u30, u31, u32, u33, u34, u35, u36, u37, u38, u39, u40, u41, u42, u43, u44, u45, u46, u47, u48, u49, rfl⟩
    go_wp2
    simp only [Exit.jump]
    go_ret
    exact Hfin.out

set_option maxHeartbeats 400000 in
theorem cut_failed (w : World) (g : Nat) (d : Option Nat) (hR : Rd w g d none) (n : Int) :
    Calls Tryd.prog 79 #[.pointer (some ⟨g, 0, none⟩), .int .i64 n, .bool true] w (CutPost w g d [] none) := by
  obtain ⟨hne, A, c, hb, hc, hm, hs, ha⟩ := hR
  clear hs ha
  have c0 : w.cell? ⟨g, 0, none⟩ = some (.slice A (lenS none) c) := hb.cell 0
  have c1 : w.cell? ⟨g, 1, none⟩ = some (.bool true) := hb.cell 1
  have c2 : w.cell? ⟨g, 2, none⟩ = some (.bool true) := hb.cell 2
  have f0 : w.frozen? ⟨g, 0, none⟩ = false := hb.frozen 0
  have f2 : w.frozen? ⟨g, 2, none⟩ = false := hb.frozen 2
  have Hfin := Lib.hid (cut_end w g d hne A _ c _ hb)
  clear hb hne
  go_enter Tryd.func79, Tryd.ntmps79
  go_wp2_with fail
  refine wp_scope_jumps 0 (AtPast w g) (fun _ _ => 0) rfl ?first ?pass
  case first =>
    go_wp2_with (go_at_call 85; refine (isNil_made _ _ _ c1).mono ?_; rintro e w' ⟨rfl, rfl⟩)
    go_step3
    exact ⟨rfl, rfl, _, _, _, _, _, _, _, _, _, _, _, _, _, _, _, _, _, _, _, _, _, _, _, _, _, _, _, _, _, _, _, _, _, _, _, _, _, _, _, _, _, _, _, _, _, _, _, _, _, rfl⟩
  case pass =>
    rintro a' w' ⟨rfl, u1, u2, u3, u4, u5, u6, u7, u8, u9, u10, u11, u12, u13, u14, u15, u16, u17, u18, u19, u20, u21, u22, u23, u24, u25, u26, u27, u28, u29, u30, u31, u32, u33, u34, u35, u36, u37, u38, u39, u40, u41, u42, u43, u44, u45, u46, u47, u48, u49, rfl⟩
    go_wp2
    simp only [Exit.jump]
    go_ret
    exact Hfin.out

set_option maxHeartbeats 400000 in
theorem cut_past (w : World) (g : Nat) (d : Option Nat) (l : List UInt8) (hR : Rd w g d (some l)) (n : Int) (hn : (l.length : Int) < n) :
    Calls Tryd.prog 79 #[.pointer (some ⟨g, 0, none⟩), .int .i64 n, .bool true] w (CutPost w g d [] none) := by
  obtain ⟨hne, A, c, hb, hc, hm, hs, ha⟩ := hR
  clear hs ha
  simp only [lenS, Option.getD_some, Option.isNone_some] at hb
  have c0 : w.cell? ⟨g, 0, none⟩ = some (.slice A l.length c) := hb.cell 0
  have c1 : w.cell? ⟨g, 1, none⟩ = some (.bool true) := hb.cell 1
  have c2 : w.cell? ⟨g, 2, none⟩ = some (.bool false) := hb.cell 2
  have f0 : w.frozen? ⟨g, 0, none⟩ = false := hb.frozen 0
  have f2 : w.frozen? ⟨g, 2, none⟩ = false := hb.frozen 2
  have Hfin := Lib.hid (cut_end w g d hne A _ c _ hb)
  clear hb hne
  go_enter Tryd.func79, Tryd.ntmps79
  go_wp2_with fail
  refine wp_scope_jumps 0 (AtPast w g) (fun _ _ => 0) rfl ?first ?pass
  case first =>
    go_wp2_with (go_at_call 85; refine (isNil_made _ _ _ c1).mono ?_; rintro e w' ⟨rfl, rfl⟩)
    go_step3
    exact ⟨rfl, rfl, _, _, _, _, _, _, _, _, _, _, _, _, _, _, _, _, _, _, _, _, _, _, _, _, _, _, _, _, _, _, _, _, _, _, _, _, _, _, _, _, _, _, _, _, _, _, _, _, _, rfl⟩
  case pass =>
    rintro a' w' ⟨rfl, u1, u2, u3, u4, u5, u6, u7, u8, u9, u10, u11, u12, u13, u14, u15, u16, u17, u18, u19, u20, u21, u22, u23, u24, u25, u26, u27, u28, u29, u30, u31, u32, u33, u34, u35, u36, u37, u38, u39, u40, u41, u42, u43, u44, u45, u46, u47, u48, u49, rfl⟩
    go_wp2
    simp only [Exit.jump]
    go_ret
    exact Hfin.out

/-- cut, of any reader. -/
theorem cut_s (w : World) (g : Nat) (d : Option Nat) (st : Option (List UInt8)) (hR : Rd w g d st) (n : Int) (m : Bool) (hm : m = true → 0 ≤ n) :
    Calls Tryd.prog 79 #[.pointer (some ⟨g, 0, none⟩), .int .i64 n, .bool m] w (CutPost w g d (cutPiece st n m) (cutRest st n m)) := by
  cases m with
  | false => simpa [cutPiece, cutRest, cutOk] using cut_not w g d st hR n
  | true =>
    cases st with
    | none => simpa [cutPiece, cutRest, cutOk] using cut_failed w g d hR n
    | some l =>
      by_cases h : n ≤ (l.length : Int)
      · obtain ⟨k, rfl⟩ := Int.eq_ofNat_of_zero_le (hm rfl)
        have h' : k ≤ l.length := by omega
        simpa [cutPiece, cutRest, cutOk, lenS, h'] using cut_ok w g d l hR k h'
      · simpa [cutPiece, cutRest, cutOk, lenS, h] using cut_past w g d l hR n (by omega)

/-- A reader that is not there: nil, or a zero one. -/
def NoRd (w : World) (p : Value) : Prop := p = .pointer none ∨ ∃ g, p = .pointer (some ⟨g, 0, none⟩) ∧ w.cell? ⟨g, 1, none⟩ = some (.bool false)
theorem isNil_no (w : World) (p : Value) (h : NoRd w p) : Calls Tryd.prog 85 #[p] w fun e w' => e = .returned (.bool true) ∧ w = w' := by
  rcases h with rfl | ⟨g, rfl, hc⟩
  · exact isNil_nil w
  · exact isNil_made w g false hc
set_option maxHeartbeats 400000 in
theorem cut_no (w : World) (p : Value) (h : NoRd w p) (n : Int) (m : Bool) : Calls Tryd.prog 79 #[p, .int .i64 n, .bool m] w fun e w' => e = .returned (.slice none 0 0) ∧ w = w' := by
  have H := Lib.hid h
  clear h
  go_enter Tryd.func79, Tryd.ntmps79
  go_wp2_with fail
  go_step3
  go_wp2_with (go_at_call 85; refine (isNil_no _ _ H.out).mono ?_; rintro e w' ⟨rfl, rfl⟩)
  rw [Exit.noGoto_ret]
  go_ret
  exact ⟨rfl, rfl⟩

/-- What End answers. -/
def rend (st : Option (List UInt8)) : Int := if st = some [] then 0 else 4
end Go.Proofs.YthamlphebnhcpaaDoor

namespace Go.Proofs.YthamlphebnhcpaaDoor
open Go.RowKit

theorem cutPiece_le (st : Option (List UInt8)) (n : Int) (m : Bool) : (cutPiece st n m).length ≤ n.toNat := by
  unfold cutPiece
  split
  · exact List.length_take_le _ _
  · simp

theorem pow256 (k : Nat) : 256 ^ k = 2 ^ (8 * k) := by rw [Nat.pow_mul]
theorem or_add (N b k : Nat) (hN : N < 256 ^ k) : N ||| b * 256 ^ k = N + 256 ^ k * b := by
  rw [pow256] at hN ⊢
  rw [← Nat.shiftLeft_eq, Nat.or_comm, ← Nat.shiftLeft_add_eq_or_of_lt hN, Nat.shiftLeft_eq, Nat.mul_comm, Nat.add_comm]
/-- One round of Number's loop. -/
theorem num_step (N b k : Nat) (hN : N < 256 ^ k) (hb : b < 256) (hk : k < 8) :
    bits .or .u64 (N : Int) (IntKind.u64.wrap ((b : Int) * 2 ^ (8 * k))) = ((N + 256 ^ k * b : Nat) : Int) := by
  have h8 : 256 ^ (k + 1) ≤ 256 ^ 8 := Nat.pow_le_pow_right (by omega) (by omega)
  have h64 : (256 : Nat) ^ 8 = 18446744073709551616 := by decide
  have hbk : b * 256 ^ k < 256 ^ (k + 1) := by
    rw [Nat.pow_succ, Nat.mul_comm (256 ^ k)]
    exact Nat.mul_lt_mul_of_pos_right hb (Nat.pow_pos (by omega))
  have hkk : 256 ^ k ≤ 256 ^ (k + 1) := Nat.pow_le_pow_right (by omega) (by omega)
  have e2 : ((b : Int) * 2 ^ (8 * k)) = ((b * 256 ^ k : Nat) : Int) := by rw [pow256]; simp
  rw [e2]
  generalize hm : b * 256 ^ k = m at *
  have e3 : IntKind.u64.wrap (m : Int) = (m : Int) := by rw [IntKind.wrap_u64]; omega
  rw [e3, u64_or_nat N m (by omega) (by omega), ← hm, or_add N b k hN]
theorem ofLe_snoc (p : List UInt8) (k : Nat) (h : k < p.length) : ofLe (p.take (k + 1)) = ofLe (p.take k) + 256 ^ k * p[k].toNat := by
  rw [List.take_succ_eq_append_getElem h, ofLe_append, List.length_take, Nat.min_eq_left (by omega)]

/-- What Number answers. -/
def NumPost (w : World) (g : Nat) (d : Option Nat) (N : Nat) (st' : Option (List UInt8)) (e : Ending) (w' : World) : Prop :=
  e = .returned (.int .u64 N) ∧ Rd w' g d st' ∧ Keeps (· = g) w w' ∧ w'.heap.size = w.heap.size

set_option maxHeartbeats 400000 in
theorem rnumber_s (w : World) (g : Nat) (d : Option Nat) (st : Option (List UInt8)) (hR : Rd w g d st) (Z : Int) :
    Calls Tryd.prog 65 #[.pointer (some ⟨g, 0, none⟩), .int .i64 Z] w (NumPost w g d (ofLe (cutPiece st Z (may Z))) (cutRest st Z (may Z))) := by
  have HR := Lib.hid hR
  have hp8 : (cutPiece st Z (may Z)).length ≤ 8 := by
    have := cutPiece_le st Z (may Z)
    cases h : may Z with
    | false => simp [cutPiece, cutOk]
    | true => rw [h] at this; have := may_cases h; omega
  generalize hpe : cutPiece st Z (may Z) = p at hp8 ⊢
  generalize hse : cutRest st Z (may Z) = st' at *
  have Hpe := Lib.hid hpe
  have Hse := Lib.hid hse
  clear hR hpe hse
  go_enter Tryd.func65, Tryd.ntmps65
  go_wp2_with (first
    | (go_at_call 71; refine (maySize_any _ _).mono ?_; rintro e w' ⟨rfl, rfl⟩)
    | (go_at_call 79; refine (cut_s _ _ _ _ HR.out Z (may Z) (fun h => by have := may_cases h; omega)).mono ?_; rw [Hpe.out, Hse.out]; rintro e w1 ⟨A, c, rfl, hs1, ha1, hR1, hk1, hz1⟩; have Hs1 := Lib.hid hs1; have Hfin := Lib.hid (And.intro hR1 (And.intro hk1 hz1)); clear hs1 ha1 hR1 hk1 hz1))
  go_loop [5, 14] (fun n i => ∃ k N : Nat, k ≤ p.length ∧ i = .int .i64 k ∧ n = .int .u64 N ∧ Hid (N = ofLe (p.take k)) ∧ N < 256 ^ k) (fun _ i => p.length - (intOf i).toNat)
  case atStart => exact ⟨0, 0, Nat.zero_le _, rfl, rfl, rfl, by simp⟩
  case round =>
    obtain ⟨k, N, hk, rfl, rfl, HN, hlt⟩ := hrel
    by_cases hkl : k < p.length
    · obtain ⟨b, off, rfl, hb, hc⟩ := Hs1.out.at_ hkl
      have ck : w1.cell? ⟨b, off + k, none⟩ = some (.int .u8 (p[k].toNat : Int)) := hc k hkl
      clear hc
      have hb256 : p[k].toNat < 256 := p[k].toNat_lt
      have HT := Lib.hid (num_step N p[k].toNat k hlt hb256 (by omega))
      have HO := Lib.hid (ofLe_snoc p k hkl)
      have HL : Hid (N + 256 ^ k * p[k].toNat < 256 ^ (k + 1)) := by
        have h1 : 256 ^ k * p[k].toNat ≤ 256 ^ k * 255 := Nat.mul_le_mul_left _ (by omega)
        show _ < _
        rw [Nat.pow_succ]
        omega
      go_wp2
      go_round
      case rel => exact ⟨k + 1, N + 256 ^ k * p[k].toNat, by omega, by go_num, congrArg (Value.int .u64) HT.out, by show _ = _; rw [HO.out, HN.out], HL.out⟩
      case measure => simp [intOf]; omega
    · obtain rfl : k = p.length := by omega
      have HT : Hid (N = ofLe p) := by show _ = _; rw [HN.out, List.take_length]
      go_wp2
      go_ret
      obtain ⟨h1, h2, h3⟩ := Hfin.out
      exact ⟨by rw [← HT.out]; rfl, h1, h2, h3⟩

/-- What Bytes and Blob answer: a copy in new memory. -/
def PiecePost (w : World) (g : Nat) (d : Option Nat) (p : List UInt8) (st' : Option (List UInt8)) (e : Ending) (w' : World) : Prop :=
  ∃ A c, e = .returned (.slice A p.length c) ∧ w'.ownsRow w.heap.size 5 1 (.slice A p.length c) p.length (By p) ∧ Rd w' g d st' ∧ Keeps (· = g) w w'

theorem cutPiece_lt (st : Option (List UInt8)) (n : Int) (m : Bool) : (cutPiece st n m).length ≤ lenS st := by
  unfold cutPiece lenS
  split
  · exact List.length_take_le' _ _
  · simp

/-- A blob's length, and whether it may be. -/
def blobN (st : Option (List UInt8)) : Nat := ofLe (cutPiece st 4 true)
def blobM (st : Option (List UInt8)) : Bool := decide (blobN st ≤ 16777216)
def blobPiece (st : Option (List UInt8)) : List UInt8 := cutPiece (cutRest st 4 true) (blobN st) (blobM st)
def blobRest (st : Option (List UInt8)) : Option (List UInt8) := cutRest (cutRest st 4 true) (blobN st) (blobM st)

theorem lenS_cutRest (st : Option (List UInt8)) (n : Int) (m : Bool) : lenS (cutRest st n m) ≤ lenS st := by
  unfold cutRest lenS
  split
  · simp
  · simp

/-- Read: a reader over a copy. -/
def ReadPost (w : World) (l : List UInt8) (e : Ending) (w' : World) : Prop :=
  ∃ g d, e = .returned (.pointer (some ⟨g, 0, none⟩)) ∧ w.heap.size ≤ g ∧ (∀ k, d = some k → w.heap.size ≤ k) ∧ Rd w' g d (some l) ∧ Below w.heap.size w w'
set_option maxHeartbeats 400000 in
theorem read_any (w : World) (Bx : Nat) (A : Option Addr) (n c : Nat) (x : List UInt8) (hn : n = x.length) (hx : Sees w Bx A x) (hlen : n ≤ 1099511627776) :
    Calls Tryd.prog 64 #[.slice A n c] w (ReadPost w x) := by
  have Hx := Lib.hid hx
  have Hn := Lib.hid hn
  clear hx hn
  go_enter Tryd.func64, Tryd.ntmps64
  go_wp2_with (go_at_call 73; refine (clone_any _ _ _ _ _ x Hn.out Hx.out (by omega)).mono ?_; rintro e w1 ⟨⟨A1, c1, rfl, ho1⟩, hb1⟩)
  go_ret
  obtain rfl := Hn.out
  have hb2 : Below w.heap.size w (w1.alloc (.cells #[.slice A1 x.length c1, .bool true, .bool false] 128)) := hb1.alloc hb1.size _
  have hs := (Sees.own ho1).alloc (.cells #[.slice A1 x.length c1, .bool true, .bool false] 128)
  refine ⟨w1.heap.size, A1.map (·.block), rfl, hb1.size, ?_, ⟨?_, A1, c1, by exact heap_alloc_new w1 _, ?_, ?_, hs.size, ?_⟩, hb2⟩
  · intro k hk
    cases A1 with
    | none => cases hk
    | some ad => obtain rfl : ad.block = k := by simpa using hk
                 exact (ho1.lt ad.block rfl).1
  · intro k hk
    cases A1 with
    | none => cases hk
    | some ad => obtain rfl : ad.block = k := by simpa using hk
                 have := (ho1.lt ad.block rfl).2
                 simp; omega
  · rcases ho1.2 with ⟨h, h0⟩ | ⟨g, cap, cur, hv, _, _, hnc, hcm, _⟩
    · simp [lenS, h0]
    · injection hv with _ _ hc; subst hc; simpa [lenS] using hnc
  · rcases ho1.2 with ⟨h, h0⟩ | ⟨g, cap, cur, hv, _, _, hnc, hcm, _⟩
    · injection h with _ _ hc; subst hc; simp [maxLen]
    · injection hv with _ _ hc; subst hc; exact hcm
  · intro ad e; subst e; rfl

end Go.Proofs.YthamlphebnhcpaaDoor
