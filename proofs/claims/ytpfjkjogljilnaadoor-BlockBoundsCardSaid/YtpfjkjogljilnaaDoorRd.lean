/-
  The readers of package wire: what each call does.
-/
import Derived.Test.YtpfjkjogljilnaaDoorWr2
namespace Go.Proofs.YtpfjkjogljilnaaDoor
open Go.RowKit

/-- A reader at block g over bytes in block d: what is left, or none: it failed. -/
def Rd (w : World) (g : Nat) (d : Option Nat) (st : Option (List UInt8)) : Prop :=
  (∀ k, d = some k → k ≠ g ∧ k < w.heap.size) ∧ ∃ A c, Blk w g 81 #[.slice A (lenS st) c, .bool true, .bool st.isNone] ∧ lenS st ≤ c ∧ c ≤ maxLen ∧ Sees w w.heap.size A (st.getD []) ∧ ∀ ad, A = some ad → d = some ad.block

theorem Rd.keeps {w w' : World} {S : Nat → Prop} {g : Nat} {d : Option Nat} {st : Option (List UInt8)} (h : Rd w g d st) (hk : Keeps S w w') (hg : ¬ S g) (hd : ∀ k, d = some k → ¬ S k) : Rd w' g d st := by
  obtain ⟨hne, A, c, hb, hc, hm, hs, ha⟩ := h
  exact ⟨fun k e => ⟨(hne k e).1, Nat.lt_of_lt_of_le (hne k e).2 hk.size⟩, A, c, hb.keeps hk hg, hc, hm, (hs.keeps hk (fun ad e _ => hd _ (ha ad e))).size, ha⟩
theorem Rd.below {w w' : World} {g : Nat} {d : Option Nat} {st : Option (List UInt8)} (h : Rd w g d st) (hk : Below w.heap.size w w') : Rd w' g d st := by
  obtain ⟨hne, A, c, hb, hc, hm, hs, ha⟩ := h
  exact ⟨fun k e => ⟨(hne k e).1, Nat.lt_of_lt_of_le (hne k e).2 hk.size⟩, A, c, hb.below hk hb.lt, hc, hm, (hs.later hk).size, ha⟩

set_option maxHeartbeats 400000 in
theorem isNil_nil (w : World) : Calls Tryd.prog 36 #[.pointer none] w fun e w' => e = .returned (.bool true) ∧ w = w' := by
  go_enter Tryd.func36, Tryd.ntmps36
  go_wp2
  go_ret
  exact ⟨rfl, rfl⟩
set_option maxHeartbeats 400000 in
theorem isNil_made (w : World) (g : Nat) (b : Bool) (hc : w.cell? ⟨g, 1, none⟩ = some (.bool b)) : Calls Tryd.prog 36 #[.pointer (some ⟨g, 0, none⟩)] w fun e w' => e = .returned (.bool (!b)) ∧ w = w' := by
  cases b with
  | true =>
    go_enter Tryd.func36, Tryd.ntmps36
    go_wp2
    go_ret
    exact ⟨rfl, rfl⟩
  | false =>
    go_enter Tryd.func36, Tryd.ntmps36
    go_wp2
    go_ret
    exact ⟨rfl, rfl⟩

/-- Can so many bytes be cut off? -/
def cutOk (st : Option (List UInt8)) (n : Int) (m : Bool) : Bool := m && st.isSome && decide (n ≤ (lenS st : Int))
def cutPiece (st : Option (List UInt8)) (n : Int) (m : Bool) : List UInt8 := if cutOk st n m then (st.getD []).take n.toNat else []
def cutRest (st : Option (List UInt8)) (n : Int) (m : Bool) : Option (List UInt8) := if cutOk st n m then some ((st.getD []).drop n.toNat) else none

/-- What cut answers: a piece that shows bytes of block d, and the reader behind it. -/
def CutPost (w : World) (g : Nat) (d : Option Nat) (p : List UInt8) (st' : Option (List UInt8)) (e : Ending) (w' : World) : Prop :=
  ∃ A c, e = .returned (.slice A p.length c) ∧ Sees w' w'.heap.size A p ∧ (∀ ad, A = some ad → d = some ad.block) ∧ Rd w' g d st' ∧ Keeps (· = g) w w' ∧ w'.heap.size = w.heap.size

set_option maxHeartbeats 400000 in
theorem cut_ok (w : World) (g : Nat) (d : Option Nat) (l : List UInt8) (hR : Rd w g d (some l)) (n : Nat) (hn : n ≤ l.length) :
    Calls Tryd.prog 35 #[.pointer (some ⟨g, 0, none⟩), .int .i64 n, .bool true] w (CutPost w g d (l.take n) (some (l.drop n))) := by
  obtain ⟨hne, A, c, hb, hc, hm, hs, ha⟩ := hR
  simp only [lenS, Option.getD_some, Option.isNone_some] at hb hc hs
  unfold maxLen at hm
  have c0 : w.cell? ⟨g, 0, none⟩ = some (.slice A l.length c) := hb.cell 0
  have c1 : w.cell? ⟨g, 1, none⟩ = some (.bool true) := hb.cell 1
  have c2 : w.cell? ⟨g, 2, none⟩ = some (.bool false) := hb.cell 2
  have f0 : w.frozen? ⟨g, 0, none⟩ = false := hb.frozen 0
  have hnc : n ≤ c := by omega
  have hn' : ¬ (l.length : Int) < n := by omega
  have hn2 : (n : Int) ≤ l.length := by omega
  have hn3 : (l.length : Int) ≤ c := by omega
  have HS := Lib.hid hs
  have HA := Lib.hid ha
  have Hne := Lib.hid hne
  clear hs ha hne
  by_cases hcn : c = n
  · obtain rfl : n = l.length := by omega
    subst hcn
    go_enter Tryd.func35, Tryd.ntmps35
    go_wp2_with fail
    go_step3
    go_wp2_with (go_at_call 36; refine (isNil_made _ _ _ c1).mono ?_; rintro e w' ⟨rfl, rfl⟩)
    rw [Exit.noGoto_ret]
    go_ret
    refine ⟨A, l.length, rfl, ?_, HA.out, ⟨fun k e => ⟨(Hne.out k e).1, by simpa using (Hne.out k e).2⟩, A, 0, ?_, ?_, ?_, ?_, HA.out⟩, (Keeps.refl _ _).setCell (by exact rfl) _, by simp⟩
    · exact (HS.out.keeps ((Keeps.refl (· = g) w).setCell (by exact rfl) _) (fun ad e _ => (Hne.out _ (HA.out ad e)).1)).size
    · simpa [lenS] using hb.set 0 (.slice A 0 0)
    · simp [lenS]
    · simp [maxLen]
    · exact .inl rfl
  · go_enter Tryd.func35, Tryd.ntmps35
    go_wp2_with fail
    go_step3
    go_wp2_with (go_at_call 36; refine (isNil_made _ _ _ c1).mono ?_; rintro e w' ⟨rfl, rfl⟩)
    rw [Exit.noGoto_ret]
    go_ret
    have hks : Keeps (· = g) w (w.setCell ⟨g, 0, none⟩ (.slice (A.map (·.add n)) (l.length - n) (c - n))) := (Keeps.refl _ _).setCell (by exact rfl) _
    have hss := HS.out.keeps hks (fun ad e _ => (Hne.out _ (HA.out ad e)).1)
    refine ⟨A, n, ?_, ?_, HA.out, ⟨fun k e => ⟨(Hne.out k e).1, by simpa using (Hne.out k e).2⟩, A.map (·.add n), c - n, ?_, ?_, ?_, ?_, ?_⟩, hks, by simp⟩
    · rw [List.length_take, Nat.min_eq_left hn]; rfl
    · exact (hss.take n).size
    · simpa [lenS] using hb.set 0 (.slice (A.map (·.add n)) (l.length - n) (c - n))
    · simp [lenS]; omega
    · simp [maxLen]; omega
    · exact (hss.drop n).size
    · intro ad e
      rcases A with _ | a
      · simp at e
      · simp at e
        rw [← e]
        have := HA.out a rfl
        rw [this]
        unfold Addr.add
        split <;> rfl

end Go.Proofs.YtpfjkjogljilnaaDoor
