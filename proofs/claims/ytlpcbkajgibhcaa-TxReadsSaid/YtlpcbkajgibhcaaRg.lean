/-
  The document's reader: what each call does.
-/
import Derived.Test.YtlpcbkajgibhcaaSz
namespace Go.Proofs.Ytlpcbkajgibhcaa
open Go.RowKit

/-- The document's reader at block g over bytes in block d: what is left, or none: it failed. -/
def Rf (w : World) (g : Nat) (d : Option Nat) (st : Option (List UInt8)) : Prop :=
  (∀ k, d = some k → k ≠ g ∧ k < w.heap.size) ∧ ∃ A c rest, Blk w g 58 #[.slice A rest.length c, .bool st.isNone] ∧ rest.length ≤ c ∧ c ≤ maxLen ∧ Sees w w.heap.size A rest ∧
    (∀ ad, rest ≠ [] → A = some ad → d = some ad.block) ∧ ∀ l, st = some l → rest = l

theorem Rf.keeps {w w' : World} {S : Nat → Prop} {g : Nat} {d : Option Nat} {st : Option (List UInt8)} (h : Rf w g d st) (hk : Keeps S w w') (hg : ¬ S g) (hd : ∀ k, d = some k → ¬ S k) : Rf w' g d st := by
  obtain ⟨hne, A, c, rest, hb, hc, hm, hs, ha, hr⟩ := h
  exact ⟨fun k e => ⟨(hne k e).1, Nat.lt_of_lt_of_le (hne k e).2 hk.size⟩, A, c, rest, hb.keeps hk hg, hc, hm, (hs.keeps2 hk (fun h0 ad e _ => hd _ (ha ad h0 e))).size, ha, hr⟩
theorem Rf.below {w w' : World} {g : Nat} {d : Option Nat} {st : Option (List UInt8)} (h : Rf w g d st) (hk : Below w.heap.size w w') : Rf w' g d st := by
  obtain ⟨hne, A, c, rest, hb, hc, hm, hs, ha, hr⟩ := h
  exact ⟨fun k e => ⟨(hne k e).1, Nat.lt_of_lt_of_le (hne k e).2 hk.size⟩, A, c, rest, hb.below hk hb.lt, hc, hm, (hs.later hk).size, ha, hr⟩
theorem Rf.lt {w : World} {g : Nat} {d : Option Nat} {st : Option (List UInt8)} (h : Rf w g d st) : g < w.heap.size := by
  obtain ⟨_, A, c, rest, hb, _⟩ := h; exact hb.lt

/-- What Cut answers. -/
def RfCut (w : World) (g : Nat) (d : Option Nat) (p : List UInt8) (st' : Option (List UInt8)) (e : Ending) (w' : World) : Prop :=
  ∃ A c, e = .returned (.slice A p.length c) ∧ Sees w' w'.heap.size A p ∧ (∀ ad, p ≠ [] → A = some ad → d = some ad.block) ∧ Rf w' g d st' ∧ Keeps (· = g) w w' ∧ w'.heap.size = w.heap.size

theorem Rf.fail {w : World} {g : Nat} {d : Option Nat} (hne : ∀ k, d = some k → k ≠ g ∧ k < w.heap.size) {A : Option Addr} {c : Nat} {rest : List UInt8} {bad : Bool} (hb : Blk w g 58 #[.slice A rest.length c, .bool bad]) (hc : rest.length ≤ c) (hm : c ≤ maxLen)
    (hs : Sees w w.heap.size A rest) (ha : ∀ ad, rest ≠ [] → A = some ad → d = some ad.block) : Rf (w.setCell ⟨g, 1, none⟩ (.bool true)) g d none := by
  refine ⟨fun k e => ⟨(hne k e).1, by simpa using (hne k e).2⟩, A, c, rest, by simpa using hb.set 1 (.bool true), hc, hm, ?_, ha, fun l e => by cases e⟩
  exact (hs.keeps2 ((Keeps.refl (· = g) w).setCell (by exact rfl) _) (fun h0 ad e _ => (hne _ (ha ad h0 e)).1)).size
theorem RfCut.fail {w : World} {g : Nat} {d : Option Nat} (hne : ∀ k, d = some k → k ≠ g ∧ k < w.heap.size) {A : Option Addr} {c : Nat} {rest : List UInt8} {bad : Bool} (hb : Blk w g 58 #[.slice A rest.length c, .bool bad]) (hc : rest.length ≤ c) (hm : c ≤ maxLen)
    (hs : Sees w w.heap.size A rest) (ha : ∀ ad, rest ≠ [] → A = some ad → d = some ad.block) : RfCut w g d [] none (.returned (.slice none 0 0)) (w.setCell ⟨g, 1, none⟩ (.bool true)) :=
  ⟨none, 0, rfl, .inl rfl, fun ad h => absurd rfl h, Rf.fail hne hb hc hm hs ha, (Keeps.refl _ _).setCell (by exact rfl) _, by simp⟩

set_option maxHeartbeats 400000 in
theorem rfcut_ok (w : World) (g : Nat) (d : Option Nat) (l : List UInt8) (hR : Rf w g d (some l)) (n : Nat) (hn : n ≤ l.length) :
    Calls Try.prog 35 #[.pointer (some ⟨g, 0, none⟩), .int .i64 n] w (RfCut w g d (l.take n) (some (l.drop n))) := by
  obtain ⟨hne, A, c, rest, hb, hc, hm, hs, ha, hr⟩ := hR
  obtain rfl := hr l rfl
  unfold maxLen at hm
  have c0 : w.cell? ⟨g, 0, none⟩ = some (.slice A rest.length c) := hb.cell 0
  have c1 : w.cell? ⟨g, 1, none⟩ = some (.bool false) := hb.cell 1
  have f0 : w.frozen? ⟨g, 0, none⟩ = false := hb.frozen 0
  have hnc : n ≤ c := by omega
  have hn' : ¬ (rest.length : Int) < n := by omega
  have hn2 : (n : Int) ≤ rest.length := by omega
  have hn3 : (rest.length : Int) ≤ c := by omega
  have HS := Lib.hid hs
  have HA := Lib.hid ha
  have Hne := Lib.hid hne
  clear hs ha hne hr
  by_cases hcn : c = n
  · obtain rfl : n = rest.length := by omega
    subst hcn
    go_enter Try.func35, Try.ntmps35
    go_wp2
    go_ret
    refine ⟨A, rest.length, by simp, ?_, fun ad h e => HA.out ad (fun h0 => h (by simp [h0])) e, ⟨fun k e => ⟨(Hne.out k e).1, by simpa using (Hne.out k e).2⟩, A, 0, [], ?_, ?_, ?_, .inl rfl, fun ad h => absurd rfl h, fun l e => by simpa using e⟩, (Keeps.refl _ _).setCell (by exact rfl) _, by simp⟩
    · have := (HS.out.keeps2 ((Keeps.refl (· = g) w).setCell (p := ⟨g, 0, none⟩) (by exact rfl) (.slice A 0 0)) (fun h0 ad e _ => (Hne.out _ (HA.out ad h0 e)).1)).size
      simpa using this
    · simpa using hb.set 0 (.slice A 0 0)
    · simp
    · simp [maxLen]
  · go_enter Try.func35, Try.ntmps35
    go_wp2
    go_ret
    have hks : Keeps (· = g) w (w.setCell ⟨g, 0, none⟩ (.slice (A.map (·.add n)) (rest.length - n) (c - n))) := (Keeps.refl _ _).setCell (by exact rfl) _
    have hss := HS.out.keeps2 hks (fun h0 ad e _ => (Hne.out _ (HA.out ad h0 e)).1)
    refine ⟨A, c, ?_, (hss.take n).size, fun ad h e => HA.out ad (fun h0 => h (by simp [h0])) e, ⟨fun k e => ⟨(Hne.out k e).1, by simpa using (Hne.out k e).2⟩, A.map (·.add n), c - n, rest.drop n, ?_, ?_, ?_, (hss.drop n).size, ?_, fun l e => by injection e⟩, hks, by simp⟩
    · rw [List.length_take, Nat.min_eq_left hn]; rfl
    · simpa using hb.set 0 (.slice (A.map (·.add n)) (rest.length - n) (c - n))
    · simp; omega
    · simp [maxLen]; omega
    · intro ad h0 e
      rcases A with _ | a
      · simp at e
      · simp at e
        rw [← e]
        have := HA.out a (fun h => h0 (by simp [h])) rfl
        rw [this]
        unfold Addr.add
        split <;> rfl

set_option maxHeartbeats 400000 in
theorem rfcut_no (w : World) (g : Nat) (d : Option Nat) (st : Option (List UInt8)) (hR : Rf w g d st) (n : Int) (hno : cutOk st n (decide (0 ≤ n)) = false) :
    Calls Try.prog 35 #[.pointer (some ⟨g, 0, none⟩), .int .i64 n] w (RfCut w g d [] none) := by
  obtain ⟨hne, A, c, rest, hb, hc, hm, hs, ha, hr⟩ := hR
  have c0 : w.cell? ⟨g, 0, none⟩ = some (.slice A rest.length c) := hb.cell 0
  have f1 : w.frozen? ⟨g, 1, none⟩ = false := hb.frozen 1
  have HF := Lib.hid (RfCut.fail hne hb hc hm hs ha)
  cases st with
  | none =>
    have c1 : w.cell? ⟨g, 1, none⟩ = some (.bool true) := hb.cell 1
    clear hne hb hs ha hr hno
    go_enter Try.func35, Try.ntmps35
    go_wp2
    go_ret
    exact HF.out
  | some l =>
    have c1 : w.cell? ⟨g, 1, none⟩ = some (.bool false) := hb.cell 1
    obtain rfl := hr l rfl
    by_cases h0 : n < 0
    · clear hne hb hs ha hr hno
      go_enter Try.func35, Try.ntmps35
      go_wp2
      go_ret
      exact HF.out
    · have h1 : (rest.length : Int) < n := by
        rcases Int.lt_or_le (rest.length : Int) n with h | h
        · exact h
        · exfalso
          have : cutOk (some rest) n (decide (0 ≤ n)) = true := by
            simp only [cutOk, Option.isSome_some, Bool.and_true, Bool.and_eq_true, decide_eq_true_eq, lenS, Option.getD_some]
            exact ⟨by omega, decide_eq_true h⟩
          rw [this] at hno
          cases hno
      clear hne hb hs ha hr hno
      go_enter Try.func35, Try.ntmps35
      go_wp2
      go_ret
      exact HF.out

theorem rfcut_s (w : World) (g : Nat) (d : Option Nat) (st : Option (List UInt8)) (hR : Rf w g d st) (n : Int) :
    Calls Try.prog 35 #[.pointer (some ⟨g, 0, none⟩), .int .i64 n] w (RfCut w g d (cutPiece st n (decide (0 ≤ n))) (cutRest st n (decide (0 ≤ n)))) := by
  cases h : cutOk st n (decide (0 ≤ n)) with
  | false => simpa [cutPiece, cutRest, h] using rfcut_no w g d st hR n h
  | true =>
    simp only [cutOk, Bool.and_eq_true, decide_eq_true_eq] at h
    obtain ⟨⟨h0, h1⟩, h2⟩ := h
    obtain ⟨k, rfl⟩ := Int.eq_ofNat_of_zero_le h0
    cases st with
    | none => simp at h1
    | some l =>
      simp [lenS] at h2
      simpa [cutPiece, cutRest, cutOk, lenS, h2] using rfcut_ok w g d l hR k h2

end Go.Proofs.Ytlpcbkajgibhcaa
