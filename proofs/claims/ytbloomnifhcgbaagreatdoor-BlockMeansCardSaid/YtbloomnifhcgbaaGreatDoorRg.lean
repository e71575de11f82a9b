/-
  The sizes that a number may have, as the document's reader asks them. · The document's reader: what each call does. · The document's reader: numbers, blobs, hashes, and whether all was read. · The document's reader: hashes. · plexusref01's reader over an argument's bytes.
-/
import Derived.Test.YtbloomnifhcgbaaGreatDoorRe2
namespace Go.Proofs.YtbloomnifhcgbaaGreatDoor
open Go.RowKit
set_option maxHeartbeats 400000 in
theorem dSize_any (n : Int) (w : World) : Calls Tryz.prog 52 #[.int .i64 n] w fun e w' => e = .returned (.bool (may n)) ∧ w = w' := by
  unfold may
  by_cases h1 : n = 1
  · subst h1
    go_enter Tryz.func52, Tryz.ntmps52
    go_wp2
    go_ret
    exact ⟨rfl, rfl⟩
  · by_cases h2 : n = 2
    · subst h2
      go_enter Tryz.func52, Tryz.ntmps52
      go_wp2
      go_ret
      exact ⟨rfl, rfl⟩
    · by_cases h4 : n = 4
      · subst h4
        go_enter Tryz.func52, Tryz.ntmps52
        go_wp2
        go_ret
        exact ⟨rfl, rfl⟩
      · have b1 : (n == 1) = false := beq_eq_false_iff_ne.2 h1
        have b2 : (n == 2) = false := beq_eq_false_iff_ne.2 h2
        have b4 : (n == 4) = false := beq_eq_false_iff_ne.2 h4
        go_enter Tryz.func52, Tryz.ntmps52
        go_wp2
        go_ret
        exact ⟨by simp [b1, b2, b4], rfl⟩

end Go.Proofs.YtbloomnifhcgbaaGreatDoor
namespace Go.Proofs.YtbloomnifhcgbaaGreatDoor
open Go.RowKit

/-- The document's reader at block g over bytes in block d: what is left, or none: it failed. -/
def Rf (w : World) (g : Nat) (d : Option Nat) (st : Option (List UInt8)) : Prop :=
  (∀ k, d = some k → k ≠ g ∧ k < w.heap.size) ∧ ∃ A c rest, Blk w g 59 #[.slice A rest.length c, .bool st.isNone] ∧ rest.length ≤ c ∧ c ≤ maxLen ∧ Sees w w.heap.size A rest ∧
    (∀ ad, rest ≠ [] → A = some ad → d = some ad.block) ∧ ∀ l, st = some l → rest = l

theorem Rf.keeps {w w' : World} {S : Nat → Prop} {g : Nat} {d : Option Nat} {st : Option (List UInt8)} (h : Rf w g d st) (hk : Keeps S w w') (hg : ¬ S g) (hd : ∀ k, d = some k → ¬ S k) : Rf w' g d st := by
  obtain ⟨hne, A, c, rest, hb, hc, hm, hs, ha, hr⟩ := h
  exact ⟨fun k e => ⟨(hne k e).1, Nat.lt_of_lt_of_le (hne k e).2 hk.size⟩, A, c, rest, hb.keeps hk hg, hc, hm, (hs.keeps2 hk (fun h0 ad e _ => hd _ (ha ad h0 e))).size, ha, hr⟩
theorem Rf.below {w w' : World} {g : Nat} {d : Option Nat} {st : Option (List UInt8)} (h : Rf w g d st) (hk : Below w.heap.size w w') : Rf w' g d st := by
  obtain ⟨hne, A, c, rest, hb, hc, hm, hs, ha, hr⟩ := h
  exact ⟨fun k e => ⟨(hne k e).1, Nat.lt_of_lt_of_le (hne k e).2 hk.size⟩, A, c, rest, hb.below hk hb.lt, hc, hm, (hs.later hk).size, ha, hr⟩
theorem Rf.lt {w : World} {g : Nat} {d : Option Nat} {st : Option (List UInt8)} (h : Rf w g d st) : g < w.heap.size := by
  obtain ⟨_, A, c, rest, hb, _⟩ := h; exact hb.lt

/-- What Cut answers. -/
def RfCut (w : World) (g : Nat) (d : Option Nat) (p : List UInt8) (st' : Option (List UInt8)) (e : Ending) (w' : World) : Prop :=
  ∃ A c, e = .returned (.slice A p.length c) ∧ Sees w' w'.heap.size A p ∧ (∀ ad, p ≠ [] → A = some ad → d = some ad.block) ∧ Rf w' g d st' ∧ Keeps (· = g) w w' ∧ w'.heap.size = w.heap.size ∧ p.length ≤ c ∧ c ≤ maxLen

theorem Rf.fail {w : World} {g : Nat} {d : Option Nat} (hne : ∀ k, d = some k → k ≠ g ∧ k < w.heap.size) {A : Option Addr} {c : Nat} {rest : List UInt8} {bad : Bool} (hb : Blk w g 59 #[.slice A rest.length c, .bool bad]) (hc : rest.length ≤ c) (hm : c ≤ maxLen)
    (hs : Sees w w.heap.size A rest) (ha : ∀ ad, rest ≠ [] → A = some ad → d = some ad.block) : Rf (w.setCell ⟨g, 1, none⟩ (.bool true)) g d none := by
  refine ⟨fun k e => ⟨(hne k e).1, by simpa using (hne k e).2⟩, A, c, rest, by simpa using hb.set 1 (.bool true), hc, hm, ?_, ha, fun l e => by cases e⟩
  exact (hs.keeps2 ((Keeps.refl (· = g) w).setCell (by exact rfl) _) (fun h0 ad e _ => (hne _ (ha ad h0 e)).1)).size
theorem RfCut.fail {w : World} {g : Nat} {d : Option Nat} (hne : ∀ k, d = some k → k ≠ g ∧ k < w.heap.size) {A : Option Addr} {c : Nat} {rest : List UInt8} {bad : Bool} (hb : Blk w g 59 #[.slice A rest.length c, .bool bad]) (hc : rest.length ≤ c) (hm : c ≤ maxLen)
    (hs : Sees w w.heap.size A rest) (ha : ∀ ad, rest ≠ [] → A = some ad → d = some ad.block) : RfCut w g d [] none (.returned (.slice none 0 0)) (w.setCell ⟨g, 1, none⟩ (.bool true)) :=
  ⟨none, 0, rfl, .inl rfl, fun ad h => absurd rfl h, Rf.fail hne hb hc hm hs ha, (Keeps.refl _ _).setCell (by exact rfl) _, by simp, by simp, by simp⟩

set_option maxHeartbeats 400000 in
theorem rfcut_ok (w : World) (g : Nat) (d : Option Nat) (l : List UInt8) (hR : Rf w g d (some l)) (n : Nat) (hn : n ≤ l.length) :
    Calls Tryz.prog 51 #[.pointer (some ⟨g, 0, none⟩), .int .i64 n] w (RfCut w g d (l.take n) (some (l.drop n))) := by
  obtain ⟨hne, A, c, rest, hb, hc, hm, hs, ha, hr⟩ := hR
  obtain rfl := hr l rfl
  unfold maxLen at hm
  have c0 : w.cell? ⟨g, 0, none⟩ = some (.slice A rest.length c) := hb.cell 0
  have c1 : w.cell? ⟨g, 1, none⟩ = some (.bool false) := hb.cell 1
  have f0 : w.frozen? ⟨g, 0, none⟩ = false := hb.frozen 0
  have hnc : n ≤ c := by omega
  have hn' : ¬ (rest.length : Int) < n := by omega
  have hn2 : (n : Int) ≤ rest.length := by omega
  have hn3 : (rest.length : Int) ≤ c := by omega
  have HS := Lib.hid hs
  have HA := Lib.hid ha
  have Hne := Lib.hid hne
  clear hs ha hne hr
  by_cases hcn : c = n
  · obtain rfl : n = rest.length := by omega
    subst hcn
    go_enter Tryz.func51, Tryz.ntmps51
    go_wp2
    go_ret
    refine ⟨A, rest.length, by simp, ?_, fun ad h e => HA.out ad (fun h0 => h (by simp [h0])) e, ⟨fun k e => ⟨(Hne.out k e).1, by simpa using (Hne.out k e).2⟩, A, 0, [], ?_, ?_, ?_, .inl rfl, fun ad h => absurd rfl h, fun l e => by simpa using e⟩, (Keeps.refl _ _).setCell (by exact rfl) _, by simp, by simp, by unfold maxLen; omega⟩
    · have := (HS.out.keeps2 ((Keeps.refl (· = g) w).setCell (p := ⟨g, 0, none⟩) (by exact rfl) (.slice A 0 0)) (fun h0 ad e _ => (Hne.out _ (HA.out ad h0 e)).1)).size
      simpa using this
    · simpa using hb.set 0 (.slice A 0 0)
    · simp
    · simp [maxLen]
  · go_enter Tryz.func51, Tryz.ntmps51
    go_wp2
    go_ret
    have hks : Keeps (· = g) w (w.setCell ⟨g, 0, none⟩ (.slice (A.map (·.add n)) (rest.length - n) (c - n))) := (Keeps.refl _ _).setCell (by exact rfl) _
    have hss := HS.out.keeps2 hks (fun h0 ad e _ => (Hne.out _ (HA.out ad h0 e)).1)
    refine ⟨A, c, ?_, (hss.take n).size, fun ad h e => HA.out ad (fun h0 => h (by simp [h0])) e, ⟨fun k e => ⟨(Hne.out k e).1, by simpa using (Hne.out k e).2⟩, A.map (·.add n), c - n, rest.drop n, ?_, ?_, ?_, (hss.drop n).size, ?_, fun l e => by injection e⟩, hks, by simp, by rw [List.length_take]; omega, by unfold maxLen; omega⟩
    · rw [List.length_take, Nat.min_eq_left hn]; rfl
    · simpa using hb.set 0 (.slice (A.map (·.add n)) (rest.length - n) (c - n))
    · simp; omega
    · simp [maxLen]; omega
    · intro ad h0 e
      rcases A with _ | a
      · simp at e
      · simp at e
        rw [← e]
        have := HA.out a (fun h => h0 (by simp [h])) rfl
        rw [this]
        unfold Addr.add
        split <;> rfl

set_option maxHeartbeats 400000 in
theorem rfcut_no (w : World) (g : Nat) (d : Option Nat) (st : Option (List UInt8)) (hR : Rf w g d st) (n : Int) (hno : cutOk st n (decide (0 ≤ n)) = false) :
    Calls Tryz.prog 51 #[.pointer (some ⟨g, 0, none⟩), .int .i64 n] w (RfCut w g d [] none) := by
  obtain ⟨hne, A, c, rest, hb, hc, hm, hs, ha, hr⟩ := hR
  have c0 : w.cell? ⟨g, 0, none⟩ = some (.slice A rest.length c) := hb.cell 0
  have f1 : w.frozen? ⟨g, 1, none⟩ = false := hb.frozen 1
  have HF := Lib.hid (RfCut.fail hne hb hc hm hs ha)
  cases st with
  | none =>
    have c1 : w.cell? ⟨g, 1, none⟩ = some (.bool true) := hb.cell 1
    clear hne hb hs ha hr hno
    go_enter Tryz.func51, Tryz.ntmps51
    go_wp2
    go_ret
    exact HF.out
  | some l =>
    have c1 : w.cell? ⟨g, 1, none⟩ = some (.bool false) := hb.cell 1
    obtain rfl := hr l rfl
    by_cases h0 : n < 0
    · clear hne hb hs ha hr hno
      go_enter Tryz.func51, Tryz.ntmps51
      go_wp2
      go_ret
      exact HF.out
    · have h1 : (rest.length : Int) < n := by
        rcases Int.lt_or_le (rest.length : Int) n with h | h
        · exact h
        · exfalso
          have : cutOk (some rest) n (decide (0 ≤ n)) = true := by
            simp only [cutOk, Option.isSome_some, Bool.and_true, Bool.and_eq_true, decide_eq_true_eq, lenS, Option.getD_some]
            exact ⟨by omega, decide_eq_true h⟩
          rw [this] at hno
          cases hno
      clear hne hb hs ha hr hno
      go_enter Tryz.func51, Tryz.ntmps51
      go_wp2
      go_ret
      exact HF.out

theorem rfcut_s (w : World) (g : Nat) (d : Option Nat) (st : Option (List UInt8)) (hR : Rf w g d st) (n : Int) :
    Calls Tryz.prog 51 #[.pointer (some ⟨g, 0, none⟩), .int .i64 n] w (RfCut w g d (cutPiece st n (decide (0 ≤ n))) (cutRest st n (decide (0 ≤ n)))) := by
  cases h : cutOk st n (decide (0 ≤ n)) with
  | false => simpa [cutPiece, cutRest, h] using rfcut_no w g d st hR n h
  | true =>
    simp only [cutOk, Bool.and_eq_true, decide_eq_true_eq] at h
    obtain ⟨⟨h0, h1⟩, h2⟩ := h
    obtain ⟨k, rfl⟩ := Int.eq_ofNat_of_zero_le h0
    cases st with
    | none => simp at h1
    | some l =>
      simp [lenS] at h2
      simpa [cutPiece, cutRest, cutOk, lenS, h2] using rfcut_ok w g d l hR k h2

end Go.Proofs.YtbloomnifhcgbaaGreatDoor
namespace Go.Proofs.YtbloomnifhcgbaaGreatDoor
open Go.RowKit

/-- What Number answers. -/
def RfNum (w : World) (g : Nat) (d : Option Nat) (N : Nat) (st' : Option (List UInt8)) (e : Ending) (w' : World) : Prop :=
  e = .returned (.int .u64 N) ∧ Rf w' g d st' ∧ Keeps (· = g) w w' ∧ w'.heap.size = w.heap.size

theorem ofLe_drop (p : List UInt8) (j : Nat) (h : j < p.length) : ofLe (p.drop j) = p[j].toNat + 256 * ofLe (p.drop (j + 1)) := by
  rw [List.drop_eq_getElem_cons h]; rfl

set_option maxHeartbeats 400000 in
theorem rfnumber_s (w : World) (g : Nat) (d : Option Nat) (st : Option (List UInt8)) (hR : Rf w g d st) (Z : Int) :
    Calls Tryz.prog 23 #[.pointer (some ⟨g, 0, none⟩), .int .i64 Z] w (RfNum w g d (ofLe (cutPiece st Z (may Z))) (cutRest st Z (may Z))) := by
  cases hm : may Z with
  | false =>
    have HF : Hid (RfNum w g d (ofLe (cutPiece st Z false)) (cutRest st Z false) (.returned (.int .u64 0)) (w.setCell ⟨g, 1, none⟩ (.bool true))) := by
      obtain ⟨hne, A, c, rest, hb, hc, hm, hs, ha, hr⟩ := hR
      exact ⟨by simp [cutPiece, cutOk, ofLe], by simpa [cutRest, cutOk] using Rf.fail hne hb hc hm hs ha, (Keeps.refl _ _).setCell (by exact rfl) _, by simp⟩
    obtain ⟨hne, A, c, rest, hb, _⟩ := hR
    have c1 : w.cell? ⟨g, 1, none⟩ = some (.bool st.isNone) := hb.cell 1
    have f1 : w.frozen? ⟨g, 1, none⟩ = false := hb.frozen 1
    have Hm := Lib.hid hm
    clear hne hb hm
    go_enter Tryz.func23, Tryz.ntmps23
    go_wp2_with ((go_at_call 52; refine (dSize_any _ _).mono ?_; rintro e w' ⟨rfl, rfl⟩; rw [Hm.out]))
    go_ret
    exact HF.out
  | true =>
    have HR := Lib.hid hR
    have Hm := Lib.hid hm
    have hZ : 0 ≤ Z := by have := may_cases hm; omega
    have Hd : Hid (decide (0 ≤ Z) = true) := decide_eq_true hZ
    have hp8 : (cutPiece st Z true).length ≤ 8 := by
      have h1 := cutPiece_le st Z true
      have h2 := may_cases hm
      omega
    generalize hpe : cutPiece st Z true = p at hp8 ⊢
    generalize hse : cutRest st Z true = st' at *
    have Hpe := Lib.hid hpe
    have Hse := Lib.hid hse
    clear hR hpe hse hm
    go_enter Tryz.func23, Tryz.ntmps23
    go_wp2_with (first
      | (go_at_call 52; refine (dSize_any _ _).mono ?_; rintro e w' ⟨rfl, rfl⟩; rw [Hm.out])
      | (go_at_call 51; refine (rfcut_s _ _ _ _ HR.out Z).mono ?_; rw [Hd.out, Hpe.out, Hse.out]; rintro e w1 ⟨A, c, rfl, hs1, _, hR1, hk1, hz1, _, _⟩; have Hs1 := Lib.hid hs1; have Hfin := Lib.hid (And.intro hR1 (And.intro hk1 hz1)); clear hs1 hR1 hk1 hz1))
    go_loop [6, 7] (fun n i => ∃ k N : Nat, k ≤ p.length ∧ i = .int .i64 ((k : Int) - 1) ∧ n = .int .u64 N ∧ Hid (N = ofLe (p.drop k))) (fun _ i => (intOf i + 1).toNat)
    case atStart => exact ⟨p.length, 0, Nat.le_refl _, rfl, rfl, by show _ = _; rw [List.drop_length]; rfl⟩
    case round =>
      obtain ⟨k, N, hk, rfl, rfl, HN⟩ := hrel
      by_cases h0 : k = 0
      · subst h0
        have HT : Hid (N = ofLe p) := by show _ = _; rw [HN.out, List.drop_zero]
        go_wp2
        go_ret
        obtain ⟨h1, h2, h3⟩ := Hfin.out
        exact ⟨by rw [← HT.out]; rfl, h1, h2, h3⟩
      · obtain ⟨j, rfl⟩ : ∃ j, k = j + 1 := ⟨k - 1, by omega⟩
        have hN : N < 72057594037927936 := by
          rw [HN.out]
          have h1 := ofLe_lt (p.drop (j + 1))
          have h2 : 256 ^ (p.drop (j + 1)).length ≤ 256 ^ 7 := Nat.pow_le_pow_right (by omega) (by rw [List.length_drop]; omega)
          omega
        have hjl : j < p.length := by omega
        obtain ⟨b, off, rfl, hb, hc⟩ := Hs1.out.at_ hjl
        have cj : w1.cell? ⟨b, off + j, none⟩ = some (.int .u8 (p[j].toNat : Int)) := hc j hjl
        have hb256 : p[j].toNat < 256 := p[j].toNat_lt
        have HO := Lib.hid (ofLe_drop p j hjl)
        have e : (((j + 1 : Nat) : Int) - 1) = (j : Int) := by omega
        rw [e]
        clear hc e
        go_wp2
        go_round
        case rel => exact ⟨j, p[j].toNat + 256 * N, by omega, by go_num, by go_num, by show _ = _; rw [HO.out, HN.out]⟩
        case measure => simp [intOf]

/-- Was all read? -/
def doneB (st : Option (List UInt8)) : Bool := decide (st = some [])
set_option maxHeartbeats 400000 in
theorem rfdone_s (w : World) (g : Nat) (d : Option Nat) (st : Option (List UInt8)) (hR : Rf w g d st) : Calls Tryz.prog 25 #[.pointer (some ⟨g, 0, none⟩)] w fun e w' => e = .returned (.bool (doneB st)) ∧ w = w' := by
  obtain ⟨hne, A, c, rest, hb, hc, hm, hs, ha, hr⟩ := hR
  have c0 : w.cell? ⟨g, 0, none⟩ = some (.slice A rest.length c) := hb.cell 0
  cases st with
  | none =>
    have c1 : w.cell? ⟨g, 1, none⟩ = some (.bool true) := hb.cell 1
    have HF : Hid (doneB none = false) := rfl
    clear hne hb hs ha hr
    go_enter Tryz.func25, Tryz.ntmps25
    go_wp2
    go_ret
    rw [HF.out]
    exact ⟨rfl, rfl⟩
  | some l =>
    have c1 : w.cell? ⟨g, 1, none⟩ = some (.bool false) := hb.cell 1
    obtain rfl := hr l rfl
    have HF : Hid (doneB (some rest) = ((rest.length : Int) == 0)) := by
      show _ = _
      cases rest with
      | nil => rfl
      | cons b l =>
        simp [doneB]
        omega
    generalize rest.length = n at *
    generalize (some rest) = st at *
    clear hne hb hs ha hr
    go_enter Tryz.func25, Tryz.ntmps25
    go_wp2
    go_ret
    rw [HF.out]
    exact ⟨rfl, rfl⟩

end Go.Proofs.YtbloomnifhcgbaaGreatDoor
namespace Go.Proofs.YtbloomnifhcgbaaGreatDoor
open Go.RowKit

/-- A hash of which the first k bytes are p's. -/
def hcopy (p : List UInt8) (k : Nat) : List UInt8 := p.take k ++ zero32.drop k
theorem hcopy_len (p : List UInt8) (k : Nat) (h : k ≤ p.length) (h2 : p.length ≤ 32) : (hcopy p k).length = 32 := by
  simp [hcopy, zero32]; omega
theorem hcopy_set (p : List UInt8) (k : Nat) (h : k < p.length) (h2 : p.length ≤ 32) : (By (hcopy p k)).toArray.setIfInBounds k (.int .u8 (p[k].toNat : Int)) = (By (hcopy p (k + 1))).toArray := by
  simp only [List.setIfInBounds_toArray]
  congr 1
  have hz : zero32.drop k = 0 :: zero32.drop (k + 1) := by
    have hk : k < zero32.length := by simp [zero32]; omega
    have e0 : zero32[k] = 0 := by
      unfold zero32
      exact List.getElem_replicate _
    rw [List.drop_eq_getElem_cons hk, e0]
  have e : (By (p.take k)).length = k := by simp [By]; omega
  rw [hcopy, hcopy, By_append, hz, List.take_succ_eq_append_getElem h, By_append, By_append]
  rw [List.set_append_right _ _ (by omega), e, Nat.sub_self]
  simp [By]
theorem hcopy_over (p : List UInt8) (h2 : p.length ≤ 32) : hcopy p p.length = over zero32 p 32 := by
  unfold hcopy over
  have : Nat.min p.length 32 = p.length := Nat.min_eq_left h2
  rw [this, List.take_length, List.take_of_length_le h2]
theorem hcopy_some (p : List UInt8) (k : Nat) (h : k < p.length) (h2 : p.length ≤ 32) : ∃ q : Int, (By (hcopy p k)).toArray[k]? = some (.int .u8 q) := by
  have hl := hcopy_len p k (by omega) h2
  exact ⟨((hcopy p k)[k]'(by omega)).toNat, by simp [By, show k < (hcopy p k).length by omega]⟩

theorem Blk.second' (w : World) (o : Obj) (t : TypeId) (cs : Array Value) : Blk ((w.alloc o).alloc (.cells cs t)) (w.heap.size + 1) t cs := Blk.second w o t cs
theorem Blk.first' (w : World) (o : Obj) (t : TypeId) (cs : Array Value) : Blk ((w.alloc (.cells cs t)).alloc o) w.heap.size t cs := Blk.first w o t cs
theorem below_two' (w : World) (o o' : Obj) : Below w.heap.size w ((w.alloc o).alloc o') := ((Below.refl _ _).alloc (Nat.le_refl _) _).alloc (by simp) _

set_option maxHeartbeats 400000 in
set_option maxRecDepth 100000 in
theorem rfhash_s (w : World) (g : Nat) (d : Option Nat) (st : Option (List UInt8)) (hR : Rf w g d st) :
    Calls Tryz.prog 50 #[.pointer (some ⟨g, 0, none⟩)] w fun e w' => e = .returned (.agg (By (over zero32 (cutPiece st 32 true) 32)).toArray) ∧ Rf w' g d (cutRest st 32 true) ∧ Keeps (· = g) w w' := by
  have hg := hR.lt
  have Hd : Hid (∀ k, d = some k → k < w.heap.size) := fun k e => (hR.1 k e).2
  have HR := Lib.hid hR
  have hp32 := cutPiece_le st 32 true
  clear hR
  generalize hp : cutPiece st 32 true = p at *
  generalize hr : cutRest st 32 true = st' at *
  have Hp : Hid (cutPiece st 32 (decide (0 ≤ (32 : Int))) = p) := hp
  have Hr : Hid (cutRest st 32 (decide (0 ≤ (32 : Int))) = st') := hr
  clear hp hr
  have h32 : p.length ≤ 32 := hp32
  clear hp32
  go_enter Tryz.func50, Tryz.ntmps50
  go_wp2_with (go_at_call 51; refine (rfcut_s _ _ _ _ (HR.out.below (below_two' w _ _)) 32).mono ?_; rw [Hp.out, Hr.out]; rintro e w1 ⟨A, c, rfl, hs1, ha1, hR1, hk1, hz1, _, _⟩; have Hs1 := Lib.hid hs1; have Ha1 := Lib.hid ha1; have HB1 := Lib.hid ((Blk.second' w _ 26 (By zero32).toArray).keeps hk1 (by omega)); have HB0 := Lib.hid ((Blk.first' w _ 26 (By zero32).toArray).keeps hk1 (by omega)); have HR1 := Lib.hid hR1; have Hk1 := Lib.hid hk1; have hz2 : w1.heap.size = w.heap.size + 2 := (by rw [hz1]; simp); have Hz1 := Lib.hid hz2; clear hs1 ha1 hR1 hk1 hz1 hz2)
  go_loopw [5] (fun i wr => ∃ k : Nat, k ≤ p.length ∧ i = .int .i64 k ∧ Hid (Blk wr (w.heap.size + 1) 26 (By (hcopy p k)).toArray) ∧ Hid (Keeps (· = w.heap.size + 1) w1 wr)) (fun i _ => p.length - (intOf i).toNat)
  case atStart => exact ⟨0, Nat.zero_le _, rfl, HB1.out, Keeps.refl _ _⟩
  case round =>
    obtain ⟨k, hk, rfl, HB, HK⟩ := hrel
    by_cases hlt : k < p.length
    · have hs := Hs1.out.keeps2 HK.out (fun h0 ad e _ => by have := Hd.out _ (Ha1.out ad h0 e); omega)
      obtain ⟨b, off, rfl, hb, hc⟩ := hs.at_ hlt
      have ck : wr.cell? ⟨b, off + k, none⟩ = some (.int .u8 (p[k].toNat : Int)) := hc k hlt
      obtain ⟨q, hq⟩ := hcopy_some p k hlt h32
      have cq : wr.cell? ⟨w.heap.size + 1, k, none⟩ = some (.int .u8 q) := (HB.out.cell k).trans hq
      have fq : wr.frozen? ⟨w.heap.size + 1, k, none⟩ = false := HB.out.frozen k
      have HSt := Lib.hid (hcopy_set p k hlt h32)
      have hk32 : (k : Int) < 32 := by omega
      clear hs hc hq
      go_wp2
      go_roundw
      case rel => exact ⟨k + 1, by omega, by go_num, by show Blk _ _ _ _; rw [← HSt.out]; exact HB.out.set k _, HK.out.setCell (by exact rfl) _⟩
      case measure => simp [intOf]; omega
    · obtain rfl : k = p.length := by omega
      have HX : Hid (Blk wr (w.heap.size + 1) 26 (By (over zero32 p 32)).toArray) := by
        show Blk _ _ _ _
        rw [← hcopy_over p h32]; exact HB.out
      have HB4 : Hid (Blk wr w.heap.size 26 (By zero32).toArray) := HB0.out.keeps HK.out (by omega)
      have HO := Lib.hid (hsize_over p)
      have HZ := Lib.hid (size_over p)
      go_wp2_with (first
        | ((with_reducible show wpList _ _ _ (⟨some 20, _, _, _, _, _⟩ :: _) _ _); refine wpList_load_row rfl 26 (.tmp 3) rfl (w.heap.size + 1) rfl 26 (By (over zero32 p 32)).toArray (0, 0) _ HX.out Tryz.underlying26 rfl HO.out ?_)
        | ((with_reducible show wpList _ _ _ (⟨none, _, _, _, _, _⟩ :: _) _ _); refine wpList_store_all rfl 26 (.tmp 2) (.tmp 20) rfl w.heap.size 26 (By zero32).toArray (By (over zero32 p 32)).toArray rfl rfl HB4.out HZ.out HO.out (By_one _) ?_; intro w5 h5 h6 h7; have H5 := Lib.hid h5; have H6 := Lib.hid h6; have H7 := Lib.hid h7; clear h5 h6 h7))
      refine bodyPost_ret (results_cell_row Tryz.results50 _ _ w.heap.size 26 _ (0, 0) _ rfl H5.out Tryz.underlying26 rfl HO.out) rfl ⟨rfl, ?_, ?_⟩
      · exact (HR1.out.keeps HK.out (by omega) (fun k e => by have := Hd.out k e; omega)).keeps H6.out (by omega) (fun k e => by have := Hd.out k e; omega)
      · have k1 : Keeps (· = g) w w1 := (Keeps.of_below (below_two' w _ _) _).trans Hk1.out
        have z1 := Hz1.out
        have z2 := HK.out.size
        exact ⟨H6.out.os.trans (HK.out.os.trans k1.os), H6.out.tape.trans (HK.out.tape.trans k1.tape), H6.out.output.trans (HK.out.output.trans k1.output), by have := H7.out; omega,
          fun k hk hn => (H6.out.block k (by omega) (by omega)).trans ((HK.out.block k (by omega) (by omega)).trans (k1.block k hk hn))⟩

end Go.Proofs.YtbloomnifhcgbaaGreatDoor
namespace Go.Proofs.YtbloomnifhcgbaaGreatDoor
open Go.RowKit

/-- Where the argument's bytes lie. -/
def tdOf (bs : List UInt8) (A : Option Addr) : Option Nat := if bs = [] then none else A.map (·.block)
theorem Rf.made {w w2 : World} {A : Option Addr} {c : Nat} {bs : List UInt8} (hs : Sees w w.heap.size A bs) (hc : bs.length ≤ c) (hm : c ≤ maxLen) (hb : Below w.heap.size w w2) :
    Rf (w2.alloc (.cells #[.slice A bs.length c, .bool false] 59)) w2.heap.size (tdOf bs A) (some bs) := by
  refine ⟨?_, A, c, bs, heap_alloc_new w2 _, hc, hm, ((hs.later hb).alloc _).size, ?_, fun l e => by injection e⟩
  · intro k hk
    unfold tdOf at hk
    split at hk
    · cases hk
    · rename_i h0
      rcases hs with h | ⟨b, off, rfl, hlt, _⟩
      · exact absurd h h0
      · simp at hk; subst hk
        have := hb.size
        simp; omega
  · intro ad h0 e
    subst e
    simp [tdOf, h0]
theorem tdOf_lt {w : World} {A : Option Addr} {bs : List UInt8} (hs : Sees w w.heap.size A bs) : ∀ k, tdOf bs A = some k → k < w.heap.size := by
  intro k hk
  unfold tdOf at hk
  split at hk
  · cases hk
  · rename_i h0
    rcases hs with h | ⟨b, off, rfl, hlt, _⟩
    · exact absurd h h0
    · simp at hk; subst hk; exact hlt
theorem nil_own (w : World) (base size : Nat) (e : TypeId) : w.ownsRow base e size (.slice none 0 0) 0 [] := ⟨by simp, .inl ⟨rfl, rfl⟩⟩
end Go.Proofs.YtbloomnifhcgbaaGreatDoor
