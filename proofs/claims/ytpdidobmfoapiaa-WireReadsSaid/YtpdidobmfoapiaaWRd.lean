/-
  WireReads: the walk.
-/
import Derived.Test.YtpdidobmfoapiaaRef3
import Derived.Test.YtpdidobmfoapiaaWWr
import Derived.Test.YtpdidobmfoapiaaEq
import Derived.Deep.RegionHeld3
namespace Go.Proofs.Ytpdidobmfoapiaa
open Go.RowKit

/-- Where the argument's bytes lie. -/
def dOf (bs : List UInt8) (A : Option Addr) : Option Nat := if bs = [] then none else A.map (·.block)
theorem Rf.new {w w2 : World} {A : Option Addr} {c : Nat} {bs : List UInt8} (hs : Sees w w.heap.size A bs) (hc : bs.length ≤ c) (hm : c ≤ maxLen) (hb : Below w.heap.size w w2) :
    Rf (w2.alloc (.cells #[.slice A bs.length c, .bool false] 43)) w2.heap.size (dOf bs A) (some bs) := by
  refine ⟨?_, A, c, bs, heap_alloc_new w2 _, hc, hm, ((hs.later hb).alloc _).size, ?_, fun l e => by injection e⟩
  · intro k hk
    unfold dOf at hk
    split at hk
    · cases hk
    · rename_i h0
      rcases hs with h | ⟨b, off, rfl, hlt, _⟩
      · exact absurd h h0
      · simp at hk; subst hk
        have := hb.size
        simp; omega
  · intro ad h0 e
    subst e
    simp [dOf, h0]
theorem dOf_lt {w : World} {A : Option Addr} {bs : List UInt8} (hs : Sees w w.heap.size A bs) : ∀ k, dOf bs A = some k → k < w.heap.size := by
  intro k hk
  unfold dOf at hk
  split at hk
  · cases hk
  · rename_i h0
    rcases hs with h | ⟨b, off, rfl, hlt, _⟩
    · exact absurd h h0
    · simp at hk; subst hk; exact hlt

/-- What holds of both readers at the head of a round. -/
structure Both (w : World) (z g g' : Nat) (d d' : Option Nat) (st : Option (List UInt8)) (wr : World) : Prop where
  rd : Rd wr g d st
  rf : Rf wr g' d' st
  below : Below w.heap.size w wr
  len : lenS st ≤ 9000
  lg : z ≤ g
  lg' : z ≤ g'
  ne : g ≠ g'
  ld : ∀ k, d = some k → z ≤ k ∧ k ≠ g'
  ld' : ∀ k, d' = some k → k < w.heap.size
  zz : w.heap.size ≤ z

theorem Both.store {w wr : World} {z g g' gb : Nat} {d d' : Option Nat} {st : Option (List UInt8)} (h : Both w z g g' d d' st wr) (h1 : w.heap.size ≤ gb) (h2 : gb < z) {j : Nat} (u : Value) : Both w z g g' d d' st (wr.setCell ⟨gb, j, none⟩ u) := by
  have hk : Keeps (· = gb) wr (wr.setCell ⟨gb, j, none⟩ u) := (Keeps.refl _ _).setCell (by exact rfl) u
  have a1 := h.lg
  have a2 := h.lg'
  exact ⟨h.rd.keeps hk (by omega) (fun k e => by have := (h.ld k e).1; omega), h.rf.keeps hk (by omega) (fun k e => by have := h.ld' k e; omega), h.below.setCell (by exact h1) u, h.len, h.lg, h.lg', h.ne, h.ld, h.ld', h.zz⟩

theorem Keeps.undrew {S : Nat → Prop} {w w' : World} (h : Keeps S w.drew w') : Keeps S w w' := ⟨h.os, h.tape, h.output, h.size, h.block⟩
theorem Rd.drew {w : World} {g : Nat} {d : Option Nat} {st : Option (List UInt8)} (h : Rd w g d st) : Rd w.drew g d st := h
theorem Both.step {w wr w3 w4 : World} {z g g' : Nat} {d d' : Option Nat} {st st' : Option (List UInt8)} (h : Both w z g g' d d' st wr) (k1 : Keeps (· = g) wr w3) (r1 : Rd w3 g d st') (k2 : Keeps (· = g') w3 w4) (r2 : Rf w4 g' d' st') (hl : lenS st' ≤ lenS st) :
    Both w z g g' d d' st' w4 := by
  have a1 := h.lg
  have a2 := h.lg'
  have a3 := h.zz
  have a4 := h.len
  have b1 := h.below.trans (k1.below h.below.size (fun k hk => by omega))
  exact ⟨r1.keeps k2 h.ne (fun k e => (h.ld k e).2), r2, b1.trans (k2.below b1.size (fun k hk => by omega)), by omega, h.lg, h.lg', h.ne, h.ld, h.ld', h.zz⟩
theorem Both.rf1 {w wr w3 : World} {z g g' : Nat} {d d' : Option Nat} {st : Option (List UInt8)} (h : Both w z g g' d d' st wr) (k1 : Keeps (· = g) wr w3) : Rf w3 g' d' st := by
  have a1 := h.lg
  have a3 := h.zz
  exact h.rf.keeps k1 (fun e => h.ne e.symm) (fun k e => by have := h.ld' k e; omega)
theorem Both.cell1 {w wr w3 : World} {z g g' : Nat} {d d' : Option Nat} {st : Option (List UInt8)} (h : Both w z g g' d d' st wr) (k1 : Keeps (· = g) wr w3) {b o : Nat} {v : Value} (hb : b < w.heap.size) (hc : wr.cell? ⟨b, o, none⟩ = some v) : w3.cell? ⟨b, o, none⟩ = some v := by
  have a1 := h.lg
  have a3 := h.zz
  exact (k1.cell (p := ⟨b, o, none⟩) (World.block_lt_of_cell? _ _ hc) (show b ≠ g by omega)).trans hc
theorem Both.cell2 {w wr w3 w4 : World} {z g g' : Nat} {d d' : Option Nat} {st : Option (List UInt8)} (h : Both w z g g' d d' st wr) (k1 : Keeps (· = g') w3 w4) {b o : Nat} {v : Value} (hb : b < w.heap.size) (hc : w3.cell? ⟨b, o, none⟩ = some v) : w4.cell? ⟨b, o, none⟩ = some v := by
  have a1 := h.lg'
  have a3 := h.zz
  exact (k1.cell (p := ⟨b, o, none⟩) (World.block_lt_of_cell? _ _ hc) (show b ≠ g' by omega)).trans hc

/-- A call that answers v and leaves the world. -/
def Ans (f : Nat) (p : Value) (v : Value) (w : World) : Prop := Calls Try.prog f #[p] w fun e w' => e = .returned v ∧ w = w'
/-- What the round's end asks: three ways. -/
theorem Both.ways {w wr : World} {z g g' : Nat} {d d' : Option Nat} {st : Option (List UInt8)} (h : Both w z g g' d d' st wr) :
    (∃ A c m, wr.cell? ⟨g', 0, none⟩ = some (.slice A m c) ∧ wr.cell? ⟨g', 1, none⟩ = some (.bool true) ∧ Ans 24 (.pointer (some ⟨g, 0, none⟩)) (.int .i64 0) wr ∧ Ans 25 (.pointer (some ⟨g, 0, none⟩)) (.int .i64 4) wr ∧ Ans 26 (.pointer (some ⟨g', 0, none⟩)) (.bool false) wr) ∨
    (∃ A c m, m ≤ 9000 ∧ wr.cell? ⟨g', 0, none⟩ = some (.slice A m c) ∧ wr.cell? ⟨g', 1, none⟩ = some (.bool false) ∧ Ans 24 (.pointer (some ⟨g, 0, none⟩)) (.int .i64 (m : Nat)) wr ∧ Ans 25 (.pointer (some ⟨g, 0, none⟩)) (.int .i64 0) wr ∧ Ans 26 (.pointer (some ⟨g', 0, none⟩)) (.bool true) wr) ∨
    (∃ A c m, m ≤ 9000 ∧ wr.cell? ⟨g', 0, none⟩ = some (.slice A m c) ∧ wr.cell? ⟨g', 1, none⟩ = some (.bool false) ∧ Ans 24 (.pointer (some ⟨g, 0, none⟩)) (.int .i64 (m : Nat)) wr ∧ Ans 25 (.pointer (some ⟨g, 0, none⟩)) (.int .i64 4) wr ∧ Ans 26 (.pointer (some ⟨g', 0, none⟩)) (.bool false) wr) := by
  have hl := left_s _ _ _ _ h.rd
  have he := rend_s _ _ _ _ h.rd
  have hd := rfdone_s _ _ _ _ h.rf
  have hlen := h.len
  obtain ⟨_, A, c, rest, hb, _, _, _, _, hr⟩ := h.rf
  cases st with
  | none => exact .inl ⟨A, c, rest.length, hb.cell 0, hb.cell 1, hl, he, hd⟩
  | some l =>
    obtain rfl := hr l rfl
    cases rest with
    | nil => exact .inr (.inl ⟨A, c, 0, by omega, hb.cell 0, hb.cell 1, hl, he, hd⟩)
    | cons x l =>
      have e1 : rend (some (x :: l)) = 4 := by simp [rend]
      have e2 : doneB (some (x :: l)) = false := by simp [doneB]
      rw [e1] at he
      rw [e2] at hd
      exact .inr (.inr ⟨A, c, (x :: l).length, hlen, hb.cell 0, hb.cell 1, hl, he, hd⟩)

set_option maxHeartbeats 4000000 in
set_option maxRecDepth 100000 in
theorem wireReads_any (w : World) (A : Option Addr) (n c : Nat) (bs : List UInt8) (hn : n = bs.length) (hs : Sees w w.heap.size A bs) (hc : bs.length ≤ c) (hcm : c ≤ maxLen)
    (AL : Option Addr) (nL cL : Nat) (L : List Prt) (hnL : nL = L.length) (hS : PSees w w.heap.size AL L) (hmaxL : nL ≤ 9223372036854775807) :
    Calls Try.prog 4 #[.slice A n c, .slice AL nL cL] w fun e w' => e = .returned (.bool true) ∧ Below w.heap.size w w' := by
  have hcm' : c ≤ 9223372036854775807 := hcm
  subst hn hnL
  by_cases h1 : 9000 < bs.length
  · have h1' : (9000 : Int) < bs.length := by omega
    clear hs hS hcm
    go_enter Try.func4, Try.ntmps4
    go_wp2_with (go_at_call 9; refine (known_any _).mono ?_; rintro e w1 ⟨rfl, hb1⟩)
    go_ret
    exact ⟨rfl, hb1⟩
  by_cases h2 : 40 < L.length
  · have h1' : ¬ (9000 : Int) < bs.length := by omega
    have h2' : (40 : Int) < L.length := by omega
    clear hs hS hcm
    go_enter Try.func4, Try.ntmps4
    go_wp2_with (go_at_call 9; refine (known_any _).mono ?_; rintro e w1 ⟨rfl, hb1⟩)
    go_ret
    exact ⟨rfl, hb1⟩
  have h1' : ¬ (9000 : Int) < bs.length := by omega
  have h2' : ¬ (40 : Int) < L.length := by omega
  have Hs := Lib.hid hs
  have HS := Lib.hid hS
  have Hcm := Lib.hid hcm
  clear hs hS hcm
  obtain ⟨i0, hi, hz0, hz1, hz2⟩ := info_parts Try.u8info
  go_enter Try.func4, Try.ntmps4
  go_wp2_with (first
    | (at_builtin; refine wpList_append_sees rfl (.const (.slice none 0 0)) (.tmp 21) 25 rfl w.heap.size 5 i0 (.int .u8 0) Try.underlying25 hi hz0 hz1 hz2 rfl (.slice none 0 0) 0 [] rfl (World.ownsRow_nil _ _ _ _) _ A bs.length c bs rfl rfl Hs.out (by omega) (Nat.le_refl _) ?_; intro v' w1 hown hgr hat; simp only [Nat.zero_add, List.nil_append] at hown; obtain ⟨A1, c1, rfl⟩ := own_form hown; have Ho1 := Lib.hid hown; have Hb1 := Lib.hid ((Below.refl w.heap.size w).grown hgr (Nat.le_refl _) (fun k hk => by simp [Value.ownBlock] at hk)); clear hown hgr hat)
    | (go_at_call 14; refine (read_any _ _ _ _ _ bs rfl (Sees.own Ho1.out) (by omega)).mono ?_; rintro e w2 ⟨g, d, rfl, hg, hd, hR, hb2⟩; have HR := Lib.hid hR; have Hd := Lib.hid hd; have Hb2 := Lib.hid hb2; clear hR hd hb2))
  have HB : Hid (Both w w1.heap.size g w2.heap.size d (dOf bs A) (some bs) (w2.alloc (.cells #[.slice A bs.length c, .bool false] 43))) := by
    have hz := Hb1.out.size
    have hw2 : Below w.heap.size w w2 := Hb1.out.trans (Hb2.out.mono hz)
    have hgl := HR.out.lt
    exact ⟨HR.out.below ((Below.refl _ _).alloc (Nat.le_refl _) _), Rf.new Hs.out hc Hcm.out hw2, hw2.alloc hw2.size _, by simp [lenS]; omega, hg, Hb2.out.size, by omega, fun k e => ⟨Hd.out k e, by have := (HR.out.1 k e).2; omega⟩, dOf_lt Hs.out, hz⟩
  have Hz1 : Hid (∀ k, (Value.slice A1 bs.length c1).ownBlock = some k → w.heap.size ≤ k ∧ k < w1.heap.size) := fun k hk => Ho1.out.lt k hk
  have Ho2 : Hid ((w2.alloc (.cells #[.slice A bs.length c, .bool false] 43)).ownsRow w.heap.size 5 1 (.slice A1 bs.length c1) bs.length (By bs)) :=
    (own_below Ho1.out Hb2.out (fun k hk => (Ho1.out.lt k hk).2)).alloc _
  clear HR Hd Ho1
  go_loopw [8] (fun i wx => ∃ (j : Nat) (l2 : List UInt8), j ≤ bs.length ∧ i = .int .i64 j ∧ Hid (l2.length = bs.length) ∧ Hid (wx.ownsRow w.heap.size 5 1 (.slice A1 bs.length c1) bs.length (By l2)) ∧ Hid (Both w w1.heap.size g w2.heap.size d (dOf bs A) (some bs) wx)) (fun i _ => bs.length - (intOf i).toNat)
  case atStart => exact ⟨0, bs, Nat.zero_le _, rfl, rfl, Ho2.out, HB.out⟩
  case round =>
    obtain ⟨j, l2, hj, rfl, Hl2, Ho, HB⟩ := hrel
    by_cases hjl : j < bs.length
    · have hjl2 : j < l2.length := by rw [Hl2.out]; exact hjl
      obtain ⟨gb, rfl, hgb, hcell, hfr, hset⟩ := own_byte Ho.out hjl2
      have hgz : gb < w1.heap.size := (Hz1.out gb rfl).2
      have hlt256 : l2[j].toNat < 256 := l2[j].toNat_lt
      have Hset := Lib.hid hset
      clear hset
      have HE : Hid (((UInt8.ofNat ((l2[j].toNat + 1) % 256)).toNat : Int) = ((l2[j].toNat : Int) + 1) % 256) := by show _ = _; rw [u8_mod]; omega
      go_wp2
      go_roundw
      case rel => exact ⟨j + 1, l2.set j (UInt8.ofNat ((l2[j].toNat + 1) % 256)), by omega, by go_num, by show _ = _; rw [List.length_set]; exact Hl2.out, by show World.ownsRow _ _ _ _ _ _ _; rw [← HE.out]; exact Hset.out _, HB.out.store hgb hgz _⟩
      case measure => simp [intOf]; omega
    · obtain rfl : j = bs.length := by omega
      obtain ⟨wo, rfl⟩ : ∃ wo : World, wo = wr := ⟨_, rfl⟩
      go_wp2
      go_loopw [9] (fun i wx => ∃ (k : Nat) (st : Option (List UInt8)), k ≤ L.length ∧ i = .int .i64 k ∧ Hid (Both w w1.heap.size g w2.heap.size d (dOf bs A) st wx)) (fun i _ => L.length - (intOf i).toNat)
      case atStart => exact ⟨0, some bs, Nat.zero_le _, rfl, HB.out⟩
      case round =>
        obtain ⟨k, st, hk, rfl, HB⟩ := hrel
        by_cases hlt : k < L.length
        · obtain ⟨b, off, rfl, hb, hr, hok⟩ := (HS.out.below HB.out.below).at_ hlt
          have cy : wr.cell? ⟨b, off + k * 36, none⟩ = some (.int .i64 L[k].kind) := by simpa using hr 0 _ rfl
          have cz : wr.cell? ⟨b, off + k * 36 + 1, none⟩ = some (.int .i64 L[k].size) := hr 1 _ rfl
          clear hr hok
          by_cases hk1 : L[k].kind = 1
          · rw [hk1] at cy
            clear hk1
            generalize L[k].size = Z at *
            go_wp2
            go_region_held3 (fun W => W.cell? ⟨b, off + k * 36 + 1, none⟩ = some (.int .i64 Z))
              (first | exact cz | exact cza | exact czb)
              (first
                | (go_at_call 15; refine (rnumber_s _ _ _ _ HB.out.rd.drew Z).mono ?_; rintro e w3 ⟨rfl, hR3, hk3', hz3⟩; have hk3 := hk3'.undrew; clear hk3'; have cza := HB.out.cell1 hk3 hb cz; have Hf3 := Lib.hid (HB.out.rf1 hk3); have HR3 := Lib.hid hR3; have Hk3 := Lib.hid hk3; clear hR3 hk3 hz3)
                | (go_at_call 16; refine (rfnumber_s _ _ _ _ Hf3.out Z).mono ?_; rintro e w4 ⟨rfl, hR4, hk4, hz4⟩; have czb := HB.out.cell2 hk4 hb cza; have HB4 := Lib.hid (HB.out.step Hk3.out HR3.out hk4 hR4 (lenS_cutRest _ _ _)); clear hR4 hk4 hz4))
            rcases HB4.out.ways with ⟨A5, c5, m5, e0, e1, hL, hE, hD⟩ | ⟨A5, c5, m5, hm5, e0, e1, hL, hE, hD⟩ | ⟨A5, c5, m5, hm5, e0, e1, hL, hE, hD⟩
            all_goals
              have HL := Lib.hid hL
              have HE := Lib.hid hE
              have HD := Lib.hid hD
              clear hL hE hD
              go_wp2_with (first
                | (go_at_call 24; refine (Calls.mono HL.out ?_); rintro e w' ⟨rfl, rfl⟩)
                | (go_at_call 25; refine (Calls.mono HE.out ?_); rintro e w' ⟨rfl, rfl⟩)
                | (go_at_call 26; refine (Calls.mono HD.out ?_); rintro e w' ⟨rfl, rfl⟩)
                | (go_at_call 13; refine (num_any _ _).mono ?_; rintro e w' ⟨rfl, rfl⟩))
              go_roundw
              case rel => exact ⟨k + 1, _, by omega, by go_num, HB4.out⟩
              case measure => simp [intOf]; omega
          by_cases hk2 : L[k].kind = 2
          · rw [hk2] at cy
            clear hk1 hk2
            generalize L[k].size = Z at *
            generalize hp : cutPiece st Z (decide (0 ≤ Z)) = p at *
            generalize hst : cutRest st Z (decide (0 ≤ Z)) = st' at *
            have Hp := Lib.hid hp
            have Hst := Lib.hid hst
            have Hls : Hid (lenS st' ≤ lenS st) := by show _ ≤ _; rw [← hst]; exact lenS_cutRest _ _ _
            clear hp hst
            go_wp2
            go_region_with (first
                | (go_at_call 17; refine (rbytes_s _ _ _ _ HB.out.rd.drew Z (by have := HB.out.len; omega)).mono ?_; rw [Hp.out, Hst.out]; rintro e w3 ⟨A3, c3, rfl, ho3, hR3, hk3'⟩; have hk3 := hk3'.undrew; clear hk3'; have cza := HB.out.cell1 hk3 hb cz; have Hf3 := Lib.hid (HB.out.rf1 hk3); have HR3 := Lib.hid hR3; have Hk3 := Lib.hid hk3; have HS3 := Lib.hid (Sees.own ho3); have Ho3 : Hid (∀ ad, A3 = some ad → wr.heap.size ≤ ad.block) := (fun ad e => by subst e; exact (ho3.lt ad.block rfl).1); have q3 : (convert 25 9 (.slice A3 p.length c3)).run Try.prog w3 = .ok (.string (Str p)) w3 := (run_string_sees Try.underlying25 Try.underlying5 Try.underlying9 rfl HS3.out); clear hR3 hk3 ho3)
                | (go_at_call 18; refine (rfcut_s _ _ _ _ Hf3.out Z).mono ?_; rw [Hp.out, Hst.out]; rintro e w4 ⟨A4, c4, rfl, hs4, ha4, hR4, hk4, hz4⟩; have czb := HB.out.cell2 hk4 hb cza; have q4 : (convert 25 9 (.slice A4 p.length c4)).run Try.prog w4 = .ok (.string (Str p)) w4 := (run_string_sees Try.underlying25 Try.underlying5 Try.underlying9 rfl hs4); have q34 : (convert 25 9 (.slice A3 p.length c3)).run Try.prog w4 = .ok (.string (Str p)) w4 := (run_string_sees Try.underlying25 Try.underlying5 Try.underlying9 rfl (HS3.out.keeps hk4 (fun ad e _ => by have := Ho3.out ad e; have := HB.out.rf.lt; omega))); have HB4 := Lib.hid (HB.out.step Hk3.out HR3.out hk4 hR4 Hls.out); clear hs4 ha4 hR4 hk4 hz4))
            all_goals
              rcases HB4.out.ways with ⟨A5, c5, m5, e0, e1, hL, hE, hD⟩ | ⟨A5, c5, m5, hm5, e0, e1, hL, hE, hD⟩ | ⟨A5, c5, m5, hm5, e0, e1, hL, hE, hD⟩
              all_goals
                have HL := Lib.hid hL
                have HE := Lib.hid hE
                have HD := Lib.hid hD
                clear hL hE hD
                go_wp2_with (first
                  | (go_at_call 24; refine (Calls.mono HL.out ?_); rintro e w' ⟨rfl, rfl⟩)
                  | (go_at_call 25; refine (Calls.mono HE.out ?_); rintro e w' ⟨rfl, rfl⟩)
                  | (go_at_call 26; refine (Calls.mono HD.out ?_); rintro e w' ⟨rfl, rfl⟩)
                  | (go_at_call 13; refine (num_any _ _).mono ?_; rintro e w' ⟨rfl, rfl⟩))
                go_roundw
                case rel => exact ⟨k + 1, _, by omega, by go_num, HB4.out⟩
                case measure => simp [intOf]; omega
          by_cases hk3 : L[k].kind = 3
          · rw [hk3] at cy
            clear hk1 hk2 hk3
            generalize hp : blobPiece st = p at *
            generalize hst : blobRest st = st' at *
            have Hp := Lib.hid hp
            have Hst := Lib.hid hst
            have Hls : Hid (lenS st' ≤ lenS st) := by show _ ≤ _; rw [← hst]; exact Nat.le_trans (lenS_cutRest _ _ _) (lenS_cutRest _ _ _)
            clear hp hst
            go_wp2
            go_region_with (first
                | (go_at_call 19; refine (rblob_s _ _ _ _ HB.out.rd.drew (by have := HB.out.len; omega)).mono ?_; rw [Hp.out, Hst.out]; rintro e w3 ⟨A3, c3, rfl, ho3, hR3, hk3'⟩; have hk3 := hk3'.undrew; clear hk3'; have Hf3 := Lib.hid (HB.out.rf1 hk3); have HR3 := Lib.hid hR3; have Hk3 := Lib.hid hk3; have HS3 := Lib.hid (Sees.own ho3); have Ho3 : Hid (∀ ad, A3 = some ad → wr.heap.size ≤ ad.block) := (fun ad e => by subst e; exact (ho3.lt ad.block rfl).1); have q3 : (convert 25 9 (.slice A3 p.length c3)).run Try.prog w3 = .ok (.string (Str p)) w3 := (run_string_sees Try.underlying25 Try.underlying5 Try.underlying9 rfl HS3.out); clear hR3 hk3 ho3)
                | (go_at_call 20; refine (rfblob_s _ _ _ _ Hf3.out).mono ?_; rw [Hp.out, Hst.out]; rintro e w4 ⟨A4, c4, rfl, hs4, ha4, hR4, hk4, hz4⟩; have q4 : (convert 25 9 (.slice A4 p.length c4)).run Try.prog w4 = .ok (.string (Str p)) w4 := (run_string_sees Try.underlying25 Try.underlying5 Try.underlying9 rfl hs4); have q34 : (convert 25 9 (.slice A3 p.length c3)).run Try.prog w4 = .ok (.string (Str p)) w4 := (run_string_sees Try.underlying25 Try.underlying5 Try.underlying9 rfl (HS3.out.keeps hk4 (fun ad e _ => by have := Ho3.out ad e; have := HB.out.rf.lt; omega))); have HB4 := Lib.hid (HB.out.step Hk3.out HR3.out hk4 hR4 Hls.out); clear hs4 ha4 hR4 hk4 hz4))
            all_goals
              rcases HB4.out.ways with ⟨A5, c5, m5, e0, e1, hL, hE, hD⟩ | ⟨A5, c5, m5, hm5, e0, e1, hL, hE, hD⟩ | ⟨A5, c5, m5, hm5, e0, e1, hL, hE, hD⟩
              all_goals
                have HL := Lib.hid hL
                have HE := Lib.hid hE
                have HD := Lib.hid hD
                clear hL hE hD
                go_wp2_with (first
                  | (go_at_call 24; refine (Calls.mono HL.out ?_); rintro e w' ⟨rfl, rfl⟩)
                  | (go_at_call 25; refine (Calls.mono HE.out ?_); rintro e w' ⟨rfl, rfl⟩)
                  | (go_at_call 26; refine (Calls.mono HD.out ?_); rintro e w' ⟨rfl, rfl⟩)
                  | (go_at_call 13; refine (num_any _ _).mono ?_; rintro e w' ⟨rfl, rfl⟩))
                go_roundw
                case rel => exact ⟨k + 1, _, by omega, by go_num, HB4.out⟩
                case measure => simp [intOf]; omega
          by_cases hk4 : L[k].kind = 4
          · rw [hk4] at cy
            clear hk1 hk2 hk3 hk4
            have hN : ofLe (cutPiece st 2 true) < 65536 := by
              have h1 := ofLe_lt (cutPiece st 2 true)
              have h2 := cutPiece_le st 2 true
              have h3 : 256 ^ (cutPiece st 2 true).length ≤ 256 ^ 2 := Nat.pow_le_pow_right (by omega) h2
              omega
            have Hm2 : Hid (may 2 = true) := rfl
            generalize hp : ofLe (cutPiece st 2 true) = N at *
            have Hp := Lib.hid hp
            clear hp
            go_wp2_with fail
            refine (rcount_s _ _ _ _ HB.out.rd).mono ?_
            rw [Hp.out]
            rintro e w3 ⟨rfl, hR3, hk3, hz3⟩
            have Hf3 := Lib.hid (HB.out.rf1 hk3)
            have HR3 := Lib.hid hR3
            have Hk3 := Lib.hid hk3
            clear hR3 hk3 hz3
            go_wp2_with fail
            refine (rfnumber_s _ _ _ _ Hf3.out 2).mono ?_
            rw [Hm2.out, Hp.out]
            rintro e w4 ⟨rfl, hR4, hk4, hz4⟩
            have HB4 := Lib.hid (HB.out.step Hk3.out HR3.out hk4 hR4 (lenS_cutRest _ _ _))
            clear hR4 hk4 hz4
            rcases HB4.out.ways with ⟨A5, c5, m5, e0, e1, hL, hE, hD⟩ | ⟨A5, c5, m5, hm5, e0, e1, hL, hE, hD⟩ | ⟨A5, c5, m5, hm5, e0, e1, hL, hE, hD⟩
            all_goals
              have HL := Lib.hid hL
              have HE := Lib.hid hE
              have HD := Lib.hid hD
              clear hL hE hD
              go_wp2_with (first
                | (go_at_call 24; refine (Calls.mono HL.out ?_); rintro e w' ⟨rfl, rfl⟩)
                | (go_at_call 25; refine (Calls.mono HE.out ?_); rintro e w' ⟨rfl, rfl⟩)
                | (go_at_call 26; refine (Calls.mono HD.out ?_); rintro e w' ⟨rfl, rfl⟩)
                | (go_at_call 13; refine (num_any _ _).mono ?_; rintro e w' ⟨rfl, rfl⟩))
              go_roundw
              case rel => exact ⟨k + 1, _, by omega, by go_num, HB4.out⟩
              case measure => simp [intOf]; omega
          by_cases hk5 : L[k].kind = 5
          · rw [hk5] at cy
            clear hk1 hk2 hk3 hk4 hk5
            generalize hp : cutPiece st 32 true = p at *
            have Hp := Lib.hid hp
            clear hp
            have qe : ∀ W : World, (binOp .eql 30 (.agg (By (over zero32 p 32)).toArray) (.agg (By (over zero32 p 32)).toArray)).run Try.prog W = .ok (.bool true) W := fun W => by
              rw [run_eql_bytes 32 30 5 Try.underlying30 Try.underlying5 Try.u8size (over zero32 p 32) (over zero32 p 32) (by exact over_length zero32 p) (by exact over_length zero32 p), beq_self_eq_true]
            go_wp2_with fail
            refine (rhash_s _ _ _ _ HB.out.rd).mono ?_
            rw [Hp.out]
            rintro e w3 ⟨rfl, hR3, hk3⟩
            have Hf3 := Lib.hid (HB.out.rf1 hk3)
            have HR3 := Lib.hid hR3
            have Hk3 := Lib.hid hk3
            clear hR3 hk3
            go_wp2_with fail
            refine (rfhash_s _ _ _ _ Hf3.out).mono ?_
            rw [Hp.out]
            rintro e w4 ⟨rfl, hR4, hk4⟩
            have HB4 := Lib.hid (HB.out.step Hk3.out HR3.out hk4 hR4 (lenS_cutRest _ _ _))
            clear hR4 hk4
            rcases HB4.out.ways with ⟨A5, c5, m5, e0, e1, hL, hE, hD⟩ | ⟨A5, c5, m5, hm5, e0, e1, hL, hE, hD⟩ | ⟨A5, c5, m5, hm5, e0, e1, hL, hE, hD⟩
            all_goals
              have HL := Lib.hid hL
              have HE := Lib.hid hE
              have HD := Lib.hid hD
              clear hL hE hD
              go_wp2_with (first
                | (go_at_call 24; refine (Calls.mono HL.out ?_); rintro e w' ⟨rfl, rfl⟩)
                | (go_at_call 25; refine (Calls.mono HE.out ?_); rintro e w' ⟨rfl, rfl⟩)
                | (go_at_call 26; refine (Calls.mono HD.out ?_); rintro e w' ⟨rfl, rfl⟩)
                | (go_at_call 13; refine (num_any _ _).mono ?_; rintro e w' ⟨rfl, rfl⟩))
              go_roundw
              case rel => exact ⟨k + 1, _, by omega, by go_num, HB4.out⟩
              case measure => simp [intOf]; omega
          have b1 : (L[k].kind == 1) = false := beq_eq_false_iff_ne.2 hk1
          have b2 : (L[k].kind == 2) = false := beq_eq_false_iff_ne.2 hk2
          have b3 : (L[k].kind == 3) = false := beq_eq_false_iff_ne.2 hk3
          have b4 : (L[k].kind == 4) = false := beq_eq_false_iff_ne.2 hk4
          have b5 : (L[k].kind == 5) = false := beq_eq_false_iff_ne.2 hk5
          clear hk1 hk2 hk3 hk4 hk5
          rcases HB.out.ways with ⟨A5, c5, m5, e0, e1, hL, hE, hD⟩ | ⟨A5, c5, m5, hm5, e0, e1, hL, hE, hD⟩ | ⟨A5, c5, m5, hm5, e0, e1, hL, hE, hD⟩
          all_goals
            have HL := Lib.hid hL
            have HE := Lib.hid hE
            have HD := Lib.hid hD
            clear hL hE hD
            go_wp2_with (first
              | (go_at_call 24; refine (Calls.mono HL.out ?_); rintro e w' ⟨rfl, rfl⟩)
              | (go_at_call 25; refine (Calls.mono HE.out ?_); rintro e w' ⟨rfl, rfl⟩)
              | (go_at_call 26; refine (Calls.mono HD.out ?_); rintro e w' ⟨rfl, rfl⟩)
              | (go_at_call 13; refine (num_any _ _).mono ?_; rintro e w' ⟨rfl, rfl⟩))
            go_roundw
            case rel => exact ⟨k + 1, _, by omega, by go_num, HB.out⟩
            case measure => simp [intOf]; omega
        · obtain rfl : k = L.length := by omega
          go_wp2_with (go_at_call 9; refine (known_any _).mono ?_; rintro e w5 ⟨rfl, hb5⟩)
          go_ret
          exact ⟨rfl, HB.out.below.trans (hb5.mono HB.out.below.size)⟩

end Go.Proofs.Ytpdidobmfoapiaa
