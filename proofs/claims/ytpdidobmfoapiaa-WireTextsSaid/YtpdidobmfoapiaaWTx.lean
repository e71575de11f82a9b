/-
  WireTexts: the walk.
-/
import Derived.Test.YtpdidobmfoapiaaOf4
import Derived.Test.YtpdidobmfoapiaaHex3
import Derived.Test.YtpdidobmfoapiaaEq
import Derived.Test.YtpdidobmfoapiaaPutAll
import Derived.Deep.RegionHeld3
namespace Go.Proofs.Ytpdidobmfoapiaa
open Go.RowKit

/-- A hash loaded, as one operation. -/
def loadH (v : Value) : Sem Next := do pure (.value (← Instr.loadAt 30 v))
theorem execOp_loadH (ρ : Operand → Value) (dst : Option Tmp) (x : Operand) (ty : TypeId) (pos : String) (after : Array Edge) (guard : Option (Nat × Bool)) :
    execOp ρ { dst, op := .load 30 x, type := ty, pos, after, guard } = loadH (ρ x) := rfl
theorem run_loadH (w : World) (b : Nat) (t : TypeId) (h : List UInt8) (hb : Blk w b t (By h).toArray) (hh : h.length = 32) :
    (loadH (.pointer (some ⟨b, 0, none⟩))).run Try.prog w = .ok (.value (.agg (By h).toArray)) w := by
  have hc : w.rangeAt b 0 (By h) := by
    intro j v hv
    rw [Nat.zero_add, hb.cell j]
    simpa using hv
  have hi : (Try.prog.info? 30).map (·.size) = some (By h).length := by rw [Try.hsize, By_length, hh]
  unfold loadH
  simp only [Sem.run_bind, run_loadAt_mid w b 0 30 (By h) _ hc Try.underlying30 rfl hi, Result.andThen_ok, Sem.run_pure]
attribute [local go_sem ↓] execOp_loadH

theorem hashOk_good {S : ByteArray} (h : goodB S = false) : hashOk S = false := by rw [hashOk, h]; rfl

theorem rng_blk {w : World} {g : Nat} {t : TypeId} {l : List UInt8} (hb : Blk w g t (By l).toArray) : w.rangeAt g 0 (By l) := by
  intro j v hv
  rw [Nat.zero_add, hb.cell j]
  simpa using hv
theorem Sees.blk {w : World} {g : Nat} {t : TypeId} {l : List UInt8} (hb : Blk w g t (By l).toArray) : Sees w w.heap.size (some ⟨g, 0, none⟩) l := by
  refine .inr ⟨g, 0, rfl, hb.lt, fun i hi => ?_⟩
  rw [Nat.zero_add, hb.cell i]
  simp [By, hi]

set_option maxHeartbeats 4000000 in
set_option maxRecDepth 100000 in
theorem wireTexts_run (w : World) (A : Option Addr) (n c : Nat) (bs : List UInt8) (hn : n = bs.length) (hS : Sees w w.heap.size A bs) (S : ByteArray) (h : List UInt8) (hh : h.length = 32) (hn1 : n ≤ 3000) (hn2 : S.size ≤ 9000) :
    Calls Try.prog 5 #[.slice A n c, .string S, .agg (By h).toArray] w fun e w' => e = .returned (.bool true) ∧ Below w.heap.size w w' := by
  subst hn
  have HB := Lib.hid (Blk.new w 30 (By h).toArray)
  have HS := Lib.hid hS
  have Hh := Lib.hid hh
  have HZ0 : Hid ((By zero32).toArray.size = (By (hashB S)).toArray.size) := by show _ = _; rw [List.size_toArray, By_length, List.size_toArray, By_length, hashB_length]; simp [zero32]
  have HZ1 := Lib.hid (Try.hsizeB (hashB S) (hashB_length S))
  have Hb0 : Hid (Below w.heap.size w (w.alloc (.cells (By h).toArray 30))) := (Below.refl _ _).alloc (Nat.le_refl _) _
  clear hS hh
  have hne : ∀ wq, (binOp .neq 30 (.agg (By (hashB S)).toArray) (.agg (By (hashB S)).toArray)).run Try.prog wq = .ok (.bool false) wq := by
    intro wq
    rw [run_neq_bytes 32 30 5 Try.underlying30 Try.underlying5 Try.u8size (hashB S) (hashB S) (hashB_length S) (hashB_length S), beq_self_eq_true]
    rfl
  have cs : (goodB S = true ∧ hashOk S = true) ∨ (goodB S = true ∧ hashOk S = false) ∨ (goodB S = false ∧ hashOk S = false) := by
    cases hg : goodB S with
    | true => cases hk : hashOk S with
      | true => simp
      | false => simp
    | false => simp [hashOk_good hg]
  rcases cs with ⟨hg, hk⟩ | ⟨hg, hk⟩ | ⟨hg, hk⟩
  all_goals
    have Hg := Lib.hid hg
    have Hk := Lib.hid hk
    clear hg hk
    go_enter Try.func5, Try.ntmps5
    go_wp2_with (first
      | (go_at_call 27; refine (ofHex_any _ S hn2).mono ?_; rintro e w1 ⟨A1, c1, rfl, hs1, hb1⟩; rw [Hg.out]; have HS1 := Lib.hid hs1; have HB1 := Lib.hid (HB.out.below hb1 (by simp)); have Hb1 := Lib.hid (Hb0.out.trans (hb1.mono (by simp))); clear hs1 hb1)
      | (go_at_call 28; refine (rofHex_any _ S hn2).mono ?_; rintro e w2 ⟨A2, c2, rfl, hs2, hb2⟩; rw [Hg.out]; have HS2 := Lib.hid hs2; have HS12 := Lib.hid (HS1.out.later hb2); have HB2 := Lib.hid (HB1.out.below hb2 HB1.out.lt); have Hb2 := Lib.hid (Hb1.out.trans (hb2.mono Hb1.out.size)); clear hs2 hb2)
      | (go_at_call 29; refine (hashOf_any _ S hn2).mono ?_; rintro e w3 ⟨rfl, hb3⟩; rw [Hk.out]; have HS13 := Lib.hid (HS12.out.later hb3); have HS23 := Lib.hid (HS2.out.later hb3); have HB3 := Lib.hid (HB2.out.below hb3 HB2.out.lt); have Hb3 := Lib.hid (Hb2.out.trans (hb3.mono Hb2.out.size)); clear hb3)
      | (refine wpList_store_all rfl 30 (.tmp 11) (.tmp 37) rfl w3.heap.size 30 (By zero32).toArray (By (hashB S)).toArray rfl rfl (Blk.new w3 _ _) HZ0.out HZ1.out (By_one _) ?_; intro w4 h5 h6 h7; have HC4 := Lib.hid h5; have b6 := below_new h6; have HS14 := Lib.hid (HS13.out.later b6); have HS24 := Lib.hid (HS23.out.later b6); have HB4 := Lib.hid (HB3.out.below b6 HB3.out.lt); have Hb4 := Lib.hid (Hb3.out.trans (b6.mono Hb3.out.size)); clear h5 h6 h7 b6)
      | (go_at_call 30; refine (rhashOf_any _ S hn2).mono ?_; rintro e w5 ⟨rfl, hb5⟩; rw [Hk.out]; have HS15 := Lib.hid (HS14.out.later hb5); have HS25 := Lib.hid (HS24.out.later hb5); have HB5 := Lib.hid (HB4.out.below hb5 HB4.out.lt); have HC5 := Lib.hid (HC4.out.below hb5 HC4.out.lt); have Hb5 := Lib.hid (Hb4.out.trans (hb5.mono Hb4.out.size)); clear hb5)
      | (refine wpList_store_all rfl 30 (.tmp 13) (.tmp 42) rfl w5.heap.size 30 (By zero32).toArray (By (hashB S)).toArray rfl rfl (Blk.new w5 _ _) HZ0.out HZ1.out (By_one _) ?_; intro w6 h5 h6 h7; have b6 := below_new h6; have q1 : (convert 25 9 (.slice A1 (outB S).length c1)).run Try.prog w6 = .ok (.string (Str (outB S))) w6 := (run_string_sees Try.underlying25 Try.underlying5 Try.underlying9 rfl (HS15.out.later b6)); have q2 : (convert 25 9 (.slice A2 (outB S).length c2)).run Try.prog w6 = .ok (.string (Str (outB S))) w6 := (run_string_sees Try.underlying25 Try.underlying5 Try.underlying9 rfl (HS25.out.later b6)); have q3 := run_loadH w6 _ _ _ h5 (hashB_length S); have q4 := run_loadH w6 _ _ _ (HC5.out.below b6 HC5.out.lt) (hashB_length S); have HB6 := Lib.hid (HB5.out.below b6 HB5.out.lt); have Hb6 := Lib.hid (Hb5.out.trans (b6.mono Hb5.out.size)); clear h5 h6 h7 b6)
      | (go_at_call 13; refine (num_any _ _).mono ?_; rintro e w' ⟨rfl, rfl⟩))
    clear q1 q2 q3 q4 hne HC4 HC5 HS1 HS12 HS13 HS14 HS15 HS2 HS23 HS24 HS25 HB1 HB2 HB3 HB4 HB5 Hb1 Hb2 Hb3 Hb4 Hb5 HZ0 HZ1 Hg Hk
    have q6 : w6.drew.rangeAt w.heap.size 0 (By h) := rng_blk (show Blk w6.drew _ _ _ from HB6.out)
    have hu30 := Try.underlying30
    have hhs : (Try.prog.info? 30).map (·.size) = some (By h).length := by rw [Try.hsize, By_length, Hh.out]
    go_region_held3 (fun W => W.rangeAt w.heap.size 0 (By h))
      (first | exact q6 | exact q7 | exact q8 | exact q9 | exact q10 | exact q11)
      (first
      | (go_at_call 31; refine (hex_any _ _ _ _ bs rfl (HS.out.below (Below.drew' Hb6.out)).size (by omega)).mono ?_; rintro e w7 ⟨rfl, hb7⟩; have Hb7 := Lib.hid ((Below.drew' Hb6.out).trans (hb7.mono Hb6.out.size)); have HB7 : Hid (Blk w7 w.heap.size 30 (By h).toArray) := (show Blk w6.drew _ _ _ from HB6.out).below hb7 HB6.out.lt; have q7 : w7.rangeAt w.heap.size 0 (By h) := rng_blk HB7.out; clear hb7)
      | (go_at_call 32; (with_reducible show Calls _ _ #[.slice A bs.length c] _ _); refine (rhex_any _ _ _ _ bs rfl (HS.out.below Hb7.out).size (by omega)).mono ?_; rintro e w8 ⟨rfl, hb8⟩; have Hb8 := Lib.hid (Hb7.out.trans (hb8.mono Hb7.out.size)); have HB8 := Lib.hid (HB7.out.below hb8 HB7.out.lt); have q8 : w8.rangeAt w.heap.size 0 (By h) := rng_blk HB8.out; clear hb8)
      | (go_at_call 33; refine (hashText_any _ h Hh.out).mono ?_; rintro e w9 ⟨rfl, hb9⟩; have Hb9 := Lib.hid (Hb8.out.trans (hb9.mono Hb8.out.size)); have HB9 := Lib.hid (HB8.out.below hb9 HB8.out.lt); have q9 : w9.rangeAt w.heap.size 0 (By h) := rng_blk HB9.out; clear hb9)
      | (go_at_call 32; (with_reducible show Calls _ _ #[.slice (some _) 32 32] _ _); refine (rhex_any _ _ 32 32 h Hh.out.symm (Sees.blk HB9.out) (by omega)).mono ?_; rintro e w10 ⟨rfl, hb10⟩; have Hb10 := Lib.hid (Hb9.out.trans (hb10.mono Hb9.out.size)); have HB10 := Lib.hid (HB9.out.below hb10 HB9.out.lt); have q10 : w10.rangeAt w.heap.size 0 (By h) := rng_blk HB10.out; clear hb10)
      | (go_at_call 9; refine (known_any _).mono ?_; rintro e w11 ⟨rfl, hb11⟩; have Hb11 := Lib.hid (Hb10.out.trans (hb11.mono Hb10.out.size)); have HB11 := Lib.hid (HB10.out.below hb11 HB10.out.lt); have q11 : w11.rangeAt w.heap.size 0 (By h) := rng_blk HB11.out; clear hb11))
    all_goals
      go_wp2
      go_ret
      exact ⟨rfl, Hb11.out⟩

set_option maxHeartbeats 1000000 in
set_option maxRecDepth 100000 in
theorem wireTexts_any (w : World) (A : Option Addr) (n c : Nat) (bs : List UInt8) (hn : n = bs.length) (hS : Sees w w.heap.size A bs) (hmax : n ≤ 9223372036854775807) (S : ByteArray) (h : List UInt8) (hh : h.length = 32) :
    Calls Try.prog 5 #[.slice A n c, .string S, .agg (By h).toArray] w fun e w' => e = .returned (.bool true) ∧ Below w.heap.size w w' := by
  by_cases h1 : n ≤ 3000
  · by_cases h2 : S.size ≤ 9000
    · exact wireTexts_run w A n c bs hn hS S h hh h1 h2
    · have h2' : 9000 < S.size := by omega
      clear hn hS hh h2
      go_enter Try.func5, Try.ntmps5
      go_wp2_with (go_at_call 9; refine (known_any _).mono ?_; rintro e w1 ⟨rfl, hb1⟩)
      go_ret
      exact ⟨rfl, ((Below.refl _ _).alloc (Nat.le_refl _) _).trans (hb1.mono (by simp))⟩
  · have h1' : 3000 < n := by omega
    clear hn hS hh h1
    go_enter Try.func5, Try.ntmps5
    go_wp2_with (go_at_call 9; refine (known_any _).mono ?_; rintro e w1 ⟨rfl, hb1⟩)
    go_ret
    exact ⟨rfl, ((Below.refl _ _).alloc (Nat.le_refl _) _).trans (hb1.mono (by simp))⟩

end Go.Proofs.Ytpdidobmfoapiaa
