/-
  merkle: the library's Grow and Concat of bytes, as they are called here. · merkle: the texts that are hashed: of a leaf, of a knot; their hashes, and their bytes.
  merkle: rows of hashes in memory; the walks of leaves and knots.
-/
import Derived.Test.YtpfjkjogljilnaaDoorPBbQ0
import Derived.Test.YtpfjkjogljilnaaDoorPBbQ2
import Derived.Test.YtpfjkjogljilnaaDoorSOpen
import Derived.Deep.RegionHeldLaw
import Derived.Laws.MakeOwn
import Derived.Great.BuildSlice
namespace Go.Proofs.YtpfjkjogljilnaaDoor
open Go.RowKit

section
variable {P : Program} (w : World)
/-- append of so many noughts onto nothing. -/
theorem run_append_make (t ti ty e : TypeId) (k : IntKind) (i : TypeInfo) (z : Value) (ht : P.underlying t = some (.slice e)) (hti : P.underlying ti = some (.int k)) (hi : P.info? e = some i) (hz : i.zero = some z) (hb : i.bytes = 1) (hs : i.size = 1)
    (n : Nat) (h0 : 0 < n) (hmax : n ≤ 1048576) :
    (Builtin.append_ #[t, ti] ty #[.slice none 0 0, .int .i64 (n : Int)]).run P w =
      .ok (.slice (some ⟨w.heap.size, 0, none⟩) n (grownCap w n 0 e)) (w.drew.alloc (.cells (Builtin.zeroCells z.cells n ++ Builtin.zeroCells z.cells (grownCap w n 0 e - n)) e)) := by
  have hn : n ≠ 0 := by omega
  have hw : IntKind.i64.wrap (n : Int) = n := by rw [IntKind.wrap_i64]; omega
  have h1 : ¬ ((n : Int) < 0) := by omega
  have h2 : ¬ (281474976710656 < (n : Int)) := by omega
  have h4 : ¬ ((n : Int) ≤ 0) := by omega
  have h63' : ¬ (9223372036854775807 < (n : Int)) := by omega
  have h48' : ¬ (281474976710656 < Builtin.nextslicecap n 0) := by rw [nextslicecap_zero h0]; omega
  simp [Builtin.append_, run_underlying ht, run_underlying hti, sizeOf, typeInfo, zeroValue, hi, hz, hb, hs, asInt, asIntOf, hw, h1, h2, h4, hn, h63', h48', Question.forced, run_firstCells_none, newRow, grownCap]
end
/-- What Grow answers: an empty row of the call's own. -/
def GrowPost (w : World) (e : Ending) (w' : World) : Prop := ∃ A c, e = .returned (.slice A 0 c) ∧ w'.ownsRow w.heap.size 5 1 (.slice A 0 c) 0 [] ∧ Below w.heap.size w w'

set_option maxHeartbeats 1000000 in
set_option maxRecDepth 100000 in
theorem grow_any (w : World) (n : Nat) (hn : n ≤ 1048576) : Calls Tryd.prog 83 #[.slice none 0 0, .int .i64 (n : Int)] w (GrowPost w) := by
  obtain ⟨i0, hi, hz0, hz1, hz2⟩ := info_parts Tryd.u8info
  by_cases h0 : 0 < n
  · have q1 := run_append_make (P := Tryd.prog) w 28 3 28 5 .i64 i0 (.int .u8 0) Tryd.underlying28 Tryd.underlying3 hi hz0 hz2 hz1 n h0 hn
    have hge := grownCap_ge w n 0 5
    have hle := grownCap_le_maxLen w n 0 5 (by simp only [maxLen]; omega)
    generalize grownCap w n 0 5 = C at *
    generalize hcs : Builtin.zeroCells (Value.int .u8 0).cells n ++ Builtin.zeroCells (Value.int .u8 0).cells (C - n) = cs at *
    have hsz : cs.size = C := by rw [← hcs, Array.size_append, size_zeroCells, size_zeroCells]; show n * 1 + (C - n) * 1 = C; omega
    have HO : Hid ((w.drew.alloc (.cells cs 5)).ownsRow w.heap.size 5 1 (.slice (some ⟨w.heap.size, 0, none⟩) 0 C) 0 []) := by
      have := own_made (w := w.drew.alloc (.cells cs 5)) (base := w.heap.size) (g := w.heap.size) (e := 5) (n := 0) (c := C) (size := 1) (cs := cs.toList) (heap_alloc_new w.drew _) (Nat.le_refl _) (Nat.zero_le _) hle (by rw [Array.length_toList]; omega)
      exact Lib.hid (by simpa using this)
    have q2 : ∀ wq : World, (Instr.slice 28 (.slice none 0 0) none (some (.int .i64 0)) none).run Tryd.prog wq = .ok (.slice none 0 0) wq := by
      intro wq
      simp [Instr.slice, run_underlying Tryd.underlying28, Instr.sliceBounds, run_sliceBound wq .i64 (0 : Int) 0 _ (by omega) (by omega), sizeOf, typeInfo, hi]
    have q3 : ∀ wq : World, (Instr.slice 28 (.slice (some ⟨w.heap.size, 0, none⟩) n C) none (some (.int .i64 0)) none).run Tryd.prog wq = .ok (.slice (some ⟨w.heap.size, 0, none⟩) 0 C) wq := by
      intro wq
      simp [Instr.slice, run_underlying Tryd.underlying28, Instr.sliceBounds, run_sliceBound wq .i64 (0 : Int) C _ (by omega) (by omega), sizeOf, typeInfo, hi, Addr.add_lit]
    have Hb : Hid (Below w.heap.size w (w.drew.alloc (.cells cs 5))) := Lib.hid ((Below.refl _ _).drew.alloc (Nat.le_refl _) _)
    clear hcs hsz hge hle
    go_enter Tryd.func83, Tryd.ntmps83
    go_wp2_with ((with_reducible show wpList _ _ _ (⟨some 22, _, _, _, _, _⟩ :: _) _ _); refine wpList_run rfl _ _ (by unfold execOp; simp only [resolve, invoke, builtin, Sem.run_bind, Sem.run_pure, Result.andThen_ok, List.map_toArray, List.map_cons, List.map_nil]; erw [q1]; rfl) ?_)
    go_ret
    exact ⟨_, _, rfl, HO.out, Hb.out⟩
  · obtain rfl : n = 0 := by omega
    go_enter Tryd.func83, Tryd.ntmps83
    go_wp2
    go_ret
    exact ⟨none, 0, rfl, World.ownsRow_nil _ _ _ _, Below.refl _ _⟩

/-- What Concat answers. -/
def CatPost (w : World) (l : List UInt8) (e : Ending) (w' : World) : Prop := ∃ A c, e = .returned (.slice A l.length c) ∧ l.length ≤ c ∧ Sees w' w'.heap.size A l ∧ Below w.heap.size w w'
theorem flat_next (ps : List (List UInt8)) (k : Nat) (h : k < ps.length) : (ps.take (k + 1)).flatten = (ps.take k).flatten ++ ps[k] := by
  rw [List.take_succ_eq_append_getElem h, List.flatten_append]; simp
theorem flat_le (ps : List (List UInt8)) (k : Nat) : (ps.take k).flatten.length ≤ ps.flatten.length := by
  have h2 : ps.flatten.length = ((ps.take k).flatten).length + ((ps.drop k).flatten).length := by
    rw [← List.length_append, ← List.flatten_append, List.take_append_drop]
  omega

set_option maxHeartbeats 2000000 in
set_option maxRecDepth 100000 in
theorem concat_any (w : World) (A : Option Addr) (n c : Nat) (ps : List (List UInt8)) (hn : n = ps.length) (hS : SeesL w w.heap.size A ps) (hcnt : n ≤ 1000) (hmax : ps.flatten.length ≤ 100000) :
    Calls Tryd.prog 79 #[.slice A n c] w (CatPost w ps.flatten) := by
  subst hn
  have HS := Lib.hid hS
  have Hmax := Lib.hid hmax
  clear hS hmax
  obtain ⟨i0, hi, hz0, hz1, hz2⟩ := info_parts Tryd.u8info
  go_enter Tryd.func79, Tryd.ntmps79
  go_wp2
  go_loop [3, 11] (fun sv i => ∃ (k s : Nat), k ≤ ps.length ∧ i = .int .i64 k ∧ sv = .int .i64 s ∧ s ≤ 100000 ∧ Hid ((ps.take k).flatten.length = s)) (fun _ i => ps.length - (intOf i).toNat)
  case atStart => exact ⟨0, 0, by omega, rfl, rfl, by omega, rfl⟩
  case round =>
    obtain ⟨k, s, hk, rfl, rfl, hs, HK⟩ := hrel
    by_cases hlt : k < ps.length
    · obtain ⟨b, off, Ai, ci, rfl, hc, hci, ho⟩ := HS.out.at_ k hlt
      have hl1 : s + ps[k].length ≤ 100000 := by
        have h1 := flat_le ps (k + 1)
        rw [flat_next ps k hlt, List.length_append, HK.out] at h1
        have h2 := Hmax.out
        omega
      have HN : Hid ((ps.take (k + 1)).flatten.length = s + ps[k].length) := by show _ = _; rw [flat_next ps k hlt, List.length_append, HK.out]
      clear ho
      generalize ps[k] = p at *
      go_wp2
      go_round
      case rel => exact ⟨k + 1, s + p.length, by omega, by go_num, by go_num, hl1, HN.out⟩
      case measure => simp [intOf] <;> omega
    · obtain rfl : k = ps.length := by omega
      rw [List.take_length] at HK
      go_wp2_with (go_at_call 83; refine (grow_any _ s (by omega)).mono ?_; rintro e w2 ⟨A2, c2, rfl, ho2, hb2⟩; have HO2 := Lib.hid ho2; have Hb2 := Lib.hid hb2; clear ho2 hb2)
      go_loopw [6, 27] (fun v i wr => ∃ (k : Nat) (A1 : Option Addr) (c1 : Nat), k ≤ ps.length ∧ i = .int .i64 k ∧ v = .slice A1 (ps.take k).flatten.length c1 ∧ Hid (wr.ownsRow w.heap.size 5 1 (.slice A1 (ps.take k).flatten.length c1) (ps.take k).flatten.length (By (ps.take k).flatten)) ∧ Hid (Below w.heap.size w wr)) (fun _ i _ => ps.length - (intOf i).toNat)
      case atStart => exact ⟨0, A2, c2, by omega, rfl, rfl, HO2.out, Hb2.out⟩
      case round =>
        clear HO2 Hb2 HK hlt hs
        obtain ⟨k, A1, c1, hk, rfl, rfl, HO, Hb⟩ := hrel
        by_cases hlt : k < ps.length
        · obtain ⟨b, off, Ai, ci, rfl, hc, hci, ho⟩ := (HS.out.shift Hb.out (Nat.le_refl _)).at_ k hlt
          have HP := Lib.hid (flat_next ps k hlt)
          have HPl : Hid (((ps.take (k + 1)).flatten).length = (ps.take k).flatten.length + ps[k].length) := by show _ = _; rw [HP.out, List.length_append]
          have hq : (ps.take k).flatten.length + ps[k].length ≤ 100000 := by
            have h1 := flat_le ps (k + 1)
            rw [HPl.out] at h1
            have h2 := Hmax.out
            omega
          have HO' := Lib.hid ho.sees
          clear ho
          generalize hp : ps[k] = p at *
          clear hp
          go_wp2_with ((with_reducible show wpList _ _ _ (⟨some 33, _, _, _, _, _⟩ :: _) _ _); refine wpList_append_sees rfl (.tmp 31) (.tmp 32) 28 rfl w.heap.size 5 i0 (.int .u8 0) Tryd.underlying28 hi hz0 hz1 hz2 rfl (.slice A1 (ps.take k).flatten.length c1) (ps.take k).flatten.length (By (ps.take k).flatten) rfl HO.out wr.heap.size Ai p.length ci p rfl rfl HO'.out (by omega) Hb.out.size ?_; intro v2 w2 ho2 hg2 hat2; obtain ⟨A2, c2, rfl⟩ := own_form ho2; have ho3 : w2.ownsRow w.heap.size 5 1 (.slice A2 (ps.take (k + 1)).flatten.length c2) (ps.take (k + 1)).flatten.length (By (ps.take (k + 1)).flatten) := (by rw [HPl.out, HP.out, By_append]; exact ho2); have HO2 := Lib.hid ho3; have Hb2 : Hid (Below w.heap.size w w2) := (Hb.out.grown hg2 Hb.out.size (fun j hj => (HO.out.lt j hj).1)); clear ho2 ho3 hg2 hat2)
          go_roundw
          case rel => exact ⟨k + 1, A2, c2, by omega, by go_num, by rw [HPl.out]; simp [List.length_flatten, List.map_take], HO2.out, Hb2.out⟩
          case measure => simp [intOf] <;> omega
        · obtain rfl : k = ps.length := by omega
          rw [List.take_length] at HO
          go_wp2
          go_ret
          exact ⟨A1, c1, by rw [List.take_length]; rfl, own_cap' HO.out, Sees.own HO.out, Hb.out⟩

end Go.Proofs.YtpfjkjogljilnaaDoor
namespace Go.Proofs.YtpfjkjogljilnaaDoor
open Go.RowKit

theorem Tryd.txtsize : (Tryd.prog.info? 86).map (·.size) = some 2 := by kernel_rfl
def nmLeaf : ByteArray := ⟨#[108, 101, 97, 102]⟩
def nmKnot : ByteArray := ⟨#[107, 110, 111, 116]⟩
def nmRoot : ByteArray := ⟨#[114, 111, 111, 116]⟩
theorem nm_le : nmLeaf.size ≤ 200 ∧ nmKnot.size ≤ 200 ∧ nmRoot.size ≤ 200 := ⟨by show 4 ≤ 200; omega, by show 4 ≤ 200; omega, by show 4 ≤ 200; omega⟩
/-- A text in memory: a name, and a slice that shows its bytes. -/
def TextV (nm : ByteArray) (A : Option Addr) (n c : Nat) : Value := .agg #[.string nm, .slice A n c]
/-- What a text's maker answers. -/
def TextPost (w : World) (nm : ByteArray) (l : List UInt8) (e : Ending) (w' : World) : Prop := ∃ A c, e = .returned (TextV nm A l.length c) ∧ l.length ≤ c ∧ Sees w' w'.heap.size A l ∧ Below w.heap.size w w'

set_option maxHeartbeats 1000000 in
set_option maxRecDepth 100000 in
theorem leafText_any (w : World) (id : List UInt8) (hid : id.length = 32) : Calls Tryd.prog 64 #[.agg (By id).toArray] w (TextPost w nmLeaf id) := by
  have Hid1 := Lib.hid hid
  have HB : Hid (Blk (w.alloc (.cells (By id).toArray 24)) w.heap.size 24 (By id).toArray) := Lib.hid (heap_alloc_new w _)
  clear hid
  go_enter Tryd.func64, Tryd.ntmps64
  go_wp2
  refine bodyPost_ret (results_cell_row Tryd.results64 _ _ (w.heap.size + 1) 86 _ (0, 0) _ rfl (Blk.newAt (by simp) rfl) Tryd.underlying86 rfl Tryd.txtsize) rfl ⟨some ⟨w.heap.size, 0, none⟩, 32, by rw [Hid1.out]; rfl, by rw [Hid1.out]; exact Nat.le_refl _, ?_, ?_⟩
  · refine .inr ⟨w.heap.size, 0, rfl, by simp; omega, fun i hi => ?_⟩
    rw [Nat.zero_add, (HB.out.alloc _).cell i]
    simp [By, hi]
  · exact ((Below.refl _ _).alloc (Nat.le_refl _) _).alloc (by simp) _

theorem SeesO.hash {w : World} {g b : Nat} {t : TypeId} {l : List UInt8} (hb : Blk w b t (By l).toArray) (hne : b ≠ g) : SeesO w g (some ⟨b, 0, none⟩) l := by
  have := SeesO.blk (g := g) hb hne l.length
  rwa [List.take_length] at this

/-- What a slice shows in another block stays behind a store. -/
theorem Sees.setFar {w : World} {B g : Nat} {A : Option Addr} {l : List UInt8} {t : TypeId} {cs : Array Value} (h : Sees w B A l) (hb : Blk w g t cs) (hno : ∀ (i : Nat) (z : Int), cs[i]? ≠ some (Value.int .u8 z)) (i : Nat) (u : Value) : Sees (w.setCell ⟨g, i, none⟩ u) B A l := by
  rcases h with h | ⟨b, off, hA, hlt, hc⟩
  · exact .inl h
  · by_cases h0 : l.length = 0
    · exact .inl (List.eq_nil_of_length_eq_zero h0)
    · have hne : ¬ b = g := by
        intro e
        subst e
        have := hc 0 (by omega)
        rw [hb.cell] at this
        exact hno _ _ this
      refine .inr ⟨b, off, hA, hlt, fun j hj => ?_⟩
      rw [World.cell?_of_block (w := w) (Below.heap_setCell w ⟨g, i, none⟩ u b hne)]
      exact hc j hj
theorem two_no {s : ByteArray} {A : Option Addr} {n c : Nat} (i : Nat) (z : Int) : (#[.string s, .slice A n c] : Array Value)[i]? ≠ some (.int .u8 z) := by
  match i with
  | 0 => simp
  | 1 => simp
  | i + 2 => simp

set_option maxHeartbeats 1000000 in
set_option maxRecDepth 100000 in
theorem knotText_any (w : World) (a b : List UInt8) (ha : a.length = 32) (hb : b.length = 32) : Calls Tryd.prog 65 #[.agg (By a).toArray, .agg (By b).toArray] w (TextPost w nmKnot (a ++ b)) := by
  have hA : Blk (((w.alloc (.cells (By a).toArray 24)).alloc (.cells (By b).toArray 24)).alloc (.cells #[.string ⟨#[]⟩, .slice none 0 0] 86)) w.heap.size 24 (By a).toArray := ((show Blk (w.alloc _) _ _ _ from heap_alloc_new w _).alloc _).alloc _
  have hB : Blk (((w.alloc (.cells (By a).toArray 24)).alloc (.cells (By b).toArray 24)).alloc (.cells #[.string ⟨#[]⟩, .slice none 0 0] 86)) (w.heap.size + 1) 24 (By b).toArray := (Blk.newAt (by simp) rfl).alloc _
  have hT : Blk (((w.alloc (.cells (By a).toArray 24)).alloc (.cells (By b).toArray 24)).alloc (.cells #[.string ⟨#[]⟩, .slice none 0 0] 86)) (w.heap.size + 1 + 1) 86 #[.string ⟨#[]⟩, .slice none 0 0] := Blk.newAt (by simp) rfl
  have hb0 : Below w.heap.size w (((w.alloc (.cells (By a).toArray 24)).alloc (.cells (By b).toArray 24)).alloc (.cells #[.string ⟨#[]⟩, .slice none 0 0] 86)) := nxAlloc (nxAlloc (nxAlloc (nxRefl w) _) _) _
  have hsz : w.heap.size + 3 = ((((w.alloc (.cells (By a).toArray 24)).alloc (.cells (By b).toArray 24)).alloc (.cells #[.string ⟨#[]⟩, .slice none 0 0] 86))).heap.size := by simp
  have HL : Hid ((a ++ b).length = 64) := by show _ = _; rw [List.length_append, ha, hb]
  have HF : Hid (([a, b] : List (List UInt8)).flatten = a ++ b) := by show _ = _; simp
  have Hla := Lib.hid ha
  have Hlb := Lib.hid hb
  have HA := Lib.hid hA
  have HB := Lib.hid hB
  have HT := Lib.hid hT
  have Hb := Lib.hid hb0
  have Hs := Lib.hid hsz
  clear ha hb hA hB hT hb0 hsz
  go_enter Tryd.func65, Tryd.ntmps65
  go_wp2
  generalize (((w.alloc (.cells (By a).toArray 24)).alloc (.cells (By b).toArray 24)).alloc (.cells #[.string ⟨#[]⟩, .slice none 0 0] 86)) = W0 at *
  have HS : Hid (SeesL (W0.alloc (.cells #[.slice (some ⟨w.heap.size, 0, none⟩) 32 32, .slice (some ⟨w.heap.size + 1, 0, none⟩) 32 32] 28)).drew (W0.heap.size + 1) (some ⟨W0.heap.size, 0, none⟩) [a, b]) :=
    (SeesL.two (SeesO.hash HA.out (by have := Hs.out; omega)) (SeesO.hash HB.out (by have := Hs.out; omega)) Hla.out.symm Hlb.out.symm (Nat.le_refl _) (Nat.le_refl _) (by omega)).drew
  go_region_held_law (fun _ => True) (exact True.intro) ((go_at_call 79; refine (concat_any _ _ 2 2 [a, b] rfl (by have h := HS.out; simpa only [World.size_alloc, World.drew] using h) (by omega) (by rw [HF.out, HL.out]; omega)).mono ?_; rw [HF.out]; rintro e w4 ⟨A4, c4, rfl, hc4, hs4, hb4⟩; have Hc4 := Lib.hid hc4; have b4 : Below W0.heap.size W0 w4 := nxTo (nxAlloc (nxRefl W0) _).drew hb4; have h4 := HT.out.below b4 HT.out.lt; have c0 : w4.cell? ⟨w.heap.size + 1 + 1, 0, none⟩ = some (.string ⟨#[]⟩) := h4.cell 0; have c1 : w4.cell? ⟨w.heap.size + 1 + 1, 1, none⟩ = some (.slice none 0 0) := h4.cell 1; have f0 := h4.frozen 0; have f1 := h4.frozen 1; have HT4 := Lib.hid h4; have HS4 := Lib.hid hs4; have Hb4 := Lib.hid b4; clear hc4 hs4 hb4 b4 h4))
  have HT5 := Lib.hid ((HT4.out.set 0 (.string nmKnot)).set 1 (.slice A4 (a.length + b.length) c4))
  have HS5 : Hid (Sees ((w4.setCell ⟨w.heap.size + 1 + 1, 0, none⟩ (.string nmKnot)).setCell ⟨w.heap.size + 1 + 1, 1, none⟩ (.slice A4 (a.length + b.length) c4)) w4.heap.size A4 (a ++ b)) :=
    Sees.setFar (Sees.setFar HS4.out HT4.out two_no 0 _) (HT4.out.set 0 _) two_no 1 _
  have Hb5 : Hid (Below w.heap.size w ((w4.setCell ⟨w.heap.size + 1 + 1, 0, none⟩ (.string nmKnot)).setCell ⟨w.heap.size + 1 + 1, 1, none⟩ (.slice A4 (a.length + b.length) c4))) :=
    ((nxTo Hb.out Hb4.out).setCell (p := ⟨w.heap.size + 1 + 1, 0, none⟩) (by show w.heap.size ≤ w.heap.size + 1 + 1; omega) _).setCell (p := ⟨w.heap.size + 1 + 1, 1, none⟩) (by show w.heap.size ≤ w.heap.size + 1 + 1; omega) _
  clear c0 c1 f0 f1
  go_wp2
  refine bodyPost_ret (results_cell_row Tryd.results65 _ _ (w.heap.size + 1 + 1) 86 _ (0, 0) _ rfl HT5.out Tryd.underlying86 rfl Tryd.txtsize) rfl ⟨A4, c4, by rw [List.length_append]; rfl, Hc4.out, ?_, Hb5.out⟩
  exact HS5.out.more (by simp [World.setCell])

set_option maxHeartbeats 1000000 in
set_option maxRecDepth 100000 in
theorem hash_any (w : World) (hT : Tabs w) (nm : ByteArray) (hnm : nm.size ≤ 200) (A : Option Addr) (n c : Nat) (l : List UInt8) (hn : n = l.length) (hc : n ≤ c) (hS : Sees w w.heap.size A l) (hmax : n ≤ 100000) :
    Calls Tryd.prog 39 #[TextV nm A n c] w fun e w' => e = .returned (.agg (By (shaB (tagB nm l))).toArray) ∧ Below w.heap.size w w' := by
  unfold TextV
  have hb0 : Below w.heap.size w ((w.alloc (.cells #[.string nm, .slice A n c] 86)).alloc (.cells (By zero32).toArray 24)) := nxAlloc (nxAlloc (nxRefl w) _) _
  have B0 : Hid (Blk ((w.alloc (.cells #[.string nm, .slice A n c] 86)).alloc (.cells (By zero32).toArray 24)) (w.heap.size + 1) 24 (By zero32).toArray) := Lib.hid (Blk.newAt (by simp) rfl)
  have Hb0 := Lib.hid hb0
  have HT := Lib.hid (hT.later hb0)
  have HS : Hid (∀ W, Below w.heap.size w W → SeesL (W.alloc (.cells #[.slice A n c] 28)) (W.heap.size + 1) (some ⟨W.heap.size, 0, none⟩) [l]) := by
    intro W hb
    have h1 : Sees W W.heap.size A l := (hS.below hb).more hb.size
    refine SeesL.one ?_ hn hc (by omega)
    rcases h1 with h | ⟨b, off, hA, hlt, hcc⟩
    · exact .inl h
    · exact .inr ⟨b, off, hA, hlt, by omega, hcc⟩
  have HF : Hid (([l] : List (List UInt8)).flatten = l) := by show _ = _; simp
  have HC := Lib.hid (cutN_short nm (by omega))
  have HZ0 := Lib.hid (Tryd.hsizeB (shaB (tagB nm l)) rfl)
  have Hn := Lib.hid hn
  clear hT hS hn hb0
  go_enter Tryd.func39, Tryd.ntmps39
  go_wp2_with (first
    | (go_at_call 29; refine (tag_any _ (HT.out.alloc _) nm _ 1 1 [l] rfl (by have h := HS.out _ Hb0.out; simpa only [World.size_alloc] using h) (by rw [HF.out]; have := Hn.out; omega) (by omega) (by omega)).mono ?_; rw [HF.out, HC.out]; rintro e w4 ⟨rfl, hb4⟩; have Hb4 : Hid (Below w.heap.size w w4) := nxTo (nxAlloc Hb0.out _) hb4; have B4 := Lib.hid ((B0.out.alloc (.cells #[.slice A n c] 28)).below hb4 (B0.out.alloc _).lt); clear hb4)
    | ((with_reducible show wpList _ _ _ (⟨none, .store 24 _ _, _, _, _, _⟩ :: _) _ _); refine wpList_store_all rfl 24 (.tmp 2) (.tmp 8) rfl (w.heap.size + 1) 24 (By zero32).toArray (By (shaB (tagB nm l))).toArray rfl rfl B4.out rfl HZ0.out (By_one _) ?_; intro w5 h5 h6 h7; have H5 := Lib.hid h5; have Hb5 : Hid (Below w.heap.size w w5) := Hb4.out.trans (h6.below Hb4.out.size (fun k hk => by omega)); clear h5 h6 h7))
  refine bodyPost_ret (results_cell_row Tryd.results39 _ _ (w.heap.size + 1) 24 _ (0, 0) _ rfl H5.out Tryd.underlying24 rfl HZ0.out) rfl ⟨rfl, Hb5.out⟩

end Go.Proofs.YtpfjkjogljilnaaDoor

namespace Go.Proofs.YtpfjkjogljilnaaDoor
open Go.RowKit

/-- All are hashes' bytes. -/
def All32 (hs : List (List UInt8)) : Prop := ∀ h ∈ hs, h.length = 32
theorem All32.get {hs : List (List UInt8)} (h : All32 hs) {k : Nat} (hk : k < hs.length) : hs[k].length = 32 := h _ (List.getElem_mem hk)
theorem All32.nil : All32 [] := fun _ h => by cases h
theorem All32.snoc {hs : List (List UInt8)} {x : List UInt8} (h : All32 hs) (hx : x.length = 32) : All32 (hs ++ [x]) := by
  intro y hy
  rcases List.mem_append.1 hy with h1 | h1
  · exact h y h1
  · simp at h1; subst h1; exact hx
theorem All32.flat {hs : List (List UInt8)} (h : All32 hs) : hs.flatten.length = hs.length * 32 := by
  induction hs with
  | nil => rfl
  | cons a r ih =>
    rw [List.flatten_cons, List.length_append, ih (fun y hy => h y (List.mem_cons_of_mem _ hy)), h a (List.mem_cons_self ..), List.length_cons]; omega
theorem All32.at_ {hs : List (List UInt8)} (h : All32 hs) : ∀ {k : Nat} (hk : k < hs.length) (j : Nat) (hj : j < 32), hs.flatten[32 * k + j]? = hs[k][j]? := by
  induction hs with
  | nil => intro k hk; simp at hk
  | cons a r ih =>
    intro k hk j hj
    have ha := h a (List.mem_cons_self ..)
    cases k with
    | zero =>
      rw [List.flatten_cons, List.getElem?_append_left (by omega)]; simp
    | succ k =>
      rw [List.flatten_cons, List.getElem?_append_right (by omega), ha]
      have := ih (fun y hy => h y (List.mem_cons_of_mem _ hy)) (k := k) (by simpa using hk) j hj
      rw [show 32 * (k + 1) + j - 32 = 32 * k + j by omega, this]
      simp
/-- A row of hashes as cells. -/
def Hs (hs : List (List UInt8)) : List Value := By hs.flatten
theorem Hs_length {hs : List (List UInt8)} (h : All32 hs) : (Hs hs).length = hs.length * 32 := by rw [Hs, By_length, h.flat]
theorem Hs_snoc (hs : List (List UInt8)) (x : List UInt8) : Hs (hs ++ [x]) = Hs hs ++ By x := by simp [Hs, By]
theorem Hs_one (hs : List (List UInt8)) : ∀ u ∈ Hs hs, u.oneCell' = true := By_one _
theorem SeesV.hash {w : World} {B : Nat} {A : Option Addr} {hs : List (List UInt8)} (h : SeesV w B A (Hs hs)) (ha : All32 hs) {k : Nat} (hk : k < hs.length) :
    ∃ b off, A = some ⟨b, off, none⟩ ∧ b < B ∧ ∀ i, (hi : i < hs.length) → w.rangeAt b (off + i * 32) (By hs[i]) := by
  obtain ⟨b, off, hA, hb, hc⟩ := h.at_ (k := 32 * k) (by rw [Hs_length ha]; omega)
  refine ⟨b, off, hA, hb, fun i hi j v hv => ?_⟩
  obtain ⟨hj, rfl⟩ := By_get hv
  have h32 := ha.get hi
  have e := ha.at_ hi j (by omega)
  have hlt : 32 * i + j < (Hs hs).length := by rw [Hs_length ha]; omega
  have h1 := hc (32 * i + j) hlt
  rw [Nat.add_assoc, Nat.mul_comm i 32, h1]
  have e2 : (Hs hs)[32 * i + j]? = some (.int .u8 (hs[i][j].toNat : Int)) := by
    rw [Hs, By, List.getElem?_map, e, List.getElem?_eq_getElem hj]; rfl
  rw [List.getElem?_eq_getElem hlt] at e2
  exact e2
theorem Tryd.hinfo : (Tryd.prog.info? 24).map (fun i => (i.zero, i.size, i.bytes)) = some (some (.agg (By zero32).toArray), 32, 32) := by kernel_rfl
/-- make of a row of hashes with room. -/
theorem make_hashes (n : Nat) (hn : n ≤ 1048577) (wq : World) :
    (Instr.makeSlice 22 (.int .i64 0) (.int .i64 (n : Int))).run Tryd.prog wq = .ok (.slice (some ⟨wq.heap.size, 0, none⟩) 0 n) (wq.alloc (.cells (madeCells (By zero32).toArray (n * 32)) 24)) := by
  obtain ⟨i0, hi, hz0, hz1, hz2⟩ := info_parts Tryd.hinfo
  have h := run_make (P := Tryd.prog) wq 22 24 i0 _ Tryd.underlying22 hi hz0 .i64 .i64 0 (n : Int) (by omega) (by omega) (by rw [hz2]; omega) (by omega)
  rw [hz1] at h
  have e : (Value.agg (By zero32).toArray).cells = (By zero32).toArray := rfl
  rw [e] at h
  simpa using h
theorem own_hashes (wq : World) (n : Nat) (hn : n ≤ 1048577) : (wq.alloc (.cells (madeCells (By zero32).toArray (n * 32)) 24)).ownsRow wq.heap.size 24 32 (.slice (some ⟨wq.heap.size, 0, none⟩) 0 n) 0 (Hs []) := by
  have := own_made (w := wq.alloc (.cells (madeCells (By zero32).toArray (n * 32)) 24)) (base := wq.heap.size) (g := wq.heap.size) (e := 24) (n := 0) (c := n) (size := 32) (cs := (madeCells (By zero32).toArray (n * 32)).toList) (heap_alloc_new wq _) (Nat.le_refl _) (Nat.zero_le _) (by simp only [maxLen]; omega) (by rw [Array.length_toList, size_madeCells])
  simpa [Hs, By] using this

theorem SeesV.lit' (w : World) (vs : List Value) (t : TypeId) : SeesV (w.alloc (.cells vs.toArray t)) (w.heap.size + 1) (some ⟨w.heap.size, 0, none⟩) vs := by
  have h := SeesV.blk (w := w.alloc (.cells vs.toArray t)) (g := w.heap.size) (t := t) (cs := vs.toArray) (heap_alloc_new w _)
  exact h.more (by simp)
theorem wpList_build_hash {ops : Array Oper} {rest : List Oper} {o : Oper} {a : Act} {w : World} {Q : Exit → Act → World → Prop} (hg : o.guard = none) (x : Operand) (ho : o.op = .buildSlice 22 1 #[(0, x)])
    (l : List UInt8) (hx : a.eval x = .agg (By l).toArray) (hl : l.length = 32)
    (h : wpList Tryd.prog ops Q rest (a.put o.dst (.slice (some ⟨w.heap.size, 0, none⟩) 1 1)) (w.alloc (.cells (By l).toArray 24))) : wpList Tryd.prog ops Q (o :: rest) a w := by
  obtain ⟨i0, hi, hz0, hz1, hz2⟩ := info_parts Tryd.hinfo
  refine wpList_buildSlice hg 22 24 1 #[(0, x)] ho (By l).toArray i0 _ Tryd.underlying22 hi hz0 (by rw [hz1]; omega) (by rw [hz1]; omega) ?_ h
  rw [hz1]
  have e : (#[(0, x)].map fun (p : Nat × Operand) => (p.1, a.eval p.2)).toList = [(0, .agg (By l).toArray)] := by simp [hx]
  have hf := fill_one 32 ((Array.range (1 * 32)).map ((Value.agg (By zero32).toArray).cells[· % (Value.agg (By zero32).toArray).cells.size]!)).toList (By l) (by simp) (by rw [By_length, hl])
  rw [Array.toArray_toList] at hf
  rw [← e] at hf
  exact hf

/-- The leaf of a hash. -/
def leafB (id : List UInt8) : List UInt8 := shaB (tagB nmLeaf id)
def knotB (a b : List UInt8) : List UInt8 := shaB (tagB nmKnot (a ++ b))
theorem leafB_len (id : List UInt8) : (leafB id).length = 32 := shaB_length _
theorem knotB_len (a b : List UInt8) : (knotB a b).length = 32 := shaB_length _
/-- What a function that makes a row of hashes answers. -/
def HashesPost (w : World) (hs : List (List UInt8)) (e : Ending) (w' : World) : Prop := ∃ A c, e = .returned (.slice A hs.length c) ∧ w'.ownsRow w.heap.size 24 32 (.slice A hs.length c) hs.length (Hs hs) ∧ Below w.heap.size w w'

set_option maxHeartbeats 600000 in
set_option maxRecDepth 100000 in
theorem leaves_any (w : World) (hT : Tabs w) (A : Option Addr) (n c : Nat) (ids : List (List UInt8)) (hn : n = ids.length) (h32 : All32 ids) (hS : SeesV w w.heap.size A (Hs ids)) (hmax : n ≤ 1048577) :
    Calls Tryd.prog 54 #[.slice A n c] w (HashesPost w (ids.map leafB)) := by
  subst hn
  have HT := Lib.hid hT
  have HS := Lib.hid hS
  have H32 := Lib.hid h32
  have Hmax := Lib.hid hmax
  have qmk := make_hashes ids.length hmax
  have HO := Lib.hid (own_hashes w ids.length hmax)
  have Hb : Hid (Below w.heap.size w (w.alloc (.cells (madeCells (By zero32).toArray (ids.length * 32)) 24))) := Lib.hid (nxAlloc (nxRefl w) _)
  clear hT hS h32
  obtain ⟨i0, hi, hz0, hz1, hz2⟩ := info_parts Tryd.hinfo
  go_enter Tryd.func54, Tryd.ntmps54
  go_wp2
  go_loopw [3, 11] (fun rv iv wr => ∃ (k : Nat) (A1 : Option Addr) (c1 : Nat), k ≤ ids.length ∧ iv = .int .i64 k ∧ rv = .slice A1 k c1 ∧ Hid (wr.ownsRow w.heap.size 24 32 (.slice A1 k c1) k (Hs ((ids.take k).map leafB))) ∧ Hid (Below w.heap.size w wr)) (fun _ iv _ => ids.length - (intOf iv).toNat)
  case atStart => exact ⟨0, _, _, by omega, rfl, rfl, HO.out, Hb.out⟩
  case round =>
    clear HO Hb qmk
    obtain ⟨k, A1, c1, hk, rfl, rfl, HO, Hb⟩ := hrel
    by_cases hlt : k < ids.length
    · obtain ⟨b, off, rfl, hbb, hrg⟩ := SeesV.hash (HS.out.below Hb.out) H32.out hlt
      have hr0 := hrg k hlt
      have hl0 := H32.out.get hlt
      generalize hid : ids[k] = id at *
      have HR := Lib.hid hr0
      have HL := Lib.hid hl0
      clear hrg hr0 hl0
      have HZ0 := Lib.hid (Tryd.hsizeB id HL.out)
      have HSZ : Hid ((Tryd.prog.info? 24).map (·.size) = some (By id).length) := by have h := HZ0.out; show _ = _; rw [h]; simp
      obtain ⟨x, hx⟩ : ∃ x, leafB id = x := ⟨_, rfl⟩
      have HX : Hid (shaB (tagB nmLeaf id) = x) := hx
      have HXl : Hid (x.length = 32) := by show _ = _; rw [← hx, leafB_len]
      have HN : Hid ((ids.take (k + 1)).map leafB = (ids.take k).map leafB ++ [x]) := by show _ = _; rw [List.take_succ_eq_append_getElem hlt, List.map_append, hid, ← hx]; simp
      clear hx
      clear hid
      go_wp2_with (first
        | ((with_reducible show wpList _ _ _ (⟨some 14, _, _, _, _, _⟩ :: _) _ _); refine wpList_load_mid rfl 24 (.tmp 13) rfl b (off + k * 32) rfl (By id) _ HR.out Tryd.underlying24 rfl HSZ.out ?_)
        | ((with_reducible show wpList _ _ _ (⟨none, .store 24 _ _, _, _, _, _⟩ :: _) _ _); refine wpList_store_all rfl 24 (.tmp 5) (.tmp 14) rfl wr.heap.size 24 (By zero32).toArray (By id).toArray rfl rfl (Blk.newAt rfl rfl) (by rw [List.size_toArray, List.size_toArray, By_length, By_length, HL.out]; rfl) HZ0.out (By_one _) ?_; intro w5 h5 h6 h7; have H5 := Lib.hid h5; have Hr5 : Hid (Below wr.heap.size wr w5) := (nxAlloc (nxRefl wr) _).trans (h6.below (nxAlloc (nxRefl wr) _).size (fun k hk => by omega)); clear h5 h6 h7)
        | ((with_reducible show wpList _ _ _ (⟨some 16, _, _, _, _, _⟩ :: _) _ _); refine wpList_load_row rfl 24 (.tmp 5) rfl wr.heap.size rfl 24 (By id).toArray (0, 0) _ H5.out Tryd.underlying24 rfl HZ0.out ?_)
        | (go_at_call 64; refine (leafText_any _ id HL.out).mono ?_; rintro e w6 ⟨A6, c6, rfl, hc6, hs6, hb6⟩; have HC6 := Lib.hid hc6; have HS6 := Lib.hid hs6; have Hr6 : Hid (Below wr.heap.size wr w6) := nxTo Hr5.out hb6; clear hc6 hs6 hb6)
        | (go_at_call 39; refine (hash_any w6 (HT.out.later (nxTo Hb.out Hr6.out)) nmLeaf nm_le.1 A6 id.length c6 id rfl HC6.out HS6.out (by have := HL.out; omega)).mono ?_; rw [HX.out]; rintro e w7 ⟨rfl, hb7⟩; have Hr7 : Hid (Below wr.heap.size wr w7) := nxTo Hr6.out hb7; have HO7 := Lib.hid (own_below HO.out Hr7.out (fun g hg => (own_lt HO.out g hg).2)); clear hb7)
        | ((with_reducible show wpList _ _ _ (⟨some 19, _, _, _, _, _⟩ :: _) _ _); refine wpList_build_hash rfl (.tmp 18) rfl x rfl HXl.out ?_)
        | ((with_reducible show wpList _ _ _ (⟨some 20, _, _, _, _, _⟩ :: _) _ _); refine wpList_append_seesV rfl (.tmp 15) (.tmp 19) 22 rfl w.heap.size 24 i0 (.agg (By zero32).toArray) 32 32 Tryd.underlying22 hi hz0 hz1 hz2 rfl (by omega) (.slice A1 k c1) k (Hs ((ids.take k).map leafB)) rfl (HO7.out.alloc _) (w7.heap.size + 1) (some ⟨w7.heap.size, 0, none⟩) 1 1 (By x) rfl (by rw [By_length, HXl.out]) (SeesV.lit' w7 (By x) 24) (By_one _) (by omega) (by omega) (by have h1 := Hb.out.size; have h2 := Hr7.out.size; simp; omega) ?_; intro v8 w8 ho8 hg8 hat8; obtain ⟨A8, c8, rfl⟩ := own_form ho8; rw [← Hs_snoc, ← HN.out] at ho8; have HO8 := Lib.hid ho8; have Hb8 : Hid (Below w.heap.size w w8) := (nxAlloc (nxTo Hb.out Hr7.out) _).grown hg8 (nxAlloc (nxTo Hb.out Hr7.out) _).size (fun j hj => (own_lt HO7.out j hj).1); clear ho8 hg8 hat8))
      go_roundw
      case rel => exact ⟨k + 1, A8, c8, by omega, by go_num, rfl, HO8.out, Hb8.out⟩
      case measure => simp [intOf] <;> omega
    · obtain rfl : k = ids.length := by omega
      rw [List.take_length] at HO
      have HL : Hid ((ids.map leafB).length = ids.length) := by show _ = _; simp
      go_wp2
      go_ret
      exact ⟨A1, c1, by rw [HL.out]; rfl, by rw [HL.out]; exact HO.out, Hb.out⟩

end Go.Proofs.YtpfjkjogljilnaaDoor
