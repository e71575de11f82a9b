/-
  merkle: the library's Grow and Concat of bytes, as they are called here. · merkle: the texts that are hashed: of a leaf, of a knot; their hashes, and their bytes.
-/
import Derived.Test.YtbloomnifhcgbaaGreatDoorMkA
import Derived.Test.YtbloomnifhcgbaaGreatDoorVals
import Derived.Test.YtbloomnifhcgbaaGreatDoorTxt
import Derived.Test.YtbloomnifhcgbaaGreatDoorSOpen
import Derived.Deep.RegionHeldLaw
namespace Go.Proofs.YtbloomnifhcgbaaGreatDoor
open Go.RowKit

section
variable {P : Program} (w : World)
/-- append of so many noughts onto nothing. -/
theorem run_append_make (t ti ty e : TypeId) (k : IntKind) (i : TypeInfo) (z : Value) (ht : P.underlying t = some (.slice e)) (hti : P.underlying ti = some (.int k)) (hi : P.info? e = some i) (hz : i.zero = some z) (hb : i.bytes = 1) (hs : i.size = 1)
    (n : Nat) (h0 : 0 < n) (hmax : n ≤ 1048576) :
    (Builtin.append_ #[t, ti] ty #[.slice none 0 0, .int .i64 (n : Int)]).run P w =
      .ok (.slice (some ⟨w.heap.size, 0, none⟩) n (grownCap w n 0 e)) (w.drew.alloc (.cells (Builtin.zeroCells z.cells n ++ Builtin.zeroCells z.cells (grownCap w n 0 e - n)) e)) := by
  have hn : n ≠ 0 := by omega
  have hw : IntKind.i64.wrap (n : Int) = n := by rw [IntKind.wrap_i64]; omega
  have h1 : ¬ ((n : Int) < 0) := by omega
  have h2 : ¬ (281474976710656 < (n : Int)) := by omega
  have h4 : ¬ ((n : Int) ≤ 0) := by omega
  have h63' : ¬ (9223372036854775807 < (n : Int)) := by omega
  have h48' : ¬ (281474976710656 < Builtin.nextslicecap n 0) := by rw [nextslicecap_zero h0]; omega
  simp [Builtin.append_, run_underlying ht, run_underlying hti, sizeOf, typeInfo, zeroValue, hi, hz, hb, hs, asInt, asIntOf, hw, h1, h2, h4, hn, h63', h48', Question.forced, run_firstCells_none, newRow, grownCap]
end
/-- What Grow answers: an empty row of the call's own. -/
def GrowPost (w : World) (e : Ending) (w' : World) : Prop := ∃ A c, e = .returned (.slice A 0 c) ∧ w'.ownsRow w.heap.size 5 1 (.slice A 0 c) 0 [] ∧ Below w.heap.size w w'

set_option maxHeartbeats 1000000 in
set_option maxRecDepth 100000 in
theorem grow_any (w : World) (n : Nat) (hn : n ≤ 1048576) : Calls Tryz.prog 125 #[.slice none 0 0, .int .i64 (n : Int)] w (GrowPost w) := by
  obtain ⟨i0, hi, hz0, hz1, hz2⟩ := info_parts Tryz.u8info
  by_cases h0 : 0 < n
  · have q1 := run_append_make (P := Tryz.prog) w 22 3 22 5 .i64 i0 (.int .u8 0) Tryz.underlying22 Tryz.underlying3 hi hz0 hz2 hz1 n h0 hn
    have hge := grownCap_ge w n 0 5
    have hle := grownCap_le_maxLen w n 0 5 (by simp only [maxLen]; omega)
    generalize grownCap w n 0 5 = C at *
    generalize hcs : Builtin.zeroCells (Value.int .u8 0).cells n ++ Builtin.zeroCells (Value.int .u8 0).cells (C - n) = cs at *
    have hsz : cs.size = C := by rw [← hcs, Array.size_append, size_zeroCells, size_zeroCells]; show n * 1 + (C - n) * 1 = C; omega
    have HO : Hid ((w.drew.alloc (.cells cs 5)).ownsRow w.heap.size 5 1 (.slice (some ⟨w.heap.size, 0, none⟩) 0 C) 0 []) := by
      have := own_made (w := w.drew.alloc (.cells cs 5)) (base := w.heap.size) (g := w.heap.size) (e := 5) (n := 0) (c := C) (size := 1) (cs := cs.toList) (heap_alloc_new w.drew _) (Nat.le_refl _) (Nat.zero_le _) hle (by rw [Array.length_toList]; omega)
      exact Lib.hid (by simpa using this)
    have q2 : ∀ wq : World, (Instr.slice 22 (.slice none 0 0) none (some (.int .i64 0)) none).run Tryz.prog wq = .ok (.slice none 0 0) wq := by
      intro wq
      simp [Instr.slice, run_underlying Tryz.underlying22, Instr.sliceBounds, run_sliceBound wq .i64 (0 : Int) 0 _ (by omega) (by omega), sizeOf, typeInfo, hi]
    have q3 : ∀ wq : World, (Instr.slice 22 (.slice (some ⟨w.heap.size, 0, none⟩) n C) none (some (.int .i64 0)) none).run Tryz.prog wq = .ok (.slice (some ⟨w.heap.size, 0, none⟩) 0 C) wq := by
      intro wq
      simp [Instr.slice, run_underlying Tryz.underlying22, Instr.sliceBounds, run_sliceBound wq .i64 (0 : Int) C _ (by omega) (by omega), sizeOf, typeInfo, hi, Addr.add_lit]
    have Hb : Hid (Below w.heap.size w (w.drew.alloc (.cells cs 5))) := Lib.hid ((Below.refl _ _).drew.alloc (Nat.le_refl _) _)
    clear hcs hsz hge hle
    go_enter Tryz.func125, Tryz.ntmps125
    go_wp2_with ((with_reducible show wpList _ _ _ (⟨some 22, _, _, _, _, _⟩ :: _) _ _); refine wpList_run rfl _ _ (by unfold execOp; simp only [resolve, invoke, builtin, Sem.run_bind, Sem.run_pure, Result.andThen_ok, List.map_toArray, List.map_cons, List.map_nil]; erw [q1]; rfl) ?_)
    go_ret
    exact ⟨_, _, rfl, HO.out, Hb.out⟩
  · obtain rfl : n = 0 := by omega
    go_enter Tryz.func125, Tryz.ntmps125
    go_wp2
    go_ret
    exact ⟨none, 0, rfl, World.ownsRow_nil _ _ _ _, Below.refl _ _⟩

/-- What Concat answers. -/
def CatPost (w : World) (l : List UInt8) (e : Ending) (w' : World) : Prop := ∃ A c, e = .returned (.slice A l.length c) ∧ l.length ≤ c ∧ Sees w' w'.heap.size A l ∧ Below w.heap.size w w'
theorem flat_next (ps : List (List UInt8)) (k : Nat) (h : k < ps.length) : (ps.take (k + 1)).flatten = (ps.take k).flatten ++ ps[k] := by
  rw [List.take_succ_eq_append_getElem h, List.flatten_append]; simp
theorem flat_le (ps : List (List UInt8)) (k : Nat) : (ps.take k).flatten.length ≤ ps.flatten.length := by
  have h2 : ps.flatten.length = ((ps.take k).flatten).length + ((ps.drop k).flatten).length := by
    rw [← List.length_append, ← List.flatten_append, List.take_append_drop]
  omega

set_option maxHeartbeats 2000000 in
set_option maxRecDepth 100000 in
theorem concat_any (w : World) (A : Option Addr) (n c : Nat) (ps : List (List UInt8)) (hn : n = ps.length) (hS : SeesL w w.heap.size A ps) (hcnt : n ≤ 1000) (hmax : ps.flatten.length ≤ 100000) :
    Calls Tryz.prog 124 #[.slice A n c] w (CatPost w ps.flatten) := by
  subst hn
  have HS := Lib.hid hS
  have Hmax := Lib.hid hmax
  clear hS hmax
  obtain ⟨i0, hi, hz0, hz1, hz2⟩ := info_parts Tryz.u8info
  go_enter Tryz.func124, Tryz.ntmps124
  go_wp2
  go_loop [3, 11] (fun sv i => ∃ (k s : Nat), k ≤ ps.length ∧ i = .int .i64 k ∧ sv = .int .i64 s ∧ s ≤ 100000 ∧ Hid ((ps.take k).flatten.length = s)) (fun _ i => ps.length - (intOf i).toNat)
  case atStart => exact ⟨0, 0, by omega, rfl, rfl, by omega, rfl⟩
  case round =>
    obtain ⟨k, s, hk, rfl, rfl, hs, HK⟩ := hrel
    by_cases hlt : k < ps.length
    · obtain ⟨b, off, Ai, ci, rfl, hc, hci, ho⟩ := HS.out.at_ k hlt
      have hl1 : s + ps[k].length ≤ 100000 := by
        have h1 := flat_le ps (k + 1)
        rw [flat_next ps k hlt, List.length_append, HK.out] at h1
        have h2 := Hmax.out
        omega
      have HN : Hid ((ps.take (k + 1)).flatten.length = s + ps[k].length) := by show _ = _; rw [flat_next ps k hlt, List.length_append, HK.out]
      clear ho
      generalize ps[k] = p at *
      go_wp2
      go_round
      case rel => exact ⟨k + 1, s + p.length, by omega, by go_num, by go_num, hl1, HN.out⟩
      case measure => simp [intOf] <;> omega
    · obtain rfl : k = ps.length := by omega
      rw [List.take_length] at HK
      go_wp2_with (go_at_call 125; refine (grow_any _ s (by omega)).mono ?_; rintro e w2 ⟨A2, c2, rfl, ho2, hb2⟩; have HO2 := Lib.hid ho2; have Hb2 := Lib.hid hb2; clear ho2 hb2)
      go_loopw [6, 27] (fun v i wr => ∃ (k : Nat) (A1 : Option Addr) (c1 : Nat), k ≤ ps.length ∧ i = .int .i64 k ∧ v = .slice A1 (ps.take k).flatten.length c1 ∧ Hid (wr.ownsRow w.heap.size 5 1 (.slice A1 (ps.take k).flatten.length c1) (ps.take k).flatten.length (By (ps.take k).flatten)) ∧ Hid (Below w.heap.size w wr)) (fun _ i _ => ps.length - (intOf i).toNat)
      case atStart => exact ⟨0, A2, c2, by omega, rfl, rfl, HO2.out, Hb2.out⟩
      case round =>
        clear HO2 Hb2 HK hlt hs
        obtain ⟨k, A1, c1, hk, rfl, rfl, HO, Hb⟩ := hrel
        by_cases hlt : k < ps.length
        · obtain ⟨b, off, Ai, ci, rfl, hc, hci, ho⟩ := (HS.out.shift Hb.out (Nat.le_refl _)).at_ k hlt
          have HP := Lib.hid (flat_next ps k hlt)
          have HPl : Hid (((ps.take (k + 1)).flatten).length = (ps.take k).flatten.length + ps[k].length) := by show _ = _; rw [HP.out, List.length_append]
          have hq : (ps.take k).flatten.length + ps[k].length ≤ 100000 := by
            have h1 := flat_le ps (k + 1)
            rw [HPl.out] at h1
            have h2 := Hmax.out
            omega
          have HO' := Lib.hid ho.sees
          clear ho
          generalize hp : ps[k] = p at *
          clear hp
          go_wp2_with ((with_reducible show wpList _ _ _ (⟨some 33, _, _, _, _, _⟩ :: _) _ _); refine wpList_append_sees rfl (.tmp 31) (.tmp 32) 22 rfl w.heap.size 5 i0 (.int .u8 0) Tryz.underlying22 hi hz0 hz1 hz2 rfl (.slice A1 (ps.take k).flatten.length c1) (ps.take k).flatten.length (By (ps.take k).flatten) rfl HO.out wr.heap.size Ai p.length ci p rfl rfl HO'.out (by omega) Hb.out.size ?_; intro v2 w2 ho2 hg2 hat2; obtain ⟨A2, c2, rfl⟩ := own_form ho2; have ho3 : w2.ownsRow w.heap.size 5 1 (.slice A2 (ps.take (k + 1)).flatten.length c2) (ps.take (k + 1)).flatten.length (By (ps.take (k + 1)).flatten) := (by rw [HPl.out, HP.out, By_append]; exact ho2); have HO2 := Lib.hid ho3; have Hb2 : Hid (Below w.heap.size w w2) := (Hb.out.grown hg2 Hb.out.size (fun j hj => (HO.out.lt j hj).1)); clear ho2 ho3 hg2 hat2)
          go_roundw
          case rel => exact ⟨k + 1, A2, c2, by omega, by go_num, by rw [HPl.out]; simp [List.length_flatten, List.map_take], HO2.out, Hb2.out⟩
          case measure => simp [intOf] <;> omega
        · obtain rfl : k = ps.length := by omega
          rw [List.take_length] at HO
          go_wp2
          go_ret
          exact ⟨A1, c1, by rw [List.take_length]; rfl, own_cap' HO.out, Sees.own HO.out, Hb.out⟩

end Go.Proofs.YtbloomnifhcgbaaGreatDoor
namespace Go.Proofs.YtbloomnifhcgbaaGreatDoor
open Go.RowKit

theorem Tryz.txtsize : (Tryz.prog.info? 148).map (·.size) = some 2 := by kernel_rfl
def nmLeaf : ByteArray := ⟨#[108, 101, 97, 102]⟩
def nmKnot : ByteArray := ⟨#[107, 110, 111, 116]⟩
def nmRoot : ByteArray := ⟨#[114, 111, 111, 116]⟩
theorem nm_le : nmLeaf.size ≤ 200 ∧ nmKnot.size ≤ 200 ∧ nmRoot.size ≤ 200 := ⟨by show 4 ≤ 200; omega, by show 4 ≤ 200; omega, by show 4 ≤ 200; omega⟩
/-- A text in memory: a name, and a slice that shows its bytes. -/
def TextV (nm : ByteArray) (A : Option Addr) (n c : Nat) : Value := .agg #[.string nm, .slice A n c]
/-- What a text's maker answers. -/
def TextPost (w : World) (nm : ByteArray) (l : List UInt8) (e : Ending) (w' : World) : Prop := ∃ A c, e = .returned (TextV nm A l.length c) ∧ l.length ≤ c ∧ Sees w' w'.heap.size A l ∧ Below w.heap.size w w'

set_option maxHeartbeats 1000000 in
set_option maxRecDepth 100000 in
theorem leafText_any (w : World) (id : List UInt8) (hid : id.length = 32) : Calls Tryz.prog 120 #[.agg (By id).toArray] w (TextPost w nmLeaf id) := by
  have Hid1 := Lib.hid hid
  have HB : Hid (Blk (w.alloc (.cells (By id).toArray 26)) w.heap.size 26 (By id).toArray) := Lib.hid (heap_alloc_new w _)
  clear hid
  go_enter Tryz.func120, Tryz.ntmps120
  go_wp2
  refine bodyPost_ret (results_cell_row Tryz.results120 _ _ (w.heap.size + 1) 148 _ (0, 0) _ rfl (Blk.newAt (by simp) rfl) Tryz.underlying148 rfl Tryz.txtsize) rfl ⟨some ⟨w.heap.size, 0, none⟩, 32, by rw [Hid1.out]; rfl, by rw [Hid1.out]; exact Nat.le_refl _, ?_, ?_⟩
  · refine .inr ⟨w.heap.size, 0, rfl, by simp; omega, fun i hi => ?_⟩
    rw [Nat.zero_add, (HB.out.alloc _).cell i]
    simp [By, hi]
  · exact ((Below.refl _ _).alloc (Nat.le_refl _) _).alloc (by simp) _

theorem SeesO.hash {w : World} {g b : Nat} {t : TypeId} {l : List UInt8} (hb : Blk w b t (By l).toArray) (hne : b ≠ g) : SeesO w g (some ⟨b, 0, none⟩) l := by
  have := SeesO.blk (g := g) hb hne l.length
  rwa [List.take_length] at this

/-- What a slice shows in another block stays behind a store. -/
theorem Sees.setFar {w : World} {B g : Nat} {A : Option Addr} {l : List UInt8} {t : TypeId} {cs : Array Value} (h : Sees w B A l) (hb : Blk w g t cs) (hno : ∀ (i : Nat) (z : Int), cs[i]? ≠ some (Value.int .u8 z)) (i : Nat) (u : Value) : Sees (w.setCell ⟨g, i, none⟩ u) B A l := by
  rcases h with h | ⟨b, off, hA, hlt, hc⟩
  · exact .inl h
  · by_cases h0 : l.length = 0
    · exact .inl (List.eq_nil_of_length_eq_zero h0)
    · have hne : ¬ b = g := by
        intro e
        subst e
        have := hc 0 (by omega)
        rw [hb.cell] at this
        exact hno _ _ this
      refine .inr ⟨b, off, hA, hlt, fun j hj => ?_⟩
      rw [World.cell?_of_block (w := w) (Below.heap_setCell w ⟨g, i, none⟩ u b hne)]
      exact hc j hj
theorem two_no {s : ByteArray} {A : Option Addr} {n c : Nat} (i : Nat) (z : Int) : (#[.string s, .slice A n c] : Array Value)[i]? ≠ some (.int .u8 z) := by
  match i with
  | 0 => simp
  | 1 => simp
  | i + 2 => simp

set_option maxHeartbeats 1000000 in
set_option maxRecDepth 100000 in
theorem knotText_any (w : World) (a b : List UInt8) (ha : a.length = 32) (hb : b.length = 32) : Calls Tryz.prog 121 #[.agg (By a).toArray, .agg (By b).toArray] w (TextPost w nmKnot (a ++ b)) := by
  have hA : Blk (((w.alloc (.cells (By a).toArray 26)).alloc (.cells (By b).toArray 26)).alloc (.cells #[.string ⟨#[]⟩, .slice none 0 0] 148)) w.heap.size 26 (By a).toArray := ((show Blk (w.alloc _) _ _ _ from heap_alloc_new w _).alloc _).alloc _
  have hB : Blk (((w.alloc (.cells (By a).toArray 26)).alloc (.cells (By b).toArray 26)).alloc (.cells #[.string ⟨#[]⟩, .slice none 0 0] 148)) (w.heap.size + 1) 26 (By b).toArray := (Blk.newAt (by simp) rfl).alloc _
  have hT : Blk (((w.alloc (.cells (By a).toArray 26)).alloc (.cells (By b).toArray 26)).alloc (.cells #[.string ⟨#[]⟩, .slice none 0 0] 148)) (w.heap.size + 1 + 1) 148 #[.string ⟨#[]⟩, .slice none 0 0] := Blk.newAt (by simp) rfl
  have hb0 : Below w.heap.size w (((w.alloc (.cells (By a).toArray 26)).alloc (.cells (By b).toArray 26)).alloc (.cells #[.string ⟨#[]⟩, .slice none 0 0] 148)) := nxAlloc (nxAlloc (nxAlloc (nxRefl w) _) _) _
  have hsz : w.heap.size + 3 = ((((w.alloc (.cells (By a).toArray 26)).alloc (.cells (By b).toArray 26)).alloc (.cells #[.string ⟨#[]⟩, .slice none 0 0] 148))).heap.size := by simp
  have HL : Hid ((a ++ b).length = 64) := by show _ = _; rw [List.length_append, ha, hb]
  have HF : Hid (([a, b] : List (List UInt8)).flatten = a ++ b) := by show _ = _; simp
  have Hla := Lib.hid ha
  have Hlb := Lib.hid hb
  have HA := Lib.hid hA
  have HB := Lib.hid hB
  have HT := Lib.hid hT
  have Hb := Lib.hid hb0
  have Hs := Lib.hid hsz
  clear ha hb hA hB hT hb0 hsz
  go_enter Tryz.func121, Tryz.ntmps121
  go_wp2
  generalize (((w.alloc (.cells (By a).toArray 26)).alloc (.cells (By b).toArray 26)).alloc (.cells #[.string ⟨#[]⟩, .slice none 0 0] 148)) = W0 at *
  have HS : Hid (SeesL (W0.alloc (.cells #[.slice (some ⟨w.heap.size, 0, none⟩) 32 32, .slice (some ⟨w.heap.size + 1, 0, none⟩) 32 32] 22)).drew (W0.heap.size + 1) (some ⟨W0.heap.size, 0, none⟩) [a, b]) :=
    (SeesL.two (SeesO.hash HA.out (by have := Hs.out; omega)) (SeesO.hash HB.out (by have := Hs.out; omega)) Hla.out.symm Hlb.out.symm (Nat.le_refl _) (Nat.le_refl _) (by omega)).drew
  go_region_held_law (fun _ => True) (exact True.intro) ((go_at_call 124; refine (concat_any _ _ 2 2 [a, b] rfl (by have h := HS.out; simpa only [World.size_alloc, World.drew] using h) (by omega) (by rw [HF.out, HL.out]; omega)).mono ?_; rw [HF.out]; rintro e w4 ⟨A4, c4, rfl, hc4, hs4, hb4⟩; have Hc4 := Lib.hid hc4; have b4 : Below W0.heap.size W0 w4 := nxTo (nxAlloc (nxRefl W0) _).drew hb4; have h4 := HT.out.below b4 HT.out.lt; have c0 : w4.cell? ⟨w.heap.size + 1 + 1, 0, none⟩ = some (.string ⟨#[]⟩) := h4.cell 0; have c1 : w4.cell? ⟨w.heap.size + 1 + 1, 1, none⟩ = some (.slice none 0 0) := h4.cell 1; have f0 := h4.frozen 0; have f1 := h4.frozen 1; have HT4 := Lib.hid h4; have HS4 := Lib.hid hs4; have Hb4 := Lib.hid b4; clear hc4 hs4 hb4 b4 h4))
  have HT5 := Lib.hid ((HT4.out.set 0 (.string nmKnot)).set 1 (.slice A4 (a.length + b.length) c4))
  have HS5 : Hid (Sees ((w4.setCell ⟨w.heap.size + 1 + 1, 0, none⟩ (.string nmKnot)).setCell ⟨w.heap.size + 1 + 1, 1, none⟩ (.slice A4 (a.length + b.length) c4)) w4.heap.size A4 (a ++ b)) :=
    Sees.setFar (Sees.setFar HS4.out HT4.out two_no 0 _) (HT4.out.set 0 _) two_no 1 _
  have Hb5 : Hid (Below w.heap.size w ((w4.setCell ⟨w.heap.size + 1 + 1, 0, none⟩ (.string nmKnot)).setCell ⟨w.heap.size + 1 + 1, 1, none⟩ (.slice A4 (a.length + b.length) c4))) :=
    ((nxTo Hb.out Hb4.out).setCell (p := ⟨w.heap.size + 1 + 1, 0, none⟩) (by show w.heap.size ≤ w.heap.size + 1 + 1; omega) _).setCell (p := ⟨w.heap.size + 1 + 1, 1, none⟩) (by show w.heap.size ≤ w.heap.size + 1 + 1; omega) _
  clear c0 c1 f0 f1
  go_wp2
  refine bodyPost_ret (results_cell_row Tryz.results121 _ _ (w.heap.size + 1 + 1) 148 _ (0, 0) _ rfl HT5.out Tryz.underlying148 rfl Tryz.txtsize) rfl ⟨A4, c4, by rw [List.length_append]; rfl, Hc4.out, ?_, Hb5.out⟩
  exact HS5.out.more (by simp [World.setCell])

set_option maxHeartbeats 1000000 in
set_option maxRecDepth 100000 in
theorem hash_any (w : World) (hT : Tabs w) (nm : ByteArray) (hnm : nm.size ≤ 200) (A : Option Addr) (n c : Nat) (l : List UInt8) (hn : n = l.length) (hc : n ≤ c) (hS : Sees w w.heap.size A l) (hmax : n ≤ 100000) :
    Calls Tryz.prog 94 #[TextV nm A n c] w fun e w' => e = .returned (.agg (By (shaB (tagB nm l))).toArray) ∧ Below w.heap.size w w' := by
  unfold TextV
  have hb0 : Below w.heap.size w ((w.alloc (.cells #[.string nm, .slice A n c] 148)).alloc (.cells (By zero32).toArray 26)) := nxAlloc (nxAlloc (nxRefl w) _) _
  have B0 : Hid (Blk ((w.alloc (.cells #[.string nm, .slice A n c] 148)).alloc (.cells (By zero32).toArray 26)) (w.heap.size + 1) 26 (By zero32).toArray) := Lib.hid (Blk.newAt (by simp) rfl)
  have Hb0 := Lib.hid hb0
  have HT := Lib.hid (hT.later hb0)
  have HS : Hid (∀ W, Below w.heap.size w W → SeesL (W.alloc (.cells #[.slice A n c] 22)) (W.heap.size + 1) (some ⟨W.heap.size, 0, none⟩) [l]) := by
    intro W hb
    have h1 : Sees W W.heap.size A l := (hS.below hb).more hb.size
    refine SeesL.one ?_ hn hc (by omega)
    rcases h1 with h | ⟨b, off, hA, hlt, hcc⟩
    · exact .inl h
    · exact .inr ⟨b, off, hA, hlt, by omega, hcc⟩
  have HF : Hid (([l] : List (List UInt8)).flatten = l) := by show _ = _; simp
  have HC := Lib.hid (cutN_short nm (by omega))
  have HZ0 := Lib.hid (Tryz.hsizeB (shaB (tagB nm l)) rfl)
  have Hn := Lib.hid hn
  clear hT hS hn hb0
  go_enter Tryz.func94, Tryz.ntmps94
  go_wp2_with (first
    | (go_at_call 34; refine (tag_any _ (HT.out.alloc _) nm _ 1 1 [l] rfl (by have h := HS.out _ Hb0.out; simpa only [World.size_alloc] using h) (by rw [HF.out]; have := Hn.out; omega) (by omega) (by omega)).mono ?_; rw [HF.out, HC.out]; rintro e w4 ⟨rfl, hb4⟩; have Hb4 : Hid (Below w.heap.size w w4) := nxTo (nxAlloc Hb0.out _) hb4; have B4 := Lib.hid ((B0.out.alloc (.cells #[.slice A n c] 22)).below hb4 (B0.out.alloc _).lt); clear hb4)
    | ((with_reducible show wpList _ _ _ (⟨none, .store 26 _ _, _, _, _, _⟩ :: _) _ _); refine wpList_store_all rfl 26 (.tmp 2) (.tmp 8) rfl (w.heap.size + 1) 26 (By zero32).toArray (By (shaB (tagB nm l))).toArray rfl rfl B4.out rfl HZ0.out (By_one _) ?_; intro w5 h5 h6 h7; have H5 := Lib.hid h5; have Hb5 : Hid (Below w.heap.size w w5) := Hb4.out.trans (h6.below Hb4.out.size (fun k hk => by omega)); clear h5 h6 h7))
  refine bodyPost_ret (results_cell_row Tryz.results94 _ _ (w.heap.size + 1) 26 _ (0, 0) _ rfl H5.out Tryz.underlying26 rfl HZ0.out) rfl ⟨rfl, Hb5.out⟩

end Go.Proofs.YtbloomnifhcgbaaGreatDoor
