/-
  merkle: the library's Grow and Concat of bytes, as they are called here.
-/
import Derived.Test.YtcbdjcmjchoagaaDoorMkA
import Derived.Test.YtcbdjcmjchoagaaDoorVals
import Derived.Test.YtcbdjcmjchoagaaDoorTxt
namespace Go.Proofs.YtcbdjcmjchoagaaDoor
open Go.RowKit

section
variable {P : Program} (w : World)
/-- append of so many noughts onto nothing. -/
theorem run_append_make (t ti ty e : TypeId) (k : IntKind) (i : TypeInfo) (z : Value) (ht : P.underlying t = some (.slice e)) (hti : P.underlying ti = some (.int k)) (hi : P.info? e = some i) (hz : i.zero = some z) (hb : i.bytes = 1) (hs : i.size = 1)
    (n : Nat) (h0 : 0 < n) (hmax : n ≤ 1048576) :
    (Builtin.append_ #[t, ti] ty #[.slice none 0 0, .int .i64 (n : Int)]).run P w =
      .ok (.slice (some ⟨w.heap.size, 0, none⟩) n (grownCap w n 0 e)) (w.drew.alloc (.cells (Builtin.zeroCells z.cells n ++ Builtin.zeroCells z.cells (grownCap w n 0 e - n)) e)) := by
  have hn : n ≠ 0 := by omega
  have hw : IntKind.i64.wrap (n : Int) = n := by rw [IntKind.wrap_i64]; omega
  have h1 : ¬ ((n : Int) < 0) := by omega
  have h2 : ¬ (281474976710656 < (n : Int)) := by omega
  have h4 : ¬ ((n : Int) ≤ 0) := by omega
  have h63' : ¬ (9223372036854775807 < (n : Int)) := by omega
  have h48' : ¬ (281474976710656 < Builtin.nextslicecap n 0) := by rw [nextslicecap_zero h0]; omega
  simp [Builtin.append_, run_underlying ht, run_underlying hti, sizeOf, typeInfo, zeroValue, hi, hz, hb, hs, asInt, asIntOf, hw, h1, h2, h4, hn, h63', h48', Question.forced, run_firstCells_none, newRow, grownCap]
end
/-- What Grow answers: an empty row of the call's own. -/
def GrowPost (w : World) (e : Ending) (w' : World) : Prop := ∃ A c, e = .returned (.slice A 0 c) ∧ w'.ownsRow w.heap.size 5 1 (.slice A 0 c) 0 [] ∧ Below w.heap.size w w'

set_option maxHeartbeats 1000000 in
set_option maxRecDepth 100000 in
theorem grow_any (w : World) (n : Nat) (hn : n ≤ 1048576) : Calls Tryd.prog 54 #[.slice none 0 0, .int .i64 (n : Int)] w (GrowPost w) := by
  obtain ⟨i0, hi, hz0, hz1, hz2⟩ := info_parts Tryd.u8info
  by_cases h0 : 0 < n
  · have q1 := run_append_make (P := Tryd.prog) w 47 3 47 5 .i64 i0 (.int .u8 0) Tryd.underlying47 Tryd.underlying3 hi hz0 hz2 hz1 n h0 hn
    have hge := grownCap_ge w n 0 5
    have hle := grownCap_le_maxLen w n 0 5 (by simp only [maxLen]; omega)
    generalize grownCap w n 0 5 = C at *
    generalize hcs : Builtin.zeroCells (Value.int .u8 0).cells n ++ Builtin.zeroCells (Value.int .u8 0).cells (C - n) = cs at *
    have hsz : cs.size = C := by rw [← hcs, Array.size_append, size_zeroCells, size_zeroCells]; show n * 1 + (C - n) * 1 = C; omega
    have HO : Hid ((w.drew.alloc (.cells cs 5)).ownsRow w.heap.size 5 1 (.slice (some ⟨w.heap.size, 0, none⟩) 0 C) 0 []) := by
      have := own_made (w := w.drew.alloc (.cells cs 5)) (base := w.heap.size) (g := w.heap.size) (e := 5) (n := 0) (c := C) (size := 1) (cs := cs.toList) (heap_alloc_new w.drew _) (Nat.le_refl _) (Nat.zero_le _) hle (by rw [Array.length_toList]; omega)
      exact Lib.hid (by simpa using this)
    have q2 : ∀ wq : World, (Instr.slice 47 (.slice none 0 0) none (some (.int .i64 0)) none).run Tryd.prog wq = .ok (.slice none 0 0) wq := by
      intro wq
      simp [Instr.slice, run_underlying Tryd.underlying47, Instr.sliceBounds, run_sliceBound wq .i64 (0 : Int) 0 _ (by omega) (by omega), sizeOf, typeInfo, hi]
    have q3 : ∀ wq : World, (Instr.slice 47 (.slice (some ⟨w.heap.size, 0, none⟩) n C) none (some (.int .i64 0)) none).run Tryd.prog wq = .ok (.slice (some ⟨w.heap.size, 0, none⟩) 0 C) wq := by
      intro wq
      simp [Instr.slice, run_underlying Tryd.underlying47, Instr.sliceBounds, run_sliceBound wq .i64 (0 : Int) C _ (by omega) (by omega), sizeOf, typeInfo, hi, Addr.add_lit]
    have Hb : Hid (Below w.heap.size w (w.drew.alloc (.cells cs 5))) := Lib.hid ((Below.refl _ _).drew.alloc (Nat.le_refl _) _)
    clear hcs hsz hge hle
    go_enter Tryd.func54, Tryd.ntmps54
    go_wp2_with ((with_reducible show wpList _ _ _ (⟨some 22, _, _, _, _, _⟩ :: _) _ _); refine wpList_run rfl _ _ (by unfold execOp; simp only [resolve, invoke, builtin, Sem.run_bind, Sem.run_pure, Result.andThen_ok, List.map_toArray, List.map_cons, List.map_nil]; erw [q1]; rfl) ?_)
    go_ret
    exact ⟨_, _, rfl, HO.out, Hb.out⟩
  · obtain rfl : n = 0 := by omega
    go_enter Tryd.func54, Tryd.ntmps54
    go_wp2
    go_ret
    exact ⟨none, 0, rfl, World.ownsRow_nil _ _ _ _, Below.refl _ _⟩

/-- What Concat answers. -/
def CatPost (w : World) (l : List UInt8) (e : Ending) (w' : World) : Prop := ∃ A c, e = .returned (.slice A l.length c) ∧ l.length ≤ c ∧ Sees w' w'.heap.size A l ∧ Below w.heap.size w w'
theorem flat_next (ps : List (List UInt8)) (k : Nat) (h : k < ps.length) : (ps.take (k + 1)).flatten = (ps.take k).flatten ++ ps[k] := by
  rw [List.take_succ_eq_append_getElem h, List.flatten_append]; simp
theorem flat_le (ps : List (List UInt8)) (k : Nat) : (ps.take k).flatten.length ≤ ps.flatten.length := by
  have h2 : ps.flatten.length = ((ps.take k).flatten).length + ((ps.drop k).flatten).length := by
    rw [← List.length_append, ← List.flatten_append, List.take_append_drop]
  omega

set_option maxHeartbeats 2000000 in
set_option maxRecDepth 100000 in
theorem concat_any (w : World) (A : Option Addr) (n c : Nat) (ps : List (List UInt8)) (hn : n = ps.length) (hS : SeesL w w.heap.size A ps) (hcnt : n ≤ 1000) (hmax : ps.flatten.length ≤ 100000) :
    Calls Tryd.prog 48 #[.slice A n c] w (CatPost w ps.flatten) := by
  subst hn
  have HS := Lib.hid hS
  have Hmax := Lib.hid hmax
  clear hS hmax
  obtain ⟨i0, hi, hz0, hz1, hz2⟩ := info_parts Tryd.u8info
  go_enter Tryd.func48, Tryd.ntmps48
  go_wp2
  go_loop [3, 11] (fun sv i => ∃ (k s : Nat), k ≤ ps.length ∧ i = .int .i64 k ∧ sv = .int .i64 s ∧ s ≤ 100000 ∧ Hid ((ps.take k).flatten.length = s)) (fun _ i => ps.length - (intOf i).toNat)
  case atStart => exact ⟨0, 0, by omega, rfl, rfl, by omega, rfl⟩
  case round =>
    obtain ⟨k, s, hk, rfl, rfl, hs, HK⟩ := hrel
    by_cases hlt : k < ps.length
    · obtain ⟨b, off, Ai, ci, rfl, hc, hci, ho⟩ := HS.out.at_ k hlt
      have hl1 : s + ps[k].length ≤ 100000 := by
        have h1 := flat_le ps (k + 1)
        rw [flat_next ps k hlt, List.length_append, HK.out] at h1
        have h2 := Hmax.out
        omega
      have HN : Hid ((ps.take (k + 1)).flatten.length = s + ps[k].length) := by show _ = _; rw [flat_next ps k hlt, List.length_append, HK.out]
      clear ho
      generalize ps[k] = p at *
      go_wp2
      go_round
      case rel => exact ⟨k + 1, s + p.length, by omega, by go_num, by go_num, hl1, HN.out⟩
      case measure => simp [intOf] <;> omega
    · obtain rfl : k = ps.length := by omega
      rw [List.take_length] at HK
      go_wp2_with (go_at_call 54; refine (grow_any _ s (by omega)).mono ?_; rintro e w2 ⟨A2, c2, rfl, ho2, hb2⟩; have HO2 := Lib.hid ho2; have Hb2 := Lib.hid hb2; clear ho2 hb2)
      go_loopw [6, 27] (fun v i wr => ∃ (k : Nat) (A1 : Option Addr) (c1 : Nat), k ≤ ps.length ∧ i = .int .i64 k ∧ v = .slice A1 (ps.take k).flatten.length c1 ∧ Hid (wr.ownsRow w.heap.size 5 1 (.slice A1 (ps.take k).flatten.length c1) (ps.take k).flatten.length (By (ps.take k).flatten)) ∧ Hid (Below w.heap.size w wr)) (fun _ i _ => ps.length - (intOf i).toNat)
      case atStart => exact ⟨0, A2, c2, by omega, rfl, rfl, HO2.out, Hb2.out⟩
      case round =>
        clear HO2 Hb2 HK hlt hs
        obtain ⟨k, A1, c1, hk, rfl, rfl, HO, Hb⟩ := hrel
        by_cases hlt : k < ps.length
        · obtain ⟨b, off, Ai, ci, rfl, hc, hci, ho⟩ := (HS.out.shift Hb.out (Nat.le_refl _)).at_ k hlt
          have HP := Lib.hid (flat_next ps k hlt)
          have HPl : Hid (((ps.take (k + 1)).flatten).length = (ps.take k).flatten.length + ps[k].length) := by show _ = _; rw [HP.out, List.length_append]
          have hq : (ps.take k).flatten.length + ps[k].length ≤ 100000 := by
            have h1 := flat_le ps (k + 1)
            rw [HPl.out] at h1
            have h2 := Hmax.out
            omega
          have HO' := Lib.hid ho.sees
          clear ho
          generalize hp : ps[k] = p at *
          clear hp
          go_wp2_with ((with_reducible show wpList _ _ _ (⟨some 33, _, _, _, _, _⟩ :: _) _ _); refine wpList_append_sees rfl (.tmp 31) (.tmp 32) 47 rfl w.heap.size 5 i0 (.int .u8 0) Tryd.underlying47 hi hz0 hz1 hz2 rfl (.slice A1 (ps.take k).flatten.length c1) (ps.take k).flatten.length (By (ps.take k).flatten) rfl HO.out wr.heap.size Ai p.length ci p rfl rfl HO'.out (by omega) Hb.out.size ?_; intro v2 w2 ho2 hg2 hat2; obtain ⟨A2, c2, rfl⟩ := own_form ho2; have ho3 : w2.ownsRow w.heap.size 5 1 (.slice A2 (ps.take (k + 1)).flatten.length c2) (ps.take (k + 1)).flatten.length (By (ps.take (k + 1)).flatten) := (by rw [HPl.out, HP.out, By_append]; exact ho2); have HO2 := Lib.hid ho3; have Hb2 : Hid (Below w.heap.size w w2) := (Hb.out.grown hg2 Hb.out.size (fun j hj => (HO.out.lt j hj).1)); clear ho2 ho3 hg2 hat2)
          go_roundw
          case rel => exact ⟨k + 1, A2, c2, by omega, by go_num, by rw [HPl.out]; simp [List.length_flatten, List.map_take], HO2.out, Hb2.out⟩
          case measure => simp [intOf] <;> omega
        · obtain rfl : k = ps.length := by omega
          rw [List.take_length] at HO
          go_wp2
          go_ret
          exact ⟨A1, c1, by rw [List.take_length]; rfl, own_cap' HO.out, Sees.own HO.out, Hb.out⟩

end Go.Proofs.YtcbdjcmjchoagaaDoor
