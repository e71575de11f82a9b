/-
  disk: steps that come in, opened.
-/
import Derived.Test.YtiagefcjebnopaaRows
import Derived.Test.YtiagefcjebnopaaDkQ
import Derived.ProofKit
import Derived.OpenShut
import Derived.Deep.Slices
namespace Go.Proofs.Ytiagefcjebnopaa
open Go.ChangeShapes Go.WideShapes Go.ChangeAt Go.RowKit Go.Deep

theorem Try.cellsU8 : Try.prog.cellsOf 5 = 1 := by kernel_rfl
theorem Try.cellsInt : Try.prog.cellsOf 3 = 1 := by kernel_rfl
theorem Try.cellsSl : Try.prog.cellsOf 23 = 1 := by kernel_rfl
theorem Try.cellsStep : Try.prog.cellsOf 25 = 6 := by kernel_rfl
/-- Numbers that are bytes, as bytes. -/
def toB (zs : List Int) : List UInt8 := zs.map fun z => UInt8.ofNat z.toNat
theorem toB_cast {z : Int} (h : (Lit.int .u8 z).wf = true) : ((UInt8.ofNat z.toNat).toNat : Int) = z := by
  have := bounds_u8 h
  rw [UInt8.toNat_ofNat']
  omega
theorem By_toB {zs : List Int} (h : ∀ z ∈ zs, (Lit.int .u8 z).wf = true) : By (toB zs) = zs.map (Value.int .u8) := by
  simp only [By, toB, List.map_map]
  refine List.map_congr_left fun z hz => ?_
  simp only [Function.comp]
  rw [toB_cast (h z hz)]

section
variable {H : Type} {enc : TypeId × Value → H} {w : World} {base : Nat} {held : Bool}
/-- A slice of bytes that was read. -/
theorem read_bytes {fuel : Nat} {cs : List Value} {x : DataW H × List MemPlace} (h : DataW.trod enc Try.prog w base (fun _ => true) held fuel 23 cs = some x) :
    ∃ (A : Option Addr) (c : Nat) (l : List UInt8), cs = [.slice A l.length c] ∧ Sees w w.heap.size A l ∧ l.length ≤ maxLen ∧ l.length ≤ c ∧ c ≤ maxLen := by
  rcases open_ints Try.underlying23 Try.underlying5 Try.cellsU8 h with ⟨hcs, _⟩ | ⟨a, len, cap, zs, hcs, _, hl, hm, hz, _, hcell, hwf⟩
  · exact ⟨none, 0, [], hcs, .inl rfl, by simp [maxLen], by simp, by simp [maxLen]⟩
  · simp only [if_true] at hz
    have hlen : (toB (zs.take len)).length = len := by simp [toB]; omega
    refine ⟨some a, cap, toB (zs.take len), by rw [hlen]; exact hcs, ?_, by omega, by omega, hm⟩
    by_cases h0 : len = 0
    · left
      exact List.eq_nil_of_length_eq_zero (by omega)
    · right
      have hc0 := hcell 0 (by omega)
      obtain ⟨b, off, spot⟩ := a
      have hsp : spot = none := by
        cases spot with
        | none => rfl
        | some s =>
          exfalso
          simp only [Addr.add, World.cell?] at hc0
          split at hc0 <;> simp at hc0
      subst hsp
      refine ⟨b, off, rfl, ?_, fun i hi => ?_⟩
      · have := World.block_lt_of_cell? _ _ hc0
        rwa [Addr.add_lit] at this
      · have hi' : i < len := by omega
        have := hcell i (by omega)
        rw [Addr.add_lit] at this
        rw [this]
        have hi2 : i < zs.length := by omega
        have e : (toB (zs.take len))[i] = UInt8.ofNat (zs[i]).toNat := by simp [toB]
        rw [e, toB_cast (hwf _ (List.getElem_mem hi2))]
        simp [List.getD, hi2]

theorem take_drop_one {cs : List Value} {i : Nat} (h : i < cs.length) : (cs.drop i).take 1 = [cs[i]] := by
  rw [List.drop_eq_getElem_cons h]; rfl


/-- Rows of rows of one length that lie behind one another. -/
theorem rows_seenD {a : Addr} {len n : Nat} {L : List (List Value)} (hL : L.length = len) (hn : 0 < n) (h : ∀ r ∈ L, r.length = n) (hc : ∀ i (hi : i < len) (j : Nat) (v : Value), (L[i]'(by omega))[j]? = some v → w.cell? ((a.add (i * n)).add j) = some v) : SeesV w w.heap.size (some a) L.flatten := by
  by_cases h0 : len = 0
  · left; rw [List.eq_nil_of_length_eq_zero (hL.trans h0)]; rfl
  · right
    have hl0 : (L[0]'(by omega)).length = n := h _ (List.getElem_mem _)
    have hc0 := hc 0 (by omega) 0 _ (List.getElem?_eq_getElem (by omega))
    obtain ⟨b, off, spot⟩ := a
    have hsp : spot = none := by
      cases spot with
      | none => rfl
      | some s =>
        exfalso
        simp only [Addr.add, World.cell?] at hc0
        split at hc0 <;> simp at hc0
    subst hsp
    simp only [Addr.add_lit] at hc hc0
    refine ⟨b, off, rfl, World.block_lt_of_cell? _ _ hc0, fun j hj => ?_⟩
    have hfl := flat_lenD h
    have hjl : j < len * n := by rw [hfl, hL] at hj; exact hj
    have hk : j / n < len := Nat.div_lt_of_lt_mul (by rw [Nat.mul_comm]; exact hjl)
    have hm : j % n < n := Nat.mod_lt _ hn
    have h2 := flat_atD h (k := j / n) (by omega) (j % n) hm
    have e : j / n * n + j % n = j := by rw [Nat.mul_comm]; exact Nat.div_add_mod j n
    rw [e, List.getElem?_eq_getElem hj] at h2
    have h3 := hc (j / n) hk (j % n) _ h2.symm
    rw [show off + j / n * n + j % n = off + j by omega] at h3
    exact h3

/-- A step that was read. -/
theorem read_step {fuel : Nat} {cs : List Value} {x : DataW H × List MemPlace} (h : DataW.trod enc Try.prog w base (fun _ => true) held fuel 25 cs = some x) :
    ∃ p : ArgM, cs = argC p ∧ ArgOk w p := by
  obtain ⟨xs, n, _, _, hlen, hxl, hf⟩ := DataW.trod_struct Try.underlying25 h
  rw [Try.cellsStep] at hlen
  have g0 : DataW.trod enc Try.prog w base (fun _ => true) held n 3 ((cs.drop 0).take (Try.prog.cellsOf 3)) = xs[0]? := hf 0 _ rfl
  have g1 : DataW.trod enc Try.prog w base (fun _ => true) held n 3 ((cs.drop 1).take (Try.prog.cellsOf 3)) = xs[1]? := hf 1 _ rfl
  have g2 : DataW.trod enc Try.prog w base (fun _ => true) held n 3 ((cs.drop 2).take (Try.prog.cellsOf 3)) = xs[2]? := hf 2 _ rfl
  have g3 : DataW.trod enc Try.prog w base (fun _ => true) held n 3 ((cs.drop 3).take (Try.prog.cellsOf 3)) = xs[3]? := hf 3 _ rfl
  have g4 : DataW.trod enc Try.prog w base (fun _ => true) held n 5 ((cs.drop 4).take (Try.prog.cellsOf 5)) = xs[4]? := hf 4 _ rfl
  have g5 : DataW.trod enc Try.prog w base (fun _ => true) held n 23 ((cs.drop 5).take (Try.prog.cellsOf 23)) = xs[5]? := hf 5 _ rfl
  have hx : xs.length = 6 := hxl
  rw [Try.cellsInt] at g0 g1 g2 g3
  rw [Try.cellsU8] at g4
  rw [Try.cellsSl] at g5
  rw [take_drop_one (by omega), List.getElem?_eq_getElem (by omega)] at g0 g1 g2 g3 g4 g5
  obtain ⟨k, e0, _, _⟩ := DataW.trod_int Try.underlying3 g0
  obtain ⟨s, e1, _, _⟩ := DataW.trod_int Try.underlying3 g1
  obtain ⟨m, e2, _, w2⟩ := DataW.trod_int Try.underlying3 g2
  obtain ⟨q, e3, _, _⟩ := DataW.trod_int Try.underlying3 g3
  obtain ⟨z, e4, _, w4⟩ := DataW.trod_int Try.underlying5 g4
  obtain ⟨A, c, l, e5, hs, _, _, _⟩ := read_bytes g5
  have b2 := bounds_i64 w2
  refine ⟨⟨k, s, m, q, UInt8.ofNat z.toNat, A, c, l⟩, ?_, ⟨hs, by show m < _; omega⟩⟩
  match cs, hlen with
  | [c0, c1, c2, c3, c4, c5], hlen =>
    simp at e0 e1 e2 e3 e4 e5
    have e6 := toB_cast w4
    simp only [argC, e0, e1, e2, e3, e4, e5, e6]
/-- Steps that were read. -/
theorem read_steps {fuel : Nat} {cs : List Value} {x : DataW H × List MemPlace} (h : DataW.trod enc Try.prog w base (fun _ => true) held fuel 22 cs = some x) :
    ∃ (A : Option Addr) (c : Nat) (L : List ArgM), cs = [.slice A L.length c] ∧ ArgsOk w A L c := by
  rcases open_slice Try.underlying22 h with ⟨hcs, _⟩ | ⟨a, len, cap, m, n, D, Pl, hcs, hb, hl, hm, hmm, _, hi⟩
  · exact ⟨none, 0, [], hcs, ⟨.inl rfl, by intro q hq; exact absurd hq List.not_mem_nil, Nat.le_refl _, by simp⟩⟩
  · simp only [if_true] at hmm
    subst hmm
    rw [Try.cellsStep] at hi
    have hp : ∀ i, i < len → ∃ p : ArgM, ArgOk w p ∧ ∀ (j : Nat) (v : Value), (argC p)[j]? = some v → w.cell? ((a.add (i * 6)).add j) = some v := by
      intro i him
      obtain ⟨cs', hc, ht⟩ := hi i (by omega)
      obtain ⟨p, rfl, hok⟩ := read_step ht
      obtain ⟨_, _, hat⟩ := World.cells?_some hc
      refine ⟨p, hok, fun j v hv => ?_⟩
      have hj : j < 6 := (List.getElem?_eq_some_iff.1 hv).1
      rw [hat j hj]; exact hv
    obtain ⟨F, hF⟩ : ∃ F : Nat → ArgM, ∀ i, i < len → ArgOk w (F i) ∧ ∀ (j : Nat) (v : Value), (argC (F i))[j]? = some v → w.cell? ((a.add (i * 6)).add j) = some v :=
      ⟨fun i => if h : i < len then Classical.choose (hp i h) else ⟨0, 0, 0, 0, 0, none, 0, []⟩, fun i h => by simp only [h, dif_pos]; exact Classical.choose_spec (hp i h)⟩
    have hin : ∀ p ∈ (List.range len).map F, ArgOk w p := by
      intro p hp
      obtain ⟨i, hi, rfl⟩ := List.mem_map.1 hp
      exact (hF i (List.mem_range.1 hi)).1
    refine ⟨some a, m, (List.range len).map F, by simpa using hcs, ⟨?_, hin, by simpa using hl, by simp only [List.length_map, List.length_range]; simp only [maxLen] at hm; omega⟩⟩
    unfold argsC
    refine rows_seenD (n := 6) (len := len) (by simp) (by omega) (by intro r hr; obtain ⟨i, h1, rfl⟩ := List.mem_map.1 hr; rfl) (fun i hi j v hv => ?_)
    simp only [List.getElem_map, List.getElem_range] at hv
    exact (hF i hi).2 j v hv
end
end Go.Proofs.Ytiagefcjebnopaa
