/-
  What comes in, opened: bytes, hashes, parts.
-/
import Derived.Test.YtpdidobmfoapiaaPart
import Derived.ProofKit
import Derived.OpenShut
import Derived.Deep.Slices
namespace Go.Proofs.Ytpdidobmfoapiaa
open Go.ChangeShapes Go.WideShapes Go.ChangeAt Go.RowKit Go.Deep

theorem Try.cellsU8 : Try.prog.cellsOf 5 = 1 := by kernel_rfl
theorem Try.cellsInt : Try.prog.cellsOf 3 = 1 := by kernel_rfl
theorem Try.cellsU64 : Try.prog.cellsOf 28 = 1 := by kernel_rfl
theorem Try.cellsSl : Try.prog.cellsOf 25 = 1 := by kernel_rfl
theorem Try.cellsHash : Try.prog.cellsOf 30 = 32 := by kernel_rfl
theorem Try.cellsPart : Try.prog.cellsOf 32 = 36 := by kernel_rfl

/-- Numbers that are bytes, as bytes. -/
def toB (zs : List Int) : List UInt8 := zs.map fun z => UInt8.ofNat z.toNat
theorem toB_cast {z : Int} (h : (Lit.int .u8 z).wf = true) : ((UInt8.ofNat z.toNat).toNat : Int) = z := by
  have := bounds_u8 h
  rw [UInt8.toNat_ofNat']
  omega
theorem By_toB {zs : List Int} (h : ∀ z ∈ zs, (Lit.int .u8 z).wf = true) : By (toB zs) = zs.map (Value.int .u8) := by
  simp only [By, toB, List.map_map]
  refine List.map_congr_left fun z hz => ?_
  simp only [Function.comp]
  rw [toB_cast (h z hz)]

section
variable {H : Type} {enc : TypeId × Value → H} {w : World} {base : Nat} {held : Bool}
/-- A slice of bytes that was read. -/
theorem read_bytes {fuel : Nat} {cs : List Value} {x : DataW H × List MemPlace} (h : DataW.trod enc Try.prog w base (fun _ => true) held fuel 25 cs = some x) :
    ∃ (A : Option Addr) (c : Nat) (l : List UInt8), cs = [.slice A l.length c] ∧ Sees w w.heap.size A l ∧ l.length ≤ maxLen ∧ l.length ≤ c ∧ c ≤ maxLen := by
  rcases open_ints Try.underlying25 Try.underlying5 Try.cellsU8 h with ⟨hcs, _⟩ | ⟨a, len, cap, zs, hcs, _, hl, hm, hz, _, hcell, hwf⟩
  · exact ⟨none, 0, [], hcs, .inl rfl, by simp [maxLen], by simp, by simp [maxLen]⟩
  · simp only [if_true] at hz
    have hlen : (toB (zs.take len)).length = len := by simp [toB]; omega
    refine ⟨some a, cap, toB (zs.take len), by rw [hlen]; exact hcs, ?_, by omega, by omega, hm⟩
    by_cases h0 : len = 0
    · left
      exact List.eq_nil_of_length_eq_zero (by omega)
    · right
      have hc0 := hcell 0 (by omega)
      obtain ⟨b, off, spot⟩ := a
      have hsp : spot = none := by
        cases spot with
        | none => rfl
        | some s =>
          exfalso
          simp only [Addr.add, World.cell?] at hc0
          split at hc0 <;> simp at hc0
      subst hsp
      refine ⟨b, off, rfl, ?_, fun i hi => ?_⟩
      · have := World.block_lt_of_cell? _ _ hc0
        rwa [Addr.add_lit] at this
      · have hi' : i < len := by omega
        have := hcell i (by omega)
        rw [Addr.add_lit] at this
        rw [this]
        have hi2 : i < zs.length := by omega
        have e : (toB (zs.take len))[i] = UInt8.ofNat (zs[i]).toNat := by simp [toB]
        rw [e, toB_cast (hwf _ (List.getElem_mem hi2))]
        simp [List.getD, hi2]

theorem take_drop_one {cs : List Value} {i : Nat} (h : i < cs.length) : (cs.drop i).take 1 = [cs[i]] := by
  rw [List.drop_eq_getElem_cons h]; rfl

/-- A hash that was read. -/
theorem read_hash {fuel : Nat} {cs : List Value} {x : DataW H × List MemPlace} (h : DataW.trod enc Try.prog w base (fun _ => true) held fuel 30 cs = some x) :
    ∃ l : List UInt8, cs = By l ∧ l.length = 32 := by
  obtain ⟨xs, m, _, _, hlen, hxl, hf⟩ := DataW.trod_array Try.underlying30 h
  rw [Try.cellsHash] at hlen
  have hz : ∀ i (hi : i < cs.length), ∃ z : Int, cs[i] = .int .u8 z ∧ (Lit.int .u8 z).wf = true := by
    intro i hi
    have h1 := hf i (by omega)
    rw [Try.cellsU8, Nat.mul_one, take_drop_one hi, List.getElem?_eq_getElem (by omega)] at h1
    obtain ⟨n, e, _, hw⟩ := DataW.trod_int Try.underlying5 h1
    exact ⟨n, by simpa using e, hw⟩
  refine ⟨cs.map fun v => UInt8.ofNat (intOf v).toNat, ?_, by simp [hlen]⟩
  apply List.ext_getElem
  · simp [By]
  · intro i h1 h2
    obtain ⟨z, hz1, hz2⟩ := hz i h1
    simp only [By, List.getElem_map, hz1, intOf]
    rw [toB_cast hz2]

/-- A part that was read. -/
theorem read_part {fuel : Nat} {cs : List Value} {x : DataW H × List MemPlace} (h : DataW.trod enc Try.prog w base (fun _ => true) held fuel 32 cs = some x) :
    ∃ p : Prt, cs = PCells p ∧ p.ok w w.heap.size ∧ p.b.length ≤ maxLen := by
  obtain ⟨xs, n, _, _, hlen, hxl, hf⟩ := DataW.trod_struct Try.underlying32 h
  rw [Try.cellsPart] at hlen
  have g0 : DataW.trod enc Try.prog w base (fun _ => true) held n 3 ((cs.drop 0).take (Try.prog.cellsOf 3)) = xs[0]? := hf 0 _ rfl
  have g1 : DataW.trod enc Try.prog w base (fun _ => true) held n 3 ((cs.drop 1).take (Try.prog.cellsOf 3)) = xs[1]? := hf 1 _ rfl
  have g2 : DataW.trod enc Try.prog w base (fun _ => true) held n 28 ((cs.drop 2).take (Try.prog.cellsOf 28)) = xs[2]? := hf 2 _ rfl
  have g3 : DataW.trod enc Try.prog w base (fun _ => true) held n 25 ((cs.drop 3).take (Try.prog.cellsOf 25)) = xs[3]? := hf 3 _ rfl
  have g4 : DataW.trod enc Try.prog w base (fun _ => true) held n 30 ((cs.drop 4).take (Try.prog.cellsOf 30)) = xs[4]? := hf 4 _ rfl
  have hx : xs.length = 5 := hxl
  rw [Try.cellsInt] at g0 g1
  rw [Try.cellsU64] at g2
  rw [Try.cellsSl] at g3
  rw [Try.cellsHash] at g4
  rw [take_drop_one (by omega), List.getElem?_eq_getElem (by omega)] at g0 g1 g2 g3
  rw [List.getElem?_eq_getElem (by omega)] at g4
  obtain ⟨k, e0, _, w0⟩ := DataW.trod_int Try.underlying3 g0
  obtain ⟨s, e1, _, w1⟩ := DataW.trod_int Try.underlying3 g1
  obtain ⟨m, e2, _, w2⟩ := DataW.trod_int Try.underlying28 g2
  obtain ⟨A, c, l, e3, hs, hl, _, _⟩ := read_bytes g3
  obtain ⟨hh, e4, hl4⟩ := read_hash g4
  have b1 := bounds_i64 w1
  have b2 := bounds_u64 w2
  obtain ⟨m', rfl⟩ := Int.eq_ofNat_of_zero_le (show 0 ≤ m by omega)
  refine ⟨⟨k, s, m', A, c, l, hh⟩, ?_, ⟨by simp; omega, hl4, hs, by simp; omega, by simp; omega⟩, hl⟩
  match cs, hlen with
  | c0 :: c1 :: c2 :: c3 :: rest, hlen =>
    simp at e0 e1 e2 e3
    have e5 : rest = By hh := by
      have hl32 : rest.length = 32 := by simp only [List.length_cons] at hlen; omega
      rw [← e4]
      show rest = List.take 32 rest
      rw [List.take_of_length_le (by omega)]
    simp [PCells, e0, e1, e2, e3, e5]

/-- A slice of parts that was read. -/
theorem read_parts {fuel : Nat} {cs : List Value} {x : DataW H × List MemPlace} (h : DataW.trod enc Try.prog w base (fun _ => true) held fuel 22 cs = some x) :
    ∃ (A : Option Addr) (c : Nat) (L : List Prt), cs = [.slice A L.length c] ∧ PSees w w.heap.size A L ∧ L.length ≤ maxLen ∧ ∀ p ∈ L, p.b.length ≤ maxLen := by
  rcases open_slice Try.underlying22 h with ⟨hcs, _⟩ | ⟨a, len, cap, m, n, D, Pl, hcs, hb, hl, hm, hmm, _, hi⟩
  · exact ⟨none, 0, [], hcs, ⟨by simp, .inl rfl⟩, by simp [maxLen], by simp⟩
  · simp only [if_true] at hmm
    subst hmm
    rw [Try.cellsPart] at hi
    have hp : ∀ i, i < len → ∃ p : Prt, p.ok w w.heap.size ∧ p.b.length ≤ maxLen ∧ ∀ j v, (PCells p)[j]? = some v → w.cell? ((a.add (i * 36)).add j) = some v := by
      intro i him
      obtain ⟨cs', hc, ht⟩ := hi i (by omega)
      obtain ⟨p, rfl, hok, hbl⟩ := read_part ht
      obtain ⟨_, hcl, hat⟩ := World.cells?_some hc
      refine ⟨p, hok, hbl, fun j v hv => ?_⟩
      have hj := (List.getElem?_eq_some_iff.1 hv).1
      rw [hat j (by omega)]
      exact hv
    obtain ⟨F, hF⟩ : ∃ F : Nat → Prt, ∀ i, i < len → (F i).ok w w.heap.size ∧ (F i).b.length ≤ maxLen ∧ ∀ j v, (PCells (F i))[j]? = some v → w.cell? ((a.add (i * 36)).add j) = some v :=
      ⟨fun i => if h : i < len then Classical.choose (hp i h) else ⟨0, 0, 0, none, 0, [], []⟩, fun i h => by simp only [h, dif_pos]; exact Classical.choose_spec (hp i h)⟩
    refine ⟨some a, m, (List.range len).map F, by simpa using hcs, ⟨?_, ?_⟩, by simp; omega, ?_⟩
    · intro p hp
      obtain ⟨i, hi, rfl⟩ := List.mem_map.1 hp
      exact (hF i (List.mem_range.1 hi)).1
    · by_cases h0 : len = 0
      · left; subst h0; rfl
      · right
        have hc0 := (hF 0 (by omega)).2.2 0 _ (by rfl)
        obtain ⟨b, off, spot⟩ := a
        have hsp : spot = none := by
          cases spot with
          | none => rfl
          | some s =>
            exfalso
            simp only [Addr.add, World.cell?] at hc0
            split at hc0 <;> simp at hc0
        subst hsp
        refine ⟨b, off, rfl, ?_, fun i hi j v hv => ?_⟩
        · have := World.block_lt_of_cell? _ _ hc0
          rw [Addr.add_lit, Addr.add_lit] at this
          exact this
        · simp only [List.getElem_map, List.getElem_range] at hv
          have := (hF i (by simpa using hi)).2.2 j v hv
          rw [Addr.add_lit, Addr.add_lit] at this
          exact this
    · intro p hp
      obtain ⟨i, hi, rfl⟩ := List.mem_map.1 hp
      exact (hF i (List.mem_range.1 hi)).2.1
end

end Go.Proofs.Ytpdidobmfoapiaa
