/-
  What comes in, opened: hashes, a row of hashes; MerkleRoots' walk, as the card calls it.
-/
import Derived.Test.YtcbdjcmjchoagaaDoorRows
import Derived.Test.YtcbdjcmjchoagaaDoorSOpen
import Derived.Test.YtcbdjcmjchoagaaDoorMkQ
import Derived.Deep.Slices
namespace Go.Proofs.YtcbdjcmjchoagaaDoor
open Go.ChangeShapes Go.WideShapes Go.ChangeAt Go.RowKit Go.Deep

theorem Tryd.cellsHash : Tryd.prog.cellsOf 32 = 32 := by kernel_rfl

def intAtV : Value → Int
  | .int _ n => n
  | _ => 0
section
variable {H : Type} {enc : TypeId × Value → H} {w : World} {base : Nat} {held : Bool}
/-- A hash that was read. -/
theorem read_hash {fuel : Nat} {cs : List Value} {x : DataW H × List MemPlace} (h : DataW.trod enc Tryd.prog w base (fun _ => true) held fuel 32 cs = some x) :
    ∃ l : List UInt8, cs = By l ∧ l.length = 32 := by
  obtain ⟨xs, m, _, _, hlen, hxl, hf⟩ := DataW.trod_array Tryd.underlying32 h
  rw [Tryd.cellsHash] at hlen
  have hz : ∀ i (hi : i < cs.length), ∃ z : Int, cs[i] = .int .u8 z ∧ (Lit.int .u8 z).wf = true := by
    intro i hi
    have h1 := hf i (by omega)
    rw [Tryd.cellsU8, Nat.mul_one, take_drop_one hi, List.getElem?_eq_getElem (by omega)] at h1
    obtain ⟨n, e, _, hw⟩ := DataW.trod_int Tryd.underlying5 h1
    exact ⟨n, by simpa using e, hw⟩
  refine ⟨cs.map fun v => UInt8.ofNat (intAtV v).toNat, ?_, by simp [hlen]⟩
  apply List.ext_getElem
  · simp [By]
  · intro i h1 h2
    obtain ⟨z, hz1, hz2⟩ := hz i h1
    simp only [By, List.getElem_map, hz1, intAtV]
    rw [toB_cast hz2]

/-- A slice of hashes that was read. -/
theorem read_hashes {fuel : Nat} {cs : List Value} {x : DataW H × List MemPlace} (h : DataW.trod enc Tryd.prog w base (fun _ => true) held fuel 22 cs = some x) :
    ∃ (A : Option Addr) (c : Nat) (L : List (List UInt8)), cs = [.slice A L.length c] ∧ (SeesV w w.heap.size A (Hs L) ∧ All32 L) ∧ L.length ≤ maxLen ∧ L.length ≤ c := by
  rcases open_slice Tryd.underlying22 h with ⟨hcs, _⟩ | ⟨a, len, cap, m, n, D, Pl, hcs, hb, hl, hm, hmm, _, hi⟩
  · exact ⟨none, 0, [], hcs, ⟨.inl rfl, All32.nil⟩, by simp [maxLen], by simp⟩
  · simp only [if_true] at hmm
    subst hmm
    rw [Tryd.cellsHash] at hi
    have hp : ∀ i, i < len → ∃ p : List UInt8, p.length = 32 ∧ ∀ j, j < 32 → w.cell? ((a.add (i * 32)).add j) = (By p)[j]? := by
      intro i him
      obtain ⟨cs', hc, ht⟩ := hi i (by omega)
      obtain ⟨p, rfl, hpl⟩ := read_hash ht
      obtain ⟨_, _, hat⟩ := World.cells?_some hc
      exact ⟨p, hpl, hat⟩
    obtain ⟨F, hF⟩ := choose_lt hp
    have h32 : All32 ((List.range len).map F) := by
      intro p hp
      obtain ⟨i, hi, rfl⟩ := List.mem_map.1 hp
      exact (hF i (List.mem_range.1 hi)).1
    refine ⟨some a, m, (List.range len).map F, by simpa using hcs, ⟨?_, h32⟩, by simp; omega, by simpa using hl⟩
    by_cases h0 : len = 0
    · left; subst h0; rfl
    · right
      have hc0 := (hF 0 (by omega)).2 0 (by omega)
      obtain ⟨b, off, spot⟩ := a
      have hsp : spot = none := by
        cases spot with
        | none => rfl
        | some s =>
          exfalso
          have h1 := (hF 0 (by omega)).1
          rw [List.getElem?_eq_getElem (by rw [By_length]; omega)] at hc0
          simp only [Addr.add, World.cell?] at hc0
          split at hc0 <;> simp at hc0
      subst hsp
      simp only [Addr.add_lit] at hc0 hF
      have hbl : b < w.heap.size := by
        have h1 := (hF 0 (by omega)).1
        rw [List.getElem?_eq_getElem (by rw [By_length]; omega)] at hc0
        exact World.block_lt_of_cell? _ _ hc0
      refine ⟨b, off, rfl, hbl, fun j hj => ?_⟩
      have hfl := h32.flat
      have hj' : j < ((List.range len).map F).flatten.length := by rw [Hs, By_length] at hj; exact hj
      have hjl : j < len * 32 := by rw [hfl] at hj'; simpa using hj'
      have h2 := h32.at_ (k := j / 32) (by simp; omega) (j % 32) (Nat.mod_lt _ (by omega))
      rw [show 32 * (j / 32) + j % 32 = j by omega] at h2
      have h3 := (hF (j / 32) (by omega)).2 (j % 32) (Nat.mod_lt _ (by omega))
      rw [show off + j / 32 * 32 + j % 32 = off + j by omega] at h3
      rw [h3]
      simp only [List.getElem_map, List.getElem_range] at h2
      simp only [By, List.getElem?_map, Hs, List.getElem_map]
      rw [← h2, List.getElem?_eq_getElem hj']
      rfl
end

theorem merkleRoots_any (w : World) (hT : Tabs w) (A : Option Addr) (c : Nat) (L : List (List UInt8)) (hS : SeesV w w.heap.size A (Hs L) ∧ All32 L) (hc : L.length ≤ c) (_ : L.length < 9223372036854775808) (n : Int) (_ : (Lit.int .i64 n).wf = true) (m : Int) (_ : (Lit.int .i64 m).wf = true) :
    Calls Tryd.prog 3 #[.slice A L.length c, .int .i64 n, .int .i64 m] w fun e w' => e = .returned (.bool true) ∧ Below w.heap.size w w' :=
  roots_any w hT A L.length c L rfl hc hS.2 hS.1 n m
end Go.Proofs.YtcbdjcmjchoagaaDoor
