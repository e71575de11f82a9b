/-
  merkle: the library's Grow and Concat of bytes, as they are called here. · merkle: the texts that are hashed: of a leaf, of a knot; their hashes, and their bytes.
  merkle: rows of hashes in memory; the walks of leaves and knots.
-/
import Derived.Test.YtjcbihdhkaiidaaMkA
import Derived.Test.YtjcbihdhkaiidaaVals
import Derived.Test.YtjcbihdhkaiidaaPBlQ6
import Derived.Test.YtjcbihdhkaiidaaPBlQ2
import Derived.Deep.RegionHeldLaw
import Derived.Laws.MakeOwn
import Derived.Great.BuildSlice
namespace Go.Proofs.Ytjcbihdhkaiidaa
open Go.RowKit

section
variable {P : Program} (w : World)
/-- append of so many noughts onto nothing. -/
theorem run_append_make (t ti ty e : TypeId) (k : IntKind) (i : TypeInfo) (z : Value) (ht : P.underlying t = some (.slice e)) (hti : P.underlying ti = some (.int k)) (hi : P.info? e = some i) (hz : i.zero = some z) (hb : i.bytes = 1) (hs : i.size = 1)
    (n : Nat) (h0 : 0 < n) (hmax : n ≤ 1048576) :
    (Builtin.append_ #[t, ti] ty #[.slice none 0 0, .int .i64 (n : Int)]).run P w =
      .ok (.slice (some ⟨w.heap.size, 0, none⟩) n (grownCap w n 0 e)) (w.drew.alloc (.cells (Builtin.zeroCells z.cells n ++ Builtin.zeroCells z.cells (grownCap w n 0 e - n)) e)) := by
  have hn : n ≠ 0 := by omega
  have hw : IntKind.i64.wrap (n : Int) = n := by rw [IntKind.wrap_i64]; omega
  have h1 : ¬ ((n : Int) < 0) := by omega
  have h2 : ¬ (281474976710656 < (n : Int)) := by omega
  have h4 : ¬ ((n : Int) ≤ 0) := by omega
  have h63' : ¬ (9223372036854775807 < (n : Int)) := by omega
  have h48' : ¬ (281474976710656 < Builtin.nextslicecap n 0) := by rw [nextslicecap_zero h0]; omega
  simp [Builtin.append_, run_underlying ht, run_underlying hti, sizeOf, typeInfo, zeroValue, hi, hz, hb, hs, asInt, asIntOf, hw, h1, h2, h4, hn, h63', h48', Question.forced, run_firstCells_none, newRow, grownCap]
end
/-- What Grow answers: an empty row of the call's own. -/
def GrowPost (w : World) (e : Ending) (w' : World) : Prop := ∃ A c, e = .returned (.slice A 0 c) ∧ w'.ownsRow w.heap.size 5 1 (.slice A 0 c) 0 [] ∧ Below w.heap.size w w'

/-- What Concat answers. -/
def CatPost (w : World) (l : List UInt8) (e : Ending) (w' : World) : Prop := ∃ A c, e = .returned (.slice A l.length c) ∧ l.length ≤ c ∧ Sees w' w'.heap.size A l ∧ Below w.heap.size w w'
theorem flat_next (ps : List (List UInt8)) (k : Nat) (h : k < ps.length) : (ps.take (k + 1)).flatten = (ps.take k).flatten ++ ps[k] := by
  rw [List.take_succ_eq_append_getElem h, List.flatten_append]; simp
theorem flat_le (ps : List (List UInt8)) (k : Nat) : (ps.take k).flatten.length ≤ ps.flatten.length := by
  have h2 : ps.flatten.length = ((ps.take k).flatten).length + ((ps.drop k).flatten).length := by
    rw [← List.length_append, ← List.flatten_append, List.take_append_drop]
  omega

end Go.Proofs.Ytjcbihdhkaiidaa
namespace Go.Proofs.Ytjcbihdhkaiidaa
open Go.RowKit

def nmLeaf : ByteArray := ⟨#[108, 101, 97, 102]⟩
def nmKnot : ByteArray := ⟨#[107, 110, 111, 116]⟩
def nmRoot : ByteArray := ⟨#[114, 111, 111, 116]⟩
theorem nm_le : nmLeaf.size ≤ 200 ∧ nmKnot.size ≤ 200 ∧ nmRoot.size ≤ 200 := ⟨by show 4 ≤ 200; omega, by show 4 ≤ 200; omega, by show 4 ≤ 200; omega⟩
/-- A text in memory: a name, and a slice that shows its bytes. -/
def TextV (nm : ByteArray) (A : Option Addr) (n c : Nat) : Value := .agg #[.string nm, .slice A n c]
/-- What a text's maker answers. -/
def TextPost (w : World) (nm : ByteArray) (l : List UInt8) (e : Ending) (w' : World) : Prop := ∃ A c, e = .returned (TextV nm A l.length c) ∧ l.length ≤ c ∧ Sees w' w'.heap.size A l ∧ Below w.heap.size w w'

theorem SeesO.hash {w : World} {g b : Nat} {t : TypeId} {l : List UInt8} (hb : Blk w b t (By l).toArray) (hne : b ≠ g) : SeesO w g (some ⟨b, 0, none⟩) l := by
  have := SeesO.blk (g := g) hb hne l.length
  rwa [List.take_length] at this

/-- What a slice shows in another block stays behind a store. -/
theorem Sees.setFar {w : World} {B g : Nat} {A : Option Addr} {l : List UInt8} {t : TypeId} {cs : Array Value} (h : Sees w B A l) (hb : Blk w g t cs) (hno : ∀ (i : Nat) (z : Int), cs[i]? ≠ some (Value.int .u8 z)) (i : Nat) (u : Value) : Sees (w.setCell ⟨g, i, none⟩ u) B A l := by
  rcases h with h | ⟨b, off, hA, hlt, hc⟩
  · exact .inl h
  · by_cases h0 : l.length = 0
    · exact .inl (List.eq_nil_of_length_eq_zero h0)
    · have hne : ¬ b = g := by
        intro e
        subst e
        have := hc 0 (by omega)
        rw [hb.cell] at this
        exact hno _ _ this
      refine .inr ⟨b, off, hA, hlt, fun j hj => ?_⟩
      rw [World.cell?_of_block (w := w) (Below.heap_setCell w ⟨g, i, none⟩ u b hne)]
      exact hc j hj
theorem two_no {s : ByteArray} {A : Option Addr} {n c : Nat} (i : Nat) (z : Int) : (#[.string s, .slice A n c] : Array Value)[i]? ≠ some (.int .u8 z) := by
  match i with
  | 0 => simp
  | 1 => simp
  | i + 2 => simp

end Go.Proofs.Ytjcbihdhkaiidaa

namespace Go.Proofs.Ytjcbihdhkaiidaa
open Go.RowKit

/-- All are hashes' bytes. -/
def All32 (hs : List (List UInt8)) : Prop := ∀ h ∈ hs, h.length = 32
theorem All32.get {hs : List (List UInt8)} (h : All32 hs) {k : Nat} (hk : k < hs.length) : hs[k].length = 32 := h _ (List.getElem_mem hk)
theorem All32.nil : All32 [] := fun _ h => by cases h
theorem All32.snoc {hs : List (List UInt8)} {x : List UInt8} (h : All32 hs) (hx : x.length = 32) : All32 (hs ++ [x]) := by
  intro y hy
  rcases List.mem_append.1 hy with h1 | h1
  · exact h y h1
  · simp at h1; subst h1; exact hx
theorem All32.flat {hs : List (List UInt8)} (h : All32 hs) : hs.flatten.length = hs.length * 32 := by
  induction hs with
  | nil => rfl
  | cons a r ih =>
    rw [List.flatten_cons, List.length_append, ih (fun y hy => h y (List.mem_cons_of_mem _ hy)), h a (List.mem_cons_self ..), List.length_cons]; omega
theorem All32.at_ {hs : List (List UInt8)} (h : All32 hs) : ∀ {k : Nat} (hk : k < hs.length) (j : Nat) (hj : j < 32), hs.flatten[32 * k + j]? = hs[k][j]? := by
  induction hs with
  | nil => intro k hk; simp at hk
  | cons a r ih =>
    intro k hk j hj
    have ha := h a (List.mem_cons_self ..)
    cases k with
    | zero =>
      rw [List.flatten_cons, List.getElem?_append_left (by omega)]; simp
    | succ k =>
      rw [List.flatten_cons, List.getElem?_append_right (by omega), ha]
      have := ih (fun y hy => h y (List.mem_cons_of_mem _ hy)) (k := k) (by simpa using hk) j hj
      rw [show 32 * (k + 1) + j - 32 = 32 * k + j by omega, this]
      simp
/-- A row of hashes as cells. -/
def Hs (hs : List (List UInt8)) : List Value := By hs.flatten
theorem Hs_length {hs : List (List UInt8)} (h : All32 hs) : (Hs hs).length = hs.length * 32 := by rw [Hs, By_length, h.flat]
theorem Hs_snoc (hs : List (List UInt8)) (x : List UInt8) : Hs (hs ++ [x]) = Hs hs ++ By x := by simp [Hs, By]
theorem Hs_one (hs : List (List UInt8)) : ∀ u ∈ Hs hs, u.oneCell' = true := By_one _
theorem SeesV.hash {w : World} {B : Nat} {A : Option Addr} {hs : List (List UInt8)} (h : SeesV w B A (Hs hs)) (ha : All32 hs) {k : Nat} (hk : k < hs.length) :
    ∃ b off, A = some ⟨b, off, none⟩ ∧ b < B ∧ ∀ i, (hi : i < hs.length) → w.rangeAt b (off + i * 32) (By hs[i]) := by
  obtain ⟨b, off, hA, hb, hc⟩ := h.at_ (k := 32 * k) (by rw [Hs_length ha]; omega)
  refine ⟨b, off, hA, hb, fun i hi j v hv => ?_⟩
  obtain ⟨hj, rfl⟩ := By_get hv
  have h32 := ha.get hi
  have e := ha.at_ hi j (by omega)
  have hlt : 32 * i + j < (Hs hs).length := by rw [Hs_length ha]; omega
  have h1 := hc (32 * i + j) hlt
  rw [Nat.add_assoc, Nat.mul_comm i 32, h1]
  have e2 : (Hs hs)[32 * i + j]? = some (.int .u8 (hs[i][j].toNat : Int)) := by
    rw [Hs, By, List.getElem?_map, e, List.getElem?_eq_getElem hj]; rfl
  rw [List.getElem?_eq_getElem hlt] at e2
  exact e2
theorem Try.hinfo : (Try.prog.info? 24).map (fun i => (i.zero, i.size, i.bytes)) = some (some (.agg (By zero32).toArray), 32, 32) := by kernel_rfl
/-- make of a row of hashes with room. -/
theorem make_hashes (n : Nat) (hn : n ≤ 1048577) (wq : World) :
    (Instr.makeSlice 22 (.int .i64 0) (.int .i64 (n : Int))).run Try.prog wq = .ok (.slice (some ⟨wq.heap.size, 0, none⟩) 0 n) (wq.alloc (.cells (madeCells (By zero32).toArray (n * 32)) 24)) := by
  obtain ⟨i0, hi, hz0, hz1, hz2⟩ := info_parts Try.hinfo
  have h := run_make (P := Try.prog) wq 22 24 i0 _ Try.underlying22 hi hz0 .i64 .i64 0 (n : Int) (by omega) (by omega) (by rw [hz2]; omega) (by omega)
  rw [hz1] at h
  have e : (Value.agg (By zero32).toArray).cells = (By zero32).toArray := rfl
  rw [e] at h
  simpa using h
theorem own_hashes (wq : World) (n : Nat) (hn : n ≤ 1048577) : (wq.alloc (.cells (madeCells (By zero32).toArray (n * 32)) 24)).ownsRow wq.heap.size 24 32 (.slice (some ⟨wq.heap.size, 0, none⟩) 0 n) 0 (Hs []) := by
  have := own_made (w := wq.alloc (.cells (madeCells (By zero32).toArray (n * 32)) 24)) (base := wq.heap.size) (g := wq.heap.size) (e := 24) (n := 0) (c := n) (size := 32) (cs := (madeCells (By zero32).toArray (n * 32)).toList) (heap_alloc_new wq _) (Nat.le_refl _) (Nat.zero_le _) (by simp only [maxLen]; omega) (by rw [Array.length_toList, size_madeCells])
  simpa [Hs, By] using this

theorem SeesV.lit' (w : World) (vs : List Value) (t : TypeId) : SeesV (w.alloc (.cells vs.toArray t)) (w.heap.size + 1) (some ⟨w.heap.size, 0, none⟩) vs := by
  have h := SeesV.blk (w := w.alloc (.cells vs.toArray t)) (g := w.heap.size) (t := t) (cs := vs.toArray) (heap_alloc_new w _)
  exact h.more (by simp)
/-- The leaf of a hash. -/
def leafB (id : List UInt8) : List UInt8 := shaB (tagB nmLeaf id)
def knotB (a b : List UInt8) : List UInt8 := shaB (tagB nmKnot (a ++ b))
theorem leafB_len (id : List UInt8) : (leafB id).length = 32 := shaB_length _
theorem knotB_len (a b : List UInt8) : (knotB a b).length = 32 := shaB_length _
/-- What a function that makes a row of hashes answers. -/
def HashesPost (w : World) (hs : List (List UInt8)) (e : Ending) (w' : World) : Prop := ∃ A c, e = .returned (.slice A hs.length c) ∧ w'.ownsRow w.heap.size 24 32 (.slice A hs.length c) hs.length (Hs hs) ∧ Below w.heap.size w w'

end Go.Proofs.Ytjcbihdhkaiidaa
