/-
  merkle: the walk of knots. · merkle: the walk of climb. · merkle: the text of a root; Root and Path.
-/
import Derived.Test.YtjcbihdhkaiidaaPBlQ8
import Derived.Deep.RegionHeld3
namespace Go.Proofs.Ytjcbihdhkaiidaa
open Go.RowKit

def rowLen : Value → Nat
  | .slice _ n _ => n
  | _ => 0
theorem rng_later {w w' : World} {b o : Nat} {cs : List Value} (h : w.rangeAt b o cs) (hb : Below w.heap.size w w') : w'.rangeAt b o cs := fun j v hv => cell_later hb (h j v hv)
theorem rng_below {w w' : World} {B b o : Nat} {cs : List Value} (h : w.rangeAt b o cs) (hb : Below B w w') (hlt : b < B) : w'.rangeAt b o cs := fun j v hv => (hb.cell (p := ⟨b, o + j, none⟩) hlt).trans (h j v hv)
/-- What is behind the first two. -/
theorem slice_two {w : World} {B : Nat} {A : Option Addr} {hs : List (List UInt8)} {c : Nat} (h : SeesV w B A (Hs hs)) (h32 : All32 hs) (hc : hs.length ≤ c) (h2 : 2 ≤ hs.length) :
    ∃ A1, SeesV w B A1 (Hs (hs.drop 2)) ∧ ∀ wq, (Instr.slice 22 (.slice A hs.length c) (some (.int .i64 2)) none none).run Try.prog wq = .ok (.slice A1 (hs.length - 2) (c - 2)) wq := by
  obtain ⟨i0, hi, hz0, hz1, hz2⟩ := info_parts Try.hinfo
  refine ⟨if c = 2 then A else A.map (·.add (2 * 32)), ?_, fun wq => ?_⟩
  · have e : Hs (hs.drop 2) = (Hs hs).drop 64 := by
      match hs, h2, h32 with
      | x :: y :: r, _, h32 =>
        have hx := h32 x (by simp)
        have hy := h32 y (by simp)
        simp only [List.drop_succ_cons, List.drop_zero, Hs, List.flatten_cons, By_append]
        rw [← List.append_assoc, List.drop_append_of_le_length (by simp [By_length, hx, hy])]
        rw [List.drop_eq_nil_of_le (by simp [By_length, hx, hy])]; rfl
    split
    · rw [List.drop_eq_nil_of_le (by omega)]; exact .inl rfl
    · rw [e]; exact h.drop 64
  · simp [Instr.slice, run_underlying Try.underlying22, Instr.sliceBounds, run_sliceBound wq .i64 (2 : Int) hs.length _ (by omega) (by omega), sizeOf, typeInfo, hi, hz1]
theorem All32.drop {hs : List (List UInt8)} (h : All32 hs) (n : Nat) : All32 (hs.drop n) := fun x hx => h x (List.mem_of_mem_drop hx)

end Go.Proofs.Ytjcbihdhkaiidaa
namespace Go.Proofs.Ytjcbihdhkaiidaa
open Go.RowKit

theorem knotsL_32 {l : List (List UInt8)} (h : All32 l) : All32 (knotsL knotB l) := by
  induction l using knotsL.induct with
  | case1 a b r ih =>
    intro y hy
    rw [knotsL] at hy
    rcases List.mem_cons.1 hy with rfl | hy
    · exact knotB_len a b
    · exact ih (fun z hz => h z (List.mem_cons_of_mem _ (List.mem_cons_of_mem _ hz))) y hy
  | case2 l hl =>
    match l, hl, h with
    | [], _, h => exact h
    | [x], _, h => exact h
    | a :: b :: r, hl, _ => exact absurd rfl (hl a b r)
theorem topR_short {l : List (List UInt8)} (h : l.length ≤ 1) : topR knotB l = l := by rw [topR, dif_pos h]
theorem topR_long {l : List (List UInt8)} (h : ¬ l.length ≤ 1) : topR knotB l = topR knotB (knotsL knotB l) := by rw [topR, dif_neg h]
theorem besR_short {n : Nat} {l : List (List UInt8)} (h : l.length ≤ 1) : besR knotB n l = [] := by rw [besR, dif_pos h]
theorem besR_long {n : Nat} {l : List (List UInt8)} (h : ¬ l.length ≤ 1) : besR knotB n l = hereL n l ++ besR knotB (n / 2) (knotsL knotB l) := by rw [besR, dif_neg h]
theorem SeesV.grown {w w' : World} {B : Nat} {A : Option Addr} {vs : List Value} {rb : Option Nat} (h : SeesV w B A vs) (hg : w.grownBy w' rb) (hne : ∀ ad, A = some ad → some ad.block ≠ rb) : SeesV w' B A vs := by
  rcases h with h | ⟨b, off, hA, hlt, hc⟩
  · exact .inl h
  · refine .inr ⟨b, off, hA, hlt, fun i hi => ?_⟩
    have hb := World.block_lt_of_cell? _ _ (hc i hi)
    rw [World.cell?_of_block (w := w) (hg.block b hb (hne ⟨b, off, none⟩ hA))]
    exact hc i hi
/-- Two slices lie in two blocks. -/
def Apart (A B : Option Addr) : Prop := ∀ ad, A = some ad → ∀ n c, some ad.block ≠ (Value.slice B n c).ownBlock
theorem apart_none (A : Option Addr) : Apart A none := by intro ad _ n c; simp [Value.ownBlock]
theorem apart_own {w : World} {base size : Nat} {e : TypeId} {A B : Option Addr} {n c : Nat} {xs : List Value} (h : w.ownsRow base e size (.slice A n c) n xs) (hB : ∀ bd, B = some bd → bd.block < base) : Apart A B := by
  intro ad hA m d
  subst hA
  have := own_lt h ad.block rfl
  cases B with
  | none => simp [Value.ownBlock]
  | some bd =>
    have hb := hB bd rfl
    simp only [Value.ownBlock]
    intro e
    injection e with e
    omega
/-- What climb answers. -/
def ClimbPost (w : World) (top bes : List (List UInt8)) (e : Ending) (w' : World) : Prop :=
  ∃ A c B d, e = .returned (.tuple #[.slice A top.length c, .slice B bes.length d]) ∧ top.length ≤ c ∧ bes.length ≤ d ∧ All32 top ∧ All32 bes ∧ SeesV w' w'.heap.size A (Hs top) ∧ SeesV w' w'.heap.size B (Hs bes) ∧ Below w.heap.size w w'

end Go.Proofs.Ytjcbihdhkaiidaa
namespace Go.Proofs.Ytjcbihdhkaiidaa
open Go.RowKit

theorem byte_of (n k : Nat) (hn : n < 4611686018427387904) : IntKind.u64.wrap (n : Int) / 2 ^ (8 * k) % 256 = ((UInt8.ofNat (n / 256 ^ k)).toNat : Int) := by
  have e1 : IntKind.u64.wrap (n : Int) = n := by rw [IntKind.wrap_u64]; omega
  have e2 : (2 : Int) ^ (8 * k) = ((256 ^ k : Nat) : Int) := by
    have : (256 : Nat) ^ k = 2 ^ (8 * k) := by rw [Nat.pow_mul]
    rw [this]; simp
  rw [e1, e2, ← Int.natCast_ediv, UInt8.toNat_ofNat']
  omega

theorem topR_len1 (l : List (List UInt8)) : (topR knotB l).length ≤ 1 := by
  by_cases h : l = []
  · subst h; rw [topR_short (by simp)]; simp
  · rw [topR_eq knotB l h]; simp
theorem topH_len (l : List (List UInt8)) (hne : l ≠ []) (h : All32 l) : (topH knotB l).length = 32 := by
  by_cases h1 : l.length ≤ 1
  · rw [topH_one knotB h1]
    match l, hne, h1, h with
    | [x], _, _, h => exact h x (by simp)
  · rw [topH_two knotB h1]; exact knotB_len _ _
end Go.Proofs.Ytjcbihdhkaiidaa
