/-
  The program's Sum and Tag.
  What comes in, opened: bytes, rows of bytes, arrays; the tables.
-/
import Derived.Test.YtjcbihdhkaiidaaPBlQ1
import Derived.Lib.SlBytesConst
import Derived.Test.YtjcbihdhkaiidaaRows
import Derived.ProofKit
import Derived.OpenShut
import Derived.LaidMore
import Derived.Stop.Joined
import Derived.Deep.Slices
namespace Go.Proofs.Ytjcbihdhkaiidaa
open Go.RowKit

section
variable {P : Program} {w : World}
/-- An operation whose run is known. -/
theorem wpList_run {ops : Array Oper} {rest : List Oper} {o : Oper} {a : Act} {Q : Exit → Act → World → Prop} (hgd : o.guard = none) (v : Value) (w' : World)
    (hr : (execOp a.eval o).run P w = .ok (.value v) w') (h : wpList P ops Q rest (a.put o.dst v) w') : wpList P ops Q (o :: rest) a w := by
  refine wpList_plain hgd fun _ hK => ?_
  unfold Oper.wp
  rw [hr]
  exact hK _ _ h
end
def zero8 : S8 := ⟨0, 0, 0, 0, 0, 0, 0, 0⟩
def zero64 : List UInt8 := List.replicate 64 0
theorem MsgC_one (s : S8) (blk : List UInt8) (n : Nat) : ∀ v ∈ (MsgC s blk n).toArray.toList, v.oneCell' = true := by
  intro v hv
  simp only [MsgC, List.mem_append, List.mem_singleton] at hv
  rcases hv with (hv | hv) | rfl
  · exact Wd_one _ v hv
  · exact By_one _ v hv
  · rfl
theorem SeesL.shift {w w' : World} {g g' : Nat} {A : Option Addr} {ps : List (List UInt8)} (h : SeesL w g A ps) (hk : Below w.heap.size w w') (hg : w.heap.size ≤ g') : SeesL w' g' A ps := by
  have hO : ∀ {B : Option Addr} {l : List UInt8}, SeesO w g B l → SeesO w' g' B l := by
    intro B l h
    rcases h with h | ⟨b, off, hA, hb, hn, hc⟩
    · exact .inl h
    · exact .inr ⟨b, off, hA, Nat.lt_of_lt_of_le hb hk.size, by omega, fun i hi => (hk.cell (p := ⟨b, off + i, none⟩) hb).trans (hc i hi)⟩
  rcases h with h | ⟨b, off, hA, hb, hn, hc⟩
  · exact .inl h
  · refine .inr ⟨b, off, hA, Nat.lt_of_lt_of_le hb hk.size, by omega, fun i hi => ?_⟩
    obtain ⟨Ai, ci, h1, h2, h3⟩ := hc i hi
    exact ⟨Ai, ci, (hk.cell (p := ⟨b, off + i, none⟩) hb).trans h1, h2, hO h3⟩

theorem k_abc : (shaB [97, 98, 99]).take 4 = [186, 120, 22, 191] := by decide +kernel
theorem k_nil : (shaB []).take 4 = [227, 176, 196, 66] := by decide +kernel
theorem cell_take {w : World} {g : Nat} {t : TypeId} {l m : List UInt8} (hb : Blk w g t (By l).toArray) (h : l.take m.length = m) (i : Nat) (hi : i < m.length) : w.cell? ⟨g, i, none⟩ = some (.int .u8 (m[i].toNat : Int)) := by
  have e : (l.take m.length)[i]? = m[i]? := by rw [h]
  rw [List.getElem?_take, if_pos hi, List.getElem?_eq_getElem hi] at e
  rw [hb.cell i]
  simp [By, e]

theorem cells4 {w : World} {g : Nat} {t : TypeId} {l : List UInt8} (a b c d : UInt8) (h : l.take 4 = [a, b, c, d]) (hb : Blk w g t (By l).toArray) :
    w.cell? ⟨g, 0, none⟩ = some (.int .u8 (a.toNat : Int)) ∧ w.cell? ⟨g, 1, none⟩ = some (.int .u8 (b.toNat : Int)) ∧ w.cell? ⟨g, 2, none⟩ = some (.int .u8 (c.toNat : Int)) ∧ w.cell? ⟨g, 3, none⟩ = some (.int .u8 (d.toNat : Int)) :=
  ⟨cell_take (m := [a, b, c, d]) hb h 0 (by simp), cell_take (m := [a, b, c, d]) hb h 1 (by simp), cell_take (m := [a, b, c, d]) hb h 2 (by simp), cell_take (m := [a, b, c, d]) hb h 3 (by simp)⟩
theorem cells_abc {w : World} {g : Nat} {t : TypeId} (hb : Blk w g t (By (shaB [97, 98, 99])).toArray) :
    w.cell? ⟨g, 0, none⟩ = some (.int .u8 186) ∧ w.cell? ⟨g, 1, none⟩ = some (.int .u8 120) ∧ w.cell? ⟨g, 2, none⟩ = some (.int .u8 22) ∧ w.cell? ⟨g, 3, none⟩ = some (.int .u8 191) := cells4 186 120 22 191 k_abc hb
theorem cells_nil {w : World} {g : Nat} {t : TypeId} (hb : Blk w g t (By (shaB [])).toArray) :
    w.cell? ⟨g, 0, none⟩ = some (.int .u8 227) ∧ w.cell? ⟨g, 1, none⟩ = some (.int .u8 176) ∧ w.cell? ⟨g, 2, none⟩ = some (.int .u8 196) ∧ w.cell? ⟨g, 3, none⟩ = some (.int .u8 66) := cells4 227 176 196 66 k_nil hb
/-- The three letters in memory. -/
def abcC : Array Value := #[.int .u8 97, .int .u8 98, .int .u8 99]
theorem abc_sees (w : World) (t : TypeId) (fr : Nat × Nat) (g : Nat) (hg : w.heap.size ≠ g) : SeesO (w.alloc (.cells abcC t fr)) g (some ⟨w.heap.size, 0, none⟩) [97, 98, 99] := by
  refine .inr ⟨w.heap.size, 0, rfl, by simp, hg, fun i hi => ?_⟩
  have e : (w.alloc (.cells abcC t fr)).heap[w.heap.size]? = some (.cells abcC t fr) := heap_alloc_new w _
  rw [Nat.zero_add, World.cell?]
  simp only [e]
  have : i = 0 ∨ i = 1 ∨ i = 2 := by simp at hi; omega
  rcases this with rfl | rfl | rfl <;> rfl
theorem below_new {w w2 : World} {o : Obj} (hk : Keeps (· = w.heap.size) (w.alloc o) w2) : Below w.heap.size w w2 :=
  ((Below.refl _ _).alloc (Nat.le_refl _) _).trans (hk.below (by simp) (fun k hk => by omega))

end Go.Proofs.Ytjcbihdhkaiidaa

namespace Go.Proofs.Ytjcbihdhkaiidaa
open Go.ChangeShapes Go.WideShapes Go.ChangeAt Go.RowKit Go.Deep

theorem Try.cellsU8 : Try.prog.cellsOf 5 = 1 := by kernel_rfl
theorem Try.cellsU32 : Try.prog.cellsOf 39 = 1 := by kernel_rfl
theorem Try.cellsSl : Try.prog.cellsOf 42 = 1 := by kernel_rfl
/-- Numbers that are bytes, as bytes. -/
def toB (zs : List Int) : List UInt8 := zs.map fun z => UInt8.ofNat z.toNat
theorem toB_cast {z : Int} (h : (Lit.int .u8 z).wf = true) : ((UInt8.ofNat z.toNat).toNat : Int) = z := by
  have := bounds_u8 h
  rw [UInt8.toNat_ofNat']
  omega
theorem By_toB {zs : List Int} (h : ∀ z ∈ zs, (Lit.int .u8 z).wf = true) : By (toB zs) = zs.map (Value.int .u8) := by
  simp only [By, toB, List.map_map]
  refine List.map_congr_left fun z hz => ?_
  simp only [Function.comp]
  rw [toB_cast (h z hz)]

section
variable {H : Type} {enc : TypeId × Value → H} {w : World} {base : Nat} {held : Bool}
/-- A slice of bytes that was read. -/
theorem read_bytes {fuel : Nat} {cs : List Value} {x : DataW H × List MemPlace} (h : DataW.trod enc Try.prog w base (fun _ => true) held fuel 42 cs = some x) :
    ∃ (A : Option Addr) (c : Nat) (l : List UInt8), cs = [.slice A l.length c] ∧ Sees w w.heap.size A l ∧ l.length ≤ maxLen ∧ l.length ≤ c ∧ c ≤ maxLen := by
  rcases open_ints Try.underlying42 Try.underlying5 Try.cellsU8 h with ⟨hcs, _⟩ | ⟨a, len, cap, zs, hcs, _, hl, hm, hz, _, hcell, hwf⟩
  · exact ⟨none, 0, [], hcs, .inl rfl, by simp [maxLen], by simp, by simp [maxLen]⟩
  · simp only [if_true] at hz
    have hlen : (toB (zs.take len)).length = len := by simp [toB]; omega
    refine ⟨some a, cap, toB (zs.take len), by rw [hlen]; exact hcs, ?_, by omega, by omega, hm⟩
    by_cases h0 : len = 0
    · left
      exact List.eq_nil_of_length_eq_zero (by omega)
    · right
      have hc0 := hcell 0 (by omega)
      obtain ⟨b, off, spot⟩ := a
      have hsp : spot = none := by
        cases spot with
        | none => rfl
        | some s =>
          exfalso
          simp only [Addr.add, World.cell?] at hc0
          split at hc0 <;> simp at hc0
      subst hsp
      refine ⟨b, off, rfl, ?_, fun i hi => ?_⟩
      · have := World.block_lt_of_cell? _ _ hc0
        rwa [Addr.add_lit] at this
      · have hi' : i < len := by omega
        have := hcell i (by omega)
        rw [Addr.add_lit] at this
        rw [this]
        have hi2 : i < zs.length := by omega
        have e : (toB (zs.take len))[i] = UInt8.ofNat (zs[i]).toNat := by simp [toB]
        rw [e, toB_cast (hwf _ (List.getElem_mem hi2))]
        simp [List.getD, hi2]


theorem take_drop_one {cs : List Value} {i : Nat} (h : i < cs.length) : (cs.drop i).take 1 = [cs[i]] := by
  rw [List.drop_eq_getElem_cons h]; rfl

theorem addr_zero (ad : Addr) : ad.add 0 = ad := by
  obtain ⟨b, o, s⟩ := ad
  cases s <;> simp [Addr.add]
/-- A row of words that was read as a known datum. -/
theorem laid_words {n : Nat} {t : TypeId} (ht : Try.prog.underlying t = some (.array n 39)) (hc : Try.prog.cellsOf t = n) {fuel : Nat} {cs : List Value} {p : List MemPlace} (L : List W32) (hL : L.length = n)
    (h : DataW.trod enc Try.prog w base (fun _ => true) held fuel t cs = some (.agg (L.map fun x => .lit (.int .u32 (x.toNat : Int))), p)) : ∀ i, i < n → cs[i]? = some (.int .u32 ((L.getD i 0).toNat : Int)) := by
  obtain ⟨xs, m, _, hx, hlen, hxl, hf⟩ := DataW.trod_array ht h
  rw [hc] at hlen
  intro i hi
  have h1 := hf i (by omega)
  rw [Try.cellsU32, Nat.mul_one, take_drop_one (by omega), List.getElem?_eq_getElem (by omega)] at h1
  obtain ⟨k, e, hk, _⟩ := DataW.trod_int Try.underlying39 h1
  simp only [Prod.mk.injEq, DataW.agg.injEq] at hx
  have h2 := congrArg (fun l => l[i]?) hx.1
  simp only [List.getElem?_map, List.getElem?_eq_getElem (show i < L.length by omega), List.getElem?_eq_getElem (show i < xs.length by omega), Option.map_some, Option.some.injEq] at h2
  rw [hk] at h2
  simp only [DataW.lit.injEq, Lit.int.injEq, true_and] at h2
  rw [List.getElem?_eq_getElem (by omega)]
  have e' : cs[i] = .int .u32 k := by simpa using e
  rw [e', ← h2]
  simp [show i < L.length by omega]
end

end Go.Proofs.Ytjcbihdhkaiidaa
