/-
  What comes in, opened: bytes, rows of bytes, arrays; the tables.
-/
import Derived.Test.YtpfjkjogljilnaaDoorRows
import Derived.Test.YtpfjkjogljilnaaDoorPBbQ1
import Derived.ProofKit
import Derived.OpenShut
import Derived.LaidMore
import Derived.Stop.Joined
import Derived.Deep.Slices
namespace Go.Proofs.YtpfjkjogljilnaaDoor
open Go.ChangeShapes Go.WideShapes Go.ChangeAt Go.RowKit Go.Deep

theorem Tryd.cellsU8 : Tryd.prog.cellsOf 5 = 1 := by kernel_rfl
theorem Tryd.cellsU32 : Tryd.prog.cellsOf 90 = 1 := by kernel_rfl
theorem Tryd.cellsSl : Tryd.prog.cellsOf 28 = 1 := by kernel_rfl
theorem Tryd.cellsW8 : Tryd.prog.cellsOf 98 = 8 := by kernel_rfl
theorem Tryd.cellsW64 : Tryd.prog.cellsOf 129 = 64 := by kernel_rfl
theorem Tryd.cellsB64 : Tryd.prog.cellsOf 99 = 64 := by kernel_rfl

/-- Numbers that are bytes, as bytes. -/
def toB (zs : List Int) : List UInt8 := zs.map fun z => UInt8.ofNat z.toNat
theorem toB_cast {z : Int} (h : (Lit.int .u8 z).wf = true) : ((UInt8.ofNat z.toNat).toNat : Int) = z := by
  have := bounds_u8 h
  rw [UInt8.toNat_ofNat']
  omega
theorem By_toB {zs : List Int} (h : ∀ z ∈ zs, (Lit.int .u8 z).wf = true) : By (toB zs) = zs.map (Value.int .u8) := by
  simp only [By, toB, List.map_map]
  refine List.map_congr_left fun z hz => ?_
  simp only [Function.comp]
  rw [toB_cast (h z hz)]

section
variable {H : Type} {enc : TypeId × Value → H} {w : World} {base : Nat} {held : Bool}
/-- A slice of bytes that was read. -/
theorem read_bytes {fuel : Nat} {cs : List Value} {x : DataW H × List MemPlace} (h : DataW.trod enc Tryd.prog w base (fun _ => true) held fuel 28 cs = some x) :
    ∃ (A : Option Addr) (c : Nat) (l : List UInt8), cs = [.slice A l.length c] ∧ Sees w w.heap.size A l ∧ l.length ≤ maxLen ∧ l.length ≤ c ∧ c ≤ maxLen := by
  rcases open_ints Tryd.underlying28 Tryd.underlying5 Tryd.cellsU8 h with ⟨hcs, _⟩ | ⟨a, len, cap, zs, hcs, _, hl, hm, hz, _, hcell, hwf⟩
  · exact ⟨none, 0, [], hcs, .inl rfl, by simp [maxLen], by simp, by simp [maxLen]⟩
  · simp only [if_true] at hz
    have hlen : (toB (zs.take len)).length = len := by simp [toB]; omega
    refine ⟨some a, cap, toB (zs.take len), by rw [hlen]; exact hcs, ?_, by omega, by omega, hm⟩
    by_cases h0 : len = 0
    · left
      exact List.eq_nil_of_length_eq_zero (by omega)
    · right
      have hc0 := hcell 0 (by omega)
      obtain ⟨b, off, spot⟩ := a
      have hsp : spot = none := by
        cases spot with
        | none => rfl
        | some s =>
          exfalso
          simp only [Addr.add, World.cell?] at hc0
          split at hc0 <;> simp at hc0
      subst hsp
      refine ⟨b, off, rfl, ?_, fun i hi => ?_⟩
      · have := World.block_lt_of_cell? _ _ hc0
        rwa [Addr.add_lit] at this
      · have hi' : i < len := by omega
        have := hcell i (by omega)
        rw [Addr.add_lit] at this
        rw [this]
        have hi2 : i < zs.length := by omega
        have e : (toB (zs.take len))[i] = UInt8.ofNat (zs[i]).toNat := by simp [toB]
        rw [e, toB_cast (hwf _ (List.getElem_mem hi2))]
        simp [List.getD, hi2]


theorem take_drop_one {cs : List Value} {i : Nat} (h : i < cs.length) : (cs.drop i).take 1 = [cs[i]] := by
  rw [List.drop_eq_getElem_cons h]; rfl

theorem addr_zero (ad : Addr) : ad.add 0 = ad := by
  obtain ⟨b, o, s⟩ := ad
  cases s <;> simp [Addr.add]
/-- A slice of slices of bytes that was read. -/
theorem read_rows {fuel : Nat} {cs : List Value} {x : DataW H × List MemPlace} (h : DataW.trod enc Tryd.prog w base (fun _ => true) held fuel 97 cs = some x) :
    ∃ (A : Option Addr) (c : Nat) (L : List (List UInt8)), cs = [.slice A L.length c] ∧ SeesL w w.heap.size A L ∧ L.length ≤ maxLen ∧ ∀ p ∈ L, p.length ≤ maxLen := by
  rcases open_slice Tryd.underlying97 h with ⟨hcs, _⟩ | ⟨a, len, cap, m, n, D, Pl, hcs, hb, hl, hm, hmm, _, hi⟩
  · exact ⟨none, 0, [], hcs, .inl rfl, by simp [maxLen], by simp⟩
  · simp only [if_true] at hmm
    subst hmm
    rw [Tryd.cellsSl] at hi
    have hp : ∀ i, i < len → ∃ p : List UInt8, p.length ≤ maxLen ∧ ∃ Ai ci, w.cell? (a.add (i * 1)) = some (.slice Ai p.length ci) ∧ p.length ≤ ci ∧ SeesO w w.heap.size Ai p := by
      intro i him
      obtain ⟨cs', hc, ht⟩ := hi i (by omega)
      obtain ⟨Ai, ci, p, rfl, hs, hpl, hpc, _⟩ := read_bytes ht
      obtain ⟨_, hcl, hat⟩ := World.cells?_some hc
      refine ⟨p, hpl, Ai, ci, ?_, hpc, SeesO.of hs (Nat.le_refl _)⟩
      have := hat 0 (by omega)
      rw [addr_zero] at this
      exact this
    obtain ⟨F, hF⟩ : ∃ F : Nat → List UInt8, ∀ i, i < len → (F i).length ≤ maxLen ∧ ∃ Ai ci, w.cell? (a.add (i * 1)) = some (.slice Ai (F i).length ci) ∧ (F i).length ≤ ci ∧ SeesO w w.heap.size Ai (F i) :=
      ⟨fun i => if h : i < len then Classical.choose (hp i h) else [], fun i h => by simp only [h, dif_pos]; exact Classical.choose_spec (hp i h)⟩
    refine ⟨some a, m, (List.range len).map F, by simpa using hcs, ?_, by simp; omega, ?_⟩
    · by_cases h0 : len = 0
      · left; subst h0; rfl
      · right
        obtain ⟨_, A0, c0, hc0, _⟩ := hF 0 (by omega)
        obtain ⟨b, off, spot⟩ := a
        have hsp : spot = none := by
          cases spot with
          | none => rfl
          | some s =>
            exfalso
            simp only [Addr.add, World.cell?] at hc0
            split at hc0 <;> simp at hc0
        subst hsp
        have hbl : b < w.heap.size := by
          have := World.block_lt_of_cell? _ _ hc0
          rw [Addr.add_lit] at this
          exact this
        refine ⟨b, off, rfl, hbl, by omega, fun i hi => ?_⟩
        obtain ⟨_, Ai, ci, h1, h2, h3⟩ := hF i (by simpa using hi)
        rw [Addr.add_lit, Nat.mul_one] at h1
        simp only [List.getElem_map, List.getElem_range]
        exact ⟨Ai, ci, h1, h2, h3⟩
    · intro p hp
      obtain ⟨i, hi, rfl⟩ := List.mem_map.1 hp
      exact (hF i (List.mem_range.1 hi)).1

/-- A row of words that was read as a known datum. -/
theorem laid_words {n : Nat} {t : TypeId} (ht : Tryd.prog.underlying t = some (.array n 90)) (hc : Tryd.prog.cellsOf t = n) {fuel : Nat} {cs : List Value} {p : List MemPlace} (L : List W32) (hL : L.length = n)
    (h : DataW.trod enc Tryd.prog w base (fun _ => true) held fuel t cs = some (.agg (L.map fun x => .lit (.int .u32 (x.toNat : Int))), p)) : ∀ i, i < n → cs[i]? = some (.int .u32 ((L.getD i 0).toNat : Int)) := by
  obtain ⟨xs, m, _, hx, hlen, hxl, hf⟩ := DataW.trod_array ht h
  rw [hc] at hlen
  intro i hi
  have h1 := hf i (by omega)
  rw [Tryd.cellsU32, Nat.mul_one, take_drop_one (by omega), List.getElem?_eq_getElem (by omega)] at h1
  obtain ⟨k, e, hk, _⟩ := DataW.trod_int Tryd.underlying90 h1
  simp only [Prod.mk.injEq, DataW.agg.injEq] at hx
  have h2 := congrArg (fun l => l[i]?) hx.1
  simp only [List.getElem?_map, List.getElem?_eq_getElem (show i < L.length by omega), List.getElem?_eq_getElem (show i < xs.length by omega), Option.map_some, Option.some.injEq] at h2
  rw [hk] at h2
  simp only [DataW.lit.injEq, Lit.int.injEq, true_and] at h2
  rw [List.getElem?_eq_getElem (by omega)]
  have e' : cs[i] = .int .u32 k := by simpa using e
  rw [e', ← h2]
  simp [show i < L.length by omega]
end

theorem gStart : Tryd.prog.globalNamed "plexus/sha.startWords" = some 0 := by kernel_rfl
theorem gRound : Tryd.prog.globalNamed "plexus/sha.roundWords" = some 1 := by kernel_rfl
theorem tStart : (Tryd.prog.globals[0]?).map (·.type) = some 98 := by kernel_rfl
theorem tRound : (Tryd.prog.globals[1]?).map (·.type) = some 129 := by kernel_rfl
abbrev laid2 : List (String × DataW Unit) := [("plexus/sha.startWords", Rows.laid_plexus_sha_startWords), ("plexus/sha.roundWords", Rows.laid_plexus_sha_roundWords)]
theorem dStart : (Rows.laid_plexus_sha_startWords : DataW Unit) = .agg (startL.map fun x => .lit (.int .u32 (x.toNat : Int))) := rfl
theorem dRound : (Rows.laid_plexus_sha_roundWords : DataW Unit) = .agg (kL.map fun x => .lit (.int .u32 (x.toNat : Int))) := rfl

/-- What the condition gives: the two tables. -/
theorem of_laid {W : World} (h : laidMetH Tryd.prog laid2 W) : Tabs W := by
  rw [MakeChecks.laidMetH_plain _ _ _ (by kernel_rfl)] at h
  obtain ⟨ps, ⟨g0, t0, cs0, f0, p0, q0, hg0, ht0, hv0, hd0, ⟨g1, t1, cs1, f1, p1, q1, hg1, ht1, hv1, hd1, _, _⟩, _⟩, _, _⟩ := h
  obtain rfl := Option.some.inj (gStart.symm.trans hg0)
  obtain rfl := Option.some.inj (gRound.symm.trans hg1)
  obtain rfl := Option.some.inj (tStart.symm.trans ht0)
  obtain rfl := Option.some.inj (tRound.symm.trans ht1)
  rw [dStart] at hd0
  rw [dRound] at hd1
  have h0 := laid_words Tryd.underlying98 Tryd.cellsW8 startL rfl hd0
  have h1 := laid_words Tryd.underlying129 Tryd.cellsW64 kL rfl hd1
  have c1 : ∀ i, i < 64 → W.cell? ⟨1, i, none⟩ = some (.int .u32 ((kL.getD i 0).toNat : Int)) := fun i hi => by
    have := World.var?_cell hg1 hv1 i
    rw [this]
    simpa using h1 i hi
  refine ⟨fun i hi => ?_, c1, ?_⟩
  · have := World.var?_cell hg0 hv0 i
    rw [this]
    simpa using h0 i hi
  · have := World.block_lt_of_cell? _ _ (c1 0 (by omega))
    exact this

/-- The door's own heap meets the condition. -/
theorem door_met (os : Os) (args : Array Value) : laidMetH Tryd.prog laid2 ((World.doorLaid Tryd.prog 2000 os).forCall (fun _ _ => 0) ⟨#[], args, []⟩).memory :=
  laidMetH_of_parts3 (fuel := 8) (laidMet_of_run' 8 (by kernel_rfl) (by kernel_rfl)) (by kernel_rfl) (by kernel_rfl)

end Go.Proofs.YtpfjkjogljilnaaDoor
