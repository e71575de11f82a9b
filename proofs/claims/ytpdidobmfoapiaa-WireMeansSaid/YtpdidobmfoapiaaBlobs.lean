/-
  blobs(l): all parts, as blobs.
-/
import Derived.Test.YtpdidobmfoapiaaBack
namespace Go.Proofs.Ytpdidobmfoapiaa
open Go.RowKit

theorem Try.pinfo : (Try.prog.info? 32).map (fun i => (i.zero, i.size, i.bytes)) = some (some (.agg pZero), 36, 80) := by kernel_rfl

/-- Parts' cells, one behind the other. -/
def PRow (L : List Prt) : List Value := L.flatMap PCells
theorem PRow_snoc (L : List Prt) (k : Nat) (h : k < L.length) : PRow (L.take (k + 1)) = PRow (L.take k) ++ PCells L[k] := by
  unfold PRow; rw [List.take_succ_eq_append_getElem h, List.flatMap_append]; simp
theorem PRow_length (L : List Prt) (h : ∀ p ∈ L, p.h.length = 32) : (PRow L).length = L.length * 36 := by
  induction L with
  | nil => rfl
  | cons p L ih =>
    have h1 : (PCells p).length = 36 := by simp [PCells, By_length, h p (by simp)]
    simp only [PRow, List.flatMap_cons, List.length_append, h1, List.length_cons] at ih ⊢
    rw [ih (fun q hq => h q (by simp [hq]))]
    omega
theorem PRow_get (L : List Prt) (h : ∀ p ∈ L, p.h.length = 32) : ∀ (i j : Nat) (hi : i < L.length) (v : Value), (PCells L[i])[j]? = some v → (PRow L)[i * 36 + j]? = some v := by
  induction L with
  | nil => intro i j hi; simp at hi
  | cons p L ih =>
    intro i j hi v hv
    have h1 : (PCells p).length = 36 := by simp [PCells, By_length, h p (by simp)]
    simp only [PRow, List.flatMap_cons]
    cases i with
    | zero =>
      have hj : j < (PCells p).length := (List.getElem?_eq_some_iff.1 hv).1
      rw [Nat.zero_mul, Nat.zero_add, List.getElem?_append_left hj]
      exact hv
    | succ i =>
      rw [List.getElem?_append_right (by rw [h1]; omega), h1, show (i + 1) * 36 + j - 36 = i * 36 + j by omega]
      exact ih (fun q hq => h q (by simp [hq])) i j (by simpa using hi) v (by simpa using hv)

/-- A row of parts that the call made shows them. -/
theorem PSees.own {w : World} {base : Nat} {A : Option Addr} {c : Nat} {L : List Prt} (h : w.ownsRow base 32 36 (.slice A L.length c) L.length (PRow L)) (hok : ∀ p ∈ L, p.ok w w.heap.size) : PSees w w.heap.size A L := by
  refine ⟨hok, ?_⟩
  rcases h.2 with ⟨_, h0⟩ | ⟨g, cap, cur, hv, hb, hh, hnc, hcm, hcs, ht⟩
  · exact .inl (List.eq_nil_of_length_eq_zero h0)
  · injection hv with hA _ hc
    subst hA hc
    refine .inr ⟨g, 0, rfl, (h.lt g rfl).2, fun i hi j v hv => ?_⟩
    have hlen : (PCells L[i]).length = 36 := PCells_length (hok _ (List.getElem_mem hi))
    have hj := (List.getElem?_eq_some_iff.1 hv).1
    have hlt : i * 36 + j < L.length * 36 := by
      have : (i + 1) * 36 ≤ L.length * 36 := Nat.mul_le_mul_right _ hi
      omega
    rw [Nat.zero_add, h.cellAt _ hlt]
    exact PRow_get L (fun p hp => (hok p hp).h) i j hi v hv

/-- What blobs answers. -/
def BlobsPost (w : World) (L : List Prt) (e : Ending) (w' : World) : Prop :=
  ∃ A c, e = .returned (.slice A L.length c) ∧ PSees w' w'.heap.size A (L.map asBlob) ∧ Below w.heap.size w w'

theorem asBlob_h (L : List Prt) : ∀ p ∈ L.map asBlob, p.h.length = 32 := by
  intro p hp
  obtain ⟨q, _, rfl⟩ := List.mem_map.1 hp
  rfl

/-- The cells of a new blob's part, as the walk writes them. -/
theorem blob_cells (wr : World) (p : Prt) : ∀ j u, (PCells (asBlob p))[j]? = some u → (wr.alloc (.cells (PCells (asBlob p)).toArray 32)).cell? ((⟨wr.heap.size, 0, none⟩ : Addr).add j) = some u := by
  intro j u hu
  rw [Addr.add_lit, Nat.zero_add, (Blk.new wr 32 (PCells (asBlob p)).toArray).cell j]
  simpa using hu

set_option maxHeartbeats 400000 in
set_option maxRecDepth 100000 in
theorem blobs_any (w : World) (A : Option Addr) (n c : Nat) (L : List Prt) (hn : n = L.length) (hS : PSees w w.heap.size A L) (hmax : n ≤ 40) :
    Calls Try.prog 34 #[.slice A n c] w (BlobsPost w L) := by
  subst hn
  have HS := Lib.hid hS
  clear hS
  obtain ⟨i0, hi, hz0, hz1, hz2⟩ := info_parts Try.pinfo
  go_enter Try.func34, Try.ntmps34
  go_wp2
  go_loopw [3, 4] (fun v i wr => ∃ (k : Nat) (A1 : Option Addr) (c1 : Nat), k ≤ L.length ∧ i = .int .i64 k ∧ v = .slice A1 k c1 ∧ Hid (wr.ownsRow w.heap.size 32 36 (.slice A1 k c1) k (PRow ((L.map asBlob).take k))) ∧ Below w.heap.size w wr) (fun _ i _ => L.length - (intOf i).toNat)
  case atStart => exact ⟨0, none, 0, Nat.zero_le _, rfl, rfl, World.ownsRow_nil _ _ _ _, Below.refl _ _⟩
  case round =>
    obtain ⟨k, A1, c1, hk, rfl, rfl, Hown, hbel⟩ := hrel
    by_cases hlt : k < L.length
    · obtain ⟨b, off, rfl, hb, hr, hok⟩ := (HS.out.below hbel).at_ hlt
      have c3 : wr.cell? ⟨b, off + k * 36 + 3, none⟩ = some (.slice L[k].A L[k].b.length L[k].c) := hr 3 _ rfl
      have Hsn : Hid (PRow ((L.map asBlob).take (k + 1)) = PRow ((L.map asBlob).take k) ++ PCells (asBlob L[k])) := by
        show _ = _
        rw [PRow_snoc _ k (by simpa using hlt), List.getElem_map]
      have hwz := hbel.size
      clear hr hok
      go_wp2_with (at_builtin; refine wpList_append_own _ rfl (.tmp 11) (.tmp 18) 22 rfl w.heap.size 32 i0 (.agg pZero) 36 80 Try.underlying22 hi hz0 hz1 hz2 rfl (by decide) (.slice A1 k c1) k (PRow ((L.map asBlob).take k)) rfl (Hown.out.alloc _) ⟨wr.heap.size, 0, none⟩ 1 1 (PCells (asBlob L[k])) rfl (by simp [PCells, By, asBlob, zero32]) (blob_cells wr L[k]) (PCells_one _) (by simp only [maxLen]; omega) (by omega) (by simp; omega) ?_; intro v' w1 hown hgr hat; obtain ⟨A2, c2, rfl⟩ := own_form hown; have Hown1 : Hid (w1.ownsRow w.heap.size 32 36 (.slice A2 (k + 1) c2) (k + 1) (PRow ((L.map asBlob).take (k + 1)))) := (by show World.ownsRow _ _ _ _ _ _ _; rw [Hsn.out]; exact hown); have hbel1 : Below w.heap.size w w1 := (hbel.alloc hwz _).grown hgr (by simp; omega) (fun j hj => (Hown.out.lt j hj).1); clear hown hgr hat)
      go_roundw
      case rel => exact ⟨k + 1, A2, c2, by omega, by go_num, rfl, Hown1, hbel1⟩
      case measure => simp [intOf]; omega
    · obtain rfl : k = L.length := by omega
      go_wp2
      go_ret
      refine ⟨A1, c1, rfl, ?_, hbel⟩
      have ho := Hown.out
      have hl : (L.map asBlob).length = L.length := by simp
      rw [← hl, List.take_length] at ho
      refine PSees.own ho ?_
      intro p hp
      obtain ⟨q, hq, rfl⟩ := List.mem_map.1 hp
      have hqo := (HS.out.below hbel).1 q hq
      exact ⟨by simp [asBlob], rfl, hqo.see.size, by simp [asBlob], by simp [asBlob]⟩

end Go.Proofs.Ytpdidobmfoapiaa
