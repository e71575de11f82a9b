/-
  merkle: the texts that are hashed: of a leaf, of a knot; their hashes, and their bytes.
-/
import Derived.Test.YtcbdjcmjchoagaaDoorMkB
import Derived.Test.YtcbdjcmjchoagaaDoorSOpen
import Derived.Deep.RegionHeldLaw
namespace Go.Proofs.YtcbdjcmjchoagaaDoor
open Go.RowKit

theorem Tryd.txtsize : (Tryd.prog.info? 63).map (·.size) = some 2 := by kernel_rfl
def nmLeaf : ByteArray := ⟨#[108, 101, 97, 102]⟩
def nmKnot : ByteArray := ⟨#[107, 110, 111, 116]⟩
def nmRoot : ByteArray := ⟨#[114, 111, 111, 116]⟩
theorem nm_le : nmLeaf.size ≤ 200 ∧ nmKnot.size ≤ 200 ∧ nmRoot.size ≤ 200 := ⟨by show 4 ≤ 200; omega, by show 4 ≤ 200; omega, by show 4 ≤ 200; omega⟩
/-- A text in memory: a name, and a slice that shows its bytes. -/
def TextV (nm : ByteArray) (A : Option Addr) (n c : Nat) : Value := .agg #[.string nm, .slice A n c]
/-- What a text's maker answers. -/
def TextPost (w : World) (nm : ByteArray) (l : List UInt8) (e : Ending) (w' : World) : Prop := ∃ A c, e = .returned (TextV nm A l.length c) ∧ l.length ≤ c ∧ Sees w' w'.heap.size A l ∧ Below w.heap.size w w'

set_option maxHeartbeats 1000000 in
set_option maxRecDepth 100000 in
theorem leafText_any (w : World) (id : List UInt8) (hid : id.length = 32) : Calls Tryd.prog 46 #[.agg (By id).toArray] w (TextPost w nmLeaf id) := by
  have Hid1 := Lib.hid hid
  have HB : Hid (Blk (w.alloc (.cells (By id).toArray 32)) w.heap.size 32 (By id).toArray) := Lib.hid (heap_alloc_new w _)
  clear hid
  go_enter Tryd.func46, Tryd.ntmps46
  go_wp2
  refine bodyPost_ret (results_cell_row Tryd.results46 _ _ (w.heap.size + 1) 63 _ (0, 0) _ rfl (Blk.newAt (by simp) rfl) Tryd.underlying63 rfl Tryd.txtsize) rfl ⟨some ⟨w.heap.size, 0, none⟩, 32, by rw [Hid1.out]; rfl, by rw [Hid1.out]; exact Nat.le_refl _, ?_, ?_⟩
  · refine .inr ⟨w.heap.size, 0, rfl, by simp; omega, fun i hi => ?_⟩
    rw [Nat.zero_add, (HB.out.alloc _).cell i]
    simp [By, hi]
  · exact ((Below.refl _ _).alloc (Nat.le_refl _) _).alloc (by simp) _

theorem SeesO.hash {w : World} {g b : Nat} {t : TypeId} {l : List UInt8} (hb : Blk w b t (By l).toArray) (hne : b ≠ g) : SeesO w g (some ⟨b, 0, none⟩) l := by
  have := SeesO.blk (g := g) hb hne l.length
  rwa [List.take_length] at this

/-- What a slice shows in another block stays behind a store. -/
theorem Sees.setFar {w : World} {B g : Nat} {A : Option Addr} {l : List UInt8} {t : TypeId} {cs : Array Value} (h : Sees w B A l) (hb : Blk w g t cs) (hno : ∀ (i : Nat) (z : Int), cs[i]? ≠ some (Value.int .u8 z)) (i : Nat) (u : Value) : Sees (w.setCell ⟨g, i, none⟩ u) B A l := by
  rcases h with h | ⟨b, off, hA, hlt, hc⟩
  · exact .inl h
  · by_cases h0 : l.length = 0
    · exact .inl (List.eq_nil_of_length_eq_zero h0)
    · have hne : ¬ b = g := by
        intro e
        subst e
        have := hc 0 (by omega)
        rw [hb.cell] at this
        exact hno _ _ this
      refine .inr ⟨b, off, hA, hlt, fun j hj => ?_⟩
      rw [World.cell?_of_block (w := w) (Below.heap_setCell w ⟨g, i, none⟩ u b hne)]
      exact hc j hj
theorem two_no {s : ByteArray} {A : Option Addr} {n c : Nat} (i : Nat) (z : Int) : (#[.string s, .slice A n c] : Array Value)[i]? ≠ some (.int .u8 z) := by
  match i with
  | 0 => simp
  | 1 => simp
  | i + 2 => simp

set_option maxHeartbeats 1000000 in
set_option maxRecDepth 100000 in
theorem knotText_any (w : World) (a b : List UInt8) (ha : a.length = 32) (hb : b.length = 32) : Calls Tryd.prog 47 #[.agg (By a).toArray, .agg (By b).toArray] w (TextPost w nmKnot (a ++ b)) := by
  have hA : Blk (((w.alloc (.cells (By a).toArray 32)).alloc (.cells (By b).toArray 32)).alloc (.cells #[.string ⟨#[]⟩, .slice none 0 0] 63)) w.heap.size 32 (By a).toArray := ((show Blk (w.alloc _) _ _ _ from heap_alloc_new w _).alloc _).alloc _
  have hB : Blk (((w.alloc (.cells (By a).toArray 32)).alloc (.cells (By b).toArray 32)).alloc (.cells #[.string ⟨#[]⟩, .slice none 0 0] 63)) (w.heap.size + 1) 32 (By b).toArray := (Blk.newAt (by simp) rfl).alloc _
  have hT : Blk (((w.alloc (.cells (By a).toArray 32)).alloc (.cells (By b).toArray 32)).alloc (.cells #[.string ⟨#[]⟩, .slice none 0 0] 63)) (w.heap.size + 1 + 1) 63 #[.string ⟨#[]⟩, .slice none 0 0] := Blk.newAt (by simp) rfl
  have hb0 : Below w.heap.size w (((w.alloc (.cells (By a).toArray 32)).alloc (.cells (By b).toArray 32)).alloc (.cells #[.string ⟨#[]⟩, .slice none 0 0] 63)) := nxAlloc (nxAlloc (nxAlloc (nxRefl w) _) _) _
  have hsz : w.heap.size + 3 = ((((w.alloc (.cells (By a).toArray 32)).alloc (.cells (By b).toArray 32)).alloc (.cells #[.string ⟨#[]⟩, .slice none 0 0] 63))).heap.size := by simp
  have HL : Hid ((a ++ b).length = 64) := by show _ = _; rw [List.length_append, ha, hb]
  have HF : Hid (([a, b] : List (List UInt8)).flatten = a ++ b) := by show _ = _; simp
  have Hla := Lib.hid ha
  have Hlb := Lib.hid hb
  have HA := Lib.hid hA
  have HB := Lib.hid hB
  have HT := Lib.hid hT
  have Hb := Lib.hid hb0
  have Hs := Lib.hid hsz
  clear ha hb hA hB hT hb0 hsz
  go_enter Tryd.func47, Tryd.ntmps47
  go_wp2
  generalize (((w.alloc (.cells (By a).toArray 32)).alloc (.cells (By b).toArray 32)).alloc (.cells #[.string ⟨#[]⟩, .slice none 0 0] 63)) = W0 at *
  have HS : Hid (SeesL (W0.alloc (.cells #[.slice (some ⟨w.heap.size, 0, none⟩) 32 32, .slice (some ⟨w.heap.size + 1, 0, none⟩) 32 32] 47)).drew (W0.heap.size + 1) (some ⟨W0.heap.size, 0, none⟩) [a, b]) :=
    (SeesL.two (SeesO.hash HA.out (by have := Hs.out; omega)) (SeesO.hash HB.out (by have := Hs.out; omega)) Hla.out.symm Hlb.out.symm (Nat.le_refl _) (Nat.le_refl _) (by omega)).drew
  go_region_held_law (fun _ => True) (exact True.intro) ((go_at_call 48; refine (concat_any _ _ 2 2 [a, b] rfl (by have h := HS.out; simpa only [World.size_alloc, World.drew] using h) (by omega) (by rw [HF.out, HL.out]; omega)).mono ?_; rw [HF.out]; rintro e w4 ⟨A4, c4, rfl, hc4, hs4, hb4⟩; have Hc4 := Lib.hid hc4; have b4 : Below W0.heap.size W0 w4 := nxTo (nxAlloc (nxRefl W0) _).drew hb4; have h4 := HT.out.below b4 HT.out.lt; have c0 : w4.cell? ⟨w.heap.size + 1 + 1, 0, none⟩ = some (.string ⟨#[]⟩) := h4.cell 0; have c1 : w4.cell? ⟨w.heap.size + 1 + 1, 1, none⟩ = some (.slice none 0 0) := h4.cell 1; have f0 := h4.frozen 0; have f1 := h4.frozen 1; have HT4 := Lib.hid h4; have HS4 := Lib.hid hs4; have Hb4 := Lib.hid b4; clear hc4 hs4 hb4 b4 h4))
  have HT5 := Lib.hid ((HT4.out.set 0 (.string nmKnot)).set 1 (.slice A4 (a.length + b.length) c4))
  have HS5 : Hid (Sees ((w4.setCell ⟨w.heap.size + 1 + 1, 0, none⟩ (.string nmKnot)).setCell ⟨w.heap.size + 1 + 1, 1, none⟩ (.slice A4 (a.length + b.length) c4)) w4.heap.size A4 (a ++ b)) :=
    Sees.setFar (Sees.setFar HS4.out HT4.out two_no 0 _) (HT4.out.set 0 _) two_no 1 _
  have Hb5 : Hid (Below w.heap.size w ((w4.setCell ⟨w.heap.size + 1 + 1, 0, none⟩ (.string nmKnot)).setCell ⟨w.heap.size + 1 + 1, 1, none⟩ (.slice A4 (a.length + b.length) c4))) :=
    ((nxTo Hb.out Hb4.out).setCell (p := ⟨w.heap.size + 1 + 1, 0, none⟩) (by show w.heap.size ≤ w.heap.size + 1 + 1; omega) _).setCell (p := ⟨w.heap.size + 1 + 1, 1, none⟩) (by show w.heap.size ≤ w.heap.size + 1 + 1; omega) _
  clear c0 c1 f0 f1
  go_wp2
  refine bodyPost_ret (results_cell_row Tryd.results47 _ _ (w.heap.size + 1 + 1) 63 _ (0, 0) _ rfl HT5.out Tryd.underlying63 rfl Tryd.txtsize) rfl ⟨A4, c4, by rw [List.length_append]; rfl, Hc4.out, ?_, Hb5.out⟩
  exact HS5.out.more (by simp [World.setCell])

set_option maxHeartbeats 1000000 in
set_option maxRecDepth 100000 in
theorem hash_any (w : World) (hT : Tabs w) (nm : ByteArray) (hnm : nm.size ≤ 200) (A : Option Addr) (n c : Nat) (l : List UInt8) (hn : n = l.length) (hc : n ≤ c) (hS : Sees w w.heap.size A l) (hmax : n ≤ 100000) :
    Calls Tryd.prog 33 #[TextV nm A n c] w fun e w' => e = .returned (.agg (By (shaB (tagB nm l))).toArray) ∧ Below w.heap.size w w' := by
  unfold TextV
  have hb0 : Below w.heap.size w ((w.alloc (.cells #[.string nm, .slice A n c] 63)).alloc (.cells (By zero32).toArray 32)) := nxAlloc (nxAlloc (nxRefl w) _) _
  have B0 : Hid (Blk ((w.alloc (.cells #[.string nm, .slice A n c] 63)).alloc (.cells (By zero32).toArray 32)) (w.heap.size + 1) 32 (By zero32).toArray) := Lib.hid (Blk.newAt (by simp) rfl)
  have Hb0 := Lib.hid hb0
  have HT := Lib.hid (hT.later hb0)
  have HS : Hid (∀ W, Below w.heap.size w W → SeesL (W.alloc (.cells #[.slice A n c] 47)) (W.heap.size + 1) (some ⟨W.heap.size, 0, none⟩) [l]) := by
    intro W hb
    have h1 : Sees W W.heap.size A l := (hS.below hb).more hb.size
    refine SeesL.one ?_ hn hc (by omega)
    rcases h1 with h | ⟨b, off, hA, hlt, hcc⟩
    · exact .inl h
    · exact .inr ⟨b, off, hA, hlt, by omega, hcc⟩
  have HF : Hid (([l] : List (List UInt8)).flatten = l) := by show _ = _; simp
  have HC := Lib.hid (cutN_short nm (by omega))
  have HZ0 := Lib.hid (Tryd.hsizeB (shaB (tagB nm l)) rfl)
  have Hn := Lib.hid hn
  clear hT hS hn hb0
  go_enter Tryd.func33, Tryd.ntmps33
  go_wp2_with (first
    | (go_at_call 45; refine (tag_any _ (HT.out.alloc _) nm _ 1 1 [l] rfl (by have h := HS.out _ Hb0.out; simpa only [World.size_alloc] using h) (by rw [HF.out]; have := Hn.out; omega) (by omega) (by omega)).mono ?_; rw [HF.out, HC.out]; rintro e w4 ⟨rfl, hb4⟩; have Hb4 : Hid (Below w.heap.size w w4) := nxTo (nxAlloc Hb0.out _) hb4; have B4 := Lib.hid ((B0.out.alloc (.cells #[.slice A n c] 47)).below hb4 (B0.out.alloc _).lt); clear hb4)
    | ((with_reducible show wpList _ _ _ (⟨none, .store 32 _ _, _, _, _, _⟩ :: _) _ _); refine wpList_store_all rfl 32 (.tmp 2) (.tmp 8) rfl (w.heap.size + 1) 32 (By zero32).toArray (By (shaB (tagB nm l))).toArray rfl rfl B4.out rfl HZ0.out (By_one _) ?_; intro w5 h5 h6 h7; have H5 := Lib.hid h5; have Hb5 : Hid (Below w.heap.size w w5) := Hb4.out.trans (h6.below Hb4.out.size (fun k hk => by omega)); clear h5 h6 h7))
  refine bodyPost_ret (results_cell_row Tryd.results33 _ _ (w.heap.size + 1) 32 _ (0, 0) _ rfl H5.out Tryd.underlying32 rfl HZ0.out) rfl ⟨rfl, Hb5.out⟩

end Go.Proofs.YtcbdjcmjchoagaaDoor
