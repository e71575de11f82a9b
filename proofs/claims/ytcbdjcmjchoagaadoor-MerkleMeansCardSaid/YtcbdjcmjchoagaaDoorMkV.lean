/-
  merkle: the texts' makers once more, with that their bytes lie in a block of their own making.
-/
import Derived.Test.YtcbdjcmjchoagaaDoorMkU
namespace Go.Proofs.YtcbdjcmjchoagaaDoor
open Go.RowKit

/-- It lies from B on. -/
def Fresh (B : Nat) (A : Option Addr) : Prop := ∀ ad, A = some ad → B ≤ ad.block
theorem Fresh.mono {B C : Nat} {A : Option Addr} (h : Fresh C A) (hb : B ≤ C) : Fresh B A := fun ad had => Nat.le_trans hb (h ad had)
theorem fresh_own {w : World} {base size : Nat} {e : TypeId} {A : Option Addr} {n c : Nat} {xs : List Value} (h : w.ownsRow base e size (.slice A n c) n xs) : Fresh base A := by
  intro ad had
  subst had
  exact (own_lt h ad.block rfl).1
def CatNew (w : World) (l : List UInt8) (e : Ending) (w' : World) : Prop := ∃ A c, e = .returned (.slice A l.length c) ∧ l.length ≤ c ∧ Sees w' w'.heap.size A l ∧ Below w.heap.size w w' ∧ Fresh w.heap.size A
/-- What a text's maker answers. -/
def TextNew (w : World) (nm : ByteArray) (l : List UInt8) (e : Ending) (w' : World) : Prop := ∃ A c, e = .returned (TextV nm A l.length c) ∧ l.length ≤ c ∧ Sees w' w'.heap.size A l ∧ Below w.heap.size w w' ∧ Fresh w.heap.size A

set_option maxHeartbeats 2000000 in
set_option maxRecDepth 100000 in
theorem concat_new (w : World) (A : Option Addr) (n c : Nat) (ps : List (List UInt8)) (hn : n = ps.length) (hS : SeesL w w.heap.size A ps) (hcnt : n ≤ 1000) (hmax : ps.flatten.length ≤ 100000) :
    Calls Tryd.prog 48 #[.slice A n c] w (CatNew w ps.flatten) := by
  subst hn
  have HS := Lib.hid hS
  have Hmax := Lib.hid hmax
  clear hS hmax
  obtain ⟨i0, hi, hz0, hz1, hz2⟩ := info_parts Tryd.u8info
  go_enter Tryd.func48, Tryd.ntmps48
  go_wp2
  go_loop [3, 11] (fun sv i => ∃ (k s : Nat), k ≤ ps.length ∧ i = .int .i64 k ∧ sv = .int .i64 s ∧ s ≤ 100000 ∧ Hid ((ps.take k).flatten.length = s)) (fun _ i => ps.length - (intOf i).toNat)
  case atStart => exact ⟨0, 0, by omega, rfl, rfl, by omega, rfl⟩
  case round =>
    obtain ⟨k, s, hk, rfl, rfl, hs, HK⟩ := hrel
    by_cases hlt : k < ps.length
    · obtain ⟨b, off, Ai, ci, rfl, hc, hci, ho⟩ := HS.out.at_ k hlt
      have hl1 : s + ps[k].length ≤ 100000 := by
        have h1 := flat_le ps (k + 1)
        rw [flat_next ps k hlt, List.length_append, HK.out] at h1
        have h2 := Hmax.out
        omega
      have HN : Hid ((ps.take (k + 1)).flatten.length = s + ps[k].length) := by show _ = _; rw [flat_next ps k hlt, List.length_append, HK.out]
      clear ho
      generalize ps[k] = p at *
      go_wp2
      go_round
      case rel => exact ⟨k + 1, s + p.length, by omega, by go_num, by go_num, hl1, HN.out⟩
      case measure => simp [intOf] <;> omega
    · obtain rfl : k = ps.length := by omega
      rw [List.take_length] at HK
      go_wp2_with (go_at_call 54; refine (grow_any _ s (by omega)).mono ?_; rintro e w2 ⟨A2, c2, rfl, ho2, hb2⟩; have HO2 := Lib.hid ho2; have Hb2 := Lib.hid hb2; clear ho2 hb2)
      go_loopw [6, 27] (fun v i wr => ∃ (k : Nat) (A1 : Option Addr) (c1 : Nat), k ≤ ps.length ∧ i = .int .i64 k ∧ v = .slice A1 (ps.take k).flatten.length c1 ∧ Hid (wr.ownsRow w.heap.size 5 1 (.slice A1 (ps.take k).flatten.length c1) (ps.take k).flatten.length (By (ps.take k).flatten)) ∧ Hid (Below w.heap.size w wr)) (fun _ i _ => ps.length - (intOf i).toNat)
      case atStart => exact ⟨0, A2, c2, by omega, rfl, rfl, HO2.out, Hb2.out⟩
      case round =>
        clear HO2 Hb2 HK hlt hs
        obtain ⟨k, A1, c1, hk, rfl, rfl, HO, Hb⟩ := hrel
        by_cases hlt : k < ps.length
        · obtain ⟨b, off, Ai, ci, rfl, hc, hci, ho⟩ := (HS.out.shift Hb.out (Nat.le_refl _)).at_ k hlt
          have HP := Lib.hid (flat_next ps k hlt)
          have HPl : Hid (((ps.take (k + 1)).flatten).length = (ps.take k).flatten.length + ps[k].length) := by show _ = _; rw [HP.out, List.length_append]
          have hq : (ps.take k).flatten.length + ps[k].length ≤ 100000 := by
            have h1 := flat_le ps (k + 1)
            rw [HPl.out] at h1
            have h2 := Hmax.out
            omega
          have HO' := Lib.hid ho.sees
          clear ho
          generalize hp : ps[k] = p at *
          clear hp
          go_wp2_with ((with_reducible show wpList _ _ _ (⟨some 33, _, _, _, _, _⟩ :: _) _ _); refine wpList_append_sees rfl (.tmp 31) (.tmp 32) 47 rfl w.heap.size 5 i0 (.int .u8 0) Tryd.underlying47 hi hz0 hz1 hz2 rfl (.slice A1 (ps.take k).flatten.length c1) (ps.take k).flatten.length (By (ps.take k).flatten) rfl HO.out wr.heap.size Ai p.length ci p rfl rfl HO'.out (by omega) Hb.out.size ?_; intro v2 w2 ho2 hg2 hat2; obtain ⟨A2, c2, rfl⟩ := own_form ho2; have ho3 : w2.ownsRow w.heap.size 5 1 (.slice A2 (ps.take (k + 1)).flatten.length c2) (ps.take (k + 1)).flatten.length (By (ps.take (k + 1)).flatten) := (by rw [HPl.out, HP.out, By_append]; exact ho2); have HO2 := Lib.hid ho3; have Hb2 : Hid (Below w.heap.size w w2) := (Hb.out.grown hg2 Hb.out.size (fun j hj => (HO.out.lt j hj).1)); clear ho2 ho3 hg2 hat2)
          go_roundw
          case rel => exact ⟨k + 1, A2, c2, by omega, by go_num, by rw [HPl.out]; simp [List.length_flatten, List.map_take], HO2.out, Hb2.out⟩
          case measure => simp [intOf] <;> omega
        · obtain rfl : k = ps.length := by omega
          rw [List.take_length] at HO
          go_wp2
          go_ret
          exact ⟨A1, c1, by rw [List.take_length]; rfl, own_cap' HO.out, Sees.own HO.out, Hb.out, fresh_own HO.out⟩

set_option maxHeartbeats 1000000 in
set_option maxRecDepth 100000 in
theorem leafText_new (w : World) (id : List UInt8) (hid : id.length = 32) : Calls Tryd.prog 46 #[.agg (By id).toArray] w (TextNew w nmLeaf id) := by
  have Hid1 := Lib.hid hid
  have HB : Hid (Blk (w.alloc (.cells (By id).toArray 32)) w.heap.size 32 (By id).toArray) := Lib.hid (heap_alloc_new w _)
  clear hid
  go_enter Tryd.func46, Tryd.ntmps46
  go_wp2
  refine bodyPost_ret (results_cell_row Tryd.results46 _ _ (w.heap.size + 1) 63 _ (0, 0) _ rfl (Blk.newAt (by simp) rfl) Tryd.underlying63 rfl Tryd.txtsize) rfl ⟨some ⟨w.heap.size, 0, none⟩, 32, by rw [Hid1.out]; rfl, by rw [Hid1.out]; exact Nat.le_refl _, ?_, ?_, fun ad had => by injection had with e; subst e; exact Nat.le_refl _⟩
  · refine .inr ⟨w.heap.size, 0, rfl, by simp; omega, fun i hi => ?_⟩
    rw [Nat.zero_add, (HB.out.alloc _).cell i]
    simp [By, hi]
  · exact ((Below.refl _ _).alloc (Nat.le_refl _) _).alloc (by simp) _

set_option maxHeartbeats 1000000 in
set_option maxRecDepth 100000 in
theorem knotText_new (w : World) (a b : List UInt8) (ha : a.length = 32) (hb : b.length = 32) : Calls Tryd.prog 47 #[.agg (By a).toArray, .agg (By b).toArray] w (TextNew w nmKnot (a ++ b)) := by
  have hA : Blk (((w.alloc (.cells (By a).toArray 32)).alloc (.cells (By b).toArray 32)).alloc (.cells #[.string ⟨#[]⟩, .slice none 0 0] 63)) w.heap.size 32 (By a).toArray := ((show Blk (w.alloc _) _ _ _ from heap_alloc_new w _).alloc _).alloc _
  have hB : Blk (((w.alloc (.cells (By a).toArray 32)).alloc (.cells (By b).toArray 32)).alloc (.cells #[.string ⟨#[]⟩, .slice none 0 0] 63)) (w.heap.size + 1) 32 (By b).toArray := (Blk.newAt (by simp) rfl).alloc _
  have hT : Blk (((w.alloc (.cells (By a).toArray 32)).alloc (.cells (By b).toArray 32)).alloc (.cells #[.string ⟨#[]⟩, .slice none 0 0] 63)) (w.heap.size + 1 + 1) 63 #[.string ⟨#[]⟩, .slice none 0 0] := Blk.newAt (by simp) rfl
  have hb0 : Below w.heap.size w (((w.alloc (.cells (By a).toArray 32)).alloc (.cells (By b).toArray 32)).alloc (.cells #[.string ⟨#[]⟩, .slice none 0 0] 63)) := nxAlloc (nxAlloc (nxAlloc (nxRefl w) _) _) _
  have hsz : w.heap.size + 3 = ((((w.alloc (.cells (By a).toArray 32)).alloc (.cells (By b).toArray 32)).alloc (.cells #[.string ⟨#[]⟩, .slice none 0 0] 63))).heap.size := by simp
  have HL : Hid ((a ++ b).length = 64) := by show _ = _; rw [List.length_append, ha, hb]
  have HF : Hid (([a, b] : List (List UInt8)).flatten = a ++ b) := by show _ = _; simp
  have Hla := Lib.hid ha
  have Hlb := Lib.hid hb
  have HA := Lib.hid hA
  have HB := Lib.hid hB
  have HT := Lib.hid hT
  have Hb := Lib.hid hb0
  have Hs := Lib.hid hsz
  clear ha hb hA hB hT hb0 hsz
  go_enter Tryd.func47, Tryd.ntmps47
  go_wp2
  generalize (((w.alloc (.cells (By a).toArray 32)).alloc (.cells (By b).toArray 32)).alloc (.cells #[.string ⟨#[]⟩, .slice none 0 0] 63)) = W0 at *
  have HS : Hid (SeesL (W0.alloc (.cells #[.slice (some ⟨w.heap.size, 0, none⟩) 32 32, .slice (some ⟨w.heap.size + 1, 0, none⟩) 32 32] 47)).drew (W0.heap.size + 1) (some ⟨W0.heap.size, 0, none⟩) [a, b]) :=
    (SeesL.two (SeesO.hash HA.out (by have := Hs.out; omega)) (SeesO.hash HB.out (by have := Hs.out; omega)) Hla.out.symm Hlb.out.symm (Nat.le_refl _) (Nat.le_refl _) (by omega)).drew
  go_region_held_law (fun _ => True) (exact True.intro) ((go_at_call 48; refine (concat_new _ _ 2 2 [a, b] rfl (by have h := HS.out; simpa only [World.size_alloc, World.drew] using h) (by omega) (by rw [HF.out, HL.out]; omega)).mono ?_; rw [HF.out]; rintro e w4 ⟨A4, c4, rfl, hc4, hs4, hb4, hf4⟩; have HF4 : Hid (Fresh w.heap.size A4) := Fresh.mono (B := w.heap.size) hf4 (by have := Hs.out; simp only [World.size_alloc, World.drew]; omega); clear hf4; have Hc4 := Lib.hid hc4; have b4 : Below W0.heap.size W0 w4 := nxTo (nxAlloc (nxRefl W0) _).drew hb4; have h4 := HT.out.below b4 HT.out.lt; have c0 : w4.cell? ⟨w.heap.size + 1 + 1, 0, none⟩ = some (.string ⟨#[]⟩) := h4.cell 0; have c1 : w4.cell? ⟨w.heap.size + 1 + 1, 1, none⟩ = some (.slice none 0 0) := h4.cell 1; have f0 := h4.frozen 0; have f1 := h4.frozen 1; have HT4 := Lib.hid h4; have HS4 := Lib.hid hs4; have Hb4 := Lib.hid b4; clear hc4 hs4 hb4 b4 h4))
  have HT5 := Lib.hid ((HT4.out.set 0 (.string nmKnot)).set 1 (.slice A4 (a.length + b.length) c4))
  have HS5 : Hid (Sees ((w4.setCell ⟨w.heap.size + 1 + 1, 0, none⟩ (.string nmKnot)).setCell ⟨w.heap.size + 1 + 1, 1, none⟩ (.slice A4 (a.length + b.length) c4)) w4.heap.size A4 (a ++ b)) :=
    Sees.setFar (Sees.setFar HS4.out HT4.out two_no 0 _) (HT4.out.set 0 _) two_no 1 _
  have Hb5 : Hid (Below w.heap.size w ((w4.setCell ⟨w.heap.size + 1 + 1, 0, none⟩ (.string nmKnot)).setCell ⟨w.heap.size + 1 + 1, 1, none⟩ (.slice A4 (a.length + b.length) c4))) :=
    ((nxTo Hb.out Hb4.out).setCell (p := ⟨w.heap.size + 1 + 1, 0, none⟩) (by show w.heap.size ≤ w.heap.size + 1 + 1; omega) _).setCell (p := ⟨w.heap.size + 1 + 1, 1, none⟩) (by show w.heap.size ≤ w.heap.size + 1 + 1; omega) _
  clear c0 c1 f0 f1
  go_wp2
  refine bodyPost_ret (results_cell_row Tryd.results47 _ _ (w.heap.size + 1 + 1) 63 _ (0, 0) _ rfl HT5.out Tryd.underlying63 rfl Tryd.txtsize) rfl ⟨A4, c4, by rw [List.length_append]; rfl, Hc4.out, ?_, Hb5.out, HF4.out⟩
  exact HS5.out.more (by simp [World.setCell])

set_option maxHeartbeats 2000000 in
set_option maxRecDepth 100000 in
theorem rootText_new (w : World) (n : Nat) (hn : n < 4611686018427387904) (A : Option Addr) (m c : Nat) (top : List (List UInt8)) (hm : m = top.length) (h32 : All32 top) (hS : SeesV w w.heap.size A (Hs top)) (hmax : m ≤ 1000) :
    Calls Tryd.prog 32 #[.int .i64 (n : Int), .slice A m c] w (TextNew w nmRoot (le8 n ++ top.flatten)) := by
  subst hm
  have HS := Lib.hid hS
  have H32 := Lib.hid h32
  have Hn := Lib.hid hn
  clear hS h32 hn
  obtain ⟨i0, hi, hz0, hz1, hz2⟩ := info_parts Tryd.u8info
  go_enter Tryd.func32, Tryd.ntmps32
  go_wp2
  have hT : Blk (w.alloc (.cells #[.string ⟨#[]⟩, .slice none 0 0] 63)) w.heap.size 63 #[.string ⟨#[]⟩, .slice none 0 0] := heap_alloc_new w _
  have hb1 : Below w.heap.size w (w.alloc (.cells #[.string ⟨#[]⟩, .slice none 0 0] 63)) := nxAlloc (nxRefl w) _
  have HT := Lib.hid hT
  have Hb1 := Lib.hid hb1
  clear hT hb1
  generalize w.alloc (.cells #[.string ⟨#[]⟩, .slice none 0 0] 63) = W1 at *
  go_loopw [5, 9] (fun bv iv wr => ∃ (k : Nat) (A1 : Option Addr) (c1 : Nat), k ≤ 8 ∧ iv = .int .i64 k ∧ bv = .slice A1 k c1 ∧ Hid (wr.ownsRow W1.heap.size 5 1 (.slice A1 k c1) k (By ((le8 n).take k))) ∧ Hid (Below W1.heap.size W1 wr)) (fun _ iv _ => 8 - (intOf iv).toNat)
  case atStart => exact ⟨0, none, 0, by omega, rfl, rfl, World.ownsRow_nil _ _ _ _, nxRefl W1⟩
  case round =>
    obtain ⟨k, A1, c1, hk, rfl, rfl, HO, Hb⟩ := hrel
    by_cases hlt : k < 8
    · have HB : Hid (By [UInt8.ofNat (n / 256 ^ k)] = [.int .u8 (IntKind.u64.wrap (n : Int) / 2 ^ (8 * k) % 256)]) := by show _ = _; rw [byte_of n k Hn.out]; rfl
      have HN := Lib.hid (le8_next n k hlt)
      go_wp2_with ((with_reducible show wpList _ _ _ (⟨some 20, _, _, _, _, _⟩ :: _) _ _); refine wpList_append_seesV rfl (.tmp 12) (.tmp 19) 47 rfl W1.heap.size 5 i0 (.int .u8 0) 1 1 Tryd.underlying47 hi hz0 hz1 hz2 rfl (by omega) (.slice A1 k c1) k (By ((le8 n).take k)) rfl (HO.out.alloc _) (wr.heap.size + 1) (some ⟨wr.heap.size, 0, none⟩) 1 1 [.int .u8 (IntKind.u64.wrap (n : Int) / 2 ^ (8 * k) % 256)] rfl rfl (SeesV.lit' wr [.int .u8 (IntKind.u64.wrap (n : Int) / 2 ^ (8 * k) % 256)] 5) (by intro u hu; simp at hu; subst hu; rfl) (by omega) (by omega) (by have h1 := Hb.out.size; simp; omega) ?_; intro v8 w8 ho8 hg8 hat8; obtain ⟨A8, c8, rfl⟩ := own_form ho8; rw [← HB.out, ← By_append, ← HN.out] at ho8; have HO8 := Lib.hid ho8; have Hb8 : Hid (Below W1.heap.size W1 w8) := (nxAlloc Hb.out _).grown hg8 (nxAlloc Hb.out _).size (fun j hj => (own_lt HO.out j hj).1); clear ho8 hg8 hat8)
      go_roundw
      case rel => exact ⟨k + 1, A8, c8, by omega, by go_num, rfl, HO8.out, Hb8.out⟩
      case measure => simp [intOf] <;> omega
    · obtain rfl : k = 8 := by omega
      have HO' : Hid (wr.ownsRow W1.heap.size 5 1 (.slice A1 8 c1) 8 (By (le8 n ++ (top.take 0).flatten))) := by
        show World.ownsRow _ _ _ _ _ _ _
        have h := HO.out
        rw [List.take_of_length_le (by rw [le8_len]; omega)] at h
        simpa using h
      clear HO
      rw [show ((8 : Nat) : Int) = (8 : Int) from rfl]
      go_wp2
      go_loopw [5, 24] (fun bv iv wr => ∃ (k : Nat) (A1 : Option Addr) (c1 : Nat), k ≤ top.length ∧ iv = .int .i64 k ∧ bv = .slice A1 (8 + k * 32) c1 ∧ Hid (wr.ownsRow W1.heap.size 5 1 (.slice A1 (8 + k * 32) c1) (8 + k * 32) (By (le8 n ++ (top.take k).flatten))) ∧ Hid (Below W1.heap.size W1 wr)) (fun _ iv _ => top.length - (intOf iv).toNat)
      case atStart => exact ⟨0, A1, c1, by omega, rfl, rfl, HO'.out, Hb.out⟩
      case round =>
        clear HO' Hb hlt hk
        obtain ⟨k, A1, c1, hk, rfl, rfl, HO, Hb⟩ := hrel
        by_cases hlt : k < top.length
        · obtain ⟨b, off, rfl, hbb, hrg⟩ := SeesV.hash (HS.out.below (nxTo Hb1.out Hb.out)) H32.out hlt
          have hrx := hrg k hlt
          have hxl := H32.out.get hlt
          have HF := Lib.hid (flat_next top k hlt)
          generalize top[k] = x at *
          have HRx := Lib.hid hrx
          have HXl := Lib.hid hxl
          have HZx := Lib.hid (Tryd.hsizeB x hxl)
          have HSX : Hid ((Tryd.prog.info? 32).map (·.size) = some (By x).length) := by have h := Tryd.hsizeB x hxl; show _ = _; rw [h]; simp
          clear hrg hrx hxl
          go_wp2_with (first
            | ((with_reducible show wpList _ _ _ (⟨some 27, _, _, _, _, _⟩ :: _) _ _); refine wpList_load_mid rfl 32 (.tmp 26) rfl b (off + k * 32) rfl (By x) _ HRx.out Tryd.underlying32 rfl HSX.out ?_)
            | ((with_reducible show wpList _ _ _ (⟨none, .store 32 _ _, _, _, _, _⟩ :: _) _ _); refine wpList_store_all rfl 32 (.tmp 8) (.tmp 27) rfl wr.heap.size 32 (By zero32).toArray (By x).toArray rfl rfl (Blk.newAt rfl rfl) (by rw [List.size_toArray, List.size_toArray, By_length, By_length, HXl.out]; rfl) HZx.out (By_one _) ?_; intro w5 h5 h6 h7; have H5 := Lib.hid h5; have Hr5 : Hid (Below wr.heap.size wr w5) := (nxAlloc (nxRefl wr) _).trans (h6.below (nxAlloc (nxRefl wr) _).size (fun k hk => by omega)); have HO5 := Lib.hid (own_below HO.out Hr5.out (fun g hg => (own_lt HO.out g hg).2)); clear h5 h6 h7)
            | ((with_reducible show wpList _ _ _ (⟨some 30, _, _, _, _, _⟩ :: _) _ _); refine wpList_append_seesV rfl (.tmp 28) (.tmp 29) 47 rfl W1.heap.size 5 i0 (.int .u8 0) 1 1 Tryd.underlying47 hi hz0 hz1 hz2 rfl (by omega) (.slice A1 (8 + k * 32) c1) (8 + k * 32) (By (le8 n ++ (top.take k).flatten)) rfl HO5.out w5.heap.size (some ⟨wr.heap.size, 0, none⟩) 32 32 (By x) rfl (by rw [By_length, HXl.out]) (by have h := SeesV.blk H5.out; simpa using h) (By_one _) (by omega) (by omega) (nxTo Hb.out Hr5.out).size ?_; intro v8 w8 ho8 hg8 hat8; obtain ⟨A8, c8, rfl⟩ := own_form ho8; rw [← By_append, List.append_assoc, ← HF.out] at ho8; have HO8 := Lib.hid ho8; have Hb8 : Hid (Below W1.heap.size W1 w8) := (nxTo Hb.out Hr5.out).grown hg8 (nxTo Hb.out Hr5.out).size (fun j hj => (own_lt HO5.out j hj).1); clear ho8 hg8 hat8))
          go_roundw
          case rel => exact ⟨k + 1, A8, c8, by omega, by go_num, by rw [Nat.add_mul, Nat.one_mul, ← Nat.add_assoc], by rw [Nat.add_mul, Nat.one_mul, ← Nat.add_assoc]; exact HO8.out, Hb8.out⟩
          case measure => simp [intOf] <;> omega
        · obtain rfl : k = top.length := by omega
          rw [List.take_length] at HO
          have h4 := HT.out.below Hb.out HT.out.lt
          have c0 : wr.cell? ⟨w.heap.size, 0, none⟩ = some (.string ⟨#[]⟩) := h4.cell 0
          have c1' : wr.cell? ⟨w.heap.size, 1, none⟩ = some (.slice none 0 0) := h4.cell 1
          have f0 := h4.frozen 0
          have f1 := h4.frozen 1
          have HT5 := Lib.hid ((h4.set 0 (.string nmRoot)).set 1 (.slice A1 (8 + top.length * 32) c1))
          have HS5 : Hid (Sees ((wr.setCell ⟨w.heap.size, 0, none⟩ (.string nmRoot)).setCell ⟨w.heap.size, 1, none⟩ (.slice A1 (8 + top.length * 32) c1)) wr.heap.size A1 (le8 n ++ top.flatten)) :=
            Sees.setFar (Sees.setFar (Sees.own HO.out) h4 two_no 0 _) (h4.set 0 _) two_no 1 _
          have Hb5 : Hid (Below w.heap.size w ((wr.setCell ⟨w.heap.size, 0, none⟩ (.string nmRoot)).setCell ⟨w.heap.size, 1, none⟩ (.slice A1 (8 + top.length * 32) c1))) :=
            ((nxTo Hb1.out Hb.out).setCell (p := ⟨w.heap.size, 0, none⟩) (Nat.le_refl _) _).setCell (p := ⟨w.heap.size, 1, none⟩) (Nat.le_refl _) _
          have HL : Hid ((le8 n ++ top.flatten).length = 8 + top.length * 32) := by show _ = _; rw [List.length_append, le8_len, H32.out.flat]
          have HC := Lib.hid (own_cap' HO.out)
          have HFr : Hid (Fresh w.heap.size A1) := (fresh_own HO.out).mono Hb1.out.size
          clear h4
          go_wp2
          refine bodyPost_ret (results_cell_row Tryd.results32 _ _ w.heap.size 63 _ (0, 0) _ rfl HT5.out Tryd.underlying63 rfl Tryd.txtsize) rfl ⟨A1, c1, by rw [HL.out]; rfl, by rw [HL.out]; exact HC.out, ?_, Hb5.out, HFr.out⟩
          exact HS5.out.more (by simp [World.setCell])

end Go.Proofs.YtcbdjcmjchoagaaDoor
