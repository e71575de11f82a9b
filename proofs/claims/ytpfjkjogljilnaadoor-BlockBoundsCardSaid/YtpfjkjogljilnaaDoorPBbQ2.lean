/-
  Hashes under a name, of the program.
  The document's text under a name, its Tag.
-/
import Derived.Test.YtpfjkjogljilnaaDoorPBbQ1
import Derived.Laws.IdiomStrings
import Derived.Lib.AppendStr
namespace Go.Proofs.YtpfjkjogljilnaaDoor
open Go.RowKit

/-- A name's bytes. -/
def nmL (T : ByteArray) : List UInt8 := T.data.toList
theorem nmL_length (T : ByteArray) : (nmL T).length = T.size := by simp [nmL]
/-- A name that is not too long. -/
def cutN (S : ByteArray) : ByteArray := S.extract 0 (min S.size 255)
theorem cutN_size (S : ByteArray) : (cutN S).size = min S.size 255 := by simp [cutN, ByteArray.size_extract]
theorem cutN_short (S : ByteArray) (h : S.size ≤ 255) : cutN S = S := by
  unfold cutN
  rw [Nat.min_eq_left h]
  apply ByteArray.ext
  simp
/-- What is hashed under a name. -/
def tagB (T : ByteArray) (m : List UInt8) : List UInt8 := UInt8.ofNat T.size :: nmL T ++ m

theorem SeesL.two {w : World} {g : Nat} {A B : Option Addr} {k l : List UInt8} {t : TypeId} {m n c d : Nat} (h1 : SeesO w g A k) (h2 : SeesO w g B l) (hm : m = k.length) (hn : n = l.length) (hc : m ≤ c) (hd : n ≤ d) (hne : w.heap.size ≠ g) :
    SeesL (w.alloc (.cells #[.slice A m c, .slice B n d] t)) g (some ⟨w.heap.size, 0, none⟩) [k, l] := by
  subst hm hn
  refine .inr ⟨w.heap.size, 0, rfl, by simp, hne, fun i hi => ?_⟩
  have hb : Blk (w.alloc (.cells #[.slice A k.length c, .slice B l.length d] t)) w.heap.size t #[.slice A k.length c, .slice B l.length d] := heap_alloc_new w _
  have : i = 0 ∨ i = 1 := by simp at hi; omega
  rcases this with rfl | rfl
  · exact ⟨A, c, by rw [hb.cell]; rfl, hc, h1.keeps ((Keeps.refl _ _).alloc _)⟩
  · exact ⟨B, d, by rw [hb.cell]; rfl, hd, h2.keeps ((Keeps.refl _ _).alloc _)⟩
theorem SeesO.brow {w : World} {g : Nat} (T : ByteArray) (cap : Nat) (e : TypeId) (fr : Nat × Nat) (hne : w.heap.size ≠ g) : SeesO (w.alloc (.cells (bytesRow T cap) e fr)) g (some ⟨w.heap.size, 0, none⟩) (nmL T) := by
  refine .inr ⟨w.heap.size, 0, rfl, by simp, hne, fun i hi => ?_⟩
  have hi' : i < T.data.size := by simpa [nmL] using hi
  have e1 : (w.alloc (.cells (bytesRow T cap) e fr)).heap[w.heap.size]? = some (.cells (bytesRow T cap) e fr) := heap_alloc_new w _
  rw [Nat.zero_add, World.cell?]
  simp only [e1]
  simp only [Option.isSome_none, Bool.false_eq_true, if_false]
  rw [bytesRow, Array.getElem?_append_left (by simpa using hi'), Array.getElem?_map, Array.getElem?_eq_getElem hi']
  simp [nmL]

theorem cut_cases (S : ByteArray) : (S.size ≤ 255 ∧ cutN S = S) ∨ (255 < S.size ∧ cutN S = S.extract 0 255 ∧ (S.extract 0 255).size = 255) := by
  rcases Nat.lt_or_ge 255 S.size with h | h
  · refine .inr ⟨h, ?_, ?_⟩
    · rw [cutN, Nat.min_eq_right (by omega)]
    · rw [ByteArray.size_extract]; omega
  · exact .inl ⟨h, cutN_short S h⟩
/-- The length's byte as a slice shows it. -/
theorem SeesO.lenB {w : World} {g : Nat} (n : Nat) (hn : n ≤ 255) (t : TypeId) (hne : w.heap.size ≠ g) : SeesO (w.alloc (.cells #[.int .u8 (n : Int)] t)) g (some ⟨w.heap.size, 0, none⟩) [UInt8.ofNat n] := by
  refine .inr ⟨w.heap.size, 0, rfl, by simp, hne, fun i hi => ?_⟩
  obtain rfl : i = 0 := by simp at hi; omega
  have hb : Blk (w.alloc (.cells #[.int .u8 (n : Int)] t)) w.heap.size t #[.int .u8 (n : Int)] := heap_alloc_new w _
  rw [hb.cell]
  have : ((UInt8.ofNat n).toNat : Int) = n := by rw [UInt8.toNat_ofNat']; omega
  show some (Value.int .u8 (n : Int)) = some (.int .u8 ((UInt8.ofNat n).toNat : Int))
  rw [this]
theorem tag_sees {w : World} {g : Nat} (T : ByteArray) (k : Nat) (hk : k = T.size) (hT : k ≤ 255) (cap : Nat) (hcap : k ≤ cap) (t : TypeId) (e : TypeId) (fr : Nat × Nat) (hg : g < w.heap.size) :
    SeesL ((((w.alloc (.cells #[.int .u8 (k : Int)] e)).alloc (.cells (bytesRow T cap) e fr))).alloc (.cells #[.slice (some ⟨w.heap.size, 0, none⟩) 1 1, .slice (some ⟨w.heap.size + 1, 0, none⟩) k cap] t)) g (some ⟨w.heap.size + 1 + 1, 0, none⟩) [[UInt8.ofNat k], nmL T] := by
  have h1 : SeesO (w.alloc (.cells #[.int .u8 (k : Int)] e)) g (some ⟨w.heap.size, 0, none⟩) [UInt8.ofNat k] := SeesO.lenB (w := w) k hT e (by omega)
  have h2 := SeesO.brow (w := (w.alloc (.cells #[.int .u8 (k : Int)] e))) (g := g) T cap e fr (by rw [World.size_alloc]; omega)
  have h3 := SeesL.two (t := t) (m := 1) (n := k) (c := 1) (d := cap) (h1.keeps ((Keeps.refl (· = g) _).alloc (.cells (bytesRow T cap) e fr))) h2 rfl (by rw [nmL_length, hk]) (Nat.le_refl _) hcap (by rw [World.size_alloc, World.size_alloc]; omega)
  simp only [World.size_alloc] at h3
  exact h3
theorem SeesL.drew {w : World} {g : Nat} {A : Option Addr} {ps : List (List UInt8)} (h : SeesL w g A ps) : SeesL w.drew g A ps := h
theorem Tabs.drew {w : World} (h : Tabs w) : Tabs w.drew := ⟨h.start, h.words, h.size⟩
theorem Msg.drew {w : World} {g : Nat} {t : List UInt8} (h : Msg w g t) : Msg w.drew g t := h
theorem below3 {w w3 : World} {B : Nat} (h : Below B w w3) (hB : B ≤ w3.heap.size) (o1 o2 o3 : Obj) : Below B w (((w3.alloc o1).alloc o2).alloc o3).drew :=
  (((h.alloc hB _).alloc (by rw [World.size_alloc]; omega) _).alloc (by rw [World.size_alloc, World.size_alloc]; omega) _).drew
theorem tagB_flat (k : Nat) (T : ByteArray) (hk : k = T.size) (ps : List (List UInt8)) : [] ++ [[UInt8.ofNat k], nmL T].flatten ++ ps.flatten = tagB T ps.flatten := by
  subst hk; simp [tagB]

set_option maxHeartbeats 1000000 in
set_option maxRecDepth 100000 in
theorem tag_any (w : World) (hT : Tabs w) (S : ByteArray) (A : Option Addr) (n c : Nat) (ps : List (List UInt8)) (hn : n = ps.length) (hS : SeesL w w.heap.size A ps)
    (hmax : ps.flatten.length ≤ 1125899906840000) (hcnt : n ≤ 1125899906842624) (hsz : S.size ≤ 1125899906842624) :
    Calls Tryd.prog 29 #[.string S, .slice A n c] w fun e w' => e = .returned (.agg (By (shaB (tagB (cutN S) ps.flatten))).toArray) ∧ Below w.heap.size w w' := by
  have HT := Lib.hid hT
  have HS := Lib.hid hS
  have Hn := Lib.hid hn
  have Hmax := Lib.hid hmax
  have h2 := hT.size
  have hc2 := cut_cases S
  have qc : ∀ (W : World) (U : ByteArray), (convert 9 28 (.string U)).run Tryd.prog W = .ok (.slice (some ⟨W.heap.size, 0, none⟩) U.size (grownCap W U.size 0 5)) (W.drew.alloc (.cells (bytesRow U (grownCap W U.size 0 5)) 5 ((bytesRow U (grownCap W U.size 0 5)).size, (bytesRow U (grownCap W U.size 0 5)).size + 1))) := fun W U => run_bytes_of_string W 9 28 5 U Tryd.underlying9 Tryd.underlying28 Tryd.underlying5
  clear hT hS hn hmax
  have qz := run_zeroM
  have HZ := Lib.hid (rfl : (MsgC zero8 zero64 0).toArray.size = (MsgC start8 zero64 0).toArray.size)
  have HZ0 := Lib.hid (Tryd.hsizeB (shaB (tagB (cutN S) ps.flatten)) rfl)
  have B0 : Hid (Blk (w.alloc (.cells (By zero32).toArray 24)) w.heap.size 24 (By zero32).toArray) := Blk.newAt rfl rfl
  rcases hc2 with ⟨hs, hcut⟩ | ⟨hs, hcut, hs2⟩
  · rw [hcut] at HZ0 ⊢
    clear hcut
    go_enter Tryd.func29, Tryd.ntmps29
    go_wp2_with (first
      | ((with_reducible show wpList _ _ _ (⟨some 11, _, _, _, _, _⟩ :: _) _ _); refine wpList_load_mid rfl 98 (.global 0) rfl 0 0 rfl (Wd startL) _ (HT.out.alloc _).range Tryd.underlying98 rfl Tryd.w8size ?_)
      | ((with_reducible show wpList _ _ _ (⟨some 12, _, _, _, _, _⟩ :: _) _ _); refine wpList_run rfl _ _ (run_exec_build _ _ rfl _ _ _ _ _ _) ?_)
      | ((with_reducible show wpList _ _ _ (⟨none, .store 101 _ _, _, _, _, _⟩ :: _) _ _); refine wpList_store_all rfl 101 (.tmp 5) (.tmp 12) rfl (w.heap.size + 1) 101 (MsgC zero8 zero64 0).toArray (MsgC start8 zero64 0).toArray rfl rfl (Blk.newAt (by simp) rfl) HZ.out (msize_all _ _ _ rfl) (MsgC_one _ _ _) ?_; intro w3 h5 h6 h7; have B3 := Lib.hid ((B0.out.alloc _).keeps h6 (by omega)); have HM := Lib.hid (msg_start h5); have hs3 : w.heap.size + 2 = w3.heap.size := (by rw [h7]; simp); have Hs3 := Lib.hid hs3; have Hb3 : Hid (Below w.heap.size w w3) := (((Below.refl _ _).alloc (Nat.le_refl _) _).alloc (by simp) _).trans (h6.below (by simp; omega) (fun k hk => by omega)); clear h5 h6 h7 hs3)
      | (go_at_call 43; (with_reducible show Calls _ _ #[_, .slice (some _) 2 2] _ _); refine (put_any _ (HT.out.later (below3 Hb3.out Hb3.out.size _ _ _)) (w.heap.size + 1) (by omega) [] (((HM.out.keeps ((Keeps.refl (fun _ => False) w3).alloc _) (fun h => h)).keeps ((Keeps.refl (fun _ => False) _).alloc _) (fun h => h)).keeps ((Keeps.refl (fun _ => False) _).alloc _) (fun h => h)).drew _ 2 2 [[UInt8.ofNat S.size], nmL S] rfl (tag_sees S S.size rfl (by omega) _ (grownCap_ge _ _ _ _) _ _ _ (by have := Hs3.out; omega)).drew (by simp only [List.flatten_cons, List.flatten_nil, List.length_append, List.length_cons, List.length_nil, nmL_length]; omega) (by omega)).mono ?_; rintro e w4 ⟨rfl, hm4, hk4⟩; have HM4 := Lib.hid hm4; have b4 := (Keeps.of_below (below3 (Below.refl w3.heap.size w3) (Nat.le_refl _) _ _ _) (· = w.heap.size + 1)).trans hk4; have B4 := Lib.hid (B3.out.keeps b4 (by omega)); have Hb4 : Hid (Below w.heap.size w w4) := Hb3.out.trans (b4.below Hb3.out.size (fun k hk => by omega)); clear hm4 hk4 b4)
      | (go_at_call 43; (with_reducible show Calls _ _ #[_, .slice A n c] _ _); refine (put_any _ (HT.out.later Hb4.out) (w.heap.size + 1) (by omega) _ HM4.out A n c ps Hn.out (HS.out.shift Hb4.out (by omega)) (by have := Hmax.out; simp only [List.flatten_cons, List.flatten_nil, List.length_append, List.length_cons, List.length_nil, nmL_length]; omega) hcnt).mono ?_; rintro e w5 ⟨rfl, hm5, hk5⟩; rw [tagB_flat S.size S rfl] at hm5; have HM5 := Lib.hid hm5; have B5 := Lib.hid (B4.out.keeps hk5 (by omega)); have Hb5 : Hid (Below w.heap.size w w5) := Hb4.out.trans (hk5.below Hb4.out.size (fun k hk => by omega)); clear hm5 hk5)
      | (go_at_call 44; refine (end_any _ (HT.out.later Hb5.out) (w.heap.size + 1) (by omega) _ HM5.out (by have := Hmax.out; simp only [tagB, List.length_append, List.length_cons, nmL_length]; omega)).mono ?_; rintro e w6 ⟨rfl, hk6⟩; have B6 := Lib.hid (B5.out.keeps hk6 (by omega)); have Hb6 : Hid (Below w.heap.size w w6) := Hb5.out.trans (hk6.below Hb5.out.size (fun k hk => by omega)); clear hk6)
      | ((with_reducible show wpList _ _ _ (⟨none, .store 24 _ _, _, _, _, _⟩ :: _) _ _); refine wpList_store_all rfl 24 (.tmp 4) (.tmp 23) rfl w.heap.size 24 (By zero32).toArray (By (shaB (tagB S ps.flatten))).toArray rfl rfl B6.out rfl HZ0.out (By_one _) ?_; intro w7 h5 h6 h7; have H5 := Lib.hid h5; have H6 := Lib.hid h6; clear h5 h6 h7))
    refine bodyPost_ret (results_cell_row Tryd.results29 _ _ w.heap.size 24 _ (0, 0) _ rfl H5.out Tryd.underlying24 rfl HZ0.out) rfl ⟨rfl, ?_⟩
    exact Hb6.out.trans (H6.out.below Hb6.out.size (fun k hk => by omega))
  · rw [hcut] at HZ0 ⊢
    clear hcut
    go_enter Tryd.func29, Tryd.ntmps29
    go_wp2_with (first
      | ((with_reducible show wpList _ _ _ (⟨some 11, _, _, _, _, _⟩ :: _) _ _); refine wpList_load_mid rfl 98 (.global 0) rfl 0 0 rfl (Wd startL) _ (HT.out.alloc _).range Tryd.underlying98 rfl Tryd.w8size ?_)
      | ((with_reducible show wpList _ _ _ (⟨some 12, _, _, _, _, _⟩ :: _) _ _); refine wpList_run rfl _ _ (run_exec_build _ _ rfl _ _ _ _ _ _) ?_)
      | ((with_reducible show wpList _ _ _ (⟨none, .store 101 _ _, _, _, _, _⟩ :: _) _ _); refine wpList_store_all rfl 101 (.tmp 5) (.tmp 12) rfl (w.heap.size + 1) 101 (MsgC zero8 zero64 0).toArray (MsgC start8 zero64 0).toArray rfl rfl (Blk.newAt (by simp) rfl) HZ.out (msize_all _ _ _ rfl) (MsgC_one _ _ _) ?_; intro w3 h5 h6 h7; have B3 := Lib.hid ((B0.out.alloc _).keeps h6 (by omega)); have HM := Lib.hid (msg_start h5); have hs3 : w.heap.size + 2 = w3.heap.size := (by rw [h7]; simp); have Hs3 := Lib.hid hs3; have Hb3 : Hid (Below w.heap.size w w3) := (((Below.refl _ _).alloc (Nat.le_refl _) _).alloc (by simp) _).trans (h6.below (by simp; omega) (fun k hk => by omega)); clear h5 h6 h7 hs3)
      | (go_at_call 43; (with_reducible show Calls _ _ #[_, .slice (some _) 2 2] _ _); refine (put_any _ (HT.out.later (below3 Hb3.out Hb3.out.size _ _ _)) (w.heap.size + 1) (by omega) [] (((HM.out.keeps ((Keeps.refl (fun _ => False) w3).alloc _) (fun h => h)).keeps ((Keeps.refl (fun _ => False) _).alloc _) (fun h => h)).keeps ((Keeps.refl (fun _ => False) _).alloc _) (fun h => h)).drew _ 2 2 [[UInt8.ofNat 255], nmL (S.extract 0 255)] rfl (tag_sees (S.extract 0 255) 255 hs2.symm (by omega) _ (grownCap_ge _ _ _ _) _ _ _ (by have := Hs3.out; omega)).drew (by simp only [List.flatten_cons, List.flatten_nil, List.length_append, List.length_cons, List.length_nil, nmL_length]; omega) (by omega)).mono ?_; rintro e w4 ⟨rfl, hm4, hk4⟩; have HM4 := Lib.hid hm4; have b4 := (Keeps.of_below (below3 (Below.refl w3.heap.size w3) (Nat.le_refl _) _ _ _) (· = w.heap.size + 1)).trans hk4; have B4 := Lib.hid (B3.out.keeps b4 (by omega)); have Hb4 : Hid (Below w.heap.size w w4) := Hb3.out.trans (b4.below Hb3.out.size (fun k hk => by omega)); clear hm4 hk4 b4)
      | (go_at_call 43; (with_reducible show Calls _ _ #[_, .slice A n c] _ _); refine (put_any _ (HT.out.later Hb4.out) (w.heap.size + 1) (by omega) _ HM4.out A n c ps Hn.out (HS.out.shift Hb4.out (by omega)) (by have := Hmax.out; simp only [List.flatten_cons, List.flatten_nil, List.length_append, List.length_cons, List.length_nil, nmL_length]; omega) hcnt).mono ?_; rintro e w5 ⟨rfl, hm5, hk5⟩; rw [tagB_flat 255 (S.extract 0 255) hs2.symm] at hm5; have HM5 := Lib.hid hm5; have B5 := Lib.hid (B4.out.keeps hk5 (by omega)); have Hb5 : Hid (Below w.heap.size w w5) := Hb4.out.trans (hk5.below Hb4.out.size (fun k hk => by omega)); clear hm5 hk5)
      | (go_at_call 44; refine (end_any _ (HT.out.later Hb5.out) (w.heap.size + 1) (by omega) _ HM5.out (by have := Hmax.out; simp only [tagB, List.length_append, List.length_cons, nmL_length]; omega)).mono ?_; rintro e w6 ⟨rfl, hk6⟩; have B6 := Lib.hid (B5.out.keeps hk6 (by omega)); have Hb6 : Hid (Below w.heap.size w w6) := Hb5.out.trans (hk6.below Hb5.out.size (fun k hk => by omega)); clear hk6)
      | ((with_reducible show wpList _ _ _ (⟨none, .store 24 _ _, _, _, _, _⟩ :: _) _ _); refine wpList_store_all rfl 24 (.tmp 4) (.tmp 23) rfl w.heap.size 24 (By zero32).toArray (By (shaB (tagB (S.extract 0 255) ps.flatten))).toArray rfl rfl B6.out rfl HZ0.out (By_one _) ?_; intro w7 h5 h6 h7; have H5 := Lib.hid h5; have H6 := Lib.hid h6; clear h5 h6 h7))
    refine bodyPost_ret (results_cell_row Tryd.results29 _ _ w.heap.size 24 _ (0, 0) _ rfl H5.out Tryd.underlying24 rfl HZ0.out) rfl ⟨rfl, ?_⟩
    exact Hb6.out.trans (H6.out.below Hb6.out.size (fun k hk => by omega))

end Go.Proofs.YtpfjkjogljilnaaDoor

namespace Go.Proofs.YtpfjkjogljilnaaDoor
open Go.RowKit

theorem SeesO.sees {w : World} {g : Nat} {A : Option Addr} {l : List UInt8} (h : SeesO w g A l) : Sees w w.heap.size A l := by
  rcases h with h | ⟨b, off, hA, hb, hn, hc⟩
  · exact .inl h
  · exact .inr ⟨b, off, hA, hb, hc⟩
theorem str_By (T : ByteArray) : Lib.strCells T = By (nmL T) := by simp [Lib.strCells, By, nmL]

theorem tagB_cells (T : ByteArray) (k : Nat) (hk : k = T.size) (h : k ≤ 255) (m : List UInt8) : By (tagB T m) = [.int .u8 (k : Int)] ++ Lib.strCells T ++ By m := by
  subst hk
  have e : ((UInt8.ofNat T.size).toNat : Int) = (T.size : Int) := by rw [UInt8.toNat_ofNat']; omega
  rw [str_By, tagB, By_append]
  show (Value.int .u8 ((UInt8.ofNat T.size).toNat : Int)) :: By (nmL T) ++ By m = _
  rw [e]
  rfl
theorem tagB_len (T : ByteArray) (k : Nat) (hk : k = T.size) (m : List UInt8) : (tagB T m).length = 1 + k + m.length := by
  subst hk
  simp only [tagB, List.length_append, List.length_cons, nmL_length]; omega
/-- What Text answers. -/
def TxtPost (w : World) (l : List UInt8) (e : Ending) (w' : World) : Prop := ∃ A c, e = .returned (.slice A l.length c) ∧ Sees w' w'.heap.size A l ∧ Below w.heap.size w w'

end Go.Proofs.YtpfjkjogljilnaaDoor
