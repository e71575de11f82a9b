/-
  The document's text under a name, its Tag.
-/
import Derived.Test.YthamlphebnhcpaaDoorRSum
import Derived.Test.YthamlphebnhcpaaDoorTag
import Derived.Lib.AppendStr
namespace Go.Proofs.YthamlphebnhcpaaDoor
open Go.RowKit

theorem SeesO.sees {w : World} {g : Nat} {A : Option Addr} {l : List UInt8} (h : SeesO w g A l) : Sees w w.heap.size A l := by
  rcases h with h | ⟨b, off, hA, hb, hn, hc⟩
  · exact .inl h
  · exact .inr ⟨b, off, hA, hb, hc⟩
theorem str_By (T : ByteArray) : Lib.strCells T = By (nmL T) := by simp [Lib.strCells, By, nmL]

theorem tagB_cells (T : ByteArray) (k : Nat) (hk : k = T.size) (h : k ≤ 255) (m : List UInt8) : By (tagB T m) = [.int .u8 (k : Int)] ++ Lib.strCells T ++ By m := by
  subst hk
  have e : ((UInt8.ofNat T.size).toNat : Int) = (T.size : Int) := by rw [UInt8.toNat_ofNat']; omega
  rw [str_By, tagB, By_append]
  show (Value.int .u8 ((UInt8.ofNat T.size).toNat : Int)) :: By (nmL T) ++ By m = _
  rw [e]
  rfl
theorem tagB_len (T : ByteArray) (k : Nat) (hk : k = T.size) (m : List UInt8) : (tagB T m).length = 1 + k + m.length := by
  subst hk
  simp only [tagB, List.length_append, List.length_cons, nmL_length]; omega
/-- What Text answers. -/
def TxtPost (w : World) (l : List UInt8) (e : Ending) (w' : World) : Prop := ∃ A c, e = .returned (.slice A l.length c) ∧ Sees w' w'.heap.size A l ∧ Below w.heap.size w w'

set_option maxHeartbeats 1000000 in
set_option maxRecDepth 100000 in
theorem text_any (w : World) (S : ByteArray) (A : Option Addr) (n c : Nat) (m : List UInt8) (hn : n = m.length) (hS : Sees w w.heap.size A m) (hmax : n ≤ 1048000) (hsz : S.size ≤ 1125899906842624) :
    Calls Tryd.prog 82 #[.string S, .slice A n c] w (TxtPost w (tagB (cutN S) m)) := by
  subst hn
  have HS := Lib.hid hS
  clear hS
  have hc2 := cut_cases S
  obtain ⟨i0, hi, hz0, hz1, hz2⟩ := info_parts Tryd.u8info
  rcases hc2 with ⟨hs, hcut⟩ | ⟨hs, hcut, hs2⟩
  · rw [hcut]
    clear hcut
    have HL := Lib.hid (tagB_cells S S.size rfl (by omega) m)
    have HLn := Lib.hid (tagB_len S S.size rfl m)
    go_enter Tryd.func82, Tryd.ntmps82
    go_wp2_with (first
      | ((with_reducible show wpList _ _ _ (⟨some 15, _, _, _, _, _⟩ :: _) _ _); refine Lib.wpList_append_own_string _ rfl (.tmp 13) (.tmp 14) 39 9 rfl w.heap.size 5 i0 Tryd.underlying39 Tryd.underlying9 hi hz0 hz1 hz2 (.slice (some ⟨w.heap.size, 0, none⟩) 1 1) 1 [.int .u8 (S.size : Int)] rfl (World.ownsRow_lit w #[.int .u8 (S.size : Int)] 1 (Nat.le_refl _) (by simp only [maxLen]; omega) rfl) S rfl (by simp only [maxLen]; omega) (by omega) (by simp) ?_; intro v1 w1 ho1 hg1 hat1; obtain ⟨A1, c1, rfl⟩ := own_form ho1; have HO1 := Lib.hid ho1; have Hb1 : Hid (Below w.heap.size w w1) := (((Below.refl _ _).alloc (Nat.le_refl _) _).grown hg1 (by simp) (fun j hj => by cases hj; exact Nat.le_refl _)); clear ho1 hg1 hat1)
      | ((with_reducible show wpList _ _ _ (⟨some 17, _, _, _, _, _⟩ :: _) _ _); refine wpList_append_sees rfl (.tmp 15) (.tmp 16) 39 rfl w.heap.size 5 i0 (.int .u8 0) Tryd.underlying39 hi hz0 hz1 hz2 rfl (.slice A1 (1 + S.size) c1) (1 + S.size) ([.int .u8 (S.size : Int)] ++ Lib.strCells S) rfl HO1.out w.heap.size A m.length c m rfl rfl (HS.out.below Hb1.out) (by omega) Hb1.out.size ?_; intro v2 w2 ho2 hg2 hat2; obtain ⟨A2, c2, rfl⟩ := own_form ho2; have ho3 : w2.ownsRow w.heap.size 5 1 (.slice A2 (tagB S m).length c2) (tagB S m).length (By (tagB S m)) := (by rw [HL.out, HLn.out]; exact ho2); have HO2 := Lib.hid ho3; have Hb2 : Hid (Below w.heap.size w w2) := (Hb1.out.grown hg2 Hb1.out.size (fun j hj => (HO1.out.lt j hj).1)); clear ho2 ho3 hg2 hat2))
    go_ret
    exact ⟨A2, c2, by rw [HLn.out]; rfl, Sees.own HO2.out, Hb2.out⟩
  · rw [hcut]
    clear hcut
    have HL := Lib.hid (tagB_cells (S.extract 0 255) 255 hs2.symm (by omega) m)
    have HLn := Lib.hid (tagB_len (S.extract 0 255) 255 hs2.symm m)
    go_enter Tryd.func82, Tryd.ntmps82
    go_wp2_with (first
      | ((with_reducible show wpList _ _ _ (⟨some 15, _, _, _, _, _⟩ :: _) _ _); refine Lib.wpList_append_own_string _ rfl (.tmp 13) (.tmp 14) 39 9 rfl w.heap.size 5 i0 Tryd.underlying39 Tryd.underlying9 hi hz0 hz1 hz2 (.slice (some ⟨w.heap.size, 0, none⟩) 1 1) 1 [.int .u8 (255 : Int)] rfl (World.ownsRow_lit w #[.int .u8 (255 : Int)] 1 (Nat.le_refl _) (by simp only [maxLen]; omega) rfl) (S.extract 0 255) rfl (by simp only [maxLen]; omega) (by omega) (by simp) ?_; intro v1 w1 ho1 hg1 hat1; rw [hs2] at ho1; obtain ⟨A1, c1, rfl⟩ := own_form ho1; have HO1 := Lib.hid ho1; have Hb1 : Hid (Below w.heap.size w w1) := (((Below.refl _ _).alloc (Nat.le_refl _) _).grown hg1 (by simp) (fun j hj => by cases hj; exact Nat.le_refl _)); clear ho1 hg1 hat1)
      | ((with_reducible show wpList _ _ _ (⟨some 17, _, _, _, _, _⟩ :: _) _ _); refine wpList_append_sees rfl (.tmp 15) (.tmp 16) 39 rfl w.heap.size 5 i0 (.int .u8 0) Tryd.underlying39 hi hz0 hz1 hz2 rfl (.slice A1 (1 + 255) c1) (1 + 255) ([.int .u8 (255 : Int)] ++ Lib.strCells (S.extract 0 255)) rfl HO1.out w.heap.size A m.length c m rfl rfl (HS.out.below Hb1.out) (by omega) Hb1.out.size ?_; intro v2 w2 ho2 hg2 hat2; obtain ⟨A2, c2, rfl⟩ := own_form ho2; have ho3 : w2.ownsRow w.heap.size 5 1 (.slice A2 (tagB (S.extract 0 255) m).length c2) (tagB (S.extract 0 255) m).length (By (tagB (S.extract 0 255) m)) := (by rw [HL.out, HLn.out]; exact ho2); have HO2 := Lib.hid ho3; have Hb2 : Hid (Below w.heap.size w w2) := (Hb1.out.grown hg2 Hb1.out.size (fun j hj => (HO1.out.lt j hj).1)); clear ho2 ho3 hg2 hat2))
    go_ret
    exact ⟨A2, c2, by rw [HLn.out]; rfl, Sees.own HO2.out, Hb2.out⟩

set_option maxHeartbeats 1000000 in
set_option maxRecDepth 100000 in
theorem rtag_any (w : World) (S : ByteArray) (A : Option Addr) (n c : Nat) (m : List UInt8) (hn : n = m.length) (hS : Sees w w.heap.size A m) (hmax : n ≤ 1048000) (hsz : S.size ≤ 1125899906842624) :
    Calls Tryd.prog 70 #[.string S, .slice A n c] w fun e w' => e = .returned (.agg (By (shaB (tagB (cutN S) m))).toArray) ∧ Below w.heap.size w w' := by
  have HS : Hid (Sees (w.alloc (.cells (By zero32).toArray 107)) (w.alloc (.cells (By zero32).toArray 107)).heap.size A m) := (hS.alloc _).size
  have Hn := Lib.hid hn
  have HL : Hid ((tagB (cutN S) m).length ≤ 1048576) := by
    show _ ≤ _
    rw [tagB_len _ _ rfl, cutN_size]
    omega
  have B0 : Hid (Blk (w.alloc (.cells (By zero32).toArray 107)) w.heap.size 107 (By zero32).toArray) := Blk.newAt rfl rfl
  clear hS hn
  generalize hl : tagB (cutN S) m = l at *
  have Hl := Lib.hid hl
  clear hl
  have HZ0 := Lib.hid (Tryd.hsizeB (shaB l) rfl)
  go_enter Tryd.func70, Tryd.ntmps70
  go_wp2_with (first
    | (go_at_call 82; refine (text_any _ S A n c m Hn.out HS.out hmax hsz).mono ?_; rw [Hl.out]; rintro e w1 ⟨A1, c1, rfl, hs1, hb1⟩; have HS1 := Lib.hid hs1; have B1 := Lib.hid (B0.out.below hb1 (by simp)); have Hb1 : Hid (Below w.heap.size w w1) := ((Below.refl _ _).alloc (Nat.le_refl _) _).trans (hb1.mono (by simp)); clear hs1 hb1)
    | (go_at_call 81; refine (rsum_any _ A1 _ c1 l rfl HS1.out HL.out).mono ?_; rintro e w2 ⟨rfl, hb2⟩; have B2 := Lib.hid (B1.out.below hb2 B1.out.lt); have Hb2 := Lib.hid (Hb1.out.trans (hb2.mono Hb1.out.size)); clear hb2)
    | ((with_reducible show wpList _ _ _ (⟨none, .store 107 _ _, _, _, _, _⟩ :: _) _ _); refine wpList_store_all rfl 107 (.tmp 4) (.tmp 8) rfl w.heap.size 107 (By zero32).toArray (By (shaB l)).toArray rfl rfl B2.out rfl HZ0.out (By_one _) ?_; intro w7 h5 h6 h7; have H5 := Lib.hid h5; have H6 := Lib.hid h6; clear h5 h6 h7))
  refine bodyPost_ret (results_cell_row Tryd.results70 _ _ w.heap.size 107 _ (0, 0) _ rfl H5.out Tryd.underlying107 rfl HZ0.out) rfl ⟨rfl, ?_⟩
  exact Hb2.out.trans (H6.out.below Hb2.out.size (fun k hk => by omega))

end Go.Proofs.YthamlphebnhcpaaDoor
