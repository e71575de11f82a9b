/-
  disk: DiskNil.
-/
import Derived.Test.YtiagefcjebnopaaDkN
import Derived.Laws.OwnMore
namespace Go.Proofs.Ytiagefcjebnopaa
open Go.RowKit

theorem Try.u8infoD : (Try.prog.info? 5).map (fun i => (i.zero, i.size, i.bytes)) = some (some (.int .u8 0), 1, 1) := by kernel_rfl
theorem long_row (n : Nat) : ∃ L : Array Value, (∀ (w : World), n ≤ 16777217 → (Instr.makeSlice 23 (.int .i64 (n : Int)) (.int .i64 (n : Int))).run Try.prog w = .ok (.slice (some ⟨w.heap.size, 0, none⟩) n n) (w.alloc (.cells L 5))) ∧ L.toList = List.replicate n (.int .u8 0) := by
  obtain ⟨i, hi, hz, hs, hb⟩ : ∃ i, Try.prog.info? 5 = some i ∧ i.zero = some (.int .u8 0) ∧ i.size = 1 ∧ i.bytes = 1 := by
    have h := Try.u8infoD
    cases e : Try.prog.info? 5 with
    | none => rw [e] at h; cases h
    | some i =>
      rw [e] at h
      injection h with h
      injection h with h1 h2
      injection h2 with h2 h3
      exact ⟨i, rfl, h1, h2, h3⟩
  refine ⟨madeCells (Value.int .u8 0).cells n, fun w hn => ?_, toList_madeCells_one _ _⟩
  have h := run_make (P := Try.prog) w 23 5 i _ Try.underlying23 hi hz .i64 .i64 (n : Int) (n : Int) (by omega) (Int.le_refl _) (by rw [hb]; omega) (by omega)
  rw [hs, Int.toNat_natCast, Nat.mul_one] at h
  exact h
theorem long_sees (w : World) (L : Array Value) (n : Nat) (hL : L.toList = List.replicate n (.int .u8 0)) (o k : Nat) (h : o + k ≤ n) : Sees (w.alloc (.cells L 5)) (w.heap.size + 1) (some ⟨w.heap.size, o, none⟩) (zs k) := by
  refine .inr ⟨w.heap.size, o, rfl, by omega, fun i hi => ?_⟩
  rw [zs_len] at hi
  have hb : Blk (w.alloc (.cells L 5)) w.heap.size 5 L := heap_alloc_new w _
  rw [hb.cell, ← Array.getElem?_toList, hL, List.getElem?_replicate, if_pos (by omega)]
  have hx : (zs k)[i]'(by rw [zs_len]; exact hi) = 0 := List.getElem_replicate _
  show _ = some (Value.int .u8 (((zs k)[i]'(by rw [zs_len]; exact hi)).toNat : Int))
  rw [hx]
  rfl
theorem append_len (w : World) (g : Nat) (m : DkM) (h : DkOk w g m) (wf : DkWf m.d) (hW : m.W.length ≤ 1000) (log : Int) (A : Option Addr) (b : List UInt8) (n c : Nat) (hn : b.length = n) (hS : Sees w w.heap.size A b) (hb : n ≤ 100000000) :
    Calls Try.prog 20 #[ptrD g, .int .i64 log, .slice A n c] w (DkPost w g m (appendD m.d log b)) := by
  subst hn
  exact append_any w g m h wf hW log A b c hS hb
theorem sees_apart {W w' : World} {g : Nat} {m' : DkM} (t : DkTo W g newM w' m') {B b off : Nat} {l : List UInt8} (h : Sees W B (some ⟨b, off, none⟩) l) (hb : b ≠ g) (hs : B ≤ W.heap.size) : Sees w' w'.heap.size (some ⟨b, off, none⟩) l :=
  (h.keeps t.k (fun ad had _ hf => by injection had with had; subst had; exact hb (newM_foot g _ hf))).more (Nat.le_trans hs t.k.size)
theorem cell_apart {W w' : World} {g : Nat} {m' : DkM} (t : DkTo W g newM w' m') {b off : Nat} {v : Value} (h : W.cell? ⟨b, off, none⟩ = some v) (hb : b ≠ g) (hs : b < W.heap.size) : w'.cell? ⟨b, off, none⟩ = some v := by
  rw [t.k.cell (p := ⟨b, off, none⟩) hs (fun hf => hb (newM_foot g _ hf))]
  exact h

set_option maxHeartbeats 4000000 in
set_option maxRecDepth 100000 in
theorem diskNil_any (w : World) : Calls Try.prog 5 #[] w fun e w' => e = .returned (.bool true) ∧ Below w.heap.size w w' := by
  obtain ⟨L, hmk, hLl⟩ := long_row 16777217
  have hmk : ∀ W : World, (Instr.makeSlice 23 (.int .i64 16777217) (.int .i64 16777217)).run Try.prog W = .ok (.slice (some ⟨W.heap.size, 0, none⟩) 16777217 16777217) (W.alloc (.cells L 5)) := fun (W : World) => hmk W (Nat.le_refl _)
  have HLl := Lib.hid hLl
  clear hLl
  go_enter Try.func5, Try.ntmps5
  go_upto_region 3 with fail
  generalize hu : Value.agg _ = u10
  generalize hW0 : World.alloc w _ = W0
  clear hu
  obtain ⟨hz0, hsz0, hv0⟩ : W0.cell? ⟨w.heap.size, 0, none⟩ = some (.bool false) ∧ W0.heap.size = w.heap.size + 1 ∧ Below w.heap.size w W0 := by
    rw [← hW0]
    exact ⟨(World.cell?_alloc_mark w _ _ _ 0).trans rfl, by simp, nxAlloc (nxRefl w) _⟩
  clear hW0
  obtain ⟨z, hz⟩ : ∃ z, w.heap.size = z := ⟨_, rfl⟩
  rw [hz] at hz0 hsz0 hv0 ⊢
  have HZ0 := Lib.hid hz0
  have HS0 := Lib.hid hsz0
  have V0 := Lib.hid hv0
  have hzw := Lib.hid hz
  clear hz0 hsz0 hv0 hz
  go_upto_region 9 with (first
    | (go_at_call 8; refine (new_any W0).mono ?_; unfold ptrD; rintro e w1 ⟨g, rfl, hg, hok, hb⟩; have D1 := Lib.hid hok; have HG := Lib.hid hg; have HB1 := Lib.hid hb; (have HZ1 : Hid (w1.cell? ⟨z, 0, none⟩ = some (.bool false)) := cell_later hb HZ0.out); clear hg hok hb)
    | (go_at_call 10; (with_reducible show Calls _ _ #[.pointer none, _] _ _); refine (read_un w1 (.pointer none) _ (isMade_nil w1)).mono ?_; rintro e wn ⟨rfl, hwn⟩; obtain rfl := hwn.symm)
    | (go_at_call 10; (with_reducible show Calls _ _ #[.pointer (some ⟨z, 0, none⟩), _] _ _); refine (read_un w1 (.pointer (some ⟨z, 0, none⟩)) _ (isMade_any w1 z false HZ1.out)).mono ?_; rintro e wn ⟨rfl, hwn⟩; obtain rfl := hwn.symm)
    | (go_at_call 20; (with_reducible show Calls _ _ #[.pointer none, _, _] _ _); refine (append_un w1 (.pointer none) _ _ (isMade_nil w1)).mono ?_; rintro e wn ⟨rfl, hwn⟩; obtain rfl := hwn.symm)
    | (go_at_call 21; (with_reducible show Calls _ _ #[.pointer (some ⟨z, 0, none⟩), _, _] _ _); refine (cut_un w1 (.pointer (some ⟨z, 0, none⟩)) _ _ (isMade_any w1 z false HZ1.out)).mono ?_; rintro e wn ⟨rfl, hwn⟩; obtain rfl := hwn.symm)
    | (go_at_call 22; (with_reducible show Calls _ _ #[.pointer none] _ _); refine (sync_un w1 (.pointer none) (isMade_nil w1)).mono ?_; rintro e wn ⟨rfl, hwn⟩; obtain rfl := hwn.symm)
    | (go_at_call 23; (with_reducible show Calls _ _ #[.pointer (some ⟨z, 0, none⟩), _] _ _); refine (setFuse_un w1 (.pointer (some ⟨z, 0, none⟩)) _ (isMade_any w1 z false HZ1.out)).mono ?_; rintro e wn ⟨rfl, hwn⟩; obtain rfl := hwn.symm)
    | (go_at_call 16; (with_reducible show Calls _ _ #[.pointer none, _, _] _ _); refine (crash_un w1 (.pointer none) _ _ (isMade_nil w1)).mono ?_; rintro e wn ⟨rfl, hwn⟩; obtain rfl := hwn.symm)
    | (go_at_call 24; (with_reducible show Calls _ _ #[.pointer (some ⟨z, 0, none⟩), _, _, _] _ _); refine (edit_un w1 (.pointer (some ⟨z, 0, none⟩)) _ _ _ (isMade_any w1 z false HZ1.out)).mono ?_; rintro e wn ⟨rfl, hwn⟩; obtain rfl := hwn.symm)
    | (go_at_call 15; refine (numD_any _ _).mono ?_; rintro e wn ⟨rfl, hwn⟩; obtain rfl := hwn.symm))
  go_upto_region 10 with fail
  have hS1 := long_sees w1 L 16777217 HLl.out 0 16777217 (by decide)
  have hS2 := long_sees w1 L 16777217 HLl.out 1 16777216 (by decide)
  have hS3 := long_sees w1 L 16777217 HLl.out 0 1 (by decide)
  have hv1 : Below w1.heap.size w1 (w1.alloc (.cells L 5)) := nxAlloc (nxRefl w1) _
  have hy : (w1.alloc (.cells L 5)).heap.size = w1.heap.size + 1 := by simp
  have hgy : g < w1.heap.size := D1.out.foot_lt (.inl rfl)
  have hzy : W0.heap.size ≤ w1.heap.size := HB1.out.size
  rw [← hy] at hS1 hS2 hS3
  obtain ⟨W1, hW1⟩ : ∃ W, w1.alloc (.cells L 5) = W := ⟨_, rfl⟩
  obtain ⟨y, hyy⟩ : ∃ y, w1.heap.size = y := ⟨_, rfl⟩
  obtain ⟨b1, hb1⟩ : ∃ b, zs 16777217 = b := ⟨_, rfl⟩
  obtain ⟨b2, hb2⟩ : ∃ b, zs 16777216 = b := ⟨_, rfl⟩
  have L1 : Hid (b1.length = 16777217) := (by show _ = _; rw [← hb1]; exact zs_len _)
  have L2 : Hid (b2.length = 16777216) := (by show _ = _; rw [← hb2]; exact zs_len _)
  have S3 : Hid (Sees W1 W1.heap.size (some ⟨y, 0, none⟩) [0]) := (by rw [← hW1, ← hyy]; exact hS3)
  rw [hb1, hW1, hyy] at hS1
  rw [hb2, hW1, hyy] at hS2
  have M1 : Hid (DkTo W1 g newM W1 newM) := (by rw [← hW1]; exact DkTo.refl (DkTo.below D1.out hv1).ok)
  have E1 : Hid (newM.d = newD) := newM_d
  have HZw : Hid (W1.cell? ⟨z, 0, none⟩ = some (.bool false)) := (by rw [← hW1]; exact cell_later hv1 HZ1.out)
  rw [hW1] at hv1 hy ⊢
  rw [hyy] at hgy hzy hy ⊢
  have hz1 : W0.heap.size = z + 1 := HS0.out
  have hg0 : W0.heap.size ≤ g := HG.out
  have HLg : Hid (y ≠ g) := Lib.hid (by omega)
  have HZg : Hid (z ≠ g) := Lib.hid (by omega)
  have HZl : Hid (z < W1.heap.size) := Lib.hid (by omega)
  have S1 := Lib.hid hS1
  have S2 := Lib.hid hS2
  have V1 := Lib.hid hv1
  clear hS1 hS2 hS3 hv1 hy hgy hzy hz1 hg0 hb1 hb2 hW1 hyy
  go_upto_region 11 with (first
    | (go_at_call 20; (with_reducible show Calls _ _ _ W1 _); refine (append_len W1 g newM M1.out.ok (by rw [E1.out]; exact newD_wf) (by rw [DkM.wlen, E1.out]; decide) 3 _ b1 16777217 _ L1.out S1.out (by decide)).mono ?_; rw [E1.out, full_1 b1 L1.out]; unfold DkPost; rintro e w2 ⟨rfl, m2, hm2, hd2⟩; have M2 : Hid (DkTo W1 g newM w2 m2) := M1.out.trans hm2; have E2 := Lib.hid hd2; clear hm2 hd2)
    | (go_at_call 20; (with_reducible show Calls _ _ _ w2 _); refine (append_len w2 g m2 M2.out.ok (by rw [E2.out]; exact newD_wf) (by rw [DkM.wlen, E2.out]; decide) 3 _ b2 16777216 _ L2.out (sees_apart M2.out S2.out HLg.out (Nat.le_refl _)) (by decide)).mono ?_; rw [E2.out, full_2 b2 L2.out]; unfold DkPost; rintro e w3 ⟨rfl, m3, hm3, hd3⟩; have M3 : Hid (DkTo W1 g newM w3 m3) := M2.out.trans hm3; have E3 := Lib.hid hd3; clear hm3 hd3)
    | (go_at_call 20; (with_reducible show Calls _ _ _ w3 _); refine (append_len w3 g m3 M3.out.ok (by rw [E3.out]; exact fullD_wf _ L2.out) (by rw [DkM.wlen, E3.out, (full_w _).1]; decide) 3 _ [0] 1 _ rfl (sees_apart M3.out S3.out HLg.out (Nat.le_refl _)) (by decide)).mono ?_; rw [E3.out, full_3 b2 L2.out]; unfold DkPost; rintro e w4 ⟨rfl, m4, hm4, hd4⟩; have M4 : Hid (DkTo W1 g newM w4 m4) := M3.out.trans hm4; have E4 := Lib.hid hd4; clear hm4 hd4)
    | (go_at_call 20; (with_reducible show Calls _ _ _ w4 _); refine (append_len w4 g m4 M4.out.ok (by rw [E4.out]; exact fullD_wf _ L2.out) (by rw [DkM.wlen, E4.out, (full_w _).1]; decide) 3 none [] 0 0 rfl (.inl rfl) (by decide)).mono ?_; rw [E4.out, full_4 b2 L2.out]; unfold DkPost; rintro e w5 ⟨rfl, m5, hm5, hd5⟩; have M5 : Hid (DkTo W1 g newM w5 m5) := M4.out.trans hm5; have E5 := Lib.hid hd5; clear hm5 hd5)
    | (go_at_call 15; refine (numD_any _ _).mono ?_; rintro e wn ⟨rfl, hwn⟩; obtain rfl := hwn.symm))
  go_wp2_with (first
    | (go_at_call 25; (with_reducible show Calls _ _ #[.pointer none, _] _ _); refine (len_un w5 (.pointer none) _ (isMade_nil w5)).mono ?_; rintro e wn ⟨rfl, hwn⟩; obtain rfl := hwn.symm)
    | (go_at_call 13; (with_reducible show Calls _ _ #[.pointer (some ⟨z, 0, none⟩)] _ _); refine (waiting_un w5 (.pointer (some ⟨z, 0, none⟩)) (isMade_any w5 z false (cell_apart M5.out HZw.out HZg.out HZl.out))).mono ?_; rintro e wn ⟨rfl, hwn⟩; obtain rfl := hwn.symm)
    | (go_at_call 14; (with_reducible show Calls _ _ #[.pointer none] _ _); refine (dead_un w5 (.pointer none) (isMade_nil w5)).mono ?_; rintro e wn ⟨rfl, hwn⟩; obtain rfl := hwn.symm)
    | (go_at_call 11; (with_reducible show Calls _ _ #[.pointer none] _ _); refine (copy_un w5 (.pointer none) (isMade_nil w5)).mono ?_; rintro e wn ⟨rfl, hwn⟩; obtain rfl := hwn.symm)
    | (go_at_call 11; (with_reducible show Calls _ _ #[.pointer (some ⟨z, 0, none⟩)] _ _); refine (copy_un w5 (.pointer (some ⟨z, 0, none⟩)) (isMade_any w5 z false (cell_apart M5.out HZw.out HZg.out HZl.out))).mono ?_; rintro e wn ⟨rfl, hwn⟩; obtain rfl := hwn.symm)
    | (go_at_call 12; (with_reducible show Calls _ _ #[.pointer none, .pointer (some ⟨z, 0, none⟩)] _ _); refine (same_un w5 (.pointer none) (.pointer (some ⟨z, 0, none⟩)) false (isMade_nil w5) (isMade_any w5 z false (cell_apart M5.out HZw.out HZg.out HZl.out))).mono ?_; rintro e wn ⟨rfl, hwn⟩; obtain rfl := hwn.symm)
    | (go_at_call 12; (with_reducible show Calls _ _ #[.pointer none, .pointer (some ⟨g, 0, none⟩)] _ _); refine (same_un w5 (.pointer none) (.pointer (some ⟨g, 0, none⟩)) true (isMade_nil w5) (isMade_any w5 g true M5.out.ok.made)).mono ?_; rintro e wn ⟨rfl, hwn⟩; obtain rfl := hwn.symm)
    | (go_at_call 20; (with_reducible show Calls _ _ _ w5 _); refine (append_len w5 g m5 M5.out.ok (by rw [E5.out]; exact fullE_wf _ L2.out) (by rw [DkM.wlen, E5.out, (full_w _).2]; decide) 16 none [] 0 0 rfl (.inl rfl) (by decide)).mono ?_; rw [E5.out, full_5 b2]; unfold DkPost; rintro e w6 ⟨rfl, m6, hm6, hd6⟩; have M6 : Hid (DkTo W1 g newM w6 m6) := M5.out.trans hm6; have E6 := Lib.hid hd6; clear hm6 hd6)
    | (go_at_call 21; (with_reducible show Calls _ _ _ w6 _); refine (cutStep_any w6 g m6 M6.out.ok (by rw [E6.out]; exact fullE_wf _ L2.out) (by rw [DkM.wlen, E6.out, (full_w _).2]; decide) 0 1).mono ?_; rw [E6.out, full_6 b2]; unfold DkPost; rintro e w7 ⟨rfl, m7, hm7, hd7⟩; have M7 : Hid (DkTo W1 g newM w7 m7) := M6.out.trans hm7; have E7 := Lib.hid hd7; clear hm7 hd7)
    | (go_at_call 23; (with_reducible show Calls _ _ _ w7 _); refine (setFuse_any w7 g m7 M7.out.ok (-1)).mono ?_; rw [E7.out, full_7 b2]; unfold DkPost; rintro e w8 ⟨rfl, m8, hm8, hd8⟩; have M8 : Hid (DkTo W1 g newM w8 m8) := M7.out.trans hm8; have E8 := Lib.hid hd8; clear hm8 hd8)
    | (go_at_call 24; (with_reducible show Calls _ _ _ w8 _); refine (edit_any w8 g m8 M8.out.ok (by rw [E8.out]; exact fullE_wf _ L2.out) (by rw [DkM.wlen, E8.out, (full_w _).2]; decide) 0 0 1).mono ?_; rw [E8.out, full_8 b2]; unfold DkPost; rintro e w9 ⟨rfl, m9, hm9, hd9⟩; have M9 : Hid (DkTo W1 g newM w9 m9) := M8.out.trans hm9; have E9 := Lib.hid hd9; clear hm9 hd9)
    | (go_at_call 7; refine (knownD_any w9).mono ?_; rintro e wk ⟨rfl, hbk⟩; have VK := Lib.hid hbk; clear hbk)
    | (go_at_call 15; refine (numD_any _ _).mono ?_; rintro e wn ⟨rfl, hwn⟩; obtain rfl := hwn.symm))
  go_ret
  have k1 : Below w.heap.size w w1 := nxTrD (by rw [hzw.out]; exact V0.out) HB1.out
  have k2 := nxTrD k1 V1.out
  have k3 : Below w.heap.size w w9 := k2.trans (M9.out.k.below k2.size (fun j hj hf => by have := newM_foot g _ hf; have := HG.out; have := HS0.out; have := hzw.out; omega))
  exact ⟨rfl, nxTrD k3 VK.out⟩
end Go.Proofs.Ytiagefcjebnopaa
