/-
  The words of a block, of the program.
-/
import Derived.Test.YtpfjkjogljilnaaDoorSha
import Derived.Test.YtpfjkjogljilnaaDoorCopy
import Derived.BigQuiet
import Derived.Deep.QuietTactic
import Derived.Deep.RegionLaw
namespace Go.Proofs.YtpfjkjogljilnaaDoor
open Go.RowKit

theorem Blk.new (w : World) (t : TypeId) (cs : Array Value) : Blk (w.alloc (.cells cs t)) w.heap.size t cs := heap_alloc_new w _
theorem Blk.newAt {w : World} {t : TypeId} {cs cs' : Array Value} {g : Nat} (hg : g = w.heap.size) (hc : cs = cs') : Blk (w.alloc (.cells cs t)) g t cs' := by
  subst hg hc; exact heap_alloc_new w _
/-- An array of 64 words of which the first are set. -/
def wArr (l : List W32) : Array Value := (Wd (l ++ List.replicate (64 - l.length) 0)).toArray
theorem wArr_set (l : List W32) (h : l.length < 64) (x : W32) : (wArr l).setIfInBounds l.length (.int .u32 (x.toNat : Int)) = wArr (l ++ [x]) := by
  have e : 64 - l.length = (64 - (l ++ [x]).length) + 1 := by simp; omega
  unfold wArr
  rw [e, List.replicate_succ]
  simp only [List.setIfInBounds_toArray, Wd_append]
  congr 1
  rw [List.set_append_right _ _ (by rw [Wd_length]; exact Nat.le_refl _), Wd_length, Nat.sub_self]
  simp [Wd]
theorem wArr_get (l : List W32) (i : Nat) (h : i < l.length) : (wArr l)[i]? = some (.int .u32 ((l.getD i 0).toNat : Int)) := by
  unfold wArr
  rw [List.getElem?_toArray, Wd_append, List.getElem?_append_left (by rw [Wd_length]; exact h), Wd_get _ _ h]
  simp [h]
theorem wArr_some (l : List W32) (i : Nat) (h : l.length ≤ 64) (hi : i < 64) : ∃ q : Int, (wArr l)[i]? = some (.int .u32 q) := by
  unfold wArr
  have : i < (l ++ List.replicate (64 - l.length) 0).length := by simp; omega
  exact ⟨_, by rw [List.getElem?_toArray, Wd_get _ _ this]⟩
theorem wArr_full (l : List W32) (h : l.length = 64) : wArr l = (Wd l).toArray := by simp [wArr, h]
theorem Tryd.w64size : (Tryd.prog.info? 129).map (·.size) = some 64 := by kernel_rfl
theorem wordAt_eq (b : List UInt8) (h : b.length = 64) (t : Nat) (ht : t < 16) : wordAt b t = BitVec.ofNat 32 (b[4 * t].toNat * 16777216 + b[4 * t + 1].toNat * 65536 + b[4 * t + 2].toNat * 256 + b[4 * t + 3].toNat) := by
  have h0 : 4 * t < b.length := by omega
  have h1 : 4 * t + 1 < b.length := by omega
  have h2 : 4 * t + 2 < b.length := by omega
  have h3 : 4 * t + 3 < b.length := by omega
  simp [wordAt, h0, h1, h2, h3]
theorem blk_byte {w : World} {g : Nat} {t : TypeId} {l : List UInt8} (hb : Blk w g t (By l).toArray) (i : Nat) (h : i < l.length) : w.cell? ⟨g, i, none⟩ = some (.int .u8 (l[i].toNat : Int)) := by
  rw [hb.cell i]; simp [By, h]

set_option maxHeartbeats 4000000 in
set_option maxRecDepth 100000 in
theorem spread_l (w : World) (blk : List UInt8) (hb : blk.length = 64) (L : List W32) (hL : L = spr blk 64) :
    Calls Tryd.prog 77 #[.agg (By blk).toArray] w fun e w' => e = .returned (.agg (Wd L).toArray) ∧ Below w.heap.size w w' := by
  have HL := Lib.hid hL
  clear hL
  go_enter Tryd.func77, Tryd.ntmps77
  go_wp2
  have HZ := Lib.hid Tryd.w64size
  go_loopw [7] (fun i wr => ∃ k : Nat, k ≤ 64 ∧ i = .int .i64 k ∧ Hid (Blk wr (w.heap.size + 1 + 1) 129 (wArr (spr blk k))) ∧ Hid (Blk wr w.heap.size 99 (By blk).toArray) ∧ Hid (Blk wr (w.heap.size + 1) 129 (wArr [])) ∧ Hid (Below w.heap.size w wr)) (fun i _ => 64 - (intOf i).toNat)
  case atStart => exact ⟨0, by omega, rfl, Blk.newAt (by simp) rfl, ((Blk.newAt rfl rfl).alloc _).alloc _, (Blk.newAt (by simp) rfl).alloc _, (((Below.refl _ _).alloc (Nat.le_refl _) _).alloc (by simp) _).alloc (by simp; omega) _⟩
  case round =>
    obtain ⟨k, hk, rfl, HW, HB, HR, Hbel⟩ := hrel
    by_cases hlt : k < 64
    · by_cases h16 : k < 16
      · have c0 := blk_byte HB.out (4 * k) (by omega)
        have c1 := blk_byte HB.out (4 * k + 1) (by omega)
        have c2 := blk_byte HB.out (4 * k + 2) (by omega)
        have c3 := blk_byte HB.out (4 * k + 3) (by omega)
        obtain ⟨q, hq⟩ := wArr_some (spr blk k) k (by rw [spr_length]; omega) hlt
        have c4 := (HW.out.cell k).trans hq
        have c5 := HW.out.frozen k
        clear hq
        have HX : Hid (spr blk (k + 1) = spr blk k ++ [wordAt blk k]) := by show _ = _; rw [spr, sprStep, if_pos h16]
        have HJ := Lib.hid (join4 blk[4 * k].toNat blk[4 * k + 1].toNat blk[4 * k + 2].toNat blk[4 * k + 3].toNat (UInt8.toNat_lt _) (UInt8.toNat_lt _) (UInt8.toNat_lt _) (UInt8.toNat_lt _))
        have HWA := Lib.hid (wordAt_eq blk hb k h16)
        go_wp2
        go_region
        all_goals
          rw [HJ.out, ← HWA.out]
          go_wp2
          go_roundw
          case rel =>
            refine ⟨k + 1, by omega, by go_num, ?_, HB.out.far (by dsimp only; omega) _, HR.out.far (by dsimp only; omega) _, (Hbel.out.setCell (p := ⟨w.heap.size + 1 + 1, k, none⟩) (by dsimp only; omega) _).drew⟩
            show Blk _ _ _ _
            rw [HX.out, ← wArr_set _ (by rw [spr_length]; exact hlt), spr_length]
            exact HW.out.set k _
          case measure => simp [intOf]; omega
      · have d0 := (HW.out.cell (k - 16)).trans (wArr_get (spr blk k) (k - 16) (by rw [spr_length]; omega))
        have d1 := (HW.out.cell (k - 15)).trans (wArr_get (spr blk k) (k - 15) (by rw [spr_length]; omega))
        have d2 := (HW.out.cell (k - 7)).trans (wArr_get (spr blk k) (k - 7) (by rw [spr_length]; omega))
        have d3 := (HW.out.cell (k - 2)).trans (wArr_get (spr blk k) (k - 2) (by rw [spr_length]; omega))
        obtain ⟨q, hq⟩ := wArr_some (spr blk k) k (by rw [spr_length]; omega) hlt
        have c4 := (HW.out.cell k).trans hq
        have c5 := HW.out.frozen k
        clear hq
        generalize hx0 : (spr blk k).getD (k - 16) 0 = x0 at d0
        generalize hx1 : (spr blk k).getD (k - 15) 0 = x1 at d1
        generalize hx2 : (spr blk k).getD (k - 7) 0 = x2 at d2
        generalize hx3 : (spr blk k).getD (k - 2) 0 = x3 at d3
        have HX : Hid (spr blk (k + 1) = spr blk k ++ [x0 + ss0 x1 + x2 + ss1 x3]) := by show _ = _; rw [spr, sprStep, if_neg h16, hx0, hx1, hx2, hx3]
        clear hx0 hx1 hx2 hx3
        go_wp2
        go_quiet (first
          | (go_at_call 82; (with_reducible show Calls _ _ #[_, .int .i64 7] _ _); refine Calls.quiet_of_same (right_any _ x1 7 (by omega) (by omega)))
          | (go_at_call 82; (with_reducible show Calls _ _ #[_, .int .i64 18] _ _); refine Calls.quiet_of_same (right_any _ x1 18 (by omega) (by omega))))
        go_wp2
        have e0 : (wr.drewN nq).cell? _ = _ := d0
        have e1 : (wr.drewN nq).cell? _ = _ := d1
        have e2 : (wr.drewN nq).cell? _ = _ := d2
        have e3 : (wr.drewN nq).cell? _ = _ := d3
        have e4 : (wr.drewN nq).cell? _ = _ := c4
        have e5 : (wr.drewN nq).frozen? _ = _ := c5
        have HW1 : Hid (Blk (wr.drewN nq) _ _ _) := HW.out
        have HB1 : Hid (Blk (wr.drewN nq) _ _ _) := HB.out
        have HR1 : Hid (Blk (wr.drewN nq) _ _ _) := HR.out
        have Hbel1 : Hid (Below w.heap.size w (wr.drewN nq)) := ⟨Hbel.out.os, Hbel.out.tape, Hbel.out.output, Hbel.out.size, Hbel.out.block⟩
        clear d0 d1 d2 d3 c4 c5 HW HB HR Hbel
        generalize wr.drewN nq = w1 at *
        go_quiet (first
          | (go_at_call 82; (with_reducible show Calls _ _ #[_, .int .i64 17] _ _); refine Calls.quiet_of_same (right_any _ x3 17 (by omega) (by omega)))
          | (go_at_call 82; (with_reducible show Calls _ _ #[_, .int .i64 19] _ _); refine Calls.quiet_of_same (right_any _ x3 19 (by omega) (by omega))))
        go_wp2
        go_region
        all_goals
          go_wp2
          go_roundw
          case rel =>
            rw [shr3_bv, shr10_bv, xor_bv, xor_bv, xor_bv, xor_bv, add4_bm]
            refine ⟨k + 1, by omega, by go_num, ?_, (show Blk (w1.drewN (nq + 1)) _ _ _ from HB1.out).far (by dsimp only; omega) _, (show Blk (w1.drewN (nq + 1)) _ _ _ from HR1.out).far (by dsimp only; omega) _, (show Below w.heap.size w (w1.drewN (nq + 1)) from ⟨Hbel1.out.os, Hbel1.out.tape, Hbel1.out.output, Hbel1.out.size, Hbel1.out.block⟩).setCell (by dsimp only; omega) _⟩
            show Blk _ _ _ _
            rw [HX.out, ← wArr_set _ (by rw [spr_length]; exact hlt), spr_length]
            exact (show Blk (w1.drewN (nq + 1)) _ _ _ from HW1.out).set k _
          case measure => simp [intOf]; omega
    · obtain rfl : k = 64 := by omega
      have hL : L.length = 64 := by rw [HL.out, spr_length]
      have HS : Hid ((Tryd.prog.info? 129).map (·.size) = some (Wd L).toArray.size) := by show _ = _; rw [HZ.out, List.size_toArray, Wd_length, hL]
      have HS' : Hid ((wArr []).size = (Wd L).toArray.size) := by show _ = _; simp [wArr, Wd_length, hL]
      have HW' : Hid (Blk wr (w.heap.size + 1 + 1) 129 (Wd L).toArray) := by
        have := HW.out
        rw [← HL.out, wArr_full _ hL] at this
        exact this
      clear HW hL HL
      go_wp2_with (first
        | ((with_reducible show wpList _ _ _ (⟨some 93, _, _, _, _, _⟩ :: _) _ _); refine wpList_load_row rfl 129 (.tmp 3) rfl (w.heap.size + 1 + 1) rfl 129 (Wd L).toArray (0, 0) _ HW'.out Tryd.underlying129 rfl HS.out ?_)
        | ((with_reducible show wpList _ _ _ (⟨none, _, _, _, _, _⟩ :: _) _ _); refine wpList_store_all rfl 129 (.tmp 2) (.tmp 93) rfl (w.heap.size + 1) 129 (wArr []) (Wd L).toArray rfl rfl HR.out HS'.out HS.out (Wd_one L) ?_; intro w3 h5 h6 h7; have H5 := Lib.hid h5; have H6 := Lib.hid h6; clear h5 h6 h7))
      refine bodyPost_ret (results_cell_row Tryd.results77 _ _ (w.heap.size + 1) 129 _ (0, 0) _ rfl H5.out Tryd.underlying129 rfl HS.out) rfl ⟨rfl, ?_⟩
      exact Hbel.out.trans (H6.out.below Hbel.out.size (fun k hk => by omega))

end Go.Proofs.YtpfjkjogljilnaaDoor
