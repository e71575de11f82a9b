/-
  ShaTables: the walks of pow and fits.
-/
import Derived.Test.YtbfahmpppkjpbaaDoorTab2
import Derived.Deep.RegionHeldLaw
import Derived.Deep.DeepCutAuto
namespace Go.Proofs.YtbfahmpppkjpbaaDoor
open Go.RowKit

theorem cmpL_eq (x y : List Nat) (j : Nat) (h : x.getD j 0 = y.getD j 0) : cmpL x y (j + 1) = cmpL x y j := by rw [cmpL, if_pos h]
theorem cmpL_ne (x y : List Nat) (j : Nat) (h : ¬ x.getD j 0 = y.getD j 0) : cmpL x y (j + 1) = decide (x.getD j 0 < y.getD j 0) := by rw [cmpL, if_neg h]
set_option maxHeartbeats 4000000 in
set_option maxRecDepth 100000 in
theorem pow_any (w : World) (A : Option Addr) (n c : Nat) (d : List Nat) (hn : n = d.length) (hA : SeesV w w.heap.size A (Us d)) (hd : d.length ≤ 100) (power : Nat) (hp1 : 1 ≤ power) (hp3 : power ≤ 3)
    (shift : Int) (k : Nat) (hk : shift = 0 ∧ k = 0 ∨ shift = 64 ∧ k = 4 ∨ shift = 96 ∧ k = 6) (p : Nat) (hp : p < 18446744073709551616) :
    Calls Tryd.prog 38 #[.slice A n c, .int .i64 (power : Int), .int .i64 shift, .int .u64 (p : Int)] w fun e w' => e = .returned (.bool (powL d power k p)) ∧ Below w.heap.size w w' := by
  subst hn
  have HA := Lib.hid hA
  have HP := Lib.hid hp
  clear hA hp
  have hk6 : k ≤ 6 := by omega
  have e1 : Int.tdiv shift 16 = (k : Int) := by rcases hk with ⟨rfl, rfl⟩ | ⟨rfl, rfl⟩ | ⟨rfl, rfl⟩ <;> rfl
  have e2 : IntKind.i64.wrap (k : Int) = (k : Int) := by rw [IntKind.wrap_i64]; omega
  clear hk
  have qmk : ∀ wq : World, (Instr.makeSlice 32 (.int .i64 (k : Int)) (.int .i64 (k : Int))).run Tryd.prog wq = .ok (.slice (some ⟨wq.heap.size, 0, none⟩) k k) (wq.alloc (.cells (Us (List.replicate k 0)).toArray 31)) := by
    intro wq
    rw [run_make_row' 32 31 (.int .u64 0) 8 Tryd.underlying32 Tryd.u64info rfl .i64 .i64 k (by omega) (by omega) wq, made_us]
  obtain ⟨i0, hi, hz0, hz1, hz2⟩ := info_parts Tryd.u64info
  go_enter Tryd.func38, Tryd.ntmps38
  go_wp2
  go_loopw [9, 10] (fun xv iv wr => ∃ (j : Nat) (X : Option Addr) (cx : Nat), j + 1 ≤ power ∧ iv = .int .i64 ((j : Int) + 1) ∧ xv = .slice X (xpL d j).length cx ∧ Hid (SeesV wr wr.heap.size X (Us (xpL d j))) ∧ Hid (Below w.heap.size w wr)) (fun _ iv _ => power - (intOf iv).toNat)
  case atStart => exact ⟨0, A, c, by omega, rfl, rfl, HA.out, Below.refl _ _⟩
  case round =>
    obtain ⟨j, X, cx, hj, rfl, rfl, HX, Hb⟩ := hrel
    by_cases hlt : j + 1 < power
    · have hxl := xpL_len d j
      have hxl2 : (xpL d j).length ≤ 1000 := by
        have : j ≤ 2 := by omega
        have : j * (d.length + 1) ≤ 2 * (d.length + 1) := Nat.mul_le_mul_right _ this
        omega
      clear hxl
      have HE : Hid (timesL (xpL d j) d = xpL d (j + 1)) := rfl
      generalize xpL d j = x at *
      go_wp2_with (go_at_call 65; refine (times_any _ X A cx c x d HX.out ((HA.out.below Hb.out).more Hb.out.size) hxl2 (by omega)).mono ?_; rintro e w2 ⟨A2, c2, rfl, hs2, hb2⟩; rw [HE.out] at hs2; have HX2 := Lib.hid hs2; have Hb2 : Hid (Below w.heap.size w w2) := Hb.out.trans (hb2.mono Hb.out.size); clear hs2 hb2; rw [HE.out])
      go_roundw
      case rel => exact ⟨j + 1, A2, c2, by omega, by go_num, rfl, HX2.out, Hb2.out⟩
      case measure => simp [intOf]; omega
    · obtain rfl : power = j + 1 := by omega
      have hdl := digL_len 4 p
      have HD : Hid (List.replicate k 0 ++ digL 4 p = List.replicate k 0 ++ digL 4 p) := rfl
      have hxl := xpL_len d j
      have hxl2 : (xpL d j).length ≤ 1000 := by
        have : j ≤ 2 := by omega
        have : j * (d.length + 1) ≤ 2 * (d.length + 1) := Nat.mul_le_mul_right _ this
        omega
      clear hxl
      have HE : Hid (powL d (j + 1) k p = cmpL (xpL d j) (List.replicate k 0 ++ digL 4 p) (max (xpL d j).length (List.replicate k 0 ++ digL 4 p).length)) := rfl
      generalize xpL d j = x at *
      generalize hg : digL 4 p = D at *
      have HG := Lib.hid hg
      clear hg
      obtain ⟨Y, hY⟩ : ∃ Y, List.replicate k 0 ++ D = Y := ⟨_, rfl⟩
      have hYl : Y.length = k + D.length := by rw [← hY]; simp
      rw [hY] at HE
      have HY := Lib.hid hY
      have HYl := Lib.hid hYl
      have hYb : Y.length ≤ 1000 := by omega
      clear HD hY hYl
      go_upto_region 6 with (fail)
      go_cut [11] (fun yv wx => ∃ (A3 : Option Addr) (c3 : Nat), yv = .slice A3 Y.length c3 ∧ Hid (SeesV wx wx.heap.size A3 (Us Y)) ∧ Hid (Below wr.heap.size wr wx))
      case first =>
        go_region_held_law (fun _ => True) (exact True.intro) (first
          | (go_at_call 39; (with_reducible show Calls _ _ _ (World.drew (World.alloc wr _)) _); refine (digits_any _ p HP.out).mono ?_; rw [HG.out]; rintro e w2 ⟨A2, c2, rfl, hs2, hb2⟩; have Hr2 : Hid (Below wr.heap.size wr w2) := nxTo (nxAlloc (nxRefl wr) _).drew hb2; have ho2 := own_made (w := w2) (base := wr.heap.size) (g := wr.heap.size) (e := 31) (n := k) (c := k) (size := 1) (cs := Us (List.replicate k 0)) ((show Blk (wr.alloc _).drew wr.heap.size 31 _ from heap_alloc_new wr _).below hb2 (show wr.heap.size < (wr.alloc _).heap.size by simp)) (Nat.le_refl _) (Nat.le_refl _) (by simp only [maxLen]; omega) (by rw [Us_length]; simp); rw [List.take_of_length_le (by rw [Us_length]; simp)] at ho2; have HO2 := Lib.hid ho2; have HS2 := Lib.hid hs2; clear ho2 hs2 hb2)
          | (go_at_call 39; (with_reducible show Calls _ _ _ (World.drew wr) _); refine (digits_any _ p HP.out).mono ?_; rw [HG.out]; rintro e w2 ⟨A2, c2, rfl, hs2, hb2⟩; have Hr2 : Hid (Below wr.heap.size wr w2) := nxUndr hb2; have HS2 := Lib.hid hs2; clear hs2 hb2)
          | (refine step_append_seesV (o := ⟨some 29, _, _, _, _, _⟩) rfl (.tmp 26) (.tmp 28) 32 rfl wr.heap.size 31 i0 (.int .u64 0) 1 8 Tryd.underlying32 hi hz0 hz1 hz2 rfl (by omega) (.slice (some ⟨wr.heap.size, 0, none⟩) k k) k (Us (List.replicate k 0)) (by first | rfl | simp [Act.eval]) HO2.out w2.heap.size A2 D.length c2 (Us D) (by first | rfl | simp [Act.eval]) (by rw [Us_length, Nat.mul_one]) HS2.out (Us_one _) (by omega) (by omega) Hr2.out.size ?_; intro v3 w3 ho3 hg3 hat3; obtain ⟨A3, c3, rfl⟩ := own_form ho3; have ho4 : w3.ownsRow wr.heap.size 31 1 (.slice A3 Y.length c3) Y.length (Us Y) := (by rw [HYl.out, ← HY.out, Us_append]; exact ho3); have HO3 := Lib.hid ho4; have Hr3 : Hid (Below wr.heap.size wr w3) := Hr2.out.grown hg3 Hr2.out.size (fun j hj => (own_lt HO2.out j hj).1); clear ho3 ho4 hg3 hat3)
          | (refine step_append_seesV (o := ⟨some 29, _, _, _, _, _⟩) rfl (.tmp 26) (.tmp 28) 32 rfl wr.heap.size 31 i0 (.int .u64 0) 1 8 Tryd.underlying32 hi hz0 hz1 hz2 rfl (by omega) (.slice (some ⟨w2.heap.size, 0, none⟩) k k) k (Us (List.replicate k 0)) (by first | rfl | simp [Act.eval]) (by have ho2 := own_made (w := w2.alloc (.cells (Us (List.replicate k 0)).toArray 31)) (base := wr.heap.size) (g := w2.heap.size) (e := 31) (n := k) (c := k) (size := 1) (cs := Us (List.replicate k 0)) (heap_alloc_new w2 _) Hr2.out.size (Nat.le_refl _) (by simp only [maxLen]; omega) (by rw [Us_length]; simp); rwa [List.take_of_length_le (by rw [Us_length]; simp)] at ho2) w2.heap.size A2 D.length c2 (Us D) (by first | rfl | simp [Act.eval]) (by rw [Us_length, Nat.mul_one]) (HS2.out.alloc _) (Us_one _) (by omega) (by omega) (by have := Hr2.out.size; simp; omega) ?_; intro v3 w3 ho3 hg3 hat3; obtain ⟨A3, c3, rfl⟩ := own_form ho3; have ho4 : w3.ownsRow wr.heap.size 31 1 (.slice A3 Y.length c3) Y.length (Us Y) := (by rw [HYl.out, ← HY.out, Us_append]; exact ho3); have HO3 := Lib.hid ho4; have Hr3 : Hid (Below wr.heap.size wr w3) := (nxAlloc Hr2.out _).grown hg3 (nxAlloc Hr2.out _).size (fun j hj => by simp only [Value.ownBlock, Option.some.injEq] at hj; have := Hr2.out.size; omega); clear ho3 ho4 hg3 hat3))
        all_goals (go_wp2_with fail; go_meet; exact ⟨A3, c3, by rw [HYl.out], SeesV.own HO3.out, Hr3.out⟩)
      case rest =>
        obtain ⟨Ya, yc, rfl, HYs, Hbr⟩ := hcut
        have HXs : Hid (SeesV wc wr.heap.size X (Us x)) := HX.out.below Hbr.out
        have Hbw : Hid (Below w.heap.size w wc) := nxTo Hb.out Hbr.out
        clear HX Hb Hbr
        obtain ⟨m, hm⟩ : ∃ m, max x.length Y.length = m := ⟨_, rfl⟩
        rw [hm] at HE
        have hml : x.length ≤ m ∧ Y.length ≤ m ∧ m ≤ 1000 := by omega
        obtain ⟨hm1, hm2, hm3⟩ := hml
        have hmx : x.length < Y.length ∧ m = Y.length ∨ ¬ x.length < Y.length ∧ m = x.length := by omega
        clear hm
        rcases hmx with ⟨hmx, rfl⟩ | ⟨hmx, rfl⟩
        all_goals
          go_wp2
          go_loopw [12] (fun iv wq => ∃ z : Int, -1 ≤ z ∧ z ≤ 999 ∧ iv = .int .i64 z ∧ Hid (powL d (j + 1) k p = cmpL x Y (z + 1).toNat) ∧ Hid (SeesV wq wc.heap.size Ya (Us Y)) ∧ Hid (SeesV wq wr.heap.size X (Us x)) ∧ Hid (Below w.heap.size w wq)) (fun iv _ => (intOf iv + 1).toNat)
          case atStart => exact ⟨_, by omega, by omega, rfl, by rw [Int.sub_add_cancel, Int.toNat_natCast]; exact HE.out, HYs.out, HXs.out, Hbw.out⟩
          case round =>
            clear HE HYs HXs Hbw
            obtain ⟨z, hz1, hz2, rfl, HE, HYs, HXs, Hbw⟩ := hrel
            by_cases hz : 0 ≤ z
            · obtain ⟨t, rfl⟩ : ∃ t : Nat, z = t := ⟨z.toNat, by omega⟩
              have HE1 : Hid (powL d (j + 1) k p = cmpL x Y (t + 1)) := by
                have := HE.out
                rwa [show ((t : Int) + 1).toNat = t + 1 by omega] at this
              clear HE hz hz1
              have HEQ : Hid (x.getD t 0 = Y.getD t 0 → powL d (j + 1) k p = cmpL x Y t) := fun h => HE1.out.trans (cmpL_eq x Y t h)
              have HNE : Hid (¬ x.getD t 0 = Y.getD t 0 → powL d (j + 1) k p = decide (x.getD t 0 < Y.getD t 0)) := fun h => HE1.out.trans (cmpL_ne x Y t h)
              clear HE1
              have HN : Hid (((t : Int) - 1 + 1).toNat = t) := by show _ = _; omega
              obtain ⟨u, hu⟩ : ∃ u, x.getD t 0 = u := ⟨_, rfl⟩
              obtain ⟨v, hv⟩ : ∃ v, Y.getD t 0 = v := ⟨_, rfl⟩
              rw [hu, hv] at HEQ HNE
              by_cases hx : t < x.length
              · obtain ⟨bx, ox, rfl, hbx, hcx⟩ := SeesV.u64 HXs.out hx
                have hcx0 := hcx t hx
                rw [hu] at hcx0
                by_cases hy : t < Y.length
                · obtain ⟨by_, oy, rfl, hby, hcy⟩ := SeesV.u64 HYs.out hy
                  have hcy0 := hcy t hy
                  rw [hv] at hcy0
                  clear hcx hcy hu hv
                  by_cases huv : u = v
                  · subst huv
                    go_wp2
                    go_roundw
                    case rel => exact ⟨(t : Int) - 1, by omega, by omega, rfl, by rw [HN.out]; exact HEQ.out rfl, HYs.out, HXs.out, Hbw.out⟩
                    case measure => simp [intOf] <;> omega
                  · have HR := Lib.hid (HNE.out huv)
                    go_wp2
                    all_goals
                      go_ret
                      exact ⟨by rw [HR.out]; simp, Hbw.out⟩
                · have hv0 : v = 0 := by rw [← hv]; simp [hy]
                  subst hv0
                  clear hcx hu hv
                  by_cases huv : u = 0
                  · subst huv
                    go_wp2
                    go_roundw
                    case rel => exact ⟨(t : Int) - 1, by omega, by omega, rfl, by rw [HN.out]; exact HEQ.out rfl, HYs.out, HXs.out, Hbw.out⟩
                    case measure => simp [intOf] <;> omega
                  · have HR := Lib.hid (HNE.out huv)
                    go_wp2
                    all_goals
                      go_ret
                      exact ⟨by rw [HR.out]; simp, Hbw.out⟩
              · have hu0 : u = 0 := by rw [← hu]; simp [hx]
                subst hu0
                by_cases hy : t < Y.length
                · obtain ⟨by_, oy, rfl, hby, hcy⟩ := SeesV.u64 HYs.out hy
                  have hcy0 := hcy t hy
                  rw [hv] at hcy0
                  clear hcy hu hv
                  by_cases huv : 0 = v
                  · subst huv
                    go_wp2
                    go_roundw
                    case rel => exact ⟨(t : Int) - 1, by omega, by omega, rfl, by rw [HN.out]; exact HEQ.out rfl, HYs.out, HXs.out, Hbw.out⟩
                    case measure => simp [intOf] <;> omega
                  · have HR := Lib.hid (HNE.out huv)
                    go_wp2
                    all_goals
                      go_ret
                      exact ⟨by rw [HR.out]; simp, Hbw.out⟩
                · have hv0 : v = 0 := by rw [← hv]; simp [hy]
                  subst hv0
                  clear hu hv
                  go_wp2
                  go_roundw
                  case rel => exact ⟨(t : Int) - 1, by omega, by omega, rfl, by rw [HN.out]; exact HEQ.out rfl, HYs.out, HXs.out, Hbw.out⟩
                  case measure => simp [intOf] <;> omega
            · obtain rfl : z = -1 := by omega
              have HR : Hid (powL d (j + 1) k p = true) := HE.out
              clear HE
              go_wp2
              go_ret
              exact ⟨by rw [HR.out]; rfl, Hbw.out⟩

end Go.Proofs.YtbfahmpppkjpbaaDoor
