/-
  ShaTables: the walk.
-/
import Derived.Test.YtbfahmpppkjpbaaDoorTab4
import Derived.Test.YtbfahmpppkjpbaaDoorSPh
import Derived.Test.YtbfahmpppkjpbaaDoorTag
namespace Go.Proofs.YtbfahmpppkjpbaaDoor
open Go.RowKit

theorem fits3_any (w : World) (p : Nat) (hp : p < 400) (wd : Nat) (hwd : wd < 4294967296) (N : Nat) (hN : N ≤ 20) (hW : wholeL p 3 N = true) (hF : fitsL p wd 3 N = true) :
    Calls Tryd.prog 15 #[.int .u64 (p : Int), .int .u32 (wd : Int), .int .i64 3] w fun e w' => e = .returned (.bool true) ∧ Below w.heap.size w w' := fits_any w p hp wd hwd 3 (Or.inr rfl) N hN hW hF
theorem fits2_any (w : World) (p : Nat) (hp : p < 400) (wd : Nat) (hwd : wd < 4294967296) (N : Nat) (hN : N ≤ 20) (hW : wholeL p 2 N = true) (hF : fitsL p wd 2 N = true) :
    Calls Tryd.prog 15 #[.int .u64 (p : Int), .int .u32 (wd : Int), .int .i64 2] w fun e w' => e = .returned (.bool true) ∧ Below w.heap.size w w' := fits_any w p hp wd hwd 2 (Or.inl rfl) N hN hW hF
theorem n3_le : ∀ i, i < 64 → n3L.getD i 0 ≤ 20 := by decide +kernel
theorem n2_le : ∀ i, i < 8 → n2L.getD i 0 ≤ 20 := by decide +kernel

/-- Is the next number no multiple of the first so many? -/
def okL (r j : Nat) : Bool := ((prL r).take j).all (fun q => (r + 3) % q != 0)
theorem okL_next (r j : Nat) (hj : j < (prL r).length) : okL r (j + 1) = (okL r j && ((r + 3) % ((prL r).getD j 0) != 0)) := by
  rw [okL, List.take_succ_eq_append_getElem hj, List.all_append]
  simp [okL, hj]
theorem prL_next (r : Nat) : prL (r + 1) = if okL r (prL r).length = true then prL r ++ [r + 3] else prL r := by rw [prL, okL, List.take_length]

set_option maxHeartbeats 4000000 in
set_option maxRecDepth 100000 in
theorem shaTables_any (w : World) (hT : Tabs w) : Calls Tryd.prog 4 #[] w fun e w' => e = .returned (.bool true) ∧ Below w.heap.size w w' := by
  have HT := Lib.hid hT
  clear hT
  obtain ⟨i0, hi, hz0, hz1, hz2⟩ := info_parts Tryd.u64info
  go_enter Tryd.func4, Tryd.ntmps4
  go_wp2
  go_loopw [1, 2] (fun pv xv wr => ∃ (r : Nat) (A : Option Addr) (c : Nat), r ≤ 309 ∧ xv = .int .u64 ((r : Int) + 3) ∧ pv = .slice A (prL r).length c ∧ Hid (wr.ownsRow w.heap.size 31 1 (.slice A (prL r).length c) (prL r).length (Us (prL r))) ∧ Hid (Below w.heap.size w wr)) (fun _ xv _ => 400 - (intOf xv).toNat)
  case atStart => exact ⟨0, _, _, by omega, rfl, rfl, World.ownsRow_lit w #[.int .u64 2] 1 (Nat.le_refl _) (by simp only [maxLen]; omega) rfl, (Below.refl _ _).alloc (Nat.le_refl _) _⟩
  case round =>
    obtain ⟨r, A, c, hr, rfl, rfl, HO, Hb⟩ := hrel
    by_cases hlt : r < 309
    · have hl63 : (prL r).length ≤ 63 := by have := prL_mono r 308 (by omega); rw [prL_len.1] at this; exact this
      have HPos := Lib.hid (prL_pos r)
      have HNx := Lib.hid (prL_next r)
      have HOk := Lib.hid (okL_next r)
      obtain ⟨L, hL⟩ : ∃ L, prL r = L := ⟨_, rfl⟩
      rw [hL] at HO hl63 HPos HNx HOk ⊢
      have HL := Lib.hid hL
      clear hL
      obtain ⟨wo, rfl⟩ : ∃ wo : World, wo = wr := ⟨_, rfl⟩
      go_wp2
      go_loopw [3, 4] (fun bv iv wq => ∃ (j : Nat) (b : Bool), j ≤ L.length ∧ iv = .int .i64 j ∧ bv = .bool b ∧ Hid (okL r j = b) ∧ wq = wo) (fun _ iv _ => L.length - (intOf iv).toNat)
      case atStart => exact ⟨0, true, by omega, rfl, rfl, rfl, rfl⟩
      case round =>
        obtain ⟨j, b, hj, rfl, rfl, HB, rfl⟩ := hrel
        by_cases hlj : j < L.length
        · obtain ⟨bb, ob, rfl, hbb, hcb⟩ := SeesV.u64 (SeesV.own HO.out) hlj
          have hc0 := hcb j hlj
          have hq2 : 2 ≤ L.getD j 0 := (HPos.out (L.getD j 0) (by simp [hlj])).1
          have HN := Lib.hid (HOk.out j hlj)
          generalize L.getD j 0 = q at *
          have Hm := Lib.hid (Int.natCast_emod (r + 3) q)
          clear hcb
          cases b with
          | false =>
            go_wp2
            go_roundw
            case rel => exact ⟨j + 1, false, by omega, by go_num, rfl, by show _ = _; rw [HN.out, HB.out]; rfl, trivial⟩
            case measure => simp [intOf] <;> omega
          | true =>
            by_cases hz : (r + 3) % q = 0
            · have hzi : ((r : Int) + 3) % (q : Int) = 0 := by
                have := Hm.out
                rw [hz] at this
                simpa using this.symm
              have HN' : Hid (okL r (j + 1) = false) := by show _ = _; rw [HN.out, hz]; simp
              clear hz
              go_wp2
              go_roundw
              case rel => exact ⟨j + 1, false, by omega, by go_num, rfl, HN'.out, trivial⟩
              case measure => simp [intOf] <;> omega
            · have hzi : ¬ ((r : Int) + 3) % (q : Int) = 0 := by
                have := Hm.out
                intro h
                apply hz
                have h2 : (((r + 3) % q : Nat) : Int) = 0 := by rw [this]; simpa using h
                omega
              have HN' : Hid (okL r (j + 1) = true) := by show _ = _; rw [HN.out, HB.out]; simpa using hz
              clear hz
              go_wp2
              go_roundw
              case rel => exact ⟨j + 1, true, by omega, by go_num, by rw [show (((r : Int) + 3) % (q : Int) != 0) = true by simpa using hzi], HN'.out, trivial⟩
              case measure => simp [intOf] <;> omega
        · obtain rfl : j = L.length := by omega
          cases b with
          | true =>
            have HE : Hid (prL (r + 1) = L ++ [r + 3]) := by show _ = _; rw [HNx.out, HB.out, if_pos rfl]
            go_wp2_with ((with_reducible show wpList _ _ _ (⟨some 32, _, _, _, _, _⟩ :: _) _ _); refine wpList_append_seesV rfl (.tmp 29) (.tmp 31) 32 rfl w.heap.size 31 i0 (.int .u64 0) 1 8 Tryd.underlying32 hi hz0 hz1 hz2 rfl (by omega) (.slice A L.length c) L.length (Us L) rfl (HO.out.alloc _) (wr.heap.size + 1) (some ⟨wr.heap.size, 0, none⟩) 1 1 [.int .u64 ((r : Int) + 3)] rfl rfl (SeesV.lit wr [.int .u64 ((r : Int) + 3)] 31) (by intro u hu; simp at hu; subst hu; rfl) (by omega) (by omega) (by have := Hb.out.size; simp; omega) ?_; intro v2 w2 ho2 hg2 hat2; obtain ⟨A2, c2, rfl⟩ := own_form ho2; have ho3 : w2.ownsRow w.heap.size 31 1 (.slice A2 (prL (r + 1)).length c2) (prL (r + 1)).length (Us (prL (r + 1))) := (by rw [HE.out, Us_append, List.length_append]; exact ho2); have HO2 := Lib.hid ho3; have Hb2 : Hid (Below w.heap.size w w2) := (((Hb.out.alloc Hb.out.size _)).grown hg2 (by have := Hb.out.size; simp; omega) (fun j hj => (own_lt HO.out j hj).1)); clear ho2 ho3 hg2 hat2)
            go_roundw
            case rel => exact ⟨r + 1, A2, c2, by omega, by go_num, by rw [HE.out, List.length_append]; rfl, HO2.out, Hb2.out⟩
            case measure => simp [intOf] <;> omega
          | false =>
            have HE : Hid (prL (r + 1) = L) := by show _ = _; rw [HNx.out, HB.out]; rfl
            go_wp2
            go_roundw
            case rel => exact ⟨r + 1, A, c, by omega, by go_num, by rw [HE.out], by show World.ownsRow _ _ _ _ _ _ _; rw [HE.out]; exact HO.out, Hb.out⟩
            case measure => simp [intOf] <;> omega
    · obtain rfl : r = 309 := by omega
      rw [prL_309] at HO ⊢
      have hpl : primeL.length = 64 := rfl
      rw [show ((309 : Nat) : Int) + 3 = (312 : Int) from rfl]
      rw [hpl] at HO ⊢
      have HS := Lib.hid (SeesV.own HO.out)
      clear hpl
      obtain ⟨b, o, rfl, hbb, hcb⟩ := SeesV.u64 HS.out (k := 0) (by decide)
      have HC : Hid (∀ i, i < 64 → wr.cell? ⟨b, o + i, none⟩ = some (.int .u64 ((primeL.getD i 0 : Nat) : Int))) := hcb
      have HbL : Hid (b < wr.heap.size) := hbb
      have Z1 : Hid ((stOf 8).toNat = 0) := by show _ = _; decide +kernel
      have Z2 : Hid ((coOf 64).toNat = 0) := by show _ = _; decide +kernel
      have Z3 : Hid ((stOf (-1)).toNat = 0) := by show _ = _; decide +kernel
      clear hcb hbb HO HS hr hlt
      obtain ⟨wo, hwo⟩ : ∃ wo : World, wo = wr := ⟨_, rfl⟩
      have Hb0 : Hid (Below wo.heap.size wo wr) := by rw [hwo]; exact Below.refl _ _
      rw [← hwo] at HC HbL
      clear hwo
      go_wp2
      go_loopw [5] (fun iv wq => ∃ k : Nat, k ≤ 64 ∧ iv = .int .i64 k ∧ Hid (Below wo.heap.size wo wq) ∧ Hid (Below w.heap.size w wq)) (fun iv _ => 64 - (intOf iv).toNat)
      case atStart => exact ⟨0, by omega, rfl, Hb0.out, Hb.out⟩
      case round =>
        clear Hb Hb0
        obtain ⟨k, hk, rfl, Hbo, Hb⟩ := hrel
        by_cases hlt : k < 64
        · have hco : coOf (k : Int) = kL.getD k 0 := by rw [coOf, if_pos (by omega)]; simp
          have F3 := Lib.hid (fits3 k hlt)
          have HN3 := Lib.hid (n3_le k hlt)
          have HPp := Lib.hid (primes_pos k hlt)
          have c0 : wr.cell? ⟨b, o + k, none⟩ = some (.int .u64 ((primeL.getD k 0 : Nat) : Int)) := (Hbo.out.cell (p := ⟨b, o + k, none⟩) HbL.out).trans (HC.out k hlt)
          by_cases h8 : k < 8
          · have hst : stOf (k : Int) = startL.getD k 0 := by rw [stOf, if_pos (by omega)]; simp
            have F2 := Lib.hid (fits2 k h8)
            have HN2 := Lib.hid (n2_le k h8)
            obtain ⟨cw, hcw⟩ : ∃ cw, kL.getD k 0 = cw := ⟨_, rfl⟩
            obtain ⟨sw, hsw⟩ : ∃ sw, startL.getD k 0 = sw := ⟨_, rfl⟩
            obtain ⟨N3, hN3⟩ : ∃ N3, n3L.getD k 0 = N3 := ⟨_, rfl⟩
            obtain ⟨N2, hN2⟩ : ∃ N2, n2L.getD k 0 = N2 := ⟨_, rfl⟩
            obtain ⟨p, hp⟩ : ∃ p, primeL.getD k 0 = p := ⟨_, rfl⟩
            rw [hcw] at hco F3
            rw [hsw] at hst F2
            rw [hN3, hp] at F3
            rw [hN2, hp] at F2
            rw [hp] at c0 HPp
            rw [hN3] at HN3
            rw [hN2] at HN2
            have HCo := Lib.hid hco
            have HSt := Lib.hid hst
            have hlt2 : (k : Int) < 8 := by omega
            clear hcw hsw hN3 hN2 hp hco hst
            go_wp2
            go_region_held_law (fun W => W.cell? ⟨b, o + k, none⟩ = some (.int .u64 (p : Int))) (first | assumption | exact c0) (first
              | (go_at_call 16; refine (constI_any _ (k : Int)).mono ?_; rw [HCo.out]; rintro e w2 ⟨rfl, hb2⟩; have c2 : w2.cell? ⟨b, o + k, none⟩ = some (.int .u64 (p : Int)) := cell_later (nxUndr hb2) c0; have Hr2 : Hid (Below wr.heap.size wr w2) := nxUndr hb2; clear hb2)
              | (go_at_call 15; (with_reducible show Calls _ _ #[_, _, .int .i64 3] _ _); refine (fits3_any _ p HPp.out cw.toNat cw.isLt N3 HN3.out F3.out.1 F3.out.2).mono ?_; rintro e w3 ⟨rfl, hb3⟩; have c3 : w3.cell? ⟨b, o + k, none⟩ = some (.int .u64 (p : Int)) := cell_later hb3 c2; have Hr3 : Hid (Below wr.heap.size wr w3) := nxTo Hr2.out hb3; clear hb3)
              | (go_at_call 17; refine (startI_any _ (k : Int)).mono ?_; rw [HSt.out]; rintro e w4 ⟨rfl, hb4⟩; have c4 : w4.cell? ⟨b, o + k, none⟩ = some (.int .u64 (p : Int)) := cell_later hb4 c3; have Hr4 : Hid (Below wr.heap.size wr w4) := nxTo Hr3.out hb4; clear hb4)
              | (go_at_call 15; (with_reducible show Calls _ _ #[_, _, .int .i64 2] _ _); refine (fits2_any _ p HPp.out sw.toNat sw.isLt N2 HN2.out F2.out.1 F2.out.2).mono ?_; rintro e w5 ⟨rfl, hb5⟩; have c5 : w5.cell? ⟨b, o + k, none⟩ = some (.int .u64 (p : Int)) := cell_later hb5 c4; have Hr5 : Hid (Below wr.heap.size wr w5) := nxTo Hr4.out hb5; clear hb5))
            all_goals
              go_wp2
              go_roundw
              case rel => exact ⟨k + 1, by omega, by go_num, nxTo Hbo.out Hr5.out, nxTo Hb.out Hr5.out⟩
              case measure => simp [intOf] <;> omega
          · obtain ⟨cw, hcw⟩ : ∃ cw, kL.getD k 0 = cw := ⟨_, rfl⟩
            obtain ⟨N3, hN3⟩ : ∃ N3, n3L.getD k 0 = N3 := ⟨_, rfl⟩
            obtain ⟨p, hp⟩ : ∃ p, primeL.getD k 0 = p := ⟨_, rfl⟩
            rw [hcw] at hco F3
            rw [hN3, hp] at F3
            rw [hp] at c0 HPp
            rw [hN3] at HN3
            have HCo := Lib.hid hco
            have hd8 : decide ((k : Int) < 8) = false := decide_eq_false (by omega)
            clear hcw hN3 hp hco
            go_wp2
            refine wp_region_held_drew (S := fun W => W.cell? ⟨b, o + k, none⟩ = some (.int .u64 (p : Int))) (by kernel_rfl) c0 (fun hHeld => ?_)
            refine wpAnyH_take (i := 0) (oi := ⟨_, _, _, _, _, _⟩) (v := ?_) rfl (by kernel_rfl) (by kernel_rfl) (by kernel_rfl) (fun _ _ _ h => h) (Or.inl ⟨by rfl, ?_⟩) (by assumption) ?_
            rotate_left 1
            · intro W hSw
              try dsimp only at hSw
              go_simp
              try with_reducible rfl
            try simp only [Act.put, List.setIfInBounds_toArray, List.set_cons_zero, List.set_cons_succ]
            refine wpAnyH_take (i := 1) (oi := ⟨_, _, _, _, _, _⟩) (v := ?_) rfl (by kernel_rfl) (by kernel_rfl) (by kernel_rfl) (fun _ _ _ h => h) (Or.inl ⟨by rfl, ?_⟩) (by assumption) ?_
            rotate_left 1
            · intro W hSw
              try dsimp only at hSw
              go_simp
              try with_reducible rfl
            try simp only [Act.put, List.setIfInBounds_toArray, List.set_cons_zero, List.set_cons_succ]
            refine wpAnyH_take (i := 2) (oi := ⟨_, _, _, _, _, _⟩) (v := ?_) rfl (by kernel_rfl) (by kernel_rfl) (by kernel_rfl) (fun _ _ _ h => h) (Or.inl ⟨by rfl, ?_⟩) (by assumption) ?_
            rotate_left 1
            · intro W hSw
              try dsimp only at hSw
              go_simp
              try with_reducible rfl
            try simp only [Act.put, List.setIfInBounds_toArray, List.set_cons_zero, List.set_cons_succ]
            refine wpAnyH_take (i := 3) (oi := ⟨_, _, _, _, _, _⟩) (v := ?_) rfl (by kernel_rfl) (by kernel_rfl) (by kernel_rfl) (fun _ _ _ h => h) (Or.inl ⟨by rfl, ?_⟩) (by assumption) ?_
            rotate_left 1
            · intro W hSw
              try dsimp only at hSw
              go_simp
              try with_reducible rfl
            try simp only [Act.put, List.setIfInBounds_toArray, List.set_cons_zero, List.set_cons_succ]
            refine wpAnyH_take (i := 4) (oi := ⟨_, _, _, _, _, _⟩) (v := ?_) rfl (by kernel_rfl) (by kernel_rfl) (by kernel_rfl) (fun _ _ _ h => h) (Or.inl ⟨by rfl, ?_⟩) (by assumption) ?_
            rotate_left 1
            · intro W hSw
              try dsimp only at hSw
              go_simp
              try with_reducible rfl
            try simp only [Act.put, List.setIfInBounds_toArray, List.set_cons_zero, List.set_cons_succ]
            refine wpAnyH_ready (rs := [5]) (by kernel_rfl) (by simp) ?_
            refine AllReadyH.cons rfl (fun K hK => ?_) AllReadyH.nil
            go_simp
            go_at_call 16
            refine (constI_any _ (k : Int)).mono ?_
            rw [HCo.out]
            rintro e w2 ⟨rfl, hb2⟩
            have c2 : w2.cell? ⟨b, o + k, none⟩ = some (.int .u64 (p : Int)) := cell_later (nxUndr hb2) c0
            have Hr2 : Hid (Below wr.heap.size wr w2) := nxUndr hb2
            clear hb2
            refine hK.out _ _ c2 (fun hSn => ?_)
            clear hK K
            try simp only [Act.put, List.setIfInBounds_toArray, List.set_cons_zero, List.set_cons_succ]
            refine wpAnyH_ready (rs := [6]) (by kernel_rfl) (by simp) ?_
            refine AllReadyH.cons rfl (fun K hK => ?_) AllReadyH.nil
            go_simp
            go_at_call 15
            refine (fits3_any _ p HPp.out cw.toNat cw.isLt N3 HN3.out F3.out.1 F3.out.2).mono ?_
            rintro e w3 ⟨rfl, hb3⟩
            have c3 : w3.cell? ⟨b, o + k, none⟩ = some (.int .u64 (p : Int)) := cell_later hb3 c2
            have Hr3 : Hid (Below wr.heap.size wr w3) := nxTo Hr2.out hb3
            clear hb3
            refine hK.out _ _ c3 (fun hSn => ?_)
            clear hK K
            try simp only [Act.put, List.setIfInBounds_toArray, List.set_cons_zero, List.set_cons_succ]
            refine wpAnyH_take (i := 7) (oi := ⟨_, _, _, _, _, _⟩) (v := ?_) rfl (by kernel_rfl) (by kernel_rfl) (by kernel_rfl) (fun _ _ _ h => h) (Or.inl ⟨by rfl, ?_⟩) (by assumption) ?_
            rotate_left 1
            · intro W hSw
              try dsimp only at hSw
              go_simp
              try with_reducible rfl
            try simp only [Act.put, List.setIfInBounds_toArray, List.set_cons_zero, List.set_cons_succ]
            refine wpAnyH_take (i := 8) (oi := ⟨_, _, _, _, _, _⟩) (v := ?_) rfl (by kernel_rfl) (by kernel_rfl) (by kernel_rfl) (fun _ _ _ h => h) (Or.inl ⟨by rfl, ?_⟩) (by assumption) ?_
            rotate_left 1
            · intro W hSw
              try dsimp only at hSw
              go_simp
              try with_reducible rfl
            try simp only [Act.put, List.setIfInBounds_toArray, List.set_cons_zero, List.set_cons_succ]
            refine wpAnyH_take (i := 9) (oi := ⟨_, _, _, _, _, _⟩) (v := ?_) rfl (by kernel_rfl) (by kernel_rfl) (by kernel_rfl) (fun _ _ _ h => h) (Or.inl ⟨by rfl, ?_⟩) (by assumption) ?_
            rotate_left 1
            · intro W hSw
              try dsimp only at hSw
              go_simp
              try with_reducible rfl
            try simp only [Act.put, List.setIfInBounds_toArray, List.set_cons_zero, List.set_cons_succ]
            refine wpAnyH_take (i := 10) (oi := ⟨_, _, _, _, _, _⟩) (v := ?_) rfl (by kernel_rfl) (by kernel_rfl) (by kernel_rfl) (fun _ _ _ h => h) (Or.inl ⟨by rfl, ?_⟩) (by assumption) ?_
            rotate_left 1
            · intro W hSw
              try dsimp only at hSw
              go_simp
              try with_reducible rfl
            try simp only [Act.put, List.setIfInBounds_toArray, List.set_cons_zero, List.set_cons_succ]
            refine wpAnyH_take (i := 11) (oi := ⟨_, _, _, _, _, _⟩) (v := ?_) rfl (by kernel_rfl) (by kernel_rfl) (by kernel_rfl) (fun _ _ _ h => h) (Or.inl ⟨by rfl, ?_⟩) (by assumption) ?_
            rotate_left 1
            · intro W hSw
              try dsimp only at hSw
              go_simp
              try with_reducible rfl
            try simp only [Act.put, List.setIfInBounds_toArray, List.set_cons_zero, List.set_cons_succ]
            refine wpAnyH_take (i := 12) (oi := ⟨_, _, _, _, _, _⟩) (v := undef) rfl (by kernel_rfl) (by kernel_rfl) (by kernel_rfl) (fun _ _ _ h => h) (Or.inr ⟨by rfl, rfl⟩) (by assumption) ?_
            try simp only [Act.put, List.setIfInBounds_toArray, List.set_cons_zero, List.set_cons_succ]
            refine wpAnyH_take (i := 13) (oi := ⟨_, _, _, _, _, _⟩) (v := undef) rfl (by kernel_rfl) (by kernel_rfl) (by kernel_rfl) (fun _ _ _ h => h) (Or.inr ⟨by rfl, rfl⟩) (by assumption) ?_
            try simp only [Act.put, List.setIfInBounds_toArray, List.set_cons_zero, List.set_cons_succ]
            refine wpAnyH_take (i := 14) (oi := ⟨_, _, _, _, _, _⟩) (v := undef) rfl (by kernel_rfl) (by kernel_rfl) (by kernel_rfl) (fun _ _ _ h => h) (Or.inr ⟨by rfl, rfl⟩) (by assumption) ?_
            try simp only [Act.put, List.setIfInBounds_toArray, List.set_cons_zero, List.set_cons_succ]
            refine wpAnyH_take (i := 15) (oi := ⟨_, _, _, _, _, _⟩) (v := undef) rfl (by kernel_rfl) (by kernel_rfl) (by kernel_rfl) (fun _ _ _ h => h) (Or.inr ⟨by rfl, rfl⟩) (by assumption) ?_
            try simp only [Act.put, List.setIfInBounds_toArray, List.set_cons_zero, List.set_cons_succ]
            refine wpAnyH_take (i := 16) (oi := ⟨_, _, _, _, _, _⟩) (v := undef) rfl (by kernel_rfl) (by kernel_rfl) (by kernel_rfl) (fun _ _ _ h => h) (Or.inr ⟨by rfl, rfl⟩) (by assumption) ?_
            try simp only [Act.put, List.setIfInBounds_toArray, List.set_cons_zero, List.set_cons_succ]
            refine wpAnyH_take (i := 17) (oi := ⟨_, _, _, _, _, _⟩) (v := undef) rfl (by kernel_rfl) (by kernel_rfl) (by kernel_rfl) (fun _ _ _ h => h) (Or.inr ⟨by rfl, rfl⟩) (by assumption) ?_
            try simp only [Act.put, List.setIfInBounds_toArray, List.set_cons_zero, List.set_cons_succ]
            refine wpAnyH_take (i := 18) (oi := ⟨_, _, _, _, _, _⟩) (v := undef) rfl (by kernel_rfl) (by kernel_rfl) (by kernel_rfl) (fun _ _ _ h => h) (Or.inr ⟨by rfl, rfl⟩) (by assumption) ?_
            try simp only [Act.put, List.setIfInBounds_toArray, List.set_cons_zero, List.set_cons_succ]
            refine wpAnyH_take (i := 19) (oi := ⟨_, _, _, _, _, _⟩) (v := undef) rfl (by kernel_rfl) (by kernel_rfl) (by kernel_rfl) (fun _ _ _ h => h) (Or.inr ⟨by rfl, rfl⟩) (by assumption) ?_
            try simp only [Act.put, List.setIfInBounds_toArray, List.set_cons_zero, List.set_cons_succ]
            refine wpAnyH_take (i := 20) (oi := ⟨_, _, _, _, _, _⟩) (v := ?_) rfl (by kernel_rfl) (by kernel_rfl) (by kernel_rfl) (fun _ _ _ h => h) (Or.inl ⟨by rfl, ?_⟩) (by assumption) ?_
            rotate_left 1
            · intro W hSw
              try dsimp only at hSw
              go_simp
              try with_reducible rfl
            try simp only [Act.put, List.setIfInBounds_toArray, List.set_cons_zero, List.set_cons_succ]
            refine wpAnyH_take (i := 21) (oi := ⟨_, _, _, _, _, _⟩) (v := ?_) rfl (by kernel_rfl) (by kernel_rfl) (by kernel_rfl) (fun _ _ _ h => h) (Or.inl ⟨by rfl, ?_⟩) (by assumption) ?_
            rotate_left 1
            · intro W hSw
              try dsimp only at hSw
              go_simp
              try with_reducible rfl
            try simp only [Act.put, List.setIfInBounds_toArray, List.set_cons_zero, List.set_cons_succ]
            refine wpAnyH_done (by kernel_rfl) ?_ _
            go_wp2
            go_roundw
            case rel => exact ⟨k + 1, by omega, by go_num, nxTo Hbo.out Hr3.out, nxTo Hb.out Hr3.out⟩
            case measure => simp [intOf] <;> omega
        · obtain rfl : k = 64 := by omega
          go_wp2_with (first
            | (go_at_call 17; (with_reducible show Calls _ _ #[.int .i64 8] _ _); refine (startI_any _ 8).mono ?_; rw [Z1.out]; rintro e w2 ⟨rfl, hb2⟩; have Hb2 := Lib.hid (nxTo Hb.out hb2); clear hb2)
            | (go_at_call 16; refine (constI_any _ 64).mono ?_; rw [Z2.out]; rintro e w3 ⟨rfl, hb3⟩; have Hb3 := Lib.hid (nxTo Hb2.out hb3); clear hb3)
            | (go_at_call 17; refine (startI_any _ (-1)).mono ?_; rw [Z3.out]; rintro e w4 ⟨rfl, hb4⟩; have Hb4 := Lib.hid (nxTo Hb3.out hb4); clear hb4)
            | (go_at_call 10; refine (known_any _ (HT.out.later Hb4.out)).mono ?_; rintro e w5 ⟨rfl, hb5⟩; have Hb5 := Lib.hid (nxTo Hb4.out hb5); clear hb5))
          go_ret
          exact ⟨rfl, Hb5.out⟩

end Go.Proofs.YtbfahmpppkjpbaaDoor
