/-
  ShaTables: the walk of fits.
-/
import Derived.Test.YtbfahmpppkjpbaaDoorTab3
namespace Go.Proofs.YtbfahmpppkjpbaaDoor
open Go.RowKit

theorem digits_of (w : World) (z : Int) (n : Nat) (hz : z = n) (hn : n < 18446744073709551616) : Calls Tryd.prog 39 #[.int .u64 z] w (RowPost w (digL 4 n)) := by subst hz; exact digits_any w n hn
theorem all_range {N : Nat} {f : Nat → Bool} (h : (List.range N).all f = true) (k : Nat) (hk : k < N) : f k = true := by
  rw [List.all_eq_true] at h
  exact h k (List.mem_range.2 hk)

set_option maxHeartbeats 4000000 in
set_option maxRecDepth 100000 in
theorem fits_any (w : World) (p : Nat) (hp : p < 400) (wd : Nat) (hwd : wd < 4294967296) (power : Nat) (hpw : power = 2 ∨ power = 3) (N : Nat) (hN : N ≤ 20) (hW : wholeL p power N = true) (hF : fitsL p wd power N = true) :
    Calls Tryd.prog 15 #[.int .u64 (p : Int), .int .u32 (wd : Int), .int .i64 (power : Int)] w fun e w' => e = .returned (.bool true) ∧ Below w.heap.size w w' := by
  have HW := Lib.hid hW
  have HF := Lib.hid hF
  have Hwd := Lib.hid hwd
  have HPw := Lib.hid hpw
  have hp1 : 1 ≤ power := by omega
  have hp3 : power ≤ 3 := by omega
  have hpb : p < 18446744073709551616 := by omega
  have HPb := Lib.hid hpb
  clear hW hF hpw hwd hpb
  go_enter Tryd.func15, Tryd.ntmps15
  go_wp2
  go_loopw [7] (fun kv wr => ∃ k : Nat, k ≤ N ∧ kv = .int .u64 k ∧ Hid (Below w.heap.size w wr)) (fun kv _ => N - (intOf kv).toNat)
  case atStart => exact ⟨0, by omega, rfl, Below.refl _ _⟩
  case round =>
    obtain ⟨k, hk, rfl, Hb⟩ := hrel
    have HDl := Lib.hid (digL_len 4 (k + 1))
    by_cases hlt : k < N
    · have HT : Hid (powL (digL 4 (k + 1)) power 0 p = true) := by
        have h := HW.out
        rw [wholeL, Bool.and_eq_true] at h
        exact all_range h.1 k hlt
      generalize hD : digL 4 (k + 1) = D at *
      have HD := Lib.hid hD
      clear hD
      go_wp2_with (first
        | (go_at_call 39; refine (digits_of _ _ (k + 1) (by omega) (by omega)).mono ?_; rw [HD.out]; rintro e w2 ⟨A2, c2, rfl, hs2, hb2⟩; have HS2 := Lib.hid hs2; have Hb2 := Lib.hid (nxTo Hb.out hb2); clear hs2 hb2)
        | (go_at_call 38; refine (pow_any _ A2 _ c2 D rfl HS2.out (by have := HDl.out; omega) power hp1 hp3 0 0 (Or.inl ⟨rfl, rfl⟩) p HPb.out).mono ?_; rw [HT.out]; rintro e w3 ⟨rfl, hb3⟩; have Hb3 := Lib.hid (nxTo Hb2.out hb3); clear hb3))
      go_roundw
      case rel => exact ⟨k + 1, by omega, by go_num, Hb3.out⟩
      case measure => simp [intOf] <;> omega
    · obtain rfl : k = N := by omega
      have HT : Hid (powL (digL 4 (k + 1)) power 0 p = false) := by
        have h := HW.out
        rw [wholeL, Bool.and_eq_true] at h
        show _ = _
        simpa using h.2
      have HZ : Hid (IntKind.u64.wrap ((k : Int) * 4294967296 + IntKind.u64.wrap (wd : Int)) = ((k * 4294967296 + wd : Nat) : Int)) := by
        have := Hwd.out
        show _ = _
        rw [IntKind.wrap_u64, IntKind.wrap_u64]; omega
      have HXb : Hid (k * 4294967296 + wd < 18446744073709551616) := by have := Hwd.out; show _ < _; omega
      have HXl := Lib.hid (digL_len 4 (k * 4294967296 + wd))
      have hf := HF.out
      rw [fitsL, Bool.and_eq_true] at hf
      have HT1 := Lib.hid hf.1
      have HT2 : Hid (powL (moreL (digL 4 (k * 4294967296 + wd))) power (2 * power) p = false) := by show _ = _; simpa using hf.2
      have HMl := Lib.hid (moreL_len (digL 4 (k * 4294967296 + wd)))
      clear hf
      obtain ⟨DX, hDX⟩ : ∃ DX, digL 4 (k * 4294967296 + wd) = DX := ⟨_, rfl⟩
      rw [hDX] at HXl HT1 HT2 HMl
      have HDX := Lib.hid hDX
      clear hDX
      generalize hD : digL 4 (k + 1) = D at *
      have HD := Lib.hid hD
      clear hD
      go_wp2_with (first
        | (go_at_call 39; (with_reducible show Calls _ _ #[.int .u64 (_ + 1)] _ _); refine (digits_of _ _ (k + 1) (by omega) (by omega)).mono ?_; rw [HD.out]; rintro e w2 ⟨A2, c2, rfl, hs2, hb2⟩; have HS2 := Lib.hid hs2; have Hb2 := Lib.hid (nxTo Hb.out hb2); clear hs2 hb2)
        | (go_at_call 38; (with_reducible show Calls _ _ #[.slice A2 _ _, _, _, _] _ _); refine (pow_any _ A2 _ c2 D rfl HS2.out (by have := HDl.out; omega) power hp1 hp3 0 0 (Or.inl ⟨rfl, rfl⟩) p HPb.out).mono ?_; rw [HT.out]; rintro e w3 ⟨rfl, hb3⟩; have Hb3 := Lib.hid (nxTo Hb2.out hb3); clear hb3)
        | (go_at_call 39; refine (digits_of _ _ (k * 4294967296 + wd) HZ.out HXb.out).mono ?_; rw [HDX.out]; rintro e w4 ⟨A4, c4, rfl, hs4, hb4⟩; have HS4 := Lib.hid hs4; have Hb4 := Lib.hid (nxTo Hb3.out hb4); clear hs4 hb4)
        | (go_at_call 38; (with_reducible show Calls _ _ #[.slice A4 _ _, _, _, _] _ _); refine (pow_any _ A4 _ c4 DX rfl HS4.out (by have := HXl.out; omega) power hp1 hp3 _ (2 * power) (by have := HPw.out; omega) p HPb.out).mono ?_; rw [HT1.out]; rintro e w5 ⟨rfl, hb5⟩; have HS5 := Lib.hid (HS4.out.later hb5); have Hb5 := Lib.hid (nxTo Hb4.out hb5); clear hb5)
        | (go_at_call 40; refine (more_any _ A4 _ c4 DX rfl HS5.out.size (by have := HXl.out; omega)).mono ?_; rintro e w6 ⟨A6, c6, rfl, hs6, hb6⟩; have HS6 := Lib.hid hs6; have Hb6 := Lib.hid (nxTo Hb5.out hb6); clear hs6 hb6)
        | (go_at_call 38; (with_reducible show Calls _ _ #[.slice A6 _ _, _, _, _] _ _); refine (pow_any _ A6 _ c6 (moreL DX) rfl HS6.out (by have := HXl.out; have := HMl.out; omega) power hp1 hp3 _ (2 * power) (by have := HPw.out; omega) p HPb.out).mono ?_; rw [HT2.out]; rintro e w7 ⟨rfl, hb7⟩; have Hb7 := Lib.hid (nxTo Hb6.out hb7); clear hb7))
      go_ret
      exact ⟨rfl, Hb7.out⟩

end Go.Proofs.YtbfahmpppkjpbaaDoor
