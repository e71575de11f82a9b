/-
  MoneySums, the walk.
-/
import Derived.Test.YtipjhjgjomfflaaDoorMo9
namespace Go.Proofs.YtipjhjgjomfflaaDoor
open Go.RowKit Go.Sort

theorem nxDrewN {w W : World} (h : Below w.heap.size w W) (n : Nat) : Below w.heap.size w (W.drewN n) := ⟨h.os, h.tape, h.output, h.size, h.block⟩

set_option maxHeartbeats 4000000 in
set_option maxRecDepth 100000 in
theorem sums_any (w : World) (hT : Tb w) (A : Option Addr) (n cp : Nat) (l : List Nat) (hn : n = l.length) (hS : SeesV w w.heap.size A (Ns l)) (a b c : Nat) :
    Calls Tryd.prog 3 #[.slice A n cp, .int .u64 (a : Int), .int .u64 (b : Int), .int .u64 (c : Int)] w (KnownPost w) := by
  subst hn
  have HT := Lib.hid hT
  have HS := Lib.hid hS
  clear hT hS
  by_cases hlen : 2000 < l.length
  · go_enter Tryd.func3, Tryd.ntmps3
    go_wp2_with (go_at_call 6; ((refine (known_any _ HT.out).mono ?_); rintro e w' ⟨rfl, hb⟩))
    go_ret
    exact ⟨rfl, hb⟩
  · have hmax : l.length ≤ 4611686018427387904 := by omega
    have hm := may_int a
    go_enter Tryd.func3, Tryd.ntmps3
    go_wp2_with (first
      | (go_at_call 7; ((with_reducible refine (sum_any _ _ A _ cp l rfl HS.out hmax).mono ?_); rintro e w' ⟨rfl, rfl⟩))
      | (go_at_call 8; ((with_reducible refine (rsum_any _ _ A _ cp l rfl HS.out hmax).mono ?_); rintro e w' ⟨rfl, rfl⟩))
      | (go_at_call 9; ((with_reducible refine (add_any _ a b).mono ?_); rintro e w1 ⟨rfl, hb1⟩; have Hb1 := Lib.hid hb1; clear hb1; have HS2 := Lib.hid (sees_two w1 a b)))
      | (go_at_call 8; ((refine (rsum_any _ _ _ 2 2 [a, b] rfl HS2.out (by omega)).mono ?_); rintro e w' ⟨rfl, rfl⟩))
      | (go_at_call 10; ((with_reducible refine (sub_any _ a b).mono ?_); rintro e w' ⟨rfl, rfl⟩))
      | (go_at_call 11; ((with_reducible refine (rsub_any _ a b).mono ?_); rintro e w' ⟨rfl, rfl⟩))
      | (go_at_call 12; ((with_reducible refine (share_any _ a b c).mono ?_); rintro e w2 ⟨rfl, n2, hw2⟩; have Hb2 : Hid (Below w.heap.size w w2) := (by rw [hw2]; exact nxDrewN (nxAlloc Hb1.out _) n2); clear hw2))
      | (go_at_call 13; ((with_reducible refine (rshare_any _ a b c).mono ?_); rintro e w3 ⟨rfl, n3, hw3⟩; have Hb3 : Hid (Below w.heap.size w w3) := (by rw [hw3]; exact nxDrewN Hb2.out n3); clear hw3))
      | (go_at_call 14; ((refine (num_any _ _).mono ?_); rintro e w' ⟨rfl, rfl⟩))
      | (go_at_call 15; ((with_reducible refine (may_any _ a).mono ?_); rintro e w' ⟨rfl, rfl⟩))
      | (go_at_call 6; ((refine (known_any _ (HT.out.later Hb3.out)).mono ?_); rintro e w4 ⟨rfl, hb4⟩; have Hb4 := Lib.hid hb4; clear hb4)))
    go_ret
    exact ⟨rfl, nxTo Hb3.out Hb4.out⟩
end Go.Proofs.YtipjhjgjomfflaaDoor
