/-
  Words turned right: of the program and of the document.
-/
import Derived.Test.YtckomfffilonlaaDoorSha
import Derived.Test.YtckomfffilonlaaDoorChecked
import Derived.WalkKit
namespace Go.Proofs.YtckomfffilonlaaDoor
open Go.RowKit

theorem neg_and (n : Nat) (h0 : 0 < n) (h : n < 32) : bits .and .u64 (IntKind.u64.wrap (-(n : Int))) 31 = ((32 - n : Nat) : Int) :=
  (by decide +kernel : ∀ n : Fin 32, 0 < n.val → bits .and .u64 (IntKind.u64.wrap (-(n.val : Int))) 31 = ((32 - n.val : Nat) : Int)) ⟨n, h⟩ h0

set_option maxHeartbeats 400000 in
theorem rotl_any (w : World) (x : W32) (n : Nat) (h0 : 0 < n) (h : n < 32) :
    Calls Tryd.prog 89 #[.int .u32 (x.toNat : Int), .int .i64 (-(n : Int))] w fun e w' => e = .returned (.int .u32 ((ror x n).toNat : Int)) ∧ w' = w := by
  have hq := neg_and n h0 h
  go_enter Tryd.func89, Tryd.ntmps89
  go_wp2
  go_ret
  refine ⟨?_, rfl⟩
  rw [shl_bm, show 32 - (32 - n) = n by omega, shr_bv, or_bv, BitVec.or_comm]
  rfl

theorem right_any (w : World) (x : W32) (n : Nat) (h0 : 0 < n) (h : n < 32) :
    Calls Tryd.prog 88 #[.int .u32 (x.toNat : Int), .int .i64 (n : Int)] w fun e w' => e = .returned (.int .u32 ((ror x n).toNat : Int)) ∧ w' = w := by
  go_enter Tryd.func88, Tryd.ntmps88
  go_wp2_with (go_at_call 89; refine (rotl_any _ x n h0 h).mono ?_; rintro e w' ⟨rfl, rfl⟩)
  go_ret
  exact ⟨rfl, rfl⟩

theorem turns_any (w : World) (x : W32) (i j k : Nat) (hi : 0 < i) (hi' : i < 32) (hj : 0 < j) (hj' : j < 32) (hk : 0 < k) (hk' : k < 32) :
    Calls Tryd.prog 87 #[.int .u32 (x.toNat : Int), .int .i64 (i : Int), .int .i64 (j : Int), .int .i64 (k : Int)] w fun e w' => e = .returned (.int .u32 ((trn x i j k).toNat : Int)) ∧ w' = w := by
  go_enter Tryd.func87, Tryd.ntmps87
  go_wp2_with (first
    | (go_at_call 88; (with_reducible show Calls _ _ #[_, .int .i64 (i : Int)] _ _); refine (right_any _ x i hi hi').mono ?_; rintro e w' ⟨rfl, rfl⟩)
    | (go_at_call 88; (with_reducible show Calls _ _ #[_, .int .i64 (j : Int)] _ _); refine (right_any _ x j hj hj').mono ?_; rintro e w' ⟨rfl, rfl⟩)
    | (go_at_call 88; (with_reducible show Calls _ _ #[_, .int .i64 (k : Int)] _ _); refine (right_any _ x k hk hk').mono ?_; rintro e w' ⟨rfl, rfl⟩))
  go_ret
  exact ⟨by rw [xor_bv, xor_bv]; rfl, rfl⟩

theorem rright_any (w : World) (x : W32) (n : Nat) (h0 : 0 < n) (h : n < 32) :
    Calls Tryd.prog 77 #[.int .u32 (x.toNat : Int), .int .u64 (n : Int)] w fun e w' => e = .returned (.int .u32 ((ror x n).toNat : Int)) ∧ w' = w := by
  go_enter Tryd.func77, Tryd.ntmps77
  go_wp2
  go_ret
  refine ⟨?_, rfl⟩
  rw [shl_bm, shr_bv, add_bm, ror_add x n h0 h]
  rfl

end Go.Proofs.YtckomfffilonlaaDoor
