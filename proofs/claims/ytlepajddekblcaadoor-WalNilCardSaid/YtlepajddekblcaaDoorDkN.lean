/-
  disk: disks that are not there.
-/
import Derived.Test.YtlepajddekblcaaDoorDkG
namespace Go.Proofs.YtlepajddekblcaaDoor
open Go.RowKit

set_option maxHeartbeats 1000000 in
theorem read_un (w : World) (p : Value) (log : Int) (hm : Calls Tryd.prog 50 #[p] w fun e w' => e = .returned (.bool false) ∧ w' = w) : Calls Tryd.prog 37 #[p, .int .i64 log] w fun e w' => e = .returned (.tuple #[.slice none 0 0, .int .i64 1]) ∧ w' = w := by
  go_enter Tryd.func37, Tryd.ntmps37
  go_wp2_with (first | (go_at_call 50; refine hm.mono ?_; rintro e w1 ⟨rfl, hw1⟩; obtain rfl := hw1))
  go_ret2
  exact ⟨rfl, rfl⟩
set_option maxHeartbeats 1000000 in
theorem append_un (w : World) (p : Value) (log : Int) (b : Value) (hm : Calls Tryd.prog 50 #[p] w fun e w' => e = .returned (.bool false) ∧ w' = w) : Calls Tryd.prog 51 #[p, .int .i64 log, b] w fun e w' => e = .returned (.int .i64 1) ∧ w' = w := by
  go_enter Tryd.func51, Tryd.ntmps51
  go_wp2_with (first | (go_at_call 50; refine hm.mono ?_; rintro e w1 ⟨rfl, hw1⟩; obtain rfl := hw1))
  go_ret
  exact ⟨rfl, rfl⟩
set_option maxHeartbeats 1000000 in
theorem cut_un (w : World) (p : Value) (log n : Int) (hm : Calls Tryd.prog 50 #[p] w fun e w' => e = .returned (.bool false) ∧ w' = w) : Calls Tryd.prog 39 #[p, .int .i64 log, .int .i64 n] w fun e w' => e = .returned (.int .i64 1) ∧ w' = w := by
  go_enter Tryd.func39, Tryd.ntmps39
  go_wp2_with (first | (go_at_call 50; refine hm.mono ?_; rintro e w1 ⟨rfl, hw1⟩; obtain rfl := hw1))
  go_ret
  exact ⟨rfl, rfl⟩
set_option maxHeartbeats 1000000 in
theorem sync_un (w : World) (p : Value) (hm : Calls Tryd.prog 50 #[p] w fun e w' => e = .returned (.bool false) ∧ w' = w) : Calls Tryd.prog 68 #[p] w fun e w' => e = .returned (.int .i64 1) ∧ w' = w := by
  go_enter Tryd.func68, Tryd.ntmps68
  go_wp2_with (first | (go_at_call 50; refine hm.mono ?_; rintro e w1 ⟨rfl, hw1⟩; obtain rfl := hw1))
  go_ret
  exact ⟨rfl, rfl⟩
set_option maxHeartbeats 1000000 in
theorem setFuse_un (w : World) (p : Value) (n : Int) (hm : Calls Tryd.prog 50 #[p] w fun e w' => e = .returned (.bool false) ∧ w' = w) : Calls Tryd.prog 23 #[p, .int .i64 n] w fun e w' => e = .returned (.int .i64 1) ∧ w' = w := by
  go_enter Tryd.func23, Tryd.ntmps23
  go_wp2_with (first | (go_at_call 50; refine hm.mono ?_; rintro e w1 ⟨rfl, hw1⟩; obtain rfl := hw1))
  go_ret
  exact ⟨rfl, rfl⟩
set_option maxHeartbeats 1000000 in
theorem crash_un (w : World) (p : Value) (k n : Int) (hm : Calls Tryd.prog 50 #[p] w fun e w' => e = .returned (.bool false) ∧ w' = w) : Calls Tryd.prog 25 #[p, .int .i64 k, .int .i64 n] w fun e w' => e = .returned (.int .i64 1) ∧ w' = w := by
  go_enter Tryd.func25, Tryd.ntmps25
  go_wp2_with (first | (go_at_call 50; refine hm.mono ?_; rintro e w1 ⟨rfl, hw1⟩; obtain rfl := hw1))
  go_ret
  exact ⟨rfl, rfl⟩
set_option maxHeartbeats 1000000 in
theorem edit_un (w : World) (p : Value) (k n x : Int) (hm : Calls Tryd.prog 50 #[p] w fun e w' => e = .returned (.bool false) ∧ w' = w) : Calls Tryd.prog 46 #[p, .int .i64 k, .int .i64 n, .int .u8 x] w fun e w' => e = .returned (.int .i64 1) ∧ w' = w := by
  go_enter Tryd.func46, Tryd.ntmps46
  go_wp2_with (first | (go_at_call 50; refine hm.mono ?_; rintro e w1 ⟨rfl, hw1⟩; obtain rfl := hw1))
  go_ret
  exact ⟨rfl, rfl⟩
/-! a log's bytes are at their most -/
def zs (n : Nat) : List UInt8 := List.replicate n 0
theorem zs_len (n : Nat) : (zs n).length = n := List.length_replicate
def fullD (b : List UInt8) : DkD := waitD newD (.put 3 b)
def fullE (b : List UInt8) : DkD := waitD (fullD b) (.put 3 [])
theorem full_1 (b : List UInt8) (h : b.length = 16777217) : appendD newD 3 b = (newD, 8) := by
  have h1 : decide (16777216 < (rowD newD.X (16 + (3 : Int).toNat)).length + b.length) = true := decide_eq_true (by rw [h]; omega)
  unfold appendD
  rw [h1]
  rfl
theorem full_2 (b : List UInt8) (h : b.length = 16777216) : appendD newD 3 b = (fullD b, 0) := by
  have h0 : (rowD newD.X (16 + (3 : Int).toNat)).length = 0 := rfl
  have h1 : decide (16777216 < (rowD newD.X (16 + (3 : Int).toNat)).length + b.length) = false := decide_eq_false (by rw [h, h0]; omega)
  unfold appendD
  rw [h1]
  rfl
theorem full_r (b : List UInt8) : rowD (fullD b).X (16 + (3 : Int).toNat) = b := by
  show [] ++ b = b
  rfl
theorem full_3 (b : List UInt8) (h : b.length = 16777216) : appendD (fullD b) 3 [0] = (fullD b, 8) := by
  have h1 : decide (16777216 < (rowD (fullD b).X (16 + (3 : Int).toNat)).length + [(0 : UInt8)].length) = true := decide_eq_true (by rw [full_r, h]; simp)
  unfold appendD
  rw [h1]
  rfl
theorem full_4 (b : List UInt8) (h : b.length = 16777216) : appendD (fullD b) 3 [] = (fullE b, 0) := by
  have h1 : decide (16777216 < (rowD (fullD b).X (16 + (3 : Int).toNat)).length + ([] : List UInt8).length) = false := decide_eq_false (by rw [full_r, h]; simp)
  unfold appendD
  rw [h1]
  rfl
theorem full_5 (b : List UInt8) : appendD (fullE b) 16 [] = (fullE b, 2) := rfl
theorem full_6 (b : List UInt8) : cutD (fullE b) 0 1 = (fullE b, 2) := rfl
theorem full_7 (b : List UInt8) : fuseD (fullE b) (-1) = (fullE b, 2) := rfl
theorem full_8 (b : List UInt8) : editD (fullE b) 0 0 1 = (fullE b, 2) := rfl
theorem full_w (b : List UInt8) : (fullD b).W.length = 1 ∧ (fullE b).W.length = 2 := ⟨rfl, rfl⟩
theorem fullD_wf (b : List UInt8) (h : b.length = 16777216) : DkWf (fullD b) := by have := appendD_wf newD_wf 3 b; rw [full_2 b h] at this; exact this
theorem fullE_wf (b : List UInt8) (h : b.length = 16777216) : DkWf (fullE b) := by have := appendD_wf (fullD_wf b h) 3 []; rw [full_4 b h] at this; exact this
end Go.Proofs.YtlepajddekblcaaDoor
