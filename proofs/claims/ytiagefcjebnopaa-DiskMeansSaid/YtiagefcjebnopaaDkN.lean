/-
  disk: disks that are not there.
-/
import Derived.Test.YtiagefcjebnopaaDkG
namespace Go.Proofs.Ytiagefcjebnopaa
open Go.RowKit

set_option maxHeartbeats 1000000 in
theorem read_un (w : World) (p : Value) (log : Int) (hm : Calls Try.prog 26 #[p] w fun e w' => e = .returned (.bool false) ∧ w' = w) : Calls Try.prog 10 #[p, .int .i64 log] w fun e w' => e = .returned (.tuple #[.slice none 0 0, .int .i64 1]) ∧ w' = w := by
  go_enter Try.func10, Try.ntmps10
  go_wp2_with (first | (go_at_call 26; refine hm.mono ?_; rintro e w1 ⟨rfl, hw1⟩; obtain rfl := hw1))
  go_ret2
  exact ⟨rfl, rfl⟩
set_option maxHeartbeats 1000000 in
theorem append_un (w : World) (p : Value) (log : Int) (b : Value) (hm : Calls Try.prog 26 #[p] w fun e w' => e = .returned (.bool false) ∧ w' = w) : Calls Try.prog 20 #[p, .int .i64 log, b] w fun e w' => e = .returned (.int .i64 1) ∧ w' = w := by
  go_enter Try.func20, Try.ntmps20
  go_wp2_with (first | (go_at_call 26; refine hm.mono ?_; rintro e w1 ⟨rfl, hw1⟩; obtain rfl := hw1))
  go_ret
  exact ⟨rfl, rfl⟩
set_option maxHeartbeats 1000000 in
theorem cut_un (w : World) (p : Value) (log n : Int) (hm : Calls Try.prog 26 #[p] w fun e w' => e = .returned (.bool false) ∧ w' = w) : Calls Try.prog 21 #[p, .int .i64 log, .int .i64 n] w fun e w' => e = .returned (.int .i64 1) ∧ w' = w := by
  go_enter Try.func21, Try.ntmps21
  go_wp2_with (first | (go_at_call 26; refine hm.mono ?_; rintro e w1 ⟨rfl, hw1⟩; obtain rfl := hw1))
  go_ret
  exact ⟨rfl, rfl⟩
set_option maxHeartbeats 1000000 in
theorem sync_un (w : World) (p : Value) (hm : Calls Try.prog 26 #[p] w fun e w' => e = .returned (.bool false) ∧ w' = w) : Calls Try.prog 22 #[p] w fun e w' => e = .returned (.int .i64 1) ∧ w' = w := by
  go_enter Try.func22, Try.ntmps22
  go_wp2_with (first | (go_at_call 26; refine hm.mono ?_; rintro e w1 ⟨rfl, hw1⟩; obtain rfl := hw1))
  go_ret
  exact ⟨rfl, rfl⟩
set_option maxHeartbeats 1000000 in
theorem setFuse_un (w : World) (p : Value) (n : Int) (hm : Calls Try.prog 26 #[p] w fun e w' => e = .returned (.bool false) ∧ w' = w) : Calls Try.prog 23 #[p, .int .i64 n] w fun e w' => e = .returned (.int .i64 1) ∧ w' = w := by
  go_enter Try.func23, Try.ntmps23
  go_wp2_with (first | (go_at_call 26; refine hm.mono ?_; rintro e w1 ⟨rfl, hw1⟩; obtain rfl := hw1))
  go_ret
  exact ⟨rfl, rfl⟩
set_option maxHeartbeats 1000000 in
theorem crash_un (w : World) (p : Value) (k n : Int) (hm : Calls Try.prog 26 #[p] w fun e w' => e = .returned (.bool false) ∧ w' = w) : Calls Try.prog 16 #[p, .int .i64 k, .int .i64 n] w fun e w' => e = .returned (.int .i64 1) ∧ w' = w := by
  go_enter Try.func16, Try.ntmps16
  go_wp2_with (first | (go_at_call 26; refine hm.mono ?_; rintro e w1 ⟨rfl, hw1⟩; obtain rfl := hw1))
  go_ret
  exact ⟨rfl, rfl⟩
set_option maxHeartbeats 1000000 in
theorem edit_un (w : World) (p : Value) (k n x : Int) (hm : Calls Try.prog 26 #[p] w fun e w' => e = .returned (.bool false) ∧ w' = w) : Calls Try.prog 24 #[p, .int .i64 k, .int .i64 n, .int .u8 x] w fun e w' => e = .returned (.int .i64 1) ∧ w' = w := by
  go_enter Try.func24, Try.ntmps24
  go_wp2_with (first | (go_at_call 26; refine hm.mono ?_; rintro e w1 ⟨rfl, hw1⟩; obtain rfl := hw1))
  go_ret
  exact ⟨rfl, rfl⟩
set_option maxHeartbeats 1000000 in
theorem len_un (w : World) (p : Value) (k : Int) (hm : Calls Try.prog 26 #[p] w fun e w' => e = .returned (.bool false) ∧ w' = w) : Calls Try.prog 25 #[p, .int .i64 k] w fun e w' => e = .returned (.int .i64 0) ∧ w' = w := by
  go_enter Try.func25, Try.ntmps25
  go_wp2_with (first | (go_at_call 26; refine hm.mono ?_; rintro e w1 ⟨rfl, hw1⟩; obtain rfl := hw1))
  go_ret
  exact ⟨rfl, rfl⟩
set_option maxHeartbeats 1000000 in
theorem waiting_un (w : World) (p : Value) (hm : Calls Try.prog 26 #[p] w fun e w' => e = .returned (.bool false) ∧ w' = w) : Calls Try.prog 13 #[p] w fun e w' => e = .returned (.int .i64 0) ∧ w' = w := by
  go_enter Try.func13, Try.ntmps13
  go_wp2_with (first | (go_at_call 26; refine hm.mono ?_; rintro e w1 ⟨rfl, hw1⟩; obtain rfl := hw1))
  go_ret
  exact ⟨rfl, rfl⟩
set_option maxHeartbeats 1000000 in
theorem dead_un (w : World) (p : Value) (hm : Calls Try.prog 26 #[p] w fun e w' => e = .returned (.bool false) ∧ w' = w) : Calls Try.prog 14 #[p] w fun e w' => e = .returned (.bool false) ∧ w' = w := by
  go_enter Try.func14, Try.ntmps14
  go_wp2_with (first | (go_at_call 26; refine hm.mono ?_; rintro e w1 ⟨rfl, hw1⟩; obtain rfl := hw1))
  go_ret
  exact ⟨rfl, rfl⟩
set_option maxHeartbeats 1000000 in
theorem copy_un (w : World) (p : Value) (hm : Calls Try.prog 26 #[p] w fun e w' => e = .returned (.bool false) ∧ w' = w) : Calls Try.prog 11 #[p] w fun e w' => e = .returned (.pointer none) ∧ w' = w := by
  go_enter Try.func11, Try.ntmps11
  go_wp2_with (first | (go_at_call 26; refine hm.mono ?_; rintro e w1 ⟨rfl, hw1⟩; obtain rfl := hw1))
  go_ret
  exact ⟨rfl, rfl⟩
set_option maxHeartbeats 1000000 in
theorem same_un (w : World) (p q : Value) (z : Bool) (hm : Calls Try.prog 26 #[p] w fun e w' => e = .returned (.bool false) ∧ w' = w) (hq : Calls Try.prog 26 #[q] w fun e w' => e = .returned (.bool z) ∧ w' = w) : Calls Try.prog 12 #[p, q] w fun e w' => e = .returned (.bool (!z)) ∧ w' = w := by
  go_enter Try.func12, Try.ntmps12
  cases z
  all_goals
    go_wp2_with (first | (go_at_call 26; (with_reducible show Calls _ _ #[p] _ _); refine hm.mono ?_; rintro e w1 ⟨rfl, hw1⟩; obtain rfl := hw1) | (go_at_call 26; (with_reducible show Calls _ _ #[q] _ _); refine hq.mono ?_; rintro e w1 ⟨rfl, hw1⟩; obtain rfl := hw1))
    go_ret
    exact ⟨rfl, rfl⟩

/-! a log's bytes are at their most -/
def zs (n : Nat) : List UInt8 := List.replicate n 0
theorem zs_len (n : Nat) : (zs n).length = n := List.length_replicate
def fullD (b : List UInt8) : DkD := waitD newD (.put 3 b)
def fullE (b : List UInt8) : DkD := waitD (fullD b) (.put 3 [])
theorem full_1 (b : List UInt8) (h : b.length = 16777217) : appendD newD 3 b = (newD, 8) := by
  have h1 : decide (16777216 < (rowD newD.X (16 + (3 : Int).toNat)).length + b.length) = true := decide_eq_true (by rw [h]; omega)
  unfold appendD
  rw [h1]
  rfl
theorem full_2 (b : List UInt8) (h : b.length = 16777216) : appendD newD 3 b = (fullD b, 0) := by
  have h0 : (rowD newD.X (16 + (3 : Int).toNat)).length = 0 := rfl
  have h1 : decide (16777216 < (rowD newD.X (16 + (3 : Int).toNat)).length + b.length) = false := decide_eq_false (by rw [h, h0]; omega)
  unfold appendD
  rw [h1]
  rfl
theorem full_r (b : List UInt8) : rowD (fullD b).X (16 + (3 : Int).toNat) = b := by
  show [] ++ b = b
  rfl
theorem full_3 (b : List UInt8) (h : b.length = 16777216) : appendD (fullD b) 3 [0] = (fullD b, 8) := by
  have h1 : decide (16777216 < (rowD (fullD b).X (16 + (3 : Int).toNat)).length + [(0 : UInt8)].length) = true := decide_eq_true (by rw [full_r, h]; simp)
  unfold appendD
  rw [h1]
  rfl
theorem full_4 (b : List UInt8) (h : b.length = 16777216) : appendD (fullD b) 3 [] = (fullE b, 0) := by
  have h1 : decide (16777216 < (rowD (fullD b).X (16 + (3 : Int).toNat)).length + ([] : List UInt8).length) = false := decide_eq_false (by rw [full_r, h]; simp)
  unfold appendD
  rw [h1]
  rfl
theorem full_5 (b : List UInt8) : appendD (fullE b) 16 [] = (fullE b, 2) := rfl
theorem full_6 (b : List UInt8) : cutD (fullE b) 0 1 = (fullE b, 2) := rfl
theorem full_7 (b : List UInt8) : fuseD (fullE b) (-1) = (fullE b, 2) := rfl
theorem full_8 (b : List UInt8) : editD (fullE b) 0 0 1 = (fullE b, 2) := rfl
theorem full_w (b : List UInt8) : (fullD b).W.length = 1 ∧ (fullE b).W.length = 2 := ⟨rfl, rfl⟩
theorem fullD_wf (b : List UInt8) (h : b.length = 16777216) : DkWf (fullD b) := by have := appendD_wf newD_wf 3 b; rw [full_2 b h] at this; exact this
theorem fullE_wf (b : List UInt8) (h : b.length = 16777216) : DkWf (fullE b) := by have := appendD_wf (fullD_wf b h) 3 []; rw [full_4 b h] at this; exact this
end Go.Proofs.Ytiagefcjebnopaa
