/-
  Writers and readers that are not there.
-/
import Derived.Test.YtpdidobmfoapiaaRd4
import Derived.Test.YtpdidobmfoapiaaEq
import Derived.Test.YtpdidobmfoapiaaKn
namespace Go.Proofs.Ytpdidobmfoapiaa
open Go.RowKit

set_option maxHeartbeats 400000 in
theorem number_nil (w : World) : Calls Try.prog 35 #[.pointer none, .int .u64 1, .int .i64 1] w fun e w' => e = .returned (.pointer none) ∧ Below w.heap.size w w' := by
  have Hm : Hid (may 1 = true) := rfl
  go_enter Try.func35, Try.ntmps35
  go_wp2_with ((go_at_call 44; refine (maySize_any _ _).mono ?_; rintro e w' ⟨rfl, rfl⟩; rw [Hm.out]))
  refine wp_loop_rounds 2 ?_
  rw [rounds_succ]
  go_wp2
  rw [rounds_succ]
  go_wp2_with ((go_at_call 39; refine (bytes_nil _ _ _ _).mono ?_; rintro e w' ⟨rfl, rfl⟩))
  go_ret
  exact ⟨rfl, (Below.refl _ _).alloc (Nat.le_refl _) _⟩

set_option maxHeartbeats 400000 in
theorem number_nil4 (w : World) : Calls Try.prog 35 #[.pointer none, .int .u64 0, .int .i64 4] w fun e w' => e = .returned (.pointer none) ∧ Below w.heap.size w w' := by
  have Hm : Hid (may 4 = true) := rfl
  go_enter Try.func35, Try.ntmps35
  go_wp2_with ((go_at_call 44; refine (maySize_any _ _).mono ?_; rintro e w' ⟨rfl, rfl⟩; rw [Hm.out]))
  refine wp_loop_rounds 5 ?_
  rw [rounds_succ]
  go_wp2
  rw [rounds_succ]
  go_wp2
  rw [rounds_succ]
  go_wp2
  rw [rounds_succ]
  go_wp2
  rw [rounds_succ]
  go_wp2_with ((go_at_call 39; refine (bytes_nil _ _ _ _).mono ?_; rintro e w' ⟨rfl, rfl⟩))
  go_ret
  exact ⟨rfl, (Below.refl _ _).alloc (Nat.le_refl _) _⟩

set_option maxHeartbeats 400000 in
theorem blob_nil (w : World) : Calls Try.prog 36 #[.pointer none, .slice none 0 0] w fun e w' => e = .returned (.pointer none) ∧ Below w.heap.size w w' := by
  go_enter Try.func36, Try.ntmps36
  go_wp2_with (first
    | (go_at_call 35; refine (number_nil4 _).mono ?_; rintro e w1 ⟨rfl, hb1⟩)
    | (go_at_call 39; refine (bytes_nil _ _ _ _).mono ?_; rintro e w' ⟨rfl, rfl⟩))
  go_ret
  exact ⟨rfl, hb1⟩

set_option maxHeartbeats 400000 in
theorem rnumber_no (w : World) (p : Value) (h : NoRd w p) (n : Int) : Calls Try.prog 15 #[p, .int .i64 n] w fun e w' => e = .returned (.int .u64 0) ∧ w = w' := by
  have H := Lib.hid h
  clear h
  go_enter Try.func15, Try.ntmps15
  go_wp2_with (first
    | (go_at_call 44; refine (maySize_any _ _).mono ?_; rintro e w' ⟨rfl, rfl⟩)
    | (go_at_call 43; refine (cut_no _ _ H.out _ _).mono ?_; rintro e w' ⟨rfl, rfl⟩))
  refine wp_loop_rounds 1 ?_
  rw [rounds_succ]
  go_wp2
  go_ret
  exact ⟨rfl, rfl⟩

set_option maxHeartbeats 400000 in
theorem rcount_no (w : World) (p : Value) (h : NoRd w p) : Calls Try.prog 21 #[p] w fun e w' => e = .returned (.int .i64 0) ∧ w = w' := by
  have H := Lib.hid h
  clear h
  go_enter Try.func21, Try.ntmps21
  go_wp2_with (go_at_call 15; refine (rnumber_no _ _ H.out _).mono ?_; rintro e w' ⟨rfl, rfl⟩)
  go_ret
  exact ⟨rfl, rfl⟩

set_option maxHeartbeats 400000 in
theorem rbytes_no (w : World) (p : Value) (h : NoRd w p) : Calls Try.prog 17 #[p, .int .i64 0] w fun e w' => e = .returned (.slice none 0 0) ∧ Below w.heap.size w w' := by
  have H := Lib.hid h
  clear h
  have qn := fun (W : World) (a : Option Addr) (n c : Nat) => run_eql_snil (P := Try.prog) W 25 5 a n c Try.underlying25
  go_enter Try.func17, Try.ntmps17
  go_wp2_with (first
    | (go_at_call 43; refine (cut_no _ _ H.out _ _).mono ?_; rintro e w' ⟨rfl, rfl⟩)
    | go_in)
  go_ret
  exact ⟨rfl, Below.refl _ _⟩

set_option maxHeartbeats 400000 in
set_option maxRecDepth 100000 in
theorem rhash_no (w : World) (p : Value) (h : NoRd w p) : Calls Try.prog 22 #[p] w fun e w' => e = .returned (.agg (By zero32).toArray) ∧ Below w.heap.size w w' := by
  have H : Hid (∀ w', Below w.heap.size w w' → NoRd w' p) := fun w' hb => by
    rcases h with h | ⟨g, h, hc⟩
    · exact .inl h
    · exact .inr ⟨g, h, cell_later hb hc⟩
  clear h
  go_enter Try.func22, Try.ntmps22
  go_wp2
  go_region_law (first | (refine step_copy_sees rfl (.tmp 4) (.tmp 6) 25 25 rfl 5 Try.underlying25 Try.u8size (w.heap.size + 1) 32 32 (by simp [Act.eval, Act.put]) 30 zero32 (Blk.second w _ 30 (By zero32).toArray) (by simp [zero32]) none 0 0 (by simp [Act.eval, Act.put]) 0 [] (.inl rfl) rfl ?_; intro w4 h1 h2 h3) | (go_simp; go_at_call 43; refine (cut_no _ _ (H.out _ (below_two w _ _)) 32 true).mono ?_; rintro e w1 ⟨rfl, rfl⟩))
  rw [over_nil] at h1
  have HB4 : Hid (Blk w4 w.heap.size 30 (By zero32).toArray) := (Blk.first w _ 30 (By zero32).toArray).keeps h2 (by omega)
  have HX := Lib.hid h1
  have Hk2 := Lib.hid h2
  have Hz2 := Lib.hid h3
  clear h1 h2 h3
  have HO : Hid ((Try.prog.info? 30).map (·.size) = some (By zero32).toArray.size) := Try.hsize
  go_wp2_with (first
    | ((with_reducible show wpList _ _ _ (⟨some 8, _, _, _, _, _⟩ :: _) _ _); refine wpList_load_row rfl 30 (.tmp 3) rfl (w.heap.size + 1) rfl 30 (By zero32).toArray (0, 0) _ HX.out Try.underlying30 rfl HO.out ?_)
    | ((with_reducible show wpList _ _ _ (⟨none, _, _, _, _, _⟩ :: _) _ _); refine wpList_store_all rfl 30 (.tmp 2) (.tmp 8) rfl w.heap.size 30 (By zero32).toArray (By zero32).toArray rfl rfl HB4.out rfl HO.out (By_one _) ?_; intro w5 h5 h6 h7; have H5 := Lib.hid h5; have H6 := Lib.hid h6; have H7 := Lib.hid h7; clear h5 h6 h7))
  refine bodyPost_ret (results_cell_row Try.results22 _ _ w.heap.size 30 _ (0, 0) _ rfl H5.out Try.underlying30 rfl HO.out) rfl ⟨rfl, ?_⟩
  have b2 := below_two w (.cells (By zero32).toArray 30) (.cells (By zero32).toArray 30)
  have z0 : ((w.alloc (.cells (By zero32).toArray 30)).alloc (.cells (By zero32).toArray 30)).drew.heap.size = w.heap.size + 2 := by simp
  exact (b2.trans (Hk2.out.below (by simp; omega) (fun k hk => by omega))).trans (H6.out.below (by have := Hz2.out; rw [this]; simp; omega) (fun k hk => by omega))

end Go.Proofs.Ytpdidobmfoapiaa
