/-
  known(): the chapter's row.
-/
import Derived.Test.YtpdidobmfoapiaaWr2
namespace Go.Proofs.Ytpdidobmfoapiaa
open Go.RowKit

set_option maxHeartbeats 400000 in
theorem num_any (n : Int) (w : World) : Calls Try.prog 13 #[.int .i64 n] w fun e w' => e = .returned (.int .i64 n) ∧ w = w' := by
  go_enter Try.func13, Try.ntmps13
  go_wp2
  go_ret
  exact ⟨rfl, rfl⟩

theorem known_end : putBlob (putN (some []) 258 2) [7, 8] = some [2, 1, 2, 0, 0, 0, 7, 8] := by decide

/-- A new writer. -/
theorem WrS.new (w : World) (S : Nat → Prop) (hS : S w.heap.size) : WrS (w.alloc (.cells #[.slice none 0 0, .bool false] 67)) S w.heap.size (some []) :=
  ⟨hS, none, 0, heap_alloc_new w _, by simpa [By] using World.ownsRow_nil _ 0 _ 1, fun k hk => by simp [Value.ownBlock] at hk⟩

set_option maxHeartbeats 400000 in
theorem known_any (w : World) : Calls Try.prog 9 #[] w fun e w' => e = .returned (.bool true) ∧ Below w.heap.size w w' := by
  go_enter Try.func9, Try.ntmps9
  go_wp2_with (first
    | (go_at_call 35; refine (number_s _ (fun k => w.heap.size ≤ k) w.heap.size (some []) (WrS.new w _ (Nat.le_refl _)) (fun k hk => by simp at hk; omega) 258 2 (by omega) (by simp [lenS])).mono ?_; rintro e w1 ⟨rfl, hq1, hq2⟩; have hz1 : w.heap.size + 1 ≤ w1.heap.size := (by have := hq2.size; simpa using this); have Hq1 := Lib.hid hq1; have Hq2 := Lib.hid hq2; clear hq1 hq2)
    | (go_at_call 36; refine (blob_s _ (fun k => w.heap.size ≤ k ∧ k ≠ w1.heap.size) w.heap.size _ ((Hq1.out.re (fun k hk h => ⟨h, by omega⟩)).below ((Below.refl _ _).alloc (Nat.le_refl _) _)) (fun k hk => by simp at hk; omega) (w1.heap.size + 1) _ 2 2 [7, 8] rfl (Sees.lit w1 [7, 8] 5) (fun _ ad had _ => by injection had with had; subst had; simp) (by have := lenS_putN (some []) 258 2; simp [lenS] at this ⊢; omega)).mono ?_; rintro e w2 ⟨rfl, hq3, hq4⟩; rw [known_end] at hq3; have hz2 : w.heap.size + 1 ≤ w2.heap.size := (by have := hq4.size; simp at this; omega); have Hq3 := Lib.hid hq3; have Hq4 := Lib.hid hq4; clear hq3 hq4)
    | (go_at_call 12; refine (end_s _ _ _ _ Hq3.out (by simp [lenS])).mono ?_; rintro e w3 ⟨⟨A, c, rfl, ho⟩, hb3⟩; have qs : (convert 25 9 (.slice A 8 c)).run Try.prog w3 = .ok (.string (Str [2, 1, 2, 0, 0, 0, 7, 8])) w3 := run_string_sees Try.underlying25 Try.underlying5 Try.underlying9 rfl (Sees.own ho); have Hb3 := Lib.hid hb3; clear ho hb3)
    | (go_at_call 13; refine (num_any _ _).mono ?_; rintro e w' ⟨rfl, rfl⟩))
  go_ret
  have hfin : Below w.heap.size w w3 := by
    have k1 := (((Keeps.refl (fun k => w.heap.size ≤ k) w).alloc _).trans Hq2.out)
    have k2 := (k1.alloc (.cells #[.int .u8 7, .int .u8 8] 5)).trans (Hq4.out.mono (fun k _ h => h.1))
    exact (k2.trans (Keeps.of_below Hb3.out _)).below (Nat.le_refl _) (fun k hk => by omega)
  exact ⟨rfl, hfin⟩

end Go.Proofs.Ytpdidobmfoapiaa
