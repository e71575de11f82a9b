/-
  money: the chapter's rows; MoneySums, the walk.
-/
import Derived.Test.YtipjhjgjomfflaaDoorMo4
import Derived.Test.YtipjhjgjomfflaaDoorMo8
namespace Go.Proofs.YtipjhjgjomfflaaDoor
open Go.RowKit Go.Sort

theorem text_a : textV 150000000 = [49, 46, 53] ∧ textE 150000000 = 0 := by
  have h : (150000000 : Nat) ≤ maxM := by unfold maxM; omega
  obtain ⟨h1, h2⟩ := text_yes h
  refine ⟨?_, h2⟩
  rw [h1, money_rest (by omega), show 150000000 / 100000000 = 1 from rfl, dec_small (by omega), show restT (150000000 % 100000000) = [53] by decide +kernel]
  rfl
theorem text_b : textV 7 = [48, 46, 48, 48, 48, 48, 48, 48, 48, 55] ∧ textE 7 = 0 := by
  have h : (7 : Nat) ≤ maxM := by unfold maxM; omega
  obtain ⟨h1, h2⟩ := text_yes h
  refine ⟨?_, h2⟩
  rw [h1, money_rest (by omega), show 7 / 100000000 = 0 from rfl, dec_small (by omega), show restT (7 % 100000000) = [48, 48, 48, 48, 48, 48, 48, 55] by decide +kernel]
  rfl

def KnownPost (w : World) (e : Ending) (w' : World) : Prop := e = .returned (.bool true) ∧ Below w.heap.size w w'
theorem text_at (w : World) (hT : Tb w) (x : Int) (a : Nat) (hx : x = a) : Calls Tryd.prog 16 #[.int .u64 x] w (TextPost a w) := by subst hx; exact text_any w hT a

set_option maxHeartbeats 1000000 in
set_option maxRecDepth 100000 in
theorem known_any (w : World) (hT : Tb w) : Calls Tryd.prog 6 #[] w (KnownPost w) := by
  have HT := Lib.hid hT
  have HA := Lib.hid text_a
  have HB := Lib.hid text_b
  clear hT
  go_enter Tryd.func6, Tryd.ntmps6
  go_wp2_with (first
    | (go_at_call 16; ((with_reducible refine (text_at _ HT.out 150000000 150000000 rfl).mono ?_); rintro e w1 ⟨rfl, hb1⟩; rw [HA.out.1, HA.out.2]; have Hb1 := Lib.hid hb1; clear hb1))
    | (go_at_call 16; ((with_reducible refine (text_at _ (HT.out.later Hb1.out) 7 7 rfl).mono ?_); rintro e w2 ⟨rfl, hb2⟩; rw [HB.out.1, HB.out.2]; have Hb2 := Lib.hid hb2; clear hb2))
    | (go_at_call 14; ((with_reducible refine (num_any _ 0).mono ?_); rintro e w' ⟨rfl, rfl⟩)))
  go_ret
  exact ⟨rfl, nxTo Hb1.out Hb2.out⟩
end Go.Proofs.YtipjhjgjomfflaaDoor
