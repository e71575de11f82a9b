/-
  MoneyTexts, the walk.
-/
import Derived.Test.YtipjhjgjomfflaaDoorMoD
namespace Go.Proofs.YtipjhjgjomfflaaDoor
open Go.RowKit Go.Sort

set_option maxHeartbeats 4000000 in
set_option maxRecDepth 100000 in
theorem texts_any (w : World) (hT : Tb w) (a : Nat) (s : List UInt8) : Calls Tryd.prog 4 #[.int .u64 (a : Int), .string (Str s)] w (KnownPost w) := by
  have HT := Lib.hid hT
  clear hT
  by_cases hlen : 3000 < s.length
  · go_enter Tryd.func4, Tryd.ntmps4
    go_wp2_with (go_at_call 6; ((refine (known_any _ HT.out).mono ?_); rintro e w' ⟨rfl, hb⟩))
    go_ret
    exact ⟨rfl, hb⟩
  · have HM : Hid (s.length ≤ 3000) := by show _ ≤ _; omega
    go_enter Tryd.func4, Tryd.ntmps4
    go_wp2_with (first
      | (go_at_call 16; ((with_reducible refine (text_any _ HT.out a).mono ?_); rintro e w1 ⟨rfl, hb1⟩; have Hb1 := Lib.hid hb1; clear hb1))
      | (go_at_call 17; ((with_reducible refine (rtext_any _ a).mono ?_); rintro e w2 ⟨rfl, hb2⟩; have Hb2 : Hid (Below w.heap.size w w2) := (nxTo Hb1.out hb2); clear hb2))
      | (go_at_call 18; ((with_reducible refine (of_any _ (HT.out.later Hb2.out) s HM.out).mono ?_); rintro e w3 ⟨rfl, hb3⟩; have Hb3 : Hid (Below w.heap.size w w3) := (nxTo Hb2.out hb3); clear hb3))
      | (go_at_call 19; ((with_reducible refine (rof_any _ s HM.out).mono ?_); rintro e w4 ⟨rfl, hb4⟩; have Hb4 : Hid (Below w.heap.size w w4) := (nxTo Hb3.out hb4); clear hb4))
      | (go_at_call 14; ((refine (num_any _ _).mono ?_); rintro e w' ⟨rfl, rfl⟩))
      | (go_at_call 6; ((refine (known_any _ (HT.out.later Hb4.out)).mono ?_); rintro e w5 ⟨rfl, hb5⟩; have Hb5 := Lib.hid hb5; clear hb5)))
    go_ret
    exact ⟨rfl, nxTo Hb4.out Hb5.out⟩
end Go.Proofs.YtipjhjgjomfflaaDoor
