/-
  The sizes that a number may have, as the document's reader asks them.
-/
import Derived.Test.YtlpcbkajgibhcaaRe4
namespace Go.Proofs.Ytlpcbkajgibhcaa
open Go.RowKit
set_option maxHeartbeats 400000 in
theorem dSize_any (n : Int) (w : World) : Calls Try.prog 34 #[.int .i64 n] w fun e w' => e = .returned (.bool (may n)) ∧ w = w' := by
  unfold may
  by_cases h1 : n = 1
  · subst h1
    go_enter Try.func34, Try.ntmps34
    go_wp2
    go_ret
    exact ⟨rfl, rfl⟩
  · by_cases h2 : n = 2
    · subst h2
      go_enter Try.func34, Try.ntmps34
      go_wp2
      go_ret
      exact ⟨rfl, rfl⟩
    · by_cases h4 : n = 4
      · subst h4
        go_enter Try.func34, Try.ntmps34
        go_wp2
        go_ret
        exact ⟨rfl, rfl⟩
      · have b1 : (n == 1) = false := beq_eq_false_iff_ne.2 h1
        have b2 : (n == 2) = false := beq_eq_false_iff_ne.2 h2
        have b4 : (n == 4) = false := beq_eq_false_iff_ne.2 h4
        go_enter Try.func34, Try.ntmps34
        go_wp2
        go_ret
        exact ⟨by simp [b1, b2, b4], rfl⟩

end Go.Proofs.Ytlpcbkajgibhcaa
