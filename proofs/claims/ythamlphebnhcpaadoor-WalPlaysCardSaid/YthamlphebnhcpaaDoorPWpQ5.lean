/-
  disk: the document's own disk: Do.
  disk: what a loss of power leaves; a slice of an own row.
-/
import Derived.Test.YthamlphebnhcpaaDoorPWpQ1
namespace Go.Proofs.YthamlphebnhcpaaDoor
open Go.RowKit

theorem RPost.from {w w1 w' : World} {g : Nat} {m : RfM} {D : DkD} (h : RfOk w g m) (b : Below w.heap.size w w1) {e : Ending} (p : RPost w1 g m D e w') : RPost w g m D e w' := by
  obtain ⟨n, m', he, h1, h2⟩ := p
  exact ⟨n, m', he, (RfTo.below h b).trans h1, h2⟩
end Go.Proofs.YthamlphebnhcpaaDoor

namespace Go.Proofs.YthamlphebnhcpaaDoor
open Go.RowKit

theorem rowD_up {X : List (List UInt8)} (hn : 16 ≤ X.length) {i : Nat} (hi : i < 16) : rowD (X.take 16 ++ X.take 16) (16 + i) = rowD X i := by
  have h : (X.take 16).length = 16 := by rw [List.length_take]; omega
  unfold rowD
  rw [List.getD_eq_getElem?_getD, List.getD_eq_getElem?_getD, List.getElem?_append_right (by omega), h, Nat.add_sub_cancel_left, List.getElem?_take_of_lt hi]
theorem crashD_near {D : DkD} (wf : DkWf D) (keep tear : Int) : ∃ k, k ≤ D.W.length ∧ ∀ i, i < 16 → ∃ e, rowD (crashD D keep tear).X (16 + i) = rowD (doAll 0 D.X (D.W.take k)) i ++ e ∧
    (e ≠ [] → ∃ b r, D.W.drop k = .put i b :: r ∧ e.length ≤ b.length ∧ e = b.take e.length) := by
  have h0 := Int.emod_nonneg keep (show ((D.W.length : Int) + 1) ≠ 0 by omega)
  have h1 := Int.emod_lt_of_pos keep (show 0 < ((D.W.length : Int) + 1) by omega)
  obtain ⟨k, hk⟩ : ∃ k, (keep % ((D.W.length : Int) + 1)).toNat = k := ⟨_, rfl⟩
  refine ⟨k, by omega, fun i hi => ?_⟩
  have hl : (doAll 0 D.X (D.W.take k)).length = 32 := by rw [doAll_len]; exact wf.n
  have hX : (crashD D keep tear).X = (tornD (settleD k D) tear).X.take 16 ++ (tornD (settleD k D) tear).X.take 16 := by
    unfold crashD upD
    rw [hk]
  rw [hX]
  cases hd : D.W.drop k with
  | nil =>
    have ht : tornD (settleD k D) tear = settleD k D := by
      unfold tornD
      have : (settleD k D).W = [] := hd
      rw [this]
    rw [ht, rowD_up (by show 16 ≤ (doAll 0 D.X (D.W.take k)).length; omega) hi]
    exact ⟨[], by rw [List.append_nil]; rfl, fun h => absurd rfl h⟩
  | cons s r =>
    have ht : (tornD (settleD k D) tear).X = tornS (doAll 0 D.X (D.W.take k)) tear s := by
      unfold tornD
      have : (settleD k D).W = s :: r := hd
      rw [this]
      rfl
    rw [ht]
    cases s with
    | cut j n =>
      rw [rowD_up (by show 16 ≤ (doAll 0 D.X (D.W.take k)).length; omega) hi]
      exact ⟨[], by rw [List.append_nil]; rfl, fun h => absurd rfl h⟩
    | put j b =>
      have hj : j < 16 := by
        have h2 : okW D.X (D.W.take k ++ D.W.drop k) := by rw [List.take_append_drop]; exact wf.w
        have h3 := (okW_app.1 h2).2
        rw [hd] at h3
        exact h3.1.1
      rw [rowD_up (by show 16 ≤ (List.set _ _ _).length; rw [List.length_set]; omega) hi]
      show ∃ e, rowD ((doAll 0 D.X (D.W.take k)).set j _) i = _ ∧ _
      rw [rowD_set (by omega)]
      by_cases hij : i = j
      · subst hij
        rw [if_pos rfl]
        refine ⟨_, rfl, fun _ => ⟨b, r, rfl, by rw [List.length_take]; exact Nat.min_le_right _ _, ?_⟩⟩
        rw [List.length_take]
        by_cases hq : (tear % ((b.length : Int) + 1)).toNat ≤ b.length
        · rw [Nat.min_eq_left hq]
        · rw [Nat.min_eq_right (by omega), List.take_of_length_le (by omega), List.take_length]
      · rw [if_neg hij]
        exact ⟨[], by rw [List.append_nil], fun h => absurd rfl h⟩
/-- A beginning of an own row is an own row. -/
theorem own_prefix {w : World} {A : Option Addr} {n c k s : Nat} {t : TypeId} {xs : List Value} (h : w.ownsRow 0 t s (.slice A n c) n xs) (hk : k ≤ n) : w.ownsRow 0 t s (.slice A k c) k (xs.take (k * s)) := by
  have hks : k * s ≤ n * s := Nat.mul_le_mul_right s hk
  have hl := h.1
  refine ⟨by rw [List.length_take, hl]; omega, ?_⟩
  rcases h.2 with ⟨hv, h0⟩ | ⟨g, cap, cur, hv, hb, hh, hnc, hcm, hcs, ht⟩
  · injection hv with a1 a2 a3
    subst a1 a3
    have : k = 0 := by omega
    subst this
    exact .inl ⟨rfl, rfl⟩
  · injection hv with a1 a2 a3
    subst a1 a3
    exact .inr ⟨g, c, cur, rfl, hb, hh, by omega, hcm, hcs, by rw [← ht, List.take_take, Nat.min_eq_left hks]⟩
end Go.Proofs.YthamlphebnhcpaaDoor
