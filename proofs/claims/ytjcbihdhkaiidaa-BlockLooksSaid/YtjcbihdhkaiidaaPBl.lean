/-
  BlockLooks holds: for every two blocks the call returns true, and the arguments read as they did. No condition.
-/
import Derived.Test.YtjcbihdhkaiidaaRows
import Derived.Test.YtjcbihdhkaiidaaBkP
import Derived.Test.YtjcbihdhkaiidaaBlF
import Derived.SizedLaws
namespace Go.Proofs.Ytjcbihdhkaiidaa.blockLooks
open Go.ChangeShapes Go.WideShapes Go.ChangeAt Go.RowKit

theorem own : ownKnob Try.prog.godebug = none := by kernel_rfl
theorem laidOut : laidOutB Try.prog = true := by kernel_rfl

set_option maxRecDepth 100000 in
theorem lifted (os : Os) (started : os.Started) (H : Type) (enc : TypeId × Value → H) :
    ReturnsInHanded {} Try.checked os 3 .any (Rows.blockLooksSpec.pre6 enc Try.prog Try.f3 Rows.blockLooksRow.domain false) (Rows.blockLooksSpec.post enc Try.prog Try.f3 false true false false) := by
  refine returnsInHanded_of_change_sized (C := Try.checked) own started (by kernel_rfl) Try.func3
    (ChangeSpec.witness6 (enc := enc) (C := Try.checked) false ⟨#[], #[.agg (bkC noBk).toArray, .agg (bkC noBk).toArray], []⟩ 8 (by kernel_rfl) (by kernel_rfl) (by kernel_rfl) (by kernel_rfl)) ?_
  intro W base args ds gs before hval0 hW hcnd hsz0 _
  have hW' := hW
  obtain ⟨p, q, hA0, hV, rfl, hfz, hnd⟩ := hW
  have hA : DataW.TrodAll enc Try.prog W 0 (fun _ => true) true Try.f3.params.toList args.toList ds p := hA0
  rw [Try.params3] at hA
  obtain ⟨v0, vs0, d0, ds0, p0, q0, hargs, rfl, rfl, h0, r0⟩ := trodAll_cons hA
  obtain ⟨v1, vs1, d1, ds1, p1, q1, rfl, rfl, rfl, h1, r1⟩ := trodAll_cons r0
  obtain ⟨rfl, rfl, rfl⟩ := trodAll_nil r1
  obtain rfl : args = #[v0, v1] := by cases args; simp_all
  obtain ⟨rfl, rfl⟩ := trodVars_none hV
  clear hA0 hA hval0 hargs
  simp only [List.append_nil] at hW'
  have h0k := h0
  have h1k := h1
  have hw0 : Wok 30 d0 := fun n hn => by
    have h : decide (n ≤ reachBytes) = true := List.all_eq_true.1 hsz0 n (DataW.weights_mem_each (j := 0) (t := 30) (by kernel_rfl) rfl n hn)
    have h2 := of_decide_eq_true h
    unfold reachBytes at h2
    omega
  have hw1 : Wok 30 d1 := fun n hn => by
    have h : decide (n ≤ reachBytes) = true := List.all_eq_true.1 hsz0 n (DataW.weights_mem_each (j := 1) (t := 30) (by kernel_rfl) rfl n hn)
    have h2 := of_decide_eq_true h
    unfold reachBytes at h2
    omega
  obtain ⟨fuel0, hf0⟩ := h0
  obtain ⟨L0, hch0, hl0⟩ := read_blk hf0 hw0
  obtain rfl := agg_of_blk hch0 hl0.h.f
  obtain ⟨fuel1, hf1⟩ := h1
  obtain ⟨L1, hch1, hl1⟩ := read_blk hf1 hw1
  obtain rfl := agg_of_blk hch1 hl1.h.f
  have hlt0 : ∀ x ∈ p0, x.block < W.heap.size := fun x hx => hW'.lt x (by simp [hx])
  have hlt1 : ∀ x ∈ p1, x.block < W.heap.size := fun x hx => hW'.lt x (by simp [hx])
  refine (blockLooks_any W L0 L1 hl0 hl1).mono fun e W' ⟨he, hg⟩ => ?_
  subst he
  exact ⟨_, rfl, _, [], _, [], _, [], hW', trodAll_cons_mk (shut_bool Try.underlying4 _) trodAll_mk0,
    trodAll_cons_mk (Below.trod laidOut (by kernel_rfl) (of_decide_eq_true (by kernel_rfl)) h0k hg hlt0) (trodAll_cons_mk (Below.trod laidOut (by kernel_rfl) (of_decide_eq_true (by kernel_rfl)) h1k hg hlt1) trodAll_mk0), rfl, World.keptBut_mono (fun x hx => ⟨hx, by simpa using hx⟩) (hg.frame (· ∈ p0 ++ p1)), fun h => by cases h⟩

theorem over : Rows.blockLooksRow.holds Try.pinned (OpenSpec.ofChange Rows.blockLooksSpec) :=
  OpenClaim.holds_of_wide 3 Try.f3 rfl rfl rfl rfl rfl rfl rfl ⟨rfl, rfl, rfl, rfl, rfl⟩ rfl rfl rfl rfl rfl (by kernel_rfl) Try.func3 (by kernel_rfl)
    (of_decide_eq_true (by kernel_rfl)) (by unfold Func.isWrapper; first | (rw [if_pos (by decide +kernel)]; kernel_rfl) | (rw [if_neg (by decide +kernel)]; exact ⟨rfl, rfl⟩))
    (fun os started H enc _ => lifted os started H enc)

theorem proved : Rows.BlockLooksSaid := over
end Go.Proofs.Ytjcbihdhkaiidaa.blockLooks
