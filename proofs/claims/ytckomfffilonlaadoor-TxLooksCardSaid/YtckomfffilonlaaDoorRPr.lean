/-
  The document's tables, and the document's pressing.
-/
import Derived.Test.YtckomfffilonlaaDoorPress
import Derived.Deep.RegionHeld3
namespace Go.Proofs.YtckomfffilonlaaDoor
open Go.RowKit

section
variable {P : Program} {w : World}
/-- An operation whose run is known. -/
theorem wpList_run' {ops : Array Oper} {rest : List Oper} {o : Oper} {a : Act} {Q : Exit → Act → World → Prop} (hgd : o.guard = none) (v : Value)
    (hr : (execOp a.eval o).run P w = .ok (.value v) w) (h : wpList P ops Q rest (a.put o.dst v) w) : wpList P ops Q (o :: rest) a w := by
  refine wpList_plain hgd fun _ hK => ?_
  unfold Oper.wp
  rw [hr]
  exact hK _ _ h
end
set_option maxRecDepth 100000 in
theorem rstarts_any (w : World) : Calls Tryd.prog 50 #[] w fun e w' => e = .returned (.agg (Wd start8.list).toArray) ∧ Below w.heap.size w w' := by
  have B0 : Hid (Blk (w.alloc (.cells (Wd (mixS ⟨0, 0, 0, 0, 0, 0, 0, 0⟩ start8 0)).toArray 89)) w.heap.size 89 (Wd (mixS ⟨0, 0, 0, 0, 0, 0, 0, 0⟩ start8 0)).toArray) := Blk.newAt rfl rfl
  go_enter Tryd.func50, Tryd.ntmps50
  go_wp2_with (first
    | ((with_reducible show wpList _ _ _ (⟨some 1, _, _, _, _, _⟩ :: _) _ _); refine wpList_run' rfl (.agg (Wd start8.list).toArray) (by kernel_rfl) ?_)
    | ((with_reducible show wpList _ _ _ (⟨none, _, _, _, _, _⟩ :: _) _ _); refine wpList_store_all rfl 89 (.tmp 0) (.tmp 1) rfl w.heap.size 89 _ (Wd start8.list).toArray rfl rfl B0.out rfl (s8size _) (Wd_one _) ?_; intro w3 h5 h6 h7; have H5 := Lib.hid h5; have H6 := Lib.hid h6; clear h5 h6 h7))
  refine bodyPost_ret (results_cell_row Tryd.results50 _ _ w.heap.size 89 _ (0, 0) _ rfl H5.out Tryd.underlying89 rfl (s8size _)) rfl ⟨rfl, ?_⟩
  exact ((Below.refl _ _).alloc (Nat.le_refl _) _).trans (H6.out.below (by simp) (fun k hk => by omega))

theorem wsize (L : List W32) (h : L.length = 64) : (Tryd.prog.info? 115).map (·.size) = some (Wd L).toArray.size := by rw [Tryd.w64size, List.size_toArray, Wd_length, h]
theorem wsize' (L : List W32) (h : L.length = 64) : (wArr []).size = (Wd L).toArray.size := by simp [wArr, Wd_length, h]
set_option maxHeartbeats 4000000 in
set_option maxRecDepth 100000 in
theorem rconsts_l (w : World) (L : List W32) (hL : L = kL) : Calls Tryd.prog 76 #[] w fun e w' => e = .returned (.agg (Wd L).toArray) ∧ Below w.heap.size w w' := by
  have hl : L.length = 64 := by rw [hL, kL_length]
  have HS := Lib.hid (wsize L hl)
  have HS' := Lib.hid (wsize' L hl)
  have HL := Lib.hid hL
  clear hl hL
  have B0 : Hid (Blk (w.alloc (.cells (wArr []) 115)) w.heap.size 115 (wArr [])) := Blk.newAt rfl rfl
  go_enter Tryd.func76, Tryd.ntmps76
  go_wp2_with (first
    | ((with_reducible show wpList _ _ _ (⟨some 1, _, _, _, _, _⟩ :: _) _ _); refine wpList_run' rfl (.agg (Wd L).toArray) (by rw [HL.out]; kernel_rfl) ?_)
    | ((with_reducible show wpList _ _ _ (⟨none, _, _, _, _, _⟩ :: _) _ _); refine wpList_store_all rfl 115 (.tmp 0) (.tmp 1) rfl w.heap.size 115 (wArr []) (Wd L).toArray rfl rfl B0.out HS'.out HS.out (Wd_one L) ?_; intro w3 h5 h6 h7; have H5 := Lib.hid h5; have H6 := Lib.hid h6; clear h5 h6 h7))
  refine bodyPost_ret (results_cell_row Tryd.results76 _ _ w.heap.size 115 _ (0, 0) _ rfl H5.out Tryd.underlying115 rfl HS.out) rfl ⟨rfl, ?_⟩
  exact ((Below.refl _ _).alloc (Nat.le_refl _) _).trans (H6.out.below (by simp) (fun k hk => by omega))

end Go.Proofs.YtckomfffilonlaaDoor
