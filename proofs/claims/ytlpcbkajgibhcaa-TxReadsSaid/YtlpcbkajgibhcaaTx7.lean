/-
  tx: May, Out.
-/
import Derived.Test.YtlpcbkajgibhcaaTx6
namespace Go.Proofs.Ytlpcbkajgibhcaa
open Go.RowKit

theorem may_any (w : World) (t : TxR) (h : TxOk w t) : Calls Try.prog 16 #[.agg (txC t).toArray] w fun e w' => e = .returned (.bool (checkT t == 0)) ∧ Below w.heap.size w w' := by
  have hA := TxAt.new h
  have HR := Lib.hid (blkR (vs := txC t) hA.1)
  have HT := Lib.hid hA.2
  have HZ : Hid ((Try.prog.info? 28).map (·.size) = some (txC t).length) := Try.sizeTx
  have Hb0 : Hid (Below w.heap.size w (w.alloc (.cells (txC t).toArray 28))) := Lib.hid (nxAl (nxRf w) _)
  obtain ⟨z, hz⟩ : ∃ z, checkT t = z := ⟨_, rfl⟩
  have HZz := Lib.hid hz
  rw [hz]
  clear hA h hz
  go_enter Try.func16, Try.ntmps16
  go_wp2_with (first
    | ((with_reducible show wpList _ _ _ (⟨some 3, _, _, _, _, _⟩ :: _) _ _); refine wpList_load_mid rfl 28 (.tmp 1) rfl w.heap.size 0 rfl (txC t) _ HR.out Try.underlying28 rfl HZ.out ?_)
    | (go_at_call 22; refine (check_any _ t HT.out).mono ?_; rw [HZz.out]; rintro e w2 ⟨rfl, hb2⟩; have Hb2 : Hid (Below w.heap.size w w2) := nxTr Hb0.out hb2; clear hb2))
  go_ret
  exact ⟨rfl, Hb2.out⟩
end Go.Proofs.Ytlpcbkajgibhcaa
