/-
  wal: WalRecords.
-/
import Derived.Test.YthamlphebnhcpaaDoorWlA
import Derived.Test.YthamlphebnhcpaaDoorWlE
import Derived.Deep.DeepCutAuto
import Derived.Deep.RegionHeldLaw
import Derived.OpenShut
namespace Go.Proofs.YthamlphebnhcpaaDoor
open Go.RowKit

theorem WantW.later2 {w w' : World} {B : Nat} {A : Option Addr} {V : List RowM} (h : WantW w w.heap.size A V) (b : Below w.heap.size w w') : WantW w' w'.heap.size A V :=
  ⟨(h.s.below b).more b.size, fun r hr => ((h.r r hr).below b).more b.size⟩
theorem ScanPost.want {rows : List RowM} {A : Option Addr} {c B : Nat} {W : World} (h : W.ownsRow B 39 1 (.slice A rows.length c) rows.length (rowsC rows)) (h2 : ∀ r ∈ rows, r.own W ∧ ∀ j, r.bk = some j → B ≤ j) : WantW W W.heap.size A rows :=
  ⟨SeesV.own h, fun r hr => RowM.sees (h2 r hr).1⟩
theorem scanF_size : ∀ (f n : Nat) (b : List UInt8), sizeL (scanF f n b) ≤ b.length
  | 0, _, _ => Nat.zero_le _
  | f + 1, n, b => by
    unfold scanF
    cases h : stepR n b with
    | none => exact Nat.zero_le _
    | some p =>
      obtain ⟨x, q⟩ := p
      have h1 := (stepR_some h).2.2
      have h2 := scanF_size f (n + 1) q
      have e : sizeL (x :: scanF f (n + 1) q) = (20 + x.length) + sizeL (scanF f (n + 1) q) := by unfold sizeL; rw [List.map_cons, List.sum_cons]
      dsimp only
      rw [e]; omega
theorem scanB_size (b : List UInt8) : sizeL (scanB b) ≤ b.length := scanF_size _ _ _
theorem getElem_of_map {U V : List RowM} (h : U.map (·.l) = V.map (·.l)) {k : Nat} (hU : k < U.length) (hV : k < V.length) : U[k].l = V[k].l := by
  have : (U.map (·.l))[k]? = (V.map (·.l))[k]? := by rw [h]
  rw [List.getElem?_map, List.getElem?_map, List.getElem?_eq_getElem hU, List.getElem?_eq_getElem hV] at this
  injection this

end Go.Proofs.YthamlphebnhcpaaDoor
