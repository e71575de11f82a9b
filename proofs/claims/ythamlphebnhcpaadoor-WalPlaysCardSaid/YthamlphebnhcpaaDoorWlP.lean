/-
  wal, the document's disk: Read.
-/
import Derived.Test.YthamlphebnhcpaaDoorPWpQ1
import Derived.Test.YthamlphebnhcpaaDoorDkA
namespace Go.Proofs.YthamlphebnhcpaaDoor
open Go.RowKit

def RReadPost (w : World) (m : RfM) (R : List UInt8 × Int) (e : Ending) (w' : World) : Prop :=
  ∃ r : RowM, e = .returned (.tuple #[r.v, .int .i64 R.2]) ∧ r.l = R.1 ∧ r.own w' ∧ (r.bk = none ∨ r ∈ m.rows ∨ ∀ j, r.bk = some j → w.heap.size ≤ j) ∧ Below w.heap.size w w'
set_option maxHeartbeats 2000000 in
theorem rread_any (w : World) (g : Nat) (m : RfM) (D : DkD) (h : RfOk w g m) (hD : RelR D m) (wf : DkWf D) (hW : m.W.length ≤ 1000) (log : Int) : Calls Tryd.prog 22 #[ptrD g, .int .i64 log] w (RReadPost w m (readD D log)) := by
  have H := Lib.hid h
  have HDD := Lib.hid hD
  have HWf := Lib.hid wf
  have HNow := Lib.hid (hD.now wf h hW)
  clear h hD wf hW
  unfold ptrD at HNow ⊢
  by_cases h0 : log < 0
  · have HC : Hid (readD D log = ([], 2)) := by show _ = _; unfold readD mayD; rw [decide_eq_false (by omega : ¬ (0 ≤ log))]; rfl
    have hd0 : decide (log < 0) = true := decide_eq_true h0
    rw [HC.out]
    go_enter Tryd.func22, Tryd.ntmps22
    go_wp2
    go_ret2
    exact ⟨noRow, rfl, rfl, noRow_own w, .inl rfl, nxRefl w⟩
  · by_cases h1 : 16 ≤ log
    · have HC : Hid (readD D log = ([], 2)) := by show _ = _; unfold readD mayD; rw [decide_eq_false (by omega : ¬ (log < 16)), Bool.and_false]; rfl
      have hd0 : decide (log < 0) = false := decide_eq_false h0
      have hd1 : decide (16 ≤ log) = true := decide_eq_true h1
      rw [HC.out]
      go_enter Tryd.func22, Tryd.ntmps22
      go_wp2
      go_ret2
      exact ⟨noRow, rfl, rfl, noRow_own w, .inl rfl, nxRefl w⟩
    · obtain ⟨i, rfl⟩ : ∃ i : Nat, log = (i : Int) := ⟨log.toNat, by omega⟩
      have hi : i < 16 := by omega
      have HI := Lib.hid hi
      have hd0 : decide ((i : Int) < 0) = false := decide_eq_false h0
      have hd1 : decide ((16 : Int) ≤ (i : Int)) = false := decide_eq_false h1
      have HC : Hid (readD D (i : Int) = (rowD D.X (16 + i), 0)) := by show _ = _; unfold readD mayD; rw [decide_eq_true (by omega), decide_eq_true (by omega)]; rfl
      rw [HC.out]
      clear hi
      go_enter Tryd.func22, Tryd.ntmps22
      go_wp2_with (first
        | (go_at_call 49; refine HNow.out.mono ?_; rintro e w1 ⟨rows, rfl, hn⟩; have HN := Lib.hid hn; have qx := index_rows w1 rows hn.n i HI.out; clear hn))
      go_ret2
      have hlt : i < rows.length := by rw [HN.out.n]; exact HI.out
      have hmem : rows.getD i noRow ∈ rows := by rw [List.getD_eq_getElem?_getD, List.getElem?_eq_getElem hlt]; exact List.getElem_mem hlt
      exact ⟨rows.getD i noRow, rfl, HN.out.at_ HDD.out HWf.out H.out.n HI.out, HN.out.o _ hmem, .inr (HN.out.a _ hmem), HN.out.v⟩
end Go.Proofs.YthamlphebnhcpaaDoor
