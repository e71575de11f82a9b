/-
  wal: logs, and disks, that are not there.
-/
import Derived.Test.YtlepajddekblcaaDoorWlA
import Derived.Test.YtlepajddekblcaaDoorDkN
import Derived.Test.YtlepajddekblcaaDoorDkO
namespace Go.Proofs.YtlepajddekblcaaDoor
open Go.RowKit Go.Shelf

theorem isMade_nilW (w : World) : Calls Tryd.prog 50 #[.pointer none] w fun e w' => e = .returned (.bool false) ∧ w' = w := by
  go_enter Tryd.func50, Tryd.ntmps50
  go_wp2
  go_ret
  exact ⟨rfl, rfl⟩
theorem isOpen_nilW (w : World) : Calls Tryd.prog 49 #[.pointer none] w fun e w' => e = .returned (.bool false) ∧ w' = w := by
  go_enter Tryd.func49, Tryd.ntmps49
  go_wp2
  go_ret
  exact ⟨rfl, rfl⟩
theorem isOpen_zeroW (w : World) (g : Nat) (h : w.cell? ⟨g, 0, none⟩ = some (.pointer none)) : Calls Tryd.prog 49 #[.pointer (some ⟨g, 0, none⟩)] w fun e w' => e = .returned (.bool false) ∧ w' = w := by
  go_enter Tryd.func49, Tryd.ntmps49
  go_wp2
  go_ret
  exact ⟨rfl, rfl⟩
theorem wput_un (w : World) (p : Value) (b : Value) (hm : Calls Tryd.prog 49 #[p] w fun e w' => e = .returned (.bool false) ∧ w' = w) : Calls Tryd.prog 24 #[p, b] w fun e w' => e = .returned (.int .i64 1) ∧ w' = w := by
  go_enter Tryd.func24, Tryd.ntmps24
  go_wp2_with (first | (go_at_call 49; refine hm.mono ?_; rintro e w1 ⟨rfl, hw1⟩; obtain rfl := hw1.symm))
  go_ret
  exact ⟨rfl, rfl⟩
theorem wempty_un (w : World) (p : Value) (hm : Calls Tryd.prog 49 #[p] w fun e w' => e = .returned (.bool false) ∧ w' = w) : Calls Tryd.prog 27 #[p] w fun e w' => e = .returned (.int .i64 1) ∧ w' = w := by
  go_enter Tryd.func27, Tryd.ntmps27
  go_wp2_with (first | (go_at_call 49; refine hm.mono ?_; rintro e w1 ⟨rfl, hw1⟩; obtain rfl := hw1.symm))
  go_ret
  exact ⟨rfl, rfl⟩
theorem wlen_un (w : World) (p : Value) (hm : Calls Tryd.prog 49 #[p] w fun e w' => e = .returned (.bool false) ∧ w' = w) : Calls Tryd.prog 19 #[p] w fun e w' => e = .returned (.int .i64 0) ∧ w' = w := by
  go_enter Tryd.func19, Tryd.ntmps19
  go_wp2_with (first | (go_at_call 49; refine hm.mono ?_; rintro e w1 ⟨rfl, hw1⟩; obtain rfl := hw1.symm))
  go_ret
  exact ⟨rfl, rfl⟩
theorem wsize_un (w : World) (p : Value) (hm : Calls Tryd.prog 49 #[p] w fun e w' => e = .returned (.bool false) ∧ w' = w) : Calls Tryd.prog 20 #[p] w fun e w' => e = .returned (.int .i64 0) ∧ w' = w := by
  go_enter Tryd.func20, Tryd.ntmps20
  go_wp2_with (first | (go_at_call 49; refine hm.mono ?_; rintro e w1 ⟨rfl, hw1⟩; obtain rfl := hw1.symm))
  go_ret
  exact ⟨rfl, rfl⟩
theorem wdead_un (w : World) (p : Value) (hm : Calls Tryd.prog 49 #[p] w fun e w' => e = .returned (.bool false) ∧ w' = w) : Calls Tryd.prog 21 #[p] w fun e w' => e = .returned (.bool false) ∧ w' = w := by
  go_enter Tryd.func21, Tryd.ntmps21
  go_wp2_with (first | (go_at_call 49; refine hm.mono ?_; rintro e w1 ⟨rfl, hw1⟩; obtain rfl := hw1.symm))
  go_ret
  exact ⟨rfl, rfl⟩
theorem wbatches_un (w : World) (p : Value) (hm : ∀ w, Calls Tryd.prog 49 #[p] w fun e w' => e = .returned (.bool false) ∧ w' = w) : Calls Tryd.prog 26 #[p] w fun e w' => e = .returned (.func (.func 55) #[] #[.pointer (some ⟨w.heap.size, 0, none⟩)]) ∧ Blk w' w.heap.size 25 #[.slice none 0 0] ∧ Below w.heap.size w w' := by
  have hmf : ∀ (fn : Fn) (first cap : Array Value) (w : World), (Instr.makeFunc fn first cap).run Tryd.prog w = .ok (.func fn first cap) w := fun _ _ _ _ => rfl
  go_enter Tryd.func26, Tryd.ntmps26
  go_wp2_with (first
    | (go_at_call 49; refine (hm _).mono ?_; rintro e1 w1 ⟨rfl, hw1⟩; obtain rfl := hw1.symm))
  go_ret
  exact ⟨rfl, heap_alloc_new w _, nxAlloc (nxRefl w) _⟩
theorem open_un (w : World) (p : Value) (i : Int) (hm : Calls Tryd.prog 50 #[p] w fun e w' => e = .returned (.bool false) ∧ w' = w) : Calls Tryd.prog 15 #[p, .int .i64 i] w fun e w' => e = .returned (.tuple #[.pointer none, .int .i64 1]) ∧ w' = w := by
  go_enter Tryd.func15, Tryd.ntmps15
  go_wp2_with (first | (go_at_call 37; refine (read_un w p i hm).mono ?_; rintro e w1 ⟨rfl, hw1⟩; obtain rfl := hw1.symm))
  go_ret2
  exact ⟨rfl, rfl⟩
theorem open_arg (w : World) (g : Nat) (m : DkM) (h : DkOk w g m) (wf : DkWf m.d) (i : Int) (hi : mayD i = false) : Calls Tryd.prog 15 #[ptrD g, .int .i64 i] w fun e w' => e = .returned (.tuple #[.pointer none, .int .i64 2]) ∧ Below w.heap.size w w' := by
  have hr := readLog_any w g m h wf i
  have he : readD m.d i = ([], 2) := by unfold readD; rw [hi]; rfl
  rw [he] at hr
  unfold DReadPost ptrD at hr
  have HR := Lib.hid hr
  clear hr he hi h wf
  unfold ptrD
  go_enter Tryd.func15, Tryd.ntmps15
  go_wp2_with (first | (go_at_call 37; refine HR.out.mono ?_; rintro e w1 ⟨r, rfl, hl, ho, hn, hb⟩; have V1 := Lib.hid hb; unfold RowM.v; clear hl ho hn hb))
  go_ret2
  exact ⟨rfl, V1.out⟩
end Go.Proofs.YtlepajddekblcaaDoor
