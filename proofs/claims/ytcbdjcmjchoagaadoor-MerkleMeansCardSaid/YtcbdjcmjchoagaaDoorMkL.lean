/-
  merkle, the law's: same.
-/
import Derived.Test.YtcbdjcmjchoagaaDoorMkK
import Derived.Test.YtcbdjcmjchoagaaDoorEq
import Derived.BigQuiet
namespace Go.Proofs.YtcbdjcmjchoagaaDoor
open Go.RowKit

theorem hs_same {xs ys : List (List UInt8)} {k : Nat} (hl : xs.length = ys.length) (hk : k < xs.length) (hne : xs[k] ≠ ys[k]) : (xs == ys) = false := by
  rw [beq_eq_false_iff_ne]
  intro e
  subst e
  exact hne rfl

section
variable {P : Program}
theorem quiet_load_mid {C : World → Prop} {op : Oper} {a : Act} {K : Act → Prop} (ty : TypeId) (x : Operand) (ho : op.op = .load ty x)
    (b o : Nat) (hx : a.eval x = .pointer (some ⟨b, o, none⟩)) (cs : List Value) (d : TypeDesc) (hS : ∀ w, C w → w.rangeAt b o cs)
    (hu : P.underlying ty = some d) (hd : d.isRow = true) (hi : (P.info? ty).map (·.size) = some cs.length) (hk : K (a.put op.dst (.agg cs.toArray))) : op.quiet P a C K := by
  refine ⟨_, fun w hw => ?_, hk⟩
  unfold Oper.quietAt execOp
  simp only [ho, hx, Instr.loadAt, Instr.sureAddr, Sem.run_bind, Sem.run_pure, Result.andThen_ok, run_loadVar_mid w b o ty cs d (hS w hw) hu hd hi]
  exact ⟨rfl, rfl⟩
theorem quiet_neq_bytes {C : World → Prop} {op : Oper} {a : Act} {K : Act → Prop} (t e : TypeId) (x y : Operand) (ho : op.op = .binOp .neq t x y t) (n : Nat) (ht : P.underlying t = some (.array n e)) (he : P.underlying e = some (.int .u8)) (hs : (P.info? e).map (·.size) = some 1) (hg : P.eqGuardType P.depth t = false)
    (l k : List UInt8) (hl : l.length = n) (hk : k.length = n) (hx : a.eval x = .agg (By l).toArray) (hy : a.eval y = .agg (By k).toArray) (h : K (a.put op.dst (.bool (!(l == k))))) : op.quiet P a C K := by
  refine ⟨_, fun w hw => ?_, h⟩
  unfold Oper.quietAt execOp
  have hq : (eqGuard .neq t x y (.agg (By l).toArray) (.agg (By k).toArray)).run P w = .ok () w := by simp [eqGuard, hg]
  simp only [ho, hx, hy, Sem.run_bind, Sem.run_pure, Result.andThen_ok, hq, run_neq_bytes n t e ht he hs l k hl hk]
  exact ⟨rfl, rfl⟩
end

set_option maxHeartbeats 400000 in
set_option maxRecDepth 100000 in
theorem same_any (w : World) (A B : Option Addr) (n c m d : Nat) (xs ys : List (List UInt8)) (hn : n = xs.length) (hm : m = ys.length) (h32 : All32 xs) (k32 : All32 ys) (hS : SeesV w w.heap.size A (Hs xs)) (hR : SeesV w w.heap.size B (Hs ys)) (hmax : n ≤ 1048576) (mmax : m ≤ 1048576) :
    Calls Tryd.prog 15 #[.slice A n c, .slice B m d] w fun e w' => e = .returned (.bool (xs == ys)) ∧ ∃ q, w' = w.drewN q := by
  subst hn hm
  have HS := Lib.hid hS
  have HR := Lib.hid hR
  have H32 := Lib.hid h32
  have K32 := Lib.hid k32
  clear hS hR h32 k32
  by_cases hl : xs.length = ys.length
  · have hl0 : (xs.length : Int) = ys.length := by rw [hl]
    have hl1 : ((xs.length : Int) == ys.length) = true := by rw [hl]; exact beq_self_eq_true _
    go_enter Tryd.func15, Tryd.ntmps15
    go_wp2
    go_loopw [5] (fun iv wr => ∃ k : Nat, k ≤ xs.length ∧ iv = .int .i64 k ∧ (∃ q, wr = w.drewN q) ∧ xs.take k = ys.take k) (fun iv _ => xs.length - (intOf iv).toNat)
    case atStart => exact ⟨0, by omega, rfl, ⟨0, rfl⟩, rfl⟩
    case round =>
      obtain ⟨k, hk, rfl, ⟨q0, rfl⟩, hsm⟩ := hrel
      by_cases hlt : k < xs.length
      · obtain ⟨b, off, rfl, hbb, hrg⟩ := SeesV.hash HS.out H32.out hlt
        obtain ⟨b', off', rfl, hbb', hrg'⟩ := SeesV.hash HR.out K32.out (k := k) (by omega)
        have hr0 := hrg k hlt
        have hr1 := hrg' k (by omega)
        have hl0 := H32.out.get hlt
        have hl1 := K32.out.get (k := k) (by omega)
        have HR0 := Lib.hid hr0
        have HR1 := Lib.hid hr1
        have HZ0 : Hid ((Tryd.prog.info? 32).map (·.size) = some (By xs[k]).length) := by have h := Tryd.hsizeB xs[k] hl0; show _ = _; rw [h]; simp
        have HZ1 : Hid ((Tryd.prog.info? 32).map (·.size) = some (By ys[k]).length) := by have h := Tryd.hsizeB ys[k] hl1; show _ = _; rw [h]; simp
        clear hrg hrg' hr0 hr1
        go_wp2
        refine wp_region_quiet_lit (by kernel_rfl) (by kernel_rfl) ?_
        repeat (go_big_quiet_step (fail))
        go_big_quiet_want
        refine quiet_load_mid 32 (.tmp 19) rfl b (off + k * 32) rfl (By xs[k]) _ (fun w' hw' => by obtain ⟨q, rfl⟩ := hw'; exact HR0.out) Tryd.underlying32 rfl HZ0.out ?_
        go_big_quiet_on
        try simp only [Act.put, List.setIfInBounds_toArray, List.set_cons_zero, List.set_cons_succ]
        repeat (go_big_quiet_step (fail))
        go_big_quiet_want
        refine quiet_load_mid 32 (.tmp 23) rfl b' (off' + k * 32) rfl (By ys[k]) _ (fun w' hw' => by obtain ⟨q, rfl⟩ := hw'; exact HR1.out) Tryd.underlying32 rfl HZ1.out ?_
        go_big_quiet_on
        try simp only [Act.put, List.setIfInBounds_toArray, List.set_cons_zero, List.set_cons_succ]
        repeat (go_big_quiet_step (fail))
        go_big_quiet_want
        refine quiet_neq_bytes 32 5 (.tmp 20) (.tmp 24) rfl 32 Tryd.underlying32 Tryd.underlying5 Tryd.u8size (by kernel_rfl) xs[k] ys[k] hl0 hl1 rfl rfl ?_
        go_big_quiet_on
        try simp only [Act.put, List.setIfInBounds_toArray, List.set_cons_zero, List.set_cons_succ]
        refine wpQuiet_nil ?_
        intro _ hw'
        obtain ⟨nq, rfl⟩ := hw'
        by_cases hxy : xs[k] = ys[k]
        · have hb : (xs[k] == ys[k]) = true := by rw [hxy]; exact beq_self_eq_true _
          rw [hb]
          have hnx : xs.take (k + 1) = ys.take (k + 1) := by
            rw [List.take_succ_eq_append_getElem hlt, List.take_succ_eq_append_getElem (show k < ys.length by omega), hsm, hxy]
          rw [show (!true) = false from rfl]
          go_wp2
          go_roundw
          case rel => exact ⟨k + 1, by omega, by go_num, ⟨q0 + nq, by simp⟩, hnx⟩
          case measure => simp [intOf] <;> omega
        · have hb : (xs[k] == ys[k]) = false := beq_eq_false_iff_ne.2 hxy
          rw [hb]
          have he := hs_same hl hlt hxy
          go_wp2
          go_ret
          exact ⟨by rw [he]; rfl, q0 + nq, by simp⟩
      · obtain rfl : k = xs.length := by omega
        have he : (xs == ys) = true := by
          rw [List.take_length, hl, List.take_length] at hsm
          rw [hsm]; exact beq_self_eq_true _
        go_wp2
        go_ret
        exact ⟨by rw [he]; rfl, q0, rfl⟩
  · have hl1 : ((xs.length : Int) == ys.length) = false := by rw [beq_eq_false_iff_ne]; omega
    have he : (xs == ys) = false := by
      rw [beq_eq_false_iff_ne]; intro e; exact hl (by rw [e])
    go_enter Tryd.func15, Tryd.ntmps15
    go_wp2
    go_ret
    exact ⟨by rw [he]; rfl, 0, rfl⟩
end Go.Proofs.YtcbdjcmjchoagaaDoor
