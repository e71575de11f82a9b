/-
  tx: is one of the inputs long; the closures that ask for counts and lengths.
-/
import Derived.Test.YtlpcbkajgibhcaaTx0
namespace Go.Proofs.Ytlpcbkajgibhcaa
open Go.RowKit

theorem nxRf (w : World) : Below w.heap.size w w := Below.refl _ _
theorem nxAl {w W : World} (h : Below w.heap.size w W) (o : Obj) : Below w.heap.size w (W.alloc o) := h.alloc h.size o
theorem nxTr {w w1 w2 : World} (h : Below w.heap.size w w1) (h' : Below w1.heap.size w1 w2) : Below w.heap.size w w2 := h.trans ⟨h'.os, h'.tape, h'.output, h'.size, fun b hb => h'.block b (Nat.lt_of_lt_of_le hb h.size)⟩
theorem rngB {w w' : World} {B b o : Nat} {cs : List Value} (h : w.rangeAt b o cs) (hb : Below B w w') (hlt : b < B) : w'.rangeAt b o cs := fun j v hv => (hb.cell (p := ⟨b, o + j, none⟩) hlt).trans (h j v hv)
theorem blkR {w : World} {g : Nat} {t : TypeId} {vs : List Value} (h : Blk w g t vs.toArray) : w.rangeAt g 0 vs := by
  intro j v hv
  rw [Nat.zero_add, h.cell j]
  simpa using hv

set_option maxHeartbeats 1000000 in
set_option maxRecDepth 100000 in
theorem index_any (w : World) (A : Option Addr) (n c : Nat) (l : List InR) (hn : n = l.length) (hS : SeesV w w.heap.size A (insC l)) (hi : ∀ i ∈ l, i.id.length = 32 ∧ i.wit.length ≤ 140737488355328) (hmax : n ≤ 140737488355328) :
    Calls Try.prog 52 #[.slice A n c, .func (.func 47) #[] #[]] w fun e w' => (∃ r : Int, e = .returned (.int .i64 r) ∧ decide (0 ≤ r) = l.any longB) ∧ Below w.heap.size w w' := by
  subst hn
  have HS := Lib.hid hS
  have HI := Lib.hid hi
  clear hS hi
  go_enter Try.func52, Try.ntmps52
  go_wp2
  go_loopw [8] (fun iv wr => ∃ k : Nat, k ≤ l.length ∧ iv = .int .i64 k ∧ Hid (∀ j (h : j < l.length), j < k → longB l[j] = false) ∧ Hid (Below w.heap.size w wr)) (fun iv _ => l.length - (intOf iv).toNat)
  case atStart => exact ⟨0, by omega, rfl, fun j _ h => absurd h (Nat.not_lt_zero _), nxRf w⟩
  case round =>
    obtain ⟨k, hk, rfl, HN, Hb⟩ := hrel
    by_cases hlt : k < l.length
    · obtain ⟨b, off, rfl, hbb, hr⟩ := insC_row HS.out (fun i h => (HI.out i h).1) (by omega)
      have hrk := rngB (hr k hlt) Hb.out hbb
      have hik := HI.out _ (List.getElem_mem hlt)
      obtain ⟨i, hi⟩ : ∃ i, l[k] = i := ⟨_, rfl⟩
      rw [hi] at hrk hik
      have HLk : Hid (l[k] = i) := hi
      have HR := Lib.hid hrk
      have HIk := Lib.hid hik
      have HZ : Hid ((Try.prog.info? 50).map (·.size) = some (inC i).length) := by show _ = _; rw [inC_len hik.1]; exact Try.sizeIn
      obtain ⟨z, hz⟩ : ∃ z, longB i = z := ⟨_, rfl⟩
      have HLg := Lib.hid hz
      clear hr hrk hik hi hz
      cases z with
      | true =>
        go_wp2_with (first
          | ((with_reducible show wpList _ _ _ (⟨some 15, _, _, _, _, _⟩ :: _) _ _); refine wpList_load_mid rfl 50 (.tmp 14) rfl b (off + k * 34) rfl (inC i) _ HR.out Try.underlying50 rfl HZ.out ?_)
          | (go_at_call 47; refine (isLong_any wr i HIk.out.1 HIk.out.2).mono ?_; rw [HLg.out]; rintro e w2 ⟨rfl, hb2⟩; have Hb2 : Hid (Below w.heap.size w w2) := nxTr Hb.out hb2; clear hb2))
        go_ret
        refine ⟨⟨(k : Int), rfl, ?_⟩, Hb2.out⟩
        rw [decide_eq_true (by omega : (0 : Int) ≤ (k : Int))]
        exact (List.any_eq_true.2 ⟨l[k], List.getElem_mem hlt, by rw [HLk.out]; exact HLg.out⟩).symm
      | false =>
        have HN' : Hid (∀ j (h : j < l.length), j < k + 1 → longB l[j] = false) := by
          intro j h hj
          by_cases h1 : j < k
          · exact HN.out j h h1
          · obtain rfl : j = k := by omega
            rw [HLk.out]; exact HLg.out
        go_wp2_with (first
          | ((with_reducible show wpList _ _ _ (⟨some 15, _, _, _, _, _⟩ :: _) _ _); refine wpList_load_mid rfl 50 (.tmp 14) rfl b (off + k * 34) rfl (inC i) _ HR.out Try.underlying50 rfl HZ.out ?_)
          | (go_at_call 47; refine (isLong_any wr i HIk.out.1 HIk.out.2).mono ?_; rw [HLg.out]; rintro e w2 ⟨rfl, hb2⟩; have Hb2 : Hid (Below w.heap.size w w2) := nxTr Hb.out hb2; clear hb2))
        go_roundw
        case rel => exact ⟨k + 1, by omega, by go_num, HN'.out, Hb2.out⟩
        case measure => simp [intOf] <;> omega
    · obtain rfl : k = l.length := by omega
      go_wp2
      go_ret
      refine ⟨⟨-1, rfl, ?_⟩, Hb.out⟩
      rw [decide_eq_false (by omega : ¬ (0 : Int) ≤ -1)]
      refine (Bool.eq_false_iff.2 fun h => ?_).symm
      obtain ⟨i, hi, hl⟩ := List.any_eq_true.1 h
      obtain ⟨j, hj, rfl⟩ := List.getElem_of_mem hi
      rw [HN.out j hj hj] at hl
      cases hl
set_option maxHeartbeats 1000000 in
set_option maxRecDepth 100000 in
theorem contains_any (w : World) (A : Option Addr) (n c : Nat) (l : List InR) (hn : n = l.length) (hS : SeesV w w.heap.size A (insC l)) (hi : ∀ i ∈ l, i.id.length = 32 ∧ i.wit.length ≤ 140737488355328) (hmax : n ≤ 140737488355328) :
    Calls Try.prog 46 #[.slice A n c, .func (.func 47) #[] #[]] w fun e w' => e = .returned (.bool (l.any longB)) ∧ Below w.heap.size w w' := by
  obtain ⟨z, hz⟩ : ∃ z, l.any longB = z := ⟨_, rfl⟩
  have h := index_any w A n c l hn hS hi hmax
  rw [hz] at h ⊢
  have H := Lib.hid h
  clear h hn hS hi hmax hz
  go_enter Try.func46, Try.ntmps46
  cases z with
  | true =>
    go_wp2_with (go_at_call 52; refine H.out.mono ?_; rintro e w2 ⟨⟨r, rfl, hr⟩, hb2⟩; have Hb2 := Lib.hid hb2; clear hb2)
    go_ret
    exact ⟨rfl, Hb2.out⟩
  | false =>
    go_wp2_with (go_at_call 52; refine H.out.mono ?_; rintro e w2 ⟨⟨r, rfl, hr⟩, hb2⟩; have Hb2 := Lib.hid hb2; clear hb2)
    go_ret
    exact ⟨rfl, Hb2.out⟩

/-- A transaction in a block of its own, as the closures see it. -/
def TxAt (w : World) (g : Nat) (t : TxR) : Prop := Blk w g 28 (txC t).toArray ∧ TxOk w t
theorem TxAt.later {w w' : World} {g : Nat} {t : TxR} (h : TxAt w g t) (hb : Below w.heap.size w w') : TxAt w' g t := ⟨h.1.below hb h.1.lt, h.2.later hb⟩
theorem TxAt.new {w : World} {t : TxR} (h : TxOk w t) : TxAt (w.alloc (.cells (txC t).toArray 28)) w.heap.size t := ⟨heap_alloc_new w _, h.later (nxAl (nxRf w) _)⟩
theorem ask1_any (w : World) (g : Nat) (t : TxR) (h : TxAt w g t) : Calls Try.prog 41 #[.pointer (some ⟨g, 0, none⟩)] w fun e w' => e = .returned (.int .i64 (argE (cntB t.ins.length))) ∧ Below w.heap.size w w' := by
  have hc : w.cell? ⟨g, 0, none⟩ = some (.slice t.A t.ins.length t.c) := h.1.cell 0
  clear h
  go_enter Try.func41, Try.ntmps41
  go_wp2_with (first
    | (go_at_call 43; refine (mayCount_any _ t.ins.length).mono ?_; rintro e w2 ⟨rfl, hw2⟩; subst hw2)
    | (go_at_call 42; refine (argUnless_any _ _).mono ?_; rintro e w2 ⟨rfl, hw2⟩; subst hw2))
  go_ret
  exact ⟨rfl, nxRf _⟩
theorem ask2_any (w : World) (g : Nat) (t : TxR) (h : TxAt w g t) : Calls Try.prog 44 #[.pointer (some ⟨g, 0, none⟩)] w fun e w' => e = .returned (.int .i64 (argE (cntB t.outs.length))) ∧ Below w.heap.size w w' := by
  have hc : w.cell? ⟨g, 1, none⟩ = some (.slice t.B t.outs.length t.d) := h.1.cell 1
  clear h
  go_enter Try.func44, Try.ntmps44
  go_wp2_with (first
    | (go_at_call 43; refine (mayCount_any _ t.outs.length).mono ?_; rintro e w2 ⟨rfl, hw2⟩; subst hw2)
    | (go_at_call 42; refine (argUnless_any _ _).mono ?_; rintro e w2 ⟨rfl, hw2⟩; subst hw2))
  go_ret
  exact ⟨rfl, nxRf _⟩
theorem ask3_any (w : World) (g : Nat) (t : TxR) (h : TxAt w g t) : Calls Try.prog 45 #[.pointer (some ⟨g, 0, none⟩)] w fun e w' => e = .returned (.int .i64 (argE (!t.ins.any longB))) ∧ Below w.heap.size w w' := by
  have hc : w.cell? ⟨g, 0, none⟩ = some (.slice t.A t.ins.length t.c) := h.1.cell 0
  have HC := Lib.hid (contains_any w t.A _ t.c t.ins rfl h.2.ins (fun i hi => ⟨(h.2.each i hi).id, (h.2.each i hi).m⟩) h.2.mi)
  obtain ⟨z, hz⟩ : ∃ z, t.ins.any longB = z := ⟨_, rfl⟩
  rw [hz] at HC ⊢
  clear h hz
  go_enter Try.func45, Try.ntmps45
  go_wp2_with (first
    | (go_at_call 46; refine HC.out.mono ?_; rintro e w2 ⟨rfl, hb2⟩; have Hb2 := Lib.hid hb2; clear hb2)
    | (go_at_call 42; refine (argUnless_any _ _).mono ?_; rintro e w3 ⟨rfl, hw3⟩; subst hw3))
  go_ret
  exact ⟨rfl, Hb2.out⟩
end Go.Proofs.Ytlpcbkajgibhcaa
