/-
  tx, the document's: Check, May. · tx: the law's num and known; the document's May.
-/
import Derived.Test.YtbloomnifhcgbaaGreatDoorTx9
import Derived.Deep.RegionHeldLaw
import Derived.Deep.RegionHeld3
import Derived.Great.BuildSlice
namespace Go.Proofs.YtbloomnifhcgbaaGreatDoor
open Go.RowKit

set_option maxRecDepth 100000 in
theorem eql_pt {a b : InR} (ha : a.id.length = 32 ∧ a.n < 4294967296) (hb : b.id.length = 32 ∧ b.n < 4294967296) (wq : World) : (binOp .eql 102 (.agg (ptC a).toArray) (.agg (ptC b).toArray)).run Tryz.prog wq = .ok (.bool (pt a == pt b)) wq := by
  obtain ⟨r, hr, hiff⟩ := run_equal_deep (P := Tryz.prog) wq (m := 3) (by omega) (k := 102) (by kernel_rfl) Tryz.widePt (keyOf_pt ha.1 ha.2) (keyOf_pt hb.1 hb.2)
  have e : r = (pt a == pt b) := by
    rw [Bool.eq_iff_iff, hiff, ptKey_inj ha.1 hb.1 ha.2 hb.2]
    exact beq_iff_eq.symm
  rw [run_eql_struct]
  have hr' : (Op.equalIn 10000 102 (.agg (ptC a).toArray) (.agg (ptC b).toArray)).run Tryz.prog wq = .ok r wq := hr
  rw [hr', e]
  rfl
theorem checkT_form {t : TxR} (h : formB t = false) : checkT t = 2 := by rw [checkT, h, cond_false]
theorem form_parts {t : TxR} (h1 : t.ins.length = 0 ∨ 64 < t.ins.length ∨ t.outs.length = 0 ∨ 64 < t.outs.length) : formB t = false := by
  unfold formB
  by_cases hi : 1 ≤ t.ins.length ∧ t.ins.length ≤ 64
  · have ho : cntB t.outs.length = false := decide_eq_false (by omega)
    rw [ho, Bool.false_and, Bool.and_false]
  · have : cntB t.ins.length = false := decide_eq_false hi
    rw [this, Bool.false_and]
theorem form_long {t : TxR} {i : Nat} (hi : i < t.ins.length) (hl : longB t.ins[i] = true) : formB t = false := by
  unfold formB
  have : t.ins.any longB = true := List.any_eq_true.2 ⟨_, List.getElem_mem hi, hl⟩
  rw [this]; simp
theorem twice_of {l : List InR} {i k : Nat} (hi : i < l.length) (hk : k < i) (h : pt l[k] = pt l[i]) : twiceB l = true := by
  induction l generalizing i k with
  | nil => simp at hi
  | cons a r ih =>
    rw [twiceB]
    cases k with
    | zero =>
      obtain ⟨i', rfl⟩ : ∃ i', i = i' + 1 := ⟨i - 1, by omega⟩
      simp only [List.length_cons] at hi
      have : r.any (fun j => pt j == pt a) = true := List.any_eq_true.2 ⟨r[i'], List.getElem_mem (by omega), by simp only [List.getElem_cons_zero, List.getElem_cons_succ] at h; rw [h]; exact beq_self_eq_true _⟩
      rw [this]; rfl
    | succ k' =>
      obtain ⟨i', rfl⟩ : ∃ i', i = i' + 1 := ⟨i - 1, by omega⟩
      simp only [List.length_cons] at hi
      simp only [List.getElem_cons_succ] at h
      rw [ih (i := i') (k := k') (by omega) (by omega) h, Bool.or_true]
theorem form_twice {t : TxR} (h : twiceB t.ins = true) : formB t = false := by
  unfold formB; rw [h]; simp
theorem twice_next {l : List InR} {i : Nat} (hi : i < l.length) (h : twiceB (l.take i) = false) (hn : ∀ k (hk : k < l.length), k < i → pt l[k] ≠ pt l[i]) : twiceB (l.take (i + 1)) = false := by
  rw [List.take_succ_eq_append_getElem hi, twiceB_snoc, h, Bool.false_or]
  refine Bool.eq_false_iff.2 fun ha => ?_
  obtain ⟨j, hj, he⟩ := List.any_eq_true.1 ha
  obtain ⟨k, hk, rfl⟩ := List.getElem_of_mem hj
  rw [List.getElem_take] at he
  rw [List.length_take] at hk
  exact hn k (by omega) (by omega) (eq_of_beq he)

set_option maxHeartbeats 4000000 in
set_option maxRecDepth 100000 in
theorem rcheck_any (w : World) (t : TxR) (h : TxOk w t) : Calls Tryz.prog 80 #[.agg (txC t).toArray] w fun e w' => e = .returned (.int .i64 (checkT t)) ∧ Below w.heap.size w w' := by
  have hA := TxAt.new h
  have hc0 : (w.alloc (.cells (txC t).toArray 66)).cell? ⟨w.heap.size, 0, none⟩ = some (.slice t.A t.ins.length t.c) := hA.1.cell 0
  have hc1 : (w.alloc (.cells (txC t).toArray 66)).cell? ⟨w.heap.size, 1, none⟩ = some (.slice t.B t.outs.length t.d) := hA.1.cell 1
  have Hb0 : Hid (Below w.heap.size w (w.alloc (.cells (txC t).toArray 66))) := Lib.hid (nxAl (nxRf w) _)
  have HI : Hid (∀ i ∈ t.ins, (i.id.length = 32 ∧ i.n < 4294967296) ∧ i.wit.length ≤ 140737488355328) := fun i hi => ⟨⟨(h.each i hi).id, (h.each i hi).n⟩, (h.each i hi).m⟩
  have HJ : Hid (∀ o ∈ t.outs, OutOk o) := h.eacho
  have HIS := Lib.hid hA.2.ins
  have HJS := Lib.hid hA.2.outs
  have Hs0 : Hid (w.heap.size < (w.alloc (.cells (txC t).toArray 66)).heap.size) := by show _ < _; simp
  have hmi := h.mi
  have hmo := h.mo
  obtain ⟨z, hz⟩ : ∃ z, checkT t = z := ⟨_, rfl⟩
  have HZ := Lib.hid hz
  rw [hz]
  clear hA h hz
  by_cases hi0 : (t.ins.length : Int) < 1
  · have hv : z = 2 := by rw [← HZ.out]; exact checkT_form (form_parts (by omega))
    subst hv
    go_enter Tryz.func80, Tryz.ntmps80
    go_wp2
    go_ret
    exact ⟨rfl, Hb0.out⟩
  by_cases hi1 : (64 : Int) < (t.ins.length : Int)
  · have hv : z = 2 := by rw [← HZ.out]; exact checkT_form (form_parts (by omega))
    subst hv
    go_enter Tryz.func80, Tryz.ntmps80
    go_wp2
    go_ret
    exact ⟨rfl, Hb0.out⟩
  by_cases ho0 : (t.outs.length : Int) < 1
  · have hv : z = 2 := by rw [← HZ.out]; exact checkT_form (form_parts (by omega))
    subst hv
    go_enter Tryz.func80, Tryz.ntmps80
    go_wp2
    go_ret
    exact ⟨rfl, Hb0.out⟩
  by_cases ho1 : (64 : Int) < (t.outs.length : Int)
  · have hv : z = 2 := by rw [← HZ.out]; exact checkT_form (form_parts (by omega))
    subst hv
    go_enter Tryz.func80, Tryz.ntmps80
    go_wp2
    go_ret
    exact ⟨rfl, Hb0.out⟩
  have HM : Hid (t.ins.length ≤ 64 ∧ t.outs.length ≤ 64 ∧ 1 ≤ t.ins.length ∧ 1 ≤ t.outs.length) := by show _ ∧ _; omega
  obtain ⟨b, off, hA, hbb, hr⟩ := insC_row HIS.out (fun i h => (HI.out i h).1.1) (by omega)
  obtain ⟨b2, off2, hB, hbb2, hr2⟩ := outsC_row HJS.out (fun i h => (HJ.out i h).lock) (by omega)
  rw [hA] at hc0
  rw [hB] at hc1
  have HRr := Lib.hid hr
  have HBb := Lib.hid hbb
  have HRr2 := Lib.hid hr2
  have HBb2 := Lib.hid hbb2
  clear hA hr hbb hB hr2 hbb2 HIS HJS hmi hmo
  go_enter Tryz.func80, Tryz.ntmps80
  go_wp2
  generalize (w.alloc (.cells (txC t).toArray 66)) = W0 at *
  have HC0 := Lib.hid hc0
  have HC1 := Lib.hid hc1
  clear hc0 hc1
  go_loopw [3] (fun iv wr => ∃ i : Nat, i ≤ t.ins.length ∧ iv = .int .i64 i ∧ Hid (∀ j (hj : j < t.ins.length), j < i → longB t.ins[j] = false) ∧ Hid (twiceB (t.ins.take i) = false) ∧ Hid (Below W0.heap.size W0 wr)) (fun iv _ => t.ins.length - (intOf iv).toNat)
  case atStart => exact ⟨0, by omega, rfl, fun j _ h => absurd h (Nat.not_lt_zero _), rfl, nxRf W0⟩
  case round =>
    obtain ⟨i, hk, rfl, HL, HT, Hb⟩ := hrel
    have hc0 : wr.cell? ⟨w.heap.size, 0, none⟩ = some (.slice (some ⟨b, off, none⟩) t.ins.length t.c) := (Hb.out.cell (p := ⟨w.heap.size, 0, none⟩) Hs0.out).trans HC0.out
    by_cases hlt : i < t.ins.length
    · have hin : (i : Int) < (t.ins.length : Int) := by omega
      have hrk := rngB (HRr.out i hlt) Hb.out HBb.out
      have hik := HI.out _ (List.getElem_mem hlt)
      have HLi : Hid (longB t.ins[i] = true → formB t = false) := form_long hlt
      have HTi : Hid (∀ k, k < i → (hk : k < t.ins.length) → pt t.ins[k] = pt t.ins[i] → formB t = false) := fun k hk _ he => form_twice (twice_of hlt hk he)
      have HNi : Hid ((∀ k (hk : k < t.ins.length), k < i → pt t.ins[k] ≠ pt t.ins[i]) → twiceB (t.ins.take (i + 1)) = false) := twice_next hlt HT.out
      obtain ⟨x, hx⟩ : ∃ x, t.ins[i] = x := ⟨_, rfl⟩
      rw [hx] at hrk hik HLi HTi HNi
      have HX : Hid (t.ins[i] = x) := hx
      have hw33 : wr.cell? ⟨b, off + i * 34 + 33, none⟩ = some (.slice x.A x.wit.length x.c) := hrk 33 _ (inC_at hik.1.1).2
      have HR := Lib.hid hrk
      have HIk := Lib.hid hik
      have hwm := hik.2
      clear hrk hik hx
      by_cases hl : (256 : Int) < (x.wit.length : Int)
      · have hv : z = 2 := by rw [← HZ.out]; exact checkT_form (HLi.out (decide_eq_true (by omega)))
        subst hv
        go_wp2
        go_ret
        exact ⟨rfl, Hb0.out.trans ⟨Hb.out.os, Hb.out.tape, Hb.out.output, Hb.out.size, fun j hj => Hb.out.block j (by have := Hb0.out.size; omega)⟩⟩
      · have HL' : Hid (∀ j (hj : j < t.ins.length), j < i + 1 → longB t.ins[j] = false) := by
          intro j hj hji
          by_cases h1 : j < i
          · exact HL.out j hj h1
          · obtain rfl : j = i := by omega
            rw [HX.out]; exact decide_eq_false (by omega)
        go_wp2
        clear hc0 hw33
        go_loopw [4] (fun kv wr => ∃ k : Nat, k ≤ i ∧ kv = .int .i64 k ∧ Hid (∀ j (hj : j < t.ins.length), j < k → pt t.ins[j] ≠ pt x) ∧ Hid (Below W0.heap.size W0 wr)) (fun kv _ => i - (intOf kv).toNat)
        case atStart => exact ⟨0, by omega, rfl, fun j _ h => absurd h (Nat.not_lt_zero _), Hb.out⟩
        case round =>
          clear Hb HR
          obtain ⟨k, hk2, rfl, HP, Hb⟩ := hrel
          by_cases hlt2 : k < i
          · have hkn : (k : Int) < (t.ins.length : Int) := by omega
            have hkl : k < t.ins.length := by omega
            have hrk := rngB (HRr.out k hkl) (show Below W0.heap.size W0 wr.drew from ⟨Hb.out.os, Hb.out.tape, Hb.out.output, Hb.out.size, Hb.out.block⟩) HBb.out
            have hri := rngB (HRr.out i hlt) (show Below W0.heap.size W0 wr.drew from ⟨Hb.out.os, Hb.out.tape, Hb.out.output, Hb.out.size, Hb.out.block⟩) HBb.out
            have hik := HI.out _ (List.getElem_mem hkl)
            rw [HX.out] at hri
            obtain ⟨y, hy⟩ : ∃ y, t.ins[k] = y := ⟨_, rfl⟩
            rw [hy] at hrk hik
            have HY : Hid (t.ins[k] = y) := hy
            have HRk : Hid (wr.drew.rangeAt b (off + k * 34) (ptC y)) := rng_prefix (by rw [← inC_pt]; exact hrk)
            have HRi : Hid (wr.drew.rangeAt b (off + i * 34) (ptC x)) := rng_prefix (by rw [← inC_pt]; exact hri)
            have HSy : Hid ((Tryz.prog.info? 102).map (·.size) = some (ptC y).length) := by show _ = _; rw [ptC_len hik.1.1]; exact Tryz.sizePt
            have HSx : Hid ((Tryz.prog.info? 102).map (·.size) = some (ptC x).length) := by show _ = _; rw [ptC_len HIk.out.1.1]; exact Tryz.sizePt
            have heq := eql_pt hik.1 HIk.out.1
            have HCd : Hid (wr.drew.cell? ⟨w.heap.size, 0, none⟩ = some (.slice (some ⟨b, off, none⟩) t.ins.length t.c)) := (Hb.out.cell (p := ⟨w.heap.size, 0, none⟩) Hs0.out).trans HC0.out
            clear hrk hri hik hy
            cases hq : pt y == pt x with
            | true =>
              rw [hq] at heq
              have hv : z = 2 := by rw [← HZ.out]; exact checkT_form (HTi.out k hlt2 hkl (by rw [HY.out]; exact eq_of_beq hq))
              subst hv
              clear hq
              go_wp2
              refine wp_region_held_drew (S := fun W => W.cell? ⟨w.heap.size, 0, none⟩ = some (.slice (some ⟨b, off, none⟩) t.ins.length t.c) ∧ W.rangeAt b (off + k * 34) (ptC y) ∧ W.rangeAt b (off + i * 34) (ptC x)) (by kernel_rfl) ⟨HCd.out, HRk.out, HRi.out⟩ (fun hHeld => ?_)
              refine wpAnyH_take (i := 0) (oi := ⟨_, _, _, _, _, _⟩) (v := ?_) rfl (by kernel_rfl) (by kernel_rfl) (by kernel_rfl) (fun _ _ _ h => h) (Or.inl ⟨by rfl, ?_⟩) (by assumption) ?_
              rotate_left 1
              · intro W hSw
                try dsimp only at hSw
                go_simp
                try with_reducible rfl
              try simp only [Act.put, List.setIfInBounds_toArray, List.set_cons_zero, List.set_cons_succ]
              refine wpAnyH_take (i := 1) (oi := ⟨_, _, _, _, _, _⟩) (v := ?_) rfl (by kernel_rfl) (by kernel_rfl) (by kernel_rfl) (fun _ _ _ h => h) (Or.inl ⟨by rfl, ?_⟩) (by assumption) ?_
              rotate_left 1
              · intro W hSw
                try dsimp only at hSw
                go_simp
                try with_reducible rfl
              try simp only [Act.put, List.setIfInBounds_toArray, List.set_cons_zero, List.set_cons_succ]
              refine wpAnyH_take (i := 2) (oi := ⟨_, _, _, _, _, _⟩) (v := ?_) rfl (by kernel_rfl) (by kernel_rfl) (by kernel_rfl) (fun _ _ _ h => h) (Or.inl ⟨by rfl, ?_⟩) (by assumption) ?_
              rotate_left 1
              · intro W hSw
                try dsimp only at hSw
                go_simp
                try with_reducible rfl
              try simp only [Act.put, List.setIfInBounds_toArray, List.set_cons_zero, List.set_cons_succ]
              refine wpAnyH_take (i := 3) (oi := ⟨_, _, _, _, _, _⟩) (v := ?_) rfl (by kernel_rfl) (by kernel_rfl) (by kernel_rfl) (fun _ _ _ h => h) (Or.inl ⟨by rfl, ?_⟩) (by assumption) ?_
              rotate_left 1
              · intro W hSw
                try dsimp only at hSw
                go_simp
                try with_reducible rfl
              try simp only [Act.put, List.setIfInBounds_toArray, List.set_cons_zero, List.set_cons_succ]
              refine wpAnyH_take (i := 4) (oi := ⟨_, _, _, _, _, _⟩) (v := ?_) rfl (by kernel_rfl) (by kernel_rfl) (by kernel_rfl) (fun _ _ _ h => h) (Or.inl ⟨by rfl, ?_⟩) (by assumption) ?_
              rotate_left 1
              · intro W hSw
                try dsimp only at hSw
                go_simp
                try with_reducible rfl
              try simp only [Act.put, List.setIfInBounds_toArray, List.set_cons_zero, List.set_cons_succ]
              refine wpAnyH_take (i := 5) (oi := ⟨_, _, _, _, _, _⟩) (v := .agg (ptC y).toArray) rfl (by kernel_rfl) (by kernel_rfl) (by kernel_rfl) (fun _ _ _ h => h) (yieldsIf_load_mid (by rfl) 102 (.tmp 55) rfl (b) (off + k * 34) rfl (ptC y) _ (fun W h => h.2.1) Tryz.underlying102 rfl HSy.out) (by assumption) ?_
              try simp only [Act.put, List.setIfInBounds_toArray, List.set_cons_zero, List.set_cons_succ]
              refine wpAnyH_take (i := 6) (oi := ⟨_, _, _, _, _, _⟩) (v := ?_) rfl (by kernel_rfl) (by kernel_rfl) (by kernel_rfl) (fun _ _ _ h => h) (Or.inl ⟨by rfl, ?_⟩) (by assumption) ?_
              rotate_left 1
              · intro W hSw
                try dsimp only at hSw
                go_simp
                try with_reducible rfl
              try simp only [Act.put, List.setIfInBounds_toArray, List.set_cons_zero, List.set_cons_succ]
              refine wpAnyH_take (i := 7) (oi := ⟨_, _, _, _, _, _⟩) (v := ?_) rfl (by kernel_rfl) (by kernel_rfl) (by kernel_rfl) (fun _ _ _ h => h) (Or.inl ⟨by rfl, ?_⟩) (by assumption) ?_
              rotate_left 1
              · intro W hSw
                try dsimp only at hSw
                go_simp
                try with_reducible rfl
              try simp only [Act.put, List.setIfInBounds_toArray, List.set_cons_zero, List.set_cons_succ]
              refine wpAnyH_take (i := 8) (oi := ⟨_, _, _, _, _, _⟩) (v := ?_) rfl (by kernel_rfl) (by kernel_rfl) (by kernel_rfl) (fun _ _ _ h => h) (Or.inl ⟨by rfl, ?_⟩) (by assumption) ?_
              rotate_left 1
              · intro W hSw
                try dsimp only at hSw
                go_simp
                try with_reducible rfl
              try simp only [Act.put, List.setIfInBounds_toArray, List.set_cons_zero, List.set_cons_succ]
              refine wpAnyH_take (i := 9) (oi := ⟨_, _, _, _, _, _⟩) (v := ?_) rfl (by kernel_rfl) (by kernel_rfl) (by kernel_rfl) (fun _ _ _ h => h) (Or.inl ⟨by rfl, ?_⟩) (by assumption) ?_
              rotate_left 1
              · intro W hSw
                try dsimp only at hSw
                go_simp
                try with_reducible rfl
              try simp only [Act.put, List.setIfInBounds_toArray, List.set_cons_zero, List.set_cons_succ]
              refine wpAnyH_take (i := 10) (oi := ⟨_, _, _, _, _, _⟩) (v := ?_) rfl (by kernel_rfl) (by kernel_rfl) (by kernel_rfl) (fun _ _ _ h => h) (Or.inl ⟨by rfl, ?_⟩) (by assumption) ?_
              rotate_left 1
              · intro W hSw
                try dsimp only at hSw
                go_simp
                try with_reducible rfl
              try simp only [Act.put, List.setIfInBounds_toArray, List.set_cons_zero, List.set_cons_succ]
              refine wpAnyH_take (i := 11) (oi := ⟨_, _, _, _, _, _⟩) (v := .agg (ptC x).toArray) rfl (by kernel_rfl) (by kernel_rfl) (by kernel_rfl) (fun _ _ _ h => h) (yieldsIf_load_mid (by rfl) 102 (.tmp 61) rfl (b) (off + i * 34) rfl (ptC x) _ (fun W h => h.2.2) Tryz.underlying102 rfl HSx.out) (by assumption) ?_
              try simp only [Act.put, List.setIfInBounds_toArray, List.set_cons_zero, List.set_cons_succ]
              refine wpAnyH_take (i := 12) (oi := ⟨_, _, _, _, _, _⟩) (v := ?_) rfl (by kernel_rfl) (by kernel_rfl) (by kernel_rfl) (fun _ _ _ h => h) (Or.inl ⟨by rfl, ?_⟩) (by assumption) ?_
              rotate_left 1
              · intro W hSw
                try dsimp only at hSw
                go_simp
                try with_reducible rfl
              try simp only [Act.put, List.setIfInBounds_toArray, List.set_cons_zero, List.set_cons_succ]
              refine wpAnyH_done (by kernel_rfl) ?_ _
              go_wp2
              go_ret
              exact ⟨rfl, Hb0.out.trans ⟨Hb.out.os, Hb.out.tape, Hb.out.output, Hb.out.size, fun j hj => Hb.out.block j (by have := Hb0.out.size; omega)⟩⟩
            | false =>
              rw [hq] at heq
              have HP' : Hid (∀ j (hj : j < t.ins.length), j < k + 1 → pt t.ins[j] ≠ pt x) := by
                intro j hj hjk
                by_cases h1 : j < k
                · exact HP.out j hj h1
                · obtain rfl : j = k := by omega
                  rw [HY.out]; exact beq_eq_false_iff_ne.1 hq
              clear hq
              go_wp2
              refine wp_region_held_drew (S := fun W => W.cell? ⟨w.heap.size, 0, none⟩ = some (.slice (some ⟨b, off, none⟩) t.ins.length t.c) ∧ W.rangeAt b (off + k * 34) (ptC y) ∧ W.rangeAt b (off + i * 34) (ptC x)) (by kernel_rfl) ⟨HCd.out, HRk.out, HRi.out⟩ (fun hHeld => ?_)
              refine wpAnyH_take (i := 0) (oi := ⟨_, _, _, _, _, _⟩) (v := ?_) rfl (by kernel_rfl) (by kernel_rfl) (by kernel_rfl) (fun _ _ _ h => h) (Or.inl ⟨by rfl, ?_⟩) (by assumption) ?_
              rotate_left 1
              · intro W hSw
                try dsimp only at hSw
                go_simp
                try with_reducible rfl
              try simp only [Act.put, List.setIfInBounds_toArray, List.set_cons_zero, List.set_cons_succ]
              refine wpAnyH_take (i := 1) (oi := ⟨_, _, _, _, _, _⟩) (v := ?_) rfl (by kernel_rfl) (by kernel_rfl) (by kernel_rfl) (fun _ _ _ h => h) (Or.inl ⟨by rfl, ?_⟩) (by assumption) ?_
              rotate_left 1
              · intro W hSw
                try dsimp only at hSw
                go_simp
                try with_reducible rfl
              try simp only [Act.put, List.setIfInBounds_toArray, List.set_cons_zero, List.set_cons_succ]
              refine wpAnyH_take (i := 2) (oi := ⟨_, _, _, _, _, _⟩) (v := ?_) rfl (by kernel_rfl) (by kernel_rfl) (by kernel_rfl) (fun _ _ _ h => h) (Or.inl ⟨by rfl, ?_⟩) (by assumption) ?_
              rotate_left 1
              · intro W hSw
                try dsimp only at hSw
                go_simp
                try with_reducible rfl
              try simp only [Act.put, List.setIfInBounds_toArray, List.set_cons_zero, List.set_cons_succ]
              refine wpAnyH_take (i := 3) (oi := ⟨_, _, _, _, _, _⟩) (v := ?_) rfl (by kernel_rfl) (by kernel_rfl) (by kernel_rfl) (fun _ _ _ h => h) (Or.inl ⟨by rfl, ?_⟩) (by assumption) ?_
              rotate_left 1
              · intro W hSw
                try dsimp only at hSw
                go_simp
                try with_reducible rfl
              try simp only [Act.put, List.setIfInBounds_toArray, List.set_cons_zero, List.set_cons_succ]
              refine wpAnyH_take (i := 4) (oi := ⟨_, _, _, _, _, _⟩) (v := ?_) rfl (by kernel_rfl) (by kernel_rfl) (by kernel_rfl) (fun _ _ _ h => h) (Or.inl ⟨by rfl, ?_⟩) (by assumption) ?_
              rotate_left 1
              · intro W hSw
                try dsimp only at hSw
                go_simp
                try with_reducible rfl
              try simp only [Act.put, List.setIfInBounds_toArray, List.set_cons_zero, List.set_cons_succ]
              refine wpAnyH_take (i := 5) (oi := ⟨_, _, _, _, _, _⟩) (v := .agg (ptC y).toArray) rfl (by kernel_rfl) (by kernel_rfl) (by kernel_rfl) (fun _ _ _ h => h) (yieldsIf_load_mid (by rfl) 102 (.tmp 55) rfl (b) (off + k * 34) rfl (ptC y) _ (fun W h => h.2.1) Tryz.underlying102 rfl HSy.out) (by assumption) ?_
              try simp only [Act.put, List.setIfInBounds_toArray, List.set_cons_zero, List.set_cons_succ]
              refine wpAnyH_take (i := 6) (oi := ⟨_, _, _, _, _, _⟩) (v := ?_) rfl (by kernel_rfl) (by kernel_rfl) (by kernel_rfl) (fun _ _ _ h => h) (Or.inl ⟨by rfl, ?_⟩) (by assumption) ?_
              rotate_left 1
              · intro W hSw
                try dsimp only at hSw
                go_simp
                try with_reducible rfl
              try simp only [Act.put, List.setIfInBounds_toArray, List.set_cons_zero, List.set_cons_succ]
              refine wpAnyH_take (i := 7) (oi := ⟨_, _, _, _, _, _⟩) (v := ?_) rfl (by kernel_rfl) (by kernel_rfl) (by kernel_rfl) (fun _ _ _ h => h) (Or.inl ⟨by rfl, ?_⟩) (by assumption) ?_
              rotate_left 1
              · intro W hSw
                try dsimp only at hSw
                go_simp
                try with_reducible rfl
              try simp only [Act.put, List.setIfInBounds_toArray, List.set_cons_zero, List.set_cons_succ]
              refine wpAnyH_take (i := 8) (oi := ⟨_, _, _, _, _, _⟩) (v := ?_) rfl (by kernel_rfl) (by kernel_rfl) (by kernel_rfl) (fun _ _ _ h => h) (Or.inl ⟨by rfl, ?_⟩) (by assumption) ?_
              rotate_left 1
              · intro W hSw
                try dsimp only at hSw
                go_simp
                try with_reducible rfl
              try simp only [Act.put, List.setIfInBounds_toArray, List.set_cons_zero, List.set_cons_succ]
              refine wpAnyH_take (i := 9) (oi := ⟨_, _, _, _, _, _⟩) (v := ?_) rfl (by kernel_rfl) (by kernel_rfl) (by kernel_rfl) (fun _ _ _ h => h) (Or.inl ⟨by rfl, ?_⟩) (by assumption) ?_
              rotate_left 1
              · intro W hSw
                try dsimp only at hSw
                go_simp
                try with_reducible rfl
              try simp only [Act.put, List.setIfInBounds_toArray, List.set_cons_zero, List.set_cons_succ]
              refine wpAnyH_take (i := 10) (oi := ⟨_, _, _, _, _, _⟩) (v := ?_) rfl (by kernel_rfl) (by kernel_rfl) (by kernel_rfl) (fun _ _ _ h => h) (Or.inl ⟨by rfl, ?_⟩) (by assumption) ?_
              rotate_left 1
              · intro W hSw
                try dsimp only at hSw
                go_simp
                try with_reducible rfl
              try simp only [Act.put, List.setIfInBounds_toArray, List.set_cons_zero, List.set_cons_succ]
              refine wpAnyH_take (i := 11) (oi := ⟨_, _, _, _, _, _⟩) (v := .agg (ptC x).toArray) rfl (by kernel_rfl) (by kernel_rfl) (by kernel_rfl) (fun _ _ _ h => h) (yieldsIf_load_mid (by rfl) 102 (.tmp 61) rfl (b) (off + i * 34) rfl (ptC x) _ (fun W h => h.2.2) Tryz.underlying102 rfl HSx.out) (by assumption) ?_
              try simp only [Act.put, List.setIfInBounds_toArray, List.set_cons_zero, List.set_cons_succ]
              refine wpAnyH_take (i := 12) (oi := ⟨_, _, _, _, _, _⟩) (v := ?_) rfl (by kernel_rfl) (by kernel_rfl) (by kernel_rfl) (fun _ _ _ h => h) (Or.inl ⟨by rfl, ?_⟩) (by assumption) ?_
              rotate_left 1
              · intro W hSw
                try dsimp only at hSw
                go_simp
                try with_reducible rfl
              try simp only [Act.put, List.setIfInBounds_toArray, List.set_cons_zero, List.set_cons_succ]
              refine wpAnyH_done (by kernel_rfl) ?_ _
              go_wp2
              go_roundw
              case rel => exact ⟨k + 1, by omega, by go_num, HP'.out, ⟨Hb.out.os, Hb.out.tape, Hb.out.output, Hb.out.size, Hb.out.block⟩⟩
              case measure => simp [intOf] <;> omega
          · obtain rfl : k = i := by omega
            have HT' : Hid (twiceB (t.ins.take (k + 1)) = false) := HNi.out (fun j hj hjk => HP.out j hj hjk)
            go_wp2
            go_roundw
            case rel => exact ⟨k + 1, by omega, by go_num, HL'.out, HT'.out, Hb.out⟩
            case measure => simp [intOf] <;> omega
    · obtain rfl : i = t.ins.length := by omega
      have HF : Hid (formB t = true) := by
        show _ = _
        have h1 := HT.out
        rw [List.take_length] at h1
        have h2 : t.ins.any longB = false := by
          refine Bool.eq_false_iff.2 fun ha => ?_
          obtain ⟨x, hx, hl⟩ := List.any_eq_true.1 ha
          obtain ⟨j, hj, rfl⟩ := List.getElem_of_mem hx
          rw [HL.out j hj hj] at hl
          cases hl
        unfold formB
        rw [h1, h2, show cntB t.ins.length = true from decide_eq_true ⟨HM.out.2.2.1, HM.out.1⟩, show cntB t.outs.length = true from decide_eq_true ⟨HM.out.2.2.2, HM.out.2.1⟩]
        rfl
      obtain ⟨i0, hi, hz0, hz1, hz2⟩ := info_parts Tryz.u64inf
      have HVz : Hid (amtE t.outs = z) := by show _ = _; rw [← HZ.out, checkT, HF.out, cond_true]
      clear HZ HL HT
      go_wp2
      clear hc0
      go_loopw [5, 6] (fun rv iv wr => ∃ (k : Nat) (A1 : Option Addr) (c1 : Nat), k ≤ t.outs.length ∧ iv = .int .i64 k ∧ rv = .slice A1 k c1 ∧ Hid (wr.ownsRow W0.heap.size 27 1 (.slice A1 k c1) k (Ns ((t.outs.take k).map (·.amt)))) ∧ Hid (∀ j (hj : j < t.outs.length), j < k → t.outs[j].amt ≠ 0) ∧ Hid (Below W0.heap.size W0 wr)) (fun _ iv _ => t.outs.length - (intOf iv).toNat)
      case atStart => exact ⟨0, none, 0, by omega, rfl, rfl, World.ownsRow_nil _ _ _ _, fun j _ h => absurd h (Nat.not_lt_zero _), Hb.out⟩
      case round =>
        clear Hb
        obtain ⟨k, A1, c1, hk3, rfl, rfl, HO, HN, Hb⟩ := hrel
        have hc1 : wr.cell? ⟨w.heap.size, 1, none⟩ = some (.slice (some ⟨b2, off2, none⟩) t.outs.length t.d) := (Hb.out.cell (p := ⟨w.heap.size, 1, none⟩) Hs0.out).trans HC1.out
        by_cases hlt3 : k < t.outs.length
        · have hkn : (k : Int) < (t.outs.length : Int) := by omega
          have hrk := rngB (HRr2.out k hlt3) Hb.out HBb2.out
          have hnx : (t.outs.take (k + 1)).map (·.amt) = (t.outs.take k).map (·.amt) ++ [t.outs[k].amt] := by rw [List.take_succ_eq_append_getElem hlt3, List.map_append]; rfl
          obtain ⟨x, hx⟩ : ∃ x, t.outs[k].amt = x := ⟨_, rfl⟩
          have hca : wr.cell? ⟨b2, off2 + k * 33, none⟩ = some (.int .u64 (x : Int)) := by rw [← hx]; exact hrk 0 _ rfl
          rw [hx] at hnx
          have HX : Hid (t.outs[k].amt = x) := hx
          have HNx := Lib.hid hnx
          clear hrk hnx hx
          by_cases h0 : x = 0
          · have h0b : ((x : Int) == 0) = true := by rw [h0]; rfl
            have hv : z = 5 := by
              have ha : t.outs.any (fun o => o.amt == 0) = true := List.any_eq_true.2 ⟨_, List.getElem_mem hlt3, by rw [HX.out, h0]; rfl⟩
              rw [← HVz.out, amtE, ha, cond_true]
            subst hv
            clear h0
            go_wp2
            go_ret
            exact ⟨rfl, Hb0.out.trans ⟨Hb.out.os, Hb.out.tape, Hb.out.output, Hb.out.size, fun j hj => Hb.out.block j (by have := Hb0.out.size; omega)⟩⟩
          · have h0b : ((x : Int) == 0) = false := by rw [beq_eq_false_iff_ne]; omega
            have HN' : Hid (∀ j (hj : j < t.outs.length), j < k + 1 → t.outs[j].amt ≠ 0) := by
              intro j hj hjk
              by_cases h1 : j < k
              · exact HN.out j hj h1
              · obtain rfl : j = k := by omega
                rw [HX.out]; exact h0
            go_wp2_with ((with_reducible show wpList _ _ _ (⟨some 86, _, _, _, _, _⟩ :: _) _ _); refine wpList_append_seesV rfl (.tmp 78) (.tmp 85) 150 rfl W0.heap.size 27 i0 (.int .u64 0) 1 8 Tryz.underlying150 hi hz0 hz1 hz2 rfl (by omega) (.slice A1 k c1) k (Ns ((t.outs.take k).map (·.amt))) rfl (HO.out.alloc _) (wr.heap.size + 1) (some ⟨wr.heap.size, 0, none⟩) 1 1 [.int .u64 (x : Int)] rfl rfl (lit_v wr [.int .u64 (x : Int)] 27) (by intro u hu; simp at hu; subst hu; rfl) (by omega) (by omega) (by have h1 := Hb.out.size; simp; omega) ?_; intro v8 w8 ho8 hg8 hat8; obtain ⟨A8, c8, rfl⟩ := own_form ho8; have HO8 : Hid (w8.ownsRow W0.heap.size 27 1 (.slice A8 (k + 1) c8) (k + 1) (Ns ((t.outs.take (k + 1)).map (·.amt)))) := (by rw [HNx.out]; unfold Ns at ho8 ⊢; rw [List.map_append]; exact ho8); have Hb8 : Hid (Below W0.heap.size W0 w8) := (Hb.out.alloc Hb.out.size _).grown hg8 (Hb.out.alloc Hb.out.size _).size (fun j hj => (own_lt HO.out j hj).1); clear ho8 hg8 hat8)
            go_roundw
            case rel => exact ⟨k + 1, A8, c8, by omega, by go_num, rfl, HO8.out, HN'.out, Hb8.out⟩
            case measure => simp [intOf] <;> omega
        · obtain rfl : k = t.outs.length := by omega
          have HSe : Hid (SeesV wr wr.heap.size A1 (Ns (t.outs.map (·.amt)))) := by have h := SeesV.own HO.out; rw [List.take_length] at h; exact h
          have HE : Hid (sumE (t.outs.map (·.amt)) = z) := by show _ = _; rw [← HVz.out, amtE, any_zero (fun j hj => HN.out j hj hj), cond_false]
          go_wp2_with (go_at_call 95; refine (mrsum_any wr _ A1 _ c1 (t.outs.map (·.amt)) (by simp) HSe.out (by have := HM.out; omega)).mono ?_; rw [HE.out]; rintro e w9 ⟨rfl, hw9⟩; subst hw9)
          go_ret
          exact ⟨rfl, Hb0.out.trans ⟨Hb.out.os, Hb.out.tape, Hb.out.output, Hb.out.size, fun j hj => Hb.out.block j (by have := Hb0.out.size; omega)⟩⟩
end Go.Proofs.YtbloomnifhcgbaaGreatDoor
namespace Go.Proofs.YtbloomnifhcgbaaGreatDoor
open Go.RowKit

theorem rmay_any (w : World) (t : TxR) (h : TxOk w t) : Calls Tryz.prog 53 #[.agg (txC t).toArray] w fun e w' => e = .returned (.bool (checkT t == 0)) ∧ Below w.heap.size w w' := by
  have hA := TxAt.new h
  have HR := Lib.hid (blkR (vs := txC t) hA.1)
  have HT := Lib.hid hA.2
  have HZ : Hid ((Tryz.prog.info? 66).map (·.size) = some (txC t).length) := Tryz.sizeTx
  have Hb0 : Hid (Below w.heap.size w (w.alloc (.cells (txC t).toArray 66))) := Lib.hid (nxAl (nxRf w) _)
  obtain ⟨z, hz⟩ : ∃ z, checkT t = z := ⟨_, rfl⟩
  have HZz := Lib.hid hz
  rw [hz]
  clear hA h hz
  go_enter Tryz.func53, Tryz.ntmps53
  go_wp2_with (first
    | ((with_reducible show wpList _ _ _ (⟨some 3, _, _, _, _, _⟩ :: _) _ _); refine wpList_load_mid rfl 66 (.tmp 1) rfl w.heap.size 0 rfl (txC t) _ HR.out Tryz.underlying66 rfl HZ.out ?_)
    | (go_at_call 80; refine (rcheck_any _ t HT.out).mono ?_; rw [HZz.out]; rintro e w2 ⟨rfl, hb2⟩; have Hb2 : Hid (Below w.heap.size w w2) := nxTr Hb0.out hb2; clear hb2))
  go_ret
  exact ⟨rfl, Hb2.out⟩
end Go.Proofs.YtbloomnifhcgbaaGreatDoor
