/-
  block: have transactions, and blocks, more than is gone through?
  tx: Much, of two transactions: it answers, and changes nothing.
  What TxMeans' walk wants: two transactions as a row, a beginning of bytes, what was read packed again.
  BlockMeans, the walk.
-/
import Derived.Test.YtbloomnifhcgbaaGreatDoorBkB
import Derived.Test.YtbloomnifhcgbaaGreatDoorBk7
import Derived.Test.YtbloomnifhcgbaaGreatDoorTr1
import Derived.LoopN
import Derived.Test.YtbloomnifhcgbaaGreatDoorTx5
import Derived.Deep.RegionHeldLaw
import Derived.Deep.RegionHeld3
import Derived.Test.YtbloomnifhcgbaaGreatDoorLw
import Derived.Test.YtbloomnifhcgbaaGreatDoorTr3
import Derived.Test.YtbloomnifhcgbaaGreatDoorTr5
import Derived.Test.YtbloomnifhcgbaaGreatDoorPBmQ1
import Derived.Test.YtbloomnifhcgbaaGreatDoorTxF0
import Derived.Deep.DeepCutAuto
import Derived.Deep.CutBlock
namespace Go.Proofs.YtbloomnifhcgbaaGreatDoor
open Go.RowKit

/-- What is answered: yes, or no and it is so. -/
structure MuchPost (w : World) (p : Prop) (e : Ending) (w' : World) : Prop where
  r : ∃ z : Bool, e = .returned (.bool z) ∧ (z = false → p)
  q : ∃ q, w' = w.drewN q
theorem BkRow.of' {w : World} {g o : Nat} {b : BkR} (r : w.rangeAt g o (bkC b)) (f : HdFit b.h.p) : w.cell? ⟨g, o, none⟩ = some (.slice b.h.A b.h.p.ps.length b.h.c) ∧ w.cell? ⟨g, o + 130, none⟩ = some (.slice b.B b.txs.length b.d) := by
  obtain ⟨r1, r2⟩ := rng_app r
  rw [hdC_len f] at r2
  exact ⟨r1 0 _ rfl, r2 0 _ rfl⟩
theorem cell_of {w : World} {b o : Nat} {cs : List Value} (h : w.rangeAt b o cs) (j : Nat) (v : Value) (hv : cs[j]? = some v) : w.cell? ⟨b, o + j, none⟩ = some v := h j v hv
set_option maxHeartbeats 4000000 in
set_option maxRecDepth 100000 in
theorem much5_any (w : World) (A : Option Addr) (l : List TxR) (c : Nat) (k : TxsOk w A l c) : Calls Tryz.prog 29 #[.slice A l.length c, .int .i64 40] w (MuchPost w (l.length ≤ 40)) := by
  have HS := Lib.hid k.s
  have HE := Lib.hid k.each
  have Hm := Lib.hid k.m
  clear k
  go_enter Tryz.func29, Tryz.ntmps29
  go_wp2
  go_loopw [5, 6] (fun nv iv wr => ∃ (m : Int) (i : Nat), nv = .int .i64 m ∧ i ≤ l.length ∧ iv = .int .i64 i ∧ ∃ q, wr = w.drewN q) (fun _ iv _ => l.length - (intOf iv).toNat)
  case atStart => exact ⟨0, 0, rfl, by omega, rfl, 0, rfl⟩
  case round =>
    obtain ⟨m, i, rfl, hi, rfl, q0, rfl⟩ := hrel
    by_cases hlt : i < l.length ∧ i ≤ 40
    · obtain ⟨hlt, h40⟩ := hlt
      have hin : (i : Int) < (l.length : Int) := by omega
      have hin2 : (i : Int) ≤ 40 := by omega
      obtain ⟨b, off, rfl, hbb, hr⟩ := txsC_row HS.out (by omega)
      have hrk := hr i hlt
      have hik := HE.out _ (List.getElem_mem hlt)
      obtain ⟨t, ht⟩ : ∃ t, l[i] = t := ⟨_, rfl⟩
      rw [ht] at hrk hik
      have c0 : (w.drewN q0).cell? ⟨b, off + i * 3, none⟩ = some (.slice t.A t.ins.length t.c) := cell_of hrk 0 _ rfl
      have c1 : (w.drewN q0).cell? ⟨b, off + i * 3 + 1, none⟩ = some (.slice t.B t.outs.length t.d) := cell_of hrk 1 _ rfl
      have d0 : w.cell? ⟨b, off + i * 3, none⟩ = some (.slice t.A t.ins.length t.c) := c0
      have d1 : w.cell? ⟨b, off + i * 3 + 1, none⟩ = some (.slice t.B t.outs.length t.d) := c1
      have C0 : Hid (w.cell? ⟨b, off + i * 3, none⟩ = some (.slice t.A t.ins.length t.c)) := c0
      have HI := Lib.hid hik.ins
      have HIe := Lib.hid hik.each
      have hmi := hik.mi
      have HMi := Lib.hid hmi
      have hwi : IntKind.i64.wrap ((i : Int) + 1) = (i : Int) + 1 := by rw [IntKind.wrap_i64]; omega
      clear hr hrk hik ht hbb
      go_wp2
      refine wp_region_quiet_lit (by kernel_rfl) (by kernel_rfl) ?_
      repeat (go_big_quiet_step (fail))
      refine wpQuiet_nil ?_
      intro _ hw'
      obtain ⟨nq, rfl⟩ := hw'
      clear c0 c1 d0 d1
      go_wp2
      go_loopw [5, 7] (fun nv kv wr => ∃ (m : Int) (k : Nat), nv = .int .i64 m ∧ k ≤ t.ins.length ∧ kv = .int .i64 k ∧ ∃ q, wr = w.drewN q) (fun _ kv _ => t.ins.length - (intOf kv).toNat)
      case atStart => exact ⟨_, 0, rfl, by omega, rfl, q0 + nq, by simp⟩
      case round =>
        obtain ⟨m2, k, rfl, hk, rfl, q1, rfl⟩ := hrel
        have c0 : (w.drewN q1).cell? ⟨b, off + i * 3, none⟩ = some (.slice t.A t.ins.length t.c) := C0.out
        by_cases hk2 : k < t.ins.length ∧ k ≤ 300
        · obtain ⟨hk2, h300⟩ := hk2
          have hkn : (k : Int) < (t.ins.length : Int) := by omega
          have hk3 : (k : Int) ≤ 300 := by omega
          obtain ⟨b2, off2, hA2, hbb2, hr2⟩ := insC_row HI.out (fun j hj => (HIe.out j hj).id) (by omega)
          rw [hA2] at c0
          have hx := HIe.out _ (List.getElem_mem hk2)
          obtain ⟨x, hx2⟩ : ∃ x, t.ins[k] = x := ⟨_, rfl⟩
          have hr3 := hr2 k hk2
          rw [hx2] at hx hr3
          have c2 : (w.drewN q1).cell? ⟨b2, off2 + k * 34 + 33, none⟩ = some (.slice x.A x.wit.length x.c) := cell_of hr3 33 _ (inC_at hx.id).2
          have hwk : IntKind.i64.wrap ((k : Int) + 1) = (k : Int) + 1 := by rw [IntKind.wrap_i64]; omega
          obtain ⟨mn, hmn⟩ : ∃ mn : Int, (if (30001 : Int) < (x.wit.length : Int) then (30001 : Int) else (x.wit.length : Int)) = mn := ⟨_, rfl⟩
          have HMn := Lib.hid hmn
          clear hA2 hbb2 hr2 hx hx2 hr3 hmn
          go_wp2_with ((with_reducible show wpList _ _ _ (⟨some 59, _, _, _, _, _⟩ :: _) _ _); refine wpList_min rfl (.tmp 58) 30001 rfl (x.wit.length : Int) mn rfl HMn.out ?_)
          go_roundw
          case rel => exact ⟨_, k + 1, rfl, by omega, by go_num, q1, rfl⟩
          case measure => simp [intOf] <;> omega
        · by_cases hk3 : k < t.ins.length
          · have hkn : (k : Int) < (t.ins.length : Int) := by omega
            have hgb : decide ((k : Int) ≤ 300) = false := decide_eq_false (by omega)
            by_cases h6 : (600 : Int) < m2
            · go_wp2
              go_ret
              exact ⟨⟨true, rfl, (fun h => by cases h)⟩, q1, rfl⟩
            · go_wp2
              go_roundw
              case rel => exact ⟨m2, i + 1, rfl, by omega, by go_num, q1, rfl⟩
              case measure => simp [intOf] <;> omega
          · have hkn : ¬ (k : Int) < (t.ins.length : Int) := by omega
            by_cases h6 : (600 : Int) < m2
            · go_wp2
              go_ret
              exact ⟨⟨true, rfl, (fun h => by cases h)⟩, q1, rfl⟩
            · go_wp2
              go_roundw
              case rel => exact ⟨m2, i + 1, rfl, by omega, by go_num, q1, rfl⟩
              case measure => simp [intOf] <;> omega
    · by_cases hlt2 : i < l.length
      · have hin : (i : Int) < (l.length : Int) := by omega
        have hgb : decide ((i : Int) ≤ 40) = false := decide_eq_false (by omega)
        have hend : (40 : Int) < (l.length : Int) := by omega
        go_wp2
        go_ret
        exact ⟨⟨true, rfl, (fun h => by cases h)⟩, q0, rfl⟩
      · have hin : ¬ (i : Int) < (l.length : Int) := by omega
        clear hlt
        by_cases h40 : l.length ≤ 40
        · have hend : ¬ (40 : Int) < (l.length : Int) := by omega
          go_wp2
          go_ret
          exact ⟨⟨false, rfl, fun _ => by first | exact h40 | trivial⟩, q0, rfl⟩
        · have hend : (40 : Int) < (l.length : Int) := by omega
          go_wp2
          go_ret
          exact ⟨⟨true, rfl, (fun h => by cases h)⟩, q0, rfl⟩

/-- Few parents, and few transactions. -/
def fewB (b : BkR) : Prop := b.h.p.ps.length ≤ 600 ∧ b.txs.length ≤ 40
set_option maxHeartbeats 4000000 in
set_option maxRecDepth 100000 in
theorem much6_any (w : World) (g c : Nat) (l : List BkR) (m : Nat) (hm : m ≤ 1000) (hr : ∀ k (hk : k < l.length), w.rangeAt g (k * 131) (bkC l[k])) (hk : ∀ b ∈ l, BkOk w b) (hl : l.length ≤ 1000) :
    Calls Tryz.prog 10 #[.slice (some ⟨g, 0, none⟩) l.length c, .int .i64 (m : Int)] w (MuchPost w (∀ b ∈ l, fewB b)) := by
  have HR := Lib.hid hr
  have HK := Lib.hid hk
  clear hr hk
  go_enter Tryz.func10, Tryz.ntmps10
  go_wp2
  go_loopw [5] (fun iv wr => ∃ i : Nat, i ≤ l.length ∧ iv = .int .i64 i ∧ Hid (∀ j (hj : j < l.length), j < i → fewB l[j]) ∧ ∃ q, wr = w.drewN q) (fun iv _ => l.length - (intOf iv).toNat)
  case atStart => exact ⟨0, by omega, rfl, fun j _ h => absurd h (Nat.not_lt_zero _), 0, rfl⟩
  case round =>
    obtain ⟨i, hi, rfl, HF, q0, rfl⟩ := hrel
    by_cases hlt : i < l.length ∧ i ≤ m
    · obtain ⟨hlt, h40⟩ := hlt
      have hin : (i : Int) < (l.length : Int) := by omega
      have hin2 : (i : Int) ≤ (m : Int) := by omega
      have hik := HK.out _ (List.getElem_mem hlt)
      have hrow := BkRow.of' (HR.out i hlt) hik.h.f
      obtain ⟨b, hb⟩ : ∃ b, l[i] = b := ⟨_, rfl⟩
      rw [hb] at hik hrow
      have HB : Hid (l[i] = b) := hb
      have c0 : (w.drewN q0).cell? ⟨g, i * 131, none⟩ = some (.slice b.h.A b.h.p.ps.length b.h.c) := hrow.1
      have c1 : (w.drewN q0).cell? ⟨g, i * 131 + 130, none⟩ = some (.slice b.B b.txs.length b.d) := hrow.2
      have HT : Hid (TxsOk (w.drewN q0) b.B b.txs b.d) := hik.t.later ⟨rfl, rfl, rfl, Nat.le_refl _, fun _ _ => rfl⟩
      have hwi : IntKind.i64.wrap ((i : Int) + 1) = (i : Int) + 1 := by rw [IntKind.wrap_i64]; omega
      clear hik hrow hb
      by_cases h6 : b.h.p.ps.length ≤ 600
      rotate_left 1
      · have hg : (600 : Int) < (b.h.p.ps.length : Int) := by omega
        clear h6
        go_wp2
        go_ret
        exact ⟨⟨true, rfl, (fun h => by cases h)⟩, q0, rfl⟩
      have hg : ¬ (600 : Int) < (b.h.p.ps.length : Int) := by omega
      have H6 := Lib.hid h6
      clear h6
      go_wp2_with (go_at_call 29; refine (much5_any _ b.B b.txs b.d HT.out).mono ?_; rintro e w2 ⟨⟨z, rfl, hz⟩, q1, rfl⟩; have HZ := Lib.hid hz; clear hz; cases z)
      · have HF' : Hid (∀ j (hj : j < l.length), j < i + 1 → fewB l[j]) := by
          intro j hj hji
          by_cases h1 : j < i
          · exact HF.out j hj h1
          · obtain rfl : j = i := by omega
            rw [HB.out]
            exact ⟨H6.out, HZ.out (by first | rfl | trivial)⟩
        go_wp2
        go_roundw
        case rel => exact ⟨i + 1, by omega, by go_num, HF'.out, q0 + q1, by simp⟩
        case measure => simp [intOf] <;> omega
      · go_wp2
        go_ret
        exact ⟨⟨true, rfl, (fun h => by cases h)⟩, q0 + q1, by simp⟩
    · by_cases hlt2 : i < l.length
      · have hin : (i : Int) < (l.length : Int) := by omega
        have hgb : decide ((i : Int) ≤ (m : Int)) = false := decide_eq_false (by omega)
        have hend : (m : Int) < (l.length : Int) := by omega
        go_wp2
        go_ret
        exact ⟨⟨true, rfl, (fun h => by cases h)⟩, q0, rfl⟩
      · have hin : ¬ (i : Int) < (l.length : Int) := by omega
        obtain rfl : i = l.length := by omega
        clear hlt hlt2
        have HAll : Hid (∀ b ∈ l, fewB b) := by
          intro b hb
          obtain ⟨j, hj, rfl⟩ := List.getElem_of_mem hb
          exact HF.out j hj hj
        by_cases h40 : l.length ≤ m
        · have hend : ¬ (m : Int) < (l.length : Int) := by omega
          go_wp2
          go_ret
          exact ⟨⟨false, rfl, fun _ => HAll.out⟩, q0, rfl⟩
        · have hend : (m : Int) < (l.length : Int) := by omega
          go_wp2
          go_ret
          exact ⟨⟨true, rfl, (fun h => by cases h)⟩, q0, rfl⟩
end Go.Proofs.YtbloomnifhcgbaaGreatDoor

namespace Go.Proofs.YtbloomnifhcgbaaGreatDoor
open Go.RowKit

set_option maxHeartbeats 4000000 in
set_option maxRecDepth 100000 in
theorem much2_any (w : World) (bm : Nat) (t u : TxR) (ht : TxOk w t) (hu : TxOk w u) (hB : Blk w bm 66 (txC t ++ txC u).toArray) : Calls Tryz.prog 29 #[.slice (some ⟨bm, 0, none⟩) 2 2, .int .i64 2] w fun e w' => ∃ z : Bool, e = .returned (.bool z) ∧ Below w.heap.size w w' := by
  have HT := Lib.hid ht
  have HU := Lib.hid hu
  have HC : Hid (w.cell? ⟨bm, 0, none⟩ = some (.slice t.A t.ins.length t.c) ∧ w.cell? ⟨bm, 1, none⟩ = some (.slice t.B t.outs.length t.d) ∧ w.cell? ⟨bm, 3, none⟩ = some (.slice u.A u.ins.length u.c) ∧ w.cell? ⟨bm, 4, none⟩ = some (.slice u.B u.outs.length u.d) ∧ bm < w.heap.size) := ⟨hB.cell 0, hB.cell 1, hB.cell 3, hB.cell 4, hB.lt⟩
  clear ht hu hB
  go_enter Tryz.func29, Tryz.ntmps29
  go_wp2
  go_loopw [5, 6] (fun nv iv wr => ∃ (i : Nat) (v : Int), i ≤ 2 ∧ iv = .int .i64 i ∧ nv = .int .i64 v ∧ Hid (Below w.heap.size w wr)) (fun _ iv _ => 2 - (intOf iv).toNat)
  case atStart => exact ⟨0, 0, by omega, rfl, rfl, nxRf w⟩
  case round =>
    obtain ⟨i, v, hi, rfl, rfl, Hb⟩ := hrel
    by_cases hi2 : i = 2
    · subst hi2
      go_wp2
      go_ret
      exact ⟨_, rfl, Hb.out⟩
    · by_cases hi0 : i = 0
      · subst hi0
        obtain ⟨l, hl⟩ : ∃ l, t.ins = l := ⟨_, rfl⟩
        obtain ⟨no, hno⟩ : ∃ l, t.outs.length = l := ⟨_, rfl⟩
        have hc0 : wr.cell? ⟨bm, 0, none⟩ = some (.slice t.A l.length t.c) := by rw [← hl]; exact (Hb.out.cell (p := ⟨bm, 0, none⟩) HC.out.2.2.2.2).trans HC.out.1
        have hc1 : wr.cell? ⟨bm, 1, none⟩ = some (.slice t.B no t.d) := by rw [← hno]; exact (Hb.out.cell (p := ⟨bm, 1, none⟩) HC.out.2.2.2.2).trans HC.out.2.1
        have hmi : l.length ≤ 140737488355328 := by rw [← hl]; exact HT.out.mi
        have HI : Hid (∀ j ∈ l, j.id.length = 32 ∧ j.wit.length ≤ 140737488355328) := fun j hj => by rw [← hl] at hj; exact ⟨(HT.out.each j hj).id, (HT.out.each j hj).m⟩
        have HIS : Hid (SeesV w w.heap.size t.A (insC l)) := by show SeesV _ _ _ _; rw [← hl]; exact HT.out.ins
        have HC0 := Lib.hid hc0
        have HC1 := Lib.hid hc1
        have HLL : Hid (t.ins.length = l.length) := by show _ = _; rw [hl]
        clear hl hno hc1
        go_wp2_with fail
        refine wp_region_held_drew (S := fun W => W.cell? ⟨bm, 0, none⟩ = some (.slice t.A l.length t.c) ∧ W.cell? ⟨bm, 1, none⟩ = some (.slice t.B no t.d)) (by kernel_rfl) ⟨HC0.out, HC1.out⟩ (fun hHeld => ?_)
        refine wpAnyH_take (i := 0) (oi := ⟨_, _, _, _, _, _⟩) (v := ?_) rfl (by kernel_rfl) (by kernel_rfl) (by kernel_rfl) (fun _ _ _ h => h) (Or.inl ⟨by rfl, ?_⟩) (by assumption) ?_
        rotate_left 1
        · intro W hSw
          try dsimp only at hSw
          go_simp
          try with_reducible rfl
        try simp only [Act.put, List.setIfInBounds_toArray, List.set_cons_zero, List.set_cons_succ]
        refine wpAnyH_take (i := 1) (oi := ⟨_, _, _, _, _, _⟩) (v := ?_) rfl (by kernel_rfl) (by kernel_rfl) (by kernel_rfl) (fun _ _ _ h => h) (Or.inl ⟨by rfl, ?_⟩) (by assumption) ?_
        rotate_left 1
        · intro W hSw
          try dsimp only at hSw
          go_simp
          try with_reducible rfl
        try simp only [Act.put, List.setIfInBounds_toArray, List.set_cons_zero, List.set_cons_succ]
        refine wpAnyH_take (i := 2) (oi := ⟨_, _, _, _, _, _⟩) (v := ?_) rfl (by kernel_rfl) (by kernel_rfl) (by kernel_rfl) (fun _ _ _ h => h) (Or.inl ⟨by rfl, ?_⟩) (by assumption) ?_
        rotate_left 1
        · intro W hSw
          try dsimp only at hSw
          go_simp
          try with_reducible rfl
        try simp only [Act.put, List.setIfInBounds_toArray, List.set_cons_zero, List.set_cons_succ]
        refine wpAnyH_take (i := 3) (oi := ⟨_, _, _, _, _, _⟩) (v := ?_) rfl (by kernel_rfl) (by kernel_rfl) (by kernel_rfl) (fun _ _ _ h => h) (Or.inl ⟨by rfl, ?_⟩) (by assumption) ?_
        rotate_left 1
        · intro W hSw
          try dsimp only at hSw
          go_simp
          try with_reducible rfl
        try simp only [Act.put, List.setIfInBounds_toArray, List.set_cons_zero, List.set_cons_succ]
        refine wpAnyH_take (i := 4) (oi := ⟨_, _, _, _, _, _⟩) (v := ?_) rfl (by kernel_rfl) (by kernel_rfl) (by kernel_rfl) (fun _ _ _ h => h) (Or.inl ⟨by rfl, ?_⟩) (by assumption) ?_
        rotate_left 1
        · intro W hSw
          try dsimp only at hSw
          go_simp
          try with_reducible rfl
        try simp only [Act.put, List.setIfInBounds_toArray, List.set_cons_zero, List.set_cons_succ]
        refine wpAnyH_take (i := 5) (oi := ⟨_, _, _, _, _, _⟩) (v := ?_) rfl (by kernel_rfl) (by kernel_rfl) (by kernel_rfl) (fun _ _ _ h => h) (Or.inl ⟨by rfl, ?_⟩) (by assumption) ?_
        rotate_left 1
        · intro W hSw
          try dsimp only at hSw
          go_simp
          try with_reducible rfl
        try simp only [Act.put, List.setIfInBounds_toArray, List.set_cons_zero, List.set_cons_succ]
        refine wpAnyH_take (i := 6) (oi := ⟨_, _, _, _, _, _⟩) (v := ?_) rfl (by kernel_rfl) (by kernel_rfl) (by kernel_rfl) (fun _ _ _ h => h) (Or.inl ⟨by rfl, ?_⟩) (by assumption) ?_
        rotate_left 1
        · intro W hSw
          try dsimp only at hSw
          go_simp
          try with_reducible rfl
        try simp only [Act.put, List.setIfInBounds_toArray, List.set_cons_zero, List.set_cons_succ]
        refine wpAnyH_take (i := 7) (oi := ⟨_, _, _, _, _, _⟩) (v := ?_) rfl (by kernel_rfl) (by kernel_rfl) (by kernel_rfl) (fun _ _ _ h => h) (Or.inl ⟨by rfl, ?_⟩) (by assumption) ?_
        rotate_left 1
        · intro W hSw
          try dsimp only at hSw
          go_simp
          try with_reducible rfl
        try simp only [Act.put, List.setIfInBounds_toArray, List.set_cons_zero, List.set_cons_succ]
        refine wpAnyH_take (i := 8) (oi := ⟨_, _, _, _, _, _⟩) (v := ?_) rfl (by kernel_rfl) (by kernel_rfl) (by kernel_rfl) (fun _ _ _ h => h) (Or.inl ⟨by rfl, ?_⟩) (by assumption) ?_
        rotate_left 1
        · intro W hSw
          try dsimp only at hSw
          go_simp
          try with_reducible rfl
        try simp only [Act.put, List.setIfInBounds_toArray, List.set_cons_zero, List.set_cons_succ]
        refine wpAnyH_take (i := 9) (oi := ⟨_, _, _, _, _, _⟩) (v := ?_) rfl (by kernel_rfl) (by kernel_rfl) (by kernel_rfl) (fun _ _ _ h => h) (Or.inl ⟨by rfl, ?_⟩) (by assumption) ?_
        rotate_left 1
        · intro W hSw
          try dsimp only at hSw
          go_simp
          try with_reducible rfl
        try simp only [Act.put, List.setIfInBounds_toArray, List.set_cons_zero, List.set_cons_succ]
        refine wpAnyH_take (i := 10) (oi := ⟨_, _, _, _, _, _⟩) (v := ?_) rfl (by kernel_rfl) (by kernel_rfl) (by kernel_rfl) (fun _ _ _ h => h) (Or.inl ⟨by rfl, ?_⟩) (by assumption) ?_
        rotate_left 1
        · intro W hSw
          try dsimp only at hSw
          go_simp
          try with_reducible rfl
        try simp only [Act.put, List.setIfInBounds_toArray, List.set_cons_zero, List.set_cons_succ]
        refine wpAnyH_take (i := 11) (oi := ⟨_, _, _, _, _, _⟩) (v := ?_) rfl (by kernel_rfl) (by kernel_rfl) (by kernel_rfl) (fun _ _ _ h => h) (Or.inl ⟨by rfl, ?_⟩) (by assumption) ?_
        rotate_left 1
        · intro W hSw
          try dsimp only at hSw
          go_simp
          try with_reducible rfl
        try simp only [Act.put, List.setIfInBounds_toArray, List.set_cons_zero, List.set_cons_succ]
        refine wpAnyH_take (i := 12) (oi := ⟨_, _, _, _, _, _⟩) (v := ?_) rfl (by kernel_rfl) (by kernel_rfl) (by kernel_rfl) (fun _ _ _ h => h) (Or.inl ⟨by rfl, ?_⟩) (by assumption) ?_
        rotate_left 1
        · intro W hSw
          try dsimp only at hSw
          go_simp
          try with_reducible rfl
        try simp only [Act.put, List.setIfInBounds_toArray, List.set_cons_zero, List.set_cons_succ]
        refine wpAnyH_take (i := 13) (oi := ⟨_, _, _, _, _, _⟩) (v := ?_) rfl (by kernel_rfl) (by kernel_rfl) (by kernel_rfl) (fun _ _ _ h => h) (Or.inl ⟨by rfl, ?_⟩) (by assumption) ?_
        rotate_left 1
        · intro W hSw
          try dsimp only at hSw
          go_simp
          try with_reducible rfl
        try simp only [Act.put, List.setIfInBounds_toArray, List.set_cons_zero, List.set_cons_succ]
        refine wpAnyH_take (i := 14) (oi := ⟨_, _, _, _, _, _⟩) (v := ?_) rfl (by kernel_rfl) (by kernel_rfl) (by kernel_rfl) (fun _ _ _ h => h) (Or.inl ⟨by rfl, ?_⟩) (by assumption) ?_
        rotate_left 1
        · intro W hSw
          try dsimp only at hSw
          go_simp
          try with_reducible rfl
        try simp only [Act.put, List.setIfInBounds_toArray, List.set_cons_zero, List.set_cons_succ]
        refine wpAnyH_take (i := 15) (oi := ⟨_, _, _, _, _, _⟩) (v := ?_) rfl (by kernel_rfl) (by kernel_rfl) (by kernel_rfl) (fun _ _ _ h => h) (Or.inl ⟨by rfl, ?_⟩) (by assumption) ?_
        rotate_left 1
        · intro W hSw
          try dsimp only at hSw
          go_simp
          try with_reducible rfl
        try simp only [Act.put, List.setIfInBounds_toArray, List.set_cons_zero, List.set_cons_succ]
        refine wpAnyH_done (by kernel_rfl) ?_ _
        go_wp2
        clear hc0 hHeld
        go_loopw [5, 7] (fun nv kv wt => ∃ (k : Nat) (v2 : Int), k ≤ l.length ∧ k ≤ 301 ∧ kv = .int .i64 k ∧ nv = .int .i64 v2 ∧ Hid (Below w.heap.size w wt)) (fun _ kv _ => l.length - (intOf kv).toNat)
        case atStart => exact ⟨0, _, by omega, by omega, rfl, rfl, Hb.out.drew⟩
        case round =>
          clear HC0 HC1 Hb
          obtain ⟨k, v2, hk, hk3, rfl, rfl, Hb⟩ := hrel
          have hc0 : wr.cell? ⟨bm, 0, none⟩ = some (.slice t.A l.length t.c) := by
            rw [← HLL.out]; exact (Hb.out.cell (p := ⟨bm, 0, none⟩) HC.out.2.2.2.2).trans HC.out.1
          by_cases hlt : k < l.length
          · have hin : (k : Int) < (l.length : Int) := by omega
            by_cases hle : k ≤ 300
            · have hlb : (k : Int) ≤ 300 := by omega
              obtain ⟨b, off, hA, hbb, hr⟩ := insC_row HIS.out (fun i h => (HI.out i h).1) (by omega)
              rw [hA] at hc0
              have hrk := rngB (hr k hlt) Hb.out hbb
              have hik := HI.out _ (List.getElem_mem hlt)
              obtain ⟨x, hx⟩ : ∃ x, l[k] = x := ⟨_, rfl⟩
              rw [hx] at hrk hik
              have hw33 : wr.cell? ⟨b, off + k * 34 + 33, none⟩ = some (.slice x.A x.wit.length x.c) := hrk 33 _ (inC_at hik.1).2
              clear hr hrk hik hx hA
              by_cases hmn : (30001 : Int) < (x.wit.length : Int)
              · go_wp2
                go_roundw
                case rel => exact ⟨k + 1, _, by omega, by omega, by go_num, rfl, Hb.out⟩
                case measure => simp [intOf] <;> omega
              · go_wp2
                go_roundw
                case rel => exact ⟨k + 1, _, by omega, by omega, by go_num, rfl, Hb.out⟩
                case measure => simp [intOf] <;> omega
            · have hgb : decide ((k : Int) ≤ 300) = false := decide_eq_false (by omega)
              by_cases hg : (600 : Int) < v2
              · go_wp2
                go_ret
                exact ⟨_, rfl, Hb.out⟩
              · go_wp2
                go_roundw
                case rel => exact ⟨1, v2, by omega, by go_num, rfl, Hb.out⟩
                case measure => simp [intOf] <;> omega
          · obtain rfl : k = l.length := by omega
            by_cases hg : (600 : Int) < v2
            · go_wp2
              go_ret
              exact ⟨_, rfl, Hb.out⟩
            · go_wp2
              go_roundw
              case rel => exact ⟨1, v2, by omega, by go_num, rfl, Hb.out⟩
              case measure => simp [intOf] <;> omega
      · obtain rfl : i = 1 := by omega
        obtain ⟨l, hl⟩ : ∃ l, u.ins = l := ⟨_, rfl⟩
        obtain ⟨no, hno⟩ : ∃ l, u.outs.length = l := ⟨_, rfl⟩
        have hc0 : wr.cell? ⟨bm, 3, none⟩ = some (.slice u.A l.length u.c) := by rw [← hl]; exact (Hb.out.cell (p := ⟨bm, 3, none⟩) HC.out.2.2.2.2).trans HC.out.2.2.1
        have hc1 : wr.cell? ⟨bm, 4, none⟩ = some (.slice u.B no u.d) := by rw [← hno]; exact (Hb.out.cell (p := ⟨bm, 4, none⟩) HC.out.2.2.2.2).trans HC.out.2.2.2.1
        have hmi : l.length ≤ 140737488355328 := by rw [← hl]; exact HU.out.mi
        have HI : Hid (∀ j ∈ l, j.id.length = 32 ∧ j.wit.length ≤ 140737488355328) := fun j hj => by rw [← hl] at hj; exact ⟨(HU.out.each j hj).id, (HU.out.each j hj).m⟩
        have HIS : Hid (SeesV w w.heap.size u.A (insC l)) := by show SeesV _ _ _ _; rw [← hl]; exact HU.out.ins
        have HC0 := Lib.hid hc0
        have HC1 := Lib.hid hc1
        have HLL : Hid (u.ins.length = l.length) := by show _ = _; rw [hl]
        clear hl hno hc1
        go_wp2_with fail
        refine wp_region_held_drew (S := fun W => W.cell? ⟨bm, 3, none⟩ = some (.slice u.A l.length u.c) ∧ W.cell? ⟨bm, 4, none⟩ = some (.slice u.B no u.d)) (by kernel_rfl) ⟨HC0.out, HC1.out⟩ (fun hHeld => ?_)
        refine wpAnyH_take (i := 0) (oi := ⟨_, _, _, _, _, _⟩) (v := ?_) rfl (by kernel_rfl) (by kernel_rfl) (by kernel_rfl) (fun _ _ _ h => h) (Or.inl ⟨by rfl, ?_⟩) (by assumption) ?_
        rotate_left 1
        · intro W hSw
          try dsimp only at hSw
          go_simp
          try with_reducible rfl
        try simp only [Act.put, List.setIfInBounds_toArray, List.set_cons_zero, List.set_cons_succ]
        refine wpAnyH_take (i := 1) (oi := ⟨_, _, _, _, _, _⟩) (v := ?_) rfl (by kernel_rfl) (by kernel_rfl) (by kernel_rfl) (fun _ _ _ h => h) (Or.inl ⟨by rfl, ?_⟩) (by assumption) ?_
        rotate_left 1
        · intro W hSw
          try dsimp only at hSw
          go_simp
          try with_reducible rfl
        try simp only [Act.put, List.setIfInBounds_toArray, List.set_cons_zero, List.set_cons_succ]
        refine wpAnyH_take (i := 2) (oi := ⟨_, _, _, _, _, _⟩) (v := ?_) rfl (by kernel_rfl) (by kernel_rfl) (by kernel_rfl) (fun _ _ _ h => h) (Or.inl ⟨by rfl, ?_⟩) (by assumption) ?_
        rotate_left 1
        · intro W hSw
          try dsimp only at hSw
          go_simp
          try with_reducible rfl
        try simp only [Act.put, List.setIfInBounds_toArray, List.set_cons_zero, List.set_cons_succ]
        refine wpAnyH_take (i := 3) (oi := ⟨_, _, _, _, _, _⟩) (v := ?_) rfl (by kernel_rfl) (by kernel_rfl) (by kernel_rfl) (fun _ _ _ h => h) (Or.inl ⟨by rfl, ?_⟩) (by assumption) ?_
        rotate_left 1
        · intro W hSw
          try dsimp only at hSw
          go_simp
          try with_reducible rfl
        try simp only [Act.put, List.setIfInBounds_toArray, List.set_cons_zero, List.set_cons_succ]
        refine wpAnyH_take (i := 4) (oi := ⟨_, _, _, _, _, _⟩) (v := ?_) rfl (by kernel_rfl) (by kernel_rfl) (by kernel_rfl) (fun _ _ _ h => h) (Or.inl ⟨by rfl, ?_⟩) (by assumption) ?_
        rotate_left 1
        · intro W hSw
          try dsimp only at hSw
          go_simp
          try with_reducible rfl
        try simp only [Act.put, List.setIfInBounds_toArray, List.set_cons_zero, List.set_cons_succ]
        refine wpAnyH_take (i := 5) (oi := ⟨_, _, _, _, _, _⟩) (v := ?_) rfl (by kernel_rfl) (by kernel_rfl) (by kernel_rfl) (fun _ _ _ h => h) (Or.inl ⟨by rfl, ?_⟩) (by assumption) ?_
        rotate_left 1
        · intro W hSw
          try dsimp only at hSw
          go_simp
          try with_reducible rfl
        try simp only [Act.put, List.setIfInBounds_toArray, List.set_cons_zero, List.set_cons_succ]
        refine wpAnyH_take (i := 6) (oi := ⟨_, _, _, _, _, _⟩) (v := ?_) rfl (by kernel_rfl) (by kernel_rfl) (by kernel_rfl) (fun _ _ _ h => h) (Or.inl ⟨by rfl, ?_⟩) (by assumption) ?_
        rotate_left 1
        · intro W hSw
          try dsimp only at hSw
          go_simp
          try with_reducible rfl
        try simp only [Act.put, List.setIfInBounds_toArray, List.set_cons_zero, List.set_cons_succ]
        refine wpAnyH_take (i := 7) (oi := ⟨_, _, _, _, _, _⟩) (v := ?_) rfl (by kernel_rfl) (by kernel_rfl) (by kernel_rfl) (fun _ _ _ h => h) (Or.inl ⟨by rfl, ?_⟩) (by assumption) ?_
        rotate_left 1
        · intro W hSw
          try dsimp only at hSw
          go_simp
          try with_reducible rfl
        try simp only [Act.put, List.setIfInBounds_toArray, List.set_cons_zero, List.set_cons_succ]
        refine wpAnyH_take (i := 8) (oi := ⟨_, _, _, _, _, _⟩) (v := ?_) rfl (by kernel_rfl) (by kernel_rfl) (by kernel_rfl) (fun _ _ _ h => h) (Or.inl ⟨by rfl, ?_⟩) (by assumption) ?_
        rotate_left 1
        · intro W hSw
          try dsimp only at hSw
          go_simp
          try with_reducible rfl
        try simp only [Act.put, List.setIfInBounds_toArray, List.set_cons_zero, List.set_cons_succ]
        refine wpAnyH_take (i := 9) (oi := ⟨_, _, _, _, _, _⟩) (v := ?_) rfl (by kernel_rfl) (by kernel_rfl) (by kernel_rfl) (fun _ _ _ h => h) (Or.inl ⟨by rfl, ?_⟩) (by assumption) ?_
        rotate_left 1
        · intro W hSw
          try dsimp only at hSw
          go_simp
          try with_reducible rfl
        try simp only [Act.put, List.setIfInBounds_toArray, List.set_cons_zero, List.set_cons_succ]
        refine wpAnyH_take (i := 10) (oi := ⟨_, _, _, _, _, _⟩) (v := ?_) rfl (by kernel_rfl) (by kernel_rfl) (by kernel_rfl) (fun _ _ _ h => h) (Or.inl ⟨by rfl, ?_⟩) (by assumption) ?_
        rotate_left 1
        · intro W hSw
          try dsimp only at hSw
          go_simp
          try with_reducible rfl
        try simp only [Act.put, List.setIfInBounds_toArray, List.set_cons_zero, List.set_cons_succ]
        refine wpAnyH_take (i := 11) (oi := ⟨_, _, _, _, _, _⟩) (v := ?_) rfl (by kernel_rfl) (by kernel_rfl) (by kernel_rfl) (fun _ _ _ h => h) (Or.inl ⟨by rfl, ?_⟩) (by assumption) ?_
        rotate_left 1
        · intro W hSw
          try dsimp only at hSw
          go_simp
          try with_reducible rfl
        try simp only [Act.put, List.setIfInBounds_toArray, List.set_cons_zero, List.set_cons_succ]
        refine wpAnyH_take (i := 12) (oi := ⟨_, _, _, _, _, _⟩) (v := ?_) rfl (by kernel_rfl) (by kernel_rfl) (by kernel_rfl) (fun _ _ _ h => h) (Or.inl ⟨by rfl, ?_⟩) (by assumption) ?_
        rotate_left 1
        · intro W hSw
          try dsimp only at hSw
          go_simp
          try with_reducible rfl
        try simp only [Act.put, List.setIfInBounds_toArray, List.set_cons_zero, List.set_cons_succ]
        refine wpAnyH_take (i := 13) (oi := ⟨_, _, _, _, _, _⟩) (v := ?_) rfl (by kernel_rfl) (by kernel_rfl) (by kernel_rfl) (fun _ _ _ h => h) (Or.inl ⟨by rfl, ?_⟩) (by assumption) ?_
        rotate_left 1
        · intro W hSw
          try dsimp only at hSw
          go_simp
          try with_reducible rfl
        try simp only [Act.put, List.setIfInBounds_toArray, List.set_cons_zero, List.set_cons_succ]
        refine wpAnyH_take (i := 14) (oi := ⟨_, _, _, _, _, _⟩) (v := ?_) rfl (by kernel_rfl) (by kernel_rfl) (by kernel_rfl) (fun _ _ _ h => h) (Or.inl ⟨by rfl, ?_⟩) (by assumption) ?_
        rotate_left 1
        · intro W hSw
          try dsimp only at hSw
          go_simp
          try with_reducible rfl
        try simp only [Act.put, List.setIfInBounds_toArray, List.set_cons_zero, List.set_cons_succ]
        refine wpAnyH_take (i := 15) (oi := ⟨_, _, _, _, _, _⟩) (v := ?_) rfl (by kernel_rfl) (by kernel_rfl) (by kernel_rfl) (fun _ _ _ h => h) (Or.inl ⟨by rfl, ?_⟩) (by assumption) ?_
        rotate_left 1
        · intro W hSw
          try dsimp only at hSw
          go_simp
          try with_reducible rfl
        try simp only [Act.put, List.setIfInBounds_toArray, List.set_cons_zero, List.set_cons_succ]
        refine wpAnyH_done (by kernel_rfl) ?_ _
        go_wp2
        clear hc0 hHeld
        go_loopw [5, 7] (fun nv kv wt => ∃ (k : Nat) (v2 : Int), k ≤ l.length ∧ k ≤ 301 ∧ kv = .int .i64 k ∧ nv = .int .i64 v2 ∧ Hid (Below w.heap.size w wt)) (fun _ kv _ => l.length - (intOf kv).toNat)
        case atStart => exact ⟨0, _, by omega, by omega, rfl, rfl, Hb.out.drew⟩
        case round =>
          clear HC0 HC1 Hb
          obtain ⟨k, v2, hk, hk3, rfl, rfl, Hb⟩ := hrel
          have hc0 : wr.cell? ⟨bm, 3, none⟩ = some (.slice u.A l.length u.c) := by
            rw [← HLL.out]; exact (Hb.out.cell (p := ⟨bm, 3, none⟩) HC.out.2.2.2.2).trans HC.out.2.2.1
          by_cases hlt : k < l.length
          · have hin : (k : Int) < (l.length : Int) := by omega
            by_cases hle : k ≤ 300
            · have hlb : (k : Int) ≤ 300 := by omega
              obtain ⟨b, off, hA, hbb, hr⟩ := insC_row HIS.out (fun i h => (HI.out i h).1) (by omega)
              rw [hA] at hc0
              have hrk := rngB (hr k hlt) Hb.out hbb
              have hik := HI.out _ (List.getElem_mem hlt)
              obtain ⟨x, hx⟩ : ∃ x, l[k] = x := ⟨_, rfl⟩
              rw [hx] at hrk hik
              have hw33 : wr.cell? ⟨b, off + k * 34 + 33, none⟩ = some (.slice x.A x.wit.length x.c) := hrk 33 _ (inC_at hik.1).2
              clear hr hrk hik hx hA
              by_cases hmn : (30001 : Int) < (x.wit.length : Int)
              · go_wp2
                go_roundw
                case rel => exact ⟨k + 1, _, by omega, by omega, by go_num, rfl, Hb.out⟩
                case measure => simp [intOf] <;> omega
              · go_wp2
                go_roundw
                case rel => exact ⟨k + 1, _, by omega, by omega, by go_num, rfl, Hb.out⟩
                case measure => simp [intOf] <;> omega
            · have hgb : decide ((k : Int) ≤ 300) = false := decide_eq_false (by omega)
              by_cases hg : (600 : Int) < v2
              · go_wp2
                go_ret
                exact ⟨_, rfl, Hb.out⟩
              · go_wp2
                go_roundw
                case rel => exact ⟨2, v2, by omega, by go_num, rfl, Hb.out⟩
                case measure => simp [intOf] <;> omega
          · obtain rfl : k = l.length := by omega
            by_cases hg : (600 : Int) < v2
            · go_wp2
              go_ret
              exact ⟨_, rfl, Hb.out⟩
            · go_wp2
              go_roundw
              case rel => exact ⟨2, v2, by omega, by go_num, rfl, Hb.out⟩
              case measure => simp [intOf] <;> omega
end Go.Proofs.YtbloomnifhcgbaaGreatDoor

namespace Go.Proofs.YtbloomnifhcgbaaGreatDoor
open Go.RowKit

theorem belowFresh {w w1 : World} {o : Obj} (k : Keeps (· = w.heap.size) (w.alloc o) w1) : Below w.heap.size w w1 :=
  (nxAl (nxRf w) o).trans (k.below (by simp) (fun j hj => by omega))
theorem fill_two (n : Nat) (z a b : List Value) (ha : a.length = n) (hb : b.length = n) (hz : z.length = 2 * n) :
    Instr.fill (fun i => some (i * n, n)) z.toArray [(0, .agg a.toArray), (1, .agg b.toArray)] = some (a ++ b).toArray :=
  fill_pair (fun i => some (i * n, n)) z a b (.agg a.toArray) (.agg b.toArray) rfl rfl (by simp [ha]) (by simp [ha, hb]) (by omega)
theorem wpList_build_tx2 {ops : Array Oper} {rest : List Oper} {o : Oper} {a : Act} {w : World} {Q : Exit → Act → World → Prop} (hg : o.guard = none) (x y : Operand) (ho : o.op = .buildSlice 30 2 #[(0, x), (1, y)])
    (t u : TxR) (hx : a.eval x = .agg (txC t).toArray) (hy : a.eval y = .agg (txC u).toArray)
    (h : wpList Tryz.prog ops Q rest (a.put o.dst (.slice (some ⟨w.heap.size, 0, none⟩) 2 2)) (w.alloc (.cells (txC t ++ txC u).toArray 66))) : wpList Tryz.prog ops Q (o :: rest) a w := by
  obtain ⟨i0, hi, hz0, hz1, hz2⟩ := info_parts Tryz.txinf
  refine wpList_buildSlice hg 30 66 2 #[(0, x), (1, y)] ho (txC t ++ txC u).toArray i0 _ Tryz.underlying30 hi hz0 (by rw [hz1]; omega) (by rw [hz1]; omega) ?_ h
  rw [hz1]
  have e : (#[(0, x), (1, y)].map fun (p : Nat × Operand) => (p.1, a.eval p.2)).toList = [(0, .agg (txC t).toArray), (1, .agg (txC u).toArray)] := by simp [hx, hy]
  have hf := fill_two 3 ((Array.range (2 * 3)).map ((Value.agg #[.slice none 0 0, .slice none 0 0, .int .u64 0]).cells[· % (Value.agg #[.slice none 0 0, .slice none 0 0, .int .u64 0]).cells.size]!)).toList (txC t) (txC u) rfl rfl (by simp)
  rw [Array.toArray_toList] at hf
  rw [← e] at hf
  exact hf
theorem own_cm {w : World} {base n c : Nat} {A : Option Addr} {e : TypeId} {xs : List Value} (h : w.ownsRow base e 1 (.slice A n c) n xs) : n ≤ c ∧ c ≤ maxLen := by
  rcases h.2 with ⟨hv, h0⟩ | ⟨g, cap, cur, hv, _, _, hnc, hcm, _⟩
  · injection hv with _ _ h3; unfold maxLen; omega
  · injection hv with _ _ h3; omega
theorem low_slice {w : World} {B : Nat} {A : Option Addr} {l : List UInt8} {c : Nat} (h : Sees w B A l) (hc : l.length ≤ c) (hm : c ≤ maxLen) (k : Nat) (hk : k ≤ l.length) :
    ∃ A1, Sees w B A1 (l.take k) ∧ ∀ wq, (Instr.slice 22 (.slice A l.length c) none (some (.int .i64 (k : Int))) none).run Tryz.prog wq = .ok (.slice A1 k c) wq := by
  obtain ⟨i0, hi, hz1⟩ : ∃ i, Tryz.prog.info? 5 = some i ∧ i.size = 1 := by
    have := Tryz.u8sz
    cases hq : Tryz.prog.info? 5 with
    | none => rw [hq] at this; cases this
    | some i => rw [hq] at this; simp at this; exact ⟨i, rfl, this⟩
  unfold maxLen at hm
  refine ⟨if c = 0 then A else A.map (·.add (0 * 1)), ?_, fun wq => ?_⟩
  · split
    · exact h.take _
    · have := (h.drop 0).take k
      simpa using this
  · simp [Instr.slice, run_underlying Tryz.underlying22, Instr.sliceBounds, run_sliceBound wq .i64 (k : Int) c _ (by omega) (by omega), sizeOf, typeInfo, hi, hz1]
/-- What was read is packed to what it was read of. -/
theorem of_back {t : TxR} {b : List UInt8} (h : ofB b = true) (hp : txP t = ofV b) : packT t = b ∧ checkT t = 0 := by
  have e : ofV b = ofP b := by rw [ofV, h]; rfl
  obtain ⟨h1, h2⟩ := read_pack b h
  rw [← packT_back, ← checkT_up, hp, e]
  exact ⟨h1, h2⟩
theorem begins_iff {t u : TxR} {w : World} (ht : TxOk w t) (hu : TxOk w u) (hz : checkT t = 0) (hy : checkT u = 0) : (decide ((packT t).length ≤ (packT u).length) && ((packT u).take (packT t).length == packT t)) = true ↔ txP t = txP u := by
  rw [Bool.and_eq_true, decide_eq_true_eq, beq_iff_eq]
  constructor
  · rintro ⟨_, h⟩
    refine pack_begin t u (fun i hi => ⟨(ht.each i hi).id, (ht.each i hi).n⟩) ht.eacho ht.nonce hz (fun i hi => ⟨(hu.each i hi).id, (hu.each i hi).n⟩) hu.eacho hu.nonce hy ((packT u).drop (packT t).length) ?_
    have e := (List.take_append_drop (packT t).length (packT u)).symm
    rw [h] at e
    exact e
  · intro h
    rw [packT_same h]
    exact ⟨Nat.le_refl _, List.take_length⟩
theorem idT_same {t u : TxR} (h : txP t = txP u) : idT t = idT u := by
  unfold idT
  rw [checkT_same h, packT_same h]
theorem same_val {p : Prop} {z r : Bool} (hz : z = true ↔ p) (hr : r = true ↔ p) : z = r := by
  cases z <;> cases r <;> simp_all
end Go.Proofs.YtbloomnifhcgbaaGreatDoor

namespace Go.Proofs.YtbloomnifhcgbaaGreatDoor
open Go.RowKit

theorem wpList_build_bk2 {ops : Array Oper} {rest : List Oper} {o : Oper} {e : Act} {w : World} {Q : Exit → Act → World → Prop} (hg : o.guard = none) (x y : Operand) (ho : o.op = .buildSlice 42 2 #[(0, x), (1, y)])
    (a b : BkR) (fa : HdFit a.h.p) (fb : HdFit b.h.p) (hx : e.eval x = .agg (bkC a).toArray) (hy : e.eval y = .agg (bkC b).toArray)
    (h : wpList Tryz.prog ops Q rest (e.put o.dst (.slice (some ⟨w.heap.size, 0, none⟩) 2 2)) (w.alloc (.cells (bkC a ++ bkC b).toArray 32))) : wpList Tryz.prog ops Q (o :: rest) e w := by
  obtain ⟨i0, hi, hz0, hz1, hz2⟩ := info_parts Tryz.bkinfo
  refine wpList_buildSlice hg 42 32 2 #[(0, x), (1, y)] ho (bkC a ++ bkC b).toArray i0 _ Tryz.underlying42 hi hz0 (by rw [hz1]; omega) (by rw [hz1]; omega) ?_ h
  rw [hz1]
  have e2 : (#[(0, x), (1, y)].map fun (p : Nat × Operand) => (p.1, e.eval p.2)).toList = [(0, .agg (bkC a).toArray), (1, .agg (bkC b).toArray)] := by simp [hx, hy]
  have hf := fill_two 131 ((Array.range (2 * 131)).map ((Value.agg (bkC noBk).toArray).cells[· % (Value.agg (bkC noBk).toArray).cells.size]!)).toList (bkC a) (bkC b) (bkC_len fa) (bkC_len fb) (by rw [Array.length_toList, Array.size_map, Array.size_range])
  rw [Array.toArray_toList] at hf
  rw [← e2] at hf
  exact hf
/-- Why not: five errors. -/
theorem checkK_some (b : BkR) : checkK b = 0 ∨ (checkK b ≠ 0 ∧ 0 ≤ checkK b ∧ checkK b ≤ 100) := by
  unfold checkK
  cases mayH b.h.p <;> cases b.txs.any notB <;> cases decide (b.txs.length ≤ 200) <;> cases decide (idsL b.txs).Nodup <;> cases (rootL (idsL b.txs) == b.h.p.rt) <;> decide
theorem much62_any (w : World) (g : Nat) (a b : BkR) (ha : BkOk w a) (hb : BkOk w b) (hB : Blk w g 32 (bkC a ++ bkC b).toArray) : Calls Tryz.prog 10 #[.slice (some ⟨g, 0, none⟩) 2 2, .int .i64 2] w fun e w' => ∃ z : Bool, e = .returned (.bool z) ∧ Below w.heap.size w w' := by
  have hr := blkR (vs := bkC a ++ bkC b) hB
  obtain ⟨r1, r2⟩ := rng_app hr
  rw [bkC_len ha.h.f] at r2
  refine (much6_any w g 2 [a, b] 2 (by omega) (fun k hk => ?_) (fun x hx => ?_) (by simp)).mono ?_
  · match k, hk with
    | 0, _ => exact r1
    | 1, _ => exact r2
  · rcases List.mem_cons.1 hx with rfl | hx
    · exact ha
    · rw [List.mem_singleton.1 hx]; exact hb
  · rintro e w2 ⟨⟨z, rfl, _⟩, q, rfl⟩
    exact ⟨z, rfl, ⟨rfl, rfl, rfl, Nat.le_refl _, fun _ _ => rfl⟩⟩

set_option maxHeartbeats 8000000 in
set_option maxRecDepth 100000 in
theorem bmeans_any (w : World) (hTb : Tabs w) (a b : BkR) (A : Option Addr) (c : Nat) (s : List UInt8) (ha : BkOk w a) (hb : BkOk w b) (hS : Sees w w.heap.size A s) :
    Calls Tryz.prog 4 #[.agg (bkC a).toArray, .agg (bkC b).toArray, .slice A s.length c] w fun e w' => e = .returned (.bool true) ∧ Below w.heap.size w w' := by
  have hb0 : Below w.heap.size w ((w.alloc (.cells (bkC a).toArray 32)).alloc (.cells (bkC b).toArray 32)) := nxAl (nxAl (nxRf w) _) _
  have Hb0 := Lib.hid hb0
  have HB2 : Blk ((w.alloc (.cells (bkC a).toArray 32)).alloc (.cells (bkC b).toArray 32)) w.heap.size 32 (bkC a).toArray := (show Blk (w.alloc (.cells (bkC a).toArray 32)) _ _ _ from heap_alloc_new w _).alloc _
  have HB3 : Blk ((w.alloc (.cells (bkC a).toArray 32)).alloc (.cells (bkC b).toArray 32)) (w.heap.size + 1) 32 (bkC b).toArray := blk_new (by simp)
  have HR := Lib.hid (blkR (vs := bkC a) HB2)
  have HQ := Lib.hid (blkR (vs := bkC b) HB3)
  have HRa := Lib.hid (BkRow.of HR.out ha.h.f)
  have HRb := Lib.hid (BkRow.of HQ.out hb.h.f)
  have HT := Lib.hid (ha.later hb0)
  have HU := Lib.hid (hb.later hb0)
  have HFa := Lib.hid ha.h.f
  have HFb := Lib.hid hb.h.f
  have HS := Lib.hid (hS.later hb0)
  have HTb := Lib.hid (hTb.later hb0)
  have HZa := Lib.hid (bkSz (b := a) ha.h.f)
  have HZb := Lib.hid (bkSz (b := b) hb.h.f)
  have HZha := Lib.hid (hdSz (h := a.h) ha.h.f)
  have HZhb := Lib.hid (hdSz (h := b.h) hb.h.f)
  have Hl0 : Hid (w.heap.size < ((w.alloc (.cells (bkC a).toArray 32)).alloc (.cells (bkC b).toArray 32)).heap.size) := by show _ < _; simp; omega
  have Hl1 : Hid (w.heap.size + 1 < ((w.alloc (.cells (bkC a).toArray 32)).alloc (.cells (bkC b).toArray 32)).heap.size) := by show _ < _; simp
  have h3 := checkK_some a
  have g3 := checkK_some b
  obtain ⟨z, hz⟩ : ∃ z, checkK a = z := ⟨_, rfl⟩
  have HCz := Lib.hid hz
  obtain ⟨y, hy⟩ : ∃ y, checkK b = y := ⟨_, rfl⟩
  have HCy := Lib.hid hy
  rw [hz] at h3
  rw [hy] at g3
  obtain ⟨F, hF⟩ : ∃ F, packK a = F := ⟨_, rfl⟩
  have HF := Lib.hid hF
  obtain ⟨G, hG⟩ : ∃ G, packK b = G := ⟨_, rfl⟩
  have HG := Lib.hid hG
  obtain ⟨k, hk⟩ : ∃ k, bofB s = k := ⟨_, rfl⟩
  have HK := Lib.hid hk
  have HTO := Lib.hid ha
  have HUO := Lib.hid hb
  clear ha hb hS hTb hb0 HB2 HB3 hz hy hF hG hk
  by_cases hlen : (20000 : Int) < (s.length : Int)
  · clear h3 g3
    go_enter Tryz.func4, Tryz.ntmps4
    go_wp2_with (first
      | (go_at_call 5; refine (known6_any ((w.alloc (.cells (bkC a).toArray 32)).alloc (.cells (bkC b).toArray 32))).mono ?_; rintro e w1 ⟨rfl, hb1⟩; have V1 : Hid (Below ((w.alloc (.cells (bkC a).toArray 32)).alloc (.cells (bkC b).toArray 32)).heap.size ((w.alloc (.cells (bkC a).toArray 32)).alloc (.cells (bkC b).toArray 32)) w1) := hb1; clear hb1)
      | ((with_reducible show wpList _ _ _ (⟨some 19, _, _, _, _, _⟩ :: _) _ _); refine wpList_load_mid rfl 32 (.tmp 3) rfl w.heap.size 0 rfl (bkC a) _ (rngB HR.out V1.out Hl0.out) Tryz.underlying32 rfl HZa.out ?_)
      | ((with_reducible show wpList _ _ _ (⟨some 20, _, _, _, _, _⟩ :: _) _ _); refine wpList_load_mid rfl 32 (.tmp 4) rfl (w.heap.size + 1) 0 rfl (bkC b) _ (rngB HQ.out V1.out Hl1.out) Tryz.underlying32 rfl HZb.out ?_)
      | ((with_reducible show wpList _ _ _ (⟨some 21, _, _, _, _, _⟩ :: _) _ _); refine wpList_build_bk2 rfl (.tmp 19) (.tmp 20) rfl a b HFa.out HFb.out rfl rfl ?_)
      | (go_at_call 10; refine (much62_any (w1.alloc (.cells (bkC a ++ bkC b).toArray 32)) w1.heap.size a b (HT.out.later (nxAl V1.out _)) (HU.out.later (nxAl V1.out _)) (heap_alloc_new w1 _)).mono ?_; rintro e w2 ⟨mz, rfl, hb2⟩; have V2 : Hid (Below ((w.alloc (.cells (bkC a).toArray 32)).alloc (.cells (bkC b).toArray 32)).heap.size ((w.alloc (.cells (bkC a).toArray 32)).alloc (.cells (bkC b).toArray 32)) w2) := nxTr (nxAl V1.out _) hb2; clear hb2; cases mz))
    all_goals go_ret
    all_goals exact ⟨rfl, nxTr Hb0.out V2.out⟩
  have HLb : Hid (s.length ≤ 1099511627776) := by show _ ≤ _; omega
  have hsq : (s == s) = true := beq_self_eq_true s
  rcases h3 with rfl | hz
  · have hcz := HCz.out
    have HLF : Hid (F.length ≤ 1099511627776) := by show _ ≤ _; rw [← HF.out]; have := packK_len HTO.out hcz; omega
    have hpf := packK_of HTO.out hcz
    rw [HF.out] at hpf
    have HFB := Lib.hid hpf.1
    have HFV : Hid (bofV F = bkD a) := hpf.2
    clear hpf hcz
    rcases g3 with rfl | hy
    · have hcy := HCy.out
      have hiff := packK_iff HTO.out HUO.out HCz.out hcy
      rw [HF.out, HG.out] at hiff
      obtain ⟨x, hx⟩ : ∃ x, idH a.h.p = x := ⟨_, rfl⟩
      obtain ⟨v, hv⟩ : ∃ v, idH b.h.p = v := ⟨_, rfl⟩
      have HX := Lib.hid hx
      have HV := Lib.hid hv
      have HXl : Hid (x.length = 32) := by show _ = _; rw [← hx]; exact idH_len _
      have HVl : Hid (v.length = 32) := by show _ = _; rw [← hv]; exact idH_len _
      have HI : Hid (bkD a = bkD b → x = v) := fun h => by rw [← hx, ← hv]; exact idH_same h
      have HIx : Hid (x = v → idH a.h.p = idH b.h.p) := fun h => by rw [hx, hv, h]
      have HFa2 := Lib.hid (checkK_ok HCz.out)
      have HFb2 := Lib.hid (checkK_ok hcy)
      obtain ⟨r, hr⟩ : ∃ r, (F == G) = r := ⟨_, rfl⟩
      have HB : Hid (r = true ↔ bkD a = bkD b) := by show _ ↔ _; rw [← hr, beq_iff_eq]; exact hiff
      clear hx hv hcy hiff
      go_enter Tryz.func4, Tryz.ntmps4
      go_upto_region 12 with (first
        | (go_at_call 5; refine (known6_any ((w.alloc (.cells (bkC a).toArray 32)).alloc (.cells (bkC b).toArray 32))).mono ?_; rintro e w1 ⟨rfl, hb1⟩; have V1 : Hid (Below ((w.alloc (.cells (bkC a).toArray 32)).alloc (.cells (bkC b).toArray 32)).heap.size ((w.alloc (.cells (bkC a).toArray 32)).alloc (.cells (bkC b).toArray 32)) w1) := hb1; clear hb1)
        | ((with_reducible show wpList _ _ _ (⟨some 19, _, _, _, _, _⟩ :: _) _ _); refine wpList_load_mid rfl 32 (.tmp 3) rfl w.heap.size 0 rfl (bkC a) _ (rngB HR.out V1.out Hl0.out) Tryz.underlying32 rfl HZa.out ?_)
        | ((with_reducible show wpList _ _ _ (⟨some 20, _, _, _, _, _⟩ :: _) _ _); refine wpList_load_mid rfl 32 (.tmp 4) rfl (w.heap.size + 1) 0 rfl (bkC b) _ (rngB HQ.out V1.out Hl1.out) Tryz.underlying32 rfl HZb.out ?_)
        | ((with_reducible show wpList _ _ _ (⟨some 21, _, _, _, _, _⟩ :: _) _ _); refine wpList_build_bk2 rfl (.tmp 19) (.tmp 20) rfl a b HFa.out HFb.out rfl rfl ?_)
        | (go_at_call 10; refine (much62_any (w1.alloc (.cells (bkC a ++ bkC b).toArray 32)) w1.heap.size a b (HT.out.later (nxAl V1.out _)) (HU.out.later (nxAl V1.out _)) (heap_alloc_new w1 _)).mono ?_; rintro e w2 ⟨mz, rfl, hb2⟩; have V2 : Hid (Below ((w.alloc (.cells (bkC a).toArray 32)).alloc (.cells (bkC b).toArray 32)).heap.size ((w.alloc (.cells (bkC a).toArray 32)).alloc (.cells (bkC b).toArray 32)) w2) := nxTr (nxAl V1.out _) hb2; clear hb2; cases mz)
        | ((with_reducible show wpList _ _ _ (⟨some 29, _, _, _, _, _⟩ :: _) _ _); refine wpList_load_mid rfl 32 (.tmp 3) rfl w.heap.size 0 rfl (bkC a) _ (rngB HR.out V2.out Hl0.out) Tryz.underlying32 rfl HZa.out ?_)
        | (go_at_call 11; (with_reducible show Calls _ _ #[.agg (bkC a).toArray] _ _); refine (bbytes_yes w2 (HTb.out.later V2.out) a (HT.out.later V2.out) HCz.out).mono ?_; unfold BkBytesPost; rw [HF.out]; rintro e w3 ⟨⟨A3, c3, B3, rfl, hB0, ho⟩, hb⟩; have V3 : Hid (Below ((w.alloc (.cells (bkC a).toArray 32)).alloc (.cells (bkC b).toArray 32)).heap.size ((w.alloc (.cells (bkC a).toArray 32)).alloc (.cells (bkC b).toArray 32)) w3) := nxTr V2.out hb; have V23 : Hid (Below w2.heap.size w2 w3) := hb; have S3 := Lib.hid (Sees.own ho); clear hB0 ho hb)
        | ((with_reducible show wpList _ _ _ (⟨some 34, _, _, _, _, _⟩ :: _) _ _); refine wpList_load_mid rfl 32 (.tmp 4) rfl (w.heap.size + 1) 0 rfl (bkC b) _ (rngB HQ.out V3.out Hl1.out) Tryz.underlying32 rfl HZb.out ?_)
        | (go_at_call 11; (with_reducible show Calls _ _ #[.agg (bkC b).toArray] _ _); refine (bbytes_yes w3 (HTb.out.later V3.out) b (HU.out.later V3.out) HCy.out).mono ?_; unfold BkBytesPost; rw [HG.out]; rintro e w4 ⟨⟨A4, c4, B4, rfl, hB0, ho⟩, hb⟩; have V4 : Hid (Below ((w.alloc (.cells (bkC a).toArray 32)).alloc (.cells (bkC b).toArray 32)).heap.size ((w.alloc (.cells (bkC a).toArray 32)).alloc (.cells (bkC b).toArray 32)) w4) := nxTr V3.out hb; have V34 : Hid (Below w3.heap.size w3 w4) := hb; have S4 := Lib.hid (Sees.own ho); clear hB0 ho hb)
        | (go_at_call 9; refine (num6_any _ _).mono ?_; rintro e wn ⟨rfl, hwn⟩; obtain rfl := hwn.symm)
        | (go_at_call 6; (with_reducible show Calls _ _ #[.slice A3 F.length c3] _ _); refine (bof_any w4 (HTb.out.later V4.out) w4.heap.size A3 F c3 ((S3.out.later V34.out).more V34.out.size) HLF.out).mono ?_; unfold BOfPost; rw [HFB.out, HFV.out]; rintro e w5 ⟨k5, rfl, hp5, ht5, hb5⟩; have P5 : Hid (bkD k5 = bkD a) := hp5; have T5 := Lib.hid ht5; have V5 : Hid (Below ((w.alloc (.cells (bkC a).toArray 32)).alloc (.cells (bkC b).toArray 32)).heap.size ((w.alloc (.cells (bkC a).toArray 32)).alloc (.cells (bkC b).toArray 32)) w5) := nxTr V4.out hb5; have X5 : Hid (Below w4.heap.size w4 w5) := hb5; clear hp5 ht5 hb5)
        | ((with_reducible show wpList _ _ _ (⟨none, .store 32 (.tmp 11) _, _, _, _, _⟩ :: _) _ _); (show wpList _ _ _ _ _ (w5.alloc (.cells Tryz.zeroCells32 32))); refine wpList_store_all rfl 32 (.tmp 11) (.tmp 44) rfl w5.heap.size 32 Tryz.zeroCells32 (bkC k5).toArray rfl rfl (heap_alloc_new w5 _) (by rw [bkZ_row, List.size_toArray, bkC_len T5.out.h.f]) (bkSz' (b := k5) T5.out.h.f) (bkC_one k5) ?_; intro w6 h5 h6 h7; have R6 := Lib.hid (blkR (vs := bkC k5) h5); have X6 : Hid (Below w5.heap.size w5 w6) := belowFresh h6; have V6 : Hid (Below ((w.alloc (.cells (bkC a).toArray 32)).alloc (.cells (bkC b).toArray 32)).heap.size ((w.alloc (.cells (bkC a).toArray 32)).alloc (.cells (bkC b).toArray 32)) w6) := nxTr V5.out X6.out; clear h5 h6 h7)
        | ((with_reducible show wpList _ _ _ (⟨some 50, _, _, _, _, _⟩ :: _) _ _); refine wpList_load_want (by rfl) 32 (.tmp 11) rfl w5.heap.size 0 rfl (bkC k5) _ R6.out Tryz.underlying32 rfl (bkSz (b := k5) T5.out.h.f) ?_)
        | ((with_reducible show wpList _ _ _ (⟨some 51, _, _, _, _, _⟩ :: _) _ _); refine wpList_load_want (by rfl) 32 (.tmp 3) rfl w.heap.size 0 rfl (bkC a) _ (rngB HR.out V6.out Hl0.out) Tryz.underlying32 rfl HZa.out ?_)
        | (go_at_call 8; (with_reducible show Calls _ _ #[.agg (bkC k5).toArray, .agg (bkC a).toArray] _ _); refine (rsame6_any w6 k5 a (T5.out.later X6.out) (HT.out.later V6.out)).mono ?_; unfold BSame; rintro e w7 ⟨zs, rfl, hzs, hb7⟩; obtain rfl : zs = true := hzs.2 P5.out; have V7 : Hid (Below ((w.alloc (.cells (bkC a).toArray 32)).alloc (.cells (bkC b).toArray 32)).heap.size ((w.alloc (.cells (bkC a).toArray 32)).alloc (.cells (bkC b).toArray 32)) w7) := nxTr V6.out hb7; have X7 : Hid (Below w4.heap.size w4 w7) := nxTr (nxTr X5.out X6.out) hb7; clear hzs hb7))
      rotate_left 1
      · go_ret
        exact ⟨rfl, nxTr Hb0.out V2.out⟩
      have S7 : Hid (Sees w7 w7.heap.size A3 F) := (S3.out.later (nxTr V34.out X7.out)).more (Nat.le_trans V34.out.size X7.out.size)
      have Q7 : Hid (Sees w7 w7.heap.size A4 G) := (S4.out.later X7.out).more X7.out.size
      clear S3 S4 X5 X6 X7 V34 V23 R6 T5 P5 V3 V4 V5 V6 V1 V2
      go_cut [69] (fun q wx => q = .bool false ∧ Hid (Below w7.heap.size w7 wx))
      case first =>
        as_aux_lemma =>
          refine wp_region_held_drew (S := fun W => (W.rangeAt w.heap.size 0 (bkC a) ∧ W.rangeAt (w.heap.size + 1) 0 (bkC b)) ∧ Sees W w7.heap.size A3 F ∧ Sees W w7.heap.size A4 G) (by kernel_rfl) ⟨⟨rngB HR.out (nxDrI V7.out) Hl0.out, rngB HQ.out (nxDrI V7.out) Hl1.out⟩, S7.out.below (nxDrI (nxRf _)), Q7.out.below (nxDrI (nxRf _))⟩ (fun hHeld => ?_)
          refine wpAnyH_take (i := 0) (oi := ⟨_, _, _, _, _, _⟩) (v := ?_) rfl (by kernel_rfl) (by kernel_rfl) (by kernel_rfl) (fun _ _ _ h => h) (Or.inl ⟨by rfl, ?_⟩) (by assumption) ?_
          rotate_left 1
          · intro W hSw
            try dsimp only at hSw
            go_simp
            try with_reducible rfl
          try simp only [Act.put, List.setIfInBounds_toArray, List.set_cons_zero, List.set_cons_succ]
          refine wpAnyH_take (i := 2) (oi := ⟨_, _, _, _, _, _⟩) (v := ?_) rfl (by kernel_rfl) (by kernel_rfl) (by kernel_rfl) (fun _ _ _ h => h) (Or.inl ⟨by rfl, ?_⟩) (by assumption) ?_
          rotate_left 1
          · intro W hSw
            try dsimp only at hSw
            go_simp
            try with_reducible rfl
          try simp only [Act.put, List.setIfInBounds_toArray, List.set_cons_zero, List.set_cons_succ]
          refine wpAnyH_take (i := 1) (oi := ⟨_, _, _, _, _, _⟩) (v := ?_) rfl (by kernel_rfl) (by kernel_rfl) (by kernel_rfl) (fun _ _ _ h => h) (Or.inl ⟨by rfl, ?_⟩) (by assumption) ?_
          rotate_left 1
          · intro W hSw
            try dsimp only at hSw
            have q := run_string_sees (P := Tryz.prog) (w := W) (c := c3) (n := F.length) Tryz.underlying22 Tryz.underlying5 Tryz.underlying9 rfl hSw.2.1
            go_simp
            try with_reducible rfl
          try simp only [Act.put, List.setIfInBounds_toArray, List.set_cons_zero, List.set_cons_succ]
          refine wpAnyH_take (i := 3) (oi := ⟨_, _, _, _, _, _⟩) (v := ?_) rfl (by kernel_rfl) (by kernel_rfl) (by kernel_rfl) (fun _ _ _ h => h) (Or.inl ⟨by rfl, ?_⟩) (by assumption) ?_
          rotate_left 1
          · intro W hSw
            try dsimp only at hSw
            have q := run_string_sees (P := Tryz.prog) (w := W) (c := c4) (n := G.length) Tryz.underlying22 Tryz.underlying5 Tryz.underlying9 rfl hSw.2.2
            go_simp
            try with_reducible rfl
          try simp only [Act.put, List.setIfInBounds_toArray, List.set_cons_zero, List.set_cons_succ]
          refine wpAnyH_take (i := 4) (oi := ⟨_, _, _, _, _, _⟩) (v := ?_) rfl (by kernel_rfl) (by kernel_rfl) (by kernel_rfl) (fun _ _ _ h => h) (Or.inl ⟨by rfl, ?_⟩) (by assumption) ?_
          rotate_left 1
          · intro W hSw
            try dsimp only at hSw
            go_simp
            try with_reducible rfl
          try simp only [Act.put, List.setIfInBounds_toArray, List.set_cons_zero, List.set_cons_succ]
          refine wpAnyH_take (i := 5) (oi := ⟨_, _, _, _, _, _⟩) (v := .agg (bkC a).toArray) rfl (by kernel_rfl) (by kernel_rfl) (by kernel_rfl) (fun _ _ _ h => h) (yieldsIf_load_mid (by rfl) 32 (.tmp 3) rfl (w.heap.size) (0) rfl (bkC a) _ (fun W h => h.1.1) Tryz.underlying32 rfl HZa.out) (by assumption) ?_
          try simp only [Act.put, List.setIfInBounds_toArray, List.set_cons_zero, List.set_cons_succ]
          refine wpAnyH_take (i := 6) (oi := ⟨_, _, _, _, _, _⟩) (v := .agg (bkC b).toArray) rfl (by kernel_rfl) (by kernel_rfl) (by kernel_rfl) (fun _ _ _ h => h) (yieldsIf_load_mid (by rfl) 32 (.tmp 4) rfl (w.heap.size + 1) (0) rfl (bkC b) _ (fun W h => h.1.2) Tryz.underlying32 rfl HZb.out) (by assumption) ?_
          try simp only [Act.put, List.setIfInBounds_toArray, List.set_cons_zero, List.set_cons_succ]
          refine wpAnyH_ready (rs := [7]) (by kernel_rfl) (by simp) ?_
          refine AllReadyH.cons rfl (fun K hK => ?_) AllReadyH.nil
          go_simp
          go_at_call 8
          refine (rsame6_any w7.drew a b (HT.out.later (nxDrI V7.out)) (HU.out.later (nxDrI V7.out))).mono ?_
          unfold BSame
          rintro e w8 ⟨zs, rfl, hzs, hb⟩
          obtain rfl : zs = r := same_val hzs HB.out
          have D8 : Hid (Below w7.heap.size w7 w8) := nxUndr hb
          have V8 : Hid (Below ((w.alloc (.cells (bkC a).toArray 32)).alloc (.cells (bkC b).toArray 32)).heap.size ((w.alloc (.cells (bkC a).toArray 32)).alloc (.cells (bkC b).toArray 32)) w8) := nxTr V7.out D8.out
          clear hzs hb
          refine hK.out _ _ ⟨⟨rngB HR.out V8.out Hl0.out, rngB HQ.out V8.out Hl1.out⟩, S7.out.below D8.out, Q7.out.below D8.out⟩ (fun hSn => ?_)
          clear hK K
          try simp only [Act.put, List.setIfInBounds_toArray, List.set_cons_zero, List.set_cons_succ]
          have hne : (zs != zs) = false := by cases zs <;> rfl
          refine wpAnyH_take (i := 8) (oi := ⟨_, _, _, _, _, _⟩) (v := ?_) rfl (by kernel_rfl) (by kernel_rfl) (by kernel_rfl) (fun _ _ _ h => h) (Or.inl ⟨by rfl, ?_⟩) (by assumption) ?_
          rotate_left 1
          · intro W hSw
            try dsimp only at hSw
            go_simp
            try with_reducible rfl
          try simp only [Act.put, List.setIfInBounds_toArray, List.set_cons_zero, List.set_cons_succ]
          refine wpAnyH_done (by kernel_rfl) ?_ _
          go_wp2_with fail
          go_meet
          exact ⟨by cases zs <;> rfl, D8.out⟩
      case rest =>
        obtain ⟨rfl, hD⟩ := hcut
        obtain ⟨wd, hwd⟩ : ∃ q, q = wc := ⟨_, rfl⟩
        subst hwd
        go_upto_region 14 with fail
        have VC : Hid (Below ((w.alloc (.cells (bkC a).toArray 32)).alloc (.cells (bkC b).toArray 32)).heap.size ((w.alloc (.cells (bkC a).toArray 32)).alloc (.cells (bkC b).toArray 32)) wd) := nxTr V7.out hD.out
        clear S7 Q7 hD hr
        go_cut [88] (fun q wx => q = .bool false ∧ Hid (Below ((w.alloc (.cells (bkC a).toArray 32)).alloc (.cells (bkC b).toArray 32)).heap.size ((w.alloc (.cells (bkC a).toArray 32)).alloc (.cells (bkC b).toArray 32)) wx))
        case first =>
          as_aux_lemma =>
            cases r with
            | true =>
              obtain rfl : x = v := HI.out (HB.out.1 rfl)
              have heq : ∀ wq, (binOp .eql 26 (.agg (By x).toArray) (.agg (By x).toArray)).run Tryz.prog wq = .ok (.bool true) wq := fun wq => by rw [eql_hash x x HXl.out HXl.out, beq_self_eq_true]
              refine wp_region_held_drew (S := fun W => ((W.rangeAt w.heap.size 0 (bkC a) ∧ W.rangeAt (w.heap.size + 1) 0 (bkC b)) ∧ W.rangeAt w.heap.size 0 (hdC a.h)) ∧ W.rangeAt (w.heap.size + 1) 0 (hdC b.h)) (by kernel_rfl) ⟨⟨⟨rngB HR.out (nxDrI VC.out) Hl0.out, rngB HQ.out (nxDrI VC.out) Hl1.out⟩, rngB HRa.out.r (nxDrI VC.out) Hl0.out⟩, rngB HRb.out.r (nxDrI VC.out) Hl1.out⟩ (fun hHeld => ?_)
              refine wpAnyH_take (i := 0) (oi := ⟨_, _, _, _, _, _⟩) (v := ?_) rfl (by kernel_rfl) (by kernel_rfl) (by kernel_rfl) (fun _ _ _ h => h) (Or.inl ⟨by rfl, ?_⟩) (by assumption) ?_
              rotate_left 1
              · intro W hSw
                try dsimp only at hSw
                go_simp
                try with_reducible rfl
              try simp only [Act.put, List.setIfInBounds_toArray, List.set_cons_zero, List.set_cons_succ]
              refine wpAnyH_take (i := 3) (oi := ⟨_, _, _, _, _, _⟩) (v := ?_) rfl (by kernel_rfl) (by kernel_rfl) (by kernel_rfl) (fun _ _ _ h => h) (Or.inl ⟨by rfl, ?_⟩) (by assumption) ?_
              rotate_left 1
              · intro W hSw
                try dsimp only at hSw
                go_simp
                try with_reducible rfl
              try simp only [Act.put, List.setIfInBounds_toArray, List.set_cons_zero, List.set_cons_succ]
              refine wpAnyH_take (i := 1) (oi := ⟨_, _, _, _, _, _⟩) (v := .agg (hdC a.h).toArray) rfl (by kernel_rfl) (by kernel_rfl) (by kernel_rfl) (fun _ _ _ h => h) (yieldsIf_load_mid (by rfl) 29 (.tmp 70) rfl (w.heap.size) (0) rfl (hdC a.h) _ (fun W h => h.1.2) Tryz.underlying29 rfl HZha.out) (by assumption) ?_
              try simp only [Act.put, List.setIfInBounds_toArray, List.set_cons_zero, List.set_cons_succ]
              refine wpAnyH_take (i := 4) (oi := ⟨_, _, _, _, _, _⟩) (v := .agg (hdC b.h).toArray) rfl (by kernel_rfl) (by kernel_rfl) (by kernel_rfl) (fun _ _ _ h => h) (yieldsIf_load_mid (by rfl) 29 (.tmp 73) rfl (w.heap.size + 1) (0) rfl (hdC b.h) _ (fun W h => h.2) Tryz.underlying29 rfl HZhb.out) (by assumption) ?_
              try simp only [Act.put, List.setIfInBounds_toArray, List.set_cons_zero, List.set_cons_succ]
              refine wpAnyH_ready (rs := [2]) (by kernel_rfl) (by simp) ?_
              refine AllReadyH.cons rfl (fun K hK => ?_) AllReadyH.nil
              go_simp
              go_at_call 12
              refine (idh_any wd.drew (HTb.out.later (nxDrI VC.out)) a.h (HT.out.later (nxDrI VC.out)).h).mono ?_
              rw [HX.out]
              rintro e w9 ⟨rfl, hb⟩
              have V9 : Hid (Below ((w.alloc (.cells (bkC a).toArray 32)).alloc (.cells (bkC b).toArray 32)).heap.size ((w.alloc (.cells (bkC a).toArray 32)).alloc (.cells (bkC b).toArray 32)) w9) := nxTr (nxDrI VC.out) hb
              clear hb
              refine hK.out _ _ ⟨⟨⟨rngB HR.out V9.out Hl0.out, rngB HQ.out V9.out Hl1.out⟩, rngB HRa.out.r V9.out Hl0.out⟩, rngB HRb.out.r V9.out Hl1.out⟩ (fun hSn => ?_)
              clear hK K
              try simp only [Act.put, List.setIfInBounds_toArray, List.set_cons_zero, List.set_cons_succ]
              refine wpAnyH_ready (rs := [5]) (by kernel_rfl) (by simp) ?_
              refine AllReadyH.cons rfl (fun K hK => ?_) AllReadyH.nil
              go_simp
              go_at_call 12
              refine (idh_any w9 (HTb.out.later V9.out) b.h (HU.out.later V9.out).h).mono ?_
              rw [HV.out]
              rintro e w10 ⟨rfl, hb⟩
              have V10 : Hid (Below ((w.alloc (.cells (bkC a).toArray 32)).alloc (.cells (bkC b).toArray 32)).heap.size ((w.alloc (.cells (bkC a).toArray 32)).alloc (.cells (bkC b).toArray 32)) w10) := nxTr V9.out hb
              clear hb
              refine hK.out _ _ ⟨⟨⟨rngB HR.out V10.out Hl0.out, rngB HQ.out V10.out Hl1.out⟩, rngB HRa.out.r V10.out Hl0.out⟩, rngB HRb.out.r V10.out Hl1.out⟩ (fun hSn => ?_)
              clear hK K
              try simp only [Act.put, List.setIfInBounds_toArray, List.set_cons_zero, List.set_cons_succ]
              refine wpAnyH_take (i := 6) (oi := ⟨_, _, _, _, _, _⟩) (v := ?_) rfl (by kernel_rfl) (by kernel_rfl) (by kernel_rfl) (fun _ _ _ h => h) (Or.inl ⟨by rfl, ?_⟩) (by assumption) ?_
              rotate_left 1
              · intro W hSw
                try dsimp only at hSw
                go_simp
                try with_reducible rfl
              try simp only [Act.put, List.setIfInBounds_toArray, List.set_cons_zero, List.set_cons_succ]
              refine wpAnyH_take (i := 7) (oi := ⟨_, _, _, _, _, _⟩) (v := ?_) rfl (by kernel_rfl) (by kernel_rfl) (by kernel_rfl) (fun _ _ _ h => h) (Or.inl ⟨by rfl, ?_⟩) (by assumption) ?_
              rotate_left 1
              · intro W hSw
                try dsimp only at hSw
                go_simp
                try with_reducible rfl
              try simp only [Act.put, List.setIfInBounds_toArray, List.set_cons_zero, List.set_cons_succ]
              refine wpAnyH_take (i := 8) (oi := ⟨_, _, _, _, _, _⟩) (v := .agg (bkC a).toArray) rfl (by kernel_rfl) (by kernel_rfl) (by kernel_rfl) (fun _ _ _ h => h) (yieldsIf_load_mid (by rfl) 32 (.tmp 3) rfl (w.heap.size) (0) rfl (bkC a) _ (fun W h => h.1.1.1) Tryz.underlying32 rfl HZa.out) (by assumption) ?_
              try simp only [Act.put, List.setIfInBounds_toArray, List.set_cons_zero, List.set_cons_succ]
              refine wpAnyH_take (i := 9) (oi := ⟨_, _, _, _, _, _⟩) (v := .agg (bkC b).toArray) rfl (by kernel_rfl) (by kernel_rfl) (by kernel_rfl) (fun _ _ _ h => h) (yieldsIf_load_mid (by rfl) 32 (.tmp 4) rfl (w.heap.size + 1) (0) rfl (bkC b) _ (fun W h => h.1.1.2) Tryz.underlying32 rfl HZb.out) (by assumption) ?_
              try simp only [Act.put, List.setIfInBounds_toArray, List.set_cons_zero, List.set_cons_succ]
              refine wpAnyH_ready (rs := [10]) (by kernel_rfl) (by simp) ?_
              refine AllReadyH.cons rfl (fun K hK => ?_) AllReadyH.nil
              go_simp
              go_at_call 8
              refine (rsame6_any w10 a b (HT.out.later V10.out) (HU.out.later V10.out)).mono ?_
              unfold BSame
              rintro e w11 ⟨zs, rfl, hzs, hb⟩
              obtain rfl : zs = true := same_val hzs HB.out
              have V11 : Hid (Below ((w.alloc (.cells (bkC a).toArray 32)).alloc (.cells (bkC b).toArray 32)).heap.size ((w.alloc (.cells (bkC a).toArray 32)).alloc (.cells (bkC b).toArray 32)) w11) := nxTr V10.out hb
              clear hzs hb
              refine hK.out _ _ ⟨⟨⟨rngB HR.out V11.out Hl0.out, rngB HQ.out V11.out Hl1.out⟩, rngB HRa.out.r V11.out Hl0.out⟩, rngB HRb.out.r V11.out Hl1.out⟩ (fun hSn => ?_)
              clear hK K
              try simp only [Act.put, List.setIfInBounds_toArray, List.set_cons_zero, List.set_cons_succ]
              refine wpAnyH_take (i := 11) (oi := ⟨_, _, _, _, _, _⟩) (v := ?_) rfl (by kernel_rfl) (by kernel_rfl) (by kernel_rfl) (fun _ _ _ h => h) (Or.inl ⟨by rfl, ?_⟩) (by assumption) ?_
              rotate_left 1
              · intro W hSw
                try dsimp only at hSw
                go_simp
                try with_reducible rfl
              try simp only [Act.put, List.setIfInBounds_toArray, List.set_cons_zero, List.set_cons_succ]
              refine wpAnyH_take (i := 12) (oi := ⟨_, _, _, _, _, _⟩) (v := ?_) rfl (by kernel_rfl) (by kernel_rfl) (by kernel_rfl) (fun _ _ _ h => h) (Or.inl ⟨by rfl, ?_⟩) (by assumption) ?_
              rotate_left 1
              · intro W hSw
                try dsimp only at hSw
                go_simp
                try with_reducible rfl
              try simp only [Act.put, List.setIfInBounds_toArray, List.set_cons_zero, List.set_cons_succ]
              refine wpAnyH_take (i := 13) (oi := ⟨_, _, _, _, _, _⟩) (v := ?_) rfl (by kernel_rfl) (by kernel_rfl) (by kernel_rfl) (fun _ _ _ h => h) (Or.inl ⟨by rfl, ?_⟩) (by assumption) ?_
              rotate_left 1
              · intro W hSw
                try dsimp only at hSw
                go_simp
                try with_reducible rfl
              try simp only [Act.put, List.setIfInBounds_toArray, List.set_cons_zero, List.set_cons_succ]
              refine wpAnyH_take (i := 14) (oi := ⟨_, _, _, _, _, _⟩) (v := undef) rfl (by kernel_rfl) (by kernel_rfl) (by kernel_rfl) (fun _ _ _ h => h) (Or.inr ⟨by rfl, rfl⟩) (by assumption) ?_
              try simp only [Act.put, List.setIfInBounds_toArray, List.set_cons_zero, List.set_cons_succ]
              refine wpAnyH_take (i := 15) (oi := ⟨_, _, _, _, _, _⟩) (v := undef) rfl (by kernel_rfl) (by kernel_rfl) (by kernel_rfl) (fun _ _ _ h => h) (Or.inr ⟨by rfl, rfl⟩) (by assumption) ?_
              try simp only [Act.put, List.setIfInBounds_toArray, List.set_cons_zero, List.set_cons_succ]
              refine wpAnyH_take (i := 16) (oi := ⟨_, _, _, _, _, _⟩) (v := undef) rfl (by kernel_rfl) (by kernel_rfl) (by kernel_rfl) (fun _ _ _ h => h) (Or.inr ⟨by rfl, rfl⟩) (by assumption) ?_
              try simp only [Act.put, List.setIfInBounds_toArray, List.set_cons_zero, List.set_cons_succ]
              refine wpAnyH_take (i := 17) (oi := ⟨_, _, _, _, _, _⟩) (v := undef) rfl (by kernel_rfl) (by kernel_rfl) (by kernel_rfl) (fun _ _ _ h => h) (Or.inr ⟨by rfl, rfl⟩) (by assumption) ?_
              try simp only [Act.put, List.setIfInBounds_toArray, List.set_cons_zero, List.set_cons_succ]
              refine wpAnyH_take (i := 18) (oi := ⟨_, _, _, _, _, _⟩) (v := ?_) rfl (by kernel_rfl) (by kernel_rfl) (by kernel_rfl) (fun _ _ _ h => h) (Or.inl ⟨by rfl, ?_⟩) (by assumption) ?_
              rotate_left 1
              · intro W hSw
                try dsimp only at hSw
                go_simp
                try with_reducible rfl
              try simp only [Act.put, List.setIfInBounds_toArray, List.set_cons_zero, List.set_cons_succ]
              refine wpAnyH_done (by kernel_rfl) ?_ _
              go_wp2_with fail
              go_meet
              exact ⟨rfl, V11.out⟩
            | false =>
              by_cases hxv : x = v
              · subst hxv
                have heq : ∀ wq, (binOp .eql 26 (.agg (By x).toArray) (.agg (By x).toArray)).run Tryz.prog wq = .ok (.bool true) wq := fun wq => by rw [eql_hash x x HXl.out HXl.out, beq_self_eq_true]
                refine wp_region_held_drew (S := fun W => ((W.rangeAt w.heap.size 0 (bkC a) ∧ W.rangeAt (w.heap.size + 1) 0 (bkC b)) ∧ W.rangeAt w.heap.size 0 (hdC a.h)) ∧ W.rangeAt (w.heap.size + 1) 0 (hdC b.h)) (by kernel_rfl) ⟨⟨⟨rngB HR.out (nxDrI VC.out) Hl0.out, rngB HQ.out (nxDrI VC.out) Hl1.out⟩, rngB HRa.out.r (nxDrI VC.out) Hl0.out⟩, rngB HRb.out.r (nxDrI VC.out) Hl1.out⟩ (fun hHeld => ?_)
                refine wpAnyH_take (i := 0) (oi := ⟨_, _, _, _, _, _⟩) (v := ?_) rfl (by kernel_rfl) (by kernel_rfl) (by kernel_rfl) (fun _ _ _ h => h) (Or.inl ⟨by rfl, ?_⟩) (by assumption) ?_
                rotate_left 1
                · intro W hSw
                  try dsimp only at hSw
                  go_simp
                  try with_reducible rfl
                try simp only [Act.put, List.setIfInBounds_toArray, List.set_cons_zero, List.set_cons_succ]
                refine wpAnyH_take (i := 3) (oi := ⟨_, _, _, _, _, _⟩) (v := ?_) rfl (by kernel_rfl) (by kernel_rfl) (by kernel_rfl) (fun _ _ _ h => h) (Or.inl ⟨by rfl, ?_⟩) (by assumption) ?_
                rotate_left 1
                · intro W hSw
                  try dsimp only at hSw
                  go_simp
                  try with_reducible rfl
                try simp only [Act.put, List.setIfInBounds_toArray, List.set_cons_zero, List.set_cons_succ]
                refine wpAnyH_take (i := 1) (oi := ⟨_, _, _, _, _, _⟩) (v := .agg (hdC a.h).toArray) rfl (by kernel_rfl) (by kernel_rfl) (by kernel_rfl) (fun _ _ _ h => h) (yieldsIf_load_mid (by rfl) 29 (.tmp 70) rfl (w.heap.size) (0) rfl (hdC a.h) _ (fun W h => h.1.2) Tryz.underlying29 rfl HZha.out) (by assumption) ?_
                try simp only [Act.put, List.setIfInBounds_toArray, List.set_cons_zero, List.set_cons_succ]
                refine wpAnyH_take (i := 4) (oi := ⟨_, _, _, _, _, _⟩) (v := .agg (hdC b.h).toArray) rfl (by kernel_rfl) (by kernel_rfl) (by kernel_rfl) (fun _ _ _ h => h) (yieldsIf_load_mid (by rfl) 29 (.tmp 73) rfl (w.heap.size + 1) (0) rfl (hdC b.h) _ (fun W h => h.2) Tryz.underlying29 rfl HZhb.out) (by assumption) ?_
                try simp only [Act.put, List.setIfInBounds_toArray, List.set_cons_zero, List.set_cons_succ]
                refine wpAnyH_ready (rs := [2]) (by kernel_rfl) (by simp) ?_
                refine AllReadyH.cons rfl (fun K hK => ?_) AllReadyH.nil
                go_simp
                go_at_call 12
                refine (idh_any wd.drew (HTb.out.later (nxDrI VC.out)) a.h (HT.out.later (nxDrI VC.out)).h).mono ?_
                rw [HX.out]
                rintro e w9 ⟨rfl, hb⟩
                have V9 : Hid (Below ((w.alloc (.cells (bkC a).toArray 32)).alloc (.cells (bkC b).toArray 32)).heap.size ((w.alloc (.cells (bkC a).toArray 32)).alloc (.cells (bkC b).toArray 32)) w9) := nxTr (nxDrI VC.out) hb
                clear hb
                refine hK.out _ _ ⟨⟨⟨rngB HR.out V9.out Hl0.out, rngB HQ.out V9.out Hl1.out⟩, rngB HRa.out.r V9.out Hl0.out⟩, rngB HRb.out.r V9.out Hl1.out⟩ (fun hSn => ?_)
                clear hK K
                try simp only [Act.put, List.setIfInBounds_toArray, List.set_cons_zero, List.set_cons_succ]
                refine wpAnyH_ready (rs := [5]) (by kernel_rfl) (by simp) ?_
                refine AllReadyH.cons rfl (fun K hK => ?_) AllReadyH.nil
                go_simp
                go_at_call 12
                refine (idh_any w9 (HTb.out.later V9.out) b.h (HU.out.later V9.out).h).mono ?_
                rw [HV.out]
                rintro e w10 ⟨rfl, hb⟩
                have V10 : Hid (Below ((w.alloc (.cells (bkC a).toArray 32)).alloc (.cells (bkC b).toArray 32)).heap.size ((w.alloc (.cells (bkC a).toArray 32)).alloc (.cells (bkC b).toArray 32)) w10) := nxTr V9.out hb
                clear hb
                refine hK.out _ _ ⟨⟨⟨rngB HR.out V10.out Hl0.out, rngB HQ.out V10.out Hl1.out⟩, rngB HRa.out.r V10.out Hl0.out⟩, rngB HRb.out.r V10.out Hl1.out⟩ (fun hSn => ?_)
                clear hK K
                try simp only [Act.put, List.setIfInBounds_toArray, List.set_cons_zero, List.set_cons_succ]
                refine wpAnyH_take (i := 6) (oi := ⟨_, _, _, _, _, _⟩) (v := ?_) rfl (by kernel_rfl) (by kernel_rfl) (by kernel_rfl) (fun _ _ _ h => h) (Or.inl ⟨by rfl, ?_⟩) (by assumption) ?_
                rotate_left 1
                · intro W hSw
                  try dsimp only at hSw
                  go_simp
                  try with_reducible rfl
                try simp only [Act.put, List.setIfInBounds_toArray, List.set_cons_zero, List.set_cons_succ]
                refine wpAnyH_take (i := 7) (oi := ⟨_, _, _, _, _, _⟩) (v := ?_) rfl (by kernel_rfl) (by kernel_rfl) (by kernel_rfl) (fun _ _ _ h => h) (Or.inl ⟨by rfl, ?_⟩) (by assumption) ?_
                rotate_left 1
                · intro W hSw
                  try dsimp only at hSw
                  go_simp
                  try with_reducible rfl
                try simp only [Act.put, List.setIfInBounds_toArray, List.set_cons_zero, List.set_cons_succ]
                refine wpAnyH_take (i := 8) (oi := ⟨_, _, _, _, _, _⟩) (v := .agg (bkC a).toArray) rfl (by kernel_rfl) (by kernel_rfl) (by kernel_rfl) (fun _ _ _ h => h) (yieldsIf_load_mid (by rfl) 32 (.tmp 3) rfl (w.heap.size) (0) rfl (bkC a) _ (fun W h => h.1.1.1) Tryz.underlying32 rfl HZa.out) (by assumption) ?_
                try simp only [Act.put, List.setIfInBounds_toArray, List.set_cons_zero, List.set_cons_succ]
                refine wpAnyH_take (i := 9) (oi := ⟨_, _, _, _, _, _⟩) (v := .agg (bkC b).toArray) rfl (by kernel_rfl) (by kernel_rfl) (by kernel_rfl) (fun _ _ _ h => h) (yieldsIf_load_mid (by rfl) 32 (.tmp 4) rfl (w.heap.size + 1) (0) rfl (bkC b) _ (fun W h => h.1.1.2) Tryz.underlying32 rfl HZb.out) (by assumption) ?_
                try simp only [Act.put, List.setIfInBounds_toArray, List.set_cons_zero, List.set_cons_succ]
                refine wpAnyH_ready (rs := [10]) (by kernel_rfl) (by simp) ?_
                refine AllReadyH.cons rfl (fun K hK => ?_) AllReadyH.nil
                go_simp
                go_at_call 8
                refine (rsame6_any w10 a b (HT.out.later V10.out) (HU.out.later V10.out)).mono ?_
                unfold BSame
                rintro e w11 ⟨zs, rfl, hzs, hb⟩
                obtain rfl : zs = false := same_val hzs HB.out
                have V11 : Hid (Below ((w.alloc (.cells (bkC a).toArray 32)).alloc (.cells (bkC b).toArray 32)).heap.size ((w.alloc (.cells (bkC a).toArray 32)).alloc (.cells (bkC b).toArray 32)) w11) := nxTr V10.out hb
                clear hzs hb
                refine hK.out _ _ ⟨⟨⟨rngB HR.out V11.out Hl0.out, rngB HQ.out V11.out Hl1.out⟩, rngB HRa.out.r V11.out Hl0.out⟩, rngB HRb.out.r V11.out Hl1.out⟩ (fun hSn => ?_)
                clear hK K
                try simp only [Act.put, List.setIfInBounds_toArray, List.set_cons_zero, List.set_cons_succ]
                refine wpAnyH_take (i := 11) (oi := ⟨_, _, _, _, _, _⟩) (v := ?_) rfl (by kernel_rfl) (by kernel_rfl) (by kernel_rfl) (fun _ _ _ h => h) (Or.inl ⟨by rfl, ?_⟩) (by assumption) ?_
                rotate_left 1
                · intro W hSw
                  try dsimp only at hSw
                  go_simp
                  try with_reducible rfl
                try simp only [Act.put, List.setIfInBounds_toArray, List.set_cons_zero, List.set_cons_succ]
                refine wpAnyH_take (i := 12) (oi := ⟨_, _, _, _, _, _⟩) (v := ?_) rfl (by kernel_rfl) (by kernel_rfl) (by kernel_rfl) (fun _ _ _ h => h) (Or.inl ⟨by rfl, ?_⟩) (by assumption) ?_
                rotate_left 1
                · intro W hSw
                  try dsimp only at hSw
                  go_simp
                  try with_reducible rfl
                try simp only [Act.put, List.setIfInBounds_toArray, List.set_cons_zero, List.set_cons_succ]
                refine wpAnyH_take (i := 13) (oi := ⟨_, _, _, _, _, _⟩) (v := ?_) rfl (by kernel_rfl) (by kernel_rfl) (by kernel_rfl) (fun _ _ _ h => h) (Or.inl ⟨by rfl, ?_⟩) (by assumption) ?_
                rotate_left 1
                · intro W hSw
                  try dsimp only at hSw
                  go_simp
                  try with_reducible rfl
                try simp only [Act.put, List.setIfInBounds_toArray, List.set_cons_zero, List.set_cons_succ]
                refine wpAnyH_take (i := 14) (oi := ⟨_, _, _, _, _, _⟩) (v := .agg (bkC a).toArray) rfl (by kernel_rfl) (by kernel_rfl) (by kernel_rfl) (fun _ _ _ h => h) (yieldsIf_load_mid (by rfl) 32 (.tmp 3) rfl (w.heap.size) (0) rfl (bkC a) _ (fun W h => h.1.1.1) Tryz.underlying32 rfl HZa.out) (by assumption) ?_
                try simp only [Act.put, List.setIfInBounds_toArray, List.set_cons_zero, List.set_cons_succ]
                refine wpAnyH_take (i := 15) (oi := ⟨_, _, _, _, _, _⟩) (v := .agg (bkC b).toArray) rfl (by kernel_rfl) (by kernel_rfl) (by kernel_rfl) (fun _ _ _ h => h) (yieldsIf_load_mid (by rfl) 32 (.tmp 4) rfl (w.heap.size + 1) (0) rfl (bkC b) _ (fun W h => h.1.1.2) Tryz.underlying32 rfl HZb.out) (by assumption) ?_
                try simp only [Act.put, List.setIfInBounds_toArray, List.set_cons_zero, List.set_cons_succ]
                refine wpAnyH_ready (rs := [16]) (by kernel_rfl) (by simp) ?_
                refine AllReadyH.cons rfl (fun K hK => ?_) AllReadyH.nil
                go_simp
                go_at_call 13
                refine (two_any w11 a b (HT.out.later V11.out) (HU.out.later V11.out) HFa2.out HFb2.out (HIx.out rfl)).mono ?_
                rintro e w12 ⟨rfl, hb⟩
                have V12 : Hid (Below ((w.alloc (.cells (bkC a).toArray 32)).alloc (.cells (bkC b).toArray 32)).heap.size ((w.alloc (.cells (bkC a).toArray 32)).alloc (.cells (bkC b).toArray 32)) w12) := nxTr V11.out hb
                clear hb
                refine hK.out _ _ ⟨⟨⟨rngB HR.out V12.out Hl0.out, rngB HQ.out V12.out Hl1.out⟩, rngB HRa.out.r V12.out Hl0.out⟩, rngB HRb.out.r V12.out Hl1.out⟩ (fun hSn => ?_)
                clear hK K
                try simp only [Act.put, List.setIfInBounds_toArray, List.set_cons_zero, List.set_cons_succ]
                refine wpAnyH_take (i := 17) (oi := ⟨_, _, _, _, _, _⟩) (v := ?_) rfl (by kernel_rfl) (by kernel_rfl) (by kernel_rfl) (fun _ _ _ h => h) (Or.inl ⟨by rfl, ?_⟩) (by assumption) ?_
                rotate_left 1
                · intro W hSw
                  try dsimp only at hSw
                  go_simp
                  try with_reducible rfl
                try simp only [Act.put, List.setIfInBounds_toArray, List.set_cons_zero, List.set_cons_succ]
                refine wpAnyH_take (i := 18) (oi := ⟨_, _, _, _, _, _⟩) (v := ?_) rfl (by kernel_rfl) (by kernel_rfl) (by kernel_rfl) (fun _ _ _ h => h) (Or.inl ⟨by rfl, ?_⟩) (by assumption) ?_
                rotate_left 1
                · intro W hSw
                  try dsimp only at hSw
                  go_simp
                  try with_reducible rfl
                try simp only [Act.put, List.setIfInBounds_toArray, List.set_cons_zero, List.set_cons_succ]
                refine wpAnyH_done (by kernel_rfl) ?_ _
                go_wp2_with fail
                go_meet
                exact ⟨rfl, V12.out⟩
              · have heq : ∀ wq, (binOp .eql 26 (.agg (By x).toArray) (.agg (By v).toArray)).run Tryz.prog wq = .ok (.bool false) wq := fun wq => by rw [eql_hash x v HXl.out HVl.out, beq_eq_false_iff_ne.2 hxv]
                clear hxv
                refine wp_region_held_drew (S := fun W => ((W.rangeAt w.heap.size 0 (bkC a) ∧ W.rangeAt (w.heap.size + 1) 0 (bkC b)) ∧ W.rangeAt w.heap.size 0 (hdC a.h)) ∧ W.rangeAt (w.heap.size + 1) 0 (hdC b.h)) (by kernel_rfl) ⟨⟨⟨rngB HR.out (nxDrI VC.out) Hl0.out, rngB HQ.out (nxDrI VC.out) Hl1.out⟩, rngB HRa.out.r (nxDrI VC.out) Hl0.out⟩, rngB HRb.out.r (nxDrI VC.out) Hl1.out⟩ (fun hHeld => ?_)
                refine wpAnyH_take (i := 0) (oi := ⟨_, _, _, _, _, _⟩) (v := ?_) rfl (by kernel_rfl) (by kernel_rfl) (by kernel_rfl) (fun _ _ _ h => h) (Or.inl ⟨by rfl, ?_⟩) (by assumption) ?_
                rotate_left 1
                · intro W hSw
                  try dsimp only at hSw
                  go_simp
                  try with_reducible rfl
                try simp only [Act.put, List.setIfInBounds_toArray, List.set_cons_zero, List.set_cons_succ]
                refine wpAnyH_take (i := 3) (oi := ⟨_, _, _, _, _, _⟩) (v := ?_) rfl (by kernel_rfl) (by kernel_rfl) (by kernel_rfl) (fun _ _ _ h => h) (Or.inl ⟨by rfl, ?_⟩) (by assumption) ?_
                rotate_left 1
                · intro W hSw
                  try dsimp only at hSw
                  go_simp
                  try with_reducible rfl
                try simp only [Act.put, List.setIfInBounds_toArray, List.set_cons_zero, List.set_cons_succ]
                refine wpAnyH_take (i := 1) (oi := ⟨_, _, _, _, _, _⟩) (v := .agg (hdC a.h).toArray) rfl (by kernel_rfl) (by kernel_rfl) (by kernel_rfl) (fun _ _ _ h => h) (yieldsIf_load_mid (by rfl) 29 (.tmp 70) rfl (w.heap.size) (0) rfl (hdC a.h) _ (fun W h => h.1.2) Tryz.underlying29 rfl HZha.out) (by assumption) ?_
                try simp only [Act.put, List.setIfInBounds_toArray, List.set_cons_zero, List.set_cons_succ]
                refine wpAnyH_take (i := 4) (oi := ⟨_, _, _, _, _, _⟩) (v := .agg (hdC b.h).toArray) rfl (by kernel_rfl) (by kernel_rfl) (by kernel_rfl) (fun _ _ _ h => h) (yieldsIf_load_mid (by rfl) 29 (.tmp 73) rfl (w.heap.size + 1) (0) rfl (hdC b.h) _ (fun W h => h.2) Tryz.underlying29 rfl HZhb.out) (by assumption) ?_
                try simp only [Act.put, List.setIfInBounds_toArray, List.set_cons_zero, List.set_cons_succ]
                refine wpAnyH_ready (rs := [2]) (by kernel_rfl) (by simp) ?_
                refine AllReadyH.cons rfl (fun K hK => ?_) AllReadyH.nil
                go_simp
                go_at_call 12
                refine (idh_any wd.drew (HTb.out.later (nxDrI VC.out)) a.h (HT.out.later (nxDrI VC.out)).h).mono ?_
                rw [HX.out]
                rintro e w9 ⟨rfl, hb⟩
                have V9 : Hid (Below ((w.alloc (.cells (bkC a).toArray 32)).alloc (.cells (bkC b).toArray 32)).heap.size ((w.alloc (.cells (bkC a).toArray 32)).alloc (.cells (bkC b).toArray 32)) w9) := nxTr (nxDrI VC.out) hb
                clear hb
                refine hK.out _ _ ⟨⟨⟨rngB HR.out V9.out Hl0.out, rngB HQ.out V9.out Hl1.out⟩, rngB HRa.out.r V9.out Hl0.out⟩, rngB HRb.out.r V9.out Hl1.out⟩ (fun hSn => ?_)
                clear hK K
                try simp only [Act.put, List.setIfInBounds_toArray, List.set_cons_zero, List.set_cons_succ]
                refine wpAnyH_ready (rs := [5]) (by kernel_rfl) (by simp) ?_
                refine AllReadyH.cons rfl (fun K hK => ?_) AllReadyH.nil
                go_simp
                go_at_call 12
                refine (idh_any w9 (HTb.out.later V9.out) b.h (HU.out.later V9.out).h).mono ?_
                rw [HV.out]
                rintro e w10 ⟨rfl, hb⟩
                have V10 : Hid (Below ((w.alloc (.cells (bkC a).toArray 32)).alloc (.cells (bkC b).toArray 32)).heap.size ((w.alloc (.cells (bkC a).toArray 32)).alloc (.cells (bkC b).toArray 32)) w10) := nxTr V9.out hb
                clear hb
                refine hK.out _ _ ⟨⟨⟨rngB HR.out V10.out Hl0.out, rngB HQ.out V10.out Hl1.out⟩, rngB HRa.out.r V10.out Hl0.out⟩, rngB HRb.out.r V10.out Hl1.out⟩ (fun hSn => ?_)
                clear hK K
                try simp only [Act.put, List.setIfInBounds_toArray, List.set_cons_zero, List.set_cons_succ]
                refine wpAnyH_take (i := 6) (oi := ⟨_, _, _, _, _, _⟩) (v := ?_) rfl (by kernel_rfl) (by kernel_rfl) (by kernel_rfl) (fun _ _ _ h => h) (Or.inl ⟨by rfl, ?_⟩) (by assumption) ?_
                rotate_left 1
                · intro W hSw
                  try dsimp only at hSw
                  go_simp
                  try with_reducible rfl
                try simp only [Act.put, List.setIfInBounds_toArray, List.set_cons_zero, List.set_cons_succ]
                refine wpAnyH_take (i := 7) (oi := ⟨_, _, _, _, _, _⟩) (v := ?_) rfl (by kernel_rfl) (by kernel_rfl) (by kernel_rfl) (fun _ _ _ h => h) (Or.inl ⟨by rfl, ?_⟩) (by assumption) ?_
                rotate_left 1
                · intro W hSw
                  try dsimp only at hSw
                  go_simp
                  try with_reducible rfl
                try simp only [Act.put, List.setIfInBounds_toArray, List.set_cons_zero, List.set_cons_succ]
                refine wpAnyH_take (i := 8) (oi := ⟨_, _, _, _, _, _⟩) (v := undef) rfl (by kernel_rfl) (by kernel_rfl) (by kernel_rfl) (fun _ _ _ h => h) (Or.inr ⟨by rfl, rfl⟩) (by assumption) ?_
                try simp only [Act.put, List.setIfInBounds_toArray, List.set_cons_zero, List.set_cons_succ]
                refine wpAnyH_take (i := 9) (oi := ⟨_, _, _, _, _, _⟩) (v := undef) rfl (by kernel_rfl) (by kernel_rfl) (by kernel_rfl) (fun _ _ _ h => h) (Or.inr ⟨by rfl, rfl⟩) (by assumption) ?_
                try simp only [Act.put, List.setIfInBounds_toArray, List.set_cons_zero, List.set_cons_succ]
                refine wpAnyH_take (i := 10) (oi := ⟨_, _, _, _, _, _⟩) (v := undef) rfl (by kernel_rfl) (by kernel_rfl) (by kernel_rfl) (fun _ _ _ h => h) (Or.inr ⟨by rfl, rfl⟩) (by assumption) ?_
                try simp only [Act.put, List.setIfInBounds_toArray, List.set_cons_zero, List.set_cons_succ]
                refine wpAnyH_take (i := 11) (oi := ⟨_, _, _, _, _, _⟩) (v := undef) rfl (by kernel_rfl) (by kernel_rfl) (by kernel_rfl) (fun _ _ _ h => h) (Or.inr ⟨by rfl, rfl⟩) (by assumption) ?_
                try simp only [Act.put, List.setIfInBounds_toArray, List.set_cons_zero, List.set_cons_succ]
                refine wpAnyH_take (i := 12) (oi := ⟨_, _, _, _, _, _⟩) (v := ?_) rfl (by kernel_rfl) (by kernel_rfl) (by kernel_rfl) (fun _ _ _ h => h) (Or.inl ⟨by rfl, ?_⟩) (by assumption) ?_
                rotate_left 1
                · intro W hSw
                  try dsimp only at hSw
                  go_simp
                  try with_reducible rfl
                try simp only [Act.put, List.setIfInBounds_toArray, List.set_cons_zero, List.set_cons_succ]
                refine wpAnyH_take (i := 13) (oi := ⟨_, _, _, _, _, _⟩) (v := ?_) rfl (by kernel_rfl) (by kernel_rfl) (by kernel_rfl) (fun _ _ _ h => h) (Or.inl ⟨by rfl, ?_⟩) (by assumption) ?_
                rotate_left 1
                · intro W hSw
                  try dsimp only at hSw
                  go_simp
                  try with_reducible rfl
                try simp only [Act.put, List.setIfInBounds_toArray, List.set_cons_zero, List.set_cons_succ]
                refine wpAnyH_take (i := 14) (oi := ⟨_, _, _, _, _, _⟩) (v := undef) rfl (by kernel_rfl) (by kernel_rfl) (by kernel_rfl) (fun _ _ _ h => h) (Or.inr ⟨by rfl, rfl⟩) (by assumption) ?_
                try simp only [Act.put, List.setIfInBounds_toArray, List.set_cons_zero, List.set_cons_succ]
                refine wpAnyH_take (i := 15) (oi := ⟨_, _, _, _, _, _⟩) (v := undef) rfl (by kernel_rfl) (by kernel_rfl) (by kernel_rfl) (fun _ _ _ h => h) (Or.inr ⟨by rfl, rfl⟩) (by assumption) ?_
                try simp only [Act.put, List.setIfInBounds_toArray, List.set_cons_zero, List.set_cons_succ]
                refine wpAnyH_take (i := 16) (oi := ⟨_, _, _, _, _, _⟩) (v := undef) rfl (by kernel_rfl) (by kernel_rfl) (by kernel_rfl) (fun _ _ _ h => h) (Or.inr ⟨by rfl, rfl⟩) (by assumption) ?_
                try simp only [Act.put, List.setIfInBounds_toArray, List.set_cons_zero, List.set_cons_succ]
                refine wpAnyH_take (i := 17) (oi := ⟨_, _, _, _, _, _⟩) (v := undef) rfl (by kernel_rfl) (by kernel_rfl) (by kernel_rfl) (fun _ _ _ h => h) (Or.inr ⟨by rfl, rfl⟩) (by assumption) ?_
                try simp only [Act.put, List.setIfInBounds_toArray, List.set_cons_zero, List.set_cons_succ]
                refine wpAnyH_take (i := 18) (oi := ⟨_, _, _, _, _, _⟩) (v := ?_) rfl (by kernel_rfl) (by kernel_rfl) (by kernel_rfl) (fun _ _ _ h => h) (Or.inl ⟨by rfl, ?_⟩) (by assumption) ?_
                rotate_left 1
                · intro W hSw
                  try dsimp only at hSw
                  go_simp
                  try with_reducible rfl
                try simp only [Act.put, List.setIfInBounds_toArray, List.set_cons_zero, List.set_cons_succ]
                refine wpAnyH_done (by kernel_rfl) ?_ _
                go_wp2_with fail
                go_meet
                exact ⟨rfl, V10.out⟩
        case rest =>
          obtain ⟨rfl, hVc⟩ := hcut
          cases k with
          | true =>
            go_wp2_with (first
              | (go_at_call 6; (with_reducible show Calls _ _ #[.slice A s.length c] _ _); refine (bof_any wc (HTb.out.later hVc.out) wc.heap.size A s c ((HS.out.later hVc.out).more (Nat.le_trans Hb0.out.size hVc.out.size)) HLb.out).mono ?_; unfold BOfPost; rw [HK.out]; rintro e w20 ⟨k8, rfl, hp8, ht8, hb8⟩; have P8 : Hid ((k8.h.p, k8.txs.map txP) = bofV s) := hp8; have T8 := Lib.hid ht8; have V20 : Hid (Below ((w.alloc (.cells (bkC a).toArray 32)).alloc (.cells (bkC b).toArray 32)).heap.size ((w.alloc (.cells (bkC a).toArray 32)).alloc (.cells (bkC b).toArray 32)) w20) := nxTr hVc.out hb8; clear hp8 ht8 hb8)
              | ((with_reducible show wpList _ _ _ (⟨none, .store 32 (.tmp 13) _, _, _, _, _⟩ :: _) _ _); (show wpList _ _ _ _ _ (w20.alloc (.cells Tryz.zeroCells32 32))); refine wpList_store_all rfl 32 (.tmp 13) (.tmp 92) rfl w20.heap.size 32 Tryz.zeroCells32 (bkC k8).toArray rfl rfl (heap_alloc_new w20 _) (by rw [bkZ_row, List.size_toArray, bkC_len T8.out.h.f]) (bkSz' (b := k8) T8.out.h.f) (bkC_one k8) ?_; intro w21 h5 h6 h7; have R21 := Lib.hid (blkR (vs := bkC k8) h5); have X21 : Hid (Below w20.heap.size w20 w21) := belowFresh h6; have V21 : Hid (Below ((w.alloc (.cells (bkC a).toArray 32)).alloc (.cells (bkC b).toArray 32)).heap.size ((w.alloc (.cells (bkC a).toArray 32)).alloc (.cells (bkC b).toArray 32)) w21) := nxTr V20.out X21.out; clear h5 h6 h7)
              | ((with_reducible show wpList _ _ _ (⟨some 98, _, _, _, _, _⟩ :: _) _ _); refine wpList_load_mid rfl 32 (.tmp 13) rfl w20.heap.size 0 rfl (bkC k8) _ R21.out Tryz.underlying32 rfl (bkSz (b := k8) T8.out.h.f) ?_)
              | (go_at_call 11; (with_reducible show Calls _ _ #[.agg (bkC k8).toArray] _ _); refine (bbytes_yes w21 (HTb.out.later V21.out) k8 (T8.out.later X21.out) (bof_back HK.out P8.out).2).mono ?_; unfold BkBytesPost; rw [(bof_back HK.out P8.out).1]; rintro e w22 ⟨⟨A22, c22, B22, rfl, hB0, ho⟩, hb⟩; have V22 : Hid (Below ((w.alloc (.cells (bkC a).toArray 32)).alloc (.cells (bkC b).toArray 32)).heap.size ((w.alloc (.cells (bkC a).toArray 32)).alloc (.cells (bkC b).toArray 32)) w22) := nxTr V21.out hb; have q1 := run_string_sees (P := Tryz.prog) (w := w22) (c := c22) (n := s.length) Tryz.underlying22 Tryz.underlying5 Tryz.underlying9 rfl (Sees.own ho); have q2 := run_string_sees (P := Tryz.prog) (w := w22) (c := c) (n := s.length) Tryz.underlying22 Tryz.underlying5 Tryz.underlying9 rfl (HS.out.later V22.out); clear hB0 ho hb)
              | (go_at_call 9; refine (num6_any _ _).mono ?_; rintro e wn ⟨rfl, hwn⟩; obtain rfl := hwn.symm))
            go_ret
            exact ⟨rfl, nxTr Hb0.out V22.out⟩
          | false =>
            go_wp2_with (first
              | (go_at_call 6; (with_reducible show Calls _ _ #[.slice A s.length c] _ _); refine (bof_any wc (HTb.out.later hVc.out) wc.heap.size A s c ((HS.out.later hVc.out).more (Nat.le_trans Hb0.out.size hVc.out.size)) HLb.out).mono ?_; unfold BOfPost; rw [HK.out]; rintro e w20 ⟨k8, rfl, hp8, ht8, hb8⟩; have P8 : Hid ((k8.h.p, k8.txs.map txP) = bofV s) := hp8; have T8 := Lib.hid ht8; have V20 : Hid (Below ((w.alloc (.cells (bkC a).toArray 32)).alloc (.cells (bkC b).toArray 32)).heap.size ((w.alloc (.cells (bkC a).toArray 32)).alloc (.cells (bkC b).toArray 32)) w20) := nxTr hVc.out hb8; clear hp8 ht8 hb8)
              | ((with_reducible show wpList _ _ _ (⟨none, .store 32 (.tmp 13) _, _, _, _, _⟩ :: _) _ _); (show wpList _ _ _ _ _ (w20.alloc (.cells Tryz.zeroCells32 32))); refine wpList_store_all rfl 32 (.tmp 13) (.tmp 92) rfl w20.heap.size 32 Tryz.zeroCells32 (bkC k8).toArray rfl rfl (heap_alloc_new w20 _) (by rw [bkZ_row, List.size_toArray, bkC_len T8.out.h.f]) (bkSz' (b := k8) T8.out.h.f) (bkC_one k8) ?_; intro w21 h5 h6 h7; have R21 := Lib.hid (blkR (vs := bkC k8) h5); have X21 : Hid (Below w20.heap.size w20 w21) := belowFresh h6; have V21 : Hid (Below ((w.alloc (.cells (bkC a).toArray 32)).alloc (.cells (bkC b).toArray 32)).heap.size ((w.alloc (.cells (bkC a).toArray 32)).alloc (.cells (bkC b).toArray 32)) w21) := nxTr V20.out X21.out; clear h5 h6 h7)
              | (go_at_call 9; refine (num6_any _ _).mono ?_; rintro e wn ⟨rfl, hwn⟩; obtain rfl := hwn.symm))
            go_ret
            exact ⟨rfl, nxTr Hb0.out V21.out⟩
    · obtain ⟨ny, ly, uy⟩ := hy
      have ey1 : (y == 0) = false := beq_eq_false_iff_ne.2 ny
      have ey2 : decide (y = 0) = false := decide_eq_false ny
      have ey3 : (y = 0) = False := eq_false ny
      have hw0 : IntKind.i64.wrap (0 + y) = y := by rw [IntKind.wrap_i64]; omega
      cases k
      case true =>
        go_enter Tryz.func4, Tryz.ntmps4
        go_wp2_with (first
          | (go_at_call 5; refine (known6_any ((w.alloc (.cells (bkC a).toArray 32)).alloc (.cells (bkC b).toArray 32))).mono ?_; rintro e w1 ⟨rfl, hb1⟩; have V1 : Hid (Below ((w.alloc (.cells (bkC a).toArray 32)).alloc (.cells (bkC b).toArray 32)).heap.size ((w.alloc (.cells (bkC a).toArray 32)).alloc (.cells (bkC b).toArray 32)) w1) := hb1; clear hb1)
          | ((with_reducible show wpList _ _ _ (⟨some 19, _, _, _, _, _⟩ :: _) _ _); refine wpList_load_mid rfl 32 (.tmp 3) rfl w.heap.size 0 rfl (bkC a) _ (rngB HR.out V1.out Hl0.out) Tryz.underlying32 rfl HZa.out ?_)
          | ((with_reducible show wpList _ _ _ (⟨some 20, _, _, _, _, _⟩ :: _) _ _); refine wpList_load_mid rfl 32 (.tmp 4) rfl (w.heap.size + 1) 0 rfl (bkC b) _ (rngB HQ.out V1.out Hl1.out) Tryz.underlying32 rfl HZb.out ?_)
          | ((with_reducible show wpList _ _ _ (⟨some 21, _, _, _, _, _⟩ :: _) _ _); refine wpList_build_bk2 rfl (.tmp 19) (.tmp 20) rfl a b HFa.out HFb.out rfl rfl ?_)
          | (go_at_call 10; refine (much62_any (w1.alloc (.cells (bkC a ++ bkC b).toArray 32)) w1.heap.size a b (HT.out.later (nxAl V1.out _)) (HU.out.later (nxAl V1.out _)) (heap_alloc_new w1 _)).mono ?_; rintro e w2 ⟨mz, rfl, hb2⟩; have V2 : Hid (Below ((w.alloc (.cells (bkC a).toArray 32)).alloc (.cells (bkC b).toArray 32)).heap.size ((w.alloc (.cells (bkC a).toArray 32)).alloc (.cells (bkC b).toArray 32)) w2) := nxTr (nxAl V1.out _) hb2; clear hb2; cases mz)
          | ((with_reducible show wpList _ _ _ (⟨some 29, _, _, _, _, _⟩ :: _) _ _); refine wpList_load_mid rfl 32 (.tmp 3) rfl w.heap.size 0 rfl (bkC a) _ (rngB HR.out V2.out Hl0.out) Tryz.underlying32 rfl HZa.out ?_)
          | (go_at_call 11; (with_reducible show Calls _ _ #[.agg (bkC a).toArray] _ _); refine (bbytes_yes w2 (HTb.out.later V2.out) a (HT.out.later V2.out) HCz.out).mono ?_; unfold BkBytesPost; rw [HF.out]; rintro e w3 ⟨⟨A3, c3, B3, rfl, hB0, ho⟩, hb⟩; have V3 : Hid (Below ((w.alloc (.cells (bkC a).toArray 32)).alloc (.cells (bkC b).toArray 32)).heap.size ((w.alloc (.cells (bkC a).toArray 32)).alloc (.cells (bkC b).toArray 32)) w3) := nxTr V2.out hb; have V23 : Hid (Below w2.heap.size w2 w3) := hb; have S3 := Lib.hid (Sees.own ho); clear hB0 ho hb)
          | ((with_reducible show wpList _ _ _ (⟨some 34, _, _, _, _, _⟩ :: _) _ _); refine wpList_load_mid rfl 32 (.tmp 4) rfl (w.heap.size + 1) 0 rfl (bkC b) _ (rngB HQ.out V3.out Hl1.out) Tryz.underlying32 rfl HZb.out ?_)
          | (go_at_call 11; (with_reducible show Calls _ _ #[.agg (bkC b).toArray] _ _); refine (bbytes_no w3 (HTb.out.later V3.out) b (HU.out.later V3.out) (by rw [HCy.out]; assumption)).mono ?_; rw [HCy.out]; rintro e w4 ⟨rfl, hb⟩; have V4 : Hid (Below ((w.alloc (.cells (bkC a).toArray 32)).alloc (.cells (bkC b).toArray 32)).heap.size ((w.alloc (.cells (bkC a).toArray 32)).alloc (.cells (bkC b).toArray 32)) w4) := nxTr V3.out hb; have V34 : Hid (Below w3.heap.size w3 w4) := hb; clear hb)
          | (go_at_call 9; refine (num6_any _ _).mono ?_; rintro e wn ⟨rfl, hwn⟩; obtain rfl := hwn.symm)
          | (go_at_call 6; (with_reducible show Calls _ _ #[.slice A3 F.length c3] _ _); refine (bof_any w4 (HTb.out.later V4.out) w4.heap.size A3 F c3 ((S3.out.later V34.out).more V34.out.size) HLF.out).mono ?_; unfold BOfPost; rw [HFB.out, HFV.out]; rintro e w5 ⟨k5, rfl, hp5, ht5, hb5⟩; have P5 : Hid (bkD k5 = bkD a) := hp5; have T5 := Lib.hid ht5; have V5 : Hid (Below ((w.alloc (.cells (bkC a).toArray 32)).alloc (.cells (bkC b).toArray 32)).heap.size ((w.alloc (.cells (bkC a).toArray 32)).alloc (.cells (bkC b).toArray 32)) w5) := nxTr V4.out hb5; have X5 : Hid (Below w4.heap.size w4 w5) := hb5; clear hp5 ht5 hb5)
          | ((with_reducible show wpList _ _ _ (⟨none, .store 32 (.tmp 11) _, _, _, _, _⟩ :: _) _ _); (show wpList _ _ _ _ _ (w5.alloc (.cells Tryz.zeroCells32 32))); refine wpList_store_all rfl 32 (.tmp 11) (.tmp 44) rfl w5.heap.size 32 Tryz.zeroCells32 (bkC k5).toArray rfl rfl (heap_alloc_new w5 _) (by rw [bkZ_row, List.size_toArray, bkC_len T5.out.h.f]) (bkSz' (b := k5) T5.out.h.f) (bkC_one k5) ?_; intro w6 h5 h6 h7; have R6 := Lib.hid (blkR (vs := bkC k5) h5); have X6 : Hid (Below w5.heap.size w5 w6) := belowFresh h6; have V6 : Hid (Below ((w.alloc (.cells (bkC a).toArray 32)).alloc (.cells (bkC b).toArray 32)).heap.size ((w.alloc (.cells (bkC a).toArray 32)).alloc (.cells (bkC b).toArray 32)) w6) := nxTr V5.out X6.out; clear h5 h6 h7)
          | ((with_reducible show wpList _ _ _ (⟨some 50, _, _, _, _, _⟩ :: _) _ _); refine wpList_load_want (by rfl) 32 (.tmp 11) rfl w5.heap.size 0 rfl (bkC k5) _ R6.out Tryz.underlying32 rfl (bkSz (b := k5) T5.out.h.f) ?_)
          | ((with_reducible show wpList _ _ _ (⟨some 51, _, _, _, _, _⟩ :: _) _ _); refine wpList_load_want (by rfl) 32 (.tmp 3) rfl w.heap.size 0 rfl (bkC a) _ (rngB HR.out V6.out Hl0.out) Tryz.underlying32 rfl HZa.out ?_)
          | (go_at_call 8; (with_reducible show Calls _ _ #[.agg (bkC k5).toArray, .agg (bkC a).toArray] _ _); refine (rsame6_any w6 k5 a (T5.out.later X6.out) (HT.out.later V6.out)).mono ?_; unfold BSame; rintro e w7 ⟨zs, rfl, hzs, hb7⟩; obtain rfl : zs = true := hzs.2 P5.out; have V7 : Hid (Below ((w.alloc (.cells (bkC a).toArray 32)).alloc (.cells (bkC b).toArray 32)).heap.size ((w.alloc (.cells (bkC a).toArray 32)).alloc (.cells (bkC b).toArray 32)) w7) := nxTr V6.out hb7; have X7 : Hid (Below w4.heap.size w4 w7) := nxTr (nxTr X5.out X6.out) hb7; clear hzs hb7)
          | (go_at_call 6; (with_reducible show Calls _ _ #[.slice A s.length c] _ _); refine (bof_any w7 (HTb.out.later V7.out) w7.heap.size A s c ((HS.out.later V7.out).more (Nat.le_trans Hb0.out.size V7.out.size)) HLb.out).mono ?_; unfold BOfPost; rw [HK.out]; rintro e w20 ⟨k8, rfl, hp8, ht8, hb8⟩; have P8 : Hid ((k8.h.p, k8.txs.map txP) = bofV s) := hp8; have T8 := Lib.hid ht8; have V20 : Hid (Below ((w.alloc (.cells (bkC a).toArray 32)).alloc (.cells (bkC b).toArray 32)).heap.size ((w.alloc (.cells (bkC a).toArray 32)).alloc (.cells (bkC b).toArray 32)) w20) := nxTr V7.out hb8; clear hp8 ht8 hb8)
          | ((with_reducible show wpList _ _ _ (⟨none, .store 32 (.tmp 13) _, _, _, _, _⟩ :: _) _ _); (show wpList _ _ _ _ _ (w20.alloc (.cells Tryz.zeroCells32 32))); refine wpList_store_all rfl 32 (.tmp 13) (.tmp 92) rfl w20.heap.size 32 Tryz.zeroCells32 (bkC k8).toArray rfl rfl (heap_alloc_new w20 _) (by rw [bkZ_row, List.size_toArray, bkC_len T8.out.h.f]) (bkSz' (b := k8) T8.out.h.f) (bkC_one k8) ?_; intro w21 h5 h6 h7; have R21 := Lib.hid (blkR (vs := bkC k8) h5); have X21 : Hid (Below w20.heap.size w20 w21) := belowFresh h6; have V21 : Hid (Below ((w.alloc (.cells (bkC a).toArray 32)).alloc (.cells (bkC b).toArray 32)).heap.size ((w.alloc (.cells (bkC a).toArray 32)).alloc (.cells (bkC b).toArray 32)) w21) := nxTr V20.out X21.out; clear h5 h6 h7)
          | ((with_reducible show wpList _ _ _ (⟨some 98, _, _, _, _, _⟩ :: _) _ _); refine wpList_load_mid rfl 32 (.tmp 13) rfl w20.heap.size 0 rfl (bkC k8) _ R21.out Tryz.underlying32 rfl (bkSz (b := k8) T8.out.h.f) ?_)
          | (go_at_call 11; (with_reducible show Calls _ _ #[.agg (bkC k8).toArray] _ _); refine (bbytes_yes w21 (HTb.out.later V21.out) k8 (T8.out.later X21.out) (bof_back HK.out P8.out).2).mono ?_; unfold BkBytesPost; rw [(bof_back HK.out P8.out).1]; rintro e w22 ⟨⟨A22, c22, B22, rfl, hB0, ho⟩, hb⟩; have V22 : Hid (Below ((w.alloc (.cells (bkC a).toArray 32)).alloc (.cells (bkC b).toArray 32)).heap.size ((w.alloc (.cells (bkC a).toArray 32)).alloc (.cells (bkC b).toArray 32)) w22) := nxTr V21.out hb; have q1 := run_string_sees (P := Tryz.prog) (w := w22) (c := c22) (n := s.length) Tryz.underlying22 Tryz.underlying5 Tryz.underlying9 rfl (Sees.own ho); have q2 := run_string_sees (P := Tryz.prog) (w := w22) (c := c) (n := s.length) Tryz.underlying22 Tryz.underlying5 Tryz.underlying9 rfl (HS.out.later V22.out); clear hB0 ho hb))
        all_goals (first | go_ret | go_show)
        · exact ⟨rfl, nxTr Hb0.out V22.out⟩
        · exact ⟨rfl, nxTr Hb0.out V2.out⟩
      case false =>
        go_enter Tryz.func4, Tryz.ntmps4
        go_wp2_with (first
          | (go_at_call 5; refine (known6_any ((w.alloc (.cells (bkC a).toArray 32)).alloc (.cells (bkC b).toArray 32))).mono ?_; rintro e w1 ⟨rfl, hb1⟩; have V1 : Hid (Below ((w.alloc (.cells (bkC a).toArray 32)).alloc (.cells (bkC b).toArray 32)).heap.size ((w.alloc (.cells (bkC a).toArray 32)).alloc (.cells (bkC b).toArray 32)) w1) := hb1; clear hb1)
          | ((with_reducible show wpList _ _ _ (⟨some 19, _, _, _, _, _⟩ :: _) _ _); refine wpList_load_mid rfl 32 (.tmp 3) rfl w.heap.size 0 rfl (bkC a) _ (rngB HR.out V1.out Hl0.out) Tryz.underlying32 rfl HZa.out ?_)
          | ((with_reducible show wpList _ _ _ (⟨some 20, _, _, _, _, _⟩ :: _) _ _); refine wpList_load_mid rfl 32 (.tmp 4) rfl (w.heap.size + 1) 0 rfl (bkC b) _ (rngB HQ.out V1.out Hl1.out) Tryz.underlying32 rfl HZb.out ?_)
          | ((with_reducible show wpList _ _ _ (⟨some 21, _, _, _, _, _⟩ :: _) _ _); refine wpList_build_bk2 rfl (.tmp 19) (.tmp 20) rfl a b HFa.out HFb.out rfl rfl ?_)
          | (go_at_call 10; refine (much62_any (w1.alloc (.cells (bkC a ++ bkC b).toArray 32)) w1.heap.size a b (HT.out.later (nxAl V1.out _)) (HU.out.later (nxAl V1.out _)) (heap_alloc_new w1 _)).mono ?_; rintro e w2 ⟨mz, rfl, hb2⟩; have V2 : Hid (Below ((w.alloc (.cells (bkC a).toArray 32)).alloc (.cells (bkC b).toArray 32)).heap.size ((w.alloc (.cells (bkC a).toArray 32)).alloc (.cells (bkC b).toArray 32)) w2) := nxTr (nxAl V1.out _) hb2; clear hb2; cases mz)
          | ((with_reducible show wpList _ _ _ (⟨some 29, _, _, _, _, _⟩ :: _) _ _); refine wpList_load_mid rfl 32 (.tmp 3) rfl w.heap.size 0 rfl (bkC a) _ (rngB HR.out V2.out Hl0.out) Tryz.underlying32 rfl HZa.out ?_)
          | (go_at_call 11; (with_reducible show Calls _ _ #[.agg (bkC a).toArray] _ _); refine (bbytes_yes w2 (HTb.out.later V2.out) a (HT.out.later V2.out) HCz.out).mono ?_; unfold BkBytesPost; rw [HF.out]; rintro e w3 ⟨⟨A3, c3, B3, rfl, hB0, ho⟩, hb⟩; have V3 : Hid (Below ((w.alloc (.cells (bkC a).toArray 32)).alloc (.cells (bkC b).toArray 32)).heap.size ((w.alloc (.cells (bkC a).toArray 32)).alloc (.cells (bkC b).toArray 32)) w3) := nxTr V2.out hb; have V23 : Hid (Below w2.heap.size w2 w3) := hb; have S3 := Lib.hid (Sees.own ho); clear hB0 ho hb)
          | ((with_reducible show wpList _ _ _ (⟨some 34, _, _, _, _, _⟩ :: _) _ _); refine wpList_load_mid rfl 32 (.tmp 4) rfl (w.heap.size + 1) 0 rfl (bkC b) _ (rngB HQ.out V3.out Hl1.out) Tryz.underlying32 rfl HZb.out ?_)
          | (go_at_call 11; (with_reducible show Calls _ _ #[.agg (bkC b).toArray] _ _); refine (bbytes_no w3 (HTb.out.later V3.out) b (HU.out.later V3.out) (by rw [HCy.out]; assumption)).mono ?_; rw [HCy.out]; rintro e w4 ⟨rfl, hb⟩; have V4 : Hid (Below ((w.alloc (.cells (bkC a).toArray 32)).alloc (.cells (bkC b).toArray 32)).heap.size ((w.alloc (.cells (bkC a).toArray 32)).alloc (.cells (bkC b).toArray 32)) w4) := nxTr V3.out hb; have V34 : Hid (Below w3.heap.size w3 w4) := hb; clear hb)
          | (go_at_call 9; refine (num6_any _ _).mono ?_; rintro e wn ⟨rfl, hwn⟩; obtain rfl := hwn.symm)
          | (go_at_call 6; (with_reducible show Calls _ _ #[.slice A3 F.length c3] _ _); refine (bof_any w4 (HTb.out.later V4.out) w4.heap.size A3 F c3 ((S3.out.later V34.out).more V34.out.size) HLF.out).mono ?_; unfold BOfPost; rw [HFB.out, HFV.out]; rintro e w5 ⟨k5, rfl, hp5, ht5, hb5⟩; have P5 : Hid (bkD k5 = bkD a) := hp5; have T5 := Lib.hid ht5; have V5 : Hid (Below ((w.alloc (.cells (bkC a).toArray 32)).alloc (.cells (bkC b).toArray 32)).heap.size ((w.alloc (.cells (bkC a).toArray 32)).alloc (.cells (bkC b).toArray 32)) w5) := nxTr V4.out hb5; have X5 : Hid (Below w4.heap.size w4 w5) := hb5; clear hp5 ht5 hb5)
          | ((with_reducible show wpList _ _ _ (⟨none, .store 32 (.tmp 11) _, _, _, _, _⟩ :: _) _ _); (show wpList _ _ _ _ _ (w5.alloc (.cells Tryz.zeroCells32 32))); refine wpList_store_all rfl 32 (.tmp 11) (.tmp 44) rfl w5.heap.size 32 Tryz.zeroCells32 (bkC k5).toArray rfl rfl (heap_alloc_new w5 _) (by rw [bkZ_row, List.size_toArray, bkC_len T5.out.h.f]) (bkSz' (b := k5) T5.out.h.f) (bkC_one k5) ?_; intro w6 h5 h6 h7; have R6 := Lib.hid (blkR (vs := bkC k5) h5); have X6 : Hid (Below w5.heap.size w5 w6) := belowFresh h6; have V6 : Hid (Below ((w.alloc (.cells (bkC a).toArray 32)).alloc (.cells (bkC b).toArray 32)).heap.size ((w.alloc (.cells (bkC a).toArray 32)).alloc (.cells (bkC b).toArray 32)) w6) := nxTr V5.out X6.out; clear h5 h6 h7)
          | ((with_reducible show wpList _ _ _ (⟨some 50, _, _, _, _, _⟩ :: _) _ _); refine wpList_load_want (by rfl) 32 (.tmp 11) rfl w5.heap.size 0 rfl (bkC k5) _ R6.out Tryz.underlying32 rfl (bkSz (b := k5) T5.out.h.f) ?_)
          | ((with_reducible show wpList _ _ _ (⟨some 51, _, _, _, _, _⟩ :: _) _ _); refine wpList_load_want (by rfl) 32 (.tmp 3) rfl w.heap.size 0 rfl (bkC a) _ (rngB HR.out V6.out Hl0.out) Tryz.underlying32 rfl HZa.out ?_)
          | (go_at_call 8; (with_reducible show Calls _ _ #[.agg (bkC k5).toArray, .agg (bkC a).toArray] _ _); refine (rsame6_any w6 k5 a (T5.out.later X6.out) (HT.out.later V6.out)).mono ?_; unfold BSame; rintro e w7 ⟨zs, rfl, hzs, hb7⟩; obtain rfl : zs = true := hzs.2 P5.out; have V7 : Hid (Below ((w.alloc (.cells (bkC a).toArray 32)).alloc (.cells (bkC b).toArray 32)).heap.size ((w.alloc (.cells (bkC a).toArray 32)).alloc (.cells (bkC b).toArray 32)) w7) := nxTr V6.out hb7; have X7 : Hid (Below w4.heap.size w4 w7) := nxTr (nxTr X5.out X6.out) hb7; clear hzs hb7)
          | (go_at_call 6; (with_reducible show Calls _ _ #[.slice A s.length c] _ _); refine (bof_any w7 (HTb.out.later V7.out) w7.heap.size A s c ((HS.out.later V7.out).more (Nat.le_trans Hb0.out.size V7.out.size)) HLb.out).mono ?_; unfold BOfPost; rw [HK.out]; rintro e w20 ⟨k8, rfl, hp8, ht8, hb8⟩; have P8 : Hid ((k8.h.p, k8.txs.map txP) = bofV s) := hp8; have T8 := Lib.hid ht8; have V20 : Hid (Below ((w.alloc (.cells (bkC a).toArray 32)).alloc (.cells (bkC b).toArray 32)).heap.size ((w.alloc (.cells (bkC a).toArray 32)).alloc (.cells (bkC b).toArray 32)) w20) := nxTr V7.out hb8; clear hp8 ht8 hb8)
          | ((with_reducible show wpList _ _ _ (⟨none, .store 32 (.tmp 13) _, _, _, _, _⟩ :: _) _ _); (show wpList _ _ _ _ _ (w20.alloc (.cells Tryz.zeroCells32 32))); refine wpList_store_all rfl 32 (.tmp 13) (.tmp 92) rfl w20.heap.size 32 Tryz.zeroCells32 (bkC k8).toArray rfl rfl (heap_alloc_new w20 _) (by rw [bkZ_row, List.size_toArray, bkC_len T8.out.h.f]) (bkSz' (b := k8) T8.out.h.f) (bkC_one k8) ?_; intro w21 h5 h6 h7; have R21 := Lib.hid (blkR (vs := bkC k8) h5); have X21 : Hid (Below w20.heap.size w20 w21) := belowFresh h6; have V21 : Hid (Below ((w.alloc (.cells (bkC a).toArray 32)).alloc (.cells (bkC b).toArray 32)).heap.size ((w.alloc (.cells (bkC a).toArray 32)).alloc (.cells (bkC b).toArray 32)) w21) := nxTr V20.out X21.out; clear h5 h6 h7))
        all_goals (first | go_ret | go_show)
        · exact ⟨rfl, nxTr Hb0.out V21.out⟩
        · exact ⟨rfl, nxTr Hb0.out V2.out⟩
  · obtain ⟨nz, lz, uz⟩ := hz
    have ez1 : (z == 0) = false := beq_eq_false_iff_ne.2 nz
    have ez2 : decide (z = 0) = false := decide_eq_false nz
    have ez3 : (z = 0) = False := eq_false nz
    rcases g3 with rfl | hy
    · have hw0 : IntKind.i64.wrap (z + 0) = z := by rw [IntKind.wrap_i64]; omega
      cases k
      case true =>
        go_enter Tryz.func4, Tryz.ntmps4
        go_wp2_with (first
          | (go_at_call 5; refine (known6_any ((w.alloc (.cells (bkC a).toArray 32)).alloc (.cells (bkC b).toArray 32))).mono ?_; rintro e w1 ⟨rfl, hb1⟩; have V1 : Hid (Below ((w.alloc (.cells (bkC a).toArray 32)).alloc (.cells (bkC b).toArray 32)).heap.size ((w.alloc (.cells (bkC a).toArray 32)).alloc (.cells (bkC b).toArray 32)) w1) := hb1; clear hb1)
          | ((with_reducible show wpList _ _ _ (⟨some 19, _, _, _, _, _⟩ :: _) _ _); refine wpList_load_mid rfl 32 (.tmp 3) rfl w.heap.size 0 rfl (bkC a) _ (rngB HR.out V1.out Hl0.out) Tryz.underlying32 rfl HZa.out ?_)
          | ((with_reducible show wpList _ _ _ (⟨some 20, _, _, _, _, _⟩ :: _) _ _); refine wpList_load_mid rfl 32 (.tmp 4) rfl (w.heap.size + 1) 0 rfl (bkC b) _ (rngB HQ.out V1.out Hl1.out) Tryz.underlying32 rfl HZb.out ?_)
          | ((with_reducible show wpList _ _ _ (⟨some 21, _, _, _, _, _⟩ :: _) _ _); refine wpList_build_bk2 rfl (.tmp 19) (.tmp 20) rfl a b HFa.out HFb.out rfl rfl ?_)
          | (go_at_call 10; refine (much62_any (w1.alloc (.cells (bkC a ++ bkC b).toArray 32)) w1.heap.size a b (HT.out.later (nxAl V1.out _)) (HU.out.later (nxAl V1.out _)) (heap_alloc_new w1 _)).mono ?_; rintro e w2 ⟨mz, rfl, hb2⟩; have V2 : Hid (Below ((w.alloc (.cells (bkC a).toArray 32)).alloc (.cells (bkC b).toArray 32)).heap.size ((w.alloc (.cells (bkC a).toArray 32)).alloc (.cells (bkC b).toArray 32)) w2) := nxTr (nxAl V1.out _) hb2; clear hb2; cases mz)
          | ((with_reducible show wpList _ _ _ (⟨some 29, _, _, _, _, _⟩ :: _) _ _); refine wpList_load_mid rfl 32 (.tmp 3) rfl w.heap.size 0 rfl (bkC a) _ (rngB HR.out V2.out Hl0.out) Tryz.underlying32 rfl HZa.out ?_)
          | (go_at_call 11; (with_reducible show Calls _ _ #[.agg (bkC a).toArray] _ _); refine (bbytes_no w2 (HTb.out.later V2.out) a (HT.out.later V2.out) (by rw [HCz.out]; assumption)).mono ?_; rw [HCz.out]; rintro e w3 ⟨rfl, hb⟩; have V3 : Hid (Below ((w.alloc (.cells (bkC a).toArray 32)).alloc (.cells (bkC b).toArray 32)).heap.size ((w.alloc (.cells (bkC a).toArray 32)).alloc (.cells (bkC b).toArray 32)) w3) := nxTr V2.out hb; have V23 : Hid (Below w2.heap.size w2 w3) := hb; clear hb)
          | ((with_reducible show wpList _ _ _ (⟨some 34, _, _, _, _, _⟩ :: _) _ _); refine wpList_load_mid rfl 32 (.tmp 4) rfl (w.heap.size + 1) 0 rfl (bkC b) _ (rngB HQ.out V3.out Hl1.out) Tryz.underlying32 rfl HZb.out ?_)
          | (go_at_call 11; (with_reducible show Calls _ _ #[.agg (bkC b).toArray] _ _); refine (bbytes_yes w3 (HTb.out.later V3.out) b (HU.out.later V3.out) HCy.out).mono ?_; unfold BkBytesPost; rw [HG.out]; rintro e w4 ⟨⟨A4, c4, B4, rfl, hB0, ho⟩, hb⟩; have V4 : Hid (Below ((w.alloc (.cells (bkC a).toArray 32)).alloc (.cells (bkC b).toArray 32)).heap.size ((w.alloc (.cells (bkC a).toArray 32)).alloc (.cells (bkC b).toArray 32)) w4) := nxTr V3.out hb; have V34 : Hid (Below w3.heap.size w3 w4) := hb; have S4 := Lib.hid (Sees.own ho); clear hB0 ho hb)
          | (go_at_call 9; refine (num6_any _ _).mono ?_; rintro e wn ⟨rfl, hwn⟩; obtain rfl := hwn.symm)
          | (go_at_call 6; (with_reducible show Calls _ _ #[.slice A s.length c] _ _); refine (bof_any w4 (HTb.out.later V4.out) w4.heap.size A s c ((HS.out.later V4.out).more (Nat.le_trans Hb0.out.size V4.out.size)) HLb.out).mono ?_; unfold BOfPost; rw [HK.out]; rintro e w20 ⟨k8, rfl, hp8, ht8, hb8⟩; have P8 : Hid ((k8.h.p, k8.txs.map txP) = bofV s) := hp8; have T8 := Lib.hid ht8; have V20 : Hid (Below ((w.alloc (.cells (bkC a).toArray 32)).alloc (.cells (bkC b).toArray 32)).heap.size ((w.alloc (.cells (bkC a).toArray 32)).alloc (.cells (bkC b).toArray 32)) w20) := nxTr V4.out hb8; clear hp8 ht8 hb8)
          | ((with_reducible show wpList _ _ _ (⟨none, .store 32 (.tmp 13) _, _, _, _, _⟩ :: _) _ _); (show wpList _ _ _ _ _ (w20.alloc (.cells Tryz.zeroCells32 32))); refine wpList_store_all rfl 32 (.tmp 13) (.tmp 92) rfl w20.heap.size 32 Tryz.zeroCells32 (bkC k8).toArray rfl rfl (heap_alloc_new w20 _) (by rw [bkZ_row, List.size_toArray, bkC_len T8.out.h.f]) (bkSz' (b := k8) T8.out.h.f) (bkC_one k8) ?_; intro w21 h5 h6 h7; have R21 := Lib.hid (blkR (vs := bkC k8) h5); have X21 : Hid (Below w20.heap.size w20 w21) := belowFresh h6; have V21 : Hid (Below ((w.alloc (.cells (bkC a).toArray 32)).alloc (.cells (bkC b).toArray 32)).heap.size ((w.alloc (.cells (bkC a).toArray 32)).alloc (.cells (bkC b).toArray 32)) w21) := nxTr V20.out X21.out; clear h5 h6 h7)
          | ((with_reducible show wpList _ _ _ (⟨some 98, _, _, _, _, _⟩ :: _) _ _); refine wpList_load_mid rfl 32 (.tmp 13) rfl w20.heap.size 0 rfl (bkC k8) _ R21.out Tryz.underlying32 rfl (bkSz (b := k8) T8.out.h.f) ?_)
          | (go_at_call 11; (with_reducible show Calls _ _ #[.agg (bkC k8).toArray] _ _); refine (bbytes_yes w21 (HTb.out.later V21.out) k8 (T8.out.later X21.out) (bof_back HK.out P8.out).2).mono ?_; unfold BkBytesPost; rw [(bof_back HK.out P8.out).1]; rintro e w22 ⟨⟨A22, c22, B22, rfl, hB0, ho⟩, hb⟩; have V22 : Hid (Below ((w.alloc (.cells (bkC a).toArray 32)).alloc (.cells (bkC b).toArray 32)).heap.size ((w.alloc (.cells (bkC a).toArray 32)).alloc (.cells (bkC b).toArray 32)) w22) := nxTr V21.out hb; have q1 := run_string_sees (P := Tryz.prog) (w := w22) (c := c22) (n := s.length) Tryz.underlying22 Tryz.underlying5 Tryz.underlying9 rfl (Sees.own ho); have q2 := run_string_sees (P := Tryz.prog) (w := w22) (c := c) (n := s.length) Tryz.underlying22 Tryz.underlying5 Tryz.underlying9 rfl (HS.out.later V22.out); clear hB0 ho hb))
        all_goals (first | go_ret | go_show)
        · exact ⟨rfl, nxTr Hb0.out V22.out⟩
        · exact ⟨rfl, nxTr Hb0.out V2.out⟩
      case false =>
        go_enter Tryz.func4, Tryz.ntmps4
        go_wp2_with (first
          | (go_at_call 5; refine (known6_any ((w.alloc (.cells (bkC a).toArray 32)).alloc (.cells (bkC b).toArray 32))).mono ?_; rintro e w1 ⟨rfl, hb1⟩; have V1 : Hid (Below ((w.alloc (.cells (bkC a).toArray 32)).alloc (.cells (bkC b).toArray 32)).heap.size ((w.alloc (.cells (bkC a).toArray 32)).alloc (.cells (bkC b).toArray 32)) w1) := hb1; clear hb1)
          | ((with_reducible show wpList _ _ _ (⟨some 19, _, _, _, _, _⟩ :: _) _ _); refine wpList_load_mid rfl 32 (.tmp 3) rfl w.heap.size 0 rfl (bkC a) _ (rngB HR.out V1.out Hl0.out) Tryz.underlying32 rfl HZa.out ?_)
          | ((with_reducible show wpList _ _ _ (⟨some 20, _, _, _, _, _⟩ :: _) _ _); refine wpList_load_mid rfl 32 (.tmp 4) rfl (w.heap.size + 1) 0 rfl (bkC b) _ (rngB HQ.out V1.out Hl1.out) Tryz.underlying32 rfl HZb.out ?_)
          | ((with_reducible show wpList _ _ _ (⟨some 21, _, _, _, _, _⟩ :: _) _ _); refine wpList_build_bk2 rfl (.tmp 19) (.tmp 20) rfl a b HFa.out HFb.out rfl rfl ?_)
          | (go_at_call 10; refine (much62_any (w1.alloc (.cells (bkC a ++ bkC b).toArray 32)) w1.heap.size a b (HT.out.later (nxAl V1.out _)) (HU.out.later (nxAl V1.out _)) (heap_alloc_new w1 _)).mono ?_; rintro e w2 ⟨mz, rfl, hb2⟩; have V2 : Hid (Below ((w.alloc (.cells (bkC a).toArray 32)).alloc (.cells (bkC b).toArray 32)).heap.size ((w.alloc (.cells (bkC a).toArray 32)).alloc (.cells (bkC b).toArray 32)) w2) := nxTr (nxAl V1.out _) hb2; clear hb2; cases mz)
          | ((with_reducible show wpList _ _ _ (⟨some 29, _, _, _, _, _⟩ :: _) _ _); refine wpList_load_mid rfl 32 (.tmp 3) rfl w.heap.size 0 rfl (bkC a) _ (rngB HR.out V2.out Hl0.out) Tryz.underlying32 rfl HZa.out ?_)
          | (go_at_call 11; (with_reducible show Calls _ _ #[.agg (bkC a).toArray] _ _); refine (bbytes_no w2 (HTb.out.later V2.out) a (HT.out.later V2.out) (by rw [HCz.out]; assumption)).mono ?_; rw [HCz.out]; rintro e w3 ⟨rfl, hb⟩; have V3 : Hid (Below ((w.alloc (.cells (bkC a).toArray 32)).alloc (.cells (bkC b).toArray 32)).heap.size ((w.alloc (.cells (bkC a).toArray 32)).alloc (.cells (bkC b).toArray 32)) w3) := nxTr V2.out hb; have V23 : Hid (Below w2.heap.size w2 w3) := hb; clear hb)
          | ((with_reducible show wpList _ _ _ (⟨some 34, _, _, _, _, _⟩ :: _) _ _); refine wpList_load_mid rfl 32 (.tmp 4) rfl (w.heap.size + 1) 0 rfl (bkC b) _ (rngB HQ.out V3.out Hl1.out) Tryz.underlying32 rfl HZb.out ?_)
          | (go_at_call 11; (with_reducible show Calls _ _ #[.agg (bkC b).toArray] _ _); refine (bbytes_yes w3 (HTb.out.later V3.out) b (HU.out.later V3.out) HCy.out).mono ?_; unfold BkBytesPost; rw [HG.out]; rintro e w4 ⟨⟨A4, c4, B4, rfl, hB0, ho⟩, hb⟩; have V4 : Hid (Below ((w.alloc (.cells (bkC a).toArray 32)).alloc (.cells (bkC b).toArray 32)).heap.size ((w.alloc (.cells (bkC a).toArray 32)).alloc (.cells (bkC b).toArray 32)) w4) := nxTr V3.out hb; have V34 : Hid (Below w3.heap.size w3 w4) := hb; have S4 := Lib.hid (Sees.own ho); clear hB0 ho hb)
          | (go_at_call 9; refine (num6_any _ _).mono ?_; rintro e wn ⟨rfl, hwn⟩; obtain rfl := hwn.symm)
          | (go_at_call 6; (with_reducible show Calls _ _ #[.slice A s.length c] _ _); refine (bof_any w4 (HTb.out.later V4.out) w4.heap.size A s c ((HS.out.later V4.out).more (Nat.le_trans Hb0.out.size V4.out.size)) HLb.out).mono ?_; unfold BOfPost; rw [HK.out]; rintro e w20 ⟨k8, rfl, hp8, ht8, hb8⟩; have P8 : Hid ((k8.h.p, k8.txs.map txP) = bofV s) := hp8; have T8 := Lib.hid ht8; have V20 : Hid (Below ((w.alloc (.cells (bkC a).toArray 32)).alloc (.cells (bkC b).toArray 32)).heap.size ((w.alloc (.cells (bkC a).toArray 32)).alloc (.cells (bkC b).toArray 32)) w20) := nxTr V4.out hb8; clear hp8 ht8 hb8)
          | ((with_reducible show wpList _ _ _ (⟨none, .store 32 (.tmp 13) _, _, _, _, _⟩ :: _) _ _); (show wpList _ _ _ _ _ (w20.alloc (.cells Tryz.zeroCells32 32))); refine wpList_store_all rfl 32 (.tmp 13) (.tmp 92) rfl w20.heap.size 32 Tryz.zeroCells32 (bkC k8).toArray rfl rfl (heap_alloc_new w20 _) (by rw [bkZ_row, List.size_toArray, bkC_len T8.out.h.f]) (bkSz' (b := k8) T8.out.h.f) (bkC_one k8) ?_; intro w21 h5 h6 h7; have R21 := Lib.hid (blkR (vs := bkC k8) h5); have X21 : Hid (Below w20.heap.size w20 w21) := belowFresh h6; have V21 : Hid (Below ((w.alloc (.cells (bkC a).toArray 32)).alloc (.cells (bkC b).toArray 32)).heap.size ((w.alloc (.cells (bkC a).toArray 32)).alloc (.cells (bkC b).toArray 32)) w21) := nxTr V20.out X21.out; clear h5 h6 h7))
        all_goals (first | go_ret | go_show)
        · exact ⟨rfl, nxTr Hb0.out V21.out⟩
        · exact ⟨rfl, nxTr Hb0.out V2.out⟩
    · obtain ⟨ny, ly, uy⟩ := hy
      have ey1 : (y == 0) = false := beq_eq_false_iff_ne.2 ny
      have ey2 : decide (y = 0) = false := decide_eq_false ny
      have ey3 : (y = 0) = False := eq_false ny
      have ns : ¬ z + y = 0 := by omega
      have hw0 : IntKind.i64.wrap (z + y) = z + y := by rw [IntKind.wrap_i64]; omega
      have es1 : (z + y == 0) = false := beq_eq_false_iff_ne.2 ns
      have es2 : decide (z + y = 0) = false := decide_eq_false ns
      have es3 : (z + y = 0) = False := eq_false ns
      cases k
      case true =>
        go_enter Tryz.func4, Tryz.ntmps4
        go_wp2_with (first
          | (go_at_call 5; refine (known6_any ((w.alloc (.cells (bkC a).toArray 32)).alloc (.cells (bkC b).toArray 32))).mono ?_; rintro e w1 ⟨rfl, hb1⟩; have V1 : Hid (Below ((w.alloc (.cells (bkC a).toArray 32)).alloc (.cells (bkC b).toArray 32)).heap.size ((w.alloc (.cells (bkC a).toArray 32)).alloc (.cells (bkC b).toArray 32)) w1) := hb1; clear hb1)
          | ((with_reducible show wpList _ _ _ (⟨some 19, _, _, _, _, _⟩ :: _) _ _); refine wpList_load_mid rfl 32 (.tmp 3) rfl w.heap.size 0 rfl (bkC a) _ (rngB HR.out V1.out Hl0.out) Tryz.underlying32 rfl HZa.out ?_)
          | ((with_reducible show wpList _ _ _ (⟨some 20, _, _, _, _, _⟩ :: _) _ _); refine wpList_load_mid rfl 32 (.tmp 4) rfl (w.heap.size + 1) 0 rfl (bkC b) _ (rngB HQ.out V1.out Hl1.out) Tryz.underlying32 rfl HZb.out ?_)
          | ((with_reducible show wpList _ _ _ (⟨some 21, _, _, _, _, _⟩ :: _) _ _); refine wpList_build_bk2 rfl (.tmp 19) (.tmp 20) rfl a b HFa.out HFb.out rfl rfl ?_)
          | (go_at_call 10; refine (much62_any (w1.alloc (.cells (bkC a ++ bkC b).toArray 32)) w1.heap.size a b (HT.out.later (nxAl V1.out _)) (HU.out.later (nxAl V1.out _)) (heap_alloc_new w1 _)).mono ?_; rintro e w2 ⟨mz, rfl, hb2⟩; have V2 : Hid (Below ((w.alloc (.cells (bkC a).toArray 32)).alloc (.cells (bkC b).toArray 32)).heap.size ((w.alloc (.cells (bkC a).toArray 32)).alloc (.cells (bkC b).toArray 32)) w2) := nxTr (nxAl V1.out _) hb2; clear hb2; cases mz)
          | ((with_reducible show wpList _ _ _ (⟨some 29, _, _, _, _, _⟩ :: _) _ _); refine wpList_load_mid rfl 32 (.tmp 3) rfl w.heap.size 0 rfl (bkC a) _ (rngB HR.out V2.out Hl0.out) Tryz.underlying32 rfl HZa.out ?_)
          | (go_at_call 11; (with_reducible show Calls _ _ #[.agg (bkC a).toArray] _ _); refine (bbytes_no w2 (HTb.out.later V2.out) a (HT.out.later V2.out) (by rw [HCz.out]; assumption)).mono ?_; rw [HCz.out]; rintro e w3 ⟨rfl, hb⟩; have V3 : Hid (Below ((w.alloc (.cells (bkC a).toArray 32)).alloc (.cells (bkC b).toArray 32)).heap.size ((w.alloc (.cells (bkC a).toArray 32)).alloc (.cells (bkC b).toArray 32)) w3) := nxTr V2.out hb; have V23 : Hid (Below w2.heap.size w2 w3) := hb; clear hb)
          | ((with_reducible show wpList _ _ _ (⟨some 34, _, _, _, _, _⟩ :: _) _ _); refine wpList_load_mid rfl 32 (.tmp 4) rfl (w.heap.size + 1) 0 rfl (bkC b) _ (rngB HQ.out V3.out Hl1.out) Tryz.underlying32 rfl HZb.out ?_)
          | (go_at_call 11; (with_reducible show Calls _ _ #[.agg (bkC b).toArray] _ _); refine (bbytes_no w3 (HTb.out.later V3.out) b (HU.out.later V3.out) (by rw [HCy.out]; assumption)).mono ?_; rw [HCy.out]; rintro e w4 ⟨rfl, hb⟩; have V4 : Hid (Below ((w.alloc (.cells (bkC a).toArray 32)).alloc (.cells (bkC b).toArray 32)).heap.size ((w.alloc (.cells (bkC a).toArray 32)).alloc (.cells (bkC b).toArray 32)) w4) := nxTr V3.out hb; have V34 : Hid (Below w3.heap.size w3 w4) := hb; clear hb)
          | (go_at_call 9; refine (num6_any _ _).mono ?_; rintro e wn ⟨rfl, hwn⟩; obtain rfl := hwn.symm)
          | (go_at_call 6; (with_reducible show Calls _ _ #[.slice A s.length c] _ _); refine (bof_any w4 (HTb.out.later V4.out) w4.heap.size A s c ((HS.out.later V4.out).more (Nat.le_trans Hb0.out.size V4.out.size)) HLb.out).mono ?_; unfold BOfPost; rw [HK.out]; rintro e w20 ⟨k8, rfl, hp8, ht8, hb8⟩; have P8 : Hid ((k8.h.p, k8.txs.map txP) = bofV s) := hp8; have T8 := Lib.hid ht8; have V20 : Hid (Below ((w.alloc (.cells (bkC a).toArray 32)).alloc (.cells (bkC b).toArray 32)).heap.size ((w.alloc (.cells (bkC a).toArray 32)).alloc (.cells (bkC b).toArray 32)) w20) := nxTr V4.out hb8; clear hp8 ht8 hb8)
          | ((with_reducible show wpList _ _ _ (⟨none, .store 32 (.tmp 13) _, _, _, _, _⟩ :: _) _ _); (show wpList _ _ _ _ _ (w20.alloc (.cells Tryz.zeroCells32 32))); refine wpList_store_all rfl 32 (.tmp 13) (.tmp 92) rfl w20.heap.size 32 Tryz.zeroCells32 (bkC k8).toArray rfl rfl (heap_alloc_new w20 _) (by rw [bkZ_row, List.size_toArray, bkC_len T8.out.h.f]) (bkSz' (b := k8) T8.out.h.f) (bkC_one k8) ?_; intro w21 h5 h6 h7; have R21 := Lib.hid (blkR (vs := bkC k8) h5); have X21 : Hid (Below w20.heap.size w20 w21) := belowFresh h6; have V21 : Hid (Below ((w.alloc (.cells (bkC a).toArray 32)).alloc (.cells (bkC b).toArray 32)).heap.size ((w.alloc (.cells (bkC a).toArray 32)).alloc (.cells (bkC b).toArray 32)) w21) := nxTr V20.out X21.out; clear h5 h6 h7)
          | ((with_reducible show wpList _ _ _ (⟨some 98, _, _, _, _, _⟩ :: _) _ _); refine wpList_load_mid rfl 32 (.tmp 13) rfl w20.heap.size 0 rfl (bkC k8) _ R21.out Tryz.underlying32 rfl (bkSz (b := k8) T8.out.h.f) ?_)
          | (go_at_call 11; (with_reducible show Calls _ _ #[.agg (bkC k8).toArray] _ _); refine (bbytes_yes w21 (HTb.out.later V21.out) k8 (T8.out.later X21.out) (bof_back HK.out P8.out).2).mono ?_; unfold BkBytesPost; rw [(bof_back HK.out P8.out).1]; rintro e w22 ⟨⟨A22, c22, B22, rfl, hB0, ho⟩, hb⟩; have V22 : Hid (Below ((w.alloc (.cells (bkC a).toArray 32)).alloc (.cells (bkC b).toArray 32)).heap.size ((w.alloc (.cells (bkC a).toArray 32)).alloc (.cells (bkC b).toArray 32)) w22) := nxTr V21.out hb; have q1 := run_string_sees (P := Tryz.prog) (w := w22) (c := c22) (n := s.length) Tryz.underlying22 Tryz.underlying5 Tryz.underlying9 rfl (Sees.own ho); have q2 := run_string_sees (P := Tryz.prog) (w := w22) (c := c) (n := s.length) Tryz.underlying22 Tryz.underlying5 Tryz.underlying9 rfl (HS.out.later V22.out); clear hB0 ho hb))
        all_goals (first | go_ret | go_show)
        · exact ⟨rfl, nxTr Hb0.out V22.out⟩
        · exact ⟨rfl, nxTr Hb0.out V2.out⟩
      case false =>
        go_enter Tryz.func4, Tryz.ntmps4
        go_wp2_with (first
          | (go_at_call 5; refine (known6_any ((w.alloc (.cells (bkC a).toArray 32)).alloc (.cells (bkC b).toArray 32))).mono ?_; rintro e w1 ⟨rfl, hb1⟩; have V1 : Hid (Below ((w.alloc (.cells (bkC a).toArray 32)).alloc (.cells (bkC b).toArray 32)).heap.size ((w.alloc (.cells (bkC a).toArray 32)).alloc (.cells (bkC b).toArray 32)) w1) := hb1; clear hb1)
          | ((with_reducible show wpList _ _ _ (⟨some 19, _, _, _, _, _⟩ :: _) _ _); refine wpList_load_mid rfl 32 (.tmp 3) rfl w.heap.size 0 rfl (bkC a) _ (rngB HR.out V1.out Hl0.out) Tryz.underlying32 rfl HZa.out ?_)
          | ((with_reducible show wpList _ _ _ (⟨some 20, _, _, _, _, _⟩ :: _) _ _); refine wpList_load_mid rfl 32 (.tmp 4) rfl (w.heap.size + 1) 0 rfl (bkC b) _ (rngB HQ.out V1.out Hl1.out) Tryz.underlying32 rfl HZb.out ?_)
          | ((with_reducible show wpList _ _ _ (⟨some 21, _, _, _, _, _⟩ :: _) _ _); refine wpList_build_bk2 rfl (.tmp 19) (.tmp 20) rfl a b HFa.out HFb.out rfl rfl ?_)
          | (go_at_call 10; refine (much62_any (w1.alloc (.cells (bkC a ++ bkC b).toArray 32)) w1.heap.size a b (HT.out.later (nxAl V1.out _)) (HU.out.later (nxAl V1.out _)) (heap_alloc_new w1 _)).mono ?_; rintro e w2 ⟨mz, rfl, hb2⟩; have V2 : Hid (Below ((w.alloc (.cells (bkC a).toArray 32)).alloc (.cells (bkC b).toArray 32)).heap.size ((w.alloc (.cells (bkC a).toArray 32)).alloc (.cells (bkC b).toArray 32)) w2) := nxTr (nxAl V1.out _) hb2; clear hb2; cases mz)
          | ((with_reducible show wpList _ _ _ (⟨some 29, _, _, _, _, _⟩ :: _) _ _); refine wpList_load_mid rfl 32 (.tmp 3) rfl w.heap.size 0 rfl (bkC a) _ (rngB HR.out V2.out Hl0.out) Tryz.underlying32 rfl HZa.out ?_)
          | (go_at_call 11; (with_reducible show Calls _ _ #[.agg (bkC a).toArray] _ _); refine (bbytes_no w2 (HTb.out.later V2.out) a (HT.out.later V2.out) (by rw [HCz.out]; assumption)).mono ?_; rw [HCz.out]; rintro e w3 ⟨rfl, hb⟩; have V3 : Hid (Below ((w.alloc (.cells (bkC a).toArray 32)).alloc (.cells (bkC b).toArray 32)).heap.size ((w.alloc (.cells (bkC a).toArray 32)).alloc (.cells (bkC b).toArray 32)) w3) := nxTr V2.out hb; have V23 : Hid (Below w2.heap.size w2 w3) := hb; clear hb)
          | ((with_reducible show wpList _ _ _ (⟨some 34, _, _, _, _, _⟩ :: _) _ _); refine wpList_load_mid rfl 32 (.tmp 4) rfl (w.heap.size + 1) 0 rfl (bkC b) _ (rngB HQ.out V3.out Hl1.out) Tryz.underlying32 rfl HZb.out ?_)
          | (go_at_call 11; (with_reducible show Calls _ _ #[.agg (bkC b).toArray] _ _); refine (bbytes_no w3 (HTb.out.later V3.out) b (HU.out.later V3.out) (by rw [HCy.out]; assumption)).mono ?_; rw [HCy.out]; rintro e w4 ⟨rfl, hb⟩; have V4 : Hid (Below ((w.alloc (.cells (bkC a).toArray 32)).alloc (.cells (bkC b).toArray 32)).heap.size ((w.alloc (.cells (bkC a).toArray 32)).alloc (.cells (bkC b).toArray 32)) w4) := nxTr V3.out hb; have V34 : Hid (Below w3.heap.size w3 w4) := hb; clear hb)
          | (go_at_call 9; refine (num6_any _ _).mono ?_; rintro e wn ⟨rfl, hwn⟩; obtain rfl := hwn.symm)
          | (go_at_call 6; (with_reducible show Calls _ _ #[.slice A s.length c] _ _); refine (bof_any w4 (HTb.out.later V4.out) w4.heap.size A s c ((HS.out.later V4.out).more (Nat.le_trans Hb0.out.size V4.out.size)) HLb.out).mono ?_; unfold BOfPost; rw [HK.out]; rintro e w20 ⟨k8, rfl, hp8, ht8, hb8⟩; have P8 : Hid ((k8.h.p, k8.txs.map txP) = bofV s) := hp8; have T8 := Lib.hid ht8; have V20 : Hid (Below ((w.alloc (.cells (bkC a).toArray 32)).alloc (.cells (bkC b).toArray 32)).heap.size ((w.alloc (.cells (bkC a).toArray 32)).alloc (.cells (bkC b).toArray 32)) w20) := nxTr V4.out hb8; clear hp8 ht8 hb8)
          | ((with_reducible show wpList _ _ _ (⟨none, .store 32 (.tmp 13) _, _, _, _, _⟩ :: _) _ _); (show wpList _ _ _ _ _ (w20.alloc (.cells Tryz.zeroCells32 32))); refine wpList_store_all rfl 32 (.tmp 13) (.tmp 92) rfl w20.heap.size 32 Tryz.zeroCells32 (bkC k8).toArray rfl rfl (heap_alloc_new w20 _) (by rw [bkZ_row, List.size_toArray, bkC_len T8.out.h.f]) (bkSz' (b := k8) T8.out.h.f) (bkC_one k8) ?_; intro w21 h5 h6 h7; have R21 := Lib.hid (blkR (vs := bkC k8) h5); have X21 : Hid (Below w20.heap.size w20 w21) := belowFresh h6; have V21 : Hid (Below ((w.alloc (.cells (bkC a).toArray 32)).alloc (.cells (bkC b).toArray 32)).heap.size ((w.alloc (.cells (bkC a).toArray 32)).alloc (.cells (bkC b).toArray 32)) w21) := nxTr V20.out X21.out; clear h5 h6 h7))
        all_goals (first | go_ret | go_show)
        · exact ⟨rfl, nxTr Hb0.out V21.out⟩
        · exact ⟨rfl, nxTr Hb0.out V2.out⟩
end Go.Proofs.YtbloomnifhcgbaaGreatDoor
