/-
  tx: Much, of two transactions: it answers, and changes nothing; where it says no, the first one has not many inputs and outputs.
-/
import Derived.Test.YtjcbihdhkaiidaaTrA
import Derived.Deep.RegionHeldLaw
import Derived.Deep.RegionHeld3
namespace Go.Proofs.Ytjcbihdhkaiidaa
open Go.RowKit

set_option maxHeartbeats 4000000 in
set_option maxRecDepth 100000 in
theorem much2b_any (w : World) (bm : Nat) (t u : TxR) (ht : TxOk w t) (hu : TxOk w u) (hB : Blk w bm 37 (txC t ++ txC u).toArray) : Calls Try.prog 11 #[.slice (some ⟨bm, 0, none⟩) 2 2, .int .i64 2] w fun e w' => ∃ z : Bool, e = .returned (.bool z) ∧ (z = false → t.ins.length ≤ 600 ∧ t.outs.length ≤ 600) ∧ Below w.heap.size w w' := by
  have HT := Lib.hid ht
  have HU := Lib.hid hu
  have HC : Hid (w.cell? ⟨bm, 0, none⟩ = some (.slice t.A t.ins.length t.c) ∧ w.cell? ⟨bm, 1, none⟩ = some (.slice t.B t.outs.length t.d) ∧ w.cell? ⟨bm, 3, none⟩ = some (.slice u.A u.ins.length u.c) ∧ w.cell? ⟨bm, 4, none⟩ = some (.slice u.B u.outs.length u.d) ∧ bm < w.heap.size) := ⟨hB.cell 0, hB.cell 1, hB.cell 3, hB.cell 4, hB.lt⟩
  clear ht hu hB
  go_enter Try.func11, Try.ntmps11
  go_wp2
  go_loopw [5, 6] (fun nv iv wr => ∃ (i : Nat) (v : Int), i ≤ 2 ∧ iv = .int .i64 i ∧ nv = .int .i64 v ∧ Hid ((i = 0 → v = 0) ∧ (0 < i → t.ins.length ≤ 600 ∧ t.outs.length ≤ 600)) ∧ Hid (Below w.heap.size w wr)) (fun _ iv _ => 2 - (intOf iv).toNat)
  case atStart => exact ⟨0, 0, by omega, rfl, rfl, ⟨fun _ => rfl, fun h => by omega⟩, nxRf w⟩
  case round =>
    obtain ⟨i, v, hi, rfl, rfl, HW, Hb⟩ := hrel
    by_cases hi2 : i = 2
    · subst hi2
      go_wp2
      go_ret
      exact ⟨_, rfl, fun _ => HW.out.2 (by omega), Hb.out⟩
    · by_cases hi0 : i = 0
      · subst hi0
        obtain rfl : v = 0 := HW.out.1 rfl
        obtain ⟨l, hl⟩ : ∃ l, t.ins = l := ⟨_, rfl⟩
        obtain ⟨no, hno⟩ : ∃ l, t.outs.length = l := ⟨_, rfl⟩
        have hc0 : wr.cell? ⟨bm, 0, none⟩ = some (.slice t.A l.length t.c) := by rw [← hl]; exact (Hb.out.cell (p := ⟨bm, 0, none⟩) HC.out.2.2.2.2).trans HC.out.1
        have hc1 : wr.cell? ⟨bm, 1, none⟩ = some (.slice t.B no t.d) := by rw [← hno]; exact (Hb.out.cell (p := ⟨bm, 1, none⟩) HC.out.2.2.2.2).trans HC.out.2.1
        have hmi : l.length ≤ 140737488355328 := by rw [← hl]; exact HT.out.mi
        have HI : Hid (∀ j ∈ l, j.id.length = 32 ∧ j.wit.length ≤ 140737488355328) := fun j hj => by rw [← hl] at hj; exact ⟨(HT.out.each j hj).id, (HT.out.each j hj).m⟩
        have HIS : Hid (SeesV w w.heap.size t.A (insC l)) := by show SeesV _ _ _ _; rw [← hl]; exact HT.out.ins
        have HC0 := Lib.hid hc0
        have HC1 := Lib.hid hc1
        have HLL : Hid (t.ins.length = l.length) := by show _ = _; rw [hl]
        have HNO : Hid (t.outs.length = no) := hno
        clear hl hno hc1
        have hmo : no ≤ 140737488355328 := by rw [← HNO.out]; exact HT.out.mo
        have hq1 : IntKind.i64.wrap (l.length : Int) = (l.length : Int) := by rw [IntKind.wrap_i64]; omega
        have hq2 : IntKind.i64.wrap ((l.length : Int) + (no : Int)) = (l.length : Int) + (no : Int) := by rw [IntKind.wrap_i64]; omega
        go_wp2_with fail
        refine wp_region_held_drew (S := fun W => W.cell? ⟨bm, 0, none⟩ = some (.slice t.A l.length t.c) ∧ W.cell? ⟨bm, 1, none⟩ = some (.slice t.B no t.d)) (by kernel_rfl) ⟨HC0.out, HC1.out⟩ (fun hHeld => ?_)
        refine wpAnyH_take (i := 0) (oi := ⟨_, _, _, _, _, _⟩) (v := ?_) rfl (by kernel_rfl) (by kernel_rfl) (by kernel_rfl) (fun _ _ _ h => h) (Or.inl ⟨by rfl, ?_⟩) (by assumption) ?_
        rotate_left 1
        · intro W hSw
          try dsimp only at hSw
          go_simp
          try with_reducible rfl
        try simp only [Act.put, List.setIfInBounds_toArray, List.set_cons_zero, List.set_cons_succ]
        refine wpAnyH_take (i := 1) (oi := ⟨_, _, _, _, _, _⟩) (v := ?_) rfl (by kernel_rfl) (by kernel_rfl) (by kernel_rfl) (fun _ _ _ h => h) (Or.inl ⟨by rfl, ?_⟩) (by assumption) ?_
        rotate_left 1
        · intro W hSw
          try dsimp only at hSw
          go_simp
          try with_reducible rfl
        try simp only [Act.put, List.setIfInBounds_toArray, List.set_cons_zero, List.set_cons_succ]
        refine wpAnyH_take (i := 2) (oi := ⟨_, _, _, _, _, _⟩) (v := ?_) rfl (by kernel_rfl) (by kernel_rfl) (by kernel_rfl) (fun _ _ _ h => h) (Or.inl ⟨by rfl, ?_⟩) (by assumption) ?_
        rotate_left 1
        · intro W hSw
          try dsimp only at hSw
          go_simp
          try with_reducible rfl
        try simp only [Act.put, List.setIfInBounds_toArray, List.set_cons_zero, List.set_cons_succ]
        refine wpAnyH_take (i := 3) (oi := ⟨_, _, _, _, _, _⟩) (v := ?_) rfl (by kernel_rfl) (by kernel_rfl) (by kernel_rfl) (fun _ _ _ h => h) (Or.inl ⟨by rfl, ?_⟩) (by assumption) ?_
        rotate_left 1
        · intro W hSw
          try dsimp only at hSw
          go_simp
          try with_reducible rfl
        try simp only [Act.put, List.setIfInBounds_toArray, List.set_cons_zero, List.set_cons_succ]
        refine wpAnyH_take (i := 4) (oi := ⟨_, _, _, _, _, _⟩) (v := ?_) rfl (by kernel_rfl) (by kernel_rfl) (by kernel_rfl) (fun _ _ _ h => h) (Or.inl ⟨by rfl, ?_⟩) (by assumption) ?_
        rotate_left 1
        · intro W hSw
          try dsimp only at hSw
          go_simp
          try with_reducible rfl
        try simp only [Act.put, List.setIfInBounds_toArray, List.set_cons_zero, List.set_cons_succ]
        refine wpAnyH_take (i := 5) (oi := ⟨_, _, _, _, _, _⟩) (v := ?_) rfl (by kernel_rfl) (by kernel_rfl) (by kernel_rfl) (fun _ _ _ h => h) (Or.inl ⟨by rfl, ?_⟩) (by assumption) ?_
        rotate_left 1
        · intro W hSw
          try dsimp only at hSw
          go_simp
          try with_reducible rfl
        try simp only [Act.put, List.setIfInBounds_toArray, List.set_cons_zero, List.set_cons_succ]
        refine wpAnyH_take (i := 6) (oi := ⟨_, _, _, _, _, _⟩) (v := ?_) rfl (by kernel_rfl) (by kernel_rfl) (by kernel_rfl) (fun _ _ _ h => h) (Or.inl ⟨by rfl, ?_⟩) (by assumption) ?_
        rotate_left 1
        · intro W hSw
          try dsimp only at hSw
          go_simp
          try with_reducible rfl
        try simp only [Act.put, List.setIfInBounds_toArray, List.set_cons_zero, List.set_cons_succ]
        refine wpAnyH_take (i := 7) (oi := ⟨_, _, _, _, _, _⟩) (v := ?_) rfl (by kernel_rfl) (by kernel_rfl) (by kernel_rfl) (fun _ _ _ h => h) (Or.inl ⟨by rfl, ?_⟩) (by assumption) ?_
        rotate_left 1
        · intro W hSw
          try dsimp only at hSw
          go_simp
          try with_reducible rfl
        try simp only [Act.put, List.setIfInBounds_toArray, List.set_cons_zero, List.set_cons_succ]
        refine wpAnyH_take (i := 8) (oi := ⟨_, _, _, _, _, _⟩) (v := ?_) rfl (by kernel_rfl) (by kernel_rfl) (by kernel_rfl) (fun _ _ _ h => h) (Or.inl ⟨by rfl, ?_⟩) (by assumption) ?_
        rotate_left 1
        · intro W hSw
          try dsimp only at hSw
          go_simp
          try with_reducible rfl
        try simp only [Act.put, List.setIfInBounds_toArray, List.set_cons_zero, List.set_cons_succ]
        refine wpAnyH_take (i := 9) (oi := ⟨_, _, _, _, _, _⟩) (v := ?_) rfl (by kernel_rfl) (by kernel_rfl) (by kernel_rfl) (fun _ _ _ h => h) (Or.inl ⟨by rfl, ?_⟩) (by assumption) ?_
        rotate_left 1
        · intro W hSw
          try dsimp only at hSw
          go_simp
          try with_reducible rfl
        try simp only [Act.put, List.setIfInBounds_toArray, List.set_cons_zero, List.set_cons_succ]
        refine wpAnyH_take (i := 10) (oi := ⟨_, _, _, _, _, _⟩) (v := ?_) rfl (by kernel_rfl) (by kernel_rfl) (by kernel_rfl) (fun _ _ _ h => h) (Or.inl ⟨by rfl, ?_⟩) (by assumption) ?_
        rotate_left 1
        · intro W hSw
          try dsimp only at hSw
          go_simp
          try with_reducible rfl
        try simp only [Act.put, List.setIfInBounds_toArray, List.set_cons_zero, List.set_cons_succ]
        refine wpAnyH_take (i := 11) (oi := ⟨_, _, _, _, _, _⟩) (v := ?_) rfl (by kernel_rfl) (by kernel_rfl) (by kernel_rfl) (fun _ _ _ h => h) (Or.inl ⟨by rfl, ?_⟩) (by assumption) ?_
        rotate_left 1
        · intro W hSw
          try dsimp only at hSw
          go_simp
          try with_reducible rfl
        try simp only [Act.put, List.setIfInBounds_toArray, List.set_cons_zero, List.set_cons_succ]
        refine wpAnyH_take (i := 12) (oi := ⟨_, _, _, _, _, _⟩) (v := ?_) rfl (by kernel_rfl) (by kernel_rfl) (by kernel_rfl) (fun _ _ _ h => h) (Or.inl ⟨by rfl, ?_⟩) (by assumption) ?_
        rotate_left 1
        · intro W hSw
          try dsimp only at hSw
          go_simp
          try with_reducible rfl
        try simp only [Act.put, List.setIfInBounds_toArray, List.set_cons_zero, List.set_cons_succ]
        refine wpAnyH_take (i := 13) (oi := ⟨_, _, _, _, _, _⟩) (v := ?_) rfl (by kernel_rfl) (by kernel_rfl) (by kernel_rfl) (fun _ _ _ h => h) (Or.inl ⟨by rfl, ?_⟩) (by assumption) ?_
        rotate_left 1
        · intro W hSw
          try dsimp only at hSw
          go_simp
          try with_reducible rfl
        try simp only [Act.put, List.setIfInBounds_toArray, List.set_cons_zero, List.set_cons_succ]
        refine wpAnyH_take (i := 14) (oi := ⟨_, _, _, _, _, _⟩) (v := ?_) rfl (by kernel_rfl) (by kernel_rfl) (by kernel_rfl) (fun _ _ _ h => h) (Or.inl ⟨by rfl, ?_⟩) (by assumption) ?_
        rotate_left 1
        · intro W hSw
          try dsimp only at hSw
          go_simp
          try with_reducible rfl
        try simp only [Act.put, List.setIfInBounds_toArray, List.set_cons_zero, List.set_cons_succ]
        refine wpAnyH_take (i := 15) (oi := ⟨_, _, _, _, _, _⟩) (v := ?_) rfl (by kernel_rfl) (by kernel_rfl) (by kernel_rfl) (fun _ _ _ h => h) (Or.inl ⟨by rfl, ?_⟩) (by assumption) ?_
        rotate_left 1
        · intro W hSw
          try dsimp only at hSw
          go_simp
          try with_reducible rfl
        try simp only [Act.put, List.setIfInBounds_toArray, List.set_cons_zero, List.set_cons_succ]
        refine wpAnyH_done (by kernel_rfl) ?_ _
        clear hq1
        go_wp2
        clear hc0 hHeld
        obtain ⟨N0, hN0⟩ : ∃ N, l.length + no = N := ⟨_, rfl⟩
        have HN0 := Lib.hid hN0
        have hnn : (l.length : Int) + (no : Int) = (N0 : Int) := by omega
        have hN1 : N0 ≤ 281474976710656 := by omega
        rw [hnn]
        clear hN0 hnn hq2
        go_loopw [5, 7] (fun nv kv wt => ∃ (k s : Nat), k ≤ l.length ∧ k ≤ 301 ∧ kv = .int .i64 k ∧ nv = .int .i64 ((N0 + s : Nat) : Int) ∧ s ≤ 601 * k ∧ Hid (Below w.heap.size w wt)) (fun _ kv _ => l.length - (intOf kv).toNat)
        case atStart => exact ⟨0, 0, by omega, by omega, rfl, rfl, by omega, Hb.out.drew⟩
        case round =>
          clear HC0 HC1 Hb
          obtain ⟨k, s, hk, hk3, rfl, rfl, hs, Hb⟩ := hrel
          have hc0 : wr.cell? ⟨bm, 0, none⟩ = some (.slice t.A l.length t.c) := by
            rw [← HLL.out]; exact (Hb.out.cell (p := ⟨bm, 0, none⟩) HC.out.2.2.2.2).trans HC.out.1
          by_cases hlt : k < l.length
          · have hin : (k : Int) < (l.length : Int) := by omega
            by_cases hle : k ≤ 300
            · have hlb : (k : Int) ≤ 300 := by omega
              obtain ⟨b, off, hA, hbb, hr⟩ := insC_row HIS.out (fun i h => (HI.out i h).1) (by omega)
              rw [hA] at hc0
              have hrk := rngB (hr k hlt) Hb.out hbb
              have hik := HI.out _ (List.getElem_mem hlt)
              obtain ⟨x, hx⟩ : ∃ x, l[k] = x := ⟨_, rfl⟩
              rw [hx] at hrk hik
              have hw33 : wr.cell? ⟨b, off + k * 34 + 33, none⟩ = some (.slice x.A x.wit.length x.c) := hrk 33 _ (inC_at hik.1).2
              have hwm := hik.2
              clear hr hrk hik hx hA
              by_cases hmn : (30001 : Int) < (x.wit.length : Int)
              · go_wp2
                go_roundw
                case rel => exact ⟨k + 1, s + min x.wit.length 30001 / 50, by omega, by omega, by go_num, (by congr 1; first | omega | (rw [Int.tdiv_eq_ediv_of_nonneg (by omega)]; omega)), by omega, Hb.out⟩
                case measure => simp [intOf] <;> omega
              · go_wp2
                go_roundw
                case rel => exact ⟨k + 1, s + min x.wit.length 30001 / 50, by omega, by omega, by go_num, (by congr 1; first | omega | (rw [Int.tdiv_eq_ediv_of_nonneg (by omega)]; omega)), by omega, Hb.out⟩
                case measure => simp [intOf] <;> omega
            · have hgb : decide ((k : Int) ≤ 300) = false := decide_eq_false (by omega)
              by_cases hg : (600 : Int) < ((N0 + s : Nat) : Int)
              · go_wp2
                go_ret
                exact ⟨_, rfl, fun h => by simp at h, Hb.out⟩
              · go_wp2
                go_roundw
                case rel => exact ⟨1, ((N0 + s : Nat) : Int), by omega, by go_num, rfl, ⟨fun h => by omega, fun _ => by have := HLL.out; have := HNO.out; have := HN0.out; omega⟩, Hb.out⟩
                case measure => simp [intOf] <;> omega
          · obtain rfl : k = l.length := by omega
            by_cases hg : (600 : Int) < ((N0 + s : Nat) : Int)
            · go_wp2
              go_ret
              exact ⟨_, rfl, fun h => by simp at h, Hb.out⟩
            · go_wp2
              go_roundw
              case rel => exact ⟨1, ((N0 + s : Nat) : Int), by omega, by go_num, rfl, ⟨fun h => by omega, fun _ => by have := HLL.out; have := HNO.out; have := HN0.out; omega⟩, Hb.out⟩
              case measure => simp [intOf] <;> omega
      · obtain rfl : i = 1 := by omega
        have HW1 := Lib.hid (HW.out.2 (by omega))
        obtain ⟨l, hl⟩ : ∃ l, u.ins = l := ⟨_, rfl⟩
        obtain ⟨no, hno⟩ : ∃ l, u.outs.length = l := ⟨_, rfl⟩
        have hc0 : wr.cell? ⟨bm, 3, none⟩ = some (.slice u.A l.length u.c) := by rw [← hl]; exact (Hb.out.cell (p := ⟨bm, 3, none⟩) HC.out.2.2.2.2).trans HC.out.2.2.1
        have hc1 : wr.cell? ⟨bm, 4, none⟩ = some (.slice u.B no u.d) := by rw [← hno]; exact (Hb.out.cell (p := ⟨bm, 4, none⟩) HC.out.2.2.2.2).trans HC.out.2.2.2.1
        have hmi : l.length ≤ 140737488355328 := by rw [← hl]; exact HU.out.mi
        have HI : Hid (∀ j ∈ l, j.id.length = 32 ∧ j.wit.length ≤ 140737488355328) := fun j hj => by rw [← hl] at hj; exact ⟨(HU.out.each j hj).id, (HU.out.each j hj).m⟩
        have HIS : Hid (SeesV w w.heap.size u.A (insC l)) := by show SeesV _ _ _ _; rw [← hl]; exact HU.out.ins
        have HC0 := Lib.hid hc0
        have HC1 := Lib.hid hc1
        have HLL : Hid (u.ins.length = l.length) := by show _ = _; rw [hl]
        clear hl hno hc1
        go_wp2_with fail
        refine wp_region_held_drew (S := fun W => W.cell? ⟨bm, 3, none⟩ = some (.slice u.A l.length u.c) ∧ W.cell? ⟨bm, 4, none⟩ = some (.slice u.B no u.d)) (by kernel_rfl) ⟨HC0.out, HC1.out⟩ (fun hHeld => ?_)
        refine wpAnyH_take (i := 0) (oi := ⟨_, _, _, _, _, _⟩) (v := ?_) rfl (by kernel_rfl) (by kernel_rfl) (by kernel_rfl) (fun _ _ _ h => h) (Or.inl ⟨by rfl, ?_⟩) (by assumption) ?_
        rotate_left 1
        · intro W hSw
          try dsimp only at hSw
          go_simp
          try with_reducible rfl
        try simp only [Act.put, List.setIfInBounds_toArray, List.set_cons_zero, List.set_cons_succ]
        refine wpAnyH_take (i := 1) (oi := ⟨_, _, _, _, _, _⟩) (v := ?_) rfl (by kernel_rfl) (by kernel_rfl) (by kernel_rfl) (fun _ _ _ h => h) (Or.inl ⟨by rfl, ?_⟩) (by assumption) ?_
        rotate_left 1
        · intro W hSw
          try dsimp only at hSw
          go_simp
          try with_reducible rfl
        try simp only [Act.put, List.setIfInBounds_toArray, List.set_cons_zero, List.set_cons_succ]
        refine wpAnyH_take (i := 2) (oi := ⟨_, _, _, _, _, _⟩) (v := ?_) rfl (by kernel_rfl) (by kernel_rfl) (by kernel_rfl) (fun _ _ _ h => h) (Or.inl ⟨by rfl, ?_⟩) (by assumption) ?_
        rotate_left 1
        · intro W hSw
          try dsimp only at hSw
          go_simp
          try with_reducible rfl
        try simp only [Act.put, List.setIfInBounds_toArray, List.set_cons_zero, List.set_cons_succ]
        refine wpAnyH_take (i := 3) (oi := ⟨_, _, _, _, _, _⟩) (v := ?_) rfl (by kernel_rfl) (by kernel_rfl) (by kernel_rfl) (fun _ _ _ h => h) (Or.inl ⟨by rfl, ?_⟩) (by assumption) ?_
        rotate_left 1
        · intro W hSw
          try dsimp only at hSw
          go_simp
          try with_reducible rfl
        try simp only [Act.put, List.setIfInBounds_toArray, List.set_cons_zero, List.set_cons_succ]
        refine wpAnyH_take (i := 4) (oi := ⟨_, _, _, _, _, _⟩) (v := ?_) rfl (by kernel_rfl) (by kernel_rfl) (by kernel_rfl) (fun _ _ _ h => h) (Or.inl ⟨by rfl, ?_⟩) (by assumption) ?_
        rotate_left 1
        · intro W hSw
          try dsimp only at hSw
          go_simp
          try with_reducible rfl
        try simp only [Act.put, List.setIfInBounds_toArray, List.set_cons_zero, List.set_cons_succ]
        refine wpAnyH_take (i := 5) (oi := ⟨_, _, _, _, _, _⟩) (v := ?_) rfl (by kernel_rfl) (by kernel_rfl) (by kernel_rfl) (fun _ _ _ h => h) (Or.inl ⟨by rfl, ?_⟩) (by assumption) ?_
        rotate_left 1
        · intro W hSw
          try dsimp only at hSw
          go_simp
          try with_reducible rfl
        try simp only [Act.put, List.setIfInBounds_toArray, List.set_cons_zero, List.set_cons_succ]
        refine wpAnyH_take (i := 6) (oi := ⟨_, _, _, _, _, _⟩) (v := ?_) rfl (by kernel_rfl) (by kernel_rfl) (by kernel_rfl) (fun _ _ _ h => h) (Or.inl ⟨by rfl, ?_⟩) (by assumption) ?_
        rotate_left 1
        · intro W hSw
          try dsimp only at hSw
          go_simp
          try with_reducible rfl
        try simp only [Act.put, List.setIfInBounds_toArray, List.set_cons_zero, List.set_cons_succ]
        refine wpAnyH_take (i := 7) (oi := ⟨_, _, _, _, _, _⟩) (v := ?_) rfl (by kernel_rfl) (by kernel_rfl) (by kernel_rfl) (fun _ _ _ h => h) (Or.inl ⟨by rfl, ?_⟩) (by assumption) ?_
        rotate_left 1
        · intro W hSw
          try dsimp only at hSw
          go_simp
          try with_reducible rfl
        try simp only [Act.put, List.setIfInBounds_toArray, List.set_cons_zero, List.set_cons_succ]
        refine wpAnyH_take (i := 8) (oi := ⟨_, _, _, _, _, _⟩) (v := ?_) rfl (by kernel_rfl) (by kernel_rfl) (by kernel_rfl) (fun _ _ _ h => h) (Or.inl ⟨by rfl, ?_⟩) (by assumption) ?_
        rotate_left 1
        · intro W hSw
          try dsimp only at hSw
          go_simp
          try with_reducible rfl
        try simp only [Act.put, List.setIfInBounds_toArray, List.set_cons_zero, List.set_cons_succ]
        refine wpAnyH_take (i := 9) (oi := ⟨_, _, _, _, _, _⟩) (v := ?_) rfl (by kernel_rfl) (by kernel_rfl) (by kernel_rfl) (fun _ _ _ h => h) (Or.inl ⟨by rfl, ?_⟩) (by assumption) ?_
        rotate_left 1
        · intro W hSw
          try dsimp only at hSw
          go_simp
          try with_reducible rfl
        try simp only [Act.put, List.setIfInBounds_toArray, List.set_cons_zero, List.set_cons_succ]
        refine wpAnyH_take (i := 10) (oi := ⟨_, _, _, _, _, _⟩) (v := ?_) rfl (by kernel_rfl) (by kernel_rfl) (by kernel_rfl) (fun _ _ _ h => h) (Or.inl ⟨by rfl, ?_⟩) (by assumption) ?_
        rotate_left 1
        · intro W hSw
          try dsimp only at hSw
          go_simp
          try with_reducible rfl
        try simp only [Act.put, List.setIfInBounds_toArray, List.set_cons_zero, List.set_cons_succ]
        refine wpAnyH_take (i := 11) (oi := ⟨_, _, _, _, _, _⟩) (v := ?_) rfl (by kernel_rfl) (by kernel_rfl) (by kernel_rfl) (fun _ _ _ h => h) (Or.inl ⟨by rfl, ?_⟩) (by assumption) ?_
        rotate_left 1
        · intro W hSw
          try dsimp only at hSw
          go_simp
          try with_reducible rfl
        try simp only [Act.put, List.setIfInBounds_toArray, List.set_cons_zero, List.set_cons_succ]
        refine wpAnyH_take (i := 12) (oi := ⟨_, _, _, _, _, _⟩) (v := ?_) rfl (by kernel_rfl) (by kernel_rfl) (by kernel_rfl) (fun _ _ _ h => h) (Or.inl ⟨by rfl, ?_⟩) (by assumption) ?_
        rotate_left 1
        · intro W hSw
          try dsimp only at hSw
          go_simp
          try with_reducible rfl
        try simp only [Act.put, List.setIfInBounds_toArray, List.set_cons_zero, List.set_cons_succ]
        refine wpAnyH_take (i := 13) (oi := ⟨_, _, _, _, _, _⟩) (v := ?_) rfl (by kernel_rfl) (by kernel_rfl) (by kernel_rfl) (fun _ _ _ h => h) (Or.inl ⟨by rfl, ?_⟩) (by assumption) ?_
        rotate_left 1
        · intro W hSw
          try dsimp only at hSw
          go_simp
          try with_reducible rfl
        try simp only [Act.put, List.setIfInBounds_toArray, List.set_cons_zero, List.set_cons_succ]
        refine wpAnyH_take (i := 14) (oi := ⟨_, _, _, _, _, _⟩) (v := ?_) rfl (by kernel_rfl) (by kernel_rfl) (by kernel_rfl) (fun _ _ _ h => h) (Or.inl ⟨by rfl, ?_⟩) (by assumption) ?_
        rotate_left 1
        · intro W hSw
          try dsimp only at hSw
          go_simp
          try with_reducible rfl
        try simp only [Act.put, List.setIfInBounds_toArray, List.set_cons_zero, List.set_cons_succ]
        refine wpAnyH_take (i := 15) (oi := ⟨_, _, _, _, _, _⟩) (v := ?_) rfl (by kernel_rfl) (by kernel_rfl) (by kernel_rfl) (fun _ _ _ h => h) (Or.inl ⟨by rfl, ?_⟩) (by assumption) ?_
        rotate_left 1
        · intro W hSw
          try dsimp only at hSw
          go_simp
          try with_reducible rfl
        try simp only [Act.put, List.setIfInBounds_toArray, List.set_cons_zero, List.set_cons_succ]
        refine wpAnyH_done (by kernel_rfl) ?_ _
        go_wp2
        clear hc0 hHeld
        go_loopw [5, 7] (fun nv kv wt => ∃ (k : Nat) (v2 : Int), k ≤ l.length ∧ k ≤ 301 ∧ kv = .int .i64 k ∧ nv = .int .i64 v2 ∧ Hid (Below w.heap.size w wt)) (fun _ kv _ => l.length - (intOf kv).toNat)
        case atStart => exact ⟨0, _, by omega, by omega, rfl, rfl, Hb.out.drew⟩
        case round =>
          clear HC0 HC1 Hb
          obtain ⟨k, v2, hk, hk3, rfl, rfl, Hb⟩ := hrel
          have hc0 : wr.cell? ⟨bm, 3, none⟩ = some (.slice u.A l.length u.c) := by
            rw [← HLL.out]; exact (Hb.out.cell (p := ⟨bm, 3, none⟩) HC.out.2.2.2.2).trans HC.out.2.2.1
          by_cases hlt : k < l.length
          · have hin : (k : Int) < (l.length : Int) := by omega
            by_cases hle : k ≤ 300
            · have hlb : (k : Int) ≤ 300 := by omega
              obtain ⟨b, off, hA, hbb, hr⟩ := insC_row HIS.out (fun i h => (HI.out i h).1) (by omega)
              rw [hA] at hc0
              have hrk := rngB (hr k hlt) Hb.out hbb
              have hik := HI.out _ (List.getElem_mem hlt)
              obtain ⟨x, hx⟩ : ∃ x, l[k] = x := ⟨_, rfl⟩
              rw [hx] at hrk hik
              have hw33 : wr.cell? ⟨b, off + k * 34 + 33, none⟩ = some (.slice x.A x.wit.length x.c) := hrk 33 _ (inC_at hik.1).2
              clear hr hrk hik hx hA
              by_cases hmn : (30001 : Int) < (x.wit.length : Int)
              · go_wp2
                go_roundw
                case rel => exact ⟨k + 1, _, by omega, by omega, by go_num, rfl, Hb.out⟩
                case measure => simp [intOf] <;> omega
              · go_wp2
                go_roundw
                case rel => exact ⟨k + 1, _, by omega, by omega, by go_num, rfl, Hb.out⟩
                case measure => simp [intOf] <;> omega
            · have hgb : decide ((k : Int) ≤ 300) = false := decide_eq_false (by omega)
              by_cases hg : (600 : Int) < v2
              · go_wp2
                go_ret
                exact ⟨_, rfl, fun _ => HW1.out, Hb.out⟩
              · go_wp2
                go_roundw
                case rel => exact ⟨2, v2, by omega, by go_num, rfl, ⟨fun h => by omega, fun _ => HW1.out⟩, Hb.out⟩
                case measure => simp [intOf] <;> omega
          · obtain rfl : k = l.length := by omega
            by_cases hg : (600 : Int) < v2
            · go_wp2
              go_ret
              exact ⟨_, rfl, fun _ => HW1.out, Hb.out⟩
            · go_wp2
              go_roundw
              case rel => exact ⟨2, v2, by omega, by go_num, rfl, ⟨fun h => by omega, fun _ => HW1.out⟩, Hb.out⟩
              case measure => simp [intOf] <;> omega
end Go.Proofs.Ytjcbihdhkaiidaa
