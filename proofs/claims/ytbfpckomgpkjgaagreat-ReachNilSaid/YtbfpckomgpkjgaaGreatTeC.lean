/-
  tree: sizes.
-/
import Derived.Test.YtbfpckomgpkjgaaGreatPRnQ9
import Derived.Lib.AppendIntMem
namespace Go.Proofs.YtbfpckomgpkjgaaGreat
open Go.RowKit

theorem Tryz.tinfoU : (Tryz.prog.info? 107).map (fun i => (i.zero, i.size, i.bytes)) = some (some (.int .u64 0), 1, 8) := by kernel_rfl
theorem te_makeU (wq : World) (k : Nat) (hk : k ≤ 1000) : (Instr.makeSlice 116 (.int .i64 (k : Int)) (.int .i64 (k : Int))).run Tryz.prog wq = .ok (.slice (some ⟨wq.heap.size, 0, none⟩) k k) (wq.alloc (.cells (tuC (List.replicate k 0)).toArray 107)) := by
  have e : madeCells #[.int .u64 0] k = (tuC (List.replicate k 0)).toArray := by
    apply Array.ext
    · simp [size_madeCells, tuC]
    · intro i h1 h2
      simp [madeCells, tuC, Nat.mod_one]
  rw [run_make_row' 116 107 (.int .u64 0) 8 Tryz.underlying116 Tryz.tinfoU rfl .i64 .i64 k (by omega) (by omega) wq, e]
theorem tS_le {g : Nat → Nat} : ∀ {n k : Nat}, k < n → g k ≤ tS g n
  | 0, _, h => absurd h (Nat.not_lt_zero _)
  | n + 1, k, h => by
    unfold tS
    by_cases e : k = n
    · subst e; omega
    · have := tS_le (g := g) (n := n) (k := k) (by omega); omega
theorem tuC_cell {w : World} {g : Nat} {t : TypeId} {S : List Nat} (h : Blk w g t (tuC S).toArray) {k : Nat} (hk : k < S.length) : w.cell? ⟨g, k, none⟩ = some (.int .u64 (gN S k : Int)) := by
  rw [h.cell k, List.getElem?_toArray, tuC_get hk]
theorem tuC_blk {w : World} {g : Nat} {t : TypeId} {S : List Nat} (h : Blk w g t (tuC S).toArray) (k x : Nat) : Blk (w.setCell ⟨g, k, none⟩ (.int .u64 (x : Int))) g t (tuC (S.set k x)).toArray := by
  have h9 := h.set k (.int .u64 (x : Int))
  rw [List.setIfInBounds_toArray, tuC_set] at h9
  exact h9
/-- A queue that is seen. -/
theorem ts_cell {w : World} {B : Nat} {A : Option Addr} {Q : List (Nat × Nat)} (h : SeesV w B A (tsC Q)) {k : Nat} (hk : k < Q.length) : ∃ b off, A = some ⟨b, off, none⟩ ∧ b < B ∧ w.rangeAt b (off + k * 2) (tsC1 (nQ Q k, upQ Q k)) := by
  obtain ⟨b, off, hA, hb, hc⟩ := h.at_ (k := k * 2) (by rw [tsC_len]; omega)
  refine ⟨b, off, hA, hb, fun j v hv => ?_⟩
  have hj : j < 2 := (List.getElem?_eq_some_iff.1 hv).1
  have hl : k * 2 + j < (tsC Q).length := by rw [tsC_len]; omega
  have h1 := hc (k * 2 + j) hl
  have h2 := tsC_get Q k j hk hj
  have h3 := q_at hk
  rw [List.getElem?_eq_getElem hk] at h3
  injection h3 with h3
  rw [List.getElem?_eq_getElem hl, h3, hv] at h2
  rw [Nat.add_assoc, h1, h2]
set_option maxRecDepth 100000 in
set_option maxHeartbeats 4000000 in
theorem te_sizes (w : World) (Q : List (Nat × Nat)) (A : Option Addr) (c : Nat) (hQ : SeesV w w.heap.size A (tsC Q)) (hq0 : 0 < Q.length) (hq : Q.length ≤ 1000) (hu : ∀ k, 0 < k → k < Q.length → upQ Q k < k) :
    Calls Tryz.prog 101 #[.slice A Q.length c] w fun e w' => e = .returned (.slice (some ⟨w.heap.size, 0, none⟩) Q.length Q.length) ∧ Blk w' w.heap.size 107 (tuC (szF Q Q.length)).toArray ∧ Below w.heap.size w w' := by
  have B0 : Hid (Blk (w.alloc (.cells (tuC (List.replicate Q.length 0)).toArray 107)) w.heap.size 107 (tuC (szF Q 0)).toArray) := heap_alloc_new w _
  have V0 : Hid (Below w.heap.size w (w.alloc (.cells (tuC (List.replicate Q.length 0)).toArray 107))) := nxAlloc (nxRefl w) _
  have hmk := fun wq => te_makeU wq Q.length hq
  have HQ := Lib.hid hQ
  have HU := Lib.hid hu
  clear hQ hu
  go_enter Tryz.func101, Tryz.ntmps101
  go_wp2
  clear hmk
  go_loopw [11] (fun iv wr => ∃ i : Nat, i ≤ Q.length ∧ iv = .int .i64 i ∧ Hid (Blk wr w.heap.size 107 (tuC (szF Q i)).toArray) ∧ Hid (Below w.heap.size w wr)) (fun iv _ => Q.length - (intOf iv).toNat)
  case atStart => exact ⟨0, by omega, rfl, B0.out, V0.out⟩
  case round =>
    obtain ⟨i, hi, rfl, HB, HV⟩ := hrel
    by_cases hlt : i < Q.length
    · obtain ⟨a, ha⟩ : ∃ a, Q.length - 1 - i = a := ⟨_, rfl⟩
      have haq : a < Q.length := by omega
      obtain ⟨hm1, hm2⟩ := szF_mid HU.out i hlt
      have hSl := szF_len Q i
      have hnx : szF Q (i + 1) = szStep Q (szF Q i) a := by rw [← ha]; rfl
      have hba : gN (szF Q i) a ≤ i := by have := tS_le (g := gN (szF Q i)) (n := Q.length - i) (k := a) (by omega); omega
      have hbu : 0 < a → gN (szF Q i) (upQ Q a) ≤ i := fun h0 => by have := HU.out a h0 haq; have := tS_le (g := gN (szF Q i)) (n := Q.length - i) (k := upQ Q a) (by omega); omega
      obtain ⟨b1, f1, rfl, hb1, hr1⟩ := ts_cell ((HQ.out.below HV.out).more (Nat.le_refl _)) haq
      have HR1 := Lib.hid (hr1 1 _ rfl)
      have HNx := Lib.hid hnx
      have HBu := Lib.hid hbu
      have HLb := Lib.hid hb1
      obtain ⟨S, hS⟩ : ∃ S, szF Q i = S := ⟨_, rfl⟩
      rw [hS] at HB hSl hba HBu HNx
      have hca := tuC_cell HB.out (k := a) (by omega)
      have hfa := HB.out.frozen a
      obtain ⟨s, hs⟩ : ∃ s, gN S a = s := ⟨_, rfl⟩
      rw [hs] at hca hba
      have ha9 : ((Q.length : Int) - 1 - (i : Int)) = (a : Int) := by omega
      have haq2 : (a : Int) < (Q.length : Int) := by omega
      have hs9 : ((s : Int) + 1) = ((s + 1 : Nat) : Int) := by omega
      have HS9 := Lib.hid hs9
      have hgb : w.heap.size ≠ b1 := by omega
      have B1 : Hid (Blk (wr.setCell ⟨w.heap.size, a, none⟩ (.int .u64 ((s : Int) + 1))) w.heap.size 107 (tuC (S.set a (s + 1))).toArray) := by rw [hs9]; exact tuC_blk HB.out a (s + 1)
      have V1 : Hid (Below w.heap.size w (wr.setCell ⟨w.heap.size, a, none⟩ (.int .u64 ((s : Int) + 1)))) := HV.out.trans ((Keeps.refl (fun k => k = w.heap.size) wr).setCell (p := ⟨w.heap.size, a, none⟩) rfl _ |>.below HV.out.size (fun k hk e => by omega))
      have hr2 : (wr.setCell ⟨w.heap.size, a, none⟩ (.int .u64 ((s : Int) + 1))).cell? ⟨b1, f1 + a * 2 + 1, none⟩ = some (.int .i64 (upQ Q a : Int)) := (V1.out.cell (p := ⟨b1, f1 + a * 2 + 1, none⟩) hb1).trans ((HV.out.cell (p := ⟨b1, f1 + a * 2 + 1, none⟩) hb1).symm.trans HR1.out)
      have HR2 := Lib.hid hr2
      clear hm1 hm2 hnx hr1 hbu hb1 hs9 hr2 ha
      by_cases ha0 : 0 < a
      · have hup := HU.out a ha0 haq
        have hbu := HBu.out ha0
        obtain ⟨u, hu⟩ : ∃ u, upQ Q a = u := ⟨_, rfl⟩
        rw [hu] at hup hbu HR2 HR1
        have hcu := tuC_cell B1.out (k := u) (by rw [List.length_set]; omega)
        have hca2 := tuC_cell B1.out (k := a) (by rw [List.length_set]; omega)
        rw [gN_set (by omega), if_neg (by omega)] at hcu
        rw [gN_set (by omega), if_pos rfl] at hca2
        obtain ⟨r, hr⟩ : ∃ r, gN S u = r := ⟨_, rfl⟩
        rw [hr] at hcu hbu
        have ha02 : (0 : Int) < (a : Int) := by omega
        have huq : (u : Int) < (Q.length : Int) := by omega
        have HU9 := Lib.hid hu
        have HR9 := Lib.hid hr
        have HS99 := Lib.hid hs
        clear hu hr hs
        have hca3 : (wr.setCell ⟨w.heap.size, a, none⟩ (.int .u64 ((s : Int) + 1))).cell? ⟨w.heap.size, a, none⟩ = some (.int .u64 ((s : Int) + 1)) := by rw [hca2, ← HS9.out]
        have HSS : Hid ((wr.setCell ⟨w.heap.size, a, none⟩ (.int .u64 ((s : Int) + 1))).drew.cell? ⟨b1, f1 + a * 2 + 1, none⟩ = some (.int .i64 (u : Int)) ∧ (wr.setCell ⟨w.heap.size, a, none⟩ (.int .u64 ((s : Int) + 1))).drew.cell? ⟨w.heap.size, u, none⟩ = some (.int .u64 (r : Int)) ∧ (wr.setCell ⟨w.heap.size, a, none⟩ (.int .u64 ((s : Int) + 1))).drew.cell? ⟨w.heap.size, a, none⟩ = some (.int .u64 ((s : Int) + 1))) := ⟨HR2.out, hcu, hca3⟩
        clear hca2 hca3 hcu
        go_wp2
        refine wp_region_K (fun W => W.cell? ⟨b1, f1 + a * 2 + 1, none⟩ = some (.int .i64 (u : Int)) ∧ W.cell? ⟨w.heap.size, u, none⟩ = some (.int .u64 (r : Int)) ∧ W.cell? ⟨w.heap.size, a, none⟩ = some (.int .u64 ((s : Int) + 1))) 14 (by kernel_rfl) HSS.out (fun hSn => ?_)
        have B2 : Hid (Blk (wr.setCell ⟨w.heap.size, a, none⟩ (.int .u64 ((s : Int) + 1))).drew w.heap.size 107 (tuC (S.set a (s + 1))).toArray) := B1.out
        have V2 : Hid (Below w.heap.size w (wr.setCell ⟨w.heap.size, a, none⟩ (.int .u64 ((s : Int) + 1))).drew) := teDr V1.out
        clear HR2 B1 V1 hca hfa
        generalize (wr.setCell ⟨w.heap.size, a, none⟩ (.int .u64 ((s : Int) + 1))).drew = w7 at *
        have cu7 : w7.cell? ⟨w.heap.size, u, none⟩ = some (.int .u64 (r : Int)) := HSS.out.2.1
        have fu7 : w7.frozen? ⟨w.heap.size, u, none⟩ = false := B2.out.frozen u
        refine wpAnyK_pure (i := 0) (oi := ⟨_, _, _, _, _, _⟩) (v := ?_) rfl (by kernel_rfl) (by kernel_rfl) (by kernel_rfl) rfl (fun _ _ _ h => h) (Or.inl ⟨by rfl, ?_⟩) hSn ?_
        rotate_left 1
        · intro W hSw
          go_simp
          try with_reducible rfl
        replace hSn := (KT.set (i := 0) (by decide)).2 hSn
        try simp only [Act.put, List.setIfInBounds_toArray, List.set_cons_zero, List.set_cons_succ]
        refine wpAnyK_pure (i := 1) (oi := ⟨_, _, _, _, _, _⟩) (v := ?_) rfl (by kernel_rfl) (by kernel_rfl) (by kernel_rfl) rfl (fun _ _ _ h => h) (Or.inl ⟨by rfl, ?_⟩) hSn ?_
        rotate_left 1
        · intro W hSw
          go_simp
          try with_reducible rfl
        replace hSn := (KT.set (i := 1) (by decide)).2 hSn
        try simp only [Act.put, List.setIfInBounds_toArray, List.set_cons_zero, List.set_cons_succ]
        refine wpAnyK_pure (i := 2) (oi := ⟨_, _, _, _, _, _⟩) (v := ?_) rfl (by kernel_rfl) (by kernel_rfl) (by kernel_rfl) rfl (fun _ _ _ h => h) (Or.inl ⟨by rfl, ?_⟩) hSn ?_
        rotate_left 1
        · intro W hSw
          go_simp
          try with_reducible rfl
        replace hSn := (KT.set (i := 2) (by decide)).2 hSn
        try simp only [Act.put, List.setIfInBounds_toArray, List.set_cons_zero, List.set_cons_succ]
        refine wpAnyK_pure (i := 3) (oi := ⟨_, _, _, _, _, _⟩) (v := ?_) rfl (by kernel_rfl) (by kernel_rfl) (by kernel_rfl) rfl (fun _ _ _ h => h) (Or.inl ⟨by rfl, ?_⟩) hSn ?_
        rotate_left 1
        · intro W hSw
          go_simp
          try with_reducible rfl
        replace hSn := (KT.set (i := 3) (by decide)).2 hSn
        try simp only [Act.put, List.setIfInBounds_toArray, List.set_cons_zero, List.set_cons_succ]
        refine wpAnyK_pure (i := 4) (oi := ⟨_, _, _, _, _, _⟩) (v := ?_) rfl (by kernel_rfl) (by kernel_rfl) (by kernel_rfl) rfl (fun _ _ _ h => h) (Or.inl ⟨by rfl, ?_⟩) hSn ?_
        rotate_left 1
        · intro W hSw
          go_simp
          try with_reducible rfl
        replace hSn := (KT.set (i := 4) (by decide)).2 hSn
        try simp only [Act.put, List.setIfInBounds_toArray, List.set_cons_zero, List.set_cons_succ]
        refine wpAnyK_chain (i := 5) [14] (oi := ⟨_, _, _, _, _, _⟩) (v := ?_) rfl (by kernel_rfl) (by kernel_rfl) (by kernel_rfl) rfl (by kernel_rfl) (by kernel_rfl) (by kernel_rfl) (fun _ _ _ h => h) (Or.inl ⟨by rfl, ?_⟩) hSn ?_
        rotate_left 1
        · intro W hSw
          try dsimp only at hSw
          obtain ⟨hs1, hs2, hs3⟩ := hSw
          go_simp
          try with_reducible rfl
        replace hSn := (KT.set (i := 5) (by decide)).2 hSn
        try simp only [Act.put, List.setIfInBounds_toArray, List.set_cons_zero, List.set_cons_succ]
        refine wpAnyK_pure (i := 6) (oi := ⟨_, _, _, _, _, _⟩) (v := ?_) rfl (by kernel_rfl) (by kernel_rfl) (by kernel_rfl) rfl (fun _ _ _ h => h) (Or.inl ⟨by rfl, ?_⟩) hSn ?_
        rotate_left 1
        · intro W hSw
          go_simp
          try with_reducible rfl
        replace hSn := (KT.set (i := 6) (by decide)).2 hSn
        try simp only [Act.put, List.setIfInBounds_toArray, List.set_cons_zero, List.set_cons_succ]
        refine wpAnyK_chain (i := 7) [14] (oi := ⟨_, _, _, _, _, _⟩) (v := ?_) rfl (by kernel_rfl) (by kernel_rfl) (by kernel_rfl) rfl (by kernel_rfl) (by kernel_rfl) (by kernel_rfl) (fun _ _ _ h => h) (Or.inl ⟨by rfl, ?_⟩) hSn ?_
        rotate_left 1
        · intro W hSw
          try dsimp only at hSw
          obtain ⟨hs1, hs2, hs3⟩ := hSw
          go_simp
          try with_reducible rfl
        replace hSn := (KT.set (i := 7) (by decide)).2 hSn
        try simp only [Act.put, List.setIfInBounds_toArray, List.set_cons_zero, List.set_cons_succ]
        refine wpAnyK_pure (i := 8) (oi := ⟨_, _, _, _, _, _⟩) (v := ?_) rfl (by kernel_rfl) (by kernel_rfl) (by kernel_rfl) rfl (fun _ _ _ h => h) (Or.inl ⟨by rfl, ?_⟩) hSn ?_
        rotate_left 1
        · intro W hSw
          go_simp
          try with_reducible rfl
        replace hSn := (KT.set (i := 8) (by decide)).2 hSn
        try simp only [Act.put, List.setIfInBounds_toArray, List.set_cons_zero, List.set_cons_succ]
        refine wpAnyK_pure (i := 9) (oi := ⟨_, _, _, _, _, _⟩) (v := ?_) rfl (by kernel_rfl) (by kernel_rfl) (by kernel_rfl) rfl (fun _ _ _ h => h) (Or.inl ⟨by rfl, ?_⟩) hSn ?_
        rotate_left 1
        · intro W hSw
          go_simp
          try with_reducible rfl
        replace hSn := (KT.set (i := 9) (by decide)).2 hSn
        try simp only [Act.put, List.setIfInBounds_toArray, List.set_cons_zero, List.set_cons_succ]
        refine wpAnyK_pure (i := 10) (oi := ⟨_, _, _, _, _, _⟩) (v := ?_) rfl (by kernel_rfl) (by kernel_rfl) (by kernel_rfl) rfl (fun _ _ _ h => h) (Or.inl ⟨by rfl, ?_⟩) hSn ?_
        rotate_left 1
        · intro W hSw
          go_simp
          try with_reducible rfl
        replace hSn := (KT.set (i := 10) (by decide)).2 hSn
        try simp only [Act.put, List.setIfInBounds_toArray, List.set_cons_zero, List.set_cons_succ]
        refine wpAnyK_chain (i := 11) [14] (oi := ⟨_, _, _, _, _, _⟩) (v := ?_) rfl (by kernel_rfl) (by kernel_rfl) (by kernel_rfl) rfl (by kernel_rfl) (by kernel_rfl) (by kernel_rfl) (fun _ _ _ h => h) (Or.inl ⟨by rfl, ?_⟩) hSn ?_
        rotate_left 1
        · intro W hSw
          try dsimp only at hSw
          obtain ⟨hs1, hs2, hs3⟩ := hSw
          go_simp
          try with_reducible rfl
        replace hSn := (KT.set (i := 11) (by decide)).2 hSn
        try simp only [Act.put, List.setIfInBounds_toArray, List.set_cons_zero, List.set_cons_succ]
        refine wpAnyK_pure (i := 12) (oi := ⟨_, _, _, _, _, _⟩) (v := ?_) rfl (by kernel_rfl) (by kernel_rfl) (by kernel_rfl) rfl (fun _ _ _ h => h) (Or.inl ⟨by rfl, ?_⟩) hSn ?_
        rotate_left 1
        · intro W hSw
          go_simp
          try with_reducible rfl
        replace hSn := (KT.set (i := 12) (by decide)).2 hSn
        try simp only [Act.put, List.setIfInBounds_toArray, List.set_cons_zero, List.set_cons_succ]
        refine wpAnyK_pure (i := 13) (oi := ⟨_, _, _, _, _, _⟩) (v := ?_) rfl (by kernel_rfl) (by kernel_rfl) (by kernel_rfl) rfl (fun _ _ _ h => h) (Or.inl ⟨by rfl, ?_⟩) hSn ?_
        rotate_left 1
        · intro W hSw
          go_simp
          try with_reducible rfl
        replace hSn := (KT.set (i := 13) (by decide)).2 hSn
        try simp only [Act.put, List.setIfInBounds_toArray, List.set_cons_zero, List.set_cons_succ]
        clear hSn
        refine wpAnyK_ready (rs := [14]) (by kernel_rfl) (by simp) ?_
        refine AllReadyK.cons rfl (fun K hK => ?_) AllReadyK.nil
        go_simp
        skip
        refine hK.out _ _ (fun h => absurd h (by decide +kernel)) (fun hSn => ?_)
        clear hK K
        try simp only [Act.put, List.setIfInBounds_toArray, List.set_cons_zero, List.set_cons_succ]
        refine wpAnyK_done (by kernel_rfl) ?_ _
        have hz : ((r : Int) + ((s : Int) + 1)) = ((r + (s + 1) : Nat) : Int) := by omega
        have B3 : Hid (Blk (w7.setCell ⟨w.heap.size, u, none⟩ (.int .u64 ((r : Int) + ((s : Int) + 1)))) w.heap.size 107 (tuC ((S.set a (s + 1)).set u (r + (s + 1)))).toArray) := by rw [hz]; exact tuC_blk B2.out u _
        have V3 : Hid (Below w.heap.size w (w7.setCell ⟨w.heap.size, u, none⟩ (.int .u64 ((r : Int) + ((s : Int) + 1))))) := V2.out.trans ((Keeps.refl (fun k => k = w.heap.size) w7).setCell (p := ⟨w.heap.size, u, none⟩) rfl _ |>.below V2.out.size (fun k hk e => by omega))
        clear hz hSn
        go_wp2
        go_roundw
        case rel =>
          refine ⟨i + 1, by omega, by go_num, ?_, V3.out⟩
          show Blk _ _ _ _
          rw [HNx.out]
          unfold szStep
          simp only [if_pos ha0]
          rw [HU9.out, gN_set (by omega), gN_set (by omega), if_neg (by omega), if_pos rfl, HR9.out, HS99.out]
          exact B3.out
        case measure => simp [intOf] <;> omega
      · obtain rfl : a = 0 := by omega
        go_wp2
        go_roundw
        case rel =>
          refine ⟨i + 1, by omega, by go_num, ?_, V1.out⟩
          show Blk _ _ _ _
          rw [HNx.out]
          unfold szStep
          simp only [Nat.lt_irrefl, if_false]
          rw [hs]; exact B1.out
        case measure => simp [intOf] <;> omega
    · obtain rfl : i = Q.length := by omega
      go_wp2
      go_ret
      exact ⟨rfl, HB.out, HV.out⟩
end Go.Proofs.YtbfpckomgpkjgaaGreat
