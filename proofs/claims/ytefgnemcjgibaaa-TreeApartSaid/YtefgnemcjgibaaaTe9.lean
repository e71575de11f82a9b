/-
  tree: all that stand under a node.
-/
import Derived.Test.YtefgnemcjgibaaaTe8
namespace Go.Proofs.Ytefgnemcjgibaaa
open Go.RowKit

def tsC1 (s : Nat × Nat) : List Value := [.int .i64 (s.1 : Int), .int .i64 (s.2 : Int)]
theorem tsC1_len (s : Nat × Nat) : (tsC1 s).length = 2 := rfl
def tsC (Q : List (Nat × Nat)) : List Value := (Q.map tsC1).flatten
theorem tsC_len (Q : List (Nat × Nat)) : (tsC Q).length = Q.length * 2 := tflat_len tsC1_len Q
theorem tsC_get (Q : List (Nat × Nat)) (i j : Nat) (hi : i < Q.length) (hj : j < 2) : (tsC Q)[i * 2 + j]? = (tsC1 Q[i])[j]? := tflat_get tsC1_len Q i j hi hj
theorem tsC_snoc (Q : List (Nat × Nat)) (s : Nat × Nat) : tsC (Q ++ [s]) = tsC Q ++ tsC1 s := by simp [tsC]
/-- A tree's form, in memory. -/
structure TrS (m : TrM) : Prop where
  ok : OkT m.T
  kids : ∀ i (h : i < m.L.length), m.L[i].kids = kidsT m.T i
theorem TrI.s {m : TrM} (h : TrI m) : TrS m := ⟨h.ok, h.kids⟩
theorem Try.tinfoS : (Try.prog.info? 63).map (fun i => (i.zero, i.size, i.bytes)) = some (some (.agg #[.int .i64 0, .int .i64 0]), 2, 16) := by kernel_rfl
def seatsUp (ks : List Nat) (out i : Nat) : List (Nat × Nat) := (ks.filter (· != out)).map fun c => (c, i)
theorem seatsUp_next {ks : List Nat} {out i j : Nat} (hj : j < ks.length) : seatsUp (ks.take (j + 1)) out i = seatsUp (ks.take j) out i ++ if ks[j] = out then [] else [(ks[j], i)] := by
  unfold seatsUp
  rw [List.take_succ_eq_append_getElem hj, List.filter_append, List.map_append]
  congr 1
  by_cases e : ks[j] = out
  · simp [e]
  · simp [e]
set_option maxRecDepth 100000 in
set_option maxHeartbeats 4000000 in
theorem te_below (w : World) (base : Nat) (m : TrM) (h : TrOk w base m) (hS : TrS m) (n : Nat) (hn : n < m.L.length) (out : Nat) :
    Calls Try.prog 32 #[.pointer (some ⟨m.q, 0, none⟩), .int .i64 (n : Int), .int .i64 (out : Int)] w fun e w' => ∃ Q A c, e = .returned (.slice A Q.length c) ∧ w'.ownsRow w.heap.size 63 2 (.slice A Q.length c) Q.length (tsC Q) ∧ Below w.heap.size w w' ∧ Bf m.T n out Q.length Q := by
  have hmx : m.L.length ≤ 1000 := by have := hS.ok.max; rwa [m.T_len] at this
  have HH := Lib.hid h
  have HS := Lib.hid hS
  have hb0 : ∀ wq : World, (Instr.build 63 #[(0, .int .i64 (n : Int))]).run Try.prog wq = .ok (.agg (tsC1 (n, 0)).toArray) wq := fun wq => by kernel_rfl
  obtain ⟨i1, hi1, hy0, hy1, hy2⟩ := info_parts Try.tinfoS
  have B0 : Hid (Blk (w.alloc (.cells (tsC1 (n, 0)).toArray 63)) w.heap.size 63 (tsC1 (n, 0)).toArray) := heap_alloc_new w _
  have V0 : Hid (Below w.heap.size w (w.alloc (.cells (tsC1 (n, 0)).toArray 63))) := nxAlloc (nxRefl w) _
  clear h hS
  go_enter Try.func32, Try.ntmps32
  go_wp2_with ((with_reducible show wpList _ _ _ (⟨some 13, _, _, _, _, _⟩ :: _) _ _); refine wpList_build1 rfl 56 63 (.tmp 12) rfl (tsC1 (n, 0)) _ 2 16 Try.underlying56 Try.tinfoS (by decide) (by decide) rfl rfl ?_)
  clear hb0
  go_loopw [7, 8] (fun qv iv wr => ∃ (i : Nat) (Q : List (Nat × Nat)) (A : Option Addr) (c : Nat), i ≤ Q.length ∧ qv = .slice A Q.length c ∧ iv = .int .i64 i ∧ Hid (Bf m.T n out i Q) ∧ Hid (wr.ownsRow w.heap.size 63 2 (.slice A Q.length c) Q.length (tsC Q)) ∧ Hid (Below w.heap.size w wr)) (fun _ iv _ => 1001 - (intOf iv).toNat)
  case atStart =>
    refine ⟨0, [(n, 0)], some ⟨w.heap.size, 0, none⟩, 1, by simp, rfl, rfl, Bf.start (by rw [m.T_len]; exact hn), ?_, V0.out⟩
    have h9 := own_made (base := w.heap.size) (n := 1) (c := 1) (size := 2) (cs := tsC1 (n, 0)) B0.out (Nat.le_refl _) (by omega) (by simp [maxLen]) rfl
    exact h9
  case round =>
    obtain ⟨i, Q, A, c, hi, rfl, rfl, HB, HO, HV⟩ := hrel
    have hql : Q.length ≤ 1000 := by have := HB.out.len.2; rw [m.T_len] at this; omega
    by_cases hlt : i < Q.length
    · obtain ⟨u, hu⟩ : ∃ u, Q[i] = u := ⟨_, rfl⟩
      have hum : u ∈ Q := by rw [← hu]; exact List.getElem_mem hlt
      have hui : Q[i]? = some u := by rw [List.getElem?_eq_getElem hlt, hu]
      have hul := (HB.out.und u hum).1
      rw [m.T_len] at hul
      have HT : Hid (TrOk wr base m) := HH.out.later HV.out
      obtain ⟨g, hnA, hg, hgb, hc0, hr⟩ := nd_cells HT.out hul
      have hck := (nd_c hr).2.2.1
      obtain ⟨gq, hqA, hgq1, hgq2, hqc⟩ := town_row HO.out (by rw [tsC_len]; omega)
      have hcq := (hqc (i * 2) _ (by have := tsC_get Q i 0 hlt (by omega); rw [Nat.add_zero] at this; rw [this, hu]; rfl)).1
      subst hqA
      obtain ⟨x, hx⟩ : ∃ x, m.L[u.1] = x := ⟨_, rfl⟩
      have hkx := HS.out.kids u.1 hul
      rw [hx] at hck hkx
      have hkm : x.kids.length ≤ 1000 := by
        rw [hkx]
        have := (kids_nodup m.T u.1).length_le_of_subset (l₂ := List.range m.L.length) (fun k hk => List.mem_range.2 (by have := (mem_kids.1 hk).2.1; rwa [m.T_len] at this))
        rw [List.length_range] at this
        omega
      have hin : (i : Int) < (Q.length : Int) := by omega
      have hun : (u.1 : Int) < (m.L.length : Int) := by omega
      have HX := Lib.hid hx
      have HKx := Lib.hid hkx
      have HUi := Lib.hid hui
      clear hr hqc hu hum hui hx hkx hg hgb hnA hgq1 hgq2
      obtain ⟨un, hun9⟩ : ∃ k, u.1 = k := ⟨_, rfl⟩
      rw [hun9] at hul hck hcq hun
      have HUn := Lib.hid hun9
      clear hun9
      go_wp2
      go_quiet (fail)
      clear hck hcq hc0
      go_wp2
      go_loopw [7, 33] (fun qv jv wr => ∃ (j : Nat) (R : List (Nat × Nat)) (A : Option Addr) (c : Nat), j ≤ x.kids.length ∧ R = Q ++ seatsUp (x.kids.take j) out i ∧ R.length ≤ Q.length + j ∧ qv = .slice A R.length c ∧ jv = .int .i64 j ∧ Hid (wr.ownsRow w.heap.size 63 2 (.slice A R.length c) R.length (tsC R)) ∧ Hid (Below w.heap.size w wr)) (fun _ jv _ => x.kids.length - (intOf jv).toNat)
      case atStart =>
        refine ⟨0, Q, some ⟨gq, 0, none⟩, c, by omega, by simp [seatsUp], by omega, rfl, rfl, ?_, teDrN HV.out _⟩
        exact HO.out
      case round =>
        obtain ⟨j, R, A2, c2, hj, hR, hRl, rfl, rfl, HO2, HV2⟩ := hrel
        have HR := Lib.hid hR
        clear hR
        by_cases hjl : j < x.kids.length
        · have hkj : j < m.L[un].kids.length := by simp only [← HUn.out, HX.out]; exact hjl
          obtain ⟨gk, hkA, hgk, hkc⟩ := kid_cells (HH.out.later HV2.out) hul hkj
          have hkA' : x.kA = some ⟨gk, 0, none⟩ := by rw [← hkA]; simp only [← HUn.out, HX.out]
          obtain ⟨ch, hch⟩ : ∃ k, x.kids[j] = k := ⟨_, rfl⟩
          have hkc' : wr.cell? ⟨gk, j, none⟩ = some (.int .i64 (ch : Int)) := by rw [hkc, ← hch]; simp only [← HUn.out, HX.out]
          have hjn : (j : Int) < (x.kids.length : Int) := by omega
          have hnx := seatsUp_next (out := out) (i := i) hjl
          rw [hch] at hnx
          have HNx := Lib.hid hnx
          have hb1 : ∀ wq : World, (Instr.build 63 #[(0, .int .i64 (ch : Int)), (1, .int .i64 (i : Int))]).run Try.prog wq = .ok (.agg (tsC1 (ch, i)).toArray) wq := fun wq => by kernel_rfl
          clear hkc hkA hnx hch hkj hgk
          rw [hkA']
          by_cases hco : ch = out
          · have hco2 : ((ch : Int) != (out : Int)) = false := by rw [bne_eq_false_iff_eq]; omega
            have hco3 : ((ch : Int) == (out : Int)) = true := by rw [beq_iff_eq]; omega
            go_wp2
            go_roundw
            case rel => exact ⟨j + 1, R, A2, c2, by omega, by rw [HNx.out, if_pos hco, List.append_nil]; exact HR.out, by omega, rfl, by go_num, HO2.out, HV2.out⟩
            case measure => simp [intOf] <;> omega
          · have hco2 : ((ch : Int) != (out : Int)) = true := by rw [bne_iff_ne]; omega
            have hco3 : ((ch : Int) == (out : Int)) = false := by rw [beq_eq_false_iff_ne]; omega
            have DA : Hid (Below wr.heap.size wr (wr.alloc (.cells (tsC1 (ch, i)).toArray 63))) := nxAlloc (nxRefl wr) _
            have hwb : w.heap.size ≤ wr.heap.size := HV2.out.size
            go_wp2_with (first
              | ((with_reducible show wpList _ _ _ (⟨some 44, _, _, _, _, _⟩ :: _) _ _); refine wpList_build1 rfl 56 63 (.tmp 43) rfl (tsC1 (ch, i)) _ 2 16 Try.underlying56 Try.tinfoS (by decide) (by decide) rfl rfl ?_)
              | ((with_reducible show wpList _ _ _ (⟨some 45, _, _, _, _, _⟩ :: _) _ _); refine wpList_append_seesV rfl (.tmp 40) (.tmp 44) 56 rfl w.heap.size 63 i1 _ 2 16 Try.underlying56 hi1 hy0 hy1 hy2 rfl (by decide) (.slice A2 R.length c2) R.length (tsC R) rfl (own_below HO2.out DA.out (fun g hg => (own_lt HO2.out g hg).2)) _ (some ⟨wr.heap.size, 0, none⟩) 1 1 (tsC1 (ch, i)) rfl rfl (SeesV.blk (heap_alloc_new wr _)) (by intro u hu; simp [tsC1] at hu; rcases hu with rfl | rfl <;> rfl) (by omega) (by omega) (by simp; omega) ?_; intro v7 w7 ho7 hg7 ha7; obtain ⟨A7, c7, rfl⟩ := own_form ho7; have O7 := Lib.hid ho7; have V7 : Hid (Below w.heap.size w w7) := (nxAlloc HV2.out _).grown hg7 (by simp; omega) (fun j hj => (own_lt HO2.out j hj).1); clear ho7 hg7 ha7))
            go_roundw
            case rel =>
              have e2 : (R ++ [(ch, i)]).length = R.length + 1 := by simp
              refine ⟨j + 1, R ++ [(ch, i)], A7, c7, by omega, by rw [HNx.out, if_neg hco, ← List.append_assoc, ← HR.out], by rw [e2]; omega, by rw [e2], by go_num, ?_, V7.out⟩
              show World.ownsRow _ _ _ _ _ _ _
              rw [e2, tsC_snoc]
              exact O7.out
            case measure => simp [intOf] <;> omega
        · obtain rfl : j = x.kids.length := by omega
          go_wp2
          go_roundw
          case rel =>
            have e1 : R = Q ++ nextT m.T out i Q := by
              rw [HR.out, List.take_length]
              unfold nextT seatsUp
              rw [HUi.out, HKx.out]
            exact ⟨i + 1, R, A2, c2, by rw [e1, List.length_append]; omega, rfl, by go_num, by show Bf _ _ _ _ _; rw [e1]; exact HB.out.step HS.out.ok hlt, HO2.out, HV2.out⟩
          case measure => simp [intOf] <;> omega
    · obtain rfl : i = Q.length := by omega
      go_wp2
      go_ret
      exact ⟨Q, A, c, rfl, HO.out, HV.out, HB.out⟩
end Go.Proofs.Ytefgnemcjgibaaa
