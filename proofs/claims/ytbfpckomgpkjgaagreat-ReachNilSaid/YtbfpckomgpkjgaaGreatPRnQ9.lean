/-
  tree: all that stand under a node.
  tree: widths, shares; the node whose numbers can be dealt anew; sizes.
  tree: the node whose numbers can be dealt anew.
-/
import Derived.Test.YtbfpckomgpkjgaaGreatTe8
namespace Go.Proofs.YtbfpckomgpkjgaaGreat
open Go.RowKit

def tsC1 (s : Nat × Nat) : List Value := [.int .i64 (s.1 : Int), .int .i64 (s.2 : Int)]
theorem tsC1_len (s : Nat × Nat) : (tsC1 s).length = 2 := rfl
def tsC (Q : List (Nat × Nat)) : List Value := (Q.map tsC1).flatten
theorem tsC_len (Q : List (Nat × Nat)) : (tsC Q).length = Q.length * 2 := tflat_len tsC1_len Q
theorem tsC_get (Q : List (Nat × Nat)) (i j : Nat) (hi : i < Q.length) (hj : j < 2) : (tsC Q)[i * 2 + j]? = (tsC1 Q[i])[j]? := tflat_get tsC1_len Q i j hi hj
theorem tsC_snoc (Q : List (Nat × Nat)) (s : Nat × Nat) : tsC (Q ++ [s]) = tsC Q ++ tsC1 s := by simp [tsC]
/-- A tree's form, in memory. -/
structure TrS (m : TrM) : Prop where
  ok : OkT m.T
  kids : ∀ i (h : i < m.L.length), m.L[i].kids = kidsT m.T i
theorem TrI.s {m : TrM} (h : TrI m) : TrS m := ⟨h.ok, h.kids⟩
theorem Tryz.tinfoS : (Tryz.prog.info? 144).map (fun i => (i.zero, i.size, i.bytes)) = some (some (.agg #[.int .i64 0, .int .i64 0]), 2, 16) := by kernel_rfl
def seatsUp (ks : List Nat) (out i : Nat) : List (Nat × Nat) := (ks.filter (· != out)).map fun c => (c, i)
theorem seatsUp_next {ks : List Nat} {out i j : Nat} (hj : j < ks.length) : seatsUp (ks.take (j + 1)) out i = seatsUp (ks.take j) out i ++ if ks[j] = out then [] else [(ks[j], i)] := by
  unfold seatsUp
  rw [List.take_succ_eq_append_getElem hj, List.filter_append, List.map_append]
  congr 1
  by_cases e : ks[j] = out
  · simp [e]
  · simp [e]
set_option maxRecDepth 100000 in
set_option maxHeartbeats 4000000 in
theorem te_below (w : World) (base : Nat) (m : TrM) (h : TrOk w base m) (hS : TrS m) (n : Nat) (hn : n < m.L.length) (out : Nat) :
    Calls Tryz.prog 100 #[.pointer (some ⟨m.q, 0, none⟩), .int .i64 (n : Int), .int .i64 (out : Int)] w fun e w' => ∃ Q A c, e = .returned (.slice A Q.length c) ∧ w'.ownsRow w.heap.size 144 2 (.slice A Q.length c) Q.length (tsC Q) ∧ Below w.heap.size w w' ∧ Bf m.T n out Q.length Q := by
  have hmx : m.L.length ≤ 1000 := by have := hS.ok.max; rwa [m.T_len] at this
  have HH := Lib.hid h
  have HS := Lib.hid hS
  have hb0 : ∀ wq : World, (Instr.build 144 #[(0, .int .i64 (n : Int))]).run Tryz.prog wq = .ok (.agg (tsC1 (n, 0)).toArray) wq := fun wq => by kernel_rfl
  obtain ⟨i1, hi1, hy0, hy1, hy2⟩ := info_parts Tryz.tinfoS
  have B0 : Hid (Blk (w.alloc (.cells (tsC1 (n, 0)).toArray 144)) w.heap.size 144 (tsC1 (n, 0)).toArray) := heap_alloc_new w _
  have V0 : Hid (Below w.heap.size w (w.alloc (.cells (tsC1 (n, 0)).toArray 144))) := nxAlloc (nxRefl w) _
  clear h hS
  go_enter Tryz.func100, Tryz.ntmps100
  go_wp2_with ((with_reducible show wpList _ _ _ (⟨some 13, _, _, _, _, _⟩ :: _) _ _); refine wpList_build1 rfl 138 144 (.tmp 12) rfl (tsC1 (n, 0)) _ 2 16 Tryz.underlying138 Tryz.tinfoS (by decide) (by decide) rfl rfl ?_)
  clear hb0
  go_loopw [7, 8] (fun qv iv wr => ∃ (i : Nat) (Q : List (Nat × Nat)) (A : Option Addr) (c : Nat), i ≤ Q.length ∧ qv = .slice A Q.length c ∧ iv = .int .i64 i ∧ Hid (Bf m.T n out i Q) ∧ Hid (wr.ownsRow w.heap.size 144 2 (.slice A Q.length c) Q.length (tsC Q)) ∧ Hid (Below w.heap.size w wr)) (fun _ iv _ => 1001 - (intOf iv).toNat)
  case atStart =>
    refine ⟨0, [(n, 0)], some ⟨w.heap.size, 0, none⟩, 1, by simp, rfl, rfl, Bf.start (by rw [m.T_len]; exact hn), ?_, V0.out⟩
    have h9 := own_made (base := w.heap.size) (n := 1) (c := 1) (size := 2) (cs := tsC1 (n, 0)) B0.out (Nat.le_refl _) (by omega) (by simp [maxLen]) rfl
    exact h9
  case round =>
    obtain ⟨i, Q, A, c, hi, rfl, rfl, HB, HO, HV⟩ := hrel
    have hql : Q.length ≤ 1000 := by have := HB.out.len.2; rw [m.T_len] at this; omega
    by_cases hlt : i < Q.length
    · obtain ⟨u, hu⟩ : ∃ u, Q[i] = u := ⟨_, rfl⟩
      have hum : u ∈ Q := by rw [← hu]; exact List.getElem_mem hlt
      have hui : Q[i]? = some u := by rw [List.getElem?_eq_getElem hlt, hu]
      have hul := (HB.out.und u hum).1
      rw [m.T_len] at hul
      have HT : Hid (TrOk wr base m) := HH.out.later HV.out
      obtain ⟨g, hnA, hg, hgb, hc0, hr⟩ := nd_cells HT.out hul
      have hck := (nd_c hr).2.2.1
      obtain ⟨gq, hqA, hgq1, hgq2, hqc⟩ := town_row HO.out (by rw [tsC_len]; omega)
      have hcq := (hqc (i * 2) _ (by have := tsC_get Q i 0 hlt (by omega); rw [Nat.add_zero] at this; rw [this, hu]; rfl)).1
      subst hqA
      obtain ⟨x, hx⟩ : ∃ x, m.L[u.1] = x := ⟨_, rfl⟩
      have hkx := HS.out.kids u.1 hul
      rw [hx] at hck hkx
      have hkm : x.kids.length ≤ 1000 := by
        rw [hkx]
        have := (kids_nodup m.T u.1).length_le_of_subset (l₂ := List.range m.L.length) (fun k hk => List.mem_range.2 (by have := (mem_kids.1 hk).2.1; rwa [m.T_len] at this))
        rw [List.length_range] at this
        omega
      have hin : (i : Int) < (Q.length : Int) := by omega
      have hun : (u.1 : Int) < (m.L.length : Int) := by omega
      have HX := Lib.hid hx
      have HKx := Lib.hid hkx
      have HUi := Lib.hid hui
      clear hr hqc hu hum hui hx hkx hg hgb hnA hgq1 hgq2
      obtain ⟨un, hun9⟩ : ∃ k, u.1 = k := ⟨_, rfl⟩
      rw [hun9] at hul hck hcq hun
      have HUn := Lib.hid hun9
      clear hun9
      go_wp2
      go_quiet (fail)
      clear hck hcq hc0
      go_wp2
      go_loopw [7, 33] (fun qv jv wr => ∃ (j : Nat) (R : List (Nat × Nat)) (A : Option Addr) (c : Nat), j ≤ x.kids.length ∧ R = Q ++ seatsUp (x.kids.take j) out i ∧ R.length ≤ Q.length + j ∧ qv = .slice A R.length c ∧ jv = .int .i64 j ∧ Hid (wr.ownsRow w.heap.size 144 2 (.slice A R.length c) R.length (tsC R)) ∧ Hid (Below w.heap.size w wr)) (fun _ jv _ => x.kids.length - (intOf jv).toNat)
      case atStart =>
        refine ⟨0, Q, some ⟨gq, 0, none⟩, c, by omega, by simp [seatsUp], by omega, rfl, rfl, ?_, teDrN HV.out _⟩
        exact HO.out
      case round =>
        obtain ⟨j, R, A2, c2, hj, hR, hRl, rfl, rfl, HO2, HV2⟩ := hrel
        have HR := Lib.hid hR
        clear hR
        by_cases hjl : j < x.kids.length
        · have hkj : j < m.L[un].kids.length := by simp only [← HUn.out, HX.out]; exact hjl
          obtain ⟨gk, hkA, hgk, hkc⟩ := kid_cells (HH.out.later HV2.out) hul hkj
          have hkA' : x.kA = some ⟨gk, 0, none⟩ := by rw [← hkA]; simp only [← HUn.out, HX.out]
          obtain ⟨ch, hch⟩ : ∃ k, x.kids[j] = k := ⟨_, rfl⟩
          have hkc' : wr.cell? ⟨gk, j, none⟩ = some (.int .i64 (ch : Int)) := by rw [hkc, ← hch]; simp only [← HUn.out, HX.out]
          have hjn : (j : Int) < (x.kids.length : Int) := by omega
          have hnx := seatsUp_next (out := out) (i := i) hjl
          rw [hch] at hnx
          have HNx := Lib.hid hnx
          have hb1 : ∀ wq : World, (Instr.build 144 #[(0, .int .i64 (ch : Int)), (1, .int .i64 (i : Int))]).run Tryz.prog wq = .ok (.agg (tsC1 (ch, i)).toArray) wq := fun wq => by kernel_rfl
          clear hkc hkA hnx hch hkj hgk
          rw [hkA']
          by_cases hco : ch = out
          · have hco2 : ((ch : Int) != (out : Int)) = false := by rw [bne_eq_false_iff_eq]; omega
            have hco3 : ((ch : Int) == (out : Int)) = true := by rw [beq_iff_eq]; omega
            go_wp2
            go_roundw
            case rel => exact ⟨j + 1, R, A2, c2, by omega, by rw [HNx.out, if_pos hco, List.append_nil]; exact HR.out, by omega, rfl, by go_num, HO2.out, HV2.out⟩
            case measure => simp [intOf] <;> omega
          · have hco2 : ((ch : Int) != (out : Int)) = true := by rw [bne_iff_ne]; omega
            have hco3 : ((ch : Int) == (out : Int)) = false := by rw [beq_eq_false_iff_ne]; omega
            have DA : Hid (Below wr.heap.size wr (wr.alloc (.cells (tsC1 (ch, i)).toArray 144))) := nxAlloc (nxRefl wr) _
            have hwb : w.heap.size ≤ wr.heap.size := HV2.out.size
            go_wp2_with (first
              | ((with_reducible show wpList _ _ _ (⟨some 44, _, _, _, _, _⟩ :: _) _ _); refine wpList_build1 rfl 138 144 (.tmp 43) rfl (tsC1 (ch, i)) _ 2 16 Tryz.underlying138 Tryz.tinfoS (by decide) (by decide) rfl rfl ?_)
              | ((with_reducible show wpList _ _ _ (⟨some 45, _, _, _, _, _⟩ :: _) _ _); refine wpList_append_seesV rfl (.tmp 40) (.tmp 44) 138 rfl w.heap.size 144 i1 _ 2 16 Tryz.underlying138 hi1 hy0 hy1 hy2 rfl (by decide) (.slice A2 R.length c2) R.length (tsC R) rfl (own_below HO2.out DA.out (fun g hg => (own_lt HO2.out g hg).2)) _ (some ⟨wr.heap.size, 0, none⟩) 1 1 (tsC1 (ch, i)) rfl rfl (SeesV.blk (heap_alloc_new wr _)) (by intro u hu; simp [tsC1] at hu; rcases hu with rfl | rfl <;> rfl) (by omega) (by omega) (by simp; omega) ?_; intro v7 w7 ho7 hg7 ha7; obtain ⟨A7, c7, rfl⟩ := own_form ho7; have O7 := Lib.hid ho7; have V7 : Hid (Below w.heap.size w w7) := (nxAlloc HV2.out _).grown hg7 (by simp; omega) (fun j hj => (own_lt HO2.out j hj).1); clear ho7 hg7 ha7))
            go_roundw
            case rel =>
              have e2 : (R ++ [(ch, i)]).length = R.length + 1 := by simp
              refine ⟨j + 1, R ++ [(ch, i)], A7, c7, by omega, by rw [HNx.out, if_neg hco, ← List.append_assoc, ← HR.out], by rw [e2]; omega, by rw [e2], by go_num, ?_, V7.out⟩
              show World.ownsRow _ _ _ _ _ _ _
              rw [e2, tsC_snoc]
              exact O7.out
            case measure => simp [intOf] <;> omega
        · obtain rfl : j = x.kids.length := by omega
          go_wp2
          go_roundw
          case rel =>
            have e1 : R = Q ++ nextT m.T out i Q := by
              rw [HR.out, List.take_length]
              unfold nextT seatsUp
              rw [HUi.out, HKx.out]
            exact ⟨i + 1, R, A2, c2, by rw [e1, List.length_append]; omega, rfl, by go_num, by show Bf _ _ _ _ _; rw [e1]; exact HB.out.step HS.out.ok hlt, HO2.out, HV2.out⟩
          case measure => simp [intOf] <;> omega
    · obtain rfl : i = Q.length := by omega
      go_wp2
      go_ret
      exact ⟨Q, A, c, rfl, HO.out, HV.out, HB.out⟩
end Go.Proofs.YtbfpckomgpkjgaaGreat

namespace Go.Proofs.YtbfpckomgpkjgaaGreat
open Go.RowKit

theorem te_width (w : World) (x : NdM) (h1 : x.d.lo ≤ x.d.hi) (h2 : x.d.hi ≤ 4611686018427387904) : Calls Tryz.prog 102 #[.agg (tndC x).toArray] w fun e w' => e = .returned (.int .u64 ((x.d.hi - x.d.lo + 1 : Nat) : Int)) ∧ Below w.heap.size w w' := by
  have B0 : Hid (Blk (w.alloc (.cells (tndC x).toArray 109)) w.heap.size 109 (tndC x).toArray) := heap_alloc_new w _
  have V0 : Hid (Below w.heap.size w (w.alloc (.cells (tndC x).toArray 109))) := nxAlloc (nxRefl w) _
  have c3 : (w.alloc (.cells (tndC x).toArray 109)).cell? ⟨w.heap.size, 3, none⟩ = some (.int .u64 (x.d.lo : Int)) := B0.out.cell 3
  have c4 : (w.alloc (.cells (tndC x).toArray 109)).cell? ⟨w.heap.size, 4, none⟩ = some (.int .u64 (x.d.hi : Int)) := B0.out.cell 4
  obtain ⟨z, hz⟩ : ∃ z, x.d.hi - x.d.lo + 1 = z := ⟨_, rfl⟩
  rw [hz]
  have HZ : Hid (((x.d.hi : Int) - (x.d.lo : Int) + 1) = (z : Int)) := by show _ = _; omega
  clear hz
  go_enter Tryz.func102, Tryz.ntmps102
  go_wp2
  go_ret
  exact ⟨by first | rfl | (show _ = Ending.returned (Value.int .u64 (z : Int)); rw [← HZ.out]; first | rfl | (congr 2; go_num)), V0.out⟩
theorem te_shares (w : World) (s : Nat) (h1 : 1 ≤ s) (h2 : s ≤ 1000) : Calls Tryz.prog 103 #[.int .u64 (s : Int)] w fun e w' => e = .returned (.int .u64 ((2 * s - 1 : Nat) : Int)) ∧ w' = w := by
  obtain ⟨z, hz⟩ : ∃ z, 2 * s - 1 = z := ⟨_, rfl⟩
  rw [hz]
  have HZ : Hid (((2 : Int) * (s : Int) - 1) = (z : Int)) := by show _ = _; omega
  clear hz
  go_enter Tryz.func103, Tryz.ntmps103
  go_wp2
  go_ret
  exact ⟨by first | rfl | (show _ = Ending.returned (Value.int .u64 (z : Int)); rw [← HZ.out]; first | rfl | (congr 2; go_num)), rfl⟩
theorem te_isRoomy (w : World) (wd s : Nat) (h1 : 1 ≤ s) (h2 : s ≤ 1000) (h3 : wd ≤ 4611686018427387904) : Calls Tryz.prog 104 #[.int .u64 (wd : Int), .int .u64 (s : Int)] w fun e w' => e = .returned (.bool (decide (16 * s ≤ wd / s))) ∧ w' = w := by
  have hd := Nat.div_le_self wd s
  have e1 : Int.tdiv (wd : Int) (s : Int) = ((wd / s : Nat) : Int) := rfl
  obtain ⟨q, hq⟩ : ∃ q, wd / s = q := ⟨_, rfl⟩
  rw [hq] at hd e1 ⊢
  have e2 : IntKind.u64.wrap (Int.tdiv (wd : Int) (s : Int)) = (q : Int) := by rw [e1, IntKind.wrap_u64]; omega
  have e3 : ¬ ((s : Int) = 0) := by omega
  cases hb : decide (16 * s ≤ q) with
  | true =>
    have hb2 : (16 : Int) * (s : Int) ≤ (q : Int) := by have := of_decide_eq_true hb; omega
    clear hb hq
    go_enter Tryz.func104, Tryz.ntmps104
    go_wp2
    go_ret
    exact ⟨by first | rfl | simp [hb2], rfl⟩
  | false =>
    have hb2 : ¬ (16 : Int) * (s : Int) ≤ (q : Int) := by have := of_decide_eq_false hb; omega
    clear hb hq
    go_enter Tryz.func104, Tryz.ntmps104
    go_wp2
    go_ret
    exact ⟨by first | rfl | simp [hb2], rfl⟩
end Go.Proofs.YtbfpckomgpkjgaaGreat

namespace Go.Proofs.YtbfpckomgpkjgaaGreat
open Go.RowKit

theorem te_unguard {P : Program} {ops : Array Oper} {rest : List Oper} {o : Oper} {a : Act} {w : World} {Q : Exit → Act → World → Prop} (hw : Region.wanted o (yielded ops a.tmps) = true)
    (h : wpList P ops Q ({ o with guard := none } :: rest) a w) : wpList P ops Q (o :: rest) a w := by
  unfold wpList at h ⊢
  rw [if_pos hw]
  rw [if_pos (by simp [Region.wanted])] at h
  exact h
theorem cnt_pos {T : List Nd} {n : Nat} (hn : n < T.length) (out : Nat) (h : out ≠ 0 → ¬ Und T n out) : 0 < cntT T n out := by
  unfold cntT
  refine List.length_pos_of_mem (a := n) (List.mem_filter.2 ⟨List.mem_range.2 hn, ?_⟩)
  exact @decide_eq_true _ (Classical.propDecidable _) ⟨hn, .refl _, h⟩
theorem cnt_le (T : List Nd) (n out : Nat) : cntT T n out ≤ T.length := by
  unfold cntT
  refine Nat.le_trans (List.length_filter_le _ _) ?_
  simp
set_option maxRecDepth 100000 in
set_option maxHeartbeats 4000000 in
theorem te_roomy (w : World) (base : Nat) (m : TrM) (h : TrOk w base m) (hS : TrS m) (p : Nat) (hp : p < m.L.length) (hiv : ∀ v, Und m.T p v → 1 ≤ (ndT m.T v).lo ∧ (ndT m.T v).lo ≤ (ndT m.T v).hi ∧ (ndT m.T v).hi ≤ 4611686018427387904) :
    Calls Tryz.prog 87 #[.pointer (some ⟨m.q, 0, none⟩), .int .i64 (p : Int)] w fun e w' => ∃ top : Nat, e = .returned (.int .i64 (top : Int)) ∧ Und m.T p top ∧ (top = 0 ∨ 16 * cntT m.T top 0 ≤ ((ndT m.T top).hi - (ndT m.T top).lo + 1) / cntT m.T top 0) ∧ Below w.heap.size w w' := by
  have hmx : m.L.length ≤ 1000 := by have := hS.ok.max; rwa [m.T_len] at this
  have HH := Lib.hid h
  have HS := Lib.hid hS
  have HI := Lib.hid hiv
  clear h hS hiv
  go_enter Tryz.func87, Tryz.ntmps87
  go_wp2_with (go_at_call 100; refine (te_below w base m HH.out HS.out p hp 0).mono ?_; rintro e1 w1 ⟨Q1, A1, c1, rfl, ho1, hb1, hf1⟩; have V1 := Lib.hid hb1; have F1 : Hid (Q1.length = cntT m.T p 0) := hf1.cnt HS.out.ok (by rw [m.T_len]; exact hp) (.inl rfl); have hq1 : Q1.length ≤ 1000 := (by have := hf1.len.2; rw [m.T_len] at this; omega); clear ho1 hb1 hf1)
  go_loopw [1, 5] (fun nv sv wr => ∃ v s : Nat, nv = .int .i64 v ∧ sv = .int .i64 s ∧ Hid (Und m.T p v) ∧ Hid (s = cntT m.T v 0) ∧ Hid (Below w.heap.size w wr)) (fun nv _ _ => (intOf nv).toNat)
  case atStart => exact ⟨p, Q1.length, rfl, rfl, .refl _, F1.out, V1.out⟩
  case round =>
    obtain ⟨v, s, rfl, rfl, HU, HC, HV⟩ := hrel
    have hvp := HU.out.le HS.out.ok
    have hvl : v < m.L.length := by omega
    have hvT : v < m.T.length := by rw [m.T_len]; exact hvl
    have hs1 : 1 ≤ s := by rw [HC.out]; exact cnt_pos hvT 0 (fun h => absurd rfl h)
    have hs2 : s ≤ 1000 := by rw [HC.out]; have := cnt_le m.T v 0; rw [m.T_len] at this; omega
    by_cases hv0 : v = 0
    · subst hv0
      go_wp2
      go_ret
      exact ⟨0, rfl, HU.out, .inl rfl, HV.out⟩
    · have hvn : ((v : Int) != 0) = true := by rw [bne_iff_ne]; omega
      have hvn2 : ((v : Int) == 0) = false := by rw [beq_eq_false_iff_ne]; omega
      have HT : Hid (TrOk wr base m) := HH.out.later HV.out
      obtain ⟨g, hnA, hg, hgb, hc0, hr⟩ := nd_cells HT.out hvl
      have hiv := HI.out v HU.out
      have hTv := m.T_at hvl
      obtain ⟨x, hx⟩ : ∃ x, m.L[v] = x := ⟨_, rfl⟩
      rw [hx] at hr hTv
      rw [hTv] at hiv
      have HR := Lib.hid hr
      have hcp := (nd_c hr).1
      have hwd : x.d.hi - x.d.lo + 1 ≤ 4611686018427387904 := by omega
      have hvn3 : (v : Int) < (m.L.length : Int) := by omega
      have HWd := Lib.hid (te_width wr x hiv.2.1 hiv.2.2)
      have HTv := Lib.hid hTv
      have HQl : Hid (m.q < wr.heap.size) := HT.out.b.lt
      have HGl := Lib.hid hg
      obtain ⟨z, hz⟩ : ∃ z, x.d.hi - x.d.lo + 1 = z := ⟨_, rfl⟩
      rw [hz] at hwd HWd
      have HZ := Lib.hid hz
      have hpl := HS.out.ok.lt v (by omega) hvT
      rw [HTv.out] at hpl
      have hkid : v ∈ kidsT m.T x.d.par := mem_kids.2 ⟨by omega, hvT, by rw [HTv.out]⟩
      have HKid := Lib.hid hkid
      have HQ0 := Lib.hid hc0
      have HP0 := Lib.hid hcp
      clear hr hg hgb hnA hx hTv hz hiv hkid hc0 hcp
      have hrm := fun W => te_isRoomy W z s hs1 hs2 hwd
      cases hb : decide (16 * s ≤ z / s) with
      | true =>
        rw [hb] at hrm
        have HRm := Lib.hid hrm
        have HBt := Lib.hid (of_decide_eq_true hb)
        clear hrm hb
        have hcq := HQ0.out
        go_wp2_with (first
          | ((with_reducible show wpList _ _ _ (⟨some 20, _, _, _, _, _⟩ :: _) _ _); refine te_unguard (by rfl) ?_; refine wpList_load_mid rfl 109 (.tmp 19) rfl g (v * 5) rfl (tndC x) _ HR.out Tryz.underlying109 rfl Tryz.tsizeN ?_)
          | (go_at_call 102; refine HWd.out.mono ?_; rintro e2 w2 ⟨rfl, hb2⟩; have V2 : Hid (Below w.heap.size w w2) := nxTo HV.out hb2; clear hb2)
          | (go_at_call 104; refine (HRm.out _).mono ?_; rintro e3 w3 ⟨rfl, hw3⟩; obtain rfl := hw3.symm))
        go_ret
        exact ⟨v, rfl, HU.out, .inr (by rw [← HC.out, HTv.out, HZ.out]; exact HBt.out), V2.out⟩
      | false =>
        rw [hb] at hrm
        have HRm := Lib.hid hrm
        clear hrm hb
        have hcq := HQ0.out
        go_wp2_with (first
          | ((with_reducible show wpList _ _ _ (⟨some 20, _, _, _, _, _⟩ :: _) _ _); refine te_unguard (by rfl) ?_; refine wpList_load_mid rfl 109 (.tmp 19) rfl g (v * 5) rfl (tndC x) _ HR.out Tryz.underlying109 rfl Tryz.tsizeN ?_)
          | (go_at_call 102; refine HWd.out.mono ?_; rintro e2 w2 ⟨rfl, hb2⟩; have V2 : Hid (Below w.heap.size w w2) := nxTo HV.out hb2; have cq2 : w2.cell? ⟨m.q, 0, none⟩ = some (.slice (some ⟨g, 0, none⟩) m.L.length m.nc) := (hb2.cell (p := ⟨m.q, 0, none⟩) HQl.out).trans HQ0.out; have cp2 : w2.cell? ⟨g, v * 5, none⟩ = some (.int .i64 (x.d.par : Int)) := (hb2.cell (p := ⟨g, v * 5, none⟩) HGl.out).trans HP0.out; clear hb2)
          | (go_at_call 104; refine (HRm.out _).mono ?_; rintro e3 w3 ⟨rfl, hw3⟩; obtain rfl := hw3.symm)
          | (go_at_call 100; refine (te_below w2 base m (HH.out.later V2.out) HS.out x.d.par (by omega) v).mono ?_; rintro e4 w4 ⟨Q4, A4, c4, rfl, ho4, hb4, hf4⟩; have V4 : Hid (Below w.heap.size w w4) := nxTo V2.out hb4; have F4 : Hid (Q4.length = cntT m.T x.d.par v) := hf4.cnt HS.out.ok (by omega) (.inr HKid.out); have hq4 : Q4.length ≤ 1000 := (by have := hf4.len.2; rw [m.T_len] at this; omega); clear ho4 hb4 hf4))
        go_roundw
        case rel =>
          refine ⟨x.d.par, s + Q4.length, rfl, by go_num, ?_, ?_, V4.out⟩
          · exact HU.out.trans (Und.kid HKid.out)
          · show _ = _
            rw [F4.out, HC.out, cnt_up HS.out.ok HKid.out]
        case measure => simp [intOf] <;> omega
end Go.Proofs.YtbfpckomgpkjgaaGreat
