/-
  ShaTables: the walk of times.
-/
import Derived.Test.YtbfahmpppkjpbaaDoorTab1
import Derived.BigRegion
namespace Go.Proofs.YtbfahmpppkjpbaaDoor
open Go.RowKit

theorem blk_u64 {w : World} {g : Nat} {t : TypeId} {l : List Nat} (hb : Blk w g t (Us l).toArray) (i : Nat) (h : i < l.length) : w.cell? ⟨g, i, none⟩ = some (.int .u64 ((l.getD i 0 : Nat) : Int)) := by
  rw [hb.cell i, List.getElem?_toArray, Us_get l i h]
theorem blk_u64_set {w : World} {g : Nat} {t : TypeId} {l : List Nat} (hb : Blk w g t (Us l).toArray) (i x : Nat) : Blk (w.setCell ⟨g, i, none⟩ (.int .u64 (x : Int))) g t (Us (l.set i x)).toArray := by
  have h := hb.set i (.int .u64 (x : Int))
  rwa [List.setIfInBounds_toArray, Us_set] at h
theorem made_us (n : Nat) : madeCells #[.int .u64 0] n = (Us (List.replicate n 0)).toArray := by
  apply Array.ext
  · simp [size_madeCells, Us]
  · intro i h1 h2
    simp [madeCells, Us, Nat.mod_one]

theorem wrap_nat (n : Nat) : IntKind.u64.wrap (n : Int) = ((n % 18446744073709551616 : Nat) : Int) := by rw [IntKind.wrap_u64]; omega
theorem wrap_zxy (z x y : Nat) : IntKind.u64.wrap ((z : Int) + IntKind.u64.wrap ((x : Int) * (y : Int))) = (((z + x * y % 18446744073709551616) % 18446744073709551616 : Nat) : Int) := by
  rw [← Int.natCast_mul, wrap_nat, ← Int.natCast_add, wrap_nat]
theorem wrap_pq (p q : Nat) : IntKind.u64.wrap ((p : Int) + IntKind.u64.wrap ((q : Int) / 65536)) = (((p + q / 65536 % 18446744073709551616) % 18446744073709551616 : Nat) : Int) := by
  have e : (q : Int) / 65536 = ((q / 65536 : Nat) : Int) := by omega
  rw [e, wrap_nat, ← Int.natCast_add, wrap_nat]

set_option maxHeartbeats 4000000 in
set_option maxRecDepth 100000 in
theorem times_any (w : World) (A B : Option Addr) (c d : Nat) (a b : List Nat) (hA : SeesV w w.heap.size A (Us a)) (hB : SeesV w w.heap.size B (Us b)) (hla : a.length ≤ 1000) (hlb : b.length ≤ 1000) :
    Calls Tryd.prog 65 #[.slice A a.length c, .slice B b.length d] w (RowPost w (timesL a b)) := by
  have HA := Lib.hid hA
  have HB := Lib.hid hB
  clear hA hB
  obtain ⟨i0, hi, hz0, hz1, hz2⟩ := info_parts Tryd.u64info
  obtain ⟨N, hN⟩ : ∃ N, a.length + b.length + 1 = N := ⟨_, rfl⟩
  have HN := Lib.hid hN
  have hNs : N ≤ 2001 := by omega
  clear hN
  go_enter Tryd.func65, Tryd.ntmps65
  go_wp2_with ((with_reducible show wpList _ _ _ (⟨some 15, _, _, _, _, _⟩ :: _) _ _); refine wpList_make_row _ rfl (.tmp 14) (.tmp 14) 32 rfl 31 i0 (.int .u64 0) Tryd.underlying32 hi hz0 hz1 rfl .i64 .i64 N (by rw [← HN.out]; rfl) (by rw [← HN.out]; rfl) (by rw [hz2]; omega) (by omega) ?_; rw [made_us])
  have B0 : Hid (Blk (w.alloc (.cells (Us (List.replicate N 0)).toArray 31)) w.heap.size 31 (Us (List.replicate N 0)).toArray) := Lib.hid (heap_alloc_new w _)
  have Hb0 : Hid (Below w.heap.size w (w.alloc (.cells (Us (List.replicate N 0)).toArray 31))) := Lib.hid ((Below.refl _ _).alloc (Nat.le_refl _) _)
  generalize hG : w.heap.size = G at *
  have HG := Lib.hid hG
  clear hG
  go_loopw [6] (fun iv wr => ∃ i : Nat, i ≤ a.length ∧ iv = .int .i64 i ∧ Hid (Blk wr G 31 (Us (tOut a b i)).toArray) ∧ Hid (Below G w wr)) (fun iv _ => a.length - (intOf iv).toNat)
  case atStart => exact ⟨0, by omega, rfl, by show Blk _ _ _ _; rw [tOut, HN.out]; exact B0.out, Hb0.out⟩
  case round =>
    clear B0 Hb0
    obtain ⟨i, hi0, rfl, HE, Hb⟩ := hrel
    by_cases hlt : i < a.length
    · obtain ⟨ba, oa, rfl, hba, hca⟩ := SeesV.u64 HA.out hlt
      have hca0 := hca i hlt
      generalize hx : a.getD i 0 = x at hca0
      have HX := Lib.hid hx
      have Hca : Hid (w.cell? ⟨ba, oa + i, none⟩ = some (.int .u64 (x : Int))) := hca0
      clear hca hca0 hx
      obtain ⟨wo, rfl⟩ : ∃ wo : World, wo = wr := ⟨_, rfl⟩
      go_wp2
      go_loopw [7] (fun kv wq => ∃ k : Nat, k ≤ b.length ∧ kv = .int .i64 k ∧ Hid (Blk wq G 31 (Us (tIn x b i (tOut a b i) k)).toArray) ∧ Hid (Below G w wq)) (fun kv _ => b.length - (intOf kv).toNat)
      case atStart => exact ⟨0, by omega, rfl, HE.out, Hb.out⟩
      case round =>
        clear HE Hb
        obtain ⟨k, hk0, rfl, HE, Hb⟩ := hrel
        by_cases hlk : k < b.length
        · obtain ⟨bb, ob, rfl, hbb, hcb⟩ := SeesV.u64 HB.out hlk
          have hcb0 := hcb k hlk
          generalize hy : b.getD k 0 = y at hcb0
          have HI : Hid (tIn x b i (tOut a b i) (k + 1) = tStep x y i k (tIn x b i (tOut a b i) k)) := by show _ = _; rw [tIn, hy]
          have HL : Hid ((tIn x b i (tOut a b i) k).length = N) := by show _ = _; rw [tIn_len, tOut_len]; exact HN.out
          clear hcb hy
          generalize tIn x b i (tOut a b i) k = l at *
          have hik : i + k + 1 < N := by have := HN.out; omega
          have c1 := blk_u64 HE.out (i + k) (by rw [HL.out]; omega)
          have f1 := HE.out.frozen (i + k)
          have c2 : wr.cell? ⟨ba, oa + i, none⟩ = some (.int .u64 (x : Int)) := (Hb.out.cell (p := ⟨ba, oa + i, none⟩) hba).trans Hca.out
          have c3 : wr.cell? ⟨bb, ob + k, none⟩ = some (.int .u64 (y : Int)) := (Hb.out.cell (p := ⟨bb, ob + k, none⟩) hbb).trans hcb0
          generalize hz : l.getD (i + k) 0 = z at c1
          have v1 : IntKind.i64.wrap ((i : Int) + (k : Int)) = (i : Int) + (k : Int) := by rw [IntKind.wrap_i64]; omega
          have v2 : (0 : Int) ≤ (i : Int) + (k : Int) := by omega
          have v3 : ((i : Int) + (k : Int)).toNat = i + k := by omega
          have v4 : (i : Int) + (k : Int) < (N : Int) := by omega
          go_wp2
          go_region
          obtain ⟨v, hv⟩ : ∃ v, (z + x * y % 18446744073709551616) % 18446744073709551616 = v := ⟨_, rfl⟩
          rw [wrap_zxy, hv]
          have HE1 : Hid (Blk (wr.setCell ⟨G, i + k, none⟩ (.int .u64 (v : Int))).drew G 31 (Us (l.set (i + k) v)).toArray) := blk_u64_set HE.out (i + k) v
          have Hb1 : Hid (Below G w (wr.setCell ⟨G, i + k, none⟩ (.int .u64 (v : Int))).drew) := Below.drew (Hb.out.setCell (p := ⟨G, i + k, none⟩) (Nat.le_refl _) _)
          have HV : Hid ((l.getD (i + k) 0 + (x * y) % 18446744073709551616) % 18446744073709551616 = v) := by show _ = _; rw [hz, hv]
          have HL1 : Hid ((l.set (i + k) v).length = N) := by show _ = _; rw [List.length_set, HL.out]
          clear c1 f1 c2 c3 hz hv HE Hb
          generalize hl1 : l.set (i + k) v = l1 at *
          have HL1e := Lib.hid hl1
          clear hl1
          generalize (wr.setCell ⟨G, i + k, none⟩ (.int .u64 (v : Int))).drew = w1 at *
          have c1 := blk_u64 HE1.out (i + k) (by rw [HL1.out]; omega)
          have c2 := blk_u64 HE1.out (i + k + 1) (by rw [HL1.out]; omega)
          have f2 := HE1.out.frozen (i + k + 1)
          generalize hq : l1.getD (i + k) 0 = q at c1
          generalize hp : l1.getD (i + k + 1) 0 = p at c2
          have v5 : IntKind.i64.wrap ((i : Int) + (k : Int) + 1) = (i : Int) + (k : Int) + 1 := by rw [IntKind.wrap_i64]; omega
          have v6 : (0 : Int) ≤ (i : Int) + (k : Int) + 1 := by omega
          have v7 : ((i : Int) + (k : Int) + 1).toNat = i + k + 1 := by omega
          have v8 : (i : Int) + (k : Int) + 1 < (N : Int) := by omega
          go_wp2
          go_region
          obtain ⟨r, hr⟩ : ∃ r, (p + q / 65536 % 18446744073709551616) % 18446744073709551616 = r := ⟨_, rfl⟩
          rw [wrap_pq, hr]
          have HE2 : Hid (Blk (w1.setCell ⟨G, i + k + 1, none⟩ (.int .u64 (r : Int))).drew G 31 (Us (l1.set (i + k + 1) r)).toArray) := blk_u64_set HE1.out (i + k + 1) r
          have Hb2 : Hid (Below G w (w1.setCell ⟨G, i + k + 1, none⟩ (.int .u64 (r : Int))).drew) := Below.drew (Hb1.out.setCell (p := ⟨G, i + k + 1, none⟩) (Nat.le_refl _) _)
          have HR : Hid ((l1.getD (i + k + 1) 0 + l1.getD (i + k) 0 / 65536 % 18446744073709551616) % 18446744073709551616 = r) := by show _ = _; rw [hp, hq, hr]
          have HL2 : Hid ((l1.set (i + k + 1) r).length = N) := by show _ = _; rw [List.length_set, HL1.out]
          clear c1 c2 f2 hp hq hr HE1 Hb1
          generalize hl2 : l1.set (i + k + 1) r = l2 at *
          have HL2e := Lib.hid hl2
          clear hl2
          generalize (w1.setCell ⟨G, i + k + 1, none⟩ (.int .u64 (r : Int))).drew = w2 at *
          have c1 := blk_u64 HE2.out (i + k) (by rw [HL2.out]; omega)
          have f1 := HE2.out.frozen (i + k)
          generalize hs : l2.getD (i + k) 0 = s at c1
          have HE3 : Hid (Blk (w2.setCell ⟨G, i + k, none⟩ (.int .u64 ((s : Int) % 65536))) G 31 (Us (tStep x y i k l)).toArray) := by
            show Blk _ _ _ _
            have h := blk_u64_set HE2.out (i + k) (s % 65536)
            have e : tStep x y i k l = l2.set (i + k) (s % 65536) := by simp only [tStep]; rw [HV.out, HL1e.out, HR.out, HL2e.out, hs]
            rw [e]
            have e2 : ((s % 65536 : Nat) : Int) = (s : Int) % 65536 := by omega
            rwa [e2] at h
          have Hb3 : Hid (Below G w (w2.setCell ⟨G, i + k, none⟩ (.int .u64 ((s : Int) % 65536)))) := Lib.hid (Hb2.out.setCell (p := ⟨G, i + k, none⟩) (Nat.le_refl _) _)
          clear hs HE2 Hb2
          go_wp2
          go_roundw
          case rel => exact ⟨k + 1, by omega, by go_num, by show Blk _ _ _ _; rw [HI.out]; exact HE3.out, Hb3.out⟩
          case measure => simp [intOf]; omega
        · obtain rfl : k = b.length := by omega
          have HE' : Hid (Blk wr G 31 (Us (tOut a b (i + 1))).toArray) := by show Blk _ _ _ _; rw [tOut, HX.out]; exact HE.out
          clear HE
          go_wp2
          go_roundw
          case rel => exact ⟨i + 1, by omega, by go_num, HE'.out, Hb.out⟩
          case measure => simp [intOf]; omega
    · obtain rfl : i = a.length := by omega
      generalize hl : tOut a b a.length = l0 at *
      have HL0 : Hid (tOut a b a.length = l0) := hl
      have HN0 : Hid (l0.length = N) := by show _ = _; rw [← hl, tOut_len]; exact HN.out
      clear hl
      go_wp2
      go_loopw [8] (fun iv wq => ∃ i : Nat, i + 1 ≤ N ∧ iv = .int .i64 i ∧ Hid (Blk wq G 31 (Us (carryL l0 i)).toArray) ∧ Hid (Below G w wq)) (fun iv _ => N - (intOf iv).toNat)
      case atStart => exact ⟨0, by have := HN.out; omega, rfl, HE.out, Hb.out⟩
      case round =>
        clear HE Hb
        obtain ⟨i, hi0, rfl, HE, Hb⟩ := hrel
        by_cases hlt : i + 1 < N
        · have HL : Hid ((carryL l0 i).length = N) := by show _ = _; rw [carryL_len, HN0.out]
          have HI : Hid (carryL l0 (i + 1) = cStep i (carryL l0 i)) := rfl
          generalize carryL l0 i = l1 at *
          have c1 := blk_u64 HE.out i (by rw [HL.out]; omega)
          have c2 := blk_u64 HE.out (i + 1) (by rw [HL.out]; omega)
          have f2 := HE.out.frozen (i + 1)
          generalize hq : l1.getD i 0 = q at c1
          generalize hp : l1.getD (i + 1) 0 = p at c2
          have v5 : IntKind.i64.wrap ((i : Int) + 1) = (i : Int) + 1 := by rw [IntKind.wrap_i64]; omega
          have v6 : (0 : Int) ≤ (i : Int) + 1 := by omega
          have v7 : ((i : Int) + 1).toNat = i + 1 := by omega
          have v8 : (i : Int) + 1 < (N : Int) := by omega
          have v9 : (i : Int) < (N : Int) := by omega
          go_wp2
          go_region
          obtain ⟨r, hr⟩ : ∃ r, (p + q / 65536 % 18446744073709551616) % 18446744073709551616 = r := ⟨_, rfl⟩
          rw [wrap_pq, hr]
          have HE2 : Hid (Blk (wr.setCell ⟨G, i + 1, none⟩ (.int .u64 (r : Int))).drew G 31 (Us (l1.set (i + 1) r)).toArray) := blk_u64_set HE.out (i + 1) r
          have Hb2 : Hid (Below G w (wr.setCell ⟨G, i + 1, none⟩ (.int .u64 (r : Int))).drew) := Below.drew (Hb.out.setCell (p := ⟨G, i + 1, none⟩) (Nat.le_refl _) _)
          have HR : Hid ((l1.getD (i + 1) 0 + l1.getD i 0 / 65536 % 18446744073709551616) % 18446744073709551616 = r) := by show _ = _; rw [hp, hq, hr]
          have HL2 : Hid ((l1.set (i + 1) r).length = N) := by show _ = _; rw [List.length_set, HL.out]
          clear c1 c2 f2 hp hq hr HE Hb v5 v6 v7 v8
          generalize hl2 : l1.set (i + 1) r = l2 at *
          have HL2e := Lib.hid hl2
          clear hl2
          generalize (wr.setCell ⟨G, i + 1, none⟩ (.int .u64 (r : Int))).drew = w2 at *
          have c1 := blk_u64 HE2.out i (by rw [HL2.out]; omega)
          have f1 := HE2.out.frozen i
          generalize hs : l2.getD i 0 = s at c1
          have HE3 : Hid (Blk (w2.setCell ⟨G, i, none⟩ (.int .u64 ((s : Int) % 65536))) G 31 (Us (cStep i l1)).toArray) := by
            show Blk _ _ _ _
            have h := blk_u64_set HE2.out i (s % 65536)
            have e : cStep i l1 = l2.set i (s % 65536) := by simp only [cStep]; rw [HR.out, HL2e.out, hs]
            rw [e]
            have e2 : ((s % 65536 : Nat) : Int) = (s : Int) % 65536 := by omega
            rwa [e2] at h
          have Hb3 : Hid (Below G w (w2.setCell ⟨G, i, none⟩ (.int .u64 ((s : Int) % 65536)))) := Lib.hid (Hb2.out.setCell (p := ⟨G, i, none⟩) (Nat.le_refl _) _)
          clear hs HE2 Hb2
          go_wp2
          go_roundw
          case rel => exact ⟨i + 1, by omega, by go_num, by show Blk _ _ _ _; rw [HI.out]; exact HE3.out, Hb3.out⟩
          case measure => simp [intOf]; omega
        · obtain rfl : N = i + 1 := by omega
          have HT : Hid (timesL a b = carryL l0 i) := by
            show _ = _
            have := HN.out
            rw [timesL, HL0.out, show a.length + b.length = i by omega]
          have HTl : Hid ((carryL l0 i).length = i + 1) := by show _ = _; rw [carryL_len, HN0.out]
          clear HL0
          go_wp2
          go_ret
          refine ⟨some ⟨G, 0, none⟩, i + 1, ?_, ?_, ?_⟩
          · rw [HT.out, HTl.out]; rfl
          · rw [HT.out]; have h := SeesV.blk HE.out; simpa using h
          · rw [HG.out]; exact Hb.out

end Go.Proofs.YtbfahmpppkjpbaaDoor
