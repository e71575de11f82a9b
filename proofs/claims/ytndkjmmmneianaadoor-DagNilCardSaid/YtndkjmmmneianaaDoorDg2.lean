/-
  dag: how two hashes stand; rows of bits in memory.
-/
import Derived.Test.YtndkjmmmneianaaDoorBc
import Derived.Test.YtndkjmmmneianaaDoorVals
import Derived.Test.YtndkjmmmneianaaDoorDg3
import Derived.Laws.Bits64b
import Derived.Deep.OwnRows
import Derived.BigQuiet
import Derived.Deep.Quiet
namespace Go.Proofs.YtndkjmmmneianaaDoor
open Go.RowKit

/-- A hash's cells. -/
def hC (h : Hh) : List Value := By h.1
theorem hC_len (h : Hh) : (hC h).length = 32 := by rw [hC, By_length]; exact h.2
theorem hC_one (h : Hh) : ∀ u ∈ hC h, u.oneCell' = true := By_one _
set_option maxHeartbeats 1000000 in
theorem compare_any (w : World) (a b : Hh) : Calls Tryd.prog 62 #[.agg (hC a).toArray, .agg (hC b).toArray] w fun e w' => e = .returned (.int .i64 (cmpH a b)) ∧ ∃ q, w' = ((w.alloc (.cells (hC a).toArray 23)).alloc (.cells (hC b).toArray 23)).drewN q := by
  unfold hC cmpH
  obtain ⟨W, hW⟩ : ∃ W, W = ((w.alloc (.cells (By a.1).toArray 23)).alloc (.cells (By b.1).toArray 23)) := ⟨_, rfl⟩
  have ba : Blk W w.heap.size 23 (By a.1).toArray := by rw [hW]; exact (Blk.alloc (heap_alloc_new w _) _)
  have bb : Blk W (w.heap.size + 1) 23 (By b.1).toArray := by
    rw [hW]
    have := heap_alloc_new (w.alloc (.cells (By a.1).toArray 23)) (.cells (By b.1).toArray 23)
    rw [World.size_alloc] at this
    exact this
  have sa : Hid (Sees W W.heap.size (some ⟨w.heap.size, 0, none⟩) a.1) := .inr ⟨_, _, rfl, ba.lt, fun i hi => by rw [Nat.zero_add, ba.cell i]; simp [By, hi]⟩
  have sb : Hid (Sees W W.heap.size (some ⟨w.heap.size + 1, 0, none⟩) b.1) := .inr ⟨_, _, rfl, bb.lt, fun i hi => by rw [Nat.zero_add, bb.cell i]; simp [By, hi]⟩
  have HW := Lib.hid hW
  have ha := a.2
  have hb := b.2
  generalize a.1 = x at *
  generalize b.1 = y at *
  have hc := fun (q : Nat) => bytesCompare_any (W.drewN q) (some ⟨w.heap.size, 0, none⟩) (some ⟨w.heap.size + 1, 0, none⟩) x y 32 32 sa.out sb.out
  rw [ha, hb] at hc
  have HC := Lib.hid hc
  clear ba bb hW hc ha hb
  go_enter Tryd.func62, Tryd.ntmps62
  go_wp2
  rw [← HW.out]
  go_quiet (first | (go_at_call 73; refine Calls.quiet_of_same (HC.out _)))
  have hw := HW.out
  subst hw
  go_wp2
  go_ret
  exact ⟨rfl, nq, rfl⟩

/-- Words' cells. -/
def uC (ws : List Nat) : List Value := ws.map fun (x : Nat) => .int .u64 (x : Int)
theorem uC_len (ws : List Nat) : (uC ws).length = ws.length := by simp [uC]
theorem uC_at {w : World} {B : Nat} {A : Option Addr} {ws : List Nat} (h : SeesV w B A (uC ws)) {i : Nat} (hi : i < ws.length) : ∃ b off, A = some ⟨b, off, none⟩ ∧ w.cell? ⟨b, off + i, none⟩ = some (.int .u64 (ws[i] : Int)) := by
  obtain ⟨b, off, hA, _, hc⟩ := h.at_ (k := i) (by rw [uC_len]; exact hi)
  refine ⟨b, off, hA, ?_⟩
  rw [hc i (by rw [uC_len]; exact hi)]
  simp [uC]
theorem bit_and (x i : Nat) (hx : x < 18446744073709551616) : (bits BinOp.and IntKind.u64 ((x : Int) / 2 ^ i) 1 == 1) = x.testBit i := by
  have e : (x : Int) / 2 ^ i = ((x / 2 ^ i : Nat) : Int) := by push_cast; rfl
  rw [e]
  have h1 : x / 2 ^ i < 18446744073709551616 := Nat.lt_of_le_of_lt (Nat.div_le_self _ _) hx
  have h2 := bits_and_u64_nat (x / 2 ^ i) 1 h1 (by decide)
  rw [show ((1 : Nat) : Int) = 1 from rfl] at h2
  rw [h2, Nat.and_one_is_mod, Nat.testBit_eq_decide_div_mod_eq, Bool.eq_iff_iff, beq_iff_eq, decide_eq_true_eq]
  omega
theorem has_any (w : World) (A : Option Addr) (c : Nat) (ws : List Nat) (n : Nat) (hS : SeesV w w.heap.size A (uC ws)) (hs : Small ws) (hn : n ≤ 1000000000000) :
    Calls Tryd.prog 38 #[.slice A ws.length c, .int .i64 (n : Int)] w fun e w' => e = .returned (.bool (rowB ws n)) ∧ w' = w := by
  by_cases hlt : n / 64 < ws.length
  · obtain ⟨b, off, rfl, hc⟩ := uC_at hS hlt
    have hx := hs _ (List.getElem_mem hlt)
    have hr : rowB ws n = ws[n / 64].testBit (n % 64) := by unfold rowB; rw [List.getD_eq_getElem?_getD, List.getElem?_eq_getElem hlt]; rfl
    rw [hr]
    generalize ws[n / 64] = x at *
    generalize ws.length = k at *
    clear hS hs hr
    go_enter Tryd.func38, Tryd.ntmps38
    go_wp2
    go_ret
    exact ⟨by rw [bit_and _ _ hx]; rfl, rfl⟩
  · have hr : rowB ws n = false := by unfold rowB; rw [List.getD_eq_getElem?_getD, List.getElem?_eq_none (by omega)]; simp
    rw [hr]
    generalize ws.length = k at *
    clear hS hs hr
    go_enter Tryd.func38, Tryd.ntmps38
    go_wp2
    go_ret
    exact ⟨rfl, rfl⟩

/-- A row of words of the call's own. -/
theorem Tryd.u64infoD : (Tryd.prog.info? 93).map (fun i => (i.zero, i.size, i.bytes)) = some (some (.int .u64 0), 1, 8) := by kernel_rfl
theorem made_uC (n : Nat) : madeCells #[.int .u64 0] n = (uC (List.replicate n 0)).toArray := by
  apply Array.ext
  · simp [size_madeCells, uC]
  · intro i h1 h2
    simp [madeCells, uC, Nat.mod_one]
theorem make_words (wq : World) (k : Nat) (hk : k ≤ 1000000) : (Instr.makeSlice 74 (.int .i64 (k : Int)) (.int .i64 (k : Int))).run Tryd.prog wq = .ok (.slice (some ⟨wq.heap.size, 0, none⟩) k k) (wq.alloc (.cells (uC (List.replicate k 0)).toArray 93)) := by
  rw [run_make_row' 74 93 (.int .u64 0) 8 Tryd.underlying74 Tryd.u64infoD rfl .i64 .i64 k (by omega) (by omega) wq, made_uC]
theorem newRow_any (w : World) (n : Nat) (hn : n ≤ 1000000) :
    Calls Tryd.prog 39 #[.int .i64 (n : Int)] w fun e w' => e = .returned (.slice (some ⟨w.heap.size, 0, none⟩) ((n + 63) / 64) ((n + 63) / 64)) ∧ w' = w.alloc (.cells (uC (List.replicate ((n + 63) / 64) 0)).toArray 93) := by
  have hmk : ∀ wq : World, (Instr.makeSlice 74 (.int .i64 (((n + 63) / 64 : Nat) : Int)) (.int .i64 (((n + 63) / 64 : Nat) : Int))).run Tryd.prog wq = .ok (.slice (some ⟨wq.heap.size, 0, none⟩) ((n + 63) / 64) ((n + 63) / 64)) (wq.alloc (.cells (uC (List.replicate ((n + 63) / 64) 0)).toArray 93)) := fun wq => make_words wq _ (by omega)
  go_enter Tryd.func39, Tryd.ntmps39
  obtain ⟨k, hk⟩ : ∃ k, (n + 63) / 64 = k := ⟨_, rfl⟩
  rw [hk] at hmk ⊢
  obtain ⟨cs, hcs⟩ : ∃ cs, (uC (List.replicate k 0)).toArray = cs := ⟨_, rfl⟩
  rw [hcs] at hmk ⊢
  have hq : ((n : Int) + 64 - 1) / 64 = (k : Int) := by omega
  clear hcs
  go_wp2
  go_ret
  exact ⟨rfl, rfl⟩
set_option maxHeartbeats 1000000 in
theorem put_any (w : World) (g c : Nat) (ws : List Nat) (n : Nat) (hB : Blk w g 93 (uC ws).toArray) (hs : Small ws) (hn : n / 64 < ws.length) (hm : n ≤ 1000000000000) :
    Calls Tryd.prog 68 #[.slice (some ⟨g, 0, none⟩) ws.length c, .int .i64 (n : Int)] w fun e w' => e = .returned (.tuple #[]) ∧ Blk w' g 93 (uC (setR ws n)).toArray ∧ Keeps (· = g) w w' := by
  have hx := hs _ (List.getElem_mem hn)
  have hc : w.cell? ⟨g, n / 64, none⟩ = some (.int .u64 (ws[n / 64] : Int)) := by
    rw [hB.cell]; simp [uC, hn]
  have hf : w.frozen? ⟨g, n / 64, none⟩ = false := hB.frozen _
  have hr : setR ws n = ws.set (n / 64) (ws[n / 64] ||| 2 ^ (n % 64)) := by unfold setR; rw [List.getD_eq_getElem?_getD, List.getElem?_eq_getElem hn]; rfl
  have HB := Lib.hid hB
  have HR := Lib.hid hr
  have HX := Lib.hid hx
  obtain ⟨k, hk⟩ : ∃ k, ws.length = k := ⟨_, rfl⟩
  obtain ⟨x, hxx⟩ : ∃ x, ws[n / 64] = x := ⟨_, rfl⟩
  rw [hxx] at hc HR HX
  rw [hk] at hn ⊢
  clear hB hs hx hr hk
  go_enter Tryd.func68, Tryd.ntmps68
  go_wp2
  go_region
  go_wp2
  have hw : IntKind.u64.wrap (2 ^ (n % 64)) = ((2 ^ (n % 64) : Nat) : Int) := by
    have h1 := pow_lt n
    have h2 : ((2 : Int) ^ (n % 64)) = ((2 ^ (n % 64) : Nat) : Int) := by push_cast; rfl
    rw [h2, IntKind.wrap_u64]
    generalize 2 ^ (n % 64) = p at *
    omega
  rw [hw, bits_or_u64_nat x _ HX.out (pow_lt n)]
  go_end0
  refine ⟨rfl, ?_, ((Keeps.refl (fun x => x = g) w).setCell (p := ⟨g, n / 64, none⟩) rfl _).drew⟩
  have h := HB.out.set (n / 64) (.int .u64 ((x ||| 2 ^ (n % 64) : Nat) : Int))
  rw [HR.out]
  unfold uC at h ⊢
  rw [List.setIfInBounds_toArray] at h
  rw [List.map_set]
  exact h
theorem uC_set (ws : List Nat) (k x : Nat) : (uC ws).set k (.int .u64 (x : Int)) = uC (ws.set k x) := by unfold uC; rw [List.map_set]
set_option maxHeartbeats 1000000 in
theorem join_any (w : World) (g c B d : Nat) (ws o : List Nat) (A : Option Addr) (hB : Blk w g 93 (uC ws).toArray) (hS : SeesV w B A (uC o)) (hg : B ≤ g) (hl : o.length ≤ ws.length) (hs : Small ws) (ho : Small o) (hm : o.length ≤ 1000000) :
    Calls Tryd.prog 40 #[.slice (some ⟨g, 0, none⟩) ws.length c, .slice A o.length d] w fun e w' => e = .returned (.tuple #[]) ∧ Blk w' g 93 (uC (joinR ws o)).toArray ∧ Keeps (· = g) w w' := by
  have HB := Lib.hid hB
  have HS := Lib.hid hS
  have HG := Lib.hid hg
  have HL := Lib.hid hl
  have HW := Lib.hid hs
  have HO := Lib.hid ho
  clear hB hS hg hl hs ho
  go_enter Tryd.func40, Tryd.ntmps40
  go_wp2
  go_loopw [8] (fun iv wr => ∃ k : Nat, k ≤ o.length ∧ iv = .int .i64 k ∧ Hid (Blk wr g 93 (uC (joinR ws (o.take k))).toArray) ∧ Hid (Keeps (· = g) w wr)) (fun iv _ => o.length - (intOf iv).toNat)
  case atStart => exact ⟨0, by omega, rfl, by rw [List.take_zero]; cases ws <;> exact HB.out, Keeps.refl _ _⟩
  case round =>
    obtain ⟨k, hk, rfl, HBk, HK⟩ := hrel
    by_cases hlt : k < o.length
    · have hb := HG.out
      have hlt2 : k < ws.length := by have := HL.out; omega
      obtain ⟨b, off, hA, hb2, hcs⟩ := HS.out.at_ (k := k) (by rw [uC_len]; exact hlt)
      have hc0 : w.cell? ⟨b, off + k, none⟩ = some (.int .u64 (o[k] : Int)) := by rw [hcs k (by rw [uC_len]; exact hlt)]; simp [uC]
      have hblt : b < w.heap.size := World.block_lt_of_cell? _ _ hc0
      have hc1 : wr.cell? ⟨b, off + k, none⟩ = some (.int .u64 (o[k] : Int)) := (HK.out.cell (p := ⟨b, off + k, none⟩) hblt (by show ¬ b = g; omega)).trans hc0
      have hjl : k < (joinR ws (o.take k)).length := by rw [joinR_len]; exact hlt2
      have hje : (joinR ws (o.take k))[k] = ws[k] := by
        have h1 := joinR_beyond ws (o.take k) k (by rw [List.length_take]; omega)
        rw [List.getD_eq_getElem?_getD, List.getD_eq_getElem?_getD, List.getElem?_eq_getElem hjl, List.getElem?_eq_getElem hlt2] at h1
        exact h1
      have hc2 : wr.cell? ⟨g, k, none⟩ = some (.int .u64 (ws[k] : Int)) := by
        rw [HBk.out.cell, List.getElem?_toArray]
        unfold uC
        rw [List.getElem?_map, List.getElem?_eq_getElem hjl, hje]; rfl
      have hf2 : wr.frozen? ⟨g, k, none⟩ = false := HBk.out.frozen _
      have hx1 := HO.out _ (List.getElem_mem hlt)
      have hx2 := HW.out _ (List.getElem_mem hlt2)
      have HT : Hid (joinR ws (o.take (k + 1)) = (joinR ws (o.take k)).set k (ws[k] ||| o[k])) := by
        show _ = _
        rw [joinR_take ws o k hlt HL.out, List.getD_eq_getElem?_getD, List.getElem?_eq_getElem hlt2]; rfl
      obtain ⟨x, hx⟩ : ∃ x, o[k] = x := ⟨_, rfl⟩
      obtain ⟨y, hy⟩ : ∃ y, ws[k] = y := ⟨_, rfl⟩
      rw [hx] at hc1 hx1 HT
      rw [hy] at hc2 hx2 HT
      obtain ⟨L, hL⟩ : ∃ L, ws.length = L := ⟨_, rfl⟩
      rw [hA]
      rw [hL] at hlt2 ⊢
      have HX1 := Lib.hid hx1
      have HX2 := Lib.hid hx2
      clear hcs hc0 hje hjl hx hy hx1 hx2 hA hL
      go_wp2
      rw [bits_or_u64_nat y x HX2.out HX1.out]
      go_roundw
      case rel =>
        refine ⟨k + 1, by omega, by go_num, ?_, HK.out.setCell (p := ⟨g, k, none⟩) rfl _⟩
        have h := HBk.out.set k (.int .u64 ((y ||| x : Nat) : Int))
        rw [List.setIfInBounds_toArray, uC_set] at h
        show Blk _ _ _ _
        rw [HT.out]
        exact h
      case measure => simp [intOf] <;> omega
    · obtain rfl : k = o.length := by omega
      go_wp2
      go_end0
      exact ⟨rfl, by have := HBk.out; rwa [List.take_length] at this, HK.out⟩
end Go.Proofs.YtndkjmmmneianaaDoor
