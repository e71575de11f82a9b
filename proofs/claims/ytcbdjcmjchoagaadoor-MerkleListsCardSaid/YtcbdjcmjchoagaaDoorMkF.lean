/-
  merkle: the walk of climb.
-/
import Derived.Test.YtcbdjcmjchoagaaDoorMkE
namespace Go.Proofs.YtcbdjcmjchoagaaDoor
open Go.RowKit

theorem knotsL_32 {l : List (List UInt8)} (h : All32 l) : All32 (knotsL knotB l) := by
  induction l using knotsL.induct with
  | case1 a b r ih =>
    intro y hy
    rw [knotsL] at hy
    rcases List.mem_cons.1 hy with rfl | hy
    · exact knotB_len a b
    · exact ih (fun z hz => h z (List.mem_cons_of_mem _ (List.mem_cons_of_mem _ hz))) y hy
  | case2 l hl =>
    match l, hl, h with
    | [], _, h => exact h
    | [x], _, h => exact h
    | a :: b :: r, hl, _ => exact absurd rfl (hl a b r)
theorem topR_short {l : List (List UInt8)} (h : l.length ≤ 1) : topR knotB l = l := by rw [topR, dif_pos h]
theorem topR_long {l : List (List UInt8)} (h : ¬ l.length ≤ 1) : topR knotB l = topR knotB (knotsL knotB l) := by rw [topR, dif_neg h]
theorem besR_short {n : Nat} {l : List (List UInt8)} (h : l.length ≤ 1) : besR knotB n l = [] := by rw [besR, dif_pos h]
theorem besR_long {n : Nat} {l : List (List UInt8)} (h : ¬ l.length ≤ 1) : besR knotB n l = hereL n l ++ besR knotB (n / 2) (knotsL knotB l) := by rw [besR, dif_neg h]
theorem SeesV.grown {w w' : World} {B : Nat} {A : Option Addr} {vs : List Value} {rb : Option Nat} (h : SeesV w B A vs) (hg : w.grownBy w' rb) (hne : ∀ ad, A = some ad → some ad.block ≠ rb) : SeesV w' B A vs := by
  rcases h with h | ⟨b, off, hA, hlt, hc⟩
  · exact .inl h
  · refine .inr ⟨b, off, hA, hlt, fun i hi => ?_⟩
    have hb := World.block_lt_of_cell? _ _ (hc i hi)
    rw [World.cell?_of_block (w := w) (hg.block b hb (hne ⟨b, off, none⟩ hA))]
    exact hc i hi
/-- Two slices lie in two blocks. -/
def Apart (A B : Option Addr) : Prop := ∀ ad, A = some ad → ∀ n c, some ad.block ≠ (Value.slice B n c).ownBlock
theorem apart_none (A : Option Addr) : Apart A none := by intro ad _ n c; simp [Value.ownBlock]
theorem apart_own {w : World} {base size : Nat} {e : TypeId} {A B : Option Addr} {n c : Nat} {xs : List Value} (h : w.ownsRow base e size (.slice A n c) n xs) (hB : ∀ bd, B = some bd → bd.block < base) : Apart A B := by
  intro ad hA m d
  subst hA
  have := own_lt h ad.block rfl
  cases B with
  | none => simp [Value.ownBlock]
  | some bd =>
    have hb := hB bd rfl
    simp only [Value.ownBlock]
    intro e
    injection e with e
    omega
/-- What climb answers. -/
def ClimbPost (w : World) (top bes : List (List UInt8)) (e : Ending) (w' : World) : Prop :=
  ∃ A c B d, e = .returned (.tuple #[.slice A top.length c, .slice B bes.length d]) ∧ top.length ≤ c ∧ bes.length ≤ d ∧ All32 top ∧ All32 bes ∧ SeesV w' w'.heap.size A (Hs top) ∧ SeesV w' w'.heap.size B (Hs bes) ∧ Below w.heap.size w w'

set_option maxHeartbeats 2000000 in
set_option maxRecDepth 100000 in
theorem climb_any (w : World) (hT : Tabs w) (n : Nat) (A : Option Addr) (m c : Nat) (ids : List (List UInt8)) (hm : m = ids.length) (h32 : All32 ids) (hS : SeesV w w.heap.size A (Hs ids)) (hmax : m ≤ 1048576) (hn : n < m ∨ n = 0 ∧ m = 0) :
    Calls Tryd.prog 29 #[.int .i64 (n : Int), .slice A m c] w (ClimbPost w (topR knotB (ids.map leafB)) (besR knotB n (ids.map leafB))) := by
  subst hm
  have HT := Lib.hid hT
  have HS := Lib.hid hS
  have H32 := Lib.hid h32
  have HL32 : Hid (All32 (ids.map leafB)) := by
    intro y hy
    obtain ⟨x, _, rfl⟩ := List.mem_map.1 hy
    exact leafB_len x
  have HLl : Hid ((ids.map leafB).length = ids.length) := by show _ = _; simp
  obtain ⟨lv, hlv⟩ : ∃ lv, ids.map leafB = lv := ⟨_, rfl⟩
  have HLv := Lib.hid hlv
  rw [hlv] at HL32 HLl ⊢
  clear hT hS h32 hlv
  obtain ⟨i0, hi, hz0, hz1, hz2⟩ := info_parts Tryd.hinfo
  go_enter Tryd.func29, Tryd.ntmps29
  go_wp2
  go_step3
  go_wp2_with (go_at_call 43; refine (leaves_any _ HT.out A _ c ids rfl H32.out HS.out (by omega)).mono ?_; rw [HLv.out]; rintro e w2 ⟨A2, c2, rfl, ho2, hb2⟩; have HO2 := Lib.hid ho2; have Hb2 := Lib.hid hb2; clear ho2 hb2)
  go_step3
  go_wp2
  go_loopw [0, 5, 6] (fun nv bv rv wr => ∃ (n1 : Nat) (row bes : List (List UInt8)) (A1 B1 : Option Addr) (c1 d1 : Nat), nv = .int .i64 n1 ∧ rv = .slice A1 row.length c1 ∧ bv = .slice B1 bes.length d1 ∧ row.length ≤ c1 ∧ row.length ≤ 1048576 ∧ bes.length + row.length ≤ 2097152 ∧ (n1 < row.length ∨ n1 = 0 ∧ row.length = 0) ∧ Hid (Apart A1 B1) ∧ Hid (All32 row) ∧ Hid (All32 bes) ∧ Hid (topR knotB row = topR knotB lv) ∧ Hid (bes ++ besR knotB n1 row = besR knotB n lv) ∧ Hid (SeesV wr wr.heap.size A1 (Hs row)) ∧ Hid (wr.ownsRow w.heap.size 32 32 (.slice B1 bes.length d1) bes.length (Hs bes)) ∧ Hid (Below w.heap.size w wr)) (fun _ _ rv _ => rowLen rv)
  case atStart => exact ⟨n, lv, [], A2, none, c2, 0, rfl, rfl, rfl, own_cap' HO2.out, by rw [HLl.out]; exact hmax, by rw [HLl.out]; simp; omega, by rw [HLl.out]; exact hn, apart_none _, HL32.out, All32.nil, rfl, rfl, SeesV.own HO2.out, World.ownsRow_nil _ _ _ _, Hb2.out⟩
  case round =>
    clear HO2 Hb2 HS H32 HL32 HLl HLv hn hmax
    obtain ⟨n1, row, bes, A1, B1, c1, d1, rfl, rfl, rfl, hc1, hrl, hbl, hn1, HAp, R32, B32, HTop, HBes, HR, HO, Hb⟩ := hrel
    by_cases h1 : row.length ≤ 1
    · have HTop' : Hid (topR knotB lv = row) := by show _ = _; rw [← HTop.out, topR_short h1]
      have HBes' : Hid (besR knotB n lv = bes) := by show _ = _; rw [← HBes.out, besR_short h1, List.append_nil]
      clear HTop HBes
      go_wp2
      rw [Exit.noGoto_ret]
      go_ret2
      exact ⟨A1, c1, B1, d1, by rw [HTop'.out, HBes'.out]; rfl, by rw [HTop'.out]; exact hc1, by rw [HBes'.out]; exact own_cap' HO.out, by rw [HTop'.out]; exact R32.out, by rw [HBes'.out]; exact B32.out, by rw [HTop'.out]; exact HR.out, by rw [HBes'.out]; exact SeesV.own HO.out, Hb.out⟩
    · have hn1' : n1 < row.length := by omega
      have HTop' : Hid (topR knotB (knotsL knotB row) = topR knotB lv) := by show _ = _; rw [← topR_long h1]; exact HTop.out
      have HKl : Hid ((knotsL knotB row).length = (row.length + 1) / 2) := knotsL_len knotB row
      have HK32 := Lib.hid (knotsL_32 R32.out)
      have HBes' : Hid (bes ++ (hereL n1 row ++ besR knotB (n1 / 2) (knotsL knotB row)) = besR knotB n lv) := by show _ = _; rw [← besR_long h1]; exact HBes.out
      clear HTop HBes hn1
      cases ha : aloneB n1 row.length with
      | true =>
        have HA := Lib.hid ha
        have HBn : Hid (bes ++ besR knotB (n1 / 2) (knotsL knotB row) = besR knotB n lv) := by
          show _ = _
          have h := HBes'.out
          rw [hereL, if_pos (of_decide_eq_true ha), List.nil_append] at h
          exact h
        clear ha HBes'
        go_wp2_with (first
          | (go_at_call 31; refine (isAlone_any _ n1 row.length (by omega) (by omega) (by omega)).mono ?_; rw [HA.out]; rintro e wr ⟨rfl, rfl⟩)
          | (go_at_call 44; refine (knots_any _ (HT.out.later Hb.out) A1 _ c1 row rfl hc1 R32.out HR.out hrl).mono ?_; rintro e w7 ⟨A7, c7, rfl, ho7, hb7⟩; have HO7 := Lib.hid ho7; have Hb7 : Hid (Below w.heap.size w w7) := nxTo Hb.out hb7; have HB7 := Lib.hid (own_below HO.out hb7 (fun g hg => (own_lt HO.out g hg).2)); have HAp7 : Hid (Apart A7 B1) := apart_own ho7 (fun bd hbd => by subst hbd; exact (own_lt HO.out bd.block rfl).2); clear ho7 hb7))
        go_roundw
        case rel => exact ⟨n1 / 2, knotsL knotB row, bes, A7, B1, c7, d1, by go_num, rfl, rfl, own_cap' HO7.out, by rw [HKl.out]; omega, by rw [HKl.out]; omega, by rw [HKl.out]; omega, HAp7.out, HK32.out, B32.out, HTop'.out, HBn.out, SeesV.own HO7.out, HB7.out, Hb7.out⟩
        case measure => have := HKl.out; simp [rowLen]; omega
      | false =>
        have HA := Lib.hid ha
        have hal := of_decide_eq_false ha
        clear ha
        by_cases h2 : n1 % 2 = 0
        · have hne : n1 + 1 ≠ row.length := fun h => hal ⟨h, h2⟩
          obtain ⟨b, off, rfl, hbb, hrg⟩ := SeesV.hash HR.out R32.out (k := 0) (by omega)
          have hrx := hrg (n1 + 1) (by omega)
          have hxl := R32.out.get (k := n1 + 1) (by omega)
          have hx : hereL (n1) row = [row[n1 + 1]] := by
            rw [hereL, if_neg hal, if_pos h2]
            simp [show n1 + 1 < row.length by omega]
          rw [hx] at HBes'
          generalize row[n1 + 1] = x at *
          have HRx := Lib.hid hrx
          have HXl := Lib.hid hxl
          have HApo : Hid (Apart (some ⟨b, off, none⟩) B1) := HAp
          have HSX : Hid ((Tryd.prog.info? 32).map (·.size) = some (By x).length) := by have h := Tryd.hsizeB x hxl; show _ = _; rw [h]; simp
          have HBn : Hid ((bes ++ [x]) ++ besR knotB ((n1) / 2) (knotsL knotB row) = besR knotB n lv) := by show _ = _; rw [List.append_assoc]; exact HBes'.out
          have B32' := Lib.hid (B32.out.snoc hxl)
          have Hbl : Hid ((bes ++ [x]).length = bes.length + 1) := by show _ = _; simp
          clear hrg hrx hxl hx hbb HBes' hal HAp
          have h3 : ((n1 : Int) % 2 == 0) = true := by rw [beq_iff_eq]; omega
          clear h2
          go_wp2_with (first
            | (go_at_call 31; refine (isAlone_any _ n1 row.length (by omega) (by omega) (by omega)).mono ?_; rw [HA.out]; rintro e wr ⟨rfl, rfl⟩)
            | ((with_reducible show wpList _ _ _ (⟨some 36, _, _, _, _, _⟩ :: _) _ _); refine wpList_load_mid rfl 32 (.tmp 35) rfl b (off + (n1 + 1) * 32) rfl (By x) _ HRx.out Tryd.underlying32 rfl HSX.out ?_)
            | ((with_reducible show wpList _ _ _ (⟨some 37, _, _, _, _, _⟩ :: _) _ _); refine wpList_build_hash rfl (.tmp 36) rfl x rfl HXl.out ?_)
            | ((with_reducible show wpList _ _ _ (⟨some 38, _, _, _, _, _⟩ :: _) _ _); refine wpList_append_seesV rfl (.tmp 31) (.tmp 37) 22 rfl w.heap.size 32 i0 (.agg (By zero32).toArray) 32 32 Tryd.underlying22 hi hz0 hz1 hz2 rfl (by omega) (.slice B1 bes.length d1) bes.length (Hs bes) rfl (HO.out.alloc _) (wr.heap.size + 1) (some ⟨wr.heap.size, 0, none⟩) 1 1 (By x) rfl (by rw [By_length, HXl.out]) (SeesV.lit' wr (By x) 32) (By_one _) (by omega) (by omega) (by have h1 := Hb.out.size; simp; omega) ?_; intro v8 w8 ho8 hg8 hat8; obtain ⟨B8, d8, rfl⟩ := own_form ho8; rw [← Hs_snoc] at ho8; have HO8 := Lib.hid ho8; have Hb8 : Hid (Below w.heap.size w w8) := (nxAlloc Hb.out _).grown hg8 (nxAlloc Hb.out _).size (fun j hj => (own_lt HO.out j hj).1); have HR8 : Hid (SeesV w8 w8.heap.size (some ⟨b, off, none⟩) (Hs row)) := ((HR.out.alloc _).grown hg8 (fun ad had => HApo.out ad had _ _)).size; clear ho8 hg8 hat8)
            | (go_at_call 44; refine (knots_any _ (HT.out.later Hb8.out) (some ⟨b, off, none⟩) _ c1 row rfl hc1 R32.out HR8.out hrl).mono ?_; rintro e w9 ⟨A7, c7, rfl, ho7, hb7⟩; have HO7 := Lib.hid ho7; have Hb7 : Hid (Below w.heap.size w w9) := nxTo Hb8.out hb7; have HB7 := Lib.hid (own_below HO8.out hb7 (fun g hg => (own_lt HO8.out g hg).2)); have HAp7 : Hid (Apart A7 B8) := apart_own ho7 (fun bd hbd => by subst hbd; exact (own_lt HO8.out bd.block rfl).2); clear ho7 hb7))
          go_roundw
          case rel => exact ⟨(n1) / 2, knotsL knotB row, bes ++ [x], A7, B8, c7, d8, by go_num, rfl, by rw [Hbl.out], own_cap' HO7.out, by rw [HKl.out]; omega, by rw [HKl.out, Hbl.out]; omega, by rw [HKl.out]; omega, HAp7.out, HK32.out, B32'.out, HTop'.out, HBn.out, SeesV.own HO7.out, by rw [Hbl.out]; exact HB7.out, Hb7.out⟩
          case measure => have := HKl.out; simp [rowLen]; omega
        · obtain ⟨p, rfl⟩ : ∃ p, n1 = p + 1 := ⟨n1 - 1, by omega⟩
          obtain ⟨b, off, rfl, hbb, hrg⟩ := SeesV.hash HR.out R32.out (k := 0) (by omega)
          have hrx := hrg (p) (by omega)
          have hxl := R32.out.get (k := p) (by omega)
          have hx : hereL (p + 1) row = [row[p]] := by
            rw [hereL, if_neg hal, if_neg h2]
            simp [show p < row.length by omega]
          rw [hx] at HBes'
          generalize row[p] = x at *
          have HRx := Lib.hid hrx
          have HXl := Lib.hid hxl
          have HApo : Hid (Apart (some ⟨b, off, none⟩) B1) := HAp
          have HSX : Hid ((Tryd.prog.info? 32).map (·.size) = some (By x).length) := by have h := Tryd.hsizeB x hxl; show _ = _; rw [h]; simp
          have HBn : Hid ((bes ++ [x]) ++ besR knotB ((p + 1) / 2) (knotsL knotB row) = besR knotB n lv) := by show _ = _; rw [List.append_assoc]; exact HBes'.out
          have B32' := Lib.hid (B32.out.snoc hxl)
          have Hbl : Hid ((bes ++ [x]).length = bes.length + 1) := by show _ = _; simp
          clear hrg hrx hxl hx hbb HBes' hal HAp
          have h3 : (((p : Int) + 1) % 2 == 0) = false := by rw [beq_eq_false_iff_ne]; omega
          clear h2
          go_wp2_with (first
            | (go_at_call 31; refine (isAlone_any _ (p + 1) row.length (by omega) (by omega) (by omega)).mono ?_; rw [HA.out]; rintro e wr ⟨rfl, rfl⟩)
            | ((with_reducible show wpList _ _ _ (⟨some 17, _, _, _, _, _⟩ :: _) _ _); refine wpList_load_mid rfl 32 (.tmp 16) rfl b (off + p * 32) rfl (By x) _ HRx.out Tryd.underlying32 rfl HSX.out ?_)
            | ((with_reducible show wpList _ _ _ (⟨some 18, _, _, _, _, _⟩ :: _) _ _); refine wpList_build_hash rfl (.tmp 17) rfl x rfl HXl.out ?_)
            | ((with_reducible show wpList _ _ _ (⟨some 19, _, _, _, _, _⟩ :: _) _ _); refine wpList_append_seesV rfl (.tmp 12) (.tmp 18) 22 rfl w.heap.size 32 i0 (.agg (By zero32).toArray) 32 32 Tryd.underlying22 hi hz0 hz1 hz2 rfl (by omega) (.slice B1 bes.length d1) bes.length (Hs bes) rfl (HO.out.alloc _) (wr.heap.size + 1) (some ⟨wr.heap.size, 0, none⟩) 1 1 (By x) rfl (by rw [By_length, HXl.out]) (SeesV.lit' wr (By x) 32) (By_one _) (by omega) (by omega) (by have h1 := Hb.out.size; simp; omega) ?_; intro v8 w8 ho8 hg8 hat8; obtain ⟨B8, d8, rfl⟩ := own_form ho8; rw [← Hs_snoc] at ho8; have HO8 := Lib.hid ho8; have Hb8 : Hid (Below w.heap.size w w8) := (nxAlloc Hb.out _).grown hg8 (nxAlloc Hb.out _).size (fun j hj => (own_lt HO.out j hj).1); have HR8 : Hid (SeesV w8 w8.heap.size (some ⟨b, off, none⟩) (Hs row)) := ((HR.out.alloc _).grown hg8 (fun ad had => HApo.out ad had _ _)).size; clear ho8 hg8 hat8)
            | (go_at_call 44; refine (knots_any _ (HT.out.later Hb8.out) (some ⟨b, off, none⟩) _ c1 row rfl hc1 R32.out HR8.out hrl).mono ?_; rintro e w9 ⟨A7, c7, rfl, ho7, hb7⟩; have HO7 := Lib.hid ho7; have Hb7 : Hid (Below w.heap.size w w9) := nxTo Hb8.out hb7; have HB7 := Lib.hid (own_below HO8.out hb7 (fun g hg => (own_lt HO8.out g hg).2)); have HAp7 : Hid (Apart A7 B8) := apart_own ho7 (fun bd hbd => by subst hbd; exact (own_lt HO8.out bd.block rfl).2); clear ho7 hb7))
          go_roundw
          case rel => exact ⟨(p + 1) / 2, knotsL knotB row, bes ++ [x], A7, B8, c7, d8, by go_num, rfl, by rw [Hbl.out], own_cap' HO7.out, by rw [HKl.out]; omega, by rw [HKl.out, Hbl.out]; omega, by rw [HKl.out]; omega, HAp7.out, HK32.out, B32'.out, HTop'.out, HBn.out, SeesV.own HO7.out, by rw [Hbl.out]; exact HB7.out, Hb7.out⟩
          case measure => have := HKl.out; simp [rowLen]; omega
end Go.Proofs.YtcbdjcmjchoagaaDoor
