/-
  MerkleLists, the walk.
-/
import Derived.Test.YtcbdjcmjchoagaaDoorMlK
namespace Go.Proofs.YtcbdjcmjchoagaaDoor
open Go.RowKit

theorem check_zero {root id : List UInt8} {n c : Int} {hs : List (List UInt8)} (h : checkE root id n c hs = 0) : checkB root id n c hs = true := by
  unfold checkE at h
  cases hc : checkB root id n c hs with
  | true => rfl
  | false => rw [hc, cond_false] at h; omega
/-- The path of a place checks for the root, and for no other one. -/
theorem own_check {p : Nat} {ids : List (List UInt8)} (hp : p < ids.length) (hmax : ids.length ≤ 1048576) (root : List UInt8) : checkE root ids[p] (p : Int) (ids.length : Int) (besideL p ids) = bif rootL ids == root then 0 else 21 := by
  have hm : mayB (p : Int) (ids.length : Int) (besideL p ids).length = true := by
    rw [mayB, place_yes (by omega) (by omega) (by omega), Bool.true_and, Int.toNat_natCast, Int.toNat_natCast, beside_sz hp]; exact decide_eq_true rfl
  rw [checkE, checkB, hm, Bool.true_and, Int.toNat_natCast, Int.toNat_natCast, lead_beside hp]
/-- Where two unlike rows with one root differ, the path of the one leads a hash that is not the other's to the other's root. -/
theorem lists_coll {xs ys : List (List UInt8)} {p : Nat} (hp : p < xs.length) (hmax : xs.length ≤ 1048576) (hr : rootL xs = rootL ys) (hd : xs.length ≠ ys.length ∨ ∃ h : p < ys.length, xs[p] ≠ ys[p]) : collB xs[p] (p : Int) (xs.length : Int) (besideL p xs) ys = true := by
  have h := own_check hp hmax (rootL ys)
  rw [hr, beq_self_eq_true, cond_true] at h
  rw [collB, check_zero h]
  rcases hd with hd | ⟨h1, h2⟩
  · rw [decide_eq_false (by omega : ¬ ((xs.length : Int) = (ys.length : Int)))]; rfl
  · rw [Int.toNat_natCast, List.getD_eq_getElem?_getD, List.getElem?_eq_getElem h1, Option.getD_some, beq_eq_false_iff_ne.2 (fun e => h2 e.symm), Bool.and_false]; rfl
theorem take_eq_all {xs ys : List (List UInt8)} (h : xs.take xs.length = ys.take xs.length) (hl : xs.length = ys.length) : xs = ys := by
  rw [List.take_length] at h
  rw [h, hl, List.take_length]

set_option maxHeartbeats 4000000 in
set_option maxRecDepth 100000 in
theorem lists_any (w : World) (hT : Tabs w) (A : Option Addr) (c : Nat) (xs : List (List UInt8)) (B : Option Addr) (d : Nat) (ys : List (List UInt8)) (x32 : All32 xs) (hS : SeesV w w.heap.size A (Hs xs)) (y32 : All32 ys) (hR : SeesV w w.heap.size B (Hs ys)) :
    Calls Tryd.prog 7 #[.slice A xs.length c, .slice B ys.length d] w (KnownPost w) := by
  have HT := Lib.hid hT
  have HS := Lib.hid hS
  have HR := Lib.hid hR
  have X32 := Lib.hid x32
  have Y32 := Lib.hid y32
  clear hT hS hR x32 y32
  obtain ⟨u, hu⟩ : ∃ u, rootL xs = u := ⟨_, rfl⟩
  obtain ⟨v, hv⟩ : ∃ v, rootL ys = v := ⟨_, rfl⟩
  have HU := Lib.hid hu
  have HV := Lib.hid hv
  have HUl : Hid (u.length = 32) := by show _ = _; rw [← hu]; exact rootL_len _
  have HVl : Hid (v.length = 32) := by show _ = _; rw [← hv]; exact rootL_len _
  clear hu hv
  by_cases h1 : (70 : Int) < (xs.length : Int)
  · go_enter Tryd.func7, Tryd.ntmps7
    go_wp2_with (go_at_call 8; ((refine (known_any w HT.out).mono ?_); rintro e w9 ⟨rfl, hb9⟩; have V9 : Hid (Below w.heap.size w w9) := hb9; clear hb9))
    go_ret
    exact ⟨rfl, V9.out⟩
  by_cases h2 : (70 : Int) < (ys.length : Int)
  · go_enter Tryd.func7, Tryd.ntmps7
    go_wp2_with (go_at_call 8; ((refine (known_any w HT.out).mono ?_); rintro e w9 ⟨rfl, hb9⟩; have V9 : Hid (Below w.heap.size w w9) := hb9; clear hb9))
    go_ret
    exact ⟨rfl, V9.out⟩
  have HM : Hid (xs.length ≤ 70 ∧ ys.length ≤ 70) := by show _ ∧ _; omega
  cases huv : u == v with
  | false =>
    have hnq := neq_run u v HUl.out HVl.out false huv
    rw [show (!false) = true from rfl] at hnq
    clear huv
    go_enter Tryd.func7, Tryd.ntmps7
    go_wp2_with (first
      | (go_at_call 11; (with_reducible show Calls _ _ _ w _); refine (root_any w HT.out A _ c xs rfl X32.out HS.out (by have := HM.out; omega)).mono ?_; rw [HU.out]; rintro e w1 ⟨rfl, hb1⟩; have V1 := Lib.hid hb1; clear hb1)
      | (go_at_call 11; (with_reducible show Calls _ _ _ w1 _); refine (root_any w1 (HT.out.later V1.out) B _ d ys rfl Y32.out ((HR.out.below V1.out).size) (by have := HM.out; omega)).mono ?_; rw [HV.out]; rintro e w2 ⟨rfl, hb2⟩; have V2 : Hid (Below w.heap.size w w2) := nxTo V1.out hb2; clear hb2)
      | (go_at_call 8; ((refine (known_any w2 (HT.out.later V2.out)).mono ?_); rintro e w9 ⟨rfl, hb9⟩; have V9 : Hid (Below w.heap.size w w9) := nxTo V2.out hb9; clear hb9)))
    go_ret
    exact ⟨rfl, V9.out⟩
  | true =>
    have hnq := neq_run u v HUl.out HVl.out true huv
    rw [show (!true) = false from rfl] at hnq
    have HUV : Hid (u = v) := eq_of_beq huv
    clear huv
    cases hsm : xs == ys with
    | true =>
      have HSm := Lib.hid hsm
      clear hsm
      go_enter Tryd.func7, Tryd.ntmps7
      go_wp2_with (first
        | (go_at_call 11; (with_reducible show Calls _ _ _ w _); refine (root_any w HT.out A _ c xs rfl X32.out HS.out (by have := HM.out; omega)).mono ?_; rw [HU.out]; rintro e w1 ⟨rfl, hb1⟩; have V1 := Lib.hid hb1; clear hb1)
        | (go_at_call 11; (with_reducible show Calls _ _ _ w1 _); refine (root_any w1 (HT.out.later V1.out) B _ d ys rfl Y32.out ((HR.out.below V1.out).size) (by have := HM.out; omega)).mono ?_; rw [HV.out]; rintro e w2 ⟨rfl, hb2⟩; have V2 : Hid (Below w.heap.size w w2) := nxTo V1.out hb2; clear hb2)
        | (go_at_call 15; refine (same_any w2 A B _ c _ d xs ys rfl rfl X32.out Y32.out ((HS.out.below V2.out).size) ((HR.out.below V2.out).size) (by have := HM.out; omega) (by have := HM.out; omega)).mono ?_; rw [HSm.out]; rintro e w3 ⟨rfl, hw3⟩; have V3 : Hid (Below w.heap.size w w3) := (by obtain ⟨q, rfl⟩ := hw3; exact nxDrewN V2.out q); clear hw3)
        | (go_at_call 8; ((refine (known_any w3 (HT.out.later V3.out)).mono ?_); rintro e w9 ⟨rfl, hb9⟩; have V9 : Hid (Below w.heap.size w w9) := nxTo V3.out hb9; clear hb9)))
      go_ret
      exact ⟨rfl, V9.out⟩
    | false =>
      have HSm := Lib.hid hsm
      have HNe : Hid (xs ≠ ys) := beq_eq_false_iff_ne.1 hsm
      clear hsm
      by_cases h3 : xs.length = 0
      · have h3b : ((xs.length : Int) == 0) = true := by rw [h3]; rfl
        clear h3
        go_enter Tryd.func7, Tryd.ntmps7
        go_wp2_with (first
          | (go_at_call 11; (with_reducible show Calls _ _ _ w _); refine (root_any w HT.out A _ c xs rfl X32.out HS.out (by have := HM.out; omega)).mono ?_; rw [HU.out]; rintro e w1 ⟨rfl, hb1⟩; have V1 := Lib.hid hb1; clear hb1)
          | (go_at_call 11; (with_reducible show Calls _ _ _ w1 _); refine (root_any w1 (HT.out.later V1.out) B _ d ys rfl Y32.out ((HR.out.below V1.out).size) (by have := HM.out; omega)).mono ?_; rw [HV.out]; rintro e w2 ⟨rfl, hb2⟩; have V2 : Hid (Below w.heap.size w w2) := nxTo V1.out hb2; clear hb2)
          | (go_at_call 15; refine (same_any w2 A B _ c _ d xs ys rfl rfl X32.out Y32.out ((HS.out.below V2.out).size) ((HR.out.below V2.out).size) (by have := HM.out; omega) (by have := HM.out; omega)).mono ?_; rw [HSm.out]; rintro e w3 ⟨rfl, hw3⟩; have V3 : Hid (Below w.heap.size w w3) := (by obtain ⟨q, rfl⟩ := hw3; exact nxDrewN V2.out q); clear hw3)
          | (go_at_call 8; ((refine (known_any w3 (HT.out.later V3.out)).mono ?_); rintro e w9 ⟨rfl, hb9⟩; have V9 : Hid (Below w.heap.size w w9) := nxTo V3.out hb9; clear hb9)))
        go_ret
        exact ⟨rfl, V9.out⟩
      have h3b : ((xs.length : Int) == 0) = false := by rw [beq_eq_false_iff_ne]; omega
      by_cases h4 : ys.length = 0
      · have h4b : ((ys.length : Int) == 0) = true := by rw [h4]; rfl
        clear h4
        go_enter Tryd.func7, Tryd.ntmps7
        go_wp2_with (first
          | (go_at_call 11; (with_reducible show Calls _ _ _ w _); refine (root_any w HT.out A _ c xs rfl X32.out HS.out (by have := HM.out; omega)).mono ?_; rw [HU.out]; rintro e w1 ⟨rfl, hb1⟩; have V1 := Lib.hid hb1; clear hb1)
          | (go_at_call 11; (with_reducible show Calls _ _ _ w1 _); refine (root_any w1 (HT.out.later V1.out) B _ d ys rfl Y32.out ((HR.out.below V1.out).size) (by have := HM.out; omega)).mono ?_; rw [HV.out]; rintro e w2 ⟨rfl, hb2⟩; have V2 : Hid (Below w.heap.size w w2) := nxTo V1.out hb2; clear hb2)
          | (go_at_call 15; refine (same_any w2 A B _ c _ d xs ys rfl rfl X32.out Y32.out ((HS.out.below V2.out).size) ((HR.out.below V2.out).size) (by have := HM.out; omega) (by have := HM.out; omega)).mono ?_; rw [HSm.out]; rintro e w3 ⟨rfl, hw3⟩; have V3 : Hid (Below w.heap.size w w3) := (by obtain ⟨q, rfl⟩ := hw3; exact nxDrewN V2.out q); clear hw3)
          | (go_at_call 8; ((refine (known_any w3 (HT.out.later V3.out)).mono ?_); rintro e w9 ⟨rfl, hb9⟩; have V9 : Hid (Below w.heap.size w w9) := nxTo V3.out hb9; clear hb9)))
        go_ret
        exact ⟨rfl, V9.out⟩
      have h4b : ((ys.length : Int) == 0) = false := by rw [beq_eq_false_iff_ne]; omega
      obtain ⟨bA, oA, rfl, hbA, hrA⟩ := SeesV.hash HS.out X32.out (k := 0) (by omega)
      obtain ⟨bB, oB, rfl, hbB, hrB⟩ := SeesV.hash HR.out Y32.out (k := 0) (by omega)
      have HBA := Lib.hid hbA
      have HBB := Lib.hid hbB
      have HRA : Hid (∀ k (h : k < xs.length), w.rangeAt bA (oA + k * 32) (By xs[k])) := fun k h => hrA k h
      have HRB : Hid (∀ k (h : k < ys.length), w.rangeAt bB (oB + k * 32) (By ys[k])) := fun k h => hrB k h
      clear hbA hbB hrA hrB
      go_enter Tryd.func7, Tryd.ntmps7
      go_wp2_with (first
        | (go_at_call 11; (with_reducible show Calls _ _ _ w _); refine (root_any w HT.out (some ⟨bA, oA, none⟩) _ c xs rfl X32.out HS.out (by have := HM.out; omega)).mono ?_; rw [HU.out]; rintro e w1 ⟨rfl, hb1⟩; have V1 := Lib.hid hb1; clear hb1)
        | (go_at_call 11; (with_reducible show Calls _ _ _ w1 _); refine (root_any w1 (HT.out.later V1.out) (some ⟨bB, oB, none⟩) _ d ys rfl Y32.out ((HR.out.below V1.out).size) (by have := HM.out; omega)).mono ?_; rw [HV.out]; rintro e w2 ⟨rfl, hb2⟩; have V2 : Hid (Below w.heap.size w w2) := nxTo V1.out hb2; clear hb2)
        | (go_at_call 15; refine (same_any w2 (some ⟨bA, oA, none⟩) (some ⟨bB, oB, none⟩) _ c _ d xs ys rfl rfl X32.out Y32.out ((HS.out.below V2.out).size) ((HR.out.below V2.out).size) (by have := HM.out; omega) (by have := HM.out; omega)).mono ?_; rw [HSm.out]; rintro e w3 ⟨rfl, hw3⟩; have V3 : Hid (Below w.heap.size w w3) := (by obtain ⟨q, rfl⟩ := hw3; exact nxDrewN V2.out q); clear hw3))
      go_loopw [5] (fun iv wr => ∃ k : Nat, k ≤ xs.length ∧ k ≤ ys.length ∧ iv = .int .i64 k ∧ Hid (Below w.heap.size w wr) ∧ xs.take k = ys.take k) (fun iv _ => xs.length - (intOf iv).toNat)
      case atStart => exact ⟨0, by omega, by omega, rfl, V3.out, rfl⟩
      case round =>
        obtain ⟨k, hkx, hky, rfl, Vr, htk⟩ := hrel
        have HTk := Lib.hid htk
        have hkw : IntKind.i64.wrap ((k : Int) + 1) = (k : Int) + 1 := by rw [IntKind.wrap_i64]; have := HM.out; omega
        have hkw0 : IntKind.i64.wrap (k : Int) = (k : Int) := by rw [IntKind.wrap_i64]; have := HM.out; omega
        clear htk
        have V0 : Hid (Below w.heap.size w wr.drew) := nxDr Vr.out
        by_cases hx : k < xs.length
        · have hxb : decide ((k : Int) < (xs.length : Int)) = true := decide_eq_true (by omega)
          have hxi : (k : Int) < (xs.length : Int) := by omega
          by_cases hy : k < ys.length
          · have hyb : decide ((k : Int) < (ys.length : Int)) = true := decide_eq_true (by omega)
            have hyi : (k : Int) < (ys.length : Int) := by omega
            have hxr := HRA.out k hx
            have hyr := HRB.out k hy
            obtain ⟨x, hxk⟩ : ∃ x, xs[k] = x := ⟨_, rfl⟩
            obtain ⟨y, hyk⟩ : ∃ y, ys[k] = y := ⟨_, rfl⟩
            have hxl : x.length = 32 := by rw [← hxk]; exact X32.out.get hx
            have hyl : y.length = 32 := by rw [← hyk]; exact Y32.out.get hy
            rw [hxk] at hxr
            rw [hyk] at hyr
            have RX := Lib.hid hxr
            have RY := Lib.hid hyr
            have HSX : Hid ((Tryd.prog.info? 32).map (·.size) = some (By x).length) := by have h := Tryd.hsizeB x hxl; show _ = _; rw [h]; simp
            have HSY : Hid ((Tryd.prog.info? 32).map (·.size) = some (By y).length) := by have h := Tryd.hsizeB y hyl; show _ = _; rw [h]; simp
            have hqq : ∀ wq, (binOp .eql 32 (.agg (By x).toArray) (.agg (By y).toArray)).run Tryd.prog wq = .ok (.bool (x == y)) wq := fun wq => run_eql_bytes 32 32 5 Tryd.underlying32 Tryd.underlying5 Tryd.u8size x y hxl hyl
            clear hxr hyr hyl
            cases hxy : x == y with
            | true =>
              rw [hxy] at hqq
              have hnx : xs.take (k + 1) = ys.take (k + 1) := by
                rw [List.take_succ_eq_append_getElem hx, List.take_succ_eq_append_getElem hy, HTk.out, hxk, hyk, eq_of_beq hxy]
              have HNx := Lib.hid hnx
              clear hnx hxy hxk hyk hxl
              go_wp2
              refine wp_region_held_drew (S := fun W => W.rangeAt bA (oA + k * 32) (By x) ∧ W.rangeAt bB (oB + k * 32) (By y)) (by kernel_rfl) ⟨rng_below RX.out V0.out HBA.out, rng_below RY.out V0.out HBB.out⟩ (fun hHeld => ?_)
              refine wpAnyH_take (i := 0) (oi := ⟨_, _, _, _, _, _⟩) (v := ?_) rfl (by kernel_rfl) (by kernel_rfl) (by kernel_rfl) (fun _ _ _ h => h) (Or.inl ⟨by rfl, ?_⟩) (by assumption) ?_
              rotate_left 1
              · intro W hSw
                try dsimp only at hSw
                go_simp
                try with_reducible rfl
              try simp only [Act.put, List.setIfInBounds_toArray, List.set_cons_zero, List.set_cons_succ]
              refine wpAnyH_take (i := 1) (oi := ⟨_, _, _, _, _, _⟩) (v := ?_) rfl (by kernel_rfl) (by kernel_rfl) (by kernel_rfl) (fun _ _ _ h => h) (Or.inl ⟨by rfl, ?_⟩) (by assumption) ?_
              rotate_left 1
              · intro W hSw
                try dsimp only at hSw
                go_simp
                try with_reducible rfl
              try simp only [Act.put, List.setIfInBounds_toArray, List.set_cons_zero, List.set_cons_succ]
              refine wpAnyH_take (i := 2) (oi := ⟨_, _, _, _, _, _⟩) (v := ?_) rfl (by kernel_rfl) (by kernel_rfl) (by kernel_rfl) (fun _ _ _ h => h) (Or.inl ⟨by rfl, ?_⟩) (by assumption) ?_
              rotate_left 1
              · intro W hSw
                try dsimp only at hSw
                go_simp
                try with_reducible rfl
              try simp only [Act.put, List.setIfInBounds_toArray, List.set_cons_zero, List.set_cons_succ]
              refine wpAnyH_take (i := 3) (oi := ⟨_, _, _, _, _, _⟩) (v := ?_) rfl (by kernel_rfl) (by kernel_rfl) (by kernel_rfl) (fun _ _ _ h => h) (Or.inl ⟨by rfl, ?_⟩) (by assumption) ?_
              rotate_left 1
              · intro W hSw
                try dsimp only at hSw
                go_simp
                try with_reducible rfl
              try simp only [Act.put, List.setIfInBounds_toArray, List.set_cons_zero, List.set_cons_succ]
              refine wpAnyH_take (i := 4) (oi := ⟨_, _, _, _, _, _⟩) (v := ?_) rfl (by kernel_rfl) (by kernel_rfl) (by kernel_rfl) (fun _ _ _ h => h) (Or.inl ⟨by rfl, ?_⟩) (by assumption) ?_
              rotate_left 1
              · intro W hSw
                try dsimp only at hSw
                go_simp
                try with_reducible rfl
              try simp only [Act.put, List.setIfInBounds_toArray, List.set_cons_zero, List.set_cons_succ]
              refine wpAnyH_take (i := 5) (oi := ⟨_, _, _, _, _, _⟩) (v := ?_) rfl (by kernel_rfl) (by kernel_rfl) (by kernel_rfl) (fun _ _ _ h => h) (Or.inl ⟨by rfl, ?_⟩) (by assumption) ?_
              rotate_left 1
              · intro W hSw
                try dsimp only at hSw
                go_simp
                try with_reducible rfl
              try simp only [Act.put, List.setIfInBounds_toArray, List.set_cons_zero, List.set_cons_succ]
              refine wpAnyH_take (i := 6) (oi := ⟨_, _, _, _, _, _⟩) (v := ?_) rfl (by kernel_rfl) (by kernel_rfl) (by kernel_rfl) (fun _ _ _ h => h) (Or.inl ⟨by rfl, ?_⟩) (by assumption) ?_
              rotate_left 1
              · intro W hSw
                try dsimp only at hSw
                go_simp
                try with_reducible rfl
              try simp only [Act.put, List.setIfInBounds_toArray, List.set_cons_zero, List.set_cons_succ]
              refine wpAnyH_take (i := 7) (oi := ⟨_, _, _, _, _, _⟩) (v := ?_) rfl (by kernel_rfl) (by kernel_rfl) (by kernel_rfl) (fun _ _ _ h => h) (Or.inl ⟨by rfl, ?_⟩) (by assumption) ?_
              rotate_left 1
              · intro W hSw
                try dsimp only at hSw
                go_simp
                try with_reducible rfl
              try simp only [Act.put, List.setIfInBounds_toArray, List.set_cons_zero, List.set_cons_succ]
              refine wpAnyH_take (i := 8) (oi := ⟨_, _, _, _, _, _⟩) (v := ?_) rfl (by kernel_rfl) (by kernel_rfl) (by kernel_rfl) (fun _ _ _ h => h) (Or.inl ⟨by rfl, ?_⟩) (by assumption) ?_
              rotate_left 1
              · intro W hSw
                try dsimp only at hSw
                go_simp
                try with_reducible rfl
              try simp only [Act.put, List.setIfInBounds_toArray, List.set_cons_zero, List.set_cons_succ]
              refine wpAnyH_take (i := 9) (oi := ⟨_, _, _, _, _, _⟩) (v := ?_) rfl (by kernel_rfl) (by kernel_rfl) (by kernel_rfl) (fun _ _ _ h => h) (Or.inl ⟨by rfl, ?_⟩) (by assumption) ?_
              rotate_left 1
              · intro W hSw
                try dsimp only at hSw
                go_simp
                try with_reducible rfl
              try simp only [Act.put, List.setIfInBounds_toArray, List.set_cons_zero, List.set_cons_succ]
              refine wpAnyH_take (i := 10) (oi := ⟨_, _, _, _, _, _⟩) (v := ?_) rfl (by kernel_rfl) (by kernel_rfl) (by kernel_rfl) (fun _ _ _ h => h) (Or.inl ⟨by rfl, ?_⟩) (by assumption) ?_
              rotate_left 1
              · intro W hSw
                try dsimp only at hSw
                go_simp
                try with_reducible rfl
              try simp only [Act.put, List.setIfInBounds_toArray, List.set_cons_zero, List.set_cons_succ]
              refine wpAnyH_take (i := 11) (oi := ⟨_, _, _, _, _, _⟩) (v := ?_) rfl (by kernel_rfl) (by kernel_rfl) (by kernel_rfl) (fun _ _ _ h => h) (Or.inl ⟨by rfl, ?_⟩) (by assumption) ?_
              rotate_left 1
              · intro W hSw
                try dsimp only at hSw
                go_simp
                try with_reducible rfl
              try simp only [Act.put, List.setIfInBounds_toArray, List.set_cons_zero, List.set_cons_succ]
              refine wpAnyH_take (i := 12) (oi := ⟨_, _, _, _, _, _⟩) (v := ?_) rfl (by kernel_rfl) (by kernel_rfl) (by kernel_rfl) (fun _ _ _ h => h) (Or.inl ⟨by rfl, ?_⟩) (by assumption) ?_
              rotate_left 1
              · intro W hSw
                try dsimp only at hSw
                go_simp
                try with_reducible rfl
              try simp only [Act.put, List.setIfInBounds_toArray, List.set_cons_zero, List.set_cons_succ]
              refine wpAnyH_take (i := 13) (oi := ⟨_, _, _, _, _, _⟩) (v := ?_) rfl (by kernel_rfl) (by kernel_rfl) (by kernel_rfl) (fun _ _ _ h => h) (Or.inl ⟨by rfl, ?_⟩) (by assumption) ?_
              rotate_left 1
              · intro W hSw
                try dsimp only at hSw
                go_simp
                try with_reducible rfl
              try simp only [Act.put, List.setIfInBounds_toArray, List.set_cons_zero, List.set_cons_succ]
              refine wpAnyH_take (i := 14) (oi := ⟨_, _, _, _, _, _⟩) (v := .agg (By x).toArray) rfl (by kernel_rfl) (by kernel_rfl) (by kernel_rfl) (fun _ _ _ h => h) (yieldsIf_load_mid (by rfl) 32 (.tmp 52) rfl (bA) (oA + k * 32) rfl (By x) _ (fun W h => h.1) Tryd.underlying32 rfl HSX.out) (by assumption) ?_
              try simp only [Act.put, List.setIfInBounds_toArray, List.set_cons_zero, List.set_cons_succ]
              refine wpAnyH_take (i := 15) (oi := ⟨_, _, _, _, _, _⟩) (v := ?_) rfl (by kernel_rfl) (by kernel_rfl) (by kernel_rfl) (fun _ _ _ h => h) (Or.inl ⟨by rfl, ?_⟩) (by assumption) ?_
              rotate_left 1
              · intro W hSw
                try dsimp only at hSw
                go_simp
                try with_reducible rfl
              try simp only [Act.put, List.setIfInBounds_toArray, List.set_cons_zero, List.set_cons_succ]
              refine wpAnyH_take (i := 16) (oi := ⟨_, _, _, _, _, _⟩) (v := ?_) rfl (by kernel_rfl) (by kernel_rfl) (by kernel_rfl) (fun _ _ _ h => h) (Or.inl ⟨by rfl, ?_⟩) (by assumption) ?_
              rotate_left 1
              · intro W hSw
                try dsimp only at hSw
                go_simp
                try with_reducible rfl
              try simp only [Act.put, List.setIfInBounds_toArray, List.set_cons_zero, List.set_cons_succ]
              refine wpAnyH_take (i := 17) (oi := ⟨_, _, _, _, _, _⟩) (v := ?_) rfl (by kernel_rfl) (by kernel_rfl) (by kernel_rfl) (fun _ _ _ h => h) (Or.inl ⟨by rfl, ?_⟩) (by assumption) ?_
              rotate_left 1
              · intro W hSw
                try dsimp only at hSw
                go_simp
                try with_reducible rfl
              try simp only [Act.put, List.setIfInBounds_toArray, List.set_cons_zero, List.set_cons_succ]
              refine wpAnyH_take (i := 18) (oi := ⟨_, _, _, _, _, _⟩) (v := .agg (By y).toArray) rfl (by kernel_rfl) (by kernel_rfl) (by kernel_rfl) (fun _ _ _ h => h) (yieldsIf_load_mid (by rfl) 32 (.tmp 56) rfl (bB) (oB + k * 32) rfl (By y) _ (fun W h => h.2) Tryd.underlying32 rfl HSY.out) (by assumption) ?_
              try simp only [Act.put, List.setIfInBounds_toArray, List.set_cons_zero, List.set_cons_succ]
              refine wpAnyH_take (i := 19) (oi := ⟨_, _, _, _, _, _⟩) (v := ?_) rfl (by kernel_rfl) (by kernel_rfl) (by kernel_rfl) (fun _ _ _ h => h) (Or.inl ⟨by rfl, ?_⟩) (by assumption) ?_
              rotate_left 1
              · intro W hSw
                try dsimp only at hSw
                go_simp
                try with_reducible rfl
              try simp only [Act.put, List.setIfInBounds_toArray, List.set_cons_zero, List.set_cons_succ]
              refine wpAnyH_take (i := 20) (oi := ⟨_, _, _, _, _, _⟩) (v := ?_) rfl (by kernel_rfl) (by kernel_rfl) (by kernel_rfl) (fun _ _ _ h => h) (Or.inl ⟨by rfl, ?_⟩) (by assumption) ?_
              rotate_left 1
              · intro W hSw
                try dsimp only at hSw
                go_simp
                try with_reducible rfl
              try simp only [Act.put, List.setIfInBounds_toArray, List.set_cons_zero, List.set_cons_succ]
              refine wpAnyH_done (by kernel_rfl) ?_ _
              go_wp2
              go_roundw
              case rel => exact ⟨k + 1, by omega, by omega, by go_num, V0.out, HNx.out⟩
              case measure => simp [intOf] <;> omega
            | false =>
              rw [hxy] at hqq
              have hgx : decide ((xs.length : Int) ≤ (k : Int)) = false := decide_eq_false (by omega)
              have hcol := lists_coll (xs := xs) (ys := ys) hx (by have := HM.out; omega) (HU.out.trans (HUV.out.trans HV.out.symm)) (.inr ⟨hy, by rw [hxk, hyk]; exact beq_eq_false_iff_ne.1 hxy⟩)
              rw [hxk] at hcol
              have hp := hx
              clear hxy hyk
              go_wp2
              refine wp_region_held_drew (S := fun W => W.rangeAt bA (oA + k * 32) (By x) ∧ W.rangeAt bB (oB + k * 32) (By y)) (by kernel_rfl) ⟨rng_below RX.out V0.out HBA.out, rng_below RY.out V0.out HBB.out⟩ (fun hHeld => ?_)
              refine wpAnyH_take (i := 0) (oi := ⟨_, _, _, _, _, _⟩) (v := ?_) rfl (by kernel_rfl) (by kernel_rfl) (by kernel_rfl) (fun _ _ _ h => h) (Or.inl ⟨by rfl, ?_⟩) (by assumption) ?_
              rotate_left 1
              · intro W hSw
                try dsimp only at hSw
                go_simp
                try with_reducible rfl
              try simp only [Act.put, List.setIfInBounds_toArray, List.set_cons_zero, List.set_cons_succ]
              refine wpAnyH_take (i := 1) (oi := ⟨_, _, _, _, _, _⟩) (v := ?_) rfl (by kernel_rfl) (by kernel_rfl) (by kernel_rfl) (fun _ _ _ h => h) (Or.inl ⟨by rfl, ?_⟩) (by assumption) ?_
              rotate_left 1
              · intro W hSw
                try dsimp only at hSw
                go_simp
                try with_reducible rfl
              try simp only [Act.put, List.setIfInBounds_toArray, List.set_cons_zero, List.set_cons_succ]
              refine wpAnyH_take (i := 2) (oi := ⟨_, _, _, _, _, _⟩) (v := ?_) rfl (by kernel_rfl) (by kernel_rfl) (by kernel_rfl) (fun _ _ _ h => h) (Or.inl ⟨by rfl, ?_⟩) (by assumption) ?_
              rotate_left 1
              · intro W hSw
                try dsimp only at hSw
                go_simp
                try with_reducible rfl
              try simp only [Act.put, List.setIfInBounds_toArray, List.set_cons_zero, List.set_cons_succ]
              refine wpAnyH_take (i := 3) (oi := ⟨_, _, _, _, _, _⟩) (v := ?_) rfl (by kernel_rfl) (by kernel_rfl) (by kernel_rfl) (fun _ _ _ h => h) (Or.inl ⟨by rfl, ?_⟩) (by assumption) ?_
              rotate_left 1
              · intro W hSw
                try dsimp only at hSw
                go_simp
                try with_reducible rfl
              try simp only [Act.put, List.setIfInBounds_toArray, List.set_cons_zero, List.set_cons_succ]
              refine wpAnyH_take (i := 4) (oi := ⟨_, _, _, _, _, _⟩) (v := ?_) rfl (by kernel_rfl) (by kernel_rfl) (by kernel_rfl) (fun _ _ _ h => h) (Or.inl ⟨by rfl, ?_⟩) (by assumption) ?_
              rotate_left 1
              · intro W hSw
                try dsimp only at hSw
                go_simp
                try with_reducible rfl
              try simp only [Act.put, List.setIfInBounds_toArray, List.set_cons_zero, List.set_cons_succ]
              refine wpAnyH_take (i := 5) (oi := ⟨_, _, _, _, _, _⟩) (v := ?_) rfl (by kernel_rfl) (by kernel_rfl) (by kernel_rfl) (fun _ _ _ h => h) (Or.inl ⟨by rfl, ?_⟩) (by assumption) ?_
              rotate_left 1
              · intro W hSw
                try dsimp only at hSw
                go_simp
                try with_reducible rfl
              try simp only [Act.put, List.setIfInBounds_toArray, List.set_cons_zero, List.set_cons_succ]
              refine wpAnyH_take (i := 6) (oi := ⟨_, _, _, _, _, _⟩) (v := ?_) rfl (by kernel_rfl) (by kernel_rfl) (by kernel_rfl) (fun _ _ _ h => h) (Or.inl ⟨by rfl, ?_⟩) (by assumption) ?_
              rotate_left 1
              · intro W hSw
                try dsimp only at hSw
                go_simp
                try with_reducible rfl
              try simp only [Act.put, List.setIfInBounds_toArray, List.set_cons_zero, List.set_cons_succ]
              refine wpAnyH_take (i := 7) (oi := ⟨_, _, _, _, _, _⟩) (v := ?_) rfl (by kernel_rfl) (by kernel_rfl) (by kernel_rfl) (fun _ _ _ h => h) (Or.inl ⟨by rfl, ?_⟩) (by assumption) ?_
              rotate_left 1
              · intro W hSw
                try dsimp only at hSw
                go_simp
                try with_reducible rfl
              try simp only [Act.put, List.setIfInBounds_toArray, List.set_cons_zero, List.set_cons_succ]
              refine wpAnyH_take (i := 8) (oi := ⟨_, _, _, _, _, _⟩) (v := ?_) rfl (by kernel_rfl) (by kernel_rfl) (by kernel_rfl) (fun _ _ _ h => h) (Or.inl ⟨by rfl, ?_⟩) (by assumption) ?_
              rotate_left 1
              · intro W hSw
                try dsimp only at hSw
                go_simp
                try with_reducible rfl
              try simp only [Act.put, List.setIfInBounds_toArray, List.set_cons_zero, List.set_cons_succ]
              refine wpAnyH_take (i := 9) (oi := ⟨_, _, _, _, _, _⟩) (v := ?_) rfl (by kernel_rfl) (by kernel_rfl) (by kernel_rfl) (fun _ _ _ h => h) (Or.inl ⟨by rfl, ?_⟩) (by assumption) ?_
              rotate_left 1
              · intro W hSw
                try dsimp only at hSw
                go_simp
                try with_reducible rfl
              try simp only [Act.put, List.setIfInBounds_toArray, List.set_cons_zero, List.set_cons_succ]
              refine wpAnyH_take (i := 10) (oi := ⟨_, _, _, _, _, _⟩) (v := ?_) rfl (by kernel_rfl) (by kernel_rfl) (by kernel_rfl) (fun _ _ _ h => h) (Or.inl ⟨by rfl, ?_⟩) (by assumption) ?_
              rotate_left 1
              · intro W hSw
                try dsimp only at hSw
                go_simp
                try with_reducible rfl
              try simp only [Act.put, List.setIfInBounds_toArray, List.set_cons_zero, List.set_cons_succ]
              refine wpAnyH_take (i := 11) (oi := ⟨_, _, _, _, _, _⟩) (v := ?_) rfl (by kernel_rfl) (by kernel_rfl) (by kernel_rfl) (fun _ _ _ h => h) (Or.inl ⟨by rfl, ?_⟩) (by assumption) ?_
              rotate_left 1
              · intro W hSw
                try dsimp only at hSw
                go_simp
                try with_reducible rfl
              try simp only [Act.put, List.setIfInBounds_toArray, List.set_cons_zero, List.set_cons_succ]
              refine wpAnyH_take (i := 12) (oi := ⟨_, _, _, _, _, _⟩) (v := ?_) rfl (by kernel_rfl) (by kernel_rfl) (by kernel_rfl) (fun _ _ _ h => h) (Or.inl ⟨by rfl, ?_⟩) (by assumption) ?_
              rotate_left 1
              · intro W hSw
                try dsimp only at hSw
                go_simp
                try with_reducible rfl
              try simp only [Act.put, List.setIfInBounds_toArray, List.set_cons_zero, List.set_cons_succ]
              refine wpAnyH_take (i := 13) (oi := ⟨_, _, _, _, _, _⟩) (v := ?_) rfl (by kernel_rfl) (by kernel_rfl) (by kernel_rfl) (fun _ _ _ h => h) (Or.inl ⟨by rfl, ?_⟩) (by assumption) ?_
              rotate_left 1
              · intro W hSw
                try dsimp only at hSw
                go_simp
                try with_reducible rfl
              try simp only [Act.put, List.setIfInBounds_toArray, List.set_cons_zero, List.set_cons_succ]
              refine wpAnyH_take (i := 14) (oi := ⟨_, _, _, _, _, _⟩) (v := .agg (By x).toArray) rfl (by kernel_rfl) (by kernel_rfl) (by kernel_rfl) (fun _ _ _ h => h) (yieldsIf_load_mid (by rfl) 32 (.tmp 52) rfl (bA) (oA + k * 32) rfl (By x) _ (fun W h => h.1) Tryd.underlying32 rfl HSX.out) (by assumption) ?_
              try simp only [Act.put, List.setIfInBounds_toArray, List.set_cons_zero, List.set_cons_succ]
              refine wpAnyH_take (i := 15) (oi := ⟨_, _, _, _, _, _⟩) (v := ?_) rfl (by kernel_rfl) (by kernel_rfl) (by kernel_rfl) (fun _ _ _ h => h) (Or.inl ⟨by rfl, ?_⟩) (by assumption) ?_
              rotate_left 1
              · intro W hSw
                try dsimp only at hSw
                go_simp
                try with_reducible rfl
              try simp only [Act.put, List.setIfInBounds_toArray, List.set_cons_zero, List.set_cons_succ]
              refine wpAnyH_take (i := 16) (oi := ⟨_, _, _, _, _, _⟩) (v := ?_) rfl (by kernel_rfl) (by kernel_rfl) (by kernel_rfl) (fun _ _ _ h => h) (Or.inl ⟨by rfl, ?_⟩) (by assumption) ?_
              rotate_left 1
              · intro W hSw
                try dsimp only at hSw
                go_simp
                try with_reducible rfl
              try simp only [Act.put, List.setIfInBounds_toArray, List.set_cons_zero, List.set_cons_succ]
              refine wpAnyH_take (i := 17) (oi := ⟨_, _, _, _, _, _⟩) (v := ?_) rfl (by kernel_rfl) (by kernel_rfl) (by kernel_rfl) (fun _ _ _ h => h) (Or.inl ⟨by rfl, ?_⟩) (by assumption) ?_
              rotate_left 1
              · intro W hSw
                try dsimp only at hSw
                go_simp
                try with_reducible rfl
              try simp only [Act.put, List.setIfInBounds_toArray, List.set_cons_zero, List.set_cons_succ]
              refine wpAnyH_take (i := 18) (oi := ⟨_, _, _, _, _, _⟩) (v := .agg (By y).toArray) rfl (by kernel_rfl) (by kernel_rfl) (by kernel_rfl) (fun _ _ _ h => h) (yieldsIf_load_mid (by rfl) 32 (.tmp 56) rfl (bB) (oB + k * 32) rfl (By y) _ (fun W h => h.2) Tryd.underlying32 rfl HSY.out) (by assumption) ?_
              try simp only [Act.put, List.setIfInBounds_toArray, List.set_cons_zero, List.set_cons_succ]
              refine wpAnyH_take (i := 19) (oi := ⟨_, _, _, _, _, _⟩) (v := ?_) rfl (by kernel_rfl) (by kernel_rfl) (by kernel_rfl) (fun _ _ _ h => h) (Or.inl ⟨by rfl, ?_⟩) (by assumption) ?_
              rotate_left 1
              · intro W hSw
                try dsimp only at hSw
                go_simp
                try with_reducible rfl
              try simp only [Act.put, List.setIfInBounds_toArray, List.set_cons_zero, List.set_cons_succ]
              refine wpAnyH_take (i := 20) (oi := ⟨_, _, _, _, _, _⟩) (v := ?_) rfl (by kernel_rfl) (by kernel_rfl) (by kernel_rfl) (fun _ _ _ h => h) (Or.inl ⟨by rfl, ?_⟩) (by assumption) ?_
              rotate_left 1
              · intro W hSw
                try dsimp only at hSw
                go_simp
                try with_reducible rfl
              try simp only [Act.put, List.setIfInBounds_toArray, List.set_cons_zero, List.set_cons_succ]
              refine wpAnyH_done (by kernel_rfl) ?_ _
              obtain ⟨bs, hbs⟩ : ∃ bs, besideL k xs = bs := ⟨_, rfl⟩
              rw [hbs] at hcol
              have HBs := Lib.hid hbs
              have HB32 : Hid (All32 bs) := by rw [← hbs]; exact beside_32 _ _
              have HCol : Hid (collB x (k : Int) (xs.length : Int) bs ys = true) := hcol
              have HP := Lib.hid hp
              have HXl := Lib.hid hxl
              have V4 : Hid (Below w.heap.size w wr.drew) := nxDr Vr.out
              clear hbs hcol hp hxk hxl
              go_wp2_with (first
                | (go_at_call 9; ((refine (path_any wr.drew (HT.out.later V4.out) k (some ⟨bA, oA, none⟩) _ c xs rfl HP.out X32.out ((HS.out.below V4.out).size) (by have := HM.out; omega)).mono ?_); unfold PathPost; rw [HBs.out]; rintro e w4 ⟨P2, d2, rfl, hd4, hs4, hb4⟩; have D4 := Lib.hid hd4; have S4 := Lib.hid hs4; have V5 : Hid (Below w.heap.size w w4) := nxTo V4.out hb4; have Q4 : Hid (Blk (w4.alloc (.cells (PathC 0 0 none 0 0) 25)) w4.heap.size 25 (PathC 0 0 none 0 0)) := Lib.hid (heap_alloc_new w4 _); clear hd4 hs4 hb4))
                | ((with_reducible show wpList _ _ _ (⟨none, .store 25 _ _, _, _, _, _⟩ :: _) _ _); refine wpList_store_all rfl 25 (.tmp 6) (.tmp 70) rfl w4.heap.size 25 (PathC 0 0 none 0 0) (PathC k xs.length P2 bs.length d2) rfl rfl Q4.out rfl Tryd.psize (PathC_one _ _ _ _ _) ?_; intro w5 h5 h6 h7; have R5 := Lib.hid (blk_rng (vs := [Value.int .i64 (k : Int), .int .i64 (xs.length : Int), .slice P2 bs.length d2]) h5); have hlt5 := Lib.hid h5.lt; have Vc5 : Hid (Below w4.heap.size w4 w5) := (nxAlloc (nxRefl w4) _).trans (h6.below (nxAlloc (nxRefl w4) _).size (fun k hk => by omega)); clear h5 h6 h7))
              have V6 : Hid (Below w.heap.size w w5) := nxTo V5.out Vc5.out
              have S5 := Lib.hid (S4.out.below Vc5.out).size
              obtain ⟨g6, hg6⟩ : ∃ g, w4.heap.size = g := ⟨_, rfl⟩
              rw [hg6] at R5 hlt5
              rw [hg6]
              clear hg6 Q4 Vc5 V5 S4
              refine wp_region_held_drew (S := fun W => W.rangeAt bA (oA + k * 32) (By x) ∧ W.rangeAt g6 0 [Value.int .i64 (k : Int), .int .i64 (xs.length : Int), .slice P2 bs.length d2]) (by kernel_rfl) ⟨rng_below RX.out (nxDr V6.out) HBA.out, R5.out⟩ (fun hHeld => ?_)
              refine wpAnyH_take (i := 0) (oi := ⟨_, _, _, _, _, _⟩) (v := ?_) rfl (by kernel_rfl) (by kernel_rfl) (by kernel_rfl) (fun _ _ _ h => h) (Or.inl ⟨by rfl, ?_⟩) (by assumption) ?_
              rotate_left 1
              · intro W hSw
                try dsimp only at hSw
                go_simp
                try with_reducible rfl
              try simp only [Act.put, List.setIfInBounds_toArray, List.set_cons_zero, List.set_cons_succ]
              refine wpAnyH_ready (rs := [1]) (by kernel_rfl) (by simp) ?_
              refine AllReadyH.cons rfl (fun K hK => ?_) AllReadyH.nil
              go_simp
              go_at_call 13
              refine (num_any _ _).mono ?_
              rintro e wn ⟨rfl, hwn⟩
              obtain rfl := hwn.symm
              refine hK.out _ _ ⟨rng_below RX.out (nxDr V6.out) HBA.out, R5.out⟩ (fun hSn => ?_)
              clear hK K
              try simp only [Act.put, List.setIfInBounds_toArray, List.set_cons_zero, List.set_cons_succ]
              refine wpAnyH_take (i := 2) (oi := ⟨_, _, _, _, _, _⟩) (v := ?_) rfl (by kernel_rfl) (by kernel_rfl) (by kernel_rfl) (fun _ _ _ h => h) (Or.inl ⟨by rfl, ?_⟩) (by assumption) ?_
              rotate_left 1
              · intro W hSw
                try dsimp only at hSw
                go_simp
                try with_reducible rfl
              try simp only [Act.put, List.setIfInBounds_toArray, List.set_cons_zero, List.set_cons_succ]
              refine wpAnyH_take (i := 3) (oi := ⟨_, _, _, _, _, _⟩) (v := ?_) rfl (by kernel_rfl) (by kernel_rfl) (by kernel_rfl) (fun _ _ _ h => h) (Or.inl ⟨by rfl, ?_⟩) (by assumption) ?_
              rotate_left 1
              · intro W hSw
                try dsimp only at hSw
                go_simp
                try with_reducible rfl
              try simp only [Act.put, List.setIfInBounds_toArray, List.set_cons_zero, List.set_cons_succ]
              refine wpAnyH_take (i := 4) (oi := ⟨_, _, _, _, _, _⟩) (v := ?_) rfl (by kernel_rfl) (by kernel_rfl) (by kernel_rfl) (fun _ _ _ h => h) (Or.inl ⟨by rfl, ?_⟩) (by assumption) ?_
              rotate_left 1
              · intro W hSw
                try dsimp only at hSw
                go_simp
                try with_reducible rfl
              try simp only [Act.put, List.setIfInBounds_toArray, List.set_cons_zero, List.set_cons_succ]
              refine wpAnyH_take (i := 5) (oi := ⟨_, _, _, _, _, _⟩) (v := ?_) rfl (by kernel_rfl) (by kernel_rfl) (by kernel_rfl) (fun _ _ _ h => h) (Or.inl ⟨by rfl, ?_⟩) (by assumption) ?_
              rotate_left 1
              · intro W hSw
                try dsimp only at hSw
                go_simp
                try with_reducible rfl
              try simp only [Act.put, List.setIfInBounds_toArray, List.set_cons_zero, List.set_cons_succ]
              refine wpAnyH_take (i := 6) (oi := ⟨_, _, _, _, _, _⟩) (v := ?_) rfl (by kernel_rfl) (by kernel_rfl) (by kernel_rfl) (fun _ _ _ h => h) (Or.inl ⟨by rfl, ?_⟩) (by assumption) ?_
              rotate_left 1
              · intro W hSw
                try dsimp only at hSw
                go_simp
                try with_reducible rfl
              try simp only [Act.put, List.setIfInBounds_toArray, List.set_cons_zero, List.set_cons_succ]
              refine wpAnyH_take (i := 7) (oi := ⟨_, _, _, _, _, _⟩) (v := .agg (By x).toArray) rfl (by kernel_rfl) (by kernel_rfl) (by kernel_rfl) (fun _ _ _ h => h) (yieldsIf_load_mid (by rfl) 32 (.tmp 78) rfl (bA) (oA + k * 32) rfl (By x) _ (fun W h => h.1) Tryd.underlying32 rfl HSX.out) (by assumption) ?_
              try simp only [Act.put, List.setIfInBounds_toArray, List.set_cons_zero, List.set_cons_succ]
              refine wpAnyH_take (i := 8) (oi := ⟨_, _, _, _, _, _⟩) (v := .agg ([Value.int .i64 (k : Int), .int .i64 (xs.length : Int), .slice P2 bs.length d2]).toArray) rfl (by kernel_rfl) (by kernel_rfl) (by kernel_rfl) (fun _ _ _ h => h) (yieldsIf_load_mid (by rfl) 25 (.tmp 6) rfl (g6) (0) rfl ([Value.int .i64 (k : Int), .int .i64 (xs.length : Int), .slice P2 bs.length d2]) _ (fun W h => h.2) Tryd.underlying25 rfl Tryd.psize) (by assumption) ?_
              try simp only [Act.put, List.setIfInBounds_toArray, List.set_cons_zero, List.set_cons_succ]
              refine wpAnyH_take (i := 9) (oi := ⟨_, _, _, _, _, _⟩) (v := ?_) rfl (by kernel_rfl) (by kernel_rfl) (by kernel_rfl) (fun _ _ _ h => h) (Or.inl ⟨by rfl, ?_⟩) (by assumption) ?_
              rotate_left 1
              · intro W hSw
                try dsimp only at hSw
                go_simp
                try with_reducible rfl
              try simp only [Act.put, List.setIfInBounds_toArray, List.set_cons_zero, List.set_cons_succ]
              refine wpAnyH_ready (rs := [10]) (by kernel_rfl) (by simp) ?_
              refine AllReadyH.cons rfl (fun K hK => ?_) AllReadyH.nil
              go_simp
              go_at_call 24
              refine (told_any w5.drew (HT.out.later (nxDr V6.out)) x (k : Int) (xs.length : Int) P2 bs.length d2 bs (some ⟨bB, oB, none⟩) _ d ys HXl.out rfl D4.out HB32.out (show SeesV w5.drew w5.drew.heap.size P2 (Hs bs) from S5.out) rfl Y32.out ((HR.out.below (nxDr V6.out)).size) (by have := HM.out; omega)).mono ?_
              rw [HCol.out]
              rintro e w6 ⟨rfl, hb6⟩
              have V7 : Hid (Below w.heap.size w w6) := nxTo (nxDr V6.out) hb6
              have Vw6 : Hid (Below w5.heap.size w5 w6) := nxUndr hb6
              clear hb6
              refine hK.out _ _ ⟨rng_below RX.out V7.out HBA.out, rng_below R5.out Vw6.out hlt5.out⟩ (fun hSn => ?_)
              clear hK K
              try simp only [Act.put, List.setIfInBounds_toArray, List.set_cons_zero, List.set_cons_succ]
              refine wpAnyH_take (i := 11) (oi := ⟨_, _, _, _, _, _⟩) (v := ?_) rfl (by kernel_rfl) (by kernel_rfl) (by kernel_rfl) (fun _ _ _ h => h) (Or.inl ⟨by rfl, ?_⟩) (by assumption) ?_
              rotate_left 1
              · intro W hSw
                try dsimp only at hSw
                go_simp
                try with_reducible rfl
              try simp only [Act.put, List.setIfInBounds_toArray, List.set_cons_zero, List.set_cons_succ]
              refine wpAnyH_take (i := 12) (oi := ⟨_, _, _, _, _, _⟩) (v := ?_) rfl (by kernel_rfl) (by kernel_rfl) (by kernel_rfl) (fun _ _ _ h => h) (Or.inl ⟨by rfl, ?_⟩) (by assumption) ?_
              rotate_left 1
              · intro W hSw
                try dsimp only at hSw
                go_simp
                try with_reducible rfl
              try simp only [Act.put, List.setIfInBounds_toArray, List.set_cons_zero, List.set_cons_succ]
              refine wpAnyH_ready (rs := [13]) (by kernel_rfl) (by simp) ?_
              refine AllReadyH.cons rfl (fun K hK => ?_) AllReadyH.nil
              go_simp
              go_at_call 8
              refine (known_any w6 (HT.out.later V7.out)).mono ?_
              rintro e w7 ⟨rfl, hb7⟩
              have V8 : Hid (Below w.heap.size w w7) := nxTo V7.out hb7
              have Vw7 : Hid (Below w5.heap.size w5 w7) := nxTo Vw6.out hb7
              clear hb7
              refine hK.out _ _ ⟨rng_below RX.out V8.out HBA.out, rng_below R5.out Vw7.out hlt5.out⟩ (fun hSn => ?_)
              clear hK K
              try simp only [Act.put, List.setIfInBounds_toArray, List.set_cons_zero, List.set_cons_succ]
              refine wpAnyH_take (i := 14) (oi := ⟨_, _, _, _, _, _⟩) (v := ?_) rfl (by kernel_rfl) (by kernel_rfl) (by kernel_rfl) (fun _ _ _ h => h) (Or.inl ⟨by rfl, ?_⟩) (by assumption) ?_
              rotate_left 1
              · intro W hSw
                try dsimp only at hSw
                go_simp
                try with_reducible rfl
              try simp only [Act.put, List.setIfInBounds_toArray, List.set_cons_zero, List.set_cons_succ]
              refine wpAnyH_take (i := 15) (oi := ⟨_, _, _, _, _, _⟩) (v := ?_) rfl (by kernel_rfl) (by kernel_rfl) (by kernel_rfl) (fun _ _ _ h => h) (Or.inl ⟨by rfl, ?_⟩) (by assumption) ?_
              rotate_left 1
              · intro W hSw
                try dsimp only at hSw
                go_simp
                try with_reducible rfl
              try simp only [Act.put, List.setIfInBounds_toArray, List.set_cons_zero, List.set_cons_succ]
              refine wpAnyH_done (by kernel_rfl) ?_ _
              go_wp2
              go_ret
              exact ⟨rfl, V8.out⟩
          · have hyb : decide ((k : Int) < (ys.length : Int)) = false := decide_eq_false (by omega)
            have hgx : decide ((xs.length : Int) ≤ (k : Int)) = false := decide_eq_false (by omega)
            have hcol := lists_coll (xs := xs) (ys := ys) hx (by have := HM.out; omega) (HU.out.trans (HUV.out.trans HV.out.symm)) (.inl (by omega))
            have hxr := HRA.out k hx
            obtain ⟨x, hxk⟩ : ∃ x, xs[k] = x := ⟨_, rfl⟩
            have hxl : x.length = 32 := by rw [← hxk]; exact X32.out.get hx
            rw [hxk] at hxr hcol
            have RX := Lib.hid hxr
            have HSX : Hid ((Tryd.prog.info? 32).map (·.size) = some (By x).length) := by have h := Tryd.hsizeB x hxl; show _ = _; rw [h]; simp
            have hp := hx
            clear hxr
            go_wp2
            refine wp_region_held_drew (S := fun _ => True) (by kernel_rfl) trivial (fun hHeld => ?_)
            refine wpAnyH_take (i := 0) (oi := ⟨_, _, _, _, _, _⟩) (v := ?_) rfl (by kernel_rfl) (by kernel_rfl) (by kernel_rfl) (fun _ _ _ h => h) (Or.inl ⟨by rfl, ?_⟩) (by assumption) ?_
            rotate_left 1
            · intro W hSw
              try dsimp only at hSw
              go_simp
              try with_reducible rfl
            try simp only [Act.put, List.setIfInBounds_toArray, List.set_cons_zero, List.set_cons_succ]
            refine wpAnyH_take (i := 1) (oi := ⟨_, _, _, _, _, _⟩) (v := ?_) rfl (by kernel_rfl) (by kernel_rfl) (by kernel_rfl) (fun _ _ _ h => h) (Or.inl ⟨by rfl, ?_⟩) (by assumption) ?_
            rotate_left 1
            · intro W hSw
              try dsimp only at hSw
              go_simp
              try with_reducible rfl
            try simp only [Act.put, List.setIfInBounds_toArray, List.set_cons_zero, List.set_cons_succ]
            refine wpAnyH_take (i := 2) (oi := ⟨_, _, _, _, _, _⟩) (v := ?_) rfl (by kernel_rfl) (by kernel_rfl) (by kernel_rfl) (fun _ _ _ h => h) (Or.inl ⟨by rfl, ?_⟩) (by assumption) ?_
            rotate_left 1
            · intro W hSw
              try dsimp only at hSw
              go_simp
              try with_reducible rfl
            try simp only [Act.put, List.setIfInBounds_toArray, List.set_cons_zero, List.set_cons_succ]
            refine wpAnyH_take (i := 3) (oi := ⟨_, _, _, _, _, _⟩) (v := ?_) rfl (by kernel_rfl) (by kernel_rfl) (by kernel_rfl) (fun _ _ _ h => h) (Or.inl ⟨by rfl, ?_⟩) (by assumption) ?_
            rotate_left 1
            · intro W hSw
              try dsimp only at hSw
              go_simp
              try with_reducible rfl
            try simp only [Act.put, List.setIfInBounds_toArray, List.set_cons_zero, List.set_cons_succ]
            refine wpAnyH_take (i := 4) (oi := ⟨_, _, _, _, _, _⟩) (v := ?_) rfl (by kernel_rfl) (by kernel_rfl) (by kernel_rfl) (fun _ _ _ h => h) (Or.inl ⟨by rfl, ?_⟩) (by assumption) ?_
            rotate_left 1
            · intro W hSw
              try dsimp only at hSw
              go_simp
              try with_reducible rfl
            try simp only [Act.put, List.setIfInBounds_toArray, List.set_cons_zero, List.set_cons_succ]
            refine wpAnyH_take (i := 5) (oi := ⟨_, _, _, _, _, _⟩) (v := ?_) rfl (by kernel_rfl) (by kernel_rfl) (by kernel_rfl) (fun _ _ _ h => h) (Or.inl ⟨by rfl, ?_⟩) (by assumption) ?_
            rotate_left 1
            · intro W hSw
              try dsimp only at hSw
              go_simp
              try with_reducible rfl
            try simp only [Act.put, List.setIfInBounds_toArray, List.set_cons_zero, List.set_cons_succ]
            refine wpAnyH_take (i := 6) (oi := ⟨_, _, _, _, _, _⟩) (v := ?_) rfl (by kernel_rfl) (by kernel_rfl) (by kernel_rfl) (fun _ _ _ h => h) (Or.inl ⟨by rfl, ?_⟩) (by assumption) ?_
            rotate_left 1
            · intro W hSw
              try dsimp only at hSw
              go_simp
              try with_reducible rfl
            try simp only [Act.put, List.setIfInBounds_toArray, List.set_cons_zero, List.set_cons_succ]
            refine wpAnyH_take (i := 7) (oi := ⟨_, _, _, _, _, _⟩) (v := ?_) rfl (by kernel_rfl) (by kernel_rfl) (by kernel_rfl) (fun _ _ _ h => h) (Or.inl ⟨by rfl, ?_⟩) (by assumption) ?_
            rotate_left 1
            · intro W hSw
              try dsimp only at hSw
              go_simp
              try with_reducible rfl
            try simp only [Act.put, List.setIfInBounds_toArray, List.set_cons_zero, List.set_cons_succ]
            refine wpAnyH_take (i := 8) (oi := ⟨_, _, _, _, _, _⟩) (v := ?_) rfl (by kernel_rfl) (by kernel_rfl) (by kernel_rfl) (fun _ _ _ h => h) (Or.inl ⟨by rfl, ?_⟩) (by assumption) ?_
            rotate_left 1
            · intro W hSw
              try dsimp only at hSw
              go_simp
              try with_reducible rfl
            try simp only [Act.put, List.setIfInBounds_toArray, List.set_cons_zero, List.set_cons_succ]
            refine wpAnyH_take (i := 9) (oi := ⟨_, _, _, _, _, _⟩) (v := ?_) rfl (by kernel_rfl) (by kernel_rfl) (by kernel_rfl) (fun _ _ _ h => h) (Or.inl ⟨by rfl, ?_⟩) (by assumption) ?_
            rotate_left 1
            · intro W hSw
              try dsimp only at hSw
              go_simp
              try with_reducible rfl
            try simp only [Act.put, List.setIfInBounds_toArray, List.set_cons_zero, List.set_cons_succ]
            refine wpAnyH_take (i := 10) (oi := ⟨_, _, _, _, _, _⟩) (v := ?_) rfl (by kernel_rfl) (by kernel_rfl) (by kernel_rfl) (fun _ _ _ h => h) (Or.inl ⟨by rfl, ?_⟩) (by assumption) ?_
            rotate_left 1
            · intro W hSw
              try dsimp only at hSw
              go_simp
              try with_reducible rfl
            try simp only [Act.put, List.setIfInBounds_toArray, List.set_cons_zero, List.set_cons_succ]
            refine wpAnyH_take (i := 11) (oi := ⟨_, _, _, _, _, _⟩) (v := undef) rfl (by kernel_rfl) (by kernel_rfl) (by kernel_rfl) (fun _ _ _ h => h) (Or.inr ⟨by rfl, rfl⟩) (by assumption) ?_
            try simp only [Act.put, List.setIfInBounds_toArray, List.set_cons_zero, List.set_cons_succ]
            refine wpAnyH_take (i := 12) (oi := ⟨_, _, _, _, _, _⟩) (v := undef) rfl (by kernel_rfl) (by kernel_rfl) (by kernel_rfl) (fun _ _ _ h => h) (Or.inr ⟨by rfl, rfl⟩) (by assumption) ?_
            try simp only [Act.put, List.setIfInBounds_toArray, List.set_cons_zero, List.set_cons_succ]
            refine wpAnyH_take (i := 13) (oi := ⟨_, _, _, _, _, _⟩) (v := undef) rfl (by kernel_rfl) (by kernel_rfl) (by kernel_rfl) (fun _ _ _ h => h) (Or.inr ⟨by rfl, rfl⟩) (by assumption) ?_
            try simp only [Act.put, List.setIfInBounds_toArray, List.set_cons_zero, List.set_cons_succ]
            refine wpAnyH_take (i := 14) (oi := ⟨_, _, _, _, _, _⟩) (v := undef) rfl (by kernel_rfl) (by kernel_rfl) (by kernel_rfl) (fun _ _ _ h => h) (Or.inr ⟨by rfl, rfl⟩) (by assumption) ?_
            try simp only [Act.put, List.setIfInBounds_toArray, List.set_cons_zero, List.set_cons_succ]
            refine wpAnyH_take (i := 15) (oi := ⟨_, _, _, _, _, _⟩) (v := undef) rfl (by kernel_rfl) (by kernel_rfl) (by kernel_rfl) (fun _ _ _ h => h) (Or.inr ⟨by rfl, rfl⟩) (by assumption) ?_
            try simp only [Act.put, List.setIfInBounds_toArray, List.set_cons_zero, List.set_cons_succ]
            refine wpAnyH_take (i := 16) (oi := ⟨_, _, _, _, _, _⟩) (v := undef) rfl (by kernel_rfl) (by kernel_rfl) (by kernel_rfl) (fun _ _ _ h => h) (Or.inr ⟨by rfl, rfl⟩) (by assumption) ?_
            try simp only [Act.put, List.setIfInBounds_toArray, List.set_cons_zero, List.set_cons_succ]
            refine wpAnyH_take (i := 17) (oi := ⟨_, _, _, _, _, _⟩) (v := undef) rfl (by kernel_rfl) (by kernel_rfl) (by kernel_rfl) (fun _ _ _ h => h) (Or.inr ⟨by rfl, rfl⟩) (by assumption) ?_
            try simp only [Act.put, List.setIfInBounds_toArray, List.set_cons_zero, List.set_cons_succ]
            refine wpAnyH_take (i := 18) (oi := ⟨_, _, _, _, _, _⟩) (v := undef) rfl (by kernel_rfl) (by kernel_rfl) (by kernel_rfl) (fun _ _ _ h => h) (Or.inr ⟨by rfl, rfl⟩) (by assumption) ?_
            try simp only [Act.put, List.setIfInBounds_toArray, List.set_cons_zero, List.set_cons_succ]
            refine wpAnyH_take (i := 19) (oi := ⟨_, _, _, _, _, _⟩) (v := undef) rfl (by kernel_rfl) (by kernel_rfl) (by kernel_rfl) (fun _ _ _ h => h) (Or.inr ⟨by rfl, rfl⟩) (by assumption) ?_
            try simp only [Act.put, List.setIfInBounds_toArray, List.set_cons_zero, List.set_cons_succ]
            refine wpAnyH_take (i := 20) (oi := ⟨_, _, _, _, _, _⟩) (v := ?_) rfl (by kernel_rfl) (by kernel_rfl) (by kernel_rfl) (fun _ _ _ h => h) (Or.inl ⟨by rfl, ?_⟩) (by assumption) ?_
            rotate_left 1
            · intro W hSw
              try dsimp only at hSw
              go_simp
              try with_reducible rfl
            try simp only [Act.put, List.setIfInBounds_toArray, List.set_cons_zero, List.set_cons_succ]
            refine wpAnyH_done (by kernel_rfl) ?_ _
            obtain ⟨bs, hbs⟩ : ∃ bs, besideL k xs = bs := ⟨_, rfl⟩
            rw [hbs] at hcol
            have HBs := Lib.hid hbs
            have HB32 : Hid (All32 bs) := by rw [← hbs]; exact beside_32 _ _
            have HCol : Hid (collB x (k : Int) (xs.length : Int) bs ys = true) := hcol
            have HP := Lib.hid hp
            have HXl := Lib.hid hxl
            have V4 : Hid (Below w.heap.size w wr.drew) := nxDr Vr.out
            clear hbs hcol hp hxk hxl
            go_wp2_with (first
              | (go_at_call 9; ((refine (path_any wr.drew (HT.out.later V4.out) k (some ⟨bA, oA, none⟩) _ c xs rfl HP.out X32.out ((HS.out.below V4.out).size) (by have := HM.out; omega)).mono ?_); unfold PathPost; rw [HBs.out]; rintro e w4 ⟨P2, d2, rfl, hd4, hs4, hb4⟩; have D4 := Lib.hid hd4; have S4 := Lib.hid hs4; have V5 : Hid (Below w.heap.size w w4) := nxTo V4.out hb4; have Q4 : Hid (Blk (w4.alloc (.cells (PathC 0 0 none 0 0) 25)) w4.heap.size 25 (PathC 0 0 none 0 0)) := Lib.hid (heap_alloc_new w4 _); clear hd4 hs4 hb4))
              | ((with_reducible show wpList _ _ _ (⟨none, .store 25 _ _, _, _, _, _⟩ :: _) _ _); refine wpList_store_all rfl 25 (.tmp 6) (.tmp 70) rfl w4.heap.size 25 (PathC 0 0 none 0 0) (PathC k xs.length P2 bs.length d2) rfl rfl Q4.out rfl Tryd.psize (PathC_one _ _ _ _ _) ?_; intro w5 h5 h6 h7; have R5 := Lib.hid (blk_rng (vs := [Value.int .i64 (k : Int), .int .i64 (xs.length : Int), .slice P2 bs.length d2]) h5); have hlt5 := Lib.hid h5.lt; have Vc5 : Hid (Below w4.heap.size w4 w5) := (nxAlloc (nxRefl w4) _).trans (h6.below (nxAlloc (nxRefl w4) _).size (fun k hk => by omega)); clear h5 h6 h7))
            have V6 : Hid (Below w.heap.size w w5) := nxTo V5.out Vc5.out
            have S5 := Lib.hid (S4.out.below Vc5.out).size
            obtain ⟨g6, hg6⟩ : ∃ g, w4.heap.size = g := ⟨_, rfl⟩
            rw [hg6] at R5 hlt5
            rw [hg6]
            clear hg6 Q4 Vc5 V5 S4
            refine wp_region_held_drew (S := fun W => W.rangeAt bA (oA + k * 32) (By x) ∧ W.rangeAt g6 0 [Value.int .i64 (k : Int), .int .i64 (xs.length : Int), .slice P2 bs.length d2]) (by kernel_rfl) ⟨rng_below RX.out (nxDr V6.out) HBA.out, R5.out⟩ (fun hHeld => ?_)
            refine wpAnyH_take (i := 0) (oi := ⟨_, _, _, _, _, _⟩) (v := ?_) rfl (by kernel_rfl) (by kernel_rfl) (by kernel_rfl) (fun _ _ _ h => h) (Or.inl ⟨by rfl, ?_⟩) (by assumption) ?_
            rotate_left 1
            · intro W hSw
              try dsimp only at hSw
              go_simp
              try with_reducible rfl
            try simp only [Act.put, List.setIfInBounds_toArray, List.set_cons_zero, List.set_cons_succ]
            refine wpAnyH_ready (rs := [1]) (by kernel_rfl) (by simp) ?_
            refine AllReadyH.cons rfl (fun K hK => ?_) AllReadyH.nil
            go_simp
            go_at_call 13
            refine (num_any _ _).mono ?_
            rintro e wn ⟨rfl, hwn⟩
            obtain rfl := hwn.symm
            refine hK.out _ _ ⟨rng_below RX.out (nxDr V6.out) HBA.out, R5.out⟩ (fun hSn => ?_)
            clear hK K
            try simp only [Act.put, List.setIfInBounds_toArray, List.set_cons_zero, List.set_cons_succ]
            refine wpAnyH_take (i := 2) (oi := ⟨_, _, _, _, _, _⟩) (v := ?_) rfl (by kernel_rfl) (by kernel_rfl) (by kernel_rfl) (fun _ _ _ h => h) (Or.inl ⟨by rfl, ?_⟩) (by assumption) ?_
            rotate_left 1
            · intro W hSw
              try dsimp only at hSw
              go_simp
              try with_reducible rfl
            try simp only [Act.put, List.setIfInBounds_toArray, List.set_cons_zero, List.set_cons_succ]
            refine wpAnyH_take (i := 3) (oi := ⟨_, _, _, _, _, _⟩) (v := ?_) rfl (by kernel_rfl) (by kernel_rfl) (by kernel_rfl) (fun _ _ _ h => h) (Or.inl ⟨by rfl, ?_⟩) (by assumption) ?_
            rotate_left 1
            · intro W hSw
              try dsimp only at hSw
              go_simp
              try with_reducible rfl
            try simp only [Act.put, List.setIfInBounds_toArray, List.set_cons_zero, List.set_cons_succ]
            refine wpAnyH_take (i := 4) (oi := ⟨_, _, _, _, _, _⟩) (v := ?_) rfl (by kernel_rfl) (by kernel_rfl) (by kernel_rfl) (fun _ _ _ h => h) (Or.inl ⟨by rfl, ?_⟩) (by assumption) ?_
            rotate_left 1
            · intro W hSw
              try dsimp only at hSw
              go_simp
              try with_reducible rfl
            try simp only [Act.put, List.setIfInBounds_toArray, List.set_cons_zero, List.set_cons_succ]
            refine wpAnyH_take (i := 5) (oi := ⟨_, _, _, _, _, _⟩) (v := ?_) rfl (by kernel_rfl) (by kernel_rfl) (by kernel_rfl) (fun _ _ _ h => h) (Or.inl ⟨by rfl, ?_⟩) (by assumption) ?_
            rotate_left 1
            · intro W hSw
              try dsimp only at hSw
              go_simp
              try with_reducible rfl
            try simp only [Act.put, List.setIfInBounds_toArray, List.set_cons_zero, List.set_cons_succ]
            refine wpAnyH_take (i := 6) (oi := ⟨_, _, _, _, _, _⟩) (v := ?_) rfl (by kernel_rfl) (by kernel_rfl) (by kernel_rfl) (fun _ _ _ h => h) (Or.inl ⟨by rfl, ?_⟩) (by assumption) ?_
            rotate_left 1
            · intro W hSw
              try dsimp only at hSw
              go_simp
              try with_reducible rfl
            try simp only [Act.put, List.setIfInBounds_toArray, List.set_cons_zero, List.set_cons_succ]
            refine wpAnyH_take (i := 7) (oi := ⟨_, _, _, _, _, _⟩) (v := .agg (By x).toArray) rfl (by kernel_rfl) (by kernel_rfl) (by kernel_rfl) (fun _ _ _ h => h) (yieldsIf_load_mid (by rfl) 32 (.tmp 78) rfl (bA) (oA + k * 32) rfl (By x) _ (fun W h => h.1) Tryd.underlying32 rfl HSX.out) (by assumption) ?_
            try simp only [Act.put, List.setIfInBounds_toArray, List.set_cons_zero, List.set_cons_succ]
            refine wpAnyH_take (i := 8) (oi := ⟨_, _, _, _, _, _⟩) (v := .agg ([Value.int .i64 (k : Int), .int .i64 (xs.length : Int), .slice P2 bs.length d2]).toArray) rfl (by kernel_rfl) (by kernel_rfl) (by kernel_rfl) (fun _ _ _ h => h) (yieldsIf_load_mid (by rfl) 25 (.tmp 6) rfl (g6) (0) rfl ([Value.int .i64 (k : Int), .int .i64 (xs.length : Int), .slice P2 bs.length d2]) _ (fun W h => h.2) Tryd.underlying25 rfl Tryd.psize) (by assumption) ?_
            try simp only [Act.put, List.setIfInBounds_toArray, List.set_cons_zero, List.set_cons_succ]
            refine wpAnyH_take (i := 9) (oi := ⟨_, _, _, _, _, _⟩) (v := ?_) rfl (by kernel_rfl) (by kernel_rfl) (by kernel_rfl) (fun _ _ _ h => h) (Or.inl ⟨by rfl, ?_⟩) (by assumption) ?_
            rotate_left 1
            · intro W hSw
              try dsimp only at hSw
              go_simp
              try with_reducible rfl
            try simp only [Act.put, List.setIfInBounds_toArray, List.set_cons_zero, List.set_cons_succ]
            refine wpAnyH_ready (rs := [10]) (by kernel_rfl) (by simp) ?_
            refine AllReadyH.cons rfl (fun K hK => ?_) AllReadyH.nil
            go_simp
            go_at_call 24
            refine (told_any w5.drew (HT.out.later (nxDr V6.out)) x (k : Int) (xs.length : Int) P2 bs.length d2 bs (some ⟨bB, oB, none⟩) _ d ys HXl.out rfl D4.out HB32.out (show SeesV w5.drew w5.drew.heap.size P2 (Hs bs) from S5.out) rfl Y32.out ((HR.out.below (nxDr V6.out)).size) (by have := HM.out; omega)).mono ?_
            rw [HCol.out]
            rintro e w6 ⟨rfl, hb6⟩
            have V7 : Hid (Below w.heap.size w w6) := nxTo (nxDr V6.out) hb6
            have Vw6 : Hid (Below w5.heap.size w5 w6) := nxUndr hb6
            clear hb6
            refine hK.out _ _ ⟨rng_below RX.out V7.out HBA.out, rng_below R5.out Vw6.out hlt5.out⟩ (fun hSn => ?_)
            clear hK K
            try simp only [Act.put, List.setIfInBounds_toArray, List.set_cons_zero, List.set_cons_succ]
            refine wpAnyH_take (i := 11) (oi := ⟨_, _, _, _, _, _⟩) (v := ?_) rfl (by kernel_rfl) (by kernel_rfl) (by kernel_rfl) (fun _ _ _ h => h) (Or.inl ⟨by rfl, ?_⟩) (by assumption) ?_
            rotate_left 1
            · intro W hSw
              try dsimp only at hSw
              go_simp
              try with_reducible rfl
            try simp only [Act.put, List.setIfInBounds_toArray, List.set_cons_zero, List.set_cons_succ]
            refine wpAnyH_take (i := 12) (oi := ⟨_, _, _, _, _, _⟩) (v := ?_) rfl (by kernel_rfl) (by kernel_rfl) (by kernel_rfl) (fun _ _ _ h => h) (Or.inl ⟨by rfl, ?_⟩) (by assumption) ?_
            rotate_left 1
            · intro W hSw
              try dsimp only at hSw
              go_simp
              try with_reducible rfl
            try simp only [Act.put, List.setIfInBounds_toArray, List.set_cons_zero, List.set_cons_succ]
            refine wpAnyH_ready (rs := [13]) (by kernel_rfl) (by simp) ?_
            refine AllReadyH.cons rfl (fun K hK => ?_) AllReadyH.nil
            go_simp
            go_at_call 8
            refine (known_any w6 (HT.out.later V7.out)).mono ?_
            rintro e w7 ⟨rfl, hb7⟩
            have V8 : Hid (Below w.heap.size w w7) := nxTo V7.out hb7
            have Vw7 : Hid (Below w5.heap.size w5 w7) := nxTo Vw6.out hb7
            clear hb7
            refine hK.out _ _ ⟨rng_below RX.out V8.out HBA.out, rng_below R5.out Vw7.out hlt5.out⟩ (fun hSn => ?_)
            clear hK K
            try simp only [Act.put, List.setIfInBounds_toArray, List.set_cons_zero, List.set_cons_succ]
            refine wpAnyH_take (i := 14) (oi := ⟨_, _, _, _, _, _⟩) (v := ?_) rfl (by kernel_rfl) (by kernel_rfl) (by kernel_rfl) (fun _ _ _ h => h) (Or.inl ⟨by rfl, ?_⟩) (by assumption) ?_
            rotate_left 1
            · intro W hSw
              try dsimp only at hSw
              go_simp
              try with_reducible rfl
            try simp only [Act.put, List.setIfInBounds_toArray, List.set_cons_zero, List.set_cons_succ]
            refine wpAnyH_take (i := 15) (oi := ⟨_, _, _, _, _, _⟩) (v := ?_) rfl (by kernel_rfl) (by kernel_rfl) (by kernel_rfl) (fun _ _ _ h => h) (Or.inl ⟨by rfl, ?_⟩) (by assumption) ?_
            rotate_left 1
            · intro W hSw
              try dsimp only at hSw
              go_simp
              try with_reducible rfl
            try simp only [Act.put, List.setIfInBounds_toArray, List.set_cons_zero, List.set_cons_succ]
            refine wpAnyH_done (by kernel_rfl) ?_ _
            go_wp2
            go_ret
            exact ⟨rfl, V8.out⟩
        · have hxb : decide ((k : Int) < (xs.length : Int)) = false := decide_eq_false (by omega)
          obtain rfl : k = xs.length := by omega
          have hgx : decide ((xs.length : Int) ≤ (xs.length : Int)) = true := decide_eq_true (by omega)
          have hp : 0 < xs.length := by omega
          have hp0 : (0 : Int) < (xs.length : Int) := by omega
          have hpn : 0 < xs.length := hp
          have hcol := lists_coll (xs := xs) (ys := ys) hp (by have := HM.out; omega) (HU.out.trans (HUV.out.trans HV.out.symm)) (.inl (fun e => HNe.out (take_eq_all HTk.out e)))
          have hxr := HRA.out 0 hp
          obtain ⟨x, hxk⟩ : ∃ x, xs[0] = x := ⟨_, rfl⟩
          have hxl : x.length = 32 := by rw [← hxk]; exact X32.out.get hp
          rw [hxk] at hxr hcol
          have RX := Lib.hid hxr
          have HSX : Hid ((Tryd.prog.info? 32).map (·.size) = some (By x).length) := by have h := Tryd.hsizeB x hxl; show _ = _; rw [h]; simp
          clear hxr
          go_wp2
          refine wp_region_held_drew (S := fun _ => True) (by kernel_rfl) trivial (fun hHeld => ?_)
          refine wpAnyH_take (i := 0) (oi := ⟨_, _, _, _, _, _⟩) (v := ?_) rfl (by kernel_rfl) (by kernel_rfl) (by kernel_rfl) (fun _ _ _ h => h) (Or.inl ⟨by rfl, ?_⟩) (by assumption) ?_
          rotate_left 1
          · intro W hSw
            try dsimp only at hSw
            go_simp
            try with_reducible rfl
          try simp only [Act.put, List.setIfInBounds_toArray, List.set_cons_zero, List.set_cons_succ]
          refine wpAnyH_take (i := 1) (oi := ⟨_, _, _, _, _, _⟩) (v := ?_) rfl (by kernel_rfl) (by kernel_rfl) (by kernel_rfl) (fun _ _ _ h => h) (Or.inl ⟨by rfl, ?_⟩) (by assumption) ?_
          rotate_left 1
          · intro W hSw
            try dsimp only at hSw
            go_simp
            try with_reducible rfl
          try simp only [Act.put, List.setIfInBounds_toArray, List.set_cons_zero, List.set_cons_succ]
          refine wpAnyH_take (i := 2) (oi := ⟨_, _, _, _, _, _⟩) (v := ?_) rfl (by kernel_rfl) (by kernel_rfl) (by kernel_rfl) (fun _ _ _ h => h) (Or.inl ⟨by rfl, ?_⟩) (by assumption) ?_
          rotate_left 1
          · intro W hSw
            try dsimp only at hSw
            go_simp
            try with_reducible rfl
          try simp only [Act.put, List.setIfInBounds_toArray, List.set_cons_zero, List.set_cons_succ]
          refine wpAnyH_take (i := 3) (oi := ⟨_, _, _, _, _, _⟩) (v := ?_) rfl (by kernel_rfl) (by kernel_rfl) (by kernel_rfl) (fun _ _ _ h => h) (Or.inl ⟨by rfl, ?_⟩) (by assumption) ?_
          rotate_left 1
          · intro W hSw
            try dsimp only at hSw
            go_simp
            try with_reducible rfl
          try simp only [Act.put, List.setIfInBounds_toArray, List.set_cons_zero, List.set_cons_succ]
          refine wpAnyH_take (i := 4) (oi := ⟨_, _, _, _, _, _⟩) (v := ?_) rfl (by kernel_rfl) (by kernel_rfl) (by kernel_rfl) (fun _ _ _ h => h) (Or.inl ⟨by rfl, ?_⟩) (by assumption) ?_
          rotate_left 1
          · intro W hSw
            try dsimp only at hSw
            go_simp
            try with_reducible rfl
          try simp only [Act.put, List.setIfInBounds_toArray, List.set_cons_zero, List.set_cons_succ]
          refine wpAnyH_take (i := 5) (oi := ⟨_, _, _, _, _, _⟩) (v := undef) rfl (by kernel_rfl) (by kernel_rfl) (by kernel_rfl) (fun _ _ _ h => h) (Or.inr ⟨by rfl, rfl⟩) (by assumption) ?_
          try simp only [Act.put, List.setIfInBounds_toArray, List.set_cons_zero, List.set_cons_succ]
          refine wpAnyH_take (i := 6) (oi := ⟨_, _, _, _, _, _⟩) (v := undef) rfl (by kernel_rfl) (by kernel_rfl) (by kernel_rfl) (fun _ _ _ h => h) (Or.inr ⟨by rfl, rfl⟩) (by assumption) ?_
          try simp only [Act.put, List.setIfInBounds_toArray, List.set_cons_zero, List.set_cons_succ]
          refine wpAnyH_take (i := 7) (oi := ⟨_, _, _, _, _, _⟩) (v := undef) rfl (by kernel_rfl) (by kernel_rfl) (by kernel_rfl) (fun _ _ _ h => h) (Or.inr ⟨by rfl, rfl⟩) (by assumption) ?_
          try simp only [Act.put, List.setIfInBounds_toArray, List.set_cons_zero, List.set_cons_succ]
          refine wpAnyH_take (i := 8) (oi := ⟨_, _, _, _, _, _⟩) (v := undef) rfl (by kernel_rfl) (by kernel_rfl) (by kernel_rfl) (fun _ _ _ h => h) (Or.inr ⟨by rfl, rfl⟩) (by assumption) ?_
          try simp only [Act.put, List.setIfInBounds_toArray, List.set_cons_zero, List.set_cons_succ]
          refine wpAnyH_take (i := 9) (oi := ⟨_, _, _, _, _, _⟩) (v := ?_) rfl (by kernel_rfl) (by kernel_rfl) (by kernel_rfl) (fun _ _ _ h => h) (Or.inl ⟨by rfl, ?_⟩) (by assumption) ?_
          rotate_left 1
          · intro W hSw
            try dsimp only at hSw
            go_simp
            try with_reducible rfl
          try simp only [Act.put, List.setIfInBounds_toArray, List.set_cons_zero, List.set_cons_succ]
          refine wpAnyH_take (i := 10) (oi := ⟨_, _, _, _, _, _⟩) (v := ?_) rfl (by kernel_rfl) (by kernel_rfl) (by kernel_rfl) (fun _ _ _ h => h) (Or.inl ⟨by rfl, ?_⟩) (by assumption) ?_
          rotate_left 1
          · intro W hSw
            try dsimp only at hSw
            go_simp
            try with_reducible rfl
          try simp only [Act.put, List.setIfInBounds_toArray, List.set_cons_zero, List.set_cons_succ]
          refine wpAnyH_take (i := 11) (oi := ⟨_, _, _, _, _, _⟩) (v := undef) rfl (by kernel_rfl) (by kernel_rfl) (by kernel_rfl) (fun _ _ _ h => h) (Or.inr ⟨by rfl, rfl⟩) (by assumption) ?_
          try simp only [Act.put, List.setIfInBounds_toArray, List.set_cons_zero, List.set_cons_succ]
          refine wpAnyH_take (i := 12) (oi := ⟨_, _, _, _, _, _⟩) (v := undef) rfl (by kernel_rfl) (by kernel_rfl) (by kernel_rfl) (fun _ _ _ h => h) (Or.inr ⟨by rfl, rfl⟩) (by assumption) ?_
          try simp only [Act.put, List.setIfInBounds_toArray, List.set_cons_zero, List.set_cons_succ]
          refine wpAnyH_take (i := 13) (oi := ⟨_, _, _, _, _, _⟩) (v := undef) rfl (by kernel_rfl) (by kernel_rfl) (by kernel_rfl) (fun _ _ _ h => h) (Or.inr ⟨by rfl, rfl⟩) (by assumption) ?_
          try simp only [Act.put, List.setIfInBounds_toArray, List.set_cons_zero, List.set_cons_succ]
          refine wpAnyH_take (i := 14) (oi := ⟨_, _, _, _, _, _⟩) (v := undef) rfl (by kernel_rfl) (by kernel_rfl) (by kernel_rfl) (fun _ _ _ h => h) (Or.inr ⟨by rfl, rfl⟩) (by assumption) ?_
          try simp only [Act.put, List.setIfInBounds_toArray, List.set_cons_zero, List.set_cons_succ]
          refine wpAnyH_take (i := 15) (oi := ⟨_, _, _, _, _, _⟩) (v := undef) rfl (by kernel_rfl) (by kernel_rfl) (by kernel_rfl) (fun _ _ _ h => h) (Or.inr ⟨by rfl, rfl⟩) (by assumption) ?_
          try simp only [Act.put, List.setIfInBounds_toArray, List.set_cons_zero, List.set_cons_succ]
          refine wpAnyH_take (i := 16) (oi := ⟨_, _, _, _, _, _⟩) (v := undef) rfl (by kernel_rfl) (by kernel_rfl) (by kernel_rfl) (fun _ _ _ h => h) (Or.inr ⟨by rfl, rfl⟩) (by assumption) ?_
          try simp only [Act.put, List.setIfInBounds_toArray, List.set_cons_zero, List.set_cons_succ]
          refine wpAnyH_take (i := 17) (oi := ⟨_, _, _, _, _, _⟩) (v := undef) rfl (by kernel_rfl) (by kernel_rfl) (by kernel_rfl) (fun _ _ _ h => h) (Or.inr ⟨by rfl, rfl⟩) (by assumption) ?_
          try simp only [Act.put, List.setIfInBounds_toArray, List.set_cons_zero, List.set_cons_succ]
          refine wpAnyH_take (i := 18) (oi := ⟨_, _, _, _, _, _⟩) (v := undef) rfl (by kernel_rfl) (by kernel_rfl) (by kernel_rfl) (fun _ _ _ h => h) (Or.inr ⟨by rfl, rfl⟩) (by assumption) ?_
          try simp only [Act.put, List.setIfInBounds_toArray, List.set_cons_zero, List.set_cons_succ]
          refine wpAnyH_take (i := 19) (oi := ⟨_, _, _, _, _, _⟩) (v := undef) rfl (by kernel_rfl) (by kernel_rfl) (by kernel_rfl) (fun _ _ _ h => h) (Or.inr ⟨by rfl, rfl⟩) (by assumption) ?_
          try simp only [Act.put, List.setIfInBounds_toArray, List.set_cons_zero, List.set_cons_succ]
          refine wpAnyH_take (i := 20) (oi := ⟨_, _, _, _, _, _⟩) (v := ?_) rfl (by kernel_rfl) (by kernel_rfl) (by kernel_rfl) (fun _ _ _ h => h) (Or.inl ⟨by rfl, ?_⟩) (by assumption) ?_
          rotate_left 1
          · intro W hSw
            try dsimp only at hSw
            go_simp
            try with_reducible rfl
          try simp only [Act.put, List.setIfInBounds_toArray, List.set_cons_zero, List.set_cons_succ]
          refine wpAnyH_done (by kernel_rfl) ?_ _
          obtain ⟨bs, hbs⟩ : ∃ bs, besideL 0 xs = bs := ⟨_, rfl⟩
          rw [hbs] at hcol
          have HBs := Lib.hid hbs
          have HB32 : Hid (All32 bs) := by rw [← hbs]; exact beside_32 _ _
          have HCol : Hid (collB x (0 : Int) (xs.length : Int) bs ys = true) := hcol
          have HP := Lib.hid hp
          have HXl := Lib.hid hxl
          have V4 : Hid (Below w.heap.size w wr.drew) := nxDr Vr.out
          clear hbs hcol hp hxk hxl
          go_wp2_with (first
            | (go_at_call 9; ((refine (path_any wr.drew (HT.out.later V4.out) 0 (some ⟨bA, oA, none⟩) _ c xs rfl HP.out X32.out ((HS.out.below V4.out).size) (by have := HM.out; omega)).mono ?_); unfold PathPost; rw [HBs.out]; rintro e w4 ⟨P2, d2, rfl, hd4, hs4, hb4⟩; have D4 := Lib.hid hd4; have S4 := Lib.hid hs4; have V5 : Hid (Below w.heap.size w w4) := nxTo V4.out hb4; have Q4 : Hid (Blk (w4.alloc (.cells (PathC 0 0 none 0 0) 25)) w4.heap.size 25 (PathC 0 0 none 0 0)) := Lib.hid (heap_alloc_new w4 _); clear hd4 hs4 hb4))
            | ((with_reducible show wpList _ _ _ (⟨none, .store 25 _ _, _, _, _, _⟩ :: _) _ _); refine wpList_store_all rfl 25 (.tmp 6) (.tmp 70) rfl w4.heap.size 25 (PathC 0 0 none 0 0) (PathC 0 xs.length P2 bs.length d2) rfl rfl Q4.out rfl Tryd.psize (PathC_one _ _ _ _ _) ?_; intro w5 h5 h6 h7; have R5 := Lib.hid (blk_rng (vs := [Value.int .i64 (0 : Int), .int .i64 (xs.length : Int), .slice P2 bs.length d2]) h5); have hlt5 := Lib.hid h5.lt; have Vc5 : Hid (Below w4.heap.size w4 w5) := (nxAlloc (nxRefl w4) _).trans (h6.below (nxAlloc (nxRefl w4) _).size (fun k hk => by omega)); clear h5 h6 h7))
          have V6 : Hid (Below w.heap.size w w5) := nxTo V5.out Vc5.out
          have S5 := Lib.hid (S4.out.below Vc5.out).size
          obtain ⟨g6, hg6⟩ : ∃ g, w4.heap.size = g := ⟨_, rfl⟩
          rw [hg6] at R5 hlt5
          rw [hg6]
          clear hg6 Q4 Vc5 V5 S4
          refine wp_region_held_drew (S := fun W => W.rangeAt bA (oA + 0 * 32) (By x) ∧ W.rangeAt g6 0 [Value.int .i64 (0 : Int), .int .i64 (xs.length : Int), .slice P2 bs.length d2]) (by kernel_rfl) ⟨rng_below RX.out (nxDr V6.out) HBA.out, R5.out⟩ (fun hHeld => ?_)
          refine wpAnyH_take (i := 0) (oi := ⟨_, _, _, _, _, _⟩) (v := ?_) rfl (by kernel_rfl) (by kernel_rfl) (by kernel_rfl) (fun _ _ _ h => h) (Or.inl ⟨by rfl, ?_⟩) (by assumption) ?_
          rotate_left 1
          · intro W hSw
            try dsimp only at hSw
            go_simp
            try with_reducible rfl
          try simp only [Act.put, List.setIfInBounds_toArray, List.set_cons_zero, List.set_cons_succ]
          refine wpAnyH_ready (rs := [1]) (by kernel_rfl) (by simp) ?_
          refine AllReadyH.cons rfl (fun K hK => ?_) AllReadyH.nil
          go_simp
          go_at_call 13
          refine (num_any _ _).mono ?_
          rintro e wn ⟨rfl, hwn⟩
          obtain rfl := hwn.symm
          refine hK.out _ _ ⟨rng_below RX.out (nxDr V6.out) HBA.out, R5.out⟩ (fun hSn => ?_)
          clear hK K
          try simp only [Act.put, List.setIfInBounds_toArray, List.set_cons_zero, List.set_cons_succ]
          refine wpAnyH_take (i := 2) (oi := ⟨_, _, _, _, _, _⟩) (v := ?_) rfl (by kernel_rfl) (by kernel_rfl) (by kernel_rfl) (fun _ _ _ h => h) (Or.inl ⟨by rfl, ?_⟩) (by assumption) ?_
          rotate_left 1
          · intro W hSw
            try dsimp only at hSw
            go_simp
            try with_reducible rfl
          try simp only [Act.put, List.setIfInBounds_toArray, List.set_cons_zero, List.set_cons_succ]
          refine wpAnyH_take (i := 3) (oi := ⟨_, _, _, _, _, _⟩) (v := ?_) rfl (by kernel_rfl) (by kernel_rfl) (by kernel_rfl) (fun _ _ _ h => h) (Or.inl ⟨by rfl, ?_⟩) (by assumption) ?_
          rotate_left 1
          · intro W hSw
            try dsimp only at hSw
            go_simp
            try with_reducible rfl
          try simp only [Act.put, List.setIfInBounds_toArray, List.set_cons_zero, List.set_cons_succ]
          refine wpAnyH_take (i := 4) (oi := ⟨_, _, _, _, _, _⟩) (v := ?_) rfl (by kernel_rfl) (by kernel_rfl) (by kernel_rfl) (fun _ _ _ h => h) (Or.inl ⟨by rfl, ?_⟩) (by assumption) ?_
          rotate_left 1
          · intro W hSw
            try dsimp only at hSw
            go_simp
            try with_reducible rfl
          try simp only [Act.put, List.setIfInBounds_toArray, List.set_cons_zero, List.set_cons_succ]
          refine wpAnyH_take (i := 5) (oi := ⟨_, _, _, _, _, _⟩) (v := ?_) rfl (by kernel_rfl) (by kernel_rfl) (by kernel_rfl) (fun _ _ _ h => h) (Or.inl ⟨by rfl, ?_⟩) (by assumption) ?_
          rotate_left 1
          · intro W hSw
            try dsimp only at hSw
            go_simp
            try with_reducible rfl
          try simp only [Act.put, List.setIfInBounds_toArray, List.set_cons_zero, List.set_cons_succ]
          refine wpAnyH_take (i := 6) (oi := ⟨_, _, _, _, _, _⟩) (v := ?_) rfl (by kernel_rfl) (by kernel_rfl) (by kernel_rfl) (fun _ _ _ h => h) (Or.inl ⟨by rfl, ?_⟩) (by assumption) ?_
          rotate_left 1
          · intro W hSw
            try dsimp only at hSw
            go_simp
            try with_reducible rfl
          try simp only [Act.put, List.setIfInBounds_toArray, List.set_cons_zero, List.set_cons_succ]
          refine wpAnyH_take (i := 7) (oi := ⟨_, _, _, _, _, _⟩) (v := .agg (By x).toArray) rfl (by kernel_rfl) (by kernel_rfl) (by kernel_rfl) (fun _ _ _ h => h) (yieldsIf_load_mid (by rfl) 32 (.tmp 78) rfl (bA) (oA + 0 * 32) rfl (By x) _ (fun W h => h.1) Tryd.underlying32 rfl HSX.out) (by assumption) ?_
          try simp only [Act.put, List.setIfInBounds_toArray, List.set_cons_zero, List.set_cons_succ]
          refine wpAnyH_take (i := 8) (oi := ⟨_, _, _, _, _, _⟩) (v := .agg ([Value.int .i64 (0 : Int), .int .i64 (xs.length : Int), .slice P2 bs.length d2]).toArray) rfl (by kernel_rfl) (by kernel_rfl) (by kernel_rfl) (fun _ _ _ h => h) (yieldsIf_load_mid (by rfl) 25 (.tmp 6) rfl (g6) (0) rfl ([Value.int .i64 (0 : Int), .int .i64 (xs.length : Int), .slice P2 bs.length d2]) _ (fun W h => h.2) Tryd.underlying25 rfl Tryd.psize) (by assumption) ?_
          try simp only [Act.put, List.setIfInBounds_toArray, List.set_cons_zero, List.set_cons_succ]
          refine wpAnyH_take (i := 9) (oi := ⟨_, _, _, _, _, _⟩) (v := ?_) rfl (by kernel_rfl) (by kernel_rfl) (by kernel_rfl) (fun _ _ _ h => h) (Or.inl ⟨by rfl, ?_⟩) (by assumption) ?_
          rotate_left 1
          · intro W hSw
            try dsimp only at hSw
            go_simp
            try with_reducible rfl
          try simp only [Act.put, List.setIfInBounds_toArray, List.set_cons_zero, List.set_cons_succ]
          refine wpAnyH_ready (rs := [10]) (by kernel_rfl) (by simp) ?_
          refine AllReadyH.cons rfl (fun K hK => ?_) AllReadyH.nil
          go_simp
          go_at_call 24
          refine (told_any w5.drew (HT.out.later (nxDr V6.out)) x (0 : Int) (xs.length : Int) P2 bs.length d2 bs (some ⟨bB, oB, none⟩) _ d ys HXl.out rfl D4.out HB32.out (show SeesV w5.drew w5.drew.heap.size P2 (Hs bs) from S5.out) rfl Y32.out ((HR.out.below (nxDr V6.out)).size) (by have := HM.out; omega)).mono ?_
          rw [HCol.out]
          rintro e w6 ⟨rfl, hb6⟩
          have V7 : Hid (Below w.heap.size w w6) := nxTo (nxDr V6.out) hb6
          have Vw6 : Hid (Below w5.heap.size w5 w6) := nxUndr hb6
          clear hb6
          refine hK.out _ _ ⟨rng_below RX.out V7.out HBA.out, rng_below R5.out Vw6.out hlt5.out⟩ (fun hSn => ?_)
          clear hK K
          try simp only [Act.put, List.setIfInBounds_toArray, List.set_cons_zero, List.set_cons_succ]
          refine wpAnyH_take (i := 11) (oi := ⟨_, _, _, _, _, _⟩) (v := ?_) rfl (by kernel_rfl) (by kernel_rfl) (by kernel_rfl) (fun _ _ _ h => h) (Or.inl ⟨by rfl, ?_⟩) (by assumption) ?_
          rotate_left 1
          · intro W hSw
            try dsimp only at hSw
            go_simp
            try with_reducible rfl
          try simp only [Act.put, List.setIfInBounds_toArray, List.set_cons_zero, List.set_cons_succ]
          refine wpAnyH_take (i := 12) (oi := ⟨_, _, _, _, _, _⟩) (v := ?_) rfl (by kernel_rfl) (by kernel_rfl) (by kernel_rfl) (fun _ _ _ h => h) (Or.inl ⟨by rfl, ?_⟩) (by assumption) ?_
          rotate_left 1
          · intro W hSw
            try dsimp only at hSw
            go_simp
            try with_reducible rfl
          try simp only [Act.put, List.setIfInBounds_toArray, List.set_cons_zero, List.set_cons_succ]
          refine wpAnyH_ready (rs := [13]) (by kernel_rfl) (by simp) ?_
          refine AllReadyH.cons rfl (fun K hK => ?_) AllReadyH.nil
          go_simp
          go_at_call 8
          refine (known_any w6 (HT.out.later V7.out)).mono ?_
          rintro e w7 ⟨rfl, hb7⟩
          have V8 : Hid (Below w.heap.size w w7) := nxTo V7.out hb7
          have Vw7 : Hid (Below w5.heap.size w5 w7) := nxTo Vw6.out hb7
          clear hb7
          refine hK.out _ _ ⟨rng_below RX.out V8.out HBA.out, rng_below R5.out Vw7.out hlt5.out⟩ (fun hSn => ?_)
          clear hK K
          try simp only [Act.put, List.setIfInBounds_toArray, List.set_cons_zero, List.set_cons_succ]
          refine wpAnyH_take (i := 14) (oi := ⟨_, _, _, _, _, _⟩) (v := ?_) rfl (by kernel_rfl) (by kernel_rfl) (by kernel_rfl) (fun _ _ _ h => h) (Or.inl ⟨by rfl, ?_⟩) (by assumption) ?_
          rotate_left 1
          · intro W hSw
            try dsimp only at hSw
            go_simp
            try with_reducible rfl
          try simp only [Act.put, List.setIfInBounds_toArray, List.set_cons_zero, List.set_cons_succ]
          refine wpAnyH_take (i := 15) (oi := ⟨_, _, _, _, _, _⟩) (v := ?_) rfl (by kernel_rfl) (by kernel_rfl) (by kernel_rfl) (fun _ _ _ h => h) (Or.inl ⟨by rfl, ?_⟩) (by assumption) ?_
          rotate_left 1
          · intro W hSw
            try dsimp only at hSw
            go_simp
            try with_reducible rfl
          try simp only [Act.put, List.setIfInBounds_toArray, List.set_cons_zero, List.set_cons_succ]
          refine wpAnyH_done (by kernel_rfl) ?_ _
          go_wp2
          go_ret
          exact ⟨rfl, V8.out⟩
theorem merkleLists_any (w : World) (hT : Tabs w) (A : Option Addr) (c : Nat) (L : List (List UInt8)) (hS : SeesV w w.heap.size A (Hs L) ∧ All32 L) (hc : L.length ≤ c) (_ : L.length < 9223372036854775808) (B : Option Addr) (d : Nat) (M : List (List UInt8)) (hR : SeesV w w.heap.size B (Hs M) ∧ All32 M) (hd : M.length ≤ d) (_ : M.length < 9223372036854775808) :
    Calls Tryd.prog 7 #[.slice A L.length c, .slice B M.length d] w fun e w' => e = .returned (.bool true) ∧ Below w.heap.size w w' :=
  lists_any w hT A c L B d M hS.2 hS.1 hR.2 hR.1
end Go.Proofs.YtcbdjcmjchoagaaDoor
