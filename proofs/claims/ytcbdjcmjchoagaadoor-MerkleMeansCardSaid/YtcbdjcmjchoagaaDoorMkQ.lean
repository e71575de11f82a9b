/-
  MerkleRoots, the walk.
-/
import Derived.Test.YtcbdjcmjchoagaaDoorMkP
import Derived.Deep.DeepCutAuto
import Derived.Deep.CutBlock
namespace Go.Proofs.YtcbdjcmjchoagaaDoor
open Go.RowKit

/-- A path's length: the number, the error. -/
def sizeV (n c : Int) : Int := if placeB n c then (szH n.toNat c.toNat : Int) else 0
def sizeE (n c : Int) : Int := if placeB n c then 0 else 2
theorem size_all (w : World) (n c : Int) : Calls Tryd.prog 10 #[.int .i64 n, .int .i64 c] w fun e w' => e = .returned (.tuple #[.int .i64 (sizeV n c), .int .i64 (sizeE n c)]) ∧ w = w' := by
  cases h : placeB n c with
  | true =>
    obtain ⟨h0, h1, h2⟩ := place_of h
    obtain ⟨a, rfl⟩ : ∃ a : Nat, n = a := ⟨n.toNat, by omega⟩
    obtain ⟨b, rfl⟩ : ∃ b : Nat, c = b := ⟨c.toNat, by omega⟩
    refine (size_any w a b (by omega) (by omega)).mono fun e w' hh => ?_
    unfold sizeV sizeE
    rw [h]
    rw [sz_eq a b (by omega)] at hh
    exact ⟨by rw [hh.1]; simp, hh.2.symm⟩
  | false =>
    refine (size_no w n c h).mono fun e w' hh => ?_
    unfold sizeV sizeE
    rw [h]
    exact ⟨hh.1, hh.2.symm⟩
def KnownPost (w : World) (e : Ending) (w' : World) : Prop := e = .returned (.bool true) ∧ Below w.heap.size w w'
theorem neq_same (l : List UInt8) (hl : l.length = 32) (wq : World) : (binOp .neq 32 (.agg (By l).toArray) (.agg (By l).toArray)).run Tryd.prog wq = .ok (.bool false) wq := by
  rw [run_neq_bytes 32 32 5 Tryd.underlying32 Tryd.underlying5 Tryd.u8size l l hl hl, beq_self_eq_true]; rfl
theorem path_cells {w : World} {g n c m d : Nat} {A : Option Addr} (h : Blk w g 25 (PathC n c A m d)) : w.cell? ⟨g, 0, none⟩ = some (.int .i64 (n : Int)) ∧ w.cell? ⟨g, 1, none⟩ = some (.int .i64 (c : Int)) ∧ w.cell? ⟨g, 2, none⟩ = some (.slice A m d) := ⟨h.cell 0, h.cell 1, h.cell 2⟩

set_option maxHeartbeats 4000000 in
set_option maxRecDepth 100000 in
theorem roots_any (w : World) (hT : Tabs w) (A : Option Addr) (m cp : Nat) (ids : List (List UInt8)) (hm : m = ids.length) (hcp : m ≤ cp) (h32 : All32 ids) (hS : SeesV w w.heap.size A (Hs ids)) (n c : Int) :
    Calls Tryd.prog 3 #[.slice A m cp, .int .i64 n, .int .i64 c] w (KnownPost w) := by
  subst hm
  have HT := Lib.hid hT
  have HS := Lib.hid hS
  have H32 := Lib.hid h32
  clear hT hS h32
  by_cases hlen : 70 < ids.length
  · go_enter Tryd.func3, Tryd.ntmps3
    go_wp2_with (go_at_call 8; ((refine (known_any _ HT.out).mono ?_); rintro e w' ⟨rfl, hb⟩))
    go_ret
    exact ⟨rfl, hb⟩
  · obtain ⟨y, hy⟩ : ∃ y, rootL ids = y := ⟨_, rfl⟩
    have HY := Lib.hid hy
    have HYl : Hid (y.length = 32) := by show _ = _; rw [← hy]; exact rootL_len _
    have qn := neq_same y HYl.out
    obtain ⟨s, hs⟩ : ∃ s, sizeV n c = s := ⟨_, rfl⟩
    obtain ⟨f, hf⟩ : ∃ s, sizeE n c = s := ⟨_, rfl⟩
    have HSz : Hid (sizeV n c = s ∧ sizeE n c = f) := ⟨hs, hf⟩
    clear hy hs hf
    by_cases hp : 0 ≤ n ∧ n < ids.length
    · obtain ⟨hp0, hp1⟩ := hp
      obtain ⟨a, rfl⟩ : ∃ a : Nat, n = a := ⟨n.toNat, by omega⟩
      obtain ⟨bs, hbs⟩ : ∃ bs, besideL a ids = bs := ⟨_, rfl⟩
      have HBs := Lib.hid hbs
      have HB32 : Hid (All32 bs) := by rw [← hbs]; exact beside_32 _ _
      have HBl : Hid (bs.length ≤ 1048576) := by show _ ≤ _; rw [← hbs]; have := besideL_len a ids; omega
      have hpa := path_any w HT.out a A ids.length cp ids rfl (by omega) H32.out HS.out (by omega)
      unfold PathPost at hpa
      rw [hbs] at hpa
      have HPa := Lib.hid hpa
      clear hbs hpa
      go_enter Tryd.func3, Tryd.ntmps3
      go_upto_region 7 with (first
      | (go_at_call 9; ((refine HPa.out.mono ?_); rintro e w2 ⟨B, d, rfl, hd, hsb, hb2⟩; have HD := Lib.hid hd; have HSB := Lib.hid hsb; have HB2 := Lib.hid hb2; have P2 : Hid (Blk (w2.alloc (.cells (PathC 0 0 none 0 0) 25)) w2.heap.size 25 (PathC 0 0 none 0 0)) := Lib.hid (heap_alloc_new w2 _); clear hd hsb hb2))
      | ((with_reducible show wpList _ _ _ (⟨none, .store 25 _ _, _, _, _, _⟩ :: _) _ _); refine wpList_store_all rfl 25 (.tmp 7) (.tmp 19) rfl w2.heap.size 25 (PathC 0 0 none 0 0) (PathC a ids.length B bs.length d) rfl rfl P2.out rfl Tryd.psize (PathC_one _ _ _ _ _) ?_; intro w3 h5 h6 h7; have P3 := Lib.hid h5; have HB3 : Hid (Below w.heap.size w w3) := (nxAlloc HB2.out _).trans (h6.below (nxAlloc HB2.out _).size (fun k hk => by have := HB2.out.size; omega)); have HS3 := Lib.hid ((HSB.out.alloc _).below (h6.below (by simp) (fun k hk => by omega))); clear h5 h6 h7)
      | (go_at_call 10; ((refine (size_all _ (a : Int) c).mono ?_); rw [HSz.out.1, HSz.out.2]; rintro e w' ⟨rfl, rfl⟩))
      | (go_at_call 11; ((refine (root_any _ (HT.out.later HB3.out) A _ cp ids rfl H32.out ((HS.out.later HB3.out).size) (by omega)).mono ?_); rw [HY.out]; rintro e w4 ⟨rfl, hb4⟩; have HB4 : Hid (Below w.heap.size w w4) := nxTo HB3.out hb4; have P4 := Lib.hid (P3.out.below hb4 P3.out.lt); have HS4 := Lib.hid ((HS3.out.size).later hb4); clear hb4))
      | (go_at_call 12; ((refine (rroot_any _ A _ cp ids rfl hcp H32.out ((HS.out.later HB4.out).size) (by omega)).mono ?_); rw [HY.out]; rintro e w5 ⟨rfl, hb5⟩; have HB5 : Hid (Below w.heap.size w w5) := nxTo HB4.out hb5; have P5 := Lib.hid (P4.out.below hb5 P4.out.lt); have HS5 := Lib.hid ((HS4.out.size).later hb5); clear hb5)))
      go_cut [42] (fun v wx => v = .bool (!placeB (a : Int) c) ∧ wx = w5)
      case first =>
        as_aux_lemma =>
          by_cases hn0 : (a : Int) < 0
          · go_wp2_with fail
            go_meet
            exact ⟨by rw [place_no (by omega)]; rfl, rfl⟩
          · by_cases hnc : c ≤ (a : Int)
            · go_wp2_with fail
              go_meet
              exact ⟨by rw [place_no (by omega)]; rfl, rfl⟩
            · by_cases hM : 1048576 < c
              · go_wp2_with fail
                go_meet
                exact ⟨by rw [place_no (by omega)]; rfl, rfl⟩
              · go_wp2_with fail
                go_meet
                exact ⟨by rw [place_yes (by omega) (by omega) (by omega)]; rfl, rfl⟩
      case rest =>
        obtain ⟨rfl, hwx⟩ := hcut
        obtain rfl : w5 = _ := hwx.symm
        go_upto_if 42 with fail
        go_cut [9, 10, 43] (fun _ _ _ wx => wx = w5)
        case first =>
          as_aux_lemma =>
            cases hpl : placeB (a : Int) c with
            | false =>
              obtain ⟨rfl, rfl⟩ : s = 0 ∧ f = 2 := by rw [← HSz.out.1, ← HSz.out.2]; unfold sizeV sizeE; rw [hpl]; exact ⟨rfl, rfl⟩
              clear HSz hpl
              go_wp2_with (go_at_call 13; ((refine (num_any _ _).mono ?_); rintro e w' ⟨rfl, hw'⟩; subst hw'))
              go_meet
              exact rfl
            | true =>
              obtain ⟨h0, h1, h2⟩ := place_of hpl
              obtain ⟨b, rfl⟩ : ∃ b : Nat, c = b := ⟨c.toNat, by omega⟩
              obtain ⟨rfl, rfl⟩ : s = (szH a b : Int) ∧ f = 0 := by rw [← HSz.out.1, ← HSz.out.2]; unfold sizeV sizeE; rw [hpl]; exact ⟨by simp, rfl⟩
              obtain ⟨z, hz⟩ : ∃ z, szH a b = z := ⟨_, rfl⟩
              have HRs := Lib.hid (fun wq => rsize_any b wq a (.inl (by omega)) (by omega))
              rw [hz] at HRs ⊢
              clear hz HSz hpl
              go_wp2_with (first
                | (go_at_call 14; ((refine (HRs.out _).mono ?_); rintro e w' ⟨rfl, hw'⟩; subst hw'))
                | (go_at_call 13; ((refine (num_any _ _).mono ?_); rintro e w' ⟨rfl, hw'⟩; subst hw')))
              go_meet
              exact rfl
        case rest =>
          obtain rfl : w5 = _ := hcut.symm
          have c3 := path_cells P5.out
          have hlt : decide ((ids.length : Int) ≤ (a : Int)) = false := decide_eq_false (by omega)
          have hlt2 : decide (ids.length ≤ a) = false := decide_eq_false (by omega)
          clear c3
          go_wp2_with fail
          refine wp_region_held_drew (S := fun W => W.cell? ⟨w2.heap.size, 0, none⟩ = some (.int .i64 (a : Int)) ∧ W.cell? ⟨w2.heap.size, 1, none⟩ = some (.int .i64 (ids.length : Int)) ∧ W.cell? ⟨w2.heap.size, 2, none⟩ = some (.slice B bs.length d)) (by kernel_rfl) (path_cells P5.out) (fun hHeld => ?_)
          refine wpAnyH_take (i := 0) (oi := ⟨_, _, _, _, _, _⟩) (v := ?_) rfl (by kernel_rfl) (by kernel_rfl) (by kernel_rfl) (fun _ _ _ h => h) (Or.inl ⟨by rfl, ?_⟩) (by assumption) ?_
          rotate_left 1
          · intro W hSw
            try dsimp only at hSw
            go_simp
            try with_reducible rfl
          try simp only [Act.put, List.setIfInBounds_toArray, List.set_cons_zero, List.set_cons_succ]
          refine wpAnyH_ready (rs := [1]) (by kernel_rfl) (by simp) ?_
          refine AllReadyH.cons rfl (fun K hK => ?_) AllReadyH.nil
          go_simp
          go_at_call 13
          refine (num_any _ _).mono ?_
          rintro e v1 ⟨rfl, hv1⟩
          subst hv1
          refine hK.out _ _ hHeld (fun hSn => ?_)
          clear hK K
          try simp only [Act.put, List.setIfInBounds_toArray, List.set_cons_zero, List.set_cons_succ]
          refine wpAnyH_take (i := 2) (oi := ⟨_, _, _, _, _, _⟩) (v := ?_) rfl (by kernel_rfl) (by kernel_rfl) (by kernel_rfl) (fun _ _ _ h => h) (Or.inl ⟨by rfl, ?_⟩) (by assumption) ?_
          rotate_left 1
          · intro W hSw
            try dsimp only at hSw
            go_simp
            try with_reducible rfl
          try simp only [Act.put, List.setIfInBounds_toArray, List.set_cons_zero, List.set_cons_succ]
          refine wpAnyH_take (i := 3) (oi := ⟨_, _, _, _, _, _⟩) (v := ?_) rfl (by kernel_rfl) (by kernel_rfl) (by kernel_rfl) (fun _ _ _ h => h) (Or.inl ⟨by rfl, ?_⟩) (by assumption) ?_
          rotate_left 1
          · intro W hSw
            try dsimp only at hSw
            go_simp
            try with_reducible rfl
          try simp only [Act.put, List.setIfInBounds_toArray, List.set_cons_zero, List.set_cons_succ]
          refine wpAnyH_take (i := 4) (oi := ⟨_, _, _, _, _, _⟩) (v := ?_) rfl (by kernel_rfl) (by kernel_rfl) (by kernel_rfl) (fun _ _ _ h => h) (Or.inl ⟨by rfl, ?_⟩) (by assumption) ?_
          rotate_left 1
          · intro W hSw
            try dsimp only at hSw
            go_simp
            try with_reducible rfl
          try simp only [Act.put, List.setIfInBounds_toArray, List.set_cons_zero, List.set_cons_succ]
          refine wpAnyH_take (i := 5) (oi := ⟨_, _, _, _, _, _⟩) (v := ?_) rfl (by kernel_rfl) (by kernel_rfl) (by kernel_rfl) (fun _ _ _ h => h) (Or.inl ⟨by rfl, ?_⟩) (by assumption) ?_
          rotate_left 1
          · intro W hSw
            try dsimp only at hSw
            go_simp
            try with_reducible rfl
          try simp only [Act.put, List.setIfInBounds_toArray, List.set_cons_zero, List.set_cons_succ]
          refine wpAnyH_take (i := 6) (oi := ⟨_, _, _, _, _, _⟩) (v := ?_) rfl (by kernel_rfl) (by kernel_rfl) (by kernel_rfl) (fun _ _ _ h => h) (Or.inl ⟨by rfl, ?_⟩) (by assumption) ?_
          rotate_left 1
          · intro W hSw
            try dsimp only at hSw
            go_simp
            try with_reducible rfl
          try simp only [Act.put, List.setIfInBounds_toArray, List.set_cons_zero, List.set_cons_succ]
          refine wpAnyH_take (i := 7) (oi := ⟨_, _, _, _, _, _⟩) (v := ?_) rfl (by kernel_rfl) (by kernel_rfl) (by kernel_rfl) (fun _ _ _ h => h) (Or.inl ⟨by rfl, ?_⟩) (by assumption) ?_
          rotate_left 1
          · intro W hSw
            try dsimp only at hSw
            go_simp
            try with_reducible rfl
          try simp only [Act.put, List.setIfInBounds_toArray, List.set_cons_zero, List.set_cons_succ]
          refine wpAnyH_take (i := 8) (oi := ⟨_, _, _, _, _, _⟩) (v := ?_) rfl (by kernel_rfl) (by kernel_rfl) (by kernel_rfl) (fun _ _ _ h => h) (Or.inl ⟨by rfl, ?_⟩) (by assumption) ?_
          rotate_left 1
          · intro W hSw
            try dsimp only at hSw
            go_simp
            try with_reducible rfl
          try simp only [Act.put, List.setIfInBounds_toArray, List.set_cons_zero, List.set_cons_succ]
          refine wpAnyH_take (i := 9) (oi := ⟨_, _, _, _, _, _⟩) (v := ?_) rfl (by kernel_rfl) (by kernel_rfl) (by kernel_rfl) (fun _ _ _ h => h) (Or.inl ⟨by rfl, ?_⟩) (by assumption) ?_
          rotate_left 1
          · intro W hSw
            try dsimp only at hSw
            go_simp
            try with_reducible rfl
          try simp only [Act.put, List.setIfInBounds_toArray, List.set_cons_zero, List.set_cons_succ]
          refine wpAnyH_take (i := 10) (oi := ⟨_, _, _, _, _, _⟩) (v := ?_) rfl (by kernel_rfl) (by kernel_rfl) (by kernel_rfl) (fun _ _ _ h => h) (Or.inl ⟨by rfl, ?_⟩) (by assumption) ?_
          rotate_left 1
          · intro W hSw
            try dsimp only at hSw
            go_simp
            try with_reducible rfl
          try simp only [Act.put, List.setIfInBounds_toArray, List.set_cons_zero, List.set_cons_succ]
          refine wpAnyH_take (i := 11) (oi := ⟨_, _, _, _, _, _⟩) (v := ?_) rfl (by kernel_rfl) (by kernel_rfl) (by kernel_rfl) (fun _ _ _ h => h) (Or.inl ⟨by rfl, ?_⟩) (by assumption) ?_
          rotate_left 1
          · intro W hSw
            try dsimp only at hSw
            go_simp
            try with_reducible rfl
          try simp only [Act.put, List.setIfInBounds_toArray, List.set_cons_zero, List.set_cons_succ]
          refine wpAnyH_take (i := 12) (oi := ⟨_, _, _, _, _, _⟩) (v := ?_) rfl (by kernel_rfl) (by kernel_rfl) (by kernel_rfl) (fun _ _ _ h => h) (Or.inl ⟨by rfl, ?_⟩) (by assumption) ?_
          rotate_left 1
          · intro W hSw
            try dsimp only at hSw
            go_simp
            try with_reducible rfl
          try simp only [Act.put, List.setIfInBounds_toArray, List.set_cons_zero, List.set_cons_succ]
          refine wpAnyH_take (i := 13) (oi := ⟨_, _, _, _, _, _⟩) (v := ?_) rfl (by kernel_rfl) (by kernel_rfl) (by kernel_rfl) (fun _ _ _ h => h) (Or.inl ⟨by rfl, ?_⟩) (by assumption) ?_
          rotate_left 1
          · intro W hSw
            try dsimp only at hSw
            go_simp
            try with_reducible rfl
          try simp only [Act.put, List.setIfInBounds_toArray, List.set_cons_zero, List.set_cons_succ]
          refine wpAnyH_take (i := 14) (oi := ⟨_, _, _, _, _, _⟩) (v := ?_) rfl (by kernel_rfl) (by kernel_rfl) (by kernel_rfl) (fun _ _ _ h => h) (Or.inl ⟨by rfl, ?_⟩) (by assumption) ?_
          rotate_left 1
          · intro W hSw
            try dsimp only at hSw
            go_simp
            try with_reducible rfl
          try simp only [Act.put, List.setIfInBounds_toArray, List.set_cons_zero, List.set_cons_succ]
          refine wpAnyH_take (i := 15) (oi := ⟨_, _, _, _, _, _⟩) (v := ?_) rfl (by kernel_rfl) (by kernel_rfl) (by kernel_rfl) (fun _ _ _ h => h) (Or.inl ⟨by rfl, ?_⟩) (by assumption) ?_
          rotate_left 1
          · intro W hSw
            try dsimp only at hSw
            go_simp
            try with_reducible rfl
          try simp only [Act.put, List.setIfInBounds_toArray, List.set_cons_zero, List.set_cons_succ]
          refine wpAnyH_take (i := 16) (oi := ⟨_, _, _, _, _, _⟩) (v := ?_) rfl (by kernel_rfl) (by kernel_rfl) (by kernel_rfl) (fun _ _ _ h => h) (Or.inl ⟨by rfl, ?_⟩) (by assumption) ?_
          rotate_left 1
          · intro W hSw
            try dsimp only at hSw
            go_simp
            try with_reducible rfl
          try simp only [Act.put, List.setIfInBounds_toArray, List.set_cons_zero, List.set_cons_succ]
          refine wpAnyH_take (i := 17) (oi := ⟨_, _, _, _, _, _⟩) (v := ?_) rfl (by kernel_rfl) (by kernel_rfl) (by kernel_rfl) (fun _ _ _ h => h) (Or.inl ⟨by rfl, ?_⟩) (by assumption) ?_
          rotate_left 1
          · intro W hSw
            try dsimp only at hSw
            go_simp
            try with_reducible rfl
          try simp only [Act.put, List.setIfInBounds_toArray, List.set_cons_zero, List.set_cons_succ]
          refine wpAnyH_take (i := 18) (oi := ⟨_, _, _, _, _, _⟩) (v := ?_) rfl (by kernel_rfl) (by kernel_rfl) (by kernel_rfl) (fun _ _ _ h => h) (Or.inl ⟨by rfl, ?_⟩) (by assumption) ?_
          rotate_left 1
          · intro W hSw
            try dsimp only at hSw
            go_simp
            try with_reducible rfl
          try simp only [Act.put, List.setIfInBounds_toArray, List.set_cons_zero, List.set_cons_succ]
          refine wpAnyH_take (i := 19) (oi := ⟨_, _, _, _, _, _⟩) (v := ?_) rfl (by kernel_rfl) (by kernel_rfl) (by kernel_rfl) (fun _ _ _ h => h) (Or.inl ⟨by rfl, ?_⟩) (by assumption) ?_
          rotate_left 1
          · intro W hSw
            try dsimp only at hSw
            go_simp
            try with_reducible rfl
          try simp only [Act.put, List.setIfInBounds_toArray, List.set_cons_zero, List.set_cons_succ]
          refine wpAnyH_take (i := 20) (oi := ⟨_, _, _, _, _, _⟩) (v := ?_) rfl (by kernel_rfl) (by kernel_rfl) (by kernel_rfl) (fun _ _ _ h => h) (Or.inl ⟨by rfl, ?_⟩) (by assumption) ?_
          rotate_left 1
          · intro W hSw
            try dsimp only at hSw
            go_simp
            try with_reducible rfl
          try simp only [Act.put, List.setIfInBounds_toArray, List.set_cons_zero, List.set_cons_succ]
          refine wpAnyH_ready (rs := [21]) (by kernel_rfl) (by simp) ?_
          refine AllReadyH.cons rfl (fun K hK => ?_) AllReadyH.nil
          go_simp
          go_at_call 16
          refine (rpath_any _ ids rfl w5.drew a A ids.length cp rfl hcp (by omega) H32.out (show SeesV w5.drew _ _ _ from (HS.out.later HB5.out).size) (by omega)).mono ?_
          rw [HBs.out]
          rintro e v2 ⟨A2, c2, rfl, ho2, hb2⟩
          have HO2 := Lib.hid ho2
          have HR2 : Hid (Below w5.heap.size w5 v2) := nxUndr hb2
          have P6 := Lib.hid (P5.out.below HR2.out P5.out.lt)
          clear ho2 hb2
          refine hK.out _ _ (path_cells P6.out) (fun hSn => ?_)
          clear hK K
          try simp only [Act.put, List.setIfInBounds_toArray, List.set_cons_zero, List.set_cons_succ]
          refine wpAnyH_ready (rs := [22]) (by kernel_rfl) (by simp) ?_
          refine AllReadyH.cons rfl (fun K hK => ?_) AllReadyH.nil
          go_simp
          go_at_call 15
          refine (same_any _ B A2 bs.length d bs.length c2 bs bs rfl rfl HB32.out HB32.out ((HS5.out.later HR2.out).size) (SeesV.own HO2.out) HBl.out HBl.out).mono ?_
          rw [beq_self_eq_true]
          rintro e v3 ⟨rfl, q3, hq3⟩
          have HR3 : Hid (Below w5.heap.size w5 v3) := (by rw [hq3]; exact nxDrewN HR2.out q3)
          have P7 := Lib.hid (P5.out.below HR3.out P5.out.lt)
          clear hq3
          refine hK.out _ _ (path_cells P7.out) (fun hSn => ?_)
          clear hK K
          try simp only [Act.put, List.setIfInBounds_toArray, List.set_cons_zero, List.set_cons_succ]
          refine wpAnyH_take (i := 23) (oi := ⟨_, _, _, _, _, _⟩) (v := ?_) rfl (by kernel_rfl) (by kernel_rfl) (by kernel_rfl) (fun _ _ _ h => h) (Or.inl ⟨by rfl, ?_⟩) (by assumption) ?_
          rotate_left 1
          · intro W hSw
            try dsimp only at hSw
            go_simp
            try with_reducible rfl
          try simp only [Act.put, List.setIfInBounds_toArray, List.set_cons_zero, List.set_cons_succ]
          refine wpAnyH_take (i := 24) (oi := ⟨_, _, _, _, _, _⟩) (v := ?_) rfl (by kernel_rfl) (by kernel_rfl) (by kernel_rfl) (fun _ _ _ h => h) (Or.inl ⟨by rfl, ?_⟩) (by assumption) ?_
          rotate_left 1
          · intro W hSw
            try dsimp only at hSw
            go_simp
            try with_reducible rfl
          try simp only [Act.put, List.setIfInBounds_toArray, List.set_cons_zero, List.set_cons_succ]
          refine wpAnyH_ready (rs := [25]) (by kernel_rfl) (by simp) ?_
          refine AllReadyH.cons rfl (fun K hK => ?_) AllReadyH.nil
          go_simp
          go_at_call 8
          refine (known_any _ (HT.out.later (HB5.out.trans (HR3.out.mono HB5.out.size)))).mono ?_
          rintro e v4 ⟨rfl, hb4⟩
          have HR4 : Hid (Below w5.heap.size w5 v4) := nxTo HR3.out hb4
          have P8 := Lib.hid (P5.out.below HR4.out P5.out.lt)
          clear hb4
          refine hK.out _ _ (path_cells P8.out) (fun hSn => ?_)
          clear hK K
          try simp only [Act.put, List.setIfInBounds_toArray, List.set_cons_zero, List.set_cons_succ]
          refine wpAnyH_take (i := 26) (oi := ⟨_, _, _, _, _, _⟩) (v := ?_) rfl (by kernel_rfl) (by kernel_rfl) (by kernel_rfl) (fun _ _ _ h => h) (Or.inl ⟨by rfl, ?_⟩) (by assumption) ?_
          rotate_left 1
          · intro W hSw
            try dsimp only at hSw
            go_simp
            try with_reducible rfl
          try simp only [Act.put, List.setIfInBounds_toArray, List.set_cons_zero, List.set_cons_succ]
          refine wpAnyH_take (i := 27) (oi := ⟨_, _, _, _, _, _⟩) (v := ?_) rfl (by kernel_rfl) (by kernel_rfl) (by kernel_rfl) (fun _ _ _ h => h) (Or.inl ⟨by rfl, ?_⟩) (by assumption) ?_
          rotate_left 1
          · intro W hSw
            try dsimp only at hSw
            go_simp
            try with_reducible rfl
          try simp only [Act.put, List.setIfInBounds_toArray, List.set_cons_zero, List.set_cons_succ]
          refine wpAnyH_done (by kernel_rfl) ?_ _
          go_wp2
          go_ret
          exact ⟨rfl, HB5.out.trans (HR4.out.mono HB5.out.size)⟩
    · have hpn := path_no w n A ids.length cp (by omega)
      unfold NoPathPost at hpn
      have HPa := Lib.hid hpn
      clear hpn
      go_enter Tryd.func3, Tryd.ntmps3
      go_upto_region 7 with (first
      | (go_at_call 9; ((refine HPa.out.mono ?_); rintro e w2 ⟨rfl, hb2⟩; have HB2 := Lib.hid hb2; have P2 : Hid (Blk (w2.alloc (.cells (PathC 0 0 none 0 0) 25)) w2.heap.size 25 (PathC 0 0 none 0 0)) := Lib.hid (heap_alloc_new w2 _); clear hb2))
      | ((with_reducible show wpList _ _ _ (⟨none, .store 25 _ _, _, _, _, _⟩ :: _) _ _); refine wpList_store_all rfl 25 (.tmp 7) (.tmp 19) rfl w2.heap.size 25 (PathC 0 0 none 0 0) (PathC 0 0 none 0 0) rfl rfl P2.out rfl Tryd.psize (PathC_one _ _ _ _ _) ?_; intro w3 h5 h6 h7; have P3 := Lib.hid h5; have HB3 : Hid (Below w.heap.size w w3) := (nxAlloc HB2.out _).trans (h6.below (nxAlloc HB2.out _).size (fun k hk => by have := HB2.out.size; omega)); clear h5 h6 h7)
      | (go_at_call 10; ((refine (size_all _ n c).mono ?_); rw [HSz.out.1, HSz.out.2]; rintro e w' ⟨rfl, rfl⟩))
      | (go_at_call 11; ((refine (root_any _ (HT.out.later HB3.out) A _ cp ids rfl H32.out ((HS.out.later HB3.out).size) (by omega)).mono ?_); rw [HY.out]; rintro e w4 ⟨rfl, hb4⟩; have HB4 : Hid (Below w.heap.size w w4) := nxTo HB3.out hb4; have P4 := Lib.hid (P3.out.below hb4 P3.out.lt); clear hb4))
      | (go_at_call 12; ((refine (rroot_any _ A _ cp ids rfl hcp H32.out ((HS.out.later HB4.out).size) (by omega)).mono ?_); rw [HY.out]; rintro e w5 ⟨rfl, hb5⟩; have HB5 : Hid (Below w.heap.size w w5) := nxTo HB4.out hb5; have P5 := Lib.hid (P4.out.below hb5 P4.out.lt); clear hb5)))
      go_cut [42] (fun v wx => v = .bool (!placeB n c) ∧ wx = w5)
      case first =>
        as_aux_lemma =>
          by_cases hn0 : n < 0
          · go_wp2_with fail
            go_meet
            exact ⟨by rw [place_no (by omega)]; rfl, rfl⟩
          · by_cases hnc : c ≤ n
            · go_wp2_with fail
              go_meet
              exact ⟨by rw [place_no (by omega)]; rfl, rfl⟩
            · by_cases hM : 1048576 < c
              · go_wp2_with fail
                go_meet
                exact ⟨by rw [place_no (by omega)]; rfl, rfl⟩
              · go_wp2_with fail
                go_meet
                exact ⟨by rw [place_yes (by omega) (by omega) (by omega)]; rfl, rfl⟩
      case rest =>
        obtain ⟨rfl, hwx⟩ := hcut
        obtain rfl : w5 = _ := hwx.symm
        go_upto_if 42 with fail
        go_cut [9, 10, 43] (fun _ _ _ wx => wx = w5)
        case first =>
          as_aux_lemma =>
            cases hpl : placeB n c with
            | false =>
              obtain ⟨rfl, rfl⟩ : s = 0 ∧ f = 2 := by rw [← HSz.out.1, ← HSz.out.2]; unfold sizeV sizeE; rw [hpl]; exact ⟨rfl, rfl⟩
              clear HSz hpl
              go_wp2_with (go_at_call 13; ((refine (num_any _ _).mono ?_); rintro e w' ⟨rfl, hw'⟩; subst hw'))
              go_meet
              exact rfl
            | true =>
              obtain ⟨h0, h1, h2⟩ := place_of hpl
              obtain ⟨a, rfl⟩ : ∃ a : Nat, n = a := ⟨n.toNat, by omega⟩
              obtain ⟨b, rfl⟩ : ∃ b : Nat, c = b := ⟨c.toNat, by omega⟩
              obtain ⟨rfl, rfl⟩ : s = (szH a b : Int) ∧ f = 0 := by rw [← HSz.out.1, ← HSz.out.2]; unfold sizeV sizeE; rw [hpl]; exact ⟨by simp, rfl⟩
              obtain ⟨z, hz⟩ : ∃ z, szH a b = z := ⟨_, rfl⟩
              have HRs := Lib.hid (fun wq => rsize_any b wq a (.inl (by omega)) (by omega))
              rw [hz] at HRs ⊢
              clear hz HSz hpl
              go_wp2_with (first
                | (go_at_call 14; ((refine (HRs.out _).mono ?_); rintro e w' ⟨rfl, hw'⟩; subst hw'))
                | (go_at_call 13; ((refine (num_any _ _).mono ?_); rintro e w' ⟨rfl, hw'⟩; subst hw')))
              go_meet
              exact rfl
        case rest =>
          obtain rfl : w5 = _ := hcut.symm
          obtain ⟨c0, c1, c2⟩ := path_cells P5.out
          by_cases hn0 : n < 0
          · clear hp
            go_wp2_with (first | (go_at_call 8; ((refine (known_any _ (HT.out.later HB5.out)).mono ?_); rintro e w6 ⟨rfl, hb6⟩; have HB6 := Lib.hid hb6; clear hb6)) | (go_at_call 13; ((refine (num_any _ _).mono ?_); rintro e w' ⟨rfl, hw'⟩; subst hw')))
            go_ret
            exact ⟨rfl, nxTo HB5.out HB6.out⟩
          · have hl : (ids.length : Int) ≤ n := by omega
            clear hp
            go_wp2_with (first | (go_at_call 8; ((refine (known_any _ (HT.out.later HB5.out)).mono ?_); rintro e w6 ⟨rfl, hb6⟩; have HB6 := Lib.hid hb6; clear hb6)) | (go_at_call 13; ((refine (num_any _ _).mono ?_); rintro e w' ⟨rfl, hw'⟩; subst hw')))
            go_ret
            exact ⟨rfl, nxTo HB5.out HB6.out⟩
end Go.Proofs.YtcbdjcmjchoagaaDoor
