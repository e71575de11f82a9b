/-
  WireMeans: the walk.
-/
import Derived.Test.YtpdidobmfoapiaaBlobs
import Derived.Test.YtpdidobmfoapiaaEq
import Derived.Deep.RegionWith
import Derived.Deep.QuietTactic
import Derived.BigQuiet
namespace Go.Proofs.Ytpdidobmfoapiaa
open Go.RowKit

theorem Rd.drew' {w : World} {g : Nat} {d : Option Nat} {st : Option (List UInt8)} (h : Rd w g d st) : Rd w.drew g d st := h
theorem Keeps.undrew' {S : Nat → Prop} {w w' : World} (h : Keeps S w.drew w') : Keeps S w w' := ⟨h.os, h.tape, h.output, h.size, h.block⟩

/-- What holds of the reader at the head of a round. -/
structure Rding (w : World) (g : Nat) (d : Option Nat) (r : List UInt8) (wr : World) : Prop where
  rd : Rd wr g d (some r)
  below : Below w.heap.size w wr
  lg : w.heap.size ≤ g
theorem Rding.next {w wr w3 w4 : World} {g : Nat} {d : Option Nat} {r r' : List UInt8} (h : Rding w g d r wr) (hb : Below wr.heap.size wr w3) (hk : Keeps (· = g) w3 w4) (hr : Rd w4 g d (some r')) : Rding w g d r' w4 := by
  have b1 := h.below.trans (hb.mono h.below.size)
  have := h.lg
  exact ⟨hr, b1.trans (hk.below b1.size (fun k hk => by omega)), h.lg⟩

theorem want_len_to (L : List Prt) (hb : ∀ p ∈ L, p.b.length ≤ 20000) (hh : ∀ p ∈ L, p.h.length = 32) : ∀ k, k ≤ L.length → (wantTo L k).length ≤ k * 20040 := by
  intro k
  induction k with
  | zero => intro _; simp [wantTo]
  | succ k ih =>
    intro hk
    rw [wantTo_succ L k (by omega), List.length_append]
    have h1 := partB_len L[k] (hh _ (List.getElem_mem _))
    have h2 := hb _ (List.getElem_mem (show k < L.length by omega))
    have h3 := ih (by omega)
    omega
theorem restFrom_len (L : List Prt) (k : Nat) : (restFrom L k).length ≤ (wantTo L L.length).length := by
  rw [← restFrom_zero]
  unfold restFrom
  rw [List.drop_zero]
  have h := congrArg (fun l => (l.flatMap fun p => (partB p).1).length) (List.take_append_drop k L)
  simp only [List.flatMap_append, List.length_append] at h
  omega
theorem want_len (L : List Prt) (hb : ∀ p ∈ L, p.b.length ≤ 20000) (hh : ∀ p ∈ L, p.h.length = 32) (hl : L.length ≤ 40) : (wantTo L L.length).length ≤ 801600 := by
  have h1 := want_len_to L hb hh L.length (Nat.le_refl _)
  have h2 : L.length * 20040 ≤ 40 * 20040 := Nat.mul_le_mul_right _ hl
  omega

theorem blob_bound (L : List Prt) (h : ∀ p ∈ L, p.b.length ≤ 20000) : ∀ p ∈ L.map asBlob, p.b.length ≤ 20000 := by
  intro p hp
  obtain ⟨q, hq, rfl⟩ := List.mem_map.1 hp
  exact h q hq
theorem bs_bound (L : List Prt) (h : ∀ p ∈ L, p.b.length ≤ 20000) : ∀ b ∈ L.map (·.b), b.length ≤ 20000 := by
  intro b hb
  obtain ⟨q, hq, rfl⟩ := List.mem_map.1 hb
  exact h q hq
theorem put_blobs (L : List Prt) (h : ∀ p ∈ L, p.b.length ≤ 20000) : putTo (L.map asBlob) (L.map asBlob).length = some (blobRow (L.map (·.b))) := by
  rw [putTo_eq _ (blob_bound L h) _ (Nat.le_refl _), goodTo_blobs, wantTo_blobs, if_pos rfl]
theorem row_len (L : List Prt) (h : ∀ p ∈ L, p.b.length ≤ 20000) (hl : L.length ≤ 40) : (blobRow (L.map (·.b))).length ≤ 801600 := by
  have h1 := want_len (L.map asBlob) (blob_bound L h) (asBlob_h L) (by simpa using hl)
  rwa [wantTo_blobs] at h1
theorem take_ne {l m : List (List UInt8)} {j : Nat} (h : (l.take j == m.take j) = false) : (l == m) = false := by
  rw [beq_eq_false_iff_ne] at h ⊢
  intro e
  exact h (by rw [e])
theorem take_next (l m : List (List UInt8)) (j : Nat) (hl : j < l.length) (hm : j < m.length) (h : (l.take j == m.take j) = true) : (l.take (j + 1) == m.take (j + 1)) = (l[j] == m[j]) := by
  rw [List.take_succ_eq_append_getElem hl, List.take_succ_eq_append_getElem hm, beq_iff_eq.1 h]
  by_cases e : l[j] = m[j]
  · rw [e, beq_self_eq_true, beq_self_eq_true]
  · rw [beq_eq_false_iff_ne.2 e, beq_eq_false_iff_ne]
    intro e2
    exact e (by simpa using List.append_cancel_left e2)
theorem take_all {l m : List (List UInt8)} {j : Nat} (hl : l.length = j) (hm : m.length = j) (h : (l.take j == m.take j) = true) : (l == m) = true := by
  rw [List.take_of_length_le (by omega), List.take_of_length_le (by omega)] at h
  exact h
theorem below_drewN {B : Nat} {a w : World} (h : Below B a w) (n : Nat) : Below B a (w.drewN n) := ⟨h.os, h.tape, h.output, h.size, h.block⟩
/-- A hash loaded, as one operation. -/
def loadHash (v : Value) : Sem Next := do pure (.value (← Instr.loadAt 30 v))
theorem execOp_loadHash (ρ : Operand → Value) (dst : Option Tmp) (x : Operand) (ty : TypeId) (pos : String) (after : Array Edge) (guard : Option (Nat × Bool)) :
    execOp ρ { dst, op := .load 30 x, type := ty, pos, after, guard } = loadHash (ρ x) := rfl
theorem run_loadHash (w : World) (b o : Nat) (cs : List Value) (hc : w.rangeAt b o cs) (hi : (Try.prog.info? 30).map (·.size) = some cs.length) :
    (loadHash (.pointer (some ⟨b, o, none⟩))).run Try.prog w = .ok (.value (.agg cs.toArray)) w := by
  unfold loadHash
  simp only [Sem.run_bind, run_loadAt_mid w b o 30 cs _ hc Try.underlying30 rfl hi, Result.andThen_ok, Sem.run_pure]
attribute [local go_sem ↓] execOp_loadHash

set_option maxHeartbeats 4000000 in
set_option maxRecDepth 100000 in
theorem wireMeans_any (w : World) (A : Option Addr) (n c : Nat) (L : List Prt) (hn : n = L.length) (hS : PSees w w.heap.size A L) (hmax : n ≤ 9223372036854775807) (hbig : ∀ p ∈ L, p.b.length ≤ 9223372036854775807)
    (A' : Option Addr) (n' c' : Nat) (O : List Prt) (hn' : n' = O.length) (hS' : PSees w w.heap.size A' O) (hmax' : n' ≤ 9223372036854775807) (hbig' : ∀ p ∈ O, p.b.length ≤ 9223372036854775807) :
    Calls Try.prog 6 #[.slice A n c, .slice A' n' c'] w fun e w' => e = .returned (.bool true) ∧ Below w.heap.size w w' := by
  have HS := Lib.hid hS
  have HS' := Lib.hid hS'
  have Hbig := Lib.hid hbig
  have Hbig' := Lib.hid hbig'
  have Hn := Lib.hid hn
  have Hn' := Lib.hid hn'
  clear hS hS' hbig hbig' hn hn'
  cases hM : muchB L with
  | true =>
    have HM := Lib.hid hM
    clear hM
    go_enter Try.func6, Try.ntmps6
    go_wp2_with (first
      | (go_at_call 9; refine (known_any _).mono ?_; rintro e w1 ⟨rfl, hb1⟩)
      | (go_at_call 8; refine (much_any _ _ _ _ _ L Hn.out (HS.out.below hb1) hmax Hbig.out).mono ?_; rw [HM.out]; rintro e w' ⟨rfl, rfl⟩))
    go_ret
    exact ⟨rfl, hb1⟩
  | false =>
  cases hM' : muchB O with
  | true =>
    have HM := Lib.hid hM
    have HM' := Lib.hid hM'
    clear hM hM'
    go_enter Try.func6, Try.ntmps6
    go_wp2_with (go_at_call 9; refine (known_any _).mono ?_; rintro e w1 ⟨rfl, hb1⟩)
    refine (much_any _ _ _ _ _ L Hn.out (HS.out.below hb1) hmax Hbig.out).mono ?_
    rw [HM.out]
    rintro e w' ⟨rfl, rfl⟩
    go_wp2_with fail
    refine (much_any _ _ _ _ _ O Hn'.out (HS'.out.below hb1) hmax' Hbig'.out).mono ?_
    rw [HM'.out]
    rintro e w' ⟨rfl, rfl⟩
    go_wp2
    go_ret
    exact ⟨rfl, hb1⟩
  | false =>
    obtain ⟨hl40, hb20, _⟩ := much_no hM
    obtain ⟨hl40', hb20', _⟩ := much_no hM'
    have HM := Lib.hid hM
    have HM' := Lib.hid hM'
    have Hb20 := Lib.hid hb20
    have Hb20' := Lib.hid hb20'
    clear hM hM' hb20 hb20'
    obtain rfl := Hn.out
    obtain rfl := Hn'.out
    have HT := Lib.hid (putTo_eq L Hb20.out L.length (Nat.le_refl _))
    have hwl : (wantTo L L.length).length ≤ 801600 := want_len L Hb20.out (fun p hp => (HS.out.1 p hp).h) hl40
    go_enter Try.func6, Try.ntmps6
    go_wp2_with (go_at_call 9; refine (known_any _).mono ?_; rintro e w1 ⟨rfl, hb1⟩)
    refine (much_any _ _ _ _ _ L rfl (HS.out.below hb1) hmax Hbig.out).mono ?_
    rw [HM.out]
    rintro e w' ⟨rfl, rfl⟩
    go_wp2_with fail
    refine (much_any _ _ _ _ _ O rfl (HS'.out.below hb1) hmax' Hbig'.out).mono ?_
    rw [HM'.out]
    rintro e w' ⟨rfl, rfl⟩
    have HB1 := Lib.hid hb1
    clear hb1
    go_wp2_with fail
    refine (put_any _ _ _ _ L rfl (psees_up HS.out HB1.out) hl40 Hb20.out).mono ?_
    rintro e w2 ⟨rfl, h1, h2⟩
    have H1 := Lib.hid h1
    have HB2 := Lib.hid (HB1.out.trans (h2.mono HB1.out.size))
    clear h1 h2
    cases hg : goodTo L L.length with
    | false =>
      have HT2 : Hid (putTo L L.length = none) := by show _ = _; rw [HT.out, hg]; rfl
      have HW := H1.out
      rw [HT2.out] at HW
      have HW := Lib.hid HW
      go_wp2_with (first
        | (go_at_call 12; refine (end_s _ _ _ _ HW.out (by simp [lenS])).mono ?_; rintro e w' ⟨rfl, rfl⟩)
        | (go_at_call 13; refine (num_any _ _).mono ?_; rintro e w' ⟨rfl, rfl⟩))
      have HBt := Lib.hid HB2.out
      refine (blobs_any _ _ _ _ L rfl (psees_up HS.out HBt.out) hl40).mono ?_
      rintro e x1 ⟨P1, k1, rfl, hp1, hbx1⟩
      have HP1 := Lib.hid hp1
      have HX1 := Lib.hid (HBt.out.trans (hbx1.mono HBt.out.size))
      clear hp1 hbx1 HBt
      go_wp2_with fail
      refine (blobs_any _ _ _ _ O rfl (psees_up HS'.out HX1.out) hl40').mono ?_
      rintro e x2 ⟨P2, k2, rfl, hp2, hbx2⟩
      have HP2 := Lib.hid hp2
      have HP12 := Lib.hid (psees_up HP1.out hbx2)
      have HX2 := Lib.hid (HX1.out.trans (hbx2.mono HX1.out.size))
      clear hp2 hbx2 HX1 HP1
      go_wp2_with fail
      refine (put_any _ _ _ _ (L.map asBlob) (by simp) HP12.out (by omega) (blob_bound L Hb20.out)).mono ?_
      rintro e x3 ⟨rfl, h1, h2⟩
      rw [put_blobs L Hb20.out] at h1
      have HW3 := Lib.hid h1
      have HY3 := Lib.hid h2
      clear h1 h2
      go_wp2_with fail
      refine (end_s _ _ _ _ HW3.out (by simp only [lenS, Option.getD_some]; have := row_len L Hb20.out hl40; omega)).mono ?_
      rintro e x4 ⟨⟨A7, c7, rfl, ho7⟩, hb4⟩
      have HS7 := Lib.hid (Sees.own ho7)
      have HY4 : Hid (Below x2.heap.size x2 x4) := HY3.out.trans (hb4.mono HY3.out.size)
      clear ho7 hb4 HW3 HY3
      go_wp2_with fail
      refine (put_any _ _ _ _ (O.map asBlob) (by simp) (psees_up HP2.out HY4.out) (by omega) (blob_bound O Hb20'.out)).mono ?_
      rintro e x5 ⟨rfl, h1, h2⟩
      rw [put_blobs O Hb20'.out] at h1
      have HW5 := Lib.hid h1
      have HY5 : Hid (Below x4.heap.size x4 x5) := h2
      clear h1 h2
      go_wp2_with fail
      refine (end_s _ _ _ _ HW5.out (by simp only [lenS, Option.getD_some]; have := row_len O Hb20'.out hl40'; omega)).mono ?_
      rintro e x6 ⟨⟨A8, c8, rfl, ho8⟩, hb6⟩
      have HS8 := Lib.hid (Sees.own ho8)
      have HY6 : Hid (Below x4.heap.size x4 x6) := HY5.out.trans (hb6.mono HY5.out.size)
      have HS76 := Lib.hid (HS7.out.later HY6.out)
      have HZ6 : Hid (Below x2.heap.size x2 x6) := HY4.out.trans (HY6.out.mono HY4.out.size)
      have HPa := Lib.hid (psees_up HP12.out HZ6.out)
      have HPb := Lib.hid (psees_up HP2.out HZ6.out)
      have HX6 := Lib.hid (HX2.out.trans (HZ6.out.mono HX2.out.size))
      clear ho8 hb6 HW5 HY5 HS7 HY6 HZ6 HP12 HP2 HX2 HY4
      have Hbq := Lib.hid (blobRow_beq (L.map (·.b)) (O.map (·.b)) (bs_bound L Hb20.out) (bs_bound O Hb20'.out))
      generalize blobRow (L.map (·.b)) = X1 at *
      generalize blobRow (O.map (·.b)) = X2 at *
      by_cases hlen : L.length = O.length
      · have hli : ((L.length : Int) == (O.length : Int)) = true := by simp; omega
        go_wp2
        go_loopw [17, 18] (fun v i wx => ∃ (j : Nat) (sm : Bool), j ≤ L.length ∧ i = .int .i64 j ∧ v = .bool sm ∧ Hid (sm = ((L.map (·.b)).take j == (O.map (·.b)).take j)) ∧ Hid (Below x6.heap.size x6 wx)) (fun _ i _ => L.length - (intOf i).toNat)
        case atStart => exact ⟨0, true, Nat.zero_le _, rfl, rfl, by simp [Hid], Below.refl _ _⟩
        case round =>
          obtain ⟨j, sm, hj, rfl, rfl, Hsm, HBw⟩ := hrel
          have q7 : (convert 25 9 (.slice A7 X1.length c7)).run Try.prog wr = .ok (.string (Str X1)) wr := run_string_sees Try.underlying25 Try.underlying5 Try.underlying9 rfl (HS76.out.later HBw.out)
          have q8 : (convert 25 9 (.slice A8 X2.length c8)).run Try.prog wr = .ok (.string (Str X2)) wr := run_string_sees Try.underlying25 Try.underlying5 Try.underlying9 rfl (HS8.out.later HBw.out)
          cases sm with
          | false =>
            have hXX : (X1 == X2) = false := by rw [Hbq.out]; exact take_ne Hsm.out.symm
            go_wp2
            all_goals
              go_ret
              exact ⟨rfl, HX6.out.trans (HBw.out.mono HX6.out.size)⟩
          | true =>
            by_cases hjl : j < L.length
            · have hjo : j < O.length := by omega
              obtain ⟨bp, op, hP1, hbp, hrp, hokp⟩ := (psees_up HPa.out HBw.out).at_ (show j < (L.map asBlob).length by simpa using hjl)
              obtain ⟨bq, oq, hP2, hbq2, hrq, hokq⟩ := (psees_up HPb.out HBw.out).at_ (show j < (O.map asBlob).length by simpa using hjo)
              subst hP1 hP2
              simp only [List.getElem_map] at hrp hrq hokp hokq
              have cp : wr.cell? ⟨bp, op + j * 36 + 3, none⟩ = some (.slice L[j].A L[j].b.length L[j].c) := hrp 3 _ rfl
              have cq : wr.cell? ⟨bq, oq + j * 36 + 3, none⟩ = some (.slice O[j].A O[j].b.length O[j].c) := hrq 3 _ rfl
              have qp : ∀ m, (convert 25 9 (.slice L[j].A L[j].b.length L[j].c)).run Try.prog (wr.drewN m) = .ok (.string (Str L[j].b)) (wr.drewN m) := fun m => run_string_sees Try.underlying25 Try.underlying5 Try.underlying9 rfl (show Sees (wr.drewN m) _ _ _ from hokp.see)
              have qq : ∀ m, (convert 25 9 (.slice O[j].A O[j].b.length O[j].c)).run Try.prog (wr.drewN m) = .ok (.string (Str O[j].b)) (wr.drewN m) := fun m => run_string_sees Try.underlying25 Try.underlying5 Try.underlying9 rfl (show Sees (wr.drewN m) _ _ _ from hokq.see)
              have Hnx := Lib.hid (take_next (L.map (·.b)) (O.map (·.b)) j (by simpa using hjl) (by simpa using hjo) Hsm.out.symm)
              have hjL : (j : Int) < L.length := by omega
              have hjO : (j : Int) < O.length := by omega
              clear hrp hrq hokp hokq
              go_wp2
              go_quiet (fail)
              go_wp2
              go_roundw
              case rel => exact ⟨j + 1, (L[j].b == O[j].b), by omega, by go_num, rfl, by show _ = _; rw [Hnx.out]; simp, below_drewN HBw.out _⟩
              case measure => simp [intOf]; omega
            · obtain rfl : j = L.length := by omega
              have hXX : (X1 == X2) = true := by rw [Hbq.out]; exact take_all (by simp) (by simpa using hlen.symm) Hsm.out.symm
              go_wp2
              go_ret
              exact ⟨rfl, HX6.out.trans (HBw.out.mono HX6.out.size)⟩
      · have hli : ((L.length : Int) == (O.length : Int)) = false := by simp; omega
        have hXX : (X1 == X2) = false := by
          rw [Hbq.out]
          exact beq_eq_false_iff_ne.2 (fun e => hlen (by simpa using congrArg List.length e))
        have q7 : (convert 25 9 (.slice A7 X1.length c7)).run Try.prog x6 = .ok (.string (Str X1)) x6 := run_string_sees Try.underlying25 Try.underlying5 Try.underlying9 rfl HS76.out
        have q8 : (convert 25 9 (.slice A8 X2.length c8)).run Try.prog x6 = .ok (.string (Str X2)) x6 := run_string_sees Try.underlying25 Try.underlying5 Try.underlying9 rfl HS8.out
        go_wp2
        refine wp_loop_rounds 1 ?_
        rw [rounds_succ]
        go_wp2
        all_goals
          go_ret
          exact ⟨rfl, HX6.out⟩
    | true =>
      have HT2 : Hid (putTo L L.length = some (wantTo L L.length)) := by show _ = _; rw [HT.out, hg]; rfl
      have Hg := Lib.hid hg
      have HW := H1.out
      rw [HT2.out] at HW
      have HWl := Lib.hid HW
      clear HW H1 hg
      have HRF := Lib.hid (restFrom_zero L)
      go_wp2_with (first
        | (go_at_call 12; refine (end_s _ _ _ _ HWl.out (by simp only [lenS, Option.getD_some]; omega)).mono ?_; rintro e w3 ⟨⟨A3, c3, rfl, ho3⟩, hb3⟩; have Ho3 := Lib.hid ho3; have HB3 := Lib.hid (HB2.out.trans (hb3.mono HB2.out.size)); clear ho3 hb3)
        | (go_at_call 13; refine (num_any _ _).mono ?_; rintro e w' ⟨rfl, rfl⟩)
        | (go_at_call 14; refine (read_any _ _ _ _ _ (wantTo L L.length) rfl (Sees.own Ho3.out) (by omega)).mono ?_; rintro e w4 ⟨g, d, rfl, hg4, hd4, hR4, hb4⟩; have HR4 := Lib.hid hR4; have HB4 := Lib.hid (HB3.out.trans (hb4.mono HB3.out.size)); have hgw : w.heap.size ≤ g := Nat.le_trans HB3.out.size hg4; clear hd4 hR4 hb4))
      go_loopw [8] (fun i wr => ∃ k : Nat, k ≤ L.length ∧ i = .int .i64 k ∧ Hid (Rding w g d (restFrom L k) wr)) (fun i _ => L.length - (intOf i).toNat)
      case atStart => exact ⟨0, Nat.zero_le _, rfl, by rw [HRF.out]; exact HR4.out, HB4.out, hgw⟩
      case round =>
        obtain ⟨k, hk, rfl, HR⟩ := hrel
        by_cases hlt : k < L.length
        · obtain ⟨b, off, rfl, hb, hr, hok⟩ := (HS.out.below HR.out.below).at_ hlt
          have Hr := Lib.hid hr
          have Hok := Lib.hid hok
          have HPS : Hid ((Try.prog.info? 32).map (·.size) = some (PCells L[k]).length) := by show _ = _; rw [PCells_length hok]; exact Try.psize
          have HPS2 : Hid ((Try.prog.info? 32).map (·.size) = some (PCells L[k]).toArray.size) := by show _ = _; rw [List.size_toArray]; exact HPS.out
          have HPZ : Hid (pZero.size = (PCells L[k]).toArray.size) := by show 36 = (PCells L[k]).length; rw [PCells_length hok]
          have HHS : Hid ((Try.prog.info? 30).map (·.size) = some (By L[k].h).length) := by show _ = _; rw [By_length, hok.h]; exact Try.hsize
          have hlb := Hb20.out _ (List.getElem_mem hlt)
          have Hst := Lib.hid (restFrom_step L k hlt)
          have Hgk := Lib.hid (goodTo_at L Hg.out k hlt)
          have hgl := HR.out.rd.lt
          have Hrl : Hid ((restFrom L k).length ≤ 801600) := Nat.le_trans (restFrom_len L k) hwl
          clear hr hok
          go_wp2_with (first
            | ((with_reducible show wpList _ _ _ (⟨some 47, _, _, _, _, _⟩ :: _) _ _); refine wpList_load_mid rfl 32 (.tmp 46) rfl b (off + k * 36) rfl (PCells L[k]) _ Hr.out Try.underlying32 rfl HPS.out ?_)
            | ((with_reducible show wpList _ _ _ (⟨none, _, _, _, _, _⟩ :: _) _ _); refine wpList_store_all rfl 32 (.tmp 9) (.tmp 47) rfl wr.heap.size 32 pZero (PCells L[k]).toArray rfl rfl (Blk.new wr _ _) HPZ.out HPS2.out (PCells_one _) ?_; intro w5 h5 h6 h7; have H5 := Lib.hid h5; have H6 := Lib.hid (below_new h6); have d0 : w5.cell? ⟨wr.heap.size, 0, none⟩ = some (.int .i64 L[k].kind) := h5.cell 0; have d1 : w5.cell? ⟨wr.heap.size, 1, none⟩ = some (.int .i64 L[k].size) := h5.cell 1; have d2 : w5.cell? ⟨wr.heap.size, 2, none⟩ = some (.int .u64 L[k].n) := h5.cell 2; have d3 : w5.cell? ⟨wr.heap.size, 3, none⟩ = some (.slice L[k].A L[k].b.length L[k].c) := h5.cell 3; have Hok5 : Hid (L[k].ok w5 w.heap.size) := Hok.out.later (H6.out.mono HR.out.below.size); have HR5 := Lib.hid (HR.out.rd.below H6.out); clear h5 h6 h7))
          · have hkd : (L[k].kind == 1) = true := by assumption
            obtain ⟨hE, hC⟩ := back_1 L[k] (restFrom L (k + 1)) (beq_iff_eq.1 hkd) Hgk.out
            rw [← Hst.out] at hE hC
            have HE := Lib.hid hE
            have HC := Lib.hid hC
            clear hE hC
            go_region_law ((go_simp; go_at_call 15; refine (rnumber_s _ _ _ _ HR5.out.drew' _).mono ?_; rw [HE.out, HC.out]; rintro e w6 ⟨rfl, hR6, hk6', hz6⟩; have hk6 := hk6'.undrew'; clear hk6' hz6; have d2' : w6.cell? ⟨wr.heap.size, 2, none⟩ = some (.int .u64 L[k].n) := ((hk6.cell (p := ⟨wr.heap.size, 2, none⟩) H5.out.lt (show ¬ wr.heap.size = g by omega)).trans d2); have HN := Lib.hid (HR.out.next H6.out hk6 hR6); clear hR6 hk6))
            all_goals
              go_wp2
              go_roundw
              case rel => exact ⟨k + 1, by omega, by go_num, HN.out⟩
              case measure => simp [intOf]; omega
          · have hkd : (L[k].kind == 2) = true := by assumption
            obtain ⟨hE, hC⟩ := back_2 L[k] (restFrom L (k + 1)) (beq_iff_eq.1 hkd)
            rw [← Hst.out] at hE hC
            have HE := Lib.hid hE
            have HC := Lib.hid hC
            clear hE hC
            have qx5 : (convert 25 9 (.slice L[k].A L[k].b.length L[k].c)).run Try.prog w5.drew = .ok (.string (Str L[k].b)) w5.drew := run_string_sees Try.underlying25 Try.underlying5 Try.underlying9 rfl (show Sees w5.drew _ _ _ from Hok5.out.see)
            go_region_law ((go_simp; go_at_call 17; refine (rbytes_s _ _ _ _ HR5.out.drew' _ (by have := Hrl.out; simp only [lenS, Option.getD_some]; omega)).mono ?_; rw [HE.out, HC.out]; rintro e w6 ⟨A6, c6, rfl, ho6, hR6, hk6'⟩; have hk6 := hk6'.undrew'; clear hk6'; have d3' : w6.cell? ⟨wr.heap.size, 3, none⟩ = some (.slice L[k].A L[k].b.length L[k].c) := ((hk6.cell (p := ⟨wr.heap.size, 3, none⟩) H5.out.lt (show ¬ wr.heap.size = g by omega)).trans d3); have qx6 : (convert 25 9 (.slice L[k].A L[k].b.length L[k].c)).run Try.prog w6 = .ok (.string (Str L[k].b)) w6 := (run_string_sees Try.underlying25 Try.underlying5 Try.underlying9 rfl (Hok5.out.see.keeps2 hk6 (fun h0 ad had _ => by have := Hok5.out.at_ h0 ad had; have := HR.out.lg; omega))); have q6 : (convert 25 9 (.slice A6 L[k].b.length c6)).run Try.prog w6 = .ok (.string (Str L[k].b)) w6 := (run_string_sees Try.underlying25 Try.underlying5 Try.underlying9 rfl (Sees.own ho6)); clear ho6; have HN := Lib.hid (HR.out.next H6.out hk6 hR6); clear hR6 hk6))
            all_goals
              go_wp2
              go_roundw
              case rel => exact ⟨k + 1, by omega, by go_num, HN.out⟩
              case measure => simp [intOf]; omega
          · have hkd : (L[k].kind == 3) = true := by assumption
            obtain ⟨hE, hC⟩ := back_3 L[k] (restFrom L (k + 1)) (beq_iff_eq.1 hkd) hlb
            rw [← Hst.out] at hE hC
            have HE := Lib.hid hE
            have HC := Lib.hid hC
            clear hE hC
            have qx5 : (convert 25 9 (.slice L[k].A L[k].b.length L[k].c)).run Try.prog w5.drew = .ok (.string (Str L[k].b)) w5.drew := run_string_sees Try.underlying25 Try.underlying5 Try.underlying9 rfl (show Sees w5.drew _ _ _ from Hok5.out.see)
            go_region_law ((go_simp; go_at_call 19; refine (rblob_s _ _ _ _ HR5.out.drew' (by have := Hrl.out; simp only [lenS, Option.getD_some]; omega)).mono ?_; rw [HE.out, HC.out]; rintro e w6 ⟨A6, c6, rfl, ho6, hR6, hk6'⟩; have hk6 := hk6'.undrew'; clear hk6'; have d3' : w6.cell? ⟨wr.heap.size, 3, none⟩ = some (.slice L[k].A L[k].b.length L[k].c) := ((hk6.cell (p := ⟨wr.heap.size, 3, none⟩) H5.out.lt (show ¬ wr.heap.size = g by omega)).trans d3); have qx6 : (convert 25 9 (.slice L[k].A L[k].b.length L[k].c)).run Try.prog w6 = .ok (.string (Str L[k].b)) w6 := (run_string_sees Try.underlying25 Try.underlying5 Try.underlying9 rfl (Hok5.out.see.keeps2 hk6 (fun h0 ad had _ => by have := Hok5.out.at_ h0 ad had; have := HR.out.lg; omega))); have q6 : (convert 25 9 (.slice A6 L[k].b.length c6)).run Try.prog w6 = .ok (.string (Str L[k].b)) w6 := (run_string_sees Try.underlying25 Try.underlying5 Try.underlying9 rfl (Sees.own ho6)); clear ho6; have HN := Lib.hid (HR.out.next H6.out hk6 hR6); clear hR6 hk6))
            all_goals
              go_wp2
              go_roundw
              case rel => exact ⟨k + 1, by omega, by go_num, HN.out⟩
              case measure => simp [intOf]; omega
          · have hkd : (L[k].kind == 4) = true := by assumption
            obtain ⟨hE, hC⟩ := back_4 L[k] (restFrom L (k + 1)) (beq_iff_eq.1 hkd) Hgk.out
            rw [← Hst.out] at hE hC
            have HE := Lib.hid hE
            have HC := Lib.hid hC
            clear hE hC
            go_region_law ((go_simp; go_at_call 21; refine (rcount_s _ _ _ _ HR5.out.drew').mono ?_; rw [HE.out, HC.out]; rintro e w6 ⟨rfl, hR6, hk6', hz6⟩; have hk6 := hk6'.undrew'; clear hk6' hz6; have d1' : w6.cell? ⟨wr.heap.size, 1, none⟩ = some (.int .i64 L[k].size) := ((hk6.cell (p := ⟨wr.heap.size, 1, none⟩) H5.out.lt (show ¬ wr.heap.size = g by omega)).trans d1); have HN := Lib.hid (HR.out.next H6.out hk6 hR6); clear hR6 hk6))
            all_goals
              go_wp2
              go_roundw
              case rel => exact ⟨k + 1, by omega, by go_num, HN.out⟩
              case measure => simp [intOf]; omega
          · have hkd : (L[k].kind == 5) = true := by assumption
            obtain ⟨hE, hC⟩ := back_5 L[k] (restFrom L (k + 1)) (beq_iff_eq.1 hkd) Hok5.out.h
            rw [← Hst.out] at hE hC
            have HE := Lib.hid hE
            have HC := Lib.hid hC
            clear hE hC
            have qh5 : (loadHash (.pointer (some ⟨wr.heap.size, 4, none⟩))).run Try.prog w5.drew = .ok (.value (.agg (By L[k].h).toArray)) w5.drew := run_loadHash w5.drew wr.heap.size 4 (By L[k].h) (show w5.drew.rangeAt _ _ _ from range_hash H5.out) HHS.out
            have qe : ∀ W : World, (binOp .eql 30 (.agg (By L[k].h).toArray) (.agg (By L[k].h).toArray)).run Try.prog W = .ok (.bool true) W := fun W => by
              rw [run_eql_bytes 32 30 5 Try.underlying30 Try.underlying5 Try.u8size L[k].h L[k].h Hok5.out.h Hok5.out.h, beq_self_eq_true]
            go_region_law ((go_simp; go_at_call 22; refine (rhash_s _ _ _ _ HR5.out.drew').mono ?_; rw [HE.out, HC.out]; rintro e w6 ⟨rfl, hR6, hk6'⟩; have hk6 := hk6'.undrew'; clear hk6'; have qh6 : (loadHash (.pointer (some ⟨wr.heap.size, 4, none⟩))).run Try.prog w6 = .ok (.value (.agg (By L[k].h).toArray)) w6 := (run_loadHash w6 wr.heap.size 4 (By L[k].h) (range_hash (H5.out.keeps hk6 (show ¬ wr.heap.size = g by omega))) HHS.out); have HN := Lib.hid (HR.out.next H6.out hk6 hR6); clear hR6 hk6))
            all_goals
              go_wp2
              go_roundw
              case rel => exact ⟨k + 1, by omega, by go_num, HN.out⟩
              case measure => simp [intOf]; omega
          · have HN : Hid (restFrom L (k + 1) = restFrom L k) := by
              show _ = _
              rw [Hst.out, back_6 _ _ (beq_eq_false_iff_ne.1 (by assumption)) (beq_eq_false_iff_ne.1 (by assumption)) (beq_eq_false_iff_ne.1 (by assumption)) (beq_eq_false_iff_ne.1 (by assumption)) (beq_eq_false_iff_ne.1 (by assumption))]
            go_roundw
            case rel => exact ⟨k + 1, by omega, by go_num, by rw [HN.out]; exact HR5.out, HR.out.below.trans (H6.out.mono HR.out.below.size), HR.out.lg⟩
            case measure => simp [intOf]; omega
        · obtain rfl : k = L.length := by omega
          have HRe := HR.out.rd
          rw [restFrom_end] at HRe
          have HRn := Lib.hid HRe
          have HBt := Lib.hid HR.out.below
          clear HRe
          obtain ⟨wo, rfl⟩ : ∃ wo : World, wo = wr := ⟨_, rfl⟩
          go_wp2_with (first
            | (go_at_call 25; refine (rend_s _ _ _ _ HRn.out).mono ?_; rw [show rend (some []) = 0 from rfl]; rintro e w' ⟨rfl, rfl⟩)
            | (go_at_call 13; refine (num_any _ _).mono ?_; rintro e w' ⟨rfl, rfl⟩))
          refine (blobs_any _ _ _ _ L rfl (psees_up HS.out HBt.out) hl40).mono ?_
          rintro e x1 ⟨P1, k1, rfl, hp1, hbx1⟩
          have HP1 := Lib.hid hp1
          have HX1 := Lib.hid (HBt.out.trans (hbx1.mono HBt.out.size))
          clear hp1 hbx1 HBt
          go_wp2_with fail
          refine (blobs_any _ _ _ _ O rfl (psees_up HS'.out HX1.out) hl40').mono ?_
          rintro e x2 ⟨P2, k2, rfl, hp2, hbx2⟩
          have HP2 := Lib.hid hp2
          have HP12 := Lib.hid (psees_up HP1.out hbx2)
          have HX2 := Lib.hid (HX1.out.trans (hbx2.mono HX1.out.size))
          clear hp2 hbx2 HX1 HP1
          go_wp2_with fail
          refine (put_any _ _ _ _ (L.map asBlob) (by simp) HP12.out (by omega) (blob_bound L Hb20.out)).mono ?_
          rintro e x3 ⟨rfl, h1, h2⟩
          rw [put_blobs L Hb20.out] at h1
          have HW3 := Lib.hid h1
          have HY3 := Lib.hid h2
          clear h1 h2
          go_wp2_with fail
          refine (end_s _ _ _ _ HW3.out (by simp only [lenS, Option.getD_some]; have := row_len L Hb20.out hl40; omega)).mono ?_
          rintro e x4 ⟨⟨A7, c7, rfl, ho7⟩, hb4⟩
          have HS7 := Lib.hid (Sees.own ho7)
          have HY4 : Hid (Below x2.heap.size x2 x4) := HY3.out.trans (hb4.mono HY3.out.size)
          clear ho7 hb4 HW3 HY3
          go_wp2_with fail
          refine (put_any _ _ _ _ (O.map asBlob) (by simp) (psees_up HP2.out HY4.out) (by omega) (blob_bound O Hb20'.out)).mono ?_
          rintro e x5 ⟨rfl, h1, h2⟩
          rw [put_blobs O Hb20'.out] at h1
          have HW5 := Lib.hid h1
          have HY5 : Hid (Below x4.heap.size x4 x5) := h2
          clear h1 h2
          go_wp2_with fail
          refine (end_s _ _ _ _ HW5.out (by simp only [lenS, Option.getD_some]; have := row_len O Hb20'.out hl40'; omega)).mono ?_
          rintro e x6 ⟨⟨A8, c8, rfl, ho8⟩, hb6⟩
          have HS8 := Lib.hid (Sees.own ho8)
          have HY6 : Hid (Below x4.heap.size x4 x6) := HY5.out.trans (hb6.mono HY5.out.size)
          have HS76 := Lib.hid (HS7.out.later HY6.out)
          have HZ6 : Hid (Below x2.heap.size x2 x6) := HY4.out.trans (HY6.out.mono HY4.out.size)
          have HPa := Lib.hid (psees_up HP12.out HZ6.out)
          have HPb := Lib.hid (psees_up HP2.out HZ6.out)
          have HX6 := Lib.hid (HX2.out.trans (HZ6.out.mono HX2.out.size))
          clear ho8 hb6 HW5 HY5 HS7 HY6 HZ6 HP12 HP2 HX2 HY4
          have Hbq := Lib.hid (blobRow_beq (L.map (·.b)) (O.map (·.b)) (bs_bound L Hb20.out) (bs_bound O Hb20'.out))
          generalize blobRow (L.map (·.b)) = X1 at *
          generalize blobRow (O.map (·.b)) = X2 at *
          by_cases hlen : L.length = O.length
          · have hli : ((L.length : Int) == (O.length : Int)) = true := by simp; omega
            go_wp2
            go_loopw [17, 18] (fun v i wx => ∃ (j : Nat) (sm : Bool), j ≤ L.length ∧ i = .int .i64 j ∧ v = .bool sm ∧ Hid (sm = ((L.map (·.b)).take j == (O.map (·.b)).take j)) ∧ Hid (Below x6.heap.size x6 wx)) (fun _ i _ => L.length - (intOf i).toNat)
            case atStart => exact ⟨0, true, Nat.zero_le _, rfl, rfl, by simp [Hid], Below.refl _ _⟩
            case round =>
              obtain ⟨j, sm, hj, rfl, rfl, Hsm, HBw⟩ := hrel
              have q7 : (convert 25 9 (.slice A7 X1.length c7)).run Try.prog wr = .ok (.string (Str X1)) wr := run_string_sees Try.underlying25 Try.underlying5 Try.underlying9 rfl (HS76.out.later HBw.out)
              have q8 : (convert 25 9 (.slice A8 X2.length c8)).run Try.prog wr = .ok (.string (Str X2)) wr := run_string_sees Try.underlying25 Try.underlying5 Try.underlying9 rfl (HS8.out.later HBw.out)
              cases sm with
              | false =>
                have hXX : (X1 == X2) = false := by rw [Hbq.out]; exact take_ne Hsm.out.symm
                go_wp2
                all_goals
                  go_ret
                  exact ⟨rfl, HX6.out.trans (HBw.out.mono HX6.out.size)⟩
              | true =>
                by_cases hjl : j < L.length
                · have hjo : j < O.length := by omega
                  obtain ⟨bp, op, hP1, hbp, hrp, hokp⟩ := (psees_up HPa.out HBw.out).at_ (show j < (L.map asBlob).length by simpa using hjl)
                  obtain ⟨bq, oq, hP2, hbq2, hrq, hokq⟩ := (psees_up HPb.out HBw.out).at_ (show j < (O.map asBlob).length by simpa using hjo)
                  subst hP1 hP2
                  simp only [List.getElem_map] at hrp hrq hokp hokq
                  have cp : wr.cell? ⟨bp, op + j * 36 + 3, none⟩ = some (.slice L[j].A L[j].b.length L[j].c) := hrp 3 _ rfl
                  have cq : wr.cell? ⟨bq, oq + j * 36 + 3, none⟩ = some (.slice O[j].A O[j].b.length O[j].c) := hrq 3 _ rfl
                  have qp : ∀ m, (convert 25 9 (.slice L[j].A L[j].b.length L[j].c)).run Try.prog (wr.drewN m) = .ok (.string (Str L[j].b)) (wr.drewN m) := fun m => run_string_sees Try.underlying25 Try.underlying5 Try.underlying9 rfl (show Sees (wr.drewN m) _ _ _ from hokp.see)
                  have qq : ∀ m, (convert 25 9 (.slice O[j].A O[j].b.length O[j].c)).run Try.prog (wr.drewN m) = .ok (.string (Str O[j].b)) (wr.drewN m) := fun m => run_string_sees Try.underlying25 Try.underlying5 Try.underlying9 rfl (show Sees (wr.drewN m) _ _ _ from hokq.see)
                  have Hnx := Lib.hid (take_next (L.map (·.b)) (O.map (·.b)) j (by simpa using hjl) (by simpa using hjo) Hsm.out.symm)
                  have hjL : (j : Int) < L.length := by omega
                  have hjO : (j : Int) < O.length := by omega
                  clear hrp hrq hokp hokq
                  go_wp2
                  go_quiet (fail)
                  go_wp2
                  go_roundw
                  case rel => exact ⟨j + 1, (L[j].b == O[j].b), by omega, by go_num, rfl, by show _ = _; rw [Hnx.out]; simp, below_drewN HBw.out _⟩
                  case measure => simp [intOf]; omega
                · obtain rfl : j = L.length := by omega
                  have hXX : (X1 == X2) = true := by rw [Hbq.out]; exact take_all (by simp) (by simpa using hlen.symm) Hsm.out.symm
                  go_wp2
                  go_ret
                  exact ⟨rfl, HX6.out.trans (HBw.out.mono HX6.out.size)⟩
          · have hli : ((L.length : Int) == (O.length : Int)) = false := by simp; omega
            have hXX : (X1 == X2) = false := by
              rw [Hbq.out]
              exact beq_eq_false_iff_ne.2 (fun e => hlen (by simpa using congrArg List.length e))
            have q7 : (convert 25 9 (.slice A7 X1.length c7)).run Try.prog x6 = .ok (.string (Str X1)) x6 := run_string_sees Try.underlying25 Try.underlying5 Try.underlying9 rfl HS76.out
            have q8 : (convert 25 9 (.slice A8 X2.length c8)).run Try.prog x6 = .ok (.string (Str X2)) x6 := run_string_sees Try.underlying25 Try.underlying5 Try.underlying9 rfl HS8.out
            go_wp2
            refine wp_loop_rounds 1 ?_
            rw [rounds_succ]
            go_wp2
            all_goals
              go_ret
              exact ⟨rfl, HX6.out⟩

end Go.Proofs.Ytpdidobmfoapiaa
