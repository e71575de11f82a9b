/-
  disk: near.
-/
import Derived.Test.YtiagefcjebnopaaRf9
import Derived.Deep.Quiet
import Derived.BigQuiet
namespace Go.Proofs.Ytiagefcjebnopaa
open Go.RowKit

def NearOk (B N : List UInt8) (i : Nat) (rest : List PutR) : Prop := ∃ e, B = N ++ e ∧ (e ≠ [] → ∃ p r, rest = p :: r ∧ p.cut = false ∧ p.log = i ∧ e.length ≤ p.b.length ∧ e = p.b.take e.length)
def NearPost (w : World) (C : Prop) (e : Ending) (w' : World) : Prop := ∃ z : Bool, e = .returned (.bool z) ∧ (C → z = true) ∧ Below w.heap.size w w'
theorem NearPost.is {w w' : World} {C : Prop} (z : Bool) (h : C → z = true) (b : Below w.heap.size w w') : NearPost w C (.returned (.bool z)) w' := ⟨z, rfl, h, b⟩
theorem nxDrN {w W : World} (h : Below w.heap.size w W) (n : Nat) : Below w.heap.size w (W.drewN n) := ⟨h.os, h.tape, h.output, h.size, h.block⟩
theorem Str_ne {a b : List UInt8} (h : a ≠ b) : Str a ≠ Str b := fun e => h (by rw [← Str_toList a, ← Str_toList b, e])
theorem NearOk.drop {B N : List UInt8} {i : Nat} {rest : List PutR} (h : NearOk B N i rest) : B.drop N.length ≠ [] → ∃ p r, rest = p :: r ∧ p.cut = false ∧ p.log = i ∧ (B.drop N.length).length ≤ p.b.length ∧ B.drop N.length = p.b.take (B.drop N.length).length := by
  obtain ⟨e, he, h⟩ := h
  have : B.drop N.length = e := by rw [he]; exact List.drop_left
  rw [this]
  exact h
/-- On the way. -/
structure NearAt (w wr : World) (q : Nat) (rows : List RowM) : Prop where
  b : Blk wr q 42 (rowsC rows).toArray
  o : ∀ r ∈ rows, r.own wr
  v : Below w.heap.size w wr

set_option maxHeartbeats 4000000 in
set_option maxRecDepth 100000 in
theorem near_any (w : World) (g : Nat) (dm : DkM) (q : Nat) (m : RfM) (h : DkOk w g dm) (wf : DkWf dm.d) (hr : RfOk w q m) (hw : okW (dataR m) (m.W.map PutR.d)) (hW : m.W.length ≤ 1000) (hm : ∀ k, (rowD (dataR m) k).length ≤ 16777216)
    (rest : List PutR) (RA : Option Addr) (rc : Nat) (hs : SeesV w w.heap.size RA (putsC rest)) (hp : ∀ p ∈ rest, p.row.own w) (hl : rest.length ≤ 1000) :
    Calls Try.prog 19 #[ptrD g, ptrD q, .slice RA rest.length rc] w (NearPost w (∀ i, i < 16 → NearOk (rowD dm.d.X (16 + i)) (rowD (doAll 0 (dataR m) (m.W.map PutR.d)) i) i rest)) := by
  have H := Lib.hid h
  have HWf := Lib.hid wf
  have HNow := Lib.hid (now_any w q m hr hw hW hm)
  have HS := Lib.hid hs
  have HP := Lib.hid hp
  have HL := Lib.hid hl
  clear h wf hr hw hW hm hs hp hl
  unfold ptrD at *
  go_enter Try.func19, Try.ntmps19
  go_wp2_with (first
    | (go_at_call 40; refine HNow.out.mono ?_; rintro e w1 ⟨rows, rfl, hnw⟩; have N1 := Lib.hid hnw; clear hnw)
    | ((with_reducible show wpList _ _ _ (⟨none, _, _, _, _, _⟩ :: _) _ _); (show wpList _ _ _ _ _ (w1.alloc (.cells (Array.replicate 16 (Value.slice none 0 0)) 42))); refine wpList_store_wholeD rfl 42 (.tmp 7) (.tmp 13) rfl w1.heap.size 42 (Array.replicate 16 (Value.slice none 0 0)) (rowsC rows).toArray rfl rfl (heap_alloc_new w1 _) (by rw [Array.size_replicate]; show 16 = (rowsC rows).length; rw [rowsC_len, N1.out.n]) (by show _ = some (rowsC rows).length; rw [rowsC_len, N1.out.n]; exact Try.rowsSize) (rowsC_one _) ?_; intro w2 h5 h6 h7; have B2 := Lib.hid h5; have K2 := Lib.hid h6; clear h5 h6 h7))
  have V2 : Below w.heap.size w w2 := by
    have hv := nxAlloc N1.out.v (.cells (Array.replicate 16 (Value.slice none 0 0)) 42)
    exact hv.trans (K2.out.below hv.size (fun j hj e => by have := N1.out.v.size; omega))
  have NA0 : Hid (NearAt w w2 w1.heap.size rows) := by
    refine ⟨B2.out, fun r hr => RowM.keep (RowM.keep (N1.out.o r hr) ((Keeps.refl (fun _ => False) w1).alloc _) (fun _ _ h => h)) K2.out (fun j hj e => ?_), V2⟩
    have h1 := RowM.lt (N1.out.o r hr) hj
    omega
  obtain ⟨lb, hlb⟩ : ∃ lb, w1.heap.size = lb := ⟨_, rfl⟩
  rw [hlb] at NA0 ⊢
  have HNl : Hid (∀ i, i < 16 → (rows.getD i noRow).l = rowD (doAll 0 (dataR m) (m.W.map PutR.d)) i) := fun i hi => by
    rw [← N1.out.l]
    unfold rowD
    rw [List.getD_eq_getElem?_getD, List.getD_eq_getElem?_getD, List.getElem?_map, List.getElem?_eq_getElem (by rw [N1.out.n]; exact hi)]
    rfl
  have HRn : Hid (rows.length = 16) := N1.out.n
  clear B2 K2 hlb V2
  go_loopw [8] (fun iv wr => ∃ i : Nat, i ≤ 16 ∧ iv = .int .i64 i ∧ Hid (NearAt w wr lb rows)) (fun iv _ => 16 - (intOf iv).toNat)
  case atStart => exact ⟨0, by omega, rfl, NA0.out⟩
  case round =>
    obtain ⟨i, hi, rfl, NA⟩ := hrel
    by_cases hlt : i < 16
    · have hin : (i : Int) < 16 := by omega
      have hwi : IntKind.i64.wrap ((i : Int) + 1) = (i : Int) + 1 := by rw [IntKind.wrap_i64]; omega
      have HD : Hid (DkOk wr g dm) := (DkTo.below H.out NA.out.v).ok
      have HRd : Hid (readD dm.d (i : Int) = (rowD dm.d.X (16 + i), 0)) := by
        show _ = _
        unfold readD mayD
        rw [decide_eq_true (by omega), decide_eq_true (by omega), Int.toNat_natCast]; rfl
      have HLt := Lib.hid hlt
      obtain ⟨R, hR⟩ : ∃ R, rows.getD i noRow = R := ⟨_, rfl⟩
      have HRR := Lib.hid hR
      have HRo : Hid (R.own wr) := NA.out.o R (by rw [← hR, List.getD_eq_getElem?_getD, List.getElem?_eq_getElem (by rw [HRn.out]; exact hlt)]; exact List.getElem_mem _)
      clear hR
      go_upto_region 6 with (first
        | (go_at_call 10; refine (readLog_any wr g dm HD.out HWf.out (i : Int)).mono ?_; rw [HRd.out]; unfold ReadPost; rintro e w7 ⟨⟨A7, c7, B⟩, rfl, hB, hro, -, hb7⟩; have RO := Lib.hid hro; have HBe : Hid (B = rowD dm.d.X (16 + i)) := hB; have V7 := Lib.hid hb7; (have hv7 : RowM.v ⟨A7, c7, B⟩ = .slice A7 B.length c7 := rfl); rw [hv7]; clear hv7 hro hB hb7))
      have BL : Hid (Blk w7 lb 42 (rowsC rows).toArray) := NA.out.b.below V7.out NA.out.b.lt
      have RO7 : Hid (R.own w7) := RowM.keep HRo.out (Keeps.of_below V7.out (fun _ => False)) (fun _ _ h => h)
      have cR : w7.cell? ⟨lb, i, none⟩ = some (.slice R.A R.l.length R.c) := (BL.out.cell i).trans (by rw [List.getElem?_toArray, rowsC_at (by rw [HRn.out]; exact hlt), HRR.out]; rfl)
      obtain ⟨N, hN⟩ : ∃ N, R.l = N := ⟨_, rfl⟩
      have HNe := Lib.hid hN
      rw [hN] at cR
      have CR := Lib.hid cR
      have HCi : Hid ((∀ i, i < 16 → NearOk (rowD dm.d.X (16 + i)) (rowD (doAll 0 (dataR m) (m.W.map PutR.d)) i) i rest) → NearOk B N i rest) := fun hC => by
        have h1 := hC i HLt.out
        rw [← HBe.out, ← HNl.out i HLt.out, HRR.out, HNe.out] at h1
        exact h1
      have VF : Hid (∀ n, Below w.heap.size w (w7.drewN n)) := fun n => nxDrN (nxTrD NA.out.v V7.out) n
      obtain ⟨hmB, hmC⟩ := RowM.len RO.out
      dsimp only at hmB hmC
      have HmB := Lib.hid hmB
      have HmC := Lib.hid hmC
      clear hmB hmC
      by_cases h1 : B.length < N.length
      · have h1' : (B.length : Int) < (N.length : Int) := by omega
        have d1 : decide ((B.length : Int) < (N.length : Int)) = true := decide_eq_true h1'
        refine wp_region_quiet_lit (by kernel_rfl) (by kernel_rfl) ?_
        repeat (go_big_quiet_step (fail))
        refine wpQuiet_nil ?_
        intro _ hw'
        obtain ⟨nq, rfl⟩ := hw'
        go_wp2
        go_ret
        exact NearPost.is false (fun hC => by obtain ⟨e, he, _⟩ := HCi.out hC; rw [he, List.length_append] at h1; omega) (VF.out nq)
      · have h1' : ¬ (B.length : Int) < (N.length : Int) := by omega
        have d1 : decide ((B.length : Int) < (N.length : Int)) = false := decide_eq_false h1'
        have hNB : N.length ≤ B.length := by omega
        have HNB := Lib.hid hNB
        obtain ⟨A1, hs1, hsl⟩ := low_sliceD (RowM.sees RO.out) HmB.out HmC.out N.length hNB
        dsimp only at hsl
        have q2 : ∀ n, (convert 23 9 (.slice R.A N.length R.c)).run Try.prog (w7.drewN n) = .ok (.string (Str N)) (w7.drewN n) := fun n => run_string_sees Try.underlying23 Try.underlying5 Try.underlying9 rfl (by have h := RowM.sees RO7.out; rw [HNe.out] at h; exact h)
        by_cases hpre : B.take N.length = N
        · have q1 : ∀ n, (convert 23 9 (.slice A1 N.length c7)).run Try.prog (w7.drewN n) = .ok (.string (Str N)) (w7.drewN n) := fun n => run_string_sees Try.underlying23 Try.underlying5 Try.underlying9 rfl (by rw [hpre] at hs1; exact hs1)
          have HPre := Lib.hid hpre
          clear hs1 hpre
          refine wp_region_quiet_lit (by kernel_rfl) (by kernel_rfl) ?_
          repeat (go_big_quiet_step (fail))
          refine wpQuiet_nil ?_
          intro _ hw'
          obtain ⟨nq, rfl⟩ := hw'
          go_upto_region 9 with fail
          obtain ⟨A9, hA9⟩ : ∃ A9, (if c7 = N.length then A7 else Option.map (fun x => x.add N.length) A7) = A9 := ⟨_, rfl⟩
          have S9 : Hid (Sees (w7.drewN nq) (w7.drewN nq).heap.size A9 (B.drop N.length)) := by
            show Sees _ _ _ _
            rw [← hA9]
            split
            · next hc => exact .inl (List.drop_eq_nil_of_le (by have := HmB.out; omega))
            · exact (RowM.sees RO.out).drop N.length
          rw [hA9]
          obtain ⟨ed, hed⟩ : ∃ e, B.drop N.length = e := ⟨_, rfl⟩
          have hedl : ed.length = B.length - N.length := by rw [← hed, List.length_drop]
          rw [← hedl]
          have HED := Lib.hid hed
          rw [hed] at S9
          obtain ⟨c9, hc9⟩ : ∃ c9, c7 - N.length = c9 := ⟨_, rfl⟩
          rw [hc9]
          have NA9 : Hid (∀ n, NearAt w ((w7.drewN nq).drewN n) lb rows) := fun n =>
            ⟨BL.out, fun r hr => (RowM.keep (NA.out.o r hr) (Keeps.of_below V7.out (fun _ => False)) (fun _ _ h => h) : RowM.own w7 r), nxDrN (VF.out nq) n⟩
          have VF8 : Hid (∀ n, Below w.heap.size w ((w7.drewN nq).drewN n)) := fun n => nxDrN (VF.out nq) n
          obtain ⟨w8, hw8⟩ : ∃ w8, w7.drewN nq = w8 := ⟨_, rfl⟩
          have HSr : Hid (SeesV w8 w8.heap.size RA (putsC rest)) := by
            show SeesV _ _ _ _
            rw [← hw8]
            exact (HS.out.later (VF.out nq)).more (VF.out nq).size
          have HPr : Hid (∀ p ∈ rest, p.row.own w8) := fun p hp => by
            rw [← hw8]
            exact RowM.keep (HP.out p hp) (Keeps.of_below (VF.out nq) (fun _ => False)) (fun _ _ h => h)
          rw [hw8] at S9 NA9 VF8 ⊢
          have HNok : Hid (NearOk B N i rest → (ed ≠ [] → ∃ p r, rest = p :: r ∧ p.cut = false ∧ p.log = i ∧ ed.length ≤ p.b.length ∧ ed = p.b.take ed.length)) := fun h => by have := h.drop; rw [HED.out] at this; exact this
          clear hA9 hed hedl hc9 hw8 q1 q2 hsl h1' d1 cR h1
          obtain ⟨el, hel⟩ : ∃ el, ed.length = el := ⟨_, rfl⟩
          have HEl := Lib.hid hel
          rw [hel]
          clear hel
          by_cases he0 : el = 0
          · subst he0
            refine wp_region_quiet_lit (by kernel_rfl) (by kernel_rfl) ?_
            repeat (go_big_quiet_step (fail))
            refine wpQuiet_nil ?_
            intro _ hw'
            obtain ⟨nr, rfl⟩ := hw'
            go_wp2
            go_roundw
            case rel => exact ⟨i + 1, by omega, by go_num, NA9.out nr⟩
            case measure => simp [intOf] <;> omega
          · have hed0 : ed ≠ [] := fun e => he0 (by rw [← HEl.out, e]; rfl)
            have HEd0 := Lib.hid hed0
            have hd2 : 0 < el := by omega
            have hd0 : (0 : Int) < (el : Int) := by omega
            clear he0 hed0
            cases hrest : rest with
            | nil =>
              have HNo : Hid (¬ NearOk B N i rest) := fun h => by obtain ⟨p, r, h2, _⟩ := HNok.out h HEd0.out; rw [hrest] at h2; cases h2
              have HRe := Lib.hid hrest
              refine wp_region_quiet_lit (by kernel_rfl) (by kernel_rfl) ?_
              repeat (go_big_quiet_step (fail))
              refine wpQuiet_nil ?_
              intro _ hw'
              obtain ⟨nr, rfl⟩ := hw'
              go_wp2
              go_ret
              exact NearPost.is false (fun hC => absurd (HCi.out hC) HNo.out) (VF8.out nr)
            | cons p r =>
              obtain ⟨rb, ro, hRA, hrb, hcell⟩ := SeesV.rowD (n := 4) HSr.out (by intro x hx; obtain ⟨y, _, rfl⟩ := List.mem_map.1 hx; rfl) (by omega) (by rw [hrest]; simp)
              have hc := hcell 0 (by rw [hrest]; simp)
              rw [List.getElem_map] at hc
              have hx0 : rest[0]'(by rw [hrest]; simp) = p := by simp [hrest]
              rw [hx0, Nat.zero_mul, Nat.add_zero] at hc
              have r0 : w8.cell? ⟨rb, ro, none⟩ = some (.int .i64 (p.log : Int)) := hc 0 _ rfl
              have r2 : w8.cell? ⟨rb, ro + 2, none⟩ = some (.bool p.cut) := hc 2 _ rfl
              have r3 : w8.cell? ⟨rb, ro + 3, none⟩ = some (.slice p.A p.b.length p.c) := hc 3 _ rfl
              have HPo : Hid (p.row.own w8) := HPr.out p (by rw [hrest]; exact List.mem_cons_self)
              have HNp : Hid (NearOk B N i rest → p.cut = false ∧ p.log = i ∧ el ≤ p.b.length ∧ ed = p.b.take el) := fun h => by
                obtain ⟨p', r', h2, h3, h4, h5, h6⟩ := HNok.out h HEd0.out
                rw [hrest] at h2
                injection h2 with h2 _
                subst h2
                rw [HEl.out] at h5 h6
                exact ⟨h3, h4, h5, h6⟩
              have HRe := Lib.hid hrest
              obtain ⟨rl, hrl⟩ : ∃ rl, (p :: r).length = rl := ⟨_, rfl⟩
              have hrl0 : 0 < rl := by rw [← hrl]; simp
              have HRl : Hid (rest.length = rl) := (by show _ = _; rw [hrest]; exact hrl)
              have HRA : Hid (RA = some ⟨rb, ro, none⟩) := hRA
              rw [hrl, hRA]
              have hrl1 : (0 : Int) < (rl : Int) := by omega
              have hrl2 : ((rl : Int) == 0) = false := beq_eq_false_iff_ne.2 (by omega)
              have hrl3 : ¬ (rl : Int) = 0 := by omega
              have hrl4 : ¬ rl = 0 := by omega
              clear hrl
              clear hcell hc hx0 hrb hrest
              cases hcut : p.cut with
              | true =>
                rw [hcut] at r2
                have HNo : Hid (¬ NearOk B N i rest) := fun h => by have := (HNp.out h).1; rw [hcut] at this; cases this
                clear hcut
                refine wp_region_quiet_lit (by kernel_rfl) (by kernel_rfl) ?_
                repeat (go_big_quiet_step (fail))
                refine wpQuiet_nil ?_
                intro _ hw'
                obtain ⟨nr, rfl⟩ := hw'
                go_wp2
                go_ret
                exact NearPost.is false (fun hC => absurd (HCi.out hC) HNo.out) (VF8.out nr)
              | false =>
                rw [hcut] at r2
                clear hcut
                by_cases hlog : p.log = i
                · rw [hlog] at r0
                  clear hlog
                  by_cases hel : p.b.length < el
                  · have HNo : Hid (¬ NearOk B N i rest) := fun h => by have := (HNp.out h).2.2.1; omega
                    have hel2 : (p.b.length : Int) < (el : Int) := by omega
                    have hel3 : decide ((p.b.length : Int) < (el : Int)) = true := decide_eq_true hel2
                    refine wp_region_quiet_lit (by kernel_rfl) (by kernel_rfl) ?_
                    repeat (go_big_quiet_step (fail))
                    refine wpQuiet_nil ?_
                    intro _ hw'
                    obtain ⟨nr, rfl⟩ := hw'
                    go_wp2
                    go_ret
                    exact NearPost.is false (fun hC => absurd (HCi.out hC) HNo.out) (VF8.out nr)
                  · have hel2 : ¬ (p.b.length : Int) < (el : Int) := by omega
                    have hel3 : decide ((p.b.length : Int) < (el : Int)) = false := decide_eq_false hel2
                    have hle : el ≤ p.b.length := by omega
                    have hpc := RowM.len HPo.out
                    obtain ⟨A2, hs2, hsl2⟩ := low_sliceD (RowM.sees HPo.out) hpc.1 hpc.2 el hle
                    dsimp only [PutR.row] at hsl2 hs2 hpc
                    have q1 : ∀ n, (convert 23 9 (.slice A9 el c9)).run Try.prog (w8.drewN n) = .ok (.string (Str ed)) (w8.drewN n) := fun n => run_string_sees Try.underlying23 Try.underlying5 Try.underlying9 HEl.out.symm S9.out
                    have q2 : ∀ n, (convert 23 9 (.slice A2 el p.c)).run Try.prog (w8.drewN n) = .ok (.string (Str (p.b.take el))) (w8.drewN n) := fun n => run_string_sees Try.underlying23 Try.underlying5 Try.underlying9 (by rw [List.length_take]; omega) hs2
                    obtain ⟨pt, hpt⟩ : ∃ pt, p.b.take el = pt := ⟨_, rfl⟩
                    rw [hpt] at q2
                    have HPt := Lib.hid hpt
                    have hc1 : el ≤ p.c := by omega
                    have HC1 := Lib.hid hc1
                    clear hs2 hpt hpc
                    by_cases heq : ed = pt
                    · have q3 : (ed == pt) = true := by rw [heq]; simp
                      clear heq
                      refine wp_region_quiet_lit (by kernel_rfl) (by kernel_rfl) ?_
                      repeat (go_big_quiet_step (fail))
                      refine wpQuiet_nil ?_
                      intro _ hw'
                      obtain ⟨nr, rfl⟩ := hw'
                      go_wp2
                      go_roundw
                      case rel =>
                        repeat apply Exists.intro
                        refine And.intro ?_ (by rw [HRA.out, HRl.out])
                        exact ⟨i + 1, by omega, by go_num, NA9.out nr⟩
                      case measure => simp [intOf] <;> omega
                    · have q3 : (ed == pt) = false := beq_eq_false_iff_ne.2 heq
                      have HNo : Hid (¬ NearOk B N i rest) := fun h => heq (by rw [← HPt.out]; exact (HNp.out h).2.2.2)
                      clear heq
                      refine wp_region_quiet_lit (by kernel_rfl) (by kernel_rfl) ?_
                      repeat (go_big_quiet_step (fail))
                      refine wpQuiet_nil ?_
                      intro _ hw'
                      obtain ⟨nr, rfl⟩ := hw'
                      go_wp2
                      go_ret
                      exact NearPost.is false (fun hC => absurd (HCi.out hC) HNo.out) (VF8.out nr)
                · have HNo : Hid (¬ NearOk B N i rest) := fun h => hlog (HNp.out h).2.1
                  have hlog2 : ¬ (p.log : Int) = (i : Int) := by omega
                  have hlog3 : ((p.log : Int) == (i : Int)) = false := beq_eq_false_iff_ne.2 hlog2
                  have hlog4 : (p.log == i) = false := beq_eq_false_iff_ne.2 hlog
                  have hlog5 : decide (p.log = i) = false := decide_eq_false hlog
                  have hlog6 : ((p.log : Int) != (i : Int)) = true := by simp [bne, hlog3]
                  refine wp_region_quiet_lit (by kernel_rfl) (by kernel_rfl) ?_
                  repeat (go_big_quiet_step (fail))
                  refine wpQuiet_nil ?_
                  intro _ hw'
                  obtain ⟨nr, rfl⟩ := hw'
                  go_wp2
                  go_ret
                  exact NearPost.is false (fun hC => absurd (HCi.out hC) HNo.out) (VF8.out nr)
        · have q1 : ∀ n, (convert 23 9 (.slice A1 N.length c7)).run Try.prog (w7.drewN n) = .ok (.string (Str (B.take N.length))) (w7.drewN n) := fun n => run_string_sees Try.underlying23 Try.underlying5 Try.underlying9 (by rw [List.length_take]; omega) hs1
          have hne4 : (B.take N.length == N) = false := beq_eq_false_iff_ne.2 hpre
          have HPre := Lib.hid hpre
          clear hs1 hpre
          refine wp_region_quiet_lit (by kernel_rfl) (by kernel_rfl) ?_
          repeat (go_big_quiet_step (fail))
          refine wpQuiet_nil ?_
          intro _ hw'
          obtain ⟨nq, rfl⟩ := hw'
          go_wp2
          go_ret
          exact NearPost.is false (fun hC => by obtain ⟨e, he, _⟩ := HCi.out hC; exact absurd (by rw [he]; exact List.take_left) HPre.out) (VF.out nq)
    · obtain rfl : i = 16 := by omega
      go_wp2
      go_ret
      exact NearPost.is true (fun _ => rfl) NA.out.v
end Go.Proofs.Ytiagefcjebnopaa
