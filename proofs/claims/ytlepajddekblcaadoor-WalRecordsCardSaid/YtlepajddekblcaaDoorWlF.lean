/-
  wal: WalRecords.
-/
import Derived.Test.YtlepajddekblcaaDoorWlA
import Derived.Test.YtlepajddekblcaaDoorWlE
import Derived.Deep.DeepCutAuto
import Derived.Deep.RegionHeldLaw
import Derived.OpenShut
namespace Go.Proofs.YtlepajddekblcaaDoor
open Go.RowKit

theorem WantW.later2 {w w' : World} {B : Nat} {A : Option Addr} {V : List RowM} (h : WantW w w.heap.size A V) (b : Below w.heap.size w w') : WantW w' w'.heap.size A V :=
  ⟨(h.s.below b).more b.size, fun r hr => ((h.r r hr).below b).more b.size⟩
theorem ScanPost.want {rows : List RowM} {A : Option Addr} {c B : Nat} {W : World} (h : W.ownsRow B 23 1 (.slice A rows.length c) rows.length (rowsC rows)) (h2 : ∀ r ∈ rows, r.own W ∧ ∀ j, r.bk = some j → B ≤ j) : WantW W W.heap.size A rows :=
  ⟨SeesV.own h, fun r hr => RowM.sees (h2 r hr).1⟩
theorem scanF_size : ∀ (f n : Nat) (b : List UInt8), sizeL (scanF f n b) ≤ b.length
  | 0, _, _ => Nat.zero_le _
  | f + 1, n, b => by
    unfold scanF
    cases h : stepR n b with
    | none => exact Nat.zero_le _
    | some p =>
      obtain ⟨x, q⟩ := p
      have h1 := (stepR_some h).2.2
      have h2 := scanF_size f (n + 1) q
      have e : sizeL (x :: scanF f (n + 1) q) = (20 + x.length) + sizeL (scanF f (n + 1) q) := by unfold sizeL; rw [List.map_cons, List.sum_cons]
      dsimp only
      rw [e]; omega
theorem scanB_size (b : List UInt8) : sizeL (scanB b) ≤ b.length := scanF_size _ _ _
theorem getElem_of_map {U V : List RowM} (h : U.map (·.l) = V.map (·.l)) {k : Nat} (hU : k < U.length) (hV : k < V.length) : U[k].l = V[k].l := by
  have : (U.map (·.l))[k]? = (V.map (·.l))[k]? := by rw [h]
  rw [List.getElem?_map, List.getElem?_map, List.getElem?_eq_getElem hU, List.getElem?_eq_getElem hV] at this
  injection this

set_option maxHeartbeats 8000000 in
set_option maxRecDepth 100000 in
theorem walRecords_any (w : World) (hT : Tabs w) (n : Int) (hn : (Lit.int .u64 n).wf = true) (A : Option Addr) (c : Nat) (x : List UInt8) (hS : Sees w w.heap.size A x) (hc : x.length ≤ c) (hm : c ≤ maxLen) (D : Option Addr) (d : Nat) (b : List UInt8) (hS2 : Sees w w.heap.size D b) (hc2 : b.length ≤ d) (hm2 : d ≤ maxLen) :
    Calls Tryd.prog 3 #[.int .u64 n, .slice A x.length c, .slice D b.length d] w fun e w' => e = .returned (.bool true) ∧ Below w.heap.size w w' := by
  have hnb := Go.bounds_u64 hn
  obtain ⟨N, rfl⟩ := Int.eq_ofNat_of_zero_le hnb.1
  have HNb : Hid (N < 18446744073709551616) := by show _ < _; omega
  have HT := Lib.hid hT
  have HX : Hid (Sees w w.heap.size A x) := hS
  have HXc := Lib.hid hc
  have HB : Hid (SeenW w w.heap.size D d b) := ⟨hS2, hc2, hm2⟩
  clear hn hnb hT hS hc hm hS2 hc2 hm2
  by_cases hx9 : (9000 : Int) < (x.length : Int)
  · go_enter Tryd.func3, Tryd.ntmps3
    go_wp2_with (first
      | (go_at_call 7; refine (wknown_any w HT.out).mono ?_; rintro e w0 ⟨rfl, hb0⟩; have V0 := Lib.hid hb0; clear hb0))
    go_ret
    exact ⟨rfl, V0.out⟩
  by_cases hb9 : (9000 : Int) < (b.length : Int)
  · go_enter Tryd.func3, Tryd.ntmps3
    go_wp2_with (first
      | (go_at_call 7; refine (wknown_any w HT.out).mono ?_; rintro e w0 ⟨rfl, hb0⟩; have V0 := Lib.hid hb0; clear hb0))
    go_ret
    exact ⟨rfl, V0.out⟩
  have HX9 : Hid (x.length ≤ 9000) := by show _ ≤ _; omega
  have HB9 : Hid (b.length ≤ 9000) := by show _ ≤ _; omega
  go_enter Tryd.func3, Tryd.ntmps3
  go_upto_region 5 with (first
    | (go_at_call 8; refine (scan_any w HT.out D d b HB.out.s HB.out.kc HB.out.m (by have := HB9.out; omega)).mono ?_; rintro e w1 ⟨rows, A1, c1, rfl, hl1, ho1, hr1, hb1⟩; have L1 := Lib.hid hl1; have W1 : Hid (WantW w1 w1.heap.size A1 rows) := ScanPost.want ho1 hr1; have V1 := Lib.hid hb1; clear hl1 ho1 hr1 hb1)
    | (go_at_call 9; refine (rscan_any w1 (HT.out.later V1.out) D d b ((HB.out.s.below V1.out).more V1.out.size) HB.out.kc HB.out.m (by have := HB9.out; omega)).mono ?_; rintro e w2 ⟨rows2, A2, c2, rfl, hl2, ho2, hr2, hb2⟩; have L2 := Lib.hid hl2; have W2 : Hid (WantW w2 w2.heap.size A2 rows2) := ScanPost.want ho2 hr2; have W12 : Hid (WantW w2 w2.heap.size A1 rows) := WantW.later2 (B := 0) W1.out hb2; have V2 : Hid (Below w.heap.size w w2) := nxTrD V1.out hb2; clear hl2 ho2 hr2 hb2))
  have HE : Hid (rows.map (·.l) = rows2.map (·.l)) := L1.out.trans L2.out.symm
  have hln : rows2.length = rows.length := by have := congrArg List.length HE.out; rw [List.length_map, List.length_map] at this; exact this.symm
  have HLn := Lib.hid hln
  rw [hln]
  clear hln W1 V1
  have HZs : Hid (sizeL (rows.map (·.l)) ≤ 100000) := by
    show _ ≤ _
    rw [L1.out]
    have := scanB_size b
    have := HB9.out
    omega
  obtain ⟨sz, hsz⟩ : ∃ sz : Nat, sizeL (scanB b) = sz := ⟨_, rfl⟩
  rw [hsz]
  clear hsz
  obtain ⟨R, hR⟩ : ∃ R, recB N x = R := ⟨_, rfl⟩
  have hxs : Sees w2.drew w2.drew.heap.size A x := ((HX.out.below V2.out).more V2.out.size)
  have hr1 := record_any w2.drew (HT.out.later (V2.out.drew : Below w.heap.size w w2.drew)) N HNb.out A c x hxs (by have := HX9.out; omega) HXc.out
  have HR2 : Hid (∀ w3, Below w2.drew.heap.size w2.drew w3 → Calls Tryd.prog 11 #[.int .u64 N, .slice A x.length c] w3 (OwnPost w3 R)) := fun w3 hb => by
    have := rrec_any w3 ((HT.out.later (V2.out.drew : Below w.heap.size w w2.drew)).later hb) N HNb.out A c x ((hxs.below hb).more hb.size) (by have := HX9.out; omega) HXc.out
    rw [hR] at this
    exact this
  rw [hR] at hr1
  unfold OwnPost at hr1
  have HR1 := Lib.hid hr1
  clear hr1 hR hxs
  go_cut [51] (fun v wx => v = .bool false ∧ Hid (Below w2.heap.size w2 wx))
  case first =>
    go_region_held_law (fun _ => True) (exact True.intro) (first
      | (go_at_call 10; refine HR1.out.mono ?_; rintro e w3 ⟨A3, c3, rfl, ho3, hb3⟩; have S3 : Hid (Sees w3 w3.heap.size A3 R) := Sees.own ho3; have B3 := Lib.hid hb3; (have q3 : (convert 23 9 (.slice A3 R.length c3)).run Tryd.prog w3 = .ok (.string (Str R)) w3 := run_string_sees Tryd.underlying23 Tryd.underlying5 Tryd.underlying9 rfl S3.out); clear ho3 hb3)
      | (go_at_call 11; refine (HR2.out w3 B3.out).mono ?_; unfold OwnPost; rintro e w4 ⟨A4, c4, rfl, ho4, hb4⟩; have S4 : Hid (Sees w4 w4.heap.size A4 R) := Sees.own ho4; have V4 : Hid (Below w2.heap.size w2 w4) := nxTrD (nxTrD (nxRefl w2).drew B3.out) hb4; (have q4 : (convert 23 9 (.slice A4 R.length c4)).run Tryd.prog w4 = .ok (.string (Str R)) w4 := run_string_sees Tryd.underlying23 Tryd.underlying5 Tryd.underlying9 rfl S4.out); (have q5 : (convert 23 9 (.slice A3 R.length c3)).run Tryd.prog w4 = .ok (.string (Str R)) w4 := run_string_sees Tryd.underlying23 Tryd.underlying5 Tryd.underlying9 rfl ((S3.out.below hb4).more hb4.size)); clear ho4 hb4))
    all_goals (go_wp2_with fail; go_meet; exact ⟨rfl, V4⟩)
  case rest =>
    obtain ⟨rfl, V5⟩ := hcut
    obtain ⟨w5, hw5⟩ : ∃ x, x = wc := ⟨_, rfl⟩
    rw [← hw5] at V5 ⊢
    clear hw5 HR1 HR2
    have X1 : Hid (WantW w5 w5.heap.size A1 rows) := WantW.later2 (B := 0) W12.out V5.out
    have X2 : Hid (WantW w5 w5.heap.size A2 rows2) := WantW.later2 (B := 0) W2.out V5.out
    have VW5 : Hid (Below w.heap.size w w5) := nxTrD V2.out V5.out
    clear V5 W12 W2
    go_wp2
    go_loopw [11] (fun iv wr => ∃ i : Nat, iv = .int .i64 i ∧ Hid (i ≤ rows.length) ∧ Hid (Below w5.heap.size w5 wr)) (fun iv _ => rows.length - (intOf iv).toNat)
    case atStart => exact ⟨0, rfl, Nat.zero_le _, nxRefl _⟩
    case round =>
      obtain ⟨i, rfl, HI, VR⟩ := hrel
      have HTr : Hid (Tabs wr) := HT.out.later (nxTrD VW5.out VR.out)
      by_cases hlt : i < rows.length
      · have hlt2 : i < rows2.length := by have := HLn.out; omega
        have hin : (i : Int) < (rows.length : Int) := by omega
        have Y1 := X1.out.below VR.out
        have Y2 := X2.out.below VR.out
        obtain ⟨b1, o1, hA1, hb1, k1⟩ := Y1.s.at_ (k := i) (by rw [rowsC_len]; exact hlt)
        obtain ⟨b2, o2, hA2, hb2, k2⟩ := Y2.s.at_ (k := i) (by rw [rowsC_len]; exact hlt2)
        obtain ⟨y1, hy1⟩ : ∃ y, rows[i]'hlt = y := ⟨_, rfl⟩
        obtain ⟨y2, hy2⟩ : ∃ y, rows2[i]'hlt2 = y := ⟨_, rfl⟩
        have hyl : y2.l = y1.l := by rw [← hy1, ← hy2]; exact (getElem_of_map HE.out hlt hlt2).symm
        have d1 : wr.cell? ⟨b1, o1 + i, none⟩ = some (.slice y1.A y1.l.length y1.c) := by
          rw [k1 i (by rw [rowsC_len]; exact hlt)]
          unfold rowsC
          rw [List.getElem_map, hy1]; rfl
        have d2 : wr.cell? ⟨b2, o2 + i, none⟩ = some (.slice y2.A y1.l.length y2.c) := by
          rw [k2 i (by rw [rowsC_len]; exact hlt2)]
          unfold rowsC
          rw [List.getElem_map, hy2, ← hyl]; rfl
        have s1 := Y1.r y1 (by rw [← hy1]; exact List.getElem_mem hlt)
        have s2 := Y2.r y2 (by rw [← hy2]; exact List.getElem_mem hlt2)
        rw [hyl] at s2
        have q1 : ∀ k, (convert 23 9 (.slice y1.A y1.l.length y1.c)).run Tryd.prog (wr.drewN k) = .ok (.string (Str y1.l)) (wr.drewN k) := fun k => run_string_sees Tryd.underlying23 Tryd.underlying5 Tryd.underlying9 rfl s1
        have q2 : ∀ k, (convert 23 9 (.slice y2.A y1.l.length y2.c)).run Tryd.prog (wr.drewN k) = .ok (.string (Str y1.l)) (wr.drewN k) := fun k => run_string_sees Tryd.underlying23 Tryd.underlying5 Tryd.underlying9 rfl s2
        have HLt := Lib.hid hlt
        have hw1 : IntKind.i64.wrap ((i : Int) + 1) = (i : Int) + 1 := by rw [IntKind.wrap_i64]; have := HLn.out; have := sizeL_len (rows.map (·.l)); have h3 := HZs.out; rw [List.length_map] at this; omega
        clear Y1 Y2 hb1 hb2 k1 k2 hy1 hy2 hyl s1 s2 hlt hlt2
        rw [hA1, hA2]
        go_upto_region 10 with fail
        go_cut [68] (fun v wx => v = .bool false ∧ Hid (∃ k, wx = wr.drewN k))
        case first =>
          go_quiet (fail)
          go_wp2
          go_meet
          case rel => exact ⟨rfl, nq, rfl⟩
        case rest =>
          obtain ⟨rfl, HD⟩ := hcut
          have VD : Hid (Below w5.heap.size w5 wc) := by
            obtain ⟨k, hk⟩ := HD.out
            show Below _ _ _
            rw [hk]
            exact nxTrD VR.out (nxDrE (nxRefl wr) k)
          clear HD
          go_wp2
          go_roundw
          case rel => exact ⟨i + 1, congrArg (Value.int .i64) (by omega), HLt.out, VD⟩
          case measure => (have hq1 := HLt.out; simp [intOf] <;> omega)
      · have hin : ¬ (i : Int) < (rows.length : Int) := by omega
        go_wp2_with (first
          | (go_at_call 7; refine (wknown_any wr HTr.out).mono ?_; rintro e w0 ⟨rfl, hb0⟩; have V0 := Lib.hid hb0; clear hb0))
        go_ret
        exact ⟨rfl, nxTrD (nxTrD VW5.out VR.out) V0.out⟩
end Go.Proofs.YtlepajddekblcaaDoor
