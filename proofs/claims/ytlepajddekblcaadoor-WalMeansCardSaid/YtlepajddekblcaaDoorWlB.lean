/-
  wal: WalMeans.
-/
import Derived.Test.YtlepajddekblcaaDoorWlA
import Derived.Deep.CutBlock
import Derived.Deep.DeepCutAuto
namespace Go.Proofs.YtlepajddekblcaaDoor
open Go.RowKit

/-- Batches that are handed in. -/
structure ArgW (w : World) (A : Option Addr) (c : Nat) (V : List RowM) : Prop where
  s : WantW w w.heap.size A V
  kc : V.length ≤ c
  m : c ≤ maxLen
  rc : ∀ r ∈ V, r.l.length ≤ r.c ∧ r.c ≤ maxLen
theorem WantW.later {w w' : World} {A : Option Addr} {V : List RowM} (h : WantW w w.heap.size A V) (b : Below w.heap.size w w') : WantW w' w.heap.size A V := h.below b
theorem low_sliceV {w : World} {B : Nat} {A : Option Addr} {c : Nat} {V : List RowM} (h : WantW w B A V) (hc : V.length ≤ c) (hm : c ≤ maxLen) (k : Nat) (hk : k ≤ V.length) :
    ∃ A1, WantW w B A1 (V.take k) ∧ ∀ wq, (Instr.slice 25 (.slice A V.length c) none (some (.int .i64 (k : Int))) none).run Tryd.prog wq = .ok (.slice A1 k c) wq := by
  obtain ⟨i0, hi, _, hz1, _⟩ := infoD Tryd.slInfo
  unfold maxLen at hm
  have ht : rowsC (V.take k) = (rowsC V).take k := by unfold rowsC; rw [List.map_take]
  refine ⟨if c = 0 then A else A.map (·.add (0 * 1)), ⟨?_, fun r hr => h.r r (List.mem_of_mem_take hr)⟩, fun wq => ?_⟩
  · rw [ht]
    split
    · exact h.s.take _
    · have := (h.s.drop 0).take k
      simpa using this
  · simp [Instr.slice, run_underlying Tryd.underlying25, Instr.sliceBounds, run_sliceBound wq .i64 (k : Int) c _ (by omega) (by omega), sizeOf, typeInfo, hi, hz1]
/-- What is left behind the puts. -/
structure EndW (W0 w : World) (d : Nat) (dm : DkM) (L : List (List UInt8)) (k : Nat) : Prop where
  d : DiskW W0 w d dm
  st : StW dm.d 0 (recsF 1 (L.take k)) [] ∨ (∃ h : k < L.length, StW dm.d 0 (recsF 1 (L.take k)) [.put 0 (recB ((L.take k).length + 1) L[k])])
/-- What is left behind a loss of power. -/
structure UpW (W0 w : World) (d : Nat) (dm : DkM) (L : List (List UInt8)) (k k' : Nat) (t : List UInt8) : Prop where
  d : DiskW W0 w d dm
  kk : k' = k ∨ (k' = k + 1 ∧ k < L.length)
  st : StW dm.d 0 (recsF 1 (L.take k') ++ t) []
  tt : stepR ((L.take k').length + 1) t = none
  dd : dm.d.dead = false
  f : dm.d.fuse = -1
theorem EndW.len {W0 w : World} {d k : Nat} {dm : DkM} {L : List (List UInt8)} (h : EndW W0 w d dm L k) : dm.W.length ≤ 1 := by
  rw [DkM.wlen]
  rcases h.st with h | ⟨_, h⟩ <;> rw [h.w] <;> (first | exact Nat.zero_le _ | exact Nat.le_refl _)
theorem EndW.up {W0 w w' : World} {d k : Nat} {dm dm' : DkM} {L : List (List UInt8)} (h : EndW W0 w d dm L k) (hL : ∀ x ∈ L, x.length ≤ 4194304) (t : DkTo w d dm w' dm') (keep tear : Int) (hd : dm'.d = crashD dm.d keep tear) : ∃ k' s, UpW W0 w' d dm' L k k' s := by
  have hD : DiskW W0 w' d dm' := h.d.to t (by rw [hd]; exact crashD_wf h.d.wf _ _)
  rcases h.st with hs | ⟨hk, hs⟩
  · obtain ⟨a, b, c⟩ := hs.crash0 keep tear
    exact ⟨k, [], hD, .inl rfl, by rw [hd, List.append_nil]; exact c, rfl, by rw [hd]; exact a, by rw [hd]; exact b⟩
  · obtain ⟨a, b, j, hj, c⟩ := hs.crashPut keep tear
    have hlk : (L.take k).length = k := by rw [List.length_take]; omega
    by_cases hje : j = (recB ((L.take k).length + 1) L[k]).length
    · refine ⟨k + 1, [], hD, .inr ⟨rfl, hk⟩, ?_, rfl, by rw [hd]; exact a, by rw [hd]; exact b⟩
      rw [hd, List.append_nil, List.take_succ_eq_append_getElem hk, recsF_snoc, Nat.add_comm 1]
      rw [hje, List.take_length] at c
      exact c
    · exact ⟨k, _, hD, .inl rfl, by rw [hd]; exact c, stepR_torn _ _ (hL _ (List.getElem_mem hk)) j (by omega), by rw [hd]; exact a, by rw [hd]; exact b⟩
theorem fuseD_ok (D : DkD) (n : Int) (h : 0 ≤ n) : fuseD D n = ({ D with fuse := n }, 0) := by unfold fuseD; rw [decide_eq_false (by omega)]; rfl
theorem StW.fuse {D : DkD} {i : Nat} {t : List UInt8} {V : List StD} (h : StW D i t V) (n : Int) (h0 : 0 ≤ n) (hn : n < 9223372036854775808) : StW { D with fuse := n } i t V := by
  have := fuseD_wf h.wf n hn
  rw [fuseD_ok D n h0] at this
  exact ⟨this, h.il, h.r, h.w⟩
/-- Again: the fuse, an opening, a loss of power. -/
theorem UpW.again {W0 w w' : World} {d k k' : Nat} {dm dm' : DkM} {L : List (List UInt8)} {t : List UInt8} (h : UpW W0 w d dm L k k' t) (hD : DiskW W0 w' d dm') (keep tear : Int) (E : DkD) (hd : dm'.d = crashD E keep tear)
    (hE : StW E 0 (recsF 1 (L.take k')) [] ∨ StW E 0 (recsF 1 (L.take k') ++ t) [] ∨ StW E 0 (recsF 1 (L.take k') ++ t) [.cut 0 (recsF 1 (L.take k')).length]) : ∃ s, UpW W0 w' d dm' L k k' s := by
  rcases hE with hs | hs | hs
  · obtain ⟨a, b, c⟩ := hs.crash0 keep tear
    exact ⟨[], hD, h.kk, by rw [hd, List.append_nil]; exact c, rfl, by rw [hd]; exact a, by rw [hd]; exact b⟩
  · obtain ⟨a, b, c⟩ := hs.crash0 keep tear
    exact ⟨t, hD, h.kk, by rw [hd]; exact c, h.tt, by rw [hd]; exact a, by rw [hd]; exact b⟩
  · obtain ⟨a, b, c⟩ := hs.crashCut keep tear
    rcases c with c | c
    · exact ⟨t, hD, h.kk, by rw [hd]; exact c, h.tt, by rw [hd]; exact a, by rw [hd]; exact b⟩
    · rw [List.take_left] at c
      exact ⟨[], hD, h.kk, by rw [hd, List.append_nil]; exact c, rfl, by rw [hd]; exact a, by rw [hd]; exact b⟩
theorem take_ne {L : List (List UInt8)} {k : Nat} (hk : k < L.length) : decide (L.take (k + 1) = L.take k) = false := by
  refine decide_eq_false (fun h => ?_)
  have := congrArg List.length h
  rw [List.length_take, List.length_take] at this
  omega
theorem WantW.more {w : World} {B B' : Nat} {A : Option Addr} {V : List RowM} (h : WantW w B A V) (hB : B ≤ B') : WantW w B' A V := ⟨h.s.more hB, fun r hr => (h.r r hr).more hB⟩
theorem sizeL_take (L : List (List UInt8)) (k : Nat) : sizeL (L.take k) ≤ sizeL L := by
  induction L generalizing k with
  | nil => simp
  | cons x L ih =>
    cases k with
    | zero => exact Nat.zero_le _
    | succ k =>
      have e : ∀ M, sizeL (x :: M) = (20 + x.length) + sizeL M := fun M => by unfold sizeL; rw [List.map_cons, List.sum_cons]
      rw [List.take_succ_cons, e, e]
      have := ih k
      omega
theorem same_law {w : World} {d q i : Nat} {dm : DkM} {m : WlM} {K : List (List UInt8)} {W0 : World} (h : AliveW W0 w d dm q m i K) (hK : ∀ x ∈ K, x.length ≤ 9000) (hKn : K.length ≤ 1000) (A : Option Addr) (c : Nat) (V : List RowM) (hV : WantW w w.heap.size A V) (hVn : V.length ≤ 1000) (z : Bool) (hz : decide (K = V.map (·.l)) = z) :
    Calls Tryd.prog 22 #[.pointer (some ⟨q, 0, none⟩), .slice A V.length c, .int .i64 0] w fun e w' => e = .returned (.bool z) ∧ Below w.heap.size w w' := by
  have hr := h.rows
  have h1 := wsame_any w q d m h.l.p.l (fun r hr2 => by
    have h2 : r.l ∈ m.rows.map (·.l) := List.mem_map.2 ⟨r, hr2, rfl⟩
    rw [hr] at h2
    have := hK _ h2
    omega) (by have := congrArg List.length hr; rw [List.length_map] at this; omega) A c V hV (by omega) 0
  rw [hr, sameB_eq, hz] at h1
  exact h1
def capS (V : List RowM) (i : Nat) : Nat := ((V.take i).map fun r => min r.l.length 9001).sum
theorem capS_succ {V : List RowM} {i : Nat} (h : i < V.length) : capS V (i + 1) = capS V i + min V[i].l.length 9001 := by
  unfold capS
  rw [List.take_succ_eq_append_getElem h, List.map_append, List.sum_append]
  simp
theorem capS_le (V : List RowM) (i : Nat) : capS V i ≤ i * 9001 := by
  induction i with
  | zero => simp [capS]
  | succ i ih =>
    by_cases h : i < V.length
    · rw [capS_succ h]; omega
    · have e : capS V (i + 1) = capS V i := by unfold capS; rw [List.take_of_length_le (by omega), List.take_of_length_le (by omega)]
      omega
theorem capS_all (V : List RowM) (h : capS V V.length ≤ 9000) : sizeL (V.map (·.l)) ≤ 20 * V.length + 9000 ∧ ∀ r ∈ V, r.l.length ≤ 9000 := by
  unfold capS at h
  rw [List.take_length] at h
  have key : ∀ V : List RowM, (V.map fun r => min r.l.length 9001).sum ≤ 9000 → sizeL (V.map (·.l)) ≤ 20 * V.length + (V.map fun r => min r.l.length 9001).sum ∧ ∀ r ∈ V, r.l.length ≤ 9000 := by
    intro V
    induction V with
    | nil => intro _; exact ⟨Nat.le_refl _, fun r hr => by cases hr⟩
    | cons a V ih =>
      intro h
      rw [List.map_cons, List.sum_cons] at h
      obtain ⟨h1, h2⟩ := ih (by omega)
      have e : sizeL ((a :: V).map (·.l)) = (20 + a.l.length) + sizeL (V.map (·.l)) := by unfold sizeL; rw [List.map_cons, List.map_cons, List.sum_cons]
      refine ⟨?_, fun r hr => ?_⟩
      · rw [e, List.map_cons, List.sum_cons, List.length_cons]; omega
      · rcases List.mem_cons.1 hr with rfl | hr
        · omega
        · exact h2 r hr
  obtain ⟨h1, h2⟩ := key V h
  exact ⟨by omega, h2⟩

set_option maxHeartbeats 8000000 in
set_option maxRecDepth 100000 in
theorem walMeans_any (w : World) (hT : Tabs w) (A : Option Addr) (c : Nat) (V : List RowM) (hV : ArgW w A c V) (fuse keep tear again torn : Int) (hf : fuse < 9223372036854775808) :
    Calls Tryd.prog 5 #[.slice A V.length c, .int .i64 fuse, .int .i64 keep, .int .i64 tear, .int .i64 again, .int .i64 torn] w fun e w' => e = .returned (.bool true) ∧ Below w.heap.size w w' := by
  have HT := Lib.hid hT
  have HV := Lib.hid hV
  have HF := Lib.hid hf
  have hV63 : V.length ≤ 9223372036854775807 := by have h1 := hV.kc; have h2 := hV.m; unfold maxLen at h2; omega
  clear hT hV hf
  go_enter Tryd.func5, Tryd.ntmps5
  go_upto_region 5 with (first
    | (go_at_call 7; refine (wknown_any w HT.out).mono ?_; rintro e w0 ⟨rfl, hb0⟩; have V0 := Lib.hid hb0; clear hb0))
  have KN : ∀ (e : Ending) (wk : World), (e = .returned (.bool true) ∧ Below w0.heap.size w0 wk) → (e = .returned (.bool true) ∧ Below w.heap.size w wk) := fun e wk h => ⟨h.1, nxTrD V0.out h.2⟩
  have HT0 : Hid (Tabs w0) := HT.out.later V0.out
  have HS0 : Hid (WantW w0 w.heap.size A V) := HV.out.s.below V0.out
  have HB0 : Hid (w.heap.size ≤ w0.heap.size) := V0.out.size
  go_loopw [13, 14] (fun nv iv wr => ∃ i n : Nat, i ≤ V.length ∧ i ≤ 21 ∧ nv = .int .i64 n ∧ iv = .int .i64 i ∧ Hid (n = capS V i) ∧ wr = w0) (fun _ iv _ => V.length - (intOf iv).toNat)
  case atStart => exact ⟨0, 0, Nat.zero_le _, by omega, rfl, rfl, rfl, rfl⟩
  case round =>
    obtain ⟨i, n, hi, hi21, rfl, rfl, HC, rfl⟩ := hrel
    by_cases hlt : i < V.length ∧ i ≤ 20
    · have hin : (i : Int) < (V.length : Int) := by omega
      have hi20 : (i : Int) ≤ 20 := by omega
      obtain ⟨b, off, hAe, hb, hcs⟩ := HS0.out.s.at_ (k := i) (by rw [rowsC_len]; exact hlt.1)
      obtain ⟨y, hy⟩ : ∃ y, V[i]'hlt.1 = y := ⟨_, rfl⟩
      have cv : wr.cell? ⟨b, off + i, none⟩ = some (.slice y.A y.l.length y.c) := by
        rw [hcs i (by rw [rowsC_len]; exact hlt.1)]
        unfold rowsC
        rw [List.getElem_map, hy]; rfl
      have hcap := capS_succ hlt.1
      rw [hy] at hcap
      have hle := capS_le V i
      obtain ⟨mn, hmn⟩ : ∃ mn, min y.l.length 9001 = mn := ⟨_, rfl⟩
      rw [hmn] at hcap
      have hmn9 : mn ≤ 9001 := by omega
      have HCn : Hid (n + mn = capS V (i + 1)) := by show _ = _; rw [hcap, HC.out]
      have hn9 : n ≤ 200000 := by have := HC.out; omega
      have hmi : (if (9001 : Int) < (y.l.length : Int) then (9001 : Int) else (y.l.length : Int)) = (mn : Int) := by split <;> omega
      have hw1 : IntKind.i64.wrap ((n : Int) + (mn : Int)) = ((n + mn : Nat) : Int) := by rw [IntKind.wrap_i64]; omega
      have hw2 : IntKind.i64.wrap ((i : Int) + 1) = ((i + 1 : Nat) : Int) := by rw [IntKind.wrap_i64]; omega
      have Hlt := Lib.hid hlt
      clear hcs hy hcap hle hmn hlt
      rw [hAe]
      go_wp2
      go_roundw
      case rel => exact ⟨i + 1, n + mn, by have := Hlt.out; omega, by have := Hlt.out; omega, rfl, rfl, HCn.out, trivial⟩
      case measure => simp [intOf] <;> omega
    · by_cases hin : i < V.length
      · have hin2 : (i : Int) < (V.length : Int) := by omega
        have hi20 : ¬ (i : Int) ≤ 20 := by omega
        have hbig : (20 : Int) < (V.length : Int) := by omega
        clear hlt hin
        go_wp2
        go_ret
        exact KN _ _ ⟨rfl, nxRefl _⟩
      obtain rfl : i = V.length := by omega
      clear hlt hin
      by_cases hb20 : (20 : Int) < (V.length : Int)
      · go_wp2
        go_ret
        exact KN _ _ ⟨rfl, nxRefl _⟩
      by_cases hn9 : (9000 : Int) < (n : Int)
      · go_wp2
        go_ret
        exact KN _ _ ⟨rfl, nxRefl _⟩
      by_cases hf0 : fuse < 0
      · go_wp2
        go_ret
        exact KN _ _ ⟨rfl, nxRefl _⟩
      obtain ⟨w0, hw0⟩ : ∃ x : World, x = wr := ⟨_, rfl⟩
      rw [← hw0] at KN HT0 HS0 HB0 V0 ⊢
      clear hw0
      have HF0 : Hid (0 ≤ fuse) := by show _ ≤ _; omega
      obtain ⟨hcz, hcl⟩ := capS_all V (by rw [← HC.out]; omega)
      obtain ⟨L, hL⟩ : ∃ L, V.map (·.l) = L := ⟨_, rfl⟩
      have HL := Lib.hid hL
      have HLn : Hid (L.length ≤ 20) := by show _ ≤ _; rw [← hL, List.length_map]; omega
      have HLb : Hid (∀ x ∈ L, x.length ≤ 9000) := fun x hx => by
        rw [← HL.out] at hx
        obtain ⟨r, hr, rfl⟩ := List.mem_map.1 hx
        exact hcl r hr
      have HLz : Hid (sizeL L ≤ 10000) := by show _ ≤ _; rw [← hL]; omega
      have HVl := Lib.hid hcl
      clear hcz hcl hL HC
      go_upto_block 2 with (first
        | (go_at_call 13; refine (newDisk_law w0).mono ?_; rintro e w1 ⟨d, rfl, hd⟩; have D1 := Lib.hid hd; clear hd)
        | (go_at_call 15; refine (open_law w0 w1 (HT0.out.later D1.out.v) d newM D1.out 0 [] [] (by rw [newM_d]; exact newD_st (by omega)) (by rw [newM_d]; rfl) (fun x hx => by cases hx) rfl).mono ?_; rintro e w2 ⟨dm2, -, hv2, h2⟩; obtain ⟨q, m2, he2, ha2⟩ : ∃ q m2, e = .returned (.tuple #[.pointer (some ⟨q, 0, none⟩), .int .i64 0]) ∧ AliveW w0 w2 d dm2 q m2 0 [] := (h2.elim (fun ⟨q, m2, h1, h2, _⟩ => ⟨q, m2, h1, h2⟩) (fun ⟨n, _, _, hf, _⟩ => absurd (by rw [newM_d]; rfl) hf)); subst he2; have AL2 := Lib.hid ha2; clear hv2 h2 ha2; (have hsf := setFuse_any w2 d dm2 AL2.out.l.p.k fuse); rw [fuseD_ok _ _ HF0.out] at hsf; unfold DkPost ptrD at hsf; have HSf2 := Lib.hid hsf; clear hsf)
        | (go_at_call 17; refine (num_any _ _).mono ?_; rintro e wn ⟨rfl, hwn⟩; obtain rfl := hwn.symm)
        | (go_at_call 23; refine HSf2.out.mono ?_; rintro e w3 ⟨rfl, dm3, ht3, hd3⟩; have AL3 : Hid (AliveW w0 w3 d dm3 q m2 0 []) := (have hst := AL2.out.st.fuse fuse HF0.out HF.out; ⟨AL2.out.l.to (WlTo.disk AL2.out.l.p ht3 (by rw [hd3]; exact hst.wf)), by rw [hd3]; exact hst, by rw [hd3]; exact AL2.out.dd, AL2.out.md⟩); clear ht3 hd3))
      clear HSf2 AL2 D1
      go_cut [18] (fun kv wx => ∃ (k : Nat) (dm : DkM), kv = .int .i64 k ∧ Hid (k ≤ V.length) ∧ Hid (EndW w0 wx d dm L k))
      case rest =>
        obtain ⟨k, dmZ, rfl, HKk, HE⟩ := hcut
        obtain ⟨wZ, hwZ⟩ : ∃ x, x = wc := ⟨_, rfl⟩
        rw [← hwZ] at HE ⊢
        clear hwZ AL3
        go_upto_if 93 with (first
          | (go_at_call 25; refine (crash_any wZ d dmZ HE.out.d.k HE.out.d.wf (by have := HE.out.len; omega) keep tear).mono ?_; unfold CrPost; rintro e w6 ⟨rfl, dm6, ht6, hd6⟩; obtain ⟨k', t6, hu6⟩ := HE.out.up (fun x hx => by have := HLb.out x hx; omega) ht6 keep tear hd6; have HU6 := Lib.hid hu6; clear ht6 hd6 hu6))
        go_cut [] (fun wx => ∃ (dm : DkM) (t : List UInt8), Hid (UpW w0 wx d dm L k k' t))
        case rest =>
          obtain ⟨dmU, tU, HUU⟩ := hcut
          obtain ⟨wU, hwU⟩ : ∃ x, x = wc := ⟨_, rfl⟩
          rw [← hwU] at HUU ⊢
          clear hwU HE HU6
          go_upto_region 23 with (first
            | (go_at_call 15; refine (open_law w0 wU (HT0.out.later HUU.out.d.v) d _ HUU.out.d 0 (L.take k') _ HUU.out.st HUU.out.dd (fun x hx => by have := HLb.out x (List.mem_of_mem_take hx); omega) HUU.out.tt).mono ?_; rintro e wv ⟨dmv, -, hvv, hv⟩; obtain ⟨y, my, hey, hay⟩ : ∃ y my, e = .returned (.tuple #[.pointer (some ⟨y, 0, none⟩), .int .i64 0]) ∧ AliveW w0 wv d dmv y my 0 (L.take k') := (hv.elim (fun ⟨y, my, h1, h2, _⟩ => ⟨y, my, h1, h2⟩) (fun ⟨n, _, _, hf, _⟩ => absurd HUU.out.f hf)); subst hey; have ALv := Lib.hid hay; clear hvv hv hay))
          have HDd : Hid (my.dead = false) := congrArg LgD.dead ALv.out.md
          have HSv : Hid (WantW wv w.heap.size A V) := HS0.out.below (ALv.out.l.v.mono HB0.out)
          have HBv : Hid (w.heap.size ≤ wv.heap.size) := Nat.le_trans HB0.out ALv.out.l.v.size
          have HKv : Hid (∀ x ∈ L.take k', x.length ≤ 9000) := fun x hx => HLb.out x (List.mem_of_mem_take hx)
          have HKn : Hid ((L.take k').length ≤ 1000) := by show _ ≤ _; rw [List.length_take]; have := HLn.out; omega
          obtain ⟨A1, hW1, hsl1⟩ := low_sliceV HSv.out HV.out.kc HV.out.m k HKk.out
          have e1 : (V.take k).map (·.l) = L.take k := by rw [List.map_take, HL.out]
          have el1 : (V.take k).length = k := by rw [List.length_take]; have := HKk.out; omega
          have q1 := hsl1
          rcases HUU.out.kk with hkk | ⟨hkk, hkn⟩
          · have hs1 := same_law ALv.out HKv.out HKn.out A1 c (V.take k) (hW1.more HBv.out) (by rw [el1]; have := HKk.out; omega) true (by rw [e1, hkk]; exact decide_eq_true rfl)
            rw [el1] at hs1
            have HS1 := Lib.hid hs1
            clear hs1 hW1 hsl1 e1 el1 hkk
            go_wp2_with (first
              | (go_at_call 17; refine (num_any _ _).mono ?_; rintro e wn ⟨rfl, hwn⟩; obtain rfl := hwn.symm)
              | (go_at_call 21; refine (wdead_any wv y d my ALv.out.l.p.l).mono ?_; rw [HDd.out]; rintro e wn ⟨rfl, hwn⟩; obtain rfl := hwn.symm)
              | (go_at_call 22; refine HS1.out.mono ?_; rintro e wx ⟨rfl, hbx⟩; have VX := Lib.hid hbx; clear hbx))
            go_ret
            exact KN _ _ ⟨rfl, nxTrD ALv.out.l.v VX.out⟩
          · have hkV : k < V.length := by have h1 := congrArg List.length HL.out; rw [List.length_map] at h1; omega
            have hkV2 : (k : Int) < (V.length : Int) := by omega
            have hs1 := same_law ALv.out HKv.out HKn.out A1 c (V.take k) (hW1.more HBv.out) (by rw [el1]; have := HKk.out; omega) false (by rw [e1, hkk]; exact take_ne hkn)
            rw [el1] at hs1
            have HS1 := Lib.hid hs1
            obtain ⟨A2, hW2, hsl2⟩ := low_sliceV HSv.out HV.out.kc HV.out.m (k + 1) hkV
            have HW2 := Lib.hid hW2
            have hk1 : IntKind.i64.wrap ((k : Int) + 1) = (k : Int) + 1 := by rw [IntKind.wrap_i64]; omega
            have q2 := hsl2
            rw [show ((k + 1 : Nat) : Int) = (k : Int) + 1 by omega] at q2
            have HE2 : Hid ((V.take (k + 1)).map (·.l) = L.take k') := by show _ = _; rw [List.map_take, HL.out, hkk]
            have HEl2 : Hid ((V.take (k + 1)).length = k + 1) := by show _ = _; rw [List.length_take]; omega
            have HS2 : Hid (∀ wx, Below wv.heap.size wv wx → Calls Tryd.prog 22 #[.pointer (some ⟨y, 0, none⟩), .slice A2 (k + 1) c, .int .i64 0] wx fun e w' => e = .returned (.bool true) ∧ Below wx.heap.size wx w') := fun wx hb => by
              have h3 := same_law (ALv.out.below hb) HKv.out HKn.out A2 c (V.take (k + 1)) ((HW2.out.below (hb.mono HBv.out)).more (Nat.le_trans HBv.out hb.size)) (by rw [HEl2.out]; omega) true (by rw [HE2.out]; exact decide_eq_true rfl)
              rw [HEl2.out] at h3
              exact h3
            clear hs1 hW1 hsl1 hW2 hsl2 e1 el1 hkk hkn
            go_wp2_with (first
              | (go_at_call 17; refine (num_any _ _).mono ?_; rintro e wn ⟨rfl, hwn⟩; obtain rfl := hwn.symm)
              | (go_at_call 21; refine (wdead_any wv y d my ALv.out.l.p.l).mono ?_; rw [HDd.out]; rintro e wn ⟨rfl, hwn⟩; obtain rfl := hwn.symm)
              | (go_at_call 22; (with_reducible show Calls _ _ _ wv _); refine HS1.out.mono ?_; rintro e wx ⟨rfl, hbx⟩; have VX := Lib.hid hbx; clear hbx)
              | (go_at_call 22; (with_reducible show Calls _ _ _ wx _); refine (HS2.out wx VX.out).mono ?_; rintro e wy ⟨rfl, hby⟩; have VY := Lib.hid hby; clear hby))
            go_ret
            exact KN _ _ ⟨rfl, nxTrD (nxTrD ALv.out.l.v VX.out) VY.out⟩

        by_cases h5 : fuse < 5
        · obtain ⟨f2, hf2⟩ : ∃ f2, fuse.tmod 2 = f2 := ⟨_, rfl⟩
          have hf20 : 0 ≤ f2 ∧ f2 < 2 := by have h0 := HF0.out; rw [Int.tmod_eq_emod_of_nonneg h0] at hf2; omega
          have hsf := setFuse_any w6 d dm6 HU6.out.d.k f2
          rw [fuseD_ok _ _ hf20.1] at hsf
          unfold DkPost ptrD at hsf
          have HSf := Lib.hid hsf
          have HF2 := Lib.hid hf20
          clear hsf hf20
          go_wp2_with (first
            | (go_at_call 23; refine HSf.out.mono ?_; rintro e w7 ⟨rfl, dm7, ht7, hd7⟩; have D7 : Hid (DiskW w0 w7 d dm7) := (HU6.out.d.to ht7 (by rw [hd7]; exact (HU6.out.st.fuse f2 HF2.out.1 (by have := HF2.out.2; omega)).wf)); have E7 := Lib.hid hd7; clear ht7 hd7)
            | (go_at_call 15; refine (open_law w0 w7 (HT0.out.later D7.out.v) d dm7 D7.out 0 (L.take k') t6 (by rw [E7.out]; exact HU6.out.st.fuse f2 HF2.out.1 (by have := HF2.out.2; omega)) (by rw [E7.out]; exact HU6.out.dd) (fun x hx => by have := HLb.out x (List.mem_of_mem_take hx); omega) HU6.out.tt).mono ?_; rintro e w8 ⟨dm8, hD8, hv8, h8⟩; have D8 := Lib.hid hD8; (have E8 : Hid (StW dm8.d 0 (recsF 1 (L.take k')) [] ∨ StW dm8.d 0 (recsF 1 (L.take k') ++ t6) [] ∨ StW dm8.d 0 (recsF 1 (L.take k') ++ t6) [.cut 0 (recsF 1 (L.take k')).length]) := h8.elim (fun ⟨_, _, _, h2, _⟩ => .inl h2.st) (fun ⟨_, _, _, _, h2⟩ => .inr (.inr h2))); obtain ⟨ev, hev⟩ : ∃ v, e = .returned v := (h8.elim (fun ⟨_, _, h1, _⟩ => ⟨_, h1⟩) (fun ⟨_, _, h1, _⟩ => ⟨_, h1⟩)); subst hev; have W8 : Hid (dm8.W.length ≤ 1) := (by show dm8.W.length ≤ 1; rw [DkM.wlen]; rcases E8.out with h | h | h <;> rw [h.w] <;> (first | exact Nat.zero_le _ | exact Nat.le_refl _)); clear hD8 hv8 h8)
            | (go_at_call 25; (with_reducible show Calls _ _ _ w8 _); refine (crash_any w8 d dm8 D8.out.k D8.out.wf (by have := W8.out; omega) again torn).mono ?_; unfold CrPost; rintro e w9 ⟨rfl, dm9, ht9, hd9⟩; obtain ⟨t9, hu9⟩ := HU6.out.again (D8.out.to ht9 (by rw [hd9]; exact crashD_wf D8.out.wf _ _)) again torn dm8.d hd9 E8.out; have HU9 := Lib.hid hu9; clear ht9 hd9 hu9))
          go_meet
          case rel => exact ⟨dm9, t9, HU9⟩
        · go_wp2
          go_meet
          case rel => exact ⟨dm6, t6, HU6⟩
      go_upto_region 15 with fail
      go_loopw [18] (fun kv wz => ∃ (k : Nat) (dm : DkM) (m : WlM), k ≤ V.length ∧ kv = .int .i64 k ∧ Hid (AliveW w0 wz d dm q m 0 (L.take k))) (fun kv _ => V.length - (intOf kv).toNat)
      case atStart => exact ⟨0, dm3, m2, Nat.zero_le _, rfl, AL3.out⟩
      case round =>
        clear AL3
        obtain ⟨k, dm, m, hk, rfl, AL⟩ := hrel
        have HKk : Hid (k ≤ V.length) := hk
        by_cases hlt : k < V.length
        · have hin : (k : Int) < (V.length : Int) := by omega
          have HSz : Hid (WantW wr w.heap.size A V) := HS0.out.below (AL.out.l.v.mono HB0.out)
          obtain ⟨b, off, hAe, hb, hcs⟩ := HSz.out.s.at_ (k := k) (by rw [rowsC_len]; exact hlt)
          obtain ⟨y, hy⟩ : ∃ y, V[k]'hlt = y := ⟨_, rfl⟩
          have cv : wr.cell? ⟨b, off + k, none⟩ = some (.slice y.A y.l.length y.c) := by
            rw [hcs k (by rw [rowsC_len]; exact hlt)]
            unfold rowsC
            rw [List.getElem_map, hy]; rfl
          have hym : y ∈ V := by rw [← hy]; exact List.getElem_mem hlt
          have HY1 : Hid (y.l.length ≤ 9000 ∧ y.l.length ≤ y.c) := ⟨HVl.out y hym, (HV.out.rc y hym).1⟩
          have HYs : Hid (Sees wr w.heap.size y.A y.l) := HSz.out.r y hym
          have hkL : k < L.length := by rw [← HL.out, List.length_map]; exact hlt
          have hLk : L[k] = y.l := by
            have : (V.map (·.l))[k]? = some y.l := by rw [List.getElem?_map, List.getElem?_eq_getElem hlt, hy]; rfl
            rw [HL.out, List.getElem?_eq_getElem hkL] at this
            injection this
          have HTk : Hid (L.take (k + 1) = L.take k ++ [y.l]) := by show _ = _; rw [List.take_succ_eq_append_getElem hkL, hLk]
          have HRm : Hid (sizeL (L.take k) + (20 + y.l.length) ≤ 16777216) := by have h1 := sizeL_take L k; have := HLz.out; have := HY1.out; show _ ≤ _; omega
          have HOf : Hid (y.l ≠ [] → ∀ a, y.A = some a → ¬ (foot d dm a.block ∨ footW q m a.block)) := fun hne a ha hf => by
            rcases HYs.out with h0 | ⟨b1, o1, hA1, hb1, _⟩
            · exact hne h0
            · rw [hA1] at ha
              injection ha with ha
              subst ha
              have h1 := AL.out.l.n _ hf
              have h2 := HB0.out
              dsimp only at h1
              omega
          have HLk : Hid (∃ h : k < L.length, L[k] = y.l) := ⟨hkL, hLk⟩
          have hput := put_law w0 wr (HT0.out.later AL.out.l.v) d dm q m 0 (L.take k) AL.out y.A y.c y.l (HYs.out.more (Nat.le_trans HB0.out AL.out.l.v.size)) HY1.out.2 (by have := HY1.out.1; omega) HRm.out HOf.out
          have HPut := Lib.hid hput
          have hw1 : IntKind.i64.wrap ((k : Int) + 1) = ((k + 1 : Nat) : Int) := by rw [IntKind.wrap_i64]; omega
          clear hcs hy hym hkL hLk hput
          rw [hAe]
          go_wp2_with (first
            | (go_at_call 24; refine HPut.out.mono ?_; rintro e w5 ⟨dm5, m5, hl5, hv5, ⟨rfl, ha5, -⟩ | ⟨rfl, hf5, hs5⟩⟩)
            | (go_at_call 17; refine (num_any _ _).mono ?_; rintro e wn ⟨rfl, hwn⟩; obtain rfl := hwn.symm))
          rotate_left 1
          · have HE : Hid (EndW w0 w5 d dm5 L k) := ⟨hl5.disk, .inr ⟨HLk.out.choose, by rw [HLk.out.choose_spec]; exact hs5⟩⟩
            obtain ⟨wZ, hwZ⟩ : ∃ x, x = w5 := ⟨_, rfl⟩
            obtain ⟨dmZ, hdZ⟩ : ∃ x, x = dm5 := ⟨_, rfl⟩
            rw [← hwZ, ← hdZ] at HE
            rw [← hwZ]
            clear hl5 hv5 hf5 hs5 hwZ hdZ HPut HOf HRm
            rw [← hAe]
            go_meet
            case rel => exact ⟨k, dmZ, rfl, HKk, HE⟩
          · have AL5 : Hid (AliveW w0 w5 d dm5 q m5 0 (L.take (k + 1))) := by rw [HTk.out]; exact ha5
            clear hl5 hv5 ha5
            go_roundw
            case rel => exact ⟨k + 1, dm5, m5, hlt, rfl, AL5.out⟩
            case measure => simp [intOf] <;> omega
        · have hin : ¬ (k : Int) < (V.length : Int) := by omega
          have HE : Hid (EndW w0 wr d dm L k) := ⟨AL.out.l.disk, .inl AL.out.st⟩
          obtain ⟨wZ, hwZ⟩ : ∃ x, x = wr := ⟨_, rfl⟩
          obtain ⟨dmZ, hdZ⟩ : ∃ x, x = dm := ⟨_, rfl⟩
          rw [← hwZ, ← hdZ] at HE
          rw [← hwZ]
          clear hwZ hdZ AL hlt
          go_wp2
          go_meet
          case rel => exact ⟨k, dmZ, rfl, HKk, HE⟩
end Go.Proofs.YtlepajddekblcaaDoor
