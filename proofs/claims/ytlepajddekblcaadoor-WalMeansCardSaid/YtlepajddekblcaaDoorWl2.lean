/-
  wal: Scan: the batches of a log's bytes.
-/
import Derived.Test.YtlepajddekblcaaDoorWl1
import Derived.Test.YtlepajddekblcaaDoorRf1
namespace Go.Proofs.YtlepajddekblcaaDoor
open Go.RowKit

/-- The next record, where it is right. -/
def stepR (n : Nat) (b : List UInt8) : Option (List UInt8 × List UInt8) :=
  match nextR b with
  | none => none
  | some (r, q) => if (r.drop 20).length ≤ 4194304 ∧ r = recB n (r.drop 20) then some (r.drop 20, q) else none
def scanF : Nat → Nat → List UInt8 → List (List UInt8)
  | 0, _, _ => []
  | f + 1, n, b => match stepR n b with
    | none => []
    | some (x, q) => x :: scanF f (n + 1) q
def scanB (b : List UInt8) : List (List UInt8) := scanF b.length 1 b
def sizeL (L : List (List UInt8)) : Nat := (L.map fun x => 20 + x.length).sum
theorem nextR_len {b r q : List UInt8} (h : nextR b = some (r, q)) : 20 ≤ r.length ∧ r.length + q.length = b.length := by
  unfold nextR at h
  split at h
  · injection h with h
    injection h with h1 h2
    subst h1 h2
    rw [List.length_take, List.length_drop]
    omega
  · cases h
theorem stepR_some {n : Nat} {b x q : List UInt8} (h : stepR n b = some (x, q)) : nextR b = some (recB n x, q) ∧ x.length ≤ 4194304 ∧ 20 + x.length + q.length = b.length := by
  unfold stepR at h
  cases hn : nextR b with
  | none => rw [hn] at h; cases h
  | some p =>
    obtain ⟨r, q'⟩ := p
    rw [hn] at h
    dsimp only at h
    split at h
    · next hc =>
      injection h with h
      injection h with h1 h2
      obtain ⟨hl, hr⟩ := hc
      rw [h1] at hl hr
      subst h2
      have hln := nextR_len hn
      rw [hr] at hln ⊢
      rw [recB_len] at hln
      exact ⟨rfl, hl, by omega⟩
    · cases h
theorem stepR_none {n : Nat} {b r q : List UInt8} (h : nextR b = some (r, q)) (hs : stepR n b = none) : ¬ ((r.drop 20).length ≤ 4194304 ∧ r = recB n (r.drop 20)) := by
  unfold stepR at hs
  rw [h] at hs
  dsimp only at hs
  intro hc
  rw [if_pos hc] at hs
  cases hs
theorem scanF_fuel : ∀ (f g n : Nat) (b : List UInt8), b.length ≤ f → b.length ≤ g → scanF f n b = scanF g n b
  | 0, g, n, b, hf, hg => by
    have h0 : b = [] := List.eq_nil_of_length_eq_zero (by omega)
    subst h0
    cases g with
    | zero => rfl
    | succ g => rfl
  | f + 1, 0, n, b, hf, hg => by
    have h0 : b = [] := List.eq_nil_of_length_eq_zero (by omega)
    subst h0
    rfl
  | f + 1, g + 1, n, b, hf, hg => by
    unfold scanF
    cases h : stepR n b with
    | none => rfl
    | some p =>
      obtain ⟨x, q⟩ := p
      have := (stepR_some h).2.2
      dsimp only
      rw [scanF_fuel f g (n + 1) q (by omega) (by omega)]
theorem scanF_step {n : Nat} {b x q : List UInt8} (h : stepR n b = some (x, q)) : scanF b.length n b = x :: scanF q.length (n + 1) q := by
  have hl := (stepR_some h).2.2
  obtain ⟨f, hf⟩ : ∃ f, b.length = f + 1 := ⟨b.length - 1, by omega⟩
  rw [hf]
  show (match stepR n b with
    | none => []
    | some (x, q) => x :: scanF f (n + 1) q) = _
  rw [h]
  dsimp only
  rw [scanF_fuel f q.length (n + 1) q (by omega) (Nat.le_refl _)]
theorem scanF_end {n : Nat} {b : List UInt8} (h : stepR n b = none) : scanF b.length n b = [] := by
  cases hb : b.length with
  | zero => rfl
  | succ f =>
    show (match stepR n b with
      | none => []
      | some (x, q) => x :: scanF f (n + 1) q) = _
    rw [h]
theorem sizeL_snoc (L : List (List UInt8)) (x : List UInt8) : sizeL (L ++ [x]) = sizeL L + (20 + x.length) := by
  unfold sizeL; rw [List.map_append, List.sum_append]; simp

theorem records_any (w : World) (A : Option Addr) (c : Nat) (b : List UInt8) (hS : Sees w w.heap.size A b) (hc : b.length ≤ c) (hm : c ≤ maxLen) : Calls Tryd.prog 28 #[.slice A b.length c] w fun e w' => ∃ g, e = .returned (.func (.func 56) #[] #[.pointer (some ⟨g, 0, none⟩)]) ∧ g = w.heap.size ∧ RestAt w' w.heap.size g b ∧ Below w.heap.size w w' := by
  have hmf : ∀ (fn : Fn) (first cap : Array Value) (w : World), (Instr.makeFunc fn first cap).run Tryd.prog w = .ok (.func fn first cap) w := fun _ _ _ _ => rfl
  have V : Hid (Below w.heap.size w (w.alloc (.cells #[.slice A b.length c] 23))) := nxAlloc (nxRefl w) _
  have HS := Lib.hid hS
  have HC := Lib.hid hc
  have HM := Lib.hid hm
  clear hS hc hm
  go_enter Tryd.func28, Tryd.ntmps28
  go_wp2
  go_ret
  exact ⟨w.heap.size, rfl, rfl, ⟨Nat.le_refl _, A, c, heap_alloc_new w _, HS.out.below V.out, HC.out, HM.out⟩, V.out⟩
theorem Tryd.slInfo : (Tryd.prog.info? 23).map (fun i => (i.zero, i.size, i.bytes)) = some (some (.slice none 0 0), 1, 24) := by kernel_rfl
theorem rowsC_snoc (rows : List RowM) (r : RowM) : rowsC (rows ++ [r]) = rowsC rows ++ [r.v] := by unfold rowsC; rw [List.map_append]; rfl
theorem rowV_one (r : RowM) : ∀ u ∈ [r.v], u.oneCell' = true := by intro u hu; rw [List.mem_singleton.1 hu]; rfl
/-- What Scan answers. -/
def ScanPost (w : World) (b : List UInt8) (e : Ending) (w' : World) : Prop := ∃ (rows : List RowM) (A : Option Addr) (c : Nat), e = .returned (.tuple #[.slice A rows.length c, .int .i64 (sizeL (scanB b) : Int)]) ∧ rows.map (·.l) = scanB b ∧
  w'.ownsRow w.heap.size 23 1 (.slice A rows.length c) rows.length (rowsC rows) ∧ (∀ r ∈ rows, r.own w' ∧ ∀ j, r.bk = some j → w.heap.size ≤ j) ∧ Below w.heap.size w w'
/-- On the way. -/
structure ScanAt (w wr : World) (b : List UInt8) (g N : Nat) (rows : List RowM) (A : Option Addr) (c : Nat) (q : List UInt8) : Prop where
  rs : RestAt wr w.heap.size g q
  gw : g = w.heap.size
  gl : g < wr.heap.size
  nn : N = rows.length + 1
  l : rows.map (·.l) ++ scanF q.length N q = scanB b
  z : sizeL (rows.map (·.l)) + q.length = b.length
  o : wr.ownsRow w.heap.size 23 1 (.slice A rows.length c) rows.length (rowsC rows)
  go : ∀ j, A.map (·.block) = some j → g < j
  r : ∀ r ∈ rows, r.own wr ∧ ∀ j, r.bk = some j → g < j
  v : Below w.heap.size w wr
theorem ScanAt.fin {w wr W : World} {b : List UInt8} {g N : Nat} {rows : List RowM} {A : Option Addr} {c : Nat} {q : List UInt8} (h : ScanAt w wr b g N rows A c q) (hs : stepR N q = none) (k : Keeps (· = g) wr W) (z : Int) (hz : z = sizeL (rows.map (·.l))) : ScanPost w b (.returned (.tuple #[.slice A rows.length c, .int .i64 z])) W := by
  have he : rows.map (·.l) = scanB b := by
    have h1 := h.l
    rw [scanF_end hs, List.append_nil] at h1
    exact h1
  subst hz
  refine ⟨rows, A, c, by rw [← he], he, own_keep h.o k (fun j hj e => ?_), fun r hr => ⟨RowM.keep (h.r r hr).1 k (fun j hj e => by have := (h.r r hr).2 j hj; omega), fun j hj => by have := (h.r r hr).2 j hj; have := h.gw; omega⟩, h.v.trans (k.below h.v.size (fun j hj e => by have := h.gw; omega))⟩
  have := h.go j (by rw [own_blkD] at hj; exact hj)
  omega
/-- One batch more. -/
theorem ScanAt.next {w wr w2 w4 w8 : World} {b : List UInt8} {g N : Nat} {rows : List RowM} {A A8 A9 : Option Addr} {c c8 c9 : Nat} {q q2 x : List UInt8} (h : ScanAt w wr b g N rows A c q) (hs : stepR N q = some (x, q2)) (k : Keeps (· = g) wr w2) (hr2 : RestAt w2 w.heap.size g q2)
    (v4 : Below w2.heap.size w2 w4) (ho9 : (⟨A9, c9, x⟩ : RowM).own w4) (hb9 : ∀ j, (⟨A9, c9, x⟩ : RowM).bk = some j → w2.heap.size ≤ j) (cs : Array Value) (t : TypeId)
    (ho8 : w8.ownsRow w.heap.size 23 1 (.slice A8 (rows.length + 1) c8) (rows.length + 1) (rowsC rows ++ [.slice A9 x.length c9])) (hg8 : (w4.alloc (.cells cs t)).grownBy w8 (Value.slice A rows.length c).ownBlock)
    (hat : (Value.slice A8 (rows.length + 1) c8).ownBlock = (Value.slice A rows.length c).ownBlock ∨ (Value.slice A8 (rows.length + 1) c8).ownBlock = some (w4.alloc (.cells cs t)).heap.size) : ScanAt w w8 b g (N + 1) (rows ++ [⟨A9, c9, x⟩]) A8 c8 q2 := by
  have hgw := h.gw
  have hgl := h.gl
  have hkz := k.size
  have hz4 := v4.size
  have b2 : Below w.heap.size w w2 := h.v.trans (k.below h.v.size (fun j hj e => by omega))
  have ho2 := own_keep h.o k (fun j hj e => by have := h.go j (by rw [own_blkD] at hj; exact hj); omega)
  have ho4 := own_keep ho2 (Keeps.of_below v4 (fun _ => False)) (fun _ _ h => h)
  have hgo : ∀ j, (Value.slice A rows.length c).ownBlock = some j → g < j := fun j hj => h.go j (by rw [own_blkD] at hj; exact hj)
  have k4 : Keeps (fun _ => False) w4 (w4.alloc (.cells cs t)) := (Keeps.refl _ w4).alloc _
  have k8 : Keeps (fun j => (Value.slice A rows.length c).ownBlock = some j) w4 w8 := Keeps.grown ((Keeps.refl _ w4).alloc _) hg8 (fun j hj => hj)
  have b8 : Below (g + 1) w4 w8 := ⟨k8.os, k8.tape, k8.output, k8.size, fun j hj => k8.block j (by omega) (fun e => by have := hgo j e; omega)⟩
  have b28 : Below (g + 1) w2 w8 := (v4.mono (by omega)).trans b8
  have hs8 := k8.size
  have hapart : ∀ {r : RowM}, r.own w4 → ∀ j, r.bk = some j → ¬ (Value.slice A rows.length c).ownBlock = some j := fun hr j hj => own_apart hr ho4 (by decide) j (by rw [RowM.v, own_blkD]; exact hj)
  refine ⟨hr2.below b28, hgw, by omega, by have := h.nn; rw [List.length_append]; show _ = _ + 1 + 1; omega, ?_, ?_, ?_, ?_, ?_, ?_⟩
  · rw [List.map_append, List.append_assoc]
    have h1 := h.l
    rw [scanF_step hs] at h1
    exact h1
  · rw [List.map_append]
    show sizeL (_ ++ [x]) + _ = _
    rw [sizeL_snoc]
    have := h.z
    have := (stepR_some hs).2.2
    omega
  · rw [rowsC_snoc, List.length_append]
    exact ho8
  · intro j hj
    rcases hat with e | e
    · exact hgo j (by rw [← e, own_blkD]; exact hj)
    · rw [own_blkD] at e
      rw [hj] at e
      injection e with e
      rw [e, World.size_alloc]
      omega
  · intro r hr
    rcases List.mem_append.1 hr with hr | hr
    · have h1 := h.r r hr
      have h2 : r.own w2 := RowM.keep h1.1 k (fun j hj e => by have := h1.2 j hj; omega)
      have h4 : r.own w4 := RowM.keep h2 (Keeps.of_below v4 (fun _ => False)) (fun _ _ h => h)
      exact ⟨RowM.keep h4 k8 (fun j hj e => hapart h4 j hj e), h1.2⟩
    · rw [List.mem_singleton.1 hr]
      exact ⟨RowM.keep ho9 k8 (fun j hj e => hapart ho9 j hj e), fun j hj => by have := hb9 j hj; omega⟩
  · exact b2.trans (b28.mono (by omega))
theorem sizeL_len (L : List (List UInt8)) : 20 * L.length ≤ sizeL L := by
  induction L with
  | nil => exact Nat.zero_le _
  | cons x L ih =>
    have e : sizeL (x :: L) = (20 + x.length) + sizeL L := by unfold sizeL; rw [List.map_cons, List.sum_cons]
    rw [e, List.length_cons]; omega

set_option maxHeartbeats 4000000 in
set_option maxRecDepth 100000 in
theorem scan_any (w : World) (hT : Tabs w) (A : Option Addr) (c : Nat) (b : List UInt8) (hS : Sees w w.heap.size A b) (hc : b.length ≤ c) (hm : c ≤ maxLen) (hl : b.length ≤ 100000000) : Calls Tryd.prog 8 #[.slice A b.length c] w (ScanPost w b) := by
  have HT := Lib.hid hT
  have HS := Lib.hid hS
  have HC := Lib.hid hc
  have HM := Lib.hid hm
  have HL := Lib.hid hl
  clear hT hS hc hm hl
  go_enter Tryd.func8, Tryd.ntmps8
  go_wp2
  go_step3
  go_wp2_with (first
    | (go_at_call 28; refine (records_any w A c b HS.out HC.out HM.out).mono ?_; rintro e w1 ⟨g, rfl, hg, hr, hb⟩; have HG : Hid (g = w.heap.size) := hg; have R1 := Lib.hid hr; have V1 := Lib.hid hb; clear hg hr hb))
  go_step3
  go_wp2
  have SA0 : Hid (ScanAt w w1 b g 1 [] none 0 b) := ⟨R1.out, HG.out, (by obtain ⟨_, _, _, h, _⟩ := R1.out; exact h.lt), rfl, rfl, by show sizeL [] + _ = _; simp [sizeL], World.ownsRow_nil _ _ _ _, fun j h => (by cases h), fun r h => (by cases h), V1.out⟩
  clear R1 V1
  go_loopw [2, 3, 5] (fun bv sv nv wr => ∃ (rows : List RowM) (A1 : Option Addr) (c1 N z : Nat) (q : List UInt8), bv = .slice A1 rows.length c1 ∧ sv = .int .i64 (z : Int) ∧ nv = .int .u64 (N : Int) ∧ z + q.length = b.length ∧ Hid (z = sizeL (rows.map (·.l))) ∧ Hid (ScanAt w wr b g N rows A1 c1 q)) (fun _ sv _ _ => b.length - (intOf sv).toNat)
  case atStart => exact ⟨[], none, 0, 1, 0, b, rfl, rfl, rfl, by omega, rfl, SA0.out⟩
  case round =>
    obtain ⟨rows, A1, c1, N, z, q, rfl, rfl, rfl, hz, HZ, SA⟩ := hrel
    clear SA0
    have hql : q.length ≤ 100000000 := by have := HL.out; omega
    have hnx := next_any wr w.heap.size g q SA.out.rs (by omega)
    unfold NextPost at hnx
    have HLb : Hid (b.length ≤ 100000000) := HL.out
    have HN20 : Hid (20 * rows.length ≤ b.length) := by show _ ≤ _; have := sizeL_len (rows.map (·.l)); rw [List.length_map] at this; have := SA.out.z; omega
    cases hn : nextR q with
    | none =>
      rw [hn] at hnx
      have HBad : Hid (stepR N q = none) := by show _ = _; unfold stepR; rw [hn]
      clear hn
      go_wp2_with (first
        | (go_at_call 56; refine hnx.mono ?_; rintro e w2 ⟨rfl, hk⟩; have K2 := Lib.hid hk; clear hk))
      rw [Exit.noGoto_ret]
      go_ret2
      exact SA.out.fin HBad.out K2.out _ (by rw [HZ.out])
    | some p =>
      obtain ⟨r, q2⟩ := p
      rw [hn] at hnx
      dsimp only at hnx
      have hrl := nextR_len hn
      obtain ⟨x, hx⟩ : ∃ x, r.drop 20 = x := ⟨_, rfl⟩
      have hxl : x.length = r.length - 20 := by rw [← hx, List.length_drop]
      have Hx := Lib.hid hx
      have hr0 : ((r.length : Int) == 0) = false := beq_eq_false_iff_ne.2 (by omega)
      have hr1 : ¬ (r.length : Int) = 0 := by omega
      have hN63 : N < 18446744073709551616 := by have := SA.out.nn; have := HN20.out; have := HLb.out; omega
      have HNN := Lib.hid hN63
      have HRl := Lib.hid hrl
      go_upto_region 6 with (first
        | (go_at_call 56; refine hnx.mono ?_; rintro e w2 ⟨A3, c3, rfl, hs, hr, hk⟩; have K2 := Lib.hid hk; have S2 := Lib.hid hs; have R2 := Lib.hid hr; clear hk hs hr))
      have V2 : Hid (Below w.heap.size w w2) := SA.out.v.trans (K2.out.below SA.out.v.size (fun j hj e => by have := SA.out.gw; omega))
      have HBW : Hid (w.heap.size ≤ w2.heap.size) := V2.out.size
      obtain ⟨A4, hS4, hsl4⟩ := high_sliceW S2.out 20 hrl.1
      rw [hx] at hS4
      have q1 : ∀ wq, (Instr.slice 23 (.slice A3 r.length c3) (some (.int .i64 20)) none none).run Tryd.prog wq = .ok (.slice A4 (r.length - 20) (c3 - 20)) wq := hsl4
      rw [← hxl] at q1
      have S4 := Lib.hid hS4
      clear hS4 hsl4 hx hxl
      by_cases hlong : x.length ≤ 4194304
      · have hrec := record_any w2 (HT.out.later V2.out) N HNN.out A4 (c3 - 20) x (S4.out.s.more HBW.out) hlong S4.out.kc
        unfold OwnPost at hrec
        have S2a : Hid (Sees w2 w2.heap.size A3 r) := S2.out.s.more HBW.out
        by_cases hgood : r = recB N x
        · have HSt : Hid (stepR N q = some (x, q2)) := by
            show _ = _
            unfold stepR
            rw [hn]
            dsimp only
            rw [Hx.out, if_pos ⟨hlong, hgood⟩]
          have heq : (r == recB N x) = true := by rw [← hgood]; simp
          obtain ⟨R, hR⟩ : ∃ R, recB N x = R := ⟨_, rfl⟩
          rw [hR] at hrec heq
          have HLg := Lib.hid hlong
          have hsz : IntKind.i64.wrap ((z : Int) + (r.length : Int)) = ((z + r.length : Nat) : Int) := by rw [IntKind.wrap_i64]; have := HLb.out; omega
          have hnz : IntKind.u64.wrap ((N : Int) + 1) = ((N + 1 : Nat) : Int) := by rw [IntKind.wrap_u64]; have := SA.out.nn; have := HN20.out; have := HLb.out; omega
          clear hn hgood hR hrl hlong hN63
          obtain ⟨i0, hi, hz0, hz1, hz2⟩ := infoD Tryd.slInfo
          have HO2 : Hid (w2.ownsRow w.heap.size 23 1 (.slice A1 rows.length c1) rows.length (rowsC rows)) := own_keep SA.out.o K2.out (fun j hj e => by have := SA.out.go j (by rw [own_blkD] at hj; exact hj); omega)
          go_wp2_with (first
            | (go_at_call 10; refine hrec.mono ?_; rintro e w3 ⟨A5, c5, rfl, ho5, hb5⟩; have S5 : Hid (Sees w3 w3.heap.size A5 R) := Sees.own ho5; have V3 : Hid (Below w2.heap.size w2 w3) := hb5; clear ho5 hb5)
            | (go_at_call 29; refine (bequal_any w3 A3 A5 r.length c3 R.length c5 r R rfl rfl ((S2a.out.later V3.out).more V3.out.size) S5.out).mono ?_; rw [heq]; rintro e w3' ⟨rfl, hw3⟩; obtain rfl := hw3.symm)
            | (go_at_call 30; refine (bclone_any w3 w3.heap.size A4 x.length (c3 - 20) x rfl (((S4.out.s.more HBW.out).later V3.out).more V3.out.size) (by have := HLg.out; omega)).mono ?_; unfold ClonePostD; rintro e w4 ⟨⟨A9, c9, x9⟩, rfl, hx9, ho9, hn9, hb4⟩; obtain rfl : x9 = x := hx9; (have hv9 : RowM.v ⟨A9, c9, x9⟩ = .slice A9 x9.length c9 := rfl); rw [hv9]; clear hv9; have O9 := Lib.hid ho9; have N9 : Hid (∀ j, (⟨A9, c9, x9⟩ : RowM).bk = some j → w2.heap.size ≤ j) := fun j hj => Nat.le_trans V3.out.size (hn9 j hj); have V4 : Hid (Below w2.heap.size w2 w4) := nxTrD V3.out hb4; clear ho9 hn9 hb4; (have HO4 : Hid (w4.ownsRow w.heap.size 23 1 (.slice A1 rows.length c1) rows.length (rowsC rows)) := own_keep HO2.out (Keeps.of_below V4.out (fun _ => False)) (fun _ _ h => h)))
            | ((with_reducible show wpList _ _ _ (⟨some 30, _, _, _, _, _⟩ :: _) _ _); refine wpList_append_seesV rfl (.tmp 25) (.tmp 29) 25 rfl w.heap.size 23 i0 (.slice none 0 0) 1 24 Tryd.underlying25 hi hz0 hz1 hz2 rfl (by omega) (.slice A1 rows.length c1) rows.length (rowsC rows) rfl (HO4.out.alloc _) _ (some ⟨w4.heap.size, 0, none⟩) 1 1 [.slice A9 x9.length c9] rfl rfl (SeesV.blk (heap_alloc_new w4 (.cells #[.slice A9 x9.length c9] 23))) (fun u hu => by rw [List.mem_singleton.1 hu]; rfl) (by have := HN20.out; have := HLb.out; omega) (by have := HN20.out; have := HLb.out; omega) (by have := V4.out.size; have := HBW.out; rw [World.size_alloc]; omega) ?_; intro v8 w8 ho8 hg8 hat8; obtain ⟨A8, c8, rfl⟩ := own_form ho8; have SA8 := Lib.hid (SA.out.next HSt.out K2.out R2.out V4.out O9.out N9.out #[.slice A9 x9.length c9] 23 ho8 hg8 hat8); clear ho8 hg8 hat8))
          go_roundw
          case rel => exact ⟨rows ++ [⟨A9, c9, x9⟩], A8, c8, N + 1, z + r.length, q2, by rw [List.length_append]; rfl, rfl, rfl, by have := HRl.out; omega, by (show _ = sizeL _; rw [List.map_append]; show _ = sizeL (_ ++ [x9]); rw [sizeL_snoc, ← HZ.out]; have := HRl.out; have := congrArg List.length Hx.out; rw [List.length_drop] at this; omega), SA8⟩
          case measure => (have hq1 := HRl.out; simp [intOf] <;> omega)
        · have HBad : Hid (stepR N q = none) := by
            show _ = _
            unfold stepR
            rw [hn]
            dsimp only
            rw [if_neg]
            intro h
            rw [Hx.out] at h
            exact hgood h.2
          have heq : (r == recB N x) = false := beq_eq_false_iff_ne.2 hgood
          obtain ⟨R, hR⟩ : ∃ R, recB N x = R := ⟨_, rfl⟩
          rw [hR] at hrec heq
          clear hn hgood hR hrl hlong hN63
          go_wp2_with (first
            | (go_at_call 10; refine hrec.mono ?_; rintro e w3 ⟨A5, c5, rfl, ho5, hb5⟩; have S5 : Hid (Sees w3 w3.heap.size A5 R) := Sees.own ho5; have V3 : Hid (Below w2.heap.size w2 w3) := hb5; clear ho5 hb5)
            | (go_at_call 29; refine (bequal_any w3 A3 A5 r.length c3 R.length c5 r R rfl rfl ((S2a.out.later V3.out).more V3.out.size) S5.out).mono ?_; rw [heq]; rintro e w3' ⟨rfl, hw3⟩; obtain rfl := hw3.symm))
          rw [Exit.noGoto_ret]
          go_ret2
          exact SA.out.fin HBad.out (K2.out.trans (Keeps.of_below V3.out _)) _ (by rw [HZ.out])
      · have hrec := record_long w2 (N : Int) A4 x.length (c3 - 20) (by omega)
        have HBad : Hid (stepR N q = none) := by
          show _ = _
          unfold stepR
          rw [hn]
          dsimp only
          rw [if_neg]
          intro h
          rw [Hx.out] at h
          exact hlong h.1
        have hne : (r == ([] : List UInt8)) = false := by
          cases r with
          | nil => exact absurd hrl.1 (by decide)
          | cons a t => rfl
        clear hn
        go_wp2_with (first
          | (go_at_call 10; refine hrec.mono ?_; rintro e w3 ⟨rfl, hw3⟩; obtain rfl := hw3.symm)
          | (go_at_call 29; refine (bequal_any w2 A3 none r.length c3 0 0 r [] rfl rfl (S2.out.s.more HBW.out) (.inl rfl)).mono ?_; rw [hne]; rintro e w3 ⟨rfl, hw3⟩; obtain rfl := hw3.symm))
        rw [Exit.noGoto_ret]
        go_ret2
        exact SA.out.fin HBad.out K2.out _ (by rw [HZ.out])
end Go.Proofs.YtlepajddekblcaaDoor
