/-
  dag: the document's Apart, Future, Anticone, Children, Tips.
  dag: Parents, Children, Tips.
-/
import Derived.Test.YtbfpckomgpkjgaaGreatPRnQ17
namespace Go.Proofs.YtbfpckomgpkjgaaGreat
open Go.RowKit

theorem nxUndrT {w W : World} (h : Below w.drew.heap.size w.drew W) : Below w.heap.size w W := ⟨h.os, h.tape, h.output, h.size, h.block⟩
/-- Of the first i hashes those that are asked for. -/
def selL (G : Gr) (f : Nat → Bool) (i : Nat) : List Hh := ((List.range i).filter f).map (idG G)
theorem selL_succ (G : Gr) (f : Nat → Bool) (i : Nat) : selL G f (i + 1) = selL G f i ++ if f i then [idG G i] else [] := by
  unfold selL
  rw [List.range_succ, List.filter_append, List.map_append]
  congr 1
  by_cases h : f i = true <;> simp [h]
theorem selL_le (G : Gr) (f : Nat → Bool) (i : Nat) : (selL G f i).length ≤ i := by
  unfold selL
  rw [List.length_map]
  exact Nat.le_trans (List.length_filter_le _ _) (by simp)
theorem blk_old {wr w7 : World} {base k n c : Nat} {t : TypeId} {A : Option Addr} {xs : List Value} {cs : Array Value} (h0 : k < base) (hb : Blk wr k t cs) (hg : wr.grownBy w7 (Value.slice A n c).ownBlock) (ho : wr.ownsRow base 23 32 (.slice A n c) n xs) : Blk w7 k t cs := by
  have hk : Keeps (fun j => (Value.slice A n c).ownBlock = some j) wr w7 := (Keeps.refl _ wr).grown hg (fun j e => e)
  refine hb.keeps hk fun e => ?_
  have := (own_lt ho k e).1
  omega
/-- Does neither stand in the other one's past, and are they two? -/
noncomputable def apB (G : Gr) (a b : Hh) : Bool := !decide (a = b) && !befB G a b && !befB G b a
theorem wpList_neH {ops : Array Oper} {rest : List Oper} {o : Oper} {a : Act} {w : World} {Q : Exit → Act → World → Prop} (hw : Region.wanted o (yielded ops a.tmps) = true) (x y : Operand) (ho : o.op = .binOp .neq 23 x y 23)
    (l m : Hh) (hx : a.eval x = .agg (hC l).toArray) (hy : a.eval y = .agg (hC m).toArray) (z : Bool) (hz : decide (l = m) = z) (h : wpList Tryz.prog ops Q rest (a.put o.dst (.bool (!z))) w) : wpList Tryz.prog ops Q (o :: rest) a w := by
  unfold wpList
  rw [if_pos hw]
  unfold Oper.wp execOp
  have hq : (eqGuard .neq 23 x y (.agg (hC l).toArray) (.agg (hC m).toArray)).run Tryz.prog w = .ok () w := by simp [eqGuard, Tryz.deqgH]
  have he : (l.1 == m.1) = z := by rw [← hz, Bool.eq_iff_iff, beq_iff_eq, decide_eq_true_eq]; exact ⟨fun h => Subtype.ext h, fun h => by rw [h]⟩
  unfold hC at hx hy hq
  simp only [ho, hx, hy, Sem.run_bind, Sem.run_pure, Result.andThen_ok, hq, run_neq_bytes 32 23 5 Tryz.underlying23 Tryz.underlying5 Tryz.u8size l.1 m.1 l.2 m.2, bne, he]
  exact .inl h
end Go.Proofs.YtbfpckomgpkjgaaGreat

namespace Go.Proofs.YtbfpckomgpkjgaaGreat
open Go.RowKit Go.Shelf

theorem values_any (w : World) (A : Option Addr) (n c : Nat) : Calls Tryz.prog 125 #[.slice A n c] w fun e w' => e = .returned (.func (.func 134) #[] #[.pointer (some ⟨w.heap.size, 0, none⟩)]) ∧ w' = w.alloc (.cells #[.slice A n c] 80) := by
  have hmf : ∀ (fn : Fn) (first cap : Array Value) (w : World), (Instr.makeFunc fn first cap).run Tryz.prog w = .ok (.func fn first cap) w := fun _ _ _ _ => rfl
  go_enter Tryz.func125, Tryz.ntmps125
  go_wp2
  go_ret
  exact ⟨rfl, rfl⟩
section
set_option maxRecDepth 100000
set_option maxHeartbeats 4000000
theorem vals1_in (w : World) (rb : Nat) (A : Option Addr) (ps : List Nat) (c B : Nat) (hrb : rb < B) (hc : w.cell? ⟨rb, 0, none⟩ = some (.slice A ps.length c)) (hS : SeesV w B A (iC ps)) (hm : ps.length ≤ 1000000)
    (l : Nat) (J : Nat → World → Prop) (Jx : World → Prop) (W9 : World) (hW : Below B w W9)
    (hY : ∀ k vs W1, k < ps.length → (∃ h : k < ps.length, vs = #[.int .i64 (ps[k] : Int)]) → J k W1 → Below B W9 W1 → YieldAt Fence.wide (5 - 1 - 1) Tryz.prog l vs W1 fun e W' => (e = .returned (.bool true) ∧ J (k + 1) W' ∧ Below B W1 W') ∨ (e = .returned (.bool false) ∧ Jx W'))
    (h0 : J 0 W9) : CallsIn Fence.wide (5 - 1) Tryz.prog 134 #[.func (.yield l) #[] #[], .pointer (some ⟨rb, 0, none⟩)] W9 fun e W' => (∃ v, e = .returned v) ∧ ((J ps.length W' ∧ Below B W9 W') ∨ Jx W') := by
  have HY := Lib.hid hY
  have c9 : W9.cell? ⟨rb, 0, none⟩ = some (.slice A ps.length c) := (hW.cell (p := ⟨rb, 0, none⟩) hrb).trans hc
  have HS9 : Hid (SeesV W9 B A (iC ps)) := hS.below hW
  have HM := Lib.hid hm
  clear hY hW hc hS hm
  refine callsIn_of_wp Tryz.func134 rfl trivial ?_ rfl
  simp only [Tryz.ntmps134, List.size_toArray, List.length_cons, List.length_nil, Nat.reduceAdd, Nat.reduceSub, Array.replicate_succ, Array.replicate_zero, List.push_toArray, List.append_toArray, List.nil_append, List.cons_append]
  gi_wp2
  gi_loopw [7] (fun i wr => ∃ k : Nat, k ≤ ps.length ∧ i = .int .i64 k ∧ Hid (J k wr) ∧ Hid (Below B W9 wr)) (fun i _ => ps.length - (intOf i).toNat)
  case atStart => exact ⟨0, Nat.zero_le _, rfl, h0, Below.refl _ _⟩
  case round =>
    obtain ⟨k, hk, rfl, hJs, hnx⟩ := hrel
    by_cases hlt : k < ps.length
    · obtain ⟨b, off, hA, _, hcw⟩ := iC_at (HS9.out.below hnx.out) hlt
      subst hA
      have HYk : Hid (YieldAt Fence.wide (5 - 1 - 1) Tryz.prog l #[.int .i64 (ps[k] : Int)] wr fun e W' => (e = .returned (.bool true) ∧ J (k + 1) W' ∧ Below B wr W') ∨ (e = .returned (.bool false) ∧ Jx W')) := HY.out _ _ wr hlt ⟨hlt, rfl⟩ hJs.out hnx.out
      obtain ⟨x, hx⟩ : ∃ x, ps[k] = x := ⟨_, rfl⟩
      rw [hx] at hcw HYk
      have hin : (k : Int) < (ps.length : Int) := by omega
      have hm9 := HM.out
      clear hx
      obtain ⟨fn, tmps, assign, body, hy, hR⟩ := HYk.out
      have HRd := Lib.hid hR
      clear hR HYk
      gi_wp2
      refine HRd.out.mono ?_
      rintro e W3 (⟨rfl, hJ3, hk3⟩ | ⟨rfl, hJx3⟩)
      · have HJ3 := Lib.hid hJ3
        have V3 : Hid (Below B W9 W3) := hnx.out.trans hk3
        clear hJ3 hk3 hy HRd hcw
        gi_wp2
        go_roundw
        case rel => exact ⟨k + 1, by omega, by go_num, HJ3.out, V3.out⟩
        case measure => simp [intOf] <;> omega
      · have HX3 := Lib.hid hJx3
        clear hJx3 hy HRd hcw
        gi_wp2
        refine bodyPost_ret (results_none rfl _ _ _) rfl ?_
        exact ⟨⟨_, rfl⟩, .inr HX3.out⟩
    · obtain rfl : k = ps.length := by omega
      gi_wp2
      go_end0
      exact ⟨⟨_, rfl⟩, .inl ⟨hJs.out, hnx.out⟩⟩
end
theorem Tryz.dsizeN : (Tryz.prog.info? 119).map (·.size) = some 3 := by kernel_rfl
theorem par1_any (w : World) (a b c : Value) : Calls Tryz.prog 106 #[.agg #[a, b, c]] w fun e w' => e = .returned a ∧ Below w.heap.size w w' := by
  have hB : Blk (w.alloc (.cells #[a, b, c] 119)) w.heap.size 119 #[a, b, c] := heap_alloc_new w _
  have h1 : (w.alloc (.cells #[a, b, c] 119)).cell? ⟨w.heap.size, 0, none⟩ = some a := hB.cell 0
  clear hB
  go_enter Tryz.func106, Tryz.ntmps106
  go_wp2
  go_ret
  exact ⟨rfl, nxAlloc (nxRefl w) _⟩
/-- rising over places that stand in a row. -/
theorem rowUp_any (w : World) (base : Nat) (m : GrM) (G : Gr) (h : GrOk w base m) (hg : GrI0 m G) (rb : Nat) (A : Option Addr) (ps : List Nat) (c : Nat) (hrb : rb < w.heap.size) (hc : w.cell? ⟨rb, 0, none⟩ = some (.slice A ps.length c)) (hS : SeesV w w.heap.size A (iC ps)) (hps : ∀ p ∈ ps, p < G.length) (hm : ps.length ≤ 1000000) :
    Calls Tryz.prog 124 #[.pointer (some ⟨m.q, 0, none⟩), .func (.func 134) #[] #[.pointer (some ⟨rb, 0, none⟩)]] w fun e w' => (∃ A c, e = .returned (.slice A ps.length c) ∧ w'.ownsRow w.heap.size 23 32 (.slice A ps.length c) ps.length (hsC (srtH (ps.map (idG G))))) ∧ Below w.heap.size w w' := by
  refine rising_any w base m G h hg 134 #[.pointer (some ⟨rb, 0, none⟩)] ps hps hm (enters_of Tryz.func134 (by kernel_rfl) rfl) ?_
  intro W hbw hsz l J Jx W9 hW9 hJ hY h0
  exact vals1_in W rb A ps c w.heap.size hrb ((hbw.cell (p := ⟨rb, 0, none⟩) hrb).trans hc) (hS.below hbw) hm l J Jx W9 (hW9.mono hsz) hY h0
set_option maxRecDepth 100000 in
set_option maxHeartbeats 4000000 in
theorem beside_any (w : World) (base : Nat) (m : GrM) (G : Gr) (h : GrOk w base m) (hg : GrIs m G) (id : Hh) (n : Nat) (hp : placeG G id = some n) (fa : Nat) (ea : ∀ args w, (callFunc fa args).run Tryz.prog w = .ok (.enter fa args) w) (An : Option Addr) (ps : List Nat) (cn : Nat)
    (hask : ∀ W g, W.rangeAt g (n * 3) (ndC (m.L[n]'(by rw [hg.len]; exact (placeG_some hp).1))) → Calls Tryz.prog fa #[.agg (ndC (m.L[n]'(by rw [hg.len]; exact (placeG_some hp).1))).toArray] W fun e w' => e = .returned (.slice An ps.length cn) ∧ Below W.heap.size W w')
    (hS : SeesV w w.heap.size An (iC ps)) (hps : ∀ p ∈ ps, p < G.length) (hm : ps.length ≤ 1000000) :
    Calls Tryz.prog 105 #[.pointer (some ⟨m.q, 0, none⟩), .agg (hC id).toArray, .func (.func fa) #[] #[]] w fun e w' => ∃ A c, e = .returned (.tuple #[.slice A (srtH (ps.map (idG G))).length c, .int .i64 0]) ∧ SeesV w' w'.heap.size A (hsC (srtH (ps.map (idG G)))) ∧ Below w.heap.size w w' := by
  have hnl : n < m.L.length := by rw [hg.len]; exact (placeG_some hp).1
  obtain ⟨x, hx⟩ : ∃ x, m.L[n] = x := ⟨_, rfl⟩
  rw [hx] at hask
  have V0 : Hid (Below w.heap.size w (w.alloc (.cells (hC id).toArray 23))) := nxAlloc (nxRefl w) _
  have B0 : Hid (Blk (w.alloc (.cells (hC id).toArray 23)) w.heap.size 23 (hC id).toArray) := heap_alloc_new w _
  have hpl := place_any (w.alloc (.cells (hC id).toArray 23)) base m G (h.later V0.out) hg id
  unfold plV plE at hpl
  rw [hp] at hpl
  have HPl : Hid (Calls Tryz.prog 83 #[.pointer (some ⟨m.q, 0, none⟩), .agg (hC id).toArray] (w.alloc (.cells (hC id).toArray 23)) fun e w' => e = .returned (.tuple #[.int .i64 (n : Int), .bool true]) ∧ Below (w.alloc (.cells (hC id).toArray 23)).heap.size (w.alloc (.cells (hC id).toArray 23)) w') := hpl
  have HMd : Hid (∀ W, Below w.heap.size w W → Calls Tryz.prog 66 #[.pointer (some ⟨m.q, 0, none⟩)] W fun e w' => e = .returned (.bool true) ∧ w' = W) := fun W hW => isMade_any W base m (h.later hW) (by rw [hg.ilen]; exact hg.ne)
  have HNd : Hid (∀ W, Below w.heap.size w W → ∃ g, W.cell? ⟨m.q, 1, none⟩ = some (.slice (some ⟨g, 0, none⟩) G.length m.nc) ∧ W.rangeAt g (n * 3) (ndC x)) := fun W hW => by
    obtain ⟨g, hA, hlt, h1, h2, h3⟩ := nds_cell (h.later hW) hnl
    rw [hx] at h1 h2 h3
    have hb : W.cell? ⟨m.q, 1, none⟩ = some (.slice m.nA m.L.length m.nc) := (h.later hW).b.cell 1
    rw [hA, hg.len] at hb
    refine ⟨g, hb, fun j v hv => ?_⟩
    match j, hv with
    | 0, hv => cases hv; exact h1
    | 1, hv => cases hv; exact h2
    | 2, hv => cases hv; exact h3
  have HUp : Hid (∀ W, Below w.heap.size w W → ∀ W1, W1 = W.alloc (.cells #[.slice An ps.length cn] 80) → Calls Tryz.prog 124 #[.pointer (some ⟨m.q, 0, none⟩), .func (.func 134) #[] #[.pointer (some ⟨W.heap.size, 0, none⟩)]] W1 fun e w' => (∃ A c, e = .returned (.slice A ps.length c) ∧ w'.ownsRow W1.heap.size 23 32 (.slice A ps.length c) ps.length (hsC (srtH (ps.map (idG G))))) ∧ Below W1.heap.size W1 w') := fun W hW W1 h1 => by
    subst h1
    have hb : Blk (W.alloc (.cells #[.slice An ps.length cn] 80)) W.heap.size 80 #[.slice An ps.length cn] := heap_alloc_new W _
    have hV : Below w.heap.size w (W.alloc (.cells #[.slice An ps.length cn] 80)) := nxTo hW (nxAlloc (nxRefl W) _)
    exact rowUp_any _ base m G (h.later hV) hg.toGrI0 W.heap.size An ps cn hb.lt (hb.cell 0) ((hS.below hV).more hV.size) hps hm
  have HAsk := Lib.hid hask
  have hnn : (n : Int) < (G.length : Int) := by have := (placeG_some hp).1; omega
  have hsz : Hid ((Tryz.prog.info? 119).map (·.size) = some (ndC x).length) := Tryz.dsizeN
  have hsl : Hid ((srtH (ps.map (idG G))).length = ps.length) := by show _ = _; rw [(srtH_perm _).length_eq, List.length_map]
  have hgm : G.length ≤ 1000000 := by rw [← hg.len]; exact hg.max
  clear h hg hpl hask hS hps hx hp hnl
  go_enter Tryz.func105, Tryz.ntmps105
  go_wp2_with (first
    | ((with_reducible show wpList _ _ _ (⟨some 12, _, _, _, _, _⟩ :: _) _ _); refine wpList_load_mid rfl 23 (.tmp 4) rfl w.heap.size 0 rfl (hC id) _ (kb_range B0.out) Tryz.underlying23 rfl (hszL id) ?_)
    | (go_at_call 83; refine HPl.out.mono ?_; rintro e w2 ⟨rfl, hb2⟩; have V2 : Hid (Below w.heap.size w w2) := nxTo V0.out hb2; (obtain ⟨g, hcq, hr⟩ := HNd.out w2 V2.out); have HR := Lib.hid hr; clear hb2 hr)
    | (go_at_call 66; refine (HMd.out w2 V2.out).mono ?_; rintro e w3 ⟨rfl, hw3⟩; obtain rfl := hw3.symm)
    | ((with_reducible show wpList _ _ _ (⟨some 31, _, _, _, _, _⟩ :: _) _ _); refine wpList_load_mid rfl 119 (.tmp 30) rfl g (n * 3) rfl (ndC x) _ HR.out Tryz.underlying119 rfl hsz.out ?_)
    | ((with_reducible show Calls _ fa _ _ _); refine (HAsk.out w2 g HR.out).mono ?_; rintro e w4 ⟨rfl, hb4⟩; have V4 : Hid (Below w.heap.size w w4) := nxTo V2.out hb4; clear hb4)
    | (go_at_call 125; refine (values_any w4 An ps.length cn).mono ?_; rintro e w5 ⟨rfl, hw5⟩; have W5 := Lib.hid hw5; have V5 : Hid (Below w.heap.size w w5) := (by rw [hw5]; exact nxTo V4.out (nxAlloc (nxRefl w4) _)); clear hw5)
    | (go_at_call 124; refine (HUp.out w4 V4.out w5 W5.out).mono ?_; rintro e w6 ⟨⟨A6, c6, rfl, ho6⟩, hb6⟩; have O6 := Lib.hid ho6; have V6 : Hid (Below w.heap.size w w6) := nxTo V5.out hb6; clear ho6 hb6))
  go_ret2
  exact ⟨A6, c6, by rw [hsl.out]; rfl, SeesV.own O6.out, V6.out⟩
set_option maxRecDepth 100000 in
set_option maxHeartbeats 2000000 in
theorem beside_no (w : World) (base : Nat) (m : GrM) (G : Gr) (h : GrOk w base m) (hg : GrIs m G) (id : Hh) (hp : placeG G id = none) (fv : Value) :
    Calls Tryz.prog 105 #[.pointer (some ⟨m.q, 0, none⟩), .agg (hC id).toArray, fv] w fun e w' => e = .returned (.tuple #[.slice none 0 0, .int .i64 6]) ∧ Below w.heap.size w w' := by
  have V0 : Hid (Below w.heap.size w (w.alloc (.cells (hC id).toArray 23))) := nxAlloc (nxRefl w) _
  have B0 : Hid (Blk (w.alloc (.cells (hC id).toArray 23)) w.heap.size 23 (hC id).toArray) := heap_alloc_new w _
  have hpl := place_any (w.alloc (.cells (hC id).toArray 23)) base m G (h.later V0.out) hg id
  unfold plV plE at hpl
  rw [hp] at hpl
  have HPl : Hid (Calls Tryz.prog 83 #[.pointer (some ⟨m.q, 0, none⟩), .agg (hC id).toArray] (w.alloc (.cells (hC id).toArray 23)) fun e w' => e = .returned (.tuple #[.int .i64 0, .bool false]) ∧ Below (w.alloc (.cells (hC id).toArray 23)).heap.size (w.alloc (.cells (hC id).toArray 23)) w') := hpl
  have HMd : Hid (∀ W, Below w.heap.size w W → Calls Tryz.prog 66 #[.pointer (some ⟨m.q, 0, none⟩)] W fun e w' => e = .returned (.bool true) ∧ w' = W) := fun W hW => isMade_any W base m (h.later hW) (by rw [hg.ilen]; exact hg.ne)
  clear h hg hpl hp
  go_enter Tryz.func105, Tryz.ntmps105
  go_wp2_with (first
    | ((with_reducible show wpList _ _ _ (⟨some 12, _, _, _, _, _⟩ :: _) _ _); refine wpList_load_mid rfl 23 (.tmp 4) rfl w.heap.size 0 rfl (hC id) _ (kb_range B0.out) Tryz.underlying23 rfl (hszL id) ?_)
    | (go_at_call 83; refine HPl.out.mono ?_; rintro e w2 ⟨rfl, hb2⟩; have V2 : Hid (Below w.heap.size w w2) := nxTo V0.out hb2; clear hb2)
    | (go_at_call 66; refine (HMd.out w2 V2.out).mono ?_; rintro e w3 ⟨rfl, hw3⟩; obtain rfl := hw3.symm))
  go_ret2
  exact ⟨rfl, V2.out⟩
/-- One's children, as the program keeps them. -/
def kidP (m : GrM) (n : Nat) : List Nat := (m.L[n]?.map NodeM.kids).getD []
theorem kidP_at {m : GrM} {n : Nat} (h : n < m.L.length) : kidP m n = m.L[n].kids := by unfold kidP; rw [List.getElem?_eq_getElem h]; rfl
theorem mem_kidP {m : GrM} {G : Gr} (hg : GrI0 m G) {n : Nat} (h : n < G.length) {p : Nat} : p ∈ kidP m n ↔ n ∈ parG G p := by
  have hl : n < m.L.length := by rw [hg.len]; exact h
  rw [kidP_at hl]
  exact hg.kids n hl p
theorem kidP_nodup {m : GrM} {G : Gr} (hg : GrI0 m G) {n : Nat} (h : n < G.length) : (kidP m n).Nodup := by
  have hl : n < m.L.length := by rw [hg.len]; exact h
  rw [kidP_at hl]
  exact hg.kdis n hl
set_option maxRecDepth 100000 in
set_option maxHeartbeats 2000000 in
theorem parents_any (w : World) (base : Nat) (m : GrM) (G : Gr) (h : GrOk w base m) (hg : GrIs m G) (id : Hh) (n : Nat) (hp : placeG G id = some n) : Calls Tryz.prog 88 #[.pointer (some ⟨m.q, 0, none⟩), .agg (hC id).toArray] w fun e w' => ∃ A c, e = .returned (.tuple #[.slice A (srtH ((parG G n).map (idG G))).length c, .int .i64 0]) ∧ SeesV w' w'.heap.size A (hsC (srtH ((parG G n).map (idG G)))) ∧ Below w.heap.size w w' := by
  have V0 : Hid (Below w.heap.size w (w.alloc (.cells (hC id).toArray 23))) := nxAlloc (nxRefl w) _
  have B0 : Hid (Blk (w.alloc (.cells (hC id).toArray 23)) w.heap.size 23 (hC id).toArray) := heap_alloc_new w _
  have HBe := Lib.hid (beside_any (w.alloc (.cells (hC id).toArray 23)) base m G (h.later V0.out) hg id n hp 106 (enters_of Tryz.func106 (by kernel_rfl) rfl) (m.L[n]'(by rw [hg.len]; exact (placeG_some hp).1)).pA (parG G n) (m.L[n]'(by rw [hg.len]; exact (placeG_some hp).1)).pc (fun W g _ => (by have h9 := par1_any W (.slice (m.L[n]'(by rw [hg.len]; exact (placeG_some hp).1)).pA (m.L[n]'(by rw [hg.len]; exact (placeG_some hp).1)).par.length (m.L[n]'(by rw [hg.len]; exact (placeG_some hp).1)).pc) (.slice (m.L[n]'(by rw [hg.len]; exact (placeG_some hp).1)).kA (m.L[n]'(by rw [hg.len]; exact (placeG_some hp).1)).kids.length (m.L[n]'(by rw [hg.len]; exact (placeG_some hp).1)).kc) (.slice (m.L[n]'(by rw [hg.len]; exact (placeG_some hp).1)).rA (m.L[n]'(by rw [hg.len]; exact (placeG_some hp).1)).row.length (m.L[n]'(by rw [hg.len]; exact (placeG_some hp).1)).rc); rw [hg.par n (by rw [hg.len]; exact (placeG_some hp).1)] at h9; unfold ndC; rw [hg.par n (by rw [hg.len]; exact (placeG_some hp).1)]; exact h9)) (by have h9 := (h.later V0.out).par _ (List.getElem_mem (by rw [hg.len]; exact (placeG_some hp).1 : n < m.L.length)); rwa [hg.par n (by rw [hg.len]; exact (placeG_some hp).1)] at h9) (fun p hp2 => Nat.lt_trans (hg.ok.par n p hp2) (placeG_some hp).1) (Nat.le_trans (len_le_of (hg.ok.dis n) (fun x hx => Nat.lt_trans (hg.ok.par n x hx) (placeG_some hp).1)) (by rw [← hg.len]; exact hg.max)))
  clear h hg hp
  go_enter Tryz.func88, Tryz.ntmps88
  go_wp2_with (first
    | ((with_reducible show wpList _ _ _ (⟨some 7, _, _, _, _, _⟩ :: _) _ _); refine wpList_load_mid rfl 23 (.tmp 3) rfl w.heap.size 0 rfl (hC id) _ (kb_range B0.out) Tryz.underlying23 rfl (hszL id) ?_)
    | (go_at_call 105; refine HBe.out.mono ?_; rintro e w3 ⟨A3, c3, rfl, ho3, hb3⟩; have S3 := Lib.hid ho3; have V3 : Hid (Below w.heap.size w w3) := nxTo V0.out hb3; clear ho3 hb3))
  go_ret2
  exact ⟨A3, c3, rfl, S3.out, V3.out⟩
theorem parents_any_no (w : World) (base : Nat) (m : GrM) (G : Gr) (h : GrOk w base m) (hg : GrIs m G) (id : Hh) (hp : placeG G id = none) : Calls Tryz.prog 88 #[.pointer (some ⟨m.q, 0, none⟩), .agg (hC id).toArray] w fun e w' => e = .returned (.tuple #[.slice none 0 0, .int .i64 6]) ∧ Below w.heap.size w w' := by
  have V0 : Hid (Below w.heap.size w (w.alloc (.cells (hC id).toArray 23))) := nxAlloc (nxRefl w) _
  have B0 : Hid (Blk (w.alloc (.cells (hC id).toArray 23)) w.heap.size 23 (hC id).toArray) := heap_alloc_new w _
  have HBe := Lib.hid (beside_no (w.alloc (.cells (hC id).toArray 23)) base m G (h.later V0.out) hg id hp (.func (.func 106) #[] #[]))
  clear h hg hp
  go_enter Tryz.func88, Tryz.ntmps88
  go_wp2_with (first
    | ((with_reducible show wpList _ _ _ (⟨some 7, _, _, _, _, _⟩ :: _) _ _); refine wpList_load_mid rfl 23 (.tmp 3) rfl w.heap.size 0 rfl (hC id) _ (kb_range B0.out) Tryz.underlying23 rfl (hszL id) ?_)
    | (go_at_call 105; refine HBe.out.mono ?_; rintro e w3 ⟨rfl, hb3⟩; have V3 : Hid (Below w.heap.size w w3) := nxTo V0.out hb3; clear hb3))
  go_ret2
  exact ⟨rfl, V3.out⟩
end Go.Proofs.YtbfpckomgpkjgaaGreat
