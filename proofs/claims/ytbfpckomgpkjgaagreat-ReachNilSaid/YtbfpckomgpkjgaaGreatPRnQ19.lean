/-
  dag: Parents, in a row of its own.
  slices.Insert of one number into an own row.
-/
import Derived.Test.YtbfpckomgpkjgaaGreatPRnQ18
import Derived.Test.YtbfpckomgpkjgaaGreatShD
import Derived.Test.YtbfpckomgpkjgaaGreatPRnQ4
import Derived.Shelf.Spec.SlicesInsert
import Derived.Shelf.Spec.SlicesInsertGrow
namespace Go.Proofs.YtbfpckomgpkjgaaGreat
open Go.RowKit

set_option maxRecDepth 100000 in
set_option maxHeartbeats 4000000 in
theorem beside_own (w : World) (base : Nat) (m : GrM) (G : Gr) (h : GrOk w base m) (hg : GrIs m G) (id : Hh) (n : Nat) (hp : placeG G id = some n) (fa : Nat) (ea : ∀ args w, (callFunc fa args).run Tryz.prog w = .ok (.enter fa args) w) (An : Option Addr) (ps : List Nat) (cn : Nat)
    (hask : ∀ W g, W.rangeAt g (n * 3) (ndC (m.L[n]'(by rw [hg.len]; exact (placeG_some hp).1))) → Calls Tryz.prog fa #[.agg (ndC (m.L[n]'(by rw [hg.len]; exact (placeG_some hp).1))).toArray] W fun e w' => e = .returned (.slice An ps.length cn) ∧ Below W.heap.size W w')
    (hS : SeesV w w.heap.size An (iC ps)) (hps : ∀ p ∈ ps, p < G.length) (hm : ps.length ≤ 1000000) :
    Calls Tryz.prog 105 #[.pointer (some ⟨m.q, 0, none⟩), .agg (hC id).toArray, .func (.func fa) #[] #[]] w fun e w' => ∃ A c, e = .returned (.tuple #[.slice A (srtH (ps.map (idG G))).length c, .int .i64 0]) ∧ w'.ownsRow w.heap.size 23 32 (.slice A (srtH (ps.map (idG G))).length c) (srtH (ps.map (idG G))).length (hsC (srtH (ps.map (idG G)))) ∧ Below w.heap.size w w' := by
  have hnl : n < m.L.length := by rw [hg.len]; exact (placeG_some hp).1
  obtain ⟨x, hx⟩ : ∃ x, m.L[n] = x := ⟨_, rfl⟩
  rw [hx] at hask
  have V0 : Hid (Below w.heap.size w (w.alloc (.cells (hC id).toArray 23))) := nxAlloc (nxRefl w) _
  have B0 : Hid (Blk (w.alloc (.cells (hC id).toArray 23)) w.heap.size 23 (hC id).toArray) := heap_alloc_new w _
  have hpl := place_any (w.alloc (.cells (hC id).toArray 23)) base m G (h.later V0.out) hg id
  unfold plV plE at hpl
  rw [hp] at hpl
  have HPl : Hid (Calls Tryz.prog 83 #[.pointer (some ⟨m.q, 0, none⟩), .agg (hC id).toArray] (w.alloc (.cells (hC id).toArray 23)) fun e w' => e = .returned (.tuple #[.int .i64 (n : Int), .bool true]) ∧ Below (w.alloc (.cells (hC id).toArray 23)).heap.size (w.alloc (.cells (hC id).toArray 23)) w') := hpl
  have HMd : Hid (∀ W, Below w.heap.size w W → Calls Tryz.prog 66 #[.pointer (some ⟨m.q, 0, none⟩)] W fun e w' => e = .returned (.bool true) ∧ w' = W) := fun W hW => isMade_any W base m (h.later hW) (by rw [hg.ilen]; exact hg.ne)
  have HNd : Hid (∀ W, Below w.heap.size w W → ∃ g, W.cell? ⟨m.q, 1, none⟩ = some (.slice (some ⟨g, 0, none⟩) G.length m.nc) ∧ W.rangeAt g (n * 3) (ndC x)) := fun W hW => by
    obtain ⟨g, hA, hlt, h1, h2, h3⟩ := nds_cell (h.later hW) hnl
    rw [hx] at h1 h2 h3
    have hb : W.cell? ⟨m.q, 1, none⟩ = some (.slice m.nA m.L.length m.nc) := (h.later hW).b.cell 1
    rw [hA, hg.len] at hb
    refine ⟨g, hb, fun j v hv => ?_⟩
    match j, hv with
    | 0, hv => cases hv; exact h1
    | 1, hv => cases hv; exact h2
    | 2, hv => cases hv; exact h3
  have HUp : Hid (∀ W, Below w.heap.size w W → ∀ W1, W1 = W.alloc (.cells #[.slice An ps.length cn] 80) → Calls Tryz.prog 124 #[.pointer (some ⟨m.q, 0, none⟩), .func (.func 134) #[] #[.pointer (some ⟨W.heap.size, 0, none⟩)]] W1 fun e w' => (∃ A c, e = .returned (.slice A ps.length c) ∧ w'.ownsRow W1.heap.size 23 32 (.slice A ps.length c) ps.length (hsC (srtH (ps.map (idG G))))) ∧ Below W1.heap.size W1 w') := fun W hW W1 h1 => by
    subst h1
    have hb : Blk (W.alloc (.cells #[.slice An ps.length cn] 80)) W.heap.size 80 #[.slice An ps.length cn] := heap_alloc_new W _
    have hV : Below w.heap.size w (W.alloc (.cells #[.slice An ps.length cn] 80)) := nxTo hW (nxAlloc (nxRefl W) _)
    exact rowUp_any _ base m G (h.later hV) hg.toGrI0 W.heap.size An ps cn hb.lt (hb.cell 0) ((hS.below hV).more hV.size) hps hm
  have HAsk := Lib.hid hask
  have hnn : (n : Int) < (G.length : Int) := by have := (placeG_some hp).1; omega
  have hsz : Hid ((Tryz.prog.info? 119).map (·.size) = some (ndC x).length) := Tryz.dsizeN
  have hsl : Hid ((srtH (ps.map (idG G))).length = ps.length) := by show _ = _; rw [(srtH_perm _).length_eq, List.length_map]
  have hgm : G.length ≤ 1000000 := by rw [← hg.len]; exact hg.max
  clear h hg hpl hask hS hps hx hp hnl
  go_enter Tryz.func105, Tryz.ntmps105
  go_wp2_with (first
    | ((with_reducible show wpList _ _ _ (⟨some 12, _, _, _, _, _⟩ :: _) _ _); refine wpList_load_mid rfl 23 (.tmp 4) rfl w.heap.size 0 rfl (hC id) _ (kb_range B0.out) Tryz.underlying23 rfl (hszL id) ?_)
    | (go_at_call 83; refine HPl.out.mono ?_; rintro e w2 ⟨rfl, hb2⟩; have V2 : Hid (Below w.heap.size w w2) := nxTo V0.out hb2; (obtain ⟨g, hcq, hr⟩ := HNd.out w2 V2.out); have HR := Lib.hid hr; clear hb2 hr)
    | (go_at_call 66; refine (HMd.out w2 V2.out).mono ?_; rintro e w3 ⟨rfl, hw3⟩; obtain rfl := hw3.symm)
    | ((with_reducible show wpList _ _ _ (⟨some 31, _, _, _, _, _⟩ :: _) _ _); refine wpList_load_mid rfl 119 (.tmp 30) rfl g (n * 3) rfl (ndC x) _ HR.out Tryz.underlying119 rfl hsz.out ?_)
    | ((with_reducible show Calls _ fa _ _ _); refine (HAsk.out w2 g HR.out).mono ?_; rintro e w4 ⟨rfl, hb4⟩; have V4 : Hid (Below w.heap.size w w4) := nxTo V2.out hb4; clear hb4)
    | (go_at_call 125; refine (values_any w4 An ps.length cn).mono ?_; rintro e w5 ⟨rfl, hw5⟩; have W5 := Lib.hid hw5; have V5 : Hid (Below w.heap.size w w5) := (by rw [hw5]; exact nxTo V4.out (nxAlloc (nxRefl w4) _)); clear hw5)
    | (go_at_call 124; refine (HUp.out w4 V4.out w5 W5.out).mono ?_; rintro e w6 ⟨⟨A6, c6, rfl, ho6⟩, hb6⟩; have O6 := Lib.hid ho6; have V6 : Hid (Below w.heap.size w w6) := nxTo V5.out hb6; clear ho6 hb6))
  go_ret2
  exact ⟨A6, c6, by rw [hsl.out]; rfl, by rw [hsl.out]; exact own_base O6.out V5.out.size, V6.out⟩
set_option maxRecDepth 100000 in
set_option maxHeartbeats 2000000 in
theorem parents_own (w : World) (base : Nat) (m : GrM) (G : Gr) (h : GrOk w base m) (hg : GrIs m G) (id : Hh) (n : Nat) (hp : placeG G id = some n) : Calls Tryz.prog 88 #[.pointer (some ⟨m.q, 0, none⟩), .agg (hC id).toArray] w fun e w' => ∃ A c, e = .returned (.tuple #[.slice A (srtH ((parG G n).map (idG G))).length c, .int .i64 0]) ∧ w'.ownsRow w.heap.size 23 32 (.slice A (srtH ((parG G n).map (idG G))).length c) (srtH ((parG G n).map (idG G))).length (hsC (srtH ((parG G n).map (idG G)))) ∧ Below w.heap.size w w' := by
  have V0 : Hid (Below w.heap.size w (w.alloc (.cells (hC id).toArray 23))) := nxAlloc (nxRefl w) _
  have B0 : Hid (Blk (w.alloc (.cells (hC id).toArray 23)) w.heap.size 23 (hC id).toArray) := heap_alloc_new w _
  have HBe := Lib.hid (beside_own (w.alloc (.cells (hC id).toArray 23)) base m G (h.later V0.out) hg id n hp 106 (enters_of Tryz.func106 (by kernel_rfl) rfl) (m.L[n]'(by rw [hg.len]; exact (placeG_some hp).1)).pA (parG G n) (m.L[n]'(by rw [hg.len]; exact (placeG_some hp).1)).pc (fun W g _ => (by have h9 := par1_any W (.slice (m.L[n]'(by rw [hg.len]; exact (placeG_some hp).1)).pA (m.L[n]'(by rw [hg.len]; exact (placeG_some hp).1)).par.length (m.L[n]'(by rw [hg.len]; exact (placeG_some hp).1)).pc) (.slice (m.L[n]'(by rw [hg.len]; exact (placeG_some hp).1)).kA (m.L[n]'(by rw [hg.len]; exact (placeG_some hp).1)).kids.length (m.L[n]'(by rw [hg.len]; exact (placeG_some hp).1)).kc) (.slice (m.L[n]'(by rw [hg.len]; exact (placeG_some hp).1)).rA (m.L[n]'(by rw [hg.len]; exact (placeG_some hp).1)).row.length (m.L[n]'(by rw [hg.len]; exact (placeG_some hp).1)).rc); rw [hg.par n (by rw [hg.len]; exact (placeG_some hp).1)] at h9; unfold ndC; rw [hg.par n (by rw [hg.len]; exact (placeG_some hp).1)]; exact h9)) (by have h9 := (h.later V0.out).par _ (List.getElem_mem (by rw [hg.len]; exact (placeG_some hp).1 : n < m.L.length)); rwa [hg.par n (by rw [hg.len]; exact (placeG_some hp).1)] at h9) (fun p hp2 => Nat.lt_trans (hg.ok.par n p hp2) (placeG_some hp).1) (Nat.le_trans (len_le_of (hg.ok.dis n) (fun x hx => Nat.lt_trans (hg.ok.par n x hx) (placeG_some hp).1)) (by rw [← hg.len]; exact hg.max)))
  clear h hg hp
  go_enter Tryz.func88, Tryz.ntmps88
  go_wp2_with (first
    | ((with_reducible show wpList _ _ _ (⟨some 7, _, _, _, _, _⟩ :: _) _ _); refine wpList_load_mid rfl 23 (.tmp 3) rfl w.heap.size 0 rfl (hC id) _ (kb_range B0.out) Tryz.underlying23 rfl (hszL id) ?_)
    | (go_at_call 105; refine HBe.out.mono ?_; rintro e w3 ⟨A3, c3, rfl, ho3, hb3⟩; have S3 := Lib.hid ho3; have V3 : Hid (Below w.heap.size w w3) := nxTo V0.out hb3; clear ho3 hb3))
  go_ret2
  exact ⟨A3, c3, rfl, own_base S3.out V0.out.size, V3.out⟩
end Go.Proofs.YtbfpckomgpkjgaaGreat

namespace Go.Proofs.YtbfpckomgpkjgaaGreat
open Go.RowKit Go.Shelf Go.Lib

theorem blkSets {g : Nat} {t : TypeId} : ∀ (vs : List Value) (o : Nat) (w : World) (cs : Array Value), Blk w g t cs → o + vs.length ≤ cs.size → ∃ cs', Blk (w.setCells g o vs) g t cs' ∧ cs'.toList = cs.toList.take o ++ vs ++ cs.toList.drop (o + vs.length)
  | [], o, w, cs, h, _ => ⟨cs, h, by simp⟩
  | v :: r, o, w, cs, h, hl => by
    have hlt : o < cs.toList.length := by simp at hl ⊢; omega
    obtain ⟨cs', h1, h2⟩ := blkSets r (o + 1) (w.setCell ⟨g, o, none⟩ v) (cs.setIfInBounds o v) (h.set o v) (by simp at hl ⊢; omega)
    refine ⟨cs', h1, ?_⟩
    rw [h2, Array.toList_setIfInBounds, List.take_set, List.drop_set_of_lt (by omega), List.take_succ_eq_append_getElem hlt]
    have hl1 : (List.take o cs.toList).length = o := by rw [List.length_take]; omega
    rw [List.set_append_right _ _ (by omega), hl1, Nat.sub_self, List.length_cons, List.set_cons_zero, List.append_assoc, List.append_assoc, List.append_assoc, show o + 1 + r.length = o + (r.length + 1) by omega]
    rfl
theorem keepsSets {g : Nat} {S : Nat → Prop} (hg : S g) : ∀ (vs : List Value) (o : Nat) (w w' : World), Keeps S w w' → Keeps S w (w'.setCells g o vs)
  | [], _, _, _, h => h
  | v :: r, o, w, w', h => keepsSets hg r (o + 1) w _ (h.setCell (p := ⟨g, o, none⟩) hg v)
/-- The row that it answers. -/
def InsPost (w : World) (base : Nat) (A : Option Addr) (l : List Nat) (i x : Nat) (e : Ending) (w' : World) : Prop :=
  ∃ A' c', e = .returned (.slice A' (l.length + 1) c') ∧ w'.ownsRow base 3 1 (.slice A' (l.length + 1) c') (l.length + 1) (tiC (l.take i ++ x :: l.drop i)) ∧ Keeps (fun k => A.map Addr.block = some k) w w' ∧ ∀ k, A'.map Addr.block = some k → A.map Addr.block = some k ∨ w.heap.size ≤ k
theorem ins_len (l : List Nat) (i x : Nat) : (l.take i ++ x :: l.drop i).length = l.length + 1 := by simp; omega
theorem ins_own {w' : World} {base g c x i : Nat} {l : List Nat} {cs : Array Value} (hi : i ≤ l.length) (hB : Blk w' g 3 cs) (hb : base ≤ g) (h1 : l.length + 1 ≤ c) (h2 : c ≤ maxLen) (h3 : cs.size = c) (h4 : cs.toList.take (l.length + 1) = tiC (l.take i ++ x :: l.drop i)) :
    w'.ownsRow base 3 1 (.slice (some ⟨g, 0, none⟩) (l.length + 1) c) (l.length + 1) (tiC (l.take i ++ x :: l.drop i)) := by
  refine ⟨?_, .inr ⟨g, c, cs, rfl, hb, hB, h1, h2, by omega, by rw [Nat.mul_one]; exact h4⟩⟩
  rw [tiC_len, ins_len, Nat.mul_one]
theorem tiC_ins (l : List Nat) (i x : Nat) : tiC (l.take i ++ x :: l.drop i) = (tiC l).take i ++ [.int .i64 (x : Int)] ++ (tiC l).drop i := by
  unfold tiC
  rw [List.map_append, List.map_cons, List.map_take, List.map_drop]
  simp
set_option maxHeartbeats 1000000 in
theorem ins_any (w : World) (base : Nat) (A : Option Addr) (c i x : Nat) (l : List Nat) (h : w.ownsRow base 3 1 (.slice A l.length c) l.length (tiC l)) (hi : i ≤ l.length) (hl : l.length ≤ 1000000) (vb : Nat) (hv : Blk w vb 3 #[.int .i64 (x : Int)]) (hne : ∀ k, A.map Addr.block = some k → vb ≠ k) (hb : base ≤ w.heap.size) :
    Calls Tryz.prog 89 #[.slice A l.length c, .int .i64 (i : Int), .slice (some ⟨vb, 0, none⟩) 1 1] w (InsPost w base A l i x) := by
  have hvs : ∀ j v, [Value.int .i64 (x : Int)][j]? = some v → w.cell? ⟨vb, 0 + j, none⟩ = some v := fun j v hj => by
    rw [Nat.zero_add, hv.cell]
    simpa using hj
  have h1v : ∀ v ∈ [Value.int .i64 (x : Int)], v.oneCell' = true := fun v hm => by rw [List.mem_singleton] at hm; subst hm; rfl
  rcases h.2 with ⟨e0, n0⟩ | ⟨g, cap, cur, e0, hgb, hh, hnc, hcm, hcs, ht⟩
  · injection e0 with e1 e2 e3
    subst e1 e3
    have hl0 : l = [] := List.eq_nil_of_length_eq_zero n0
    subst hl0
    obtain rfl : i = 0 := by simpa using hi
    refine (Any2.slices_Insert_int_end_grow Tryz.insI none 0 0 vb 0 1 1 [] [.int .i64 (x : Int)] w (by decide) (by decide) (by decide) (by decide) rfl rfl (fun _ => rfl) (fun a ha => by cases ha) hvs h1v).mono ?_
    rintro e w' ⟨rfl, rfl⟩
    have hG := grownCap_ge w (0 + 1) 0 3
    have hM := grownCap_le_maxLen w (0 + 1) 0 3 (by unfold maxLen; omega)
    have hGG : ∃ G, grownCap w (0 + 1) 0 3 = G := ⟨_, rfl⟩
    show InsPost w base _ [] 0 x _ _
    obtain ⟨G, hGG⟩ := hGG
    rw [hGG] at hG hM
    rw [show Tryz.insI_ren.t 3 = 3 from rfl, hGG]
    obtain ⟨ROW, hROW⟩ : ∃ ROW : Array Value, (([] ++ [Value.int .i64 (x : Int)]).toArray ++ Builtin.zeroCells (Value.int .i64 0).cells (G - (0 + 1))) = ROW := ⟨_, rfl⟩
    have hB0 : Blk (w.drew.alloc (.cells ROW 3)) w.heap.size 3 ROW := heap_alloc_new w.drew _
    have hs : ROW.size = G := by rw [← hROW]; simp [Builtin.zeroCells, Value.cells]; omega
    have ht : ROW.toList.take (([] : List Nat).length + 1) = tiC (([] : List Nat).take 0 ++ x :: ([] : List Nat).drop 0) := by rw [← hROW]; simp [tiC]
    have h1 := ins_own (base := base) (i := 0) (l := []) (Nat.le_refl _) hB0 hb hG hM hs ht
    rw [← hROW] at h1
    exact ⟨_, _, rfl, h1, Keeps.of_below (nxAlloc (w := w) (W := w.drew) ⟨rfl, rfl, rfl, Nat.le_refl _, fun _ _ => rfl⟩ _) _, fun k hk => .inr (by cases hk; exact Nat.le_refl _)⟩
  · injection e0 with e1 _ e3
    subst e1 e3
    have hB : Blk w g 3 cur := hh
    have hgv : vb ≠ g := hne g rfl
    rw [Nat.mul_one] at hcs ht
    have hcc : ∀ j v, (tiC l)[j]? = some v → w.cell? ⟨g, 0 + j, none⟩ = some v := fun j v hj => by
      rw [Nat.zero_add, hB.cell]
      rw [← ht, List.getElem?_take] at hj
      split at hj
      · simpa using hj
      · cases hj
    have hz : ∀ j, w.frozen? ⟨g, 0 + j, none⟩ = false := fun j => hB.frozen _
    have hsm : ∀ j, j < c → (w.cell? ⟨g, 0 + j, none⟩).isSome = true := fun j hj => by rw [Nat.zero_add, hB.cell, Array.getElem?_eq_getElem (by omega)]; rfl
    have hM63 : c ≤ 9223372036854775807 := by unfold maxLen at hcm; omega
    have hcl : cur.toList = tiC l ++ cur.toList.drop l.length := by
      rw [← ht]; exact (List.take_append_drop _ _).symm
    by_cases hroom : l.length + 1 ≤ c
    · by_cases hin : i = l.length
      · subst hin
        refine (Any2.slices_Insert_int_end_room Tryz.insI g 0 l.length c vb 0 1 1 [.int .i64 (x : Int)] w (by decide) hroom hM63 rfl (fun j hj => by have := hsm (l.length + j) (by omega); rw [Nat.add_assoc]; exact this) (fun j _ => by rw [Nat.add_assoc]; exact hz _) hvs h1v).mono ?_
        rintro e w' ⟨rfl, rfl⟩
        obtain ⟨cs', hB', hc'⟩ := blkSets [Value.int .i64 (x : Int)] (0 + l.length) w cur hB (by simp; omega)
        refine ⟨_, _, rfl, ins_own (Nat.le_refl _) hB' hgb hroom hcm ?_ ?_, keepsSets (S := fun k => (some (⟨g, 0, none⟩ : Addr)).map Addr.block = some k) rfl _ _ _ _ (Keeps.refl _ _), fun k hk => .inl hk⟩
        · have := congrArg List.length hc'
          simp at this
          omega
        · have e1 : tiC (l.take l.length ++ x :: l.drop l.length) = tiC l ++ [.int .i64 (x : Int)] := by rw [List.take_length, List.drop_length]; simp [tiC]
          rw [hc', e1, Nat.zero_add, ht]
          rw [List.take_append_of_le_length (by simp [tiC_len])]
          exact List.take_of_length_le (by simp [tiC_len])
      · have hlt : i < l.length := by omega
        refine (Any2.slices_Insert_int_shift Tryz.insI g 0 l.length c i vb 0 1 1 (tiC l) [.int .i64 (x : Int)] w hlt (by decide) hroom hM63 hgv (tiC_len l) rfl hcc (fun j hj => hsm j (by omega)) (fun j _ => hz j) hvs (tiC_one l) h1v 3 3 1 cur.size (by unfold Blk at hv; unfold World.shape?; rw [hv]; rfl) (by unfold Blk at hB; unfold World.shape?; rw [hB]) (by omega) (hv.frozen _) (hv.frozen _)).mono ?_
        rintro e w' ⟨rfl, rfl⟩
        have hdl : ((tiC l).drop i).length = l.length - i := by rw [List.length_drop, tiC_len]
        obtain ⟨c1, hB1, hc1⟩ := blkSets ((tiC l).drop i) (0 + (i + 1)) w.drew cur hB (by rw [hdl]; omega)
        have hs1 : c1.size = cur.size := by
          have := congrArg List.length hc1
          simp [tiC_len] at this
          omega
        obtain ⟨c2, hB2, hc2⟩ := blkSets [Value.int .i64 (x : Int)] (0 + i) _ c1 hB1 (by simp; omega)
        refine ⟨_, _, rfl, ins_own hi hB2 hgb hroom hcm ?_ ?_, keepsSets (S := fun k => (some (⟨g, 0, none⟩ : Addr)).map Addr.block = some k) rfl _ _ _ _ (keepsSets (S := fun k => (some (⟨g, 0, none⟩ : Addr)).map Addr.block = some k) rfl _ _ _ _ ((Keeps.refl _ w).drew)), fun k hk => .inl hk⟩
        · have := congrArg List.length hc2
          simp at this
          omega
        · rw [hc2, hc1, tiC_ins]
          simp only [Nat.zero_add, List.length_singleton]
          have e1 : ((cur.toList.take (i + 1) ++ (tiC l).drop i ++ cur.toList.drop (i + 1 + ((tiC l).drop i).length)).take i) = (tiC l).take i := by
            rw [List.append_assoc, List.take_append_of_le_length (by simp; omega), List.take_take, Nat.min_eq_left (by omega), hcl, List.take_append_of_le_length (by rw [tiC_len]; omega)]
          have e2 : ((cur.toList.take (i + 1) ++ (tiC l).drop i ++ cur.toList.drop (i + 1 + ((tiC l).drop i).length)).drop (i + 1)) = (tiC l).drop i ++ cur.toList.drop (i + 1 + ((tiC l).drop i).length) := by
            rw [List.append_assoc, List.drop_append_of_le_length (by simp; omega), List.drop_of_length_le (by simp; omega), List.nil_append]
          rw [e1, e2, ← List.append_assoc, List.take_append_of_le_length (by simp [tiC_len]; omega)]
          exact List.take_of_length_le (by simp [tiC_len]; omega)
    · have hfull : c < l.length + 1 := by omega
      by_cases hin : i = l.length
      · subst hin
        refine (Any2.slices_Insert_int_end_grow Tryz.insI (some ⟨g, 0, none⟩) l.length c vb 0 1 1 (tiC l) [.int .i64 (x : Int)] w (by decide) hnc hfull (by omega) (tiC_len l) rfl (fun k => by cases k) (fun a ha j v hj => by cases ha; rw [Addr.add_lit]; exact hcc j v hj) hvs h1v).mono ?_
        rintro e w' ⟨rfl, rfl⟩
        have hG := grownCap_ge w (l.length + 1) c 3
        have hM := grownCap_le_maxLen w (l.length + 1) c 3 (by unfold maxLen; omega)
        obtain ⟨ROW, hROW⟩ : ∃ ROW : Array Value, ((tiC l ++ [Value.int .i64 (x : Int)]).toArray ++ Builtin.zeroCells (Value.int .i64 0).cells (grownCap w (l.length + 1) c 3 - (l.length + 1))) = ROW := ⟨_, rfl⟩
        have hB0 : Blk (w.drew.alloc (.cells ROW 3)) w.heap.size 3 ROW := heap_alloc_new w.drew _
        have hs : ROW.size = grownCap w (l.length + 1) c 3 := by rw [← hROW]; simp [Builtin.zeroCells, Value.cells, tiC_len]; omega
        have ht : ROW.toList.take (l.length + 1) = tiC (l.take l.length ++ x :: l.drop l.length) := by
          rw [tiC_ins, List.take_of_length_le (l := tiC l) (by rw [tiC_len]; exact Nat.le_refl _), List.drop_of_length_le (l := tiC l) (by rw [tiC_len]; exact Nat.le_refl _), List.append_nil, ← hROW]
          rw [Array.toList_append, List.take_append_of_le_length (by simp [tiC_len])]
          exact List.take_of_length_le (by simp [tiC_len])
        have h1 := ins_own (base := base) (i := l.length) (l := l) (Nat.le_refl _) hB0 hb hG hM hs ht
        rw [← hROW] at h1
        exact ⟨_, _, rfl, h1, Keeps.of_below (nxAlloc (w := w) (W := w.drew) ⟨rfl, rfl, rfl, Nat.le_refl _, fun _ _ => rfl⟩ _) _, fun k hk => .inr (by cases hk; exact Nat.le_refl _)⟩
      · have hlt : i < l.length := by omega
        refine (Any2.slices_Insert_int_grow Tryz.insI g 0 l.length c i vb 0 1 1 (tiC l) [.int .i64 (x : Int)] w hlt (by decide) hnc hfull (by omega) (tiC_len l) rfl hcc hvs (tiC_one l) h1v).mono ?_
        rintro e w' ⟨rfl, rfl⟩
        have hG := grownCap_ge w (l.length + 1) c 3
        have hM := grownCap_le_maxLen w (l.length + 1) c 3 (by unfold maxLen; omega)
        obtain ⟨ROW, hROW⟩ : ∃ ROW : Array Value, ((tiC l).take i).toArray ++ Builtin.zeroCells (Value.int .i64 0).cells (l.length + 1 - i) ++ Builtin.zeroCells (Value.int .i64 0).cells (grownCap w (l.length + 1) c 3 - (l.length + 1)) = ROW := ⟨_, rfl⟩
        have hRs : ROW.size = grownCap w (l.length + 1) c 3 := by
          rw [← hROW]; simp [Builtin.zeroCells, Value.cells, tiC_len]; omega
        have hRt : ROW.toList.take i = (tiC l).take i := by
          rw [← hROW, Array.toList_append, Array.toList_append, List.append_assoc, List.take_append_of_le_length (by simp [tiC_len]; omega)]
          exact List.take_of_length_le (by simp [tiC_len]; omega)
        have hdl : ((tiC l).drop i).length = l.length - i := by rw [List.length_drop, tiC_len]
        have hB0 : Blk ((w.alloc (.cells ROW 3)).drew) w.heap.size 3 ROW := heap_alloc_new w _
        obtain ⟨c1, hB1, hc1⟩ := blkSets [Value.int .i64 (x : Int)] i _ ROW hB0 (by simp; omega)
        have hs1 : c1.size = ROW.size := by
          have := congrArg List.length hc1
          simp at this
          omega
        obtain ⟨c2, hB2, hc2⟩ := blkSets ((tiC l).drop i) (i + 1) _ c1 (show Blk (((w.alloc (.cells ROW 3)).drew.setCells w.heap.size i [Value.int .i64 (x : Int)]).drew) w.heap.size 3 c1 from hB1) (by rw [hdl]; omega)
        have hnew : ∀ S : Nat → Prop, Keeps S w ((((w.alloc (.cells ROW 3)).drew.setCells w.heap.size i [Value.int .i64 (x : Int)]).drew).setCells w.heap.size (i + 1) ((tiC l).drop i)) := fun S => by
          have k0 : Keeps (fun k => k = w.heap.size) w ((w.alloc (.cells ROW 3)).drew) := ((Keeps.refl _ w).alloc _).drew
          have k1 := keepsSets (g := w.heap.size) (S := fun k => k = w.heap.size) rfl [Value.int .i64 (x : Int)] i w _ k0
          have k2 : Keeps (fun k => k = w.heap.size) w (((w.alloc (.cells ROW 3)).drew.setCells w.heap.size i [Value.int .i64 (x : Int)]).drew) := ⟨k1.os, k1.tape, k1.output, k1.size, k1.block⟩
          have k3 := keepsSets (g := w.heap.size) (S := fun k => k = w.heap.size) rfl ((tiC l).drop i) (i + 1) w _ k2
          exact ⟨k3.os, k3.tape, k3.output, k3.size, fun k hk _ => k3.block k hk (by omega)⟩
        show InsPost w base _ l i x _ _
        unfold InsPost
        refine ⟨some ⟨w.heap.size, 0, none⟩, grownCap w (l.length + 1) c 3, rfl, ?_, ?_, fun k hk => .inr (by cases hk; exact Nat.le_refl _)⟩
        · have hw : ((((w.alloc (.cells (((tiC l).take i).toArray ++ Builtin.zeroCells (Value.int .i64 0).cells (l.length + 1 - i) ++ Builtin.zeroCells (Value.int .i64 0).cells (grownCap w (l.length + 1) c 3 - (l.length + 1))) 3)).drew.setCells w.heap.size i [Value.int .i64 (x : Int)]).drew).setCells w.heap.size (i + 1) ((tiC l).drop i)).ownsRow base 3 1 (.slice (some ⟨w.heap.size, 0, none⟩) (l.length + 1) (grownCap w (l.length + 1) c 3)) (l.length + 1) (tiC (l.take i ++ x :: l.drop i)) := by
            rw [hROW]
            refine ins_own hi hB2 hb hG hM ?_ ?_
            · have := congrArg List.length hc2
              simp [tiC_len] at this
              omega
            · rw [hc2, hc1, tiC_ins]
              simp only [List.length_singleton, hRt]
              have hl1 : ((tiC l).take i ++ [Value.int .i64 (x : Int)]).length = i + 1 := by simp [tiC_len]; omega
              rw [List.take_append_of_le_length (l₁ := (tiC l).take i ++ [Value.int .i64 (x : Int)]) (by omega), List.take_of_length_le (l := (tiC l).take i ++ [Value.int .i64 (x : Int)]) (by omega)]
              rw [List.take_append_of_le_length (by simp [tiC_len]; omega)]
              exact List.take_of_length_le (by simp [tiC_len]; omega)
          exact hw
        · have hw : Keeps (fun k => (some (⟨g, 0, none⟩ : Addr)).map Addr.block = some k) w ((((w.alloc (.cells (((tiC l).take i).toArray ++ Builtin.zeroCells (Value.int .i64 0).cells (l.length + 1 - i) ++ Builtin.zeroCells (Value.int .i64 0).cells (grownCap w (l.length + 1) c 3 - (l.length + 1))) 3)).drew.setCells w.heap.size i [Value.int .i64 (x : Int)]).drew).setCells w.heap.size (i + 1) ((tiC l).drop i)) := by
            rw [hROW]
            exact hnew _
          exact hw
end Go.Proofs.YtbfpckomgpkjgaaGreat
