/-
  dag: the document's graph in memory; At.
  A struct of two parts that is written out (as in Tr1).
-/
import Derived.Test.YtbfpckomgpkjgaaGreatDgL
import Derived.Test.YtbfpckomgpkjgaaGreatVals
import Derived.Laws.Tables
import Derived.Deep.RegionHeld
namespace Go.Proofs.YtbfpckomgpkjgaaGreat
open Go.RowKit

/-- A node of the document's graph, with its parents' row. -/
structure RNd where
  id : Hh
  ps : List Hh
  A : Option Addr
  c : Nat
def rnC (x : RNd) : List Value := hC x.id ++ [.slice x.A x.ps.length x.c]
theorem rnC_len (x : RNd) : (rnC x).length = 33 := by simp [rnC, hC_len]
def rnsC (l : List RNd) : List Value := (l.map rnC).flatten
theorem rnsC_len (l : List RNd) : (rnsC l).length = l.length * 33 := by
  induction l with
  | nil => rfl
  | cons x r ih => unfold rnsC at ih ⊢; rw [List.map_cons, List.flatten_cons, List.length_append, rnC_len, ih, List.length_cons]; omega
theorem rnsC_get (l : List RNd) (i j : Nat) (hi : i < l.length) (hj : j < 33) : (rnsC l)[i * 33 + j]? = (rnC l[i])[j]? := flat_get rnC_len l i j hi hj
theorem sees_node {w : World} {B : Nat} {A : Option Addr} {l : List RNd} (h : SeesV w B A (rnsC l)) {i : Nat} (hi : i < l.length) : ∃ b off, A = some ⟨b, off, none⟩ ∧ b < B ∧ ∀ j (hj : j < l.length), w.rangeAt b (off + j * 33) (rnC l[j]) := by
  obtain ⟨b, off, hA, hb, hc⟩ := h.at_ (k := i * 33) (by rw [rnsC_len]; omega)
  refine ⟨b, off, hA, hb, fun j hj k v hk => ?_⟩
  have hk' : k < 33 := by have := (List.getElem?_eq_some_iff.1 hk).1; rw [rnC_len] at this; exact this
  have hlt : j * 33 + k < (rnsC l).length := by rw [rnsC_len]; omega
  have h1 := hc (j * 33 + k) hlt
  have h2 := rnsC_get l j k hj hk'
  rw [List.getElem?_eq_getElem hlt, hk] at h2
  rw [Nat.add_assoc, h1]
  exact h2
theorem node_id {w : World} {b o : Nat} {x : RNd} (h : w.rangeAt b o (rnC x)) : w.rangeAt b o (hC x.id) := fun j v hv => h j v (by unfold rnC; rw [List.getElem?_append_left (List.getElem?_eq_some_iff.1 hv).1]; exact hv)
theorem node_ps {w : World} {b o : Nat} {x : RNd} (h : w.rangeAt b o (rnC x)) : w.cell? ⟨b, o + 32, none⟩ = some (.slice x.A x.ps.length x.c) := h 32 _ (by unfold rnC; rw [List.getElem?_append_right (by rw [hC_len]; exact Nat.le_refl _), hC_len]; rfl)
/-- The document's graph in memory. -/
structure RGm where
  q : Nat
  A : Option Addr
  c : Nat
  l : List RNd
structure RGOk (w : World) (base : Nat) (m : RGm) : Prop where
  b : Blk w m.q 37 #[.slice m.A m.l.length m.c]
  s : SeesV w w.heap.size m.A (rnsC m.l)
  e : ∀ x ∈ m.l, SeesV w w.heap.size x.A (hsC x.ps)
  qb : base ≤ m.q
  nq : ∀ a, m.A = some a → a.block ≠ m.q
  ne : ∀ x ∈ m.l, ∀ a, x.A = some a → a.block ≠ m.q
  max : m.l.length ≤ 1000000
  pm : ∀ x ∈ m.l, x.ps.length ≤ 1000000
theorem RGOk.lt {w : World} {base : Nat} {m : RGm} (h : RGOk w base m) : m.q < w.heap.size := h.b.lt
theorem RGOk.later {w w' : World} {base : Nat} {m : RGm} (h : RGOk w base m) (k : Below w.heap.size w w') : RGOk w' base m :=
  ⟨h.b.below k h.b.lt, (h.s.below k).more k.size, fun x hx => ((h.e x hx).below k).more k.size, h.qb, h.nq, h.ne, h.max, h.pm⟩
noncomputable def atI (l : List RNd) (id : Hh) : Int := match l.findIdx? (fun x => x.id == id) with | some n => (n : Int) | none => -1
theorem atI_at {l : List RNd} {id : Hh} {k : Nat} (hk : k < l.length) (h : l[k].id = id) (hn : ∀ y ∈ l.take k, y.id ≠ id) : atI l id = (k : Int) := by
  have : l.findIdx? (fun x => x.id == id) = some k := by
    rw [List.findIdx?_eq_some_iff_getElem]
    refine ⟨hk, beq_iff_eq.2 h, fun j hj => ?_⟩
    have h1 := hn l[j] (List.mem_take_iff_getElem.2 ⟨j, by omega, rfl⟩)
    exact fun e => h1 (beq_iff_eq.1 e)
  unfold atI
  rw [this]
theorem atI_none {l : List RNd} {id : Hh} (hn : ∀ y ∈ l, y.id ≠ id) : atI l id = -1 := by
  have : l.findIdx? (fun x => x.id == id) = none := by
    rw [List.findIdx?_eq_none_iff]
    intro x hx
    exact beq_eq_false_iff_ne.2 (hn x hx)
  unfold atI
  rw [this]
set_option maxRecDepth 100000 in
set_option maxHeartbeats 2000000 in
theorem rat_any (w : World) (base : Nat) (m : RGm) (x : Hh) (h : RGOk w base m) : Calls Tryz.prog 13 #[.pointer (some ⟨m.q, 0, none⟩), .agg (hC x).toArray] w fun e w' => e = .returned (.int .i64 (atI m.l x)) ∧ Below w.heap.size w w' := by
  have bx : Hid (Blk (w.alloc (.cells (hC x).toArray 23)) w.heap.size 23 (hC x).toArray) := heap_alloc_new w _
  have V : Hid (Below w.heap.size w (w.alloc (.cells (hC x).toArray 23))) := nxAlloc (nxRefl _) _
  have HS := Lib.hid h.s
  have HB0 := Lib.hid h.b
  have HM := Lib.hid h.max
  clear h
  obtain ⟨q, A, c, l⟩ := m
  dsimp only at HS HB0 HM ⊢
  go_enter Tryz.func13, Tryz.ntmps13
  go_wp2
  go_loopw [5] (fun iv wr => ∃ k : Nat, k ≤ l.length ∧ iv = .int .i64 k ∧ Hid (∀ y ∈ l.take k, y.id ≠ x) ∧ Hid (Blk wr w.heap.size 23 (hC x).toArray) ∧ Hid (Below w.heap.size w wr)) (fun iv _ => l.length - (intOf iv).toNat)
  case atStart => exact ⟨0, by omega, rfl, by show ∀ y ∈ _, _; simp, bx, V⟩
  case round =>
    obtain ⟨k, hk, rfl, HN, HB, HV⟩ := hrel
    have hcq : wr.cell? ⟨q, 0, none⟩ = some (.slice A l.length c) := (HB0.out.below HV.out HB0.out.lt).cell 0
    by_cases hlt : k < l.length
    · obtain ⟨b1, f1, rfl, hb1, hr1⟩ := sees_node HS.out hlt
      have hdr : Below wr.heap.size wr wr.drew := nxDr (nxRefl _)
      have HVd : Hid (Below w.heap.size w wr.drew) := HV.out.trans (hdr.mono HV.out.size)
      have r1 : wr.drew.rangeAt b1 (f1 + k * 33) (hC l[k].id) := node_id (rngK (hr1 k hlt) HVd.out hb1)
      have r2 : wr.drew.rangeAt w.heap.size 0 (hC x) := kb_range HB.out
      have r3 : wr.drew.cell? ⟨q, 0, none⟩ = some (.slice (some ⟨b1, f1, none⟩) l.length c) := hcq
      have HBd : Hid (Blk wr.drew w.heap.size 23 (hC x).toArray) := HB.out
      obtain ⟨y, hy⟩ : ∃ y, l[k].id = y := ⟨_, rfl⟩
      have hn2 : l.take (k + 1) = l.take k ++ [l[k]] := List.take_succ_eq_append_getElem hlt
      have hat : y = x → atI l x = (k : Int) := fun e => atI_at hlt (hy.trans e) HN.out
      have hno : y ≠ x → ∀ z ∈ l.take (k + 1), z.id ≠ x := fun e z hz => by
        rw [hn2] at hz
        rcases List.mem_append.1 hz with hz | hz
        · exact HN.out z hz
        · rw [List.mem_singleton] at hz
          rw [hz, hy]
          exact e
      rw [hy] at r1
      have HR1 := Lib.hid r1
      have HR2 := Lib.hid r2
      have HR3 := Lib.hid r3
      have HAt := Lib.hid hat
      have HNo := Lib.hid hno
      have hmx := HM.out
      have hin : (k : Int) < (l.length : Int) := by omega
      obtain ⟨z, hz⟩ : ∃ z, decide (y = x) = z := ⟨_, rfl⟩
      have HZ := Lib.hid hz
      clear hr1 r1 r2 r3 hdr hy hn2 hat hno hz hb1
      go_wp2
      refine wp_region_held_drew (S := fun W => W.cell? ⟨q, 0, none⟩ = some (.slice (some ⟨b1, f1, none⟩) l.length c) ∧ W.rangeAt b1 (f1 + k * 33) (hC y) ∧ W.rangeAt w.heap.size 0 (hC x)) (by kernel_rfl) ⟨HR3.out, HR1.out, HR2.out⟩ (fun hHeld => ?_)
      cases z with
      | true =>
        refine wpAnyH_take (i := 0) (oi := ⟨_, _, _, _, _, _⟩) (v := ?_) rfl (by kernel_rfl) (by kernel_rfl) (by kernel_rfl) (fun _ _ _ h => h) (Or.inl ⟨by rfl, ?_⟩) (by assumption) ?_
        rotate_left 1
        · intro W hSw
          try dsimp only at hSw
          obtain ⟨hs1, hs2, hs3⟩ := hSw
          go_simp
          try with_reducible rfl
        try simp only [Act.put, List.setIfInBounds_toArray, List.set_cons_zero, List.set_cons_succ]
        refine wpAnyH_take (i := 1) (oi := ⟨_, _, _, _, _, _⟩) (v := ?_) rfl (by kernel_rfl) (by kernel_rfl) (by kernel_rfl) (fun _ _ _ h => h) (Or.inl ⟨by rfl, ?_⟩) (by assumption) ?_
        rotate_left 1
        · intro W hSw
          try dsimp only at hSw
          obtain ⟨hs1, hs2, hs3⟩ := hSw
          go_simp
          try with_reducible rfl
        try simp only [Act.put, List.setIfInBounds_toArray, List.set_cons_zero, List.set_cons_succ]
        refine wpAnyH_take (i := 2) (oi := ⟨_, _, _, _, _, _⟩) (v := ?_) rfl (by kernel_rfl) (by kernel_rfl) (by kernel_rfl) (fun _ _ _ h => h) (Or.inl ⟨by rfl, ?_⟩) (by assumption) ?_
        rotate_left 1
        · intro W hSw
          try dsimp only at hSw
          obtain ⟨hs1, hs2, hs3⟩ := hSw
          go_simp
          try with_reducible rfl
        try simp only [Act.put, List.setIfInBounds_toArray, List.set_cons_zero, List.set_cons_succ]
        refine wpAnyH_take (i := 3) (oi := ⟨_, _, _, _, _, _⟩) (v := ?_) rfl (by kernel_rfl) (by kernel_rfl) (by kernel_rfl) (fun _ _ _ h => h) (Or.inl ⟨by rfl, ?_⟩) (by assumption) ?_
        rotate_left 1
        · intro W hSw
          try dsimp only at hSw
          obtain ⟨hs1, hs2, hs3⟩ := hSw
          go_simp
          try with_reducible rfl
        try simp only [Act.put, List.setIfInBounds_toArray, List.set_cons_zero, List.set_cons_succ]
        refine wpAnyH_take (i := 4) (oi := ⟨_, _, _, _, _, _⟩) (v := ?_) rfl (by kernel_rfl) (by kernel_rfl) (by kernel_rfl) (fun _ _ _ h => h) (Or.inl ⟨by rfl, ?_⟩) (by assumption) ?_
        rotate_left 1
        · intro W hSw
          try dsimp only at hSw
          obtain ⟨hs1, hs2, hs3⟩ := hSw
          go_simp
          try with_reducible rfl
        try simp only [Act.put, List.setIfInBounds_toArray, List.set_cons_zero, List.set_cons_succ]
        refine wpAnyH_take (i := 5) (oi := ⟨_, _, _, _, _, _⟩) (v := ?_) rfl (by kernel_rfl) (by kernel_rfl) (by kernel_rfl) (fun _ _ _ h => h) (Or.inl ⟨by rfl, ?_⟩) (by assumption) ?_
        rotate_left 1
        · intro W hSw
          try dsimp only at hSw
          obtain ⟨hs1, hs2, hs3⟩ := hSw
          go_simp
          try with_reducible rfl
        try simp only [Act.put, List.setIfInBounds_toArray, List.set_cons_zero, List.set_cons_succ]
        refine wpAnyH_take (i := 6) (oi := ⟨_, _, _, _, _, _⟩) (v := ?_) rfl (by kernel_rfl) (by kernel_rfl) (by kernel_rfl) (fun _ _ _ h => h) (Or.inl ⟨by rfl, ?_⟩) (by assumption) ?_
        rotate_left 1
        · intro W hSw
          try dsimp only at hSw
          obtain ⟨hs1, hs2, hs3⟩ := hSw
          go_simp
          try with_reducible rfl
        try simp only [Act.put, List.setIfInBounds_toArray, List.set_cons_zero, List.set_cons_succ]
        refine wpAnyH_take (i := 7) (oi := ⟨_, _, _, _, _, _⟩) (v := .agg (hC y).toArray) rfl (by kernel_rfl) (by kernel_rfl) (by kernel_rfl) (fun _ _ _ h => h) (yieldsIf_load_mid (by rfl) 23 (.tmp 21) rfl b1 (f1 + k * 33) rfl (hC y) _ (fun W h => h.2.1) Tryz.underlying23 rfl (hszL y)) (by assumption) ?_
        try simp only [Act.put, List.setIfInBounds_toArray, List.set_cons_zero, List.set_cons_succ]
        refine wpAnyH_take (i := 8) (oi := ⟨_, _, _, _, _, _⟩) (v := .agg (hC x).toArray) rfl (by kernel_rfl) (by kernel_rfl) (by kernel_rfl) (fun _ _ _ h => h) (yieldsIf_load_mid (by rfl) 23 (.tmp 3) rfl w.heap.size 0 rfl (hC x) _ (fun W h => h.2.2) Tryz.underlying23 rfl (hszL x)) (by assumption) ?_
        try simp only [Act.put, List.setIfInBounds_toArray, List.set_cons_zero, List.set_cons_succ]
        refine wpAnyH_take (i := 9) (oi := ⟨_, _, _, _, _, _⟩) (v := .bool true) rfl (by kernel_rfl) (by kernel_rfl) (by kernel_rfl) (fun _ _ _ h => h) (yieldsIf_eqH (by rfl) 23 (.tmp 22) (.tmp 23) rfl y x rfl rfl true HZ.out) (by assumption) ?_
        try simp only [Act.put, List.setIfInBounds_toArray, List.set_cons_zero, List.set_cons_succ]
        refine wpAnyH_done (by kernel_rfl) ?_ _
        have HD : Hid (atI l x = (k : Int)) := HAt.out (of_decide_eq_true HZ.out)
        go_wp2
        go_ret
        exact ⟨by rw [HD.out]; rfl, HVd.out⟩
      | false =>
        refine wpAnyH_take (i := 0) (oi := ⟨_, _, _, _, _, _⟩) (v := ?_) rfl (by kernel_rfl) (by kernel_rfl) (by kernel_rfl) (fun _ _ _ h => h) (Or.inl ⟨by rfl, ?_⟩) (by assumption) ?_
        rotate_left 1
        · intro W hSw
          try dsimp only at hSw
          obtain ⟨hs1, hs2, hs3⟩ := hSw
          go_simp
          try with_reducible rfl
        try simp only [Act.put, List.setIfInBounds_toArray, List.set_cons_zero, List.set_cons_succ]
        refine wpAnyH_take (i := 1) (oi := ⟨_, _, _, _, _, _⟩) (v := ?_) rfl (by kernel_rfl) (by kernel_rfl) (by kernel_rfl) (fun _ _ _ h => h) (Or.inl ⟨by rfl, ?_⟩) (by assumption) ?_
        rotate_left 1
        · intro W hSw
          try dsimp only at hSw
          obtain ⟨hs1, hs2, hs3⟩ := hSw
          go_simp
          try with_reducible rfl
        try simp only [Act.put, List.setIfInBounds_toArray, List.set_cons_zero, List.set_cons_succ]
        refine wpAnyH_take (i := 2) (oi := ⟨_, _, _, _, _, _⟩) (v := ?_) rfl (by kernel_rfl) (by kernel_rfl) (by kernel_rfl) (fun _ _ _ h => h) (Or.inl ⟨by rfl, ?_⟩) (by assumption) ?_
        rotate_left 1
        · intro W hSw
          try dsimp only at hSw
          obtain ⟨hs1, hs2, hs3⟩ := hSw
          go_simp
          try with_reducible rfl
        try simp only [Act.put, List.setIfInBounds_toArray, List.set_cons_zero, List.set_cons_succ]
        refine wpAnyH_take (i := 3) (oi := ⟨_, _, _, _, _, _⟩) (v := ?_) rfl (by kernel_rfl) (by kernel_rfl) (by kernel_rfl) (fun _ _ _ h => h) (Or.inl ⟨by rfl, ?_⟩) (by assumption) ?_
        rotate_left 1
        · intro W hSw
          try dsimp only at hSw
          obtain ⟨hs1, hs2, hs3⟩ := hSw
          go_simp
          try with_reducible rfl
        try simp only [Act.put, List.setIfInBounds_toArray, List.set_cons_zero, List.set_cons_succ]
        refine wpAnyH_take (i := 4) (oi := ⟨_, _, _, _, _, _⟩) (v := ?_) rfl (by kernel_rfl) (by kernel_rfl) (by kernel_rfl) (fun _ _ _ h => h) (Or.inl ⟨by rfl, ?_⟩) (by assumption) ?_
        rotate_left 1
        · intro W hSw
          try dsimp only at hSw
          obtain ⟨hs1, hs2, hs3⟩ := hSw
          go_simp
          try with_reducible rfl
        try simp only [Act.put, List.setIfInBounds_toArray, List.set_cons_zero, List.set_cons_succ]
        refine wpAnyH_take (i := 5) (oi := ⟨_, _, _, _, _, _⟩) (v := ?_) rfl (by kernel_rfl) (by kernel_rfl) (by kernel_rfl) (fun _ _ _ h => h) (Or.inl ⟨by rfl, ?_⟩) (by assumption) ?_
        rotate_left 1
        · intro W hSw
          try dsimp only at hSw
          obtain ⟨hs1, hs2, hs3⟩ := hSw
          go_simp
          try with_reducible rfl
        try simp only [Act.put, List.setIfInBounds_toArray, List.set_cons_zero, List.set_cons_succ]
        refine wpAnyH_take (i := 6) (oi := ⟨_, _, _, _, _, _⟩) (v := ?_) rfl (by kernel_rfl) (by kernel_rfl) (by kernel_rfl) (fun _ _ _ h => h) (Or.inl ⟨by rfl, ?_⟩) (by assumption) ?_
        rotate_left 1
        · intro W hSw
          try dsimp only at hSw
          obtain ⟨hs1, hs2, hs3⟩ := hSw
          go_simp
          try with_reducible rfl
        try simp only [Act.put, List.setIfInBounds_toArray, List.set_cons_zero, List.set_cons_succ]
        refine wpAnyH_take (i := 7) (oi := ⟨_, _, _, _, _, _⟩) (v := .agg (hC y).toArray) rfl (by kernel_rfl) (by kernel_rfl) (by kernel_rfl) (fun _ _ _ h => h) (yieldsIf_load_mid (by rfl) 23 (.tmp 21) rfl b1 (f1 + k * 33) rfl (hC y) _ (fun W h => h.2.1) Tryz.underlying23 rfl (hszL y)) (by assumption) ?_
        try simp only [Act.put, List.setIfInBounds_toArray, List.set_cons_zero, List.set_cons_succ]
        refine wpAnyH_take (i := 8) (oi := ⟨_, _, _, _, _, _⟩) (v := .agg (hC x).toArray) rfl (by kernel_rfl) (by kernel_rfl) (by kernel_rfl) (fun _ _ _ h => h) (yieldsIf_load_mid (by rfl) 23 (.tmp 3) rfl w.heap.size 0 rfl (hC x) _ (fun W h => h.2.2) Tryz.underlying23 rfl (hszL x)) (by assumption) ?_
        try simp only [Act.put, List.setIfInBounds_toArray, List.set_cons_zero, List.set_cons_succ]
        refine wpAnyH_take (i := 9) (oi := ⟨_, _, _, _, _, _⟩) (v := .bool false) rfl (by kernel_rfl) (by kernel_rfl) (by kernel_rfl) (fun _ _ _ h => h) (yieldsIf_eqH (by rfl) 23 (.tmp 22) (.tmp 23) rfl y x rfl rfl false HZ.out) (by assumption) ?_
        try simp only [Act.put, List.setIfInBounds_toArray, List.set_cons_zero, List.set_cons_succ]
        refine wpAnyH_done (by kernel_rfl) ?_ _
        have HN3 : Hid (∀ z ∈ l.take (k + 1), z.id ≠ x) := HNo.out (of_decide_eq_false HZ.out)
        go_wp2
        go_roundw
        case rel => exact ⟨k + 1, by omega, by go_num, HN3, HBd, HVd⟩
        case measure => simp [intOf] <;> omega
    · obtain rfl : k = l.length := by omega
      have HD : Hid (atI l x = -1) := atI_none (by have := HN.out; rwa [List.take_length] at this)
      go_wp2
      go_ret
      exact ⟨by rw [HD.out]; rfl, HV.out⟩
end Go.Proofs.YtbfpckomgpkjgaaGreat

namespace Go.Proofs.YtbfpckomgpkjgaaGreat
open Go.RowKit

theorem foldl_put (off : Nat) (vs : List Value) : ∀ (k : Nat) (l : List Value), off + k + vs.length ≤ l.length →
    (vs.zipIdx k).foldl (fun (cs : Array Value) (p : Value × Nat) => cs.setIfInBounds (off + p.2) p.1) l.toArray = (l.take (off + k) ++ vs ++ l.drop (off + k + vs.length)).toArray := by
  induction vs with
  | nil => intro k l h; simp
  | cons v r ih =>
    intro k l h
    simp only [List.length_cons] at h
    rw [List.zipIdx_cons, List.foldl_cons, List.setIfInBounds_toArray, ih (k + 1) _ (by rw [List.length_set]; omega)]
    congr 1
    have h1 : (l.set (off + k) v).take (off + (k + 1)) = l.take (off + k) ++ [v] := by
      rw [← Nat.add_assoc, List.take_succ_eq_append_getElem (by rw [List.length_set]; omega), List.getElem_set_self, List.take_set_of_le (Nat.le_refl _)]
    have h2 : (l.set (off + k) v).drop (off + (k + 1) + r.length) = l.drop (off + k + (r.length + 1)) := by
      rw [List.drop_set_of_lt (by omega)]; congr 1; omega
    rw [h1, h2, List.append_assoc, List.append_assoc]; simp
theorem fill_pair (place : Nat → Option (Nat × Nat)) (z a b : List Value) (va vb : Value) (ha : va.cells = a.toArray) (hb : vb.cells = b.toArray) (h0 : place 0 = some (0, a.length)) (h1 : place 1 = some (a.length, b.length)) (hz : z.length = a.length + b.length) :
    Instr.fill place z.toArray [(0, va), (1, vb)] = some (a ++ b).toArray := by
  have f0 := foldl_put 0 a 0 z (by omega)
  simp only [Nat.zero_add, List.take_zero, List.nil_append] at f0
  have f1 := foldl_put a.length b 0 (a ++ z.drop a.length) (by rw [List.length_append, List.length_drop]; omega)
  have hd : (a ++ z.drop a.length).drop (a.length + b.length) = [] := List.drop_eq_nil_of_le (by rw [List.length_append, List.length_drop]; omega)
  rw [Nat.add_zero, List.take_append_of_le_length (Nat.le_refl _), List.take_length, hd, List.append_nil] at f1
  unfold Instr.fill
  simp only [h0, ha, Nat.zero_add, List.size_toArray]
  rw [if_neg (by simp; omega)]
  have e0 : ∀ (u : Array Value), u = a.toArray → (u.zipIdx.foldl (fun (cs : Array Value) (p : Value × Nat) => cs.setIfInBounds p.2 p.1) z.toArray) = (a ++ z.drop a.length).toArray := by
    intro u hu
    subst hu
    rw [← f0]
    simp
  rw [e0 _ rfl]
  unfold Instr.fill
  simp only [h1, hb, List.size_toArray]
  rw [if_neg (by simp; omega)]
  unfold Instr.fill
  rw [← f1]
  simp
theorem infoP {P : Program} {t : TypeId} {z : Value} {s b : Nat} (h : (P.info? t).map (fun i => (i.zero, i.size, i.bytes)) = some (some z, s, b)) : ∃ i, P.info? t = some i ∧ i.zero = some z ∧ i.size = s ∧ i.bytes = b := by
  cases hi : P.info? t with
  | none => rw [hi] at h; cases h
  | some i => rw [hi] at h; simp at h; exact ⟨i, rfl, h.1, h.2.1, h.2.2⟩
theorem built_struct {P : Program} {t : TypeId} {i0 : TypeInfo} {z : Value} {fs : Array Field} {places : List (Nat × Nat)} (hi : P.info? t = some i0) (hz : i0.zero = some z) (hu : P.underlying t = some (.struct fs))
    (hp : fs.toList.mapM (fun f => (P.info? f.type).map fun i => (f.offset, i.size)) = some places) (parts : List (Nat × Value)) : P.built t parts = Instr.fill (places.toArray[·]?) z.cells parts := by
  unfold Program.built
  simp only [hi, hu, hz, hp]
theorem yieldsIf_build2 {P : Program} {ops : Array Oper} {S : World → Prop} {o : Oper} {a : Act} (hw : Region.wanted o (yielded ops a.tmps) = true) (t : TypeId) (x y : Operand) (ho : o.op = .build t #[(0, x), (1, y)])
    (vx vy v : Value) (hx : a.eval x = vx) (hy : a.eval y = vy) (hr : ∀ wq, (Instr.build t #[(0, vx), (1, vy)]).run P wq = .ok v wq) : YieldsIf P ops S o v a :=
  .inl ⟨hw, fun w _ => by
    unfold execOp
    have e : (#[(0, x), (1, y)].map fun (p : Nat × Operand) => (p.1, a.eval p.2)) = #[(0, vx), (1, vy)] := by simp [hx, hy]
    simp only [ho, e, Sem.run_bind, hr, Result.andThen_ok]
    rfl⟩
end Go.Proofs.YtbfpckomgpkjgaaGreat
