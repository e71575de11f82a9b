/-
  TxBounds, the walk.
-/
import Derived.Test.YtckomfffilonlaaDoorTbA
namespace Go.Proofs.YtckomfffilonlaaDoor
open Go.RowKit

def StoredB (g : Nat) (A B : Option Addr) : Nat → Prop := fun b => b = g ∨ A.map (·.block) = some b ∨ B.map (·.block) = some b
theorem full_slice {t e : TypeId} {w : World} {B : Nat} {A : Option Addr} {xs : List Value} {c : Nat} (size : Nat) (ht : Tryd.prog.underlying t = some (.slice e)) (hi : (Tryd.prog.info? e).map (·.size) = some size) (h : SeesV w B A xs) (hc : 64 ≤ c) (hm : c ≤ maxLen) :
    ∃ A1, SeesV w B A1 xs ∧ ∀ wq, (Instr.slice t (.slice A 64 c) none (some (.int .i64 64)) (some (.int .i64 64))).run Tryd.prog wq = .ok (.slice A1 64 64) wq := by
  obtain ⟨i0, hi0, hz1⟩ : ∃ i, Tryd.prog.info? e = some i ∧ i.size = size := by
    cases hq : Tryd.prog.info? e with
    | none => rw [hq] at hi; cases hi
    | some i => rw [hq] at hi; simp at hi; exact ⟨i, rfl, hi⟩
  unfold maxLen at hm
  refine ⟨A.map (·.add (0 * size)), ?_, fun wq => ?_⟩
  · have := h.drop 0
    simpa using this
  · simp [Instr.slice, run_underlying ht, Instr.sliceBounds, run_sliceBound wq .i64 (64 : Int) c _ (by omega) (by omega), run_sliceBound wq .i64 (64 : Int) 64 _ (by omega) (by omega), sizeOf, typeInfo, hi0, hz1]
theorem tail_slice {t e : TypeId} {w : World} {B : Nat} {A : Option Addr} {xs : List Value} {c : Nat} (size : Nat) (ht : Tryd.prog.underlying t = some (.slice e)) (hi : (Tryd.prog.info? e).map (·.size) = some size) (h : SeesV w B A xs) (hc : 64 ≤ c) (hm : c ≤ maxLen) :
    ∃ A1, SeesV w B A1 (xs.drop size) ∧ ∀ wq, (Instr.slice t (.slice A 64 c) (some (.int .i64 1)) none none).run Tryd.prog wq = .ok (.slice A1 63 (c - 1)) wq := by
  obtain ⟨i0, hi0, hz1⟩ : ∃ i, Tryd.prog.info? e = some i ∧ i.size = size := by
    cases hq : Tryd.prog.info? e with
    | none => rw [hq] at hi; cases hi
    | some i => rw [hq] at hi; simp at hi; exact ⟨i, rfl, hi⟩
  unfold maxLen at hm
  refine ⟨A.map (·.add (1 * size)), ?_, fun wq => ?_⟩
  · have := h.drop size
    simpa using this
  · have hne : ¬ c = 1 := by omega
    simp [Instr.slice, run_underlying ht, Instr.sliceBounds, run_sliceBound wq .i64 (1 : Int) 64 _ (by omega) (by omega), sizeOf, typeInfo, hi0, hz1, hne]

def BoundsAt (w wr : World) (k : Nat) (l : List InR) (A1 : Option Addr) (e1 : Nat) (A2 : Option Addr) (e2 : Nat) : Prop :=
  l.map inP = bIs k ∧ Blk wr w.heap.size 26 #[.slice A1 k e1, .slice A2 k e2, .int .u64 0] ∧ wr.ownsRow (w.heap.size + 1) 46 34 (.slice A1 k e1) k (insC l) ∧ wr.ownsRow (w.heap.size + 1) 49 33 (.slice A2 k e2) k (outsC (List.replicate k bO)) ∧
  (∀ j, A1.map (·.block) = some j → A2.map (·.block) ≠ some j) ∧ Kept (StoredB w.heap.size A1 A2) wr (fun W => ∀ i ∈ l, InOk W i) ∧ Below w.heap.size w wr
theorem own_cmS {w : World} {base size n c : Nat} {A : Option Addr} {e : TypeId} {xs : List Value} (h : w.ownsRow base e size (.slice A n c) n xs) : n ≤ c ∧ c ≤ maxLen := by
  rcases h.2 with ⟨hv, h0⟩ | ⟨g, cap, cur, hv, _, _, hnc, hcm, _⟩
  · injection hv with _ _ h3; unfold maxLen; omega
  · injection hv with _ _ h3; omega
theorem keeps_own {w w' : World} {row : Option Nat} (h : w.grownBy w' row) : Keeps (fun b => row = some b) w w' := ⟨h.os, h.tape, h.output, h.size, fun b hb hn => h.block b hb (fun e => hn e.symm)⟩
/-- The row of inputs has grown by one, and t's first cell is stored. -/
theorem bounds_in {w wr W7 w5 : World} {k : Nat} {l : List InR} {A1 A2 A5 : Option Addr} {e1 e2 e5 : Nat} (h : BoundsAt w wr k l A1 e1 A2 e2) (h7 : Below wr.heap.size wr W7) (i : InR) (hi : inP i = bI k) (hio : InOk W7 i) (hia : ∀ ad, i.A = some ad → wr.heap.size ≤ ad.block ∧ ad.block < W7.heap.size)
    (ho : w5.ownsRow (w.heap.size + 1) 46 34 (.slice A5 (k + 1) e5) (k + 1) (insC l ++ inC i)) (hg : W7.grownBy w5 (A1.map (·.block))) (hv : A5.map (·.block) = A1.map (·.block) ∨ A5.map (·.block) = some W7.heap.size) :
    let w6 := w5.setCell ⟨w.heap.size, 0, none⟩ (.slice A5 (k + 1) e5)
    (l ++ [i]).map inP = bIs (k + 1) ∧ Blk w6 w.heap.size 26 #[.slice A5 (k + 1) e5, .slice A2 k e2, .int .u64 0] ∧ w6.ownsRow (w.heap.size + 1) 46 34 (.slice A5 (k + 1) e5) (k + 1) (insC (l ++ [i])) ∧ w6.ownsRow (w.heap.size + 1) 49 33 (.slice A2 k e2) k (outsC (List.replicate k bO)) ∧
    (∀ j, A5.map (·.block) = some j → A2.map (·.block) ≠ some j) ∧ Kept (StoredB w.heap.size A5 A2) w6 (fun W => ∀ j ∈ l ++ [i], InOk W j) ∧ Below w.heap.size w w6 := by
  obtain ⟨hl, hB, h1, h2, hne, hk, hb⟩ := h
  have o1 : ∀ j, A1.map (·.block) = some j → w.heap.size + 1 ≤ j ∧ j < wr.heap.size := fun j hj => own_lt h1 j (by rw [own_blk]; exact hj)
  have o2 : ∀ j, A2.map (·.block) = some j → w.heap.size + 1 ≤ j ∧ j < wr.heap.size := fun j hj => own_lt h2 j (by rw [own_blk]; exact hj)
  have o5 : ∀ j, A5.map (·.block) = some j → w.heap.size + 1 ≤ j := fun j hj => (own_lt ho j (by rw [own_blk]; exact hj)).1
  have K75 := keeps_own hg
  have K56 : Keeps (· = w.heap.size) w5 (w5.setCell ⟨w.heap.size, 0, none⟩ (.slice A5 (k + 1) e5)) := (Keeps.refl (· = w.heap.size) w5).setCell (p := ⟨w.heap.size, 0, none⟩) rfl _
  have K : Keeps (fun b => b = w.heap.size ∨ A1.map (·.block) = some b) wr (w5.setCell ⟨w.heap.size, 0, none⟩ (.slice A5 (k + 1) e5)) :=
    ((Keeps.of_below h7 _).trans (K75.mono (fun _ _ h => .inr h))).trans (K56.mono (fun _ _ h => .inl h))
  have hB5 : Blk w5 w.heap.size 26 #[.slice A1 k e1, .slice A2 k e2, .int .u64 0] := (hB.below h7 hB.lt).keeps K75 (fun h => by have := (o1 _ h).1; omega)
  refine ⟨by rw [List.map_append, hl, bIs_next]; simp [hi], hB5.set 0 _, ?_, ?_, ?_, ?_, ?_⟩
  · rw [insC_snoc]
    exact own_keepsS ho K56 (fun j hj h => by rw [own_blk] at hj; have := o5 j hj; omega)
  · exact own_keepsS h2 K (fun j hj h => by
      rw [own_blk] at hj
      have := o2 j hj
      rcases h with h | h
      · omega
      · exact hne j h hj)
  · intro j hj h
    rcases hv with e | e
    · rw [e] at hj; exact hne j hj h
    · rw [e] at hj; injection hj with hj; have := (o2 j h).2; have := h7.size; omega
  · refine Kept.snoc (hk.step (K.mono (fun _ _ h => h.imp id .inl)) (fun b hb h => ?_)) ?_
    · rcases h with h | h | h
      · exact .inl h
      · rcases hv with e | e
        · rw [e] at h; exact .inr (.inl h)
        · rw [e] at h; injection h with h; have := h7.size; omega
      · exact .inr (.inr h)
    · refine in_kept (in_kept (S := fun b => b = w.heap.size ∨ A1.map (·.block) = some b) hio (fun ad e h => ?_) _ ((K75.mono (fun _ _ h => .inr h)).trans (K56.mono (fun _ _ h => .inl h)))) (fun ad e h => ?_)
      · have := hia ad e
        rcases h with h | h
        · have := hB.lt; omega
        · have := (o1 _ h).2; omega
      · have g1 := hia ad e
        rcases h with h | h | h
        · have := hB.lt; omega
        · rcases hv with q | q
          · rw [q] at h; have := (o1 _ h).2; omega
          · rw [q] at h; injection h with h; omega
        · have := (o2 _ h).2; omega
  · exact hb.trans (K.below hb.size (fun j hj h => by
      rcases h with h | h
      · omega
      · have := (o1 _ h).1; omega))
/-- The row of outputs has grown by one, and t's second cell is stored. -/
theorem bounds_out {w w6 W8 w9 : World} {k : Nat} {l : List InR} {A5 A2 A6 : Option Addr} {e5 e2 e6 : Nat} (hl : l.map inP = bIs (k + 1)) (hB : Blk w6 w.heap.size 26 #[.slice A5 (k + 1) e5, .slice A2 k e2, .int .u64 0]) (h1 : w6.ownsRow (w.heap.size + 1) 46 34 (.slice A5 (k + 1) e5) (k + 1) (insC l)) (h2 : w6.ownsRow (w.heap.size + 1) 49 33 (.slice A2 k e2) k (outsC (List.replicate k bO)))
    (hne : ∀ j, A5.map (·.block) = some j → A2.map (·.block) ≠ some j) (hk : Kept (StoredB w.heap.size A5 A2) w6 (fun W => ∀ j ∈ l, InOk W j)) (hb : Below w.heap.size w w6) (h8 : Below w6.heap.size w6 W8)
    (ho : w9.ownsRow (w.heap.size + 1) 49 33 (.slice A6 (k + 1) e6) (k + 1) (outsC (List.replicate k bO) ++ outC bO)) (hg : W8.grownBy w9 (A2.map (·.block))) (hv : A6.map (·.block) = A2.map (·.block) ∨ A6.map (·.block) = some W8.heap.size) :
    BoundsAt w (w9.setCell ⟨w.heap.size, 1, none⟩ (.slice A6 (k + 1) e6)) (k + 1) l A5 e5 A6 e6 := by
  have o1 : ∀ j, A5.map (·.block) = some j → w.heap.size + 1 ≤ j ∧ j < w6.heap.size := fun j hj => own_lt h1 j (by rw [own_blk]; exact hj)
  have o2 : ∀ j, A2.map (·.block) = some j → w.heap.size + 1 ≤ j ∧ j < w6.heap.size := fun j hj => own_lt h2 j (by rw [own_blk]; exact hj)
  have o5 : ∀ j, A6.map (·.block) = some j → w.heap.size + 1 ≤ j := fun j hj => (own_lt ho j (by rw [own_blk]; exact hj)).1
  have K89 := keeps_own hg
  have K9 : Keeps (· = w.heap.size) w9 (w9.setCell ⟨w.heap.size, 1, none⟩ (.slice A6 (k + 1) e6)) := (Keeps.refl (· = w.heap.size) w9).setCell (p := ⟨w.heap.size, 1, none⟩) rfl _
  have K : Keeps (fun b => b = w.heap.size ∨ A2.map (·.block) = some b) w6 (w9.setCell ⟨w.heap.size, 1, none⟩ (.slice A6 (k + 1) e6)) :=
    ((Keeps.of_below h8 _).trans (K89.mono (fun _ _ h => .inr h))).trans (K9.mono (fun _ _ h => .inl h))
  have hB9 : Blk w9 w.heap.size 26 #[.slice A5 (k + 1) e5, .slice A2 k e2, .int .u64 0] := (hB.below h8 hB.lt).keeps K89 (fun h => by have := (o2 _ h).1; omega)
  refine ⟨hl, hB9.set 1 _, ?_, ?_, ?_, ?_, ?_⟩
  · exact own_keepsS h1 K (fun j hj h => by
      rw [own_blk] at hj
      have := o1 j hj
      rcases h with h | h
      · omega
      · exact hne j hj h)
  · rw [List.replicate_succ', outsC_snoc]
    exact own_keepsS ho K9 (fun j hj h => by rw [own_blk] at hj; have := o5 j hj; omega)
  · intro j hj h
    rcases hv with e | e
    · rw [e] at h; exact hne j hj h
    · rw [e] at h; injection h with h; have := (o1 j hj).2; have := h8.size; omega
  · refine hk.step (K.mono (fun _ _ h => h.imp id .inr)) (fun b hb h => ?_)
    rcases h with h | h | h
    · exact .inl h
    · exact .inr (.inl h)
    · rcases hv with e | e
      · rw [e] at h; exact .inr (.inr h)
      · rw [e] at h; injection h with h; have := h8.size; omega
  · exact hb.trans (K.below hb.size (fun j hj h => by
      rcases h with h | h
      · omega
      · have := (o2 _ h).1; omega))
end Go.Proofs.YtckomfffilonlaaDoor
