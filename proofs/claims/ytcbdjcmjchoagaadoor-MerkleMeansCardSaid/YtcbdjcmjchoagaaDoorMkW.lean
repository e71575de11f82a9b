/-
  merkle: a trail: its texts, and how they lie in memory.
-/
import Derived.Test.YtcbdjcmjchoagaaDoorMkV
namespace Go.Proofs.YtcbdjcmjchoagaaDoor
open Go.RowKit

/-- The texts of the knots on the way. -/
def trR (x : List UInt8) (n c : Nat) (hs : List (List UInt8)) : List (ByteArray × List UInt8) :=
  if h : c ≤ 1 then [] else if aloneB n c = true then trR x (n / 2) ((c + 1) / 2) hs
  else if n % 2 = 0 then (nmKnot, x ++ hs.getD 0 default) :: trR (knotB x (hs.getD 0 default)) (n / 2) ((c + 1) / 2) (hs.drop 1)
  else (nmKnot, hs.getD 0 default ++ x) :: trR (knotB (hs.getD 0 default) x) (n / 2) ((c + 1) / 2) (hs.drop 1)
termination_by c
decreasing_by all_goals omega
theorem trR_one {x : List UInt8} {n c : Nat} {hs : List (List UInt8)} (h : c ≤ 1) : trR x n c hs = [] := by rw [trR, dif_pos h]
theorem trR_alone {x : List UInt8} {n c : Nat} {hs : List (List UInt8)} (h : ¬ c ≤ 1) (ha : aloneB n c = true) : trR x n c hs = trR x (n / 2) ((c + 1) / 2) hs := by rw [trR, dif_neg h, if_pos ha]
theorem trR_even {x : List UInt8} {n c : Nat} {hs : List (List UInt8)} (h : ¬ c ≤ 1) (ha : ¬ aloneB n c = true) (he : n % 2 = 0) : trR x n c hs = (nmKnot, x ++ hs.getD 0 default) :: trR (knotB x (hs.getD 0 default)) (n / 2) ((c + 1) / 2) (hs.drop 1) := by rw [trR, dif_neg h, if_neg ha, if_pos he]
theorem trR_odd {x : List UInt8} {n c : Nat} {hs : List (List UInt8)} (h : ¬ c ≤ 1) (ha : ¬ aloneB n c = true) (he : ¬ n % 2 = 0) : trR x n c hs = (nmKnot, hs.getD 0 default ++ x) :: trR (knotB (hs.getD 0 default) x) (n / 2) ((c + 1) / 2) (hs.drop 1) := by rw [trR, dif_neg h, if_neg ha, if_neg he]
/-- A whole trail. -/
def trailL (id : List UInt8) (n c : Nat) (hs : List (List UInt8)) : List (ByteArray × List UInt8) := ((nmLeaf, id) :: trR (leafB id) n c hs) ++ [(nmRoot, le8 c ++ ldR knotB (leafB id) n c hs)]

/-- Bytes in a block that is neither of the two. -/
def Body (w : World) (rb : Option Nat) (a : Nat) (A : Option Addr) (l : List UInt8) : Prop :=
  ∃ b off, A = some ⟨b, off, none⟩ ∧ some b ≠ rb ∧ b ≠ a ∧ b < w.heap.size ∧ ∀ i (h : i < l.length), w.cell? ⟨b, off + i, none⟩ = some (.int .u8 (l[i].toNat : Int))
section
variable {w w' : World} {rb rb' : Option Nat} {a : Nat} {A : Option Addr} {l : List UInt8}
theorem Body.sees (h : Body w rb a A l) : Sees w w.heap.size A l := by
  obtain ⟨b, off, h1, _, _, h4, h5⟩ := h
  exact .inr ⟨b, off, h1, h4, h5⟩
theorem Body.of (h : Sees w w.heap.size A l) (hl : 1 ≤ l.length) (hr : ∀ ad, A = some ad → some ad.block ≠ rb ∧ ad.block ≠ a) : Body w rb a A l := by
  rcases h with h | ⟨b, off, h1, h2, h3⟩
  · subst h; simp at hl
  · exact ⟨b, off, h1, (hr _ h1).1, (hr _ h1).2, h2, h3⟩
theorem Body.keep (h : Body w rb a A l) (hs : w.heap.size ≤ w'.heap.size) (hk : ∀ b, b < w.heap.size → some b ≠ rb → b ≠ a → w'.heap[b]? = w.heap[b]?) (hr : rb' = rb ∨ rb' = some w.heap.size) : Body w' rb' a A l := by
  obtain ⟨b, off, h1, h2, h3, h4, h5⟩ := h
  refine ⟨b, off, h1, ?_, h3, by omega, fun i hi => (World.cell?_of_block (hk b h4 h2 h3)).trans (h5 i hi)⟩
  rcases hr with rfl | rfl
  · exact h2
  · intro e; injection e with e; omega
end

/-- A row of texts as cells. -/
def TxV (w : World) (rb : Option Nat) (a : Nat) (T : List (ByteArray × List UInt8)) (vs : List Value) : Prop :=
  vs.length = T.length * 2 ∧ ∀ i (h : i < T.length), ∃ A c, vs[i * 2]? = some (.string T[i].1) ∧ vs[i * 2 + 1]? = some (.slice A T[i].2.length c) ∧ T[i].2.length ≤ c ∧ Body w rb a A T[i].2
section
variable {w w' : World} {rb rb' : Option Nat} {a : Nat} {A : Option Addr} {l : List UInt8} {T : List (ByteArray × List UInt8)} {vs : List Value}
theorem TxV.nil : TxV w rb a [] [] := ⟨rfl, fun i h => by simp at h⟩
theorem TxV.snoc {nm : ByteArray} {c : Nat} (h : TxV w rb a T vs) (hc : l.length ≤ c) (hb : Body w rb a A l) : TxV w rb a (T ++ [(nm, l)]) (vs ++ [.string nm, .slice A l.length c]) := by
  obtain ⟨h1, h2⟩ := h
  refine ⟨by simp; omega, fun i hi => ?_⟩
  by_cases hlt : i < T.length
  · obtain ⟨A', c', g1, g2, g3, g4⟩ := h2 i hlt
    refine ⟨A', c', ?_, ?_, ?_, ?_⟩
    · rw [List.getElem?_append_left (by omega), List.getElem_append_left hlt]; exact g1
    · rw [List.getElem?_append_left (by omega), List.getElem_append_left hlt]; exact g2
    · rw [List.getElem_append_left hlt]; exact g3
    · rw [List.getElem_append_left hlt]; exact g4
  · obtain rfl : i = T.length := by simp at hi; omega
    have e : (T ++ [(nm, l)])[T.length] = (nm, l) := by simp
    rw [e]
    refine ⟨A, c, ?_, ?_, hc, hb⟩
    · rw [List.getElem?_append_right (by omega), h1]; simp
    · rw [List.getElem?_append_right (by omega), h1]; simp
theorem TxV.keep (h : TxV w rb a T vs) (hs : w.heap.size ≤ w'.heap.size) (hk : ∀ b, b < w.heap.size → some b ≠ rb → b ≠ a → w'.heap[b]? = w.heap[b]?) (hr : rb' = rb ∨ rb' = some w.heap.size) : TxV w' rb' a T vs := by
  obtain ⟨h1, h2⟩ := h
  refine ⟨h1, fun i hi => ?_⟩
  obtain ⟨A', c', g1, g2, g3, g4⟩ := h2 i hi
  exact ⟨A', c', g1, g2, g3, g4.keep hs hk hr⟩
theorem TxV.later (h : TxV w rb a T vs) (hb : Below w.heap.size w w') : TxV w' rb a T vs := h.keep hb.size (fun b hb' _ _ => hb.block b hb') (.inl rfl)
theorem TxV.grown (h : TxV w rb a T vs) (hg : w.grownBy w' rb) (hr : rb' = rb ∨ rb' = some w.heap.size) : TxV w' rb' a T vs := h.keep hg.size (fun b hb' h1 _ => hg.block b hb' h1) hr
theorem TxV.stored (h : TxV w rb a T vs) (hk : Keeps (· = a) w w') (hs : w.heap.size ≤ w'.heap.size) : TxV w' rb a T vs := h.keep hs (fun b hb' _ h2 => hk.block b hb' h2) (.inl rfl)
theorem Body.later (h : Body w rb a A l) (hb : Below w.heap.size w w') : Body w' rb a A l := h.keep hb.size (fun b hb' _ _ => hb.block b hb') (.inl rfl)
theorem Body.grown (h : Body w rb a A l) (hg : w.grownBy w' rb) (hr : rb' = rb ∨ rb' = some w.heap.size) : Body w' rb' a A l := h.keep hg.size (fun b hb' h1 _ => hg.block b hb' h1) hr
theorem own_keeps {base size n : Nat} {e : TypeId} {v : Value} {xs : List Value} (h : w.ownsRow base e size v n xs) (hk : Keeps (· = a) w w') (hne : some a ≠ v.ownBlock) : w'.ownsRow base e size v n xs := by
  refine ⟨h.1, ?_⟩
  rcases h.2 with h2 | ⟨g', cap, cur, rfl, hg, hh, r⟩
  · exact .inl h2
  · have hb : Blk w g' e cur := hh
    refine .inr ⟨g', cap, cur, rfl, hg, (hk.block g' hb.lt (fun e => hne ?_)).trans hh, r⟩
    subst e; rfl
/-- The last one's cells. -/
theorem own_last {base k : Nat} {e : TypeId} {A : Option Addr} {c : Nat} {xs ys : List Value} (h : w.ownsRow base e 2 (.slice A (k + 1) c) (k + 1) (xs ++ ys)) (hx : xs.length = k * 2) : ∃ g, A = some ⟨g, 0, none⟩ ∧ g < w.heap.size ∧ w.rangeAt g (k * 2) ys := by
  have hl := h.1
  rcases h.2 with ⟨_, h0⟩ | ⟨g, cap, cur, hv, hb, hh, hnc, hcm, hcs, ht⟩
  · omega
  · have hg : Blk w g e cur := hh
    injection hv with hA _ _
    refine ⟨g, hA, hg.lt, fun j v hj => ?_⟩
    have hjl := (List.getElem?_eq_some_iff.1 hj).1
    have h1 : (xs ++ ys)[k * 2 + j]? = some v := by rw [List.getElem?_append_right (by omega), hx, Nat.add_sub_cancel_left]; exact hj
    rw [← ht, List.getElem?_take, if_pos (by rw [List.length_append] at hl; omega)] at h1
    rw [hg.cell, ← h1]
    simp
end
/-- Cells of a text. -/
theorem two_one (nm : ByteArray) (A : Option Addr) (n c : Nat) : ∀ u ∈ [Value.string nm, .slice A n c], u.oneCell' = true := by
  intro u hu
  simp at hu
  rcases hu with rfl | rfl <;> rfl
theorem Tryd.tinfo : (Tryd.prog.info? 63).map (fun i => (i.zero, i.size, i.bytes)) = some (some (.agg #[.string ⟨#[]⟩, .slice none 0 0]), 2, 40) := by kernel_rfl
theorem fill_text (nm : ByteArray) (A : Option Addr) (n c : Nat) : Instr.fill (fun i => some (i * 2, 2)) ((Array.range (1 * 2)).map ((Value.agg #[.string ⟨#[]⟩, .slice none 0 0]).cells[· % (Value.agg #[.string ⟨#[]⟩, .slice none 0 0]).cells.size]!)) [(0, .agg #[.string nm, .slice A n c])] = some #[.string nm, .slice A n c] := by
  have hf := fill_one 2 ((Array.range (1 * 2)).map ((Value.agg #[.string ⟨#[]⟩, .slice none 0 0]).cells[· % (Value.agg #[.string ⟨#[]⟩, .slice none 0 0]).cells.size]!)).toList [.string nm, .slice A n c] (by simp) rfl
  rw [Array.toArray_toList] at hf
  exact hf
/-- A slice of one text that is written out. -/
theorem wpList_build_text {ops : Array Oper} {rest : List Oper} {o : Oper} {a : Act} {w : World} {Q : Exit → Act → World → Prop} (hg : o.guard = none) (x : Operand) (ho : o.op = .buildSlice 67 1 #[(0, x)])
    (nm : ByteArray) (A : Option Addr) (n c : Nat) (hx : a.eval x = .agg #[.string nm, .slice A n c])
    (h : wpList Tryd.prog ops Q rest (a.put o.dst (.slice (some ⟨w.heap.size, 0, none⟩) 1 1)) (w.alloc (.cells #[.string nm, .slice A n c] 63))) : wpList Tryd.prog ops Q (o :: rest) a w := by
  obtain ⟨i0, hi, hz0, hz1, hz2⟩ := info_parts Tryd.tinfo
  refine wpList_buildSlice hg 67 63 1 #[(0, x)] ho #[.string nm, .slice A n c] i0 _ Tryd.underlying67 hi hz0 (by rw [hz1]; omega) (by rw [hz1]; omega) ?_ h
  rw [hz1]
  have e : (#[(0, x)].map fun (p : Nat × Operand) => (p.1, a.eval p.2)).toList = [(0, .agg #[.string nm, .slice A n c])] := by simp [hx]
  have hf := fill_text nm A n c
  rw [← e] at hf
  exact hf
theorem step_build_text {ops : Array Oper} {o : Oper} {a : Act} {w : World} {K : Act → World → Prop} {Q : Exit → Act → World → Prop} {E : Prop} (hg : o.guard = none) (x : Operand) (ho : o.op = .buildSlice 67 1 #[(0, x)])
    (nm : ByteArray) (A : Option Addr) (n c : Nat) (hx : a.eval x = .agg #[.string nm, .slice A n c])
    (h : K (a.put o.dst (.slice (some ⟨w.heap.size, 0, none⟩) 1 1)) (w.alloc (.cells #[.string nm, .slice A n c] 63))) :
    if Region.wanted o (yielded ops a.tmps) = true then Oper.wp Tryd.prog o a w K Q else E := by
  have hw : Region.wanted o (yielded ops a.tmps) = true := by simp [Region.wanted, hg]
  rw [if_pos hw]
  obtain ⟨i0, hi, hz0, hz1, hz2⟩ := info_parts Tryd.tinfo
  refine wp_buildSlice 67 63 1 #[(0, x)] ho #[.string nm, .slice A n c] i0 _ Tryd.underlying67 hi hz0 (by rw [hz1]; omega) (by rw [hz1]; omega) ?_ h
  rw [hz1]
  have e : (#[(0, x)].map fun (p : Nat × Operand) => (p.1, a.eval p.2)).toList = [(0, .agg #[.string nm, .slice A n c])] := by simp [hx]
  have hf := fill_text nm A n c
  rw [← e] at hf
  exact hf
end Go.Proofs.YtcbdjcmjchoagaaDoor
