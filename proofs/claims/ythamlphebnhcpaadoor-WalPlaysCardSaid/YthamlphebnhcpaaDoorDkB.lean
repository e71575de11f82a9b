/-
  disk: copies of logs; are logs the same?
-/
import Derived.Test.YthamlphebnhcpaaDoorDkA
namespace Go.Proofs.YthamlphebnhcpaaDoor
open Go.RowKit

section
variable {P : Program} {w : World}
theorem run_storeVar_allD (g : Nat) (t ty : TypeId) (old cells : Array Value) (hg : Blk w g t old) (hs : old.size = cells.size) (hi : (P.info? ty).map (·.size) = some cells.size) (h1 : ∀ v ∈ cells.toList, v.oneCell' = true) :
    ∃ w', (storeVar ty ⟨g, 0, none⟩ (.agg cells)).run P w = .ok () w' ∧ Blk w' g t cells ∧ Keeps (· = g) w w' ∧ w'.heap.size = w.heap.size := by
  have hst := run_storeCells_at P g 0 t cells.toList 0 old w hg (by simp; omega) h1
  cases hq : P.info? ty with
  | none => simp [hq] at hi
  | some i =>
    have hsz : cells.size = i.size := by simp [hq] at hi; omega
    refine ⟨w.setRow g cells, ?_, setRow_heap w g _ _ t _ hg, ⟨rfl, rfl, rfl, by simp, fun k _ hk => setRow_other w g k _ (by exact hk)⟩, by simp⟩
    have e : (List.take (0 + 0) old.toList ++ cells.toList ++ List.drop (0 + 0 + cells.toList.length) old.toList).toArray = cells := by
      have : List.drop cells.size old.toList = [] := List.drop_eq_nil_of_le (by simp; omega)
      simp [this]
    simp only [Nat.add_zero, Nat.zero_add, List.take_zero, List.nil_append, Array.length_toList] at hst e
    rw [e] at hst
    simp [storeVar, sizeOf, typeInfo, hq, Value.cells, hsz, hst]

theorem wpList_store_wholeD {ops : Array Oper} {rest : List Oper} {op : Oper} {a : Act} {Q : Exit → Act → World → Prop} (hgd : op.guard = none) (ty : TypeId) (x y : Operand) (ho : op.op = .store ty x y)
    (g : Nat) (t : TypeId) (old cells : Array Value) (hx : a.eval x = .pointer (some ⟨g, 0, none⟩)) (hy : a.eval y = .agg cells) (hg : Blk w g t old) (hs : old.size = cells.size)
    (hi : (P.info? ty).map (·.size) = some cells.size) (h1 : ∀ v ∈ cells.toList, v.oneCell' = true)
    (h : ∀ w', Blk w' g t cells → Keeps (· = g) w w' → w'.heap.size = w.heap.size → wpList P ops Q rest (a.put op.dst undef) w') : wpList P ops Q (op :: rest) a w := by
  refine wpList_plain hgd fun _ hK => ?_
  obtain ⟨w', hr, h2, h3, h4⟩ := run_storeVar_allD (P := P) g t ty old cells hg hs hi h1
  unfold Oper.wp execOp
  simp only [ho, hx, hy, Instr.storeAt, Instr.sureAddr, Sem.run_bind, Sem.run_pure, Result.andThen_ok, hr]
  exact hK _ _ (h w' h2 h3 h4)
end
/-- The copies that have been made. -/
structure Clones (w0 w : World) (cl : Nat) (ls : List (List UInt8)) (k : Nat) (rs : List RowM) : Prop where
  n : rs.length = k
  l : rs.map (·.l) = ls.take k
  b : Blk w cl 51 (rs.map RowM.v ++ List.replicate (16 - k) (Value.slice none 0 0)).toArray
  o : ∀ r ∈ rs, r.own w
  f : ∀ r ∈ rs, ∀ j, r.bk = some j → w0.heap.size ≤ j ∧ j < w.heap.size
  q : ∀ i j x (hi : i < rs.length) (hj : j < rs.length), rs[i].bk = some x → rs[j].bk = some x → i = j
  v : Below w0.heap.size w0 w
theorem Clones.next {w0 w w1 : World} {cl k : Nat} {ls : List (List UInt8)} {rs : List RowM} {r : RowM} (h : Clones w0 w cl ls k rs) (hc : w0.heap.size ≤ cl) (hk : k < 16) (hls : k < ls.length) (hr : r.l = ls[k]) (ho : r.own w1) (hf : ∀ j, r.bk = some j → w.heap.size ≤ j) (hb : Below w.heap.size w w1) :
    Clones w0 (w1.setCell ⟨cl, k, none⟩ r.v) cl ls (k + 1) (rs ++ [r]) := by
  have hcl := h.b.lt
  have B1 := h.b.below hb hcl
  have K1 : Keeps (fun j => j = cl) w (w1.setCell ⟨cl, k, none⟩ r.v) := (Keeps.of_below hb (fun j => j = cl)).setCell rfl _
  have ne : ∀ s : RowM, s.own w → ∀ j, s.bk = some j → ¬ j = cl := fun s hs j e h1 => by
    subst h1
    exact h.b.notOwn hs (by decide) (by rw [RowM.v, own_blkD]; exact e.symm)
  refine ⟨by rw [List.length_append, h.n]; rfl, ?_, ?_, fun s hs => ?_, fun s hs j e => ?_, fun i j x hi hj h1 h2 => ?_, h.v.trans (K1.below h.v.size (fun j hj => by omega))⟩
  · rw [List.map_append, h.l, List.take_succ_eq_append_getElem hls, List.map_singleton, hr]
  · have h1 := B1.set k r.v
    have e : ((rs.map RowM.v ++ List.replicate (16 - k) (Value.slice none 0 0)).toArray.setIfInBounds k r.v) = ((rs ++ [r]).map RowM.v ++ List.replicate (16 - (k + 1)) (Value.slice none 0 0)).toArray := by
      rw [List.setIfInBounds_toArray]
      congr 1
      rw [show 16 - k = (16 - (k + 1)) + 1 by omega, List.replicate_succ, List.set_append_right _ _ (by rw [List.length_map, h.n]; exact Nat.le_refl _), List.length_map, h.n, Nat.sub_self, List.set_cons_zero, List.map_append, List.append_assoc]
      rfl
    rw [e] at h1
    exact h1
  · rcases List.mem_append.1 hs with hs | hs
    · exact RowM.keep (h.o s hs) K1 (fun j e => ne s (h.o s hs) j e)
    · rw [List.mem_singleton.1 hs]
      exact own_store ho B1 (by decide) _ _
  · rcases List.mem_append.1 hs with hs | hs
    · exact ⟨(h.f s hs j e).1, Nat.lt_of_lt_of_le (h.f s hs j e).2 K1.size⟩
    · rw [List.mem_singleton.1 hs] at e
      refine ⟨Nat.le_trans h.v.size (hf j e), ?_⟩
      have := RowM.lt ho e
      simp [World.setCell]
      exact this
  · rw [List.length_append, List.length_singleton] at hi hj
    rw [List.getElem_append] at h1 h2
    split at h1
    · rename_i h3
      split at h2
      · rename_i h4
        exact h.q i j x h3 h4 h1 h2
      · have h5 := (h.f _ (List.getElem_mem h3) x h1).2
        rw [List.getElem_singleton] at h2
        have := hf x h2
        omega
    · rename_i h3
      split at h2
      · rename_i h4
        have h5 := (h.f _ (List.getElem_mem h4) x h2).2
        rw [List.getElem_singleton] at h1
        have := hf x h1
        omega
      · omega
/-- What clone answers: sixteen rows of their own, each in new memory. -/
structure ClonedP (w : World) (ls : List (List UInt8)) (w' : World) (rs : List RowM) : Prop where
  n : rs.length = 16
  l : rs.map (·.l) = ls
  o : ∀ r ∈ rs, r.own w'
  f : ∀ r ∈ rs, ∀ j, r.bk = some j → w.heap.size ≤ j ∧ j < w'.heap.size
  q : ∀ i j x (hi : i < rs.length) (hj : j < rs.length), rs[i].bk = some x → rs[j].bk = some x → i = j
  v : Below w.heap.size w w'
theorem slN_one (rs : List RowM) : ∀ u ∈ (rs.map RowM.v).toArray.toList, u.oneCell' = true := by
  intro u hu
  rw [List.toList_toArray] at hu
  obtain ⟨r, _, rfl⟩ := List.mem_map.1 hu
  rfl
theorem Tryd.lgsize : (Tryd.prog.info? 51).map (·.size) = some 16 := by kernel_rfl
theorem DkOk.at_ {w : World} {g : Nat} {m : DkM} (h : DkOk w g m) {k : Nat} (hk : k < 32) : ∃ A c, w.cell? ⟨g, 1 + k, none⟩ = some (.slice A (rowD m.d.X k).length c) ∧ Sees w w.heap.size A (rowD m.d.X k) := by
  have hk2 : k < m.rows.length := by rw [h.n]; omega
  have h1 := h.row hk
  rw [DkM.row_l hk2]
  exact ⟨_, _, h1, RowM.sees (h.o _ (List.getElem_mem hk2))⟩
theorem drop_take_at {X : List (List UInt8)} {o k : Nat} (hn : X.length = 32) (ho : o + 16 ≤ 32) (hk : k < 16) : ∃ h : k < ((X.drop o).take 16).length, ((X.drop o).take 16)[k] = rowD X (o + k) := by
  have h1 : k < ((X.drop o).take 16).length := by rw [List.length_take, List.length_drop]; omega
  refine ⟨h1, ?_⟩
  unfold rowD
  rw [List.getElem_take, List.getElem_drop, List.getD_eq_getElem?_getD, List.getElem?_eq_getElem (by omega)]
  rfl

set_option maxHeartbeats 2000000 in
set_option maxRecDepth 100000 in
theorem lclone_any (w : World) (g : Nat) (m : DkM) (h : DkOk w g m) (a o : Nat) (hm : ∀ k, k < 16 → (rowD m.d.X (o + k)).length ≤ 16777216) (ha : a = 1 + o) (ho : o + 16 ≤ 32) : Calls Tryd.prog 42 #[.pointer (some ⟨g, a, none⟩)] w fun e w' => ∃ rs, e = .returned (.agg (rs.map RowM.v).toArray) ∧ ClonedP w ((m.d.X.drop o).take 16) w' rs := by
  subst ha
  have H := Lib.hid h
  have HMx := Lib.hid hm
  have HN : Hid (m.d.X.length = 32) := by show (m.rows.map _).length = _; rw [List.length_map]; exact h.n
  have C0 : Hid (Clones w ((w.alloc (.cells (List.replicate 16 (Value.slice none 0 0)).toArray 51)).alloc (.cells (List.replicate 16 (Value.slice none 0 0)).toArray 51)) (w.heap.size + 1) ((m.d.X.drop o).take 16) 0 []) := ⟨rfl, rfl, blk_newD (by simp), (fun r hr => by cases hr), (fun r hr => by cases hr), (fun i j x hi => by cases hi), nxAlloc (nxAlloc (nxRefl w) _) _⟩
  have R0 : Hid (Blk ((w.alloc (.cells (List.replicate 16 (Value.slice none 0 0)).toArray 51)).alloc (.cells (List.replicate 16 (Value.slice none 0 0)).toArray 51)) w.heap.size 51 (List.replicate 16 (Value.slice none 0 0)).toArray) := (blk_newD rfl : Blk (w.alloc (.cells (List.replicate 16 (Value.slice none 0 0)).toArray 51)) _ _ _).alloc _
  clear h hm
  go_enter Tryd.func42, Tryd.ntmps42
  go_wp2
  go_loopw [5] (fun iv wr => ∃ (k : Nat) (rs : List RowM), k ≤ 16 ∧ iv = .int .i64 k ∧ Hid (Clones w wr (w.heap.size + 1) ((m.d.X.drop o).take 16) k rs) ∧ Hid (Blk wr w.heap.size 51 (List.replicate 16 (Value.slice none 0 0)).toArray)) (fun iv _ => 16 - (intOf iv).toNat)
  case atStart => exact ⟨0, [], by omega, rfl, C0.out, R0.out⟩
  case round =>
    clear C0 R0
    obtain ⟨k, rs, hk, rfl, HC, HR⟩ := hrel
    by_cases hlt : k < 16
    · have hin : (k : Int) < 16 := by omega
      have HD : Hid (DkOk wr g m) := (DkTo.below H.out HC.out.v).ok
      obtain ⟨A0, c0, hc0, hs0⟩ := HD.out.at_ (k := o + k) (by omega)
      rw [show 1 + (o + k) = 1 + o + k by omega] at hc0
      obtain ⟨hkl, hkr⟩ := drop_take_at HN.out ho hlt
      have HKl := Lib.hid hkl
      have HKr : Hid (((m.d.X.drop o).take 16)[k] = rowD m.d.X (o + k)) := hkr
      have hlm : Hid ((rowD m.d.X (o + k)).length ≤ 16777216) := HMx.out _ hlt
      obtain ⟨b, hb⟩ : ∃ b, rowD m.d.X (o + k) = b := ⟨_, rfl⟩
      rw [hb] at hc0 hs0 HKr hlm
      have HS := Lib.hid hs0
      have hcl := HC.out.b.lt
      have hrl := HR.out.lt
      have HCl := Lib.hid hcl
      have HRl := Lib.hid hrl
      have HCc : Hid (wr.cell? ⟨w.heap.size + 1, k, none⟩ = some (Value.slice none 0 0)) := by
        show _ = _
        rw [HC.out.b.cell, List.getElem?_toArray, List.getElem?_append_right (by rw [List.length_map, HC.out.n]; exact Nat.le_refl _), List.length_map, HC.out.n, Nat.sub_self, List.getElem?_replicate, if_pos (by omega)]
      have hwk : IntKind.i64.wrap ((k : Int) + 1) = (k : Int) + 1 := by rw [IntKind.wrap_i64]; omega
      clear hb hs0 hkl hkr hcl hrl
      go_wp2_with (go_at_call 38; refine (bclone_any _ _ A0 b.length c0 b rfl HS.out (by have := hlm.out; omega)).mono ?_; unfold ClonePostD; rintro e w3 ⟨r, rfl, hrl, hro, hrb, hb3⟩; have RL := Lib.hid hrl; have RO := Lib.hid hro; have RB := Lib.hid hrb; have V3 := Lib.hid hb3; have c3 : w3.cell? ⟨w.heap.size + 1, k, none⟩ = some (Value.slice none 0 0) := (hb3.cell (p := ⟨w.heap.size + 1, k, none⟩) HCl.out).trans HCc.out; have f3 : w3.frozen? ⟨w.heap.size + 1, k, none⟩ = false := (HC.out.b.below hb3 HCl.out).frozen _; clear hrl hro hrb hb3; rw [show r.v = Value.slice r.A r.l.length r.c from rfl])
      go_roundw
      case rel =>
        refine ⟨k + 1, rs ++ [r], by omega, by go_num, ?_, ?_⟩
        · exact HC.out.next (by omega) hlt HKl.out (RL.out.trans HKr.out.symm) RO.out RB.out V3.out
        · exact (HR.out.below V3.out HRl.out).far (p := ⟨w.heap.size + 1, k, none⟩) (by show w.heap.size ≠ w.heap.size + 1; omega) _
      case measure => simp [intOf] <;> omega
    · obtain rfl : k = 16 := by omega
      have HB16 : Hid (Blk wr (w.heap.size + 1) 51 (rs.map RowM.v).toArray) := by
        have h1 := HC.out.b
        rw [show 16 - 16 = 0 by omega, List.replicate_zero, List.append_nil] at h1
        exact h1
      have HZ : Hid ((Tryd.prog.info? 51).map (·.size) = some (rs.map RowM.v).length) := by show _ = _; rw [List.length_map, HC.out.n]; exact Tryd.lgsize
      have HZ' : Hid ((Tryd.prog.info? 51).map (·.size) = some (rs.map RowM.v).toArray.size) := by show _ = _; rw [List.size_toArray, List.length_map, HC.out.n]; exact Tryd.lgsize
      have HRr := Lib.hid (blkRD HB16.out)
      have HNr : Hid (rs.length = 16) := HC.out.n
      have Hs1 : Hid ((List.replicate 16 (Value.slice none 0 0)).toArray.size = (rs.map RowM.v).toArray.size) := by show _ = _; rw [List.size_toArray, List.size_toArray, List.length_replicate, List.length_map, HNr.out]
      go_wp2_with (first
        | ((with_reducible show wpList _ _ _ (⟨some 17, _, _, _, _, _⟩ :: _) _ _); refine wpList_load_mid rfl 51 (.tmp 3) rfl (w.heap.size + 1) 0 rfl (rs.map RowM.v) _ HRr.out Tryd.underlying51 rfl HZ.out ?_)
        | ((with_reducible show wpList _ _ _ (⟨none, .store 51 _ _, _, _, _, _⟩ :: _) _ _); refine wpList_store_wholeD rfl 51 (.tmp 2) (.tmp 17) rfl w.heap.size 51 (List.replicate 16 (Value.slice none 0 0)).toArray (rs.map RowM.v).toArray rfl rfl HR.out Hs1.out HZ'.out (slN_one rs) ?_; intro w5 h5 h6 h7; have B5 := Lib.hid h5; have K5 := Lib.hid h6; have Z5 : Hid (w5.heap.size = wr.heap.size) := h7; clear h5 h6 h7))
      refine bodyPost_ret (results_cell_row Tryd.results42 _ _ w.heap.size 51 _ (0, 0) _ rfl B5.out Tryd.underlying51 rfl HZ'.out) rfl ⟨rs, rfl, HC.out.n, ?_, fun r hr => ?_, fun r hr j e => ?_, HC.out.q, HC.out.v.trans (K5.out.below HC.out.v.size (fun j hj => by omega))⟩
      · rw [HC.out.l, List.take_of_length_le]
        rw [List.length_take]
        omega
      · exact RowM.keep (HC.out.o r hr) K5.out (fun j e h1 => by
          subst h1
          exact HR.out.notOwn (HC.out.o r hr) (by decide) (by rw [RowM.v, own_blkD]; exact e.symm))
      · exact ⟨(HC.out.f r hr j e).1, by rw [Z5.out]; exact (HC.out.f r hr j e).2⟩
end Go.Proofs.YthamlphebnhcpaaDoor
