/-
  disk: the document's own disk in memory; the logs as they are read.
-/
import Derived.Test.YtlepajddekblcaaDoorRf2
namespace Go.Proofs.YtlepajddekblcaaDoor
open Go.RowKit

structure RfM where
  rows : List RowM
  A : Option Addr
  c : Nat
  W : List PutR
  fuse : Int
  dead : Bool
def PutR.row (p : PutR) : RowM := ⟨p.A, p.c, p.b⟩
def PutR.d (p : PutR) : StD := if p.cut then .cut p.log p.n.toNat else .put p.log p.b
def putsC (W : List PutR) : List Value := (W.map putC).flatten
def rfC (m : RfM) : List Value := rowsC m.rows ++ [.slice m.A m.W.length m.c, .int .i64 m.fuse, .bool m.dead]
/-- The blocks that the document's disk may change. -/
def footR (g : Nat) (m : RfM) (j : Nat) : Prop := j = g ∨ m.A.map (·.block) = some j
structure RfOk (w : World) (g : Nat) (m : RfM) : Prop where
  b : Blk w g 86 (rfC m).toArray
  n : m.rows.length = 16
  o : ∀ r ∈ m.rows, r.own w
  ww : w.ownsRow 0 128 4 (.slice m.A m.W.length m.c) m.W.length (putsC m.W)
  p : ∀ p ∈ m.W, p.log < 16 ∧ (p.cut = true → 0 ≤ p.n) ∧ p.row.own w
def dataR (m : RfM) : List (List UInt8) := m.rows.map (·.l)
theorem rfC_len {m : RfM} (n : m.rows.length = 16) : (rfC m).length = 19 := by rw [rfC, List.length_append, rowsC_len, n]; rfl
theorem RfOk.cW {w : World} {g : Nat} {m : RfM} (h : RfOk w g m) : w.cell? ⟨g, 16, none⟩ = some (.slice m.A m.W.length m.c) := by
  rw [h.b.cell, List.getElem?_toArray, rfC, List.getElem?_append_right (by rw [rowsC_len, h.n]; omega), rowsC_len, h.n]; rfl
theorem RfOk.cF {w : World} {g : Nat} {m : RfM} (h : RfOk w g m) : w.cell? ⟨g, 17, none⟩ = some (.int .i64 m.fuse) := by
  rw [h.b.cell, List.getElem?_toArray, rfC, List.getElem?_append_right (by rw [rowsC_len, h.n]; omega), rowsC_len, h.n]; rfl
theorem RfOk.cD {w : World} {g : Nat} {m : RfM} (h : RfOk w g m) : w.cell? ⟨g, 18, none⟩ = some (.bool m.dead) := by
  rw [h.b.cell, List.getElem?_toArray, rfC, List.getElem?_append_right (by rw [rowsC_len, h.n]; omega), rowsC_len, h.n]; rfl
theorem RfOk.rows {w : World} {g : Nat} {m : RfM} (h : RfOk w g m) : w.rangeAt g 0 (rowsC m.rows) := fun i v hv => by
  have hi := (List.getElem?_eq_some_iff.1 hv).1
  rw [Nat.zero_add, h.b.cell, List.getElem?_toArray, rfC, List.getElem?_append_left hi]
  exact hv
theorem putC_len (p : PutR) : (putC p).length = 4 := rfl
theorem RfOk.put {w : World} {g : Nat} {m : RfM} (h : RfOk w g m) (h0 : 0 < m.W.length) : ∃ b off, m.A = some ⟨b, off, none⟩ ∧ b < w.heap.size ∧ ∀ k (hk : k < m.W.length), w.rangeAt b (off + k * 4) (putC m.W[k]) := by
  obtain ⟨b, off, hA, hb, hr⟩ := SeesV.rowD (n := 4) (SeesV.own h.ww) (by intro r hr; obtain ⟨i, _, rfl⟩ := List.mem_map.1 hr; rfl) (by omega) (by simpa using h0)
  exact ⟨b, off, hA, hb, fun k hk => by have h := hr k (by simpa using hk); rw [List.getElem_map] at h; exact h⟩
theorem rngL {w W : World} {b o : Nat} {cs : List Value} (h : w.rangeAt b o cs) (hb : Below w.heap.size w W) (hl : b < w.heap.size) : W.rangeAt b o cs := fun i v hv => by
  have h1 := h i v hv
  exact (World.cell?_of_block (hb.block b hl)).trans h1
theorem RfOk.later {S : Nat → Prop} {w w' : World} {g : Nat} {m : RfM} (h : RfOk w g m) (k : Keeps S w w') (hf : ∀ j, footR g m j → ¬ S j) (hr : ∀ r : RowM, (r ∈ m.rows ∨ ∃ p ∈ m.W, p.row = r) → ∀ j, r.bk = some j → ¬ S j) : RfOk w' g m :=
  ⟨h.b.keeps k (hf g (.inl rfl)), h.n, fun r hm => RowM.keep (h.o r hm) k (hr r (.inl hm)), own_keep h.ww k (fun j e => hf j (.inr (by rw [own_blkD] at e; exact e))),
    fun p hp => ⟨(h.p p hp).1, (h.p p hp).2.1, RowM.keep (h.p p hp).2.2 k (hr p.row (.inr ⟨p, hp, rfl⟩))⟩⟩
theorem RfOk.below {w w' : World} {g : Nat} {m : RfM} (h : RfOk w g m) (b : Below w.heap.size w w') : RfOk w' g m :=
  h.later (Keeps.of_below b (fun _ => False)) (fun _ _ h => h) (fun _ _ _ _ h => h)
/-- A step done. -/
theorem done_any (w : World) (rows : List RowM) (p : PutR) (hn : rows.length = 16) (hi : p.log < 16) (hr : ∀ r ∈ rows, r.own w) (hp : p.row.own w) (h0 : p.cut = true → 0 ≤ p.n) (hl : ∀ r ∈ rows, r.l.length ≤ 16777216) (hb : p.cut = false → p.b.length ≤ 50000000) :
    Calls Tryd.prog 76 #[.agg (rowsC rows).toArray, .agg (putC p).toArray] w fun e w' => ∃ r, e = .returned (.agg (rowsC (rows.set p.log r)).toArray) ∧ DoneTo w rows p w' r := by
  have hm : rows.getD p.log noRow ∈ rows := by
    rw [List.getD_eq_getElem?_getD, List.getElem?_eq_getElem (by omega)]
    exact List.getElem_mem _
  have h1 := hl _ hm
  cases hc : p.cut with
  | false => exact done_put w rows p hn hi (SeenR.own (hr _ hm)) (RowM.sees hp) hc (by have := hb hc; omega)
  | true => exact done_cut w rows p hn hi (SeenR.own (hr _ hm)) hc (h0 hc) (by omega)
theorem done_data {w w' : World} {rows : List RowM} {p : PutR} {r : RowM} (h : DoneTo w rows p w' r) (hi : p.log < rows.length) : (rows.set p.log r).map (·.l) = doS 0 (rows.map (·.l)) p.d := by
  have e : (rows.getD p.log noRow).l = rowD (rows.map (·.l)) p.log := by
    unfold rowD
    rw [List.getD_eq_getElem?_getD, List.getD_eq_getElem?_getD, List.getElem?_map, List.getElem?_eq_getElem hi]
    rfl
  rw [List.map_set, h.l, e]
  unfold PutR.d doneL
  split <;> simp [doS]
theorem Tryd.putSize : (Tryd.prog.info? 128).map (·.size) = some 4 := by kernel_rfl
theorem doS_leR {X : List (List UInt8)} {s : StD} (hn : X.length = 16) (h : okS X s) (hm : ∀ k, (rowD X k).length ≤ 16777216) : ∀ k, (rowD (doS 0 X s) k).length ≤ 16777216 := by
  intro k
  cases s with
  | put i b =>
    obtain ⟨h1, h2⟩ := h
    rw [doS, rowD_set (by omega)]
    split
    · rw [List.length_append, Nat.zero_add]; exact h2
    · exact hm k
  | cut i n =>
    obtain ⟨h1, h2⟩ := h
    rw [doS, rowD_set (by omega)]
    split
    · rw [List.length_take]; have := hm (0 + i); omega
    · exact hm k
theorem doAll_leR {W : List StD} : ∀ {X : List (List UInt8)}, okW X W → (∀ k, (rowD X k).length ≤ 16777216) → X.length = 16 → ∀ k, (rowD (doAll 0 X W) k).length ≤ 16777216 := by
  induction W with
  | nil => intro X _ hm _; exact hm
  | cons s r ih => intro X h hm hn; exact ih h.2 (doS_leR hn h.1 hm) (by rw [doS_len]; exact hn)
theorem partAll {a b : List Value} (h : a.length = b.length) : (a.toArray.toList.take 0 ++ b.toArray.toList ++ a.toArray.toList.drop (0 + b.toArray.size)).toArray = b.toArray := by
  have e : a.drop (0 + b.length) = [] := List.drop_eq_nil_of_le (by omega)
  show (List.take 0 a ++ b ++ a.drop (0 + b.length)).toArray = _
  rw [e]
  simp
/-- What Now answers. -/
structure NowTo (w : World) (m : RfM) (w' : World) (rows : List RowM) : Prop where
  n : rows.length = 16
  l : rows.map (·.l) = doAll 0 (dataR m) (m.W.map PutR.d)
  o : ∀ r ∈ rows, r.own w'
  v : Below w.heap.size w w'
  a : ∀ r ∈ rows, r ∈ m.rows ∨ ∀ j, r.bk = some j → w.heap.size ≤ j
/-- On the way. -/
structure NowAt (w wr : World) (m : RfM) (k : Nat) (rows : List RowM) : Prop where
  n : rows.length = 16
  l : rows.map (·.l) = doAll 0 (dataR m) ((m.W.map PutR.d).take k)
  o : ∀ r ∈ rows, r.own wr
  b : Blk wr (w.heap.size + 1) 79 (rowsC rows).toArray
  z : Blk wr w.heap.size 79 (Array.replicate 16 (Value.slice none 0 0))
  v : Below w.heap.size w wr
  a : ∀ r ∈ rows, r ∈ m.rows ∨ ∀ j, r.bk = some j → w.heap.size ≤ j

set_option maxHeartbeats 2000000 in
set_option maxRecDepth 100000 in
theorem now_any (w : World) (g : Nat) (m : RfM) (h : RfOk w g m) (hw : okW (dataR m) (m.W.map PutR.d)) (hW : m.W.length ≤ 1000) (hm : ∀ k, (rowD (dataR m) k).length ≤ 16777216) :
    Calls Tryd.prog 71 #[ptrD g] w fun e w' => ∃ rows, e = .returned (.agg (rowsC rows).toArray) ∧ NowTo w m w' rows := by
  have H := Lib.hid h
  have HW := Lib.hid hw
  have HWl := Lib.hid hW
  have HM := Lib.hid hm
  have HSz : Hid ((Tryd.prog.info? 79).map (·.size) = some (rowsC m.rows).length) := by show _ = _; rw [rowsC_len, h.n]; exact Tryd.rowsSize
  have HSa : Hid ((Tryd.prog.info? 79).map (·.size) = some (rowsC m.rows).toArray.size) := HSz.out
  have HSb : Hid ((Array.replicate 16 (Value.slice none 0 0)).size = (rowsC m.rows).toArray.size) := by show _ = _; rw [Array.size_replicate]; show 16 = (rowsC m.rows).length; rw [rowsC_len, h.n]
  have HV1 : Hid (Below w.heap.size w (w.alloc (.cells (Array.replicate 16 (Value.slice none 0 0)) 79))) := nxAlloc (nxRefl w) _
  have HR1 : Hid ((w.alloc (.cells (Array.replicate 16 (Value.slice none 0 0)) 79)).rangeAt g 0 (rowsC m.rows)) := rngL h.rows HV1.out h.b.lt
  have HZ1 : Hid (Blk (w.alloc (.cells (Array.replicate 16 (Value.slice none 0 0)) 79)) w.heap.size 79 (Array.replicate 16 (Value.slice none 0 0))) := heap_alloc_new w _
  clear h hw hW hm
  unfold ptrD
  go_enter Tryd.func71, Tryd.ntmps71
  go_wp2_with (first
    | ((with_reducible show wpList _ _ _ (⟨some 8, _, _, _, _, _⟩ :: _) _ _); refine wpList_load_mid rfl 79 (.tmp 7) rfl g 0 rfl (rowsC m.rows) _ HR1.out Tryd.underlying79 rfl HSz.out ?_)
    | ((with_reducible show wpList _ _ _ (⟨none, _, _, _, _, _⟩ :: _) _ _); (show wpList _ _ _ _ _ ((w.alloc (.cells (Array.replicate 16 (Value.slice none 0 0)) 79)).alloc (.cells (Array.replicate 16 (Value.slice none 0 0)) 79))); refine wpList_store_wholeD rfl 79 (.tmp 3) (.tmp 8) rfl (w.heap.size + 1) 79 (Array.replicate 16 (Value.slice none 0 0)) (rowsC m.rows).toArray rfl rfl (blk_newD (by simp)) HSb.out HSa.out (rowsC_one _) ?_; intro w2 h5 h6 h7; have B2 := Lib.hid h5; have K2 := Lib.hid h6; clear h5 h6 h7))
  have NA0 : Hid (NowAt w w2 m 0 m.rows) := by
    have hv := (nxAlloc HV1.out (.cells (Array.replicate 16 (Value.slice none 0 0)) 79)).trans (K2.out.below (nxAlloc HV1.out (.cells (Array.replicate 16 (Value.slice none 0 0)) 79)).size (fun j hj e => by omega))
    exact ⟨H.out.n, rfl, fun r hr => RowM.keep (H.out.o r hr) (Keeps.of_below hv (fun _ => False)) (fun _ _ h => h), B2.out, (HZ1.out.alloc _).keeps K2.out (by omega), hv, fun r hr => .inl hr⟩
  go_loopw [4] (fun iv wr => ∃ (k : Nat) (rows : List RowM), k ≤ m.W.length ∧ iv = .int .i64 k ∧ Hid (NowAt w wr m k rows)) (fun iv _ => m.W.length - (intOf iv).toNat)
  case atStart => exact ⟨0, m.rows, Nat.zero_le _, rfl, NA0.out⟩
  case round =>
    obtain ⟨k, rows, hk, rfl, NA⟩ := hrel
    have HR : Hid (RfOk wr g m) := H.out.below NA.out.v
    have c16 : wr.cell? ⟨g, 16, none⟩ = some (.slice m.A m.W.length m.c) := HR.out.cW
    have hl1000 : m.W.length ≤ 1000 := HWl.out
    by_cases hlt : k < m.W.length
    · have hin : (k : Int) < (m.W.length : Int) := by omega
      have hwk : IntKind.i64.wrap ((k : Int) + 1) = (k : Int) + 1 := by rw [IntKind.wrap_i64]; omega
      obtain ⟨pb, poff, hA, hpb, hpr⟩ := HR.out.put (by omega)
      obtain ⟨p, hp⟩ : ∃ p, m.W[k] = p := ⟨_, rfl⟩
      have hc := hpr k hlt
      rw [hp] at hc
      have HP : Hid (p.log < 16 ∧ (p.cut = true → 0 ≤ p.n) ∧ p.row.own wr) := HR.out.p p (by rw [← hp]; exact List.getElem_mem hlt)
      have HPk : Hid ((m.W.map PutR.d).take (k + 1) = (m.W.map PutR.d).take k ++ [p.d]) := by
        show _ = _
        rw [List.take_add_one, List.getElem?_map, List.getElem?_eq_getElem hlt, hp]; rfl
      have HOk : Hid (okS (rows.map (·.l)) p.d) := by
        have h1 : okW (dataR m) ((m.W.map PutR.d).take k ++ (m.W.map PutR.d).drop k) := by rw [List.take_append_drop]; exact HW.out
        have h2 := (okW_app.1 h1).2
        rw [List.drop_eq_getElem_cons (by simpa using hlt), List.getElem_map, hp] at h2
        show okS _ _
        rw [NA.out.l]
        exact h2.1
      have HLk : Hid (∀ r ∈ rows, r.l.length ≤ 16777216) := fun r hr => by
        have h1 : okW (dataR m) ((m.W.map PutR.d).take k ++ (m.W.map PutR.d).drop k) := by rw [List.take_append_drop]; exact HW.out
        obtain ⟨i, hi, rfl⟩ := List.getElem_of_mem hr
        have h3 := doAll_leR (okW_app.1 h1).1 HM.out (by show (m.rows.map (·.l)).length = 16; rw [List.length_map]; exact H.out.n) i
        rw [← NA.out.l] at h3
        unfold rowD at h3
        rw [List.getD_eq_getElem?_getD, List.getElem?_map, List.getElem?_eq_getElem hi] at h3
        exact h3
      have HSk : Hid ((Tryd.prog.info? 79).map (·.size) = some (rowsC rows).length) := by show _ = _; rw [rowsC_len, NA.out.n]; exact Tryd.rowsSize
      have HPs : Hid ((Tryd.prog.info? 128).map (·.size) = some (putC p).length) := Tryd.putSize
      have HRr : Hid (wr.rangeAt (w.heap.size + 1) 0 (rowsC rows)) := blk_rangeR NA.out.b
      have HC := Lib.hid hc
      have HPb := Lib.hid hpb
      have HGl : Hid (g < wr.heap.size) := HR.out.b.lt
      rw [hA] at c16
      have hdr : Keeps (fun _ => False) wr wr.drew := (Keeps.refl _ wr).drew
      have HPb2 : Hid (p.cut = false → p.b.length ≤ 50000000) := fun hc => by
        have h1 := HOk.out
        unfold PutR.d at h1
        rw [hc] at h1
        have h2 : _ ≤ _ := h1.2
        omega
      clear hpr hc hp hpb
      go_upto_region 5 with fail
      refine wp_region_K (fun W => W.rangeAt (w.heap.size + 1) 0 (rowsC rows) ∧ W.cell? ⟨g, 16, none⟩ = some (.slice (some ⟨pb, poff, none⟩) m.W.length m.c) ∧ W.rangeAt pb (poff + k * 4) (putC p)) 9 (by kernel_rfl) ⟨HRr.out, c16, HC.out⟩ (fun hSn => ?_)
      refine wpAnyK_chain (i := 0) [8, 9] (oi := ⟨_, _, _, _, _, _⟩) (v := .agg (rowsC rows).toArray) rfl (by kernel_rfl) (by kernel_rfl) (by kernel_rfl) rfl (by kernel_rfl) (by kernel_rfl) (by kernel_rfl) (fun _ _ _ h => h) (yieldsIf_load_mid (by rfl) 79 (.tmp 3) rfl (w.heap.size + 1) 0 rfl (rowsC rows) _ (fun W h => h.1) Tryd.underlying79 rfl HSk.out) hSn ?_
      replace hSn := (KT.set (i := 0) (by decide)).2 hSn
      try simp only [Act.put, List.setIfInBounds_toArray, List.set_cons_zero, List.set_cons_succ]
      refine wpAnyK_pure (i := 1) (oi := ⟨_, _, _, _, _, _⟩) (v := ?_) rfl (by kernel_rfl) (by kernel_rfl) (by kernel_rfl) rfl (fun _ _ _ h => h) (Or.inl ⟨by rfl, ?_⟩) hSn ?_
      rotate_left 1
      · intro W hSw
        go_simp
        try with_reducible rfl
      replace hSn := (KT.set (i := 1) (by decide)).2 hSn
      try simp only [Act.put, List.setIfInBounds_toArray, List.set_cons_zero, List.set_cons_succ]
      refine wpAnyK_pure (i := 2) (oi := ⟨_, _, _, _, _, _⟩) (v := ?_) rfl (by kernel_rfl) (by kernel_rfl) (by kernel_rfl) rfl (fun _ _ _ h => h) (Or.inl ⟨by rfl, ?_⟩) hSn ?_
      rotate_left 1
      · intro W hSw
        go_simp
        try with_reducible rfl
      replace hSn := (KT.set (i := 2) (by decide)).2 hSn
      try simp only [Act.put, List.setIfInBounds_toArray, List.set_cons_zero, List.set_cons_succ]
      refine wpAnyK_pure (i := 3) (oi := ⟨_, _, _, _, _, _⟩) (v := ?_) rfl (by kernel_rfl) (by kernel_rfl) (by kernel_rfl) rfl (fun _ _ _ h => h) (Or.inl ⟨by rfl, ?_⟩) hSn ?_
      rotate_left 1
      · intro W hSw
        go_simp
        try with_reducible rfl
      replace hSn := (KT.set (i := 3) (by decide)).2 hSn
      try simp only [Act.put, List.setIfInBounds_toArray, List.set_cons_zero, List.set_cons_succ]
      refine wpAnyK_chain (i := 4) [6, 7, 8, 9] (oi := ⟨_, _, _, _, _, _⟩) (v := ?_) rfl (by kernel_rfl) (by kernel_rfl) (by kernel_rfl) rfl (by kernel_rfl) (by kernel_rfl) (by kernel_rfl) (fun _ _ _ h => h) (Or.inl ⟨by rfl, ?_⟩) hSn ?_
      rotate_left 1
      · intro W hSw
        try dsimp only at hSw
        obtain ⟨hs1, hs2, hs3⟩ := hSw
        go_simp
        try with_reducible rfl
      replace hSn := (KT.set (i := 4) (by decide)).2 hSn
      try simp only [Act.put, List.setIfInBounds_toArray, List.set_cons_zero, List.set_cons_succ]
      refine wpAnyK_pure (i := 5) (oi := ⟨_, _, _, _, _, _⟩) (v := ?_) rfl (by kernel_rfl) (by kernel_rfl) (by kernel_rfl) rfl (fun _ _ _ h => h) (Or.inl ⟨by rfl, ?_⟩) hSn ?_
      rotate_left 1
      · intro W hSw
        go_simp
        try with_reducible rfl
      replace hSn := (KT.set (i := 5) (by decide)).2 hSn
      try simp only [Act.put, List.setIfInBounds_toArray, List.set_cons_zero, List.set_cons_succ]
      refine wpAnyK_pure (i := 6) (oi := ⟨_, _, _, _, _, _⟩) (v := ?_) rfl (by kernel_rfl) (by kernel_rfl) (by kernel_rfl) rfl (fun _ _ _ h => h) (Or.inl ⟨by rfl, ?_⟩) hSn ?_
      rotate_left 1
      · intro W hSw
        go_simp
        try with_reducible rfl
      replace hSn := (KT.set (i := 6) (by decide)).2 hSn
      try simp only [Act.put, List.setIfInBounds_toArray, List.set_cons_zero, List.set_cons_succ]
      refine wpAnyK_chain (i := 7) [8, 9] (oi := ⟨_, _, _, _, _, _⟩) (v := .agg (putC p).toArray) rfl (by kernel_rfl) (by kernel_rfl) (by kernel_rfl) rfl (by kernel_rfl) (by kernel_rfl) (by kernel_rfl) (fun _ _ _ h => h) (yieldsIf_load_mid (by rfl) 128 (.tmp 24) rfl pb (poff + k * 4) rfl (putC p) _ (fun W h => h.2.2) Tryd.underlying128 rfl HPs.out) hSn ?_
      replace hSn := (KT.set (i := 7) (by decide)).2 hSn
      try simp only [Act.put, List.setIfInBounds_toArray, List.set_cons_zero, List.set_cons_succ]
      clear hSn
      refine wpAnyK_ready (rs := [8]) (by kernel_rfl) (by simp) ?_
      refine AllReadyK.cons rfl (fun K hK => ?_) AllReadyK.nil
      go_simp
      go_at_call 76
      refine (done_any wr.drew rows p NA.out.n HP.out.1 (fun r hr => RowM.keep (NA.out.o r hr) hdr (fun _ _ h => h)) (RowM.keep HP.out.2.2 hdr (fun _ _ h => h)) HP.out.2.1 HLk.out HPb2.out).mono ?_
      rintro e w5 ⟨r, rfl, hD⟩
      have D5 := Lib.hid hD
      clear hD
      have V5 : Hid (Below wr.heap.size wr w5) := ⟨D5.out.v.os, D5.out.v.tape, D5.out.v.output, D5.out.v.size, D5.out.v.block⟩
      have hg5 := HGl.out
      have B5 : Hid (Blk w5 (w.heap.size + 1) 79 (rowsC rows).toArray) := NA.out.b.below V5.out NA.out.b.lt
      have hS5 : w5.rangeAt (w.heap.size + 1) 0 (rowsC rows) ∧ w5.cell? ⟨g, 16, none⟩ = some (.slice (some ⟨pb, poff, none⟩) m.W.length m.c) ∧ w5.rangeAt pb (poff + k * 4) (putC p) := ⟨blk_rangeR B5.out, (V5.out.cell (p := ⟨g, 16, none⟩) hg5).trans c16, rngL HC.out V5.out HPb.out⟩
      refine hK.out _ _ (fun _ => hS5) (fun hSn => ?_)
      clear hK K
      try simp only [Act.put, List.setIfInBounds_toArray, List.set_cons_zero, List.set_cons_succ]
      clear hSn
      refine wpAnyK_ready (rs := [9]) (by kernel_rfl) (by simp) ?_
      refine AllReadyK.cons rfl (fun K hK => ?_) AllReadyK.nil
      refine step_store_partD (o := ⟨none, _, _, _, _, _⟩) rfl 79 (.tmp 3) (.tmp 26) rfl (w.heap.size + 1) 0 79 (rowsC rows).toArray (rowsC (rows.set p.log r)).toArray (rowsC (rows.set p.log r)).toArray (.agg (rowsC (rows.set p.log r)).toArray) rfl rfl rfl B5.out (by rw [List.size_toArray, List.size_toArray, rowsC_len, rowsC_len, List.length_set]; omega) (by rw [List.size_toArray, rowsC_len, List.length_set, NA.out.n]; exact Tryd.rowsSize) (rowsC_one _) (partAll (by rw [rowsC_len, rowsC_len, List.length_set])) ?_
      intro w6 h5 h6 h7
      have B6 := Lib.hid h5
      have K6 := Lib.hid h6
      clear h5 h6 h7
      refine hK.out _ _ (fun h => absurd h (by decide +kernel)) (fun hSn => ?_)
      clear hK K
      try simp only [Act.put, List.setIfInBounds_toArray, List.set_cons_zero, List.set_cons_succ]
      refine wpAnyK_done (by kernel_rfl) ?_ _
      have NA1 : Hid (NowAt w w6 m (k + 1) (rows.set p.log r)) := by
        have hzr : w.heap.size + 1 < wr.heap.size := NA.out.b.lt
        have hz5 : wr.heap.size ≤ w5.heap.size := V5.out.size
        refine ⟨by rw [List.length_set]; exact NA.out.n, ?_, fun r2 hr2 => ?_, B6.out, (NA.out.z.below V5.out NA.out.z.lt).keeps K6.out (by omega), ?_, fun r2 hr2 => ?_⟩
        · rw [done_data D5.out (by rw [NA.out.n]; exact HP.out.1), NA.out.l, HPk.out, doAll_app]; rfl
        · rcases List.mem_or_eq_of_mem_set hr2 with h1 | rfl
          · refine RowM.keep (RowM.keep (NA.out.o r2 h1) (Keeps.of_below V5.out (fun _ => False)) (fun _ _ h => h)) K6.out (fun j hj e => ?_)
            have h3 := NA.out.b.notOwn (NA.out.o r2 h1) (by decide)
            rw [RowM.v, own_blkD] at h3
            exact h3 (by rw [← e]; exact hj.symm)
          · refine RowM.keep D5.out.o K6.out (fun j hj e => ?_)
            have h3 : wr.heap.size ≤ j := D5.out.n j hj
            omega
        · have h1 : Below w.heap.size w w5 := nxTrD NA.out.v V5.out
          exact h1.trans (K6.out.below h1.size (fun j hj e => by omega))
        · rcases List.mem_or_eq_of_mem_set hr2 with h1 | rfl
          · exact NA.out.a r2 h1
          · exact .inr (fun j hj => by have h3 : wr.heap.size ≤ j := D5.out.n j hj; omega)
      go_wp2
      go_roundw
      case rel => exact ⟨k + 1, _, by omega, by go_num, NA1.out⟩
      case measure => simp [intOf] <;> omega
    · obtain rfl : k = m.W.length := by omega
      have HSk : Hid ((Tryd.prog.info? 79).map (·.size) = some (rowsC rows).length) := by show _ = _; rw [rowsC_len, NA.out.n]; exact Tryd.rowsSize
      have HSk2 : Hid ((Tryd.prog.info? 79).map (·.size) = some (rowsC rows).toArray.size) := HSk.out
      have HSk3 : Hid ((Array.replicate 16 (Value.slice none 0 0)).size = (rowsC rows).toArray.size) := by show _ = _; rw [Array.size_replicate]; show 16 = (rowsC rows).length; rw [rowsC_len, NA.out.n]
      go_wp2_with (first
        | ((with_reducible show wpList _ _ _ (⟨some 27, _, _, _, _, _⟩ :: _) _ _); refine wpList_load_mid rfl 79 (.tmp 3) rfl (w.heap.size + 1) 0 rfl (rowsC rows) _ (blk_rangeR NA.out.b) Tryd.underlying79 rfl HSk.out ?_)
        | ((with_reducible show wpList _ _ _ (⟨none, _, _, _, _, _⟩ :: _) _ _); refine wpList_store_wholeD rfl 79 (.tmp 2) (.tmp 27) rfl w.heap.size 79 (Array.replicate 16 (Value.slice none 0 0)) (rowsC rows).toArray rfl rfl NA.out.z HSk3.out HSk2.out (rowsC_one _) ?_; intro w7 h5 h6 h7; have B7 := Lib.hid h5; have K7 := Lib.hid h6; clear h5 h6 h7))
      refine bodyPost_ret (results_cell_row Tryd.results71 _ _ w.heap.size 79 _ (0, 0) _ rfl B7.out Tryd.underlying79 rfl HSk2.out) rfl ⟨rows, rfl, NA.out.n, ?_, fun r hr => ?_, ?_, NA.out.a⟩
      · rw [NA.out.l, List.take_of_length_le (by simp)]
      · refine RowM.keep (NA.out.o r hr) K7.out (fun j hj e => ?_)
        have h3 := NA.out.z.notOwn (NA.out.o r hr) (by decide)
        rw [RowM.v, own_blkD] at h3
        exact h3 (by rw [← e]; exact hj.symm)
      · exact NA.out.v.trans (K7.out.below NA.out.v.size (fun j hj e => by omega))
end Go.Proofs.YtlepajddekblcaaDoor
