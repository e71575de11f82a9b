/-
  wal: has a log these batches?
-/
import Derived.Test.YtlepajddekblcaaDoorWl7
namespace Go.Proofs.YtlepajddekblcaaDoor
open Go.RowKit Go.Shelf

/-- What same answers: the batches, and what is asked, from one place on. -/
def sameB : List (List UInt8) → List (List UInt8) → Int → Nat → Bool
  | [], W, _, _ => W.isEmpty
  | _ :: _, [], _, _ => false
  | x :: L, y :: W, most, k => if x = y then (if ((k : Int) + 1) = most then true else sameB L W most (k + 1)) else false
theorem sameB_eq (L W : List (List UInt8)) (k : Nat) : sameB L W 0 k = decide (L = W) := by
  induction L generalizing W k with
  | nil => cases W <;> simp [sameB]
  | cons x L ih =>
    cases W with
    | nil => simp [sameB]
    | cons y W =>
      unfold sameB
      rw [ih]
      by_cases h : x = y
      · rw [if_pos h, if_neg (by omega)]; subst h; simp
      · rw [if_neg h]; simp [h]
theorem Blk.putW {W : World} {g l : Nat} {t : TypeId} {cs : Array Value} {o : Obj} (h : Blk W g t cs) (o' : Obj) (hl : W.heap[l]? = some o) (ho : o.isCells = false) : Blk (W.putObj l o') g t cs := by
  refine (World.putObj_heap_other (fun e => ?_)).trans h
  subst e
  unfold Blk at h
  rw [h] at hl
  injection hl with hl
  subst hl
  cases ho
theorem own_putW {W : World} {base size n l : Nat} {e : TypeId} {v : Value} {xs : List Value} {o : Obj} (h : W.ownsRow base e size v n xs) (o' : Obj) (hl : W.heap[l]? = some o) (ho : o.isCells = false) : (W.putObj l o').ownsRow base e size v n xs := by
  refine ⟨h.1, ?_⟩
  rcases h.2 with h0 | ⟨g, cap, cur, hv, hg, hh, hr⟩
  · exact .inl h0
  · refine .inr ⟨g, cap, cur, hv, hg, (World.putObj_heap_other (fun e => ?_)).trans hh, hr⟩
    subst e
    rw [hh] at hl
    injection hl with hl
    subst hl
    cases ho
/-- What is asked for, in memory. -/
structure WantW (w : World) (B : Nat) (A : Option Addr) (W : List RowM) : Prop where
  s : SeesV w B A (rowsC W)
  r : ∀ r ∈ W, Sees w B r.A r.l
theorem WantW.below {w w' : World} {B : Nat} {A : Option Addr} {W : List RowM} (h : WantW w B A W) (b : Below B w w') : WantW w' B A W := ⟨h.s.below b, fun r hr => (h.r r hr).below b⟩
/-- Between two rounds. -/
structure SmI (w : World) (L : List (List UInt8)) (A : Option Addr) (c : Nat) (V : List RowM) (most : Int) (k : Nat) (W : World) : Prop where
  a : Blk W w.heap.size 25 #[.slice A V.length c]
  m : Blk W (w.heap.size + 1) 3 #[.int .i64 most]
  z : Blk W (w.heap.size + 1 + 1) 4 #[.bool false]
  i : Blk W (w.heap.size + 1 + 1 + 1) 3 #[.int .i64 (k : Int)]
  n : k ≤ V.length
  e : sameB (L.drop k) ((V.map (·.l)).drop k) most k = sameB L (V.map (·.l)) most 0
  v : Below w.heap.size w W
theorem SmI.below {w W W' : World} {L : List (List UInt8)} {A : Option Addr} {c : Nat} {V : List RowM} {most : Int} {k : Nat} (h : SmI w L A c V most k W) (b : Below W.heap.size W W') : SmI w L A c V most k W' :=
  ⟨h.a.below b h.a.lt, h.m.below b h.m.lt, h.z.below b h.z.lt, h.i.below b h.i.lt, h.n, h.e, nxTrD h.v b⟩
theorem SmI.putW {w W : World} {L : List (List UInt8)} {A : Option Addr} {c : Nat} {V : List RowM} {most : Int} {k l : Nat} {o : Obj} (h : SmI w L A c V most k W) (o' : Obj) (hl : w.heap.size ≤ l) (hh : W.heap[l]? = some o) (ho : o.isCells = false) : SmI w L A c V most k (W.putObj l o') :=
  ⟨h.a.putW o' hh ho, h.m.putW o' hh ho, h.z.putW o' hh ho, h.i.putW o' hh ho, h.n, h.e, h.v.grown (grownBy_putObj' W l o') h.v.size (fun k e => by cases e; omega)⟩
structure SmX (w : World) (zb : Bool) (W : World) : Prop where
  z : Blk W (w.heap.size + 1 + 1) 4 #[.bool zb]
  v : Below w.heap.size w W
theorem SmX.putW {w W : World} {zb : Bool} {l : Nat} {o : Obj} (h : SmX w zb W) (o' : Obj) (hl : w.heap.size ≤ l) (hh : W.heap[l]? = some o) (ho : o.isCells = false) : SmX w zb (W.putObj l o') :=
  ⟨h.z.putW o' hh ho, h.v.grown (grownBy_putObj' W l o') h.v.size (fun k e => by cases e; omega)⟩
/-- What a round is handed. -/
def HandW (rows : List RowM) (k : Nat) (vs : Array Value) (W : World) : Prop := ∃ (x : List UInt8) (A9 : Option Addr) (c9 : Nat), vs = #[.int .u64 ((k : Int) + 1), .slice A9 x.length c9] ∧ (∃ hk : k < rows.length, rows[k].l = x) ∧ (⟨A9, c9, x⟩ : RowM).own W
theorem Keeps.others {S : Nat → Prop} {W W' : World} (k : Keeps S W W') (h : ∀ j, S j → ∀ o : Obj, W.heap[j]? = some o → o.isCells = true) : KeepsOthers W W' :=
  ⟨k.size, fun j o hj ho => (k.block j (Array.getElem?_eq_some_iff.1 hj).1 (fun hs => by rw [h j hs o hj] at ho; cases ho)).trans hj⟩
theorem results_cell_bool {fn : Func} {p : Tmp} (h : fn.results = #[.cell p 4]) (tmps : Array Value) (w : World) (g : Nat) (v : Value) (hp : tmps.getD p undef = .pointer (some ⟨g, 0, none⟩)) (hc : w.cell? ⟨g, 0, none⟩ = some v) : (results fn tmps).run Tryd.prog w = .ok v w := by
  have hp' : tmps[p]?.getD undef = .pointer (some ⟨g, 0, none⟩) := by simpa using hp
  simp [results, h, hp', asAddr, go_sem, hc]
theorem wsame_leave {w W : World} {zb : Bool} {D : Nat} (tmps : Array Value) (hp : tmps.getD 6 undef = .pointer (some ⟨w.heap.size + 1 + 1, 0, none⟩)) (h : SmX w zb W) (hD : W.heap[D]? = some (.deferred (some []))) (hDl : w.heap.size ≤ D) :
    LeavesInM Fence.wide 5 Tryd.prog Tryd.f22 tmps (fun e w' => e = .returned (.bool zb) ∧ Below w.heap.size w w') [{ target := .collected D, args := #[] }] .returning W := by
  have h2 := h.putW (.deferred none) hDl hD rfl
  refine ⟨by simp, .inl ⟨_, _, rfl, run_takeDeferred hD, ?_⟩⟩
  exact ⟨_, results_cell_bool rfl tmps _ _ _ hp (h2.z.cell 0), rfl, h2.v⟩
theorem SmI.drewN {w W : World} {L : List (List UInt8)} {A : Option Addr} {c : Nat} {V : List RowM} {most : Int} {k : Nat} (h : SmI w L A c V most k W) (n : Nat) : SmI w L A c V most k (W.drewN n) :=
  ⟨h.a, h.m, h.z, h.i, h.n, h.e, ⟨h.v.os, h.v.tape, h.v.output, h.v.size, h.v.block⟩⟩
theorem dropV {V : List RowM} {k : Nat} (hk : k < V.length) : (V.map (fun r : RowM => r.l)).drop k = V[k].l :: (V.map (fun r : RowM => r.l)).drop (k + 1) := by
  rw [List.drop_eq_getElem_cons (by rw [List.length_map]; exact hk), List.getElem_map]
theorem dropV0 {V : List RowM} {k : Nat} (hk : V.length ≤ k) : (V.map (fun r : RowM => r.l)).drop k = [] := List.drop_eq_nil_of_le (by rw [List.length_map]; exact hk)
theorem SmI.next {w W : World} {L : List (List UInt8)} {A : Option Addr} {c : Nat} {V : List RowM} {most : Int} {k : Nat} {x : List UInt8} (h : SmI w L A c V most k W) (hL : L.drop k = x :: L.drop (k + 1)) (hk : k < V.length) (hx : x = V[k].l) (hm : ¬ (k : Int) + 1 = most) :
    SmI w L A c V most (k + 1) (W.setCell ⟨w.heap.size + 1 + 1 + 1, 0, none⟩ (.int .i64 ((k : Int) + 1))) := by
  refine ⟨h.a.far (by show _ ≠ _ + 1 + 1 + 1; omega) _, h.m.far (by show _ + 1 ≠ _ + 1 + 1 + 1; omega) _, h.z.far (by show _ + 1 + 1 ≠ _ + 1 + 1 + 1; omega) _, ?_, hk, ?_, h.v.setCell (p := ⟨w.heap.size + 1 + 1 + 1, 0, none⟩) (by show _ ≤ _ + 1 + 1 + 1; omega) _⟩
  · have := h.i.set 0 (.int .i64 ((k : Int) + 1))
    exact this
  · have he := h.e
    rw [hL, dropV hk] at he
    rw [← he, sameB, if_pos hx, if_neg hm]
theorem SmI.val {w W : World} {L : List (List UInt8)} {A : Option Addr} {c : Nat} {V : List RowM} {most : Int} {k : Nat} {x : List UInt8} (h : SmI w L A c V most k W) (hL : L.drop k = x :: L.drop (k + 1)) : sameB L (V.map (·.l)) most 0 = (if h : k < V.length then (if x = V[k].l then (if (k : Int) + 1 = most then true else sameB (L.drop (k + 1)) ((V.map (·.l)).drop (k + 1)) most (k + 1)) else false) else false) := by
  rw [← h.e, hL]
  by_cases hk : k < V.length
  · rw [dif_pos hk, dropV hk, sameB]
  · rw [dif_neg hk, dropV0 (by omega), sameB]
theorem SmI.last {w W : World} {L : List (List UInt8)} {A : Option Addr} {c : Nat} {V : List RowM} {most : Int} {k : Nat} (h : SmI w L A c V most k W) (hL : L.length = k) : sameB L (V.map (·.l)) most 0 = ((k : Int) == (V.length : Int)) := by
  rw [← h.e, show L.drop k = [] from List.drop_eq_nil_of_le (by omega), sameB]
  have := h.n
  by_cases hk : k = V.length
  · subst hk
    rw [dropV0 (Nat.le_refl _)]
    simp
  · have h1 : ((k : Int) == (V.length : Int)) = false := beq_eq_false_iff_ne.2 (by omega)
    rw [h1, dropV (by omega)]
    rfl

section
attribute [local go_sem] Oper.semAt_some
set_option maxRecDepth 100000 in
set_option maxHeartbeats 8000000 in
theorem wsame_any (w : World) (q d : Nat) (m : WlM) (h : WlOk w q d m) (hrb : ∀ r ∈ m.rows, r.l.length ≤ 100000000) (hn : m.rows.length ≤ 1000000000) (A : Option Addr) (c : Nat) (V : List RowM) (hV : WantW w w.heap.size A V) (hVn : V.length ≤ 1000000000) (most : Int) :
    Calls Tryd.prog 22 #[.pointer (some ⟨q, 0, none⟩), .slice A V.length c, .int .i64 most] w fun e w' => e = .returned (.bool (sameB (m.rows.map (·.l)) (V.map (·.l)) most 0)) ∧ Below w.heap.size w w' := by
  have H := Lib.hid h
  have HRb := Lib.hid hrb
  have HN := Lib.hid hn
  have HV := Lib.hid hV
  have HVn := Lib.hid hVn
  clear h hrb hn hV hVn
  obtain ⟨L, hL⟩ : ∃ L, m.rows.map (·.l) = L := ⟨_, rfl⟩
  have HL := Lib.hid hL
  rw [hL]
  have V4 : Hid (Below w.heap.size w ((((w.alloc (.cells #[.slice A V.length c] 25)).alloc (.cells #[.int .i64 most] 3)).alloc (.cells #[.bool false] 4)).alloc (.cells #[.int .i64 0] 3))) := nxAlloc (nxAlloc (nxAlloc (nxAlloc (nxRefl w) _) _) _) _
  have A4 : Hid (Blk ((((w.alloc (.cells #[.slice A V.length c] 25)).alloc (.cells #[.int .i64 most] 3)).alloc (.cells #[.bool false] 4)).alloc (.cells #[.int .i64 0] 3)) w.heap.size 25 #[.slice A V.length c]) := (((Blk.newAt rfl rfl : Blk (w.alloc (.cells #[.slice A V.length c] 25)) w.heap.size 25 #[.slice A V.length c]).alloc _).alloc _).alloc _
  have M4 : Hid (Blk ((((w.alloc (.cells #[.slice A V.length c] 25)).alloc (.cells #[.int .i64 most] 3)).alloc (.cells #[.bool false] 4)).alloc (.cells #[.int .i64 0] 3)) (w.heap.size + 1) 3 #[.int .i64 most]) := ((Blk.newAt (by simp) rfl : Blk ((w.alloc (.cells #[.slice A V.length c] 25)).alloc (.cells #[.int .i64 most] 3)) (w.heap.size + 1) 3 #[.int .i64 most]).alloc _).alloc _
  have Z4 : Hid (Blk ((((w.alloc (.cells #[.slice A V.length c] 25)).alloc (.cells #[.int .i64 most] 3)).alloc (.cells #[.bool false] 4)).alloc (.cells #[.int .i64 0] 3)) (w.heap.size + 2) 4 #[.bool false]) := (Blk.newAt (by simp) rfl : Blk (((w.alloc (.cells #[.slice A V.length c] 25)).alloc (.cells #[.int .i64 most] 3)).alloc (.cells #[.bool false] 4)) (w.heap.size + 2) 4 #[.bool false]).alloc _
  have I4 : Hid (Blk ((((w.alloc (.cells #[.slice A V.length c] 25)).alloc (.cells #[.int .i64 most] 3)).alloc (.cells #[.bool false] 4)).alloc (.cells #[.int .i64 0] 3)) (w.heap.size + 3) 3 #[.int .i64 0]) := Blk.newAt (by simp) rfl
  have HB4 : Hid (w.heap.size ≤ (((((w.alloc (.cells #[.slice A V.length c] 25)).alloc (.cells #[.int .i64 most] 3)).alloc (.cells #[.bool false] 4)).alloc (.cells #[.int .i64 0] 3))).heap.size) := V4.out.size
  have HW4 : Hid (WlOk ((((w.alloc (.cells #[.slice A V.length c] 25)).alloc (.cells #[.int .i64 most] 3)).alloc (.cells #[.bool false] 4)).alloc (.cells #[.int .i64 0] 3)) q d m) := H.out.below V4.out
  have hba := batches_any ((((w.alloc (.cells #[.slice A V.length c] 25)).alloc (.cells #[.int .i64 most] 3)).alloc (.cells #[.bool false] 4)).alloc (.cells #[.int .i64 0] 3)) q d m HW4.out
  have HBa := Lib.hid hba
  have qfn : ∀ (W : World) (g : Nat), (binOp .eql 60 (.func (.func 55) #[] #[.pointer (some ⟨g, 0, none⟩)]) .nilFunc).run Tryd.prog W = .ok (.bool false) W := fun W g => by kernel_rfl
  clear hba hL
  refine (callsIn_wide (n := 5)).1 ?_
  refine callsIn_of_wp_marks Tryd.func22 rfl trivial ?_ rfl
  simp only [Tryd.ntmps22, List.size_toArray, List.length_cons, List.length_nil, Nat.reduceAdd, Nat.reduceSub, Array.replicate_succ, Array.replicate_zero, List.push_toArray, List.append_toArray, List.nil_append, List.cons_append]
  gi_wp2_with (first
    | ((with_reducible show Fence.wide.fn 26 ∧ _); refine ⟨trivial, ?_⟩; refine (callsIn_wide.2 HBa.out).mono ?_; rintro e w5 ⟨rfl, hbx, hv5⟩; have V5 : Hid (Below w.heap.size w w5) := nxTrD V4.out hv5; have BX5 := Lib.hid hbx; have A5 := Lib.hid (A4.out.below hv5 A4.out.lt); have M5 := Lib.hid (M4.out.below hv5 M4.out.lt); have Z5 := Lib.hid (Z4.out.below hv5 Z4.out.lt); have I5 := Lib.hid (I4.out.below hv5 I4.out.lt); have HW5 : Hid (WlOk w5 q d m) := HW4.out.below hv5; clear hbx hv5))
  have SM0 : Hid (SmI w L A c V most 0 w5) := ⟨A5.out, M5.out, Z5.out, I5.out, Nat.zero_le _, rfl, V5.out⟩
  clear HBa A4 M4 Z4 I4 V4 HB4 HW4
  have HWt : Hid (WantW w5 w.heap.size A V) := HV.out.below V5.out
  have HBs : Hid (SeesV w5 w.heap.size m.A (rowsC m.rows) ∧ ∀ r ∈ m.rows, Sees w5 w.heap.size r.A r.l ∧ r.l.length ≤ 100000000) := ⟨(SeesV.own H.out.ww).below V5.out, fun r hr => ⟨(RowM.sees (H.out.o r hr)).below V5.out, HRb.out r hr⟩⟩
  have hgb5 : w5.cell? ⟨w.heap.size + 1 + 1 + 1 + 1, 0, none⟩ = some (.slice m.A m.rows.length m.c) := by
    have e : (((((w.alloc (.cells #[.slice A V.length c] 25)).alloc (.cells #[.int .i64 most] 3)).alloc (.cells #[.bool false] 4)).alloc (.cells #[.int .i64 0] 3)) : World).heap.size = w.heap.size + 1 + 1 + 1 + 1 := by rw [World.size_alloc, World.size_alloc, World.size_alloc, World.size_alloc]
    rw [← e]
    exact BX5.out.cell 0
  have HGB5 := Lib.hid hgb5
  have HS5 : Hid (w.heap.size ≤ w5.heap.size) := V5.out.size
  clear qfn hgb5 BX5 A5 M5 Z5 I5 HW5 V5
  obtain ⟨zb, hzb⟩ : ∃ z, sameB L (V.map (·.l)) most 0 = z := ⟨_, rfl⟩
  have HZb := Lib.hid hzb
  refine wpIn_rangeW (gf := 55) (lb := #[.pointer (some ⟨w.heap.size + 1 + 1 + 1 + 1, 0, none⟩)]) rfl (enters_of Tryd.func55 (by kernel_rfl) rfl) m.rows.length w.heap.size HS5.out (HandW m.rows)
    (fun k W => SmI w L A c V most k W) (fun W => SmX w zb W) ?seq ?size ?hand SM0.out (fun k W W' h b => h.below b) (fun k W l o o' h hl hh ho => h.putW o' (Nat.le_trans HS5.out hl) hh ho) (fun W l o o' h hl hh ho => h.putW o' (Nat.le_trans HS5.out hl) hh ho)
    (fun vs => { tmps := #[.pointer (some ⟨q, 0, none⟩), .slice A V.length c, .int .i64 most, undef, .pointer (some ⟨w.heap.size, 0, none⟩), .pointer (some ⟨w.heap.size + 1, 0, none⟩), .pointer (some ⟨w.heap.size + 1 + 1, 0, none⟩), .pointer (some ⟨w.heap.size + 1 + 1 + 1, 0, none⟩), .func (.func 55) #[] #[.pointer (some ⟨w.heap.size + 1 + 1 + 1 + 1, 0, none⟩)], vs.getD 0 undef, vs.getD 1 undef, .pointer (some ⟨q, 0, none⟩), .func (.func 55) #[] #[.pointer (some ⟨w.heap.size + 1 + 1 + 1 + 1, 0, none⟩)], .func (.func 55) #[] #[.pointer (some ⟨w.heap.size + 1 + 1 + 1 + 1, 0, none⟩)], .bool false, .func (.func 55) #[] #[.pointer (some ⟨w.heap.size + 1 + 1 + 1 + 1, 0, none⟩)], vs.getD 0 undef, vs.getD 1 undef, undef, undef, undef, undef, undef, undef, undef, undef, undef, undef, undef, undef, undef, undef, undef, undef, undef, undef, undef, undef, undef, undef, undef, undef, undef, undef, undef, undef, undef, undef], defers := [] }) ?assign ?body ?done ?stop
  case seq =>
    intro l J Jx W hbW hJ hY hJ0
    have hcell : W.cell? ⟨w.heap.size + 1 + 1 + 1 + 1, 0, none⟩ = some (.slice m.A m.rows.length m.c) := cell_later hbW HGB5.out
    exact batches1_in 4 l _ w.heap.size m.rows m.A m.c J Jx W hcell (Nat.le_trans HS5.out hbW.size) (HBs.out.1.below (hbW.mono HS5.out)) (fun r hr => ⟨((HBs.out.2 r hr).1).below (hbW.mono HS5.out), (HBs.out.2 r hr).2⟩) HN.out hJ
      (fun k x A9 c9 W1 hk hj hb ho => hY k _ W1 hk.1 ⟨x, A9, c9, rfl, hk, ho⟩ hj hb) hJ0
  case size =>
    rintro k vs W ⟨x, A9, c9, rfl, -, -⟩
    rfl
  case hand =>
    rintro k vs W l r o' ⟨x, A9, c9, rfl, hk, ho⟩ hl
    exact ⟨x, A9, c9, rfl, hk, own_putW ho o' hl rfl⟩
  case assign =>
    rintro l k vs W K ⟨x, A9, c9, rfl, -, -⟩ hK
    gi_wp2
    exact hK
  case body =>
    rintro l k vs W hkN ⟨x, A9, c9, rfl, ⟨hk, hx⟩, ho⟩ hI
    show Code.wpIn _ _ _ _ _ { tmps := #[.pointer (some ⟨q, 0, none⟩), .slice A V.length c, .int .i64 most, undef, .pointer (some ⟨w.heap.size, 0, none⟩), .pointer (some ⟨w.heap.size + 1, 0, none⟩), .pointer (some ⟨w.heap.size + 1 + 1, 0, none⟩), .pointer (some ⟨w.heap.size + 1 + 1 + 1, 0, none⟩), .func (.func 55) #[] #[.pointer (some ⟨w.heap.size + 1 + 1 + 1 + 1, 0, none⟩)], .int .u64 ((k : Int) + 1), .slice A9 x.length c9, .pointer (some ⟨q, 0, none⟩), .func (.func 55) #[] #[.pointer (some ⟨w.heap.size + 1 + 1 + 1 + 1, 0, none⟩)], .func (.func 55) #[] #[.pointer (some ⟨w.heap.size + 1 + 1 + 1 + 1, 0, none⟩)], .bool false, .func (.func 55) #[] #[.pointer (some ⟨w.heap.size + 1 + 1 + 1 + 1, 0, none⟩)], .int .u64 ((k : Int) + 1), .slice A9 x.length c9, undef, undef, undef, undef, undef, undef, undef, undef, undef, undef, undef, undef, undef, undef, undef, undef, undef, undef, undef, undef, undef, undef, undef, undef, undef, undef, undef, undef, undef, undef], defers := [] } W
    have HI : Hid (SmI w L A c V most k W) := hI
    have HO9 := Lib.hid ho
    have HLk : Hid (L.drop k = x :: L.drop (k + 1)) := by
      have hkL : k < L.length := by rw [← HL.out, List.length_map]; exact hk
      show _ = _
      rw [List.drop_eq_getElem_cons hkL]
      congr 1
      rw [← hx]
      simp [← HL.out]
    have hkV : k ≤ V.length := hI.n
    have hVn : V.length ≤ 1000000000 := HVn.out
    have ca : W.cell? ⟨w.heap.size, 0, none⟩ = some (.slice A V.length c) := hI.a.cell 0
    have cm : W.cell? ⟨w.heap.size + 1, 0, none⟩ = some (.int .i64 most) := hI.m.cell 0
    have ci : W.cell? ⟨w.heap.size + 1 + 1 + 1, 0, none⟩ = some (.int .i64 (k : Int)) := hI.i.cell 0
    have hw1 : IntKind.i64.wrap ((k : Int) + 1) = (k : Int) + 1 := by rw [IntKind.wrap_i64]; omega
    have hw2 : IntKind.u64.wrap ((k : Int) + 1) = (k : Int) + 1 := by rw [IntKind.wrap_u64]; omega
    have HWk : Hid (WantW W w.heap.size A V) := HV.out.below hI.v
    have HBW : Hid (w.heap.size ≤ W.heap.size) := hI.v.size
    clear hI hx hk ho
    gi_wp2
    by_cases hlt : k < V.length
    · obtain ⟨b, off, hAe, hb, hcs⟩ := HWk.out.s.at_ (k := k) (by rw [rowsC_len]; exact hlt)
      obtain ⟨y, hy⟩ : ∃ y, V[k] = y := ⟨_, rfl⟩
      have cv : W.cell? ⟨b, off + k, none⟩ = some (.slice y.A y.l.length y.c) := by
        rw [hcs k (by rw [rowsC_len]; exact hlt)]
        unfold rowsC
        rw [List.getElem_map, hy]; rfl
      have HSy : Hid (Sees W W.heap.size y.A y.l) := (HWk.out.r y (by rw [← hy]; exact List.getElem_mem hlt)).more HBW.out
      have HVal : Hid (zb = (if x = y.l then (if (k : Int) + 1 = most then true else sameB (L.drop (k + 1)) ((V.map (·.l)).drop (k + 1)) most (k + 1)) else false)) := by show _ = _; rw [← HZb.out, HI.out.val HLk.out, dif_pos hlt, hy]
      have HYl : Hid (∃ h : k < V.length, V[k].l = y.l) := ⟨hlt, by rw [hy]⟩
      have q1 : ∀ n, (convert 23 9 (.slice A9 x.length c9)).run Tryd.prog (W.drewN n) = .ok (.string (Str x)) (W.drewN n) := fun n => run_string_sees Tryd.underlying23 Tryd.underlying5 Tryd.underlying9 rfl (show Sees (W.drewN n) W.heap.size A9 x from RowM.sees HO9.out)
      obtain ⟨t, ht⟩ : ∃ t, y.l = t := ⟨_, rfl⟩
      rw [ht] at cv HSy HVal HYl
      have q2 : ∀ n, (convert 23 9 (.slice y.A t.length y.c)).run Tryd.prog (W.drewN n) = .ok (.string (Str t)) (W.drewN n) := fun n => run_string_sees Tryd.underlying23 Tryd.underlying5 Tryd.underlying9 rfl (show Sees (W.drewN n) W.heap.size y.A t from HSy.out)
      have hge : ¬ (V.length : Int) ≤ (k : Int) := by omega
      have hge2 : decide ((V.length : Int) ≤ (k : Int)) = false := decide_eq_false hge
      have HLt := Lib.hid hlt
      clear hcs hy ht hlt
      subst hAe
      by_cases hxt : x = t
      · have q3 : (x == t) = true := by rw [hxt]; simp
        rw [if_pos hxt] at HVal
        have HXt := Lib.hid hxt
        clear hxt
        by_cases hm : (k : Int) + 1 = most
        · rw [if_pos hm] at HVal
          have hm2 : ((k : Int) + 1 == most) = true := by rw [hm]; simp
          refine wpIn_round_quiet (by kernel_rfl) (by kernel_rfl) (by kernel_rfl) ?_
          repeat (go_big_quiet_step (fail))
          refine wpQuiet_nil ?_
          intro _ hw'
          obtain ⟨nq, rfl⟩ := hw'
          have HId := Lib.hid (HI.out.drewN nq)
          have KO : Hid (KeepsOthers W (W.drewN nq)) := ⟨Nat.le_refl _, fun _ _ h _ => h⟩
          have BO : Hid (Below w.heap.size W (W.drewN nq)) := ⟨rfl, rfl, rfl, Nat.le_refl _, fun _ _ => rfl⟩
          obtain ⟨Wd, hWd⟩ : ∃ x, W.drewN nq = x := ⟨_, rfl⟩
          rw [hWd] at HId KO BO ⊢
          clear hWd
          have ciz : Wd.cell? ⟨w.heap.size + 1 + 1 + 1, 0, none⟩ = some (.int .i64 (k : Int)) := HId.out.i.cell 0
          have fiz : Wd.frozen? ⟨w.heap.size + 1 + 1 + 1, 0, none⟩ = false := HId.out.i.frozen 0
          have czz : Wd.cell? ⟨w.heap.size + 1 + 1, 0, none⟩ = some (.bool false) := HId.out.z.cell 0
          have fzz : Wd.frozen? ⟨w.heap.size + 1 + 1, 0, none⟩ = false := HId.out.z.frozen 0
          have cmz : Wd.cell? ⟨w.heap.size + 1, 0, none⟩ = some (.int .i64 most) := HId.out.m.cell 0
          gi_wp2
          show KeepsOthers W _ ∧ SmX w zb _
          rw [HVal.out]
          exact ⟨(KO.out.trans (KeepsOthers.setCell _ _ _)).trans (KeepsOthers.setCell _ _ _), (HId.out.z.far (by show _ + 1 + 1 ≠ _ + 1 + 1 + 1; omega) _).set 0 _, (HId.out.v.setCell (p := ⟨w.heap.size + 1 + 1 + 1, 0, none⟩) (by show _ ≤ _ + 1 + 1 + 1; omega) _).setCell (p := ⟨w.heap.size + 1 + 1, 0, none⟩) (by show _ ≤ _ + 1 + 1; omega) _⟩
        · rw [if_neg hm] at HVal
          have hm2 : ((k : Int) + 1 == most) = false := beq_eq_false_iff_ne.2 hm
          have HM := Lib.hid hm
          refine wpIn_round_quiet (by kernel_rfl) (by kernel_rfl) (by kernel_rfl) ?_
          repeat (go_big_quiet_step (fail))
          refine wpQuiet_nil ?_
          intro _ hw'
          obtain ⟨nq, rfl⟩ := hw'
          have HId := Lib.hid (HI.out.drewN nq)
          have KO : Hid (KeepsOthers W (W.drewN nq)) := ⟨Nat.le_refl _, fun _ _ h _ => h⟩
          have BO : Hid (Below w.heap.size W (W.drewN nq)) := ⟨rfl, rfl, rfl, Nat.le_refl _, fun _ _ => rfl⟩
          obtain ⟨Wd, hWd⟩ : ∃ x, W.drewN nq = x := ⟨_, rfl⟩
          rw [hWd] at HId KO BO ⊢
          clear hWd
          have ciz : Wd.cell? ⟨w.heap.size + 1 + 1 + 1, 0, none⟩ = some (.int .i64 (k : Int)) := HId.out.i.cell 0
          have fiz : Wd.frozen? ⟨w.heap.size + 1 + 1 + 1, 0, none⟩ = false := HId.out.i.frozen 0
          have czz : Wd.cell? ⟨w.heap.size + 1 + 1, 0, none⟩ = some (.bool false) := HId.out.z.cell 0
          have fzz : Wd.frozen? ⟨w.heap.size + 1 + 1, 0, none⟩ = false := HId.out.z.frozen 0
          have cmz : Wd.cell? ⟨w.heap.size + 1, 0, none⟩ = some (.int .i64 most) := HId.out.m.cell 0
          gi_wp2
          obtain ⟨hk9, hyl⟩ := HYl.out
          exact ⟨KO.out.trans (KeepsOthers.setCell _ _ _), BO.out.setCell (p := ⟨w.heap.size + 1 + 1 + 1, 0, none⟩) (by show _ ≤ _ + 1 + 1 + 1; omega) _, HId.out.next HLk.out hk9 (by rw [HXt.out, hyl]) HM.out⟩
      · have q3 : (x == t) = false := beq_eq_false_iff_ne.2 hxt
        rw [if_neg hxt] at HVal
        clear hxt
        refine wpIn_round_quiet (by kernel_rfl) (by kernel_rfl) (by kernel_rfl) ?_
        repeat (go_big_quiet_step (fail))
        refine wpQuiet_nil ?_
        intro _ hw'
        obtain ⟨nq, rfl⟩ := hw'
        have HId := Lib.hid (HI.out.drewN nq)
        have KO : Hid (KeepsOthers W (W.drewN nq)) := ⟨Nat.le_refl _, fun _ _ h _ => h⟩
        have BO : Hid (Below w.heap.size W (W.drewN nq)) := ⟨rfl, rfl, rfl, Nat.le_refl _, fun _ _ => rfl⟩
        obtain ⟨Wd, hWd⟩ : ∃ x, W.drewN nq = x := ⟨_, rfl⟩
        rw [hWd] at HId KO BO ⊢
        clear hWd
        have ciz : Wd.cell? ⟨w.heap.size + 1 + 1 + 1, 0, none⟩ = some (.int .i64 (k : Int)) := HId.out.i.cell 0
        have fiz : Wd.frozen? ⟨w.heap.size + 1 + 1 + 1, 0, none⟩ = false := HId.out.i.frozen 0
        have czz : Wd.cell? ⟨w.heap.size + 1 + 1, 0, none⟩ = some (.bool false) := HId.out.z.cell 0
        have fzz : Wd.frozen? ⟨w.heap.size + 1 + 1, 0, none⟩ = false := HId.out.z.frozen 0
        have cmz : Wd.cell? ⟨w.heap.size + 1, 0, none⟩ = some (.int .i64 most) := HId.out.m.cell 0
        gi_wp2
        show KeepsOthers W _ ∧ SmX w zb _
        rw [HVal.out]
        exact ⟨KO.out.trans (KeepsOthers.setCell _ _ _), HId.out.z.set 0 _, HId.out.v.setCell (p := ⟨w.heap.size + 1 + 1, 0, none⟩) (by show _ ≤ _ + 1 + 1; omega) _⟩
    · have HVal : Hid (zb = false) := by show _ = _; rw [← HZb.out, HI.out.val HLk.out, dif_neg hlt]
      have hge : (V.length : Int) ≤ (k : Int) := by omega
      have hge2 : decide ((V.length : Int) ≤ (k : Int)) = true := decide_eq_true hge
      clear hlt
      refine wpIn_round_quiet (by kernel_rfl) (by kernel_rfl) (by kernel_rfl) ?_
      repeat (go_big_quiet_step (fail))
      refine wpQuiet_nil ?_
      intro _ hw'
      obtain ⟨nq, rfl⟩ := hw'
      have HId := Lib.hid (HI.out.drewN nq)
      have KO : Hid (KeepsOthers W (W.drewN nq)) := ⟨Nat.le_refl _, fun _ _ h _ => h⟩
      have BO : Hid (Below w.heap.size W (W.drewN nq)) := ⟨rfl, rfl, rfl, Nat.le_refl _, fun _ _ => rfl⟩
      obtain ⟨Wd, hWd⟩ : ∃ x, W.drewN nq = x := ⟨_, rfl⟩
      rw [hWd] at HId KO BO ⊢
      clear hWd
      have ciz : Wd.cell? ⟨w.heap.size + 1 + 1 + 1, 0, none⟩ = some (.int .i64 (k : Int)) := HId.out.i.cell 0
      have fiz : Wd.frozen? ⟨w.heap.size + 1 + 1 + 1, 0, none⟩ = false := HId.out.i.frozen 0
      have czz : Wd.cell? ⟨w.heap.size + 1 + 1, 0, none⟩ = some (.bool false) := HId.out.z.cell 0
      have fzz : Wd.frozen? ⟨w.heap.size + 1 + 1, 0, none⟩ = false := HId.out.z.frozen 0
      have cmz : Wd.cell? ⟨w.heap.size + 1, 0, none⟩ = some (.int .i64 most) := HId.out.m.cell 0
      gi_wp2
      show KeepsOthers W _ ∧ SmX w zb _
      rw [HVal.out]
      exact ⟨KO.out.trans (KeepsOthers.setCell _ _ _), HId.out.z.set 0 _, HId.out.v.setCell (p := ⟨w.heap.size + 1 + 1, 0, none⟩) (by show _ ≤ _ + 1 + 1; omega) _⟩
  case done =>
    intro D W hI hD hDl
    have HI : Hid (SmI w L A c V most m.rows.length W) := hI
    have ca : W.cell? ⟨w.heap.size, 0, none⟩ = some (.slice A V.length c) := hI.a.cell 0
    have cz : W.cell? ⟨w.heap.size + 1 + 1, 0, none⟩ = some (.bool false) := hI.z.cell 0
    have fz : W.frozen? ⟨w.heap.size + 1 + 1, 0, none⟩ = false := hI.z.frozen 0
    have ci : W.cell? ⟨w.heap.size + 1 + 1 + 1, 0, none⟩ = some (.int .i64 (m.rows.length : Int)) := hI.i.cell 0
    have HD := Lib.hid hD
    have HLn : Hid (L.length = m.rows.length) := by show _ = _; rw [← HL.out, List.length_map]
    clear hI hD
    gi_wp2
    rw [HZb.out]
    have hv : zb = ((m.rows.length : Int) == (V.length : Int)) := by rw [← HZb.out]; exact HI.out.last HLn.out
    have hz2 : Blk (W.setCell ⟨w.heap.size + 1 + 1, 0, none⟩ (.bool ((m.rows.length : Int) == (V.length : Int)))) (w.heap.size + 1 + 1) 4 #[.bool zb] := by
      rw [← hv]; exact HI.out.z.set 0 _
    exact wsame_leave _ rfl ⟨hz2, HI.out.v.setCell (p := ⟨w.heap.size + 1 + 1, 0, none⟩) (by show _ ≤ _ + 1 + 1; omega) _⟩ ((KeepsOthers.setCell W _ _).same D _ HD.out rfl) (Nat.le_trans HS5.out hDl)
  case stop =>
    intro D W hX hD hDl
    have HX := Lib.hid hX
    have HD := Lib.hid hD
    clear hX hD
    gi_wp2
    rw [HZb.out]
    exact wsame_leave _ rfl HX.out HD.out (Nat.le_trans HS5.out hDl)
end
end Go.Proofs.YtlepajddekblcaaDoor
