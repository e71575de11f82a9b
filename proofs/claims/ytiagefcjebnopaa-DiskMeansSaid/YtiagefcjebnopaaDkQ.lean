/-
  disk: DiskApart.
-/
import Derived.Test.YtiagefcjebnopaaDkO
import Derived.Test.YtiagefcjebnopaaDkP
import Derived.Deep.MidRow
namespace Go.Proofs.Ytiagefcjebnopaa
open Go.RowKit

theorem own_byteD {w : World} {base : Nat} {A : Option Addr} {n c : Nat} {l : List UInt8} (h : w.ownsRow base 5 1 (.slice A n c) n (By l)) {j : Nat} (hj : j < l.length) :
    ∃ g, A = some ⟨g, 0, none⟩ ∧ base ≤ g ∧ w.cell? ⟨g, j, none⟩ = some (.int .u8 (l[j].toNat : Int)) ∧ w.frozen? ⟨g, j, none⟩ = false ∧
      ∀ b : UInt8, (w.setCell ⟨g, j, none⟩ (.int .u8 (b.toNat : Int))).ownsRow base 5 1 (.slice (some ⟨g, 0, none⟩) n c) n (By (l.set j b)) := by
  have hn : n = l.length := by have := h.1; simp [By_length] at this; omega
  rcases h.2 with ⟨_, h0⟩ | ⟨g, cap, cur, hv, hb, hh, hnc, hcm, hcs, ht⟩
  · omega
  · injection hv with hA _ hc
    subst hA hc
    refine ⟨g, rfl, hb, ?_, h.frozenAt j, fun b => ?_⟩
    · rw [h.cellAt j (by omega)]
      simp [By, hj]
    · have := (h.stored j (.int .u8 (b.toNat : Int))).1
      have e : By (l.set j b) = (By l).set j (.int .u8 (b.toNat : Int)) := by simp [By, List.map_set]
      rw [e]
      exact this
theorem u8_modD (n : Nat) : (UInt8.ofNat (n % 256)).toNat = n % 256 := by
  rw [UInt8.toNat_ofNat']; omega
structure ApInv (W0 wr : World) (g : Nat) (m : DkM) (o : Nat) (n : DkM) (i : Nat) : Prop where
  t : Two wr g m o n
  e : m.d = n.d
  wf : DkWf m.d
  wl : m.W.length ≤ i
  b : Below W0.heap.size W0 wr
  f : ∀ j, foot g m j → W0.heap.size ≤ j
  f2 : ∀ j, foot o n j → W0.heap.size ≤ j
theorem Two.new {w1 w2 : World} {g o : Nat} (h1 : DkOk w1 g newM) (h2 : DkOk w2 o newM) (ho : w1.heap.size ≤ o) (b : Below w1.heap.size w1 w2) : Two w2 g newM o newM := by
  have hg := h1.lt
  have hro : ∀ j, ¬ ro newM j := fun j ⟨s, hs, _⟩ => by cases hs
  exact ⟨(DkTo.below h1 b).ok, h2, ⟨fun j a c => by have := newM_foot g j a; have := newM_foot o j c; omega, fun j _ c => hro j c⟩, ⟨fun j a c => by have := newM_foot o j a; have := newM_foot g j c; omega, fun j _ c => hro j c⟩⟩
/-- A step, and its bytes in a row of one's own. -/
def ArgM.at_ (a : ArgM) (A : Option Addr) (c : Nat) : ArgM := { a with A := A, c := c }
theorem ArgM.at_d (a : ArgM) (A : Option Addr) (c : Nat) : (a.at_ A c).d = a.d := rfl
theorem rngD {w W : World} {b o : Nat} {cs : List Value} (h : w.rangeAt b o cs) (hb : Below w.heap.size w W) (hl : b < w.heap.size) : W.rangeAt b o cs := fun i v hv => by
  have h1 := h i v hv
  exact (World.cell?_of_block (hb.block b hl)).trans h1
theorem Try.stepSize : (Try.prog.info? 25).map (·.size) = some 6 := by kernel_rfl
theorem argC_one (a : ArgM) : ∀ v ∈ (argC a).toArray.toList, v.oneCell' = true := by
  intro v hv
  simp only [argC, List.mem_cons, List.not_mem_nil, or_false] at hv
  rcases hv with rfl | rfl | rfl | rfl | rfl | rfl <;> rfl
theorem blk_range {w : World} {g : Nat} {t : TypeId} {cs : List Value} (h : Blk w g t cs.toArray) : w.rangeAt g 0 cs := by
  intro i v hv
  rw [Nat.zero_add, h.cell]
  simpa using hv

set_option maxHeartbeats 8000000 in
set_option maxRecDepth 100000 in
theorem diskApart_any (w : World) (A : Option Addr) (l : List ArgM) (c : Nat) (k : ArgsOk w A l c) (x : ArgM) (hx : ArgOk w x) : Calls Try.prog 3 #[.slice A l.length c, .agg (argC x).toArray] w fun e w' => e = .returned (.bool true) ∧ Below w.heap.size w w' := by
  obtain ⟨i0, hi0, hz0, hz1, hz2⟩ : ∃ i, Try.prog.info? 5 = some i ∧ i.zero = some (.int .u8 0) ∧ i.size = 1 ∧ i.bytes = 1 := by
    have h := Try.u8infoD
    cases e : Try.prog.info? 5 with
    | none => rw [e] at h; cases h
    | some i =>
      rw [e] at h
      injection h with h
      injection h with h1 h2
      injection h2 with h2 h3
      exact ⟨i, rfl, h1, h2, h3⟩
  have HI0 := Lib.hid hi0
  clear hi0
  obtain ⟨W0, hW0⟩ : ∃ W, w.alloc (.cells (argC x).toArray 25) = W := ⟨_, rfl⟩
  have V0 : Hid (Below w.heap.size w W0) := (by rw [← hW0]; exact nxAlloc (nxRefl w) _)
  have BX : Hid (Blk W0 w.heap.size 25 (argC x).toArray) := (by rw [← hW0]; exact heap_alloc_new w _)
  have K0 : Hid (ArgsOk W0 A l c) := k.later V0.out
  have X0 : Hid (ArgOk W0 x) := hx.later V0.out
  have x5 : W0.cell? ⟨w.heap.size, 5, none⟩ = some (.slice x.A x.b.length x.c) := BX.out.cell 5
  clear k hx
  go_enter Try.func3, Try.ntmps3
  go_upto_region 1 with fail
  clear hW0
  obtain ⟨z, hz⟩ : ∃ z, w.heap.size = z := ⟨_, rfl⟩
  have HZ := Lib.hid hz
  rw [hz] at BX x5 ⊢
  clear hz
  have hMuch := muchD_any W0 A l c K0.out
  unfold MuchD at hMuch
  have KN : ∀ (e : Ending) (wk : World), (e = .returned (.bool true) ∧ Below W0.heap.size W0 wk) → (e = .returned (.bool true) ∧ Below w.heap.size w wk) := fun e wk h => ⟨h.1, nxTrD V0.out h.2⟩
  by_cases hxl : (20000 : Int) < (x.b.length : Int)
  · go_upto_region 2 with (first
      | (go_at_call 6; refine hMuch.mono ?_; rintro e w1 ⟨zb, rfl, -, hw1⟩; obtain rfl := hw1.symm; cases zb))
    all_goals
      go_wp2_with (first
        | (go_at_call 7; refine (knownD_any _).mono ?_; rintro e wk ⟨rfl, hbk⟩; have VK := Lib.hid hbk; clear hbk))
      go_ret
      exact KN _ _ ⟨rfl, VK.out⟩
  · go_upto_region 2 with (first
      | (go_at_call 6; refine hMuch.mono ?_; rintro e w1 ⟨zb, rfl, hzb, hw1⟩; obtain rfl := hw1.symm; have HZb := Lib.hid hzb; cases zb))
    rotate_left 1
    · go_wp2_with (first
        | (go_at_call 7; refine (knownD_any _).mono ?_; rintro e wk ⟨rfl, hbk⟩; have VK := Lib.hid hbk; clear hbk))
      go_ret
      exact KN _ _ ⟨rfl, VK.out⟩
    · have HM : Hid (l.length ≤ 60 ∧ ∀ a ∈ l, a.b.length ≤ 20000) := HZb.out trivial
      clear HZb hMuch
      have hxl2 : x.b.length ≤ 20000 := by omega
      have HXl := Lib.hid hxl2
      clear hxl hxl2 x5
      go_wp2_with (first
        | (go_at_call 8; (with_reducible show Calls _ _ _ W0 _); refine (new_any W0).mono ?_; unfold ptrD; rintro e w1 ⟨g, rfl, hg, hok, hb⟩; have D1 := Lib.hid hok; have HG := Lib.hid hg; have V1 := Lib.hid hb; clear hg hok hb)
        | (go_at_call 8; (with_reducible show Calls _ _ _ w1 _); refine (new_any w1).mono ?_; unfold ptrD; rintro e w2 ⟨o, rfl, hg, hok, hb⟩; have D2 := Lib.hid hok; have HO := Lib.hid hg; have V2 := Lib.hid hb; clear hg hok hb))
      have AP0 : Hid (ApInv W0 w2 g newM o newM 0) := ⟨Two.new D1.out D2.out HO.out V2.out, rfl, by rw [newM_d]; exact newD_wf, Nat.le_refl _, nxTrD V1.out V2.out, fun j hj => by rw [newM_foot g j hj]; exact HG.out, fun j hj => by rw [newM_foot o j hj]; exact Nat.le_trans V1.out.size HO.out⟩
      clear D1 D2 HG HO V1 V2
      go_loopw [7] (fun iv wr => ∃ (i : Nat) (m n : DkM), i ≤ l.length ∧ iv = .int .i64 i ∧ Hid (ApInv W0 wr g m o n i)) (fun iv _ => l.length - (intOf iv).toNat)
      case atStart => exact ⟨0, newM, newM, by omega, rfl, AP0.out⟩
      case round =>
        obtain ⟨i, m, n, hi, rfl, AP⟩ := hrel
        clear AP0
        by_cases hlt : i < l.length
        · have hin : (i : Int) < (l.length : Int) := by omega
          have hl60 : l.length ≤ 60 := HM.out.1
          have hwi : IntKind.i64.wrap ((i : Int) + 1) = (i : Int) + 1 := by rw [IntKind.wrap_i64]; omega
          obtain ⟨b, off, hA, hb, hr⟩ := K0.out.row (by omega)
          obtain ⟨a, ha⟩ : ∃ a, l[i] = a := ⟨_, rfl⟩
          have hc := hr i hlt
          rw [ha] at hc
          have AO : Hid (ArgOk W0 a) := K0.out.a a (by rw [← ha]; exact List.getElem_mem hlt)
          have AL : Hid (a.b.length ≤ 20000) := HM.out.2 a (by rw [← ha]; exact List.getElem_mem hlt)
          have HC := Lib.hid hc
          have HB := Lib.hid hb
          clear hr hc ha hb
          rw [hA]
          have HCr : Hid (wr.rangeAt b (off + i * 6) (argC a)) := rngD HC.out AP.out.b HB.out
          go_upto_region 10 with (first
            | ((with_reducible show wpList _ _ _ (⟨some 41, _, _, _, _, _⟩ :: _) _ _); refine wpList_load_mid rfl 25 (.tmp 40) rfl b (off + i * 6) rfl (argC a) _ HCr.out Try.underlying25 rfl Try.stepSize ?_)
            | ((with_reducible show wpList _ _ _ (⟨none, _, _, _, _, _⟩ :: _) _ _); (show wpList _ _ _ _ _ (wr.alloc (.cells #[.int .i64 0, .int .i64 0, .int .i64 0, .int .i64 0, .int .u8 0, .slice none 0 0] 25))); refine wpList_store_wholeD rfl 25 (.tmp 8) (.tmp 41) rfl wr.heap.size 25 #[.int .i64 0, .int .i64 0, .int .i64 0, .int .i64 0, .int .u8 0, .slice none 0 0] (argC a).toArray rfl rfl (heap_alloc_new wr _) rfl Try.stepSize (argC_one a) ?_; intro wb h5 h6 h7; have BB := Lib.hid h5; have KB := Lib.hid h6; clear h5 h6 h7))
          have VB : Hid (Below wr.heap.size wr wb) := ((nxAlloc (nxRefl wr) _).trans (KB.out.below (nxAlloc (nxRefl wr) _).size (fun j hj e => by omega)))
          have Yl : Hid (wr.heap.size < wb.heap.size) := BB.out.lt
          have c5 : wb.cell? ⟨wr.heap.size, 5, none⟩ = some (.slice a.A a.b.length a.c) := BB.out.cell 5
          have SA : Hid (Sees wb wb.heap.size a.A a.b) := ((AO.out.s.later (nxTrD AP.out.b VB.out)).more (nxTrD AP.out.b VB.out).size)
          clear KB
          simp only [Act.put]
          go_upto_region 11 with (first
            | (at_builtin; refine wpList_append_sees rfl (.const (.slice none 0 0)) (.tmp 43) 23 rfl wb.heap.size 5 i0 (.int .u8 0) Try.underlying23 HI0.out hz0 hz1 hz2 rfl (.slice none 0 0) 0 [] rfl (World.ownsRow_nil _ _ _ _) _ a.A a.b.length a.c a.b rfl rfl SA.out (by have := AL.out; omega) (Nat.le_refl _) ?_; intro v' w3 hown hgr hat; simp only [Nat.zero_add, List.nil_append] at hown; obtain ⟨A1, c1, rfl⟩ := own_form hown; have Ho1 := Lib.hid hown; have Hb1 := Lib.hid ((Below.refl wb.heap.size wb).grown hgr (Nat.le_refl _) (fun k hk => by simp [Value.ownBlock] at hk)); (have BY3 : Hid (Blk w3 wr.heap.size 25 (argC a).toArray) := BB.out.below Hb1.out Yl.out); clear hown hgr hat)
            | ((with_reducible show wpList _ _ _ (⟨none, _, _, _, _, _⟩ :: _) _ _); refine wpList_store_partD rfl 23 (.tmp 45) (.tmp 44) rfl wr.heap.size 5 25 (argC a).toArray #[.slice A1 a.b.length c1] (argC (a.at_ A1 c1)).toArray (.slice A1 a.b.length c1) rfl rfl rfl BY3.out (Nat.le_refl _) (by kernel_rfl) (fun u hu => by rw [List.mem_singleton.1 hu]; rfl) rfl ?_; intro w4 h5 h6 h7; have BY4 := Lib.hid h5; have KY4 := Lib.hid h6; clear h5 h6 h7))
          have hyl : wr.heap.size < wb.heap.size := Yl.out
          have V4 : Hid (Below wr.heap.size wr w4) := ((nxTrD VB.out Hb1.out).trans (KY4.out.below (nxTrD VB.out Hb1.out).size (fun j hj e => by omega)))
          have T4 : Hid (Two w4 g m o n) := AP.out.t.below V4.out
          have Ho4 : Hid (w4.ownsRow wb.heap.size 5 1 (.slice A1 a.b.length c1) a.b.length (By a.b)) := own_keep Ho1.out KY4.out (fun j hj e => by have := (Ho1.out.lt j hj).1; omega)
          have AO4 : Hid (ArgOk w4 (a.at_ A1 c1)) := ⟨Sees.own Ho4.out, AO.out.n⟩
          have hb3 : wb.heap.size ≤ w3.heap.size := Hb1.out.size
          have hk4 : w3.heap.size ≤ w4.heap.size := KY4.out.size
          have Y4 : Hid (wr.heap.size < w4.heap.size ∧ wb.heap.size ≤ w4.heap.size) := ⟨by omega, by omega⟩
          clear BY3 Ho1 Hb1 KY4 c5 hyl hb3 hk4
          simp only [Act.put]
          go_upto_region 12 with (first
            | ((with_reducible show wpList _ _ _ (⟨some 47, _, _, _, _, _⟩ :: _) _ _); refine wpList_load_mid rfl 25 (.tmp 8) rfl wr.heap.size 0 rfl (argC (a.at_ A1 c1)) _ (blk_range BY4.out) Try.underlying25 rfl Try.stepSize ?_)
            | (go_at_call 9; refine (ldo_any w4 g m T4.out.a AP.out.wf (by have := AP.out.wl; omega) (a.at_ A1 c1) AO4.out (by have := AL.out; show a.b.length ≤ _; omega)).mono ?_; unfold DkPost; rintro e w5 ⟨rfl, m5, hm5, hd5⟩; have M5 := Lib.hid hm5; have E5 := Lib.hid hd5; clear hm5 hd5))
          have V04 : Hid (Below W0.heap.size W0 w4) := nxTrD AP.out.b V4.out
          have V05 : Hid (Below W0.heap.size W0 w5) := V04.out.trans (M5.out.k.below V04.out.size (fun j hj hf => by have := AP.out.f j hf; omega))
          have HC5 : Hid (w5.rangeAt b (off + i * 6) (argC a)) := rngD HC.out V05.out HB.out
          have T5 : Hid (Two w5 g m5 o n) := T4.out.step M5.out
          have AO5 : Hid (ArgOk w5 a) := AO.out.later V05.out
          go_upto_region 13 with (first
            | ((with_reducible show wpList _ _ _ (⟨some 53, _, _, _, _, _⟩ :: _) _ _); refine wpList_load_mid rfl 25 (.tmp 52) rfl b (off + i * 6) rfl (argC a) _ HC5.out Try.underlying25 rfl Try.stepSize ?_)
            | (go_at_call 9; refine (ldo_any w5 o n T5.out.b (by rw [← AP.out.e]; exact AP.out.wf) (by rw [DkM.wlen, ← AP.out.e, ← DkM.wlen]; have := AP.out.wl; omega) a AO5.out (by have := AL.out; omega)).mono ?_; unfold DkPost; rintro e w6 ⟨rfl, n6, hm6, hd6⟩; have M6 := Lib.hid hm6; have E6 := Lib.hid hd6; clear hm6 hd6))
          obtain ⟨wo, rfl⟩ : ∃ wo : World, wo = wr := ⟨_, rfl⟩
          have T6 : Hid (Two w6 g m5 o n6) := (T5.out.swap.step M6.out).swap
          have V06 : Hid (Below W0.heap.size W0 w6) := V05.out.trans (M6.out.k.below V05.out.size (fun j hj hf => by have := AP.out.f2 j hf; omega))
          have F0 : Hid (∀ j, wo.heap.size ≤ j → Free j g m o n) := fun j h1 => AP.out.t.free h1
          have F6 : Hid (∀ j, wo.heap.size ≤ j → j < w4.heap.size → Free j g m5 o n6) := fun j h1 h2 => (((F0.out j h1).step1 M5.out h2).swap.step1 M6.out (Nat.lt_of_lt_of_le h2 M5.out.k.size)).swap
          have BY6 : Hid (Blk w6 wo.heap.size 25 (argC (a.at_ A1 c1)).toArray) := (BY4.out.keeps M5.out.k (F0.out _ (Nat.le_refl _)).1).keeps M6.out.k (F0.out _ (Nat.le_refl _)).2.2.1
          have Ho6 : Hid (w6.ownsRow wb.heap.size 5 1 (.slice A1 a.b.length c1) a.b.length (By a.b)) := own_keep (own_keep Ho4.out M5.out.k (fun j hj hf => (F0.out j (by have := (Ho4.out.lt j hj).1; have := Yl.out; omega)).1 hf)) M6.out.k (fun j hj hf => (F0.out j (by have := (Ho4.out.lt j hj).1; have := Yl.out; omega)).2.2.1 hf)
          have HJ : Hid (∀ j, (Value.slice A1 a.b.length c1).ownBlock = some j → wb.heap.size ≤ j ∧ j < w4.heap.size) := fun j hj => Ho4.out.lt j hj
          have HAb := AL.out
          go_wp2
          go_loopw [9] (fun jv wx => ∃ (j : Nat) (l2 : List UInt8), j ≤ a.b.length ∧ jv = .int .i64 j ∧ Hid (l2.length = a.b.length) ∧ Hid (Blk wx wo.heap.size 25 (argC (a.at_ A1 c1)).toArray) ∧ Hid (wx.ownsRow wb.heap.size 5 1 (.slice A1 a.b.length c1) a.b.length (By l2)) ∧ Hid (Two wx g m5 o n6) ∧ Hid (Below W0.heap.size W0 wx)) (fun jv _ => a.b.length - (intOf jv).toNat)
          case atStart => exact ⟨0, a.b, Nat.zero_le _, rfl, rfl, BY6.out, Ho6.out, T6.out, V06.out⟩
          case round =>
            obtain ⟨j, l2, hj, rfl, Hl2, BYx, Hox, Tx, Vx⟩ := hrel
            have c5x : wr.cell? ⟨wo.heap.size, 5, none⟩ = some (.slice A1 a.b.length c1) := BYx.out.cell 5
            by_cases hjl : j < a.b.length
            · have hjl2 : j < l2.length := by rw [Hl2.out]; exact hjl
              obtain ⟨gb, rfl, hgb, hcell, hfr, hset⟩ := own_byteD Hox.out hjl2
              have hj1 : (j : Int) < (a.b.length : Int) := by omega
              have hjw : IntKind.i64.wrap ((j : Int) + 1) = (j : Int) + 1 := by rw [IntKind.wrap_i64]; omega
              have hlt256 : l2[j].toNat < 256 := l2[j].toNat_lt
              have Hgz : Hid (gb < w4.heap.size) := (HJ.out gb rfl).2
              have Hgb := Lib.hid hgb
              have Hset := Lib.hid hset
              clear hset
              have HE : Hid (((UInt8.ofNat ((l2[j].toNat + 1) % 256)).toNat : Int) = ((l2[j].toNat : Int) + 1) % 256) := by show _ = _; rw [u8_modD]; omega
              have KS : Hid (∀ v, Keeps (· = gb) wr (wr.setCell ⟨gb, j, none⟩ v)) := fun v => Keeps.setCell (S := (· = gb)) (p := ⟨gb, j, none⟩) (Keeps.refl _ _) rfl v
              have hyg : wo.heap.size < gb := Nat.lt_of_lt_of_le Yl.out hgb
              have Hyg := Lib.hid hyg
              clear hyg hgb
              go_wp2
              go_roundw
              case rel => exact ⟨j + 1, l2.set j (UInt8.ofNat ((l2[j].toNat + 1) % 256)), by omega, by go_num, (by show _ = _; rw [List.length_set]; exact Hl2.out), BYx.out.far (by have := Hyg.out; show wo.heap.size ≠ gb; omega) _, (by show World.ownsRow _ _ _ _ _ _ _; rw [← HE.out]; exact Hset.out _), Tx.out.write (KS.out _) (F6.out gb (by have := Hyg.out; omega) Hgz.out), Vx.out.trans ((KS.out _).below Vx.out.size (fun q hq e => by have := Hyg.out; have := AP.out.b.size; omega))⟩
              case measure => simp [intOf] <;> omega
            · have hj1 : ¬ (j : Int) < (a.b.length : Int) := by omega
              have hj2 : decide ((j : Int) < (a.b.length : Int)) = false := decide_eq_false hj1
              go_wp2
              go_roundw
              case rel => exact ⟨i + 1, m5, n6, by omega, by go_num, ⟨Tx.out, by rw [E5.out, E6.out, ArgM.at_d, AP.out.e], by rw [E5.out]; exact doD_wf AP.out.wf _ AO.out.n, by rw [DkM.wlen, E5.out]; have h1 := doD_W m.d (a.at_ A1 c1).d; have h2 := AP.out.wl; rw [DkM.wlen] at h2; omega, Vx.out, fun q hq => (M5.out.ft q hq).elim (AP.out.f q) (fun h => Nat.le_trans V04.out.size h), fun q hq => (M6.out.ft q hq).elim (AP.out.f2 q) (fun h => Nat.le_trans V05.out.size h)⟩⟩
              case measure => simp [intOf] <;> omega
        · have hin : ¬ (i : Int) < (l.length : Int) := by omega
          have hin2 : decide ((i : Int) < (l.length : Int)) = false := decide_eq_false hin
          have hi60 : i ≤ 60 := by have := HM.out.1; omega
          obtain ⟨wo, rfl⟩ : ∃ wo : World, wo = wr := ⟨_, rfl⟩
          have HW60 : Hid (m.W.length ≤ 60) := (by have := AP.out.wl; show m.W.length ≤ 60; omega)
          go_wp2_with (first
            | (go_at_call 10; refine (readLog_any wo g m AP.out.t.a AP.out.wf 0).mono ?_; unfold ReadPost; rintro e w7 ⟨⟨A7, c7, l7⟩, rfl, -, hro, hfr, hb7⟩; have RO : Hid (w7.ownsRow 0 5 1 (.slice A7 l7.length c7) l7.length (By l7)) := hro; have HL7 : Hid (l7.length ≤ c7 ∧ c7 ≤ maxLen) := RowM.len hro; have RF : Hid (∀ j, A7.map (·.block) = some j → wo.heap.size ≤ j) := hfr; have B7 := Lib.hid hb7; (have hv7 : RowM.v ⟨A7, c7, l7⟩ = .slice A7 l7.length c7 := rfl); rw [hv7]; clear hv7; clear hro hfr hb7))
          go_loopw [12] (fun jv wx => ∃ (j : Nat) (l2 : List UInt8), j ≤ l7.length ∧ jv = .int .i64 j ∧ Hid (l2.length = l7.length) ∧ Hid (wx.ownsRow 0 5 1 (.slice A7 l7.length c7) l7.length (By l2)) ∧ Hid (Two wx g m o n) ∧ Hid (Below W0.heap.size W0 wx)) (fun jv _ => l7.length - (intOf jv).toNat)
          case atStart => exact ⟨0, l7, Nat.zero_le _, rfl, rfl, RO.out, AP.out.t.below B7.out, nxTrD AP.out.b B7.out⟩
          case round =>
            obtain ⟨j, l2, hj, rfl, Hl2, Hox, Tx, Vx⟩ := hrel
            have hmx : l7.length ≤ 9223372036854775807 := Nat.le_trans HL7.out.1 (Nat.le_trans HL7.out.2 (by decide))
            by_cases hjl : j < l7.length
            · have hjl2 : j < l2.length := by rw [Hl2.out]; exact hjl
              obtain ⟨gb, rfl, -, hcell, hfr, hset⟩ := own_byteD Hox.out hjl2
              have hj1 : (j : Int) < (l7.length : Int) := by omega
              have hjw : IntKind.i64.wrap ((j : Int) + 1) = (j : Int) + 1 := by rw [IntKind.wrap_i64]; omega
              have hlt256 : l2[j].toNat < 256 := l2[j].toNat_lt
              have Hgb : Hid (wo.heap.size ≤ gb) := RF.out gb rfl
              have Hset := Lib.hid hset
              clear hset
              have HE : Hid (((UInt8.ofNat ((l2[j].toNat + 1) % 256)).toNat : Int) = ((l2[j].toNat : Int) + 1) % 256) := by show _ = _; rw [u8_modD]; omega
              have KS : Hid (∀ v, Keeps (· = gb) wr (wr.setCell ⟨gb, j, none⟩ v)) := fun v => Keeps.setCell (S := (· = gb)) (p := ⟨gb, j, none⟩) (Keeps.refl _ _) rfl v
              go_wp2
              go_roundw
              case rel => exact ⟨j + 1, l2.set j (UInt8.ofNat ((l2[j].toNat + 1) % 256)), by omega, by go_num, (by show _ = _; rw [List.length_set]; exact Hl2.out), (by show World.ownsRow _ _ _ _ _ _ _; rw [← HE.out]; exact Hset.out _), Tx.out.write (KS.out _) (AP.out.t.free Hgb.out), Vx.out.trans ((KS.out _).below Vx.out.size (fun q hq e => by have := Hgb.out; have := AP.out.b.size; omega))⟩
              case measure => simp [intOf] <;> omega
            · have hj1 : ¬ (j : Int) < (l7.length : Int) := by omega
              have hj2 : decide ((j : Int) < (l7.length : Int)) = false := decide_eq_false hj1
              have DN : Hid (n.W.length = m.W.length) := (by show n.W.length = _; rw [DkM.wlen, DkM.wlen, AP.out.e])
              clear RO HL7 RF B7 Hox Hl2 hmx
              go_upto_region 25 with (first
                | (go_at_call 11; refine (copy_any wr g m Tx.out.a AP.out.wf.m (by have := HW60.out; omega)).mono ?_; unfold CopyPost; rintro e w8 ⟨g', m', rfl, hcp⟩; have C8 := Lib.hid hcp; clear hcp; (have T1 : Hid (Two w8 g' m' o n) := CopyTo.two (g := g) C8.out Tx.out.b Tx.out.p.r); (have T2 : Hid (Two w8 g' m' g m) := CopyTo.two (g := g) C8.out Tx.out.a (fun j hf hr => (Tx.out.a.f j hr).1 hf)); (have T3 : Hid (Two w8 g m o n) := Tx.out.below C8.out.v); (have DE : Hid (m'.d = n.d) := C8.out.d.trans AP.out.e); (have DW : Hid (m'.W.length = m.W.length) := (congrArg List.length C8.out.W)); unfold ptrD)
                | (go_at_call 12; (with_reducible show Calls _ _ _ w8 _); refine (same_any w8 g' o m' n (T1.out.a) (T1.out.b)).mono ?_; intro e w9 hsp; obtain ⟨rfl, hbs⟩ := lsame_true DE.out hsp; have B_w9 := Lib.hid hbs; clear hsp hbs)
                | (go_at_call 12; (with_reducible show Calls _ _ _ w9 _); refine (same_any w9 o g n m ((T3.out.below B_w9.out).b) ((T3.out.below B_w9.out).a)).mono ?_; intro e w10 hsp; obtain ⟨rfl, hbs⟩ := lsame_true AP.out.e.symm hsp; have B_w10 := Lib.hid hbs; clear hsp hbs)
                | (go_at_call 13; (with_reducible show Calls _ _ #[.pointer (some ⟨g', 0, none⟩)] _ _); refine (waiting_any w10 g' m' ((T1.out.below B_w9.out).below B_w10.out).a).mono ?_; rw [DW.out]; rintro e wn ⟨rfl, hwn⟩; obtain rfl := hwn.symm)
                | (go_at_call 13; (with_reducible show Calls _ _ #[.pointer (some ⟨o, 0, none⟩)] _ _); refine (waiting_any w10 o n ((T1.out.below B_w9.out).below B_w10.out).b).mono ?_; rw [DN.out]; rintro e wn ⟨rfl, hwn⟩; obtain rfl := hwn.symm)
                | (go_at_call 14; (with_reducible show Calls _ _ #[.pointer (some ⟨g', 0, none⟩)] _ _); refine (dead_any w10 g' m' ((T1.out.below B_w9.out).below B_w10.out).a).mono ?_; (rw [show m'.dead = m.dead from congrArg DkD.dead C8.out.d]); rintro e wn ⟨rfl, hwn⟩; obtain rfl := hwn.symm)
                | (go_at_call 14; (with_reducible show Calls _ _ #[.pointer (some ⟨o, 0, none⟩)] _ _); refine (dead_any w10 o n ((T1.out.below B_w9.out).below B_w10.out).b).mono ?_; (rw [show n.dead = m.dead from (congrArg DkD.dead AP.out.e).symm]); rintro e wn ⟨rfl, hwn⟩; obtain rfl := hwn.symm))
              have V8 : Hid (Below W0.heap.size W0 w8) := nxTrD Vx.out C8.out.v
              have V10 : Hid (Below W0.heap.size W0 w10) := nxTrD V8.out (nxTrD B_w9.out B_w10.out)
              have hzl : z < W0.heap.size := BX.out.lt
              have BX10 : Hid (Blk w10 z 25 (argC x).toArray) := BX.out.below V10.out hzl
              have X10 : Hid (ArgOk w10 x) := X0.out.later V10.out
              have T1a : Hid (Two w10 g' m' o n) := (T1.out.below B_w9.out).below B_w10.out
              have T3a : Hid (Two w10 g m o n) := (T3.out.below B_w9.out).below B_w10.out
              have HZl := Lib.hid hzl
              clear hzl
              go_upto_region 28 with (first
                | ((with_reducible show wpList _ _ _ (⟨some 117, _, _, _, _, _⟩ :: _) _ _); refine wpList_load_mid rfl 25 (.tmp 3) rfl z 0 rfl (argC x) _ (blk_range BX10.out) Try.underlying25 rfl Try.stepSize ?_)
                | (go_at_call 9; (with_reducible show Calls _ _ _ w10 _); refine (ldo_any w10 g' m' T1a.out.a (by rw [DE.out, ← AP.out.e]; exact AP.out.wf) (by have := HW60.out; have := DW.out; omega) x X10.out (by have := HXl.out; omega)).mono ?_; rw [DE.out]; unfold DkPost; rintro e w11 ⟨rfl, mc, hmc, hdc⟩; have MC := Lib.hid hmc; have EC := Lib.hid hdc; clear hmc hdc; (have T1b : Hid (Two w11 g' mc o n) := T1a.out.step MC.out); (have T3b : Hid (Two w11 g m o n) := T3a.out.stand T2.out.o T1.out.o MC.out))
                | (go_at_call 12; (with_reducible show Calls _ _ _ w11 _); refine (same_any w11 g o m n (T3b.out.a) (T3b.out.b)).mono ?_; intro e w12 hsp; obtain ⟨rfl, hbs⟩ := lsame_true AP.out.e hsp; have B_w12 := Lib.hid hbs; clear hsp hbs))
              have hs10 : W0.heap.size ≤ w10.heap.size := V10.out.size
              have hs8 : W0.heap.size ≤ wr.heap.size := Vx.out.size
              have V11 : Hid (Below W0.heap.size W0 w11) := V10.out.trans (MC.out.k.below V10.out.size (fun q hq hf => by have := C8.out.f q hf; omega))
              have V12 : Hid (Below W0.heap.size W0 w12) := nxTrD V11.out B_w12.out
              have BX12 : Hid (Blk w12 z 25 (argC x).toArray) := BX.out.below V12.out HZl.out
              have X12 : Hid (ArgOk w12 x) := X0.out.later V12.out
              have T1c : Hid (Two w12 g' mc o n) := T1b.out.below B_w12.out
              clear hs10 hs8
              go_wp2_with (first
                | ((with_reducible show wpList _ _ _ (⟨some 124, _, _, _, _, _⟩ :: _) _ _); refine wpList_load_mid rfl 25 (.tmp 3) rfl z 0 rfl (argC x) _ (blk_range BX12.out) Try.underlying25 rfl Try.stepSize ?_)
                | (go_at_call 9; refine (ldo_any w12 o n T1c.out.b (by rw [← AP.out.e]; exact AP.out.wf) (by have := HW60.out; have := DN.out; omega) x X12.out (by have := HXl.out; omega)).mono ?_; unfold DkPost; rintro e w13 ⟨rfl, no, hmo, hdo⟩; have MO := Lib.hid hmo; have EO := Lib.hid hdo; clear hmo hdo; (have T1d : Hid (Two w13 g' mc o no) := (T1c.out.swap.step MO.out).swap); (have ED : Hid (mc.d = no.d) := EC.out.trans EO.out.symm); (have WFo : Hid (DkWf no.d) := (by rw [EO.out, ← AP.out.e]; exact doD_wf AP.out.wf _ X0.out.n)); (have WLo : Hid (no.W.length ≤ 1000) := (by show no.W.length ≤ _; rw [DkM.wlen, EO.out]; have h1 := doD_W n.d x.d; have h2 := HW60.out; rw [DkM.wlen, AP.out.e] at h2; omega)); (have WLc : Hid (mc.W.length ≤ 1000) := (by show mc.W.length ≤ _; rw [DkM.wlen, ED.out, ← DkM.wlen]; exact WLo.out)))
                | (go_at_call 12; (with_reducible show Calls _ _ _ w13 _); refine (same_any w13 g' o mc no (T1d.out.a) (T1d.out.b)).mono ?_; intro e w14 hsp; obtain ⟨rfl, hbs⟩ := lsame_true ED.out hsp; have B_w14 := Lib.hid hbs; clear hsp hbs)
                | (go_at_call 16; (with_reducible show Calls _ _ _ w14 _); refine (crash_any w14 g' mc (T1d.out.below B_w14.out).a (by rw [ED.out]; exact WFo.out) WLc.out 1 1).mono ?_; unfold CrPost; rintro e w15 ⟨rfl, mc2, hmc, hdc⟩; have M15 := Lib.hid hmc; have E15 := Lib.hid hdc; clear hmc hdc; (have T15 : Hid (Two w15 g' mc2 o no) := (T1d.out.below B_w14.out).step M15.out))
                | (go_at_call 16; (with_reducible show Calls _ _ _ w15 _); refine (crash_any w15 o no T15.out.b WFo.out WLo.out 1 1).mono ?_; unfold CrPost; rintro e w16 ⟨rfl, no2, hmc, hdc⟩; have M16 := Lib.hid hmc; have E16 := Lib.hid hdc; clear hmc hdc; (have T16 : Hid (Two w16 g' mc2 o no2) := (T15.out.swap.step M16.out).swap); (have E17 : Hid (mc2.d = no2.d) := (by show _ = _; rw [E15.out, E16.out, ED.out])))
                | (go_at_call 12; (with_reducible show Calls _ _ _ w16 _); refine (same_any w16 g' o mc2 no2 (T16.out.a) (T16.out.b)).mono ?_; intro e w17 hsp; obtain ⟨rfl, hbs⟩ := lsame_true E17.out hsp; have B_w17 := Lib.hid hbs; clear hsp hbs)
                | (go_at_call 7; refine (knownD_any w17).mono ?_; rintro e w18 ⟨rfl, hbk⟩; have VK := Lib.hid hbk; clear hbk)
                | (go_at_call 15; refine (numD_any _ _).mono ?_; rintro e wn ⟨rfl, hwn⟩; obtain rfl := hwn.symm))
              go_ret
              have hc8 : ∀ q, foot g' m' q → W0.heap.size ≤ q := fun q hq => Nat.le_trans Vx.out.size (C8.out.f q hq)
              have hcc : ∀ q, foot g' mc q → W0.heap.size ≤ q := fun q hq => (MC.out.ft q hq).elim (hc8 q) (fun h => Nat.le_trans V10.out.size h)
              have h13 : Below W0.heap.size W0 w13 := V12.out.trans (MO.out.k.below V12.out.size (fun q hq hf => by have := AP.out.f2 q hf; omega))
              have hno : ∀ q, foot o no q → W0.heap.size ≤ q := fun q hq => (MO.out.ft q hq).elim (AP.out.f2 q) (fun h => Nat.le_trans V12.out.size h)
              have h14 := nxTrD h13 B_w14.out
              have h15 : Below W0.heap.size W0 w15 := h14.trans (M15.out.k.below h14.size (fun q hq hf => by have := hcc q hf; omega))
              have h16 : Below W0.heap.size W0 w16 := h15.trans (M16.out.k.below h15.size (fun q hq hf => by have := hno q hf; omega))
              exact KN _ _ ⟨rfl, nxTrD (nxTrD h16 B_w17.out) VK.out⟩
end Go.Proofs.Ytiagefcjebnopaa
