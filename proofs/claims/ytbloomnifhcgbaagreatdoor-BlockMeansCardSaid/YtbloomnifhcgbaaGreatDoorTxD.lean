/-
  tx, the document's: Pack.
-/
import Derived.Test.YtbloomnifhcgbaaGreatDoorTxC
import Derived.Test.YtbloomnifhcgbaaGreatDoorTq
namespace Go.Proofs.YtbloomnifhcgbaaGreatDoor
open Go.RowKit

theorem step_app {P : Program} {w : World} {ops : Array Oper} {o : Oper} {a : Act} {K : Act → World → Prop} {Q : Exit → Act → World → Prop} {E : Prop} (hgd : o.guard = none) (s x : Operand) (t : TypeId)
    (ho : o.op = .call { callee := .builtin .append, args := #[s, x], argTypes := #[t, t] })
    (base : Nat) (e : TypeId) (i : TypeInfo) (z : Value) (ht : P.underlying t = some (.slice e)) (hi : P.info? e = some i) (hz : i.zero = some z)
    (hsize : i.size = 1) (hby : i.bytes = 1) (hzs : z.cells.size = 1)
    (v : Value) (n : Nat) (xs : List Value) (hs : a.eval s = v) (hown : w.ownsRow base e 1 v n xs)
    (B : Nat) (A : Option Addr) (m c : Nat) (l : List UInt8) (hx : a.eval x = .slice A m c) (hm : m = l.length) (hse : Sees w B A l) (hbytes : n + m ≤ 140737488355328) (hbase : base ≤ w.heap.size)
    (h : ∀ v' w', w'.ownsRow base e 1 v' (n + m) (xs ++ By l) → w.grownBy w' v.ownBlock → (v'.ownBlock = v.ownBlock ∨ v'.ownBlock = some w.heap.size) → K (a.put o.dst v') w') : if Region.wanted o (yielded ops a.tmps) = true then Oper.wp P o a w K Q else E := by
  have hw : Region.wanted o (yielded ops a.tmps) = true := by simp [Region.wanted, hgd]
  rw [if_pos hw]
  obtain ⟨v', w', hr, h2, h3, h4⟩ := run_append_sees (P := P) base t o.type e i z ht hi hz hsize hby hzs v n xs hown B A m c l hm hse hbytes hbase
  unfold Oper.wp execOp
  simp only [ho, resolve, invoke, builtin, Sem.run_bind, Sem.run_pure, Result.andThen_ok, List.map_toArray, List.map_cons, List.map_nil, hs, hx, hr]
  exact h v' w' h2 h3 h4
theorem cellG {w w' : World} {b o : Nat} {v : Value} {rb : Option Nat} (h : w.cell? ⟨b, o, none⟩ = some v) (hg : w.grownBy w' rb) (hlt : b < w.heap.size) (hne : some b ≠ rb) : w'.cell? ⟨b, o, none⟩ = some v := (World.cell?_of_block (a := ⟨b, o, none⟩) (hg.block b hlt hne)).trans h
theorem blkG {w w' : World} {b : Nat} {t : TypeId} {cs : Array Value} {rb : Option Nat} (h : Blk w b t cs) (hg : w.grownBy w' rb) (hne : some b ≠ rb) : Blk w' b t cs := (hg.block b h.lt hne).trans h
theorem sees_blk {w : World} {b B : Nat} {t : TypeId} {l : List UInt8} {more : List Value} (h : Blk w b t (By l ++ more).toArray) (hB : b < B) : Sees w B (some ⟨b, 0, none⟩) l := by
  refine .inr ⟨b, 0, rfl, hB, fun i hi => ?_⟩
  rw [Nat.zero_add, h.cell i]
  have h1 : (By l ++ more)[i]? = (By l)[i]? := List.getElem?_append_left (by rw [By_length]; exact hi)
  rw [List.getElem?_toArray, h1]
  simp [By, hi]
theorem own_n {w : World} {base n : Nat} {e : TypeId} {v : Value} {l : List UInt8} (h : w.ownsRow base e 1 v n (By l)) : n = l.length := by have := h.1; rw [By_length] at this; omega
theorem own_gb {w w' : World} {base n : Nat} {e : TypeId} {v : Value} {xs : List Value} (h : w.ownsRow base e 1 v n xs) (hb : Below w.heap.size w w') : w'.ownsRow base e 1 v n xs := own_below h hb (fun g hg => (own_lt h g hg).2)

theorem lock_sees {w : World} {b o : Nat} {B : Nat} {x y : OutR} (h : w.rangeAt b o (outC x)) (he : x = y) (hB : b < B) : Sees w B (some ⟨b, o + 1, none⟩) y.lock := by
  subst he
  refine .inr ⟨b, o + 1, rfl, hB, fun i hi => ?_⟩
  have := h (i + 1) (.int .u8 (x.lock[i].toNat : Int)) (by simp [outC, By, hi])
  rw [show o + 1 + i = o + (i + 1) by omega]; exact this
theorem own_cp {w : World} {base n c : Nat} {A : Option Addr} {e : TypeId} {xs : List Value} (h : w.ownsRow base e 1 (.slice A n c) n xs) : n ≤ c := by
  rcases h.2 with ⟨_, h0⟩ | ⟨g, cap, cur, hv, _, _, hnc, _⟩
  · omega
  · injection hv with _ _ h3; omega
def PackPost (w : World) (t : TxR) (e : Ending) (w' : World) : Prop := (∃ A c, e = .returned (.slice A (packT t).length c) ∧ (packT t).length ≤ c ∧ Sees w' w'.heap.size A (packT t)) ∧ Below w.heap.size w w'

set_option maxHeartbeats 4000000 in
set_option maxRecDepth 100000 in
theorem pack_any (w : World) (t : TxR) (h : TxOk w t) (hz : checkT t = 0) : Calls Tryz.prog 64 #[.agg (txC t).toArray] w (PackPost w t) := by
  have hA := TxAt.new h
  have hc0 : (w.alloc (.cells (txC t).toArray 66)).cell? ⟨w.heap.size, 0, none⟩ = some (.slice t.A t.ins.length t.c) := hA.1.cell 0
  have HC : Hid ((w.alloc (.cells (txC t).toArray 66)).cell? ⟨w.heap.size, 0, none⟩ = some (.slice t.A t.ins.length t.c) ∧ (w.alloc (.cells (txC t).toArray 66)).cell? ⟨w.heap.size, 1, none⟩ = some (.slice t.B t.outs.length t.d) ∧ (w.alloc (.cells (txC t).toArray 66)).cell? ⟨w.heap.size, 2, none⟩ = some (.int .u64 (t.nonce : Int))) := ⟨hA.1.cell 0, hA.1.cell 1, hA.1.cell 2⟩
  have Hb0 : Hid (Below w.heap.size w (w.alloc (.cells (txC t).toArray 66))) := Lib.hid (nxAl (nxRf w) _)
  have Hs0 : Hid (w.heap.size < (w.alloc (.cells (txC t).toArray 66)).heap.size) := by show _ < _; simp
  obtain ⟨⟨hi1, hi2⟩, ⟨ho1, ho2⟩, hwl⟩ := checkT_ok hz
  have HI : Hid (∀ i ∈ t.ins, i.id.length = 32 ∧ i.n < 4294967296 ∧ i.wit.length ≤ 256 ∧ Sees w w.heap.size i.A i.wit) := fun i hi => ⟨(h.each i hi).id, (h.each i hi).n, hwl i hi, (h.each i hi).s⟩
  have HJ : Hid (∀ o ∈ t.outs, OutOk o) := h.eacho
  have HIS := Lib.hid h.ins
  have HJS := Lib.hid h.outs
  have HN := Lib.hid h.nonce
  have HP : Hid (packT t = leB t.ins.length 2 ++ (insB t.ins ++ (leB t.outs.length 2 ++ (outsB t.outs ++ leB t.nonce 8)))) := rfl
  have HLi : Hid (∀ k, (insB (t.ins.take k)).length ≤ 18944) := by
    intro k
    have h1 := insB_len (l := t.ins.take k) (fun i hi => ⟨(h.each i (List.mem_of_mem_take hi)).id, hwl i (List.mem_of_mem_take hi)⟩)
    have h2 : (t.ins.take k).length ≤ 64 := by rw [List.length_take]; omega
    omega
  have HLo : Hid (∀ k, (outsB (t.outs.take k)).length ≤ 2560) := by
    intro k
    have h1 := outsB_len (l := t.outs.take k) (fun i hi => (h.eacho i (List.mem_of_mem_take hi)).lock)
    have h2 : (t.outs.take k).length ≤ 64 := by rw [List.length_take]; omega
    omega
  obtain ⟨l, hl⟩ : ∃ l, t.ins = l := ⟨_, rfl⟩
  obtain ⟨m, hm⟩ : ∃ l, t.outs = l := ⟨_, rfl⟩
  obtain ⟨A, hAA⟩ : ∃ l, t.A = l := ⟨_, rfl⟩
  obtain ⟨B, hBB⟩ : ∃ l, t.B = l := ⟨_, rfl⟩
  obtain ⟨nn, hnn⟩ : ∃ l, t.nonce = l := ⟨_, rfl⟩
  rw [hl, hm, hAA, hBB, hnn] at HC
  rw [hl, hAA] at hc0
  rw [hl, hm, hnn] at HP
  rw [hl] at HI HIS HLi hi1 hi2
  rw [hm] at HJ HJS HLo ho1 ho2
  rw [hAA] at HIS
  rw [hBB] at HJS
  rw [hnn] at HN
  unfold PackPost
  obtain ⟨F, hF⟩ : ∃ F, packT t = F := ⟨_, rfl⟩
  rw [hF] at HP ⊢
  obtain ⟨b, off, hAb, hbb, hr⟩ := insC_row HIS.out (fun i h => (HI.out i h).1) (by omega)
  obtain ⟨b2, off2, hBb, hbb2, hr2⟩ := outsC_row HJS.out (fun i h => (HJ.out i h).lock) (by omega)
  rw [hAb, hBb] at HC
  rw [hAb] at hc0
  have HRr := Lib.hid hr
  have HBb := Lib.hid hbb
  have HRr2 := Lib.hid hr2
  have HBb2 := Lib.hid hbb2
  have hwl1 : IntKind.u64.wrap (l.length : Int) = (l.length : Int) := by rw [IntKind.wrap_u64]; omega
  have hwl2 : IntKind.u64.wrap (m.length : Int) = (m.length : Int) := by rw [IntKind.wrap_u64]; omega
  obtain ⟨i0, hi, hz0, hz1, hz2⟩ := info_parts Tryz.u8info
  clear hA h hz hwl hl hm hAA hBB hnn hF hAb hBb hr hbb hr2 hbb2 HIS HJS
  go_enter Tryz.func64, Tryz.ntmps64
  go_wp2_with (go_at_call 61; refine (refNumZ_any _ l.length (by omega) 2 rfl).mono ?_; rintro e w3 ⟨A1, c1, rfl, ho3, hb3⟩; have HO3 := Lib.hid ho3; have V3 : Hid (Below w.heap.size w w3) := nxTr Hb0.out hb3; have VW3 := Lib.hid hb3; clear ho3 hb3)
  clear hc0 hwl1
  generalize (w.alloc (.cells (txC t).toArray 66)) = W0 at *
  go_loopw [3, 4] (fun bv iv wr => ∃ (k n : Nat) (A1 : Option Addr) (c1 : Nat), k ≤ l.length ∧ iv = .int .i64 k ∧ bv = .slice A1 n c1 ∧ Hid (wr.ownsRow W0.heap.size 5 1 (.slice A1 n c1) n (By (leB l.length 2 ++ insB (l.take k)))) ∧ Hid (Below W0.heap.size W0 wr)) (fun _ iv _ => l.length - (intOf iv).toNat)
  case atStart => exact ⟨0, 2, A1, c1, by omega, rfl, rfl, (by rw [show insB (l.take 0) = [] from rfl, List.append_nil]; exact HO3.out), VW3.out⟩
  case round =>
    clear HO3 V3 VW3
    obtain ⟨k, n, A1, c1, hk, rfl, rfl, HO, Hb⟩ := hrel
    have hc0 : wr.cell? ⟨w.heap.size, 0, none⟩ = some (.slice (some ⟨b, off, none⟩) l.length t.c) := (Hb.out.cell (p := ⟨w.heap.size, 0, none⟩) Hs0.out).trans HC.out.1
    have HBg : Hid (Below w.heap.size w wr) := nxTr Hb0.out Hb.out
    have HnL : Hid (n ≤ 18946) := by show _ ≤ _; have h1 := own_n HO.out; rw [List.length_append, leB_length] at h1; have := HLi.out k; omega
    by_cases hlt : k < l.length
    · have hin : (k : Int) < (l.length : Int) := by omega
      have hrk := rngB (HRr.out k hlt) HBg.out HBb.out
      have hik := HI.out _ (List.getElem_mem hlt)
      have hnx := insB_next hlt
      obtain ⟨i, hii⟩ : ∃ i, l[k] = i := ⟨_, rfl⟩
      rw [hii] at hrk hik hnx
      have HR := Lib.hid hrk
      have HIk := Lib.hid hik
      have HNx := Lib.hid hnx
      have HZ : Hid ((Tryz.prog.info? 104).map (·.size) = some (inC i).length) := by show _ = _; rw [inC_len hik.1]; exact Tryz.sizeIn
      have hwn : IntKind.u64.wrap (i.n : Int) = (i.n : Int) := by rw [IntKind.wrap_u64]; have := hik.2.1; omega
      clear hrk hik hii hnx
      go_wp2_with (first
        | ((with_reducible show wpList _ _ _ (⟨some 23, _, _, _, _, _⟩ :: _) _ _); refine wpList_load_mid rfl 104 (.tmp 22) rfl b (off + k * 34) rfl (inC i) _ HR.out Tryz.underlying104 rfl HZ.out ?_)
        | ((with_reducible show wpList _ _ _ (⟨none, .store 104 _ _, _, _, _, _⟩ :: _) _ _); refine wpList_store_all rfl 104 (.tmp 5) (.tmp 23) rfl wr.heap.size 104 _ (inC i).toArray rfl rfl (heap_alloc_new wr _) (by simp [inC_len HIk.out.1]) (by rw [List.size_toArray]; exact HZ.out) (inC_one i) ?_; intro w4 h5 h6 h7; have B4 := Lib.hid h5; have C4 : Hid (w4.cell? ⟨wr.heap.size, 32, none⟩ = some (.int .u32 (i.n : Int))) := (h5.cell 32).trans (by have := (inC_at HIk.out.1).1; simpa using this); have L4 : Hid (wr.heap.size < w4.heap.size) := h5.lt; have K4 : Hid (Below wr.heap.size wr w4) := (nxAl (nxRf wr) _).trans (h6.below (nxAl (nxRf wr) _).size (fun k hk => by omega)); clear h5 h6 h7))
      clear hc0
      have HO4 := Lib.hid (own_gb HO.out K4.out)
      have Hol : Hid (∀ j, (Value.slice A1 n c1).ownBlock = some j → j < wr.heap.size) := fun j hj => (own_lt HO.out j hj).2
      have Hb4 : Hid (Below W0.heap.size W0 w4) := Hb.out.trans ⟨K4.out.os, K4.out.tape, K4.out.output, K4.out.size, fun j hj => K4.out.block j (Nat.lt_of_lt_of_le hj Hb.out.size)⟩
      obtain ⟨gi, hgi⟩ : ∃ g, wr.heap.size = g := ⟨_, rfl⟩
      have HSg : Hid (W0.heap.size ≤ gi) := by rw [← hgi]; exact Hb.out.size
      rw [hgi] at B4 C4 L4 Hol
      rw [hgi]
      clear hgi K4 HO Hb HBg HR
      refine wp_region_held_drew (S := fun W => W.cell? ⟨gi, 32, none⟩ = some (.int .u32 (i.n : Int))) (by kernel_rfl) C4.out (fun hHeld => ?_)
      refine wpAnyH_take (i := 0) (oi := ⟨_, _, _, _, _, _⟩) (v := ?_) rfl (by kernel_rfl) (by kernel_rfl) (by kernel_rfl) (fun _ _ _ h => h) (Or.inl ⟨by rfl, ?_⟩) (by assumption) ?_
      rotate_left 1
      · intro W hSw
        try dsimp only at hSw
        go_simp
        try with_reducible rfl
      try simp only [Act.put, List.setIfInBounds_toArray, List.set_cons_zero, List.set_cons_succ]
      refine wpAnyH_take (i := 1) (oi := ⟨_, _, _, _, _, _⟩) (v := ?_) rfl (by kernel_rfl) (by kernel_rfl) (by kernel_rfl) (fun _ _ _ h => h) (Or.inl ⟨by rfl, ?_⟩) (by assumption) ?_
      rotate_left 1
      · intro W hSw
        try dsimp only at hSw
        go_simp
        try with_reducible rfl
      try simp only [Act.put, List.setIfInBounds_toArray, List.set_cons_zero, List.set_cons_succ]
      refine wpAnyH_take (i := 2) (oi := ⟨_, _, _, _, _, _⟩) (v := ?_) rfl (by kernel_rfl) (by kernel_rfl) (by kernel_rfl) (fun _ _ _ h => h) (Or.inl ⟨by rfl, ?_⟩) (by assumption) ?_
      rotate_left 1
      · intro W hSw
        try dsimp only at hSw
        go_simp
        try with_reducible rfl
      try simp only [Act.put, List.setIfInBounds_toArray, List.set_cons_zero, List.set_cons_succ]
      refine wpAnyH_take (i := 3) (oi := ⟨_, _, _, _, _, _⟩) (v := ?_) rfl (by kernel_rfl) (by kernel_rfl) (by kernel_rfl) (fun _ _ _ h => h) (Or.inl ⟨by rfl, ?_⟩) (by assumption) ?_
      rotate_left 1
      · intro W hSw
        try dsimp only at hSw
        go_simp
        try with_reducible rfl
      try simp only [Act.put, List.setIfInBounds_toArray, List.set_cons_zero, List.set_cons_succ]
      refine wpAnyH_take (i := 5) (oi := ⟨_, _, _, _, _, _⟩) (v := ?_) rfl (by kernel_rfl) (by kernel_rfl) (by kernel_rfl) (fun _ _ _ h => h) (Or.inl ⟨by rfl, ?_⟩) (by assumption) ?_
      rotate_left 1
      · intro W hSw
        try dsimp only at hSw
        go_simp
        try with_reducible rfl
      try simp only [Act.put, List.setIfInBounds_toArray, List.set_cons_zero, List.set_cons_succ]
      refine wpAnyH_take (i := 6) (oi := ⟨_, _, _, _, _, _⟩) (v := ?_) rfl (by kernel_rfl) (by kernel_rfl) (by kernel_rfl) (fun _ _ _ h => h) (Or.inl ⟨by rfl, ?_⟩) (by assumption) ?_
      rotate_left 1
      · intro W hSw
        try dsimp only at hSw
        go_simp
        try with_reducible rfl
      try simp only [Act.put, List.setIfInBounds_toArray, List.set_cons_zero, List.set_cons_succ]
      refine wpAnyH_take (i := 7) (oi := ⟨_, _, _, _, _, _⟩) (v := ?_) rfl (by kernel_rfl) (by kernel_rfl) (by kernel_rfl) (fun _ _ _ h => h) (Or.inl ⟨by rfl, ?_⟩) (by assumption) ?_
      rotate_left 1
      · intro W hSw
        try dsimp only at hSw
        go_simp
        try with_reducible rfl
      try simp only [Act.put, List.setIfInBounds_toArray, List.set_cons_zero, List.set_cons_succ]
      refine wpAnyH_take (i := 8) (oi := ⟨_, _, _, _, _, _⟩) (v := ?_) rfl (by kernel_rfl) (by kernel_rfl) (by kernel_rfl) (fun _ _ _ h => h) (Or.inl ⟨by rfl, ?_⟩) (by assumption) ?_
      rotate_left 1
      · intro W hSw
        try dsimp only at hSw
        go_simp
        try with_reducible rfl
      try simp only [Act.put, List.setIfInBounds_toArray, List.set_cons_zero, List.set_cons_succ]
      refine wpAnyH_ready (rs := [4]) (by kernel_rfl) (by simp) ?_
      refine AllReadyH.cons rfl (fun K hK => ?_) AllReadyH.nil
      refine step_app (o := ⟨some 28, _, _, _, _, _⟩) rfl (.tmp 24) (.tmp 27) 22 rfl W0.heap.size 5 i0 (.int .u8 0) Tryz.underlying22 hi hz0 hz1 hz2 rfl (.slice A1 n c1) (n) (By (leB l.length 2 ++ insB (l.take k))) rfl (show w4.drew.ownsRow _ _ _ _ _ _ from HO4.out) (gi + 1) (some ⟨gi, 0, none⟩) (32) (32) (i.id) rfl HIk.out.1.symm (show Sees w4.drew _ _ _ from sees_blk (l := i.id) (more := [.int .u32 (i.n : Int), .slice i.A i.wit.length i.c]) B4.out (Nat.lt_succ_self gi)) (by have := HnL.out; omega) (show W0.heap.size ≤ w4.drew.heap.size from Hb4.out.size) ?_
      intro v5 w5 ho5 hg5 hat5
      obtain ⟨A5, c5, rfl⟩ := own_form ho5
      have HO5 := Lib.hid ho5
      have hne : some gi ≠ (Value.slice A1 n c1).ownBlock := (fun e => by have := Hol.out _ e.symm; omega)
      have HNe5 : Hid (some gi ≠ (Value.slice A5 (n + 32) c5).ownBlock) := (fun e => hat5.elim (fun h => hne (e.trans h)) (fun h => absurd (Option.some.inj (e.trans h)) (Nat.ne_of_lt (show gi < w4.drew.heap.size from L4.out))))
      have C5 : Hid (w5.cell? ⟨gi, 32, none⟩ = some (.int .u32 (i.n : Int))) := cellG (show w4.drew.cell? _ = _ from C4.out) hg5 L4.out hne
      have B5 := Lib.hid (blkG (show Blk w4.drew gi _ _ from B4.out) hg5 hne)
      have Hb5 : Hid (Below W0.heap.size W0 w5) := ((show Below W0.heap.size W0 w4.drew from ⟨Hb4.out.os, Hb4.out.tape, Hb4.out.output, Hb4.out.size, Hb4.out.block⟩)).grown hg5 (show W0.heap.size ≤ w4.drew.heap.size from Hb4.out.size) (fun j hj => (own_lt HO4.out j hj).1)
      clear ho5 hg5 hat5 hne
      refine hK.out _ _ C5.out (fun hSn => ?_)
      clear hK K
      try simp only [Act.put, List.setIfInBounds_toArray, List.set_cons_zero, List.set_cons_succ]
      refine wpAnyH_ready (rs := [9]) (by kernel_rfl) (by simp) ?_
      refine AllReadyH.cons rfl (fun K hK => ?_) AllReadyH.nil
      go_simp
      go_at_call 61
      refine (refNumZ_any w5 i.n (by have := HIk.out.2.1; omega) 4 rfl).mono ?_
      rintro e w6 ⟨A6, c6, rfl, ho6, hb6⟩
      have HO6 := Lib.hid (own_gb HO5.out hb6)
      have HS6 := Lib.hid (Sees.own ho6)
      have B6 := Lib.hid (B5.out.below hb6 B5.out.lt)
      have C6 : Hid (w6.cell? ⟨gi, 32, none⟩ = some (.int .u32 (i.n : Int))) := (hb6.cell (p := ⟨gi, 32, none⟩) B5.out.lt).trans C5.out
      have Hb6 : Hid (Below W0.heap.size W0 w6) := Hb5.out.trans ⟨hb6.os, hb6.tape, hb6.output, hb6.size, fun j hj => hb6.block j (Nat.lt_of_lt_of_le hj Hb5.out.size)⟩
      clear ho6 hb6
      refine hK.out _ _ C6.out (fun hSn => ?_)
      clear hK K
      try simp only [Act.put, List.setIfInBounds_toArray, List.set_cons_zero, List.set_cons_succ]
      refine wpAnyH_ready (rs := [10]) (by kernel_rfl) (by simp) ?_
      refine AllReadyH.cons rfl (fun K hK => ?_) AllReadyH.nil
      refine step_app (o := ⟨some 34, _, _, _, _, _⟩) rfl (.tmp 28) (.tmp 33) 22 rfl W0.heap.size 5 i0 (.int .u8 0) Tryz.underlying22 hi hz0 hz1 hz2 rfl (.slice A5 (n + 32) c5) (n + 32) (By (leB l.length 2 ++ insB (l.take k)) ++ By i.id) rfl HO6.out (w6.heap.size) (A6) (4) (c6) (leB i.n 4) rfl (leB_length _ _).symm HS6.out (by have := HnL.out; omega) Hb6.out.size ?_
      intro v7 w7 ho7 hg7 hat7
      obtain ⟨A7, c7, rfl⟩ := own_form ho7
      have HO7 := Lib.hid ho7
      have C7 : Hid (w7.cell? ⟨gi, 32, none⟩ = some (.int .u32 (i.n : Int))) := cellG C6.out hg7 B6.out.lt HNe5.out
      have B7 := Lib.hid (blkG B6.out hg7 HNe5.out)
      have Hb7 : Hid (Below W0.heap.size W0 w7) := Hb6.out.grown hg7 Hb6.out.size (fun j hj => (own_lt HO6.out j hj).1)
      clear ho7 hg7 hat7
      refine hK.out _ _ C7.out (fun hSn => ?_)
      clear hK K
      try simp only [Act.put, List.setIfInBounds_toArray, List.set_cons_zero, List.set_cons_succ]
      refine wpAnyH_take (i := 11) (oi := ⟨_, _, _, _, _, _⟩) (v := ?_) rfl (by kernel_rfl) (by kernel_rfl) (by kernel_rfl) (fun _ _ _ h => h) (Or.inl ⟨by rfl, ?_⟩) (by assumption) ?_
      rotate_left 1
      · intro W hSw
        try dsimp only at hSw
        go_simp
        try with_reducible rfl
      try simp only [Act.put, List.setIfInBounds_toArray, List.set_cons_zero, List.set_cons_succ]
      refine wpAnyH_done (by kernel_rfl) ?_ _
      have hc33 : w7.cell? ⟨gi, 33, none⟩ = some (.slice i.A i.wit.length i.c) := (B7.out.cell 33).trans (by have := (inC_at HIk.out.1).2; simpa using this)
      have HSw : Hid (Sees w7 w7.heap.size i.A i.wit) := (HIk.out.2.2.2.below (nxTr Hb0.out Hb7.out)).more (nxTr Hb0.out Hb7.out).size
      have HWl : Hid (i.wit.length ≤ 256) := HIk.out.2.2.1
      obtain ⟨wl, hwl⟩ : ∃ x, i.wit.length = x := ⟨_, rfl⟩
      have HWe := Lib.hid hwl
      rw [hwl] at hc33 HWl
      clear hwl
      go_wp2_with (first
        | (go_at_call 89; refine (refBlob_any w7 w7.heap.size i.A wl i.c i.wit HWe.out.symm HSw.out (by have := HWl.out; omega)).mono ?_; rintro e w8 ⟨A8, c8, rfl, ho8, hb8⟩; have HO8 := Lib.hid (own_gb HO7.out hb8); have HS8 := Lib.hid (Sees.own ho8); have Hb8 : Hid (Below W0.heap.size W0 w8) := Hb7.out.trans ⟨hb8.os, hb8.tape, hb8.output, hb8.size, fun j hj => hb8.block j (Nat.lt_of_lt_of_le hj Hb7.out.size)⟩; clear ho8 hb8)
        | ((with_reducible show wpList _ _ _ (⟨some 39, _, _, _, _, _⟩ :: _) _ _); refine wpList_append_sees rfl (.tmp 35) (.tmp 38) 22 rfl W0.heap.size 5 i0 (.int .u8 0) Tryz.underlying22 hi hz0 hz1 hz2 rfl (.slice A7 (n + 32 + 4) c7) (n + 32 + 4) (By (leB l.length 2 ++ insB (l.take k)) ++ By i.id ++ By (leB i.n 4)) rfl HO8.out w8.heap.size A8 (wl + 4) c8 (leB wl 4 ++ i.wit) rfl (by rw [List.length_append, leB_length, HWe.out]; omega) HS8.out (by have := HnL.out; have := HWl.out; omega) Hb8.out.size ?_; intro v9 w9 ho9 hg9 hat9; obtain ⟨A9, c9, rfl⟩ := own_form ho9; have HO9 : Hid (w9.ownsRow W0.heap.size 5 1 (.slice A9 (n + 32 + 4 + (wl + 4)) c9) (n + 32 + 4 + (wl + 4)) (By (leB l.length 2 ++ insB (l.take (k + 1))))) := (by rw [HNx.out, inB, HWe.out]; simp only [By_append, List.append_assoc] at ho9 ⊢; exact ho9); have Hb9 : Hid (Below W0.heap.size W0 w9) := Hb8.out.grown hg9 Hb8.out.size (fun j hj => (own_lt HO8.out j hj).1); clear ho9 hg9 hat9))
      go_roundw
      case rel => exact ⟨k + 1, n + 32 + 4 + (wl + 4), A9, c9, by omega, by go_num, rfl, HO9.out, Hb9.out⟩
      case measure => simp [intOf] <;> omega
    · obtain rfl : k = l.length := by omega
      have hc1 : wr.cell? ⟨w.heap.size, 1, none⟩ = some (.slice (some ⟨b2, off2, none⟩) m.length t.d) := (Hb.out.cell (p := ⟨w.heap.size, 1, none⟩) Hs0.out).trans HC.out.2.1
      obtain ⟨P0, hP0⟩ : ∃ P, leB l.length 2 ++ insB l = P := ⟨_, rfl⟩
      obtain ⟨P, hP⟩ : ∃ P, P0 ++ leB m.length 2 = P := ⟨_, rfl⟩
      have HOe : Hid (wr.ownsRow W0.heap.size 5 1 (.slice A1 n c1) n (By P0)) := by have h := HO.out; rw [List.take_length, hP0] at h; exact h
      have HPq : Hid (P0 ++ leB m.length 2 = P) := hP
      have HEq : Hid (P ++ outsB m ++ leB nn 8 = F) := by show _ = _; rw [HP.out, ← hP, ← hP0]; simp only [List.append_assoc]
      clear hP0 hP HO HP
      go_wp2_with (first
        | (go_at_call 61; refine (refNumZ_any wr m.length (by omega) 2 rfl).mono ?_; rintro e w3 ⟨A3, c3, rfl, ho3, hb3⟩; have HO3 := Lib.hid (own_gb HOe.out hb3); have HS3 := Lib.hid (Sees.own ho3); have Hb3 : Hid (Below W0.heap.size W0 w3) := Hb.out.trans ⟨hb3.os, hb3.tape, hb3.output, hb3.size, fun j hj => hb3.block j (Nat.lt_of_lt_of_le hj Hb.out.size)⟩; clear ho3 hb3)
        | ((with_reducible show wpList _ _ _ (⟨some 46, _, _, _, _, _⟩ :: _) _ _); refine wpList_append_sees rfl (.tmp 40) (.tmp 45) 22 rfl W0.heap.size 5 i0 (.int .u8 0) Tryz.underlying22 hi hz0 hz1 hz2 rfl (.slice A1 n c1) n (By P0) rfl HO3.out w3.heap.size A3 2 c3 (leB m.length 2) rfl (leB_length _ _).symm HS3.out (by have := HnL.out; omega) Hb3.out.size ?_; intro v4 w4 ho4 hg4 hat4; obtain ⟨A4, c4, rfl⟩ := own_form ho4; have HO4 : Hid (w4.ownsRow W0.heap.size 5 1 (.slice A4 (n + 2) c4) (n + 2) (By P)) := (by rw [← HPq.out, By_append]; exact ho4); have Hb4 : Hid (Below W0.heap.size W0 w4) := Hb3.out.grown hg4 Hb3.out.size (fun j hj => (own_lt HO3.out j hj).1); clear ho4 hg4 hat4))
      clear hc0 hc1 hwl2
      have HPl : Hid (n + 2 = P.length) := own_n HO4.out
      go_loopw [3, 6] (fun bv iv wr => ∃ (k n1 : Nat) (A1 : Option Addr) (c1 : Nat), k ≤ m.length ∧ iv = .int .i64 k ∧ bv = .slice A1 n1 c1 ∧ Hid (wr.ownsRow W0.heap.size 5 1 (.slice A1 n1 c1) n1 (By (P ++ outsB (m.take k)))) ∧ Hid (Below W0.heap.size W0 wr)) (fun _ iv _ => m.length - (intOf iv).toNat)
      case atStart => exact ⟨0, n + 2, A4, c4, by omega, rfl, rfl, (by rw [show outsB (m.take 0) = [] from rfl, List.append_nil]; exact HO4.out), Hb4.out⟩
      case round =>
        clear HO4 Hb4 HOe HO3 HS3 Hb3 Hb HBg
        obtain ⟨k, n1, A1, c1, hk, rfl, rfl, HO, Hb⟩ := hrel
        have hc1 : wr.cell? ⟨w.heap.size, 1, none⟩ = some (.slice (some ⟨b2, off2, none⟩) m.length t.d) := (Hb.out.cell (p := ⟨w.heap.size, 1, none⟩) Hs0.out).trans HC.out.2.1
        have HBg : Hid (Below w.heap.size w wr) := nxTr Hb0.out Hb.out
        have Hn1 : Hid (n1 ≤ 21508) := by show _ ≤ _; have h1 := own_n HO.out; rw [List.length_append] at h1; have := HLo.out k; have := HPl.out; have := HnL.out; omega
        by_cases hlt : k < m.length
        · have hin : (k : Int) < (m.length : Int) := by omega
          have hrk := rngB (HRr2.out k hlt) HBg.out HBb2.out
          have hik := HJ.out _ (List.getElem_mem hlt)
          have hnx := outsB_next hlt
          obtain ⟨o, ho⟩ : ∃ i, m[k] = i := ⟨_, rfl⟩
          have hik0 := ho
          rw [ho] at hrk hik hnx
          have HR := Lib.hid hrk
          have HIk := Lib.hid hik
          have HNx := Lib.hid hnx
          have C4 : Hid (wr.cell? ⟨b2, off2 + k * 33, none⟩ = some (.int .u64 (o.amt : Int))) := hrk 0 _ rfl
          have Hc1 := Lib.hid hc1
          have HBw0 : Hid (b2 < W0.heap.size) := Nat.lt_of_lt_of_le HBb2.out Hb0.out.size
          clear hrk hik ho hnx
          have HKo := Lib.hid (hik0)
          go_wp2
          have HW2 : Hid (w.cell? ⟨b2, off2 + k * 33, none⟩ = some (.int .u64 (o.amt : Int))) := ((HBg.out.cell (p := ⟨b2, off2 + k * 33, none⟩) HBb2.out).symm.trans C4.out)
          refine wp_region_held_drew (S := fun W => W.cell? ⟨w.heap.size, 1, none⟩ = some (.slice (some ⟨b2, off2, none⟩) m.length t.d) ∧ W.cell? ⟨b2, off2 + k * 33, none⟩ = some (.int .u64 (o.amt : Int))) (by kernel_rfl) ⟨Hc1.out, C4.out⟩ (fun hHeld => ?_)
          refine wpAnyH_take (i := 0) (oi := ⟨_, _, _, _, _, _⟩) (v := ?_) rfl (by kernel_rfl) (by kernel_rfl) (by kernel_rfl) (fun _ _ _ h => h) (Or.inl ⟨by rfl, ?_⟩) (by assumption) ?_
          rotate_left 1
          · intro W hSw
            try dsimp only at hSw
            go_simp
            try with_reducible rfl
          try simp only [Act.put, List.setIfInBounds_toArray, List.set_cons_zero, List.set_cons_succ]
          refine wpAnyH_take (i := 1) (oi := ⟨_, _, _, _, _, _⟩) (v := ?_) rfl (by kernel_rfl) (by kernel_rfl) (by kernel_rfl) (fun _ _ _ h => h) (Or.inl ⟨by rfl, ?_⟩) (by assumption) ?_
          rotate_left 1
          · intro W hSw
            try dsimp only at hSw
            go_simp
            try with_reducible rfl
          try simp only [Act.put, List.setIfInBounds_toArray, List.set_cons_zero, List.set_cons_succ]
          refine wpAnyH_take (i := 2) (oi := ⟨_, _, _, _, _, _⟩) (v := ?_) rfl (by kernel_rfl) (by kernel_rfl) (by kernel_rfl) (fun _ _ _ h => h) (Or.inl ⟨by rfl, ?_⟩) (by assumption) ?_
          rotate_left 1
          · intro W hSw
            try dsimp only at hSw
            go_simp
            try with_reducible rfl
          try simp only [Act.put, List.setIfInBounds_toArray, List.set_cons_zero, List.set_cons_succ]
          refine wpAnyH_take (i := 3) (oi := ⟨_, _, _, _, _, _⟩) (v := ?_) rfl (by kernel_rfl) (by kernel_rfl) (by kernel_rfl) (fun _ _ _ h => h) (Or.inl ⟨by rfl, ?_⟩) (by assumption) ?_
          rotate_left 1
          · intro W hSw
            try dsimp only at hSw
            go_simp
            try with_reducible rfl
          try simp only [Act.put, List.setIfInBounds_toArray, List.set_cons_zero, List.set_cons_succ]
          refine wpAnyH_take (i := 4) (oi := ⟨_, _, _, _, _, _⟩) (v := ?_) rfl (by kernel_rfl) (by kernel_rfl) (by kernel_rfl) (fun _ _ _ h => h) (Or.inl ⟨by rfl, ?_⟩) (by assumption) ?_
          rotate_left 1
          · intro W hSw
            try dsimp only at hSw
            go_simp
            try with_reducible rfl
          try simp only [Act.put, List.setIfInBounds_toArray, List.set_cons_zero, List.set_cons_succ]
          refine wpAnyH_take (i := 5) (oi := ⟨_, _, _, _, _, _⟩) (v := ?_) rfl (by kernel_rfl) (by kernel_rfl) (by kernel_rfl) (fun _ _ _ h => h) (Or.inl ⟨by rfl, ?_⟩) (by assumption) ?_
          rotate_left 1
          · intro W hSw
            try dsimp only at hSw
            go_simp
            try with_reducible rfl
          try simp only [Act.put, List.setIfInBounds_toArray, List.set_cons_zero, List.set_cons_succ]
          refine wpAnyH_take (i := 6) (oi := ⟨_, _, _, _, _, _⟩) (v := ?_) rfl (by kernel_rfl) (by kernel_rfl) (by kernel_rfl) (fun _ _ _ h => h) (Or.inl ⟨by rfl, ?_⟩) (by assumption) ?_
          rotate_left 1
          · intro W hSw
            try dsimp only at hSw
            go_simp
            try with_reducible rfl
          try simp only [Act.put, List.setIfInBounds_toArray, List.set_cons_zero, List.set_cons_succ]
          refine wpAnyH_take (i := 9) (oi := ⟨_, _, _, _, _, _⟩) (v := ?_) rfl (by kernel_rfl) (by kernel_rfl) (by kernel_rfl) (fun _ _ _ h => h) (Or.inl ⟨by rfl, ?_⟩) (by assumption) ?_
          rotate_left 1
          · intro W hSw
            try dsimp only at hSw
            go_simp
            try with_reducible rfl
          try simp only [Act.put, List.setIfInBounds_toArray, List.set_cons_zero, List.set_cons_succ]
          refine wpAnyH_take (i := 10) (oi := ⟨_, _, _, _, _, _⟩) (v := ?_) rfl (by kernel_rfl) (by kernel_rfl) (by kernel_rfl) (fun _ _ _ h => h) (Or.inl ⟨by rfl, ?_⟩) (by assumption) ?_
          rotate_left 1
          · intro W hSw
            try dsimp only at hSw
            go_simp
            try with_reducible rfl
          try simp only [Act.put, List.setIfInBounds_toArray, List.set_cons_zero, List.set_cons_succ]
          refine wpAnyH_take (i := 11) (oi := ⟨_, _, _, _, _, _⟩) (v := ?_) rfl (by kernel_rfl) (by kernel_rfl) (by kernel_rfl) (fun _ _ _ h => h) (Or.inl ⟨by rfl, ?_⟩) (by assumption) ?_
          rotate_left 1
          · intro W hSw
            try dsimp only at hSw
            go_simp
            try with_reducible rfl
          try simp only [Act.put, List.setIfInBounds_toArray, List.set_cons_zero, List.set_cons_succ]
          refine wpAnyH_take (i := 12) (oi := ⟨_, _, _, _, _, _⟩) (v := ?_) rfl (by kernel_rfl) (by kernel_rfl) (by kernel_rfl) (fun _ _ _ h => h) (Or.inl ⟨by rfl, ?_⟩) (by assumption) ?_
          rotate_left 1
          · intro W hSw
            try dsimp only at hSw
            go_simp
            try with_reducible rfl
          try simp only [Act.put, List.setIfInBounds_toArray, List.set_cons_zero, List.set_cons_succ]
          refine wpAnyH_take (i := 13) (oi := ⟨_, _, _, _, _, _⟩) (v := ?_) rfl (by kernel_rfl) (by kernel_rfl) (by kernel_rfl) (fun _ _ _ h => h) (Or.inl ⟨by rfl, ?_⟩) (by assumption) ?_
          rotate_left 1
          · intro W hSw
            try dsimp only at hSw
            go_simp
            try with_reducible rfl
          try simp only [Act.put, List.setIfInBounds_toArray, List.set_cons_zero, List.set_cons_succ]
          refine wpAnyH_take (i := 14) (oi := ⟨_, _, _, _, _, _⟩) (v := ?_) rfl (by kernel_rfl) (by kernel_rfl) (by kernel_rfl) (fun _ _ _ h => h) (Or.inl ⟨by rfl, ?_⟩) (by assumption) ?_
          rotate_left 1
          · intro W hSw
            try dsimp only at hSw
            go_simp
            try with_reducible rfl
          try simp only [Act.put, List.setIfInBounds_toArray, List.set_cons_zero, List.set_cons_succ]
          refine wpAnyH_ready (rs := [7]) (by kernel_rfl) (by simp) ?_
          refine AllReadyH.cons rfl (fun K hK => ?_) AllReadyH.nil
          go_simp
          go_at_call 61
          refine (refNumZ_any wr.drew o.amt HIk.out.amt 8 rfl).mono ?_
          rintro e w5 ⟨A5, c5, rfl, ho5, hb5⟩
          have HO5 := Lib.hid (own_gb (show wr.drew.ownsRow _ _ _ _ _ _ from HO.out) hb5)
          have HS5 := Lib.hid (Sees.own ho5)
          have Hb5 : Hid (Below W0.heap.size W0 w5) := Hb.out.trans ⟨hb5.os, hb5.tape, hb5.output, hb5.size, fun j hj => hb5.block j (Nat.lt_of_lt_of_le hj Hb.out.size)⟩
          clear ho5 hb5
          refine hK.out _ _ ⟨(Hb5.out.cell (p := ⟨w.heap.size, 1, none⟩) Hs0.out).trans HC.out.2.1, (nxTr Hb0.out Hb5.out |>.cell (p := ⟨b2, off2 + k * 33, none⟩) HBb2.out).trans HW2.out⟩ (fun hSn => ?_)
          clear hK K
          try simp only [Act.put, List.setIfInBounds_toArray, List.set_cons_zero, List.set_cons_succ]
          refine wpAnyH_ready (rs := [8]) (by kernel_rfl) (by simp) ?_
          refine AllReadyH.cons rfl (fun K hK => ?_) AllReadyH.nil
          refine step_app (o := ⟨some 62, _, _, _, _, _⟩) rfl (.tmp 54) (.tmp 61) 22 rfl W0.heap.size 5 i0 (.int .u8 0) Tryz.underlying22 hi hz0 hz1 hz2 rfl (.slice A1 n1 c1) (n1) (By (P ++ outsB (m.take k))) rfl HO5.out (w5.heap.size) (A5) (8) (c5) (leB o.amt 8) rfl (leB_length _ _).symm HS5.out (by have := Hn1.out; omega) Hb5.out.size ?_
          intro v6 w6 ho6 hg6 hat6
          obtain ⟨A6, c6, rfl⟩ := own_form ho6
          have HO6 := Lib.hid ho6
          have Hb6 : Hid (Below W0.heap.size W0 w6) := Hb5.out.grown hg6 Hb5.out.size (fun j hj => (own_lt HO5.out j hj).1)
          clear ho6 hg6 hat6
          refine hK.out _ _ ⟨(Hb6.out.cell (p := ⟨w.heap.size, 1, none⟩) Hs0.out).trans HC.out.2.1, (nxTr Hb0.out Hb6.out |>.cell (p := ⟨b2, off2 + k * 33, none⟩) HBb2.out).trans HW2.out⟩ (fun hSn => ?_)
          clear hK K
          try simp only [Act.put, List.setIfInBounds_toArray, List.set_cons_zero, List.set_cons_succ]
          refine wpAnyH_ready (rs := [15]) (by kernel_rfl) (by simp) ?_
          refine AllReadyH.cons rfl (fun K hK => ?_) AllReadyH.nil
          refine step_app (o := ⟨some 69, _, _, _, _, _⟩) rfl (.tmp 62) (.tmp 68) 22 rfl W0.heap.size 5 i0 (.int .u8 0) Tryz.underlying22 hi hz0 hz1 hz2 rfl (.slice A6 (n1 + 8) c6) (n1 + 8) (By (P ++ outsB (m.take k)) ++ By (leB o.amt 8)) rfl HO6.out (w.heap.size) (some ⟨b2, off2 + k * 33 + 1, none⟩) (32) (32) (o.lock) rfl HIk.out.lock.symm (lock_sees (rngB (HRr2.out k hlt) (nxTr Hb0.out Hb6.out) HBb2.out) HKo.out HBb2.out) (by have := Hn1.out; omega) Hb6.out.size ?_
          intro v7 w7 ho7 hg7 hat7
          obtain ⟨A7, c7, rfl⟩ := own_form ho7
          have HO7 : Hid (w7.ownsRow W0.heap.size 5 1 (.slice A7 (n1 + 8 + 32) c7) (n1 + 8 + 32) (By (P ++ outsB (m.take (k + 1))))) := (by rw [HNx.out, outB]; simp only [By_append, List.append_assoc] at ho7 ⊢; exact ho7)
          have Hb7 : Hid (Below W0.heap.size W0 w7) := Hb6.out.grown hg7 Hb6.out.size (fun j hj => (own_lt HO6.out j hj).1)
          clear ho7 hg7 hat7
          refine hK.out _ _ ⟨(Hb7.out.cell (p := ⟨w.heap.size, 1, none⟩) Hs0.out).trans HC.out.2.1, (nxTr Hb0.out Hb7.out |>.cell (p := ⟨b2, off2 + k * 33, none⟩) HBb2.out).trans HW2.out⟩ (fun hSn => ?_)
          clear hK K
          try simp only [Act.put, List.setIfInBounds_toArray, List.set_cons_zero, List.set_cons_succ]
          refine wpAnyH_take (i := 16) (oi := ⟨_, _, _, _, _, _⟩) (v := ?_) rfl (by kernel_rfl) (by kernel_rfl) (by kernel_rfl) (fun _ _ _ h => h) (Or.inl ⟨by rfl, ?_⟩) (by assumption) ?_
          rotate_left 1
          · intro W hSw
            try dsimp only at hSw
            go_simp
            try with_reducible rfl
          try simp only [Act.put, List.setIfInBounds_toArray, List.set_cons_zero, List.set_cons_succ]
          refine wpAnyH_done (by kernel_rfl) ?_ _
          go_wp2
          go_roundw
          case rel => exact ⟨k + 1, n1 + 8 + 32, A7, c7, by omega, by go_num, rfl, HO7.out, Hb7.out⟩
          case measure => simp [intOf] <;> omega
        · obtain rfl : k = m.length := by omega
          have hc2 : wr.cell? ⟨w.heap.size, 2, none⟩ = some (.int .u64 (nn : Int)) := (Hb.out.cell (p := ⟨w.heap.size, 2, none⟩) Hs0.out).trans HC.out.2.2
          have HOe : Hid (wr.ownsRow W0.heap.size 5 1 (.slice A1 n1 c1) n1 (By (P ++ outsB m))) := by have h := HO.out; rw [List.take_length] at h; exact h
          clear HO
          go_wp2_with (first
            | (go_at_call 61; refine (refNumZ_any wr nn HN.out 8 rfl).mono ?_; rintro e w3 ⟨A3, c3, rfl, ho3, hb3⟩; have HO3 := Lib.hid (own_gb HOe.out hb3); have HS3 := Lib.hid (Sees.own ho3); have Hb3 : Hid (Below W0.heap.size W0 w3) := Hb.out.trans ⟨hb3.os, hb3.tape, hb3.output, hb3.size, fun j hj => hb3.block j (Nat.lt_of_lt_of_le hj Hb.out.size)⟩; clear ho3 hb3)
            | ((with_reducible show wpList _ _ _ (⟨some 74, _, _, _, _, _⟩ :: _) _ _); refine wpList_append_sees rfl (.tmp 70) (.tmp 73) 22 rfl W0.heap.size 5 i0 (.int .u8 0) Tryz.underlying22 hi hz0 hz1 hz2 rfl (.slice A1 n1 c1) n1 (By (P ++ outsB m)) rfl HO3.out w3.heap.size A3 8 c3 (leB nn 8) rfl (leB_length _ _).symm HS3.out (by have := Hn1.out; omega) Hb3.out.size ?_; intro v4 w4 ho4 hg4 hat4; obtain ⟨A4, c4, rfl⟩ := own_form ho4; rw [← By_append, HEq.out] at ho4; have HO4 := Lib.hid ho4; have Hb4 : Hid (Below W0.heap.size W0 w4) := Hb3.out.grown hg4 Hb3.out.size (fun j hj => (own_lt HO3.out j hj).1); clear ho4 hg4 hat4))
          go_ret
          have hl : n1 + 8 = F.length := own_n HO4.out
          exact ⟨⟨A4, c4, by rw [← hl]; rfl, by rw [← hl]; exact own_cp HO4.out, Sees.own HO4.out⟩, nxTr Hb0.out Hb4.out⟩
end Go.Proofs.YtbloomnifhcgbaaGreatDoor
