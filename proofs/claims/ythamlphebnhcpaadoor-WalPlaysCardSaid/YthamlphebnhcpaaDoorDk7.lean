/-
  disk: steps are made; a step is done, and waits; steps are settled.
-/
import Derived.Test.YthamlphebnhcpaaDoorDk6
namespace Go.Proofs.YthamlphebnhcpaaDoor
open Go.RowKit

theorem do_any (w : World) (g : Nat) (m : DkM) (h : DkOk w g m) (s : StM) (hs : StOk w s) (hro : ∀ j ∈ s.ro, ¬ foot g m j ∧ j < w.heap.size) (hok : okS (m.d.X.drop 16) s.d) (hW : m.W.length ≤ 1000) (hf : -1 ≤ m.fuse) (hg : m.fuse < 9223372036854775808) :
    Calls Tryd.prog 47 #[ptrD g, .agg #[s.whole, s.torn]] w (DoPost w g m s) := by
  have hk : Keeps (fun _ => False) w (w.alloc (.cells s.c.toArray 86)).drew := ((Keeps.refl (fun _ => False) w).alloc _).drew
  have h0 : DkOk (w.alloc (.cells s.c.toArray 86)).drew g m := h.later hk (fun _ _ h => h) (fun _ _ h => h)
  have hs0 : StOk (w.alloc (.cells s.c.toArray 86)).drew s := hs.keep hk (fun _ _ h => h)
  cases s with
  | put i b p0 p1 pf A c =>
    obtain ⟨h1, h2⟩ := hok
    rw [drop16] at h2
    exact do_putF w g m h (.put i b p0 p1 pf A c) hs hro hW hf hg (ptrD pf) (ptrD p1) rfl (put2D _ g m h0 17 16 i b p0 p1 pf c A rfl (by omega) h1 hs0 h2)
  | cut i n p0 p1 =>
    obtain ⟨h1, h2⟩ := hok
    rw [drop16] at h2
    exact do_cutF w g m h (.cut i n p0 p1) hs hro hW hf hg (ptrD p0) (ptrD p1) rfl (cut1D _ g m h0 17 16 i n p0 p1 rfl (by omega) h1 hs0 h2)
section
variable {P : Program} {w : World}
/-- A value stored into a part of a block. -/
theorem run_storePartD (g o : Nat) (t ty : TypeId) (old cells : Array Value) (v : Value) (hv : v.cells = cells) (hg : Blk w g t old) (hs : o + cells.size ≤ old.size) (hi : (P.info? ty).map (·.size) = some cells.size) (h1 : ∀ u ∈ cells.toList, u.oneCell' = true) :
    ∃ w', (storeVar ty ⟨g, o, none⟩ v).run P w = .ok () w' ∧ Blk w' g t (old.toList.take o ++ cells.toList ++ old.toList.drop (o + cells.size)).toArray ∧ Keeps (· = g) w w' ∧ w'.heap.size = w.heap.size := by
  have hst := run_storeCells_at P g o t cells.toList 0 old w hg (by simp; omega) h1
  cases hq : P.info? ty with
  | none => simp [hq] at hi
  | some i =>
    have hsz : cells.size = i.size := by simp [hq] at hi; omega
    refine ⟨w.setRow g (old.toList.take o ++ cells.toList ++ old.toList.drop (o + cells.size)).toArray, ?_, setRow_heap w g _ _ t _ hg, ⟨rfl, rfl, rfl, by simp, fun k _ hk => setRow_other w g k _ (by exact hk)⟩, by simp⟩
    simp only [Nat.add_zero, Array.length_toList] at hst
    simp [storeVar, sizeOf, typeInfo, hq, hv, hsz] at hst ⊢
    exact hst
theorem wpList_store_partD {ops : Array Oper} {rest : List Oper} {op : Oper} {a : Act} {Q : Exit → Act → World → Prop} (hgd : op.guard = none) (ty : TypeId) (x y : Operand) (ho : op.op = .store ty x y)
    (g o : Nat) (t : TypeId) (old cells new : Array Value) (v : Value) (hx : a.eval x = .pointer (some ⟨g, o, none⟩)) (hy : a.eval y = v) (hv : v.cells = cells) (hg : Blk w g t old) (hs : o + cells.size ≤ old.size)
    (hi : (P.info? ty).map (·.size) = some cells.size) (h1 : ∀ u ∈ cells.toList, u.oneCell' = true) (hn : (old.toList.take o ++ cells.toList ++ old.toList.drop (o + cells.size)).toArray = new)
    (h : ∀ w', Blk w' g t new → Keeps (· = g) w w' → w'.heap.size = w.heap.size → wpList P ops Q rest (a.put op.dst undef) w') : wpList P ops Q (op :: rest) a w := by
  refine wpList_plain hgd fun _ hK => ?_
  obtain ⟨w', hr, h2, h3, h4⟩ := run_storePartD (P := P) g o t ty old cells v hv hg hs hi h1
  unfold Oper.wp execOp
  simp only [ho, hx, hy, Instr.storeAt, Instr.sureAddr, Sem.run_bind, Sem.run_pure, Result.andThen_ok, hr]
  exact hK _ _ (h w' (hn ▸ h2) h3 h4)
end
theorem blk_newD {w : World} {t : TypeId} {cs : Array Value} {g : Nat} (hg : g = w.heap.size) : Blk (w.alloc (.cells cs t)) g t cs := by subst hg; exact heap_alloc_new w _
set_option maxHeartbeats 1000000 in
theorem dput_any (w : World) (i c : Nat) (b : List UInt8) (A : Option Addr) (hS : Sees w w.heap.size A b) (hc : b.length ≤ c) (hm : c ≤ maxLen) : Calls Tryd.prog 61 #[.int .i64 (i : Int), .slice A b.length c] w fun e w' =>
    ∃ p0 p1 pf, e = .returned (.agg #[(StM.put i b p0 p1 pf A c).whole, (StM.put i b p0 p1 pf A c).torn]) ∧ PutOk w' i b p0 p1 pf A c ∧ (w.heap.size ≤ p0 ∧ w.heap.size ≤ p1 ∧ w.heap.size ≤ pf) ∧ Below w.heap.size w w' := by
  have hmf : ∀ (fn : Fn) (first cap : Array Value) (w : World), (Instr.makeFunc fn first cap).run Tryd.prog w = .ok (.func fn first cap) w := fun _ _ _ _ => rfl
  have hbd : ∀ wq, (Instr.build 86 #[(0, .func (.func 77) #[] #[.pointer (some ⟨w.heap.size + 1 + 1 + 1, 0, none⟩), .pointer (some ⟨w.heap.size + 1, 0, none⟩)]), (1, .func (.func 78) #[] #[.pointer (some ⟨w.heap.size + 1 + 1 + 1, 0, none⟩), .pointer (some ⟨w.heap.size + 1, 0, none⟩)])]).run Tryd.prog wq = .ok (.agg #[.func (.func 77) #[] #[.pointer (some ⟨w.heap.size + 1 + 1 + 1, 0, none⟩), .pointer (some ⟨w.heap.size + 1, 0, none⟩)], .func (.func 78) #[] #[.pointer (some ⟨w.heap.size + 1 + 1 + 1, 0, none⟩), .pointer (some ⟨w.heap.size + 1, 0, none⟩)]]) wq := fun wq => by kernel_rfl
  have HS := Lib.hid hS
  have B3 : Blk ((((w.alloc (.cells #[.int .i64 (i : Int)] 3)).alloc (.cells #[.slice A b.length c] 39)).alloc (.cells #[.nilFunc, .nilFunc] 86)).alloc (.cells #[.nilFunc] 84)) (w.heap.size + 1 + 1 + 1) 84 #[.nilFunc] := blk_newD (by simp)
  have HB3 := Lib.hid B3
  have HB2 : Hid (Blk ((((w.alloc (.cells #[.int .i64 (i : Int)] 3)).alloc (.cells #[.slice A b.length c] 39)).alloc (.cells #[.nilFunc, .nilFunc] 86)).alloc (.cells #[.nilFunc] 84)) (w.heap.size + 1 + 1) 86 #[.nilFunc, .nilFunc]) := (blk_newD (by simp) : Blk (((w.alloc (.cells #[.int .i64 (i : Int)] 3)).alloc (.cells #[.slice A b.length c] 39)).alloc (.cells #[.nilFunc, .nilFunc] 86)) _ _ _).alloc _
  have HB1 : Hid (Blk ((((w.alloc (.cells #[.int .i64 (i : Int)] 3)).alloc (.cells #[.slice A b.length c] 39)).alloc (.cells #[.nilFunc, .nilFunc] 86)).alloc (.cells #[.nilFunc] 84)) (w.heap.size + 1) 39 #[.slice A b.length c]) := ((blk_newD (by simp) : Blk ((w.alloc (.cells #[.int .i64 (i : Int)] 3)).alloc (.cells #[.slice A b.length c] 39)) _ _ _).alloc _).alloc _
  have HB0 : Hid (Blk ((((w.alloc (.cells #[.int .i64 (i : Int)] 3)).alloc (.cells #[.slice A b.length c] 39)).alloc (.cells #[.nilFunc, .nilFunc] 86)).alloc (.cells #[.nilFunc] 84)) w.heap.size 3 #[.int .i64 (i : Int)]) := (((blk_newD rfl : Blk (w.alloc (.cells #[.int .i64 (i : Int)] 3)) _ _ _).alloc _).alloc _).alloc _
  have HV : Hid (Below w.heap.size w ((((w.alloc (.cells #[.int .i64 (i : Int)] 3)).alloc (.cells #[.slice A b.length c] 39)).alloc (.cells #[.nilFunc, .nilFunc] 86)).alloc (.cells #[.nilFunc] 84))) := nxAlloc (nxAlloc (nxAlloc (nxAlloc (nxRefl w) _) _) _) _
  clear hS B3
  have HI1 : Hid ((Tryd.prog.info? 84).map (·.size) = some 1) := by show _ = _; kernel_rfl
  have HO1 : Hid (∀ (f : Nat) (cs : Array Value), (Value.func (.func f) #[] cs).oneCell' = true) := fun _ _ => rfl
  go_enter Tryd.func61, Tryd.ntmps61
  go_wp2_with (first
    | ((with_reducible show wpList _ _ _ (⟨none, .store 84 _ _, _, _, _, _⟩ :: _) _ _); refine wpList_store_partD rfl 84 (.tmp 5) (.tmp 6) rfl (w.heap.size + 1 + 1 + 1) 0 84 #[.nilFunc] #[(.func (.func 76) #[] #[.pointer (some ⟨w.heap.size, 0, none⟩), .pointer (some ⟨w.heap.size + 1, 0, none⟩)])] #[(.func (.func 76) #[] #[.pointer (some ⟨w.heap.size, 0, none⟩), .pointer (some ⟨w.heap.size + 1, 0, none⟩)])] (.func (.func 76) #[] #[.pointer (some ⟨w.heap.size, 0, none⟩), .pointer (some ⟨w.heap.size + 1, 0, none⟩)]) rfl rfl rfl HB3.out (Nat.le_refl _) HI1.out (fun u hu => by rw [List.mem_singleton.1 hu]; rfl) rfl ?_; intro w5 h5 h6 h7; have F5 := Lib.hid h5; have K5 := Lib.hid h6; have Z5 := Lib.hid h7; clear h5 h6 h7)
    | ((with_reducible show wpList _ _ _ (⟨none, .store 86 _ _, _, _, _, _⟩ :: _) _ _); refine wpList_store_partD rfl 86 (.tmp 4) (.tmp 9) rfl (w.heap.size + 1 + 1) 0 86 #[.nilFunc, .nilFunc] #[.func (.func 77) #[] #[.pointer (some ⟨w.heap.size + 1 + 1 + 1, 0, none⟩), .pointer (some ⟨w.heap.size + 1, 0, none⟩)], .func (.func 78) #[] #[.pointer (some ⟨w.heap.size + 1 + 1 + 1, 0, none⟩), .pointer (some ⟨w.heap.size + 1, 0, none⟩)]] #[.func (.func 77) #[] #[.pointer (some ⟨w.heap.size + 1 + 1 + 1, 0, none⟩), .pointer (some ⟨w.heap.size + 1, 0, none⟩)], .func (.func 78) #[] #[.pointer (some ⟨w.heap.size + 1 + 1 + 1, 0, none⟩), .pointer (some ⟨w.heap.size + 1, 0, none⟩)]] (.agg #[.func (.func 77) #[] #[.pointer (some ⟨w.heap.size + 1 + 1 + 1, 0, none⟩), .pointer (some ⟨w.heap.size + 1, 0, none⟩)], .func (.func 78) #[] #[.pointer (some ⟨w.heap.size + 1 + 1 + 1, 0, none⟩), .pointer (some ⟨w.heap.size + 1, 0, none⟩)]]) rfl rfl rfl (HB2.out.keeps K5.out (by omega)) (Nat.le_refl _) Tryd.stsize (fun u hu => by rcases List.mem_cons.1 hu with rfl | hu; rfl; rw [List.mem_singleton.1 hu]; rfl) rfl ?_; intro w6 h5 h6 h7; have S6 := Lib.hid h5; have K6 := Lib.hid h6; clear h5 h6 h7))
  refine bodyPost_ret (results_cell_row Tryd.results61 _ _ (w.heap.size + 1 + 1) 86 _ (0, 0) _ rfl S6.out Tryd.underlying86 rfl Tryd.stsize) rfl ?_
  have V6 : Below w.heap.size w w6 := (HV.out.trans (K5.out.below HV.out.size (fun j hj => by omega))).trans (K6.out.below (Nat.le_trans HV.out.size K5.out.size) (fun j hj => by omega))
  refine ⟨w.heap.size, w.heap.size + 1, w.heap.size + 1 + 1 + 1, rfl, ⟨(HB0.out.keeps K5.out (by omega)).keeps K6.out (by omega), (HB1.out.keeps K5.out (by omega)).keeps K6.out (by omega), F5.out.keeps K6.out (by omega), (HS.out.later V6).more V6.size, hc, hm⟩, ⟨by omega, by omega, by omega⟩, V6⟩
end Go.Proofs.YthamlphebnhcpaaDoor
