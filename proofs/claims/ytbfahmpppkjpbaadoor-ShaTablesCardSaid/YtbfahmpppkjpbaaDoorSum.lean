/-
  The program's Sum and Tag.
-/
import Derived.Test.YtbfahmpppkjpbaaDoorEnd
import Derived.Lib.SlBytesConst
namespace Go.Proofs.YtbfahmpppkjpbaaDoor
open Go.RowKit

theorem Tryd.msize : (Tryd.prog.info? 67).map (·.size) = some 73 := by kernel_rfl
theorem Tabs.range {w : World} (h : Tabs w) : w.rangeAt 0 0 (Wd startL) := by
  intro j v hv
  have hj : j < startL.length := by have := (List.getElem?_eq_some_iff.1 hv).1; rwa [Wd_length] at this
  rw [Wd_get _ _ hj] at hv
  rw [Nat.zero_add, h.start j hj, ← hv]
  simp [hj]

section
variable {P : Program} {w : World}
/-- An operation whose run is known. -/
theorem wpList_run {ops : Array Oper} {rest : List Oper} {o : Oper} {a : Act} {Q : Exit → Act → World → Prop} (hgd : o.guard = none) (v : Value) (w' : World)
    (hr : (execOp a.eval o).run P w = .ok (.value v) w') (h : wpList P ops Q rest (a.put o.dst v) w') : wpList P ops Q (o :: rest) a w := by
  refine wpList_plain hgd fun _ hK => ?_
  unfold Oper.wp
  rw [hr]
  exact hK _ _ h
end
def zero8 : S8 := ⟨0, 0, 0, 0, 0, 0, 0, 0⟩
def zero64 : List UInt8 := List.replicate 64 0
theorem Tryd.zeroM : (Tryd.prog.info? 67).map (·.zero) = some (some (.agg (MsgC zero8 zero64 0).toArray)) := by kernel_rfl
theorem run_zeroM (wq : World) : (zeroValue 67).run Tryd.prog wq = .ok (.agg (MsgC zero8 zero64 0).toArray) wq := by
  have h := Tryd.zeroM
  cases hq : Tryd.prog.info? 67 with
  | none => rw [hq] at h; cases h
  | some i =>
    rw [hq] at h
    have hz : i.zero = some (.agg (MsgC zero8 zero64 0).toArray) := by simpa using h
    simp [zeroValue, typeInfo, hq, hz]
theorem run_buildM (wq : World) : (Instr.build 67 #[(0, .agg (Wd startL).toArray)]).run Tryd.prog wq = .ok (.agg (MsgC start8 zero64 0).toArray) wq := by kernel_rfl
theorem run_exec_build (ρ : Operand → Value) (x : Operand) (h : ρ x = .agg (Wd startL).toArray) (dst : Option Tmp) (ty : TypeId) (pos : String) (after : Array Edge) (guard : Option (Nat × Bool)) (wq : World) :
    (execOp ρ { dst, op := .build 67 #[(0, x)], type := ty, pos, after, guard }).run Tryd.prog wq = .ok (.value (.agg (MsgC start8 zero64 0).toArray)) wq := by
  have e : execOp ρ { dst, op := .build 67 #[(0, x)], type := ty, pos, after, guard } = (do pure (.value (← Instr.build 67 #[(0, ρ x)]))) := by simp only [execOp, List.map_toArray, List.map_cons, List.map_nil]
  rw [e, h, Sem.run_bind, run_buildM]
  rfl
theorem msg_start {w : World} {g : Nat} (h : Blk w g 67 (MsgC start8 zero64 0).toArray) : Msg w g [] := ⟨zero64, rfl, rfl, h⟩
theorem msize_all (s : S8) (blk : List UInt8) (n : Nat) (h : blk.length = 64) : (Tryd.prog.info? 67).map (·.size) = some (MsgC s blk n).toArray.size := by
  rw [Tryd.msize, List.size_toArray, MsgC_len _ _ _ h]
theorem MsgC_one (s : S8) (blk : List UInt8) (n : Nat) : ∀ v ∈ (MsgC s blk n).toArray.toList, v.oneCell' = true := by
  intro v hv
  simp only [MsgC, List.mem_append, List.mem_singleton] at hv
  rcases hv with (hv | hv) | rfl
  · exact Wd_one _ v hv
  · exact By_one _ v hv
  · rfl
theorem SeesL.shift {w w' : World} {g g' : Nat} {A : Option Addr} {ps : List (List UInt8)} (h : SeesL w g A ps) (hk : Below w.heap.size w w') (hg : w.heap.size ≤ g') : SeesL w' g' A ps := by
  have hO : ∀ {B : Option Addr} {l : List UInt8}, SeesO w g B l → SeesO w' g' B l := by
    intro B l h
    rcases h with h | ⟨b, off, hA, hb, hn, hc⟩
    · exact .inl h
    · exact .inr ⟨b, off, hA, Nat.lt_of_lt_of_le hb hk.size, by omega, fun i hi => (hk.cell (p := ⟨b, off + i, none⟩) hb).trans (hc i hi)⟩
  rcases h with h | ⟨b, off, hA, hb, hn, hc⟩
  · exact .inl h
  · refine .inr ⟨b, off, hA, Nat.lt_of_lt_of_le hb hk.size, by omega, fun i hi => ?_⟩
    obtain ⟨Ai, ci, h1, h2, h3⟩ := hc i hi
    exact ⟨Ai, ci, (hk.cell (p := ⟨b, off + i, none⟩) hb).trans h1, h2, hO h3⟩

set_option maxHeartbeats 1000000 in
set_option maxRecDepth 100000 in
theorem sum_any (w : World) (hT : Tabs w) (A : Option Addr) (n c : Nat) (ps : List (List UInt8)) (hn : n = ps.length) (hS : SeesL w w.heap.size A ps)
    (hmax : ps.flatten.length ≤ 1125899906842000) (hcnt : n ≤ 1125899906842624) :
    Calls Tryd.prog 11 #[.slice A n c] w fun e w' => e = .returned (.agg (By (shaB ps.flatten)).toArray) ∧ Below w.heap.size w w' := by
  have HT := Lib.hid hT
  have HS := Lib.hid hS
  have Hn := Lib.hid hn
  have Hmax := Lib.hid hmax
  have h2 := hT.size
  clear hT hS hn hmax
  have qz := run_zeroM
  have HZ := Lib.hid (rfl : (MsgC zero8 zero64 0).toArray.size = (MsgC start8 zero64 0).toArray.size)
  have HZ0 := Lib.hid (Tryd.hsizeB (shaB ps.flatten) rfl)
  have B0 : Hid (Blk (w.alloc (.cells (By zero32).toArray 25)) w.heap.size 25 (By zero32).toArray) := Blk.newAt rfl rfl
  go_enter Tryd.func11, Tryd.ntmps11
  go_wp2_with (first
    | ((with_reducible show wpList _ _ _ (⟨some 4, _, _, _, _, _⟩ :: _) _ _); refine wpList_load_mid rfl 64 (.global 0) rfl 0 0 rfl (Wd startL) _ (HT.out.alloc _).range Tryd.underlying64 rfl Tryd.w8size ?_)
    | ((with_reducible show wpList _ _ _ (⟨some 5, _, _, _, _, _⟩ :: _) _ _); refine wpList_run rfl _ _ (run_exec_build _ _ rfl _ _ _ _ _ _) ?_)
    | ((with_reducible show wpList _ _ _ (⟨none, .store 67 _ _, _, _, _, _⟩ :: _) _ _); refine wpList_store_all rfl 67 (.tmp 3) (.tmp 5) rfl (w.heap.size + 1) 67 (MsgC zero8 zero64 0).toArray (MsgC start8 zero64 0).toArray rfl rfl (Blk.newAt (by simp) rfl) HZ.out (msize_all _ _ _ rfl) (MsgC_one _ _ _) ?_; intro w3 h5 h6 h7; have B3 := Lib.hid ((B0.out.alloc _).keeps h6 (by omega)); have HM := Lib.hid (msg_start h5); have hs3 : w.heap.size + 2 = w3.heap.size := (by rw [h7]; simp); have Hs3 := Lib.hid hs3; have Hb3 : Hid (Below w.heap.size w w3) := (((Below.refl _ _).alloc (Nat.le_refl _) _).alloc (by simp) _).trans (h6.below (by simp; omega) (fun k hk => by omega)); clear h5 h6 h7 hs3)
    | (go_at_call 34; refine (put_any _ (HT.out.later Hb3.out) (w.heap.size + 1) (by omega) [] HM.out A n c ps Hn.out (HS.out.shift Hb3.out (by omega)) (by have := Hmax.out; simp only [List.length_nil]; omega) hcnt).mono ?_; rintro e w4 ⟨rfl, hm4, hk4⟩; rw [List.nil_append] at hm4; have HM4 := Lib.hid hm4; have B4 := Lib.hid (B3.out.keeps hk4 (by omega)); have Hb4 : Hid (Below w.heap.size w w4) := Hb3.out.trans (hk4.below (by have := Hs3.out; omega) (fun k hk => by omega)); clear hm4 hk4)
    | (go_at_call 35; refine (end_any _ (HT.out.later Hb4.out) (w.heap.size + 1) (by omega) ps.flatten HM4.out Hmax.out).mono ?_; rintro e w5 ⟨rfl, hk5⟩; have B5 := Lib.hid (B4.out.keeps hk5 (by omega)); have Hb5 : Hid (Below w.heap.size w w5) := Hb4.out.trans (hk5.below Hb4.out.size (fun k hk => by omega)); clear hk5)
    | ((with_reducible show wpList _ _ _ (⟨none, .store 25 _ _, _, _, _, _⟩ :: _) _ _); refine wpList_store_all rfl 25 (.tmp 2) (.tmp 8) rfl w.heap.size 25 (By zero32).toArray (By (shaB ps.flatten)).toArray rfl rfl B5.out rfl HZ0.out (By_one _) ?_; intro w6 h5 h6 h7; have H5 := Lib.hid h5; have H6 := Lib.hid h6; clear h5 h6 h7))
  refine bodyPost_ret (results_cell_row Tryd.results11 _ _ w.heap.size 25 _ (0, 0) _ rfl H5.out Tryd.underlying25 rfl HZ0.out) rfl ⟨rfl, ?_⟩
  exact Hb5.out.trans (H6.out.below Hb5.out.size (fun k hk => by omega))

theorem k_abc : (shaB [97, 98, 99]).take 4 = [186, 120, 22, 191] := by decide +kernel
theorem k_nil : (shaB []).take 4 = [227, 176, 196, 66] := by decide +kernel
theorem cell_take {w : World} {g : Nat} {t : TypeId} {l m : List UInt8} (hb : Blk w g t (By l).toArray) (h : l.take m.length = m) (i : Nat) (hi : i < m.length) : w.cell? ⟨g, i, none⟩ = some (.int .u8 (m[i].toNat : Int)) := by
  have e : (l.take m.length)[i]? = m[i]? := by rw [h]
  rw [List.getElem?_take, if_pos hi, List.getElem?_eq_getElem hi] at e
  rw [hb.cell i]
  simp [By, e]

theorem cells4 {w : World} {g : Nat} {t : TypeId} {l : List UInt8} (a b c d : UInt8) (h : l.take 4 = [a, b, c, d]) (hb : Blk w g t (By l).toArray) :
    w.cell? ⟨g, 0, none⟩ = some (.int .u8 (a.toNat : Int)) ∧ w.cell? ⟨g, 1, none⟩ = some (.int .u8 (b.toNat : Int)) ∧ w.cell? ⟨g, 2, none⟩ = some (.int .u8 (c.toNat : Int)) ∧ w.cell? ⟨g, 3, none⟩ = some (.int .u8 (d.toNat : Int)) :=
  ⟨cell_take (m := [a, b, c, d]) hb h 0 (by simp), cell_take (m := [a, b, c, d]) hb h 1 (by simp), cell_take (m := [a, b, c, d]) hb h 2 (by simp), cell_take (m := [a, b, c, d]) hb h 3 (by simp)⟩
theorem cells_abc {w : World} {g : Nat} {t : TypeId} (hb : Blk w g t (By (shaB [97, 98, 99])).toArray) :
    w.cell? ⟨g, 0, none⟩ = some (.int .u8 186) ∧ w.cell? ⟨g, 1, none⟩ = some (.int .u8 120) ∧ w.cell? ⟨g, 2, none⟩ = some (.int .u8 22) ∧ w.cell? ⟨g, 3, none⟩ = some (.int .u8 191) := cells4 186 120 22 191 k_abc hb
theorem cells_nil {w : World} {g : Nat} {t : TypeId} (hb : Blk w g t (By (shaB [])).toArray) :
    w.cell? ⟨g, 0, none⟩ = some (.int .u8 227) ∧ w.cell? ⟨g, 1, none⟩ = some (.int .u8 176) ∧ w.cell? ⟨g, 2, none⟩ = some (.int .u8 196) ∧ w.cell? ⟨g, 3, none⟩ = some (.int .u8 66) := cells4 227 176 196 66 k_nil hb
/-- The three letters in memory. -/
def abcC : Array Value := #[.int .u8 97, .int .u8 98, .int .u8 99]
theorem abc_sees (w : World) (t : TypeId) (fr : Nat × Nat) (g : Nat) (hg : w.heap.size ≠ g) : SeesO (w.alloc (.cells abcC t fr)) g (some ⟨w.heap.size, 0, none⟩) [97, 98, 99] := by
  refine .inr ⟨w.heap.size, 0, rfl, by simp, hg, fun i hi => ?_⟩
  have e : (w.alloc (.cells abcC t fr)).heap[w.heap.size]? = some (.cells abcC t fr) := heap_alloc_new w _
  rw [Nat.zero_add, World.cell?]
  simp only [e]
  have : i = 0 ∨ i = 1 ∨ i = 2 := by simp at hi; omega
  rcases this with rfl | rfl | rfl <;> rfl
theorem below_new {w w2 : World} {o : Obj} (hk : Keeps (· = w.heap.size) (w.alloc o) w2) : Below w.heap.size w w2 :=
  ((Below.refl _ _).alloc (Nat.le_refl _) _).trans (hk.below (by simp) (fun k hk => by omega))

set_option maxHeartbeats 1000000 in
set_option maxRecDepth 100000 in
theorem known_any (w : World) (hT : Tabs w) : Calls Tryd.prog 10 #[] w fun e w' => e = .returned (.bool true) ∧ Below w.heap.size w w' := by
  have HT := Lib.hid hT
  clear hT
  have q0 : (convert 22 22 (.slice (some ⟨w.heap.size, 0, none⟩) 3 3)).run Tryd.prog (w.alloc (.cells #[.int .u8 97, .int .u8 98, .int .u8 99] 5)) = .ok (.slice (some ⟨w.heap.size, 0, none⟩) 3 3) (w.alloc (.cells abcC 5 (3, 4))) := Lib.run_convert_bytes_const w 22 5 abcC 3 3 Tryd.underlying22 Tryd.underlying5
  have HZ1 := Lib.hid (Tryd.hsizeB (shaB [97, 98, 99]) rfl)
  have HZ2 := Lib.hid (Tryd.hsizeB (shaB []) rfl)
  have Hb0 : Hid (Below w.heap.size w ((w.alloc (.cells abcC 5 (3, 4))).alloc (.cells #[.slice (some ⟨w.heap.size, 0, none⟩) 3 3] 22))) := ((Below.refl _ _).alloc (Nat.le_refl _) _).alloc (by simp) _
  have HS : Hid (SeesL ((w.alloc (.cells abcC 5 (3, 4))).alloc (.cells #[.slice (some ⟨w.heap.size, 0, none⟩) 3 3] 22)) (w.heap.size + 2) (some ⟨w.heap.size + 1, 0, none⟩) [[97, 98, 99]]) := by
    have h := SeesL.one (t := 22) (c := 3) (m := 3) (abc_sees w 5 (3, 4) (w.heap.size + 2) (by omega)) rfl (by omega) (by simp)
    exact Lib.hid (by simpa using h)
  go_enter Tryd.func10, Tryd.ntmps10
  go_wp2_with (first
    | (go_at_call 11; (with_reducible show Calls _ _ #[.slice (some _) 1 1] _ _); refine (sum_any _ (HT.out.later Hb0.out) _ 1 1 [[97, 98, 99]] rfl (HS.out.shift (Below.refl _ _) (Nat.le_refl _)) (by decide) (by omega)).mono ?_; rintro e w1 ⟨rfl, hb1⟩; have Hb1 : Hid (Below w.heap.size w w1) := Hb0.out.trans (hb1.mono Hb0.out.size); clear hb1)
    | (go_at_call 11; (with_reducible show Calls _ _ #[.slice none 0 0] _ _); refine (sum_any _ (HT.out.later Hb1.out) none 0 0 [] rfl (.inl rfl) (by decide) (by omega)).mono ?_; rintro e w2 ⟨rfl, hb2⟩; have Hb2 : Hid (Below w.heap.size w w2) := Hb1.out.trans (hb2.mono Hb1.out.size); clear hb2)
    | ((with_reducible show wpList _ _ _ (⟨none, .store 25 (.tmp 1) _, _, _, _, _⟩ :: _) _ _); refine wpList_store_all rfl 25 (.tmp 1) (.tmp 6) rfl w2.heap.size 25 (By zero32).toArray (By (shaB [97, 98, 99])).toArray rfl rfl ((Blk.newAt rfl rfl).alloc _) rfl HZ1.out (By_one _) ?_; intro w3 h5 h6 h7; have HA := Lib.hid h5; have HC := Lib.hid ((Blk.newAt (w := w2.alloc (.cells (By zero32).toArray 25)) (t := 25) (cs := (By zero32).toArray) (g := w2.heap.size + 1) (by simp) rfl).keeps h6 (by omega)); have Hb3 : Hid (Below w.heap.size w w3) := Hb2.out.trans ((((Below.refl w2.heap.size w2).alloc (Nat.le_refl _) _).alloc (by simp) _).trans (h6.below (by simp; omega) (fun k hk => by omega)) |>.mono Hb2.out.size); clear h5 h6 h7)
    | ((with_reducible show wpList _ _ _ (⟨none, .store 25 (.tmp 2) _, _, _, _, _⟩ :: _) _ _); refine wpList_store_all rfl 25 (.tmp 2) (.tmp 7) rfl (w2.heap.size + 1) 25 (By zero32).toArray (By (shaB [])).toArray rfl rfl HC.out rfl HZ2.out (By_one _) ?_; intro w4 h5 h6 h7; have HB4 := h5; have HA4 := HA.out.keeps h6 (by omega); have Hb4 : Hid (Below w.heap.size w w4) := Hb3.out.trans (h6.below Hb3.out.size (fun k hk => by have := Hb2.out.size; omega)); obtain ⟨a0, a1, a2, a3⟩ := cells_abc HA4; obtain ⟨b0, b1, b2, b3⟩ := cells_nil HB4; clear h5 h6 h7 HB4 HA4))
  go_ret
  exact ⟨rfl, Hb4.out⟩

end Go.Proofs.YtbfahmpppkjpbaaDoor
