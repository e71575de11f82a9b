/-
  tx: the outputs' amounts in all, and the closure that asks for them.
-/
import Derived.Test.YtckomfffilonlaaDoorTx4
import Derived.Laws.MakeOwn
namespace Go.Proofs.YtckomfffilonlaaDoor
open Go.RowKit

theorem Tryd.u64inf : (Tryd.prog.info? 24).map (fun i => (i.zero, i.size, i.bytes)) = some (some (.int .u64 0), 1, 8) := by kernel_rfl
theorem own_kp {w w' : World} {a : Nat} {base size n : Nat} {e : TypeId} {v : Value} {xs : List Value} (h : w.ownsRow base e size v n xs) (hk : Keeps (· = a) w w') (hne : some a ≠ v.ownBlock) : w'.ownsRow base e size v n xs := by
  refine ⟨h.1, ?_⟩
  rcases h.2 with h2 | ⟨g', cap, cur, rfl, hg, hh, r⟩
  · exact .inl h2
  · have hb : Blk w g' e cur := hh
    refine .inr ⟨g', cap, cur, rfl, hg, (hk.block g' hb.lt (fun e => hne ?_)).trans hh, r⟩
    subst e; rfl
theorem lit_v (w : World) (vs : List Value) (t : TypeId) : SeesV (w.alloc (.cells vs.toArray t)) (w.heap.size + 1) (some ⟨w.heap.size, 0, none⟩) vs := by
  by_cases h : vs = []
  · exact .inl h
  · refine .inr ⟨w.heap.size, 0, rfl, by omega, fun i hi => ?_⟩
    have hb : Blk (w.alloc (.cells vs.toArray t)) w.heap.size t vs.toArray := heap_alloc_new w _
    rw [Nat.zero_add, hb.cell]
    simp [hi]
theorem any_zero {l : List OutR} (h : ∀ j (hj : j < l.length), l[j].amt ≠ 0) : l.any (fun o => o.amt == 0) = false := by
  refine Bool.eq_false_iff.2 fun ha => ?_
  obtain ⟨o, ho, hz⟩ := List.any_eq_true.1 ha
  obtain ⟨j, hj, rfl⟩ := List.getElem_of_mem ho
  exact h j hj (by simpa using hz)
theorem own_len1 {w : World} {base size n : Nat} {e : TypeId} {v : Value} {xs : List Value} (_ : w.ownsRow base e size v n xs) : True := trivial
def AmtPost (w : World) (l : List OutR) (e : Ending) (w' : World) : Prop := e = .returned (.tuple #[.int .u64 (amtV l : Int), .int .i64 (amtE l)]) ∧ Below w.heap.size w w'

set_option maxHeartbeats 2000000 in
set_option maxRecDepth 100000 in
theorem amounts_any (w : World) (t : TxR) (h : TxOk w t) (hmax : t.outs.length ≤ 100000) :
    Calls Tryd.prog 48 #[.agg (txC t).toArray] w (AmtPost w t.outs) := by
  have hA := (TxAt.new h).1
  have hc0 : (w.alloc (.cells (txC t).toArray 26)).cell? ⟨w.heap.size, 1, none⟩ = some (.slice t.B t.outs.length t.d) := hA.cell 1
  obtain ⟨i0, hi, hz0, hz1, hz2⟩ := info_parts Tryd.u64inf
  obtain ⟨l, hl⟩ : ∃ l, t.outs = l := ⟨_, rfl⟩
  obtain ⟨A, hAA⟩ : ∃ l, t.B = l := ⟨_, rfl⟩
  have hS := h.outs
  have hI := h.eacho
  rw [hl] at hS hI hmax
  rw [hAA] at hS
  have HS := Lib.hid hS
  have HI : Hid (∀ i ∈ l, OutOk i) := hI
  have HM := Lib.hid hmax
  rw [hl, hAA] at hc0
  rw [hl]
  obtain ⟨w1, hr, hown0, hgr0⟩ := run_make_own (P := Tryd.prog) (w.alloc (.cells (txC t).toArray 26)) (w.alloc (.cells (txC t).toArray 26)).heap.size 65 24 i0 (.int .u64 0) 1 Tryd.underlying65 hi hz0 hz1 .i64 .i64 l.length (by rw [hz2]; omega) (by simp only [maxLen]; omega) (Nat.le_refl _)
  have hsz : (w.alloc (.cells (txC t).toArray 26)).heap.size = w.heap.size + 1 := by simp
  rw [hsz] at hown0
  rw [hsz] at hr
  have HO := Lib.hid hown0
  have hb0 : Below w.heap.size w (w.alloc (.cells (txC t).toArray 26)) := nxAl (nxRf w) _
  have hb1 : Below w.heap.size w w1 := hb0.grown hgr0 hb0.size (fun j hj => by cases hj)
  have hc1 : w1.cell? ⟨w.heap.size, 1, none⟩ = some (.slice A l.length t.d) := (World.cell?_of_block (a := ⟨w.heap.size, 1, none⟩) (hgr0.block w.heap.size (by rw [hsz]; omega) (by simp))).trans hc0
  have Hb1 := Lib.hid hb1
  clear hS hI h hA hl hAA hown0 hgr0 hsz hb0 hb1
  go_enter Tryd.func48, Tryd.ntmps48
  go_wp2
  clear hr hc0 hc1
  go_loopw [4, 14] (fun rv iv wr => ∃ (k : Nat) (A1 : Option Addr) (c1 : Nat), k ≤ l.length ∧ iv = .int .i64 k ∧ rv = .slice A1 k c1 ∧ Hid (wr.ownsRow (w.heap.size + 1) 24 1 (.slice A1 k c1) k (Ns ((l.take k).map (·.amt)))) ∧ Hid (∀ j (hj : j < l.length), j < k → l[j].amt ≠ 0) ∧ Hid (Below w.heap.size w wr)) (fun _ iv _ => l.length - (intOf iv).toNat)
  case atStart => exact ⟨0, _, _, by omega, rfl, rfl, HO.out, fun j _ h => absurd h (Nat.not_lt_zero _), Hb1.out⟩
  case round =>
    clear HO Hb1
    obtain ⟨k, A1, c1, hk, rfl, rfl, HO, HN, Hb⟩ := hrel
    by_cases hlt : k < l.length
    · obtain ⟨b, off, rfl, hbb, hr⟩ := outsC_row HS.out (fun i h => (HI.out i h).lock) (by omega)
      have hrk := rngB (hr k hlt) Hb.out hbb
      have hik := HI.out _ (List.getElem_mem hlt)
      have hnx : (l.take (k + 1)).map (·.amt) = (l.take k).map (·.amt) ++ [l[k].amt] := by rw [List.take_succ_eq_append_getElem hlt, List.map_append]; rfl
      obtain ⟨o, ho⟩ : ∃ o, l[k] = o := ⟨_, rfl⟩
      rw [ho] at hrk hik hnx
      have HLk : Hid (l[k] = o) := ho
      have HR := Lib.hid hrk
      have HIk := Lib.hid hik
      have HNx := Lib.hid hnx
      have HZ : Hid ((Tryd.prog.info? 49).map (·.size) = some (outC o).length) := by show _ = _; rw [outC_len hik.lock]; exact Tryd.sizeOut
      obtain ⟨x, hx⟩ : ∃ x, o.amt = x := ⟨_, rfl⟩
      have HX := Lib.hid hx
      have hxl : x < 18446744073709551616 := by rw [← hx]; exact hik.amt
      clear hr hrk hik ho hnx hx
      by_cases h0 : x = 0
      · have h0b : ((x : Int) == 0) = true := by rw [h0]; rfl
        have HE : Hid (l.any (fun o => o.amt == 0) = true) := List.any_eq_true.2 ⟨l[k], List.getElem_mem hlt, by rw [HLk.out, HX.out, h0]; rfl⟩
        clear h0
        go_wp2_with (first
          | ((with_reducible show wpList _ _ _ (⟨some 17, _, _, _, _, _⟩ :: _) _ _); refine wpList_load_mid rfl 49 (.tmp 16) rfl b (off + k * 33) rfl (outC o) _ HR.out Tryd.underlying49 rfl HZ.out ?_)
          | ((with_reducible show wpList _ _ _ (⟨none, .store 49 _ _, _, _, _, _⟩ :: _) _ _); refine wpList_store_all rfl 49 (.tmp 6) (.tmp 17) rfl wr.heap.size 49 _ (outC o).toArray rfl rfl (heap_alloc_new wr _) (by simp [outC_len HIk.out.lock]) (by rw [List.size_toArray]; exact HZ.out) (outC_one o) ?_; intro w3 h5 h6 h7; have hc3 : w3.cell? ⟨wr.heap.size, 0, none⟩ = some (.int .u64 (x : Int)) := (h5.cell 0).trans (by rw [← HX.out]; rfl); have Hb3 : Hid (Below w.heap.size w w3) := ((nxAl Hb.out _).trans (h6.below (nxAl Hb.out _).size (fun k hk => by have := Hb.out.size; omega))); clear h5 h6 h7))
        go_ret2
        exact ⟨by rw [amtV, amtE, HE.out]; rfl, Hb3.out⟩
      · have h0b : ((x : Int) == 0) = false := by rw [beq_eq_false_iff_ne]; omega
        have HN' : Hid (∀ j (hj : j < l.length), j < k + 1 → l[j].amt ≠ 0) := by
          intro j hj hjk
          by_cases h1 : j < k
          · exact HN.out j hj h1
          · obtain rfl : j = k := by omega
            rw [HLk.out, HX.out]; exact h0
        go_wp2_with (first
          | ((with_reducible show wpList _ _ _ (⟨some 17, _, _, _, _, _⟩ :: _) _ _); refine wpList_load_mid rfl 49 (.tmp 16) rfl b (off + k * 33) rfl (outC o) _ HR.out Tryd.underlying49 rfl HZ.out ?_)
          | ((with_reducible show wpList _ _ _ (⟨none, .store 49 _ _, _, _, _, _⟩ :: _) _ _); refine wpList_store_all rfl 49 (.tmp 6) (.tmp 17) rfl wr.heap.size 49 _ (outC o).toArray rfl rfl (heap_alloc_new wr _) (by simp [outC_len HIk.out.lock]) (by rw [List.size_toArray]; exact HZ.out) (outC_one o) ?_; intro w3 h5 h6 h7; have hc3 : w3.cell? ⟨wr.heap.size, 0, none⟩ = some (.int .u64 (x : Int)) := (h5.cell 0).trans (by rw [← HX.out]; rfl); have Hb3 : Hid (Below w.heap.size w w3) := ((nxAl Hb.out _).trans (h6.below (nxAl Hb.out _).size (fun k hk => by have := Hb.out.size; omega))); have HO3 := Lib.hid (own_kp (own_below HO.out (show Below wr.heap.size wr (wr.alloc _) from nxAl (nxRf wr) _) (fun g hg => (own_lt HO.out g hg).2)) h6 (fun e => by have := (own_lt HO.out _ e.symm).2; omega)); clear h5 h6 h7)
          | ((with_reducible show wpList _ _ _ (⟨some 25, _, _, _, _, _⟩ :: _) _ _); refine wpList_append_seesV rfl (.tmp 21) (.tmp 24) 65 rfl (w.heap.size + 1) 24 i0 (.int .u64 0) 1 8 Tryd.underlying65 hi hz0 hz1 hz2 rfl (by omega) (.slice A1 k c1) k (Ns ((l.take k).map (·.amt))) rfl (HO3.out.alloc _) (w3.heap.size + 1) (some ⟨w3.heap.size, 0, none⟩) 1 1 [.int .u64 (x : Int)] rfl rfl (lit_v w3 [.int .u64 (x : Int)] 24) (by intro u hu; simp at hu; subst hu; rfl) (by omega) (by omega) (by have h1 := Hb3.out.size; have h2 := (own_len1 HO.out); simp; omega) ?_; intro v8 w8 ho8 hg8 hat8; obtain ⟨A8, c8, rfl⟩ := own_form ho8; have HO8 : Hid (w8.ownsRow (w.heap.size + 1) 24 1 (.slice A8 (k + 1) c8) (k + 1) (Ns ((l.take (k + 1)).map (·.amt)))) := (by rw [HNx.out, HX.out]; unfold Ns at ho8 ⊢; rw [List.map_append]; exact ho8); have Hb8 : Hid (Below w.heap.size w w8) := (nxAl Hb3.out _).grown hg8 (nxAl Hb3.out _).size (fun j hj => by have := (own_lt HO3.out j hj).1; omega); clear ho8 hg8 hat8))
        go_roundw
        case rel => exact ⟨k + 1, A8, c8, by omega, by go_num, rfl, HO8.out, HN'.out, Hb8.out⟩
        case measure => simp [intOf] <;> omega
    · obtain rfl : k = l.length := by omega
      have HE : Hid (l.any (fun o => o.amt == 0) = false) := any_zero (fun j hj => HN.out j hj hj)
      have HSe : Hid (SeesV wr wr.heap.size A1 (Ns (l.map (·.amt)))) := by have h := SeesV.own HO.out; rw [List.take_length] at h; exact h
      go_wp2_with (go_at_call 75; refine (msum_any wr _ A1 _ c1 (l.map (·.amt)) (by simp) HSe.out (by have := HM.out; omega)).mono ?_; rintro e w9 ⟨rfl, hw9⟩; subst hw9)
      go_ret2
      exact ⟨by rw [amtV, amtE, HE.out]; rfl, Hb.out⟩
end Go.Proofs.YtckomfffilonlaaDoor
