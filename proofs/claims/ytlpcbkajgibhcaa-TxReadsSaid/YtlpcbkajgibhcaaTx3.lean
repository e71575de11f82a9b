/-
  tx: spent: the map of outpoints.
-/
import Derived.Test.YtlpcbkajgibhcaaTx2
import Derived.Test.YtlpcbkajgibhcaaCopy
namespace Go.Proofs.Ytlpcbkajgibhcaa
open Go.RowKit Go.Maps

theorem made_map (n : Nat) (w : World) : (Instr.makeMap 89 (some (.int .i64 (n : Int)))).run Try.prog w = .ok (.map (some w.heap.size)) (w.alloc (.map #[] 0)) := by
  unfold Instr.makeMap
  simp [run_underlying Try.underlying89, asInt]
  rfl
/-- The outpoints as keys. -/
def ptSet (l : List InR) : DataW Unit := setOf (.agg []) (l.map ptKey)
theorem ptSet_next {l : List InR} {k : Nat} (h : k < l.length) : ptSet (l.take (k + 1)) = (ptSet (l.take k)).put (ptKey l[k]) (.agg []) := by
  unfold ptSet
  rw [List.take_succ_eq_append_getElem h, List.map_append, List.map_singleton, setOf_snoc]
/-- What spent answers. -/
def SpentPost (w : World) (l : List InR) (e : Ending) (w' : World) : Prop := ∃ B, e = .returned (.map (some B)) ∧ w'.ownsMap Try.prog 48 (unitElem (H := Unit)) B l.length (ptSet l) ∧ Below w.heap.size w w'
theorem inC_pt (i : InR) : inC i = ptC i ++ [.slice i.A i.wit.length i.c] := by simp [inC, ptC]
theorem rng_prefix {w : World} {b o : Nat} {cs ds : List Value} (h : w.rangeAt b o (cs ++ ds)) : w.rangeAt b o cs := fun j v hv => h j v (by rw [List.getElem?_append_left (List.getElem?_eq_some_iff.1 hv).1]; exact hv)
theorem own_map_keeps {w w' : World} {P : Program} {k : TypeId} {R : Value → Option (DataW Unit × List MemPlace)} {b n g : Nat} {D : DataW Unit} (h : w.ownsMap P k R b n D) (hk : Keeps (· = g) w w') (hne : b ≠ g) : w'.ownsMap P k R b n D := by
  obtain ⟨es, clock, hb, r⟩ := h
  exact ⟨es, clock, (hk.block b (Array.getElem?_eq_some_iff.1 hb).1 hne).trans hb, r⟩
theorem own_map_ne {w : World} {P : Program} {k : TypeId} {R : Value → Option (DataW Unit × List MemPlace)} {b n : Nat} {D : DataW Unit} (h : w.ownsMap P k R b n D) : b ≠ w.heap.size := by
  obtain ⟨es, clock, hb, r⟩ := h
  have := (Array.getElem?_eq_some_iff.1 hb).1
  omega
set_option maxHeartbeats 2000000 in
set_option maxRecDepth 100000 in
theorem spent_any (w : World) (t : TxR) (h : TxOk w t) (hmax : t.ins.length ≤ 100000) :
    Calls Try.prog 49 #[.agg (txC t).toArray] w (SpentPost w t.ins) := by
  have hmm := made_map
  have hA := (TxAt.new h).1
  have hc0 : (w.alloc (.cells (txC t).toArray 28)).cell? ⟨w.heap.size, 0, none⟩ = some (.slice t.A t.ins.length t.c) := hA.cell 0
  have hc1 : ((w.alloc (.cells (txC t).toArray 28)).alloc (.map #[] 0)).cell? ⟨w.heap.size, 0, none⟩ = some (.slice t.A t.ins.length t.c) := (Blk.alloc hA _).cell 0
  have hsz : w.heap.size + 1 = (w.alloc (.cells (txC t).toArray 28)).heap.size := by simp
  have hb1 : Below w.heap.size w ((w.alloc (.cells (txC t).toArray 28)).alloc (.map #[] 0)) := nxAl (nxAl (nxRf w) _) _
  have HO : Hid (((w.alloc (.cells (txC t).toArray 28)).alloc (.map #[] 0)).ownsMap Try.prog 48 (unitElem (H := Unit)) (w.heap.size + 1) 0 (.map [])) := by rw [hsz]; exact World.ownsMap_made _ _ _ _
  have Hb1 := Lib.hid hb1
  obtain ⟨l, hl⟩ : ∃ l, t.ins = l := ⟨_, rfl⟩
  obtain ⟨A, hAA⟩ : ∃ l, t.A = l := ⟨_, rfl⟩
  have hS := h.ins
  have hI := h.each
  rw [hl] at hS hI hmax
  rw [hAA] at hS
  have HS := Lib.hid hS
  have HI : Hid (∀ i ∈ l, i.id.length = 32 ∧ i.n < 4294967296) := fun i hi => ⟨(hI i hi).id, (hI i hi).n⟩
  have HM := Lib.hid hmax
  rw [hl, hAA] at hc0 hc1
  rw [hl]
  clear hS hI h hA hsz hb1 hl hAA
  go_enter Try.func49, Try.ntmps49
  go_wp2
  clear hc0
  generalize ((w.alloc (.cells (txC t).toArray 28)).alloc (.map #[] 0)) = W0 at *
  obtain ⟨B, hB⟩ : ∃ B, w.heap.size + 1 = B := ⟨_, rfl⟩
  have HBw : Hid (w.heap.size ≤ B) := by show _ ≤ _; omega
  rw [hB] at HO ⊢
  clear hB
  go_loopw [13] (fun iv wr => ∃ k : Nat, k ≤ l.length ∧ iv = .int .i64 k ∧ Hid (wr.ownsMap Try.prog 48 (unitElem (H := Unit)) B k (ptSet (l.take k))) ∧ Hid (Below w.heap.size w wr)) (fun iv _ => l.length - (intOf iv).toNat)
  case atStart => exact ⟨0, by omega, rfl, HO.out, Hb1.out⟩
  case round =>
    obtain ⟨k, hk, rfl, HOr, Hb⟩ := hrel
    by_cases hlt : k < l.length
    · obtain ⟨b, off, rfl, hbb, hr⟩ := insC_row HS.out (fun i h => (HI.out i h).1) (by omega)
      have hrk := rngB (hr k hlt) Hb.out hbb
      have hik := HI.out _ (List.getElem_mem hlt)
      have hnx := ptSet_next hlt
      obtain ⟨i, hi⟩ : ∃ i, l[k] = i := ⟨_, rfl⟩
      rw [hi] at hrk hik hnx
      have HR := Lib.hid hrk
      have HIk := Lib.hid hik
      have HNx := Lib.hid hnx
      have HKey := Lib.hid (keyOf_pt hik.1 hik.2)
      have HZ : Hid ((Try.prog.info? 50).map (·.size) = some (inC i).length) := by show _ = _; rw [inC_len hik.1]; exact Try.sizeIn
      have HZp : Hid ((Try.prog.info? 48).map (·.size) = some (ptC i).length) := by show _ = _; rw [ptC_len hik.1]; exact Try.sizePt
      clear hr hrk hik hi hnx
      go_wp2_with (first
        | ((with_reducible show wpList _ _ _ (⟨some 16, _, _, _, _, _⟩ :: _) _ _); refine wpList_load_mid rfl 50 (.tmp 15) rfl b (off + k * 34) rfl (inC i) _ HR.out Try.underlying50 rfl HZ.out ?_)
        | ((with_reducible show wpList _ _ _ (⟨none, .store 50 _ _, _, _, _, _⟩ :: _) _ _); refine wpList_store_all rfl 50 (.tmp 5) (.tmp 16) rfl wr.heap.size 50 _ (inC i).toArray rfl rfl (heap_alloc_new wr _) (by simp [inC_len HIk.out.1]) (by rw [List.size_toArray]; exact HZ.out) (inC_one i) ?_; intro w3 h5 h6 h7; have H5 := Lib.hid (blkR h5); have HO3 := Lib.hid (own_map_keeps (HOr.out.alloc _) h6 (own_map_ne HOr.out)); have Hb3 : Hid (Below w.heap.size w w3) := ((nxAl Hb.out _).trans (h6.below (nxAl Hb.out _).size (fun k hk => by have := Hb.out.size; omega))); clear h5 h6 h7)
        | ((with_reducible show wpList _ _ _ (⟨some 19, _, _, _, _, _⟩ :: _) _ _); refine wpList_load_mid rfl 48 (.tmp 18) rfl wr.heap.size 0 rfl (ptC i) _ (rng_prefix (by rw [← inC_pt]; exact H5.out)) Try.underlying48 rfl HZp.out ?_)
        | (at_mapUpdate; refine wpList_mapUpdate_own _ rfl _ _ _ 89 rfl 48 94 ptLaw Try.underlying89 (unitElem (H := Unit)) B k _ rfl HO3.out (by have := HM.out; unfold maxLen; omega) _ _ _ rfl rfl HKey.out _ [] unitElem_mk ?_; intro w4 hown4 hgrow4; rw [← HNx.out] at hown4; have HO4 := Lib.hid hown4; have Hb4 : Hid (Below w.heap.size w w4) := Hb3.out.grown hgrow4 Hb3.out.size (fun j hj => by cases hj; exact HBw.out); clear hown4 hgrow4))
      go_roundw
      case rel => exact ⟨k + 1, by omega, by go_num, HO4.out, Hb4.out⟩
      case measure => simp [intOf] <;> omega
    · obtain rfl : k = l.length := by omega
      have HOe : Hid (wr.ownsMap Try.prog 48 (unitElem (H := Unit)) B l.length (ptSet l)) := by have h := HOr.out; rw [List.take_length] at h; exact h
      go_wp2
      go_ret
      exact ⟨B, rfl, HOe.out, Hb.out⟩
end Go.Proofs.Ytlpcbkajgibhcaa
