/-
  dag: Past.
-/
import Derived.Test.YtndkjmmmneianaaDoorDgX
namespace Go.Proofs.YtndkjmmmneianaaDoor
open Go.RowKit Go.Shelf

noncomputable def pastG (G : Gr) (ids : List Hh) : List Hh := ansG G fun k => ∃ x ∈ ids, ∃ n, placeG G x = some n ∧ Anc G k n
theorem all_any (w : World) (A : Option Addr) (n c : Nat) : Calls Tryd.prog 42 #[.slice A n c] w fun e w' => e = .returned (.func (.func 63) #[] #[.pointer (some ⟨w.heap.size, 0, none⟩)]) ∧ w' = w.alloc (.cells #[.slice A n c] 74) := by
  have hmf : ∀ (fn : Fn) (first cap : Array Value) (w : World), (Instr.makeFunc fn first cap).run Tryd.prog w = .ok (.func fn first cap) w := fun _ _ _ _ => rfl
  go_enter Tryd.func42, Tryd.ntmps42
  go_wp2
  go_ret
  exact ⟨rfl, rfl⟩
set_option maxRecDepth 100000 in
set_option maxHeartbeats 4000000 in
theorem past_any (w : World) (base : Nat) (m : GrM) (G : Gr) (h : GrOk w base m) (hg : GrIs m G) (A : Option Addr) (ids : List Hh) (c : Nat) (hS : SeesV w w.heap.size A (hsC ids)) (hm : ids.length ≤ 1000000) (hT : TabAt 0 Lib.deBruijn64tab w) :
    Calls Tryd.prog 17 #[.pointer (some ⟨m.q, 0, none⟩), .slice A ids.length c] w (ListPost w (pastG G ids)) := by
  have e0 : (#[.int .u8 0, .int .u8 0, .int .u8 0, .int .u8 0, .int .u8 0, .int .u8 0, .int .u8 0, .int .u8 0, .int .u8 0, .int .u8 0, .int .u8 0, .int .u8 0, .int .u8 0, .int .u8 0, .int .u8 0, .int .u8 0, .int .u8 0, .int .u8 0, .int .u8 0, .int .u8 0, .int .u8 0, .int .u8 0, .int .u8 0, .int .u8 0, .int .u8 0, .int .u8 0, .int .u8 0, .int .u8 0, .int .u8 0, .int .u8 0, .int .u8 0, .int .u8 0] : Array Value) = (hC zH).toArray := rfl
  have h0w : 0 < w.heap.size := World.block_lt_of_cell? _ _ (hT 0 (by decide))
  have HT0 := Lib.hid hT
  have H0w := Lib.hid h0w
  have H0 := Lib.hid h
  have HG := Lib.hid hg
  have HS := Lib.hid hS
  have HM := Lib.hid hm
  have hmx : G.length ≤ 1000000 := by rw [← hg.len]; exact hg.max
  have hl := len_any w base m h (by rw [hg.ilen]; exact hg.ne)
  rw [hg.ilen] at hl
  have HLn := Lib.hid hl
  obtain ⟨n64, h64⟩ : ∃ n, (G.length + 63) / 64 = n := ⟨_, rfl⟩
  have hnr := newRow_any w G.length hmx
  rw [h64] at hnr
  have HNr := Lib.hid hnr
  have H64 := Lib.hid h64
  have h64m : n64 ≤ 1000000 := by omega
  clear h hg hS hm hT hl hnr h0w h64
  unfold ListPost
  go_enter Tryd.func17, Tryd.ntmps17
  go_wp2_with (first
    | (go_at_call 20; refine HLn.out.mono ?_; rintro e w1 ⟨rfl, hw1⟩; obtain rfl := hw1.symm)
    | (go_at_call 39; refine HNr.out.mono ?_; rintro e w2 ⟨rfl, hw2⟩; have V2 : Hid (Below w.heap.size w w2) := (by rw [hw2]; exact nxAlloc (nxRefl _) _); have B2 : Hid (Blk w2 w.heap.size 93 (uC (List.replicate n64 0)).toArray) := (by rw [hw2]; exact heap_alloc_new _ _); clear hw2))
  go_loopw [15] (fun iv wr => ∃ (i : Nat) (ws : List Nat), i ≤ ids.length ∧ iv = .int .i64 i ∧ Hid (ws.length = n64) ∧ Hid (Small ws) ∧ Hid (∀ k, rowB ws k = true ↔ ∃ x ∈ ids.take i, ∃ n, placeG G x = some n ∧ Anc G k n) ∧ Hid (Blk wr w.heap.size 93 (uC ws).toArray) ∧ Hid (Below w.heap.size w wr)) (fun iv _ => ids.length - (intOf iv).toNat)
  case atStart => exact ⟨0, List.replicate n64 0, by omega, rfl, by show _ = _; simp, fun x hx => by rw [List.eq_of_mem_replicate hx]; omega, fun k => by rw [rowB_zero]; simp, B2, V2⟩
  case round =>
    obtain ⟨i, ws, hi, rfl, HWl, HSm, HR, HB, HV⟩ := hrel
    by_cases hlt : i < ids.length
    · obtain ⟨b1, f1, rfl, hb1, hr1⟩ := sees_hash HS.out hlt
      have r1 : wr.rangeAt b1 (f1 + i * 32) (hC ids[i]) := rngK (hr1 i hlt) HV.out hb1
      have hn2 : ids.take (i + 1) = ids.take i ++ [ids[i]] := List.take_succ_eq_append_getElem hlt
      obtain ⟨x, hx⟩ : ∃ x, ids[i] = x := ⟨_, rfl⟩
      rw [hx] at r1 hn2
      have HR1 := Lib.hid r1
      have HN2 := Lib.hid hn2
      have hin : (i : Int) < (ids.length : Int) := by omega
      have hm9 := HM.out
      clear hr1 hx r1 hn2 hb1
      cases hp : placeG G x with
      | none =>
        have HPv : Hid (plV G x = .tuple #[.int .i64 0, .bool false]) := by show _ = _; unfold plV plE; rw [hp]; rfl
        have HRn : Hid (∀ k, rowB ws k = true ↔ ∃ x ∈ ids.take (i + 1), ∃ n, placeG G x = some n ∧ Anc G k n) := fun k => by
          rw [HR.out k, HN2.out]
          constructor
          · rintro ⟨y, hy, h1⟩
            exact ⟨y, List.mem_append_left _ hy, h1⟩
          · rintro ⟨y, hy, n, h1, h2⟩
            rcases List.mem_append.1 hy with hy | hy
            · exact ⟨y, hy, n, h1, h2⟩
            · rw [List.mem_singleton] at hy
              rw [hy, hp] at h1
              cases h1
        clear hp
        go_wp2_with (first
            | ((with_reducible show wpList _ _ _ (⟨some 18, _, _, _, _, _⟩ :: _) _ _); refine wpList_load_mid rfl 23 (.tmp 17) rfl b1 (f1 + i * 32) rfl (hC x) _ HR1.out Tryd.underlying23 rfl (hszL x) ?_)
            | ((with_reducible show wpList _ _ _ (⟨none, .store 23 (.tmp 7) _, _, _, _, _⟩ :: _) _ _); refine wpList_store_all rfl 23 (.tmp 7) (.tmp 18) rfl wr.heap.size 23 (hC zH).toArray (hC x).toArray rfl rfl (blkNew rfl rfl) (by rw [List.size_toArray, List.size_toArray, hC_len, hC_len]) (hszB x) (hC_one x) ?_; intro w5 h5 h6 h7; have X5 := Lib.hid h5; have K5 : Hid (Below wr.heap.size wr w5) := (nxAlloc (nxRefl wr) _).trans (h6.below (nxAlloc (nxRefl wr) (.cells (hC zH).toArray 23)).size (fun j hj e => by omega)); clear h5 h6 h7)
            | ((with_reducible show wpList _ _ _ (⟨some 21, _, _, _, _, _⟩ :: _) _ _); refine wpList_load_mid rfl 23 (.tmp 7) rfl wr.heap.size 0 rfl (hC x) _ (kb_range X5.out) Tryd.underlying23 rfl (hszL x) ?_)
            | (go_at_call 37; refine (place_any w5 base m G (H0.out.later (nxTo HV.out K5.out)) HG.out x).mono ?_; rw [HPv.out]; rintro e w6 ⟨rfl, hb6⟩; have K6 : Hid (Below wr.heap.size wr w6) := nxTo K5.out hb6; clear hb6))
        go_roundw
        case rel => exact ⟨i + 1, ws, by omega, by go_num, HWl, HSm, HRn, HB.out.below K6.out HB.out.lt, HV.out.trans (K6.out.mono HV.out.size)⟩
        case measure => simp [intOf] <;> omega
      | some n =>
        obtain ⟨hn1, _⟩ := placeG_some hp
        have hnl : n < m.L.length := by rw [HG.out.len]; exact hn1
        have HPv : Hid (plV G x = .tuple #[.int .i64 (n : Int), .bool true]) := by show _ = _; unfold plV plE; rw [hp]; rfl
        have hrw := HG.out.row n hnl
        have HRn : Hid (∀ k, rowB (joinR ws m.L[n].row) k = true ↔ ∃ x ∈ ids.take (i + 1), ∃ n, placeG G x = some n ∧ Anc G k n) := fun k => by
          rw [rowB_join (by have := HWl.out; have := H64.out; omega), Bool.or_eq_true, HR.out k, hrw.2.2 k, HN2.out]
          constructor
          · rintro (⟨y, hy, h1⟩ | h1)
            · exact ⟨y, List.mem_append_left _ hy, h1⟩
            · exact ⟨x, by simp, n, hp, h1⟩
          · rintro ⟨y, hy, n', h1, h2⟩
            rcases List.mem_append.1 hy with hy | hy
            · exact .inl ⟨y, hy, n', h1, h2⟩
            · rw [List.mem_singleton] at hy
              rw [hy, hp] at h1
              injection h1 with h1
              exact .inr (by rw [h1]; exact h2)
        obtain ⟨gn, hnA, hgl, hx1, hx2, hcr⟩ := nds_cell H0.out hnl
        clear hx1 hx2
        have hsr := H0.out.row _ (List.getElem_mem hnl)
        have hcq := H0.out.b.cell 1
        rw [hnA, HG.out.len] at hcq
        replace hcq : w.cell? ⟨m.q, 1, none⟩ = some (.slice (some ⟨gn, 0, none⟩) G.length m.nc) := hcq
        obtain ⟨nd, hnd⟩ : ∃ x, m.L[n] = x := ⟨_, rfl⟩
        rw [hnd] at hrw hcr hsr HRn
        have HRl : Hid (nd.row.length ≤ n64) := by have h1 := hrw.1; have h2 := H64.out; show _ ≤ _; omega
        have HRs : Hid (Small nd.row) := hrw.2.1
        have HRr : Hid (SeesV w w.heap.size nd.rA (uC nd.row)) := hsr
        have HCr : Hid (w.cell? ⟨gn, n * 3 + 2, none⟩ = some (.slice nd.rA nd.row.length nd.rc)) := hcr
        have HCq := Lib.hid hcq
        have HGl : Hid (gn < w.heap.size) := hgl
        have HQl : Hid (m.q < w.heap.size) := H0.out.b.lt
        have hjz : (n : Int) < (G.length : Int) := by omega
        clear hp hrw hnd hnl hn1 hnA hgl hcr hsr hcq
        go_wp2_with (first
            | ((with_reducible show wpList _ _ _ (⟨some 18, _, _, _, _, _⟩ :: _) _ _); refine wpList_load_mid rfl 23 (.tmp 17) rfl b1 (f1 + i * 32) rfl (hC x) _ HR1.out Tryd.underlying23 rfl (hszL x) ?_)
            | ((with_reducible show wpList _ _ _ (⟨none, .store 23 (.tmp 7) _, _, _, _, _⟩ :: _) _ _); refine wpList_store_all rfl 23 (.tmp 7) (.tmp 18) rfl wr.heap.size 23 (hC zH).toArray (hC x).toArray rfl rfl (blkNew rfl rfl) (by rw [List.size_toArray, List.size_toArray, hC_len, hC_len]) (hszB x) (hC_one x) ?_; intro w5 h5 h6 h7; have X5 := Lib.hid h5; have K5 : Hid (Below wr.heap.size wr w5) := (nxAlloc (nxRefl wr) _).trans (h6.below (nxAlloc (nxRefl wr) (.cells (hC zH).toArray 23)).size (fun j hj e => by omega)); clear h5 h6 h7)
            | ((with_reducible show wpList _ _ _ (⟨some 21, _, _, _, _, _⟩ :: _) _ _); refine wpList_load_mid rfl 23 (.tmp 7) rfl wr.heap.size 0 rfl (hC x) _ (kb_range X5.out) Tryd.underlying23 rfl (hszL x) ?_)
            | (go_at_call 37; refine (place_any w5 base m G (H0.out.later (nxTo HV.out K5.out)) HG.out x).mono ?_; rw [HPv.out]; rintro e w6 ⟨rfl, hb6⟩; have K6 : Hid (Below wr.heap.size wr w6) := nxTo K5.out hb6; have V6 : Hid (Below w.heap.size w w6) := HV.out.trans (K6.out.mono HV.out.size); have cq6 : w6.cell? ⟨m.q, 1, none⟩ = some (.slice (some ⟨gn, 0, none⟩) G.length m.nc) := (V6.out.cell (p := ⟨m.q, 1, none⟩) HQl.out).trans HCq.out; have cr6 : w6.cell? ⟨gn, n * 3 + 2, none⟩ = some (.slice nd.rA nd.row.length nd.rc) := (V6.out.cell (p := ⟨gn, n * 3 + 2, none⟩) HGl.out).trans HCr.out; have HB6 : Hid (Blk w6 w.heap.size 93 (uC ws).toArray) := HB.out.below K6.out HB.out.lt; have HJ := Lib.hid (join_any w6 w.heap.size n64 w.heap.size nd.rc ws nd.row nd.rA HB6.out (HRr.out.below V6.out) (Nat.le_refl _) (by rw [HWl.out]; exact HRl.out) HSm.out HRs.out (by have := HRl.out; omega)); clear hb6)
            | (go_at_call 40; have hj := HJ.out; rw [HWl.out] at hj; refine hj.mono ?_; rintro e w7 ⟨rfl, hb7, hk7⟩; have B7 := Lib.hid hb7; have K7 := Lib.hid hk7; clear hb7 hk7 hj))
        go_roundw
        case rel => exact ⟨i + 1, joinR ws nd.row, by omega, by go_num, (joinR_len _ _).trans HWl.out, joinR_small HSm.out HRs.out, HRn, B7, V6.out.trans (K7.out.below V6.out.size (fun j hj e => by omega))⟩
        case measure => simp [intOf] <;> omega
    · obtain rfl : i = ids.length := by omega
      rw [List.take_length] at HR
      have HPl : Hid (∀ p ∈ allFrom 0 ws, p < G.length) := fun p hp => by
        obtain ⟨x, _, n, h1, h2⟩ := (HR.out p).1 ((mem_allR HSm.out).1 hp)
        exact Nat.lt_trans (h2.lt HG.out.ok) (placeG_some h1).1
      have HNd : Hid ((allFrom 0 ws).Nodup) := allFrom_nodup HSm.out 0
      have HLn2 : Hid ((allFrom 0 ws).length ≤ 1000000) := Nat.le_trans (len_le_of HNd.out HPl.out) hmx
      have HSr : Hid (srtH ((allFrom 0 ws).map (idG G)) = pastG G ids) := by
        show _ = _
        rw [srt_places HG.out.ok HNd.out HPl.out]
        exact ansG_congr fun n _ => (mem_allR HSm.out).trans (HR.out n)
      have HPn : Hid ((allFrom 0 ws).length = (pastG G ids).length) := by
        show _ = _
        rw [← HSr.out, (srtH_perm _).length_eq, List.length_map]
      have V3 : Hid (Below wr.heap.size wr (wr.alloc (.cells #[.slice (some ⟨w.heap.size, 0, none⟩) n64 n64] 74))) := nxAlloc (nxRefl _) _
      have R3 : Hid (Blk (wr.alloc (.cells #[.slice (some ⟨w.heap.size, 0, none⟩) n64 n64] 74)) wr.heap.size 74 #[.slice (some ⟨w.heap.size, 0, none⟩) n64 n64]) := heap_alloc_new _ _
      have V3w : Hid (Below w.heap.size w (wr.alloc (.cells #[.slice (some ⟨w.heap.size, 0, none⟩) n64 n64] 74))) := HV.out.trans (V3.out.mono HV.out.size)
      have S3 : Hid (SeesV (wr.alloc (.cells #[.slice (some ⟨w.heap.size, 0, none⟩) n64 n64] 74)) (wr.alloc (.cells #[.slice (some ⟨w.heap.size, 0, none⟩) n64 n64] 74)).heap.size (some ⟨w.heap.size, 0, none⟩) (uC ws)) := SeesV.blk (HB.out.below V3.out HB.out.lt)
      have T3 : Hid (TabAt 0 Lib.deBruijn64tab (wr.alloc (.cells #[.slice (some ⟨w.heap.size, 0, none⟩) n64 n64] 74))) := tab_below HT0.out V3w.out H0w.out
      have HRs := rising_any (wr.alloc (.cells #[.slice (some ⟨w.heap.size, 0, none⟩) n64 n64] 74)) base m G (H0.out.later V3w.out) HG.out.toGrI0 63 #[.pointer (some ⟨wr.heap.size, 0, none⟩)] (allFrom 0 ws) HPl.out HLn2.out (enters_of Tryd.func63 (by kernel_rfl) rfl) (fun W hbw hsz l J Jx W9 hW9 hJ hY hJ0 => by
        have hwn := HWl.out
        refine all1_in W wr.heap.size (some ⟨w.heap.size, 0, none⟩) ws n64 _ hsz R3.out.lt ?_ (S3.out.below hbw) HSm.out (by omega) (tab_below T3.out hbw (Nat.lt_of_lt_of_le H0w.out V3w.out.size)) (Nat.lt_of_lt_of_le H0w.out V3w.out.size) l J Jx W9 (hW9.mono hsz) hJ hY hJ0
        rw [hwn]
        exact (R3.out.below hbw R3.out.lt).cell 0)
      have HRi := Lib.hid HRs
      clear HRs
      go_wp2_with (first
        | (go_at_call 42; refine (all_any wr (some ⟨w.heap.size, 0, none⟩) n64 n64).mono ?_; rintro e w8 ⟨rfl, hw8⟩; obtain rfl := hw8.symm)
        | (go_at_call 41; refine HRi.out.mono ?_; rintro e w9 ⟨⟨A9, c9, rfl, ho9⟩, hb9⟩; have O9 := Lib.hid ho9; have V9 := Lib.hid hb9; clear ho9 hb9))
      go_ret
      have h9 := O9.out
      rw [HSr.out] at h9
      refine ⟨A9, c9, ?_, own_base (by rw [← HPn.out]; exact h9) V3w.out.size, V3w.out.trans (V9.out.mono V3w.out.size)⟩
      rw [← HPn.out]
      rfl
end Go.Proofs.YtndkjmmmneianaaDoor
