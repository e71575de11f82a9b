/-
  BlockLooks, the walk.
-/
import Derived.Test.YtjcbihdhkaiidaaBlE
namespace Go.Proofs.Ytjcbihdhkaiidaa
open Go.RowKit

set_option maxHeartbeats 8000000 in
set_option maxRecDepth 100000 in
theorem blockLooks_any (w : World) (a b : BkR) (ha : BkOk w a) (hb : BkOk w b) : Calls Try.prog 3 #[.agg (bkC a).toArray, .agg (bkC b).toArray] w fun e w' => e = .returned (.bool true) ∧ Below w.heap.size w w' := by
  have hb0 : Below w.heap.size w ((w.alloc (.cells (bkC a).toArray 30)).alloc (.cells (bkC b).toArray 30)) := nxAl (nxAl (nxRf w) _) _
  have hBa : Blk ((w.alloc (.cells (bkC a).toArray 30)).alloc (.cells (bkC b).toArray 30)) w.heap.size 30 (bkC a).toArray := (show Blk (w.alloc (.cells (bkC a).toArray 30)) _ _ _ from heap_alloc_new w _).alloc _
  have hBb : Blk ((w.alloc (.cells (bkC a).toArray 30)).alloc (.cells (bkC b).toArray 30)) (w.heap.size + 1) 30 (bkC b).toArray := Blk.newAt (by simp) rfl
  have Hb0 := Lib.hid hb0
  have Ba := Lib.hid hBa
  have Bb := Lib.hid hBb
  have KA := Lib.hid (ha.later hb0)
  have KB := Lib.hid (hb.later hb0)
  have fA := Lib.hid ha.h.f
  have fB := Lib.hid hb.h.f
  have HZl : Hid (∀ q : BkR, HdFit q.h.p → (Try.prog.info? 30).map (·.size) = some (bkC q).length) := fun q f => bkSz f
  have HZl' : Hid (∀ q : BkR, HdFit q.h.p → (Try.prog.info? 30).map (·.size) = some (bkC q).toArray.size) := fun q f => bkSz' f
  have NZ : Hid (∀ q : BkR, HdFit q.h.p → (bkC q).toArray.size = 131) := fun q f => by rw [List.size_toArray, bkC_len f]
  have HZh : Hid (∀ h : HdR, HdFit h.p → (Try.prog.info? 27).map (·.size) = some (hdC h).length) := fun h f => hdSz f
  have hzv := zv_bk
  obtain ⟨i0, hi0, hz0, hz1, hz2⟩ := infoP Try.txinf
  obtain ⟨i1, hi1, hx0, hx1, hx2⟩ := infoP Try.ininfo
  obtain ⟨i2, hi2, hy0, hy1, hy2⟩ := infoP Try.outinfo
  obtain ⟨i3, hi3, hu0, hu1, hu2⟩ := infoP Try.hinfo
  clear hb0 hBa hBb ha hb
  go_enter Try.func3, Try.ntmps3
  go_upto_region 1 with fail
  try change Code.wp _ _ _ _ ((w.alloc (.cells (bkC a).toArray 30)).alloc (.cells (bkC b).toArray 30))
  generalize ((w.alloc (.cells (bkC a).toArray 30)).alloc (.cells (bkC b).toArray 30)) = W0 at *
  go_wp2_with (first
    | ((with_reducible show wpList _ _ _ (⟨some 12, _, _, _, _, _⟩ :: _) _ _); refine wpList_load_mid rfl 30 (.tmp 2) rfl w.heap.size 0 rfl (bkC a) _ (blkR Ba.out) Try.underlying30 rfl (HZl.out a fA.out) ?_)
    | ((with_reducible show wpList _ _ _ (⟨some 13, _, _, _, _, _⟩ :: _) _ _); refine wpList_load_mid rfl 30 (.tmp 3) rfl (w.heap.size + 1) 0 rfl (bkC b) _ (blkR Bb.out) Try.underlying30 rfl (HZl.out b fB.out) ?_)
    | ((with_reducible show wpList _ _ _ (⟨some 14, _, _, _, _, _⟩ :: _) _ _); refine wpList_build_bkp rfl (.tmp 12) (.tmp 13) rfl a b fA.out fB.out rfl rfl ?_)
    | (go_at_call 4; refine (much62L_any (W0.alloc (.cells (bkC a ++ bkC b).toArray 30)) W0.heap.size a b (KA.out.later (nxAl (nxRf W0) _)) (KB.out.later (nxAl (nxRf W0) _)) (heap_alloc_new W0 _)).mono ?_; rintro e wM ⟨z, rfl, hz, hb⟩; have HFew := Lib.hid hz; have VM : Hid (Below W0.heap.size W0 wM) := nxTr (nxAl (nxRf W0) _) hb; have BaM := Lib.hid (Ba.out.below VM.out Ba.out.lt); have KaM := Lib.hid (KA.out.later VM.out); clear hz hb; cases z)
    | (go_at_call 5; refine (known6_any wM).mono ?_; rintro e wK ⟨rfl, hb⟩; have VK : Hid (Below W0.heap.size W0 wK) := nxTr VM.out hb; clear hb)
    | ((with_reducible show wpList _ _ _ (⟨some 18, _, _, _, _, _⟩ :: _) _ _); refine wpList_load_mid rfl 27 (.tmp 17) rfl w.heap.size 0 rfl (hdC a.h) _ (BkRow.of (blkR BaM.out) fA.out).r Try.underlying27 rfl (HZh.out a.h fA.out) ?_)
    | ((with_reducible show wpList _ _ _ (⟨some 19, _, _, _, _, _⟩ :: _) _ _); refine wpList_build1 rfl 30 0 (.tmp 18) rfl (.agg (hdC a.h).toArray) (.agg (bkC ⟨a.h, none, [], 0⟩).toArray) rfl (build_bkh a.h fA.out) ?_)
    | ((with_reducible show wpList _ _ _ (⟨none, .store 30 (.tmp 5) _, _, _, _, _⟩ :: _) _ _); (show wpList _ _ _ _ _ (wM.alloc (.cells (bkC noBk).toArray 30))); refine wpList_store_all rfl 30 (.tmp 5) (.tmp 19) rfl wM.heap.size 30 (bkC noBk).toArray (bkC ⟨a.h, none, [], 0⟩).toArray rfl rfl (heap_alloc_new wM _) (by rw [NZ.out ⟨a.h, none, [], 0⟩ fA.out]; rfl) (HZl'.out ⟨a.h, none, [], 0⟩ fA.out) (bkC_one _) ?_; intro w1 h5 h6 h7; have B1 := Lib.hid h5; have V1 : Hid (Below wM.heap.size wM w1) := belowFresh h6; have c22 : w1.cell? ⟨w.heap.size, 0, none⟩ = some (.slice a.h.A a.h.p.ps.length a.h.c) := (BkRow.of (b := a) (blkR (Blk.below BaM.out V1.out BaM.out.lt)) fA.out).h.ps; have K1 := Lib.hid (KaM.out.later V1.out); clear h5 h6 h7)
    | ((with_reducible show wpList _ _ _ (⟨some 23, _, _, _, _, _⟩ :: _) _ _); refine wpList_append_seesV rfl (.const (.slice none 0 0)) (.tmp 22) 22 rfl wM.heap.size 24 i3 _ 32 32 Try.underlying22 hi3 hu0 hu1 hu2 rfl (by decide) (.slice none 0 0) 0 [] rfl ⟨rfl, .inl ⟨rfl, rfl⟩⟩ _ a.h.A a.h.p.ps.length a.h.c (Hs a.h.p.ps) rfl (Hs_length fA.out.ps) K1.out.h.s (Hs_one' a.h.p.ps) (by have := K1.out.h.m; omega) (by have := (HFew.out (by first | rfl | trivial)).1.1; omega) V1.out.size ?_; intro v2 w2 ho2 hg2 hv2; simp only [Nat.zero_add, List.nil_append] at ho2; obtain ⟨A1, e1, rfl⟩ := own_form ho2; have O2 := Lib.hid ho2; have V2 : Hid (Below w1.heap.size w1 w2) := below_none hg2; have B2 := Lib.hid (B1.out.below V2.out B1.out.lt); clear ho2 hg2 hv2 c22)
    | ((with_reducible show wpList _ _ _ (⟨none, .store 22 (.tmp 25) _, _, _, _, _⟩ :: _) _ _); refine wpList_store_part rfl 22 (.tmp 25) (.tmp 23) rfl wM.heap.size 0 30 (bkC ⟨a.h, none, [], 0⟩).toArray #[.slice A1 a.h.p.ps.length e1] (bkC ⟨⟨A1, e1, a.h.p⟩, none, [], 0⟩).toArray (.slice A1 a.h.p.ps.length e1) rfl rfl rfl B2.out (by rw [NZ.out ⟨a.h, none, [], 0⟩ fA.out]; show 0 + 1 ≤ 131; omega) (by kernel_rfl) (fun u hu => by rw [List.mem_singleton.1 hu]; rfl) (bkC_ps2 a.h A1 e1 _ none [] 0 rfl) ?_; intro w3 h5 h6 h7; have B3 := Lib.hid h5; have K3 := Lib.hid h6; clear h5 h6 h7))
  rotate_left 1
  · go_ret
    exact ⟨rfl, nxTr Hb0.out VK.out⟩
  have V12 : Hid (Below wM.heap.size wM w2) := nxTr V1.out V2.out
  have V03 : Hid (Below wM.heap.size wM w3) := V12.out.trans (K3.out.below V12.out.size (fun j hj (e : j = wM.heap.size) => by omega))
  have HB0 : Hid (BuildB wM w3 a wM.heap.size 0 A1 e1 none 0 []) := ⟨rfl, (fun j h => (by cases h)), B3.out, own_keepsT O2.out K3.out (fun j (hj : j = wM.heap.size) cs hc => by
    subst hj
    have h2 : w2.heap[wM.heap.size]? = some (.cells (bkC ⟨a.h, none, [], 0⟩).toArray 30) := B2.out
    rw [hc] at h2
    injection h2 with h2
    injection h2 with _ h2 <;> exact absurd h2 (by decide)), ⟨rfl, .inl ⟨rfl, rfl⟩⟩, (fun v hv => (by cases hv)), (fun v hv => (by cases hv)), V03.out, Nat.le_refl _⟩
  have Few := HFew.out (by first | rfl | trivial)
  have hMt : a.txs.length ≤ 40 := Few.1.2.1
  have HFe := Lib.hid Few
  clear Few B3 K3 B2 V2 O2 B1 V1 K1 V12 V03
  go_loopw [6] (fun iv wr => ∃ (k : Nat) (R : Option Addr) (d : Nat) (L : List TxR), k ≤ a.txs.length ∧ iv = .int .i64 k ∧ Hid (BuildB wM wr a wM.heap.size k A1 e1 R d L)) (fun iv _ => a.txs.length - (intOf iv).toNat)
  case atStart => exact ⟨0, none, 0, [], by omega, rfl, HB0.out⟩
  case round =>
    clear HB0
    obtain ⟨k, R, d, L, hk, rfl, HB⟩ := hrel
    have Vr : Hid (Below W0.heap.size W0 wr) := nxTr VM.out HB.out.bel
    have cA : wr.cell? ⟨w.heap.size, 130, none⟩ = some (.slice a.B a.txs.length a.d) := (BkRow.of (b := a) (blkR (Blk.below Ba.out Vr.out Ba.out.lt)) fA.out).t
    by_cases hlt : k < a.txs.length
    · have hin : (k : Int) < (a.txs.length : Int) := by omega
      have cG : wr.cell? ⟨wM.heap.size, 130, none⟩ = some (.slice R k d) := by
        have q := (BkRow.of (b := ⟨⟨A1, e1, a.h.p⟩, R, L, d⟩) (blkR HB.out.blk) fA.out).t
        have e : L.length = k := HB.out.len
        simp only [e] at q
        exact q
      obtain ⟨b0, off, hAB, hb0l, hrg⟩ := txsC_row KA.out.t.s (by omega)
      have hr := rngB (hrg k hlt) Vr.out hb0l
      have hot := (KaM.out.t.each _ (List.getElem_mem hlt)).later HB.out.bel
      have hfw := HFe.out.1.2.2 _ (List.getElem_mem hlt)
      obtain ⟨t, ht⟩ : ∃ t, a.txs[k] = t := ⟨_, rfl⟩
      rw [ht] at hr hot hfw
      have c0 : wr.cell? ⟨b0, off + k * 3, none⟩ = some (.slice t.A t.ins.length t.c) := hr 0 _ rfl
      have c1 : wr.cell? ⟨b0, off + k * 3 + 1, none⟩ = some (.slice t.B t.outs.length t.d) := hr 1 _ rfl
      have c2 : wr.cell? ⟨b0, off + k * 3 + 2, none⟩ = some (.int .u64 (t.nonce : Int)) := hr 2 _ rfl
      rw [hAB] at cA
      have HTk := Lib.hid ht
      have HOt := Lib.hid hot
      have HFt := Lib.hid hfw
      have HSc : Hid (wr.cell? ⟨wM.heap.size, 130, none⟩ = some (.slice R k d) ∧ wr.cell? ⟨w.heap.size, 130, none⟩ = some (.slice (some ⟨b0, off, none⟩) a.txs.length a.d) ∧ wr.cell? ⟨b0, off + k * 3, none⟩ = some (.slice t.A t.ins.length t.c) ∧ wr.cell? ⟨b0, off + k * 3 + 1, none⟩ = some (.slice t.B t.outs.length t.d) ∧ wr.cell? ⟨b0, off + k * 3 + 2, none⟩ = some (.int .u64 (t.nonce : Int))) := ⟨cG, cA, c0, c1, c2⟩
      have hszM := HB.out.bel.size
      have hb0M : b0 < wM.heap.size := Nat.lt_of_lt_of_le hb0l VM.out.size
      have hgA : w.heap.size < wM.heap.size := Nat.lt_of_lt_of_le Ba.out.lt VM.out.size
      clear hr hot hfw ht hrg hb0l hAB hzv
      go_wp2_with fail
      clear cG c0 c1 c2
      refine wp_region_K (fun W => W.cell? ⟨wM.heap.size, 130, none⟩ = some (.slice R k d) ∧ W.cell? ⟨w.heap.size, 130, none⟩ = some (.slice (some ⟨b0, off, none⟩) a.txs.length a.d) ∧ W.cell? ⟨b0, off + k * 3, none⟩ = some (.slice t.A t.ins.length t.c) ∧ W.cell? ⟨b0, off + k * 3 + 1, none⟩ = some (.slice t.B t.outs.length t.d) ∧ W.cell? ⟨b0, off + k * 3 + 2, none⟩ = some (.int .u64 (t.nonce : Int))) 26 (by kernel_rfl) HSc.out (fun hSn => ?_)
      obtain ⟨q1, hq1⟩ : ∃ q, wr.drew = q := ⟨_, rfl⟩
      have y1 : Hid (Below wr.heap.size wr q1) := by show Below _ _ _; rw [← hq1]; exact nxDrI (nxRf wr)
      rw [hq1] at hSn ⊢
      clear hq1
      refine wpAnyK_pure (i := 0) (oi := ⟨_, _, _, _, _, _⟩) (v := ?_) rfl (by kernel_rfl) (by kernel_rfl) (by kernel_rfl) rfl (fun _ _ _ h => h) (Or.inl ⟨by rfl, ?_⟩) hSn ?_
      rotate_left 1
      · intro W hSw
        go_simp
        try with_reducible rfl
      replace hSn := (KT.set (i := 0) (by decide)).2 hSn
      try simp only [Act.put, List.setIfInBounds_toArray, List.set_cons_zero, List.set_cons_succ]
      refine wpAnyK_chain (i := 1) [26] (oi := ⟨_, _, _, _, _, _⟩) (v := ?_) rfl (by kernel_rfl) (by kernel_rfl) (by kernel_rfl) rfl (by kernel_rfl) (by kernel_rfl) (by kernel_rfl) (fun _ _ _ h => h) (Or.inl ⟨by rfl, ?_⟩) hSn ?_
      rotate_left 1
      · intro W hSw
        try dsimp only at hSw
        obtain ⟨hs1, hs2, hs3, hs4, hs5⟩ := hSw
        go_simp
        try with_reducible rfl
      replace hSn := (KT.set (i := 1) (by decide)).2 hSn
      try simp only [Act.put, List.setIfInBounds_toArray, List.set_cons_zero, List.set_cons_succ]
      refine wpAnyK_pure (i := 2) (oi := ⟨_, _, _, _, _, _⟩) (v := ?_) rfl (by kernel_rfl) (by kernel_rfl) (by kernel_rfl) rfl (fun _ _ _ h => h) (Or.inl ⟨by rfl, ?_⟩) hSn ?_
      rotate_left 1
      · intro W hSw
        go_simp
        try with_reducible rfl
      replace hSn := (KT.set (i := 2) (by decide)).2 hSn
      try simp only [Act.put, List.setIfInBounds_toArray, List.set_cons_zero, List.set_cons_succ]
      refine wpAnyK_chain (i := 3) [26] (oi := ⟨_, _, _, _, _, _⟩) (v := ?_) rfl (by kernel_rfl) (by kernel_rfl) (by kernel_rfl) rfl (by kernel_rfl) (by kernel_rfl) (by kernel_rfl) (fun _ _ _ h => h) (Or.inl ⟨by rfl, ?_⟩) hSn ?_
      rotate_left 1
      · intro W hSw
        try dsimp only at hSw
        obtain ⟨hs1, hs2, hs3, hs4, hs5⟩ := hSw
        go_simp
        try with_reducible rfl
      replace hSn := (KT.set (i := 3) (by decide)).2 hSn
      try simp only [Act.put, List.setIfInBounds_toArray, List.set_cons_zero, List.set_cons_succ]
      refine wpAnyK_pure (i := 4) (oi := ⟨_, _, _, _, _, _⟩) (v := ?_) rfl (by kernel_rfl) (by kernel_rfl) (by kernel_rfl) rfl (fun _ _ _ h => h) (Or.inl ⟨by rfl, ?_⟩) hSn ?_
      rotate_left 1
      · intro W hSw
        go_simp
        try with_reducible rfl
      replace hSn := (KT.set (i := 4) (by decide)).2 hSn
      try simp only [Act.put, List.setIfInBounds_toArray, List.set_cons_zero, List.set_cons_succ]
      refine wpAnyK_pure (i := 5) (oi := ⟨_, _, _, _, _, _⟩) (v := ?_) rfl (by kernel_rfl) (by kernel_rfl) (by kernel_rfl) rfl (fun _ _ _ h => h) (Or.inl ⟨by rfl, ?_⟩) hSn ?_
      rotate_left 1
      · intro W hSw
        go_simp
        try with_reducible rfl
      replace hSn := (KT.set (i := 5) (by decide)).2 hSn
      try simp only [Act.put, List.setIfInBounds_toArray, List.set_cons_zero, List.set_cons_succ]
      refine wpAnyK_pure (i := 6) (oi := ⟨_, _, _, _, _, _⟩) (v := ?_) rfl (by kernel_rfl) (by kernel_rfl) (by kernel_rfl) rfl (fun _ _ _ h => h) (Or.inl ⟨by rfl, ?_⟩) hSn ?_
      rotate_left 1
      · intro W hSw
        go_simp
        try with_reducible rfl
      replace hSn := (KT.set (i := 6) (by decide)).2 hSn
      try simp only [Act.put, List.setIfInBounds_toArray, List.set_cons_zero, List.set_cons_succ]
      refine wpAnyK_chain (i := 7) [26] (oi := ⟨_, _, _, _, _, _⟩) (v := ?_) rfl (by kernel_rfl) (by kernel_rfl) (by kernel_rfl) rfl (by kernel_rfl) (by kernel_rfl) (by kernel_rfl) (fun _ _ _ h => h) (Or.inl ⟨by rfl, ?_⟩) hSn ?_
      rotate_left 1
      · intro W hSw
        try dsimp only at hSw
        obtain ⟨hs1, hs2, hs3, hs4, hs5⟩ := hSw
        go_simp
        try with_reducible rfl
      replace hSn := (KT.set (i := 7) (by decide)).2 hSn
      try simp only [Act.put, List.setIfInBounds_toArray, List.set_cons_zero, List.set_cons_succ]
      refine wpAnyK_pure (i := 9) (oi := ⟨_, _, _, _, _, _⟩) (v := ?_) rfl (by kernel_rfl) (by kernel_rfl) (by kernel_rfl) rfl (fun _ _ _ h => h) (Or.inl ⟨by rfl, ?_⟩) hSn ?_
      rotate_left 1
      · intro W hSw
        go_simp
        try with_reducible rfl
      replace hSn := (KT.set (i := 9) (by decide)).2 hSn
      try simp only [Act.put, List.setIfInBounds_toArray, List.set_cons_zero, List.set_cons_succ]
      refine wpAnyK_chain (i := 10) [26] (oi := ⟨_, _, _, _, _, _⟩) (v := ?_) rfl (by kernel_rfl) (by kernel_rfl) (by kernel_rfl) rfl (by kernel_rfl) (by kernel_rfl) (by kernel_rfl) (fun _ _ _ h => h) (Or.inl ⟨by rfl, ?_⟩) hSn ?_
      rotate_left 1
      · intro W hSw
        try dsimp only at hSw
        obtain ⟨hs1, hs2, hs3, hs4, hs5⟩ := hSw
        go_simp
        try with_reducible rfl
      replace hSn := (KT.set (i := 10) (by decide)).2 hSn
      try simp only [Act.put, List.setIfInBounds_toArray, List.set_cons_zero, List.set_cons_succ]
      refine wpAnyK_pure (i := 11) (oi := ⟨_, _, _, _, _, _⟩) (v := ?_) rfl (by kernel_rfl) (by kernel_rfl) (by kernel_rfl) rfl (fun _ _ _ h => h) (Or.inl ⟨by rfl, ?_⟩) hSn ?_
      rotate_left 1
      · intro W hSw
        go_simp
        try with_reducible rfl
      replace hSn := (KT.set (i := 11) (by decide)).2 hSn
      try simp only [Act.put, List.setIfInBounds_toArray, List.set_cons_zero, List.set_cons_succ]
      refine wpAnyK_pure (i := 12) (oi := ⟨_, _, _, _, _, _⟩) (v := ?_) rfl (by kernel_rfl) (by kernel_rfl) (by kernel_rfl) rfl (fun _ _ _ h => h) (Or.inl ⟨by rfl, ?_⟩) hSn ?_
      rotate_left 1
      · intro W hSw
        go_simp
        try with_reducible rfl
      replace hSn := (KT.set (i := 12) (by decide)).2 hSn
      try simp only [Act.put, List.setIfInBounds_toArray, List.set_cons_zero, List.set_cons_succ]
      refine wpAnyK_pure (i := 13) (oi := ⟨_, _, _, _, _, _⟩) (v := ?_) rfl (by kernel_rfl) (by kernel_rfl) (by kernel_rfl) rfl (fun _ _ _ h => h) (Or.inl ⟨by rfl, ?_⟩) hSn ?_
      rotate_left 1
      · intro W hSw
        go_simp
        try with_reducible rfl
      replace hSn := (KT.set (i := 13) (by decide)).2 hSn
      try simp only [Act.put, List.setIfInBounds_toArray, List.set_cons_zero, List.set_cons_succ]
      refine wpAnyK_chain (i := 14) [26] (oi := ⟨_, _, _, _, _, _⟩) (v := ?_) rfl (by kernel_rfl) (by kernel_rfl) (by kernel_rfl) rfl (by kernel_rfl) (by kernel_rfl) (by kernel_rfl) (fun _ _ _ h => h) (Or.inl ⟨by rfl, ?_⟩) hSn ?_
      rotate_left 1
      · intro W hSw
        try dsimp only at hSw
        obtain ⟨hs1, hs2, hs3, hs4, hs5⟩ := hSw
        go_simp
        try with_reducible rfl
      replace hSn := (KT.set (i := 14) (by decide)).2 hSn
      try simp only [Act.put, List.setIfInBounds_toArray, List.set_cons_zero, List.set_cons_succ]
      refine wpAnyK_pure (i := 16) (oi := ⟨_, _, _, _, _, _⟩) (v := ?_) rfl (by kernel_rfl) (by kernel_rfl) (by kernel_rfl) rfl (fun _ _ _ h => h) (Or.inl ⟨by rfl, ?_⟩) hSn ?_
      rotate_left 1
      · intro W hSw
        go_simp
        try with_reducible rfl
      replace hSn := (KT.set (i := 16) (by decide)).2 hSn
      try simp only [Act.put, List.setIfInBounds_toArray, List.set_cons_zero, List.set_cons_succ]
      refine wpAnyK_chain (i := 17) [26] (oi := ⟨_, _, _, _, _, _⟩) (v := ?_) rfl (by kernel_rfl) (by kernel_rfl) (by kernel_rfl) rfl (by kernel_rfl) (by kernel_rfl) (by kernel_rfl) (fun _ _ _ h => h) (Or.inl ⟨by rfl, ?_⟩) hSn ?_
      rotate_left 1
      · intro W hSw
        try dsimp only at hSw
        obtain ⟨hs1, hs2, hs3, hs4, hs5⟩ := hSw
        go_simp
        try with_reducible rfl
      replace hSn := (KT.set (i := 17) (by decide)).2 hSn
      try simp only [Act.put, List.setIfInBounds_toArray, List.set_cons_zero, List.set_cons_succ]
      refine wpAnyK_pure (i := 18) (oi := ⟨_, _, _, _, _, _⟩) (v := ?_) rfl (by kernel_rfl) (by kernel_rfl) (by kernel_rfl) rfl (fun _ _ _ h => h) (Or.inl ⟨by rfl, ?_⟩) hSn ?_
      rotate_left 1
      · intro W hSw
        go_simp
        try with_reducible rfl
      replace hSn := (KT.set (i := 18) (by decide)).2 hSn
      try simp only [Act.put, List.setIfInBounds_toArray, List.set_cons_zero, List.set_cons_succ]
      refine wpAnyK_pure (i := 19) (oi := ⟨_, _, _, _, _, _⟩) (v := ?_) rfl (by kernel_rfl) (by kernel_rfl) (by kernel_rfl) rfl (fun _ _ _ h => h) (Or.inl ⟨by rfl, ?_⟩) hSn ?_
      rotate_left 1
      · intro W hSw
        go_simp
        try with_reducible rfl
      replace hSn := (KT.set (i := 19) (by decide)).2 hSn
      try simp only [Act.put, List.setIfInBounds_toArray, List.set_cons_zero, List.set_cons_succ]
      refine wpAnyK_pure (i := 20) (oi := ⟨_, _, _, _, _, _⟩) (v := ?_) rfl (by kernel_rfl) (by kernel_rfl) (by kernel_rfl) rfl (fun _ _ _ h => h) (Or.inl ⟨by rfl, ?_⟩) hSn ?_
      rotate_left 1
      · intro W hSw
        go_simp
        try with_reducible rfl
      replace hSn := (KT.set (i := 20) (by decide)).2 hSn
      try simp only [Act.put, List.setIfInBounds_toArray, List.set_cons_zero, List.set_cons_succ]
      refine wpAnyK_chain (i := 21) [26] (oi := ⟨_, _, _, _, _, _⟩) (v := ?_) rfl (by kernel_rfl) (by kernel_rfl) (by kernel_rfl) rfl (by kernel_rfl) (by kernel_rfl) (by kernel_rfl) (fun _ _ _ h => h) (Or.inl ⟨by rfl, ?_⟩) hSn ?_
      rotate_left 1
      · intro W hSw
        try dsimp only at hSw
        obtain ⟨hs1, hs2, hs3, hs4, hs5⟩ := hSw
        go_simp
        try with_reducible rfl
      replace hSn := (KT.set (i := 21) (by decide)).2 hSn
      try simp only [Act.put, List.setIfInBounds_toArray, List.set_cons_zero, List.set_cons_succ]
      clear hSn
      refine wpAnyK_ready (rs := [8]) (by kernel_rfl) (by simp) ?_
      refine AllReadyK.cons rfl (fun K hK => ?_) AllReadyK.nil
      refine step_append_seesV (o := ⟨some 41, _, _, _, _, _⟩) rfl (.const (.slice none 0 0)) (.tmp 40) 34 rfl wM.heap.size 44 i1 _ 34 64 Try.underlying34 hi1 hx0 hx1 hx2 rfl (by decide) (.slice none 0 0) 0 [] rfl ⟨rfl, .inl ⟨rfl, rfl⟩⟩ _ t.A t.ins.length t.c (insC t.ins) rfl (insC_len (fun i hi => (HOt.out.each i hi).id)) (HOt.out.later y1.out).ins (insC_one' t.ins) (by have := HFt.out.1; omega) (by have := HFt.out.1; omega) (Nat.le_trans hszM y1.out.size) ?_
      intro v5 w5 ho5 hg5 hv5
      simp only [Nat.zero_add, List.nil_append] at ho5
      obtain ⟨A5, c5, rfl⟩ := own_form ho5
      have O5 := Lib.hid ho5
      have y5 : Hid (Below wr.heap.size wr w5) := nxTr y1.out (below_none hg5)
      clear ho5 hg5 hv5
      refine hK.out _ _ (fun _ => ⟨cell_later y5.out HSc.out.1, cell_later y5.out HSc.out.2.1, cell_later y5.out HSc.out.2.2.1, cell_later y5.out HSc.out.2.2.2.1, cell_later y5.out HSc.out.2.2.2.2⟩) (fun hSn => ?_)
      clear hK K
      try simp only [Act.put, List.setIfInBounds_toArray, List.set_cons_zero, List.set_cons_succ]
      clear hSn
      refine wpAnyK_ready (rs := [15]) (by kernel_rfl) (by simp) ?_
      refine AllReadyK.cons rfl (fun K hK => ?_) AllReadyK.nil
      refine step_append_seesV (o := ⟨some 48, _, _, _, _, _⟩) rfl (.const (.slice none 0 0)) (.tmp 47) 35 rfl wM.heap.size 46 i2 _ 33 40 Try.underlying35 hi2 hy0 hy1 hy2 rfl (by decide) (.slice none 0 0) 0 [] rfl ⟨rfl, .inl ⟨rfl, rfl⟩⟩ _ t.B t.outs.length t.d (outsC t.outs) rfl (outsC_len (fun x hx => (HOt.out.eacho x hx).lock)) (HOt.out.later y5.out).outs (outsC_one' t.outs) (by have := HFt.out.2; omega) (by have := HFt.out.2; omega) (Nat.le_trans hszM y5.out.size) ?_
      intro v6 w6 ho6 hg6 hv6
      simp only [Nat.zero_add, List.nil_append] at ho6
      obtain ⟨A6, c6, rfl⟩ := own_form ho6
      have O6 := Lib.hid ho6
      have z6 : Hid (Below w5.heap.size w5 w6) := below_none hg6
      have y6 : Hid (Below wr.heap.size wr w6) := nxTr y5.out z6.out
      clear ho6 hg6 hv6
      refine hK.out _ _ (fun _ => ⟨cell_later y6.out HSc.out.1, cell_later y6.out HSc.out.2.1, cell_later y6.out HSc.out.2.2.1, cell_later y6.out HSc.out.2.2.2.1, cell_later y6.out HSc.out.2.2.2.2⟩) (fun hSn => ?_)
      clear hK K
      try simp only [Act.put, List.setIfInBounds_toArray, List.set_cons_zero, List.set_cons_succ]
      refine wpAnyK_chain (i := 22) [26] (oi := ⟨_, _, _, _, _, _⟩) (v := .agg (txC (reT A5 c5 A6 c6 t)).toArray) rfl (by kernel_rfl) (by kernel_rfl) (by kernel_rfl) rfl (by kernel_rfl) (by kernel_rfl) (by kernel_rfl) (fun _ _ _ h => h) (yieldsIf_build3 (by rfl) 37 (.tmp 41) (.tmp 48) (.tmp 54) rfl (.slice A5 t.ins.length c5) (.slice A6 t.outs.length c6) (.int .u64 (t.nonce : Int)) _ rfl rfl rfl (fun wq => part_tx3 _ _ _ _ _ _ _ wq)) hSn ?_
      replace hSn := (KT.set (i := 22) (by decide)).2 hSn
      try simp only [Act.put, List.setIfInBounds_toArray, List.set_cons_zero, List.set_cons_succ]
      clear hSn
      refine wpAnyK_ready (rs := [23]) (by kernel_rfl) (by simp) ?_
      refine AllReadyK.cons rfl (fun K hK => ?_) AllReadyK.nil
      refine step_build_one (o := ⟨some 56, _, _, _, _, _⟩) rfl 28 37 (.tmp 55) rfl (txC (reT A5 c5 A6 c6 t)) _ 3 56 Try.underlying28 Try.txinf (by decide) (by decide) rfl rfl ?_
      have y7 : Hid (Below wr.heap.size wr (w6.alloc (.cells (txC (reT A5 c5 A6 c6 t)).toArray 37))) := nxAl y6.out _
      have s7 : Hid (SeesV (w6.alloc (.cells (txC (reT A5 c5 A6 c6 t)).toArray 37)) (w6.alloc (.cells (txC (reT A5 c5 A6 c6 t)).toArray 37)).heap.size (some ⟨w6.heap.size, 0, none⟩) (txC (reT A5 c5 A6 c6 t))) := SeesV.blk (heap_alloc_new w6 _)
      refine hK.out _ _ (fun _ => ⟨cell_later y7.out HSc.out.1, cell_later y7.out HSc.out.2.1, cell_later y7.out HSc.out.2.2.1, cell_later y7.out HSc.out.2.2.2.1, cell_later y7.out HSc.out.2.2.2.2⟩) (fun hSn => ?_)
      clear hK K
      try simp only [Act.put, List.setIfInBounds_toArray, List.set_cons_zero, List.set_cons_succ]
      clear hSn
      refine wpAnyK_ready (rs := [24]) (by kernel_rfl) (by simp) ?_
      refine AllReadyK.cons rfl (fun K hK => ?_) AllReadyK.nil
      refine step_append_seesV (o := ⟨some 57, _, _, _, _, _⟩) rfl (.tmp 34) (.tmp 56) 28 rfl wM.heap.size 37 i0 _ 3 56 Try.underlying28 hi0 hz0 hz1 hz2 rfl (by decide) (.slice R k d) k (txsC L) rfl (own_false HB.out.txs y7.out) _ (some ⟨w6.heap.size, 0, none⟩) 1 1 (txC (reT A5 c5 A6 c6 t)) rfl rfl s7.out (txC_one' _) (by omega) (by omega) (Nat.le_trans hszM y7.out.size) ?_
      intro v8 w8 ho8 hg8 hv8
      obtain ⟨R8, d8, rfl⟩ := own_form ho8
      have O8 := Lib.hid ho8
      have G8 : Hid ((w6.alloc (.cells (txC (reT A5 c5 A6 c6 t)).toArray 37)).grownBy w8 (R.map (·.block))) := (by rw [own_blk] at hg8; exact hg8)
      clear ho8 hg8 hv8
      have B8 := Lib.hid (buildB_blk HB.out y6.out G8.out)
      have V8 : Hid (Below wM.heap.size wr w8) := buildB_old HB.out y6.out G8.out
      refine hK.out _ _ (fun _ => ⟨buildB_cell HB.out fA.out B8.out, (V8.out.cell (p := ⟨w.heap.size, 130, none⟩) hgA).trans HSc.out.2.1, (V8.out.cell (p := ⟨b0, off + k * 3, none⟩) hb0M).trans HSc.out.2.2.1, (V8.out.cell (p := ⟨b0, off + k * 3 + 1, none⟩) hb0M).trans HSc.out.2.2.2.1, (V8.out.cell (p := ⟨b0, off + k * 3 + 2, none⟩) hb0M).trans HSc.out.2.2.2.2⟩) (fun hSn => ?_)
      clear hK K
      try simp only [Act.put, List.setIfInBounds_toArray, List.set_cons_zero, List.set_cons_succ]
      refine wpAnyK_pure (i := 25) (oi := ⟨_, _, _, _, _, _⟩) (v := ?_) rfl (by kernel_rfl) (by kernel_rfl) (by kernel_rfl) rfl (fun _ _ _ h => h) (Or.inl ⟨by rfl, ?_⟩) hSn ?_
      rotate_left 1
      · intro W hSw
        go_simp
        try with_reducible rfl
      replace hSn := (KT.set (i := 25) (by decide)).2 hSn
      try simp only [Act.put, List.setIfInBounds_toArray, List.set_cons_zero, List.set_cons_succ]
      clear hSn
      refine wpAnyK_ready (rs := [26]) (by kernel_rfl) (by simp) ?_
      refine AllReadyK.cons rfl (fun K hK => ?_) AllReadyK.nil
      refine step_store_part (o := ⟨none, _, _, _, _, _⟩) rfl 28 (.tmp 58) (.tmp 57) rfl wM.heap.size 130 30 (bkC ⟨⟨A1, e1, a.h.p⟩, R, L, d⟩).toArray #[.slice R8 (k + 1) d8] _ (.slice R8 (k + 1) d8) rfl rfl rfl B8.out (by rw [NZ.out ⟨⟨A1, e1, a.h.p⟩, R, L, d⟩ fA.out]; show 130 + 1 ≤ 131; omega) (by kernel_rfl) (fun u hu => by rw [List.mem_singleton.1 hu]; rfl) (bkC_txs2 ⟨A1, e1, a.h.p⟩ fA.out R R8 L (L ++ [reT A5 c5 A6 c6 t]) d d8 (k + 1) (by rw [List.length_append, HB.out.len]; rfl)) ?_
      intro w9 h5 h6 h7
      have hN := buildB_next HB.out hlt HTk.out O5.out y5.out O6.out z6.out O8.out G8.out h5 h6
      have HN := Lib.hid hN
      clear hN h5 h6 h7
      refine hK.out _ _ (fun h => absurd h (by decide +kernel)) (fun hSn => ?_)
      clear hK K
      try simp only [Act.put, List.setIfInBounds_toArray, List.set_cons_zero, List.set_cons_succ]
      refine wpAnyK_done (by kernel_rfl) ?_ _
      go_wp2_with fail
      go_roundw
      case rel => exact ⟨k + 1, R8, d8, _, by omega, by go_num, HN.out⟩
      case measure => simp [intOf] <;> omega
    · obtain rfl : k = a.txs.length := by omega
      obtain ⟨hown, hbd⟩ := buildB_own HB.out KaM.out
      have hmx : a.h.p.ps.length ≤ 600 ∧ L.length ≤ 40 ∧ ∀ t ∈ L, t.ins.length ≤ 600 ∧ t.outs.length ≤ 600 := ⟨HFe.out.1.1, by have := HB.out.len; omega, fun t ht => by
        obtain ⟨j, hj, rfl⟩ := List.getElem_of_mem ht
        have hj' : j < a.txs.length := by have := HB.out.len; omega
        obtain ⟨e1', e2', _⟩ := HB.out.same j hj hj'
        rw [e1', e2']
        exact HFe.out.1.2.2 _ (List.getElem_mem hj')⟩
      have hmo : (⟨⟨A1, e1, a.h.p⟩, R, L, d⟩ : BkR).h.p.ps.length ≤ 600 ∧ (⟨⟨A1, e1, a.h.p⟩, R, L, d⟩ : BkR).txs.length ≤ 40 ∧ ∀ t ∈ (⟨⟨A1, e1, a.h.p⟩, R, L, d⟩ : BkR).txs, t.ins.length ≤ 600 ∧ t.outs.length ≤ 600 := hmx
      obtain ⟨o, ho⟩ : ∃ o : BkR, (⟨⟨A1, e1, a.h.p⟩, R, L, d⟩ : BkR) = o := ⟨_, rfl⟩
      rw [ho] at hown hbd hmo
      have HOw := Lib.hid hown
      have HBd := Lib.hid hbd
      have HMo := Lib.hid hmo
      have HMc : Hid (o.h.p.ps.length ≤ 100000 ∧ o.txs.length ≤ 100000 ∧ ∀ t ∈ o.txs, t.ins.length ≤ 100000 ∧ t.outs.length ≤ 100000) := ⟨by have := HMo.out.1; omega, by have := HMo.out.2.1; omega, fun t ht => by have := HMo.out.2.2 t ht; omega⟩
      have Hbel : Hid (Below wM.heap.size wM wr) := HB.out.bel
      clear hown hbd hmx hmo ho HB hlt hk
      go_wp2_with (first
        | ((with_reducible show wpList _ _ _ (⟨some 59, _, _, _, _, _⟩ :: _) _ _); refine wpList_load_mid rfl 30 (.tmp 5) rfl wM.heap.size 0 rfl (bkC o) _ (blkR HOw.out.blk) Try.underlying30 rfl (HZl.out o HOw.out.ok.h.f) ?_)
        | (go_at_call 6; refine (bcopy_any wr o HOw.out.ok HMc.out).mono ?_; unfold BCopyPost; rintro e w10 ⟨c, rfl, hcd, hck, hco, hb⟩; have Dc := Lib.hid (hcd.trans HBd.out); have Kc := Lib.hid hck; have Oc := Lib.hid hco; have V10 : Hid (Below wr.heap.size wr w10) := hb; have Fc := Lib.hid hck.h.f; clear hcd hck hco hb)
        | ((with_reducible show wpList _ _ _ (⟨none, .store 30 (.tmp 7) _, _, _, _, _⟩ :: _) _ _); (show wpList _ _ _ _ _ (w10.alloc (.cells (bkC noBk).toArray 30))); refine wpList_store_all rfl 30 (.tmp 7) (.tmp 60) rfl w10.heap.size 30 (bkC noBk).toArray (bkC c).toArray rfl rfl (heap_alloc_new w10 _) (by rw [NZ.out c Fc.out]; rfl) (HZl'.out c Fc.out) (bkC_one c) ?_; intro w11 h5 h6 h7; have B11 := Lib.hid h5; have X11 : Hid (Below w10.heap.size w10 w11) := belowFresh h6; have V11 : Hid (Below wr.heap.size wr w11) := nxTr V10.out X11.out; have CK := Lib.hid (Kc.out.later X11.out); clear h5 h6 h7))
      have HTn := Lib.hid (ownB_turn HOw.out)
      have HTd : Hid (Turned (SoftB o) (HardB o wM.heap.size) (fun j => wM.heap.size ≤ j ∧ j < wr.heap.size) w11 w11) := (ownB_turned HOw.out).move HTn.out (Nat.le_refl _) V11.out
      have L10 : Hid (wr.heap.size ≤ w10.heap.size) := V10.out.size
      have hp600 : o.h.p.ps.length ≤ 600 := HMo.out.1
      have ht40 : o.txs.length ≤ 40 := HMo.out.2.1
      have V0r : Hid (Below W0.heap.size W0 w11) := nxTr (nxTr VM.out Hbel.out) V11.out
      have LMW : Hid (W0.heap.size ≤ wM.heap.size) := VM.out.size
      clear cA hzv V10 Kc V11
      obtain ⟨wc, hwc⟩ : ∃ q : World, q = wr := ⟨_, rfl⟩
      subst hwc
      go_loopw [8] (fun iv wr => ∃ i : Nat, i ≤ o.h.p.ps.length ∧ iv = .int .i64 i ∧ Hid (Turned (SoftB o) (HardB o wM.heap.size) (fun j => wM.heap.size ≤ j ∧ j < wc.heap.size) w11 wr)) (fun iv _ => o.h.p.ps.length - (intOf iv).toNat)
      case atStart => exact ⟨0, by omega, rfl, HTd.out⟩
      case round =>
        clear HTd
        obtain ⟨i, hi, rfl, HTd⟩ := hrel
        have hc0 : wr.cell? ⟨wM.heap.size, 0, none⟩ = some (.slice o.h.A o.h.p.ps.length o.h.c) := HTd.out.hard wM.heap.size 0 _ (.inl ⟨rfl, .inl ⟨rfl, rfl⟩⟩)
        by_cases hil : i < o.h.p.ps.length
        · have hin : (i : Int) < (o.h.p.ps.length : Int) := by omega
          obtain ⟨g1, hgA, hgP⟩ := ownB_par HOw.out hil
          have hTq : Turned (SoftB o) (HardB o wM.heap.size) (fun j => wM.heap.size ≤ j ∧ j < wc.heap.size) w11 wr.drew := ⟨HTd.out.soft, HTd.out.hard, ⟨HTd.out.keeps.os, HTd.out.keeps.tape, HTd.out.keeps.output, HTd.out.keeps.size, HTd.out.keeps.block⟩⟩
          obtain ⟨⟨z, hz⟩, hzf⟩ := hTq.soft g1 (i * 32) .u8 hgP
          have hset := fun y : Int => hTq.set HTn.out hgP y
          have HSet := Lib.hid hset
          rw [hgA] at hc0
          clear hgA hgP hset hTq
          go_wp2_with fail
          refine wp_region_K (fun W => W.cell? ⟨wM.heap.size, 0, none⟩ = some (.slice (some ⟨g1, 0, none⟩) o.h.p.ps.length o.h.c) ∧ W.cell? ⟨g1, i * 32, none⟩ = some (.int .u8 z)) 10 (by kernel_rfl) ⟨hc0, hz⟩ (fun hSn => ?_)
          refine wpAnyK_pure (i := 0) (oi := ⟨_, _, _, _, _, _⟩) (v := ?_) rfl (by kernel_rfl) (by kernel_rfl) (by kernel_rfl) rfl (fun _ _ _ h => h) (Or.inl ⟨by rfl, ?_⟩) hSn ?_
          rotate_left 1
          · intro W hSw
            go_simp
            try with_reducible rfl
          replace hSn := (KT.set (i := 0) (by decide)).2 hSn
          try simp only [Act.put, List.setIfInBounds_toArray, List.set_cons_zero, List.set_cons_succ]
          refine wpAnyK_pure (i := 1) (oi := ⟨_, _, _, _, _, _⟩) (v := ?_) rfl (by kernel_rfl) (by kernel_rfl) (by kernel_rfl) rfl (fun _ _ _ h => h) (Or.inl ⟨by rfl, ?_⟩) hSn ?_
          rotate_left 1
          · intro W hSw
            go_simp
            try with_reducible rfl
          replace hSn := (KT.set (i := 1) (by decide)).2 hSn
          try simp only [Act.put, List.setIfInBounds_toArray, List.set_cons_zero, List.set_cons_succ]
          refine wpAnyK_chain (i := 2) [10] (oi := ⟨_, _, _, _, _, _⟩) (v := ?_) rfl (by kernel_rfl) (by kernel_rfl) (by kernel_rfl) rfl (by kernel_rfl) (by kernel_rfl) (by kernel_rfl) (fun _ _ _ h => h) (Or.inl ⟨by rfl, ?_⟩) hSn ?_
          rotate_left 1
          · intro W hSw
            try dsimp only at hSw
            obtain ⟨hs1, hs2⟩ := hSw
            go_simp
            try with_reducible rfl
          replace hSn := (KT.set (i := 2) (by decide)).2 hSn
          try simp only [Act.put, List.setIfInBounds_toArray, List.set_cons_zero, List.set_cons_succ]
          refine wpAnyK_pure (i := 3) (oi := ⟨_, _, _, _, _, _⟩) (v := ?_) rfl (by kernel_rfl) (by kernel_rfl) (by kernel_rfl) rfl (fun _ _ _ h => h) (Or.inl ⟨by rfl, ?_⟩) hSn ?_
          rotate_left 1
          · intro W hSw
            go_simp
            try with_reducible rfl
          replace hSn := (KT.set (i := 3) (by decide)).2 hSn
          try simp only [Act.put, List.setIfInBounds_toArray, List.set_cons_zero, List.set_cons_succ]
          refine wpAnyK_pure (i := 4) (oi := ⟨_, _, _, _, _, _⟩) (v := ?_) rfl (by kernel_rfl) (by kernel_rfl) (by kernel_rfl) rfl (fun _ _ _ h => h) (Or.inl ⟨by rfl, ?_⟩) hSn ?_
          rotate_left 1
          · intro W hSw
            go_simp
            try with_reducible rfl
          replace hSn := (KT.set (i := 4) (by decide)).2 hSn
          try simp only [Act.put, List.setIfInBounds_toArray, List.set_cons_zero, List.set_cons_succ]
          refine wpAnyK_pure (i := 5) (oi := ⟨_, _, _, _, _, _⟩) (v := ?_) rfl (by kernel_rfl) (by kernel_rfl) (by kernel_rfl) rfl (fun _ _ _ h => h) (Or.inl ⟨by rfl, ?_⟩) hSn ?_
          rotate_left 1
          · intro W hSw
            go_simp
            try with_reducible rfl
          replace hSn := (KT.set (i := 5) (by decide)).2 hSn
          try simp only [Act.put, List.setIfInBounds_toArray, List.set_cons_zero, List.set_cons_succ]
          refine wpAnyK_chain (i := 6) [10] (oi := ⟨_, _, _, _, _, _⟩) (v := ?_) rfl (by kernel_rfl) (by kernel_rfl) (by kernel_rfl) rfl (by kernel_rfl) (by kernel_rfl) (by kernel_rfl) (fun _ _ _ h => h) (Or.inl ⟨by rfl, ?_⟩) hSn ?_
          rotate_left 1
          · intro W hSw
            try dsimp only at hSw
            obtain ⟨hs1, hs2⟩ := hSw
            go_simp
            try with_reducible rfl
          replace hSn := (KT.set (i := 6) (by decide)).2 hSn
          try simp only [Act.put, List.setIfInBounds_toArray, List.set_cons_zero, List.set_cons_succ]
          refine wpAnyK_pure (i := 7) (oi := ⟨_, _, _, _, _, _⟩) (v := ?_) rfl (by kernel_rfl) (by kernel_rfl) (by kernel_rfl) rfl (fun _ _ _ h => h) (Or.inl ⟨by rfl, ?_⟩) hSn ?_
          rotate_left 1
          · intro W hSw
            go_simp
            try with_reducible rfl
          replace hSn := (KT.set (i := 7) (by decide)).2 hSn
          try simp only [Act.put, List.setIfInBounds_toArray, List.set_cons_zero, List.set_cons_succ]
          refine wpAnyK_pure (i := 8) (oi := ⟨_, _, _, _, _, _⟩) (v := ?_) rfl (by kernel_rfl) (by kernel_rfl) (by kernel_rfl) rfl (fun _ _ _ h => h) (Or.inl ⟨by rfl, ?_⟩) hSn ?_
          rotate_left 1
          · intro W hSw
            go_simp
            try with_reducible rfl
          replace hSn := (KT.set (i := 8) (by decide)).2 hSn
          try simp only [Act.put, List.setIfInBounds_toArray, List.set_cons_zero, List.set_cons_succ]
          refine wpAnyK_pure (i := 9) (oi := ⟨_, _, _, _, _, _⟩) (v := ?_) rfl (by kernel_rfl) (by kernel_rfl) (by kernel_rfl) rfl (fun _ _ _ h => h) (Or.inl ⟨by rfl, ?_⟩) hSn ?_
          rotate_left 1
          · intro W hSw
            go_simp
            try with_reducible rfl
          replace hSn := (KT.set (i := 9) (by decide)).2 hSn
          try simp only [Act.put, List.setIfInBounds_toArray, List.set_cons_zero, List.set_cons_succ]
          clear hSn
          refine wpAnyK_ready (rs := [10]) (by kernel_rfl) (by simp) ?_
          refine AllReadyK.cons rfl (fun K hK => ?_) AllReadyK.nil
          go_simp
          skip
          refine hK.out _ _ (fun h => absurd h (by decide +kernel)) (fun hSn => ?_)
          clear hK K
          try simp only [Act.put, List.setIfInBounds_toArray, List.set_cons_zero, List.set_cons_succ]
          refine wpAnyK_done (by kernel_rfl) ?_ _
          go_wp2_with fail
          go_roundw
          case rel => exact ⟨i + 1, by omega, by go_num, HSet.out _⟩
          case measure => simp [intOf] <;> omega
        · obtain rfl : i = o.h.p.ps.length := by omega
          go_wp2_with fail
          clear hc0
          go_loopw [9] (fun iv wr => ∃ i : Nat, i ≤ o.txs.length ∧ iv = .int .i64 i ∧ Hid (Turned (SoftB o) (HardB o wM.heap.size) (fun j => wM.heap.size ≤ j ∧ j < wc.heap.size) w11 wr)) (fun iv _ => o.txs.length - (intOf iv).toNat)
          case atStart => exact ⟨0, by omega, rfl, HTd.out⟩
          case round =>
            clear HTd
            obtain ⟨i, hi, rfl, HTd⟩ := hrel
            have hc0 : wr.cell? ⟨wM.heap.size, 130, none⟩ = some (.slice o.B o.txs.length o.d) := HTd.out.hard wM.heap.size 130 _ (.inl ⟨rfl, .inr ⟨rfl, rfl⟩⟩)
            by_cases hil : i < o.txs.length
            · have hin : (i : Int) < (o.txs.length : Int) := by omega
              obtain ⟨g2, hgB, hF0, hF1, hP2⟩ := ownB_tx HOw.out hil
              have HgB := Lib.hid hgB
              have HF0 := Lib.hid hF0
              have HF1 := Lib.hid hF1
              have HP2 := Lib.hid hP2
              have hmem := Lib.hid (List.getElem_mem hil)
              have hbd := HMo.out.2.2 _ (List.getElem_mem hil)
              obtain ⟨v, hv⟩ : ∃ v, o.txs[i] = v := ⟨_, rfl⟩
              rw [hv] at HF0 HF1 hmem hbd
              rw [hgB] at hc0
              have hbi := hbd.1
              have hbo := hbd.2
              clear hgB hF0 hF1 hP2 hv hbd
              go_wp2_with fail
              go_loopw [10] (fun kv wr => ∃ k : Nat, k ≤ v.ins.length ∧ kv = .int .i64 k ∧ Hid (Turned (SoftB o) (HardB o wM.heap.size) (fun j => wM.heap.size ≤ j ∧ j < wc.heap.size) w11 wr)) (fun kv _ => v.ins.length - (intOf kv).toNat)
              case atStart => exact ⟨0, by omega, rfl, HTd.out⟩
              case round =>
                clear HTd hc0
                obtain ⟨k, hk, rfl, HTd⟩ := hrel
                have hc0 : wr.cell? ⟨wM.heap.size, 130, none⟩ = some (.slice (some ⟨g2, 0, none⟩) o.txs.length o.d) := by have h := HTd.out.hard wM.heap.size 130 _ (.inl ⟨rfl, .inr ⟨rfl, rfl⟩⟩); rw [HgB.out] at h; exact h
                have hc1 : wr.cell? ⟨g2, i * 3, none⟩ = some (.slice v.A v.ins.length v.c) := HTd.out.hard g2 _ _ HF0.out
                by_cases hkl : k < v.ins.length
                · have hkn : (k : Int) < (v.ins.length : Int) := by omega
                  obtain ⟨g3, hA3, hP3⟩ := ownB_in HOw.out hmem.out hkl
                  obtain ⟨⟨z, hz⟩, hzf⟩ := HTd.out.soft g3 (k * 34 + 32) .u32 hP3
                  have hset := fun y : Int => HTd.out.set HTn.out hP3 y
                  have HSet := Lib.hid hset
                  rw [hA3] at hc1
                  clear hA3 hP3 hset
                  go_wp2_with fail
                  go_roundw
                  case rel => exact ⟨k + 1, by omega, by go_num, HSet.out _⟩
                  case measure => simp [intOf] <;> omega
                · obtain rfl : k = v.ins.length := by omega
                  go_wp2_with fail
                  clear hc0 hc1
                  go_loopw [11] (fun kv wr => ∃ k : Nat, k ≤ v.outs.length ∧ kv = .int .i64 k ∧ Hid (Turned (SoftB o) (HardB o wM.heap.size) (fun j => wM.heap.size ≤ j ∧ j < wc.heap.size) w11 wr)) (fun kv _ => v.outs.length - (intOf kv).toNat)
                  case atStart => exact ⟨0, by omega, rfl, HTd.out⟩
                  case round =>
                    clear HTd
                    obtain ⟨k, hk, rfl, HTd⟩ := hrel
                    have hc0 : wr.cell? ⟨wM.heap.size, 130, none⟩ = some (.slice (some ⟨g2, 0, none⟩) o.txs.length o.d) := by have h := HTd.out.hard wM.heap.size 130 _ (.inl ⟨rfl, .inr ⟨rfl, rfl⟩⟩); rw [HgB.out] at h; exact h
                    have hc1 : wr.cell? ⟨g2, i * 3 + 1, none⟩ = some (.slice v.B v.outs.length v.d) := HTd.out.hard g2 _ _ HF1.out
                    by_cases hkl : k < v.outs.length
                    · have hkn : (k : Int) < (v.outs.length : Int) := by omega
                      obtain ⟨g3, hA3, hP3⟩ := ownB_out HOw.out hmem.out hkl
                      obtain ⟨⟨z, hz⟩, hzf⟩ := HTd.out.soft g3 (k * 33) .u64 hP3
                      have hset := fun y : Int => HTd.out.set HTn.out hP3 y
                      have HSet := Lib.hid hset
                      rw [hA3] at hc1
                      clear hA3 hP3 hset
                      go_wp2_with fail
                      go_roundw
                      case rel => exact ⟨k + 1, by omega, by go_num, HSet.out _⟩
                      case measure => simp [intOf] <;> omega
                    · obtain rfl : k = v.outs.length := by omega
                      obtain ⟨⟨z, hz⟩, hzf⟩ := HTd.out.soft g2 (i * 3 + 2) .u64 HP2.out
                      have hset := fun y : Int => HTd.out.set HTn.out HP2.out y
                      have HSet := Lib.hid hset
                      clear hset
                      go_wp2_with fail
                      go_roundw
                      case rel => exact ⟨i + 1, by omega, by go_num, HSet.out _⟩
                      case measure => simp [intOf] <;> omega
            · obtain rfl : i = o.txs.length := by omega
              go_wp2_with fail
              clear hc0
              have Kf := HTd.out.keeps
              have hVf : Below W0.heap.size W0 wr := V0r.out.trans (Kf.below V0r.out.size (fun j hj hS => by have := hS.1; have := LMW.out; omega))
              have hCf : BkOk wr c := CK.out.keepsS Kf (Oc.out.mono (fun j hj => hj.2))
              have hBc : Blk wr w10.heap.size 30 (bkC c).toArray := B11.out.of_eq (Kf.block _ B11.out.lt (fun hS => by have := hS.2; have := L10.out; omega))
              have V0f : Hid (Below W0.heap.size W0 wr.drew) := nxDrI hVf
              have CKf : Hid (BkOk wr.drew c) := hCf.later (nxDrI (nxRf wr))
              have RC : Hid (wr.drew.rangeAt w10.heap.size 0 (bkC c)) := blkR (vs := bkC c) hBc
              have LA : Hid (w.heap.size < W0.heap.size) := Ba.out.lt
              have LB : Hid (w.heap.size + 1 < W0.heap.size) := Bb.out.lt
              have RA : Hid (W0.rangeAt w.heap.size 0 (bkC a)) := blkR Ba.out
              have RB : Hid (W0.rangeAt (w.heap.size + 1) 0 (bkC b)) := blkR Bb.out
              obtain ⟨r, hr⟩ : ∃ r : Bool, (r = true ↔ bkD a = bkD b) := by classical exact ⟨decide (bkD a = bkD b), by simp⟩
              have HRb := Lib.hid hr
              obtain ⟨rp, hrp⟩ : ∃ r, decide (a.h.p = b.h.p) = r := ⟨_, rfl⟩
              have HRp := Lib.hid hrp
              clear Kf hVf hCf hBc hr hrp HTd HTn HOw Oc CK B11
              refine wp_region_held_drew (S := fun W => W.rangeAt w10.heap.size 0 (bkC c) ∧ W.rangeAt w.heap.size 0 (bkC a) ∧ W.rangeAt (w.heap.size + 1) 0 (bkC b)) (by kernel_rfl) ⟨RC.out, rngB RA.out V0f.out LA.out, rngB RB.out V0f.out LB.out⟩ (fun hHeld => ?_)
              refine wpAnyH_take (i := 0) (oi := ⟨_, _, _, _, _, _⟩) (v := .agg (bkC c).toArray) rfl (by kernel_rfl) (by kernel_rfl) (by kernel_rfl) (fun _ _ _ h => h) (yieldsIf_load_mid (by rfl) 30 (.tmp 7) rfl w10.heap.size 0 rfl (bkC c) _ (fun W h => h.1) Try.underlying30 rfl (HZl.out c Fc.out)) (by assumption) ?_
              try simp only [Act.put, List.setIfInBounds_toArray, List.set_cons_zero, List.set_cons_succ]
              refine wpAnyH_take (i := 1) (oi := ⟨_, _, _, _, _, _⟩) (v := .agg (bkC a).toArray) rfl (by kernel_rfl) (by kernel_rfl) (by kernel_rfl) (fun _ _ _ h => h) (yieldsIf_load_mid (by rfl) 30 (.tmp 2) rfl w.heap.size 0 rfl (bkC a) _ (fun W h => h.2.1) Try.underlying30 rfl (HZl.out a fA.out)) (by assumption) ?_
              try simp only [Act.put, List.setIfInBounds_toArray, List.set_cons_zero, List.set_cons_succ]
              refine wpAnyH_ready (rs := [2]) (by kernel_rfl) (by simp) ?_
              refine AllReadyH.cons rfl (fun K hK => ?_) AllReadyH.nil
              go_simp
              go_at_call 7
              refine (rsame6_any wr.drew c a CKf.out (KA.out.later V0f.out)).mono ?_
              unfold BSame
              rintro e f1 ⟨z, rfl, hz, hb⟩
              obtain rfl : z = true := hz.2 (Dc.out)
              clear hz
              have U1 : Hid (Below W0.heap.size W0 f1) := nxTr V0f.out hb
              have N1 : Hid (Below wr.drew.heap.size wr.drew f1) := hb
              clear hb
              refine hK.out _ _ ⟨rngL N1.out RC.out, rngB RA.out U1.out LA.out, rngB RB.out U1.out LB.out⟩ (fun hSn => ?_)
              clear hK K
              try simp only [Act.put, List.setIfInBounds_toArray, List.set_cons_zero, List.set_cons_succ]
              refine wpAnyH_take (i := 3) (oi := ⟨_, _, _, _, _, _⟩) (v := ?_) rfl (by kernel_rfl) (by kernel_rfl) (by kernel_rfl) (fun _ _ _ h => h) (Or.inl ⟨by rfl, ?_⟩) (by assumption) ?_
              rotate_left 1
              · intro W hSw
                try dsimp only at hSw
                obtain ⟨hs1, hs2, hs3⟩ := hSw
                go_simp
                try with_reducible rfl
              try simp only [Act.put, List.setIfInBounds_toArray, List.set_cons_zero, List.set_cons_succ]
              refine wpAnyH_take (i := 4) (oi := ⟨_, _, _, _, _, _⟩) (v := .agg (bkC a).toArray) rfl (by kernel_rfl) (by kernel_rfl) (by kernel_rfl) (fun _ _ _ h => h) (yieldsIf_load_mid (by rfl) 30 (.tmp 2) rfl w.heap.size 0 rfl (bkC a) _ (fun W h => h.2.1) Try.underlying30 rfl (HZl.out a fA.out)) (by assumption) ?_
              try simp only [Act.put, List.setIfInBounds_toArray, List.set_cons_zero, List.set_cons_succ]
              refine wpAnyH_take (i := 5) (oi := ⟨_, _, _, _, _, _⟩) (v := .agg (bkC b).toArray) rfl (by kernel_rfl) (by kernel_rfl) (by kernel_rfl) (fun _ _ _ h => h) (yieldsIf_load_mid (by rfl) 30 (.tmp 3) rfl (w.heap.size + 1) 0 rfl (bkC b) _ (fun W h => h.2.2) Try.underlying30 rfl (HZl.out b fB.out)) (by assumption) ?_
              try simp only [Act.put, List.setIfInBounds_toArray, List.set_cons_zero, List.set_cons_succ]
              refine wpAnyH_take (i := 7) (oi := ⟨_, _, _, _, _, _⟩) (v := .agg (bkC a).toArray) rfl (by kernel_rfl) (by kernel_rfl) (by kernel_rfl) (fun _ _ _ h => h) (yieldsIf_load_mid (by rfl) 30 (.tmp 2) rfl w.heap.size 0 rfl (bkC a) _ (fun W h => h.2.1) Try.underlying30 rfl (HZl.out a fA.out)) (by assumption) ?_
              try simp only [Act.put, List.setIfInBounds_toArray, List.set_cons_zero, List.set_cons_succ]
              refine wpAnyH_take (i := 8) (oi := ⟨_, _, _, _, _, _⟩) (v := .agg (bkC b).toArray) rfl (by kernel_rfl) (by kernel_rfl) (by kernel_rfl) (fun _ _ _ h => h) (yieldsIf_load_mid (by rfl) 30 (.tmp 3) rfl (w.heap.size + 1) 0 rfl (bkC b) _ (fun W h => h.2.2) Try.underlying30 rfl (HZl.out b fB.out)) (by assumption) ?_
              try simp only [Act.put, List.setIfInBounds_toArray, List.set_cons_zero, List.set_cons_succ]
              refine wpAnyH_ready (rs := [6]) (by kernel_rfl) (by simp) ?_
              refine AllReadyH.cons rfl (fun K hK => ?_) AllReadyH.nil
              go_simp
              go_at_call 8
              refine (psame_any f1 a b (KA.out.later U1.out) (KB.out.later U1.out)).mono ?_
              unfold BSameP
              rintro e f2 ⟨z, rfl, hz, hb⟩
              obtain rfl : z = r := Bool.eq_iff_iff.2 (hz.trans HRb.out.symm)
              clear hz
              have U2 : Hid (Below W0.heap.size W0 f2) := nxTr U1.out hb
              have N2 : Hid (Below wr.drew.heap.size wr.drew f2) := nxTr N1.out hb
              clear hb
              refine hK.out _ _ ⟨rngL N2.out RC.out, rngB RA.out U2.out LA.out, rngB RB.out U2.out LB.out⟩ (fun hSn => ?_)
              clear hK K
              try simp only [Act.put, List.setIfInBounds_toArray, List.set_cons_zero, List.set_cons_succ]
              refine wpAnyH_ready (rs := [9]) (by kernel_rfl) (by simp) ?_
              refine AllReadyH.cons rfl (fun K hK => ?_) AllReadyH.nil
              go_simp
              go_at_call 7
              refine (rsame6_any f2 a b (KA.out.later U2.out) (KB.out.later U2.out)).mono ?_
              unfold BSame
              rintro e f3 ⟨z2, rfl, hz, hb⟩
              obtain rfl : z2 = z := Bool.eq_iff_iff.2 (hz.trans HRb.out.symm)
              clear hz
              have U3 : Hid (Below W0.heap.size W0 f3) := nxTr U2.out hb
              have N3 : Hid (Below wr.drew.heap.size wr.drew f3) := nxTr N2.out hb
              clear hb
              refine hK.out _ _ ⟨rngL N3.out RC.out, rngB RA.out U3.out LA.out, rngB RB.out U3.out LB.out⟩ (fun hSn => ?_)
              clear hK K
              try simp only [Act.put, List.setIfInBounds_toArray, List.set_cons_zero, List.set_cons_succ]
              refine wpAnyH_take (i := 10) (oi := ⟨_, _, _, _, _, _⟩) (v := .bool true) rfl (by kernel_rfl) (by kernel_rfl) (by kernel_rfl) (fun _ _ _ h => h) (Or.inl ⟨by rfl, ?_⟩) (by assumption) ?_
              · intro W hSw
                try dsimp only at hSw
                go_simp
                try rfl
              try simp only [Act.put, List.setIfInBounds_toArray, List.set_cons_zero, List.set_cons_succ]
              refine wpAnyH_take (i := 11) (oi := ⟨_, _, _, _, _, _⟩) (v := ?_) rfl (by kernel_rfl) (by kernel_rfl) (by kernel_rfl) (fun _ _ _ h => h) (Or.inl ⟨by rfl, ?_⟩) (by assumption) ?_
              rotate_left 1
              · intro W hSw
                try dsimp only at hSw
                obtain ⟨hs1, hs2, hs3⟩ := hSw
                go_simp
                try with_reducible rfl
              try simp only [Act.put, List.setIfInBounds_toArray, List.set_cons_zero, List.set_cons_succ]
              refine wpAnyH_take (i := 12) (oi := ⟨_, _, _, _, _, _⟩) (v := ?_) rfl (by kernel_rfl) (by kernel_rfl) (by kernel_rfl) (fun _ _ _ h => h) (Or.inl ⟨by rfl, ?_⟩) (by assumption) ?_
              rotate_left 1
              · intro W hSw
                try dsimp only at hSw
                obtain ⟨hs1, hs2, hs3⟩ := hSw
                go_simp
                try with_reducible rfl
              try simp only [Act.put, List.setIfInBounds_toArray, List.set_cons_zero, List.set_cons_succ]
              refine wpAnyH_take (i := 13) (oi := ⟨_, _, _, _, _, _⟩) (v := ?_) rfl (by kernel_rfl) (by kernel_rfl) (by kernel_rfl) (fun _ _ _ h => h) (Or.inl ⟨by rfl, ?_⟩) (by assumption) ?_
              rotate_left 1
              · intro W hSw
                try dsimp only at hSw
                obtain ⟨hs1, hs2, hs3⟩ := hSw
                go_simp
                try with_reducible rfl
              try simp only [Act.put, List.setIfInBounds_toArray, List.set_cons_zero, List.set_cons_succ]
              refine wpAnyH_take (i := 14) (oi := ⟨_, _, _, _, _, _⟩) (v := .agg (hdC a.h).toArray) rfl (by kernel_rfl) (by kernel_rfl) (by kernel_rfl) (fun _ _ _ h => h) (yieldsIf_load_mid (by rfl) 27 (.tmp 158) rfl w.heap.size 0 rfl (hdC a.h) _ (fun W h => (BkRow.of h.2.1 fA.out).r) Try.underlying27 rfl (HZh.out a.h fA.out)) (by assumption) ?_
              try simp only [Act.put, List.setIfInBounds_toArray, List.set_cons_zero, List.set_cons_succ]
              refine wpAnyH_take (i := 15) (oi := ⟨_, _, _, _, _, _⟩) (v := ?_) rfl (by kernel_rfl) (by kernel_rfl) (by kernel_rfl) (fun _ _ _ h => h) (Or.inl ⟨by rfl, ?_⟩) (by assumption) ?_
              rotate_left 1
              · intro W hSw
                try dsimp only at hSw
                obtain ⟨hs1, hs2, hs3⟩ := hSw
                go_simp
                try with_reducible rfl
              try simp only [Act.put, List.setIfInBounds_toArray, List.set_cons_zero, List.set_cons_succ]
              refine wpAnyH_take (i := 16) (oi := ⟨_, _, _, _, _, _⟩) (v := .agg (hdC b.h).toArray) rfl (by kernel_rfl) (by kernel_rfl) (by kernel_rfl) (fun _ _ _ h => h) (yieldsIf_load_mid (by rfl) 27 (.tmp 160) rfl (w.heap.size + 1) 0 rfl (hdC b.h) _ (fun W h => (BkRow.of h.2.2 fB.out).r) Try.underlying27 rfl (HZh.out b.h fB.out)) (by assumption) ?_
              try simp only [Act.put, List.setIfInBounds_toArray, List.set_cons_zero, List.set_cons_succ]
              refine wpAnyH_take (i := 18) (oi := ⟨_, _, _, _, _, _⟩) (v := ?_) rfl (by kernel_rfl) (by kernel_rfl) (by kernel_rfl) (fun _ _ _ h => h) (Or.inl ⟨by rfl, ?_⟩) (by assumption) ?_
              rotate_left 1
              · intro W hSw
                try dsimp only at hSw
                obtain ⟨hs1, hs2, hs3⟩ := hSw
                go_simp
                try with_reducible rfl
              try simp only [Act.put, List.setIfInBounds_toArray, List.set_cons_zero, List.set_cons_succ]
              refine wpAnyH_take (i := 19) (oi := ⟨_, _, _, _, _, _⟩) (v := .agg (hdC a.h).toArray) rfl (by kernel_rfl) (by kernel_rfl) (by kernel_rfl) (fun _ _ _ h => h) (yieldsIf_load_mid (by rfl) 27 (.tmp 163) rfl w.heap.size 0 rfl (hdC a.h) _ (fun W h => (BkRow.of h.2.1 fA.out).r) Try.underlying27 rfl (HZh.out a.h fA.out)) (by assumption) ?_
              try simp only [Act.put, List.setIfInBounds_toArray, List.set_cons_zero, List.set_cons_succ]
              refine wpAnyH_take (i := 20) (oi := ⟨_, _, _, _, _, _⟩) (v := ?_) rfl (by kernel_rfl) (by kernel_rfl) (by kernel_rfl) (fun _ _ _ h => h) (Or.inl ⟨by rfl, ?_⟩) (by assumption) ?_
              rotate_left 1
              · intro W hSw
                try dsimp only at hSw
                obtain ⟨hs1, hs2, hs3⟩ := hSw
                go_simp
                try with_reducible rfl
              try simp only [Act.put, List.setIfInBounds_toArray, List.set_cons_zero, List.set_cons_succ]
              refine wpAnyH_take (i := 21) (oi := ⟨_, _, _, _, _, _⟩) (v := .agg (hdC b.h).toArray) rfl (by kernel_rfl) (by kernel_rfl) (by kernel_rfl) (fun _ _ _ h => h) (yieldsIf_load_mid (by rfl) 27 (.tmp 165) rfl (w.heap.size + 1) 0 rfl (hdC b.h) _ (fun W h => (BkRow.of h.2.2 fB.out).r) Try.underlying27 rfl (HZh.out b.h fB.out)) (by assumption) ?_
              try simp only [Act.put, List.setIfInBounds_toArray, List.set_cons_zero, List.set_cons_succ]
              refine wpAnyH_ready (rs := [17]) (by kernel_rfl) (by simp) ?_
              refine AllReadyH.cons rfl (fun K hK => ?_) AllReadyH.nil
              go_simp
              go_at_call 9
              refine (psameh_any f3 a.h b.h (KA.out.later U3.out).h (KB.out.later U3.out).h).mono ?_
              unfold SameHPost
              rintro e f4 ⟨z3, rfl, hz, hb⟩
              obtain rfl : z3 = rp := Bool.eq_iff_iff.2 (hz.trans (by rw [← HRp.out]; exact decide_eq_true_iff.symm))
              clear hz
              have U4 : Hid (Below W0.heap.size W0 f4) := nxTr U3.out hb
              have N4 : Hid (Below wr.drew.heap.size wr.drew f4) := nxTr N3.out hb
              clear hb
              refine hK.out _ _ ⟨rngL N4.out RC.out, rngB RA.out U4.out LA.out, rngB RB.out U4.out LB.out⟩ (fun hSn => ?_)
              clear hK K
              try simp only [Act.put, List.setIfInBounds_toArray, List.set_cons_zero, List.set_cons_succ]
              refine wpAnyH_ready (rs := [22]) (by kernel_rfl) (by simp) ?_
              refine AllReadyH.cons rfl (fun K hK => ?_) AllReadyH.nil
              go_simp
              go_at_call 10
              refine (sameh_any f4 a.h b.h (KA.out.later U4.out).h (KB.out.later U4.out).h).mono ?_
              rw [HRp.out]
              rintro e f5 ⟨rfl, hb⟩
              have U5 : Hid (Below W0.heap.size W0 f5) := nxTr U4.out hb
              have N5 : Hid (Below wr.drew.heap.size wr.drew f5) := nxTr N4.out hb
              clear hb
              refine hK.out _ _ ⟨rngL N5.out RC.out, rngB RA.out U5.out LA.out, rngB RB.out U5.out LB.out⟩ (fun hSn => ?_)
              clear hK K
              try simp only [Act.put, List.setIfInBounds_toArray, List.set_cons_zero, List.set_cons_succ]
              refine wpAnyH_take (i := 23) (oi := ⟨_, _, _, _, _, _⟩) (v := .bool true) rfl (by kernel_rfl) (by kernel_rfl) (by kernel_rfl) (fun _ _ _ h => h) (Or.inl ⟨by rfl, ?_⟩) (by assumption) ?_
              · intro W hSw
                try dsimp only at hSw
                go_simp
                try rfl
              try simp only [Act.put, List.setIfInBounds_toArray, List.set_cons_zero, List.set_cons_succ]
              refine wpAnyH_take (i := 24) (oi := ⟨_, _, _, _, _, _⟩) (v := ?_) rfl (by kernel_rfl) (by kernel_rfl) (by kernel_rfl) (fun _ _ _ h => h) (Or.inl ⟨by rfl, ?_⟩) (by assumption) ?_
              rotate_left 1
              · intro W hSw
                try dsimp only at hSw
                obtain ⟨hs1, hs2, hs3⟩ := hSw
                go_simp
                try with_reducible rfl
              try simp only [Act.put, List.setIfInBounds_toArray, List.set_cons_zero, List.set_cons_succ]
              refine wpAnyH_take (i := 25) (oi := ⟨_, _, _, _, _, _⟩) (v := ?_) rfl (by kernel_rfl) (by kernel_rfl) (by kernel_rfl) (fun _ _ _ h => h) (Or.inl ⟨by rfl, ?_⟩) (by assumption) ?_
              rotate_left 1
              · intro W hSw
                try dsimp only at hSw
                obtain ⟨hs1, hs2, hs3⟩ := hSw
                go_simp
                try with_reducible rfl
              try simp only [Act.put, List.setIfInBounds_toArray, List.set_cons_zero, List.set_cons_succ]
              refine wpAnyH_take (i := 26) (oi := ⟨_, _, _, _, _, _⟩) (v := .agg (bkC a).toArray) rfl (by kernel_rfl) (by kernel_rfl) (by kernel_rfl) (fun _ _ _ h => h) (yieldsIf_load_mid (by rfl) 30 (.tmp 2) rfl w.heap.size 0 rfl (bkC a) _ (fun W h => h.2.1) Try.underlying30 rfl (HZl.out a fA.out)) (by assumption) ?_
              try simp only [Act.put, List.setIfInBounds_toArray, List.set_cons_zero, List.set_cons_succ]
              refine wpAnyH_take (i := 27) (oi := ⟨_, _, _, _, _, _⟩) (v := .agg (bkC a).toArray) rfl (by kernel_rfl) (by kernel_rfl) (by kernel_rfl) (fun _ _ _ h => h) (yieldsIf_load_mid (by rfl) 30 (.tmp 2) rfl w.heap.size 0 rfl (bkC a) _ (fun W h => h.2.1) Try.underlying30 rfl (HZl.out a fA.out)) (by assumption) ?_
              try simp only [Act.put, List.setIfInBounds_toArray, List.set_cons_zero, List.set_cons_succ]
              refine wpAnyH_ready (rs := [28]) (by kernel_rfl) (by simp) ?_
              refine AllReadyH.cons rfl (fun K hK => ?_) AllReadyH.nil
              go_simp
              go_at_call 8
              refine (psame_any f5 a a (KA.out.later U5.out) (KA.out.later U5.out)).mono ?_
              unfold BSameP
              rintro e f6 ⟨z, rfl, hz, hb⟩
              obtain rfl : z = true := hz.2 (rfl)
              clear hz
              have U6 : Hid (Below W0.heap.size W0 f6) := nxTr U5.out hb
              have N6 : Hid (Below wr.drew.heap.size wr.drew f6) := nxTr N5.out hb
              clear hb
              refine hK.out _ _ ⟨rngL N6.out RC.out, rngB RA.out U6.out LA.out, rngB RB.out U6.out LB.out⟩ (fun hSn => ?_)
              clear hK K
              try simp only [Act.put, List.setIfInBounds_toArray, List.set_cons_zero, List.set_cons_succ]
              refine wpAnyH_take (i := 29) (oi := ⟨_, _, _, _, _, _⟩) (v := ?_) rfl (by kernel_rfl) (by kernel_rfl) (by kernel_rfl) (fun _ _ _ h => h) (Or.inl ⟨by rfl, ?_⟩) (by assumption) ?_
              rotate_left 1
              · intro W hSw
                try dsimp only at hSw
                obtain ⟨hs1, hs2, hs3⟩ := hSw
                go_simp
                try with_reducible rfl
              try simp only [Act.put, List.setIfInBounds_toArray, List.set_cons_zero, List.set_cons_succ]
              refine wpAnyH_take (i := 30) (oi := ⟨_, _, _, _, _, _⟩) (v := ?_) rfl (by kernel_rfl) (by kernel_rfl) (by kernel_rfl) (fun _ _ _ h => h) (Or.inl ⟨by rfl, ?_⟩) (by assumption) ?_
              rotate_left 1
              · intro W hSw
                try dsimp only at hSw
                obtain ⟨hs1, hs2, hs3⟩ := hSw
                go_simp
                try with_reducible rfl
              try simp only [Act.put, List.setIfInBounds_toArray, List.set_cons_zero, List.set_cons_succ]
              refine wpAnyH_ready (rs := [31]) (by kernel_rfl) (by simp) ?_
              refine AllReadyH.cons rfl (fun K hK => ?_) AllReadyH.nil
              go_simp
              go_at_call 5
              refine (known6_any f6).mono ?_
              rintro e f7 ⟨rfl, hb⟩
              have U7 : Hid (Below W0.heap.size W0 f7) := nxTr U6.out hb
              have N7 : Hid (Below wr.drew.heap.size wr.drew f7) := nxTr N6.out hb
              clear hb
              refine hK.out _ _ ⟨rngL N7.out RC.out, rngB RA.out U7.out LA.out, rngB RB.out U7.out LB.out⟩ (fun hSn => ?_)
              clear hK K
              try simp only [Act.put, List.setIfInBounds_toArray, List.set_cons_zero, List.set_cons_succ]
              refine wpAnyH_take (i := 32) (oi := ⟨_, _, _, _, _, _⟩) (v := ?_) rfl (by kernel_rfl) (by kernel_rfl) (by kernel_rfl) (fun _ _ _ h => h) (Or.inl ⟨by rfl, ?_⟩) (by assumption) ?_
              rotate_left 1
              · intro W hSw
                try dsimp only at hSw
                obtain ⟨hs1, hs2, hs3⟩ := hSw
                go_simp
                try with_reducible rfl
              try simp only [Act.put, List.setIfInBounds_toArray, List.set_cons_zero, List.set_cons_succ]
              refine wpAnyH_take (i := 33) (oi := ⟨_, _, _, _, _, _⟩) (v := ?_) rfl (by kernel_rfl) (by kernel_rfl) (by kernel_rfl) (fun _ _ _ h => h) (Or.inl ⟨by rfl, ?_⟩) (by assumption) ?_
              rotate_left 1
              · intro W hSw
                try dsimp only at hSw
                obtain ⟨hs1, hs2, hs3⟩ := hSw
                go_simp
                try with_reducible rfl
              try simp only [Act.put, List.setIfInBounds_toArray, List.set_cons_zero, List.set_cons_succ]
              refine wpAnyH_done (by kernel_rfl) ?_ _
              go_wp2
              go_ret
              exact ⟨rfl, nxTr Hb0.out U7.out⟩
end Go.Proofs.Ytjcbihdhkaiidaa
