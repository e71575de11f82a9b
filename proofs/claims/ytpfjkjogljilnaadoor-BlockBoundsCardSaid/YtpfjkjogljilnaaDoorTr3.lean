/-
  tx: the program's Of.
-/
import Derived.Test.YtpfjkjogljilnaaDoorTr1
import Derived.Test.YtpfjkjogljilnaaDoorPBbQ5
namespace Go.Proofs.YtpfjkjogljilnaaDoor
open Go.RowKit

/-- What Of answers. -/
def OfPost (w : World) (b : List UInt8) (e : Ending) (w' : World) : Prop :=
  ∃ t : TxR, e = .returned (.tuple #[.agg (txC t).toArray, .int .i64 (bif ofB b then 0 else 4)]) ∧ txP t = ofV b ∧ TxOk w' t ∧ Below w.heap.size w w'
def noT : TxR := ⟨none, 0, [], none, 0, [], 0⟩
/-- .. and what it answers lies in new memory: whatever is done to the old, it stays. -/
def OfPostK (w : World) (b : List UInt8) (e : Ending) (w' : World) : Prop :=
  ∃ t : TxR, e = .returned (.tuple #[.agg (txC t).toArray, .int .i64 (bif ofB b then 0 else 4)]) ∧ txP t = ofV b ∧ TxOk w' t ∧ Below w.heap.size w w' ∧ Kept (fun j => j < w.heap.size) w' (fun W => TxOk W t)
theorem noT_ok (w : World) : TxOk w noT where
  ins := .inl rfl
  each := fun i hi => by cases hi
  outs := .inl rfl
  eacho := fun o ho => by cases ho
  c := Nat.le_refl _
  d := Nat.le_refl _
  nonce := by decide
  mi := by decide
  mo := by decide
theorem txC_one (t : TxR) : ∀ v ∈ (txC t).toArray.toList, v.oneCell' = true := by
  intro v hv
  simp [txC] at hv
  rcases hv with rfl | rfl | rfl <;> rfl
theorem kept_below {g bt : Nat} {A : Option Addr} {n : Nat} {w w' W : World} (h : Below n W w) (k : Keeps (Stored g bt A) w w') (hn : n ≤ w.heap.size) (hg : n ≤ g) (hb : n ≤ bt) (hA : ∀ j, A.map (·.block) = some j → n ≤ j) : Below n W w' :=
  h.trans (k.below hn (fun j hj h' => by rcases h' with rfl | rfl | h'; omega; omega; have := hA j h'; omega))

set_option maxHeartbeats 4000000 in
set_option maxRecDepth 100000 in
theorem of_anyK (w : World) (Bx : Nat) (A : Option Addr) (b : List UInt8) (c : Nat) (hS : Sees w Bx A b) (hlen : b.length ≤ 1099511627776) :
    Calls Tryd.prog 42 #[.slice A b.length c] w (OfPostK w b) := by
  have HS0 := Lib.hid (show Sees ((w.alloc (.cells txZ 40)).alloc (.cells txZ 40)) Bx A b from (hS.alloc _).alloc _)
  have HBz := Lib.hid (show Blk ((w.alloc (.cells txZ 40)).alloc (.cells txZ 40)) w.heap.size 40 txZ from (show Blk (w.alloc (.cells txZ 40)) _ _ _ from heap_alloc_new w _).alloc _)
  have HBt := Lib.hid (show Blk ((w.alloc (.cells txZ 40)).alloc (.cells txZ 40)) (w.heap.size + 1) 40 txZ from Blk.second w _ _ _)
  have Hb0 := Lib.hid (show Below w.heap.size w ((w.alloc (.cells txZ 40)).alloc (.cells txZ 40)) from nxAl (nxAl (nxRf w) _) _)
  have Hs0 : Hid (w.heap.size + 2 = ((w.alloc (.cells txZ 40)).alloc (.cells txZ 40)).heap.size) := by show _ = _; simp
  have HL := Lib.hid hlen
  obtain ⟨c1, hc1⟩ : ∃ n, ofLe (cutPiece (some b) 2 true) = n := ⟨_, rfl⟩
  obtain ⟨s1, hs1⟩ : ∃ s, cutRest (some b) 2 true = s := ⟨_, rfl⟩
  obtain ⟨n1, hn1⟩ : ∃ n, ofN (some b) = n := ⟨_, rfl⟩
  have hm1 : (if (65 : Int) < (c1 : Int) then (65 : Int) else (c1 : Int)) = (n1 : Int) := by
    rw [← hn1, ofN, hc1]; split <;> omega
  have hq1 : n1 ≤ 65 := by rw [← hn1]; exact Nat.min_le_right _ _
  have hls1 : lenS s1 ≤ 1099511627776 := by
    rw [← hs1]; exact Nat.le_trans (lenS_cutRest _ _ _) hlen
  have HC1 := Lib.hid hc1
  have HS1 := Lib.hid hs1
  have HN1 := Lib.hid hn1
  have HM1 := Lib.hid hm1
  have HLs1 := Lib.hid hls1
  unfold OfPostK
  clear hS hlen hc1 hs1 hn1 hm1 hls1
  go_enter Tryd.func42, Tryd.ntmps42
  go_wp2_with (first
    | (go_at_call 18; refine (read_any ((w.alloc (.cells txZ 40)).alloc (.cells txZ 40)) Bx A _ c b rfl HS0.out HL.out).mono ?_; rintro e w1 ⟨g, d, rfl, hg, hd, hr1, hb1⟩; have HG := Lib.hid hg; have HD := Lib.hid hd; have R1 := Lib.hid hr1; have V1 := Lib.hid hb1; clear hg hd hr1 hb1)
    | (go_at_call 19; refine (rcount_s _ g d (some b) R1.out).mono ?_; rw [HC1.out, HS1.out]; rintro e w2 ⟨rfl, hr2, hk2, hz2⟩; have R2 := Lib.hid hr2; have K2 := Lib.hid hk2; clear hr2 hk2 hz2)
    | ((with_reducible show wpList _ _ _ (⟨some 10, _, _, _, _, _⟩ :: _) _ _); refine wpList_min rfl (.tmp 9) 65 rfl (c1 : Int) (n1 : Int) rfl HM1.out ?_))
  have hG : w.heap.size + 2 ≤ g := by rw [Hs0.out]; exact HG.out
  have HGg := Lib.hid hG
  have HDd : Hid (∀ k, d = some k → w.heap.size + 2 ≤ k) := fun k e => by rw [Hs0.out]; exact HD.out k e
  have V01 : Hid (Below w.heap.size w w1) := nxTr Hb0.out V1.out
  have V2 : Hid (Below w.heap.size w w2) := V01.out.trans (K2.out.below V01.out.size (fun k hk => by omega))
  have HBt2 : Hid (Blk w2 (w.heap.size + 1) 40 txZ) := (HBt.out.below V1.out HBt.out.lt).keeps K2.out (by omega)
  have HBz2 : Hid (Blk w2 w.heap.size 40 txZ) := (HBz.out.below V1.out HBz.out.lt).keeps K2.out (by omega)
  clear HG HD V1 K2 V01 HBt HBz HS0 HL hG R1 HM1 HC1
  obtain ⟨i0, hi0, hz0, hz1, hz2⟩ := infoP Tryd.ininfo
  obtain ⟨j0, hj0, hy0, hy1, hy2⟩ := infoP Tryd.outinfo
  go_loopw [11] (fun iv wr => ∃ (k : Nat) (l : List InR) (A1 : Option Addr) (e1 : Nat) (s : Option (List UInt8)), k ≤ n1 ∧ iv = .int .i64 k ∧ Hid (l.length = k) ∧ Hid (readIs k s1 = (l.map inP, s)) ∧ Hid (Blk wr (w.heap.size + 1) 40 #[.slice A1 k e1, .slice none 0 0, .int .u64 0]) ∧ Hid (wr.ownsRow (w.heap.size + 2) 94 34 (.slice A1 k e1) k (insC l)) ∧ Hid (∀ j, A1.map (·.block) = some j → j ≠ g ∧ d ≠ some j) ∧ Hid (Kept (Stored4 g (w.heap.size + 1) A1) wr (fun W => ∀ i ∈ l, InOk W i)) ∧ Hid (Rd wr g d s) ∧ Hid (Blk wr w.heap.size 40 txZ) ∧ Hid (Below w.heap.size w wr)) (fun iv _ => n1 - (intOf iv).toNat)
  case atStart => exact ⟨0, [], none, 0, s1, by omega, rfl, rfl, rfl, HBt2.out, ⟨rfl, .inl ⟨rfl, rfl⟩⟩, (fun j hj => by cases hj), Kept.nil, R2.out, HBz2.out, V2.out⟩
  case round =>
    obtain ⟨k, l, A1, e1, s, hk, rfl, Hl, Hrd, HB, HO, HNe, HK, HR, HBz, Hb⟩ := hrel
    clear HBt2 HBz2 V2 R2
    by_cases hlt : k < n1
    · have hin : (k : Int) < (n1 : Int) := by omega
      have hgl := HR.out.lt
      have HDl : Hid (∀ j, d = some j → j < wr.heap.size) := fun j e => (HR.out.1 j e).2
      have hbl := HB.out.lt
      have Hol : Hid (∀ j, A1.map (·.block) = some j → w.heap.size + 2 ≤ j ∧ j < wr.heap.size) := fun j hj => own_lt HO.out j (by rw [own_blk]; exact hj)
      have hls : lenS s ≤ 1099511627776 := by
        have h1 := readIs_le k s1
        rw [Hrd.out] at h1
        exact Nat.le_trans h1 HLs1.out
      have HLs := Lib.hid hls
      clear hls
      have c0 : Hid (wr.cell? ⟨w.heap.size + 1, 0, none⟩ = some (.slice A1 k e1)) := HB.out.cell 0
      go_wp2_with fail
      refine wp_region_K (fun W => W.cell? ⟨w.heap.size + 1, 0, none⟩ = some (.slice A1 k e1)) 5 (by kernel_rfl) c0.out (fun hSn => ?_)
      refine wpAnyK_pure (i := 0) (oi := ⟨_, _, _, _, _, _⟩) (v := ?_) rfl (by kernel_rfl) (by kernel_rfl) (by kernel_rfl) rfl (fun _ _ _ h => h) (Or.inl ⟨by rfl, ?_⟩) hSn ?_
      rotate_left 1
      · intro W hSw
        go_simp
        try with_reducible rfl
      replace hSn := (KT.set (i := 0) (by decide)).2 hSn
      try simp only [Act.put, List.setIfInBounds_toArray, List.set_cons_zero, List.set_cons_succ]
      refine wpAnyK_take (i := 1) (oi := ⟨_, _, _, _, _, _⟩) (v := ?_) rfl (by kernel_rfl) (by kernel_rfl) (by kernel_rfl) rfl (by kernel_rfl) (by kernel_rfl) (fun _ _ _ h => h) (Or.inl ⟨by rfl, ?_⟩) hSn ?_
      rotate_left 1
      · intro W hSw
        try dsimp only at hSw
        go_simp
        try with_reducible rfl
      replace hSn := (KT.set (i := 1) (by decide)).2 hSn
      try simp only [Act.put, List.setIfInBounds_toArray, List.set_cons_zero, List.set_cons_succ]
      refine wpAnyK_pure (i := 2) (oi := ⟨_, _, _, _, _, _⟩) (v := ?_) rfl (by kernel_rfl) (by kernel_rfl) (by kernel_rfl) rfl (fun _ _ _ h => h) (Or.inl ⟨by rfl, ?_⟩) hSn ?_
      rotate_left 1
      · intro W hSw
        go_simp
        try with_reducible rfl
      replace hSn := (KT.set (i := 2) (by decide)).2 hSn
      try simp only [Act.put, List.setIfInBounds_toArray, List.set_cons_zero, List.set_cons_succ]
      clear hSn
      refine wpAnyK_ready (rs := [3]) (by kernel_rfl) (by simp) ?_
      refine AllReadyK.cons rfl (fun K hK => ?_) AllReadyK.nil
      go_simp
      go_at_call 58
      refine (readInput_any wr.drew g d s (HR.out.keeps ((Keeps.refl (fun _ => False) wr).drew) (fun h => h) (fun _ _ h => h)) HLs.out).mono ?_
      unfold InPost
      rintro e w4 ⟨i, rfl, hp, hio, hia, hr4, hk4⟩
      have HP := Lib.hid hp
      have HIo := Lib.hid hio
      have HIa : Hid (∀ ad, i.A = some ad → wr.heap.size ≤ ad.block ∧ ad.block < w4.heap.size) := hia
      have R4 := Lib.hid hr4
      have K4 : Hid (Keeps (· = g) wr w4) := ⟨hk4.os, hk4.tape, hk4.output, hk4.size, hk4.block⟩
      clear hp hio hia hr4 hk4
      have cc4 : Hid (w4.cell? ⟨w.heap.size + 1, 0, none⟩ = some (.slice A1 k e1)) := (K4.out.cell (p := ⟨w.heap.size + 1, 0, none⟩) hbl (by show ¬ (w.heap.size + 1 = g); have := HGg.out; omega)).trans c0.out
      refine hK.out _ _ (fun _ => cc4.out) (fun hSn => ?_)
      clear hK K
      try simp only [Act.put, List.setIfInBounds_toArray, List.set_cons_zero, List.set_cons_succ]
      clear hSn
      refine wpAnyK_ready (rs := [4]) (by kernel_rfl) (by simp) ?_
      refine AllReadyK.cons rfl (fun K hK => ?_) AllReadyK.nil
      refine step_build_one (o := ⟨some 17, _, _, _, _, _⟩) rfl 35 94 (.tmp 16) rfl (inC i) _ 34 64 Tryd.underlying35 Tryd.ininfo (by decide) (by decide) (inC_len HIo.out.id) rfl ?_
      refine hK.out _ _ (fun _ => ((World.cell?_alloc_some w4 _ _ (by rw [cc4.out]; rfl)).trans cc4.out)) (fun hSn => ?_)
      clear hK K
      try simp only [Act.put, List.setIfInBounds_toArray, List.set_cons_zero, List.set_cons_succ]
      have KA : Hid (Keeps (fun b => b = g) wr (w4.alloc (.cells (inC i).toArray 94))) := K4.out.alloc _
      have HOa : Hid ((w4.alloc (.cells (inC i).toArray 94)).ownsRow (w.heap.size + 2) 94 34 (.slice A1 k e1) k (insC l)) := own_keepsS HO.out KA.out (fun j hj => (HNe.out j (by rw [← own_blk]; exact hj)).1)
      have HSi : Hid (SeesV (w4.alloc (.cells (inC i).toArray 94)) (w4.alloc (.cells (inC i).toArray 94)).heap.size (some ⟨w4.heap.size, 0, none⟩) (inC i)) := SeesV.blk (heap_alloc_new w4 _)
      have hsa : (w4.alloc (.cells (inC i).toArray 94)).heap.size = w4.heap.size + 1 := by simp
      have HSa := Lib.hid hsa
      have h4s := K4.out.size
      have hsb : w.heap.size + 2 ≤ (w4.alloc (.cells (inC i).toArray 94)).heap.size := by omega
      clear hsa
      clear hSn
      refine wpAnyK_ready (rs := [5]) (by kernel_rfl) (by simp) ?_
      refine AllReadyK.cons rfl (fun K hK => ?_) AllReadyK.nil
      refine step_append_seesV (o := ⟨some 18, _, _, _, _, _⟩) rfl (.tmp 14) (.tmp 17) 35 rfl (w.heap.size + 2) 94 i0 _ 34 64 Tryd.underlying35 hi0 hz0 hz1 hz2 rfl (by decide) (.slice A1 k e1) k (insC l) rfl HOa.out _ (some ⟨w4.heap.size, 0, none⟩) 1 1 (inC i) rfl (inC_len HIo.out.id) HSi.out (fun u hu => inC_one i u (by simpa using hu)) (by omega) (by omega) hsb ?_
      intro v5 w5 ho5 hg5 hv5
      obtain ⟨A5, e5, rfl⟩ := own_form ho5
      have O5 := Lib.hid ho5
      have G5 := Lib.hid hg5
      have NV5 := Lib.hid hv5
      clear ho5 hg5 hv5
      refine hK.out _ _ (fun h => absurd h (by decide +kernel)) (fun hSn => ?_)
      clear hK K
      try simp only [Act.put, List.setIfInBounds_toArray, List.set_cons_zero, List.set_cons_succ]
      have W5 : Hid (∀ b, b < wr.heap.size → b ≠ g → A1.map (·.block) ≠ some b → w5.heap[b]? = wr.heap[b]?) := fun b hb h1 h2 => (G5.out.block b (by have := HSa.out; omega) (by rw [own_blk]; exact fun h => h2 h.symm)).trans (KA.out.block b hb h1)
      have S5 : Hid (wr.heap.size ≤ w5.heap.size) := by show _ ≤ _; have := G5.out.size; have := HSa.out; omega
      have hnb : ∀ b, b < w.heap.size + 2 → A1.map (·.block) ≠ some b := fun b hb h => by have := (Hol.out b h).1; omega
      have HB5 : Hid (Blk w5 (w.heap.size + 1) 40 #[.slice A1 k e1, .slice none 0 0, .int .u64 0]) := HB.out.of_eq (W5.out _ hbl (by have := HGg.out; omega) (hnb _ (by omega)))
      have c5 : w5.cell? ⟨w.heap.size + 1, 0, none⟩ = some (.slice A1 k e1) := HB5.out.cell 0
      have f5 : w5.frozen? ⟨w.heap.size + 1, 0, none⟩ = false := HB5.out.frozen 0
      refine wpAnyK_pure (i := 6) (oi := ⟨_, _, _, _, _, _⟩) (v := ?_) rfl (by kernel_rfl) (by kernel_rfl) (by kernel_rfl) rfl (fun _ _ _ h => h) (Or.inl ⟨by rfl, ?_⟩) hSn ?_
      rotate_left 1
      · intro W hSw
        go_simp
        try with_reducible rfl
      replace hSn := (KT.set (i := 6) (by decide)).2 hSn
      try simp only [Act.put, List.setIfInBounds_toArray, List.set_cons_zero, List.set_cons_succ]
      clear hSn
      refine wpAnyK_ready (rs := [7]) (by kernel_rfl) (by simp) ?_
      refine AllReadyK.cons rfl (fun K hK => ?_) AllReadyK.nil
      go_simp
      skip
      refine hK.out _ _ (fun h => absurd h (by decide +kernel)) (fun hSn => ?_)
      clear hK K
      try simp only [Act.put, List.setIfInBounds_toArray, List.set_cons_zero, List.set_cons_succ]
      refine wpAnyK_done (by kernel_rfl) ?_ _
      clear hSn c5 f5
      obtain ⟨w6, hw6⟩ : ∃ W, w5.setCell ⟨w.heap.size + 1, 0, none⟩ (.slice A5 (k + 1) e5) = W := ⟨_, rfl⟩
      have HW6 := Lib.hid hw6
      clear hw6
      have K56 : Hid (Keeps (fun b => b = w.heap.size + 1) w5 w6) := by show Keeps _ _ _; rw [← HW6.out]; exact (Keeps.refl (fun b => b = w.heap.size + 1) w5).setCell (p := ⟨w.heap.size + 1, 0, none⟩) rfl _
      have K36 : Hid (Keeps (Stored g (w.heap.size + 1) A1) wr w6) := by
        have k1 := K4.out.os; have k2 := K4.out.tape; have k3 := K4.out.output
        exact ⟨K56.out.os.trans (G5.out.os.trans k1), K56.out.tape.trans (G5.out.tape.trans k2), K56.out.output.trans (G5.out.output.trans k3), Nat.le_trans S5.out K56.out.size, fun b hb hn => (K56.out.block b (Nat.lt_of_lt_of_le hb S5.out) (fun h => hn (.inr (.inl h)))).trans (W5.out b hb (fun h => hn (.inl h)) (fun h => hn (.inr (.inr h))))⟩
      have K46 : Hid (Keeps (fun b => b = w.heap.size + 1 ∨ A1.map (·.block) = some b) w4 w6) :=
        ⟨K56.out.os.trans G5.out.os, K56.out.tape.trans G5.out.tape, K56.out.output.trans G5.out.output, by have := G5.out.size; have := K56.out.size; have := HSa.out; omega,
          fun b hb hn => (K56.out.block b (by have := G5.out.size; have := HSa.out; omega) (fun h => hn (.inl h))).trans ((G5.out.block b (by have := HSa.out; omega) (by rw [own_blk]; exact fun h => hn (.inr h.symm))).trans ((nxAl (nxRf w4) _).block b hb))⟩
      have N5 : Hid (∀ j, A5.map (·.block) = some j → (A1.map (·.block) = some j ∧ j < wr.heap.size) ∨ j = w4.heap.size + 1) := fun j hj => by
        rcases NV5.out with h | h
        · rw [own_blk, own_blk, hj] at h; exact .inl ⟨h.symm, (Hol.out j h.symm).2⟩
        · rw [own_blk, hj] at h; injection h with h; have := HSa.out; exact .inr (by omega)
      have HB6 : Hid (Blk w6 (w.heap.size + 1) 40 #[.slice A5 (k + 1) e5, .slice none 0 0, .int .u64 0]) := by show Blk _ _ _ _; rw [← HW6.out]; exact HB5.out.set 0 _
      have HO6 : Hid (w6.ownsRow (w.heap.size + 2) 94 34 (.slice A5 (k + 1) e5) (k + 1) (insC (l ++ [i]))) := by
        show World.ownsRow _ _ _ _ _ _ _
        rw [insC_snoc]
        exact own_keepsS O5.out K56.out (fun j hj h => by have := (own_lt O5.out j hj).1; omega)
      have HN6 : Hid (∀ j, A5.map (·.block) = some j → j ≠ g ∧ d ≠ some j) := fun j hj => by
        rcases N5.out j hj with h | h
        · exact HNe.out j h.1
        · exact ⟨by omega, fun e => by have := HDl.out j e; omega⟩
      have HK6 : Hid (Kept (Stored4 g (w.heap.size + 1) A5) w6 (fun W => ∀ j ∈ l ++ [i], InOk W j)) := by
        refine Kept.snoc (HK.out.step (K36.out.mono (fun _ _ h => .inl h)) (fun b hb h => ?_)) ?_
        · rcases h with (h | h | h) | h
          · exact .inl (.inl h)
          · exact .inl (.inr (.inl h))
          · rcases N5.out b h with h | h
            · exact .inl (.inr (.inr h.1))
            · omega
          · exact .inr h
        · refine in_kept (in_kept (S := fun b => b = w.heap.size + 1 ∨ A1.map (·.block) = some b) HIo.out (fun ad e h => ?_) w6 K46.out) (fun ad e h => ?_)
          · have h1 := HIa.out ad e
            rcases h with h | h
            · omega
            · have := (Hol.out _ h).2; omega
          · have h1 := HIa.out ad e
            rcases h with (h | h | h) | h
            · omega
            · omega
            · rcases N5.out _ h with h | h
              · omega
              · omega
            · omega
      have HR6 : Hid (Rd w6 g d (readI s).2) := R4.out.keeps K46.out (fun h => by rcases h with h | h; have := HGg.out; omega; exact (HNe.out g h).1 rfl) (fun j e h => by rcases h with h | h; have := HDd.out j e; omega; exact (HNe.out j h).2 e)
      have HBz6 : Hid (Blk w6 w.heap.size 40 txZ) := HBz.out.keeps K36.out (fun h => by rcases h with h | h | h; have := HGg.out; omega; omega; exact hnb _ (by omega) h)
      have Hb6 : Hid (Below w.heap.size w w6) := kept_below Hb.out K36.out Hb.out.size (by have := HGg.out; omega) (by omega) (fun j hj => by have := (Hol.out j hj).1; omega)
      have Hl6 : Hid ((l ++ [i]).length = k + 1) := by show _ = _; rw [List.length_append, Hl.out]; rfl
      have Hr6 : Hid (readIs (k + 1) s1 = ((l ++ [i]).map inP, (readI s).2)) := by
        show _ = _
        rw [readIs_next Hrd.out, List.map_append, ← HP.out]; rfl
      clear HB HO HNe HK HR HBz Hb Hrd c0 HIo HIa R4 K4 cc4 KA HOa HSi O5 G5 NV5 W5 HB5 K56 K36 K46 N5 Hol HDl HP
      rw [HW6.out]
      go_wp2
      go_roundw
      case rel => exact ⟨k + 1, l ++ [i], A5, e5, (readI s).2, by omega, by go_num, Hl6.out, Hr6.out, HB6.out, HO6.out, HN6.out, HK6.out, HR6.out, HBz6.out, Hb6.out⟩
      case measure => simp [intOf] <;> omega
    · obtain rfl : k = n1 := by omega
      have hgl := HR.out.lt
      have hbl := HB.out.lt
      obtain ⟨c2, hc2⟩ : ∃ n, ofLe (cutPiece s 2 true) = n := ⟨_, rfl⟩
      obtain ⟨s3, hs3⟩ : ∃ x, cutRest s 2 true = x := ⟨_, rfl⟩
      obtain ⟨n2, hn2⟩ : ∃ n, ofN s = n := ⟨_, rfl⟩
      have hm2 : (if (65 : Int) < (c2 : Int) then (65 : Int) else (c2 : Int)) = (n2 : Int) := by
        rw [← hn2, ofN, hc2]; split <;> omega
      have hq2 : n2 ≤ 65 := by rw [← hn2]; exact Nat.min_le_right _ _
      have hls3 : lenS s3 ≤ 1099511627776 := by
        have h1 := readIs_le k s1
        rw [Hrd.out] at h1
        rw [← hs3]
        exact Nat.le_trans (lenS_cutRest _ _ _) (Nat.le_trans h1 HLs1.out)
      have HC2 := Lib.hid hc2
      have HS3 := Lib.hid hs3
      have HN2 := Lib.hid hn2
      have HM2 := Lib.hid hm2
      have HLs3 := Lib.hid hls3
      have HF : Hid (Kept (Stored4 g (w.heap.size + 1) none) wr (fun W => SeesV W W.heap.size A1 (insC l) ∧ ∀ i ∈ l, InOk W i)) :=
        (own_kept HO.out (fun j hj h => by
          have h1 := HNe.out j (by rw [← own_blk]; exact hj)
          have h2 := (own_lt HO.out j hj).1
          rcases h with (h | h | h) | h
          · exact h1.1 h
          · omega
          · cases h
          · omega)).and (HK.out.sub (fun j h => by
          rcases h with (h | h | h) | h
          · exact .inl (.inl h)
          · exact .inl (.inr (.inl h))
          · cases h
          · exact .inr h))
      have HE1 : Hid (k ≤ e1) := own_cap' HO.out
      clear hc2 hs3 hn2 hm2 hls3 hlt HK HO HNe
      go_wp2_with (first
        | (go_at_call 19; refine (rcount_s _ g d s HR.out).mono ?_; rw [HC2.out, HS3.out]; rintro e w7 ⟨rfl, hr7, hk7, hz7⟩; have R7 := Lib.hid hr7; have K7 := Lib.hid hk7; clear hr7 hk7 hz7)
        | ((with_reducible show wpList _ _ _ (⟨some 23, _, _, _, _, _⟩ :: _) _ _); refine wpList_min rfl (.tmp 22) 65 rfl (c2 : Int) (n2 : Int) rfl HM2.out ?_))
      have HB7 : Hid (Blk w7 (w.heap.size + 1) 40 #[.slice A1 k e1, .slice none 0 0, .int .u64 0]) := HB.out.keeps K7.out (by have := HGg.out; omega)
      have HBz7 : Hid (Blk w7 w.heap.size 40 txZ) := HBz.out.keeps K7.out (by have := HGg.out; omega)
      have Hb7 : Hid (Below w.heap.size w w7) := Hb.out.trans (K7.out.below Hb.out.size (fun j hj => by have := HGg.out; omega))
      have HF7 : Hid (Kept (Stored4 g (w.heap.size + 1) none) w7 (fun W => SeesV W W.heap.size A1 (insC l) ∧ ∀ i ∈ l, InOk W i)) := HF.out.step (K7.out.mono (fun j _ h => .inl (.inl h))) (fun _ _ h => h)
      have Hs7 : Hid (w.heap.size + 2 ≤ w7.heap.size) := by show _ ≤ _; have := HB7.out.lt; have := HBz7.out.lt; have := K7.out.size; omega
      clear HB HBz Hb HF K7 HR HC2 HM2
      go_loopw [24] (fun jv wr => ∃ (m : Nat) (o : List OutR) (A2 : Option Addr) (e2 : Nat) (s4 : Option (List UInt8)), m ≤ n2 ∧ jv = .int .i64 m ∧ Hid (o.length = m) ∧ Hid (readOs m s3 = (o, s4)) ∧ Hid (Blk wr (w.heap.size + 1) 40 #[.slice A1 k e1, .slice A2 m e2, .int .u64 0]) ∧ Hid (wr.ownsRow (w.heap.size + 2) 37 33 (.slice A2 m e2) m (outsC o)) ∧ Hid (∀ j, A2.map (·.block) = some j → j ≠ g ∧ d ≠ some j) ∧ Hid (Kept (Stored4 g (w.heap.size + 1) A2) wr (fun W => SeesV W W.heap.size A1 (insC l) ∧ ∀ i ∈ l, InOk W i)) ∧ Hid (Rd wr g d s4) ∧ Hid (Blk wr w.heap.size 40 txZ) ∧ Hid (Below w.heap.size w wr)) (fun jv _ => n2 - (intOf jv).toNat)
      case atStart => exact ⟨0, [], none, 0, s3, by omega, rfl, rfl, rfl, HB7.out, ⟨rfl, .inl ⟨rfl, rfl⟩⟩, (fun j hj => by cases hj), HF7.out, R7.out, HBz7.out, Hb7.out⟩
      case round =>
        obtain ⟨m, o, A2, e2, s4, hm, rfl, Hl2, Hrd2, HB, HO, HNe, HK, HR, HBz, Hb⟩ := hrel
        clear HB7 HBz7 Hb7 HF7 R7
        have hgl := HR.out.lt
        have HDl : Hid (∀ j, d = some j → j < wr.heap.size) := fun j e => (HR.out.1 j e).2
        have hbl := HB.out.lt
        have Hol : Hid (∀ j, A2.map (·.block) = some j → w.heap.size + 2 ≤ j ∧ j < wr.heap.size) := fun j hj => own_lt HO.out j (by rw [own_blk]; exact hj)
        by_cases hlt : m < n2
        · have hin : (m : Int) < (n2 : Int) := by omega
          have c0 : Hid (wr.cell? ⟨w.heap.size + 1, 1, none⟩ = some (.slice A2 m e2)) := HB.out.cell 1
          go_wp2_with fail
          refine wp_region_K (fun W => W.cell? ⟨w.heap.size + 1, 1, none⟩ = some (.slice A2 m e2)) 5 (by kernel_rfl) c0.out (fun hSn => ?_)
          refine wpAnyK_pure (i := 0) (oi := ⟨_, _, _, _, _, _⟩) (v := ?_) rfl (by kernel_rfl) (by kernel_rfl) (by kernel_rfl) rfl (fun _ _ _ h => h) (Or.inl ⟨by rfl, ?_⟩) hSn ?_
          rotate_left 1
          · intro W hSw
            go_simp
            try with_reducible rfl
          replace hSn := (KT.set (i := 0) (by decide)).2 hSn
          try simp only [Act.put, List.setIfInBounds_toArray, List.set_cons_zero, List.set_cons_succ]
          refine wpAnyK_take (i := 1) (oi := ⟨_, _, _, _, _, _⟩) (v := ?_) rfl (by kernel_rfl) (by kernel_rfl) (by kernel_rfl) rfl (by kernel_rfl) (by kernel_rfl) (fun _ _ _ h => h) (Or.inl ⟨by rfl, ?_⟩) hSn ?_
          rotate_left 1
          · intro W hSw
            try dsimp only at hSw
            go_simp
            try with_reducible rfl
          replace hSn := (KT.set (i := 1) (by decide)).2 hSn
          try simp only [Act.put, List.setIfInBounds_toArray, List.set_cons_zero, List.set_cons_succ]
          refine wpAnyK_pure (i := 2) (oi := ⟨_, _, _, _, _, _⟩) (v := ?_) rfl (by kernel_rfl) (by kernel_rfl) (by kernel_rfl) rfl (fun _ _ _ h => h) (Or.inl ⟨by rfl, ?_⟩) hSn ?_
          rotate_left 1
          · intro W hSw
            go_simp
            try with_reducible rfl
          replace hSn := (KT.set (i := 2) (by decide)).2 hSn
          try simp only [Act.put, List.setIfInBounds_toArray, List.set_cons_zero, List.set_cons_succ]
          clear hSn
          refine wpAnyK_ready (rs := [3]) (by kernel_rfl) (by simp) ?_
          refine AllReadyK.cons rfl (fun K hK => ?_) AllReadyK.nil
          go_simp
          go_at_call 59
          refine (readOutput_any wr.drew g d s4 (HR.out.keeps ((Keeps.refl (fun _ => False) wr).drew) (fun h => h) (fun _ _ h => h))).mono ?_
          rintro e w4 ⟨rfl, hr4, hk4⟩
          have R4 := Lib.hid hr4
          have K4 : Hid (Keeps (· = g) wr w4) := ⟨hk4.os, hk4.tape, hk4.output, hk4.size, hk4.block⟩
          clear hr4 hk4
          have cc4 : Hid (w4.cell? ⟨w.heap.size + 1, 1, none⟩ = some (.slice A2 m e2)) := (K4.out.cell (p := ⟨w.heap.size + 1, 1, none⟩) hbl (by show ¬ (w.heap.size + 1 = g); have := HGg.out; omega)).trans c0.out
          obtain ⟨x, hx⟩ : ∃ x, (readO s4).1 = x := ⟨_, rfl⟩
          have HXo : Hid (OutOk x) := hx ▸ readO_ok s4
          rw [hx]
          have HX := Lib.hid hx
          clear hx
          refine hK.out _ _ (fun _ => cc4.out) (fun hSn => ?_)
          clear hK K
          try simp only [Act.put, List.setIfInBounds_toArray, List.set_cons_zero, List.set_cons_succ]
          clear hSn
          refine wpAnyK_ready (rs := [4]) (by kernel_rfl) (by simp) ?_
          refine AllReadyK.cons rfl (fun K hK => ?_) AllReadyK.nil
          refine step_build_one (o := ⟨some 30, _, _, _, _, _⟩) rfl 38 37 (.tmp 29) rfl (outC x) _ 33 40 Tryd.underlying38 Tryd.outinfo (by decide) (by decide) (outC_len HXo.out.lock) rfl ?_
          refine hK.out _ _ (fun _ => ((World.cell?_alloc_some w4 _ _ (by rw [cc4.out]; rfl)).trans cc4.out)) (fun hSn => ?_)
          clear hK K
          try simp only [Act.put, List.setIfInBounds_toArray, List.set_cons_zero, List.set_cons_succ]
          have KA : Hid (Keeps (fun b => b = g) wr (w4.alloc (.cells (outC x).toArray 37))) := K4.out.alloc _
          have HOa : Hid ((w4.alloc (.cells (outC x).toArray 37)).ownsRow (w.heap.size + 2) 37 33 (.slice A2 m e2) m (outsC o)) := own_keepsS HO.out KA.out (fun j hj => (HNe.out j (by rw [← own_blk]; exact hj)).1)
          have HSi : Hid (SeesV (w4.alloc (.cells (outC x).toArray 37)) (w4.alloc (.cells (outC x).toArray 37)).heap.size (some ⟨w4.heap.size, 0, none⟩) (outC x)) := SeesV.blk (heap_alloc_new w4 _)
          have hsa : (w4.alloc (.cells (outC x).toArray 37)).heap.size = w4.heap.size + 1 := by simp
          have HSa := Lib.hid hsa
          have h4s := K4.out.size
          have h7s : w.heap.size + 2 ≤ wr.heap.size := by have := HGg.out; omega
          have hsb : w.heap.size + 2 ≤ (w4.alloc (.cells (outC x).toArray 37)).heap.size := by omega
          clear hsa
          clear hSn
          refine wpAnyK_ready (rs := [5]) (by kernel_rfl) (by simp) ?_
          refine AllReadyK.cons rfl (fun K hK => ?_) AllReadyK.nil
          refine step_append_seesV (o := ⟨some 31, _, _, _, _, _⟩) rfl (.tmp 27) (.tmp 30) 38 rfl (w.heap.size + 2) 37 j0 _ 33 40 Tryd.underlying38 hj0 hy0 hy1 hy2 rfl (by decide) (.slice A2 m e2) m (outsC o) rfl HOa.out _ (some ⟨w4.heap.size, 0, none⟩) 1 1 (outC x) rfl (outC_len HXo.out.lock) HSi.out (fun u hu => outC_one x u (by simpa using hu)) (by omega) (by omega) hsb ?_
          intro v5 w5 ho5 hg5 hv5
          obtain ⟨A5, e5, rfl⟩ := own_form ho5
          have O5 := Lib.hid ho5
          have G5 := Lib.hid hg5
          have NV5 := Lib.hid hv5
          clear ho5 hg5 hv5
          refine hK.out _ _ (fun h => absurd h (by decide +kernel)) (fun hSn => ?_)
          clear hK K
          try simp only [Act.put, List.setIfInBounds_toArray, List.set_cons_zero, List.set_cons_succ]
          have W5 : Hid (∀ b, b < wr.heap.size → b ≠ g → A2.map (·.block) ≠ some b → w5.heap[b]? = wr.heap[b]?) := fun b hb h1 h2 => (G5.out.block b (by have := HSa.out; omega) (by rw [own_blk]; exact fun h => h2 h.symm)).trans (KA.out.block b hb h1)
          have S5 : Hid (wr.heap.size ≤ w5.heap.size) := by show _ ≤ _; have := G5.out.size; have := HSa.out; omega
          have hnb : ∀ b, b < w.heap.size + 2 → A2.map (·.block) ≠ some b := fun b hb h => by have := (Hol.out b h).1; omega
          have HB5 : Hid (Blk w5 (w.heap.size + 1) 40 #[.slice A1 k e1, .slice A2 m e2, .int .u64 0]) := HB.out.of_eq (W5.out _ hbl (by have := HGg.out; omega) (hnb _ (by omega)))
          have c5 : w5.cell? ⟨w.heap.size + 1, 1, none⟩ = some (.slice A2 m e2) := HB5.out.cell 1
          have f5 : w5.frozen? ⟨w.heap.size + 1, 1, none⟩ = false := HB5.out.frozen 1
          refine wpAnyK_pure (i := 6) (oi := ⟨_, _, _, _, _, _⟩) (v := ?_) rfl (by kernel_rfl) (by kernel_rfl) (by kernel_rfl) rfl (fun _ _ _ h => h) (Or.inl ⟨by rfl, ?_⟩) hSn ?_
          rotate_left 1
          · intro W hSw
            go_simp
            try with_reducible rfl
          replace hSn := (KT.set (i := 6) (by decide)).2 hSn
          try simp only [Act.put, List.setIfInBounds_toArray, List.set_cons_zero, List.set_cons_succ]
          clear hSn
          refine wpAnyK_ready (rs := [7]) (by kernel_rfl) (by simp) ?_
          refine AllReadyK.cons rfl (fun K hK => ?_) AllReadyK.nil
          go_simp
          skip
          refine hK.out _ _ (fun h => absurd h (by decide +kernel)) (fun hSn => ?_)
          clear hK K
          try simp only [Act.put, List.setIfInBounds_toArray, List.set_cons_zero, List.set_cons_succ]
          refine wpAnyK_done (by kernel_rfl) ?_ _
          clear hSn c5 f5
          obtain ⟨w6, hw6⟩ : ∃ W, w5.setCell ⟨w.heap.size + 1, 1, none⟩ (.slice A5 (m + 1) e5) = W := ⟨_, rfl⟩
          have HW6 := Lib.hid hw6
          clear hw6
          have K56 : Hid (Keeps (fun b => b = w.heap.size + 1) w5 w6) := by show Keeps _ _ _; rw [← HW6.out]; exact (Keeps.refl (fun b => b = w.heap.size + 1) w5).setCell (p := ⟨w.heap.size + 1, 1, none⟩) rfl _
          have K36 : Hid (Keeps (Stored g (w.heap.size + 1) A2) wr w6) := by
            have k1 := K4.out.os; have k2 := K4.out.tape; have k3 := K4.out.output
            exact ⟨K56.out.os.trans (G5.out.os.trans k1), K56.out.tape.trans (G5.out.tape.trans k2), K56.out.output.trans (G5.out.output.trans k3), Nat.le_trans S5.out K56.out.size, fun b hb hn => (K56.out.block b (Nat.lt_of_lt_of_le hb S5.out) (fun h => hn (.inr (.inl h)))).trans (W5.out b hb (fun h => hn (.inl h)) (fun h => hn (.inr (.inr h))))⟩
          have K46 : Hid (Keeps (fun b => b = w.heap.size + 1 ∨ A2.map (·.block) = some b) w4 w6) :=
            ⟨K56.out.os.trans G5.out.os, K56.out.tape.trans G5.out.tape, K56.out.output.trans G5.out.output, by have := G5.out.size; have := K56.out.size; have := HSa.out; omega,
              fun b hb hn => (K56.out.block b (by have := G5.out.size; have := HSa.out; omega) (fun h => hn (.inl h))).trans ((G5.out.block b (by have := HSa.out; omega) (by rw [own_blk]; exact fun h => hn (.inr h.symm))).trans ((nxAl (nxRf w4) _).block b hb))⟩
          have N5 : Hid (∀ j, A5.map (·.block) = some j → (A2.map (·.block) = some j ∧ j < wr.heap.size) ∨ j = w4.heap.size + 1) := fun j hj => by
            rcases NV5.out with h | h
            · rw [own_blk, own_blk, hj] at h; exact .inl ⟨h.symm, (Hol.out j h.symm).2⟩
            · rw [own_blk, hj] at h; injection h with h; have := HSa.out; exact .inr (by omega)
          have HB6 : Hid (Blk w6 (w.heap.size + 1) 40 #[.slice A1 k e1, .slice A5 (m + 1) e5, .int .u64 0]) := by show Blk _ _ _ _; rw [← HW6.out]; exact HB5.out.set 1 _
          have HO6 : Hid (w6.ownsRow (w.heap.size + 2) 37 33 (.slice A5 (m + 1) e5) (m + 1) (outsC (o ++ [x]))) := by
            show World.ownsRow _ _ _ _ _ _ _
            rw [outsC_snoc]
            exact own_keepsS O5.out K56.out (fun j hj h => by have := (own_lt O5.out j hj).1; omega)
          have HN6 : Hid (∀ j, A5.map (·.block) = some j → j ≠ g ∧ d ≠ some j) := fun j hj => by
            rcases N5.out j hj with h | h
            · exact HNe.out j h.1
            · exact ⟨by omega, fun e => by have := HDl.out j e; omega⟩
          have HK6 : Hid (Kept (Stored4 g (w.heap.size + 1) A5) w6 (fun W => SeesV W W.heap.size A1 (insC l) ∧ ∀ i ∈ l, InOk W i)) := by
            refine HK.out.step (K36.out.mono (fun _ _ h => .inl h)) (fun b hb h => ?_)
            rcases h with (h | h | h) | h
            · exact .inl (.inl h)
            · exact .inl (.inr (.inl h))
            · rcases N5.out b h with h | h
              · exact .inl (.inr (.inr h.1))
              · omega
            · exact .inr h
          have HR6 : Hid (Rd w6 g d (readO s4).2) := R4.out.keeps K46.out (fun h => by rcases h with h | h; have := HGg.out; omega; exact (HNe.out g h).1 rfl) (fun j e h => by rcases h with h | h; have := HDd.out j e; omega; exact (HNe.out j h).2 e)
          have HBz6 : Hid (Blk w6 w.heap.size 40 txZ) := HBz.out.keeps K36.out (fun h => by rcases h with h | h | h; have := HGg.out; omega; omega; exact hnb _ (by omega) h)
          have Hb6 : Hid (Below w.heap.size w w6) := kept_below Hb.out K36.out Hb.out.size (by have := HGg.out; omega) (by omega) (fun j hj => by have := (Hol.out j hj).1; omega)
          have Hl6 : Hid ((o ++ [x]).length = m + 1) := by show _ = _; rw [List.length_append, Hl2.out]; rfl
          have Hr6 : Hid (readOs (m + 1) s3 = (o ++ [x], (readO s4).2)) := by
            show _ = _
            rw [readOs_next Hrd2.out, HX.out]
          clear HB HO HNe HK HR HBz Hb Hrd2 c0 HXo R4 K4 cc4 KA HOa HSi O5 G5 NV5 W5 HB5 K56 K36 K46 N5 Hol HDl HX
          rw [HW6.out]
          go_wp2
          go_roundw
          case rel => exact ⟨m + 1, o ++ [x], A5, e5, (readO s4).2, by omega, by go_num, Hl6.out, Hr6.out, HB6.out, HO6.out, HN6.out, HK6.out, HR6.out, HBz6.out, Hb6.out⟩
          case measure => simp [intOf] <;> omega
        · obtain rfl : m = n2 := by omega
          obtain ⟨s5, hs5⟩ : ∃ x, cutRest s4 8 true = x := ⟨_, rfl⟩
          obtain ⟨N, hN⟩ : ∃ x, ofLe (cutPiece s4 8 true) = x := ⟨_, rfl⟩
          have hN64 : N < 18446744073709551616 := by rw [← hN]; exact ofLe_lt8 s4 8 (by decide)
          obtain ⟨hp, hr⟩ := of_parts (b := b) (I := l.map inP) (s := s) (s4 := s4) (o := o) (by rw [HN1.out, HS1.out]; exact Hrd.out) (by rw [HN2.out, HS3.out]; exact Hrd2.out)
          rw [hN] at hp
          rw [hs5] at hr
          obtain ⟨t, ht⟩ : ∃ t : TxR, (⟨A1, e1, l, A2, e2, o, N⟩ : TxR) = t := ⟨_, rfl⟩
          have hpt : txP t = ofP b := by rw [hp, ← ht]; rfl
          have hoo : ∀ y ∈ o, OutOk y := by have h1 := readOs_ok m s3; rw [Hrd2.out] at h1; exact h1
          have HTk : Hid (Kept (Stored4 g (w.heap.size + 1) none) wr (fun W => TxOk W t)) := by
            have h1 := HK.out.sub (S' := Stored4 g (w.heap.size + 1) none) (fun j h => by
              rcases h with (h | h | h) | h
              · exact .inl (.inl h)
              · exact .inl (.inr (.inl h))
              · cases h
              · exact .inr h)
            have h2 : Kept (Stored4 g (w.heap.size + 1) none) wr (fun W => SeesV W W.heap.size A2 (outsC o)) := own_kept HO.out (fun j hj h => by
              have q1 := HNe.out j (by rw [← own_blk]; exact hj)
              have q2 := (own_lt HO.out j hj).1
              rcases h with (h | h | h) | h
              · exact q1.1 h
              · omega
              · cases h
              · omega)
            have hd2 := own_cap' HO.out
            refine (h1.and h2).mono (fun W hW => ?_)
            rw [← ht]
            exact ⟨hW.1.1, hW.1.2, hW.2, hoo, by show l.length ≤ _; rw [Hl.out]; exact HE1.out, by show o.length ≤ _; rw [Hl2.out]; exact hd2, hN64, by show l.length ≤ _; rw [Hl.out]; omega, by show o.length ≤ _; rw [Hl2.out]; omega⟩
          have hBt : #[Value.slice A1 k e1, .slice A2 m e2, .int .u64 (N : Int)] = (txC t).toArray := by rw [← ht, ← Hl.out, ← Hl2.out]; rfl
          have HBT := Lib.hid hBt
          have HPT := Lib.hid hpt
          have HSv := Lib.hid hs5
          have HNv := Lib.hid hN
          have HRv := Lib.hid hr
          have hm8 : may 8 = true := rfl
          have HM8 := Lib.hid hm8
          clear hs5 hN hp hr ht hpt hoo hN64 HO HNe HK hBt Hl Hl2 Hrd Hrd2 hm8 hlt HE1
          obtain ⟨z, hz⟩ : ∃ z, checkT t = z := ⟨_, rfl⟩
          have HZv := Lib.hid hz
          clear hz
          have HZT : Hid ((Tryd.prog.info? 40).map (·.size) = some (txC t).toArray.size) := Tryd.sizeTx
          have HZN : Hid ((Tryd.prog.info? 40).map (·.size) = some (txC noT).toArray.size) := Tryd.sizeTx
          by_cases hs : s5 = some []
          · by_cases hz0 : z = 0
            · subst hs hz0
              have HOB : Hid (ofB b = true) := by show _ = _; rw [ofB, HRv.out, ← HPT.out, checkT_up, HZv.out]; rfl
              have HRe : Hid (rend (some []) = 0) := rfl
              go_wp2_with (first
                | (go_at_call 21; refine (rnumber_s _ g d s4 HR.out 8).mono ?_; unfold NumPost; rw [HM8.out, HNv.out, HSv.out]; rintro e w8 ⟨rfl, hr8, hk8, hz8⟩; have R8 := Lib.hid hr8; have K8 := Lib.hid hk8; clear hr8 hk8 hz8; have HB8 : Hid (Blk w8 (w.heap.size + 1) 40 #[.slice A1 k e1, .slice A2 m e2, .int .u64 0]) := HB.out.keeps K8.out (by have := HGg.out; omega); have c28 : w8.cell? ⟨w.heap.size + 1, 2, none⟩ = some (.int .u64 0) := HB8.out.cell 2; have f28 : w8.frozen? ⟨w.heap.size + 1, 2, none⟩ = false := HB8.out.frozen 2)
                | (go_at_call 22; refine (rend_s _ g d (some []) (R8.out.keeps ((Keeps.refl (fun b => b = w.heap.size + 1) w8).setCell (p := ⟨w.heap.size + 1, 2, none⟩) rfl _) (by have := HGg.out; omega) (fun j e h => by have := HDd.out j e; omega))).mono ?_; rw [HRe.out]; rintro e w10 ⟨rfl, hw10⟩; have W10 := Lib.hid hw10; clear hw10; have HB10 : Hid (Blk w10 (w.heap.size + 1) 40 (txC t).toArray) := (by show Blk _ _ _ _; rw [← HBT.out, ← W10.out]; exact HB8.out.set 2 _); have K10 : Hid (Keeps (Stored g (w.heap.size + 1) none) wr w10) := (by show Keeps _ _ _; rw [← W10.out]; exact (K8.out.mono (fun j _ h => .inl h)).setCell (p := ⟨w.heap.size + 1, 2, none⟩) (.inr (.inl rfl)) _); have HBz10 := Lib.hid (HBz.out.keeps K10.out (fun h => by rcases h with h | h | h; have := HGg.out; omega; omega; cases h)); have HT10 := Lib.hid (HTk.out w10 (K10.out.mono (fun _ _ h => .inl h))); have Hb10 := Lib.hid (kept_below Hb.out K10.out Hb.out.size (by have := HGg.out; omega) (by omega) (fun j hj => by cases hj)); have HB10r := Lib.hid (blkR (vs := txC t) HB10.out); have d0 : w10.cell? ⟨w.heap.size + 1, 0, none⟩ = some (.slice t.A t.ins.length t.c) := HB10.out.cell 0; have d1 : w10.cell? ⟨w.heap.size + 1, 1, none⟩ = some (.slice t.B t.outs.length t.d) := HB10.out.cell 1; have d2 : w10.cell? ⟨w.heap.size + 1, 2, none⟩ = some (.int .u64 (t.nonce : Int)) := HB10.out.cell 2)
                | (go_at_call 60; refine (may_any w10 t HT10.out).mono ?_; rw [HZv.out]; rintro e w11 ⟨rfl, hb11⟩; have V11 := Lib.hid hb11; clear hb11; have HB11 := Lib.hid (HB10.out.below V11.out HB10.out.lt); clear d0 d1 d2; have d0 : w11.cell? ⟨w.heap.size + 1, 0, none⟩ = some (.slice t.A t.ins.length t.c) := HB11.out.cell 0; have d1 : w11.cell? ⟨w.heap.size + 1, 1, none⟩ = some (.slice t.B t.outs.length t.d) := HB11.out.cell 1; have d2 : w11.cell? ⟨w.heap.size + 1, 2, none⟩ = some (.int .u64 (t.nonce : Int)) := HB11.out.cell 2)
                | ((with_reducible show wpList _ _ _ (⟨none, .store 40 _ _, _, _, _, _⟩ :: _) _ _); refine wpList_store_all rfl 40 (.tmp 2) (.tmp 46) rfl w.heap.size 40 txZ (txC t).toArray rfl rfl (HBz10.out.below V11.out HBz10.out.lt) rfl HZT.out (txC_one t) ?_; intro w12 h5 h6 h7; have B12 := Lib.hid h5; have K12 := Lib.hid h6; clear h5 h6 h7))
              refine bodyPost_ret (row_tmp Tryd.results42 _ _ w.heap.size 40 _ _ rfl B12.out Tryd.underlying40 rfl HZT.out _ rfl) rfl ⟨t, by rw [HOB.out]; rfl, ?_, ?_, ?_, ?_⟩
              · rw [ofV, HOB.out, HPT.out]; rfl
              · refine HTk.out w12 ?_
                have k1 : Keeps (Stored4 g (w.heap.size + 1) none) wr w10 := K10.out.mono (fun _ _ h => .inl h)
                exact (k1.trans (Keeps.of_below V11.out _)).trans (K12.out.mono (fun j _ h => .inr (by omega)))
              · exact (nxTr Hb10.out V11.out).trans (K12.out.below (nxTr Hb10.out V11.out).size (fun j hj => by omega))
              · have k1 : Keeps (Stored4 g (w.heap.size + 1) none) wr w10 := K10.out.mono (fun _ _ h => .inl h)
                exact HTk.out.step ((k1.trans (Keeps.of_below V11.out _)).trans (K12.out.mono (fun j _ h => .inr (by omega)))) (fun j _ h => .inr (by omega))
            · subst hs
              have HOB : Hid (ofB b = false) := by show _ = _; rw [ofB, HRv.out, ← HPT.out, checkT_up, HZv.out]; simp [hz0]
              have hzf : (z == 0) = false := beq_eq_false_iff_ne.2 hz0
              have HRe : Hid (rend (some []) = 0) := rfl
              go_wp2_with (first
                | (go_at_call 21; refine (rnumber_s _ g d s4 HR.out 8).mono ?_; unfold NumPost; rw [HM8.out, HNv.out, HSv.out]; rintro e w8 ⟨rfl, hr8, hk8, hz8⟩; have R8 := Lib.hid hr8; have K8 := Lib.hid hk8; clear hr8 hk8 hz8; have HB8 : Hid (Blk w8 (w.heap.size + 1) 40 #[.slice A1 k e1, .slice A2 m e2, .int .u64 0]) := HB.out.keeps K8.out (by have := HGg.out; omega); have c28 : w8.cell? ⟨w.heap.size + 1, 2, none⟩ = some (.int .u64 0) := HB8.out.cell 2; have f28 : w8.frozen? ⟨w.heap.size + 1, 2, none⟩ = false := HB8.out.frozen 2)
                | (go_at_call 22; refine (rend_s _ g d (some []) (R8.out.keeps ((Keeps.refl (fun b => b = w.heap.size + 1) w8).setCell (p := ⟨w.heap.size + 1, 2, none⟩) rfl _) (by have := HGg.out; omega) (fun j e h => by have := HDd.out j e; omega))).mono ?_; rw [HRe.out]; rintro e w10 ⟨rfl, hw10⟩; have W10 := Lib.hid hw10; clear hw10; have HB10 : Hid (Blk w10 (w.heap.size + 1) 40 (txC t).toArray) := (by show Blk _ _ _ _; rw [← HBT.out, ← W10.out]; exact HB8.out.set 2 _); have K10 : Hid (Keeps (Stored g (w.heap.size + 1) none) wr w10) := (by show Keeps _ _ _; rw [← W10.out]; exact (K8.out.mono (fun j _ h => .inl h)).setCell (p := ⟨w.heap.size + 1, 2, none⟩) (.inr (.inl rfl)) _); have HBz10 := Lib.hid (HBz.out.keeps K10.out (fun h => by rcases h with h | h | h; have := HGg.out; omega; omega; cases h)); have HT10 := Lib.hid (HTk.out w10 (K10.out.mono (fun _ _ h => .inl h))); have Hb10 := Lib.hid (kept_below Hb.out K10.out Hb.out.size (by have := HGg.out; omega) (by omega) (fun j hj => by cases hj)); have HB10r := Lib.hid (blkR (vs := txC t) HB10.out); have d0 : w10.cell? ⟨w.heap.size + 1, 0, none⟩ = some (.slice t.A t.ins.length t.c) := HB10.out.cell 0; have d1 : w10.cell? ⟨w.heap.size + 1, 1, none⟩ = some (.slice t.B t.outs.length t.d) := HB10.out.cell 1; have d2 : w10.cell? ⟨w.heap.size + 1, 2, none⟩ = some (.int .u64 (t.nonce : Int)) := HB10.out.cell 2)
                | (go_at_call 60; refine (may_any w10 t HT10.out).mono ?_; rw [HZv.out]; rintro e w11 ⟨rfl, hb11⟩; have V11 := Lib.hid hb11; clear hb11; have HB11 := Lib.hid (HB10.out.below V11.out HB10.out.lt); clear d0 d1 d2; have d0 : w11.cell? ⟨w.heap.size + 1, 0, none⟩ = some (.slice t.A t.ins.length t.c) := HB11.out.cell 0; have d1 : w11.cell? ⟨w.heap.size + 1, 1, none⟩ = some (.slice t.B t.outs.length t.d) := HB11.out.cell 1; have d2 : w11.cell? ⟨w.heap.size + 1, 2, none⟩ = some (.int .u64 (t.nonce : Int)) := HB11.out.cell 2)
                | ((with_reducible show wpList _ _ _ (⟨none, .store 40 _ _, _, _, _, _⟩ :: _) _ _); refine wpList_store_all rfl 40 (.tmp 2) (.tmp 45) rfl w.heap.size 40 txZ (txC noT).toArray rfl rfl (HBz10.out.below V11.out HBz10.out.lt) rfl HZN.out (txC_one noT) ?_; intro w12 h5 h6 h7; have B12 := Lib.hid h5; have K12 := Lib.hid h6; clear h5 h6 h7))
              refine bodyPost_ret (row_tmp Tryd.results42 _ _ w.heap.size 40 _ _ rfl B12.out Tryd.underlying40 rfl HZN.out _ rfl) rfl ⟨noT, by rw [HOB.out]; rfl, ?_, ?_, ?_, fun W _ => noT_ok W⟩
              · rw [ofV, HOB.out]; rfl
              · exact noT_ok w12
              · exact (nxTr Hb10.out V11.out).trans (K12.out.below (nxTr Hb10.out V11.out).size (fun j hj => by omega))
          · have HOB : Hid (ofB b = false) := by show _ = _; rw [ofB, HRv.out, decide_eq_false hs, Bool.false_and]
            have HRe : Hid (rend s5 = 4) := if_neg hs
            go_wp2_with (first
              | (go_at_call 21; refine (rnumber_s _ g d s4 HR.out 8).mono ?_; unfold NumPost; rw [HM8.out, HNv.out, HSv.out]; rintro e w8 ⟨rfl, hr8, hk8, hz8⟩; have R8 := Lib.hid hr8; have K8 := Lib.hid hk8; clear hr8 hk8 hz8; have HB8 : Hid (Blk w8 (w.heap.size + 1) 40 #[.slice A1 k e1, .slice A2 m e2, .int .u64 0]) := HB.out.keeps K8.out (by have := HGg.out; omega); have c28 : w8.cell? ⟨w.heap.size + 1, 2, none⟩ = some (.int .u64 0) := HB8.out.cell 2; have f28 : w8.frozen? ⟨w.heap.size + 1, 2, none⟩ = false := HB8.out.frozen 2)
              | (go_at_call 22; refine (rend_s _ g d s5 (R8.out.keeps ((Keeps.refl (fun b => b = w.heap.size + 1) w8).setCell (p := ⟨w.heap.size + 1, 2, none⟩) rfl _) (by have := HGg.out; omega) (fun j e h => by have := HDd.out j e; omega))).mono ?_; rw [HRe.out]; rintro e w10 ⟨rfl, hw10⟩; have W10 := Lib.hid hw10; clear hw10; have HB10 : Hid (Blk w10 (w.heap.size + 1) 40 (txC t).toArray) := (by show Blk _ _ _ _; rw [← HBT.out, ← W10.out]; exact HB8.out.set 2 _); have K10 : Hid (Keeps (Stored g (w.heap.size + 1) none) wr w10) := (by show Keeps _ _ _; rw [← W10.out]; exact (K8.out.mono (fun j _ h => .inl h)).setCell (p := ⟨w.heap.size + 1, 2, none⟩) (.inr (.inl rfl)) _); have HBz10 := Lib.hid (HBz.out.keeps K10.out (fun h => by rcases h with h | h | h; have := HGg.out; omega; omega; cases h)); have HT10 := Lib.hid (HTk.out w10 (K10.out.mono (fun _ _ h => .inl h))); have Hb10 := Lib.hid (kept_below Hb.out K10.out Hb.out.size (by have := HGg.out; omega) (by omega) (fun j hj => by cases hj)); have HB10r := Lib.hid (blkR (vs := txC t) HB10.out); have d0 : w10.cell? ⟨w.heap.size + 1, 0, none⟩ = some (.slice t.A t.ins.length t.c) := HB10.out.cell 0; have d1 : w10.cell? ⟨w.heap.size + 1, 1, none⟩ = some (.slice t.B t.outs.length t.d) := HB10.out.cell 1; have d2 : w10.cell? ⟨w.heap.size + 1, 2, none⟩ = some (.int .u64 (t.nonce : Int)) := HB10.out.cell 2)
              | ((with_reducible show wpList _ _ _ (⟨none, .store 40 _ _, _, _, _, _⟩ :: _) _ _); refine wpList_store_all rfl 40 (.tmp 2) (.tmp 45) rfl w.heap.size 40 txZ (txC noT).toArray rfl rfl HBz10.out rfl HZN.out (txC_one noT) ?_; intro w12 h5 h6 h7; have B12 := Lib.hid h5; have K12 := Lib.hid h6; clear h5 h6 h7))
            refine bodyPost_ret (row_tmp Tryd.results42 _ _ w.heap.size 40 _ _ rfl B12.out Tryd.underlying40 rfl HZN.out _ rfl) rfl ⟨noT, by rw [HOB.out]; rfl, ?_, ?_, ?_, fun W _ => noT_ok W⟩
            · rw [ofV, HOB.out]; rfl
            · exact noT_ok w12
            · exact (Hb10.out).trans (K12.out.below (Hb10.out).size (fun j hj => by omega))
theorem of_any (w : World) (Bx : Nat) (A : Option Addr) (b : List UInt8) (c : Nat) (hS : Sees w Bx A b) (hlen : b.length ≤ 1099511627776) :
    Calls Tryd.prog 42 #[.slice A b.length c] w (OfPost w b) :=
  (of_anyK w Bx A b c hS hlen).mono fun _ _ ⟨t, h1, h2, h3, h4, _⟩ => ⟨t, h1, h2, h3, h4⟩
end Go.Proofs.YtpfjkjogljilnaaDoor
