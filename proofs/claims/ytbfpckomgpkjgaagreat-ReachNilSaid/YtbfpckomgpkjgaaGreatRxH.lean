/-
  reach: known: the chapter's rows.
-/
import Derived.Test.YtbfpckomgpkjgaaGreatPRnQ21
namespace Go.Proofs.YtbfpckomgpkjgaaGreat
open Go.RowKit Go.Shelf

theorem rxTo_kb {w w' : World} {base : Nat} {m m' : RxM} {p : Nat} {r a b c : Hh} (hk : KB w p r a b c) (hg : RxOk w base m) (ha : RxTo w base m m' w') (hb : p + 3 < base) : KB w' p r a b c := hk.keeps ha.k fun j hj => by have := (hg.lt hj).1; omega
set_option maxRecDepth 100000 in
set_option maxHeartbeats 8000000 in
theorem rx_known (w : World) : Calls Tryz.prog 9 #[] w fun e w' => e = .returned (.bool true) ∧ Below w.heap.size w w' := by
  have e1 : (#[.int .u8 1, .int .u8 0, .int .u8 0, .int .u8 0, .int .u8 0, .int .u8 0, .int .u8 0, .int .u8 0, .int .u8 0, .int .u8 0, .int .u8 0, .int .u8 0, .int .u8 0, .int .u8 0, .int .u8 0, .int .u8 0, .int .u8 0, .int .u8 0, .int .u8 0, .int .u8 0, .int .u8 0, .int .u8 0, .int .u8 0, .int .u8 0, .int .u8 0, .int .u8 0, .int .u8 0, .int .u8 0, .int .u8 0, .int .u8 0, .int .u8 0, .int .u8 0] : Array Value) = (hC (kh 1)).toArray := rfl
  have e2 : (#[.int .u8 2, .int .u8 0, .int .u8 0, .int .u8 0, .int .u8 0, .int .u8 0, .int .u8 0, .int .u8 0, .int .u8 0, .int .u8 0, .int .u8 0, .int .u8 0, .int .u8 0, .int .u8 0, .int .u8 0, .int .u8 0, .int .u8 0, .int .u8 0, .int .u8 0, .int .u8 0, .int .u8 0, .int .u8 0, .int .u8 0, .int .u8 0, .int .u8 0, .int .u8 0, .int .u8 0, .int .u8 0, .int .u8 0, .int .u8 0, .int .u8 0, .int .u8 0] : Array Value) = (hC (kh 2)).toArray := rfl
  have e3 : (#[.int .u8 3, .int .u8 0, .int .u8 0, .int .u8 0, .int .u8 0, .int .u8 0, .int .u8 0, .int .u8 0, .int .u8 0, .int .u8 0, .int .u8 0, .int .u8 0, .int .u8 0, .int .u8 0, .int .u8 0, .int .u8 0, .int .u8 0, .int .u8 0, .int .u8 0, .int .u8 0, .int .u8 0, .int .u8 0, .int .u8 0, .int .u8 0, .int .u8 0, .int .u8 0, .int .u8 0, .int .u8 0, .int .u8 0, .int .u8 0, .int .u8 0, .int .u8 0] : Array Value) = (hC (kh 3)).toArray := rfl
  have e4 : (#[.int .u8 4, .int .u8 0, .int .u8 0, .int .u8 0, .int .u8 0, .int .u8 0, .int .u8 0, .int .u8 0, .int .u8 0, .int .u8 0, .int .u8 0, .int .u8 0, .int .u8 0, .int .u8 0, .int .u8 0, .int .u8 0, .int .u8 0, .int .u8 0, .int .u8 0, .int .u8 0, .int .u8 0, .int .u8 0, .int .u8 0, .int .u8 0, .int .u8 0, .int .u8 0, .int .u8 0, .int .u8 0, .int .u8 0, .int .u8 0, .int .u8 0, .int .u8 0] : Array Value) = (hC (kh 4)).toArray := rfl
  have He1 := Lib.hid kx_r1
  have He2 := Lib.hid kx_r2
  have He3 := Lib.hid kx_r3
  have Hx1 := Lib.hid kx_x1
  have Hx2 := Lib.hid kx_x2
  have Hx3 := Lib.hid kx_x3
  have Hp1 := Lib.hid kx_p1
  have Hp2 := Lib.hid kx_p2
  have Hp3 := Lib.hid kx_p3
  have HCv : Hid (∀ m : RxM, RxI m G3 → parT m.t.T = [0, 0, 0, 1] → covL G3 m.C 2 = [kh 4]) := fun m hi hp => kx_cov hi.ix hp
  have HC1 : Hid (∀ m : RxM, RxI m G3 → parT m.t.T = [0, 0, 0, 1] → chB G3 m.t.T (kh 3) (kh 4) = false) := fun m hi hp => kx_ch1 hi.t.ok hp
  have HC2 : Hid (∀ m : RxM, RxI m G3 → parT m.t.T = [0, 0, 0, 1] → chB G3 m.t.T (kh 2) (kh 4) = true) := fun m hi hp => kx_ch2 hp
  have HBf := Lib.hid kx_bef
  have HPl := Lib.hid kx_pl2
  have HL0 : Hid ((newG (kh 1)).length ≤ 3) := by show _ ≤ _; decide +kernel
  have HL1 : Hid (G1.length ≤ 3) := by show _ ≤ _; decide +kernel
  have HL2 : Hid (G2.length ≤ 3) := by show _ ≤ _; decide +kernel
  generalize G3 = g3 at *
  generalize G2 = g2 at *
  generalize G1 = g1 at *
  generalize kh 1 = r at *
  generalize kh 2 = a at *
  generalize kh 3 = b at *
  generalize kh 4 = c at *
  have V0 : Hid (Below w.heap.size w ((((w.alloc (.cells (hC zH).toArray 23)).alloc (.cells (hC zH).toArray 23)).alloc (.cells (hC zH).toArray 23)).alloc (.cells (hC zH).toArray 23))) := nxAlloc (nxAlloc (nxAlloc (nxAlloc (nxRefl w) _) _) _) _
  have KB0 : Hid (KB ((((w.alloc (.cells (hC zH).toArray 23)).alloc (.cells (hC zH).toArray 23)).alloc (.cells (hC zH).toArray 23)).alloc (.cells (hC zH).toArray 23)) w.heap.size zH zH zH zH) := ⟨((blkNew rfl rfl : Blk (w.alloc (.cells (hC zH).toArray 23)) w.heap.size 23 (hC zH).toArray).alloc _ |>.alloc _).alloc _, ((blkNew (by simp) rfl : Blk ((w.alloc (.cells (hC zH).toArray 23)).alloc (.cells (hC zH).toArray 23)) (w.heap.size + 1) 23 (hC zH).toArray).alloc _).alloc _, (blkNew (by simp) rfl : Blk (((w.alloc (.cells (hC zH).toArray 23)).alloc (.cells (hC zH).toArray 23)).alloc (.cells (hC zH).toArray 23)) (w.heap.size + 2) 23 (hC zH).toArray).alloc _, blkNew (by simp) rfl⟩
  go_enter Tryz.func9, Tryz.ntmps9
  go_wp2_with (first
    | ((with_reducible show wpList _ _ _ (⟨none, .store 23 (.tmp 1) _, _, _, _, _⟩ :: _) _ _); clear e1 e2 e3 e4; refine wpList_store_all rfl 23 (.tmp 1) (.tmp 8) rfl w.heap.size 23 (hC zH).toArray (hC r).toArray rfl rfl KB0.out.1 (by rw [List.size_toArray, List.size_toArray, hC_len, hC_len]) (hszB r) (hC_one r) ?_; intro w5 h5 h6 h7; have KB1 : Hid (KB w5 w.heap.size r zH zH zH) := ⟨h5, KB0.out.2.1.keeps h6 (by show ¬ (_ : Nat) = _; omega), KB0.out.2.2.1.keeps h6 (by show ¬ (_ : Nat) = _; omega), KB0.out.2.2.2.keeps h6 (by show ¬ (_ : Nat) = _; omega)⟩; have V1 : Hid (Below w.heap.size w w5) := V0.out.trans (h6.below V0.out.size (fun k hk => by omega)); clear h5 h6 h7)
    | ((with_reducible show wpList _ _ _ (⟨none, .store 23 (.tmp 2) _, _, _, _, _⟩ :: _) _ _); refine wpList_store_all rfl 23 (.tmp 2) (.tmp 9) rfl (w.heap.size + 1) 23 (hC zH).toArray (hC a).toArray rfl rfl KB1.out.2.1 (by rw [List.size_toArray, List.size_toArray, hC_len, hC_len]) (hszB a) (hC_one a) ?_; intro w6 h5 h6 h7; have KB2 : Hid (KB w6 w.heap.size r a zH zH) := ⟨KB1.out.1.keeps h6 (by show ¬ (_ : Nat) = _; omega), h5, KB1.out.2.2.1.keeps h6 (by show ¬ (_ : Nat) = _; omega), KB1.out.2.2.2.keeps h6 (by show ¬ (_ : Nat) = _; omega)⟩; have V2 : Hid (Below w.heap.size w w6) := V1.out.trans (h6.below V1.out.size (fun k hk => by omega)); clear h5 h6 h7)
    | ((with_reducible show wpList _ _ _ (⟨none, .store 23 (.tmp 3) _, _, _, _, _⟩ :: _) _ _); refine wpList_store_all rfl 23 (.tmp 3) (.tmp 10) rfl (w.heap.size + 2) 23 (hC zH).toArray (hC b).toArray rfl rfl KB2.out.2.2.1 (by rw [List.size_toArray, List.size_toArray, hC_len, hC_len]) (hszB b) (hC_one b) ?_; intro w7 h5 h6 h7; have KB3 : Hid (KB w7 w.heap.size r a b zH) := ⟨KB2.out.1.keeps h6 (by show ¬ (_ : Nat) = _; omega), KB2.out.2.1.keeps h6 (by show ¬ (_ : Nat) = _; omega), h5, KB2.out.2.2.2.keeps h6 (by show ¬ (_ : Nat) = _; omega)⟩; have V3 : Hid (Below w.heap.size w w7) := V2.out.trans (h6.below V2.out.size (fun k hk => by omega)); clear h5 h6 h7)
    | ((with_reducible show wpList _ _ _ (⟨none, .store 23 (.tmp 4) _, _, _, _, _⟩ :: _) _ _); refine wpList_store_all rfl 23 (.tmp 4) (.tmp 11) rfl (w.heap.size + 3) 23 (hC zH).toArray (hC c).toArray rfl rfl KB3.out.2.2.2 (by rw [List.size_toArray, List.size_toArray, hC_len, hC_len]) (hszB c) (hC_one c) ?_; intro w8 h5 h6 h7; have KB4 : Hid (KB w8 w.heap.size r a b c) := ⟨KB3.out.1.keeps h6 (by show ¬ (_ : Nat) = _; omega), KB3.out.2.1.keeps h6 (by show ¬ (_ : Nat) = _; omega), KB3.out.2.2.1.keeps h6 (by show ¬ (_ : Nat) = _; omega), h5⟩; have V4 : Hid (Below w.heap.size w w8) := V3.out.trans (h6.below V3.out.size (fun k hk => by omega)); clear h5 h6 h7)
    | ((with_reducible show wpList _ _ _ (⟨some 12, _, _, _, _, _⟩ :: _) _ _); refine wpList_load_mid rfl 23 (.tmp 1) rfl w.heap.size 0 rfl (hC r) _ (kbR KB4.out 0 rfl) Tryz.underlying23 rfl (hszL r) ?_)
    | (go_at_call 30; refine (rx_new _ r).mono ?_; rintro e9 w9 ⟨m0, rfl, hg9, hi9, hb9⟩; have GW0 := Lib.hid hg9; have GI0 := Lib.hid hi9; have PS0 := Lib.hid (new_par hi9); have K9 := Lib.hid (KB4.out.later hb9); have V9 : Hid (Below w.heap.size w w9) := nxTo V4.out hb9; have HB0 : Hid (w8.heap.size ≤ w9.heap.size) := hb9.size; have HB8 : Hid (w.heap.size + 3 < w8.heap.size) := KB4.out.2.2.2.lt; clear hg9 hi9 hb9)
    | ((with_reducible show wpList _ _ _ (⟨some 15, _, _, _, _, _⟩ :: _) _ _); refine wpList_load_mid rfl 23 (.tmp 2) rfl (w.heap.size + 1) 0 rfl (hC a) _ (kbR K9.out 1 rfl) Tryz.underlying23 rfl (hszL a) ?_)
    | ((with_reducible show wpList _ _ _ (⟨some 16, _, _, _, _, _⟩ :: _) _ _); refine wpList_load_mid rfl 23 (.tmp 1) rfl w.heap.size 0 rfl (hC r) _ (kbR K9.out 0 rfl) Tryz.underlying23 rfl (hszL r) ?_)
    | ((with_reducible show wpList _ _ _ (⟨some 17, _, _, _, _, _⟩ :: _) _ _); refine wpList_load_mid rfl 23 (.tmp 1) rfl w.heap.size 0 rfl (hC r) _ (kbR K9.out 0 rfl) Tryz.underlying23 rfl (hszL r) ?_)
    | ((with_reducible show wpList _ _ _ (⟨some 18, _, _, _, _, _⟩ :: _) _ _); refine wpList_build1 rfl 33 23 (.tmp 17) rfl (hC r) _ 32 32 Tryz.underlying33 Tryz.dinfoH (by decide) (by decide) (hC_len r) rfl ?_)
    | (go_at_call 25; (with_reducible show Calls _ _ #[_, .agg (hC a).toArray, _, _] _ _); refine (rx_add _ w8.heap.size m0 (newG r) (GW0.out.later (nxAlloc (nxRefl _) _)) GI0.out (by rw [World.size_alloc]; have := HB0.out; omega) a r _ [r] 1 (by rw [hsC_1]; exact SeesV.blk (heap_alloc_new w9 _)) (by simp) (by have := HL0.out; omega)).mono ?_; unfold RxAdded; rw [He1.out, Hx1.out]; rintro e10 w10 ⟨rfl, m1, ha, hi, hp⟩; rw [PS0.out, Hp1.out] at hp; have PS1 := Lib.hid hp; have GW1 := Lib.hid ha.ok; have GI1 := Lib.hid hi; have K10 := Lib.hid (rxTo_kb (K9.out.later (nxAlloc (nxRefl _) _)) (GW0.out.later (nxAlloc (nxRefl _) _)) ha HB8.out); have V10 := Lib.hid (RxTo.v (nxAlloc V9.out _) (GW0.out.later (nxAlloc (nxRefl _) _)) ha V4.out.size); have HB1 : Hid (w8.heap.size ≤ w10.heap.size) := (by have h1 := ha.k.size; rw [World.size_alloc] at h1; have h2 := HB0.out; show _ ≤ _; omega); (have e1q : m1.q = m0.q := ha.q); have E1q := Lib.hid e1q; rw [← e1q]; clear ha hi hp e1q)
    | ((with_reducible show wpList _ _ _ (⟨some 23, _, _, _, _, _⟩ :: _) _ _); refine wpList_unguard (by rfl) ?_; refine wpList_load_mid rfl 23 (.tmp 3) rfl (w.heap.size + 2) 0 rfl (hC b) _ (kbR K10.out 2 rfl) Tryz.underlying23 rfl (hszL b) ?_)
    | ((with_reducible show wpList _ _ _ (⟨some 24, _, _, _, _, _⟩ :: _) _ _); refine wpList_unguard (by rfl) ?_; refine wpList_load_mid rfl 23 (.tmp 1) rfl w.heap.size 0 rfl (hC r) _ (kbR K10.out 0 rfl) Tryz.underlying23 rfl (hszL r) ?_)
    | ((with_reducible show wpList _ _ _ (⟨some 25, _, _, _, _, _⟩ :: _) _ _); refine wpList_unguard (by rfl) ?_; refine wpList_load_mid rfl 23 (.tmp 1) rfl w.heap.size 0 rfl (hC r) _ (kbR K10.out 0 rfl) Tryz.underlying23 rfl (hszL r) ?_)
    | ((with_reducible show wpList _ _ _ (⟨some 26, _, _, _, _, _⟩ :: _) _ _); refine wpList_unguard (by rfl) ?_; refine wpList_build1 rfl 33 23 (.tmp 25) rfl (hC r) _ 32 32 Tryz.underlying33 Tryz.dinfoH (by decide) (by decide) (hC_len r) rfl ?_)
    | (go_at_call 25; (with_reducible show Calls _ _ #[_, .agg (hC b).toArray, _, _] _ _); refine (rx_add _ w8.heap.size m1 g1 (GW1.out.later (nxAlloc (nxRefl _) _)) GI1.out (by rw [World.size_alloc]; have := HB1.out; omega) b r _ [r] 1 (by rw [hsC_1]; exact SeesV.blk (heap_alloc_new w10 _)) (by simp) (by have := HL1.out; omega)).mono ?_; unfold RxAdded; rw [He2.out, Hx2.out]; rintro e11 w11 ⟨rfl, m2, ha, hi, hp⟩; rw [PS1.out, Hp2.out] at hp; have PS2 := Lib.hid hp; have GW2 := Lib.hid ha.ok; have GI2 := Lib.hid hi; have K11 := Lib.hid (rxTo_kb (K10.out.later (nxAlloc (nxRefl _) _)) (GW1.out.later (nxAlloc (nxRefl _) _)) ha HB8.out); have V11 := Lib.hid (RxTo.v (nxAlloc V10.out _) (GW1.out.later (nxAlloc (nxRefl _) _)) ha V4.out.size); have HB2 : Hid (w8.heap.size ≤ w11.heap.size) := (by have h1 := ha.k.size; rw [World.size_alloc] at h1; have h2 := HB1.out; show _ ≤ _; omega); (have e2q : m2.q = m1.q := ha.q); have E2q := Lib.hid e2q; rw [← e2q]; clear ha hi hp e2q)
    | ((with_reducible show wpList _ _ _ (⟨some 32, _, _, _, _, _⟩ :: _) _ _); refine wpList_unguard (by rfl) ?_; refine wpList_load_mid rfl 23 (.tmp 4) rfl (w.heap.size + 3) 0 rfl (hC c) _ (kbR K11.out 3 rfl) Tryz.underlying23 rfl (hszL c) ?_)
    | ((with_reducible show wpList _ _ _ (⟨some 33, _, _, _, _, _⟩ :: _) _ _); refine wpList_unguard (by rfl) ?_; refine wpList_load_mid rfl 23 (.tmp 2) rfl (w.heap.size + 1) 0 rfl (hC a) _ (kbR K11.out 1 rfl) Tryz.underlying23 rfl (hszL a) ?_)
    | ((with_reducible show wpList _ _ _ (⟨some 34, _, _, _, _, _⟩ :: _) _ _); refine wpList_unguard (by rfl) ?_; refine wpList_load_mid rfl 23 (.tmp 2) rfl (w.heap.size + 1) 0 rfl (hC a) _ (kbR K11.out 1 rfl) Tryz.underlying23 rfl (hszL a) ?_)
    | ((with_reducible show wpList _ _ _ (⟨some 35, _, _, _, _, _⟩ :: _) _ _); refine wpList_unguard (by rfl) ?_; refine wpList_load_mid rfl 23 (.tmp 3) rfl (w.heap.size + 2) 0 rfl (hC b) _ (kbR K11.out 2 rfl) Tryz.underlying23 rfl (hszL b) ?_)
    | ((with_reducible show wpList _ _ _ (⟨some 36, _, _, _, _, _⟩ :: _) _ _); refine wpList_unguard (by rfl) ?_; refine wpList_build_two rfl (.tmp 34) (.tmp 35) rfl a b rfl rfl ?_)
    | (go_at_call 25; (with_reducible show Calls _ _ #[_, .agg (hC c).toArray, _, _] _ _); refine (rx_add _ w8.heap.size m2 g2 (GW2.out.later (nxAlloc (nxRefl _) _)) GI2.out (by rw [World.size_alloc]; have := HB2.out; omega) c a _ [a, b] 2 (by rw [hsC_2]; exact SeesV.blk (heap_alloc_new w11 _)) (by simp) (by have := HL2.out; omega)).mono ?_; unfold RxAdded; rw [He3.out, Hx3.out]; rintro e12 w12 ⟨rfl, m3, ha, hi, hp⟩; rw [PS2.out, Hp3.out] at hp; have PS3 := Lib.hid hp; have GW3 := Lib.hid ha.ok; have GI3 := Lib.hid hi; have K12 := Lib.hid (rxTo_kb (K11.out.later (nxAlloc (nxRefl _) _)) (GW2.out.later (nxAlloc (nxRefl _) _)) ha HB8.out); have V12 := Lib.hid (RxTo.v (nxAlloc V11.out _) (GW2.out.later (nxAlloc (nxRefl _) _)) ha V4.out.size); have HB3 : Hid (w8.heap.size ≤ w12.heap.size) := (by have h1 := ha.k.size; rw [World.size_alloc] at h1; have h2 := HB2.out; show _ ≤ _; omega); (have e3q : m3.q = m2.q := ha.q); have E3q := Lib.hid e3q; rw [← e3q]; clear ha hi hp e3q)
    | ((with_reducible show wpList _ _ _ (⟨some 42, _, _, _, _, _⟩ :: _) _ _); refine wpList_load_mid rfl 23 (.tmp 3) rfl (w.heap.size + 2) 0 rfl (hC b) _ (kbR K12.out 2 rfl) Tryz.underlying23 rfl (hszL b) ?_)
    | (go_at_call 15; refine (rx_coverL w12 w8.heap.size m3 g3 GW3.out GI3.out b 2 HPl.out).mono ?_; rw [HCv.out m3 GI3.out PS3.out]; unfold CoverPost; rintro e13 w13 ⟨A13, c13, rfl, ho13, hb13⟩; have O13 := Lib.hid ho13; have K13 := Lib.hid (K12.out.later hb13); have V13 : Hid (Below w.heap.size w w13) := nxTo V12.out hb13; have GW6 := Lib.hid (GW3.out.later hb13); clear ho13 hb13))
  obtain ⟨gl, cs9, hA9, _, hB9, _, _, _, ht9, _⟩ := own_blk1 O13.out (by simp)
  subst hA9
  have L13 : Hid (w13.rangeAt gl 0 (hC c)) := by
    have h9 := blk_hash (l := [c]) (j := 0) hB9 ht9 (by simp)
    rw [Nat.zero_mul] at h9
    exact h9
  have HGl : Hid (gl < w13.heap.size) := hB9.lt
  clear hB9 ht9
  have hdr : Below w13.heap.size w13 w13.drew := rxDr (nxRefl _)
  have KD : Hid (KB w13.drew w.heap.size r a b c) := K13.out.later hdr
  have GD : Hid (RxOk w13.drew w8.heap.size m3) := GW6.out.later hdr
  have LD : Hid (w13.drew.rangeAt gl 0 (hC c)) := rngK L13.out hdr HGl.out
  have VD : Hid (Below w.heap.size w w13.drew) := nxTo V13.out hdr
  have HGd : Hid (gl < w13.drew.heap.size) := Nat.lt_of_lt_of_le HGl.out hdr.size
  clear hdr
  refine wp_region_held_drew (S := fun W => W.rangeAt w.heap.size 0 (hC r) ∧ W.rangeAt (w.heap.size + 1) 0 (hC a) ∧ W.rangeAt (w.heap.size + 2) 0 (hC b) ∧ W.rangeAt (w.heap.size + 3) 0 (hC c) ∧ W.rangeAt gl 0 (hC c)) (by kernel_rfl) ⟨kbR K13.out 0 rfl, kbR K13.out 1 rfl, kbR K13.out 2 rfl, kbR K13.out 3 rfl, L13.out⟩ (fun hHeld => ?_)
  refine wpAnyH_take (i := 0) (oi := ⟨_, _, _, _, _, _⟩) (v := ?_) rfl (by kernel_rfl) (by kernel_rfl) (by kernel_rfl) (fun _ _ _ h => h) (Or.inl ⟨by rfl, ?_⟩) (by assumption) ?_
  rotate_left 1
  · intro W hSw
    try dsimp only at hSw
    obtain ⟨hs1, hs2, hs3, hs4, hs5⟩ := hSw
    go_simp
    try with_reducible rfl
  try simp only [Act.put, List.setIfInBounds_toArray, List.set_cons_zero, List.set_cons_succ]
  refine wpAnyH_take (i := 1) (oi := ⟨_, _, _, _, _, _⟩) (v := ?_) rfl (by kernel_rfl) (by kernel_rfl) (by kernel_rfl) (fun _ _ _ h => h) (Or.inl ⟨by rfl, ?_⟩) (by assumption) ?_
  rotate_left 1
  · intro W hSw
    try dsimp only at hSw
    obtain ⟨hs1, hs2, hs3, hs4, hs5⟩ := hSw
    go_simp
    try with_reducible rfl
  try simp only [Act.put, List.setIfInBounds_toArray, List.set_cons_zero, List.set_cons_succ]
  refine wpAnyH_take (i := 2) (oi := ⟨_, _, _, _, _, _⟩) (v := ?_) rfl (by kernel_rfl) (by kernel_rfl) (by kernel_rfl) (fun _ _ _ h => h) (Or.inl ⟨by rfl, ?_⟩) (by assumption) ?_
  rotate_left 1
  · intro W hSw
    try dsimp only at hSw
    obtain ⟨hs1, hs2, hs3, hs4, hs5⟩ := hSw
    go_simp
    try with_reducible rfl
  try simp only [Act.put, List.setIfInBounds_toArray, List.set_cons_zero, List.set_cons_succ]
  refine wpAnyH_take (i := 3) (oi := ⟨_, _, _, _, _, _⟩) (v := ?_) rfl (by kernel_rfl) (by kernel_rfl) (by kernel_rfl) (fun _ _ _ h => h) (Or.inl ⟨by rfl, ?_⟩) (by assumption) ?_
  rotate_left 1
  · intro W hSw
    try dsimp only at hSw
    obtain ⟨hs1, hs2, hs3, hs4, hs5⟩ := hSw
    go_simp
    try with_reducible rfl
  try simp only [Act.put, List.setIfInBounds_toArray, List.set_cons_zero, List.set_cons_succ]
  refine wpAnyH_take (i := 4) (oi := ⟨_, _, _, _, _, _⟩) (v := ?_) rfl (by kernel_rfl) (by kernel_rfl) (by kernel_rfl) (fun _ _ _ h => h) (Or.inl ⟨by rfl, ?_⟩) (by assumption) ?_
  rotate_left 1
  · intro W hSw
    try dsimp only at hSw
    obtain ⟨hs1, hs2, hs3, hs4, hs5⟩ := hSw
    go_simp
    try with_reducible rfl
  try simp only [Act.put, List.setIfInBounds_toArray, List.set_cons_zero, List.set_cons_succ]
  refine wpAnyH_take (i := 5) (oi := ⟨_, _, _, _, _, _⟩) (v := ?_) rfl (by kernel_rfl) (by kernel_rfl) (by kernel_rfl) (fun _ _ _ h => h) (Or.inl ⟨by rfl, ?_⟩) (by assumption) ?_
  rotate_left 1
  · intro W hSw
    try dsimp only at hSw
    obtain ⟨hs1, hs2, hs3, hs4, hs5⟩ := hSw
    go_simp
    try with_reducible rfl
  try simp only [Act.put, List.setIfInBounds_toArray, List.set_cons_zero, List.set_cons_succ]
  refine wpAnyH_take (i := 6) (oi := ⟨_, _, _, _, _, _⟩) (v := ?_) rfl (by kernel_rfl) (by kernel_rfl) (by kernel_rfl) (fun _ _ _ h => h) (Or.inl ⟨by rfl, ?_⟩) (by assumption) ?_
  rotate_left 1
  · intro W hSw
    try dsimp only at hSw
    obtain ⟨hs1, hs2, hs3, hs4, hs5⟩ := hSw
    go_simp
    try with_reducible rfl
  try simp only [Act.put, List.setIfInBounds_toArray, List.set_cons_zero, List.set_cons_succ]
  refine wpAnyH_take (i := 7) (oi := ⟨_, _, _, _, _, _⟩) (v := ?_) rfl (by kernel_rfl) (by kernel_rfl) (by kernel_rfl) (fun _ _ _ h => h) (Or.inl ⟨by rfl, ?_⟩) (by assumption) ?_
  rotate_left 1
  · intro W hSw
    try dsimp only at hSw
    obtain ⟨hs1, hs2, hs3, hs4, hs5⟩ := hSw
    go_simp
    try with_reducible rfl
  try simp only [Act.put, List.setIfInBounds_toArray, List.set_cons_zero, List.set_cons_succ]
  refine wpAnyH_take (i := 8) (oi := ⟨_, _, _, _, _, _⟩) (v := ?_) rfl (by kernel_rfl) (by kernel_rfl) (by kernel_rfl) (fun _ _ _ h => h) (Or.inl ⟨by rfl, ?_⟩) (by assumption) ?_
  rotate_left 1
  · intro W hSw
    try dsimp only at hSw
    obtain ⟨hs1, hs2, hs3, hs4, hs5⟩ := hSw
    go_simp
    try with_reducible rfl
  try simp only [Act.put, List.setIfInBounds_toArray, List.set_cons_zero, List.set_cons_succ]
  refine wpAnyH_take (i := 9) (oi := ⟨_, _, _, _, _, _⟩) (v := ?_) rfl (by kernel_rfl) (by kernel_rfl) (by kernel_rfl) (fun _ _ _ h => h) (Or.inl ⟨by rfl, ?_⟩) (by assumption) ?_
  rotate_left 1
  · intro W hSw
    try dsimp only at hSw
    obtain ⟨hs1, hs2, hs3, hs4, hs5⟩ := hSw
    go_simp
    try with_reducible rfl
  try simp only [Act.put, List.setIfInBounds_toArray, List.set_cons_zero, List.set_cons_succ]
  refine wpAnyH_take (i := 10) (oi := ⟨_, _, _, _, _, _⟩) (v := .agg (hC c).toArray) rfl (by kernel_rfl) (by kernel_rfl) (by kernel_rfl) (fun _ _ _ h => h) (yieldsIf_load_mid (by rfl) 23 (.tmp 55) rfl gl 0 rfl (hC c) _ (fun W h => h.2.2.2.2) Tryz.underlying23 rfl (hszL c)) (by assumption) ?_
  try simp only [Act.put, List.setIfInBounds_toArray, List.set_cons_zero, List.set_cons_succ]
  refine wpAnyH_take (i := 11) (oi := ⟨_, _, _, _, _, _⟩) (v := .agg (hC c).toArray) rfl (by kernel_rfl) (by kernel_rfl) (by kernel_rfl) (fun _ _ _ h => h) (yieldsIf_load_mid (by rfl) 23 (.tmp 4) rfl (w.heap.size + 3) 0 rfl (hC c) _ (fun W h => h.2.2.2.1) Tryz.underlying23 rfl (hszL c)) (by assumption) ?_
  try simp only [Act.put, List.setIfInBounds_toArray, List.set_cons_zero, List.set_cons_succ]
  refine wpAnyH_take (i := 12) (oi := ⟨_, _, _, _, _, _⟩) (v := .bool true) rfl (by kernel_rfl) (by kernel_rfl) (by kernel_rfl) (fun _ _ _ h => h) (yieldsIf_sameD (by rfl) 23 (.tmp 56) (.tmp 57) rfl c rfl rfl) (by assumption) ?_
  try simp only [Act.put, List.setIfInBounds_toArray, List.set_cons_zero, List.set_cons_succ]
  refine wpAnyH_take (i := 13) (oi := ⟨_, _, _, _, _, _⟩) (v := ?_) rfl (by kernel_rfl) (by kernel_rfl) (by kernel_rfl) (fun _ _ _ h => h) (Or.inl ⟨by rfl, ?_⟩) (by assumption) ?_
  rotate_left 1
  · intro W hSw
    try dsimp only at hSw
    obtain ⟨hs1, hs2, hs3, hs4, hs5⟩ := hSw
    go_simp
    try with_reducible rfl
  try simp only [Act.put, List.setIfInBounds_toArray, List.set_cons_zero, List.set_cons_succ]
  refine wpAnyH_take (i := 14) (oi := ⟨_, _, _, _, _, _⟩) (v := ?_) rfl (by kernel_rfl) (by kernel_rfl) (by kernel_rfl) (fun _ _ _ h => h) (Or.inl ⟨by rfl, ?_⟩) (by assumption) ?_
  rotate_left 1
  · intro W hSw
    try dsimp only at hSw
    obtain ⟨hs1, hs2, hs3, hs4, hs5⟩ := hSw
    go_simp
    try with_reducible rfl
  try simp only [Act.put, List.setIfInBounds_toArray, List.set_cons_zero, List.set_cons_succ]
  refine wpAnyH_take (i := 15) (oi := ⟨_, _, _, _, _, _⟩) (v := ?_) rfl (by kernel_rfl) (by kernel_rfl) (by kernel_rfl) (fun _ _ _ h => h) (Or.inl ⟨by rfl, ?_⟩) (by assumption) ?_
  rotate_left 1
  · intro W hSw
    try dsimp only at hSw
    obtain ⟨hs1, hs2, hs3, hs4, hs5⟩ := hSw
    go_simp
    try with_reducible rfl
  try simp only [Act.put, List.setIfInBounds_toArray, List.set_cons_zero, List.set_cons_succ]
  refine wpAnyH_take (i := 16) (oi := ⟨_, _, _, _, _, _⟩) (v := .agg (hC b).toArray) rfl (by kernel_rfl) (by kernel_rfl) (by kernel_rfl) (fun _ _ _ h => h) (yieldsIf_load_mid (by rfl) 23 (.tmp 3) rfl (w.heap.size + 2) 0 rfl (hC b) _ (fun W h => h.2.2.1) Tryz.underlying23 rfl (hszL b)) (by assumption) ?_
  try simp only [Act.put, List.setIfInBounds_toArray, List.set_cons_zero, List.set_cons_succ]
  refine wpAnyH_take (i := 17) (oi := ⟨_, _, _, _, _, _⟩) (v := .agg (hC c).toArray) rfl (by kernel_rfl) (by kernel_rfl) (by kernel_rfl) (fun _ _ _ h => h) (yieldsIf_load_mid (by rfl) 23 (.tmp 4) rfl (w.heap.size + 3) 0 rfl (hC c) _ (fun W h => h.2.2.2.1) Tryz.underlying23 rfl (hszL c)) (by assumption) ?_
  try simp only [Act.put, List.setIfInBounds_toArray, List.set_cons_zero, List.set_cons_succ]
  refine wpAnyH_ready (rs := [18]) (by kernel_rfl) (by simp) ?_
  refine AllReadyH.cons rfl (fun K hK => ?_) AllReadyH.nil
  go_simp
  go_at_call 19
  refine (rx_before _ w8.heap.size m3 g3 GD.out GI3.out b c).mono ?_
  rw [HBf.out]
  rintro e18 w18 ⟨rfl, hb18⟩
  have K18 := Lib.hid (KD.out.later hb18)
  have L18 := Lib.hid (rngK LD.out hb18 HGd.out)
  have GW18 := Lib.hid (GD.out.later hb18)
  have V18 : Hid (Below w.heap.size w w18) := nxTo VD.out hb18
  have HGl18 : Hid (gl < w18.heap.size) := Nat.lt_of_lt_of_le HGd.out hb18.size
  clear hb18
  refine hK.out _ _ ⟨kbR K18.out 0 rfl, kbR K18.out 1 rfl, kbR K18.out 2 rfl, kbR K18.out 3 rfl, L18.out⟩ (fun hSn => ?_)
  clear hK K
  try simp only [Act.put, List.setIfInBounds_toArray, List.set_cons_zero, List.set_cons_succ]
  refine wpAnyH_take (i := 19) (oi := ⟨_, _, _, _, _, _⟩) (v := ?_) rfl (by kernel_rfl) (by kernel_rfl) (by kernel_rfl) (fun _ _ _ h => h) (Or.inl ⟨by rfl, ?_⟩) (by assumption) ?_
  rotate_left 1
  · intro W hSw
    try dsimp only at hSw
    obtain ⟨hs1, hs2, hs3, hs4, hs5⟩ := hSw
    go_simp
    try with_reducible rfl
  try simp only [Act.put, List.setIfInBounds_toArray, List.set_cons_zero, List.set_cons_succ]
  refine wpAnyH_take (i := 20) (oi := ⟨_, _, _, _, _, _⟩) (v := ?_) rfl (by kernel_rfl) (by kernel_rfl) (by kernel_rfl) (fun _ _ _ h => h) (Or.inl ⟨by rfl, ?_⟩) (by assumption) ?_
  rotate_left 1
  · intro W hSw
    try dsimp only at hSw
    obtain ⟨hs1, hs2, hs3, hs4, hs5⟩ := hSw
    go_simp
    try with_reducible rfl
  try simp only [Act.put, List.setIfInBounds_toArray, List.set_cons_zero, List.set_cons_succ]
  refine wpAnyH_take (i := 21) (oi := ⟨_, _, _, _, _, _⟩) (v := ?_) rfl (by kernel_rfl) (by kernel_rfl) (by kernel_rfl) (fun _ _ _ h => h) (Or.inl ⟨by rfl, ?_⟩) (by assumption) ?_
  rotate_left 1
  · intro W hSw
    try dsimp only at hSw
    obtain ⟨hs1, hs2, hs3, hs4, hs5⟩ := hSw
    go_simp
    try with_reducible rfl
  try simp only [Act.put, List.setIfInBounds_toArray, List.set_cons_zero, List.set_cons_succ]
  refine wpAnyH_take (i := 22) (oi := ⟨_, _, _, _, _, _⟩) (v := .agg (hC b).toArray) rfl (by kernel_rfl) (by kernel_rfl) (by kernel_rfl) (fun _ _ _ h => h) (yieldsIf_load_mid (by rfl) 23 (.tmp 3) rfl (w.heap.size + 2) 0 rfl (hC b) _ (fun W h => h.2.2.1) Tryz.underlying23 rfl (hszL b)) (by assumption) ?_
  try simp only [Act.put, List.setIfInBounds_toArray, List.set_cons_zero, List.set_cons_succ]
  refine wpAnyH_take (i := 23) (oi := ⟨_, _, _, _, _, _⟩) (v := .agg (hC c).toArray) rfl (by kernel_rfl) (by kernel_rfl) (by kernel_rfl) (fun _ _ _ h => h) (yieldsIf_load_mid (by rfl) 23 (.tmp 4) rfl (w.heap.size + 3) 0 rfl (hC c) _ (fun W h => h.2.2.2.1) Tryz.underlying23 rfl (hszL c)) (by assumption) ?_
  try simp only [Act.put, List.setIfInBounds_toArray, List.set_cons_zero, List.set_cons_succ]
  refine wpAnyH_ready (rs := [24]) (by kernel_rfl) (by simp) ?_
  refine AllReadyH.cons rfl (fun K hK => ?_) AllReadyH.nil
  go_simp
  go_at_call 18
  refine (rx_chain _ w8.heap.size m3 g3 GW18.out GI3.out b c).mono ?_
  rw [(HC1.out m3 GI3.out PS3.out)]
  rintro e24 w24 ⟨rfl, hb24⟩
  have K24 := Lib.hid (K18.out.later hb24)
  have L24 := Lib.hid (rngK L18.out hb24 HGl18.out)
  have GW24 := Lib.hid (GW18.out.later hb24)
  have V24 : Hid (Below w.heap.size w w24) := nxTo V18.out hb24
  have HGl24 : Hid (gl < w24.heap.size) := Nat.lt_of_lt_of_le HGl18.out hb24.size
  clear hb24
  refine hK.out _ _ ⟨kbR K24.out 0 rfl, kbR K24.out 1 rfl, kbR K24.out 2 rfl, kbR K24.out 3 rfl, L24.out⟩ (fun hSn => ?_)
  clear hK K
  try simp only [Act.put, List.setIfInBounds_toArray, List.set_cons_zero, List.set_cons_succ]
  refine wpAnyH_take (i := 25) (oi := ⟨_, _, _, _, _, _⟩) (v := ?_) rfl (by kernel_rfl) (by kernel_rfl) (by kernel_rfl) (fun _ _ _ h => h) (Or.inl ⟨by rfl, ?_⟩) (by assumption) ?_
  rotate_left 1
  · intro W hSw
    try dsimp only at hSw
    obtain ⟨hs1, hs2, hs3, hs4, hs5⟩ := hSw
    go_simp
    try with_reducible rfl
  try simp only [Act.put, List.setIfInBounds_toArray, List.set_cons_zero, List.set_cons_succ]
  refine wpAnyH_take (i := 26) (oi := ⟨_, _, _, _, _, _⟩) (v := ?_) rfl (by kernel_rfl) (by kernel_rfl) (by kernel_rfl) (fun _ _ _ h => h) (Or.inl ⟨by rfl, ?_⟩) (by assumption) ?_
  rotate_left 1
  · intro W hSw
    try dsimp only at hSw
    obtain ⟨hs1, hs2, hs3, hs4, hs5⟩ := hSw
    go_simp
    try with_reducible rfl
  try simp only [Act.put, List.setIfInBounds_toArray, List.set_cons_zero, List.set_cons_succ]
  refine wpAnyH_take (i := 27) (oi := ⟨_, _, _, _, _, _⟩) (v := ?_) rfl (by kernel_rfl) (by kernel_rfl) (by kernel_rfl) (fun _ _ _ h => h) (Or.inl ⟨by rfl, ?_⟩) (by assumption) ?_
  rotate_left 1
  · intro W hSw
    try dsimp only at hSw
    obtain ⟨hs1, hs2, hs3, hs4, hs5⟩ := hSw
    go_simp
    try with_reducible rfl
  try simp only [Act.put, List.setIfInBounds_toArray, List.set_cons_zero, List.set_cons_succ]
  refine wpAnyH_take (i := 28) (oi := ⟨_, _, _, _, _, _⟩) (v := ?_) rfl (by kernel_rfl) (by kernel_rfl) (by kernel_rfl) (fun _ _ _ h => h) (Or.inl ⟨by rfl, ?_⟩) (by assumption) ?_
  rotate_left 1
  · intro W hSw
    try dsimp only at hSw
    obtain ⟨hs1, hs2, hs3, hs4, hs5⟩ := hSw
    go_simp
    try with_reducible rfl
  try simp only [Act.put, List.setIfInBounds_toArray, List.set_cons_zero, List.set_cons_succ]
  refine wpAnyH_take (i := 29) (oi := ⟨_, _, _, _, _, _⟩) (v := .agg (hC a).toArray) rfl (by kernel_rfl) (by kernel_rfl) (by kernel_rfl) (fun _ _ _ h => h) (yieldsIf_load_mid (by rfl) 23 (.tmp 2) rfl (w.heap.size + 1) 0 rfl (hC a) _ (fun W h => h.2.1) Tryz.underlying23 rfl (hszL a)) (by assumption) ?_
  try simp only [Act.put, List.setIfInBounds_toArray, List.set_cons_zero, List.set_cons_succ]
  refine wpAnyH_take (i := 30) (oi := ⟨_, _, _, _, _, _⟩) (v := .agg (hC c).toArray) rfl (by kernel_rfl) (by kernel_rfl) (by kernel_rfl) (fun _ _ _ h => h) (yieldsIf_load_mid (by rfl) 23 (.tmp 4) rfl (w.heap.size + 3) 0 rfl (hC c) _ (fun W h => h.2.2.2.1) Tryz.underlying23 rfl (hszL c)) (by assumption) ?_
  try simp only [Act.put, List.setIfInBounds_toArray, List.set_cons_zero, List.set_cons_succ]
  refine wpAnyH_ready (rs := [31]) (by kernel_rfl) (by simp) ?_
  refine AllReadyH.cons rfl (fun K hK => ?_) AllReadyH.nil
  go_simp
  go_at_call 18
  refine (rx_chain _ w8.heap.size m3 g3 GW24.out GI3.out a c).mono ?_
  rw [(HC2.out m3 GI3.out PS3.out)]
  rintro e31 w31 ⟨rfl, hb31⟩
  have K31 := Lib.hid (K24.out.later hb31)
  have L31 := Lib.hid (rngK L24.out hb31 HGl24.out)
  have GW31 := Lib.hid (GW24.out.later hb31)
  have V31 : Hid (Below w.heap.size w w31) := nxTo V24.out hb31
  have HGl31 : Hid (gl < w31.heap.size) := Nat.lt_of_lt_of_le HGl24.out hb31.size
  clear hb31
  refine hK.out _ _ ⟨kbR K31.out 0 rfl, kbR K31.out 1 rfl, kbR K31.out 2 rfl, kbR K31.out 3 rfl, L31.out⟩ (fun hSn => ?_)
  clear hK K
  try simp only [Act.put, List.setIfInBounds_toArray, List.set_cons_zero, List.set_cons_succ]
  refine wpAnyH_take (i := 32) (oi := ⟨_, _, _, _, _, _⟩) (v := ?_) rfl (by kernel_rfl) (by kernel_rfl) (by kernel_rfl) (fun _ _ _ h => h) (Or.inl ⟨by rfl, ?_⟩) (by assumption) ?_
  rotate_left 1
  · intro W hSw
    try dsimp only at hSw
    obtain ⟨hs1, hs2, hs3, hs4, hs5⟩ := hSw
    go_simp
    try with_reducible rfl
  try simp only [Act.put, List.setIfInBounds_toArray, List.set_cons_zero, List.set_cons_succ]
  refine wpAnyH_take (i := 33) (oi := ⟨_, _, _, _, _, _⟩) (v := ?_) rfl (by kernel_rfl) (by kernel_rfl) (by kernel_rfl) (fun _ _ _ h => h) (Or.inl ⟨by rfl, ?_⟩) (by assumption) ?_
  rotate_left 1
  · intro W hSw
    try dsimp only at hSw
    obtain ⟨hs1, hs2, hs3, hs4, hs5⟩ := hSw
    go_simp
    try with_reducible rfl
  try simp only [Act.put, List.setIfInBounds_toArray, List.set_cons_zero, List.set_cons_succ]
  refine wpAnyH_done (by kernel_rfl) ?_ _
  go_wp2
  go_ret
  exact ⟨rfl, V31.out⟩
end Go.Proofs.YtbfpckomgpkjgaaGreat
