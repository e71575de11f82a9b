/-
  tx: the program's readInput and readOutput.
-/
import Derived.Test.YtlpcbkajgibhcaaTr0
import Derived.Deep.RegionHeldLaw
import Derived.Deep.RegionHeld3
namespace Go.Proofs.Ytlpcbkajgibhcaa
open Go.RowKit

theorem Keeps.fresh {S : Nat → Prop} {w w1 w2 : World} {j : Nat} (h : Keeps S w w1) (k : Keeps (· = j) w1 w2) (hj : w.heap.size ≤ j) : Keeps S w w2 :=
  ⟨k.os.trans h.os, k.tape.trans h.tape, k.output.trans h.output, Nat.le_trans h.size k.size, fun b hb hn => (k.block b (Nat.lt_of_lt_of_le hb h.size) (by omega)).trans (h.block b hb hn)⟩
theorem rngK {w w' : World} {S : Nat → Prop} {b o : Nat} {cs : List Value} (h : w.rangeAt b o cs) (hk : Keeps S w w') (hlt : b < w.heap.size) (hn : ¬ S b) : w'.rangeAt b o cs := fun j v hv => (hk.cell (p := ⟨b, o + j, none⟩) hlt hn).trans (h j v hv)
section
variable {P : Program} {w : World}
theorem step_store_whole {ops : Array Oper} {o : Oper} {a : Act} {K : Act → World → Prop} {Q : Exit → Act → World → Prop} {E : Prop} (hgd : o.guard = none) (ty : TypeId) (x y : Operand) (ho : o.op = .store ty x y)
    (g : Nat) (t : TypeId) (old cells : Array Value) (hx : a.eval x = .pointer (some ⟨g, 0, none⟩)) (hy : a.eval y = .agg cells) (hg : Blk w g t old) (hs : old.size = cells.size)
    (hi : (P.info? ty).map (·.size) = some cells.size) (h1 : ∀ v ∈ cells.toList, v.oneCell' = true)
    (h : ∀ w', Blk w' g t cells → Keeps (· = g) w w' → w'.heap.size = w.heap.size → K (a.put o.dst undef) w') :
    if Region.wanted o (yielded ops a.tmps) = true then Oper.wp P o a w K Q else E := by
  have hw : Region.wanted o (yielded ops a.tmps) = true := by simp [Region.wanted, hgd]
  rw [if_pos hw]
  obtain ⟨w', hr, h2, h3, h4⟩ := run_storeVar_all (P := P) g t ty old cells hg hs hi h1
  unfold Oper.wp execOp
  simp only [ho, hx, hy, Instr.storeAt, Instr.sureAddr, Sem.run_bind, Sem.run_pure, Result.andThen_ok, hr]
  exact h w' h2 h3 h4
end
theorem ptC_one (l : List UInt8) (n : Nat) : ∀ u ∈ (By l ++ [Value.int .u32 (n : Int)]).toArray.toList, u.oneCell' = true := by
  intro u hu
  rw [List.toList_toArray] at hu
  rcases List.mem_append.1 hu with hu | hu
  · exact By_one' _ u hu
  · rw [List.mem_singleton.1 hu]; rfl
def outZ : Array Value := (Value.int .u64 0 :: zeros32).toArray
def inZ : Array Value := (zeros32 ++ [Value.int .u32 0, Value.slice none 0 0]).toArray
def ptZ : Array Value := (zeros32 ++ [Value.int .u32 0]).toArray

set_option maxHeartbeats 1000000 in
set_option maxRecDepth 100000 in
theorem readOutput_any (w : World) (g : Nat) (d : Option Nat) (st : Option (List UInt8)) (hR : Rd w g d st) :
    Calls Try.prog 13 #[.pointer (some ⟨g, 0, none⟩)] w fun e w' => e = .returned (.agg (outC (readO st).1).toArray) ∧ Rd w' g d (readO st).2 ∧ Keeps (· = g) w w' := by
  have hg := hR.lt
  have Hd : Hid (∀ k, d = some k → k < w.heap.size) := fun k e => (hR.1 k e).2
  have HR := Lib.hid (hR.below (nxAl (nxRf w) (.cells outZ 42)))
  have HB := Lib.hid (show Blk (w.alloc (.cells outZ 42)) w.heap.size 42 outZ from heap_alloc_new w _)
  have hm8 : may 8 = true := rfl
  obtain ⟨s1, hs1⟩ : ∃ s, cutRest st 8 true = s := ⟨_, rfl⟩
  obtain ⟨s2, hs2⟩ : ∃ s, cutRest s1 32 true = s := ⟨_, rfl⟩
  obtain ⟨N, hN⟩ : ∃ N, ofLe (cutPiece st 8 true) = N := ⟨_, rfl⟩
  obtain ⟨x, hx⟩ : ∃ x, over zero32 (cutPiece s1 32 true) 32 = x := ⟨_, rfl⟩
  have hO : readO st = (⟨N, x⟩, s2) := by unfold readO; rw [hs1, hs2, hN, hx]
  rw [hO]
  have hx32 : x.length = 32 := by rw [← hx]; exact hash_len _
  have HX32 := Lib.hid hx32
  have hbo : ∀ wq, (Instr.build 42 #[(0, .int .u64 (N : Int)), (1, .agg (By x).toArray)]).run Try.prog wq = .ok (.agg (outC ⟨N, x⟩).toArray) wq := build_out ⟨N, x⟩ hx32
  have HZ : Hid ((Try.prog.info? 42).map (·.size) = some (outC ⟨N, x⟩).toArray.size) := by show _ = _; rw [List.size_toArray, outC_len (o := ⟨N, x⟩) hx32]; exact Try.sizeOut
  have HS1 := Lib.hid hs1
  have HS2 := Lib.hid hs2
  have HN := Lib.hid hN
  have HX := Lib.hid hx
  have HM8 := Lib.hid hm8
  clear hR hs1 hs2 hN hx hO hx32 hm8
  go_enter Try.func13, Try.ntmps13
  go_wp2_with (first
    | (go_at_call 14; refine (rnumber_s _ _ _ _ HR.out 8).mono ?_; unfold NumPost; rw [HM8.out, HS1.out, HN.out]; rintro e w1 ⟨rfl, hr1, hk1, hz1⟩; have R1 := Lib.hid hr1; have K1 := Lib.hid hk1; clear hr1 hk1 hz1)
    | (go_at_call 29; refine (rhash_s _ _ _ _ R1.out).mono ?_; rw [HS2.out, HX.out]; rintro e w2 ⟨rfl, hr2, hk2⟩; have R2 := Lib.hid hr2; have K2 := Lib.hid (K1.out.trans hk2); have B2 := Lib.hid (HB.out.keeps K2.out (by omega)); clear hr2 hk2)
    | ((with_reducible show wpList _ _ _ (⟨some 7, _, _, _, _, _⟩ :: _) _ _); refine wpList_build2 rfl 42 (.tmp 4) (.tmp 6) rfl (.int .u64 (N : Int)) (.agg (By x).toArray) (.agg (outC ⟨N, x⟩).toArray) rfl rfl hbo ?_)
    | ((with_reducible show wpList _ _ _ (⟨none, .store 42 _ _, _, _, _, _⟩ :: _) _ _); refine wpList_store_all rfl 42 (.tmp 2) (.tmp 7) rfl w.heap.size 42 outZ (outC ⟨N, x⟩).toArray rfl rfl B2.out (show (33 : Nat) = (outC ⟨N, x⟩).length from (outC_len (o := ⟨N, x⟩) HX32.out).symm) HZ.out (outC_one _) ?_; intro w3 h5 h6 h7; have B3 := Lib.hid h5; have K3 := Lib.hid h6; clear h5 h6 h7))
  have KA : Keeps (· = g) w w3 := Keeps.fresh (Keeps.trans ((Keeps.refl (· = g) w).alloc (.cells outZ 42)) K2.out) K3.out (Nat.le_refl _)
  refine bodyPost_ret (results_cell_row Try.results13 _ _ w.heap.size 42 _ (0, 0) _ rfl B3.out Try.underlying42 rfl HZ.out) rfl ⟨rfl, ?_, KA⟩
  exact R2.out.keeps K3.out (by omega) (fun k e => by have := Hd.out k e; omega)

/-- What readInput answers. -/
def InPost (w : World) (g : Nat) (d : Option Nat) (st : Option (List UInt8)) (e : Ending) (w' : World) : Prop :=
  ∃ i : InR, e = .returned (.agg (inC i).toArray) ∧ inP i = (readI st).1 ∧ InOk w' i ∧ (∀ ad, i.A = some ad → w.heap.size ≤ ad.block ∧ ad.block < w'.heap.size) ∧ Rd w' g d (readI st).2 ∧ Keeps (· = g) w w'

set_option maxHeartbeats 2000000 in
set_option maxRecDepth 100000 in
theorem readInput_any (w : World) (g : Nat) (d : Option Nat) (st : Option (List UInt8)) (hR : Rd w g d st) (hlen : lenS st ≤ 1099511627776) :
    Calls Try.prog 12 #[.pointer (some ⟨g, 0, none⟩)] w (InPost w g d st) := by
  have hg := hR.lt
  have Hd : Hid (∀ k, d = some k → k < w.heap.size) := fun k e => (hR.1 k e).2
  have HR := Lib.hid (hR.below (nxAl (nxRf w) (.cells inZ 50)))
  have HB := Lib.hid (show Blk (w.alloc (.cells inZ 50)) w.heap.size 50 inZ from heap_alloc_new w _)
  have hm4 : may 4 = true := rfl
  obtain ⟨s1, hs1⟩ : ∃ s, cutRest st 32 true = s := ⟨_, rfl⟩
  obtain ⟨s2, hs2⟩ : ∃ s, cutRest s1 4 true = s := ⟨_, rfl⟩
  obtain ⟨x, hx⟩ : ∃ x, over zero32 (cutPiece st 32 true) 32 = x := ⟨_, rfl⟩
  obtain ⟨N, hN⟩ : ∃ N, ofLe (cutPiece s1 4 true) = N := ⟨_, rfl⟩
  obtain ⟨p, hp⟩ : ∃ p, blobPiece s2 = p := ⟨_, rfl⟩
  obtain ⟨s3, hs3⟩ : ∃ s, blobRest s2 = s := ⟨_, rfl⟩
  have hI : readI st = ((x, N, p), s3) := by unfold readI; rw [hs1, hs2, hN, hx, hp, hs3]
  have hx32 : x.length = 32 := by rw [← hx]; exact hash_len _
  have hN32 : N < 4294967296 := by rw [← hN]; exact ofLe_lt4 _
  have hl2 : lenS s2 ≤ 1099511627776 := by
    have h1 := lenS_cutRest st 32 true
    have h2 := lenS_cutRest s1 4 true
    rw [hs1] at h1; rw [hs2] at h2; omega
  have HPl : Hid (p.length ≤ 1099511627776) := by
    show _ ≤ _
    have h1 := cutPiece_lt (cutRest s2 4 true) (blobN s2) (blobM s2)
    have h2 := lenS_cutRest s2 4 true
    have h3 : blobPiece s2 = cutPiece (cutRest s2 4 true) (blobN s2) (blobM s2) := rfl
    rw [← h3, hp] at h1
    omega
  unfold InPost
  rw [hI]
  have HX32 := Lib.hid hx32
  have HN32 := Lib.hid hN32
  have HL2 := Lib.hid hl2
  have hwn : IntKind.u32.wrap (N : Int) = (N : Int) := by rw [IntKind.wrap_u32]; omega
  have hbp := build_pt x hx32 N
  have hbi := fun A c => build_in ⟨x, N, A, c, p⟩ hx32
  have HZp : Hid ((Try.prog.info? 48).map (·.size) = some (By x ++ [Value.int .u32 (N : Int)]).toArray.size) := by show _ = _; rw [List.size_toArray, List.length_append, By_length, hx32]; exact Try.sizePt
  have HZl : Hid ((Try.prog.info? 48).map (·.size) = some (By x ++ [Value.int .u32 (N : Int)]).length) := by show _ = _; rw [List.length_append, By_length, hx32]; exact Try.sizePt
  have HZi : Hid (∀ A c, (Try.prog.info? 50).map (·.size) = some (inC ⟨x, N, A, c, p⟩).toArray.size) := fun A c => by rw [List.size_toArray, inC_len (i := ⟨x, N, A, c, p⟩) hx32]; exact Try.sizeIn
  have HS1 := Lib.hid hs1
  have HS2 := Lib.hid hs2
  have HS3 := Lib.hid hs3
  have HN := Lib.hid hN
  have HX := Lib.hid hx
  have HP := Lib.hid hp
  have HM4 := Lib.hid hm4
  clear hR hlen hs1 hs2 hs3 hN hx hp hI hx32 hN32 hl2 hm4
  go_enter Try.func12, Try.ntmps12
  go_wp2_with (first
    | (go_at_call 29; refine (rhash_s _ _ _ _ HR.out).mono ?_; rw [HS1.out, HX.out]; rintro e w1 ⟨rfl, hr1, hk1⟩; have R1 := Lib.hid hr1; have K1 := Lib.hid hk1; clear hr1 hk1)
    | (go_at_call 14; refine (rnumber_s _ _ _ _ R1.out 4).mono ?_; unfold NumPost; rw [HM4.out, HS2.out, HN.out]; rintro e w2 ⟨rfl, hr2, hk2, hz2⟩; have R2 := Lib.hid (hr2.below (nxAl (nxRf w2) (.cells ptZ 48))); have K2 := Lib.hid (Keeps.alloc (K1.out.trans hk2) (.cells ptZ 48)); have S2 := Lib.hid (K1.out.trans hk2).size; clear hr2 hk2 hz2)
    | ((with_reducible show wpList _ _ _ (⟨some 9, _, _, _, _, _⟩ :: _) _ _); refine wpList_build2 rfl 48 (.tmp 5) (.tmp 8) rfl (.agg (By x).toArray) (.int .u32 (N : Int)) (.agg (By x ++ [Value.int .u32 (N : Int)]).toArray) rfl rfl hbp ?_)
    | ((with_reducible show wpList _ _ _ (⟨none, .store 48 _ _, _, _, _, _⟩ :: _) _ _); (show wpList _ _ _ _ _ (w2.alloc (.cells ptZ 48))); refine wpList_store_all rfl 48 (.tmp 3) (.tmp 9) rfl w2.heap.size 48 ptZ (By x ++ [Value.int .u32 (N : Int)]).toArray rfl rfl (heap_alloc_new w2 _) (show (33 : Nat) = (By x ++ [Value.int .u32 (N : Int)]).length by rw [List.length_append, By_length, HX32.out]; rfl) HZp.out (ptC_one _ _) ?_; intro w3 h5 h6 h7; have B3 := Lib.hid h5; have K3 := Lib.hid h6; clear h5 h6 h7))
  have hgw : g < (w.alloc (.cells inZ 50)).heap.size := by simp; omega
  have h2w : (w.alloc (.cells inZ 50)).heap.size ≤ w2.heap.size := S2.out
  have h2e : w.heap.size < (w.alloc (.cells inZ 50)).heap.size := by simp
  have R3 : Hid (Rd w3 g d s2) := R2.out.keeps K3.out (by omega) (fun k e => by have := Hd.out k e; omega)
  have KW : Hid (Keeps (· = g) (w.alloc (.cells inZ 50)) w3) := Keeps.fresh K2.out K3.out S2.out
  have HBw : Hid (Blk w3 w.heap.size 50 inZ) := HB.out.keeps KW.out (by omega)
  have Hb3 : Hid (w2.heap.size < w3.heap.size) := B3.out.lt
  clear K2 R1 R2 K1 K3 HB HR
  generalize w2.heap.size = b at *
  refine wp_region_held_drew (S := fun W => W.rangeAt b 0 (By x ++ [Value.int .u32 (N : Int)])) (by kernel_rfl) (blkR B3.out) (fun hHeld => ?_)
  refine wpAnyH_take (i := 0) (oi := ⟨_, _, _, _, _, _⟩) (v := .agg (By x ++ [Value.int .u32 (N : Int)]).toArray) rfl (by kernel_rfl) (by kernel_rfl) (by kernel_rfl) (fun _ _ _ h => h) (yieldsIf_load_mid (by rfl) 48 (.tmp 3) rfl (b) (0) rfl (By x ++ [Value.int .u32 (N : Int)]) _ (fun W h => h) Try.underlying48 rfl HZl.out) (by assumption) ?_
  try simp only [Act.put, List.setIfInBounds_toArray, List.set_cons_zero, List.set_cons_succ]
  refine wpAnyH_take (i := 1) (oi := ⟨_, _, _, _, _, _⟩) (v := ?_) rfl (by kernel_rfl) (by kernel_rfl) (by kernel_rfl) (fun _ _ _ h => h) (Or.inl ⟨by rfl, ?_⟩) (by assumption) ?_
  rotate_left 1
  · intro W hSw
    try dsimp only at hSw
    go_simp
    try with_reducible rfl
  try simp only [Act.put, List.setIfInBounds_toArray, List.set_cons_zero, List.set_cons_succ]
  refine wpAnyH_ready (rs := [2]) (by kernel_rfl) (by simp) ?_
  refine AllReadyH.cons rfl (fun K hK => ?_) AllReadyH.nil
  go_simp
  go_at_call 30
  refine (rblob_s w3.drew g d s2 (R3.out.keeps ((Keeps.refl (fun _ => False) w3).drew) (fun h => h) (fun _ _ h => h)) HL2.out).mono ?_
  unfold PiecePost
  rw [HP.out, HS3.out]
  rintro e w4 ⟨A4, c4, rfl, ho4, hr4, hk4⟩
  have O4 := Lib.hid ho4
  have R4 := Lib.hid hr4
  have K4 : Hid (Keeps (· = g) w3 w4) := ⟨hk4.os, hk4.tape, hk4.output, hk4.size, hk4.block⟩
  clear ho4 hr4 hk4
  refine hK.out _ _ (rngK (blkR B3.out) K4.out Hb3.out (by omega)) (fun hSn => ?_)
  clear hK K
  try simp only [Act.put, List.setIfInBounds_toArray, List.set_cons_zero, List.set_cons_succ]
  refine wpAnyH_take (i := 3) (oi := ⟨_, _, _, _, _, _⟩) (v := .agg (inC ⟨x, N, A4, c4, p⟩).toArray) rfl (by kernel_rfl) (by kernel_rfl) (by kernel_rfl) (fun _ _ _ h => h) (yieldsIf_build2 (by rfl) 50 (.tmp 10) (.tmp 12) rfl (.agg (By x ++ [Value.int .u32 (N : Int)]).toArray) (.slice A4 p.length c4) _ rfl rfl (hbi A4 c4)) (by assumption) ?_
  try simp only [Act.put, List.setIfInBounds_toArray, List.set_cons_zero, List.set_cons_succ]
  refine wpAnyH_ready (rs := [4]) (by kernel_rfl) (by simp) ?_
  refine AllReadyH.cons rfl (fun K hK => ?_) AllReadyH.nil
  refine step_store_whole (o := ⟨none, _, _, _, _, _⟩) rfl 50 (.tmp 2) (.tmp 13) rfl w.heap.size 50 inZ (inC ⟨x, N, A4, c4, p⟩).toArray rfl rfl (HBw.out.keeps K4.out (by omega)) (show (34 : Nat) = (inC ⟨x, N, A4, c4, p⟩).length from (inC_len (i := ⟨x, N, A4, c4, p⟩) HX32.out).symm) (HZi.out A4 c4) (inC_one _) ?_
  intro w5 h5 h6 h7
  have B5 := Lib.hid h5
  have K5 := Lib.hid h6
  clear h5 h6 h7
  refine hK.out _ _ (rngK (rngK (blkR B3.out) K4.out Hb3.out (by omega)) K5.out (Nat.lt_of_lt_of_le Hb3.out K4.out.size) (by omega)) (fun hSn => ?_)
  clear hK K
  try simp only [Act.put, List.setIfInBounds_toArray, List.set_cons_zero, List.set_cons_succ]
  refine wpAnyH_done (by kernel_rfl) ?_ _
  go_wp2
  refine bodyPost_ret (results_cell_row Try.results12 _ _ w.heap.size 50 _ (0, 0) _ rfl B5.out Try.underlying50 rfl (HZi.out A4 c4)) rfl ⟨⟨x, N, A4, c4, p⟩, rfl, rfl, ⟨HX32.out, HN32.out, own_cap' O4.out, ?_, ?_⟩, ?_, ?_, ?_⟩
  · refine ((Sees.own O4.out).keeps K5.out (fun ad e _ => ?_)).more K5.out.size
    have h1 : w.heap.size < w3.heap.size := HBw.out.lt
    have h2 := (own_lt O4.out ad.block (by have e2 : A4 = some ad := e; rw [e2]; rfl)).1
    have h3 : w3.drew.heap.size = w3.heap.size := rfl
    omega
  · have := HPl.out; show p.length ≤ _; omega
  · intro ad e
    have h1 : w.heap.size < w3.heap.size := HBw.out.lt
    have h2 := own_lt O4.out ad.block (by have e2 : A4 = some ad := e; rw [e2]; rfl)
    have h3 : w3.drew.heap.size = w3.heap.size := rfl
    have h4 := K5.out.size
    omega
  · exact R4.out.keeps K5.out (by omega) (fun k e => by have := Hd.out k e; omega)
  · exact Keeps.fresh ((Keeps.trans ((Keeps.refl (· = g) w).alloc (.cells inZ 50)) KW.out).trans K4.out) K5.out (Nat.le_refl _)
end Go.Proofs.Ytlpcbkajgibhcaa
