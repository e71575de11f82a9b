/-
  Hashes as texts, of the program and of the document.
-/
import Derived.Test.YtpdidobmfoapiaaOf2
import Derived.Test.YtpdidobmfoapiaaOf3
import Derived.Test.YtpdidobmfoapiaaRef3
import Derived.Laws.ResultCell
namespace Go.Proofs.Ytpdidobmfoapiaa
open Go.RowKit

set_option maxHeartbeats 400000 in
theorem hashText_any (w : World) (h : List UInt8) (hh : h.length = 32) : Calls Try.prog 33 #[.agg (By h).toArray] w (HexPost w h) := by
  have HS : Hid (Sees (w.alloc (.cells (By h).toArray 30)) (w.alloc (.cells (By h).toArray 30)).heap.size (some ⟨w.heap.size, 0, none⟩) h) := (Sees.lit w h 30).size
  have Hh := Lib.hid hh
  clear hh
  go_enter Try.func33, Try.ntmps33
  go_wp2_with (go_at_call 31; refine (hex_any _ _ 32 32 h Hh.out.symm HS.out (by omega)).mono ?_; rintro e w1 ⟨rfl, hb1⟩)
  go_ret
  exact ⟨rfl, ((Below.refl _ _).alloc (Nat.le_refl _) _).trans (hb1.mono (by simp))⟩

/-- Two results, the first a whole array in memory. -/
theorem results_row_tmp {P : Program} {fn : Func} {p u : Tmp} {ty : TypeId} (h : fn.results = #[.cell p ty, .tmp u]) (tmps : Array Value) (w : World) (g : Nat) (t : TypeId) (cs : Array Value) (d : TypeDesc)
    (hp : tmps.getD p undef = .pointer (some ⟨g, 0, none⟩)) (hg : Blk w g t cs) (hu : P.underlying ty = some d) (hd : (match d with | .struct _ | .array _ _ => true | _ => false) = true) (hi : (P.info? ty).map (·.size) = some cs.size)
    (v : Value) (hv : tmps.getD u undef = v) : (results fn tmps).run P w = .ok (.tuple #[.agg cs, v]) w := by
  rw [results_cell_tmp h, hp, hv]
  simp [asAddr, run_loadVar_row w g t ty cs (0, 0) d hg hu hd hi]

/-- A text of a hash, and the hash. -/
def hashOk (S : ByteArray) : Bool := goodB S && decide (S.size = 64)
def hashB (S : ByteArray) : List UInt8 := if hashOk S then bytesTo S 32 else zero32
theorem hashB_length (S : ByteArray) : (hashB S).length = 32 := by
  unfold hashB
  split
  · exact bytesTo_length S 32
  · simp [zero32]
theorem hashB_over (S : ByteArray) (h : S.size = 64) : over zero32 (outB S) 32 = hashB S := by
  cases hg : goodB S with
  | true =>
    have e : outB S = bytesTo S 32 := by simp [outB, hg, h]
    rw [e, hashB, hashOk, hg, decide_eq_true h, Bool.true_and, if_pos rfl]
    exact over_all zero32 _ (by rw [bytesTo_length]; simp [zero32])
  | false =>
    have e : outB S = [] := by simp [outB, hg]
    rw [e, over_nil, hashB, hashOk, hg]
    rfl
/-- What HashOf answers. -/
def HOfPost (w : World) (S : ByteArray) (e : Ending) (w' : World) : Prop :=
  e = .returned (.tuple #[.agg (By (hashB S)).toArray, .int .i64 (if hashOk S then 0 else 4)]) ∧ Below w.heap.size w w'
def RHOfPost (w : World) (S : ByteArray) (e : Ending) (w' : World) : Prop :=
  e = .returned (.tuple #[.agg (By (hashB S)).toArray, .bool (hashOk S)]) ∧ Below w.heap.size w w'
theorem Try.hsizeB (l : List UInt8) (h : l.length = 32) : (Try.prog.info? 30).map (·.size) = some (By l).toArray.size := by
  rw [Try.hsize, List.size_toArray, By_length, h]

set_option maxHeartbeats 1000000 in
set_option maxRecDepth 100000 in
theorem hashOf_any (w : World) (S : ByteArray) (hmax : S.size ≤ 9000) : Calls Try.prog 29 #[.string S] w (HOfPost w S) := by
  have HZ0 := Lib.hid (Try.hsizeB zero32 (by simp [zero32]))
  have HB0 := Lib.hid (Blk.first' w (.cells (By zero32).toArray 30) 30 (By zero32).toArray)
  have HB1 := Lib.hid (Blk.second' w (.cells (By zero32).toArray 30) 30 (By zero32).toArray)
  by_cases h64 : S.size = 64
  · have HO := Lib.hid (hashB_over S h64)
    have HZ1 := Lib.hid (Try.hsizeB (hashB S) (hashB_length S))
    have HZ2 : Hid ((By zero32).toArray.size = (By (hashB S)).toArray.size) := by show _ = _; rw [List.size_toArray, By_length, List.size_toArray, By_length, hashB_length]; simp [zero32]
    have Hok : Hid ((if goodB S then (0 : Int) else 4) = if hashOk S then 0 else 4) := by show _ = _; rw [hashOk, decide_eq_true h64, Bool.and_true]
    have h64' : ((S.size : Int) != 64) = false := by simp; omega
    go_enter Try.func29, Try.ntmps29
    go_wp2_with (first
      | (go_at_call 27; refine (ofHex_any _ S hmax).mono ?_; rintro e w1 ⟨A1, c1, rfl, hs1, hb1⟩; generalize hen : (if goodB S then (0 : Int) else 4) = en; have Hen := Lib.hid hen; clear hen; have HC0 := Lib.hid (HB0.out.below hb1 (by simp; omega)); have HC1 := Lib.hid (HB1.out.below hb1 (by simp)); have HS1 := Lib.hid hs1; have Hb1 := Lib.hid hb1; clear hs1 hb1)
      | ((with_reducible show wpList _ _ _ (⟨some 18, _, _, _, _, _⟩ :: _) _ _); refine wpList_copy_sees rfl (.tmp 16) (.tmp 17) 25 25 rfl 5 Try.underlying25 Try.u8size (w.heap.size + 1) 32 32 rfl 30 zero32 HC1.out (by simp [zero32]) A1 (outB S).length c1 rfl _ (outB S) HS1.out rfl ?_; rw [HO.out]; intro w2 h1 h2 h3; have HD1 := Lib.hid h1; have HD0 := Lib.hid (HC0.out.keeps h2 (by omega)); have Hk2 := Lib.hid h2; clear h1 h2 h3)
      | ((with_reducible show wpList _ _ _ (⟨some 19, _, _, _, _, _⟩ :: _) _ _); refine wpList_load_row rfl 30 (.tmp 4) rfl (w.heap.size + 1) rfl 30 (By (hashB S)).toArray (0, 0) _ HD1.out Try.underlying30 rfl HZ1.out ?_)
      | ((with_reducible show wpList _ _ _ (⟨none, _, _, _, _, _⟩ :: _) _ _); refine wpList_store_all rfl 30 (.tmp 2) (.tmp 19) rfl w.heap.size 30 (By zero32).toArray (By (hashB S)).toArray rfl rfl HD0.out HZ2.out HZ1.out (By_one _) ?_; intro w3 h5 h6 h7; have H5 := Lib.hid h5; have H6 := Lib.hid h6; clear h5 h6 h7))
    refine bodyPost_ret (results_row_tmp Try.results29 _ _ w.heap.size 30 _ _ rfl H5.out Try.underlying30 rfl HZ1.out _ rfl) rfl ⟨?_, ?_⟩
    · rw [← Hok.out, Hen.out]; rfl
    · have b1 := (below_two' w _ _).trans (Hb1.out.mono (by simp; omega))
      have b2 := b1.trans (Hk2.out.below b1.size (fun k hk => by omega))
      exact b2.trans (H6.out.below b2.size (fun k hk => by omega))
  · have h64' : ((S.size : Int) != 64) = true := by simp; omega
    have Hok : Hid (hashOk S = false) := by show _ = _; simp [hashOk, h64]
    have HBe : Hid (hashB S = zero32) := by show _ = _; rw [hashB, Hok.out]; rfl
    clear h64
    go_enter Try.func29, Try.ntmps29
    go_wp2_with (first
      | ((with_reducible show wpList _ _ _ (⟨some 10, _, _, _, _, _⟩ :: _) _ _); refine wpList_load_row rfl 30 (.tmp 4) rfl (w.heap.size + 1) rfl 30 (By zero32).toArray (0, 0) _ HB1.out Try.underlying30 rfl HZ0.out ?_)
      | ((with_reducible show wpList _ _ _ (⟨none, _, _, _, _, _⟩ :: _) _ _); refine wpList_store_all rfl 30 (.tmp 2) (.tmp 10) rfl w.heap.size 30 (By zero32).toArray (By zero32).toArray rfl rfl HB0.out rfl HZ0.out (By_one _) ?_; intro w3 h5 h6 h7; have H5 := Lib.hid h5; have H6 := Lib.hid h6; clear h5 h6 h7))
    refine bodyPost_ret (results_row_tmp Try.results29 _ _ w.heap.size 30 _ _ rfl H5.out Try.underlying30 rfl HZ0.out _ rfl) rfl ⟨?_, ?_⟩
    · rw [HBe.out, Hok.out]; rfl
    · have b1 := below_two' w (.cells (By zero32).toArray 30) (.cells (By zero32).toArray 30)
      exact b1.trans (H6.out.below b1.size (fun k hk => by omega))

theorem outB_len (S : ByteArray) : (outB S).length = if goodB S then S.size / 2 else 0 := by
  unfold outB
  split
  · exact bytesTo_length S _
  · rfl

set_option maxHeartbeats 1000000 in
set_option maxRecDepth 100000 in
theorem rhashOf_any (w : World) (S : ByteArray) (hmax : S.size ≤ 9000) : Calls Try.prog 30 #[.string S] w (RHOfPost w S) := by
  have HZ0 := Lib.hid (Try.hsizeB zero32 (by simp [zero32]))
  have HB0 := Lib.hid (Blk.first' w (.cells (By zero32).toArray 30) 30 (By zero32).toArray)
  have HB1 := Lib.hid (Blk.second' w (.cells (By zero32).toArray 30) 30 (By zero32).toArray)
  cases hk : hashOk S with
  | true =>
    have hkk := hk
    simp only [hashOk, Bool.and_eq_true, decide_eq_true_eq] at hkk
    obtain ⟨hg, h64⟩ := hkk
    have Hk := Lib.hid hk
    have Hg := Lib.hid hg
    have HO := Lib.hid (hashB_over S h64)
    have HZ1 := Lib.hid (Try.hsizeB (hashB S) (hashB_length S))
    have HZ2 : Hid ((By zero32).toArray.size = (By (hashB S)).toArray.size) := by show _ = _; rw [List.size_toArray, By_length, List.size_toArray, By_length, hashB_length]; simp [zero32]
    have HL : Hid ((outB S).length = 32) := by show _ = _; rw [outB_len, hg, h64]; rfl
    clear hk hg h64
    go_enter Try.func30, Try.ntmps30
    go_wp2_with (first
      | (go_at_call 28; refine (rofHex_any _ S hmax).mono ?_; rintro e w1 ⟨A1, c1, rfl, hs1, hb1⟩; rw [HL.out, Hg.out]; have HC0 := Lib.hid (HB0.out.below hb1 (by simp; omega)); have HC1 := Lib.hid (HB1.out.below hb1 (by simp)); have HS1 := Lib.hid hs1; have Hb1 := Lib.hid hb1; clear hs1 hb1)
      | ((with_reducible show wpList _ _ _ (⟨some 22, _, _, _, _, _⟩ :: _) _ _); refine wpList_copy_sees rfl (.tmp 20) (.tmp 21) 25 25 rfl 5 Try.underlying25 Try.u8size (w.heap.size + 1) 32 32 rfl 30 zero32 HC1.out (by simp [zero32]) A1 32 c1 rfl _ (outB S) HS1.out HL.out.symm ?_; rw [HO.out]; intro w2 h1 h2 h3; have HD1 := Lib.hid h1; have HD0 := Lib.hid (HC0.out.keeps h2 (by omega)); have Hk2 := Lib.hid h2; clear h1 h2 h3)
      | ((with_reducible show wpList _ _ _ (⟨some 23, _, _, _, _, _⟩ :: _) _ _); refine wpList_load_row rfl 30 (.tmp 4) rfl (w.heap.size + 1) rfl 30 (By (hashB S)).toArray (0, 0) _ HD1.out Try.underlying30 rfl HZ1.out ?_)
      | ((with_reducible show wpList _ _ _ (⟨none, _, _, _, _, _⟩ :: _) _ _); refine wpList_store_all rfl 30 (.tmp 2) (.tmp 23) rfl w.heap.size 30 (By zero32).toArray (By (hashB S)).toArray rfl rfl HD0.out HZ2.out HZ1.out (By_one _) ?_; intro w3 h5 h6 h7; have H5 := Lib.hid h5; have H6 := Lib.hid h6; clear h5 h6 h7))
    refine bodyPost_ret (results_row_tmp Try.results30 _ _ w.heap.size 30 _ _ rfl H5.out Try.underlying30 rfl HZ1.out _ rfl) rfl ⟨?_, ?_⟩
    · rw [Hk.out]; rfl
    · have b1 := (below_two' w _ _).trans (Hb1.out.mono (by simp; omega))
      have b2 := b1.trans (Hk2.out.below b1.size (fun k hk => by omega))
      exact b2.trans (H6.out.below b2.size (fun k hk => by omega))
  | false =>
    have Hk := Lib.hid hk
    have HBe : Hid (hashB S = zero32) := by show _ = _; rw [hashB, hk]; rfl
    cases hg : goodB S with
    | true =>
      have Hg := Lib.hid hg
      have hl : (((outB S).length : Int) != 32) = true := by
        have h64 : S.size ≠ 64 := by
          intro e
          simp [hashOk, hg, e] at hk
        have h2 := ((goodB_iff S).1 hg).1
        have : (outB S).length = S.size / 2 := by rw [outB_len, hg]; rfl
        simp
        omega
      clear hk hg
      go_enter Try.func30, Try.ntmps30
      go_wp2_with (first
        | (go_at_call 28; refine (rofHex_any _ S hmax).mono ?_; rintro e w1 ⟨A1, c1, rfl, hs1, hb1⟩; rw [Hg.out]; have HC0 := Lib.hid (HB0.out.below hb1 (by simp; omega)); have HC1 := Lib.hid (HB1.out.below hb1 (by simp)); have Hb1 := Lib.hid hb1; clear hs1 hb1)
        | ((with_reducible show wpList _ _ _ (⟨some 19, _, _, _, _, _⟩ :: _) _ _); refine wpList_load_row rfl 30 (.tmp 4) rfl (w.heap.size + 1) rfl 30 (By zero32).toArray (0, 0) _ HC1.out Try.underlying30 rfl HZ0.out ?_)
        | ((with_reducible show wpList _ _ _ (⟨none, _, _, _, _, _⟩ :: _) _ _); refine wpList_store_all rfl 30 (.tmp 2) (.tmp 19) rfl w.heap.size 30 (By zero32).toArray (By zero32).toArray rfl rfl HC0.out rfl HZ0.out (By_one _) ?_; intro w3 h5 h6 h7; have H5 := Lib.hid h5; have H6 := Lib.hid h6; clear h5 h6 h7))
      refine bodyPost_ret (results_row_tmp Try.results30 _ _ w.heap.size 30 _ _ rfl H5.out Try.underlying30 rfl HZ0.out _ rfl) rfl ⟨?_, ?_⟩
      · rw [HBe.out, Hk.out]; rfl
      · have b1 := (below_two' w _ _).trans (Hb1.out.mono (by simp; omega))
        exact b1.trans (H6.out.below b1.size (fun k hk => by omega))
    | false =>
      have Hg := Lib.hid hg
      clear hk hg
      go_enter Try.func30, Try.ntmps30
      go_wp2_with (first
        | (go_at_call 28; refine (rofHex_any _ S hmax).mono ?_; rintro e w1 ⟨A1, c1, rfl, hs1, hb1⟩; rw [Hg.out]; have HC0 := Lib.hid (HB0.out.below hb1 (by simp; omega)); have HC1 := Lib.hid (HB1.out.below hb1 (by simp)); have Hb1 := Lib.hid hb1; clear hs1 hb1)
        | ((with_reducible show wpList _ _ _ (⟨some 19, _, _, _, _, _⟩ :: _) _ _); refine wpList_load_row rfl 30 (.tmp 4) rfl (w.heap.size + 1) rfl 30 (By zero32).toArray (0, 0) _ HC1.out Try.underlying30 rfl HZ0.out ?_)
        | ((with_reducible show wpList _ _ _ (⟨none, _, _, _, _, _⟩ :: _) _ _); refine wpList_store_all rfl 30 (.tmp 2) (.tmp 19) rfl w.heap.size 30 (By zero32).toArray (By zero32).toArray rfl rfl HC0.out rfl HZ0.out (By_one _) ?_; intro w3 h5 h6 h7; have H5 := Lib.hid h5; have H6 := Lib.hid h6; clear h5 h6 h7))
      refine bodyPost_ret (results_row_tmp Try.results30 _ _ w.heap.size 30 _ _ rfl H5.out Try.underlying30 rfl HZ0.out _ rfl) rfl ⟨?_, ?_⟩
      · rw [HBe.out, Hk.out]; rfl
      · have b1 := (below_two' w _ _).trans (Hb1.out.mono (by simp; omega))
        exact b1.trans (H6.out.below b1.size (fun k hk => by omega))

end Go.Proofs.Ytpdidobmfoapiaa
