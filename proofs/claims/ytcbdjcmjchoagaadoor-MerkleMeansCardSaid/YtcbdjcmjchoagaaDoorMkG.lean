/-
  merkle: the text of a root; Root and Path.
-/
import Derived.Test.YtcbdjcmjchoagaaDoorMkF
namespace Go.Proofs.YtcbdjcmjchoagaaDoor
open Go.RowKit

/-- A number's 8 bytes, the lowest first. -/
def le8 (n : Nat) : List UInt8 := (List.range 8).map fun i => UInt8.ofNat (n / 256 ^ i)
theorem le8_len (n : Nat) : (le8 n).length = 8 := rfl
theorem le8_next (n k : Nat) (h : k < 8) : (le8 n).take (k + 1) = (le8 n).take k ++ [UInt8.ofNat (n / 256 ^ k)] := by
  rw [List.take_succ_eq_append_getElem (by rw [le8_len]; exact h)]
  simp [le8]
theorem byte_of (n k : Nat) (hn : n < 4611686018427387904) : IntKind.u64.wrap (n : Int) / 2 ^ (8 * k) % 256 = ((UInt8.ofNat (n / 256 ^ k)).toNat : Int) := by
  have e1 : IntKind.u64.wrap (n : Int) = n := by rw [IntKind.wrap_u64]; omega
  have e2 : (2 : Int) ^ (8 * k) = ((256 ^ k : Nat) : Int) := by
    have : (256 : Nat) ^ k = 2 ^ (8 * k) := by rw [Nat.pow_mul]
    rw [this]; simp
  rw [e1, e2, ← Int.natCast_ediv, UInt8.toNat_ofNat']
  omega

set_option maxHeartbeats 2000000 in
set_option maxRecDepth 100000 in
theorem rootText_any (w : World) (n : Nat) (hn : n < 4611686018427387904) (A : Option Addr) (m c : Nat) (top : List (List UInt8)) (hm : m = top.length) (h32 : All32 top) (hS : SeesV w w.heap.size A (Hs top)) (hmax : m ≤ 1000) :
    Calls Tryd.prog 32 #[.int .i64 (n : Int), .slice A m c] w (TextPost w nmRoot (le8 n ++ top.flatten)) := by
  subst hm
  have HS := Lib.hid hS
  have H32 := Lib.hid h32
  have Hn := Lib.hid hn
  clear hS h32 hn
  obtain ⟨i0, hi, hz0, hz1, hz2⟩ := info_parts Tryd.u8info
  go_enter Tryd.func32, Tryd.ntmps32
  go_wp2
  have hT : Blk (w.alloc (.cells #[.string ⟨#[]⟩, .slice none 0 0] 63)) w.heap.size 63 #[.string ⟨#[]⟩, .slice none 0 0] := heap_alloc_new w _
  have hb1 : Below w.heap.size w (w.alloc (.cells #[.string ⟨#[]⟩, .slice none 0 0] 63)) := nxAlloc (nxRefl w) _
  have HT := Lib.hid hT
  have Hb1 := Lib.hid hb1
  clear hT hb1
  generalize w.alloc (.cells #[.string ⟨#[]⟩, .slice none 0 0] 63) = W1 at *
  go_loopw [5, 9] (fun bv iv wr => ∃ (k : Nat) (A1 : Option Addr) (c1 : Nat), k ≤ 8 ∧ iv = .int .i64 k ∧ bv = .slice A1 k c1 ∧ Hid (wr.ownsRow W1.heap.size 5 1 (.slice A1 k c1) k (By ((le8 n).take k))) ∧ Hid (Below W1.heap.size W1 wr)) (fun _ iv _ => 8 - (intOf iv).toNat)
  case atStart => exact ⟨0, none, 0, by omega, rfl, rfl, World.ownsRow_nil _ _ _ _, nxRefl W1⟩
  case round =>
    obtain ⟨k, A1, c1, hk, rfl, rfl, HO, Hb⟩ := hrel
    by_cases hlt : k < 8
    · have HB : Hid (By [UInt8.ofNat (n / 256 ^ k)] = [.int .u8 (IntKind.u64.wrap (n : Int) / 2 ^ (8 * k) % 256)]) := by show _ = _; rw [byte_of n k Hn.out]; rfl
      have HN := Lib.hid (le8_next n k hlt)
      go_wp2_with ((with_reducible show wpList _ _ _ (⟨some 20, _, _, _, _, _⟩ :: _) _ _); refine wpList_append_seesV rfl (.tmp 12) (.tmp 19) 47 rfl W1.heap.size 5 i0 (.int .u8 0) 1 1 Tryd.underlying47 hi hz0 hz1 hz2 rfl (by omega) (.slice A1 k c1) k (By ((le8 n).take k)) rfl (HO.out.alloc _) (wr.heap.size + 1) (some ⟨wr.heap.size, 0, none⟩) 1 1 [.int .u8 (IntKind.u64.wrap (n : Int) / 2 ^ (8 * k) % 256)] rfl rfl (SeesV.lit' wr [.int .u8 (IntKind.u64.wrap (n : Int) / 2 ^ (8 * k) % 256)] 5) (by intro u hu; simp at hu; subst hu; rfl) (by omega) (by omega) (by have h1 := Hb.out.size; simp; omega) ?_; intro v8 w8 ho8 hg8 hat8; obtain ⟨A8, c8, rfl⟩ := own_form ho8; rw [← HB.out, ← By_append, ← HN.out] at ho8; have HO8 := Lib.hid ho8; have Hb8 : Hid (Below W1.heap.size W1 w8) := (nxAlloc Hb.out _).grown hg8 (nxAlloc Hb.out _).size (fun j hj => (own_lt HO.out j hj).1); clear ho8 hg8 hat8)
      go_roundw
      case rel => exact ⟨k + 1, A8, c8, by omega, by go_num, rfl, HO8.out, Hb8.out⟩
      case measure => simp [intOf] <;> omega
    · obtain rfl : k = 8 := by omega
      have HO' : Hid (wr.ownsRow W1.heap.size 5 1 (.slice A1 8 c1) 8 (By (le8 n ++ (top.take 0).flatten))) := by
        show World.ownsRow _ _ _ _ _ _ _
        have h := HO.out
        rw [List.take_of_length_le (by rw [le8_len]; omega)] at h
        simpa using h
      clear HO
      rw [show ((8 : Nat) : Int) = (8 : Int) from rfl]
      go_wp2
      go_loopw [5, 24] (fun bv iv wr => ∃ (k : Nat) (A1 : Option Addr) (c1 : Nat), k ≤ top.length ∧ iv = .int .i64 k ∧ bv = .slice A1 (8 + k * 32) c1 ∧ Hid (wr.ownsRow W1.heap.size 5 1 (.slice A1 (8 + k * 32) c1) (8 + k * 32) (By (le8 n ++ (top.take k).flatten))) ∧ Hid (Below W1.heap.size W1 wr)) (fun _ iv _ => top.length - (intOf iv).toNat)
      case atStart => exact ⟨0, A1, c1, by omega, rfl, rfl, HO'.out, Hb.out⟩
      case round =>
        clear HO' Hb hlt hk
        obtain ⟨k, A1, c1, hk, rfl, rfl, HO, Hb⟩ := hrel
        by_cases hlt : k < top.length
        · obtain ⟨b, off, rfl, hbb, hrg⟩ := SeesV.hash (HS.out.below (nxTo Hb1.out Hb.out)) H32.out hlt
          have hrx := hrg k hlt
          have hxl := H32.out.get hlt
          have HF := Lib.hid (flat_next top k hlt)
          generalize top[k] = x at *
          have HRx := Lib.hid hrx
          have HXl := Lib.hid hxl
          have HZx := Lib.hid (Tryd.hsizeB x hxl)
          have HSX : Hid ((Tryd.prog.info? 32).map (·.size) = some (By x).length) := by have h := Tryd.hsizeB x hxl; show _ = _; rw [h]; simp
          clear hrg hrx hxl
          go_wp2_with (first
            | ((with_reducible show wpList _ _ _ (⟨some 27, _, _, _, _, _⟩ :: _) _ _); refine wpList_load_mid rfl 32 (.tmp 26) rfl b (off + k * 32) rfl (By x) _ HRx.out Tryd.underlying32 rfl HSX.out ?_)
            | ((with_reducible show wpList _ _ _ (⟨none, .store 32 _ _, _, _, _, _⟩ :: _) _ _); refine wpList_store_all rfl 32 (.tmp 8) (.tmp 27) rfl wr.heap.size 32 (By zero32).toArray (By x).toArray rfl rfl (Blk.newAt rfl rfl) (by rw [List.size_toArray, List.size_toArray, By_length, By_length, HXl.out]; rfl) HZx.out (By_one _) ?_; intro w5 h5 h6 h7; have H5 := Lib.hid h5; have Hr5 : Hid (Below wr.heap.size wr w5) := (nxAlloc (nxRefl wr) _).trans (h6.below (nxAlloc (nxRefl wr) _).size (fun k hk => by omega)); have HO5 := Lib.hid (own_below HO.out Hr5.out (fun g hg => (own_lt HO.out g hg).2)); clear h5 h6 h7)
            | ((with_reducible show wpList _ _ _ (⟨some 30, _, _, _, _, _⟩ :: _) _ _); refine wpList_append_seesV rfl (.tmp 28) (.tmp 29) 47 rfl W1.heap.size 5 i0 (.int .u8 0) 1 1 Tryd.underlying47 hi hz0 hz1 hz2 rfl (by omega) (.slice A1 (8 + k * 32) c1) (8 + k * 32) (By (le8 n ++ (top.take k).flatten)) rfl HO5.out w5.heap.size (some ⟨wr.heap.size, 0, none⟩) 32 32 (By x) rfl (by rw [By_length, HXl.out]) (by have h := SeesV.blk H5.out; simpa using h) (By_one _) (by omega) (by omega) (nxTo Hb.out Hr5.out).size ?_; intro v8 w8 ho8 hg8 hat8; obtain ⟨A8, c8, rfl⟩ := own_form ho8; rw [← By_append, List.append_assoc, ← HF.out] at ho8; have HO8 := Lib.hid ho8; have Hb8 : Hid (Below W1.heap.size W1 w8) := (nxTo Hb.out Hr5.out).grown hg8 (nxTo Hb.out Hr5.out).size (fun j hj => (own_lt HO5.out j hj).1); clear ho8 hg8 hat8))
          go_roundw
          case rel => exact ⟨k + 1, A8, c8, by omega, by go_num, by rw [Nat.add_mul, Nat.one_mul, ← Nat.add_assoc], by rw [Nat.add_mul, Nat.one_mul, ← Nat.add_assoc]; exact HO8.out, Hb8.out⟩
          case measure => simp [intOf] <;> omega
        · obtain rfl : k = top.length := by omega
          rw [List.take_length] at HO
          have h4 := HT.out.below Hb.out HT.out.lt
          have c0 : wr.cell? ⟨w.heap.size, 0, none⟩ = some (.string ⟨#[]⟩) := h4.cell 0
          have c1' : wr.cell? ⟨w.heap.size, 1, none⟩ = some (.slice none 0 0) := h4.cell 1
          have f0 := h4.frozen 0
          have f1 := h4.frozen 1
          have HT5 := Lib.hid ((h4.set 0 (.string nmRoot)).set 1 (.slice A1 (8 + top.length * 32) c1))
          have HS5 : Hid (Sees ((wr.setCell ⟨w.heap.size, 0, none⟩ (.string nmRoot)).setCell ⟨w.heap.size, 1, none⟩ (.slice A1 (8 + top.length * 32) c1)) wr.heap.size A1 (le8 n ++ top.flatten)) :=
            Sees.setFar (Sees.setFar (Sees.own HO.out) h4 two_no 0 _) (h4.set 0 _) two_no 1 _
          have Hb5 : Hid (Below w.heap.size w ((wr.setCell ⟨w.heap.size, 0, none⟩ (.string nmRoot)).setCell ⟨w.heap.size, 1, none⟩ (.slice A1 (8 + top.length * 32) c1))) :=
            ((nxTo Hb1.out Hb.out).setCell (p := ⟨w.heap.size, 0, none⟩) (Nat.le_refl _) _).setCell (p := ⟨w.heap.size, 1, none⟩) (Nat.le_refl _) _
          have HL : Hid ((le8 n ++ top.flatten).length = 8 + top.length * 32) := by show _ = _; rw [List.length_append, le8_len, H32.out.flat]
          have HC := Lib.hid (own_cap' HO.out)
          clear h4
          go_wp2
          refine bodyPost_ret (results_cell_row Tryd.results32 _ _ w.heap.size 63 _ (0, 0) _ rfl HT5.out Tryd.underlying63 rfl Tryd.txtsize) rfl ⟨A1, c1, by rw [HL.out]; rfl, by rw [HL.out]; exact HC.out, ?_, Hb5.out⟩
          exact HS5.out.more (by simp [World.setCell])

theorem topR_len1 (l : List (List UInt8)) : (topR knotB l).length ≤ 1 := by
  by_cases h : l = []
  · subst h; rw [topR_short (by simp)]; simp
  · rw [topR_eq knotB l h]; simp
theorem topH_len (l : List (List UInt8)) (hne : l ≠ []) (h : All32 l) : (topH knotB l).length = 32 := by
  by_cases h1 : l.length ≤ 1
  · rw [topH_one knotB h1]
    match l, hne, h1, h with
    | [x], _, _, h => exact h x (by simp)
  · rw [topH_two knotB h1]; exact knotB_len _ _
/-- The root of so many, above what is left; the root of hashes. -/
def rootB (n : Nat) (top : List (List UInt8)) : List UInt8 := shaB (tagB nmRoot (le8 n ++ top.flatten))
def rootL (ids : List (List UInt8)) : List UInt8 := rootB ids.length (topR knotB (ids.map leafB))
theorem rootL_len (ids : List (List UInt8)) : (rootL ids).length = 32 := shaB_length _

set_option maxHeartbeats 400000 in
set_option maxRecDepth 100000 in
theorem root_any (w : World) (hT : Tabs w) (A : Option Addr) (m c : Nat) (ids : List (List UInt8)) (hm : m = ids.length) (h32 : All32 ids) (hS : SeesV w w.heap.size A (Hs ids)) (hmax : m ≤ 1048576) :
    Calls Tryd.prog 11 #[.slice A m c] w fun e w' => e = .returned (.agg (By (rootL ids)).toArray) ∧ Below w.heap.size w w' := by
  subst hm
  have hb0 : Below w.heap.size w (w.alloc (.cells (By zero32).toArray 32)) := nxAlloc (nxRefl w) _
  have B0 : Hid (Blk (w.alloc (.cells (By zero32).toArray 32)) w.heap.size 32 (By zero32).toArray) := Lib.hid (heap_alloc_new w _)
  have HT := Lib.hid (hT.later hb0)
  have HS := Lib.hid ((hS.alloc (.cells (By zero32).toArray 32)).size)
  have H32 := Lib.hid h32
  have Hb0 := Lib.hid hb0
  have Hl1 := Lib.hid (topR_len1 (ids.map leafB))
  obtain ⟨top, htop⟩ : ∃ top, topR knotB (ids.map leafB) = top := ⟨_, rfl⟩
  obtain ⟨bes, hbes⟩ : ∃ bes, besR knotB 0 (ids.map leafB) = bes := ⟨_, rfl⟩
  obtain ⟨x, hx⟩ : ∃ x, rootL ids = x := ⟨_, rfl⟩
  obtain ⟨body, hbody⟩ : ∃ body, le8 ids.length ++ top.flatten = body := ⟨_, rfl⟩
  have HX : Hid (shaB (tagB nmRoot body) = x) := by show _ = _; rw [← hx, ← hbody, ← htop, rootL, rootB]
  have HBd := Lib.hid hbody
  have HXl : Hid (x.length = 32) := by show _ = _; rw [← hx, rootL_len]
  have HTp := Lib.hid htop
  have HBs := Lib.hid hbes
  rw [htop] at Hl1
  have HLen : Hid (body.length ≤ 100000) := by
    show _ ≤ _
    rw [← hbody, List.length_append, le8_len]
    match top, Hl1.out, htop with
    | [], _, _ => simp
    | [y], _, ht =>
      have h1 : (topR knotB (ids.map leafB)) ≠ [] := by rw [ht]; simp
      have h2 : y.length = 32 := by
        have hne : ids.map leafB ≠ [] := by intro e; rw [e, topR_short (by simp)] at h1; exact h1 rfl
        rw [topR_eq knotB _ hne] at ht
        injection ht with ht _
        rw [← ht]
        exact topH_len _ hne (by intro z hz; obtain ⟨q, _, rfl⟩ := List.mem_map.1 hz; exact leafB_len q)
      simp [h2]
  have HZ0 := Lib.hid (Tryd.hsizeB x HXl.out)
  rw [hx]
  clear hT hS h32 hb0 htop hbes hx hbody
  go_enter Tryd.func11, Tryd.ntmps11
  go_wp2_with (first
    | (go_at_call 29; refine (climb_any _ HT.out 0 A _ c ids rfl H32.out HS.out hmax (by omega)).mono ?_; rw [HTp.out, HBs.out]; rintro e w2 ⟨A2, c2, B2, d2, rfl, hc2, _, ht2, _, hs2, _, hb2⟩; have HC2 := Lib.hid hc2; have HT2 := Lib.hid ht2; have HS2 := Lib.hid hs2; have Hb2 := Lib.hid hb2; have B2' := Lib.hid (B0.out.below hb2 B0.out.lt); clear hc2 ht2 hs2 hb2)
    | (go_at_call 32; refine (rootText_any _ ids.length (by omega) A2 _ c2 top rfl HT2.out HS2.out (by have := Hl1.out; omega)).mono ?_; rw [HBd.out]; rintro e w3 ⟨A3, c3, rfl, hc3, hs3, hb3⟩; have HC3 := Lib.hid hc3; have HS3 := Lib.hid hs3; have Hb3 := Lib.hid (nxTo Hb2.out hb3); have B3 := Lib.hid (B2'.out.below hb3 B2'.out.lt); clear hc3 hs3 hb3)
    | (go_at_call 33; refine (hash_any w3 (HT.out.later Hb3.out) nmRoot nm_le.2.2 A3 body.length c3 body rfl HC3.out HS3.out HLen.out).mono ?_; rw [HX.out]; rintro e w4 ⟨rfl, hb4⟩; have Hb4 := Lib.hid (nxTo Hb3.out hb4); have B4 := Lib.hid (B3.out.below hb4 B3.out.lt); clear hb4)
    | ((with_reducible show wpList _ _ _ (⟨none, .store 32 _ _, _, _, _, _⟩ :: _) _ _); refine wpList_store_all rfl 32 (.tmp 2) (.tmp 14) rfl w.heap.size 32 (By zero32).toArray (By x).toArray rfl rfl B4.out (by rw [List.size_toArray, List.size_toArray, By_length, By_length, HXl.out]; rfl) HZ0.out (By_one _) ?_; intro w5 h5 h6 h7; have H5 := Lib.hid h5; have Hb5 : Hid (Below w.heap.size w w5) := (nxTo Hb0.out Hb4.out).trans (h6.below (nxTo Hb0.out Hb4.out).size (fun k hk => by omega)); clear h5 h6 h7))
  refine bodyPost_ret (results_cell_row Tryd.results11 _ _ w.heap.size 32 _ (0, 0) _ rfl H5.out Tryd.underlying32 rfl HZ0.out) rfl ⟨rfl, Hb5.out⟩
end Go.Proofs.YtcbdjcmjchoagaaDoor
