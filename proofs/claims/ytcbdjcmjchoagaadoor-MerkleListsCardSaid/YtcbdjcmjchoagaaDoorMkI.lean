/-
  merkle, the document's: Top.
-/
import Derived.Test.YtcbdjcmjchoagaaDoorMkH
namespace Go.Proofs.YtcbdjcmjchoagaaDoor
open Go.RowKit

theorem byte_of' (n k : Nat) : (n : Int) / 2 ^ (8 * k) % 256 = ((UInt8.ofNat (n / 256 ^ k)).toNat : Int) := by
  have e2 : (2 : Int) ^ (8 * k) = ((256 ^ k : Nat) : Int) := by
    have : (256 : Nat) ^ k = 2 ^ (8 * k) := by rw [Nat.pow_mul]
    rw [this]; simp
  rw [e2, ← Int.natCast_ediv, UInt8.toNat_ofNat']
  omega

set_option maxHeartbeats 1000000 in
set_option maxRecDepth 100000 in
theorem rtop_any (w : World) (n : Nat) (hn : n < 4611686018427387904) (A : Option Addr) (m c : Nat) (l : List UInt8) (hm : m = l.length) (hS : Sees w w.heap.size A l) (hmax : m ≤ 1000) :
    Calls Tryd.prog 27 #[.int .i64 (n : Int), .slice A m c] w fun e w' => e = .returned (.agg (By (shaB (tagB nmRoot (le8 n ++ l)))).toArray) ∧ Below w.heap.size w w' := by
  subst hm
  have HS := Lib.hid hS
  have hT : Blk (w.alloc (.cells (By zero32).toArray 32)) w.heap.size 32 (By zero32).toArray := heap_alloc_new w _
  have hb1 : Below w.heap.size w (w.alloc (.cells (By zero32).toArray 32)) := nxAlloc (nxRefl w) _
  have HT := Lib.hid hT
  have Hb1 := Lib.hid hb1
  have HC := Lib.hid (cutN_short nmRoot (by show 4 ≤ 255; omega))
  obtain ⟨body, hbody⟩ : ∃ body, le8 n ++ l = body := ⟨_, rfl⟩
  obtain ⟨x, hx⟩ : ∃ x, shaB (tagB nmRoot body) = x := ⟨_, rfl⟩
  have HX : Hid (shaB (tagB (cutN nmRoot) body) = x) := by show _ = _; rw [HC.out, ← hx]
  have HXl : Hid (x.length = 32) := by show _ = _; rw [← hx, shaB_length]
  have HZ0 := Lib.hid (Tryd.hsizeB x HXl.out)
  have HBl : Hid (body.length = 8 + l.length) := by show _ = _; rw [← hbody, List.length_append, le8_len]
  have HBd := Lib.hid hbody
  rw [hbody, hx]
  clear hS hn hT hb1 hbody hx
  obtain ⟨i0, hi, hz0, hz1, hz2⟩ := info_parts Tryd.u8info
  go_enter Tryd.func27, Tryd.ntmps27
  go_wp2
  change Code.wp _ _ _ _ (w.alloc (.cells (By zero32).toArray 32))
  generalize w.alloc (.cells (By zero32).toArray 32) = W1 at *
  go_loopw [5, 6] (fun bv iv wr => ∃ (k : Nat) (A1 : Option Addr) (c1 : Nat), k ≤ 8 ∧ iv = .int .i64 k ∧ bv = .slice A1 k c1 ∧ Hid (wr.ownsRow W1.heap.size 5 1 (.slice A1 k c1) k (By ((le8 n).take k))) ∧ Hid (Below W1.heap.size W1 wr)) (fun _ iv _ => 8 - (intOf iv).toNat)
  case atStart => exact ⟨0, none, 0, by omega, rfl, rfl, World.ownsRow_nil _ _ _ _, nxRefl W1⟩
  case round =>
    obtain ⟨k, A1, c1, hk, rfl, rfl, HO, Hb⟩ := hrel
    by_cases hlt : k < 8
    · have HB : Hid (By [UInt8.ofNat (n / 256 ^ k)] = [.int .u8 ((n : Int) / 2 ^ (8 * k) % 256)]) := by show _ = _; rw [byte_of' n k]; rfl
      have HN := Lib.hid (le8_next n k hlt)
      go_wp2_with ((with_reducible show wpList _ _ _ (⟨some 19, _, _, _, _, _⟩ :: _) _ _); refine wpList_append_seesV rfl (.tmp 11) (.tmp 18) 47 rfl W1.heap.size 5 i0 (.int .u8 0) 1 1 Tryd.underlying47 hi hz0 hz1 hz2 rfl (by omega) (.slice A1 k c1) k (By ((le8 n).take k)) rfl (HO.out.alloc _) (wr.heap.size + 1) (some ⟨wr.heap.size, 0, none⟩) 1 1 [.int .u8 ((n : Int) / 2 ^ (8 * k) % 256)] rfl rfl (SeesV.lit' wr [.int .u8 ((n : Int) / 2 ^ (8 * k) % 256)] 5) (by intro u hu; simp at hu; subst hu; rfl) (by omega) (by omega) (by have h1 := Hb.out.size; simp; omega) ?_; intro v8 w8 ho8 hg8 hat8; obtain ⟨A8, c8, rfl⟩ := own_form ho8; rw [← HB.out, ← By_append, ← HN.out] at ho8; have HO8 := Lib.hid ho8; have Hb8 : Hid (Below W1.heap.size W1 w8) := (nxAlloc Hb.out _).grown hg8 (nxAlloc Hb.out _).size (fun j hj => (own_lt HO.out j hj).1); clear ho8 hg8 hat8)
      go_roundw
      case rel => exact ⟨k + 1, A8, c8, by omega, by go_num, rfl, HO8.out, Hb8.out⟩
      case measure => simp [intOf] <;> omega
    · obtain rfl : k = 8 := by omega
      have HO' : Hid (wr.ownsRow W1.heap.size 5 1 (.slice A1 8 c1) 8 (By (le8 n))) := by
        show World.ownsRow _ _ _ _ _ _ _
        have h := HO.out
        rwa [List.take_of_length_le (by rw [le8_len]; omega)] at h
      have HT2 := Lib.hid (HT.out.below Hb.out HT.out.lt)
      clear HO
      rw [show ((8 : Nat) : Int) = (8 : Int) from rfl]
      go_wp2_with (first
        | ((with_reducible show wpList _ _ _ (⟨some 22, _, _, _, _, _⟩ :: _) _ _); refine wpList_append_sees rfl (.tmp 20) (.tmp 21) 47 rfl W1.heap.size 5 i0 (.int .u8 0) Tryd.underlying47 hi hz0 hz1 hz2 rfl (.slice A1 8 c1) 8 (By (le8 n)) rfl HO'.out w.heap.size A l.length c l rfl rfl (HS.out.below (nxTo Hb1.out Hb.out)) (by omega) Hb.out.size ?_; intro v5 w5 ho5 hg5 hat5; rw [← By_append, HBd.out, ← HBl.out] at ho5; obtain ⟨A5, c5, rfl⟩ := own_form ho5; have HS5 := Lib.hid (Sees.own ho5); have Hb5 : Hid (Below W1.heap.size W1 w5) := Hb.out.grown hg5 Hb.out.size (fun j hj => (own_lt HO'.out j hj).1); have HT5 := Lib.hid (HT.out.below Hb5.out HT.out.lt); clear ho5 hg5 hat5)
        | (go_at_call 42; refine (rtag_any w5 nmRoot A5 body.length c5 body rfl HS5.out (by have := HBl.out; omega) (by show 4 ≤ _; omega)).mono ?_; rw [HX.out]; rintro e w6 ⟨rfl, hb6⟩; have Hb6 : Hid (Below W1.heap.size W1 w6) := nxTo Hb5.out hb6; have HT6 := Lib.hid (HT.out.below Hb6.out HT.out.lt); clear hb6)
        | ((with_reducible show wpList _ _ _ (⟨none, .store 32 _ _, _, _, _, _⟩ :: _) _ _); refine wpList_store_all rfl 32 (.tmp 4) (.tmp 23) rfl w.heap.size 32 (By zero32).toArray (By x).toArray rfl rfl HT6.out (by rw [List.size_toArray, List.size_toArray, By_length, By_length, HXl.out]; rfl) HZ0.out (By_one _) ?_; intro w7 h5 h6 h7; have H7 := Lib.hid h5; have Hb7 : Hid (Below w.heap.size w w7) := (nxTo Hb1.out Hb6.out).trans (h6.below (nxTo Hb1.out Hb6.out).size (fun k hk => by omega)); clear h5 h6 h7))
      refine bodyPost_ret (results_cell_row Tryd.results27 _ _ w.heap.size 32 _ (0, 0) _ rfl H7.out Tryd.underlying32 rfl HZ0.out) rfl ⟨rfl, Hb7.out⟩

end Go.Proofs.YtcbdjcmjchoagaaDoor
