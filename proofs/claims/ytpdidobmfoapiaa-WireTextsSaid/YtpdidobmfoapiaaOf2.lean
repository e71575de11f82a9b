/-
  OfHex of the program: the walk.
-/
import Derived.Test.YtpdidobmfoapiaaOf
namespace Go.Proofs.Ytpdidobmfoapiaa
open Go.RowKit

/-- What holds at the head of a round. -/
structure Ofing (w : World) (g : Nat) (S : ByteArray) (pos : Nat) (A : Option Addr) (c H : Nat) (wr : World) : Prop where
  iter : wr.heap[g]? = some (.stringIter S pos)
  ge : w.heap.size ≤ g
  own : wr.ownsRow w.heap.size 5 1 (.slice A (pos / 2) c) (pos / 2) (By (bytesTo S (pos / 2)))
  ok : ∀ i, i < pos → dAt S i < 16
  high : pos % 2 = 1 → H = 16 * dAt S (pos - 1)
  below : Below w.heap.size w wr

theorem Ofing.pos {w : World} {g : Nat} {S : ByteArray} {pos : Nat} {A : Option Addr} {c H : Nat} {wr : World} (h : Ofing w g S pos A c H wr) : wr.iterPos g = pos := by
  simp [World.iterPos, h.iter]

set_option maxHeartbeats 1000000 in
set_option maxRecDepth 100000 in
theorem ofHex_any (w : World) (S : ByteArray) (hmax : S.size ≤ 9000) : Calls Try.prog 27 #[.string S] w (OfPost w S) := by
  by_cases hodd : S.size % 2 = 0
  · have hodd' : ((S.size : Int) % 2 != 0) = false := by simp; omega
    obtain ⟨i0, hi, hz0, hz1, hz2⟩ := info_parts Try.u8info
    obtain ⟨w1, hr, hown0, hgr0⟩ := run_make_own (P := Try.prog) w w.heap.size 25 5 i0 (.int .u8 0) 1 Try.underlying25 hi hz0 hz1 .i64 .i64 (S.size / 2) (by rw [hz2]; omega) (by simp only [maxLen]; omega) (Nat.le_refl _)
    rw [show ((S.size / 2 : Nat) : Int) = (S.size : Int) / 2 by omega] at hr
    have hbel0 : Below w.heap.size w w1 := (Below.refl _ _).grown hgr0 (Nat.le_refl _) (fun j hj => by cases hj)
    have Hown0 := Lib.hid (hown0.alloc (.stringIter S 0))
    have hz := hbel0.size
    clear hown0 hgr0
    go_enter Try.func27, Try.ntmps27
    go_wp2
    go_loopw [4, 5] (fun v h wr => ∃ (pos : Nat) (A : Option Addr) (c H : Nat), pos ≤ S.size ∧ v = .slice A (pos / 2) c ∧ h = .int .u8 H ∧ Hid (Ofing w w1.heap.size S pos A c H wr)) (fun _ _ wr => S.size - wr.iterPos w1.heap.size)
    case atStart =>
      refine ⟨0, _, _, 0, Nat.zero_le _, rfl, rfl, ?_⟩
      exact ⟨heap_alloc_new w1 _, hz, Hown0.out, fun i hi => absurd hi (by omega), fun h => absurd h (by omega), hbel0.alloc hz _⟩
    case round =>
      obtain ⟨pos, A, c, H, hpos, rfl, rfl, HR⟩ := hrel
      have Hip := Lib.hid HR.out.pos
      by_cases hlt : pos < S.size
      · obtain ⟨w2, hn, hi2, hk2, hsz2⟩ := run_next_at (P := Try.prog) _ S pos HR.out.iter hlt
        clear hsz2
        have hbel2 : Below w.heap.size w w2 := HR.out.below.trans (hk2.below HR.out.below.size (fun k hk => by have := HR.out.ge; omega))
        by_cases ha : (S[pos]'hlt).toNat < 128
        · rw [decode_ascii S pos hlt ha] at hn hi2
          have HO2 := Lib.hid (own_iter HR.out.own HR.out.iter hk2)
          have Hi2 := Lib.hid hi2
          have Hat := Lib.hid (dAt_eq S pos hlt)
          clear hi2 hk2
          generalize (S[pos]'hlt).toNat = x at hn ha Hat
          by_cases hd : dig x < 16
          · have Hok2 : Hid (∀ i, i < pos + 1 → dAt S i < 16) := by
              intro i hi
              by_cases e : i = pos
              · rw [e, Hat.out]; exact hd
              · exact HR.out.ok i (by omega)
            by_cases hp : pos % 2 = 0
            · have hpar : ((pos : Int) % 2 == 0) = true := by simp; omega
              go_wp2_with (go_at_call 47; refine (digitOf_is _ _ hd).mono ?_; rintro e w' ⟨rfl, rfl⟩)
              go_roundw
              case rel =>
                refine ⟨pos + 1, A, c, 16 * dig x, by omega, ?_, ?_, ?_⟩
                · rw [show (pos + 1) / 2 = pos / 2 by omega]
                · congr 1; omega
                · exact ⟨Hi2.out, HR.out.ge, by rw [show (pos + 1) / 2 = pos / 2 by omega]; exact HO2.out.1, Hok2.out, fun _ => by rw [Nat.add_sub_cancel, Hat.out], hbel2⟩
              case measure =>
                rw [Hip.out, show w2.iterPos w1.heap.size = pos + 1 by simp [World.iterPos, Hi2.out]]
                omega
            · have hpar : ((pos : Int) % 2 == 0) = false := by simp; omega
              have hH : H < 256 := by
                have h1 := HR.out.high (by omega)
                have h2 := HR.out.ok (pos - 1) (by omega)
                omega
              have hor : bits .or .u8 (H : Int) (dig x : Int) = ((UInt8.ofNat (16 * dAt S (2 * (pos / 2)) + dAt S (2 * (pos / 2) + 1))).toNat : Int) := by
                have h1 := HR.out.high (by omega)
                have h2 := HR.out.ok (pos - 1) (by omega)
                rw [show 2 * (pos / 2) = pos - 1 by omega, show pos - 1 + 1 = pos by omega, Hat.out, h1, or_16 _ _ h2 hd]
                simp only [UInt8.toNat_ofNat']
                omega
              have Hbt := Lib.hid (bytesTo_succ S (pos / 2))
              have Hsl := Lib.hid (Sees.one w2 (UInt8.ofNat (16 * dAt S (2 * (pos / 2)) + dAt S (2 * (pos / 2) + 1))) 5)
              generalize UInt8.ofNat (16 * dAt S (2 * (pos / 2)) + dAt S (2 * (pos / 2) + 1)) = y at hor Hbt Hsl
              go_wp2_with (first
                | (go_at_call 47; refine (digitOf_is _ _ hd).mono ?_; rintro e w' ⟨rfl, rfl⟩)
                | (at_builtin; refine wpList_append_sees rfl (.tmp 36) (.tmp 40) 25 rfl w.heap.size 5 i0 (.int .u8 0) Try.underlying25 hi hz0 hz1 hz2 rfl (.slice A (pos / 2) c) (pos / 2) (By (bytesTo S (pos / 2))) rfl (HO2.out.1.alloc _) (w2.heap.size + 1) (some ⟨w2.heap.size, 0, none⟩) 1 1 [y] rfl rfl Hsl.out (by omega) (by have := hbel2.size; simp; omega) ?_; intro v' w3 hown hgr hat; obtain ⟨A3, c3, rfl⟩ := own_form hown; have Hown3 : Hid (w3.ownsRow w.heap.size 5 1 (.slice A3 (pos / 2 + 1) c3) (pos / 2 + 1) (By (bytesTo S (pos / 2 + 1)))) := (by show World.ownsRow _ _ _ _ _ _ _; rw [Hbt.out, By_append]; exact hown); have hbel3 : Below w.heap.size w w3 := (hbel2.alloc hbel2.size _).grown hgr (by have := hbel2.size; simp; omega) (fun j hj => (HO2.out.1.lt j hj).1); have Hi3 : Hid (w3.heap[w1.heap.size]? = some (.stringIter S (pos + 1))) := (by show _ = _; have hlt2 : w1.heap.size < w2.heap.size := (by rcases Nat.lt_or_ge w1.heap.size w2.heap.size with h | h; exact h; have h2 := Hi2.out; rw [Array.getElem?_eq_none h] at h2; cases h2); rw [hgr.block w1.heap.size (by simp; omega) (fun e => HO2.out.2 e.symm), Below.heap_alloc _ _ _ hlt2]; exact Hi2.out); clear hown hgr hat))
              go_roundw
              case rel =>
                refine ⟨pos + 1, A3, c3, H, by omega, ?_, rfl, ?_⟩
                · rw [show (pos + 1) / 2 = pos / 2 + 1 by omega]
                · exact ⟨Hi3.out, HR.out.ge, by rw [show (pos + 1) / 2 = pos / 2 + 1 by omega]; exact Hown3.out, Hok2.out, fun h => absurd h (by omega), hbel3⟩
              case measure =>
                rw [Hip.out, show w3.iterPos w1.heap.size = pos + 1 by simp [World.iterPos, Hi3.out]]
                omega
          · go_wp2_with (go_at_call 47; refine (digitOf_no _ _ hd).mono ?_; rintro e w' ⟨rfl, rfl⟩)
            go_ret2
            exact OfPost.bad (goodB_bad hlt (by rw [Hat.out]; exact hd)) hbel2
        · have hh := (decode_high S pos hlt (by omega)).1
          have Hd : Hid (¬ dAt S pos < 16) := by
            show ¬ _
            rw [dAt_eq S pos hlt, dig_high (by omega)]
            omega
          clear hi2 hk2
          generalize (Utf8.decode S pos).1 = x at hn hh
          go_wp2_with (go_at_call 47; refine (digitOf_no _ _ (by rw [dig_high hh]; omega)).mono ?_; rintro e w' ⟨rfl, rfl⟩)
          go_ret2
          exact OfPost.bad (goodB_bad hlt Hd.out) hbel2
      · obtain rfl : pos = S.size := by omega
        have hst := run_next_stop (P := Try.prog) _ S _ HR.out.iter hlt
        have Hgood : Hid (goodB S = true) := (goodB_iff S).2 ⟨hodd, HR.out.ok⟩
        go_wp2
        go_ret2
        have hg := Hgood.out
        exact ⟨A, c, by simp [outB, hg, bytesTo_length], by simp only [outB, hg, if_true]; exact Sees.own HR.out.own, HR.out.below⟩
  · have hodd' : ((S.size : Int) % 2 != 0) = true := by simp; omega
    have Hodd := Lib.hid hodd
    clear hodd
    go_enter Try.func27, Try.ntmps27
    go_wp2
    go_ret2
    exact OfPost.bad (goodB_odd Hodd.out) (Below.refl _ _)

end Go.Proofs.Ytpdidobmfoapiaa
