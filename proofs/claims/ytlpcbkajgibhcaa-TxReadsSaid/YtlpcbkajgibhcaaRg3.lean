/-
  The document's reader: hashes.
-/
import Derived.Test.YtlpcbkajgibhcaaRg2
namespace Go.Proofs.Ytlpcbkajgibhcaa
open Go.RowKit

/-- A hash of which the first k bytes are p's. -/
def hcopy (p : List UInt8) (k : Nat) : List UInt8 := p.take k ++ zero32.drop k
theorem hcopy_len (p : List UInt8) (k : Nat) (h : k ≤ p.length) (h2 : p.length ≤ 32) : (hcopy p k).length = 32 := by
  simp [hcopy, zero32]; omega
theorem hcopy_set (p : List UInt8) (k : Nat) (h : k < p.length) (h2 : p.length ≤ 32) : (By (hcopy p k)).toArray.setIfInBounds k (.int .u8 (p[k].toNat : Int)) = (By (hcopy p (k + 1))).toArray := by
  simp only [List.setIfInBounds_toArray]
  congr 1
  have hz : zero32.drop k = 0 :: zero32.drop (k + 1) := by
    have hk : k < zero32.length := by simp [zero32]; omega
    have e0 : zero32[k] = 0 := by
      unfold zero32
      exact List.getElem_replicate _
    rw [List.drop_eq_getElem_cons hk, e0]
  have e : (By (p.take k)).length = k := by simp [By]; omega
  rw [hcopy, hcopy, By_append, hz, List.take_succ_eq_append_getElem h, By_append, By_append]
  rw [List.set_append_right _ _ (by omega), e, Nat.sub_self]
  simp [By]
theorem hcopy_over (p : List UInt8) (h2 : p.length ≤ 32) : hcopy p p.length = over zero32 p 32 := by
  unfold hcopy over
  have : Nat.min p.length 32 = p.length := Nat.min_eq_left h2
  rw [this, List.take_length, List.take_of_length_le h2]
theorem hcopy_some (p : List UInt8) (k : Nat) (h : k < p.length) (h2 : p.length ≤ 32) : ∃ q : Int, (By (hcopy p k)).toArray[k]? = some (.int .u8 q) := by
  have hl := hcopy_len p k (by omega) h2
  exact ⟨((hcopy p k)[k]'(by omega)).toNat, by simp [By, show k < (hcopy p k).length by omega]⟩

theorem Blk.second' (w : World) (o : Obj) (t : TypeId) (cs : Array Value) : Blk ((w.alloc o).alloc (.cells cs t)) (w.heap.size + 1) t cs := Blk.second w o t cs
theorem Blk.first' (w : World) (o : Obj) (t : TypeId) (cs : Array Value) : Blk ((w.alloc (.cells cs t)).alloc o) w.heap.size t cs := Blk.first w o t cs
theorem below_two' (w : World) (o o' : Obj) : Below w.heap.size w ((w.alloc o).alloc o') := ((Below.refl _ _).alloc (Nat.le_refl _) _).alloc (by simp) _

set_option maxHeartbeats 400000 in
set_option maxRecDepth 100000 in
theorem rfhash_s (w : World) (g : Nat) (d : Option Nat) (st : Option (List UInt8)) (hR : Rf w g d st) :
    Calls Try.prog 18 #[.pointer (some ⟨g, 0, none⟩)] w fun e w' => e = .returned (.agg (By (over zero32 (cutPiece st 32 true) 32)).toArray) ∧ Rf w' g d (cutRest st 32 true) ∧ Keeps (· = g) w w' := by
  have hg := hR.lt
  have Hd : Hid (∀ k, d = some k → k < w.heap.size) := fun k e => (hR.1 k e).2
  have HR := Lib.hid hR
  have hp32 := cutPiece_le st 32 true
  clear hR
  generalize hp : cutPiece st 32 true = p at *
  generalize hr : cutRest st 32 true = st' at *
  have Hp : Hid (cutPiece st 32 (decide (0 ≤ (32 : Int))) = p) := hp
  have Hr : Hid (cutRest st 32 (decide (0 ≤ (32 : Int))) = st') := hr
  clear hp hr
  have h32 : p.length ≤ 32 := hp32
  clear hp32
  go_enter Try.func18, Try.ntmps18
  go_wp2_with (go_at_call 35; refine (rfcut_s _ _ _ _ (HR.out.below (below_two' w _ _)) 32).mono ?_; rw [Hp.out, Hr.out]; rintro e w1 ⟨A, c, rfl, hs1, ha1, hR1, hk1, hz1⟩; have Hs1 := Lib.hid hs1; have Ha1 := Lib.hid ha1; have HB1 := Lib.hid ((Blk.second' w _ 40 (By zero32).toArray).keeps hk1 (by omega)); have HB0 := Lib.hid ((Blk.first' w _ 40 (By zero32).toArray).keeps hk1 (by omega)); have HR1 := Lib.hid hR1; have Hk1 := Lib.hid hk1; have hz2 : w1.heap.size = w.heap.size + 2 := (by rw [hz1]; simp); have Hz1 := Lib.hid hz2; clear hs1 ha1 hR1 hk1 hz1 hz2)
  go_loopw [5] (fun i wr => ∃ k : Nat, k ≤ p.length ∧ i = .int .i64 k ∧ Hid (Blk wr (w.heap.size + 1) 40 (By (hcopy p k)).toArray) ∧ Hid (Keeps (· = w.heap.size + 1) w1 wr)) (fun i _ => p.length - (intOf i).toNat)
  case atStart => exact ⟨0, Nat.zero_le _, rfl, HB1.out, Keeps.refl _ _⟩
  case round =>
    obtain ⟨k, hk, rfl, HB, HK⟩ := hrel
    by_cases hlt : k < p.length
    · have hs := Hs1.out.keeps2 HK.out (fun h0 ad e _ => by have := Hd.out _ (Ha1.out ad h0 e); omega)
      obtain ⟨b, off, rfl, hb, hc⟩ := hs.at_ hlt
      have ck : wr.cell? ⟨b, off + k, none⟩ = some (.int .u8 (p[k].toNat : Int)) := hc k hlt
      obtain ⟨q, hq⟩ := hcopy_some p k hlt h32
      have cq : wr.cell? ⟨w.heap.size + 1, k, none⟩ = some (.int .u8 q) := (HB.out.cell k).trans hq
      have fq : wr.frozen? ⟨w.heap.size + 1, k, none⟩ = false := HB.out.frozen k
      have HSt := Lib.hid (hcopy_set p k hlt h32)
      have hk32 : (k : Int) < 32 := by omega
      clear hs hc hq
      go_wp2
      go_roundw
      case rel => exact ⟨k + 1, by omega, by go_num, by show Blk _ _ _ _; rw [← HSt.out]; exact HB.out.set k _, HK.out.setCell (by exact rfl) _⟩
      case measure => simp [intOf]; omega
    · obtain rfl : k = p.length := by omega
      have HX : Hid (Blk wr (w.heap.size + 1) 40 (By (over zero32 p 32)).toArray) := by
        show Blk _ _ _ _
        rw [← hcopy_over p h32]; exact HB.out
      have HB4 : Hid (Blk wr w.heap.size 40 (By zero32).toArray) := HB0.out.keeps HK.out (by omega)
      have HO := Lib.hid (hsize_over p)
      have HZ := Lib.hid (size_over p)
      go_wp2_with (first
        | ((with_reducible show wpList _ _ _ (⟨some 20, _, _, _, _, _⟩ :: _) _ _); refine wpList_load_row rfl 40 (.tmp 3) rfl (w.heap.size + 1) rfl 40 (By (over zero32 p 32)).toArray (0, 0) _ HX.out Try.underlying40 rfl HO.out ?_)
        | ((with_reducible show wpList _ _ _ (⟨none, _, _, _, _, _⟩ :: _) _ _); refine wpList_store_all rfl 40 (.tmp 2) (.tmp 20) rfl w.heap.size 40 (By zero32).toArray (By (over zero32 p 32)).toArray rfl rfl HB4.out HZ.out HO.out (By_one _) ?_; intro w5 h5 h6 h7; have H5 := Lib.hid h5; have H6 := Lib.hid h6; have H7 := Lib.hid h7; clear h5 h6 h7))
      refine bodyPost_ret (results_cell_row Try.results18 _ _ w.heap.size 40 _ (0, 0) _ rfl H5.out Try.underlying40 rfl HO.out) rfl ⟨rfl, ?_, ?_⟩
      · exact (HR1.out.keeps HK.out (by omega) (fun k e => by have := Hd.out k e; omega)).keeps H6.out (by omega) (fun k e => by have := Hd.out k e; omega)
      · have k1 : Keeps (· = g) w w1 := (Keeps.of_below (below_two' w _ _) _).trans Hk1.out
        have z1 := Hz1.out
        have z2 := HK.out.size
        exact ⟨H6.out.os.trans (HK.out.os.trans k1.os), H6.out.tape.trans (HK.out.tape.trans k1.tape), H6.out.output.trans (HK.out.output.trans k1.output), by have := H7.out; omega,
          fun k hk hn => (H6.out.block k (by omega) (by omega)).trans ((HK.out.block k (by omega) (by omega)).trans (k1.block k hk hn))⟩

end Go.Proofs.Ytlpcbkajgibhcaa
