/-
  The readers of package wire: hashes.
-/
import Derived.Test.YtlpcbkajgibhcaaRe3
import Derived.Test.YtlpcbkajgibhcaaCopy
import Derived.Deep.RegionWith
namespace Go.Proofs.Ytlpcbkajgibhcaa
open Go.RowKit

def zero32 : List UInt8 := List.replicate 32 0
theorem zero32_cells : (By zero32).toArray = #[.int .u8 0, .int .u8 0, .int .u8 0, .int .u8 0, .int .u8 0, .int .u8 0, .int .u8 0, .int .u8 0, .int .u8 0, .int .u8 0, .int .u8 0, .int .u8 0, .int .u8 0, .int .u8 0, .int .u8 0, .int .u8 0, .int .u8 0, .int .u8 0, .int .u8 0, .int .u8 0, .int .u8 0, .int .u8 0, .int .u8 0, .int .u8 0, .int .u8 0, .int .u8 0, .int .u8 0, .int .u8 0, .int .u8 0, .int .u8 0, .int .u8 0, .int .u8 0] := rfl
theorem Try.u8size : (Try.prog.info? 5).map (·.size) = some 1 := by kernel_rfl

theorem Try.hsize : (Try.prog.info? 40).map (·.size) = some 32 := by kernel_rfl
theorem hsize_over (p : List UInt8) : (Try.prog.info? 40).map (·.size) = some (By (over zero32 p 32)).toArray.size := by
  rw [Try.hsize, List.size_toArray, By_length]
  exact congrArg some (over_length zero32 p).symm
theorem size_over (p : List UInt8) : (By zero32).toArray.size = (By (over zero32 p 32)).toArray.size := by
  rw [List.size_toArray, By_length, List.size_toArray, By_length]
  exact (over_length zero32 p).symm
theorem Rd.lt {w : World} {g : Nat} {d : Option Nat} {st : Option (List UInt8)} (h : Rd w g d st) : g < w.heap.size := by
  obtain ⟨_, A, c, hb, _⟩ := h; exact hb.lt
/-- The second of two new blocks. -/
theorem Blk.second (w : World) (o : Obj) (t : TypeId) (cs : Array Value) : Blk ((w.alloc o).alloc (.cells cs t)).drew (w.heap.size + 1) t cs := by
  have := heap_alloc_new (w.alloc o) (.cells cs t)
  rw [World.size_alloc] at this
  exact this
/-- The first of two new blocks. -/
theorem Blk.first (w : World) (o : Obj) (t : TypeId) (cs : Array Value) : Blk ((w.alloc (.cells cs t)).alloc o).drew w.heap.size t cs := by
  have h1 : Blk (w.alloc (.cells cs t)) w.heap.size t cs := heap_alloc_new w _
  exact h1.alloc o
theorem below_two (w : World) (o o' : Obj) : Below w.heap.size w ((w.alloc o).alloc o').drew := (((Below.refl _ _).alloc (Nat.le_refl _) _).alloc (by simp) _).drew

set_option maxHeartbeats 400000 in
set_option maxRecDepth 100000 in
theorem rhash_s (w : World) (g : Nat) (d : Option Nat) (st : Option (List UInt8)) (hR : Rd w g d st) :
    Calls Try.prog 29 #[.pointer (some ⟨g, 0, none⟩)] w fun e w' => e = .returned (.agg (By (over zero32 (cutPiece st 32 true) 32)).toArray) ∧ Rd w' g d (cutRest st 32 true) ∧ Keeps (· = g) w w' := by
  have hg := hR.lt
  have Hd : Hid (∀ k, d = some k → k < w.heap.size) := fun k e => (hR.1 k e).2
  have HR := Lib.hid hR
  clear hR
  generalize hp : cutPiece st 32 true = p at *
  generalize hr : cutRest st 32 true = st' at *
  have Hp := Lib.hid hp
  have Hr := Lib.hid hr
  clear hp hr
  go_enter Try.func29, Try.ntmps29
  go_wp2
  go_region_law (first | (refine step_copy_sees rfl (.tmp 4) (.tmp 6) 22 22 rfl 5 Try.underlying22 Try.u8size (w.heap.size + 1) 32 32 (by simp [Act.eval]) 40 zero32 HB1.out (by simp [zero32]) A p.length c (by simp [Act.eval]) _ p Hs1.out rfl ?_; intro w4 h1 h2 h3) | (go_simp; go_at_call 31; refine (cut_s _ _ _ _ (HR.out.below (below_two w _ _)) 32 true (fun _ => by omega)).mono ?_; rw [Hp.out, Hr.out]; rintro e w1 ⟨A, c, rfl, hs1, ha1, hR1, hk1, hz1⟩; have Hs1 := Lib.hid hs1; have HB1 := Lib.hid ((Blk.second w _ 40 (By zero32).toArray).keeps hk1 (by omega)); have HB0 := Lib.hid ((Blk.first w _ 40 (By zero32).toArray).keeps hk1 (by omega)); have HR1 := Lib.hid hR1; have Hk1 := Lib.hid hk1; have Hz1 := Lib.hid hz1; clear hs1 ha1 hR1 hk1 hz1))
  have HB4 : Hid (Blk w4 w.heap.size 40 (By zero32).toArray) := HB0.out.keeps h2 (by omega)
  have HX := Lib.hid h1
  have Hk2 := Lib.hid h2
  have Hz2 := Lib.hid h3
  clear h1 h2 h3
  have HO := Lib.hid (hsize_over p)
  have HZ := Lib.hid (size_over p)
  go_wp2_with (first
    | ((with_reducible show wpList _ _ _ (⟨some 8, _, _, _, _, _⟩ :: _) _ _); refine wpList_load_row rfl 40 (.tmp 3) rfl (w.heap.size + 1) rfl 40 (By (over zero32 p 32)).toArray (0, 0) _ HX.out Try.underlying40 rfl HO.out ?_)
    | ((with_reducible show wpList _ _ _ (⟨none, _, _, _, _, _⟩ :: _) _ _); refine wpList_store_all rfl 40 (.tmp 2) (.tmp 8) rfl w.heap.size 40 (By zero32).toArray (By (over zero32 p 32)).toArray rfl rfl HB4.out HZ.out HO.out (By_one _) ?_; intro w5 h5 h6 h7; have H5 := Lib.hid h5; have H6 := Lib.hid h6; have H7 := Lib.hid h7; clear h5 h6 h7))
  refine bodyPost_ret (results_cell_row Try.results29 _ _ w.heap.size 40 _ (0, 0) _ rfl H5.out Try.underlying40 rfl HO.out) rfl ⟨rfl, ?_, ?_⟩
  · exact (HR1.out.keeps Hk2.out (by omega) (fun k e => by have := Hd.out k e; omega)).keeps H6.out (by omega) (fun k e => by have := Hd.out k e; omega)
  · have k1 : Keeps (· = g) w w1 := (Keeps.of_below (below_two w _ _) _).trans Hk1.out
    have z1 : w.heap.size + 2 = w1.heap.size := by have := Hz1.out; simp at this; omega
    exact ⟨H6.out.os.trans (Hk2.out.os.trans k1.os), H6.out.tape.trans (Hk2.out.tape.trans k1.tape), H6.out.output.trans (Hk2.out.output.trans k1.output), by have := H7.out; have := Hz2.out; omega,
      fun k hk hn => (H6.out.block k (by have := Hz2.out; omega) (by omega)).trans ((Hk2.out.block k (by omega) (by omega)).trans (k1.block k hk hn))⟩

end Go.Proofs.Ytlpcbkajgibhcaa
