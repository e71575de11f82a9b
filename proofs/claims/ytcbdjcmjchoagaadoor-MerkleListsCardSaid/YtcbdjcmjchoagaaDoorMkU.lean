/-
  merkle, the document's: Check.
-/
import Derived.Test.YtcbdjcmjchoagaaDoorMkT
namespace Go.Proofs.YtcbdjcmjchoagaaDoor
open Go.RowKit

/-- Does a path check? -/
def checkB (root id : List UInt8) (n c : Int) (hs : List (List UInt8)) : Bool := mayB n c hs.length && (leadB id n.toNat c.toNat hs == root)
/-- Check's answer. -/
def checkE (root id : List UInt8) (n c : Int) (hs : List (List UInt8)) : Int := bif checkB root id n c hs then 0 else 21
theorem may_of {n c : Int} {m : Nat} (h : mayB n c m = true) : (0 ≤ n ∧ n < c ∧ c ≤ 1048576) ∧ m = szH n.toNat c.toNat := by
  rw [mayB, Bool.and_eq_true, decide_eq_true_eq] at h
  exact ⟨place_of h.1, h.2⟩
theorem neq_run (x y : List UInt8) (hx : x.length = 32) (hy : y.length = 32) (b : Bool) (h : (x == y) = b) (wq : World) : (binOp .neq 32 (.agg (By x).toArray) (.agg (By y).toArray)).run Tryd.prog wq = .ok (.bool (!b)) wq := by
  rw [run_neq_bytes 32 32 5 Tryd.underlying32 Tryd.underlying5 Tryd.u8size x y hx hy, h]

set_option maxHeartbeats 1000000 in
set_option maxRecDepth 100000 in
theorem rcheck_any (w : World) (root id : List UInt8) (n c : Int) (A : Option Addr) (m d : Nat) (hs : List (List UInt8)) (hroot : root.length = 32) (hid : id.length = 32) (hm : m = hs.length) (hd : m ≤ d) (h32 : All32 hs) (hS : SeesV w w.heap.size A (Hs hs)) :
    Calls Tryd.prog 19 #[.agg (By root).toArray, .agg (By id).toArray, .agg (PathZ n c A m d)] w fun e w' => e = .returned (.int .i64 (checkE root id n c hs)) ∧ Below w.heap.size w w' := by
  have hR : Blk (((w.alloc (.cells (By root).toArray 32)).alloc (.cells (By id).toArray 32)).alloc (.cells (PathZ n c A m d) 25)) w.heap.size 32 (By root).toArray := ((show Blk (w.alloc _) _ _ _ from heap_alloc_new w _).alloc _).alloc _
  have hA : Blk (((w.alloc (.cells (By root).toArray 32)).alloc (.cells (By id).toArray 32)).alloc (.cells (PathZ n c A m d) 25)) (w.heap.size + 1) 32 (By id).toArray := Blk.alloc (Blk.newAt (by simp) rfl) _
  have hP : Blk (((w.alloc (.cells (By root).toArray 32)).alloc (.cells (By id).toArray 32)).alloc (.cells (PathZ n c A m d) 25)) (w.heap.size + 2) 25 (PathZ n c A m d) := Blk.newAt (by simp) rfl
  have hb0 : Below w.heap.size w (((w.alloc (.cells (By root).toArray 32)).alloc (.cells (By id).toArray 32)).alloc (.cells (PathZ n c A m d) 25)) := nxAlloc (nxAlloc (nxAlloc (nxRefl w) _) _) _
  have HS : Hid (SeesV (((w.alloc (.cells (By root).toArray 32)).alloc (.cells (By id).toArray 32)).alloc (.cells (PathZ n c A m d) 25)) w.heap.size A (Hs hs)) := ((hS.alloc _).alloc _).alloc _
  have hsz0 : w.heap.size + 3 = (((w.alloc (.cells (By root).toArray 32)).alloc (.cells (By id).toArray 32)).alloc (.cells (PathZ n c A m d) 25)).heap.size := by simp
  have HSR : Hid ((Tryd.prog.info? 32).map (·.size) = some (By root).length) := by have h := Tryd.hsizeB root hroot; show _ = _; rw [h]; simp
  have HSI : Hid ((Tryd.prog.info? 32).map (·.size) = some (By id).length) := by have h := Tryd.hsizeB id hid; show _ = _; rw [h]; simp
  have HSP : Hid ((Tryd.prog.info? 25).map (·.size) = some [Value.int .i64 n, .int .i64 c, .slice A m d].length) := Tryd.psize
  have HRR := Lib.hid (blk_rng hR)
  have HRI := Lib.hid (blk_rng hA)
  have HRP := Lib.hid (blk_rng (vs := [Value.int .i64 n, .int .i64 c, .slice A m d]) hP)
  have Hb0 := Lib.hid hb0
  have Hs0 := Lib.hid hsz0
  have HLR := Lib.hid hroot
  have HL := Lib.hid hid
  have H32 := Lib.hid h32
  have HM := Lib.hid hm
  have HD := Lib.hid hd
  clear hS hR hA hP hb0 hsz0 hroot hid h32 hm hd
  cases hmay : mayB n c m with
  | false =>
    have HR : Hid (checkE root id n c hs = 21) := by show _ = _; rw [checkE, checkB, ← HM.out, hmay, Bool.false_and, cond_false]
    have HMay := Lib.hid hmay
    clear hmay
    go_enter Tryd.func19, Tryd.ntmps19
    go_wp2
    change Code.wp _ _ _ _ (((w.alloc (.cells (By root).toArray 32)).alloc (.cells (By id).toArray 32)).alloc (.cells (PathZ n c A m d) 25))
    generalize (((w.alloc (.cells (By root).toArray 32)).alloc (.cells (By id).toArray 32)).alloc (.cells (PathZ n c A m d) 25)) = W0 at *
    refine wp_region_held_drew (S := fun W => W.rangeAt w.heap.size 0 (By root) ∧ W.rangeAt (w.heap.size + 1) 0 (By id) ∧ W.rangeAt (w.heap.size + 2) 0 [Value.int .i64 n, .int .i64 c, .slice A m d]) (by kernel_rfl) ⟨HRR.out, HRI.out, HRP.out⟩ (fun hHeld => ?_)
    refine wpAnyH_take (i := 0) (oi := ⟨_, _, _, _, _, _⟩) (v := .agg ([Value.int .i64 n, .int .i64 c, .slice A m d]).toArray) rfl (by kernel_rfl) (by kernel_rfl) (by kernel_rfl) (fun _ _ _ h => h) (yieldsIf_load_mid (by rfl) 25 (.tmp 5) rfl (w.heap.size + 2) (0) rfl ([Value.int .i64 n, .int .i64 c, .slice A m d]) _ (fun W h => h.2.2) Tryd.underlying25 rfl HSP.out) (by assumption) ?_
    try simp only [Act.put, List.setIfInBounds_toArray, List.set_cons_zero, List.set_cons_succ]
    refine wpAnyH_ready (rs := [1]) (by kernel_rfl) (by simp) ?_
    refine AllReadyH.cons rfl (fun K hK => ?_) AllReadyH.nil
    go_simp
    go_at_call 20
    refine (may_any W0.drew n c A m d).mono ?_
    rw [HMay.out]
    rintro e w4 ⟨rfl, hb4⟩
    have Hr4 : Hid (Below W0.heap.size W0 w4) := nxUndr hb4
    clear hb4
    refine hK.out _ _ ⟨rng_below HRR.out Hr4.out (by have := Hs0.out; omega), rng_below HRI.out Hr4.out (by have := Hs0.out; omega), rng_below HRP.out Hr4.out (by have := Hs0.out; omega)⟩ (fun hSn => ?_)
    clear hK K
    try simp only [Act.put, List.setIfInBounds_toArray, List.set_cons_zero, List.set_cons_succ]
    refine wpAnyH_take (i := 2) (oi := ⟨_, _, _, _, _, _⟩) (v := ?_) rfl (by kernel_rfl) (by kernel_rfl) (by kernel_rfl) (fun _ _ _ h => h) (Or.inl ⟨by rfl, ?_⟩) (by assumption) ?_
    rotate_left 1
    · intro W hSw
      try dsimp only at hSw
      go_simp
      try with_reducible rfl
    try simp only [Act.put, List.setIfInBounds_toArray, List.set_cons_zero, List.set_cons_succ]
    refine wpAnyH_take (i := 3) (oi := ⟨_, _, _, _, _, _⟩) (v := ?_) rfl (by kernel_rfl) (by kernel_rfl) (by kernel_rfl) (fun _ _ _ h => h) (Or.inl ⟨by rfl, ?_⟩) (by assumption) ?_
    rotate_left 1
    · intro W hSw
      try dsimp only at hSw
      go_simp
      try with_reducible rfl
    try simp only [Act.put, List.setIfInBounds_toArray, List.set_cons_zero, List.set_cons_succ]
    refine wpAnyH_take (i := 4) (oi := ⟨_, _, _, _, _, _⟩) (v := undef) rfl (by kernel_rfl) (by kernel_rfl) (by kernel_rfl) (fun _ _ _ h => h) (Or.inr ⟨by rfl, rfl⟩) (by assumption) ?_
    try simp only [Act.put, List.setIfInBounds_toArray, List.set_cons_zero, List.set_cons_succ]
    refine wpAnyH_take (i := 5) (oi := ⟨_, _, _, _, _, _⟩) (v := undef) rfl (by kernel_rfl) (by kernel_rfl) (by kernel_rfl) (fun _ _ _ h => h) (Or.inr ⟨by rfl, rfl⟩) (by assumption) ?_
    try simp only [Act.put, List.setIfInBounds_toArray, List.set_cons_zero, List.set_cons_succ]
    refine wpAnyH_take (i := 6) (oi := ⟨_, _, _, _, _, _⟩) (v := undef) rfl (by kernel_rfl) (by kernel_rfl) (by kernel_rfl) (fun _ _ _ h => h) (Or.inr ⟨by rfl, rfl⟩) (by assumption) ?_
    try simp only [Act.put, List.setIfInBounds_toArray, List.set_cons_zero, List.set_cons_succ]
    refine wpAnyH_take (i := 7) (oi := ⟨_, _, _, _, _, _⟩) (v := undef) rfl (by kernel_rfl) (by kernel_rfl) (by kernel_rfl) (fun _ _ _ h => h) (Or.inr ⟨by rfl, rfl⟩) (by assumption) ?_
    try simp only [Act.put, List.setIfInBounds_toArray, List.set_cons_zero, List.set_cons_succ]
    refine wpAnyH_take (i := 8) (oi := ⟨_, _, _, _, _, _⟩) (v := undef) rfl (by kernel_rfl) (by kernel_rfl) (by kernel_rfl) (fun _ _ _ h => h) (Or.inr ⟨by rfl, rfl⟩) (by assumption) ?_
    try simp only [Act.put, List.setIfInBounds_toArray, List.set_cons_zero, List.set_cons_succ]
    refine wpAnyH_take (i := 9) (oi := ⟨_, _, _, _, _, _⟩) (v := ?_) rfl (by kernel_rfl) (by kernel_rfl) (by kernel_rfl) (fun _ _ _ h => h) (Or.inl ⟨by rfl, ?_⟩) (by assumption) ?_
    rotate_left 1
    · intro W hSw
      try dsimp only at hSw
      go_simp
      try with_reducible rfl
    try simp only [Act.put, List.setIfInBounds_toArray, List.set_cons_zero, List.set_cons_succ]
    refine wpAnyH_done (by kernel_rfl) ?_ _
    go_wp2
    go_ret
    exact ⟨by rw [HR.out]; rfl, nxTo Hb0.out Hr4.out⟩
  | true =>
    obtain ⟨⟨h0, h1, h2⟩, h3⟩ := may_of hmay
    obtain ⟨a, rfl⟩ : ∃ a : Nat, n = a := ⟨n.toNat, by omega⟩
    obtain ⟨b, rfl⟩ : ∃ b : Nat, c = b := ⟨c.toNat, by omega⟩
    have HSz : Hid (hs.length = szH a b) := by show _ = _; rw [← HM.out, h3, Int.toNat_natCast, Int.toNat_natCast]
    obtain ⟨x, hx⟩ : ∃ x, leadB id a b hs = x := ⟨_, rfl⟩
    have HX := Lib.hid hx
    have hxl : x.length = 32 := by rw [← hx]; exact leadB_len _ _ _ _
    have HMay := Lib.hid hmay
    cases hq : x == root with
    | false =>
      have HR : Hid (checkE root id (a : Int) (b : Int) hs = 21) := by show _ = _; rw [checkE, checkB, ← HM.out, hmay, Bool.true_and, Int.toNat_natCast, Int.toNat_natCast, hx, hq, cond_false]
      have hnq := neq_run x root hxl HLR.out false hq
      rw [show (!false) = true from rfl] at hnq
      clear hmay h3 hx hxl hq
      go_enter Tryd.func19, Tryd.ntmps19
      go_wp2
      change Code.wp _ _ _ _ (((w.alloc (.cells (By root).toArray 32)).alloc (.cells (By id).toArray 32)).alloc (.cells (PathZ (a : Int) (b : Int) A m d) 25))
      generalize (((w.alloc (.cells (By root).toArray 32)).alloc (.cells (By id).toArray 32)).alloc (.cells (PathZ (a : Int) (b : Int) A m d) 25)) = W0 at *
      refine wp_region_held_drew (S := fun W => W.rangeAt w.heap.size 0 (By root) ∧ W.rangeAt (w.heap.size + 1) 0 (By id) ∧ W.rangeAt (w.heap.size + 2) 0 [Value.int .i64 (a : Int), .int .i64 (b : Int), .slice A m d]) (by kernel_rfl) ⟨HRR.out, HRI.out, HRP.out⟩ (fun hHeld => ?_)
      refine wpAnyH_take (i := 0) (oi := ⟨_, _, _, _, _, _⟩) (v := .agg ([Value.int .i64 (a : Int), .int .i64 (b : Int), .slice A m d]).toArray) rfl (by kernel_rfl) (by kernel_rfl) (by kernel_rfl) (fun _ _ _ h => h) (yieldsIf_load_mid (by rfl) 25 (.tmp 5) rfl (w.heap.size + 2) (0) rfl ([Value.int .i64 (a : Int), .int .i64 (b : Int), .slice A m d]) _ (fun W h => h.2.2) Tryd.underlying25 rfl HSP.out) (by assumption) ?_
      try simp only [Act.put, List.setIfInBounds_toArray, List.set_cons_zero, List.set_cons_succ]
      refine wpAnyH_ready (rs := [1]) (by kernel_rfl) (by simp) ?_
      refine AllReadyH.cons rfl (fun K hK => ?_) AllReadyH.nil
      go_simp
      go_at_call 20
      refine (may_any W0.drew (a : Int) (b : Int) A m d).mono ?_
      rw [HMay.out]
      rintro e w4 ⟨rfl, hb4⟩
      have Hr4 : Hid (Below W0.heap.size W0 w4) := nxUndr hb4
      clear hb4
      refine hK.out _ _ ⟨rng_below HRR.out Hr4.out (by have := Hs0.out; omega), rng_below HRI.out Hr4.out (by have := Hs0.out; omega), rng_below HRP.out Hr4.out (by have := Hs0.out; omega)⟩ (fun hSn => ?_)
      clear hK K
      try simp only [Act.put, List.setIfInBounds_toArray, List.set_cons_zero, List.set_cons_succ]
      refine wpAnyH_take (i := 2) (oi := ⟨_, _, _, _, _, _⟩) (v := ?_) rfl (by kernel_rfl) (by kernel_rfl) (by kernel_rfl) (fun _ _ _ h => h) (Or.inl ⟨by rfl, ?_⟩) (by assumption) ?_
      rotate_left 1
      · intro W hSw
        try dsimp only at hSw
        go_simp
        try with_reducible rfl
      try simp only [Act.put, List.setIfInBounds_toArray, List.set_cons_zero, List.set_cons_succ]
      refine wpAnyH_take (i := 3) (oi := ⟨_, _, _, _, _, _⟩) (v := ?_) rfl (by kernel_rfl) (by kernel_rfl) (by kernel_rfl) (fun _ _ _ h => h) (Or.inl ⟨by rfl, ?_⟩) (by assumption) ?_
      rotate_left 1
      · intro W hSw
        try dsimp only at hSw
        go_simp
        try with_reducible rfl
      try simp only [Act.put, List.setIfInBounds_toArray, List.set_cons_zero, List.set_cons_succ]
      refine wpAnyH_take (i := 4) (oi := ⟨_, _, _, _, _, _⟩) (v := .agg (By id).toArray) rfl (by kernel_rfl) (by kernel_rfl) (by kernel_rfl) (fun _ _ _ h => h) (yieldsIf_load_mid (by rfl) 32 (.tmp 4) rfl (w.heap.size + 1) (0) rfl (By id) _ (fun W h => h.2.1) Tryd.underlying32 rfl HSI.out) (by assumption) ?_
      try simp only [Act.put, List.setIfInBounds_toArray, List.set_cons_zero, List.set_cons_succ]
      refine wpAnyH_take (i := 5) (oi := ⟨_, _, _, _, _, _⟩) (v := .agg ([Value.int .i64 (a : Int), .int .i64 (b : Int), .slice A m d]).toArray) rfl (by kernel_rfl) (by kernel_rfl) (by kernel_rfl) (fun _ _ _ h => h) (yieldsIf_load_mid (by rfl) 25 (.tmp 5) rfl (w.heap.size + 2) (0) rfl ([Value.int .i64 (a : Int), .int .i64 (b : Int), .slice A m d]) _ (fun W h => h.2.2) Tryd.underlying25 rfl HSP.out) (by assumption) ?_
      try simp only [Act.put, List.setIfInBounds_toArray, List.set_cons_zero, List.set_cons_succ]
      refine wpAnyH_take (i := 7) (oi := ⟨_, _, _, _, _, _⟩) (v := .agg (By root).toArray) rfl (by kernel_rfl) (by kernel_rfl) (by kernel_rfl) (fun _ _ _ h => h) (yieldsIf_load_mid (by rfl) 32 (.tmp 3) rfl (w.heap.size) (0) rfl (By root) _ (fun W h => h.1) Tryd.underlying32 rfl HSR.out) (by assumption) ?_
      try simp only [Act.put, List.setIfInBounds_toArray, List.set_cons_zero, List.set_cons_succ]
      refine wpAnyH_ready (rs := [6]) (by kernel_rfl) (by simp) ?_
      refine AllReadyH.cons rfl (fun K hK => ?_) AllReadyH.nil
      go_simp
      go_at_call 21
      refine (rLead_any w4 id a b A m d hs HL.out HM.out HD.out (by omega) (by omega) HSz.out H32.out ((HS.out.more (by have := Hs0.out; omega)).below Hr4.out).size).mono ?_
      rw [HX.out]
      rintro e w6 ⟨rfl, hb6⟩
      have Hr6 : Hid (Below W0.heap.size W0 w6) := nxTo Hr4.out hb6
      clear hb6
      refine hK.out _ _ ⟨rng_below HRR.out Hr6.out (by have := Hs0.out; omega), rng_below HRI.out Hr6.out (by have := Hs0.out; omega), rng_below HRP.out Hr6.out (by have := Hs0.out; omega)⟩ (fun hSn => ?_)
      clear hK K
      try simp only [Act.put, List.setIfInBounds_toArray, List.set_cons_zero, List.set_cons_succ]
      refine wpAnyH_take (i := 8) (oi := ⟨_, _, _, _, _, _⟩) (v := ?_) rfl (by kernel_rfl) (by kernel_rfl) (by kernel_rfl) (fun _ _ _ h => h) (Or.inl ⟨by rfl, ?_⟩) (by assumption) ?_
      rotate_left 1
      · intro W hSw
        try dsimp only at hSw
        go_simp
        try with_reducible rfl
      try simp only [Act.put, List.setIfInBounds_toArray, List.set_cons_zero, List.set_cons_succ]
      refine wpAnyH_take (i := 9) (oi := ⟨_, _, _, _, _, _⟩) (v := ?_) rfl (by kernel_rfl) (by kernel_rfl) (by kernel_rfl) (fun _ _ _ h => h) (Or.inl ⟨by rfl, ?_⟩) (by assumption) ?_
      rotate_left 1
      · intro W hSw
        try dsimp only at hSw
        go_simp
        try with_reducible rfl
      try simp only [Act.put, List.setIfInBounds_toArray, List.set_cons_zero, List.set_cons_succ]
      refine wpAnyH_done (by kernel_rfl) ?_ _
      go_wp2
      go_ret
      exact ⟨by rw [HR.out]; rfl, nxTo Hb0.out Hr6.out⟩
    | true =>
      have HR : Hid (checkE root id (a : Int) (b : Int) hs = 0) := by show _ = _; rw [checkE, checkB, ← HM.out, hmay, Bool.true_and, Int.toNat_natCast, Int.toNat_natCast, hx, hq, cond_true]
      have hnq := neq_run x root hxl HLR.out true hq
      rw [show (!true) = false from rfl] at hnq
      clear hmay h3 hx hxl hq
      go_enter Tryd.func19, Tryd.ntmps19
      go_wp2
      change Code.wp _ _ _ _ (((w.alloc (.cells (By root).toArray 32)).alloc (.cells (By id).toArray 32)).alloc (.cells (PathZ (a : Int) (b : Int) A m d) 25))
      generalize (((w.alloc (.cells (By root).toArray 32)).alloc (.cells (By id).toArray 32)).alloc (.cells (PathZ (a : Int) (b : Int) A m d) 25)) = W0 at *
      refine wp_region_held_drew (S := fun W => W.rangeAt w.heap.size 0 (By root) ∧ W.rangeAt (w.heap.size + 1) 0 (By id) ∧ W.rangeAt (w.heap.size + 2) 0 [Value.int .i64 (a : Int), .int .i64 (b : Int), .slice A m d]) (by kernel_rfl) ⟨HRR.out, HRI.out, HRP.out⟩ (fun hHeld => ?_)
      refine wpAnyH_take (i := 0) (oi := ⟨_, _, _, _, _, _⟩) (v := .agg ([Value.int .i64 (a : Int), .int .i64 (b : Int), .slice A m d]).toArray) rfl (by kernel_rfl) (by kernel_rfl) (by kernel_rfl) (fun _ _ _ h => h) (yieldsIf_load_mid (by rfl) 25 (.tmp 5) rfl (w.heap.size + 2) (0) rfl ([Value.int .i64 (a : Int), .int .i64 (b : Int), .slice A m d]) _ (fun W h => h.2.2) Tryd.underlying25 rfl HSP.out) (by assumption) ?_
      try simp only [Act.put, List.setIfInBounds_toArray, List.set_cons_zero, List.set_cons_succ]
      refine wpAnyH_ready (rs := [1]) (by kernel_rfl) (by simp) ?_
      refine AllReadyH.cons rfl (fun K hK => ?_) AllReadyH.nil
      go_simp
      go_at_call 20
      refine (may_any W0.drew (a : Int) (b : Int) A m d).mono ?_
      rw [HMay.out]
      rintro e w4 ⟨rfl, hb4⟩
      have Hr4 : Hid (Below W0.heap.size W0 w4) := nxUndr hb4
      clear hb4
      refine hK.out _ _ ⟨rng_below HRR.out Hr4.out (by have := Hs0.out; omega), rng_below HRI.out Hr4.out (by have := Hs0.out; omega), rng_below HRP.out Hr4.out (by have := Hs0.out; omega)⟩ (fun hSn => ?_)
      clear hK K
      try simp only [Act.put, List.setIfInBounds_toArray, List.set_cons_zero, List.set_cons_succ]
      refine wpAnyH_take (i := 2) (oi := ⟨_, _, _, _, _, _⟩) (v := ?_) rfl (by kernel_rfl) (by kernel_rfl) (by kernel_rfl) (fun _ _ _ h => h) (Or.inl ⟨by rfl, ?_⟩) (by assumption) ?_
      rotate_left 1
      · intro W hSw
        try dsimp only at hSw
        go_simp
        try with_reducible rfl
      try simp only [Act.put, List.setIfInBounds_toArray, List.set_cons_zero, List.set_cons_succ]
      refine wpAnyH_take (i := 3) (oi := ⟨_, _, _, _, _, _⟩) (v := ?_) rfl (by kernel_rfl) (by kernel_rfl) (by kernel_rfl) (fun _ _ _ h => h) (Or.inl ⟨by rfl, ?_⟩) (by assumption) ?_
      rotate_left 1
      · intro W hSw
        try dsimp only at hSw
        go_simp
        try with_reducible rfl
      try simp only [Act.put, List.setIfInBounds_toArray, List.set_cons_zero, List.set_cons_succ]
      refine wpAnyH_take (i := 4) (oi := ⟨_, _, _, _, _, _⟩) (v := .agg (By id).toArray) rfl (by kernel_rfl) (by kernel_rfl) (by kernel_rfl) (fun _ _ _ h => h) (yieldsIf_load_mid (by rfl) 32 (.tmp 4) rfl (w.heap.size + 1) (0) rfl (By id) _ (fun W h => h.2.1) Tryd.underlying32 rfl HSI.out) (by assumption) ?_
      try simp only [Act.put, List.setIfInBounds_toArray, List.set_cons_zero, List.set_cons_succ]
      refine wpAnyH_take (i := 5) (oi := ⟨_, _, _, _, _, _⟩) (v := .agg ([Value.int .i64 (a : Int), .int .i64 (b : Int), .slice A m d]).toArray) rfl (by kernel_rfl) (by kernel_rfl) (by kernel_rfl) (fun _ _ _ h => h) (yieldsIf_load_mid (by rfl) 25 (.tmp 5) rfl (w.heap.size + 2) (0) rfl ([Value.int .i64 (a : Int), .int .i64 (b : Int), .slice A m d]) _ (fun W h => h.2.2) Tryd.underlying25 rfl HSP.out) (by assumption) ?_
      try simp only [Act.put, List.setIfInBounds_toArray, List.set_cons_zero, List.set_cons_succ]
      refine wpAnyH_take (i := 7) (oi := ⟨_, _, _, _, _, _⟩) (v := .agg (By root).toArray) rfl (by kernel_rfl) (by kernel_rfl) (by kernel_rfl) (fun _ _ _ h => h) (yieldsIf_load_mid (by rfl) 32 (.tmp 3) rfl (w.heap.size) (0) rfl (By root) _ (fun W h => h.1) Tryd.underlying32 rfl HSR.out) (by assumption) ?_
      try simp only [Act.put, List.setIfInBounds_toArray, List.set_cons_zero, List.set_cons_succ]
      refine wpAnyH_ready (rs := [6]) (by kernel_rfl) (by simp) ?_
      refine AllReadyH.cons rfl (fun K hK => ?_) AllReadyH.nil
      go_simp
      go_at_call 21
      refine (rLead_any w4 id a b A m d hs HL.out HM.out HD.out (by omega) (by omega) HSz.out H32.out ((HS.out.more (by have := Hs0.out; omega)).below Hr4.out).size).mono ?_
      rw [HX.out]
      rintro e w6 ⟨rfl, hb6⟩
      have Hr6 : Hid (Below W0.heap.size W0 w6) := nxTo Hr4.out hb6
      clear hb6
      refine hK.out _ _ ⟨rng_below HRR.out Hr6.out (by have := Hs0.out; omega), rng_below HRI.out Hr6.out (by have := Hs0.out; omega), rng_below HRP.out Hr6.out (by have := Hs0.out; omega)⟩ (fun hSn => ?_)
      clear hK K
      try simp only [Act.put, List.setIfInBounds_toArray, List.set_cons_zero, List.set_cons_succ]
      refine wpAnyH_take (i := 8) (oi := ⟨_, _, _, _, _, _⟩) (v := ?_) rfl (by kernel_rfl) (by kernel_rfl) (by kernel_rfl) (fun _ _ _ h => h) (Or.inl ⟨by rfl, ?_⟩) (by assumption) ?_
      rotate_left 1
      · intro W hSw
        try dsimp only at hSw
        go_simp
        try with_reducible rfl
      try simp only [Act.put, List.setIfInBounds_toArray, List.set_cons_zero, List.set_cons_succ]
      refine wpAnyH_take (i := 9) (oi := ⟨_, _, _, _, _, _⟩) (v := ?_) rfl (by kernel_rfl) (by kernel_rfl) (by kernel_rfl) (fun _ _ _ h => h) (Or.inl ⟨by rfl, ?_⟩) (by assumption) ?_
      rotate_left 1
      · intro W hSw
        try dsimp only at hSw
        go_simp
        try with_reducible rfl
      try simp only [Act.put, List.setIfInBounds_toArray, List.set_cons_zero, List.set_cons_succ]
      refine wpAnyH_done (by kernel_rfl) ?_ _
      go_wp2
      go_ret
      exact ⟨by rw [HR.out]; rfl, nxTo Hb0.out Hr6.out⟩
end Go.Proofs.YtcbdjcmjchoagaaDoor
