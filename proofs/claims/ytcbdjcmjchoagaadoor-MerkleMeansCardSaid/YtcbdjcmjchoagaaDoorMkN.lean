/-
  merkle, the document's: Path.
-/
import Derived.Test.YtcbdjcmjchoagaaDoorMkL
namespace Go.Proofs.YtcbdjcmjchoagaaDoor
open Go.RowKit

/-- What stands beside a place, row by row. -/
def besideL (n : Nat) (ids : List (List UInt8)) : List (List UInt8) := besH knotB n (ids.map leafB)
theorem besideL_one {n : Nat} {ids : List (List UInt8)} (h : ids.length ≤ 1) : besideL n ids = [] := besH_one knotB (by simpa using h)
theorem besideL_left {n : Nat} {ids : List (List UInt8)} (h : ¬ ids.length ≤ 1) (hn : n < half ids.length) : besideL n ids = besideL n (ids.take (half ids.length)) ++ [leftL (ids.drop (half ids.length))] := by
  have := besH_left knotB (l := ids.map leafB) (n := n) (by simpa using h) (by simpa using hn)
  simp only [List.length_map, ← List.map_take, ← List.map_drop] at this
  exact this
theorem besideL_right {n : Nat} {ids : List (List UInt8)} (h : ¬ ids.length ≤ 1) (hn : ¬ n < half ids.length) : besideL n ids = besideL (n - half ids.length) (ids.drop (half ids.length)) ++ [leftL (ids.take (half ids.length))] := by
  have := besH_right knotB (l := ids.map leafB) (n := n) (by simpa using h) (by simpa using hn)
  simp only [List.length_map, ← List.map_take, ← List.map_drop] at this
  exact this
theorem besideL_len (n : Nat) (ids : List (List UInt8)) : (besideL n ids).length ≤ ids.length := by
  unfold besideL
  rw [besH_len, List.length_map]
  exact szH_le _ _

set_option maxHeartbeats 2000000 in
set_option maxRecDepth 100000 in
theorem rpath_any (N : Nat) : ∀ (ids : List (List UInt8)), ids.length = N → ∀ (w : World) (n : Nat) (A : Option Addr) (m c : Nat), m = ids.length → m ≤ c → n < m → All32 ids → SeesV w w.heap.size A (Hs ids) → m ≤ 1048576 →
    Calls Tryd.prog 16 #[.int .i64 (n : Int), .slice A m c] w (HashesPost w (besideL n ids)) := by
  induction N using Nat.strongRecOn with
  | ind N ih =>
  intro ids hN w n A m c hm hc hnm h32 hS hmax
  subst hm hN
  have IH := Lib.hid ih
  have HS := Lib.hid hS
  have H32 := Lib.hid h32
  clear ih hS h32
  obtain ⟨i0, hi, hz0, hz1, hz2⟩ := info_parts Tryd.hinfo
  obtain ⟨bs, hbs⟩ : ∃ x, besideL n ids = x := ⟨_, rfl⟩
  rw [hbs]
  by_cases hone : ids.length ≤ 1
  · have HB : Hid ([] = bs) := by show _ = _; rw [← hbs, besideL_one hone]
    clear hbs
    go_enter Tryd.func16, Tryd.ntmps16
    go_wp2
    go_ret
    exact ⟨none, 0, by rw [← HB.out]; rfl, by rw [← HB.out]; exact World.ownsRow_nil _ _ _ _, Below.refl _ _⟩
  · have hk2 := half_lt (n := ids.length) (by omega)
    have hk0 := half_pos ids.length
    have hbl := fun hn => besideL_left (n := n) (ids := ids) hone hn
    have hbr := fun hn => besideL_right (n := n) (ids := ids) hone hn
    obtain ⟨k, hk⟩ : ∃ k, half ids.length = k := ⟨_, rfl⟩
    rw [hk] at hk2 hk0 hbl hbr
    have HK := Lib.hid hk
    have hk3 : ids.length - k < ids.length := by omega
    obtain ⟨xa, hxa⟩ : ∃ xa, leftL (ids.take k) = xa := ⟨_, rfl⟩
    obtain ⟨xb, hxb⟩ : ∃ xb, leftL (ids.drop k) = xb := ⟨_, rfl⟩
    have HTl : Hid ((ids.take k).length = k) := by show _ = _; rw [List.length_take]; omega
    have HDl : Hid ((ids.drop k).length = ids.length - k) := by show _ = _; rw [List.length_drop]
    have HXal : Hid (xa.length = 32) := by show _ = _; rw [← hxa]; exact leftL_len (by rw [HTl.out]; omega)
    have HXbl : Hid (xb.length = 32) := by show _ = _; rw [← hxb]; exact leftL_len (by rw [HDl.out]; omega)
    rw [hxb] at hbl
    rw [hxa] at hbr
    have HXa := Lib.hid hxa
    have HXb := Lib.hid hxb
    obtain ⟨A1, hs1, q1⟩ := slice_lowH HS.out H32.out hc k (by omega)
    obtain ⟨A2, hs2, q2⟩ := slice_highH HS.out H32.out hc k (by omega)
    have HS1 := Lib.hid hs1
    have HS2 := Lib.hid hs2
    have HT32 : Hid (All32 (ids.take k)) := fun y hy => H32.out y (List.mem_of_mem_take hy)
    have HD32 := Lib.hid (H32.out.drop k)
    clear hk hxa hxb hs1 hs2
    by_cases hn : n < k
    · obtain ⟨ps, hps⟩ : ∃ x, besideL n (ids.take k) = x := ⟨_, rfl⟩
      have HB : Hid (ps ++ [xb] = bs) := by show _ = _; rw [← hbs, hbl hn, hps]
      have HPl : Hid (ps.length ≤ 1048576) := by show _ ≤ _; rw [← hps]; have := besideL_len n (ids.take k); rw [HTl.out] at this; omega
      have HP := Lib.hid hps
      clear hbl hbr hbs hps
      go_enter Tryd.func16, Tryd.ntmps16
      go_wp2_with (go_at_call 35; refine (half_any _ ids.length (by omega) (by omega)).mono ?_; rw [HK.out]; rintro e w1 ⟨rfl, hw1⟩; obtain rfl : w = w1 := hw1.symm)
      refine wp_region_held_drew (S := fun _ => True) (by kernel_rfl) trivial (fun hHeld => ?_)
      refine wpAnyH_take (i := 0) (oi := ⟨_, _, _, _, _, _⟩) (v := ?_) rfl (by kernel_rfl) (by kernel_rfl) (by kernel_rfl) (fun _ _ _ h => h) (Or.inl ⟨by rfl, ?_⟩) (by assumption) ?_
      rotate_left 1
      · intro W hSw
        try dsimp only at hSw
        go_simp
        try with_reducible rfl
      try simp only [Act.put, List.setIfInBounds_toArray, List.set_cons_zero, List.set_cons_succ]
      refine wpAnyH_take (i := 1) (oi := ⟨_, _, _, _, _, _⟩) (v := ?_) rfl (by kernel_rfl) (by kernel_rfl) (by kernel_rfl) (fun _ _ _ h => h) (Or.inl ⟨by rfl, ?_⟩) (by assumption) ?_
      rotate_left 1
      · intro W hSw
        try dsimp only at hSw
        go_simp
        try with_reducible rfl
      try simp only [Act.put, List.setIfInBounds_toArray, List.set_cons_zero, List.set_cons_succ]
      refine wpAnyH_take (i := 2) (oi := ⟨_, _, _, _, _, _⟩) (v := ?_) rfl (by kernel_rfl) (by kernel_rfl) (by kernel_rfl) (fun _ _ _ h => h) (Or.inl ⟨by rfl, ?_⟩) (by assumption) ?_
      rotate_left 1
      · intro W hSw
        try dsimp only at hSw
        go_simp
        try with_reducible rfl
      try simp only [Act.put, List.setIfInBounds_toArray, List.set_cons_zero, List.set_cons_succ]
      refine wpAnyH_take (i := 3) (oi := ⟨_, _, _, _, _, _⟩) (v := ?_) rfl (by kernel_rfl) (by kernel_rfl) (by kernel_rfl) (fun _ _ _ h => h) (Or.inl ⟨by rfl, ?_⟩) (by assumption) ?_
      rotate_left 1
      · intro W hSw
        try dsimp only at hSw
        go_simp
        try with_reducible rfl
      try simp only [Act.put, List.setIfInBounds_toArray, List.set_cons_zero, List.set_cons_succ]
      refine wpAnyH_take (i := 5) (oi := ⟨_, _, _, _, _, _⟩) (v := ?_) rfl (by kernel_rfl) (by kernel_rfl) (by kernel_rfl) (fun _ _ _ h => h) (Or.inl ⟨by rfl, ?_⟩) (by assumption) ?_
      rotate_left 1
      · intro W hSw
        try dsimp only at hSw
        go_simp
        try with_reducible rfl
      try simp only [Act.put, List.setIfInBounds_toArray, List.set_cons_zero, List.set_cons_succ]
      refine wpAnyH_take (i := 6) (oi := ⟨_, _, _, _, _, _⟩) (v := ?_) rfl (by kernel_rfl) (by kernel_rfl) (by kernel_rfl) (fun _ _ _ h => h) (Or.inl ⟨by rfl, ?_⟩) (by assumption) ?_
      rotate_left 1
      · intro W hSw
        try dsimp only at hSw
        go_simp
        try with_reducible rfl
      try simp only [Act.put, List.setIfInBounds_toArray, List.set_cons_zero, List.set_cons_succ]
      refine wpAnyH_take (i := 7) (oi := ⟨_, _, _, _, _, _⟩) (v := ?_) rfl (by kernel_rfl) (by kernel_rfl) (by kernel_rfl) (fun _ _ _ h => h) (Or.inl ⟨by rfl, ?_⟩) (by assumption) ?_
      rotate_left 1
      · intro W hSw
        try dsimp only at hSw
        go_simp
        try with_reducible rfl
      try simp only [Act.put, List.setIfInBounds_toArray, List.set_cons_zero, List.set_cons_succ]
      refine wpAnyH_ready (rs := [4]) (by kernel_rfl) (by simp) ?_
      refine AllReadyH.cons rfl (fun K hK => ?_) AllReadyH.nil
      go_simp
      go_at_call 16
      refine (IH.out k hk2 (ids.take k) HTl.out w.drew n A1 k c HTl.out.symm (by omega) hn HT32.out (show SeesV w.drew _ _ _ from HS1.out) (by omega)).mono ?_
      rw [HP.out]
      rintro e w4 ⟨A4, c4, rfl, ho4, hb4⟩
      have HO4 := Lib.hid ho4
      have Hr4 : Hid (Below w.heap.size w w4) := nxUndr hb4
      clear ho4 hb4
      refine hK.out _ _ trivial (fun hSn => ?_)
      clear hK K
      try simp only [Act.put, List.setIfInBounds_toArray, List.set_cons_zero, List.set_cons_succ]
      refine wpAnyH_ready (rs := [8]) (by kernel_rfl) (by simp) ?_
      refine AllReadyH.cons rfl (fun K hK => ?_) AllReadyH.nil
      go_simp
      go_at_call 34
      refine (rleft_any _ (ids.drop k) rfl w4 A2 (ids.length - k) (c - k) HDl.out.symm (by omega) (by omega) HD32.out ((HS2.out.later Hr4.out).size) (by omega)).mono ?_
      rw [HXb.out]
      rintro e w5 ⟨rfl, hb5⟩
      have Hr5 : Hid (Below w.heap.size w w5) := nxTo Hr4.out hb5
      have HO5 := Lib.hid (own_below HO4.out hb5 (fun g e => (own_lt HO4.out g e).2))
      clear hb5
      refine hK.out _ _ trivial (fun hSn => ?_)
      clear hK K
      try simp only [Act.put, List.setIfInBounds_toArray, List.set_cons_zero, List.set_cons_succ]
      refine wpAnyH_ready (rs := [9]) (by kernel_rfl) (by simp) ?_
      refine AllReadyH.cons rfl (fun K hK => ?_) AllReadyH.nil
      refine step_build_hash (o := ⟨some 24, _, _, _, _, _⟩) rfl (.tmp 23) rfl xb rfl HXbl.out ?_
      have HO6 := Lib.hid (own_below HO5.out (nxAlloc (nxRefl w5) (.cells (By xb).toArray 32)) (fun g e => (own_lt HO5.out g e).2))
      have HSx : Hid (SeesV (w5.alloc (.cells (By xb).toArray 32)) (w5.heap.size + 1) (some ⟨w5.heap.size, 0, none⟩) (By xb)) := Lib.hid (by have h := SeesV.blk (heap_alloc_new w5 _ : Blk (w5.alloc (.cells (By xb).toArray 32)) w5.heap.size 32 (By xb).toArray); simpa using h)
      have Hr6 : Hid (Below w.heap.size w (w5.alloc (.cells (By xb).toArray 32))) := nxAlloc Hr5.out _
      generalize w5.alloc (.cells (By xb).toArray 32) = w6 at *
      refine hK.out _ _ trivial (fun hSn => ?_)
      clear hK K
      try simp only [Act.put, List.setIfInBounds_toArray, List.set_cons_zero, List.set_cons_succ]
      refine wpAnyH_ready (rs := [10]) (by kernel_rfl) (by simp) ?_
      refine AllReadyH.cons rfl (fun K hK => ?_) AllReadyH.nil
      refine step_append_seesV (o := ⟨some 25, _, _, _, _, _⟩) rfl (.tmp 19) (.tmp 24) 22 rfl w.heap.size 32 i0 (.agg (By zero32).toArray) 32 32 Tryd.underlying22 hi hz0 hz1 hz2 rfl (by decide) (.slice A4 ps.length c4) ps.length (Hs ps) rfl HO6.out (w5.heap.size + 1) (some ⟨w5.heap.size, 0, none⟩) 1 1 (By xb) rfl (by rw [By_length, HXbl.out]) HSx.out (By_one _) (by have := HPl.out; omega) (by have := HPl.out; omega) Hr6.out.size ?_
      intro v' w8 hown hgr hat
      obtain ⟨A8, c8, rfl⟩ := own_form hown
      have HO8 : Hid (w8.ownsRow w.heap.size 32 32 (.slice A8 (ps.length + 1) c8) (ps.length + 1) (Hs bs)) := (by show World.ownsRow _ _ _ _ _ _ _; rw [← HB.out, Hs_snoc]; exact hown)
      have Hr8 : Hid (Below w.heap.size w w8) := Hr6.out.grown hgr Hr6.out.size (fun j hj => (own_lt HO6.out j hj).1)
      clear hown hgr hat
      refine hK.out _ _ trivial (fun hSn => ?_)
      clear hK K
      try simp only [Act.put, List.setIfInBounds_toArray, List.set_cons_zero, List.set_cons_succ]
      refine wpAnyH_take (i := 11) (oi := ⟨_, _, _, _, _, _⟩) (v := ?_) rfl (by kernel_rfl) (by kernel_rfl) (by kernel_rfl) (fun _ _ _ h => h) (Or.inl ⟨by rfl, ?_⟩) (by assumption) ?_
      rotate_left 1
      · intro W hSw
        try dsimp only at hSw
        go_simp
        try with_reducible rfl
      try simp only [Act.put, List.setIfInBounds_toArray, List.set_cons_zero, List.set_cons_succ]
      refine wpAnyH_done (by kernel_rfl) ?_ _
      go_wp2
      go_ret
      have hbl : bs.length = ps.length + 1 := by rw [← HB.out]; simp
      exact ⟨A8, c8, by rw [hbl]; rfl, by rw [hbl]; exact HO8.out, Hr8.out⟩
    · obtain ⟨d, hd⟩ : ∃ d, n - k = d := ⟨_, rfl⟩
      obtain ⟨ps, hps⟩ : ∃ x, besideL d (ids.drop k) = x := ⟨_, rfl⟩
      have HB : Hid (ps ++ [xa] = bs) := by show _ = _; rw [← hbs, hbr hn, hd, hps]
      have HPl : Hid (ps.length ≤ 1048576) := by show _ ≤ _; rw [← hps]; have := besideL_len d (ids.drop k); rw [HDl.out] at this; omega
      have HP := Lib.hid hps
      have e1 : (n : Int) - (k : Int) = (d : Int) := by omega
      have e2 : IntKind.i64.wrap (d : Int) = (d : Int) := by rw [IntKind.wrap_i64]; omega
      have HDn : Hid (d < ids.length - k) := by show _ < _; omega
      clear hbl hbr hbs hps hd
      go_enter Tryd.func16, Tryd.ntmps16
      go_wp2_with (go_at_call 35; refine (half_any _ ids.length (by omega) (by omega)).mono ?_; rw [HK.out]; rintro e w1 ⟨rfl, hw1⟩; obtain rfl : w = w1 := hw1.symm)
      refine wp_region_held_drew (S := fun _ => True) (by kernel_rfl) trivial (fun hHeld => ?_)
      refine wpAnyH_take (i := 0) (oi := ⟨_, _, _, _, _, _⟩) (v := ?_) rfl (by kernel_rfl) (by kernel_rfl) (by kernel_rfl) (fun _ _ _ h => h) (Or.inl ⟨by rfl, ?_⟩) (by assumption) ?_
      rotate_left 1
      · intro W hSw
        try dsimp only at hSw
        go_simp
        try with_reducible rfl
      try simp only [Act.put, List.setIfInBounds_toArray, List.set_cons_zero, List.set_cons_succ]
      refine wpAnyH_take (i := 1) (oi := ⟨_, _, _, _, _, _⟩) (v := ?_) rfl (by kernel_rfl) (by kernel_rfl) (by kernel_rfl) (fun _ _ _ h => h) (Or.inl ⟨by rfl, ?_⟩) (by assumption) ?_
      rotate_left 1
      · intro W hSw
        try dsimp only at hSw
        go_simp
        try with_reducible rfl
      try simp only [Act.put, List.setIfInBounds_toArray, List.set_cons_zero, List.set_cons_succ]
      refine wpAnyH_take (i := 2) (oi := ⟨_, _, _, _, _, _⟩) (v := ?_) rfl (by kernel_rfl) (by kernel_rfl) (by kernel_rfl) (fun _ _ _ h => h) (Or.inl ⟨by rfl, ?_⟩) (by assumption) ?_
      rotate_left 1
      · intro W hSw
        try dsimp only at hSw
        go_simp
        try with_reducible rfl
      try simp only [Act.put, List.setIfInBounds_toArray, List.set_cons_zero, List.set_cons_succ]
      refine wpAnyH_take (i := 3) (oi := ⟨_, _, _, _, _, _⟩) (v := ?_) rfl (by kernel_rfl) (by kernel_rfl) (by kernel_rfl) (fun _ _ _ h => h) (Or.inl ⟨by rfl, ?_⟩) (by assumption) ?_
      rotate_left 1
      · intro W hSw
        try dsimp only at hSw
        go_simp
        try with_reducible rfl
      try simp only [Act.put, List.setIfInBounds_toArray, List.set_cons_zero, List.set_cons_succ]
      refine wpAnyH_take (i := 4) (oi := ⟨_, _, _, _, _, _⟩) (v := ?_) rfl (by kernel_rfl) (by kernel_rfl) (by kernel_rfl) (fun _ _ _ h => h) (Or.inl ⟨by rfl, ?_⟩) (by assumption) ?_
      rotate_left 1
      · intro W hSw
        try dsimp only at hSw
        go_simp
        try with_reducible rfl
      try simp only [Act.put, List.setIfInBounds_toArray, List.set_cons_zero, List.set_cons_succ]
      refine wpAnyH_take (i := 5) (oi := ⟨_, _, _, _, _, _⟩) (v := ?_) rfl (by kernel_rfl) (by kernel_rfl) (by kernel_rfl) (fun _ _ _ h => h) (Or.inl ⟨by rfl, ?_⟩) (by assumption) ?_
      rotate_left 1
      · intro W hSw
        try dsimp only at hSw
        go_simp
        try with_reducible rfl
      try simp only [Act.put, List.setIfInBounds_toArray, List.set_cons_zero, List.set_cons_succ]
      refine wpAnyH_take (i := 7) (oi := ⟨_, _, _, _, _, _⟩) (v := ?_) rfl (by kernel_rfl) (by kernel_rfl) (by kernel_rfl) (fun _ _ _ h => h) (Or.inl ⟨by rfl, ?_⟩) (by assumption) ?_
      rotate_left 1
      · intro W hSw
        try dsimp only at hSw
        go_simp
        try with_reducible rfl
      try simp only [Act.put, List.setIfInBounds_toArray, List.set_cons_zero, List.set_cons_succ]
      refine wpAnyH_take (i := 8) (oi := ⟨_, _, _, _, _, _⟩) (v := ?_) rfl (by kernel_rfl) (by kernel_rfl) (by kernel_rfl) (fun _ _ _ h => h) (Or.inl ⟨by rfl, ?_⟩) (by assumption) ?_
      rotate_left 1
      · intro W hSw
        try dsimp only at hSw
        go_simp
        try with_reducible rfl
      try simp only [Act.put, List.setIfInBounds_toArray, List.set_cons_zero, List.set_cons_succ]
      refine wpAnyH_take (i := 9) (oi := ⟨_, _, _, _, _, _⟩) (v := ?_) rfl (by kernel_rfl) (by kernel_rfl) (by kernel_rfl) (fun _ _ _ h => h) (Or.inl ⟨by rfl, ?_⟩) (by assumption) ?_
      rotate_left 1
      · intro W hSw
        try dsimp only at hSw
        go_simp
        try with_reducible rfl
      try simp only [Act.put, List.setIfInBounds_toArray, List.set_cons_zero, List.set_cons_succ]
      refine wpAnyH_ready (rs := [6]) (by kernel_rfl) (by simp) ?_
      refine AllReadyH.cons rfl (fun K hK => ?_) AllReadyH.nil
      go_simp
      go_at_call 16
      refine (IH.out (ids.length - k) hk3 (ids.drop k) HDl.out w.drew d A2 (ids.length - k) (c - k) HDl.out.symm (by omega) HDn.out HD32.out (show SeesV w.drew _ _ _ from HS2.out) (by omega)).mono ?_
      rw [HP.out]
      rintro e w4 ⟨A4, c4, rfl, ho4, hb4⟩
      have HO4 := Lib.hid ho4
      have Hr4 : Hid (Below w.heap.size w w4) := nxUndr hb4
      clear ho4 hb4
      refine hK.out _ _ trivial (fun hSn => ?_)
      clear hK K
      try simp only [Act.put, List.setIfInBounds_toArray, List.set_cons_zero, List.set_cons_succ]
      refine wpAnyH_ready (rs := [10]) (by kernel_rfl) (by simp) ?_
      refine AllReadyH.cons rfl (fun K hK => ?_) AllReadyH.nil
      go_simp
      go_at_call 34
      refine (rleft_any _ (ids.take k) rfl w4 A1 k c HTl.out.symm (by omega) (by omega) HT32.out ((HS1.out.later Hr4.out).size) (by omega)).mono ?_
      rw [HXa.out]
      rintro e w5 ⟨rfl, hb5⟩
      have Hr5 : Hid (Below w.heap.size w w5) := nxTo Hr4.out hb5
      have HO5 := Lib.hid (own_below HO4.out hb5 (fun g e => (own_lt HO4.out g e).2))
      clear hb5
      refine hK.out _ _ trivial (fun hSn => ?_)
      clear hK K
      try simp only [Act.put, List.setIfInBounds_toArray, List.set_cons_zero, List.set_cons_succ]
      refine wpAnyH_ready (rs := [11]) (by kernel_rfl) (by simp) ?_
      refine AllReadyH.cons rfl (fun K hK => ?_) AllReadyH.nil
      refine step_build_hash (o := ⟨some 37, _, _, _, _, _⟩) rfl (.tmp 36) rfl xa rfl HXal.out ?_
      have HO6 := Lib.hid (own_below HO5.out (nxAlloc (nxRefl w5) (.cells (By xa).toArray 32)) (fun g e => (own_lt HO5.out g e).2))
      have HSx : Hid (SeesV (w5.alloc (.cells (By xa).toArray 32)) (w5.heap.size + 1) (some ⟨w5.heap.size, 0, none⟩) (By xa)) := Lib.hid (by have h := SeesV.blk (heap_alloc_new w5 _ : Blk (w5.alloc (.cells (By xa).toArray 32)) w5.heap.size 32 (By xa).toArray); simpa using h)
      have Hr6 : Hid (Below w.heap.size w (w5.alloc (.cells (By xa).toArray 32))) := nxAlloc Hr5.out _
      generalize w5.alloc (.cells (By xa).toArray 32) = w6 at *
      refine hK.out _ _ trivial (fun hSn => ?_)
      clear hK K
      try simp only [Act.put, List.setIfInBounds_toArray, List.set_cons_zero, List.set_cons_succ]
      refine wpAnyH_ready (rs := [12]) (by kernel_rfl) (by simp) ?_
      refine AllReadyH.cons rfl (fun K hK => ?_) AllReadyH.nil
      refine step_append_seesV (o := ⟨some 38, _, _, _, _, _⟩) rfl (.tmp 32) (.tmp 37) 22 rfl w.heap.size 32 i0 (.agg (By zero32).toArray) 32 32 Tryd.underlying22 hi hz0 hz1 hz2 rfl (by decide) (.slice A4 ps.length c4) ps.length (Hs ps) rfl HO6.out (w5.heap.size + 1) (some ⟨w5.heap.size, 0, none⟩) 1 1 (By xa) rfl (by rw [By_length, HXal.out]) HSx.out (By_one _) (by have := HPl.out; omega) (by have := HPl.out; omega) Hr6.out.size ?_
      intro v' w8 hown hgr hat
      obtain ⟨A8, c8, rfl⟩ := own_form hown
      have HO8 : Hid (w8.ownsRow w.heap.size 32 32 (.slice A8 (ps.length + 1) c8) (ps.length + 1) (Hs bs)) := (by show World.ownsRow _ _ _ _ _ _ _; rw [← HB.out, Hs_snoc]; exact hown)
      have Hr8 : Hid (Below w.heap.size w w8) := Hr6.out.grown hgr Hr6.out.size (fun j hj => (own_lt HO6.out j hj).1)
      clear hown hgr hat
      refine hK.out _ _ trivial (fun hSn => ?_)
      clear hK K
      try simp only [Act.put, List.setIfInBounds_toArray, List.set_cons_zero, List.set_cons_succ]
      refine wpAnyH_take (i := 13) (oi := ⟨_, _, _, _, _, _⟩) (v := ?_) rfl (by kernel_rfl) (by kernel_rfl) (by kernel_rfl) (fun _ _ _ h => h) (Or.inl ⟨by rfl, ?_⟩) (by assumption) ?_
      rotate_left 1
      · intro W hSw
        try dsimp only at hSw
        go_simp
        try with_reducible rfl
      try simp only [Act.put, List.setIfInBounds_toArray, List.set_cons_zero, List.set_cons_succ]
      refine wpAnyH_done (by kernel_rfl) ?_ _
      go_wp2
      go_ret
      have hbl : bs.length = ps.length + 1 := by rw [← HB.out]; simp
      exact ⟨A8, c8, by rw [hbl]; rfl, by rw [hbl]; exact HO8.out, Hr8.out⟩
end Go.Proofs.YtcbdjcmjchoagaaDoor
