/-
  wal: the law's own steps; known.
-/
import Derived.Test.YtlepajddekblcaaDoorWl9
namespace Go.Proofs.YtlepajddekblcaaDoor
open Go.RowKit

/-- A disk in new memory. -/
structure DiskW (W0 w : World) (d : Nat) (dm : DkM) : Prop where
  k : DkOk w d dm
  wf : DkWf dm.d
  n : ∀ j, foot d dm j → W0.heap.size ≤ j
  v : Below W0.heap.size W0 w
theorem DiskW.to {W0 w w' : World} {d : Nat} {dm dm' : DkM} (h : DiskW W0 w d dm) (t : DkTo w d dm w' dm') (wf : DkWf dm'.d) : DiskW W0 w' d dm' :=
  ⟨t.ok, wf, fun j hj => (t.ft j hj).elim (h.n j) (fun h1 => Nat.le_trans h.v.size h1), h.v.trans (t.k.below h.v.size (fun j hj hf => by have := h.n j hf; omega))⟩
/-- A disk and its log in new memory. -/
structure LogW (W0 w : World) (d : Nat) (dm : DkM) (q : Nat) (m : WlM) : Prop where
  p : PairW w d dm q m
  n : ∀ j, foot d dm j ∨ footW q m j → W0.heap.size ≤ j
  v : Below W0.heap.size W0 w
theorem LogW.to {W0 w w' : World} {d q : Nat} {dm dm' : DkM} {m m' : WlM} (h : LogW W0 w d dm q m) (t : WlTo w d dm q m w' dm' m') : LogW W0 w' d dm' q m' :=
  ⟨t.ok, fun j hj => (t.ft j hj).elim (h.n j) (fun h1 => Nat.le_trans h.v.size h1), h.v.trans (t.k.below h.v.size (fun j hj hf => by have := h.n j hf; omega))⟩
theorem LogW.disk {W0 w : World} {d q : Nat} {dm : DkM} {m : WlM} (h : LogW W0 w d dm q m) : DiskW W0 w d dm := ⟨h.p.k, h.p.wf, fun j hj => h.n j (.inl hj), h.v⟩
theorem LogW.below {W0 w w' : World} {d q : Nat} {dm : DkM} {m : WlM} (h : LogW W0 w d dm q m) (b : Below w.heap.size w w') : LogW W0 w' d dm q m := h.to (WlTo.below h.p b)
theorem DiskW.below {W0 w w' : World} {d : Nat} {dm : DkM} (h : DiskW W0 w d dm) (b : Below w.heap.size w w') : DiskW W0 w' d dm := h.to (DkTo.below h.k b) h.wf
/-- A log that lives, with these batches. -/
structure AliveW (W0 w : World) (d : Nat) (dm : DkM) (q : Nat) (m : WlM) (i : Nat) (L : List (List UInt8)) : Prop where
  l : LogW W0 w d dm q m
  st : StW dm.d i (recsF 1 L) []
  dd : dm.d.dead = false
  md : m.d = ⟨i, L, sizeL L, false⟩
theorem AliveW.W0 {W0 w : World} {d q i : Nat} {dm : DkM} {m : WlM} {L : List (List UInt8)} (h : AliveW W0 w d dm q m i L) : dm.W.length = 0 := by rw [DkM.wlen, h.st.w]; rfl
theorem AliveW.rows {W0 w : World} {d q i : Nat} {dm : DkM} {m : WlM} {L : List (List UInt8)} (h : AliveW W0 w d dm q m i L) : m.rows.map (·.l) = L := congrArg LgD.all h.md
theorem AliveW.below {W0 w w' : World} {d q i : Nat} {dm : DkM} {m : WlM} {L : List (List UInt8)} (h : AliveW W0 w d dm q m i L) (b : Below w.heap.size w w') : AliveW W0 w' d dm q m i L := ⟨h.l.below b, h.st, h.dd, h.md⟩
theorem AliveW.off {W0 w : World} {d q i : Nat} {dm : DkM} {m : WlM} {L : List (List UInt8)} (h : AliveW W0 w d dm q m i L) {j : Nat} (hj : w.heap.size ≤ j) : ¬ (foot d dm j ∨ footW q m j) := fun h1 => by
  rcases h1 with h1 | h1
  · have := h.l.p.k.foot_lt h1; omega
  · have := h.l.p.l.foot_lt h1; omega
theorem openD_wf {D : DkD} (h : DkWf D) (log : Int) : DkWf (openD D log).1 := by
  unfold openD
  split
  · split
    · exact stlD_wf (cutD_wf' h _ _) _
    · exact h
  · exact h
/-- An opening, of a log whose bytes are these records, and something torn. -/
theorem open_law (W0 w : World) (hT : Tabs w) (d : Nat) (dm : DkM) (h : DiskW W0 w d dm) (i : Nat) (L : List (List UInt8)) (t : List UInt8) (st : StW dm.d i (recsF 1 L ++ t) []) (hd : dm.d.dead = false) (hL : ∀ x ∈ L, x.length ≤ 4194304) (ht : stepR (L.length + 1) t = none) :
    Calls Tryd.prog 15 #[.pointer (some ⟨d, 0, none⟩), .int .i64 (i : Int)] w fun e w' => ∃ dm', DiskW W0 w' d dm' ∧ Below W0.heap.size W0 w' ∧
      ((∃ q m, e = .returned (.tuple #[.pointer (some ⟨q, 0, none⟩), .int .i64 0]) ∧ AliveW W0 w' d dm' q m i L ∧ (dm.d.fuse = -1 → dm'.d.fuse = -1)) ∨
       (∃ n, n ≠ 0 ∧ e = .returned (.tuple #[.pointer none, .int .i64 n]) ∧ dm.d.fuse ≠ -1 ∧ StW dm'.d i (recsF 1 L ++ t) [.cut i (recsF 1 L).length])) := by
  refine (open_any w hT d dm h.k h.wf (by rw [DkM.wlen, st.w]; exact Nat.zero_le _) (i : Int)).mono ?_
  rintro e w' ⟨dm', hd', ht', hr⟩
  have hD : DiskW W0 w' d dm' := h.to ht' (by rw [hd']; exact openD_wf h.wf _)
  refine ⟨dm', hD, hD.v, ?_⟩
  obtain ⟨hsc, hc⟩ := openD_case st hd hL ht
  rcases hr with ⟨hne, rfl⟩ | ⟨h0, q, m, rfl, ho⟩
  · rcases hc with ⟨c0, _⟩ | ⟨c0, c1, c2⟩
    · exact absurd c0 hne
    · exact .inr ⟨_, hne, rfl, c1, by rw [hd']; exact c2⟩
  · rcases hc with ⟨c0, c1, c2, c3⟩ | ⟨c0, _⟩
    · refine .inl ⟨q, m, rfl, ⟨⟨ho.ok, fun j hj => ?_, hD.v⟩, ?_, by rw [hd']; exact c2, ?_⟩, fun hf => by rw [hd']; exact c3 hf⟩
      · rcases hj with hj | hj
        · exact hD.n j hj
        · exact Nat.le_trans h.v.size (ho.n j (.inl hj))
      · rw [hd']
        rcases c1 with c1 | ⟨c1, c4⟩
        · exact c1
        · rw [c4]
          have := st
          rw [c1, List.append_nil] at this
          exact this
      · show (⟨m.log, m.rows.map (·.l), m.size, m.dead⟩ : LgD) = _
        rw [ho.lg, ho.l, ho.z, ho.dd, hsc]
    · exact absurd h0 c0
/-- A put, of a log that lives. -/
theorem put_law (W0 w : World) (hT : Tabs w) (d : Nat) (dm : DkM) (q : Nat) (m : WlM) (i : Nat) (L : List (List UInt8)) (h : AliveW W0 w d dm q m i L) (A : Option Addr) (c : Nat) (b : List UInt8) (hS : Sees w w.heap.size A b) (hbc : b.length ≤ c) (hb : b.length ≤ 4194304)
    (hroom : sizeL L + (20 + b.length) ≤ 16777216) (hoff : b ≠ [] → ∀ a, A = some a → ¬ (foot d dm a.block ∨ footW q m a.block)) :
    Calls Tryd.prog 24 #[.pointer (some ⟨q, 0, none⟩), .slice A b.length c] w fun e w' => ∃ dm' m', LogW W0 w' d dm' q m' ∧ Below W0.heap.size W0 w' ∧
      ((e = .returned (.int .i64 0) ∧ AliveW W0 w' d dm' q m' i (L ++ [b]) ∧ (dm.d.fuse = -1 → dm'.d.fuse = -1)) ∨
       (e = .returned (.int .i64 19) ∧ dm.d.fuse ≠ -1 ∧ StW dm'.d i (recsF 1 L) [.put i (recB (L.length + 1) b)])) := by
  have hll := sizeL_len L
  have hmz : m.size = sizeL L := congrArg LgD.size h.md
  have hrl : m.rows.length = L.length := by rw [← h.rows, List.length_map]
  refine (put_anyW w hT d dm q m h.l.p (by rw [h.W0]; omega) (by omega) (by omega) A c b hS hbc (by omega) hoff).mono ?_
  rintro e w' ⟨rfl, dm', m', hd', hm', ht'⟩
  have hl' : LogW W0 w' d dm' q m' := h.l.to ht'
  refine ⟨dm', m', hl', hl'.v, ?_⟩
  have e1 : m.d.all = L := congrArg LgD.all h.md
  have e2 : m.d.log = (i : Int) := congrArg LgD.log h.md
  have e3 : m.d.dead = false := congrArg LgD.dead h.md
  have e4 : m.d.size = sizeL L := congrArg LgD.size h.md
  rcases putW_case (L := m.d) (by rw [e1]; exact h.st) h.dd e2 e3 hb (by rw [e1]; exact hroom) with ⟨a1, a2, a3, a4, a5⟩ | ⟨a1, a2, a3⟩
  · rw [a1]
    refine .inl ⟨rfl, ⟨hl', by rw [hd', ← e1]; exact a2, by rw [hd']; exact a3, ?_⟩, fun hf => by rw [hd']; exact a5 hf⟩
    rw [hm', a4, e1, e4, sizeL_snoc]
  · rw [a1]
    exact .inr ⟨rfl, a3, by rw [hd', ← e1]; exact a2⟩
theorem num_any (w : World) (n : Int) : Calls Tryd.prog 17 #[.int .i64 n] w fun e w' => e = .returned (.int .i64 n) ∧ w' = w := by
  go_enter Tryd.func17, Tryd.ntmps17
  go_wp2
  go_ret
  exact ⟨rfl, rfl⟩
theorem newDisk_law (w : World) : Calls Tryd.prog 13 #[] w fun e w' => ∃ d, e = .returned (.pointer (some ⟨d, 0, none⟩)) ∧ DiskW w w' d newM := by
  refine (new_any w).mono ?_
  rintro e w' ⟨g, rfl, hg, hok, hb⟩
  exact ⟨g, rfl, hok, by rw [newM_d]; exact newD_wf, fun j hj => by rw [newM_foot g j hj]; exact hg, hb⟩

set_option maxHeartbeats 4000000 in
set_option maxRecDepth 100000 in
theorem wknown_any (w : World) (hT : Tabs w) : Calls Tryd.prog 7 #[] w fun e w' => e = .returned (.bool true) ∧ Below w.heap.size w w' := by
  have HT := Lib.hid hT
  clear hT
  have kc := fun (w : World) (C : Array Value) (n c : Nat) => Lib.run_convert_bytes_const (P := Tryd.prog) w 23 5 C n c Tryd.underlying23 Tryd.underlying5
  go_enter Tryd.func7, Tryd.ntmps7
  go_upto_region 3 with (first
    | (go_at_call 13; refine (newDisk_law w).mono ?_; rintro e w1 ⟨d, rfl, hd⟩; have D1 := Lib.hid hd; clear hd)
    | (go_at_call 15; refine (open_law w w1 (HT.out.later D1.out.v) d newM D1.out 0 [] [] (by rw [newM_d]; exact newD_st (by omega)) (by rw [newM_d]; rfl) (fun x hx => by cases hx) rfl).mono ?_; rintro e w2 ⟨dm2, hd2, hv2, ⟨q, m2, rfl, ha2, hf2⟩ | ⟨n, hn, rfl, hf, hs⟩⟩))
  rotate_left 1
  · exact absurd (by rw [newM_d]; rfl) hf
  have F2 : Hid (dm2.d.fuse = -1) := hf2 (by rw [newM_d]; rfl)
  have AL2 := Lib.hid ha2
  have T2 : Hid (Tabs w2) := HT.out.later hv2
  have VA2 : Hid (Below w2.heap.size w2 (w2.alloc (.cells (By [97]).toArray 5 (1, 2)))) := nxAlloc (nxRefl w2) _
  have SA2 : Hid (Sees (w2.alloc (.cells (By [97]).toArray 5 (1, 2))) (w2.alloc (.cells (By [97]).toArray 5 (1, 2))).heap.size (some ⟨w2.heap.size, 0, none⟩) [97]) := (Sees.litM w2 [97] 5 (1, 2)).more (by simp)
  clear hd2 hv2 ha2 hf2 D1
  go_upto_region 5 with (first
    | (go_at_call 24; (with_reducible show Calls _ _ _ (w2.alloc _) _); refine (put_law w (w2.alloc (.cells (By [97]).toArray 5 (1, 2))) (T2.out.later VA2.out) d dm2 q m2 0 [] (AL2.out.below VA2.out) (some ⟨w2.heap.size, 0, none⟩) 1 [97] SA2.out (by decide) (by decide) (by decide) (fun _ a ha => by injection ha with ha; subst ha; exact AL2.out.off (Nat.le_refl _))).mono ?_; rintro e w3 ⟨dm3, m3, -, hv3, h3⟩; have AL3 : Hid (AliveW w w3 d dm3 q m3 0 [[97]] ∧ dm3.d.fuse = -1 ∧ e = .returned (.int .i64 0)) := (h3.elim (fun h => ⟨h.2.1, h.2.2 F2.out, h.1⟩) (fun h => absurd F2.out h.2.1)); (obtain rfl := AL3.out.2.2); (have T3 : Hid (Tabs w3) := HT.out.later hv3); (have VA3 : Hid (Below w3.heap.size w3 (w3.alloc (.cells (By [98]).toArray 5 (1, 2)))) := nxAlloc (nxRefl w3) _); (have SA3 : Hid (Sees (w3.alloc (.cells (By [98]).toArray 5 (1, 2))) (w3.alloc (.cells (By [98]).toArray 5 (1, 2))).heap.size (some ⟨w3.heap.size, 0, none⟩) [98]) := (Sees.litM w3 [98] 5 (1, 2)).more (by simp)); clear hv3 h3)
    | (go_at_call 24; (with_reducible show Calls _ _ _ (w3.alloc _) _); refine (put_law w (w3.alloc (.cells (By [98]).toArray 5 (1, 2))) (T3.out.later VA3.out) d dm3 q m3 0 [[97]] (AL3.out.1.below VA3.out) (some ⟨w3.heap.size, 0, none⟩) 1 [98] SA3.out (by decide) (by decide) (by decide) (fun _ a ha => by injection ha with ha; subst ha; exact AL3.out.1.off (Nat.le_refl _))).mono ?_; rintro e w4 ⟨dm4, m4, -, hv4, h4⟩; have AL4 : Hid (AliveW w w4 d dm4 q m4 0 [[97], [98]] ∧ dm4.d.fuse = -1 ∧ e = .returned (.int .i64 0)) := (h4.elim (fun h => ⟨h.2.1, h.2.2 AL3.out.2.1, h.1⟩) (fun h => absurd AL3.out.2.1 h.2.1)); (obtain rfl := AL4.out.2.2); clear hv4 h4)
    | (go_at_call 25; refine (crash_any w4 d dm4 AL4.out.1.l.p.k AL4.out.1.l.p.wf (by rw [AL4.out.1.W0]; omega) 0 0).mono ?_; unfold CrPost; rintro e w5 ⟨rfl, dm5, ht5, hd5⟩; have D5 : Hid (DiskW w w5 d dm5) := AL4.out.1.l.disk.to ht5 (by rw [hd5]; exact crashD_wf AL4.out.1.l.p.wf _ _); (have C5 : Hid ((crashD dm4.d 0 0).dead = false ∧ (crashD dm4.d 0 0).fuse = -1 ∧ StW (crashD dm4.d 0 0) 0 (recsF 1 [[97], [98]]) []) := AL4.out.1.st.crash0 0 0); have E5 := Lib.hid hd5; clear ht5 hd5)
    | (go_at_call 17; refine (num_any _ _).mono ?_; rintro e wn ⟨rfl, hwn⟩; obtain rfl := hwn.symm))
  go_upto_region 6 with (first
    | (go_at_call 15; refine (open_law w w5 (HT.out.later D5.out.v) d dm5 D5.out 0 [[97], [98]] [] (by rw [E5.out, List.append_nil]; exact C5.out.2.2) (by rw [E5.out]; exact C5.out.1) (fun x hx => by simp at hx; rcases hx with rfl | rfl <;> decide) rfl).mono ?_; rintro e w6 ⟨dm6, -, hv6, h6⟩; obtain ⟨q6, m6, he6, ha6⟩ : ∃ q6 m6, e = .returned (.tuple #[.pointer (some ⟨q6, 0, none⟩), .int .i64 0]) ∧ AliveW w w6 d dm6 q6 m6 0 [[97], [98]] := (h6.elim (fun ⟨q6, m6, h1, h2, _⟩ => ⟨q6, m6, h1, h2⟩) (fun ⟨n, _, _, hf, _⟩ => absurd (by rw [E5.out]; exact C5.out.2.1) hf)); subst he6; have V6 := Lib.hid hv6; have AL6 := Lib.hid ha6; clear hv6 ha6 h6))
  have HL2 : Hid (m6.rows.length = 2) := by have := congrArg List.length AL6.out.rows; rw [List.length_map] at this; exact this
  have VB : Hid (Below w6.heap.size w6 (((w6.alloc (.cells #[.int .u8 97] 5)).alloc (.cells #[.int .u8 98] 5)).alloc (.cells #[.slice (some ⟨w6.heap.size, 0, none⟩) 1 1, .slice (some ⟨w6.heap.size + 1, 0, none⟩) 1 1] 23))) := nxAlloc (nxAlloc (nxAlloc (nxRefl w6) _) _) _
  have SB1 : Hid (Sees (((w6.alloc (.cells #[.int .u8 97] 5)).alloc (.cells #[.int .u8 98] 5)).alloc (.cells #[.slice (some ⟨w6.heap.size, 0, none⟩) 1 1, .slice (some ⟨w6.heap.size + 1, 0, none⟩) 1 1] 23)) (((w6.alloc (.cells #[.int .u8 97] 5)).alloc (.cells #[.int .u8 98] 5)).alloc (.cells #[.slice (some ⟨w6.heap.size, 0, none⟩) 1 1, .slice (some ⟨w6.heap.size + 1, 0, none⟩) 1 1] 23)).heap.size (some ⟨w6.heap.size, 0, none⟩) [97]) := Sees.blkW (l := [97]) (((Blk.newAt rfl rfl : Blk (w6.alloc (.cells #[.int .u8 97] 5)) w6.heap.size 5 #[.int .u8 97]).alloc _).alloc _)
  have SB2 : Hid (Sees (((w6.alloc (.cells #[.int .u8 97] 5)).alloc (.cells #[.int .u8 98] 5)).alloc (.cells #[.slice (some ⟨w6.heap.size, 0, none⟩) 1 1, .slice (some ⟨w6.heap.size + 1, 0, none⟩) 1 1] 23)) (((w6.alloc (.cells #[.int .u8 97] 5)).alloc (.cells #[.int .u8 98] 5)).alloc (.cells #[.slice (some ⟨w6.heap.size, 0, none⟩) 1 1, .slice (some ⟨w6.heap.size + 1, 0, none⟩) 1 1] 23)).heap.size (some ⟨w6.heap.size + 1, 0, none⟩) [98]) := Sees.blkW (l := [98]) ((Blk.newAt (by simp) rfl : Blk ((w6.alloc (.cells #[.int .u8 97] 5)).alloc (.cells #[.int .u8 98] 5)) (w6.heap.size + 1) 5 #[.int .u8 98]).alloc _)
  have WB : Hid (WantW (((w6.alloc (.cells #[.int .u8 97] 5)).alloc (.cells #[.int .u8 98] 5)).alloc (.cells #[.slice (some ⟨w6.heap.size, 0, none⟩) 1 1, .slice (some ⟨w6.heap.size + 1, 0, none⟩) 1 1] 23)) (((w6.alloc (.cells #[.int .u8 97] 5)).alloc (.cells #[.int .u8 98] 5)).alloc (.cells #[.slice (some ⟨w6.heap.size, 0, none⟩) 1 1, .slice (some ⟨w6.heap.size + 1, 0, none⟩) 1 1] 23)).heap.size (some ⟨w6.heap.size + 1 + 1, 0, none⟩) [⟨some ⟨w6.heap.size, 0, none⟩, 1, [97]⟩, ⟨some ⟨w6.heap.size + 1, 0, none⟩, 1, [98]⟩]) := by
    refine ⟨?_, fun r hr => ?_⟩
    · exact SeesV.blk (cs := #[.slice (some ⟨w6.heap.size, 0, none⟩) 1 1, .slice (some ⟨w6.heap.size + 1, 0, none⟩) 1 1]) (Blk.newAt (by simp) rfl)
    · simp only [List.mem_cons, List.not_mem_nil, or_false] at hr
      rcases hr with rfl | rfl
      · exact SB1.out
      · exact SB2.out
  have HSm := wsame_any (((w6.alloc (.cells #[.int .u8 97] 5)).alloc (.cells #[.int .u8 98] 5)).alloc (.cells #[.slice (some ⟨w6.heap.size, 0, none⟩) 1 1, .slice (some ⟨w6.heap.size + 1, 0, none⟩) 1 1] 23)) q6 d m6 (AL6.out.below VB.out).l.p.l (fun r hr => by
    have h1 : r.l ∈ m6.rows.map (·.l) := List.mem_map.2 ⟨r, hr, rfl⟩
    rw [AL6.out.rows] at h1
    simp only [List.mem_cons, List.not_mem_nil, or_false] at h1
    rcases h1 with h1 | h1 <;> rw [h1] <;> decide) (by rw [HL2.out]; decide) (some ⟨w6.heap.size + 1 + 1, 0, none⟩) 2 [⟨some ⟨w6.heap.size, 0, none⟩, 1, [97]⟩, ⟨some ⟨w6.heap.size + 1, 0, none⟩, 1, [98]⟩] WB.out (by show 2 ≤ 1000000000; decide) 0
  rw [AL6.out.rows] at HSm
  have hsv : sameB [[97], [98]] (List.map (fun x : RowM => x.l) [⟨some ⟨w6.heap.size, 0, none⟩, 1, [97]⟩, ⟨some ⟨w6.heap.size + 1, 0, none⟩, 1, [98]⟩]) 0 0 = true := by rw [sameB_eq]; rfl
  rw [hsv] at HSm
  have HSm2 := Lib.hid HSm
  have HLn := wlen_any w6 q6 d m6 AL6.out.l.p.l
  rw [HL2.out] at HLn
  have HLn2 := Lib.hid HLn
  have VW : Hid (Below w.heap.size w (((w6.alloc (.cells #[.int .u8 97] 5)).alloc (.cells #[.int .u8 98] 5)).alloc (.cells #[.slice (some ⟨w6.heap.size, 0, none⟩) 1 1, .slice (some ⟨w6.heap.size + 1, 0, none⟩) 1 1] 23))) := nxTrD V6.out VB.out
  clear HSm hsv HLn
  go_wp2_with (first
    | (go_at_call 17; refine (num_any _ _).mono ?_; rintro e wn ⟨rfl, hwn⟩; obtain rfl := hwn.symm)
    | (go_at_call 19; refine HLn2.out.mono ?_; rintro e wn ⟨rfl, hwn⟩; obtain rfl := hwn.symm)
    | (go_at_call 22; refine HSm2.out.mono ?_; rintro e w7 ⟨rfl, hb7⟩; have V7 := Lib.hid hb7; clear hb7))
  go_ret
  exact ⟨rfl, nxTrD VW.out V7.out⟩
end Go.Proofs.YtlepajddekblcaaDoor
