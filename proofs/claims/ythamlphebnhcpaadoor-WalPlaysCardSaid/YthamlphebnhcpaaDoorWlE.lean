/-
  wal, the document's: Scan.
-/
import Derived.Test.YthamlphebnhcpaaDoorWl2
import Derived.Test.YthamlphebnhcpaaDoorTq
import Derived.Test.YthamlphebnhcpaaDoorTxt
import Derived.Deep.DeepCutAuto
import Derived.Deep.RegionHeldLaw
namespace Go.Proofs.YthamlphebnhcpaaDoor
open Go.RowKit

theorem own_gbW {w w' : World} {base size n : Nat} {e : TypeId} {v : Value} {xs : List Value} (h : w.ownsRow base e size v n xs) (hb : Below w.heap.size w w') : w'.ownsRow base e size v n xs := own_keep h (Keeps.of_below hb (fun _ => False)) (fun _ _ h => h)
theorem By_app4 (a b : List UInt8) : By a ++ By b = By (a ++ b) := by rw [By_append]
set_option maxHeartbeats 4000000 in
set_option maxRecDepth 100000 in
theorem rrec_any (w : World) (hT : Tabs w) (n : Nat) (hn : n < 18446744073709551616) (A : Option Addr) (c : Nat) (b : List UInt8) (hS : Sees w w.heap.size A b) (hb : b.length ≤ 1000000) (hbc : b.length ≤ c) :
    Calls Tryd.prog 50 #[.int .u64 n, .slice A b.length c] w (OwnPost w (recB n b)) := by
  have hwl : IntKind.u64.wrap (b.length : Int) = (b.length : Int) := by rw [IntKind.wrap_u64]; omega
  have HT := Lib.hid hT
  have HS := Lib.hid hS
  have HBl := Lib.hid hb
  have HBc := Lib.hid hbc
  have HN := Lib.hid hn
  have HL := Lib.hid (headB_len n b)
  have HM : Hid (shaB (tagB (cutN walN) (headB n b ++ b)) = markB n b) := by show _ = _; rw [cutN_short walN (by decide)]; rfl
  have HMl : Hid ((markB n b).length = 32) := markB_len n b
  have HR : Hid (headB n b ++ (markB n b).take 8 ++ b = recB n b) := rfl
  have HH : Hid (leB b.length 4 ++ leB n 8 = headB n b) := rfl
  have HRl : Hid ((recB n b).length = 20 + b.length) := recB_len n b
  obtain ⟨H, hH⟩ : ∃ H, headB n b = H := ⟨_, rfl⟩
  obtain ⟨M, hM⟩ : ∃ M, markB n b = M := ⟨_, rfl⟩
  obtain ⟨R, hR⟩ : ∃ R, recB n b = R := ⟨_, rfl⟩
  rw [hH] at HL HM HR HH
  rw [hM] at HM HMl HR
  rw [hR] at HR HRl ⊢
  obtain ⟨i0, hi, hz0, hz1, hz2⟩ := info_parts Tryd.u8info
  clear hT hS hb hbc hn hH hM hR
  unfold OwnPost
  go_enter Tryd.func50, Tryd.ntmps50
  go_wp2_with (first
    | (go_at_call 69; (with_reducible show Calls _ _ #[_, .int .i64 4] _ _); refine (refNum_any w b.length (by have := HBl.out; omega)).mono ?_; rintro e w1 ⟨A1, c1, rfl, ho1, hb1⟩; have O1 := Lib.hid ho1; have V1 : Hid (Below w.heap.size w w1) := hb1; clear ho1 hb1)
    | (go_at_call 69; (with_reducible show Calls _ _ #[_, .int .i64 8] _ _); refine (refNumZ_any w1 n HN.out 8 rfl).mono ?_; rintro e w2 ⟨A2, c2, rfl, ho2, hb2⟩; have S2 : Hid (Sees w2 w2.heap.size A2 (leB n 8)) := Sees.own ho2; have O2 := Lib.hid (own_gbW O1.out hb2); have V2 : Hid (Below w.heap.size w w2) := nxTrD V1.out hb2; clear ho2 hb2)
    | ((with_reducible show wpList _ _ _ (⟨some 13, _, _, _, _, _⟩ :: _) _ _); refine wpList_append_sees rfl (.tmp 10) (.tmp 12) 39 rfl w.heap.size 5 i0 (.int .u8 0) Tryd.underlying39 hi hz0 hz1 hz2 rfl (.slice A1 4 c1) 4 (By (leB b.length 4)) rfl O2.out w2.heap.size A2 8 c2 (leB n 8) rfl (leB_length _ _).symm S2.out (by omega) V2.out.size ?_; intro v3 w3 ho3 hg3 hat3; obtain ⟨A3, c3, rfl⟩ := own_form ho3; have O3 : Hid (w3.ownsRow w.heap.size 5 1 (.slice A3 H.length c3) H.length (By H)) := (by show World.ownsRow _ _ _ _ (.slice A3 H.length c3) H.length (By H); rw [HL.out, ← HH.out, By_append]; exact ho3); have V3 : Hid (Below w.heap.size w w3) := V2.out.grown hg3 V2.out.size (fun j hj => (own_lt O2.out j hj).1); have S3 : Hid (Sees w3 w3.heap.size A3 H) := Sees.own O3.out; rw [show (4 + 8 : Nat) = H.length from HL.out.symm]; clear ho3 hg3 hat3)
    | ((with_reducible show wpList _ _ _ (⟨some 15, _, _, _, _, _⟩ :: _) _ _); refine wpList_append_sees rfl (.const (.slice none 0 0)) (.tmp 14) 39 rfl w3.heap.size 5 i0 (.int .u8 0) Tryd.underlying39 hi hz0 hz1 hz2 rfl (.slice none 0 0) 0 [] rfl (World.ownsRow_nil _ _ _ _) w3.heap.size A3 H.length c3 H rfl rfl S3.out (by have := HL.out; omega) (Nat.le_refl _) ?_; intro v4 w4 ho4 hg4 hat4; obtain ⟨A4, c4, rfl⟩ := own_form ho4; have O4 : Hid (w4.ownsRow w3.heap.size 5 1 (.slice A4 H.length c4) H.length (By H)) := (by show World.ownsRow _ _ _ _ (.slice A4 H.length c4) H.length (By H); rw [Nat.zero_add, List.nil_append] at ho4; exact ho4); have V4 : Hid (Below w3.heap.size w3 w4) := (nxRefl w3).grown hg4 (Nat.le_refl _) (fun j hj => by cases hj); rw [Nat.zero_add]; have SB4 : Hid (Sees w4 w4.heap.size A b) := (HS.out.later (nxTrD V3.out V4.out)).more (nxTrD V3.out V4.out).size; clear ho4 hg4 hat4)
    | ((with_reducible show wpList _ _ _ (⟨some 17, _, _, _, _, _⟩ :: _) _ _); refine wpList_append_sees rfl (.tmp 15) (.tmp 16) 39 rfl w3.heap.size 5 i0 (.int .u8 0) Tryd.underlying39 hi hz0 hz1 hz2 rfl (.slice A4 H.length c4) H.length (By H) rfl O4.out w4.heap.size A b.length c b rfl rfl SB4.out (by have := HL.out; have := HBl.out; omega) V4.out.size ?_; intro v5 w5 ho5 hg5 hat5; obtain ⟨A5, c5, rfl⟩ := own_form ho5; have HL5 : Hid (H.length + b.length = (H ++ b).length) := List.length_append.symm; have O5 : Hid (w5.ownsRow w3.heap.size 5 1 (.slice A5 (H ++ b).length c5) (H ++ b).length (By (H ++ b))) := (by rw [← HL5.out, By_append]; exact ho5); have V5 : Hid (Below w3.heap.size w3 w5) := V4.out.grown hg5 V4.out.size (fun j hj => (own_lt O4.out j hj).1); have S5 : Hid (Sees w5 w5.heap.size A5 (H ++ b)) := Sees.own O5.out; clear ho5 hg5 hat5)
    | (go_at_call 70; refine (rtag_any w5 walN A5 (H.length + b.length) c5 (H ++ b) HL5.out S5.out (by have := HL.out; have := HBl.out; omega) (by show 3 ≤ _; omega)).mono ?_; rw [HM.out]; rintro e w6 ⟨rfl, hb6⟩; have V6 : Hid (Below w3.heap.size w3 w6) := nxTrD V5.out hb6; clear hb6)
    | ((with_reducible show wpList _ _ _ (⟨none, .store _ _ _, _, _, _, _⟩ :: _) _ _); (show wpList _ _ _ _ _ (w6.alloc (.cells (By zero32).toArray 107))); refine wpList_store_all rfl 107 (.tmp 6) (.tmp 18) rfl w6.heap.size 107 (By zero32).toArray (By M).toArray rfl rfl (heap_alloc_new w6 _) (by rw [List.size_toArray, List.size_toArray, By_length, By_length, HMl.out]; rfl) (Tryd.hsizeB M HMl.out) (By_one _) ?_; intro w7 h5 h6 h7; have B7 := Lib.hid h5; have V7 : Hid (Below w3.heap.size w3 w7) := ((nxAlloc V6.out _).trans (h6.below (nxAlloc V6.out (.cells (By zero32).toArray 107)).size (fun k hk => by have := V6.out.size; omega))); clear h5 h6 h7; have O7 : Hid (w7.ownsRow w.heap.size 5 1 (.slice A3 H.length c3) H.length (By H)) := own_below O3.out V7.out (fun g hg => (own_lt O3.out g hg).2); have VW7 : Hid (Below w.heap.size w w7) := nxTrD V3.out V7.out; have SM7 : Hid (Sees w7 w7.heap.size (some ⟨w6.heap.size, 0, none⟩) (M.take 8)) := (Sees.blkW B7.out).take 8; have HM8 : Hid ((M.take 8).length = 8) := (by show _ = _; rw [List.length_take, HMl.out]; rfl))
    | ((with_reducible show wpList _ _ _ (⟨some 21, _, _, _, _, _⟩ :: _) _ _); refine wpList_append_sees rfl (.tmp 19) (.tmp 20) 39 rfl w.heap.size 5 i0 (.int .u8 0) Tryd.underlying39 hi hz0 hz1 hz2 rfl (.slice A3 H.length c3) H.length (By H) rfl O7.out w7.heap.size (some ⟨w6.heap.size, 0, none⟩) 8 32 (M.take 8) rfl HM8.out.symm SM7.out (by have := HL.out; omega) VW7.out.size ?_; intro v8 w8 ho8 hg8 hat8; obtain ⟨A8, c8, rfl⟩ := own_form ho8; have O8 : Hid (w8.ownsRow w.heap.size 5 1 (.slice A8 (H.length + 8) c8) (H.length + 8) (By (H ++ M.take 8))) := (by rw [By_append]; exact ho8); have V8 : Hid (Below w.heap.size w w8) := VW7.out.grown hg8 VW7.out.size (fun j hj => (own_lt O7.out j hj).1); have SB8 : Hid (Sees w8 w8.heap.size A b) := (HS.out.later V8.out).more V8.out.size; clear ho8 hg8 hat8)
    | ((with_reducible show wpList _ _ _ (⟨some 23, _, _, _, _, _⟩ :: _) _ _); refine wpList_append_sees rfl (.tmp 21) (.tmp 22) 39 rfl w.heap.size 5 i0 (.int .u8 0) Tryd.underlying39 hi hz0 hz1 hz2 rfl (.slice A8 (H.length + 8) c8) (H.length + 8) (By (H ++ M.take 8)) rfl O8.out w8.heap.size A b.length c b rfl rfl SB8.out (by have := HL.out; have := HBl.out; omega) V8.out.size ?_; intro v9 w9 ho9 hg9 hat9; obtain ⟨A9, c9, rfl⟩ := own_form ho9; have HL9 : Hid (H.length + 8 + b.length = R.length) := (by show _ = _; have h1 := HRl.out; have h2 := HL.out; omega); have O9 : Hid (w9.ownsRow w.heap.size 5 1 (.slice A9 R.length c9) R.length (By R)) := (by rw [← HL9.out, ← HR.out, By_append]; exact ho9); have V9 : Hid (Below w.heap.size w w9) := V8.out.grown hg9 V8.out.size (fun j hj => (own_lt O8.out j hj).1); clear ho9 hg9 hat9))
  go_ret
  exact ⟨A9, c9, congrArg (fun k => Ending.returned (Value.slice A9 k c9)) (by have h1 := HRl.out; have h2 := HL.out; omega), O9.out, V9.out⟩
end Go.Proofs.YthamlphebnhcpaaDoor

namespace Go.Proofs.YthamlphebnhcpaaDoor
open Go.RowKit

/-- On the way. -/
structure RScAt (w wr : World) (b : List UInt8) (rows : List RowM) (A : Option Addr) (c : Nat) (q : List UInt8) : Prop where
  l : rows.map (·.l) ++ scanF q.length (rows.length + 1) q = scanB b
  o : wr.ownsRow w.heap.size 39 1 (.slice A rows.length c) rows.length (rowsC rows)
  r : ∀ r ∈ rows, r.own wr ∧ ∀ j, r.bk = some j → w.heap.size ≤ j
  v : Below w.heap.size w wr
theorem RScAt.below {w wr W : World} {b q : List UInt8} {rows : List RowM} {A : Option Addr} {c : Nat} (h : RScAt w wr b rows A c q) (k : Below wr.heap.size wr W) : RScAt w W b rows A c q :=
  ⟨h.l, own_keep h.o (Keeps.of_below k (fun _ => False)) (fun _ _ h => h), fun r hr => ⟨RowM.keep (h.r r hr).1 (Keeps.of_below k (fun _ => False)) (fun _ _ h => h), (h.r r hr).2⟩, nxTrD h.v k⟩
theorem RScAt.fin {w wr : World} {b : List UInt8} {rows : List RowM} {A : Option Addr} {c : Nat} {q : List UInt8} (h : RScAt w wr b rows A c q) (hs : stepR (rows.length + 1) q = none) (z : Int) (hz : z = sizeL (rows.map (·.l))) : ScanPost w b (.returned (.tuple #[.slice A rows.length c, .int .i64 z])) wr := by
  have he : rows.map (·.l) = scanB b := by
    have h1 := h.l
    rw [scanF_end hs, List.append_nil] at h1
    exact h1
  subst hz
  exact ⟨rows, A, c, by rw [← he], he, h.o, h.r, h.v⟩
/-- One batch more. -/
theorem RScAt.next {w wr w4 w8 : World} {b : List UInt8} {rows : List RowM} {A A8 A9 : Option Addr} {c c8 c9 : Nat} {q q2 x : List UInt8} (h : RScAt w wr b rows A c q) (hs : stepR (rows.length + 1) q = some (x, q2))
    (v4 : Below wr.heap.size wr w4) (ho9 : (⟨A9, c9, x⟩ : RowM).own w4) (hb9 : ∀ j, (⟨A9, c9, x⟩ : RowM).bk = some j → wr.heap.size ≤ j) (cs : Array Value) (t : TypeId)
    (ho8 : w8.ownsRow w.heap.size 39 1 (.slice A8 (rows.length + 1) c8) (rows.length + 1) (rowsC rows ++ [.slice A9 x.length c9])) (hg8 : (w4.alloc (.cells cs t)).grownBy w8 (Value.slice A rows.length c).ownBlock) : RScAt w w8 b (rows ++ [⟨A9, c9, x⟩]) A8 c8 q2 := by
  have h4 := h.below v4
  have k8 : Keeps (fun j => (Value.slice A rows.length c).ownBlock = some j) w4 w8 := Keeps.grown ((Keeps.refl _ w4).alloc _) hg8 (fun j hj => hj)
  have hapart : ∀ {r : RowM}, r.own w4 → ∀ j, r.bk = some j → ¬ (Value.slice A rows.length c).ownBlock = some j := fun hr j hj => own_apart hr h4.o (by decide) j (by rw [RowM.v, own_blkD]; exact hj)
  refine ⟨?_, ?_, ?_, ?_⟩
  · rw [List.map_append, List.append_assoc, List.length_append]
    have h1 := h.l
    rw [scanF_step hs] at h1
    exact h1
  · rw [rowsC_snoc, List.length_append]
    exact ho8
  · intro r hr
    rcases List.mem_append.1 hr with hr | hr
    · have h1 := h4.r r hr
      exact ⟨RowM.keep h1.1 k8 (fun j hj e => hapart h1.1 j hj e), h1.2⟩
    · rw [List.mem_singleton.1 hr]
      exact ⟨RowM.keep ho9 k8 (fun j hj e => hapart ho9 j hj e), fun j hj => Nat.le_trans h.v.size (hb9 j hj)⟩
  · exact (nxAlloc h4.v _).grown hg8 (nxAlloc h4.v (.cells cs t)).size (fun j hj => (own_lt h4.o j hj).1)
theorem nxDrE {w W : World} (h : Below w.heap.size w W) (n : Nat) : Below w.heap.size w (W.drewN n) := ⟨h.os, h.tape, h.output, h.size, h.block⟩
theorem mid_sliceW {w : World} {B : Nat} {A : Option Addr} {c : Nat} {l : List UInt8} (h : SeenW w B A c l) (i k : Nat) (hi : i ≤ k) (hk : k ≤ l.length) :
    ∃ A1, SeenW w B A1 (c - i) ((l.drop i).take (k - i)) ∧ ∀ wq, (Instr.slice 39 (.slice A l.length c) (some (.int .i64 (i : Int))) (some (.int .i64 (k : Int))) none).run Tryd.prog wq = .ok (.slice A1 (k - i) (c - i)) wq := by
  obtain ⟨i0, hi0, _, hz1, _⟩ := infoD Tryd.u8info
  have hc := h.kc
  have hm := h.m
  unfold maxLen at hm
  refine ⟨if c = i then A else A.map (·.add (i * 1)), ⟨?_, by rw [List.length_take, List.length_drop]; omega, by unfold maxLen; omega⟩, fun wq => ?_⟩
  · split
    · next he => exact .inl (by rw [List.drop_eq_nil_of_le (by omega), List.take_nil])
    · have := (h.s.drop i).take (k - i)
      simpa using this
  · simp [Instr.slice, run_underlying Tryd.underlying39, Instr.sliceBounds, run_sliceBound wq .i64 (k : Int) c _ (by omega) (by omega), run_sliceBound wq .i64 (i : Int) k _ (by omega) (by omega), sizeOf, typeInfo, hi0, hz1]
theorem ofLe4 (q : List UInt8) (h : 4 ≤ q.length) : ofLe (q.take 4) = (q[0]'(by omega)).toNat + 256 * (q[1]'(by omega)).toNat + 65536 * (q[2]'(by omega)).toNat + 16777216 * (q[3]'(by omega)).toNat := by
  match q, h with
  | a :: b :: c :: d :: r, _ =>
    show ofLe [a, b, c, d] = a.toNat + 256 * b.toNat + 65536 * c.toNat + 16777216 * d.toNat
    simp only [ofLe]
    omega

set_option maxHeartbeats 4000000 in
set_option maxRecDepth 100000 in
theorem rscan_any (w : World) (hT : Tabs w) (A : Option Addr) (c : Nat) (b : List UInt8) (hS : Sees w w.heap.size A b) (hc : b.length ≤ c) (hm : c ≤ maxLen) (hl : b.length ≤ 1000000) : Calls Tryd.prog 23 #[.slice A b.length c] w (ScanPost w b) := by
  have HT := Lib.hid hT
  have HS : Hid (SeenW w w.heap.size A c b) := ⟨hS, hc, hm⟩
  have HL := Lib.hid hl
  clear hT hS hc hm hl
  have SA0 : Hid (RScAt w w b [] none 0 b) := ⟨rfl, World.ownsRow_nil _ _ _ _, fun r h => (by cases h), nxRefl w⟩
  go_enter Tryd.func23, Tryd.ntmps23
  go_wp2
  go_loopw [4, 5] (fun lv av wr => ∃ (rows : List RowM) (A1 : Option Addr) (c1 z : Nat), lv = .slice A1 rows.length c1 ∧ av = .int .i64 (z : Int) ∧ Hid (z ≤ b.length) ∧ Hid (z = sizeL (rows.map (·.l))) ∧ Hid (RScAt w wr b rows A1 c1 (b.drop z))) (fun _ av _ => b.length - (intOf av).toNat)
  case atStart => exact ⟨[], none, 0, 0, rfl, rfl, Nat.zero_le _, rfl, SA0.out⟩
  case round =>
    obtain ⟨rows, A1, c1, z, rfl, rfl, HZl, HZ, SA⟩ := hrel
    clear SA0
    have HLb : Hid (b.length ≤ 1000000) := HL.out
    have HN20 : Hid (20 * rows.length ≤ z) := by show _ ≤ _; have := sizeL_len (rows.map (·.l)); rw [List.length_map] at this; have := HZ.out; omega
    obtain ⟨q, hq⟩ : ∃ q, b.drop z = q := ⟨_, rfl⟩
    rw [hq] at SA
    have HQ := Lib.hid hq
    have HQl : Hid (q.length = b.length - z) := by show _ = _; rw [← hq, List.length_drop]
    clear hq
    have hw20 : IntKind.i64.wrap ((z : Int) + 20) = ((z + 20 : Nat) : Int) := by rw [IntKind.wrap_i64]; have := HZl.out; have := HLb.out; omega
    by_cases h20 : z + 20 ≤ b.length
    · have h20i : (((z + 20 : Nat) : Int)) ≤ (b.length : Int) := by omega
      have HSr : Hid (SeenW wr w.heap.size A c b) := HS.out.below SA.out.v
      obtain ⟨blk, off, hA, hblk, hcs⟩ : ∃ blk off, A = some ⟨blk, off, none⟩ ∧ blk < w.heap.size ∧ ∀ i (h : i < b.length), wr.cell? ⟨blk, off + i, none⟩ = some (.int .u8 (b[i].toNat : Int)) := by
        rcases HSr.out.s with h0 | h0
        · rw [h0] at h20; simp at h20
        · exact h0
      have hqi : ∀ i (h : i < q.length) (h2 : z + i < b.length), q[i] = b[z + i] := fun i h h2 => by
        have : (b.drop z)[i]? = some (b[z + i]) := by rw [List.getElem?_drop, List.getElem?_eq_getElem h2]
        rw [HQ.out, List.getElem?_eq_getElem h] at this
        injection this
      have hql : 20 ≤ q.length := by have := HQl.out; omega
      have h4 := ofLe4 q (by omega)
      rw [hqi 0 (by omega) (by omega), hqi 1 (by omega) (by omega), hqi 2 (by omega) (by omega), hqi 3 (by omega) (by omega)] at h4
      have k0 := hcs (z + 0) (by omega)
      have k1 := hcs (z + 1) (by omega)
      have k2 := hcs (z + 2) (by omega)
      have k3 := hcs (z + 3) (by omega)
      obtain ⟨x0, e0⟩ : ∃ x, b[z + 0].toNat = x := ⟨_, rfl⟩
      obtain ⟨x1, e1⟩ : ∃ x, b[z + 1].toNat = x := ⟨_, rfl⟩
      obtain ⟨x2, e2⟩ : ∃ x, b[z + 2].toNat = x := ⟨_, rfl⟩
      obtain ⟨x3, e3⟩ : ∃ x, b[z + 3].toNat = x := ⟨_, rfl⟩
      have l0 : x0 < 256 := by rw [← e0]; exact b[z + 0].toNat_lt
      have l1 : x1 < 256 := by rw [← e1]; exact b[z + 1].toNat_lt
      have l2 : x2 < 256 := by rw [← e2]; exact b[z + 2].toNat_lt
      have l3 : x3 < 256 := by rw [← e3]; exact b[z + 3].toNat_lt
      rw [e0] at h4 k0
      rw [e1] at h4 k1
      rw [e2] at h4 k2
      rw [e3] at h4 k3
      rw [Nat.add_zero] at k0
      rw [← Nat.add_assoc] at k1 k2 k3
      obtain ⟨n, hn⟩ : ∃ n, ofLe (q.take 4) = n := ⟨_, rfl⟩
      rw [hn] at h4
      have Hn := Lib.hid hn
      have H4 := Lib.hid h4
      have hnb : n < 4294967296 := by omega
      have HX : Hid (x0 < 256 ∧ x1 < 256 ∧ x2 < 256 ∧ x3 < 256) := ⟨l0, l1, l2, l3⟩
      have hi0 : (z : Int) < (b.length : Int) := by omega
      have hi1 : (z : Int) + 1 < (b.length : Int) := by omega
      have hj1 : 0 ≤ (z : Int) + 1 := by omega
      have ht1 : ((z : Int) + 1).toNat = z + 1 := by omega
      have kk1 := k1
      rw [Nat.add_assoc] at kk1
      have hi2 : (z : Int) + 2 < (b.length : Int) := by omega
      have hj2 : 0 ≤ (z : Int) + 2 := by omega
      have ht2 : ((z : Int) + 2).toNat = z + 2 := by omega
      have kk2 := k2
      rw [Nat.add_assoc] at kk2
      have hi3 : (z : Int) + 3 < (b.length : Int) := by omega
      have hj3 : 0 ≤ (z : Int) + 3 := by omega
      have ht3 : ((z : Int) + 3).toNat = z + 3 := by omega
      have kk3 := k3
      rw [Nat.add_assoc] at kk3
      have hw1 : IntKind.i64.wrap ((z : Int) + 1) = ((z + 1 : Nat) : Int) := by rw [IntKind.wrap_i64]; have := HLb.out; omega
      have hw2 : IntKind.i64.wrap ((z : Int) + 2) = ((z + 2 : Nat) : Int) := by rw [IntKind.wrap_i64]; have := HLb.out; omega
      have hw3 : IntKind.i64.wrap ((z : Int) + 3) = ((z + 3 : Nat) : Int) := by rw [IntKind.wrap_i64]; have := HLb.out; omega
      have hc0 : IntKind.i64.wrap (x0 : Int) = (x0 : Int) := by rw [IntKind.wrap_i64]; omega
      have hc1 : IntKind.i64.wrap (x1 : Int) = (x1 : Int) := by rw [IntKind.wrap_i64]; omega
      have hc2 : IntKind.i64.wrap (x2 : Int) = (x2 : Int) := by rw [IntKind.wrap_i64]; omega
      have hc3 : IntKind.i64.wrap (x3 : Int) = (x3 : Int) := by rw [IntKind.wrap_i64]; omega
      have hm1 : IntKind.i64.wrap (256 * (x1 : Int)) = ((256 * x1 : Nat) : Int) := by rw [IntKind.wrap_i64]; omega
      have hm2 : IntKind.i64.wrap (65536 * (x2 : Int)) = ((65536 * x2 : Nat) : Int) := by rw [IntKind.wrap_i64]; omega
      have hm3 : IntKind.i64.wrap (16777216 * (x3 : Int)) = ((16777216 * x3 : Nat) : Int) := by rw [IntKind.wrap_i64]; omega
      have hs1 : IntKind.i64.wrap ((x0 : Int) + ((256 * x1 : Nat) : Int)) = ((x0 + 256 * x1 : Nat) : Int) := by rw [IntKind.wrap_i64]; omega
      have hs2 : IntKind.i64.wrap (((x0 + 256 * x1 : Nat) : Int) + ((65536 * x2 : Nat) : Int)) = ((x0 + 256 * x1 + 65536 * x2 : Nat) : Int) := by rw [IntKind.wrap_i64]; omega
      have hs3 : IntKind.i64.wrap (((x0 + 256 * x1 + 65536 * x2 : Nat) : Int) + ((16777216 * x3 : Nat) : Int)) = (n : Int) := by rw [IntKind.wrap_i64]; omega
      clear hcs hqi e0 e1 e2 e3 hn h4
      rw [hA]
      go_upto_region 4 with fail
      go_cut [6] (fun nv wx => nv = .int .i64 (n : Int) ∧ Hid (∃ k, wx = wr.drewN k))
      case first =>
        go_quiet (fail)
        go_wp2
        go_meet
        case rel => exact ⟨congrArg (Value.int .i64) (by have := H4.out; omega), nq, rfl⟩
      case rest =>
        obtain ⟨rfl, HD⟩ := hcut
        obtain ⟨wd, hwd⟩ : ∃ x, x = wc := ⟨_, rfl⟩
        rw [← hwd] at HD ⊢
        clear hwd
        have VD : Hid (Below wr.heap.size wr wd) := by
          obtain ⟨k, hk⟩ := HD.out
          show Below _ _ _
          rw [hk]
          exact nxDrE (nxRefl wr) k
        have SAd : Hid (RScAt w wd b rows A1 c1 q) := SA.out.below VD.out
        have HSd : Hid (SeenW wd w.heap.size A c b) := HS.out.below SAd.out.v
        clear HD VD SA HSr k0 k1 k2 k3 kk1 kk2 kk3 hi0 hi1 hi2 hi3 hj1 hj2 hj3 ht1 ht2 ht3 hw1 hw2 hw3 hc0 hc1 hc2 hc3 hm1 hm2 hm3 hs1 hs2 hs3 l0 l1 l2 l3 H4 HX
        have HA := Lib.hid hA
        rw [← hA]
        clear hA hblk
        by_cases hlong : (4194304 : Int) < (n : Int)
        · have HBad : Hid (stepR (rows.length + 1) q = none) := by
            show _ = _
            unfold stepR nextR
            rw [Hn.out]
            by_cases h1 : 20 + n ≤ q.length
            · rw [if_pos h1]
              dsimp only
              rw [if_neg]
              intro h2
              have := h2.1
              rw [List.length_drop, List.length_take] at this
              omega
            · rw [if_neg h1]
          go_wp2
          go_ret2
          exact SAd.out.fin HBad.out _ (by rw [HZ.out])
        · have hws : IntKind.i64.wrap ((b.length : Int) - (z : Int)) = (b.length : Int) - (z : Int) := by rw [IntKind.wrap_i64]; have := HLb.out; omega
          have hws2 : IntKind.i64.wrap ((b.length : Int) - (z : Int) - 20) = (b.length : Int) - (z : Int) - 20 := by rw [IntKind.wrap_i64]; have := HLb.out; omega
          by_cases hsh : (b.length : Int) - (z : Int) - 20 < (n : Int)
          · have HBad : Hid (stepR (rows.length + 1) q = none) := by
              show _ = _
              unfold stepR nextR
              rw [Hn.out, if_neg (by have := HQl.out; omega)]
            go_wp2
            go_ret2
            exact SAd.out.fin HBad.out _ (by rw [HZ.out])
          · have hzn : z + 20 + n ≤ b.length := by omega
            obtain ⟨A4, S4, q4⟩ := mid_sliceW HSd.out (z + 20) (z + 20 + n) (by omega) hzn
            obtain ⟨A5, S5, q5⟩ := mid_sliceW HSd.out z (z + 20 + n) (by omega) hzn
            have hk45 : z + 20 + n - (z + 20) = n := by omega
            have hk55 : z + 20 + n - z = 20 + n := by omega
            rw [hk45] at S4 q4
            rw [hk55] at S5 q5
            obtain ⟨x, hx⟩ : ∃ x, (b.drop (z + 20)).take n = x := ⟨_, rfl⟩
            obtain ⟨r, hr⟩ : ∃ r, (b.drop z).take (20 + n) = r := ⟨_, rfl⟩
            have hxl : x.length = n := by rw [← hx, List.length_take, List.length_drop]; omega
            have hrl : r.length = 20 + n := by rw [← hr, List.length_take, List.length_drop]; omega
            have hrx : r.drop 20 = x := by rw [← hr, ← hx, List.drop_take, List.drop_drop]; congr 1; omega
            have hnx : nextR q = some (r, q.drop (20 + n)) := by
              unfold nextR
              rw [Hn.out, if_pos (by have := HQl.out; omega), ← hr, ← HQ.out]
            have hq2 : q.drop (20 + n) = b.drop (z + 20 + n) := by rw [← HQ.out, List.drop_drop]; congr 1; omega
            rw [hx] at S4
            rw [hr] at S5
            rw [hq2] at hnx
            have S4 := Lib.hid S4
            have S5 := Lib.hid S5
            have Hxl := Lib.hid hxl
            have Hrl := Lib.hid hrl
            have HBW : Hid (w.heap.size ≤ wd.heap.size) := SAd.out.v.size
            have HLo : Hid (x.length ≤ 4194304) := by show _ ≤ _; omega
            rw [show ((z + 20 : Nat) : Int) = (z : Int) + 20 by omega, show ((z + 20 + n : Nat) : Int) = (z : Int) + 20 + (n : Int) by omega] at q4
            rw [show ((z + 20 + n : Nat) : Int) = (z : Int) + 20 + (n : Int) by omega] at q5
            have hwn : IntKind.i64.wrap ((z : Int) + 20 + (n : Int)) = (z : Int) + 20 + (n : Int) := by rw [IntKind.wrap_i64]; have := HLb.out; omega
            have hw20b : IntKind.i64.wrap ((z : Int) + 20) = (z : Int) + 20 := by rw [IntKind.wrap_i64]; have := HLb.out; omega
            have hwr : IntKind.i64.wrap ((rows.length : Int) + 1) = (rows.length : Int) + 1 := by rw [IntKind.wrap_i64]; have := HLb.out; have := HN20.out; have := HZl.out; omega
            have hwu : IntKind.u64.wrap ((rows.length : Int) + 1) = (rows.length : Int) + 1 := by rw [IntKind.wrap_u64]; have := HLb.out; have := HN20.out; have := HZl.out; omega
            clear hx hr hk45 hk55 hq2 hw20
            have S5w : Hid (Sees wd.drew wd.drew.heap.size A5 r) := S5.out.s.more HBW.out
            have S4w : Hid (Sees wd.drew wd.drew.heap.size A4 x) := S4.out.s.more HBW.out
            have hN63 : rows.length + 1 < 18446744073709551616 := by have := HLb.out; have := HN20.out; have := HZl.out; omega
            have hrec := rrec_any wd.drew (HT.out.later (SAd.out.v.drew : Below w.heap.size w wd.drew)) (rows.length + 1) hN63 A4 (c - (z + 20)) x S4w.out (by rw [hxl]; have := HLb.out; omega) S4.out.kc
            unfold OwnPost at hrec
            rw [hxl, show ((rows.length + 1 : Nat) : Int) = (rows.length : Int) + 1 by omega] at hrec
            obtain ⟨R, hR⟩ : ∃ R, recB (rows.length + 1) x = R := ⟨_, rfl⟩
            rw [hR] at hrec
            have HR := Lib.hid hR
            have hRl : R.length = 20 + n := by rw [← hR, recB_len, hxl]
            have Hrec := Lib.hid hrec
            have HNn := Lib.hid hN63
            have Hnx := Lib.hid hnx
            have Hrx := Lib.hid hrx
            have HRl := Lib.hid hRl
            have qd : (convert 39 9 (.slice A5 (20 + n) (c - z))).run Tryd.prog wd.drew = .ok (.string (Str r)) wd.drew := run_string_sees Tryd.underlying39 Tryd.underlying5 Tryd.underlying9 hrl.symm S5w.out
            have HQd : Hid (∀ wx, Below wd.drew.heap.size wd.drew wx → (convert 39 9 (.slice A5 (20 + n) (c - z))).run Tryd.prog wx = .ok (.string (Str r)) wx) := fun wx h => run_string_sees Tryd.underlying39 Tryd.underlying5 Tryd.underlying9 Hrl.out.symm (S5w.out.later h)
            clear hR hrec hnx hrx hxl hrl hRl hN63
            go_upto_region 7 with fail
            go_cut [76] (fun v wx => v = .bool (!(R == r)) ∧ Hid (Below wd.heap.size wd wx))
            case first =>
              by_cases hgood : R = r
              · have q3 : (R == r) = true := by rw [hgood]; simp
                clear hgood
                go_region_held_law (fun _ => True) (exact True.intro) (first
                  | (go_at_call 50; refine Hrec.out.mono ?_; rintro e w3 ⟨A6, c6, rfl, ho6, hb6⟩; have S6 : Hid (Sees w3 w3.heap.size A6 R) := Sees.own ho6; have V3 : Hid (Below wd.heap.size wd w3) := nxTrD (nxRefl wd).drew hb6; (have q6 : (convert 39 9 (.slice A6 R.length c6)).run Tryd.prog w3 = .ok (.string (Str R)) w3 := run_string_sees Tryd.underlying39 Tryd.underlying5 Tryd.underlying9 rfl S6.out); have q7 := HQd.out w3 hb6; clear ho6 hb6))
                all_goals (go_wp2_with fail; go_meet; exact ⟨by rw [q3]; rfl, V3⟩)
              · have q3 : (R == r) = false := beq_eq_false_iff_ne.2 hgood
                clear hgood
                go_region_held_law (fun _ => True) (exact True.intro) (first
                  | (go_at_call 50; refine Hrec.out.mono ?_; rintro e w3 ⟨A6, c6, rfl, ho6, hb6⟩; have S6 : Hid (Sees w3 w3.heap.size A6 R) := Sees.own ho6; have V3 : Hid (Below wd.heap.size wd w3) := nxTrD (nxRefl wd).drew hb6; (have q6 : (convert 39 9 (.slice A6 R.length c6)).run Tryd.prog w3 = .ok (.string (Str R)) w3 := run_string_sees Tryd.underlying39 Tryd.underlying5 Tryd.underlying9 rfl S6.out); have q7 := HQd.out w3 hb6; clear ho6 hb6))
                all_goals (go_wp2_with fail; go_meet; exact ⟨by rw [q3]; rfl, V3⟩)
            case rest =>
              obtain ⟨rfl, V7⟩ := hcut
              obtain ⟨w7, hw7⟩ : ∃ x, x = wc := ⟨_, rfl⟩
              rw [← hw7] at V7 ⊢
              clear hw7 Hrec HQd qd S5w S4w q4 q5 S5 Hrl HRl hws hws2 hsh hlong
              by_cases hgood : R = r
              · have q3 : (R == r) = true := by rw [hgood]; simp
                have HSt : Hid (stepR (rows.length + 1) q = some (x, b.drop (z + 20 + n))) := by
                  show _ = _
                  unfold stepR
                  rw [Hnx.out]
                  dsimp only
                  rw [Hrx.out, if_pos ⟨HLo.out, by rw [← hgood, HR.out]⟩]
                clear hgood
                rw [q3]
                have hxl := Hxl.out
                subst hxl
                have HZn : Hid (z + 20 + x.length ≤ b.length) := hzn
                have S47 : Hid (Sees w7 w7.heap.size A4 x) := ((S4.out.s.more HBW.out).later V7.out).more V7.out.size
                have O7 : Hid (w7.ownsRow w.heap.size 39 1 (.slice A1 rows.length c1) rows.length (rowsC rows)) := (SAd.out.below V7.out).o
                have HB7 : Hid (w.heap.size ≤ w7.heap.size) := Nat.le_trans HBW.out V7.out.size
                obtain ⟨j0, hj0, hy0, hy1, hy2⟩ := info_parts Tryd.u8info
                obtain ⟨i0, hi, hz0, hz1, hz2⟩ := infoD Tryd.slInfo
                clear hzn
                go_wp2_with (first
                  | ((with_reducible show wpList _ _ _ (⟨some 79, _, _, _, _, _⟩ :: _) _ _); refine wpList_append_sees rfl (.const (.slice none 0 0)) (.tmp 78) 39 rfl w7.heap.size 5 j0 (.int .u8 0) Tryd.underlying39 hj0 hy0 hy1 hy2 rfl (.slice none 0 0) 0 [] rfl (World.ownsRow_nil _ _ _ _) w7.heap.size A4 x.length (c - (z + 20)) x rfl rfl S47.out (by have := HZn.out; have := HLb.out; omega) (Nat.le_refl _) ?_; intro v4 w4 ho4 hg4 hat4; obtain ⟨A9, c9, rfl⟩ := own_form ho4; have O9 : Hid ((⟨A9, c9, x⟩ : RowM).own w4) := (by show World.ownsRow _ _ _ _ (.slice A9 x.length c9) x.length (By x); rw [Nat.zero_add, List.nil_append] at ho4; exact own_lessW ho4 (Nat.zero_le _)); have N9 : Hid (∀ j, (⟨A9, c9, x⟩ : RowM).bk = some j → wd.heap.size ≤ j) := (fun j hj => Nat.le_trans V7.out.size (own_lt ho4 j (by rw [own_blkD]; exact hj)).1); have V4 : Hid (Below wd.heap.size wd w4) := nxTrD V7.out ((nxRefl w7).grown hg4 (Nat.le_refl _) (fun j hj => by cases hj)); rw [Nat.zero_add]; (have HO4 : Hid (w4.ownsRow w.heap.size 39 1 (.slice A1 rows.length c1) rows.length (rowsC rows)) := (SAd.out.below V4.out).o); have HB4 : Hid (w.heap.size ≤ w4.heap.size) := Nat.le_trans HBW.out V4.out.size; clear ho4 hg4 hat4)
                  | ((with_reducible show wpList _ _ _ (⟨some 81, _, _, _, _, _⟩ :: _) _ _); refine wpList_append_seesV rfl (.tmp 77) (.tmp 80) 43 rfl w.heap.size 39 i0 (.slice none 0 0) 1 24 Tryd.underlying43 hi hz0 hz1 hz2 rfl (by omega) (.slice A1 rows.length c1) rows.length (rowsC rows) rfl (HO4.out.alloc _) _ (some ⟨w4.heap.size, 0, none⟩) 1 1 [.slice A9 x.length c9] rfl rfl (SeesV.blk (heap_alloc_new w4 (.cells #[.slice A9 x.length c9] 39))) (fun u hu => by rw [List.mem_singleton.1 hu]; rfl) (by have := HN20.out; have := HLb.out; have := HZl.out; omega) (by have := HN20.out; have := HLb.out; have := HZl.out; omega) (by have := HB4.out; rw [World.size_alloc]; omega) ?_; intro v8 w8 ho8 hg8 hat8; obtain ⟨A8, c8, rfl⟩ := own_form ho8; have SA8 := Lib.hid (SAd.out.next HSt.out V4.out O9.out N9.out #[.slice A9 x.length c9] 39 ho8 hg8); clear ho8 hg8 hat8))
                rw [HA.out]
                go_roundw
                case rel => exact ⟨rows ++ [⟨A9, c9, x⟩], A8, c8, z + 20 + x.length, by rw [List.length_append]; rfl, congrArg (Value.int .i64) (by omega), HZn.out, (by show _ = sizeL _; rw [List.map_append]; show _ = sizeL (_ ++ [x]); rw [sizeL_snoc, ← HZ.out]; omega), SA8⟩
                case measure => (have hq1 := HZn.out; simp [intOf] <;> omega)
              · have q3 : (R == r) = false := beq_eq_false_iff_ne.2 hgood
                have HBad : Hid (stepR (rows.length + 1) q = none) := by
                  show _ = _
                  unfold stepR
                  rw [Hnx.out]
                  dsimp only
                  rw [if_neg]
                  intro h
                  rw [Hrx.out, HR.out] at h
                  exact hgood h.2.symm
                clear hgood
                rw [q3]
                go_wp2
                go_ret2
                exact (SAd.out.below V7.out).fin HBad.out _ (by rw [HZ.out])
    · have h20i : ¬ (((z + 20 : Nat) : Int)) ≤ (b.length : Int) := by omega
      have HBad : Hid (stepR (rows.length + 1) q = none) := by
        show _ = _
        unfold stepR nextR
        rw [if_neg (by have := HQl.out; omega)]
      go_wp2
      go_ret2
      exact SA.out.fin HBad.out _ (by rw [HZ.out])
end Go.Proofs.YthamlphebnhcpaaDoor
