/-
  The document's Sum.
-/
import Derived.Test.YthamlphebnhcpaaDoorEnd
import Derived.Test.YthamlphebnhcpaaDoorRPs
namespace Go.Proofs.YthamlphebnhcpaaDoor
open Go.RowKit

theorem Tryd.u8info : (Tryd.prog.info? 5).map (fun i => (i.zero, i.size, i.bytes)) = some (some (.int .u8 0), 1, 1) := by kernel_rfl
theorem info_parts {P : Program} {t : TypeId} {z : Value} {s b : Nat} (h : (P.info? t).map (fun i => (i.zero, i.size, i.bytes)) = some (some z, s, b)) :
    ∃ i, P.info? t = some i ∧ i.zero = some z ∧ i.size = s ∧ i.bytes = b := by
  cases hq : P.info? t with
  | none => rw [hq] at h; cases h
  | some i =>
    rw [hq] at h
    have : (i.zero, i.size, i.bytes) = (some z, s, b) := by simpa using h
    exact ⟨i, rfl, by rw [Prod.mk.injEq, Prod.mk.injEq] at this; exact this.1, by rw [Prod.mk.injEq, Prod.mk.injEq] at this; exact this.2.1, by rw [Prod.mk.injEq, Prod.mk.injEq] at this; exact this.2.2⟩

/-- The message and the first bytes of its padding. -/
def mpad (m : List UInt8) (z : Nat) : List UInt8 := m ++ 128 :: List.replicate z 0
theorem mpad_len (m : List UInt8) (z : Nat) : (mpad m z).length = m.length + 1 + z := by simp [mpad]; omega
theorem mpad_succ (m : List UInt8) (z : Nat) : mpad m z ++ [0] = mpad m (z + 1) := by
  simp [mpad, List.replicate_succ']
def npad (m : List UInt8) (k : Nat) : List UInt8 := mpad m (noughts m.length) ++ (be8 (8 * m.length)).take k
theorem npad_full (m : List UInt8) : npad m 8 = m ++ padB m.length := by
  have e : (be8 (8 * m.length)).take 8 = be8 (8 * m.length) := rfl
  rw [npad, mpad, e, padB]
  simp
theorem npad_len (m : List UInt8) (k : Nat) (h : k ≤ 8) : (npad m k).length = m.length + 1 + noughts m.length + k := by
  rw [npad, List.length_append, mpad_len, List.length_take, be8_length]; omega
theorem npad_succ (m : List UInt8) (k : Nat) (h : k < 8) : npad m k ++ [UInt8.ofNat (8 * m.length / 256 ^ (7 - k))] = npad m (k + 1) := by
  have hb : (be8 (8 * m.length)).take (k + 1) = (be8 (8 * m.length)).take k ++ [UInt8.ofNat (8 * m.length / 256 ^ (7 - k))] := by
    rw [List.take_succ_eq_append_getElem (by rw [be8_length]; exact h)]
    simp [be8]
  rw [npad, npad, hb, List.append_assoc]

theorem s8same (s r : S8) : (Wd s.list).toArray.size = (Wd r.list).toArray.size := rfl
theorem noughts_go (n z : Nat) (h : z < noughts n) : (n + 1 + z) % 64 ≠ 56 := by unfold noughts at h; omega
theorem noughts_end (n : Nat) : (n + 1 + noughts n) % 64 = 56 := by unfold noughts; omega
theorem stB_get (s : S8) : ∀ (k : Nat), k < 32 → (stB s).getD k 0 = (wordB (s.list.getD (k / 4) 0)).getD (k % 4) 0
  | 0, _ => rfl
  | 1, _ => rfl
  | 2, _ => rfl
  | 3, _ => rfl
  | 4, _ => rfl
  | 5, _ => rfl
  | 6, _ => rfl
  | 7, _ => rfl
  | 8, _ => rfl
  | 9, _ => rfl
  | 10, _ => rfl
  | 11, _ => rfl
  | 12, _ => rfl
  | 13, _ => rfl
  | 14, _ => rfl
  | 15, _ => rfl
  | 16, _ => rfl
  | 17, _ => rfl
  | 18, _ => rfl
  | 19, _ => rfl
  | 20, _ => rfl
  | 21, _ => rfl
  | 22, _ => rfl
  | 23, _ => rfl
  | 24, _ => rfl
  | 25, _ => rfl
  | 26, _ => rfl
  | 27, _ => rfl
  | 28, _ => rfl
  | 29, _ => rfl
  | 30, _ => rfl
  | 31, _ => rfl
  | n + 32, h => by omega
theorem wordB_get (x : W32) (r : Nat) (h : r < 4) : (x.toNat : Int) / 2 ^ (24 - 8 * r) % 256 = (((wordB x).getD r 0).toNat : Int) := by
  have : r = 0 ∨ r = 1 ∨ r = 2 ∨ r = 3 := by omega
  have hx := x.isLt
  rcases this with rfl | rfl | rfl | rfl
  · show (x.toNat : Int) / 16777216 % 256 = ((UInt8.ofNat (x.toNat / 16777216)).toNat : Int)
    rw [UInt8.toNat_ofNat']; omega
  · show (x.toNat : Int) / 65536 % 256 = ((UInt8.ofNat (x.toNat / 65536)).toNat : Int)
    rw [UInt8.toNat_ofNat']; omega
  · show (x.toNat : Int) / 256 % 256 = ((UInt8.ofNat (x.toNat / 256)).toNat : Int)
    rw [UInt8.toNat_ofNat']; omega
  · show (x.toNat : Int) / 1 % 256 = ((UInt8.ofNat x.toNat).toNat : Int)
    rw [UInt8.toNat_ofNat']; omega
/-- A hash of which the first k bytes are put. -/
def hTo (l : List UInt8) (k : Nat) : List UInt8 := l.take k ++ List.replicate (32 - k) 0
theorem hTo_len (l : List UInt8) (h : l.length = 32) (k : Nat) (hk : k ≤ 32) : (hTo l k).length = 32 := by
  rw [hTo, List.length_append, List.length_take, List.length_replicate]; omega
theorem hTo_set (l : List UInt8) (h : l.length = 32) (k : Nat) (hk : k < 32) : (By (hTo l k)).toArray.setIfInBounds k (.int .u8 ((l.getD k 0).toNat : Int)) = (By (hTo l (k + 1))).toArray := by
  have e : 32 - k = (32 - (k + 1)) + 1 := by omega
  have hl : (By (l.take k)).length = k := by rw [By_length, List.length_take]; omega
  unfold hTo
  rw [e, List.replicate_succ, By_append, List.setIfInBounds_toArray, List.set_append_right _ _ (by omega), hl, Nat.sub_self, List.take_succ_eq_append_getElem (by omega)]
  have hg : l.getD k 0 = l[k]'(by omega) := by simp [show k < l.length by omega]
  rw [hg]
  simp only [By, List.map_append, List.map_cons, List.append_assoc, List.cons_append, List.nil_append, List.set_cons_zero]
theorem hTo_full (l : List UInt8) (h : l.length = 32) : hTo l 32 = l := by
  rw [hTo, ← h, List.take_length, Nat.sub_self]; simp
theorem slice_lh (A : Option Addr) (n c l h : Nat) (hl : l ≤ h) (hh : h ≤ c) (x y : Int) (hx : x = l) (hy : y = h) (wq : World) :
    (Instr.slice 39 (.slice A n c) (some (.int .i64 x)) (some (.int .i64 y)) none).run Tryd.prog wq = .ok (.slice (if c = l then A else A.map (·.add l)) (h - l) (c - l)) wq := by
  subst hx hy
  obtain ⟨i, hi, hs⟩ := u8size_info
  simp [Instr.slice, run_underlying Tryd.underlying39, Instr.sliceBounds, run_sliceBound wq .i64 (h : Int) c _ (by omega) (by omega), run_sliceBound wq .i64 (l : Int) h _ (by omega) (by omega), sizeOf, typeInfo, hi, hs]
theorem Sees.part {w : World} {B : Nat} {A : Option Addr} {p : List UInt8} (h : Sees w B A p) (l c n : Nat) (hc : p.length ≤ c) : Sees w B (if c = l then A else A.map (·.add l)) ((p.drop l).take n) := by
  split
  · rw [List.drop_eq_nil_of_le (by omega)]; exact .inl (by simp)
  · exact (h.drop l).take n
theorem own_cap {w : World} {base : Nat} {e : TypeId} {n c : Nat} {A : Option Addr} {xs : List Value} (h : w.ownsRow base e 1 (.slice A n c) n xs) : n ≤ c := by
  rcases h.2 with ⟨hv, h0⟩ | ⟨g, cap, cur, hv, hb, hh, hnc, r⟩
  · injection hv with _ _ hc; omega
  · injection hv with _ _ hc; omega

set_option maxHeartbeats 1000000 in
set_option maxRecDepth 100000 in
theorem rsum_any (w : World) (A : Option Addr) (n c : Nat) (m : List UInt8) (hn : n = m.length) (hS : Sees w w.heap.size A m) (hmax : n ≤ 1048576) :
    Calls Tryd.prog 81 #[.slice A n c] w fun e w' => e = .returned (.agg (By (shaB m)).toArray) ∧ Below w.heap.size w w' := by
  subst hn
  have HS := Lib.hid hS
  have HZ0 := Lib.hid (Tryd.hsizeB (shaB m) rfl)
  have B0 : Hid (Blk (w.alloc (.cells (By zero32).toArray 107)) w.heap.size 107 (By zero32).toArray) := Blk.newAt rfl rfl
  have HbA : Hid (Below w.heap.size w (w.alloc (.cells (By zero32).toArray 107))) := (Below.refl _ _).alloc (Nat.le_refl _) _
  have HsA : Hid ((w.alloc (.cells (By zero32).toArray 107)).heap.size = w.heap.size + 1) := by show _ = _; simp
  clear hS
  obtain ⟨i0, hi, hz0, hz1, hz2⟩ := info_parts Tryd.u8info
  have hnl := noughts_lt m.length
  have HSA : Hid (Sees (w.alloc (.cells (By zero32).toArray 107)) w.heap.size A m) := HS.out.alloc _
  go_enter Tryd.func81, Tryd.ntmps81
  go_wp2_with (first
    | ((with_reducible show wpList _ _ _ (⟨some 12, _, _, _, _, _⟩ :: _) _ _); refine wpList_append_sees rfl (.const (.slice none 0 0)) (.tmp 11) 39 rfl (w.heap.size + 1) 5 i0 (.int .u8 0) Tryd.underlying39 hi hz0 hz1 hz2 rfl (.slice none 0 0) 0 [] rfl ⟨rfl, .inl ⟨rfl, rfl⟩⟩ w.heap.size A m.length c m rfl rfl HSA.out (by omega) (by have := HsA.out; exact Nat.le_of_eq this.symm) ?_; intro v1 w1 ho1 hg1 hat1; simp only [Nat.zero_add, List.nil_append] at ho1; obtain ⟨A1, c1, rfl⟩ := own_form ho1; have HO1 := Lib.hid ho1; have Hb1 : Hid (Below (w.heap.size + 1) (w.alloc (.cells (By zero32).toArray 107)) w1) := ((Below.refl _ _).grown hg1 (Nat.le_of_eq HsA.out.symm) (fun j hj => by cases hj)); have hs1 : w.heap.size + 1 ≤ w1.heap.size := (by have := Hb1.out.size; rw [HsA.out] at this; exact this); clear ho1 hg1 hat1)
    | ((with_reducible show wpList _ _ _ (⟨some 14, _, _, _, _, _⟩ :: _) _ _); refine wpList_append_sees rfl (.tmp 12) (.tmp 13) 39 rfl (w.heap.size + 1) 5 i0 (.int .u8 0) Tryd.underlying39 hi hz0 hz1 hz2 rfl (.slice A1 m.length c1) m.length (By m) rfl (HO1.out.alloc _) (w1.heap.size + 1) (some ⟨w1.heap.size, 0, none⟩) 1 1 [128] rfl rfl (Sees.lit w1 [128] 5) (by omega) (by simp only [World.size_alloc]; omega) ?_; intro v2 w2 ho2 hg2 hat2; obtain ⟨A2, c2, rfl⟩ := own_form ho2; have HO2 : Hid (w2.ownsRow (w.heap.size + 1) 5 1 (.slice A2 (m.length + 1) c2) (m.length + 1) (By (mpad m 0))) := (by show World.ownsRow _ _ _ _ _ _ _; rw [mpad, By_append]; exact ho2); have Hb2 : Hid (Below (w.heap.size + 1) (w.alloc (.cells (By zero32).toArray 107)) w2) := ((Hb1.out.alloc hs1 _).grown hg2 (by simp only [World.size_alloc]; omega) (fun j hj => (HO1.out.lt j hj).1)); clear ho2 hg2 hat2))
  go_loopw [3] (fun v wr => ∃ (z : Nat) (A1 : Option Addr) (c1 : Nat), z ≤ noughts m.length ∧ v = .slice A1 (m.length + 1 + z) c1 ∧ Hid (wr.ownsRow (w.heap.size + 1) 5 1 (.slice A1 (m.length + 1 + z) c1) (m.length + 1 + z) (By (mpad m z))) ∧ Hid (Below (w.heap.size + 1) (w.alloc (.cells (By zero32).toArray 107)) wr)) (fun v _ => match v with | .slice _ n _ => m.length + 1 + noughts m.length - n | _ => 0)
  case atStart => exact ⟨0, A2, c2, Nat.zero_le _, rfl, HO2.out, Hb2.out⟩
  case round =>
    clear HO1 HO2 Hb1 Hb2 hs1
    obtain ⟨z, A1, c1, hz, rfl, HO, Hbl⟩ := hrel
    have hs1 : w.heap.size + 1 ≤ wr.heap.size := by have := Hbl.out.size; rw [HsA.out] at this; exact this
    by_cases hlt : z < noughts m.length
    · have hne := noughts_go m.length z hlt
      have hne' : (((m.length + 1 + z : Nat) : Int) % 64 != 56) = true := by simp; omega
      go_wp2_with ((with_reducible show wpList _ _ _ (⟨some 21, _, _, _, _, _⟩ :: _) _ _); refine wpList_append_sees rfl (.tmp 19) (.tmp 20) 39 rfl (w.heap.size + 1) 5 i0 (.int .u8 0) Tryd.underlying39 hi hz0 hz1 hz2 rfl (.slice A1 (m.length + 1 + z) c1) (m.length + 1 + z) (By (mpad m z)) rfl (HO.out.alloc _) (wr.heap.size + 1) (some ⟨wr.heap.size, 0, none⟩) 1 1 [0] rfl rfl (Sees.lit wr [0] 5) (by omega) (by simp only [World.size_alloc]; omega) ?_; intro v2 w2 ho2 hg2 hat2; obtain ⟨A2, c2, rfl⟩ := own_form ho2; have HO2 : Hid (w2.ownsRow (w.heap.size + 1) 5 1 (.slice A2 (m.length + 1 + z + 1) c2) (m.length + 1 + z + 1) (By (mpad m (z + 1)))) := (by show World.ownsRow _ _ _ _ _ _ _; rw [← mpad_succ, By_append]; exact ho2); have Hb2 : Hid (Below (w.heap.size + 1) (w.alloc (.cells (By zero32).toArray 107)) w2) := ((Hbl.out.alloc hs1 _).grown hg2 (by simp only [World.size_alloc]; omega) (fun j hj => (HO.out.lt j hj).1)); clear ho2 hg2 hat2)
      go_roundw
      case rel => exact ⟨z + 1, A2, c2, by omega, rfl, HO2.out, Hb2.out⟩
      case measure => simp; omega
    · obtain rfl : z = noughts m.length := by omega
      have heq := noughts_end m.length
      have HO' : Hid (wr.ownsRow (w.heap.size + 1) 5 1 (.slice A1 (m.length + 1 + noughts m.length + 0) c1) (m.length + 1 + noughts m.length + 0) (By (npad m 0))) := by
        show World.ownsRow _ _ _ _ _ _ _
        rw [npad, List.take_zero, List.append_nil]
        exact HO.out
      go_wp2
      have e8 : ((m.length : Int) * 8) = ((8 * m.length : Nat) : Int) := by omega
      rw [e8]
      clear e8 HO heq
      generalize (((m.length : Int) + 1 + (noughts m.length : Int)) % 64 != 56) = bb
      generalize noughts m.length = z at *
      go_loopw [3, 5] (fun v i wr => ∃ (k : Nat) (A1 : Option Addr) (c1 : Nat), k ≤ 8 ∧ i = .int .i64 (7 - (k : Int)) ∧ v = .slice A1 (m.length + 1 + z + k) c1 ∧ Hid (wr.ownsRow (w.heap.size + 1) 5 1 (.slice A1 (m.length + 1 + z + k) c1) (m.length + 1 + z + k) (By (npad m k))) ∧ Hid (Below (w.heap.size + 1) (w.alloc (.cells (By zero32).toArray 107)) wr)) (fun _ i _ => (intOf i + 1).toNat)
      case atStart => exact ⟨0, A1, c1, by omega, rfl, rfl, HO'.out, Hbl.out⟩
      case round =>
        clear HO' Hbl hs1
        obtain ⟨k, A1, c1, hk, rfl, rfl, HO, Hbl⟩ := hrel
        have hs1 : w.heap.size + 1 ≤ wr.heap.size := by have := Hbl.out.size; rw [HsA.out] at this; exact this
        by_cases hk8 : k < 8
        · have HN := Lib.hid (npad_succ m k hk8)
          have HBP := Lib.hid (byte_pow (8 * m.length) (7 - k))
          have hNb : 8 * m.length ≤ 8388608 := by omega
          generalize 8 * m.length = N at *
          go_wp2_with ((with_reducible show wpList _ _ _ (⟨some 38, _, _, _, _, _⟩ :: _) _ _); rw [HBP.out]; refine wpList_append_sees rfl (.tmp 30) (.tmp 37) 39 rfl (w.heap.size + 1) 5 i0 (.int .u8 0) Tryd.underlying39 hi hz0 hz1 hz2 rfl (.slice A1 (m.length + 1 + z + k) c1) (m.length + 1 + z + k) (By (npad m k)) rfl (HO.out.alloc _) (wr.heap.size + 1) (some ⟨wr.heap.size, 0, none⟩) 1 1 [UInt8.ofNat (N / 256 ^ (7 - k))] rfl rfl (Sees.lit wr [UInt8.ofNat (N / 256 ^ (7 - k))] 5) (by omega) (by simp only [World.size_alloc]; omega) ?_; intro v2 w2 ho2 hg2 hat2; obtain ⟨A2, c2, rfl⟩ := own_form ho2; have HO2 : Hid (w2.ownsRow (w.heap.size + 1) 5 1 (.slice A2 (m.length + 1 + z + k + 1) c2) (m.length + 1 + z + k + 1) (By (npad m (k + 1)))) := (by show World.ownsRow _ _ _ _ _ _ _; rw [← HN.out, By_append]; exact ho2); have Hb2 : Hid (Below (w.heap.size + 1) (w.alloc (.cells (By zero32).toArray 107)) w2) := ((Hbl.out.alloc hs1 _).grown hg2 (by simp only [World.size_alloc]; omega) (fun j hj => (HO.out.lt j hj).1)); clear ho2 hg2 hat2)
          go_roundw
          case rel => exact ⟨k + 1, A2, c2, by omega, by go_num, rfl, HO2.out, Hb2.out⟩
          case measure => simp [intOf]; omega
        · obtain rfl : k = 8 := by omega
          rw [npad_full] at HO
          have hPl : (m ++ padB m.length).length = m.length + 1 + z + 8 := by
            have h := HO.out.1
            rw [By_length, Nat.mul_one] at h
            exact h
          have HPm : Hid ((m ++ padB m.length).length % 64 = 0) := by show _ = _; rw [List.length_append]; exact pad_mod _
          have HPs : Hid (shaB m = stB (runs start8 (m ++ padB m.length) ((m ++ padB m.length).length / 64))) := by show _ = _; rw [shaB, List.length_append]
          rw [← hPl] at HO
          have hcap : (m ++ padB m.length).length ≤ c1 := own_cap HO.out
          have HPl := Lib.hid hPl
          have hP1 : (m ++ padB m.length).length ≤ 1048576 + 128 := by omega
          clear hPl
          have HSe := Lib.hid (Sees.own HO.out)
          clear HO
          rw [← HPl.out]
          clear HPl
          generalize m ++ padB m.length = p at *
          go_wp2_with (first
            | (go_at_call 87; refine (rstarts_any _).mono ?_; rintro e w3 ⟨rfl, hb3⟩; have HS3 := Lib.hid (HSe.out.below hb3); have Hb3 : Hid (Below (w.heap.size + 1) (w.alloc (.cells (By zero32).toArray 107)) w3) := Hbl.out.trans (hb3.mono hs1); have hs3 : wr.heap.size ≤ w3.heap.size := hb3.size; clear hb3)
            | ((with_reducible show wpList _ _ _ (⟨none, .store 121 _ _, _, _, _, _⟩ :: _) _ _); refine wpList_store_all rfl 121 (.tmp 6) (.tmp 39) rfl w3.heap.size 121 (Wd (mixS ⟨0, 0, 0, 0, 0, 0, 0, 0⟩ start8 0)).toArray (Wd start8.list).toArray rfl rfl (Blk.newAt rfl rfl) rfl (s8size _) (Wd_one _) ?_; intro w4 h5 h6 h7; have HT4 := Lib.hid h5; have b4 := ((Below.refl w3.heap.size w3).alloc (Nat.le_refl _) _).trans (h6.below (by simp) (fun k hk => by omega)); have HS4 := Lib.hid (HS3.out.below (b4.mono hs3)); have Hb4 : Hid (Below (w.heap.size + 1) (w.alloc (.cells (By zero32).toArray 107)) w4) := Hb3.out.trans (b4.mono (by omega)); clear h5 h6 h7 b4))
          have hsT : wr.heap.size ≤ w3.heap.size := hs3
          generalize w3.heap.size = T at *
          generalize hB : wr.heap.size = B at *
          clear hB
          go_loopw [7] (fun i wr => ∃ q : Nat, 64 * q ≤ p.length ∧ i = .int .i64 ((64 * q : Nat) : Int) ∧ Hid (Blk wr T 121 (Wd (runs start8 p q).list).toArray) ∧ Hid (Sees wr B A1 p) ∧ Hid (Below (w.heap.size + 1) (w.alloc (.cells (By zero32).toArray 107)) wr)) (fun i _ => p.length - (intOf i).toNat)
          case atStart => exact ⟨0, by omega, rfl, HT4.out, HS4.out, Hb4.out⟩
          case round =>
            clear HT4 HS4 Hb4 HS3 Hb3 HSe Hbl
            obtain ⟨q, hq, rfl, HT, HSe, Hbl⟩ := hrel
            have hsr : T < wr.heap.size := HT.out.lt
            by_cases hlt : 64 * q < p.length
            · have hq64 : 64 * q + 64 ≤ p.length := by have := HPm.out; omega
              generalize ho : 64 * q = o at *
              have Ho := Lib.hid ho
              clear ho
              obtain ⟨o2, ho2⟩ : ∃ o2, o2 = o + 64 := ⟨_, rfl⟩
              have hwo : IntKind.i64.wrap ((o : Int) + 64) = (o2 : Int) := by rw [IntKind.wrap_i64]; omega
              have qs := slice_lh A1 p.length c1 o o2 (by omega) (by omega) (o : Int) (o2 : Int) rfl rfl
              rw [show o2 - o = 64 by omega] at qs
              have Ho2 := Lib.hid ho2
              clear ho2
              have HSp : Hid (Sees wr B (if c1 = o then A1 else A1.map (·.add o)) ((p.drop o).take 64)) := HSe.out.part o c1 64 hcap
              generalize (if c1 = o then A1 else A1.map (·.add o)) = A5 at *
              have hch : ((p.drop o).take 64).length = 64 := by rw [List.length_take, List.length_drop]; omega
              have HRu : Hid (runs start8 p (q + 1) = press (runs start8 p q) ((p.drop o).take 64)) := by show _ = _; rw [runs, Ho.out]
              generalize runs start8 p q = st at *
              generalize (p.drop o).take 64 = ch at *
              have HC := Lib.hid hch
              clear hch
              go_wp2
              have HG : Hid (Blk (wr.alloc (.cells (By (List.replicate 64 0)).toArray 122)) wr.heap.size 122 (By (List.replicate 64 0)).toArray) := Blk.newAt rfl rfl
              have HT5 := Lib.hid (HT.out.alloc (.cells (By (List.replicate 64 0)).toArray 122))
              have HS5 := Lib.hid (HSe.out.alloc (.cells (By (List.replicate 64 0)).toArray 122))
              have HP5 := Lib.hid (HSp.out.alloc (.cells (By (List.replicate 64 0)).toArray 122))
              have Hb5 := Lib.hid (Hbl.out.alloc (by omega) (.cells (By (List.replicate 64 0)).toArray 122))
              change Code.wp _ _ _ _ (wr.alloc (.cells (By (List.replicate 64 0)).toArray 122))
              have hs5 : wr.heap.size < (wr.alloc (.cells (By (List.replicate 64 0)).toArray 122)).heap.size := by simp
              have HZ64 : Hid ((List.replicate 64 (0 : UInt8)).length = 64) := rfl
              generalize List.replicate 64 (0 : UInt8) = zz at *
              generalize wr.alloc (.cells (By zz).toArray 122) = w5 at *
              generalize wr.heap.size = G at *
              clear HT HSe HSp Hbl
              go_region_law (refine step_copy_sees rfl (.tmp 46) (.tmp 51) 39 39 rfl 5 Tryd.underlying39 Tryd.u8size G 64 64 (by simp [Act.eval, Act.put]) 122 zz HG.out (Nat.le_of_eq HZ64.out.symm) A5 64 (c1 - o) (by simp [Act.eval, Act.put]) _ ch HP5.out HC.out.symm ?_; intro w6 h1 h2 h3; have HG6 : Hid (Blk w6 G 122 (By ch).toArray) := (by have h := h1; rw [← HZ64.out, over_all zz ch (HC.out.trans HZ64.out.symm)] at h; exact h); have HT6 := Lib.hid ((show Blk w5.drew _ _ _ from HT5.out).keeps h2 (by omega)); have b6 : Below G w5 w6 := (show Below G w5 w6 from ⟨h2.os, h2.tape, h2.output, h2.size, fun k hk => h2.block k (by show k < w5.heap.size; omega) (by omega)⟩); have HS6 := Lib.hid (HS5.out.below (b6.mono (by omega))); have Hb6 := Lib.hid (Hb5.out.trans (b6.mono (by omega))); have hs6 : G < w6.heap.size := HG6.out.lt; clear h1 h2 h3 b6)
              all_goals
                have HK6 : Hid ((Tryd.prog.info? 122).map (·.size) = some (By ch).toArray.size) := by show _ = _; rw [Tryd.b64size, List.size_toArray, By_length, HC.out]
                go_wp2_with (first
                  | ((with_reducible show wpList _ _ _ (⟨some 53, _, _, _, _, _⟩ :: _) _ _); refine wpList_load_row rfl 121 (.tmp 6) rfl T rfl 121 (Wd st.list).toArray (0, 0) _ HT6.out Tryd.underlying121 rfl (s8size _) ?_)
                  | ((with_reducible show wpList _ _ _ (⟨some 54, _, _, _, _, _⟩ :: _) _ _); refine wpList_load_row rfl 122 (.tmp 8) rfl G rfl 122 (By ch).toArray (0, 0) _ HG6.out Tryd.underlying122 rfl HK6.out ?_)
                  | (go_at_call 88; refine (rpress_any _ st ch HC.out).mono ?_; rintro e w7 ⟨rfl, hb7⟩; have HT7 := Lib.hid (HT6.out.below hb7 HT6.out.lt); have HS7 := Lib.hid (HS6.out.below (hb7.mono (by omega))); have Hb7 := Lib.hid (Hb6.out.trans (hb7.mono (by omega))); clear hb7)
                  | ((with_reducible show wpList _ _ _ (⟨none, .store 121 _ _, _, _, _, _⟩ :: _) _ _); refine wpList_store_all rfl 121 (.tmp 6) (.tmp 55) rfl T 121 (Wd st.list).toArray (Wd (press st ch).list).toArray rfl rfl HT7.out (s8same st (press st ch)) (s8size (press st ch)) (Wd_one (press st ch).list) ?_; intro w8 h5 h6 h7; have HT8 := Lib.hid h5; have hs7 := HT7.out.lt; have HS8 := Lib.hid (HS7.out.keep (fun ad hp => h6.cell (by omega) (by omega))); have Hb8 := Lib.hid (Hb7.out.trans (h6.below (by omega) (fun k hk => by omega))); clear h5 h6 h7))
                go_roundw
                case rel => exact ⟨q + 1, by have := Ho.out; omega, congrArg (Value.int .i64) (by have := Ho.out; have := Ho2.out; omega), by show Blk _ _ _ _; rw [HRu.out]; exact HT8.out, HS8.out, Hb8.out⟩
                case measure => have := Ho2.out; simp [intOf]; omega
            · have hqe : q = p.length / 64 := by omega
              have HQ : Hid (shaB m = stB (runs start8 p q)) := by show _ = _; rw [HPs.out, hqe]
              clear hqe HSe
              generalize runs start8 p q = st at *
              rw [HQ.out] at HZ0
              have hstl : (stB st).length = 32 := rfl
              have Hst := Lib.hid hstl
              clear hstl
              have HPost : Hid (∀ W, Below w.heap.size w W → (Ending.returned (.agg (By (stB st)).toArray) = .returned (.agg (By (shaB m)).toArray) ∧ Below w.heap.size w W)) := fun W hW => ⟨by rw [HQ.out], hW⟩
              go_wp2
              have HT5 := Lib.hid (HT.out.alloc (.cells (By zero32).toArray 107))
              have Hb5 := Lib.hid (Hbl.out.alloc (by omega) (.cells (By zero32).toArray 107))
              have HH5 : Hid (Blk (wr.alloc (.cells (By zero32).toArray 107)) wr.heap.size 107 (By zero32).toArray) := Blk.newAt rfl rfl
              change Code.wp _ _ _ _ (wr.alloc (.cells (By zero32).toArray 107))
              generalize wr.alloc (.cells (By zero32).toArray 107) = w5 at *
              have HH0 : Hid (hTo (stB st) 0 = zero32) := rfl
              generalize wr.heap.size = G at *
              clear HT Hbl
              go_loopw [10] (fun i wr => ∃ k : Nat, k ≤ 32 ∧ i = .int .i64 k ∧ Hid (Blk wr T 121 (Wd st.list).toArray) ∧ Hid (Blk wr G 107 (By (hTo (stB st) k)).toArray) ∧ Hid (Below (w.heap.size + 1) (w.alloc (.cells (By zero32).toArray 107)) wr)) (fun i _ => 32 - (intOf i).toNat)
              case atStart => exact ⟨0, by omega, rfl, HT5.out, by show Blk _ _ _ _; rw [HH0.out]; exact HH5.out, Hb5.out⟩
              case round =>
                clear HT5 HH5 Hb5 HH0
                obtain ⟨k, hk, rfl, HT, HH, Hbl⟩ := hrel
                by_cases hlt : k < 32
                · have c0 := blk_word HT.out (k / 4) (by rw [S8.list_length]; omega)
                  obtain ⟨qq, c1⟩ := blk_some HH.out k (by rw [hTo_len _ Hst.out _ hk]; exact hlt)
                  have c2 := HH.out.frozen k
                  have HM := Lib.hid (hTo_set (stB st) Hst.out k hlt)
                  rw [stB_get st k hlt] at HM
                  generalize st.list.getD (k / 4) 0 = x at *
                  have HWG := Lib.hid (wordB_get x (k % 4) (by omega))
                  go_wp2
                  go_roundw
                  case rel =>
                    rw [HWG.out]
                    refine ⟨k + 1, by omega, by go_num, HT.out.far (by dsimp only; omega) _, ?_, Hbl.out.setCell (by dsimp only; omega) _⟩
                    show Blk _ _ _ _
                    rw [← HM.out]
                    exact HH.out.set k _
                  case measure => simp [intOf]; omega
                · obtain rfl : k = 32 := by omega
                  have HH' : Hid (Blk wr G 107 (By (stB st)).toArray) := by show Blk _ _ _ _; have h := HH.out; rw [hTo_full _ Hst.out] at h; exact h
                  have hsz := HH.out.lt
                  have B0' := Lib.hid (B0.out.below Hbl.out (by omega))
                  have Hbe := Lib.hid (HbA.out.trans (Hbl.out.mono (by omega)))
                  have hbs := Hbe.out.size
                  clear HH B0 Hbl
                  go_wp2_with (first
                    | ((with_reducible show wpList _ _ _ (⟨some 73, _, _, _, _, _⟩ :: _) _ _); refine wpList_load_row rfl 107 (.tmp 9) rfl G rfl 107 (By (stB st)).toArray (0, 0) _ HH'.out Tryd.underlying107 rfl HZ0.out ?_)
                    | ((with_reducible show wpList _ _ _ (⟨none, _, _, _, _, _⟩ :: _) _ _); refine wpList_store_all rfl 107 (.tmp 2) (.tmp 73) rfl w.heap.size 107 (By zero32).toArray (By (stB st)).toArray rfl rfl B0'.out rfl HZ0.out (By_one _) ?_; intro w8 h5 h6 h7; have H5 := Lib.hid h5; have H6 := Lib.hid h6; clear h5 h6 h7))
                  refine bodyPost_ret (results_cell_row Tryd.results81 _ _ w.heap.size 107 _ (0, 0) _ rfl H5.out Tryd.underlying107 rfl HZ0.out) rfl (HPost.out _ ?_)
                  exact Hbe.out.trans (H6.out.below hbs (fun k hk => by omega))

end Go.Proofs.YthamlphebnhcpaaDoor
