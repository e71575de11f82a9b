/-
  ShaTables: the walks of digits and more.
-/
import Derived.Test.YtbfahmpppkjpbaaDoorTab0
import Derived.Test.YtbfahmpppkjpbaaDoorVals
import Derived.Deep.OwnRows
import Derived.Test.YtbfahmpppkjpbaaDoorRSum
namespace Go.Proofs.YtbfahmpppkjpbaaDoor
open Go.RowKit

theorem Tryd.u64info : (Tryd.prog.info? 31).map (fun i => (i.zero, i.size, i.bytes)) = some (some (.int .u64 0), 1, 8) := by kernel_rfl
/-- Numbers as cells. -/
def Us (l : List Nat) : List Value := l.map fun (n : Nat) => .int .u64 (n : Int)
theorem Us_length (l : List Nat) : (Us l).length = l.length := by simp [Us]
theorem Us_append (l m : List Nat) : Us (l ++ m) = Us l ++ Us m := by simp [Us]
theorem Us_one (l : List Nat) : ∀ u ∈ Us l, u.oneCell' = true := by
  intro u hu
  obtain ⟨b, _, rfl⟩ := List.mem_map.1 hu
  rfl
theorem Us_mod (m : Nat) : Us [m % 65536] = [.int .u64 ((m : Int) % 65536)] := by simp [Us]
theorem Us_set (l : List Nat) (k x : Nat) : (Us l).set k (.int .u64 (x : Int)) = Us (l.set k x) := by simp [Us, List.map_set]
theorem Us_get (l : List Nat) (k : Nat) (h : k < l.length) : (Us l)[k]? = some (.int .u64 ((l.getD k 0 : Nat) : Int)) := by simp [Us, h]
theorem SeesV.u64 {w : World} {B : Nat} {A : Option Addr} {l : List Nat} (h : SeesV w B A (Us l)) {k : Nat} (hk : k < l.length) :
    ∃ b off, A = some ⟨b, off, none⟩ ∧ b < B ∧ ∀ i, i < l.length → w.cell? ⟨b, off + i, none⟩ = some (.int .u64 ((l.getD i 0 : Nat) : Int)) := by
  obtain ⟨b, off, hA, hb, hc⟩ := h.at_ (k := k) (by rw [Us_length]; exact hk)
  refine ⟨b, off, hA, hb, fun i hi => ?_⟩
  rw [hc i (by rw [Us_length]; exact hi)]
  have := Us_get l i hi
  rw [List.getElem?_eq_getElem (by rw [Us_length]; exact hi)] at this
  exact this
/-- A new block of numbers shows them. -/
theorem SeesV.lit (w : World) (vs : List Value) (t : TypeId) : SeesV (w.alloc (.cells vs.toArray t)) (w.heap.size + 1) (some ⟨w.heap.size, 0, none⟩) vs := by
  have h := SeesV.blk (w := w.alloc (.cells vs.toArray t)) (g := w.heap.size) (t := t) (cs := vs.toArray) (heap_alloc_new w _)
  exact h.more (by simp)
/-- What digits answers: a new row. -/
def RowPost (w : World) (l : List Nat) (e : Ending) (w' : World) : Prop := ∃ A c, e = .returned (.slice A l.length c) ∧ SeesV w' w'.heap.size A (Us l) ∧ Below w.heap.size w w'

set_option maxHeartbeats 1000000 in
set_option maxRecDepth 100000 in
theorem digits_any (w : World) (n : Nat) (hn : n < 18446744073709551616) :
    Calls Tryd.prog 39 #[.int .u64 (n : Int)] w (RowPost w (digL 4 n)) := by
  obtain ⟨i0, hi, hz0, hz1, hz2⟩ := info_parts Tryd.u64info
  go_enter Tryd.func39, Tryd.ntmps39
  go_wp2
  go_loopw [0, 3] (fun v d wr => ∃ (f m : Nat) (l : List Nat) (A1 : Option Addr) (c1 : Nat), l.length + f = 4 ∧ m < 65536 ^ f ∧ v = .int .u64 m ∧ d = .slice A1 l.length c1 ∧ Hid (l ++ digL f m = digL 4 n) ∧ Hid (wr.ownsRow w.heap.size 31 1 (.slice A1 l.length c1) l.length (Us l)) ∧ Hid (Below w.heap.size w wr)) (fun v _ _ => (intOf v).toNat)
  case atStart => exact ⟨4, n, [], none, 0, rfl, by omega, rfl, rfl, rfl, World.ownsRow_nil _ _ _ _, Below.refl _ _⟩
  case round =>
    obtain ⟨f, m, l, A1, c1, hf, hm, rfl, rfl, HD, HO, Hb⟩ := hrel
    have hl4 : l.length ≤ 4 := by omega
    by_cases h0 : 0 < m
    · obtain ⟨f', rfl⟩ : ∃ f', f = f' + 1 := by
        cases f with
        | zero => simp at hm; omega
        | succ f' => exact ⟨f', rfl⟩
      have HD' : Hid ((l ++ [m % 65536]) ++ digL f' (m / 65536) = digL 4 n) := by
        show _ = _
        have h := HD.out
        rw [digL, if_neg (by omega)] at h
        rw [← h, List.append_assoc]; rfl
      have hm' : Hid (m / 65536 < 65536 ^ f') := by
        show _ < _
        rw [Nat.pow_succ] at hm
        exact Nat.div_lt_of_lt_mul (by omega)
      have HF := Lib.hid hf
      clear HD hm hf
      go_wp2_with ((with_reducible show wpList _ _ _ (⟨some 12, _, _, _, _, _⟩ :: _) _ _); refine wpList_append_seesV rfl (.tmp 8) (.tmp 11) 32 rfl w.heap.size 31 i0 (.int .u64 0) 1 8 Tryd.underlying32 hi hz0 hz1 hz2 rfl (by omega) (.slice A1 l.length c1) l.length (Us l) rfl (HO.out.alloc _) (wr.heap.size + 1) (some ⟨wr.heap.size, 0, none⟩) 1 1 [.int .u64 ((m : Int) % 65536)] rfl rfl (SeesV.lit wr [.int .u64 ((m : Int) % 65536)] 31) (by intro u hu; simp at hu; subst hu; rfl) (by omega) (by omega) (by have := Hb.out.size; simp; omega) ?_; intro v2 w2 ho2 hg2 hat2; obtain ⟨A2, c2, rfl⟩ := own_form ho2; have ho3 : w2.ownsRow w.heap.size 31 1 (.slice A2 (l ++ [m % 65536]).length c2) (l ++ [m % 65536]).length (Us (l ++ [m % 65536])) := (by rw [Us_append, List.length_append, Us_mod]; exact ho2); have HO2 := Lib.hid ho3; have Hb2 : Hid (Below w.heap.size w w2) := (((Hb.out.alloc Hb.out.size _)).grown hg2 (by have := Hb.out.size; simp; omega) (fun j hj => (own_lt HO.out j hj).1)); clear ho2 ho3 hg2 hat2)
      go_roundw
      case rel => exact ⟨f', m / 65536, l ++ [m % 65536], A2, c2, by have := HF.out; simp only [List.length_append, List.length_cons, List.length_nil]; omega, hm'.out, by go_num, by rw [List.length_append]; rfl, HD'.out, HO2.out, Hb2.out⟩
      case measure => simp [intOf]; omega
    · obtain rfl : m = 0 := by omega
      have HD' : Hid (digL 4 n = l) := by
        show _ = _
        rw [← HD.out, digL_zero, List.append_nil]
      go_wp2
      go_ret
      exact ⟨A1, c1, by rw [HD'.out]; rfl, by rw [HD'.out]; exact SeesV.own HO.out, Hb.out⟩

/-- The row whose first k places are nought. -/
def mRow (d : List Nat) (k : Nat) : List Nat := List.replicate k 0 ++ d.drop k
theorem mRow_len (d : List Nat) (k : Nat) (h : k ≤ d.length) : (mRow d k).length = d.length := by simp [mRow]; omega
theorem mRow_get (d : List Nat) (k : Nat) (h : k < d.length) : (Us (mRow d k))[k]? = some (.int .u64 ((d.getD k 0 : Nat) : Int)) := by
  rw [Us_get _ _ (by rw [mRow_len _ _ (by omega)]; exact h)]
  simp [mRow, List.getElem?_append_right, h]
theorem mRow_set (d : List Nat) (k x : Nat) (h : k < d.length) : (mRow d k).set k x = List.replicate k 0 ++ x :: d.drop (k + 1) := by
  rw [mRow, List.set_append_right _ _ (by simp), List.length_replicate, Nat.sub_self, List.drop_eq_getElem_cons h, List.set_cons_zero]
theorem mRow_next (d : List Nat) (k : Nat) (h : k < d.length) : (mRow d k).set k 0 = mRow d (k + 1) := by
  rw [mRow_set d k 0 h, mRow, List.replicate_succ', List.append_assoc]; rfl

set_option maxHeartbeats 1000000 in
set_option maxRecDepth 100000 in
theorem more_any (w : World) (A : Option Addr) (n c : Nat) (d : List Nat) (hn : n = d.length) (hS : SeesV w w.heap.size A (Us d)) (hmax : n ≤ 1048576) :
    Calls Tryd.prog 40 #[.slice A n c] w (RowPost w (moreL d)) := by
  subst hn
  have HS := Lib.hid hS
  clear hS
  obtain ⟨i0, hi, hz0, hz1, hz2⟩ := info_parts Tryd.u64info
  go_enter Tryd.func40, Tryd.ntmps40
  go_wp2_with ((with_reducible show wpList _ _ _ (⟨some 6, _, _, _, _, _⟩ :: _) _ _); refine wpList_append_seesV rfl (.const (.slice none 0 0)) (.tmp 5) 32 rfl w.heap.size 31 i0 (.int .u64 0) 1 8 Tryd.underlying32 hi hz0 hz1 hz2 rfl (by omega) (.slice none 0 0) 0 [] rfl (World.ownsRow_nil _ _ _ _) w.heap.size A d.length c (Us d) rfl (by rw [Us_length, Nat.mul_one]) HS.out (Us_one _) (by omega) (by omega) (Nat.le_refl _) ?_; intro v2 w2 ho2 hg2 hat2; rw [List.nil_append, Nat.zero_add] at ho2; obtain ⟨A2, c2, rfl⟩ := own_form ho2; have HO2 := Lib.hid ho2; have Hb2 : Hid (Below w.heap.size w w2) := ((Below.refl _ _).grown hg2 (Nat.le_refl _) (fun j hj => by cases hj)); clear ho2 hg2 hat2)
  go_loopw [4] (fun i wr => ∃ k : Nat, k ≤ d.length ∧ i = .int .i64 k ∧ Hid (moreL d = List.replicate k 0 ++ moreL (d.drop k)) ∧ Hid (wr.ownsRow w.heap.size 31 1 (.slice A2 d.length c2) d.length (Us (mRow d k))) ∧ Hid (Below w.heap.size w wr)) (fun i _ => d.length - (intOf i).toNat)
  case atStart => exact ⟨0, by omega, rfl, rfl, HO2.out, Hb2.out⟩
  case round =>
    clear HO2 Hb2
    obtain ⟨k, hk, rfl, HM, HO, Hb⟩ := hrel
    by_cases hlt : k < d.length
    · have hcons := List.drop_eq_getElem_cons hlt
      have hget := mRow_get d k hlt
      have hset := fun x => mRow_set d k x hlt
      have hnext := mRow_next d k hlt
      have hgd : d.getD k 0 = d[k] := by simp [hlt]
      rw [hgd] at hget
      by_cases hx : d[k] < 65535
      · have HR : Hid (moreL d = (mRow d k).set k (d[k] + 1)) := by
          show _ = _
          rw [hset, HM.out, hcons, moreL, if_pos hx, Nat.mod_eq_of_lt (by omega)]
        clear hcons hset hnext hgd
        generalize d[k] = x at *
        obtain ⟨g, rfl, hgb, hc, hf, hown⟩ := own_set HO.out hlt (.int .u64 ((x + 1 : Nat) : Int))
        rw [hget] at hc
        have HOn : Hid ((wr.setCell ⟨g, k, none⟩ (.int .u64 ((x : Int) + 1))).ownsRow w.heap.size 31 1 (.slice (some ⟨g, 0, none⟩) d.length c2) d.length (Us (moreL d))) := by
          rw [HR.out, ← Us_set]
          exact hown
        have Hbn := Lib.hid (Hb.out.setCell (p := ⟨g, k, none⟩) hgb (.int .u64 ((x : Int) + 1)))
        have Hln : Hid ((moreL d).length = d.length) := by show _ = _; rw [HR.out, List.length_set, mRow_len _ _ hk]
        have hxi : decide ((x : Int) < 65535) = true := decide_eq_true (by omega)
        have hw : IntKind.u64.wrap ((x : Int) + 1) = (x : Int) + 1 := by rw [IntKind.wrap_u64]; omega
        clear hget hown HM HO Hb HR hx
        go_wp2
        go_ret
        exact ⟨_, c2, by rw [Hln.out]; rfl, SeesV.own HOn.out, Hbn.out⟩
      · have HR : Hid (moreL d = List.replicate (k + 1) 0 ++ moreL (d.drop (k + 1))) := by
          show _ = _
          rw [HM.out, hcons, moreL, if_neg hx, List.replicate_succ', List.append_assoc]; rfl
        clear hcons hset hgd
        generalize d[k] = x at *
        obtain ⟨g, rfl, hgb, hc, hf, hown⟩ := own_set HO.out hlt (.int .u64 ((0 : Nat) : Int))
        rw [hget] at hc
        rw [Us_set, hnext] at hown
        have HOn := Lib.hid hown
        have Hbn := Lib.hid (Hb.out.setCell (p := ⟨g, k, none⟩) hgb (.int .u64 ((0 : Nat) : Int)))
        have hxi : decide ((x : Int) < 65535) = false := decide_eq_false (by omega)
        clear hget hown HM HO Hb hnext hx
        go_wp2
        go_roundw
        case rel => exact ⟨k + 1, by omega, by go_num, HR.out, HOn.out, Hbn.out⟩
        case measure => simp [intOf]; omega
    · obtain rfl : k = d.length := by omega
      have HR : Hid (moreL d = mRow d d.length ++ [1]) := by
        show _ = _
        rw [HM.out, mRow, List.drop_length]; simp [moreL]
      have Hl := Lib.hid (mRow_len d d.length (Nat.le_refl _))
      clear HM
      go_wp2_with ((with_reducible show wpList _ _ _ (⟨some 30, _, _, _, _, _⟩ :: _) _ _); refine wpList_append_seesV rfl (.tmp 28) (.tmp 29) 32 rfl w.heap.size 31 i0 (.int .u64 0) 1 8 Tryd.underlying32 hi hz0 hz1 hz2 rfl (by omega) (.slice A2 d.length c2) d.length (Us (mRow d d.length)) rfl (HO.out.alloc _) (wr.heap.size + 1) (some ⟨wr.heap.size, 0, none⟩) 1 1 [.int .u64 1] rfl rfl (SeesV.lit wr [.int .u64 1] 31) (by intro u hu; simp at hu; subst hu; rfl) (by omega) (by omega) (by have := Hb.out.size; simp; omega) ?_; intro v3 w3 ho3 hg3 hat3; obtain ⟨A3, c3, rfl⟩ := own_form ho3; have ho4 : w3.ownsRow w.heap.size 31 1 (.slice A3 (moreL d).length c3) (moreL d).length (Us (moreL d)) := (by rw [HR.out, Us_append, List.length_append, Hl.out]; exact ho3); have HO3 := Lib.hid ho4; have Hb3 : Hid (Below w.heap.size w w3) := (((Hb.out.alloc Hb.out.size _)).grown hg3 (by have := Hb.out.size; simp; omega) (fun j hj => (own_lt HO.out j hj).1)); clear ho3 ho4 hg3 hat3)
      go_ret
      exact ⟨A3, c3, by rw [HR.out, List.length_append, Hl.out]; rfl, SeesV.own HO3.out, Hb3.out⟩

end Go.Proofs.YtbfahmpppkjpbaaDoor
