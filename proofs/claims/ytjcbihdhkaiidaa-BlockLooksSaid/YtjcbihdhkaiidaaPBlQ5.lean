/-
  tx, the document's: Check, May. · tx: the law's num and known; the document's May.
  tx, the document's: Much, of one transaction.
  The document's numbers and blobs, as tx calls them.
-/
import Derived.Test.YtjcbihdhkaiidaaTx9
import Derived.Deep.RegionHeldLaw
import Derived.Deep.RegionHeld3
import Derived.Great.BuildSlice
import Derived.LoopN
import Derived.Test.YtjcbihdhkaiidaaTp
namespace Go.Proofs.Ytjcbihdhkaiidaa
open Go.RowKit

set_option maxRecDepth 100000 in
theorem eql_pt {a b : InR} (ha : a.id.length = 32 ∧ a.n < 4294967296) (hb : b.id.length = 32 ∧ b.n < 4294967296) (wq : World) : (binOp .eql 41 (.agg (ptC a).toArray) (.agg (ptC b).toArray)).run Try.prog wq = .ok (.bool (pt a == pt b)) wq := by
  obtain ⟨r, hr, hiff⟩ := run_equal_deep (P := Try.prog) wq (m := 3) (by omega) (k := 41) (by kernel_rfl) Try.widePt (keyOf_pt ha.1 ha.2) (keyOf_pt hb.1 hb.2)
  have e : r = (pt a == pt b) := by
    rw [Bool.eq_iff_iff, hiff, ptKey_inj ha.1 hb.1 ha.2 hb.2]
    exact beq_iff_eq.symm
  rw [run_eql_struct]
  have hr' : (Op.equalIn 10000 41 (.agg (ptC a).toArray) (.agg (ptC b).toArray)).run Try.prog wq = .ok r wq := hr
  rw [hr', e]
  rfl
theorem checkT_form {t : TxR} (h : formB t = false) : checkT t = 2 := by rw [checkT, h, cond_false]
theorem form_parts {t : TxR} (h1 : t.ins.length = 0 ∨ 64 < t.ins.length ∨ t.outs.length = 0 ∨ 64 < t.outs.length) : formB t = false := by
  unfold formB
  by_cases hi : 1 ≤ t.ins.length ∧ t.ins.length ≤ 64
  · have ho : cntB t.outs.length = false := decide_eq_false (by omega)
    rw [ho, Bool.false_and, Bool.and_false]
  · have : cntB t.ins.length = false := decide_eq_false hi
    rw [this, Bool.false_and]
theorem form_long {t : TxR} {i : Nat} (hi : i < t.ins.length) (hl : longB t.ins[i] = true) : formB t = false := by
  unfold formB
  have : t.ins.any longB = true := List.any_eq_true.2 ⟨_, List.getElem_mem hi, hl⟩
  rw [this]; simp
theorem twice_of {l : List InR} {i k : Nat} (hi : i < l.length) (hk : k < i) (h : pt l[k] = pt l[i]) : twiceB l = true := by
  induction l generalizing i k with
  | nil => simp at hi
  | cons a r ih =>
    rw [twiceB]
    cases k with
    | zero =>
      obtain ⟨i', rfl⟩ : ∃ i', i = i' + 1 := ⟨i - 1, by omega⟩
      simp only [List.length_cons] at hi
      have : r.any (fun j => pt j == pt a) = true := List.any_eq_true.2 ⟨r[i'], List.getElem_mem (by omega), by simp only [List.getElem_cons_zero, List.getElem_cons_succ] at h; rw [h]; exact beq_self_eq_true _⟩
      rw [this]; rfl
    | succ k' =>
      obtain ⟨i', rfl⟩ : ∃ i', i = i' + 1 := ⟨i - 1, by omega⟩
      simp only [List.length_cons] at hi
      simp only [List.getElem_cons_succ] at h
      rw [ih (i := i') (k := k') (by omega) (by omega) h, Bool.or_true]
theorem form_twice {t : TxR} (h : twiceB t.ins = true) : formB t = false := by
  unfold formB; rw [h]; simp
theorem twice_next {l : List InR} {i : Nat} (hi : i < l.length) (h : twiceB (l.take i) = false) (hn : ∀ k (hk : k < l.length), k < i → pt l[k] ≠ pt l[i]) : twiceB (l.take (i + 1)) = false := by
  rw [List.take_succ_eq_append_getElem hi, twiceB_snoc, h, Bool.false_or]
  refine Bool.eq_false_iff.2 fun ha => ?_
  obtain ⟨j, hj, he⟩ := List.any_eq_true.1 ha
  obtain ⟨k, hk, rfl⟩ := List.getElem_of_mem hj
  rw [List.getElem_take] at he
  rw [List.length_take] at hk
  exact hn k (by omega) (by omega) (eq_of_beq he)

end Go.Proofs.Ytjcbihdhkaiidaa
namespace Go.Proofs.Ytjcbihdhkaiidaa
open Go.RowKit

end Go.Proofs.Ytjcbihdhkaiidaa

namespace Go.Proofs.Ytjcbihdhkaiidaa
open Go.RowKit

/-- What the first witnesses count. -/
def witN (l : List InR) : Nat := (l.map fun i => min i.wit.length 30001 / 50).sum
theorem witN_next {l : List InR} {k : Nat} (h : k < l.length) : witN (l.take (k + 1)) = witN (l.take k) + min l[k].wit.length 30001 / 50 := by
  unfold witN
  rw [List.take_succ_eq_append_getElem h, List.map_append, List.sum_append]
  simp
theorem witN_le (l : List InR) : witN l ≤ l.length * 600 := by
  induction l with
  | nil => simp [witN]
  | cons a r ih =>
    have e : witN (a :: r) = min a.wit.length 30001 / 50 + witN r := by simp [witN]
    rw [e, List.length_cons]; omega
def muchN (t : TxR) : Nat := t.ins.length + t.outs.length + witN (t.ins.take 301)
def muchB (t : TxR) : Bool := decide (600 < muchN t)

set_option maxHeartbeats 4000000 in
set_option maxRecDepth 100000 in
theorem much_any (w : World) (bm : Nat) (t : TxR) (h : TxOk w t) (hB : Blk w bm 37 (txC t).toArray) : Calls Try.prog 11 #[.slice (some ⟨bm, 0, none⟩) 1 1, .int .i64 1] w fun e w' => e = .returned (.bool (muchB t)) ∧ Below w.heap.size w w' := by
  have HC : Hid (w.cell? ⟨bm, 0, none⟩ = some (.slice t.A t.ins.length t.c) ∧ w.cell? ⟨bm, 1, none⟩ = some (.slice t.B t.outs.length t.d) ∧ bm < w.heap.size) := ⟨hB.cell 0, hB.cell 1, hB.lt⟩
  have HI : Hid (∀ i ∈ t.ins, i.id.length = 32 ∧ i.wit.length ≤ 140737488355328) := fun i hi => ⟨(h.each i hi).id, (h.each i hi).m⟩
  have HIS := Lib.hid h.ins
  have hmi := h.mi
  have hmo := h.mo
  have HV : Hid (muchB t = decide (600 < t.ins.length + t.outs.length + witN (t.ins.take 301))) := rfl
  have HWl := Lib.hid (fun k => witN_le (t.ins.take k))
  obtain ⟨z, hz⟩ : ∃ z, muchB t = z := ⟨_, rfl⟩
  rw [hz] at HV ⊢
  obtain ⟨l, hl⟩ : ∃ l, t.ins = l := ⟨_, rfl⟩
  obtain ⟨no, hno⟩ : ∃ l, t.outs.length = l := ⟨_, rfl⟩
  rw [hl, hno] at HC HV
  rw [hl] at HI HIS hmi HWl
  rw [hno] at hmo
  clear h hB hz hl hno
  have hq1 : IntKind.i64.wrap (l.length : Int) = (l.length : Int) := by rw [IntKind.wrap_i64]; omega
  have hq2 : IntKind.i64.wrap ((l.length : Int) + (no : Int)) = (l.length : Int) + (no : Int) := by rw [IntKind.wrap_i64]; omega
  go_enter Try.func11, Try.ntmps11
  go_wp2
  refine wp_loop_rounds 2 ?_
  rw [rounds_succ]
  go_wp2
  refine wp_region_held_drew (S := fun W => W.cell? ⟨bm, 0, none⟩ = some (.slice t.A l.length t.c) ∧ W.cell? ⟨bm, 1, none⟩ = some (.slice t.B no t.d)) (by kernel_rfl) ⟨HC.out.1, HC.out.2.1⟩ (fun hHeld => ?_)
  refine wpAnyH_take (i := 0) (oi := ⟨_, _, _, _, _, _⟩) (v := ?_) rfl (by kernel_rfl) (by kernel_rfl) (by kernel_rfl) (fun _ _ _ h => h) (Or.inl ⟨by rfl, ?_⟩) (by assumption) ?_
  rotate_left 1
  · intro W hSw
    try dsimp only at hSw
    go_simp
    try with_reducible rfl
  try simp only [Act.put, List.setIfInBounds_toArray, List.set_cons_zero, List.set_cons_succ]
  refine wpAnyH_take (i := 1) (oi := ⟨_, _, _, _, _, _⟩) (v := ?_) rfl (by kernel_rfl) (by kernel_rfl) (by kernel_rfl) (fun _ _ _ h => h) (Or.inl ⟨by rfl, ?_⟩) (by assumption) ?_
  rotate_left 1
  · intro W hSw
    try dsimp only at hSw
    go_simp
    try with_reducible rfl
  try simp only [Act.put, List.setIfInBounds_toArray, List.set_cons_zero, List.set_cons_succ]
  refine wpAnyH_take (i := 2) (oi := ⟨_, _, _, _, _, _⟩) (v := ?_) rfl (by kernel_rfl) (by kernel_rfl) (by kernel_rfl) (fun _ _ _ h => h) (Or.inl ⟨by rfl, ?_⟩) (by assumption) ?_
  rotate_left 1
  · intro W hSw
    try dsimp only at hSw
    go_simp
    try with_reducible rfl
  try simp only [Act.put, List.setIfInBounds_toArray, List.set_cons_zero, List.set_cons_succ]
  refine wpAnyH_take (i := 3) (oi := ⟨_, _, _, _, _, _⟩) (v := ?_) rfl (by kernel_rfl) (by kernel_rfl) (by kernel_rfl) (fun _ _ _ h => h) (Or.inl ⟨by rfl, ?_⟩) (by assumption) ?_
  rotate_left 1
  · intro W hSw
    try dsimp only at hSw
    go_simp
    try with_reducible rfl
  try simp only [Act.put, List.setIfInBounds_toArray, List.set_cons_zero, List.set_cons_succ]
  refine wpAnyH_take (i := 4) (oi := ⟨_, _, _, _, _, _⟩) (v := ?_) rfl (by kernel_rfl) (by kernel_rfl) (by kernel_rfl) (fun _ _ _ h => h) (Or.inl ⟨by rfl, ?_⟩) (by assumption) ?_
  rotate_left 1
  · intro W hSw
    try dsimp only at hSw
    go_simp
    try with_reducible rfl
  try simp only [Act.put, List.setIfInBounds_toArray, List.set_cons_zero, List.set_cons_succ]
  refine wpAnyH_take (i := 5) (oi := ⟨_, _, _, _, _, _⟩) (v := ?_) rfl (by kernel_rfl) (by kernel_rfl) (by kernel_rfl) (fun _ _ _ h => h) (Or.inl ⟨by rfl, ?_⟩) (by assumption) ?_
  rotate_left 1
  · intro W hSw
    try dsimp only at hSw
    go_simp
    try with_reducible rfl
  try simp only [Act.put, List.setIfInBounds_toArray, List.set_cons_zero, List.set_cons_succ]
  refine wpAnyH_take (i := 6) (oi := ⟨_, _, _, _, _, _⟩) (v := ?_) rfl (by kernel_rfl) (by kernel_rfl) (by kernel_rfl) (fun _ _ _ h => h) (Or.inl ⟨by rfl, ?_⟩) (by assumption) ?_
  rotate_left 1
  · intro W hSw
    try dsimp only at hSw
    go_simp
    try with_reducible rfl
  try simp only [Act.put, List.setIfInBounds_toArray, List.set_cons_zero, List.set_cons_succ]
  refine wpAnyH_take (i := 7) (oi := ⟨_, _, _, _, _, _⟩) (v := ?_) rfl (by kernel_rfl) (by kernel_rfl) (by kernel_rfl) (fun _ _ _ h => h) (Or.inl ⟨by rfl, ?_⟩) (by assumption) ?_
  rotate_left 1
  · intro W hSw
    try dsimp only at hSw
    go_simp
    try with_reducible rfl
  try simp only [Act.put, List.setIfInBounds_toArray, List.set_cons_zero, List.set_cons_succ]
  refine wpAnyH_take (i := 8) (oi := ⟨_, _, _, _, _, _⟩) (v := ?_) rfl (by kernel_rfl) (by kernel_rfl) (by kernel_rfl) (fun _ _ _ h => h) (Or.inl ⟨by rfl, ?_⟩) (by assumption) ?_
  rotate_left 1
  · intro W hSw
    try dsimp only at hSw
    go_simp
    try with_reducible rfl
  try simp only [Act.put, List.setIfInBounds_toArray, List.set_cons_zero, List.set_cons_succ]
  refine wpAnyH_take (i := 9) (oi := ⟨_, _, _, _, _, _⟩) (v := ?_) rfl (by kernel_rfl) (by kernel_rfl) (by kernel_rfl) (fun _ _ _ h => h) (Or.inl ⟨by rfl, ?_⟩) (by assumption) ?_
  rotate_left 1
  · intro W hSw
    try dsimp only at hSw
    go_simp
    try with_reducible rfl
  try simp only [Act.put, List.setIfInBounds_toArray, List.set_cons_zero, List.set_cons_succ]
  refine wpAnyH_take (i := 10) (oi := ⟨_, _, _, _, _, _⟩) (v := ?_) rfl (by kernel_rfl) (by kernel_rfl) (by kernel_rfl) (fun _ _ _ h => h) (Or.inl ⟨by rfl, ?_⟩) (by assumption) ?_
  rotate_left 1
  · intro W hSw
    try dsimp only at hSw
    go_simp
    try with_reducible rfl
  try simp only [Act.put, List.setIfInBounds_toArray, List.set_cons_zero, List.set_cons_succ]
  refine wpAnyH_take (i := 11) (oi := ⟨_, _, _, _, _, _⟩) (v := ?_) rfl (by kernel_rfl) (by kernel_rfl) (by kernel_rfl) (fun _ _ _ h => h) (Or.inl ⟨by rfl, ?_⟩) (by assumption) ?_
  rotate_left 1
  · intro W hSw
    try dsimp only at hSw
    go_simp
    try with_reducible rfl
  try simp only [Act.put, List.setIfInBounds_toArray, List.set_cons_zero, List.set_cons_succ]
  refine wpAnyH_take (i := 12) (oi := ⟨_, _, _, _, _, _⟩) (v := ?_) rfl (by kernel_rfl) (by kernel_rfl) (by kernel_rfl) (fun _ _ _ h => h) (Or.inl ⟨by rfl, ?_⟩) (by assumption) ?_
  rotate_left 1
  · intro W hSw
    try dsimp only at hSw
    go_simp
    try with_reducible rfl
  try simp only [Act.put, List.setIfInBounds_toArray, List.set_cons_zero, List.set_cons_succ]
  refine wpAnyH_take (i := 13) (oi := ⟨_, _, _, _, _, _⟩) (v := ?_) rfl (by kernel_rfl) (by kernel_rfl) (by kernel_rfl) (fun _ _ _ h => h) (Or.inl ⟨by rfl, ?_⟩) (by assumption) ?_
  rotate_left 1
  · intro W hSw
    try dsimp only at hSw
    go_simp
    try with_reducible rfl
  try simp only [Act.put, List.setIfInBounds_toArray, List.set_cons_zero, List.set_cons_succ]
  refine wpAnyH_take (i := 14) (oi := ⟨_, _, _, _, _, _⟩) (v := ?_) rfl (by kernel_rfl) (by kernel_rfl) (by kernel_rfl) (fun _ _ _ h => h) (Or.inl ⟨by rfl, ?_⟩) (by assumption) ?_
  rotate_left 1
  · intro W hSw
    try dsimp only at hSw
    go_simp
    try with_reducible rfl
  try simp only [Act.put, List.setIfInBounds_toArray, List.set_cons_zero, List.set_cons_succ]
  refine wpAnyH_take (i := 15) (oi := ⟨_, _, _, _, _, _⟩) (v := ?_) rfl (by kernel_rfl) (by kernel_rfl) (by kernel_rfl) (fun _ _ _ h => h) (Or.inl ⟨by rfl, ?_⟩) (by assumption) ?_
  rotate_left 1
  · intro W hSw
    try dsimp only at hSw
    go_simp
    try with_reducible rfl
  try simp only [Act.put, List.setIfInBounds_toArray, List.set_cons_zero, List.set_cons_succ]
  refine wpAnyH_done (by kernel_rfl) ?_ _
  clear hq1
  go_wp2
  obtain ⟨N0, hN0⟩ : ∃ N, l.length + no = N := ⟨_, rfl⟩
  have HN0 := Lib.hid hN0
  have hnn : (l.length : Int) + (no : Int) = (N0 : Int) := by omega
  have hN1 : N0 ≤ 281474976710656 := by omega
  rw [hnn]
  rw [hN0] at HV
  clear hN0 hnn hq2
  go_loopw [5, 7] (fun nv kv wr => ∃ k : Nat, k ≤ l.length ∧ k ≤ 301 ∧ kv = .int .i64 k ∧ nv = .int .i64 ((N0 + witN (l.take k) : Nat) : Int) ∧ Hid (Below w.heap.size w wr)) (fun _ kv _ => l.length - (intOf kv).toNat)
  case atStart => exact ⟨0, by omega, by omega, rfl, by simp [witN], (nxRf w).drew⟩
  case round =>
    obtain ⟨k, hk, hk3, rfl, rfl, Hb⟩ := hrel
    have hc0 : wr.cell? ⟨bm, 0, none⟩ = some (.slice t.A l.length t.c) := (Hb.out.cell (p := ⟨bm, 0, none⟩) HC.out.2.2).trans HC.out.1
    have hwl := HWl.out k
    have htl : (l.take k).length ≤ 301 := by rw [List.length_take]; omega
    by_cases hlt : k < l.length
    · have hin : (k : Int) < (l.length : Int) := by omega
      by_cases hle : k ≤ 300
      · have hlb : (k : Int) ≤ 300 := by omega
        obtain ⟨b, off, hA, hbb, hr⟩ := insC_row HIS.out (fun i h => (HI.out i h).1) (by omega)
        rw [hA] at hc0
        have hrk := rngB (hr k hlt) Hb.out hbb
        have hik := HI.out _ (List.getElem_mem hlt)
        have hnx := witN_next hlt
        obtain ⟨x, hx⟩ : ∃ x, l[k] = x := ⟨_, rfl⟩
        rw [hx] at hrk hik hnx
        have hw33 : wr.cell? ⟨b, off + k * 34 + 33, none⟩ = some (.slice x.A x.wit.length x.c) := hrk 33 _ (inC_at hik.1).2
        have HNx := Lib.hid hnx
        obtain ⟨m, hm⟩ : ∃ m, witN (l.take k) = m := ⟨_, rfl⟩
        rw [hm] at hwl ⊢
        rw [hm] at HNx
        have hwm := hik.2
        clear hr hrk hik hx hnx hA hm
        by_cases hmn : (30001 : Int) < (x.wit.length : Int)
        · go_wp2
          go_roundw
          case rel => exact ⟨k + 1, by omega, by omega, by go_num, (by rw [HNx.out]; congr 1; first | omega | (rw [Int.tdiv_eq_ediv_of_nonneg (by omega)]; omega)), Hb.out⟩
          case measure => simp [intOf] <;> omega
        · go_wp2
          go_roundw
          case rel => exact ⟨k + 1, by omega, by omega, by go_num, (by rw [HNx.out]; congr 1; first | omega | (rw [Int.tdiv_eq_ediv_of_nonneg (by omega)]; omega)), Hb.out⟩
          case measure => simp [intOf] <;> omega
      · have hgb : decide ((k : Int) ≤ 300) = false := decide_eq_false (by omega)
        obtain rfl : k = 301 := by omega
        obtain ⟨m, hm⟩ : ∃ m, witN (l.take 301) = m := ⟨_, rfl⟩
        have hw : witN (l.take 301) = m := by rw [← hm]
        rw [hm] at hwl ⊢
        rw [hw] at HV
        clear hm hw
        by_cases hg : (600 : Int) < ((N0 + m : Nat) : Int)
        · have hv : z = true := by rw [HV.out]; exact decide_eq_true (by omega)
          subst hv
          go_wp2
          go_ret
          exact ⟨rfl, Hb.out⟩
        · have hv : z = false := by rw [HV.out]; exact decide_eq_false (by omega)
          subst hv
          go_wp2
          rw [rounds_succ]
          go_wp2
          go_ret
          exact ⟨rfl, Hb.out⟩
    · obtain rfl : k = l.length := by omega
      obtain ⟨m, hm⟩ : ∃ m, witN (l.take l.length) = m := ⟨_, rfl⟩
      have hw : witN (l.take 301) = m := by rw [← hm]; rw [List.take_of_length_le (by omega : l.length ≤ 301), List.take_length]
      rw [hm] at hwl ⊢
      rw [hw] at HV
      clear hm hw
      by_cases hg : (600 : Int) < ((N0 + m : Nat) : Int)
      · have hv : z = true := by rw [HV.out]; exact decide_eq_true (by omega)
        subst hv
        go_wp2
        go_ret
        exact ⟨rfl, Hb.out⟩
      · have hv : z = false := by rw [HV.out]; exact decide_eq_false (by omega)
        subst hv
        go_wp2
        rw [rounds_succ]
        go_wp2
        go_ret
        exact ⟨rfl, Hb.out⟩
end Go.Proofs.Ytjcbihdhkaiidaa

namespace Go.Proofs.Ytjcbihdhkaiidaa
open Go.RowKit


/-- What a call answers that makes bytes: they lie in new memory. -/
def Made (w : World) (A : Option Addr) (n c : Nat) (l : List UInt8) (w' : World) : Prop :=
  w'.ownsRow w.heap.size 5 1 (.slice A n c) n (By l) ∧ Below w.heap.size w w'
def putL (N : Nat) (Z : Int) : List UInt8 := if may Z then leB N Z.toNat else []
/-- What Put answers. -/
def PutPost (w : World) (N : Nat) (Z : Int) (e : Ending) (w' : World) : Prop :=
  ∃ A c, e = .returned (.tuple #[.slice A (putL N Z).length c, .bool (numOk N Z)]) ∧ Made w A (putL N Z).length c (putL N Z) w'

/-- One byte more. -/
theorem Sees.one (w : World) (b : UInt8) (t : TypeId) : Sees (w.alloc (.cells #[.int .u8 (b.toNat : Int)] t)) (w.heap.size + 1) (some ⟨w.heap.size, 0, none⟩) [b] := Sees.lit w [b] t

end Go.Proofs.Ytjcbihdhkaiidaa
