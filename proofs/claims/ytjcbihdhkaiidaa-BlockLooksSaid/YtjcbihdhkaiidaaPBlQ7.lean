/-
  What the laws' walks over transactions want: conversions, a hash beside itself, a row of one transaction.
  A transaction that comes in, opened.
-/
import Derived.Test.YtjcbihdhkaiidaaTxE
import Derived.Test.YtjcbihdhkaiidaaPBlQ4
import Derived.Test.YtjcbihdhkaiidaaEq
import Derived.Test.YtjcbihdhkaiidaaVals
import Derived.Test.YtjcbihdhkaiidaaRows
import Derived.Test.YtjcbihdhkaiidaaPBlQ2
import Derived.Deep.Slices
import Derived.SizedLaws
namespace Go.Proofs.Ytjcbihdhkaiidaa
open Go.RowKit

theorem step_conv {P : Program} {w : World} {ops : Array Oper} {o : Oper} {a : Act} {K : Act → World → Prop} {Q : Exit → Act → World → Prop} {E : Prop} (hgd : o.guard = none) (x : Operand) (t1 t2 : TypeId) (ho : o.op = .convert t1 t2 x) (u v : Value) (hx : a.eval x = u)
    (hr : (convert t1 t2 u).run P w = .ok v w) (h : K (a.put o.dst v) w) : if Region.wanted o (yielded ops a.tmps) = true then Oper.wp P o a w K Q else E := by
  have hw : Region.wanted o (yielded ops a.tmps) = true := by simp [Region.wanted, hgd]
  rw [if_pos hw]
  unfold Oper.wp execOp
  simp only [ho, hx, Sem.run_bind, Sem.run_pure, Result.andThen_ok, hr]
  exact h
theorem Try.u8sz : (Try.prog.info? 5).map (·.size) = some 1 := by kernel_rfl
theorem nxDrI {n : Nat} {w w1 : World} (h : Below n w w1) : Below n w w1.drew := ⟨h.os, h.tape, h.output, h.size, h.block⟩
theorem nxUd {w w1 : World} (h : Below w.drew.heap.size w.drew w1) : Below w.heap.size w w1 := ⟨h.os, h.tape, h.output, h.size, h.block⟩
theorem neq_hash (l : List UInt8) (hl : l.length = 32) (wq : World) : (binOp .neq 24 (.agg (By l).toArray) (.agg (By l).toArray)).run Try.prog wq = .ok (.bool false) wq := by
  rw [run_neq_bytes 32 24 5 Try.underlying24 Try.underlying5 Try.u8sz l l hl hl, beq_self_eq_true]; rfl

theorem Try.txinf : (Try.prog.info? 37).map (fun i => (i.zero, i.size, i.bytes)) = some (some (.agg #[.slice none 0 0, .slice none 0 0, .int .u64 0]), 3, 56) := by kernel_rfl
end Go.Proofs.Ytjcbihdhkaiidaa

namespace Go.Proofs.Ytjcbihdhkaiidaa
open Go.ChangeShapes Go.WideShapes Go.ChangeAt Go.RowKit Go.Deep

theorem Try.cellsIn : Try.prog.cellsOf 44 = 34 := by kernel_rfl
theorem Try.cellsOut : Try.prog.cellsOf 46 = 33 := by kernel_rfl
theorem Try.cellsTx : Try.prog.cellsOf 37 = 3 := by kernel_rfl
theorem Try.cellsBs : Try.prog.cellsOf 42 = 1 := by kernel_rfl
theorem Try.cellsIs : Try.prog.cellsOf 34 = 1 := by kernel_rfl
theorem Try.cellsOs : Try.prog.cellsOf 35 = 1 := by kernel_rfl
theorem Try.cellsU64 : Try.prog.cellsOf 25 = 1 := by kernel_rfl
def intAtV : Value → Int
  | .int _ n => n
  | _ => 0
theorem len3 {l : List Value} (h : l.length = 3) : ∃ a b c, l = [a, b, c] := match l, h with | [a, b, c], _ => ⟨a, b, c, rfl⟩
theorem agg_of_cells {v : Value} {l : List Value} (h : v.cells.toList = l) (hl : l.length ≠ 1) : v = .agg l.toArray := by
  subst h
  cases v <;> simp_all [Value.cells]
theorem nat_of_wf {k : IntKind} {z : Int} (h0 : k.min = 0) (h : (Lit.int k z).wf = true) : ∃ n : Nat, z = n ∧ (n : Int) ≤ k.max := by
  have h1 : (decide (k.min ≤ z) && decide (z ≤ k.max)) = true := h
  rw [Bool.and_eq_true, decide_eq_true_eq, decide_eq_true_eq, h0] at h1
  exact ⟨z.toNat, by omega, by omega⟩
/-- What a reading weighs, each piece by itself, is within the reach. -/
def Wok {H : Type} (t : TypeId) (d : DataW H) : Prop := ∀ n ∈ d.weights Try.prog t, n ≤ 140737488355328
theorem Wok.field {H : Type} {t : TypeId} {fs : Array Field} {parts : List (DataW H)} (hu : Try.prog.underlying t = some (.struct fs)) (h : Wok t (.agg parts)) {j : Nat} {ft : TypeId} {d : DataW H} (hf : (fs.toList.map (·.type))[j]? = some ft) (hd : parts[j]? = some d) : Wok ft d := fun n hn =>
  h n (by simp only [DataW.weights, hu]; exact DataW.weights_mem_each hf hd n hn)
theorem weights_mem_all {H : Type} {P : Program} {e : TypeId} : ∀ {ds : List (DataW H)} {d : DataW H}, d ∈ ds → ∀ n ∈ d.weights P e, n ∈ DataW.weightsAll P e ds
  | d0 :: ds, d, hd, n, hn => by
    simp only [DataW.weightsAll, List.mem_append]
    rcases List.mem_cons.1 hd with rfl | hd
    · exact Or.inl hn
    · exact Or.inr (weights_mem_all hd n hn)
theorem Wok.elem {H : Type} {t e : TypeId} {ds sp : List (DataW H)} (hu : Try.prog.underlying t = some (.slice e)) (h : Wok t (.slice ds sp)) {d : DataW H} (hd : d ∈ ds) : Wok e d := fun n hn =>
  h n (by simp only [DataW.weights, hu]; exact List.mem_cons_of_mem _ (List.mem_append_left _ (weights_mem_all hd n hn)))
theorem Wok.len {H : Type} {t e : TypeId} {ds sp : List (DataW H)} (hu : Try.prog.underlying t = some (.slice e)) (h : Wok t (.slice ds sp)) (h0 : 0 < Try.prog.bytesOf e) : ds.length ≤ 140737488355328 := by
  have h1 := h ((ds.length + sp.length) * Try.prog.bytesOf e) (by simp only [DataW.weights, hu]; exact List.mem_cons_self)
  have h2 : ds.length ≤ (ds.length + sp.length) * Try.prog.bytesOf e := Nat.le_trans (Nat.le_add_right _ _) (Nat.le_mul_of_pos_right _ h0)
  omega
theorem Try.bytes_u8 : 0 < Try.prog.bytesOf 5 := of_decide_eq_true (by kernel_rfl)
theorem Try.bytes_in : 0 < Try.prog.bytesOf 44 := of_decide_eq_true (by kernel_rfl)
theorem Try.bytes_out : 0 < Try.prog.bytesOf 46 := of_decide_eq_true (by kernel_rfl)
instance : Inhabited InR := ⟨⟨[], 0, none, 0, []⟩⟩
instance : Inhabited OutR := ⟨⟨0, []⟩⟩
section
variable {H : Type} {enc : TypeId × Value → H} {w : World} {base : Nat} {held : Bool}
/-- A hash that was read. -/
theorem read_hash {fuel : Nat} {cs : List Value} {x : DataW H × List MemPlace} (h : DataW.trod enc Try.prog w base (fun _ => true) held fuel 24 cs = some x) :
    ∃ l : List UInt8, cs = By l ∧ l.length = 32 := by
  obtain ⟨xs, m, _, _, hlen, hxl, hf⟩ := DataW.trod_array Try.underlying24 h
  rw [Try.cellsH] at hlen
  have hz : ∀ i (hi : i < cs.length), ∃ z : Int, cs[i] = .int .u8 z ∧ (Lit.int .u8 z).wf = true := by
    intro i hi
    have h1 := hf i (by omega)
    rw [Try.cellsB, Nat.mul_one, tdo hi, List.getElem?_eq_getElem (by omega)] at h1
    obtain ⟨n, e, _, hw⟩ := DataW.trod_int Try.underlying5 h1
    exact ⟨n, by simpa using e, hw⟩
  refine ⟨cs.map fun v => UInt8.ofNat (intAtV v).toNat, ?_, by simp [hlen]⟩
  apply List.ext_getElem
  · simp [By]
  · intro i h1 h2
    obtain ⟨z, hz1, hz2⟩ := hz i h1
    simp only [By, List.getElem_map, hz1, intAtV]
    rw [toB_cast hz2]
/-- An outpoint that was read. -/
theorem read_pt {fuel : Nat} {cs : List Value} {x : DataW H × List MemPlace} (h : DataW.trod enc Try.prog w base (fun _ => true) held fuel 41 cs = some x) :
    ∃ (l : List UInt8) (n : Nat), cs = By l ++ [.int .u32 (n : Int)] ∧ l.length = 32 ∧ n < 4294967296 := by
  obtain ⟨xs, m, _, _, hlen, hxl, hf⟩ := DataW.trod_struct Try.underlying41 h
  rw [Try.cellsPt] at hlen
  have hx : xs.length = 2 := hxl
  have g0 : DataW.trod enc Try.prog w base (fun _ => true) held m 24 ((cs.drop 0).take (Try.prog.cellsOf 24)) = xs[0]? := hf 0 _ rfl
  have g1 : DataW.trod enc Try.prog w base (fun _ => true) held m 39 ((cs.drop 32).take (Try.prog.cellsOf 39)) = xs[1]? := hf 1 _ rfl
  rw [Try.cellsH, List.getElem?_eq_getElem (by omega)] at g0
  rw [Try.cellsN, List.getElem?_eq_getElem (by omega), tdo (by omega)] at g1
  obtain ⟨l, hl, hl32⟩ := read_hash g0
  obtain ⟨z, e1, _, w1⟩ := DataW.trod_int Try.underlying39 g1
  obtain ⟨n, rfl, hn⟩ := nat_of_wf rfl w1
  have hn2 : (n : Int) ≤ 4294967295 := hn
  refine ⟨l, n, ?_, hl32, by omega⟩
  have e2 : cs = cs.take 32 ++ cs.drop 32 := (List.take_append_drop 32 cs).symm
  have e3 : cs.drop 32 = [cs[32]] := by rw [List.drop_eq_getElem_cons (by omega), List.drop_eq_nil_of_le (by omega)]
  rw [e2, e3]
  rw [List.drop_zero] at hl
  rw [hl]
  have e4 : cs[32] = .int .u32 (n : Int) := by simpa using e1
  rw [e4]
/-- A row of bytes that was read, within the reach. -/
theorem read_bytesW {fuel : Nat} {cs : List Value} {x : DataW H × List MemPlace} (h : DataW.trod enc Try.prog w base (fun _ => true) held fuel 42 cs = some x) (hw : Wok 42 x.1) :
    ∃ (A : Option Addr) (c : Nat) (l : List UInt8), cs = [.slice A l.length c] ∧ Sees w w.heap.size A l ∧ l.length ≤ 140737488355328 ∧ l.length ≤ c := by
  obtain ⟨A, c, l, e1, hs, _, hc, _⟩ := read_bytes h
  refine ⟨A, c, l, e1, hs, ?_, hc⟩
  rcases DataW.trod_slice Try.underlying42 h with ⟨h0, _⟩ | ⟨a, len, cap, elems, rest, n, _, h0, hx, _, _, _, hlen, _⟩
  · rw [e1] at h0
    simp at h0
    omega
  · rw [e1] at h0
    simp at h0
    subst hx
    have := Wok.len Try.underlying42 hw Try.bytes_u8
    rw [List.length_map, hlen] at this
    omega
/-- An input that was read. -/
theorem read_in {fuel : Nat} {cs : List Value} {x : DataW H × List MemPlace} (h : DataW.trod enc Try.prog w base (fun _ => true) held fuel 44 cs = some x) (hw : Wok 44 x.1) :
    ∃ i : InR, cs = inC i ∧ InOk w i := by
  obtain ⟨xs, m, _, hxe, hlen, hxl, hf⟩ := DataW.trod_struct Try.underlying44 h
  rw [Try.cellsIn] at hlen
  have hx : xs.length = 2 := hxl
  have g0 : DataW.trod enc Try.prog w base (fun _ => true) held m 41 ((cs.drop 0).take (Try.prog.cellsOf 41)) = xs[0]? := hf 0 _ rfl
  have g1 : DataW.trod enc Try.prog w base (fun _ => true) held m 42 ((cs.drop 33).take (Try.prog.cellsOf 42)) = xs[1]? := hf 1 _ rfl
  rw [Try.cellsPt, List.getElem?_eq_getElem (by omega)] at g0
  rw [Try.cellsBs, List.getElem?_eq_getElem (by omega), tdo (by omega)] at g1
  obtain ⟨l, n, hl, hl32, hn⟩ := read_pt g0
  subst hxe
  obtain ⟨A, c, L, e1, hs, hm, hc⟩ := read_bytesW g1 (hw.field Try.underlying44 (j := 1) rfl (by simp; rw [List.getElem?_eq_getElem (by omega)]; exact ⟨_, rfl⟩))
  refine ⟨⟨l, n, A, c, L⟩, ?_, hl32, hn, hc, hs, hm⟩
  have e2 : cs = cs.take 33 ++ cs.drop 33 := (List.take_append_drop 33 cs).symm
  have e3 : cs.drop 33 = [cs[33]] := by rw [List.drop_eq_getElem_cons (by omega), List.drop_eq_nil_of_le (by omega)]
  rw [List.drop_zero] at hl
  have e4 : cs[33] = .slice A L.length c := by simpa using e1
  rw [e2, e3, hl, e4]
  simp [inC]
/-- An output that was read. -/
theorem read_out {fuel : Nat} {cs : List Value} {x : DataW H × List MemPlace} (h : DataW.trod enc Try.prog w base (fun _ => true) held fuel 46 cs = some x) :
    ∃ o : OutR, cs = outC o ∧ OutOk o := by
  obtain ⟨xs, m, _, _, hlen, hxl, hf⟩ := DataW.trod_struct Try.underlying46 h
  rw [Try.cellsOut] at hlen
  have hx : xs.length = 2 := hxl
  have g0 : DataW.trod enc Try.prog w base (fun _ => true) held m 25 ((cs.drop 0).take (Try.prog.cellsOf 25)) = xs[0]? := hf 0 _ rfl
  have g1 : DataW.trod enc Try.prog w base (fun _ => true) held m 24 ((cs.drop 1).take (Try.prog.cellsOf 24)) = xs[1]? := hf 1 _ rfl
  rw [Try.cellsU64, List.getElem?_eq_getElem (by omega), tdo (by omega)] at g0
  rw [Try.cellsH, List.getElem?_eq_getElem (by omega)] at g1
  obtain ⟨z, e1, _, w1⟩ := DataW.trod_int Try.underlying25 g0
  obtain ⟨l, hl, hl32⟩ := read_hash g1
  obtain ⟨n, rfl, hn⟩ := nat_of_wf rfl w1
  have hn2 : (n : Int) ≤ 18446744073709551615 := hn
  refine ⟨⟨n, l⟩, ?_, by show n < _; omega, hl32⟩
  have e4 : cs[0] = .int .u64 (n : Int) := by simpa using e1
  have e5 : cs.drop 1 = By l := by rw [← hl, List.take_of_length_le (by rw [List.length_drop]; omega)]
  have e6 : cs = cs[0] :: cs.drop 1 := by have := List.drop_eq_getElem_cons (l := cs) (i := 0) (by omega); rw [List.drop_zero] at this; exact this
  rw [e6, e4, e5]
  rfl
/-- Rows of rows of one length that lie behind one another. -/
theorem rows_seen {a : Addr} {len n : Nat} {L : List (List Value)} (hL : L.length = len) (hn : 0 < n) (h : ∀ r ∈ L, r.length = n) (hc : ∀ i (hi : i < len) (j : Nat) (v : Value), (L[i]'(by omega))[j]? = some v → w.cell? ((a.add (i * n)).add j) = some v) : SeesV w w.heap.size (some a) L.flatten := by
  by_cases h0 : len = 0
  · left; rw [List.eq_nil_of_length_eq_zero (hL.trans h0)]; rfl
  · right
    have hl0 : (L[0]'(by omega)).length = n := h _ (List.getElem_mem _)
    have hc0 := hc 0 (by omega) 0 _ (List.getElem?_eq_getElem (by omega))
    obtain ⟨b, off, spot⟩ := a
    have hsp : spot = none := by
      cases spot with
      | none => rfl
      | some s =>
        exfalso
        simp only [Addr.add, World.cell?] at hc0
        split at hc0 <;> simp at hc0
    subst hsp
    simp only [Addr.add_lit] at hc hc0
    refine ⟨b, off, rfl, World.block_lt_of_cell? _ _ hc0, fun j hj => ?_⟩
    have hfl := flat_len h
    have hjl : j < len * n := by rw [hfl, hL] at hj; exact hj
    have hk : j / n < len := Nat.div_lt_of_lt_mul (by rw [Nat.mul_comm]; exact hjl)
    have hm : j % n < n := Nat.mod_lt _ hn
    have h2 := flat_at h (k := j / n) (by omega) (j % n) hm
    have e : j / n * n + j % n = j := by rw [Nat.mul_comm]; exact Nat.div_add_mod j n
    rw [e, List.getElem?_eq_getElem hj] at h2
    have h3 := hc (j / n) hk (j % n) _ h2.symm
    rw [show off + j / n * n + j % n = off + j by omega] at h3
    exact h3
/-- Inputs that were read. -/
theorem read_ins {fuel : Nat} {cs : List Value} {x : DataW H × List MemPlace} (h : DataW.trod enc Try.prog w base (fun _ => true) held fuel 34 cs = some x) (hw : Wok 34 x.1) :
    ∃ (A : Option Addr) (c : Nat) (L : List InR), cs = [.slice A L.length c] ∧ SeesV w w.heap.size A (insC L) ∧ (∀ i ∈ L, InOk w i) ∧ L.length ≤ 140737488355328 ∧ L.length ≤ c := by
  rcases open_slice Try.underlying34 h with ⟨hcs, _⟩ | ⟨a, len, cap, m, n, D, Pl, hcs, hb, hl, hm, hmm, hxe, hi⟩
  · exact ⟨none, 0, [], hcs, .inl rfl, by intro q hq; exact absurd hq List.not_mem_nil, by simp, by simp⟩
  · simp only [if_true] at hmm
    subst hmm
    subst hxe
    have hwl := Wok.len Try.underlying34 hw Try.bytes_in
    rw [List.length_map, List.length_range] at hwl
    rw [Try.cellsIn] at hi
    have hp : ∀ i, i < len → ∃ p : InR, InOk w p ∧ ∀ (j : Nat) (v : Value), (inC p)[j]? = some v → w.cell? ((a.add (i * 34)).add j) = some v := by
      intro i him
      obtain ⟨cs', hc, ht⟩ := hi i (by omega)
      obtain ⟨p, rfl, hok⟩ := read_in ht (hw.elem Try.underlying34 (List.mem_map.2 ⟨i, List.mem_range.2 him, rfl⟩))
      obtain ⟨_, _, hat⟩ := World.cells?_some hc
      refine ⟨p, hok, fun j v hv => ?_⟩
      have hj : j < 34 := by have := (List.getElem?_eq_some_iff.1 hv).1; rw [inC_len hok.id] at this; exact this
      rw [hat j hj]; exact hv
    obtain ⟨F, hF⟩ := choose_lt hp
    have hin : ∀ i ∈ (List.range len).map F, InOk w i := by
      intro p hp
      obtain ⟨i, hi, rfl⟩ := List.mem_map.1 hp
      exact (hF i (List.mem_range.1 hi)).1
    refine ⟨some a, m, (List.range len).map F, by simpa using hcs, ?_, hin, by simpa using hwl, by simpa using hl⟩
    refine rows_seen (n := 34) (len := len) (by simp) (by omega) (by intro r hr; obtain ⟨i, h1, rfl⟩ := List.mem_map.1 hr; exact inC_len (hin i h1).id) (fun i hi j v hv => ?_)
    simp only [List.getElem_map, List.getElem_range] at hv
    exact (hF i hi).2 j v hv
/-- Outputs that were read. -/
theorem read_outs {fuel : Nat} {cs : List Value} {x : DataW H × List MemPlace} (h : DataW.trod enc Try.prog w base (fun _ => true) held fuel 35 cs = some x) (hw : Wok 35 x.1) :
    ∃ (A : Option Addr) (c : Nat) (L : List OutR), cs = [.slice A L.length c] ∧ SeesV w w.heap.size A (outsC L) ∧ (∀ o ∈ L, OutOk o) ∧ L.length ≤ 140737488355328 ∧ L.length ≤ c := by
  rcases open_slice Try.underlying35 h with ⟨hcs, _⟩ | ⟨a, len, cap, m, n, D, Pl, hcs, hb, hl, hm, hmm, hxe, hi⟩
  · exact ⟨none, 0, [], hcs, .inl rfl, by intro q hq; exact absurd hq List.not_mem_nil, by simp, by simp⟩
  · simp only [if_true] at hmm
    subst hmm
    subst hxe
    have hwl := Wok.len Try.underlying35 hw Try.bytes_out
    rw [List.length_map, List.length_range] at hwl
    rw [Try.cellsOut] at hi
    have hp : ∀ i, i < len → ∃ p : OutR, OutOk p ∧ ∀ (j : Nat) (v : Value), (outC p)[j]? = some v → w.cell? ((a.add (i * 33)).add j) = some v := by
      intro i him
      obtain ⟨cs', hc, ht⟩ := hi i (by omega)
      obtain ⟨p, rfl, hok⟩ := read_out ht
      obtain ⟨_, _, hat⟩ := World.cells?_some hc
      refine ⟨p, hok, fun j v hv => ?_⟩
      have hj : j < 33 := by have := (List.getElem?_eq_some_iff.1 hv).1; rw [outC_len hok.lock] at this; exact this
      rw [hat j hj]; exact hv
    obtain ⟨F, hF⟩ := choose_lt hp
    have hin : ∀ i ∈ (List.range len).map F, OutOk i := by
      intro p hp
      obtain ⟨i, hi, rfl⟩ := List.mem_map.1 hp
      exact (hF i (List.mem_range.1 hi)).1
    refine ⟨some a, m, (List.range len).map F, by simpa using hcs, ?_, hin, by simpa using hwl, by simpa using hl⟩
    refine rows_seen (n := 33) (len := len) (by simp) (by omega) (by intro r hr; obtain ⟨i, h1, rfl⟩ := List.mem_map.1 hr; exact outC_len (hin i h1).lock) (fun i hi j v hv => ?_)
    simp only [List.getElem_map, List.getElem_range] at hv
    exact (hF i hi).2 j v hv
/-- A transaction that was read. -/
theorem read_tx {fuel : Nat} {cs : List Value} {x : DataW H × List MemPlace} (h : DataW.trod enc Try.prog w base (fun _ => true) held fuel 37 cs = some x) (hw : Wok 37 x.1) :
    ∃ t : TxR, cs = txC t ∧ TxOk w t := by
  obtain ⟨xs, n, _, hxe, hlen, hxl, hf⟩ := DataW.trod_struct Try.underlying37 h
  rw [Try.cellsTx] at hlen
  have hx : xs.length = 3 := hxl
  have g0 : DataW.trod enc Try.prog w base (fun _ => true) held n 34 ((cs.drop 0).take (Try.prog.cellsOf 34)) = xs[0]? := hf 0 _ rfl
  have g1 : DataW.trod enc Try.prog w base (fun _ => true) held n 35 ((cs.drop 1).take (Try.prog.cellsOf 35)) = xs[1]? := hf 1 _ rfl
  have g2 : DataW.trod enc Try.prog w base (fun _ => true) held n 25 ((cs.drop 2).take (Try.prog.cellsOf 25)) = xs[2]? := hf 2 _ rfl
  rw [Try.cellsIs, tdo (by omega), List.getElem?_eq_getElem (by omega)] at g0
  rw [Try.cellsOs, tdo (by omega), List.getElem?_eq_getElem (by omega)] at g1
  rw [Try.cellsU64, tdo (by omega), List.getElem?_eq_getElem (by omega)] at g2
  subst hxe
  obtain ⟨A, c, I, e0, hs0, hi0, hm0, hc0⟩ := read_ins g0 (hw.field Try.underlying37 (j := 0) rfl (by simp; rw [List.getElem?_eq_getElem (by omega)]; exact ⟨_, rfl⟩))
  obtain ⟨B, d, O, e1, hs1, hi1, hm1, hc1⟩ := read_outs g1 (hw.field Try.underlying37 (j := 1) rfl (by simp; rw [List.getElem?_eq_getElem (by omega)]; exact ⟨_, rfl⟩))
  obtain ⟨z, e2, _, w2⟩ := DataW.trod_int Try.underlying25 g2
  obtain ⟨k, rfl, hk⟩ := nat_of_wf rfl w2
  have hk2 : (k : Int) ≤ 18446744073709551615 := hk
  refine ⟨⟨A, c, I, B, d, O, k⟩, ?_, hs0, hi0, hs1, hi1, hc0, hc1, by show k < _; omega, hm0, hm1⟩
  clear h hf g0 g1 g2 hs0 hi0 hs1 hi1
  obtain ⟨c0, c1, c2, rfl⟩ := len3 hlen
  simp at e0 e1 e2
  simp [e0, e1, e2, txC]
end
theorem agg_of_tx {v : Value} {t : TxR} (h : v.cells.toList = txC t) : v = .agg (txC t).toArray := agg_of_cells h (show (3 : Nat) ≠ 1 by decide)
end Go.Proofs.Ytjcbihdhkaiidaa
