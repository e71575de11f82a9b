/-
  A header that comes in, opened. · A block that comes in, opened.
-/
import Derived.Test.YtjcbihdhkaiidaaPBlQ7
import Derived.Test.YtjcbihdhkaiidaaBk0
import Derived.Test.YtjcbihdhkaiidaaBkB
namespace Go.Proofs.Ytjcbihdhkaiidaa
open Go.ChangeShapes Go.WideShapes Go.ChangeAt Go.RowKit Go.Deep

theorem Try.cellsHd : Try.prog.cellsOf 27 = 130 := by kernel_rfl
theorem Try.cellsHl : Try.prog.cellsOf 22 = 1 := by kernel_rfl
theorem Try.bytes_hash : 0 < Try.prog.bytesOf 24 := of_decide_eq_true (by kernel_rfl)
theorem Hs_rows (L : List (List UInt8)) : Hs L = (L.map By).flatten := by
  induction L with
  | nil => rfl
  | cons x r ih =>
    have e : Hs (x :: r) = By x ++ Hs r := by simp [Hs, By]
    rw [e, ih]; rfl
theorem drop_split (cs : List Value) (a n : Nat) : cs.drop a = (cs.drop a).take n ++ cs.drop (a + n) := by
  rw [← List.drop_drop, List.take_append_drop]
section
variable {H : Type} {enc : TypeId × Value → H} {w : World} {base : Nat} {held : Bool}
/-- Hashes that were read. -/
theorem read_hashesW {fuel : Nat} {cs : List Value} {x : DataW H × List MemPlace} (h : DataW.trod enc Try.prog w base (fun _ => true) held fuel 22 cs = some x) (hw : Wok 22 x.1) :
    ∃ (A : Option Addr) (c : Nat) (L : List (List UInt8)), cs = [.slice A L.length c] ∧ SeesV w w.heap.size A (Hs L) ∧ All32 L ∧ L.length ≤ 140737488355328 ∧ L.length ≤ c := by
  rcases open_slice Try.underlying22 h with ⟨hcs, _⟩ | ⟨a, len, cap, m, n, D, Pl, hcs, hb, hl, hm, hmm, hxe, hi⟩
  · exact ⟨none, 0, [], hcs, .inl rfl, All32.nil, by simp, by simp⟩
  · simp only [if_true] at hmm
    subst hmm
    subst hxe
    have hwl := Wok.len Try.underlying22 hw Try.bytes_hash
    rw [List.length_map, List.length_range] at hwl
    rw [Try.cellsH] at hi
    have hp : ∀ i, i < len → ∃ p : List UInt8, p.length = 32 ∧ ∀ (j : Nat) (v : Value), (By p)[j]? = some v → w.cell? ((a.add (i * 32)).add j) = some v := by
      intro i him
      obtain ⟨cs', hc, ht⟩ := hi i (by omega)
      obtain ⟨p, rfl, hok⟩ := read_hash ht
      obtain ⟨_, _, hat⟩ := World.cells?_some hc
      refine ⟨p, hok, fun j v hv => ?_⟩
      have hj : j < 32 := by have := (List.getElem?_eq_some_iff.1 hv).1; rw [By_length, hok] at this; exact this
      rw [hat j hj]; exact hv
    obtain ⟨F, hF⟩ := choose_lt hp
    have hin : All32 ((List.range len).map F) := by
      intro p hp
      obtain ⟨i, hi, rfl⟩ := List.mem_map.1 hp
      exact (hF i (List.mem_range.1 hi)).1
    refine ⟨some a, m, (List.range len).map F, by simpa using hcs, ?_, hin, by simpa using hwl, by simpa using hl⟩
    rw [Hs_rows]
    refine rows_seen (n := 32) (len := len) (by simp) (by omega) (by intro r hr; obtain ⟨q, hq, rfl⟩ := List.mem_map.1 hr; rw [By_length]; exact hin q hq) (fun i hi j v hv => ?_)
    simp only [List.getElem_map, List.getElem_range] at hv
    exact (hF i hi).2 j v hv
/-- A header that was read. -/
theorem read_hdr {fuel : Nat} {cs : List Value} {x : DataW H × List MemPlace} (h : DataW.trod enc Try.prog w base (fun _ => true) held fuel 27 cs = some x) (hw : Wok 27 x.1) :
    ∃ t : HdR, cs = hdC t ∧ HdOk w t := by
  obtain ⟨xs, n, _, hxe, hlen, hxl, hf⟩ := DataW.trod_struct Try.underlying27 h
  rw [Try.cellsHd] at hlen
  have hx : xs.length = 6 := hxl
  have g0 : DataW.trod enc Try.prog w base (fun _ => true) held n 22 ((cs.drop 0).take (Try.prog.cellsOf 22)) = xs[0]? := hf 0 _ rfl
  have g1 : DataW.trod enc Try.prog w base (fun _ => true) held n 24 ((cs.drop 1).take (Try.prog.cellsOf 24)) = xs[1]? := hf 1 _ rfl
  have g2 : DataW.trod enc Try.prog w base (fun _ => true) held n 24 ((cs.drop 33).take (Try.prog.cellsOf 24)) = xs[2]? := hf 2 _ rfl
  have g3 : DataW.trod enc Try.prog w base (fun _ => true) held n 24 ((cs.drop 65).take (Try.prog.cellsOf 24)) = xs[3]? := hf 3 _ rfl
  have g4 : DataW.trod enc Try.prog w base (fun _ => true) held n 24 ((cs.drop 97).take (Try.prog.cellsOf 24)) = xs[4]? := hf 4 _ rfl
  have g5 : DataW.trod enc Try.prog w base (fun _ => true) held n 25 ((cs.drop 129).take (Try.prog.cellsOf 25)) = xs[5]? := hf 5 _ rfl
  rw [Try.cellsHl, List.getElem?_eq_getElem (by omega)] at g0
  rw [Try.cellsH, List.getElem?_eq_getElem (by omega)] at g1
  rw [Try.cellsH, List.getElem?_eq_getElem (by omega)] at g2
  rw [Try.cellsH, List.getElem?_eq_getElem (by omega)] at g3
  rw [Try.cellsH, List.getElem?_eq_getElem (by omega)] at g4
  rw [Try.cellsU64, tdo (by omega), List.getElem?_eq_getElem (by omega)] at g5
  subst hxe
  obtain ⟨A, c, I, e0, hs0, hi0, hm0, hc0⟩ := read_hashesW g0 (hw.field Try.underlying27 (j := 0) rfl (by simp; rw [List.getElem?_eq_getElem (by omega)]; exact ⟨_, rfl⟩))
  obtain ⟨l1, e1, k1⟩ := read_hash g1
  obtain ⟨l2, e2, k2⟩ := read_hash g2
  obtain ⟨l3, e3, k3⟩ := read_hash g3
  obtain ⟨l4, e4, k4⟩ := read_hash g4
  obtain ⟨z, e5, _, w2⟩ := DataW.trod_int Try.underlying25 g5
  obtain ⟨k, rfl, hk⟩ := nat_of_wf rfl w2
  have hk2 : (k : Int) ≤ 18446744073709551615 := hk
  refine ⟨⟨A, c, ⟨I, l1, l2, l3, l4, k⟩⟩, ?_, ⟨hs0, ⟨hi0, k1, k2, k3, k4, by show k < _; omega⟩, hc0, hm0⟩⟩
  have s0 := drop_split cs 0 1
  have s1 := drop_split cs 1 32
  have s2 := drop_split cs 33 32
  have s3 := drop_split cs 65 32
  have s4 := drop_split cs 97 32
  have s5 : cs.drop 129 = [.int .u64 (k : Int)] := by
    have e6 : cs[129] = .int .u64 (k : Int) := by simpa using e5
    rw [List.drop_eq_getElem_cons (by omega), e6, List.drop_eq_nil_of_le (by omega)]
  rw [e0, Nat.zero_add, s1, e1, s2, e2, s3, e3, s4, e4, s5, List.drop_zero] at s0
  rw [s0]
  rfl
end
theorem agg_of_hdr {v : Value} {t : HdR} (h : v.cells.toList = hdC t) (f : HdFit t.p) : v = .agg (hdC t).toArray := agg_of_cells h (by rw [hdC_len f]; decide)
end Go.Proofs.Ytjcbihdhkaiidaa
namespace Go.Proofs.Ytjcbihdhkaiidaa
open Go.ChangeShapes Go.WideShapes Go.ChangeAt Go.RowKit Go.Deep

theorem Try.cellsBk : Try.prog.cellsOf 30 = 131 := by kernel_rfl
theorem Try.cellsTl : Try.prog.cellsOf 28 = 1 := by kernel_rfl
theorem Try.bytes_tx : 0 < Try.prog.bytesOf 37 := of_decide_eq_true (by kernel_rfl)
instance : Inhabited TxR := ⟨⟨none, 0, [], none, 0, [], 0⟩⟩
section
variable {H : Type} {enc : TypeId × Value → H} {w : World} {base : Nat} {held : Bool}
/-- Transactions that were read. -/
theorem read_txs {fuel : Nat} {cs : List Value} {x : DataW H × List MemPlace} (h : DataW.trod enc Try.prog w base (fun _ => true) held fuel 28 cs = some x) (hw : Wok 28 x.1) :
    ∃ (A : Option Addr) (c : Nat) (L : List TxR), cs = [.slice A L.length c] ∧ TxsOk w A L c := by
  rcases open_slice Try.underlying28 h with ⟨hcs, _⟩ | ⟨a, len, cap, m, n, D, Pl, hcs, hb, hl, hm, hmm, hxe, hi⟩
  · exact ⟨none, 0, [], hcs, .inl rfl, by intro q hq; exact absurd hq List.not_mem_nil, by simp, by simp⟩
  · simp only [if_true] at hmm
    subst hmm
    subst hxe
    have hwl := Wok.len Try.underlying28 hw Try.bytes_tx
    rw [List.length_map, List.length_range] at hwl
    rw [Try.cellsTx] at hi
    have hp : ∀ i, i < len → ∃ p : TxR, TxOk w p ∧ ∀ (j : Nat) (v : Value), (txC p)[j]? = some v → w.cell? ((a.add (i * 3)).add j) = some v := by
      intro i him
      obtain ⟨cs', hc, ht⟩ := hi i (by omega)
      obtain ⟨p, rfl, hok⟩ := read_tx ht (hw.elem Try.underlying28 (List.mem_map.2 ⟨i, List.mem_range.2 him, rfl⟩))
      obtain ⟨_, _, hat⟩ := World.cells?_some hc
      refine ⟨p, hok, fun j v hv => ?_⟩
      have hj : j < 3 := (List.getElem?_eq_some_iff.1 hv).1
      rw [hat j hj]; exact hv
    obtain ⟨F, hF⟩ := choose_lt hp
    have hin : ∀ i ∈ (List.range len).map F, TxOk w i := by
      intro p hp
      obtain ⟨i, hi, rfl⟩ := List.mem_map.1 hp
      exact (hF i (List.mem_range.1 hi)).1
    refine ⟨some a, m, (List.range len).map F, by simpa using hcs, ?_, hin, by simpa using hl, by simpa using hwl⟩
    refine rows_seen (n := 3) (len := len) (by simp) (by omega) (by intro r hr; obtain ⟨i, h1, rfl⟩ := List.mem_map.1 hr; rfl) (fun i hi j v hv => ?_)
    simp only [List.getElem_map, List.getElem_range] at hv
    exact (hF i hi).2 j v hv
/-- A block that was read. -/
theorem read_blk {fuel : Nat} {cs : List Value} {x : DataW H × List MemPlace} (h : DataW.trod enc Try.prog w base (fun _ => true) held fuel 30 cs = some x) (hw : Wok 30 x.1) :
    ∃ b : BkR, cs = bkC b ∧ BkOk w b := by
  obtain ⟨xs, n, _, hxe, hlen, hxl, hf⟩ := DataW.trod_struct Try.underlying30 h
  rw [Try.cellsBk] at hlen
  have hx : xs.length = 2 := hxl
  have g0 : DataW.trod enc Try.prog w base (fun _ => true) held n 27 ((cs.drop 0).take (Try.prog.cellsOf 27)) = xs[0]? := hf 0 _ rfl
  have g1 : DataW.trod enc Try.prog w base (fun _ => true) held n 28 ((cs.drop 130).take (Try.prog.cellsOf 28)) = xs[1]? := hf 1 _ rfl
  rw [Try.cellsHd, List.getElem?_eq_getElem (by omega)] at g0
  rw [Try.cellsTl, List.getElem?_eq_getElem (by omega)] at g1
  subst hxe
  obtain ⟨h, e0, k0⟩ := read_hdr g0 (hw.field Try.underlying30 (j := 0) rfl (by simp; rw [List.getElem?_eq_getElem (by omega)]; exact ⟨_, rfl⟩))
  obtain ⟨A, c, L, e1, k1⟩ := read_txs g1 (hw.field Try.underlying30 (j := 1) rfl (by simp; rw [List.getElem?_eq_getElem (by omega)]; exact ⟨_, rfl⟩))
  refine ⟨⟨h, A, L, c⟩, ?_, k0, k1⟩
  have s0 := drop_split cs 0 130
  have s1 := drop_split cs 130 1
  rw [e0, Nat.zero_add, s1, e1, List.drop_eq_nil_of_le (show cs.length ≤ 130 + 1 by omega), List.drop_zero] at s0
  rw [s0]
  rfl
end
theorem agg_of_blk {v : Value} {b : BkR} (h : v.cells.toList = bkC b) (f : HdFit b.h.p) : v = .agg (bkC b).toArray := agg_of_cells h (by rw [bkC_len f]; decide)
end Go.Proofs.Ytjcbihdhkaiidaa
