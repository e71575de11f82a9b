/-
  A transaction that comes in, opened.
  A header that comes in, opened. · A block that comes in, opened.
-/
import Derived.Test.YtbloomnifhcgbaaGreatDoorRows
import Derived.Test.YtbloomnifhcgbaaGreatDoorSOpen
import Derived.Test.YtbloomnifhcgbaaGreatDoorTxF0
import Derived.Deep.Slices
import Derived.SizedLaws
import Derived.Test.YtbloomnifhcgbaaGreatDoorBk0
import Derived.Test.YtbloomnifhcgbaaGreatDoorBkB
namespace Go.Proofs.YtbloomnifhcgbaaGreatDoor
open Go.ChangeShapes Go.WideShapes Go.ChangeAt Go.RowKit Go.Deep

theorem Tryz.cellsIn : Tryz.prog.cellsOf 104 = 34 := by kernel_rfl
theorem Tryz.cellsOut : Tryz.prog.cellsOf 106 = 33 := by kernel_rfl
theorem Tryz.cellsTx : Tryz.prog.cellsOf 66 = 3 := by kernel_rfl
theorem Tryz.cellsBs : Tryz.prog.cellsOf 22 = 1 := by kernel_rfl
theorem Tryz.cellsIs : Tryz.prog.cellsOf 63 = 1 := by kernel_rfl
theorem Tryz.cellsOs : Tryz.prog.cellsOf 64 = 1 := by kernel_rfl
theorem Tryz.cellsU64 : Tryz.prog.cellsOf 27 = 1 := by kernel_rfl
def intAtV : Value → Int
  | .int _ n => n
  | _ => 0
theorem len3 {l : List Value} (h : l.length = 3) : ∃ a b c, l = [a, b, c] := match l, h with | [a, b, c], _ => ⟨a, b, c, rfl⟩
theorem agg_of_cells {v : Value} {l : List Value} (h : v.cells.toList = l) (hl : l.length ≠ 1) : v = .agg l.toArray := by
  subst h
  cases v <;> simp_all [Value.cells]
theorem nat_of_wf {k : IntKind} {z : Int} (h0 : k.min = 0) (h : (Lit.int k z).wf = true) : ∃ n : Nat, z = n ∧ (n : Int) ≤ k.max := by
  have h1 : (decide (k.min ≤ z) && decide (z ≤ k.max)) = true := h
  rw [Bool.and_eq_true, decide_eq_true_eq, decide_eq_true_eq, h0] at h1
  exact ⟨z.toNat, by omega, by omega⟩
/-- What a reading weighs, each piece by itself, is within the reach. -/
def Wok {H : Type} (t : TypeId) (d : DataW H) : Prop := ∀ n ∈ d.weights Tryz.prog t, n ≤ 140737488355328
theorem Wok.field {H : Type} {t : TypeId} {fs : Array Field} {parts : List (DataW H)} (hu : Tryz.prog.underlying t = some (.struct fs)) (h : Wok t (.agg parts)) {j : Nat} {ft : TypeId} {d : DataW H} (hf : (fs.toList.map (·.type))[j]? = some ft) (hd : parts[j]? = some d) : Wok ft d := fun n hn =>
  h n (by simp only [DataW.weights, hu]; exact DataW.weights_mem_each hf hd n hn)
theorem weights_mem_all {H : Type} {P : Program} {e : TypeId} : ∀ {ds : List (DataW H)} {d : DataW H}, d ∈ ds → ∀ n ∈ d.weights P e, n ∈ DataW.weightsAll P e ds
  | d0 :: ds, d, hd, n, hn => by
    simp only [DataW.weightsAll, List.mem_append]
    rcases List.mem_cons.1 hd with rfl | hd
    · exact Or.inl hn
    · exact Or.inr (weights_mem_all hd n hn)
theorem Wok.elem {H : Type} {t e : TypeId} {ds sp : List (DataW H)} (hu : Tryz.prog.underlying t = some (.slice e)) (h : Wok t (.slice ds sp)) {d : DataW H} (hd : d ∈ ds) : Wok e d := fun n hn =>
  h n (by simp only [DataW.weights, hu]; exact List.mem_cons_of_mem _ (List.mem_append_left _ (weights_mem_all hd n hn)))
theorem Wok.len {H : Type} {t e : TypeId} {ds sp : List (DataW H)} (hu : Tryz.prog.underlying t = some (.slice e)) (h : Wok t (.slice ds sp)) (h0 : 0 < Tryz.prog.bytesOf e) : ds.length ≤ 140737488355328 := by
  have h1 := h ((ds.length + sp.length) * Tryz.prog.bytesOf e) (by simp only [DataW.weights, hu]; exact List.mem_cons_self)
  have h2 : ds.length ≤ (ds.length + sp.length) * Tryz.prog.bytesOf e := Nat.le_trans (Nat.le_add_right _ _) (Nat.le_mul_of_pos_right _ h0)
  omega
theorem Tryz.bytes_u8 : 0 < Tryz.prog.bytesOf 5 := of_decide_eq_true (by kernel_rfl)
theorem Tryz.bytes_in : 0 < Tryz.prog.bytesOf 104 := of_decide_eq_true (by kernel_rfl)
theorem Tryz.bytes_out : 0 < Tryz.prog.bytesOf 106 := of_decide_eq_true (by kernel_rfl)
instance : Inhabited InR := ⟨⟨[], 0, none, 0, []⟩⟩
instance : Inhabited OutR := ⟨⟨0, []⟩⟩
section
variable {H : Type} {enc : TypeId × Value → H} {w : World} {base : Nat} {held : Bool}
/-- A hash that was read. -/
theorem read_hash {fuel : Nat} {cs : List Value} {x : DataW H × List MemPlace} (h : DataW.trod enc Tryz.prog w base (fun _ => true) held fuel 26 cs = some x) :
    ∃ l : List UInt8, cs = By l ∧ l.length = 32 := by
  obtain ⟨xs, m, _, _, hlen, hxl, hf⟩ := DataW.trod_array Tryz.underlying26 h
  rw [Tryz.cellsH] at hlen
  have hz : ∀ i (hi : i < cs.length), ∃ z : Int, cs[i] = .int .u8 z ∧ (Lit.int .u8 z).wf = true := by
    intro i hi
    have h1 := hf i (by omega)
    rw [Tryz.cellsB, Nat.mul_one, tdo hi, List.getElem?_eq_getElem (by omega)] at h1
    obtain ⟨n, e, _, hw⟩ := DataW.trod_int Tryz.underlying5 h1
    exact ⟨n, by simpa using e, hw⟩
  refine ⟨cs.map fun v => UInt8.ofNat (intAtV v).toNat, ?_, by simp [hlen]⟩
  apply List.ext_getElem
  · simp [By]
  · intro i h1 h2
    obtain ⟨z, hz1, hz2⟩ := hz i h1
    simp only [By, List.getElem_map, hz1, intAtV]
    rw [toB_cast hz2]
/-- An outpoint that was read. -/
theorem read_pt {fuel : Nat} {cs : List Value} {x : DataW H × List MemPlace} (h : DataW.trod enc Tryz.prog w base (fun _ => true) held fuel 102 cs = some x) :
    ∃ (l : List UInt8) (n : Nat), cs = By l ++ [.int .u32 (n : Int)] ∧ l.length = 32 ∧ n < 4294967296 := by
  obtain ⟨xs, m, _, _, hlen, hxl, hf⟩ := DataW.trod_struct Tryz.underlying102 h
  rw [Tryz.cellsPt] at hlen
  have hx : xs.length = 2 := hxl
  have g0 : DataW.trod enc Tryz.prog w base (fun _ => true) held m 26 ((cs.drop 0).take (Tryz.prog.cellsOf 26)) = xs[0]? := hf 0 _ rfl
  have g1 : DataW.trod enc Tryz.prog w base (fun _ => true) held m 100 ((cs.drop 32).take (Tryz.prog.cellsOf 100)) = xs[1]? := hf 1 _ rfl
  rw [Tryz.cellsH, List.getElem?_eq_getElem (by omega)] at g0
  rw [Tryz.cellsN, List.getElem?_eq_getElem (by omega), tdo (by omega)] at g1
  obtain ⟨l, hl, hl32⟩ := read_hash g0
  obtain ⟨z, e1, _, w1⟩ := DataW.trod_int Tryz.underlying100 g1
  obtain ⟨n, rfl, hn⟩ := nat_of_wf rfl w1
  have hn2 : (n : Int) ≤ 4294967295 := hn
  refine ⟨l, n, ?_, hl32, by omega⟩
  have e2 : cs = cs.take 32 ++ cs.drop 32 := (List.take_append_drop 32 cs).symm
  have e3 : cs.drop 32 = [cs[32]] := by rw [List.drop_eq_getElem_cons (by omega), List.drop_eq_nil_of_le (by omega)]
  rw [e2, e3]
  rw [List.drop_zero] at hl
  rw [hl]
  have e4 : cs[32] = .int .u32 (n : Int) := by simpa using e1
  rw [e4]
/-- A row of bytes that was read, within the reach. -/
theorem read_bytesW {fuel : Nat} {cs : List Value} {x : DataW H × List MemPlace} (h : DataW.trod enc Tryz.prog w base (fun _ => true) held fuel 22 cs = some x) (hw : Wok 22 x.1) :
    ∃ (A : Option Addr) (c : Nat) (l : List UInt8), cs = [.slice A l.length c] ∧ Sees w w.heap.size A l ∧ l.length ≤ 140737488355328 ∧ l.length ≤ c := by
  obtain ⟨A, c, l, e1, hs, _, hc, _⟩ := read_bytes h
  refine ⟨A, c, l, e1, hs, ?_, hc⟩
  rcases DataW.trod_slice Tryz.underlying22 h with ⟨h0, _⟩ | ⟨a, len, cap, elems, rest, n, _, h0, hx, _, _, _, hlen, _⟩
  · rw [e1] at h0
    simp at h0
    omega
  · rw [e1] at h0
    simp at h0
    subst hx
    have := Wok.len Tryz.underlying22 hw Tryz.bytes_u8
    rw [List.length_map, hlen] at this
    omega
/-- An input that was read. -/
theorem read_in {fuel : Nat} {cs : List Value} {x : DataW H × List MemPlace} (h : DataW.trod enc Tryz.prog w base (fun _ => true) held fuel 104 cs = some x) (hw : Wok 104 x.1) :
    ∃ i : InR, cs = inC i ∧ InOk w i := by
  obtain ⟨xs, m, _, hxe, hlen, hxl, hf⟩ := DataW.trod_struct Tryz.underlying104 h
  rw [Tryz.cellsIn] at hlen
  have hx : xs.length = 2 := hxl
  have g0 : DataW.trod enc Tryz.prog w base (fun _ => true) held m 102 ((cs.drop 0).take (Tryz.prog.cellsOf 102)) = xs[0]? := hf 0 _ rfl
  have g1 : DataW.trod enc Tryz.prog w base (fun _ => true) held m 22 ((cs.drop 33).take (Tryz.prog.cellsOf 22)) = xs[1]? := hf 1 _ rfl
  rw [Tryz.cellsPt, List.getElem?_eq_getElem (by omega)] at g0
  rw [Tryz.cellsBs, List.getElem?_eq_getElem (by omega), tdo (by omega)] at g1
  obtain ⟨l, n, hl, hl32, hn⟩ := read_pt g0
  subst hxe
  obtain ⟨A, c, L, e1, hs, hm, hc⟩ := read_bytesW g1 (hw.field Tryz.underlying104 (j := 1) rfl (by simp; rw [List.getElem?_eq_getElem (by omega)]; exact ⟨_, rfl⟩))
  refine ⟨⟨l, n, A, c, L⟩, ?_, hl32, hn, hc, hs, hm⟩
  have e2 : cs = cs.take 33 ++ cs.drop 33 := (List.take_append_drop 33 cs).symm
  have e3 : cs.drop 33 = [cs[33]] := by rw [List.drop_eq_getElem_cons (by omega), List.drop_eq_nil_of_le (by omega)]
  rw [List.drop_zero] at hl
  have e4 : cs[33] = .slice A L.length c := by simpa using e1
  rw [e2, e3, hl, e4]
  simp [inC]
/-- An output that was read. -/
theorem read_out {fuel : Nat} {cs : List Value} {x : DataW H × List MemPlace} (h : DataW.trod enc Tryz.prog w base (fun _ => true) held fuel 106 cs = some x) :
    ∃ o : OutR, cs = outC o ∧ OutOk o := by
  obtain ⟨xs, m, _, _, hlen, hxl, hf⟩ := DataW.trod_struct Tryz.underlying106 h
  rw [Tryz.cellsOut] at hlen
  have hx : xs.length = 2 := hxl
  have g0 : DataW.trod enc Tryz.prog w base (fun _ => true) held m 27 ((cs.drop 0).take (Tryz.prog.cellsOf 27)) = xs[0]? := hf 0 _ rfl
  have g1 : DataW.trod enc Tryz.prog w base (fun _ => true) held m 26 ((cs.drop 1).take (Tryz.prog.cellsOf 26)) = xs[1]? := hf 1 _ rfl
  rw [Tryz.cellsU64, List.getElem?_eq_getElem (by omega), tdo (by omega)] at g0
  rw [Tryz.cellsH, List.getElem?_eq_getElem (by omega)] at g1
  obtain ⟨z, e1, _, w1⟩ := DataW.trod_int Tryz.underlying27 g0
  obtain ⟨l, hl, hl32⟩ := read_hash g1
  obtain ⟨n, rfl, hn⟩ := nat_of_wf rfl w1
  have hn2 : (n : Int) ≤ 18446744073709551615 := hn
  refine ⟨⟨n, l⟩, ?_, by show n < _; omega, hl32⟩
  have e4 : cs[0] = .int .u64 (n : Int) := by simpa using e1
  have e5 : cs.drop 1 = By l := by rw [← hl, List.take_of_length_le (by rw [List.length_drop]; omega)]
  have e6 : cs = cs[0] :: cs.drop 1 := by have := List.drop_eq_getElem_cons (l := cs) (i := 0) (by omega); rw [List.drop_zero] at this; exact this
  rw [e6, e4, e5]
  rfl
/-- Rows of rows of one length that lie behind one another. -/
theorem rows_seen {a : Addr} {len n : Nat} {L : List (List Value)} (hL : L.length = len) (hn : 0 < n) (h : ∀ r ∈ L, r.length = n) (hc : ∀ i (hi : i < len) (j : Nat) (v : Value), (L[i]'(by omega))[j]? = some v → w.cell? ((a.add (i * n)).add j) = some v) : SeesV w w.heap.size (some a) L.flatten := by
  by_cases h0 : len = 0
  · left; rw [List.eq_nil_of_length_eq_zero (hL.trans h0)]; rfl
  · right
    have hl0 : (L[0]'(by omega)).length = n := h _ (List.getElem_mem _)
    have hc0 := hc 0 (by omega) 0 _ (List.getElem?_eq_getElem (by omega))
    obtain ⟨b, off, spot⟩ := a
    have hsp : spot = none := by
      cases spot with
      | none => rfl
      | some s =>
        exfalso
        simp only [Addr.add, World.cell?] at hc0
        split at hc0 <;> simp at hc0
    subst hsp
    simp only [Addr.add_lit] at hc hc0
    refine ⟨b, off, rfl, World.block_lt_of_cell? _ _ hc0, fun j hj => ?_⟩
    have hfl := flat_len h
    have hjl : j < len * n := by rw [hfl, hL] at hj; exact hj
    have hk : j / n < len := Nat.div_lt_of_lt_mul (by rw [Nat.mul_comm]; exact hjl)
    have hm : j % n < n := Nat.mod_lt _ hn
    have h2 := flat_at h (k := j / n) (by omega) (j % n) hm
    have e : j / n * n + j % n = j := by rw [Nat.mul_comm]; exact Nat.div_add_mod j n
    rw [e, List.getElem?_eq_getElem hj] at h2
    have h3 := hc (j / n) hk (j % n) _ h2.symm
    rw [show off + j / n * n + j % n = off + j by omega] at h3
    exact h3
/-- Inputs that were read. -/
theorem read_ins {fuel : Nat} {cs : List Value} {x : DataW H × List MemPlace} (h : DataW.trod enc Tryz.prog w base (fun _ => true) held fuel 63 cs = some x) (hw : Wok 63 x.1) :
    ∃ (A : Option Addr) (c : Nat) (L : List InR), cs = [.slice A L.length c] ∧ SeesV w w.heap.size A (insC L) ∧ (∀ i ∈ L, InOk w i) ∧ L.length ≤ 140737488355328 ∧ L.length ≤ c := by
  rcases open_slice Tryz.underlying63 h with ⟨hcs, _⟩ | ⟨a, len, cap, m, n, D, Pl, hcs, hb, hl, hm, hmm, hxe, hi⟩
  · exact ⟨none, 0, [], hcs, .inl rfl, by intro q hq; exact absurd hq List.not_mem_nil, by simp, by simp⟩
  · simp only [if_true] at hmm
    subst hmm
    subst hxe
    have hwl := Wok.len Tryz.underlying63 hw Tryz.bytes_in
    rw [List.length_map, List.length_range] at hwl
    rw [Tryz.cellsIn] at hi
    have hp : ∀ i, i < len → ∃ p : InR, InOk w p ∧ ∀ (j : Nat) (v : Value), (inC p)[j]? = some v → w.cell? ((a.add (i * 34)).add j) = some v := by
      intro i him
      obtain ⟨cs', hc, ht⟩ := hi i (by omega)
      obtain ⟨p, rfl, hok⟩ := read_in ht (hw.elem Tryz.underlying63 (List.mem_map.2 ⟨i, List.mem_range.2 him, rfl⟩))
      obtain ⟨_, _, hat⟩ := World.cells?_some hc
      refine ⟨p, hok, fun j v hv => ?_⟩
      have hj : j < 34 := by have := (List.getElem?_eq_some_iff.1 hv).1; rw [inC_len hok.id] at this; exact this
      rw [hat j hj]; exact hv
    obtain ⟨F, hF⟩ := choose_lt hp
    have hin : ∀ i ∈ (List.range len).map F, InOk w i := by
      intro p hp
      obtain ⟨i, hi, rfl⟩ := List.mem_map.1 hp
      exact (hF i (List.mem_range.1 hi)).1
    refine ⟨some a, m, (List.range len).map F, by simpa using hcs, ?_, hin, by simpa using hwl, by simpa using hl⟩
    refine rows_seen (n := 34) (len := len) (by simp) (by omega) (by intro r hr; obtain ⟨i, h1, rfl⟩ := List.mem_map.1 hr; exact inC_len (hin i h1).id) (fun i hi j v hv => ?_)
    simp only [List.getElem_map, List.getElem_range] at hv
    exact (hF i hi).2 j v hv
/-- Outputs that were read. -/
theorem read_outs {fuel : Nat} {cs : List Value} {x : DataW H × List MemPlace} (h : DataW.trod enc Tryz.prog w base (fun _ => true) held fuel 64 cs = some x) (hw : Wok 64 x.1) :
    ∃ (A : Option Addr) (c : Nat) (L : List OutR), cs = [.slice A L.length c] ∧ SeesV w w.heap.size A (outsC L) ∧ (∀ o ∈ L, OutOk o) ∧ L.length ≤ 140737488355328 ∧ L.length ≤ c := by
  rcases open_slice Tryz.underlying64 h with ⟨hcs, _⟩ | ⟨a, len, cap, m, n, D, Pl, hcs, hb, hl, hm, hmm, hxe, hi⟩
  · exact ⟨none, 0, [], hcs, .inl rfl, by intro q hq; exact absurd hq List.not_mem_nil, by simp, by simp⟩
  · simp only [if_true] at hmm
    subst hmm
    subst hxe
    have hwl := Wok.len Tryz.underlying64 hw Tryz.bytes_out
    rw [List.length_map, List.length_range] at hwl
    rw [Tryz.cellsOut] at hi
    have hp : ∀ i, i < len → ∃ p : OutR, OutOk p ∧ ∀ (j : Nat) (v : Value), (outC p)[j]? = some v → w.cell? ((a.add (i * 33)).add j) = some v := by
      intro i him
      obtain ⟨cs', hc, ht⟩ := hi i (by omega)
      obtain ⟨p, rfl, hok⟩ := read_out ht
      obtain ⟨_, _, hat⟩ := World.cells?_some hc
      refine ⟨p, hok, fun j v hv => ?_⟩
      have hj : j < 33 := by have := (List.getElem?_eq_some_iff.1 hv).1; rw [outC_len hok.lock] at this; exact this
      rw [hat j hj]; exact hv
    obtain ⟨F, hF⟩ := choose_lt hp
    have hin : ∀ i ∈ (List.range len).map F, OutOk i := by
      intro p hp
      obtain ⟨i, hi, rfl⟩ := List.mem_map.1 hp
      exact (hF i (List.mem_range.1 hi)).1
    refine ⟨some a, m, (List.range len).map F, by simpa using hcs, ?_, hin, by simpa using hwl, by simpa using hl⟩
    refine rows_seen (n := 33) (len := len) (by simp) (by omega) (by intro r hr; obtain ⟨i, h1, rfl⟩ := List.mem_map.1 hr; exact outC_len (hin i h1).lock) (fun i hi j v hv => ?_)
    simp only [List.getElem_map, List.getElem_range] at hv
    exact (hF i hi).2 j v hv
/-- A transaction that was read. -/
theorem read_tx {fuel : Nat} {cs : List Value} {x : DataW H × List MemPlace} (h : DataW.trod enc Tryz.prog w base (fun _ => true) held fuel 66 cs = some x) (hw : Wok 66 x.1) :
    ∃ t : TxR, cs = txC t ∧ TxOk w t := by
  obtain ⟨xs, n, _, hxe, hlen, hxl, hf⟩ := DataW.trod_struct Tryz.underlying66 h
  rw [Tryz.cellsTx] at hlen
  have hx : xs.length = 3 := hxl
  have g0 : DataW.trod enc Tryz.prog w base (fun _ => true) held n 63 ((cs.drop 0).take (Tryz.prog.cellsOf 63)) = xs[0]? := hf 0 _ rfl
  have g1 : DataW.trod enc Tryz.prog w base (fun _ => true) held n 64 ((cs.drop 1).take (Tryz.prog.cellsOf 64)) = xs[1]? := hf 1 _ rfl
  have g2 : DataW.trod enc Tryz.prog w base (fun _ => true) held n 27 ((cs.drop 2).take (Tryz.prog.cellsOf 27)) = xs[2]? := hf 2 _ rfl
  rw [Tryz.cellsIs, tdo (by omega), List.getElem?_eq_getElem (by omega)] at g0
  rw [Tryz.cellsOs, tdo (by omega), List.getElem?_eq_getElem (by omega)] at g1
  rw [Tryz.cellsU64, tdo (by omega), List.getElem?_eq_getElem (by omega)] at g2
  subst hxe
  obtain ⟨A, c, I, e0, hs0, hi0, hm0, hc0⟩ := read_ins g0 (hw.field Tryz.underlying66 (j := 0) rfl (by simp; rw [List.getElem?_eq_getElem (by omega)]; exact ⟨_, rfl⟩))
  obtain ⟨B, d, O, e1, hs1, hi1, hm1, hc1⟩ := read_outs g1 (hw.field Tryz.underlying66 (j := 1) rfl (by simp; rw [List.getElem?_eq_getElem (by omega)]; exact ⟨_, rfl⟩))
  obtain ⟨z, e2, _, w2⟩ := DataW.trod_int Tryz.underlying27 g2
  obtain ⟨k, rfl, hk⟩ := nat_of_wf rfl w2
  have hk2 : (k : Int) ≤ 18446744073709551615 := hk
  refine ⟨⟨A, c, I, B, d, O, k⟩, ?_, hs0, hi0, hs1, hi1, hc0, hc1, by show k < _; omega, hm0, hm1⟩
  clear h hf g0 g1 g2 hs0 hi0 hs1 hi1
  obtain ⟨c0, c1, c2, rfl⟩ := len3 hlen
  simp at e0 e1 e2
  simp [e0, e1, e2, txC]
end
theorem agg_of_tx {v : Value} {t : TxR} (h : v.cells.toList = txC t) : v = .agg (txC t).toArray := agg_of_cells h (show (3 : Nat) ≠ 1 by decide)
end Go.Proofs.YtbloomnifhcgbaaGreatDoor

namespace Go.Proofs.YtbloomnifhcgbaaGreatDoor
open Go.ChangeShapes Go.WideShapes Go.ChangeAt Go.RowKit Go.Deep

theorem Tryz.cellsHd : Tryz.prog.cellsOf 29 = 130 := by kernel_rfl
theorem Tryz.cellsHl : Tryz.prog.cellsOf 24 = 1 := by kernel_rfl
theorem Tryz.bytes_hash : 0 < Tryz.prog.bytesOf 26 := of_decide_eq_true (by kernel_rfl)
theorem Hs_rows (L : List (List UInt8)) : Hs L = (L.map By).flatten := by
  induction L with
  | nil => rfl
  | cons x r ih =>
    have e : Hs (x :: r) = By x ++ Hs r := by simp [Hs, By]
    rw [e, ih]; rfl
theorem drop_split (cs : List Value) (a n : Nat) : cs.drop a = (cs.drop a).take n ++ cs.drop (a + n) := by
  rw [← List.drop_drop, List.take_append_drop]
section
variable {H : Type} {enc : TypeId × Value → H} {w : World} {base : Nat} {held : Bool}
/-- Hashes that were read. -/
theorem read_hashesW {fuel : Nat} {cs : List Value} {x : DataW H × List MemPlace} (h : DataW.trod enc Tryz.prog w base (fun _ => true) held fuel 24 cs = some x) (hw : Wok 24 x.1) :
    ∃ (A : Option Addr) (c : Nat) (L : List (List UInt8)), cs = [.slice A L.length c] ∧ SeesV w w.heap.size A (Hs L) ∧ All32 L ∧ L.length ≤ 140737488355328 ∧ L.length ≤ c := by
  rcases open_slice Tryz.underlying24 h with ⟨hcs, _⟩ | ⟨a, len, cap, m, n, D, Pl, hcs, hb, hl, hm, hmm, hxe, hi⟩
  · exact ⟨none, 0, [], hcs, .inl rfl, All32.nil, by simp, by simp⟩
  · simp only [if_true] at hmm
    subst hmm
    subst hxe
    have hwl := Wok.len Tryz.underlying24 hw Tryz.bytes_hash
    rw [List.length_map, List.length_range] at hwl
    rw [Tryz.cellsH] at hi
    have hp : ∀ i, i < len → ∃ p : List UInt8, p.length = 32 ∧ ∀ (j : Nat) (v : Value), (By p)[j]? = some v → w.cell? ((a.add (i * 32)).add j) = some v := by
      intro i him
      obtain ⟨cs', hc, ht⟩ := hi i (by omega)
      obtain ⟨p, rfl, hok⟩ := read_hash ht
      obtain ⟨_, _, hat⟩ := World.cells?_some hc
      refine ⟨p, hok, fun j v hv => ?_⟩
      have hj : j < 32 := by have := (List.getElem?_eq_some_iff.1 hv).1; rw [By_length, hok] at this; exact this
      rw [hat j hj]; exact hv
    obtain ⟨F, hF⟩ := choose_lt hp
    have hin : All32 ((List.range len).map F) := by
      intro p hp
      obtain ⟨i, hi, rfl⟩ := List.mem_map.1 hp
      exact (hF i (List.mem_range.1 hi)).1
    refine ⟨some a, m, (List.range len).map F, by simpa using hcs, ?_, hin, by simpa using hwl, by simpa using hl⟩
    rw [Hs_rows]
    refine rows_seen (n := 32) (len := len) (by simp) (by omega) (by intro r hr; obtain ⟨q, hq, rfl⟩ := List.mem_map.1 hr; rw [By_length]; exact hin q hq) (fun i hi j v hv => ?_)
    simp only [List.getElem_map, List.getElem_range] at hv
    exact (hF i hi).2 j v hv
/-- A header that was read. -/
theorem read_hdr {fuel : Nat} {cs : List Value} {x : DataW H × List MemPlace} (h : DataW.trod enc Tryz.prog w base (fun _ => true) held fuel 29 cs = some x) (hw : Wok 29 x.1) :
    ∃ t : HdR, cs = hdC t ∧ HdOk w t := by
  obtain ⟨xs, n, _, hxe, hlen, hxl, hf⟩ := DataW.trod_struct Tryz.underlying29 h
  rw [Tryz.cellsHd] at hlen
  have hx : xs.length = 6 := hxl
  have g0 : DataW.trod enc Tryz.prog w base (fun _ => true) held n 24 ((cs.drop 0).take (Tryz.prog.cellsOf 24)) = xs[0]? := hf 0 _ rfl
  have g1 : DataW.trod enc Tryz.prog w base (fun _ => true) held n 26 ((cs.drop 1).take (Tryz.prog.cellsOf 26)) = xs[1]? := hf 1 _ rfl
  have g2 : DataW.trod enc Tryz.prog w base (fun _ => true) held n 26 ((cs.drop 33).take (Tryz.prog.cellsOf 26)) = xs[2]? := hf 2 _ rfl
  have g3 : DataW.trod enc Tryz.prog w base (fun _ => true) held n 26 ((cs.drop 65).take (Tryz.prog.cellsOf 26)) = xs[3]? := hf 3 _ rfl
  have g4 : DataW.trod enc Tryz.prog w base (fun _ => true) held n 26 ((cs.drop 97).take (Tryz.prog.cellsOf 26)) = xs[4]? := hf 4 _ rfl
  have g5 : DataW.trod enc Tryz.prog w base (fun _ => true) held n 27 ((cs.drop 129).take (Tryz.prog.cellsOf 27)) = xs[5]? := hf 5 _ rfl
  rw [Tryz.cellsHl, List.getElem?_eq_getElem (by omega)] at g0
  rw [Tryz.cellsH, List.getElem?_eq_getElem (by omega)] at g1
  rw [Tryz.cellsH, List.getElem?_eq_getElem (by omega)] at g2
  rw [Tryz.cellsH, List.getElem?_eq_getElem (by omega)] at g3
  rw [Tryz.cellsH, List.getElem?_eq_getElem (by omega)] at g4
  rw [Tryz.cellsU64, tdo (by omega), List.getElem?_eq_getElem (by omega)] at g5
  subst hxe
  obtain ⟨A, c, I, e0, hs0, hi0, hm0, hc0⟩ := read_hashesW g0 (hw.field Tryz.underlying29 (j := 0) rfl (by simp; rw [List.getElem?_eq_getElem (by omega)]; exact ⟨_, rfl⟩))
  obtain ⟨l1, e1, k1⟩ := read_hash g1
  obtain ⟨l2, e2, k2⟩ := read_hash g2
  obtain ⟨l3, e3, k3⟩ := read_hash g3
  obtain ⟨l4, e4, k4⟩ := read_hash g4
  obtain ⟨z, e5, _, w2⟩ := DataW.trod_int Tryz.underlying27 g5
  obtain ⟨k, rfl, hk⟩ := nat_of_wf rfl w2
  have hk2 : (k : Int) ≤ 18446744073709551615 := hk
  refine ⟨⟨A, c, ⟨I, l1, l2, l3, l4, k⟩⟩, ?_, ⟨hs0, ⟨hi0, k1, k2, k3, k4, by show k < _; omega⟩, hc0, hm0⟩⟩
  have s0 := drop_split cs 0 1
  have s1 := drop_split cs 1 32
  have s2 := drop_split cs 33 32
  have s3 := drop_split cs 65 32
  have s4 := drop_split cs 97 32
  have s5 : cs.drop 129 = [.int .u64 (k : Int)] := by
    have e6 : cs[129] = .int .u64 (k : Int) := by simpa using e5
    rw [List.drop_eq_getElem_cons (by omega), e6, List.drop_eq_nil_of_le (by omega)]
  rw [e0, Nat.zero_add, s1, e1, s2, e2, s3, e3, s4, e4, s5, List.drop_zero] at s0
  rw [s0]
  rfl
end
theorem agg_of_hdr {v : Value} {t : HdR} (h : v.cells.toList = hdC t) (f : HdFit t.p) : v = .agg (hdC t).toArray := agg_of_cells h (by rw [hdC_len f]; decide)
end Go.Proofs.YtbloomnifhcgbaaGreatDoor
namespace Go.Proofs.YtbloomnifhcgbaaGreatDoor
open Go.ChangeShapes Go.WideShapes Go.ChangeAt Go.RowKit Go.Deep

theorem Tryz.cellsBk : Tryz.prog.cellsOf 32 = 131 := by kernel_rfl
theorem Tryz.cellsTl : Tryz.prog.cellsOf 30 = 1 := by kernel_rfl
theorem Tryz.bytes_tx : 0 < Tryz.prog.bytesOf 66 := of_decide_eq_true (by kernel_rfl)
instance : Inhabited TxR := ⟨⟨none, 0, [], none, 0, [], 0⟩⟩
section
variable {H : Type} {enc : TypeId × Value → H} {w : World} {base : Nat} {held : Bool}
/-- Transactions that were read. -/
theorem read_txs {fuel : Nat} {cs : List Value} {x : DataW H × List MemPlace} (h : DataW.trod enc Tryz.prog w base (fun _ => true) held fuel 30 cs = some x) (hw : Wok 30 x.1) :
    ∃ (A : Option Addr) (c : Nat) (L : List TxR), cs = [.slice A L.length c] ∧ TxsOk w A L c := by
  rcases open_slice Tryz.underlying30 h with ⟨hcs, _⟩ | ⟨a, len, cap, m, n, D, Pl, hcs, hb, hl, hm, hmm, hxe, hi⟩
  · exact ⟨none, 0, [], hcs, .inl rfl, by intro q hq; exact absurd hq List.not_mem_nil, by simp, by simp⟩
  · simp only [if_true] at hmm
    subst hmm
    subst hxe
    have hwl := Wok.len Tryz.underlying30 hw Tryz.bytes_tx
    rw [List.length_map, List.length_range] at hwl
    rw [Tryz.cellsTx] at hi
    have hp : ∀ i, i < len → ∃ p : TxR, TxOk w p ∧ ∀ (j : Nat) (v : Value), (txC p)[j]? = some v → w.cell? ((a.add (i * 3)).add j) = some v := by
      intro i him
      obtain ⟨cs', hc, ht⟩ := hi i (by omega)
      obtain ⟨p, rfl, hok⟩ := read_tx ht (hw.elem Tryz.underlying30 (List.mem_map.2 ⟨i, List.mem_range.2 him, rfl⟩))
      obtain ⟨_, _, hat⟩ := World.cells?_some hc
      refine ⟨p, hok, fun j v hv => ?_⟩
      have hj : j < 3 := (List.getElem?_eq_some_iff.1 hv).1
      rw [hat j hj]; exact hv
    obtain ⟨F, hF⟩ := choose_lt hp
    have hin : ∀ i ∈ (List.range len).map F, TxOk w i := by
      intro p hp
      obtain ⟨i, hi, rfl⟩ := List.mem_map.1 hp
      exact (hF i (List.mem_range.1 hi)).1
    refine ⟨some a, m, (List.range len).map F, by simpa using hcs, ?_, hin, by simpa using hl, by simpa using hwl⟩
    refine rows_seen (n := 3) (len := len) (by simp) (by omega) (by intro r hr; obtain ⟨i, h1, rfl⟩ := List.mem_map.1 hr; rfl) (fun i hi j v hv => ?_)
    simp only [List.getElem_map, List.getElem_range] at hv
    exact (hF i hi).2 j v hv
/-- A block that was read. -/
theorem read_blk {fuel : Nat} {cs : List Value} {x : DataW H × List MemPlace} (h : DataW.trod enc Tryz.prog w base (fun _ => true) held fuel 32 cs = some x) (hw : Wok 32 x.1) :
    ∃ b : BkR, cs = bkC b ∧ BkOk w b := by
  obtain ⟨xs, n, _, hxe, hlen, hxl, hf⟩ := DataW.trod_struct Tryz.underlying32 h
  rw [Tryz.cellsBk] at hlen
  have hx : xs.length = 2 := hxl
  have g0 : DataW.trod enc Tryz.prog w base (fun _ => true) held n 29 ((cs.drop 0).take (Tryz.prog.cellsOf 29)) = xs[0]? := hf 0 _ rfl
  have g1 : DataW.trod enc Tryz.prog w base (fun _ => true) held n 30 ((cs.drop 130).take (Tryz.prog.cellsOf 30)) = xs[1]? := hf 1 _ rfl
  rw [Tryz.cellsHd, List.getElem?_eq_getElem (by omega)] at g0
  rw [Tryz.cellsTl, List.getElem?_eq_getElem (by omega)] at g1
  subst hxe
  obtain ⟨h, e0, k0⟩ := read_hdr g0 (hw.field Tryz.underlying32 (j := 0) rfl (by simp; rw [List.getElem?_eq_getElem (by omega)]; exact ⟨_, rfl⟩))
  obtain ⟨A, c, L, e1, k1⟩ := read_txs g1 (hw.field Tryz.underlying32 (j := 1) rfl (by simp; rw [List.getElem?_eq_getElem (by omega)]; exact ⟨_, rfl⟩))
  refine ⟨⟨h, A, L, c⟩, ?_, k0, k1⟩
  have s0 := drop_split cs 0 130
  have s1 := drop_split cs 130 1
  rw [e0, Nat.zero_add, s1, e1, List.drop_eq_nil_of_le (show cs.length ≤ 130 + 1 by omega), List.drop_zero] at s0
  rw [s0]
  rfl
end
theorem agg_of_blk {v : Value} {b : BkR} (h : v.cells.toList = bkC b) (f : HdFit b.h.p) : v = .agg (bkC b).toArray := agg_of_cells h (by rw [bkC_len f]; decide)
end Go.Proofs.YtbloomnifhcgbaaGreatDoor
