/-
  tx: is one of the inputs long; the closures that ask for counts and lengths. · tx: the outpoints that are spent, a map; how many there are. · tx: spent: the map of outpoints.
-/
import Derived.Test.YtbloomnifhcgbaaGreatDoorTx0
import Derived.Maps.OwnSet
import Derived.DeepKeys4
import Derived.Test.YtbloomnifhcgbaaGreatDoorCopy
namespace Go.Proofs.YtbloomnifhcgbaaGreatDoor
open Go.RowKit

theorem nxRf (w : World) : Below w.heap.size w w := Below.refl _ _
theorem nxAl {w W : World} (h : Below w.heap.size w W) (o : Obj) : Below w.heap.size w (W.alloc o) := h.alloc h.size o
theorem nxTr {w w1 w2 : World} (h : Below w.heap.size w w1) (h' : Below w1.heap.size w1 w2) : Below w.heap.size w w2 := h.trans ⟨h'.os, h'.tape, h'.output, h'.size, fun b hb => h'.block b (Nat.lt_of_lt_of_le hb h.size)⟩
theorem rngB {w w' : World} {B b o : Nat} {cs : List Value} (h : w.rangeAt b o cs) (hb : Below B w w') (hlt : b < B) : w'.rangeAt b o cs := fun j v hv => (hb.cell (p := ⟨b, o + j, none⟩) hlt).trans (h j v hv)
theorem blkR {w : World} {g : Nat} {t : TypeId} {vs : List Value} (h : Blk w g t vs.toArray) : w.rangeAt g 0 vs := by
  intro j v hv
  rw [Nat.zero_add, h.cell j]
  simpa using hv

set_option maxHeartbeats 1000000 in
set_option maxRecDepth 100000 in
theorem index_any (w : World) (A : Option Addr) (n c : Nat) (l : List InR) (hn : n = l.length) (hS : SeesV w w.heap.size A (insC l)) (hi : ∀ i ∈ l, i.id.length = 32 ∧ i.wit.length ≤ 140737488355328) (hmax : n ≤ 140737488355328) :
    Calls Tryz.prog 117 #[.slice A n c, .func (.func 105) #[] #[]] w fun e w' => (∃ r : Int, e = .returned (.int .i64 r) ∧ decide (0 ≤ r) = l.any longB) ∧ Below w.heap.size w w' := by
  subst hn
  have HS := Lib.hid hS
  have HI := Lib.hid hi
  clear hS hi
  go_enter Tryz.func117, Tryz.ntmps117
  go_wp2
  go_loopw [8] (fun iv wr => ∃ k : Nat, k ≤ l.length ∧ iv = .int .i64 k ∧ Hid (∀ j (h : j < l.length), j < k → longB l[j] = false) ∧ Hid (Below w.heap.size w wr)) (fun iv _ => l.length - (intOf iv).toNat)
  case atStart => exact ⟨0, by omega, rfl, fun j _ h => absurd h (Nat.not_lt_zero _), nxRf w⟩
  case round =>
    obtain ⟨k, hk, rfl, HN, Hb⟩ := hrel
    by_cases hlt : k < l.length
    · obtain ⟨b, off, rfl, hbb, hr⟩ := insC_row HS.out (fun i h => (HI.out i h).1) (by omega)
      have hrk := rngB (hr k hlt) Hb.out hbb
      have hik := HI.out _ (List.getElem_mem hlt)
      obtain ⟨i, hi⟩ : ∃ i, l[k] = i := ⟨_, rfl⟩
      rw [hi] at hrk hik
      have HLk : Hid (l[k] = i) := hi
      have HR := Lib.hid hrk
      have HIk := Lib.hid hik
      have HZ : Hid ((Tryz.prog.info? 104).map (·.size) = some (inC i).length) := by show _ = _; rw [inC_len hik.1]; exact Tryz.sizeIn
      obtain ⟨z, hz⟩ : ∃ z, longB i = z := ⟨_, rfl⟩
      have HLg := Lib.hid hz
      clear hr hrk hik hi hz
      cases z with
      | true =>
        go_wp2_with (first
          | ((with_reducible show wpList _ _ _ (⟨some 15, _, _, _, _, _⟩ :: _) _ _); refine wpList_load_mid rfl 104 (.tmp 14) rfl b (off + k * 34) rfl (inC i) _ HR.out Tryz.underlying104 rfl HZ.out ?_)
          | (go_at_call 105; refine (isLong_any wr i HIk.out.1 HIk.out.2).mono ?_; rw [HLg.out]; rintro e w2 ⟨rfl, hb2⟩; have Hb2 : Hid (Below w.heap.size w w2) := nxTr Hb.out hb2; clear hb2))
        go_ret
        refine ⟨⟨(k : Int), rfl, ?_⟩, Hb2.out⟩
        rw [decide_eq_true (by omega : (0 : Int) ≤ (k : Int))]
        exact (List.any_eq_true.2 ⟨l[k], List.getElem_mem hlt, by rw [HLk.out]; exact HLg.out⟩).symm
      | false =>
        have HN' : Hid (∀ j (h : j < l.length), j < k + 1 → longB l[j] = false) := by
          intro j h hj
          by_cases h1 : j < k
          · exact HN.out j h h1
          · obtain rfl : j = k := by omega
            rw [HLk.out]; exact HLg.out
        go_wp2_with (first
          | ((with_reducible show wpList _ _ _ (⟨some 15, _, _, _, _, _⟩ :: _) _ _); refine wpList_load_mid rfl 104 (.tmp 14) rfl b (off + k * 34) rfl (inC i) _ HR.out Tryz.underlying104 rfl HZ.out ?_)
          | (go_at_call 105; refine (isLong_any wr i HIk.out.1 HIk.out.2).mono ?_; rw [HLg.out]; rintro e w2 ⟨rfl, hb2⟩; have Hb2 : Hid (Below w.heap.size w w2) := nxTr Hb.out hb2; clear hb2))
        go_roundw
        case rel => exact ⟨k + 1, by omega, by go_num, HN'.out, Hb2.out⟩
        case measure => simp [intOf] <;> omega
    · obtain rfl : k = l.length := by omega
      go_wp2
      go_ret
      refine ⟨⟨-1, rfl, ?_⟩, Hb.out⟩
      rw [decide_eq_false (by omega : ¬ (0 : Int) ≤ -1)]
      refine (Bool.eq_false_iff.2 fun h => ?_).symm
      obtain ⟨i, hi, hl⟩ := List.any_eq_true.1 h
      obtain ⟨j, hj, rfl⟩ := List.getElem_of_mem hi
      rw [HN.out j hj hj] at hl
      cases hl
set_option maxHeartbeats 1000000 in
set_option maxRecDepth 100000 in
theorem contains_any (w : World) (A : Option Addr) (n c : Nat) (l : List InR) (hn : n = l.length) (hS : SeesV w w.heap.size A (insC l)) (hi : ∀ i ∈ l, i.id.length = 32 ∧ i.wit.length ≤ 140737488355328) (hmax : n ≤ 140737488355328) :
    Calls Tryz.prog 104 #[.slice A n c, .func (.func 105) #[] #[]] w fun e w' => e = .returned (.bool (l.any longB)) ∧ Below w.heap.size w w' := by
  obtain ⟨z, hz⟩ : ∃ z, l.any longB = z := ⟨_, rfl⟩
  have h := index_any w A n c l hn hS hi hmax
  rw [hz] at h ⊢
  have H := Lib.hid h
  clear h hn hS hi hmax hz
  go_enter Tryz.func104, Tryz.ntmps104
  cases z with
  | true =>
    go_wp2_with (go_at_call 117; refine H.out.mono ?_; rintro e w2 ⟨⟨r, rfl, hr⟩, hb2⟩; have Hb2 := Lib.hid hb2; clear hb2)
    go_ret
    exact ⟨rfl, Hb2.out⟩
  | false =>
    go_wp2_with (go_at_call 117; refine H.out.mono ?_; rintro e w2 ⟨⟨r, rfl, hr⟩, hb2⟩; have Hb2 := Lib.hid hb2; clear hb2)
    go_ret
    exact ⟨rfl, Hb2.out⟩

/-- A transaction in a block of its own, as the closures see it. -/
def TxAt (w : World) (g : Nat) (t : TxR) : Prop := Blk w g 66 (txC t).toArray ∧ TxOk w t
theorem TxAt.later {w w' : World} {g : Nat} {t : TxR} (h : TxAt w g t) (hb : Below w.heap.size w w') : TxAt w' g t := ⟨h.1.below hb h.1.lt, h.2.later hb⟩
theorem TxAt.new {w : World} {t : TxR} (h : TxOk w t) : TxAt (w.alloc (.cells (txC t).toArray 66)) w.heap.size t := ⟨heap_alloc_new w _, h.later (nxAl (nxRf w) _)⟩
theorem ask1_any (w : World) (g : Nat) (t : TxR) (h : TxAt w g t) : Calls Tryz.prog 99 #[.pointer (some ⟨g, 0, none⟩)] w fun e w' => e = .returned (.int .i64 (argE (cntB t.ins.length))) ∧ Below w.heap.size w w' := by
  have hc : w.cell? ⟨g, 0, none⟩ = some (.slice t.A t.ins.length t.c) := h.1.cell 0
  clear h
  go_enter Tryz.func99, Tryz.ntmps99
  go_wp2_with (first
    | (go_at_call 101; refine (mayCount_any _ t.ins.length).mono ?_; rintro e w2 ⟨rfl, hw2⟩; subst hw2)
    | (go_at_call 100; refine (argUnless_any _ _).mono ?_; rintro e w2 ⟨rfl, hw2⟩; subst hw2))
  go_ret
  exact ⟨rfl, nxRf _⟩
theorem ask2_any (w : World) (g : Nat) (t : TxR) (h : TxAt w g t) : Calls Tryz.prog 102 #[.pointer (some ⟨g, 0, none⟩)] w fun e w' => e = .returned (.int .i64 (argE (cntB t.outs.length))) ∧ Below w.heap.size w w' := by
  have hc : w.cell? ⟨g, 1, none⟩ = some (.slice t.B t.outs.length t.d) := h.1.cell 1
  clear h
  go_enter Tryz.func102, Tryz.ntmps102
  go_wp2_with (first
    | (go_at_call 101; refine (mayCount_any _ t.outs.length).mono ?_; rintro e w2 ⟨rfl, hw2⟩; subst hw2)
    | (go_at_call 100; refine (argUnless_any _ _).mono ?_; rintro e w2 ⟨rfl, hw2⟩; subst hw2))
  go_ret
  exact ⟨rfl, nxRf _⟩
theorem ask3_any (w : World) (g : Nat) (t : TxR) (h : TxAt w g t) : Calls Tryz.prog 103 #[.pointer (some ⟨g, 0, none⟩)] w fun e w' => e = .returned (.int .i64 (argE (!t.ins.any longB))) ∧ Below w.heap.size w w' := by
  have hc : w.cell? ⟨g, 0, none⟩ = some (.slice t.A t.ins.length t.c) := h.1.cell 0
  have HC := Lib.hid (contains_any w t.A _ t.c t.ins rfl h.2.ins (fun i hi => ⟨(h.2.each i hi).id, (h.2.each i hi).m⟩) h.2.mi)
  obtain ⟨z, hz⟩ : ∃ z, t.ins.any longB = z := ⟨_, rfl⟩
  rw [hz] at HC ⊢
  clear h hz
  go_enter Tryz.func103, Tryz.ntmps103
  go_wp2_with (first
    | (go_at_call 104; refine HC.out.mono ?_; rintro e w2 ⟨rfl, hb2⟩; have Hb2 := Lib.hid hb2; clear hb2)
    | (go_at_call 100; refine (argUnless_any _ _).mono ?_; rintro e w3 ⟨rfl, hw3⟩; subst hw3))
  go_ret
  exact ⟨rfl, Hb2.out⟩
end Go.Proofs.YtbloomnifhcgbaaGreatDoor
namespace Go.Proofs.YtbloomnifhcgbaaGreatDoor
open Go.RowKit Go.Maps

theorem Tryz.laidO : laidOutB Tryz.prog = true := by kernel_rfl
theorem Tryz.rowPt : (102 : TypeId) < Tryz.prog.types.size := of_decide_eq_true (by kernel_rfl)
theorem Tryz.widePt : (match Tryz.prog.underlying 102 with | some (.array _ _) | some (.struct _) => true | _ => false) = true := by rw [Tryz.underlying102]
set_option maxRecDepth 100000 in
theorem ptLaw : Keyed Tryz.prog 102 := Keyed.of_law (deep_law_laid Tryz.laidO (m := 3) (by omega) Tryz.rowPt (by kernel_rfl) Tryz.widePt)
theorem Tryz.ptKeyType : Tryz.prog.keyType 102 = true := by kernel_rfl
theorem Tryz.cellsPt : Tryz.prog.cellsOf 102 = 33 := by kernel_rfl
theorem Tryz.cellsH : Tryz.prog.cellsOf 26 = 32 := by kernel_rfl
theorem Tryz.cellsB : Tryz.prog.cellsOf 5 = 1 := by kernel_rfl
theorem Tryz.cellsN : Tryz.prog.cellsOf 100 = 1 := by kernel_rfl
theorem Tryz.manyTypes : decide (2 ≤ Tryz.prog.types.size) = true := by kernel_rfl
def ptLits (i : InR) : List Lit := (i.id.map fun x => Lit.int .u8 (x.toNat : Int)) ++ [.int .u32 (i.n : Int)]
def ptKey (i : InR) : Lit := .string (keyBytes (ptLits i))
theorem tdo {cs : List Value} {i : Nat} (h : i < cs.length) : (cs.drop i).take 1 = [cs[i]] := by
  rw [List.drop_eq_getElem_cons h]; rfl
theorem keyLits_u8 (d : Nat) (x : UInt8) : Tryz.prog.keyLits (d + 1) 5 [.int .u8 (x.toNat : Int)] = some [.int .u8 (x.toNat : Int)] := by
  unfold Program.keyLits
  rw [Tryz.underlying5]
  have hw : (Lit.int .u8 (x.toNat : Int)).wf = true := by
    have := x.toNat_lt
    show (decide ((0 : Int) ≤ (x.toNat : Int)) && decide ((x.toNat : Int) ≤ 255)) = true
    rw [Bool.and_eq_true]
    exact ⟨decide_eq_true (by omega), decide_eq_true (by omega)⟩
  simp [hw]
theorem flat_one {α β : Type} (f : α → β) (l : List α) : (l.map fun x => [f x]).flatten = l.map f := by
  induction l with
  | nil => rfl
  | cons a r ih => simp only [List.map_cons, List.flatten_cons, ih]; rfl
theorem mapM_range {l : List UInt8} (d : Nat) : ∀ (n : Nat), n ≤ l.length → (List.range n).mapM (fun i => Tryz.prog.keyLits (d + 1) 5 (((By l).drop (i * 1)).take 1)) = some ((l.take n).map fun x => [Lit.int .u8 (x.toNat : Int)])
  | 0, _ => by simp
  | n + 1, h => by
    have ih := mapM_range (l := l) d n (by omega)
    have e : ((By l).drop (n * 1)).take 1 = [.int .u8 ((l[n]'(by omega)).toNat : Int)] := by
      rw [Nat.mul_one, tdo (by rw [By_length]; omega)]
      simp [By]
    rw [List.range_succ, List.mapM_append, ih]
    simp only [List.mapM_cons, List.mapM_nil, e, keyLits_u8]
    simp
    rw [List.take_succ_eq_append_getElem (by rw [List.length_map]; omega)]
    simp
theorem keyLits_hash (d : Nat) {l : List UInt8} (h : l.length = 32) : Tryz.prog.keyLits (d + 2) 26 (By l) = some (l.map fun x => Lit.int .u8 (x.toNat : Int)) := by
  unfold Program.keyLits
  rw [Tryz.underlying26]
  simp only [Tryz.cellsH, Tryz.cellsB, By_length, h, if_true]
  have e := mapM_range (l := l) d 32 (by omega)
  rw [e, List.take_of_length_le (by omega)]
  rw [Option.map_some, flat_one]
theorem keyLits_u32 (d n : Nat) (h : n < 4294967296) : Tryz.prog.keyLits (d + 1) 100 [.int .u32 (n : Int)] = some [.int .u32 (n : Int)] := by
  unfold Program.keyLits
  rw [Tryz.underlying100]
  have hw : (Lit.int .u32 (n : Int)).wf = true := by
    show (decide ((0 : Int) ≤ (n : Int)) && decide ((n : Int) ≤ 4294967295)) = true
    rw [Bool.and_eq_true]
    exact ⟨decide_eq_true (by omega), decide_eq_true (by omega)⟩
  simp [hw]
theorem keyLits_pt (d : Nat) {i : InR} (h : i.id.length = 32) (hn : i.n < 4294967296) : Tryz.prog.keyLits (d + 3) 102 (ptC i) = some (ptLits i) := by
  unfold Program.keyLits
  rw [Tryz.underlying102]
  have e1 : ((ptC i).drop 0).take 32 = By i.id := by unfold ptC; rw [List.drop_zero, List.take_left' (by rw [By_length, h])]
  have e2 : ((ptC i).drop 32).take 1 = [.int .u32 (i.n : Int)] := by unfold ptC; rw [List.drop_left' (by rw [By_length, h])]; rfl
  simp [Tryz.cellsPt, ptC_len h, Tryz.cellsH, Tryz.cellsN, List.mapM_cons]
  rw [List.drop_zero] at e1
  rw [e1, e2, keyLits_hash d h, keyLits_u32 (d + 1) i.n hn]
  simp [ptLits]
set_option maxRecDepth 100000 in
theorem keyOf_pt {i : InR} (h : i.id.length = 32) (hn : i.n < 4294967296) : keyOf Tryz.prog 102 (.agg (ptC i).toArray) = some (ptKey i) := by
  unfold keyOf
  rw [Tryz.underlying102]
  have hf : Value.formed Tryz.prog 102 (.agg (ptC i).toArray) = true := by
    unfold Value.formed
    rw [Tryz.underlying102, Tryz.cellsPt]
    simp [ptC_len h]
  obtain ⟨d, hd⟩ : ∃ d, Tryz.prog.types.size + 1 = d + 3 := ⟨Tryz.prog.types.size - 2, by have := of_decide_eq_true Tryz.manyTypes; omega⟩
  have e : (Value.agg (ptC i).toArray).cells.toList = ptC i := rfl
  rw [hd]
  simp only [Tryz.ptKeyType, hf, Bool.and_self, if_true, e, keyLits_pt d h hn, Option.map_some]
  rfl
def backI : Value → Int
  | .int _ n => n
  | _ => 0
theorem By_back (l : List UInt8) : (By l).map (fun v => UInt8.ofNat (backI v).toNat) = l := by
  unfold By
  rw [List.map_map]
  induction l with
  | nil => rfl
  | cons a r ih =>
    rw [List.map_cons, ih]
    congr 1
    show UInt8.ofNat ((a.toNat : Int)).toNat = a
    rw [Int.toNat_natCast, UInt8.ofNat_toNat]
theorem By_inj {l m : List UInt8} (h : By l = By m) : l = m := by rw [← By_back l, h, By_back]
theorem ptKey_inj {i j : InR} (hi : i.id.length = 32) (hj : j.id.length = 32) (hn : i.n < 4294967296) (hm : j.n < 4294967296) : ptKey i = ptKey j ↔ pt i = pt j := by
  constructor
  · intro e
    have h1 := keyOf_pt hi hn
    have h2 := keyOf_pt hj hm
    rw [e] at h1
    have h3 := ptLaw.inj h1 h2
    have h4 : ptC i = ptC j := congrArg (fun v : Value => v.cells.toList) h3
    unfold ptC at h4
    obtain ⟨h5, h6⟩ := List.append_inj h4 (by rw [By_length, By_length, hi, hj])
    have h7 : i.id = j.id := By_inj h5
    have h8 : i.n = j.n := by
      have h9 : (i.n : Int) = (j.n : Int) := congrArg (fun l : List Value => backI (l.getD 0 undef)) h6
      omega
    unfold pt
    rw [h7, h8]
  · intro e
    unfold pt at e
    injection e with e1 e2
    unfold ptKey ptLits
    rw [e1, e2]
end Go.Proofs.YtbloomnifhcgbaaGreatDoor
namespace Go.Proofs.YtbloomnifhcgbaaGreatDoor
open Go.RowKit Go.Maps

theorem made_map (n : Nat) (w : World) : (Instr.makeMap 160 (some (.int .i64 (n : Int)))).run Tryz.prog w = .ok (.map (some w.heap.size)) (w.alloc (.map #[] 0)) := by
  unfold Instr.makeMap
  simp [run_underlying Tryz.underlying160, asInt]
  rfl
/-- The outpoints as keys. -/
def ptSet (l : List InR) : DataW Unit := setOf (.agg []) (l.map ptKey)
theorem ptSet_next {l : List InR} {k : Nat} (h : k < l.length) : ptSet (l.take (k + 1)) = (ptSet (l.take k)).put (ptKey l[k]) (.agg []) := by
  unfold ptSet
  rw [List.take_succ_eq_append_getElem h, List.map_append, List.map_singleton, setOf_snoc]
/-- What spent answers. -/
def SpentPost (w : World) (l : List InR) (e : Ending) (w' : World) : Prop := ∃ B, e = .returned (.map (some B)) ∧ w'.ownsMap Tryz.prog 102 (unitElem (H := Unit)) B l.length (ptSet l) ∧ Below w.heap.size w w'
theorem inC_pt (i : InR) : inC i = ptC i ++ [.slice i.A i.wit.length i.c] := by simp [inC, ptC]
theorem rng_prefix {w : World} {b o : Nat} {cs ds : List Value} (h : w.rangeAt b o (cs ++ ds)) : w.rangeAt b o cs := fun j v hv => h j v (by rw [List.getElem?_append_left (List.getElem?_eq_some_iff.1 hv).1]; exact hv)
theorem own_map_keeps {w w' : World} {P : Program} {k : TypeId} {R : Value → Option (DataW Unit × List MemPlace)} {b n g : Nat} {D : DataW Unit} (h : w.ownsMap P k R b n D) (hk : Keeps (· = g) w w') (hne : b ≠ g) : w'.ownsMap P k R b n D := by
  obtain ⟨es, clock, hb, r⟩ := h
  exact ⟨es, clock, (hk.block b (Array.getElem?_eq_some_iff.1 hb).1 hne).trans hb, r⟩
theorem own_map_ne {w : World} {P : Program} {k : TypeId} {R : Value → Option (DataW Unit × List MemPlace)} {b n : Nat} {D : DataW Unit} (h : w.ownsMap P k R b n D) : b ≠ w.heap.size := by
  obtain ⟨es, clock, hb, r⟩ := h
  have := (Array.getElem?_eq_some_iff.1 hb).1
  omega
set_option maxHeartbeats 2000000 in
set_option maxRecDepth 100000 in
theorem spent_any (w : World) (t : TxR) (h : TxOk w t) (hmax : t.ins.length ≤ 100000) :
    Calls Tryz.prog 107 #[.agg (txC t).toArray] w (SpentPost w t.ins) := by
  have hmm := made_map
  have hA := (TxAt.new h).1
  have hc0 : (w.alloc (.cells (txC t).toArray 66)).cell? ⟨w.heap.size, 0, none⟩ = some (.slice t.A t.ins.length t.c) := hA.cell 0
  have hc1 : ((w.alloc (.cells (txC t).toArray 66)).alloc (.map #[] 0)).cell? ⟨w.heap.size, 0, none⟩ = some (.slice t.A t.ins.length t.c) := (Blk.alloc hA _).cell 0
  have hsz : w.heap.size + 1 = (w.alloc (.cells (txC t).toArray 66)).heap.size := by simp
  have hb1 : Below w.heap.size w ((w.alloc (.cells (txC t).toArray 66)).alloc (.map #[] 0)) := nxAl (nxAl (nxRf w) _) _
  have HO : Hid (((w.alloc (.cells (txC t).toArray 66)).alloc (.map #[] 0)).ownsMap Tryz.prog 102 (unitElem (H := Unit)) (w.heap.size + 1) 0 (.map [])) := by rw [hsz]; exact World.ownsMap_made _ _ _ _
  have Hb1 := Lib.hid hb1
  obtain ⟨l, hl⟩ : ∃ l, t.ins = l := ⟨_, rfl⟩
  obtain ⟨A, hAA⟩ : ∃ l, t.A = l := ⟨_, rfl⟩
  have hS := h.ins
  have hI := h.each
  rw [hl] at hS hI hmax
  rw [hAA] at hS
  have HS := Lib.hid hS
  have HI : Hid (∀ i ∈ l, i.id.length = 32 ∧ i.n < 4294967296) := fun i hi => ⟨(hI i hi).id, (hI i hi).n⟩
  have HM := Lib.hid hmax
  rw [hl, hAA] at hc0 hc1
  rw [hl]
  clear hS hI h hA hsz hb1 hl hAA
  go_enter Tryz.func107, Tryz.ntmps107
  go_wp2
  clear hc0
  generalize ((w.alloc (.cells (txC t).toArray 66)).alloc (.map #[] 0)) = W0 at *
  obtain ⟨B, hB⟩ : ∃ B, w.heap.size + 1 = B := ⟨_, rfl⟩
  have HBw : Hid (w.heap.size ≤ B) := by show _ ≤ _; omega
  rw [hB] at HO ⊢
  clear hB
  go_loopw [13] (fun iv wr => ∃ k : Nat, k ≤ l.length ∧ iv = .int .i64 k ∧ Hid (wr.ownsMap Tryz.prog 102 (unitElem (H := Unit)) B k (ptSet (l.take k))) ∧ Hid (Below w.heap.size w wr)) (fun iv _ => l.length - (intOf iv).toNat)
  case atStart => exact ⟨0, by omega, rfl, HO.out, Hb1.out⟩
  case round =>
    obtain ⟨k, hk, rfl, HOr, Hb⟩ := hrel
    by_cases hlt : k < l.length
    · obtain ⟨b, off, rfl, hbb, hr⟩ := insC_row HS.out (fun i h => (HI.out i h).1) (by omega)
      have hrk := rngB (hr k hlt) Hb.out hbb
      have hik := HI.out _ (List.getElem_mem hlt)
      have hnx := ptSet_next hlt
      obtain ⟨i, hi⟩ : ∃ i, l[k] = i := ⟨_, rfl⟩
      rw [hi] at hrk hik hnx
      have HR := Lib.hid hrk
      have HIk := Lib.hid hik
      have HNx := Lib.hid hnx
      have HKey := Lib.hid (keyOf_pt hik.1 hik.2)
      have HZ : Hid ((Tryz.prog.info? 104).map (·.size) = some (inC i).length) := by show _ = _; rw [inC_len hik.1]; exact Tryz.sizeIn
      have HZp : Hid ((Tryz.prog.info? 102).map (·.size) = some (ptC i).length) := by show _ = _; rw [ptC_len hik.1]; exact Tryz.sizePt
      clear hr hrk hik hi hnx
      go_wp2_with (first
        | ((with_reducible show wpList _ _ _ (⟨some 16, _, _, _, _, _⟩ :: _) _ _); refine wpList_load_mid rfl 104 (.tmp 15) rfl b (off + k * 34) rfl (inC i) _ HR.out Tryz.underlying104 rfl HZ.out ?_)
        | ((with_reducible show wpList _ _ _ (⟨none, .store 104 _ _, _, _, _, _⟩ :: _) _ _); refine wpList_store_all rfl 104 (.tmp 5) (.tmp 16) rfl wr.heap.size 104 _ (inC i).toArray rfl rfl (heap_alloc_new wr _) (by simp [inC_len HIk.out.1]) (by rw [List.size_toArray]; exact HZ.out) (inC_one i) ?_; intro w3 h5 h6 h7; have H5 := Lib.hid (blkR h5); have HO3 := Lib.hid (own_map_keeps (HOr.out.alloc _) h6 (own_map_ne HOr.out)); have Hb3 : Hid (Below w.heap.size w w3) := ((nxAl Hb.out _).trans (h6.below (nxAl Hb.out _).size (fun k hk => by have := Hb.out.size; omega))); clear h5 h6 h7)
        | ((with_reducible show wpList _ _ _ (⟨some 19, _, _, _, _, _⟩ :: _) _ _); refine wpList_load_mid rfl 102 (.tmp 18) rfl wr.heap.size 0 rfl (ptC i) _ (rng_prefix (by rw [← inC_pt]; exact H5.out)) Tryz.underlying102 rfl HZp.out ?_)
        | (at_mapUpdate; refine wpList_mapUpdate_own _ rfl _ _ _ 160 rfl 102 143 ptLaw Tryz.underlying160 (unitElem (H := Unit)) B k _ rfl HO3.out (by have := HM.out; unfold maxLen; omega) _ _ _ rfl rfl HKey.out _ [] unitElem_mk ?_; intro w4 hown4 hgrow4; rw [← HNx.out] at hown4; have HO4 := Lib.hid hown4; have Hb4 : Hid (Below w.heap.size w w4) := Hb3.out.grown hgrow4 Hb3.out.size (fun j hj => by cases hj; exact HBw.out); clear hown4 hgrow4))
      go_roundw
      case rel => exact ⟨k + 1, by omega, by go_num, HO4.out, Hb4.out⟩
      case measure => simp [intOf] <;> omega
    · obtain rfl : k = l.length := by omega
      have HOe : Hid (wr.ownsMap Tryz.prog 102 (unitElem (H := Unit)) B l.length (ptSet l)) := by have h := HOr.out; rw [List.take_length] at h; exact h
      go_wp2
      go_ret
      exact ⟨B, rfl, HOe.out, Hb.out⟩
end Go.Proofs.YtbloomnifhcgbaaGreatDoor
