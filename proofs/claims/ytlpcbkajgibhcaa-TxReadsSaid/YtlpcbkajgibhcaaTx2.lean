/-
  tx: the outpoints that are spent, a map; how many there are.
-/
import Derived.Test.YtlpcbkajgibhcaaTx1
import Derived.Maps.OwnSet
import Derived.DeepKeys4
namespace Go.Proofs.Ytlpcbkajgibhcaa
open Go.RowKit Go.Maps

theorem Try.laidO : laidOutB Try.prog = true := by kernel_rfl
theorem Try.rowPt : (48 : TypeId) < Try.prog.types.size := of_decide_eq_true (by kernel_rfl)
theorem Try.widePt : (match Try.prog.underlying 48 with | some (.array _ _) | some (.struct _) => true | _ => false) = true := by rw [Try.underlying48]
set_option maxRecDepth 100000 in
theorem ptLaw : Keyed Try.prog 48 := Keyed.of_law (deep_law_laid Try.laidO (m := 3) (by omega) Try.rowPt (by kernel_rfl) Try.widePt)
theorem Try.ptKeyType : Try.prog.keyType 48 = true := by kernel_rfl
theorem Try.cellsPt : Try.prog.cellsOf 48 = 33 := by kernel_rfl
theorem Try.cellsH : Try.prog.cellsOf 40 = 32 := by kernel_rfl
theorem Try.cellsB : Try.prog.cellsOf 5 = 1 := by kernel_rfl
theorem Try.cellsN : Try.prog.cellsOf 46 = 1 := by kernel_rfl
theorem Try.manyTypes : decide (2 ≤ Try.prog.types.size) = true := by kernel_rfl
def ptLits (i : InR) : List Lit := (i.id.map fun x => Lit.int .u8 (x.toNat : Int)) ++ [.int .u32 (i.n : Int)]
def ptKey (i : InR) : Lit := .string (keyBytes (ptLits i))
theorem tdo {cs : List Value} {i : Nat} (h : i < cs.length) : (cs.drop i).take 1 = [cs[i]] := by
  rw [List.drop_eq_getElem_cons h]; rfl
theorem keyLits_u8 (d : Nat) (x : UInt8) : Try.prog.keyLits (d + 1) 5 [.int .u8 (x.toNat : Int)] = some [.int .u8 (x.toNat : Int)] := by
  unfold Program.keyLits
  rw [Try.underlying5]
  have hw : (Lit.int .u8 (x.toNat : Int)).wf = true := by
    have := x.toNat_lt
    show (decide ((0 : Int) ≤ (x.toNat : Int)) && decide ((x.toNat : Int) ≤ 255)) = true
    rw [Bool.and_eq_true]
    exact ⟨decide_eq_true (by omega), decide_eq_true (by omega)⟩
  simp [hw]
theorem flat_one {α β : Type} (f : α → β) (l : List α) : (l.map fun x => [f x]).flatten = l.map f := by
  induction l with
  | nil => rfl
  | cons a r ih => simp only [List.map_cons, List.flatten_cons, ih]; rfl
theorem mapM_range {l : List UInt8} (d : Nat) : ∀ (n : Nat), n ≤ l.length → (List.range n).mapM (fun i => Try.prog.keyLits (d + 1) 5 (((By l).drop (i * 1)).take 1)) = some ((l.take n).map fun x => [Lit.int .u8 (x.toNat : Int)])
  | 0, _ => by simp
  | n + 1, h => by
    have ih := mapM_range (l := l) d n (by omega)
    have e : ((By l).drop (n * 1)).take 1 = [.int .u8 ((l[n]'(by omega)).toNat : Int)] := by
      rw [Nat.mul_one, tdo (by rw [By_length]; omega)]
      simp [By]
    rw [List.range_succ, List.mapM_append, ih]
    simp only [List.mapM_cons, List.mapM_nil, e, keyLits_u8]
    simp
    rw [List.take_succ_eq_append_getElem (by rw [List.length_map]; omega)]
    simp
theorem keyLits_hash (d : Nat) {l : List UInt8} (h : l.length = 32) : Try.prog.keyLits (d + 2) 40 (By l) = some (l.map fun x => Lit.int .u8 (x.toNat : Int)) := by
  unfold Program.keyLits
  rw [Try.underlying40]
  simp only [Try.cellsH, Try.cellsB, By_length, h, if_true]
  have e := mapM_range (l := l) d 32 (by omega)
  rw [e, List.take_of_length_le (by omega)]
  rw [Option.map_some, flat_one]
theorem keyLits_u32 (d n : Nat) (h : n < 4294967296) : Try.prog.keyLits (d + 1) 46 [.int .u32 (n : Int)] = some [.int .u32 (n : Int)] := by
  unfold Program.keyLits
  rw [Try.underlying46]
  have hw : (Lit.int .u32 (n : Int)).wf = true := by
    show (decide ((0 : Int) ≤ (n : Int)) && decide ((n : Int) ≤ 4294967295)) = true
    rw [Bool.and_eq_true]
    exact ⟨decide_eq_true (by omega), decide_eq_true (by omega)⟩
  simp [hw]
theorem keyLits_pt (d : Nat) {i : InR} (h : i.id.length = 32) (hn : i.n < 4294967296) : Try.prog.keyLits (d + 3) 48 (ptC i) = some (ptLits i) := by
  unfold Program.keyLits
  rw [Try.underlying48]
  have e1 : ((ptC i).drop 0).take 32 = By i.id := by unfold ptC; rw [List.drop_zero, List.take_left' (by rw [By_length, h])]
  have e2 : ((ptC i).drop 32).take 1 = [.int .u32 (i.n : Int)] := by unfold ptC; rw [List.drop_left' (by rw [By_length, h])]; rfl
  simp [Try.cellsPt, ptC_len h, Try.cellsH, Try.cellsN, List.mapM_cons]
  rw [List.drop_zero] at e1
  rw [e1, e2, keyLits_hash d h, keyLits_u32 (d + 1) i.n hn]
  simp [ptLits]
set_option maxRecDepth 100000 in
theorem keyOf_pt {i : InR} (h : i.id.length = 32) (hn : i.n < 4294967296) : keyOf Try.prog 48 (.agg (ptC i).toArray) = some (ptKey i) := by
  unfold keyOf
  rw [Try.underlying48]
  have hf : Value.formed Try.prog 48 (.agg (ptC i).toArray) = true := by
    unfold Value.formed
    rw [Try.underlying48, Try.cellsPt]
    simp [ptC_len h]
  obtain ⟨d, hd⟩ : ∃ d, Try.prog.types.size + 1 = d + 3 := ⟨Try.prog.types.size - 2, by have := of_decide_eq_true Try.manyTypes; omega⟩
  have e : (Value.agg (ptC i).toArray).cells.toList = ptC i := rfl
  rw [hd]
  simp only [Try.ptKeyType, hf, Bool.and_self, if_true, e, keyLits_pt d h hn, Option.map_some]
  rfl
def backI : Value → Int
  | .int _ n => n
  | _ => 0
theorem By_back (l : List UInt8) : (By l).map (fun v => UInt8.ofNat (backI v).toNat) = l := by
  unfold By
  rw [List.map_map]
  induction l with
  | nil => rfl
  | cons a r ih =>
    rw [List.map_cons, ih]
    congr 1
    show UInt8.ofNat ((a.toNat : Int)).toNat = a
    rw [Int.toNat_natCast, UInt8.ofNat_toNat]
theorem By_inj {l m : List UInt8} (h : By l = By m) : l = m := by rw [← By_back l, h, By_back]
theorem ptKey_inj {i j : InR} (hi : i.id.length = 32) (hj : j.id.length = 32) (hn : i.n < 4294967296) (hm : j.n < 4294967296) : ptKey i = ptKey j ↔ pt i = pt j := by
  constructor
  · intro e
    have h1 := keyOf_pt hi hn
    have h2 := keyOf_pt hj hm
    rw [e] at h1
    have h3 := ptLaw.inj h1 h2
    have h4 : ptC i = ptC j := congrArg (fun v : Value => v.cells.toList) h3
    unfold ptC at h4
    obtain ⟨h5, h6⟩ := List.append_inj h4 (by rw [By_length, By_length, hi, hj])
    have h7 : i.id = j.id := By_inj h5
    have h8 : i.n = j.n := by
      have h9 : (i.n : Int) = (j.n : Int) := congrArg (fun l : List Value => backI (l.getD 0 undef)) h6
      omega
    unfold pt
    rw [h7, h8]
  · intro e
    unfold pt at e
    injection e with e1 e2
    unfold ptKey ptLits
    rw [e1, e2]
end Go.Proofs.Ytlpcbkajgibhcaa
