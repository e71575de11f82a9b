/-
  block: the program's HeaderOf.
-/
import Derived.Test.YtjcbihdhkaiidaaBk1
import Derived.Test.YtjcbihdhkaiidaaTr3
namespace Go.Proofs.Ytjcbihdhkaiidaa
open Go.RowKit

/-! reading headers -/
def readH (s : Option (List UInt8)) : List UInt8 × Option (List UInt8) := (over zero32 (cutPiece s 32 true) 32, cutRest s 32 true)
def readHs : Nat → Option (List UInt8) → List (List UInt8) × Option (List UInt8)
  | 0, s => ([], s)
  | k + 1, s => ((readHs k s).1 ++ [(readH (readHs k s).2).1], (readH (readHs k s).2).2)
theorem readHs_len (k : Nat) (s : Option (List UInt8)) : (readHs k s).1.length = k := by
  induction k with
  | zero => rfl
  | succ k ih => simp [readHs, ih]
theorem readHs_ok (k : Nat) (s : Option (List UInt8)) : All32 (readHs k s).1 := by
  induction k with
  | zero => exact All32.nil
  | succ k ih => exact ih.snoc (hash_len _)
theorem readHs_le (k : Nat) (s : Option (List UInt8)) : lenS (readHs k s).2 ≤ lenS s := by
  induction k with
  | zero => exact Nat.le_refl _
  | succ k ih => exact Nat.le_trans (lenS_cutRest _ _ _) ih
theorem readHs_next {k : Nat} {s1 s : Option (List UInt8)} {I : List (List UInt8)} (h : readHs k s1 = (I, s)) : readHs (k + 1) s1 = (I ++ [(readH s).1], (readH s).2) := by simp only [readHs, h]
/-- How many parents are read. -/
def ofHN (s : Option (List UInt8)) : Nat := min (ofLe (cutPiece s 2 true)) 256
def ofHP (b : List UInt8) : List (List UInt8) × Option (List UInt8) := readHs (ofHN (some b)) (cutRest (some b) 2 true)
/-- What is read behind the parents. -/
def tailH (ps : List (List UInt8)) (s : Option (List UInt8)) : HdP × Option (List UInt8) :=
  (⟨ps, (readH s).1, (readH (readH s).2).1, (readH (readH (readH s).2).2).1, (readH (readH (readH (readH s).2).2).2).1, ofLe (cutPiece (readH (readH (readH (readH s).2).2).2).2 8 true)⟩, cutRest (readH (readH (readH (readH s).2).2).2).2 8 true)
def ofHR (b : List UInt8) : HdP × Option (List UInt8) := tailH (ofHP b).1 (ofHP b).2
def ofHB (b : List UInt8) : Bool := decide ((ofHR b).2 = some []) && mayH (ofHR b).1
def noHP : HdP := ⟨[], zero32, zero32, zero32, zero32, 0⟩
def ofHV (b : List UInt8) : HdP := bif ofHB b then (ofHR b).1 else noHP
theorem noHP_fit : HdFit noHP := ⟨All32.nil, rfl, rfl, rfl, rfl, by decide⟩
theorem tailH_fit {ps : List (List UInt8)} (h : All32 ps) (s : Option (List UInt8)) : HdFit (tailH ps s).1 := ⟨h, hash_len _, hash_len _, hash_len _, hash_len _, ofLe_lt8 _ 8 (by decide)⟩
theorem ofHR_fit (b : List UInt8) : HdFit (ofHR b).1 := tailH_fit (readHs_ok _ _) _
def noHd : HdR := ⟨none, 0, noHP⟩
theorem noHd_ok (w : World) : HdOk w noHd := ⟨.inl rfl, noHP_fit, Nat.le_refl _, Nat.zero_le _⟩
def hdZ : Array Value := (hdC noHd).toArray
/-- What HeaderOf answers. -/
def OfHPost (w : World) (b : List UInt8) (e : Ending) (w' : World) : Prop :=
  ∃ h : HdR, e = .returned (.tuple #[.agg (hdC h).toArray, .int .i64 (bif ofHB b then 0 else 4)]) ∧ h.p = ofHV b ∧ HdOk w' h ∧ Below w.heap.size w w'
/-- .. and it lies in new memory. -/
def OfHPostK (w : World) (b : List UInt8) (e : Ending) (w' : World) : Prop :=
  ∃ h : HdR, e = .returned (.tuple #[.agg (hdC h).toArray, .int .i64 (bif ofHB b then 0 else 4)]) ∧ h.p = ofHV b ∧ HdOk w' h ∧ Below w.heap.size w w' ∧ Kept (fun j => j < w.heap.size) w' (fun W => HdOk W h)
def hdT (ps : Value) (rt ac co mi : List UInt8) (nonce : Nat) : Array Value := (ps :: (By rt ++ (By ac ++ (By co ++ (By mi ++ [.int .u64 (nonce : Int)]))))).toArray
theorem hdT_of (h : HdR) : hdT (.slice h.A h.p.ps.length h.c) h.p.rt h.p.ac h.p.co h.p.mi h.p.nonce = (hdC h).toArray := rfl

section
variable {P : Program} {w : World}
theorem step_store_part {ops : Array Oper} {o : Oper} {a : Act} {K : Act → World → Prop} {Q : Exit → Act → World → Prop} {E : Prop} (hgd : o.guard = none) (ty : TypeId) (x y : Operand) (ho : o.op = .store ty x y)
    (g off : Nat) (t : TypeId) (old cells new : Array Value) (v : Value) (hx : a.eval x = .pointer (some ⟨g, off, none⟩)) (hy : a.eval y = v) (hv : v.cells = cells) (hg : Blk w g t old) (hs : off + cells.size ≤ old.size)
    (hi : (P.info? ty).map (·.size) = some cells.size) (h1 : ∀ u ∈ cells.toList, u.oneCell' = true) (hn : (old.toList.take off ++ cells.toList ++ old.toList.drop (off + cells.size)).toArray = new)
    (h : ∀ w', Blk w' g t new → Keeps (· = g) w w' → w'.heap.size = w.heap.size → K (a.put o.dst undef) w') :
    if Region.wanted o (yielded ops a.tmps) = true then Oper.wp P o a w K Q else E := by
  have hw : Region.wanted o (yielded ops a.tmps) = true := by simp [Region.wanted, hgd]
  rw [if_pos hw]
  obtain ⟨w', hr, h2, h3, h4⟩ := run_storeVar_part (P := P) g off t ty old cells v hv hg hs hi h1
  unfold Oper.wp execOp
  simp only [ho, hx, hy, Instr.storeAt, Instr.sureAddr, Sem.run_bind, Sem.run_pure, Result.andThen_ok, hr]
  exact h w' (hn ▸ h2) h3 h4
end
theorem part_set (pre old x post : List Value) (hl : old.length = x.length) (k : Nat) (hk : k = pre.length) : ((pre ++ (old ++ post)).take k ++ x ++ (pre ++ (old ++ post)).drop (k + x.length)) = pre ++ (x ++ post) := by
  subst hk
  rw [List.take_append_of_le_length (Nat.le_refl _), List.take_length, List.drop_append, List.drop_eq_nil_of_le (by omega), List.nil_append, show pre.length + x.length - pre.length = x.length by omega, List.drop_append, List.drop_eq_nil_of_le (by omega), List.nil_append, hl, Nat.sub_self, List.drop_zero, List.append_assoc]
theorem hdT_size {ps : Value} {rt ac co mi : List UInt8} {n : Nat} (h1 : rt.length = 32) (h2 : ac.length = 32) (h3 : co.length = 32) (h4 : mi.length = 32) : (hdT ps rt ac co mi n).size = 130 := by
  simp [hdT, By_length, h1, h2, h3, h4]
theorem hdT_rt {ps : Value} {x rt ac co mi : List UInt8} {n : Nat} (h1 : x.length = 32) (h2 : rt.length = 32) : ((hdT ps rt ac co mi n).toList.take 1 ++ (By x).toArray.toList ++ (hdT ps rt ac co mi n).toList.drop (1 + (By x).toArray.size)).toArray = hdT ps x ac co mi n := by
  have := part_set [ps] (By rt) (By x) (By ac ++ (By co ++ (By mi ++ [.int .u64 (n : Int)]))) (by rw [By_length, By_length, h1, h2]) 1 rfl
  exact congrArg List.toArray this
theorem hdT_ac {ps : Value} {x rt ac co mi : List UInt8} {n : Nat} (h0 : rt.length = 32) (h1 : x.length = 32) (h2 : ac.length = 32) : ((hdT ps rt ac co mi n).toList.take 33 ++ (By x).toArray.toList ++ (hdT ps rt ac co mi n).toList.drop (33 + (By x).toArray.size)).toArray = hdT ps rt x co mi n := by
  have := part_set (ps :: By rt) (By ac) (By x) (By co ++ (By mi ++ [.int .u64 (n : Int)])) (by rw [By_length, By_length, h1, h2]) 33 (by rw [List.length_cons, By_length, h0])
  exact congrArg List.toArray this
theorem hdT_co {ps : Value} {x rt ac co mi : List UInt8} {n : Nat} (h0 : rt.length = 32) (h00 : ac.length = 32) (h1 : x.length = 32) (h2 : co.length = 32) : ((hdT ps rt ac co mi n).toList.take 65 ++ (By x).toArray.toList ++ (hdT ps rt ac co mi n).toList.drop (65 + (By x).toArray.size)).toArray = hdT ps rt ac x mi n := by
  have e : ∀ z, hdT ps rt ac z mi n = ((ps :: (By rt ++ By ac)) ++ (By z ++ (By mi ++ [Value.int .u64 (n : Int)]))).toArray := fun z => by simp [hdT]
  have := part_set (ps :: (By rt ++ By ac)) (By co) (By x) (By mi ++ [.int .u64 (n : Int)]) (by rw [By_length, By_length, h1, h2]) 65 (by rw [List.length_cons, List.length_append, By_length, By_length, h0, h00])
  rw [e, e]
  exact congrArg List.toArray this
theorem hdT_mi {ps : Value} {x rt ac co mi : List UInt8} {n : Nat} (h0 : rt.length = 32) (h00 : ac.length = 32) (h01 : co.length = 32) (h1 : x.length = 32) (h2 : mi.length = 32) : ((hdT ps rt ac co mi n).toList.take 97 ++ (By x).toArray.toList ++ (hdT ps rt ac co mi n).toList.drop (97 + (By x).toArray.size)).toArray = hdT ps rt ac co x n := by
  have e : ∀ z, hdT ps rt ac co z n = ((ps :: (By rt ++ (By ac ++ By co))) ++ (By z ++ [Value.int .u64 (n : Int)])).toArray := fun z => by simp [hdT]
  have := part_set (ps :: (By rt ++ (By ac ++ By co))) (By mi) (By x) [.int .u64 (n : Int)] (by rw [By_length, By_length, h1, h2]) 97 (by simp only [List.length_cons, List.length_append, By_length, h0, h00, h01])
  rw [e, e]
  exact congrArg List.toArray this
theorem hdT_no {ps : Value} {rt ac co mi : List UInt8} {n m : Nat} (h1 : rt.length = 32) (h2 : ac.length = 32) (h3 : co.length = 32) (h4 : mi.length = 32) : ((hdT ps rt ac co mi n).toList.take 129 ++ #[Value.int .u64 (m : Int)].toList ++ (hdT ps rt ac co mi n).toList.drop (129 + #[Value.int .u64 (m : Int)].size)).toArray = hdT ps rt ac co mi m := by
  have e : ∀ z : Nat, hdT ps rt ac co mi z = ((ps :: (By rt ++ (By ac ++ (By co ++ By mi)))) ++ ([Value.int .u64 (z : Int)] ++ [])).toArray := fun z => by simp [hdT]
  have := part_set (ps :: (By rt ++ (By ac ++ (By co ++ By mi)))) [.int .u64 (n : Int)] [.int .u64 (m : Int)] [] rfl 129 (by simp only [List.length_cons, List.length_append, By_length, h1, h2, h3, h4])
  rw [e, e]
  exact congrArg List.toArray this

end Go.Proofs.Ytjcbihdhkaiidaa
