/-
  tx: what is read of bytes, as data; what stays where blocks are stored into.
-/
import Derived.Test.YtckomfffilonlaaDoorRe2
import Derived.Test.YtckomfffilonlaaDoorTxA
namespace Go.Proofs.YtckomfffilonlaaDoor
open Go.RowKit

/-- A transaction as data. -/
structure TxP where
  ins : List (List UInt8 × Nat × List UInt8)
  outs : List OutR
  nonce : Nat
def inP (i : InR) : List UInt8 × Nat × List UInt8 := (i.id, i.n, i.wit)
def txP (t : TxR) : TxP := ⟨t.ins.map inP, t.outs, t.nonce⟩
def unP (x : List UInt8 × Nat × List UInt8) : InR := ⟨x.1, x.2.1, none, 0, x.2.2⟩
def TxP.up (p : TxP) : TxR := ⟨none, 0, p.ins.map unP, none, 0, p.outs, p.nonce⟩
theorem twiceB_up (l : List InR) : twiceB ((l.map inP).map unP) = twiceB l := by
  induction l with
  | nil => rfl
  | cons i r ih =>
    simp only [List.map_cons, twiceB, ih, List.any_map]
    rfl
theorem checkT_up (t : TxR) : checkT (txP t).up = checkT t := by
  unfold checkT formB
  have h1 : (txP t).up.ins = (t.ins.map inP).map unP := rfl
  have h2 : (txP t).up.outs = t.outs := rfl
  have h3 : ((t.ins.map inP).map unP).any longB = t.ins.any longB := by
    rw [List.any_map, List.any_map]; rfl
  rw [h1, h2, twiceB_up, h3, List.length_map, List.length_map]
theorem checkT_same {t u : TxR} (h : txP t = txP u) : checkT t = checkT u := by rw [← checkT_up, h, checkT_up]

/-! reading -/
def readI (s : Option (List UInt8)) : (List UInt8 × Nat × List UInt8) × Option (List UInt8) :=
  ((over zero32 (cutPiece s 32 true) 32, ofLe (cutPiece (cutRest s 32 true) 4 true), blobPiece (cutRest (cutRest s 32 true) 4 true)), blobRest (cutRest (cutRest s 32 true) 4 true))
def readO (s : Option (List UInt8)) : OutR × Option (List UInt8) :=
  (⟨ofLe (cutPiece s 8 true), over zero32 (cutPiece (cutRest s 8 true) 32 true) 32⟩, cutRest (cutRest s 8 true) 32 true)
def readIs : Nat → Option (List UInt8) → List (List UInt8 × Nat × List UInt8) × Option (List UInt8)
  | 0, s => ([], s)
  | k + 1, s => ((readIs k s).1 ++ [(readI (readIs k s).2).1], (readI (readIs k s).2).2)
def readOs : Nat → Option (List UInt8) → List OutR × Option (List UInt8)
  | 0, s => ([], s)
  | k + 1, s => ((readOs k s).1 ++ [(readO (readOs k s).2).1], (readO (readOs k s).2).2)
theorem readIs_len (k : Nat) (s : Option (List UInt8)) : (readIs k s).1.length = k := by
  induction k with
  | zero => rfl
  | succ k ih => simp [readIs, ih]
theorem readOs_len (k : Nat) (s : Option (List UInt8)) : (readOs k s).1.length = k := by
  induction k with
  | zero => rfl
  | succ k ih => simp [readOs, ih]
theorem readI_le (s : Option (List UInt8)) : lenS (readI s).2 ≤ lenS s := Nat.le_trans (Nat.le_trans (lenS_cutRest _ _ _) (Nat.le_trans (lenS_cutRest _ _ _) (lenS_cutRest _ _ _))) (lenS_cutRest _ _ _)
theorem readO_le (s : Option (List UInt8)) : lenS (readO s).2 ≤ lenS s := Nat.le_trans (lenS_cutRest _ _ _) (lenS_cutRest _ _ _)
theorem readIs_le (k : Nat) (s : Option (List UInt8)) : lenS (readIs k s).2 ≤ lenS s := by
  induction k with
  | zero => exact Nat.le_refl _
  | succ k ih => exact Nat.le_trans (readI_le _) ih
theorem readOs_le (k : Nat) (s : Option (List UInt8)) : lenS (readOs k s).2 ≤ lenS s := by
  induction k with
  | zero => exact Nat.le_refl _
  | succ k ih => exact Nat.le_trans (readO_le _) ih
/-- How many are read. -/
def ofN (s : Option (List UInt8)) : Nat := min (ofLe (cutPiece s 2 true)) 65
def ofI (b : List UInt8) : List (List UInt8 × Nat × List UInt8) × Option (List UInt8) := readIs (ofN (some b)) (cutRest (some b) 2 true)
def ofO (b : List UInt8) : List OutR × Option (List UInt8) := readOs (ofN (ofI b).2) (cutRest (ofI b).2 2 true)
/-- What stands in the bytes, if all of it is there. -/
def ofP (b : List UInt8) : TxP := ⟨(ofI b).1, (ofO b).1, ofLe (cutPiece (ofO b).2 8 true)⟩
def ofR (b : List UInt8) : Option (List UInt8) := cutRest (ofO b).2 8 true
/-- Are they a transaction's bytes? -/
def ofB (b : List UInt8) : Bool := decide (ofR b = some []) && (checkT (ofP b).up == 0)
def noP : TxP := ⟨[], [], 0⟩
def ofV (b : List UInt8) : TxP := bif ofB b then ofP b else noP
theorem ofLe_lt8 (s : Option (List UInt8)) (Z : Nat) (hZ : Z ≤ 8) : ofLe (cutPiece s Z true) < 18446744073709551616 := by
  have h1 := ofLe_lt (cutPiece s Z true)
  have h2 := cutPiece_le s Z true
  have h3 : 256 ^ (cutPiece s Z true).length ≤ 256 ^ 8 := Nat.pow_le_pow_right (by omega) (by simp at h2; omega)
  have h4 : (256 : Nat) ^ 8 = 18446744073709551616 := by decide
  omega
theorem ofLe_lt4 (s : Option (List UInt8)) : ofLe (cutPiece s 4 true) < 4294967296 := by
  have h1 := ofLe_lt (cutPiece s 4 true)
  have h2 := cutPiece_le s 4 true
  have h3 : 256 ^ (cutPiece s 4 true).length ≤ 256 ^ 4 := Nat.pow_le_pow_right (by omega) h2
  have h4 : (256 : Nat) ^ 4 = 4294967296 := by decide
  omega
theorem ofLe_lt2 (s : Option (List UInt8)) : ofLe (cutPiece s 2 true) < 65536 := by
  have h1 := ofLe_lt (cutPiece s 2 true)
  have h2 := cutPiece_le s 2 true
  have h3 : 256 ^ (cutPiece s 2 true).length ≤ 256 ^ 2 := Nat.pow_le_pow_right (by omega) h2
  have h4 : (256 : Nat) ^ 2 = 65536 := by decide
  omega
theorem hash_len (p : List UInt8) : (over zero32 p 32).length = 32 := over_length zero32 p

/-! what stays -/
/-- F, in every world that differs in the blocks S alone. -/
def Kept (S : Nat → Prop) (w : World) (F : World → Prop) : Prop := ∀ W, Keeps S w W → F W
theorem Kept.now {S : Nat → Prop} {w : World} {F : World → Prop} (h : Kept S w F) : F w := h w (Keeps.refl S w)
theorem Kept.step {S S' : Nat → Prop} {w w' : World} {F : World → Prop} (h : Kept S w F) (k : Keeps S w w') (hS : ∀ b, b < w.heap.size → S' b → S b) : Kept S' w' F := fun W hW =>
  h W ⟨hW.os.trans k.os, hW.tape.trans k.tape, hW.output.trans k.output, Nat.le_trans k.size hW.size, fun b hb hn => (hW.block b (Nat.lt_of_lt_of_le hb k.size) (fun h' => hn (hS b hb h'))).trans (k.block b hb hn)⟩
theorem Kept.and {S : Nat → Prop} {w : World} {F G : World → Prop} (h : Kept S w F) (k : Kept S w G) : Kept S w (fun W => F W ∧ G W) := fun W hW => ⟨h W hW, k W hW⟩
theorem Kept.mono {S : Nat → Prop} {w : World} {F G : World → Prop} (h : Kept S w F) (hi : ∀ W, F W → G W) : Kept S w G := fun W hW => hi W (h W hW)
theorem Kept.sub {S S' : Nat → Prop} {w : World} {F : World → Prop} (h : Kept S w F) (hS : ∀ b, S' b → S b) : Kept S' w F := h.step (Keeps.refl S w) (fun b _ => hS b)
theorem Kept.nil {S : Nat → Prop} {w : World} : Kept S w (fun W => ∀ i ∈ ([] : List InR), InOk W i) := fun _ _ i hi => by cases hi
theorem Kept.snoc {S : Nat → Prop} {w : World} {l : List InR} {i : InR} (h : Kept S w (fun W => ∀ j ∈ l, InOk W j)) (k : Kept S w (fun W => InOk W i)) : Kept S w (fun W => ∀ j ∈ l ++ [i], InOk W j) := fun W hW j hj => by
  rcases List.mem_append.1 hj with hj | hj
  · exact h W hW j hj
  · rw [List.mem_singleton.1 hj]; exact k W hW
/-- A row of one's own stays where its block is not stored into. -/
theorem own_kept {S : Nat → Prop} {w : World} {size n c : Nat} {e : TypeId} {base : Nat} {A : Option Addr} {xs : List Value} (h : w.ownsRow base e size (.slice A n c) n xs) (hS : ∀ j, (Value.slice A n c).ownBlock = some j → ¬ S j) : Kept S w (fun W => SeesV W W.heap.size A xs) := fun W hW => by
  rcases SeesV.own h with h1 | ⟨b, off, hA, hlt, hc⟩
  · exact .inl h1
  · refine .inr ⟨b, off, hA, Nat.lt_of_lt_of_le hlt hW.size, fun i hi => ?_⟩
    refine (hW.cell (p := ⟨b, off + i, none⟩) hlt (hS b ?_)).trans (hc i hi)
    rcases h.2 with ⟨hv, _⟩ | ⟨g, cap, cur, hv, _⟩
    · injection hv with hA' _ _; rw [hA'] at hA; cases hA
    · injection hv with hA' _ _; rw [hA'] at hA; injection hA with e; injection e with e _ _; subst e; rw [hA']; rfl
/-- An input whose bytes lie elsewhere. -/
theorem in_kept {S : Nat → Prop} {w : World} {i : InR} (h : InOk w i) (hS : ∀ ad, i.A = some ad → ¬ S ad.block) : Kept S w (fun W => InOk W i) := fun _ hW =>
  ⟨h.id, h.n, h.c, ((h.s.keeps hW (fun ad e _ => hS ad e)).more hW.size), h.m⟩
theorem insC_snoc (l : List InR) (i : InR) : insC (l ++ [i]) = insC l ++ inC i := by simp [insC]
theorem outsC_snoc (l : List OutR) (o : OutR) : outsC (l ++ [o]) = outsC l ++ outC o := by simp [outsC]

theorem readO_ok (s : Option (List UInt8)) : OutOk (readO s).1 := ⟨ofLe_lt8 s 8 (by decide), hash_len _⟩
theorem readOs_ok (k : Nat) (s : Option (List UInt8)) : ∀ o ∈ (readOs k s).1, OutOk o := by
  induction k with
  | zero => intro o ho; cases ho
  | succ k ih =>
    intro o ho
    rcases List.mem_append.1 ho with ho | ho
    · exact ih o ho
    · rw [List.mem_singleton.1 ho]; exact readO_ok _

/-! structs that are written out -/
theorem foldl_put (off : Nat) (vs : List Value) : ∀ (k : Nat) (l : List Value), off + k + vs.length ≤ l.length →
    (vs.zipIdx k).foldl (fun (cs : Array Value) (p : Value × Nat) => cs.setIfInBounds (off + p.2) p.1) l.toArray = (l.take (off + k) ++ vs ++ l.drop (off + k + vs.length)).toArray := by
  induction vs with
  | nil => intro k l h; simp
  | cons v r ih =>
    intro k l h
    simp only [List.length_cons] at h
    rw [List.zipIdx_cons, List.foldl_cons, List.setIfInBounds_toArray, ih (k + 1) _ (by rw [List.length_set]; omega)]
    congr 1
    have h1 : (l.set (off + k) v).take (off + (k + 1)) = l.take (off + k) ++ [v] := by
      rw [← Nat.add_assoc, List.take_succ_eq_append_getElem (by rw [List.length_set]; omega), List.getElem_set_self, List.take_set_of_le (Nat.le_refl _)]
    have h2 : (l.set (off + k) v).drop (off + (k + 1) + r.length) = l.drop (off + k + (r.length + 1)) := by
      rw [List.drop_set_of_lt (by omega)]; congr 1; omega
    rw [h1, h2, List.append_assoc, List.append_assoc]; simp
theorem fill_pair (place : Nat → Option (Nat × Nat)) (z a b : List Value) (va vb : Value) (ha : va.cells = a.toArray) (hb : vb.cells = b.toArray) (h0 : place 0 = some (0, a.length)) (h1 : place 1 = some (a.length, b.length)) (hz : z.length = a.length + b.length) :
    Instr.fill place z.toArray [(0, va), (1, vb)] = some (a ++ b).toArray := by
  have f0 := foldl_put 0 a 0 z (by omega)
  simp only [Nat.zero_add, List.take_zero, List.nil_append] at f0
  have f1 := foldl_put a.length b 0 (a ++ z.drop a.length) (by rw [List.length_append, List.length_drop]; omega)
  have hd : (a ++ z.drop a.length).drop (a.length + b.length) = [] := List.drop_eq_nil_of_le (by rw [List.length_append, List.length_drop]; omega)
  rw [Nat.add_zero, List.take_append_of_le_length (Nat.le_refl _), List.take_length, hd, List.append_nil] at f1
  unfold Instr.fill
  simp only [h0, ha, Nat.zero_add, List.size_toArray]
  rw [if_neg (by simp; omega)]
  have e0 : ∀ (u : Array Value), u = a.toArray → (u.zipIdx.foldl (fun (cs : Array Value) (p : Value × Nat) => cs.setIfInBounds p.2 p.1) z.toArray) = (a ++ z.drop a.length).toArray := by
    intro u hu
    subst hu
    rw [← f0]
    simp
  rw [e0 _ rfl]
  unfold Instr.fill
  simp only [h1, hb, List.size_toArray]
  rw [if_neg (by simp; omega)]
  unfold Instr.fill
  rw [← f1]
  simp
theorem infoP {P : Program} {t : TypeId} {z : Value} {s b : Nat} (h : (P.info? t).map (fun i => (i.zero, i.size, i.bytes)) = some (some z, s, b)) : ∃ i, P.info? t = some i ∧ i.zero = some z ∧ i.size = s ∧ i.bytes = b := by
  cases hi : P.info? t with
  | none => rw [hi] at h; cases h
  | some i => rw [hi] at h; simp at h; exact ⟨i, rfl, h.1, h.2.1, h.2.2⟩
theorem built_struct {P : Program} {t : TypeId} {i0 : TypeInfo} {z : Value} {fs : Array Field} {places : List (Nat × Nat)} (hi : P.info? t = some i0) (hz : i0.zero = some z) (hu : P.underlying t = some (.struct fs))
    (hp : fs.toList.mapM (fun f => (P.info? f.type).map fun i => (f.offset, i.size)) = some places) (parts : List (Nat × Value)) : P.built t parts = Instr.fill (places.toArray[·]?) z.cells parts := by
  unfold Program.built
  simp only [hi, hu, hz, hp]
def zeros32 : List Value := List.replicate 32 (.int .u8 0)
theorem Tryd.ptinfo : (Tryd.prog.info? 44).map (fun i => (i.zero, i.size, i.bytes)) = some (some (.agg (zeros32 ++ [Value.int .u32 0]).toArray), 33, 36) := by kernel_rfl
theorem Tryd.ininfo : (Tryd.prog.info? 46).map (fun i => (i.zero, i.size, i.bytes)) = some (some (.agg (zeros32 ++ [Value.int .u32 0, Value.slice none 0 0]).toArray), 34, 64) := by kernel_rfl
theorem Tryd.outinfo : (Tryd.prog.info? 49).map (fun i => (i.zero, i.size, i.bytes)) = some (some (.agg (Value.int .u64 0 :: zeros32).toArray), 33, 40) := by kernel_rfl
theorem build_pt (l : List UInt8) (hl : l.length = 32) (n : Nat) (wq : World) : (Instr.build 44 #[(0, .agg (By l).toArray), (1, .int .u32 (n : Int))]).run Tryd.prog wq = .ok (.agg (By l ++ [Value.int .u32 (n : Int)]).toArray) wq := by
  obtain ⟨i0, hi, hz, _, _⟩ := infoP Tryd.ptinfo
  refine run_build wq _ _ _ ?_
  rw [built_struct hi hz Tryd.underlying44 (places := [(0, 32), (32, 1)]) (by kernel_rfl)]
  exact fill_pair ([(0, 32), (32, 1)].toArray[·]?) (zeros32 ++ [.int .u32 0]) (By l) [.int .u32 (n : Int)] (.agg (By l).toArray) (.int .u32 (n : Int)) rfl rfl (by rw [By_length, hl]; rfl) (by rw [By_length, hl]; rfl) (by rw [By_length, hl]; rfl)
theorem build_in (i : InR) (hl : i.id.length = 32) (wq : World) : (Instr.build 46 #[(0, .agg (By i.id ++ [Value.int .u32 (i.n : Int)]).toArray), (1, .slice i.A i.wit.length i.c)]).run Tryd.prog wq = .ok (.agg (inC i).toArray) wq := by
  obtain ⟨i0, hi, hz, _, _⟩ := infoP Tryd.ininfo
  refine run_build wq _ _ _ ?_
  rw [built_struct hi hz Tryd.underlying46 (places := [(0, 33), (33, 1)]) (by kernel_rfl)]
  have h33 : (By i.id ++ [Value.int .u32 (i.n : Int)]).length = 33 := by simp [By_length, hl]
  have hf := fill_pair ([(0, 33), (33, 1)].toArray[·]?) (zeros32 ++ [.int .u32 0, .slice none 0 0]) (By i.id ++ [.int .u32 (i.n : Int)]) [.slice i.A i.wit.length i.c] (.agg (By i.id ++ [Value.int .u32 (i.n : Int)]).toArray) (.slice i.A i.wit.length i.c) rfl rfl (by rw [h33]; rfl) (by rw [h33]; rfl) (by rw [h33]; rfl)
  rw [List.append_assoc] at hf
  exact hf
theorem build_out (o : OutR) (hl : o.lock.length = 32) (wq : World) : (Instr.build 49 #[(0, .int .u64 (o.amt : Int)), (1, .agg (By o.lock).toArray)]).run Tryd.prog wq = .ok (.agg (outC o).toArray) wq := by
  obtain ⟨i0, hi, hz, _, _⟩ := infoP Tryd.outinfo
  refine run_build wq _ _ _ ?_
  rw [built_struct hi hz Tryd.underlying49 (places := [(0, 1), (1, 32)]) (by kernel_rfl)]
  exact fill_pair ([(0, 1), (1, 32)].toArray[·]?) (.int .u64 0 :: zeros32) [.int .u64 (o.amt : Int)] (By o.lock) (.int .u64 (o.amt : Int)) (.agg (By o.lock).toArray) rfl rfl rfl (by rw [By_length, hl]; rfl) (by rw [By_length, hl]; rfl)
/-- A struct of two parts that is written out, as the walk meets it. -/
theorem wpList_build2 {P : Program} {ops : Array Oper} {rest : List Oper} {o : Oper} {a : Act} {w : World} {Q : Exit → Act → World → Prop} (hg : o.guard = none) (t : TypeId) (x y : Operand) (ho : o.op = .build t #[(0, x), (1, y)])
    (vx vy v : Value) (hx : a.eval x = vx) (hy : a.eval y = vy) (hr : ∀ wq, (Instr.build t #[(0, vx), (1, vy)]).run P wq = .ok v wq) (h : wpList P ops Q rest (a.put o.dst v) w) : wpList P ops Q (o :: rest) a w := by
  refine wpList_plain hg fun _ hK => ?_
  unfold Oper.wp execOp
  have e : (#[(0, x), (1, y)].map fun (p : Nat × Operand) => (p.1, a.eval p.2)) = #[(0, vx), (1, vy)] := by simp [hx, hy]
  simp only [ho, e, Sem.run_bind, hr, Result.andThen_ok]
  exact hK _ _ h
theorem yieldsIf_build2 {P : Program} {ops : Array Oper} {S : World → Prop} {o : Oper} {a : Act} (hw : Region.wanted o (yielded ops a.tmps) = true) (t : TypeId) (x y : Operand) (ho : o.op = .build t #[(0, x), (1, y)])
    (vx vy v : Value) (hx : a.eval x = vx) (hy : a.eval y = vy) (hr : ∀ wq, (Instr.build t #[(0, vx), (1, vy)]).run P wq = .ok v wq) : YieldsIf P ops S o v a :=
  .inl ⟨hw, fun w _ => by
    unfold execOp
    have e : (#[(0, x), (1, y)].map fun (p : Nat × Operand) => (p.1, a.eval p.2)) = #[(0, vx), (1, vy)] := by simp [hx, hy]
    simp only [ho, e, Sem.run_bind, hr, Result.andThen_ok]
    rfl⟩
end Go.Proofs.YtckomfffilonlaaDoor
