/-
  tx: what is read of bytes, as data; what stays where blocks are stored into. · A region that draws its order and stores into what it has loaded: S is asked only as long as operation k, which waits for the load, has not come up. · tx: the program's readInput and readOutput. · tx: rows that grow by one.
-/
import Derived.Test.YtjcbihdhkaiidaaRe2
import Derived.Test.YtjcbihdhkaiidaaPBlQ5
import Derived.Test.YtjcbihdhkaiidaaChecked
import Derived.Deep.RegionHeld
import Derived.Deep.RegionHeldLaw
import Derived.Deep.RegionHeld3
import Derived.Great.BuildSlice
namespace Go.Proofs.Ytjcbihdhkaiidaa
open Go.RowKit

/-- A transaction as data. -/
structure TxP where
  ins : List (List UInt8 × Nat × List UInt8)
  outs : List OutR
  nonce : Nat
def inP (i : InR) : List UInt8 × Nat × List UInt8 := (i.id, i.n, i.wit)
def txP (t : TxR) : TxP := ⟨t.ins.map inP, t.outs, t.nonce⟩
def unP (x : List UInt8 × Nat × List UInt8) : InR := ⟨x.1, x.2.1, none, 0, x.2.2⟩
def TxP.up (p : TxP) : TxR := ⟨none, 0, p.ins.map unP, none, 0, p.outs, p.nonce⟩
theorem twiceB_up (l : List InR) : twiceB ((l.map inP).map unP) = twiceB l := by
  induction l with
  | nil => rfl
  | cons i r ih =>
    simp only [List.map_cons, twiceB, ih, List.any_map]
    rfl
theorem checkT_up (t : TxR) : checkT (txP t).up = checkT t := by
  unfold checkT formB
  have h1 : (txP t).up.ins = (t.ins.map inP).map unP := rfl
  have h2 : (txP t).up.outs = t.outs := rfl
  have h3 : ((t.ins.map inP).map unP).any longB = t.ins.any longB := by
    rw [List.any_map, List.any_map]; rfl
  rw [h1, h2, twiceB_up, h3, List.length_map, List.length_map]
theorem checkT_same {t u : TxR} (h : txP t = txP u) : checkT t = checkT u := by rw [← checkT_up, h, checkT_up]

/-! reading -/
def readI (s : Option (List UInt8)) : (List UInt8 × Nat × List UInt8) × Option (List UInt8) :=
  ((over zero32 (cutPiece s 32 true) 32, ofLe (cutPiece (cutRest s 32 true) 4 true), blobPiece (cutRest (cutRest s 32 true) 4 true)), blobRest (cutRest (cutRest s 32 true) 4 true))
def readO (s : Option (List UInt8)) : OutR × Option (List UInt8) :=
  (⟨ofLe (cutPiece s 8 true), over zero32 (cutPiece (cutRest s 8 true) 32 true) 32⟩, cutRest (cutRest s 8 true) 32 true)
def readIs : Nat → Option (List UInt8) → List (List UInt8 × Nat × List UInt8) × Option (List UInt8)
  | 0, s => ([], s)
  | k + 1, s => ((readIs k s).1 ++ [(readI (readIs k s).2).1], (readI (readIs k s).2).2)
def readOs : Nat → Option (List UInt8) → List OutR × Option (List UInt8)
  | 0, s => ([], s)
  | k + 1, s => ((readOs k s).1 ++ [(readO (readOs k s).2).1], (readO (readOs k s).2).2)
theorem readIs_len (k : Nat) (s : Option (List UInt8)) : (readIs k s).1.length = k := by
  induction k with
  | zero => rfl
  | succ k ih => simp [readIs, ih]
theorem readOs_len (k : Nat) (s : Option (List UInt8)) : (readOs k s).1.length = k := by
  induction k with
  | zero => rfl
  | succ k ih => simp [readOs, ih]
theorem readI_le (s : Option (List UInt8)) : lenS (readI s).2 ≤ lenS s := Nat.le_trans (Nat.le_trans (lenS_cutRest _ _ _) (Nat.le_trans (lenS_cutRest _ _ _) (lenS_cutRest _ _ _))) (lenS_cutRest _ _ _)
theorem readO_le (s : Option (List UInt8)) : lenS (readO s).2 ≤ lenS s := Nat.le_trans (lenS_cutRest _ _ _) (lenS_cutRest _ _ _)
theorem readIs_le (k : Nat) (s : Option (List UInt8)) : lenS (readIs k s).2 ≤ lenS s := by
  induction k with
  | zero => exact Nat.le_refl _
  | succ k ih => exact Nat.le_trans (readI_le _) ih
theorem readOs_le (k : Nat) (s : Option (List UInt8)) : lenS (readOs k s).2 ≤ lenS s := by
  induction k with
  | zero => exact Nat.le_refl _
  | succ k ih => exact Nat.le_trans (readO_le _) ih
/-- How many are read. -/
def ofN (s : Option (List UInt8)) : Nat := min (ofLe (cutPiece s 2 true)) 65
def ofI (b : List UInt8) : List (List UInt8 × Nat × List UInt8) × Option (List UInt8) := readIs (ofN (some b)) (cutRest (some b) 2 true)
def ofO (b : List UInt8) : List OutR × Option (List UInt8) := readOs (ofN (ofI b).2) (cutRest (ofI b).2 2 true)
/-- What stands in the bytes, if all of it is there. -/
def ofP (b : List UInt8) : TxP := ⟨(ofI b).1, (ofO b).1, ofLe (cutPiece (ofO b).2 8 true)⟩
def ofR (b : List UInt8) : Option (List UInt8) := cutRest (ofO b).2 8 true
/-- Are they a transaction's bytes? -/
def ofB (b : List UInt8) : Bool := decide (ofR b = some []) && (checkT (ofP b).up == 0)
def noP : TxP := ⟨[], [], 0⟩
def ofV (b : List UInt8) : TxP := bif ofB b then ofP b else noP
theorem ofLe_lt8 (s : Option (List UInt8)) (Z : Nat) (hZ : Z ≤ 8) : ofLe (cutPiece s Z true) < 18446744073709551616 := by
  have h1 := ofLe_lt (cutPiece s Z true)
  have h2 := cutPiece_le s Z true
  have h3 : 256 ^ (cutPiece s Z true).length ≤ 256 ^ 8 := Nat.pow_le_pow_right (by omega) (by simp at h2; omega)
  have h4 : (256 : Nat) ^ 8 = 18446744073709551616 := by decide
  omega
theorem ofLe_lt4 (s : Option (List UInt8)) : ofLe (cutPiece s 4 true) < 4294967296 := by
  have h1 := ofLe_lt (cutPiece s 4 true)
  have h2 := cutPiece_le s 4 true
  have h3 : 256 ^ (cutPiece s 4 true).length ≤ 256 ^ 4 := Nat.pow_le_pow_right (by omega) h2
  have h4 : (256 : Nat) ^ 4 = 4294967296 := by decide
  omega
theorem ofLe_lt2 (s : Option (List UInt8)) : ofLe (cutPiece s 2 true) < 65536 := by
  have h1 := ofLe_lt (cutPiece s 2 true)
  have h2 := cutPiece_le s 2 true
  have h3 : 256 ^ (cutPiece s 2 true).length ≤ 256 ^ 2 := Nat.pow_le_pow_right (by omega) h2
  have h4 : (256 : Nat) ^ 2 = 65536 := by decide
  omega
theorem hash_len (p : List UInt8) : (over zero32 p 32).length = 32 := over_length zero32 p

/-! what stays -/
/-- F, in every world that differs in the blocks S alone. -/
def Kept (S : Nat → Prop) (w : World) (F : World → Prop) : Prop := ∀ W, Keeps S w W → F W
theorem Kept.now {S : Nat → Prop} {w : World} {F : World → Prop} (h : Kept S w F) : F w := h w (Keeps.refl S w)
theorem Kept.step {S S' : Nat → Prop} {w w' : World} {F : World → Prop} (h : Kept S w F) (k : Keeps S w w') (hS : ∀ b, b < w.heap.size → S' b → S b) : Kept S' w' F := fun W hW =>
  h W ⟨hW.os.trans k.os, hW.tape.trans k.tape, hW.output.trans k.output, Nat.le_trans k.size hW.size, fun b hb hn => (hW.block b (Nat.lt_of_lt_of_le hb k.size) (fun h' => hn (hS b hb h'))).trans (k.block b hb hn)⟩
theorem Kept.and {S : Nat → Prop} {w : World} {F G : World → Prop} (h : Kept S w F) (k : Kept S w G) : Kept S w (fun W => F W ∧ G W) := fun W hW => ⟨h W hW, k W hW⟩
theorem Kept.mono {S : Nat → Prop} {w : World} {F G : World → Prop} (h : Kept S w F) (hi : ∀ W, F W → G W) : Kept S w G := fun W hW => hi W (h W hW)
theorem Kept.sub {S S' : Nat → Prop} {w : World} {F : World → Prop} (h : Kept S w F) (hS : ∀ b, S' b → S b) : Kept S' w F := h.step (Keeps.refl S w) (fun b _ => hS b)
theorem Kept.nil {S : Nat → Prop} {w : World} : Kept S w (fun W => ∀ i ∈ ([] : List InR), InOk W i) := fun _ _ i hi => by cases hi
theorem Kept.snoc {S : Nat → Prop} {w : World} {l : List InR} {i : InR} (h : Kept S w (fun W => ∀ j ∈ l, InOk W j)) (k : Kept S w (fun W => InOk W i)) : Kept S w (fun W => ∀ j ∈ l ++ [i], InOk W j) := fun W hW j hj => by
  rcases List.mem_append.1 hj with hj | hj
  · exact h W hW j hj
  · rw [List.mem_singleton.1 hj]; exact k W hW
/-- A row of one's own stays where its block is not stored into. -/
theorem own_kept {S : Nat → Prop} {w : World} {size n c : Nat} {e : TypeId} {base : Nat} {A : Option Addr} {xs : List Value} (h : w.ownsRow base e size (.slice A n c) n xs) (hS : ∀ j, (Value.slice A n c).ownBlock = some j → ¬ S j) : Kept S w (fun W => SeesV W W.heap.size A xs) := fun W hW => by
  rcases SeesV.own h with h1 | ⟨b, off, hA, hlt, hc⟩
  · exact .inl h1
  · refine .inr ⟨b, off, hA, Nat.lt_of_lt_of_le hlt hW.size, fun i hi => ?_⟩
    refine (hW.cell (p := ⟨b, off + i, none⟩) hlt (hS b ?_)).trans (hc i hi)
    rcases h.2 with ⟨hv, _⟩ | ⟨g, cap, cur, hv, _⟩
    · injection hv with hA' _ _; rw [hA'] at hA; cases hA
    · injection hv with hA' _ _; rw [hA'] at hA; injection hA with e; injection e with e _ _; subst e; rw [hA']; rfl
/-- An input whose bytes lie elsewhere. -/
theorem in_kept {S : Nat → Prop} {w : World} {i : InR} (h : InOk w i) (hS : ∀ ad, i.A = some ad → ¬ S ad.block) : Kept S w (fun W => InOk W i) := fun _ hW =>
  ⟨h.id, h.n, h.c, ((h.s.keeps hW (fun ad e _ => hS ad e)).more hW.size), h.m⟩
theorem insC_snoc (l : List InR) (i : InR) : insC (l ++ [i]) = insC l ++ inC i := by simp [insC]
theorem outsC_snoc (l : List OutR) (o : OutR) : outsC (l ++ [o]) = outsC l ++ outC o := by simp [outsC]

theorem readO_ok (s : Option (List UInt8)) : OutOk (readO s).1 := ⟨ofLe_lt8 s 8 (by decide), hash_len _⟩
theorem readOs_ok (k : Nat) (s : Option (List UInt8)) : ∀ o ∈ (readOs k s).1, OutOk o := by
  induction k with
  | zero => intro o ho; cases ho
  | succ k ih =>
    intro o ho
    rcases List.mem_append.1 ho with ho | ho
    · exact ih o ho
    · rw [List.mem_singleton.1 ho]; exact readO_ok _

/-! structs that are written out -/
theorem foldl_put (off : Nat) (vs : List Value) : ∀ (k : Nat) (l : List Value), off + k + vs.length ≤ l.length →
    (vs.zipIdx k).foldl (fun (cs : Array Value) (p : Value × Nat) => cs.setIfInBounds (off + p.2) p.1) l.toArray = (l.take (off + k) ++ vs ++ l.drop (off + k + vs.length)).toArray := by
  induction vs with
  | nil => intro k l h; simp
  | cons v r ih =>
    intro k l h
    simp only [List.length_cons] at h
    rw [List.zipIdx_cons, List.foldl_cons, List.setIfInBounds_toArray, ih (k + 1) _ (by rw [List.length_set]; omega)]
    congr 1
    have h1 : (l.set (off + k) v).take (off + (k + 1)) = l.take (off + k) ++ [v] := by
      rw [← Nat.add_assoc, List.take_succ_eq_append_getElem (by rw [List.length_set]; omega), List.getElem_set_self, List.take_set_of_le (Nat.le_refl _)]
    have h2 : (l.set (off + k) v).drop (off + (k + 1) + r.length) = l.drop (off + k + (r.length + 1)) := by
      rw [List.drop_set_of_lt (by omega)]; congr 1; omega
    rw [h1, h2, List.append_assoc, List.append_assoc]; simp
theorem fill_pair (place : Nat → Option (Nat × Nat)) (z a b : List Value) (va vb : Value) (ha : va.cells = a.toArray) (hb : vb.cells = b.toArray) (h0 : place 0 = some (0, a.length)) (h1 : place 1 = some (a.length, b.length)) (hz : z.length = a.length + b.length) :
    Instr.fill place z.toArray [(0, va), (1, vb)] = some (a ++ b).toArray := by
  have f0 := foldl_put 0 a 0 z (by omega)
  simp only [Nat.zero_add, List.take_zero, List.nil_append] at f0
  have f1 := foldl_put a.length b 0 (a ++ z.drop a.length) (by rw [List.length_append, List.length_drop]; omega)
  have hd : (a ++ z.drop a.length).drop (a.length + b.length) = [] := List.drop_eq_nil_of_le (by rw [List.length_append, List.length_drop]; omega)
  rw [Nat.add_zero, List.take_append_of_le_length (Nat.le_refl _), List.take_length, hd, List.append_nil] at f1
  unfold Instr.fill
  simp only [h0, ha, Nat.zero_add, List.size_toArray]
  rw [if_neg (by simp; omega)]
  have e0 : ∀ (u : Array Value), u = a.toArray → (u.zipIdx.foldl (fun (cs : Array Value) (p : Value × Nat) => cs.setIfInBounds p.2 p.1) z.toArray) = (a ++ z.drop a.length).toArray := by
    intro u hu
    subst hu
    rw [← f0]
    simp
  rw [e0 _ rfl]
  unfold Instr.fill
  simp only [h1, hb, List.size_toArray]
  rw [if_neg (by simp; omega)]
  unfold Instr.fill
  rw [← f1]
  simp
theorem infoP {P : Program} {t : TypeId} {z : Value} {s b : Nat} (h : (P.info? t).map (fun i => (i.zero, i.size, i.bytes)) = some (some z, s, b)) : ∃ i, P.info? t = some i ∧ i.zero = some z ∧ i.size = s ∧ i.bytes = b := by
  cases hi : P.info? t with
  | none => rw [hi] at h; cases h
  | some i => rw [hi] at h; simp at h; exact ⟨i, rfl, h.1, h.2.1, h.2.2⟩
theorem built_struct {P : Program} {t : TypeId} {i0 : TypeInfo} {z : Value} {fs : Array Field} {places : List (Nat × Nat)} (hi : P.info? t = some i0) (hz : i0.zero = some z) (hu : P.underlying t = some (.struct fs))
    (hp : fs.toList.mapM (fun f => (P.info? f.type).map fun i => (f.offset, i.size)) = some places) (parts : List (Nat × Value)) : P.built t parts = Instr.fill (places.toArray[·]?) z.cells parts := by
  unfold Program.built
  simp only [hi, hu, hz, hp]
def zeros32 : List Value := List.replicate 32 (.int .u8 0)
theorem Try.ptinfo : (Try.prog.info? 41).map (fun i => (i.zero, i.size, i.bytes)) = some (some (.agg (zeros32 ++ [Value.int .u32 0]).toArray), 33, 36) := by kernel_rfl
theorem Try.ininfo : (Try.prog.info? 44).map (fun i => (i.zero, i.size, i.bytes)) = some (some (.agg (zeros32 ++ [Value.int .u32 0, Value.slice none 0 0]).toArray), 34, 64) := by kernel_rfl
theorem Try.outinfo : (Try.prog.info? 46).map (fun i => (i.zero, i.size, i.bytes)) = some (some (.agg (Value.int .u64 0 :: zeros32).toArray), 33, 40) := by kernel_rfl
theorem build_pt (l : List UInt8) (hl : l.length = 32) (n : Nat) (wq : World) : (Instr.build 41 #[(0, .agg (By l).toArray), (1, .int .u32 (n : Int))]).run Try.prog wq = .ok (.agg (By l ++ [Value.int .u32 (n : Int)]).toArray) wq := by
  obtain ⟨i0, hi, hz, _, _⟩ := infoP Try.ptinfo
  refine run_build wq _ _ _ ?_
  rw [built_struct hi hz Try.underlying41 (places := [(0, 32), (32, 1)]) (by kernel_rfl)]
  exact fill_pair ([(0, 32), (32, 1)].toArray[·]?) (zeros32 ++ [.int .u32 0]) (By l) [.int .u32 (n : Int)] (.agg (By l).toArray) (.int .u32 (n : Int)) rfl rfl (by rw [By_length, hl]; rfl) (by rw [By_length, hl]; rfl) (by rw [By_length, hl]; rfl)
theorem build_in (i : InR) (hl : i.id.length = 32) (wq : World) : (Instr.build 44 #[(0, .agg (By i.id ++ [Value.int .u32 (i.n : Int)]).toArray), (1, .slice i.A i.wit.length i.c)]).run Try.prog wq = .ok (.agg (inC i).toArray) wq := by
  obtain ⟨i0, hi, hz, _, _⟩ := infoP Try.ininfo
  refine run_build wq _ _ _ ?_
  rw [built_struct hi hz Try.underlying44 (places := [(0, 33), (33, 1)]) (by kernel_rfl)]
  have h33 : (By i.id ++ [Value.int .u32 (i.n : Int)]).length = 33 := by simp [By_length, hl]
  have hf := fill_pair ([(0, 33), (33, 1)].toArray[·]?) (zeros32 ++ [.int .u32 0, .slice none 0 0]) (By i.id ++ [.int .u32 (i.n : Int)]) [.slice i.A i.wit.length i.c] (.agg (By i.id ++ [Value.int .u32 (i.n : Int)]).toArray) (.slice i.A i.wit.length i.c) rfl rfl (by rw [h33]; rfl) (by rw [h33]; rfl) (by rw [h33]; rfl)
  rw [List.append_assoc] at hf
  exact hf
theorem build_out (o : OutR) (hl : o.lock.length = 32) (wq : World) : (Instr.build 46 #[(0, .int .u64 (o.amt : Int)), (1, .agg (By o.lock).toArray)]).run Try.prog wq = .ok (.agg (outC o).toArray) wq := by
  obtain ⟨i0, hi, hz, _, _⟩ := infoP Try.outinfo
  refine run_build wq _ _ _ ?_
  rw [built_struct hi hz Try.underlying46 (places := [(0, 1), (1, 32)]) (by kernel_rfl)]
  exact fill_pair ([(0, 1), (1, 32)].toArray[·]?) (.int .u64 0 :: zeros32) [.int .u64 (o.amt : Int)] (By o.lock) (.int .u64 (o.amt : Int)) (.agg (By o.lock).toArray) rfl rfl rfl (by rw [By_length, hl]; rfl) (by rw [By_length, hl]; rfl)
/-- A struct of two parts that is written out, as the walk meets it. -/
theorem wpList_build2 {P : Program} {ops : Array Oper} {rest : List Oper} {o : Oper} {a : Act} {w : World} {Q : Exit → Act → World → Prop} (hg : o.guard = none) (t : TypeId) (x y : Operand) (ho : o.op = .build t #[(0, x), (1, y)])
    (vx vy v : Value) (hx : a.eval x = vx) (hy : a.eval y = vy) (hr : ∀ wq, (Instr.build t #[(0, vx), (1, vy)]).run P wq = .ok v wq) (h : wpList P ops Q rest (a.put o.dst v) w) : wpList P ops Q (o :: rest) a w := by
  refine wpList_plain hg fun _ hK => ?_
  unfold Oper.wp execOp
  have e : (#[(0, x), (1, y)].map fun (p : Nat × Operand) => (p.1, a.eval p.2)) = #[(0, vx), (1, vy)] := by simp [hx, hy]
  simp only [ho, e, Sem.run_bind, hr, Result.andThen_ok]
  exact hK _ _ h
theorem yieldsIf_build2 {P : Program} {ops : Array Oper} {S : World → Prop} {o : Oper} {a : Act} (hw : Region.wanted o (yielded ops a.tmps) = true) (t : TypeId) (x y : Operand) (ho : o.op = .build t #[(0, x), (1, y)])
    (vx vy v : Value) (hx : a.eval x = vx) (hy : a.eval y = vy) (hr : ∀ wq, (Instr.build t #[(0, vx), (1, vy)]).run P wq = .ok v wq) : YieldsIf P ops S o v a :=
  .inl ⟨hw, fun w _ => by
    unfold execOp
    have e : (#[(0, x), (1, y)].map fun (p : Nat × Operand) => (p.1, a.eval p.2)) = #[(0, vx), (1, vy)] := by simp [hx, hy]
    simp only [ho, e, Sem.run_bind, hr, Result.andThen_ok]
    rfl⟩
end Go.Proofs.Ytjcbihdhkaiidaa
namespace Go.Proofs.Ytjcbihdhkaiidaa
open Go

section
variable {P : Program} {ops : Array Oper} {Q : Exit → Act → World → Prop} {md : Region.Mode} {S : World → Prop} {k : Nat}

def KT (S : World → Prop) (k : Nat) (L : Array Bool) (w : World) : Prop := L.getD k true = false → S w
def wpAnyK (P : Program) (md : Region.Mode) (ops : Array Oper) (Q : Exit → Act → World → Prop) (S : World → Prop) (k : Nat) : Nat → Array Bool → Act → World → Prop
  | 0, listed, a, w => Region.ready md ops listed = [] ∧ Q .normal a w
  | fuel + 1, listed, a, w =>
    (Region.ready md ops listed = [] → Q .normal a w) ∧
    ∀ i ∈ Region.ready md ops listed, wpOp P ops Q i (fun a' w' => KT S k (listed.setIfInBounds i true) w' ∧ wpAnyK P md ops Q S k fuel (listed.setIfInBounds i true) a' w') a w
theorem wpAny_of_K : ∀ (fuel : Nat) (listed : Array Bool) (a : Act) (w : World), wpAnyK P md ops Q S k fuel listed a w → wpAny P md ops Q fuel listed a w
  | 0, _, _, _, h => h
  | fuel + 1, _, _, _, h => ⟨h.1, fun i hi => wpOp_mono (fun a' w' h' => wpAny_of_K fuel _ a' w' h'.2) (h.2 i hi)⟩
theorem KT.set {L : Array Bool} {w : World} {i : Nat} (hik : i ≠ k) : KT S k (L.setIfInBounds i true) w ↔ KT S k L w := by
  unfold KT; rw [getD_set_ne true hik]

theorem wpAnyK_first {i : Nat} {oi : Oper} {v : Value} {R : World → Prop} {good : Array Bool → Prop} (hi : ops[i]? = some oi) (hsel : ∀ (j : Nat) (o : Oper) cs b, ops[j]? = some o → o.op ≠ .select cs b)
    (hQ : ∀ c a w, Q (.panic c) (a.put oi.dst v) w → Q (.panic c) a w) (hik : i ≠ k)
    (hgS : ∀ (j : Nat) (L : Array Bool), good L → j ∈ Region.ready md ops L → i ∈ Region.ready md ops L → good (L.setIfInBounds j true))
    (hgR : ∀ (L : Array Bool) (w : World), good L → KT S k L w → R w) :
    ∀ (fuel : Nat) (listed : Array Bool) (a : Act) (w : World),
      (∀ j oj, ops[j]? = some oj → j ≠ i → listed.getD j true = false → (∀ e ∈ oj.after, Region.binds md e = true → e.on ≠ i) → oi.apart ops oj = true) →
      i ∈ Region.ready md ops listed → YieldsIf P ops R oi v a → good listed → KT S k listed w →
      wpAnyK P md ops Q S k fuel (listed.setIfInBounds i true) (a.put oi.dst v) w → wpAnyK P md ops Q S k (fuel + 1) listed a w := by
  intro fuel
  induction fuel with
  | zero =>
    intro listed a w _ hr hy hg hT H
    refine ⟨fun h => (by rw [h] at hr; cases hr), fun j hj => ?_⟩
    by_cases hji : j = i
    · subst hji; exact hy.wpOp hi (hgR _ _ hg hT) ⟨(KT.set hik).2 hT, H⟩
    · have := ready_mono hj hji
      rw [H.1] at this
      cases this
  | succ fuel ih =>
    intro listed a w hfree hr hy hg hT H
    refine ⟨fun h => (by rw [h] at hr; cases hr), fun j hj => ?_⟩
    by_cases hji : j = i
    · subst hji; exact hy.wpOp hi (hgR _ _ hg hT) ⟨(KT.set hik).2 hT, H⟩
    · have h1 := H.2 j (ready_mono hj hji)
      obtain ⟨hjun, oj, hoj, hall⟩ := mem_ready.1 hj
      have hnot : ∀ e ∈ oj.after, Region.binds md e = true → e.on ≠ i := fun e he hb heq => by
        have h1 := hall e he hb
        have h0 := (mem_ready.1 hr).1
        rw [heq] at h1
        rcases Nat.lt_or_ge i listed.size with h' | h'
        · simp [h'] at h0 h1; rw [h0] at h1; cases h1
        · simp [Array.getElem?_eq_none h'] at h1
      have h2 := wpOp_putIf hoj (hfree j oj hoj hji hjun hnot) (fun cs b => hsel i oi cs b hi) (fun cs b => hsel j oj cs b hoj) hQ hy h1
      have hfree' : ∀ m ok, ops[m]? = some ok → m ≠ i → (listed.setIfInBounds j true).getD m true = false →
          (∀ e ∈ ok.after, Region.binds md e = true → e.on ≠ i) → oi.apart ops ok = true := fun m ok hk hki hun hno => by
        refine hfree m ok hk hki ?_ hno
        by_cases hjk : j = m
        · subst hjk; exact hjun
        · rw [getD_set_ne true hjk] at hun; exact hun
      have hT' : ∀ w', KT S k ((listed.setIfInBounds i true).setIfInBounds j true) w' → KT S k (listed.setIfInBounds j true) w' := fun w' h => by
        rw [← Array.setIfInBounds_comm _ _ hji] at h
        exact (KT.set hik).1 h
      refine wpOp_mono (fun a' w' h3 => ⟨hT' w' h3.2.1, ih (listed.setIfInBounds j true) a' w' hfree' (ready_mono hr (Ne.symm hji)) h3.1 (hgS j listed hg hj hr) (hT' w' h3.2.1) ?_⟩) h2
      rw [Array.setIfInBounds_comm _ _ hji]
      exact h3.2.2

/-- An operation that looks at no memory. -/
theorem wpAnyK_pure {i : Nat} {oi : Oper} {v : Value} {fuel : Nat} {listed : Array Bool} {a : Act} {w : World} (hi : ops[i]? = some oi)
    (hs : Region.noSelect ops = true) (hf : Region.free md ops listed i = true) (hr : (Region.ready md ops listed).contains i = true) (hik : (i == k) = false)
    (hQ : ∀ c a w, Q (.panic c) (a.put oi.dst v) w → Q (.panic c) a w) (hy : YieldsIf P ops (fun _ => True) oi v a) (hT : KT S k listed w)
    (h : wpAnyK P md ops Q S k fuel (listed.setIfInBounds i true) (a.put oi.dst v) w) : wpAnyK P md ops Q S k (fuel + 1) listed a w :=
  wpAnyK_first (R := fun _ => True) (good := fun _ => True) hi (Region.noSelect_spec hs) hQ (by simpa using hik) (fun _ _ _ _ _ => trivial) (fun _ _ _ _ => trivial) fuel listed a w (Region.free_spec hi hf) (by simpa using hr) hy trivial hT h
/-- A load that operation k waits for. -/
theorem wpAnyK_take {i : Nat} {oi : Oper} {v : Value} {fuel : Nat} {listed : Array Bool} {a : Act} {w : World} (hi : ops[i]? = some oi)
    (hs : Region.noSelect ops = true) (hf : Region.free md ops listed i = true) (hr : (Region.ready md ops listed).contains i = true) (hik : (i == k) = false)
    (hk : (ops[k]?).map (fun o => o.after.any fun e => Region.binds md e && e.on == i) = some true) (hl : listed.getD k true = false)
    (hQ : ∀ c a w, Q (.panic c) (a.put oi.dst v) w → Q (.panic c) a w) (hy : YieldsIf P ops S oi v a) (hT : KT S k listed w)
    (h : wpAnyK P md ops Q S k fuel (listed.setIfInBounds i true) (a.put oi.dst v) w) : wpAnyK P md ops Q S k (fuel + 1) listed a w := by
  refine wpAnyK_first (R := S) (good := fun L => L.getD k true = false) hi (Region.noSelect_spec hs) hQ (by simpa using hik) ?_ (fun L w hg hT => hT hg) fuel listed a w (Region.free_spec hi hf) (by simpa using hr) hy hl hT h
  intro j L hg hj hri
  by_cases hjk : j = k
  · exfalso
    subst hjk
    obtain ⟨_, o, ho, hall⟩ := mem_ready.1 hj
    rw [ho] at hk
    simp only [Option.map_some, Option.some.injEq, Array.any_eq_true, Bool.and_eq_true, beq_iff_eq] at hk
    obtain ⟨q, hq, hb, he⟩ := hk
    have h1 := hall _ (Array.getElem_mem hq) hb
    rw [he] at h1
    have h0 := (mem_ready.1 hri).1
    rcases Nat.lt_or_ge i L.size with h' | h'
    · simp [h'] at h0 h1; rw [h0] at h1; cases h1
    · simp [Array.getElem?_eq_none h'] at h1
  · rw [getD_set_ne true hjk]; exact hg

def AllReadyK (P : Program) (md : Region.Mode) (ops : Array Oper) (Q : Exit → Act → World → Prop) (S : World → Prop) (k : Nat) (fuel : Nat) (listed : Array Bool) (a : Act) (w : World) (rs : List Nat) : Prop :=
  ∀ i ∈ rs, wpOp P ops Q i (fun a' w' => KT S k (listed.setIfInBounds i true) w' ∧ wpAnyK P md ops Q S k fuel (listed.setIfInBounds i true) a' w') a w
theorem AllReadyK.nil {fuel : Nat} {listed : Array Bool} {a : Act} {w : World} : AllReadyK P md ops Q S k fuel listed a w [] := fun _ h => by cases h
theorem AllReadyK.cons {fuel : Nat} {listed : Array Bool} {a : Act} {w : World} {i : Nat} {o : Oper} {rs : List Nat} (ho : ops[i]? = some o)
    (h : ∀ K' : Act → World → Prop, Shut (∀ a w, KT S k (listed.setIfInBounds i true) w → (KT S k (listed.setIfInBounds i true) w → wpAnyK P md ops Q S k fuel (listed.setIfInBounds i true) a w) → K' a w) → if Region.wanted o (yielded ops a.tmps) = true then Oper.wp P o a w K' Q else K' (a.put o.dst undef) w)
    (hs : AllReadyK P md ops Q S k fuel listed a w rs) : AllReadyK P md ops Q S k fuel listed a w (i :: rs) := fun j hj => by
  rcases List.mem_cons.1 hj with rfl | hj
  · exact wpOp_step ho (fun K' hK => h K' (fun a w hS hW => hK a w ⟨hS, hW hS⟩))
  · exact hs j hj
theorem wpAnyK_ready {rs : List Nat} {fuel : Nat} {listed : Array Bool} {a : Act} {w : World} (hr : Region.ready md ops listed = rs) (hne : rs ≠ [])
    (h : AllReadyK P md ops Q S k fuel listed a w rs) : wpAnyK P md ops Q S k (fuel + 1) listed a w := ⟨fun h0 => absurd (hr ▸ h0) hne, hr ▸ h⟩
theorem wpAnyK_done {listed : Array Bool} {a : Act} {w : World} (hr : Region.ready md ops listed = []) (h : Q .normal a w) :
    ∀ fuel, wpAnyK P md ops Q S k fuel listed a w
  | 0 => ⟨hr, h⟩
  | _ + 1 => ⟨fun _ => h, by rw [hr]; simp⟩
theorem wp_region_K {id : Nat} {a : Act} {w : World} (S : World → Prop) (k : Nat) (hm : P.follows .mixedOrders = true) (hS : S w.drew)
    (h : KT S k (Array.replicate ops.size false) w.drew → wpAnyK P .any ops Q S k ops.size (Array.replicate ops.size false) a w.drew) : (Code.region id ops true).wp P Q a w :=
  wp_region_any hm (wpAny_of_K _ _ _ _ (h (fun _ => hS)))
end
end Go.Proofs.Ytjcbihdhkaiidaa
namespace Go.Proofs.Ytjcbihdhkaiidaa
open Go.RowKit

theorem Keeps.fresh {S : Nat → Prop} {w w1 w2 : World} {j : Nat} (h : Keeps S w w1) (k : Keeps (· = j) w1 w2) (hj : w.heap.size ≤ j) : Keeps S w w2 :=
  ⟨k.os.trans h.os, k.tape.trans h.tape, k.output.trans h.output, Nat.le_trans h.size k.size, fun b hb hn => (k.block b (Nat.lt_of_lt_of_le hb h.size) (by omega)).trans (h.block b hb hn)⟩
theorem rngK {w w' : World} {S : Nat → Prop} {b o : Nat} {cs : List Value} (h : w.rangeAt b o cs) (hk : Keeps S w w') (hlt : b < w.heap.size) (hn : ¬ S b) : w'.rangeAt b o cs := fun j v hv => (hk.cell (p := ⟨b, o + j, none⟩) hlt hn).trans (h j v hv)
section
variable {P : Program} {w : World}
theorem step_store_whole {ops : Array Oper} {o : Oper} {a : Act} {K : Act → World → Prop} {Q : Exit → Act → World → Prop} {E : Prop} (hgd : o.guard = none) (ty : TypeId) (x y : Operand) (ho : o.op = .store ty x y)
    (g : Nat) (t : TypeId) (old cells : Array Value) (hx : a.eval x = .pointer (some ⟨g, 0, none⟩)) (hy : a.eval y = .agg cells) (hg : Blk w g t old) (hs : old.size = cells.size)
    (hi : (P.info? ty).map (·.size) = some cells.size) (h1 : ∀ v ∈ cells.toList, v.oneCell' = true)
    (h : ∀ w', Blk w' g t cells → Keeps (· = g) w w' → w'.heap.size = w.heap.size → K (a.put o.dst undef) w') :
    if Region.wanted o (yielded ops a.tmps) = true then Oper.wp P o a w K Q else E := by
  have hw : Region.wanted o (yielded ops a.tmps) = true := by simp [Region.wanted, hgd]
  rw [if_pos hw]
  obtain ⟨w', hr, h2, h3, h4⟩ := run_storeVar_all (P := P) g t ty old cells hg hs hi h1
  unfold Oper.wp execOp
  simp only [ho, hx, hy, Instr.storeAt, Instr.sureAddr, Sem.run_bind, Sem.run_pure, Result.andThen_ok, hr]
  exact h w' h2 h3 h4
end
theorem ptC_one (l : List UInt8) (n : Nat) : ∀ u ∈ (By l ++ [Value.int .u32 (n : Int)]).toArray.toList, u.oneCell' = true := by
  intro u hu
  rw [List.toList_toArray] at hu
  rcases List.mem_append.1 hu with hu | hu
  · exact By_one' _ u hu
  · rw [List.mem_singleton.1 hu]; rfl
def outZ : Array Value := (Value.int .u64 0 :: zeros32).toArray
def inZ : Array Value := (zeros32 ++ [Value.int .u32 0, Value.slice none 0 0]).toArray
def ptZ : Array Value := (zeros32 ++ [Value.int .u32 0]).toArray

end Go.Proofs.Ytjcbihdhkaiidaa
namespace Go.Proofs.Ytjcbihdhkaiidaa
open Go.RowKit

theorem fill_single (size : Nat) (z : List Value) (vs : List Value) (hz : z.length = size) (hv : vs.length = size) :
    Instr.fill (fun i => some (i * size, size)) z.toArray [(0, .agg vs.toArray)] = some vs.toArray := by
  have h := foldl_put 0 vs 0 z (by omega)
  simp only [Nat.zero_add, List.take_zero, List.nil_append] at h
  rw [List.drop_eq_nil_of_le (by omega), List.append_nil] at h
  have hc : (Value.agg vs.toArray).cells = vs.toArray := rfl
  unfold Instr.fill
  simp only [hc, Nat.zero_mul, Nat.zero_add, List.size_toArray]
  rw [if_neg (by simp; omega)]
  unfold Instr.fill
  congr 1
  refine Eq.trans ?_ h
  simp
theorem fill_row1 {P : Program} {E : TypeId} {z : Value} {sz by_ : Nat} {a : Act} {x : Operand} {cs : List Value} {i0 : TypeInfo} (hs : i0.size = sz) (hc : cs.length = sz) (hx : a.eval x = .agg cs.toArray) :
    Instr.fill (fun i => some (i * i0.size, i0.size)) ((Array.range (1 * i0.size)).map (z.cells[· % z.cells.size]!)) ((#[(0, x)].map fun (p : Nat × Operand) => (p.1, a.eval p.2)).toList) = some cs.toArray := by
  rw [hs]
  have e : (#[(0, x)].map fun (p : Nat × Operand) => (p.1, a.eval p.2)).toList = [(0, .agg cs.toArray)] := by simp [hx]
  have hf := fill_single sz ((Array.range (1 * sz)).map (z.cells[· % z.cells.size]!)).toList cs (by simp) hc
  rw [Array.toArray_toList] at hf
  rw [e]; exact hf
theorem wpList_build_one {P : Program} {ops : Array Oper} {rest : List Oper} {o : Oper} {a : Act} {w : World} {Q : Exit → Act → World → Prop} (hg : o.guard = none) (T E : TypeId) (x : Operand) (ho : o.op = .buildSlice T 1 #[(0, x)])
    (cs : List Value) (z : Value) (sz by_ : Nat) (hu : P.underlying T = some (.slice E)) (hi : (P.info? E).map (fun i => (i.zero, i.size, i.bytes)) = some (some z, sz, by_)) (h0 : 0 < sz) (h1 : sz ≤ 1000) (hc : cs.length = sz) (hx : a.eval x = .agg cs.toArray)
    (h : wpList P ops Q rest (a.put o.dst (.slice (some ⟨w.heap.size, 0, none⟩) 1 1)) (w.alloc (.cells cs.toArray E))) : wpList P ops Q (o :: rest) a w := by
  obtain ⟨i0, hi0, hz, hs, _⟩ := infoP hi
  exact wpList_plain hg fun _ hK => wp_buildSlice T E 1 #[(0, x)] ho cs.toArray i0 z hu hi0 hz (by rw [hs]; omega) (by rw [hs]; omega) (fill_row1 (P := P) (E := E) (by_ := by_) hs hc hx) (hK _ _ h)
theorem step_build_one {P : Program} {ops : Array Oper} {o : Oper} {a : Act} {w : World} {K : Act → World → Prop} {Q : Exit → Act → World → Prop} {F : Prop} (hg : o.guard = none) (T E : TypeId) (x : Operand) (ho : o.op = .buildSlice T 1 #[(0, x)])
    (cs : List Value) (z : Value) (sz by_ : Nat) (hu : P.underlying T = some (.slice E)) (hi : (P.info? E).map (fun i => (i.zero, i.size, i.bytes)) = some (some z, sz, by_)) (h0 : 0 < sz) (h1 : sz ≤ 1000) (hc : cs.length = sz) (hx : a.eval x = .agg cs.toArray)
    (h : K (a.put o.dst (.slice (some ⟨w.heap.size, 0, none⟩) 1 1)) (w.alloc (.cells cs.toArray E))) : if Region.wanted o (yielded ops a.tmps) = true then Oper.wp P o a w K Q else F := by
  have hw : Region.wanted o (yielded ops a.tmps) = true := by simp [Region.wanted, hg]
  rw [if_pos hw]
  obtain ⟨i0, hi0, hz, hs, _⟩ := infoP hi
  exact wp_buildSlice T E 1 #[(0, x)] ho cs.toArray i0 z hu hi0 hz (by rw [hs]; omega) (by rw [hs]; omega) (fill_row1 (P := P) (E := E) (by_ := by_) hs hc hx) h
theorem own_keepsS {S : Nat → Prop} {w w' : World} {base size n : Nat} {e : TypeId} {v : Value} {xs : List Value} (h : w.ownsRow base e size v n xs) (hk : Keeps S w w') (hn : ∀ j, v.ownBlock = some j → ¬ S j) : w'.ownsRow base e size v n xs := by
  refine ⟨h.1, ?_⟩
  rcases h.2 with h2 | ⟨g', cap, cur, rfl, hg, hh, r⟩
  · exact .inl h2
  · have hb : Blk w g' e cur := hh
    exact .inr ⟨g', cap, cur, rfl, hg, (hk.block g' hb.lt (hn g' rfl)).trans hh, r⟩
theorem row_tmp {P : Program} {fn : Func} {p u : Tmp} {ty : TypeId} (h : fn.results = #[.cell p ty, .tmp u]) (tmps : Array Value) (w : World) (g : Nat) (t : TypeId) (cs : Array Value) (d : TypeDesc)
    (hp : tmps.getD p undef = .pointer (some ⟨g, 0, none⟩)) (hg : Blk w g t cs) (hu : P.underlying ty = some d) (hd : (match d with | .struct _ | .array _ _ => true | _ => false) = true) (hi : (P.info? ty).map (·.size) = some cs.size)
    (v : Value) (hv : tmps.getD u undef = v) : (results fn tmps).run P w = .ok (.tuple #[.agg cs, v]) w := by
  rw [results_cell_tmp h, hp, hv]
  simp [asAddr, run_loadVar_row w g t ty cs (0, 0) d hg hu hd hi]
theorem of_parts {b : List UInt8} {I : List (List UInt8 × Nat × List UInt8)} {s s4 : Option (List UInt8)} {o : List OutR} (h1 : readIs (ofN (some b)) (cutRest (some b) 2 true) = (I, s)) (h2 : readOs (ofN s) (cutRest s 2 true) = (o, s4)) :
    ofP b = ⟨I, o, ofLe (cutPiece s4 8 true)⟩ ∧ ofR b = cutRest s4 8 true := by
  have e1 : ofI b = (I, s) := h1
  have e2 : ofO b = (o, s4) := by unfold ofO; rw [e1]; exact h2
  unfold ofP ofR
  rw [e1, e2]
  exact ⟨rfl, rfl⟩
theorem readIs_next {k : Nat} {s1 s : Option (List UInt8)} {I : List (List UInt8 × Nat × List UInt8)} (h : readIs k s1 = (I, s)) : readIs (k + 1) s1 = (I ++ [(readI s).1], (readI s).2) := by simp only [readIs, h]
theorem readOs_next {k : Nat} {s1 s : Option (List UInt8)} {I : List OutR} (h : readOs k s1 = (I, s)) : readOs (k + 1) s1 = (I ++ [(readO s).1], (readO s).2) := by simp only [readOs, h]
theorem insC_len {l : List InR} (h : ∀ i ∈ l, i.id.length = 32) : (insC l).length = l.length * 34 := by
  induction l with
  | nil => rfl
  | cons i r ih =>
    have e : insC (i :: r) = inC i ++ insC r := by simp [insC]
    rw [e, List.length_append, ih (fun j hj => h j (List.mem_cons_of_mem _ hj)), inC_len (h i List.mem_cons_self), List.length_cons]; omega
/-- min of a number and a bound. -/
theorem wpList_min {P : Program} {ops : Array Oper} {rest : List Oper} {o : Oper} {a : Act} {w : World} {Q : Exit → Act → World → Prop} (hg : o.guard = none) (x : Operand) (m : Int) (ho : o.op = .call { callee := .builtin .min, args := #[x, .const (.int .i64 m)], argTypes := #[3, 3] })
    (c n : Int) (hx : a.eval x = .int .i64 c) (hn : (if m < c then m else c) = n) (h : wpList P ops Q rest (a.put o.dst (.int .i64 n)) w) : wpList P ops Q (o :: rest) a w := by
  refine wpList_plain hg fun _ hK => ?_
  unfold Oper.wp execOp
  have hc : a.eval (.const (.int .i64 m)) = .int .i64 m := rfl
  have hr : (Builtin.min_ #[3, 3] o.type #[.int .i64 c, .int .i64 m]).run P w = .ok (.int .i64 n) w := by
    rw [← hn]
    by_cases hmc : m < c
    · rw [if_pos hmc]; simp [Builtin.min_, Builtin.min2, hmc]
    · rw [if_neg hmc]; simp [Builtin.min_, Builtin.min2, hmc]
  simp only [ho, resolve, invoke, builtin, Sem.run_bind, Sem.run_pure, Result.andThen_ok, List.map_toArray, List.map_cons, List.map_nil, hx, hc, hr]
  exact hK _ _ h
section
variable {P : Program} {w : World}
/-- A value stored into a part of a block. -/
theorem run_storeVar_part (g o : Nat) (t ty : TypeId) (old cells : Array Value) (v : Value) (hv : v.cells = cells) (hg : Blk w g t old) (hs : o + cells.size ≤ old.size) (hi : (P.info? ty).map (·.size) = some cells.size) (h1 : ∀ u ∈ cells.toList, u.oneCell' = true) :
    ∃ w', (storeVar ty ⟨g, o, none⟩ v).run P w = .ok () w' ∧ Blk w' g t (old.toList.take o ++ cells.toList ++ old.toList.drop (o + cells.size)).toArray ∧ Keeps (· = g) w w' ∧ w'.heap.size = w.heap.size := by
  have hst := run_storeCells_at P g o t cells.toList 0 old w hg (by simp; omega) h1
  cases hq : P.info? ty with
  | none => simp [hq] at hi
  | some i =>
    have hsz : cells.size = i.size := by simp [hq] at hi; omega
    refine ⟨w.setRow g (old.toList.take o ++ cells.toList ++ old.toList.drop (o + cells.size)).toArray, ?_, setRow_heap w g _ _ t _ hg, ⟨rfl, rfl, rfl, by simp, fun k _ hk => setRow_other w g k _ (by exact hk)⟩, by simp⟩
    simp only [Nat.add_zero, Array.length_toList] at hst
    simp [storeVar, sizeOf, typeInfo, hq, hv, hsz] at hst ⊢
    exact hst
theorem wpList_store_part {ops : Array Oper} {rest : List Oper} {op : Oper} {a : Act} {Q : Exit → Act → World → Prop} (hgd : op.guard = none) (ty : TypeId) (x y : Operand) (ho : op.op = .store ty x y)
    (g o : Nat) (t : TypeId) (old cells new : Array Value) (v : Value) (hx : a.eval x = .pointer (some ⟨g, o, none⟩)) (hy : a.eval y = v) (hv : v.cells = cells) (hg : Blk w g t old) (hs : o + cells.size ≤ old.size)
    (hi : (P.info? ty).map (·.size) = some cells.size) (h1 : ∀ u ∈ cells.toList, u.oneCell' = true) (hn : (old.toList.take o ++ cells.toList ++ old.toList.drop (o + cells.size)).toArray = new)
    (h : ∀ w', Blk w' g t new → Keeps (· = g) w w' → w'.heap.size = w.heap.size → wpList P ops Q rest (a.put op.dst undef) w') : wpList P ops Q (op :: rest) a w := by
  refine wpList_plain hgd fun _ hK => ?_
  obtain ⟨w', hr, h2, h3, h4⟩ := run_storeVar_part (P := P) g o t ty old cells v hv hg hs hi h1
  unfold Oper.wp execOp
  simp only [ho, hx, hy, Instr.storeAt, Instr.sureAddr, Sem.run_bind, Sem.run_pure, Result.andThen_ok, hr]
  exact hK _ _ (h w' (hn ▸ h2) h3 h4)
end
theorem blk_new {W : World} {t : TypeId} {cs : Array Value} {n : Nat} (h : W.heap.size = n) : Blk (W.alloc (.cells cs t)) n t cs := by subst h; exact heap_alloc_new W _
def txZ : Array Value := #[.slice none 0 0, .slice none 0 0, .int .u64 0]
/-- The blocks that reading stores into. -/
def Stored (g bt : Nat) (A : Option Addr) : Nat → Prop := fun b => b = g ∨ b = bt ∨ A.map (·.block) = some b
def Stored4 (g bt : Nat) (A : Option Addr) : Nat → Prop := fun b => Stored g bt A b ∨ b < bt
def Stored5 (g bt : Nat) (A : Option Addr) : Nat → Prop := fun b => Stored g bt A b ∨ b < bt
theorem own_blk {A : Option Addr} {n c : Nat} : (Value.slice A n c).ownBlock = A.map (·.block) := by cases A <;> rfl
end Go.Proofs.Ytjcbihdhkaiidaa
