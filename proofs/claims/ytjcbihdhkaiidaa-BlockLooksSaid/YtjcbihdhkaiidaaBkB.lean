/-
  block: hashes as keys; the program's areUnlike. · block: blocks in memory; the program's ids and Root.
-/
import Derived.Test.YtjcbihdhkaiidaaBk0
import Derived.Test.YtjcbihdhkaiidaaTxE
import Derived.Test.YtjcbihdhkaiidaaMkG
namespace Go.Proofs.Ytjcbihdhkaiidaa
open Go.RowKit Go.Maps

theorem Try.rowH : (24 : TypeId) < Try.prog.types.size := of_decide_eq_true (by kernel_rfl)
theorem Try.wideH : (match Try.prog.underlying 24 with | some (.array _ _) | some (.struct _) => true | _ => false) = true := by rw [Try.underlying24]
set_option maxRecDepth 100000 in
theorem hLaw : Keyed Try.prog 24 := Keyed.of_law (deep_law_laid Try.laidO (m := 3) (by omega) Try.rowH (by kernel_rfl) Try.wideH)
theorem Try.hKeyType : Try.prog.keyType 24 = true := by kernel_rfl
def hKey (x : List UInt8) : Lit := .string (keyBytes (x.map fun x => Lit.int .u8 (x.toNat : Int)))
set_option maxRecDepth 100000 in
theorem keyOf_h {x : List UInt8} (h : x.length = 32) : keyOf Try.prog 24 (.agg (By x).toArray) = some (hKey x) := by
  unfold keyOf
  rw [Try.underlying24]
  have hf : Value.formed Try.prog 24 (.agg (By x).toArray) = true := by
    unfold Value.formed
    rw [Try.underlying24, Try.cellsH]
    simp [By_length, h]
  obtain ⟨d, hd⟩ : ∃ d, Try.prog.types.size + 1 = d + 2 := ⟨Try.prog.types.size - 1, by have := of_decide_eq_true Try.manyTypes; omega⟩
  have e : (Value.agg (By x).toArray).cells.toList = By x := rfl
  rw [hd]
  simp only [Try.hKeyType, hf, Bool.and_self, if_true, e, keyLits_hash d h, Option.map_some]
  rfl
theorem hKey_inj {x y : List UInt8} (hx : x.length = 32) (hy : y.length = 32) : hKey x = hKey y ↔ x = y := by
  constructor
  · intro e
    have h1 := keyOf_h hx
    have h2 := keyOf_h hy
    rw [e] at h1
    have h3 := hLaw.inj h1 h2
    have h4 : By x = By y := congrArg (fun v : Value => v.cells.toList) h3
    exact By_inj h4
  · intro e; rw [e]
theorem hKey_lit (x : List UInt8) : WideAt.IsKeyLit (hKey x) := by unfold hKey; trivial
def hSet (l : List (List UInt8)) : DataW Unit := setOf (.agg []) (l.map hKey)
theorem hSet_next {l : List (List UInt8)} {k : Nat} (h : k < l.length) : hSet (l.take (k + 1)) = (hSet (l.take k)).put (hKey l[k]) (.agg []) := by
  unfold hSet
  rw [List.take_succ_eq_append_getElem h, List.map_append, List.map_singleton, setOf_snoc]
theorem same_h {x y : List UInt8} (hx : x.length = 32) (hy : y.length = 32) : (hKey x).sameKey (hKey y) = (x == y) := by
  by_cases h : x = y
  · rw [h, beq_self_eq_true]
    exact WideAt.sameKey_self (hKey_lit y)
  · rw [beq_eq_false_iff_ne.2 h]
    exact sameKey_ne (fun e => h ((hKey_inj hx hy).1 e))
theorem has_hSet {l : List (List UInt8)} {x : List UInt8} (hl : All32 l) (hx : x.length = 32) : Maps.has (hSet l) (hKey x) = decide (x ∈ l) := by
  unfold hSet
  rw [has_setOf _ _ _ (fun y hy => by obtain ⟨j, _, rfl⟩ := List.mem_map.1 hy; exact hKey_lit j), List.any_map]
  induction l with
  | nil => simp
  | cons a r ih =>
    rw [List.any_cons, ih (fun j hj => hl j (List.mem_cons_of_mem _ hj))]
    show ((hKey a).sameKey (hKey x) || _) = _
    rw [same_h (hl a (by simp)) hx]
    by_cases h : a = x
    · subst h; simp
    · rw [beq_eq_false_iff_ne.2 h, Bool.false_or]
      have h2 : ¬ x = a := fun e => h e.symm
      simp [h2]
theorem nodup_next {l : List (List UInt8)} {k : Nat} (h : k < l.length) (hn : (l.take k).Nodup) (hm : ¬ l[k] ∈ l.take k) : (l.take (k + 1)).Nodup := by
  rw [List.take_succ_eq_append_getElem h, List.nodup_append]
  refine ⟨hn, by simp, fun a ha b hb e => ?_⟩
  rw [List.mem_singleton] at hb
  subst hb
  exact hm (e ▸ ha)
theorem nodup_not {l : List (List UInt8)} {k : Nat} (h : k < l.length) (hm : l[k] ∈ l.take k) : ¬ l.Nodup := by
  intro hn
  have h1 : (l.take (k + 1)).Nodup := hn.sublist (List.take_sublist _ _)
  rw [List.take_succ_eq_append_getElem h, List.nodup_append] at h1
  exact h1.2.2 _ hm _ (by simp) rfl
end Go.Proofs.Ytjcbihdhkaiidaa
namespace Go.Proofs.Ytjcbihdhkaiidaa
open Go.RowKit

/-- A block in memory: its header, and its transactions. -/
structure BkR where
  h : HdR
  B : Option Addr
  txs : List TxR
  d : Nat
def bkC (b : BkR) : List Value := hdC b.h ++ [.slice b.B b.txs.length b.d]
def txsC (l : List TxR) : List Value := (l.map txC).flatten
/-- A row of transactions in memory. -/
structure TxsOk (w : World) (B : Option Addr) (l : List TxR) (d : Nat) : Prop where
  s : SeesV w w.heap.size B (txsC l)
  each : ∀ t ∈ l, TxOk w t
  d : l.length ≤ d
  m : l.length ≤ 140737488355328
structure BkOk (w : World) (b : BkR) : Prop where
  h : HdOk w b.h
  t : TxsOk w b.B b.txs b.d
theorem TxsOk.later {w w' : World} {B : Option Addr} {l : List TxR} {d : Nat} (k : TxsOk w B l d) (hb : Below w.heap.size w w') : TxsOk w' B l d := ⟨(k.s.later hb).more hb.size, fun t h => (k.each t h).later hb, k.d, k.m⟩
theorem BkOk.later {w w' : World} {b : BkR} (k : BkOk w b) (hb : Below w.heap.size w w') : BkOk w' b := ⟨k.h.later hb, k.t.later hb⟩
theorem bkC_len {b : BkR} (f : HdFit b.h.p) : (bkC b).length = 131 := by simp [bkC, hdC_len f]
theorem bkC_one (b : BkR) : ∀ u ∈ (bkC b).toArray.toList, u.oneCell' = true := by
  intro u hu
  rw [List.toList_toArray] at hu
  rcases List.mem_append.1 hu with hu | hu
  · exact hdC_one b.h u (by simpa using hu)
  · rw [List.mem_singleton.1 hu]; rfl
theorem Try.sizeBk : (Try.prog.info? 30).map (·.size) = some 131 := by kernel_rfl
theorem bkSz {b : BkR} (f : HdFit b.h.p) : (Try.prog.info? 30).map (·.size) = some (bkC b).length := by rw [bkC_len f]; exact Try.sizeBk
theorem bkSz' {b : BkR} (f : HdFit b.h.p) : (Try.prog.info? 30).map (·.size) = some (bkC b).toArray.size := by rw [List.size_toArray, bkC_len f]; exact Try.sizeBk
/-- A block's cells, part by part. -/
structure BkRow (w : World) (g : Nat) (b : BkR) : Prop where
  r : w.rangeAt g 0 (hdC b.h)
  h : HdRow w g b.h
  t : w.cell? ⟨g, 130, none⟩ = some (.slice b.B b.txs.length b.d)
theorem BkRow.of {w : World} {g : Nat} {b : BkR} (r : w.rangeAt g 0 (bkC b)) (f : HdFit b.h.p) : BkRow w g b := by
  obtain ⟨r1, r2⟩ := rng_app r
  rw [hdC_len f] at r2
  exact ⟨r1, HdRow.of r1 f, r2 0 _ rfl⟩
theorem BkRow.below {B : Nat} {w w' : World} {g : Nat} {b : BkR} (r : BkRow w g b) (k : Below B w w') (hlt : g < B) : BkRow w' g b := ⟨rngB r.r k hlt, r.h.below k hlt, (k.cell (p := ⟨g, 130, none⟩) hlt).trans r.t⟩
theorem txC_3 (t : TxR) : (txC t).length = 3 := rfl
theorem txsC_row {w : World} {B : Nat} {A : Option Addr} {l : List TxR} (hS : SeesV w B A (txsC l)) (h0 : 0 < l.length) : ∃ b off, A = some ⟨b, off, none⟩ ∧ b < B ∧ ∀ k (hk : k < l.length), w.rangeAt b (off + k * 3) (txC l[k]) := by
  obtain ⟨b, off, hA, hb, hr⟩ := SeesV.row (n := 3) hS (by intro r hr; obtain ⟨i, h1, rfl⟩ := List.mem_map.1 hr; rfl) (by omega) (by simpa using h0)
  exact ⟨b, off, hA, hb, fun k hk => by have h := hr k (by simpa using hk); rw [List.getElem_map] at h; exact h⟩
theorem txC_one' (t : TxR) : ∀ v ∈ (txC t).toArray.toList, v.oneCell' = true := by
  intro v hv
  simp [txC] at hv
  rcases hv with rfl | rfl | rfl <;> rfl
/-- The ids of transactions. -/
def idsL (l : List TxR) : List (List UInt8) := l.map idT
theorem idsL_32 (l : List TxR) : All32 (idsL l) := fun x hx => by obtain ⟨t, _, rfl⟩ := List.mem_map.1 hx; exact idT_len t
theorem idsL_len (l : List TxR) : (idsL l).length = l.length := List.length_map _
def noBk : BkR := ⟨⟨none, 0, ⟨[], zero32, zero32, zero32, zero32, 0⟩⟩, none, [], 0⟩
theorem Try.bkinfo : (Try.prog.info? 30).map (fun i => (i.zero, i.size, i.bytes)) = some (some (.agg (bkC noBk).toArray), 131, 184) := by kernel_rfl

def tx0Z : Array Value := #[.slice none 0 0, .slice none 0 0, .int .u64 0]

end Go.Proofs.Ytjcbihdhkaiidaa
