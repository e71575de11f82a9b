/-
  block: hashes as keys; the program's areUnlike. · block: blocks in memory; the program's ids and Root.
-/
import Derived.Test.YtpfjkjogljilnaaDoorBk0
import Derived.Test.YtpfjkjogljilnaaDoorTxE
import Derived.Test.YtpfjkjogljilnaaDoorMkG
namespace Go.Proofs.YtpfjkjogljilnaaDoor
open Go.RowKit Go.Maps

theorem Tryd.rowH : (24 : TypeId) < Tryd.prog.types.size := of_decide_eq_true (by kernel_rfl)
theorem Tryd.wideH : (match Tryd.prog.underlying 24 with | some (.array _ _) | some (.struct _) => true | _ => false) = true := by rw [Tryd.underlying24]
set_option maxRecDepth 100000 in
theorem hLaw : Keyed Tryd.prog 24 := Keyed.of_law (deep_law_laid Tryd.laidO (m := 3) (by omega) Tryd.rowH (by kernel_rfl) Tryd.wideH)
theorem Tryd.hKeyType : Tryd.prog.keyType 24 = true := by kernel_rfl
def hKey (x : List UInt8) : Lit := .string (keyBytes (x.map fun x => Lit.int .u8 (x.toNat : Int)))
set_option maxRecDepth 100000 in
theorem keyOf_h {x : List UInt8} (h : x.length = 32) : keyOf Tryd.prog 24 (.agg (By x).toArray) = some (hKey x) := by
  unfold keyOf
  rw [Tryd.underlying24]
  have hf : Value.formed Tryd.prog 24 (.agg (By x).toArray) = true := by
    unfold Value.formed
    rw [Tryd.underlying24, Tryd.cellsH]
    simp [By_length, h]
  obtain ⟨d, hd⟩ : ∃ d, Tryd.prog.types.size + 1 = d + 2 := ⟨Tryd.prog.types.size - 1, by have := of_decide_eq_true Tryd.manyTypes; omega⟩
  have e : (Value.agg (By x).toArray).cells.toList = By x := rfl
  rw [hd]
  simp only [Tryd.hKeyType, hf, Bool.and_self, if_true, e, keyLits_hash d h, Option.map_some]
  rfl
theorem hKey_inj {x y : List UInt8} (hx : x.length = 32) (hy : y.length = 32) : hKey x = hKey y ↔ x = y := by
  constructor
  · intro e
    have h1 := keyOf_h hx
    have h2 := keyOf_h hy
    rw [e] at h1
    have h3 := hLaw.inj h1 h2
    have h4 : By x = By y := congrArg (fun v : Value => v.cells.toList) h3
    exact By_inj h4
  · intro e; rw [e]
theorem hKey_lit (x : List UInt8) : WideAt.IsKeyLit (hKey x) := by unfold hKey; trivial
def hSet (l : List (List UInt8)) : DataW Unit := setOf (.agg []) (l.map hKey)
theorem hSet_next {l : List (List UInt8)} {k : Nat} (h : k < l.length) : hSet (l.take (k + 1)) = (hSet (l.take k)).put (hKey l[k]) (.agg []) := by
  unfold hSet
  rw [List.take_succ_eq_append_getElem h, List.map_append, List.map_singleton, setOf_snoc]
theorem same_h {x y : List UInt8} (hx : x.length = 32) (hy : y.length = 32) : (hKey x).sameKey (hKey y) = (x == y) := by
  by_cases h : x = y
  · rw [h, beq_self_eq_true]
    exact WideAt.sameKey_self (hKey_lit y)
  · rw [beq_eq_false_iff_ne.2 h]
    exact sameKey_ne (fun e => h ((hKey_inj hx hy).1 e))
theorem has_hSet {l : List (List UInt8)} {x : List UInt8} (hl : All32 l) (hx : x.length = 32) : Maps.has (hSet l) (hKey x) = decide (x ∈ l) := by
  unfold hSet
  rw [has_setOf _ _ _ (fun y hy => by obtain ⟨j, _, rfl⟩ := List.mem_map.1 hy; exact hKey_lit j), List.any_map]
  induction l with
  | nil => simp
  | cons a r ih =>
    rw [List.any_cons, ih (fun j hj => hl j (List.mem_cons_of_mem _ hj))]
    show ((hKey a).sameKey (hKey x) || _) = _
    rw [same_h (hl a (by simp)) hx]
    by_cases h : a = x
    · subst h; simp
    · rw [beq_eq_false_iff_ne.2 h, Bool.false_or]
      have h2 : ¬ x = a := fun e => h e.symm
      simp [h2]
theorem nodup_next {l : List (List UInt8)} {k : Nat} (h : k < l.length) (hn : (l.take k).Nodup) (hm : ¬ l[k] ∈ l.take k) : (l.take (k + 1)).Nodup := by
  rw [List.take_succ_eq_append_getElem h, List.nodup_append]
  refine ⟨hn, by simp, fun a ha b hb e => ?_⟩
  rw [List.mem_singleton] at hb
  subst hb
  exact hm (e ▸ ha)
theorem nodup_not {l : List (List UInt8)} {k : Nat} (h : k < l.length) (hm : l[k] ∈ l.take k) : ¬ l.Nodup := by
  intro hn
  have h1 : (l.take (k + 1)).Nodup := hn.sublist (List.take_sublist _ _)
  rw [List.take_succ_eq_append_getElem h, List.nodup_append] at h1
  exact h1.2.2 _ hm _ (by simp) rfl
theorem made_hmap (n : Nat) (w : World) : (Instr.makeMap 117 (some (.int .i64 (n : Int)))).run Tryd.prog w = .ok (.map (some w.heap.size)) (w.alloc (.map #[] 0)) := by
  unfold Instr.makeMap
  simp [run_underlying Tryd.underlying117, asInt]
  rfl

set_option maxHeartbeats 2000000 in
set_option maxRecDepth 100000 in
theorem unlike_any (w : World) (A : Option Addr) (n c : Nat) (l : List (List UInt8)) (hn : n = l.length) (h32 : All32 l) (hS : SeesV w w.heap.size A (Hs l)) (hmax : n ≤ 100000) :
    Calls Tryd.prog 52 #[.slice A n c] w fun e w' => e = .returned (.bool (decide l.Nodup)) ∧ Below w.heap.size w w' := by
  subst hn
  have hmm := made_hmap
  have HO : Hid ((w.alloc (.map #[] 0)).ownsMap Tryd.prog 24 (unitElem (H := Unit)) w.heap.size 0 (.map [])) := World.ownsMap_made _ _ _ _
  have Hb1 : Hid (Below w.heap.size w (w.alloc (.map #[] 0))) := nxAl (nxRf w) _
  have HS := Lib.hid hS
  have H32 := Lib.hid h32
  have HM := Lib.hid hmax
  obtain ⟨D, hD⟩ : ∃ D, decide l.Nodup = D := ⟨_, rfl⟩
  have HY : Hid (l.Nodup → D = true) := fun h => by rw [← hD]; exact decide_eq_true h
  have HN : Hid (¬ l.Nodup → D = false) := fun h => by rw [← hD]; exact decide_eq_false h
  rw [hD]
  clear hS h32 hD
  go_enter Tryd.func52, Tryd.ntmps52
  go_wp2
  generalize (w.alloc (.map #[] 0)) = W0 at *
  clear hmm
  go_loopw [13] (fun iv wr => ∃ k : Nat, k ≤ l.length ∧ iv = .int .i64 k ∧ Hid (wr.ownsMap Tryd.prog 24 (unitElem (H := Unit)) w.heap.size k (hSet (l.take k))) ∧ Hid ((l.take k).Nodup) ∧ Hid (Below w.heap.size w wr)) (fun iv _ => l.length - (intOf iv).toNat)
  case atStart => exact ⟨0, by omega, rfl, HO.out, List.nodup_nil, Hb1.out⟩
  case round =>
    obtain ⟨k, hk, rfl, HOr, HNd, Hb⟩ := hrel
    by_cases hlt : k < l.length
    · obtain ⟨b, off, rfl, hbb, hr⟩ := SeesV.hash HS.out H32.out hlt
      have hrk := rngB (hr k hlt) Hb.out hbb
      have hik := H32.out.get hlt
      have hnx := hSet_next hlt
      have hhs := has_hSet (l := l.take k) (fun y hy => H32.out y (List.mem_of_mem_take hy)) hik
      have hy := nodup_next hlt HNd.out
      have hno := nodup_not hlt
      obtain ⟨x, hx⟩ : ∃ i, l[k] = i := ⟨_, rfl⟩
      rw [hx] at hrk hik hnx hhs hy hno
      have HR := Lib.hid hrk
      have HX := Lib.hid hik
      have HNx := Lib.hid hnx
      have HKey := Lib.hid (keyOf_h hik)
      have HZ := Lib.hid (hsz hik)
      have HZ' := Lib.hid (Tryd.hsizeB x hik)
      obtain ⟨z, hz⟩ : ∃ z, decide (x ∈ l.take k) = z := ⟨_, rfl⟩
      have HZz := Lib.hid (hhs.trans hz)
      have HYy : Hid (z = false → (l.take (k + 1)).Nodup) := fun e => hy (of_decide_eq_false (hz.trans e))
      have HNn : Hid (z = true → D = false) := fun e => HN.out (hno (of_decide_eq_true (hz.trans e)))
      clear hr hrk hik hx hnx hhs hy hno hz
      cases z with
      | true =>
        have HDf : Hid (D = false) := HNn.out rfl
        go_wp2_with (first
          | ((with_reducible show wpList _ _ _ (⟨some 16, _, _, _, _, _⟩ :: _) _ _); refine wpList_load_mid rfl 24 (.tmp 15) rfl b (off + k * 32) rfl (By x) _ HR.out Tryd.underlying24 rfl HZ.out ?_)
          | ((with_reducible show wpList _ _ _ (⟨none, .store 24 _ _, _, _, _, _⟩ :: _) _ _); refine wpList_store_all rfl 24 (.tmp 5) (.tmp 16) rfl wr.heap.size 24 (By zero32).toArray (By x).toArray rfl rfl (heap_alloc_new wr _) (by rw [List.size_toArray, List.size_toArray, By_length, By_length, HX.out]; rfl) HZ'.out (By_one x) ?_; intro w3 h5 h6 h7; have H5 := Lib.hid (blkR h5); have HL3 : Hid (wr.heap.size < w3.heap.size) := h5.lt; have HO3 := Lib.hid (own_map_keeps (HOr.out.alloc _) h6 (own_map_ne HOr.out)); have Hb3 : Hid (Below w.heap.size w w3) := ((nxAl Hb.out _).trans (h6.below (nxAl Hb.out _).size (fun k hk => by have := Hb.out.size; omega))); clear h5 h6 h7)
          | ((with_reducible show wpList _ _ _ (⟨some 19, _, _, _, _, _⟩ :: _) _ _); refine wpList_load_mid rfl 24 (.tmp 5) rfl wr.heap.size 0 rfl (By x) _ H5.out Tryd.underlying24 rfl HZ.out ?_)
          | (at_lookup; refine wpList_lookup_own_unit _ rfl _ _ 117 rfl 24 118 hLaw Tryd.underlying117 (by rfl) w.heap.size k (hSet (l.take k)) rfl HO3.out _ _ rfl HKey.out ?_; rw [HZz.out]))
        go_ret
        exact ⟨by rw [HDf.out] <;> rfl, nxAl Hb3.out _⟩
      | false =>
        have HNd' := Lib.hid (HYy.out rfl)
        go_wp2_with (first
          | ((with_reducible show wpList _ _ _ (⟨some 16, _, _, _, _, _⟩ :: _) _ _); refine wpList_load_mid rfl 24 (.tmp 15) rfl b (off + k * 32) rfl (By x) _ HR.out Tryd.underlying24 rfl HZ.out ?_)
          | ((with_reducible show wpList _ _ _ (⟨none, .store 24 _ _, _, _, _, _⟩ :: _) _ _); refine wpList_store_all rfl 24 (.tmp 5) (.tmp 16) rfl wr.heap.size 24 (By zero32).toArray (By x).toArray rfl rfl (heap_alloc_new wr _) (by rw [List.size_toArray, List.size_toArray, By_length, By_length, HX.out]; rfl) HZ'.out (By_one x) ?_; intro w3 h5 h6 h7; have H5 := Lib.hid (blkR h5); have HL3 : Hid (wr.heap.size < w3.heap.size) := h5.lt; have HO3 := Lib.hid (own_map_keeps (HOr.out.alloc _) h6 (own_map_ne HOr.out)); have Hb3 : Hid (Below w.heap.size w w3) := ((nxAl Hb.out _).trans (h6.below (nxAl Hb.out _).size (fun k hk => by have := Hb.out.size; omega))); clear h5 h6 h7)
          | ((with_reducible show wpList _ _ _ (⟨some 19, _, _, _, _, _⟩ :: _) _ _); refine wpList_load_mid rfl 24 (.tmp 5) rfl wr.heap.size 0 rfl (By x) _ H5.out Tryd.underlying24 rfl HZ.out ?_)
          | (at_lookup; refine wpList_lookup_own_unit _ rfl _ _ 117 rfl 24 118 hLaw Tryd.underlying117 (by rfl) w.heap.size k (hSet (l.take k)) rfl HO3.out _ _ rfl HKey.out ?_; rw [HZz.out])
          | ((with_reducible show wpList _ _ _ (⟨some 25, _, _, _, _, _⟩ :: _) _ _); refine wpList_load_mid rfl 24 (.tmp 5) rfl wr.heap.size 0 rfl (By x) _ (rngB H5.out (nxAl (nxRf w3) _) HL3.out) Tryd.underlying24 rfl HZ.out ?_)
          | (at_mapUpdate; refine wpList_mapUpdate_own _ rfl _ _ _ 117 rfl 24 118 hLaw Tryd.underlying117 (unitElem (H := Unit)) w.heap.size k _ rfl (HO3.out.alloc _) (by have := HM.out; unfold maxLen; omega) _ _ _ rfl rfl HKey.out _ [] unitElem_mk ?_; intro w4 hown4 hgrow4; rw [← HNx.out] at hown4; have HO4 := Lib.hid hown4; have Hb4 : Hid (Below w.heap.size w w4) := (nxAl Hb3.out _).grown hgrow4 (nxAl Hb3.out _).size (fun j hj => by cases hj; exact Nat.le_refl _); clear hown4 hgrow4))
        go_roundw
        case rel => exact ⟨k + 1, by omega, by go_num, HO4.out, HNd'.out, Hb4.out⟩
        case measure => simp [intOf] <;> omega
    · obtain rfl : k = l.length := by omega
      have HDt : Hid (D = true) := HY.out (by have h := HNd.out; rw [List.take_length] at h; exact h)
      go_wp2
      go_ret
      exact ⟨by rw [HDt.out] <;> rfl, Hb.out⟩
end Go.Proofs.YtpfjkjogljilnaaDoor
namespace Go.Proofs.YtpfjkjogljilnaaDoor
open Go.RowKit

/-- A block in memory: its header, and its transactions. -/
structure BkR where
  h : HdR
  B : Option Addr
  txs : List TxR
  d : Nat
def bkC (b : BkR) : List Value := hdC b.h ++ [.slice b.B b.txs.length b.d]
def txsC (l : List TxR) : List Value := (l.map txC).flatten
/-- A row of transactions in memory. -/
structure TxsOk (w : World) (B : Option Addr) (l : List TxR) (d : Nat) : Prop where
  s : SeesV w w.heap.size B (txsC l)
  each : ∀ t ∈ l, TxOk w t
  d : l.length ≤ d
  m : l.length ≤ 140737488355328
structure BkOk (w : World) (b : BkR) : Prop where
  h : HdOk w b.h
  t : TxsOk w b.B b.txs b.d
theorem TxsOk.later {w w' : World} {B : Option Addr} {l : List TxR} {d : Nat} (k : TxsOk w B l d) (hb : Below w.heap.size w w') : TxsOk w' B l d := ⟨(k.s.later hb).more hb.size, fun t h => (k.each t h).later hb, k.d, k.m⟩
theorem BkOk.later {w w' : World} {b : BkR} (k : BkOk w b) (hb : Below w.heap.size w w') : BkOk w' b := ⟨k.h.later hb, k.t.later hb⟩
theorem bkC_len {b : BkR} (f : HdFit b.h.p) : (bkC b).length = 131 := by simp [bkC, hdC_len f]
theorem bkC_one (b : BkR) : ∀ u ∈ (bkC b).toArray.toList, u.oneCell' = true := by
  intro u hu
  rw [List.toList_toArray] at hu
  rcases List.mem_append.1 hu with hu | hu
  · exact hdC_one b.h u (by simpa using hu)
  · rw [List.mem_singleton.1 hu]; rfl
theorem Tryd.sizeBk : (Tryd.prog.info? 42).map (·.size) = some 131 := by kernel_rfl
theorem bkSz {b : BkR} (f : HdFit b.h.p) : (Tryd.prog.info? 42).map (·.size) = some (bkC b).length := by rw [bkC_len f]; exact Tryd.sizeBk
theorem bkSz' {b : BkR} (f : HdFit b.h.p) : (Tryd.prog.info? 42).map (·.size) = some (bkC b).toArray.size := by rw [List.size_toArray, bkC_len f]; exact Tryd.sizeBk
/-- A block's cells, part by part. -/
structure BkRow (w : World) (g : Nat) (b : BkR) : Prop where
  r : w.rangeAt g 0 (hdC b.h)
  h : HdRow w g b.h
  t : w.cell? ⟨g, 130, none⟩ = some (.slice b.B b.txs.length b.d)
theorem BkRow.of {w : World} {g : Nat} {b : BkR} (r : w.rangeAt g 0 (bkC b)) (f : HdFit b.h.p) : BkRow w g b := by
  obtain ⟨r1, r2⟩ := rng_app r
  rw [hdC_len f] at r2
  exact ⟨r1, HdRow.of r1 f, r2 0 _ rfl⟩
theorem BkRow.below {B : Nat} {w w' : World} {g : Nat} {b : BkR} (r : BkRow w g b) (k : Below B w w') (hlt : g < B) : BkRow w' g b := ⟨rngB r.r k hlt, r.h.below k hlt, (k.cell (p := ⟨g, 130, none⟩) hlt).trans r.t⟩
theorem txC_3 (t : TxR) : (txC t).length = 3 := rfl
theorem txsC_row {w : World} {B : Nat} {A : Option Addr} {l : List TxR} (hS : SeesV w B A (txsC l)) (h0 : 0 < l.length) : ∃ b off, A = some ⟨b, off, none⟩ ∧ b < B ∧ ∀ k (hk : k < l.length), w.rangeAt b (off + k * 3) (txC l[k]) := by
  obtain ⟨b, off, hA, hb, hr⟩ := SeesV.row (n := 3) hS (by intro r hr; obtain ⟨i, h1, rfl⟩ := List.mem_map.1 hr; rfl) (by omega) (by simpa using h0)
  exact ⟨b, off, hA, hb, fun k hk => by have h := hr k (by simpa using hk); rw [List.getElem_map] at h; exact h⟩
theorem txC_one' (t : TxR) : ∀ v ∈ (txC t).toArray.toList, v.oneCell' = true := by
  intro v hv
  simp [txC] at hv
  rcases hv with rfl | rfl | rfl <;> rfl
/-- The ids of transactions. -/
def idsL (l : List TxR) : List (List UInt8) := l.map idT
theorem idsL_32 (l : List TxR) : All32 (idsL l) := fun x hx => by obtain ⟨t, _, rfl⟩ := List.mem_map.1 hx; exact idT_len t
theorem idsL_len (l : List TxR) : (idsL l).length = l.length := List.length_map _
def noBk : BkR := ⟨⟨none, 0, ⟨[], zero32, zero32, zero32, zero32, 0⟩⟩, none, [], 0⟩
theorem Tryd.bkinfo : (Tryd.prog.info? 42).map (fun i => (i.zero, i.size, i.bytes)) = some (some (.agg (bkC noBk).toArray), 131, 184) := by kernel_rfl

def tx0Z : Array Value := #[.slice none 0 0, .slice none 0 0, .int .u64 0]

set_option maxHeartbeats 2000000 in
set_option maxRecDepth 100000 in
theorem idsOf_any (w : World) (hTb : Tabs w) (B : Option Addr) (l : List TxR) (d : Nat) (k : TxsOk w B l d) (hmax : l.length ≤ 1000) :
    Calls Tryd.prog 24 #[.slice B l.length d] w (HashesPost w (idsL l)) := by
  have HT := Lib.hid hTb
  have HS := Lib.hid k.s
  have HE := Lib.hid k.each
  have Hmax := Lib.hid hmax
  have qmk := make_hashes l.length (by omega)
  have HO := Lib.hid (own_hashes w l.length (by omega))
  have Hb : Hid (Below w.heap.size w (w.alloc (.cells (madeCells (By zero32).toArray (l.length * 32)) 24))) := Lib.hid (nxAl (nxRf w) _)
  clear hTb k
  obtain ⟨i0, hi, hz0, hz1, hz2⟩ := info_parts Tryd.hinfo
  go_enter Tryd.func24, Tryd.ntmps24
  go_wp2
  go_loopw [3, 11] (fun rv iv wr => ∃ (k : Nat) (A1 : Option Addr) (c1 : Nat), k ≤ l.length ∧ iv = .int .i64 k ∧ rv = .slice A1 k c1 ∧ Hid (wr.ownsRow w.heap.size 24 32 (.slice A1 k c1) k (Hs (idsL (l.take k)))) ∧ Hid (Below w.heap.size w wr)) (fun _ iv _ => l.length - (intOf iv).toNat)
  case atStart => exact ⟨0, _, _, by omega, rfl, rfl, HO.out, Hb.out⟩
  case round =>
    clear HO Hb qmk
    obtain ⟨k, A1, c1, hk, rfl, rfl, HO, Hb⟩ := hrel
    by_cases hlt : k < l.length
    · obtain ⟨b, off, rfl, hbb, hrg⟩ := txsC_row HS.out (by omega)
      have hr0 := rngB (hrg k hlt) Hb.out hbb
      have ht0 := (HE.out _ (List.getElem_mem hlt)).later Hb.out
      obtain ⟨t, ht⟩ : ∃ t, l[k] = t := ⟨_, rfl⟩
      rw [ht] at hr0 ht0
      have HR := Lib.hid hr0
      have HTx := Lib.hid ht0
      obtain ⟨x, hx⟩ : ∃ x, idT t = x := ⟨_, rfl⟩
      have HX := Lib.hid hx
      have HXl : Hid (x.length = 32) := by show _ = _; rw [← hx, idT_len]
      have HN : Hid (idsL (l.take (k + 1)) = idsL (l.take k) ++ [x]) := by show _ = _; rw [idsL, List.take_succ_eq_append_getElem hlt, List.map_append, ht, ← hx]; simp [idsL]
      have HSZ : Hid ((Tryd.prog.info? 40).map (·.size) = some (txC t).length) := Tryd.sizeTx
      have HSZ' : Hid ((Tryd.prog.info? 40).map (·.size) = some (txC t).toArray.size) := Tryd.sizeTx
      clear hrg hr0 ht0 ht hx
      go_wp2_with (first
        | ((with_reducible show wpList _ _ _ (⟨some 14, _, _, _, _, _⟩ :: _) _ _); refine wpList_load_mid rfl 40 (.tmp 13) rfl b (off + k * 3) rfl (txC t) _ HR.out Tryd.underlying40 rfl HSZ.out ?_)
        | ((with_reducible show wpList _ _ _ (⟨none, .store 40 _ _, _, _, _, _⟩ :: _) _ _); refine wpList_store_all rfl 40 (.tmp 5) (.tmp 14) rfl wr.heap.size 40 tx0Z (txC t).toArray rfl rfl (heap_alloc_new wr _) rfl HSZ'.out (txC_one' t) ?_; intro w5 h5 h6 h7; have H5 := Lib.hid (blkR h5); have Hr5 : Hid (Below wr.heap.size wr w5) := (nxAl (nxRf wr) _).trans (h6.below (nxAl (nxRf wr) _).size (fun k hk => by omega)); clear h5 h6 h7)
        | ((with_reducible show wpList _ _ _ (⟨some 16, _, _, _, _, _⟩ :: _) _ _); refine wpList_load_mid rfl 40 (.tmp 5) rfl wr.heap.size 0 rfl (txC t) _ H5.out Tryd.underlying40 rfl HSZ.out ?_)
        | (go_at_call 40; refine (id_any w5 (HT.out.later (nxTr Hb.out Hr5.out)) t (HTx.out.later Hr5.out)).mono ?_; rw [HX.out]; rintro e w7 ⟨rfl, hb7⟩; have Hr7 : Hid (Below wr.heap.size wr w7) := nxTr Hr5.out hb7; have HO7 := Lib.hid (own_below HO.out Hr7.out (fun g hg => (own_lt HO.out g hg).2)); clear hb7)
        | ((with_reducible show wpList _ _ _ (⟨some 18, _, _, _, _, _⟩ :: _) _ _); refine wpList_build_hash rfl (.tmp 17) rfl x rfl HXl.out ?_)
        | ((with_reducible show wpList _ _ _ (⟨some 19, _, _, _, _, _⟩ :: _) _ _); refine wpList_append_seesV rfl (.tmp 15) (.tmp 18) 22 rfl w.heap.size 24 i0 (.agg (By zero32).toArray) 32 32 Tryd.underlying22 hi hz0 hz1 hz2 rfl (by omega) (.slice A1 k c1) k (Hs (idsL (l.take k))) rfl (HO7.out.alloc _) (w7.heap.size + 1) (some ⟨w7.heap.size, 0, none⟩) 1 1 (By x) rfl (by rw [By_length, HXl.out]) (SeesV.lit' w7 (By x) 24) (By_one _) (by omega) (by omega) (by have h1 := Hb.out.size; have h2 := Hr7.out.size; simp; omega) ?_; intro v8 w8 ho8 hg8 hat8; obtain ⟨A8, c8, rfl⟩ := own_form ho8; rw [← Hs_snoc, ← HN.out] at ho8; have HO8 := Lib.hid ho8; have Hb8 : Hid (Below w.heap.size w w8) := (nxAl (nxTr Hb.out Hr7.out) _).grown hg8 (nxAl (nxTr Hb.out Hr7.out) _).size (fun j hj => (own_lt HO7.out j hj).1); clear ho8 hg8 hat8))
      go_roundw
      case rel => exact ⟨k + 1, A8, c8, by omega, by go_num, rfl, HO8.out, Hb8.out⟩
      case measure => simp [intOf] <;> omega
    · obtain rfl : k = l.length := by omega
      rw [List.take_length] at HO
      have HL := Lib.hid (idsL_len l)
      go_wp2
      go_ret
      exact ⟨A1, c1, by rw [HL.out]; rfl, by rw [HL.out]; exact HO.out, Hb.out⟩

end Go.Proofs.YtpfjkjogljilnaaDoor
