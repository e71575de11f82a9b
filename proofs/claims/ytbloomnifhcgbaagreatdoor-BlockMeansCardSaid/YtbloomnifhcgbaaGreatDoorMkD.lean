/-
  merkle: rows of hashes in memory; the walks of leaves and knots.
-/
import Derived.Test.YtbloomnifhcgbaaGreatDoorMkC
import Derived.Test.YtbloomnifhcgbaaGreatDoorVals
import Derived.Laws.MakeOwn
import Derived.Great.BuildSlice
namespace Go.Proofs.YtbloomnifhcgbaaGreatDoor
open Go.RowKit

/-- All are hashes' bytes. -/
def All32 (hs : List (List UInt8)) : Prop := ∀ h ∈ hs, h.length = 32
theorem All32.get {hs : List (List UInt8)} (h : All32 hs) {k : Nat} (hk : k < hs.length) : hs[k].length = 32 := h _ (List.getElem_mem hk)
theorem All32.nil : All32 [] := fun _ h => by cases h
theorem All32.snoc {hs : List (List UInt8)} {x : List UInt8} (h : All32 hs) (hx : x.length = 32) : All32 (hs ++ [x]) := by
  intro y hy
  rcases List.mem_append.1 hy with h1 | h1
  · exact h y h1
  · simp at h1; subst h1; exact hx
theorem All32.flat {hs : List (List UInt8)} (h : All32 hs) : hs.flatten.length = hs.length * 32 := by
  induction hs with
  | nil => rfl
  | cons a r ih =>
    rw [List.flatten_cons, List.length_append, ih (fun y hy => h y (List.mem_cons_of_mem _ hy)), h a (List.mem_cons_self ..), List.length_cons]; omega
theorem All32.at_ {hs : List (List UInt8)} (h : All32 hs) : ∀ {k : Nat} (hk : k < hs.length) (j : Nat) (hj : j < 32), hs.flatten[32 * k + j]? = hs[k][j]? := by
  induction hs with
  | nil => intro k hk; simp at hk
  | cons a r ih =>
    intro k hk j hj
    have ha := h a (List.mem_cons_self ..)
    cases k with
    | zero =>
      rw [List.flatten_cons, List.getElem?_append_left (by omega)]; simp
    | succ k =>
      rw [List.flatten_cons, List.getElem?_append_right (by omega), ha]
      have := ih (fun y hy => h y (List.mem_cons_of_mem _ hy)) (k := k) (by simpa using hk) j hj
      rw [show 32 * (k + 1) + j - 32 = 32 * k + j by omega, this]
      simp
/-- A row of hashes as cells. -/
def Hs (hs : List (List UInt8)) : List Value := By hs.flatten
theorem Hs_length {hs : List (List UInt8)} (h : All32 hs) : (Hs hs).length = hs.length * 32 := by rw [Hs, By_length, h.flat]
theorem Hs_snoc (hs : List (List UInt8)) (x : List UInt8) : Hs (hs ++ [x]) = Hs hs ++ By x := by simp [Hs, By]
theorem Hs_one (hs : List (List UInt8)) : ∀ u ∈ Hs hs, u.oneCell' = true := By_one _
theorem SeesV.hash {w : World} {B : Nat} {A : Option Addr} {hs : List (List UInt8)} (h : SeesV w B A (Hs hs)) (ha : All32 hs) {k : Nat} (hk : k < hs.length) :
    ∃ b off, A = some ⟨b, off, none⟩ ∧ b < B ∧ ∀ i, (hi : i < hs.length) → w.rangeAt b (off + i * 32) (By hs[i]) := by
  obtain ⟨b, off, hA, hb, hc⟩ := h.at_ (k := 32 * k) (by rw [Hs_length ha]; omega)
  refine ⟨b, off, hA, hb, fun i hi j v hv => ?_⟩
  obtain ⟨hj, rfl⟩ := By_get hv
  have h32 := ha.get hi
  have e := ha.at_ hi j (by omega)
  have hlt : 32 * i + j < (Hs hs).length := by rw [Hs_length ha]; omega
  have h1 := hc (32 * i + j) hlt
  rw [Nat.add_assoc, Nat.mul_comm i 32, h1]
  have e2 : (Hs hs)[32 * i + j]? = some (.int .u8 (hs[i][j].toNat : Int)) := by
    rw [Hs, By, List.getElem?_map, e, List.getElem?_eq_getElem hj]; rfl
  rw [List.getElem?_eq_getElem hlt] at e2
  exact e2
theorem Tryz.hinfo : (Tryz.prog.info? 26).map (fun i => (i.zero, i.size, i.bytes)) = some (some (.agg (By zero32).toArray), 32, 32) := by kernel_rfl
/-- make of a row of hashes with room. -/
theorem make_hashes (n : Nat) (hn : n ≤ 1048577) (wq : World) :
    (Instr.makeSlice 24 (.int .i64 0) (.int .i64 (n : Int))).run Tryz.prog wq = .ok (.slice (some ⟨wq.heap.size, 0, none⟩) 0 n) (wq.alloc (.cells (madeCells (By zero32).toArray (n * 32)) 26)) := by
  obtain ⟨i0, hi, hz0, hz1, hz2⟩ := info_parts Tryz.hinfo
  have h := run_make (P := Tryz.prog) wq 24 26 i0 _ Tryz.underlying24 hi hz0 .i64 .i64 0 (n : Int) (by omega) (by omega) (by rw [hz2]; omega) (by omega)
  rw [hz1] at h
  have e : (Value.agg (By zero32).toArray).cells = (By zero32).toArray := rfl
  rw [e] at h
  simpa using h
theorem own_hashes (wq : World) (n : Nat) (hn : n ≤ 1048577) : (wq.alloc (.cells (madeCells (By zero32).toArray (n * 32)) 26)).ownsRow wq.heap.size 26 32 (.slice (some ⟨wq.heap.size, 0, none⟩) 0 n) 0 (Hs []) := by
  have := own_made (w := wq.alloc (.cells (madeCells (By zero32).toArray (n * 32)) 26)) (base := wq.heap.size) (g := wq.heap.size) (e := 26) (n := 0) (c := n) (size := 32) (cs := (madeCells (By zero32).toArray (n * 32)).toList) (heap_alloc_new wq _) (Nat.le_refl _) (Nat.zero_le _) (by simp only [maxLen]; omega) (by rw [Array.length_toList, size_madeCells])
  simpa [Hs, By] using this

theorem SeesV.lit' (w : World) (vs : List Value) (t : TypeId) : SeesV (w.alloc (.cells vs.toArray t)) (w.heap.size + 1) (some ⟨w.heap.size, 0, none⟩) vs := by
  have h := SeesV.blk (w := w.alloc (.cells vs.toArray t)) (g := w.heap.size) (t := t) (cs := vs.toArray) (heap_alloc_new w _)
  exact h.more (by simp)
theorem wpList_build_hash {ops : Array Oper} {rest : List Oper} {o : Oper} {a : Act} {w : World} {Q : Exit → Act → World → Prop} (hg : o.guard = none) (x : Operand) (ho : o.op = .buildSlice 24 1 #[(0, x)])
    (l : List UInt8) (hx : a.eval x = .agg (By l).toArray) (hl : l.length = 32)
    (h : wpList Tryz.prog ops Q rest (a.put o.dst (.slice (some ⟨w.heap.size, 0, none⟩) 1 1)) (w.alloc (.cells (By l).toArray 26))) : wpList Tryz.prog ops Q (o :: rest) a w := by
  obtain ⟨i0, hi, hz0, hz1, hz2⟩ := info_parts Tryz.hinfo
  refine wpList_buildSlice hg 24 26 1 #[(0, x)] ho (By l).toArray i0 _ Tryz.underlying24 hi hz0 (by rw [hz1]; omega) (by rw [hz1]; omega) ?_ h
  rw [hz1]
  have e : (#[(0, x)].map fun (p : Nat × Operand) => (p.1, a.eval p.2)).toList = [(0, .agg (By l).toArray)] := by simp [hx]
  have hf := fill_one 32 ((Array.range (1 * 32)).map ((Value.agg (By zero32).toArray).cells[· % (Value.agg (By zero32).toArray).cells.size]!)).toList (By l) (by simp) (by rw [By_length, hl])
  rw [Array.toArray_toList] at hf
  rw [← e] at hf
  exact hf

/-- The leaf of a hash. -/
def leafB (id : List UInt8) : List UInt8 := shaB (tagB nmLeaf id)
def knotB (a b : List UInt8) : List UInt8 := shaB (tagB nmKnot (a ++ b))
theorem leafB_len (id : List UInt8) : (leafB id).length = 32 := shaB_length _
theorem knotB_len (a b : List UInt8) : (knotB a b).length = 32 := shaB_length _
/-- What a function that makes a row of hashes answers. -/
def HashesPost (w : World) (hs : List (List UInt8)) (e : Ending) (w' : World) : Prop := ∃ A c, e = .returned (.slice A hs.length c) ∧ w'.ownsRow w.heap.size 26 32 (.slice A hs.length c) hs.length (Hs hs) ∧ Below w.heap.size w w'

set_option maxHeartbeats 600000 in
set_option maxRecDepth 100000 in
theorem leaves_any (w : World) (hT : Tabs w) (A : Option Addr) (n c : Nat) (ids : List (List UInt8)) (hn : n = ids.length) (h32 : All32 ids) (hS : SeesV w w.heap.size A (Hs ids)) (hmax : n ≤ 1048577) :
    Calls Tryz.prog 114 #[.slice A n c] w (HashesPost w (ids.map leafB)) := by
  subst hn
  have HT := Lib.hid hT
  have HS := Lib.hid hS
  have H32 := Lib.hid h32
  have Hmax := Lib.hid hmax
  have qmk := make_hashes ids.length hmax
  have HO := Lib.hid (own_hashes w ids.length hmax)
  have Hb : Hid (Below w.heap.size w (w.alloc (.cells (madeCells (By zero32).toArray (ids.length * 32)) 26))) := Lib.hid (nxAlloc (nxRefl w) _)
  clear hT hS h32
  obtain ⟨i0, hi, hz0, hz1, hz2⟩ := info_parts Tryz.hinfo
  go_enter Tryz.func114, Tryz.ntmps114
  go_wp2
  go_loopw [3, 11] (fun rv iv wr => ∃ (k : Nat) (A1 : Option Addr) (c1 : Nat), k ≤ ids.length ∧ iv = .int .i64 k ∧ rv = .slice A1 k c1 ∧ Hid (wr.ownsRow w.heap.size 26 32 (.slice A1 k c1) k (Hs ((ids.take k).map leafB))) ∧ Hid (Below w.heap.size w wr)) (fun _ iv _ => ids.length - (intOf iv).toNat)
  case atStart => exact ⟨0, _, _, by omega, rfl, rfl, HO.out, Hb.out⟩
  case round =>
    clear HO Hb qmk
    obtain ⟨k, A1, c1, hk, rfl, rfl, HO, Hb⟩ := hrel
    by_cases hlt : k < ids.length
    · obtain ⟨b, off, rfl, hbb, hrg⟩ := SeesV.hash (HS.out.below Hb.out) H32.out hlt
      have hr0 := hrg k hlt
      have hl0 := H32.out.get hlt
      generalize hid : ids[k] = id at *
      have HR := Lib.hid hr0
      have HL := Lib.hid hl0
      clear hrg hr0 hl0
      have HZ0 := Lib.hid (Tryz.hsizeB id HL.out)
      have HSZ : Hid ((Tryz.prog.info? 26).map (·.size) = some (By id).length) := by have h := HZ0.out; show _ = _; rw [h]; simp
      obtain ⟨x, hx⟩ : ∃ x, leafB id = x := ⟨_, rfl⟩
      have HX : Hid (shaB (tagB nmLeaf id) = x) := hx
      have HXl : Hid (x.length = 32) := by show _ = _; rw [← hx, leafB_len]
      have HN : Hid ((ids.take (k + 1)).map leafB = (ids.take k).map leafB ++ [x]) := by show _ = _; rw [List.take_succ_eq_append_getElem hlt, List.map_append, hid, ← hx]; simp
      clear hx
      clear hid
      go_wp2_with (first
        | ((with_reducible show wpList _ _ _ (⟨some 14, _, _, _, _, _⟩ :: _) _ _); refine wpList_load_mid rfl 26 (.tmp 13) rfl b (off + k * 32) rfl (By id) _ HR.out Tryz.underlying26 rfl HSZ.out ?_)
        | ((with_reducible show wpList _ _ _ (⟨none, .store 26 _ _, _, _, _, _⟩ :: _) _ _); refine wpList_store_all rfl 26 (.tmp 5) (.tmp 14) rfl wr.heap.size 26 (By zero32).toArray (By id).toArray rfl rfl (Blk.newAt rfl rfl) (by rw [List.size_toArray, List.size_toArray, By_length, By_length, HL.out]; rfl) HZ0.out (By_one _) ?_; intro w5 h5 h6 h7; have H5 := Lib.hid h5; have Hr5 : Hid (Below wr.heap.size wr w5) := (nxAlloc (nxRefl wr) _).trans (h6.below (nxAlloc (nxRefl wr) _).size (fun k hk => by omega)); clear h5 h6 h7)
        | ((with_reducible show wpList _ _ _ (⟨some 16, _, _, _, _, _⟩ :: _) _ _); refine wpList_load_row rfl 26 (.tmp 5) rfl wr.heap.size rfl 26 (By id).toArray (0, 0) _ H5.out Tryz.underlying26 rfl HZ0.out ?_)
        | (go_at_call 120; refine (leafText_any _ id HL.out).mono ?_; rintro e w6 ⟨A6, c6, rfl, hc6, hs6, hb6⟩; have HC6 := Lib.hid hc6; have HS6 := Lib.hid hs6; have Hr6 : Hid (Below wr.heap.size wr w6) := nxTo Hr5.out hb6; clear hc6 hs6 hb6)
        | (go_at_call 94; refine (hash_any w6 (HT.out.later (nxTo Hb.out Hr6.out)) nmLeaf nm_le.1 A6 id.length c6 id rfl HC6.out HS6.out (by have := HL.out; omega)).mono ?_; rw [HX.out]; rintro e w7 ⟨rfl, hb7⟩; have Hr7 : Hid (Below wr.heap.size wr w7) := nxTo Hr6.out hb7; have HO7 := Lib.hid (own_below HO.out Hr7.out (fun g hg => (own_lt HO.out g hg).2)); clear hb7)
        | ((with_reducible show wpList _ _ _ (⟨some 19, _, _, _, _, _⟩ :: _) _ _); refine wpList_build_hash rfl (.tmp 18) rfl x rfl HXl.out ?_)
        | ((with_reducible show wpList _ _ _ (⟨some 20, _, _, _, _, _⟩ :: _) _ _); refine wpList_append_seesV rfl (.tmp 15) (.tmp 19) 24 rfl w.heap.size 26 i0 (.agg (By zero32).toArray) 32 32 Tryz.underlying24 hi hz0 hz1 hz2 rfl (by omega) (.slice A1 k c1) k (Hs ((ids.take k).map leafB)) rfl (HO7.out.alloc _) (w7.heap.size + 1) (some ⟨w7.heap.size, 0, none⟩) 1 1 (By x) rfl (by rw [By_length, HXl.out]) (SeesV.lit' w7 (By x) 26) (By_one _) (by omega) (by omega) (by have h1 := Hb.out.size; have h2 := Hr7.out.size; simp; omega) ?_; intro v8 w8 ho8 hg8 hat8; obtain ⟨A8, c8, rfl⟩ := own_form ho8; rw [← Hs_snoc, ← HN.out] at ho8; have HO8 := Lib.hid ho8; have Hb8 : Hid (Below w.heap.size w w8) := (nxAlloc (nxTo Hb.out Hr7.out) _).grown hg8 (nxAlloc (nxTo Hb.out Hr7.out) _).size (fun j hj => (own_lt HO7.out j hj).1); clear ho8 hg8 hat8))
      go_roundw
      case rel => exact ⟨k + 1, A8, c8, by omega, by go_num, rfl, HO8.out, Hb8.out⟩
      case measure => simp [intOf] <;> omega
    · obtain rfl : k = ids.length := by omega
      rw [List.take_length] at HO
      have HL : Hid ((ids.map leafB).length = ids.length) := by show _ = _; simp
      go_wp2
      go_ret
      exact ⟨A1, c1, by rw [HL.out]; rfl, by rw [HL.out]; exact HO.out, Hb.out⟩

end Go.Proofs.YtbloomnifhcgbaaGreatDoor
