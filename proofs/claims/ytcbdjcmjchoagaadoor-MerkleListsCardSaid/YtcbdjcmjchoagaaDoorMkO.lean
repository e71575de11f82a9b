/-
  merkle, the program's: Path.
-/
import Derived.Test.YtcbdjcmjchoagaaDoorMkN
import Derived.Laws.ResultCell
namespace Go.Proofs.YtcbdjcmjchoagaaDoor
open Go.RowKit

/-- Two results, the first a whole array or struct in memory. -/
theorem results_row_tmp {P : Program} {fn : Func} {p u : Tmp} {ty : TypeId} (h : fn.results = #[.cell p ty, .tmp u]) (tmps : Array Value) (w : World) (g : Nat) (t : TypeId) (cs : Array Value) (d : TypeDesc)
    (hp : tmps.getD p undef = .pointer (some ⟨g, 0, none⟩)) (hg : Blk w g t cs) (hu : P.underlying ty = some d) (hd : (match d with | .struct _ | .array _ _ => true | _ => false) = true) (hi : (P.info? ty).map (·.size) = some cs.size)
    (v : Value) (hv : tmps.getD u undef = v) : (results fn tmps).run P w = .ok (.tuple #[.agg cs, v]) w := by
  rw [results_cell_tmp h, hp, hv]
  simp [asAddr, run_loadVar_row w g t ty cs (0, 0) d hg hu hd hi]

theorem Tryd.psize : (Tryd.prog.info? 25).map (·.size) = some 3 := by kernel_rfl
def PathC (n c : Nat) (A : Option Addr) (m d : Nat) : Array Value := #[.int .i64 (n : Int), .int .i64 (c : Int), .slice A m d]
def PathPost (w : World) (n : Nat) (ids : List (List UInt8)) (e : Ending) (w' : World) : Prop :=
  ∃ B d, e = .returned (.tuple #[.agg (PathC n ids.length B (besideL n ids).length d), .int .i64 0]) ∧ (besideL n ids).length ≤ d ∧ SeesV w' w'.heap.size B (Hs (besideL n ids)) ∧ Below w.heap.size w w'
theorem PathC_one (n c : Nat) (A : Option Addr) (m d : Nat) : ∀ u ∈ (PathC n c A m d).toList, u.oneCell' = true := by
  intro u hu
  simp [PathC] at hu
  rcases hu with rfl | rfl | rfl <;> rfl
theorem besR_beside {n : Nat} {ids : List (List UInt8)} (h : n < ids.length) : besR knotB n (ids.map leafB) = besideL n ids := besR_eq knotB n _ (by simpa using h)
theorem beside_32 (n : Nat) (ids : List (List UInt8)) : All32 (besideL n ids) := by
  induction hN : ids.length using Nat.strongRecOn generalizing n ids with
  | ind N ih =>
    subst hN
    by_cases hone : ids.length ≤ 1
    · rw [besideL_one hone]; exact All32.nil
    · have hk2 := half_lt (n := ids.length) (by omega)
      have hk0 := half_pos ids.length
      by_cases hn : n < half ids.length
      · rw [besideL_left hone hn]
        intro y hy
        rcases List.mem_append.1 hy with hy | hy
        · exact ih _ (by rw [List.length_take]; omega) n _ rfl y hy
        · obtain rfl := List.mem_singleton.1 hy
          exact leftL_len (by rw [List.length_drop]; omega)
      · rw [besideL_right hone hn]
        intro y hy
        rcases List.mem_append.1 hy with hy | hy
        · exact ih _ (by rw [List.length_drop]; omega) _ _ rfl y hy
        · obtain rfl := List.mem_singleton.1 hy
          exact leftL_len (by rw [List.length_take]; omega)

/-- What shows values that stand in no cell of a block shows them still when that block is written. -/
theorem sees_aside {w w' : World} {g B : Nat} {t : TypeId} {cs : Array Value} {A : Option Addr} {vs : List Value} (h : SeesV w B A vs) (hb : Blk w g t cs) (hk : Keeps (· = g) w w') (hne : ∀ u ∈ vs, u ∉ cs.toList) : SeesV w' B A vs := by
  rcases h with h | ⟨b, off, hA, hlt, hc⟩
  · exact .inl h
  · by_cases h0 : vs.length = 0
    · exact .inl (List.eq_nil_of_length_eq_zero h0)
    · refine .inr ⟨b, off, hA, hlt, fun i hi => ?_⟩
      have hbl := World.block_lt_of_cell? _ _ (hc i hi)
      by_cases e : b = g
      · exfalso
        subst e
        have h1 := hc 0 (by omega)
        rw [hb.cell] at h1
        exact hne (vs[0]'(by omega)) (List.getElem_mem _) (by have := Array.mem_of_getElem? h1; simpa using this)
      · rw [hk.cell (p := ⟨b, off + i, none⟩) hbl e]
        exact hc i hi
theorem Hs_u8 {hs : List (List UInt8)} {u : Value} (h : u ∈ Hs hs) : ∃ x : UInt8, u = .int .u8 (x.toNat : Int) := by
  unfold Hs By at h
  obtain ⟨x, _, rfl⟩ := List.mem_map.1 h
  exact ⟨x, rfl⟩
theorem Hs_not_path {hs : List (List UInt8)} {n c m d : Nat} {A : Option Addr} : ∀ u ∈ Hs hs, u ∉ (PathC n c A m d).toList := by
  intro u hu hm
  obtain ⟨x, rfl⟩ := Hs_u8 hu
  simp [PathC] at hm

set_option maxHeartbeats 1000000 in
set_option maxRecDepth 100000 in
theorem path_any (w : World) (hT : Tabs w) (n : Nat) (A : Option Addr) (m c : Nat) (ids : List (List UInt8)) (hm : m = ids.length) (hn : n < m) (h32 : All32 ids) (hS : SeesV w w.heap.size A (Hs ids)) (hmax : m ≤ 1048576) :
    Calls Tryd.prog 9 #[.int .i64 (n : Int), .slice A m c] w (PathPost w n ids) := by
  subst hm
  have hb0 : Below w.heap.size w (w.alloc (.cells (PathC 0 0 none 0 0) 25)) := nxAlloc (nxRefl w) _
  have B0 : Hid (Blk (w.alloc (.cells (PathC 0 0 none 0 0) 25)) w.heap.size 25 (PathC 0 0 none 0 0)) := Lib.hid (heap_alloc_new w _)
  have HT := Lib.hid (hT.later hb0)
  have HS := Lib.hid ((hS.alloc (.cells (PathC 0 0 none 0 0) 25)).size)
  have H32 := Lib.hid h32
  have Hb0 := Lib.hid hb0
  have HP := Lib.hid (place_yes (n := n) (c := ids.length) (by omega) (by omega) (by omega))
  have HBs := Lib.hid (besR_beside hn)
  obtain ⟨top, htop⟩ : ∃ top, topR knotB (ids.map leafB) = top := ⟨_, rfl⟩
  have HTp := Lib.hid htop
  obtain ⟨bs, hbs⟩ : ∃ bs, besideL n ids = bs := ⟨_, rfl⟩
  unfold PathPost
  rw [hbs] at HBs ⊢
  clear hT hS h32 hb0 htop hbs
  go_enter Tryd.func9, Tryd.ntmps9
  go_wp2_with (first
    | (go_at_call 28; refine (isPlace_any _ n ids.length).mono ?_; rw [HP.out]; rintro e w' ⟨rfl, rfl⟩)
    | (go_at_call 29; refine (climb_any _ HT.out n A _ c ids rfl H32.out HS.out hmax (.inl hn)).mono ?_; rw [HTp.out, HBs.out]; rintro e w2 ⟨A2, c2, B2, d2, rfl, _, hd2, _, _, _, hs2, hb2⟩; have HD2 := Lib.hid hd2; have HS2 := Lib.hid hs2; have Hb2 : Hid (Below w.heap.size w w2) := nxTo Hb0.out hb2; have B2' := Lib.hid (B0.out.below hb2 B0.out.lt); clear hd2 hs2 hb2)
    | ((with_reducible show wpList _ _ _ (⟨none, .store 25 _ _, _, _, _, _⟩ :: _) _ _); refine wpList_store_all rfl 25 (.tmp 4) (.tmp 24) rfl w.heap.size 25 (PathC 0 0 none 0 0) (PathC n ids.length B2 bs.length d2) rfl rfl B2'.out rfl Tryd.psize (PathC_one _ _ _ _ _) ?_; intro w5 h5 h6 h7; have H5 := Lib.hid h5; have HS5 := Lib.hid (sees_aside HS2.out B2'.out h6 Hs_not_path).size; have Hb5 : Hid (Below w.heap.size w w5) := Hb2.out.trans (h6.below Hb2.out.size (fun k hk => by omega)); clear h5 h6 h7))
  refine bodyPost_ret (results_row_tmp Tryd.results9 _ _ w.heap.size 25 _ _ rfl H5.out Tryd.underlying25 rfl Tryd.psize _ rfl) rfl ⟨B2, d2, rfl, HD2.out, HS5.out, Hb5.out⟩

/-- No path of no place. -/
def NoPathPost (w : World) (e : Ending) (w' : World) : Prop := e = .returned (.tuple #[.agg (PathC 0 0 none 0 0), .int .i64 2]) ∧ Below w.heap.size w w'

set_option maxHeartbeats 1000000 in
set_option maxRecDepth 100000 in
theorem path_no (w : World) (n : Int) (A : Option Addr) (m c : Nat) (hn : ¬ (0 ≤ n ∧ n < m)) :
    Calls Tryd.prog 9 #[.int .i64 n, .slice A m c] w (NoPathPost w) := by
  have hb0 : Below w.heap.size w (w.alloc (.cells (PathC 0 0 none 0 0) 25)) := nxAlloc (nxRefl w) _
  have B0 : Hid (Blk (w.alloc (.cells (PathC 0 0 none 0 0) 25)) w.heap.size 25 (PathC 0 0 none 0 0)) := Lib.hid (heap_alloc_new w _)
  have Hb0 := Lib.hid hb0
  have HP := Lib.hid (place_no (n := n) (c := m) (by omega))
  clear hn hb0
  go_enter Tryd.func9, Tryd.ntmps9
  go_wp2_with (first
    | (go_at_call 28; refine (isPlace_any _ n m).mono ?_; rw [HP.out]; rintro e w' ⟨rfl, rfl⟩)
    | ((with_reducible show wpList _ _ _ (⟨none, .store 25 _ _, _, _, _, _⟩ :: _) _ _); refine wpList_store_all rfl 25 (.tmp 4) (.tmp 13) rfl w.heap.size 25 (PathC 0 0 none 0 0) (PathC 0 0 none 0 0) rfl rfl B0.out rfl Tryd.psize (PathC_one _ _ _ _ _) ?_; intro w5 h5 h6 h7; have H5 := Lib.hid h5; have Hb5 : Hid (Below w.heap.size w w5) := Hb0.out.trans (h6.below Hb0.out.size (fun k hk => by omega)); clear h5 h6 h7))
  refine bodyPost_ret (results_row_tmp Tryd.results9 _ _ w.heap.size 25 _ _ rfl H5.out Tryd.underlying25 rfl Tryd.psize _ rfl) rfl ⟨rfl, Hb5.out⟩
end Go.Proofs.YtcbdjcmjchoagaaDoor
