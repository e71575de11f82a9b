/-
  tree: the document's tree; both side by side.
-/
import Derived.Test.YtefgnemcjgibaaaTeF
namespace Go.Proofs.Ytefgnemcjgibaaa
open Go.RowKit

/-- The document's parents. -/
def tpV (T : List Nd) (n : Nat) : Int := if n = 0 then -1 else ((ndT T n).par : Int)
def tpC (T : List Nd) : List Value := (List.range T.length).map fun n => .int .i64 (tpV T n)
theorem tpC_len (T : List Nd) : (tpC T).length = T.length := by simp [tpC]
theorem tpC_get {T : List Nd} {n : Nat} (h : n < T.length) : (tpC T)[n]? = some (.int .i64 (tpV T n)) := by simp [tpC, h]
theorem tpC_one (T : List Nd) : ∀ u ∈ tpC T, u.oneCell' = true := by
  intro u hu
  obtain ⟨x, _, rfl⟩ := List.mem_map.1 hu
  rfl
theorem tpC_next {T T' : List Nd} {p : Nat} (hl : T'.length = T.length + 1) (hT : 0 < T.length) (h1 : ∀ n, n < T.length → (ndT T' n).par = (ndT T n).par) (h2 : (ndT T' T.length).par = p) : tpC T' = tpC T ++ [.int .i64 (p : Int)] := by
  unfold tpC
  rw [hl, List.range_succ, List.map_append]
  congr 1
  · refine List.map_congr_left fun n hn => ?_
    have hn' := List.mem_range.1 hn
    unfold tpV
    rw [h1 n hn']
  · simp only [List.map_cons, List.map_nil, tpV]
    rw [if_neg (by omega), h2]
/-- The document's tree in memory. -/
structure RtM where
  q : Nat
  A : Option Addr
  c : Nat
structure RtOk (w : World) (T : List Nd) (r : RtM) : Prop where
  b : Blk w r.q 30 #[.slice r.A T.length r.c]
  s : SeesV w w.heap.size r.A (tpC T)
theorem RtOk.later {w w' : World} {T : List Nd} {r : RtM} (h : RtOk w T r) (k : Below w.heap.size w w') : RtOk w' T r :=
  ⟨h.b.below k h.b.lt, (h.s.below k).more k.size⟩
theorem RtOk.cell {w : World} {T : List Nd} {r : RtM} (h : RtOk w T r) {n : Nat} (hn : n < T.length) : ∃ b off, r.A = some ⟨b, off, none⟩ ∧ b < w.heap.size ∧ ∀ n, n < T.length → w.cell? ⟨b, off + n, none⟩ = some (.int .i64 (tpV T n)) := by
  obtain ⟨b, off, hA, hb, hc⟩ := h.s.at_ (k := n) (by rw [tpC_len]; exact hn)
  refine ⟨b, off, hA, hb, fun k hk => ?_⟩
  have hk' : k < (tpC T).length := by rw [tpC_len]; exact hk
  rw [hc k hk']
  have := tpC_get hk
  rw [List.getElem?_eq_getElem hk'] at this
  exact this
/-- Both side by side. -/
structure TwoR (w : World) (base : Nat) (m : TrM) (r : RtM) : Prop where
  t : TrOk w base m
  i : TrI m
  d : RtOk w m.T r
  qf : ¬ tfoot m r.q
  af : ∀ a, r.A = some a → ¬ tfoot m a.block
  aq : ∀ a, r.A = some a → a.block ≠ r.q
  qb : base ≤ r.q
theorem TwoR.later {w w' : World} {base : Nat} {m : TrM} {r : RtM} (h : TwoR w base m r) (k : Below w.heap.size w w') : TwoR w' base m r :=
  ⟨h.t.later k, h.i, h.d.later k, h.qf, h.af, h.aq, h.qb⟩
theorem rt_in (w : World) (T : List Nd) (r : RtM) (h : RtOk w T r) (n : Nat) (hn : n < T.length) : Calls Try.prog 15 #[.pointer (some ⟨r.q, 0, none⟩), .int .i64 (n : Int)] w fun e w' => e = .returned (.bool true) ∧ w' = w := by
  have hc : w.cell? ⟨r.q, 0, none⟩ = some (.slice r.A T.length r.c) := h.b.cell 0
  have hk : (n : Int) < (T.length : Int) := by omega
  clear h
  generalize T.length = k at *
  go_enter Try.func15, Try.ntmps15
  go_wp2
  go_ret
  exact ⟨rfl, rfl⟩
theorem rt_inno (w : World) (T : List Nd) (r : RtM) (h : RtOk w T r) (n : Int) (hn : n < 0 ∨ (T.length : Int) ≤ n) : Calls Try.prog 15 #[.pointer (some ⟨r.q, 0, none⟩), .int .i64 n] w fun e w' => e = .returned (.bool false) ∧ w' = w := by
  have hc : w.cell? ⟨r.q, 0, none⟩ = some (.slice r.A T.length r.c) := h.b.cell 0
  clear h
  generalize T.length = k at *
  rcases hn with hn | hn
  · have hk : ¬ (0 : Int) ≤ n := by omega
    go_enter Try.func15, Try.ntmps15
    go_wp2
    go_ret
    exact ⟨rfl, rfl⟩
  · have hk : ¬ n < (k : Int) := by omega
    have hk2 : (0 : Int) ≤ n := by omega
    go_enter Try.func15, Try.ntmps15
    go_wp2
    go_ret
    exact ⟨by simp [hk], rfl⟩
theorem rt_new (w : World) : Calls Try.prog 28 #[] w fun e w' => e = .returned (.pointer (some ⟨w.heap.size + 1, 0, none⟩)) ∧ RtOk w' [ndM1.d] ⟨w.heap.size + 1, some ⟨w.heap.size, 0, none⟩, 1⟩ ∧ Below w.heap.size w w' := by
  have hb2 : ∀ wq : World, (Instr.build 30 #[(0, .slice (some ⟨w.heap.size, 0, none⟩) 1 1)]).run Try.prog wq = .ok (.agg #[.slice (some ⟨w.heap.size, 0, none⟩) 1 1]) wq := fun wq => by kernel_rfl
  go_enter Try.func28, Try.ntmps28
  go_wp2
  go_ret
  refine ⟨by simp, ⟨?_, ?_⟩, nxAlloc (nxAlloc (nxRefl w) _) _⟩
  · exact tblkNew (by simp) rfl
  · have hb : Blk ((w.alloc (.cells #[.int .i64 (-1)] 3)).alloc (.cells #[.slice (some ⟨w.heap.size, 0, none⟩) 1 1] 30)) w.heap.size 3 #[.int .i64 (-1)] := Blk.alloc (heap_alloc_new w _) _
    exact SeesV.blk hb
theorem rt_addno (w : World) (T : List Nd) (r : RtM) (h : RtOk w T r) (n : Int) (hn : n < 0 ∨ (T.length : Int) ≤ n) : Calls Try.prog 27 #[.pointer (some ⟨r.q, 0, none⟩), .int .i64 n] w fun e w' => e = .returned (.int .i64 (-1)) ∧ w' = w := by
  have H1 := Lib.hid (rt_inno w T r h n hn)
  clear h hn
  go_enter Try.func27, Try.ntmps27
  go_wp2_with (go_at_call 15; refine H1.out.mono ?_; rintro e1 w1 ⟨rfl, hw1⟩; obtain rfl := hw1.symm)
  go_ret
  exact ⟨rfl, rfl⟩
set_option maxRecDepth 100000 in
set_option maxHeartbeats 2000000 in
theorem rt_add (w : World) (T : List Nd) (r : RtM) (h : RtOk w T r) (hq : ∀ a, r.A = some a → a.block ≠ r.q) (hT : 0 < T.length) (hm : T.length ≤ 1000) (p : Nat) (hp : p < T.length) : Calls Try.prog 27 #[.pointer (some ⟨r.q, 0, none⟩), .int .i64 (p : Int)] w fun e w' => e = .returned (.int .i64 (T.length : Int)) ∧ ∃ A c, Blk w' r.q 30 #[.slice A (T.length + 1) c] ∧ SeesV w' w'.heap.size A (tpC T ++ [.int .i64 (p : Int)]) ∧ (∀ a, A = some a → w.heap.size ≤ a.block) ∧ Keeps (fun k => k = r.q) w w' := by
  have H1 := Lib.hid (rt_in w T r h p hp)
  have hc : w.cell? ⟨r.q, 0, none⟩ = some (.slice r.A T.length r.c) := h.b.cell 0
  have HB := Lib.hid h.b
  have HS := Lib.hid h.s
  obtain ⟨i2, hi2, hz0, hz1, hz2⟩ := info_parts Try.tinfoI
  have hn0 : Hid (w.ownsRow w.heap.size 3 1 (.slice none 0 0) 0 []) := (⟨rfl, .inl ⟨rfl, rfl⟩⟩ : w.ownsRow w.heap.size 3 1 (.slice none 0 0) 0 [])
  clear h
  go_enter Try.func27, Try.ntmps27
  go_wp2_with (first
    | (go_at_call 15; refine H1.out.mono ?_; rintro e1 w1 ⟨rfl, hw1⟩; obtain rfl := hw1.symm)
    | ((with_reducible show wpList _ _ _ (⟨some 14, _, _, _, _, _⟩ :: _) _ _); refine wpList_append_seesV rfl _ (.tmp 13) 22 rfl w.heap.size 3 i2 _ 1 8 Try.underlying22 hi2 hz0 hz1 hz2 rfl (by decide) (.slice none 0 0) 0 [] rfl hn0.out _ r.A T.length r.c (tpC T) rfl (by rw [tpC_len, Nat.mul_one]) HS.out (tpC_one T) (by omega) (by omega) (by omega) ?_; intro v7 w7 ho7 hg7 ha7; obtain ⟨A7, c7, rfl⟩ := own_form ho7; have O7 : Hid (w7.ownsRow w.heap.size 3 1 (.slice A7 T.length c7) T.length (tpC T)) := (by have h9 := ho7; rw [Nat.zero_add, List.nil_append] at h9; exact h9); have V7 : Hid (Below w.heap.size w w7) := (nxRefl w).grown hg7 (Nat.le_refl _) (fun j hj => (own_lt hn0.out j hj).1); have DB : Hid (Below w7.heap.size w7 (w7.alloc (.cells #[.int .i64 (p : Int)] 3))) := nxAlloc (nxRefl w7) _; have hsz7 := V7.out.size; clear ho7 hg7 ha7)
    | ((with_reducible show wpList _ _ _ (⟨some 17, _, _, _, _, _⟩ :: _) _ _); refine wpList_append_seesV rfl (.tmp 14) (.tmp 16) 22 rfl w.heap.size 3 i2 _ 1 8 Try.underlying22 hi2 hz0 hz1 hz2 rfl (by decide) (.slice A7 T.length c7) T.length (tpC T) rfl (own_below O7.out DB.out (fun g hg => (own_lt O7.out g hg).2)) _ (some ⟨w7.heap.size, 0, none⟩) 1 1 [.int .i64 (p : Int)] rfl rfl (SeesV.blk (heap_alloc_new w7 _)) (by simp [Value.oneCell']) (by omega) (by omega) (by simp; omega) ?_; intro v8 w8 ho8 hg8 ha8; obtain ⟨A8, c8, rfl⟩ := own_form ho8; have O8 := Lib.hid ho8; have V8 : Hid (Below w.heap.size w w8) := (nxAlloc V7.out _).grown hg8 (by simp; omega) (fun j hj => (own_lt O7.out j hj).1); have B8 : Hid (Blk w8 r.q 30 #[.slice r.A T.length r.c]) := HB.out.below V8.out HB.out.lt; have c8q : w8.cell? ⟨r.q, 0, none⟩ = some (.slice r.A T.length r.c) := B8.out.cell 0; have f8q : w8.frozen? ⟨r.q, 0, none⟩ = false := B8.out.frozen 0; have B9 : Hid (Blk (w8.setCell ⟨r.q, 0, none⟩ (.slice A8 (T.length + 1) c8)) r.q 30 #[.slice A8 (T.length + 1) c8]) := B8.out.set 0 _; have c9q : (w8.setCell ⟨r.q, 0, none⟩ (.slice A8 (T.length + 1) c8)).cell? ⟨r.q, 0, none⟩ = some (.slice A8 (T.length + 1) c8) := B9.out.cell 0; clear ho8 hg8 ha8))
  go_ret
  have O9 : (w8.setCell ⟨r.q, 0, none⟩ (.slice A8 (T.length + 1) c8)).ownsRow w.heap.size 3 1 (.slice A8 (T.length + 1) c8) (T.length + 1) (tpC T ++ [.int .i64 (p : Int)]) := own_store O8.out B8.out (by decide) _ _
  refine ⟨rfl, A8, c8, B9.out, SeesV.own O9, fun a ha => ?_, (Keeps.of_below V8.out (fun k => k = r.q)).setCell (p := ⟨r.q, 0, none⟩) rfl _⟩
  subst ha
  exact (town_blk O9 (k := a.block) rfl).1
end Go.Proofs.Ytefgnemcjgibaaa
