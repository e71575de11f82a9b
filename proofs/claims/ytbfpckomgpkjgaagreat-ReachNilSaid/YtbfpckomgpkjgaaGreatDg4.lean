/-
  dag: hashes as a map's keys; a graph in memory.
-/
import Derived.Test.YtbfpckomgpkjgaaGreatPRnQ6
import Derived.Test.YtbfpckomgpkjgaaGreatChecked
import Derived.Maps.OwnSet
import Derived.DeepKeys4
namespace Go.Proofs.YtbfpckomgpkjgaaGreat
open Go.RowKit Go.Maps

theorem Tryz.dlaidO : laidOutB Tryz.prog = true := by kernel_rfl
theorem Tryz.drowH : (23 : TypeId) < Tryz.prog.types.size := of_decide_eq_true (by kernel_rfl)
theorem Tryz.dwideH : (match Tryz.prog.underlying 23 with | some (.array _ _) | some (.struct _) => true | _ => false) = true := by rw [Tryz.underlying23]
set_option maxRecDepth 100000 in
theorem hLaw : Keyed Tryz.prog 23 := Keyed.of_law (deep_law_laid Tryz.dlaidO (m := 3) (by omega) Tryz.drowH (by kernel_rfl) Tryz.dwideH)
theorem Tryz.dkeyType : Tryz.prog.keyType 23 = true := by kernel_rfl
theorem Tryz.dcellsH : Tryz.prog.cellsOf 23 = 32 := by kernel_rfl
theorem Tryz.dcellsB : Tryz.prog.cellsOf 5 = 1 := by kernel_rfl
theorem Tryz.dmany : decide (1 ≤ Tryz.prog.types.size) = true := by kernel_rfl
theorem Tryz.dsizeH : (Tryz.prog.info? 23).map (·.size) = some 32 := by kernel_rfl
def hLits (h : Hh) : List Lit := h.1.map fun x => Lit.int .u8 (x.toNat : Int)
def hKey (h : Hh) : Lit := .string (keyBytes (hLits h))
theorem dtdo {cs : List Value} {i : Nat} (h : i < cs.length) : (cs.drop i).take 1 = [cs[i]] := by
  rw [List.drop_eq_getElem_cons h]; rfl
theorem dkeyLits_u8 (d : Nat) (x : UInt8) : Tryz.prog.keyLits (d + 1) 5 [.int .u8 (x.toNat : Int)] = some [.int .u8 (x.toNat : Int)] := by
  unfold Program.keyLits
  rw [Tryz.underlying5]
  have hw : (Lit.int .u8 (x.toNat : Int)).wf = true := by
    have := x.toNat_lt
    show (decide ((0 : Int) ≤ (x.toNat : Int)) && decide ((x.toNat : Int) ≤ 255)) = true
    rw [Bool.and_eq_true]
    exact ⟨decide_eq_true (by omega), decide_eq_true (by omega)⟩
  simp [hw]
theorem dflat_one {α β : Type} (f : α → β) (l : List α) : (l.map fun x => [f x]).flatten = l.map f := by
  induction l with
  | nil => rfl
  | cons a r ih => simp only [List.map_cons, List.flatten_cons, ih]; rfl
theorem dmapM_range {l : List UInt8} (d : Nat) : ∀ (n : Nat), n ≤ l.length → (List.range n).mapM (fun i => Tryz.prog.keyLits (d + 1) 5 (((By l).drop (i * 1)).take 1)) = some ((l.take n).map fun x => [Lit.int .u8 (x.toNat : Int)])
  | 0, _ => by simp
  | n + 1, h => by
    have ih := dmapM_range (l := l) d n (by omega)
    have e : ((By l).drop (n * 1)).take 1 = [.int .u8 ((l[n]'(by omega)).toNat : Int)] := by
      rw [Nat.mul_one, dtdo (by rw [By_length]; omega)]
      simp [By]
    rw [List.range_succ, List.mapM_append, ih]
    simp only [List.mapM_cons, List.mapM_nil, e, dkeyLits_u8]
    simp
    rw [List.take_succ_eq_append_getElem (by rw [List.length_map]; omega)]
    simp
theorem dkeyLits_hash (d : Nat) {l : List UInt8} (h : l.length = 32) : Tryz.prog.keyLits (d + 2) 23 (By l) = some (l.map fun x => Lit.int .u8 (x.toNat : Int)) := by
  unfold Program.keyLits
  rw [Tryz.underlying23]
  simp only [Tryz.dcellsH, Tryz.dcellsB, By_length, h, if_true]
  have e := dmapM_range (l := l) d 32 (by omega)
  rw [e, List.take_of_length_le (by omega)]
  rw [Option.map_some, dflat_one]
set_option maxRecDepth 100000 in
theorem keyOf_h (h : Hh) : keyOf Tryz.prog 23 (.agg (hC h).toArray) = some (hKey h) := by
  unfold keyOf
  rw [Tryz.underlying23]
  have hf : Value.formed Tryz.prog 23 (.agg (hC h).toArray) = true := by
    unfold Value.formed
    rw [Tryz.underlying23, Tryz.dcellsH]
    simp [hC_len h]
  obtain ⟨d, hd⟩ : ∃ d, Tryz.prog.types.size + 1 = d + 2 := ⟨Tryz.prog.types.size - 1, by have := of_decide_eq_true Tryz.dmany; omega⟩
  have e : (Value.agg (hC h).toArray).cells.toList = hC h := rfl
  rw [hd]
  simp only [Tryz.dkeyType, hf, Bool.and_self, if_true, e]
  unfold hC
  rw [dkeyLits_hash d h.2, Option.map_some]
  rfl
def dbackI : Value → Int
  | .int _ n => n
  | _ => 0
theorem dBy_back (l : List UInt8) : (By l).map (fun v => UInt8.ofNat (dbackI v).toNat) = l := by
  unfold By
  rw [List.map_map]
  induction l with
  | nil => rfl
  | cons a r ih =>
    rw [List.map_cons, ih]
    congr 1
    show UInt8.ofNat ((a.toNat : Int)).toNat = a
    rw [Int.toNat_natCast, UInt8.ofNat_toNat]
theorem hC_inj {a b : Hh} (h : hC a = hC b) : a = b := by
  refine Subtype.ext ?_
  unfold hC at h
  rw [← dBy_back a.1, h, dBy_back]
theorem hKey_inj {a b : Hh} : hKey a = hKey b ↔ a = b := by
  constructor
  · intro e
    have h1 := keyOf_h a
    have h2 := keyOf_h b
    rw [e] at h1
    have h3 := hLaw.inj h1 h2
    exact hC_inj (congrArg (fun v : Value => v.cells.toList) h3)
  · intro e; rw [e]

theorem blkNew {w : World} {t : TypeId} {cs cs' : Array Value} {g : Nat} (hg : g = w.heap.size) (hc : cs = cs') : Blk (w.alloc (.cells cs t)) g t cs' := by
  subst hg hc
  exact heap_alloc_new w _
/-- The places of hashes, as a map. -/
def mapD (l : List Hh) : DataW Unit := l.zipIdx.foldl (fun D p => D.put (hKey p.1) (.lit (.int .i64 (p.2 : Int)))) (.map [])
theorem mapD_snoc (l : List Hh) (h : Hh) : mapD (l ++ [h]) = (mapD l).put (hKey h) (.lit (.int .i64 (l.length : Int))) := by
  unfold mapD
  rw [List.zipIdx_append, List.foldl_append]
  simp
theorem snocInd {α : Type} {P : List α → Prop} (h0 : P []) (h1 : ∀ l x, P l → P (l ++ [x])) (l : List α) : P l := by
  have h : ∀ r : List α, P r.reverse := fun r => by
    induction r with
    | nil => exact h0
    | cons x r ih => rw [List.reverse_cons]; exact h1 _ _ ih
  have := h l.reverse
  rwa [List.reverse_reverse] at this
theorem mapD_isMap (l : List Hh) : IsMap (mapD l) := by
  induction l using snocInd with
  | h0 => exact ⟨_, rfl⟩
  | h1 l x ih => rw [mapD_snoc]; exact ih.put _ _
theorem hKey_lit (h : Hh) : WideAt.IsKeyLit (hKey h) := by unfold hKey; trivial
theorem mapD_none {l : List Hh} {h : Hh} (hn : h ∉ l) : Maps.has (mapD l) (hKey h) = false := by
  induction l using snocInd with
  | h0 => rfl
  | h1 l x ih =>
    rw [mapD_snoc, has_put_other (fun e => hn (by rw [hKey_inj.1 e]; simp))]
    exact ih (fun hm => hn (by simp [hm]))
theorem mapD_some {l : List Hh} (hd : l.Nodup) {n : Nat} (hn : n < l.length) : Maps.has (mapD l) (hKey l[n]) = true ∧ ∀ z, (mapD l).atKey (hKey l[n]) z = .lit (.int .i64 (n : Int)) := by
  induction l using snocInd with
  | h0 => simp at hn
  | h1 l x ih =>
    rw [mapD_snoc]
    have hd' := List.nodup_append.1 hd
    by_cases h1 : n < l.length
    · have e : (l ++ [x])[n] = l[n] := List.getElem_append_left h1
      have hne : hKey l[n] ≠ hKey x := fun e => hd'.2.2 l[n] (List.getElem_mem h1) x (by simp) (hKey_inj.1 e)
      have ih := ih hd'.1 h1
      rw [e]
      exact ⟨by rw [has_put_other hne]; exact ih.1, fun z => by rw [atKey_put_other hne]; exact ih.2 z⟩
    · obtain rfl : n = l.length := by simp at hn; omega
      have e : (l ++ [x])[l.length] = x := by simp
      rw [e]
      exact ⟨has_put_same (mapD_isMap l) (hKey_lit x) _, fun z => atKey_put_same (mapD_isMap l) (hKey_lit x) _ z⟩
/-- What a look into the map of a graph finds. -/
theorem mapD_place {G : Gr} (o : OkG G) (h : Hh) : Maps.has (mapD (G.map NodeG.id)) (hKey h) = (placeG G h).isSome ∧ ∀ z, (mapD (G.map NodeG.id)).atKey (hKey h) z = match placeG G h with | some n => .lit (.int .i64 (n : Int)) | none => z := by
  cases hp : placeG G h with
  | some n =>
    obtain ⟨h1, h2⟩ := placeG_some hp
    have h3 := mapD_some o.ids (n := n) (by simpa using h1)
    have e : (G.map NodeG.id)[n]'(by simpa using h1) = h := by rw [List.getElem_map, ← idG_at h1]; exact h2
    rw [e] at h3
    exact ⟨h3.1, h3.2⟩
  | none =>
    have h3 : Maps.has (mapD (G.map NodeG.id)) (hKey h) = false := mapD_none (fun hm => by
      obtain ⟨x, hx, rfl⟩ := List.mem_map.1 hm
      obtain ⟨n, hn, rfl⟩ := List.getElem_of_mem hx
      exact placeG_none.1 hp n hn (idG_at hn))
    exact ⟨h3, fun z => atKey_of_not_has h3 z⟩

/-- A node in memory: its parents, its children, its past. -/
structure NodeM where
  par : List Nat
  kids : List Nat
  row : List Nat
  pA : Option Addr
  pc : Nat
  kA : Option Addr
  kc : Nat
  rA : Option Addr
  rc : Nat
/-- A graph in memory. -/
structure GrM where
  q : Nat
  mb : Nat
  iA : Option Addr
  ic : Nat
  nA : Option Addr
  nc : Nat
  ids : List Hh
  L : List NodeM
  ks : List Hh
def iC (l : List Nat) : List Value := l.map fun (x : Nat) => .int .i64 (x : Int)
theorem iC_len (l : List Nat) : (iC l).length = l.length := by simp [iC]
def ndC (x : NodeM) : List Value := [.slice x.pA x.par.length x.pc, .slice x.kA x.kids.length x.kc, .slice x.rA x.row.length x.rc]
def ndsC (l : List NodeM) : List Value := (l.map ndC).flatten
def hsC (l : List Hh) : List Value := (l.map hC).flatten
theorem hsC_len (l : List Hh) : (hsC l).length = l.length * 32 := by
  induction l with
  | nil => rfl
  | cons a l ih => simp only [hsC, List.map_cons, List.flatten_cons, List.length_append, hC_len, List.length_cons] at ih ⊢; rw [ih]; omega
theorem ndsC_len (l : List NodeM) : (ndsC l).length = l.length * 3 := by
  induction l with
  | nil => rfl
  | cons a l ih => simp only [ndsC, List.map_cons, List.flatten_cons, List.length_append, List.length_cons] at ih ⊢; rw [ih]; simp [ndC]; omega
theorem hsC_one (l : List Hh) : ∀ u ∈ hsC l, u.oneCell' = true := by
  intro u hu
  obtain ⟨c, hc, hu⟩ := List.mem_flatten.1 hu
  obtain ⟨h, _, rfl⟩ := List.mem_map.1 hc
  exact hC_one h u hu
/-- A fixed size's cells at one place. -/
theorem flat_get {α : Type} {f : α → List Value} {k : Nat} (hf : ∀ x, (f x).length = k) : ∀ (l : List α) (i j : Nat) (hi : i < l.length) (hj : j < k), (l.map f).flatten[i * k + j]? = (f l[i])[j]?
  | [], i, j, hi, _ => by simp at hi
  | a :: l, 0, j, _, hj => by
    rw [List.map_cons, List.flatten_cons, List.getElem?_append_left (by rw [hf]; omega)]
    simp
  | a :: l, i + 1, j, hi, hj => by
    have ih := flat_get hf l i j (by simpa using hi) hj
    have e : (i + 1) * k + j = (f a).length + (i * k + j) := by rw [hf, Nat.add_mul]; omega
    rw [List.map_cons, List.flatten_cons, e, List.getElem?_append_right (by omega), Nat.add_sub_cancel_left, ih]
    simp
theorem hsC_get (l : List Hh) (i j : Nat) (hi : i < l.length) (hj : j < 32) : (hsC l)[i * 32 + j]? = (hC l[i])[j]? := flat_get hC_len l i j hi hj
theorem ndsC_get (l : List NodeM) (i j : Nat) (hi : i < l.length) (hj : j < 3) : (ndsC l)[i * 3 + j]? = (ndC l[i])[j]? := flat_get (f := ndC) (k := 3) (fun _ => rfl) l i j hi hj
/-- Blocks that the graph may change, and those that it only looks at. -/
def foot (m : GrM) (k : Nat) : Prop := k = m.q ∨ k = m.mb ∨ m.iA.map Addr.block = some k ∨ m.nA.map Addr.block = some k ∨ ∃ x ∈ m.L, x.kA.map Addr.block = some k
def ro (m : GrM) (k : Nat) : Prop := ∃ x ∈ m.L, (x.par ≠ [] ∧ x.pA.map Addr.block = some k) ∨ (x.row ≠ [] ∧ x.rA.map Addr.block = some k)
structure GrOk (w : World) (base : Nat) (m : GrM) : Prop where
  b : Blk w m.q 104 #[.slice m.iA m.ids.length m.ic, .slice m.nA m.L.length m.nc, .map (some m.mb)]
  qb : base ≤ m.q
  mbb : base ≤ m.mb
  ids : w.ownsRow base 23 32 (.slice m.iA m.ids.length m.ic) m.ids.length (hsC m.ids)
  nds : w.ownsRow base 119 3 (.slice m.nA m.L.length m.nc) m.L.length (ndsC m.L)
  map : w.ownsMap Tryz.prog 23 (plainElem Tryz.prog 3) m.mb m.ks.length (mapD m.ks)
  par : ∀ x ∈ m.L, SeesV w w.heap.size x.pA (iC x.par)
  row : ∀ x ∈ m.L, SeesV w w.heap.size x.rA (uC x.row)
  kid : ∀ x ∈ m.L, w.ownsRow base 3 1 (.slice x.kA x.kids.length x.kc) x.kids.length (iC x.kids)
  sep : ∀ k, foot m k → ¬ ro m k
  kd : ∀ i j (hi : i < m.L.length) (hj : j < m.L.length), i ≠ j → ∀ k, m.L[i].kA.map Addr.block = some k → m.L[j].kA.map Addr.block ≠ some k
def touch (m : GrM) (k : Nat) : Prop := foot m k ∨ ro m k
/-- The blocks of an own row. -/
theorem own_blk {w : World} {base size n c : Nat} {e : TypeId} {A : Option Addr} {xs : List Value} (h : w.ownsRow base e size (.slice A n c) n xs) {k : Nat} (hk : A.map Addr.block = some k) : base ≤ k ∧ ∃ cur, Blk w k e cur := by
  rcases h.2 with ⟨hv, h0⟩ | ⟨g, cap, cur, hv, hb, hh, hnc, r⟩
  · injection hv with hA; subst hA; cases hk
  · injection hv with hA _ _; subst hA; cases hk; exact ⟨hb, cur, hh⟩
theorem own_ob {A : Option Addr} {n c k : Nat} (h : (Value.slice A n c).ownBlock = some k) : A.map Addr.block = some k := by
  cases A with
  | none => cases h
  | some a => exact h
theorem Keeps.own {S : Nat → Prop} {w w' : World} {base size n c : Nat} {e : TypeId} {A : Option Addr} {xs : List Value} (hk : Keeps S w w') (h : w.ownsRow base e size (.slice A n c) n xs) (hS : ∀ k, A.map Addr.block = some k → ¬ S k) : w'.ownsRow base e size (.slice A n c) n xs := by
  refine ⟨h.1, ?_⟩
  rcases h.2 with h0 | ⟨g, cap, cur, hv, hb, hh, r⟩
  · exact .inl h0
  · refine .inr ⟨g, cap, cur, hv, hb, ?_, r⟩
    injection hv with hA _ _
    exact (hk.block g (Blk.lt hh) (hS g (by rw [hA]; rfl))).trans hh
theorem Keeps.sees {S : Nat → Prop} {w w' : World} {B : Nat} {A : Option Addr} {vs : List Value} (hk : Keeps S w w') (h : SeesV w B A vs) (hS : vs ≠ [] → ∀ k, A.map Addr.block = some k → ¬ S k) : SeesV w' B A vs := by
  by_cases h0 : vs = []
  · exact .inl h0
  rcases h with h | ⟨b, off, hA, hlt, hc⟩
  · exact .inl h
  · have hS := hS h0
    refine .inr ⟨b, off, hA, hlt, fun i hi => ?_⟩
    have h1 := hc i hi
    have h2 := World.block_lt_of_cell? _ _ h1
    exact (hk.cell (p := ⟨b, off + i, none⟩) h2 (hS b (by rw [hA]; rfl))).trans h1
theorem Keeps.map {S : Nat → Prop} {w w' : World} {P : Program} {k : TypeId} {R : Value → Option (DataW Unit × List MemPlace)} {b n : Nat} {D : DataW Unit} (hk : Keeps S w w') (h : w.ownsMap P k R b n D) (hS : ¬ S b) : w'.ownsMap P k R b n D := by
  obtain ⟨es, clock, hb, r⟩ := h
  exact ⟨es, clock, (hk.block b (Array.getElem?_eq_some_iff.1 hb).1 hS).trans hb, r⟩
theorem GrOk.keeps {w w' : World} {base : Nat} {m : GrM} {S : Nat → Prop} (h : GrOk w base m) (hk : Keeps S w w') (hS : ∀ k, touch m k → ¬ S k) : GrOk w' base m where
  b := h.b.keeps hk (hS _ (.inl (.inl rfl)))
  qb := h.qb
  mbb := h.mbb
  ids := hk.own h.ids fun k e => hS k (.inl (.inr (.inr (.inl e))))
  nds := hk.own h.nds fun k e => hS k (.inl (.inr (.inr (.inr (.inl e)))))
  map := hk.map h.map (hS _ (.inl (.inr (.inl rfl))))
  par x hx := (hk.sees (h.par x hx) fun h0 k e => hS k (.inr ⟨x, hx, .inl ⟨fun h1 => h0 (by rw [h1]; rfl), e⟩⟩)).more hk.size
  row x hx := (hk.sees (h.row x hx) fun h0 k e => hS k (.inr ⟨x, hx, .inr ⟨fun h1 => h0 (by rw [h1]; rfl), e⟩⟩)).more hk.size
  kid x hx := hk.own (h.kid x hx) fun k e => hS k (.inl (.inr (.inr (.inr (.inr ⟨x, hx, e⟩)))))
  sep := h.sep
  kd := h.kd
theorem GrOk.later {w w' : World} {base : Nat} {m : GrM} (h : GrOk w base m) (hk : Below w.heap.size w w') : GrOk w' base m := h.keeps (Keeps.of_below hk (fun _ => False)) fun _ _ => id
/-- All that it touches lies there. -/
theorem GrOk.lt {w : World} {base : Nat} {m : GrM} (h : GrOk w base m) {k : Nat} (hk : foot m k) : base ≤ k ∧ k < w.heap.size := by
  rcases hk with rfl | rfl | e | e | ⟨x, hx, e⟩
  · exact ⟨h.qb, h.b.lt⟩
  · obtain ⟨es, clock, hb, r⟩ := h.map
    exact ⟨h.mbb, (Array.getElem?_eq_some_iff.1 hb).1⟩
  · obtain ⟨h1, cur, h2⟩ := own_blk h.ids e; exact ⟨h1, h2.lt⟩
  · obtain ⟨h1, cur, h2⟩ := own_blk h.nds e; exact ⟨h1, h2.lt⟩
  · obtain ⟨h1, cur, h2⟩ := own_blk (h.kid x hx) e; exact ⟨h1, h2.lt⟩
theorem sees_lt {w : World} {B : Nat} {A : Option Addr} {vs : List Value} (h : SeesV w B A vs) (h0 : vs ≠ []) {k : Nat} (hk : A.map Addr.block = some k) : k < B := by
  rcases h with h | ⟨b, off, hA, hlt, hc⟩
  · exact absurd h h0
  · rw [hA] at hk; cases hk; exact hlt
theorem GrOk.tlt {w : World} {base : Nat} {m : GrM} (h : GrOk w base m) {k : Nat} (hk : touch m k) : k < w.heap.size := by
  rcases hk with hk | ⟨x, hx, ⟨h0, e⟩ | ⟨h0, e⟩⟩
  · exact (h.lt hk).2
  · exact sees_lt (h.par x hx) (fun h1 => h0 (by cases hp : x.par <;> simp_all [iC])) e
  · exact sees_lt (h.row x hx) (fun h1 => h0 (by cases hp : x.row <;> simp_all [uC])) e

/-- What is there when all is well: hashes, nodes and the map speak of one graph. -/
structure GrI0 (m : GrM) (G : Gr) : Prop where
  ok : OkG G
  ids : m.ids = G.map NodeG.id
  ks : m.ks = m.ids
  len : m.L.length = G.length
  par : ∀ n (h : n < m.L.length), m.L[n].par = parG G n
  kids : ∀ n (h : n < m.L.length) p, p ∈ m.L[n].kids ↔ n ∈ parG G p
  kdis : ∀ n (h : n < m.L.length), m.L[n].kids.Nodup
  row : ∀ n (h : n < m.L.length), (m.L[n].row.length ≤ (n + 63) / 64) ∧ Small m.L[n].row ∧ ∀ k, rowB m.L[n].row k = true ↔ Anc G k n
  max : m.L.length ≤ 1000000
structure GrIs (m : GrM) (G : Gr) : Prop extends GrI0 m G where
  ne : 0 < G.length
theorem GrI0.ilen {m : GrM} {G : Gr} (h : GrI0 m G) : m.ids.length = G.length := by rw [h.ids]; simp
end Go.Proofs.YtbfpckomgpkjgaaGreat
