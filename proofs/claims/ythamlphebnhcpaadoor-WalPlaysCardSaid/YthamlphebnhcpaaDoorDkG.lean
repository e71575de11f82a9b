/-
  disk: the chapter's rows; how much is handed in.
-/
import Derived.Test.YthamlphebnhcpaaDoorDkF
import Derived.Lib.SlBytesConst
namespace Go.Proofs.YthamlphebnhcpaaDoor
open Go.RowKit

theorem flat_lenD {α : Type} {L : List (List α)} {n : Nat} (h : ∀ r ∈ L, r.length = n) : L.flatten.length = L.length * n := by
  induction L with
  | nil => simp
  | cons a r ih => rw [List.flatten_cons, List.length_append, ih (fun x hx => h x (List.mem_cons_of_mem _ hx)), h a (by simp), List.length_cons, Nat.succ_mul]; omega
theorem flat_atD {α : Type} {L : List (List α)} {n : Nat} (h : ∀ r ∈ L, r.length = n) : ∀ {k : Nat} (hk : k < L.length) (j : Nat) (_ : j < n), L.flatten[k * n + j]? = L[k][j]? := by
  induction L with
  | nil => intro k hk; simp at hk
  | cons a r ih =>
    intro k hk j hj
    have ha : a.length = n := h a (by simp)
    cases k with
    | zero => rw [List.flatten_cons, Nat.zero_mul, Nat.zero_add, List.getElem?_append_left (by omega)]; rfl
    | succ k =>
      rw [List.flatten_cons, List.getElem?_append_right (by rw [ha, Nat.succ_mul]; omega), ha, Nat.succ_mul, show k * n + n + j - n = k * n + j by omega]
      exact ih (fun x hx => h x (List.mem_cons_of_mem _ hx)) (by simpa using hk) j hj
/-- A row of a row of rows, in memory. -/
theorem SeesV.rowD {w : World} {B : Nat} {A : Option Addr} {L : List (List Value)} {n : Nat} (hS : SeesV w B A L.flatten) (h : ∀ r ∈ L, r.length = n) (hn : 0 < n) (h0 : 0 < L.length) :
    ∃ b off, A = some ⟨b, off, none⟩ ∧ b < B ∧ ∀ k (hk : k < L.length), w.rangeAt b (off + k * n) L[k] := by
  have hl := flat_lenD h
  have hp : 0 < L.length * n := Nat.mul_pos h0 hn
  obtain ⟨b, off, hA, hb, hc⟩ := hS.at_ (k := 0) (by omega)
  refine ⟨b, off, hA, hb, fun k hk j v hv => ?_⟩
  have hjl : j < n := by
    have h1 := (List.getElem?_eq_some_iff.1 hv).1
    rw [h _ (List.getElem_mem hk)] at h1
    exact h1
  have hlt : k * n + j < L.flatten.length := by
    rw [hl]
    have : (k + 1) * n ≤ L.length * n := Nat.mul_le_mul_right n (by omega)
    rw [Nat.succ_mul] at this
    omega
  have h2 := flat_atD h hk j hjl
  rw [hv, List.getElem?_eq_getElem hlt] at h2
  rw [Nat.add_assoc, hc _ hlt]
  exact h2

theorem wpList_minD {P : Program} {ops : Array Oper} {rest : List Oper} {o : Oper} {a : Act} {w : World} {Q : Exit → Act → World → Prop} (hg : o.guard = none) (x : Operand) (m : Int) (ho : o.op = .call { callee := .builtin .min, args := #[x, .const (.int .i64 m)], argTypes := #[3, 3] })
    (c n : Int) (hx : a.eval x = .int .i64 c) (hn : (if m < c then m else c) = n) (h : wpList P ops Q rest (a.put o.dst (.int .i64 n)) w) : wpList P ops Q (o :: rest) a w := by
  refine wpList_plain hg fun _ hK => ?_
  unfold Oper.wp execOp
  have hc : a.eval (.const (.int .i64 m)) = .int .i64 m := rfl
  have hr : (Builtin.min_ #[3, 3] o.type #[.int .i64 c, .int .i64 m]).run P w = .ok (.int .i64 n) w := by
    rw [← hn]
    by_cases hmc : m < c
    · rw [if_pos hmc]; simp [Builtin.min_, Builtin.min2, hmc]
    · rw [if_neg hmc]; simp [Builtin.min_, Builtin.min2, hmc]
  simp only [ho, resolve, invoke, builtin, Sem.run_bind, Sem.run_pure, Result.andThen_ok, List.map_toArray, List.map_cons, List.map_nil, hx, hc, hr]
  exact hK _ _ h

def argsC (l : List ArgM) : List Value := (l.map argC).flatten
/-- Steps that are handed in. -/
structure ArgsOk (w : World) (A : Option Addr) (l : List ArgM) (c : Nat) : Prop where
  s : SeesV w w.heap.size A (argsC l)
  a : ∀ a ∈ l, ArgOk w a
  c : l.length ≤ c
  m : l.length ≤ 9223372036854775807
theorem ArgsOk.later {w w' : World} {A : Option Addr} {l : List ArgM} {c : Nat} (h : ArgsOk w A l c) (b : Below w.heap.size w w') : ArgsOk w' A l c := ⟨(h.s.later b).more b.size, fun a m => (h.a a m).later b, h.c, h.m⟩
theorem ArgsOk.row {w : World} {A : Option Addr} {l : List ArgM} {c : Nat} (h : ArgsOk w A l c) (h0 : 0 < l.length) : ∃ b off, A = some ⟨b, off, none⟩ ∧ b < w.heap.size ∧ ∀ k (hk : k < l.length), w.rangeAt b (off + k * 6) (argC l[k]) := by
  obtain ⟨b, off, hA, hb, hr⟩ := SeesV.rowD (n := 6) h.s (by intro r hr; obtain ⟨i, _, rfl⟩ := List.mem_map.1 hr; rfl) (by omega) (by simpa using h0)
  exact ⟨b, off, hA, hb, fun k hk => by have h := hr k (by simpa using hk); rw [List.getElem_map] at h; exact h⟩
/-- What Much answers. -/
def MuchD (w : World) (l : List ArgM) (e : Ending) (w' : World) : Prop := ∃ z : Bool, e = .returned (.bool z) ∧ (z = false → l.length ≤ 60 ∧ ∀ a ∈ l, a.b.length ≤ 20000) ∧ w' = w
theorem MuchD.is {w w' : World} {l : List ArgM} (z : Bool) (hz : z = false → l.length ≤ 60 ∧ ∀ a ∈ l, a.b.length ≤ 20000) (hw : w' = w) : MuchD w l (.returned (.bool z)) w' := ⟨z, rfl, hz, hw⟩
theorem Sees.litM (w : World) (l : List UInt8) (t : TypeId) (fr : Nat × Nat) : Sees (w.alloc (.cells (By l).toArray t fr)) (w.heap.size + 1) (some ⟨w.heap.size, 0, none⟩) l := by
  refine .inr ⟨w.heap.size, 0, rfl, by omega, fun i hi => ?_⟩
  rw [Nat.zero_add, World.cell?_alloc_mark]
  simp [By, hi]

/-! the chapter's rows -/
def kn1 : DkD := (appendD newD 0 [97, 98]).1
def kn2 : DkD := (syncD kn1).1
def kn3 : DkD := (appendD kn2 0 [99, 100]).1
theorem kn1_e : appendD newD 0 [97, 98] = (kn1, 0) := rfl
theorem kn2_e : syncD kn1 = (kn2, 0) := rfl
theorem kn3_e : appendD kn2 0 [99, 100] = (kn3, 0) := rfl
theorem kn4_e (k : Nat) (hk : k < 2) : readD (crashD kn3 0 (k : Int)) 0 = ([97, 98, 99].take (2 + k), 0) := by
  match k, hk with
  | 0, _ => rfl
  | 1, _ => rfl
theorem kn_w : kn1.W.length = 1 ∧ kn2.W.length = 0 ∧ kn3.W.length = 1 := ⟨rfl, rfl, rfl⟩
theorem kn1_wf : DkWf kn1 := appendD_wf newD_wf _ _
theorem kn2_wf : DkWf kn2 := syncD_wf kn1_wf
theorem kn3_wf : DkWf kn3 := appendD_wf kn2_wf _ _
theorem DkM.wlen {m : DkM} : m.W.length = m.d.W.length := (List.length_map _).symm
theorem nxTrD {w w1 w2 : World} (h : Below w.heap.size w w1) (h' : Below w1.heap.size w1 w2) : Below w.heap.size w w2 := h.trans ⟨h'.os, h'.tape, h'.output, h'.size, fun b hb => h'.block b (Nat.lt_of_lt_of_le hb h.size)⟩
theorem new_of {w : World} {g : Nat} (hg : w.heap.size ≤ g) : ∀ j, foot g newM j → w.heap.size ≤ j := fun j hj => by rw [newM_foot g j hj]; exact hg
theorem DkTo.fresh {w w1 w2 : World} {g : Nat} {m m' : DkM} (b : Below w.heap.size w w1) (hf : ∀ j, foot g m j → w.heap.size ≤ j) (t : DkTo w1 g m w2 m') : Below w.heap.size w w2 ∧ ∀ j, foot g m' j → w.heap.size ≤ j := by
  refine ⟨b.trans (t.k.below b.size (fun j hj h => by have := hf j h; omega)), fun j hj => ?_⟩
  rcases t.ft j hj with h | h
  · exact hf j h
  · exact Nat.le_trans b.size h

end Go.Proofs.YthamlphebnhcpaaDoor
