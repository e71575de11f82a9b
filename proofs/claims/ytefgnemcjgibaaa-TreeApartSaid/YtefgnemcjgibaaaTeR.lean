/-
  tree: two trees and two of the document's, side by side.
-/
import Derived.Test.YtefgnemcjgibaaaTeQ
namespace Go.Proofs.Ytefgnemcjgibaaa
open Go.RowKit

/-- Two trees that lie apart. -/
structure FourT (w : World) (base : Nat) (m1 m2 : TrM) : Prop where
  t1 : TrOk w base m1
  i1 : TrI m1
  t2 : TrOk w base m2
  i2 : TrI m2
  ap : ∀ k, tfoot m1 k → ¬ tfoot m2 k
/-- The document's tree beside them. -/
structure RdT (w : World) (base : Nat) (m1 m2 : TrM) (T : List Nd) (r : RtM) : Prop where
  d : RtOk w T r
  ne : 0 < T.length
  q1 : ¬ tfoot m1 r.q
  q2 : ¬ tfoot m2 r.q
  a1 : ∀ a, r.A = some a → ¬ tfoot m1 a.block
  a2 : ∀ a, r.A = some a → ¬ tfoot m2 a.block
  aq : ∀ a, r.A = some a → a.block ≠ r.q
  qb : base ≤ r.q
theorem FourT.symm {w : World} {base : Nat} {m1 m2 : TrM} (h : FourT w base m1 m2) : FourT w base m2 m1 := ⟨h.t2, h.i2, h.t1, h.i1, fun k a b => h.ap k b a⟩
theorem RdT.symm {w : World} {base : Nat} {m1 m2 : TrM} {T : List Nd} {r : RtM} (h : RdT w base m1 m2 T r) : RdT w base m2 m1 T r := ⟨h.d, h.ne, h.q2, h.q1, h.a2, h.a1, h.aq, h.qb⟩
theorem FourT.later {w w' : World} {base : Nat} {m1 m2 : TrM} (h : FourT w base m1 m2) (k : Below w.heap.size w w') : FourT w' base m1 m2 := ⟨h.t1.later k, h.i1, h.t2.later k, h.i2, h.ap⟩
theorem RdT.later {w w' : World} {base : Nat} {m1 m2 : TrM} {T : List Nd} {r : RtM} (h : RdT w base m1 m2 T r) (k : Below w.heap.size w w') : RdT w' base m1 m2 T r := ⟨h.d.later k, h.ne, h.q1, h.q2, h.a1, h.a2, h.aq, h.qb⟩
theorem RtOk.alt {w : World} {T : List Nd} {r : RtM} (h : RtOk w T r) (h0 : 0 < T.length) {a : Addr} (e : r.A = some a) : a.block < w.heap.size := by
  obtain ⟨b, off, hA, hb, _⟩ := h.cell h0
  rw [e] at hA
  injection hA with hA
  subst hA
  exact hb
/-- One more in the first tree. -/
theorem FourT.grow {w w' : World} {base p : Nat} {m1 m2 m1' : TrM} (h : FourT w base m1 m2) (a : TrTo w base m1 p m1' w') : FourT w' base m1' m2 where
  t1 := a.ok
  i1 := a.i
  t2 := h.t2.keeps a.k fun k hk e => h.ap k e hk
  i2 := h.i2
  ap k hk e := (a.f k hk).elim (fun f => h.ap k f e) fun f => by have := (h.t2.lt e).2; omega
theorem RdT.grow {w w' : World} {base p : Nat} {m1 m2 m1' : TrM} {T : List Nd} {r : RtM} (h : RdT w base m1 m2 T r) (a : TrTo w base m1 p m1' w') : RdT w' base m1' m2 T r where
  d := h.d.keeps a.k h.q1 h.a1
  ne := h.ne
  q1 e := (a.f _ e).elim h.q1 fun f => by have := h.d.b.lt; omega
  q2 := h.q2
  a1 ad e f := (a.f _ f).elim (h.a1 ad e) fun g => by have := h.d.alt h.ne e; omega
  a2 := h.a2
  aq := h.aq
  qb := h.qb
theorem tpC_snoc {T : List Nd} (h : 0 < T.length) (p : Nat) : tpC (T ++ [⟨p, 0, 0, 0⟩]) = tpC T ++ [.int .i64 (p : Int)] :=
  tpC_next (by simp) h (fun n hn => by rw [ndT_app hn]) (by rw [ndT_last])
/-- One more in the document's. -/
theorem RdT.add {w w' : World} {base p : Nat} {m1 m2 : TrM} {T : List Nd} {r : RtM} {A : Option Addr} {c : Nat} (h : RdT w base m1 m2 T r) (h4 : FourT w base m1 m2) (hb : Blk w' r.q 30 #[.slice A (T.length + 1) c]) (hs : SeesV w' w'.heap.size A (tpC T ++ [.int .i64 (p : Int)])) (hA : ∀ a, A = some a → w.heap.size ≤ a.block) (hk : Keeps (fun k => k = r.q) w w') : FourT w' base m1 m2 ∧ RdT w' base m1 m2 (T ++ [⟨p, 0, 0, 0⟩]) ⟨r.q, A, c⟩ := by
  have hlt := h.d.b.lt
  refine ⟨⟨h4.t1.keeps hk fun k hf e => h.q1 (e ▸ hf), h4.i1, h4.t2.keeps hk fun k hf e => h.q2 (e ▸ hf), h4.i2, h4.ap⟩, ⟨⟨?_, ?_⟩, by simp, h.q1, h.q2, fun a e f => ?_, fun a e f => ?_, fun a e => ?_, h.qb⟩⟩
  · rw [List.length_append]; exact hb
  · rw [tpC_snoc h.ne]; exact hs
  · have := hA a e; have := (h4.t1.lt f).2; omega
  · have := hA a e; have := (h4.t2.lt f).2; omega
  · have := hA a e
    show a.block ≠ r.q
    omega
theorem RdT.other {w w' : World} {base q : Nat} {m1 m2 : TrM} {T : List Nd} {r : RtM} (h : RdT w base m1 m2 T r) (hk : Keeps (fun k => k = q) w w') (hne : r.q ≠ q) (hA : ∀ a, r.A = some a → a.block ≠ q) : RdT w' base m1 m2 T r :=
  ⟨h.d.keeps hk hne hA, h.ne, h.q1, h.q2, h.a1, h.a2, h.aq, h.qb⟩
theorem RdT.two {w : World} {base : Nat} {m1 m2 : TrM} {T : List Nd} {r : RtM} (h : RdT w base m1 m2 T r) (h4 : FourT w base m1 m2) (hT : tpC m1.T = tpC T) : TwoR w base m1 r := by
  have hl : m1.T.length = T.length := by rw [← tpC_len, hT, tpC_len]
  exact ⟨h4.t1, h4.i1, ⟨by rw [hl]; exact h.d.b, by rw [hT]; exact h.d.s⟩, h.q1, h.a1, h.aq, h.qb⟩
theorem TrTo.tp {w w' : World} {base p : Nat} {m m' : TrM} (a : TrTo w base m p m' w') (hI : TrI m) : tpC m'.T = tpC m.T ++ [.int .i64 (p : Int)] :=
  tpC_next (by rw [m'.T_len, m.T_len, a.len]) hI.ok.ne (fun n hn => (a.par n (by rw [← m.T_len]; exact hn)).1) (by rw [m.T_len]; exact a.new.1)
/-- Some more under one and the same. -/
def extT (T : List Nd) (p i : Nat) : List Nd := T ++ List.replicate i ⟨p, 0, 0, 0⟩
theorem extT_zero (T : List Nd) (p : Nat) : extT T p 0 = T := by simp [extT]
theorem extT_succ (T : List Nd) (p i : Nat) : extT T p (i + 1) = extT T p i ++ [⟨p, 0, 0, 0⟩] := by
  unfold extT
  rw [List.replicate_succ', List.append_assoc]
theorem extT_len (T : List Nd) (p i : Nat) : (extT T p i).length = T.length + i := by simp [extT]
theorem extT_tp {T : List Nd} (h : 0 < T.length) (p i : Nat) : tpC (extT T p (i + 1)) = tpC (extT T p i) ++ [.int .i64 (p : Int)] := by
  rw [extT_succ]
  exact tpC_snoc (by rw [extT_len]; omega) p
/-- The copy, side by side with the tree. -/
theorem four_copy {w w' : World} {base : Nat} {m mc : TrM} {r : RtM} (h : TwoR w base m r) (h1 : TrOk w' base mc) (h2 : TrI mc) (h4 : ∀ k, tfoot mc k → w.heap.size ≤ k) (hb : Below w.heap.size w w') : FourT w' base m mc ∧ RdT w' base m mc m.T r :=
  ⟨⟨h.t.later hb, h.i, h1, h2, fun k a b => by have := (h.t.lt a).2; have := h4 k b; omega⟩,
   ⟨h.d.later hb, h.i.ok.ne, h.qf, fun e => by have := h.d.b.lt; have := h4 _ e; omega, h.af, fun a e f => by have := h.d.alt h.i.ok.ne e; have := h4 _ f; omega, h.aq, h.qb⟩⟩
/-- Another of the document's, over the same row. -/
theorem RdT.twin {w w' : World} {base q : Nat} {m1 m2 : TrM} {T : List Nd} {r : RtM} (h : RdT w base m1 m2 T r) (h4 : FourT w base m1 m2) (hb : Below w.heap.size w w') (hq : w.heap.size ≤ q) (hB : Blk w' q 30 #[.slice r.A T.length r.c]) : RdT w' base m1 m2 T ⟨q, r.A, r.c⟩ := by
  have h' := h.later hb
  have hlt := h.d.b.lt
  have hqb := h.qb
  refine ⟨⟨hB, h'.d.s⟩, h.ne, fun e => ?_, fun e => ?_, h.a1, h.a2, fun a e => ?_, ?_⟩
  · have e2 : tfoot m1 q := e
    have := (h4.t1.lt e2).2; omega
  · have e2 : tfoot m2 q := e
    have := (h4.t2.lt e2).2; omega
  · have := h.d.alt h.ne e
    show a.block ≠ q
    omega
  · show base ≤ q
    omega
end Go.Proofs.Ytefgnemcjgibaaa
