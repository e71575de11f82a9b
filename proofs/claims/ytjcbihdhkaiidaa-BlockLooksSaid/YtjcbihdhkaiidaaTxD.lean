/-
  tx, the document's: Pack.
-/
import Derived.Test.YtjcbihdhkaiidaaPBlQ5
namespace Go.Proofs.Ytjcbihdhkaiidaa
open Go.RowKit

theorem step_app {P : Program} {w : World} {ops : Array Oper} {o : Oper} {a : Act} {K : Act → World → Prop} {Q : Exit → Act → World → Prop} {E : Prop} (hgd : o.guard = none) (s x : Operand) (t : TypeId)
    (ho : o.op = .call { callee := .builtin .append, args := #[s, x], argTypes := #[t, t] })
    (base : Nat) (e : TypeId) (i : TypeInfo) (z : Value) (ht : P.underlying t = some (.slice e)) (hi : P.info? e = some i) (hz : i.zero = some z)
    (hsize : i.size = 1) (hby : i.bytes = 1) (hzs : z.cells.size = 1)
    (v : Value) (n : Nat) (xs : List Value) (hs : a.eval s = v) (hown : w.ownsRow base e 1 v n xs)
    (B : Nat) (A : Option Addr) (m c : Nat) (l : List UInt8) (hx : a.eval x = .slice A m c) (hm : m = l.length) (hse : Sees w B A l) (hbytes : n + m ≤ 140737488355328) (hbase : base ≤ w.heap.size)
    (h : ∀ v' w', w'.ownsRow base e 1 v' (n + m) (xs ++ By l) → w.grownBy w' v.ownBlock → (v'.ownBlock = v.ownBlock ∨ v'.ownBlock = some w.heap.size) → K (a.put o.dst v') w') : if Region.wanted o (yielded ops a.tmps) = true then Oper.wp P o a w K Q else E := by
  have hw : Region.wanted o (yielded ops a.tmps) = true := by simp [Region.wanted, hgd]
  rw [if_pos hw]
  obtain ⟨v', w', hr, h2, h3, h4⟩ := run_append_sees (P := P) base t o.type e i z ht hi hz hsize hby hzs v n xs hown B A m c l hm hse hbytes hbase
  unfold Oper.wp execOp
  simp only [ho, resolve, invoke, builtin, Sem.run_bind, Sem.run_pure, Result.andThen_ok, List.map_toArray, List.map_cons, List.map_nil, hs, hx, hr]
  exact h v' w' h2 h3 h4
theorem cellG {w w' : World} {b o : Nat} {v : Value} {rb : Option Nat} (h : w.cell? ⟨b, o, none⟩ = some v) (hg : w.grownBy w' rb) (hlt : b < w.heap.size) (hne : some b ≠ rb) : w'.cell? ⟨b, o, none⟩ = some v := (World.cell?_of_block (a := ⟨b, o, none⟩) (hg.block b hlt hne)).trans h
theorem blkG {w w' : World} {b : Nat} {t : TypeId} {cs : Array Value} {rb : Option Nat} (h : Blk w b t cs) (hg : w.grownBy w' rb) (hne : some b ≠ rb) : Blk w' b t cs := (hg.block b h.lt hne).trans h
theorem sees_blk {w : World} {b B : Nat} {t : TypeId} {l : List UInt8} {more : List Value} (h : Blk w b t (By l ++ more).toArray) (hB : b < B) : Sees w B (some ⟨b, 0, none⟩) l := by
  refine .inr ⟨b, 0, rfl, hB, fun i hi => ?_⟩
  rw [Nat.zero_add, h.cell i]
  have h1 : (By l ++ more)[i]? = (By l)[i]? := List.getElem?_append_left (by rw [By_length]; exact hi)
  rw [List.getElem?_toArray, h1]
  simp [By, hi]
theorem own_n {w : World} {base n : Nat} {e : TypeId} {v : Value} {l : List UInt8} (h : w.ownsRow base e 1 v n (By l)) : n = l.length := by have := h.1; rw [By_length] at this; omega
theorem own_gb {w w' : World} {base n : Nat} {e : TypeId} {v : Value} {xs : List Value} (h : w.ownsRow base e 1 v n xs) (hb : Below w.heap.size w w') : w'.ownsRow base e 1 v n xs := own_below h hb (fun g hg => (own_lt h g hg).2)

theorem lock_sees {w : World} {b o : Nat} {B : Nat} {x y : OutR} (h : w.rangeAt b o (outC x)) (he : x = y) (hB : b < B) : Sees w B (some ⟨b, o + 1, none⟩) y.lock := by
  subst he
  refine .inr ⟨b, o + 1, rfl, hB, fun i hi => ?_⟩
  have := h (i + 1) (.int .u8 (x.lock[i].toNat : Int)) (by simp [outC, By, hi])
  rw [show o + 1 + i = o + (i + 1) by omega]; exact this
theorem own_cp {w : World} {base n c : Nat} {A : Option Addr} {e : TypeId} {xs : List Value} (h : w.ownsRow base e 1 (.slice A n c) n xs) : n ≤ c := by
  rcases h.2 with ⟨_, h0⟩ | ⟨g, cap, cur, hv, _, _, hnc, _⟩
  · omega
  · injection hv with _ _ h3; omega
def PackPost (w : World) (t : TxR) (e : Ending) (w' : World) : Prop := (∃ A c, e = .returned (.slice A (packT t).length c) ∧ (packT t).length ≤ c ∧ Sees w' w'.heap.size A (packT t)) ∧ Below w.heap.size w w'

end Go.Proofs.Ytjcbihdhkaiidaa
