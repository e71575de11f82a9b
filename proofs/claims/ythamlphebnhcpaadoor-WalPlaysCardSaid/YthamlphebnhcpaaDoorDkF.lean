/-
  disk: the law's own functions: num, do, known.
-/
import Derived.Test.YthamlphebnhcpaaDoorDkE
namespace Go.Proofs.YthamlphebnhcpaaDoor
open Go.RowKit

/-- A step that is handed in. -/
structure ArgM where
  kind : Int
  log : Int
  n : Int
  m : Int
  x : UInt8
  A : Option Addr
  c : Nat
  b : List UInt8
def argC (a : ArgM) : List Value := [.int .i64 a.kind, .int .i64 a.log, .int .i64 a.n, .int .i64 a.m, .int .u8 (a.x.toNat : Int), .slice a.A a.b.length a.c]
structure ArgOk (w : World) (a : ArgM) : Prop where
  s : Sees w w.heap.size a.A a.b
  n : a.n < 9223372036854775808
theorem ArgOk.later {w w' : World} {a : ArgM} (h : ArgOk w a) (b : Below w.heap.size w w') : ArgOk w' a := ⟨(h.s.later b).more b.size, h.n⟩
/-- A step's data. -/
structure ArgD where
  kind : Int
  log : Int
  n : Int
  m : Int
  x : UInt8
  b : List UInt8
def ArgM.d (a : ArgM) : ArgD := ⟨a.kind, a.log, a.n, a.m, a.x, a.b⟩
def doD (D : DkD) (a : ArgD) : DkD × Int :=
  if a.kind = 1 then appendD D a.log a.b else if a.kind = 2 then cutD D a.log a.n else if a.kind = 3 then syncD D else if a.kind = 4 then fuseD D a.n else if a.kind = 5 then (crashD D a.n a.m, 0) else if a.kind = 6 then editD D a.log a.n a.x else (D, 0)
theorem doD_wf {D : DkD} (h : DkWf D) (a : ArgD) (hn : a.n < 9223372036854775808) : DkWf (doD D a).1 := by
  unfold doD
  repeat' split
  · exact appendD_wf h _ _
  · exact cutD_wf h _ _
  · exact syncD_wf h
  · exact fuseD_wf h _ hn
  · exact crashD_wf h _ _
  · exact editD_wf h _ _ _
  · exact h
theorem doD_W (D : DkD) (a : ArgD) : (doD D a).1.W.length ≤ D.W.length + 1 := by
  have hb : ∀ E : DkD, (burnD E).1.W.length = E.W.length := fun E => by rw [burnD_W]
  unfold doD
  split
  · unfold appendD
    cases mayD a.log
    · exact Nat.le_succ _
    · cases D.dead
      · cases decide (16777216 < (rowD D.X (16 + a.log.toNat)).length + a.b.length)
        · show (burnD _).1.W.length ≤ _
          rw [hb]
          show (D.W ++ [_]).length ≤ _
          rw [List.length_append]; exact Nat.le_refl _
        · exact Nat.le_succ _
      · exact Nat.le_succ _
  · split
    · unfold cutD
      cases (mayD a.log && (decide (0 ≤ a.n) && decide (a.n ≤ ((rowD D.X (16 + a.log.toNat)).length : Int))))
      · exact Nat.le_succ _
      · cases D.dead
        · show (burnD _).1.W.length ≤ _
          rw [hb]
          show (D.W ++ [_]).length ≤ _
          rw [List.length_append]; exact Nat.le_refl _
        · exact Nat.le_succ _
    · split
      · unfold syncD
        cases D.dead
        · cases (burnD D).2 == 0
          · show (burnD D).1.W.length ≤ _
            rw [hb]; omega
          · show ((burnD D).1.W.drop _).length ≤ _
            rw [List.length_drop]; omega
        · exact Nat.le_succ _
      · split
        · unfold fuseD
          cases decide (a.n < 0) <;> exact Nat.le_succ _
        · split
          · exact Nat.zero_le _
          · split
            · unfold editD
              cases (mayD a.log && (decide (0 ≤ a.n) && decide (a.n < ((rowD D.X (16 + a.log.toNat)).length : Int))))
              · exact Nat.le_succ _
              · show (D.W.drop _).length ≤ _
                rw [List.length_drop]; omega
            · exact Nat.le_succ _
theorem DkPost.from {w w1 w' : World} {g : Nat} {m : DkM} {R : DkD × Int} (h : DkOk w g m) (b : Below w.heap.size w w1) {e : Ending} (p : DkPost w1 g m R e w') : DkPost w g m R e w' := by
  obtain ⟨he, m', h1, h2⟩ := p
  exact ⟨he, m', (DkTo.below h b).trans h1, h2⟩

end Go.Proofs.YthamlphebnhcpaaDoor
