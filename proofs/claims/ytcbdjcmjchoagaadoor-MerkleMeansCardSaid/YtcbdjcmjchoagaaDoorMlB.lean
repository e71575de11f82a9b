/-
  A path that comes in, opened.
-/
import Derived.Test.YtcbdjcmjchoagaaDoorMkR
import Derived.Test.YtcbdjcmjchoagaaDoorMlA
namespace Go.Proofs.YtcbdjcmjchoagaaDoor
open Go.ChangeShapes Go.WideShapes Go.ChangeAt Go.RowKit Go.Deep

theorem Tryd.cellsPath : Tryd.prog.cellsOf 25 = 3 := by kernel_rfl
theorem Tryd.cellsInt : Tryd.prog.cellsOf 3 = 1 := by kernel_rfl
theorem Tryd.cellsHs : Tryd.prog.cellsOf 22 = 1 := by kernel_rfl
theorem agg_of_cells {v : Value} {l : List Value} (h : v.cells.toList = l) (hl : l.length ≠ 1) : v = .agg l.toArray := by
  subst h
  cases v <;> simp_all [Value.cells]
theorem agg_of_path {v : Value} {x y z : Value} (h : v.cells.toList = [x, y, z]) : v = .agg #[x, y, z] := agg_of_cells h (by simp)
section
variable {H : Type} {enc : TypeId × Value → H} {w : World} {base : Nat} {held : Bool}
/-- A path that was read. -/
theorem read_path {fuel : Nat} {cs : List Value} {x : DataW H × List MemPlace} (h : DataW.trod enc Tryd.prog w base (fun _ => true) held fuel 25 cs = some x) :
    ∃ V : PathR, cs = [.int .i64 V.n, .int .i64 V.c, .slice V.A V.hs.length V.d] ∧ PathOk w V := by
  obtain ⟨xs, n, _, _, hlen, hxl, hf⟩ := DataW.trod_struct Tryd.underlying25 h
  rw [Tryd.cellsPath] at hlen
  have g0 : DataW.trod enc Tryd.prog w base (fun _ => true) held n 3 ((cs.drop 0).take (Tryd.prog.cellsOf 3)) = xs[0]? := hf 0 _ rfl
  have g1 : DataW.trod enc Tryd.prog w base (fun _ => true) held n 3 ((cs.drop 1).take (Tryd.prog.cellsOf 3)) = xs[1]? := hf 1 _ rfl
  have g2 : DataW.trod enc Tryd.prog w base (fun _ => true) held n 22 ((cs.drop 2).take (Tryd.prog.cellsOf 22)) = xs[2]? := hf 2 _ rfl
  have hx : xs.length = 3 := hxl
  rw [Tryd.cellsInt] at g0 g1
  rw [Tryd.cellsHs] at g2
  rw [take_drop_one (by omega), List.getElem?_eq_getElem (by omega)] at g0 g1 g2
  obtain ⟨k, e0, _, w0⟩ := DataW.trod_int Tryd.underlying3 g0
  obtain ⟨s, e1, _, w1⟩ := DataW.trod_int Tryd.underlying3 g1
  obtain ⟨A, c, L, e2, ⟨hs, h32⟩, hl, hc⟩ := read_hashes g2
  refine ⟨⟨k, s, A, c, L⟩, ?_, hc, h32, hs⟩
  match cs, hlen with
  | [c0, c1, c2], _ =>
    simp at e0 e1 e2
    simp [e0, e1, e2]
end
end Go.Proofs.YtcbdjcmjchoagaaDoor
