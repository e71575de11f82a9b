/-
  disk: a copy.
-/
import Derived.Test.YthamlphebnhcpaaDoorDkD
namespace Go.Proofs.YthamlphebnhcpaaDoor
open Go.RowKit

section
variable {P : Program} {w : World}
theorem step_store_partD {ops : Array Oper} {o : Oper} {a : Act} {K : Act → World → Prop} {Q : Exit → Act → World → Prop} {E : Prop} (hgd : o.guard = none) (ty : TypeId) (x y : Operand) (ho : o.op = .store ty x y)
    (g off : Nat) (t : TypeId) (old cells new : Array Value) (v : Value) (hx : a.eval x = .pointer (some ⟨g, off, none⟩)) (hy : a.eval y = v) (hv : v.cells = cells) (hg : Blk w g t old) (hs : off + cells.size ≤ old.size)
    (hi : (P.info? ty).map (·.size) = some cells.size) (h1 : ∀ u ∈ cells.toList, u.oneCell' = true) (hn : (old.toList.take off ++ cells.toList ++ old.toList.drop (off + cells.size)).toArray = new)
    (h : ∀ w', Blk w' g t new → Keeps (· = g) w w' → w'.heap.size = w.heap.size → K (a.put o.dst undef) w') :
    if Region.wanted o (yielded ops a.tmps) = true then Oper.wp P o a w K Q else E := by
  have hw : Region.wanted o (yielded ops a.tmps) = true := by simp [Region.wanted, hgd]
  rw [if_pos hw]
  obtain ⟨w', hr, h2, h3, h4⟩ := run_storePartD (P := P) g off t ty old cells v hv hg hs hi h1
  unfold Oper.wp execOp
  simp only [ho, hx, hy, Instr.storeAt, Instr.sureAddr, Sem.run_bind, Sem.run_pure, Result.andThen_ok, hr]
  exact h w' (hn ▸ h2) h3 h4
end
/-- What Clone of steps answers. -/
def SClone (w : World) (W : List StM) (e : Ending) (w' : World) : Prop := ∃ A c, e = .returned (.slice A W.length c) ∧ w'.ownsRow 0 86 2 (.slice A W.length c) W.length (stsC W) ∧ (∀ j, A.map (·.block) = some j → w.heap.size ≤ j) ∧ Below w.heap.size w w'
theorem Tryd.dksize : (Tryd.prog.info? 54).map (·.size) = some 36 := by kernel_rfl
theorem dkC_one (m : DkM) : ∀ u ∈ (dkC m).toArray.toList, u.oneCell' = true := by
  intro u hu
  rw [List.toList_toArray] at hu
  simp only [dkC, List.mem_cons, List.mem_append, List.mem_map, List.not_mem_nil, or_false] at hu
  rcases hu with rfl | ⟨r, _, rfl⟩ | rfl | rfl | rfl <;> rfl
theorem dkC_set1 {m : DkM} {rs : List RowM} (n : m.rows.length = 32) (hr : rs.length = 16) : ((dkC m).toArray.toList.take 1 ++ (rs.map RowM.v).toArray.toList ++ (dkC m).toArray.toList.drop (1 + (rs.map RowM.v).toArray.size)).toArray = (dkC { m with rows := rs ++ m.rows.drop 16 }).toArray := by
  have h1 : (m.rows.take 16).length = 16 := by rw [List.length_take, n]; rfl
  have e3 : m.rows.map RowM.v = (m.rows.take 16).map RowM.v ++ (m.rows.drop 16).map RowM.v := by rw [← List.map_append, List.take_append_drop]
  have e1 : dkC m = [.bool true] ++ ((m.rows.take 16).map RowM.v ++ ((m.rows.drop 16).map RowM.v ++ [.slice m.A m.W.length m.c, .int .i64 m.fuse, .bool m.dead])) := by
    unfold dkC
    rw [e3, List.append_assoc]
    rfl
  have e2 : dkC { m with rows := rs ++ m.rows.drop 16 } = [.bool true] ++ (rs.map RowM.v ++ ((m.rows.drop 16).map RowM.v ++ [.slice m.A m.W.length m.c, .int .i64 m.fuse, .bool m.dead])) := by
    unfold dkC
    rw [List.map_append, List.append_assoc]
    rfl
  congr 1
  rw [e2, List.size_toArray]
  show (dkC m).take 1 ++ rs.map RowM.v ++ (dkC m).drop (1 + (rs.map RowM.v).length) = _
  rw [e1]
  exact partD _ _ _ _ (by rw [List.length_map, List.length_map, h1, hr]) 1 rfl
/-- A copy. -/
structure CopyTo (w : World) (m : DkM) (w' : World) (g' : Nat) (m' : DkM) : Prop where
  ok : DkOk w' g' m'
  d : m'.d = m.d
  W : m'.W = m.W
  f : ∀ j, foot g' m' j → w.heap.size ≤ j
  v : Below w.heap.size w w'
def CopyPost (w : World) (m : DkM) (e : Ending) (w' : World) : Prop := ∃ g' m', e = .returned (ptrD g') ∧ CopyTo w m w' g' m'
theorem CopyTo.of {w w1 w2 w3 w' : World} {g cb : Nat} {m : DkM} {r1 r2 : List RowM} {A : Option Addr} {c : Nat} (h : DkOk w g m) (hcb : w.heap.size ≤ cb) (hb1 : Below w.heap.size w w1) (hcl : cb < w1.heap.size) (c1 : ClonedP w1 ((m.d.X.drop 0).take 16) w2 r1) (c2 : ClonedP w2 ((m.d.X.drop 16).take 16) w3 r2)
    (hb : Blk w' cb 54 (dkC ⟨r1 ++ r2, A, c, m.W, m.fuse, m.dead⟩).toArray) (hK : Keeps (fun j => j = cb) w3 w') (ho : w'.ownsRow 0 86 2 (.slice A m.W.length c) m.W.length (stsC m.W)) (hA : ∀ j, A.map (·.block) = some j → w3.heap.size ≤ j) : CopyTo w m w' cb ⟨r1 ++ r2, A, c, m.W, m.fuse, m.dead⟩ := by
  have b3 : Below w.heap.size w w3 := nxTo (nxTo hb1 c1.v) c2.v
  have bw : Below w.heap.size w w' := b3.trans (hK.below b3.size (fun j hj => by omega))
  have n1 : ∀ r ∈ r1, ∀ j, r.bk = some j → w1.heap.size ≤ j ∧ j < w2.heap.size := c1.f
  have n2 : ∀ r ∈ r2, ∀ j, r.bk = some j → w2.heap.size ≤ j ∧ j < w3.heap.size := c2.f
  have s12 := c1.v.size
  have s01 := hb1.size
  have s23 := c2.v.size
  have hft : ∀ j, foot cb ⟨r1 ++ r2, A, c, m.W, m.fuse, m.dead⟩ j → w.heap.size ≤ j := by
    rintro j (rfl | hj | ⟨s, hs, hj⟩)
    · exact hcb
    · have := hA j hj; omega
    · rcases List.mem_append.1 hs with hs | hs
      · have := (n1 s hs j hj).1; omega
      · have := (n2 s hs j hj).1; omega
  refine ⟨⟨hb, by show (r1 ++ r2).length = _; rw [List.length_append, c1.n, c2.n], fun r hr => ?_, fun i j x hi hj h1 h2 => ?_, ho, fun s hs => (h.s s hs).keep (Keeps.of_below bw (fun _ => False)) (fun _ _ h => h), fun j hj => ⟨fun hf => ?_, ?_⟩⟩, ?_, rfl, hft, bw⟩
  · rcases List.mem_append.1 hr with hr | hr
    · exact RowM.keep (RowM.keep (c1.o r hr) (Keeps.of_below c2.v (fun _ => False)) (fun _ _ h => h)) hK (fun j e e2 => by have := (n1 r hr j e).1; omega)
    · exact RowM.keep (c2.o r hr) hK (fun j e e2 => by have := (n2 r hr j e).1; omega)
  · have hi' : i < (r1 ++ r2).length := hi
    have hj' : j < (r1 ++ r2).length := hj
    have h1' : (r1 ++ r2)[i].bk = some x := h1
    have h2' : (r1 ++ r2)[j].bk = some x := h2
    rw [List.getElem_append] at h1' h2'
    split at h1'
    · have h5 := (n1 _ (List.getElem_mem _) x h1').2
      split at h2'
      · exact c1.q _ _ x _ _ h1' h2'
      · have := (n2 _ (List.getElem_mem _) x h2').1
        omega
    · have h5 := (n2 _ (List.getElem_mem _) x h1').1
      split at h2'
      · have := (n1 _ (List.getElem_mem _) x h2').2
        omega
      · have := c2.q _ _ x _ _ h1' h2'
        omega
  · have h1 := (h.f j hj).2
    have h2 := hft j hf
    omega
  · exact Nat.lt_of_lt_of_le (h.f j hj).2 bw.size
  · have e1 := c1.l
    have e2 := c2.l
    have hn : m.d.X.length = 32 := by show (m.rows.map _).length = _; rw [List.length_map]; exact h.n
    have e3 : (m.d.X.drop 16).take 16 = m.d.X.drop 16 := List.take_of_length_le (by rw [List.length_drop]; omega)
    rw [List.drop_zero] at e1
    rw [e3] at e2
    show DkD.mk ((r1 ++ r2).map (·.l)) _ _ _ = _
    rw [List.map_append, e1, e2, List.take_append_drop]
    rfl

end Go.Proofs.YthamlphebnhcpaaDoor
