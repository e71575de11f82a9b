/-
  merkle, the document's: Leaf, Knot. · merkle, the document's: Top. · merkle, the document's: left, Root. · merkle, the document's: Root.
-/
import Derived.Test.YtpfjkjogljilnaaDoorPBbQ8
import Derived.Test.YtpfjkjogljilnaaDoorMkG
namespace Go.Proofs.YtpfjkjogljilnaaDoor
open Go.RowKit

section
variable {P : Program} {w : World}
theorem step_append_sees' {ops : Array Oper} {o : Oper} {a : Act} {K : Act → World → Prop} {Q : Exit → Act → World → Prop} {E : Prop} (hgd : o.guard = none) (s x : Operand) (t : TypeId)
    (ho : o.op = .call { callee := .builtin .append, args := #[s, x], argTypes := #[t, t] })
    (base : Nat) (e : TypeId) (i : TypeInfo) (z : Value) (ht : P.underlying t = some (.slice e)) (hi : P.info? e = some i) (hz : i.zero = some z)
    (hsize : i.size = 1) (hby : i.bytes = 1) (hzs : z.cells.size = 1)
    (v : Value) (n : Nat) (xs : List Value) (hs : a.eval s = v) (hown : w.ownsRow base e 1 v n xs)
    (B : Nat) (A : Option Addr) (m c : Nat) (l : List UInt8) (hx : a.eval x = .slice A m c) (hm : m = l.length) (hse : Sees w B A l) (hbytes : n + m ≤ 140737488355328) (hbase : base ≤ w.heap.size)
    (h : ∀ v' w', w'.ownsRow base e 1 v' (n + m) (xs ++ By l) → w.grownBy w' v.ownBlock → (v'.ownBlock = v.ownBlock ∨ v'.ownBlock = some w.heap.size) → K (a.put o.dst v') w') :
    if Region.wanted o (yielded ops a.tmps) = true then Oper.wp P o a w K Q else E := by
  have hw : Region.wanted o (yielded ops a.tmps) = true := by simp [Region.wanted, hgd]
  rw [if_pos hw]
  obtain ⟨v', w', hr, h2, h3, h4⟩ := run_append_sees (P := P) base t o.type e i z ht hi hz hsize hby hzs v n xs hown B A m c l hm hse hbytes hbase
  unfold Oper.wp execOp
  simp only [ho, resolve, invoke, builtin, Sem.run_bind, Sem.run_pure, Result.andThen_ok, List.map_toArray, List.map_cons, List.map_nil, hs, hx, hr]
  exact h v' w' h2 h3 h4
end

end Go.Proofs.YtpfjkjogljilnaaDoor
namespace Go.Proofs.YtpfjkjogljilnaaDoor
open Go.RowKit

theorem byte_of' (n k : Nat) : (n : Int) / 2 ^ (8 * k) % 256 = ((UInt8.ofNat (n / 256 ^ k)).toNat : Int) := by
  have e2 : (2 : Int) ^ (8 * k) = ((256 ^ k : Nat) : Int) := by
    have : (256 : Nat) ^ k = 2 ^ (8 * k) := by rw [Nat.pow_mul]
    rw [this]; simp
  rw [e2, ← Int.natCast_ediv, UInt8.toNat_ofNat']
  omega

end Go.Proofs.YtpfjkjogljilnaaDoor
namespace Go.Proofs.YtpfjkjogljilnaaDoor
open Go.RowKit

theorem Hs_split (hs : List (List UInt8)) (h : All32 hs) (k : Nat) (hk : k ≤ hs.length) : Hs (hs.take k) = (Hs hs).take (k * 32) ∧ Hs (hs.drop k) = (Hs hs).drop (k * 32) := by
  have h1 : All32 (hs.take k) := fun x hx => h x (List.mem_of_mem_take hx)
  have e : Hs hs = Hs (hs.take k) ++ Hs (hs.drop k) := by
    rw [Hs, Hs, Hs, ← By_append, ← List.flatten_append, List.take_append_drop]
  have hl : (Hs (hs.take k)).length = k * 32 := by rw [Hs_length h1, List.length_take, Nat.min_eq_left hk]
  rw [e, ← hl, List.take_left, List.drop_left]
  exact ⟨rfl, rfl⟩
theorem slice_lowH {w : World} {B : Nat} {A : Option Addr} {hs : List (List UInt8)} {c : Nat} (h : SeesV w B A (Hs hs)) (h32 : All32 hs) (hc : hs.length ≤ c) (k : Nat) (hk : k ≤ hs.length) :
    ∃ A1, SeesV w B A1 (Hs (hs.take k)) ∧ ∀ wq, (Instr.slice 22 (.slice A hs.length c) none (some (.int .i64 (k : Int))) none).run Tryd.prog wq = .ok (.slice A1 k c) wq := by
  obtain ⟨i0, hi, hz0, hz1, hz2⟩ := info_parts Tryd.hinfo
  refine ⟨if c = 0 then A else A.map (·.add (0 * 32)), ?_, fun wq => ?_⟩
  · rw [(Hs_split hs h32 k hk).1]
    split
    · exact h.take _
    · have := (h.drop 0).take (k * 32)
      simpa using this
  · simp [Instr.slice, run_underlying Tryd.underlying22, Instr.sliceBounds, run_sliceBound wq .i64 (k : Int) c _ (by omega) (by omega), sizeOf, typeInfo, hi, hz1]
theorem slice_highH {w : World} {B : Nat} {A : Option Addr} {hs : List (List UInt8)} {c : Nat} (h : SeesV w B A (Hs hs)) (h32 : All32 hs) (hc : hs.length ≤ c) (k : Nat) (hk : k ≤ hs.length) :
    ∃ A1, SeesV w B A1 (Hs (hs.drop k)) ∧ ∀ wq, (Instr.slice 22 (.slice A hs.length c) (some (.int .i64 (k : Int))) none none).run Tryd.prog wq = .ok (.slice A1 (hs.length - k) (c - k)) wq := by
  obtain ⟨i0, hi, hz0, hz1, hz2⟩ := info_parts Tryd.hinfo
  refine ⟨if c = k then A else A.map (·.add (k * 32)), ?_, fun wq => ?_⟩
  · rw [(Hs_split hs h32 k hk).2]
    split
    · rw [List.drop_eq_nil_of_le (by rw [Hs_length h32]; omega)]; exact .inl rfl
    · exact h.drop _
  · simp [Instr.slice, run_underlying Tryd.underlying22, Instr.sliceBounds, run_sliceBound wq .i64 (k : Int) hs.length _ (by omega) (by omega), sizeOf, typeInfo, hi, hz1]
theorem leaves_32 (ids : List (List UInt8)) : All32 (ids.map leafB) := by
  intro z hz
  obtain ⟨q, _, rfl⟩ := List.mem_map.1 hz
  exact leafB_len q
/-- What is left of the rows above some. -/
def leftL (ids : List (List UInt8)) : List UInt8 := topH knotB (ids.map leafB)
theorem leftL_len {ids : List (List UInt8)} (h : 1 ≤ ids.length) : (leftL ids).length = 32 := by
  apply topH_len _ _ (leaves_32 ids)
  intro e
  have := congrArg List.length e
  simp at this
  rw [this] at h; simp at h
theorem leftL_one {id : List UInt8} : leftL [id] = leafB id := by rw [leftL, topH_one knotB (by simp)]; rfl
theorem leftL_sole {ids : List (List UInt8)} (h : ids.length = 1) {k : 0 < ids.length} : leafB ids[0] = leftL ids := by
  obtain ⟨y, rfl⟩ := List.length_eq_one_iff.mp h
  rw [leftL_one]; rfl
theorem leftL_two {ids : List (List UInt8)} (h : ¬ ids.length ≤ 1) : leftL ids = knotB (leftL (ids.take (half ids.length))) (leftL (ids.drop (half ids.length))) := by
  rw [leftL, topH_two knotB (by simpa using h)]
  simp only [List.length_map, ← List.map_take, ← List.map_drop, leftL]

end Go.Proofs.YtpfjkjogljilnaaDoor
namespace Go.Proofs.YtpfjkjogljilnaaDoor
open Go.RowKit

theorem Sees.blk {w : World} {g : Nat} {t : TypeId} {l : List UInt8} (hb : Blk w g t (By l).toArray) : Sees w w.heap.size (some ⟨g, 0, none⟩) l := by
  refine .inr ⟨g, 0, rfl, hb.lt, fun i hi => ?_⟩
  rw [Nat.zero_add, hb.cell i]
  simp [By, hi]
theorem rootL_nil : shaB (tagB nmRoot (le8 0 ++ [])) = rootL [] := by
  rw [rootL, rootB, List.map_nil, topR_short (by simp)]
  simp only [List.length_nil, List.flatten_nil]
theorem rootL_some {ids : List (List UInt8)} (h : 1 ≤ ids.length) : shaB (tagB nmRoot (le8 ids.length ++ leftL ids)) = rootL ids := by
  have hne : ids.map leafB ≠ [] := by
    intro e
    have := congrArg List.length e
    simp at this
    rw [this] at h; simp at h
  rw [rootL, rootB, topR_eq knotB _ hne, leftL]
  simp

end Go.Proofs.YtpfjkjogljilnaaDoor
