/-
  The readers of package wire: what each call does, the second part. · The readers of package wire: numbers, bytes, blobs, counts, hashes. · The readers of package wire: hashes.
-/
import Derived.Test.YtjcbihdhkaiidaaRd
import Derived.ScopeJumps
import Derived.Test.YtjcbihdhkaiidaaPBlQ0
import Derived.Test.YtjcbihdhkaiidaaPBlQ1
import Derived.Deep.RegionWith
namespace Go.Proofs.Ytjcbihdhkaiidaa
open Go.RowKit

/-- What holds where cut comes to its label. -/
def AtPast (w : World) (g : Nat) (a' : Act) (w' : World) : Prop := w' = w ∧ ∃ u1 u2 u3 u4 u5 u6 u7 u8 u9 u10 u11 u12 u13 u14 u15 u16 u17 u18 u19 u20 u21 u22 u23 u24 u25 u26 u27 u28 u29 u30 u31 u32 u33 u34 u35 u36 u37 u38 u39 u40 u41 u42 u43 u44 u45 u46 u47 u48 u49 : Value, a' = { tmps := #[.pointer (some ⟨g, 0, none⟩), u1, u2, u3, u4, u5, u6, u7, u8, u9, u10, u11, u12, u13, u14, u15, u16, u17, u18, u19, u20, u21, u22, u23, u24, u25, u26, u27, u28, u29, u30, u31, u32, u33, u34, u35, u36, u37, u38, u39, u40, u41, u42, u43, u44, u45, u46, u47, u48, u49], defers := [] }

/-- A reader that is not there: nil, or a zero one. -/
def NoRd (w : World) (p : Value) : Prop := p = .pointer none ∨ ∃ g, p = .pointer (some ⟨g, 0, none⟩) ∧ w.cell? ⟨g, 1, none⟩ = some (.bool false)
/-- What End answers. -/
def rend (st : Option (List UInt8)) : Int := if st = some [] then 0 else 4
end Go.Proofs.Ytjcbihdhkaiidaa
namespace Go.Proofs.Ytjcbihdhkaiidaa
open Go.RowKit

theorem cutPiece_le (st : Option (List UInt8)) (n : Int) (m : Bool) : (cutPiece st n m).length ≤ n.toNat := by
  unfold cutPiece
  split
  · exact List.length_take_le _ _
  · simp

theorem pow256 (k : Nat) : 256 ^ k = 2 ^ (8 * k) := by rw [Nat.pow_mul]
theorem or_add (N b k : Nat) (hN : N < 256 ^ k) : N ||| b * 256 ^ k = N + 256 ^ k * b := by
  rw [pow256] at hN ⊢
  rw [← Nat.shiftLeft_eq, Nat.or_comm, ← Nat.shiftLeft_add_eq_or_of_lt hN, Nat.shiftLeft_eq, Nat.mul_comm, Nat.add_comm]
/-- One round of Number's loop. -/
theorem num_step (N b k : Nat) (hN : N < 256 ^ k) (hb : b < 256) (hk : k < 8) :
    bits .or .u64 (N : Int) (IntKind.u64.wrap ((b : Int) * 2 ^ (8 * k))) = ((N + 256 ^ k * b : Nat) : Int) := by
  have h8 : 256 ^ (k + 1) ≤ 256 ^ 8 := Nat.pow_le_pow_right (by omega) (by omega)
  have h64 : (256 : Nat) ^ 8 = 18446744073709551616 := by decide
  have hbk : b * 256 ^ k < 256 ^ (k + 1) := by
    rw [Nat.pow_succ, Nat.mul_comm (256 ^ k)]
    exact Nat.mul_lt_mul_of_pos_right hb (Nat.pow_pos (by omega))
  have hkk : 256 ^ k ≤ 256 ^ (k + 1) := Nat.pow_le_pow_right (by omega) (by omega)
  have e2 : ((b : Int) * 2 ^ (8 * k)) = ((b * 256 ^ k : Nat) : Int) := by rw [pow256]; simp
  rw [e2]
  generalize hm : b * 256 ^ k = m at *
  have e3 : IntKind.u64.wrap (m : Int) = (m : Int) := by rw [IntKind.wrap_u64]; omega
  rw [e3, u64_or_nat N m (by omega) (by omega), ← hm, or_add N b k hN]
theorem ofLe_snoc (p : List UInt8) (k : Nat) (h : k < p.length) : ofLe (p.take (k + 1)) = ofLe (p.take k) + 256 ^ k * p[k].toNat := by
  rw [List.take_succ_eq_append_getElem h, ofLe_append, List.length_take, Nat.min_eq_left (by omega)]

theorem cutPiece_lt (st : Option (List UInt8)) (n : Int) (m : Bool) : (cutPiece st n m).length ≤ lenS st := by
  unfold cutPiece lenS
  split
  · exact List.length_take_le' _ _
  · simp

/-- A blob's length, and whether it may be. -/
def blobN (st : Option (List UInt8)) : Nat := ofLe (cutPiece st 4 true)
def blobM (st : Option (List UInt8)) : Bool := decide (blobN st ≤ 16777216)
def blobPiece (st : Option (List UInt8)) : List UInt8 := cutPiece (cutRest st 4 true) (blobN st) (blobM st)
def blobRest (st : Option (List UInt8)) : Option (List UInt8) := cutRest (cutRest st 4 true) (blobN st) (blobM st)

theorem lenS_cutRest (st : Option (List UInt8)) (n : Int) (m : Bool) : lenS (cutRest st n m) ≤ lenS st := by
  unfold cutRest lenS
  split
  · simp
  · simp

end Go.Proofs.Ytjcbihdhkaiidaa
namespace Go.Proofs.Ytjcbihdhkaiidaa
open Go.RowKit

theorem hsize_over (p : List UInt8) : (Try.prog.info? 24).map (·.size) = some (By (over zero32 p 32)).toArray.size := by
  rw [Try.hsize, List.size_toArray, By_length]
  exact congrArg some (over_length zero32 p).symm
theorem size_over (p : List UInt8) : (By zero32).toArray.size = (By (over zero32 p 32)).toArray.size := by
  rw [List.size_toArray, By_length, List.size_toArray, By_length]
  exact (over_length zero32 p).symm
/-- The second of two new blocks. -/
theorem Blk.second (w : World) (o : Obj) (t : TypeId) (cs : Array Value) : Blk ((w.alloc o).alloc (.cells cs t)).drew (w.heap.size + 1) t cs := by
  have := heap_alloc_new (w.alloc o) (.cells cs t)
  rw [World.size_alloc] at this
  exact this
/-- The first of two new blocks. -/
theorem Blk.first (w : World) (o : Obj) (t : TypeId) (cs : Array Value) : Blk ((w.alloc (.cells cs t)).alloc o).drew w.heap.size t cs := by
  have h1 : Blk (w.alloc (.cells cs t)) w.heap.size t cs := heap_alloc_new w _
  exact h1.alloc o
theorem below_two (w : World) (o o' : Obj) : Below w.heap.size w ((w.alloc o).alloc o').drew := (((Below.refl _ _).alloc (Nat.le_refl _) _).alloc (by simp) _).drew

end Go.Proofs.Ytjcbihdhkaiidaa
