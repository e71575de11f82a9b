/-
  block: the program's readTxs.
-/
import Derived.Test.YtjcbihdhkaiidaaBkB
import Derived.Test.YtjcbihdhkaiidaaBk2
import Derived.Test.YtjcbihdhkaiidaaPBlQ7
namespace Go.Proofs.Ytjcbihdhkaiidaa
open Go.RowKit

/-- Reading so many transactions: none, where one of them is none. -/
def readTs : Nat → Option (List UInt8) → Option (List TxP) × Option (List UInt8)
  | 0, s => (some [], s)
  | k + 1, s => match readTs k s with
    | (none, r) => (none, r)
    | (some l, r) => if ofB (blobPiece r) then (some (l ++ [ofP (blobPiece r)]), blobRest r) else (none, blobRest r)
theorem readTs_good {k : Nat} {s r : Option (List UInt8)} {l : List TxP} (h : readTs k s = (some l, r)) (hg : ofB (blobPiece r) = true) : readTs (k + 1) s = (some (l ++ [ofP (blobPiece r)]), blobRest r) := by
  rw [readTs, h]; simp [hg]
theorem readTs_bad {k : Nat} {s r : Option (List UInt8)} {l : List TxP} (h : readTs k s = (some l, r)) (hg : ofB (blobPiece r) = false) : ∀ n, k < n → (readTs n s).1 = none := by
  intro n hn
  induction n with
  | zero => omega
  | succ n ih =>
    by_cases hkn : k = n
    · subst hkn
      rw [readTs, h]; simp [hg]
    · have h1 := ih (by omega)
      rw [readTs]
      cases hq : readTs n s with
      | mk a c =>
        rw [hq] at h1
        have h2 : a = none := h1
        subst h2
        rfl
theorem blobRest_le (s : Option (List UInt8)) : lenS (blobRest s) ≤ lenS s := Nat.le_trans (lenS_cutRest _ _ _) (lenS_cutRest _ _ _)
theorem blobPiece_le (s : Option (List UInt8)) : (blobPiece s).length ≤ lenS s := Nat.le_trans (cutPiece_lt _ _ _) (lenS_cutRest _ _ _)
theorem readTs_le (k : Nat) (s : Option (List UInt8)) : lenS (readTs k s).2 ≤ lenS s := by
  induction k with
  | zero => exact Nat.le_refl _
  | succ k ih =>
    rw [readTs]
    cases hq : readTs k s with
    | mk a r =>
      rw [hq] at ih
      have ih2 : lenS r ≤ lenS s := ih
      cases a with
      | none => exact ih2
      | some l =>
        cases hg : ofB (blobPiece r) with
        | true => simp only [hg, if_true]; exact Nat.le_trans (blobRest_le r) ih2
        | false => simp only [hg, Bool.false_eq_true, if_false]; exact Nat.le_trans (blobRest_le r) ih2
def rtN (s : Option (List UInt8)) : Nat := min (ofLe (cutPiece s 2 true)) 201
def rtS (s : Option (List UInt8)) : Option (List TxP) × Option (List UInt8) := readTs (rtN s) (cutRest s 2 true)
/-- The blocks that an own row lies in, and all that are older. -/
def Older (B : Nat) (A : Option Addr) : Nat → Prop := fun j => j < B ∨ A.map (·.block) = some j
theorem txsC_snoc (l : List TxR) (t : TxR) : txsC (l ++ [t]) = txsC l ++ txC t := by simp [txsC]
theorem txsC_len (l : List TxR) : (txsC l).length = l.length * 3 := by
  induction l with
  | nil => rfl
  | cons t r ih =>
    have e : txsC (t :: r) = txC t ++ txsC r := by simp [txsC]
    rw [e, List.length_append, ih, txC_3, List.length_cons]; omega

end Go.Proofs.Ytjcbihdhkaiidaa
