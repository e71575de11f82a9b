/-
  dag: the chapter's row (pure).
-/
import Derived.Test.YtndkjmmmneianaaDoorDgG
namespace Go.Proofs.YtndkjmmmneianaaDoor
open Go.RowKit

/-- Reckoned. -/
def ancC (G : Gr) : Nat → Nat → Nat → Bool
  | 0, _, _ => false
  | f + 1, a, b => (parG G b).any fun p => p == a || ancC G f a p
theorem ancC_iff {G : Gr} (o : OkG G) : ∀ (f a b : Nat), b < f → (ancC G f a b = true ↔ Anc G a b)
  | 0, _, _, h => absurd h (Nat.not_lt_zero _)
  | f + 1, a, b, h => by
    rw [ancC, List.any_eq_true, anc_step]
    constructor
    · rintro ⟨p, hp, h1⟩
      rw [Bool.or_eq_true, beq_iff_eq] at h1
      refine ⟨p, hp, h1.imp (fun e => e.symm) fun h2 => (ancC_iff o f a p (by have := o.par _ _ hp; omega)).1 h2⟩
    · rintro ⟨p, hp, h1⟩
      refine ⟨p, hp, ?_⟩
      rw [Bool.or_eq_true, beq_iff_eq]
      exact h1.imp (fun e => e.symm) fun h2 => (ancC_iff o f a p (by have := o.par _ _ hp; omega)).2 h2
theorem ancB_eq {G : Gr} (o : OkG G) {f a b : Nat} (h : b < f) : ancB G a b = ancC G f a b := by rw [Bool.eq_iff_iff, ancB_iff, ancC_iff o f a b h]
def kh (n : UInt8) : Hh := ⟨n :: List.replicate 31 0, by simp⟩
def G1 : Gr := addG (newG (kh 1)) (kh 2) [kh 1]
def G2 : Gr := addG G1 (kh 3) [kh 1]
def G3 : Gr := addG G2 (kh 4) [kh 2, kh 3]
theorem kn_e1 : addE (newG (kh 1)) (kh 2) [kh 1] = 0 := by decide +kernel
theorem kn_e2 : addE G1 (kh 3) [kh 1] = 0 := by decide +kernel
theorem kn_e3 : addE G2 (kh 4) [kh 2, kh 3] = 0 := by decide +kernel
theorem kn_ok : OkG G3 := addG_ok (addG_ok (addG_ok (newG_ok _) _ _) _ _) _ _
theorem kn_g3 : G3 = [⟨kh 1, []⟩, ⟨kh 2, [0]⟩, ⟨kh 3, [0]⟩, ⟨kh 4, [1, 2]⟩] := by decide +kernel
theorem kn_pl (n : Nat) (h : n < 4) : placeG G3 (kh (UInt8.ofNat (n + 1))) = some n := by
  rw [kn_g3]
  match n, h with
  | 0, _ => decide +kernel
  | 1, _ => decide +kernel
  | 2, _ => decide +kernel
  | 3, _ => decide +kernel
def antC (G : Gr) (f : Nat) (z : Bool) (n k : Nat) : Bool := z && !(k == n) && !ancC G f n k && !ancC G f k n
theorem kn_anti : srtH (((List.range G3.length).filter (antB G3 (placeG G3 (kh 2)).isSome (plE G3 (kh 2)))).map (idG G3)) = [kh 3] := by
  have h1 : placeG G3 (kh 2) = some 1 := kn_pl 1 (by omega)
  have hl : G3.length = 4 := by rw [kn_g3]; rfl
  have h2 : (List.range G3.length).filter (antB G3 (placeG G3 (kh 2)).isSome (plE G3 (kh 2))) = (List.range G3.length).filter (antC G3 4 true 1) := by
    refine List.filter_congr fun k hk => ?_
    rw [hl, List.mem_range] at hk
    unfold antB antC plE
    rw [h1]
    simp only [Option.isSome_some, Option.getD_some]
    rw [ancB_eq kn_ok (f := 4) (by omega), ancB_eq kn_ok (f := 4) (by omega)]
  have h3 : ((List.range G3.length).filter (antC G3 4 true 1)).map (idG G3) = [kh 3] := by rw [kn_g3]; decide +kernel
  rw [h2, h3]
  simp [srtH]
theorem kn_bef1 : befB G3 (kh 1) (kh 4) = true := by
  have h1 : placeG G3 (kh 1) = some 0 := kn_pl 0 (by omega)
  have h4 : placeG G3 (kh 4) = some 3 := kn_pl 3 (by omega)
  unfold befB
  rw [h1, h4]
  show ancB G3 0 3 = true
  rw [ancB_eq kn_ok (f := 4) (by omega), kn_g3]
  decide +kernel
theorem kn_bef2 : befB G3 (kh 2) (kh 3) = false := by
  have h1 : placeG G3 (kh 2) = some 1 := kn_pl 1 (by omega)
  have h4 : placeG G3 (kh 3) = some 2 := kn_pl 2 (by omega)
  unfold befB
  rw [h1, h4]
  show ancB G3 1 2 = false
  rw [ancB_eq kn_ok (f := 4) (by omega), kn_g3]
  decide +kernel
end Go.Proofs.YtndkjmmmneianaaDoor
