/-
  Plain: what was put is read so; rows of blobs and their bytes.
-/
import Derived.Test.YtpdidobmfoapiaaWWr
namespace Go.Proofs.Ytpdidobmfoapiaa
open Go.RowKit

/-- What is left to read behind the first k parts. -/
def restFrom (L : List Prt) (k : Nat) : List UInt8 := (L.drop k).flatMap fun p => (partB p).1
theorem restFrom_step (L : List Prt) (k : Nat) (h : k < L.length) : restFrom L k = (partB L[k]).1 ++ restFrom L (k + 1) := by
  unfold restFrom; rw [List.drop_eq_getElem_cons h, List.flatMap_cons]
theorem restFrom_end (L : List Prt) : restFrom L L.length = [] := by simp [restFrom]
theorem restFrom_zero (L : List Prt) : restFrom L 0 = wantTo L L.length := by simp [restFrom, wantTo]
theorem goodTo_at (L : List Prt) (h : goodTo L L.length = true) (k : Nat) (hk : k < L.length) : (partB L[k]).2 = true := by
  unfold goodTo at h
  rw [List.take_length, List.all_eq_true] at h
  exact h _ (List.getElem_mem hk)

theorem cut_front (x r : List UInt8) (n : Int) (hn : n = (x.length : Int)) : cutPiece (some (x ++ r)) n true = x ∧ cutRest (some (x ++ r)) n true = some r := by
  subst hn
  have : cutOk (some (x ++ r)) (x.length : Int) true = true := by
    simp [cutOk, lenS]
    omega
  simp [cutPiece, cutRest, this]
theorem back_1 (p : Prt) (r : List UInt8) (hk : p.kind = 1) (hg : (partB p).2 = true) :
    ofLe (cutPiece (some ((partB p).1 ++ r)) p.size (may p.size)) = p.n ∧ cutRest (some ((partB p).1 ++ r)) p.size (may p.size) = some r := by
  simp only [partB, hk, if_true] at hg ⊢
  have hg' := hg
  simp only [numOk, Bool.and_eq_true, decide_eq_true_eq] at hg'
  obtain ⟨hm, hn⟩ := hg'
  have h0 : 0 ≤ p.size := by have := may_cases hm; omega
  have e : putL p.n p.size = leB p.n p.size.toNat := by simp [putL, hm]
  rw [e, hm]
  obtain ⟨h1, h2⟩ := cut_front (leB p.n p.size.toNat) r p.size (by rw [leB_length]; omega)
  rw [h1, h2]
  exact ⟨by rw [ofLe_leB, Nat.mod_eq_of_lt hn], rfl⟩
theorem back_2 (p : Prt) (r : List UInt8) (hk : p.kind = 2) :
    cutPiece (some ((partB p).1 ++ r)) (p.b.length : Int) (decide (0 ≤ (p.b.length : Int))) = p.b ∧ cutRest (some ((partB p).1 ++ r)) (p.b.length : Int) (decide (0 ≤ (p.b.length : Int))) = some r := by
  have e : (partB p).1 = p.b := by simp [partB, hk]
  have d : decide (0 ≤ (p.b.length : Int)) = true := decide_eq_true (by omega)
  rw [e, d]
  exact cut_front p.b r _ rfl
theorem back_3 (p : Prt) (r : List UInt8) (hk : p.kind = 3) (hb : p.b.length ≤ 20000) :
    blobPiece (some ((partB p).1 ++ r)) = p.b ∧ blobRest (some ((partB p).1 ++ r)) = some r := by
  have e : (partB p).1 = leB p.b.length 4 ++ p.b := by simp [partB, hk]
  rw [e, List.append_assoc]
  obtain ⟨h1, h2⟩ := cut_front (leB p.b.length 4) (p.b ++ r) 4 (by rw [leB_length]; rfl)
  have hN : blobN (some (leB p.b.length 4 ++ (p.b ++ r))) = p.b.length := by
    unfold blobN
    rw [h1, ofLe_leB]
    exact Nat.mod_eq_of_lt (by omega)
  have hM : blobM (some (leB p.b.length 4 ++ (p.b ++ r))) = true := by
    unfold blobM
    rw [hN]
    exact decide_eq_true (by omega)
  unfold blobPiece blobRest
  rw [hN, hM, h2]
  exact cut_front p.b r _ rfl
theorem back_4 (p : Prt) (r : List UInt8) (hk : p.kind = 4) (hg : (partB p).2 = true) :
    ((ofLe (cutPiece (some ((partB p).1 ++ r)) 2 true) : Nat) : Int) = p.size ∧ cutRest (some ((partB p).1 ++ r)) 2 true = some r := by
  by_cases hs : 0 ≤ p.size ∧ p.size ≤ 65535
  · have e : (partB p).1 = leB p.size.toNat 2 := by
      simp only [partB, hk]
      simp [hs, putL]
      intro h
      cases h
    rw [e]
    obtain ⟨h1, h2⟩ := cut_front (leB p.size.toNat 2) r 2 (by rw [leB_length]; rfl)
    rw [h1, h2, ofLe_leB, Nat.mod_eq_of_lt (by omega)]
    exact ⟨by omega, rfl⟩
  · simp only [partB, hk] at hg
    simp [hs] at hg
theorem back_5 (p : Prt) (r : List UInt8) (hk : p.kind = 5) (hh : p.h.length = 32) :
    over zero32 (cutPiece (some ((partB p).1 ++ r)) 32 true) 32 = p.h ∧ cutRest (some ((partB p).1 ++ r)) 32 true = some r := by
  have e : (partB p).1 = p.h := by simp [partB, hk]
  rw [e]
  obtain ⟨h1, h2⟩ := cut_front p.h r 32 (by rw [hh]; rfl)
  rw [h1, h2]
  exact ⟨over_all zero32 p.h (by rw [hh]; rfl), rfl⟩
theorem back_6 (p : Prt) (r : List UInt8) (h1 : ¬ p.kind = 1) (h2 : ¬ p.kind = 2) (h3 : ¬ p.kind = 3) (h4 : ¬ p.kind = 4) (h5 : ¬ p.kind = 5) : (partB p).1 ++ r = r := by
  simp [partB, h1, h2, h3, h4, h5]

/-- A part as a blob. -/
def asBlob (p : Prt) : Prt := ⟨3, 0, 0, p.A, p.c, p.b, zero32⟩
theorem partB_asBlob (p : Prt) : partB (asBlob p) = (leB p.b.length 4 ++ p.b, true) := by simp [partB, asBlob]
/-- A row of blobs as bytes. -/
def blobRow (l : List (List UInt8)) : List UInt8 := l.flatMap fun b => leB b.length 4 ++ b
theorem wantTo_blobs (L : List Prt) : wantTo (L.map asBlob) (L.map asBlob).length = blobRow (L.map (·.b)) := by
  unfold wantTo blobRow
  rw [List.take_length, List.flatMap_map, List.flatMap_map]
  congr 1
theorem goodTo_blobs (L : List Prt) : goodTo (L.map asBlob) (L.map asBlob).length = true := by
  unfold goodTo
  rw [List.take_length, List.all_eq_true]
  intro p hp
  obtain ⟨q, _, rfl⟩ := List.mem_map.1 hp
  rw [partB_asBlob]
theorem leB4_inj {a b : Nat} (ha : a < 4294967296) (hb : b < 4294967296) (h : leB a 4 = leB b 4) : a = b := by
  have h1 := ofLe_leB a 4
  have h2 := ofLe_leB b 4
  rw [h] at h1
  rw [h1] at h2
  have e : (256 : Nat) ^ 4 = 4294967296 := by decide
  rw [e, Nat.mod_eq_of_lt ha, Nat.mod_eq_of_lt hb] at h2
  exact h2
theorem blobRow_inj : ∀ (l m : List (List UInt8)), (∀ b ∈ l, b.length ≤ 20000) → (∀ b ∈ m, b.length ≤ 20000) → blobRow l = blobRow m → l = m := by
  intro l
  induction l with
  | nil =>
    intro m _ _ h
    cases m with
    | nil => rfl
    | cons b m =>
      have := congrArg List.length h
      simp [blobRow, leB_length] at this
      omega
  | cons a l ih =>
    intro m hl hm h
    cases m with
    | nil =>
      have := congrArg List.length h
      simp [blobRow, leB_length] at this
    | cons b m =>
      have ha := hl a (by simp)
      have hb := hm b (by simp)
      simp only [blobRow, List.flatMap_cons, List.append_assoc] at h
      have h1 := List.append_inj_left h (by rw [leB_length, leB_length])
      have h2 := List.append_inj_right h (by rw [leB_length, leB_length])
      have e := leB4_inj (by omega) (by omega) h1
      have h3 := List.append_inj_left h2 e
      have h4 := List.append_inj_right h2 e
      rw [h3, ih m (fun x hx => hl x (by simp [hx])) (fun x hx => hm x (by simp [hx])) h4]
theorem blobRow_beq (l m : List (List UInt8)) (hl : ∀ b ∈ l, b.length ≤ 20000) (hm : ∀ b ∈ m, b.length ≤ 20000) : (blobRow l == blobRow m) = (l == m) := by
  by_cases h : l = m
  · subst h; rw [beq_self_eq_true, beq_self_eq_true]
  · have : ¬ blobRow l = blobRow m := fun e => h (blobRow_inj l m hl hm e)
    rw [beq_eq_false_iff_ne.2 h, beq_eq_false_iff_ne.2 this]

end Go.Proofs.Ytpdidobmfoapiaa
