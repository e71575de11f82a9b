/-
  tx: a transaction's bytes, plainly. · tx: Bytes.
-/
import Derived.Test.YtjcbihdhkaiidaaPBlQ4
import Derived.Test.YtjcbihdhkaiidaaTp
import Derived.Deep.RegionHeldLaw
import Derived.Deep.RegionHeld3
namespace Go.Proofs.Ytjcbihdhkaiidaa
open Go.RowKit

def inB (i : InR) : List UInt8 := i.id ++ (leB i.n 4 ++ (leB i.wit.length 4 ++ i.wit))
def outB (o : OutR) : List UInt8 := leB o.amt 8 ++ o.lock
def insB (l : List InR) : List UInt8 := (l.map inB).flatten
def outsB (l : List OutR) : List UInt8 := (l.map outB).flatten
/-- A transaction's bytes. -/
def packT (t : TxR) : List UInt8 := leB t.ins.length 2 ++ (insB t.ins ++ (leB t.outs.length 2 ++ (outsB t.outs ++ leB t.nonce 8)))
theorem putN_ok {l : List UInt8} {N : Nat} {Z : Nat} (hm : may (Z : Int) = true) (h : N < 256 ^ Z) : putN (some l) N (Z : Int) = some (l ++ leB N Z) := by
  have e : numOk N (Z : Int) = true := by unfold numOk; rw [hm, Int.toNat_natCast, decide_eq_true h]; rfl
  rw [putN, if_pos e, Int.toNat_natCast]; rfl
theorem putIn {l : List UInt8} {i : InR} (hn : i.n < 4294967296) (hw : i.wit.length ≤ 256) : putBlob (putN (putB (some l) i.id) i.n 4) i.wit = some (l ++ inB i) := by
  have e1 : putN (putB (some l) i.id) i.n 4 = some ((l ++ i.id) ++ leB i.n 4) := putN_ok (Z := 4) rfl (by omega)
  have e2 : putN (some ((l ++ i.id) ++ leB i.n 4)) i.wit.length 4 = some (((l ++ i.id) ++ leB i.n 4) ++ leB i.wit.length 4) := putN_ok (Z := 4) rfl (by omega)
  rw [e1, putBlob, if_pos (by omega), e2]
  simp [putB, inB]
theorem putOut {l : List UInt8} {o : OutR} (hn : o.amt < 18446744073709551616) : putB (putN (some l) o.amt 8) o.lock = some (l ++ outB o) := by
  have e1 : putN (some l) o.amt 8 = some (l ++ leB o.amt 8) := putN_ok (Z := 8) rfl (by omega)
  rw [e1]
  simp [putB, outB]
theorem putCnt {l : List UInt8} {n : Nat} (hn : n ≤ 64) : putCount (some l) (n : Int) = some (l ++ leB n 2) := by
  have e1 : putN (some l) n 2 = some (l ++ leB n 2) := putN_ok (Z := 2) rfl (by omega)
  rw [putCount, if_pos (by omega), Int.toNat_natCast, e1]
theorem insB_next {l : List InR} {k : Nat} (h : k < l.length) : insB (l.take (k + 1)) = insB (l.take k) ++ inB l[k] := by
  unfold insB
  rw [List.take_succ_eq_append_getElem h, List.map_append, List.flatten_append]
  simp
theorem outsB_next {l : List OutR} {k : Nat} (h : k < l.length) : outsB (l.take (k + 1)) = outsB (l.take k) ++ outB l[k] := by
  unfold outsB
  rw [List.take_succ_eq_append_getElem h, List.map_append, List.flatten_append]
  simp
theorem insB_len {l : List InR} (h : ∀ i ∈ l, i.id.length = 32 ∧ i.wit.length ≤ 256) : (insB l).length ≤ l.length * 296 := by
  induction l with
  | nil => simp [insB]
  | cons a r ih =>
    have ha := h a (by simp)
    have hi := ih (fun i hi => h i (List.mem_cons_of_mem _ hi))
    have e : insB (a :: r) = inB a ++ insB r := by simp [insB]
    rw [e, List.length_append, List.length_cons, inB, List.length_append, List.length_append, List.length_append, leB_length, leB_length]
    omega
theorem outsB_len {l : List OutR} (h : ∀ o ∈ l, o.lock.length = 32) : (outsB l).length = l.length * 40 := by
  induction l with
  | nil => simp [outsB]
  | cons a r ih =>
    have ha := h a (by simp)
    have hi := ih (fun i hi => h i (List.mem_cons_of_mem _ hi))
    have e : outsB (a :: r) = outB a ++ outsB r := by simp [outsB]
    rw [e, List.length_append, List.length_cons, outB, List.length_append, leB_length]
    omega
theorem checkT_three (t : TxR) : checkT t = 0 ∨ checkT t = 2 ∨ checkT t = 5 := by
  unfold checkT
  cases formB t
  · exact .inr (.inl rfl)
  · rw [cond_true]
    rcases amtE_two t.outs with h | h
    · exact .inl h
    · exact .inr (.inr h)
theorem checkT_ok {t : TxR} (h : checkT t = 0) : (1 ≤ t.ins.length ∧ t.ins.length ≤ 64) ∧ (1 ≤ t.outs.length ∧ t.outs.length ≤ 64) ∧ ∀ i ∈ t.ins, i.wit.length ≤ 256 := by
  unfold checkT at h
  cases hf : formB t with
  | false => rw [hf, cond_false] at h; omega
  | true =>
    unfold formB at hf
    rw [Bool.and_eq_true, Bool.and_eq_true, Bool.and_eq_true] at hf
    obtain ⟨h1, h2, h3, _⟩ := hf
    refine ⟨of_decide_eq_true h1, of_decide_eq_true h2, fun i hi => ?_⟩
    by_cases hl : i.wit.length ≤ 256
    · exact hl
    · exfalso
      have ha : t.ins.any longB = true := List.any_eq_true.2 ⟨i, hi, decide_eq_true (by omega)⟩
      rw [ha] at h3
      cases h3
theorem sees_lt {w : World} {B : Nat} {A : Option Addr} {l : List UInt8} (h : Sees w B A l) (hne : l ≠ []) {ad : Addr} (ha : A = some ad) : ad.block < B := by
  rcases h with h | ⟨b, off, hA, hb, _⟩
  · exact absurd h hne
  · rw [hA] at ha; injection ha with ha; subst ha; exact hb
theorem rng_tail {w : World} {b o : Nat} {v : Value} {cs : List Value} (h : w.rangeAt b o (v :: cs)) : w.rangeAt b (o + 1) cs := fun j u hu => by have := h (j + 1) u hu; rw [show o + 1 + j = o + (j + 1) by omega]; exact this
theorem rngS {S : Nat → Prop} {w w' : World} {b o : Nat} {cs : List Value} (h : w.rangeAt b o cs) (hk : Keeps S w w') (hlt : b < w.heap.size) (hn : ¬ S b) : w'.rangeAt b o cs := fun j v hv => (World.cell?_of_block (a := ⟨b, o + j, none⟩) (hk.block b hlt hn)).trans (h j v hv)
theorem cellS {S : Nat → Prop} {w w' : World} {b o : Nat} {v : Value} (h : w.cell? ⟨b, o, none⟩ = some v) (hk : Keeps S w w') (hlt : b < w.heap.size) (hn : ¬ S b) : w'.cell? ⟨b, o, none⟩ = some v := (World.cell?_of_block (a := ⟨b, o, none⟩) (hk.block b hlt hn)).trans h
end Go.Proofs.Ytjcbihdhkaiidaa
namespace Go.Proofs.Ytjcbihdhkaiidaa
open Go.RowKit

theorem Try.sizeH : (Try.prog.info? 24).map (·.size) = some 32 := by kernel_rfl
def BytesPost (w : World) (t : TxR) (e : Ending) (w' : World) : Prop := (∃ A c B0, e = .returned (.tuple #[.slice A (packT t).length c, .int .i64 0]) ∧ w.heap.size ≤ B0 ∧ w'.ownsRow B0 5 1 (.slice A (packT t).length c) (packT t).length (By (packT t))) ∧ Below w.heap.size w w'

end Go.Proofs.Ytjcbihdhkaiidaa
