/-
  block, the document's: HeaderBytes. · block: headers' ids, the program's and the document's.
-/
import Derived.Test.YtjcbihdhkaiidaaBk1
import Derived.Test.YtjcbihdhkaiidaaPBlQ5
import Derived.Test.YtjcbihdhkaiidaaTxD
import Derived.Test.YtjcbihdhkaiidaaTxE
namespace Go.Proofs.Ytjcbihdhkaiidaa
open Go.RowKit

theorem rng_sees {w : World} {b o B : Nat} {x : List UInt8} (h : w.rangeAt b o (By x)) (hB : b < B) : Sees w B (some ⟨b, o, none⟩) x :=
  .inr ⟨b, o, rfl, hB, fun i hi => h i _ (by simp [By, hi])⟩
theorem own_len {A : Option Addr} {n m c : Nat} : (Value.slice A n c).ownBlock = (Value.slice A m c).ownBlock := by cases A <;> rfl
theorem fill_step (place : Nat → Option (Nat × Nat)) (z : List Value) (i off : Nat) (vs : List Value) (hp : place i = some (off, vs.length)) (ho : off + vs.length ≤ z.length) (rest : List (Nat × Value)) :
    Instr.fill place z.toArray ((i, .agg vs.toArray) :: rest) = Instr.fill place (z.take off ++ vs ++ z.drop (off + vs.length)).toArray rest := by
  have h := foldl_set off vs 0 z (by omega)
  simp only [Nat.add_zero] at h
  have hc : (Value.agg vs.toArray).cells = vs.toArray := rfl
  conv => lhs; unfold Instr.fill
  simp only [hc, hp, List.size_toArray]
  rw [if_neg (by simp; omega)]
  congr 1
  refine Eq.trans ?_ h
  simp
theorem put_part (pre old x post : List Value) (hl : old.length = x.length) (k : Nat) (hk : k = pre.length) : ((pre ++ (old ++ post)).take k ++ x ++ (pre ++ (old ++ post)).drop (k + x.length)) = pre ++ (x ++ post) := by
  subst hk
  rw [List.take_append_of_le_length (Nat.le_refl _), List.take_length, List.drop_append, List.drop_eq_nil_of_le (by omega), List.nil_append, show pre.length + x.length - pre.length = x.length by omega, List.drop_append, List.drop_eq_nil_of_le (by omega), List.nil_append, hl, Nat.sub_self, List.drop_zero, List.append_assoc]
theorem fill_four {a b c d : List Value} (ha : a.length = 32) (hb : b.length = 32) (hc : c.length = 32) (hd : d.length = 32) (z : List Value) (hz : z = By zero32 ++ (By zero32 ++ (By zero32 ++ By zero32))) :
    Instr.fill (fun i => some (i * 32, 32)) z.toArray [(0, .agg a.toArray), (1, .agg b.toArray), (2, .agg c.toArray), (3, .agg d.toArray)] = some (a ++ (b ++ (c ++ d))).toArray := by
  have hl : (By zero32).length = 32 := rfl
  subst hz
  obtain ⟨q, hq⟩ : ∃ q, By zero32 = q := ⟨_, rfl⟩
  rw [hq] at hl ⊢
  clear hq
  rw [fill_step _ _ 0 0 a (by rw [ha]) (by simp only [List.length_append]; omega)]
  have e1 := put_part [] q a (q ++ (q ++ q)) (by omega) 0 rfl
  simp only [List.nil_append, List.append_assoc] at e1 ⊢
  rw [e1, fill_step _ _ 1 32 b (by rw [hb]) (by simp only [List.length_append]; omega)]
  have e2 := put_part a q b (q ++ q) (by omega) 32 ha.symm
  simp only [List.append_assoc] at e2 ⊢
  rw [e2, fill_step _ _ 2 64 c (by rw [hc]) (by simp only [List.length_append]; omega)]
  have e3 := put_part (a ++ b) q c q (by omega) 64 (by simp only [List.length_append]; omega)
  simp only [List.append_assoc] at e3 ⊢
  rw [e3, fill_step _ _ 3 96 d (by rw [hd]) (by simp only [List.length_append]; omega)]
  have e4 := put_part (a ++ (b ++ c)) q d [] (by omega) 96 (by simp only [List.length_append]; omega)
  simp only [List.append_nil, List.append_assoc] at e4 ⊢
  rw [e4]
  rfl
theorem Try.a32info : (Try.prog.info? 23).map (fun i => (i.zero, i.size, i.bytes)) = some (some (.agg (By zero32).toArray), 32, 32) := by kernel_rfl
theorem Try.a32size : (Try.prog.info? 23).map (·.size) = some 32 := by kernel_rfl
/-- The four hashes behind the parents. -/
def four (p : HdP) : List (List UInt8) := [p.rt, p.ac, p.co, p.mi]
theorem four_32 {p : HdP} (f : HdFit p) : All32 (four p) := by
  intro x hx
  simp only [four, List.mem_cons, List.not_mem_nil, or_false] at hx
  rcases hx with rfl | rfl | rfl | rfl
  · exact f.rt
  · exact f.ac
  · exact f.co
  · exact f.mi
def RHBytesPost (w : World) (h : HdR) (e : Ending) (w' : World) : Prop := (∃ A c, e = .returned (.slice A (packH h.p).length c) ∧ (packH h.p).length ≤ c ∧ Sees w' w'.heap.size A (packH h.p)) ∧ Below w.heap.size w w'

end Go.Proofs.Ytjcbihdhkaiidaa
namespace Go.Proofs.Ytjcbihdhkaiidaa
open Go.RowKit

def nmBl : ByteArray := ⟨#[98, 108, 111, 99, 107]⟩
/-- A header's id. -/
def idH (p : HdP) : List UInt8 := bif mayH p then shaB (tagB (cutN nmBl) (packH p)) else zero32
theorem idH_len (p : HdP) : (idH p).length = 32 := by
  unfold idH
  cases mayH p
  · rfl
  · exact shaB_length _
theorem packH_le {p : HdP} (f : HdFit p) (hz : mayH p = true) : (packH p).length ≤ 30000 := by
  have hn : p.ps.length ≤ 255 := of_decide_eq_true hz
  rw [packH_len f]; omega

end Go.Proofs.Ytjcbihdhkaiidaa
