/-
  reach, pure: one that came is put into the covers of all that it covers.
  Words for memory: bytes as cells, a slice that shows bytes, a block that is known whole, and append onto a row of the call's own from a slice that shows bytes.
-/
import Derived.Test.YtbfpckomgpkjgaaGreatPRnQ2
import Derived.WalkKit
import Derived.WalkSpells
import Derived.Lib.Hide
namespace Go.Proofs.YtbfpckomgpkjgaaGreat

/-- An index, and its graph and tree with one more. -/
structure CvO (G : Gr) (T : List Nd) (C0 : Nat → List Nat) (G' : Gr) (T' : List Nd) (p : Nat) : Prop where
  I : IxOk G T C0
  x : ∃ x, G' = G ++ [x]
  g : OkG G'
  t : OkT T'
  v : IvT T'
  e : ExtT T T' p
  s : p ∈ parG G' T.length
theorem CvO.len {G : Gr} {T : List Nd} {C0 : Nat → List Nat} {G' : Gr} {T' : List Nd} {p : Nat} (o : CvO G T C0 G' T' p) : T'.length = G'.length ∧ G'.length = G.length + 1 := by
  obtain ⟨x, hx⟩ := o.x
  have h1 : G'.length = G.length + 1 := by rw [hx]; simp
  exact ⟨by rw [o.e.len, o.I.len, h1], h1⟩
theorem CvO.anc {G : Gr} {T : List Nd} {C0 : Nat → List Nat} {G' : Gr} {T' : List Nd} {p : Nat} (o : CvO G T C0 G' T' p) {a b : Nat} (hb : b < T.length) : Anc G' a b ↔ Anc G a b := by
  obtain ⟨x, rfl⟩ := o.x
  exact anc_old o.I.g (by rw [← o.I.len]; exact hb)
theorem CvO.cov {G : Gr} {T : List Nd} {C0 : Nat → List Nat} {G' : Gr} {T' : List Nd} {p : Nat} (o : CvO G T C0 G' T' p) {m c : Nat} (hc : c < T.length) : CovP G' T' m c ↔ CovP G T m c := by
  unfold CovP
  constructor
  · rintro ⟨h0, h1, h2, h3⟩
    have hp := o.I.t.lt c h0 hc
    rw [o.e.par _ hc] at h2 h3
    rw [o.e.und o.I.t (by omega)] at h2
    rw [o.anc (by omega)] at h3
    exact ⟨h0, (o.anc hc).1 h1, h2, h3⟩
  · rintro ⟨h0, h1, h2, h3⟩
    have hp := o.I.t.lt c h0 hc
    rw [o.e.par _ hc]
    exact ⟨h0, (o.anc hc).2 h1, fun k => h2 ((o.e.und o.I.t (by omega)).1 k), fun k => h3 ((o.anc (by omega)).1 k)⟩
theorem CvO.old {G : Gr} {T : List Nd} {C0 : Nat → List Nat} {G' : Gr} {T' : List Nd} {p : Nat} (o : CvO G T C0 G' T' p) {m c : Nat} : c ∈ C0 m ↔ c < T.length ∧ CovP G' T' m c := by
  rw [o.I.cov]
  constructor
  · intro h
    have hc : c < T.length := by rw [o.I.len]; exact h.lt
    exact ⟨hc, (o.cov hc).2 h⟩
  · rintro ⟨hc, h⟩
    exact (o.cov hc).1 h
/-- What stands in the past of the selected parent is not covered. -/
theorem CvO.under {G : Gr} {T : List Nd} {C0 : Nat → List Nat} {G' : Gr} {T' : List Nd} {p : Nat} (o : CvO G T C0 G' T' p) {m c : Nat} (hc : c ∈ C0 m) (hu : Und T' T.length c) : ¬ CovP G' T' m T.length := fun k => by
  have h1 := o.old.1 hc
  rcases (o.e.undN o.I.t).1 hu with rfl | h2
  · omega
  · have h3 := k.2.2.2
    rw [o.e.new, o.anc o.e.p] at h3
    have h4 := ((o.I.cov m c).1 hc).2.1
    by_cases e : c = p
    · exact h3 (by rw [← e]; exact h4)
    · exact h3 (h4.trans (o.I.anc h2 e))

/-- While one that came is put into covers: those that were gone to, and which of them are done. -/
structure CvI (pl : Nat → List Nat) (G : Gr) (T : List Nd) (C0 C : Nat → List Nat) (n : Nat) (Q : List Nat) (i j : Nat) : Prop where
  hd : Q[0]? = some n
  nd : Q.Nodup
  cov : ∀ m, C m = if m ∈ Q.tail then insN T (C0 m) n else C0 m
  in_ : ∀ m ∈ Q.tail, CovP G T m n
  done : ∀ k q m, k < i → Q[k]? = some q → m ∈ parG G q → CovP G T m n → m ∈ Q.tail
  part : ∀ k q m, k < j → Q[i]? = some q → (pl q)[k]? = some m → CovP G T m n → m ∈ Q.tail
theorem CvI.start (pl : Nat → List Nat) (G : Gr) (T : List Nd) (C0 : Nat → List Nat) (n : Nat) : CvI pl G T C0 C0 n [n] 0 0 where
  hd := rfl
  nd := by simp
  cov m := by simp
  in_ m h := by simp at h
  done k q m h := by omega
  part k q m h := by omega
theorem CvI.cons {pl : Nat → List Nat} {G : Gr} {T : List Nd} {C0 C : Nat → List Nat} {n : Nat} {Q : List Nat} {i j : Nat} (h : CvI pl G T C0 C n Q i j) : Q = n :: Q.tail := by
  have := h.hd
  cases Q with
  | nil => simp at this
  | cons a r => simp at this; rw [this]; rfl
theorem CvI.mem {pl : Nat → List Nat} {G : Gr} {T : List Nd} {C0 C : Nat → List Nat} {n : Nat} {Q : List Nat} {i j q : Nat} (h : CvI pl G T C0 C n Q i j) (hq : q ∈ Q) : q = n ∨ q ∈ Q.tail := by
  rw [h.cons] at hq
  exact List.mem_cons.1 hq
theorem CvI.le {pl : Nat → List Nat} {G : Gr} {T : List Nd} {C0 C : Nat → List Nat} {n : Nat} {Q : List Nat} {i j q : Nat} (h : CvI pl G T C0 C n Q i j) (hg : OkG G) (hq : q ∈ Q) : q ≤ n := by
  rcases h.mem hq with rfl | h1
  · exact Nat.le_refl _
  · have := (h.in_ q h1).2.1.lt hg; omega
theorem CvI.qlen {pl : Nat → List Nat} {G : Gr} {T : List Nd} {C0 C : Nat → List Nat} {n : Nat} {Q : List Nat} {i j : Nat} (h : CvI pl G T C0 C n Q i j) (hg : OkG G) : 0 < Q.length ∧ Q.length ≤ n + 1 := by
  constructor
  · rw [h.cons]; simp
  · have := h.nd.length_le_of_subset (l₂ := List.range (n + 1)) fun x hx => List.mem_range.2 (by have := h.le hg hx; omega)
    simpa using this
/-- It is told already: nothing is to be done. -/
theorem CvI.skip {pl : Nat → List Nat} {G : Gr} {T : List Nd} {C0 : Nat → List Nat} {G' : Gr} {T' : List Nd} {p : Nat} (o : CvO G T C0 G' T' p) {C : Nat → List Nat} {Q : List Nat} {i j q m : Nat} (h : CvI pl G' T' C0 C T.length Q i j) (hq : Q[i]? = some q) (hm : (pl q)[j]? = some m) (hmn : m ≠ T.length)
    (hz : Und T' T.length m ∨ ∃ c ∈ C m, Und T' T.length c) : CvI pl G' T' C0 C T.length Q i (j + 1) := by
  refine ⟨h.hd, h.nd, h.cov, h.in_, h.done, fun k q' m' hk hq' hm' hc => ?_⟩
  rw [hq] at hq'; cases hq'
  by_cases hkj : k < j
  · exact h.part k q m' hkj hq hm' hc
  · obtain rfl : k = j := by omega
    rw [hm] at hm'; cases hm'
    rcases hz with hz | ⟨c, hc1, hz⟩
    · rcases (o.e.undN o.I.t).1 hz with e | e
      · exact absurd e hmn
      · refine absurd (o.e.up e) ?_
        have := hc.2.2.1
        rwa [o.e.new] at this
    · rw [h.cov] at hc1
      split at hc1
      · assumption
      · exact absurd hc (o.under hc1 hz)
/-- It is not: it is covered, and was not gone to. -/
theorem CvI.new {pl : Nat → List Nat} {G : Gr} {T : List Nd} {C0 : Nat → List Nat} {G' : Gr} {T' : List Nd} {p : Nat} (o : CvO G T C0 G' T' p) {C : Nat → List Nat} {Q : List Nat} {i j q m : Nat} (h : CvI pl G' T' C0 C T.length Q i j) (hq : Q[i]? = some q) (hm : m ∈ parG G' q)
    (hz : ¬ (Und T' T.length m ∨ ∃ c ∈ C m, Und T' T.length c)) : CovP G' T' m T.length ∧ m ∉ Q.tail := by
  have h0 := o.I.t.ne
  have hnt : m ∉ Q.tail := fun k => hz (.inr ⟨T.length, by rw [h.cov, if_pos k]; exact mem_insN.2 (.inl rfl), .refl _⟩)
  refine ⟨⟨h0, ?_, ?_, ?_⟩, hnt⟩
  · rcases h.mem (List.mem_of_getElem? hq) with e | e
    · rw [e] at hm; exact .one hm
    · exact (Anc.one hm).trans (h.in_ q e).2.1
  · intro k
    rw [o.e.new] at k
    exact hz (.inl ((o.e.undN o.I.t).2 (.inr ((o.e.und o.I.t o.e.p).1 k))))
  · intro k
    rw [o.e.new, o.anc o.e.p, o.I.bef p o.e.p] at k
    rcases k.2 with k1 | ⟨c, hc, k1⟩
    · exact hz (.inl ((o.e.undN o.I.t).2 (.inr k1)))
    · refine hz (.inr ⟨c, ?_, (o.e.undN o.I.t).2 (.inr k1)⟩)
      rw [h.cov, if_neg hnt]
      exact hc
theorem CvI.push {pl : Nat → List Nat} {G : Gr} {T : List Nd} {C0 C : Nat → List Nat} {n : Nat} {Q : List Nat} {i j q m : Nat} (h : CvI pl G T C0 C n Q i j) (hg : OkG G) (hq : Q[i]? = some q) (hm : (pl q)[j]? = some m) (hc : CovP G T m n) (hnt : m ∉ Q.tail) :
    C m = C0 m ∧ CvI pl G T C0 (fun k => if k = m then insN T (C m) n else C k) n (Q ++ [m]) i (j + 1) := by
  have e0 : C m = C0 m := by rw [h.cov, if_neg hnt]
  have h1 := h.cons
  have et : (Q ++ [m]).tail = Q.tail ++ [m] := by rw [h1]; rfl
  have hi := (List.getElem?_eq_some_iff.1 hq).1
  have hmn : m ≠ n := fun e => by have := hc.2.1.lt hg; omega
  refine ⟨e0, ?_, ?_, ?_, ?_, ?_, ?_⟩
  · rw [h1]; rfl
  · rw [List.nodup_append]
    refine ⟨h.nd, by simp, fun a ha b hb e => ?_⟩
    rw [List.mem_singleton] at hb
    subst hb; subst e
    rcases h.mem ha with e | e
    · exact hmn e
    · exact hnt e
  · intro k
    rw [et]
    by_cases hk : k = m
    · subst hk
      simp [e0]
    · simp only [if_neg hk, List.mem_append, List.mem_singleton, hk, or_false]
      exact h.cov k
  · intro k hk
    rw [et, List.mem_append, List.mem_singleton] at hk
    rcases hk with hk | rfl
    · exact h.in_ k hk
    · exact hc
  · intro k q' m' hk hq' hm' hc'
    rw [et, List.mem_append]
    rw [List.getElem?_append_left (by omega)] at hq'
    exact .inl (h.done k q' m' hk hq' hm' hc')
  · intro k q' m' hk hq' hm' hc'
    rw [et, List.mem_append, List.mem_singleton]
    rw [List.getElem?_append_left hi, hq] at hq'
    cases hq'
    by_cases hkj : k < j
    · exact .inl (h.part k q m' hkj hq hm' hc')
    · obtain rfl : k = j := by omega
      rw [hm] at hm'; cases hm'
      exact .inr rfl
theorem CvI.next {pl : Nat → List Nat} {G : Gr} {T : List Nd} {C0 C : Nat → List Nat} {n : Nat} {Q : List Nat} {i j q : Nat} (h : CvI pl G T C0 C n Q i j) (hq : Q[i]? = some q) (hj : (pl q).length ≤ j) (hpl : ∀ m ∈ parG G q, m ∈ pl q) : CvI pl G T C0 C n Q (i + 1) 0 := by
  refine ⟨h.hd, h.nd, h.cov, h.in_, fun k q' m hk hq' hm hc => ?_, fun k q m hk => by omega⟩
  by_cases hki : k < i
  · exact h.done k q' m hki hq' hm hc
  · obtain rfl : k = i := by omega
    rw [hq] at hq'; cases hq'
    obtain ⟨l, hl, rfl⟩ := List.getElem_of_mem (hpl m hm)
    exact h.part l q _ (by omega) hq (List.getElem?_eq_getElem hl) hc
/-- Covers in the midst. -/
theorem CvI.covers {pl : Nat → List Nat} {G : Gr} {T : List Nd} {C0 : Nat → List Nat} {G' : Gr} {T' : List Nd} {p : Nat} (o : CvO G T C0 G' T' p) {C : Nat → List Nat} {Q : List Nat} {i j : Nat} (h : CvI pl G' T' C0 C T.length Q i j) (m : Nat) : (∀ c ∈ C m, c < T'.length) ∧ (C m).Pairwise (Lft T') := by
  have hp : (C0 m).Pairwise (Lft T') := (o.I.srt m).imp fun k => o.e.lft k
  have hc : ∀ c ∈ C0 m, c < T'.length := fun c hc => by have := (o.old.1 hc).1; rw [o.e.len]; omega
  rw [h.cov]
  split
  · next hm =>
    refine ⟨fun c k => ?_, insN_pair o.t o.v hp (by rw [o.e.len]; omega) fun c hc => ?_⟩
    · rcases mem_insN.1 k with rfl | k
      · rw [o.e.len]; omega
      · exact hc c k
    · have h1 := o.old.1 hc
      refine ⟨by rw [o.e.len]; omega, fun k => o.under hc k (h.in_ m hm), fun k => ?_⟩
      have := k.le o.t
      omega
  · exact ⟨hc, hp⟩
/-- All is gone over. -/
theorem CvI.end_ {pl : Nat → List Nat} {G : Gr} {T : List Nd} {C0 : Nat → List Nat} {G' : Gr} {T' : List Nd} {p : Nat} (o : CvO G T C0 G' T' p) {C : Nat → List Nat} {Q : List Nat} (h : CvI pl G' T' C0 C T.length Q Q.length 0) : IxOk G' T' C := by
  obtain ⟨l1, l2⟩ := o.len
  have hall : ∀ q, Anc G' q T.length → CovP G' T' q T.length → q ∈ Q.tail := by
    have key : ∀ q n, Anc G' q n → n = T.length ∨ n ∈ Q.tail → CovP G' T' q T.length → q ∈ Q.tail := by
      intro q n hq
      induction hq with
      | @one n hq =>
        intro hn hc
        have : n ∈ Q := by rw [h.cons, List.mem_cons]; exact hn
        obtain ⟨k, hk, hkn⟩ := List.getElem_of_mem this
        exact h.done k n q hk (by rw [List.getElem?_eq_getElem hk, hkn]) hq hc
      | @more b n hab hbn ih =>
        intro hn hc
        have hn' : n ∈ Q := by rw [h.cons, List.mem_cons]; exact hn
        have hbT : Anc G' b T.length := by
          rcases hn with rfl | hn
          · exact .one hbn
          · exact (Anc.one hbn).trans (h.in_ n hn).2.1
        by_cases hb : CovP G' T' b T.length
        · obtain ⟨k, hk, hkn⟩ := List.getElem_of_mem hn'
          exact ih (.inr (h.done k n b hk (by rw [List.getElem?_eq_getElem hk, hkn]) hbn hb)) hc
        · exfalso
          have h3 : Und T' p b ∨ Anc G' b p := by
            by_cases h4 : Und T' p b
            · exact .inl h4
            · by_cases h5 : Anc G' b p
              · exact .inr h5
              · exact absurd ⟨o.I.t.ne, hbT, by rw [o.e.new]; exact h4, by rw [o.e.new]; exact h5⟩ hb
          have h6 := hc.2.2.2
          rw [o.e.new] at h6
          rcases h3 with h3 | h3
          · by_cases e : b = p
            · exact h6 (by rw [← e]; exact hab)
            · exact h6 (hab.trans ((o.anc o.e.p).2 (o.I.anc ((o.e.und o.I.t o.e.p).1 h3) e)))
          · exact h6 (hab.trans h3)
    intro q hq hc
    exact key q _ hq (.inl rfl) hc
  refine ⟨o.g, o.t, o.v, l1, fun n h0 hn => ?_, fun m c => ?_, fun m => ?_⟩
  · obtain ⟨x, hx⟩ := o.x
    by_cases h1 : n < T.length
    · rw [o.e.par n h1, hx, parG_snoc (by rw [← o.I.len]; exact h1)]
      exact o.I.sel n h0 h1
    · obtain rfl : n = T.length := by have := o.e.len; omega
      rw [o.e.new]; exact o.s
  · rw [h.cov]
    by_cases hc : c = T.length
    · subst hc
      constructor
      · intro k
        split at k
        · exact h.in_ m (by assumption)
        · have := (o.old.1 k).1; omega
      · intro k
        rw [if_pos (hall m k.2.1 k)]
        exact mem_insN.2 (.inl rfl)
    · constructor
      · intro k
        have : c ∈ C0 m := by
          split at k
          · rcases mem_insN.1 k with e | e
            · exact absurd e hc
            · exact e
          · exact k
        exact (o.old.1 this).2
      · intro k
        have hl := k.lt
        have : c ∈ C0 m := o.old.2 ⟨by have := o.I.len; omega, k⟩
        split
        · exact mem_insN.2 (.inr this)
        · exact this
  · rw [h.cov]
    have hp : (C0 m).Pairwise (Lft T') := (o.I.srt m).imp fun k => o.e.lft k
    split
    · next hm =>
      refine insN_pair o.t o.v hp (by rw [o.e.len]; omega) fun c hc => ?_
      have h1 := o.old.1 hc
      refine ⟨by rw [o.e.len]; omega, fun k => o.under hc k (h.in_ m hm), fun k => ?_⟩
      have := k.le o.t
      omega
    · exact hp
end Go.Proofs.YtbfpckomgpkjgaaGreat

namespace Go.Proofs.YtbfpckomgpkjgaaGreat
open Go.RowKit

/-- Bytes as cells. -/
def By (l : List UInt8) : List Value := l.map fun b => .int .u8 (b.toNat : Int)
theorem By_length (l : List UInt8) : (By l).length = l.length := by simp [By]
theorem By_append (l m : List UInt8) : By (l ++ m) = By l ++ By m := by simp [By]
theorem By_nil : By [] = [] := rfl
theorem By_one (l : List UInt8) : ∀ u ∈ By l, u.oneCell' = true := by
  intro u hu
  obtain ⟨b, _, rfl⟩ := List.mem_map.1 hu
  rfl
theorem By_get {l : List UInt8} {j : Nat} {u : Value} (h : (By l)[j]? = some u) : ∃ hj : j < l.length, u = .int .u8 (l[j].toNat : Int) := by
  have hj : j < l.length := by have := (List.getElem?_eq_some_iff.1 h).1; simpa [By] using this
  refine ⟨hj, ?_⟩
  simp [By, hj] at h
  exact h.symm

/-- The slice value '.slice A l.length c' shows the bytes l, in a block below B. -/
def Sees (w : World) (B : Nat) (A : Option Addr) (l : List UInt8) : Prop :=
  l = [] ∨ ∃ b off, A = some ⟨b, off, none⟩ ∧ b < B ∧ ∀ i (h : i < l.length), w.cell? ⟨b, off + i, none⟩ = some (.int .u8 (l[i].toNat : Int))

section
variable {w w' : World} {B B' : Nat} {A : Option Addr} {l : List UInt8}
theorem Sees.nil : Sees w B A [] := .inl rfl
theorem Sees.keep (h : Sees w B A l) (hk : ∀ p : Addr, p.block < B → w'.cell? p = w.cell? p) : Sees w' B A l := by
  rcases h with h | ⟨b, off, hA, hb, hc⟩
  · exact .inl h
  · exact .inr ⟨b, off, hA, hb, fun i hi => (hk ⟨b, off + i, none⟩ hb).trans (hc i hi)⟩
theorem Sees.below (h : Sees w B A l) (hb : Below B w w') : Sees w' B A l := h.keep fun _ hp => hb.cell hp
theorem Sees.later (h : Sees w B A l) (hb : Below w.heap.size w w') : Sees w' B A l := by
  rcases h with h | ⟨b, off, hA, hlt, hc⟩
  · exact .inl h
  · exact .inr ⟨b, off, hA, hlt, fun i hi => cell_later hb (hc i hi)⟩
theorem Sees.alloc (h : Sees w B A l) (o : Obj) : Sees (w.alloc o) B A l := h.later ((Below.refl _ _).alloc (Nat.le_refl _) o)
theorem Sees.size (h : Sees w B A l) : Sees w w.heap.size A l := by
  rcases h with h | ⟨b, off, hA, hlt, hc⟩
  · exact .inl h
  · by_cases h0 : l.length = 0
    · exact .inl (List.eq_nil_of_length_eq_zero h0)
    · exact .inr ⟨b, off, hA, World.block_lt_of_cell? _ _ (hc 0 (by omega)), hc⟩
theorem Sees.more (h : Sees w B A l) (hB : B ≤ B') : Sees w B' A l := by
  rcases h with h | ⟨b, off, hA, hb, hc⟩
  · exact .inl h
  · exact .inr ⟨b, off, hA, by omega, hc⟩
theorem Sees.at_ (h : Sees w B A l) {k : Nat} (hk : k < l.length) : ∃ b off, A = some ⟨b, off, none⟩ ∧ b < B ∧ ∀ i (h : i < l.length), w.cell? ⟨b, off + i, none⟩ = some (.int .u8 (l[i].toNat : Int)) := by
  rcases h with h | h
  · subst h; simp at hk
  · exact h
theorem Sees.take (h : Sees w B A l) (n : Nat) : Sees w B A (l.take n) := by
  rcases h with h | ⟨b, off, hA, hb, hc⟩
  · exact .inl (by simp [h])
  · refine .inr ⟨b, off, hA, hb, fun i hi => ?_⟩
    rw [List.getElem_take]
    exact hc i (by rw [List.length_take] at hi; omega)
theorem Sees.drop (h : Sees w B A l) (n : Nat) : Sees w B (A.map (·.add n)) (l.drop n) := by
  rcases h with h | ⟨b, off, hA, hb, hc⟩
  · exact .inl (by simp [h])
  · refine .inr ⟨b, off + n, by rw [hA]; simp [Addr.add_lit], hb, fun i hi => ?_⟩
    rw [List.getElem_drop, Nat.add_assoc]
    exact hc (n + i) (by rw [List.length_drop] at hi; omega)
theorem Sees.own {base : Nat} {e : TypeId} {n c : Nat} (h : w.ownsRow base e 1 (.slice A n c) n (By l)) : Sees w w.heap.size A l := by
  have hn : n = l.length := by have := h.1; simp [By] at this; omega
  rcases h.2 with ⟨_, h0⟩ | ⟨g, cap, cur, hv, hb, hh, hnc, hcm, hcs, ht⟩
  · left
    have : l.length = 0 := by omega
    exact List.eq_nil_of_length_eq_zero this
  · right
    injection hv with hA hn' hc
    subst hA hc
    refine ⟨g, 0, rfl, ?_, fun i hi => ?_⟩
    · rcases Nat.lt_or_ge g w.heap.size with hlt | hge
      · exact hlt
      · rw [Array.getElem?_eq_none hge] at hh; cases hh
    · rw [Nat.zero_add, h.cellAt i (by omega)]
      simp [By, hi]
end

/-- Block g is just the cells cs of element type t, none frozen. -/
def Blk (w : World) (g : Nat) (t : TypeId) (cs : Array Value) : Prop := w.heap[g]? = some (.cells cs t (0, 0))
section
variable {w w' : World} {g : Nat} {t : TypeId} {cs : Array Value}
theorem Blk.lt (h : Blk w g t cs) : g < w.heap.size := by
  unfold Blk at h
  rcases Nat.lt_or_ge g w.heap.size with hlt | hge
  · exact hlt
  · rw [Array.getElem?_eq_none hge] at h; cases h
theorem Blk.cell (h : Blk w g t cs) (i : Nat) : w.cell? ⟨g, i, none⟩ = cs[i]? := by
  unfold Blk at h; simp [World.cell?, h]
theorem Blk.frozen (h : Blk w g t cs) (i : Nat) : w.frozen? ⟨g, i, none⟩ = false := by
  unfold Blk at h; simp [World.frozen?, h]
theorem Blk.of_eq (h : Blk w g t cs) (hw : w'.heap[g]? = w.heap[g]?) : Blk w' g t cs := hw.trans h
theorem Blk.set (h : Blk w g t cs) (i : Nat) (u : Value) : Blk (w.setCell ⟨g, i, none⟩ u) g t (cs.setIfInBounds i u) := by
  unfold Blk at h ⊢
  simp [World.setCell, Array.getElem?_modify, h]
theorem Blk.far (h : Blk w g t cs) {p : Addr} (hp : g ≠ p.block) (u : Value) : Blk (w.setCell p u) g t cs := h.of_eq (Below.heap_setCell w p u g hp)
theorem Blk.alloc (h : Blk w g t cs) (o : Obj) : Blk (w.alloc o) g t cs := h.of_eq (Below.heap_alloc w o g h.lt)
theorem Blk.below {B : Nat} (h : Blk w g t cs) (hb : Below B w w') (hg : g < B) : Blk w' g t cs := h.of_eq (hb.block g hg)
/-- A row of another element type lies elsewhere. -/
theorem Blk.notOwn {base : Nat} {e : TypeId} {size n : Nat} {v : Value} {xs : List Value} (h : Blk w g t cs) (ho : w.ownsRow base e size v n xs) (hne : e ≠ t) : some g ≠ v.ownBlock := by
  rcases ho.2 with ⟨rfl, _⟩ | ⟨g', cap, cur, rfl, _, hh, _⟩
  · simp [Value.ownBlock]
  · intro he
    have : g = g' := by simpa [Value.ownBlock] using he
    subst this
    unfold Blk at h
    rw [h] at hh
    injection hh with hh
    injection hh with _ ht
    exact hne ht.symm
end

section
variable {w w' : World} {base : Nat} {e : TypeId} {size n : Nat} {v : Value} {xs : List Value}
theorem own_form (h : w.ownsRow base e size v n xs) : ∃ A c, v = .slice A n c := by
  rcases h.2 with ⟨rfl, rfl⟩ | ⟨g, cap, cur, rfl, _⟩
  · exact ⟨_, _, rfl⟩
  · exact ⟨_, _, rfl⟩
theorem own_store (h : w.ownsRow base e size v n xs) {g : Nat} {t : TypeId} {cs : Array Value} (hb : Blk w g t cs) (hne : e ≠ t) (i : Nat) (u : Value) : (w.setCell ⟨g, i, none⟩ u).ownsRow base e size v n xs := by
  have hno := hb.notOwn h hne
  refine ⟨h.1, ?_⟩
  rcases h.2 with h2 | ⟨g', cap, cur, rfl, hg, hh, r⟩
  · exact .inl h2
  · refine .inr ⟨g', cap, cur, rfl, hg, ?_, r⟩
    rw [Below.heap_setCell _ _ _ _ (fun e => hno (by simp only [Value.ownBlock]; rw [e]))]
    exact hh
theorem own_base (h : w.ownsRow base e size v n xs) {b' : Nat} (hb : b' ≤ base) : w.ownsRow b' e size v n xs := by
  refine ⟨h.1, ?_⟩
  rcases h.2 with h2 | ⟨g', cap, cur, hv, hg, r⟩
  · exact .inl h2
  · exact .inr ⟨g', cap, cur, hv, by omega, r⟩
theorem own_below {B : Nat} (h : w.ownsRow base e size v n xs) (hb : Below B w w') (hlt : ∀ g, v.ownBlock = some g → g < B) : w'.ownsRow base e size v n xs := by
  refine ⟨h.1, ?_⟩
  rcases h.2 with h2 | ⟨g', cap, cur, rfl, hg, hh, r⟩
  · exact .inl h2
  · exact .inr ⟨g', cap, cur, rfl, hg, (hb.block g' (hlt g' rfl)).trans hh, r⟩
end

/-- Of the blocks that are there, those outside S are as they were; the streams are as they were; no block has gone. -/
structure Keeps (S : Nat → Prop) (w w' : World) : Prop where
  os : w'.os = w.os
  tape : w'.tape = w.tape
  output : w'.output = w.output
  size : w.heap.size ≤ w'.heap.size
  block : ∀ k, k < w.heap.size → ¬ S k → w'.heap[k]? = w.heap[k]?
section
variable {S : Nat → Prop} {a w w' : World}
theorem Keeps.refl (S : Nat → Prop) (w : World) : Keeps S w w := ⟨rfl, rfl, rfl, Nat.le_refl _, fun _ _ _ => rfl⟩
theorem Keeps.trans (h : Keeps S a w) (k : Keeps S w w') : Keeps S a w' :=
  ⟨k.os.trans h.os, k.tape.trans h.tape, k.output.trans h.output, Nat.le_trans h.size k.size, fun i hi hn => (k.block i (Nat.lt_of_lt_of_le hi h.size) hn).trans (h.block i hi hn)⟩
theorem Keeps.of_below (h : Below w.heap.size w w') (S : Nat → Prop) : Keeps S w w' := ⟨h.os, h.tape, h.output, h.size, fun i hi _ => h.block i hi⟩
theorem Keeps.below {B : Nat} (h : Keeps S w w') (hB : B ≤ w.heap.size) (hS : ∀ k, k < B → ¬ S k) : Below B w w' := ⟨h.os, h.tape, h.output, h.size, fun k hk => h.block k (by omega) (hS k hk)⟩
theorem Keeps.mono {S' : Nat → Prop} (h : Keeps S w w') (hS : ∀ k, k < w.heap.size → S k → S' k) : Keeps S' w w' := ⟨h.os, h.tape, h.output, h.size, fun k hk hn => h.block k hk (fun hs => hn (hS k hk hs))⟩
theorem Keeps.alloc (h : Keeps S a w) (o : Obj) : Keeps S a (w.alloc o) := h.trans (Keeps.of_below ((Below.refl _ _).alloc (Nat.le_refl _) o) S)
theorem Keeps.drew (h : Keeps S a w) : Keeps S a w.drew := ⟨h.os, h.tape, h.output, h.size, h.block⟩
theorem Keeps.setCell (h : Keeps S a w) {p : Addr} (hp : S p.block) (u : Value) : Keeps S a (w.setCell p u) :=
  h.trans ⟨rfl, rfl, rfl, by simp [World.setCell], fun k _ hn => Below.heap_setCell _ _ _ _ (fun e => hn (e ▸ hp))⟩
theorem Keeps.grown {row : Option Nat} (h : Keeps S a w) (hg : w.grownBy w' row) (hr : ∀ k, row = some k → S k) : Keeps S a w' :=
  h.trans ⟨hg.os, hg.tape, hg.output, hg.size, fun k hk hn => hg.block k hk (fun e => hn (hr k e.symm))⟩
theorem Keeps.cell (h : Keeps S w w') {p : Addr} (hp : p.block < w.heap.size) (hn : ¬ S p.block) : w'.cell? p = w.cell? p := World.cell?_of_block (h.block _ hp hn)
theorem Blk.keeps {g : Nat} {t : TypeId} {cs : Array Value} (h : Blk w g t cs) (hk : Keeps S w w') (hn : ¬ S g) : Blk w' g t cs := h.of_eq (hk.block g h.lt hn)
/-- A slice that shows bytes in no block of S shows them still. -/
theorem Sees.keeps {B : Nat} {A : Option Addr} {l : List UInt8} (h : Sees w B A l) (hk : Keeps S w w') (hn : ∀ ad, A = some ad → ad.block < w.heap.size → ¬ S ad.block) : Sees w' B A l := by
  rcases h with h | ⟨b, off, hA, hlt, hc⟩
  · exact .inl h
  · refine .inr ⟨b, off, hA, hlt, fun i hi => ?_⟩
    have hb := World.block_lt_of_cell? _ _ (hc i hi)
    rw [hk.cell (p := ⟨b, off + i, none⟩) hb (hn ⟨b, off, none⟩ hA hb)]
    exact hc i hi
end

section
variable {P : Program} {w : World}
/-- append onto a row of the call's own, of what a slice shows. -/
theorem run_append_sees (base : Nat) (t ty e : TypeId) (i : TypeInfo) (z : Value) (ht : P.underlying t = some (.slice e)) (hi : P.info? e = some i) (hz : i.zero = some z)
    (hsize : i.size = 1) (hby : i.bytes = 1) (hzs : z.cells.size = 1)
    (v : Value) (n : Nat) (xs : List Value) (hown : w.ownsRow base e 1 v n xs)
    (B : Nat) (A : Option Addr) (m c : Nat) (l : List UInt8) (hm : m = l.length) (hs : Sees w B A l) (hbytes : n + m ≤ 140737488355328) (hbase : base ≤ w.heap.size) :
    ∃ v' w', (Builtin.append_ #[t, t] ty #[v, .slice A m c]).run P w = .ok v' w' ∧ w'.ownsRow base e 1 v' (n + m) (xs ++ By l) ∧ w.grownBy w' v.ownBlock ∧ (v'.ownBlock = v.ownBlock ∨ v'.ownBlock = some w.heap.size) := by
  subst hm
  rcases A with _ | ad
  · have h0 : l = [] := by
      rcases hs with h | ⟨b, off, h, _⟩
      · exact h
      · cases h
    subst h0
    refine ⟨v, w, ?_, by simpa [By] using hown, World.grownBy.refl w _, .inl rfl⟩
    rcases hown.2 with ⟨rfl, rfl⟩ | ⟨g, cap, cur, rfl, _, _, hnc, _⟩
    · simp [Builtin.append_, run_underlying ht, sizeOf, typeInfo, hi, Builtin.lenOf, Builtin.firstCells]
    · simp [Builtin.append_, run_underlying ht, sizeOf, typeInfo, hi, Builtin.lenOf, Builtin.firstCells, hnc, storeCells]
  · have hc : ∀ j u, (By l)[j]? = some u → w.cell? (ad.add j) = some u := by
      intro j u hu
      obtain ⟨hj, rfl⟩ := By_get hu
      obtain ⟨b, off, hA, _, hcell⟩ := hs.at_ hj
      injection hA with hA
      subst hA
      rw [Addr.add_lit]
      exact hcell j hj
    obtain ⟨v', w', h1, h2, h3, _, h5⟩ := run_append_own_at (P := P) w base t ty e i z 1 1 ht hi hz hsize hby hzs (by omega) v n xs hown ad l.length c (By l) (by simp [By]) hc (By_one l) (by simp only [maxLen]; omega) (by omega) hbase
    exact ⟨v', w', h1, h2, h3, h5⟩

theorem wpList_append_sees {ops : Array Oper} {rest : List Oper} {o : Oper} {a : Act} {Q : Exit → Act → World → Prop} (hgd : o.guard = none) (s x : Operand) (t : TypeId)
    (ho : o.op = .call { callee := .builtin .append, args := #[s, x], argTypes := #[t, t] })
    (base : Nat) (e : TypeId) (i : TypeInfo) (z : Value) (ht : P.underlying t = some (.slice e)) (hi : P.info? e = some i) (hz : i.zero = some z)
    (hsize : i.size = 1) (hby : i.bytes = 1) (hzs : z.cells.size = 1)
    (v : Value) (n : Nat) (xs : List Value) (hs : a.eval s = v) (hown : w.ownsRow base e 1 v n xs)
    (B : Nat) (A : Option Addr) (m c : Nat) (l : List UInt8) (hx : a.eval x = .slice A m c) (hm : m = l.length) (hse : Sees w B A l) (hbytes : n + m ≤ 140737488355328) (hbase : base ≤ w.heap.size)
    (h : ∀ v' w', w'.ownsRow base e 1 v' (n + m) (xs ++ By l) → w.grownBy w' v.ownBlock → (v'.ownBlock = v.ownBlock ∨ v'.ownBlock = some w.heap.size) → wpList P ops Q rest (a.put o.dst v') w') : wpList P ops Q (o :: rest) a w := by
  refine wpList_plain hgd fun _ hK => ?_
  obtain ⟨v', w', hr, h2, h3, h4⟩ := run_append_sees (P := P) base t o.type e i z ht hi hz hsize hby hzs v n xs hown B A m c l hm hse hbytes hbase
  unfold Oper.wp execOp
  simp only [ho, resolve, invoke, builtin, Sem.run_bind, Sem.run_pure, Result.andThen_ok, List.map_toArray, List.map_cons, List.map_nil, hs, hx, hr]
  exact hK _ _ (h v' w' h2 h3 h4)
end

/-- A new row of bytes shows them. -/
theorem Sees.lit (w : World) (l : List UInt8) (t : TypeId) : Sees (w.alloc (.cells (By l).toArray t)) (w.heap.size + 1) (some ⟨w.heap.size, 0, none⟩) l := by
  refine .inr ⟨w.heap.size, 0, rfl, by omega, fun i hi => ?_⟩
  have hb : Blk (w.alloc (.cells (By l).toArray t)) w.heap.size t (By l).toArray := heap_alloc_new w _
  rw [Nat.zero_add, hb.cell i]
  simp [By, hi]
/-- Bytes as a string. -/
def Str (l : List UInt8) : ByteArray := ⟨l.toArray⟩
@[simp] theorem Str_toList (l : List UInt8) : (Str l).toList = l := by simp [Str]
@[simp] theorem Str_size (l : List UInt8) : (Str l).size = l.length := by show l.toArray.size = _; simp
theorem foldl_push (l : List UInt8) (s : ByteArray) : (l.map fun b => (b.toNat : Int)).foldl (fun r n => r.push (UInt8.ofNat n.toNat)) s = ⟨s.data ++ l.toArray⟩ := by
  induction l generalizing s with
  | nil => simp
  | cons b l ih =>
    rw [List.map_cons, List.foldl_cons, ih]
    congr 1
    simp [ByteArray.push, UInt8.ofNat_toNat]
/-- string(b) of a slice that shows bytes. -/
theorem run_string_sees {P : Program} {w : World} {src dst e : TypeId} (hs : P.underlying src = some (.slice e)) (he : P.underlying e = some (.int .u8)) (hd : P.underlying dst = some .string)
    {B : Nat} {A : Option Addr} {n c : Nat} {l : List UInt8} (hn : n = l.length) (h : Sees w B A l) : (convert src dst (.slice A n c)).run P w = .ok (.string (Str l)) w := by
  subst hn
  rw [run_convert_bytes_string w src dst e A _ c hs he hd]
  cases A with
  | none =>
    have h0 : l = [] := by
      rcases h with h | ⟨b, off, h, _⟩
      · exact h
      · cases h
    subst h0
    simp [Conv.bytesToString, Str]
    rfl
  | some ad =>
    have hl := run_loadCells_list (P := P) (w := w) ad (By l) (fun j u hu => by
      obtain ⟨hj, rfl⟩ := By_get hu
      obtain ⟨b, off, hA, _, hcell⟩ := h.at_ hj
      injection hA with hA
      subst hA
      rw [Addr.add_lit]
      exact hcell j hj)
    have e2 : By l = (l.map fun b => (b.toNat : Int)).map (Value.int .u8) := by simp [By, Function.comp_def]
    rw [By_length] at hl
    rw [e2] at hl
    rw [run_bytesToString w ad l.length c (l.map fun b => (b.toNat : Int)) hl, foldl_push]
    congr 3
    simp [ByteArray.empty, ByteArray.emptyWithCapacity]
    rfl

end Go.Proofs.YtbfpckomgpkjgaaGreat
