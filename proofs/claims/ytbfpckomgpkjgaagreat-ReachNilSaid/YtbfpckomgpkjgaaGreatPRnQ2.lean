/-
  dag: graphs as lists of hashes with their parents' places; pasts.
  reach, pure: graphs with selected parents, and covers.
-/
import Derived.Test.YtbfpckomgpkjgaaGreatPRnQ1
namespace Go.Proofs.YtbfpckomgpkjgaaGreat

/-- A hash, and its parents' places, in the order in which they were handed in. -/
structure NodeG where
  id : Hh
  par : List Nat
deriving instance DecidableEq for NodeG
abbrev Gr := List NodeG
def parG (G : Gr) (n : Nat) : List Nat := (G[n]?.map NodeG.par).getD []
def idG (G : Gr) (n : Nat) : Hh := (G[n]?.map NodeG.id).getD default
def placeG (G : Gr) (h : Hh) : Option Nat := G.findIdx? fun x => x.id == h
/-- The one at m stands in the past of the one at n. -/
inductive Anc (G : Gr) : Nat → Nat → Prop
  | one {p n : Nat} : p ∈ parG G n → Anc G p n
  | more {p q n : Nat} : Anc G p q → q ∈ parG G n → Anc G p n
structure OkG (G : Gr) : Prop where
  ids : (G.map NodeG.id).Nodup
  par : ∀ n p, p ∈ parG G n → p < n
  dis : ∀ n, (parG G n).Nodup

theorem parG_lt {G : Gr} {n p : Nat} (h : p ∈ parG G n) : n < G.length := by
  unfold parG at h
  rcases Nat.lt_or_ge n G.length with h1 | h1
  · exact h1
  · rw [List.getElem?_eq_none h1] at h; simp at h
theorem parG_at {G : Gr} {n : Nat} (h : n < G.length) : parG G n = G[n].par := by unfold parG; rw [List.getElem?_eq_getElem h]; rfl
theorem idG_at {G : Gr} {n : Nat} (h : n < G.length) : idG G n = G[n].id := by unfold idG; rw [List.getElem?_eq_getElem h]; rfl
theorem Anc.lt {G : Gr} (o : OkG G) {m n : Nat} (h : Anc G m n) : m < n := by
  induction h with
  | one h => exact o.par _ _ h
  | more _ h ih => have := o.par _ _ h; omega
theorem Anc.bnd {G : Gr} {m n : Nat} (h : Anc G m n) : n < G.length := by
  cases h with
  | one h => exact parG_lt h
  | more _ h => exact parG_lt h
theorem Anc.trans {G : Gr} {a b c : Nat} (h : Anc G a b) (k : Anc G b c) : Anc G a c := by
  induction k with
  | one k => exact .more h k
  | more _ k ih => exact .more ih k
theorem anc_step {G : Gr} {m n : Nat} : Anc G m n ↔ ∃ p ∈ parG G n, m = p ∨ Anc G m p := by
  constructor
  · intro h
    cases h with
    | one h => exact ⟨_, h, .inl rfl⟩
    | more h k => exact ⟨_, k, .inr h⟩
  · rintro ⟨p, hp, rfl | h⟩
    · exact .one hp
    · exact .more h hp
theorem parG_snoc {G : Gr} {x : NodeG} {n : Nat} (h : n < G.length) : parG (G ++ [x]) n = parG G n := by
  unfold parG; rw [List.getElem?_append_left h]
theorem parG_new (G : Gr) (x : NodeG) : parG (G ++ [x]) G.length = x.par := by
  unfold parG; rw [List.getElem?_append_right (Nat.le_refl _)]; simp
theorem idG_snoc {G : Gr} {x : NodeG} {n : Nat} (h : n < G.length) : idG (G ++ [x]) n = idG G n := by
  unfold idG; rw [List.getElem?_append_left h]
theorem idG_new (G : Gr) (x : NodeG) : idG (G ++ [x]) G.length = x.id := by
  unfold idG; rw [List.getElem?_append_right (Nat.le_refl _)]; simp
theorem anc_old {G : Gr} {x : NodeG} (o : OkG G) {m n : Nat} (h : n < G.length) : Anc (G ++ [x]) m n ↔ Anc G m n := by
  induction n using Nat.strongRecOn generalizing m with
  | _ n ih =>
    rw [anc_step, anc_step, parG_snoc h]
    constructor
    · rintro ⟨p, hp, h1⟩
      have := o.par _ _ hp
      exact ⟨p, hp, h1.imp id fun k => (ih p this (by omega)).1 k⟩
    · rintro ⟨p, hp, h1⟩
      have := o.par _ _ hp
      exact ⟨p, hp, h1.imp id fun k => (ih p this (by omega)).2 k⟩
theorem anc_new {G : Gr} {x : NodeG} (o : OkG G) (hx : ∀ p ∈ x.par, p < G.length) {m : Nat} : Anc (G ++ [x]) m G.length ↔ ∃ p ∈ x.par, m = p ∨ Anc G m p := by
  rw [anc_step, parG_new]
  constructor
  · rintro ⟨p, hp, h1⟩
    exact ⟨p, hp, h1.imp id fun k => (anc_old o (hx p hp)).1 k⟩
  · rintro ⟨p, hp, h1⟩
    exact ⟨p, hp, h1.imp id fun k => (anc_old o (hx p hp)).2 k⟩

theorem placeG_some {G : Gr} {h : Hh} {n : Nat} (k : placeG G h = some n) : n < G.length ∧ idG G n = h := by
  unfold placeG at k
  rw [List.findIdx?_eq_some_iff_getElem] at k
  obtain ⟨h1, h2, _⟩ := k
  exact ⟨h1, by rw [idG_at h1]; exact beq_iff_eq.1 h2⟩
theorem placeG_none {G : Gr} {h : Hh} : placeG G h = none ↔ ∀ n, n < G.length → idG G n ≠ h := by
  unfold placeG
  rw [List.findIdx?_eq_none_iff]
  constructor
  · intro k n hn e
    have := k G[n] (List.getElem_mem hn)
    rw [idG_at hn] at e
    simp [e] at this
  · intro k x hx
    obtain ⟨n, hn, rfl⟩ := List.getElem_of_mem hx
    have := k n hn
    rw [idG_at hn] at this
    exact beq_eq_false_iff_ne.2 this
theorem idG_inj {G : Gr} (o : OkG G) {m n : Nat} (hm : m < G.length) (hn : n < G.length) (h : idG G m = idG G n) : m = n := by
  have h1 := o.ids
  rw [idG_at hm, idG_at hn] at h
  have := (List.getElem_inj (xs := G.map NodeG.id) (i := m) (j := n) (h₀ := by simpa using hm) (h₁ := by simpa using hn) h1).1
  simpa using this (by simpa using h)
theorem placeG_id {G : Gr} (o : OkG G) {n : Nat} (hn : n < G.length) : placeG G (idG G n) = some n := by
  cases h : placeG G (idG G n) with
  | none => exact absurd rfl (placeG_none.1 h n hn)
  | some m =>
    obtain ⟨h1, h2⟩ := placeG_some h
    rw [idG_inj o h1 hn h2]
theorem placeG_snoc {G : Gr} {x : NodeG} {h : Hh} : placeG (G ++ [x]) h = (placeG G h).or (if x.id = h then some G.length else none) := by
  unfold placeG
  rw [List.findIdx?_append]
  cases h1 : List.findIdx? (fun y : NodeG => y.id == h) G with
  | some n => simp
  | none =>
    by_cases e : x.id = h
    · simp [List.findIdx?_cons, e]
    · have : (x.id == h) = false := beq_eq_false_iff_ne.2 e
      rw [List.findIdx?_cons, if_neg e, this]
      rfl

/-- What Add answers, and what there is behind it. -/
def addE (G : Gr) (id : Hh) (ps : List Hh) : Nat :=
  if (placeG G id).isSome then 7 else if ps = [] ∨ ¬ (risH ps).length = ps.length then 9 else if ps.any (fun p => (placeG G p).isNone) then 6 else 0
def addN (G : Gr) (id : Hh) (ps : List Hh) : NodeG := ⟨id, ps.map fun p => (placeG G p).getD 0⟩
def addG (G : Gr) (id : Hh) (ps : List Hh) : Gr := if addE G id ps = 0 then G ++ [addN G id ps] else G
def newG (r : Hh) : Gr := [⟨r, []⟩]
theorem nilG_ok : OkG [] where
  ids := by simp
  par n p h := by have := parG_lt h; simp at this
  dis n := by unfold parG; simp
theorem newG_ok (r : Hh) : OkG (newG r) where
  ids := by simp [newG]
  par n p h := by
    have h1 := parG_lt h
    rw [parG_at h1] at h
    have : n = 0 := by simp [newG] at h1; exact h1
    subst this
    simp [newG] at h
  dis n := by
    unfold parG newG
    cases n with
    | zero => simp
    | succ n => simp
theorem addE_zero {G : Gr} {id : Hh} {ps : List Hh} (h : addE G id ps = 0) : placeG G id = none ∧ ps ≠ [] ∧ ps.Nodup ∧ ∀ p ∈ ps, ∃ n, placeG G p = some n := by
  unfold addE at h
  split at h
  · cases h
  · next h1 =>
    split at h
    · cases h
    · next h2 =>
      split at h
      · cases h
      · next h3 =>
        refine ⟨by simpa using h1, fun e => h2 (.inl e), ?_, fun p hp => ?_⟩
        · by_cases e : (risH ps).length = ps.length
          · exact (risH_len ps).1 e
          · exact absurd (.inr e) h2
        · cases e : placeG G p with
          | some n => exact ⟨n, rfl⟩
          | none => exact absurd (List.any_eq_true.2 ⟨p, hp, by rw [e]; rfl⟩) h3
theorem snoc_ok {G : Gr} (o : OkG G) {x : NodeG} (h1 : placeG G x.id = none) (h2 : ∀ p ∈ x.par, p < G.length) (h3 : x.par.Nodup) : OkG (G ++ [x]) where
  ids := by
    rw [List.map_append, List.nodup_append]
    refine ⟨o.ids, by simp, fun a ha b hb e => ?_⟩
    simp at hb
    obtain ⟨y, hy, rfl⟩ := List.mem_map.1 ha
    obtain ⟨n, hn, rfl⟩ := List.getElem_of_mem hy
    exact placeG_none.1 h1 n hn (by rw [idG_at hn, e, hb])
  par n p h := by
    have h4 := parG_lt h
    rw [List.length_append, List.length_singleton] at h4
    by_cases h5 : n < G.length
    · rw [parG_snoc h5] at h; exact o.par n p h
    · obtain rfl : n = G.length := by omega
      rw [parG_new] at h
      exact h2 p h
  dis n := by
    by_cases h5 : n < G.length
    · rw [parG_snoc h5]; exact o.dis n
    · by_cases h6 : n = G.length
      · subst h6; rw [parG_new]; exact h3
      · unfold parG; rw [List.getElem?_eq_none (by simp; omega)]; simp
theorem nodup_map_on {α β : Type} {f : α → β} : ∀ {l : List α}, (∀ a ∈ l, ∀ b ∈ l, f a = f b → a = b) → l.Nodup → (l.map f).Nodup
  | [], _, _ => by simp
  | a :: l, h, k => by
    have k' := List.nodup_cons.1 k
    rw [List.map_cons, List.nodup_cons]
    refine ⟨fun hm => ?_, nodup_map_on (fun x hx y hy => h x (List.mem_cons_of_mem _ hx) y (List.mem_cons_of_mem _ hy)) k'.2⟩
    obtain ⟨b, hb, e⟩ := List.mem_map.1 hm
    have := h a (by simp) b (List.mem_cons_of_mem _ hb) e.symm
    subst this
    exact k'.1 hb
theorem addN_lt {G : Gr} {id : Hh} {ps : List Hh} (h : addE G id ps = 0) : ∀ p ∈ (addN G id ps).par, p < G.length := by
  intro p hp
  obtain ⟨a, ha, rfl⟩ := List.mem_map.1 hp
  obtain ⟨n, hn⟩ := (addE_zero h).2.2.2 a ha
  rw [hn]
  exact (placeG_some hn).1
theorem addN_nodup {G : Gr} {id : Hh} {ps : List Hh} (h : addE G id ps = 0) : (addN G id ps).par.Nodup := by
  obtain ⟨_, _, h3, h4⟩ := addE_zero h
  refine nodup_map_on (fun a ha b hb e => ?_) h3
  obtain ⟨n, hn⟩ := h4 a ha
  obtain ⟨m, hm⟩ := h4 b hb
  rw [hn, hm] at e
  simp at e
  subst e
  rw [← (placeG_some hn).2, (placeG_some hm).2]
theorem addG_ok {G : Gr} (o : OkG G) (id : Hh) (ps : List Hh) : OkG (addG G id ps) := by
  unfold addG
  split
  · next h => exact snoc_ok o (addE_zero h).1 (addN_lt h) (addN_nodup h)
  · exact o
theorem addG_len (G : Gr) (id : Hh) (ps : List Hh) : (addG G id ps).length ≤ G.length + 1 := by
  unfold addG; split <;> simp

/-- Of places, those that are asked for; as hashes, rising. -/
noncomputable def selG (G : Gr) (f : Nat → Prop) : List Nat := (List.range G.length).filter fun n => @decide (f n) (Classical.propDecidable _)
noncomputable def ansG (G : Gr) (f : Nat → Prop) : List Hh := risH ((selG G f).map (idG G))
theorem mem_selG {G : Gr} {f : Nat → Prop} {n : Nat} : n ∈ selG G f ↔ n < G.length ∧ f n := by
  unfold selG
  rw [List.mem_filter, List.mem_range]
  exact and_congr_right fun _ => @decide_eq_true_iff _ (Classical.propDecidable _)
theorem selG_nodup (G : Gr) (f : Nat → Prop) : (selG G f).Nodup := List.nodup_range.filter _
theorem mem_ansG {G : Gr} {f : Nat → Prop} {h : Hh} : h ∈ ansG G f ↔ ∃ n, n < G.length ∧ f n ∧ idG G n = h := by
  unfold ansG
  rw [mem_risH, List.mem_map]
  constructor
  · rintro ⟨n, hn, rfl⟩
    exact ⟨n, (mem_selG.1 hn).1, (mem_selG.1 hn).2, rfl⟩
  · rintro ⟨n, h1, h2, rfl⟩
    exact ⟨n, mem_selG.2 ⟨h1, h2⟩, rfl⟩
/-- Whatever list has the same hashes. -/
theorem ansG_of {G : Gr} {f : Nat → Prop} {l : List Hh} (h : ∀ x, x ∈ l ↔ ∃ n, n < G.length ∧ f n ∧ idG G n = x) : risH l = ansG G f := by
  unfold ansG
  exact risH_eq fun x => (h x).trans (by rw [← mem_ansG]; unfold ansG; rw [mem_risH])
/-- As the program sorts them. -/
theorem srt_places {G : Gr} (o : OkG G) {l : List Nat} (hd : l.Nodup) (hl : ∀ n ∈ l, n < G.length) : srtH (l.map (idG G)) = ansG G (fun n => n ∈ l) := by
  rw [srtH_nodup (nodup_map_on (fun a ha b hb e => idG_inj o (hl a ha) (hl b hb) e) hd)]
  refine ansG_of fun x => ?_
  rw [List.mem_map]
  constructor
  · rintro ⟨n, hn, rfl⟩; exact ⟨n, hl n hn, hn, rfl⟩
  · rintro ⟨n, _, hn, rfl⟩; exact ⟨n, hn, rfl⟩
theorem ansG_congr {G : Gr} {f g : Nat → Prop} (h : ∀ n, n < G.length → (f n ↔ g n)) : ansG G f = ansG G g := by
  unfold ansG
  refine risH_eq fun x => ?_
  rw [List.mem_map, List.mem_map]
  constructor
  · rintro ⟨n, hn, rfl⟩
    exact ⟨n, mem_selG.2 ⟨(mem_selG.1 hn).1, (h n (mem_selG.1 hn).1).1 (mem_selG.1 hn).2⟩, rfl⟩
  · rintro ⟨n, hn, rfl⟩
    exact ⟨n, mem_selG.2 ⟨(mem_selG.1 hn).1, (h n (mem_selG.1 hn).1).2 (mem_selG.1 hn).2⟩, rfl⟩
theorem ansG_length {G : Gr} (o : OkG G) (f : Nat → Prop) : (ansG G f).length = (selG G f).length := by
  unfold ansG
  rw [risH_nodup (nodup_map_on (fun a ha b hb e => idG_inj o (mem_selG.1 ha).1 (mem_selG.1 hb).1 e) (selG_nodup G f)), List.length_map]
/-- A list of few numbers has that length at most. -/
theorem len_le_of : ∀ {n : Nat} {l : List Nat}, l.Nodup → (∀ x ∈ l, x < n) → l.length ≤ n
  | 0, l, _, h => by
    cases l with
    | nil => simp
    | cons a r => exact absurd (h a (by simp)) (by omega)
  | n + 1, l, hd, h => by
    by_cases hn : n ∈ l
    · have h1 := len_le_of (n := n) (hd.erase n) (fun x hx => by
        have h2 := h x (List.mem_of_mem_erase hx)
        have h3 : x ≠ n := fun e => by subst e; exact (List.Nodup.not_mem_erase hd) hx
        omega)
      rw [List.length_erase_of_mem hn] at h1
      omega
    · have h1 := len_le_of (n := n) hd (fun x hx => by
        have h2 := h x hx
        have h3 : x ≠ n := fun e => by subst e; exact hn hx
        omega)
      omega
end Go.Proofs.YtbfpckomgpkjgaaGreat

namespace Go.Proofs.YtbfpckomgpkjgaaGreat

/-- a stands under an earlier child than b does. -/
def Lft (T : List Nd) (a b : Nat) : Prop := ∃ c d, 0 < c ∧ c < d ∧ d < T.length ∧ (ndT T c).par = (ndT T d).par ∧ Und T a c ∧ Und T b d
theorem Lft.lo {T : List Nd} {a b : Nat} (v : IvT T) (h : Lft T a b) : (ndT T a).hi < (ndT T b).lo := by
  obtain ⟨c, d, h0, h1, h2, h3, h4, h5⟩ := h
  have := v.sib c d h0 h1 h2 h3
  have := (v.und h4).2
  have := (v.und h5).1
  omega
theorem lft_tot {T : List Nd} (o : OkT T) : ∀ n a b, a + b ≤ n → a < T.length → b < T.length → ¬ Und T a b → ¬ Und T b a → Lft T a b ∨ Lft T b a := by
  intro n
  induction n with
  | zero =>
    intro a b h _ _ h1 _
    obtain rfl : a = 0 := by omega
    obtain rfl : b = 0 := by omega
    exact absurd (.refl _) h1
  | succ n ih =>
    have step : ∀ a b, a + b ≤ n + 1 → b < a → a < T.length → b < T.length → ¬ Und T a b → ¬ Und T b a → Lft T a b ∨ Lft T b a := by
      intro a b hs hlt ha hb h1 h2
      have h0 : 0 < a := by omega
      have hp := o.lt a h0 ha
      by_cases h3 : Und T b (ndT T a).par
      · by_cases hbe : b = (ndT T a).par
        · exact absurd (.up h0 ha (by rw [← hbe]; exact .refl _)) h1
        · obtain ⟨c, hc, hu⟩ := h3.down hbe
          obtain ⟨c0, c1, c2⟩ := mem_kids.1 hc
          by_cases hca : c = a
          · subst hca; exact absurd hu h2
          · by_cases hl : c < a
            · exact .inr ⟨c, a, c0, hl, ha, c2, hu, .refl _⟩
            · exact .inl ⟨a, c, h0, by omega, c1, c2.symm, .refl _, hu⟩
      · have h4 : ¬ Und T (ndT T a).par b := fun k => h1 (.up h0 ha k)
        rcases ih (ndT T a).par b (by omega) (by omega) hb h4 h3 with ⟨c, d, k0, k1, k2, k3, k4, k5⟩ | ⟨c, d, k0, k1, k2, k3, k4, k5⟩
        · exact .inl ⟨c, d, k0, k1, k2, k3, .up h0 ha k4, k5⟩
        · exact .inr ⟨c, d, k0, k1, k2, k3, k4, .up h0 ha k5⟩
    intro a b hs ha hb h1 h2
    rcases Nat.lt_trichotomy a b with h | h | h
    · exact (step b a (by omega) h hb ha h2 h1).symm
    · subst h; exact absurd (.refl _) h1
    · exact step a b hs h ha hb h1 h2
/-- Of two apart the numbers tell which is ahead. -/
theorem lft_hi {T : List Nd} (o : OkT T) (v : IvT T) {a b : Nat} (ha : a < T.length) (hb : b < T.length) (h1 : ¬ Und T a b) (h2 : ¬ Und T b a) (h : (ndT T a).hi ≤ (ndT T b).hi) : Lft T a b := by
  rcases lft_tot o (a + b) a b (Nat.le_refl _) ha hb h1 h2 with k | k
  · exact k
  · have := k.lo v
    have := (v.ok a ha).2.1
    omega

/-- One more under p; the others have the parents that they had. -/
structure ExtT (T T' : List Nd) (p : Nat) : Prop where
  len : T'.length = T.length + 1
  par : ∀ n, n < T.length → (ndT T' n).par = (ndT T n).par
  new : (ndT T' T.length).par = p
  p : p < T.length
theorem ExtT.up {T T' : List Nd} {p : Nat} (e : ExtT T T' p) {a b : Nat} (h : Und T a b) : Und T' a b := by
  induction h with
  | refl a => exact .refl _
  | up h0 h1 _ ih => exact .up h0 (by rw [e.len]; omega) (by rw [e.par _ h1]; exact ih)
theorem ExtT.und {T T' : List Nd} {p : Nat} (e : ExtT T T' p) (o : OkT T) {a b : Nat} (ha : a < T.length) : Und T' a b ↔ Und T a b := by
  refine ⟨fun h => ?_, e.up⟩
  induction h with
  | refl a => exact .refl _
  | @up a b h0 h1 h2 ih =>
    have hp := o.lt a h0 ha
    rw [e.par _ ha] at ih
    exact .up h0 ha (ih (by omega))
theorem ExtT.undN {T T' : List Nd} {p : Nat} (e : ExtT T T' p) (o : OkT T) {b : Nat} : Und T' T.length b ↔ b = T.length ∨ Und T p b := by
  have hp := e.p
  constructor
  · intro h
    cases h with
    | refl => exact .inl rfl
    | up h0 h1 h2 => rw [e.new] at h2; exact .inr ((e.und o e.p).1 h2)
  · rintro (rfl | h)
    · exact .refl _
    · exact .up (by omega) (by rw [e.len]; omega) (by rw [e.new]; exact e.up h)
theorem ExtT.lft {T T' : List Nd} {p : Nat} (e : ExtT T T' p) {a b : Nat} (h : Lft T a b) : Lft T' a b := by
  obtain ⟨c, d, h0, h1, h2, h3, h4, h5⟩ := h
  exact ⟨c, d, h0, h1, by rw [e.len]; omega, by rw [e.par _ (by omega), e.par _ h2]; exact h3, e.up h4, e.up h5⟩

/-- c is of m's cover. -/
def CovP (G : Gr) (T : List Nd) (m c : Nat) : Prop := 0 < c ∧ Anc G m c ∧ ¬ Und T (ndT T c).par m ∧ ¬ Anc G m (ndT T c).par
/-- An index: a graph, a tree of selected parents, covers. -/
structure IxOk (G : Gr) (T : List Nd) (C : Nat → List Nat) : Prop where
  g : OkG G
  t : OkT T
  v : IvT T
  len : T.length = G.length
  sel : ∀ n, 0 < n → n < T.length → (ndT T n).par ∈ parG G n
  cov : ∀ m c, c ∈ C m ↔ CovP G T m c
  srt : ∀ m, (C m).Pairwise (Lft T)
theorem IxOk.anc {G : Gr} {T : List Nd} {C : Nat → List Nat} (I : IxOk G T C) {a b : Nat} (h : Und T b a) (hne : a ≠ b) : Anc G a b := by
  induction h with
  | refl a => exact absurd rfl hne
  | @up b a h0 h1 h2 ih =>
    have hs := I.sel b h0 h1
    by_cases e : a = (ndT T b).par
    · rw [e]; exact .one hs
    · exact .more (ih e) hs
theorem CovP.lt {G : Gr} {T : List Nd} {m c : Nat} (h : CovP G T m c) : c < G.length := h.2.1.bnd
theorem IxOk.mlt {G : Gr} {T : List Nd} {C : Nat → List Nat} (I : IxOk G T C) {m c : Nat} (h : c ∈ C m) : m < G.length ∧ c < G.length := by
  have h1 := (I.cov m c).1 h
  have := h1.2.1.lt I.g
  have := h1.lt
  exact ⟨by omega, this⟩
theorem CovP.und {G : Gr} {T : List Nd} {C : Nat → List Nat} (I : IxOk G T C) {m c : Nat} (h : CovP G T m c) : ¬ Und T c m := fun k => by
  have hl := h.2.1.lt I.g
  cases k with
  | refl => omega
  | up _ _ k => exact h.2.2.1 k
/-- Of a cover none stands under another one. -/
theorem IxOk.anti {G : Gr} {T : List Nd} {C : Nat → List Nat} (I : IxOk G T C) {m c d : Nat} (hc : CovP G T m c) (hd : CovP G T m d) (hne : c ≠ d) : ¬ Und T c d := fun k => by
  cases k with
  | refl => exact hne rfl
  | up h0 h1 k =>
    by_cases e : d = (ndT T c).par
    · exact hc.2.2.2 (by rw [← e]; exact hd.2.1)
    · exact hc.2.2.2 (hd.2.1.trans (I.anc k e))
/-- Who stands ahead, by chains and covers alone. -/
theorem IxOk.bef {G : Gr} {T : List Nd} {C : Nat → List Nat} (I : IxOk G T C) {a : Nat} : ∀ b, b < T.length → (Anc G a b ↔ a ≠ b ∧ (Und T b a ∨ ∃ c ∈ C a, Und T b c)) := by
  intro b
  induction b using Nat.strongRecOn with
  | ind b ih =>
    intro hb
    constructor
    · intro h
      have hl := h.lt I.g
      refine ⟨by omega, ?_⟩
      have h0 : 0 < b := by omega
      have hp := I.t.lt b h0 hb
      by_cases h1 : Und T (ndT T b).par a
      · exact .inl (.up h0 hb h1)
      · by_cases h2 : Anc G a (ndT T b).par
        · rcases ((ih _ hp (by omega)).1 h2).2 with h3 | ⟨c, hc, h3⟩
          · exact absurd h3 h1
          · exact .inr ⟨c, hc, .up h0 hb h3⟩
        · exact .inr ⟨b, (I.cov a b).2 ⟨h0, h, h1, h2⟩, .refl _⟩
    · rintro ⟨hne, h | ⟨c, hc, h⟩⟩
      · exact I.anc h hne
      · have h1 := ((I.cov a c).1 hc).2.1
        by_cases e : c = b
        · rw [← e]; exact h1
        · exact h1.trans (I.anc h e)

/-- The place at which n would stand in a list. -/
def seatN (T : List Nd) (l : List Nat) (n : Nat) : Nat := (l.takeWhile fun c => decide ((ndT T c).hi < (ndT T n).hi)).length
def insN (T : List Nd) (l : List Nat) (n : Nat) : List Nat := l.take (seatN T l n) ++ n :: l.drop (seatN T l n)
theorem seatN_le (T : List Nd) (l : List Nat) (n : Nat) : seatN T l n ≤ l.length := (List.takeWhile_sublist _).length_le
theorem mem_insN {T : List Nd} {l : List Nat} {n c : Nat} : c ∈ insN T l n ↔ c = n ∨ c ∈ l := by
  unfold insN
  rw [List.mem_append, List.mem_cons]
  constructor
  · rintro (h | h | h)
    · exact .inr (List.mem_of_mem_take h)
    · exact .inl h
    · exact .inr (List.mem_of_mem_drop h)
  · rintro (h | h)
    · exact .inr (.inl h)
    · rw [← List.take_append_drop (seatN T l n) l, List.mem_append] at h
      rcases h with h | h
      · exact .inl h
      · exact .inr (.inr h)
theorem insN_len (T : List Nd) (l : List Nat) (n : Nat) : (insN T l n).length = l.length + 1 := by
  have := seatN_le T l n
  unfold insN
  simp
  omega
theorem seatN_lt {T : List Nd} {l : List Nat} {n k : Nat} (hk : k < seatN T l n) : ∃ h : k < l.length, (ndT T l[k]).hi < (ndT T n).hi := by
  have h1 := seatN_le T l n
  have h2 : k < l.length := by omega
  refine ⟨h2, ?_⟩
  have e : (l.takeWhile fun c => decide ((ndT T c).hi < (ndT T n).hi))[k]'hk = l[k] := by
    have := List.takeWhile_prefix (p := fun c => decide ((ndT T c).hi < (ndT T n).hi)) (l := l)
    exact this.getElem _
  have h3 := List.all_eq_true.1 (List.all_takeWhile (p := fun c => decide ((ndT T c).hi < (ndT T n).hi)) (l := l)) _ (List.getElem_mem hk)
  rw [e] at h3
  exact of_decide_eq_true h3
theorem seatN_at {T : List Nd} {l : List Nat} {n : Nat} (h : seatN T l n < l.length) : (ndT T n).hi ≤ (ndT T l[seatN T l n]).hi := by
  unfold seatN at h ⊢
  induction l with
  | nil => simp at h
  | cons x r ih =>
    by_cases hx : (ndT T x).hi < (ndT T n).hi
    · simp only [List.takeWhile_cons, hx, decide_true, if_true, List.length_cons, List.getElem_cons_succ] at h ⊢
      exact ih (by omega)
    · simp only [List.takeWhile_cons, hx, decide_false, Bool.false_eq_true, if_false, List.length_nil, List.getElem_cons_zero]
      omega
theorem lft_pair {T : List Nd} (v : IvT T) {l : List Nat} (h : l.Pairwise (Lft T)) {i j : Nat} (hij : i < j) (hj : j < l.length) : (ndT T (l[i]'(by omega))).hi < (ndT T l[j]).lo :=
  (List.pairwise_iff_getElem.1 h i j (by omega) hj hij).lo v
theorem seatN_iff {T : List Nd} (v : IvT T) {l : List Nat} (hl : ∀ c ∈ l, c < T.length) (h : l.Pairwise (Lft T)) {n k : Nat} (hk : k < l.length) : (ndT T l[k]).hi < (ndT T n).hi ↔ k < seatN T l n := by
  constructor
  · intro h1
    by_cases h2 : k < seatN T l n
    · exact h2
    · have h3 := seatN_at (T := T) (l := l) (n := n) (by omega)
      by_cases h4 : seatN T l n = k
      · simp only [h4] at h3; omega
      · have h5 := lft_pair v h (i := seatN T l n) (j := k) (by omega) hk
        have := (v.ok l[k] (hl _ (List.getElem_mem hk))).2.1
        omega
  · intro h1
    obtain ⟨_, h2⟩ := seatN_lt h1
    exact h2
/-- Whether one of a list is above b: the first that does not end ahead of it tells. -/
theorem cov_iff {T : List Nd} (v : IvT T) {l : List Nat} (h : l.Pairwise (Lft T)) (b : Nat) (hb : b < T.length) : (∃ c ∈ l, Und T b c) ↔ ∃ h : seatN T l b < l.length, Und T b l[seatN T l b] := by
  constructor
  · rintro ⟨c, hc, hu⟩
    obtain ⟨k, hk, rfl⟩ := List.getElem_of_mem hc
    have h1 := v.und hu
    by_cases h2 : k < seatN T l b
    · obtain ⟨_, h3⟩ := seatN_lt h2; omega
    · refine ⟨by omega, ?_⟩
      by_cases h3 : seatN T l b = k
      · simp only [h3]; exact hu
      · have h4 := lft_pair v h (i := seatN T l b) (j := k) (by omega) hk
        have h5 := seatN_at (T := T) (l := l) (n := b) (by omega)
        have := (v.ok b hb).2.1
        omega
  · rintro ⟨h1, h2⟩
    exact ⟨_, List.getElem_mem h1, h2⟩
theorem insN_pair {T : List Nd} (o : OkT T) (v : IvT T) {l : List Nat} (h : l.Pairwise (Lft T)) {n : Nat} (hn : n < T.length) (hl : ∀ c ∈ l, c < T.length ∧ ¬ Und T n c ∧ ¬ Und T c n) : (insN T l n).Pairwise (Lft T) := by
  have h0 := h
  rw [← List.take_append_drop (seatN T l n) l, List.pairwise_append] at h0
  unfold insN
  rw [List.pairwise_append, List.pairwise_cons]
  have hB : ∀ c ∈ l.take (seatN T l n), Lft T c n := fun c hc => by
    obtain ⟨k, hk, rfl⟩ := List.mem_take_iff_getElem.1 hc
    obtain ⟨_, h1⟩ := seatN_lt (T := T) (l := l) (n := n) (k := k) (by omega)
    have h2 := hl l[k] (List.getElem_mem _)
    exact lft_hi o v h2.1 hn h2.2.2 h2.2.1 (by omega)
  have hA : ∀ c ∈ l.drop (seatN T l n), Lft T n c := fun c hc => by
    obtain ⟨k, hk, rfl⟩ := List.getElem_of_mem hc
    rw [List.getElem_drop]
    rw [List.length_drop] at hk
    have h2 := hl (l[seatN T l n + k]'(by omega)) (List.getElem_mem _)
    refine lft_hi o v hn h2.1 h2.2.1 h2.2.2 ?_
    by_cases h3 : (ndT T (l[seatN T l n + k]'(by omega))).hi < (ndT T n).hi
    · have := (seatN_iff v (fun c hc => (hl c hc).1) h (by omega)).1 h3
      omega
    · omega
  refine ⟨h0.1, ⟨hA, h0.2.1⟩, fun c hc d hd => ?_⟩
  rcases List.mem_cons.1 hd with rfl | hd
  · exact hB c hc
  · exact h0.2.2 c hc d hd
end Go.Proofs.YtbfpckomgpkjgaaGreat
