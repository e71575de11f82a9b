/-
  dag: graphs as lists of hashes with their parents' places; pasts.
-/
import Derived.Test.YtndkjmmmneianaaDoorDg0
namespace Go.Proofs.YtndkjmmmneianaaDoor

/-- A hash, and its parents' places, in the order in which they were handed in. -/
structure NodeG where
  id : Hh
  par : List Nat
deriving instance DecidableEq for NodeG
abbrev Gr := List NodeG
def parG (G : Gr) (n : Nat) : List Nat := (G[n]?.map NodeG.par).getD []
def idG (G : Gr) (n : Nat) : Hh := (G[n]?.map NodeG.id).getD default
def placeG (G : Gr) (h : Hh) : Option Nat := G.findIdx? fun x => x.id == h
/-- The one at m stands in the past of the one at n. -/
inductive Anc (G : Gr) : Nat → Nat → Prop
  | one {p n : Nat} : p ∈ parG G n → Anc G p n
  | more {p q n : Nat} : Anc G p q → q ∈ parG G n → Anc G p n
structure OkG (G : Gr) : Prop where
  ids : (G.map NodeG.id).Nodup
  par : ∀ n p, p ∈ parG G n → p < n
  dis : ∀ n, (parG G n).Nodup

theorem parG_lt {G : Gr} {n p : Nat} (h : p ∈ parG G n) : n < G.length := by
  unfold parG at h
  rcases Nat.lt_or_ge n G.length with h1 | h1
  · exact h1
  · rw [List.getElem?_eq_none h1] at h; simp at h
theorem parG_at {G : Gr} {n : Nat} (h : n < G.length) : parG G n = G[n].par := by unfold parG; rw [List.getElem?_eq_getElem h]; rfl
theorem idG_at {G : Gr} {n : Nat} (h : n < G.length) : idG G n = G[n].id := by unfold idG; rw [List.getElem?_eq_getElem h]; rfl
theorem Anc.lt {G : Gr} (o : OkG G) {m n : Nat} (h : Anc G m n) : m < n := by
  induction h with
  | one h => exact o.par _ _ h
  | more _ h ih => have := o.par _ _ h; omega
theorem Anc.bnd {G : Gr} {m n : Nat} (h : Anc G m n) : n < G.length := by
  cases h with
  | one h => exact parG_lt h
  | more _ h => exact parG_lt h
theorem Anc.trans {G : Gr} {a b c : Nat} (h : Anc G a b) (k : Anc G b c) : Anc G a c := by
  induction k with
  | one k => exact .more h k
  | more _ k ih => exact .more ih k
theorem anc_step {G : Gr} {m n : Nat} : Anc G m n ↔ ∃ p ∈ parG G n, m = p ∨ Anc G m p := by
  constructor
  · intro h
    cases h with
    | one h => exact ⟨_, h, .inl rfl⟩
    | more h k => exact ⟨_, k, .inr h⟩
  · rintro ⟨p, hp, rfl | h⟩
    · exact .one hp
    · exact .more h hp
theorem parG_snoc {G : Gr} {x : NodeG} {n : Nat} (h : n < G.length) : parG (G ++ [x]) n = parG G n := by
  unfold parG; rw [List.getElem?_append_left h]
theorem parG_new (G : Gr) (x : NodeG) : parG (G ++ [x]) G.length = x.par := by
  unfold parG; rw [List.getElem?_append_right (Nat.le_refl _)]; simp
theorem idG_snoc {G : Gr} {x : NodeG} {n : Nat} (h : n < G.length) : idG (G ++ [x]) n = idG G n := by
  unfold idG; rw [List.getElem?_append_left h]
theorem idG_new (G : Gr) (x : NodeG) : idG (G ++ [x]) G.length = x.id := by
  unfold idG; rw [List.getElem?_append_right (Nat.le_refl _)]; simp
theorem anc_old {G : Gr} {x : NodeG} (o : OkG G) {m n : Nat} (h : n < G.length) : Anc (G ++ [x]) m n ↔ Anc G m n := by
  induction n using Nat.strongRecOn generalizing m with
  | _ n ih =>
    rw [anc_step, anc_step, parG_snoc h]
    constructor
    · rintro ⟨p, hp, h1⟩
      have := o.par _ _ hp
      exact ⟨p, hp, h1.imp id fun k => (ih p this (by omega)).1 k⟩
    · rintro ⟨p, hp, h1⟩
      have := o.par _ _ hp
      exact ⟨p, hp, h1.imp id fun k => (ih p this (by omega)).2 k⟩
theorem anc_new {G : Gr} {x : NodeG} (o : OkG G) (hx : ∀ p ∈ x.par, p < G.length) {m : Nat} : Anc (G ++ [x]) m G.length ↔ ∃ p ∈ x.par, m = p ∨ Anc G m p := by
  rw [anc_step, parG_new]
  constructor
  · rintro ⟨p, hp, h1⟩
    exact ⟨p, hp, h1.imp id fun k => (anc_old o (hx p hp)).1 k⟩
  · rintro ⟨p, hp, h1⟩
    exact ⟨p, hp, h1.imp id fun k => (anc_old o (hx p hp)).2 k⟩

theorem placeG_some {G : Gr} {h : Hh} {n : Nat} (k : placeG G h = some n) : n < G.length ∧ idG G n = h := by
  unfold placeG at k
  rw [List.findIdx?_eq_some_iff_getElem] at k
  obtain ⟨h1, h2, _⟩ := k
  exact ⟨h1, by rw [idG_at h1]; exact beq_iff_eq.1 h2⟩
theorem placeG_none {G : Gr} {h : Hh} : placeG G h = none ↔ ∀ n, n < G.length → idG G n ≠ h := by
  unfold placeG
  rw [List.findIdx?_eq_none_iff]
  constructor
  · intro k n hn e
    have := k G[n] (List.getElem_mem hn)
    rw [idG_at hn] at e
    simp [e] at this
  · intro k x hx
    obtain ⟨n, hn, rfl⟩ := List.getElem_of_mem hx
    have := k n hn
    rw [idG_at hn] at this
    exact beq_eq_false_iff_ne.2 this
theorem idG_inj {G : Gr} (o : OkG G) {m n : Nat} (hm : m < G.length) (hn : n < G.length) (h : idG G m = idG G n) : m = n := by
  have h1 := o.ids
  rw [idG_at hm, idG_at hn] at h
  have := (List.getElem_inj (xs := G.map NodeG.id) (i := m) (j := n) (h₀ := by simpa using hm) (h₁ := by simpa using hn) h1).1
  simpa using this (by simpa using h)
theorem placeG_id {G : Gr} (o : OkG G) {n : Nat} (hn : n < G.length) : placeG G (idG G n) = some n := by
  cases h : placeG G (idG G n) with
  | none => exact absurd rfl (placeG_none.1 h n hn)
  | some m =>
    obtain ⟨h1, h2⟩ := placeG_some h
    rw [idG_inj o h1 hn h2]
theorem placeG_snoc {G : Gr} {x : NodeG} {h : Hh} : placeG (G ++ [x]) h = (placeG G h).or (if x.id = h then some G.length else none) := by
  unfold placeG
  rw [List.findIdx?_append]
  cases h1 : List.findIdx? (fun y : NodeG => y.id == h) G with
  | some n => simp
  | none =>
    by_cases e : x.id = h
    · simp [List.findIdx?_cons, e]
    · have : (x.id == h) = false := beq_eq_false_iff_ne.2 e
      rw [List.findIdx?_cons, if_neg e, this]
      rfl

/-- What Add answers, and what there is behind it. -/
def addE (G : Gr) (id : Hh) (ps : List Hh) : Nat :=
  if (placeG G id).isSome then 7 else if ps = [] ∨ ¬ (risH ps).length = ps.length then 9 else if ps.any (fun p => (placeG G p).isNone) then 6 else 0
def addN (G : Gr) (id : Hh) (ps : List Hh) : NodeG := ⟨id, ps.map fun p => (placeG G p).getD 0⟩
def addG (G : Gr) (id : Hh) (ps : List Hh) : Gr := if addE G id ps = 0 then G ++ [addN G id ps] else G
def newG (r : Hh) : Gr := [⟨r, []⟩]
theorem nilG_ok : OkG [] where
  ids := by simp
  par n p h := by have := parG_lt h; simp at this
  dis n := by unfold parG; simp
theorem newG_ok (r : Hh) : OkG (newG r) where
  ids := by simp [newG]
  par n p h := by
    have h1 := parG_lt h
    rw [parG_at h1] at h
    have : n = 0 := by simp [newG] at h1; exact h1
    subst this
    simp [newG] at h
  dis n := by
    unfold parG newG
    cases n with
    | zero => simp
    | succ n => simp
theorem addE_zero {G : Gr} {id : Hh} {ps : List Hh} (h : addE G id ps = 0) : placeG G id = none ∧ ps ≠ [] ∧ ps.Nodup ∧ ∀ p ∈ ps, ∃ n, placeG G p = some n := by
  unfold addE at h
  split at h
  · cases h
  · next h1 =>
    split at h
    · cases h
    · next h2 =>
      split at h
      · cases h
      · next h3 =>
        refine ⟨by simpa using h1, fun e => h2 (.inl e), ?_, fun p hp => ?_⟩
        · by_cases e : (risH ps).length = ps.length
          · exact (risH_len ps).1 e
          · exact absurd (.inr e) h2
        · cases e : placeG G p with
          | some n => exact ⟨n, rfl⟩
          | none => exact absurd (List.any_eq_true.2 ⟨p, hp, by rw [e]; rfl⟩) h3
theorem snoc_ok {G : Gr} (o : OkG G) {x : NodeG} (h1 : placeG G x.id = none) (h2 : ∀ p ∈ x.par, p < G.length) (h3 : x.par.Nodup) : OkG (G ++ [x]) where
  ids := by
    rw [List.map_append, List.nodup_append]
    refine ⟨o.ids, by simp, fun a ha b hb e => ?_⟩
    simp at hb
    obtain ⟨y, hy, rfl⟩ := List.mem_map.1 ha
    obtain ⟨n, hn, rfl⟩ := List.getElem_of_mem hy
    exact placeG_none.1 h1 n hn (by rw [idG_at hn, e, hb])
  par n p h := by
    have h4 := parG_lt h
    rw [List.length_append, List.length_singleton] at h4
    by_cases h5 : n < G.length
    · rw [parG_snoc h5] at h; exact o.par n p h
    · obtain rfl : n = G.length := by omega
      rw [parG_new] at h
      exact h2 p h
  dis n := by
    by_cases h5 : n < G.length
    · rw [parG_snoc h5]; exact o.dis n
    · by_cases h6 : n = G.length
      · subst h6; rw [parG_new]; exact h3
      · unfold parG; rw [List.getElem?_eq_none (by simp; omega)]; simp
theorem nodup_map_on {α β : Type} {f : α → β} : ∀ {l : List α}, (∀ a ∈ l, ∀ b ∈ l, f a = f b → a = b) → l.Nodup → (l.map f).Nodup
  | [], _, _ => by simp
  | a :: l, h, k => by
    have k' := List.nodup_cons.1 k
    rw [List.map_cons, List.nodup_cons]
    refine ⟨fun hm => ?_, nodup_map_on (fun x hx y hy => h x (List.mem_cons_of_mem _ hx) y (List.mem_cons_of_mem _ hy)) k'.2⟩
    obtain ⟨b, hb, e⟩ := List.mem_map.1 hm
    have := h a (by simp) b (List.mem_cons_of_mem _ hb) e.symm
    subst this
    exact k'.1 hb
theorem addN_lt {G : Gr} {id : Hh} {ps : List Hh} (h : addE G id ps = 0) : ∀ p ∈ (addN G id ps).par, p < G.length := by
  intro p hp
  obtain ⟨a, ha, rfl⟩ := List.mem_map.1 hp
  obtain ⟨n, hn⟩ := (addE_zero h).2.2.2 a ha
  rw [hn]
  exact (placeG_some hn).1
theorem addN_nodup {G : Gr} {id : Hh} {ps : List Hh} (h : addE G id ps = 0) : (addN G id ps).par.Nodup := by
  obtain ⟨_, _, h3, h4⟩ := addE_zero h
  refine nodup_map_on (fun a ha b hb e => ?_) h3
  obtain ⟨n, hn⟩ := h4 a ha
  obtain ⟨m, hm⟩ := h4 b hb
  rw [hn, hm] at e
  simp at e
  subst e
  rw [← (placeG_some hn).2, (placeG_some hm).2]
theorem addG_ok {G : Gr} (o : OkG G) (id : Hh) (ps : List Hh) : OkG (addG G id ps) := by
  unfold addG
  split
  · next h => exact snoc_ok o (addE_zero h).1 (addN_lt h) (addN_nodup h)
  · exact o
theorem addG_len (G : Gr) (id : Hh) (ps : List Hh) : (addG G id ps).length ≤ G.length + 1 := by
  unfold addG; split <;> simp

/-- Of places, those that are asked for; as hashes, rising. -/
noncomputable def selG (G : Gr) (f : Nat → Prop) : List Nat := (List.range G.length).filter fun n => @decide (f n) (Classical.propDecidable _)
noncomputable def ansG (G : Gr) (f : Nat → Prop) : List Hh := risH ((selG G f).map (idG G))
theorem mem_selG {G : Gr} {f : Nat → Prop} {n : Nat} : n ∈ selG G f ↔ n < G.length ∧ f n := by
  unfold selG
  rw [List.mem_filter, List.mem_range]
  exact and_congr_right fun _ => @decide_eq_true_iff _ (Classical.propDecidable _)
theorem selG_nodup (G : Gr) (f : Nat → Prop) : (selG G f).Nodup := List.nodup_range.filter _
theorem mem_ansG {G : Gr} {f : Nat → Prop} {h : Hh} : h ∈ ansG G f ↔ ∃ n, n < G.length ∧ f n ∧ idG G n = h := by
  unfold ansG
  rw [mem_risH, List.mem_map]
  constructor
  · rintro ⟨n, hn, rfl⟩
    exact ⟨n, (mem_selG.1 hn).1, (mem_selG.1 hn).2, rfl⟩
  · rintro ⟨n, h1, h2, rfl⟩
    exact ⟨n, mem_selG.2 ⟨h1, h2⟩, rfl⟩
/-- Whatever list has the same hashes. -/
theorem ansG_of {G : Gr} {f : Nat → Prop} {l : List Hh} (h : ∀ x, x ∈ l ↔ ∃ n, n < G.length ∧ f n ∧ idG G n = x) : risH l = ansG G f := by
  unfold ansG
  exact risH_eq fun x => (h x).trans (by rw [← mem_ansG]; unfold ansG; rw [mem_risH])
/-- As the program sorts them. -/
theorem srt_places {G : Gr} (o : OkG G) {l : List Nat} (hd : l.Nodup) (hl : ∀ n ∈ l, n < G.length) : srtH (l.map (idG G)) = ansG G (fun n => n ∈ l) := by
  rw [srtH_nodup (nodup_map_on (fun a ha b hb e => idG_inj o (hl a ha) (hl b hb) e) hd)]
  refine ansG_of fun x => ?_
  rw [List.mem_map]
  constructor
  · rintro ⟨n, hn, rfl⟩; exact ⟨n, hl n hn, hn, rfl⟩
  · rintro ⟨n, _, hn, rfl⟩; exact ⟨n, hn, rfl⟩
theorem ansG_congr {G : Gr} {f g : Nat → Prop} (h : ∀ n, n < G.length → (f n ↔ g n)) : ansG G f = ansG G g := by
  unfold ansG
  refine risH_eq fun x => ?_
  rw [List.mem_map, List.mem_map]
  constructor
  · rintro ⟨n, hn, rfl⟩
    exact ⟨n, mem_selG.2 ⟨(mem_selG.1 hn).1, (h n (mem_selG.1 hn).1).1 (mem_selG.1 hn).2⟩, rfl⟩
  · rintro ⟨n, hn, rfl⟩
    exact ⟨n, mem_selG.2 ⟨(mem_selG.1 hn).1, (h n (mem_selG.1 hn).1).2 (mem_selG.1 hn).2⟩, rfl⟩
theorem ansG_length {G : Gr} (o : OkG G) (f : Nat → Prop) : (ansG G f).length = (selG G f).length := by
  unfold ansG
  rw [risH_nodup (nodup_map_on (fun a ha b hb e => idG_inj o (mem_selG.1 ha).1 (mem_selG.1 hb).1 e) (selG_nodup G f)), List.length_map]
/-- A list of few numbers has that length at most. -/
theorem len_le_of : ∀ {n : Nat} {l : List Nat}, l.Nodup → (∀ x ∈ l, x < n) → l.length ≤ n
  | 0, l, _, h => by
    cases l with
    | nil => simp
    | cons a r => exact absurd (h a (by simp)) (by omega)
  | n + 1, l, hd, h => by
    by_cases hn : n ∈ l
    · have h1 := len_le_of (n := n) (hd.erase n) (fun x hx => by
        have h2 := h x (List.mem_of_mem_erase hx)
        have h3 : x ≠ n := fun e => by subst e; exact (List.Nodup.not_mem_erase hd) hx
        omega)
      rw [List.length_erase_of_mem hn] at h1
      omega
    · have h1 := len_le_of (n := n) hd (fun x hx => by
        have h2 := h x hx
        have h3 : x ≠ n := fun e => by subst e; exact hn hx
        omega)
      omega
end Go.Proofs.YtndkjmmmneianaaDoor
