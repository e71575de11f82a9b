/-
  dag: the document's Past, as lists; pure.
-/
import Derived.Test.YtndkjmmmneianaaDoorDgZ
namespace Go.Proofs.YtndkjmmmneianaaDoor
open Go.RowKit

/-- What the document's Past has found, when the first i that it looks at are gone over. -/
structure PstI (G : Gr) (ids out : List Hh) (i : Nat) : Prop where
  nd : out.Nodup
  sub : ∀ x ∈ out, ∃ a, a < G.length ∧ idG G a = x ∧ ∃ z ∈ ids, ∃ n, placeG G z = some n ∧ Anc G a n
  cl : ∀ j x, (ids ++ out)[j]? = some x → j < i → ∀ n, placeG G x = some n → ∀ p ∈ parG G n, idG G p ∈ out
theorem PstI.start (G : Gr) (ids : List Hh) : PstI G ids [] 0 := ⟨List.nodup_nil, fun x hx => by simp at hx, fun j x _ h => by omega⟩
theorem PstI.le {G : Gr} {ids out : List Hh} {i : Nat} (h : PstI G ids out i) : out.length ≤ G.length := by
  have := h.nd.length_le_of_subset (l₂ := (List.range G.length).map (idG G)) (fun x hx => by
    obtain ⟨a, ha, hx, _⟩ := h.sub x hx
    exact List.mem_map.2 ⟨a, List.mem_range.2 ha, hx⟩)
  simpa using this
theorem PstI.skip {G : Gr} {ids out : List Hh} {i : Nat} (h : PstI G ids out i) {z : Hh} (hz : (ids ++ out)[i]? = some z) (hp : placeG G z = none) : PstI G ids out (i + 1) :=
  ⟨h.nd, h.sub, fun j x hx hj n hn => by
    by_cases e : j = i
    · subst e
      rw [hz] at hx
      cases hx
      rw [hp] at hn
      cases hn
    · exact h.cl j x hx (by omega) n hn⟩
theorem PstI.one {G : Gr} (o : OkG G) {ids out : List Hh} {i : Nat} (h : PstI G ids out i) {z : Hh} (hz : (ids ++ out)[i]? = some z) {n : Nat} (hp : placeG G z = some n) {x : Hh} (hx : x ∈ (parG G n).map (idG G)) (hno : x ∉ out) : PstI G ids (out ++ [x]) i := by
  obtain ⟨p, hpp, rfl⟩ := List.mem_map.1 hx
  have hpl : p < G.length := Nat.lt_trans (o.par n p hpp) (parG_lt hpp)
  have hil : i < (ids ++ out).length := (List.getElem?_eq_some_iff.1 hz).1
  refine ⟨?_, fun y hy => ?_, fun j y hy hj m hm q hq => ?_⟩
  · rw [List.nodup_append]
    exact ⟨h.nd, by simp, fun a ha b hb e => by rw [List.mem_singleton] at hb; subst hb e; exact hno ha⟩
  · rcases List.mem_append.1 hy with hy | hy
    · exact h.sub y hy
    · rw [List.mem_singleton] at hy
      subst hy
      refine ⟨p, hpl, rfl, ?_⟩
      rcases List.mem_append.1 (List.mem_of_getElem? hz) with hm | hm
      · exact ⟨z, hm, n, hp, .one hpp⟩
      · obtain ⟨a, ha, hid, z', hz', n', hn', hA⟩ := h.sub z hm
        rw [← hid, placeG_id o ha] at hp
        cases hp
        exact ⟨z', hz', n', hn', (Anc.one hpp).trans hA⟩
  · rw [← List.append_assoc, List.getElem?_append_left (by omega)] at hy
    exact List.mem_append_left _ (h.cl j y hy hj m hm q hq)
theorem PstI.close {G : Gr} {ids out : List Hh} {i : Nat} (h : PstI G ids out i) {z : Hh} (hz : (ids ++ out)[i]? = some z) {n : Nat} (hp : placeG G z = some n) (hall : ∀ x ∈ (parG G n).map (idG G), x ∈ out) : PstI G ids out (i + 1) :=
  ⟨h.nd, h.sub, fun j x hx hj m hm q hq => by
    by_cases e : j = i
    · subst e
      rw [hz] at hx
      cases hx
      rw [hp] at hm
      cases hm
      exact hall _ (List.mem_map.2 ⟨q, hq, rfl⟩)
    · exact h.cl j x hx (by omega) m hm q hq⟩
theorem PstI.anc {G : Gr} (o : OkG G) {ids out : List Hh} (h : PstI G ids out (ids ++ out).length) {a n : Nat} (k : Anc G a n) : ∀ x, x ∈ ids ++ out → placeG G x = some n → idG G a ∈ out := by
  have cl : ∀ x, x ∈ ids ++ out → ∀ n, placeG G x = some n → ∀ p ∈ parG G n, idG G p ∈ out := fun x hx n hn p hp => by
    obtain ⟨j, hj, rfl⟩ := List.getElem_of_mem hx
    exact h.cl j _ (List.getElem?_eq_getElem hj) hj n hn p hp
  induction k with
  | one k => exact fun x hx hn => cl x hx _ hn _ k
  | @more q n k1 k2 ih =>
    intro x hx hn
    have h1 := cl x hx _ hn _ k2
    exact ih (idG G q) (List.mem_append_right _ h1) (placeG_id o k1.bnd)
theorem PstI.done {G : Gr} (o : OkG G) {ids out : List Hh} (h : PstI G ids out (ids ++ out).length) : risH out = pastG G ids := by
  unfold pastG
  refine ansG_of fun x => ⟨fun hx => ?_, ?_⟩
  · obtain ⟨a, ha, hid, z, hz, n, hn, hA⟩ := h.sub x hx
    exact ⟨a, ha, ⟨z, hz, n, hn, hA⟩, hid⟩
  · rintro ⟨a, ha, ⟨z, hz, n, hn, hA⟩, rfl⟩
    exact h.anc o hA z (List.mem_append_left _ hz) hn
end Go.Proofs.YtndkjmmmneianaaDoor
