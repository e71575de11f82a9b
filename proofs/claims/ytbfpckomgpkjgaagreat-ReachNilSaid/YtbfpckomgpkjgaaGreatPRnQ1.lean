/-
  tree: what a child gets, pure; numbers.
  dag: hashes, how they stand, and lists of them that rise, each once.
-/
import Derived.Test.YtbfpckomgpkjgaaGreatTe2
import Derived.Lib.Bytealg
import Derived.Sort.LotA
namespace Go.Proofs.YtbfpckomgpkjgaaGreat


/-- The first number that a node has left. -/
def freeT (T : List Nd) (p : Nat) : Nat := match (kidsT T p).getLast? with
  | none => (ndT T p).lo
  | some k => (ndT T k).hi + 1
theorem free_le {T : List Nd} (v : IvT T) {p : Nat} (hp : p < T.length) : (ndT T p).lo ≤ freeT T p ∧ freeT T p ≤ (ndT T p).hi := by
  have h := v.ok p hp
  unfold freeT
  cases hk : (kidsT T p).getLast? with
  | none => exact ⟨Nat.le_refl _, h.2.1⟩
  | some k =>
    obtain ⟨h0, h1, h2⟩ := mem_kids.1 (List.mem_of_getLast? hk)
    have h3 := v.sub k h0 h1
    have h4 := v.ok k h1
    rw [h2] at h3
    exact ⟨by show _ ≤ _ + 1; omega, by show _ + 1 ≤ _; omega⟩
theorem last_max {l : List Nat} (h : l.Pairwise (· < ·)) {k x : Nat} (hk : l.getLast? = some k) (hx : x ∈ l) : x ≤ k := by
  obtain ⟨j, hj, rfl⟩ := List.getElem_of_mem hx
  rw [List.getLast?_eq_getElem?, List.getElem?_eq_getElem (by omega)] at hk
  injection hk with hk
  subst hk
  by_cases e : j = l.length - 1
  · subst e; exact Nat.le_refl _
  · exact Nat.le_of_lt (List.pairwise_iff_getElem.1 h j (l.length - 1) hj (by omega) (by omega))
theorem free_above {T : List Nd} (v : IvT T) {p a : Nat} (ha : a ∈ kidsT T p) : (ndT T a).hi < freeT T p := by
  unfold freeT
  cases hk : (kidsT T p).getLast? with
  | none => rw [List.getLast?_eq_none_iff] at hk; rw [hk] at ha; cases ha
  | some k =>
    show _ < _ + 1
    have h1 := last_max (kids_sorted T p) hk ha
    obtain ⟨a0, a1, a2⟩ := mem_kids.1 ha
    obtain ⟨k0, k1, k2⟩ := mem_kids.1 (List.mem_of_getLast? hk)
    by_cases e : a = k
    · subst e; omega
    · have h2 := v.sib a k a0 (by omega) k1 (by rw [a2, k2])
      have := v.ok k k1
      omega
/-- One more behind its parent. -/
theorem OkT.add {T : List Nd} (o : OkT T) {x : Nd} (hp : x.par < T.length) (hd : x.dep = (ndT T x.par).dep + 1) (hm : T.length + 1 ≤ 1000) : OkT (T ++ [x]) where
  ne := by simp
  r := by rw [ndT_app o.ne]; exact o.r
  lt n h0 h1 := by
    by_cases e : n < T.length
    · rw [ndT_app e]; exact o.lt n h0 e
    · obtain rfl : n = T.length := by simp at h1; omega
      rw [ndT_last]; exact hp
  dep n h0 h1 := by
    by_cases e : n < T.length
    · rw [ndT_app e, ndT_app (by have := o.lt n h0 e; omega)]; exact o.dep n h0 e
    · obtain rfl : n = T.length := by simp at h1; omega
      rw [ndT_last, ndT_app hp]; exact hd
  max := by simp; omega
theorem IvT.add {T : List Nd} (v : IvT T) (o : OkT T) {x : Nd} (hp : x.par < T.length) (h1 : freeT T x.par ≤ x.lo) (h2 : x.lo ≤ x.hi) (h3 : x.hi < (ndT T x.par).hi) : IvT (T ++ [x]) where
  ok n hn := by
    by_cases e : n < T.length
    · rw [ndT_app e]; exact v.ok n e
    · obtain rfl : n = T.length := by simp at hn; omega
      rw [ndT_last]
      have := free_le v hp
      have := v.ok _ hp
      omega
  sub n h0 hn := by
    by_cases e : n < T.length
    · rw [ndT_app e, ndT_app (by have := o.lt n h0 e; omega)]; exact v.sub n h0 e
    · obtain rfl : n = T.length := by simp at hn; omega
      rw [ndT_last, ndT_app hp]
      have := free_le v hp
      omega
  sib a b h0 hab hb hpar := by
    by_cases e : b < T.length
    · rw [ndT_app e, ndT_app (by omega)]
      rw [ndT_app e, ndT_app (by omega)] at hpar
      exact v.sib a b h0 hab e hpar
    · obtain rfl : b = T.length := by simp at hb; omega
      rw [ndT_last] at hpar ⊢
      rw [ndT_app hab] at hpar ⊢
      have := free_above v (mem_kids.2 ⟨h0, hab, hpar⟩)
      omega
theorem und_app {T : List Nd} (o : OkT T) {x : Nd} {a b : Nat} (ha : a < T.length) (h : Und (T ++ [x]) a b) : Und T a b := by
  induction h with
  | refl a => exact .refl a
  | @up a b h0 h1 h2 ih =>
    have := o.lt a h0 ha
    rw [ndT_app ha] at h2 ih
    exact .up h0 ha (ih (by omega))
theorem und_up {T : List Nd} {x : Nd} {a b : Nat} (h : Und T a b) : Und (T ++ [x]) a b := by
  induction h with
  | refl a => exact .refl a
  | @up a b h0 h1 h2 ih => exact .up h0 (by simp; omega) (by rw [ndT_app h1]; exact ih)
/-- Ahead of a dealing: the one that came has no numbers yet. -/
theorem IvT.out {T : List Nd} (v : IvT T) (o : OkT T) {x : Nd} (hp : x.par < T.length) {top : Nat} (ht : top < T.length) (hu : Und T x.par top) : IvOut (T ++ [x]) top := by
  have hn : Und (T ++ [x]) T.length top := .up o.ne (by simp) (by rw [ndT_last]; exact und_up hu)
  have key : ∀ n, n < (T ++ [x]).length → (n = top ∨ ¬ Und (T ++ [x]) n top) → n < T.length := fun n h1 h2 => by
    by_cases e : n < T.length
    · exact e
    · obtain rfl : n = T.length := by simp at h1; omega
      rcases h2 with h2 | h2
      · omega
      · exact absurd hn h2
  refine ⟨fun n h1 h2 => ?_, fun n h0 h1 h2 => ?_, fun a b h0 hab hb ha2 hb2 hpar => ?_⟩
  · have e := key n h1 h2
    rw [ndT_app e]; exact v.ok n e
  · have e := key n h1 h2
    rw [ndT_app e, ndT_app (by have := o.lt n h0 e; omega)]; exact v.sub n h0 e
  · have e := key b hb hb2
    rw [ndT_app e, ndT_app (by omega)]
    rw [ndT_app e, ndT_app (by omega)] at hpar
    exact v.sib a b h0 hab e hpar
end Go.Proofs.YtbfpckomgpkjgaaGreat

namespace Go.Proofs.YtbfpckomgpkjgaaGreat
open Go.Sort

/-- A hash: 32 bytes. -/
abbrev Hh := { l : List UInt8 // l.length = 32 }
instance : Inhabited Hh := ⟨⟨List.replicate 32 0, by simp⟩⟩

theorem dcmp_turn (a b : List UInt8) : Lib.compareBytes b a = - Lib.compareBytes a b := by
  induction a generalizing b with
  | nil => cases b <;> simp [Lib.compareBytes]
  | cons x a ih =>
    cases b with
    | nil => simp [Lib.compareBytes]
    | cons y b =>
      rw [Lib.compareBytes, Lib.compareBytes, ih]
      by_cases h : x < y
      · have h2 : ¬ y < x := fun e => UInt8.lt_irrefl _ (UInt8.lt_trans h e)
        simp [h, h2]
      · by_cases h2 : y < x
        · simp [h, h2]
        · simp [h, h2]
theorem dcmp_three (a b : List UInt8) : Lib.compareBytes a b = -1 ∨ Lib.compareBytes a b = 0 ∨ Lib.compareBytes a b = 1 := by
  induction a generalizing b with
  | nil => cases b <;> simp [Lib.compareBytes]
  | cons x a ih =>
    cases b with
    | nil => simp [Lib.compareBytes]
    | cons y b =>
      rw [Lib.compareBytes]
      by_cases h : x < y
      · simp [h]
      · by_cases h2 : y < x
        · simp [h, h2]
        · simp [h, h2, ih]
theorem dcmp_zero (a b : List UInt8) : Lib.compareBytes a b = 0 ↔ a = b := by
  induction a generalizing b with
  | nil => cases b <;> simp [Lib.compareBytes]
  | cons x a ih =>
    cases b with
    | nil => simp [Lib.compareBytes]
    | cons y b =>
      rw [Lib.compareBytes]
      by_cases h : x < y
      · have hne : ¬ x = y := fun e => by subst e; exact UInt8.lt_irrefl _ h
        simp [h, hne]
      · by_cases h2 : y < x
        · have hne : ¬ x = y := fun e => by subst e; exact UInt8.lt_irrefl _ h2
          simp [h, h2, hne]
        · have he : x = y := UInt8.le_antisymm (UInt8.not_lt.1 h2) (UInt8.not_lt.1 h)
          subst he
          simp [h, ih]
theorem dcmp_cons (x y : UInt8) (a b : List UInt8) : (Lib.compareBytes (x :: a) (y :: b) < 0) ↔ (x < y ∨ (x = y ∧ Lib.compareBytes a b < 0)) := by
  rw [Lib.compareBytes]
  by_cases h : x < y
  · simp [h]
  · by_cases h2 : y < x
    · have hne : ¬ x = y := fun e => by subst e; exact UInt8.lt_irrefl _ h2
      simp [h, h2, hne]
    · have he : x = y := UInt8.le_antisymm (UInt8.not_lt.1 h2) (UInt8.not_lt.1 h)
      subst he
      simp [h]
theorem dcmp_trans (a b c : List UInt8) (h : Lib.compareBytes a b < 0) (k : Lib.compareBytes b c < 0) : Lib.compareBytes a c < 0 := by
  induction a generalizing b c with
  | nil =>
    cases c with
    | nil => cases b <;> simp [Lib.compareBytes] at k h
    | cons z c => simp [Lib.compareBytes]
  | cons x a ih =>
    cases b with
    | nil => simp [Lib.compareBytes] at h
    | cons y b =>
      cases c with
      | nil => simp [Lib.compareBytes] at k
      | cons z c =>
        rw [dcmp_cons] at h k ⊢
        rcases h with h | ⟨rfl, h⟩
        · rcases k with k | ⟨rfl, k⟩
          · exact .inl (UInt8.lt_trans h k)
          · exact .inl h
        · rcases k with k | ⟨rfl, k⟩
          · exact .inl k
          · exact .inr ⟨rfl, ih _ _ h k⟩

def cmpH (a b : Hh) : Int := Lib.compareBytes a.1 b.1
def ltH (a b : Hh) : Bool := decide (cmpH a b < 0)
theorem ltH_iff (a b : Hh) : ltH a b = true ↔ Lib.compareBytes a.1 b.1 < 0 := decide_eq_true_iff
theorem ltH_irrefl (a : Hh) : ltH a a = false := by
  have := (dcmp_zero a.1 a.1).2 rfl
  simp [ltH, cmpH, this]
theorem ltH_trans {a b c : Hh} (h : ltH a b = true) (k : ltH b c = true) : ltH a c = true := by
  rw [ltH_iff] at *
  exact dcmp_trans _ _ _ h k
theorem ltH_tot {a b : Hh} (h : a ≠ b) : ltH a b = true ∨ ltH b a = true := by
  have h0 : ¬ Lib.compareBytes a.1 b.1 = 0 := fun e => h (Subtype.ext ((dcmp_zero _ _).1 e))
  have h1 := dcmp_turn a.1 b.1
  rw [ltH_iff, ltH_iff]
  omega
theorem ltH_asymm {a b : Hh} (h : ltH a b = true) : ltH b a = false := by
  cases k : ltH b a with
  | false => rfl
  | true => have := ltH_trans h k; rw [ltH_irrefl] at this; cases this
theorem ltH_ne {a b : Hh} (h : ltH a b = true) : a ≠ b := fun e => by subst e; rw [ltH_irrefl] at h; cases h
theorem swoH : SWO ltH where
  irrefl := ltH_irrefl
  trans x y z h k := ltH_trans h k
  ntrans x y z h k := by
    cases e : ltH x z with
    | false => rfl
    | true =>
      by_cases h1 : y = x
      · subst h1; rw [e] at k; cases k
      · rcases ltH_tot h1 with h2 | h2
        · have := ltH_trans h2 e; rw [this] at k; cases k
        · rw [h2] at h; cases h
theorem totH (x y : Hh) (h : ltH x y = false) (k : ltH y x = false) : x = y := by
  by_cases e : x = y
  · exact e
  · rcases ltH_tot e with h1 | h1
    · rw [h1] at h; cases h
    · rw [h1] at k; cases k

/-- A list that rises, each once. -/
def Rises (l : List Hh) : Prop := l.Pairwise fun a b => ltH a b = true
theorem Rises.nodup {l : List Hh} (h : Rises l) : l.Nodup := h.imp fun k => ltH_ne k
theorem Rises.unique : ∀ {l m : List Hh}, Rises l → Rises m → (∀ x, x ∈ l ↔ x ∈ m) → l = m
  | [], [], _, _, _ => rfl
  | [], y :: m, _, _, h => by have := (h y).2 (by simp); simp at this
  | x :: l, [], _, _, h => by have := (h x).1 (by simp); simp at this
  | x :: l, y :: m, hl, hm, h => by
    have hl' := List.pairwise_cons.1 hl
    have hm' := List.pairwise_cons.1 hm
    have e : x = y := by
      rcases List.mem_cons.1 ((h x).1 (by simp)) with e | e
      · exact e
      · rcases List.mem_cons.1 ((h y).2 (by simp)) with e2 | e2
        · exact e2.symm
        · have h1 := hm'.1 x e
          have h2 := hl'.1 y e2
          rw [ltH_asymm h1] at h2; cases h2
    subst e
    congr 1
    refine Rises.unique hl'.2 hm'.2 fun z => ⟨fun hz => ?_, fun hz => ?_⟩
    · rcases List.mem_cons.1 ((h z).1 (List.mem_cons_of_mem _ hz)) with e | e
      · subst e; have := hl'.1 z hz; rw [ltH_irrefl] at this; cases this
      · exact e
    · rcases List.mem_cons.1 ((h z).2 (List.mem_cons_of_mem _ hz)) with e | e
      · subst e; have := hm'.1 z hz; rw [ltH_irrefl] at this; cases this
      · exact e

def insH (x : Hh) : List Hh → List Hh
  | [] => [x]
  | y :: r => if ltH x y then x :: y :: r else y :: insH x r
theorem mem_insH {x z : Hh} {l : List Hh} : z ∈ insH x l ↔ z = x ∨ z ∈ l := by
  induction l with
  | nil => simp [insH]
  | cons y r ih =>
    unfold insH
    split
    · simp
    · simp only [List.mem_cons, ih]
      constructor
      · rintro (h | h | h) <;> simp [h]
      · rintro (h | h | h) <;> simp [h]
theorem length_insH (x : Hh) (l : List Hh) : (insH x l).length = l.length + 1 := by
  induction l with
  | nil => simp [insH]
  | cons y r ih => unfold insH; split <;> simp [ih]
theorem rises_insH {x : Hh} {l : List Hh} (h : Rises l) (hx : x ∉ l) : Rises (insH x l) := by
  induction l with
  | nil => simp [insH, Rises]
  | cons y r ih =>
    have h' := List.pairwise_cons.1 h
    unfold insH
    split
    · next hlt =>
      refine List.pairwise_cons.2 ⟨fun z hz => ?_, h⟩
      rcases List.mem_cons.1 hz with rfl | hz
      · exact hlt
      · exact ltH_trans hlt (h'.1 z hz)
    · next hlt =>
      refine List.pairwise_cons.2 ⟨fun z hz => ?_, ih h'.2 (fun hm => hx (List.mem_cons_of_mem _ hm))⟩
      rcases mem_insH.1 hz with rfl | hz
      · rcases ltH_tot (a := z) (b := y) (fun e => hx (by simp [e])) with h1 | h1
        · exact absurd h1 hlt
        · exact h1
      · exact h'.1 z hz
/-- The same, rising, each once. -/
def risStep (out : List Hh) (x : Hh) : List Hh := if x ∈ out then out else insH x out
def risH (l : List Hh) : List Hh := l.foldl risStep []
theorem risH_fold {l : List Hh} : ∀ {out : List Hh}, Rises out → Rises (l.foldl risStep out) ∧ (∀ x, x ∈ l.foldl risStep out ↔ x ∈ out ∨ x ∈ l) ∧ (l.foldl risStep out).length ≤ out.length + l.length ∧ (l.Nodup → (∀ x ∈ l, x ∉ out) → (l.foldl risStep out).length = out.length + l.length) := by
  induction l with
  | nil => intro out h; simp [h]
  | cons y r ih =>
    intro out h
    rw [List.foldl_cons]
    by_cases hy : y ∈ out
    · have e : risStep out y = out := if_pos hy
      rw [e]
      obtain ⟨h1, h2, h3, h4⟩ := ih h
      refine ⟨h1, fun x => ?_, by simp; omega, fun _ hn => absurd hy (hn y (by simp))⟩
      rw [h2 x, List.mem_cons]
      constructor
      · rintro (h | h) <;> simp [h]
      · rintro (h | rfl | h)
        · exact .inl h
        · exact .inl hy
        · exact .inr h
    · have e : risStep out y = insH y out := if_neg hy
      rw [e]
      obtain ⟨h1, h2, h3, h4⟩ := ih (rises_insH h hy)
      rw [length_insH] at h3 h4
      refine ⟨h1, fun x => ?_, by simp; omega, fun hd hn => ?_⟩
      · rw [h2 x, mem_insH, List.mem_cons]
        constructor
        · rintro ((h | h) | h) <;> simp [h]
        · rintro (h | h | h) <;> simp [h]
      · have hd' := List.nodup_cons.1 hd
        rw [h4 hd'.2 (fun x hx hm => by
          rcases mem_insH.1 hm with rfl | hm
          · exact hd'.1 hx
          · exact hn x (by simp [hx]) hm)]
        simp; omega
theorem risH_rises (l : List Hh) : Rises (risH l) := (risH_fold (l := l) (out := []) List.Pairwise.nil).1
theorem mem_risH {l : List Hh} {x : Hh} : x ∈ risH l ↔ x ∈ l := by
  have := (risH_fold (l := l) (out := []) List.Pairwise.nil).2.1 x
  simpa [risH] using this
theorem risH_le (l : List Hh) : (risH l).length ≤ l.length := by
  have := (risH_fold (l := l) (out := []) List.Pairwise.nil).2.2.1
  simpa [risH] using this
theorem risH_nodup {l : List Hh} (h : l.Nodup) : (risH l).length = l.length := by
  have := (risH_fold (l := l) (out := []) List.Pairwise.nil).2.2.2 h (by simp)
  simpa [risH] using this
theorem risH_of {l m : List Hh} (hm : Rises m) (h : ∀ x, x ∈ m ↔ x ∈ l) : m = risH l := hm.unique (risH_rises l) fun x => (h x).trans mem_risH.symm
theorem risH_self {l : List Hh} (h : Rises l) : risH l = l := (risH_of h fun _ => Iff.rfl).symm
theorem risH_eq {l m : List Hh} (h : ∀ x, x ∈ l ↔ x ∈ m) : risH l = risH m := risH_of (risH_rises l) fun x => mem_risH.trans (h x)
theorem risH_lt {l : List Hh} (h : ¬ l.Nodup) : (risH l).length < l.length := by
  have key : ∀ (l : List Hh) (out : List Hh), Rises out → (¬ l.Nodup ∨ ∃ x ∈ l, x ∈ out) → (l.foldl risStep out).length < out.length + l.length := by
    intro l
    induction l with
    | nil => intro out _ h; simp at h
    | cons y r ih =>
      intro out ho h
      rw [List.foldl_cons]
      by_cases hy : y ∈ out
      · have e : risStep out y = out := if_pos hy
        rw [e]
        have := (risH_fold (l := r) ho).2.2.1
        simp; omega
      · have e : risStep out y = insH y out := if_neg hy
        rw [e]
        have h2 : ¬ r.Nodup ∨ ∃ x ∈ r, x ∈ insH y out := by
          rcases h with h | ⟨x, hx, hxo⟩
          · by_cases hr : r.Nodup
            · refine .inr ⟨y, ?_, mem_insH.2 (.inl rfl)⟩
              by_cases hyr : y ∈ r
              · exact hyr
              · exact absurd (List.nodup_cons.2 ⟨hyr, hr⟩) h
            · exact .inl hr
          · rcases List.mem_cons.1 hx with rfl | hx
            · exact absurd hxo hy
            · exact .inr ⟨x, hx, mem_insH.2 (.inr hxo)⟩
        have := ih (insH y out) (rises_insH ho hy) h2
        rw [length_insH] at this
        simp; omega
  have := key l [] List.Pairwise.nil (.inl h)
  simpa [risH] using this
theorem risH_len (l : List Hh) : (risH l).length = l.length ↔ l.Nodup := by
  constructor
  · intro h
    by_cases hn : l.Nodup
    · exact hn
    · have := risH_lt hn; omega
  · exact risH_nodup

/-- Sorted by the library. -/
def srtH (l : List Hh) : List Hh := l.mergeSort fun x y => !ltH y x
theorem srtH_perm (l : List Hh) : (srtH l).Perm l := List.mergeSort_perm l _
theorem srtH_pair (l : List Hh) : (srtH l).Pairwise fun a b => ltH b a = false := by
  have h := List.pairwise_mergeSort (le := fun x y : Hh => !ltH y x) (fun a b c h k => by
    simp only [Bool.not_eq_true'] at *
    exact swoH.ntrans c b a k h) (fun a b => by
    simp only [Bool.or_eq_true, Bool.not_eq_true']
    cases h : ltH b a with
    | false => exact .inl rfl
    | true => exact .inr (ltH_asymm h)) l
  exact h.imp fun k => by simpa using k
theorem mem_srtH {l : List Hh} {x : Hh} : x ∈ srtH l ↔ x ∈ l := (srtH_perm l).mem_iff
theorem srtH_nodup {l : List Hh} (h : l.Nodup) : srtH l = risH l := by
  refine risH_of ?_ fun x => mem_srtH
  have h1 := srtH_pair l
  have h2 : (srtH l).Nodup := (srtH_perm l).nodup_iff.2 h
  refine (h1.and h2).imp fun {a b} k => ?_
  rcases ltH_tot k.2 with h3 | h3
  · exact h3
  · rw [k.1] at h3; cases h3
/-- Each of what stands side by side once. -/
def cmpctH : List Hh → List Hh
  | [] => []
  | [x] => [x]
  | x :: y :: r => if x = y then cmpctH (y :: r) else x :: cmpctH (y :: r)
theorem mem_cmpctH : ∀ {l : List Hh} {x : Hh}, x ∈ cmpctH l ↔ x ∈ l
  | [], _ => by simp [cmpctH]
  | [y], _ => by simp [cmpctH]
  | y :: z :: r, x => by
    unfold cmpctH
    split
    · next h => subst h; rw [mem_cmpctH]; simp
    · rw [List.mem_cons, mem_cmpctH]; simp
theorem cmpctH_rises : ∀ {l : List Hh}, (l.Pairwise fun a b => ltH b a = false) → Rises (cmpctH l)
  | [], _ => by simp [cmpctH, Rises]
  | [y], _ => by simp [cmpctH, Rises]
  | y :: z :: r, h => by
    have h' := List.pairwise_cons.1 h
    unfold cmpctH
    split
    · exact cmpctH_rises h'.2
    · next hne =>
      refine List.pairwise_cons.2 ⟨fun x hx => ?_, cmpctH_rises h'.2⟩
      have hx2 := mem_cmpctH.1 hx
      have h1 := h'.1 x hx2
      have hyz : ltH y z = true := by
        rcases ltH_tot hne with h2 | h2
        · exact h2
        · rw [h'.1 z (by simp)] at h2; cases h2
      rcases List.mem_cons.1 hx2 with rfl | hx3
      · exact hyz
      · by_cases e : y = x
        · subst e
          have := (List.pairwise_cons.1 h'.2).1 y hx3
          rw [hyz] at this; cases this
        · rcases ltH_tot e with h2 | h2
          · exact h2
          · rw [h1] at h2; cases h2
theorem cmpct_srt (l : List Hh) : cmpctH (srtH l) = risH l := risH_of (cmpctH_rises (srtH_pair l)) fun _ => mem_cmpctH.trans mem_srtH
end Go.Proofs.YtbfpckomgpkjgaaGreat
