/-
  A region that draws its order and stores into what it has loaded: S is asked only as long as operation k has not come up.
  tree: a tree in memory.
-/
import Derived.Test.YtbfpckomgpkjgaaGreatPRnQ3
import Derived.Deep.RegionHeld
import Derived.Deep.RegionHeldLaw
import Derived.Deep.RegionHeld3
import Derived.Test.YtbfpckomgpkjgaaGreatTe2
import Derived.Test.YtbfpckomgpkjgaaGreatVals
import Derived.Deep.MidRow
import Derived.Deep.OwnRows
import Derived.BigQuiet
import Derived.Deep.Quiet
import Derived.Test.YtbfpckomgpkjgaaGreatChecked
namespace Go.Proofs.YtbfpckomgpkjgaaGreat
open Go

section
variable {P : Program} {ops : Array Oper} {Q : Exit → Act → World → Prop} {md : Region.Mode} {S : World → Prop} {k : Nat}

def KT (S : World → Prop) (k : Nat) (L : Array Bool) (w : World) : Prop := L.getD k true = false → S w
def wpAnyK (P : Program) (md : Region.Mode) (ops : Array Oper) (Q : Exit → Act → World → Prop) (S : World → Prop) (k : Nat) : Nat → Array Bool → Act → World → Prop
  | 0, listed, a, w => Region.ready md ops listed = [] ∧ Q .normal a w
  | fuel + 1, listed, a, w =>
    (Region.ready md ops listed = [] → Q .normal a w) ∧
    ∀ i ∈ Region.ready md ops listed, wpOp P ops Q i (fun a' w' => KT S k (listed.setIfInBounds i true) w' ∧ wpAnyK P md ops Q S k fuel (listed.setIfInBounds i true) a' w') a w
theorem wpAny_of_K : ∀ (fuel : Nat) (listed : Array Bool) (a : Act) (w : World), wpAnyK P md ops Q S k fuel listed a w → wpAny P md ops Q fuel listed a w
  | 0, _, _, _, h => h
  | fuel + 1, _, _, _, h => ⟨h.1, fun i hi => wpOp_mono (fun a' w' h' => wpAny_of_K fuel _ a' w' h'.2) (h.2 i hi)⟩
theorem KT.set {L : Array Bool} {w : World} {i : Nat} (hik : i ≠ k) : KT S k (L.setIfInBounds i true) w ↔ KT S k L w := by
  unfold KT; rw [getD_set_ne true hik]

theorem wpAnyK_first {i : Nat} {oi : Oper} {v : Value} {R : World → Prop} {good : Array Bool → Prop} (hi : ops[i]? = some oi) (hsel : ∀ (j : Nat) (o : Oper) cs b, ops[j]? = some o → o.op ≠ .select cs b)
    (hQ : ∀ c a w, Q (.panic c) (a.put oi.dst v) w → Q (.panic c) a w) (hik : i ≠ k)
    (hgS : ∀ (j : Nat) (L : Array Bool), good L → j ∈ Region.ready md ops L → i ∈ Region.ready md ops L → good (L.setIfInBounds j true))
    (hgR : ∀ (L : Array Bool) (w : World), good L → KT S k L w → R w) :
    ∀ (fuel : Nat) (listed : Array Bool) (a : Act) (w : World),
      (∀ j oj, ops[j]? = some oj → j ≠ i → listed.getD j true = false → (∀ e ∈ oj.after, Region.binds md e = true → e.on ≠ i) → oi.apart ops oj = true) →
      i ∈ Region.ready md ops listed → YieldsIf P ops R oi v a → good listed → KT S k listed w →
      wpAnyK P md ops Q S k fuel (listed.setIfInBounds i true) (a.put oi.dst v) w → wpAnyK P md ops Q S k (fuel + 1) listed a w := by
  intro fuel
  induction fuel with
  | zero =>
    intro listed a w _ hr hy hg hT H
    refine ⟨fun h => (by rw [h] at hr; cases hr), fun j hj => ?_⟩
    by_cases hji : j = i
    · subst hji; exact hy.wpOp hi (hgR _ _ hg hT) ⟨(KT.set hik).2 hT, H⟩
    · have := ready_mono hj hji
      rw [H.1] at this
      cases this
  | succ fuel ih =>
    intro listed a w hfree hr hy hg hT H
    refine ⟨fun h => (by rw [h] at hr; cases hr), fun j hj => ?_⟩
    by_cases hji : j = i
    · subst hji; exact hy.wpOp hi (hgR _ _ hg hT) ⟨(KT.set hik).2 hT, H⟩
    · have h1 := H.2 j (ready_mono hj hji)
      obtain ⟨hjun, oj, hoj, hall⟩ := mem_ready.1 hj
      have hnot : ∀ e ∈ oj.after, Region.binds md e = true → e.on ≠ i := fun e he hb heq => by
        have h1 := hall e he hb
        have h0 := (mem_ready.1 hr).1
        rw [heq] at h1
        rcases Nat.lt_or_ge i listed.size with h' | h'
        · simp [h'] at h0 h1; rw [h0] at h1; cases h1
        · simp [Array.getElem?_eq_none h'] at h1
      have h2 := wpOp_putIf hoj (hfree j oj hoj hji hjun hnot) (fun cs b => hsel i oi cs b hi) (fun cs b => hsel j oj cs b hoj) hQ hy h1
      have hfree' : ∀ m ok, ops[m]? = some ok → m ≠ i → (listed.setIfInBounds j true).getD m true = false →
          (∀ e ∈ ok.after, Region.binds md e = true → e.on ≠ i) → oi.apart ops ok = true := fun m ok hk hki hun hno => by
        refine hfree m ok hk hki ?_ hno
        by_cases hjk : j = m
        · subst hjk; exact hjun
        · rw [getD_set_ne true hjk] at hun; exact hun
      have hT' : ∀ w', KT S k ((listed.setIfInBounds i true).setIfInBounds j true) w' → KT S k (listed.setIfInBounds j true) w' := fun w' h => by
        rw [← Array.setIfInBounds_comm _ _ hji] at h
        exact (KT.set hik).1 h
      refine wpOp_mono (fun a' w' h3 => ⟨hT' w' h3.2.1, ih (listed.setIfInBounds j true) a' w' hfree' (ready_mono hr (Ne.symm hji)) h3.1 (hgS j listed hg hj hr) (hT' w' h3.2.1) ?_⟩) h2
      rw [Array.setIfInBounds_comm _ _ hji]
      exact h3.2.2

/-- An operation that looks at no memory. -/
theorem wpAnyK_pure {i : Nat} {oi : Oper} {v : Value} {fuel : Nat} {listed : Array Bool} {a : Act} {w : World} (hi : ops[i]? = some oi)
    (hs : Region.noSelect ops = true) (hf : Region.free md ops listed i = true) (hr : (Region.ready md ops listed).contains i = true) (hik : (i == k) = false)
    (hQ : ∀ c a w, Q (.panic c) (a.put oi.dst v) w → Q (.panic c) a w) (hy : YieldsIf P ops (fun _ => True) oi v a) (hT : KT S k listed w)
    (h : wpAnyK P md ops Q S k fuel (listed.setIfInBounds i true) (a.put oi.dst v) w) : wpAnyK P md ops Q S k (fuel + 1) listed a w :=
  wpAnyK_first (R := fun _ => True) (good := fun _ => True) hi (Region.noSelect_spec hs) hQ (by simpa using hik) (fun _ _ _ _ _ => trivial) (fun _ _ _ _ => trivial) fuel listed a w (Region.free_spec hi hf) (by simpa using hr) hy trivial hT h
/-- A load that operation k waits for. -/
theorem wpAnyK_take {i : Nat} {oi : Oper} {v : Value} {fuel : Nat} {listed : Array Bool} {a : Act} {w : World} (hi : ops[i]? = some oi)
    (hs : Region.noSelect ops = true) (hf : Region.free md ops listed i = true) (hr : (Region.ready md ops listed).contains i = true) (hik : (i == k) = false)
    (hk : (ops[k]?).map (fun o => o.after.any fun e => Region.binds md e && e.on == i) = some true) (hl : listed.getD k true = false)
    (hQ : ∀ c a w, Q (.panic c) (a.put oi.dst v) w → Q (.panic c) a w) (hy : YieldsIf P ops S oi v a) (hT : KT S k listed w)
    (h : wpAnyK P md ops Q S k fuel (listed.setIfInBounds i true) (a.put oi.dst v) w) : wpAnyK P md ops Q S k (fuel + 1) listed a w := by
  refine wpAnyK_first (R := S) (good := fun L => L.getD k true = false) hi (Region.noSelect_spec hs) hQ (by simpa using hik) ?_ (fun L w hg hT => hT hg) fuel listed a w (Region.free_spec hi hf) (by simpa using hr) hy hl hT h
  intro j L hg hj hri
  by_cases hjk : j = k
  · exfalso
    subst hjk
    obtain ⟨_, o, ho, hall⟩ := mem_ready.1 hj
    rw [ho] at hk
    simp only [Option.map_some, Option.some.injEq, Array.any_eq_true, Bool.and_eq_true, beq_iff_eq] at hk
    obtain ⟨q, hq, hb, he⟩ := hk
    have h1 := hall _ (Array.getElem_mem hq) hb
    rw [he] at h1
    have h0 := (mem_ready.1 hri).1
    rcases Nat.lt_or_ge i L.size with h' | h'
    · simp [h'] at h0 h1; rw [h0] at h1; cases h1
    · simp [Array.getElem?_eq_none h'] at h1
  · rw [getD_set_ne true hjk]; exact hg

def AllReadyK (P : Program) (md : Region.Mode) (ops : Array Oper) (Q : Exit → Act → World → Prop) (S : World → Prop) (k : Nat) (fuel : Nat) (listed : Array Bool) (a : Act) (w : World) (rs : List Nat) : Prop :=
  ∀ i ∈ rs, wpOp P ops Q i (fun a' w' => KT S k (listed.setIfInBounds i true) w' ∧ wpAnyK P md ops Q S k fuel (listed.setIfInBounds i true) a' w') a w
theorem AllReadyK.nil {fuel : Nat} {listed : Array Bool} {a : Act} {w : World} : AllReadyK P md ops Q S k fuel listed a w [] := fun _ h => by cases h
theorem AllReadyK.cons {fuel : Nat} {listed : Array Bool} {a : Act} {w : World} {i : Nat} {o : Oper} {rs : List Nat} (ho : ops[i]? = some o)
    (h : ∀ K' : Act → World → Prop, Shut (∀ a w, KT S k (listed.setIfInBounds i true) w → (KT S k (listed.setIfInBounds i true) w → wpAnyK P md ops Q S k fuel (listed.setIfInBounds i true) a w) → K' a w) → if Region.wanted o (yielded ops a.tmps) = true then Oper.wp P o a w K' Q else K' (a.put o.dst undef) w)
    (hs : AllReadyK P md ops Q S k fuel listed a w rs) : AllReadyK P md ops Q S k fuel listed a w (i :: rs) := fun j hj => by
  rcases List.mem_cons.1 hj with rfl | hj
  · exact wpOp_step ho (fun K' hK => h K' (fun a w hS hW => hK a w ⟨hS, hW hS⟩))
  · exact hs j hj
theorem wpAnyK_ready {rs : List Nat} {fuel : Nat} {listed : Array Bool} {a : Act} {w : World} (hr : Region.ready md ops listed = rs) (hne : rs ≠ [])
    (h : AllReadyK P md ops Q S k fuel listed a w rs) : wpAnyK P md ops Q S k (fuel + 1) listed a w := ⟨fun h0 => absurd (hr ▸ h0) hne, hr ▸ h⟩
theorem wpAnyK_done {listed : Array Bool} {a : Act} {w : World} (hr : Region.ready md ops listed = []) (h : Q .normal a w) :
    ∀ fuel, wpAnyK P md ops Q S k fuel listed a w
  | 0 => ⟨hr, h⟩
  | _ + 1 => ⟨fun _ => h, by rw [hr]; simp⟩
theorem wp_region_K {id : Nat} {a : Act} {w : World} (S : World → Prop) (k : Nat) (hm : P.follows .mixedOrders = true) (hS : S w.drew)
    (h : KT S k (Array.replicate ops.size false) w.drew → wpAnyK P .any ops Q S k ops.size (Array.replicate ops.size false) a w.drew) : (Code.region id ops true).wp P Q a w :=
  wp_region_any hm (wpAny_of_K _ _ _ _ (h (fun _ => hS)))
end
end Go.Proofs.YtbfpckomgpkjgaaGreat
namespace Go.Proofs.YtbfpckomgpkjgaaGreat
open Go

section
variable {P : Program} {ops : Array Oper} {Q : Exit → Act → World → Prop} {md : Region.Mode} {S : World → Prop} {k : Nat}
def waitsB (md : Region.Mode) (ops : Array Oper) (j i : Nat) : Bool := (ops[j]?).map (fun o => o.after.any fun e => Region.binds md e && e.on == i) == some true
def chainB (md : Region.Mode) (ops : Array Oper) : Nat → List Nat → Bool
  | _, [] => true
  | i, c :: cs => waitsB md ops c i && chainB md ops c cs
theorem chain_pred : ∀ (cs : List Nat) (i : Nat), chainB md ops i cs = true → ∀ c ∈ cs, ∃ p, (p = i ∨ p ∈ cs) ∧ waitsB md ops c p = true
  | [], _, _, _, hc => by cases hc
  | c' :: cs, i, h, c, hc => by
    unfold chainB at h
    rw [Bool.and_eq_true] at h
    rcases List.mem_cons.1 hc with rfl | hc
    · exact ⟨i, .inl rfl, h.1⟩
    · obtain ⟨p, hp, hw⟩ := chain_pred cs c' h.2 c hc
      refine ⟨p, .inr ?_, hw⟩
      rcases hp with rfl | hp
      · exact List.mem_cons_self
      · exact List.mem_cons_of_mem _ hp
theorem not_ready {L : Array Bool} {j i : Nat} (hw : waitsB md ops j i = true) (hj : j ∈ Region.ready md ops L) (h0 : L.getD i true = false) : False := by
  obtain ⟨_, o, ho, hall⟩ := mem_ready.1 hj
  unfold waitsB at hw
  rw [ho] at hw
  simp only [Option.map_some, beq_iff_eq, Option.some.injEq, Array.any_eq_true, Bool.and_eq_true] at hw
  obtain ⟨q, hq, hb, he⟩ := hw
  have h1 := hall _ (Array.getElem_mem hq) hb
  rw [he] at h1
  rcases Nat.lt_or_ge i L.size with h' | h'
  · simp [h'] at h0 h1; rw [h0] at h1; cases h1
  · simp [Array.getElem?_eq_none h'] at h1
/-- A load that operation k waits for, by a chain of operations. -/
theorem wpAnyK_chain {i : Nat} {oi : Oper} {v : Value} {fuel : Nat} {listed : Array Bool} {a : Act} {w : World} (cs : List Nat) (hi : ops[i]? = some oi)
    (hs : Region.noSelect ops = true) (hf : Region.free md ops listed i = true) (hr : (Region.ready md ops listed).contains i = true) (hik : (i == k) = false)
    (hc : chainB md ops i cs = true) (hkc : cs.contains k = true) (hl : cs.all (fun c => listed.getD c true == false) = true)
    (hQ : ∀ c a w, Q (.panic c) (a.put oi.dst v) w → Q (.panic c) a w) (hy : YieldsIf P ops S oi v a) (hT : KT S k listed w)
    (h : wpAnyK P md ops Q S k fuel (listed.setIfInBounds i true) (a.put oi.dst v) w) : wpAnyK P md ops Q S k (fuel + 1) listed a w := by
  refine wpAnyK_first (R := S) (good := fun L => ∀ c ∈ cs, L.getD c true = false) hi (Region.noSelect_spec hs) hQ (by simpa using hik) ?_ (fun L w hg hT => hT (hg k (by simpa using hkc))) fuel listed a w (Region.free_spec hi hf) (by simpa using hr) hy (fun c hc' => by have := List.all_eq_true.1 hl c hc'; exact eq_of_beq this) hT h
  intro j L hg hj hri c hcm
  by_cases hjc : j = c
  · exfalso
    subst hjc
    obtain ⟨p, hp, hw⟩ := chain_pred cs i hc j hcm
    rcases hp with rfl | hp
    · exact not_ready hw hj (mem_ready.1 hri).1
    · exact not_ready hw hj (hg p hp)
  · rw [getD_set_ne true hjc]; exact hg c hcm
end
end Go.Proofs.YtbfpckomgpkjgaaGreat

namespace Go.Proofs.YtbfpckomgpkjgaaGreat
open Go.RowKit

theorem town_row {w : World} {base size n c : Nat} {e : TypeId} {A : Option Addr} {xs : List Value} (h : w.ownsRow base e size (.slice A n c) n xs) (h0 : 0 < xs.length) : ∃ g, A = some ⟨g, 0, none⟩ ∧ base ≤ g ∧ g < w.heap.size ∧ ∀ i v, xs[i]? = some v → w.cell? ⟨g, i, none⟩ = some v ∧ w.frozen? ⟨g, i, none⟩ = false := by
  have hl := h.1
  rcases h.2 with ⟨hv, hn⟩ | ⟨g, cap, cur, hv, hb, hh, hnc, hcm, hcs, ht⟩
  · subst hn; omega
  · have hg : Blk w g e cur := hh
    injection hv with hA _ _
    refine ⟨g, hA, hb, hg.lt, fun i v hi => ⟨?_, hg.frozen i⟩⟩
    obtain ⟨h1, h2⟩ := List.getElem?_eq_some_iff.1 hi
    rw [hg.cell i]
    have e1 : (cur.toList.take (n * size))[i]? = some v := by rw [ht]; exact hi
    rw [List.getElem?_take, if_pos (by omega)] at e1
    simpa using e1
theorem town_set {w : World} {base size n c : Nat} {e : TypeId} {A : Option Addr} {xs : List Value} (h : w.ownsRow base e size (.slice A n c) n xs) {k : Nat} (hk : k < xs.length) {g : Nat} (hA : A = some ⟨g, 0, none⟩) (u : Value) : (w.setCell ⟨g, k, none⟩ u).ownsRow base e size (.slice A n c) n (xs.set k u) := by
  have hl := h.1
  rcases h.2 with ⟨hv, h0⟩ | ⟨g', cap, cur, hv, hb, hh, hnc, hcm, hcs, ht⟩
  · subst h0; omega
  · have hg : Blk w g' e cur := hh
    injection hv with hA' _ hc'
    rw [hA] at hA'
    injection hA' with hA'
    injection hA' with hA'
    subst hA' hc'
    refine ⟨by rw [List.length_set]; exact hl, .inr ⟨g, c, cur.setIfInBounds k u, by rw [hA], hb, hg.set k u, hnc, hcm, by simpa using hcs, ?_⟩⟩
    rw [← ht, Array.toList_setIfInBounds, List.take_set]
theorem tblk_tag {w : World} {k : Nat} {t t' : TypeId} {cur cur' : Array Value} (h : Blk w k t cur) (h' : Blk w k t' cur') : t = t' := by
  unfold Blk at h h'
  rw [h'] at h
  injection h with h
  injection h with _ h _
  exact h.symm
theorem town_blk {w : World} {base size n c : Nat} {e : TypeId} {A : Option Addr} {xs : List Value} (h : w.ownsRow base e size (.slice A n c) n xs) {k : Nat} (hk : A.map Addr.block = some k) : base ≤ k ∧ ∃ cur, Blk w k e cur := by
  rcases h.2 with ⟨hv, h0⟩ | ⟨g, cap, cur, hv, hb, hh, hnc, r⟩
  · injection hv with hA; subst hA; cases hk
  · injection hv with hA _ _; subst hA; cases hk; exact ⟨hb, cur, hh⟩
theorem town_map (A : Option Addr) (n c : Nat) : (Value.slice A n c).ownBlock = A.map Addr.block := by cases A <;> rfl
theorem town_tag {w : World} {base size n c k : Nat} {e t : TypeId} {A : Option Addr} {xs : List Value} {cur : Array Value} (h : w.ownsRow base e size (.slice A n c) n xs) (hb : Blk w k t cur) (hne : e ≠ t) : ¬ A.map Addr.block = some k := fun e' => by
  obtain ⟨_, cur', hb'⟩ := town_blk h e'
  exact hne (tblk_tag hb' hb)
theorem town_apart {w : World} {base size n c k base' size' n' c' : Nat} {e e' : TypeId} {A A' : Option Addr} {xs xs' : List Value} (h : w.ownsRow base e size (.slice A n c) n xs) (h' : w.ownsRow base' e' size' (.slice A' n' c') n' xs') (hne : e ≠ e') (h1 : A.map Addr.block = some k) : ¬ A'.map Addr.block = some k := fun h2 => by
  obtain ⟨_, cur, hb⟩ := town_blk h h1
  obtain ⟨_, cur', hb'⟩ := town_blk h' h2
  exact hne (tblk_tag hb hb')
theorem tKeeps_own {S : Nat → Prop} {w w' : World} {base size n c : Nat} {e : TypeId} {A : Option Addr} {xs : List Value} (hk : Keeps S w w') (h : w.ownsRow base e size (.slice A n c) n xs) (hS : ∀ k, A.map Addr.block = some k → ¬ S k) : w'.ownsRow base e size (.slice A n c) n xs := by
  refine ⟨h.1, ?_⟩
  rcases h.2 with h0 | ⟨g, cap, cur, hv, hb, hh, r⟩
  · exact .inl h0
  · refine .inr ⟨g, cap, cur, hv, hb, ?_, r⟩
    injection hv with hA _ _
    exact (hk.block g (Blk.lt hh) (hS g (by rw [hA]; rfl))).trans hh
/-- A fixed size's cells at one place. -/
theorem tflat_get {α : Type} {f : α → List Value} {k : Nat} (hf : ∀ x, (f x).length = k) : ∀ (l : List α) (i j : Nat) (hi : i < l.length) (hj : j < k), (l.map f).flatten[i * k + j]? = (f l[i])[j]?
  | [], i, j, hi, _ => by simp at hi
  | a :: l, 0, j, _, hj => by
    rw [List.map_cons, List.flatten_cons, List.getElem?_append_left (by rw [hf]; omega)]
    simp
  | a :: l, i + 1, j, hi, hj => by
    have ih := tflat_get hf l i j (by simpa using hi) hj
    have e : (i + 1) * k + j = (f a).length + (i * k + j) := by rw [hf, Nat.add_mul]; omega
    rw [List.map_cons, List.flatten_cons, e, List.getElem?_append_right (by omega), Nat.add_sub_cancel_left, ih]
    simp
theorem tflat_len {α : Type} {f : α → List Value} {k : Nat} (hf : ∀ x, (f x).length = k) (l : List α) : (l.map f).flatten.length = l.length * k := by
  induction l with
  | nil => simp
  | cons a l ih => rw [List.map_cons, List.flatten_cons, List.length_append, hf, ih, List.length_cons, Nat.add_mul]; omega
/-- One cell of one of many is set. -/
theorem tflat_set {α : Type} {f : α → List Value} {k : Nat} (hf : ∀ x, (f x).length = k) {l : List α} {i j : Nat} (hi : i < l.length) {u : Value} {y : α} (hy : (f l[i]).set j u = f y) (hj : j < k) : (l.map f).flatten.set (i * k + j) u = ((l.set i y).map f).flatten := by
  have e1 : l = l.take i ++ l[i] :: l.drop (i + 1) := by rw [List.getElem_cons_drop, List.take_append_drop]
  have e2 : l.set i y = l.take i ++ y :: l.drop (i + 1) := by rw [List.set_eq_take_append_cons_drop, if_pos hi]
  have hl : ((l.take i).map f).flatten.length = i * k := by rw [tflat_len hf, List.length_take]; congr 1; omega
  rw [e2, List.map_append, List.flatten_append]
  conv => lhs; rw [e1, List.map_append, List.flatten_append]
  rw [List.set_append_right _ _ (by omega), hl]
  congr 1
  have e3 : i * k + j - i * k = j := by omega
  rw [e3, List.map_cons, List.map_cons, List.flatten_cons, List.flatten_cons, List.set_append_left _ _ (by rw [hf]; exact hj), hy]

def tiC (l : List Nat) : List Value := l.map fun (x : Nat) => .int .i64 (x : Int)
theorem tiC_len (l : List Nat) : (tiC l).length = l.length := by simp [tiC]
theorem tiC_get {l : List Nat} {i : Nat} (h : i < l.length) : (tiC l)[i]? = some (.int .i64 (l[i] : Int)) := by simp [tiC, h]
theorem tiC_one (l : List Nat) : ∀ u ∈ tiC l, u.oneCell' = true := by
  intro u hu
  obtain ⟨x, _, rfl⟩ := List.mem_map.1 hu
  rfl
def tuC (l : List Nat) : List Value := l.map fun (x : Nat) => .int .u64 (x : Int)
theorem tuC_len (l : List Nat) : (tuC l).length = l.length := by simp [tuC]
theorem tuC_get {l : List Nat} {i : Nat} (h : i < l.length) : (tuC l)[i]? = some (.int .u64 (gN l i : Int)) := by simp [tuC, gN, List.getD_eq_getElem?_getD, h]
theorem tuC_set (l : List Nat) (k x : Nat) : (tuC l).set k (.int .u64 (x : Int)) = tuC (l.set k x) := by unfold tuC; rw [List.map_set]
/-- A node in memory. -/
structure NdM where
  d : Nd
  kids : List Nat
  kA : Option Addr
  kc : Nat
def tndC (x : NdM) : List Value := [.int .i64 (x.d.par : Int), .int .i64 (x.d.dep : Int), .slice x.kA x.kids.length x.kc, .int .u64 (x.d.lo : Int), .int .u64 (x.d.hi : Int)]
theorem tndC_len (x : NdM) : (tndC x).length = 5 := rfl
def tnsC (l : List NdM) : List Value := (l.map tndC).flatten
theorem tnsC_len (l : List NdM) : (tnsC l).length = l.length * 5 := tflat_len tndC_len l
theorem tnsC_get (l : List NdM) (i j : Nat) (hi : i < l.length) (hj : j < 5) : (tnsC l)[i * 5 + j]? = (tndC l[i])[j]? := tflat_get tndC_len l i j hi hj
/-- A tree in memory. -/
structure TrM where
  q : Nat
  nA : Option Addr
  nc : Nat
  L : List NdM
  dl : Nat
def tfoot (m : TrM) (k : Nat) : Prop := k = m.q ∨ m.nA.map Addr.block = some k ∨ ∃ x ∈ m.L, x.kA.map Addr.block = some k
structure TrOk (w : World) (base : Nat) (m : TrM) : Prop where
  b : Blk w m.q 112 #[.slice m.nA m.L.length m.nc, .int .i64 (m.dl : Int)]
  qb : base ≤ m.q
  nds : w.ownsRow base 109 5 (.slice m.nA m.L.length m.nc) m.L.length (tnsC m.L)
  kid : ∀ x ∈ m.L, w.ownsRow base 3 1 (.slice x.kA x.kids.length x.kc) x.kids.length (tiC x.kids)
  kd : ∀ i j (hi : i < m.L.length) (hj : j < m.L.length), i ≠ j → ∀ k, m.L[i].kA.map Addr.block = some k → m.L[j].kA.map Addr.block ≠ some k
theorem TrOk.keeps {w w' : World} {base : Nat} {m : TrM} {S : Nat → Prop} (h : TrOk w base m) (hk : Keeps S w w') (hS : ∀ k, tfoot m k → ¬ S k) : TrOk w' base m where
  b := h.b.keeps hk (hS _ (.inl rfl))
  qb := h.qb
  nds := tKeeps_own hk h.nds fun k e => hS k (.inr (.inl e))
  kid x hx := tKeeps_own hk (h.kid x hx) fun k e => hS k (.inr (.inr ⟨x, hx, e⟩))
  kd := h.kd
theorem TrOk.later {w w' : World} {base : Nat} {m : TrM} (h : TrOk w base m) (hk : Below w.heap.size w w') : TrOk w' base m := h.keeps (Keeps.of_below hk (fun _ => False)) fun _ _ => id
theorem TrOk.lt {w : World} {base : Nat} {m : TrM} (h : TrOk w base m) {k : Nat} (hk : tfoot m k) : base ≤ k ∧ k < w.heap.size := by
  rcases hk with rfl | e | ⟨x, hx, e⟩
  · exact ⟨h.qb, h.b.lt⟩
  · obtain ⟨h1, cur, h2⟩ := town_blk h.nds e; exact ⟨h1, h2.lt⟩
  · obtain ⟨h1, cur, h2⟩ := town_blk (h.kid x hx) e; exact ⟨h1, h2.lt⟩
def TrM.T (m : TrM) : List Nd := m.L.map NdM.d
theorem TrM.T_len (m : TrM) : m.T.length = m.L.length := by simp [TrM.T]
theorem TrM.T_at (m : TrM) {i : Nat} (h : i < m.L.length) : ndT m.T i = m.L[i].d := by
  rw [ndT_at (by rw [m.T_len]; exact h)]
  simp [TrM.T]
/-- All is well with a tree. -/
structure TrI (m : TrM) : Prop where
  ok : OkT m.T
  iv : IvT m.T
  kids : ∀ i (h : i < m.L.length), m.L[i].kids = kidsT m.T i
  dl : m.dl < m.L.length
theorem TrI.ne {m : TrM} (h : TrI m) : 0 < m.L.length := by have := h.ok.ne; rwa [m.T_len] at this
theorem TrI.max {m : TrM} (h : TrI m) : m.L.length ≤ 1000 := by have := h.ok.max; rwa [m.T_len] at this
/-- The cells of a node. -/
theorem nd_cells {w : World} {base : Nat} {m : TrM} (h : TrOk w base m) {i : Nat} (hi : i < m.L.length) : ∃ g, m.nA = some ⟨g, 0, none⟩ ∧ g < w.heap.size ∧ base ≤ g ∧ w.cell? ⟨m.q, 0, none⟩ = some (.slice (some ⟨g, 0, none⟩) m.L.length m.nc) ∧ w.rangeAt g (i * 5) (tndC m.L[i]) := by
  obtain ⟨g, hA, hb, hg, hc⟩ := town_row h.nds (by rw [tnsC_len]; omega)
  refine ⟨g, hA, hg, hb, by rw [← hA]; exact h.b.cell 0, fun j v hv => ?_⟩
  have hj : j < 5 := by have := (List.getElem?_eq_some_iff.1 hv).1; exact this
  exact (hc (i * 5 + j) v (by rw [tnsC_get _ _ _ hi hj]; exact hv)).1
theorem nd_c {w : World} {g i : Nat} {x : NdM} (h : w.rangeAt g (i * 5) (tndC x)) : w.cell? ⟨g, i * 5, none⟩ = some (.int .i64 (x.d.par : Int)) ∧ w.cell? ⟨g, i * 5 + 1, none⟩ = some (.int .i64 (x.d.dep : Int)) ∧ w.cell? ⟨g, i * 5 + 2, none⟩ = some (.slice x.kA x.kids.length x.kc) ∧ w.cell? ⟨g, i * 5 + 3, none⟩ = some (.int .u64 (x.d.lo : Int)) ∧ w.cell? ⟨g, i * 5 + 4, none⟩ = some (.int .u64 (x.d.hi : Int)) :=
  ⟨h 0 _ rfl, h 1 _ rfl, h 2 _ rfl, h 3 _ rfl, h 4 _ rfl⟩
/-- A node's children. -/
theorem kid_cells {w : World} {base : Nat} {m : TrM} (h : TrOk w base m) {i : Nat} (hi : i < m.L.length) {j : Nat} (hj : j < m.L[i].kids.length) : ∃ g, m.L[i].kA = some ⟨g, 0, none⟩ ∧ g < w.heap.size ∧ w.cell? ⟨g, j, none⟩ = some (.int .i64 (m.L[i].kids[j] : Int)) := by
  obtain ⟨g, hA, hb, hg, hc⟩ := town_row (h.kid _ (List.getElem_mem hi)) (by rw [tiC_len]; omega)
  exact ⟨g, hA, hg, (hc j _ (tiC_get hj)).1⟩
end Go.Proofs.YtbfpckomgpkjgaaGreat
