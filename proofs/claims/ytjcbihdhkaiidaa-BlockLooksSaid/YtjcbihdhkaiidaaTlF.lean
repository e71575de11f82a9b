/-
  tx: clones of rows. · tx: the program's Same. · tx: whether two spend one outpoint. · tx: the document's Spends and Out; the program's Lock. · tx: the program's Copy.
-/
import Derived.Test.YtjcbihdhkaiidaaTlA
import Derived.Test.YtjcbihdhkaiidaaTbA
import Derived.Deep.DeepCutAuto
namespace Go.Proofs.Ytjcbihdhkaiidaa
open Go.RowKit

theorem own_setS {w : World} {base size : Nat} {e : TypeId} {n c : Nat} {A : Option Addr} {xs : List Value} (h : w.ownsRow base e size (.slice A n c) n xs) {k : Nat} (hk : k < n * size) (u : Value) :
    ∃ g, A = some ⟨g, 0, none⟩ ∧ base ≤ g ∧ w.cell? ⟨g, k, none⟩ = xs[k]? ∧ w.frozen? ⟨g, k, none⟩ = false ∧ (w.setCell ⟨g, k, none⟩ u).ownsRow base e size (.slice A n c) n (xs.set k u) := by
  have hl := h.1
  rcases h.2 with ⟨hv, h0⟩ | ⟨g, cap, cur, hv, hb, hh, hnc, hcm, hcs, ht⟩
  · subst h0; omega
  · have hg : Blk w g e cur := hh
    injection hv with hA hn' hc'
    subst hA hc'
    refine ⟨g, rfl, hb, ?_, hg.frozen k, by simpa using hl, .inr ⟨g, c, cur.setIfInBounds k u, rfl, hb, hg.set k u, hnc, hcm, by simpa using hcs, ?_⟩⟩
    · rw [hg.cell k, ← ht, List.getElem?_take, if_pos (by omega)]; simp
    · rw [← ht, Array.toList_setIfInBounds, List.take_set]
theorem insC_nil {l : List InR} (hi : ∀ i ∈ l, i.id.length = 32) (h : insC l = []) : l = [] := by
  have := insC_len hi
  rw [h] at this
  exact List.eq_nil_of_length_eq_zero (by simp at this; omega)
theorem outsC_len {l : List OutR} (h : ∀ i ∈ l, i.lock.length = 32) : (outsC l).length = l.length * 33 := by
  induction l with
  | nil => rfl
  | cons i r ih =>
    have e : outsC (i :: r) = outC i ++ outsC r := by simp [outsC]
    rw [e, List.length_append, ih (fun j hj => h j (List.mem_cons_of_mem _ hj)), outC_len (h i List.mem_cons_self), List.length_cons]; omega
theorem outsC_nil {l : List OutR} (hi : ∀ i ∈ l, i.lock.length = 32) (h : outsC l = []) : l = [] := by
  have := outsC_len hi
  rw [h] at this
  exact List.eq_nil_of_length_eq_zero (by simp at this; omega)
theorem By_nilL {l : List UInt8} (h : By l = []) : l = [] := by
  have := By_length l
  rw [h] at this
  exact List.eq_nil_of_length_eq_zero (by simpa using this.symm)
theorem SeesV.of_sees {w : World} {B : Nat} {A : Option Addr} {l : List UInt8} (h : Sees w B A l) : SeesV w B A (By l) := by
  rcases h with rfl | ⟨b, off, hA, hb, hc⟩
  · exact .inl rfl
  · refine .inr ⟨b, off, hA, hb, fun i hi => ?_⟩
    have hi' : i < l.length := by rw [By_length] at hi; exact hi
    rw [hc i hi']; simp [By]
theorem insC_one' (l : List InR) : ∀ u ∈ insC l, u.oneCell' = true := by
  intro u hu
  obtain ⟨r, hr, hu⟩ := List.mem_flatten.1 hu
  obtain ⟨i, _, rfl⟩ := List.mem_map.1 hr
  exact inC_one i u (by simpa using hu)
theorem outsC_one' (l : List OutR) : ∀ u ∈ outsC l, u.oneCell' = true := by
  intro u hu
  obtain ⟨r, hr, hu⟩ := List.mem_flatten.1 hu
  obtain ⟨i, _, rfl⟩ := List.mem_map.1 hr
  exact outC_one i u (by simpa using hu)
theorem Try.u8inf : (Try.prog.info? 5).map (fun i => (i.zero, i.size, i.bytes)) = some (some (.int .u8 0), 1, 1) := by kernel_rfl
/-- What a clone answers: a row of its own. -/
def ClonePost (w : World) (e : TypeId) (size n : Nat) (xs : List Value) (E : Ending) (w' : World) : Prop := ∃ A' c', E = .returned (.slice A' n c') ∧ w'.ownsRow w.heap.size e size (.slice A' n c') n xs ∧ Below w.heap.size w w'

set_option maxHeartbeats 1000000 in
set_option maxRecDepth 100000 in
theorem cloneI_any (w : World) (A : Option Addr) (l : List InR) (c : Nat) (hS : SeesV w w.heap.size A (insC l)) (hi : ∀ i ∈ l, i.id.length = 32) (hmax : l.length ≤ 100000) :
    Calls Try.prog 26 #[.slice A l.length c] w (ClonePost w 44 34 l.length (insC l)) := by
  unfold ClonePost
  rcases A with _ | ad
  · have h0 : insC l = [] := by
      rcases hS with h | ⟨b, off, h, _⟩
      · exact h
      · cases h
    obtain rfl := insC_nil hi h0
    clear hmax hS h0
    have hq : (binOp .eql 34 (.slice none 0 c) (.slice none 0 0)).run Try.prog w = .ok (.bool true) w := run_eql_snil w 34 44 none 0 c Try.underlying34
    go_enter Try.func26, Try.ntmps26
    go_wp2
    go_ret
    exact ⟨none, 0, rfl, ⟨rfl, .inl ⟨rfl, rfl⟩⟩, nxRf w⟩
  · have hO : Hid ((w.alloc (.cells #[] 44)).ownsRow w.heap.size 44 34 (.slice (some ⟨w.heap.size, 0, none⟩) 0 0) 0 []) := own_made (cs := []) (heap_alloc_new w _) (Nat.le_refl _) (Nat.le_refl _) (by unfold maxLen; omega) rfl
    have HS : Hid (SeesV (w.alloc (.cells #[] 44)) (w.alloc (.cells #[] 44)).heap.size (some ad) (insC l)) := (hS.alloc _).more (by simp)
    have HL : Hid ((insC l).length = l.length * 34) := by show _ = _; exact insC_len hi
    have HM := Lib.hid hmax
    obtain ⟨i0, hi0, hz0, hz1, hz2⟩ := infoP Try.ininfo
    have hq : (binOp .eql 34 (.slice (some ad) l.length c) (.slice none 0 0)).run Try.prog w = .ok (.bool false) w := run_eql_snil w 34 44 (some ad) l.length c Try.underlying34
    clear hS hmax
    go_enter Try.func26, Try.ntmps26
    go_wp2_with (first
      | ((with_reducible show wpList _ _ _ (⟨some 7, _, _, _, _, _⟩ :: _) _ _); (show wpList _ _ _ _ _ (w.alloc (.cells #[] 44))); refine wpList_append_seesV rfl (.tmp 5) (.tmp 6) 34 rfl w.heap.size 44 i0 _ 34 64 Try.underlying34 hi0 hz0 hz1 hz2 rfl (by decide) (.slice (some ⟨w.heap.size, 0, none⟩) 0 0) 0 [] rfl hO.out _ (some ad) l.length c (insC l) rfl HL.out HS.out (insC_one' l) (by have := HM.out; omega) (by have := HM.out; omega) (by simp) ?_; intro v' w' ho hg hv; obtain ⟨A', c', rfl⟩ := own_form ho; have HO := Lib.hid ho; have HG : Hid (Below w.heap.size w w') := (nxAl (nxRf w) _).grown hg (nxAl (nxRf w) _).size (fun j hj => by have hj2 : w.heap.size = j := Option.some.inj hj; omega); clear ho hg hv))
    go_ret
    have ho := HO.out
    simp only [Nat.zero_add, List.nil_append] at ho
    exact ⟨A', c', by simp, ho, HG.out⟩

set_option maxHeartbeats 1000000 in
set_option maxRecDepth 100000 in
theorem cloneO_any (w : World) (A : Option Addr) (l : List OutR) (c : Nat) (hS : SeesV w w.heap.size A (outsC l)) (hi : ∀ i ∈ l, i.lock.length = 32) (hmax : l.length ≤ 100000) :
    Calls Try.prog 28 #[.slice A l.length c] w (ClonePost w 46 33 l.length (outsC l)) := by
  unfold ClonePost
  rcases A with _ | ad
  · have h0 : outsC l = [] := by
      rcases hS with h | ⟨b, off, h, _⟩
      · exact h
      · cases h
    obtain rfl := outsC_nil hi h0
    clear hmax hS h0
    have hq : (binOp .eql 35 (.slice none 0 c) (.slice none 0 0)).run Try.prog w = .ok (.bool true) w := run_eql_snil w 35 46 none 0 c Try.underlying35
    go_enter Try.func28, Try.ntmps28
    go_wp2
    go_ret
    exact ⟨none, 0, rfl, ⟨rfl, .inl ⟨rfl, rfl⟩⟩, nxRf w⟩
  · have hO : Hid ((w.alloc (.cells #[] 46)).ownsRow w.heap.size 46 33 (.slice (some ⟨w.heap.size, 0, none⟩) 0 0) 0 []) := own_made (cs := []) (heap_alloc_new w _) (Nat.le_refl _) (Nat.le_refl _) (by unfold maxLen; omega) rfl
    have HS : Hid (SeesV (w.alloc (.cells #[] 46)) (w.alloc (.cells #[] 46)).heap.size (some ad) (outsC l)) := (hS.alloc _).more (by simp)
    have HL : Hid ((outsC l).length = l.length * 33) := by show _ = _; exact outsC_len hi
    have HM := Lib.hid hmax
    obtain ⟨i0, hi0, hz0, hz1, hz2⟩ := infoP Try.outinfo
    have hq : (binOp .eql 35 (.slice (some ad) l.length c) (.slice none 0 0)).run Try.prog w = .ok (.bool false) w := run_eql_snil w 35 46 (some ad) l.length c Try.underlying35
    clear hS hmax
    go_enter Try.func28, Try.ntmps28
    go_wp2_with (first
      | ((with_reducible show wpList _ _ _ (⟨some 7, _, _, _, _, _⟩ :: _) _ _); (show wpList _ _ _ _ _ (w.alloc (.cells #[] 46))); refine wpList_append_seesV rfl (.tmp 5) (.tmp 6) 35 rfl w.heap.size 46 i0 _ 33 40 Try.underlying35 hi0 hz0 hz1 hz2 rfl (by decide) (.slice (some ⟨w.heap.size, 0, none⟩) 0 0) 0 [] rfl hO.out _ (some ad) l.length c (outsC l) rfl HL.out HS.out (outsC_one' l) (by have := HM.out; omega) (by have := HM.out; omega) (by simp) ?_; intro v' w' ho hg hv; obtain ⟨A', c', rfl⟩ := own_form ho; have HO := Lib.hid ho; have HG : Hid (Below w.heap.size w w') := (nxAl (nxRf w) _).grown hg (nxAl (nxRf w) _).size (fun j hj => by have hj2 : w.heap.size = j := Option.some.inj hj; omega); clear ho hg hv))
    go_ret
    have ho := HO.out
    simp only [Nat.zero_add, List.nil_append] at ho
    exact ⟨A', c', by simp, ho, HG.out⟩

set_option maxHeartbeats 1000000 in
set_option maxRecDepth 100000 in
theorem cloneB_any (w : World) (A : Option Addr) (l : List UInt8) (c : Nat) (hS : SeesV w w.heap.size A (By l)) (hmax : l.length ≤ 140737488355328) :
    Calls Try.prog 27 #[.slice A l.length c] w (ClonePost w 5 1 l.length (By l)) := by
  unfold ClonePost
  rcases A with _ | ad
  · have h0 : By l = [] := by
      rcases hS with h | ⟨b, off, h, _⟩
      · exact h
      · cases h
    obtain rfl := By_nilL h0
    clear hmax hS h0
    have hq : (binOp .eql 42 (.slice none 0 c) (.slice none 0 0)).run Try.prog w = .ok (.bool true) w := run_eql_snil w 42 5 none 0 c Try.underlying42
    go_enter Try.func27, Try.ntmps27
    go_wp2
    go_ret
    exact ⟨none, 0, rfl, ⟨rfl, .inl ⟨rfl, rfl⟩⟩, nxRf w⟩
  · have hO : Hid ((w.alloc (.cells #[] 5)).ownsRow w.heap.size 5 1 (.slice (some ⟨w.heap.size, 0, none⟩) 0 0) 0 []) := own_made (cs := []) (heap_alloc_new w _) (Nat.le_refl _) (Nat.le_refl _) (by unfold maxLen; omega) rfl
    have HS : Hid (SeesV (w.alloc (.cells #[] 5)) (w.alloc (.cells #[] 5)).heap.size (some ad) (By l)) := (hS.alloc _).more (by simp)
    have HL : Hid ((By l).length = l.length * 1) := by show _ = _; rw [By_length, Nat.mul_one]
    have HM := Lib.hid hmax
    obtain ⟨i0, hi0, hz0, hz1, hz2⟩ := infoP Try.u8inf
    have hq : (binOp .eql 42 (.slice (some ad) l.length c) (.slice none 0 0)).run Try.prog w = .ok (.bool false) w := run_eql_snil w 42 5 (some ad) l.length c Try.underlying42
    clear hS hmax
    go_enter Try.func27, Try.ntmps27
    go_wp2_with (first
      | ((with_reducible show wpList _ _ _ (⟨some 7, _, _, _, _, _⟩ :: _) _ _); (show wpList _ _ _ _ _ (w.alloc (.cells #[] 5))); refine wpList_append_seesV rfl (.tmp 5) (.tmp 6) 42 rfl w.heap.size 5 i0 _ 1 1 Try.underlying42 hi0 hz0 hz1 hz2 rfl (by decide) (.slice (some ⟨w.heap.size, 0, none⟩) 0 0) 0 [] rfl hO.out _ (some ad) l.length c (By l) rfl HL.out HS.out (By_one' l) (by have := HM.out; omega) (by have := HM.out; omega) (by simp) ?_; intro v' w' ho hg hv; obtain ⟨A', c', rfl⟩ := own_form ho; have HO := Lib.hid ho; have HG : Hid (Below w.heap.size w w') := (nxAl (nxRf w) _).grown hg (nxAl (nxRf w) _).size (fun j hj => by have hj2 : w.heap.size = j := Option.some.inj hj; omega); clear ho hg hv))
    go_ret
    have ho := HO.out
    simp only [Nat.zero_add, List.nil_append] at ho
    exact ⟨A', c', by simp, ho, HG.out⟩
end Go.Proofs.Ytjcbihdhkaiidaa
namespace Go.Proofs.Ytjcbihdhkaiidaa
open Go.RowKit

theorem bytesEq_any (w : World) (A B : Option Addr) (a b : List UInt8) (c d : Nat) (ha : Sees w w.heap.size A a) (hb : Sees w w.heap.size B b) : Calls Try.prog 35 #[.slice A a.length c, .slice B b.length d] w fun e w' => e = .returned (.bool (a == b)) ∧ w' = w := by
  have q1 := run_string_sees (P := Try.prog) (w := w) (c := c) (n := a.length) Try.underlying42 Try.underlying5 Try.underlying9 rfl ha
  have q2 := run_string_sees (P := Try.prog) (w := w) (c := d) (n := b.length) Try.underlying42 Try.underlying5 Try.underlying9 rfl hb
  clear ha hb
  go_enter Try.func35, Try.ntmps35
  go_wp2
  go_ret
  exact ⟨rfl, rfl⟩
theorem inP_eq {x y : InR} : inP x = inP y ↔ pt x = pt y ∧ x.wit = y.wit := by
  unfold inP pt
  simp only [Prod.mk.injEq]
  constructor
  · rintro ⟨h1, h2, h3⟩
    exact ⟨⟨h1, h2⟩, h3⟩
  · rintro ⟨⟨h1, h2⟩, h3⟩
    exact ⟨h1, h2, h3⟩

set_option maxHeartbeats 1000000 in
set_option maxRecDepth 100000 in
theorem sameInput_any (w : World) (x y : InR) (hx : InOk w x) (hy : InOk w y) : Calls Try.prog 30 #[.agg (inC x).toArray, .agg (inC y).toArray] w fun e w' => (∃ z : Bool, e = .returned (.bool z) ∧ (z = true ↔ inP x = inP y)) ∧ Below w.heap.size w w' := by
  have hb0 : Below w.heap.size w ((w.alloc (.cells (inC x).toArray 44)).alloc (.cells (inC y).toArray 44)) := nxAl (nxAl (nxRf w) _) _
  have Hb0 := Lib.hid hb0
  have B0 : Blk ((w.alloc (.cells (inC x).toArray 44)).alloc (.cells (inC y).toArray 44)) w.heap.size 44 (inC x).toArray := (show Blk (w.alloc (.cells (inC x).toArray 44)) _ _ _ from heap_alloc_new w _).alloc _
  have B1 : Blk ((w.alloc (.cells (inC x).toArray 44)).alloc (.cells (inC y).toArray 44)) (w.heap.size + 1) 44 (inC y).toArray := blk_new (by simp)
  have R0 := Lib.hid (rng_prefix (cs := ptC x) (ds := [.slice x.A x.wit.length x.c]) (by rw [← inC_pt]; exact blkR B0))
  have R1 := Lib.hid (rng_prefix (cs := ptC y) (ds := [.slice y.A y.wit.length y.c]) (by rw [← inC_pt]; exact blkR B1))
  have c0 : ((w.alloc (.cells (inC x).toArray 44)).alloc (.cells (inC y).toArray 44)).cell? ⟨w.heap.size, 33, none⟩ = some (.slice x.A x.wit.length x.c) := by rw [B0.cell]; have := (inC_at hx.id).2; simpa using this
  have c1 : ((w.alloc (.cells (inC x).toArray 44)).alloc (.cells (inC y).toArray 44)).cell? ⟨w.heap.size + 1, 33, none⟩ = some (.slice y.A y.wit.length y.c) := by rw [B1.cell]; have := (inC_at hy.id).2; simpa using this
  have HX := Lib.hid (hx.later hb0)
  have HY := Lib.hid (hy.later hb0)
  have Z0 : Hid ((Try.prog.info? 41).map (·.size) = some (ptC x).length) := by show _ = _; rw [ptC_len hx.id]; exact Try.sizePt
  have Z1 : Hid ((Try.prog.info? 41).map (·.size) = some (ptC y).length) := by show _ = _; rw [ptC_len hy.id]; exact Try.sizePt
  have heq := eql_pt (a := x) (b := y) ⟨hx.id, hx.n⟩ ⟨hy.id, hy.n⟩
  obtain ⟨z, hz⟩ : ∃ z, (pt x == pt y) = z := ⟨_, rfl⟩
  rw [hz] at heq
  have HZ := Lib.hid hz
  clear hx hy hb0 B0 B1 hz
  cases z with
  | true =>
    have HP : Hid (pt x = pt y) := eq_of_beq HZ.out
    go_enter Try.func30, Try.ntmps30
    go_wp2_with (first
      | ((with_reducible show wpList _ _ _ (⟨some 6, _, _, _, _, _⟩ :: _) _ _); refine wpList_load_mid rfl 41 (.tmp 5) rfl w.heap.size 0 rfl (ptC x) _ R0.out Try.underlying41 rfl Z0.out ?_)
      | ((with_reducible show wpList _ _ _ (⟨some 8, _, _, _, _, _⟩ :: _) _ _); refine wpList_load_mid rfl 41 (.tmp 7) rfl (w.heap.size + 1) 0 rfl (ptC y) _ R1.out Try.underlying41 rfl Z1.out ?_)
      | (go_at_call 35; refine (bytesEq_any _ x.A y.A x.wit y.wit x.c y.c HX.out.s HY.out.s).mono ?_; rintro e w2 ⟨rfl, hw2⟩; obtain rfl := hw2.symm))
    go_ret
    exact ⟨⟨x.wit == y.wit, rfl, by rw [inP_eq, beq_iff_eq]; exact ⟨fun h => ⟨HP.out, h⟩, fun h => h.2⟩⟩, Hb0.out⟩
  | false =>
    have HP : Hid (pt x ≠ pt y) := beq_eq_false_iff_ne.1 HZ.out
    go_enter Try.func30, Try.ntmps30
    go_wp2_with (first
      | ((with_reducible show wpList _ _ _ (⟨some 6, _, _, _, _, _⟩ :: _) _ _); refine wpList_load_mid rfl 41 (.tmp 5) rfl w.heap.size 0 rfl (ptC x) _ R0.out Try.underlying41 rfl Z0.out ?_)
      | ((with_reducible show wpList _ _ _ (⟨some 8, _, _, _, _, _⟩ :: _) _ _); refine wpList_load_mid rfl 41 (.tmp 7) rfl (w.heap.size + 1) 0 rfl (ptC y) _ R1.out Try.underlying41 rfl Z1.out ?_))
    go_ret
    exact ⟨⟨false, rfl, by rw [inP_eq]; exact ⟨fun h => (by cases h), fun h => absurd h.1 HP.out⟩⟩, Hb0.out⟩

theorem map_next {α β : Type} {f : α → β} {l m : List α} {k : Nat} (hk : k < l.length) (hm : k < m.length) (h : (l.take k).map f = (m.take k).map f) (he : f l[k] = f m[k]) : (l.take (k + 1)).map f = (m.take (k + 1)).map f := by
  rw [List.take_succ_eq_append_getElem hk, List.take_succ_eq_append_getElem hm, List.map_append, List.map_append, h]
  simp [he]
/-- What a comparison of two rows answers. -/
def RowsPost {α : Type} (w : World) (a b : α) (e : Ending) (w' : World) : Prop := ∃ z : Bool, e = .returned (.bool z) ∧ (z = true ↔ a = b) ∧ Below w.heap.size w w'

set_option maxHeartbeats 2000000 in
set_option maxRecDepth 100000 in
theorem equalFunc_any (w : World) (A B : Option Addr) (l m : List InR) (c d : Nat) (hA : SeesV w w.heap.size A (insC l)) (hB : SeesV w w.heap.size B (insC m)) (hl : ∀ i ∈ l, InOk w i) (hm : ∀ i ∈ m, InOk w i) (hmax : l.length ≤ 140737488355328) :
    Calls Try.prog 29 #[.slice A l.length c, .slice B m.length d, .func (.func 30) #[] #[]] w (RowsPost w (l.map inP) (m.map inP)) := by
  have HA := Lib.hid hA
  have HB := Lib.hid hB
  have HL := Lib.hid hl
  have HM := Lib.hid hm
  unfold RowsPost
  clear hA hB hl hm
  by_cases hn : (l.length : Int) = (m.length : Int)
  · have hnn : l.length = m.length := by omega
    have HN := Lib.hid hnn
    rw [← hnn]
    clear hn hnn
    go_enter Try.func29, Try.ntmps29
    go_wp2
    go_loopw [17] (fun iv wr => ∃ k : Nat, k ≤ l.length ∧ iv = .int .i64 k ∧ Hid ((l.take k).map inP = (m.take k).map inP) ∧ Hid (Below w.heap.size w wr)) (fun iv _ => l.length - (intOf iv).toNat)
    case atStart => exact ⟨0, by omega, rfl, rfl, nxRf w⟩
    case round =>
      obtain ⟨k, hk, rfl, HE, Hb⟩ := hrel
      by_cases hlt : k < l.length
      · have hltm : k < m.length := by rw [← HN.out]; exact hlt
        obtain ⟨b1, f1, rfl, hb1, hr1⟩ := insC_row HA.out (fun i h => (HL.out i h).id) (by omega)
        obtain ⟨b2, f2, rfl, hb2, hr2⟩ := insC_row HB.out (fun i h => (HM.out i h).id) (by omega)
        have r1 := rngB (hr1 k hlt) Hb.out hb1
        have r2 := rngB (hr2 k hltm) Hb.out hb2
        have o1 := (HL.out _ (List.getElem_mem hlt)).later Hb.out
        have o2 := (HM.out _ (List.getElem_mem hltm)).later Hb.out
        obtain ⟨x, hx⟩ : ∃ i, l[k] = i := ⟨_, rfl⟩
        obtain ⟨y, hy⟩ : ∃ i, m[k] = i := ⟨_, rfl⟩
        rw [hx] at r1 o1
        rw [hy] at r2 o2
        have HX := Lib.hid hx
        have HY := Lib.hid hy
        have R1 := Lib.hid r1
        have R2 := Lib.hid r2
        have O1 := Lib.hid o1
        have O2 := Lib.hid o2
        have Zx : Hid ((Try.prog.info? 44).map (·.size) = some (inC x).length) := by show _ = _; rw [inC_len o1.id]; exact Try.sizeIn
        have Zy : Hid ((Try.prog.info? 44).map (·.size) = some (inC y).length) := by show _ = _; rw [inC_len o2.id]; exact Try.sizeIn
        have Lb2 := Lib.hid (Nat.lt_of_lt_of_le hb2 Hb.out.size)
        have Sx : Hid ((Try.prog.info? 44).map (·.size) = some (inC x).toArray.size) := Zx
        have Sy : Hid ((Try.prog.info? 44).map (·.size) = some (inC y).toArray.size) := Zy
        have Qx : Hid (inZ.size = (inC x).toArray.size) := by show _ = _; rw [show (inC x).toArray.size = (inC x).length from List.size_toArray, inC_len o1.id]; rfl
        have Qy : Hid (inZ.size = (inC y).toArray.size) := by show _ = _; rw [show (inC y).toArray.size = (inC y).length from List.size_toArray, inC_len o2.id]; rfl
        clear hr1 hr2 r1 r2 o1 o2 hx hy hb1 hb2
        go_wp2_with (first
          | ((with_reducible show wpList _ _ _ (⟨some 21, _, _, _, _, _⟩ :: _) _ _); refine wpList_load_mid rfl 44 (.tmp 20) rfl b1 (f1 + k * 34) rfl (inC x) _ R1.out Try.underlying44 rfl Zx.out ?_)
          | ((with_reducible show wpList _ _ _ (⟨none, .store 44 (.tmp 8) _, _, _, _, _⟩ :: _) _ _); (show wpList _ _ _ _ _ (wr.alloc (.cells inZ 44))); refine wpList_store_all rfl 44 (.tmp 8) (.tmp 21) rfl wr.heap.size 44 inZ (inC x).toArray rfl rfl (heap_alloc_new wr _) Qx.out Sx.out (inC_one x) ?_; intro w2 h5 h6 h7; have Rx := Lib.hid (blkR (vs := inC x) h5); have Lx := Lib.hid h5.lt; have V2 : Hid (Below wr.heap.size wr w2) := belowFresh h6; clear h5 h6 h7)
          | ((with_reducible show wpList _ _ _ (⟨some 25, _, _, _, _, _⟩ :: _) _ _); refine wpList_load_mid rfl 44 (.tmp 24) rfl b2 (f2 + k * 34) rfl (inC y) _ (rngB R2.out V2.out Lb2.out) Try.underlying44 rfl Zy.out ?_)
          | ((with_reducible show wpList _ _ _ (⟨none, .store 44 (.tmp 9) _, _, _, _, _⟩ :: _) _ _); (show wpList _ _ _ _ _ (w2.alloc (.cells inZ 44))); refine wpList_store_all rfl 44 (.tmp 9) (.tmp 25) rfl w2.heap.size 44 inZ (inC y).toArray rfl rfl (heap_alloc_new w2 _) Qy.out Sy.out (inC_one y) ?_; intro w3 h5 h6 h7; have Ry := Lib.hid (blkR (vs := inC y) h5); have V23 : Hid (Below w2.heap.size w2 w3) := belowFresh h6; have V3 : Hid (Below wr.heap.size wr w3) := nxTr V2.out V23.out; have Rx3 := Lib.hid (rngB Rx.out V23.out Lx.out); clear h5 h6 h7)
          | ((with_reducible show wpList _ _ _ (⟨some 27, _, _, _, _, _⟩ :: _) _ _); refine wpList_load_mid rfl 44 (.tmp 8) rfl wr.heap.size 0 rfl (inC x) _ Rx3.out Try.underlying44 rfl Zx.out ?_)
          | ((with_reducible show wpList _ _ _ (⟨some 28, _, _, _, _, _⟩ :: _) _ _); refine wpList_load_mid rfl 44 (.tmp 9) rfl w2.heap.size 0 rfl (inC y) _ Ry.out Try.underlying44 rfl Zy.out ?_)
          | (go_at_call 30; refine (sameInput_any w3 x y (O1.out.later V3.out) (O2.out.later V3.out)).mono ?_; rintro e w4 ⟨⟨z, rfl, hz⟩, hb⟩; have V4 : Hid (Below w.heap.size w w4) := nxTr Hb.out (nxTr V3.out hb); have HZ := Lib.hid hz; clear hz hb; cases z))
        · go_ret
          refine ⟨false, rfl, ⟨fun h => (by cases h), fun h => ?_⟩, V4.out⟩
          have h1 : (l.map inP)[k]? = (m.map inP)[k]? := by rw [h]
          rw [List.getElem?_map, List.getElem?_map, List.getElem?_eq_getElem hlt, List.getElem?_eq_getElem (by rw [← HN.out]; exact hlt), HX.out, HY.out] at h1
          exact HZ.out.2 (by simpa using h1)
        · go_roundw
          case rel => exact ⟨k + 1, by omega, by go_num, map_next hlt (by rw [← HN.out]; exact hlt) HE.out (by rw [HX.out, HY.out]; exact HZ.out.1 (by first | rfl | trivial)), V4.out⟩
          case measure => simp [intOf] <;> omega
      · obtain rfl : k = l.length := by omega
        go_wp2
        go_ret
        have h := HE.out
        rw [List.take_length, HN.out, List.take_length] at h
        exact ⟨true, rfl, ⟨fun _ => h, fun _ => rfl⟩, Hb.out⟩
  · have hne : l.map inP ≠ m.map inP := fun h => by have := congrArg List.length h; simp at this; omega
    have HNe := Lib.hid hne
    clear hne
    go_enter Try.func29, Try.ntmps29
    go_wp2
    go_ret
    exact ⟨false, rfl, ⟨fun h => (by cases h), fun h => absurd h HNe.out⟩, nxRf w⟩

set_option maxHeartbeats 2000000 in
set_option maxRecDepth 100000 in
theorem equalOuts_any (w : World) (A B : Option Addr) (l m : List OutR) (c d : Nat) (hA : SeesV w w.heap.size A (outsC l)) (hB : SeesV w w.heap.size B (outsC m)) (hl : ∀ i ∈ l, OutOk i) (hm : ∀ i ∈ m, OutOk i) (hmax : l.length ≤ 140737488355328) :
    Calls Try.prog 31 #[.slice A l.length c, .slice B m.length d] w (RowsPost w l m) := by
  have HA := Lib.hid hA
  have HB := Lib.hid hB
  have HL := Lib.hid hl
  have HM := Lib.hid hm
  unfold RowsPost
  clear hA hB hl hm
  by_cases hn : (l.length : Int) = (m.length : Int)
  · have hnn : l.length = m.length := by omega
    have HN := Lib.hid hnn
    rw [← hnn]
    clear hn hnn
    go_enter Try.func31, Try.ntmps31
    go_wp2
    go_loopw [13] (fun iv wr => ∃ k : Nat, k ≤ l.length ∧ iv = .int .i64 k ∧ Hid ((l.take k).map id = (m.take k).map id) ∧ Hid (Below w.heap.size w wr)) (fun iv _ => l.length - (intOf iv).toNat)
    case atStart => exact ⟨0, by omega, rfl, rfl, nxRf w⟩
    case round =>
      obtain ⟨k, hk, rfl, HE, Hb⟩ := hrel
      by_cases hlt : k < l.length
      · have hltm : k < m.length := by rw [← HN.out]; exact hlt
        have hin : (k : Int) < (l.length : Int) := by omega
        obtain ⟨b1, f1, rfl, hb1, hr1⟩ := outsC_row HA.out (fun i h => (HL.out i h).lock) (by omega)
        obtain ⟨b2, f2, rfl, hb2, hr2⟩ := outsC_row HB.out (fun i h => (HM.out i h).lock) (by omega)
        have r1 := rngB (hr1 k hlt) Hb.out hb1
        have r2 := rngB (hr2 k hltm) Hb.out hb2
        have o1 := HL.out _ (List.getElem_mem hlt)
        have o2 := HM.out _ (List.getElem_mem hltm)
        obtain ⟨x, hx⟩ : ∃ i, l[k] = i := ⟨_, rfl⟩
        obtain ⟨y, hy⟩ : ∃ i, m[k] = i := ⟨_, rfl⟩
        rw [hx] at r1 o1
        rw [hy] at r2 o2
        have HX := Lib.hid hx
        have HY := Lib.hid hy
        have R1 := Lib.hid r1
        have R2 := Lib.hid r2
        have Zx : Hid ((Try.prog.info? 46).map (·.size) = some (outC x).length) := by show _ = _; rw [outC_len o1.lock]; exact Try.sizeOut
        have Zy : Hid ((Try.prog.info? 46).map (·.size) = some (outC y).length) := by show _ = _; rw [outC_len o2.lock]; exact Try.sizeOut
        obtain ⟨z, hz, hneq⟩ := neq_ou o1 o2
        have HZ := Lib.hid hz
        clear hr1 hr2 r1 r2 o1 o2 hx hy hb1 hb2 hz
        go_wp2_with fail
        refine wp_region_held_drew (S := fun W => W.rangeAt b1 (f1 + k * 33) (outC x) ∧ W.rangeAt b2 (f2 + k * 33) (outC y)) (by kernel_rfl) ⟨R1.out, R2.out⟩ (fun hHeld => ?_)
        refine wpAnyH_take (i := 0) (oi := ⟨_, _, _, _, _, _⟩) (v := ?_) rfl (by kernel_rfl) (by kernel_rfl) (by kernel_rfl) (fun _ _ _ h => h) (Or.inl ⟨by rfl, ?_⟩) (by assumption) ?_
        rotate_left 1
        · intro W hSw
          try dsimp only at hSw
          go_simp
          try with_reducible rfl
        try simp only [Act.put, List.setIfInBounds_toArray, List.set_cons_zero, List.set_cons_succ]
        refine wpAnyH_take (i := 1) (oi := ⟨_, _, _, _, _, _⟩) (v := ?_) rfl (by kernel_rfl) (by kernel_rfl) (by kernel_rfl) (fun _ _ _ h => h) (Or.inl ⟨by rfl, ?_⟩) (by assumption) ?_
        rotate_left 1
        · intro W hSw
          try dsimp only at hSw
          go_simp
          try with_reducible rfl
        try simp only [Act.put, List.setIfInBounds_toArray, List.set_cons_zero, List.set_cons_succ]
        refine wpAnyH_take (i := 2) (oi := ⟨_, _, _, _, _, _⟩) (v := ?_) rfl (by kernel_rfl) (by kernel_rfl) (by kernel_rfl) (fun _ _ _ h => h) (Or.inl ⟨by rfl, ?_⟩) (by assumption) ?_
        rotate_left 1
        · intro W hSw
          try dsimp only at hSw
          go_simp
          try with_reducible rfl
        try simp only [Act.put, List.setIfInBounds_toArray, List.set_cons_zero, List.set_cons_succ]
        refine wpAnyH_take (i := 3) (oi := ⟨_, _, _, _, _, _⟩) (v := .agg (outC x).toArray) rfl (by kernel_rfl) (by kernel_rfl) (by kernel_rfl) (fun _ _ _ h => h) (yieldsIf_load_mid (by rfl) 46 (.tmp 18) rfl (b1) (f1 + k * 33) rfl (outC x) _ (fun W h => h.1) Try.underlying46 rfl Zx.out) (by assumption) ?_
        try simp only [Act.put, List.setIfInBounds_toArray, List.set_cons_zero, List.set_cons_succ]
        refine wpAnyH_take (i := 4) (oi := ⟨_, _, _, _, _, _⟩) (v := ?_) rfl (by kernel_rfl) (by kernel_rfl) (by kernel_rfl) (fun _ _ _ h => h) (Or.inl ⟨by rfl, ?_⟩) (by assumption) ?_
        rotate_left 1
        · intro W hSw
          try dsimp only at hSw
          go_simp
          try with_reducible rfl
        try simp only [Act.put, List.setIfInBounds_toArray, List.set_cons_zero, List.set_cons_succ]
        refine wpAnyH_take (i := 5) (oi := ⟨_, _, _, _, _, _⟩) (v := ?_) rfl (by kernel_rfl) (by kernel_rfl) (by kernel_rfl) (fun _ _ _ h => h) (Or.inl ⟨by rfl, ?_⟩) (by assumption) ?_
        rotate_left 1
        · intro W hSw
          try dsimp only at hSw
          go_simp
          try with_reducible rfl
        try simp only [Act.put, List.setIfInBounds_toArray, List.set_cons_zero, List.set_cons_succ]
        refine wpAnyH_take (i := 6) (oi := ⟨_, _, _, _, _, _⟩) (v := ?_) rfl (by kernel_rfl) (by kernel_rfl) (by kernel_rfl) (fun _ _ _ h => h) (Or.inl ⟨by rfl, ?_⟩) (by assumption) ?_
        rotate_left 1
        · intro W hSw
          try dsimp only at hSw
          go_simp
          try with_reducible rfl
        try simp only [Act.put, List.setIfInBounds_toArray, List.set_cons_zero, List.set_cons_succ]
        refine wpAnyH_take (i := 7) (oi := ⟨_, _, _, _, _, _⟩) (v := .agg (outC y).toArray) rfl (by kernel_rfl) (by kernel_rfl) (by kernel_rfl) (fun _ _ _ h => h) (yieldsIf_load_mid (by rfl) 46 (.tmp 22) rfl (b2) (f2 + k * 33) rfl (outC y) _ (fun W h => h.2) Try.underlying46 rfl Zy.out) (by assumption) ?_
        try simp only [Act.put, List.setIfInBounds_toArray, List.set_cons_zero, List.set_cons_succ]
        refine wpAnyH_take (i := 8) (oi := ⟨_, _, _, _, _, _⟩) (v := ?_) rfl (by kernel_rfl) (by kernel_rfl) (by kernel_rfl) (fun _ _ _ h => h) (Or.inl ⟨by rfl, ?_⟩) (by assumption) ?_
        rotate_left 1
        · intro W hSw
          try dsimp only at hSw
          go_simp
          try with_reducible rfl
        try simp only [Act.put, List.setIfInBounds_toArray, List.set_cons_zero, List.set_cons_succ]
        refine wpAnyH_done (by kernel_rfl) ?_ _
        have Hbd : Hid (Below w.heap.size w wr.drew) := nxDrI Hb.out
        cases z with
        | true =>
          go_wp2
          go_ret
          refine ⟨false, rfl, ⟨fun h => (by cases h), fun h => ?_⟩, Hbd.out⟩
          have h1 : l[k]? = m[k]? := by rw [h]
          rw [List.getElem?_eq_getElem hlt, List.getElem?_eq_getElem (by rw [← HN.out]; exact hlt), HX.out, HY.out] at h1
          have h2 := HZ.out.2 (by simpa using h1)
          cases h2
        | false =>
          go_wp2
          go_roundw
          case rel => exact ⟨k + 1, by omega, by go_num, map_next hlt (by rw [← HN.out]; exact hlt) HE.out (by rw [HX.out, HY.out]; exact HZ.out.1 (by first | rfl | trivial)), Hbd.out⟩
          case measure => simp [intOf] <;> omega
      · obtain rfl : k = l.length := by omega
        go_wp2
        go_ret
        have h := HE.out
        rw [List.take_length, HN.out, List.take_length, List.map_id, List.map_id] at h
        exact ⟨true, rfl, ⟨fun _ => h, fun _ => rfl⟩, Hb.out⟩
  · have hne : l ≠ m := fun h => by have := congrArg List.length h; omega
    have HNe := Lib.hid hne
    clear hne
    go_enter Try.func31, Try.ntmps31
    go_wp2
    go_ret
    exact ⟨false, rfl, ⟨fun h => (by cases h), fun h => absurd h HNe.out⟩, nxRf w⟩

theorem txP_eq {t u : TxR} : txP t = txP u ↔ t.ins.map inP = u.ins.map inP ∧ t.outs = u.outs ∧ t.nonce = u.nonce := by
  unfold txP
  simp only [TxP.mk.injEq]
set_option maxHeartbeats 2000000 in
set_option maxRecDepth 100000 in
theorem same_any (w : World) (t u : TxR) (ht : TxOk w t) (hu : TxOk w u) : Calls Try.prog 19 #[.agg (txC t).toArray, .agg (txC u).toArray] w (SamePost w t u) := by
  have hb0 : Below w.heap.size w ((w.alloc (.cells (txC t).toArray 37)).alloc (.cells (txC u).toArray 37)) := nxAl (nxAl (nxRf w) _) _
  have Hb0 := Lib.hid hb0
  have hB2 : Blk ((w.alloc (.cells (txC t).toArray 37)).alloc (.cells (txC u).toArray 37)) w.heap.size 37 (txC t).toArray := (show Blk (w.alloc (.cells (txC t).toArray 37)) _ _ _ from heap_alloc_new w _).alloc _
  have hB3 : Blk ((w.alloc (.cells (txC t).toArray 37)).alloc (.cells (txC u).toArray 37)) (w.heap.size + 1) 37 (txC u).toArray := blk_new (by simp)
  have C0 : Hid (((w.alloc (.cells (txC t).toArray 37)).alloc (.cells (txC u).toArray 37)).cell? ⟨w.heap.size, 0, none⟩ = some (.slice t.A t.ins.length t.c) ∧ ((w.alloc (.cells (txC t).toArray 37)).alloc (.cells (txC u).toArray 37)).cell? ⟨w.heap.size, 1, none⟩ = some (.slice t.B t.outs.length t.d) ∧ ((w.alloc (.cells (txC t).toArray 37)).alloc (.cells (txC u).toArray 37)).cell? ⟨w.heap.size, 2, none⟩ = some (.int .u64 (t.nonce : Int)) ∧ ((w.alloc (.cells (txC t).toArray 37)).alloc (.cells (txC u).toArray 37)).cell? ⟨w.heap.size + 1, 0, none⟩ = some (.slice u.A u.ins.length u.c) ∧ ((w.alloc (.cells (txC t).toArray 37)).alloc (.cells (txC u).toArray 37)).cell? ⟨w.heap.size + 1, 1, none⟩ = some (.slice u.B u.outs.length u.d) ∧ ((w.alloc (.cells (txC t).toArray 37)).alloc (.cells (txC u).toArray 37)).cell? ⟨w.heap.size + 1, 2, none⟩ = some (.int .u64 (u.nonce : Int))) := ⟨hB2.cell 0, hB2.cell 1, hB2.cell 2, hB3.cell 0, hB3.cell 1, hB3.cell 2⟩
  have HT := Lib.hid (ht.later hb0)
  have HU := Lib.hid (hu.later hb0)
  have a0 := C0.out.1
  have b0 := C0.out.2.2.2.1
  unfold SamePost
  clear hb0 hB2 hB3 ht hu
  go_enter Try.func19, Try.ntmps19
  go_wp2_with (first
    | (go_at_call 29; refine (equalFunc_any _ t.A u.A t.ins u.ins t.c u.c HT.out.ins HU.out.ins HT.out.each HU.out.each HT.out.mi).mono ?_; unfold RowsPost; rintro e w2 ⟨z1, rfl, hz1, hb⟩; have V2 : Hid (Below ((w.alloc (.cells (txC t).toArray 37)).alloc (.cells (txC u).toArray 37)).heap.size ((w.alloc (.cells (txC t).toArray 37)).alloc (.cells (txC u).toArray 37)) w2) := hb; have Z1 := Lib.hid hz1; have a1 := cell_later hb C0.out.2.1; have b1 := cell_later hb C0.out.2.2.2.2.1; clear hz1 hb a0 b0; cases z1)
    | (go_at_call 31; refine (equalOuts_any w2 t.B u.B t.outs u.outs t.d u.d (HT.out.later V2.out).outs (HU.out.later V2.out).outs HT.out.eacho HU.out.eacho HT.out.mo).mono ?_; unfold RowsPost; rintro e w3 ⟨z2, rfl, hz2, hb⟩; have V3 : Hid (Below ((w.alloc (.cells (txC t).toArray 37)).alloc (.cells (txC u).toArray 37)).heap.size ((w.alloc (.cells (txC t).toArray 37)).alloc (.cells (txC u).toArray 37)) w3) := nxTr V2.out hb; have Z2 := Lib.hid hz2; have a2 := cell_later V3.out C0.out.2.2.1; have b2 := cell_later V3.out C0.out.2.2.2.2.2; clear hz2 hb a1 b1; cases z2))
  · go_ret
    exact ⟨false, rfl, ⟨fun h => (by cases h), fun h => Z1.out.2 (txP_eq.1 h).1⟩, nxTr Hb0.out V2.out⟩
  · go_ret
    exact ⟨false, rfl, ⟨fun h => (by cases h), fun h => Z2.out.2 (txP_eq.1 h).2.1⟩, nxTr Hb0.out V3.out⟩
  · go_ret
    refine ⟨_, rfl, ?_, nxTr Hb0.out V3.out⟩
    rw [txP_eq]
    have h1 := Z1.out.1 (by first | rfl | trivial)
    have h2 := Z2.out.1 (by first | rfl | trivial)
    constructor
    · intro h
      exact ⟨h1, h2, by have := eq_of_beq h; omega⟩
    · rintro ⟨_, _, h⟩
      rw [h]
      exact beq_self_eq_true _
end Go.Proofs.Ytjcbihdhkaiidaa
namespace Go.Proofs.Ytjcbihdhkaiidaa
open Go.RowKit Go.Maps

theorem own_map_below {w w' : World} {P : Program} {k : TypeId} {R : Value → Option (DataW Unit × List MemPlace)} {b n : Nat} {D : DataW Unit} (h : w.ownsMap P k R b n D) (hb : Below w.heap.size w w') : w'.ownsMap P k R b n D := by
  obtain ⟨es, clock, hq, r⟩ := h
  exact ⟨es, clock, (hb.block b (Array.getElem?_eq_some_iff.1 hq).1).trans hq, r⟩
/-- A map of outpoints behind a cell. -/
def MapAt (w : World) (gm B n : Nat) (D : DataW Unit) : Prop := gm < w.heap.size ∧ w.cell? ⟨gm, 0, none⟩ = some (.map (some B)) ∧ w.ownsMap Try.prog 41 (unitElem (H := Unit)) B n D
theorem MapAt.later {w w' : World} {gm B n : Nat} {D : DataW Unit} (h : MapAt w gm B n D) (hb : Below w.heap.size w w') : MapAt w' gm B n D := ⟨Nat.lt_of_lt_of_le h.1 hb.size, (hb.cell (p := ⟨gm, 0, none⟩) h.1).trans h.2.1, own_map_below h.2.2 hb⟩

/-- Do both spend one? -/
def spendsB (t u : TxR) : Bool := u.ins.any fun i => t.ins.any fun j => pt j == pt i
theorem spends_has {w : World} {t u : TxR} (ht : TxOk w t) (hu : TxOk w u) : u.ins.any (fun i => Maps.has (ptSet t.ins) (ptKey i)) = spendsB t u := by
  unfold spendsB
  have key : ∀ l : List InR, (∀ i ∈ l, i.id.length = 32 ∧ i.n < 4294967296) → l.any (fun i => Maps.has (ptSet t.ins) (ptKey i)) = l.any fun i => t.ins.any fun j => pt j == pt i := by
    intro l hl
    induction l with
    | nil => rfl
    | cons a r ih => rw [List.any_cons, List.any_cons, ih (fun j hj => hl j (List.mem_cons_of_mem _ hj)), has_ptSet (fun j hj => ⟨(ht.each j hj).id, (ht.each j hj).n⟩) (hl a List.mem_cons_self)]
  exact key u.ins (fun i hi => ⟨(hu.each i hi).id, (hu.each i hi).n⟩)

end Go.Proofs.Ytjcbihdhkaiidaa
namespace Go.Proofs.Ytjcbihdhkaiidaa
open Go.RowKit

theorem spends_turn (t u : TxR) : (t.ins.any fun i => u.ins.any fun j => pt i == pt j) = spendsB t u := by
  rw [Bool.eq_iff_iff]
  unfold spendsB
  simp only [List.any_eq_true, beq_iff_eq]
  constructor
  · rintro ⟨i, hi, j, hj, h⟩
    exact ⟨j, hj, i, hi, h⟩
  · rintro ⟨j, hj, i, hi, h⟩
    exact ⟨i, hi, j, hj, h⟩
theorem spends_no {t u : TxR} (h : ∀ i (hi : i < t.ins.length), ∀ k (hk : k < u.ins.length), pt t.ins[i] ≠ pt u.ins[k]) : spendsB t u = false := by
  rw [← spends_turn]
  refine Bool.eq_false_iff.2 fun h' => ?_
  obtain ⟨x, hx, h'⟩ := List.any_eq_true.1 h'
  obtain ⟨y, hy, h'⟩ := List.any_eq_true.1 h'
  obtain ⟨i, hi, rfl⟩ := List.getElem_of_mem hx
  obtain ⟨k, hk, rfl⟩ := List.getElem_of_mem hy
  exact h i hi k hk (eq_of_beq h')
theorem spends_yes {t u : TxR} {i k : Nat} (hi : i < t.ins.length) (hk : k < u.ins.length) (h : pt t.ins[i] = pt u.ins[k]) : spendsB t u = true := by
  rw [← spends_turn]
  exact List.any_eq_true.2 ⟨_, List.getElem_mem hi, List.any_eq_true.2 ⟨_, List.getElem_mem hk, beq_iff_eq.2 h⟩⟩

theorem amt_sum {l : List OutR} (h : amtE l = 0) (k : Nat) (hk : k ≤ l.length) : ((l.take k).map (·.amt)).sum ≤ 1125899906842624 ∧ amtV l = (l.map (·.amt)).sum := by
  unfold amtE at h
  cases hz : l.any (fun o => o.amt == 0) with
  | true => rw [hz] at h; cases h
  | false =>
    rw [hz, cond_false] at h
    unfold sumE at h
    by_cases hm : (l.map (·.amt)).sum ≤ maxM
    · refine ⟨?_, by rw [amtV, hz, cond_false, sumV, if_pos hm]⟩
      have e : ((l.take k).map (·.amt)).sum + ((l.drop k).map (·.amt)).sum = (l.map (·.amt)).sum := by rw [← List.sum_append, ← List.map_append, List.take_append_drop]
      unfold maxM at hm
      omega
    · rw [if_neg hm] at h; cases h
theorem check_amt {t : TxR} (h : checkT t = 0) : amtE t.outs = 0 := by
  unfold checkT at h
  cases hf : formB t with
  | true => rw [hf] at h; exact h
  | false => rw [hf] at h; cases h
theorem sum_snoc {l : List OutR} {k : Nat} (h : k < l.length) : ((l.take (k + 1)).map (·.amt)).sum = ((l.take k).map (·.amt)).sum + l[k].amt := by
  rw [List.take_succ_eq_append_getElem h, List.map_append, List.sum_append]; simp

end Go.Proofs.Ytjcbihdhkaiidaa
namespace Go.Proofs.Ytjcbihdhkaiidaa
open Go.RowKit

theorem insC_cons (i : InR) (r : List InR) : insC (i :: r) = inC i ++ insC r := by simp [insC]
theorem inC_set {i : InR} (h : i.id.length = 32) (A2 : Option Addr) (c2 : Nat) : (inC i).set 33 (.slice A2 i.wit.length c2) = inC ⟨i.id, i.n, A2, c2, i.wit⟩ := by
  unfold inC
  rw [List.set_append_right _ _ (by rw [By_length, h]; omega), By_length, h]
  rfl
theorem insC_set : ∀ {l : List InR} {k : Nat} (hk : k < l.length) (_ : ∀ i ∈ l, i.id.length = 32) (A2 : Option Addr) (c2 : Nat), (insC l).set (k * 34 + 33) (.slice A2 l[k].wit.length c2) = insC (l.set k ⟨l[k].id, l[k].n, A2, c2, l[k].wit⟩)
  | [], _, hk, _, _, _ => by cases hk
  | i :: r, 0, _, hi, A2, c2 => by
    have h := hi i List.mem_cons_self
    rw [insC_cons, List.set_cons_zero, insC_cons, Nat.zero_mul, Nat.zero_add, List.set_append_left _ _ (by rw [inC_len h]; omega)]
    show (inC i).set 33 (.slice A2 i.wit.length c2) ++ _ = _
    rw [inC_set h]
    rfl
  | i :: r, k + 1, hk, hi, A2, c2 => by
    have h := hi i List.mem_cons_self
    have ih := insC_set (l := r) (k := k) (by simpa using hk) (fun j hj => hi j (List.mem_cons_of_mem _ hj)) A2 c2
    rw [insC_cons, List.set_cons_succ, insC_cons, List.set_append_right _ _ (by rw [inC_len h]; omega), inC_len h, show (k + 1) * 34 + 33 - 34 = k * 34 + 33 by omega]
    show inC i ++ (insC r).set (k * 34 + 33) (.slice A2 (r[k]'(by simpa using hk)).wit.length c2) = _
    rw [ih]
    rfl
theorem insC_at : ∀ {l : List InR} {k : Nat} (hk : k < l.length) (_ : ∀ i ∈ l, i.id.length = 32), (insC l)[k * 34 + 33]? = some (.slice l[k].A l[k].wit.length l[k].c)
  | [], _, hk, _ => by cases hk
  | i :: r, 0, _, hi => by
    have h := hi i List.mem_cons_self
    rw [insC_cons, List.getElem?_append_left (by rw [inC_len h]; omega)]
    exact (inC_at h).2
  | i :: r, k + 1, hk, hi => by
    have h := hi i List.mem_cons_self
    rw [insC_cons, List.getElem?_append_right (by rw [inC_len h]; omega), inC_len h, show (k + 1) * 34 + 33 - 34 = k * 34 + 33 by omega]
    exact insC_at (l := r) (by simpa using hk) (fun j hj => hi j (List.mem_cons_of_mem _ hj))
/-- None of what the row shows lies in S. -/
def OutS {α : Type} (S : Nat → Prop) (xs : List α) (A : Option Addr) : Prop := xs = [] ∨ ∀ ad, A = some ad → ¬ S ad.block
theorem SeesV.keepsS {w w' : World} {S : Nat → Prop} {A : Option Addr} {xs : List Value} (h : SeesV w w.heap.size A xs) (k : Keeps S w w') (hn : OutS S xs A) : SeesV w' w'.heap.size A xs := by
  rcases hn with rfl | hn
  · exact .inl rfl
  rcases h with h | ⟨b, off, hA, hlt, hc⟩
  · exact .inl h
  · refine .inr ⟨b, off, hA, Nat.lt_of_lt_of_le hlt k.size, fun i hi => ?_⟩
    exact (k.cell (p := ⟨b, off + i, none⟩) hlt (show ¬ S b from hn _ hA)).trans (hc i hi)
theorem InOk.keepsS {w w' : World} {S : Nat → Prop} {i : InR} (h : InOk w i) (k : Keeps S w w') (hn : OutS S i.wit i.A) : InOk w' i := by
  refine ⟨h.id, h.n, h.c, ?_, h.m⟩
  rcases hn with hn | hn
  · exact .inl hn
  · exact (h.s.keeps k (fun ad e _ => hn ad e)).more k.size
structure TxOut (S : Nat → Prop) (t : TxR) : Prop where
  ins : OutS S t.ins t.A
  outs : OutS S t.outs t.B
  each : ∀ i ∈ t.ins, OutS S i.wit i.A
theorem OutS.mono {α : Type} {S S' : Nat → Prop} {xs : List α} {A : Option Addr} (h : OutS S xs A) (hS : ∀ b, S' b → S b) : OutS S' xs A := h.imp id (fun h ad e hb => h ad e (hS _ hb))
theorem TxOut.mono {S S' : Nat → Prop} {t : TxR} (h : TxOut S t) (hS : ∀ b, S' b → S b) : TxOut S' t := ⟨h.ins.mono hS, h.outs.mono hS, fun i hi => (h.each i hi).mono hS⟩
theorem TxOk.keepsS {w w' : World} {S : Nat → Prop} {t : TxR} (h : TxOk w t) (k : Keeps S w w') (hn : TxOut S t) : TxOk w' t := by
  have h1 : OutS S (insC t.ins) t.A := hn.ins.imp (fun e => by rw [e]; rfl) id
  have h2 : OutS S (outsC t.outs) t.B := hn.outs.imp (fun e => by rw [e]; rfl) id
  exact ⟨h.ins.keepsS k h1, fun i hi => (h.each i hi).keepsS k (hn.each i hi), h.outs.keepsS k h2, h.eacho, h.c, h.d, h.nonce, h.mi, h.mo⟩
theorem own_OutS {w : World} {base size n c : Nat} {A : Option Addr} {e : TypeId} {xs : List Value} {α : Type} {l : List α} (h : w.ownsRow base e size (.slice A n c) n xs) : OutS (· < base) l A :=
  .inr fun ad e hb => by have := (own_lt h ad.block (by rw [own_blk, e]; rfl)).1; omega
theorem sees_OutS {w : World} {B : Nat} {A : Option Addr} {l : List UInt8} (h : Sees w B A l) : OutS (B ≤ ·) l A := by
  rcases h with h | ⟨b, off, hA, hb, _⟩
  · exact .inl h
  · refine .inr fun ad e hle => ?_
    rw [hA] at e
    obtain rfl := Option.some.inj e
    have : B ≤ b := hle
    omega
/-- Copy's row of inputs, of which k have witnesses of their own. -/
def CopyAt (W0 wr : World) (t : TxR) (A1 : Option Addr) (c1 k : Nat) (l : List InR) : Prop :=
  l.map inP = t.ins.map inP ∧ l.length = t.ins.length ∧ wr.ownsRow W0.heap.size 44 34 (.slice A1 t.ins.length c1) t.ins.length (insC l) ∧ (∀ i ∈ l, InOk wr i) ∧ (∀ i ∈ l, OutS (fun b => A1.map (·.block) = some b) i.wit i.A) ∧ (∀ j (h : j < l.length), j < k → OutS (· < W0.heap.size) l[j].wit l[j].A) ∧ Below W0.heap.size W0 wr
theorem copy_next {W0 wr w2 : World} {t : TxR} {g c1 k : Nat} {l : List InR} (h : CopyAt W0 wr t (some ⟨g, 0, none⟩) c1 k l) (hk : k < l.length) {A2 : Option Addr} {c2 : Nat}
    (ho : w2.ownsRow wr.heap.size 5 1 (.slice A2 l[k].wit.length c2) l[k].wit.length (By l[k].wit)) (hb : Below wr.heap.size wr w2) :
    CopyAt W0 (w2.setCell ⟨g, k * 34 + 33, none⟩ (.slice A2 l[k].wit.length c2)) t (some ⟨g, 0, none⟩) c1 (k + 1) (l.set k ⟨l[k].id, l[k].n, A2, c2, l[k].wit⟩) := by
  obtain ⟨h1, h2, h3, h4, h5, h6, h7⟩ := h
  have hid : ∀ i ∈ l, i.id.length = 32 := fun i hi => (h4 i hi).id
  have o3 := own_lt h3 g (by rw [own_blk]; rfl)
  have h3' : w2.ownsRow W0.heap.size 44 34 (.slice (some ⟨g, 0, none⟩) t.ins.length c1) t.ins.length (insC l) := own_keepsS (S := fun _ => False) h3 (Keeps.of_below hb _) (fun _ _ h => h)
  obtain ⟨g', hg', _, _, _, hset⟩ := own_setS h3' (k := k * 34 + 33) (by omega) (.slice A2 l[k].wit.length c2)
  obtain rfl : g = g' := by injection hg' with e; injection e
  have K : Keeps (fun b => (some (⟨g, 0, none⟩ : Addr)).map (·.block) = some b) w2 (w2.setCell ⟨g, k * 34 + 33, none⟩ (.slice A2 l[k].wit.length c2)) := Keeps.setCell (S := fun b => (some (⟨g, 0, none⟩ : Addr)).map (·.block) = some b) (Keeps.refl _ w2) (p := ⟨g, k * 34 + 33, none⟩) rfl _
  have oN : OutS (fun b => (some (⟨g, 0, none⟩ : Addr)).map (·.block) = some b) l[k].wit A2 := .inr fun ad e hb => by
    have q := (own_lt ho ad.block (by rw [own_blk, e]; rfl)).1
    have : g = ad.block := Option.some.inj hb
    omega
  have oB : OutS (· < W0.heap.size) l[k].wit A2 := .inr fun ad e hb => by
    have q := (own_lt ho ad.block (by rw [own_blk, e]; rfl)).1
    have := h7.size
    omega
  have hO := h4 _ (List.getElem_mem hk)
  have iN : InOk w2 ⟨l[k].id, l[k].n, A2, c2, l[k].wit⟩ := ⟨hO.id, hO.n, (own_cm ho).1, Sees.own ho, hO.m⟩
  have hmem : ∀ i ∈ l.set k ⟨l[k].id, l[k].n, A2, c2, l[k].wit⟩, i ∈ l ∨ i = ⟨l[k].id, l[k].n, A2, c2, l[k].wit⟩ := fun i hi => List.mem_or_eq_of_mem_set hi
  have hout : ∀ i ∈ l.set k ⟨l[k].id, l[k].n, A2, c2, l[k].wit⟩, OutS (fun b => (some (⟨g, 0, none⟩ : Addr)).map (·.block) = some b) i.wit i.A := fun i hi => by
    rcases hmem i hi with h | rfl
    · exact h5 i h
    · exact oN
  refine ⟨?_, by rw [List.length_set, h2], ?_, ?_, hout, ?_, ?_⟩
  · rw [← h1, List.map_set]
    apply List.ext_getElem (by simp)
    intro j hj1 hj2
    rw [List.getElem_set]
    split
    · next e => subst e; simp [inP, pt]
    · rfl
  · rw [← insC_set hk hid]; exact hset
  · intro i hi
    have ho' := hout i hi
    rcases hmem i hi with h | rfl
    · exact ((h4 i h).later hb).keepsS K ho'
    · exact iN.keepsS K oN
  · intro j hj hjk
    rw [List.getElem_set]
    split
    · exact oB
    · next hne => exact h6 j (by simpa using hj) (by omega)
  · exact (h7.trans ⟨hb.os, hb.tape, hb.output, hb.size, fun b hb' => hb.block b (Nat.lt_of_lt_of_le hb' h7.size)⟩).trans (K.below (by have := h7.size; have := hb.size; omega) (fun b hb' e => by have : g = b := Option.some.inj e; omega))
theorem own_cmS' {w : World} {base size n c : Nat} {A : Option Addr} {e : TypeId} {xs : List Value} (h : w.ownsRow base e size (.slice A n c) n xs) : n ≤ c ∧ c ≤ maxLen := by
  rcases h.2 with ⟨hv, h0⟩ | ⟨g, cap, cur, hv, _, _, hnc, hcm, _⟩
  · injection hv with _ _ h3; unfold maxLen; omega
  · injection hv with _ _ h3; omega
theorem txP_eq' {t u : TxR} : txP t = txP u ↔ t.ins.map inP = u.ins.map inP ∧ t.outs = u.outs ∧ t.nonce = u.nonce := by
  unfold txP
  simp only [TxP.mk.injEq]
theorem cell_keeps {w w' : World} {S : Nat → Prop} {p : Addr} {v : Value} (k : Keeps S w w') (hl : p.block < w.heap.size) (hn : ¬ S p.block) (h : w.cell? p = some v) : w'.cell? p = some v := (k.cell hl hn).trans h
theorem part_tx3 (A B : Option Addr) (n c m d : Nat) (k : Int) (wq : World) : (Instr.build 37 #[(0, .slice A n c), (1, .slice B m d), (2, .int .u64 k)]).run Try.prog wq = .ok (.agg #[.slice A n c, .slice B m d, .int .u64 k]) wq := by kernel_rfl
theorem yieldsIf_build3 {P : Program} {ops : Array Oper} {S : World → Prop} {o : Oper} {a : Act} (hw : Region.wanted o (yielded ops a.tmps) = true) (t : TypeId) (x y z : Operand) (ho : o.op = .build t #[(0, x), (1, y), (2, z)])
    (vx vy vz v : Value) (hx : a.eval x = vx) (hy : a.eval y = vy) (hz : a.eval z = vz) (hr : ∀ wq, (Instr.build t #[(0, vx), (1, vy), (2, vz)]).run P wq = .ok v wq) : YieldsIf P ops S o v a :=
  .inl ⟨hw, fun w _ => by
    unfold execOp
    have e : (#[(0, x), (1, y), (2, z)].map fun (p : Nat × Operand) => (p.1, a.eval p.2)) = #[(0, vx), (1, vy), (2, vz)] := by simp [hx, hy, hz]
    simp only [ho, e, Sem.run_bind, hr, Result.andThen_ok]
    rfl⟩
/-- What Copy answers. -/
def CopyPost (w : World) (t : TxR) (e : Ending) (w' : World) : Prop := ∃ t' : TxR, e = .returned (.agg (txC t').toArray) ∧ txP t' = txP t ∧ TxOk w' t' ∧ TxOut (· < w.heap.size) t' ∧ Below w.heap.size w w'

set_option maxHeartbeats 4000000 in
set_option maxRecDepth 100000 in
theorem copy_any (w : World) (t : TxR) (h : TxOk w t) (hmax : t.ins.length ≤ 100000 ∧ t.outs.length ≤ 100000) : Calls Try.prog 16 #[.agg (txC t).toArray] w (CopyPost w t) := by
  have hb0 : Below w.heap.size w ((w.alloc (.cells (txC t).toArray 37)).alloc (.cells txZ 37)) := nxAl (nxAl (nxRf w) _) _
  have hB2 : Blk ((w.alloc (.cells (txC t).toArray 37)).alloc (.cells txZ 37)) w.heap.size 37 (txC t).toArray := (show Blk (w.alloc (.cells (txC t).toArray 37)) _ _ _ from heap_alloc_new w _).alloc _
  have hB3 : Blk ((w.alloc (.cells (txC t).toArray 37)).alloc (.cells txZ 37)) (w.heap.size + 1) 37 txZ := blk_new (by simp)
  have hl1 : w.heap.size + 1 < ((w.alloc (.cells (txC t).toArray 37)).alloc (.cells txZ 37)).heap.size := by simp
  have HL := Lib.hid hl1
  have HT := Lib.hid (h.later hb0)
  have HM := Lib.hid hmax
  have Hb0 := Lib.hid hb0
  have HB2 := Lib.hid hB2
  have HB3 := Lib.hid hB3
  have hc0 : ((w.alloc (.cells (txC t).toArray 37)).alloc (.cells txZ 37)).cell? ⟨w.heap.size, 0, none⟩ = some (.slice t.A t.ins.length t.c) := hB2.cell 0
  unfold CopyPost
  clear h hb0 hB2 hB3 hmax hl1
  go_enter Try.func16, Try.ntmps16
  go_upto_region 1 with fail
  try change Code.wp _ _ _ _ ((w.alloc (.cells (txC t).toArray 37)).alloc (.cells txZ 37))
  generalize ((w.alloc (.cells (txC t).toArray 37)).alloc (.cells txZ 37)) = W0 at *
  go_wp2_with (first
    | (go_at_call 26; refine (cloneI_any W0 t.A t.ins t.c HT.out.ins (fun i hi => (HT.out.each i hi).id) HM.out.1).mono ?_; unfold ClonePost; rintro e w2 ⟨A1, c1, rfl, ho, hb⟩; have HC : Hid (CopyAt W0 w2 t A1 c1 0 t.ins) := (show CopyAt _ _ _ _ _ _ _ from ⟨rfl, rfl, ho, fun i hi => (HT.out.each i hi).later hb, fun i hi => (sees_OutS (HT.out.each i hi).s).mono (fun b hb' => by have := (own_lt ho b (by rw [own_blk]; exact hb')).1; omega), fun j h hj => absurd hj (Nat.not_lt_zero _), hb⟩); clear ho hb hc0))
  go_loopw [10] (fun iv wr => ∃ (k : Nat) (l : List InR), k ≤ t.ins.length ∧ iv = .int .i64 k ∧ Hid (CopyAt W0 wr t A1 c1 k l)) (fun iv _ => t.ins.length - (intOf iv).toNat)
  case atStart => exact ⟨0, t.ins, by omega, rfl, HC.out⟩
  case round =>
    clear HC
    obtain ⟨k, l, hk, rfl, HC⟩ := hrel
    have hM1 := HM.out.1
    by_cases hlt : k < t.ins.length
    · have hkl : k < l.length := by have := HC.out.2.1; omega
      obtain ⟨g, hA1, hg, hcell, hfro, _⟩ := own_setS HC.out.2.2.1 (k := k * 34 + 33) (by omega) undef
      subst hA1
      rw [insC_at hkl (fun i hi => (HC.out.2.2.2.1 i hi).id)] at hcell
      have hO := HC.out.2.2.2.1 _ (List.getElem_mem hkl)
      obtain ⟨x, hx⟩ : ∃ x, l[k] = x := ⟨_, rfl⟩
      rw [hx] at hcell hO
      have HX := Lib.hid hx
      have HO := Lib.hid hO
      have HF := Lib.hid hfro
      have hgl : g < wr.heap.size := (own_lt HC.out.2.2.1 g (by rw [own_blk]; rfl)).2
      have HG := Lib.hid hgl
      have hkn : (k : Int) < (t.ins.length : Int) := by omega
      clear hO hfro hgl hx hg
      go_wp2_with (first
        | (go_at_call 27; go_loud (refine (cloneB_any wr x.A x.wit x.c (SeesV.of_sees HO.out.s) HO.out.m).mono ?_; unfold ClonePost; rintro e w2 ⟨A2, c2, rfl, ho, hb⟩; have hn := copy_next HC.out hkl (by rw [HX.out]; exact ho) hb; have c2' : w2.cell? ⟨g, k * 34 + 33, none⟩ = some (.slice x.A x.wit.length x.c) := (hb.cell (p := ⟨g, k * 34 + 33, none⟩) HG.out).trans hcell; have f2' : w2.frozen? ⟨g, k * 34 + 33, none⟩ = false := (World.frozen?_of_block (a := ⟨g, k * 34 + 33, none⟩) (hb.block g HG.out)).trans HF.out; rw [HX.out] at hn; have HN := Lib.hid hn; clear hn ho hb)))
      go_roundw
      case rel => exact ⟨k + 1, _, by omega, by go_num, HN.out⟩
      case measure => simp [intOf] <;> omega
    · obtain rfl : k = t.ins.length := by omega
      have hbs := HC.out.2.2.2.2.2.2
      have C1 : Hid (wr.drew.cell? ⟨w.heap.size, 1, none⟩ = some (.slice t.B t.outs.length t.d) ∧ wr.drew.cell? ⟨w.heap.size, 2, none⟩ = some (.int .u64 (t.nonce : Int))) := ⟨(hbs.cell (p := ⟨w.heap.size, 1, none⟩) (by have := HL.out; show w.heap.size < _; omega)).trans (HB2.out.cell 1), (hbs.cell (p := ⟨w.heap.size, 2, none⟩) (by have := HL.out; show w.heap.size < _; omega)).trans (HB2.out.cell 2)⟩
      clear hbs
      go_wp2_with fail
      refine wp_region_held_drew (S := fun W => W.cell? ⟨w.heap.size, 1, none⟩ = some (.slice t.B t.outs.length t.d) ∧ W.cell? ⟨w.heap.size, 2, none⟩ = some (.int .u64 (t.nonce : Int))) (by kernel_rfl) C1.out (fun hHeld => ?_)
      refine wpAnyH_take (i := 0) (oi := ⟨_, _, _, _, _, _⟩) (v := ?_) rfl (by kernel_rfl) (by kernel_rfl) (by kernel_rfl) (fun _ _ _ h => h) (Or.inl ⟨by rfl, ?_⟩) (by assumption) ?_
      rotate_left 1
      · intro W hSw
        try dsimp only at hSw
        go_simp
        try with_reducible rfl
      try simp only [Act.put, List.setIfInBounds_toArray, List.set_cons_zero, List.set_cons_succ]
      refine wpAnyH_take (i := 1) (oi := ⟨_, _, _, _, _, _⟩) (v := ?_) rfl (by kernel_rfl) (by kernel_rfl) (by kernel_rfl) (fun _ _ _ h => h) (Or.inl ⟨by rfl, ?_⟩) (by assumption) ?_
      rotate_left 1
      · intro W hSw
        try dsimp only at hSw
        go_simp
        try with_reducible rfl
      try simp only [Act.put, List.setIfInBounds_toArray, List.set_cons_zero, List.set_cons_succ]
      refine wpAnyH_take (i := 2) (oi := ⟨_, _, _, _, _, _⟩) (v := ?_) rfl (by kernel_rfl) (by kernel_rfl) (by kernel_rfl) (fun _ _ _ h => h) (Or.inl ⟨by rfl, ?_⟩) (by assumption) ?_
      rotate_left 1
      · intro W hSw
        try dsimp only at hSw
        go_simp
        try with_reducible rfl
      try simp only [Act.put, List.setIfInBounds_toArray, List.set_cons_zero, List.set_cons_succ]
      refine wpAnyH_take (i := 4) (oi := ⟨_, _, _, _, _, _⟩) (v := ?_) rfl (by kernel_rfl) (by kernel_rfl) (by kernel_rfl) (fun _ _ _ h => h) (Or.inl ⟨by rfl, ?_⟩) (by assumption) ?_
      rotate_left 1
      · intro W hSw
        try dsimp only at hSw
        go_simp
        try with_reducible rfl
      try simp only [Act.put, List.setIfInBounds_toArray, List.set_cons_zero, List.set_cons_succ]
      refine wpAnyH_take (i := 5) (oi := ⟨_, _, _, _, _, _⟩) (v := ?_) rfl (by kernel_rfl) (by kernel_rfl) (by kernel_rfl) (fun _ _ _ h => h) (Or.inl ⟨by rfl, ?_⟩) (by assumption) ?_
      rotate_left 1
      · intro W hSw
        try dsimp only at hSw
        go_simp
        try with_reducible rfl
      try simp only [Act.put, List.setIfInBounds_toArray, List.set_cons_zero, List.set_cons_succ]
      refine wpAnyH_ready (rs := [3]) (by kernel_rfl) (by simp) ?_
      refine AllReadyH.cons rfl (fun K hK => ?_) AllReadyH.nil
      go_simp
      go_at_call 28
      refine (cloneO_any wr.drew t.B t.outs t.d (HT.out.outs.later (nxDrI HC.out.2.2.2.2.2.2) |>.more (nxDrI HC.out.2.2.2.2.2.2 : Below _ W0 wr.drew).size) (fun i hi => (HT.out.eacho i hi).lock) HM.out.2).mono ?_
      unfold ClonePost
      rintro e w3 ⟨A3, c3, rfl, ho, hb⟩
      have V3 : Hid (Below wr.heap.size wr w3) := (nxDrI (nxRf wr)).trans hb
      have O3 := Lib.hid ho
      clear ho hb
      refine hK.out _ _ ⟨cell_later V3.out C1.out.1, cell_later V3.out C1.out.2⟩ (fun hSn => ?_)
      clear hK K
      try simp only [Act.put, List.setIfInBounds_toArray, List.set_cons_zero, List.set_cons_succ]
      refine wpAnyH_take (i := 6) (oi := ⟨_, _, _, _, _, _⟩) (v := .agg #[.slice A1 t.ins.length c1, .slice A3 t.outs.length c3, .int .u64 (t.nonce : Int)]) rfl (by kernel_rfl) (by kernel_rfl) (by kernel_rfl) (fun _ _ _ h => h) (yieldsIf_build3 (by rfl) 37 (.tmp 24) (.tmp 27) (.tmp 29) rfl (.slice A1 t.ins.length c1) (.slice A3 t.outs.length c3) (.int .u64 (t.nonce : Int)) _ rfl rfl rfl (fun wq => part_tx3 _ _ _ _ _ _ _ wq)) (by assumption) ?_
      try simp only [Act.put, List.setIfInBounds_toArray, List.set_cons_zero, List.set_cons_succ]
      have hbz : Below W0.heap.size W0 w3 := nxTr HC.out.2.2.2.2.2.2 V3.out
      have hZ : Blk w3 (w.heap.size + 1) 37 txZ := HB3.out.below hbz HB3.out.lt
      refine wpAnyH_ready (rs := [7]) (by kernel_rfl) (by simp) ?_
      refine AllReadyH.cons rfl (fun K hK => ?_) AllReadyH.nil
      refine step_store_all (o := ⟨none, _, _, _, _, _⟩) rfl 37 (.tmp 2) (.tmp 30) rfl (w.heap.size + 1) 37 txZ #[.slice A1 t.ins.length c1, .slice A3 t.outs.length c3, .int .u64 (t.nonce : Int)] rfl rfl hZ rfl Try.sizeTx (by intro v hv; simp at hv; rcases hv with rfl | rfl | rfl <;> rfl) ?_
      intro w4 h5 h6 h7
      obtain ⟨u, hu⟩ : ∃ u : TxR, (⟨A1, c1, l, A3, c3, t.outs, t.nonce⟩ : TxR) = u := ⟨_, rfl⟩
      have hll := HC.out.2.1
      have hcs : #[.slice A1 t.ins.length c1, .slice A3 t.outs.length c3, .int .u64 (t.nonce : Int)] = (txC u).toArray := by rw [← hu]; simp [txC, hll]
      rw [hcs] at h5
      have hob : TxOut (· < W0.heap.size) u := by
        rw [← hu]
        exact ⟨own_OutS HC.out.2.2.1, (own_OutS O3.out).mono (fun b (hb : b < W0.heap.size) => Nat.lt_of_lt_of_le hb HC.out.2.2.2.2.2.2.size), fun i hi => by obtain ⟨j, hj, rfl⟩ := List.getElem_of_mem hi; exact HC.out.2.2.2.2.2.1 j hj (by have hj' : j < l.length := hj; omega)⟩
      have hOk3 : TxOk w3 u := by
        rw [← hu]
        have hr := own_keepsS (S := fun _ => False) HC.out.2.2.1 (Keeps.of_below V3.out _) (fun _ _ h => h)
        exact ⟨SeesV.own hr, fun i hi => (HC.out.2.2.2.1 i hi).later V3.out, SeesV.own O3.out, HT.out.eacho, by show l.length ≤ c1; rw [hll]; exact (own_cmS' HC.out.2.2.1).1, (own_cmS' O3.out).1, HT.out.nonce, by show l.length ≤ _; rw [hll]; exact HT.out.mi, HT.out.mo⟩
      have hk34 : Keeps (· = w.heap.size + 1) w3 w4 := h6
      have hOk : TxOk w4 u := hOk3.keepsS hk34 (hob.mono (fun b (hb : b = w.heap.size + 1) => by have := HL.out; omega))
      have hP : txP u = txP t := by
        rw [← hu, txP_eq']
        exact ⟨HC.out.1, rfl, rfl⟩
      have H5 := Lib.hid h5
      have hbf : Below w.heap.size w w4 := (Hb0.out.trans ⟨hbz.os, hbz.tape, hbz.output, hbz.size, fun b hb => hbz.block b (by have := HL.out; omega)⟩).trans (hk34.below (by have := hbz.size; have := HL.out; omega) (fun b hb e => by omega))
      refine hK.out _ _ ⟨cell_keeps hk34 (by have := HL.out; have := hbz.size; show w.heap.size < _; omega) (by show ¬ w.heap.size = _; omega) (cell_later V3.out C1.out.1), cell_keeps hk34 (by have := HL.out; have := hbz.size; show w.heap.size < _; omega) (by show ¬ w.heap.size = _; omega) (cell_later V3.out C1.out.2)⟩ (fun hSn => ?_)
      clear hK K
      try simp only [Act.put, List.setIfInBounds_toArray, List.set_cons_zero, List.set_cons_succ]
      refine wpAnyH_done (by kernel_rfl) ?_ _
      go_wp2_with fail
      refine bodyPost_ret (results_cell_row Try.results16 _ _ (w.heap.size + 1) 37 _ (0, 0) _ rfl H5.out Try.underlying37 rfl Try.sizeTx) rfl ⟨u, rfl, hP, hOk, hob.mono (fun b (hb : b < w.heap.size) => by show b < _; have := HL.out; omega), hbf⟩

end Go.Proofs.Ytjcbihdhkaiidaa
