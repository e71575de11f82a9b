/-
  block: clones of rows of hashes and of transactions.
-/
import Derived.Test.YtjcbihdhkaiidaaTlF
import Derived.Test.YtjcbihdhkaiidaaBkJ
import Derived.Test.YtjcbihdhkaiidaaBk0
namespace Go.Proofs.Ytjcbihdhkaiidaa
open Go.RowKit

theorem Hs_nil {l : List (List UInt8)} (hi : All32 l) (h : Hs l = []) : l = [] := by
  have := Hs_length hi
  rw [h] at this
  exact List.eq_nil_of_length_eq_zero (by simp at this; omega)
theorem Hs_one' (l : List (List UInt8)) : ∀ u ∈ Hs l, u.oneCell' = true := Hs_one l
theorem txsC_nil {l : List TxR} (h : txsC l = []) : l = [] := by
  have := txsC_len l
  rw [h] at this
  exact List.eq_nil_of_length_eq_zero (by simp at this; omega)
theorem txsC_one' (l : List TxR) : ∀ u ∈ txsC l, u.oneCell' = true := by
  intro u hu
  obtain ⟨r, hr, hu⟩ := List.mem_flatten.1 hu
  obtain ⟨t, _, rfl⟩ := List.mem_map.1 hr
  exact txC_one' t u (by simpa using hu)

set_option maxHeartbeats 1000000 in
set_option maxRecDepth 100000 in
theorem cloneH_any (w : World) (A : Option Addr) (l : List (List UInt8)) (c : Nat) (hS : SeesV w w.heap.size A (Hs l)) (hi : All32 l) (hmax : l.length ≤ 100000) :
    Calls Try.prog 14 #[.slice A l.length c] w (ClonePost w 24 32 l.length (Hs l)) := by
  unfold ClonePost
  rcases A with _ | ad
  · have h0 : Hs l = [] := by
      rcases hS with h | ⟨b, off, h, _⟩
      · exact h
      · cases h
    obtain rfl := Hs_nil hi h0
    clear hmax hS h0
    have hq : (binOp .eql 22 (.slice none 0 c) (.slice none 0 0)).run Try.prog w = .ok (.bool true) w := run_eql_snil w 22 24 none 0 c Try.underlying22
    go_enter Try.func14, Try.ntmps14
    go_wp2
    go_ret
    exact ⟨none, 0, rfl, ⟨rfl, .inl ⟨rfl, rfl⟩⟩, nxRf w⟩
  · have hO : Hid ((w.alloc (.cells #[] 24)).ownsRow w.heap.size 24 32 (.slice (some ⟨w.heap.size, 0, none⟩) 0 0) 0 []) := own_made (cs := []) (heap_alloc_new w _) (Nat.le_refl _) (Nat.le_refl _) (by unfold maxLen; omega) rfl
    have HS : Hid (SeesV (w.alloc (.cells #[] 24)) (w.alloc (.cells #[] 24)).heap.size (some ad) (Hs l)) := (hS.alloc _).more (by simp)
    have HL : Hid ((Hs l).length = l.length * 32) := by show _ = _; exact Hs_length hi
    have HM := Lib.hid hmax
    obtain ⟨i0, hi0, hz0, hz1, hz2⟩ := infoP Try.hinfo
    have hq : (binOp .eql 22 (.slice (some ad) l.length c) (.slice none 0 0)).run Try.prog w = .ok (.bool false) w := run_eql_snil w 22 24 (some ad) l.length c Try.underlying22
    clear hS hmax
    go_enter Try.func14, Try.ntmps14
    go_wp2_with (first
      | ((with_reducible show wpList _ _ _ (⟨some 7, _, _, _, _, _⟩ :: _) _ _); (show wpList _ _ _ _ _ (w.alloc (.cells #[] 24))); refine wpList_append_seesV rfl (.tmp 5) (.tmp 6) 22 rfl w.heap.size 24 i0 _ 32 32 Try.underlying22 hi0 hz0 hz1 hz2 rfl (by decide) (.slice (some ⟨w.heap.size, 0, none⟩) 0 0) 0 [] rfl hO.out _ (some ad) l.length c (Hs l) rfl HL.out HS.out (Hs_one' l) (by have := HM.out; omega) (by have := HM.out; omega) (by simp) ?_; intro v' w' ho hg hv; obtain ⟨A', c', rfl⟩ := own_form ho; have HO := Lib.hid ho; have HG : Hid (Below w.heap.size w w') := (nxAl (nxRf w) _).grown hg (nxAl (nxRf w) _).size (fun j hj => by have hj2 : w.heap.size = j := Option.some.inj hj; omega); clear ho hg hv))
    go_ret
    have ho := HO.out
    simp only [Nat.zero_add, List.nil_append] at ho
    exact ⟨A', c', by simp, ho, HG.out⟩

set_option maxHeartbeats 1000000 in
set_option maxRecDepth 100000 in
theorem cloneT_any (w : World) (A : Option Addr) (l : List TxR) (c : Nat) (hS : SeesV w w.heap.size A (txsC l)) (hmax : l.length ≤ 100000) :
    Calls Try.prog 15 #[.slice A l.length c] w (ClonePost w 37 3 l.length (txsC l)) := by
  unfold ClonePost
  rcases A with _ | ad
  · have h0 : txsC l = [] := by
      rcases hS with h | ⟨b, off, h, _⟩
      · exact h
      · cases h
    obtain rfl := txsC_nil h0
    clear hmax hS h0
    have hq : (binOp .eql 28 (.slice none 0 c) (.slice none 0 0)).run Try.prog w = .ok (.bool true) w := run_eql_snil w 28 37 none 0 c Try.underlying28
    go_enter Try.func15, Try.ntmps15
    go_wp2
    go_ret
    exact ⟨none, 0, rfl, ⟨rfl, .inl ⟨rfl, rfl⟩⟩, nxRf w⟩
  · have hO : Hid ((w.alloc (.cells #[] 37)).ownsRow w.heap.size 37 3 (.slice (some ⟨w.heap.size, 0, none⟩) 0 0) 0 []) := own_made (cs := []) (heap_alloc_new w _) (Nat.le_refl _) (Nat.le_refl _) (by unfold maxLen; omega) rfl
    have HS : Hid (SeesV (w.alloc (.cells #[] 37)) (w.alloc (.cells #[] 37)).heap.size (some ad) (txsC l)) := (hS.alloc _).more (by simp)
    have HL : Hid ((txsC l).length = l.length * 3) := by show _ = _; exact txsC_len l
    have HM := Lib.hid hmax
    obtain ⟨i0, hi0, hz0, hz1, hz2⟩ := infoP Try.txinf
    have hq : (binOp .eql 28 (.slice (some ad) l.length c) (.slice none 0 0)).run Try.prog w = .ok (.bool false) w := run_eql_snil w 28 37 (some ad) l.length c Try.underlying28
    clear hS hmax
    go_enter Try.func15, Try.ntmps15
    go_wp2_with (first
      | ((with_reducible show wpList _ _ _ (⟨some 7, _, _, _, _, _⟩ :: _) _ _); (show wpList _ _ _ _ _ (w.alloc (.cells #[] 37))); refine wpList_append_seesV rfl (.tmp 5) (.tmp 6) 28 rfl w.heap.size 37 i0 _ 3 56 Try.underlying28 hi0 hz0 hz1 hz2 rfl (by decide) (.slice (some ⟨w.heap.size, 0, none⟩) 0 0) 0 [] rfl hO.out _ (some ad) l.length c (txsC l) rfl HL.out HS.out (txsC_one' l) (by have := HM.out; omega) (by have := HM.out; omega) (by simp) ?_; intro v' w' ho hg hv; obtain ⟨A', c', rfl⟩ := own_form ho; have HO := Lib.hid ho; have HG : Hid (Below w.heap.size w w') := (nxAl (nxRf w) _).grown hg (nxAl (nxRf w) _).size (fun j hj => by have hj2 : w.heap.size = j := Option.some.inj hj; omega); clear ho hg hv))
    go_ret
    have ho := HO.out
    simp only [Nat.zero_add, List.nil_append] at ho
    exact ⟨A', c', by simp, ho, HG.out⟩

end Go.Proofs.Ytjcbihdhkaiidaa
