/-
  dag: few; all that stand around one, each once.
-/
import Derived.Test.YtndkjmmmneianaaDoorDgY
namespace Go.Proofs.YtndkjmmmneianaaDoor
open Go.RowKit

def fewB (l : List RNd) (most : Nat) : Bool := l.all (fun x => decide (x.ps.length ≤ 8)) && decide (l.length ≤ most)
theorem few_le {l : List RNd} {most : Nat} (h : fewB l most = true) : l.length ≤ most ∧ ∀ x ∈ l, x.ps.length ≤ 8 := by
  unfold fewB at h
  rw [Bool.and_eq_true, List.all_eq_true] at h
  exact ⟨of_decide_eq_true h.2, fun x hx => of_decide_eq_true (h.1 x hx)⟩
set_option maxRecDepth 100000 in
set_option maxHeartbeats 2000000 in
theorem few_any (w : World) (SA : Option Addr) (l : List RNd) (c most : Nat) (hS : SeesV w w.heap.size SA (rnsC l)) (hl : l.length ≤ 9223372036854775807) (hm : most ≤ 1000) :
    Calls Tryd.prog 8 #[.slice SA l.length c, .int .i64 (most : Int)] w fun e w' => e = .returned (.bool (fewB l most)) ∧ w' = w := by
  have HS := Lib.hid hS
  have HL := Lib.hid hl
  clear hS hl
  go_enter Tryd.func8, Tryd.ntmps8
  go_wp2
  go_loopw [5] (fun iv wr => ∃ k : Nat, k ≤ l.length ∧ iv = .int .i64 k ∧ Hid (∀ x ∈ l.take k, x.ps.length ≤ 8) ∧ Hid (wr = w)) (fun iv _ => l.length - (intOf iv).toNat)
  case atStart => exact ⟨0, by omega, rfl, by show ∀ x ∈ _, _; simp, rfl⟩
  case round =>
    obtain ⟨k, hk, rfl, HN, HW⟩ := hrel
    have hw := HW.out
    subst hw
    by_cases hlt : k < l.length
    · obtain ⟨b1, f1, rfl, hb1, hr1⟩ := sees_node HS.out hlt
      have r2 := node_ps (hr1 k hlt)
      have hin : (k : Int) < (l.length : Int) := by omega
      have hn2 : l.take (k + 1) = l.take k ++ [l[k]] := List.take_succ_eq_append_getElem hlt
      have hmem := List.getElem_mem hlt
      obtain ⟨y, hy⟩ : ∃ y, l[k] = y := ⟨_, rfl⟩
      rw [hy] at r2 hn2 hmem
      have HN2 := Lib.hid hn2
      have HMm := Lib.hid hmem
      have hl9 := HL.out
      clear hr1 hn2 hy hb1 hmem
      by_cases h8 : y.ps.length ≤ 8
      · have h8i : ¬ (8 : Int) < (y.ps.length : Int) := by omega
        have HN3 : Hid (∀ x ∈ l.take (k + 1), x.ps.length ≤ 8) := fun x hx => by
          rw [HN2.out] at hx
          rcases List.mem_append.1 hx with hx | hx
          · exact HN.out x hx
          · rw [List.mem_singleton] at hx; rw [hx]; exact h8
        go_wp2
        go_roundw
        case rel => exact ⟨k + 1, by omega, by go_num, HN3, by first | exact rfl | exact True.intro⟩
        case measure => simp [intOf] <;> omega
      · have h8i : (8 : Int) < (y.ps.length : Int) := by omega
        have hf : fewB l most = false := by
          cases hq : fewB l most with
          | false => rfl
          | true => exact absurd ((few_le hq).2 y HMm.out) h8
        have HF := Lib.hid hf
        clear hf
        go_wp2
        go_ret
        exact ⟨by rw [HF.out]; rfl, rfl⟩
    · obtain rfl : k = l.length := by omega
      rw [List.take_length] at HN
      have hf : fewB l most = decide (l.length ≤ most) := by
        unfold fewB
        rw [show l.all (fun x => decide (x.ps.length ≤ 8)) = true from List.all_eq_true.2 fun x hx => decide_eq_true (HN.out x hx), Bool.true_and]
      have HF := Lib.hid hf
      by_cases hq : l.length ≤ most
      · have hqi : (l.length : Int) ≤ (most : Int) := by omega
        have HQ : Hid (fewB l most = true) := by show _ = _; rw [hf]; exact decide_eq_true hq
        clear hf
        go_wp2
        go_ret
        exact ⟨by rw [HQ.out]; rfl, rfl⟩
      · have hqi : ¬ (l.length : Int) ≤ (most : Int) := by omega
        have HQ : Hid (fewB l most = false) := by show _ = _; rw [hf]; exact decide_eq_false hq
        clear hf
        go_wp2
        go_ret
        exact ⟨by rw [HQ.out]; rfl, rfl⟩
/-- One's future, and its anticone. -/
noncomputable def futG (G : Gr) (h : Hh) : List Hh := srtH (((List.range G.length).filter (futB G (placeG G h).isSome (plE G h))).map (idG G))
noncomputable def antG (G : Gr) (h : Hh) : List Hh := srtH (((List.range G.length).filter (antB G (placeG G h).isSome (plE G h))).map (idG G))
theorem mem_srtPl {G : Gr} {f : Nat → Bool} {x : Hh} : x ∈ srtH (((List.range G.length).filter f).map (idG G)) ↔ ∃ n, n < G.length ∧ f n = true ∧ idG G n = x := by
  rw [mem_srtH, List.mem_map]
  constructor
  · rintro ⟨n, hn, rfl⟩
    rw [List.mem_filter, List.mem_range] at hn
    exact ⟨n, hn.1, hn.2, rfl⟩
  · rintro ⟨n, h1, h2, rfl⟩
    exact ⟨n, by rw [List.mem_filter, List.mem_range]; exact ⟨h1, h2⟩, rfl⟩
theorem nodup_srtPl {G : Gr} (o : OkG G) {f : Nat → Bool} : (srtH (((List.range G.length).filter f).map (idG G))).Nodup := by
  rw [(srtH_perm _).nodup_iff]
  exact nodup_map_on (fun a ha b hb e => idG_inj o (List.mem_range.1 (List.mem_filter.1 ha).1) (List.mem_range.1 (List.mem_filter.1 hb).1) e) (List.nodup_range.filter _)
/-- One, its past, its future and its anticone are all, each once. -/
theorem parts_all {G : Gr} (o : OkG G) {n : Nat} (hn : n < G.length) :
    (idG G n :: (pastG G [idG G n] ++ (futG G (idG G n) ++ antG G (idG G n)))).Nodup ∧ (idG G n :: (pastG G [idG G n] ++ (futG G (idG G n) ++ antG G (idG G n)))).length = G.length := by
  have hp := placeG_id o hn
  have hfp : ∀ x, x ∈ pastG G [idG G n] ↔ ∃ k, k < G.length ∧ Anc G k n ∧ idG G k = x := fun x => by
    unfold pastG
    rw [mem_ansG]
    constructor
    · rintro ⟨k, h1, ⟨y, hy, n', h2, h3⟩, h4⟩
      rw [List.mem_singleton] at hy
      rw [hy, hp] at h2
      injection h2 with h2
      exact ⟨k, h1, by rw [h2]; exact h3, h4⟩
    · rintro ⟨k, h1, h2, h3⟩
      exact ⟨k, h1, ⟨_, List.mem_singleton.2 rfl, n, hp, h2⟩, h3⟩
  have hff : ∀ x, x ∈ futG G (idG G n) ↔ ∃ k, k < G.length ∧ Anc G n k ∧ idG G k = x := fun x => by
    unfold futG
    rw [mem_srtPl]
    have e : plE G (idG G n) = n := by unfold plE; rw [hp]; rfl
    have hb : ∀ k, futB G (placeG G (idG G n)).isSome (plE G (idG G n)) k = true ↔ Anc G n k := fun k => by
      unfold futB
      rw [hp, e]
      simp only [Option.isSome_some, Bool.true_and]
      exact ancB_iff
    exact ⟨fun ⟨k, h1, h2, h3⟩ => ⟨k, h1, (hb k).1 h2, h3⟩, fun ⟨k, h1, h2, h3⟩ => ⟨k, h1, (hb k).2 h2, h3⟩⟩
  have hfa : ∀ x, x ∈ antG G (idG G n) ↔ ∃ k, k < G.length ∧ (k ≠ n ∧ ¬ Anc G n k ∧ ¬ Anc G k n) ∧ idG G k = x := fun x => by
    unfold antG
    rw [mem_srtPl]
    have e : plE G (idG G n) = n := by unfold plE; rw [hp]; rfl
    have hb : ∀ k, antB G (placeG G (idG G n)).isSome (plE G (idG G n)) k = true ↔ (k ≠ n ∧ ¬ Anc G n k ∧ ¬ Anc G k n) := fun k => by
      unfold antB
      rw [hp, e, ← ancB_iff, ← ancB_iff]
      simp [and_assoc]
    exact ⟨fun ⟨k, h1, h2, h3⟩ => ⟨k, h1, (hb k).1 h2, h3⟩, fun ⟨k, h1, h2, h3⟩ => ⟨k, h1, (hb k).2 h2, h3⟩⟩
  have inj : ∀ {a b : Nat}, a < G.length → b < G.length → idG G a = idG G b → a = b := fun ha hb e => idG_inj o ha hb e
  have hnd : (idG G n :: (pastG G [idG G n] ++ (futG G (idG G n) ++ antG G (idG G n)))).Nodup := by
    rw [List.nodup_cons, List.nodup_append, List.nodup_append]
    refine ⟨?_, (risH_rises _).nodup, ⟨nodup_srtPl o, nodup_srtPl o, ?_⟩, ?_⟩
    · intro h
      rw [List.mem_append, List.mem_append, hfp, hff, hfa] at h
      rcases h with ⟨k, h1, h2, h3⟩ | ⟨k, h1, h2, h3⟩ | ⟨k, h1, h2, h3⟩
      · have := inj h1 hn h3; subst this; exact absurd (h2.lt o) (by omega)
      · have := inj h1 hn h3; subst this; exact absurd (h2.lt o) (by omega)
      · exact h2.1 (inj h1 hn h3)
    · intro a ha b hb e
      subst e
      obtain ⟨k, h1, h2, h3⟩ := (hff a).1 ha
      obtain ⟨j, j1, j2, j3⟩ := (hfa a).1 hb
      have := inj h1 j1 (h3.trans j3.symm)
      subst this
      exact j2.2.1 h2
    · intro a ha b hb e
      subst e
      obtain ⟨k, h1, h2, h3⟩ := (hfp a).1 ha
      rcases List.mem_append.1 hb with hb | hb
      · obtain ⟨j, j1, j2, j3⟩ := (hff a).1 hb
        have := inj h1 j1 (h3.trans j3.symm)
        subst this
        have e1 := h2.lt o
        have e2 := j2.lt o
        omega
      · obtain ⟨j, j1, j2, j3⟩ := (hfa a).1 hb
        have := inj h1 j1 (h3.trans j3.symm)
        subst this
        exact j2.2.2 h2
  refine ⟨hnd, ?_⟩
  have hall : ((List.range G.length).map (idG G)).Perm (idG G n :: (pastG G [idG G n] ++ (futG G (idG G n) ++ antG G (idG G n)))) := by
    refine (List.perm_ext_iff_of_nodup (nodup_map_on (fun a ha b hb e => inj (List.mem_range.1 ha) (List.mem_range.1 hb) e) List.nodup_range) hnd).2 fun x => ?_
    rw [List.mem_map, List.mem_cons, List.mem_append, List.mem_append, hfp, hff, hfa]
    constructor
    · rintro ⟨k, hk, rfl⟩
      have hk := List.mem_range.1 hk
      by_cases e1 : k = n
      · exact .inl (by rw [e1])
      · by_cases e2 : Anc G k n
        · exact .inr (.inl ⟨k, hk, e2, rfl⟩)
        · by_cases e3 : Anc G n k
          · exact .inr (.inr (.inl ⟨k, hk, e3, rfl⟩))
          · exact .inr (.inr (.inr ⟨k, hk, ⟨e1, e3, e2⟩, rfl⟩))
    · rintro (rfl | ⟨k, hk, _, rfl⟩ | ⟨k, hk, _, rfl⟩ | ⟨k, hk, _, rfl⟩)
      · exact ⟨n, List.mem_range.2 hn, rfl⟩
      · exact ⟨k, List.mem_range.2 hk, rfl⟩
      · exact ⟨k, List.mem_range.2 hk, rfl⟩
      · exact ⟨k, List.mem_range.2 hk, rfl⟩
  rw [← hall.length_eq]
  simp
end Go.Proofs.YtndkjmmmneianaaDoor
