/-
  ShaMeans: the walk.
-/
import Derived.Test.YtbfahmpppkjpbaaDoorMe0
import Derived.Test.YtbfahmpppkjpbaaDoorEq
import Derived.Deep.RegionHeldLaw
import Derived.Deep.DeepCutAuto
import Derived.BigRegion
namespace Go.Proofs.YtbfahmpppkjpbaaDoor
open Go.RowKit

theorem SeesL.five {w : World} {g : Nat} {A1 A2 A3 A4 A5 : Option Addr} {l1 l2 l3 l4 l5 : List UInt8} {t : TypeId} {n1 n2 n3 n4 n5 c1 c2 c3 c4 c5 : Nat}
    (h1 : SeesO w g A1 l1) (h2 : SeesO w g A2 l2) (h3 : SeesO w g A3 l3) (h4 : SeesO w g A4 l4) (h5 : SeesO w g A5 l5)
    (e1 : n1 = l1.length) (e2 : n2 = l2.length) (e3 : n3 = l3.length) (e4 : n4 = l4.length) (e5 : n5 = l5.length)
    (k1 : n1 ≤ c1) (k2 : n2 ≤ c2) (k3 : n3 ≤ c3) (k4 : n4 ≤ c4) (k5 : n5 ≤ c5) (hne : w.heap.size ≠ g) :
    SeesL (w.alloc (.cells #[.slice A1 n1 c1, .slice A2 n2 c2, .slice A3 n3 c3, .slice A4 n4 c4, .slice A5 n5 c5] t)) g (some ⟨w.heap.size, 0, none⟩) [l1, l2, l3, l4, l5] := by
  subst e1 e2 e3 e4 e5
  refine .inr ⟨w.heap.size, 0, rfl, by simp, hne, fun i hi => ?_⟩
  have hb : Blk (w.alloc (.cells #[.slice A1 l1.length c1, .slice A2 l2.length c2, .slice A3 l3.length c3, .slice A4 l4.length c4, .slice A5 l5.length c5] t)) w.heap.size t #[.slice A1 l1.length c1, .slice A2 l2.length c2, .slice A3 l3.length c3, .slice A4 l4.length c4, .slice A5 l5.length c5] := heap_alloc_new w _
  have : i = 0 ∨ i = 1 ∨ i = 2 ∨ i = 3 ∨ i = 4 := by simp at hi; omega
  rcases this with rfl | rfl | rfl | rfl | rfl
  · exact ⟨A1, c1, by rw [hb.cell]; rfl, k1, h1.keeps ((Keeps.refl _ _).alloc _)⟩
  · exact ⟨A2, c2, by rw [hb.cell]; rfl, k2, h2.keeps ((Keeps.refl _ _).alloc _)⟩
  · exact ⟨A3, c3, by rw [hb.cell]; rfl, k3, h3.keeps ((Keeps.refl _ _).alloc _)⟩
  · exact ⟨A4, c4, by rw [hb.cell]; rfl, k4, h4.keeps ((Keeps.refl _ _).alloc _)⟩
  · exact ⟨A5, c5, by rw [hb.cell]; rfl, k5, h5.keeps ((Keeps.refl _ _).alloc _)⟩

theorem SeesO.shift {w w' : World} {g g' : Nat} {A : Option Addr} {l : List UInt8} (h : SeesO w g A l) (hk : Below w.heap.size w w') (hg : w.heap.size ≤ g') : SeesO w' g' A l := by
  rcases h with h | ⟨b, off, hA, hb, hn, hc⟩
  · exact .inl h
  · exact .inr ⟨b, off, hA, Nat.lt_of_lt_of_le hb hk.size, by omega, fun i hi => (hk.cell (p := ⟨b, off + i, none⟩) hb).trans (hc i hi)⟩
/-- A slice's beginning, a part of it, its end: what they show, and the operation. -/
theorem slice_low {w : World} {B : Nat} {A : Option Addr} {m : List UInt8} {c : Nat} (h : Sees w B A m) (hc : m.length ≤ c) (o : Nat) (ho : o ≤ m.length) :
    ∃ A1, Sees w B A1 (m.take o) ∧ ∀ wq, (Instr.slice 22 (.slice A m.length c) none (some (.int .i64 (o : Int))) none).run Tryd.prog wq = .ok (.slice A1 o c) wq := by
  refine ⟨if c = 0 then A else A.map (·.add (0 * 1)), ?_, fun wq => ?_⟩
  · split
    · exact h.take o
    · have := (h.drop 0).take o
      simpa using this
  · obtain ⟨i, hi, _⟩ := u8size_info
    simp [Instr.slice, run_underlying Tryd.underlying22, Instr.sliceBounds, run_sliceBound wq .i64 (o : Int) c _ (by omega) (by omega), sizeOf, typeInfo, hi]
theorem slice_mid {w : World} {B : Nat} {A : Option Addr} {m : List UInt8} {c : Nat} (h : Sees w B A m) (hc : m.length ≤ c) (o p : Nat) (ho : o ≤ p) (hp : p ≤ m.length) :
    ∃ A1, Sees w B A1 ((m.drop o).take (p - o)) ∧ ∀ wq, (Instr.slice 22 (.slice A m.length c) (some (.int .i64 (o : Int))) (some (.int .i64 (p : Int))) none).run Tryd.prog wq = .ok (.slice A1 (p - o) (c - o)) wq :=
  ⟨_, h.part o c (p - o) hc, fun wq => slice_lh A m.length c o p ho (by omega) _ _ rfl rfl wq⟩
theorem slice_high {w : World} {B : Nat} {A : Option Addr} {m : List UInt8} {c : Nat} (h : Sees w B A m) (hc : m.length ≤ c) (p : Nat) (hp : p ≤ m.length) :
    ∃ A1, Sees w B A1 (m.drop p) ∧ ∀ wq, (Instr.slice 22 (.slice A m.length c) (some (.int .i64 (p : Int))) none none).run Tryd.prog wq = .ok (.slice A1 (m.length - p) (c - p)) wq := by
  refine ⟨_, ?_, fun wq => slice_rest A m.length c p hp hc wq⟩
  have := h.part p c (m.length - p) hc
  rwa [List.take_of_length_le (by rw [List.length_drop]; omega)] at this
theorem toList_inj {S T : ByteArray} (h : S.toList = T.toList) : S = T := by
  have e : ∀ U : ByteArray, U.toList = U.data.toList := fun U => by have := Str_toList U.data.toList; simpa [Str] using this
  rw [e, e] at h
  cases S; cases T
  simp only [ByteArray.mk.injEq]
  exact Array.toList_inj.1 h
theorem Sees.later1 {w W : World} {o : Obj} {B : Nat} {A : Option Addr} {l : List UInt8} (h : Sees w B A l) (hb : Below (w.alloc o).heap.size (w.alloc o) W) : Sees W B A l := (h.alloc o).later hb
theorem Sees.later1d {w W : World} {o : Obj} {B : Nat} {A : Option Addr} {l : List UInt8} (h : Sees w B A l) (hb : Below (w.alloc o).drew.heap.size (w.alloc o).drew W) : Sees W B A l := (h.alloc o).later ⟨hb.os, hb.tape, hb.output, hb.size, hb.block⟩
theorem Sees.later2 {w W : World} {o p : Obj} {B : Nat} {A : Option Addr} {l : List UInt8} (h : Sees w B A l) (hb : Below ((w.alloc o).alloc p).drew.heap.size ((w.alloc o).alloc p).drew W) : Sees W B A l := ((h.alloc o).alloc p).later ⟨hb.os, hb.tape, hb.output, hb.size, hb.block⟩
theorem gal {w W : World} (h : Below w.heap.size w W) (o : Obj) : Below w.heap.size w (W.alloc o) := h.alloc h.size o
theorem gto {w W W' : World} (h : Below w.heap.size w W) (k : Below W.heap.size W W') : Below w.heap.size w W' := h.trans (k.mono h.size)

set_option maxHeartbeats 8000000 in
set_option maxRecDepth 100000 in
theorem shaMeans_w (w : World) (hT : Tabs w) (A B : Option Addr) (c d : Nat) (m n : List UInt8) (hA : Sees w w.heap.size A m) (hB : Sees w w.heap.size B n) (hc : m.length ≤ c) (hd : n.length ≤ d)
    (hml : m.length ≤ 9223372036854775807) (hnl : n.length ≤ 9223372036854775807) (one two : Int) (S T : ByteArray) (hSz : S.size ≤ 9223372036854775807) (hTz : T.size ≤ 9223372036854775807) :
    Calls Tryd.prog 3 #[.slice A m.length c, .slice B n.length d, .int .i64 one, .int .i64 two, .string S, .string T] w fun e w' => e = .returned (.bool true) ∧ Below w.heap.size w w' := by
  have HT := Lib.hid hT
  have HA := Lib.hid hA
  have HB := Lib.hid hB
  have heq : ∀ (l k : List UInt8) wq, (binOp .eql 25 (.agg (By (shaB l)).toArray) (.agg (By (shaB k)).toArray)).run Tryd.prog wq = .ok (.bool (shaB l == shaB k)) wq := by
    intro l k wq
    rw [run_eql_bytes 32 25 5 Tryd.underlying25 Tryd.underlying5 Tryd.u8size (shaB l) (shaB k) rfl rfl]
  clear hT hA hB
  by_cases h1 : m.length ≤ 3000 ∧ n.length ≤ 3000 ∧ S.size ≤ 200 ∧ T.size ≤ 200
  · obtain ⟨hm3, hn3, hS3, hT3⟩ := h1
    go_enter Tryd.func3, Tryd.ntmps3
    go_upto_region 5 with (go_at_call 10; refine (known_any _ HT.out).mono ?_; rintro e w1 ⟨rfl, hb1⟩; have Hb1 := Lib.hid hb1; clear hb1)
    go_cut [67] (fun cv wx => cv = .bool false ∧ Hid (Below w.heap.size w wx))
    case first =>
      by_cases hcut : 0 ≤ one ∧ one ≤ two ∧ two ≤ m.length
      · obtain ⟨h0, h12, h2⟩ := hcut
        obtain ⟨o, rfl⟩ : ∃ o : Nat, one = o := ⟨one.toNat, by omega⟩
        obtain ⟨p, rfl⟩ : ∃ p : Nat, two = p := ⟨two.toNat, by omega⟩
        have hop : o ≤ p := by omega
        have hpm : p ≤ m.length := by omega
        obtain ⟨A1, hs1, q1⟩ := slice_low HA.out hc o (by omega)
        obtain ⟨A2, hs2, q2⟩ := slice_mid HA.out hc o p hop hpm
        obtain ⟨A3, hs3, q3⟩ := slice_high HA.out hc p hpm
        have Q5 : Hid (∀ (W : World) (b g : Nat), b = W.heap.size → Below w.heap.size w W → w.heap.size ≤ g → W.heap.size ≠ g → SeesL (W.alloc (.cells #[.slice A1 o c, .slice none 0 0, .slice A2 (p - o) (c - o), .slice A3 (m.length - p) (c - p), .slice B n.length d] 22)) g (some ⟨b, 0, none⟩) [m.take o, [], (m.drop o).take (p - o), m.drop p, n]) := by
          intro W b g eb hb hg hne; subst eb
          exact SeesL.five (SeesO.shift (SeesO.of hs1 (Nat.le_refl _)) hb hg) (.inl rfl) (SeesO.shift (SeesO.of hs2 (Nat.le_refl _)) hb hg) (SeesO.shift (SeesO.of hs3 (Nat.le_refl _)) hb hg) (SeesO.shift (SeesO.of HB.out (Nat.le_refl _)) hb hg)
            (by rw [List.length_take]; omega) rfl (by rw [List.length_take, List.length_drop]; omega) (by rw [List.length_drop]) rfl (by omega) (Nat.le_refl _) (by omega) (by omega) (by omega) hne
        have Q2 : Hid (∀ (W : World) (b g : Nat), b = W.heap.size → Below w.heap.size w W → w.heap.size ≤ g → W.heap.size ≠ g → SeesL (W.alloc (.cells #[.slice A m.length c, .slice B n.length d] 22)) g (some ⟨b, 0, none⟩) [m, n]) := by
          intro W b g eb hb hg hne; subst eb
          exact SeesL.two (SeesO.shift (SeesO.of HA.out (Nat.le_refl _)) hb hg) (SeesO.shift (SeesO.of HB.out (Nat.le_refl _)) hb hg) rfl rfl hc hd hne
        have HF : Hid ([m.take o, [], (m.drop o).take (p - o), m.drop p, n].flatten = [m, n].flatten) := cut_parts m n o p hop
        have Hfl : Hid (([m, n] : List (List UInt8)).flatten.length ≤ 6000) := by show _ ≤ _; simp only [List.flatten_cons, List.flatten_nil, List.append_nil, List.length_append]; omega
        have hneq : ∀ (l : List UInt8) wq, (binOp .neq 25 (.agg (By (shaB l)).toArray) (.agg (By (shaB l)).toArray)).run Tryd.prog wq = .ok (.bool false) wq := by
          intro l wq
          rw [run_neq_bytes 32 25 5 Tryd.underlying25 Tryd.underlying5 Tryd.u8size (shaB l) (shaB l) rfl rfl, beq_self_eq_true]; rfl
        clear hs1 hs2 hs3
        go_region_held_law (fun _ => True) (exact True.intro) (first
          | (go_at_call 11; (with_reducible show Calls _ _ #[.slice _ 5 5] (World.drew (World.alloc w1 _)) _); refine (sum_any _ (HT.out.later (gal Hb1.out _)).drew _ 5 5 _ rfl (Q5.out w1 w1.heap.size _ rfl Hb1.out (by have := Hb1.out.size; simp <;> omega) (by simp <;> omega)).drew (by rw [HF.out]; have := Hfl.out; omega) (by omega)).mono ?_; rw [HF.out]; rintro e w2 ⟨rfl, hb2⟩; have Hb2 := Lib.hid (gto (gal Hb1.out _).drew hb2); clear hb2)
          | (go_at_call 11; (with_reducible show Calls _ _ #[.slice _ 5 5] (World.drew (World.alloc (World.alloc w1 (.cells #[_, _, _, _, _] _)) _)) _); refine (sum_any _ (HT.out.later (gal (gal Hb1.out _) _)).drew _ 5 5 _ rfl ((Q5.out w1 w1.heap.size _ rfl Hb1.out (by have := Hb1.out.size; simp <;> omega) (by simp <;> omega)).keeps ((Keeps.refl _ _).alloc _)).drew (by rw [HF.out]; have := Hfl.out; omega) (by omega)).mono ?_; rw [HF.out]; rintro e w2 ⟨rfl, hb2⟩; have HL2 := Lib.hid ((Q2.out (w1.alloc _) (w1.heap.size + 1) (w1.heap.size + 2) (by simp) (gal Hb1.out _) (by have := Hb1.out.size; omega) (by simp <;> omega)).drew.shift hb2 (g' := w2.heap.size) hb2.size); have Hb2 := Lib.hid (gto (gal (gal Hb1.out _) _).drew hb2); clear hb2)
          | (go_at_call 11; (with_reducible show Calls _ _ #[.slice _ 5 5] (World.drew (World.alloc (World.alloc w1 (.cells #[_, _] _)) _)) _); refine (sum_any _ (HT.out.later (gal (gal Hb1.out _) _)).drew _ 5 5 _ rfl (Q5.out (w1.alloc _) (w1.heap.size + 1) _ (by simp) (gal Hb1.out _) (by have := Hb1.out.size; simp <;> omega) (by simp <;> omega)).drew (by rw [HF.out]; have := Hfl.out; omega) (by omega)).mono ?_; rw [HF.out]; rintro e w2 ⟨rfl, hb2⟩; have HL2 := Lib.hid (((Q2.out w1 w1.heap.size (w1.heap.size + 2) rfl Hb1.out (by have := Hb1.out.size; omega) (by simp <;> omega)).keeps ((Keeps.refl _ _).alloc _)).drew.shift hb2 (g' := w2.heap.size) hb2.size); have Hb2 := Lib.hid (gto (gal (gal Hb1.out _) _).drew hb2); clear hb2)
          | (go_at_call 11; (with_reducible show Calls _ _ #[.slice _ 2 2] (World.alloc w2 _) _); refine (sum_any _ (HT.out.later (gal Hb2.out _)) _ 2 2 _ rfl (Q2.out w2 w2.heap.size _ rfl Hb2.out (by have := Hb2.out.size; simp <;> omega) (by simp <;> omega)) (by have := Hfl.out; omega) (by omega)).mono ?_; rintro e w3 ⟨rfl, hb3⟩; have Hb3 := Lib.hid (gto (gal Hb2.out _) hb3); clear hb3)
          | (go_at_call 11; (with_reducible show Calls _ _ #[.slice _ 2 2] w2 _); refine (sum_any _ (HT.out.later Hb2.out) _ 2 2 _ rfl HL2.out (by have := Hfl.out; omega) (by omega)).mono ?_; rintro e w3 ⟨rfl, hb3⟩; have Hb3 := Lib.hid (gto Hb2.out hb3); clear hb3))
        all_goals (go_wp2_with fail; go_meet; exact ⟨rfl, Hb3.out⟩)
      · by_cases h0 : 0 ≤ one
        · by_cases h12 : one ≤ two
          · have h2 : decide (two ≤ (m.length : Int)) = false := decide_eq_false (by omega)
            clear hcut
            go_region
            all_goals (go_wp2_with fail; go_meet; exact ⟨rfl, Hb1.out.drew⟩)
          · have h2 : decide (one ≤ two) = false := decide_eq_false h12
            clear hcut h12
            go_region
            all_goals (go_wp2_with fail; go_meet; exact ⟨rfl, Hb1.out.drew⟩)
        · have h2 : decide (0 ≤ one) = false := decide_eq_false h0
          clear hcut h0
          go_region
          all_goals (go_wp2_with fail; go_meet; exact ⟨rfl, Hb1.out.drew⟩)
    case rest =>
      obtain ⟨rfl, Hb3⟩ := hcut
      obtain ⟨x, hx⟩ : ∃ x, tagB (cutN S) m = x := ⟨_, rfl⟩
      obtain ⟨y, hy⟩ : ∃ y, tagB (cutN T) n = y := ⟨_, rfl⟩
      have hiff : x = y ↔ S = T ∧ m = n := by rw [← hx, ← hy]; exact tagB_inj S T m n hS3 hT3
      have Hxl : Hid (x.length ≤ 4000) := by show _ ≤ _; rw [← hx, tagB_len _ _ rfl, cutN_size]; omega
      have Hyl : Hid (y.length ≤ 4000) := by show _ ≤ _; rw [← hy, tagB_len _ _ rfl, cutN_size]; omega
      have HX := Lib.hid hx
      have HY := Lib.hid hy
      have QM : Hid (∀ (W : World) (b g : Nat), b = W.heap.size → Below w.heap.size w W → w.heap.size ≤ g → W.heap.size ≠ g → SeesL (W.alloc (.cells #[.slice A m.length c] 22)) g (some ⟨b, 0, none⟩) [m]) := by
        intro W b g eb hb hg hne; subst eb
        exact SeesL.one (SeesO.shift (SeesO.of HA.out (Nat.le_refl _)) hb hg) rfl hc hne
      have QN : Hid (∀ (W : World) (b g : Nat), b = W.heap.size → Below w.heap.size w W → w.heap.size ≤ g → W.heap.size ≠ g → SeesL (W.alloc (.cells #[.slice B n.length d] 22)) g (some ⟨b, 0, none⟩) [n]) := by
        intro W b g eb hb hg hne; subst eb
        exact SeesL.one (SeesO.shift (SeesO.of HB.out (Nat.le_refl _)) hb hg) rfl hd hne
      have FM : Hid (([m] : List (List UInt8)).flatten = m) := by show _ = _; simp
      have FN : Hid (([n] : List (List UInt8)).flatten = n) := by show _ = _; simp
      clear hx hy
      by_cases hST : S = T
      · by_cases hmn : m = n
        · have hxy : x = y := hiff.2 ⟨hST, hmn⟩
          have e1 : S.toList = T.toList := by rw [hST]
          have e2 : (m == n) = true := by rw [hmn]; exact beq_self_eq_true _
          have e3 : (x == y) = true := by rw [hxy]; exact beq_self_eq_true _
          clear hiff hST hmn hxy
          go_wp2_with (first
                  | (go_at_call 12; (with_reducible show Calls _ _ #[_, .slice A _ _] _ _); refine (text_any _ S A _ c m rfl (HA.out.below Hb3.out |>.more Hb3.out.size) (by omega) (by omega)).mono ?_; rw [HX.out]; rintro e w4 ⟨A1, c1, rfl, hs4, hb4⟩; have HX4 := Lib.hid hs4; have Hb4 := Lib.hid (gto Hb3.out hb4); clear hs4 hb4)
                  | (go_at_call 12; (with_reducible show Calls _ _ #[_, .slice B _ _] _ _); refine (text_any _ T B _ d n rfl (HB.out.below Hb4.out |>.more Hb4.out.size) (by omega) (by omega)).mono ?_; rw [HY.out]; rintro e w5 ⟨A2, c2, rfl, hs5, hb5⟩; have HY5 := Lib.hid hs5; have HX5 := Lib.hid ((HX4.out.later hb5).more hb5.size); have Hb5 := Lib.hid (gto Hb4.out hb5); have qx : (convert 22 9 (.slice A1 x.length c1)).run Tryd.prog w5 = .ok (.string (Str x)) w5 := run_string_sees Tryd.underlying22 Tryd.underlying5 Tryd.underlying9 rfl HX5.out; have qy : (convert 22 9 (.slice A2 y.length c2)).run Tryd.prog w5 = .ok (.string (Str y)) w5 := run_string_sees Tryd.underlying22 Tryd.underlying5 Tryd.underlying9 rfl HY5.out; have qm : (convert 22 9 (.slice A m.length c)).run Tryd.prog w5 = .ok (.string (Str m)) w5 := run_string_sees Tryd.underlying22 Tryd.underlying5 Tryd.underlying9 rfl (HA.out.below Hb5.out); have qn : (convert 22 9 (.slice B n.length d)).run Tryd.prog w5 = .ok (.string (Str n)) w5 := run_string_sees Tryd.underlying22 Tryd.underlying5 Tryd.underlying9 rfl (HB.out.below Hb5.out); clear hs5 hb5))
          clear qx qy qm qn
          go_region_held_law (fun _ => True) (exact True.intro) (first
            | (go_at_call 13; (with_reducible show Calls _ _ #[_, .slice _ 1 1] (World.drew (World.alloc w5 _)) _); refine (tag_any _ (HT.out.later (gal Hb5.out _)).drew S _ 1 1 _ rfl (QM.out w5 w5.heap.size _ rfl Hb5.out (by have := Hb5.out.size; simp <;> omega) (by simp <;> omega)).drew (by rw [FM.out]; omega) (by omega) (by omega)).mono ?_; rw [FM.out, HX.out]; rintro e w6 ⟨rfl, hb6⟩; have Hb6 := Lib.hid (gto (gal Hb5.out _).drew hb6); have HX6 := Lib.hid (HX5.out.later1d hb6); have HY6 := Lib.hid (HY5.out.later1d hb6); clear hb6)
            | (go_at_call 13; (with_reducible show Calls _ _ #[_, .slice _ 1 1] (World.drew (World.alloc (World.alloc w5 (.cells #[.slice A _ _] _)) _)) _); refine (tag_any _ (HT.out.later (gal (gal Hb5.out _) _)).drew S _ 1 1 _ rfl ((QM.out w5 w5.heap.size _ rfl Hb5.out (by have := Hb5.out.size; simp <;> omega) (by simp <;> omega)).keeps ((Keeps.refl _ _).alloc _)).drew (by rw [FM.out]; omega) (by omega) (by omega)).mono ?_; rw [FM.out, HX.out]; rintro e w6 ⟨rfl, hb6⟩; have HL6 := Lib.hid ((QN.out (w5.alloc _) (w5.heap.size + 1) (w5.heap.size + 2) (by simp) (gal Hb5.out _) (by have := Hb5.out.size; omega) (by simp <;> omega)).drew.shift hb6 (g' := w6.heap.size) hb6.size); have Hb6 := Lib.hid (gto (gal (gal Hb5.out _) _).drew hb6); have HX6 := Lib.hid (HX5.out.later2 hb6); have HY6 := Lib.hid (HY5.out.later2 hb6); clear hb6)
            | (go_at_call 13; (with_reducible show Calls _ _ #[_, .slice _ 1 1] (World.drew (World.alloc (World.alloc w5 (.cells #[.slice B _ _] _)) _)) _); refine (tag_any _ (HT.out.later (gal (gal Hb5.out _) _)).drew S _ 1 1 _ rfl (QM.out (w5.alloc _) (w5.heap.size + 1) _ (by simp) (gal Hb5.out _) (by have := Hb5.out.size; simp <;> omega) (by simp <;> omega)).drew (by rw [FM.out]; omega) (by omega) (by omega)).mono ?_; rw [FM.out, HX.out]; rintro e w6 ⟨rfl, hb6⟩; have HL6 := Lib.hid (((QN.out w5 w5.heap.size (w5.heap.size + 2) rfl Hb5.out (by have := Hb5.out.size; omega) (by simp <;> omega)).keeps ((Keeps.refl _ _).alloc _)).drew.shift hb6 (g' := w6.heap.size) hb6.size); have Hb6 := Lib.hid (gto (gal (gal Hb5.out _) _).drew hb6); have HX6 := Lib.hid (HX5.out.later2 hb6); have HY6 := Lib.hid (HY5.out.later2 hb6); clear hb6)
            | (go_at_call 13; (with_reducible show Calls _ _ #[_, .slice _ 1 1] (World.alloc w6 _) _); refine (tag_any _ (HT.out.later (gal Hb6.out _)) T _ 1 1 _ rfl (QN.out w6 w6.heap.size _ rfl Hb6.out (by have := Hb6.out.size; simp <;> omega) (by simp <;> omega)) (by rw [FN.out]; omega) (by omega) (by omega)).mono ?_; rw [FN.out, HY.out]; rintro e w7 ⟨rfl, hb7⟩; have Hb7 := Lib.hid (gto (gal Hb6.out _) hb7); have HX7 := Lib.hid (HX6.out.later1 hb7); have HY7 := Lib.hid (HY6.out.later1 hb7); clear hb7)
            | (go_at_call 13; (with_reducible show Calls _ _ #[_, .slice _ 1 1] w6 _); refine (tag_any _ (HT.out.later Hb6.out) T _ 1 1 _ rfl HL6.out (by rw [FN.out]; omega) (by omega) (by omega)).mono ?_; rw [FN.out, HY.out]; rintro e w7 ⟨rfl, hb7⟩; have Hb7 := Lib.hid (gto Hb6.out hb7); have HX7 := Lib.hid (HX6.out.later hb7); have HY7 := Lib.hid (HY6.out.later hb7); clear hb7)
            | (go_at_call 14; (with_reducible show Calls _ _ #[.slice A1 _ _] _ _); refine (rsum_any _ A1 _ c1 x rfl HX7.out.size (by have := Hxl.out; omega)).mono ?_; rintro e w8 ⟨rfl, hb8⟩; have Hb8 := Lib.hid (gto Hb7.out hb8); have HY8 := Lib.hid (HY7.out.later hb8); clear hb8)
            | (go_at_call 14; (with_reducible show Calls _ _ #[.slice A2 _ _] _ _); refine (rsum_any _ A2 _ c2 y rfl HY8.out.size (by have := Hyl.out; omega)).mono ?_; rintro e w9 ⟨rfl, hb9⟩; have Hb9 := Lib.hid (gto Hb8.out hb9); clear hb9))
          all_goals
            go_wp2_with fail
            go_ret
            exact ⟨by simp, Hb9.out⟩
        · have hxy : ¬ x = y := fun h => hmn (hiff.1 h).2
          have e1 : S.toList = T.toList := by rw [hST]
          have e2 : (m == n) = false := beq_false_of_ne hmn
          have e3 : (x == y) = false := beq_false_of_ne hxy
          clear hiff hST hmn hxy
          go_wp2_with (first
                  | (go_at_call 12; (with_reducible show Calls _ _ #[_, .slice A _ _] _ _); refine (text_any _ S A _ c m rfl (HA.out.below Hb3.out |>.more Hb3.out.size) (by omega) (by omega)).mono ?_; rw [HX.out]; rintro e w4 ⟨A1, c1, rfl, hs4, hb4⟩; have HX4 := Lib.hid hs4; have Hb4 := Lib.hid (gto Hb3.out hb4); clear hs4 hb4)
                  | (go_at_call 12; (with_reducible show Calls _ _ #[_, .slice B _ _] _ _); refine (text_any _ T B _ d n rfl (HB.out.below Hb4.out |>.more Hb4.out.size) (by omega) (by omega)).mono ?_; rw [HY.out]; rintro e w5 ⟨A2, c2, rfl, hs5, hb5⟩; have HY5 := Lib.hid hs5; have HX5 := Lib.hid ((HX4.out.later hb5).more hb5.size); have Hb5 := Lib.hid (gto Hb4.out hb5); have qx : (convert 22 9 (.slice A1 x.length c1)).run Tryd.prog w5 = .ok (.string (Str x)) w5 := run_string_sees Tryd.underlying22 Tryd.underlying5 Tryd.underlying9 rfl HX5.out; have qy : (convert 22 9 (.slice A2 y.length c2)).run Tryd.prog w5 = .ok (.string (Str y)) w5 := run_string_sees Tryd.underlying22 Tryd.underlying5 Tryd.underlying9 rfl HY5.out; have qm : (convert 22 9 (.slice A m.length c)).run Tryd.prog w5 = .ok (.string (Str m)) w5 := run_string_sees Tryd.underlying22 Tryd.underlying5 Tryd.underlying9 rfl (HA.out.below Hb5.out); have qn : (convert 22 9 (.slice B n.length d)).run Tryd.prog w5 = .ok (.string (Str n)) w5 := run_string_sees Tryd.underlying22 Tryd.underlying5 Tryd.underlying9 rfl (HB.out.below Hb5.out); clear hs5 hb5))
          clear qx qy qm qn
          go_region_held_law (fun _ => True) (exact True.intro) (first
            | (go_at_call 13; (with_reducible show Calls _ _ #[_, .slice _ 1 1] (World.drew (World.alloc w5 _)) _); refine (tag_any _ (HT.out.later (gal Hb5.out _)).drew S _ 1 1 _ rfl (QM.out w5 w5.heap.size _ rfl Hb5.out (by have := Hb5.out.size; simp <;> omega) (by simp <;> omega)).drew (by rw [FM.out]; omega) (by omega) (by omega)).mono ?_; rw [FM.out, HX.out]; rintro e w6 ⟨rfl, hb6⟩; have Hb6 := Lib.hid (gto (gal Hb5.out _).drew hb6); have HX6 := Lib.hid (HX5.out.later1d hb6); have HY6 := Lib.hid (HY5.out.later1d hb6); clear hb6)
            | (go_at_call 13; (with_reducible show Calls _ _ #[_, .slice _ 1 1] (World.drew (World.alloc (World.alloc w5 (.cells #[.slice A _ _] _)) _)) _); refine (tag_any _ (HT.out.later (gal (gal Hb5.out _) _)).drew S _ 1 1 _ rfl ((QM.out w5 w5.heap.size _ rfl Hb5.out (by have := Hb5.out.size; simp <;> omega) (by simp <;> omega)).keeps ((Keeps.refl _ _).alloc _)).drew (by rw [FM.out]; omega) (by omega) (by omega)).mono ?_; rw [FM.out, HX.out]; rintro e w6 ⟨rfl, hb6⟩; have HL6 := Lib.hid ((QN.out (w5.alloc _) (w5.heap.size + 1) (w5.heap.size + 2) (by simp) (gal Hb5.out _) (by have := Hb5.out.size; omega) (by simp <;> omega)).drew.shift hb6 (g' := w6.heap.size) hb6.size); have Hb6 := Lib.hid (gto (gal (gal Hb5.out _) _).drew hb6); have HX6 := Lib.hid (HX5.out.later2 hb6); have HY6 := Lib.hid (HY5.out.later2 hb6); clear hb6)
            | (go_at_call 13; (with_reducible show Calls _ _ #[_, .slice _ 1 1] (World.drew (World.alloc (World.alloc w5 (.cells #[.slice B _ _] _)) _)) _); refine (tag_any _ (HT.out.later (gal (gal Hb5.out _) _)).drew S _ 1 1 _ rfl (QM.out (w5.alloc _) (w5.heap.size + 1) _ (by simp) (gal Hb5.out _) (by have := Hb5.out.size; simp <;> omega) (by simp <;> omega)).drew (by rw [FM.out]; omega) (by omega) (by omega)).mono ?_; rw [FM.out, HX.out]; rintro e w6 ⟨rfl, hb6⟩; have HL6 := Lib.hid (((QN.out w5 w5.heap.size (w5.heap.size + 2) rfl Hb5.out (by have := Hb5.out.size; omega) (by simp <;> omega)).keeps ((Keeps.refl _ _).alloc _)).drew.shift hb6 (g' := w6.heap.size) hb6.size); have Hb6 := Lib.hid (gto (gal (gal Hb5.out _) _).drew hb6); have HX6 := Lib.hid (HX5.out.later2 hb6); have HY6 := Lib.hid (HY5.out.later2 hb6); clear hb6)
            | (go_at_call 13; (with_reducible show Calls _ _ #[_, .slice _ 1 1] (World.alloc w6 _) _); refine (tag_any _ (HT.out.later (gal Hb6.out _)) T _ 1 1 _ rfl (QN.out w6 w6.heap.size _ rfl Hb6.out (by have := Hb6.out.size; simp <;> omega) (by simp <;> omega)) (by rw [FN.out]; omega) (by omega) (by omega)).mono ?_; rw [FN.out, HY.out]; rintro e w7 ⟨rfl, hb7⟩; have Hb7 := Lib.hid (gto (gal Hb6.out _) hb7); have HX7 := Lib.hid (HX6.out.later1 hb7); have HY7 := Lib.hid (HY6.out.later1 hb7); clear hb7)
            | (go_at_call 13; (with_reducible show Calls _ _ #[_, .slice _ 1 1] w6 _); refine (tag_any _ (HT.out.later Hb6.out) T _ 1 1 _ rfl HL6.out (by rw [FN.out]; omega) (by omega) (by omega)).mono ?_; rw [FN.out, HY.out]; rintro e w7 ⟨rfl, hb7⟩; have Hb7 := Lib.hid (gto Hb6.out hb7); have HX7 := Lib.hid (HX6.out.later hb7); have HY7 := Lib.hid (HY6.out.later hb7); clear hb7)
            | (go_at_call 14; (with_reducible show Calls _ _ #[.slice A1 _ _] _ _); refine (rsum_any _ A1 _ c1 x rfl HX7.out.size (by have := Hxl.out; omega)).mono ?_; rintro e w8 ⟨rfl, hb8⟩; have Hb8 := Lib.hid (gto Hb7.out hb8); have HY8 := Lib.hid (HY7.out.later hb8); clear hb8)
            | (go_at_call 14; (with_reducible show Calls _ _ #[.slice A2 _ _] _ _); refine (rsum_any _ A2 _ c2 y rfl HY8.out.size (by have := Hyl.out; omega)).mono ?_; rintro e w9 ⟨rfl, hb9⟩; have Hb9 := Lib.hid (gto Hb8.out hb9); clear hb9))
          all_goals
            go_wp2_with fail
            go_ret
            exact ⟨by simp, Hb9.out⟩
      · have hxy : ¬ x = y := fun h => hST (hiff.1 h).1
        have e1 : ¬ S.toList = T.toList := fun h => hST (toList_inj h)
        have e3 : (x == y) = false := beq_false_of_ne hxy
        clear hiff hST hxy
        go_wp2_with (first
                | (go_at_call 12; (with_reducible show Calls _ _ #[_, .slice A _ _] _ _); refine (text_any _ S A _ c m rfl (HA.out.below Hb3.out |>.more Hb3.out.size) (by omega) (by omega)).mono ?_; rw [HX.out]; rintro e w4 ⟨A1, c1, rfl, hs4, hb4⟩; have HX4 := Lib.hid hs4; have Hb4 := Lib.hid (gto Hb3.out hb4); clear hs4 hb4)
                | (go_at_call 12; (with_reducible show Calls _ _ #[_, .slice B _ _] _ _); refine (text_any _ T B _ d n rfl (HB.out.below Hb4.out |>.more Hb4.out.size) (by omega) (by omega)).mono ?_; rw [HY.out]; rintro e w5 ⟨A2, c2, rfl, hs5, hb5⟩; have HY5 := Lib.hid hs5; have HX5 := Lib.hid ((HX4.out.later hb5).more hb5.size); have Hb5 := Lib.hid (gto Hb4.out hb5); have qx : (convert 22 9 (.slice A1 x.length c1)).run Tryd.prog w5 = .ok (.string (Str x)) w5 := run_string_sees Tryd.underlying22 Tryd.underlying5 Tryd.underlying9 rfl HX5.out; have qy : (convert 22 9 (.slice A2 y.length c2)).run Tryd.prog w5 = .ok (.string (Str y)) w5 := run_string_sees Tryd.underlying22 Tryd.underlying5 Tryd.underlying9 rfl HY5.out; have qm : (convert 22 9 (.slice A m.length c)).run Tryd.prog w5 = .ok (.string (Str m)) w5 := run_string_sees Tryd.underlying22 Tryd.underlying5 Tryd.underlying9 rfl (HA.out.below Hb5.out); have qn : (convert 22 9 (.slice B n.length d)).run Tryd.prog w5 = .ok (.string (Str n)) w5 := run_string_sees Tryd.underlying22 Tryd.underlying5 Tryd.underlying9 rfl (HB.out.below Hb5.out); clear hs5 hb5))
        clear qx qy qm qn
        go_region_held_law (fun _ => True) (exact True.intro) (first
          | (go_at_call 13; (with_reducible show Calls _ _ #[_, .slice _ 1 1] (World.drew (World.alloc w5 _)) _); refine (tag_any _ (HT.out.later (gal Hb5.out _)).drew S _ 1 1 _ rfl (QM.out w5 w5.heap.size _ rfl Hb5.out (by have := Hb5.out.size; simp <;> omega) (by simp <;> omega)).drew (by rw [FM.out]; omega) (by omega) (by omega)).mono ?_; rw [FM.out, HX.out]; rintro e w6 ⟨rfl, hb6⟩; have Hb6 := Lib.hid (gto (gal Hb5.out _).drew hb6); have HX6 := Lib.hid (HX5.out.later1d hb6); have HY6 := Lib.hid (HY5.out.later1d hb6); clear hb6)
          | (go_at_call 13; (with_reducible show Calls _ _ #[_, .slice _ 1 1] (World.drew (World.alloc (World.alloc w5 (.cells #[.slice A _ _] _)) _)) _); refine (tag_any _ (HT.out.later (gal (gal Hb5.out _) _)).drew S _ 1 1 _ rfl ((QM.out w5 w5.heap.size _ rfl Hb5.out (by have := Hb5.out.size; simp <;> omega) (by simp <;> omega)).keeps ((Keeps.refl _ _).alloc _)).drew (by rw [FM.out]; omega) (by omega) (by omega)).mono ?_; rw [FM.out, HX.out]; rintro e w6 ⟨rfl, hb6⟩; have HL6 := Lib.hid ((QN.out (w5.alloc _) (w5.heap.size + 1) (w5.heap.size + 2) (by simp) (gal Hb5.out _) (by have := Hb5.out.size; omega) (by simp <;> omega)).drew.shift hb6 (g' := w6.heap.size) hb6.size); have Hb6 := Lib.hid (gto (gal (gal Hb5.out _) _).drew hb6); have HX6 := Lib.hid (HX5.out.later2 hb6); have HY6 := Lib.hid (HY5.out.later2 hb6); clear hb6)
          | (go_at_call 13; (with_reducible show Calls _ _ #[_, .slice _ 1 1] (World.drew (World.alloc (World.alloc w5 (.cells #[.slice B _ _] _)) _)) _); refine (tag_any _ (HT.out.later (gal (gal Hb5.out _) _)).drew S _ 1 1 _ rfl (QM.out (w5.alloc _) (w5.heap.size + 1) _ (by simp) (gal Hb5.out _) (by have := Hb5.out.size; simp <;> omega) (by simp <;> omega)).drew (by rw [FM.out]; omega) (by omega) (by omega)).mono ?_; rw [FM.out, HX.out]; rintro e w6 ⟨rfl, hb6⟩; have HL6 := Lib.hid (((QN.out w5 w5.heap.size (w5.heap.size + 2) rfl Hb5.out (by have := Hb5.out.size; omega) (by simp <;> omega)).keeps ((Keeps.refl _ _).alloc _)).drew.shift hb6 (g' := w6.heap.size) hb6.size); have Hb6 := Lib.hid (gto (gal (gal Hb5.out _) _).drew hb6); have HX6 := Lib.hid (HX5.out.later2 hb6); have HY6 := Lib.hid (HY5.out.later2 hb6); clear hb6)
          | (go_at_call 13; (with_reducible show Calls _ _ #[_, .slice _ 1 1] (World.alloc w6 _) _); refine (tag_any _ (HT.out.later (gal Hb6.out _)) T _ 1 1 _ rfl (QN.out w6 w6.heap.size _ rfl Hb6.out (by have := Hb6.out.size; simp <;> omega) (by simp <;> omega)) (by rw [FN.out]; omega) (by omega) (by omega)).mono ?_; rw [FN.out, HY.out]; rintro e w7 ⟨rfl, hb7⟩; have Hb7 := Lib.hid (gto (gal Hb6.out _) hb7); have HX7 := Lib.hid (HX6.out.later1 hb7); have HY7 := Lib.hid (HY6.out.later1 hb7); clear hb7)
          | (go_at_call 13; (with_reducible show Calls _ _ #[_, .slice _ 1 1] w6 _); refine (tag_any _ (HT.out.later Hb6.out) T _ 1 1 _ rfl HL6.out (by rw [FN.out]; omega) (by omega) (by omega)).mono ?_; rw [FN.out, HY.out]; rintro e w7 ⟨rfl, hb7⟩; have Hb7 := Lib.hid (gto Hb6.out hb7); have HX7 := Lib.hid (HX6.out.later hb7); have HY7 := Lib.hid (HY6.out.later hb7); clear hb7)
          | (go_at_call 14; (with_reducible show Calls _ _ #[.slice A1 _ _] _ _); refine (rsum_any _ A1 _ c1 x rfl HX7.out.size (by have := Hxl.out; omega)).mono ?_; rintro e w8 ⟨rfl, hb8⟩; have Hb8 := Lib.hid (gto Hb7.out hb8); have HY8 := Lib.hid (HY7.out.later hb8); clear hb8)
          | (go_at_call 14; (with_reducible show Calls _ _ #[.slice A2 _ _] _ _); refine (rsum_any _ A2 _ c2 y rfl HY8.out.size (by have := Hyl.out; omega)).mono ?_; rintro e w9 ⟨rfl, hb9⟩; have Hb9 := Lib.hid (gto Hb8.out hb9); clear hb9))
        all_goals
          go_wp2_with fail
          go_ret
          exact ⟨by simp, Hb9.out⟩
  · by_cases h11 : m.length ≤ 3000
    · by_cases h12 : n.length ≤ 3000
      · by_cases h13 : S.size ≤ 200
        · have h14 : 200 < T.size := by omega
          clear h1
          go_enter Tryd.func3, Tryd.ntmps3
          go_wp2_with (go_at_call 10; refine (known_any _ HT.out).mono ?_; rintro e w1 ⟨rfl, hb1⟩; have Hb1 := Lib.hid hb1; clear hb1)
          go_ret
          exact ⟨rfl, Hb1.out⟩
        · clear h1
          go_enter Tryd.func3, Tryd.ntmps3
          go_wp2_with (go_at_call 10; refine (known_any _ HT.out).mono ?_; rintro e w1 ⟨rfl, hb1⟩; have Hb1 := Lib.hid hb1; clear hb1)
          go_ret
          exact ⟨rfl, Hb1.out⟩
      · clear h1
        go_enter Tryd.func3, Tryd.ntmps3
        go_wp2_with (go_at_call 10; refine (known_any _ HT.out).mono ?_; rintro e w1 ⟨rfl, hb1⟩; have Hb1 := Lib.hid hb1; clear hb1)
        go_ret
        exact ⟨rfl, Hb1.out⟩
    · clear h1
      go_enter Tryd.func3, Tryd.ntmps3
      go_wp2_with (go_at_call 10; refine (known_any _ HT.out).mono ?_; rintro e w1 ⟨rfl, hb1⟩; have Hb1 := Lib.hid hb1; clear hb1)
      go_ret
      exact ⟨rfl, Hb1.out⟩

theorem shaMeans_any (w : World) (hT : Tabs w) (A : Option Addr) (c : Nat) (m : List UInt8) (hA : Sees w w.heap.size A m) (hc : m.length ≤ c) (hm : m.length ≤ 9223372036854775807) (B : Option Addr) (d : Nat) (n : List UInt8) (hB : Sees w w.heap.size B n) (hd : n.length ≤ d) (hn : n.length ≤ 9223372036854775807)
    (one : Int) (_h1 : (Lit.int .i64 one).wf = true) (two : Int) (_h2 : (Lit.int .i64 two).wf = true) (S : ByteArray) (hS : S.size ≤ 9223372036854775807) (T : ByteArray) (hT2 : T.size ≤ 9223372036854775807) :
    Calls Tryd.prog 3 #[.slice A m.length c, .slice B n.length d, .int .i64 one, .int .i64 two, .string S, .string T] w fun e w' => e = .returned (.bool true) ∧ Below w.heap.size w w' :=
  shaMeans_w w hT A B c d m n hA hB hc hd hm hn one two S T hS hT2
end Go.Proofs.YtbfahmpppkjpbaaDoor
