/-
  tree: Parent, Children, Depth, Size; the document's Depth, Size.
-/
import Derived.Test.YtefgnemcjgibaaaTeL
import Derived.Laws.OwnMore
namespace Go.Proofs.Ytefgnemcjgibaaa
open Go.RowKit

theorem te_eql_snil {P : Program} (w : World) (t e : TypeId) (a : Option Addr) (n c : Nat) (h : P.underlying t = some (.slice e)) :
    (binOp .eql t (.slice a n c) (.slice none 0 0)).run P w = .ok (.bool a.isNone) w := by
  simp only [binOp]
  simp [Op.equal, Op.maxDepth, Lib.run_equalIn_slice_nil w 9999 t e a n c 0 0 h]
set_option maxHeartbeats 1000000 in
set_option maxRecDepth 100000 in
theorem te_cloneI (w : World) (A : Option Addr) (K : List Nat) (c : Nat) (hS : SeesV w w.heap.size A (tiC K)) (hmax : K.length ≤ 100000) :
    Calls Try.prog 31 #[.slice A K.length c] w fun e w' => ∃ A' c', e = .returned (.slice A' K.length c') ∧ w'.ownsRow w.heap.size 3 1 (.slice A' K.length c') K.length (tiC K) ∧ Below w.heap.size w w' := by
  rcases A with _ | ad
  · have h0 : tiC K = [] := by
      rcases hS with h | ⟨b, off, h, _⟩
      · exact h
      · cases h
    obtain rfl : K = [] := by
      have := tiC_len K
      rw [h0] at this
      exact List.eq_nil_of_length_eq_zero (by simpa using this.symm)
    clear hmax hS h0
    have hq : (binOp .eql 22 (.slice none 0 c) (.slice none 0 0)).run Try.prog w = .ok (.bool true) w := te_eql_snil w 22 3 none 0 c Try.underlying22
    go_enter Try.func31, Try.ntmps31
    go_wp2
    go_ret
    exact ⟨none, 0, rfl, ⟨rfl, .inl ⟨rfl, rfl⟩⟩, nxRefl w⟩
  · have hO : Hid ((w.alloc (.cells #[] 3)).ownsRow w.heap.size 3 1 (.slice (some ⟨w.heap.size, 0, none⟩) 0 0) 0 []) := own_made (cs := []) (heap_alloc_new w _) (Nat.le_refl _) (Nat.le_refl _) (by unfold maxLen; omega) rfl
    have HS : Hid (SeesV (w.alloc (.cells #[] 3)) (w.alloc (.cells #[] 3)).heap.size (some ad) (tiC K)) := (hS.alloc _).more (by simp)
    have HL : Hid ((tiC K).length = K.length * 1) := by show _ = _; rw [tiC_len, Nat.mul_one]
    have HM := Lib.hid hmax
    obtain ⟨i0, hi0, hz0, hz1, hz2⟩ := info_parts Try.tinfoI
    have hq : (binOp .eql 22 (.slice (some ad) K.length c) (.slice none 0 0)).run Try.prog w = .ok (.bool false) w := te_eql_snil w 22 3 (some ad) K.length c Try.underlying22
    clear hS hmax
    go_enter Try.func31, Try.ntmps31
    go_wp2_with (first
      | ((with_reducible show wpList _ _ _ (⟨some 7, _, _, _, _, _⟩ :: _) _ _); (show wpList _ _ _ _ _ (w.alloc (.cells #[] 3))); refine wpList_append_seesV rfl (.tmp 5) (.tmp 6) 22 rfl w.heap.size 3 i0 _ 1 8 Try.underlying22 hi0 hz0 hz1 hz2 rfl (by decide) (.slice (some ⟨w.heap.size, 0, none⟩) 0 0) 0 [] rfl hO.out _ (some ad) K.length c (tiC K) rfl HL.out HS.out (tiC_one K) (by have := HM.out; omega) (by have := HM.out; omega) (by simp) ?_; intro v' w' ho hg hv; obtain ⟨A', c', rfl⟩ := own_form ho; have HO := Lib.hid ho; have HG : Hid (Below w.heap.size w w') := (nxAlloc (nxRefl w) _).grown hg (nxAlloc (nxRefl w) _).size (fun j hj => by have hj2 : w.heap.size = j := Option.some.inj hj; omega); clear ho hg hv))
    go_ret
    have ho := HO.out
    simp only [Nat.zero_add, List.nil_append] at ho
    exact ⟨A', c', by simp, ho, HG.out⟩
theorem te_par (w : World) (base : Nat) (m : TrM) (h : TrOk w base m) (n : Nat) (hn : n < m.L.length) (h0 : 0 < n) : Calls Try.prog 11 #[.pointer (some ⟨m.q, 0, none⟩), .int .i64 (n : Int)] w fun e w' => e = .returned (.tuple #[.int .i64 ((ndT m.T n).par : Int), .int .i64 0]) ∧ w' = w := by
  obtain ⟨g, hnA, hg, hgb, hc0, hr⟩ := nd_cells h hn
  have h1 := (nd_c hr).1
  rw [m.T_at hn]
  have H1 := Lib.hid (te_ref w base m h n hn)
  generalize m.L[n] = x at *
  clear h hr hg hgb hnA
  generalize m.L.length = k at *
  have hk : (n : Int) < (k : Int) := by omega
  have hk0 : ((n : Int) == 0) = false := by rw [beq_eq_false_iff_ne]; omega
  go_enter Try.func11, Try.ntmps11
  go_wp2_with (go_at_call 30; refine H1.out.mono ?_; rintro e1 w1 ⟨rfl, hw1⟩; obtain rfl := hw1.symm)
  go_ret2
  exact ⟨rfl, rfl⟩
theorem te_par0 (w : World) (base : Nat) (m : TrM) (h : TrOk w base m) (h0 : 0 < m.L.length) : Calls Try.prog 11 #[.pointer (some ⟨m.q, 0, none⟩), .int .i64 0] w fun e w' => e = .returned (.tuple #[.int .i64 0, .int .i64 6]) ∧ w' = w := by
  have h1 : Calls Try.prog 30 #[.pointer (some ⟨m.q, 0, none⟩), .int .i64 0] w _ := te_ref w base m h 0 h0
  have H1 := Lib.hid h1
  clear h h0 h1
  go_enter Try.func11, Try.ntmps11
  go_wp2_with (go_at_call 30; refine H1.out.mono ?_; rintro e1 w1 ⟨rfl, hw1⟩; obtain rfl := hw1.symm)
  go_ret2
  exact ⟨rfl, rfl⟩
theorem te_dep (w : World) (base : Nat) (m : TrM) (h : TrOk w base m) (n : Nat) (hn : n < m.L.length) : Calls Try.prog 13 #[.pointer (some ⟨m.q, 0, none⟩), .int .i64 (n : Int)] w fun e w' => e = .returned (.tuple #[.int .i64 ((ndT m.T n).dep : Int), .int .i64 0]) ∧ w' = w := by
  obtain ⟨g, hnA, hg, hgb, hc0, hr⟩ := nd_cells h hn
  have h1 := (nd_c hr).2.1
  rw [m.T_at hn]
  have H1 := Lib.hid (te_ref w base m h n hn)
  generalize m.L[n] = x at *
  clear h hr hg hgb hnA
  generalize m.L.length = k at *
  have hk : (n : Int) < (k : Int) := by omega
  go_enter Try.func13, Try.ntmps13
  go_wp2_with (go_at_call 30; refine H1.out.mono ?_; rintro e1 w1 ⟨rfl, hw1⟩; obtain rfl := hw1.symm)
  go_ret2
  exact ⟨rfl, rfl⟩
theorem te_kidsN (w : World) (base : Nat) (m : TrM) (h : TrOk w base m) (hI : TrI m) (n : Nat) (hn : n < m.L.length) : Calls Try.prog 12 #[.pointer (some ⟨m.q, 0, none⟩), .int .i64 (n : Int)] w fun e w' => ∃ A c, e = .returned (.tuple #[.slice A (kidsT m.T n).length c, .int .i64 0]) ∧ SeesV w' w'.heap.size A (tiC (kidsT m.T n)) ∧ Below w.heap.size w w' := by
  obtain ⟨g, hnA, hg, hgb, hc0, hr⟩ := nd_cells h hn
  have h1 := (nd_c hr).2.2.1
  have hkid := SeesV.own (h.kid _ (List.getElem_mem hn))
  have hke := hI.kids n hn
  have hkm : (kidsT m.T n).length ≤ 1000 := by
    have := (kids_nodup m.T n).length_le_of_subset (l₂ := List.range m.T.length) (fun k hk => List.mem_range.2 (mem_kids.1 hk).2.1)
    rw [List.length_range, m.T_len] at this
    have := hI.max
    omega
  have H1 := Lib.hid (te_ref w base m h n hn)
  rw [hke] at h1 hkid
  obtain ⟨K, hK⟩ : ∃ K, kidsT m.T n = K := ⟨_, rfl⟩
  rw [hK] at h1 hkid hkm ⊢
  have HC := Lib.hid (te_cloneI w m.L[n].kA K m.L[n].kc hkid (by omega))
  clear hke hkid hK hI
  generalize m.L[n] = x at *
  clear h hr hg hgb hnA
  generalize m.L.length = k at *
  have hk : (n : Int) < (k : Int) := by omega
  go_enter Try.func12, Try.ntmps12
  go_wp2_with (first
    | (go_at_call 30; refine H1.out.mono ?_; rintro e1 w1 ⟨rfl, hw1⟩; obtain rfl := hw1.symm)
    | (go_at_call 31; refine HC.out.mono ?_; rintro e2 w2 ⟨A2, c2, rfl, ho2, hb2⟩; have O2 := Lib.hid ho2; have V2 := Lib.hid hb2; clear ho2 hb2))
  go_ret2
  exact ⟨A2, c2, rfl, SeesV.own O2.out, V2.out⟩
theorem te_size (w : World) (base : Nat) (m : TrM) (h : TrOk w base m) (hI : TrI m) (n : Nat) (hn : n < m.L.length) : Calls Try.prog 14 #[.pointer (some ⟨m.q, 0, none⟩), .int .i64 (n : Int)] w fun e w' => e = .returned (.tuple #[.int .i64 (cntT m.T n 0 : Int), .int .i64 0]) ∧ Below w.heap.size w w' := by
  have H1 := Lib.hid (te_ref w base m h n hn)
  have HB := Lib.hid (te_below w base m h hI.s n hn 0)
  have HOk := Lib.hid hI.ok
  have HN : Hid (n < m.T.length) := by show _ < _; rw [m.T_len]; exact hn
  have hmx := hI.max
  clear h hI hn
  go_enter Try.func14, Try.ntmps14
  go_wp2_with (first
    | (go_at_call 30; refine H1.out.mono ?_; rintro e1 w1 ⟨rfl, hw1⟩; obtain rfl := hw1.symm)
    | (go_at_call 32; refine HB.out.mono ?_; rintro e1 w1 ⟨Q1, A1, c1, rfl, ho1, hb1, hf1⟩; have V1 := Lib.hid hb1; have F1 : Hid (Q1.length = cntT m.T n 0) := hf1.cnt HOk.out HN.out (.inl rfl); clear ho1 hb1 hf1))
  go_ret2
  exact ⟨by rw [← F1.out]; rfl, V1.out⟩
set_option maxRecDepth 100000 in
set_option maxHeartbeats 2000000 in
theorem rt_depth (w : World) (T : List Nd) (r : RtM) (h : RtOk w T r) (o : OkT T) (n : Nat) (hn : n < T.length) : Calls Try.prog 17 #[.pointer (some ⟨r.q, 0, none⟩), .int .i64 (n : Int)] w fun e w' => e = .returned (.int .i64 ((ndT T n).dep : Int)) ∧ w' = w := by
  have hmx := o.max
  have HO := Lib.hid o
  have HN := Lib.hid hn
  have hcq : w.cell? ⟨r.q, 0, none⟩ = some (.slice r.A T.length r.c) := h.b.cell 0
  obtain ⟨b0, off, hA, hb0, hc⟩ := h.cell hn
  rw [hA] at hcq
  have HC := Lib.hid hc
  clear h o hn hA hb0 hc
  go_enter Try.func17, Try.ntmps17
  go_wp2
  go_loopw [1, 5] (fun av dv wr => ∃ x d : Nat, av = .int .i64 x ∧ dv = .int .i64 d ∧ x < T.length ∧ d + x ≤ 2000 ∧ wr = w ∧ Hid ((ndT T n).dep = (ndT T x).dep + d)) (fun av _ _ => (intOf av).toNat)
  case atStart => exact ⟨n, 0, rfl, rfl, HN.out, by have := HN.out; omega, rfl, rfl⟩
  case round =>
    obtain ⟨x, d, rfl, rfl, hx, hd, rfl, HD⟩ := hrel
    have hcx := HC.out x hx
    have hxn : (x : Int) < (T.length : Int) := by omega
    by_cases h0 : x = 0
    · subst h0
      have hcx : wr.cell? ⟨b0, off + 0, none⟩ = some (.int .i64 (-1)) := by rw [hcx]; rfl
      have hcx2 : wr.cell? ⟨b0, off, none⟩ = some (.int .i64 (-1)) := hcx
      have hd9 : (ndT T n).dep = d := by rw [HD.out, HO.out.r, Nat.zero_add]
      have HD9 := Lib.hid hd9
      clear hd9
      go_wp2
      go_ret
      exact ⟨by rw [HD9.out]; rfl, by first | rfl | trivial⟩
    · have hp := HO.out.lt x (by omega) hx
      have hdp := HO.out.dep x (by omega) hx
      obtain ⟨p, hp9⟩ : ∃ p, (ndT T x).par = p := ⟨_, rfl⟩
      rw [hp9] at hp hdp
      have hcx2 : wr.cell? ⟨b0, off + x, none⟩ = some (.int .i64 (p : Int)) := by
        rw [hcx]
        unfold tpV
        rw [if_neg h0, hp9]
      have hge : (0 : Int) ≤ (p : Int) := by omega
      have HDp : Hid ((ndT T n).dep = (ndT T p).dep + (d + 1)) := by show _ = _; rw [HD.out, hdp]; omega
      clear hcx hp9 hdp
      go_wp2
      go_roundw
      case rel => exact ⟨p, d + 1, rfl, by go_num, by omega, by omega, by first | rfl | trivial, HDp.out⟩
      case measure => simp [intOf] <;> omega
open Classical in
theorem cnt_und (T : List Nd) (n : Nat) : cntT T n 0 = ((List.range T.length).filter fun m => decide (Und T m n)).length := by
  unfold cntT
  congr 1
  refine List.filter_congr fun m hm => ?_
  have hm' := List.mem_range.1 hm
  rw [Bool.eq_iff_iff]
  simp only [decide_eq_true_eq]
  exact ⟨fun k => k.2.1, fun k => ⟨hm', k, fun h => absurd rfl h⟩⟩
open Classical in
set_option maxRecDepth 100000 in
set_option maxHeartbeats 2000000 in
theorem rt_size (w : World) (T : List Nd) (r : RtM) (h : RtOk w T r) (o : OkT T) (n : Nat) (hn : n < T.length) : Calls Try.prog 18 #[.pointer (some ⟨r.q, 0, none⟩), .int .i64 (n : Int)] w fun e w' => e = .returned (.int .i64 (cntT T n 0 : Int)) ∧ w' = w := by
  have hmx := o.max
  have HO := Lib.hid o
  have HN := Lib.hid hn
  have HH := Lib.hid h
  have hcq : w.cell? ⟨r.q, 0, none⟩ = some (.slice r.A T.length r.c) := h.b.cell 0
  rw [cnt_und]
  clear h o hn
  go_enter Try.func18, Try.ntmps18
  go_wp2
  go_loopw [5, 6] (fun sv iv wr => ∃ i s : Nat, sv = .int .i64 s ∧ iv = .int .i64 i ∧ i ≤ T.length ∧ s ≤ i ∧ wr = w ∧ Hid (s = ((List.range i).filter fun m => decide (Und T m n)).length)) (fun _ iv _ => T.length - (intOf iv).toNat)
  case atStart => exact ⟨0, 0, rfl, rfl, by omega, by omega, rfl, rfl⟩
  case round =>
    obtain ⟨i, s, rfl, rfl, hi, hs, rfl, HS⟩ := hrel
    by_cases hlt : i < T.length
    · have hin : (i : Int) < (T.length : Int) := by omega
      have hnx : ((List.range (i + 1)).filter fun m => decide (Und T m n)).length = s + if Und T i n then 1 else 0 := by
        rw [List.range_succ, List.filter_append, List.length_append, ← HS.out, List.filter_cons]
        by_cases e : Und T i n <;> simp [e]
      have HNx := Lib.hid hnx
      clear hnx
      by_cases hu : Und T i n
      · have HU := Lib.hid (rt_under wr T r HH.out HO.out i n hlt HN.out true ⟨fun _ => hu, fun _ => rfl⟩)
        go_wp2_with (go_at_call 20; refine HU.out.mono ?_; rintro e w1 ⟨rfl, hw1⟩; obtain rfl := hw1.symm)
        go_roundw
        case rel => exact ⟨i + 1, s + 1, by go_num, by go_num, by omega, by omega, by first | rfl | trivial, by show _ = _; rw [HNx.out, if_pos hu]⟩
        case measure => simp [intOf] <;> omega
      · have HU := Lib.hid (rt_under wr T r HH.out HO.out i n hlt HN.out false ⟨fun k => (by cases k), fun k => absurd k hu⟩)
        go_wp2_with (go_at_call 20; refine HU.out.mono ?_; rintro e w1 ⟨rfl, hw1⟩; obtain rfl := hw1.symm)
        go_roundw
        case rel => exact ⟨i + 1, s, rfl, by go_num, by omega, by omega, by first | rfl | trivial, by show _ = _; rw [HNx.out, if_neg hu]; omega⟩
        case measure => simp [intOf] <;> omega
    · obtain rfl : i = T.length := by omega
      go_wp2
      go_ret
      exact ⟨by rw [← HS.out]; rfl, by first | rfl | trivial⟩
end Go.Proofs.Ytefgnemcjgibaaa
