/-
  wal: the law's own steps; known.
-/
import Derived.Test.YthamlphebnhcpaaDoorWl8
import Derived.Test.YthamlphebnhcpaaDoorPWpQ5
namespace Go.Proofs.YthamlphebnhcpaaDoor
open Go.RowKit

/-- Records, one behind the other, from number n on. -/
def recsF : Nat → List (List UInt8) → List UInt8
  | _, [] => []
  | n, x :: L => recB n x ++ recsF (n + 1) L
theorem recsF_snoc (L : List (List UInt8)) (x : List UInt8) : ∀ n, recsF n (L ++ [x]) = recsF n L ++ recB (n + L.length) x := by
  induction L with
  | nil => intro n; simp [recsF]
  | cons y L ih => intro n; simp only [List.cons_append, recsF, ih, List.length_cons, List.append_assoc]; rw [show n + 1 + L.length = n + (L.length + 1) by omega]
theorem recsF_len (L : List (List UInt8)) : ∀ n, (recsF n L).length = sizeL L := by
  induction L with
  | nil => intro n; rfl
  | cons y L ih =>
    intro n
    have e : sizeL (y :: L) = (20 + y.length) + sizeL L := by unfold sizeL; rw [List.map_cons, List.sum_cons]
    rw [recsF, List.length_append, ih, recB_len, e]
theorem recB_take4 (n : Nat) (x t : List UInt8) : (recB n x ++ t).take 4 = leB x.length 4 := by
  unfold recB headB
  rw [List.append_assoc, List.append_assoc, List.append_assoc]
  have h : (leB x.length 4).length = 4 := leB_length _ _
  have h2 := List.take_left (l₁ := leB x.length 4) (l₂ := leB n 8 ++ ((markB n x).take 8 ++ (x ++ t)))
  rw [h] at h2
  exact h2
theorem ofLe_leBW (N k : Nat) (h : N < 256 ^ k) : ofLe (leB N k) = N := by
  have hk : ∀ k, ofLe (leB N k) = N % 256 ^ k := by
    intro k
    induction k with
    | zero => simp [leB, ofLe, Nat.mod_one]
    | succ k ih =>
      rw [leB, ofLe_append, ih, leB_length, u8_mod, Nat.pow_succ, Nat.mod_mul]
  rw [hk, Nat.mod_eq_of_lt h]
theorem recB_drop (n : Nat) (x : List UInt8) : (recB n x).drop 20 = x := by
  unfold recB
  have h : (headB n x ++ (markB n x).take 8).length = 20 := by rw [List.length_append, headB_len, List.length_take, markB_len]; rfl
  have h2 := List.drop_left (l₁ := headB n x ++ (markB n x).take 8) (l₂ := x)
  rw [h] at h2
  exact h2
theorem stepR_rec (n : Nat) (x t : List UInt8) (hx : x.length ≤ 4194304) : stepR n (recB n x ++ t) = some (x, t) := by
  have hl := recB_len n x
  have hn : nextR (recB n x ++ t) = some (recB n x, t) := by
    unfold nextR
    rw [recB_take4, ofLe_leBW _ _ (by omega), List.length_append, hl, if_pos (by omega), ← hl, List.take_left, List.drop_left]
  unfold stepR
  rw [hn]
  dsimp only
  rw [recB_drop, if_pos ⟨hx, rfl⟩]
theorem stepR_torn (n : Nat) (x : List UInt8) (hx : x.length ≤ 4194304) (j : Nat) (hj : j < (recB n x).length) : stepR n ((recB n x).take j) = none := by
  have hl := recB_len n x
  have hn : nextR ((recB n x).take j) = none := by
    unfold nextR
    rw [if_neg]
    have h1 : ((recB n x).take j).length = j := by rw [List.length_take]; omega
    rw [h1]
    intro h
    have h4 : ((recB n x).take j).take 4 = leB x.length 4 := by
      rw [List.take_take, show min 4 j = 4 by omega]
      have := recB_take4 n x []
      rwa [List.append_nil] at this
    rw [h4, ofLe_leBW _ _ (by omega)] at h
    omega
  unfold stepR
  rw [hn]
theorem stepR_nil (n : Nat) : stepR n [] = none := rfl
theorem scanF_recs (t : List UInt8) : ∀ (L : List (List UInt8)) (n : Nat), (∀ x ∈ L, x.length ≤ 4194304) → stepR (n + L.length) t = none → scanF (recsF n L ++ t).length n (recsF n L ++ t) = L := by
  intro L
  induction L with
  | nil => intro n _ h; rw [recsF, List.nil_append]; exact scanF_end h
  | cons x L ih =>
    intro n hL h
    rw [recsF, List.append_assoc]
    rw [scanF_step (stepR_rec n x _ (hL x List.mem_cons_self)), ih (n + 1) (fun y hy => hL y (List.mem_cons_of_mem _ hy)) (by rw [show n + 1 + L.length = n + (x :: L).length by rw [List.length_cons]; omega]; exact h)]
theorem scanB_recs {L : List (List UInt8)} {t : List UInt8} (hL : ∀ x ∈ L, x.length ≤ 4194304) (h : stepR (L.length + 1) t = none) : scanB (recsF 1 L ++ t) = L := scanF_recs t L 1 hL (by rw [Nat.add_comm]; exact h)

/-- A log of a disk: what lasts, and what waits. -/
structure StW (D : DkD) (i : Nat) (t : List UInt8) (V : List StD) : Prop where
  wf : DkWf D
  il : i < 16
  r : rowD D.X i = t
  w : D.W = V
theorem logB_nat (D : DkD) (i : Nat) : logB D (i : Int) = rowD D.X (16 + i) := by unfold logB; rw [Int.toNat_natCast]
theorem StW.read {D : DkD} {i : Nat} {t : List UInt8} {V : List StD} (h : StW D i t V) : logB D (i : Int) = rowD (doAll 0 D.X V) i := by
  have := h.wf.e i h.il
  rw [h.w] at this
  rw [logB_nat]
  exact this
theorem StW.read0 {D : DkD} {i : Nat} {t : List UInt8} (h : StW D i t []) : logB D (i : Int) = t := by rw [h.read]; exact h.r
theorem burn_case {D : DkD} (h : DkWf D) : (D.fuse = -1 ∧ burnD D = (D, 0)) ∨ (D.fuse = 0 ∧ burnD D = ({ D with dead := true }, 19)) ∨ (0 < D.fuse ∧ burnD D = ({ D with fuse := D.fuse - 1 }, 0)) := by
  unfold burnD
  by_cases h1 : D.fuse = -1
  · exact .inl ⟨h1, by rw [h1]; rfl⟩
  · have e1 : (D.fuse == -1) = false := beq_eq_false_iff_ne.2 h1
    by_cases h2 : D.fuse = 0
    · exact .inr (.inl ⟨h2, by rw [e1, h2]; rfl⟩)
    · have e2 : (D.fuse == 0) = false := beq_eq_false_iff_ne.2 h2
      have := h.f
      exact .inr (.inr ⟨by omega, by rw [e1, e2]; rfl⟩)
theorem StW.burn {D : DkD} {i : Nat} {t : List UInt8} {V : List StD} (h : StW D i t V) : StW (burnD D).1 i t V := by
  refine ⟨burnD_wf h.wf, h.il, ?_, ?_⟩
  · rcases burn_case h.wf with ⟨_, e⟩ | ⟨_, e⟩ | ⟨_, e⟩ <;> rw [e] <;> exact h.r
  · rw [burnD_W]; exact h.w
theorem StW.settle {D : DkD} {i : Nat} {t : List UInt8} {V : List StD} (h : StW D i t V) : StW (settleD D.W.length D) i (rowD (doAll 0 D.X V) i) [] := by
  refine ⟨settleD_wf h.wf _, h.il, ?_, ?_⟩
  · show rowD (doAll 0 D.X (D.W.take D.W.length)) i = _
    rw [List.take_length, h.w]
  · show D.W.drop D.W.length = []
    exact List.drop_eq_nil_of_le (Nat.le_refl _)
/-- What a sync leaves. -/
theorem StW.sync {D : DkD} {i : Nat} {t : List UInt8} {V : List StD} (h : StW D i t V) (hd : D.dead = false) :
    ((syncD D).2 = 0 ∧ StW (syncD D).1 i (rowD (doAll 0 D.X V) i) [] ∧ (syncD D).1.dead = false ∧ (D.fuse = -1 → (syncD D).1.fuse = -1)) ∨ ((syncD D).2 = 19 ∧ StW (syncD D).1 i t V ∧ D.fuse ≠ -1) := by
  have hb := h.burn
  unfold syncD
  rw [hd]
  rcases burn_case h.wf with ⟨hf, e⟩ | ⟨hf, e⟩ | ⟨hf, e⟩
  · rw [e] at hb ⊢
    exact .inl ⟨rfl, h.settle, hd, fun _ => hf⟩
  · rw [e] at hb ⊢
    exact .inr ⟨rfl, hb, by omega⟩
  · rw [e] at hb ⊢
    exact .inl ⟨rfl, hb.settle, hd, fun hh => by omega⟩
theorem StW.wait {D : DkD} {i : Nat} {t : List UInt8} (h : StW D i t []) {s : StD} (hs : okS (D.X.drop 16) s) (hsi : (match s with | .put i _ => i | .cut i _ => i) < 16) : StW (waitD D s) i t [s] := by
  refine ⟨waitD_wf h.wf hs, h.il, ?_, ?_⟩
  · show rowD (doS 16 D.X s) i = t
    rw [doS_low h.wf.n hsi h.il]; exact h.r
  · show D.W ++ [s] = _
    rw [h.w]; rfl
theorem mayD_nat {i : Nat} (hi : i < 16) : mayD (i : Int) = true := by unfold mayD; rw [decide_eq_true (by omega), decide_eq_true (by omega)]; rfl
theorem row_put {X : List (List UInt8)} {i : Nat} (hi : i < X.length) (r : List UInt8) : rowD (doAll 0 X [.put i r]) i = rowD X i ++ r := by
  show rowD (X.set (0 + i) (rowD X (0 + i) ++ r)) i = _
  rw [Nat.zero_add, rowD_set hi, if_pos rfl]
theorem row_cut {X : List (List UInt8)} {i : Nat} (hi : i < X.length) (n : Nat) : rowD (doAll 0 X [.cut i n]) i = (rowD X i).take n := by
  show rowD (X.set (0 + i) ((rowD X (0 + i)).take n)) i = _
  rw [Nat.zero_add, rowD_set hi, if_pos rfl]
/-- What a put leaves, of a log that lives. -/
theorem putW_case {D : DkD} {i : Nat} {L : LgD} (h : StW D i (recsF 1 L.all) []) (hd : D.dead = false) (hlog : L.log = (i : Int)) (hL : L.dead = false) {b : List UInt8} (hb : b.length ≤ 4194304) (hroom : sizeL L.all + (20 + b.length) ≤ 16777216) :
    ((putW D L b).2.2 = 0 ∧ StW (putW D L b).1 i (recsF 1 (L.all ++ [b])) [] ∧ (putW D L b).1.dead = false ∧ (putW D L b).2.1 = ⟨i, L.all ++ [b], L.size + (20 + b.length), false⟩ ∧ (D.fuse = -1 → (putW D L b).1.fuse = -1)) ∨
    ((putW D L b).2.2 = 19 ∧ StW (putW D L b).1 i (recsF 1 L.all) [.put i (recB (L.all.length + 1) b)] ∧ D.fuse ≠ -1) := by
  have hrl := recB_len (L.all.length + 1) b
  have hsn : recsF 1 (L.all ++ [b]) = recsF 1 L.all ++ recB (L.all.length + 1) b := by rw [recsF_snoc, Nat.add_comm]
  rw [hsn]
  have e0 : putW D L b = (if (appendD D (i : Int) (recB (L.all.length + 1) b)).2 = 8 then ((appendD D (i : Int) (recB (L.all.length + 1) b)).1, L, 8) else
      if (stlD (appendD D (i : Int) (recB (L.all.length + 1) b)).1 (appendD D (i : Int) (recB (L.all.length + 1) b)).2).2 = 0 then
        ((stlD (appendD D (i : Int) (recB (L.all.length + 1) b)).1 (appendD D (i : Int) (recB (L.all.length + 1) b)).2).1, ⟨i, L.all ++ [b], L.size + (recB (L.all.length + 1) b).length, false⟩, 0)
      else ((stlD (appendD D (i : Int) (recB (L.all.length + 1) b)).1 (appendD D (i : Int) (recB (L.all.length + 1) b)).2).1, ⟨i, L.all, L.size, true⟩, 19)) := by
    unfold putW
    rw [if_neg (by rw [hL]; decide), if_neg (by omega), hlog]
  obtain ⟨r, hr⟩ : ∃ r, recB (L.all.length + 1) b = r := ⟨_, rfl⟩
  rw [hr] at e0 hrl ⊢
  have hrow : rowD D.X (16 + i) = recsF 1 L.all := by rw [← logB_nat]; exact h.read0
  have e1 : appendD D (i : Int) r = burnD (waitD D (.put i r)) := by
    unfold appendD
    rw [mayD_nat h.il, hd, Int.toNat_natCast, hrow, recsF_len, decide_eq_false (by omega)]
    rfl
  have hw := h.wait (s := .put i r) ⟨h.il, by rw [drop16, hrow, recsF_len]; omega⟩ h.il
  have hwd : (waitD D (.put i r)).dead = false := hd
  have hwf : (waitD D (.put i r)).fuse = D.fuse := rfl
  obtain ⟨E, hE⟩ : ∃ E, waitD D (.put i r) = E := ⟨_, rfl⟩
  rw [hE] at e1 hw hwd hwf
  rw [e1] at e0
  have key : ∀ F, StW F i (recsF 1 L.all) [.put i r] → F.dead = false → (D.fuse = -1 → F.fuse = -1) → (F.fuse = -1 → D.fuse = -1) → burnD E = (F, 0) →
      ((putW D L b).2.2 = 0 ∧ StW (putW D L b).1 i (recsF 1 L.all ++ r) [] ∧ (putW D L b).1.dead = false ∧ (putW D L b).2.1 = ⟨i, L.all ++ [b], L.size + (20 + b.length), false⟩ ∧ (D.fuse = -1 → (putW D L b).1.fuse = -1)) ∨
      ((putW D L b).2.2 = 19 ∧ StW (putW D L b).1 i (recsF 1 L.all) [.put i r] ∧ D.fuse ≠ -1) := by
    intro F hF hFd hf1 hf2 eF
    rw [eF] at e0
    rw [if_neg (show ¬ (0 : Int) = 8 by decide)] at e0
    have es : stlD F 0 = ((syncD F).1, if (syncD F).2 = 0 then 0 else 19) := by unfold stlD; rw [if_pos rfl]
    dsimp only at e0
    rw [es] at e0
    rcases hF.sync hFd with ⟨s1, s2, s3, s4⟩ | ⟨s1, s2, s3⟩
    · rw [s1] at e0
      rw [if_pos rfl] at e0
      have e2 : putW D L b = ((syncD F).1, ⟨i, L.all ++ [b], L.size + r.length, false⟩, 0) := by rw [e0]; rfl
      rw [e2, hrl]
      refine .inl ⟨rfl, ?_, s3, rfl, fun hh => s4 (hf1 hh)⟩
      have := s2
      rw [row_put (by rw [hF.wf.n]; have := h.il; omega), hF.r] at this
      exact this
    · rw [s1] at e0
      have e2 : putW D L b = ((syncD F).1, ⟨i, L.all, L.size, true⟩, 19) := by rw [e0]; rfl
      rw [e2]
      exact .inr ⟨rfl, s2, fun hh => s3 (hf1 hh)⟩
  rcases burn_case hw.wf with ⟨hf, e⟩ | ⟨hf, e⟩ | ⟨hf, e⟩
  · exact key E hw hwd (fun _ => hf) (fun _ => by rw [← hwf]; exact hf) e
  · have hb2 := hw.burn
    rw [e] at e0 hb2
    rw [if_neg (show ¬ (19 : Int) = 8 by decide)] at e0
    have e2 : putW D L b = ({ E with dead := true }, ⟨i, L.all, L.size, true⟩, 19) := by rw [e0]; rfl
    rw [e2]
    exact .inr ⟨rfl, hb2, by omega⟩
  · have hb2 := hw.burn
    rw [e] at hb2
    exact key _ hb2 hwd (fun hh => by omega) (fun hh => by (have h9 : E.fuse - 1 = -1 := hh); omega) e
/-- What a loss of power leaves. -/
theorem StW.crash {D : DkD} {i : Nat} {t : List UInt8} {V : List StD} (h : StW D i t V) (keep tear : Int) (k : Nat) (hk : (keep % ((D.W.length : Int) + 1)).toNat = k) : (crashD D keep tear).dead = false ∧ (crashD D keep tear).fuse = -1 ∧ StW (crashD D keep tear) i (rowD (tornD (settleD k D) tear).X i) [] := by
  refine ⟨rfl, rfl, crashD_wf h.wf _ _, h.il, ?_, rfl⟩
  have e : (crashD D keep tear).X = (tornD (settleD k D) tear).X.take 16 ++ (tornD (settleD k D) tear).X.take 16 := by rw [← hk]; rfl
  rw [e]
  have hl := (tornD_ok (settleD_wf h.wf k) tear).1
  unfold rowD
  rw [List.getD_eq_getElem?_getD, List.getD_eq_getElem?_getD, List.getElem?_append_left (by rw [List.length_take]; have := h.il; omega), List.getElem?_take_of_lt h.il]
theorem StW.crash0 {D : DkD} {i : Nat} {t : List UInt8} (h : StW D i t []) (keep tear : Int) : (crashD D keep tear).dead = false ∧ (crashD D keep tear).fuse = -1 ∧ StW (crashD D keep tear) i t [] := by
  obtain ⟨a, b, c⟩ := h.crash keep tear _ rfl
  refine ⟨a, b, ?_⟩
  have e : rowD (tornD (settleD (keep % ((D.W.length : Int) + 1)).toNat D) tear).X i = t := by
    have hw : (settleD (keep % ((D.W.length : Int) + 1)).toNat D).W = [] := by show D.W.drop _ = []; rw [h.w]; simp
    unfold tornD
    rw [hw]
    show rowD (doAll 0 D.X (D.W.take _)) i = t
    rw [h.w]
    simpa [doAll] using h.r
  rwa [e] at c
theorem StW.crashPut {D : DkD} {i : Nat} {t r : List UInt8} (h : StW D i t [.put i r]) (keep tear : Int) : (crashD D keep tear).dead = false ∧ (crashD D keep tear).fuse = -1 ∧ ∃ j, j ≤ r.length ∧ StW (crashD D keep tear) i (t ++ r.take j) [] := by
  have hl : D.W.length = 1 := by rw [h.w]; rfl
  have hi32 : i < D.X.length := by rw [h.wf.n]; have := h.il; omega
  have h0 := Int.emod_nonneg keep (show ((D.W.length : Int) + 1) ≠ 0 by omega)
  have h1 := Int.emod_lt_of_pos keep (show 0 < ((D.W.length : Int) + 1) by omega)
  obtain ⟨k, hk⟩ : ∃ k, (keep % ((D.W.length : Int) + 1)).toNat = k := ⟨_, rfl⟩
  obtain ⟨a, b, c⟩ := h.crash keep tear k hk
  refine ⟨a, b, ?_⟩
  have hk2 : k = 0 ∨ k = 1 := by omega
  rcases hk2 with rfl | rfl
  · refine ⟨(tear % ((r.length : Int) + 1)).toNat, ?_, ?_⟩
    · have h2 := Int.emod_nonneg tear (show ((r.length : Int) + 1) ≠ 0 by omega)
      have h3 := Int.emod_lt_of_pos tear (show 0 < ((r.length : Int) + 1) by omega)
      omega
    · have e : rowD (tornD (settleD 0 D) tear).X i = t ++ r.take (tear % ((r.length : Int) + 1)).toNat := by
        have hw : (settleD 0 D).W = [.put i r] := by show D.W.drop 0 = _; rw [h.w]; rfl
        unfold tornD
        rw [hw]
        show rowD (D.X.set i (rowD D.X i ++ r.take (tear % ((r.length : Int) + 1)).toNat)) i = _
        rw [rowD_set hi32, if_pos rfl, h.r]
      rwa [e] at c
  · refine ⟨r.length, Nat.le_refl _, ?_⟩
    have e : rowD (tornD (settleD 1 D) tear).X i = t ++ r.take r.length := by
      have hw : (settleD 1 D).W = [] := by show D.W.drop 1 = _; rw [h.w]; rfl
      unfold tornD
      rw [hw]
      show rowD (doAll 0 D.X (D.W.take 1)) i = _
      rw [h.w]
      show rowD (doAll 0 D.X [.put i r]) i = _
      rw [row_put hi32, h.r, List.take_length]
    rwa [e] at c
theorem StW.crashCut {D : DkD} {i n : Nat} {t : List UInt8} (h : StW D i t [.cut i n]) (keep tear : Int) : (crashD D keep tear).dead = false ∧ (crashD D keep tear).fuse = -1 ∧ (StW (crashD D keep tear) i t [] ∨ StW (crashD D keep tear) i (t.take n) []) := by
  have hl : D.W.length = 1 := by rw [h.w]; rfl
  have hi32 : i < D.X.length := by rw [h.wf.n]; have := h.il; omega
  have h0 := Int.emod_nonneg keep (show ((D.W.length : Int) + 1) ≠ 0 by omega)
  have h1 := Int.emod_lt_of_pos keep (show 0 < ((D.W.length : Int) + 1) by omega)
  obtain ⟨k, hk⟩ : ∃ k, (keep % ((D.W.length : Int) + 1)).toNat = k := ⟨_, rfl⟩
  obtain ⟨a, b, c⟩ := h.crash keep tear k hk
  refine ⟨a, b, ?_⟩
  have hk2 : k = 0 ∨ k = 1 := by omega
  rcases hk2 with rfl | rfl
  · refine .inl ?_
    have e : rowD (tornD (settleD 0 D) tear).X i = t := by
      have hw : (settleD 0 D).W = [.cut i n] := by show D.W.drop 0 = _; rw [h.w]; rfl
      unfold tornD
      rw [hw]
      exact h.r
    rwa [e] at c
  · refine .inr ?_
    have e : rowD (tornD (settleD 1 D) tear).X i = t.take n := by
      have hw : (settleD 1 D).W = [] := by show D.W.drop 1 = _; rw [h.w]; rfl
      unfold tornD
      rw [hw]
      show rowD (doAll 0 D.X (D.W.take 1)) i = _
      rw [h.w]
      show rowD (doAll 0 D.X [.cut i n]) i = _
      rw [row_cut hi32, h.r]
    rwa [e] at c
theorem newD_st {i : Nat} (hi : i < 16) : StW newD i [] [] := by
  refine ⟨newD_wf, hi, ?_, rfl⟩
  unfold rowD newD
  rw [List.getD_eq_getElem?_getD, List.getElem?_replicate]
  split <;> rfl
/-- What an opening leaves. -/
theorem openD_case {D : DkD} {i : Nat} {L : List (List UInt8)} {t : List UInt8} (h : StW D i (recsF 1 L ++ t) []) (hd : D.dead = false) (hL : ∀ x ∈ L, x.length ≤ 4194304) (ht : stepR (L.length + 1) t = none) :
    scanB (logB D (i : Int)) = L ∧ (((openD D (i : Int)).2 = 0 ∧ (StW (openD D (i : Int)).1 i (recsF 1 L) [] ∨ (t = [] ∧ openD D (i : Int) = (D, 0))) ∧ (openD D (i : Int)).1.dead = false ∧ (D.fuse = -1 → (openD D (i : Int)).1.fuse = -1)) ∨
      ((openD D (i : Int)).2 ≠ 0 ∧ D.fuse ≠ -1 ∧ StW (openD D (i : Int)).1 i (recsF 1 L ++ t) [.cut i (recsF 1 L).length])) := by
  have hlog : logB D (i : Int) = recsF 1 L ++ t := h.read0
  have hsc : scanB (logB D (i : Int)) = L := by rw [hlog]; exact scanB_recs hL ht
  refine ⟨hsc, ?_⟩
  have e0 : openD D (i : Int) = if (recsF 1 L).length < (recsF 1 L ++ t).length then stlD (cutD D (i : Int) ((recsF 1 L).length : Int)).1 (cutD D (i : Int) ((recsF 1 L).length : Int)).2 else (D, 0) := by
    unfold openD
    rw [mayD_nat h.il, if_pos rfl, hsc, hlog, ← recsF_len L 1]
  by_cases hlt : t = []
  · subst hlt
    rw [List.append_nil, if_neg (Nat.lt_irrefl _)] at e0
    rw [e0]
    exact .inl ⟨rfl, .inr ⟨rfl, rfl⟩, hd, fun hh => hh⟩
  · have hl0 : 0 < t.length := List.length_pos_iff.2 hlt
    rw [if_pos (by rw [List.length_append]; omega)] at e0
    obtain ⟨n, hn⟩ : ∃ n, (recsF 1 L).length = n := ⟨_, rfl⟩
    rw [hn] at e0 ⊢
    have hrow : rowD D.X (16 + i) = recsF 1 L ++ t := by rw [← logB_nat]; exact hlog
    have e1 : cutD D (i : Int) (n : Int) = burnD (waitD D (.cut i n)) := by
      unfold cutD
      rw [mayD_nat h.il, hd, Int.toNat_natCast, hrow, decide_eq_true (by omega), decide_eq_true (by rw [List.length_append, hn]; omega), Int.toNat_natCast]
      rfl
    have hw := h.wait (s := .cut i n) ⟨h.il, by rw [drop16, hrow, List.length_append, hn]; omega⟩ h.il
    have hwd : (waitD D (.cut i n)).dead = false := hd
    have hwf : (waitD D (.cut i n)).fuse = D.fuse := rfl
    obtain ⟨E, hE⟩ : ∃ E, waitD D (.cut i n) = E := ⟨_, rfl⟩
    rw [hE] at e1 hw hwd hwf
    rw [e1] at e0
    have key : ∀ F, StW F i (recsF 1 L ++ t) [.cut i n] → F.dead = false → (D.fuse = -1 → F.fuse = -1) → burnD E = (F, 0) →
        (((openD D (i : Int)).2 = 0 ∧ (StW (openD D (i : Int)).1 i (recsF 1 L) [] ∨ (t = [] ∧ openD D (i : Int) = (D, 0))) ∧ (openD D (i : Int)).1.dead = false ∧ (D.fuse = -1 → (openD D (i : Int)).1.fuse = -1)) ∨
        ((openD D (i : Int)).2 ≠ 0 ∧ D.fuse ≠ -1 ∧ StW (openD D (i : Int)).1 i (recsF 1 L ++ t) [.cut i n])) := by
      intro F hF hFd hf1 eF
      rw [eF] at e0
      have es : stlD F 0 = ((syncD F).1, if (syncD F).2 = 0 then 0 else 19) := by unfold stlD; rw [if_pos rfl]
      dsimp only at e0
      rw [es] at e0
      rcases hF.sync hFd with ⟨s1, s2, s3, s4⟩ | ⟨s1, s2, s3⟩
      · rw [s1, if_pos rfl] at e0
        rw [e0]
        refine .inl ⟨rfl, .inl ?_, s3, fun hh => s4 (hf1 hh)⟩
        have := s2
        rw [row_cut (by rw [hF.wf.n]; have := h.il; omega), hF.r, ← hn, List.take_left] at this
        exact this
      · rw [s1, if_neg (by decide)] at e0
        rw [e0]
        exact .inr ⟨(show (19 : Int) ≠ 0 by decide), fun hh => s3 (hf1 hh), s2⟩
    rcases burn_case hw.wf with ⟨hf, e⟩ | ⟨hf, e⟩ | ⟨hf, e⟩
    · exact key E hw hwd (fun _ => hf) e
    · have hb2 := hw.burn
      rw [e] at e0 hb2
      have es : stlD { E with dead := true } 19 = ({ E with dead := true }, 19) := by unfold stlD; rw [if_neg (by decide)]
      dsimp only at e0
      rw [es] at e0
      rw [e0]
      exact .inr ⟨(show (19 : Int) ≠ 0 by decide), by omega, hb2⟩
    · have hb2 := hw.burn
      rw [e] at hb2
      exact key _ hb2 hwd (fun hh => by omega) e
end Go.Proofs.YthamlphebnhcpaaDoor

namespace Go.Proofs.YthamlphebnhcpaaDoor
open Go.RowKit

/-- A disk in new memory. -/
structure DiskW (W0 w : World) (d : Nat) (dm : DkM) : Prop where
  k : DkOk w d dm
  wf : DkWf dm.d
  n : ∀ j, foot d dm j → W0.heap.size ≤ j
  v : Below W0.heap.size W0 w
theorem DiskW.to {W0 w w' : World} {d : Nat} {dm dm' : DkM} (h : DiskW W0 w d dm) (t : DkTo w d dm w' dm') (wf : DkWf dm'.d) : DiskW W0 w' d dm' :=
  ⟨t.ok, wf, fun j hj => (t.ft j hj).elim (h.n j) (fun h1 => Nat.le_trans h.v.size h1), h.v.trans (t.k.below h.v.size (fun j hj hf => by have := h.n j hf; omega))⟩
/-- A disk and its log in new memory. -/
structure LogW (W0 w : World) (d : Nat) (dm : DkM) (q : Nat) (m : WlM) : Prop where
  p : PairW w d dm q m
  n : ∀ j, foot d dm j ∨ footW q m j → W0.heap.size ≤ j
  v : Below W0.heap.size W0 w
theorem LogW.to {W0 w w' : World} {d q : Nat} {dm dm' : DkM} {m m' : WlM} (h : LogW W0 w d dm q m) (t : WlTo w d dm q m w' dm' m') : LogW W0 w' d dm' q m' :=
  ⟨t.ok, fun j hj => (t.ft j hj).elim (h.n j) (fun h1 => Nat.le_trans h.v.size h1), h.v.trans (t.k.below h.v.size (fun j hj hf => by have := h.n j hf; omega))⟩
theorem LogW.disk {W0 w : World} {d q : Nat} {dm : DkM} {m : WlM} (h : LogW W0 w d dm q m) : DiskW W0 w d dm := ⟨h.p.k, h.p.wf, fun j hj => h.n j (.inl hj), h.v⟩
theorem LogW.below {W0 w w' : World} {d q : Nat} {dm : DkM} {m : WlM} (h : LogW W0 w d dm q m) (b : Below w.heap.size w w') : LogW W0 w' d dm q m := h.to (WlTo.below h.p b)
theorem DiskW.below {W0 w w' : World} {d : Nat} {dm : DkM} (h : DiskW W0 w d dm) (b : Below w.heap.size w w') : DiskW W0 w' d dm := h.to (DkTo.below h.k b) h.wf
/-- A log that lives, with these batches. -/
structure AliveW (W0 w : World) (d : Nat) (dm : DkM) (q : Nat) (m : WlM) (i : Nat) (L : List (List UInt8)) : Prop where
  l : LogW W0 w d dm q m
  st : StW dm.d i (recsF 1 L) []
  dd : dm.d.dead = false
  md : m.d = ⟨i, L, sizeL L, false⟩
theorem AliveW.W0 {W0 w : World} {d q i : Nat} {dm : DkM} {m : WlM} {L : List (List UInt8)} (h : AliveW W0 w d dm q m i L) : dm.W.length = 0 := by rw [DkM.wlen, h.st.w]; rfl
theorem AliveW.rows {W0 w : World} {d q i : Nat} {dm : DkM} {m : WlM} {L : List (List UInt8)} (h : AliveW W0 w d dm q m i L) : m.rows.map (·.l) = L := congrArg LgD.all h.md
theorem AliveW.below {W0 w w' : World} {d q i : Nat} {dm : DkM} {m : WlM} {L : List (List UInt8)} (h : AliveW W0 w d dm q m i L) (b : Below w.heap.size w w') : AliveW W0 w' d dm q m i L := ⟨h.l.below b, h.st, h.dd, h.md⟩
theorem AliveW.off {W0 w : World} {d q i : Nat} {dm : DkM} {m : WlM} {L : List (List UInt8)} (h : AliveW W0 w d dm q m i L) {j : Nat} (hj : w.heap.size ≤ j) : ¬ (foot d dm j ∨ footW q m j) := fun h1 => by
  rcases h1 with h1 | h1
  · have := h.l.p.k.foot_lt h1; omega
  · have := h.l.p.l.foot_lt h1; omega
theorem openD_wf {D : DkD} (h : DkWf D) (log : Int) : DkWf (openD D log).1 := by
  unfold openD
  split
  · split
    · exact stlD_wf (cutD_wf' h _ _) _
    · exact h
  · exact h
/-- An opening, of a log whose bytes are these records, and something torn. -/
theorem open_law (W0 w : World) (hT : Tabs w) (d : Nat) (dm : DkM) (h : DiskW W0 w d dm) (i : Nat) (L : List (List UInt8)) (t : List UInt8) (st : StW dm.d i (recsF 1 L ++ t) []) (hd : dm.d.dead = false) (hL : ∀ x ∈ L, x.length ≤ 4194304) (ht : stepR (L.length + 1) t = none) :
    Calls Tryd.prog 8 #[.pointer (some ⟨d, 0, none⟩), .int .i64 (i : Int)] w fun e w' => ∃ dm', DiskW W0 w' d dm' ∧ Below W0.heap.size W0 w' ∧
      ((∃ q m, e = .returned (.tuple #[.pointer (some ⟨q, 0, none⟩), .int .i64 0]) ∧ AliveW W0 w' d dm' q m i L ∧ (dm.d.fuse = -1 → dm'.d.fuse = -1)) ∨
       (∃ n, n ≠ 0 ∧ e = .returned (.tuple #[.pointer none, .int .i64 n]) ∧ dm.d.fuse ≠ -1 ∧ StW dm'.d i (recsF 1 L ++ t) [.cut i (recsF 1 L).length])) := by
  refine (open_any w hT d dm h.k h.wf (by rw [DkM.wlen, st.w]; exact Nat.zero_le _) (i : Int)).mono ?_
  rintro e w' ⟨dm', hd', ht', hr⟩
  have hD : DiskW W0 w' d dm' := h.to ht' (by rw [hd']; exact openD_wf h.wf _)
  refine ⟨dm', hD, hD.v, ?_⟩
  obtain ⟨hsc, hc⟩ := openD_case st hd hL ht
  rcases hr with ⟨hne, rfl⟩ | ⟨h0, q, m, rfl, ho⟩
  · rcases hc with ⟨c0, _⟩ | ⟨c0, c1, c2⟩
    · exact absurd c0 hne
    · exact .inr ⟨_, hne, rfl, c1, by rw [hd']; exact c2⟩
  · rcases hc with ⟨c0, c1, c2, c3⟩ | ⟨c0, _⟩
    · refine .inl ⟨q, m, rfl, ⟨⟨ho.ok, fun j hj => ?_, hD.v⟩, ?_, by rw [hd']; exact c2, ?_⟩, fun hf => by rw [hd']; exact c3 hf⟩
      · rcases hj with hj | hj
        · exact hD.n j hj
        · exact Nat.le_trans h.v.size (ho.n j (.inl hj))
      · rw [hd']
        rcases c1 with c1 | ⟨c1, c4⟩
        · exact c1
        · rw [c4]
          have := st
          rw [c1, List.append_nil] at this
          exact this
      · show (⟨m.log, m.rows.map (·.l), m.size, m.dead⟩ : LgD) = _
        rw [ho.lg, ho.l, ho.z, ho.dd, hsc]
    · exact absurd h0 c0
/-- A put, of a log that lives. -/
theorem put_law (W0 w : World) (hT : Tabs w) (d : Nat) (dm : DkM) (q : Nat) (m : WlM) (i : Nat) (L : List (List UInt8)) (h : AliveW W0 w d dm q m i L) (A : Option Addr) (c : Nat) (b : List UInt8) (hS : Sees w w.heap.size A b) (hbc : b.length ≤ c) (hb : b.length ≤ 4194304)
    (hroom : sizeL L + (20 + b.length) ≤ 16777216) (hoff : b ≠ [] → ∀ a, A = some a → ¬ (foot d dm a.block ∨ footW q m a.block)) :
    Calls Tryd.prog 16 #[.pointer (some ⟨q, 0, none⟩), .slice A b.length c] w fun e w' => ∃ dm' m', LogW W0 w' d dm' q m' ∧ Below W0.heap.size W0 w' ∧
      ((e = .returned (.int .i64 0) ∧ AliveW W0 w' d dm' q m' i (L ++ [b]) ∧ (dm.d.fuse = -1 → dm'.d.fuse = -1)) ∨
       (e = .returned (.int .i64 19) ∧ dm.d.fuse ≠ -1 ∧ StW dm'.d i (recsF 1 L) [.put i (recB (L.length + 1) b)])) := by
  have hll := sizeL_len L
  have hmz : m.size = sizeL L := congrArg LgD.size h.md
  have hrl : m.rows.length = L.length := by rw [← h.rows, List.length_map]
  refine (put_anyW w hT d dm q m h.l.p (by rw [h.W0]; omega) (by omega) (by omega) A c b hS hbc (by omega) hoff).mono ?_
  rintro e w' ⟨rfl, dm', m', hd', hm', ht'⟩
  have hl' : LogW W0 w' d dm' q m' := h.l.to ht'
  refine ⟨dm', m', hl', hl'.v, ?_⟩
  have e1 : m.d.all = L := congrArg LgD.all h.md
  have e2 : m.d.log = (i : Int) := congrArg LgD.log h.md
  have e3 : m.d.dead = false := congrArg LgD.dead h.md
  have e4 : m.d.size = sizeL L := congrArg LgD.size h.md
  rcases putW_case (L := m.d) (by rw [e1]; exact h.st) h.dd e2 e3 hb (by rw [e1]; exact hroom) with ⟨a1, a2, a3, a4, a5⟩ | ⟨a1, a2, a3⟩
  · rw [a1]
    refine .inl ⟨rfl, ⟨hl', by rw [hd', ← e1]; exact a2, by rw [hd']; exact a3, ?_⟩, fun hf => by rw [hd']; exact a5 hf⟩
    rw [hm', a4, e1, e4, sizeL_snoc]
  · rw [a1]
    exact .inr ⟨rfl, a3, by rw [hd', ← e1]; exact a2⟩
theorem num_any (w : World) (n : Int) : Calls Tryd.prog 10 #[.int .i64 n] w fun e w' => e = .returned (.int .i64 n) ∧ w' = w := by
  go_enter Tryd.func10, Tryd.ntmps10
  go_wp2
  go_ret
  exact ⟨rfl, rfl⟩
theorem newDisk_law (w : World) : Calls Tryd.prog 6 #[] w fun e w' => ∃ d, e = .returned (.pointer (some ⟨d, 0, none⟩)) ∧ DiskW w w' d newM := by
  refine (new_any w).mono ?_
  rintro e w' ⟨g, rfl, hg, hok, hb⟩
  exact ⟨g, rfl, hok, by rw [newM_d]; exact newD_wf, fun j hj => by rw [newM_foot g j hj]; exact hg, hb⟩

set_option maxHeartbeats 4000000 in
set_option maxRecDepth 100000 in
theorem wknown_any (w : World) (hT : Tabs w) : Calls Tryd.prog 5 #[] w fun e w' => e = .returned (.bool true) ∧ Below w.heap.size w w' := by
  have HT := Lib.hid hT
  clear hT
  have kc := fun (w : World) (C : Array Value) (n c : Nat) => Lib.run_convert_bytes_const (P := Tryd.prog) w 39 5 C n c Tryd.underlying39 Tryd.underlying5
  go_enter Tryd.func5, Tryd.ntmps5
  go_upto_region 3 with (first
    | (go_at_call 6; refine (newDisk_law w).mono ?_; rintro e w1 ⟨d, rfl, hd⟩; have D1 := Lib.hid hd; clear hd)
    | (go_at_call 8; refine (open_law w w1 (HT.out.later D1.out.v) d newM D1.out 0 [] [] (by rw [newM_d]; exact newD_st (by omega)) (by rw [newM_d]; rfl) (fun x hx => by cases hx) rfl).mono ?_; rintro e w2 ⟨dm2, hd2, hv2, ⟨q, m2, rfl, ha2, hf2⟩ | ⟨n, hn, rfl, hf, hs⟩⟩))
  rotate_left 1
  · exact absurd (by rw [newM_d]; rfl) hf
  have F2 : Hid (dm2.d.fuse = -1) := hf2 (by rw [newM_d]; rfl)
  have AL2 := Lib.hid ha2
  have T2 : Hid (Tabs w2) := HT.out.later hv2
  have VA2 : Hid (Below w2.heap.size w2 (w2.alloc (.cells (By [97]).toArray 5 (1, 2)))) := nxAlloc (nxRefl w2) _
  have SA2 : Hid (Sees (w2.alloc (.cells (By [97]).toArray 5 (1, 2))) (w2.alloc (.cells (By [97]).toArray 5 (1, 2))).heap.size (some ⟨w2.heap.size, 0, none⟩) [97]) := (Sees.litM w2 [97] 5 (1, 2)).more (by simp)
  clear hd2 hv2 ha2 hf2 D1
  go_upto_region 5 with (first
    | (go_at_call 16; (with_reducible show Calls _ _ _ (w2.alloc _) _); refine (put_law w (w2.alloc (.cells (By [97]).toArray 5 (1, 2))) (T2.out.later VA2.out) d dm2 q m2 0 [] (AL2.out.below VA2.out) (some ⟨w2.heap.size, 0, none⟩) 1 [97] SA2.out (by decide) (by decide) (by decide) (fun _ a ha => by injection ha with ha; subst ha; exact AL2.out.off (Nat.le_refl _))).mono ?_; rintro e w3 ⟨dm3, m3, -, hv3, h3⟩; have AL3 : Hid (AliveW w w3 d dm3 q m3 0 [[97]] ∧ dm3.d.fuse = -1 ∧ e = .returned (.int .i64 0)) := (h3.elim (fun h => ⟨h.2.1, h.2.2 F2.out, h.1⟩) (fun h => absurd F2.out h.2.1)); (obtain rfl := AL3.out.2.2); (have T3 : Hid (Tabs w3) := HT.out.later hv3); (have VA3 : Hid (Below w3.heap.size w3 (w3.alloc (.cells (By [98]).toArray 5 (1, 2)))) := nxAlloc (nxRefl w3) _); (have SA3 : Hid (Sees (w3.alloc (.cells (By [98]).toArray 5 (1, 2))) (w3.alloc (.cells (By [98]).toArray 5 (1, 2))).heap.size (some ⟨w3.heap.size, 0, none⟩) [98]) := (Sees.litM w3 [98] 5 (1, 2)).more (by simp)); clear hv3 h3)
    | (go_at_call 16; (with_reducible show Calls _ _ _ (w3.alloc _) _); refine (put_law w (w3.alloc (.cells (By [98]).toArray 5 (1, 2))) (T3.out.later VA3.out) d dm3 q m3 0 [[97]] (AL3.out.1.below VA3.out) (some ⟨w3.heap.size, 0, none⟩) 1 [98] SA3.out (by decide) (by decide) (by decide) (fun _ a ha => by injection ha with ha; subst ha; exact AL3.out.1.off (Nat.le_refl _))).mono ?_; rintro e w4 ⟨dm4, m4, -, hv4, h4⟩; have AL4 : Hid (AliveW w w4 d dm4 q m4 0 [[97], [98]] ∧ dm4.d.fuse = -1 ∧ e = .returned (.int .i64 0)) := (h4.elim (fun h => ⟨h.2.1, h.2.2 AL3.out.2.1, h.1⟩) (fun h => absurd AL3.out.2.1 h.2.1)); (obtain rfl := AL4.out.2.2); clear hv4 h4)
    | (go_at_call 17; refine (crash_any w4 d dm4 AL4.out.1.l.p.k AL4.out.1.l.p.wf (by rw [AL4.out.1.W0]; omega) 0 0).mono ?_; unfold CrPost; rintro e w5 ⟨rfl, dm5, ht5, hd5⟩; have D5 : Hid (DiskW w w5 d dm5) := AL4.out.1.l.disk.to ht5 (by rw [hd5]; exact crashD_wf AL4.out.1.l.p.wf _ _); (have C5 : Hid ((crashD dm4.d 0 0).dead = false ∧ (crashD dm4.d 0 0).fuse = -1 ∧ StW (crashD dm4.d 0 0) 0 (recsF 1 [[97], [98]]) []) := AL4.out.1.st.crash0 0 0); have E5 := Lib.hid hd5; clear ht5 hd5)
    | (go_at_call 10; refine (num_any _ _).mono ?_; rintro e wn ⟨rfl, hwn⟩; obtain rfl := hwn.symm))
  go_upto_region 6 with (first
    | (go_at_call 8; refine (open_law w w5 (HT.out.later D5.out.v) d dm5 D5.out 0 [[97], [98]] [] (by rw [E5.out, List.append_nil]; exact C5.out.2.2) (by rw [E5.out]; exact C5.out.1) (fun x hx => by simp at hx; rcases hx with rfl | rfl <;> decide) rfl).mono ?_; rintro e w6 ⟨dm6, -, hv6, h6⟩; obtain ⟨q6, m6, he6, ha6⟩ : ∃ q6 m6, e = .returned (.tuple #[.pointer (some ⟨q6, 0, none⟩), .int .i64 0]) ∧ AliveW w w6 d dm6 q6 m6 0 [[97], [98]] := (h6.elim (fun ⟨q6, m6, h1, h2, _⟩ => ⟨q6, m6, h1, h2⟩) (fun ⟨n, _, _, hf, _⟩ => absurd (by rw [E5.out]; exact C5.out.2.1) hf)); subst he6; have V6 := Lib.hid hv6; have AL6 := Lib.hid ha6; clear hv6 ha6 h6))
  have HL2 : Hid (m6.rows.length = 2) := by have := congrArg List.length AL6.out.rows; rw [List.length_map] at this; exact this
  have VB : Hid (Below w6.heap.size w6 (((w6.alloc (.cells #[.int .u8 97] 5)).alloc (.cells #[.int .u8 98] 5)).alloc (.cells #[.slice (some ⟨w6.heap.size, 0, none⟩) 1 1, .slice (some ⟨w6.heap.size + 1, 0, none⟩) 1 1] 39))) := nxAlloc (nxAlloc (nxAlloc (nxRefl w6) _) _) _
  have SB1 : Hid (Sees (((w6.alloc (.cells #[.int .u8 97] 5)).alloc (.cells #[.int .u8 98] 5)).alloc (.cells #[.slice (some ⟨w6.heap.size, 0, none⟩) 1 1, .slice (some ⟨w6.heap.size + 1, 0, none⟩) 1 1] 39)) (((w6.alloc (.cells #[.int .u8 97] 5)).alloc (.cells #[.int .u8 98] 5)).alloc (.cells #[.slice (some ⟨w6.heap.size, 0, none⟩) 1 1, .slice (some ⟨w6.heap.size + 1, 0, none⟩) 1 1] 39)).heap.size (some ⟨w6.heap.size, 0, none⟩) [97]) := Sees.blkW (l := [97]) (((Blk.newAt rfl rfl : Blk (w6.alloc (.cells #[.int .u8 97] 5)) w6.heap.size 5 #[.int .u8 97]).alloc _).alloc _)
  have SB2 : Hid (Sees (((w6.alloc (.cells #[.int .u8 97] 5)).alloc (.cells #[.int .u8 98] 5)).alloc (.cells #[.slice (some ⟨w6.heap.size, 0, none⟩) 1 1, .slice (some ⟨w6.heap.size + 1, 0, none⟩) 1 1] 39)) (((w6.alloc (.cells #[.int .u8 97] 5)).alloc (.cells #[.int .u8 98] 5)).alloc (.cells #[.slice (some ⟨w6.heap.size, 0, none⟩) 1 1, .slice (some ⟨w6.heap.size + 1, 0, none⟩) 1 1] 39)).heap.size (some ⟨w6.heap.size + 1, 0, none⟩) [98]) := Sees.blkW (l := [98]) ((Blk.newAt (by simp) rfl : Blk ((w6.alloc (.cells #[.int .u8 97] 5)).alloc (.cells #[.int .u8 98] 5)) (w6.heap.size + 1) 5 #[.int .u8 98]).alloc _)
  have WB : Hid (WantW (((w6.alloc (.cells #[.int .u8 97] 5)).alloc (.cells #[.int .u8 98] 5)).alloc (.cells #[.slice (some ⟨w6.heap.size, 0, none⟩) 1 1, .slice (some ⟨w6.heap.size + 1, 0, none⟩) 1 1] 39)) (((w6.alloc (.cells #[.int .u8 97] 5)).alloc (.cells #[.int .u8 98] 5)).alloc (.cells #[.slice (some ⟨w6.heap.size, 0, none⟩) 1 1, .slice (some ⟨w6.heap.size + 1, 0, none⟩) 1 1] 39)).heap.size (some ⟨w6.heap.size + 1 + 1, 0, none⟩) [⟨some ⟨w6.heap.size, 0, none⟩, 1, [97]⟩, ⟨some ⟨w6.heap.size + 1, 0, none⟩, 1, [98]⟩]) := by
    refine ⟨?_, fun r hr => ?_⟩
    · exact SeesV.blk (cs := #[.slice (some ⟨w6.heap.size, 0, none⟩) 1 1, .slice (some ⟨w6.heap.size + 1, 0, none⟩) 1 1]) (Blk.newAt (by simp) rfl)
    · simp only [List.mem_cons, List.not_mem_nil, or_false] at hr
      rcases hr with rfl | rfl
      · exact SB1.out
      · exact SB2.out
  have HSm := wsame_any (((w6.alloc (.cells #[.int .u8 97] 5)).alloc (.cells #[.int .u8 98] 5)).alloc (.cells #[.slice (some ⟨w6.heap.size, 0, none⟩) 1 1, .slice (some ⟨w6.heap.size + 1, 0, none⟩) 1 1] 39)) q6 d m6 (AL6.out.below VB.out).l.p.l (fun r hr => by
    have h1 : r.l ∈ m6.rows.map (·.l) := List.mem_map.2 ⟨r, hr, rfl⟩
    rw [AL6.out.rows] at h1
    simp only [List.mem_cons, List.not_mem_nil, or_false] at h1
    rcases h1 with h1 | h1 <;> rw [h1] <;> decide) (by rw [HL2.out]; decide) (some ⟨w6.heap.size + 1 + 1, 0, none⟩) 2 [⟨some ⟨w6.heap.size, 0, none⟩, 1, [97]⟩, ⟨some ⟨w6.heap.size + 1, 0, none⟩, 1, [98]⟩] WB.out (by show 2 ≤ 1000000000; decide) 0
  rw [AL6.out.rows] at HSm
  have hsv : sameB [[97], [98]] (List.map (fun x : RowM => x.l) [⟨some ⟨w6.heap.size, 0, none⟩, 1, [97]⟩, ⟨some ⟨w6.heap.size + 1, 0, none⟩, 1, [98]⟩]) 0 0 = true := by rw [sameB_eq]; rfl
  rw [hsv] at HSm
  have HSm2 := Lib.hid HSm
  have HLn := wlen_any w6 q6 d m6 AL6.out.l.p.l
  rw [HL2.out] at HLn
  have HLn2 := Lib.hid HLn
  have VW : Hid (Below w.heap.size w (((w6.alloc (.cells #[.int .u8 97] 5)).alloc (.cells #[.int .u8 98] 5)).alloc (.cells #[.slice (some ⟨w6.heap.size, 0, none⟩) 1 1, .slice (some ⟨w6.heap.size + 1, 0, none⟩) 1 1] 39))) := nxTrD V6.out VB.out
  clear HSm hsv HLn
  go_wp2_with (first
    | (go_at_call 10; refine (num_any _ _).mono ?_; rintro e wn ⟨rfl, hwn⟩; obtain rfl := hwn.symm)
    | (go_at_call 12; refine HLn2.out.mono ?_; rintro e wn ⟨rfl, hwn⟩; obtain rfl := hwn.symm)
    | (go_at_call 15; refine HSm2.out.mono ?_; rintro e w7 ⟨rfl, hb7⟩; have V7 := Lib.hid hb7; clear hb7))
  go_ret
  exact ⟨rfl, nxTrD VW.out V7.out⟩
end Go.Proofs.YthamlphebnhcpaaDoor
