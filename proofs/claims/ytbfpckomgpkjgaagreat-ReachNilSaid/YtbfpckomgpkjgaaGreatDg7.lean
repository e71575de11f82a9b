/-
  dag: hashes, each once, rising: Sorted.
-/
import Derived.Test.YtbfpckomgpkjgaaGreatPRnQ11
namespace Go.Proofs.YtbfpckomgpkjgaaGreat
open Go.RowKit Go.Maps

theorem Tryz.dinfoH : (Tryz.prog.info? 23).map (fun i => (i.zero, i.size, i.bytes)) = some (some (.agg (By zero32).toArray), 32, 32) := by kernel_rfl
theorem dSnil {P : Program} (w : World) (t e : TypeId) (a : Option Addr) (n c : Nat) (h : P.underlying t = some (.slice e)) :
    (binOp .eql t (.slice a n c) (.slice none 0 0)).run P w = .ok (.bool a.isNone) w := by
  simp only [binOp]
  simp [Op.equal, Op.maxDepth, Lib.run_equalIn_slice_nil w 9999 t e a n c 0 0 h]

theorem hsC_nil {l : List Hh} (h : hsC l = []) : l = [] := by
  have := hsC_len l
  rw [h] at this
  exact List.eq_nil_of_length_eq_zero (by simp at this; omega)
set_option maxHeartbeats 1000000 in
set_option maxRecDepth 100000 in
theorem dclone_any (w : World) (A : Option Addr) (l : List Hh) (c : Nat) (hS : SeesV w w.heap.size A (hsC l)) (hmax : l.length ≤ 1000000) :
    Calls Tryz.prog 52 #[.slice A l.length c] w fun e w' => ∃ A' c', e = .returned (.slice A' l.length c') ∧ w'.ownsRow w.heap.size 23 32 (.slice A' l.length c') l.length (hsC l) ∧ Below w.heap.size w w' := by
  rcases A with _ | ad
  · have h0 : hsC l = [] := by
      rcases hS with h | ⟨b, off, h, _⟩
      · exact h
      · cases h
    obtain rfl := hsC_nil h0
    clear hmax hS h0
    have hq : (binOp .eql 33 (.slice none 0 c) (.slice none 0 0)).run Tryz.prog w = .ok (.bool true) w := dSnil w 33 23 none 0 c Tryz.underlying33
    go_enter Tryz.func52, Tryz.ntmps52
    go_wp2
    go_ret
    exact ⟨none, 0, rfl, ⟨rfl, .inl ⟨rfl, rfl⟩⟩, nxRefl w⟩
  · have hO : Hid ((w.alloc (.cells #[] 23)).ownsRow w.heap.size 23 32 (.slice (some ⟨w.heap.size, 0, none⟩) 0 0) 0 []) := own_made (cs := []) (heap_alloc_new w _) (Nat.le_refl _) (Nat.le_refl _) (by unfold maxLen; omega) rfl
    have HS : Hid (SeesV (w.alloc (.cells #[] 23)) (w.alloc (.cells #[] 23)).heap.size (some ad) (hsC l)) := (hS.alloc _).more (by simp)
    have HL : Hid ((hsC l).length = l.length * 32) := hsC_len l
    have HM := Lib.hid hmax
    obtain ⟨i0, hi0, hz0, hz1, hz2⟩ := info_parts Tryz.dinfoH
    have hq : (binOp .eql 33 (.slice (some ad) l.length c) (.slice none 0 0)).run Tryz.prog w = .ok (.bool false) w := dSnil w 33 23 (some ad) l.length c Tryz.underlying33
    clear hS hmax
    go_enter Tryz.func52, Tryz.ntmps52
    go_wp2_with (first
      | ((with_reducible show wpList _ _ _ (⟨some 7, _, _, _, _, _⟩ :: _) _ _); (show wpList _ _ _ _ _ (w.alloc (.cells #[] 23))); refine wpList_append_seesV rfl (.tmp 5) (.tmp 6) 33 rfl w.heap.size 23 i0 _ 32 32 Tryz.underlying33 hi0 hz0 hz1 hz2 rfl (by decide) (.slice (some ⟨w.heap.size, 0, none⟩) 0 0) 0 [] rfl hO.out _ (some ad) l.length c (hsC l) rfl HL.out HS.out (hsC_one l) (by have := HM.out; omega) (by have := HM.out; omega) (by simp) ?_; intro v' w' ho hg hv; obtain ⟨A', c', rfl⟩ := own_form ho; have HO := Lib.hid ho; have HG : Hid (Below w.heap.size w w') := (nxAlloc (nxRefl w) _).grown hg (nxAlloc (nxRefl w) _).size (fun j hj => by have hj2 : w.heap.size = j := Option.some.inj hj; omega); clear ho hg hv))
    go_ret
    have ho := HO.out
    simp only [Nat.zero_add, List.nil_append] at ho
    exact ⟨A', c', by simp, ho, HG.out⟩

/-- One more, behind a row of which each stands once. -/
theorem cmpctH_snoc : ∀ (l : List Hh) (x y : Hh), cmpctH (l ++ [x, y]) = if x = y then cmpctH (l ++ [x]) else cmpctH (l ++ [x]) ++ [y]
  | [], x, y => by
    simp only [List.nil_append, cmpctH]
    by_cases h : x = y <;> simp [h]
  | [a], x, y => by
    have ih := cmpctH_snoc [] x y
    simp only [List.nil_append] at ih
    simp only [List.cons_append, List.nil_append]
    rw [cmpctH, ih]
    conv => rhs; rw [cmpctH]
    by_cases h : x = y <;> by_cases h2 : a = x <;> simp [h, h2]
    all_goals (try (subst h)) <;> simp_all
  | a :: b :: l, x, y => by
    have ih := cmpctH_snoc (b :: l) x y
    simp only [List.cons_append] at ih ⊢
    rw [cmpctH, ih]
    conv => rhs; rw [cmpctH]
    by_cases h : x = y <;> by_cases h2 : a = b <;> simp [h, h2]
theorem cmpct_take (l : List Hh) (j : Nat) (h0 : 0 < j) (h : j < l.length) : cmpctH (l.take (j + 1)) = if l[j] = l[j - 1] then cmpctH (l.take j) else cmpctH (l.take j) ++ [l[j]] := by
  obtain ⟨i, rfl⟩ : ∃ i, j = i + 1 := ⟨j - 1, by omega⟩
  have e1 : l.take (i + 1) = l.take i ++ [l[i]] := List.take_succ_eq_append_getElem (by omega)
  have e2 : l.take (i + 1 + 1) = l.take i ++ [l[i], l[i + 1]] := by rw [List.take_succ_eq_append_getElem h, e1, List.append_assoc]; rfl
  rw [e2, cmpctH_snoc, e1]
  simp only [Nat.add_sub_cancel]
  by_cases e : l[i] = l[i + 1]
  · rw [if_pos e, if_pos e.symm]
  · rw [if_neg e, if_neg (fun k => e k.symm)]
theorem cmpct_len_take (l : List Hh) : ∀ j, j ≤ l.length → (cmpctH (l.take j)).length ≤ j := by
  intro j
  induction j with
  | zero => intro _; simp [cmpctH]
  | succ j ih =>
    intro h
    by_cases h0 : 0 < j
    · rw [cmpct_take l j h0 (by omega)]
      have := ih (by omega)
      split
      · omega
      · simp; omega
    · obtain rfl : j = 0 := by omega
      cases l with
      | nil => simp [cmpctH]
      | cons a r => simp [cmpctH]
section
variable {P : Program}
theorem quiet_eql_hash {C : World → Prop} {op : Oper} {a : Act} {K : Act → Prop} (t e : TypeId) (x y : Operand) (ho : op.op = .binOp .eql t x y t) (ht : P.underlying t = some (.array 32 e)) (he : P.underlying e = some (.int .u8)) (hs : (P.info? e).map (·.size) = some 1) (hg : P.eqGuardType P.depth t = false)
    (l k : Hh) (hx : a.eval x = .agg (hC l).toArray) (hy : a.eval y = .agg (hC k).toArray) (h : K (a.put op.dst (.bool (l == k)))) : op.quiet P a C K := by
  refine ⟨_, fun w hw => ?_, h⟩
  unfold Oper.quietAt execOp
  have hq : (eqGuard .eql t x y (.agg (hC l).toArray) (.agg (hC k).toArray)).run P w = .ok () w := by simp [eqGuard, hg]
  have e : (l == k) = (l.1 == k.1) := by rw [Bool.eq_iff_iff, beq_iff_eq, beq_iff_eq]; exact ⟨fun h => by rw [h], fun h => Subtype.ext h⟩
  simp only [ho, hx, hy, Sem.run_bind, Sem.run_pure, Result.andThen_ok, hq]
  unfold hC
  rw [run_eql_bytes 32 t _ ht he hs l.1 k.1 l.2 k.2, e]
  exact ⟨rfl, rfl⟩
theorem quiet_neq_hash {C : World → Prop} {op : Oper} {a : Act} {K : Act → Prop} (t e : TypeId) (x y : Operand) (ho : op.op = .binOp .neq t x y t) (ht : P.underlying t = some (.array 32 e)) (he : P.underlying e = some (.int .u8)) (hs : (P.info? e).map (·.size) = some 1) (hg : P.eqGuardType P.depth t = false)
    (l k : Hh) (hx : a.eval x = .agg (hC l).toArray) (hy : a.eval y = .agg (hC k).toArray) (h : K (a.put op.dst (.bool (!(l == k))))) : op.quiet P a C K := by
  refine ⟨_, fun w hw => ?_, h⟩
  unfold Oper.quietAt execOp
  have hq : (eqGuard .neq t x y (.agg (hC l).toArray) (.agg (hC k).toArray)).run P w = .ok () w := by simp [eqGuard, hg]
  have e : (l == k) = (l.1 == k.1) := by rw [Bool.eq_iff_iff, beq_iff_eq, beq_iff_eq]; exact ⟨fun h => by rw [h], fun h => Subtype.ext h⟩
  simp only [ho, hx, hy, Sem.run_bind, Sem.run_pure, Result.andThen_ok, hq]
  unfold hC
  rw [run_neq_bytes 32 t _ ht he hs l.1 k.1 l.2 k.2, e]
  exact ⟨rfl, rfl⟩
end
theorem Tryz.deqgH : Tryz.prog.eqGuardType Tryz.prog.depth 23 = false := by kernel_rfl
theorem sees_hash {w : World} {B : Nat} {A : Option Addr} {l : List Hh} (h : SeesV w B A (hsC l)) {i : Nat} (hi : i < l.length) : ∃ b off, A = some ⟨b, off, none⟩ ∧ b < B ∧ ∀ j (hj : j < l.length), w.rangeAt b (off + j * 32) (hC l[j]) := by
  obtain ⟨b, off, hA, hb, hc⟩ := h.at_ (k := i * 32) (by rw [hsC_len]; omega)
  refine ⟨b, off, hA, hb, fun j hj k v hk => ?_⟩
  have hk' : k < 32 := by have := (List.getElem?_eq_some_iff.1 hk).1; rw [hC_len] at this; exact this
  have hlt : j * 32 + k < (hsC l).length := by rw [hsC_len]; omega
  have h1 := hc (j * 32 + k) hlt
  have h2 := hsC_get l j k hj hk'
  rw [List.getElem?_eq_getElem hlt, hk] at h2
  rw [Nat.add_assoc, h1]
  exact h2
/-- An own row that holds something. -/
theorem own_blk1 {w : World} {base n c : Nat} {A : Option Addr} {l : List Hh} (h : w.ownsRow base 23 32 (.slice A n c) n (hsC l)) (hn : 0 < n) : ∃ g cs, A = some ⟨g, 0, none⟩ ∧ base ≤ g ∧ Blk w g 23 cs ∧ n ≤ c ∧ c ≤ maxLen ∧ cs.size = c * 32 ∧ cs.toList.take (n * 32) = hsC l ∧ n = l.length := by
  have hl := h.1
  rw [hsC_len] at hl
  rcases h.2 with ⟨hv, h0⟩ | ⟨g, cap, cs, hv, hb, hh, hnc, hcm, hcs, ht⟩
  · omega
  · injection hv with hA _ hc
    subst hc
    exact ⟨g, cs, hA, hb, hh, hnc, hcm, hcs, ht, by omega⟩
theorem blk_hash {w : World} {g : Nat} {t : TypeId} {cs : Array Value} {l : List Hh} (hB : Blk w g t cs) (h : cs.toList.take (l.length * 32) = hsC l) {j : Nat} (hj : j < l.length) : w.rangeAt g (j * 32) (hC l[j]) := by
  intro k v hk
  have hk' : k < 32 := by have := (List.getElem?_eq_some_iff.1 hk).1; rw [hC_len] at this; exact this
  have h2 := hsC_get l j k hj hk'
  rw [hk, ← h, List.getElem?_take, if_pos (by omega)] at h2
  rw [hB.cell]
  simpa using h2
theorem run_clear_hash {w : World} {g o n c : Nat} {cs : Array Value} (ty : TypeId) (hb : Blk w g 23 cs) (hn : 0 < n) (hs : o + n * 32 ≤ cs.size) :
    ∃ vs : List Value, vs.length = n * 32 ∧ (Builtin.clear_ #[33] ty #[.slice (some ⟨g, o, none⟩) n c]).run Tryz.prog w = .ok (.tuple #[]) (w.setCells g o vs) := by
  have hz : ∀ w, (zeroValue 23).run Tryz.prog w = .ok (.agg (By zero32).toArray) w := fun w => by kernel_rfl
  have hl : (Builtin.zeroCells (By zero32).toArray n).toList.length = n * 32 := by simp [Builtin.zeroCells, By_length, zero32]
  have hv : ∀ v ∈ (Builtin.zeroCells (By zero32).toArray n).toList, v.oneCell' = true := fun v h => by
    simp only [Builtin.zeroCells, Array.toList_map, List.mem_map] at h
    obtain ⟨i, _, rfl⟩ := h
    have h2 : i % (By zero32).toArray.size < (By zero32).toArray.size := Nat.mod_lt _ (by simp [By_length, zero32])
    rw [getElem!_pos (By zero32).toArray _ h2]
    exact By_one zero32 _ (by simp)
  refine ⟨(Builtin.zeroCells (By zero32).toArray n).toList, hl, ?_⟩
  have hst := run_storeCells_cells (P := Tryz.prog) g o (Builtin.zeroCells (By zero32).toArray n).toList 0 w (fun j hj => by rw [Nat.add_zero, hb.cell]; rw [hl] at hj; rw [Array.getElem?_eq_getElem (by omega)]; rfl) (fun j _ => hb.frozen _) hv
  simp only [Nat.add_zero] at hst
  obtain ⟨m, rfl⟩ : ∃ m, n = m + 1 := ⟨n - 1, by omega⟩
  have hcl : (Value.agg (By zero32).toArray).cells = (By zero32).toArray := rfl
  simp [Builtin.clear_, run_underlying Tryz.underlying33, hz, hcl, hst]
theorem hsC_append (l m : List Hh) : hsC (l ++ m) = hsC l ++ hsC m := by simp [hsC]
theorem hsC_set {X : List Hh} {k : Nat} (h : k < X.length) (a : Hh) : hsC (X.set k a) = (hsC X).take (k * 32) ++ hC a ++ (hsC X).drop (k * 32 + 32) := by
  have e1 : X = X.take k ++ X[k] :: X.drop (k + 1) := by rw [List.getElem_cons_drop, List.take_append_drop]
  have e2 : X.set k a = X.take k ++ a :: X.drop (k + 1) := by rw [List.set_eq_take_append_cons_drop, if_pos h]
  have hl : (hsC (X.take k)).length = k * 32 := by rw [hsC_len, List.length_take]; omega
  have e3 : hsC X = hsC (X.take k) ++ (hC X[k] ++ hsC (X.drop (k + 1))) := by
    conv => lhs; rw [e1]
    rw [hsC_append]; rfl
  rw [e2, hsC_append]
  have e4 : hsC (a :: X.drop (k + 1)) = hC a ++ hsC (X.drop (k + 1)) := rfl
  have e5 : (hsC X).take (k * 32) = hsC (X.take k) := by rw [e3, List.take_left' hl]
  have e6 : (hsC X).drop (k * 32 + 32) = hsC (X.drop (k + 1)) := by
    rw [e3, ← List.append_assoc, List.drop_left' (by rw [List.length_append, hl, hC_len])]
  rw [e4, e5, e6, List.append_assoc]
theorem take_part {xs ca : List Value} {o m : Nat} (hc : ca.length = 32) (h1 : o + 32 ≤ m) (h2 : m ≤ xs.length) : (xs.take o ++ ca ++ xs.drop (o + 32)).take m = (xs.take m).take o ++ ca ++ (xs.take m).drop (o + 32) := by
  have hl : (xs.take o ++ ca).length = o + 32 := by rw [List.length_append, List.length_take, hc]; omega
  rw [List.take_append, List.take_of_length_le (by omega), hl, List.take_take, Nat.min_eq_left (by omega), List.drop_take]
/-- Between two rounds. -/
structure CmI (w : World) (g c : Nat) (l : List Hh) (k0 kk j : Nat) (wr : World) : Prop where
  x : ∃ X cs, Blk wr g 23 cs ∧ cs.size = c * 32 ∧ cs.toList.take (X.length * 32) = hsC X ∧ X.length = l.length ∧ X.take kk = cmpctH (l.take (k0 + j)) ∧ X.drop (k0 + j - 1) = l.drop (k0 + j - 1)
  k : Keeps (fun i => i = g) w wr
set_option maxHeartbeats 4000000 in
set_option maxRecDepth 100000 in
/-- Compact of a row of the call's own. -/
theorem compact_any (w : World) (base c : Nat) (A : Option Addr) (l : List Hh) (h : w.ownsRow base 23 32 (.slice A l.length c) l.length (hsC l)) (hmax : l.length ≤ 1000000) :
    Calls Tryz.prog 70 #[.slice A l.length c] w fun e w' => e = .returned (.slice A (cmpctH l).length c) ∧ w'.ownsRow base 23 32 (.slice A (cmpctH l).length c) (cmpctH l).length (hsC (cmpctH l)) ∧ Keeps (fun k => A.map Addr.block = some k) w w' := by
  by_cases h2 : l.length < 2
  · have e : cmpctH l = l := by
      match l, h2 with
      | [], _ => rfl
      | [_], _ => rfl
      | _ :: _ :: _, h => simp at h; omega
    rw [e]
    have H := Lib.hid h
    generalize hk : l.length = k at *
    clear h e hk
    go_enter Tryz.func70, Tryz.ntmps70
    go_wp2
    go_ret
    exact ⟨rfl, H.out, Keeps.refl _ _⟩
  · obtain ⟨g, cs, rfl, hb, hB, hnc, hcm, hcs, ht, _⟩ := own_blk1 h (by omega)
    have HB := Lib.hid hB
    have HT := Lib.hid ht
    have HBs := Lib.hid hb
    have HCs := Lib.hid hcs
    have HCm := Lib.hid hcm
    have HO := Lib.hid h
    have hz32 := Tryz.dsizeH
    clear hB ht hb hcs hcm h
    go_enter Tryz.func70, Tryz.ntmps70
    go_wp2
    go_loopw [3] (fun iv wr => ∃ k : Nat, 1 ≤ k ∧ k ≤ l.length ∧ iv = .int .i64 k ∧ (∃ q, wr = w.drewN q) ∧ Hid (cmpctH (l.take k) = l.take k)) (fun iv _ => l.length - (intOf iv).toNat)
    case atStart => exact ⟨1, by omega, by omega, rfl, ⟨0, rfl⟩, by show _ = _; cases l with | nil => rfl | cons a r => rfl⟩
    case round =>
      obtain ⟨k, hk1, hk, rfl, ⟨q0, rfl⟩, HC⟩ := hrel
      by_cases hlt : k < l.length
      · have HR0 := Lib.hid (blk_hash HB.out HT.out hlt)
        have HR1 := Lib.hid (blk_hash HB.out HT.out (show k - 1 < l.length by omega))
        have Z0 := Lib.hid (hszL l[k])
        have Z1 := Lib.hid (hszL l[k - 1])
        have HS := Lib.hid (cmpct_take l k (by omega) hlt)
        obtain ⟨x, hx⟩ : ∃ x, l[k] = x := ⟨_, rfl⟩
        have hk1l : k - 1 < l.length := by omega
        obtain ⟨y, hy⟩ : ∃ y : Hh, l[k - 1] = y := ⟨l[k - 1], rfl⟩
        rw [hx] at HR0 Z0 HS
        rw [hy] at HR1 Z1 HS
        have hk64 : (k : Int) - 1 = ((k - 1 : Nat) : Int) := by omega
        go_wp2
        refine wp_region_quiet_lit (by kernel_rfl) (by kernel_rfl) ?_
        repeat (go_big_quiet_step (fail))
        go_big_quiet_want
        refine quiet_load_mid 23 (.tmp 18) rfl g (k * 32) rfl (hC x) _ (fun w' hw' => by obtain ⟨q, rfl⟩ := hw'; exact HR0.out) Tryz.underlying23 rfl Z0.out ?_
        go_big_quiet_on
        try simp only [Act.put, List.setIfInBounds_toArray, List.set_cons_zero, List.set_cons_succ]
        repeat (go_big_quiet_step (fail))
        go_big_quiet_want
        refine quiet_load_mid 23 (.tmp 23) rfl g ((k - 1) * 32) rfl (hC y) _ (fun w' hw' => by obtain ⟨q, rfl⟩ := hw'; exact HR1.out) Tryz.underlying23 rfl Z1.out ?_
        go_big_quiet_on
        try simp only [Act.put, List.setIfInBounds_toArray, List.set_cons_zero, List.set_cons_succ]
        repeat (go_big_quiet_step (fail))
        go_big_quiet_want
        refine quiet_eql_hash 23 5 (.tmp 19) (.tmp 24) rfl Tryz.underlying23 Tryz.underlying5 Tryz.u8size Tryz.deqgH x y rfl rfl ?_
        go_big_quiet_on
        try simp only [Act.put, List.setIfInBounds_toArray, List.set_cons_zero, List.set_cons_succ]
        refine wpQuiet_nil ?_
        intro _ hw'
        obtain ⟨nq, rfl⟩ := hw'
        by_cases hxy : x = y
        · have hbq : (x == y) = true := by rw [hxy]; exact beq_self_eq_true _
          have HSx := HS.out
          rw [if_pos hxy, HC.out] at HSx
          have HSy := Lib.hid HSx
          rw [hbq]
          have e0 : (w.drewN q0).drewN nq = w.drewN (q0 + nq) := by simp
          have K0 : Hid (Keeps (fun i => i = g) w ((w.drewN q0).drewN nq)) := ⟨rfl, rfl, rfl, Nat.le_refl _, fun _ _ _ => rfl⟩
          have B0 : Hid (Blk ((w.drewN q0).drewN nq) g 23 cs) := HB.out
          generalize (w.drewN q0).drewN nq = W at *
          clear HSx HR0 HR1 e0 hbq Z0 Z1 HS
          have I0 : Hid (CmI w g c l k k 1 W) := ⟨⟨l, cs, B0.out, HCs.out, HT.out, rfl, HSy.out.symm, by rw [Nat.add_sub_cancel]⟩, K0.out⟩
          clear K0 B0 HSy
          go_wp2
          go_loopw [3, 5] (fun kv jv wr => ∃ kk j : Nat, k ≤ kk ∧ 1 ≤ j ∧ j ≤ l.length - k ∧ kk + 1 ≤ k + j ∧ kv = .int .i64 kk ∧ jv = .int .i64 j ∧ Hid (CmI w g c l k kk j wr)) (fun _ jv _ => l.length - k - (intOf jv).toNat)
          case atStart => exact ⟨k, 1, by omega, by omega, by omega, by omega, rfl, rfl, I0.out⟩
          case round =>
            clear I0
            obtain ⟨kk, j, hkk, hj1, hj, hkj, rfl, rfl, HI⟩ := hrel
            obtain ⟨⟨X, xs, hXB, hXs, hXt, hXl, hXk, hXd⟩, hXK⟩ := HI.out
            by_cases hjl : j < l.length - k
            · have hkj1 : k + j < X.length := by omega
              have hkj2 : k + j - 1 < X.length := by omega
              have hkj3 : k + j < l.length := by omega
              have hkj4 : k + j - 1 < l.length := by omega
              have ea : X[k + j - 1] = l[k + j - 1] := by
                have h1 : (X.drop (k + j - 1))[0]? = (l.drop (k + j - 1))[0]? := by rw [hXd]
                rw [List.getElem?_drop, List.getElem?_drop, Nat.add_zero, List.getElem?_eq_getElem hkj2, List.getElem?_eq_getElem hkj4] at h1
                exact Option.some.inj h1
              have eb : X[k + j] = l[k + j] := by
                have h1 : (X.drop (k + j - 1))[1]? = (l.drop (k + j - 1))[1]? := by rw [hXd]
                have e3 : k + j - 1 + 1 = k + j := by omega
                rw [List.getElem?_drop, List.getElem?_drop, e3, List.getElem?_eq_getElem hkj1, List.getElem?_eq_getElem hkj3] at h1
                exact Option.some.inj h1
              have hr0 := blk_hash hXB hXt hkj1
              have hr1 := blk_hash hXB hXt hkj2
              rw [eb] at hr0
              rw [ea] at hr1
              have hs := cmpct_take l (k + j) (by omega) hkj3
              obtain ⟨a, haa⟩ : ∃ a : Hh, l[k + j] = a := ⟨l[k + j], rfl⟩
              obtain ⟨b, hbb⟩ : ∃ b : Hh, l[k + j - 1] = b := ⟨l[k + j - 1], rfl⟩
              rw [haa] at hr0 hs
              rw [hbb] at hr1 hs
              have e5 : k * 32 + j * 32 = (k + j) * 32 := by omega
              have e6 : k * 32 + (j - 1) * 32 = (k + j - 1) * 32 := by omega
              rw [← e5] at hr0
              rw [← e6] at hr1
              have R0 := Lib.hid hr0
              have R1 := Lib.hid hr1
              have Z0 := Lib.hid (hszL a)
              have Z1 := Lib.hid (hszL b)
              have HSS := Lib.hid hs
              have HA9 := Lib.hid haa
              have hj64 : (j : Int) - 1 = ((j - 1 : Nat) : Int) := by omega
              have hsub : ((l.length : Int) - (k : Int)) = ((l.length - k : Nat) : Int) := by omega
              clear hr0 hr1 hs ea eb haa hbb e5 e6 hXB hXt hXk hXd hXK hXs
              go_wp2
              refine wp_region_quiet_lit (by kernel_rfl) (by kernel_rfl) ?_
              repeat (go_big_quiet_step (fail))
              go_big_quiet_want
              refine quiet_load_mid 23 (.tmp 37) rfl g (k * 32 + j * 32) rfl (hC a) _ (fun w' hw' => by obtain ⟨q, rfl⟩ := hw'; exact R0.out) Tryz.underlying23 rfl Z0.out ?_
              go_big_quiet_on
              try simp only [Act.put, List.setIfInBounds_toArray, List.set_cons_zero, List.set_cons_succ]
              repeat (go_big_quiet_step (fail))
              go_big_quiet_want
              refine quiet_load_mid 23 (.tmp 42) rfl g (k * 32 + (j - 1) * 32) rfl (hC b) _ (fun w' hw' => by obtain ⟨q, rfl⟩ := hw'; exact R1.out) Tryz.underlying23 rfl Z1.out ?_
              go_big_quiet_on
              try simp only [Act.put, List.setIfInBounds_toArray, List.set_cons_zero, List.set_cons_succ]
              repeat (go_big_quiet_step (fail))
              go_big_quiet_want
              refine quiet_neq_hash 23 5 (.tmp 38) (.tmp 43) rfl Tryz.underlying23 Tryz.underlying5 Tryz.u8size Tryz.deqgH a b rfl rfl ?_
              go_big_quiet_on
              try simp only [Act.put, List.setIfInBounds_toArray, List.set_cons_zero, List.set_cons_succ]
              refine wpQuiet_nil ?_
              intro _ hw'
              obtain ⟨nq2, rfl⟩ := hw'
              have I2 : Hid (CmI w g c l k kk j (wr.drewN nq2)) := ⟨HI.out.x, HI.out.k.trans ⟨rfl, rfl, rfl, Nat.le_refl _, fun _ _ _ => rfl⟩⟩
              have R2 : Hid ((wr.drewN nq2).rangeAt g (k * 32 + j * 32) (hC a)) := R0.out
              clear R0 R1 HI
              generalize wr.drewN nq2 = wq at *
              by_cases hab : a = b
              · have hbq2 : (!(a == b)) = false := by rw [hab, beq_self_eq_true]; rfl
                rw [hbq2]
                have hs2 := HSS.out
                rw [if_pos hab] at hs2
                have HS2 := Lib.hid hs2
                clear hbq2 hs2 HSS
                go_wp2
                go_roundw
                case rel =>
                  refine ⟨kk, j + 1, by omega, by omega, by omega, by omega, rfl, by go_num, ?_⟩
                  obtain ⟨⟨X, xs, hXB, hXs, hXt, hXl, hXk, hXd⟩, hXK⟩ := I2.out
                  refine ⟨⟨X, xs, hXB, hXs, hXt, hXl, ?_, ?_⟩, hXK⟩
                  · rw [hXk, ← HS2.out, Nat.add_assoc]
                  · have h1 := congrArg (List.drop 1) hXd
                    rw [List.drop_drop, List.drop_drop] at h1
                    have e3 : k + (j + 1) - 1 = 1 + (k + j - 1) := by omega
                    rw [e3, Nat.add_comm 1]
                    exact h1
                case measure => simp [intOf] <;> omega
              · have hbq2 : (!(a == b)) = true := by rw [beq_eq_false_iff_ne.2 hab]; rfl
                rw [hbq2]
                have hs2 := HSS.out
                rw [if_neg hab] at hs2
                have HS2 := Lib.hid hs2
                clear hbq2 hs2 HSS
                obtain ⟨⟨X, xs, hXB, hXs, hXt, hXl, hXk, hXd⟩, hXK⟩ := I2.out
                have HXB := Lib.hid hXB
                have HXs := Lib.hid hXs
                have HXt := Lib.hid hXt
                have HXk := Lib.hid hXk
                have HXd := Lib.hid hXd
                have HXK := Lib.hid hXK
                have Zb := Lib.hid (hszB a)
                have hkl : kk < l.length := by omega
                have HF : Hid (kk * 32 + (hC a).toArray.size ≤ xs.size) := by show _ ≤ _; rw [List.size_toArray, hC_len, HXs.out]; omega
                clear hXB hXs hXt hXk hXd hXK I2
                go_wp2_with (first
                  | ((with_reducible show wpList _ _ _ (⟨some 50, _, _, _, _, _⟩ :: _) _ _); refine wpList_load_mid rfl 23 (.tmp 49) rfl g (k * 32 + j * 32) rfl (hC a) _ R2.out Tryz.underlying23 rfl Z0.out ?_)
                  | ((with_reducible show wpList _ _ _ (⟨none, .store 23 _ _, _, _, _, _⟩ :: _) _ _); refine wpList_store_partD rfl 23 (.tmp 51) (.tmp 50) rfl g (kk * 32) 23 xs (hC a).toArray _ (.agg (hC a).toArray) rfl rfl rfl HXB.out HF.out Zb.out (hC_one a) rfl ?_; intro w5 h5 h6 h7; have B5 := Lib.hid h5; have K5 := Lib.hid h6; clear h5 h6 h7))
                go_roundw
                case rel =>
                  refine ⟨kk + 1, by omega, j + 1, by omega, by omega, by omega, by omega, by omega, ?_⟩
                  have hs9 := HXs.out
                  have hb5 := B5.out
                  rw [List.size_toArray, hC_len] at hb5
                  refine ⟨⟨X.set kk a, _, hb5, ?_, ?_, by rw [List.length_set]; exact hXl, ?_, ?_⟩, HXK.out.trans K5.out⟩
                  · simp [hC_len, hs9]; omega
                  · rw [List.length_set, hsC_set (by omega), ← HXt.out]
                    exact take_part (by rw [hC_len]) (by omega) (by simp [hs9]; omega)
                  · rw [← Nat.add_assoc, HS2.out, ← HXk.out, List.take_succ_eq_append_getElem (by rw [List.length_set]; omega), List.getElem_set_self, List.take_set_of_le (Nat.le_refl _)]
                  · have h1 := congrArg (List.drop 1) HXd.out
                    rw [List.drop_drop, List.drop_drop] at h1
                    have e3 : k + (j + 1) - 1 = k + j - 1 + 1 := by omega
                    rw [e3, List.drop_set_of_lt (by omega)]
                    exact h1
                case measure => simp [intOf] <;> omega
            · obtain rfl : j = l.length - k := by omega
              have HXB := Lib.hid hXB
              have HXs := Lib.hid hXs
              have HXt := Lib.hid hXt
              have HXK := Lib.hid hXK
              have hck : k + (l.length - k) = l.length := by omega
              rw [hck, List.take_length] at hXk
              have HXk := Lib.hid hXk
              have hsub : ((l.length : Int) - (k : Int)) = ((l.length - k : Nat) : Int) := by omega
              have hkl : kk < l.length := by omega
              obtain ⟨vs, hvl, hcl⟩ := run_clear_hash (n := l.length - kk) (o := kk * 32) (c := c - kk) 33 hXB (by omega) (by rw [hXs]; omega)
              have hcl2 : ∀ ty, (Builtin.clear_ #[33] ty #[.slice (some ⟨g, kk * 32, none⟩) (l.length - kk) (c - kk)]).run Tryz.prog wr = .ok (.tuple #[]) (wr.setCells g (kk * 32) vs) := fun ty => hcl
              have HVl := Lib.hid hvl
              clear hXB hXs hXt hXk hXd hXK HI hcl hck hvl
              go_wp2
              go_ret
              have hlen : (cmpctH l).length = kk := by rw [← HXk.out, List.length_take]; omega
              rw [hlen]
              refine ⟨rfl, ⟨by rw [hsC_len, hlen], .inr ⟨g, c, _, rfl, HBs.out, blk_setCells vs _ _ _ HXB.out, by omega, HCm.out, by rw [setMany_size]; exact HXs.out, ?_⟩⟩, (HXK.out.trans (keeps_setCells vs _ _)).mono fun i _ e => by rw [e]; rfl⟩
              have hl2 : (hsC (cmpctH l)).length = kk * 32 := by rw [hsC_len, hlen]
              rw [← hl2]
              refine take_of_get (by rw [setMany_size, HXs.out, hl2]; omega) fun i hi => ?_
              rw [hl2] at hi
              rw [setMany_get _ _ _ _ (.inl (by rw [hl2]; exact hi))]
              have h3 : (xs.toList.take (X.length * 32))[i]? = (hsC X)[i]? := by rw [HXt.out]
              rw [List.getElem?_take, if_pos (by omega)] at h3
              have h4 : (hsC X)[i]? = (hsC (cmpctH l))[i]? := by
                rw [← HXk.out]
                conv => lhs; rw [← List.take_append_drop kk X]
                rw [hsC_append, List.getElem?_append_left (by rw [HXk.out, hl2]; exact hi)]
              have hi2 : i < (hsC (cmpctH l)).length := by rw [hl2]; exact hi
              rw [h4, List.getElem?_eq_getElem (l := hsC (cmpctH l)) hi2] at h3
              simpa using h3
        · have hbq : (x == y) = false := beq_eq_false_iff_ne.2 hxy
          have HSx := HS.out
          rw [if_neg hxy, HC.out] at HSx
          have HSy := Lib.hid HSx
          rw [hbq]
          go_wp2
          go_roundw
          case rel => exact ⟨k + 1, by omega, by omega, by go_num, ⟨q0 + nq, by simp⟩, by show _ = _; rw [HSy.out, ← hx]; exact (List.take_succ_eq_append_getElem hlt).symm⟩
          case measure => simp [intOf] <;> omega
      · obtain rfl : k = l.length := by omega
        have hC := HC.out
        rw [List.take_length] at hC
        have HCx := Lib.hid hC
        clear hC
        go_wp2
        go_ret
        rw [HCx.out]
        exact ⟨rfl, (⟨rfl, rfl, rfl, Nat.le_refl _, fun _ _ _ => rfl⟩ : Keeps (fun _ => False) w (w.drewN q0)).own HO.out (fun _ _ h => h), ⟨rfl, rfl, rfl, Nat.le_refl _, fun _ _ _ => rfl⟩⟩
/-- What Sorted answers. -/
def SortPost (w : World) (l : List Hh) (e : Ending) (w' : World) : Prop := ∃ A c, e = .returned (.slice A (risH l).length c) ∧ w'.ownsRow w.heap.size 23 32 (.slice A (risH l).length c) (risH l).length (hsC (risH l)) ∧ Below w.heap.size w w'
set_option maxHeartbeats 1000000 in
set_option maxRecDepth 100000 in
theorem sorted_any (w : World) (A : Option Addr) (l : List Hh) (c : Nat) (hS : SeesV w w.heap.size A (hsC l)) (hmax : l.length ≤ 1000000) :
    Calls Tryz.prog 38 #[.slice A l.length c] w (SortPost w l) := by
  unfold SortPost
  have HC := Lib.hid (dclone_any w A l c hS hmax)
  have HM := Lib.hid hmax
  have hp : (srtH l).length = l.length := (srtH_perm l).length_eq
  have HP := Lib.hid hp
  have HR := Lib.hid (cmpct_srt l)
  clear hS hmax hp
  obtain ⟨n, hn⟩ : ∃ n, l.length = n := ⟨_, rfl⟩
  rw [hn] at HC HM HP
  have HN : Hid (n = l.length) := hn.symm
  rw [hn]
  clear hn
  obtain ⟨r, hr⟩ : ∃ r, risH l = r := ⟨_, rfl⟩
  rw [hr] at HR ⊢
  clear hr
  go_enter Tryz.func38, Tryz.ntmps38
  go_wp2_with (first
    | (go_at_call 52; refine HC.out.mono ?_; rintro e1 w1 ⟨A1, c1, rfl, ho1, hb1⟩; have O1 := Lib.hid ho1; have V1 := Lib.hid hb1; clear ho1 hb1)
    | (go_at_call 68; refine (sort_any w1 w.heap.size n c1 A1 l HN.out O1.out (by have := HM.out; omega)).mono ?_; rintro e2 w2 ⟨rfl, ho2, hk2⟩; have O2 := Lib.hid ho2; have V2 : Hid (Below w.heap.size w w2) := V1.out.trans (hk2.below V1.out.size (fun k hk e => by have := (own_blk O1.out e).1; omega)); clear ho2 hk2)
    | (go_at_call 70; (have hcc := compact_any w2 w.heap.size c1 A1 (srtH l) (by rw [HP.out]; exact O2.out) (by rw [HP.out]; exact HM.out)); rw [HP.out, HR.out] at hcc; refine hcc.mono ?_; rintro e3 w3 ⟨rfl, ho3, hk3⟩; have O3 := Lib.hid ho3; have V3 : Hid (Below w.heap.size w w3) := V2.out.trans (hk3.below V2.out.size (fun k hk e => by have := (own_blk O2.out e).1; omega)); clear ho3 hk3))
  go_ret
  exact ⟨A1, c1, rfl, O3.out, V3.out⟩
end Go.Proofs.YtbfpckomgpkjgaaGreat
