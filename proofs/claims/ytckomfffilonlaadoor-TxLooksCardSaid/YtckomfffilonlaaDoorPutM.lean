/-
  Parts that are put to a message.
-/
import Derived.Test.YtckomfffilonlaaDoorMsg
import Derived.Test.YtckomfffilonlaaDoorZ32
namespace Go.Proofs.YtckomfffilonlaaDoor
open Go.RowKit

/-- A whole array loaded, as one operation; one stored. -/
def loadS (v : Value) : Sem Next := do pure (.value (← Instr.loadAt 89 v))
def loadK (v : Value) : Sem Next := do pure (.value (← Instr.loadAt 91 v))
theorem execOp_loadS (ρ : Operand → Value) (dst : Option Tmp) (x : Operand) (ty : TypeId) (pos : String) (after : Array Edge) (guard : Option (Nat × Bool)) :
    execOp ρ { dst, op := .load 89 x, type := ty, pos, after, guard } = loadS (ρ x) := rfl
theorem execOp_loadK (ρ : Operand → Value) (dst : Option Tmp) (x : Operand) (ty : TypeId) (pos : String) (after : Array Edge) (guard : Option (Nat × Bool)) :
    execOp ρ { dst, op := .load 91 x, type := ty, pos, after, guard } = loadK (ρ x) := rfl
def storeS (v u : Value) : Sem Next := do Instr.storeAt 89 v u; pure .skip
theorem execOp_storeS (ρ : Operand → Value) (dst : Option Tmp) (x y : Operand) (ty : TypeId) (pos : String) (after : Array Edge) (guard : Option (Nat × Bool)) :
    execOp ρ { dst, op := .store 89 x y, type := ty, pos, after, guard } = storeS (ρ x) (ρ y) := rfl
theorem run_loadS {w : World} {g : Nat} {t : TypeId} {s : S8} {blk : List UInt8} {n : Nat} (hb : Blk w g t (MsgC s blk n).toArray) :
    (loadS (.pointer (some ⟨g, 0, none⟩))).run Tryd.prog w = .ok (.value (.agg (Wd s.list).toArray)) w := by
  have hc : w.rangeAt g 0 (Wd s.list) := by
    intro j v hv
    have hj : j < (Wd s.list).length := (List.getElem?_eq_some_iff.1 hv).1
    rw [Nat.zero_add, hb.cell j, List.getElem?_toArray, MsgC, List.append_assoc, List.getElem?_append_left hj]
    exact hv
  unfold loadS
  simp only [Sem.run_bind, run_loadAt_mid w g 0 89 (Wd s.list) _ hc Tryd.underlying89 rfl Tryd.w8size, Result.andThen_ok, Sem.run_pure]
theorem run_loadK {w : World} {g : Nat} {t : TypeId} {s : S8} {blk : List UInt8} {n : Nat} (hb : Blk w g t (MsgC s blk n).toArray) (h : blk.length = 64) :
    (loadK (.pointer (some ⟨g, 8, none⟩))).run Tryd.prog w = .ok (.value (.agg (By blk).toArray)) w := by
  have hc : w.rangeAt g 8 (By blk) := by
    intro j v hv
    have hj : j < (By blk).length := (List.getElem?_eq_some_iff.1 hv).1
    have e8 : (Wd s.list).length = 8 := by simp [Wd_length, S8.list]
    rw [hb.cell (8 + j), List.getElem?_toArray, MsgC, List.append_assoc, List.getElem?_append_right (by omega), e8, Nat.add_sub_cancel_left, List.getElem?_append_left hj]
    exact hv
  unfold loadK
  simp only [Sem.run_bind, run_loadAt_mid w g 8 91 (By blk) _ hc Tryd.underlying91 rfl (by rw [By_length, h]; exact Tryd.b64size), Result.andThen_ok, Sem.run_pure]
theorem run_storeS {w : World} {g : Nat} {t : TypeId} {s s' : S8} {blk : List UInt8} {n : Nat} (hb : Blk w g t (MsgC s blk n).toArray) (h : blk.length = 64) :
    ∃ w', (storeS (.pointer (some ⟨g, 0, none⟩)) (.agg (Wd s'.list).toArray)).run Tryd.prog w = .ok .skip w' ∧ Blk w' g t (MsgC s' blk n).toArray ∧ Keeps (· = g) w w' ∧ w'.heap.size = w.heap.size := by
  obtain ⟨w', hr, h2, h3, h4⟩ := run_storeVar_head (P := Tryd.prog) g t 89 _ (Wd s'.list).toArray hb (by rw [List.size_toArray, List.size_toArray, MsgC_len _ _ _ h]; simp [Wd_length, S8.list]) (s8size s') (Wd_one _)
  refine ⟨w', ?_, h2, h3, h4⟩
  unfold storeS
  simp only [Instr.storeAt, Instr.sureAddr, Sem.run_bind, Sem.run_pure, Result.andThen_ok, hr]
attribute [local go_sem ↓] execOp_loadS execOp_loadK execOp_storeS

theorem u8size_info : ∃ i, Tryd.prog.info? 5 = some i ∧ i.size = 1 := by
  have h := Tryd.u8size
  cases hq : Tryd.prog.info? 5 with
  | none => rw [hq] at h; cases h
  | some i => exact ⟨i, rfl, by rw [hq] at h; simpa using h⟩
theorem slice_blk (g r : Nat) (hr : r < 64) (x : Int) (hx : x = r) (wq : World) :
    (Instr.sliceAt 91 (.pointer (some ⟨g, 8, none⟩)) (some (.int .u64 x)) none none).run Tryd.prog wq = .ok (.slice (some ⟨g, 8 + r, none⟩) (64 - r) (64 - r)) wq := by
  subst hx
  obtain ⟨i, hi, hs⟩ := u8size_info
  have e : ¬ (64 = r) := by omega
  have e2 : r ≤ 64 := by omega
  simp [Instr.sliceAt, Instr.sureAddr, run_underlying Tryd.underlying91, Instr.sliceBounds, run_sliceBound wq .u64 (r : Int) 64 _ (by omega) (by omega), sizeOf, typeInfo, hi, hs, e, Addr.add_lit]
theorem slice_rest (A : Option Addr) (n c m : Nat) (hm : m ≤ n) (_hc : n ≤ c) (wq : World) :
    (Instr.slice 30 (.slice A n c) (some (.int .i64 (m : Int))) none none).run Tryd.prog wq = .ok (.slice (if c = m then A else A.map (·.add m)) (n - m) (c - m)) wq := by
  obtain ⟨i, hi, hs⟩ := u8size_info
  simp [Instr.slice, run_underlying Tryd.underlying30, Instr.sliceBounds, run_sliceBound wq .i64 (m : Int) n _ (by omega) (by omega), sizeOf, typeInfo, hi, hs]
theorem tmod64 (n : Nat) : Int.tmod (n : Int) 64 = ((n % 64 : Nat) : Int) := by rw [Int.tmod_eq_emod_of_nonneg (by omega)]; omega

set_option maxHeartbeats 4000000 in
set_option maxRecDepth 100000 in
theorem put_any (w : World) (hT : Tabs w) (g : Nat) (hg2 : 2 ≤ g) (t : List UInt8) (hM : Msg w g t) (A : Option Addr) (n c : Nat) (ps : List (List UInt8)) (hn : n = ps.length) (hS : SeesL w g A ps)
    (hmax : t.length + ps.flatten.length ≤ 1125899906842624) (hcnt : n ≤ 1125899906842624) :
    Calls Tryd.prog 70 #[.pointer (some ⟨g, 0, none⟩), .slice A n c] w fun e w' => e = .returned (.tuple #[]) ∧ Msg w' g (t ++ ps.flatten) ∧ Keeps (· = g) w w' := by
  subst hn
  have HT := Lib.hid hT
  have HS := Lib.hid hS
  have HM := Lib.hid hM
  have Hmax := Lib.hid hmax
  clear hT hS hM hmax
  go_enter Tryd.func70, Tryd.ntmps70
  go_wp2
  go_loopw [9] (fun i wr => ∃ k : Nat, k ≤ ps.length ∧ i = .int .i64 k ∧ Hid (Msg wr g (t ++ (ps.take k).flatten)) ∧ Hid (Keeps (· = g) w wr)) (fun i _ => ps.length - (intOf i).toNat)
  case atStart => exact ⟨0, Nat.zero_le _, rfl, by show Msg _ _ _; simpa using HM.out, Keeps.refl _ _⟩
  case round =>
    clear HM
    obtain ⟨k, hk, rfl, HM, HK⟩ := hrel
    by_cases hlt : k < ps.length
    · obtain ⟨b, off, Ai, ci, rfl, hc, hci, ho⟩ := (HS.out.keeps HK.out).at_ k hlt
      have HO := Lib.hid ho
      clear ho
      have HP : Hid (((ps.take (k + 1)).flatten) = (ps.take k).flatten ++ ps[k]) := by show _ = _; rw [List.take_succ_eq_append_getElem hlt, List.flatten_append]; simp
      have HQ : Hid ((t ++ (ps.take k).flatten).length + ps[k].length ≤ 1125899906842624) := by
        have h1 := Hmax.out
        have h2 : ps.flatten.length = ((ps.take (k + 1)).flatten).length + ((ps.drop (k + 1)).flatten).length := by
          rw [← List.length_append, ← List.flatten_append, List.take_append_drop]
        rw [HP.out] at h2
        simp only [List.length_append] at h2 ⊢
        show _ ≤ _
        omega
      generalize hp : ps[k] = p at *
      generalize hq : t ++ (ps.take k).flatten = t1 at *
      have HP' : Hid (t ++ (ps.take (k + 1)).flatten = t1 ++ p) := by show _ = _; rw [HP.out, ← List.append_assoc, hq]
      clear hp hq HP
      go_wp2
      go_loopw [5] (fun v wr => ∃ (dn rs : List UInt8) (A1 : Option Addr) (c1 : Nat), v = .slice A1 rs.length c1 ∧ rs.length ≤ c1 ∧ Hid (dn ++ rs = p) ∧ Hid (SeesO wr g A1 rs) ∧ Hid (Msg wr g (t1 ++ dn)) ∧ Hid (Keeps (· = g) w wr)) (fun v _ => match v with | .slice _ n _ => n | _ => 0)
      case atStart => exact ⟨[], p, Ai, ci, rfl, hci, rfl, HO.out, by show Msg _ _ _; simpa using HM.out, HK.out⟩
      case round =>
        clear HO HM HK hc
        obtain ⟨dn, rs, A1, c1, rfl, hc1, HD, HO, HM, HK⟩ := hrel
        by_cases hpos : 0 < rs.length
        · obtain ⟨blk, hb, hw, hblk⟩ := HM.out
          have hN : (t1 ++ dn).length + rs.length ≤ 1125899906842624 := by
            have h1 := HQ.out
            rw [← HD.out] at h1
            simp only [List.length_append] at h1 ⊢
            omega
          have HE : Hid (∀ m, t1 ++ dn ++ rs.take m = t1 ++ (dn ++ rs.take m)) := fun m => List.append_assoc _ _ _
          generalize t1 ++ dn = T at *
          have htm := tmod64 T.length
          have hr64 : T.length % 64 < 64 := Nat.mod_lt _ (by omega)
          have HW := Lib.hid hw
          have HB := Lib.hid hblk
          have Hb := Lib.hid hb
          clear hw hblk hb HM
          have c72 := (HB.out.cell 72).trans ((List.getElem?_toArray ..).trans (MsgC_72 _ _ _ Hb.out))
          have q1 := slice_blk g (T.length % 64) hr64 ((T.length : Int) % 64) (by omega)
          go_wp2
          go_region_law (refine step_copy_mid rfl (.tmp 24) (.tmp 25) 30 30 rfl 5 Tryd.underlying30 Tryd.u8size g (8 + T.length % 64) (64 - T.length % 64) (64 - T.length % 64) (by simp [Act.eval, Act.put]) 107 _ HB.out (by rw [List.size_toArray, MsgC_len _ _ _ Hb.out]; omega) A1 rs.length c1 (by simp [Act.eval, Act.put]) g rs HO.out rfl hpos ?_; intro w1 h1 h2 h3; have H1 := Lib.hid h1; have H2 := Lib.hid h2; clear h1 h2 h3)
          all_goals
            have H1' : Hid (Blk w1 g 107 (MsgC (runs start8 T (T.length / 64)) (over2 blk rs (T.length % 64)) T.length).toArray) := by
              have := H1.out
              rw [MsgC_copy _ _ _ _ _ Hb.out (by omega)] at this
              exact this
            have hm1 : rs.length.min (64 - T.length % 64) ≤ rs.length := Nat.min_le_left _ _
            have hm2 : rs.length.min (64 - T.length % 64) ≤ 64 - T.length % 64 := Nat.min_le_right _ _
            have hm0 : 0 < rs.length.min (64 - T.length % 64) := Nat.lt_min.2 ⟨hpos, by omega⟩
            have HLs := Lib.hid (msg_less T blk rs Hb.out HW.out _ rfl)
            have HFl := Lib.hid (msg_full T blk rs Hb.out HW.out _ rfl hm0)
            have HOL := Lib.hid (over2_length blk rs (T.length % 64) Hb.out (by omega))
            clear H1 q1 htm c72 HW HB Hb
            generalize rs.length.min (64 - T.length % 64) = m at *
            generalize over2 blk rs (T.length % 64) = blk2 at *
            generalize hs : runs start8 T (T.length / 64) = s at *
            have Hs := Lib.hid hs
            clear hs
            have c72 := (H1'.out.cell 72).trans ((List.getElem?_toArray ..).trans (MsgC_72 _ _ _ HOL.out))
            have f72 := H1'.out.frozen 72
            have q2 := slice_rest A1 rs.length c1 m hm1 hc1
            have HO1 : Hid (SeesO wr g (if c1 = m then A1 else A1.map (·.add m)) (rs.drop m)) := HO.out.rest m c1 hc1
            have HK2 : Hid (Keeps (· = g) w w1) := HK.out.trans (show Keeps (· = g) wr w1 from ⟨H2.out.os, H2.out.tape, H2.out.output, H2.out.size, H2.out.block⟩)
            have HO2 : Hid (SeesO w1 g (if c1 = m then A1 else A1.map (·.add m)) (rs.drop m)) := HO1.out.keeps ⟨H2.out.os, H2.out.tape, H2.out.output, H2.out.size, H2.out.block⟩
            clear HO1 H2 HK HO
            generalize (if c1 = m then A1 else A1.map (·.add m)) = A2 at *
            have hcast : ((T.length : Int) + (m : Int)) = ((T.length + m : Nat) : Int) := by omega
            have hlen : (T ++ rs.take m).length = T.length + m := by rw [List.length_append, List.length_take]; omega
            have Hlen := Lib.hid hlen
            have HB2 : Hid (Blk (w1.setCell ⟨g, 72, none⟩ (.int .u64 ((T.length : Int) + (m : Int)))) g 107 (MsgC s blk2 (T.length + m)).toArray) := by
              show Blk _ _ _ _
              rw [hcast, ← MsgC_set s blk2 T.length (T.length + m) HOL.out]
              exact H1'.out.set 72 _
            have HK3 : Hid (Keeps (· = g) w (w1.setCell ⟨g, 72, none⟩ (.int .u64 ((T.length : Int) + (m : Int))))) := HK2.out.setCell rfl _
            have HO3 : Hid (SeesO (w1.setCell ⟨g, 72, none⟩ (.int .u64 ((T.length : Int) + (m : Int)))) g A2 (rs.drop m)) := HO2.out.keeps ((Keeps.refl (· = g) w1).setCell (p := ⟨g, 72, none⟩) rfl _)
            have Hdn : Hid (dn ++ rs.take m ++ rs.drop m = p) := by show _ = _; rw [List.append_assoc, List.take_append_drop]; exact HD.out
            clear hcast hlen HK2 HO2 H1' HD
            by_cases h0 : (T.length + m) % 64 = 0
            · have hz : ((T.length : Int) + (m : Int)) % 64 = 0 := by omega
              go_wp2
              clear c72 f72 q2
              generalize w1.setCell ⟨g, 72, none⟩ (.int .u64 ((T.length : Int) + (m : Int))) = w2 at *
              have HBd : Hid (Blk w2.drew g 107 (MsgC s blk2 (T.length + m)).toArray) := HB2.out
              have HTd : Hid (Tabs w2.drew) := by
                have h1 := HT.out.below (HK3.out.below (B := 2) HT.out.size (fun k hk => by omega)) (Nat.le_refl _)
                exact ⟨h1.start, h1.words, h1.size⟩
              have qS := run_loadS HBd.out
              have qK := run_loadK HBd.out HOL.out
              go_region_law ((go_simp; go_at_call 82; refine (press_any _ HTd.out s blk2 HOL.out).mono ?_; rintro e w5 ⟨rfl, hb5⟩; obtain ⟨w6, qst, h61, h62, h63⟩ := run_storeS (s' := press s blk2) (HBd.out.below hb5 HBd.out.lt) HOL.out; have H61 := Lib.hid h61; have Hk6 : Hid (Keeps (· = g) w2 w6) := (Keeps.of_below (show Below w2.heap.size w2 w5 from ⟨hb5.os, hb5.tape, hb5.output, hb5.size, hb5.block⟩) (· = g)).trans h62; clear hb5 h61 h62 h63))
              all_goals
                go_wp2
                go_roundw
                case rel =>
                  refine ⟨dn ++ rs.take m, rs.drop m, A2, c1 - m, by rw [List.length_drop], by rw [List.length_drop]; omega, Hdn.out, HO3.out.keeps Hk6.out, ?_, HK3.out.trans Hk6.out⟩
                  show Msg _ _ _
                  rw [← HE.out m]
                  exact ⟨blk2, HOL.out, (HFl.out h0).1, by rw [(HFl.out h0).2, Hlen.out]; exact H61.out⟩
                case measure => show rs.length - m < rs.length; omega
            · have hz : ¬ ((T.length : Int) + (m : Int)) % 64 = 0 := by omega
              go_wp2
              go_roundw
              case rel =>
                refine ⟨dn ++ rs.take m, rs.drop m, A2, c1 - m, by rw [List.length_drop], by rw [List.length_drop]; omega, Hdn.out, HO3.out, ?_, HK3.out⟩
                show Msg _ _ _
                rw [← HE.out m]
                exact ⟨blk2, HOL.out, (HLs.out h0).1, by rw [(HLs.out h0).2, Hlen.out]; exact HB2.out⟩
              case measure => show rs.length - m < rs.length; omega
        · have hrs : rs = [] := List.eq_nil_of_length_eq_zero (by omega)
          have HR : Hid (t ++ (ps.take (k + 1)).flatten = t1 ++ dn) := by show _ = _; rw [HP'.out, ← HD.out, hrs, List.append_nil]
          clear hrs
          go_wp2
          go_roundw
          case rel => exact ⟨k + 1, by omega, by go_num, by show Msg _ _ _; rw [HR.out]; exact HM.out, HK.out⟩
          case measure => simp [intOf]; omega
    · obtain rfl : k = ps.length := by omega
      rw [List.take_length] at HM
      go_wp2
      exact bodyPost_end (results_none rfl _ _ _) rfl ⟨rfl, HM.out, HK.out⟩

end Go.Proofs.YtckomfffilonlaaDoor
