/-
  money: the texts of amounts, of the program.
-/
import Derived.Test.YtipjhjgjomfflaaDoorMo6
import Derived.Lib.TrimByte
namespace Go.Proofs.YtipjhjgjomfflaaDoor
open Go.RowKit Go.Sort

/-- The rest's eight digits, and without the noughts at the end. -/
def pad8 (r : Nat) : List UInt8 := (List.range 8).map fun t => Lib.dg r (7 - t)
def restT (r : Nat) : List UInt8 := Lib.trimRightB (pad8 r) 48
/-- The text of an amount. -/
def moneyT (a : Nat) : List UInt8 := dec (a / 100000000) ++ if a % 100000000 = 0 then [] else 46 :: restT (a % 100000000)
def textV (a : Nat) : List UInt8 := if a ≤ maxM then moneyT a else []
def textE (a : Nat) : Int := if a ≤ maxM then 0 else 5
theorem text_yes {a : Nat} (h : a ≤ maxM) : textV a = moneyT a ∧ textE a = 0 := by unfold textV textE; rw [if_pos h, if_pos h]; exact ⟨rfl, rfl⟩
theorem text_no {a : Nat} (h : ¬ a ≤ maxM) : textV a = [] ∧ textE a = 5 := by unfold textV textE; rw [if_neg h, if_neg h]; exact ⟨rfl, rfl⟩
theorem money_whole {a : Nat} (h : a % 100000000 = 0) : moneyT a = dec (a / 100000000) := by unfold moneyT; rw [if_pos h, List.append_nil]
theorem money_rest {a : Nat} (h : ¬ a % 100000000 = 0) : moneyT a = dec (a / 100000000) ++ 46 :: restT (a % 100000000) := by unfold moneyT; rw [if_neg h]
theorem trim_le (l : List UInt8) (c : UInt8) : (Lib.trimRightB l c).length ≤ l.length := by
  unfold Lib.trimRightB
  rw [List.length_reverse]
  exact Nat.le_trans (List.dropWhile_sublist _).length_le (by rw [List.length_reverse]; exact Nat.le_refl _)
theorem restT_le (r : Nat) : (restT r).length ≤ 8 := by
  have := trim_le (pad8 r) 48
  have h8 : (pad8 r).length = 8 := by simp [pad8]
  unfold restT; omega

/-- The row behind k digits. -/
def row8 (k r : Nat) : List UInt8 := (List.range 8).map fun t => if 8 - k ≤ t then Lib.dg r (7 - t) else 0
theorem row8_len (k r : Nat) : (row8 k r).length = 8 := by simp [row8]
theorem row8_all (r : Nat) : row8 8 r = pad8 r := by simp [row8, pad8]
theorem row8_set (k r : Nat) (hk : k < 8) : (row8 k r).set (7 - k) (Lib.dg r k) = row8 (k + 1) r := by
  apply List.ext_getElem (by simp [row8])
  intro t h1 h2
  simp only [row8, List.length_map, List.length_range] at h2
  rw [List.getElem_set]
  simp only [row8, List.getElem_map, List.getElem_range]
  by_cases ht : 7 - k = t
  · rw [if_pos ht, if_pos (by omega), show 7 - t = k by omega]
  · rw [if_neg ht]
    by_cases h : 8 - k ≤ t
    · rw [if_pos h, if_pos (by omega)]
    · rw [if_neg h, if_neg (by omega)]
theorem By_set (l : List UInt8) (i : Nat) (d : UInt8) : (By l).toArray.setIfInBounds i (.int .u8 (d.toNat : Int)) = (By (l.set i d)).toArray := by
  simp [By]
theorem Sees.blk {w : World} {g : Nat} {t : TypeId} {l : List UInt8} (hb : Blk w g t (By l).toArray) : Sees w w.heap.size (some ⟨g, 0, none⟩) l := by
  refine .inr ⟨g, 0, rfl, hb.lt, fun i hi => ?_⟩
  rw [Nat.zero_add, hb.cell i]
  simp [By, hi]
theorem dg_toNat (r k : Nat) : ((Lib.dg r k).toNat : Int) = 48 + ((r / 10 ^ k : Nat) : Int) % 10 := by
  unfold Lib.dg
  rw [UInt8.toNat_ofNat']
  generalize r / 10 ^ k = x
  omega

set_option maxHeartbeats 1000000 in
set_option maxRecDepth 100000 in
theorem rest_any (w : World) (r : Nat) (hr : r < 100000000) : Calls Tryd.prog 23 #[.int .u64 (r : Int)] w fun e w' => e = .returned (.string (Str (restT r))) ∧ Below w.heap.size w w' := by
  have HR := Lib.hid hr
  clear hr
  have hb0 : Blk (w.alloc (.cells (By (row8 0 r)).toArray 54)) w.heap.size 54 (By (row8 0 r)).toArray := heap_alloc_new w _
  have HB0 := Lib.hid hb0
  clear hb0
  go_enter Tryd.func23, Tryd.ntmps23
  go_wp2
  go_loopw [0, 5] (fun rv iv wr => ∃ (k v : Nat), k ≤ 8 ∧ iv = .int .i64 (k : Int) ∧ rv = .int .u64 (v : Int) ∧ Hid (r / 10 ^ k = v) ∧ Hid (Blk wr w.heap.size 54 (By (row8 k r)).toArray) ∧ Hid (Below w.heap.size w wr)) (fun _ iv _ => 8 - (intOf iv).toNat)
  case atStart => exact ⟨0, r, by omega, rfl, rfl, by show _ = _; simp, HB0.out, nxAlloc (nxRefl w) _⟩
  case round =>
    obtain ⟨k, v, hk, rfl, rfl, HV, HB, Hb⟩ := hrel
    by_cases hlt : k < 8
    · have hw : IntKind.u64.wrap ((v : Int) / 10) = ((v / 10 : Nat) : Int) := by
        have h1 := HV.out; have h2 := HR.out
        have h3 := Nat.div_le_self r (10 ^ k)
        rw [IntKind.wrap_u64]; omega
      obtain ⟨u, hu⟩ : ∃ u, v / 10 = u := ⟨_, rfl⟩
      rw [hu] at hw
      have HU : Hid (r / 10 ^ (k + 1) = u) := by show _ = _; rw [Nat.pow_succ, ← Nat.div_div_eq_div_mul, HV.out, hu]
      have hc : wr.cell? ⟨w.heap.size, 7 - k, none⟩ = some (.int .u8 0) := by
        rw [HB.out.cell]
        simp [By, row8, show 7 - k < 8 by omega]
        rw [if_neg (by omega)]; rfl
      have hf := HB.out.frozen (7 - k)
      have hd := dg_toNat r k
      rw [HV.out] at hd
      have HN : Hid (Blk (wr.setCell ⟨w.heap.size, 7 - k, none⟩ (.int .u8 (48 + (v : Int) % 10))) w.heap.size 54 (By (row8 (k + 1) r)).toArray) := by
        have := HB.out.set (7 - k) (.int .u8 ((Lib.dg r k).toNat : Int))
        rw [By_set, row8_set k r hlt, hd] at this
        exact this
      clear hu hd
      go_wp2
      go_roundw
      case rel => exact ⟨k + 1, u, by omega, by go_num, rfl, HU, HN, Hb.out.setCell (Nat.le_refl _) _⟩
      case measure => simp [intOf] <;> omega
    · obtain rfl : k = 8 := by omega
      have hb8 := HB.out
      rw [row8_all] at hb8
      have HS := Lib.hid (Sees.blk hb8)
      clear hb8
      have hcv : (convert 56 9 (.slice (some ⟨w.heap.size, 0, none⟩) 8 8)).run Tryd.prog wr = .ok (.string (Str (pad8 r))) wr := run_string_sees Tryd.underlying56 Tryd.underlying5 Tryd.underlying9 (by simp [pad8]) HS.out
      have HT : Hid ((Str (pad8 r)).size ≤ 9223372036854775807) := by show _ ≤ _; simp [pad8]
      go_wp2_with (go_at_call 28; refine (Tryd.strings_TrimRight_one (Str (pad8 r)) 48 (by decide) _ HT.out).mono ?_; rintro e w' ⟨rfl, rfl⟩)
      go_ret
      exact ⟨by unfold restT Str; simp, Hb.out⟩

theorem txt_join (x y : List UInt8) : Str x ++ (⟨#[46]⟩ ++ Str y) = Str (x ++ 46 :: y) := by
  apply ByteArray.ext
  simp [Str]
def TextPost (a : Nat) (w : World) (e : Ending) (w' : World) : Prop := e = .returned (.tuple #[.string (Str (textV a)), .int .i64 (textE a)]) ∧ Below w.heap.size w w'

theorem quo_amount {a : Nat} (h : a ≤ maxM) : IntKind.u64.wrap ((a : Int) / 100000000) = ((a / 100000000 : Nat) : Int) := by
  unfold maxM at h; rw [IntKind.wrap_u64]; omega

set_option maxHeartbeats 1000000 in
set_option maxRecDepth 100000 in
theorem text_any (w : World) (hT : Tb w) (a : Nat) : Calls Tryd.prog 16 #[.int .u64 (a : Int)] w (TextPost a w) := by
  by_cases ha : a ≤ maxM
  · have H1 := Lib.hid (may_yes ha)
    have HV := Lib.hid (text_yes ha)
    have e1 := quo_amount ha
    have e2 : (a : Int) % 100000000 = ((a % 100000000 : Nat) : Int) := by omega
    have HT := Lib.hid hT
    obtain ⟨q, hq⟩ : ∃ q, a / 100000000 = q := ⟨_, rfl⟩
    obtain ⟨r, hr⟩ : ∃ q, a % 100000000 = q := ⟨_, rfl⟩
    have HQ : Hid (q < 18446744073709551616) := by unfold maxM at ha; show _ < _; omega
    have HR : Hid (r < 100000000) := by show _ < _; omega
    have HL : Hid ((dec q).length ≤ 20) := dec_le HQ.out
    rw [hq] at e1
    rw [hr] at e2
    by_cases h0 : r = 0
    · subst h0
      have HM : Hid (moneyT a = dec q) := by show _ = _; rw [money_whole hr, hq]
      clear ha hT hq hr
      go_enter Tryd.func16, Tryd.ntmps16
      go_wp2_with (first
        | (go_at_call 15; ((with_reducible refine (may_any _ a).mono ?_); rw [H1.out]; rintro e w' ⟨rfl, rfl⟩))
        | (go_at_call 22; ((refine (fmt_any _ HT.out q HQ.out).mono ?_); rintro e w1 ⟨rfl, hb1⟩; have Hb1 := Lib.hid hb1; clear hb1)))
      go_ret2
      exact ⟨by rw [HV.out.1, HV.out.2, HM.out]; rfl, Hb1.out⟩
    · have HM : Hid (moneyT a = dec q ++ 46 :: restT r) := by show _ = _; rw [money_rest (by omega), hq, hr]
      have h1 : 0 < r := by omega
      have hl1 := HL.out
      have hl2 := restT_le r
      obtain ⟨x, hx⟩ : ∃ x, dec q = x := ⟨_, rfl⟩
      obtain ⟨y, hy⟩ : ∃ y, restT r = y := ⟨_, rfl⟩
      rw [hx] at hl1 HM
      rw [hy] at hl2 HM
      have HX := Lib.hid hx
      have HY := Lib.hid hy
      clear ha hT hq hr hx hy
      go_enter Tryd.func16, Tryd.ntmps16
      go_wp2_with (first
        | (go_at_call 15; ((with_reducible refine (may_any _ a).mono ?_); rw [H1.out]; rintro e w' ⟨rfl, rfl⟩))
        | (go_at_call 22; ((refine (fmt_any _ HT.out q HQ.out).mono ?_); rintro e w1 ⟨rfl, hb1⟩; rw [HX.out]; have Hb1 := Lib.hid hb1; clear hb1))
        | (go_at_call 23; ((refine (rest_any _ r HR.out).mono ?_); rw [HY.out]; rintro e w2 ⟨rfl, hb2⟩; have Hb2 := Lib.hid hb2; clear hb2)))
      go_ret2
      exact ⟨by rw [HV.out.1, HV.out.2, HM.out, ← txt_join]; rfl, nxTo Hb1.out Hb2.out⟩
  · have H1 := Lib.hid (may_no ha)
    have HV := Lib.hid (text_no ha)
    clear ha
    go_enter Tryd.func16, Tryd.ntmps16
    go_wp2_with (go_at_call 15; ((with_reducible refine (may_any _ a).mono ?_); rw [H1.out]; rintro e w' ⟨rfl, rfl⟩))
    go_ret2
    exact ⟨by rw [HV.out.1, HV.out.2]; rfl, Below.refl _ _⟩
end Go.Proofs.YtipjhjgjomfflaaDoor
