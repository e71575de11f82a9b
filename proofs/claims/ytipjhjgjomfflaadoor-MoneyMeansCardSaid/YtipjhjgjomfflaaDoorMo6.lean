/-
  money: the texts of numbers, of the document: decimal.
-/
import Derived.Test.YtipjhjgjomfflaaDoorMo5
namespace Go.Proofs.YtipjhjgjomfflaaDoor
open Go.RowKit Go.Sort

theorem str_append (a b : List UInt8) : Str a ++ Str b = Str (a ++ b) := by
  apply ByteArray.ext
  simp [Str]
theorem dec_small {u : Nat} (h : u < 10) : dec u = [UInt8.ofNat (48 + u)] := by unfold dec; rw [Lib.decDigits, dif_pos h]
theorem dec_big {u : Nat} (h : ¬ u < 10) : dec u = dec (u / 10) ++ [UInt8.ofNat (48 + u % 10)] := by unfold dec; rw [Lib.decDigits, dif_neg h]

theorem dec_le {u : Nat} (h : u < 18446744073709551616) : (dec u).length ≤ 20 := by
  unfold dec
  rw [Lib.decDigits_length]
  rcases Nat.eq_zero_or_pos u with h0 | h0
  · subst h0; rw [Lib.nDigits_small (by omega)]; omega
  · have := Lib.numDigits_eq u h0 h; split at this <;> omega

set_option maxHeartbeats 1000000 in
set_option maxRecDepth 100000 in
theorem rdec_any (w : World) (u : Nat) (hu64 : u < 18446744073709551616) : Calls Tryd.prog 24 #[.int .u64 (u : Int)] w (FmtPost u w) := by
  have HU := Lib.hid hu64
  clear hu64
  go_enter Tryd.func24, Tryd.ntmps24
  go_wp2
  go_loopw [0, 3] (fun nv sv wr => ∃ (n : Nat) (l : List UInt8), nv = .int .u64 (n : Int) ∧ sv = .string (Str l) ∧ Hid (n ≤ u ∧ dec n ++ l = dec u) ∧ Below w.heap.size w wr) (fun nv _ _ => (intOf nv).toNat)
  case atStart => exact ⟨u, [], rfl, rfl, ⟨Nat.le_refl _, by simp⟩, Below.refl _ _⟩
  case round =>
    obtain ⟨n, l, rfl, rfl, HN, hb⟩ := hrel
    obtain ⟨d, hd⟩ : ∃ d, UInt8.ofNat (48 + n % 10) = d := ⟨_, rfl⟩
    have hcv : (convert 56 9 (.slice (some ⟨wr.heap.size, 0, none⟩) 1 1)).run Tryd.prog (wr.alloc (.cells #[.int .u8 (48 + (n : Int) % 10)] 5)) = .ok (.string (Str [d])) (wr.alloc (.cells #[.int .u8 (48 + (n : Int) % 10)] 5)) := by
      have hs := Sees.lit wr [UInt8.ofNat (48 + n % 10)] 5
      have e : (By [UInt8.ofNat (48 + n % 10)]).toArray = #[.int .u8 (48 + (n : Int) % 10)] := by
        have : ((UInt8.ofNat (48 + n % 10)).toNat : Int) = 48 + (n : Int) % 10 := by rw [UInt8.toNat_ofNat']; omega
        simp only [By, List.map_cons, List.map_nil, this]
      rw [e] at hs
      rw [← hd]
      exact run_string_sees Tryd.underlying56 Tryd.underlying5 Tryd.underlying9 rfl hs
    have HC := Lib.hid hcv
    have HD := Lib.hid hd
    clear hcv hd
    obtain ⟨m, hm⟩ : ∃ m, n / 10 = m := ⟨_, rfl⟩
    have hw : IntKind.u64.wrap ((n : Int) / 10) = (m : Int) := by
      have h1 := HN.out.1; have h2 := HU.out
      rw [← hm, IntKind.wrap_u64]; omega
    have hl : l.length ≤ 20 := by
      have h1 := congrArg List.length HN.out.2
      have h2 := dec_le HU.out
      rw [List.length_append] at h1
      omega
    have HM := Lib.hid hm
    clear hm
    by_cases h10 : n < 10
    · have HE : Hid (Str [d] ++ Str l = Str (dec u)) := by
        show _ = _; rw [str_append, ← HN.out.2, dec_small h10, ← HD.out, Nat.mod_eq_of_lt h10]
      have e1 : m = 0 := by have := HM.out; omega
      subst e1
      have hcv := HC.out
      go_wp2
      go_ret
      exact ⟨by rw [← HE.out]; rfl, nxAlloc hb _⟩
    · have HE : Hid (m ≤ u ∧ dec m ++ (d :: l) = dec u) := by
        have h1 := HN.out.1
        have h2 := HN.out.2
        rw [dec_big h10, HD.out, HM.out] at h2
        exact ⟨by have := HM.out; omega, by rw [← h2]; simp⟩
      have e2 : ((m : Int) == 0) = false := by rw [beq_eq_false_iff_ne]; have := HM.out; omega
      have HLt : Hid (m < n) := by show _ < _; have := HM.out; omega
      have hcv := HC.out
      have HS : Hid (Str [d] ++ Str l = Str (d :: l)) := by show _ = _; rw [str_append]; rfl
      go_wp2
      go_roundw
      case rel => exact ⟨m, d :: l, rfl, by rw [← HS.out], HE, nxAlloc hb _⟩
      case measure => have := HLt.out; simp [intOf] <;> omega
end Go.Proofs.YtipjhjgjomfflaaDoor
