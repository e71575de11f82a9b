/-
  tree: begin.
-/
import Derived.Test.YtefgnemcjgibaaaTeI
namespace Go.Proofs.Ytefgnemcjgibaaa
open Go.RowKit

theorem tKeeps_sees {S : Nat → Prop} {w w' : World} {A : Option Addr} {vs : List Value} (hk : Keeps S w w') (h : SeesV w w.heap.size A vs) (hS : ∀ a, A = some a → ¬ S a.block) : SeesV w' w'.heap.size A vs := by
  rcases h with h | ⟨b, off, hA, hlt, hc⟩
  · exact .inl h
  · exact .inr ⟨b, off, hA, Nat.lt_of_lt_of_le hlt hk.size, fun i hi => (hk.cell (p := ⟨b, off + i, none⟩) hlt (fun e => hS ⟨b, off, none⟩ hA e)).trans (hc i hi)⟩
theorem RtOk.keeps {S : Nat → Prop} {w w' : World} {T : List Nd} {r : RtM} (h : RtOk w T r) (hk : Keeps S w w') (hq : ¬ S r.q) (hA : ∀ a, r.A = some a → ¬ S a.block) : RtOk w' T r :=
  ⟨h.b.keeps hk hq, tKeeps_sees hk h.s hA⟩
/-- One more in both. -/
theorem TwoR.add {w w1 w2 : World} {base : Nat} {m m' : TrM} {r : RtM} {p : Nat} {A : Option Addr} {c : Nat} (h : TwoR w base m r) (a : TrTo w base m p m' w1) (hb : Blk w2 r.q 30 #[.slice A (m.T.length + 1) c]) (hs : SeesV w2 w2.heap.size A (tpC m.T ++ [.int .i64 (p : Int)])) (hA : ∀ a, A = some a → w1.heap.size ≤ a.block) (hk : Keeps (fun k => k = r.q) w1 w2) : TwoR w2 base m' ⟨r.q, A, c⟩ := by
  have hrq : r.q < w.heap.size := h.d.b.lt
  have hqf : ¬ tfoot m' r.q := fun hf => by
    rcases a.f r.q hf with h9 | h9
    · exact h.qf h9
    · omega
  have hT : m'.T.length = m.T.length + 1 := by rw [m'.T_len, m.T_len, a.len]
  have hC : tpC m'.T = tpC m.T ++ [.int .i64 (p : Int)] := tpC_next hT h.i.ok.ne (fun n hn => (a.par n (by rw [← m.T_len]; exact hn)).1) (by rw [m.T_len]; exact a.new.1)
  refine ⟨a.ok.keeps hk (fun k hf e => hqf (e ▸ hf)), a.i, ⟨?_, ?_⟩, hqf, fun a' ha hf => ?_, fun a' ha => ?_, h.qb⟩
  · rw [hT]; exact hb
  · rw [hC]; exact hs
  · have h1 := hA a' ha
    have h2 := (a.ok.lt hf).2
    omega
  · have h1 := hA a' ha
    have h2 := a.k.size
    show a'.block ≠ r.q
    omega
set_option maxRecDepth 100000 in
set_option maxHeartbeats 4000000 in
theorem te_begin (w : World) (A0 : Option Addr) (l : List Int) (c0 : Nat) (hS : SeesV w w.heap.size A0 (l.map (Value.int .i64))) (hl : l.length ≤ 900) (hw : ∀ z ∈ l, -9223372036854775808 ≤ z ∧ z ≤ 9223372036854775807) : Calls Try.prog 9 #[.slice A0 l.length c0] w fun e w' => ∃ m r, e = .returned (.tuple #[.pointer (some ⟨m.q, 0, none⟩), .pointer (some ⟨r.q, 0, none⟩), .bool true]) ∧ TwoR w' w.heap.size m r ∧ m.L.length ≤ l.length + 1 ∧ Below w.heap.size w w' := by
  have HS := Lib.hid hS
  have HWf := Lib.hid hw
  clear hS hw
  go_enter Try.func9, Try.ntmps9
  go_wp2_with (first
    | (go_at_call 24; refine (te_new w).mono ?_; rintro e0 w0 ⟨m0, rfl, ho0, hi0, hl0, hd0, hb0⟩; have O0 := Lib.hid ho0; have I0 := Lib.hid hi0; have V0 := Lib.hid hb0; have L0 := Lib.hid hl0; clear ho0 hi0 hl0 hd0 hb0)
    | (go_at_call 28; refine (rt_new w0).mono ?_; rintro e1 w1 ⟨rfl, hr1, hb1⟩; have R1 := Lib.hid hr1; have V1 := Lib.hid hb1; clear hr1 hb1))
  obtain ⟨q1, hq1⟩ : ∃ q, w0.heap.size + 1 = q := ⟨_, rfl⟩
  have T1 : Hid (TwoR w1 w.heap.size m0 ⟨q1, some ⟨w0.heap.size, 0, none⟩, 1⟩) := by
    have hT0 : m0.T = [ndM1.d] := by unfold TrM.T; rw [L0.out]; rfl
    have hR := R1.out
    rw [hq1] at hR
    refine (⟨O0.out.later V1.out, I0.out, by rw [hT0]; exact hR, fun hf => ?_, fun a ha hf => ?_, fun a ha => ?_, ?_⟩ : TwoR _ _ _ _)
    · have h2 := (O0.out.lt hf).2
      simp only at h2
      omega
    · injection ha with ha
      subst ha
      have h2 := (O0.out.lt hf).2
      simp only at h2
      omega
    · injection ha with ha
      subst ha
      show w0.heap.size ≠ q1
      omega
    · have := V0.out.size
      show w.heap.size ≤ q1
      omega
  have V01 : Hid (Below w.heap.size w w1) := nxTo V0.out V1.out
  have hl0 : Hid (m0.L.length = 1) := by show _ = _; rw [L0.out]; rfl
  rw [hq1]
  clear O0 I0 V0 L0 R1 V1 hq1
  go_loopw [7] (fun iv wr => ∃ (i : Nat) (m : TrM) (r : RtM), i ≤ l.length ∧ iv = .int .i64 i ∧ m.q = m0.q ∧ r.q = q1 ∧ m.L.length ≤ i + 1 ∧ Hid (TwoR wr w.heap.size m r) ∧ Hid (Below w.heap.size w wr)) (fun iv _ => l.length - (intOf iv).toNat)
  case atStart => exact ⟨0, m0, _, by omega, rfl, rfl, rfl, by rw [hl0.out]; omega, T1.out, V01.out⟩
  case round =>
    clear T1 V01 hl0
    obtain ⟨i, m, r, hi, rfl, hq, hrq, hml, HT, HV⟩ := hrel
    have Hq := Lib.hid hq
    have Hrq := Lib.hid hrq
    clear hq hrq
    by_cases hlt : i < l.length
    · have hse := HS.out.below HV.out
      obtain ⟨b, off, hA, hb, hc⟩ := hse.at_ (k := i) (by simpa using hlt)
      subst hA
      have hci := hc i (by simpa using hlt)
      rw [List.getElem_map] at hci
      have hwf := HWf.out l[i] (List.getElem_mem hlt)
      obtain ⟨z, hz⟩ : ∃ z, l[i] = z := ⟨_, rfl⟩
      rw [hz] at hci hwf
      have hin : (i : Int) < (l.length : Int) := by omega
      have hTl := m.T_len
      have h0 := HT.out.i.ne
      have hcq : wr.cell? ⟨q1, 0, none⟩ = some (.slice r.A m.L.length r.c) := by
        have := HT.out.d.b.cell 0
        rw [Hrq.out, hTl] at this
        exact this
      clear hse hc hz hb
      have no : ∀ n : Int, (n < 0 ∨ (m.L.length : Int) ≤ n) → Hid (Calls Try.prog 25 #[.pointer (some ⟨m0.q, 0, none⟩), .int .i64 n] wr fun e w' => e = .returned (.tuple #[.int .i64 0, .int .i64 6]) ∧ w' = wr) ∧ Hid (Calls Try.prog 27 #[.pointer (some ⟨q1, 0, none⟩), .int .i64 n] wr fun e w' => e = .returned (.int .i64 (-1)) ∧ w' = wr) := fun n hn => by
        have h1 := te_addno wr w.heap.size m HT.out.t h0 n hn
        have h2 := rt_addno wr m.T r HT.out.d n (by rw [hTl]; exact hn)
        rw [Hq.out] at h1
        rw [Hrq.out] at h2
        exact ⟨h1, h2⟩
      by_cases hz0 : z < 0
      · obtain ⟨n1, n2⟩ := no z (.inl hz0)
        have hge : ¬ (0 : Int) ≤ z := by omega
        clear no
        go_wp2_with (first
          | (go_at_call 25; refine n1.out.mono ?_; rintro e w5 ⟨rfl, hw5⟩; obtain rfl := hw5.symm)
          | (go_at_call 27; refine n2.out.mono ?_; rintro e w6 ⟨rfl, hw6⟩; obtain rfl := hw6.symm))
        go_roundw
        case rel => exact ⟨i + 1, m, r, by omega, by go_num, Hq.out, Hrq.out, by omega, HT.out, HV.out⟩
        case measure => simp [intOf] <;> omega
      · have hge : (0 : Int) ≤ z := by omega
        obtain ⟨len, hlen⟩ : ∃ k, m.L.length = k := ⟨_, rfl⟩
        rw [hlen] at hcq no hml hTl h0
        obtain ⟨k, hk⟩ : ∃ k : Nat, z.tmod ((len : Int) + 1) = k := ⟨(z.tmod ((len : Int) + 1)).toNat, by have := Int.tmod_nonneg ((len : Int) + 1) hge; omega⟩
        have hkl : k ≤ len := by have := Int.tmod_lt_of_pos z (show (0 : Int) < (len : Int) + 1 by omega); omega
        have hne : ¬ ((len : Int) + 1 = 0) := by omega
        by_cases hkn : k = len
        · obtain ⟨n1, n2⟩ := no (k : Int) (.inr (by omega))
          clear no hkn
          go_wp2_with (first
            | (go_at_call 25; refine n1.out.mono ?_; rintro e w5 ⟨rfl, hw5⟩; obtain rfl := hw5.symm)
            | (go_at_call 27; refine n2.out.mono ?_; rintro e w6 ⟨rfl, hw6⟩; obtain rfl := hw6.symm))
          go_roundw
          case rel => exact ⟨i + 1, m, r, by omega, by go_num, Hq.out, Hrq.out, by omega, HT.out, HV.out⟩
          case measure => simp [intOf] <;> omega
        · have hkl2 : k < len := by omega
          have ha := te_addT wr w.heap.size m HT.out.t HT.out.i k (by omega) (by omega)
          rw [Hq.out, hlen] at ha
          have HA := Lib.hid ha
          have HTl := Lib.hid hTl
          have HRA : Hid (∀ W, RtOk W m.T r → Calls Try.prog 27 #[.pointer (some ⟨q1, 0, none⟩), .int .i64 (k : Int)] W fun e w' => e = .returned (.int .i64 (len : Int)) ∧ ∃ A c, Blk w' r.q 30 #[.slice A (m.T.length + 1) c] ∧ SeesV w' w'.heap.size A (tpC m.T ++ [.int .i64 (k : Int)]) ∧ (∀ a, A = some a → W.heap.size ≤ a.block) ∧ Keeps (fun k => k = r.q) W w') := fun W hW => by
            have h9 := rt_add W m.T r hW HT.out.aq (by rw [hTl]; omega) (by rw [hTl]; omega) k (by rw [hTl]; omega)
            rw [Hrq.out] at h9
            rw [HTl.out] at h9 ⊢
            rw [Hrq.out]
            exact h9
          have HLen := Lib.hid hlen
          clear no ha hTl hlen hkn h0
          go_wp2_with (first
            | (go_at_call 25; refine HA.out.mono ?_; rintro e w5 ⟨rfl, m5, h5⟩; have H5 := Lib.hid h5; have D5 : Hid (RtOk w5 m.T r) := HT.out.d.keeps h5.k HT.out.qf HT.out.af; clear h5)
            | (go_at_call 27; refine (HRA.out w5 D5.out).mono ?_; rintro e w6 ⟨rfl, A6, c6, b6, s6, a6, k6⟩; have T6 := Lib.hid (HT.out.add H5.out b6 s6 a6 k6); have V6 : Hid (Below w.heap.size w w6) := (TrTo.v HV.out HT.out.t H5.out (Nat.le_refl _)).trans (k6.below (Nat.le_trans HV.out.size H5.out.k.size) (fun k hk e => by have := HT.out.qb; omega)); clear b6 s6 a6 k6))
          go_roundw
          case rel => exact ⟨i + 1, m5, ⟨r.q, A6, c6⟩, by omega, by go_num, H5.out.q.trans Hq.out, Hrq.out, by rw [H5.out.len, HLen.out]; omega, T6.out, V6.out⟩
          case measure => simp [intOf] <;> omega
    · obtain rfl : i = l.length := by omega
      go_wp2
      go_ret3
      exact ⟨m, r, by rw [Hq.out, Hrq.out]; rfl, HT.out, hml, HV.out⟩
end Go.Proofs.Ytefgnemcjgibaaa
