/-
  tree: intervals are such as is said.
-/
import Derived.Test.YtefgnemcjgibaaaTeK
namespace Go.Proofs.Ytefgnemcjgibaaa
open Go.RowKit

theorem ti_cell {w : World} {B : Nat} {A : Option Addr} {K : List Nat} (h : SeesV w B A (tiC K)) {k : Nat} (hk : k < K.length) : ∃ b off, A = some ⟨b, off, none⟩ ∧ b < B ∧ w.cell? ⟨b, off + k, none⟩ = some (.int .i64 (K[k] : Int)) := by
  obtain ⟨b, off, hA, hb, hc⟩ := h.at_ (k := k) (by rw [tiC_len]; exact hk)
  refine ⟨b, off, hA, hb, ?_⟩
  rw [hc k (by rw [tiC_len]; exact hk)]
  have := tiC_get hk
  rw [List.getElem?_eq_getElem (by rw [tiC_len]; exact hk)] at this
  exact this
set_option maxRecDepth 100000 in
set_option maxHeartbeats 8000000 in
theorem te_sound (w : World) (base : Nat) (m : TrM) (r : RtM) (h : TwoR w base m r) : Calls Try.prog 21 #[.pointer (some ⟨m.q, 0, none⟩), .pointer (some ⟨r.q, 0, none⟩)] w fun e w' => e = .returned (.bool true) ∧ Below w.heap.size w w' := by
  have HH := Lib.hid h
  have hmx := h.i.max
  have hTl := m.T_len
  have HIv : Hid (∀ W, Below w.heap.size w W → ∀ n : Nat, n < m.L.length → Calls Try.prog 23 #[.pointer (some ⟨m.q, 0, none⟩), .int .i64 (n : Int)] W fun e w' => e = .returned (.tuple #[.int .u64 ((ndT m.T n).lo : Int), .int .u64 ((ndT m.T n).hi : Int), .int .i64 0]) ∧ Below W.heap.size W w') := fun W hW n hn => te_iv W base m (h.t.later hW) n hn hmx
  obtain ⟨len, hlen⟩ : ∃ k, m.L.length = k := ⟨_, rfl⟩
  rw [hlen] at hTl hmx HIv
  have HTl := Lib.hid hTl
  clear h hlen hTl
  go_enter Try.func21, Try.ntmps21
  go_wp2
  go_loopw [5] (fun iv wr => ∃ n : Nat, n ≤ len ∧ iv = .int .i64 n ∧ Hid (Below w.heap.size w wr)) (fun iv _ => len - (intOf iv).toNat)
  case atStart => exact ⟨0, by omega, rfl, nxRefl w⟩
  case round =>
    obtain ⟨n, hn, rfl, HV⟩ := hrel
    have hcq : wr.cell? ⟨r.q, 0, none⟩ = some (.slice r.A len r.c) := by
      have := (HH.out.later HV.out).d.b.cell 0
      rw [HTl.out] at this
      exact this
    by_cases hlt : n < len
    · have hiv := HH.out.i.iv.ok n (by rw [HTl.out]; exact hlt)
      have HI1 := Lib.hid (HIv.out wr HV.out n hlt)
      obtain ⟨lo, hlo⟩ : ∃ x, (ndT m.T n).lo = x := ⟨_, rfl⟩
      obtain ⟨hi, hhi⟩ : ∃ x, (ndT m.T n).hi = x := ⟨_, rfl⟩
      rw [hlo, hhi] at HI1 hiv
      have HLo := Lib.hid hlo
      have HHi := Lib.hid hhi
      have hnn : (n : Int) < (len : Int) := by omega
      have l1 : ¬ (lo : Int) < 1 := by omega
      have l2 : ¬ (hi : Int) < (lo : Int) := by omega
      have l3 : ¬ (4611686018427387904 : Int) < (hi : Int) := by omega
      clear hiv hlo hhi
      go_wp2_with (first
        | (go_at_call 23; refine HI1.out.mono ?_; rintro e w1 ⟨rfl, hb1⟩; have V1 : Hid (Below w.heap.size w w1) := nxTo HV.out hb1; clear hb1)
        | (go_at_call 19; refine (rt_kids w1 m.T r (HH.out.later V1.out).d HH.out.i.ok n).mono ?_; rintro e w2 ⟨A, c, rfl, hs2, hb2⟩; have S2 := Lib.hid hs2; have V2 : Hid (Below w.heap.size w w2) := nxTo V1.out hb2; clear hs2 hb2))
      obtain ⟨K, hK⟩ : ∃ K, kidsT m.T n = K := ⟨_, rfl⟩
      rw [hK] at S2
      rw [hK]
      have HK := Lib.hid hK
      have hkl : K.length ≤ 1000 := by
        rw [← hK]
        have := (kids_nodup m.T n).length_le_of_subset (l₂ := List.range m.T.length) (fun k hk => List.mem_range.2 (mem_kids.1 hk).2.1)
        rw [List.length_range, HTl.out] at this
        omega
      clear HI1 hK l1 l2 l3 hcq
      go_loopw [10] (fun jv wr => ∃ j : Nat, j ≤ K.length ∧ jv = .int .i64 j ∧ Hid (Below w2.heap.size w2 wr)) (fun jv _ => K.length - (intOf jv).toNat)
      case atStart => exact ⟨0, by omega, rfl, nxRefl w2⟩
      case round =>
        obtain ⟨j, hj, rfl, HV3⟩ := hrel
        by_cases hltj : j < K.length
        · obtain ⟨b, off, hA, hb, hc⟩ := ti_cell (S2.out.below HV3.out) hltj
          subst hA
          have hmem : K[j] ∈ kidsT m.T n := by rw [HK.out]; exact List.getElem_mem hltj
          obtain ⟨ci, hci⟩ : ∃ k, K[j] = k := ⟨_, rfl⟩
          rw [hci] at hc hmem
          obtain ⟨c0, c1, c2⟩ := mem_kids.1 hmem
          have hsub := HH.out.i.iv.sub ci c0 c1
          have hivc := HH.out.i.iv.ok ci c1
          rw [c2, HLo.out, HHi.out] at hsub
          have HI2 := Lib.hid (HIv.out wr (nxTo V2.out HV3.out) ci (by rw [HTl.out] at c1; exact c1))
          obtain ⟨la, hla⟩ : ∃ x, (ndT m.T ci).lo = x := ⟨_, rfl⟩
          obtain ⟨lb, hlb⟩ : ∃ x, (ndT m.T ci).hi = x := ⟨_, rfl⟩
          rw [hla, hlb] at HI2 hsub hivc
          have HLa := Lib.hid hla
          have HCi := Lib.hid hci
          have HCm := Lib.hid hmem
          have hjn : (j : Int) < (K.length : Int) := by omega
          have l1 : ¬ (la : Int) < (lo : Int) := by omega
          have l2 : ¬ (hi : Int) ≤ (lb : Int) := by omega
          clear hmem hci hsub hivc hla hlb hb c0 c1 c2
          go_wp2_with (go_at_call 23; refine HI2.out.mono ?_; rintro e w4 ⟨rfl, hb4⟩; have V4 : Hid (Below w2.heap.size w2 w4) := nxTo HV3.out hb4; clear hb4)
          have d1 : decide (la < lo) = false := decide_eq_false (by omega)
          have d2 : decide (hi ≤ lb) = false := decide_eq_false (by omega)
          simp only [d1, d2, Bool.or_false]
          clear d1 d2
          clear HI2 l1 l2 hc
          go_loopw [14] (fun kv wr => ∃ k : Nat, k ≤ j ∧ kv = .int .i64 k ∧ Hid (Below w4.heap.size w4 wr)) (fun kv _ => j - (intOf kv).toNat)
          case atStart => exact ⟨0, by omega, rfl, nxRefl w4⟩
          case round =>
            obtain ⟨k, hk, rfl, HV5⟩ := hrel
            by_cases hltk : k < j
            · have hkK : k < K.length := by omega
              obtain ⟨b', off', hA', hb', hc'⟩ := ti_cell (S2.out.below (nxTo V4.out HV5.out)) hkK
              obtain ⟨rfl, rfl⟩ : b = b' ∧ off = off' := by injection hA' with e; injection e with e1 e2; exact ⟨e1, e2⟩
              have hmem : K[k] ∈ kidsT m.T n := by rw [HK.out]; exact List.getElem_mem hkK
              have hlt2 : K[k] < ci := by
                rw [← HCi.out]
                have := kids_sorted m.T n
                rw [HK.out] at this
                exact List.pairwise_iff_getElem.1 this k j hkK hltj hltk
              obtain ⟨ck, hck⟩ : ∃ x, K[k] = x := ⟨_, rfl⟩
              rw [hck] at hc' hmem hlt2
              obtain ⟨k0, k1, k2⟩ := mem_kids.1 hmem
              obtain ⟨d0, d1, d2⟩ := mem_kids.1 HCm.out
              have hsib := HH.out.i.iv.sib ck ci k0 hlt2 d1 (by rw [k2, d2])
              have HI3 := Lib.hid (HIv.out wr (nxTo V2.out (nxTo V4.out HV5.out)) ck (by rw [HTl.out] at k1; exact k1))
              obtain ⟨lx, hlx⟩ : ∃ x, (ndT m.T ck).lo = x := ⟨_, rfl⟩
              obtain ⟨ly, hly⟩ : ∃ x, (ndT m.T ck).hi = x := ⟨_, rfl⟩
              rw [hlx, hly] at HI3
              rw [hly, HLa.out] at hsib
              have hkn : (k : Int) < (j : Int) := by omega
              have hkn2 : (k : Int) < (K.length : Int) := by omega
              have l1 : ¬ (la : Int) ≤ (ly : Int) := by omega
              clear hmem hlt2 hck k0 k1 k2 d0 d1 d2 hsib hlx hly hb' hA'
              by_cases hxx : (lx : Int) ≤ (lb : Int)
              all_goals
                go_wp2_with (go_at_call 23; refine HI3.out.mono ?_; rintro e w6 ⟨rfl, hb6⟩; have V6 : Hid (Below w4.heap.size w4 w6) := nxTo HV5.out hb6; clear hb6)
                go_roundw
                case rel => exact ⟨k + 1, by omega, by go_num, V6.out⟩
                case measure => simp [intOf] <;> omega
            · obtain rfl : k = j := by omega
              go_wp2
              go_roundw
              case rel => exact ⟨k + 1, by omega, by go_num, nxTo V4.out HV5.out⟩
              case measure => simp [intOf] <;> omega
        · obtain rfl : j = K.length := by omega
          go_wp2
          go_roundw
          case rel => exact ⟨n + 1, by omega, by go_num, nxTo V2.out HV3.out⟩
          case measure => simp [intOf] <;> omega
    · obtain rfl : n = len := by omega
      go_wp2
      go_ret
      exact ⟨rfl, HV.out⟩
end Go.Proofs.Ytefgnemcjgibaaa
