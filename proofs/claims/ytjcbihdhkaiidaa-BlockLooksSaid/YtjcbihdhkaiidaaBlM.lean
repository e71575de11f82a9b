/-
  block: Much of blocks, with what it says of each transaction.
-/
import Derived.Test.YtjcbihdhkaiidaaBkH
namespace Go.Proofs.Ytjcbihdhkaiidaa
open Go.RowKit

set_option maxHeartbeats 4000000 in
set_option maxRecDepth 100000 in
theorem much5L_any (w : World) (A : Option Addr) (l : List TxR) (c : Nat) (k : TxsOk w A l c) : Calls Try.prog 11 #[.slice A l.length c, .int .i64 40] w (MuchPost w (l.length ≤ 40 ∧ ∀ t ∈ l, t.ins.length ≤ 600 ∧ t.outs.length ≤ 600)) := by
  have HS := Lib.hid k.s
  have HE := Lib.hid k.each
  have Hm := Lib.hid k.m
  clear k
  go_enter Try.func11, Try.ntmps11
  go_wp2
  go_loopw [5, 6] (fun nv iv wr => ∃ (n i : Nat), nv = .int .i64 (n : Int) ∧ n ≤ 600 ∧ i ≤ l.length ∧ iv = .int .i64 i ∧ Hid (∀ j (hj : j < l.length), j < i → l[j].ins.length ≤ 600 ∧ l[j].outs.length ≤ 600) ∧ ∃ q, wr = w.drewN q) (fun _ iv _ => l.length - (intOf iv).toNat)
  case atStart => exact ⟨0, 0, rfl, by omega, by omega, rfl, fun j _ h => absurd h (Nat.not_lt_zero _), 0, rfl⟩
  case round =>
    obtain ⟨n, i, rfl, hn6, hi, rfl, HFw, q0, rfl⟩ := hrel
    by_cases hlt : i < l.length ∧ i ≤ 40
    · obtain ⟨hlt, h40⟩ := hlt
      have hin : (i : Int) < (l.length : Int) := by omega
      have hin2 : (i : Int) ≤ 40 := by omega
      obtain ⟨b, off, rfl, hbb, hr⟩ := txsC_row HS.out (by omega)
      have hrk := hr i hlt
      have hik := HE.out _ (List.getElem_mem hlt)
      obtain ⟨t, ht⟩ : ∃ t, l[i] = t := ⟨_, rfl⟩
      rw [ht] at hrk hik
      have c0 : (w.drewN q0).cell? ⟨b, off + i * 3, none⟩ = some (.slice t.A t.ins.length t.c) := cell_of hrk 0 _ rfl
      have c1 : (w.drewN q0).cell? ⟨b, off + i * 3 + 1, none⟩ = some (.slice t.B t.outs.length t.d) := cell_of hrk 1 _ rfl
      have d0 : w.cell? ⟨b, off + i * 3, none⟩ = some (.slice t.A t.ins.length t.c) := c0
      have d1 : w.cell? ⟨b, off + i * 3 + 1, none⟩ = some (.slice t.B t.outs.length t.d) := c1
      have C0 : Hid (w.cell? ⟨b, off + i * 3, none⟩ = some (.slice t.A t.ins.length t.c)) := c0
      have HI := Lib.hid hik.ins
      have HIe := Lib.hid hik.each
      have hmi := hik.mi
      have hmo := hik.mo
      have HTt : Hid (l[i] = t) := ht
      have HMi := Lib.hid hmi
      have hwi : IntKind.i64.wrap ((i : Int) + 1) = (i : Int) + 1 := by rw [IntKind.wrap_i64]; omega
      have hwa : IntKind.i64.wrap ((n : Int) + (t.ins.length : Int)) = (n : Int) + (t.ins.length : Int) := by rw [IntKind.wrap_i64]; omega
      have hwb : IntKind.i64.wrap ((n : Int) + (t.ins.length : Int) + (t.outs.length : Int)) = (n : Int) + (t.ins.length : Int) + (t.outs.length : Int) := by rw [IntKind.wrap_i64]; omega
      clear hr hrk hik ht hbb
      go_wp2
      refine wp_region_quiet_lit (by kernel_rfl) (by kernel_rfl) ?_
      repeat (go_big_quiet_step (fail))
      refine wpQuiet_nil ?_
      intro _ hw'
      obtain ⟨nq, rfl⟩ := hw'
      clear c0 c1 d0 d1
      go_wp2
      go_loopw [5, 7] (fun nv kv wr => ∃ (m k : Nat), nv = .int .i64 (m : Int) ∧ n + t.ins.length + t.outs.length ≤ m ∧ m ≤ n + t.ins.length + t.outs.length + k * 601 ∧ k ≤ 301 ∧ k ≤ t.ins.length ∧ kv = .int .i64 k ∧ ∃ q, wr = w.drewN q) (fun _ kv _ => t.ins.length - (intOf kv).toNat)
      case atStart => exact ⟨n + t.ins.length + t.outs.length, 0, by simp, Nat.le_refl _, by omega, by omega, by omega, rfl, q0 + nq, by simp⟩
      case round =>
        obtain ⟨m2, k, rfl, hlo, hhi, hk301, hk, rfl, q1, rfl⟩ := hrel
        have c0 : (w.drewN q1).cell? ⟨b, off + i * 3, none⟩ = some (.slice t.A t.ins.length t.c) := C0.out
        by_cases hk2 : k < t.ins.length ∧ k ≤ 300
        · obtain ⟨hk2, h300⟩ := hk2
          have hkn : (k : Int) < (t.ins.length : Int) := by omega
          have hk3 : (k : Int) ≤ 300 := by omega
          obtain ⟨b2, off2, hA2, hbb2, hr2⟩ := insC_row HI.out (fun j hj => (HIe.out j hj).id) (by omega)
          rw [hA2] at c0
          have hx := HIe.out _ (List.getElem_mem hk2)
          obtain ⟨x, hx2⟩ : ∃ x, t.ins[k] = x := ⟨_, rfl⟩
          have hr3 := hr2 k hk2
          rw [hx2] at hx hr3
          have c2 : (w.drewN q1).cell? ⟨b2, off2 + k * 34 + 33, none⟩ = some (.slice x.A x.wit.length x.c) := cell_of hr3 33 _ (inC_at hx.id).2
          have hwk : IntKind.i64.wrap ((k : Int) + 1) = (k : Int) + 1 := by rw [IntKind.wrap_i64]; omega
          obtain ⟨mn, hmn, hmnl⟩ : ∃ mn : Nat, (if (30001 : Int) < (x.wit.length : Int) then (30001 : Int) else (x.wit.length : Int)) = (mn : Int) ∧ mn ≤ 30001 := by
            by_cases h : (30001 : Int) < (x.wit.length : Int)
            · exact ⟨30001, by rw [if_pos h]; rfl, by omega⟩
            · exact ⟨x.wit.length, by rw [if_neg h], by omega⟩
          have htd : Int.tdiv (mn : Int) 50 = ((mn / 50 : Nat) : Int) := by rw [Int.tdiv_eq_ediv_of_nonneg (by omega)]; omega
          have hwq : IntKind.i64.wrap ((mn : Int) / 50) = (mn : Int) / 50 := by rw [IntKind.wrap_i64]; omega
          have hwd : IntKind.i64.wrap ((m2 : Int) + (mn : Int) / 50) = (m2 : Int) + (mn : Int) / 50 := by rw [IntKind.wrap_i64]; omega
          have HMn := Lib.hid hmn
          clear hA2 hbb2 hr2 hx hx2 hr3 hmn
          go_wp2_with ((with_reducible show wpList _ _ _ (⟨some 59, _, _, _, _, _⟩ :: _) _ _); refine wpList_min rfl (.tmp 58) 30001 rfl (x.wit.length : Int) (mn : Int) rfl HMn.out ?_)
          go_roundw
          case rel => exact ⟨m2 + mn / 50, k + 1, by simp, by omega, by omega, by omega, by omega, by go_num, q1, rfl⟩
          case measure => simp [intOf] <;> omega
        · by_cases hk3 : k < t.ins.length
          · have hkn : (k : Int) < (t.ins.length : Int) := by omega
            have hgb : decide ((k : Int) ≤ 300) = false := decide_eq_false (by omega)
            by_cases h6 : (600 : Int) < m2
            · go_wp2
              go_ret
              exact ⟨⟨true, rfl, (fun h => by cases h)⟩, q1, rfl⟩
            · go_wp2
              go_roundw
              case rel =>
                have HFw' : Hid (∀ j (hj : j < l.length), j < i + 1 → l[j].ins.length ≤ 600 ∧ l[j].outs.length ≤ 600) := by
                  intro j hj hji
                  by_cases h1 : j < i
                  · exact HFw.out j hj h1
                  · obtain rfl : j = i := by omega
                    rw [HTt.out]
                    omega
                exact ⟨m2, i + 1, rfl, by omega, by omega, by go_num, HFw'.out, q1, rfl⟩
              case measure => simp [intOf] <;> omega
          · have hkn : ¬ (k : Int) < (t.ins.length : Int) := by omega
            by_cases h6 : (600 : Int) < m2
            · go_wp2
              go_ret
              exact ⟨⟨true, rfl, (fun h => by cases h)⟩, q1, rfl⟩
            · go_wp2
              go_roundw
              case rel =>
                have HFw' : Hid (∀ j (hj : j < l.length), j < i + 1 → l[j].ins.length ≤ 600 ∧ l[j].outs.length ≤ 600) := by
                  intro j hj hji
                  by_cases h1 : j < i
                  · exact HFw.out j hj h1
                  · obtain rfl : j = i := by omega
                    rw [HTt.out]
                    omega
                exact ⟨m2, i + 1, rfl, by omega, by omega, by go_num, HFw'.out, q1, rfl⟩
              case measure => simp [intOf] <;> omega
    · by_cases hlt2 : i < l.length
      · have hin : (i : Int) < (l.length : Int) := by omega
        have hgb : decide ((i : Int) ≤ 40) = false := decide_eq_false (by omega)
        have hend : (40 : Int) < (l.length : Int) := by omega
        go_wp2
        go_ret
        exact ⟨⟨true, rfl, (fun h => by cases h)⟩, q0, rfl⟩
      · have hin : ¬ (i : Int) < (l.length : Int) := by omega
        clear hlt
        by_cases h40 : l.length ≤ 40
        · have hend : ¬ (40 : Int) < (l.length : Int) := by omega
          go_wp2
          go_ret
          exact ⟨⟨false, rfl, fun _ => (have hX : ∀ t ∈ l, t.ins.length ≤ 600 ∧ t.outs.length ≤ 600 := fun t ht => (by obtain ⟨j, hj, rfl⟩ := List.getElem_of_mem ht; exact HFw.out j hj (by omega)); by first | exact ⟨h40, hX⟩ | exact hX)⟩, q0, rfl⟩
        · have hend : (40 : Int) < (l.length : Int) := by omega
          go_wp2
          go_ret
          exact ⟨⟨true, rfl, (fun h => by cases h)⟩, q0, rfl⟩

/-- Few parents, and few transactions. -/
def fewL (b : BkR) : Prop := b.h.p.ps.length ≤ 600 ∧ b.txs.length ≤ 40 ∧ ∀ t ∈ b.txs, t.ins.length ≤ 600 ∧ t.outs.length ≤ 600
set_option maxHeartbeats 4000000 in
set_option maxRecDepth 100000 in
theorem much6L_any (w : World) (g c : Nat) (l : List BkR) (m : Nat) (hm : m ≤ 1000) (hr : ∀ k (hk : k < l.length), w.rangeAt g (k * 131) (bkC l[k])) (hk : ∀ b ∈ l, BkOk w b) (hl : l.length ≤ 1000) :
    Calls Try.prog 4 #[.slice (some ⟨g, 0, none⟩) l.length c, .int .i64 (m : Int)] w (MuchPost w (∀ b ∈ l, fewL b)) := by
  have HR := Lib.hid hr
  have HK := Lib.hid hk
  clear hr hk
  go_enter Try.func4, Try.ntmps4
  go_wp2
  go_loopw [5] (fun iv wr => ∃ i : Nat, i ≤ l.length ∧ iv = .int .i64 i ∧ Hid (∀ j (hj : j < l.length), j < i → fewL l[j]) ∧ ∃ q, wr = w.drewN q) (fun iv _ => l.length - (intOf iv).toNat)
  case atStart => exact ⟨0, by omega, rfl, fun j _ h => absurd h (Nat.not_lt_zero _), 0, rfl⟩
  case round =>
    obtain ⟨i, hi, rfl, HF, q0, rfl⟩ := hrel
    by_cases hlt : i < l.length ∧ i ≤ m
    · obtain ⟨hlt, h40⟩ := hlt
      have hin : (i : Int) < (l.length : Int) := by omega
      have hin2 : (i : Int) ≤ (m : Int) := by omega
      have hik := HK.out _ (List.getElem_mem hlt)
      have hrow := BkRow.of' (HR.out i hlt) hik.h.f
      obtain ⟨b, hb⟩ : ∃ b, l[i] = b := ⟨_, rfl⟩
      rw [hb] at hik hrow
      have HB : Hid (l[i] = b) := hb
      have c0 : (w.drewN q0).cell? ⟨g, i * 131, none⟩ = some (.slice b.h.A b.h.p.ps.length b.h.c) := hrow.1
      have c1 : (w.drewN q0).cell? ⟨g, i * 131 + 130, none⟩ = some (.slice b.B b.txs.length b.d) := hrow.2
      have HT : Hid (TxsOk (w.drewN q0) b.B b.txs b.d) := hik.t.later ⟨rfl, rfl, rfl, Nat.le_refl _, fun _ _ => rfl⟩
      have hwi : IntKind.i64.wrap ((i : Int) + 1) = (i : Int) + 1 := by rw [IntKind.wrap_i64]; omega
      clear hik hrow hb
      by_cases h6 : b.h.p.ps.length ≤ 600
      rotate_left 1
      · have hg : (600 : Int) < (b.h.p.ps.length : Int) := by omega
        clear h6
        go_wp2
        go_ret
        exact ⟨⟨true, rfl, (fun h => by cases h)⟩, q0, rfl⟩
      have hg : ¬ (600 : Int) < (b.h.p.ps.length : Int) := by omega
      have H6 := Lib.hid h6
      clear h6
      go_wp2_with (go_at_call 11; refine (much5L_any _ b.B b.txs b.d HT.out).mono ?_; rintro e w2 ⟨⟨z, rfl, hz⟩, q1, rfl⟩; have HZ := Lib.hid hz; clear hz; cases z)
      · have HF' : Hid (∀ j (hj : j < l.length), j < i + 1 → fewL l[j]) := by
          intro j hj hji
          by_cases h1 : j < i
          · exact HF.out j hj h1
          · obtain rfl : j = i := by omega
            rw [HB.out]
            exact ⟨H6.out, HZ.out (by first | rfl | trivial)⟩
        go_wp2
        go_roundw
        case rel => exact ⟨i + 1, by omega, by go_num, HF'.out, q0 + q1, by simp⟩
        case measure => simp [intOf] <;> omega
      · go_wp2
        go_ret
        exact ⟨⟨true, rfl, (fun h => by cases h)⟩, q0 + q1, by simp⟩
    · by_cases hlt2 : i < l.length
      · have hin : (i : Int) < (l.length : Int) := by omega
        have hgb : decide ((i : Int) ≤ (m : Int)) = false := decide_eq_false (by omega)
        have hend : (m : Int) < (l.length : Int) := by omega
        go_wp2
        go_ret
        exact ⟨⟨true, rfl, (fun h => by cases h)⟩, q0, rfl⟩
      · have hin : ¬ (i : Int) < (l.length : Int) := by omega
        obtain rfl : i = l.length := by omega
        clear hlt hlt2
        have HAll : Hid (∀ b ∈ l, fewL b) := by
          intro b hb
          obtain ⟨j, hj, rfl⟩ := List.getElem_of_mem hb
          exact HF.out j hj hj
        by_cases h40 : l.length ≤ m
        · have hend : ¬ (m : Int) < (l.length : Int) := by omega
          go_wp2
          go_ret
          exact ⟨⟨false, rfl, fun _ => HAll.out⟩, q0, rfl⟩
        · have hend : (m : Int) < (l.length : Int) := by omega
          go_wp2
          go_ret
          exact ⟨⟨true, rfl, (fun h => by cases h)⟩, q0, rfl⟩
end Go.Proofs.Ytjcbihdhkaiidaa
