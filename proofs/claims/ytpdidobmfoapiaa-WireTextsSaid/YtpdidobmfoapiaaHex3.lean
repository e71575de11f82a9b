/-
  The document's Hex: the same text.
-/
import Derived.Test.YtpdidobmfoapiaaHex2
namespace Go.Proofs.Ytpdidobmfoapiaa
open Go.RowKit

set_option maxHeartbeats 1000000 in
set_option maxRecDepth 100000 in
theorem rhex_any (w : World) (A : Option Addr) (n c : Nat) (l : List UInt8) (hn : n = l.length) (hS : Sees w w.heap.size A l) (hmax : n ≤ 10000) :
    Calls Try.prog 32 #[.slice A n c] w (HexPost w l) := by
  subst hn
  have HS := Lib.hid hS
  clear hS
  obtain ⟨i0, hi, hz0, hz1, hz2⟩ := info_parts Try.u8info
  go_enter Try.func32, Try.ntmps32
  go_wp2
  go_loopw [4, 5] (fun v i wr => ∃ (k : Nat) (A1 : Option Addr) (c1 : Nat), k ≤ l.length ∧ i = .int .i64 k ∧ v = .slice A1 (2 * k) c1 ∧ Hid (wr.ownsRow w.heap.size 5 1 (.slice A1 (2 * k) c1) (2 * k) (By (hexB (l.take k)))) ∧ Below w.heap.size w wr) (fun _ i _ => l.length - (intOf i).toNat)
  case atStart => exact ⟨0, none, 0, Nat.zero_le _, rfl, rfl, World.ownsRow_nil _ _ _ _, Below.refl _ _⟩
  case round =>
    obtain ⟨k, A1, c1, hk, rfl, rfl, Hown, hbel⟩ := hrel
    by_cases hlt : k < l.length
    · obtain ⟨b, off, rfl, hb, hr⟩ := (HS.out.below hbel).at_ hlt
      have hc := hr k hlt
      have hx : l[k].toNat < 256 := l[k].toNat_lt
      have q1 : ∀ wq, (Instr.index 9 (.string ⟨#[48, 49, 50, 51, 52, 53, 54, 55, 56, 57, 97, 98, 99, 100, 101, 102]⟩) (.int .u8 (IntKind.u8.wrap ((l[k].toNat : Int) / 16)))).run Try.prog wq = .ok (.int .u8 ((dg (l[k].toNat / 16)).toNat : Int)) wq := fun wq => run_dg Try.underlying9 _ _ (by rw [IntKind.wrap_u8]; omega) (by omega) wq
      have q2 : ∀ wq, (Instr.index 9 (.string ⟨#[48, 49, 50, 51, 52, 53, 54, 55, 56, 57, 97, 98, 99, 100, 101, 102]⟩) (.int .u8 ((l[k].toNat : Int).tmod 16))).run Try.prog wq = .ok (.int .u8 ((dg (l[k].toNat % 16)).toNat : Int)) wq := fun wq => run_dg Try.underlying9 _ _ (by rw [Int.tmod_eq_emod_of_nonneg (by omega)]; omega) (by omega) wq
      clear hr
      go_wp2
      go_region_law (refine step_append_sees rfl (.tmp 12) (.tmp 27) 25 rfl w.heap.size 5 i0 (.int .u8 0) Try.underlying25 hi hz0 hz1 hz2 rfl (.slice A1 (2 * k) c1) (2 * k) (By (hexB (l.take k))) (by simp [Act.eval]) (Hown.out.alloc _) (wr.heap.size + 1) (some ⟨wr.heap.size, 0, none⟩) 2 2 [dg (l[k].toNat / 16), dg (l[k].toNat % 16)] (by simp [Act.eval]) rfl (Sees.lit wr [dg (l[k].toNat / 16), dg (l[k].toNat % 16)] 5) (by omega) (by have := hbel.size; simp; omega) ?_; intro v' w2 hown hgr hat; obtain ⟨A2, c2, rfl⟩ := own_form hown; have Hown2 : Hid (w2.ownsRow w.heap.size 5 1 (.slice A2 (2 * k + 2) c2) (2 * k + 2) (By (hexB (l.take (k + 1))))) := (by show World.ownsRow _ _ _ _ _ _ _; rw [hexB_snoc l k hlt, By_append]; exact hown); have hbel2 : Below w.heap.size w w2 := (Below.drew' (hbel.alloc hbel.size _)).grown hgr (by have := hbel.size; simp; omega) (fun j hj => (Hown.out.lt j hj).1); clear hown hgr hat)
      all_goals
        go_wp2
        go_roundw
        case rel => exact ⟨k + 1, A2, c2, by omega, by go_num, rfl, Hown2, hbel2⟩
        case measure => simp [intOf]; omega
    · obtain rfl : k = l.length := by omega
      have ho := Hown.out
      rw [List.take_length] at ho
      have qs : (convert 25 9 (.slice A1 (2 * l.length) c1)).run Try.prog wr = .ok (.string (Str (hexB l))) wr := run_string_sees Try.underlying25 Try.underlying5 Try.underlying9 (hexB_length l).symm (Sees.own ho)
      clear ho
      go_wp2
      go_ret
      exact ⟨rfl, hbel⟩

end Go.Proofs.Ytpdidobmfoapiaa
