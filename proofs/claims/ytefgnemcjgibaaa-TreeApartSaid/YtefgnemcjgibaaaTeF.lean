/-
  tree: the chapter's rows.
-/
import Derived.Test.YtefgnemcjgibaaaTeE
namespace Go.Proofs.Ytefgnemcjgibaaa
open Go.RowKit

theorem TrTo.v {w0 w w' : World} {base p : Nat} {m m' : TrM} (hv : Below w0.heap.size w0 w) (hg : TrOk w base m) (ha : TrTo w base m p m' w') (hb : w0.heap.size ≤ base) : Below w0.heap.size w0 w' := hv.trans (ha.k.below hv.size fun j hj hf => by have := (hg.lt hf).1; omega)
theorem te_undT (w : World) (base : Nat) (m : TrM) (h : TrOk w base m) (hI : TrI m) (a b : Nat) (ha : a < m.L.length) (hb : b < m.L.length) (z : Bool) (hz : (z = true ↔ Und m.T a b)) : Calls Try.prog 16 #[.pointer (some ⟨m.q, 0, none⟩), .int .i64 (a : Int), .int .i64 (b : Int)] w fun e w' => e = .returned (.bool z) ∧ Below w.heap.size w w' := by
  have h1 := te_und w base m h a b ha hb hI.max
  have h2 := hI.iv.iff hI.ok (a := a) (b := b) (by rw [m.T_len]; exact ha) (by rw [m.T_len]; exact hb)
  have h3 : decide ((ndT m.T b).lo ≤ (ndT m.T a).lo ∧ (ndT m.T a).hi ≤ (ndT m.T b).hi) = z := by
    cases z with
    | true => exact decide_eq_true (h2.1 (hz.1 rfl))
    | false => exact decide_eq_false (fun k => by have := hz.2 (h2.2 k); cases this)
  rw [h3] at h1
  exact h1
set_option maxRecDepth 100000 in
set_option maxHeartbeats 4000000 in
theorem te_known (w : World) : Calls Try.prog 8 #[] w fun e w' => e = .returned (.bool true) ∧ Below w.heap.size w w' := by
  go_enter Try.func8, Try.ntmps8
  go_wp2_with (go_at_call 24; refine (te_new w).mono ?_; rintro e0 w0 ⟨m0, rfl, ho0, hi0, hl0, hd0, hb0⟩; have O0 := Lib.hid ho0; have I0 := Lib.hid hi0; have V0 := Lib.hid hb0; have L0 : Hid (m0.L.length = 1) := (by show _ = _; rw [hl0]; rfl); clear ho0 hi0 hl0 hd0 hb0)
  have A1 : Calls Try.prog 25 #[.pointer (some ⟨m0.q, 0, none⟩), .int .i64 0] w0 fun e w' => e = .returned (.tuple #[.int .i64 1, .int .i64 0]) ∧ ∃ m', TrTo w0 w.heap.size m0 0 m' w' := by
    have h9 := te_addT w0 w.heap.size m0 O0.out I0.out 0 (by rw [L0.out]; omega) (by rw [L0.out]; omega)
    rw [L0.out] at h9
    exact h9
  have HA1 := Lib.hid A1
  clear A1
  go_wp2_with ((with_reducible show Calls _ _ _ w0 _); refine HA1.out.mono ?_; rintro e1 w1 ⟨rfl, m1, ha⟩; have O1 := Lib.hid ha.ok; have I1 := Lib.hid ha.i; have V1 : Hid (Below w.heap.size w w1) := ha.v V0.out O0.out (Nat.le_refl _); have L1 : Hid (m1.L.length = 2) := (by show _ = _; rw [ha.len, L0.out]); have Hq1 : Hid (m1.q = m0.q) := ha.q; have P1 := Lib.hid ha.par; have N1 := Lib.hid ha.new; clear ha)
  have A2 : Calls Try.prog 25 #[.pointer (some ⟨m0.q, 0, none⟩), .int .i64 1] w1 fun e w' => e = .returned (.tuple #[.int .i64 2, .int .i64 0]) ∧ ∃ m', TrTo w1 w.heap.size m1 1 m' w' := by
    have h9 := te_addT w1 w.heap.size m1 O1.out I1.out 1 (by rw [L1.out]; omega) (by rw [L1.out]; omega)
    rw [L1.out, Hq1.out] at h9
    exact h9
  have HA2 := Lib.hid A2
  clear A2
  go_wp2_with ((with_reducible show Calls _ _ _ w1 _); refine HA2.out.mono ?_; rintro e2 w2 ⟨rfl, m2, ha⟩; have O2 := Lib.hid ha.ok; have I2 := Lib.hid ha.i; have V2 : Hid (Below w.heap.size w w2) := ha.v V1.out O1.out (Nat.le_refl _); have L2 : Hid (m2.L.length = 3) := (by show _ = _; rw [ha.len, L1.out]); have Hq2 : Hid (m2.q = m0.q) := (by show _ = _; rw [ha.q, Hq1.out]); have P2 := Lib.hid ha.par; have N2 := Lib.hid ha.new; clear ha)
  have A3 : Calls Try.prog 25 #[.pointer (some ⟨m0.q, 0, none⟩), .int .i64 0] w2 fun e w' => e = .returned (.tuple #[.int .i64 3, .int .i64 0]) ∧ ∃ m', TrTo w2 w.heap.size m2 0 m' w' := by
    have h9 := te_addT w2 w.heap.size m2 O2.out I2.out 0 (by rw [L2.out]; omega) (by rw [L2.out]; omega)
    rw [L2.out, Hq2.out] at h9
    exact h9
  have HA3 := Lib.hid A3
  clear A3
  go_wp2_with (first
    | ((with_reducible show Calls _ _ _ w2 _); refine HA3.out.mono ?_; rintro e3 w3 ⟨rfl, m3, ha⟩; have O3 := Lib.hid ha.ok; have I3 := Lib.hid ha.i; have V3 : Hid (Below w.heap.size w w3) := ha.v V2.out O2.out (Nat.le_refl _); have L3 : Hid (m3.L.length = 4) := (by show _ = _; rw [ha.len, L2.out]); have Hq3 : Hid (m3.q = m0.q) := (by show _ = _; rw [ha.q, Hq2.out]); have P3 := Lib.hid ha.par; have N3 := Lib.hid ha.new; have p21 : (ndT m3.T 2).par = 1 := (by have h1 := P3.out 2 (by rw [L2.out]; omega); have h2 := N2.out; rw [L1.out] at h2; rw [h1.1, h2.1]); have hu1 := te_undT w3 w.heap.size m3 O3.out I3.out 2 1 (by rw [L3.out]; omega) (by rw [L3.out]; omega) true ⟨fun _ => .up (by omega) (by rw [m3.T_len, L3.out]; omega) (by rw [p21]; exact .refl _), fun _ => rfl⟩; rw [Hq3.out] at hu1; have HU1 : Hid (Calls Try.prog 16 #[.pointer (some ⟨m0.q, 0, none⟩), .int .i64 2, .int .i64 1] w3 fun e w' => e = .returned (.bool true) ∧ Below w3.heap.size w3 w') := hu1; have HU2 : ∀ W, Below w3.heap.size w3 W → Calls Try.prog 16 #[.pointer (some ⟨m0.q, 0, none⟩), .int .i64 2, .int .i64 3] W fun e w' => e = .returned (.bool false) ∧ Below W.heap.size W w' := (fun W hW => by have h9 := te_undT W w.heap.size m3 (O3.out.later hW) I3.out 2 3 (by rw [L3.out]; omega) (by rw [L3.out]; omega) false ⟨fun k => (by cases k), fun k => (by have := k.le I3.out.ok; omega)⟩; rw [Hq3.out] at h9; exact h9); clear ha p21 hu1)
    | ((with_reducible show Calls _ _ #[_, _, .int .i64 1] _ _); refine (HU1.out).mono ?_; rintro e5 w4 ⟨rfl, hb4⟩; have V4 := Lib.hid hb4; clear hb4)
    | ((with_reducible show Calls _ _ #[_, _, .int .i64 3] _ _); refine (HU2 w4 V4.out).mono ?_; rintro e6 w5 ⟨rfl, hb5⟩; have V5 := Lib.hid hb5; clear hb5))
  go_ret
  exact ⟨rfl, nxTo (nxTo V3.out V4.out) V5.out⟩
end Go.Proofs.Ytefgnemcjgibaaa
