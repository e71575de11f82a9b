/-
  disk: what it is asked, and the small steps: isMade, mayLog, modulo, Clone, Equal, burn.
-/
import Derived.Test.YthamlphebnhcpaaDoorDk1
import Derived.Test.YthamlphebnhcpaaDoorChecked
import Derived.Test.YthamlphebnhcpaaDoorRk
import Derived.Deep.RegionHeldLaw
import Derived.Deep.RegionHeld3
namespace Go.Proofs.YthamlphebnhcpaaDoor
open Go.RowKit

theorem infoD {P : Program} {t : TypeId} {z : Value} {s b : Nat} (h : (P.info? t).map (fun i => (i.zero, i.size, i.bytes)) = some (some z, s, b)) :
    ∃ i, P.info? t = some i ∧ i.zero = some z ∧ i.size = s ∧ i.bytes = b := by
  cases hi : P.info? t with
  | none => rw [hi] at h; cases h
  | some i =>
    rw [hi] at h
    simp only [Option.map_some, Option.some.injEq, Prod.mk.injEq] at h
    exact ⟨i, rfl, h.1, h.2.1, h.2.2⟩
theorem Tryd.u8info : (Tryd.prog.info? 5).map (fun i => (i.zero, i.size, i.bytes)) = some (some (.int .u8 0), 1, 1) := by kernel_rfl
theorem eql_snilD {P : Program} (w : World) (t e : TypeId) (a : Option Addr) (n c : Nat) (h : P.underlying t = some (.slice e)) :
    (binOp .eql t (.slice a n c) (.slice none 0 0)).run P w = .ok (.bool a.isNone) w := by
  simp only [binOp]
  simp [Op.equal, Op.maxDepth, Lib.run_equalIn_slice_nil w 9999 t e a n c 0 0 h]

theorem isMade_any (w : World) (g : Nat) (z : Bool) (hc : w.cell? ⟨g, 0, none⟩ = some (.bool z)) : Calls Tryd.prog 39 #[ptrD g] w fun e w' => e = .returned (.bool z) ∧ w' = w := by
  unfold ptrD
  go_enter Tryd.func39, Tryd.ntmps39
  go_wp2
  go_ret
  exact ⟨rfl, rfl⟩
theorem isMade_nil (w : World) : Calls Tryd.prog 39 #[.pointer none] w fun e w' => e = .returned (.bool false) ∧ w' = w := by
  go_enter Tryd.func39, Tryd.ntmps39
  go_wp2
  go_ret
  exact ⟨rfl, rfl⟩
theorem mayLog_any (w : World) (log : Int) : Calls Tryd.prog 43 #[.int .i64 log] w fun e w' => e = .returned (.bool (mayD log)) ∧ w' = w := by
  by_cases h0 : 0 ≤ log
  · have hz : mayD log = decide (log < 16) := by unfold mayD; rw [decide_eq_true h0, Bool.true_and]
    rw [hz]
    go_enter Tryd.func43, Tryd.ntmps43
    go_wp2
    go_ret
    exact ⟨rfl, rfl⟩
  · have hz : mayD log = false := by unfold mayD; rw [decide_eq_false h0, Bool.false_and]
    have hd : decide (0 ≤ log) = false := decide_eq_false h0
    rw [hz]
    go_enter Tryd.func43, Tryd.ntmps43
    go_wp2
    go_ret
    exact ⟨rfl, rfl⟩
theorem modulo_any (w : World) (n m : Int) (h0 : 0 < m) (hm : m ≤ 4611686018427387904) : Calls Tryd.prog 41 #[.int .i64 n, .int .i64 m] w fun e w' => e = .returned (.int .i64 (n % m)) ∧ w' = w := by
  obtain ⟨r, hr⟩ : ∃ r, n.tmod m = r := ⟨_, rfl⟩
  have hn : m ≠ 0 := by omega
  have hb : -m < r ∧ r < m := by
    rw [← hr]
    have h1 := Int.tmod_lt_of_pos n h0
    have h2 := Int.lt_tmod_of_pos n h0
    exact ⟨h2, h1⟩
  have hw : IntKind.i64.wrap (n.tmod m) = r := by rw [hr, IntKind.wrap_i64]; omega
  have he : n % m = if r < 0 then r + m else r := by
    have h1 : n = m * n.tdiv m + r := by rw [← hr]; exact (Int.mul_tdiv_add_tmod n m).symm
    have h2 : n % m = r % m := by
      conv => lhs; rw [h1]
      rw [Int.add_comm, Int.add_mul_emod_self_left]
    rw [h2]
    split
    · rw [← Int.add_emod_right, Int.emod_eq_of_lt (by omega) (by omega)]
    · exact Int.emod_eq_of_lt (by omega) (by omega)
  rw [he]
  clear he
  by_cases hz : r < 0
  · rw [if_pos hz]
    have hw2 : IntKind.i64.wrap (r + m) = r + m := by rw [IntKind.wrap_i64]; omega
    go_enter Tryd.func41, Tryd.ntmps41
    go_wp2
    go_ret
    exact ⟨rfl, rfl⟩
  · rw [if_neg hz]
    go_enter Tryd.func41, Tryd.ntmps41
    go_wp2
    go_ret
    exact ⟨rfl, rfl⟩
/-- What Clone answers. -/
def ClonePostD (w : World) (l : List UInt8) (e : Ending) (w' : World) : Prop := ∃ r : RowM, e = .returned r.v ∧ r.l = l ∧ r.own w' ∧ (∀ j, r.bk = some j → w.heap.size ≤ j) ∧ Below w.heap.size w w'
theorem bclone_any (w : World) (B : Nat) (A : Option Addr) (n c : Nat) (l : List UInt8) (hn : n = l.length) (h : Sees w B A l) (hm : n ≤ 100000000) : Calls Tryd.prog 38 #[.slice A n c] w (ClonePostD w l) := by
  unfold ClonePostD
  subst hn
  have HS := Lib.hid (h.alloc (.cells #[] 5))
  have HM := Lib.hid hm
  have HO : Hid ((w.alloc (.cells #[] 5)).ownsRow 0 5 1 (.slice (some ⟨w.heap.size, 0, none⟩) 0 0) 0 []) := own_made (cs := []) (heap_alloc_new w _) (Nat.zero_le _) (Nat.le_refl _) (Nat.zero_le _) rfl
  obtain ⟨i0, hi, hz0, hz1, hz2⟩ := infoD Tryd.u8info
  have hL : A = none → l = [] := fun e => by subst e; rcases h with h | ⟨_, _, h, _⟩; exact h; cases h
  clear h hm
  cases A with
  | none =>
    obtain rfl := hL rfl
    have hq : (binOp .eql 39 (.slice none 0 c) (.slice none 0 0)).run Tryd.prog w = .ok (.bool true) w := eql_snilD w 39 5 none 0 c Tryd.underlying39
    go_enter Tryd.func38, Tryd.ntmps38
    go_wp2
    go_ret
    exact ⟨noRow, rfl, rfl, noRow_own w, (fun j e => by cases e), nxRefl w⟩
  | some ad =>
    clear hL
    have hq : (binOp .eql 39 (.slice (some ad) l.length c) (.slice none 0 0)).run Tryd.prog w = .ok (.bool false) w := eql_snilD w 39 5 (some ad) l.length c Tryd.underlying39
    go_enter Tryd.func38, Tryd.ntmps38
    go_wp2_with (at_builtin; refine wpList_append_sees rfl (.tmp 5) (.tmp 6) 39 rfl 0 5 i0 _ Tryd.underlying39 hi hz0 hz1 hz2 rfl (.slice (some ⟨w.heap.size, 0, none⟩) 0 0) 0 [] rfl HO.out B (some ad) l.length c l rfl rfl HS.out (by have := HM.out; omega) (Nat.zero_le _) ?_; intro v3 w3 h1 h2 h3; have H1 := Lib.hid h1; have H2 := Lib.hid h2; have H3 := Lib.hid h3; clear h1 h2 h3)
    go_ret
    obtain ⟨A3, c3, rfl⟩ := own_form H1.out
    rw [Nat.zero_add] at H1
    refine ⟨⟨A3, c3, l⟩, by rw [Nat.zero_add]; rfl, rfl, H1.out, fun j e => ?_, ?_⟩
    · rcases H3.out with h | h
      · rw [own_blkD, own_blkD] at h
        have h5 : A3.map (·.block) = some j := e
        rw [h] at h5
        simp at h5
        omega
      · rw [own_blkD] at h
        have h5 : A3.map (·.block) = some j := e
        rw [h] at h5
        simp at h5
        omega
    · have k1 : Keeps (· = w.heap.size) (w.alloc (.cells #[] 5)) w3 := (Keeps.refl _ _).grown H2.out (fun k e => by simpa [Value.ownBlock] using e.symm)
      exact (nxAlloc (nxRefl w) _).trans (k1.below (by simp) (fun j hj => by omega))
theorem bequal_any (w : World) (A1 A2 : Option Addr) (n1 c1 n2 c2 : Nat) (l1 l2 : List UInt8) (h1 : n1 = l1.length) (h2 : n2 = l2.length) (s1 : Sees w w.heap.size A1 l1) (s2 : Sees w w.heap.size A2 l2) :
    Calls Tryd.prog 45 #[.slice A1 n1 c1, .slice A2 n2 c2] w fun e w' => e = .returned (.bool (l1 == l2)) ∧ w' = w := by
  have q1 := run_string_sees (P := Tryd.prog) (w := w) (c := c1) (n := n1) Tryd.underlying39 Tryd.underlying5 Tryd.underlying9 h1 s1
  have q2 := run_string_sees (P := Tryd.prog) (w := w) (c := c2) (n := n2) Tryd.underlying39 Tryd.underlying5 Tryd.underlying9 h2 s2
  clear s1 s2
  subst h1 h2
  obtain ⟨z, hz⟩ : ∃ z, (l1 == l2) = z := ⟨_, rfl⟩
  rw [hz]
  go_enter Tryd.func45, Tryd.ntmps45
  go_wp2
  go_ret
  exact ⟨rfl, rfl⟩
end Go.Proofs.YthamlphebnhcpaaDoor
