/-
  The writers of package wire: what each call does, in the words of YWords.
-/
import Derived.Test.YtckomfffilonlaaDoorWords
import Derived.Test.YtckomfffilonlaaDoorProg
import Derived.WalkLawsBesides
import Derived.BigQuiet
import Derived.Deep.QuietTactic
namespace Go.Proofs.YtckomfffilonlaaDoor
open Go.RowKit

theorem Tryd.u8info : (Tryd.prog.info? 5).map (fun i => (i.zero, i.size, i.bytes)) = some (some (.int .u8 0), 1, 1) := by kernel_rfl

/-- A writer at block g: what was put, and whether it failed; its blocks are in S. -/
def Wr (w : World) (S : Nat → Prop) (g : Nat) (l : List UInt8) (bad : Bool) : Prop :=
  S g ∧ ∃ A c, Blk w g 59 #[.slice A l.length c, .bool bad] ∧ w.ownsRow 0 5 1 (.slice A l.length c) l.length (By l) ∧ ∀ k, (Value.slice A l.length c).ownBlock = some k → S k

theorem Wr.lt {w : World} {S : Nat → Prop} {g : Nat} {l : List UInt8} {bad : Bool} (h : Wr w S g l bad) : g < w.heap.size := by
  obtain ⟨_, A, c, hb, _⟩ := h; exact hb.lt
theorem Wr.below {w w' : World} {S : Nat → Prop} {g : Nat} {l : List UInt8} {bad : Bool} (h : Wr w S g l bad) (hb : Below w.heap.size w w') : Wr w' S g l bad := by
  obtain ⟨h1, A, c, hk, ho, hs⟩ := h
  exact ⟨h1, A, c, hk.below hb hk.lt, own_below ho hb (fun g' hg' => (ho.lt g' hg').2), hs⟩
theorem Wr.re {w : World} {S S' : Nat → Prop} {g : Nat} {l : List UInt8} {bad : Bool} (h : Wr w S g l bad) (hS : ∀ k, k < w.heap.size → S k → S' k) : Wr w S' g l bad := by
  obtain ⟨h1, A, c, hk, ho, hs⟩ := h
  exact ⟨hS g hk.lt h1, A, c, hk, ho, fun k e => hS k (ho.lt k e).2 (hs k e)⟩

def may (n : Int) : Bool := n == 1 || n == 2 || n == 4 || n == 8

set_option maxHeartbeats 400000 in
theorem maySize_any (n : Int) (w : World) : Calls Tryd.prog 61 #[.int .i64 n] w fun e w' => e = .returned (.bool (may n)) ∧ w = w' := by
  unfold may
  by_cases h1 : n = 1
  · subst h1
    go_enter Tryd.func61, Tryd.ntmps61
    go_wp2
    go_ret
    exact ⟨rfl, rfl⟩
  · by_cases h2 : n = 2
    · subst h2
      go_enter Tryd.func61, Tryd.ntmps61
      go_wp2
      go_ret
      exact ⟨rfl, rfl⟩
    · by_cases h4 : n = 4
      · subst h4
        go_enter Tryd.func61, Tryd.ntmps61
        go_wp2
        go_ret
        exact ⟨rfl, rfl⟩
      · have b1 : (n == 1) = false := beq_eq_false_iff_ne.2 h1
        have b2 : (n == 2) = false := beq_eq_false_iff_ne.2 h2
        have b4 : (n == 4) = false := beq_eq_false_iff_ne.2 h4
        go_enter Tryd.func61, Tryd.ntmps61
        go_wp2
        go_ret
        exact ⟨by simp [b1, b2, b4], rfl⟩

set_option maxHeartbeats 400000 in
theorem fail_nil (w : World) : Calls Tryd.prog 59 #[.pointer none] w fun e w' => e = .returned (.pointer none) ∧ w = w' := by
  go_enter Tryd.func59, Tryd.ntmps59
  go_wp2
  go_ret
  exact ⟨rfl, rfl⟩

set_option maxHeartbeats 400000 in
theorem fail_any (w : World) (S : Nat → Prop) (g : Nat) (l : List UInt8) (bad : Bool) (hW : Wr w S g l bad) :
    Calls Tryd.prog 59 #[.pointer (some ⟨g, 0, none⟩)] w fun e w' => e = .returned (.pointer (some ⟨g, 0, none⟩)) ∧ Wr w' S g [] true ∧ Keeps S w w' := by
  obtain ⟨hg, A, c, hb, ho, _⟩ := hW
  have c0 : w.cell? ⟨g, 0, none⟩ = some (.slice A l.length c) := hb.cell 0
  have c1 : w.cell? ⟨g, 1, none⟩ = some (.bool bad) := hb.cell 1
  have f0 : w.frozen? ⟨g, 0, none⟩ = false := hb.frozen 0
  have f1 : w.frozen? ⟨g, 1, none⟩ = false := hb.frozen 1
  have hlt := hb.lt
  go_enter Tryd.func59, Tryd.ntmps59
  go_wp2
  go_ret
  refine ⟨rfl, ⟨hg, none, 0, by simpa using (hb.set 0 (.slice none 0 0)).set 1 (.bool true), by simpa [By] using World.ownsRow_nil _ 0 _ 1, fun k e => by simp [Value.ownBlock] at e⟩, ((Keeps.refl _ _).setCell (by exact hg) _).setCell (by exact hg) _⟩

set_option maxHeartbeats 400000 in
theorem bytes_nil (w : World) (A : Option Addr) (n c : Nat) : Calls Tryd.prog 60 #[.pointer none, .slice A n c] w fun e w' => e = .returned (.pointer none) ∧ w = w' := by
  go_enter Tryd.func60, Tryd.ntmps60
  go_wp2
  go_ret
  exact ⟨rfl, rfl⟩

set_option maxHeartbeats 400000 in
theorem bytes_bad (w : World) (S : Nat → Prop) (g : Nat) (l : List UInt8) (hW : Wr w S g l true) (A : Option Addr) (n c : Nat) :
    Calls Tryd.prog 60 #[.pointer (some ⟨g, 0, none⟩), .slice A n c] w fun e w' => e = .returned (.pointer (some ⟨g, 0, none⟩)) ∧ w = w' := by
  obtain ⟨hg, A', c', hb, ho, _⟩ := hW
  have c1 : w.cell? ⟨g, 1, none⟩ = some (.bool true) := hb.cell 1
  go_enter Tryd.func60, Tryd.ntmps60
  go_wp2
  go_ret
  exact ⟨rfl, rfl⟩

set_option maxHeartbeats 400000 in
theorem bytes_ok (w : World) (S : Nat → Prop) (g : Nat) (l : List UInt8) (hW : Wr w S g l false) (hnew : ∀ k, w.heap.size ≤ k → S k) (Bx : Nat) (A : Option Addr) (n c : Nat) (x : List UInt8) (hn : n = x.length) (hx : Sees w Bx A x) (hlen : l.length + x.length ≤ 1099511627776) :
    Calls Tryd.prog 60 #[.pointer (some ⟨g, 0, none⟩), .slice A n c] w fun e w' => e = .returned (.pointer (some ⟨g, 0, none⟩)) ∧ Wr w' S g (l ++ x) false ∧ Keeps S w w' := by
  subst hn
  obtain ⟨hg, A', c', hb, ho, hso⟩ := hW
  have Hnew := Lib.hid hnew
  have Hso := Lib.hid hso
  clear hnew hso
  obtain ⟨i0, hi, hz0, hz1, hz2⟩ := info_parts Tryd.u8info
  have c0 : w.cell? ⟨g, 0, none⟩ = some (.slice A' l.length c') := hb.cell 0
  have c1 : w.cell? ⟨g, 1, none⟩ = some (.bool false) := hb.cell 1
  go_enter Tryd.func60, Tryd.ntmps60
  go_wp2_with (at_builtin; refine wpList_append_sees rfl (.tmp 18) (.tmp 19) 30 rfl 0 5 i0 (.int .u8 0) Tryd.underlying30 hi hz0 hz1 hz2 rfl (.slice A' l.length c') l.length (By l) rfl ho Bx A x.length c x rfl rfl hx (by omega) (Nat.zero_le _) ?_; intro v' w1 hown hgr hat; obtain ⟨A1, c2, rfl⟩ := own_form hown; have Hat := Lib.hid hat; clear hat; have hb1 : Blk w1 g 59 #[.slice A' l.length c', .bool false] := hb.of_eq (hgr.block g hb.lt (hb.notOwn ho (by decide))); have d0 : w1.cell? ⟨g, 0, none⟩ = some (.slice A' l.length c') := hb1.cell 0; have e0 : w1.frozen? ⟨g, 0, none⟩ = false := hb1.frozen 0)
  go_ret
  have hkp : Keeps S w w1 := (Keeps.refl _ _).grown hgr (fun k hk => Hso.out k hk)
  refine ⟨rfl, ⟨hg, A1, c2, ?_, ?_, fun k hk => ?_⟩, hkp.setCell (by exact hg) _⟩
  · have := hb1.set 0 (.slice A1 (l.length + x.length) c2)
    simpa using this
  · have := own_store hown hb1 (by decide) 0 (.slice A1 (l.length + x.length) c2)
    simpa [By] using this
  · rw [List.length_append] at hk
    rcases Hat.out with e | e
    · rw [e] at hk; exact Hso.out k hk
    · rw [e] at hk; injection hk with hk; exact Hnew.out k (by omega)

end Go.Proofs.YtckomfffilonlaaDoor
