/-
  Hex, of the program and of the document: the same text.
-/
import Derived.Test.YtpdidobmfoapiaaHex
namespace Go.Proofs.Ytpdidobmfoapiaa
open Go.RowKit

section
variable {P : Program} {w : World}
theorem step_append_sees {ops : Array Oper} {o : Oper} {a : Act} {K : Act → World → Prop} {Q : Exit → Act → World → Prop} {E : Prop} (hgd : o.guard = none) (s x : Operand) (t : TypeId)
    (ho : o.op = .call { callee := .builtin .append, args := #[s, x], argTypes := #[t, t] })
    (base : Nat) (e : TypeId) (i : TypeInfo) (z : Value) (ht : P.underlying t = some (.slice e)) (hi : P.info? e = some i) (hz : i.zero = some z)
    (hsize : i.size = 1) (hby : i.bytes = 1) (hzs : z.cells.size = 1)
    (v : Value) (n : Nat) (xs : List Value) (hs : a.eval s = v) (hown : w.ownsRow base e 1 v n xs)
    (B : Nat) (A : Option Addr) (m c : Nat) (l : List UInt8) (hx : a.eval x = .slice A m c) (hm : m = l.length) (hse : Sees w B A l) (hbytes : n + m ≤ 140737488355328) (hbase : base ≤ w.heap.size)
    (h : ∀ v' w', w'.ownsRow base e 1 v' (n + m) (xs ++ By l) → w.grownBy w' v.ownBlock → (v'.ownBlock = v.ownBlock ∨ v'.ownBlock = some w.heap.size) → K (a.put o.dst v') w') :
    if Region.wanted o (yielded ops a.tmps) = true then Oper.wp P o a w K Q else E := by
  have hw : Region.wanted o (yielded ops a.tmps) = true := by simp [Region.wanted, hgd]
  rw [if_pos hw]
  obtain ⟨v', w', hr, h2, h3, h4⟩ := run_append_sees (P := P) base t o.type e i z ht hi hz hsize hby hzs v n xs hown B A m c l hm hse hbytes hbase
  unfold Oper.wp execOp
  simp only [ho, resolve, invoke, builtin, Sem.run_bind, Sem.run_pure, Result.andThen_ok, List.map_toArray, List.map_cons, List.map_nil, hs, hx, hr]
  exact h v' w' h2 h3 h4
end

/-- The digits. -/
def digs : List UInt8 := [48, 49, 50, 51, 52, 53, 54, 55, 56, 57, 97, 98, 99, 100, 101, 102]
def dg (n : Nat) : UInt8 := digs.getD n 0
/-- The text of bytes. -/
def hexB (l : List UInt8) : List UInt8 := l.flatMap fun b => [dg (b.toNat / 16), dg (b.toNat % 16)]
theorem hexB_snoc (l : List UInt8) (k : Nat) (h : k < l.length) : hexB (l.take (k + 1)) = hexB (l.take k) ++ [dg (l[k].toNat / 16), dg (l[k].toNat % 16)] := by
  unfold hexB
  rw [List.take_add_one, List.flatMap_append, List.getElem?_eq_getElem h]
  simp
theorem hexB_length (l : List UInt8) : (hexB l).length = 2 * l.length := by
  induction l with
  | nil => rfl
  | cons b l ih => simp only [hexB, List.flatMap_cons, List.length_append, List.length_cons, List.length_nil] at ih ⊢; omega

theorem dg_idx : ∀ n : Nat, (h : n < 16) → (⟨#[48, 49, 50, 51, 52, 53, 54, 55, 56, 57, 97, 98, 99, 100, 101, 102]⟩ : ByteArray)[n]'h = dg n := by decide
theorem run_dg {P : Program} {t : TypeId} (h : P.underlying t = some .string) (x : Int) (n : Nat) (hx : x = n) (hn : n < 16) (w : World) :
    (Instr.index t (.string ⟨#[48, 49, 50, 51, 52, 53, 54, 55, 56, 57, 97, 98, 99, 100, 101, 102]⟩) (.int .u8 x)).run P w = .ok (.int .u8 ((dg n).toNat : Int)) w := by
  subst hx
  rw [run_index_string _ _ _ _ _ h, dif_pos ⟨by omega, by show (n : Int) < 16; omega⟩]
  congr 3
  exact congrArg UInt8.toNat (dg_idx n hn)
theorem bits_15 (b : UInt8) : bits .and .u8 (b.toNat : Int) 15 = ((b.toNat % 16 : Nat) : Int) :=
  (by decide +kernel : ∀ n : Nat, n < 256 → bits .and .u8 (n : Int) 15 = ((n % 16 : Nat) : Int)) _ b.toNat_lt
theorem Below.drew' {B : Nat} {w w' : World} (h : Below B w w') : Below B w w'.drew := ⟨h.os, h.tape, h.output, h.size, h.block⟩

/-- What Hex answers. -/
def HexPost (w : World) (l : List UInt8) (e : Ending) (w' : World) : Prop := e = .returned (.string (Str (hexB l))) ∧ Below w.heap.size w w'

set_option maxHeartbeats 400000 in
set_option maxRecDepth 100000 in
theorem hex_any (w : World) (A : Option Addr) (n c : Nat) (l : List UInt8) (hn : n = l.length) (hS : Sees w w.heap.size A l) (hmax : n ≤ 10000) :
    Calls Try.prog 31 #[.slice A n c] w (HexPost w l) := by
  subst hn
  have HS := Lib.hid hS
  clear hS
  obtain ⟨i0, hi, hz0, hz1, hz2⟩ := info_parts Try.u8info
  obtain ⟨w1, hr, hown0, hgr0⟩ := run_make_own (P := Try.prog) w w.heap.size 25 5 i0 (.int .u8 0) 1 Try.underlying25 hi hz0 hz1 .i64 .i64 (2 * l.length) (by rw [hz2]; omega) (by simp only [maxLen]; omega) (Nat.le_refl _)
  rw [show ((2 * l.length : Nat) : Int) = 2 * (l.length : Int) by omega] at hr
  have Hown0 := Lib.hid hown0
  have hbel0 : Below w.heap.size w w1 := (Below.refl _ _).grown hgr0 (Nat.le_refl _) (fun j hj => by cases hj)
  clear hown0 hgr0
  go_enter Try.func31, Try.ntmps31
  go_wp2
  go_loopw [3, 12] (fun v i wr => ∃ (k : Nat) (A1 : Option Addr) (c1 : Nat), k ≤ l.length ∧ i = .int .i64 k ∧ v = .slice A1 (2 * k) c1 ∧ Hid (wr.ownsRow w.heap.size 5 1 (.slice A1 (2 * k) c1) (2 * k) (By (hexB (l.take k)))) ∧ Below w.heap.size w wr) (fun _ i _ => l.length - (intOf i).toNat)
  case atStart => exact ⟨0, _, _, Nat.zero_le _, rfl, rfl, Hown0.out, hbel0⟩
  case round =>
    obtain ⟨k, A1, c1, hk, rfl, rfl, Hown, hbel⟩ := hrel
    by_cases hlt : k < l.length
    · obtain ⟨b, off, rfl, hb, hr⟩ := (HS.out.below hbel).at_ hlt
      have hc := hr k hlt
      have hx : l[k].toNat < 256 := l[k].toNat_lt
      have q1 : ∀ wq, (Instr.index 9 (.string ⟨#[48, 49, 50, 51, 52, 53, 54, 55, 56, 57, 97, 98, 99, 100, 101, 102]⟩) (.int .u8 ((l[k].toNat : Int) / 16))).run Try.prog wq = .ok (.int .u8 ((dg (l[k].toNat / 16)).toNat : Int)) wq := fun wq => run_dg Try.underlying9 _ _ (by omega) (by omega) wq
      have q2 : ∀ wq, (Instr.index 9 (.string ⟨#[48, 49, 50, 51, 52, 53, 54, 55, 56, 57, 97, 98, 99, 100, 101, 102]⟩) (.int .u8 (bits .and .u8 (l[k].toNat : Int) 15))).run Try.prog wq = .ok (.int .u8 ((dg (l[k].toNat % 16)).toNat : Int)) wq := fun wq => run_dg Try.underlying9 _ _ (bits_15 _) (by omega) wq
      clear hr
      go_wp2
      go_region_law (refine step_append_sees rfl (.tmp 16) (.tmp 23) 25 rfl w.heap.size 5 i0 (.int .u8 0) Try.underlying25 hi hz0 hz1 hz2 rfl (.slice A1 (2 * k) c1) (2 * k) (By (hexB (l.take k))) (by simp [Act.eval]) (Hown.out.alloc _) (wr.heap.size + 1) (some ⟨wr.heap.size, 0, none⟩) 2 2 [dg (l[k].toNat / 16), dg (l[k].toNat % 16)] (by simp [Act.eval]) rfl (Sees.lit wr [dg (l[k].toNat / 16), dg (l[k].toNat % 16)] 5) (by omega) (by have := hbel.size; simp; omega) ?_; intro v' w2 hown hgr hat; obtain ⟨A2, c2, rfl⟩ := own_form hown; have Hown2 : Hid (w2.ownsRow w.heap.size 5 1 (.slice A2 (2 * k + 2) c2) (2 * k + 2) (By (hexB (l.take (k + 1))))) := (by show World.ownsRow _ _ _ _ _ _ _; rw [hexB_snoc l k hlt, By_append]; exact hown); have hbel2 : Below w.heap.size w w2 := (Below.drew' (hbel.alloc hbel.size _)).grown hgr (by have := hbel.size; simp; omega) (fun j hj => (Hown.out.lt j hj).1); clear hown hgr hat)
      all_goals
        go_wp2
        go_roundw
        case rel => exact ⟨k + 1, A2, c2, by omega, by go_num, rfl, Hown2, hbel2⟩
        case measure => simp [intOf]; omega
    · obtain rfl : k = l.length := by omega
      have ho := Hown.out
      rw [List.take_length] at ho
      have qs : (convert 25 9 (.slice A1 (2 * l.length) c1)).run Try.prog wr = .ok (.string (Str (hexB l))) wr := run_string_sees Try.underlying25 Try.underlying5 Try.underlying9 (hexB_length l).symm (Sees.own ho)
      clear ho
      go_wp2
      go_ret
      exact ⟨rfl, hbel⟩

end Go.Proofs.Ytpdidobmfoapiaa
