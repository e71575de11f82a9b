/-
  bytes.Compare, of what two slices show.
-/
import Derived.Test.YtndkjmmmneianaaDoorWords
import Derived.Lib.Bytealg
import Derived.Test.YtndkjmmmneianaaDoorProg
namespace Go.Proofs.YtndkjmmmneianaaDoor
open Go.RowKit

theorem run_loadBytes {P : Program} {w : World} {b : Nat} : ∀ (l : List UInt8) (off : Nat) (acc : ByteArray), (∀ i (h : i < l.length), w.cell? ⟨b, off + i, none⟩ = some (.int .u8 (l[i].toNat : Int))) →
    (Extern.Bytes.loadBytes ⟨b, off, none⟩ l.length acc).run P w = .ok ⟨(acc.data.toList ++ l).toArray⟩ w
  | [], off, acc, _ => by
    simp [Extern.Bytes.loadBytes, Sem.run_pure]
  | x :: r, off, acc, h => by
    have h0 := h 0 (by simp)
    rw [Nat.add_zero] at h0
    have ih := run_loadBytes (P := P) (w := w) (b := b) r (off + 1) (acc.push x) (fun i hi => by
      have := h (i + 1) (by simpa using hi)
      rw [show off + (i + 1) = off + 1 + i by omega] at this
      simpa using this)
    rw [List.length_cons, Extern.Bytes.loadBytes]
    have hl : Sem.run P (load ⟨b, off, none⟩) w = .ok (.int .u8 (x.toNat : Int)) w := by
      unfold load
      simp [Sem.run, h0]
    rw [Sem.run_bind, hl, Result.andThen_ok]
    have e : (Int.toNat (x.toNat : Int)).toUInt8 = x := by simp
    simp only [e]
    have ea : (⟨b, off, none⟩ : Addr).add 1 = ⟨b, off + 1, none⟩ := rfl
    rw [ea, ih]
    simp
theorem run_bytesOf {P : Program} {w : World} {B : Nat} {A : Option Addr} {l : List UInt8} {c : Nat} (h : Sees w B A l) : (Extern.Bytes.bytesOf (.slice A l.length c)).run P w = .ok ⟨l.toArray⟩ w := by
  rcases h with rfl | ⟨b, off, rfl, _, hc⟩
  · cases A with
    | none => rfl
    | some a => rfl
  · have := run_loadBytes (P := P) (w := w) (b := b) l off .empty hc
    show Sem.run P (Extern.Bytes.loadBytes ⟨b, off, none⟩ l.length .empty) w = _
    rw [this]
    rfl
theorem run_compare {w : World} {B B' : Nat} {A C : Option Addr} {a b : List UInt8} {c d : Nat} (ha : Sees w B A a) (hb : Sees w B' C b) :
    (callFunc 85 #[.slice A a.length c, .slice C b.length d]).run Tryd.prog w = .ok (.value (.int .i64 (Lib.compareBytes a b))) w := by
  rw [run_callFunc_extern (e := Extern.BytealgCompare.compare) Tryd.func85 (by kernel_rfl) (by kernel_rfl) (by kernel_rfl) (by kernel_rfl)]
  have e : Sem.run Tryd.prog (Extern.BytealgCompare.compare #[.slice A a.length c, .slice C b.length d]) w = .ok (.int .i64 (Lib.compareBytes a b)) w := by
    change Sem.run Tryd.prog (do pure (goInt (Extern.BytealgCompare.cmp (← Extern.Bytes.bytesOf (.slice A a.length c)) (← Extern.Bytes.bytesOf (.slice C b.length d))))) w = _
    rw [Sem.run_bind, run_bytesOf ha, Result.andThen_ok, Sem.run_bind, run_bytesOf hb, Result.andThen_ok, Lib.cmp_eq]
    rfl
  rw [e]
  rfl
theorem bytesCompare_any (w : World) (A C : Option Addr) (a b : List UInt8) (c d : Nat) (ha : Sees w w.heap.size A a) (hb : Sees w w.heap.size C b) :
    Calls Tryd.prog 73 #[.slice A a.length c, .slice C b.length d] w fun e w' => e = .returned (.int .i64 (Lib.compareBytes a b)) ∧ w' = w := by
  have hE := run_compare (c := c) (d := d) ha hb
  go_enter Tryd.func73, Tryd.ntmps73
  go_wp2
  go_ret
  exact ⟨rfl, rfl⟩
end Go.Proofs.YtndkjmmmneianaaDoor
