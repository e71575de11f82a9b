/-
  block: headers in memory, and their bytes.
-/
import Derived.Test.YtjcbihdhkaiidaaPBlQ8
import Derived.Test.YtjcbihdhkaiidaaTx9
namespace Go.Proofs.Ytjcbihdhkaiidaa
open Go.RowKit

/-- A header as data. -/
structure HdP where
  ps : List (List UInt8)
  rt : List UInt8
  ac : List UInt8
  co : List UInt8
  mi : List UInt8
  nonce : Nat
deriving DecidableEq
/-- A header in memory. -/
structure HdR where
  A : Option Addr
  c : Nat
  p : HdP
def tlC (p : HdP) : List Value := By p.rt ++ (By p.ac ++ (By p.co ++ (By p.mi ++ [.int .u64 (p.nonce : Int)])))
def hdC (h : HdR) : List Value := .slice h.A h.p.ps.length h.c :: tlC h.p
structure HdFit (p : HdP) : Prop where
  ps : All32 p.ps
  rt : p.rt.length = 32
  ac : p.ac.length = 32
  co : p.co.length = 32
  mi : p.mi.length = 32
  nonce : p.nonce < 18446744073709551616
structure HdOk (w : World) (h : HdR) : Prop where
  s : SeesV w w.heap.size h.A (Hs h.p.ps)
  f : HdFit h.p
  c : h.p.ps.length ≤ h.c
  m : h.p.ps.length ≤ 140737488355328
theorem HdOk.later {w w' : World} {h : HdR} (k : HdOk w h) (hb : Below w.heap.size w w') : HdOk w' h := ⟨(k.s.later hb).more hb.size, k.f, k.c, k.m⟩
theorem tlC_len {p : HdP} (f : HdFit p) : (tlC p).length = 129 := by simp [tlC, By_length, f.rt, f.ac, f.co, f.mi]
theorem hdC_len {h : HdR} (f : HdFit h.p) : (hdC h).length = 130 := by simp [hdC, tlC_len f]
theorem tlC_one (p : HdP) : ∀ u ∈ tlC p, u.oneCell' = true := by
  intro u hu
  simp only [tlC, List.mem_append, List.mem_singleton] at hu
  rcases hu with hu | hu | hu | hu | hu
  iterate 4 exact By_one' _ u hu
  subst hu; rfl
theorem hdC_one (h : HdR) : ∀ u ∈ (hdC h).toArray.toList, u.oneCell' = true := by
  intro u hu
  rcases List.mem_cons.1 hu with rfl | hu
  · rfl
  · exact tlC_one _ u hu
theorem Try.sizeHd : (Try.prog.info? 27).map (·.size) = some 130 := by kernel_rfl
theorem hdSz {h : HdR} (f : HdFit h.p) : (Try.prog.info? 27).map (·.size) = some (hdC h).length := by rw [hdC_len f]; exact Try.sizeHd
theorem hdSz' {h : HdR} (f : HdFit h.p) : (Try.prog.info? 27).map (·.size) = some (hdC h).toArray.size := by rw [List.size_toArray, hdC_len f]; exact Try.sizeHd
theorem hsz {x : List UInt8} (h : x.length = 32) : (Try.prog.info? 24).map (·.size) = some (By x).length := by rw [By_length, h]; kernel_rfl
theorem rng_app {w : World} {b o : Nat} {xs ys : List Value} (h : w.rangeAt b o (xs ++ ys)) : w.rangeAt b o xs ∧ w.rangeAt b (o + xs.length) ys :=
  ⟨rng_prefix h, fun j v hv => by
    have := h (xs.length + j) v (by rw [List.getElem?_append_right (by omega)]; rw [show xs.length + j - xs.length = j by omega]; exact hv)
    rw [Nat.add_assoc]; exact this⟩
/-- A header in a block, part by part. -/
structure HdRow (w : World) (b : Nat) (h : HdR) : Prop where
  ps : w.cell? ⟨b, 0, none⟩ = some (.slice h.A h.p.ps.length h.c)
  rt : w.rangeAt b 1 (By h.p.rt)
  ac : w.rangeAt b 33 (By h.p.ac)
  co : w.rangeAt b 65 (By h.p.co)
  mi : w.rangeAt b 97 (By h.p.mi)
  nonce : w.cell? ⟨b, 129, none⟩ = some (.int .u64 (h.p.nonce : Int))
theorem HdRow.of {w : World} {b : Nat} {h : HdR} (r : w.rangeAt b 0 (hdC h)) (f : HdFit h.p) : HdRow w b h := by
  have h0 := r 0 _ rfl
  have h1 := rng_tail r
  unfold tlC at h1
  obtain ⟨a1, h2⟩ := rng_app h1
  obtain ⟨a2, h3⟩ := rng_app h2
  obtain ⟨a3, h4⟩ := rng_app h3
  obtain ⟨a4, h5⟩ := rng_app h4
  have h6 := h5 0 _ rfl
  simp only [By_length, f.rt, f.ac, f.co, f.mi, Nat.zero_add, Nat.add_zero] at a1 a2 a3 a4 h0 h6
  exact ⟨h0, a1, a2, a3, a4, h6⟩
theorem HdRow.keep {S : Nat → Prop} {w w' : World} {b : Nat} {h : HdR} (r : HdRow w b h) (k : Keeps S w w') (hlt : b < w.heap.size) (hn : ¬ S b) : HdRow w' b h :=
  ⟨cellS r.ps k hlt hn, rngS r.rt k hlt hn, rngS r.ac k hlt hn, rngS r.co k hlt hn, rngS r.mi k hlt hn, cellS r.nonce k hlt hn⟩
theorem HdRow.below {B : Nat} {w w' : World} {b : Nat} {h : HdR} (r : HdRow w b h) (k : Below B w w') (hlt : b < B) : HdRow w' b h :=
  ⟨(k.cell (p := ⟨b, 0, none⟩) hlt).trans r.ps, rngB r.rt k hlt, rngB r.ac k hlt, rngB r.co k hlt, rngB r.mi k hlt, (k.cell (p := ⟨b, 129, none⟩) hlt).trans r.nonce⟩

/-- A header's bytes. -/
def packH (p : HdP) : List UInt8 := leB p.ps.length 2 ++ (p.ps.flatten ++ (p.rt ++ (p.ac ++ (p.co ++ (p.mi ++ leB p.nonce 8)))))
theorem packH_len {p : HdP} (f : HdFit p) : (packH p).length = 138 + p.ps.length * 32 := by
  simp only [packH, List.length_append, leB_length, f.ps.flat, f.rt, f.ac, f.co, f.mi]; omega
/-- Has it no more parents than may be? -/
def mayH (p : HdP) : Bool := decide (p.ps.length ≤ 255)
theorem putCntH {l : List UInt8} {n : Nat} (hn : n ≤ 255) : putCount (some l) (n : Int) = some (l ++ leB n 2) := by
  have e1 : putN (some l) n 2 = some (l ++ leB n 2) := putN_ok (Z := 2) rfl (by omega)
  rw [putCount, if_pos (by omega), Int.toNat_natCast, e1]
theorem putTail {L : List UInt8} {p : HdP} (f : HdFit p) : putN (putB (putB (putB (putB (some L) p.rt) p.ac) p.co) p.mi) p.nonce 8 = some (L ++ (p.rt ++ (p.ac ++ (p.co ++ (p.mi ++ leB p.nonce 8))))) := by
  have e : putB (putB (putB (putB (some L) p.rt) p.ac) p.co) p.mi = some ((((L ++ p.rt) ++ p.ac) ++ p.co) ++ p.mi) := rfl
  rw [e, show (8 : Int) = ((8 : Nat) : Int) from rfl, putN_ok (Z := 8) rfl (by have := f.nonce; omega)]
  simp only [List.append_assoc]
/-- A guarded load that is wanted. -/
theorem wpList_load_midg {P : Program} {ops : Array Oper} {rest : List Oper} {op : Oper} {a : Act} {w : World} {Q : Exit → Act → World → Prop} (hw : Region.wanted op (yielded ops a.tmps) = true) (ty : TypeId) (x : Operand) (ho : op.op = .load ty x)
    (b o : Nat) (hx : a.eval x = .pointer (some ⟨b, o, none⟩)) (cs : List Value) (d : TypeDesc) (hc : w.rangeAt b o cs)
    (hu : P.underlying ty = some d) (hd : d.isRow = true) (hi : (P.info? ty).map (·.size) = some cs.length)
    (h : wpList P ops Q rest (a.put op.dst (.agg cs.toArray)) w) : wpList P ops Q (op :: rest) a w :=
  wpList_step fun _ hK => by rw [if_pos hw]; exact wp_load_mid ty x ho b o hx cs d hc hu hd hi (hK _ _ h)
end Go.Proofs.Ytjcbihdhkaiidaa
