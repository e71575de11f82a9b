/-
  Words of 32 bits as cells; what SHA-256 does, plain. · Words turned right: of the program and of the document.
  copy into the beginning of a block of bytes, from a slice that shows bytes.
-/
import Derived.Test.YtjcbihdhkaiidaaWords
import Derived.Test.YtjcbihdhkaiidaaChecked
import Derived.WalkKit
import Derived.Laws.CopyOwn
import Derived.Deep.RegionLaw
namespace Go.Proofs.Ytjcbihdhkaiidaa
open Go.RowKit

abbrev W32 := BitVec 32
/-- Words as cells. -/
def Wd (l : List W32) : List Value := l.map fun x => .int .u32 (x.toNat : Int)
theorem Wd_length (l : List W32) : (Wd l).length = l.length := by simp [Wd]
theorem Wd_append (l m : List W32) : Wd (l ++ m) = Wd l ++ Wd m := by simp [Wd]
theorem Wd_one (l : List W32) : ∀ u ∈ Wd l, u.oneCell' = true := by
  intro u hu
  obtain ⟨b, _, rfl⟩ := List.mem_map.1 hu
  rfl
theorem Wd_get (l : List W32) (i : Nat) (h : i < l.length) : (Wd l)[i]? = some (.int .u32 (l[i].toNat : Int)) := by simp [Wd, h]

theorem wrap_bv (n : Nat) : IntKind.u32.wrap (n : Int) = ((BitVec.ofNat 32 n).toNat : Int) := by
  rw [IntKind.wrap_u32]; simp only [BitVec.toNat_ofNat]; omega
theorem add_bv (a b : W32) : IntKind.u32.wrap ((a.toNat : Int) + (b.toNat : Int)) = ((a + b).toNat : Int) := by
  rw [IntKind.wrap_u32, BitVec.toNat_add]; omega
theorem xor_bv (a b : W32) : bits .xor .u32 (a.toNat : Int) (b.toNat : Int) = ((a ^^^ b).toNat : Int) := by
  rw [u32_xor_nat _ _ a.isLt b.isLt, BitVec.toNat_xor]
theorem and_bv (a b : W32) : bits .and .u32 (a.toNat : Int) (b.toNat : Int) = ((a &&& b).toNat : Int) := by
  rw [u32_and_nat _ _ a.isLt b.isLt, BitVec.toNat_and]
theorem or_bv (a b : W32) : bits .or .u32 (a.toNat : Int) (b.toNat : Int) = ((a ||| b).toNat : Int) := by
  rw [u32_or_nat _ _ a.isLt b.isLt, BitVec.toNat_or]
theorem shl_bv (a : W32) (n : Nat) : IntKind.u32.wrap ((a.toNat : Int) * 2 ^ n) = ((a <<< n).toNat : Int) := by
  rw [IntKind.wrap_u32, BitVec.toNat_shiftLeft, Nat.shiftLeft_eq]
  have : ((a.toNat : Int) * 2 ^ n) = ((a.toNat * 2 ^ n : Nat) : Int) := by push_cast; rfl
  rw [this]; omega
theorem shr_bv (a : W32) (n : Nat) : (a.toNat : Int) / 2 ^ n = ((a >>> n).toNat : Int) := by
  rw [BitVec.toNat_ushiftRight, Nat.shiftRight_eq_div_pow]; push_cast; rfl
theorem not_bv (a : W32) : (4294967295 : Int) - (a.toNat : Int) = ((~~~ a).toNat : Int) := by
  rw [BitVec.toNat_not]; have := a.isLt; omega

theorem add_bm (a b : W32) : ((a.toNat : Int) + (b.toNat : Int)) % 4294967296 = ((a + b).toNat : Int) := by rw [← IntKind.wrap_u32, add_bv]
theorem shl_bm (a : W32) (n : Nat) : (a.toNat : Int) * 2 ^ n % 4294967296 = ((a <<< n).toNat : Int) := by rw [← IntKind.wrap_u32, shl_bv]
theorem notx_bv (a : W32) : bits .xor .u32 (if IntKind.u32.signed = true then -1 else IntKind.u32.max) (a.toNat : Int) = ((~~~ a).toNat : Int) := by
  have e : (if IntKind.u32.signed = true then -1 else IntKind.u32.max) = (((4294967295 : W32).toNat : Nat) : Int) := rfl
  rw [e, xor_bv]
  congr 2
theorem add3_bm (a b c : W32) : ((a.toNat : Int) + (b.toNat : Int) + (c.toNat : Int)) % 4294967296 = ((a + b + c).toNat : Int) := by
  rw [BitVec.toNat_add, BitVec.toNat_add]; omega
theorem add4_bm (a b c d : W32) : ((a.toNat : Int) + (b.toNat : Int) + (c.toNat : Int) + (d.toNat : Int)) % 4294967296 = ((a + b + c + d).toNat : Int) := by
  rw [BitVec.toNat_add, BitVec.toNat_add, BitVec.toNat_add]; omega
theorem add5_bm (a b c d e : W32) : ((a.toNat : Int) + (b.toNat : Int) + (c.toNat : Int) + (d.toNat : Int) + (e.toNat : Int)) % 4294967296 = ((a + b + c + d + e).toNat : Int) := by
  rw [BitVec.toNat_add, BitVec.toNat_add, BitVec.toNat_add, BitVec.toNat_add]; omega
theorem shr3_bv (a : W32) : (a.toNat : Int) / (8 : Int) = ((a >>> 3).toNat : Int) := by have := shr_bv a 3; simpa using this
theorem shr10_bv (a : W32) : (a.toNat : Int) / (1024 : Int) = ((a >>> 10).toNat : Int) := by have := shr_bv a 10; simpa using this
theorem join4 (a b c d : Nat) (ha : a < 256) (hb : b < 256) (hc : c < 256) (hd : d < 256) :
    bits .or .u32 (bits .or .u32 (bits .or .u32 ((a : Int) % 4294967296 * 16777216 % 4294967296) ((b : Int) % 4294967296 * 65536 % 4294967296)) ((c : Int) % 4294967296 * 256 % 4294967296)) ((d : Int) % 4294967296)
      = ((BitVec.ofNat 32 (a * 16777216 + b * 65536 + c * 256 + d)).toNat : Int) := by
  have e1 : ((a : Int) % 4294967296 * 16777216 % 4294967296) = ((a * 16777216 : Nat) : Int) := by omega
  have e2 : ((b : Int) % 4294967296 * 65536 % 4294967296) = ((b * 65536 : Nat) : Int) := by omega
  have e3 : ((c : Int) % 4294967296 * 256 % 4294967296) = ((c * 256 : Nat) : Int) := by omega
  have e4 : ((d : Int) % 4294967296) = (d : Int) := by omega
  rw [e1, e2, e3, e4, u32_or_nat _ _ (by omega) (by omega), nat_join 24 _ _ (by omega) (by omega), u32_or_nat _ _ (by omega) (by omega), nat_join 16 _ _ (by omega) (by omega),
    u32_or_nat _ _ (by omega) (by omega), nat_join 8 _ _ (by omega) (by omega), BitVec.toNat_ofNat]
  omega
/-- Turned right. -/
def ror (x : W32) (n : Nat) : W32 := x >>> n ||| x <<< (32 - n)
theorem ror_add (x : W32) (n : Nat) (h0 : 0 < n) (h : n < 32) : x >>> n + x <<< (32 - n) = ror x n := by
  unfold ror
  refine (BitVec.add_eq_or_of_and_eq_zero _ _ ?_)
  ext i hi
  simp only [BitVec.getElem_and, BitVec.getElem_zero]
  rw [BitVec.getElem_ushiftRight, BitVec.getElem_shiftLeft]
  by_cases hlt : i < 32 - n
  · simp [hlt]
  · have : x.getLsbD (n + i) = false := BitVec.getLsbD_of_ge _ _ (by omega)
    simp [this]

def ss0 (x : W32) : W32 := ror x 7 ^^^ ror x 18 ^^^ x >>> 3
def ss1 (x : W32) : W32 := ror x 17 ^^^ ror x 19 ^^^ x >>> 10
def trn (x : W32) (i j k : Nat) : W32 := ror x i ^^^ ror x j ^^^ ror x k
def sS1 (x : W32) : W32 := trn x 6 11 25
def sS0 (x : W32) : W32 := trn x 2 13 22

/-- The t-th word of a block. -/
def wordAt (b : List UInt8) (t : Nat) : W32 :=
  BitVec.ofNat 32 ((b.getD (4 * t) 0).toNat * 16777216 + (b.getD (4 * t + 1) 0).toNat * 65536 + (b.getD (4 * t + 2) 0).toNat * 256 + (b.getD (4 * t + 3) 0).toNat)
/-- One word more. -/
def sprStep (b : List UInt8) (l : List W32) (t : Nat) : List W32 :=
  l ++ [if t < 16 then wordAt b t else l.getD (t - 16) 0 + ss0 (l.getD (t - 15) 0) + l.getD (t - 7) 0 + ss1 (l.getD (t - 2) 0)]
/-- The first t words. -/
def spr (b : List UInt8) : Nat → List W32
  | 0 => []
  | t + 1 => sprStep b (spr b t) t
theorem spr_length (b : List UInt8) (t : Nat) : (spr b t).length = t := by
  induction t with
  | zero => rfl
  | succ t ih => simp [spr, sprStep, ih]
theorem spr_get (b : List UInt8) (t k : Nat) (h : k < t) : ∀ s, t ≤ s → (spr b s).getD k 0 = (spr b t).getD k 0 := by
  intro s hs
  induction s with
  | zero => omega
  | succ s ih =>
    rcases Nat.lt_or_ge t (s + 1) with hlt | hge
    · rw [← ih (by omega)]
      simp only [spr, sprStep, List.getD_eq_getElem?_getD]
      rw [List.getElem?_append_left (by rw [spr_length]; omega)]
    · have : t = s + 1 := by omega
      rw [this]

/-- A state. -/
structure S8 where
  (a b c d e f g h : W32)
def S8.list (s : S8) : List W32 := [s.a, s.b, s.c, s.d, s.e, s.f, s.g, s.h]
theorem S8.list_length (s : S8) : s.list.length = 8 := rfl
def xOf (k w : W32) (s : S8) : W32 := s.h + sS1 s.e + ((s.e &&& s.f) ^^^ (~~~ s.e &&& s.g)) + k + w
def yOf (s : S8) : W32 := sS0 s.a + ((s.a &&& s.b) ^^^ (s.a &&& s.c) ^^^ (s.b &&& s.c))
def rnd (k w : W32) (s : S8) : S8 := ⟨xOf k w s + yOf s, s.a, s.b, s.c, s.d + xOf k w s, s.e, s.f, s.g⟩

def startL : List W32 := [0x6a09e667, 0xbb67ae85, 0x3c6ef372, 0xa54ff53a, 0x510e527f, 0x9b05688c, 0x1f83d9ab, 0x5be0cd19]
def kL : List W32 := [
  0x428a2f98, 0x71374491, 0xb5c0fbcf, 0xe9b5dba5, 0x3956c25b, 0x59f111f1, 0x923f82a4, 0xab1c5ed5,
  0xd807aa98, 0x12835b01, 0x243185be, 0x550c7dc3, 0x72be5d74, 0x80deb1fe, 0x9bdc06a7, 0xc19bf174,
  0xe49b69c1, 0xefbe4786, 0x0fc19dc6, 0x240ca1cc, 0x2de92c6f, 0x4a7484aa, 0x5cb0a9dc, 0x76f988da,
  0x983e5152, 0xa831c66d, 0xb00327c8, 0xbf597fc7, 0xc6e00bf3, 0xd5a79147, 0x06ca6351, 0x14292967,
  0x27b70a85, 0x2e1b2138, 0x4d2c6dfc, 0x53380d13, 0x650a7354, 0x766a0abb, 0x81c2c92e, 0x92722c85,
  0xa2bfe8a1, 0xa81a664b, 0xc24b8b70, 0xc76c51a3, 0xd192e819, 0xd6990624, 0xf40e3585, 0x106aa070,
  0x19a4c116, 0x1e376c08, 0x2748774c, 0x34b0bcb5, 0x391c0cb3, 0x4ed8aa4a, 0x5b9cca4f, 0x682e6ff3,
  0x748f82ee, 0x78a5636f, 0x84c87814, 0x8cc70208, 0x90befffa, 0xa4506ceb, 0xbef9a3f7, 0xc67178f2]
def start8 : S8 := ⟨0x6a09e667, 0xbb67ae85, 0x3c6ef372, 0xa54ff53a, 0x510e527f, 0x9b05688c, 0x1f83d9ab, 0x5be0cd19⟩
theorem start_list : start8.list = startL := rfl
theorem kL_length : kL.length = 64 := rfl

/-- The first t rounds. -/
def rnds (w : List W32) (s : S8) : Nat → S8
  | 0 => s
  | t + 1 => rnd (kL.getD t 0) (w.getD t 0) (rnds w s t)
def addS (s r : S8) : S8 := ⟨s.a + r.a, s.b + r.b, s.c + r.c, s.d + r.d, s.e + r.e, s.f + r.f, s.g + r.g, s.h + r.h⟩
def press (s : S8) (b : List UInt8) : S8 := addS s (rnds (spr b 64) s 64)

/-- A state as bytes. -/
def wordB (x : W32) : List UInt8 := [UInt8.ofNat (x.toNat / 16777216), UInt8.ofNat (x.toNat / 65536), UInt8.ofNat (x.toNat / 256), UInt8.ofNat x.toNat]
def stB (s : S8) : List UInt8 := s.list.flatMap wordB
theorem stB_length (s : S8) : (stB s).length = 32 := rfl

/-- The state behind the first n blocks of some bytes. -/
def runs (s : S8) (b : List UInt8) : Nat → S8
  | 0 => s
  | n + 1 => press (runs s b n) ((b.drop (64 * n)).take 64)
theorem runs_prefix (s : S8) (b c : List UInt8) (n : Nat) (h : 64 * n ≤ b.length) : runs s (b ++ c) n = runs s b n := by
  induction n with
  | zero => rfl
  | succ n ih =>
    simp only [runs]
    rw [ih (by omega), List.drop_append_of_le_length (by omega), List.take_append_of_le_length (by rw [List.length_drop]; omega)]
/-- A number of bits as eight bytes, the highest first. -/
def be8 (N : Nat) : List UInt8 := (List.range 8).map fun i => UInt8.ofNat (N / 256 ^ (7 - i))
theorem be8_length (N : Nat) : (be8 N).length = 8 := rfl
/-- How many noughts. -/
def noughts (n : Nat) : Nat := (119 - n % 64) % 64
def padB (n : Nat) : List UInt8 := 128 :: List.replicate (noughts n) 0 ++ be8 (8 * n)
theorem padB_length (n : Nat) : (padB n).length = 9 + noughts n := by simp [padB, be8_length]; omega
theorem pad_mod (n : Nat) : (n + (padB n).length) % 64 = 0 := by rw [padB_length, noughts]; omega
/-- The hash of some bytes. -/
def shaB (m : List UInt8) : List UInt8 := stB (runs start8 (m ++ padB m.length) ((m.length + (padB m.length).length) / 64))
theorem shaB_length (m : List UInt8) : (shaB m).length = 32 := rfl

end Go.Proofs.Ytjcbihdhkaiidaa
namespace Go.Proofs.Ytjcbihdhkaiidaa
open Go.RowKit

theorem neg_and (n : Nat) (h0 : 0 < n) (h : n < 32) : bits .and .u64 (IntKind.u64.wrap (-(n : Int))) 31 = ((32 - n : Nat) : Int) :=
  (by decide +kernel : ∀ n : Fin 32, 0 < n.val → bits .and .u64 (IntKind.u64.wrap (-(n.val : Int))) 31 = ((32 - n.val : Nat) : Int)) ⟨n, h⟩ h0

end Go.Proofs.Ytjcbihdhkaiidaa

namespace Go.Proofs.Ytjcbihdhkaiidaa
open Go.RowKit

/-- What lies behind a copy: the first ones of l, then what was there. -/
def over (cur l : List UInt8) (dLen : Nat) : List UInt8 := l.take dLen ++ cur.drop (Nat.min l.length dLen)
theorem over_nil (cur : List UInt8) (n : Nat) : over cur [] n = cur := by simp [over]
theorem over_all (cur l : List UInt8) (h : l.length = cur.length) : over cur l cur.length = l := by
  unfold over
  have : Nat.min l.length cur.length = cur.length := by rw [h]; exact Nat.min_self _
  rw [this]
  simp [← h]

theorem over_length (cur l : List UInt8) : (over cur l cur.length).length = cur.length := by
  unfold over
  rw [List.length_append, List.length_take, List.length_drop]
  show min cur.length l.length + (cur.length - min l.length cur.length) = cur.length
  omega

section
variable {P : Program} {w : World}
theorem run_copy_sees (dT sT ty elem : TypeId) (hu : P.underlying dT = some (.slice elem)) (hsz : (P.info? elem).map (·.size) = some 1)
    (g dLen dCap : Nat) (t : TypeId) (cur : List UInt8) (hg : Blk w g t (By cur).toArray) (hd : dLen ≤ cur.length) (B : Nat) (A : Option Addr) (l : List UInt8) (hs : Sees w B A l) (sLen sCap : Nat) (hl : sLen = l.length) :
    ∃ w', (Builtin.copy_ #[dT, sT] ty #[.slice (some ⟨g, 0, none⟩) dLen dCap, .slice A sLen sCap]).run P w = .ok (goInt (Nat.min sLen dLen)) w' ∧
      Blk w' g t (By (over cur l dLen)).toArray ∧ Keeps (· = g) w w' ∧ w'.heap.size = w.heap.size := by
  subst hl
  by_cases h0 : Nat.min l.length dLen = 0
  · refine ⟨w, ?_, ?_, Keeps.refl _ _, rfl⟩
    · rw [h0]; exact run_copy_none w dT sT ty elem _ A dLen dCap l.length sCap hu hsz h0
    · have : over cur l dLen = cur := by
        unfold over
        rw [h0]
        have : l.take dLen = [] := by
          have : (l.take dLen).length = 0 := by rw [List.length_take, Nat.min_comm]; exact h0
          exact List.eq_nil_of_length_eq_zero this
        simp [this]
      rw [this]; exact hg
  · have hpos : 0 < l.length := by
      rcases Nat.eq_zero_or_pos l.length with h | h
      · exact absurd (by rw [h]; exact Nat.zero_min _) h0
      · exact h
    obtain ⟨b, off, rfl, hb, hc⟩ := hs.at_ hpos
    have hlen : (By (l.take dLen)).length = Nat.min l.length dLen := by rw [By_length, List.length_take, Nat.min_comm]
    have hfit : 0 + (By (l.take dLen)).length ≤ (By cur).toArray.size := by
      rw [hlen]
      simp [By_length]
      exact Nat.le_trans (Nat.min_le_right _ _) hd
    have hr := run_copy_row (P := P) w dT sT ty elem g 0 dLen dCap ⟨b, off, none⟩ l.length sCap (By cur).toArray t (By (l.take dLen)) hu hsz hg hlen (fun j u hu => by
      obtain ⟨hj, rfl⟩ := By_get hu
      rw [Addr.add_lit, List.getElem_take]
      exact hc j (by rw [List.length_take] at hj; omega)) hfit (By_one _)
    rw [hlen] at hr
    refine ⟨_, hr, ?_, ⟨rfl, rfl, rfl, by simp, fun k _ hk => setRow_other w g k _ (by exact hk)⟩, by simp⟩
    have e : (List.take 0 (By cur).toArray.toList ++ By (l.take dLen) ++ List.drop (0 + Nat.min l.length dLen) (By cur).toArray.toList) = By (over cur l dLen) := by
      simp [over, By, List.map_drop]
    rw [e]
    exact setRow_heap w g _ _ t _ hg

theorem wp_copy_sees {o : Oper} {a : Act} {K : Act → World → Prop} {Q : Exit → Act → World → Prop} (d s : Operand) (dT sT : TypeId)
    (ho : o.op = .call { callee := .builtin .copy, args := #[d, s], argTypes := #[dT, sT] }) (elem : TypeId) (hu : P.underlying dT = some (.slice elem)) (hsz : (P.info? elem).map (·.size) = some 1)
    (g dLen dCap : Nat) (hd : a.eval d = .slice (some ⟨g, 0, none⟩) dLen dCap) (t : TypeId) (cur : List UInt8) (hg : Blk w g t (By cur).toArray) (hdl : dLen ≤ cur.length)
    (A : Option Addr) (sLen sCap : Nat) (hsv : a.eval s = .slice A sLen sCap) (B : Nat) (l : List UInt8) (hs : Sees w B A l) (hl : sLen = l.length)
    (h : ∀ w', Blk w' g t (By (over cur l dLen)).toArray → Keeps (· = g) w w' → w'.heap.size = w.heap.size → K (a.put o.dst (goInt (Nat.min sLen dLen))) w') : o.wp P a w K Q := by
  obtain ⟨w', hr, h1, h2, h3⟩ := run_copy_sees (P := P) dT sT o.type elem hu hsz g dLen dCap t cur hg hdl B A l hs sLen sCap hl
  unfold Oper.wp execOp
  simp only [ho, resolve, invoke, builtin, Sem.run_bind, Sem.run_pure, Result.andThen_ok, List.map_toArray, List.map_cons, List.map_nil, hd, hsv, hr]
  exact h w' h1 h2 h3

theorem wpList_copy_sees {ops : Array Oper} {rest : List Oper} {o : Oper} {a : Act} {Q : Exit → Act → World → Prop} (hgd : o.guard = none) (d s : Operand) (dT sT : TypeId)
    (ho : o.op = .call { callee := .builtin .copy, args := #[d, s], argTypes := #[dT, sT] }) (elem : TypeId) (hu : P.underlying dT = some (.slice elem)) (hsz : (P.info? elem).map (·.size) = some 1)
    (g dLen dCap : Nat) (hd : a.eval d = .slice (some ⟨g, 0, none⟩) dLen dCap) (t : TypeId) (cur : List UInt8) (hg : Blk w g t (By cur).toArray) (hdl : dLen ≤ cur.length)
    (A : Option Addr) (sLen sCap : Nat) (hsv : a.eval s = .slice A sLen sCap) (B : Nat) (l : List UInt8) (hs : Sees w B A l) (hl : sLen = l.length)
    (h : ∀ w', Blk w' g t (By (over cur l dLen)).toArray → Keeps (· = g) w w' → w'.heap.size = w.heap.size → wpList P ops Q rest (a.put o.dst (goInt (Nat.min sLen dLen))) w') : wpList P ops Q (o :: rest) a w :=
  wpList_plain hgd fun _ hK => wp_copy_sees d s dT sT ho elem hu hsz g dLen dCap hd t cur hg hdl A sLen sCap hsv B l hs hl fun w' h1 h2 h3 => hK _ _ (h w' h1 h2 h3)

theorem step_copy_sees {ops : Array Oper} {o : Oper} {a : Act} {K : Act → World → Prop} {Q : Exit → Act → World → Prop} {E : Prop} (hgd : o.guard = none) (d s : Operand) (dT sT : TypeId)
    (ho : o.op = .call { callee := .builtin .copy, args := #[d, s], argTypes := #[dT, sT] }) (elem : TypeId) (hu : P.underlying dT = some (.slice elem)) (hsz : (P.info? elem).map (·.size) = some 1)
    (g dLen dCap : Nat) (hd : a.eval d = .slice (some ⟨g, 0, none⟩) dLen dCap) (t : TypeId) (cur : List UInt8) (hg : Blk w g t (By cur).toArray) (hdl : dLen ≤ cur.length)
    (A : Option Addr) (sLen sCap : Nat) (hsv : a.eval s = .slice A sLen sCap) (B : Nat) (l : List UInt8) (hs : Sees w B A l) (hl : sLen = l.length)
    (h : ∀ w', Blk w' g t (By (over cur l dLen)).toArray → Keeps (· = g) w w' → w'.heap.size = w.heap.size → K (a.put o.dst (goInt (Nat.min sLen dLen))) w') :
    if Region.wanted o (yielded ops a.tmps) = true then Oper.wp P o a w K Q else E := by
  have hw : Region.wanted o (yielded ops a.tmps) = true := by simp [Region.wanted, hgd]
  rw [if_pos hw]
  exact wp_copy_sees d s dT sT ho elem hu hsz g dLen dCap hd t cur hg hdl A sLen sCap hsv B l hs hl h
end

section
variable {P : Program} {w : World}
/-- A whole array stored into a block of its own. -/
theorem run_storeVar_all (g : Nat) (t ty : TypeId) (old cells : Array Value) (hg : Blk w g t old) (hs : old.size = cells.size) (hi : (P.info? ty).map (·.size) = some cells.size) (h1 : ∀ v ∈ cells.toList, v.oneCell' = true) :
    ∃ w', (storeVar ty ⟨g, 0, none⟩ (.agg cells)).run P w = .ok () w' ∧ Blk w' g t cells ∧ Keeps (· = g) w w' ∧ w'.heap.size = w.heap.size := by
  have hst := run_storeCells_at P g 0 t cells.toList 0 old w hg (by simp; omega) h1
  cases hq : P.info? ty with
  | none => simp [hq] at hi
  | some i =>
    have hsz : cells.size = i.size := by simp [hq] at hi; omega
    refine ⟨w.setRow g cells, ?_, setRow_heap w g _ _ t _ hg, ⟨rfl, rfl, rfl, by simp, fun k _ hk => setRow_other w g k _ (by exact hk)⟩, by simp⟩
    have e : (List.take (0 + 0) old.toList ++ cells.toList ++ List.drop (0 + 0 + cells.toList.length) old.toList).toArray = cells := by
      have : List.drop cells.size old.toList = [] := List.drop_eq_nil_of_le (by simp; omega)
      simp [this]
    simp only [Nat.add_zero, Nat.zero_add, List.take_zero, List.nil_append, Array.length_toList] at hst e
    rw [e] at hst
    simp [storeVar, sizeOf, typeInfo, hq, Value.cells, hsz, hst]

theorem wpList_store_all {ops : Array Oper} {rest : List Oper} {op : Oper} {a : Act} {Q : Exit → Act → World → Prop} (hgd : op.guard = none) (ty : TypeId) (x y : Operand) (ho : op.op = .store ty x y)
    (g : Nat) (t : TypeId) (old cells : Array Value) (hx : a.eval x = .pointer (some ⟨g, 0, none⟩)) (hy : a.eval y = .agg cells) (hg : Blk w g t old) (hs : old.size = cells.size)
    (hi : (P.info? ty).map (·.size) = some cells.size) (h1 : ∀ v ∈ cells.toList, v.oneCell' = true)
    (h : ∀ w', Blk w' g t cells → Keeps (· = g) w w' → w'.heap.size = w.heap.size → wpList P ops Q rest (a.put op.dst undef) w') : wpList P ops Q (op :: rest) a w := by
  refine wpList_plain hgd fun _ hK => ?_
  obtain ⟨w', hr, h2, h3, h4⟩ := run_storeVar_all (P := P) g t ty old cells hg hs hi h1
  unfold Oper.wp execOp
  simp only [ho, hx, hy, Instr.storeAt, Instr.sureAddr, Sem.run_bind, Sem.run_pure, Result.andThen_ok, hr]
  exact hK _ _ (h w' h2 h3 h4)
end

end Go.Proofs.Ytjcbihdhkaiidaa
