/-
  Words of 32 bits as cells; what SHA-256 does, plain. · Words turned right: of the program and of the document.
-/
import Derived.Test.YtpfjkjogljilnaaDoorWords
import Derived.Test.YtpfjkjogljilnaaDoorChecked
import Derived.WalkKit
namespace Go.Proofs.YtpfjkjogljilnaaDoor
open Go.RowKit

abbrev W32 := BitVec 32
/-- Words as cells. -/
def Wd (l : List W32) : List Value := l.map fun x => .int .u32 (x.toNat : Int)
theorem Wd_length (l : List W32) : (Wd l).length = l.length := by simp [Wd]
theorem Wd_append (l m : List W32) : Wd (l ++ m) = Wd l ++ Wd m := by simp [Wd]
theorem Wd_one (l : List W32) : ∀ u ∈ Wd l, u.oneCell' = true := by
  intro u hu
  obtain ⟨b, _, rfl⟩ := List.mem_map.1 hu
  rfl
theorem Wd_get (l : List W32) (i : Nat) (h : i < l.length) : (Wd l)[i]? = some (.int .u32 (l[i].toNat : Int)) := by simp [Wd, h]

theorem wrap_bv (n : Nat) : IntKind.u32.wrap (n : Int) = ((BitVec.ofNat 32 n).toNat : Int) := by
  rw [IntKind.wrap_u32]; simp only [BitVec.toNat_ofNat]; omega
theorem add_bv (a b : W32) : IntKind.u32.wrap ((a.toNat : Int) + (b.toNat : Int)) = ((a + b).toNat : Int) := by
  rw [IntKind.wrap_u32, BitVec.toNat_add]; omega
theorem xor_bv (a b : W32) : bits .xor .u32 (a.toNat : Int) (b.toNat : Int) = ((a ^^^ b).toNat : Int) := by
  rw [u32_xor_nat _ _ a.isLt b.isLt, BitVec.toNat_xor]
theorem and_bv (a b : W32) : bits .and .u32 (a.toNat : Int) (b.toNat : Int) = ((a &&& b).toNat : Int) := by
  rw [u32_and_nat _ _ a.isLt b.isLt, BitVec.toNat_and]
theorem or_bv (a b : W32) : bits .or .u32 (a.toNat : Int) (b.toNat : Int) = ((a ||| b).toNat : Int) := by
  rw [u32_or_nat _ _ a.isLt b.isLt, BitVec.toNat_or]
theorem shl_bv (a : W32) (n : Nat) : IntKind.u32.wrap ((a.toNat : Int) * 2 ^ n) = ((a <<< n).toNat : Int) := by
  rw [IntKind.wrap_u32, BitVec.toNat_shiftLeft, Nat.shiftLeft_eq]
  have : ((a.toNat : Int) * 2 ^ n) = ((a.toNat * 2 ^ n : Nat) : Int) := by push_cast; rfl
  rw [this]; omega
theorem shr_bv (a : W32) (n : Nat) : (a.toNat : Int) / 2 ^ n = ((a >>> n).toNat : Int) := by
  rw [BitVec.toNat_ushiftRight, Nat.shiftRight_eq_div_pow]; push_cast; rfl
theorem not_bv (a : W32) : (4294967295 : Int) - (a.toNat : Int) = ((~~~ a).toNat : Int) := by
  rw [BitVec.toNat_not]; have := a.isLt; omega

theorem add_bm (a b : W32) : ((a.toNat : Int) + (b.toNat : Int)) % 4294967296 = ((a + b).toNat : Int) := by rw [← IntKind.wrap_u32, add_bv]
theorem shl_bm (a : W32) (n : Nat) : (a.toNat : Int) * 2 ^ n % 4294967296 = ((a <<< n).toNat : Int) := by rw [← IntKind.wrap_u32, shl_bv]
theorem notx_bv (a : W32) : bits .xor .u32 (if IntKind.u32.signed = true then -1 else IntKind.u32.max) (a.toNat : Int) = ((~~~ a).toNat : Int) := by
  have e : (if IntKind.u32.signed = true then -1 else IntKind.u32.max) = (((4294967295 : W32).toNat : Nat) : Int) := rfl
  rw [e, xor_bv]
  congr 2
theorem add3_bm (a b c : W32) : ((a.toNat : Int) + (b.toNat : Int) + (c.toNat : Int)) % 4294967296 = ((a + b + c).toNat : Int) := by
  rw [BitVec.toNat_add, BitVec.toNat_add]; omega
theorem add4_bm (a b c d : W32) : ((a.toNat : Int) + (b.toNat : Int) + (c.toNat : Int) + (d.toNat : Int)) % 4294967296 = ((a + b + c + d).toNat : Int) := by
  rw [BitVec.toNat_add, BitVec.toNat_add, BitVec.toNat_add]; omega
theorem add5_bm (a b c d e : W32) : ((a.toNat : Int) + (b.toNat : Int) + (c.toNat : Int) + (d.toNat : Int) + (e.toNat : Int)) % 4294967296 = ((a + b + c + d + e).toNat : Int) := by
  rw [BitVec.toNat_add, BitVec.toNat_add, BitVec.toNat_add, BitVec.toNat_add]; omega
theorem shr3_bv (a : W32) : (a.toNat : Int) / (8 : Int) = ((a >>> 3).toNat : Int) := by have := shr_bv a 3; simpa using this
theorem shr10_bv (a : W32) : (a.toNat : Int) / (1024 : Int) = ((a >>> 10).toNat : Int) := by have := shr_bv a 10; simpa using this
theorem join4 (a b c d : Nat) (ha : a < 256) (hb : b < 256) (hc : c < 256) (hd : d < 256) :
    bits .or .u32 (bits .or .u32 (bits .or .u32 ((a : Int) % 4294967296 * 16777216 % 4294967296) ((b : Int) % 4294967296 * 65536 % 4294967296)) ((c : Int) % 4294967296 * 256 % 4294967296)) ((d : Int) % 4294967296)
      = ((BitVec.ofNat 32 (a * 16777216 + b * 65536 + c * 256 + d)).toNat : Int) := by
  have e1 : ((a : Int) % 4294967296 * 16777216 % 4294967296) = ((a * 16777216 : Nat) : Int) := by omega
  have e2 : ((b : Int) % 4294967296 * 65536 % 4294967296) = ((b * 65536 : Nat) : Int) := by omega
  have e3 : ((c : Int) % 4294967296 * 256 % 4294967296) = ((c * 256 : Nat) : Int) := by omega
  have e4 : ((d : Int) % 4294967296) = (d : Int) := by omega
  rw [e1, e2, e3, e4, u32_or_nat _ _ (by omega) (by omega), nat_join 24 _ _ (by omega) (by omega), u32_or_nat _ _ (by omega) (by omega), nat_join 16 _ _ (by omega) (by omega),
    u32_or_nat _ _ (by omega) (by omega), nat_join 8 _ _ (by omega) (by omega), BitVec.toNat_ofNat]
  omega
/-- Turned right. -/
def ror (x : W32) (n : Nat) : W32 := x >>> n ||| x <<< (32 - n)
theorem ror_add (x : W32) (n : Nat) (h0 : 0 < n) (h : n < 32) : x >>> n + x <<< (32 - n) = ror x n := by
  unfold ror
  refine (BitVec.add_eq_or_of_and_eq_zero _ _ ?_)
  ext i hi
  simp only [BitVec.getElem_and, BitVec.getElem_zero]
  rw [BitVec.getElem_ushiftRight, BitVec.getElem_shiftLeft]
  by_cases hlt : i < 32 - n
  · simp [hlt]
  · have : x.getLsbD (n + i) = false := BitVec.getLsbD_of_ge _ _ (by omega)
    simp [this]

def ss0 (x : W32) : W32 := ror x 7 ^^^ ror x 18 ^^^ x >>> 3
def ss1 (x : W32) : W32 := ror x 17 ^^^ ror x 19 ^^^ x >>> 10
def trn (x : W32) (i j k : Nat) : W32 := ror x i ^^^ ror x j ^^^ ror x k
def sS1 (x : W32) : W32 := trn x 6 11 25
def sS0 (x : W32) : W32 := trn x 2 13 22

/-- The t-th word of a block. -/
def wordAt (b : List UInt8) (t : Nat) : W32 :=
  BitVec.ofNat 32 ((b.getD (4 * t) 0).toNat * 16777216 + (b.getD (4 * t + 1) 0).toNat * 65536 + (b.getD (4 * t + 2) 0).toNat * 256 + (b.getD (4 * t + 3) 0).toNat)
/-- One word more. -/
def sprStep (b : List UInt8) (l : List W32) (t : Nat) : List W32 :=
  l ++ [if t < 16 then wordAt b t else l.getD (t - 16) 0 + ss0 (l.getD (t - 15) 0) + l.getD (t - 7) 0 + ss1 (l.getD (t - 2) 0)]
/-- The first t words. -/
def spr (b : List UInt8) : Nat → List W32
  | 0 => []
  | t + 1 => sprStep b (spr b t) t
theorem spr_length (b : List UInt8) (t : Nat) : (spr b t).length = t := by
  induction t with
  | zero => rfl
  | succ t ih => simp [spr, sprStep, ih]
theorem spr_get (b : List UInt8) (t k : Nat) (h : k < t) : ∀ s, t ≤ s → (spr b s).getD k 0 = (spr b t).getD k 0 := by
  intro s hs
  induction s with
  | zero => omega
  | succ s ih =>
    rcases Nat.lt_or_ge t (s + 1) with hlt | hge
    · rw [← ih (by omega)]
      simp only [spr, sprStep, List.getD_eq_getElem?_getD]
      rw [List.getElem?_append_left (by rw [spr_length]; omega)]
    · have : t = s + 1 := by omega
      rw [this]

/-- A state. -/
structure S8 where
  (a b c d e f g h : W32)
def S8.list (s : S8) : List W32 := [s.a, s.b, s.c, s.d, s.e, s.f, s.g, s.h]
theorem S8.list_length (s : S8) : s.list.length = 8 := rfl
def xOf (k w : W32) (s : S8) : W32 := s.h + sS1 s.e + ((s.e &&& s.f) ^^^ (~~~ s.e &&& s.g)) + k + w
def yOf (s : S8) : W32 := sS0 s.a + ((s.a &&& s.b) ^^^ (s.a &&& s.c) ^^^ (s.b &&& s.c))
def rnd (k w : W32) (s : S8) : S8 := ⟨xOf k w s + yOf s, s.a, s.b, s.c, s.d + xOf k w s, s.e, s.f, s.g⟩

def startL : List W32 := [0x6a09e667, 0xbb67ae85, 0x3c6ef372, 0xa54ff53a, 0x510e527f, 0x9b05688c, 0x1f83d9ab, 0x5be0cd19]
def kL : List W32 := [
  0x428a2f98, 0x71374491, 0xb5c0fbcf, 0xe9b5dba5, 0x3956c25b, 0x59f111f1, 0x923f82a4, 0xab1c5ed5,
  0xd807aa98, 0x12835b01, 0x243185be, 0x550c7dc3, 0x72be5d74, 0x80deb1fe, 0x9bdc06a7, 0xc19bf174,
  0xe49b69c1, 0xefbe4786, 0x0fc19dc6, 0x240ca1cc, 0x2de92c6f, 0x4a7484aa, 0x5cb0a9dc, 0x76f988da,
  0x983e5152, 0xa831c66d, 0xb00327c8, 0xbf597fc7, 0xc6e00bf3, 0xd5a79147, 0x06ca6351, 0x14292967,
  0x27b70a85, 0x2e1b2138, 0x4d2c6dfc, 0x53380d13, 0x650a7354, 0x766a0abb, 0x81c2c92e, 0x92722c85,
  0xa2bfe8a1, 0xa81a664b, 0xc24b8b70, 0xc76c51a3, 0xd192e819, 0xd6990624, 0xf40e3585, 0x106aa070,
  0x19a4c116, 0x1e376c08, 0x2748774c, 0x34b0bcb5, 0x391c0cb3, 0x4ed8aa4a, 0x5b9cca4f, 0x682e6ff3,
  0x748f82ee, 0x78a5636f, 0x84c87814, 0x8cc70208, 0x90befffa, 0xa4506ceb, 0xbef9a3f7, 0xc67178f2]
def start8 : S8 := ⟨0x6a09e667, 0xbb67ae85, 0x3c6ef372, 0xa54ff53a, 0x510e527f, 0x9b05688c, 0x1f83d9ab, 0x5be0cd19⟩
theorem start_list : start8.list = startL := rfl
theorem kL_length : kL.length = 64 := rfl

/-- The first t rounds. -/
def rnds (w : List W32) (s : S8) : Nat → S8
  | 0 => s
  | t + 1 => rnd (kL.getD t 0) (w.getD t 0) (rnds w s t)
def addS (s r : S8) : S8 := ⟨s.a + r.a, s.b + r.b, s.c + r.c, s.d + r.d, s.e + r.e, s.f + r.f, s.g + r.g, s.h + r.h⟩
def press (s : S8) (b : List UInt8) : S8 := addS s (rnds (spr b 64) s 64)

/-- A state as bytes. -/
def wordB (x : W32) : List UInt8 := [UInt8.ofNat (x.toNat / 16777216), UInt8.ofNat (x.toNat / 65536), UInt8.ofNat (x.toNat / 256), UInt8.ofNat x.toNat]
def stB (s : S8) : List UInt8 := s.list.flatMap wordB
theorem stB_length (s : S8) : (stB s).length = 32 := rfl

/-- The state behind the first n blocks of some bytes. -/
def runs (s : S8) (b : List UInt8) : Nat → S8
  | 0 => s
  | n + 1 => press (runs s b n) ((b.drop (64 * n)).take 64)
theorem runs_prefix (s : S8) (b c : List UInt8) (n : Nat) (h : 64 * n ≤ b.length) : runs s (b ++ c) n = runs s b n := by
  induction n with
  | zero => rfl
  | succ n ih =>
    simp only [runs]
    rw [ih (by omega), List.drop_append_of_le_length (by omega), List.take_append_of_le_length (by rw [List.length_drop]; omega)]
/-- A number of bits as eight bytes, the highest first. -/
def be8 (N : Nat) : List UInt8 := (List.range 8).map fun i => UInt8.ofNat (N / 256 ^ (7 - i))
theorem be8_length (N : Nat) : (be8 N).length = 8 := rfl
/-- How many noughts. -/
def noughts (n : Nat) : Nat := (119 - n % 64) % 64
def padB (n : Nat) : List UInt8 := 128 :: List.replicate (noughts n) 0 ++ be8 (8 * n)
theorem padB_length (n : Nat) : (padB n).length = 9 + noughts n := by simp [padB, be8_length]; omega
theorem pad_mod (n : Nat) : (n + (padB n).length) % 64 = 0 := by rw [padB_length, noughts]; omega
/-- The hash of some bytes. -/
def shaB (m : List UInt8) : List UInt8 := stB (runs start8 (m ++ padB m.length) ((m.length + (padB m.length).length) / 64))
theorem shaB_length (m : List UInt8) : (shaB m).length = 32 := rfl

end Go.Proofs.YtpfjkjogljilnaaDoor
namespace Go.Proofs.YtpfjkjogljilnaaDoor
open Go.RowKit

theorem neg_and (n : Nat) (h0 : 0 < n) (h : n < 32) : bits .and .u64 (IntKind.u64.wrap (-(n : Int))) 31 = ((32 - n : Nat) : Int) :=
  (by decide +kernel : ∀ n : Fin 32, 0 < n.val → bits .and .u64 (IntKind.u64.wrap (-(n.val : Int))) 31 = ((32 - n.val : Nat) : Int)) ⟨n, h⟩ h0

set_option maxHeartbeats 400000 in
theorem rotl_any (w : World) (x : W32) (n : Nat) (h0 : 0 < n) (h : n < 32) :
    Calls Tryd.prog 85 #[.int .u32 (x.toNat : Int), .int .i64 (-(n : Int))] w fun e w' => e = .returned (.int .u32 ((ror x n).toNat : Int)) ∧ w' = w := by
  have hq := neg_and n h0 h
  go_enter Tryd.func85, Tryd.ntmps85
  go_wp2
  go_ret
  refine ⟨?_, rfl⟩
  rw [shl_bm, show 32 - (32 - n) = n by omega, shr_bv, or_bv, BitVec.or_comm]
  rfl

theorem right_any (w : World) (x : W32) (n : Nat) (h0 : 0 < n) (h : n < 32) :
    Calls Tryd.prog 82 #[.int .u32 (x.toNat : Int), .int .i64 (n : Int)] w fun e w' => e = .returned (.int .u32 ((ror x n).toNat : Int)) ∧ w' = w := by
  go_enter Tryd.func82, Tryd.ntmps82
  go_wp2_with (go_at_call 85; refine (rotl_any _ x n h0 h).mono ?_; rintro e w' ⟨rfl, rfl⟩)
  go_ret
  exact ⟨rfl, rfl⟩

theorem turns_any (w : World) (x : W32) (i j k : Nat) (hi : 0 < i) (hi' : i < 32) (hj : 0 < j) (hj' : j < 32) (hk : 0 < k) (hk' : k < 32) :
    Calls Tryd.prog 78 #[.int .u32 (x.toNat : Int), .int .i64 (i : Int), .int .i64 (j : Int), .int .i64 (k : Int)] w fun e w' => e = .returned (.int .u32 ((trn x i j k).toNat : Int)) ∧ w' = w := by
  go_enter Tryd.func78, Tryd.ntmps78
  go_wp2_with (first
    | (go_at_call 82; (with_reducible show Calls _ _ #[_, .int .i64 (i : Int)] _ _); refine (right_any _ x i hi hi').mono ?_; rintro e w' ⟨rfl, rfl⟩)
    | (go_at_call 82; (with_reducible show Calls _ _ #[_, .int .i64 (j : Int)] _ _); refine (right_any _ x j hj hj').mono ?_; rintro e w' ⟨rfl, rfl⟩)
    | (go_at_call 82; (with_reducible show Calls _ _ #[_, .int .i64 (k : Int)] _ _); refine (right_any _ x k hk hk').mono ?_; rintro e w' ⟨rfl, rfl⟩))
  go_ret
  exact ⟨by rw [xor_bv, xor_bv]; rfl, rfl⟩

end Go.Proofs.YtpfjkjogljilnaaDoor
