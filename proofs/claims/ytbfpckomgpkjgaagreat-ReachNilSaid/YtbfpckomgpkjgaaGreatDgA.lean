/-
  dag: put: one more behind its parents.
-/
import Derived.Test.YtbfpckomgpkjgaaGreatPRnQ12
import Derived.Lib.AppendIntMem
import Derived.Test.YtbfpckomgpkjgaaGreatPRnQ5
import Derived.Test.YtbfpckomgpkjgaaGreatPRnQ4
namespace Go.Proofs.YtbfpckomgpkjgaaGreat
open Go.RowKit Go.Maps

def mxP (ps : List Nat) : Nat := ps.foldl (fun a p => max a (p + 1)) 0
theorem mxP_snoc (ps : List Nat) (p : Nat) : mxP (ps ++ [p]) = max (mxP ps) (p + 1) := by simp [mxP]
theorem mxP_mem {ps : List Nat} {p : Nat} (h : p ∈ ps) : p + 1 ≤ mxP ps := by
  induction ps using snocInd with
  | h0 => cases h
  | h1 l x ih =>
    rw [mxP_snoc]
    rcases List.mem_append.1 h with h | h
    · have := ih h; omega
    · have : p = x := by simpa using h
      subst this; omega
theorem mxP_le {ps : List Nat} {n : Nat} (h : ∀ p ∈ ps, p < n) : mxP ps ≤ n := by
  induction ps using snocInd with
  | h0 => simp [mxP]
  | h1 l x ih =>
    rw [mxP_snoc]
    have h1 := ih (fun p hp => h p (by simp [hp]))
    have h2 := h x (by simp)
    omega
/-- Some parents' children have one more. -/
structure KidS (m m' : GrM) (ps : List Nat) (n : Nat) : Prop where
  e : m'.q = m.q ∧ m'.mb = m.mb ∧ m'.iA = m.iA ∧ m'.ic = m.ic ∧ m'.nA = m.nA ∧ m'.nc = m.nc ∧ m'.ids = m.ids ∧ m'.ks = m.ks
  l : m'.L.length = m.L.length
  x : ∀ i (h : i < m.L.length) (h' : i < m'.L.length), m'.L[i].par = m.L[i].par ∧ m'.L[i].row = m.L[i].row ∧ m'.L[i].pA = m.L[i].pA ∧ m'.L[i].pc = m.L[i].pc ∧ m'.L[i].rA = m.L[i].rA ∧ m'.L[i].rc = m.L[i].rc ∧ m'.L[i].kids = if i ∈ ps then m.L[i].kids ++ [n] else m.L[i].kids
  f : ∀ k, ro m' k ↔ ro m k
theorem KidS.refl (m : GrM) (n : Nat) : KidS m m [] n := ⟨⟨rfl, rfl, rfl, rfl, rfl, rfl, rfl, rfl⟩, rfl, fun i _ _ => ⟨rfl, rfl, rfl, rfl, rfl, rfl, by simp⟩, fun _ => Iff.rfl⟩
theorem KidS.step {m m' : GrM} {ps : List Nat} {n p : Nat} (h : KidS m m' ps n) (hp : p ∉ ps) (hl : p < m'.L.length) (A : Option Addr) (c : Nat) : KidS m (m'.setKid p A c (m'.L[p].kids ++ [n])) (ps ++ [p]) n where
  e := h.e
  l := by rw [setKid_len]; exact h.l
  x i hi hi' := by
    rw [setKid_at]
    have h1 := h.x i hi (by rw [setKid_len] at hi'; exact hi')
    by_cases e : p = i
    · subst e
      rw [if_pos rfl]
      refine ⟨h1.1, h1.2.1, h1.2.2.1, h1.2.2.2.1, h1.2.2.2.2.1, h1.2.2.2.2.2.1, ?_⟩
      show m'.L[p].kids ++ [n] = _
      rw [h1.2.2.2.2.2.2, if_neg hp, if_pos (by simp)]
    · rw [if_neg e]
      refine ⟨h1.1, h1.2.1, h1.2.2.1, h1.2.2.2.1, h1.2.2.2.2.1, h1.2.2.2.2.2.1, ?_⟩
      rw [h1.2.2.2.2.2.2]
      have : (i ∈ ps ++ [p]) ↔ i ∈ ps := by simp; exact fun k => absurd k.symm e
      simp only [this]
  f k := (ro_setKid _ _ _ _ _ _).trans (h.f k)
/-- What a past's row has so far. -/
structure RowI (m : GrM) (ps : List Nat) (N : Nat) (ws : List Nat) : Prop where
  l : ws.length = N
  s : Small ws
  b : ∀ k, rowB ws k = true ↔ ∃ p ∈ ps, k = p ∨ ∃ hp : p < m.L.length, rowB m.L[p].row k = true
theorem RowI.zero (m : GrM) (N : Nat) : RowI m [] N (List.replicate N 0) := ⟨by simp, fun x hx => by rw [(List.mem_replicate.1 hx).2]; decide, fun k => by rw [rowB_zero]; simp⟩
theorem RowI.step {m : GrM} {ps ws : List Nat} {N p : Nat} (h : RowI m ps N ws) (hp : p < m.L.length) (hN : p / 64 < N) (hr : m.L[p].row.length ≤ N) (hs : Small m.L[p].row) : RowI m (ps ++ [p]) N (joinR (setR ws p) m.L[p].row) where
  l := by rw [joinR_len, setR_len]; exact h.l
  s := joinR_small (setR_small h.s p) hs
  b k := by
    rw [rowB_join (by rw [setR_len, h.l]; exact hr), rowB_set (by rw [h.l]; exact hN), Bool.or_eq_true, Bool.or_eq_true, decide_eq_true_eq, h.b]
    constructor
    · rintro ((rfl | ⟨q, hq, h1⟩) | h1)
      · exact ⟨k, by simp, .inl rfl⟩
      · exact ⟨q, by simp [hq], h1⟩
      · exact ⟨p, by simp, .inr ⟨hp, h1⟩⟩
    · rintro ⟨q, hq, h1⟩
      rcases List.mem_append.1 hq with hq | hq
      · exact .inl (.inr ⟨q, hq, h1⟩)
      · have : q = p := by simpa using hq
        subst this
        rcases h1 with rfl | ⟨_, h1⟩
        · exact .inl (.inl rfl)
        · exact .inr h1
theorem Tryz.dinfoI : (Tryz.prog.info? 3).map (fun i => (i.zero, i.size, i.bytes)) = some (some (.int .i64 0), 1, 8) := by kernel_rfl
theorem Tryz.dinfoN : (Tryz.prog.info? 119).map (fun i => (i.zero, i.size, i.bytes)) = some (some (.agg #[.slice none 0 0, .slice none 0 0, .slice none 0 0]), 3, 72) := by kernel_rfl
theorem iC_at {w : World} {B : Nat} {A : Option Addr} {l : List Nat} (h : SeesV w B A (iC l)) {i : Nat} (hi : i < l.length) : ∃ b off, A = some ⟨b, off, none⟩ ∧ b < B ∧ w.cell? ⟨b, off + i, none⟩ = some (.int .i64 (l[i] : Int)) := by
  obtain ⟨b, off, hA, hb, hc⟩ := h.at_ (k := i) (by rw [iC_len]; exact hi)
  refine ⟨b, off, hA, hb, ?_⟩
  rw [hc i (by rw [iC_len]; exact hi)]
  simp [iC]
theorem iC_snoc (l : List Nat) (n : Nat) : iC (l ++ [n]) = iC l ++ [.int .i64 (n : Int)] := by simp [iC]
/-- What put leaves. -/
structure PutTo (w : World) (base : Nat) (m : GrM) (id : Hh) (ps : List Nat) (pA : Option Addr) (m' : GrM) (w' : World) : Prop where
  ok : GrOk w' base m'
  q : m'.q = m.q
  ids : m'.ids = m.ids ++ [id]
  ks : m'.ks = m.ks ++ [id]
  l : m'.L.length = m.L.length + 1
  x : ∀ i (h : i < m.L.length) (h' : i < m'.L.length), m'.L[i].par = m.L[i].par ∧ m'.L[i].row = m.L[i].row ∧ m'.L[i].kids = if i ∈ ps then m.L[i].kids ++ [m.L.length] else m.L[i].kids
  n : ∀ (h' : m.L.length < m'.L.length), m'.L[m.L.length].par = ps ∧ m'.L[m.L.length].kids = [] ∧ RowI m ps ((mxP ps + 63) / 64) m'.L[m.L.length].row
  k : Keeps (foot m) w w'
  f : ∀ k, foot m' k → foot m k ∨ w.heap.size ≤ k
  r : ∀ k, ro m' k → ro m k ∨ w.heap.size ≤ k ∨ (ps ≠ [] ∧ pA.map Addr.block = some k)
theorem own_map (A : Option Addr) (n c : Nat) : (Value.slice A n c).ownBlock = A.map Addr.block := by cases A <;> rfl
/-- One parent's children. -/
theorem put_round {W1 w3 w4 : World} {base gP b2 n p c4 g3 : Nat} {m mk : GrM} {ps0 ws : List Nat} {A4 : Option Addr} {t : TypeId} (G3 : GrOk w3 base mk) (HS : KidS m mk ps0 n) (hpn : p ∉ ps0) (hpL : p < mk.L.length)
    (K34 : Keeps (fun j => mk.L[p].kA.map Addr.block = some j) w3 w4) (ho : w4.ownsRow base 3 1 (.slice A4 (mk.L[p].kids.length + 1) c4) (mk.L[p].kids.length + 1) (iC mk.L[p].kids ++ [.int .i64 (n : Int)]))
    (hn : ∀ k, A4.map Addr.block = some k → mk.L[p].kA.map Addr.block = some k ∨ w3.heap.size ≤ k) (hnA : mk.nA = some ⟨g3, 0, none⟩) (B3 : Blk w3 gP t (uC ws).toArray) (hgP : ¬ foot mk gP)
    (K3 : Keeps (fun j => foot m j ∨ j = gP) W1 w3) (HF : ∀ j, foot mk j → foot m j ∨ b2 ≤ j) (hb2 : W1.heap.size = b2) :
    GrOk (w4.setCell ⟨g3, p * 3 + 1, none⟩ (.slice A4 (mk.L[p].kids.length + 1) c4)) base (mk.setKid p A4 c4 (mk.L[p].kids ++ [n])) ∧ KidS m (mk.setKid p A4 c4 (mk.L[p].kids ++ [n])) (ps0 ++ [p]) n ∧ Blk (w4.setCell ⟨g3, p * 3 + 1, none⟩ (.slice A4 (mk.L[p].kids.length + 1) c4)) gP t (uC ws).toArray ∧
    Keeps (fun j => foot m j ∨ j = gP) W1 (w4.setCell ⟨g3, p * 3 + 1, none⟩ (.slice A4 (mk.L[p].kids.length + 1) c4)) ∧ ∀ j, foot (mk.setKid p A4 c4 (mk.L[p].kids ++ [n])) j → foot m j ∨ b2 ≤ j := by
  have hl : (mk.L[p].kids ++ [n]).length = mk.L[p].kids.length + 1 := by simp
  rw [← hl, ← iC_snoc] at ho
  obtain ⟨h1, h2, h3⟩ := GrOk.push G3 hpL K34 ho hn hnA
  rw [hl] at h1 h2
  have hs := K3.size
  refine ⟨h1, HS.step hpn hpL A4 c4, B3.keeps h2 hgP, ⟨h2.os.trans K3.os, h2.tape.trans K3.tape, h2.output.trans K3.output, Nat.le_trans K3.size h2.size, fun k hk hn' => (h2.block k (by omega) fun hf => ?_).trans (K3.block k hk hn')⟩, fun j hj => ?_⟩
  · rcases HF k hf with e | e
    · exact hn' (.inl e)
    · omega
  · rcases h3 j hj with e | e
    · exact HF j e
    · exact .inr (by omega)
set_option maxHeartbeats 4000000 in
set_option maxRecDepth 100000 in
theorem put2_any (w : World) (base : Nat) (m : GrM) (h : GrOk w base m) (hil : m.ids.length = m.L.length) (hks : m.ks.length = m.L.length) (hrow : ∀ n (h : n < m.L.length), m.L[n].row.length ≤ (n + 63) / 64 ∧ Small m.L[n].row) (hmax : m.L.length ≤ 999999)
    (hkl : ∀ n (h : n < m.L.length), m.L[n].kids.length ≤ 1000000) (id : Hh) (pA : Option Addr) (pc : Nat) (ps : List Nat) (hp : SeesV w w.heap.size pA (iC ps)) (hps : ∀ p ∈ ps, p < m.L.length) (hnd : ps.Nodup) (hpf : ps ≠ [] → ∀ k, pA.map Addr.block = some k → ¬ foot m k) :
    Calls Tryz.prog 84 #[.pointer (some ⟨m.q, 0, none⟩), .agg (hC id).toArray, .slice pA ps.length pc] w fun e w' => e = .returned (.tuple #[]) ∧ ∃ m', PutTo w base m id ps pA m' w' := by
  have V0 : Hid (Below w.heap.size w (w.alloc (.cells (hC id).toArray 23))) := nxAlloc (nxRefl w) _
  have H0 : Hid (GrOk (w.alloc (.cells (hC id).toArray 23)) base m) := h.later V0.out
  have B0 : Hid (Blk (w.alloc (.cells (hC id).toArray 23)) w.heap.size 23 (hC id).toArray) := heap_alloc_new w _
  have P0 : Hid (SeesV (w.alloc (.cells (hC id).toArray 23)) w.heap.size pA (iC ps)) := hp.alloc _
  have c0 : (w.alloc (.cells (hC id).toArray 23)).cell? ⟨m.q, 0, none⟩ = some (.slice m.iA m.L.length m.ic) := by rw [H0.out.b.cell, ← hil]; rfl
  have HH := Lib.hid h
  have HPs := Lib.hid hps
  have HNd := Lib.hid hnd
  have HRw := Lib.hid hrow
  have HKl := Lib.hid hkl
  have HPf := Lib.hid hpf
  have HIl := Lib.hid hil
  have HKs := Lib.hid hks
  have HPm := Lib.hid (mxP_le hps)
  have hpl : ps.length ≤ 999999 := Nat.le_trans (len_le_of hnd hps) hmax
  clear h hps hnd hrow hkl hpf hil hks hp
  go_enter Tryz.func84, Tryz.ntmps84
  go_wp2
  go_loopw [7, 20] (fun sv iv wr => ∃ k : Nat, k ≤ ps.length ∧ iv = .int .i64 k ∧ sv = .int .i64 (mxP (ps.take k) : Int) ∧ wr = w.alloc (.cells (hC id).toArray 23)) (fun _ iv _ => ps.length - (intOf iv).toNat)
  case atStart => exact ⟨0, by omega, rfl, rfl, rfl⟩
  case round =>
    obtain ⟨k, hk, rfl, rfl, rfl⟩ := hrel
    by_cases hlt : k < ps.length
    · obtain ⟨b, off, rfl, hbb, hcp⟩ := iC_at P0.out hlt
      have hpm := HPs.out _ (List.getElem_mem hlt)
      have hm1 : mxP (ps.take (k + 1)) = max (mxP (ps.take k)) (ps[k] + 1) := by rw [List.take_succ_eq_append_getElem hlt, mxP_snoc]
      have hm2 : mxP (ps.take k) ≤ m.L.length := mxP_le (fun p hp => HPs.out p (List.mem_of_mem_take hp))
      obtain ⟨p, hpp⟩ : ∃ p, ps[k] = p := ⟨_, rfl⟩
      rw [hpp] at hcp hpm hm1
      obtain ⟨s, hs⟩ : ∃ s, mxP (ps.take k) = s := ⟨_, rfl⟩
      rw [hs] at hm1 hm2 ⊢
      have HM1 := Lib.hid hm1
      clear hm1 hpp hs
      go_wp2
      go_roundw
      case rel => exact ⟨k + 1, by omega, by go_num, by rw [HM1.out]; congr 1; omega, trivial⟩
      case measure => simp [intOf] <;> omega
    · obtain rfl : k = ps.length := by omega
      rw [List.take_length]
      have hmx : mxP ps ≤ 999999 := by have := HPm.out; omega
      have HX := Lib.hid (fun p (hp : p ∈ ps) => mxP_mem hp)
      obtain ⟨S, hS⟩ : ∃ S, mxP ps = S := ⟨_, rfl⟩
      rw [hS] at hmx HPm HX ⊢
      obtain ⟨N, hN⟩ : ∃ N, (S + 63) / 64 = N := ⟨_, rfl⟩
      have HNw := fun W => newRow_any W S (by omega)
      rw [hN] at HNw
      have HSS := Lib.hid hS
      have HNN := Lib.hid hN
      have HNR := Lib.hid HNw
      obtain ⟨W0, hW0⟩ : ∃ W0, w.alloc (.cells (hC id).toArray 23) = W0 := ⟨_, rfl⟩
      have hsz0 : Hid (W0.heap.size = w.heap.size + 1) := by show _ = _; rw [← hW0]; simp
      rw [hW0] at V0 H0 B0 P0 c0 ⊢
      have V1 : Hid (Below w.heap.size w (W0.alloc (.cells (uC (List.replicate N 0)).toArray 107))) := nxAlloc V0.out _
      have b1 : Blk (W0.alloc (.cells (uC (List.replicate N 0)).toArray 107)) (w.heap.size + 1) 107 (uC (List.replicate N 0)).toArray := blkNew hsz0.out.symm rfl
      have B1 := Lib.hid b1
      have H1 : Hid (GrOk (W0.alloc (.cells (uC (List.replicate N 0)).toArray 107)) base m) := H0.out.later (nxAlloc (nxRefl W0) _)
      have P1 : Hid (SeesV (W0.alloc (.cells (uC (List.replicate N 0)).toArray 107)) w.heap.size pA (iC ps)) := P0.out.alloc _
      have D1 : Hid (Blk (W0.alloc (.cells (uC (List.replicate N 0)).toArray 107)) w.heap.size 23 (hC id).toArray) := B0.out.alloc _
      have sz1 : Hid ((W0.alloc (.cells (uC (List.replicate N 0)).toArray 107)).heap.size = w.heap.size + 2) := by show _ = _; simp [hsz0.out]
      clear HNw hS hN hmx hW0 b1
      go_wp2_with (go_at_call 97; refine (HNR.out _).mono ?_; rw [hsz0.out]; rintro e1 w1 ⟨rfl, hw1⟩; obtain rfl := hw1.symm)
      clear HNR B0 H0 P0 c0 V0
      generalize W0.alloc (.cells (uC (List.replicate N 0)).toArray 107) = W1 at *
      go_loopw [33] (fun iv wr => ∃ (k : Nat) (ws : List Nat) (mk : GrM), k ≤ ps.length ∧ iv = .int .i64 k ∧ Hid (GrOk wr base mk) ∧ Hid (KidS m mk (ps.take k) m.L.length) ∧ Hid (Blk wr (w.heap.size + 1) 107 (uC ws).toArray) ∧ Hid (RowI m (ps.take k) N ws) ∧ Hid (Keeps (fun j => foot m j ∨ j = w.heap.size + 1) W1 wr) ∧ Hid (∀ j, foot mk j → foot m j ∨ w.heap.size + 2 ≤ j)) (fun iv _ => ps.length - (intOf iv).toNat)
      case atStart => exact ⟨0, _, m, by omega, rfl, H1.out, KidS.refl m _, B1.out, RowI.zero m N, Keeps.refl _ _, fun j hj => .inl hj⟩
      case round =>
        clear B1
        obtain ⟨k, ws, mk, hk, rfl, HG, HS, HB, HR, HK, HF⟩ := hrel
        by_cases hlt : k < ps.length
        · obtain ⟨b, off, rfl, hbb, hcp1⟩ := iC_at P1.out hlt
          have hpm := HPs.out _ (List.getElem_mem hlt)
          have hpx := HX.out _ (List.getElem_mem hlt)
          have hpn : ps[k] ∉ ps.take k := by
            have h1 := HNd.out
            rw [← List.take_append_drop k ps, List.nodup_append] at h1
            intro hm
            have hd : ps[k] ∈ ps.drop k := by rw [List.drop_eq_getElem_cons hlt]; exact List.mem_cons_self
            exact h1.2.2 _ hm _ hd rfl
          have hsn : ps.take (k + 1) = ps.take k ++ [ps[k]] := List.take_succ_eq_append_getElem hlt
          obtain ⟨p, hpp⟩ : ∃ p, ps[k] = p := ⟨_, rfl⟩
          rw [hpp] at hcp1 hpm hpx hpn hsn
          have hpL : p < mk.L.length := by rw [HS.out.l]; exact hpm
          have hb0 : ¬ foot m b := HPf.out (fun e => by rw [e] at hlt; simp at hlt) b rfl
          have hcp : wr.cell? ⟨b, off + k, none⟩ = some (.int .i64 (p : Int)) := (HK.out.cell (p := ⟨b, off + k, none⟩) (by show b < _; rw [sz1.out]; omega) (fun h1 => h1.elim hb0 (fun h2 => by have h3 : b = w.heap.size + 1 := h2; omega))).trans hcp1
          have HSn := Lib.hid hsn
          have HPn := Lib.hid hpn
          have hpN : p / 64 < N := by have := HNN.out; omega
          have hp9 : p ≤ 1000000000000 := by omega
          have HpN := Lib.hid hpN
          have hro : ∀ k, ro mk k → k < w.heap.size := fun k hk => HH.out.tlt (.inr ((HS.out.f k).1 hk))
          have hgt : ∀ k, touch mk k → k ≠ w.heap.size + 1 := by
            rintro k (hf | hr) e
            · subst e
              rcases HF.out _ hf with h1 | h1
              · have := (HH.out.lt h1).2; omega
              · omega
            · have := hro k hr; omega
          have HGt := Lib.hid hgt
          have HRw1 := Lib.hid (HRw.out p hpm)
          have hrp : Hid (mk.L[p].row = m.L[p].row) := (HS.out.x p hpm hpL).2.1
          have hrA : Hid (mk.L[p].rA = m.L[p].rA) := (HS.out.x p hpm hpL).2.2.2.2.1
          -- the parent's past, as it lay at the beginning
          have hse : SeesV W1 w.heap.size m.L[p].rA (uC m.L[p].row) := ((HH.out.row _ (List.getElem_mem hpm))).below V1.out
          have HSe := Lib.hid hse
          have HFr : Hid (m.L[p].row ≠ [] → ∀ k, m.L[p].rA.map Addr.block = some k → ¬ (foot m k ∨ k = w.heap.size + 1)) := by
            rintro h0 k e (h1 | h1)
            · exact HH.out.sep k h1 ⟨_, List.getElem_mem hpm, .inr ⟨h0, e⟩⟩
            · have := sees_lt (HH.out.row _ (List.getElem_mem hpm)) (fun h2 => h0 (by cases hq : m.L[p].row <;> simp_all [uC])) e; omega
          have hml := HPm.out
          clear hpp hsn hpn hcp1 hro hgt hse hb0
          have HWl : Hid (ws.length = N) := HR.out.l
          have HWs : Hid (Small ws) := HR.out.s
          have hput := put_any wr (w.heap.size + 1) N ws p HB.out HWs.out (by rw [HWl.out]; exact hpN) hp9
          rw [HWl.out] at hput
          have HPut := Lib.hid hput
          clear hput
          obtain ⟨rw', hrw⟩ : ∃ l, m.L[p].row = l := ⟨_, rfl⟩
          obtain ⟨rA', hra⟩ : ∃ l, m.L[p].rA = l := ⟨_, rfl⟩
          obtain ⟨rc', hrc⟩ : ∃ l, mk.L[p].rc = l := ⟨_, rfl⟩
          have HJ : Hid (∀ w2, Blk w2 (w.heap.size + 1) 107 (uC (setR ws p)).toArray → Keeps (fun j => foot m j ∨ j = w.heap.size + 1) W1 w2 → Calls Tryz.prog 99 #[.slice (some ⟨w.heap.size + 1, 0, none⟩) N N, .slice rA' rw'.length rc'] w2 fun e w' => e = .returned (.tuple #[]) ∧ Blk w' (w.heap.size + 1) 107 (uC (joinR (setR ws p) rw')).toArray ∧ Keeps (· = w.heap.size + 1) w2 w') := fun w2 hb2 hk2 => by
            have h1 := HRw1.out
            rw [hrw] at h1
            have h2 := hk2.sees HSe.out fun h0 => HFr.out fun h1 => h0 (by rw [h1]; rfl)
            rw [hrw, hra] at h2
            have h3 := join_any w2 (w.heap.size + 1) N w.heap.size rc' (setR ws p) rw' rA' hb2 h2 (by omega) (by rw [setR_len, HWl.out]; have := HNN.out; omega) (setR_small HWs.out p) h1.2 (by omega)
            rw [setR_len, HWl.out] at h3
            exact h3
          have HCr : Hid (∀ w2, GrOk w2 base mk → ∃ gn, mk.nA = some ⟨gn, 0, none⟩ ∧ gn < w2.heap.size ∧ w2.cell? ⟨m.q, 1, none⟩ = some (.slice (some ⟨gn, 0, none⟩) m.L.length mk.nc) ∧ w2.cell? ⟨gn, p * 3 + 1, none⟩ = some (.slice mk.L[p].kA mk.L[p].kids.length mk.L[p].kc) ∧ w2.cell? ⟨gn, p * 3 + 2, none⟩ = some (.slice rA' rw'.length rc') ∧ w2.frozen? ⟨gn, p * 3 + 1, none⟩ = false ∧ w2.frozen? ⟨m.q, 1, none⟩ = false) := fun w2 hg2 => by
            obtain ⟨gn, hnA, hgl, _, h2, h3⟩ := nds_cell hg2 hpL
            refine ⟨gn, hnA, hgl, ?_, h2, ?_, ?_, ?_⟩
            · have h4 := hg2.b.cell 1
              rw [HS.out.e.1] at h4
              rw [h4, hnA, ← HS.out.l]; rfl
            · rw [h3, hrp.out, hrA.out, hrw, hra, hrc]
            · obtain ⟨_, cur, hb⟩ := own_blk hg2.nds (k := gn) (by rw [hnA]; rfl)
              exact hb.frozen _
            · rw [← HS.out.e.1]; exact hg2.b.frozen _
          have Hrw := Lib.hid hrw
          clear hrw hra hrc
          go_wp2_with (first
            | (go_at_call 98; refine HPut.out.mono ?_; rintro e2 w2 ⟨rfl, hb2, hk2⟩; have B2 := Lib.hid hb2; have K2 : Hid (Keeps (fun j => foot m j ∨ j = w.heap.size + 1) W1 w2) := HK.out.trans (hk2.mono fun j _ e => .inr e); have G2 : Hid (GrOk w2 base mk) := HG.out.keeps hk2 (fun j hj e => HGt.out j hj e); clear hb2 hk2; obtain ⟨gn, hnA, hgnl, hcn, _, hcr, _, _⟩ := HCr.out w2 G2.out; clear hnA)
            | (go_at_call 99; refine (HJ.out w2 B2.out K2.out).mono ?_; rintro e3 w3 ⟨rfl, hb3, hk3⟩; have B3 := Lib.hid hb3; have K3 : Hid (Keeps (fun j => foot m j ∨ j = w.heap.size + 1) W1 w3) := K2.out.trans (hk3.mono fun j _ e => .inr e); have G3 : Hid (GrOk w3 base mk) := G2.out.keeps hk3 (fun j hj e => HGt.out j hj e); clear hb3 hk3))
          clear hcn hcr hgnl HPut HJ B2 K2 G2
          obtain ⟨g3, hnA, hgnl, hcn, hck, _, hfk, _⟩ := HCr.out w3 G3.out
          obtain ⟨i0, hi0, hz0, hz1, hz2⟩ := info_parts Tryz.dinfoI
          have hkid := G3.out.kid _ (List.getElem_mem hpL)
          have hkl2 : mk.L[p].kids.length ≤ 1000000 := by
            rw [(HS.out.x p hpm hpL).2.2.2.2.2.2, if_neg HPn.out]; exact HKl.out p hpm
          have HKL2 := Lib.hid hkl2
          obtain ⟨kA, hkA⟩ : ∃ x, mk.L[p].kA = x := ⟨_, rfl⟩
          obtain ⟨kc, hkc⟩ : ∃ x, mk.L[p].kc = x := ⟨_, rfl⟩
          obtain ⟨kids, hkids⟩ : ∃ x, mk.L[p].kids = x := ⟨_, rfl⟩
          have HkA := Lib.hid hkA
          have Hkids := Lib.hid hkids
          rw [hkA, hkids, hkc] at hkid hck
          rw [hkids] at HKL2 hkl2
          have HKid := Lib.hid hkid
          have HNA := Lib.hid hnA
          clear hkid hkA hkc hkids hnA
          clear HCr
          obtain ⟨_, ncur, hnb⟩ := own_blk G3.out.nds (k := g3) (by rw [HNA.out]; rfl)
          have HNB := Lib.hid hnb
          have hkn : ¬ (kA.map Addr.block = some g3) := own_tag HKid.out hnb (by decide)
          have hbs : base ≤ w3.heap.size := Nat.le_trans (Nat.le_of_lt (Nat.lt_of_le_of_lt G3.out.qb G3.out.b.lt)) (Nat.le_refl _)
          clear hnb
          have bqA : Blk (w3.alloc (.cells #[.int .i64 (m.L.length : Int)] 3)) mk.q 104 _ := G3.out.b.alloc _
          have bnA : Blk (w3.alloc (.cells #[.int .i64 (m.L.length : Int)] 3)) g3 119 ncur := HNB.out.alloc _
          have hcnA : (w3.alloc (.cells #[.int .i64 (m.L.length : Int)] 3)).cell? ⟨m.q, 1, none⟩ = some (.slice (some ⟨g3, 0, none⟩) m.L.length mk.nc) := by
            rw [← HS.out.e.1]; rw [← HS.out.e.1] at hcn; exact ((bqA.cell _).trans (G3.out.b.cell _).symm).trans hcn
          have hckA : (w3.alloc (.cells #[.int .i64 (m.L.length : Int)] 3)).cell? ⟨g3, p * 3 + 1, none⟩ = some (.slice kA kids.length kc) := ((bnA.cell _).trans (HNB.out.cell _).symm).trans hck
          have hkq : ¬ (kA.map Addr.block = some mk.q) := own_tag HKid.out G3.out.b (by decide)
          clear bqA bnA
          go_region_law (refine step_append_seesV rfl (.tmp 62) (.tmp 64) 80 rfl base 3 i0 (.int .i64 0) 1 8 Tryz.underlying80 hi0 hz0 hz1 hz2 rfl (by decide) (.slice kA kids.length kc) kids.length (iC kids) (by simp [Act.eval]) (HKid.out.alloc _) _ (some ⟨w3.heap.size, 0, none⟩) 1 1 [.int .i64 (m.L.length : Int)] (by simp [Act.eval]) rfl (SeesV.blk (heap_alloc_new w3 _)) (by simp [Value.oneCell']) (by omega) (by omega) (by simp; omega) ?_; intro v4 w4 ho4 hg4 ha4; obtain ⟨A4, c4, rfl⟩ := own_form ho4; have K4 : Hid (Keeps (fun j => kA.map Addr.block = some j) (w3.drew.alloc (.cells #[.int .i64 (m.L.length : Int)] 3)) w4) := Keeps.grown (Keeps.refl _ _) hg4 (fun k e => own_ob e); have B4 : Hid (Blk w4 g3 119 ncur) := Blk.keeps (Blk.alloc (w := w3.drew) HNB.out _) K4.out hkn; have c4k : w4.cell? ⟨g3, p * 3 + 1, none⟩ = some (.slice kA kids.length kc) := ((B4.out.cell _).trans (HNB.out.cell _).symm).trans hck; have f4k : w4.frozen? ⟨g3, p * 3 + 1, none⟩ = false := B4.out.frozen _; have Q4 : Hid (Blk w4 mk.q 104 _) := Blk.keeps (Blk.alloc (w := w3.drew) G3.out.b _) K4.out hkq; have c4q : w4.cell? ⟨m.q, 1, none⟩ = some (.slice (some ⟨g3, 0, none⟩) m.L.length mk.nc) := by { rw [← HS.out.e.1]; have hcn2 := hcn; rw [← HS.out.e.1] at hcn2; exact ((Q4.out.cell _).trans (G3.out.b.cell _).symm).trans hcn2 }; have O4 := Lib.hid ho4; have A4n : Hid (∀ k, A4.map Addr.block = some k → kA.map Addr.block = some k ∨ w3.heap.size ≤ k) := (by rw [own_map, own_map] at ha4; intro k e; rcases ha4 with e2 | e2; exact (.inl (e2 ▸ e)); exact (.inr (by rw [e] at e2; injection e2 with e2; rw [e2]; exact (nxAlloc (nxRefl w3) (.cells #[.int .i64 (m.L.length : Int)] 3)).size))); have K34 : Hid (Keeps (fun j => kA.map Addr.block = some j) w3 w4) := ((Keeps.refl (fun j => kA.map Addr.block = some j) w3).drew.alloc _).trans K4.out; clear ho4 hg4 ha4)
          all_goals
            go_wp2
            go_roundw
            case rel =>
              have hfin := put_round (b2 := w.heap.size + 2) (A4 := A4) (c4 := c4) (ws := joinR (setR ws p) rw') G3.out HS.out HPn.out hpL (by rw [HkA.out]; exact K34.out) (by rw [Hkids.out]; exact O4.out) (by rw [HkA.out]; exact A4n.out) HNA.out B3.out (fun hf => HGt.out _ (.inl hf) rfl) K3.out HF.out sz1.out
              rw [Hkids.out] at hfin
              exact ⟨k + 1, joinR (setR ws p) rw', _, by omega, by go_num, hfin.1, (by show KidS _ _ _ _; rw [HSn.out]; exact hfin.2.1), hfin.2.2.1, (by show RowI _ _ _ _; rw [HSn.out, ← Hrw.out]; exact HR.out.step hpm HpN.out (by have := HRw1.out.1; have := HNN.out; omega) HRw1.out.2), hfin.2.2.2.1, hfin.2.2.2.2⟩
            case measure => simp [intOf] <;> omega
        · obtain rfl : k = ps.length := by omega
          have hS := HS.out
          have hR := HR.out
          rw [List.take_length] at hS hR
          have HS := Lib.hid hS
          have HR := Lib.hid hR
          clear hS hR
          have hbase : base ≤ wr.heap.size := Nat.le_of_lt (Nat.lt_of_le_of_lt HG.out.qb HG.out.b.lt)
          have D2 : Hid (Blk wr w.heap.size 23 (hC id).toArray) := D1.out.keeps HK.out (by rintro (h1 | h1); exact absurd (HH.out.lt h1).2 (by omega); exact absurd h1 (by omega))
          obtain ⟨i1, hi1, hy0, hy1, hy2⟩ := info_parts Tryz.dinfoH
          have hb0 := HG.out.b
          have hids := HG.out.ids
          rw [HS.out.e.1, HS.out.e.2.2.1, HS.out.e.2.2.2.1, HS.out.e.2.2.2.2.2.2.1] at hb0
          rw [HS.out.e.2.2.1, HS.out.e.2.2.2.1, HS.out.e.2.2.2.2.2.2.1] at hids
          rw [HIl.out] at hb0 hids
          have HB0 := Lib.hid hb0
          have HIds := Lib.hid hids
          have hc0 : wr.cell? ⟨m.q, 0, none⟩ = some (.slice m.iA m.L.length m.ic) := hb0.cell 0
          have hc0A : (wr.alloc (.cells (hC id).toArray 23)).cell? ⟨m.q, 0, none⟩ = some (.slice m.iA m.L.length m.ic) := (Blk.alloc hb0 _).cell 0
          have R2 : Hid (wr.rangeAt w.heap.size 0 (hC id)) := fun j v hv => by rw [Nat.zero_add, D2.out.cell j]; simpa using hv
          have hkq : ¬ (m.iA.map Addr.block = some m.q) := own_tag hids hb0 (by decide)
          have hkw : ¬ (m.iA.map Addr.block = some w.heap.size) := fun e => by have := (HH.out.lt (.inr (.inr (.inl e)))).2; omega
          have Z1 := Lib.hid (hszL id)
          clear hb0 hids
          go_wp2
          refine wp_region_K (fun W => W.cell? ⟨m.q, 0, none⟩ = some (.slice m.iA m.L.length m.ic) ∧ W.rangeAt w.heap.size 0 (hC id)) 10 (by kernel_rfl) ⟨hc0, R2.out⟩ (fun hSn => ?_)
          refine wpAnyK_pure (i := 0) (oi := ⟨_, _, _, _, _, _⟩) (v := ?_) rfl (by kernel_rfl) (by kernel_rfl) (by kernel_rfl) rfl (fun _ _ _ h => h) (Or.inl ⟨by rfl, ?_⟩) hSn ?_
          rotate_left 1
          · intro W hSw
            go_simp
            try with_reducible rfl
          replace hSn := (KT.set (i := 0) (by decide)).2 hSn
          try simp only [Act.put, List.setIfInBounds_toArray, List.set_cons_zero, List.set_cons_succ]
          refine wpAnyK_pure (i := 1) (oi := ⟨_, _, _, _, _, _⟩) (v := ?_) rfl (by kernel_rfl) (by kernel_rfl) (by kernel_rfl) rfl (fun _ _ _ h => h) (Or.inl ⟨by rfl, ?_⟩) hSn ?_
          rotate_left 1
          · intro W hSw
            go_simp
            try with_reducible rfl
          replace hSn := (KT.set (i := 1) (by decide)).2 hSn
          try simp only [Act.put, List.setIfInBounds_toArray, List.set_cons_zero, List.set_cons_succ]
          refine wpAnyK_pure (i := 2) (oi := ⟨_, _, _, _, _, _⟩) (v := ?_) rfl (by kernel_rfl) (by kernel_rfl) (by kernel_rfl) rfl (fun _ _ _ h => h) (Or.inl ⟨by rfl, ?_⟩) hSn ?_
          rotate_left 1
          · intro W hSw
            go_simp
            try with_reducible rfl
          replace hSn := (KT.set (i := 2) (by decide)).2 hSn
          try simp only [Act.put, List.setIfInBounds_toArray, List.set_cons_zero, List.set_cons_succ]
          refine wpAnyK_pure (i := 3) (oi := ⟨_, _, _, _, _, _⟩) (v := ?_) rfl (by kernel_rfl) (by kernel_rfl) (by kernel_rfl) rfl (fun _ _ _ h => h) (Or.inl ⟨by rfl, ?_⟩) hSn ?_
          rotate_left 1
          · intro W hSw
            go_simp
            try with_reducible rfl
          replace hSn := (KT.set (i := 3) (by decide)).2 hSn
          try simp only [Act.put, List.setIfInBounds_toArray, List.set_cons_zero, List.set_cons_succ]
          refine wpAnyK_chain (i := 4) [10] (oi := ⟨_, _, _, _, _, _⟩) (v := ?_) rfl (by kernel_rfl) (by kernel_rfl) (by kernel_rfl) rfl (by kernel_rfl) (by kernel_rfl) (by kernel_rfl) (fun _ _ _ h => h) (Or.inl ⟨by rfl, ?_⟩) hSn ?_
          rotate_left 1
          · intro W hSw
            try dsimp only at hSw
            obtain ⟨hs1, hs2⟩ := hSw
            go_simp
            try with_reducible rfl
          replace hSn := (KT.set (i := 4) (by decide)).2 hSn
          try simp only [Act.put, List.setIfInBounds_toArray, List.set_cons_zero, List.set_cons_succ]
          refine wpAnyK_chain (i := 5) [10] (oi := ⟨_, _, _, _, _, _⟩) (v := .agg (hC id).toArray) rfl (by kernel_rfl) (by kernel_rfl) (by kernel_rfl) rfl (by kernel_rfl) (by kernel_rfl) (by kernel_rfl) (fun _ _ _ h => h) (yieldsIf_load_mid (by rfl) 23 (.tmp 4) rfl w.heap.size 0 rfl (hC id) _ (fun W h => h.2) Tryz.underlying23 rfl Z1.out) hSn ?_
          replace hSn := (KT.set (i := 5) (by decide)).2 hSn
          try simp only [Act.put, List.setIfInBounds_toArray, List.set_cons_zero, List.set_cons_succ]
          clear hSn
          refine wpAnyK_ready (rs := [6]) (by kernel_rfl) (by simp) ?_
          refine AllReadyK.cons rfl (fun K hK => ?_) AllReadyK.nil
          refine step_build1 (o := ⟨some 75, _, _, _, _, _⟩) rfl 33 23 (.tmp 74) rfl (hC id) _ 32 32 Tryz.underlying33 Tryz.dinfoH (by decide) (by decide) (hC_len id) rfl ?_
          refine hK.out _ _ (fun _ => ⟨hc0A, fun j v hv => by rw [Nat.zero_add, (Blk.alloc (w := wr.drew) D2.out _ : Blk (wr.drew.alloc (.cells (hC id).toArray 23)) w.heap.size 23 (hC id).toArray).cell j]; simpa using hv⟩) (fun hSn => ?_)
          clear hK K
          try simp only [Act.put, List.setIfInBounds_toArray, List.set_cons_zero, List.set_cons_succ]
          clear hSn
          refine wpAnyK_ready (rs := [7]) (by kernel_rfl) (by simp) ?_
          refine AllReadyK.cons rfl (fun K hK => ?_) AllReadyK.nil
          refine step_append_seesV (o := ⟨some 76, _, _, _, _, _⟩) rfl (.tmp 73) (.tmp 75) 33 rfl base 23 i1 _ 32 32 Tryz.underlying33 hi1 hy0 hy1 hy2 rfl (by decide) (.slice m.iA m.L.length m.ic) m.L.length (hsC m.ids) rfl (HIds.out.alloc _) _ (some ⟨wr.heap.size, 0, none⟩) 1 1 (hC id) rfl (by rw [hC_len]) (SeesV.blk (heap_alloc_new wr _)) (hC_one id) (by omega) (by omega) (by simp; omega) ?_
          intro v5 w5 ho5 hg5 ha5
          obtain ⟨A5, c5, rfl⟩ := own_form ho5
          have K5 : Hid (Keeps (fun j => m.iA.map Addr.block = some j) (wr.drew.alloc (.cells (hC id).toArray 23)) w5) := Keeps.grown (Keeps.refl _ _) hg5 (fun k e => own_ob e)
          have B5 : Hid (Blk w5 m.q 104 _) := Blk.keeps (Blk.alloc (w := wr.drew) HB0.out _) K5.out hkq
          have c5q : w5.cell? ⟨m.q, 0, none⟩ = some (.slice m.iA m.L.length m.ic) := B5.out.cell 0
          have f5q : w5.frozen? ⟨m.q, 0, none⟩ = false := B5.out.frozen 0
          have D5 : Hid (Blk w5 w.heap.size 23 (hC id).toArray) := Blk.keeps (Blk.alloc (w := wr.drew) D2.out _) K5.out hkw
          have O5 := Lib.hid ho5
          have A5n : Hid (∀ k, A5.map Addr.block = some k → m.iA.map Addr.block = some k ∨ wr.heap.size ≤ k) := (by rw [own_map, own_map] at ha5; intro k e; rcases ha5 with e2 | e2; exact (.inl (e2 ▸ e)); exact (.inr (by rw [e] at e2; injection e2 with e2; rw [e2]; exact (nxAlloc (nxRefl wr) (.cells (hC id).toArray 23)).size)))
          have K45 : Hid (Keeps (fun j => m.iA.map Addr.block = some j) wr w5) := ((Keeps.refl (fun j => m.iA.map Addr.block = some j) wr).drew.alloc _).trans K5.out
          clear ho5 hg5 ha5
          refine hK.out _ _ (fun _ => ⟨c5q, fun j v hv => by rw [Nat.zero_add, D5.out.cell j]; simpa using hv⟩) (fun hSn => ?_)
          clear hK K
          try simp only [Act.put, List.setIfInBounds_toArray, List.set_cons_zero, List.set_cons_succ]
          refine wpAnyK_pure (i := 8) (oi := ⟨_, _, _, _, _, _⟩) (v := ?_) rfl (by kernel_rfl) (by kernel_rfl) (by kernel_rfl) rfl (fun _ _ _ h => h) (Or.inl ⟨by rfl, ?_⟩) hSn ?_
          rotate_left 1
          · intro W hSw
            go_simp
            try with_reducible rfl
          replace hSn := (KT.set (i := 8) (by decide)).2 hSn
          try simp only [Act.put, List.setIfInBounds_toArray, List.set_cons_zero, List.set_cons_succ]
          refine wpAnyK_pure (i := 9) (oi := ⟨_, _, _, _, _, _⟩) (v := ?_) rfl (by kernel_rfl) (by kernel_rfl) (by kernel_rfl) rfl (fun _ _ _ h => h) (Or.inl ⟨by rfl, ?_⟩) hSn ?_
          rotate_left 1
          · intro W hSw
            go_simp
            try with_reducible rfl
          replace hSn := (KT.set (i := 9) (by decide)).2 hSn
          try simp only [Act.put, List.setIfInBounds_toArray, List.set_cons_zero, List.set_cons_succ]
          clear hSn
          refine wpAnyK_ready (rs := [10]) (by kernel_rfl) (by simp) ?_
          refine AllReadyK.cons rfl (fun K hK => ?_) AllReadyK.nil
          go_simp
          skip
          refine hK.out _ _ (fun h => absurd h (by decide +kernel)) (fun hSn => ?_)
          clear hK K
          try simp only [Act.put, List.setIfInBounds_toArray, List.set_cons_zero, List.set_cons_succ]
          refine wpAnyK_done (by kernel_rfl) ?_ _
          clear hSn hc0 hc0A c5q f5q
          have hfin := GrOk.addId (id := id) HG.out (A := A5) (c := c5) (by rw [HS.out.e.2.2.1]; exact K45.out) (by rw [HS.out.e.2.2.2.2.2.2.1, HIl.out]; exact hsC_append m.ids [id] ▸ (by have := O5.out; rw [show hsC [id] = hC id by simp [hsC]]; exact this)) (by rw [HS.out.e.2.2.1]; exact A5n.out)
          rw [HS.out.e.1, HS.out.e.2.2.2.2.2.2.1, HIl.out] at hfin
          obtain ⟨W6, hW6⟩ : ∃ W6, (w5.setCell ⟨m.q, 0, none⟩ (.slice A5 (m.L.length + 1) c5)) = W6 := ⟨_, rfl⟩
          obtain ⟨m6, hm6⟩ : ∃ m6, mk.addId A5 c5 id = m6 := ⟨_, rfl⟩
          rw [hW6, hm6] at hfin
          rw [hW6]
          obtain ⟨g6, k6, f6⟩ := hfin
          have G6 := Lib.hid g6
          have K6 := Lib.hid k6
          have F6 : Hid (∀ k, foot m6 k → foot m k ∨ w.heap.size + 2 ≤ k) := fun k hf => by
            rcases f6 k hf with h1 | h1
            · exact HF.out k h1
            · exact .inr (by have := HK.out.size; rw [sz1.out] at this; omega)
          have e6 : m6.q = m.q ∧ m6.mb = m.mb ∧ m6.nA = m.nA ∧ m6.nc = m.nc ∧ m6.ids = m.ids ++ [id] ∧ m6.ks = m.ks ∧ m6.L = mk.L := by
            rw [← hm6]
            exact ⟨HS.out.e.1, HS.out.e.2.1, HS.out.e.2.2.2.2.1, HS.out.e.2.2.2.2.2.1, by show mk.ids ++ [id] = _; rw [HS.out.e.2.2.2.2.2.2.1], HS.out.e.2.2.2.2.2.2.2, rfl⟩
          have E6 := Lib.hid e6
          have l6 : Hid (m6.L.length = m.L.length) := by show _ = _; rw [e6.2.2.2.2.2.2, HS.out.l]
          have B6 : Hid (Blk W6 (w.heap.size + 1) 107 (uC ws).toArray) := HB.out.keeps k6 (fun hf => by rcases HF.out _ hf with h1 | h1; exact absurd (HH.out.lt h1).2 (by omega); exact absurd h1 (by omega))
          have D6 : Hid (Blk W6 w.heap.size 23 (hC id).toArray) := D2.out.keeps k6 (fun hf => by rcases HF.out _ hf with h1 | h1; exact absurd (HH.out.lt h1).2 (by omega); exact absurd h1 (by omega))
          have hpb : ps ≠ [] → ∀ k, pA.map Addr.block = some k → k < w.heap.size ∧ ¬ foot m k := fun h0 k e => ⟨sees_lt P1.out (fun h1 => h0 (by cases hq : ps <;> simp_all [iC])) e, HPf.out h0 k e⟩
          have HPb := Lib.hid hpb
          have P6 : Hid (SeesV W6 w.heap.size pA (iC ps)) := by
            have h1 := HK.out.sees P1.out (fun h0 k e => by
              have h2 := hpb (fun h3 => h0 (by rw [h3]; rfl)) k e
              rintro (h3 | h3)
              · exact h2.2 h3
              · omega)
            exact k6.sees h1 (fun h0 k e hf => by
              have h2 := hpb (fun h3 => h0 (by rw [h3]; rfl)) k e
              rcases HF.out k hf with h3 | h3
              · exact h2.2 h3
              · omega)
          have hz6 : Hid (w.heap.size + 2 ≤ W6.heap.size) := by have h1 := HK.out.size; have h2 := k6.size; rw [sz1.out] at h1; show _ ≤ _; omega
          have hb6 := g6.b
          have hn6 := g6.nds
          rw [e6.1, e6.2.2.1, e6.2.2.2.1, l6.out, e6.2.1] at hb6
          rw [e6.2.2.1, e6.2.2.2.1, l6.out] at hn6
          have HB6 := Lib.hid hb6
          have HN6 := Lib.hid hn6
          have hc61 : W6.cell? ⟨m.q, 1, none⟩ = some (.slice m.nA m.L.length m.nc) := hb6.cell 1
          have hkq6 : ¬ (m.nA.map Addr.block = some m.q) := own_tag hn6 hb6 (by decide)
          have hbase6 : base ≤ W6.heap.size := Nat.le_of_lt (Nat.lt_of_le_of_lt g6.qb g6.b.lt)
          have hbd : ∀ wq : World, (Instr.build 119 #[(0, .slice pA ps.length pc), (2, .slice (some ⟨w.heap.size + 1, 0, none⟩) N N)]).run Tryz.prog wq = .ok (.agg #[.slice pA ps.length pc, .slice none 0 0, .slice (some ⟨w.heap.size + 1, 0, none⟩) N N]) wq := fun wq => by kernel_rfl
          obtain ⟨i2, hi2, hx0, hx1, hx2⟩ := info_parts Tryz.dinfoN
          clear hm6 hW6 g6 k6 f6 e6 hpb hb6 hn6 HG HB K45 K5 B5 D5 O5 A5n D2 R2 HB0 HIds
          go_wp2_with (first
            | ((with_reducible show wpList _ _ _ (⟨some 87, _, _, _, _, _⟩ :: _) _ _); refine wpList_build1 rfl 102 119 (.tmp 86) rfl [.slice pA ps.length pc, .slice none 0 0, .slice (some ⟨w.heap.size + 1, 0, none⟩) N N] _ 3 72 Tryz.underlying102 Tryz.dinfoN (by decide) (by decide) rfl rfl ?_)
            | ((with_reducible show wpList _ _ _ (⟨some 88, _, _, _, _, _⟩ :: _) _ _); refine wpList_append_seesV rfl (.tmp 83) (.tmp 87) 102 rfl base 119 i2 _ 3 72 Tryz.underlying102 hi2 hx0 hx1 hx2 rfl (by decide) (.slice m.nA m.L.length m.nc) m.L.length (ndsC m6.L) rfl (HN6.out.alloc _) _ (some ⟨W6.heap.size, 0, none⟩) 1 1 [.slice pA ps.length pc, .slice none 0 0, .slice (some ⟨w.heap.size + 1, 0, none⟩) N N] rfl rfl (SeesV.blk (heap_alloc_new W6 _)) (by simp [Value.oneCell']) (by omega) (by omega) (by simp; omega) ?_; intro v7 w7 ho7 hg7 ha7; obtain ⟨A7, c7, rfl⟩ := own_form ho7; have K7 : Hid (Keeps (fun j => m.nA.map Addr.block = some j) W6 w7) := ((Keeps.refl (fun j => m.nA.map Addr.block = some j) W6).alloc _).trans (Keeps.grown (Keeps.refl _ _) hg7 (fun k e => own_ob e)); have B7 : Hid (Blk w7 m.q 104 _) := Blk.keeps HB6.out K7.out hkq6; have c7q : w7.cell? ⟨m.q, 1, none⟩ = some (.slice m.nA m.L.length m.nc) := B7.out.cell 1; have f7q : w7.frozen? ⟨m.q, 1, none⟩ = false := B7.out.frozen 1; have O7 := Lib.hid ho7; have A7n : Hid (∀ k, A7.map Addr.block = some k → m.nA.map Addr.block = some k ∨ W6.heap.size ≤ k) := (by rw [own_map, own_map] at ha7; intro k e; rcases ha7 with e2 | e2; exact (.inl (e2 ▸ e)); exact (.inr (by rw [e] at e2; injection e2 with e2; rw [e2]; exact (nxAlloc (nxRefl W6) (.cells #[.slice pA ps.length pc, .slice none 0 0, .slice (some ⟨w.heap.size + 1, 0, none⟩) N N] 119)).size))); clear ho7 hg7 ha7))
          have hws : ws.length = N := HR.out.l
          have hfin := GrOk.addNode (x := ⟨ps, [], ws, pA, pc, none, 0, some ⟨w.heap.size + 1, 0, none⟩, N⟩) G6.out (A := A7) (c := c7) (by rw [E6.out.2.2.1]; exact K7.out) (by
              rw [l6.out, ndsC_append]
              have h1 := O7.out
              have h2 : ndsC [(⟨ps, [], ws, pA, pc, none, 0, some ⟨w.heap.size + 1, 0, none⟩, N⟩ : NodeM)] = [.slice pA ps.length pc, .slice none 0 0, .slice (some ⟨w.heap.size + 1, 0, none⟩) N N] := by simp [ndsC, ndC, hws]
              rw [h2]; exact h1) (by rw [E6.out.2.2.1]; exact A7n.out) (P6.out.more (by have := hz6.out; omega)) (SeesV.blk B6.out |>.more (Nat.le_refl _)) (fun h0 k e hf => by
              have h2 := HPb.out h0 k e
              rcases F6.out k hf with h3 | h3
              · exact h2.2 h3
              · omega) (fun _ k e hf => by
              have h2 : w.heap.size + 1 = k := by injection e
              rcases F6.out k hf with h3 | h3
              · have := (HH.out.lt h3).2; omega
              · omega) rfl rfl rfl
          rw [E6.out.1, l6.out] at hfin
          obtain ⟨W7, hW7⟩ : ∃ W7, (w7.setCell ⟨m.q, 1, none⟩ (.slice A7 (m.L.length + 1) c7)) = W7 := ⟨_, rfl⟩
          obtain ⟨m7, hm7⟩ : ∃ m7, m6.addNode A7 c7 ⟨ps, [], ws, pA, pc, none, 0, some ⟨w.heap.size + 1, 0, none⟩, N⟩ = m7 := ⟨_, rfl⟩
          rw [hW7, hm7] at hfin
          rw [hW7]
          obtain ⟨g7, k7, f7⟩ := hfin
          have e7 : m7.q = m.q ∧ m7.mb = m.mb ∧ m7.ids = m.ids ++ [id] ∧ m7.ks = m.ks ∧ m7.L = mk.L ++ [⟨ps, [], ws, pA, pc, none, 0, some ⟨w.heap.size + 1, 0, none⟩, N⟩] := by
            rw [← hm7]
            exact ⟨E6.out.1, E6.out.2.1, E6.out.2.2.2.2.1, E6.out.2.2.2.2.2.1, by show m6.L ++ _ = _; rw [E6.out.2.2.2.2.2.2]⟩
          have E7 := Lib.hid e7
          have F7 : Hid (∀ k, foot m7 k → foot m k ∨ w.heap.size + 2 ≤ k) := fun k hf => by
            rcases f7 k hf with h1 | h1
            · exact F6.out k h1
            · exact .inr (by have := hz6.out; omega)
          have G7 := Lib.hid g7
          have K7' := Lib.hid k7
          have hm7d : (W7.drew).ownsMap Tryz.prog 23 (plainElem Tryz.prog 3) m.mb m.ks.length (mapD m.ks) := by
            have h1 := g7.map
            rw [e7.2.1, e7.2.2.2.1] at h1
            exact h1
          have HM7 := Lib.hid hm7d
          have hc72 : W7.cell? ⟨m.q, 2, none⟩ = some (.map (some m.mb)) := by
            have h1 := g7.b.cell 2
            rw [e7.1, e7.2.1] at h1
            exact h1
          have D7 : Hid (Blk W7 w.heap.size 23 (hC id).toArray) := D6.out.keeps k7 (fun hf => by rcases F6.out _ hf with h1 | h1; exact absurd (HH.out.lt h1).2 (by omega); exact absurd h1 (by omega))
          have R7 : Hid (W7.drew.rangeAt w.heap.size 0 (hC id)) := fun j v hv => by
            have h1 := D7.out.cell j
            rw [Nat.zero_add]
            refine h1.trans ?_
            simpa using hv
          have hwf : (Lit.int .i64 (m.L.length : Int)).wf = true := by
            show (decide ((-9223372036854775808 : Int) ≤ (m.L.length : Int)) && decide ((m.L.length : Int) ≤ 9223372036854775807)) = true
            rw [Bool.and_eq_true]
            exact ⟨decide_eq_true (by omega), decide_eq_true (by omega)⟩
          clear hW7 hm7 g7 k7 f7 e7 hm7d K7 B7 c7q f7q hc61
          refine wp_region_K (fun W => W.cell? ⟨m.q, 2, none⟩ = some (.map (some m.mb)) ∧ W.rangeAt w.heap.size 0 (hC id)) 6 (by kernel_rfl) ⟨hc72, R7.out⟩ (fun hSn => ?_)
          refine wpAnyK_pure (i := 0) (oi := ⟨_, _, _, _, _, _⟩) (v := ?_) rfl (by kernel_rfl) (by kernel_rfl) (by kernel_rfl) rfl (fun _ _ _ h => h) (Or.inl ⟨by rfl, ?_⟩) hSn ?_
          rotate_left 1
          · intro W hSw
            go_simp
            try with_reducible rfl
          replace hSn := (KT.set (i := 0) (by decide)).2 hSn
          try simp only [Act.put, List.setIfInBounds_toArray, List.set_cons_zero, List.set_cons_succ]
          refine wpAnyK_pure (i := 1) (oi := ⟨_, _, _, _, _, _⟩) (v := ?_) rfl (by kernel_rfl) (by kernel_rfl) (by kernel_rfl) rfl (fun _ _ _ h => h) (Or.inl ⟨by rfl, ?_⟩) hSn ?_
          rotate_left 1
          · intro W hSw
            go_simp
            try with_reducible rfl
          replace hSn := (KT.set (i := 1) (by decide)).2 hSn
          try simp only [Act.put, List.setIfInBounds_toArray, List.set_cons_zero, List.set_cons_succ]
          refine wpAnyK_pure (i := 2) (oi := ⟨_, _, _, _, _, _⟩) (v := ?_) rfl (by kernel_rfl) (by kernel_rfl) (by kernel_rfl) rfl (fun _ _ _ h => h) (Or.inl ⟨by rfl, ?_⟩) hSn ?_
          rotate_left 1
          · intro W hSw
            go_simp
            try with_reducible rfl
          replace hSn := (KT.set (i := 2) (by decide)).2 hSn
          try simp only [Act.put, List.setIfInBounds_toArray, List.set_cons_zero, List.set_cons_succ]
          refine wpAnyK_chain (i := 3) [6] (oi := ⟨_, _, _, _, _, _⟩) (v := ?_) rfl (by kernel_rfl) (by kernel_rfl) (by kernel_rfl) rfl (by kernel_rfl) (by kernel_rfl) (by kernel_rfl) (fun _ _ _ h => h) (Or.inl ⟨by rfl, ?_⟩) hSn ?_
          rotate_left 1
          · intro W hSw
            try dsimp only at hSw
            obtain ⟨hs1, hs2⟩ := hSw
            go_simp
            try with_reducible rfl
          replace hSn := (KT.set (i := 3) (by decide)).2 hSn
          try simp only [Act.put, List.setIfInBounds_toArray, List.set_cons_zero, List.set_cons_succ]
          refine wpAnyK_chain (i := 4) [6] (oi := ⟨_, _, _, _, _, _⟩) (v := .agg (hC id).toArray) rfl (by kernel_rfl) (by kernel_rfl) (by kernel_rfl) rfl (by kernel_rfl) (by kernel_rfl) (by kernel_rfl) (fun _ _ _ h => h) (yieldsIf_load_mid (by rfl) 23 (.tmp 4) rfl w.heap.size 0 rfl (hC id) _ (fun W h => h.2) Tryz.underlying23 rfl Z1.out) hSn ?_
          replace hSn := (KT.set (i := 4) (by decide)).2 hSn
          try simp only [Act.put, List.setIfInBounds_toArray, List.set_cons_zero, List.set_cons_succ]
          refine wpAnyK_pure (i := 5) (oi := ⟨_, _, _, _, _, _⟩) (v := ?_) rfl (by kernel_rfl) (by kernel_rfl) (by kernel_rfl) rfl (fun _ _ _ h => h) (Or.inl ⟨by rfl, ?_⟩) hSn ?_
          rotate_left 1
          · intro W hSw
            go_simp
            try with_reducible rfl
          replace hSn := (KT.set (i := 5) (by decide)).2 hSn
          try simp only [Act.put, List.setIfInBounds_toArray, List.set_cons_zero, List.set_cons_succ]
          clear hSn
          refine wpAnyK_ready (rs := [6]) (by kernel_rfl) (by simp) ?_
          refine AllReadyK.cons rfl (fun K hK => ?_) AllReadyK.nil
          refine step_mapupd (o := ⟨none, _, _, _, _, _⟩) _ rfl (.tmp 94) (.tmp 95) (.tmp 96) 60 rfl 23 3 hLaw Tryz.underlying60 (plainElem Tryz.prog 3) m.mb m.ks.length (mapD m.ks) rfl HM7.out (by have := HKs.out; unfold maxLen; omega) (.agg (hC id).toArray) (.int .i64 (m.L.length : Int)) (hKey id) rfl rfl (keyOf_h id) _ [] (plainElem_int Tryz.underlying3 hwf) ?_
          intro w9 hm9 hg9
          refine hK.out _ _ (fun h => absurd h (by decide +kernel)) (fun hSn => ?_)
          clear hK K
          try simp only [Act.put, List.setIfInBounds_toArray, List.set_cons_zero, List.set_cons_succ]
          refine wpAnyK_done (by kernel_rfl) ?_ _
          clear hSn
          go_wp2
          go_end0
          have hmm : w9.ownsMap Tryz.prog 23 (plainElem Tryz.prog 3) m7.mb (m7.ks.length + 1) ((mapD m7.ks).put (hKey id) (.lit (.int .i64 (m7.ks.length : Int)))) := by
            rw [E7.out.2.1, E7.out.2.2.2.1, HKs.out]
            rw [HKs.out] at hm9
            exact hm9
          have hd7 : GrOk W7.drew base m7 := G7.out.later ⟨rfl, rfl, rfl, Nat.le_refl _, fun _ _ => rfl⟩
          obtain ⟨g9, k9⟩ := GrOk.addKey (id := id) hd7 (by rw [E7.out.2.1]; exact hg9) hmm
          have hL : (m7.addKey id).L = mk.L ++ [⟨ps, [], ws, pA, pc, none, 0, some ⟨w.heap.size + 1, 0, none⟩, N⟩] := E7.out.2.2.2.2
          have hsz1 := V1.out.size
          have hkk : Keeps (fun k => foot m k ∨ w.heap.size ≤ k) w w9 := by
            refine (Keeps.of_below V1.out (fun k => foot m k ∨ w.heap.size ≤ k)).trans ?_
            refine (HK.out.mono fun k _ h => ?_).trans ?_
            · rcases h with h | h
              · exact .inl h
              · exact .inr (by omega)
            refine (K6.out.mono fun k _ h => ?_).trans ?_
            · exact (HF.out k h).imp (fun h => h) (fun h => by omega)
            refine (K7'.out.mono fun k _ h => ?_).trans ?_
            · exact (F6.out k h).imp (fun h => h) (fun h => by omega)
            refine (⟨rfl, rfl, rfl, Nat.le_refl _, fun _ _ _ => rfl⟩ : Keeps _ W7 W7.drew).trans (k9.mono fun k _ h => (F7.out k h).imp (fun h => h) (fun h => by omega))
          refine ⟨rfl, m7.addKey id, g9, E7.out.1, E7.out.2.2.1, by show m7.ks ++ [id] = _; rw [E7.out.2.2.2.1], by rw [hL, List.length_append, HS.out.l]; rfl, fun i hi hi' => ?_, fun h' => ?_, ⟨hkk.os, hkk.tape, hkk.output, hkk.size, fun k hk hn => hkk.block k hk (fun h => h.elim hn (fun h => by omega))⟩, fun k hf => (F7.out k hf).imp (fun h => h) (fun h => by omega), fun k hr => ?_⟩
          · have hi2 : i < mk.L.length := by rw [HS.out.l]; exact hi
            have h1 : (m7.addKey id).L[i] = mk.L[i] := by simp only [hL]; exact List.getElem_append_left hi2
            rw [h1]
            have h2 := HS.out.x i hi hi2
            exact ⟨h2.1, h2.2.1, h2.2.2.2.2.2.2⟩
          · have h1 : (m7.addKey id).L[m.L.length]'h' = ⟨ps, [], ws, pA, pc, none, 0, some ⟨w.heap.size + 1, 0, none⟩, N⟩ := by
              simp only [hL]
              exact List.getElem_concat_length HS.out.l.symm _
            rw [h1]
            exact ⟨rfl, rfl, by rw [HSS.out, HNN.out]; exact HR.out⟩
          · obtain ⟨y, hy, h1⟩ := hr
            rw [hL] at hy
            rcases List.mem_append.1 hy with hy | hy
            · exact .inl ((HS.out.f k).1 ⟨y, hy, h1⟩)
            · have : y = ⟨ps, [], ws, pA, pc, none, 0, some ⟨w.heap.size + 1, 0, none⟩, N⟩ := by simpa using hy
              subst this
              rcases h1 with h1 | ⟨_, h1⟩
              · exact .inr (.inr h1)
              · exact .inr (.inl (by have h2 : w.heap.size + 1 = k := by injection h1
                                     omega))
end Go.Proofs.YtbfpckomgpkjgaaGreat
