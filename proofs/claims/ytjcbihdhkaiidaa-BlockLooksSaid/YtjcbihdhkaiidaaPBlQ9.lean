/-
  tx: there and back: what is packed is read, and what is read packs to what it was read of.
  tx: Much, of two transactions: it answers, and changes nothing.
-/
import Derived.Test.YtjcbihdhkaiidaaTr1
import Derived.Test.YtjcbihdhkaiidaaPBlQ4
import Derived.Deep.RegionHeldLaw
import Derived.Deep.RegionHeld3
namespace Go.Proofs.Ytjcbihdhkaiidaa
open Go.RowKit

theorem cut_fr (x r : List UInt8) (n : Int) (hn : n = (x.length : Int)) : cutPiece (some (x ++ r)) n true = x ∧ cutRest (some (x ++ r)) n true = some r := by
  subst hn
  have : cutOk (some (x ++ r)) (x.length : Int) true = true := by
    simp [cutOk, lenS]
    omega
  simp [cutPiece, cutRest, this]
theorem ofLe_back {N k : Nat} (h : N < 256 ^ k) : ofLe (leB N k) = N := by rw [ofLe_leB, Nat.mod_eq_of_lt h]
theorem ofLe_b2 {N : Nat} (h : N < 65536) : ofLe (leB N 2) = N := by
  have e : (256 : Nat) ^ 2 = 65536 := by decide
  exact ofLe_back (by omega)
theorem ofLe_b4 {N : Nat} (h : N < 4294967296) : ofLe (leB N 4) = N := by
  have e : (256 : Nat) ^ 4 = 4294967296 := by decide
  exact ofLe_back (by omega)
theorem ofLe_b8 {N : Nat} (h : N < 18446744073709551616) : ofLe (leB N 8) = N := by
  have e : (256 : Nat) ^ 8 = 18446744073709551616 := by decide
  exact ofLe_back (by omega)
theorem over_32 {x : List UInt8} (h : x.length = 32) : over zero32 x 32 = x := by
  unfold over
  rw [List.take_of_length_le (by omega), List.drop_eq_nil_of_le (by simp [zero32, h]), List.append_nil]
theorem blob_fr (x r : List UInt8) (h : x.length ≤ 16777216) : blobPiece (some (leB x.length 4 ++ (x ++ r))) = x ∧ blobRest (some (leB x.length 4 ++ (x ++ r))) = some r := by
  obtain ⟨h1, h2⟩ := cut_fr (leB x.length 4) (x ++ r) 4 (by rw [leB_length]; rfl)
  have hN : blobN (some (leB x.length 4 ++ (x ++ r))) = x.length := by
    unfold blobN; rw [h1]; exact ofLe_b4 (by omega)
  have hM : blobM (some (leB x.length 4 ++ (x ++ r))) = true := by unfold blobM; rw [hN]; exact decide_eq_true h
  obtain ⟨h3, h4⟩ := cut_fr x r x.length rfl
  unfold blobPiece blobRest
  rw [h2, hN, hM]
  exact ⟨h3, h4⟩
theorem readI_fr (i : InR) (r : List UInt8) (h : i.id.length = 32) (hn : i.n < 4294967296) (hw : i.wit.length ≤ 16777216) : readI (some (inB i ++ r)) = (inP i, some r) := by
  have e : inB i ++ r = i.id ++ (leB i.n 4 ++ (leB i.wit.length 4 ++ (i.wit ++ r))) := by simp [inB]
  obtain ⟨h1, h2⟩ := cut_fr i.id (leB i.n 4 ++ (leB i.wit.length 4 ++ (i.wit ++ r))) 32 (by rw [h]; rfl)
  obtain ⟨h3, h4⟩ := cut_fr (leB i.n 4) (leB i.wit.length 4 ++ (i.wit ++ r)) 4 (by rw [leB_length]; rfl)
  obtain ⟨h5, h6⟩ := blob_fr i.wit r hw
  unfold readI
  rw [e, h1, h2, h3, h4, h5, h6, over_32 h, ofLe_b4 hn]
  rfl
theorem readO_fr (o : OutR) (r : List UInt8) (h : OutOk o) : readO (some (outB o ++ r)) = (o, some r) := by
  have e : outB o ++ r = leB o.amt 8 ++ (o.lock ++ r) := by simp [outB]
  obtain ⟨h1, h2⟩ := cut_fr (leB o.amt 8) (o.lock ++ r) 8 (by rw [leB_length]; rfl)
  obtain ⟨h3, h4⟩ := cut_fr o.lock r 32 (by rw [h.lock]; rfl)
  unfold readO
  rw [e, h1, h2, h3, h4, over_32 h.lock, ofLe_b8 h.amt]
theorem insB_drop {l : List InR} {k : Nat} (h : k < l.length) : insB (l.drop k) = inB l[k] ++ insB (l.drop (k + 1)) := by
  unfold insB; rw [List.drop_eq_getElem_cons h, List.map_cons, List.flatten_cons]
theorem outsB_drop {l : List OutR} {k : Nat} (h : k < l.length) : outsB (l.drop k) = outB l[k] ++ outsB (l.drop (k + 1)) := by
  unfold outsB; rw [List.drop_eq_getElem_cons h, List.map_cons, List.flatten_cons]
theorem readIs_fr (l : List InR) (r : List UInt8) (h : ∀ i ∈ l, i.id.length = 32 ∧ i.n < 4294967296 ∧ i.wit.length ≤ 16777216) : ∀ k, k ≤ l.length → readIs k (some (insB l ++ r)) = ((l.take k).map inP, some (insB (l.drop k) ++ r)) := by
  intro k
  induction k with
  | zero => intro _; simp [readIs]
  | succ k ih =>
    intro hk
    have hk' : k < l.length := by omega
    obtain ⟨h1, h2, h3⟩ := h _ (List.getElem_mem hk')
    rw [readIs, ih (by omega)]
    rw [insB_drop hk', List.append_assoc, readI_fr _ _ h1 h2 h3, List.take_succ_eq_append_getElem hk', List.map_append]
    rfl
theorem readOs_fr (l : List OutR) (r : List UInt8) (h : ∀ o ∈ l, OutOk o) : ∀ k, k ≤ l.length → readOs k (some (outsB l ++ r)) = (l.take k, some (outsB (l.drop k) ++ r)) := by
  intro k
  induction k with
  | zero => intro _; simp [readOs]
  | succ k ih =>
    intro hk
    have hk' : k < l.length := by omega
    rw [readOs, ih (by omega)]
    rw [outsB_drop hk', List.append_assoc, readO_fr _ _ (h _ (List.getElem_mem hk')), List.take_succ_eq_append_getElem hk']
theorem insB_end (l : List InR) : insB (l.drop l.length) = [] := by rw [List.drop_length]; rfl
theorem outsB_end (l : List OutR) : outsB (l.drop l.length) = [] := by rw [List.drop_length]; rfl
theorem cnt_fr (n : Nat) (r : List UInt8) (h : n ≤ 64) : ofN (some (leB n 2 ++ r)) = n ∧ cutRest (some (leB n 2 ++ r)) 2 true = some r := by
  obtain ⟨h1, h2⟩ := cut_fr (leB n 2) r 2 (by rw [leB_length]; rfl)
  refine ⟨?_, h2⟩
  unfold ofN
  rw [h1, ofLe_b2 (by omega)]
  omega
/-- What is packed, and more behind it, is read, and the more is left. -/
theorem pack_read (t : TxR) (hi : ∀ i ∈ t.ins, i.id.length = 32 ∧ i.n < 4294967296) (ho : ∀ o ∈ t.outs, OutOk o) (hn : t.nonce < 18446744073709551616) (h : checkT t = 0) (r : List UInt8) :
    ofP (packT t ++ r) = txP t ∧ ofR (packT t ++ r) = some r := by
  obtain ⟨⟨_, hi1⟩, ⟨_, ho1⟩, hw⟩ := checkT_ok h
  have hi2 : ∀ i ∈ t.ins, i.id.length = 32 ∧ i.n < 4294967296 ∧ i.wit.length ≤ 16777216 := fun i hm => ⟨(hi i hm).1, (hi i hm).2, by have := hw i hm; omega⟩
  have e : packT t ++ r = leB t.ins.length 2 ++ (insB t.ins ++ (leB t.outs.length 2 ++ (outsB t.outs ++ (leB t.nonce 8 ++ r)))) := by simp [packT]
  obtain ⟨c1, c2⟩ := cnt_fr t.ins.length (insB t.ins ++ (leB t.outs.length 2 ++ (outsB t.outs ++ (leB t.nonce 8 ++ r)))) hi1
  obtain ⟨d1, d2⟩ := cnt_fr t.outs.length (outsB t.outs ++ (leB t.nonce 8 ++ r)) ho1
  have f1 : ofI (packT t ++ r) = (t.ins.map inP, some (leB t.outs.length 2 ++ (outsB t.outs ++ (leB t.nonce 8 ++ r)))) := by
    unfold ofI
    rw [e, c1, c2, readIs_fr _ _ hi2 _ (Nat.le_refl _), insB_end, List.take_length, List.nil_append]
  have f2 : ofO (packT t ++ r) = (t.outs, some (leB t.nonce 8 ++ r)) := by
    unfold ofO
    rw [f1]
    show readOs (ofN (some _)) (cutRest (some _) 2 true) = _
    rw [d1, d2, readOs_fr _ _ ho _ (Nat.le_refl _), outsB_end, List.take_length, List.nil_append]
  obtain ⟨g1, g2⟩ := cut_fr (leB t.nonce 8) r 8 (by rw [leB_length]; rfl)
  unfold ofP ofR
  rw [f1, f2]
  constructor
  · show TxP.mk _ _ (ofLe (cutPiece (some _) 8 true)) = _
    rw [g1, ofLe_b8 hn]
    rfl
  · exact g2
theorem pack_ofB (t : TxR) (hi : ∀ i ∈ t.ins, i.id.length = 32 ∧ i.n < 4294967296) (ho : ∀ o ∈ t.outs, OutOk o) (hn : t.nonce < 18446744073709551616) (h : checkT t = 0) : ofB (packT t) = true ∧ ofV (packT t) = txP t := by
  obtain ⟨h1, h2⟩ := pack_read t hi ho hn h []
  rw [List.append_nil] at h1 h2
  have hB : ofB (packT t) = true := by unfold ofB; rw [h1, h2, checkT_up, h]; rfl
  exact ⟨hB, by rw [ofV, hB, h1]; rfl⟩
theorem packT_back (t : TxR) : packT (txP t).up = packT t := by
  have h : ∀ l : List InR, insB ((l.map inP).map unP) = insB l := fun l => by
    induction l with
    | nil => rfl
    | cons i r ih =>
      have e1 : insB (((i :: r).map inP).map unP) = inB i ++ insB ((r.map inP).map unP) := by simp [insB]; rfl
      have e2 : insB (i :: r) = inB i ++ insB r := by simp [insB]
      rw [e1, e2, ih]
  unfold packT
  have h1 : (txP t).up.ins = (t.ins.map inP).map unP := rfl
  rw [h1, h, List.length_map, List.length_map]
  rfl
theorem packT_same {t u : TxR} (h : txP t = txP u) : packT t = packT u := by rw [← packT_back, h, packT_back]
/-- None's bytes begin another one's. -/
theorem pack_begin (t u : TxR) (ti : ∀ i ∈ t.ins, i.id.length = 32 ∧ i.n < 4294967296) (to : ∀ o ∈ t.outs, OutOk o) (tn : t.nonce < 18446744073709551616) (th : checkT t = 0)
    (ui : ∀ i ∈ u.ins, i.id.length = 32 ∧ i.n < 4294967296) (uo : ∀ o ∈ u.outs, OutOk o) (un : u.nonce < 18446744073709551616) (uh : checkT u = 0) (r : List UInt8) (h : packT u = packT t ++ r) : txP t = txP u := by
  obtain ⟨h1, h2⟩ := pack_read t ti to tn th r
  obtain ⟨h3, h4⟩ := pack_read u ui uo un uh []
  rw [List.append_nil, h] at h3
  rw [← h1, ← h3]

/-! back -/
theorem cut_inv {s : Option (List UInt8)} {n : Nat} {r : List UInt8} (h : cutRest s (n : Int) true = some r) : s = some (cutPiece s (n : Int) true ++ r) ∧ (cutPiece s (n : Int) true).length = n := by
  unfold cutRest at h
  split at h
  · rename_i hok
    injection h with h
    unfold cutPiece
    rw [if_pos hok]
    simp only [cutOk, Bool.and_eq_true, decide_eq_true_eq] at hok
    obtain ⟨⟨_, h2⟩, h3⟩ := hok
    obtain ⟨l, rfl⟩ := Option.isSome_iff_exists.1 h2
    simp only [lenS, Option.getD_some, Int.toNat_natCast] at h3 h ⊢
    rw [← h, List.take_append_drop]
    exact ⟨rfl, by rw [List.length_take]; omega⟩
  · cases h
theorem cut_inv2 {s : Option (List UInt8)} {r : List UInt8} (h : cutRest s 2 true = some r) : s = some (cutPiece s 2 true ++ r) ∧ (cutPiece s 2 true).length = 2 := cut_inv (n := 2) h
theorem cut_inv4 {s : Option (List UInt8)} {r : List UInt8} (h : cutRest s 4 true = some r) : s = some (cutPiece s 4 true ++ r) ∧ (cutPiece s 4 true).length = 4 := cut_inv (n := 4) h
theorem cut_inv8 {s : Option (List UInt8)} {r : List UInt8} (h : cutRest s 8 true = some r) : s = some (cutPiece s 8 true ++ r) ∧ (cutPiece s 8 true).length = 8 := cut_inv (n := 8) h
theorem cut_inv32 {s : Option (List UInt8)} {r : List UInt8} (h : cutRest s 32 true = some r) : s = some (cutPiece s 32 true ++ r) ∧ (cutPiece s 32 true).length = 32 := cut_inv (n := 32) h
theorem leB_ofLe : ∀ (k : Nat) (p : List UInt8), p.length = k → leB (ofLe p) k = p := by
  intro k
  induction k with
  | zero => intro p h; rw [List.eq_nil_of_length_eq_zero h]; rfl
  | succ k ih =>
    intro p h
    have hp : p = p.take k ++ [p[k]'(by omega)] := by
      have h1 := List.take_succ_eq_append_getElem (l := p) (i := k) (by omega)
      rw [List.take_of_length_le (by omega)] at h1
      exact h1
    have hq : (p.take k).length = k := by rw [List.length_take]; omega
    have ho : ofLe p = ofLe (p.take k) + 256 ^ k * (p[k]'(by omega)).toNat := by
      conv => lhs; rw [hp]
      rw [ofLe_append, hq]
    have hlt : ofLe (p.take k) < 256 ^ k := by have := ofLe_lt (p.take k); rw [hq] at this; exact this
    have hb := (p[k]'(by omega)).toNat_lt
    have h2 : ofLe p / 256 ^ k = (p[k]'(by omega)).toNat := by
      rw [ho, Nat.add_mul_div_left _ _ (Nat.pow_pos (by omega)), Nat.div_eq_of_lt hlt, Nat.zero_add]
    have h3 : leB (ofLe p) k = p.take k := by
      have h4 : ∀ (j : Nat) (N M : Nat), N % 256 ^ j = M % 256 ^ j → leB N j = leB M j := by
        intro j
        induction j with
        | zero => intros; rfl
        | succ j ihj =>
          intro N M hNM
          have e1 : N % 256 ^ j = M % 256 ^ j := by
            have := congrArg (· % 256 ^ j) hNM
            simp only [Nat.pow_succ] at this
            rwa [Nat.mod_mul_right_mod, Nat.mod_mul_right_mod] at this
          have e2 : N / 256 ^ j % 256 = M / 256 ^ j % 256 := by
            rw [Nat.pow_succ, Nat.mod_mul, Nat.mod_mul, e1] at hNM
            have := Nat.add_left_cancel hNM
            exact Nat.eq_of_mul_eq_mul_left (Nat.pow_pos (by omega)) this
          unfold leB
          rw [ihj N M e1, e2]
      rw [h4 k (ofLe p) (ofLe (p.take k)) (by rw [ho, Nat.add_mul_mod_self_left])]
      exact ih _ hq
    rw [leB, h3, h2, Nat.mod_eq_of_lt hb, UInt8.ofNat_toNat]
    exact hp.symm
theorem blob_inv {s : Option (List UInt8)} {r : List UInt8} (h : blobRest s = some r) : s = some (leB (blobPiece s).length 4 ++ (blobPiece s ++ r)) := by
  have hm : blobM s = true := by
    cases hb : blobM s with
    | true => rfl
    | false => unfold blobRest at h; rw [hb] at h; simp [cutRest, cutOk] at h
  unfold blobRest at h
  rw [hm] at h
  obtain ⟨h1, h2⟩ := cut_inv h
  have hp : blobPiece s = cutPiece (cutRest s 4 true) (blobN s) true := by unfold blobPiece; rw [hm]
  rw [← hp] at h1 h2
  obtain ⟨h3, h4⟩ := cut_inv4 h1
  rw [h2]
  have e : leB (blobN s) 4 = cutPiece s 4 true := leB_ofLe 4 _ h4
  rw [e]
  exact h3
theorem readI_inv {s : Option (List UInt8)} {r : List UInt8} (h : (readI s).2 = some r) : s = some (inB (unP (readI s).1) ++ r) := by
  have h1 := blob_inv (s := cutRest (cutRest s 32 true) 4 true) h
  obtain ⟨h2, h3⟩ := cut_inv4 h1
  obtain ⟨h4, h5⟩ := cut_inv32 h2
  have e : inB (unP (readI s).1) = over zero32 (cutPiece s 32 true) 32 ++ (leB (ofLe (cutPiece (cutRest s 32 true) 4 true)) 4 ++ (leB (blobPiece (cutRest (cutRest s 32 true) 4 true)).length 4 ++ blobPiece (cutRest (cutRest s 32 true) 4 true))) := rfl
  rw [e, over_32 h5, leB_ofLe 4 _ h3, List.append_assoc, List.append_assoc, List.append_assoc]
  exact h4
theorem readO_inv {s : Option (List UInt8)} {r : List UInt8} (h : (readO s).2 = some r) : s = some (outB (readO s).1 ++ r) := by
  obtain ⟨h1, h2⟩ := cut_inv32 (s := cutRest s 8 true) h
  obtain ⟨h3, h4⟩ := cut_inv8 h1
  have e : outB (readO s).1 = leB (ofLe (cutPiece s 8 true)) 8 ++ over zero32 (cutPiece (cutRest s 8 true) 32 true) 32 := rfl
  rw [e, over_32 h2, leB_ofLe 8 _ h4, List.append_assoc]
  exact h3
theorem readIs_inv (k : Nat) (s : Option (List UInt8)) : ∀ r, (readIs k s).2 = some r → s = some (insB ((readIs k s).1.map unP) ++ r) := by
  induction k with
  | zero => intro r h; rw [show s = some r from h]; rfl
  | succ k ih =>
    intro r h
    have h1 := ih _ (readI_inv h)
    have e : insB ((readIs (k + 1) s).1.map unP) = insB ((readIs k s).1.map unP) ++ inB (unP (readI (readIs k s).2).1) := by simp [readIs, insB]
    rw [e, List.append_assoc]
    exact h1
theorem readOs_inv (k : Nat) (s : Option (List UInt8)) : ∀ r, (readOs k s).2 = some r → s = some (outsB (readOs k s).1 ++ r) := by
  induction k with
  | zero => intro r h; rw [show s = some r from h]; rfl
  | succ k ih =>
    intro r h
    have h1 := ih _ (readO_inv h)
    have e : outsB (readOs (k + 1) s).1 = outsB (readOs k s).1 ++ outB (readO (readOs k s).2).1 := by simp [readOs, outsB]
    rw [e, List.append_assoc]
    exact h1
/-- What is read packs to what it was read of. -/
theorem read_pack (b : List UInt8) (h : ofB b = true) : packT (ofP b).up = b ∧ checkT (ofP b).up = 0 := by
  unfold ofB at h
  rw [Bool.and_eq_true, decide_eq_true_eq, beq_iff_eq] at h
  obtain ⟨hR, hC⟩ := h
  refine ⟨?_, hC⟩
  obtain ⟨⟨_, hi1⟩, ⟨_, ho1⟩, _⟩ := checkT_ok hC
  have hi2 : (ofI b).1.length ≤ 64 := by have e : (ofP b).up.ins.length = (ofI b).1.length := by show ((ofI b).1.map unP).length = _; rw [List.length_map]
                                         omega
  have ho2 : (ofO b).1.length ≤ 64 := ho1
  unfold ofR at hR
  obtain ⟨h1, h2⟩ := cut_inv8 hR
  rw [List.append_nil] at h1
  have h3 := readOs_inv _ _ _ h1
  obtain ⟨h4, h5⟩ := cut_inv2 h3
  have h6 := readIs_inv _ _ _ h4
  obtain ⟨h7, h8⟩ := cut_inv2 h6
  injection h7 with h7
  have l1 : (ofI b).1.length = ofN (some b) := readIs_len _ _
  have l2 : (ofO b).1.length = ofN (ofI b).2 := readOs_len _ _
  have n1 : (ofI b).1.length = ofLe (cutPiece (some b) 2 true) := by rw [l1, ofN] at hi2 ⊢; omega
  have n2 : (ofO b).1.length = ofLe (cutPiece (ofI b).2 2 true) := by rw [l2, ofN] at ho2 ⊢; omega
  have e : packT (ofP b).up = leB (ofI b).1.length 2 ++ (insB ((ofI b).1.map unP) ++ (leB (ofO b).1.length 2 ++ (outsB (ofO b).1 ++ leB (ofLe (cutPiece (ofO b).2 8 true)) 8))) := by
    unfold packT
    have q1 : (ofP b).up.ins = (ofI b).1.map unP := rfl
    rw [q1, List.length_map]
    rfl
  rw [e, n1, n2, leB_ofLe 2 _ h8, leB_ofLe 2 _ h5, leB_ofLe 8 _ h2]
  exact h7.symm
end Go.Proofs.Ytjcbihdhkaiidaa

namespace Go.Proofs.Ytjcbihdhkaiidaa
open Go.RowKit

set_option maxHeartbeats 4000000 in
set_option maxRecDepth 100000 in
theorem much2_any (w : World) (bm : Nat) (t u : TxR) (ht : TxOk w t) (hu : TxOk w u) (hB : Blk w bm 37 (txC t ++ txC u).toArray) : Calls Try.prog 11 #[.slice (some ⟨bm, 0, none⟩) 2 2, .int .i64 2] w fun e w' => ∃ z : Bool, e = .returned (.bool z) ∧ Below w.heap.size w w' := by
  have HT := Lib.hid ht
  have HU := Lib.hid hu
  have HC : Hid (w.cell? ⟨bm, 0, none⟩ = some (.slice t.A t.ins.length t.c) ∧ w.cell? ⟨bm, 1, none⟩ = some (.slice t.B t.outs.length t.d) ∧ w.cell? ⟨bm, 3, none⟩ = some (.slice u.A u.ins.length u.c) ∧ w.cell? ⟨bm, 4, none⟩ = some (.slice u.B u.outs.length u.d) ∧ bm < w.heap.size) := ⟨hB.cell 0, hB.cell 1, hB.cell 3, hB.cell 4, hB.lt⟩
  clear ht hu hB
  go_enter Try.func11, Try.ntmps11
  go_wp2
  go_loopw [5, 6] (fun nv iv wr => ∃ (i : Nat) (v : Int), i ≤ 2 ∧ iv = .int .i64 i ∧ nv = .int .i64 v ∧ Hid (Below w.heap.size w wr)) (fun _ iv _ => 2 - (intOf iv).toNat)
  case atStart => exact ⟨0, 0, by omega, rfl, rfl, nxRf w⟩
  case round =>
    obtain ⟨i, v, hi, rfl, rfl, Hb⟩ := hrel
    by_cases hi2 : i = 2
    · subst hi2
      go_wp2
      go_ret
      exact ⟨_, rfl, Hb.out⟩
    · by_cases hi0 : i = 0
      · subst hi0
        obtain ⟨l, hl⟩ : ∃ l, t.ins = l := ⟨_, rfl⟩
        obtain ⟨no, hno⟩ : ∃ l, t.outs.length = l := ⟨_, rfl⟩
        have hc0 : wr.cell? ⟨bm, 0, none⟩ = some (.slice t.A l.length t.c) := by rw [← hl]; exact (Hb.out.cell (p := ⟨bm, 0, none⟩) HC.out.2.2.2.2).trans HC.out.1
        have hc1 : wr.cell? ⟨bm, 1, none⟩ = some (.slice t.B no t.d) := by rw [← hno]; exact (Hb.out.cell (p := ⟨bm, 1, none⟩) HC.out.2.2.2.2).trans HC.out.2.1
        have hmi : l.length ≤ 140737488355328 := by rw [← hl]; exact HT.out.mi
        have HI : Hid (∀ j ∈ l, j.id.length = 32 ∧ j.wit.length ≤ 140737488355328) := fun j hj => by rw [← hl] at hj; exact ⟨(HT.out.each j hj).id, (HT.out.each j hj).m⟩
        have HIS : Hid (SeesV w w.heap.size t.A (insC l)) := by show SeesV _ _ _ _; rw [← hl]; exact HT.out.ins
        have HC0 := Lib.hid hc0
        have HC1 := Lib.hid hc1
        have HLL : Hid (t.ins.length = l.length) := by show _ = _; rw [hl]
        clear hl hno hc1
        go_wp2_with fail
        refine wp_region_held_drew (S := fun W => W.cell? ⟨bm, 0, none⟩ = some (.slice t.A l.length t.c) ∧ W.cell? ⟨bm, 1, none⟩ = some (.slice t.B no t.d)) (by kernel_rfl) ⟨HC0.out, HC1.out⟩ (fun hHeld => ?_)
        refine wpAnyH_take (i := 0) (oi := ⟨_, _, _, _, _, _⟩) (v := ?_) rfl (by kernel_rfl) (by kernel_rfl) (by kernel_rfl) (fun _ _ _ h => h) (Or.inl ⟨by rfl, ?_⟩) (by assumption) ?_
        rotate_left 1
        · intro W hSw
          try dsimp only at hSw
          go_simp
          try with_reducible rfl
        try simp only [Act.put, List.setIfInBounds_toArray, List.set_cons_zero, List.set_cons_succ]
        refine wpAnyH_take (i := 1) (oi := ⟨_, _, _, _, _, _⟩) (v := ?_) rfl (by kernel_rfl) (by kernel_rfl) (by kernel_rfl) (fun _ _ _ h => h) (Or.inl ⟨by rfl, ?_⟩) (by assumption) ?_
        rotate_left 1
        · intro W hSw
          try dsimp only at hSw
          go_simp
          try with_reducible rfl
        try simp only [Act.put, List.setIfInBounds_toArray, List.set_cons_zero, List.set_cons_succ]
        refine wpAnyH_take (i := 2) (oi := ⟨_, _, _, _, _, _⟩) (v := ?_) rfl (by kernel_rfl) (by kernel_rfl) (by kernel_rfl) (fun _ _ _ h => h) (Or.inl ⟨by rfl, ?_⟩) (by assumption) ?_
        rotate_left 1
        · intro W hSw
          try dsimp only at hSw
          go_simp
          try with_reducible rfl
        try simp only [Act.put, List.setIfInBounds_toArray, List.set_cons_zero, List.set_cons_succ]
        refine wpAnyH_take (i := 3) (oi := ⟨_, _, _, _, _, _⟩) (v := ?_) rfl (by kernel_rfl) (by kernel_rfl) (by kernel_rfl) (fun _ _ _ h => h) (Or.inl ⟨by rfl, ?_⟩) (by assumption) ?_
        rotate_left 1
        · intro W hSw
          try dsimp only at hSw
          go_simp
          try with_reducible rfl
        try simp only [Act.put, List.setIfInBounds_toArray, List.set_cons_zero, List.set_cons_succ]
        refine wpAnyH_take (i := 4) (oi := ⟨_, _, _, _, _, _⟩) (v := ?_) rfl (by kernel_rfl) (by kernel_rfl) (by kernel_rfl) (fun _ _ _ h => h) (Or.inl ⟨by rfl, ?_⟩) (by assumption) ?_
        rotate_left 1
        · intro W hSw
          try dsimp only at hSw
          go_simp
          try with_reducible rfl
        try simp only [Act.put, List.setIfInBounds_toArray, List.set_cons_zero, List.set_cons_succ]
        refine wpAnyH_take (i := 5) (oi := ⟨_, _, _, _, _, _⟩) (v := ?_) rfl (by kernel_rfl) (by kernel_rfl) (by kernel_rfl) (fun _ _ _ h => h) (Or.inl ⟨by rfl, ?_⟩) (by assumption) ?_
        rotate_left 1
        · intro W hSw
          try dsimp only at hSw
          go_simp
          try with_reducible rfl
        try simp only [Act.put, List.setIfInBounds_toArray, List.set_cons_zero, List.set_cons_succ]
        refine wpAnyH_take (i := 6) (oi := ⟨_, _, _, _, _, _⟩) (v := ?_) rfl (by kernel_rfl) (by kernel_rfl) (by kernel_rfl) (fun _ _ _ h => h) (Or.inl ⟨by rfl, ?_⟩) (by assumption) ?_
        rotate_left 1
        · intro W hSw
          try dsimp only at hSw
          go_simp
          try with_reducible rfl
        try simp only [Act.put, List.setIfInBounds_toArray, List.set_cons_zero, List.set_cons_succ]
        refine wpAnyH_take (i := 7) (oi := ⟨_, _, _, _, _, _⟩) (v := ?_) rfl (by kernel_rfl) (by kernel_rfl) (by kernel_rfl) (fun _ _ _ h => h) (Or.inl ⟨by rfl, ?_⟩) (by assumption) ?_
        rotate_left 1
        · intro W hSw
          try dsimp only at hSw
          go_simp
          try with_reducible rfl
        try simp only [Act.put, List.setIfInBounds_toArray, List.set_cons_zero, List.set_cons_succ]
        refine wpAnyH_take (i := 8) (oi := ⟨_, _, _, _, _, _⟩) (v := ?_) rfl (by kernel_rfl) (by kernel_rfl) (by kernel_rfl) (fun _ _ _ h => h) (Or.inl ⟨by rfl, ?_⟩) (by assumption) ?_
        rotate_left 1
        · intro W hSw
          try dsimp only at hSw
          go_simp
          try with_reducible rfl
        try simp only [Act.put, List.setIfInBounds_toArray, List.set_cons_zero, List.set_cons_succ]
        refine wpAnyH_take (i := 9) (oi := ⟨_, _, _, _, _, _⟩) (v := ?_) rfl (by kernel_rfl) (by kernel_rfl) (by kernel_rfl) (fun _ _ _ h => h) (Or.inl ⟨by rfl, ?_⟩) (by assumption) ?_
        rotate_left 1
        · intro W hSw
          try dsimp only at hSw
          go_simp
          try with_reducible rfl
        try simp only [Act.put, List.setIfInBounds_toArray, List.set_cons_zero, List.set_cons_succ]
        refine wpAnyH_take (i := 10) (oi := ⟨_, _, _, _, _, _⟩) (v := ?_) rfl (by kernel_rfl) (by kernel_rfl) (by kernel_rfl) (fun _ _ _ h => h) (Or.inl ⟨by rfl, ?_⟩) (by assumption) ?_
        rotate_left 1
        · intro W hSw
          try dsimp only at hSw
          go_simp
          try with_reducible rfl
        try simp only [Act.put, List.setIfInBounds_toArray, List.set_cons_zero, List.set_cons_succ]
        refine wpAnyH_take (i := 11) (oi := ⟨_, _, _, _, _, _⟩) (v := ?_) rfl (by kernel_rfl) (by kernel_rfl) (by kernel_rfl) (fun _ _ _ h => h) (Or.inl ⟨by rfl, ?_⟩) (by assumption) ?_
        rotate_left 1
        · intro W hSw
          try dsimp only at hSw
          go_simp
          try with_reducible rfl
        try simp only [Act.put, List.setIfInBounds_toArray, List.set_cons_zero, List.set_cons_succ]
        refine wpAnyH_take (i := 12) (oi := ⟨_, _, _, _, _, _⟩) (v := ?_) rfl (by kernel_rfl) (by kernel_rfl) (by kernel_rfl) (fun _ _ _ h => h) (Or.inl ⟨by rfl, ?_⟩) (by assumption) ?_
        rotate_left 1
        · intro W hSw
          try dsimp only at hSw
          go_simp
          try with_reducible rfl
        try simp only [Act.put, List.setIfInBounds_toArray, List.set_cons_zero, List.set_cons_succ]
        refine wpAnyH_take (i := 13) (oi := ⟨_, _, _, _, _, _⟩) (v := ?_) rfl (by kernel_rfl) (by kernel_rfl) (by kernel_rfl) (fun _ _ _ h => h) (Or.inl ⟨by rfl, ?_⟩) (by assumption) ?_
        rotate_left 1
        · intro W hSw
          try dsimp only at hSw
          go_simp
          try with_reducible rfl
        try simp only [Act.put, List.setIfInBounds_toArray, List.set_cons_zero, List.set_cons_succ]
        refine wpAnyH_take (i := 14) (oi := ⟨_, _, _, _, _, _⟩) (v := ?_) rfl (by kernel_rfl) (by kernel_rfl) (by kernel_rfl) (fun _ _ _ h => h) (Or.inl ⟨by rfl, ?_⟩) (by assumption) ?_
        rotate_left 1
        · intro W hSw
          try dsimp only at hSw
          go_simp
          try with_reducible rfl
        try simp only [Act.put, List.setIfInBounds_toArray, List.set_cons_zero, List.set_cons_succ]
        refine wpAnyH_take (i := 15) (oi := ⟨_, _, _, _, _, _⟩) (v := ?_) rfl (by kernel_rfl) (by kernel_rfl) (by kernel_rfl) (fun _ _ _ h => h) (Or.inl ⟨by rfl, ?_⟩) (by assumption) ?_
        rotate_left 1
        · intro W hSw
          try dsimp only at hSw
          go_simp
          try with_reducible rfl
        try simp only [Act.put, List.setIfInBounds_toArray, List.set_cons_zero, List.set_cons_succ]
        refine wpAnyH_done (by kernel_rfl) ?_ _
        go_wp2
        clear hc0 hHeld
        go_loopw [5, 7] (fun nv kv wt => ∃ (k : Nat) (v2 : Int), k ≤ l.length ∧ k ≤ 301 ∧ kv = .int .i64 k ∧ nv = .int .i64 v2 ∧ Hid (Below w.heap.size w wt)) (fun _ kv _ => l.length - (intOf kv).toNat)
        case atStart => exact ⟨0, _, by omega, by omega, rfl, rfl, Hb.out.drew⟩
        case round =>
          clear HC0 HC1 Hb
          obtain ⟨k, v2, hk, hk3, rfl, rfl, Hb⟩ := hrel
          have hc0 : wr.cell? ⟨bm, 0, none⟩ = some (.slice t.A l.length t.c) := by
            rw [← HLL.out]; exact (Hb.out.cell (p := ⟨bm, 0, none⟩) HC.out.2.2.2.2).trans HC.out.1
          by_cases hlt : k < l.length
          · have hin : (k : Int) < (l.length : Int) := by omega
            by_cases hle : k ≤ 300
            · have hlb : (k : Int) ≤ 300 := by omega
              obtain ⟨b, off, hA, hbb, hr⟩ := insC_row HIS.out (fun i h => (HI.out i h).1) (by omega)
              rw [hA] at hc0
              have hrk := rngB (hr k hlt) Hb.out hbb
              have hik := HI.out _ (List.getElem_mem hlt)
              obtain ⟨x, hx⟩ : ∃ x, l[k] = x := ⟨_, rfl⟩
              rw [hx] at hrk hik
              have hw33 : wr.cell? ⟨b, off + k * 34 + 33, none⟩ = some (.slice x.A x.wit.length x.c) := hrk 33 _ (inC_at hik.1).2
              clear hr hrk hik hx hA
              by_cases hmn : (30001 : Int) < (x.wit.length : Int)
              · go_wp2
                go_roundw
                case rel => exact ⟨k + 1, _, by omega, by omega, by go_num, rfl, Hb.out⟩
                case measure => simp [intOf] <;> omega
              · go_wp2
                go_roundw
                case rel => exact ⟨k + 1, _, by omega, by omega, by go_num, rfl, Hb.out⟩
                case measure => simp [intOf] <;> omega
            · have hgb : decide ((k : Int) ≤ 300) = false := decide_eq_false (by omega)
              by_cases hg : (600 : Int) < v2
              · go_wp2
                go_ret
                exact ⟨_, rfl, Hb.out⟩
              · go_wp2
                go_roundw
                case rel => exact ⟨1, v2, by omega, by go_num, rfl, Hb.out⟩
                case measure => simp [intOf] <;> omega
          · obtain rfl : k = l.length := by omega
            by_cases hg : (600 : Int) < v2
            · go_wp2
              go_ret
              exact ⟨_, rfl, Hb.out⟩
            · go_wp2
              go_roundw
              case rel => exact ⟨1, v2, by omega, by go_num, rfl, Hb.out⟩
              case measure => simp [intOf] <;> omega
      · obtain rfl : i = 1 := by omega
        obtain ⟨l, hl⟩ : ∃ l, u.ins = l := ⟨_, rfl⟩
        obtain ⟨no, hno⟩ : ∃ l, u.outs.length = l := ⟨_, rfl⟩
        have hc0 : wr.cell? ⟨bm, 3, none⟩ = some (.slice u.A l.length u.c) := by rw [← hl]; exact (Hb.out.cell (p := ⟨bm, 3, none⟩) HC.out.2.2.2.2).trans HC.out.2.2.1
        have hc1 : wr.cell? ⟨bm, 4, none⟩ = some (.slice u.B no u.d) := by rw [← hno]; exact (Hb.out.cell (p := ⟨bm, 4, none⟩) HC.out.2.2.2.2).trans HC.out.2.2.2.1
        have hmi : l.length ≤ 140737488355328 := by rw [← hl]; exact HU.out.mi
        have HI : Hid (∀ j ∈ l, j.id.length = 32 ∧ j.wit.length ≤ 140737488355328) := fun j hj => by rw [← hl] at hj; exact ⟨(HU.out.each j hj).id, (HU.out.each j hj).m⟩
        have HIS : Hid (SeesV w w.heap.size u.A (insC l)) := by show SeesV _ _ _ _; rw [← hl]; exact HU.out.ins
        have HC0 := Lib.hid hc0
        have HC1 := Lib.hid hc1
        have HLL : Hid (u.ins.length = l.length) := by show _ = _; rw [hl]
        clear hl hno hc1
        go_wp2_with fail
        refine wp_region_held_drew (S := fun W => W.cell? ⟨bm, 3, none⟩ = some (.slice u.A l.length u.c) ∧ W.cell? ⟨bm, 4, none⟩ = some (.slice u.B no u.d)) (by kernel_rfl) ⟨HC0.out, HC1.out⟩ (fun hHeld => ?_)
        refine wpAnyH_take (i := 0) (oi := ⟨_, _, _, _, _, _⟩) (v := ?_) rfl (by kernel_rfl) (by kernel_rfl) (by kernel_rfl) (fun _ _ _ h => h) (Or.inl ⟨by rfl, ?_⟩) (by assumption) ?_
        rotate_left 1
        · intro W hSw
          try dsimp only at hSw
          go_simp
          try with_reducible rfl
        try simp only [Act.put, List.setIfInBounds_toArray, List.set_cons_zero, List.set_cons_succ]
        refine wpAnyH_take (i := 1) (oi := ⟨_, _, _, _, _, _⟩) (v := ?_) rfl (by kernel_rfl) (by kernel_rfl) (by kernel_rfl) (fun _ _ _ h => h) (Or.inl ⟨by rfl, ?_⟩) (by assumption) ?_
        rotate_left 1
        · intro W hSw
          try dsimp only at hSw
          go_simp
          try with_reducible rfl
        try simp only [Act.put, List.setIfInBounds_toArray, List.set_cons_zero, List.set_cons_succ]
        refine wpAnyH_take (i := 2) (oi := ⟨_, _, _, _, _, _⟩) (v := ?_) rfl (by kernel_rfl) (by kernel_rfl) (by kernel_rfl) (fun _ _ _ h => h) (Or.inl ⟨by rfl, ?_⟩) (by assumption) ?_
        rotate_left 1
        · intro W hSw
          try dsimp only at hSw
          go_simp
          try with_reducible rfl
        try simp only [Act.put, List.setIfInBounds_toArray, List.set_cons_zero, List.set_cons_succ]
        refine wpAnyH_take (i := 3) (oi := ⟨_, _, _, _, _, _⟩) (v := ?_) rfl (by kernel_rfl) (by kernel_rfl) (by kernel_rfl) (fun _ _ _ h => h) (Or.inl ⟨by rfl, ?_⟩) (by assumption) ?_
        rotate_left 1
        · intro W hSw
          try dsimp only at hSw
          go_simp
          try with_reducible rfl
        try simp only [Act.put, List.setIfInBounds_toArray, List.set_cons_zero, List.set_cons_succ]
        refine wpAnyH_take (i := 4) (oi := ⟨_, _, _, _, _, _⟩) (v := ?_) rfl (by kernel_rfl) (by kernel_rfl) (by kernel_rfl) (fun _ _ _ h => h) (Or.inl ⟨by rfl, ?_⟩) (by assumption) ?_
        rotate_left 1
        · intro W hSw
          try dsimp only at hSw
          go_simp
          try with_reducible rfl
        try simp only [Act.put, List.setIfInBounds_toArray, List.set_cons_zero, List.set_cons_succ]
        refine wpAnyH_take (i := 5) (oi := ⟨_, _, _, _, _, _⟩) (v := ?_) rfl (by kernel_rfl) (by kernel_rfl) (by kernel_rfl) (fun _ _ _ h => h) (Or.inl ⟨by rfl, ?_⟩) (by assumption) ?_
        rotate_left 1
        · intro W hSw
          try dsimp only at hSw
          go_simp
          try with_reducible rfl
        try simp only [Act.put, List.setIfInBounds_toArray, List.set_cons_zero, List.set_cons_succ]
        refine wpAnyH_take (i := 6) (oi := ⟨_, _, _, _, _, _⟩) (v := ?_) rfl (by kernel_rfl) (by kernel_rfl) (by kernel_rfl) (fun _ _ _ h => h) (Or.inl ⟨by rfl, ?_⟩) (by assumption) ?_
        rotate_left 1
        · intro W hSw
          try dsimp only at hSw
          go_simp
          try with_reducible rfl
        try simp only [Act.put, List.setIfInBounds_toArray, List.set_cons_zero, List.set_cons_succ]
        refine wpAnyH_take (i := 7) (oi := ⟨_, _, _, _, _, _⟩) (v := ?_) rfl (by kernel_rfl) (by kernel_rfl) (by kernel_rfl) (fun _ _ _ h => h) (Or.inl ⟨by rfl, ?_⟩) (by assumption) ?_
        rotate_left 1
        · intro W hSw
          try dsimp only at hSw
          go_simp
          try with_reducible rfl
        try simp only [Act.put, List.setIfInBounds_toArray, List.set_cons_zero, List.set_cons_succ]
        refine wpAnyH_take (i := 8) (oi := ⟨_, _, _, _, _, _⟩) (v := ?_) rfl (by kernel_rfl) (by kernel_rfl) (by kernel_rfl) (fun _ _ _ h => h) (Or.inl ⟨by rfl, ?_⟩) (by assumption) ?_
        rotate_left 1
        · intro W hSw
          try dsimp only at hSw
          go_simp
          try with_reducible rfl
        try simp only [Act.put, List.setIfInBounds_toArray, List.set_cons_zero, List.set_cons_succ]
        refine wpAnyH_take (i := 9) (oi := ⟨_, _, _, _, _, _⟩) (v := ?_) rfl (by kernel_rfl) (by kernel_rfl) (by kernel_rfl) (fun _ _ _ h => h) (Or.inl ⟨by rfl, ?_⟩) (by assumption) ?_
        rotate_left 1
        · intro W hSw
          try dsimp only at hSw
          go_simp
          try with_reducible rfl
        try simp only [Act.put, List.setIfInBounds_toArray, List.set_cons_zero, List.set_cons_succ]
        refine wpAnyH_take (i := 10) (oi := ⟨_, _, _, _, _, _⟩) (v := ?_) rfl (by kernel_rfl) (by kernel_rfl) (by kernel_rfl) (fun _ _ _ h => h) (Or.inl ⟨by rfl, ?_⟩) (by assumption) ?_
        rotate_left 1
        · intro W hSw
          try dsimp only at hSw
          go_simp
          try with_reducible rfl
        try simp only [Act.put, List.setIfInBounds_toArray, List.set_cons_zero, List.set_cons_succ]
        refine wpAnyH_take (i := 11) (oi := ⟨_, _, _, _, _, _⟩) (v := ?_) rfl (by kernel_rfl) (by kernel_rfl) (by kernel_rfl) (fun _ _ _ h => h) (Or.inl ⟨by rfl, ?_⟩) (by assumption) ?_
        rotate_left 1
        · intro W hSw
          try dsimp only at hSw
          go_simp
          try with_reducible rfl
        try simp only [Act.put, List.setIfInBounds_toArray, List.set_cons_zero, List.set_cons_succ]
        refine wpAnyH_take (i := 12) (oi := ⟨_, _, _, _, _, _⟩) (v := ?_) rfl (by kernel_rfl) (by kernel_rfl) (by kernel_rfl) (fun _ _ _ h => h) (Or.inl ⟨by rfl, ?_⟩) (by assumption) ?_
        rotate_left 1
        · intro W hSw
          try dsimp only at hSw
          go_simp
          try with_reducible rfl
        try simp only [Act.put, List.setIfInBounds_toArray, List.set_cons_zero, List.set_cons_succ]
        refine wpAnyH_take (i := 13) (oi := ⟨_, _, _, _, _, _⟩) (v := ?_) rfl (by kernel_rfl) (by kernel_rfl) (by kernel_rfl) (fun _ _ _ h => h) (Or.inl ⟨by rfl, ?_⟩) (by assumption) ?_
        rotate_left 1
        · intro W hSw
          try dsimp only at hSw
          go_simp
          try with_reducible rfl
        try simp only [Act.put, List.setIfInBounds_toArray, List.set_cons_zero, List.set_cons_succ]
        refine wpAnyH_take (i := 14) (oi := ⟨_, _, _, _, _, _⟩) (v := ?_) rfl (by kernel_rfl) (by kernel_rfl) (by kernel_rfl) (fun _ _ _ h => h) (Or.inl ⟨by rfl, ?_⟩) (by assumption) ?_
        rotate_left 1
        · intro W hSw
          try dsimp only at hSw
          go_simp
          try with_reducible rfl
        try simp only [Act.put, List.setIfInBounds_toArray, List.set_cons_zero, List.set_cons_succ]
        refine wpAnyH_take (i := 15) (oi := ⟨_, _, _, _, _, _⟩) (v := ?_) rfl (by kernel_rfl) (by kernel_rfl) (by kernel_rfl) (fun _ _ _ h => h) (Or.inl ⟨by rfl, ?_⟩) (by assumption) ?_
        rotate_left 1
        · intro W hSw
          try dsimp only at hSw
          go_simp
          try with_reducible rfl
        try simp only [Act.put, List.setIfInBounds_toArray, List.set_cons_zero, List.set_cons_succ]
        refine wpAnyH_done (by kernel_rfl) ?_ _
        go_wp2
        clear hc0 hHeld
        go_loopw [5, 7] (fun nv kv wt => ∃ (k : Nat) (v2 : Int), k ≤ l.length ∧ k ≤ 301 ∧ kv = .int .i64 k ∧ nv = .int .i64 v2 ∧ Hid (Below w.heap.size w wt)) (fun _ kv _ => l.length - (intOf kv).toNat)
        case atStart => exact ⟨0, _, by omega, by omega, rfl, rfl, Hb.out.drew⟩
        case round =>
          clear HC0 HC1 Hb
          obtain ⟨k, v2, hk, hk3, rfl, rfl, Hb⟩ := hrel
          have hc0 : wr.cell? ⟨bm, 3, none⟩ = some (.slice u.A l.length u.c) := by
            rw [← HLL.out]; exact (Hb.out.cell (p := ⟨bm, 3, none⟩) HC.out.2.2.2.2).trans HC.out.2.2.1
          by_cases hlt : k < l.length
          · have hin : (k : Int) < (l.length : Int) := by omega
            by_cases hle : k ≤ 300
            · have hlb : (k : Int) ≤ 300 := by omega
              obtain ⟨b, off, hA, hbb, hr⟩ := insC_row HIS.out (fun i h => (HI.out i h).1) (by omega)
              rw [hA] at hc0
              have hrk := rngB (hr k hlt) Hb.out hbb
              have hik := HI.out _ (List.getElem_mem hlt)
              obtain ⟨x, hx⟩ : ∃ x, l[k] = x := ⟨_, rfl⟩
              rw [hx] at hrk hik
              have hw33 : wr.cell? ⟨b, off + k * 34 + 33, none⟩ = some (.slice x.A x.wit.length x.c) := hrk 33 _ (inC_at hik.1).2
              clear hr hrk hik hx hA
              by_cases hmn : (30001 : Int) < (x.wit.length : Int)
              · go_wp2
                go_roundw
                case rel => exact ⟨k + 1, _, by omega, by omega, by go_num, rfl, Hb.out⟩
                case measure => simp [intOf] <;> omega
              · go_wp2
                go_roundw
                case rel => exact ⟨k + 1, _, by omega, by omega, by go_num, rfl, Hb.out⟩
                case measure => simp [intOf] <;> omega
            · have hgb : decide ((k : Int) ≤ 300) = false := decide_eq_false (by omega)
              by_cases hg : (600 : Int) < v2
              · go_wp2
                go_ret
                exact ⟨_, rfl, Hb.out⟩
              · go_wp2
                go_roundw
                case rel => exact ⟨2, v2, by omega, by go_num, rfl, Hb.out⟩
                case measure => simp [intOf] <;> omega
          · obtain rfl : k = l.length := by omega
            by_cases hg : (600 : Int) < v2
            · go_wp2
              go_ret
              exact ⟨_, rfl, Hb.out⟩
            · go_wp2
              go_roundw
              case rel => exact ⟨2, v2, by omega, by go_num, rfl, Hb.out⟩
              case measure => simp [intOf] <;> omega
end Go.Proofs.Ytjcbihdhkaiidaa
