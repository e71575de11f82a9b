/-
  block, the document's: ids, Root, Check.
  tx: there and back: what is packed is read, and what is read packs to what it was read of.
  block: there and back: what is packed is read, and what is read packs to what it was read of.
-/
import Derived.Test.YtpfjkjogljilnaaDoorBkD
import Derived.Test.YtpfjkjogljilnaaDoorBk7
import Derived.Test.YtpfjkjogljilnaaDoorPBbQ6
import Derived.Test.YtpfjkjogljilnaaDoorMkK
import Derived.Test.YtpfjkjogljilnaaDoorRg
import Derived.Test.YtpfjkjogljilnaaDoorTr1
import Derived.Test.YtpfjkjogljilnaaDoorBkMa
import Derived.Test.YtpfjkjogljilnaaDoorPBbQ8
namespace Go.Proofs.YtpfjkjogljilnaaDoor
open Go.RowKit

section
variable {P : Program}
theorem quiet_eql_bytes {C : World → Prop} {op : Oper} {a : Act} {K : Act → Prop} (t e : TypeId) (x y : Operand) (ho : op.op = .binOp .eql t x y t) (n : Nat) (ht : P.underlying t = some (.array n e)) (he : P.underlying e = some (.int .u8)) (hs : (P.info? e).map (·.size) = some 1) (hg : P.eqGuardType P.depth t = false)
    (l k : List UInt8) (hl : l.length = n) (hk : k.length = n) (hx : a.eval x = .agg (By l).toArray) (hy : a.eval y = .agg (By k).toArray) (h : K (a.put op.dst (.bool (l == k)))) : op.quiet P a C K := by
  refine ⟨_, fun w hw => ?_, h⟩
  unfold Oper.quietAt execOp
  have hq : (eqGuard .eql t x y (.agg (By l).toArray) (.agg (By k).toArray)).run P w = .ok () w := by simp [eqGuard, hg]
  simp only [ho, hx, hy, Sem.run_bind, Sem.run_pure, Result.andThen_ok, hq, run_eql_bytes n t e ht he hs l k hl hk]
  exact ⟨rfl, rfl⟩
end
theorem nodup_one {l : List (List UInt8)} {i : Nat} (h : i < l.length) (hn : (l.take i).Nodup) (hne : ∀ j (hj : j < l.length), j < i → l[j] ≠ l[i]) : (l.take (i + 1)).Nodup := by
  refine nodup_next h hn (fun hm => ?_)
  obtain ⟨j, hj, e⟩ := List.getElem_of_mem hm
  rw [List.length_take] at hj
  rw [List.getElem_take] at e
  exact hne j (by omega) (by omega) e
theorem nodup_two {l : List (List UInt8)} {i j : Nat} (h : i < l.length) (hj : j < i) (e : l[i] = l[j]'(by omega)) : ¬ l.Nodup := by
  refine nodup_not h ?_
  rw [e, List.mem_iff_getElem]
  exact ⟨j, by rw [List.length_take]; omega, by rw [List.getElem_take]⟩

end Go.Proofs.YtpfjkjogljilnaaDoor

namespace Go.Proofs.YtpfjkjogljilnaaDoor
open Go.RowKit

theorem cut_fr (x r : List UInt8) (n : Int) (hn : n = (x.length : Int)) : cutPiece (some (x ++ r)) n true = x ∧ cutRest (some (x ++ r)) n true = some r := by
  subst hn
  have : cutOk (some (x ++ r)) (x.length : Int) true = true := by
    simp [cutOk, lenS]
    omega
  simp [cutPiece, cutRest, this]
theorem ofLe_back {N k : Nat} (h : N < 256 ^ k) : ofLe (leB N k) = N := by rw [ofLe_leB, Nat.mod_eq_of_lt h]
theorem ofLe_b2 {N : Nat} (h : N < 65536) : ofLe (leB N 2) = N := by
  have e : (256 : Nat) ^ 2 = 65536 := by decide
  exact ofLe_back (by omega)
theorem ofLe_b4 {N : Nat} (h : N < 4294967296) : ofLe (leB N 4) = N := by
  have e : (256 : Nat) ^ 4 = 4294967296 := by decide
  exact ofLe_back (by omega)
theorem ofLe_b8 {N : Nat} (h : N < 18446744073709551616) : ofLe (leB N 8) = N := by
  have e : (256 : Nat) ^ 8 = 18446744073709551616 := by decide
  exact ofLe_back (by omega)
theorem over_32 {x : List UInt8} (h : x.length = 32) : over zero32 x 32 = x := by
  unfold over
  rw [List.take_of_length_le (by omega), List.drop_eq_nil_of_le (by simp [zero32, h]), List.append_nil]
theorem blob_fr (x r : List UInt8) (h : x.length ≤ 16777216) : blobPiece (some (leB x.length 4 ++ (x ++ r))) = x ∧ blobRest (some (leB x.length 4 ++ (x ++ r))) = some r := by
  obtain ⟨h1, h2⟩ := cut_fr (leB x.length 4) (x ++ r) 4 (by rw [leB_length]; rfl)
  have hN : blobN (some (leB x.length 4 ++ (x ++ r))) = x.length := by
    unfold blobN; rw [h1]; exact ofLe_b4 (by omega)
  have hM : blobM (some (leB x.length 4 ++ (x ++ r))) = true := by unfold blobM; rw [hN]; exact decide_eq_true h
  obtain ⟨h3, h4⟩ := cut_fr x r x.length rfl
  unfold blobPiece blobRest
  rw [h2, hN, hM]
  exact ⟨h3, h4⟩
theorem readI_fr (i : InR) (r : List UInt8) (h : i.id.length = 32) (hn : i.n < 4294967296) (hw : i.wit.length ≤ 16777216) : readI (some (inB i ++ r)) = (inP i, some r) := by
  have e : inB i ++ r = i.id ++ (leB i.n 4 ++ (leB i.wit.length 4 ++ (i.wit ++ r))) := by simp [inB]
  obtain ⟨h1, h2⟩ := cut_fr i.id (leB i.n 4 ++ (leB i.wit.length 4 ++ (i.wit ++ r))) 32 (by rw [h]; rfl)
  obtain ⟨h3, h4⟩ := cut_fr (leB i.n 4) (leB i.wit.length 4 ++ (i.wit ++ r)) 4 (by rw [leB_length]; rfl)
  obtain ⟨h5, h6⟩ := blob_fr i.wit r hw
  unfold readI
  rw [e, h1, h2, h3, h4, h5, h6, over_32 h, ofLe_b4 hn]
  rfl
theorem readO_fr (o : OutR) (r : List UInt8) (h : OutOk o) : readO (some (outB o ++ r)) = (o, some r) := by
  have e : outB o ++ r = leB o.amt 8 ++ (o.lock ++ r) := by simp [outB]
  obtain ⟨h1, h2⟩ := cut_fr (leB o.amt 8) (o.lock ++ r) 8 (by rw [leB_length]; rfl)
  obtain ⟨h3, h4⟩ := cut_fr o.lock r 32 (by rw [h.lock]; rfl)
  unfold readO
  rw [e, h1, h2, h3, h4, over_32 h.lock, ofLe_b8 h.amt]
theorem insB_drop {l : List InR} {k : Nat} (h : k < l.length) : insB (l.drop k) = inB l[k] ++ insB (l.drop (k + 1)) := by
  unfold insB; rw [List.drop_eq_getElem_cons h, List.map_cons, List.flatten_cons]
theorem outsB_drop {l : List OutR} {k : Nat} (h : k < l.length) : outsB (l.drop k) = outB l[k] ++ outsB (l.drop (k + 1)) := by
  unfold outsB; rw [List.drop_eq_getElem_cons h, List.map_cons, List.flatten_cons]
theorem readIs_fr (l : List InR) (r : List UInt8) (h : ∀ i ∈ l, i.id.length = 32 ∧ i.n < 4294967296 ∧ i.wit.length ≤ 16777216) : ∀ k, k ≤ l.length → readIs k (some (insB l ++ r)) = ((l.take k).map inP, some (insB (l.drop k) ++ r)) := by
  intro k
  induction k with
  | zero => intro _; simp [readIs]
  | succ k ih =>
    intro hk
    have hk' : k < l.length := by omega
    obtain ⟨h1, h2, h3⟩ := h _ (List.getElem_mem hk')
    rw [readIs, ih (by omega)]
    rw [insB_drop hk', List.append_assoc, readI_fr _ _ h1 h2 h3, List.take_succ_eq_append_getElem hk', List.map_append]
    rfl
theorem readOs_fr (l : List OutR) (r : List UInt8) (h : ∀ o ∈ l, OutOk o) : ∀ k, k ≤ l.length → readOs k (some (outsB l ++ r)) = (l.take k, some (outsB (l.drop k) ++ r)) := by
  intro k
  induction k with
  | zero => intro _; simp [readOs]
  | succ k ih =>
    intro hk
    have hk' : k < l.length := by omega
    rw [readOs, ih (by omega)]
    rw [outsB_drop hk', List.append_assoc, readO_fr _ _ (h _ (List.getElem_mem hk')), List.take_succ_eq_append_getElem hk']
theorem insB_end (l : List InR) : insB (l.drop l.length) = [] := by rw [List.drop_length]; rfl
theorem outsB_end (l : List OutR) : outsB (l.drop l.length) = [] := by rw [List.drop_length]; rfl
theorem cnt_fr (n : Nat) (r : List UInt8) (h : n ≤ 64) : ofN (some (leB n 2 ++ r)) = n ∧ cutRest (some (leB n 2 ++ r)) 2 true = some r := by
  obtain ⟨h1, h2⟩ := cut_fr (leB n 2) r 2 (by rw [leB_length]; rfl)
  refine ⟨?_, h2⟩
  unfold ofN
  rw [h1, ofLe_b2 (by omega)]
  omega
/-- What is packed, and more behind it, is read, and the more is left. -/
theorem pack_read (t : TxR) (hi : ∀ i ∈ t.ins, i.id.length = 32 ∧ i.n < 4294967296) (ho : ∀ o ∈ t.outs, OutOk o) (hn : t.nonce < 18446744073709551616) (h : checkT t = 0) (r : List UInt8) :
    ofP (packT t ++ r) = txP t ∧ ofR (packT t ++ r) = some r := by
  obtain ⟨⟨_, hi1⟩, ⟨_, ho1⟩, hw⟩ := checkT_ok h
  have hi2 : ∀ i ∈ t.ins, i.id.length = 32 ∧ i.n < 4294967296 ∧ i.wit.length ≤ 16777216 := fun i hm => ⟨(hi i hm).1, (hi i hm).2, by have := hw i hm; omega⟩
  have e : packT t ++ r = leB t.ins.length 2 ++ (insB t.ins ++ (leB t.outs.length 2 ++ (outsB t.outs ++ (leB t.nonce 8 ++ r)))) := by simp [packT]
  obtain ⟨c1, c2⟩ := cnt_fr t.ins.length (insB t.ins ++ (leB t.outs.length 2 ++ (outsB t.outs ++ (leB t.nonce 8 ++ r)))) hi1
  obtain ⟨d1, d2⟩ := cnt_fr t.outs.length (outsB t.outs ++ (leB t.nonce 8 ++ r)) ho1
  have f1 : ofI (packT t ++ r) = (t.ins.map inP, some (leB t.outs.length 2 ++ (outsB t.outs ++ (leB t.nonce 8 ++ r)))) := by
    unfold ofI
    rw [e, c1, c2, readIs_fr _ _ hi2 _ (Nat.le_refl _), insB_end, List.take_length, List.nil_append]
  have f2 : ofO (packT t ++ r) = (t.outs, some (leB t.nonce 8 ++ r)) := by
    unfold ofO
    rw [f1]
    show readOs (ofN (some _)) (cutRest (some _) 2 true) = _
    rw [d1, d2, readOs_fr _ _ ho _ (Nat.le_refl _), outsB_end, List.take_length, List.nil_append]
  obtain ⟨g1, g2⟩ := cut_fr (leB t.nonce 8) r 8 (by rw [leB_length]; rfl)
  unfold ofP ofR
  rw [f1, f2]
  constructor
  · show TxP.mk _ _ (ofLe (cutPiece (some _) 8 true)) = _
    rw [g1, ofLe_b8 hn]
    rfl
  · exact g2
theorem pack_ofB (t : TxR) (hi : ∀ i ∈ t.ins, i.id.length = 32 ∧ i.n < 4294967296) (ho : ∀ o ∈ t.outs, OutOk o) (hn : t.nonce < 18446744073709551616) (h : checkT t = 0) : ofB (packT t) = true ∧ ofV (packT t) = txP t := by
  obtain ⟨h1, h2⟩ := pack_read t hi ho hn h []
  rw [List.append_nil] at h1 h2
  have hB : ofB (packT t) = true := by unfold ofB; rw [h1, h2, checkT_up, h]; rfl
  exact ⟨hB, by rw [ofV, hB, h1]; rfl⟩
theorem packT_back (t : TxR) : packT (txP t).up = packT t := by
  have h : ∀ l : List InR, insB ((l.map inP).map unP) = insB l := fun l => by
    induction l with
    | nil => rfl
    | cons i r ih =>
      have e1 : insB (((i :: r).map inP).map unP) = inB i ++ insB ((r.map inP).map unP) := by simp [insB]; rfl
      have e2 : insB (i :: r) = inB i ++ insB r := by simp [insB]
      rw [e1, e2, ih]
  unfold packT
  have h1 : (txP t).up.ins = (t.ins.map inP).map unP := rfl
  rw [h1, h, List.length_map, List.length_map]
  rfl
theorem packT_same {t u : TxR} (h : txP t = txP u) : packT t = packT u := by rw [← packT_back, h, packT_back]
/-- None's bytes begin another one's. -/
theorem pack_begin (t u : TxR) (ti : ∀ i ∈ t.ins, i.id.length = 32 ∧ i.n < 4294967296) (to : ∀ o ∈ t.outs, OutOk o) (tn : t.nonce < 18446744073709551616) (th : checkT t = 0)
    (ui : ∀ i ∈ u.ins, i.id.length = 32 ∧ i.n < 4294967296) (uo : ∀ o ∈ u.outs, OutOk o) (un : u.nonce < 18446744073709551616) (uh : checkT u = 0) (r : List UInt8) (h : packT u = packT t ++ r) : txP t = txP u := by
  obtain ⟨h1, h2⟩ := pack_read t ti to tn th r
  obtain ⟨h3, h4⟩ := pack_read u ui uo un uh []
  rw [List.append_nil, h] at h3
  rw [← h1, ← h3]

/-! back -/
theorem cut_inv {s : Option (List UInt8)} {n : Nat} {r : List UInt8} (h : cutRest s (n : Int) true = some r) : s = some (cutPiece s (n : Int) true ++ r) ∧ (cutPiece s (n : Int) true).length = n := by
  unfold cutRest at h
  split at h
  · rename_i hok
    injection h with h
    unfold cutPiece
    rw [if_pos hok]
    simp only [cutOk, Bool.and_eq_true, decide_eq_true_eq] at hok
    obtain ⟨⟨_, h2⟩, h3⟩ := hok
    obtain ⟨l, rfl⟩ := Option.isSome_iff_exists.1 h2
    simp only [lenS, Option.getD_some, Int.toNat_natCast] at h3 h ⊢
    rw [← h, List.take_append_drop]
    exact ⟨rfl, by rw [List.length_take]; omega⟩
  · cases h
theorem cut_inv2 {s : Option (List UInt8)} {r : List UInt8} (h : cutRest s 2 true = some r) : s = some (cutPiece s 2 true ++ r) ∧ (cutPiece s 2 true).length = 2 := cut_inv (n := 2) h
theorem cut_inv4 {s : Option (List UInt8)} {r : List UInt8} (h : cutRest s 4 true = some r) : s = some (cutPiece s 4 true ++ r) ∧ (cutPiece s 4 true).length = 4 := cut_inv (n := 4) h
theorem cut_inv8 {s : Option (List UInt8)} {r : List UInt8} (h : cutRest s 8 true = some r) : s = some (cutPiece s 8 true ++ r) ∧ (cutPiece s 8 true).length = 8 := cut_inv (n := 8) h
theorem cut_inv32 {s : Option (List UInt8)} {r : List UInt8} (h : cutRest s 32 true = some r) : s = some (cutPiece s 32 true ++ r) ∧ (cutPiece s 32 true).length = 32 := cut_inv (n := 32) h
theorem leB_ofLe : ∀ (k : Nat) (p : List UInt8), p.length = k → leB (ofLe p) k = p := by
  intro k
  induction k with
  | zero => intro p h; rw [List.eq_nil_of_length_eq_zero h]; rfl
  | succ k ih =>
    intro p h
    have hp : p = p.take k ++ [p[k]'(by omega)] := by
      have h1 := List.take_succ_eq_append_getElem (l := p) (i := k) (by omega)
      rw [List.take_of_length_le (by omega)] at h1
      exact h1
    have hq : (p.take k).length = k := by rw [List.length_take]; omega
    have ho : ofLe p = ofLe (p.take k) + 256 ^ k * (p[k]'(by omega)).toNat := by
      conv => lhs; rw [hp]
      rw [ofLe_append, hq]
    have hlt : ofLe (p.take k) < 256 ^ k := by have := ofLe_lt (p.take k); rw [hq] at this; exact this
    have hb := (p[k]'(by omega)).toNat_lt
    have h2 : ofLe p / 256 ^ k = (p[k]'(by omega)).toNat := by
      rw [ho, Nat.add_mul_div_left _ _ (Nat.pow_pos (by omega)), Nat.div_eq_of_lt hlt, Nat.zero_add]
    have h3 : leB (ofLe p) k = p.take k := by
      have h4 : ∀ (j : Nat) (N M : Nat), N % 256 ^ j = M % 256 ^ j → leB N j = leB M j := by
        intro j
        induction j with
        | zero => intros; rfl
        | succ j ihj =>
          intro N M hNM
          have e1 : N % 256 ^ j = M % 256 ^ j := by
            have := congrArg (· % 256 ^ j) hNM
            simp only [Nat.pow_succ] at this
            rwa [Nat.mod_mul_right_mod, Nat.mod_mul_right_mod] at this
          have e2 : N / 256 ^ j % 256 = M / 256 ^ j % 256 := by
            rw [Nat.pow_succ, Nat.mod_mul, Nat.mod_mul, e1] at hNM
            have := Nat.add_left_cancel hNM
            exact Nat.eq_of_mul_eq_mul_left (Nat.pow_pos (by omega)) this
          unfold leB
          rw [ihj N M e1, e2]
      rw [h4 k (ofLe p) (ofLe (p.take k)) (by rw [ho, Nat.add_mul_mod_self_left])]
      exact ih _ hq
    rw [leB, h3, h2, Nat.mod_eq_of_lt hb, UInt8.ofNat_toNat]
    exact hp.symm
theorem blob_inv {s : Option (List UInt8)} {r : List UInt8} (h : blobRest s = some r) : s = some (leB (blobPiece s).length 4 ++ (blobPiece s ++ r)) := by
  have hm : blobM s = true := by
    cases hb : blobM s with
    | true => rfl
    | false => unfold blobRest at h; rw [hb] at h; simp [cutRest, cutOk] at h
  unfold blobRest at h
  rw [hm] at h
  obtain ⟨h1, h2⟩ := cut_inv h
  have hp : blobPiece s = cutPiece (cutRest s 4 true) (blobN s) true := by unfold blobPiece; rw [hm]
  rw [← hp] at h1 h2
  obtain ⟨h3, h4⟩ := cut_inv4 h1
  rw [h2]
  have e : leB (blobN s) 4 = cutPiece s 4 true := leB_ofLe 4 _ h4
  rw [e]
  exact h3
theorem readI_inv {s : Option (List UInt8)} {r : List UInt8} (h : (readI s).2 = some r) : s = some (inB (unP (readI s).1) ++ r) := by
  have h1 := blob_inv (s := cutRest (cutRest s 32 true) 4 true) h
  obtain ⟨h2, h3⟩ := cut_inv4 h1
  obtain ⟨h4, h5⟩ := cut_inv32 h2
  have e : inB (unP (readI s).1) = over zero32 (cutPiece s 32 true) 32 ++ (leB (ofLe (cutPiece (cutRest s 32 true) 4 true)) 4 ++ (leB (blobPiece (cutRest (cutRest s 32 true) 4 true)).length 4 ++ blobPiece (cutRest (cutRest s 32 true) 4 true))) := rfl
  rw [e, over_32 h5, leB_ofLe 4 _ h3, List.append_assoc, List.append_assoc, List.append_assoc]
  exact h4
theorem readO_inv {s : Option (List UInt8)} {r : List UInt8} (h : (readO s).2 = some r) : s = some (outB (readO s).1 ++ r) := by
  obtain ⟨h1, h2⟩ := cut_inv32 (s := cutRest s 8 true) h
  obtain ⟨h3, h4⟩ := cut_inv8 h1
  have e : outB (readO s).1 = leB (ofLe (cutPiece s 8 true)) 8 ++ over zero32 (cutPiece (cutRest s 8 true) 32 true) 32 := rfl
  rw [e, over_32 h2, leB_ofLe 8 _ h4, List.append_assoc]
  exact h3
theorem readIs_inv (k : Nat) (s : Option (List UInt8)) : ∀ r, (readIs k s).2 = some r → s = some (insB ((readIs k s).1.map unP) ++ r) := by
  induction k with
  | zero => intro r h; rw [show s = some r from h]; rfl
  | succ k ih =>
    intro r h
    have h1 := ih _ (readI_inv h)
    have e : insB ((readIs (k + 1) s).1.map unP) = insB ((readIs k s).1.map unP) ++ inB (unP (readI (readIs k s).2).1) := by simp [readIs, insB]
    rw [e, List.append_assoc]
    exact h1
theorem readOs_inv (k : Nat) (s : Option (List UInt8)) : ∀ r, (readOs k s).2 = some r → s = some (outsB (readOs k s).1 ++ r) := by
  induction k with
  | zero => intro r h; rw [show s = some r from h]; rfl
  | succ k ih =>
    intro r h
    have h1 := ih _ (readO_inv h)
    have e : outsB (readOs (k + 1) s).1 = outsB (readOs k s).1 ++ outB (readO (readOs k s).2).1 := by simp [readOs, outsB]
    rw [e, List.append_assoc]
    exact h1
/-- What is read packs to what it was read of. -/
theorem read_pack (b : List UInt8) (h : ofB b = true) : packT (ofP b).up = b ∧ checkT (ofP b).up = 0 := by
  unfold ofB at h
  rw [Bool.and_eq_true, decide_eq_true_eq, beq_iff_eq] at h
  obtain ⟨hR, hC⟩ := h
  refine ⟨?_, hC⟩
  obtain ⟨⟨_, hi1⟩, ⟨_, ho1⟩, _⟩ := checkT_ok hC
  have hi2 : (ofI b).1.length ≤ 64 := by have e : (ofP b).up.ins.length = (ofI b).1.length := by show ((ofI b).1.map unP).length = _; rw [List.length_map]
                                         omega
  have ho2 : (ofO b).1.length ≤ 64 := ho1
  unfold ofR at hR
  obtain ⟨h1, h2⟩ := cut_inv8 hR
  rw [List.append_nil] at h1
  have h3 := readOs_inv _ _ _ h1
  obtain ⟨h4, h5⟩ := cut_inv2 h3
  have h6 := readIs_inv _ _ _ h4
  obtain ⟨h7, h8⟩ := cut_inv2 h6
  injection h7 with h7
  have l1 : (ofI b).1.length = ofN (some b) := readIs_len _ _
  have l2 : (ofO b).1.length = ofN (ofI b).2 := readOs_len _ _
  have n1 : (ofI b).1.length = ofLe (cutPiece (some b) 2 true) := by rw [l1, ofN] at hi2 ⊢; omega
  have n2 : (ofO b).1.length = ofLe (cutPiece (ofI b).2 2 true) := by rw [l2, ofN] at ho2 ⊢; omega
  have e : packT (ofP b).up = leB (ofI b).1.length 2 ++ (insB ((ofI b).1.map unP) ++ (leB (ofO b).1.length 2 ++ (outsB (ofO b).1 ++ leB (ofLe (cutPiece (ofO b).2 8 true)) 8))) := by
    unfold packT
    have q1 : (ofP b).up.ins = (ofI b).1.map unP := rfl
    rw [q1, List.length_map]
    rfl
  rw [e, n1, n2, leB_ofLe 2 _ h8, leB_ofLe 2 _ h5, leB_ofLe 8 _ h2]
  exact h7.symm
end Go.Proofs.YtpfjkjogljilnaaDoor

namespace Go.Proofs.YtpfjkjogljilnaaDoor
open Go.RowKit

theorem readH_fr (x r : List UInt8) (h : x.length = 32) : readH (some (x ++ r)) = (x, some r) := by
  obtain ⟨h1, h2⟩ := cut_fr x r 32 (by rw [h]; rfl)
  unfold readH
  rw [h1, h2, over_32 h]
theorem readHs_fr (L : List (List UInt8)) (r : List UInt8) (h : All32 L) : ∀ k, k ≤ L.length → readHs k (some (L.flatten ++ r)) = (L.take k, some ((L.drop k).flatten ++ r)) := by
  intro k
  induction k with
  | zero => intro _; rfl
  | succ k ih =>
    intro hk
    have e : (L.drop k).flatten = L[k] ++ (L.drop (k + 1)).flatten := by rw [List.drop_eq_getElem_cons (by omega)]; rfl
    rw [readHs_next (ih (by omega)), e, List.append_assoc, readH_fr _ _ (h.get (by omega)), List.take_succ_eq_append_getElem (by omega)]
theorem tailH_fr (p : HdP) (f : HdFit p) (r : List UInt8) : tailH p.ps (some (p.rt ++ (p.ac ++ (p.co ++ (p.mi ++ (leB p.nonce 8 ++ r)))))) = (p, some r) := by
  obtain ⟨g1, g2⟩ := cut_fr (leB p.nonce 8) r 8 (by rw [leB_length]; rfl)
  unfold tailH
  rw [readH_fr _ _ f.rt]
  dsimp only
  rw [readH_fr _ _ f.ac]
  dsimp only
  rw [readH_fr _ _ f.co]
  dsimp only
  rw [readH_fr _ _ f.mi]
  dsimp only
  rw [g1, g2, ofLe_b8 f.nonce]
theorem packH_ofH (p : HdP) (f : HdFit p) (hm : mayH p = true) : ofHR (packH p) = (p, some []) := by
  have hn : p.ps.length ≤ 255 := of_decide_eq_true hm
  obtain ⟨c1, c2⟩ := cut_fr (leB p.ps.length 2) (p.ps.flatten ++ (p.rt ++ (p.ac ++ (p.co ++ (p.mi ++ leB p.nonce 8))))) 2 (by rw [leB_length]; rfl)
  have hN : ofHN (some (packH p)) = p.ps.length := by
    unfold ofHN packH
    rw [c1, ofLe_b2 (by omega)]
    omega
  have hP : ofHP (packH p) = (p.ps, some (p.rt ++ (p.ac ++ (p.co ++ (p.mi ++ leB p.nonce 8))))) := by
    unfold ofHP
    rw [hN]
    unfold packH
    rw [c2, readHs_fr _ _ f.ps _ (Nat.le_refl _), List.take_length, List.drop_length]
    rfl
  unfold ofHR
  rw [hP]
  have h := tailH_fr p f []
  rw [List.append_nil] at h
  exact h
theorem packH_of {p : HdP} (f : HdFit p) (hm : mayH p = true) : ofHB (packH p) = true ∧ ofHV (packH p) = p := by
  have h := packH_ofH p f hm
  have hB : ofHB (packH p) = true := by unfold ofHB; rw [h, hm]; rfl
  exact ⟨hB, by rw [ofHV, hB, h]; rfl⟩
structure TxFit (t : TxR) : Prop where
  i : ∀ i ∈ t.ins, i.id.length = 32 ∧ i.n < 4294967296
  o : ∀ o ∈ t.outs, OutOk o
  n : t.nonce < 18446744073709551616
  c : checkT t = 0
  l : (packT t).length ≤ 30000
theorem TxOk.fit {w : World} {t : TxR} (h : TxOk w t) (hz : checkT t = 0) : TxFit t := ⟨fun i hi => ⟨(h.each i hi).id, (h.each i hi).n⟩, h.eacho, h.nonce, hz, packT_len h hz⟩
theorem TxFit.of {t : TxR} (f : TxFit t) : ofB (packT t) = true ∧ ofP (packT t) = txP t := by
  obtain ⟨h1, h2⟩ := pack_ofB t f.i f.o f.n f.c
  exact ⟨h1, by rw [ofV, h1] at h2; exact h2⟩
theorem readTs_fr (l : List TxR) (r : List UInt8) (h : ∀ t ∈ l, TxFit t) : ∀ k, k ≤ l.length → readTs k (some (txsB l ++ r)) = (some ((l.take k).map txP), some (txsB (l.drop k) ++ r)) := by
  intro k
  induction k with
  | zero => intro _; rfl
  | succ k ih =>
    intro hk
    have f := h _ (List.getElem_mem (show k < l.length by omega))
    have hl := f.l
    have e : txsB (l.drop k) ++ r = leB (packT l[k]).length 4 ++ (packT l[k] ++ (txsB (l.drop (k + 1)) ++ r)) := by
      have e0 : txsB (l.drop k) = blobB (packT l[k]) ++ txsB (l.drop (k + 1)) := by
        rw [List.drop_eq_getElem_cons (show k < l.length by omega), txsB, List.map_cons, List.flatten_cons]
        rfl
      rw [e0, blobB, List.append_assoc, List.append_assoc]
    obtain ⟨b1, b2⟩ := blob_fr (packT l[k]) (txsB (l.drop (k + 1)) ++ r) (by omega)
    have hq := readTs_good (r := some (txsB (l.drop k) ++ r)) (ih (by omega)) (by rw [e, b1]; exact f.of.1)
    rw [hq, e, b1, b2, f.of.2, List.take_succ_eq_append_getElem (by omega), List.map_append]
    rfl
theorem packK_of {w : World} {b : BkR} (k : BkOk w b) (h : checkK b = 0) : bofB (packK b) = true ∧ bofV (packK b) = bkD b := by
  have F := checkK_ok h
  obtain ⟨q1, q2⟩ := packH_of k.h.f F.m
  have hl : (packH b.h.p).length ≤ 16777216 := by
    have h1 := packH_len k.h.f
    have h2 : b.h.p.ps.length ≤ 255 := of_decide_eq_true F.m
    omega
  have e : packK b = leB (packH b.h.p).length 4 ++ (packH b.h.p ++ (leB b.txs.length 2 ++ txsB b.txs)) := by simp [packK, blobB]
  obtain ⟨b1, b2⟩ := blob_fr (packH b.h.p) (leB b.txs.length 2 ++ txsB b.txs) hl
  obtain ⟨c1, c2⟩ := cut_fr (leB b.txs.length 2) (txsB b.txs) 2 (by rw [leB_length]; rfl)
  have hH : bofH (packK b) = packH b.h.p := by unfold bofH; rw [e, b1]
  have hn := F.n
  have hT : bofT (packK b) = (some (b.txs.map txP), some []) := by
    unfold bofT
    rw [e, b2, rtS, rtN, c1, c2, ofLe_b2 (by omega), Nat.min_eq_left (by omega)]
    have h1 := readTs_fr b.txs [] (fun t ht => (k.t.each t ht).fit (F.t t ht)) _ (Nat.le_refl _)
    rw [List.append_nil, List.take_length, List.drop_length] at h1
    exact h1
  have hB : bofB (packK b) = true := by
    unfold bofB
    rw [hH, hT, q1, q2]
    show (true && (decide (some [] = some []) && (checkP b.h.p (b.txs.map txP) == 0))) = true
    rw [checkK_up, h]
    rfl
  exact ⟨hB, by rw [bofV, hB, hH, hT, q2]; rfl⟩
theorem txsB_up (l : List TxR) : txsB ((l.map txP).map TxP.up) = txsB l := by
  unfold txsB
  rw [List.map_map, List.map_map]
  congr 1
  exact List.map_congr_left fun t _ => by show blobB (packT (txP t).up) = _; rw [packT_up]
/-- The block of what was read. -/
def upK (v : HdP × List TxP) : BkR := ⟨⟨none, 0, v.1⟩, none, v.2.map TxP.up, 0⟩
theorem packK_up (b : BkR) : packK (upK (bkD b)) = packK b := by
  unfold packK upK bkD
  simp only [txsB_up, List.length_map]
theorem packK_iff {w : World} {a b : BkR} (ka : BkOk w a) (kb : BkOk w b) (ha : checkK a = 0) (hb : checkK b = 0) : packK a = packK b ↔ bkD a = bkD b := by
  constructor
  · intro h
    rw [← (packK_of ka ha).2, ← (packK_of kb hb).2, h]
  · intro h
    rw [← packK_up a, ← packK_up b, h]

/-! back -/
theorem readH_inv {s : Option (List UInt8)} {r : List UInt8} (h : (readH s).2 = some r) : s = some ((readH s).1 ++ r) := by
  obtain ⟨h1, h2⟩ := cut_inv32 (s := s) h
  have e : (readH s).1 = over zero32 (cutPiece s 32 true) 32 := rfl
  rw [e, over_32 h2]
  exact h1
theorem readHs_inv (k : Nat) (s : Option (List UInt8)) : ∀ r, (readHs k s).2 = some r → s = some ((readHs k s).1.flatten ++ r) := by
  induction k with
  | zero => intro r h; rw [show s = some r from h]; rfl
  | succ k ih =>
    intro r h
    have h1 := ih _ (readH_inv h)
    have e : (readHs (k + 1) s).1.flatten = (readHs k s).1.flatten ++ (readH (readHs k s).2).1 := by simp [readHs]
    rw [e, List.append_assoc]
    exact h1
theorem ofH_pack {b : List UInt8} (h : ofHB b = true) : packH (ofHV b) = b ∧ mayH (ofHV b) = true := by
  have hv : ofHV b = (ofHR b).1 := by rw [ofHV, h]; rfl
  rw [hv]
  unfold ofHB at h
  rw [Bool.and_eq_true, decide_eq_true_eq] at h
  obtain ⟨hR, hM⟩ := h
  refine ⟨?_, hM⟩
  have hl : (ofHP b).1.length ≤ 255 := of_decide_eq_true hM
  obtain ⟨s, hs⟩ : ∃ s, (ofHP b).2 = s := ⟨_, rfl⟩
  have e0 : ofHR b = tailH (ofHP b).1 s := by rw [ofHR, hs]
  rw [e0] at hR ⊢
  obtain ⟨h1, h2⟩ := cut_inv8 hR
  rw [List.append_nil] at h1
  have h3 := readH_inv h1
  have h4 := readH_inv h3
  have h5 := readH_inv h4
  have h6 := readH_inv h5
  rw [h6] at hs
  have h7 := readHs_inv _ _ _ hs
  obtain ⟨h8, h9⟩ := cut_inv2 h7
  injection h8 with h8
  have l1 : (ofHP b).1.length = ofHN (some b) := readHs_len _ _
  have n1 : (ofHP b).1.length = ofLe (cutPiece (some b) 2 true) := by rw [l1, ofHN] at hl ⊢; omega
  have n8 : leB (ofLe (cutPiece (readH (readH (readH (readH s).2).2).2).2 8 true)) 8 = cutPiece (readH (readH (readH (readH s).2).2).2).2 8 true := leB_ofLe 8 _ h2
  have e : packH (tailH (ofHP b).1 s).1 = leB (ofHP b).1.length 2 ++ ((ofHP b).1.flatten ++ ((readH s).1 ++ ((readH (readH s).2).1 ++ ((readH (readH (readH s).2).2).1 ++ ((readH (readH (readH (readH s).2).2).2).1 ++ leB (ofLe (cutPiece (readH (readH (readH (readH s).2).2).2).2 8 true)) 8))))) := rfl
  rw [e, n1, n8, leB_ofLe 2 _ h9]
  exact h8.symm
theorem readTs_inv (k : Nat) (s : Option (List UInt8)) : ∀ L r, readTs k s = (some L, some r) → s = some (txsB (L.map TxP.up) ++ r) ∧ L.length = k := by
  induction k with
  | zero =>
    intro L r h
    injection h with h1 h2
    injection h1 with h1
    subst h1
    rw [h2]
    exact ⟨rfl, rfl⟩
  | succ k ih =>
    intro L r h
    rw [readTs] at h
    cases hq : readTs k s with
    | mk a q =>
      rw [hq] at h
      cases a with
      | none => cases h
      | some l =>
        cases hg : ofB (blobPiece q) with
        | false => simp [hg] at h
        | true =>
          simp only [hg, if_true] at h
          injection h with h1 h2
          injection h1 with h1
          subst h1
          have h3 := blob_inv h2
          rw [h3] at hq
          obtain ⟨h4, h5⟩ := ih _ _ hq
          refine ⟨?_, by rw [List.length_append, h5]; rfl⟩
          rw [h4]
          obtain ⟨h6, _⟩ := read_pack _ hg
          simp [txsB, blobB, h6]
theorem bof_pack {b : List UInt8} (h : bofB b = true) : packK (upK (bofV b)) = b ∧ checkK (upK (bofV b)) = 0 := by
  have hv : bofV b = (ofHV (bofH b), ((bofT b).1).getD []) := by rw [bofV, h]; rfl
  rw [hv]
  unfold bofB at h
  rw [Bool.and_eq_true] at h
  obtain ⟨h1, h2⟩ := h
  cases hT : bofT b with
  | mk a q =>
    rw [hT] at h2
    cases a with
    | none => cases h2
    | some L =>
      simp only [Bool.and_eq_true, decide_eq_true_eq, beq_iff_eq] at h2
      obtain ⟨rfl, h3⟩ := h2
      refine ⟨?_, h3⟩
      have hn : L.length ≤ 200 := checkP_few h3
      unfold bofT rtS at hT
      obtain ⟨h4, h5⟩ := readTs_inv _ _ _ _ hT
      rw [List.append_nil] at h4
      obtain ⟨h6, h7⟩ := cut_inv2 h4
      obtain ⟨h8, _⟩ := ofH_pack h1
      have h9 := Option.some.inj (blob_inv h6)
      have n1 : L.length = ofLe (cutPiece (blobRest (some b)) 2 true) := by rw [rtN] at h5; omega
      have e1 : packK (upK (ofHV (bofH b), L)) = (blobB (packH (ofHV (bofH b))) ++ leB (L.map TxP.up).length 2) ++ txsB (L.map TxP.up) := rfl
      have e2 : leB L.length 2 = cutPiece (blobRest (some b)) 2 true := by rw [n1]; exact leB_ofLe 2 _ h7
      have e3 : bofH b = blobPiece (some b) := rfl
      refine e1.trans ?_
      rw [h8, List.length_map, e2, blobB, e3, List.append_assoc, List.append_assoc]
      exact h9.symm
/-- What was read is packed to what it was read of. -/
theorem bof_back {k : BkR} {b : List UInt8} (h : bofB b = true) (hp : (k.h.p, k.txs.map txP) = bofV b) : packK k = b ∧ checkK k = 0 := by
  obtain ⟨h1, h2⟩ := bof_pack h
  have e : bofV b = bkD k := hp.symm
  rw [e] at h1 h2
  rw [packK_up] at h1
  exact ⟨h1, by have := checkK_up k; unfold checkP at this; exact this.symm.trans h2⟩
theorem idH_same {a b : BkR} (h : bkD a = bkD b) : idH a.h.p = idH b.h.p := by
  have h1 : a.h.p = b.h.p := congrArg Prod.fst h
  rw [h1]
theorem packK_len {w : World} {b : BkR} (k : BkOk w b) (h : checkK b = 0) : (packK b).length ≤ 16777216 := by
  have F := checkK_ok h
  have h1 := packH_len k.h.f
  have h2 : b.h.p.ps.length ≤ 255 := of_decide_eq_true F.m
  have h3 := txsB_len (l := b.txs) (fun t ht => packT_len (k.t.each t ht) (F.t t ht))
  have h4 := F.n
  unfold packK
  simp only [List.length_append, blobB_len, leB_length]
  omega
end Go.Proofs.YtpfjkjogljilnaaDoor
