/-
  BlockBounds: what the ids of its transactions are: two hundred hashes, reckoned apart.
-/
import Derived.Test.YtpfjkjogljilnaaDoorBkMa
import Derived.Test.YtpfjkjogljilnaaDoorBbC
import Derived.Test.YtpfjkjogljilnaaDoorBbD
namespace Go.Proofs.YtpfjkjogljilnaaDoor
open Go.RowKit

/-- The i-th transaction of the law. -/
def pI (i : Nat) : TxP := ⟨[(zero32, 0, [])], [⟨1, zero32⟩], i⟩
theorem pI_check (i : Nat) : checkT (pI i).up = 0 := (show checkT (pI i).up = checkT (pI 0).up from rfl).trans (by decide +kernel)
def fstB : List UInt8 := [2, 116, 120, 1, 0, 0, 0, 0, 0, 0, 0, 0, 0, 0, 0, 0, 0, 0, 0, 0, 0, 0, 0, 0, 0, 0, 0, 0, 0, 0, 0, 0, 0, 0, 0, 0, 0, 0, 0, 0, 0, 0, 0, 0, 0, 1, 0, 1, 0, 0, 0, 0, 0, 0, 0, 0, 0, 0, 0, 0, 0, 0, 0, 0]
def rstB (i : Nat) : List UInt8 := [0, 0, 0, 0, 0, 0, 0, 0, 0, 0, 0, 0, 0, 0, 0, 0, 0, 0, 0, 0, 0, 0, 0, UInt8.ofNat i, 0, 0, 0, 0, 0, 0, 0]
def padC : List UInt8 := 128 :: List.replicate 30 0 ++ [2, 248]
theorem le8_I (i : Nat) (h : i < 201) : leB i 8 = [UInt8.ofNat i, 0, 0, 0, 0, 0, 0, 0] :=
  (by decide +kernel : ∀ j : Fin 201, leB j.val 8 = [UInt8.ofNat j.val, 0, 0, 0, 0, 0, 0, 0]) ⟨i, h⟩
theorem msg_I (i : Nat) (h : i < 201) : tagB (cutN nmTx) (packT (pI i).up) = fstB ++ rstB i := by
  rw [cutN_short nmTx (by decide)]
  have e : packT (pI i).up = leB 1 2 ++ (insB (pI 0).up.ins ++ (leB 1 2 ++ (outsB [⟨1, zero32⟩] ++ leB i 8))) := rfl
  rw [e, le8_I i h]
  rfl
theorem len_I (i : Nat) : (fstB ++ rstB i).length = 95 := rfl
theorem pad_I : padB 95 = padC := by decide +kernel
theorem blk_I (i : Nat) : rstB i ++ padC = blkI i := rfl
theorem S8.ext' {a b : S8} (h : a.list = b.list) : a = b := by
  cases a; cases b
  simp only [S8.list, List.cons.injEq, and_true] at h
  obtain ⟨h1, h2, h3, h4, h5, h6, h7, h8⟩ := h
  subst h1 h2 h3 h4 h5 h6 h7 h8
  rfl
theorem S1_is : press start8 fstB = S1 := S8.ext' (by decide +kernel)
theorem sha_I (i : Nat) (h : i < 201) : shaB (tagB (cutN nmTx) (packT (pI i).up)) = stB (press S1 (blkI i)) := by
  rw [msg_I i h, shaB, len_I, pad_I]
  have e : (95 + padC.length) / 64 = 2 := by decide
  rw [e, List.append_assoc, blk_I]
  have e1 : ((fstB ++ blkI i).drop (64 * 0)).take 64 = fstB := rfl
  have e2 : ((fstB ++ blkI i).drop (64 * 1)).take 64 = blkI i := rfl
  simp only [runs]
  rw [e1, e2, S1_is]
theorem id_I (i : Nat) (h : i < 201) : idT (pI i).up = stB (press S1 (blkI i)) := by
  rw [idT, pI_check]
  exact sha_I i h
def vI : List Nat := vI0 ++ (vI1 ++ (vI2 ++ (vI3 ++ (vI4 ++ (vI5 ++ (vI6 ++ (vI7 ++ (vI8 ++ (vI9 ++ (vI10 ++ (vI11 ++ (vI12 ++ (vI13 ++ (vI14 ++ (vI15 ++ (vI16 ++ (vI17 ++ (vI18 ++ (vI19 ++ (vI20 ++ (vI21 ++ (vI22 ++ (vI23 ++ (vI24 ++ (vI25 ++ (vI26 ++ (vI27 ++ (vI28 ++ (vI29 ++ (vI30 ++ (vI31 ++ (vI32 ++ (vI33 ++ (vI34 ++ (vI35 ++ (vI36 ++ (vI37 ++ (vI38 ++ vI39))))))))))))))))))))))))))))))))))))))
theorem wI : allB vI 0 = true := allB_app (a := vI0) (j := 5) rfl wI0 (allB_app (a := vI1) (j := 10) rfl wI1 (allB_app (a := vI2) (j := 15) rfl wI2 (allB_app (a := vI3) (j := 20) rfl wI3 (allB_app (a := vI4) (j := 25) rfl wI4 (allB_app (a := vI5) (j := 30) rfl wI5 (allB_app (a := vI6) (j := 35) rfl wI6 (allB_app (a := vI7) (j := 40) rfl wI7 (allB_app (a := vI8) (j := 45) rfl wI8 (allB_app (a := vI9) (j := 50) rfl wI9 (allB_app (a := vI10) (j := 55) rfl wI10 (allB_app (a := vI11) (j := 60) rfl wI11 (allB_app (a := vI12) (j := 65) rfl wI12 (allB_app (a := vI13) (j := 70) rfl wI13 (allB_app (a := vI14) (j := 75) rfl wI14 (allB_app (a := vI15) (j := 80) rfl wI15 (allB_app (a := vI16) (j := 85) rfl wI16 (allB_app (a := vI17) (j := 90) rfl wI17 (allB_app (a := vI18) (j := 95) rfl wI18 (allB_app (a := vI19) (j := 100) rfl wI19 (allB_app (a := vI20) (j := 105) rfl wI20 (allB_app (a := vI21) (j := 110) rfl wI21 (allB_app (a := vI22) (j := 115) rfl wI22 (allB_app (a := vI23) (j := 120) rfl wI23 (allB_app (a := vI24) (j := 125) rfl wI24 (allB_app (a := vI25) (j := 130) rfl wI25 (allB_app (a := vI26) (j := 135) rfl wI26 (allB_app (a := vI27) (j := 140) rfl wI27 (allB_app (a := vI28) (j := 145) rfl wI28 (allB_app (a := vI29) (j := 150) rfl wI29 (allB_app (a := vI30) (j := 155) rfl wI30 (allB_app (a := vI31) (j := 160) rfl wI31 (allB_app (a := vI32) (j := 165) rfl wI32 (allB_app (a := vI33) (j := 170) rfl wI33 (allB_app (a := vI34) (j := 175) rfl wI34 (allB_app (a := vI35) (j := 180) rfl wI35 (allB_app (a := vI36) (j := 185) rfl wI36 (allB_app (a := vI37) (j := 190) rfl wI37 (allB_app (a := vI38) (j := 195) rfl wI38 (wI39)))))))))))))))))))))))))))))))))))))))
theorem vI_len : vI.length = 200 := by decide +kernel
theorem vI_nodup : vI.Nodup := by decide +kernel
def unW (l : List UInt8) : Nat := (l.getD 0 0).toNat * 16777216 + (l.getD 1 0).toNat * 65536 + (l.getD 2 0).toNat * 256 + (l.getD 3 0).toNat
theorem unW_st (s : S8) : unW (stB s) = s.a.toNat := by
  have h : stB s = wordB s.a ++ (S8.list s).tail.flatMap wordB := rfl
  have hl := s.a.isLt
  rw [h]
  simp only [wordB, List.cons_append, unW, List.getD_cons_zero, List.getD_cons_succ, UInt8.toNat_ofNat']
  omega
theorem ids_unlike {i j : Nat} (hi : i < 200) (hj : j < 200) (h : idT (pI i).up = idT (pI j).up) : i = j := by
  rw [id_I i (by omega), id_I j (by omega)] at h
  have h2 : fwI i = fwI j := by
    have := congrArg unW h
    rw [unW_st, unW_st] at this
    exact this
  have gi := allB_get wI i (by rw [vI_len]; exact hi)
  have gj := allB_get wI j (by rw [vI_len]; exact hj)
  rw [Nat.zero_add] at gi gj
  rw [gi, gj] at h2
  have hp := List.pairwise_iff_getElem.1 vI_nodup
  rcases Nat.lt_trichotomy i j with hlt | he | hlt
  · exact absurd h2 (hp i j _ _ hlt)
  · exact he
  · exact absurd h2.symm (hp j i _ _ hlt)
theorem ids_nodup {l : List TxR} (h : l.map txP = (List.range 200).map pI) : (idsL l).Nodup := by
  have e : idsL l = (List.range 200).map (fun i => idT (pI i).up) := by
    have e1 : idsL l = (l.map txP).map (fun p => idT p.up) := by
      rw [List.map_map]
      exact List.map_congr_left fun t _ => (idT_up t).symm
    rw [e1, h, List.map_map]
    rfl
  rw [e, List.Nodup, List.pairwise_map]
  exact (List.nodup_range (n := 200)).imp_of_mem fun {a b} ha hb hne he => hne (ids_unlike (List.mem_range.1 ha) (List.mem_range.1 hb) he)
end Go.Proofs.YtpfjkjogljilnaaDoor
