/-
  BlockLooks: the block that the law builds, transaction by transaction.
-/
import Derived.Test.YtjcbihdhkaiidaaBlD
import Derived.Test.YtjcbihdhkaiidaaBlM
namespace Go.Proofs.Ytjcbihdhkaiidaa
open Go.RowKit

theorem build_bkh (h : HdR) (f : HdFit h.p) (wq : World) : (Instr.build 30 #[(0, .agg (hdC h).toArray)]).run Try.prog wq = .ok (.agg (bkC ⟨h, none, [], 0⟩).toArray) wq := by
  obtain ⟨i0, hi, hz, _, _⟩ := infoP Try.bkinfo
  refine run_build wq _ _ _ ?_
  rw [built_struct hi hz Try.underlying30 (places := [(0, 130), (130, 1)]) (by kernel_rfl)]
  have hl : (hdC h).length = 130 := hdC_len f
  have h1 := fill_step ([(0, 130), (130, 1)].toArray[·]?) (bkC noBk) 0 0 (hdC h) (by rw [hl]; rfl) (by rw [hl, bkC_len noHP_fit]; omega) []
  have h2 := put_part [] (hdC noHd) (hdC h) [.slice none 0 0] (by rw [hl, hdC_len noHP_fit]) 0 rfl
  have e : bkC noBk = [] ++ (hdC noHd ++ [.slice none 0 0]) := rfl
  rw [e] at h1
  rw [h2] at h1
  refine Eq.trans h1 ?_
  rfl
theorem bkC_txs2 (h : HdR) (f : HdFit h.p) (B C : Option Addr) (l m : List TxR) (c d n : Nat) (hn : m.length = n) :
    ((bkC ⟨h, B, l, c⟩).toArray.toList.take 130 ++ #[Value.slice C n d].toList ++ (bkC ⟨h, B, l, c⟩).toArray.toList.drop (130 + #[Value.slice C n d].size)).toArray = (bkC ⟨h, C, m, d⟩).toArray := by
  subst hn
  have hl := hdC_len f
  have e : #[Value.slice C m.length d].size = 1 := rfl
  rw [e]
  simp only [List.toList_toArray, bkC]
  rw [List.take_append_of_le_length (by omega), List.take_of_length_le (by omega), List.drop_append, hl, List.drop_eq_nil_of_le (by omega)]
  simp
theorem bkC_ps2 (h : HdR) (A : Option Addr) (c n : Nat) (B : Option Addr) (l : List TxR) (d : Nat) (hn : h.p.ps.length = n) :
    ((bkC ⟨h, B, l, d⟩).toArray.toList.take 0 ++ #[Value.slice A n c].toList ++ (bkC ⟨h, B, l, d⟩).toArray.toList.drop (0 + #[Value.slice A n c].size)).toArray = (bkC ⟨⟨A, c, h.p⟩, B, l, d⟩).toArray := by
  subst hn
  simp [bkC, hdC]
theorem own_keepsT {S : Nat → Prop} {w w' : World} {base size n c : Nat} {e : TypeId} {A : Option Addr} {xs : List Value} (h : w.ownsRow base e size (.slice A n c) n xs) (k : Keeps S w w') (hS : ∀ j, S j → ∀ cs, w.heap[j]? ≠ some (.cells cs e (0, 0))) : w'.ownsRow base e size (.slice A n c) n xs := by
  refine own_keepsS h k (fun j hj hs => ?_)
  rcases h.2 with ⟨hv, _⟩ | ⟨g, cap, cur, hv, _, hh, _⟩
  · rw [hv] at hj; cases hj
  · rw [hv] at hj
    have e1 : g = j := by injection hj
    subst e1
    exact hS g hs cur hh
/-- The transaction that the law makes of another: rows of its own, the witnesses shared. -/
def reT (A : Option Addr) (c : Nat) (B : Option Addr) (d : Nat) (t : TxR) : TxR := ⟨A, c, t.ins, B, d, t.outs, t.nonce⟩
structure BuildB (wM W : World) (a : BkR) (g k : Nat) (A1 : Option Addr) (e1 : Nat) (R : Option Addr) (d : Nat) (L : List TxR) : Prop where
  len : L.length = k
  same : ∀ j (h : j < L.length) (h' : j < a.txs.length), L[j].ins = a.txs[j].ins ∧ L[j].outs = a.txs[j].outs ∧ L[j].nonce = a.txs[j].nonce
  blk : Blk W g 30 (bkC ⟨⟨A1, e1, a.h.p⟩, R, L, d⟩).toArray
  par : W.ownsRow wM.heap.size 24 32 (.slice A1 a.h.p.ps.length e1) a.h.p.ps.length (Hs a.h.p.ps)
  txs : W.ownsRow wM.heap.size 37 3 (.slice R k d) k (txsC L)
  ins : ∀ v ∈ L, W.ownsRow wM.heap.size 44 34 (.slice v.A v.ins.length v.c) v.ins.length (insC v.ins)
  outs : ∀ v ∈ L, W.ownsRow wM.heap.size 46 33 (.slice v.B v.outs.length v.d) v.outs.length (outsC v.outs)
  bel : Below wM.heap.size wM W
  lo : wM.heap.size ≤ g
theorem own_false {w w' : World} {base size n c : Nat} {e : TypeId} {A : Option Addr} {xs : List Value} (h : w.ownsRow base e size (.slice A n c) n xs) (k : Below w.heap.size w w') : w'.ownsRow base e size (.slice A n c) n xs := own_keepsS (S := fun _ => False) h (Keeps.of_below k _) (fun _ _ h => h)
theorem buildB_blk {wM wr w6 w8 : World} {a : BkR} {g k : Nat} {A1 : Option Addr} {e1 : Nat} {R : Option Addr} {d : Nat} {L : List TxR} {o : Obj} (h : BuildB wM wr a g k A1 e1 R d L) (v56 : Below wr.heap.size wr w6) (g8 : (w6.alloc o).grownBy w8 (R.map (·.block))) : Blk w8 g 30 (bkC ⟨⟨A1, e1, a.h.p⟩, R, L, d⟩).toArray := by
  have gw : Blk w6 g 30 (bkC ⟨⟨A1, e1, a.h.p⟩, R, L, d⟩).toArray := h.blk.below v56 h.blk.lt
  have hgR : R.map (·.block) ≠ some g := fun e => by
    rcases h.txs.2 with ⟨hv, _⟩ | ⟨g', cap, cur, hv, _, hh, _⟩
    · injection hv with hA; rw [hA] at e; cases e
    · injection hv with hA
      rw [hA] at e
      have e1 : g' = g := by injection e
      subst e1
      have h2 : wr.heap[g']? = some (.cells (bkC ⟨⟨A1, _, a.h.p⟩, R, L, d⟩).toArray 30) := h.blk
      rw [hh] at h2
      injection h2 with h2
      injection h2 with _ h2
      exact absurd h2 (by decide)
  exact gw.of_eq ((g8.block g (Nat.lt_of_lt_of_le gw.lt (nxAl (nxRf w6) o).size) (fun e => hgR e.symm)).trans ((nxAl (nxRf w6) o).block g gw.lt))
theorem buildB_cell {wM wr w8 : World} {a : BkR} {g k : Nat} {A1 : Option Addr} {e1 : Nat} {R : Option Addr} {d : Nat} {L : List TxR} (h : BuildB wM wr a g k A1 e1 R d L) (f : HdFit a.h.p) (b8 : Blk w8 g 30 (bkC ⟨⟨A1, e1, a.h.p⟩, R, L, d⟩).toArray) : w8.cell? ⟨g, 130, none⟩ = some (.slice R k d) := by
  have q := (BkRow.of (b := ⟨⟨A1, e1, a.h.p⟩, R, L, d⟩) (blkR b8) f).t
  have e : L.length = k := h.len
  simp only [e] at q
  exact q
theorem buildB_old {wM wr w6 w8 : World} {a : BkR} {g k : Nat} {A1 : Option Addr} {e1 : Nat} {R : Option Addr} {d : Nat} {L : List TxR} {o : Obj} (h : BuildB wM wr a g k A1 e1 R d L) (v56 : Below wr.heap.size wr w6) (g8 : (w6.alloc o).grownBy w8 (R.map (·.block))) : Below wM.heap.size wr w8 := by
  have v := nxAl v56 o
  have hs := h.bel.size
  have hv := v.size
  exact ⟨g8.os.trans v.os, g8.tape.trans v.tape, g8.output.trans v.output, Nat.le_trans hv g8.size, fun j hj => (g8.block j (by omega) (fun e => by have := (own_lt h.txs j (by rw [own_blk]; exact e.symm)).1; omega)).trans (v.block j (by omega))⟩
theorem buildB_next {wM wr w5 w6 w8 w9 : World} {a : BkR} {g k : Nat} {A1 : Option Addr} {e1 : Nat} {R : Option Addr} {d : Nat} {L : List TxR} {t : TxR} {A' B' R' : Option Addr} {c' d' d8 : Nat} {o : Obj}
    (h : BuildB wM wr a g k A1 e1 R d L) (hk : k < a.txs.length) (ht : a.txs[k] = t)
    (h5 : w5.ownsRow wM.heap.size 44 34 (.slice A' t.ins.length c') t.ins.length (insC t.ins)) (v5 : Below wr.heap.size wr w5)
    (h6 : w6.ownsRow wM.heap.size 46 33 (.slice B' t.outs.length d') t.outs.length (outsC t.outs)) (v6 : Below w5.heap.size w5 w6)
    (h8 : w8.ownsRow wM.heap.size 37 3 (.slice R' (k + 1) d8) (k + 1) (txsC L ++ txC (reT A' c' B' d' t))) (g8 : (w6.alloc o).grownBy w8 (R.map (·.block)))
    (h9 : Blk w9 g 30 (bkC ⟨⟨A1, e1, a.h.p⟩, R', L ++ [reT A' c' B' d' t], d8⟩).toArray) (k9 : Keeps (· = g) w8 w9) : BuildB wM w9 a g (k + 1) A1 e1 R' d8 (L ++ [reT A' c' B' d' t]) := by
  have v56 : Below wr.heap.size wr w6 := nxTr v5 v6
  have v57 : Below wr.heap.size wr (w6.alloc o) := nxAl v56 _
  have gw : Blk w6 g 30 (bkC ⟨⟨A1, e1, a.h.p⟩, R, L, d⟩).toArray := h.blk.below v56 h.blk.lt
  have tR : ∀ j, R.map (·.block) = some j → ∃ cs, w6.heap[j]? = some (.cells cs 37 (0, 0)) := fun j hj => by
    rcases h.txs.2 with ⟨hv, _⟩ | ⟨g', cap, cur, hv, _, hh, _⟩
    · injection hv with hA; rw [hA] at hj; cases hj
    · injection hv with hA
      rw [hA] at hj
      have e1 : g' = j := by injection hj
      subst e1
      exact ⟨cur, (v56.block g' (Array.getElem?_eq_some_iff.1 hh).1).trans hh⟩
  have hgR : R.map (·.block) ≠ some g := fun e => by
    obtain ⟨cs, hc⟩ := tR g e
    have h2 : w6.heap[g]? = some (.cells (bkC ⟨⟨A1, e1, a.h.p⟩, R, L, d⟩).toArray 30) := gw
    rw [h2] at hc
    injection hc with hc
    injection hc with _ hc
    exact absurd hc (by decide)
  have k69 : Keeps (fun j => R.map (·.block) = some j ∨ j = g) w6 w9 :=
    ((Keeps.of_below (nxAl (nxRf w6) o) _).trans ((keeps_grown g8).mono (fun j _ e => .inl e))).trans (k9.mono (fun j _ e => .inr e))
  have far : ∀ (e : TypeId), e ≠ 37 → e ≠ 30 → ∀ j, (R.map (·.block) = some j ∨ j = g) → ∀ cs, w6.heap[j]? ≠ some (.cells cs e (0, 0)) := fun e h1 h2 j hj cs hc => by
    rcases hj with hj | hj
    · obtain ⟨cs', hc'⟩ := tR j hj
      rw [hc] at hc'
      injection hc' with hc'
      injection hc' with _ hc'
      exact h1 hc'
    · subst hj
      have h3 : w6.heap[j]? = some (.cells (bkC ⟨⟨A1, e1, a.h.p⟩, R, L, d⟩).toArray 30) := gw
      rw [hc] at h3
      injection h3 with h3
      injection h3 with _ h3
      exact h2 h3
  have hRlo : ∀ j, R.map (·.block) = some j → wM.heap.size ≤ j := fun j hj => (own_lt h.txs j (by rw [own_blk]; exact hj)).1
  refine ⟨by rw [List.length_append, h.len]; rfl, fun j hj hj' => ?_, h9, own_keepsT (own_false h.par v56) k69 (far _ (by decide) (by decide)), ?_, fun v hv => ?_, fun v hv => ?_, ?_, h.lo⟩
  · rw [List.getElem_append]
    split
    · rename_i hlt
      exact h.same j hlt hj'
    · rename_i hlt
      have hl := h.len
      rw [List.length_append, List.length_singleton] at hj
      have e1 : j = k := by omega
      subst e1
      simp only [List.getElem_singleton, ht]
      exact ⟨rfl, rfl, rfl⟩
  · rw [txsC_snoc]
    refine own_keepsS h8 k9 (fun j hj hs => ?_)
    have hs' : j = g := hs
    subst hs'
    rcases h8.2 with ⟨hv, h0⟩ | ⟨g', cap, cur, hv, _, hh, _⟩
    · rw [hv] at hj; cases hj
    · rw [hv] at hj
      have e1 : g' = j := by injection hj
      subst e1
      have h3 : w8.heap[g']? = some (.cells (bkC ⟨⟨A1, e1, a.h.p⟩, R, L, d⟩).toArray 30) := (g8.block g' (Nat.lt_of_lt_of_le gw.lt (nxAl (nxRf w6) o).size) (fun e => hgR e.symm)).trans (((nxAl (nxRf w6) o).block g' gw.lt).trans gw)
      rw [hh] at h3
      injection h3 with h3
      injection h3 with _ h3
      exact absurd h3 (by decide)
  · rcases List.mem_append.1 hv with hv | hv
    · exact own_keepsT (own_false (h.ins v hv) v56) k69 (far _ (by decide) (by decide))
    · rw [List.mem_singleton.1 hv]
      exact own_keepsT (own_false h5 v6) k69 (far _ (by decide) (by decide))
  · rcases List.mem_append.1 hv with hv | hv
    · exact own_keepsT (own_false (h.outs v hv) v56) k69 (far _ (by decide) (by decide))
    · rw [List.mem_singleton.1 hv]
      exact own_keepsT h6 k69 (far _ (by decide) (by decide))
  · have hb := h.bel.size
    have b6 : Below wM.heap.size wM w6 := h.bel.trans ⟨v56.os, v56.tape, v56.output, v56.size, fun j hj => v56.block j (by omega)⟩
    exact b6.trans (k69.below b6.size (fun j hj e => by
      rcases e with e | e
      · have := hRlo j e; omega
      · have := h.lo; omega))
/-- What was built, once all are there. -/
theorem buildB_own {wM W : World} {a : BkR} {g : Nat} {A1 : Option Addr} {e1 : Nat} {R : Option Addr} {d : Nat} {L : List TxR} (h : BuildB wM W a g a.txs.length A1 e1 R d L) (ka : BkOk wM a) :
    OwnB wM.heap.size W g ⟨⟨A1, e1, a.h.p⟩, R, L, d⟩ ∧ bkD (⟨⟨A1, e1, a.h.p⟩, R, L, d⟩ : BkR) = bkD a := by
  have hl := h.len
  have hok : ∀ v ∈ L, TxOk W v := fun v hv => by
    obtain ⟨j, hj, hv'⟩ := List.getElem_of_mem hv
    obtain ⟨e1, e2, e3⟩ := h.same j hj (by omega)
    rw [hv'] at e1 e2 e3
    have kt := ka.t.each _ (List.getElem_mem (show j < a.txs.length by omega))
    refine ⟨SeesV.own (h.ins v hv), fun i hi => ?_, SeesV.own (h.outs v hv), fun x hx => ?_, (own_cmS' (h.ins v hv)).1, (own_cmS' (h.outs v hv)).1, by rw [e3]; exact kt.nonce, by rw [e1]; exact kt.mi, by rw [e2]; exact kt.mo⟩
    · rw [e1] at hi
      exact (kt.each i hi).later h.bel
    · rw [e2] at hx
      exact kt.eacho x hx
  refine ⟨⟨h.blk, h.par, by show W.ownsRow _ _ _ (.slice R L.length d) L.length _; rw [hl]; exact h.txs, h.ins, h.outs, ⟨⟨SeesV.own h.par, ka.h.f, (own_cmS' h.par).1, ka.h.m⟩, ⟨by have q := SeesV.own h.txs; exact q, hok, by show L.length ≤ d; rw [hl]; exact (own_cmS' h.txs).1, by show L.length ≤ _; rw [hl]; exact ka.t.m⟩⟩, h.lo⟩, ?_⟩
  refine Prod.ext rfl ?_
  show L.map txP = a.txs.map txP
  apply List.ext_getElem (by simp [hl])
  intro j h1 h2
  rw [List.getElem_map, List.getElem_map]
  rw [List.length_map] at h1 h2
  obtain ⟨e1, e2, e3⟩ := h.same j h1 h2
  unfold txP
  rw [e1, e2, e3]
theorem wpList_build_bkp {ops : Array Oper} {rest : List Oper} {o : Oper} {e : Act} {w : World} {Q : Exit → Act → World → Prop} (hg : o.guard = none) (x y : Operand) (ho : o.op = .buildSlice 32 2 #[(0, x), (1, y)])
    (a b : BkR) (fa : HdFit a.h.p) (fb : HdFit b.h.p) (hx : e.eval x = .agg (bkC a).toArray) (hy : e.eval y = .agg (bkC b).toArray)
    (h : wpList Try.prog ops Q rest (e.put o.dst (.slice (some ⟨w.heap.size, 0, none⟩) 2 2)) (w.alloc (.cells (bkC a ++ bkC b).toArray 30))) : wpList Try.prog ops Q (o :: rest) e w := by
  obtain ⟨i0, hi, hz0, hz1, hz2⟩ := info_parts Try.bkinfo
  refine wpList_buildSlice hg 32 30 2 #[(0, x), (1, y)] ho (bkC a ++ bkC b).toArray i0 _ Try.underlying32 hi hz0 (by rw [hz1]; omega) (by rw [hz1]; omega) ?_ h
  rw [hz1]
  have e2 : (#[(0, x), (1, y)].map fun (p : Nat × Operand) => (p.1, e.eval p.2)).toList = [(0, .agg (bkC a).toArray), (1, .agg (bkC b).toArray)] := by simp [hx, hy]
  have hf := fill_two 131 ((Array.range (2 * 131)).map ((Value.agg (bkC noBk).toArray).cells[· % (Value.agg (bkC noBk).toArray).cells.size]!)).toList (bkC a) (bkC b) (bkC_len fa) (bkC_len fb) (by rw [Array.length_toList, Array.size_map, Array.size_range])
  rw [Array.toArray_toList] at hf
  rw [← e2] at hf
  exact hf
theorem much62L_any (w : World) (g : Nat) (a b : BkR) (ha : BkOk w a) (hb : BkOk w b) (hB : Blk w g 30 (bkC a ++ bkC b).toArray) : Calls Try.prog 4 #[.slice (some ⟨g, 0, none⟩) 2 2, .int .i64 2] w fun e w' => ∃ z : Bool, e = .returned (.bool z) ∧ (z = false → fewL a ∧ fewL b) ∧ Below w.heap.size w w' := by
  have hr := blkR (vs := bkC a ++ bkC b) hB
  obtain ⟨r1, r2⟩ := rng_app hr
  rw [bkC_len ha.h.f] at r2
  refine (much6L_any w g 2 [a, b] 2 (by omega) (fun k hk => ?_) (fun x hx => ?_) (by simp)).mono ?_
  · match k, hk with
    | 0, _ => exact r1
    | 1, _ => exact r2
  · rcases List.mem_cons.1 hx with rfl | hx
    · exact ha
    · rw [List.mem_singleton.1 hx]; exact hb
  · rintro e w2 ⟨⟨z, rfl, hz⟩, q, rfl⟩
    exact ⟨z, rfl, fun h => ⟨hz h a (by simp), hz h b (by simp)⟩, ⟨rfl, rfl, rfl, Nat.le_refl _, fun _ _ => rfl⟩⟩
end Go.Proofs.Ytjcbihdhkaiidaa
