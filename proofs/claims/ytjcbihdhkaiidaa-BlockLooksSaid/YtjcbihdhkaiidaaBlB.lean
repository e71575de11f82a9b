/-
  BlockLooks: a block that was built of rows of its own: which cells are turned, and which stay.
-/
import Derived.Test.YtjcbihdhkaiidaaBlA
import Derived.Test.YtjcbihdhkaiidaaTlH
namespace Go.Proofs.Ytjcbihdhkaiidaa
open Go.RowKit

/-- A block in memory whose rows (but for the witnesses) are its own. -/
structure OwnB (lo : Nat) (W : World) (p : Nat) (o : BkR) : Prop where
  blk : Blk W p 30 (bkC o).toArray
  par : W.ownsRow lo 24 32 (.slice o.h.A o.h.p.ps.length o.h.c) o.h.p.ps.length (Hs o.h.p.ps)
  txs : W.ownsRow lo 37 3 (.slice o.B o.txs.length o.d) o.txs.length (txsC o.txs)
  ins : ∀ v ∈ o.txs, W.ownsRow lo 44 34 (.slice v.A v.ins.length v.c) v.ins.length (insC v.ins)
  outs : ∀ v ∈ o.txs, W.ownsRow lo 46 33 (.slice v.B v.outs.length v.d) v.outs.length (outsC v.outs)
  ok : BkOk W o
  lo : lo ≤ p
def SoftB (o : BkR) (b k : Nat) (q : IntKind) : Prop :=
  (q = .u8 ∧ o.h.A = some ⟨b, 0, none⟩ ∧ ∃ i, i < o.h.p.ps.length ∧ k = i * 32) ∨ (q = .u64 ∧ o.B = some ⟨b, 0, none⟩ ∧ ∃ i, i < o.txs.length ∧ k = i * 3 + 2) ∨
  (∃ v ∈ o.txs, (q = .u32 ∧ v.A = some ⟨b, 0, none⟩ ∧ ∃ i, i < v.ins.length ∧ k = i * 34 + 32) ∨ (q = .u64 ∧ v.B = some ⟨b, 0, none⟩ ∧ ∃ i, i < v.outs.length ∧ k = i * 33))
def HardB (o : BkR) (p b k : Nat) (x : Value) : Prop :=
  (b = p ∧ (k = 0 ∧ x = .slice o.h.A o.h.p.ps.length o.h.c ∨ k = 130 ∧ x = .slice o.B o.txs.length o.d)) ∨
  (o.B = some ⟨b, 0, none⟩ ∧ ∃ i, ∃ h : i < o.txs.length, (k = i * 3 ∧ x = .slice o.txs[i].A o.txs[i].ins.length o.txs[i].c) ∨ (k = i * 3 + 1 ∧ x = .slice o.txs[i].B o.txs[i].outs.length o.txs[i].d))
/-- Of which kind the cells are that are turned, by the kind of their row. -/
def KQ (e : TypeId) (q : IntKind) : Prop := (e = 24 ∧ q = .u8) ∨ (e = 37 ∧ q = .u64) ∨ (e = 44 ∧ q = .u32) ∨ (e = 46 ∧ q = .u64)
theorem KQ.one {e : TypeId} {q q' : IntKind} (h : KQ e q) (k : KQ e q') : q = q' := by
  rcases h with ⟨rfl, rfl⟩ | ⟨rfl, rfl⟩ | ⟨rfl, rfl⟩ | ⟨rfl, rfl⟩ <;> rcases k with ⟨h, rfl⟩ | ⟨h, rfl⟩ | ⟨h, rfl⟩ | ⟨h, rfl⟩ <;> first | rfl | exact absurd h (by decide)
theorem own_type {w : World} {base size n c b : Nat} {e : TypeId} {A : Option Addr} {xs : List Value} (h : w.ownsRow base e size (.slice A n c) n xs) (hA : A = some ⟨b, 0, none⟩) : base ≤ b ∧ ∃ cs, w.heap[b]? = some (.cells cs e (0, 0)) := by
  subst hA
  rcases h.2 with ⟨hv, h0⟩ | ⟨g, cap, cur, hv, hb, hh, _⟩
  · cases hv
  · injection hv with hA
    injection hA with hA
    injection hA with hA
    subst hA
    exact ⟨hb, cur, hh⟩
theorem OwnB.type {lo : Nat} {W : World} {p : Nat} {o : BkR} (h : OwnB lo W p o) {b k : Nat} {q : IntKind} (s : SoftB o b k q) : lo ≤ b ∧ ∃ cs e, W.heap[b]? = some (.cells cs e (0, 0)) ∧ KQ e q ∧ (e = 37 → ∃ i, k = i * 3 + 2) := by
  rcases s with ⟨rfl, hA, _⟩ | ⟨rfl, hA, i, _, hk⟩ | ⟨v, hv, ⟨rfl, hA, _⟩ | ⟨rfl, hA, _⟩⟩
  · obtain ⟨h1, cs, h2⟩ := own_type h.par hA
    exact ⟨h1, cs, _, h2, .inl ⟨rfl, rfl⟩, fun e => absurd e (by decide)⟩
  · obtain ⟨h1, cs, h2⟩ := own_type h.txs hA
    exact ⟨h1, cs, _, h2, .inr (.inl ⟨rfl, rfl⟩), fun _ => ⟨i, hk⟩⟩
  · obtain ⟨h1, cs, h2⟩ := own_type (h.ins v hv) hA
    exact ⟨h1, cs, _, h2, .inr (.inr (.inl ⟨rfl, rfl⟩)), fun e => absurd e (by decide)⟩
  · obtain ⟨h1, cs, h2⟩ := own_type (h.outs v hv) hA
    exact ⟨h1, cs, _, h2, .inr (.inr (.inr ⟨rfl, rfl⟩)), fun e => absurd e (by decide)⟩
theorem ownB_turn {lo : Nat} {W : World} {p : Nat} {o : BkR} (h : OwnB lo W p o) : Turn (SoftB o) (HardB o p) (fun b => lo ≤ b ∧ b < W.heap.size) where
  one := fun b k q q' s t => by
    obtain ⟨_, cs, e, h1, k1, _⟩ := h.type s
    obtain ⟨_, cs', e', h2, k2, _⟩ := h.type t
    rw [h1] at h2
    injection h2 with h2
    injection h2 with _ h2
    subst h2
    exact k1.one k2
  apart := fun b k q v s t => by
    obtain ⟨_, cs, e, h1, k1, h3⟩ := h.type s
    rcases t with ⟨rfl, _⟩ | ⟨hA, i, _, ⟨rfl, _⟩ | ⟨rfl, _⟩⟩
    · have h2 : W.heap[b]? = some (.cells (bkC o).toArray 30) := h.blk
      rw [h1] at h2
      injection h2 with h2
      injection h2 with _ h2
      subst h2
      rcases k1 with ⟨h, _⟩ | ⟨h, _⟩ | ⟨h, _⟩ | ⟨h, _⟩ <;> exact absurd h (by decide)
    · obtain ⟨_, cs', h2⟩ := own_type h.txs hA
      rw [h1] at h2
      injection h2 with h2
      injection h2 with _ h2
      obtain ⟨j, hj⟩ := h3 h2
      omega
    · obtain ⟨_, cs', h2⟩ := own_type h.txs hA
      rw [h1] at h2
      injection h2 with h2
      injection h2 with _ h2
      obtain ⟨j, hj⟩ := h3 h2
      omega
  inS := fun b k q s => by
    obtain ⟨h1, cs, e, h2, _⟩ := h.type s
    exact ⟨h1, (Array.getElem?_eq_some_iff.1 h2).1⟩
theorem txsC_cons (t : TxR) (r : List TxR) : txsC (t :: r) = txC t ++ txsC r := by simp [txsC]
theorem txsC_at : ∀ {l : List TxR} {i : Nat} (h : i < l.length), (txsC l)[i * 3]? = some (.slice l[i].A l[i].ins.length l[i].c) ∧ (txsC l)[i * 3 + 1]? = some (.slice l[i].B l[i].outs.length l[i].d) ∧ (txsC l)[i * 3 + 2]? = some (.int .u64 (l[i].nonce : Int))
  | [], _, h => by cases h
  | t :: r, 0, _ => ⟨rfl, rfl, rfl⟩
  | t :: r, i + 1, h => by
    have h' : i < r.length := by simpa using h
    obtain ⟨h1, h2, h3⟩ := txsC_at h'
    rw [txsC_cons]
    refine ⟨?_, ?_, ?_⟩
    · rw [List.getElem?_append_right (by rw [txC_3]; omega), txC_3, show (i + 1) * 3 - 3 = i * 3 by omega]; exact h1
    · rw [List.getElem?_append_right (by rw [txC_3]; omega), txC_3, show (i + 1) * 3 + 1 - 3 = i * 3 + 1 by omega]; exact h2
    · rw [List.getElem?_append_right (by rw [txC_3]; omega), txC_3, show (i + 1) * 3 + 2 - 3 = i * 3 + 2 by omega]; exact h3
theorem Hs_at {ps : List (List UInt8)} (h : All32 ps) {i : Nat} (hi : i < ps.length) : ∃ x : Int, (Hs ps)[i * 32]? = some (.int .u8 x) := by
  have hl := Hs_length h
  have hk : i * 32 < (By ps.flatten).length := by show i * 32 < (Hs ps).length; omega
  rw [By_length] at hk
  exact ⟨(ps.flatten[i * 32].toNat : Int), by show (By ps.flatten)[i * 32]? = _; unfold By; rw [List.getElem?_map, List.getElem?_eq_getElem hk]; rfl⟩
theorem ownB_turned {lo : Nat} {W : World} {p : Nat} {o : BkR} (h : OwnB lo W p o) : Turned (SoftB o) (HardB o p) (fun b => lo ≤ b ∧ b < W.heap.size) W W := by
  have hid : ∀ v ∈ o.txs, ∀ i ∈ v.ins, i.id.length = 32 := fun v hv i hi => ((h.ok.t.each v hv).each i hi).id
  have hlo : ∀ v ∈ o.txs, ∀ x ∈ v.outs, x.lock.length = 32 := fun v hv x hx => ((h.ok.t.each v hv).eacho x hx).lock
  refine ⟨?_, ?_, Keeps.refl _ _⟩
  · rintro b k q (⟨rfl, e1, i, hi, rfl⟩ | ⟨rfl, e1, i, hi, rfl⟩ | ⟨v, hv, ⟨rfl, e1, i, hi, rfl⟩ | ⟨rfl, e1, i, hi, rfl⟩⟩)
    · obtain ⟨g, hg, _, hc, hf, _⟩ := own_setS h.par (k := i * 32) (by omega) undef
      rw [e1] at hg
      injection hg with hg; injection hg with hg; subst hg
      obtain ⟨x, hx⟩ := Hs_at h.ok.h.f.ps hi
      rw [hx] at hc
      exact ⟨⟨x, hc⟩, hf⟩
    · obtain ⟨g, hg, _, hc, hf, _⟩ := own_setS h.txs (k := i * 3 + 2) (by omega) undef
      rw [e1] at hg
      injection hg with hg; injection hg with hg; subst hg
      rw [(txsC_at hi).2.2] at hc
      exact ⟨⟨_, hc⟩, hf⟩
    · obtain ⟨g, hg, _, hc, hf, _⟩ := own_setS (h.ins v hv) (k := i * 34 + 32) (by omega) undef
      rw [e1] at hg
      injection hg with hg; injection hg with hg; subst hg
      rw [insC_at32 hi (hid v hv)] at hc
      exact ⟨⟨_, hc⟩, hf⟩
    · obtain ⟨g, hg, _, hc, hf, _⟩ := own_setS (h.outs v hv) (k := i * 33) (by omega) undef
      rw [e1] at hg
      injection hg with hg; injection hg with hg; subst hg
      rw [outsC_at hi (hlo v hv)] at hc
      exact ⟨⟨_, hc⟩, hf⟩
  · rintro b k x (⟨rfl, ⟨rfl, rfl⟩ | ⟨rfl, rfl⟩⟩ | ⟨e1, i, hi, ⟨rfl, rfl⟩ | ⟨rfl, rfl⟩⟩)
    · exact h.blk.cell 0
    · exact (BkRow.of (blkR h.blk) h.ok.h.f).t
    · obtain ⟨g, hg, _, hc, _, _⟩ := own_setS h.txs (k := i * 3) (by omega) undef
      rw [e1] at hg
      injection hg with hg; injection hg with hg; subst hg
      rw [(txsC_at hi).1] at hc
      exact hc
    · obtain ⟨g, hg, _, hc, _, _⟩ := own_setS h.txs (k := i * 3 + 1) (by omega) undef
      rw [e1] at hg
      injection hg with hg; injection hg with hg; subst hg
      rw [(txsC_at hi).2.1] at hc
      exact hc
/-- The own rows, as a loop meets them. -/
theorem ownB_par {lo : Nat} {W : World} {p : Nat} {o : BkR} (h : OwnB lo W p o) {i : Nat} (hi : i < o.h.p.ps.length) : ∃ g, o.h.A = some ⟨g, 0, none⟩ ∧ SoftB o g (i * 32) .u8 := by
  obtain ⟨g, hg, _⟩ := own_setS h.par (k := i * 32) (by omega) undef
  exact ⟨g, hg, .inl ⟨rfl, hg, i, hi, rfl⟩⟩
theorem ownB_tx {lo : Nat} {W : World} {p : Nat} {o : BkR} (h : OwnB lo W p o) {i : Nat} (hi : i < o.txs.length) : ∃ g, o.B = some ⟨g, 0, none⟩ ∧ HardB o p g (i * 3) (.slice o.txs[i].A o.txs[i].ins.length o.txs[i].c) ∧ HardB o p g (i * 3 + 1) (.slice o.txs[i].B o.txs[i].outs.length o.txs[i].d) ∧ SoftB o g (i * 3 + 2) .u64 := by
  obtain ⟨g, hg, _⟩ := own_setS h.txs (k := i * 3) (by omega) undef
  exact ⟨g, hg, .inr ⟨hg, i, hi, .inl ⟨rfl, rfl⟩⟩, .inr ⟨hg, i, hi, .inr ⟨rfl, rfl⟩⟩, .inr (.inl ⟨rfl, hg, i, hi, rfl⟩)⟩
theorem ownB_in {lo : Nat} {W : World} {p : Nat} {o : BkR} (h : OwnB lo W p o) {v : TxR} (hv : v ∈ o.txs) {i : Nat} (hi : i < v.ins.length) : ∃ g, v.A = some ⟨g, 0, none⟩ ∧ SoftB o g (i * 34 + 32) .u32 := by
  obtain ⟨g, hg, _⟩ := own_setS (h.ins v hv) (k := i * 34) (by omega) undef
  exact ⟨g, hg, .inr (.inr ⟨v, hv, .inl ⟨rfl, hg, i, hi, rfl⟩⟩)⟩
theorem ownB_out {lo : Nat} {W : World} {p : Nat} {o : BkR} (h : OwnB lo W p o) {v : TxR} (hv : v ∈ o.txs) {i : Nat} (hi : i < v.outs.length) : ∃ g, v.B = some ⟨g, 0, none⟩ ∧ SoftB o g (i * 33) .u64 := by
  obtain ⟨g, hg, _⟩ := own_setS (h.outs v hv) (k := i * 33) (by omega) undef
  exact ⟨g, hg, .inr (.inr ⟨v, hv, .inr ⟨rfl, hg, i, hi, rfl⟩⟩)⟩
end Go.Proofs.Ytjcbihdhkaiidaa
