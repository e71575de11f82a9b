/-
  TxLooks: what is built of a transaction, and what is turned in it. · TxLooks, the walk.
-/
import Derived.Test.YtjcbihdhkaiidaaTxK
import Derived.Test.YtjcbihdhkaiidaaTlF
import Derived.Deep.DeepCutAuto
namespace Go.Proofs.Ytjcbihdhkaiidaa
open Go.RowKit

theorem own_less {w : World} {b b' size n : Nat} {e : TypeId} {v : Value} {xs : List Value} (h : w.ownsRow b' e size v n xs) (hb : b ≤ b') : w.ownsRow b e size v n xs := by
  refine ⟨h.1, ?_⟩
  rcases h.2 with h2 | ⟨g, cap, cur, hv, hg, r⟩
  · exact .inl h2
  · exact .inr ⟨g, cap, cur, hv, Nat.le_trans hb hg, r⟩
theorem keeps_grown {w w' : World} {row : Option Nat} (h : w.grownBy w' row) : Keeps (fun b => row = some b) w w' := ⟨h.os, h.tape, h.output, h.size, fun b hb hn => h.block b hb (fun e => hn e.symm)⟩
/-! the row of inputs that is built -/
structure InB (lo p : Nat) (A1 A2 : Option Addr) (W : World) (i : InR) : Prop where
  id : i.id.length = 32
  n : i.n < 4294967296
  m : i.wit.length ≤ 140737488355328
  own : W.ownsRow lo 5 1 (.slice i.A i.wit.length i.c) i.wit.length (By i.wit)
  far : ∀ j, i.A.map (·.block) = some j → j ≠ p ∧ A1.map (·.block) ≠ some j ∧ A2.map (·.block) ≠ some j
theorem InB.ok {lo p : Nat} {A1 A2 : Option Addr} {W : World} {i : InR} (h : InB lo p A1 A2 W i) : InOk W i := ⟨h.id, h.n, (own_cm h.own).1, Sees.own h.own, h.m⟩
structure BuildAt (w0 wr : World) (t : TxR) (p k : Nat) (l : List InR) (A1 : Option Addr) (c1 : Nat) (A2 : Option Addr) (c2 : Nat) : Prop where
  same : l.map inP = (t.ins.take k).map inP
  len : l.length = k
  blk : Blk wr p 37 #[.slice A1 k c1, .slice A2 t.outs.length c2, .int .u64 (t.nonce : Int)]
  ins : wr.ownsRow w0.heap.size 44 34 (.slice A1 k c1) k (insC l)
  outs : wr.ownsRow w0.heap.size 46 33 (.slice A2 t.outs.length c2) t.outs.length (outsC t.outs)
  ne1 : A1.map (·.block) ≠ some p
  ne2 : A2.map (·.block) ≠ some p
  ne3 : ∀ j, A1.map (·.block) = some j → A2.map (·.block) ≠ some j
  each : ∀ i ∈ l, InB w0.heap.size p A1 A2 wr i
  lo : w0.heap.size ≤ p
  below : Below w0.heap.size w0 wr
theorem build_next {w0 wr W5 W6 W7 : World} {t : TxR} {p k c1 c2 c5 c6 : Nat} {l : List InR} {A1 A2 A5 A6 : Option Addr} (h : BuildAt w0 wr t p k l A1 c1 A2 c2) (hk : k < t.ins.length) (x : InR) (hx : t.ins[k] = x) (hxo : InOk wr x)
    (h5 : W5.ownsRow wr.heap.size 5 1 (.slice A5 x.wit.length c5) x.wit.length (By x.wit)) (hb5 : Below wr.heap.size wr W5) (hb6 : Below W5.heap.size W5 W6)
    (ho : W7.ownsRow w0.heap.size 44 34 (.slice A6 (k + 1) c6) (k + 1) (insC l ++ inC ⟨x.id, x.n, A5, c5, x.wit⟩)) (hg : W6.grownBy W7 (A1.map (·.block))) (hv : A6.map (·.block) = A1.map (·.block) ∨ A6.map (·.block) = some W6.heap.size) :
    BuildAt w0 (W7.setCell ⟨p, 0, none⟩ (.slice A6 (k + 1) c6)) t p (k + 1) (l ++ [⟨x.id, x.n, A5, c5, x.wit⟩]) A6 c6 A2 c2 := by
  have b6 : Below wr.heap.size wr W6 := nxTr hb5 hb6
  have o1 : ∀ j, A1.map (·.block) = some j → w0.heap.size ≤ j ∧ j < wr.heap.size := fun j hj => own_lt h.ins j (by rw [own_blk]; exact hj)
  have o2 : ∀ j, A2.map (·.block) = some j → w0.heap.size ≤ j ∧ j < wr.heap.size := fun j hj => own_lt h.outs j (by rw [own_blk]; exact hj)
  have o5 : ∀ j, A5.map (·.block) = some j → wr.heap.size ≤ j ∧ j < W5.heap.size := fun j hj => own_lt h5 j (by rw [own_blk]; exact hj)
  have hp := h.blk.lt
  have s5 := hb5.size
  have s6 := hb6.size
  have K67 := keeps_grown hg
  have n6 : A6.map (·.block) ≠ some p := fun e => by
    rcases hv with q | q
    · rw [q] at e; exact h.ne1 e
    · rw [q] at e; have := Option.some.inj e; omega
  have K78 : Keeps (· = p) W7 (W7.setCell ⟨p, 0, none⟩ (.slice A6 (k + 1) c6)) := (Keeps.refl (· = p) W7).setCell (p := ⟨p, 0, none⟩) rfl _
  have K : Keeps (fun b => b = p ∨ A1.map (·.block) = some b) wr (W7.setCell ⟨p, 0, none⟩ (.slice A6 (k + 1) c6)) :=
    ((Keeps.of_below b6 _).trans (K67.mono (fun _ _ h => .inr h))).trans (K78.mono (fun _ _ h => .inl h))
  have hB7 : Blk W7 p 37 #[.slice A1 k c1, .slice A2 t.outs.length c2, .int .u64 (t.nonce : Int)] := (h.blk.below b6 hp).keeps K67 h.ne1
  have far6 : ∀ j, j ≠ p → A1.map (·.block) ≠ some j → j < wr.heap.size → A6.map (·.block) ≠ some j := fun j _ h2 h3 e => by
    rcases hv with q | q
    · rw [q] at e; exact h2 e
    · rw [q] at e; have := Option.some.inj e; omega
  constructor
  · rw [List.map_append, h.same, List.take_succ_eq_append_getElem hk, List.map_append, hx]
    rfl
  · rw [List.length_append, h.len]; rfl
  · exact hB7.set 0 _
  · rw [insC_snoc]
    exact own_keepsS ho K78 (fun j hj e => by rw [own_blk] at hj; subst e; exact n6 hj)
  · exact own_keepsS h.outs K (fun j hj e => by
      rw [own_blk] at hj
      rcases e with e | e
      · subst e; exact h.ne2 hj
      · exact h.ne3 j e hj)
  · exact n6
  · exact h.ne2
  · intro j hj e
    rcases hv with q | q
    · rw [q] at hj; exact h.ne3 j hj e
    · rw [q] at hj; have := Option.some.inj hj; have := (o2 j e).2; omega
  · intro i hi
    rcases List.mem_append.1 hi with hi | hi
    · have q := h.each i hi
      refine ⟨q.id, q.n, q.m, own_keepsS q.own K (fun j hj e => ?_), fun j hj => ⟨(q.far j hj).1, far6 j (q.far j hj).1 (q.far j hj).2.1 (own_lt q.own j (by rw [own_blk]; exact hj)).2, (q.far j hj).2.2⟩⟩
      rw [own_blk] at hj
      rcases e with e | e
      · exact (q.far j hj).1 e
      · exact (q.far j hj).2.1 e
    · rw [List.mem_singleton] at hi
      subst hi
      have k57 : Keeps (fun b => b = p ∨ A1.map (·.block) = some b) W5 (W7.setCell ⟨p, 0, none⟩ (.slice A6 (k + 1) c6)) := ((Keeps.of_below hb6 _).trans (K67.mono (fun _ _ h => .inr h))).trans (K78.mono (fun _ _ h => .inl h))
      refine ⟨hxo.id, hxo.n, hxo.m, own_less (own_keepsS h5 k57 (fun j hj e => ?_)) h.below.size, fun j hj => ?_⟩
      · rw [own_blk] at hj
        have := o5 j hj
        rcases e with e | e
        · omega
        · have := o1 j e; omega
      · have g5 := o5 j hj
        refine ⟨by omega, fun e => ?_, fun e => by have := o2 j e; omega⟩
        rcases hv with q | q
        · rw [q] at e; have := o1 j e; omega
        · rw [q] at e; have := Option.some.inj e; omega
  · exact h.lo
  · refine (h.below.trans ⟨b6.os, b6.tape, b6.output, b6.size, fun b hb => b6.block b (Nat.lt_of_lt_of_le hb h.below.size)⟩).trans ?_
    have := h.lo
    exact (K67.below (by have := h.below.size; omega) (fun b hb e => by have := o1 b e; omega)).trans (K78.below (by have := h.below.size; have := K67.size; omega) (fun b hb e => by omega))
/-! cells that are turned, cells that stay -/
def Soft (P : Nat → Nat → IntKind → Prop) (W : World) : Prop := ∀ b k q, P b k q → (∃ x : Int, W.cell? ⟨b, k, none⟩ = some (.int q x)) ∧ W.frozen? ⟨b, k, none⟩ = false
def Hard (F : Nat → Nat → Value → Prop) (W : World) : Prop := ∀ b k v, F b k v → W.cell? ⟨b, k, none⟩ = some v
structure Turn (P : Nat → Nat → IntKind → Prop) (F : Nat → Nat → Value → Prop) (S : Nat → Prop) : Prop where
  one : ∀ b k q q', P b k q → P b k q' → q = q'
  apart : ∀ b k q v, P b k q → ¬ F b k v
  inS : ∀ b k q, P b k q → S b
structure Turned (P : Nat → Nat → IntKind → Prop) (F : Nat → Nat → Value → Prop) (S : Nat → Prop) (w W : World) : Prop where
  soft : Soft P W
  hard : Hard F W
  keeps : Keeps S w W
theorem Turned.set {P : Nat → Nat → IntKind → Prop} {F : Nat → Nat → Value → Prop} {S : Nat → Prop} {w W : World} (T : Turn P F S) (h : Turned P F S w W) {b k : Nat} {q : IntKind} (hp : P b k q) (x : Int) : Turned P F S w (W.setCell ⟨b, k, none⟩ (.int q x)) := by
  obtain ⟨⟨y, hy⟩, hf⟩ := h.soft b k q hp
  refine ⟨fun b' k' q' hp' => ⟨?_, by rw [World.frozen?_setCell]; exact (h.soft b' k' q' hp').2⟩, fun b' k' v hv => ?_, h.keeps.setCell (p := ⟨b, k, none⟩) (T.inS b k q hp) _⟩
  · by_cases e : (⟨b, k, none⟩ : Addr) = ⟨b', k', none⟩
    · injection e with e1 e2
      subst e1 e2
      obtain rfl := T.one b k q q' hp hp'
      exact ⟨x, World.cell?_setCell_same _ _ _ hy⟩
    · rw [World.cell?_setCell_other _ _ _ _ e]; exact (h.soft b' k' q' hp').1
  · rw [World.cell?_setCell_other _ _ _ _ (fun e => by injection e with e1 e2; subst e1 e2; exact T.apart b k q v hp hv)]
    exact h.hard b' k' v hv
def SoftP (v : TxR) (b k : Nat) (q : IntKind) : Prop := (q = .u32 ∧ v.A = some ⟨b, 0, none⟩ ∧ ∃ i, i < v.ins.length ∧ k = i * 34 + 32) ∨ (q = .u8 ∧ ∃ i ∈ v.ins, i.A = some ⟨b, 0, none⟩ ∧ k < i.wit.length) ∨ (q = .u64 ∧ v.B = some ⟨b, 0, none⟩ ∧ ∃ i, i < v.outs.length ∧ k = i * 33)
def HardF (v : TxR) (p b k : Nat) (x : Value) : Prop := (b = p ∧ (k = 0 ∧ x = .slice v.A v.ins.length v.c ∨ k = 1 ∧ x = .slice v.B v.outs.length v.d)) ∨ (v.A = some ⟨b, 0, none⟩ ∧ ∃ i, ∃ h : i < v.ins.length, k = i * 34 + 33 ∧ x = .slice v.ins[i].A v.ins[i].wit.length v.ins[i].c)
theorem insC_at32 : ∀ {l : List InR} {k : Nat} (hk : k < l.length) (_ : ∀ i ∈ l, i.id.length = 32), (insC l)[k * 34 + 32]? = some (.int .u32 (l[k].n : Int))
  | [], _, hk, _ => by cases hk
  | i :: r, 0, _, hi => by
    have h := hi i List.mem_cons_self
    rw [insC_cons, List.getElem?_append_left (by rw [inC_len h]; omega)]
    exact (inC_at h).1
  | i :: r, k + 1, hk, hi => by
    have h := hi i List.mem_cons_self
    rw [insC_cons, List.getElem?_append_right (by rw [inC_len h]; omega), inC_len h, show (k + 1) * 34 + 32 - 34 = k * 34 + 32 by omega]
    exact insC_at32 (l := r) (by simpa using hk) (fun j hj => hi j (List.mem_cons_of_mem _ hj))
theorem outsC_at : ∀ {l : List OutR} {k : Nat} (hk : k < l.length) (_ : ∀ i ∈ l, i.lock.length = 32), (outsC l)[k * 33]? = some (.int .u64 (l[k].amt : Int))
  | [], _, hk, _ => by cases hk
  | i :: r, 0, _, hi => by
    have e : outsC (i :: r) = outC i ++ outsC r := by simp [outsC]
    rw [e, List.getElem?_append_left (by rw [outC_len (hi i List.mem_cons_self)]; omega)]
    rfl
  | i :: r, k + 1, hk, hi => by
    have h := hi i List.mem_cons_self
    have e : outsC (i :: r) = outC i ++ outsC r := by simp [outsC]
    rw [e, List.getElem?_append_right (by rw [outC_len h]; omega), outC_len h, show (k + 1) * 33 - 33 = k * 33 by omega]
    exact outsC_at (l := r) (by simpa using hk) (fun j hj => hi j (List.mem_cons_of_mem _ hj))
/-- What was built, as it is when the copy is made. -/
structure BuiltAt (w0 W : World) (p : Nat) (v : TxR) : Prop where
  blk : Blk W p 37 (txC v).toArray
  ins : W.ownsRow w0.heap.size 44 34 (.slice v.A v.ins.length v.c) v.ins.length (insC v.ins)
  outs : W.ownsRow w0.heap.size 46 33 (.slice v.B v.outs.length v.d) v.outs.length (outsC v.outs)
  ne1 : v.A.map (·.block) ≠ some p
  ne2 : v.B.map (·.block) ≠ some p
  ne3 : ∀ j, v.A.map (·.block) = some j → v.B.map (·.block) ≠ some j
  each : ∀ i ∈ v.ins, InB w0.heap.size p v.A v.B W i
  eacho : ∀ o ∈ v.outs, OutOk o
  lo : w0.heap.size ≤ p
  nonce : v.nonce < 18446744073709551616
  mi : v.ins.length ≤ 140737488355328
  mo : v.outs.length ≤ 140737488355328
theorem BuiltAt.ok {w0 W : World} {p : Nat} {v : TxR} (h : BuiltAt w0 W p v) : TxOk W v :=
  ⟨SeesV.own h.ins, fun i hi => (h.each i hi).ok, SeesV.own h.outs, h.eacho, (own_cmS' h.ins).1, (own_cmS' h.outs).1, h.nonce, h.mi, h.mo⟩
theorem BuildAt.built {w0 wr : World} {t : TxR} {p c1 c2 : Nat} {l : List InR} {A1 A2 : Option Addr} {w : World} (h : BuildAt w0 wr t p t.ins.length l A1 c1 A2 c2) (ht : TxOk w t) : ∃ v : TxR, BuiltAt w0 wr p v ∧ txP v = txP t ∧ v.ins.length = t.ins.length ∧ v.outs.length = t.outs.length := by
  have hl := h.len
  refine ⟨⟨A1, c1, l, A2, c2, t.outs, t.nonce⟩, ?_, ?_, hl, rfl⟩
  · refine ⟨?_, by rw [hl]; exact h.ins, h.outs, h.ne1, h.ne2, h.ne3, h.each, ht.eacho, h.lo, ht.nonce, by rw [hl]; exact ht.mi, ht.mo⟩
    have e : (txC ⟨A1, c1, l, A2, c2, t.outs, t.nonce⟩).toArray = #[.slice A1 t.ins.length c1, .slice A2 t.outs.length c2, .int .u64 (t.nonce : Int)] := by simp [txC, hl]
    rw [e]; exact h.blk
  · rw [txP_eq']
    exact ⟨by have := h.same; rw [List.take_length] at this; exact this, rfl, rfl⟩
theorem built_turn {w0 W : World} {p : Nat} {v : TxR} (h : BuiltAt w0 W p v) : Turn (SoftP v) (HardF v p) (fun b => w0.heap.size ≤ b ∧ b < W.heap.size) := by
  have hid : ∀ i ∈ v.ins, i.id.length = 32 := fun i hi => (h.each i hi).id
  have wb : ∀ i ∈ v.ins, ∀ b, i.A = some ⟨b, 0, none⟩ → b ≠ p ∧ v.A.map (·.block) ≠ some b ∧ v.B.map (·.block) ≠ some b := fun i hi b e => (h.each i hi).far b (by rw [e]; rfl)
  constructor
  · rintro b k q q' (⟨rfl, e1, _⟩ | ⟨rfl, i, hi, e1, _⟩ | ⟨rfl, e1, _⟩) (⟨rfl, e2, _⟩ | ⟨rfl, j, hj, e2, _⟩ | ⟨rfl, e2, _⟩)
    · rfl
    · exact absurd (by rw [e1]; rfl) (wb j hj b e2).2.1
    · exact absurd (by rw [e2]; rfl) (h.ne3 b (by rw [e1]; rfl))
    · exact absurd (by rw [e2]; rfl) (wb i hi b e1).2.1
    · rfl
    · exact absurd (by rw [e2]; rfl) (wb i hi b e1).2.2
    · exact absurd (by rw [e1]; rfl) (h.ne3 b (by rw [e2]; rfl))
    · exact absurd (by rw [e1]; rfl) (wb j hj b e2).2.2
    · rfl
  · rintro b k q x (⟨rfl, e1, i, _, hk⟩ | ⟨rfl, i, hi, e1, _⟩ | ⟨rfl, e1, _⟩) (⟨hb, _⟩ | ⟨e2, j, _, hk2, _⟩)
    · exact h.ne1 (by rw [e1, hb]; rfl)
    · omega
    · exact (wb i hi b e1).1 hb
    · exact (wb i hi b e1).2.1 (by rw [e2]; rfl)
    · exact h.ne2 (by rw [e1, hb]; rfl)
    · exact h.ne3 b (by rw [e2]; rfl) (by rw [e1]; rfl)
  · rintro b k q (⟨rfl, e1, _⟩ | ⟨rfl, i, hi, e1, _⟩ | ⟨rfl, e1, _⟩)
    · exact own_lt h.ins b (by rw [own_blk, e1]; rfl)
    · exact own_lt (h.each i hi).own b (by rw [own_blk, e1]; rfl)
    · exact own_lt h.outs b (by rw [own_blk, e1]; rfl)
theorem built_turned {w0 W : World} {p : Nat} {v : TxR} (h : BuiltAt w0 W p v) : Turned (SoftP v) (HardF v p) (fun b => w0.heap.size ≤ b ∧ b < W.heap.size) W W := by
  have hid : ∀ i ∈ v.ins, i.id.length = 32 := fun i hi => (h.each i hi).id
  refine ⟨?_, ?_, Keeps.refl _ _⟩
  · rintro b k q (⟨rfl, e1, i, hi, rfl⟩ | ⟨rfl, i, hi, e1, hk⟩ | ⟨rfl, e1, i, hi, rfl⟩)
    · obtain ⟨g, hg, _, hc, hf, _⟩ := own_setS h.ins (k := i * 34 + 32) (by omega) undef
      rw [e1] at hg
      injection hg with hg; injection hg with hg; subst hg
      rw [insC_at32 hi hid] at hc
      exact ⟨⟨_, hc⟩, hf⟩
    · obtain ⟨g, hg, _, hc, hf, _⟩ := own_setS (h.each i hi).own (k := k) (by omega) undef
      rw [e1] at hg
      injection hg with hg; injection hg with hg; subst hg
      have e : (By i.wit)[k]? = some (.int .u8 (i.wit[k].toNat : Int)) := by simp [By, hk]
      rw [e] at hc
      exact ⟨⟨_, hc⟩, hf⟩
    · obtain ⟨g, hg, _, hc, hf, _⟩ := own_setS h.outs (k := i * 33) (by omega) undef
      rw [e1] at hg
      injection hg with hg; injection hg with hg; subst hg
      rw [outsC_at hi (fun o ho => (h.eacho o ho).lock)] at hc
      exact ⟨⟨_, hc⟩, hf⟩
  · rintro b k x (⟨rfl, ⟨rfl, rfl⟩ | ⟨rfl, rfl⟩⟩ | ⟨e1, i, hi, rfl, rfl⟩)
    · exact h.blk.cell 0
    · exact h.blk.cell 1
    · obtain ⟨g, hg, _, hc, _, _⟩ := own_setS h.ins (k := i * 34 + 33) (by omega) undef
      rw [e1] at hg
      injection hg with hg; injection hg with hg; subst hg
      rw [insC_at hi hid] at hc
      exact hc
theorem Turned.later {P : Nat → Nat → IntKind → Prop} {F : Nat → Nat → Value → Prop} {w W W' : World} {lo : Nat} (h : Turned P F (fun b => lo ≤ b ∧ b < w.heap.size) w W) (T : Turn P F (fun b => lo ≤ b ∧ b < w.heap.size)) (hb : Below W.heap.size W W') : Turned P F (fun b => lo ≤ b ∧ b < w.heap.size) w W' := by
  have hs := h.keeps.size
  refine ⟨fun b k q hp => ?_, fun b k v hv => ?_, h.keeps.trans (Keeps.of_below hb _)⟩
  · obtain ⟨⟨x, hx⟩, hf⟩ := h.soft b k q hp
    have hl := (T.inS b k q hp).2
    exact ⟨⟨x, (hb.cell (p := ⟨b, k, none⟩) (by show b < _; omega)).trans hx⟩, (World.frozen?_of_block (a := ⟨b, k, none⟩) (hb.block b (by omega))).trans hf⟩
  · have hc := h.hard b k v hv
    exact (hb.cell (p := ⟨b, k, none⟩) (World.block_lt_of_cell? _ _ hc)).trans hc
/-- The own ones, as a loop meets them. -/
theorem built_row {w0 W : World} {p : Nat} {v : TxR} (h : BuiltAt w0 W p v) {i : Nat} (hi : i < v.ins.length) : ∃ g, v.A = some ⟨g, 0, none⟩ ∧ SoftP v g (i * 34 + 32) .u32 ∧ HardF v p g (i * 34 + 33) (.slice v.ins[i].A v.ins[i].wit.length v.ins[i].c) := by
  obtain ⟨g, hg, _⟩ := own_setS h.ins (k := i * 34 + 32) (by omega) undef
  exact ⟨g, hg, .inl ⟨rfl, hg, i, hi, rfl⟩, .inr ⟨hg, i, hi, rfl, rfl⟩⟩
theorem built_wit {w0 W : World} {p : Nat} {v : TxR} (h : BuiltAt w0 W p v) {i : Nat} (hi : i < v.ins.length) {k : Nat} (hk : k < v.ins[i].wit.length) : ∃ b, v.ins[i].A = some ⟨b, 0, none⟩ ∧ SoftP v b k .u8 := by
  obtain ⟨g, hg, _⟩ := own_setS (h.each _ (List.getElem_mem hi)).own (k := k) (by omega) undef
  exact ⟨g, hg, .inr (.inl ⟨rfl, _, List.getElem_mem hi, hg, hk⟩)⟩
theorem built_out {w0 W : World} {p : Nat} {v : TxR} (h : BuiltAt w0 W p v) {i : Nat} (hi : i < v.outs.length) : ∃ g, v.B = some ⟨g, 0, none⟩ ∧ SoftP v g (i * 33) .u64 := by
  obtain ⟨g, hg, _⟩ := own_setS h.outs (k := i * 33) (by omega) undef
  exact ⟨g, hg, .inr (.inr ⟨rfl, hg, i, hi, rfl⟩)⟩
theorem part_own (B : Option Addr) (m d : Nat) (k : Int) (wq : World) : (Instr.build 37 #[(2, .int .u64 k), (1, .slice B m d)]).run Try.prog wq = .ok (.agg #[.slice none 0 0, .slice B m d, .int .u64 k]) wq := by kernel_rfl
theorem yieldsIf_build21 {P : Program} {ops : Array Oper} {S : World → Prop} {o : Oper} {a : Act} (hw : Region.wanted o (yielded ops a.tmps) = true) (t : TypeId) (x y : Operand) (ho : o.op = .build t #[(2, x), (1, y)])
    (vx vy v : Value) (hx : a.eval x = vx) (hy : a.eval y = vy) (hr : ∀ wq, (Instr.build t #[(2, vx), (1, vy)]).run P wq = .ok v wq) : YieldsIf P ops S o v a :=
  .inl ⟨hw, fun w _ => by
    unfold execOp
    have e : (#[(2, x), (1, y)].map fun (p : Nat × Operand) => (p.1, a.eval p.2)) = #[(2, vx), (1, vy)] := by simp [hx, hy]
    simp only [ho, e, Sem.run_bind, hr, Result.andThen_ok]
    rfl⟩
end Go.Proofs.Ytjcbihdhkaiidaa
namespace Go.Proofs.Ytjcbihdhkaiidaa
open Go.RowKit

section
variable {P : Program} {ops : Array Oper} {Q : Exit → Act → World → Prop} {md : Region.Mode} {S : World → Prop} {k : Nat}
def waitsB (md : Region.Mode) (ops : Array Oper) (j i : Nat) : Bool := (ops[j]?).map (fun o => o.after.any fun e => Region.binds md e && e.on == i) == some true
def chainB (md : Region.Mode) (ops : Array Oper) : Nat → List Nat → Bool
  | _, [] => true
  | i, c :: cs => waitsB md ops c i && chainB md ops c cs
theorem chain_pred : ∀ (cs : List Nat) (i : Nat), chainB md ops i cs = true → ∀ c ∈ cs, ∃ p, (p = i ∨ p ∈ cs) ∧ waitsB md ops c p = true
  | [], _, _, _, hc => by cases hc
  | c' :: cs, i, h, c, hc => by
    unfold chainB at h
    rw [Bool.and_eq_true] at h
    rcases List.mem_cons.1 hc with rfl | hc
    · exact ⟨i, .inl rfl, h.1⟩
    · obtain ⟨p, hp, hw⟩ := chain_pred cs c' h.2 c hc
      refine ⟨p, .inr ?_, hw⟩
      rcases hp with rfl | hp
      · exact List.mem_cons_self
      · exact List.mem_cons_of_mem _ hp
theorem not_ready {L : Array Bool} {j i : Nat} (hw : waitsB md ops j i = true) (hj : j ∈ Region.ready md ops L) (h0 : L.getD i true = false) : False := by
  obtain ⟨_, o, ho, hall⟩ := mem_ready.1 hj
  unfold waitsB at hw
  rw [ho] at hw
  simp only [Option.map_some, beq_iff_eq, Option.some.injEq, Array.any_eq_true, Bool.and_eq_true] at hw
  obtain ⟨q, hq, hb, he⟩ := hw
  have h1 := hall _ (Array.getElem_mem hq) hb
  rw [he] at h1
  rcases Nat.lt_or_ge i L.size with h' | h'
  · simp [h'] at h0 h1; rw [h0] at h1; cases h1
  · simp [Array.getElem?_eq_none h'] at h1
/-- A load that operation k waits for, by a chain of operations. -/
theorem wpAnyK_chain {i : Nat} {oi : Oper} {v : Value} {fuel : Nat} {listed : Array Bool} {a : Act} {w : World} (cs : List Nat) (hi : ops[i]? = some oi)
    (hs : Region.noSelect ops = true) (hf : Region.free md ops listed i = true) (hr : (Region.ready md ops listed).contains i = true) (hik : (i == k) = false)
    (hc : chainB md ops i cs = true) (hkc : cs.contains k = true) (hl : cs.all (fun c => listed.getD c true == false) = true)
    (hQ : ∀ c a w, Q (.panic c) (a.put oi.dst v) w → Q (.panic c) a w) (hy : YieldsIf P ops S oi v a) (hT : KT S k listed w)
    (h : wpAnyK P md ops Q S k fuel (listed.setIfInBounds i true) (a.put oi.dst v) w) : wpAnyK P md ops Q S k (fuel + 1) listed a w := by
  refine wpAnyK_first (R := S) (good := fun L => ∀ c ∈ cs, L.getD c true = false) hi (Region.noSelect_spec hs) hQ (by simpa using hik) ?_ (fun L w hg hT => hT (hg k (by simpa using hkc))) fuel listed a w (Region.free_spec hi hf) (by simpa using hr) hy (fun c hc' => by have := List.all_eq_true.1 hl c hc'; exact eq_of_beq this) hT h
  intro j L hg hj hri c hcm
  by_cases hjc : j = c
  · exfalso
    subst hjc
    obtain ⟨p, hp, hw⟩ := chain_pred cs i hc j hcm
    rcases hp with rfl | hp
    · exact not_ready hw hj (mem_ready.1 hri).1
    · exact not_ready hw hj (hg p hp)
  · rw [getD_set_ne true hjc]; exact hg c hcm
end
theorem rngL {w w' : World} {b o : Nat} {cs : List Value} (hb : Below w.heap.size w w') (h : w.rangeAt b o cs) : w'.rangeAt b o cs := fun j v hv => cell_later hb (h j v hv)
theorem build_start {w0 W : World} {t : TxR} {p c2 : Nat} {A2 : Option Addr} (hB : Blk W p 37 #[.slice none 0 0, .slice A2 t.outs.length c2, .int .u64 (t.nonce : Int)]) (ho : W.ownsRow w0.heap.size 46 33 (.slice A2 t.outs.length c2) t.outs.length (outsC t.outs))
    (hne : A2.map (·.block) ≠ some p) (hlo : w0.heap.size ≤ p) (hb : Below w0.heap.size w0 W) : BuildAt w0 W t p 0 [] none 0 A2 c2 :=
  ⟨rfl, rfl, hB, World.ownsRow_nil _ _ _ _, ho, (fun h => by cases h), hne, (fun j h => by cases h), (fun i h => by cases h), hlo, hb⟩
theorem none_blk {n c : Nat} : ∀ j, (Value.slice none n c).ownBlock = some j → False := fun j h => by cases h
theorem below_none {w w' : World} {n c : Nat} (h : w.grownBy w' (Value.slice none n c).ownBlock) : Below w.heap.size w w' := below_grown h
theorem Turned.move {P : Nat → Nat → IntKind → Prop} {F : Nat → Nat → Value → Prop} {w W W' : World} {lo hi : Nat} (h : Turned P F (fun b => lo ≤ b ∧ b < hi) w W) (T : Turn P F (fun b => lo ≤ b ∧ b < hi)) (hh : hi ≤ W.heap.size) (hb : Below W.heap.size W W') : Turned P F (fun b => lo ≤ b ∧ b < hi) W' W' := by
  refine ⟨fun b k q hp => ?_, fun b k v hv => ?_, Keeps.refl _ _⟩
  · obtain ⟨⟨x, hx⟩, hf⟩ := h.soft b k q hp
    have hl := (T.inS b k q hp).2
    exact ⟨⟨x, (hb.cell (p := ⟨b, k, none⟩) (by show b < _; omega)).trans hx⟩, (World.frozen?_of_block (a := ⟨b, k, none⟩) (hb.block b (by omega))).trans hf⟩
  · have hc := h.hard b k v hv
    exact (hb.cell (p := ⟨b, k, none⟩) (World.block_lt_of_cell? _ _ hc)).trans hc

end Go.Proofs.Ytjcbihdhkaiidaa
