/-
  TxLooks: what is built of a transaction, and what is turned in it. · TxLooks, the walk.
-/
import Derived.Test.YtckomfffilonlaaDoorTlF
import Derived.Deep.DeepCutAuto
namespace Go.Proofs.YtckomfffilonlaaDoor
open Go.RowKit

theorem own_less {w : World} {b b' size n : Nat} {e : TypeId} {v : Value} {xs : List Value} (h : w.ownsRow b' e size v n xs) (hb : b ≤ b') : w.ownsRow b e size v n xs := by
  refine ⟨h.1, ?_⟩
  rcases h.2 with h2 | ⟨g, cap, cur, hv, hg, r⟩
  · exact .inl h2
  · exact .inr ⟨g, cap, cur, hv, Nat.le_trans hb hg, r⟩
theorem keeps_grown {w w' : World} {row : Option Nat} (h : w.grownBy w' row) : Keeps (fun b => row = some b) w w' := ⟨h.os, h.tape, h.output, h.size, fun b hb hn => h.block b hb (fun e => hn e.symm)⟩
/-! the row of inputs that is built -/
structure InB (lo p : Nat) (A1 A2 : Option Addr) (W : World) (i : InR) : Prop where
  id : i.id.length = 32
  n : i.n < 4294967296
  m : i.wit.length ≤ 140737488355328
  own : W.ownsRow lo 5 1 (.slice i.A i.wit.length i.c) i.wit.length (By i.wit)
  far : ∀ j, i.A.map (·.block) = some j → j ≠ p ∧ A1.map (·.block) ≠ some j ∧ A2.map (·.block) ≠ some j
theorem InB.ok {lo p : Nat} {A1 A2 : Option Addr} {W : World} {i : InR} (h : InB lo p A1 A2 W i) : InOk W i := ⟨h.id, h.n, (own_cm h.own).1, Sees.own h.own, h.m⟩
structure BuildAt (w0 wr : World) (t : TxR) (p k : Nat) (l : List InR) (A1 : Option Addr) (c1 : Nat) (A2 : Option Addr) (c2 : Nat) : Prop where
  same : l.map inP = (t.ins.take k).map inP
  len : l.length = k
  blk : Blk wr p 26 #[.slice A1 k c1, .slice A2 t.outs.length c2, .int .u64 (t.nonce : Int)]
  ins : wr.ownsRow w0.heap.size 46 34 (.slice A1 k c1) k (insC l)
  outs : wr.ownsRow w0.heap.size 49 33 (.slice A2 t.outs.length c2) t.outs.length (outsC t.outs)
  ne1 : A1.map (·.block) ≠ some p
  ne2 : A2.map (·.block) ≠ some p
  ne3 : ∀ j, A1.map (·.block) = some j → A2.map (·.block) ≠ some j
  each : ∀ i ∈ l, InB w0.heap.size p A1 A2 wr i
  lo : w0.heap.size ≤ p
  below : Below w0.heap.size w0 wr
theorem build_next {w0 wr W5 W6 W7 : World} {t : TxR} {p k c1 c2 c5 c6 : Nat} {l : List InR} {A1 A2 A5 A6 : Option Addr} (h : BuildAt w0 wr t p k l A1 c1 A2 c2) (hk : k < t.ins.length) (x : InR) (hx : t.ins[k] = x) (hxo : InOk wr x)
    (h5 : W5.ownsRow wr.heap.size 5 1 (.slice A5 x.wit.length c5) x.wit.length (By x.wit)) (hb5 : Below wr.heap.size wr W5) (hb6 : Below W5.heap.size W5 W6)
    (ho : W7.ownsRow w0.heap.size 46 34 (.slice A6 (k + 1) c6) (k + 1) (insC l ++ inC ⟨x.id, x.n, A5, c5, x.wit⟩)) (hg : W6.grownBy W7 (A1.map (·.block))) (hv : A6.map (·.block) = A1.map (·.block) ∨ A6.map (·.block) = some W6.heap.size) :
    BuildAt w0 (W7.setCell ⟨p, 0, none⟩ (.slice A6 (k + 1) c6)) t p (k + 1) (l ++ [⟨x.id, x.n, A5, c5, x.wit⟩]) A6 c6 A2 c2 := by
  have b6 : Below wr.heap.size wr W6 := nxTr hb5 hb6
  have o1 : ∀ j, A1.map (·.block) = some j → w0.heap.size ≤ j ∧ j < wr.heap.size := fun j hj => own_lt h.ins j (by rw [own_blk]; exact hj)
  have o2 : ∀ j, A2.map (·.block) = some j → w0.heap.size ≤ j ∧ j < wr.heap.size := fun j hj => own_lt h.outs j (by rw [own_blk]; exact hj)
  have o5 : ∀ j, A5.map (·.block) = some j → wr.heap.size ≤ j ∧ j < W5.heap.size := fun j hj => own_lt h5 j (by rw [own_blk]; exact hj)
  have hp := h.blk.lt
  have s5 := hb5.size
  have s6 := hb6.size
  have K67 := keeps_grown hg
  have n6 : A6.map (·.block) ≠ some p := fun e => by
    rcases hv with q | q
    · rw [q] at e; exact h.ne1 e
    · rw [q] at e; have := Option.some.inj e; omega
  have K78 : Keeps (· = p) W7 (W7.setCell ⟨p, 0, none⟩ (.slice A6 (k + 1) c6)) := (Keeps.refl (· = p) W7).setCell (p := ⟨p, 0, none⟩) rfl _
  have K : Keeps (fun b => b = p ∨ A1.map (·.block) = some b) wr (W7.setCell ⟨p, 0, none⟩ (.slice A6 (k + 1) c6)) :=
    ((Keeps.of_below b6 _).trans (K67.mono (fun _ _ h => .inr h))).trans (K78.mono (fun _ _ h => .inl h))
  have hB7 : Blk W7 p 26 #[.slice A1 k c1, .slice A2 t.outs.length c2, .int .u64 (t.nonce : Int)] := (h.blk.below b6 hp).keeps K67 h.ne1
  have far6 : ∀ j, j ≠ p → A1.map (·.block) ≠ some j → j < wr.heap.size → A6.map (·.block) ≠ some j := fun j _ h2 h3 e => by
    rcases hv with q | q
    · rw [q] at e; exact h2 e
    · rw [q] at e; have := Option.some.inj e; omega
  constructor
  · rw [List.map_append, h.same, List.take_succ_eq_append_getElem hk, List.map_append, hx]
    rfl
  · rw [List.length_append, h.len]; rfl
  · exact hB7.set 0 _
  · rw [insC_snoc]
    exact own_keepsS ho K78 (fun j hj e => by rw [own_blk] at hj; subst e; exact n6 hj)
  · exact own_keepsS h.outs K (fun j hj e => by
      rw [own_blk] at hj
      rcases e with e | e
      · subst e; exact h.ne2 hj
      · exact h.ne3 j e hj)
  · exact n6
  · exact h.ne2
  · intro j hj e
    rcases hv with q | q
    · rw [q] at hj; exact h.ne3 j hj e
    · rw [q] at hj; have := Option.some.inj hj; have := (o2 j e).2; omega
  · intro i hi
    rcases List.mem_append.1 hi with hi | hi
    · have q := h.each i hi
      refine ⟨q.id, q.n, q.m, own_keepsS q.own K (fun j hj e => ?_), fun j hj => ⟨(q.far j hj).1, far6 j (q.far j hj).1 (q.far j hj).2.1 (own_lt q.own j (by rw [own_blk]; exact hj)).2, (q.far j hj).2.2⟩⟩
      rw [own_blk] at hj
      rcases e with e | e
      · exact (q.far j hj).1 e
      · exact (q.far j hj).2.1 e
    · rw [List.mem_singleton] at hi
      subst hi
      have k57 : Keeps (fun b => b = p ∨ A1.map (·.block) = some b) W5 (W7.setCell ⟨p, 0, none⟩ (.slice A6 (k + 1) c6)) := ((Keeps.of_below hb6 _).trans (K67.mono (fun _ _ h => .inr h))).trans (K78.mono (fun _ _ h => .inl h))
      refine ⟨hxo.id, hxo.n, hxo.m, own_less (own_keepsS h5 k57 (fun j hj e => ?_)) h.below.size, fun j hj => ?_⟩
      · rw [own_blk] at hj
        have := o5 j hj
        rcases e with e | e
        · omega
        · have := o1 j e; omega
      · have g5 := o5 j hj
        refine ⟨by omega, fun e => ?_, fun e => by have := o2 j e; omega⟩
        rcases hv with q | q
        · rw [q] at e; have := o1 j e; omega
        · rw [q] at e; have := Option.some.inj e; omega
  · exact h.lo
  · refine (h.below.trans ⟨b6.os, b6.tape, b6.output, b6.size, fun b hb => b6.block b (Nat.lt_of_lt_of_le hb h.below.size)⟩).trans ?_
    have := h.lo
    exact (K67.below (by have := h.below.size; omega) (fun b hb e => by have := o1 b e; omega)).trans (K78.below (by have := h.below.size; have := K67.size; omega) (fun b hb e => by omega))
/-! cells that are turned, cells that stay -/
def Soft (P : Nat → Nat → IntKind → Prop) (W : World) : Prop := ∀ b k q, P b k q → (∃ x : Int, W.cell? ⟨b, k, none⟩ = some (.int q x)) ∧ W.frozen? ⟨b, k, none⟩ = false
def Hard (F : Nat → Nat → Value → Prop) (W : World) : Prop := ∀ b k v, F b k v → W.cell? ⟨b, k, none⟩ = some v
structure Turn (P : Nat → Nat → IntKind → Prop) (F : Nat → Nat → Value → Prop) (S : Nat → Prop) : Prop where
  one : ∀ b k q q', P b k q → P b k q' → q = q'
  apart : ∀ b k q v, P b k q → ¬ F b k v
  inS : ∀ b k q, P b k q → S b
structure Turned (P : Nat → Nat → IntKind → Prop) (F : Nat → Nat → Value → Prop) (S : Nat → Prop) (w W : World) : Prop where
  soft : Soft P W
  hard : Hard F W
  keeps : Keeps S w W
theorem Turned.set {P : Nat → Nat → IntKind → Prop} {F : Nat → Nat → Value → Prop} {S : Nat → Prop} {w W : World} (T : Turn P F S) (h : Turned P F S w W) {b k : Nat} {q : IntKind} (hp : P b k q) (x : Int) : Turned P F S w (W.setCell ⟨b, k, none⟩ (.int q x)) := by
  obtain ⟨⟨y, hy⟩, hf⟩ := h.soft b k q hp
  refine ⟨fun b' k' q' hp' => ⟨?_, by rw [World.frozen?_setCell]; exact (h.soft b' k' q' hp').2⟩, fun b' k' v hv => ?_, h.keeps.setCell (p := ⟨b, k, none⟩) (T.inS b k q hp) _⟩
  · by_cases e : (⟨b, k, none⟩ : Addr) = ⟨b', k', none⟩
    · injection e with e1 e2
      subst e1 e2
      obtain rfl := T.one b k q q' hp hp'
      exact ⟨x, World.cell?_setCell_same _ _ _ hy⟩
    · rw [World.cell?_setCell_other _ _ _ _ e]; exact (h.soft b' k' q' hp').1
  · rw [World.cell?_setCell_other _ _ _ _ (fun e => by injection e with e1 e2; subst e1 e2; exact T.apart b k q v hp hv)]
    exact h.hard b' k' v hv
def SoftP (v : TxR) (b k : Nat) (q : IntKind) : Prop := (q = .u32 ∧ v.A = some ⟨b, 0, none⟩ ∧ ∃ i, i < v.ins.length ∧ k = i * 34 + 32) ∨ (q = .u8 ∧ ∃ i ∈ v.ins, i.A = some ⟨b, 0, none⟩ ∧ k < i.wit.length) ∨ (q = .u64 ∧ v.B = some ⟨b, 0, none⟩ ∧ ∃ i, i < v.outs.length ∧ k = i * 33)
def HardF (v : TxR) (p b k : Nat) (x : Value) : Prop := (b = p ∧ (k = 0 ∧ x = .slice v.A v.ins.length v.c ∨ k = 1 ∧ x = .slice v.B v.outs.length v.d)) ∨ (v.A = some ⟨b, 0, none⟩ ∧ ∃ i, ∃ h : i < v.ins.length, k = i * 34 + 33 ∧ x = .slice v.ins[i].A v.ins[i].wit.length v.ins[i].c)
theorem insC_at32 : ∀ {l : List InR} {k : Nat} (hk : k < l.length) (_ : ∀ i ∈ l, i.id.length = 32), (insC l)[k * 34 + 32]? = some (.int .u32 (l[k].n : Int))
  | [], _, hk, _ => by cases hk
  | i :: r, 0, _, hi => by
    have h := hi i List.mem_cons_self
    rw [insC_cons, List.getElem?_append_left (by rw [inC_len h]; omega)]
    exact (inC_at h).1
  | i :: r, k + 1, hk, hi => by
    have h := hi i List.mem_cons_self
    rw [insC_cons, List.getElem?_append_right (by rw [inC_len h]; omega), inC_len h, show (k + 1) * 34 + 32 - 34 = k * 34 + 32 by omega]
    exact insC_at32 (l := r) (by simpa using hk) (fun j hj => hi j (List.mem_cons_of_mem _ hj))
theorem outsC_at : ∀ {l : List OutR} {k : Nat} (hk : k < l.length) (_ : ∀ i ∈ l, i.lock.length = 32), (outsC l)[k * 33]? = some (.int .u64 (l[k].amt : Int))
  | [], _, hk, _ => by cases hk
  | i :: r, 0, _, hi => by
    have e : outsC (i :: r) = outC i ++ outsC r := by simp [outsC]
    rw [e, List.getElem?_append_left (by rw [outC_len (hi i List.mem_cons_self)]; omega)]
    rfl
  | i :: r, k + 1, hk, hi => by
    have h := hi i List.mem_cons_self
    have e : outsC (i :: r) = outC i ++ outsC r := by simp [outsC]
    rw [e, List.getElem?_append_right (by rw [outC_len h]; omega), outC_len h, show (k + 1) * 33 - 33 = k * 33 by omega]
    exact outsC_at (l := r) (by simpa using hk) (fun j hj => hi j (List.mem_cons_of_mem _ hj))
/-- What was built, as it is when the copy is made. -/
structure BuiltAt (w0 W : World) (p : Nat) (v : TxR) : Prop where
  blk : Blk W p 26 (txC v).toArray
  ins : W.ownsRow w0.heap.size 46 34 (.slice v.A v.ins.length v.c) v.ins.length (insC v.ins)
  outs : W.ownsRow w0.heap.size 49 33 (.slice v.B v.outs.length v.d) v.outs.length (outsC v.outs)
  ne1 : v.A.map (·.block) ≠ some p
  ne2 : v.B.map (·.block) ≠ some p
  ne3 : ∀ j, v.A.map (·.block) = some j → v.B.map (·.block) ≠ some j
  each : ∀ i ∈ v.ins, InB w0.heap.size p v.A v.B W i
  eacho : ∀ o ∈ v.outs, OutOk o
  lo : w0.heap.size ≤ p
  nonce : v.nonce < 18446744073709551616
  mi : v.ins.length ≤ 140737488355328
  mo : v.outs.length ≤ 140737488355328
theorem BuiltAt.ok {w0 W : World} {p : Nat} {v : TxR} (h : BuiltAt w0 W p v) : TxOk W v :=
  ⟨SeesV.own h.ins, fun i hi => (h.each i hi).ok, SeesV.own h.outs, h.eacho, (own_cmS' h.ins).1, (own_cmS' h.outs).1, h.nonce, h.mi, h.mo⟩
theorem BuildAt.built {w0 wr : World} {t : TxR} {p c1 c2 : Nat} {l : List InR} {A1 A2 : Option Addr} {w : World} (h : BuildAt w0 wr t p t.ins.length l A1 c1 A2 c2) (ht : TxOk w t) : ∃ v : TxR, BuiltAt w0 wr p v ∧ txP v = txP t ∧ v.ins.length = t.ins.length ∧ v.outs.length = t.outs.length := by
  have hl := h.len
  refine ⟨⟨A1, c1, l, A2, c2, t.outs, t.nonce⟩, ?_, ?_, hl, rfl⟩
  · refine ⟨?_, by rw [hl]; exact h.ins, h.outs, h.ne1, h.ne2, h.ne3, h.each, ht.eacho, h.lo, ht.nonce, by rw [hl]; exact ht.mi, ht.mo⟩
    have e : (txC ⟨A1, c1, l, A2, c2, t.outs, t.nonce⟩).toArray = #[.slice A1 t.ins.length c1, .slice A2 t.outs.length c2, .int .u64 (t.nonce : Int)] := by simp [txC, hl]
    rw [e]; exact h.blk
  · rw [txP_eq']
    exact ⟨by have := h.same; rw [List.take_length] at this; exact this, rfl, rfl⟩
theorem built_turn {w0 W : World} {p : Nat} {v : TxR} (h : BuiltAt w0 W p v) : Turn (SoftP v) (HardF v p) (fun b => w0.heap.size ≤ b ∧ b < W.heap.size) := by
  have hid : ∀ i ∈ v.ins, i.id.length = 32 := fun i hi => (h.each i hi).id
  have wb : ∀ i ∈ v.ins, ∀ b, i.A = some ⟨b, 0, none⟩ → b ≠ p ∧ v.A.map (·.block) ≠ some b ∧ v.B.map (·.block) ≠ some b := fun i hi b e => (h.each i hi).far b (by rw [e]; rfl)
  constructor
  · rintro b k q q' (⟨rfl, e1, _⟩ | ⟨rfl, i, hi, e1, _⟩ | ⟨rfl, e1, _⟩) (⟨rfl, e2, _⟩ | ⟨rfl, j, hj, e2, _⟩ | ⟨rfl, e2, _⟩)
    · rfl
    · exact absurd (by rw [e1]; rfl) (wb j hj b e2).2.1
    · exact absurd (by rw [e2]; rfl) (h.ne3 b (by rw [e1]; rfl))
    · exact absurd (by rw [e2]; rfl) (wb i hi b e1).2.1
    · rfl
    · exact absurd (by rw [e2]; rfl) (wb i hi b e1).2.2
    · exact absurd (by rw [e1]; rfl) (h.ne3 b (by rw [e2]; rfl))
    · exact absurd (by rw [e1]; rfl) (wb j hj b e2).2.2
    · rfl
  · rintro b k q x (⟨rfl, e1, i, _, hk⟩ | ⟨rfl, i, hi, e1, _⟩ | ⟨rfl, e1, _⟩) (⟨hb, _⟩ | ⟨e2, j, _, hk2, _⟩)
    · exact h.ne1 (by rw [e1, hb]; rfl)
    · omega
    · exact (wb i hi b e1).1 hb
    · exact (wb i hi b e1).2.1 (by rw [e2]; rfl)
    · exact h.ne2 (by rw [e1, hb]; rfl)
    · exact h.ne3 b (by rw [e2]; rfl) (by rw [e1]; rfl)
  · rintro b k q (⟨rfl, e1, _⟩ | ⟨rfl, i, hi, e1, _⟩ | ⟨rfl, e1, _⟩)
    · exact own_lt h.ins b (by rw [own_blk, e1]; rfl)
    · exact own_lt (h.each i hi).own b (by rw [own_blk, e1]; rfl)
    · exact own_lt h.outs b (by rw [own_blk, e1]; rfl)
theorem built_turned {w0 W : World} {p : Nat} {v : TxR} (h : BuiltAt w0 W p v) : Turned (SoftP v) (HardF v p) (fun b => w0.heap.size ≤ b ∧ b < W.heap.size) W W := by
  have hid : ∀ i ∈ v.ins, i.id.length = 32 := fun i hi => (h.each i hi).id
  refine ⟨?_, ?_, Keeps.refl _ _⟩
  · rintro b k q (⟨rfl, e1, i, hi, rfl⟩ | ⟨rfl, i, hi, e1, hk⟩ | ⟨rfl, e1, i, hi, rfl⟩)
    · obtain ⟨g, hg, _, hc, hf, _⟩ := own_setS h.ins (k := i * 34 + 32) (by omega) undef
      rw [e1] at hg
      injection hg with hg; injection hg with hg; subst hg
      rw [insC_at32 hi hid] at hc
      exact ⟨⟨_, hc⟩, hf⟩
    · obtain ⟨g, hg, _, hc, hf, _⟩ := own_setS (h.each i hi).own (k := k) (by omega) undef
      rw [e1] at hg
      injection hg with hg; injection hg with hg; subst hg
      have e : (By i.wit)[k]? = some (.int .u8 (i.wit[k].toNat : Int)) := by simp [By, hk]
      rw [e] at hc
      exact ⟨⟨_, hc⟩, hf⟩
    · obtain ⟨g, hg, _, hc, hf, _⟩ := own_setS h.outs (k := i * 33) (by omega) undef
      rw [e1] at hg
      injection hg with hg; injection hg with hg; subst hg
      rw [outsC_at hi (fun o ho => (h.eacho o ho).lock)] at hc
      exact ⟨⟨_, hc⟩, hf⟩
  · rintro b k x (⟨rfl, ⟨rfl, rfl⟩ | ⟨rfl, rfl⟩⟩ | ⟨e1, i, hi, rfl, rfl⟩)
    · exact h.blk.cell 0
    · exact h.blk.cell 1
    · obtain ⟨g, hg, _, hc, _, _⟩ := own_setS h.ins (k := i * 34 + 33) (by omega) undef
      rw [e1] at hg
      injection hg with hg; injection hg with hg; subst hg
      rw [insC_at hi hid] at hc
      exact hc
theorem Turned.later {P : Nat → Nat → IntKind → Prop} {F : Nat → Nat → Value → Prop} {w W W' : World} {lo : Nat} (h : Turned P F (fun b => lo ≤ b ∧ b < w.heap.size) w W) (T : Turn P F (fun b => lo ≤ b ∧ b < w.heap.size)) (hb : Below W.heap.size W W') : Turned P F (fun b => lo ≤ b ∧ b < w.heap.size) w W' := by
  have hs := h.keeps.size
  refine ⟨fun b k q hp => ?_, fun b k v hv => ?_, h.keeps.trans (Keeps.of_below hb _)⟩
  · obtain ⟨⟨x, hx⟩, hf⟩ := h.soft b k q hp
    have hl := (T.inS b k q hp).2
    exact ⟨⟨x, (hb.cell (p := ⟨b, k, none⟩) (by show b < _; omega)).trans hx⟩, (World.frozen?_of_block (a := ⟨b, k, none⟩) (hb.block b (by omega))).trans hf⟩
  · have hc := h.hard b k v hv
    exact (hb.cell (p := ⟨b, k, none⟩) (World.block_lt_of_cell? _ _ hc)).trans hc
/-- The own ones, as a loop meets them. -/
theorem built_row {w0 W : World} {p : Nat} {v : TxR} (h : BuiltAt w0 W p v) {i : Nat} (hi : i < v.ins.length) : ∃ g, v.A = some ⟨g, 0, none⟩ ∧ SoftP v g (i * 34 + 32) .u32 ∧ HardF v p g (i * 34 + 33) (.slice v.ins[i].A v.ins[i].wit.length v.ins[i].c) := by
  obtain ⟨g, hg, _⟩ := own_setS h.ins (k := i * 34 + 32) (by omega) undef
  exact ⟨g, hg, .inl ⟨rfl, hg, i, hi, rfl⟩, .inr ⟨hg, i, hi, rfl, rfl⟩⟩
theorem built_wit {w0 W : World} {p : Nat} {v : TxR} (h : BuiltAt w0 W p v) {i : Nat} (hi : i < v.ins.length) {k : Nat} (hk : k < v.ins[i].wit.length) : ∃ b, v.ins[i].A = some ⟨b, 0, none⟩ ∧ SoftP v b k .u8 := by
  obtain ⟨g, hg, _⟩ := own_setS (h.each _ (List.getElem_mem hi)).own (k := k) (by omega) undef
  exact ⟨g, hg, .inr (.inl ⟨rfl, _, List.getElem_mem hi, hg, hk⟩)⟩
theorem built_out {w0 W : World} {p : Nat} {v : TxR} (h : BuiltAt w0 W p v) {i : Nat} (hi : i < v.outs.length) : ∃ g, v.B = some ⟨g, 0, none⟩ ∧ SoftP v g (i * 33) .u64 := by
  obtain ⟨g, hg, _⟩ := own_setS h.outs (k := i * 33) (by omega) undef
  exact ⟨g, hg, .inr (.inr ⟨rfl, hg, i, hi, rfl⟩)⟩
theorem part_own (B : Option Addr) (m d : Nat) (k : Int) (wq : World) : (Instr.build 26 #[(2, .int .u64 k), (1, .slice B m d)]).run Tryd.prog wq = .ok (.agg #[.slice none 0 0, .slice B m d, .int .u64 k]) wq := by kernel_rfl
theorem yieldsIf_build21 {P : Program} {ops : Array Oper} {S : World → Prop} {o : Oper} {a : Act} (hw : Region.wanted o (yielded ops a.tmps) = true) (t : TypeId) (x y : Operand) (ho : o.op = .build t #[(2, x), (1, y)])
    (vx vy v : Value) (hx : a.eval x = vx) (hy : a.eval y = vy) (hr : ∀ wq, (Instr.build t #[(2, vx), (1, vy)]).run P wq = .ok v wq) : YieldsIf P ops S o v a :=
  .inl ⟨hw, fun w _ => by
    unfold execOp
    have e : (#[(2, x), (1, y)].map fun (p : Nat × Operand) => (p.1, a.eval p.2)) = #[(2, vx), (1, vy)] := by simp [hx, hy]
    simp only [ho, e, Sem.run_bind, hr, Result.andThen_ok]
    rfl⟩
end Go.Proofs.YtckomfffilonlaaDoor
namespace Go.Proofs.YtckomfffilonlaaDoor
open Go.RowKit

section
variable {P : Program} {ops : Array Oper} {Q : Exit → Act → World → Prop} {md : Region.Mode} {S : World → Prop} {k : Nat}
def waitsB (md : Region.Mode) (ops : Array Oper) (j i : Nat) : Bool := (ops[j]?).map (fun o => o.after.any fun e => Region.binds md e && e.on == i) == some true
def chainB (md : Region.Mode) (ops : Array Oper) : Nat → List Nat → Bool
  | _, [] => true
  | i, c :: cs => waitsB md ops c i && chainB md ops c cs
theorem chain_pred : ∀ (cs : List Nat) (i : Nat), chainB md ops i cs = true → ∀ c ∈ cs, ∃ p, (p = i ∨ p ∈ cs) ∧ waitsB md ops c p = true
  | [], _, _, _, hc => by cases hc
  | c' :: cs, i, h, c, hc => by
    unfold chainB at h
    rw [Bool.and_eq_true] at h
    rcases List.mem_cons.1 hc with rfl | hc
    · exact ⟨i, .inl rfl, h.1⟩
    · obtain ⟨p, hp, hw⟩ := chain_pred cs c' h.2 c hc
      refine ⟨p, .inr ?_, hw⟩
      rcases hp with rfl | hp
      · exact List.mem_cons_self
      · exact List.mem_cons_of_mem _ hp
theorem not_ready {L : Array Bool} {j i : Nat} (hw : waitsB md ops j i = true) (hj : j ∈ Region.ready md ops L) (h0 : L.getD i true = false) : False := by
  obtain ⟨_, o, ho, hall⟩ := mem_ready.1 hj
  unfold waitsB at hw
  rw [ho] at hw
  simp only [Option.map_some, beq_iff_eq, Option.some.injEq, Array.any_eq_true, Bool.and_eq_true] at hw
  obtain ⟨q, hq, hb, he⟩ := hw
  have h1 := hall _ (Array.getElem_mem hq) hb
  rw [he] at h1
  rcases Nat.lt_or_ge i L.size with h' | h'
  · simp [h'] at h0 h1; rw [h0] at h1; cases h1
  · simp [Array.getElem?_eq_none h'] at h1
/-- A load that operation k waits for, by a chain of operations. -/
theorem wpAnyK_chain {i : Nat} {oi : Oper} {v : Value} {fuel : Nat} {listed : Array Bool} {a : Act} {w : World} (cs : List Nat) (hi : ops[i]? = some oi)
    (hs : Region.noSelect ops = true) (hf : Region.free md ops listed i = true) (hr : (Region.ready md ops listed).contains i = true) (hik : (i == k) = false)
    (hc : chainB md ops i cs = true) (hkc : cs.contains k = true) (hl : cs.all (fun c => listed.getD c true == false) = true)
    (hQ : ∀ c a w, Q (.panic c) (a.put oi.dst v) w → Q (.panic c) a w) (hy : YieldsIf P ops S oi v a) (hT : KT S k listed w)
    (h : wpAnyK P md ops Q S k fuel (listed.setIfInBounds i true) (a.put oi.dst v) w) : wpAnyK P md ops Q S k (fuel + 1) listed a w := by
  refine wpAnyK_first (R := S) (good := fun L => ∀ c ∈ cs, L.getD c true = false) hi (Region.noSelect_spec hs) hQ (by simpa using hik) ?_ (fun L w hg hT => hT (hg k (by simpa using hkc))) fuel listed a w (Region.free_spec hi hf) (by simpa using hr) hy (fun c hc' => by have := List.all_eq_true.1 hl c hc'; exact eq_of_beq this) hT h
  intro j L hg hj hri c hcm
  by_cases hjc : j = c
  · exfalso
    subst hjc
    obtain ⟨p, hp, hw⟩ := chain_pred cs i hc j hcm
    rcases hp with rfl | hp
    · exact not_ready hw hj (mem_ready.1 hri).1
    · exact not_ready hw hj (hg p hp)
  · rw [getD_set_ne true hjc]; exact hg c hcm
end
theorem rngL {w w' : World} {b o : Nat} {cs : List Value} (hb : Below w.heap.size w w') (h : w.rangeAt b o cs) : w'.rangeAt b o cs := fun j v hv => cell_later hb (h j v hv)
theorem build_start {w0 W : World} {t : TxR} {p c2 : Nat} {A2 : Option Addr} (hB : Blk W p 26 #[.slice none 0 0, .slice A2 t.outs.length c2, .int .u64 (t.nonce : Int)]) (ho : W.ownsRow w0.heap.size 49 33 (.slice A2 t.outs.length c2) t.outs.length (outsC t.outs))
    (hne : A2.map (·.block) ≠ some p) (hlo : w0.heap.size ≤ p) (hb : Below w0.heap.size w0 W) : BuildAt w0 W t p 0 [] none 0 A2 c2 :=
  ⟨rfl, rfl, hB, World.ownsRow_nil _ _ _ _, ho, (fun h => by cases h), hne, (fun j h => by cases h), (fun i h => by cases h), hlo, hb⟩
theorem none_blk {n c : Nat} : ∀ j, (Value.slice none n c).ownBlock = some j → False := fun j h => by cases h
theorem below_none {w w' : World} {n c : Nat} (h : w.grownBy w' (Value.slice none n c).ownBlock) : Below w.heap.size w w' := below_grown h
theorem Turned.move {P : Nat → Nat → IntKind → Prop} {F : Nat → Nat → Value → Prop} {w W W' : World} {lo hi : Nat} (h : Turned P F (fun b => lo ≤ b ∧ b < hi) w W) (T : Turn P F (fun b => lo ≤ b ∧ b < hi)) (hh : hi ≤ W.heap.size) (hb : Below W.heap.size W W') : Turned P F (fun b => lo ≤ b ∧ b < hi) W' W' := by
  refine ⟨fun b k q hp => ?_, fun b k v hv => ?_, Keeps.refl _ _⟩
  · obtain ⟨⟨x, hx⟩, hf⟩ := h.soft b k q hp
    have hl := (T.inS b k q hp).2
    exact ⟨⟨x, (hb.cell (p := ⟨b, k, none⟩) (by show b < _; omega)).trans hx⟩, (World.frozen?_of_block (a := ⟨b, k, none⟩) (hb.block b (by omega))).trans hf⟩
  · have hc := h.hard b k v hv
    exact (hb.cell (p := ⟨b, k, none⟩) (World.block_lt_of_cell? _ _ hc)).trans hc

set_option maxHeartbeats 8000000 in
set_option maxRecDepth 100000 in
theorem looks_any (w : World) (hTb : Tabs w) (t u : TxR) (A : Option Addr) (c : Nat) (b : List UInt8) (ht : TxOk w t) (hu : TxOk w u) (hS : Sees w w.heap.size A b) (hbc : b.length ≤ c) :
    Calls Tryd.prog 4 #[.agg (txC t).toArray, .agg (txC u).toArray, .slice A b.length c] w fun e w' => e = .returned (.bool true) ∧ Below w.heap.size w w' := by
  have hb0 : Below w.heap.size w ((w.alloc (.cells (txC t).toArray 26)).alloc (.cells (txC u).toArray 26)) := nxAl (nxAl (nxRf w) _) _
  have Hb0 := Lib.hid hb0
  have HB2 : Blk ((w.alloc (.cells (txC t).toArray 26)).alloc (.cells (txC u).toArray 26)) w.heap.size 26 (txC t).toArray := (show Blk (w.alloc (.cells (txC t).toArray 26)) _ _ _ from heap_alloc_new w _).alloc _
  have HB3 : Blk ((w.alloc (.cells (txC t).toArray 26)).alloc (.cells (txC u).toArray 26)) (w.heap.size + 1) 26 (txC u).toArray := blk_new (by simp)
  have HR := Lib.hid (blkR (vs := txC t) HB2)
  have HQ := Lib.hid (blkR (vs := txC u) HB3)
  have HC2 := Lib.hid HB2
  have HT := Lib.hid (ht.later hb0)
  have HU := Lib.hid (hu.later hb0)
  have HS := Lib.hid ((hS.later hb0).more hb0.size)
  have HTb := Lib.hid (hTb.later hb0)
  have HZT0 : Hid (∀ t : TxR, (Tryd.prog.info? 26).map (·.size) = some (txC t).toArray.size) := fun t => Tryd.sizeTx
  have HZTl : Hid (∀ t : TxR, (Tryd.prog.info? 26).map (·.size) = some (txC t).length) := fun t => Tryd.sizeTx
  have Hl0 : Hid (w.heap.size < ((w.alloc (.cells (txC t).toArray 26)).alloc (.cells (txC u).toArray 26)).heap.size) := by show _ < _; simp; omega
  have Hl1 : Hid (w.heap.size + 1 < ((w.alloc (.cells (txC t).toArray 26)).alloc (.cells (txC u).toArray 26)).heap.size) := by show _ < _; simp
  have HBC := Lib.hid hbc
  clear ht hu hS hTb hb0 HB2 HB3 hbc
  go_enter Tryd.func4, Tryd.ntmps4
  go_upto_region 1 with fail
  try change Code.wp _ _ _ _ ((w.alloc (.cells (txC t).toArray 26)).alloc (.cells (txC u).toArray 26))
  generalize ((w.alloc (.cells (txC t).toArray 26)).alloc (.cells (txC u).toArray 26)) = W0 at *
  by_cases hlen : (9000 : Int) < (b.length : Int)
  · go_wp2_with (first
      | ((with_reducible show wpList _ _ _ (⟨some 13, _, _, _, _, _⟩ :: _) _ _); refine wpList_load_mid rfl 26 (.tmp 3) rfl w.heap.size 0 rfl (txC t) _ HR.out Tryd.underlying26 rfl (HZTl.out t) ?_)
      | ((with_reducible show wpList _ _ _ (⟨some 14, _, _, _, _, _⟩ :: _) _ _); refine wpList_load_mid rfl 26 (.tmp 4) rfl (w.heap.size + 1) 0 rfl (txC u) _ HQ.out Tryd.underlying26 rfl (HZTl.out u) ?_)
      | ((with_reducible show wpList _ _ _ (⟨some 15, _, _, _, _, _⟩ :: _) _ _); refine wpList_build_tx2 rfl (.tmp 13) (.tmp 14) rfl t u rfl rfl ?_)
      | (go_at_call 7; refine (much2b_any (W0.alloc (.cells (txC t ++ txC u).toArray 26)) W0.heap.size t u (HT.out.later (nxAl (nxRf W0) _)) (HU.out.later (nxAl (nxRf W0) _)) (heap_alloc_new W0 _)).mono ?_; rintro e w2 ⟨mz, rfl, hmz, hb2⟩; have HMz := Lib.hid hmz; have V2 : Hid (Below W0.heap.size W0 w2) := nxTr (nxAl (nxRf W0) _) hb2; clear hb2 hmz; cases mz)
      | (go_at_call 8; refine (known_any w2).mono ?_; rintro e w3 ⟨rfl, hb⟩; have V3 : Hid (Below W0.heap.size W0 w3) := nxTr V2.out hb; clear hb))
    all_goals go_ret
    all_goals exact ⟨rfl, nxTr Hb0.out V3.out⟩
  have HLn : Hid (b.length ≤ 9000) := by show _ ≤ _; omega
  go_upto_region 3 with (first
      | ((with_reducible show wpList _ _ _ (⟨some 13, _, _, _, _, _⟩ :: _) _ _); refine wpList_load_mid rfl 26 (.tmp 3) rfl w.heap.size 0 rfl (txC t) _ HR.out Tryd.underlying26 rfl (HZTl.out t) ?_)
      | ((with_reducible show wpList _ _ _ (⟨some 14, _, _, _, _, _⟩ :: _) _ _); refine wpList_load_mid rfl 26 (.tmp 4) rfl (w.heap.size + 1) 0 rfl (txC u) _ HQ.out Tryd.underlying26 rfl (HZTl.out u) ?_)
      | ((with_reducible show wpList _ _ _ (⟨some 15, _, _, _, _, _⟩ :: _) _ _); refine wpList_build_tx2 rfl (.tmp 13) (.tmp 14) rfl t u rfl rfl ?_)
      | (go_at_call 7; refine (much2b_any (W0.alloc (.cells (txC t ++ txC u).toArray 26)) W0.heap.size t u (HT.out.later (nxAl (nxRf W0) _)) (HU.out.later (nxAl (nxRf W0) _)) (heap_alloc_new W0 _)).mono ?_; rintro e w2 ⟨mz, rfl, hmz, hb2⟩; have HMz := Lib.hid hmz; have V2 : Hid (Below W0.heap.size W0 w2) := nxTr (nxAl (nxRf W0) _) hb2; clear hb2 hmz; cases mz)
      | (go_at_call 8; refine (known_any w2).mono ?_; rintro e w3 ⟨rfl, hb⟩; have V3 : Hid (Below W0.heap.size W0 w3) := nxTr V2.out hb; clear hb))
  rotate_left 1
  · go_ret
    exact ⟨rfl, nxTr Hb0.out V3.out⟩
  have HM : Hid (t.ins.length ≤ 600 ∧ t.outs.length ≤ 600) := (by first | exact HMz.out rfl | exact HMz.out trivial)
  clear HMz hlen
  have C2 : Hid (w2.cell? ⟨w.heap.size, 1, none⟩ = some (.slice t.B t.outs.length t.d) ∧ w2.cell? ⟨w.heap.size, 2, none⟩ = some (.int .u64 (t.nonce : Int))) := ⟨(V2.out.cell (p := ⟨w.heap.size, 1, none⟩) Hl0.out).trans (HC2.out.cell 1), (V2.out.cell (p := ⟨w.heap.size, 2, none⟩) Hl0.out).trans (HC2.out.cell 2)⟩
  have HO2 : Hid (SeesV w2 w2.heap.size t.B (outsC t.outs)) := (HT.out.outs.later V2.out).more V2.out.size
  have HOl : Hid ((outsC t.outs).length = t.outs.length * 33) := outsC_len (fun i hi => (HT.out.eacho i hi).lock)
  have hm1 := HM.out.1
  have hm2 := HM.out.2
  go_cut [7] (fun q wx => ∃ (p : Nat) (A2 : Option Addr) (c2 : Nat), q = .pointer (some ⟨p, 0, none⟩) ∧ Hid (BuildAt w2 wx t p 0 [] none 0 A2 c2))
  case first =>
    as_aux_lemma =>
      obtain ⟨j0, hj0, hy0, hy1, hy2⟩ := infoP Tryd.outinfo
      refine wp_region_held_drew (S := fun W => W.cell? ⟨w.heap.size, 1, none⟩ = some (.slice t.B t.outs.length t.d) ∧ W.cell? ⟨w.heap.size, 2, none⟩ = some (.int .u64 (t.nonce : Int))) (by kernel_rfl) C2.out (fun hHeld => ?_)
      refine wpAnyH_take (i := 0) (oi := ⟨_, _, _, _, _, _⟩) (v := ?_) rfl (by kernel_rfl) (by kernel_rfl) (by kernel_rfl) (fun _ _ _ h => h) (Or.inl ⟨by rfl, ?_⟩) (by assumption) ?_
      rotate_left 1
      · intro W hSw
        try dsimp only at hSw
        go_simp
        try with_reducible rfl
      try simp only [Act.put, List.setIfInBounds_toArray, List.set_cons_zero, List.set_cons_succ]
      refine wpAnyH_take (i := 1) (oi := ⟨_, _, _, _, _, _⟩) (v := ?_) rfl (by kernel_rfl) (by kernel_rfl) (by kernel_rfl) (fun _ _ _ h => h) (Or.inl ⟨by rfl, ?_⟩) (by assumption) ?_
      rotate_left 1
      · intro W hSw
        try dsimp only at hSw
        go_simp
        try with_reducible rfl
      try simp only [Act.put, List.setIfInBounds_toArray, List.set_cons_zero, List.set_cons_succ]
      refine wpAnyH_take (i := 2) (oi := ⟨_, _, _, _, _, _⟩) (v := ?_) rfl (by kernel_rfl) (by kernel_rfl) (by kernel_rfl) (fun _ _ _ h => h) (Or.inl ⟨by rfl, ?_⟩) (by assumption) ?_
      rotate_left 1
      · intro W hSw
        try dsimp only at hSw
        go_simp
        try with_reducible rfl
      try simp only [Act.put, List.setIfInBounds_toArray, List.set_cons_zero, List.set_cons_succ]
      refine wpAnyH_take (i := 3) (oi := ⟨_, _, _, _, _, _⟩) (v := ?_) rfl (by kernel_rfl) (by kernel_rfl) (by kernel_rfl) (fun _ _ _ h => h) (Or.inl ⟨by rfl, ?_⟩) (by assumption) ?_
      rotate_left 1
      · intro W hSw
        try dsimp only at hSw
        go_simp
        try with_reducible rfl
      try simp only [Act.put, List.setIfInBounds_toArray, List.set_cons_zero, List.set_cons_succ]
      obtain ⟨q1, hq1⟩ : ∃ q, w2.drew = q := ⟨_, rfl⟩
      have v1 : Hid (Below w2.heap.size w2 q1) := by show Below _ _ _; rw [← hq1]; exact nxDrI (nxRf w2)
      rw [hq1] at hHeld ⊢
      clear hq1
      refine wpAnyH_ready (rs := [4, 6]) (by kernel_rfl) (by simp) ?_
      refine AllReadyH.cons rfl (fun K hK => ?_) (AllReadyH.cons rfl (fun K hK => ?_) AllReadyH.nil)
      · refine step_append_seesV (o := ⟨some 27, _, _, _, _, _⟩) rfl (.const (.slice none 0 0)) (.tmp 26) 23 rfl q1.heap.size 49 j0 _ 33 40 Tryd.underlying23 hj0 hy0 hy1 hy2 rfl (by decide) (.slice none 0 0) 0 [] rfl (World.ownsRow_nil _ _ _ _) _ t.B t.outs.length t.d (outsC t.outs) rfl HOl.out (HO2.out.later v1.out) (outsC_one' t.outs) (by omega) (by omega) (Nat.le_refl _) ?_
        intro v5 w5 ho hg hv
        obtain ⟨A5, e5, rfl⟩ := own_form ho
        simp only [Nat.zero_add, List.nil_append] at ho ⊢
        have b5 : Below q1.heap.size q1 w5 := below_none hg
        have V5 : Hid (Below w2.heap.size w2 w5) := nxTr v1.out b5
        have O5 := Lib.hid ho
        clear ho hg hv
        refine hK.out _ _ ⟨cell_later V5.out C2.out.1, cell_later V5.out C2.out.2⟩ (fun hSn => ?_)
        clear hK K
        try simp only [Act.put, List.setIfInBounds_toArray, List.set_cons_zero, List.set_cons_succ]
        refine wpAnyH_take (i := 5) (oi := ⟨_, _, _, _, _, _⟩) (v := .agg #[.slice none 0 0, .slice A5 t.outs.length e5, .int .u64 (t.nonce : Int)]) rfl (by kernel_rfl) (by kernel_rfl) (by kernel_rfl) (fun _ _ _ h => h) (yieldsIf_build21 (by rfl) 26 (.tmp 24) (.tmp 27) rfl (.int .u64 (t.nonce : Int)) (.slice A5 t.outs.length e5) _ rfl rfl (fun wq => part_own _ _ _ _ wq)) (by assumption) ?_
        try simp only [Act.put, List.setIfInBounds_toArray, List.set_cons_zero, List.set_cons_succ]
        refine wpAnyH_ready (rs := [6]) (by kernel_rfl) (by simp) ?_
        refine AllReadyH.cons rfl (fun K hK => ?_) AllReadyH.nil
        go_simp
        have V6 : Hid (Below w2.heap.size w2 (w5.alloc (.cells txZ 26))) := nxAl V5.out _
        have Z6 : Hid (Blk (w5.alloc (.cells txZ 26)) w5.heap.size 26 txZ) := heap_alloc_new w5 _
        have Y6 : Hid ((w5.alloc (.cells txZ 26)).heap.size = w5.heap.size + 1) := (by show _ = _; simp)
        refine hK.out _ (w5.alloc (.cells txZ 26)) ⟨cell_later V6.out C2.out.1, cell_later V6.out C2.out.2⟩ (fun hSn => ?_)
        clear hK K
        try simp only [Act.put, List.setIfInBounds_toArray, List.set_cons_zero, List.set_cons_succ]
        obtain ⟨q6, hq6⟩ : ∃ q, (w5.alloc (.cells txZ 26)) = q := ⟨_, rfl⟩
        rw [hq6] at hSn V6 Z6 Y6 ⊢
        have X6 : Hid (Below w5.heap.size w5 q6) := by show Below _ _ _; rw [← hq6]; exact nxAl (nxRf _) _
        clear hq6
        have hn5 : A5.map (·.block) ≠ some w5.heap.size := fun hj => by have h1 := (own_lt O5.out w5.heap.size (by rw [own_blk]; exact hj)).2; omega
        refine wpAnyH_ready (rs := [7]) (by kernel_rfl) (by simp) ?_
        refine AllReadyH.cons rfl (fun K hK => ?_) AllReadyH.nil
        refine step_store_all (o := ⟨none, _, _, _, _, _⟩) rfl 26 (.tmp 7) (.tmp 28) rfl (w5.heap.size) 26 txZ #[.slice none 0 0, .slice A5 t.outs.length e5, .int .u64 (t.nonce : Int)] rfl rfl Z6.out rfl Tryd.sizeTx (by intro v hv; simp at hv; rcases hv with rfl | rfl | rfl <;> rfl) ?_
        intro w7 h5 h6 h7
        have hlo : w2.heap.size ≤ w5.heap.size := by have := v1.out.size; have := V5.out.size; omega
        have hbz : Below w2.heap.size w2 w7 := V6.out.trans (h6.below V6.out.size (fun k hk e => by omega))
        refine hK.out _ _ ⟨cell_later hbz C2.out.1, cell_later hbz C2.out.2⟩ (fun hSn => ?_)
        clear hK K
        try simp only [Act.put, List.setIfInBounds_toArray, List.set_cons_zero, List.set_cons_succ]
        refine wpAnyH_done (by kernel_rfl) ?_ _
        go_wp2_with fail
        go_meet
        exact ⟨_, A5, e5, rfl, build_start h5 (own_keepsS (own_less (own_keepsS (S := fun _ => False) O5.out (Keeps.of_below X6.out _) (fun _ _ h => h)) v1.out.size) h6 (fun j hj e => by subst e; rw [own_blk] at hj; exact hn5 hj)) hn5 hlo hbz⟩
      · go_simp
        have V6 : Hid (Below w2.heap.size w2 (q1.alloc (.cells txZ 26))) := nxAl v1.out _
        have Z6 : Hid (Blk (q1.alloc (.cells txZ 26)) q1.heap.size 26 txZ) := heap_alloc_new q1 _
        have Y6 : Hid ((q1.alloc (.cells txZ 26)).heap.size = q1.heap.size + 1) := (by show _ = _; simp)
        refine hK.out _ (q1.alloc (.cells txZ 26)) ⟨cell_later V6.out C2.out.1, cell_later V6.out C2.out.2⟩ (fun hSn => ?_)
        clear hK K
        try simp only [Act.put, List.setIfInBounds_toArray, List.set_cons_zero, List.set_cons_succ]
        obtain ⟨q6, hq6⟩ : ∃ q, (q1.alloc (.cells txZ 26)) = q := ⟨_, rfl⟩
        rw [hq6] at hSn V6 Z6 Y6 ⊢
        have X6 : Hid (Below q1.heap.size q1 q6) := by show Below _ _ _; rw [← hq6]; exact nxAl (nxRf _) _
        clear hq6
        refine wpAnyH_ready (rs := [4]) (by kernel_rfl) (by simp) ?_
        refine AllReadyH.cons rfl (fun K hK => ?_) AllReadyH.nil
        refine step_append_seesV (o := ⟨some 27, _, _, _, _, _⟩) rfl (.const (.slice none 0 0)) (.tmp 26) 23 rfl q6.heap.size 49 j0 _ 33 40 Tryd.underlying23 hj0 hy0 hy1 hy2 rfl (by decide) (.slice none 0 0) 0 [] rfl (World.ownsRow_nil _ _ _ _) _ t.B t.outs.length t.d (outsC t.outs) rfl HOl.out (HO2.out.later V6.out) (outsC_one' t.outs) (by omega) (by omega) (Nat.le_refl _) ?_
        intro v5 w5 ho hg hv
        obtain ⟨A5, e5, rfl⟩ := own_form ho
        simp only [Nat.zero_add, List.nil_append] at ho ⊢
        have b5 : Below q6.heap.size q6 w5 := below_none hg
        have V5 : Hid (Below w2.heap.size w2 w5) := nxTr V6.out b5
        have O5 := Lib.hid ho
        clear ho hg hv
        refine hK.out _ _ ⟨cell_later V5.out C2.out.1, cell_later V5.out C2.out.2⟩ (fun hSn => ?_)
        clear hK K
        try simp only [Act.put, List.setIfInBounds_toArray, List.set_cons_zero, List.set_cons_succ]
        refine wpAnyH_take (i := 5) (oi := ⟨_, _, _, _, _, _⟩) (v := .agg #[.slice none 0 0, .slice A5 t.outs.length e5, .int .u64 (t.nonce : Int)]) rfl (by kernel_rfl) (by kernel_rfl) (by kernel_rfl) (fun _ _ _ h => h) (yieldsIf_build21 (by rfl) 26 (.tmp 24) (.tmp 27) rfl (.int .u64 (t.nonce : Int)) (.slice A5 t.outs.length e5) _ rfl rfl (fun wq => part_own _ _ _ _ wq)) (by assumption) ?_
        try simp only [Act.put, List.setIfInBounds_toArray, List.set_cons_zero, List.set_cons_succ]
        have hn5 : A5.map (·.block) ≠ some q1.heap.size := fun hj => by have h1 := (own_lt O5.out q1.heap.size (by rw [own_blk]; exact hj)).1; have := Y6.out; omega
        refine wpAnyH_ready (rs := [7]) (by kernel_rfl) (by simp) ?_
        refine AllReadyH.cons rfl (fun K hK => ?_) AllReadyH.nil
        refine step_store_all (o := ⟨none, _, _, _, _, _⟩) rfl 26 (.tmp 7) (.tmp 28) rfl (q1.heap.size) 26 txZ #[.slice none 0 0, .slice A5 t.outs.length e5, .int .u64 (t.nonce : Int)] rfl rfl (Z6.out.below b5 Z6.out.lt) rfl Tryd.sizeTx (by intro v hv; simp at hv; rcases hv with rfl | rfl | rfl <;> rfl) ?_
        intro w7 h5 h6 h7
        have hlo : w2.heap.size ≤ q1.heap.size := by have := v1.out.size; omega
        have hbz : Below w2.heap.size w2 w7 := V5.out.trans (h6.below V5.out.size (fun k hk e => by omega))
        refine hK.out _ _ ⟨cell_later hbz C2.out.1, cell_later hbz C2.out.2⟩ (fun hSn => ?_)
        clear hK K
        try simp only [Act.put, List.setIfInBounds_toArray, List.set_cons_zero, List.set_cons_succ]
        refine wpAnyH_done (by kernel_rfl) ?_ _
        go_wp2_with fail
        go_meet
        exact ⟨_, A5, e5, rfl, build_start h5 (own_keepsS (own_less O5.out V6.out.size) h6 (fun j hj e => by subst e; rw [own_blk] at hj; exact hn5 hj)) hn5 hlo hbz⟩
  case rest =>
    obtain ⟨p, A2, c2, rfl, HB⟩ := hcut
    go_wp2_with fail
    go_loopw [8] (fun iv wr => ∃ (k : Nat) (l : List InR) (A1 : Option Addr) (c1 : Nat), k ≤ t.ins.length ∧ iv = .int .i64 k ∧ Hid (BuildAt w2 wr t p k l A1 c1 A2 c2)) (fun iv _ => t.ins.length - (intOf iv).toNat)
    case atStart => exact ⟨0, [], none, 0, by omega, rfl, HB.out⟩
    case round =>
      clear HB
      obtain ⟨k, l, A1, c1, hk, rfl, HB⟩ := hrel
      have Vr : Hid (Below W0.heap.size W0 wr) := nxTr V2.out HB.out.below
      have hc0 : wr.cell? ⟨w.heap.size, 0, none⟩ = some (.slice t.A t.ins.length t.c) := (Vr.out.cell (p := ⟨w.heap.size, 0, none⟩) Hl0.out).trans (HC2.out.cell 0)
      by_cases hlt : k < t.ins.length
      · have hkn : (k : Int) < (t.ins.length : Int) := by omega
        obtain ⟨bb, off, hA, hbb, hr⟩ := insC_row HT.out.ins (fun i h => (HT.out.each i h).id) (by omega)
        have hrk := rngB (hr k hlt) (nxDrI Vr.out : Below W0.heap.size W0 wr.drew) hbb
        have hik := (HT.out.each _ (List.getElem_mem hlt)).later Vr.out
        obtain ⟨x, hx⟩ : ∃ x, t.ins[k] = x := ⟨_, rfl⟩
        rw [hx] at hrk hik
        have HX := Lib.hid hx
        have HIx := Lib.hid hik
        have HRp : Hid (wr.drew.rangeAt bb (off + k * 34) (ptC x)) := rng_prefix (by rw [← inC_pt]; exact hrk)
        have hw33 : Hid (wr.drew.cell? ⟨bb, off + k * 34 + 33, none⟩ = some (.slice x.A x.wit.length x.c)) := hrk 33 _ (inC_at hik.id).2
        have HCp : Hid (wr.drew.cell? ⟨p, 0, none⟩ = some (.slice A1 k c1)) := HB.out.blk.cell 0
        have HC0 : Hid (wr.drew.cell? ⟨w.heap.size, 0, none⟩ = some (.slice (some ⟨bb, off, none⟩) t.ins.length t.c)) := by have h := hc0; rw [hA] at h; exact h
        have HSx : Hid ((Tryd.prog.info? 44).map (·.size) = some (ptC x).length) := by show _ = _; rw [ptC_len hik.id]; exact Tryd.sizePt
        have hxm := hik.m
        have hxm2 : x.wit.length ≤ 140737488355328 := hik.m
        have hin : t.ins.length ≤ 600 := HM.out.1
        have hp := HB.out.blk.lt
        have hid := hik.id
        have HWs : Hid (SeesV wr wr.heap.size x.A (By x.wit)) := SeesV.of_sees hik.s
        obtain ⟨i0, hi0, hz0, hz1, hz2⟩ := infoP Tryd.ininfo
        obtain ⟨y0, hy0, hu0, hu1, hu2⟩ := infoP Tryd.u8inf
        rw [hA] at hc0
        clear hr hrk hik hx hA hbb
        go_wp2_with fail
        refine wp_region_K (fun W => ((W.cell? ⟨p, 0, none⟩ = some (.slice A1 k c1) ∧ W.cell? ⟨w.heap.size, 0, none⟩ = some (.slice (some ⟨bb, off, none⟩) t.ins.length t.c)) ∧ W.rangeAt bb (off + k * 34) (ptC x)) ∧ W.cell? ⟨bb, off + k * 34 + 33, none⟩ = some (.slice x.A x.wit.length x.c)) 17 (by kernel_rfl) ⟨⟨⟨HCp.out, HC0.out⟩, HRp.out⟩, hw33.out⟩ (fun hSn => ?_)
        refine wpAnyK_pure (i := 0) (oi := ⟨_, _, _, _, _, _⟩) (v := ?_) rfl (by kernel_rfl) (by kernel_rfl) (by kernel_rfl) rfl (fun _ _ _ h => h) (Or.inl ⟨by rfl, ?_⟩) hSn ?_
        rotate_left 1
        · intro W hSw
          go_simp
          try with_reducible rfl
        replace hSn := (KT.set (i := 0) (by decide)).2 hSn
        try simp only [Act.put, List.setIfInBounds_toArray, List.set_cons_zero, List.set_cons_succ]
        refine wpAnyK_chain (i := 1) [17] (oi := ⟨_, _, _, _, _, _⟩) (v := ?_) rfl (by kernel_rfl) (by kernel_rfl) (by kernel_rfl) rfl (by kernel_rfl) (by kernel_rfl) (by kernel_rfl) (fun _ _ _ h => h) (Or.inl ⟨by rfl, ?_⟩) hSn ?_
        rotate_left 1
        · intro W hSw
          try dsimp only at hSw
          obtain ⟨⟨⟨hs1, hs2⟩, _⟩, hs4⟩ := hSw
          go_simp
          try with_reducible rfl
        replace hSn := (KT.set (i := 1) (by decide)).2 hSn
        try simp only [Act.put, List.setIfInBounds_toArray, List.set_cons_zero, List.set_cons_succ]
        refine wpAnyK_pure (i := 2) (oi := ⟨_, _, _, _, _, _⟩) (v := ?_) rfl (by kernel_rfl) (by kernel_rfl) (by kernel_rfl) rfl (fun _ _ _ h => h) (Or.inl ⟨by rfl, ?_⟩) hSn ?_
        rotate_left 1
        · intro W hSw
          go_simp
          try with_reducible rfl
        replace hSn := (KT.set (i := 2) (by decide)).2 hSn
        try simp only [Act.put, List.setIfInBounds_toArray, List.set_cons_zero, List.set_cons_succ]
        refine wpAnyK_chain (i := 3) [5, 6, 7, 15, 16, 17] (oi := ⟨_, _, _, _, _, _⟩) (v := ?_) rfl (by kernel_rfl) (by kernel_rfl) (by kernel_rfl) rfl (by kernel_rfl) (by kernel_rfl) (by kernel_rfl) (fun _ _ _ h => h) (Or.inl ⟨by rfl, ?_⟩) hSn ?_
        rotate_left 1
        · intro W hSw
          try dsimp only at hSw
          obtain ⟨⟨⟨hs1, hs2⟩, _⟩, hs4⟩ := hSw
          go_simp
          try with_reducible rfl
        replace hSn := (KT.set (i := 3) (by decide)).2 hSn
        try simp only [Act.put, List.setIfInBounds_toArray, List.set_cons_zero, List.set_cons_succ]
        refine wpAnyK_pure (i := 4) (oi := ⟨_, _, _, _, _, _⟩) (v := ?_) rfl (by kernel_rfl) (by kernel_rfl) (by kernel_rfl) rfl (fun _ _ _ h => h) (Or.inl ⟨by rfl, ?_⟩) hSn ?_
        rotate_left 1
        · intro W hSw
          go_simp
          try with_reducible rfl
        replace hSn := (KT.set (i := 4) (by decide)).2 hSn
        try simp only [Act.put, List.setIfInBounds_toArray, List.set_cons_zero, List.set_cons_succ]
        refine wpAnyK_pure (i := 5) (oi := ⟨_, _, _, _, _, _⟩) (v := ?_) rfl (by kernel_rfl) (by kernel_rfl) (by kernel_rfl) rfl (fun _ _ _ h => h) (Or.inl ⟨by rfl, ?_⟩) hSn ?_
        rotate_left 1
        · intro W hSw
          go_simp
          try with_reducible rfl
        replace hSn := (KT.set (i := 5) (by decide)).2 hSn
        try simp only [Act.put, List.setIfInBounds_toArray, List.set_cons_zero, List.set_cons_succ]
        refine wpAnyK_pure (i := 6) (oi := ⟨_, _, _, _, _, _⟩) (v := ?_) rfl (by kernel_rfl) (by kernel_rfl) (by kernel_rfl) rfl (fun _ _ _ h => h) (Or.inl ⟨by rfl, ?_⟩) hSn ?_
        rotate_left 1
        · intro W hSw
          go_simp
          try with_reducible rfl
        replace hSn := (KT.set (i := 6) (by decide)).2 hSn
        try simp only [Act.put, List.setIfInBounds_toArray, List.set_cons_zero, List.set_cons_succ]
        refine wpAnyK_chain (i := 7) [15, 16, 17] (oi := ⟨_, _, _, _, _, _⟩) (v := .agg (ptC x).toArray) rfl (by kernel_rfl) (by kernel_rfl) (by kernel_rfl) rfl (by kernel_rfl) (by kernel_rfl) (by kernel_rfl) (fun _ _ _ h => h) (yieldsIf_load_mid (by rfl) 44 (.tmp 42) rfl (bb) (off + k * 34) rfl (ptC x) _ (fun W h => h.1.2) Tryd.underlying44 rfl HSx.out) hSn ?_
        replace hSn := (KT.set (i := 7) (by decide)).2 hSn
        try simp only [Act.put, List.setIfInBounds_toArray, List.set_cons_zero, List.set_cons_succ]
        refine wpAnyK_pure (i := 8) (oi := ⟨_, _, _, _, _, _⟩) (v := ?_) rfl (by kernel_rfl) (by kernel_rfl) (by kernel_rfl) rfl (fun _ _ _ h => h) (Or.inl ⟨by rfl, ?_⟩) hSn ?_
        rotate_left 1
        · intro W hSw
          go_simp
          try with_reducible rfl
        replace hSn := (KT.set (i := 8) (by decide)).2 hSn
        try simp only [Act.put, List.setIfInBounds_toArray, List.set_cons_zero, List.set_cons_succ]
        refine wpAnyK_chain (i := 9) [11, 12, 13, 14, 15, 16, 17] (oi := ⟨_, _, _, _, _, _⟩) (v := ?_) rfl (by kernel_rfl) (by kernel_rfl) (by kernel_rfl) rfl (by kernel_rfl) (by kernel_rfl) (by kernel_rfl) (fun _ _ _ h => h) (Or.inl ⟨by rfl, ?_⟩) hSn ?_
        rotate_left 1
        · intro W hSw
          try dsimp only at hSw
          obtain ⟨⟨⟨hs1, hs2⟩, _⟩, hs4⟩ := hSw
          go_simp
          try with_reducible rfl
        replace hSn := (KT.set (i := 9) (by decide)).2 hSn
        try simp only [Act.put, List.setIfInBounds_toArray, List.set_cons_zero, List.set_cons_succ]
        refine wpAnyK_pure (i := 10) (oi := ⟨_, _, _, _, _, _⟩) (v := ?_) rfl (by kernel_rfl) (by kernel_rfl) (by kernel_rfl) rfl (fun _ _ _ h => h) (Or.inl ⟨by rfl, ?_⟩) hSn ?_
        rotate_left 1
        · intro W hSw
          go_simp
          try with_reducible rfl
        replace hSn := (KT.set (i := 10) (by decide)).2 hSn
        try simp only [Act.put, List.setIfInBounds_toArray, List.set_cons_zero, List.set_cons_succ]
        refine wpAnyK_pure (i := 11) (oi := ⟨_, _, _, _, _, _⟩) (v := ?_) rfl (by kernel_rfl) (by kernel_rfl) (by kernel_rfl) rfl (fun _ _ _ h => h) (Or.inl ⟨by rfl, ?_⟩) hSn ?_
        rotate_left 1
        · intro W hSw
          go_simp
          try with_reducible rfl
        replace hSn := (KT.set (i := 11) (by decide)).2 hSn
        try simp only [Act.put, List.setIfInBounds_toArray, List.set_cons_zero, List.set_cons_succ]
        refine wpAnyK_pure (i := 12) (oi := ⟨_, _, _, _, _, _⟩) (v := ?_) rfl (by kernel_rfl) (by kernel_rfl) (by kernel_rfl) rfl (fun _ _ _ h => h) (Or.inl ⟨by rfl, ?_⟩) hSn ?_
        rotate_left 1
        · intro W hSw
          go_simp
          try with_reducible rfl
        replace hSn := (KT.set (i := 12) (by decide)).2 hSn
        try simp only [Act.put, List.setIfInBounds_toArray, List.set_cons_zero, List.set_cons_succ]
        refine wpAnyK_chain (i := 13) [14, 15, 16, 17] (oi := ⟨_, _, _, _, _, _⟩) (v := ?_) rfl (by kernel_rfl) (by kernel_rfl) (by kernel_rfl) rfl (by kernel_rfl) (by kernel_rfl) (by kernel_rfl) (fun _ _ _ h => h) (Or.inl ⟨by rfl, ?_⟩) hSn ?_
        rotate_left 1
        · intro W hSw
          try dsimp only at hSw
          obtain ⟨⟨⟨hs1, hs2⟩, _⟩, hs4⟩ := hSw
          go_simp
          try with_reducible rfl
        replace hSn := (KT.set (i := 13) (by decide)).2 hSn
        try simp only [Act.put, List.setIfInBounds_toArray, List.set_cons_zero, List.set_cons_succ]
        clear hSn
        refine wpAnyK_ready (rs := [14]) (by kernel_rfl) (by simp) ?_
        refine AllReadyK.cons rfl (fun K hK => ?_) AllReadyK.nil
        refine step_append_seesV (o := ⟨some 50, _, _, _, _, _⟩) rfl (.const (.slice none 0 0)) (.tmp 49) 30 rfl wr.heap.size 5 y0 _ 1 1 Tryd.underlying30 hy0 hu0 hu1 hu2 rfl (by decide) (.slice none 0 0) 0 [] rfl (World.ownsRow_nil _ _ _ _) _ x.A x.wit.length x.c (By x.wit) rfl (by rw [By_length, Nat.mul_one]) HWs.out (By_one' x.wit) (by omega) (by omega) (Nat.le_refl _) ?_
        intro v5 w5 ho hg hv
        obtain ⟨A5, c5, rfl⟩ := own_form ho
        simp only [Nat.zero_add, List.nil_append] at ho ⊢
        have b5 : Below wr.drew.heap.size wr.drew w5 := below_none hg
        have B5 : Hid (Below wr.heap.size wr w5) := (nxDrI (nxRf wr)).trans b5
        have O5 := Lib.hid ho
        clear ho hg hv
        refine hK.out _ _ (fun _ => ⟨⟨⟨cell_later b5 HCp.out, cell_later b5 HC0.out⟩, rngL b5 HRp.out⟩, cell_later b5 hw33.out⟩) (fun hSn => ?_)
        clear hK K
        try simp only [Act.put, List.setIfInBounds_toArray, List.set_cons_zero, List.set_cons_succ]
        refine wpAnyK_pure (i := 15) (oi := ⟨_, _, _, _, _, _⟩) (v := .agg (inC ⟨x.id, x.n, A5, c5, x.wit⟩).toArray) rfl (by kernel_rfl) (by kernel_rfl) (by kernel_rfl) rfl (fun _ _ _ h => h) (yieldsIf_build2 (by rfl) 46 (.tmp 43) (.tmp 50) rfl (.agg (ptC x).toArray) (.slice A5 x.wit.length c5) _ rfl rfl (fun wq => build_in ⟨x.id, x.n, A5, c5, x.wit⟩ hid wq)) hSn ?_
        replace hSn := (KT.set (i := 15) (by decide)).2 hSn
        try simp only [Act.put, List.setIfInBounds_toArray, List.set_cons_zero, List.set_cons_succ]
        have hl34 : (inC ⟨x.id, x.n, A5, c5, x.wit⟩).length = 34 := inC_len hid
        clear hSn
        refine wpAnyK_ready (rs := [16]) (by kernel_rfl) (by simp) ?_
        refine AllReadyK.cons rfl (fun K hK => ?_) AllReadyK.nil
        refine step_build_one (o := ⟨some 52, _, _, _, _, _⟩) rfl 22 46 (.tmp 51) rfl (inC ⟨x.id, x.n, A5, c5, x.wit⟩) _ 34 64 Tryd.underlying22 Tryd.ininfo (by decide) (by decide) hl34 rfl ?_
        have b6 : Below w5.heap.size w5 (w5.alloc (.cells (inC ⟨x.id, x.n, A5, c5, x.wit⟩).toArray 46)) := nxAl (nxRf w5) _
        have B6 : Below wr.drew.heap.size wr.drew (w5.alloc (.cells (inC ⟨x.id, x.n, A5, c5, x.wit⟩).toArray 46)) := nxTr b5 b6
        refine hK.out _ _ (fun _ => ⟨⟨⟨cell_later B6 HCp.out, cell_later B6 HC0.out⟩, rngL B6 HRp.out⟩, cell_later B6 hw33.out⟩) (fun hSn => ?_)
        clear hK K
        try simp only [Act.put, List.setIfInBounds_toArray, List.set_cons_zero, List.set_cons_succ]
        have HSi : Hid (SeesV (w5.alloc (.cells (inC ⟨x.id, x.n, A5, c5, x.wit⟩).toArray 46)) (w5.alloc (.cells (inC ⟨x.id, x.n, A5, c5, x.wit⟩).toArray 46)).heap.size (some ⟨w5.heap.size, 0, none⟩) (inC ⟨x.id, x.n, A5, c5, x.wit⟩)) := SeesV.blk (heap_alloc_new w5 _)
        have hs6 : (w5.alloc (.cells (inC ⟨x.id, x.n, A5, c5, x.wit⟩).toArray 46)).heap.size = w5.heap.size + 1 := by simp
        obtain ⟨w6, hw6⟩ : ∃ q, w5.alloc (.cells (inC ⟨x.id, x.n, A5, c5, x.wit⟩).toArray 46) = q := ⟨_, rfl⟩
        rw [hw6] at hSn HSi b6 B6 hs6
        rw [hw6]
        have HB6 := Lib.hid b6
        have HBB6 : Hid (Below wr.heap.size wr w6) := (nxDrI (nxRf wr)).trans B6
        have HOa : Hid (w6.ownsRow w2.heap.size 46 34 (.slice A1 k c1) k (insC l)) := own_keepsS (S := fun _ => False) HB.out.ins (Keeps.of_below HBB6.out _) (fun _ _ h => h)
        have hlow : w2.heap.size ≤ w6.heap.size := Nat.le_trans HB.out.below.size HBB6.out.size
        clear hw6 b6 B6
        clear hSn
        refine wpAnyK_ready (rs := [17]) (by kernel_rfl) (by simp) ?_
        refine AllReadyK.cons rfl (fun K hK => ?_) AllReadyK.nil
        refine step_append_seesV (o := ⟨some 53, _, _, _, _, _⟩) rfl (.tmp 37) (.tmp 52) 22 rfl w2.heap.size 46 i0 _ 34 64 Tryd.underlying22 hi0 hz0 hz1 hz2 rfl (by decide) (.slice A1 k c1) k (insC l) rfl HOa.out _ (some ⟨w5.heap.size, 0, none⟩) 1 1 (inC ⟨x.id, x.n, A5, c5, x.wit⟩) rfl hl34 HSi.out (fun u hu => inC_one _ u (by simpa using hu)) (by omega) (by omega) hlow ?_
        intro v7 w7 ho hg hv
        obtain ⟨A6, c6, rfl⟩ := own_form ho
        have hB7 : Blk w7 p 26 #[.slice A1 k c1, .slice A2 t.outs.length c2, .int .u64 (t.nonce : Int)] := (HB.out.blk.below HBB6.out hp).keeps (keeps_grown hg) (fun e => by rw [own_blk] at e; exact HB.out.ne1 e)
        have HN := Lib.hid (build_next HB.out hlt x HX.out HIx.out O5.out B5.out HB6.out ho (by rw [own_blk] at hg; exact hg) (by rw [own_blk, own_blk] at hv; exact hv))
        have c7 : w7.cell? ⟨p, 0, none⟩ = some (.slice A1 k c1) := hB7.cell 0
        have f7 : w7.frozen? ⟨p, 0, none⟩ = false := hB7.frozen 0
        clear ho hg hv hB7
        refine hK.out _ _ (fun h => absurd h (by decide +kernel)) (fun hSn => ?_)
        clear hK K
        try simp only [Act.put, List.setIfInBounds_toArray, List.set_cons_zero, List.set_cons_succ]
        refine wpAnyK_pure (i := 18) (oi := ⟨_, _, _, _, _, _⟩) (v := ?_) rfl (by kernel_rfl) (by kernel_rfl) (by kernel_rfl) rfl (fun _ _ _ h => h) (Or.inl ⟨by rfl, ?_⟩) hSn ?_
        rotate_left 1
        · intro W hSw
          go_simp
          try with_reducible rfl
        replace hSn := (KT.set (i := 18) (by decide)).2 hSn
        try simp only [Act.put, List.setIfInBounds_toArray, List.set_cons_zero, List.set_cons_succ]
        clear hSn
        refine wpAnyK_ready (rs := [19]) (by kernel_rfl) (by simp) ?_
        refine AllReadyK.cons rfl (fun K hK => ?_) AllReadyK.nil
        go_simp
        skip
        refine hK.out _ _ (fun h => absurd h (by decide +kernel)) (fun hSn => ?_)
        clear hK K
        try simp only [Act.put, List.setIfInBounds_toArray, List.set_cons_zero, List.set_cons_succ]
        refine wpAnyK_done (by kernel_rfl) ?_ _
        clear hSn c7 f7 HOa HSi O5 B5 HB6 HBB6
        go_wp2_with fail
        go_roundw
        case rel => exact ⟨k + 1, _, A6, c6, by omega, by go_num, HN.out⟩
        case measure => simp [intOf] <;> omega
      · obtain rfl : k = t.ins.length := by omega
        obtain ⟨v, hBt, hPv, hvi, hvo⟩ := HB.out.built HT.out
        have HBt := Lib.hid hBt
        have HPv := Lib.hid hPv
        have HVl : Hid (v.ins.length ≤ 100000 ∧ v.outs.length ≤ 100000) := ⟨by rw [hvi]; omega, by rw [hvo]; omega⟩
        clear hBt hPv hvi hvo hlt HB
        go_upto_region 9 with (first
          | ((with_reducible show wpList _ _ _ (⟨some 55, _, _, _, _, _⟩ :: _) _ _); refine wpList_load_mid rfl 26 (.tmp 7) rfl p 0 rfl (txC v) _ (blkR HBt.out.blk) Tryd.underlying26 rfl (HZTl.out v) ?_)
          | (go_at_call 17; refine (copy_any wr v HBt.out.ok HVl.out).mono ?_; unfold CopyPost; rintro e w5 ⟨y, rfl, hpy, hy, hyo, hb⟩; have HPy := Lib.hid (hpy.trans HPv.out); have HY := Lib.hid hy; have HYo := Lib.hid hyo; have V5 : Hid (Below wr.heap.size wr w5) := hb; clear hpy hy hyo hb)
          | ((with_reducible show wpList _ _ _ (⟨none, .store 26 (.tmp 9) _, _, _, _, _⟩ :: _) _ _); (show wpList _ _ _ _ _ (w5.alloc (.cells txZ 26))); refine wpList_store_all rfl 26 (.tmp 9) (.tmp 56) rfl w5.heap.size 26 txZ (txC y).toArray rfl rfl (heap_alloc_new w5 _) rfl (HZT0.out y) (txC_one y) ?_; intro w6 h5 h6 h7; have B6 := Lib.hid h5; have X6 : Hid (Below w5.heap.size w5 w6) := belowFresh h6; have V6 : Hid (Below wr.heap.size wr w6) := nxTr V5.out X6.out; clear h5 h6 h7))
        have HTn := Lib.hid (built_turn HBt.out)
        have HTd : Hid (Turned (SoftP v) (HardF v p) (fun b => w2.heap.size ≤ b ∧ b < wr.heap.size) w6 w6) := (built_turned HBt.out).move HTn.out (Nat.le_refl _) V6.out
        have HY6 : Hid (TxOk w6 y) := HY.out.later X6.out
        have L5 : Hid (wr.heap.size ≤ w5.heap.size ∧ w5.heap.size < w6.heap.size) := ⟨V5.out.size, B6.out.lt⟩
        have hvi : v.ins.length ≤ 100000 := HVl.out.1
        have hvo : v.outs.length ≤ 100000 := HVl.out.2
        have V06 : Hid (Below W0.heap.size W0 w6) := nxTr Vr.out V6.out
        have L2r : Hid (W0.heap.size ≤ w2.heap.size) := V2.out.size
        clear hc0 hk
        obtain ⟨wc, hwc⟩ : ∃ q : World, q = wr := ⟨_, rfl⟩
        subst hwc
        go_wp2_with fail
        go_loopw [10] (fun iv wr => ∃ i : Nat, i ≤ v.ins.length ∧ iv = .int .i64 i ∧ Hid (Turned (SoftP v) (HardF v p) (fun b => w2.heap.size ≤ b ∧ b < wc.heap.size) w6 wr)) (fun iv _ => v.ins.length - (intOf iv).toNat)
        case atStart => exact ⟨0, by omega, rfl, HTd.out⟩
        case round =>
          clear HTd
          obtain ⟨i, hi, rfl, HTd⟩ := hrel
          have hc0 : wr.cell? ⟨p, 0, none⟩ = some (.slice v.A v.ins.length v.c) := HTd.out.hard p 0 _ (.inl ⟨rfl, .inl ⟨rfl, rfl⟩⟩)
          by_cases hil : i < v.ins.length
          · have hin : (i : Int) < (v.ins.length : Int) := by omega
            obtain ⟨g, hgA, hgP, hgF⟩ := built_row HBt.out hil
            have HgA := Lib.hid hgA
            have HgP := Lib.hid hgP
            have HgF := Lib.hid hgF
            obtain ⟨⟨z, hz⟩, hzf⟩ := HTd.out.soft g (i * 34 + 32) .u32 hgP
            have hset := fun y : Int => HTd.out.set HTn.out hgP y
            have HSet := Lib.hid hset
            rw [hgA] at hc0
            clear hgA hgP hgF hset
            go_wp2_with fail
            go_loopw [11] (fun kv wr => ∃ k : Nat, k ≤ v.ins[i].wit.length ∧ kv = .int .i64 k ∧ Hid (Turned (SoftP v) (HardF v p) (fun b => w2.heap.size ≤ b ∧ b < wc.heap.size) w6 wr)) (fun kv _ => v.ins[i].wit.length - (intOf kv).toNat)
            case atStart => exact ⟨0, by omega, rfl, HSet.out _⟩
            case round =>
              clear hc0 hz hzf HTd HSet
              obtain ⟨k, hk, rfl, HTd⟩ := hrel
              have hc0 : wr.cell? ⟨p, 0, none⟩ = some (.slice (some ⟨g, 0, none⟩) v.ins.length v.c) := by have h := HTd.out.hard p 0 _ (.inl ⟨rfl, .inl ⟨rfl, rfl⟩⟩); rw [HgA.out] at h; exact h
              have hc1 : wr.cell? ⟨g, i * 34 + 33, none⟩ = some (.slice v.ins[i].A v.ins[i].wit.length v.ins[i].c) := HTd.out.hard g _ _ HgF.out
              have hwm := (HBt.out.each _ (List.getElem_mem hil)).m
              by_cases hkl : k < v.ins[i].wit.length
              · have hkn : (k : Int) < (v.ins[i].wit.length : Int) := by omega
                obtain ⟨b1, hbA, hbP⟩ := built_wit HBt.out hil hkl
                obtain ⟨⟨z, hz⟩, hzf⟩ := HTd.out.soft b1 k .u8 hbP
                have hset := fun y : Int => HTd.out.set HTn.out hbP y
                have HSet := Lib.hid hset
                rw [hbA] at hc1
                obtain ⟨n1, hn1⟩ : ∃ n1, v.ins[i].wit.length = n1 := ⟨_, rfl⟩
                obtain ⟨c1', hc1'⟩ : ∃ n1, v.ins[i].c = n1 := ⟨_, rfl⟩
                rw [hn1] at hk hkn hc1 hkl hwm ⊢
                rw [hc1'] at hc1
                clear hbA hbP hset hn1 hc1'
                go_wp2_with fail
                go_roundw
                case rel => exact ⟨k + 1, by omega, by go_num, HSet.out _⟩
                case measure => simp [intOf] <;> omega
              · have hkk : k = v.ins[i].wit.length := by omega
                obtain ⟨n1, hn1⟩ : ∃ n1, v.ins[i].wit.length = n1 := ⟨_, rfl⟩
                rw [hn1] at hk hkl hkk hc1 hwm
                subst hkk
                clear hn1
                go_wp2_with fail
                go_roundw
                case rel => exact ⟨i + 1, by omega, by go_num, HTd.out⟩
                case measure => simp [intOf] <;> omega
          · obtain rfl : i = v.ins.length := by omega
            go_wp2_with fail
            clear hc0
            go_loopw [12] (fun iv wr => ∃ i : Nat, i ≤ v.outs.length ∧ iv = .int .i64 i ∧ Hid (Turned (SoftP v) (HardF v p) (fun b => w2.heap.size ≤ b ∧ b < wc.heap.size) w6 wr)) (fun iv _ => v.outs.length - (intOf iv).toNat)
            case atStart => exact ⟨0, by omega, rfl, HTd.out⟩
            case round =>
              clear HTd
              obtain ⟨i, hi, rfl, HTd⟩ := hrel
              have hc1 : wr.cell? ⟨p, 1, none⟩ = some (.slice v.B v.outs.length v.d) := HTd.out.hard p 1 _ (.inl ⟨rfl, .inr ⟨rfl, rfl⟩⟩)
              by_cases hil : i < v.outs.length
              · have hin : (i : Int) < (v.outs.length : Int) := by omega
                obtain ⟨g, hgA, hgP⟩ := built_out HBt.out hil
                obtain ⟨⟨z, hz⟩, hzf⟩ := HTd.out.soft g (i * 33) .u64 hgP
                have hset := fun y : Int => HTd.out.set HTn.out hgP y
                have HSet := Lib.hid hset
                rw [hgA] at hc1
                clear hgA hgP hset
                go_wp2_with fail
                go_roundw
                case rel => exact ⟨i + 1, by omega, by go_num, HSet.out _⟩
                case measure => simp [intOf] <;> omega
              · obtain rfl : i = v.outs.length := by omega
                go_wp2_with fail
                clear hc1
                have Kf := HTd.out.keeps
                have hVf : Below W0.heap.size W0 wr := V06.out.trans (Kf.below V06.out.size (fun j hj hS => by have := hS.1; have := L2r.out; omega))
                have hYf : TxOk wr y := HY6.out.keepsS Kf (HYo.out.mono (fun b hb => hb.2))
                have hYr : wr.rangeAt w5.heap.size 0 (txC y) := blkR (B6.out.keeps Kf (fun hS => by have := hS.2; have := L5.out.1; omega))
                obtain ⟨r, hr⟩ : ∃ r : Bool, (r = true ↔ txP t = txP u) := by classical exact ⟨decide (txP t = txP u), by simp⟩
                have HB := Lib.hid hr
                obtain ⟨s, hs⟩ : ∃ s, spendsB t u = s := ⟨_, rfl⟩
                have HSp := Lib.hid hs
                obtain ⟨a, ha⟩ : ∃ a, outT t = a := ⟨_, rfl⟩
                have HA := Lib.hid ha
                obtain ⟨x, hx⟩ : ∃ x, shaB b = x := ⟨_, rfl⟩
                have HXs := Lib.hid hx
                have HXl : Hid (x.length = 32) := by show _ = _; rw [← hx]; exact shaB_length b
                have heq : ∀ wq, (binOp .eql 39 (.agg (By x).toArray) (.agg (By x).toArray)).run Tryd.prog wq = .ok (.bool true) wq := fun wq => by rw [run_eql_bytes 32 39 5 Tryd.underlying39 Tryd.underlying5 Tryd.u8sz x x HXl.out HXl.out, beq_self_eq_true]
                have HMt : Hid (t.ins.length ≤ 100000) := by show _ ≤ _; have := HM.out.1; omega
                have HLb : Hid (b.length ≤ 1048576) := by show _ ≤ _; have := HLn.out; omega
                have V0f : Hid (Below W0.heap.size W0 wr.drew) := nxDrI hVf
                have YOk : Hid (TxOk wr.drew y) := hYf.later (nxDrI (nxRf wr))
                have YR : Hid (wr.drew.rangeAt w5.heap.size 0 (txC y)) := hYr
                clear Kf hVf hYf hYr hr hs ha hx HTd HTn HBt HYo HY6 B6 HY HVl
                refine wp_region_held_drew (S := fun W => (W.rangeAt w.heap.size 0 (txC t) ∧ W.rangeAt (w.heap.size + 1) 0 (txC u)) ∧ W.rangeAt w5.heap.size 0 (txC y)) (by kernel_rfl) ⟨⟨rngB HR.out V0f.out Hl0.out, rngB HQ.out V0f.out Hl1.out⟩, YR.out⟩ (fun hHeld => ?_)
                obtain ⟨wf, hwf⟩ : ∃ q, wr.drew = q := ⟨_, rfl⟩
                rw [hwf] at V0f YOk YR hHeld ⊢
                clear hwf
                have N0 : Hid (Below wf.heap.size wf wf) := nxRf wf
                have Ux0 : Hid (Below W0.heap.size W0 wf) := V0f.out
                refine wpAnyH_take (i := 0) (oi := ⟨_, _, _, _, _, _⟩) (v := .agg (txC y).toArray) rfl (by kernel_rfl) (by kernel_rfl) (by kernel_rfl) (fun _ _ _ h => h) (yieldsIf_load_mid (by rfl) 26 (.tmp 9) rfl (w5.heap.size) (0) rfl (txC y) _ (fun W h => h.2) Tryd.underlying26 rfl (HZTl.out y)) (by assumption) ?_
                try simp only [Act.put, List.setIfInBounds_toArray, List.set_cons_zero, List.set_cons_succ]
                refine wpAnyH_take (i := 1) (oi := ⟨_, _, _, _, _, _⟩) (v := .agg (txC t).toArray) rfl (by kernel_rfl) (by kernel_rfl) (by kernel_rfl) (fun _ _ _ h => h) (yieldsIf_load_mid (by rfl) 26 (.tmp 3) rfl (w.heap.size) (0) rfl (txC t) _ (fun W h => h.1.1) Tryd.underlying26 rfl (HZTl.out t)) (by assumption) ?_
                try simp only [Act.put, List.setIfInBounds_toArray, List.set_cons_zero, List.set_cons_succ]
                refine wpAnyH_ready (rs := [2]) (by kernel_rfl) (by simp) ?_
                refine AllReadyH.cons rfl (fun K hK => ?_) AllReadyH.nil
                go_simp
                go_at_call 18
                refine (rsame_any wf y t (YOk.out.later N0.out) (HT.out.later Ux0.out)).mono ?_
                unfold SamePost
                rintro e f1 ⟨z, rfl, hz, hb⟩
                obtain rfl : z = true := hz.2 HPy.out
                clear hz
                have Ux1 : Hid (Below W0.heap.size W0 f1) := nxTr Ux0.out hb
                have N1 : Hid (Below wf.heap.size wf f1) := nxTr N0.out hb
                clear hb
                refine hK.out _ _ ⟨⟨rngB HR.out Ux1.out Hl0.out, rngB HQ.out Ux1.out Hl1.out⟩, rngL N1.out YR.out⟩ (fun hSn => ?_)
                clear hK K
                try simp only [Act.put, List.setIfInBounds_toArray, List.set_cons_zero, List.set_cons_succ]
                refine wpAnyH_take (i := 3) (oi := ⟨_, _, _, _, _, _⟩) (v := ?_) rfl (by kernel_rfl) (by kernel_rfl) (by kernel_rfl) (fun _ _ _ h => h) (Or.inl ⟨by rfl, ?_⟩) (by assumption) ?_
                rotate_left 1
                · intro W hSw
                  try dsimp only at hSw
                  go_simp
                  try with_reducible rfl
                try simp only [Act.put, List.setIfInBounds_toArray, List.set_cons_zero, List.set_cons_succ]
                refine wpAnyH_take (i := 4) (oi := ⟨_, _, _, _, _, _⟩) (v := .agg (txC t).toArray) rfl (by kernel_rfl) (by kernel_rfl) (by kernel_rfl) (fun _ _ _ h => h) (yieldsIf_load_mid (by rfl) 26 (.tmp 3) rfl (w.heap.size) (0) rfl (txC t) _ (fun W h => h.1.1) Tryd.underlying26 rfl (HZTl.out t)) (by assumption) ?_
                try simp only [Act.put, List.setIfInBounds_toArray, List.set_cons_zero, List.set_cons_succ]
                refine wpAnyH_take (i := 5) (oi := ⟨_, _, _, _, _, _⟩) (v := .agg (txC u).toArray) rfl (by kernel_rfl) (by kernel_rfl) (by kernel_rfl) (fun _ _ _ h => h) (yieldsIf_load_mid (by rfl) 26 (.tmp 4) rfl (w.heap.size + 1) (0) rfl (txC u) _ (fun W h => h.1.2) Tryd.underlying26 rfl (HZTl.out u)) (by assumption) ?_
                try simp only [Act.put, List.setIfInBounds_toArray, List.set_cons_zero, List.set_cons_succ]
                refine wpAnyH_take (i := 7) (oi := ⟨_, _, _, _, _, _⟩) (v := .agg (txC t).toArray) rfl (by kernel_rfl) (by kernel_rfl) (by kernel_rfl) (fun _ _ _ h => h) (yieldsIf_load_mid (by rfl) 26 (.tmp 3) rfl (w.heap.size) (0) rfl (txC t) _ (fun W h => h.1.1) Tryd.underlying26 rfl (HZTl.out t)) (by assumption) ?_
                try simp only [Act.put, List.setIfInBounds_toArray, List.set_cons_zero, List.set_cons_succ]
                refine wpAnyH_take (i := 8) (oi := ⟨_, _, _, _, _, _⟩) (v := .agg (txC u).toArray) rfl (by kernel_rfl) (by kernel_rfl) (by kernel_rfl) (fun _ _ _ h => h) (yieldsIf_load_mid (by rfl) 26 (.tmp 4) rfl (w.heap.size + 1) (0) rfl (txC u) _ (fun W h => h.1.2) Tryd.underlying26 rfl (HZTl.out u)) (by assumption) ?_
                try simp only [Act.put, List.setIfInBounds_toArray, List.set_cons_zero, List.set_cons_succ]
                refine wpAnyH_ready (rs := [6]) (by kernel_rfl) (by simp) ?_
                refine AllReadyH.cons rfl (fun K hK => ?_) AllReadyH.nil
                go_simp
                go_at_call 19
                refine (same_any f1 t u (HT.out.later Ux1.out) (HU.out.later Ux1.out)).mono ?_
                unfold SamePost
                rintro e f2 ⟨z, rfl, hz, hb⟩
                obtain rfl : r = z := same_val HB.out hz
                clear hz
                have Ux2 : Hid (Below W0.heap.size W0 f2) := nxTr Ux1.out hb
                have N2 : Hid (Below wf.heap.size wf f2) := nxTr N1.out hb
                clear hb
                refine hK.out _ _ ⟨⟨rngB HR.out Ux2.out Hl0.out, rngB HQ.out Ux2.out Hl1.out⟩, rngL N2.out YR.out⟩ (fun hSn => ?_)
                clear hK K
                try simp only [Act.put, List.setIfInBounds_toArray, List.set_cons_zero, List.set_cons_succ]
                refine wpAnyH_ready (rs := [9]) (by kernel_rfl) (by simp) ?_
                refine AllReadyH.cons rfl (fun K hK => ?_) AllReadyH.nil
                go_simp
                go_at_call 18
                refine (rsame_any f2 t u (HT.out.later Ux2.out) (HU.out.later Ux2.out)).mono ?_
                unfold SamePost
                rintro e f3 ⟨z, rfl, hz, hb⟩
                obtain rfl : r = z := same_val HB.out hz
                clear hz
                have Ux3 : Hid (Below W0.heap.size W0 f3) := nxTr Ux2.out hb
                have N3 : Hid (Below wf.heap.size wf f3) := nxTr N2.out hb
                clear hb
                refine hK.out _ _ ⟨⟨rngB HR.out Ux3.out Hl0.out, rngB HQ.out Ux3.out Hl1.out⟩, rngL N3.out YR.out⟩ (fun hSn => ?_)
                clear hK K
                try simp only [Act.put, List.setIfInBounds_toArray, List.set_cons_zero, List.set_cons_succ]
                refine wpAnyH_take (i := 10) (oi := ⟨_, _, _, _, _, _⟩) (v := .bool true) rfl (by kernel_rfl) (by kernel_rfl) (by kernel_rfl) (fun _ _ _ h => h) (Or.inl ⟨by rfl, ?_⟩) (by assumption) ?_
                · intro W hSw
                  try dsimp only at hSw
                  go_simp
                  try rfl
                try simp only [Act.put, List.setIfInBounds_toArray, List.set_cons_zero, List.set_cons_succ]
                refine wpAnyH_take (i := 11) (oi := ⟨_, _, _, _, _, _⟩) (v := ?_) rfl (by kernel_rfl) (by kernel_rfl) (by kernel_rfl) (fun _ _ _ h => h) (Or.inl ⟨by rfl, ?_⟩) (by assumption) ?_
                rotate_left 1
                · intro W hSw
                  try dsimp only at hSw
                  go_simp
                  try with_reducible rfl
                try simp only [Act.put, List.setIfInBounds_toArray, List.set_cons_zero, List.set_cons_succ]
                refine wpAnyH_take (i := 12) (oi := ⟨_, _, _, _, _, _⟩) (v := ?_) rfl (by kernel_rfl) (by kernel_rfl) (by kernel_rfl) (fun _ _ _ h => h) (Or.inl ⟨by rfl, ?_⟩) (by assumption) ?_
                rotate_left 1
                · intro W hSw
                  try dsimp only at hSw
                  go_simp
                  try with_reducible rfl
                try simp only [Act.put, List.setIfInBounds_toArray, List.set_cons_zero, List.set_cons_succ]
                refine wpAnyH_take (i := 13) (oi := ⟨_, _, _, _, _, _⟩) (v := .agg (txC t).toArray) rfl (by kernel_rfl) (by kernel_rfl) (by kernel_rfl) (fun _ _ _ h => h) (yieldsIf_load_mid (by rfl) 26 (.tmp 3) rfl (w.heap.size) (0) rfl (txC t) _ (fun W h => h.1.1) Tryd.underlying26 rfl (HZTl.out t)) (by assumption) ?_
                try simp only [Act.put, List.setIfInBounds_toArray, List.set_cons_zero, List.set_cons_succ]
                refine wpAnyH_take (i := 14) (oi := ⟨_, _, _, _, _, _⟩) (v := .agg (txC t).toArray) rfl (by kernel_rfl) (by kernel_rfl) (by kernel_rfl) (fun _ _ _ h => h) (yieldsIf_load_mid (by rfl) 26 (.tmp 3) rfl (w.heap.size) (0) rfl (txC t) _ (fun W h => h.1.1) Tryd.underlying26 rfl (HZTl.out t)) (by assumption) ?_
                try simp only [Act.put, List.setIfInBounds_toArray, List.set_cons_zero, List.set_cons_succ]
                refine wpAnyH_ready (rs := [15]) (by kernel_rfl) (by simp) ?_
                refine AllReadyH.cons rfl (fun K hK => ?_) AllReadyH.nil
                go_simp
                go_at_call 19
                refine (same_any f3 t t (HT.out.later Ux3.out) (HT.out.later Ux3.out)).mono ?_
                unfold SamePost
                rintro e f4 ⟨z, rfl, hz, hb⟩
                obtain rfl : z = true := hz.2 rfl
                clear hz
                have Ux4 : Hid (Below W0.heap.size W0 f4) := nxTr Ux3.out hb
                have N4 : Hid (Below wf.heap.size wf f4) := nxTr N3.out hb
                clear hb
                refine hK.out _ _ ⟨⟨rngB HR.out Ux4.out Hl0.out, rngB HQ.out Ux4.out Hl1.out⟩, rngL N4.out YR.out⟩ (fun hSn => ?_)
                clear hK K
                try simp only [Act.put, List.setIfInBounds_toArray, List.set_cons_zero, List.set_cons_succ]
                refine wpAnyH_take (i := 16) (oi := ⟨_, _, _, _, _, _⟩) (v := ?_) rfl (by kernel_rfl) (by kernel_rfl) (by kernel_rfl) (fun _ _ _ h => h) (Or.inl ⟨by rfl, ?_⟩) (by assumption) ?_
                rotate_left 1
                · intro W hSw
                  try dsimp only at hSw
                  go_simp
                  try with_reducible rfl
                try simp only [Act.put, List.setIfInBounds_toArray, List.set_cons_zero, List.set_cons_succ]
                refine wpAnyH_take (i := 17) (oi := ⟨_, _, _, _, _, _⟩) (v := ?_) rfl (by kernel_rfl) (by kernel_rfl) (by kernel_rfl) (fun _ _ _ h => h) (Or.inl ⟨by rfl, ?_⟩) (by assumption) ?_
                rotate_left 1
                · intro W hSw
                  try dsimp only at hSw
                  go_simp
                  try with_reducible rfl
                try simp only [Act.put, List.setIfInBounds_toArray, List.set_cons_zero, List.set_cons_succ]
                refine wpAnyH_take (i := 18) (oi := ⟨_, _, _, _, _, _⟩) (v := .agg (txC t).toArray) rfl (by kernel_rfl) (by kernel_rfl) (by kernel_rfl) (fun _ _ _ h => h) (yieldsIf_load_mid (by rfl) 26 (.tmp 3) rfl (w.heap.size) (0) rfl (txC t) _ (fun W h => h.1.1) Tryd.underlying26 rfl (HZTl.out t)) (by assumption) ?_
                try simp only [Act.put, List.setIfInBounds_toArray, List.set_cons_zero, List.set_cons_succ]
                refine wpAnyH_take (i := 19) (oi := ⟨_, _, _, _, _, _⟩) (v := .agg (txC u).toArray) rfl (by kernel_rfl) (by kernel_rfl) (by kernel_rfl) (fun _ _ _ h => h) (yieldsIf_load_mid (by rfl) 26 (.tmp 4) rfl (w.heap.size + 1) (0) rfl (txC u) _ (fun W h => h.1.2) Tryd.underlying26 rfl (HZTl.out u)) (by assumption) ?_
                try simp only [Act.put, List.setIfInBounds_toArray, List.set_cons_zero, List.set_cons_succ]
                refine wpAnyH_take (i := 21) (oi := ⟨_, _, _, _, _, _⟩) (v := .agg (txC t).toArray) rfl (by kernel_rfl) (by kernel_rfl) (by kernel_rfl) (fun _ _ _ h => h) (yieldsIf_load_mid (by rfl) 26 (.tmp 3) rfl (w.heap.size) (0) rfl (txC t) _ (fun W h => h.1.1) Tryd.underlying26 rfl (HZTl.out t)) (by assumption) ?_
                try simp only [Act.put, List.setIfInBounds_toArray, List.set_cons_zero, List.set_cons_succ]
                refine wpAnyH_take (i := 22) (oi := ⟨_, _, _, _, _, _⟩) (v := .agg (txC u).toArray) rfl (by kernel_rfl) (by kernel_rfl) (by kernel_rfl) (fun _ _ _ h => h) (yieldsIf_load_mid (by rfl) 26 (.tmp 4) rfl (w.heap.size + 1) (0) rfl (txC u) _ (fun W h => h.1.2) Tryd.underlying26 rfl (HZTl.out u)) (by assumption) ?_
                try simp only [Act.put, List.setIfInBounds_toArray, List.set_cons_zero, List.set_cons_succ]
                refine wpAnyH_ready (rs := [20]) (by kernel_rfl) (by simp) ?_
                refine AllReadyH.cons rfl (fun K hK => ?_) AllReadyH.nil
                go_simp
                go_at_call 20
                refine (spends_any f4 t u (HT.out.later Ux4.out) (HU.out.later Ux4.out) HMt.out).mono ?_
                rw [HSp.out]
                rintro e f5 ⟨rfl, hb⟩
                have Ux5 : Hid (Below W0.heap.size W0 f5) := nxTr Ux4.out hb
                have N5 : Hid (Below wf.heap.size wf f5) := nxTr N4.out hb
                clear hb
                refine hK.out _ _ ⟨⟨rngB HR.out Ux5.out Hl0.out, rngB HQ.out Ux5.out Hl1.out⟩, rngL N5.out YR.out⟩ (fun hSn => ?_)
                clear hK K
                try simp only [Act.put, List.setIfInBounds_toArray, List.set_cons_zero, List.set_cons_succ]
                refine wpAnyH_ready (rs := [23]) (by kernel_rfl) (by simp) ?_
                refine AllReadyH.cons rfl (fun K hK => ?_) AllReadyH.nil
                go_simp
                go_at_call 21
                refine (rspends_any f5 t u (HT.out.later Ux5.out) (HU.out.later Ux5.out)).mono ?_
                rw [HSp.out]
                rintro e f6 ⟨rfl, hb⟩
                have Ux6 : Hid (Below W0.heap.size W0 f6) := nxTr Ux5.out hb
                have N6 : Hid (Below wf.heap.size wf f6) := nxTr N5.out hb
                clear hb
                refine hK.out _ _ ⟨⟨rngB HR.out Ux6.out Hl0.out, rngB HQ.out Ux6.out Hl1.out⟩, rngL N6.out YR.out⟩ (fun hSn => ?_)
                clear hK K
                try simp only [Act.put, List.setIfInBounds_toArray, List.set_cons_zero, List.set_cons_succ]
                refine wpAnyH_take (i := 24) (oi := ⟨_, _, _, _, _, _⟩) (v := .bool true) rfl (by kernel_rfl) (by kernel_rfl) (by kernel_rfl) (fun _ _ _ h => h) (Or.inl ⟨by rfl, ?_⟩) (by assumption) ?_
                · intro W hSw
                  try dsimp only at hSw
                  go_simp
                  try rfl
                try simp only [Act.put, List.setIfInBounds_toArray, List.set_cons_zero, List.set_cons_succ]
                refine wpAnyH_take (i := 25) (oi := ⟨_, _, _, _, _, _⟩) (v := ?_) rfl (by kernel_rfl) (by kernel_rfl) (by kernel_rfl) (fun _ _ _ h => h) (Or.inl ⟨by rfl, ?_⟩) (by assumption) ?_
                rotate_left 1
                · intro W hSw
                  try dsimp only at hSw
                  go_simp
                  try with_reducible rfl
                try simp only [Act.put, List.setIfInBounds_toArray, List.set_cons_zero, List.set_cons_succ]
                refine wpAnyH_take (i := 26) (oi := ⟨_, _, _, _, _, _⟩) (v := ?_) rfl (by kernel_rfl) (by kernel_rfl) (by kernel_rfl) (fun _ _ _ h => h) (Or.inl ⟨by rfl, ?_⟩) (by assumption) ?_
                rotate_left 1
                · intro W hSw
                  try dsimp only at hSw
                  go_simp
                  try with_reducible rfl
                try simp only [Act.put, List.setIfInBounds_toArray, List.set_cons_zero, List.set_cons_succ]
                refine wpAnyH_take (i := 27) (oi := ⟨_, _, _, _, _, _⟩) (v := .agg (txC t).toArray) rfl (by kernel_rfl) (by kernel_rfl) (by kernel_rfl) (fun _ _ _ h => h) (yieldsIf_load_mid (by rfl) 26 (.tmp 3) rfl (w.heap.size) (0) rfl (txC t) _ (fun W h => h.1.1) Tryd.underlying26 rfl (HZTl.out t)) (by assumption) ?_
                try simp only [Act.put, List.setIfInBounds_toArray, List.set_cons_zero, List.set_cons_succ]
                refine wpAnyH_take (i := 29) (oi := ⟨_, _, _, _, _, _⟩) (v := .agg (txC t).toArray) rfl (by kernel_rfl) (by kernel_rfl) (by kernel_rfl) (fun _ _ _ h => h) (yieldsIf_load_mid (by rfl) 26 (.tmp 3) rfl (w.heap.size) (0) rfl (txC t) _ (fun W h => h.1.1) Tryd.underlying26 rfl (HZTl.out t)) (by assumption) ?_
                try simp only [Act.put, List.setIfInBounds_toArray, List.set_cons_zero, List.set_cons_succ]
                refine wpAnyH_ready (rs := [28]) (by kernel_rfl) (by simp) ?_
                refine AllReadyH.cons rfl (fun K hK => ?_) AllReadyH.nil
                go_simp
                go_at_call 22
                refine (out_any f6 t (HT.out.later Ux6.out)).mono ?_
                rw [HA.out]
                rintro e f7 ⟨rfl, hb⟩
                have Ux7 : Hid (Below W0.heap.size W0 f7) := nxTr Ux6.out hb
                have N7 : Hid (Below wf.heap.size wf f7) := nxTr N6.out hb
                clear hb
                refine hK.out _ _ ⟨⟨rngB HR.out Ux7.out Hl0.out, rngB HQ.out Ux7.out Hl1.out⟩, rngL N7.out YR.out⟩ (fun hSn => ?_)
                clear hK K
                try simp only [Act.put, List.setIfInBounds_toArray, List.set_cons_zero, List.set_cons_succ]
                refine wpAnyH_ready (rs := [30]) (by kernel_rfl) (by simp) ?_
                refine AllReadyH.cons rfl (fun K hK => ?_) AllReadyH.nil
                go_simp
                go_at_call 23
                refine (rout_any f7 t (HT.out.later Ux7.out)).mono ?_
                rw [HA.out]
                rintro e f8 ⟨rfl, hb⟩
                have Ux8 : Hid (Below W0.heap.size W0 f8) := nxTr Ux7.out hb
                have N8 : Hid (Below wf.heap.size wf f8) := nxTr N7.out hb
                clear hb
                refine hK.out _ _ ⟨⟨rngB HR.out Ux8.out Hl0.out, rngB HQ.out Ux8.out Hl1.out⟩, rngL N8.out YR.out⟩ (fun hSn => ?_)
                clear hK K
                try simp only [Act.put, List.setIfInBounds_toArray, List.set_cons_zero, List.set_cons_succ]
                refine wpAnyH_take (i := 31) (oi := ⟨_, _, _, _, _, _⟩) (v := .bool true) rfl (by kernel_rfl) (by kernel_rfl) (by kernel_rfl) (fun _ _ _ h => h) (Or.inl ⟨by rfl, ?_⟩) (by assumption) ?_
                · intro W hSw
                  try dsimp only at hSw
                  go_simp
                  try rfl
                try simp only [Act.put, List.setIfInBounds_toArray, List.set_cons_zero, List.set_cons_succ]
                refine wpAnyH_take (i := 32) (oi := ⟨_, _, _, _, _, _⟩) (v := ?_) rfl (by kernel_rfl) (by kernel_rfl) (by kernel_rfl) (fun _ _ _ h => h) (Or.inl ⟨by rfl, ?_⟩) (by assumption) ?_
                rotate_left 1
                · intro W hSw
                  try dsimp only at hSw
                  go_simp
                  try with_reducible rfl
                try simp only [Act.put, List.setIfInBounds_toArray, List.set_cons_zero, List.set_cons_succ]
                refine wpAnyH_take (i := 33) (oi := ⟨_, _, _, _, _, _⟩) (v := ?_) rfl (by kernel_rfl) (by kernel_rfl) (by kernel_rfl) (fun _ _ _ h => h) (Or.inl ⟨by rfl, ?_⟩) (by assumption) ?_
                rotate_left 1
                · intro W hSw
                  try dsimp only at hSw
                  go_simp
                  try with_reducible rfl
                try simp only [Act.put, List.setIfInBounds_toArray, List.set_cons_zero, List.set_cons_succ]
                refine wpAnyH_take (i := 34) (oi := ⟨_, _, _, _, _, _⟩) (v := ?_) rfl (by kernel_rfl) (by kernel_rfl) (by kernel_rfl) (fun _ _ _ h => h) (Or.inl ⟨by rfl, ?_⟩) (by assumption) ?_
                rotate_left 1
                · intro W hSw
                  try dsimp only at hSw
                  go_simp
                  try with_reducible rfl
                try simp only [Act.put, List.setIfInBounds_toArray, List.set_cons_zero, List.set_cons_succ]
                refine wpAnyH_take (i := 36) (oi := ⟨_, _, _, _, _, _⟩) (v := ?_) rfl (by kernel_rfl) (by kernel_rfl) (by kernel_rfl) (fun _ _ _ h => h) (Or.inl ⟨by rfl, ?_⟩) (by assumption) ?_
                rotate_left 1
                · intro W hSw
                  try dsimp only at hSw
                  go_simp
                  try with_reducible rfl
                try simp only [Act.put, List.setIfInBounds_toArray, List.set_cons_zero, List.set_cons_succ]
                refine wpAnyH_ready (rs := [35]) (by kernel_rfl) (by simp) ?_
                refine AllReadyH.cons rfl (fun K hK => ?_) AllReadyH.nil
                go_simp
                go_at_call 24
                refine (lock_any f8 (HTb.out.later Ux8.out) A b c ((HS.out.later Ux8.out).more Ux8.out.size) HBC.out HLb.out).mono ?_
                rw [HXs.out]
                rintro e f9 ⟨rfl, hb⟩
                have Ux9 : Hid (Below W0.heap.size W0 f9) := nxTr Ux8.out hb
                have N9 : Hid (Below wf.heap.size wf f9) := nxTr N8.out hb
                clear hb
                refine hK.out _ _ ⟨⟨rngB HR.out Ux9.out Hl0.out, rngB HQ.out Ux9.out Hl1.out⟩, rngL N9.out YR.out⟩ (fun hSn => ?_)
                clear hK K
                try simp only [Act.put, List.setIfInBounds_toArray, List.set_cons_zero, List.set_cons_succ]
                refine wpAnyH_ready (rs := [37]) (by kernel_rfl) (by simp) ?_
                refine AllReadyH.cons rfl (fun K hK => ?_) AllReadyH.nil
                go_simp
                go_at_call 25
                refine (rsum_any f9 A _ c b rfl ((HS.out.later Ux9.out).more Ux9.out.size) HLb.out).mono ?_
                rw [HXs.out]
                rintro e f10 ⟨rfl, hb⟩
                have Ux10 : Hid (Below W0.heap.size W0 f10) := nxTr Ux9.out hb
                have N10 : Hid (Below wf.heap.size wf f10) := nxTr N9.out hb
                clear hb
                refine hK.out _ _ ⟨⟨rngB HR.out Ux10.out Hl0.out, rngB HQ.out Ux10.out Hl1.out⟩, rngL N10.out YR.out⟩ (fun hSn => ?_)
                clear hK K
                try simp only [Act.put, List.setIfInBounds_toArray, List.set_cons_zero, List.set_cons_succ]
                refine wpAnyH_take (i := 38) (oi := ⟨_, _, _, _, _, _⟩) (v := ?_) rfl (by kernel_rfl) (by kernel_rfl) (by kernel_rfl) (fun _ _ _ h => h) (Or.inl ⟨by rfl, ?_⟩) (by assumption) ?_
                rotate_left 1
                · intro W hSw
                  try dsimp only at hSw
                  go_simp
                  try with_reducible rfl
                try simp only [Act.put, List.setIfInBounds_toArray, List.set_cons_zero, List.set_cons_succ]
                refine wpAnyH_take (i := 39) (oi := ⟨_, _, _, _, _, _⟩) (v := ?_) rfl (by kernel_rfl) (by kernel_rfl) (by kernel_rfl) (fun _ _ _ h => h) (Or.inl ⟨by rfl, ?_⟩) (by assumption) ?_
                rotate_left 1
                · intro W hSw
                  try dsimp only at hSw
                  go_simp
                  try with_reducible rfl
                try simp only [Act.put, List.setIfInBounds_toArray, List.set_cons_zero, List.set_cons_succ]
                refine wpAnyH_take (i := 40) (oi := ⟨_, _, _, _, _, _⟩) (v := ?_) rfl (by kernel_rfl) (by kernel_rfl) (by kernel_rfl) (fun _ _ _ h => h) (Or.inl ⟨by rfl, ?_⟩) (by assumption) ?_
                rotate_left 1
                · intro W hSw
                  try dsimp only at hSw
                  go_simp
                  try with_reducible rfl
                try simp only [Act.put, List.setIfInBounds_toArray, List.set_cons_zero, List.set_cons_succ]
                refine wpAnyH_ready (rs := [41]) (by kernel_rfl) (by simp) ?_
                refine AllReadyH.cons rfl (fun K hK => ?_) AllReadyH.nil
                go_simp
                go_at_call 8
                refine (known_any f10).mono ?_
                rintro e f11 ⟨rfl, hb⟩
                have Ux11 : Hid (Below W0.heap.size W0 f11) := nxTr Ux10.out hb
                have N11 : Hid (Below wf.heap.size wf f11) := nxTr N10.out hb
                clear hb
                refine hK.out _ _ ⟨⟨rngB HR.out Ux11.out Hl0.out, rngB HQ.out Ux11.out Hl1.out⟩, rngL N11.out YR.out⟩ (fun hSn => ?_)
                clear hK K
                try simp only [Act.put, List.setIfInBounds_toArray, List.set_cons_zero, List.set_cons_succ]
                refine wpAnyH_take (i := 42) (oi := ⟨_, _, _, _, _, _⟩) (v := ?_) rfl (by kernel_rfl) (by kernel_rfl) (by kernel_rfl) (fun _ _ _ h => h) (Or.inl ⟨by rfl, ?_⟩) (by assumption) ?_
                rotate_left 1
                · intro W hSw
                  try dsimp only at hSw
                  go_simp
                  try with_reducible rfl
                try simp only [Act.put, List.setIfInBounds_toArray, List.set_cons_zero, List.set_cons_succ]
                refine wpAnyH_take (i := 43) (oi := ⟨_, _, _, _, _, _⟩) (v := ?_) rfl (by kernel_rfl) (by kernel_rfl) (by kernel_rfl) (fun _ _ _ h => h) (Or.inl ⟨by rfl, ?_⟩) (by assumption) ?_
                rotate_left 1
                · intro W hSw
                  try dsimp only at hSw
                  go_simp
                  try with_reducible rfl
                try simp only [Act.put, List.setIfInBounds_toArray, List.set_cons_zero, List.set_cons_succ]
                refine wpAnyH_done (by kernel_rfl) ?_ _
                go_wp2_with fail
                go_ret
                exact ⟨rfl, nxTr Hb0.out Ux11.out⟩
end Go.Proofs.YtckomfffilonlaaDoor
