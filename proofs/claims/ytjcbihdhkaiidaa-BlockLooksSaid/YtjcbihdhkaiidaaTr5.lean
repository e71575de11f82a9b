/-
  tx: the document's Same.
-/
import Derived.Test.YtjcbihdhkaiidaaTr3
import Derived.Test.YtjcbihdhkaiidaaEq
namespace Go.Proofs.Ytjcbihdhkaiidaa
open Go.RowKit Go.Maps

/-! two outputs, two outpoints compared -/
theorem Try.rowOu : (46 : TypeId) < Try.prog.types.size := of_decide_eq_true (by kernel_rfl)
theorem Try.wideOu : (match Try.prog.underlying 46 with | some (.array _ _) | some (.struct _) => true | _ => false) = true := by rw [Try.underlying46]
set_option maxRecDepth 100000 in
theorem ouLaw : Keyed Try.prog 46 := Keyed.of_law (deep_law_laid Try.laidO (m := 3) (by omega) Try.rowOu (by kernel_rfl) Try.wideOu)
theorem Try.ouKeyType : Try.prog.keyType 46 = true := by kernel_rfl
theorem Try.cellsOu : Try.prog.cellsOf 46 = 33 := by kernel_rfl
theorem Try.cellsU6 : Try.prog.cellsOf 25 = 1 := by kernel_rfl
def ouLits (o : OutR) : List Lit := Lit.int .u64 (o.amt : Int) :: (o.lock.map fun x => Lit.int .u8 (x.toNat : Int))
def ouKey (o : OutR) : Lit := .string (keyBytes (ouLits o))
theorem keyLits_u64 (d n : Nat) (h : n < 18446744073709551616) : Try.prog.keyLits (d + 1) 25 [.int .u64 (n : Int)] = some [.int .u64 (n : Int)] := by
  unfold Program.keyLits
  rw [Try.underlying25]
  have hw : (Lit.int .u64 (n : Int)).wf = true := by
    show (decide ((0 : Int) ≤ (n : Int)) && decide ((n : Int) ≤ 18446744073709551615)) = true
    rw [Bool.and_eq_true]
    exact ⟨decide_eq_true (by omega), decide_eq_true (by omega)⟩
  simp [hw]
set_option maxRecDepth 100000 in
theorem keyLits_ou (d : Nat) {o : OutR} (h : OutOk o) : Try.prog.keyLits (d + 3) 46 (outC o) = some (ouLits o) := by
  unfold Program.keyLits
  rw [Try.underlying46]
  have e1 : ((outC o).drop 0).take 1 = [.int .u64 (o.amt : Int)] := rfl
  have e2 : ((outC o).tail).take 32 = By o.lock := by show (By o.lock).take 32 = _; rw [List.take_of_length_le (by rw [By_length, h.lock]; omega)]
  simp [Try.cellsOu, outC_len h.lock, Try.cellsH, Try.cellsU6, List.mapM_cons]
  rw [List.drop_zero] at e1
  rw [e1, e2, keyLits_hash d h.lock, keyLits_u64 (d + 1) o.amt h.amt]
  simp [ouLits]
set_option maxRecDepth 100000 in
theorem keyOf_ou {o : OutR} (h : OutOk o) : keyOf Try.prog 46 (.agg (outC o).toArray) = some (ouKey o) := by
  unfold keyOf
  rw [Try.underlying46]
  have hf : Value.formed Try.prog 46 (.agg (outC o).toArray) = true := by
    unfold Value.formed
    rw [Try.underlying46, Try.cellsOu]
    simp [outC_len h.lock]
  obtain ⟨d, hd⟩ : ∃ d, Try.prog.types.size + 1 = d + 3 := ⟨Try.prog.types.size - 2, by have := of_decide_eq_true Try.manyTypes; omega⟩
  have e : (Value.agg (outC o).toArray).cells.toList = outC o := rfl
  rw [hd]
  simp only [Try.ouKeyType, hf, Bool.and_self, if_true, e, keyLits_ou d h, Option.map_some]
  rfl
set_option maxRecDepth 100000 in
theorem ouKey_inj {x y : OutR} (hx : OutOk x) (hy : OutOk y) : ouKey x = ouKey y ↔ x = y := by
  constructor
  · intro e
    have h1 := keyOf_ou hx
    have h2 := keyOf_ou hy
    rw [e] at h1
    have h3 := ouLaw.inj h1 h2
    have h4 : outC x = outC y := congrArg (fun v : Value => v.cells.toList) h3
    unfold outC at h4
    injection h4 with h5 h6
    have h7 : x.lock = y.lock := By_inj h6
    have h8 : x.amt = y.amt := by
      have h9 : (x.amt : Int) = (y.amt : Int) := congrArg backI h5
      omega
    cases x; cases y
    simp only [OutR.mk.injEq]
    exact ⟨h8, h7⟩
  · intro e; rw [e]
set_option maxRecDepth 100000 in
theorem neq_ou {x y : OutR} (hx : OutOk x) (hy : OutOk y) : ∃ z : Bool, (z = false ↔ x = y) ∧ ∀ wq, (binOp .neq 46 (.agg (outC x).toArray) (.agg (outC y).toArray)).run Try.prog wq = .ok (.bool z) wq := by
  obtain ⟨r, hr, hiff⟩ := run_equal_deep (P := Try.prog) default (m := 3) (by omega) (k := 46) (by kernel_rfl) Try.wideOu (keyOf_ou hx) (keyOf_ou hy)
  refine ⟨!r, by rw [← ouKey_inj hx hy, ← hiff]; cases r <;> simp, fun wq => ?_⟩
  obtain ⟨r2, hr2, hiff2⟩ := run_equal_deep (P := Try.prog) wq (m := 3) (by omega) (k := 46) (by kernel_rfl) Try.wideOu (keyOf_ou hx) (keyOf_ou hy)
  have e : r2 = r := by rw [Bool.eq_iff_iff, hiff2, hiff]
  rw [run_neq_struct]
  have hr' : (Op.equalIn 10000 46 (.agg (outC x).toArray) (.agg (outC y).toArray)).run Try.prog wq = .ok r2 wq := hr2
  rw [hr', e]
  rfl
set_option maxRecDepth 100000 in
theorem neq_pt {a b : InR} (ha : a.id.length = 32 ∧ a.n < 4294967296) (hb : b.id.length = 32 ∧ b.n < 4294967296) (wq : World) : (binOp .neq 41 (.agg (ptC a).toArray) (.agg (ptC b).toArray)).run Try.prog wq = .ok (.bool (!(pt a == pt b))) wq := by
  obtain ⟨r, hr, hiff⟩ := run_equal_deep (P := Try.prog) wq (m := 3) (by omega) (k := 41) (by kernel_rfl) Try.widePt (keyOf_pt ha.1 ha.2) (keyOf_pt hb.1 hb.2)
  have e : r = (pt a == pt b) := by
    rw [Bool.eq_iff_iff, hiff, ptKey_inj ha.1 hb.1 ha.2 hb.2]
    exact beq_iff_eq.symm
  rw [run_neq_struct]
  have hr' : (Op.equalIn 10000 41 (.agg (ptC a).toArray) (.agg (ptC b).toArray)).run Try.prog wq = .ok r wq := hr
  rw [hr', e]
  rfl
theorem Str_inj {a b : List UInt8} (h : Str a = Str b) : a = b := by
  have := congrArg (fun s : ByteArray => s.data.toList) h
  simpa [Str] using this
theorem same_not {t u : TxR} {z : Bool} (hz : z = false) (h : txP t ≠ txP u) : z = true ↔ txP t = txP u := ⟨fun e => (by rw [hz] at e; cases e), fun e => absurd e h⟩

/-- What Same answers. -/
def SamePost (w : World) (t u : TxR) (e : Ending) (w' : World) : Prop := ∃ z : Bool, e = .returned (.bool z) ∧ (z = true ↔ txP t = txP u) ∧ Below w.heap.size w w'

set_option maxHeartbeats 8000000 in
set_option maxRecDepth 100000 in
theorem rsame_any (w : World) (t u : TxR) (ht : TxOk w t) (hu : TxOk w u) : Calls Try.prog 17 #[.agg (txC t).toArray, .agg (txC u).toArray] w (SamePost w t u) := by
  have hb0 : Below w.heap.size w ((w.alloc (.cells (txC t).toArray 37)).alloc (.cells (txC u).toArray 37)) := nxAl (nxAl (nxRf w) _) _
  have Hb0 := Lib.hid hb0
  have hB2 : Blk ((w.alloc (.cells (txC t).toArray 37)).alloc (.cells (txC u).toArray 37)) w.heap.size 37 (txC t).toArray := (show Blk (w.alloc (.cells (txC t).toArray 37)) _ _ _ from heap_alloc_new w _).alloc _
  have hB3 : Blk ((w.alloc (.cells (txC t).toArray 37)).alloc (.cells (txC u).toArray 37)) (w.heap.size + 1) 37 (txC u).toArray := blk_new (by simp)
  have a0 : ((w.alloc (.cells (txC t).toArray 37)).alloc (.cells (txC u).toArray 37)).cell? ⟨w.heap.size, 0, none⟩ = some (.slice t.A t.ins.length t.c) := hB2.cell 0
  have a1 : ((w.alloc (.cells (txC t).toArray 37)).alloc (.cells (txC u).toArray 37)).cell? ⟨w.heap.size, 1, none⟩ = some (.slice t.B t.outs.length t.d) := hB2.cell 1
  have a2 : ((w.alloc (.cells (txC t).toArray 37)).alloc (.cells (txC u).toArray 37)).cell? ⟨w.heap.size, 2, none⟩ = some (.int .u64 (t.nonce : Int)) := hB2.cell 2
  have b0 : ((w.alloc (.cells (txC t).toArray 37)).alloc (.cells (txC u).toArray 37)).cell? ⟨w.heap.size + 1, 0, none⟩ = some (.slice u.A u.ins.length u.c) := hB3.cell 0
  have b1 : ((w.alloc (.cells (txC t).toArray 37)).alloc (.cells (txC u).toArray 37)).cell? ⟨w.heap.size + 1, 1, none⟩ = some (.slice u.B u.outs.length u.d) := hB3.cell 1
  have b2 : ((w.alloc (.cells (txC t).toArray 37)).alloc (.cells (txC u).toArray 37)).cell? ⟨w.heap.size + 1, 2, none⟩ = some (.int .u64 (u.nonce : Int)) := hB3.cell 2
  have HT := Lib.hid (ht.later hb0)
  have HU := Lib.hid (hu.later hb0)
  have Hs0 : Hid (w.heap.size + 1 < ((w.alloc (.cells (txC t).toArray 37)).alloc (.cells (txC u).toArray 37)).heap.size) := by show _ < _; simp
  unfold SamePost
  clear hb0 hB2 hB3 ht hu
  by_cases hn : (t.nonce : Int) = (u.nonce : Int)
  · by_cases hi : (t.ins.length : Int) = (u.ins.length : Int)
    · by_cases ho : (t.outs.length : Int) = (u.outs.length : Int)
      · obtain ⟨n, hnn⟩ : ∃ n, t.ins.length = n := ⟨_, rfl⟩
        obtain ⟨m, hmm⟩ : ∃ n, t.outs.length = n := ⟨_, rfl⟩
        have hnu : u.ins.length = n := by omega
        have hmu : u.outs.length = m := by omega
        have hno : u.nonce = t.nonce := by omega
        have hnM : n ≤ 140737488355328 := by rw [← hnn]; exact HT.out.mi
        have hmM : m ≤ 140737488355328 := by rw [← hmm]; exact HT.out.mo
        rw [hnn] at a0
        rw [hmm] at a1
        rw [hnu] at b0
        rw [hmu] at b1
        rw [hno] at b2
        have Hnn := Lib.hid hnn
        have Hmm := Lib.hid hmm
        have Hnu := Lib.hid hnu
        have Hmu := Lib.hid hmu
        have Hno := Lib.hid hno
        clear hnn hmm hnu hmu hno hn hi ho
        go_enter Try.func17, Try.ntmps17
        go_wp2
        change Code.wp _ _ _ _ ((w.alloc (.cells (txC t).toArray 37)).alloc (.cells (txC u).toArray 37))
        generalize ((w.alloc (.cells (txC t).toArray 37)).alloc (.cells (txC u).toArray 37)) = W0 at *
        have A0 := Lib.hid a0
        have A1 := Lib.hid a1
        have B0 := Lib.hid b0
        have B1 := Lib.hid b1
        clear a0 a1 a2 b0 b1 b2
        go_loopw [5] (fun iv wr => ∃ k : Nat, k ≤ n ∧ iv = .int .i64 k ∧ Hid (∀ j (h1 : j < t.ins.length) (h2 : j < u.ins.length), j < k → inP t.ins[j] = inP u.ins[j]) ∧ Hid (Below W0.heap.size W0 wr)) (fun iv _ => n - (intOf iv).toNat)
        case atStart => exact ⟨0, by omega, rfl, fun j _ _ h => absurd h (Nat.not_lt_zero _), nxRf W0⟩
        case round =>
          obtain ⟨k, hk, rfl, HL, Hb⟩ := hrel
          have a0 : wr.cell? ⟨w.heap.size, 0, none⟩ = some (.slice t.A n t.c) := (Hb.out.cell (p := ⟨w.heap.size, 0, none⟩) (by have := Hs0.out; show w.heap.size < _; omega)).trans A0.out
          have b0 : wr.cell? ⟨w.heap.size + 1, 0, none⟩ = some (.slice u.A n u.c) := (Hb.out.cell (p := ⟨w.heap.size + 1, 0, none⟩) Hs0.out).trans B0.out
          by_cases hlt : k < n
          · have hin : (k : Int) < (n : Int) := by omega
            have ht1 : k < t.ins.length := by rw [Hnn.out]; exact hlt
            have hu1 : k < u.ins.length := by rw [Hnu.out]; exact hlt
            obtain ⟨bx, ox, hA, hbx, hrx⟩ := insC_row HT.out.ins (fun i h => (HT.out.each i h).id) (by omega)
            obtain ⟨by_, oy, hB, hby, hry⟩ := insC_row HU.out.ins (fun i h => (HU.out.each i h).id) (by omega)
            have hb' : Below W0.heap.size W0 wr.drew := ⟨Hb.out.os, Hb.out.tape, Hb.out.output, Hb.out.size, Hb.out.block⟩
            have rx := rngB (hrx k ht1) hb' hbx
            have ry := rngB (hry k hu1) hb' hby
            have ix := HT.out.each _ (List.getElem_mem ht1)
            have iy := HU.out.each _ (List.getElem_mem hu1)
            have hne : inP t.ins[k] ≠ inP u.ins[k] → txP t ≠ txP u := fun h e => h (by
              have h1 := congrArg (fun p : TxP => p.ins[k]?) e
              simp [txP, ht1, hu1] at h1
              exact h1)
            have hnx : inP t.ins[k] = inP u.ins[k] → ∀ j (h1 : j < t.ins.length) (h2 : j < u.ins.length), j < k + 1 → inP t.ins[j] = inP u.ins[j] := fun h j h1 h2 hj => by
              by_cases hjk : j < k
              · exact HL.out j h1 h2 hjk
              · obtain rfl : j = k := by omega
                exact h
            obtain ⟨x, hx⟩ : ∃ x, t.ins[k] = x := ⟨_, rfl⟩
            obtain ⟨y, hy⟩ : ∃ y, u.ins[k] = y := ⟨_, rfl⟩
            rw [hx] at rx ix
            rw [hy] at ry iy
            rw [hx, hy] at hne hnx
            have HNe := Lib.hid hne
            have HNx := Lib.hid hnx
            have hS : (fun W => W.cell? ⟨w.heap.size, 0, none⟩ = some (.slice (some ⟨bx, ox, none⟩) n t.c) ∧ W.cell? ⟨w.heap.size + 1, 0, none⟩ = some (.slice (some ⟨by_, oy, none⟩) n u.c) ∧ W.rangeAt bx (ox + k * 34) (ptC x) ∧ W.rangeAt by_ (oy + k * 34) (ptC y) ∧ W.cell? ⟨bx, ox + k * 34 + 33, none⟩ = some (.slice x.A x.wit.length x.c) ∧ W.cell? ⟨by_, oy + k * 34 + 33, none⟩ = some (.slice y.A y.wit.length y.c) ∧ Sees W wr.heap.size x.A x.wit ∧ Sees W wr.heap.size y.A y.wit) wr.drew := by
              refine ⟨by rw [← hA]; exact a0, by rw [← hB]; exact b0, rng_prefix (by rw [← inC_pt]; exact rx), rng_prefix (by rw [← inC_pt]; exact ry), rx 33 _ (inC_at ix.id).2, ry 33 _ (inC_at iy.id).2, ?_, ?_⟩
              · exact (ix.s.below hb').more Hb.out.size
              · exact (iy.s.below hb').more Hb.out.size
            have HSS := Lib.hid hS
            have HZx : Hid ((Try.prog.info? 41).map (·.size) = some (ptC x).length) := by show _ = _; rw [ptC_len ix.id]; exact Try.sizePt
            have HZy : Hid ((Try.prog.info? 41).map (·.size) = some (ptC y).length) := by show _ = _; rw [ptC_len iy.id]; exact Try.sizePt
            have hq := neq_pt ⟨ix.id, ix.n⟩ ⟨iy.id, iy.n⟩
            clear hA hB hbx hby hrx hry hb' rx ry ix iy hx hy hne hnx hS
            go_wp2_with fail
            refine wp_region_held_drew (S := fun W => W.cell? ⟨w.heap.size, 0, none⟩ = some (.slice (some ⟨bx, ox, none⟩) n t.c) ∧ W.cell? ⟨w.heap.size + 1, 0, none⟩ = some (.slice (some ⟨by_, oy, none⟩) n u.c) ∧ W.rangeAt bx (ox + k * 34) (ptC x) ∧ W.rangeAt by_ (oy + k * 34) (ptC y) ∧ W.cell? ⟨bx, ox + k * 34 + 33, none⟩ = some (.slice x.A x.wit.length x.c) ∧ W.cell? ⟨by_, oy + k * 34 + 33, none⟩ = some (.slice y.A y.wit.length y.c) ∧ Sees W wr.heap.size x.A x.wit ∧ Sees W wr.heap.size y.A y.wit) (by kernel_rfl) HSS.out (fun hHeld => ?_)
            cases hpq : pt x == pt y with
            | false =>
              rw [hpq] at hq
              have hqq := ne_of_beq_false hpq
              clear hpq
              refine wpAnyH_take (i := 0) (oi := ⟨_, _, _, _, _, _⟩) (v := ?_) rfl (by kernel_rfl) (by kernel_rfl) (by kernel_rfl) (fun _ _ _ h => h) (Or.inl ⟨by rfl, ?_⟩) (by assumption) ?_
              rotate_left 1
              · intro W hSw
                obtain ⟨s0, s1, s2, s3, s4, s5, s6, s7⟩ := hSw
                go_simp
                try with_reducible rfl
              try simp only [Act.put, List.setIfInBounds_toArray, List.set_cons_zero, List.set_cons_succ]
              refine wpAnyH_take (i := 1) (oi := ⟨_, _, _, _, _, _⟩) (v := ?_) rfl (by kernel_rfl) (by kernel_rfl) (by kernel_rfl) (fun _ _ _ h => h) (Or.inl ⟨by rfl, ?_⟩) (by assumption) ?_
              rotate_left 1
              · intro W hSw
                obtain ⟨s0, s1, s2, s3, s4, s5, s6, s7⟩ := hSw
                go_simp
                try with_reducible rfl
              try simp only [Act.put, List.setIfInBounds_toArray, List.set_cons_zero, List.set_cons_succ]
              refine wpAnyH_take (i := 2) (oi := ⟨_, _, _, _, _, _⟩) (v := ?_) rfl (by kernel_rfl) (by kernel_rfl) (by kernel_rfl) (fun _ _ _ h => h) (Or.inl ⟨by rfl, ?_⟩) (by assumption) ?_
              rotate_left 1
              · intro W hSw
                obtain ⟨s0, s1, s2, s3, s4, s5, s6, s7⟩ := hSw
                go_simp
                try with_reducible rfl
              try simp only [Act.put, List.setIfInBounds_toArray, List.set_cons_zero, List.set_cons_succ]
              refine wpAnyH_take (i := 3) (oi := ⟨_, _, _, _, _, _⟩) (v := ?_) rfl (by kernel_rfl) (by kernel_rfl) (by kernel_rfl) (fun _ _ _ h => h) (Or.inl ⟨by rfl, ?_⟩) (by assumption) ?_
              rotate_left 1
              · intro W hSw
                obtain ⟨s0, s1, s2, s3, s4, s5, s6, s7⟩ := hSw
                go_simp
                try with_reducible rfl
              try simp only [Act.put, List.setIfInBounds_toArray, List.set_cons_zero, List.set_cons_succ]
              refine wpAnyH_take (i := 4) (oi := ⟨_, _, _, _, _, _⟩) (v := ?_) rfl (by kernel_rfl) (by kernel_rfl) (by kernel_rfl) (fun _ _ _ h => h) (Or.inl ⟨by rfl, ?_⟩) (by assumption) ?_
              rotate_left 1
              · intro W hSw
                obtain ⟨s0, s1, s2, s3, s4, s5, s6, s7⟩ := hSw
                go_simp
                try with_reducible rfl
              try simp only [Act.put, List.setIfInBounds_toArray, List.set_cons_zero, List.set_cons_succ]
              refine wpAnyH_take (i := 5) (oi := ⟨_, _, _, _, _, _⟩) (v := .agg (ptC x).toArray) rfl (by kernel_rfl) (by kernel_rfl) (by kernel_rfl) (fun _ _ _ h => h) (yieldsIf_load_mid (by rfl) 41 (.tmp 41) rfl (bx) (ox + k * 34) rfl (ptC x) _ (fun W h => h.2.2.1) Try.underlying41 rfl HZx.out) (by assumption) ?_
              try simp only [Act.put, List.setIfInBounds_toArray, List.set_cons_zero, List.set_cons_succ]
              refine wpAnyH_take (i := 6) (oi := ⟨_, _, _, _, _, _⟩) (v := ?_) rfl (by kernel_rfl) (by kernel_rfl) (by kernel_rfl) (fun _ _ _ h => h) (Or.inl ⟨by rfl, ?_⟩) (by assumption) ?_
              rotate_left 1
              · intro W hSw
                obtain ⟨s0, s1, s2, s3, s4, s5, s6, s7⟩ := hSw
                go_simp
                try with_reducible rfl
              try simp only [Act.put, List.setIfInBounds_toArray, List.set_cons_zero, List.set_cons_succ]
              refine wpAnyH_take (i := 7) (oi := ⟨_, _, _, _, _, _⟩) (v := ?_) rfl (by kernel_rfl) (by kernel_rfl) (by kernel_rfl) (fun _ _ _ h => h) (Or.inl ⟨by rfl, ?_⟩) (by assumption) ?_
              rotate_left 1
              · intro W hSw
                obtain ⟨s0, s1, s2, s3, s4, s5, s6, s7⟩ := hSw
                go_simp
                try with_reducible rfl
              try simp only [Act.put, List.setIfInBounds_toArray, List.set_cons_zero, List.set_cons_succ]
              refine wpAnyH_take (i := 8) (oi := ⟨_, _, _, _, _, _⟩) (v := ?_) rfl (by kernel_rfl) (by kernel_rfl) (by kernel_rfl) (fun _ _ _ h => h) (Or.inl ⟨by rfl, ?_⟩) (by assumption) ?_
              rotate_left 1
              · intro W hSw
                obtain ⟨s0, s1, s2, s3, s4, s5, s6, s7⟩ := hSw
                go_simp
                try with_reducible rfl
              try simp only [Act.put, List.setIfInBounds_toArray, List.set_cons_zero, List.set_cons_succ]
              refine wpAnyH_take (i := 9) (oi := ⟨_, _, _, _, _, _⟩) (v := ?_) rfl (by kernel_rfl) (by kernel_rfl) (by kernel_rfl) (fun _ _ _ h => h) (Or.inl ⟨by rfl, ?_⟩) (by assumption) ?_
              rotate_left 1
              · intro W hSw
                obtain ⟨s0, s1, s2, s3, s4, s5, s6, s7⟩ := hSw
                go_simp
                try with_reducible rfl
              try simp only [Act.put, List.setIfInBounds_toArray, List.set_cons_zero, List.set_cons_succ]
              refine wpAnyH_take (i := 10) (oi := ⟨_, _, _, _, _, _⟩) (v := ?_) rfl (by kernel_rfl) (by kernel_rfl) (by kernel_rfl) (fun _ _ _ h => h) (Or.inl ⟨by rfl, ?_⟩) (by assumption) ?_
              rotate_left 1
              · intro W hSw
                obtain ⟨s0, s1, s2, s3, s4, s5, s6, s7⟩ := hSw
                go_simp
                try with_reducible rfl
              try simp only [Act.put, List.setIfInBounds_toArray, List.set_cons_zero, List.set_cons_succ]
              refine wpAnyH_take (i := 11) (oi := ⟨_, _, _, _, _, _⟩) (v := .agg (ptC y).toArray) rfl (by kernel_rfl) (by kernel_rfl) (by kernel_rfl) (fun _ _ _ h => h) (yieldsIf_load_mid (by rfl) 41 (.tmp 47) rfl (by_) (oy + k * 34) rfl (ptC y) _ (fun W h => h.2.2.2.1) Try.underlying41 rfl HZy.out) (by assumption) ?_
              try simp only [Act.put, List.setIfInBounds_toArray, List.set_cons_zero, List.set_cons_succ]
              refine wpAnyH_take (i := 12) (oi := ⟨_, _, _, _, _, _⟩) (v := ?_) rfl (by kernel_rfl) (by kernel_rfl) (by kernel_rfl) (fun _ _ _ h => h) (Or.inl ⟨by rfl, ?_⟩) (by assumption) ?_
              rotate_left 1
              · intro W hSw
                obtain ⟨s0, s1, s2, s3, s4, s5, s6, s7⟩ := hSw
                go_simp
                try with_reducible rfl
              try simp only [Act.put, List.setIfInBounds_toArray, List.set_cons_zero, List.set_cons_succ]
              refine wpAnyH_take (i := 13) (oi := ⟨_, _, _, _, _, _⟩) (v := ?_) rfl (by kernel_rfl) (by kernel_rfl) (by kernel_rfl) (fun _ _ _ h => h) (Or.inl ⟨by rfl, ?_⟩) (by assumption) ?_
              rotate_left 1
              · intro W hSw
                obtain ⟨s0, s1, s2, s3, s4, s5, s6, s7⟩ := hSw
                go_simp
                try with_reducible rfl
              try simp only [Act.put, List.setIfInBounds_toArray, List.set_cons_zero, List.set_cons_succ]
              refine wpAnyH_take (i := 14) (oi := ⟨_, _, _, _, _, _⟩) (v := undef) rfl (by kernel_rfl) (by kernel_rfl) (by kernel_rfl) (fun _ _ _ h => h) (Or.inr ⟨by rfl, rfl⟩) (by assumption) ?_
              try simp only [Act.put, List.setIfInBounds_toArray, List.set_cons_zero, List.set_cons_succ]
              refine wpAnyH_take (i := 15) (oi := ⟨_, _, _, _, _, _⟩) (v := undef) rfl (by kernel_rfl) (by kernel_rfl) (by kernel_rfl) (fun _ _ _ h => h) (Or.inr ⟨by rfl, rfl⟩) (by assumption) ?_
              try simp only [Act.put, List.setIfInBounds_toArray, List.set_cons_zero, List.set_cons_succ]
              refine wpAnyH_take (i := 16) (oi := ⟨_, _, _, _, _, _⟩) (v := undef) rfl (by kernel_rfl) (by kernel_rfl) (by kernel_rfl) (fun _ _ _ h => h) (Or.inr ⟨by rfl, rfl⟩) (by assumption) ?_
              try simp only [Act.put, List.setIfInBounds_toArray, List.set_cons_zero, List.set_cons_succ]
              refine wpAnyH_take (i := 17) (oi := ⟨_, _, _, _, _, _⟩) (v := undef) rfl (by kernel_rfl) (by kernel_rfl) (by kernel_rfl) (fun _ _ _ h => h) (Or.inr ⟨by rfl, rfl⟩) (by assumption) ?_
              try simp only [Act.put, List.setIfInBounds_toArray, List.set_cons_zero, List.set_cons_succ]
              refine wpAnyH_take (i := 18) (oi := ⟨_, _, _, _, _, _⟩) (v := undef) rfl (by kernel_rfl) (by kernel_rfl) (by kernel_rfl) (fun _ _ _ h => h) (Or.inr ⟨by rfl, rfl⟩) (by assumption) ?_
              try simp only [Act.put, List.setIfInBounds_toArray, List.set_cons_zero, List.set_cons_succ]
              refine wpAnyH_take (i := 19) (oi := ⟨_, _, _, _, _, _⟩) (v := undef) rfl (by kernel_rfl) (by kernel_rfl) (by kernel_rfl) (fun _ _ _ h => h) (Or.inr ⟨by rfl, rfl⟩) (by assumption) ?_
              try simp only [Act.put, List.setIfInBounds_toArray, List.set_cons_zero, List.set_cons_succ]
              refine wpAnyH_take (i := 20) (oi := ⟨_, _, _, _, _, _⟩) (v := undef) rfl (by kernel_rfl) (by kernel_rfl) (by kernel_rfl) (fun _ _ _ h => h) (Or.inr ⟨by rfl, rfl⟩) (by assumption) ?_
              try simp only [Act.put, List.setIfInBounds_toArray, List.set_cons_zero, List.set_cons_succ]
              refine wpAnyH_take (i := 21) (oi := ⟨_, _, _, _, _, _⟩) (v := undef) rfl (by kernel_rfl) (by kernel_rfl) (by kernel_rfl) (fun _ _ _ h => h) (Or.inr ⟨by rfl, rfl⟩) (by assumption) ?_
              try simp only [Act.put, List.setIfInBounds_toArray, List.set_cons_zero, List.set_cons_succ]
              refine wpAnyH_take (i := 22) (oi := ⟨_, _, _, _, _, _⟩) (v := undef) rfl (by kernel_rfl) (by kernel_rfl) (by kernel_rfl) (fun _ _ _ h => h) (Or.inr ⟨by rfl, rfl⟩) (by assumption) ?_
              try simp only [Act.put, List.setIfInBounds_toArray, List.set_cons_zero, List.set_cons_succ]
              refine wpAnyH_take (i := 23) (oi := ⟨_, _, _, _, _, _⟩) (v := undef) rfl (by kernel_rfl) (by kernel_rfl) (by kernel_rfl) (fun _ _ _ h => h) (Or.inr ⟨by rfl, rfl⟩) (by assumption) ?_
              try simp only [Act.put, List.setIfInBounds_toArray, List.set_cons_zero, List.set_cons_succ]
              refine wpAnyH_take (i := 24) (oi := ⟨_, _, _, _, _, _⟩) (v := undef) rfl (by kernel_rfl) (by kernel_rfl) (by kernel_rfl) (fun _ _ _ h => h) (Or.inr ⟨by rfl, rfl⟩) (by assumption) ?_
              try simp only [Act.put, List.setIfInBounds_toArray, List.set_cons_zero, List.set_cons_succ]
              refine wpAnyH_take (i := 25) (oi := ⟨_, _, _, _, _, _⟩) (v := undef) rfl (by kernel_rfl) (by kernel_rfl) (by kernel_rfl) (fun _ _ _ h => h) (Or.inr ⟨by rfl, rfl⟩) (by assumption) ?_
              try simp only [Act.put, List.setIfInBounds_toArray, List.set_cons_zero, List.set_cons_succ]
              refine wpAnyH_take (i := 26) (oi := ⟨_, _, _, _, _, _⟩) (v := undef) rfl (by kernel_rfl) (by kernel_rfl) (by kernel_rfl) (fun _ _ _ h => h) (Or.inr ⟨by rfl, rfl⟩) (by assumption) ?_
              try simp only [Act.put, List.setIfInBounds_toArray, List.set_cons_zero, List.set_cons_succ]
              refine wpAnyH_take (i := 27) (oi := ⟨_, _, _, _, _, _⟩) (v := undef) rfl (by kernel_rfl) (by kernel_rfl) (by kernel_rfl) (fun _ _ _ h => h) (Or.inr ⟨by rfl, rfl⟩) (by assumption) ?_
              try simp only [Act.put, List.setIfInBounds_toArray, List.set_cons_zero, List.set_cons_succ]
              refine wpAnyH_take (i := 28) (oi := ⟨_, _, _, _, _, _⟩) (v := undef) rfl (by kernel_rfl) (by kernel_rfl) (by kernel_rfl) (fun _ _ _ h => h) (Or.inr ⟨by rfl, rfl⟩) (by assumption) ?_
              try simp only [Act.put, List.setIfInBounds_toArray, List.set_cons_zero, List.set_cons_succ]
              refine wpAnyH_take (i := 29) (oi := ⟨_, _, _, _, _, _⟩) (v := ?_) rfl (by kernel_rfl) (by kernel_rfl) (by kernel_rfl) (fun _ _ _ h => h) (Or.inl ⟨by rfl, ?_⟩) (by assumption) ?_
              rotate_left 1
              · intro W hSw
                obtain ⟨s0, s1, s2, s3, s4, s5, s6, s7⟩ := hSw
                go_simp
                try with_reducible rfl
              try simp only [Act.put, List.setIfInBounds_toArray, List.set_cons_zero, List.set_cons_succ]
              refine wpAnyH_done (by kernel_rfl) ?_ _
              clear hHeld HSS
              go_wp2
              go_ret
              exact ⟨_, rfl, same_not rfl (HNe.out (fun e => hqq (by unfold inP at e; unfold pt; injection e with h1 h2; injection h2 with h2 h3; rw [h1, h2]))), (Hb0.out).trans ⟨Hb.out.os, Hb.out.tape, Hb.out.output, Hb.out.size, fun j hj => Hb.out.block j (by have := Hb0.out.size; omega)⟩⟩
            | true =>
              rw [hpq] at hq
              have hqq := eq_of_beq hpq
              clear hpq
              by_cases hw : x.wit = y.wit
              · have hws : (x.wit == y.wit) = true := beq_iff_eq.2 hw
                have HW := Lib.hid hw
                clear hw
                refine wpAnyH_take (i := 0) (oi := ⟨_, _, _, _, _, _⟩) (v := ?_) rfl (by kernel_rfl) (by kernel_rfl) (by kernel_rfl) (fun _ _ _ h => h) (Or.inl ⟨by rfl, ?_⟩) (by assumption) ?_
                rotate_left 1
                · intro W hSw
                  obtain ⟨s0, s1, s2, s3, s4, s5, s6, s7⟩ := hSw
                  go_simp
                  try with_reducible rfl
                try simp only [Act.put, List.setIfInBounds_toArray, List.set_cons_zero, List.set_cons_succ]
                refine wpAnyH_take (i := 1) (oi := ⟨_, _, _, _, _, _⟩) (v := ?_) rfl (by kernel_rfl) (by kernel_rfl) (by kernel_rfl) (fun _ _ _ h => h) (Or.inl ⟨by rfl, ?_⟩) (by assumption) ?_
                rotate_left 1
                · intro W hSw
                  obtain ⟨s0, s1, s2, s3, s4, s5, s6, s7⟩ := hSw
                  go_simp
                  try with_reducible rfl
                try simp only [Act.put, List.setIfInBounds_toArray, List.set_cons_zero, List.set_cons_succ]
                refine wpAnyH_take (i := 2) (oi := ⟨_, _, _, _, _, _⟩) (v := ?_) rfl (by kernel_rfl) (by kernel_rfl) (by kernel_rfl) (fun _ _ _ h => h) (Or.inl ⟨by rfl, ?_⟩) (by assumption) ?_
                rotate_left 1
                · intro W hSw
                  obtain ⟨s0, s1, s2, s3, s4, s5, s6, s7⟩ := hSw
                  go_simp
                  try with_reducible rfl
                try simp only [Act.put, List.setIfInBounds_toArray, List.set_cons_zero, List.set_cons_succ]
                refine wpAnyH_take (i := 3) (oi := ⟨_, _, _, _, _, _⟩) (v := ?_) rfl (by kernel_rfl) (by kernel_rfl) (by kernel_rfl) (fun _ _ _ h => h) (Or.inl ⟨by rfl, ?_⟩) (by assumption) ?_
                rotate_left 1
                · intro W hSw
                  obtain ⟨s0, s1, s2, s3, s4, s5, s6, s7⟩ := hSw
                  go_simp
                  try with_reducible rfl
                try simp only [Act.put, List.setIfInBounds_toArray, List.set_cons_zero, List.set_cons_succ]
                refine wpAnyH_take (i := 4) (oi := ⟨_, _, _, _, _, _⟩) (v := ?_) rfl (by kernel_rfl) (by kernel_rfl) (by kernel_rfl) (fun _ _ _ h => h) (Or.inl ⟨by rfl, ?_⟩) (by assumption) ?_
                rotate_left 1
                · intro W hSw
                  obtain ⟨s0, s1, s2, s3, s4, s5, s6, s7⟩ := hSw
                  go_simp
                  try with_reducible rfl
                try simp only [Act.put, List.setIfInBounds_toArray, List.set_cons_zero, List.set_cons_succ]
                refine wpAnyH_take (i := 5) (oi := ⟨_, _, _, _, _, _⟩) (v := .agg (ptC x).toArray) rfl (by kernel_rfl) (by kernel_rfl) (by kernel_rfl) (fun _ _ _ h => h) (yieldsIf_load_mid (by rfl) 41 (.tmp 41) rfl (bx) (ox + k * 34) rfl (ptC x) _ (fun W h => h.2.2.1) Try.underlying41 rfl HZx.out) (by assumption) ?_
                try simp only [Act.put, List.setIfInBounds_toArray, List.set_cons_zero, List.set_cons_succ]
                refine wpAnyH_take (i := 6) (oi := ⟨_, _, _, _, _, _⟩) (v := ?_) rfl (by kernel_rfl) (by kernel_rfl) (by kernel_rfl) (fun _ _ _ h => h) (Or.inl ⟨by rfl, ?_⟩) (by assumption) ?_
                rotate_left 1
                · intro W hSw
                  obtain ⟨s0, s1, s2, s3, s4, s5, s6, s7⟩ := hSw
                  go_simp
                  try with_reducible rfl
                try simp only [Act.put, List.setIfInBounds_toArray, List.set_cons_zero, List.set_cons_succ]
                refine wpAnyH_take (i := 7) (oi := ⟨_, _, _, _, _, _⟩) (v := ?_) rfl (by kernel_rfl) (by kernel_rfl) (by kernel_rfl) (fun _ _ _ h => h) (Or.inl ⟨by rfl, ?_⟩) (by assumption) ?_
                rotate_left 1
                · intro W hSw
                  obtain ⟨s0, s1, s2, s3, s4, s5, s6, s7⟩ := hSw
                  go_simp
                  try with_reducible rfl
                try simp only [Act.put, List.setIfInBounds_toArray, List.set_cons_zero, List.set_cons_succ]
                refine wpAnyH_take (i := 8) (oi := ⟨_, _, _, _, _, _⟩) (v := ?_) rfl (by kernel_rfl) (by kernel_rfl) (by kernel_rfl) (fun _ _ _ h => h) (Or.inl ⟨by rfl, ?_⟩) (by assumption) ?_
                rotate_left 1
                · intro W hSw
                  obtain ⟨s0, s1, s2, s3, s4, s5, s6, s7⟩ := hSw
                  go_simp
                  try with_reducible rfl
                try simp only [Act.put, List.setIfInBounds_toArray, List.set_cons_zero, List.set_cons_succ]
                refine wpAnyH_take (i := 9) (oi := ⟨_, _, _, _, _, _⟩) (v := ?_) rfl (by kernel_rfl) (by kernel_rfl) (by kernel_rfl) (fun _ _ _ h => h) (Or.inl ⟨by rfl, ?_⟩) (by assumption) ?_
                rotate_left 1
                · intro W hSw
                  obtain ⟨s0, s1, s2, s3, s4, s5, s6, s7⟩ := hSw
                  go_simp
                  try with_reducible rfl
                try simp only [Act.put, List.setIfInBounds_toArray, List.set_cons_zero, List.set_cons_succ]
                refine wpAnyH_take (i := 10) (oi := ⟨_, _, _, _, _, _⟩) (v := ?_) rfl (by kernel_rfl) (by kernel_rfl) (by kernel_rfl) (fun _ _ _ h => h) (Or.inl ⟨by rfl, ?_⟩) (by assumption) ?_
                rotate_left 1
                · intro W hSw
                  obtain ⟨s0, s1, s2, s3, s4, s5, s6, s7⟩ := hSw
                  go_simp
                  try with_reducible rfl
                try simp only [Act.put, List.setIfInBounds_toArray, List.set_cons_zero, List.set_cons_succ]
                refine wpAnyH_take (i := 11) (oi := ⟨_, _, _, _, _, _⟩) (v := .agg (ptC y).toArray) rfl (by kernel_rfl) (by kernel_rfl) (by kernel_rfl) (fun _ _ _ h => h) (yieldsIf_load_mid (by rfl) 41 (.tmp 47) rfl (by_) (oy + k * 34) rfl (ptC y) _ (fun W h => h.2.2.2.1) Try.underlying41 rfl HZy.out) (by assumption) ?_
                try simp only [Act.put, List.setIfInBounds_toArray, List.set_cons_zero, List.set_cons_succ]
                refine wpAnyH_take (i := 12) (oi := ⟨_, _, _, _, _, _⟩) (v := ?_) rfl (by kernel_rfl) (by kernel_rfl) (by kernel_rfl) (fun _ _ _ h => h) (Or.inl ⟨by rfl, ?_⟩) (by assumption) ?_
                rotate_left 1
                · intro W hSw
                  obtain ⟨s0, s1, s2, s3, s4, s5, s6, s7⟩ := hSw
                  go_simp
                  try with_reducible rfl
                try simp only [Act.put, List.setIfInBounds_toArray, List.set_cons_zero, List.set_cons_succ]
                refine wpAnyH_take (i := 13) (oi := ⟨_, _, _, _, _, _⟩) (v := ?_) rfl (by kernel_rfl) (by kernel_rfl) (by kernel_rfl) (fun _ _ _ h => h) (Or.inl ⟨by rfl, ?_⟩) (by assumption) ?_
                rotate_left 1
                · intro W hSw
                  obtain ⟨s0, s1, s2, s3, s4, s5, s6, s7⟩ := hSw
                  go_simp
                  try with_reducible rfl
                try simp only [Act.put, List.setIfInBounds_toArray, List.set_cons_zero, List.set_cons_succ]
                refine wpAnyH_take (i := 14) (oi := ⟨_, _, _, _, _, _⟩) (v := ?_) rfl (by kernel_rfl) (by kernel_rfl) (by kernel_rfl) (fun _ _ _ h => h) (Or.inl ⟨by rfl, ?_⟩) (by assumption) ?_
                rotate_left 1
                · intro W hSw
                  obtain ⟨s0, s1, s2, s3, s4, s5, s6, s7⟩ := hSw
                  go_simp
                  try with_reducible rfl
                try simp only [Act.put, List.setIfInBounds_toArray, List.set_cons_zero, List.set_cons_succ]
                refine wpAnyH_take (i := 15) (oi := ⟨_, _, _, _, _, _⟩) (v := ?_) rfl (by kernel_rfl) (by kernel_rfl) (by kernel_rfl) (fun _ _ _ h => h) (Or.inl ⟨by rfl, ?_⟩) (by assumption) ?_
                rotate_left 1
                · intro W hSw
                  obtain ⟨s0, s1, s2, s3, s4, s5, s6, s7⟩ := hSw
                  go_simp
                  try with_reducible rfl
                try simp only [Act.put, List.setIfInBounds_toArray, List.set_cons_zero, List.set_cons_succ]
                refine wpAnyH_take (i := 16) (oi := ⟨_, _, _, _, _, _⟩) (v := ?_) rfl (by kernel_rfl) (by kernel_rfl) (by kernel_rfl) (fun _ _ _ h => h) (Or.inl ⟨by rfl, ?_⟩) (by assumption) ?_
                rotate_left 1
                · intro W hSw
                  obtain ⟨s0, s1, s2, s3, s4, s5, s6, s7⟩ := hSw
                  go_simp
                  try with_reducible rfl
                try simp only [Act.put, List.setIfInBounds_toArray, List.set_cons_zero, List.set_cons_succ]
                refine wpAnyH_take (i := 17) (oi := ⟨_, _, _, _, _, _⟩) (v := ?_) rfl (by kernel_rfl) (by kernel_rfl) (by kernel_rfl) (fun _ _ _ h => h) (Or.inl ⟨by rfl, ?_⟩) (by assumption) ?_
                rotate_left 1
                · intro W hSw
                  obtain ⟨s0, s1, s2, s3, s4, s5, s6, s7⟩ := hSw
                  go_simp
                  try with_reducible rfl
                try simp only [Act.put, List.setIfInBounds_toArray, List.set_cons_zero, List.set_cons_succ]
                refine wpAnyH_take (i := 18) (oi := ⟨_, _, _, _, _, _⟩) (v := ?_) rfl (by kernel_rfl) (by kernel_rfl) (by kernel_rfl) (fun _ _ _ h => h) (Or.inl ⟨by rfl, ?_⟩) (by assumption) ?_
                rotate_left 1
                · intro W hSw
                  obtain ⟨s0, s1, s2, s3, s4, s5, s6, s7⟩ := hSw
                  go_simp
                  try with_reducible rfl
                try simp only [Act.put, List.setIfInBounds_toArray, List.set_cons_zero, List.set_cons_succ]
                refine wpAnyH_take (i := 19) (oi := ⟨_, _, _, _, _, _⟩) (v := ?_) rfl (by kernel_rfl) (by kernel_rfl) (by kernel_rfl) (fun _ _ _ h => h) (Or.inl ⟨by rfl, ?_⟩) (by assumption) ?_
                rotate_left 1
                · intro W hSw
                  obtain ⟨s0, s1, s2, s3, s4, s5, s6, s7⟩ := hSw
                  go_simp
                  try with_reducible rfl
                try simp only [Act.put, List.setIfInBounds_toArray, List.set_cons_zero, List.set_cons_succ]
                refine wpAnyH_take (i := 20) (oi := ⟨_, _, _, _, _, _⟩) (v := ?_) rfl (by kernel_rfl) (by kernel_rfl) (by kernel_rfl) (fun _ _ _ h => h) (Or.inl ⟨by rfl, ?_⟩) (by assumption) ?_
                rotate_left 1
                · intro W hSw
                  obtain ⟨s0, s1, s2, s3, s4, s5, s6, s7⟩ := hSw
                  have q := run_string_sees (P := Try.prog) (w := W) (c := x.c) (n := x.wit.length) Try.underlying42 Try.underlying5 Try.underlying9 rfl s6
                  go_simp
                  try with_reducible rfl
                try simp only [Act.put, List.setIfInBounds_toArray, List.set_cons_zero, List.set_cons_succ]
                refine wpAnyH_take (i := 21) (oi := ⟨_, _, _, _, _, _⟩) (v := ?_) rfl (by kernel_rfl) (by kernel_rfl) (by kernel_rfl) (fun _ _ _ h => h) (Or.inl ⟨by rfl, ?_⟩) (by assumption) ?_
                rotate_left 1
                · intro W hSw
                  obtain ⟨s0, s1, s2, s3, s4, s5, s6, s7⟩ := hSw
                  go_simp
                  try with_reducible rfl
                try simp only [Act.put, List.setIfInBounds_toArray, List.set_cons_zero, List.set_cons_succ]
                refine wpAnyH_take (i := 22) (oi := ⟨_, _, _, _, _, _⟩) (v := ?_) rfl (by kernel_rfl) (by kernel_rfl) (by kernel_rfl) (fun _ _ _ h => h) (Or.inl ⟨by rfl, ?_⟩) (by assumption) ?_
                rotate_left 1
                · intro W hSw
                  obtain ⟨s0, s1, s2, s3, s4, s5, s6, s7⟩ := hSw
                  go_simp
                  try with_reducible rfl
                try simp only [Act.put, List.setIfInBounds_toArray, List.set_cons_zero, List.set_cons_succ]
                refine wpAnyH_take (i := 23) (oi := ⟨_, _, _, _, _, _⟩) (v := ?_) rfl (by kernel_rfl) (by kernel_rfl) (by kernel_rfl) (fun _ _ _ h => h) (Or.inl ⟨by rfl, ?_⟩) (by assumption) ?_
                rotate_left 1
                · intro W hSw
                  obtain ⟨s0, s1, s2, s3, s4, s5, s6, s7⟩ := hSw
                  go_simp
                  try with_reducible rfl
                try simp only [Act.put, List.setIfInBounds_toArray, List.set_cons_zero, List.set_cons_succ]
                refine wpAnyH_take (i := 24) (oi := ⟨_, _, _, _, _, _⟩) (v := ?_) rfl (by kernel_rfl) (by kernel_rfl) (by kernel_rfl) (fun _ _ _ h => h) (Or.inl ⟨by rfl, ?_⟩) (by assumption) ?_
                rotate_left 1
                · intro W hSw
                  obtain ⟨s0, s1, s2, s3, s4, s5, s6, s7⟩ := hSw
                  go_simp
                  try with_reducible rfl
                try simp only [Act.put, List.setIfInBounds_toArray, List.set_cons_zero, List.set_cons_succ]
                refine wpAnyH_take (i := 25) (oi := ⟨_, _, _, _, _, _⟩) (v := ?_) rfl (by kernel_rfl) (by kernel_rfl) (by kernel_rfl) (fun _ _ _ h => h) (Or.inl ⟨by rfl, ?_⟩) (by assumption) ?_
                rotate_left 1
                · intro W hSw
                  obtain ⟨s0, s1, s2, s3, s4, s5, s6, s7⟩ := hSw
                  go_simp
                  try with_reducible rfl
                try simp only [Act.put, List.setIfInBounds_toArray, List.set_cons_zero, List.set_cons_succ]
                refine wpAnyH_take (i := 26) (oi := ⟨_, _, _, _, _, _⟩) (v := ?_) rfl (by kernel_rfl) (by kernel_rfl) (by kernel_rfl) (fun _ _ _ h => h) (Or.inl ⟨by rfl, ?_⟩) (by assumption) ?_
                rotate_left 1
                · intro W hSw
                  obtain ⟨s0, s1, s2, s3, s4, s5, s6, s7⟩ := hSw
                  go_simp
                  try with_reducible rfl
                try simp only [Act.put, List.setIfInBounds_toArray, List.set_cons_zero, List.set_cons_succ]
                refine wpAnyH_take (i := 27) (oi := ⟨_, _, _, _, _, _⟩) (v := ?_) rfl (by kernel_rfl) (by kernel_rfl) (by kernel_rfl) (fun _ _ _ h => h) (Or.inl ⟨by rfl, ?_⟩) (by assumption) ?_
                rotate_left 1
                · intro W hSw
                  obtain ⟨s0, s1, s2, s3, s4, s5, s6, s7⟩ := hSw
                  have q := run_string_sees (P := Try.prog) (w := W) (c := y.c) (n := y.wit.length) Try.underlying42 Try.underlying5 Try.underlying9 rfl s7
                  go_simp
                  try with_reducible rfl
                try simp only [Act.put, List.setIfInBounds_toArray, List.set_cons_zero, List.set_cons_succ]
                refine wpAnyH_take (i := 28) (oi := ⟨_, _, _, _, _, _⟩) (v := ?_) rfl (by kernel_rfl) (by kernel_rfl) (by kernel_rfl) (fun _ _ _ h => h) (Or.inl ⟨by rfl, ?_⟩) (by assumption) ?_
                rotate_left 1
                · intro W hSw
                  obtain ⟨s0, s1, s2, s3, s4, s5, s6, s7⟩ := hSw
                  go_simp
                  try with_reducible rfl
                try simp only [Act.put, List.setIfInBounds_toArray, List.set_cons_zero, List.set_cons_succ]
                refine wpAnyH_take (i := 29) (oi := ⟨_, _, _, _, _, _⟩) (v := ?_) rfl (by kernel_rfl) (by kernel_rfl) (by kernel_rfl) (fun _ _ _ h => h) (Or.inl ⟨by rfl, ?_⟩) (by assumption) ?_
                rotate_left 1
                · intro W hSw
                  obtain ⟨s0, s1, s2, s3, s4, s5, s6, s7⟩ := hSw
                  go_simp
                  try with_reducible rfl
                try simp only [Act.put, List.setIfInBounds_toArray, List.set_cons_zero, List.set_cons_succ]
                refine wpAnyH_done (by kernel_rfl) ?_ _
                clear hHeld HSS hws
                go_wp2
                go_roundw
                case rel => exact ⟨k + 1, by omega, by go_num, HNx.out (by unfold inP; unfold pt at hqq; injection hqq with h1 h2; rw [h1, h2, HW.out]), ⟨Hb.out.os, Hb.out.tape, Hb.out.output, Hb.out.size, Hb.out.block⟩⟩
                case measure => simp [intOf] <;> omega
              · have hws : (x.wit == y.wit) = false := beq_eq_false_iff_ne.2 hw
                refine wpAnyH_take (i := 0) (oi := ⟨_, _, _, _, _, _⟩) (v := ?_) rfl (by kernel_rfl) (by kernel_rfl) (by kernel_rfl) (fun _ _ _ h => h) (Or.inl ⟨by rfl, ?_⟩) (by assumption) ?_
                rotate_left 1
                · intro W hSw
                  obtain ⟨s0, s1, s2, s3, s4, s5, s6, s7⟩ := hSw
                  go_simp
                  try with_reducible rfl
                try simp only [Act.put, List.setIfInBounds_toArray, List.set_cons_zero, List.set_cons_succ]
                refine wpAnyH_take (i := 1) (oi := ⟨_, _, _, _, _, _⟩) (v := ?_) rfl (by kernel_rfl) (by kernel_rfl) (by kernel_rfl) (fun _ _ _ h => h) (Or.inl ⟨by rfl, ?_⟩) (by assumption) ?_
                rotate_left 1
                · intro W hSw
                  obtain ⟨s0, s1, s2, s3, s4, s5, s6, s7⟩ := hSw
                  go_simp
                  try with_reducible rfl
                try simp only [Act.put, List.setIfInBounds_toArray, List.set_cons_zero, List.set_cons_succ]
                refine wpAnyH_take (i := 2) (oi := ⟨_, _, _, _, _, _⟩) (v := ?_) rfl (by kernel_rfl) (by kernel_rfl) (by kernel_rfl) (fun _ _ _ h => h) (Or.inl ⟨by rfl, ?_⟩) (by assumption) ?_
                rotate_left 1
                · intro W hSw
                  obtain ⟨s0, s1, s2, s3, s4, s5, s6, s7⟩ := hSw
                  go_simp
                  try with_reducible rfl
                try simp only [Act.put, List.setIfInBounds_toArray, List.set_cons_zero, List.set_cons_succ]
                refine wpAnyH_take (i := 3) (oi := ⟨_, _, _, _, _, _⟩) (v := ?_) rfl (by kernel_rfl) (by kernel_rfl) (by kernel_rfl) (fun _ _ _ h => h) (Or.inl ⟨by rfl, ?_⟩) (by assumption) ?_
                rotate_left 1
                · intro W hSw
                  obtain ⟨s0, s1, s2, s3, s4, s5, s6, s7⟩ := hSw
                  go_simp
                  try with_reducible rfl
                try simp only [Act.put, List.setIfInBounds_toArray, List.set_cons_zero, List.set_cons_succ]
                refine wpAnyH_take (i := 4) (oi := ⟨_, _, _, _, _, _⟩) (v := ?_) rfl (by kernel_rfl) (by kernel_rfl) (by kernel_rfl) (fun _ _ _ h => h) (Or.inl ⟨by rfl, ?_⟩) (by assumption) ?_
                rotate_left 1
                · intro W hSw
                  obtain ⟨s0, s1, s2, s3, s4, s5, s6, s7⟩ := hSw
                  go_simp
                  try with_reducible rfl
                try simp only [Act.put, List.setIfInBounds_toArray, List.set_cons_zero, List.set_cons_succ]
                refine wpAnyH_take (i := 5) (oi := ⟨_, _, _, _, _, _⟩) (v := .agg (ptC x).toArray) rfl (by kernel_rfl) (by kernel_rfl) (by kernel_rfl) (fun _ _ _ h => h) (yieldsIf_load_mid (by rfl) 41 (.tmp 41) rfl (bx) (ox + k * 34) rfl (ptC x) _ (fun W h => h.2.2.1) Try.underlying41 rfl HZx.out) (by assumption) ?_
                try simp only [Act.put, List.setIfInBounds_toArray, List.set_cons_zero, List.set_cons_succ]
                refine wpAnyH_take (i := 6) (oi := ⟨_, _, _, _, _, _⟩) (v := ?_) rfl (by kernel_rfl) (by kernel_rfl) (by kernel_rfl) (fun _ _ _ h => h) (Or.inl ⟨by rfl, ?_⟩) (by assumption) ?_
                rotate_left 1
                · intro W hSw
                  obtain ⟨s0, s1, s2, s3, s4, s5, s6, s7⟩ := hSw
                  go_simp
                  try with_reducible rfl
                try simp only [Act.put, List.setIfInBounds_toArray, List.set_cons_zero, List.set_cons_succ]
                refine wpAnyH_take (i := 7) (oi := ⟨_, _, _, _, _, _⟩) (v := ?_) rfl (by kernel_rfl) (by kernel_rfl) (by kernel_rfl) (fun _ _ _ h => h) (Or.inl ⟨by rfl, ?_⟩) (by assumption) ?_
                rotate_left 1
                · intro W hSw
                  obtain ⟨s0, s1, s2, s3, s4, s5, s6, s7⟩ := hSw
                  go_simp
                  try with_reducible rfl
                try simp only [Act.put, List.setIfInBounds_toArray, List.set_cons_zero, List.set_cons_succ]
                refine wpAnyH_take (i := 8) (oi := ⟨_, _, _, _, _, _⟩) (v := ?_) rfl (by kernel_rfl) (by kernel_rfl) (by kernel_rfl) (fun _ _ _ h => h) (Or.inl ⟨by rfl, ?_⟩) (by assumption) ?_
                rotate_left 1
                · intro W hSw
                  obtain ⟨s0, s1, s2, s3, s4, s5, s6, s7⟩ := hSw
                  go_simp
                  try with_reducible rfl
                try simp only [Act.put, List.setIfInBounds_toArray, List.set_cons_zero, List.set_cons_succ]
                refine wpAnyH_take (i := 9) (oi := ⟨_, _, _, _, _, _⟩) (v := ?_) rfl (by kernel_rfl) (by kernel_rfl) (by kernel_rfl) (fun _ _ _ h => h) (Or.inl ⟨by rfl, ?_⟩) (by assumption) ?_
                rotate_left 1
                · intro W hSw
                  obtain ⟨s0, s1, s2, s3, s4, s5, s6, s7⟩ := hSw
                  go_simp
                  try with_reducible rfl
                try simp only [Act.put, List.setIfInBounds_toArray, List.set_cons_zero, List.set_cons_succ]
                refine wpAnyH_take (i := 10) (oi := ⟨_, _, _, _, _, _⟩) (v := ?_) rfl (by kernel_rfl) (by kernel_rfl) (by kernel_rfl) (fun _ _ _ h => h) (Or.inl ⟨by rfl, ?_⟩) (by assumption) ?_
                rotate_left 1
                · intro W hSw
                  obtain ⟨s0, s1, s2, s3, s4, s5, s6, s7⟩ := hSw
                  go_simp
                  try with_reducible rfl
                try simp only [Act.put, List.setIfInBounds_toArray, List.set_cons_zero, List.set_cons_succ]
                refine wpAnyH_take (i := 11) (oi := ⟨_, _, _, _, _, _⟩) (v := .agg (ptC y).toArray) rfl (by kernel_rfl) (by kernel_rfl) (by kernel_rfl) (fun _ _ _ h => h) (yieldsIf_load_mid (by rfl) 41 (.tmp 47) rfl (by_) (oy + k * 34) rfl (ptC y) _ (fun W h => h.2.2.2.1) Try.underlying41 rfl HZy.out) (by assumption) ?_
                try simp only [Act.put, List.setIfInBounds_toArray, List.set_cons_zero, List.set_cons_succ]
                refine wpAnyH_take (i := 12) (oi := ⟨_, _, _, _, _, _⟩) (v := ?_) rfl (by kernel_rfl) (by kernel_rfl) (by kernel_rfl) (fun _ _ _ h => h) (Or.inl ⟨by rfl, ?_⟩) (by assumption) ?_
                rotate_left 1
                · intro W hSw
                  obtain ⟨s0, s1, s2, s3, s4, s5, s6, s7⟩ := hSw
                  go_simp
                  try with_reducible rfl
                try simp only [Act.put, List.setIfInBounds_toArray, List.set_cons_zero, List.set_cons_succ]
                refine wpAnyH_take (i := 13) (oi := ⟨_, _, _, _, _, _⟩) (v := ?_) rfl (by kernel_rfl) (by kernel_rfl) (by kernel_rfl) (fun _ _ _ h => h) (Or.inl ⟨by rfl, ?_⟩) (by assumption) ?_
                rotate_left 1
                · intro W hSw
                  obtain ⟨s0, s1, s2, s3, s4, s5, s6, s7⟩ := hSw
                  go_simp
                  try with_reducible rfl
                try simp only [Act.put, List.setIfInBounds_toArray, List.set_cons_zero, List.set_cons_succ]
                refine wpAnyH_take (i := 14) (oi := ⟨_, _, _, _, _, _⟩) (v := ?_) rfl (by kernel_rfl) (by kernel_rfl) (by kernel_rfl) (fun _ _ _ h => h) (Or.inl ⟨by rfl, ?_⟩) (by assumption) ?_
                rotate_left 1
                · intro W hSw
                  obtain ⟨s0, s1, s2, s3, s4, s5, s6, s7⟩ := hSw
                  go_simp
                  try with_reducible rfl
                try simp only [Act.put, List.setIfInBounds_toArray, List.set_cons_zero, List.set_cons_succ]
                refine wpAnyH_take (i := 15) (oi := ⟨_, _, _, _, _, _⟩) (v := ?_) rfl (by kernel_rfl) (by kernel_rfl) (by kernel_rfl) (fun _ _ _ h => h) (Or.inl ⟨by rfl, ?_⟩) (by assumption) ?_
                rotate_left 1
                · intro W hSw
                  obtain ⟨s0, s1, s2, s3, s4, s5, s6, s7⟩ := hSw
                  go_simp
                  try with_reducible rfl
                try simp only [Act.put, List.setIfInBounds_toArray, List.set_cons_zero, List.set_cons_succ]
                refine wpAnyH_take (i := 16) (oi := ⟨_, _, _, _, _, _⟩) (v := ?_) rfl (by kernel_rfl) (by kernel_rfl) (by kernel_rfl) (fun _ _ _ h => h) (Or.inl ⟨by rfl, ?_⟩) (by assumption) ?_
                rotate_left 1
                · intro W hSw
                  obtain ⟨s0, s1, s2, s3, s4, s5, s6, s7⟩ := hSw
                  go_simp
                  try with_reducible rfl
                try simp only [Act.put, List.setIfInBounds_toArray, List.set_cons_zero, List.set_cons_succ]
                refine wpAnyH_take (i := 17) (oi := ⟨_, _, _, _, _, _⟩) (v := ?_) rfl (by kernel_rfl) (by kernel_rfl) (by kernel_rfl) (fun _ _ _ h => h) (Or.inl ⟨by rfl, ?_⟩) (by assumption) ?_
                rotate_left 1
                · intro W hSw
                  obtain ⟨s0, s1, s2, s3, s4, s5, s6, s7⟩ := hSw
                  go_simp
                  try with_reducible rfl
                try simp only [Act.put, List.setIfInBounds_toArray, List.set_cons_zero, List.set_cons_succ]
                refine wpAnyH_take (i := 18) (oi := ⟨_, _, _, _, _, _⟩) (v := ?_) rfl (by kernel_rfl) (by kernel_rfl) (by kernel_rfl) (fun _ _ _ h => h) (Or.inl ⟨by rfl, ?_⟩) (by assumption) ?_
                rotate_left 1
                · intro W hSw
                  obtain ⟨s0, s1, s2, s3, s4, s5, s6, s7⟩ := hSw
                  go_simp
                  try with_reducible rfl
                try simp only [Act.put, List.setIfInBounds_toArray, List.set_cons_zero, List.set_cons_succ]
                refine wpAnyH_take (i := 19) (oi := ⟨_, _, _, _, _, _⟩) (v := ?_) rfl (by kernel_rfl) (by kernel_rfl) (by kernel_rfl) (fun _ _ _ h => h) (Or.inl ⟨by rfl, ?_⟩) (by assumption) ?_
                rotate_left 1
                · intro W hSw
                  obtain ⟨s0, s1, s2, s3, s4, s5, s6, s7⟩ := hSw
                  go_simp
                  try with_reducible rfl
                try simp only [Act.put, List.setIfInBounds_toArray, List.set_cons_zero, List.set_cons_succ]
                refine wpAnyH_take (i := 20) (oi := ⟨_, _, _, _, _, _⟩) (v := ?_) rfl (by kernel_rfl) (by kernel_rfl) (by kernel_rfl) (fun _ _ _ h => h) (Or.inl ⟨by rfl, ?_⟩) (by assumption) ?_
                rotate_left 1
                · intro W hSw
                  obtain ⟨s0, s1, s2, s3, s4, s5, s6, s7⟩ := hSw
                  have q := run_string_sees (P := Try.prog) (w := W) (c := x.c) (n := x.wit.length) Try.underlying42 Try.underlying5 Try.underlying9 rfl s6
                  go_simp
                  try with_reducible rfl
                try simp only [Act.put, List.setIfInBounds_toArray, List.set_cons_zero, List.set_cons_succ]
                refine wpAnyH_take (i := 21) (oi := ⟨_, _, _, _, _, _⟩) (v := ?_) rfl (by kernel_rfl) (by kernel_rfl) (by kernel_rfl) (fun _ _ _ h => h) (Or.inl ⟨by rfl, ?_⟩) (by assumption) ?_
                rotate_left 1
                · intro W hSw
                  obtain ⟨s0, s1, s2, s3, s4, s5, s6, s7⟩ := hSw
                  go_simp
                  try with_reducible rfl
                try simp only [Act.put, List.setIfInBounds_toArray, List.set_cons_zero, List.set_cons_succ]
                refine wpAnyH_take (i := 22) (oi := ⟨_, _, _, _, _, _⟩) (v := ?_) rfl (by kernel_rfl) (by kernel_rfl) (by kernel_rfl) (fun _ _ _ h => h) (Or.inl ⟨by rfl, ?_⟩) (by assumption) ?_
                rotate_left 1
                · intro W hSw
                  obtain ⟨s0, s1, s2, s3, s4, s5, s6, s7⟩ := hSw
                  go_simp
                  try with_reducible rfl
                try simp only [Act.put, List.setIfInBounds_toArray, List.set_cons_zero, List.set_cons_succ]
                refine wpAnyH_take (i := 23) (oi := ⟨_, _, _, _, _, _⟩) (v := ?_) rfl (by kernel_rfl) (by kernel_rfl) (by kernel_rfl) (fun _ _ _ h => h) (Or.inl ⟨by rfl, ?_⟩) (by assumption) ?_
                rotate_left 1
                · intro W hSw
                  obtain ⟨s0, s1, s2, s3, s4, s5, s6, s7⟩ := hSw
                  go_simp
                  try with_reducible rfl
                try simp only [Act.put, List.setIfInBounds_toArray, List.set_cons_zero, List.set_cons_succ]
                refine wpAnyH_take (i := 24) (oi := ⟨_, _, _, _, _, _⟩) (v := ?_) rfl (by kernel_rfl) (by kernel_rfl) (by kernel_rfl) (fun _ _ _ h => h) (Or.inl ⟨by rfl, ?_⟩) (by assumption) ?_
                rotate_left 1
                · intro W hSw
                  obtain ⟨s0, s1, s2, s3, s4, s5, s6, s7⟩ := hSw
                  go_simp
                  try with_reducible rfl
                try simp only [Act.put, List.setIfInBounds_toArray, List.set_cons_zero, List.set_cons_succ]
                refine wpAnyH_take (i := 25) (oi := ⟨_, _, _, _, _, _⟩) (v := ?_) rfl (by kernel_rfl) (by kernel_rfl) (by kernel_rfl) (fun _ _ _ h => h) (Or.inl ⟨by rfl, ?_⟩) (by assumption) ?_
                rotate_left 1
                · intro W hSw
                  obtain ⟨s0, s1, s2, s3, s4, s5, s6, s7⟩ := hSw
                  go_simp
                  try with_reducible rfl
                try simp only [Act.put, List.setIfInBounds_toArray, List.set_cons_zero, List.set_cons_succ]
                refine wpAnyH_take (i := 26) (oi := ⟨_, _, _, _, _, _⟩) (v := ?_) rfl (by kernel_rfl) (by kernel_rfl) (by kernel_rfl) (fun _ _ _ h => h) (Or.inl ⟨by rfl, ?_⟩) (by assumption) ?_
                rotate_left 1
                · intro W hSw
                  obtain ⟨s0, s1, s2, s3, s4, s5, s6, s7⟩ := hSw
                  go_simp
                  try with_reducible rfl
                try simp only [Act.put, List.setIfInBounds_toArray, List.set_cons_zero, List.set_cons_succ]
                refine wpAnyH_take (i := 27) (oi := ⟨_, _, _, _, _, _⟩) (v := ?_) rfl (by kernel_rfl) (by kernel_rfl) (by kernel_rfl) (fun _ _ _ h => h) (Or.inl ⟨by rfl, ?_⟩) (by assumption) ?_
                rotate_left 1
                · intro W hSw
                  obtain ⟨s0, s1, s2, s3, s4, s5, s6, s7⟩ := hSw
                  have q := run_string_sees (P := Try.prog) (w := W) (c := y.c) (n := y.wit.length) Try.underlying42 Try.underlying5 Try.underlying9 rfl s7
                  go_simp
                  try with_reducible rfl
                try simp only [Act.put, List.setIfInBounds_toArray, List.set_cons_zero, List.set_cons_succ]
                refine wpAnyH_take (i := 28) (oi := ⟨_, _, _, _, _, _⟩) (v := ?_) rfl (by kernel_rfl) (by kernel_rfl) (by kernel_rfl) (fun _ _ _ h => h) (Or.inl ⟨by rfl, ?_⟩) (by assumption) ?_
                rotate_left 1
                · intro W hSw
                  obtain ⟨s0, s1, s2, s3, s4, s5, s6, s7⟩ := hSw
                  go_simp
                  try with_reducible rfl
                try simp only [Act.put, List.setIfInBounds_toArray, List.set_cons_zero, List.set_cons_succ]
                refine wpAnyH_take (i := 29) (oi := ⟨_, _, _, _, _, _⟩) (v := ?_) rfl (by kernel_rfl) (by kernel_rfl) (by kernel_rfl) (fun _ _ _ h => h) (Or.inl ⟨by rfl, ?_⟩) (by assumption) ?_
                rotate_left 1
                · intro W hSw
                  obtain ⟨s0, s1, s2, s3, s4, s5, s6, s7⟩ := hSw
                  go_simp
                  try with_reducible rfl
                try simp only [Act.put, List.setIfInBounds_toArray, List.set_cons_zero, List.set_cons_succ]
                refine wpAnyH_done (by kernel_rfl) ?_ _
                clear hHeld HSS hws
                go_wp2
                go_ret
                exact ⟨_, rfl, same_not rfl (HNe.out (fun e => hw (by unfold inP at e; injection e with h1 h2; injection h2 with h2 h3))), (Hb0.out).trans ⟨Hb.out.os, Hb.out.tape, Hb.out.output, Hb.out.size, fun j hj => Hb.out.block j (by have := Hb0.out.size; omega)⟩⟩
          · obtain rfl : k = n := by omega
            have HALL : Hid (t.ins.map inP = u.ins.map inP) := by
              refine List.ext_getElem (by simp [Hnn.out, Hnu.out]) (fun j h1 h2 => ?_)
              simp only [List.getElem_map]
              exact HL.out j (by simpa using h1) (by simpa using h2) (by rw [List.length_map, Hnn.out] at h1; exact h1)
            go_wp2
            clear a0 b0
            go_loopw [6] (fun iv wr => ∃ k : Nat, k ≤ m ∧ iv = .int .i64 k ∧ Hid (∀ j (h1 : j < t.outs.length) (h2 : j < u.outs.length), j < k → t.outs[j] = u.outs[j]) ∧ Hid (Below W0.heap.size W0 wr)) (fun iv _ => m - (intOf iv).toNat)
            case atStart => exact ⟨0, by omega, rfl, fun j _ _ h => absurd h (Nat.not_lt_zero _), Hb.out⟩
            case round =>
              clear Hb HL
              obtain ⟨k, hk, rfl, HL, Hb⟩ := hrel
              have a1 : wr.cell? ⟨w.heap.size, 1, none⟩ = some (.slice t.B m t.d) := (Hb.out.cell (p := ⟨w.heap.size, 1, none⟩) (by have := Hs0.out; show w.heap.size < _; omega)).trans A1.out
              have b1 : wr.cell? ⟨w.heap.size + 1, 1, none⟩ = some (.slice u.B m u.d) := (Hb.out.cell (p := ⟨w.heap.size + 1, 1, none⟩) Hs0.out).trans B1.out
              by_cases hlt : k < m
              · have hin : (k : Int) < (m : Int) := by omega
                have ht1 : k < t.outs.length := by rw [Hmm.out]; exact hlt
                have hu1 : k < u.outs.length := by rw [Hmu.out]; exact hlt
                obtain ⟨bx, ox, hA, hbx, hrx⟩ := outsC_row HT.out.outs (fun i h => (HT.out.eacho i h).lock) (by omega)
                obtain ⟨by_, oy, hB, hby, hry⟩ := outsC_row HU.out.outs (fun i h => (HU.out.eacho i h).lock) (by omega)
                have hb' : Below W0.heap.size W0 wr.drew := ⟨Hb.out.os, Hb.out.tape, Hb.out.output, Hb.out.size, Hb.out.block⟩
                have rx := rngB (hrx k ht1) hb' hbx
                have ry := rngB (hry k hu1) hb' hby
                have ix := HT.out.eacho _ (List.getElem_mem ht1)
                have iy := HU.out.eacho _ (List.getElem_mem hu1)
                have hne : t.outs[k] ≠ u.outs[k] → txP t ≠ txP u := fun h e => h (by
                  have h1 := congrArg (fun p : TxP => p.outs[k]?) e
                  simp [txP, ht1, hu1] at h1
                  exact h1)
                have hnx : t.outs[k] = u.outs[k] → ∀ j (h1 : j < t.outs.length) (h2 : j < u.outs.length), j < k + 1 → t.outs[j] = u.outs[j] := fun h j h1 h2 hj => by
                  by_cases hjk : j < k
                  · exact HL.out j h1 h2 hjk
                  · obtain rfl : j = k := by omega
                    exact h
                obtain ⟨x, hx⟩ : ∃ x, t.outs[k] = x := ⟨_, rfl⟩
                obtain ⟨y, hy⟩ : ∃ y, u.outs[k] = y := ⟨_, rfl⟩
                rw [hx] at rx ix
                rw [hy] at ry iy
                rw [hx, hy] at hne hnx
                have HNe := Lib.hid hne
                have HNx := Lib.hid hnx
                have hS : (fun W => W.cell? ⟨w.heap.size, 1, none⟩ = some (.slice (some ⟨bx, ox, none⟩) m t.d) ∧ W.cell? ⟨w.heap.size + 1, 1, none⟩ = some (.slice (some ⟨by_, oy, none⟩) m u.d) ∧ W.rangeAt bx (ox + k * 33) (outC x) ∧ W.rangeAt by_ (oy + k * 33) (outC y)) wr.drew := ⟨by rw [← hA]; exact a1, by rw [← hB]; exact b1, rx, ry⟩
                have HSS := Lib.hid hS
                have HZx : Hid ((Try.prog.info? 46).map (·.size) = some (outC x).length) := by show _ = _; rw [outC_len ix.lock]; exact Try.sizeOut
                have HZy : Hid ((Try.prog.info? 46).map (·.size) = some (outC y).length) := by show _ = _; rw [outC_len iy.lock]; exact Try.sizeOut
                obtain ⟨z, hz, hq⟩ := neq_ou ix iy
                clear hA hB hbx hby hrx hry hb' rx ry ix iy hx hy hne hnx hS
                go_wp2_with fail
                refine wp_region_held_drew (S := fun W => W.cell? ⟨w.heap.size, 1, none⟩ = some (.slice (some ⟨bx, ox, none⟩) m t.d) ∧ W.cell? ⟨w.heap.size + 1, 1, none⟩ = some (.slice (some ⟨by_, oy, none⟩) m u.d) ∧ W.rangeAt bx (ox + k * 33) (outC x) ∧ W.rangeAt by_ (oy + k * 33) (outC y)) (by kernel_rfl) HSS.out (fun hHeld => ?_)
                cases z with
                | true =>
                  have hqq : x ≠ y := fun e => by have := hz.2 e; cases this
                  clear hz
                  refine wpAnyH_take (i := 0) (oi := ⟨_, _, _, _, _, _⟩) (v := ?_) rfl (by kernel_rfl) (by kernel_rfl) (by kernel_rfl) (fun _ _ _ h => h) (Or.inl ⟨by rfl, ?_⟩) (by assumption) ?_
                  rotate_left 1
                  · intro W hSw
                    obtain ⟨s0, s1, s2, s3⟩ := hSw
                    go_simp
                    try with_reducible rfl
                  try simp only [Act.put, List.setIfInBounds_toArray, List.set_cons_zero, List.set_cons_succ]
                  refine wpAnyH_take (i := 1) (oi := ⟨_, _, _, _, _, _⟩) (v := ?_) rfl (by kernel_rfl) (by kernel_rfl) (by kernel_rfl) (fun _ _ _ h => h) (Or.inl ⟨by rfl, ?_⟩) (by assumption) ?_
                  rotate_left 1
                  · intro W hSw
                    obtain ⟨s0, s1, s2, s3⟩ := hSw
                    go_simp
                    try with_reducible rfl
                  try simp only [Act.put, List.setIfInBounds_toArray, List.set_cons_zero, List.set_cons_succ]
                  refine wpAnyH_take (i := 2) (oi := ⟨_, _, _, _, _, _⟩) (v := ?_) rfl (by kernel_rfl) (by kernel_rfl) (by kernel_rfl) (fun _ _ _ h => h) (Or.inl ⟨by rfl, ?_⟩) (by assumption) ?_
                  rotate_left 1
                  · intro W hSw
                    obtain ⟨s0, s1, s2, s3⟩ := hSw
                    go_simp
                    try with_reducible rfl
                  try simp only [Act.put, List.setIfInBounds_toArray, List.set_cons_zero, List.set_cons_succ]
                  refine wpAnyH_take (i := 3) (oi := ⟨_, _, _, _, _, _⟩) (v := ?_) rfl (by kernel_rfl) (by kernel_rfl) (by kernel_rfl) (fun _ _ _ h => h) (Or.inl ⟨by rfl, ?_⟩) (by assumption) ?_
                  rotate_left 1
                  · intro W hSw
                    obtain ⟨s0, s1, s2, s3⟩ := hSw
                    go_simp
                    try with_reducible rfl
                  try simp only [Act.put, List.setIfInBounds_toArray, List.set_cons_zero, List.set_cons_succ]
                  refine wpAnyH_take (i := 4) (oi := ⟨_, _, _, _, _, _⟩) (v := .agg (outC x).toArray) rfl (by kernel_rfl) (by kernel_rfl) (by kernel_rfl) (fun _ _ _ h => h) (yieldsIf_load_mid (by rfl) 46 (.tmp 77) rfl (bx) (ox + k * 33) rfl (outC x) _ (fun W h => h.2.2.1) Try.underlying46 rfl HZx.out) (by assumption) ?_
                  try simp only [Act.put, List.setIfInBounds_toArray, List.set_cons_zero, List.set_cons_succ]
                  refine wpAnyH_take (i := 5) (oi := ⟨_, _, _, _, _, _⟩) (v := ?_) rfl (by kernel_rfl) (by kernel_rfl) (by kernel_rfl) (fun _ _ _ h => h) (Or.inl ⟨by rfl, ?_⟩) (by assumption) ?_
                  rotate_left 1
                  · intro W hSw
                    obtain ⟨s0, s1, s2, s3⟩ := hSw
                    go_simp
                    try with_reducible rfl
                  try simp only [Act.put, List.setIfInBounds_toArray, List.set_cons_zero, List.set_cons_succ]
                  refine wpAnyH_take (i := 6) (oi := ⟨_, _, _, _, _, _⟩) (v := ?_) rfl (by kernel_rfl) (by kernel_rfl) (by kernel_rfl) (fun _ _ _ h => h) (Or.inl ⟨by rfl, ?_⟩) (by assumption) ?_
                  rotate_left 1
                  · intro W hSw
                    obtain ⟨s0, s1, s2, s3⟩ := hSw
                    go_simp
                    try with_reducible rfl
                  try simp only [Act.put, List.setIfInBounds_toArray, List.set_cons_zero, List.set_cons_succ]
                  refine wpAnyH_take (i := 7) (oi := ⟨_, _, _, _, _, _⟩) (v := ?_) rfl (by kernel_rfl) (by kernel_rfl) (by kernel_rfl) (fun _ _ _ h => h) (Or.inl ⟨by rfl, ?_⟩) (by assumption) ?_
                  rotate_left 1
                  · intro W hSw
                    obtain ⟨s0, s1, s2, s3⟩ := hSw
                    go_simp
                    try with_reducible rfl
                  try simp only [Act.put, List.setIfInBounds_toArray, List.set_cons_zero, List.set_cons_succ]
                  refine wpAnyH_take (i := 8) (oi := ⟨_, _, _, _, _, _⟩) (v := ?_) rfl (by kernel_rfl) (by kernel_rfl) (by kernel_rfl) (fun _ _ _ h => h) (Or.inl ⟨by rfl, ?_⟩) (by assumption) ?_
                  rotate_left 1
                  · intro W hSw
                    obtain ⟨s0, s1, s2, s3⟩ := hSw
                    go_simp
                    try with_reducible rfl
                  try simp only [Act.put, List.setIfInBounds_toArray, List.set_cons_zero, List.set_cons_succ]
                  refine wpAnyH_take (i := 9) (oi := ⟨_, _, _, _, _, _⟩) (v := .agg (outC y).toArray) rfl (by kernel_rfl) (by kernel_rfl) (by kernel_rfl) (fun _ _ _ h => h) (yieldsIf_load_mid (by rfl) 46 (.tmp 82) rfl (by_) (oy + k * 33) rfl (outC y) _ (fun W h => h.2.2.2) Try.underlying46 rfl HZy.out) (by assumption) ?_
                  try simp only [Act.put, List.setIfInBounds_toArray, List.set_cons_zero, List.set_cons_succ]
                  refine wpAnyH_take (i := 10) (oi := ⟨_, _, _, _, _, _⟩) (v := ?_) rfl (by kernel_rfl) (by kernel_rfl) (by kernel_rfl) (fun _ _ _ h => h) (Or.inl ⟨by rfl, ?_⟩) (by assumption) ?_
                  rotate_left 1
                  · intro W hSw
                    obtain ⟨s0, s1, s2, s3⟩ := hSw
                    go_simp
                    try with_reducible rfl
                  try simp only [Act.put, List.setIfInBounds_toArray, List.set_cons_zero, List.set_cons_succ]
                  refine wpAnyH_done (by kernel_rfl) ?_ _
                  clear hHeld HSS
                  go_wp2
                  go_ret
                  exact ⟨_, rfl, same_not rfl (HNe.out hqq), (Hb0.out).trans ⟨Hb.out.os, Hb.out.tape, Hb.out.output, Hb.out.size, fun j hj => Hb.out.block j (by have := Hb0.out.size; omega)⟩⟩
                | false =>
                  have HQ := Lib.hid (hz.1 rfl)
                  clear hz
                  refine wpAnyH_take (i := 0) (oi := ⟨_, _, _, _, _, _⟩) (v := ?_) rfl (by kernel_rfl) (by kernel_rfl) (by kernel_rfl) (fun _ _ _ h => h) (Or.inl ⟨by rfl, ?_⟩) (by assumption) ?_
                  rotate_left 1
                  · intro W hSw
                    obtain ⟨s0, s1, s2, s3⟩ := hSw
                    go_simp
                    try with_reducible rfl
                  try simp only [Act.put, List.setIfInBounds_toArray, List.set_cons_zero, List.set_cons_succ]
                  refine wpAnyH_take (i := 1) (oi := ⟨_, _, _, _, _, _⟩) (v := ?_) rfl (by kernel_rfl) (by kernel_rfl) (by kernel_rfl) (fun _ _ _ h => h) (Or.inl ⟨by rfl, ?_⟩) (by assumption) ?_
                  rotate_left 1
                  · intro W hSw
                    obtain ⟨s0, s1, s2, s3⟩ := hSw
                    go_simp
                    try with_reducible rfl
                  try simp only [Act.put, List.setIfInBounds_toArray, List.set_cons_zero, List.set_cons_succ]
                  refine wpAnyH_take (i := 2) (oi := ⟨_, _, _, _, _, _⟩) (v := ?_) rfl (by kernel_rfl) (by kernel_rfl) (by kernel_rfl) (fun _ _ _ h => h) (Or.inl ⟨by rfl, ?_⟩) (by assumption) ?_
                  rotate_left 1
                  · intro W hSw
                    obtain ⟨s0, s1, s2, s3⟩ := hSw
                    go_simp
                    try with_reducible rfl
                  try simp only [Act.put, List.setIfInBounds_toArray, List.set_cons_zero, List.set_cons_succ]
                  refine wpAnyH_take (i := 3) (oi := ⟨_, _, _, _, _, _⟩) (v := ?_) rfl (by kernel_rfl) (by kernel_rfl) (by kernel_rfl) (fun _ _ _ h => h) (Or.inl ⟨by rfl, ?_⟩) (by assumption) ?_
                  rotate_left 1
                  · intro W hSw
                    obtain ⟨s0, s1, s2, s3⟩ := hSw
                    go_simp
                    try with_reducible rfl
                  try simp only [Act.put, List.setIfInBounds_toArray, List.set_cons_zero, List.set_cons_succ]
                  refine wpAnyH_take (i := 4) (oi := ⟨_, _, _, _, _, _⟩) (v := .agg (outC x).toArray) rfl (by kernel_rfl) (by kernel_rfl) (by kernel_rfl) (fun _ _ _ h => h) (yieldsIf_load_mid (by rfl) 46 (.tmp 77) rfl (bx) (ox + k * 33) rfl (outC x) _ (fun W h => h.2.2.1) Try.underlying46 rfl HZx.out) (by assumption) ?_
                  try simp only [Act.put, List.setIfInBounds_toArray, List.set_cons_zero, List.set_cons_succ]
                  refine wpAnyH_take (i := 5) (oi := ⟨_, _, _, _, _, _⟩) (v := ?_) rfl (by kernel_rfl) (by kernel_rfl) (by kernel_rfl) (fun _ _ _ h => h) (Or.inl ⟨by rfl, ?_⟩) (by assumption) ?_
                  rotate_left 1
                  · intro W hSw
                    obtain ⟨s0, s1, s2, s3⟩ := hSw
                    go_simp
                    try with_reducible rfl
                  try simp only [Act.put, List.setIfInBounds_toArray, List.set_cons_zero, List.set_cons_succ]
                  refine wpAnyH_take (i := 6) (oi := ⟨_, _, _, _, _, _⟩) (v := ?_) rfl (by kernel_rfl) (by kernel_rfl) (by kernel_rfl) (fun _ _ _ h => h) (Or.inl ⟨by rfl, ?_⟩) (by assumption) ?_
                  rotate_left 1
                  · intro W hSw
                    obtain ⟨s0, s1, s2, s3⟩ := hSw
                    go_simp
                    try with_reducible rfl
                  try simp only [Act.put, List.setIfInBounds_toArray, List.set_cons_zero, List.set_cons_succ]
                  refine wpAnyH_take (i := 7) (oi := ⟨_, _, _, _, _, _⟩) (v := ?_) rfl (by kernel_rfl) (by kernel_rfl) (by kernel_rfl) (fun _ _ _ h => h) (Or.inl ⟨by rfl, ?_⟩) (by assumption) ?_
                  rotate_left 1
                  · intro W hSw
                    obtain ⟨s0, s1, s2, s3⟩ := hSw
                    go_simp
                    try with_reducible rfl
                  try simp only [Act.put, List.setIfInBounds_toArray, List.set_cons_zero, List.set_cons_succ]
                  refine wpAnyH_take (i := 8) (oi := ⟨_, _, _, _, _, _⟩) (v := ?_) rfl (by kernel_rfl) (by kernel_rfl) (by kernel_rfl) (fun _ _ _ h => h) (Or.inl ⟨by rfl, ?_⟩) (by assumption) ?_
                  rotate_left 1
                  · intro W hSw
                    obtain ⟨s0, s1, s2, s3⟩ := hSw
                    go_simp
                    try with_reducible rfl
                  try simp only [Act.put, List.setIfInBounds_toArray, List.set_cons_zero, List.set_cons_succ]
                  refine wpAnyH_take (i := 9) (oi := ⟨_, _, _, _, _, _⟩) (v := .agg (outC y).toArray) rfl (by kernel_rfl) (by kernel_rfl) (by kernel_rfl) (fun _ _ _ h => h) (yieldsIf_load_mid (by rfl) 46 (.tmp 82) rfl (by_) (oy + k * 33) rfl (outC y) _ (fun W h => h.2.2.2) Try.underlying46 rfl HZy.out) (by assumption) ?_
                  try simp only [Act.put, List.setIfInBounds_toArray, List.set_cons_zero, List.set_cons_succ]
                  refine wpAnyH_take (i := 10) (oi := ⟨_, _, _, _, _, _⟩) (v := ?_) rfl (by kernel_rfl) (by kernel_rfl) (by kernel_rfl) (fun _ _ _ h => h) (Or.inl ⟨by rfl, ?_⟩) (by assumption) ?_
                  rotate_left 1
                  · intro W hSw
                    obtain ⟨s0, s1, s2, s3⟩ := hSw
                    go_simp
                    try with_reducible rfl
                  try simp only [Act.put, List.setIfInBounds_toArray, List.set_cons_zero, List.set_cons_succ]
                  refine wpAnyH_done (by kernel_rfl) ?_ _
                  clear hHeld HSS
                  go_wp2
                  go_roundw
                  case rel => exact ⟨k + 1, by omega, by go_num, HNx.out HQ.out, ⟨Hb.out.os, Hb.out.tape, Hb.out.output, Hb.out.size, Hb.out.block⟩⟩
                  case measure => simp [intOf] <;> omega
              · obtain rfl : k = m := by omega
                have HO : t.outs = u.outs := by
                  refine List.ext_getElem (by rw [Hmm.out, Hmu.out]) (fun j h1 h2 => ?_)
                  exact HL.out j h1 h2 (by rw [Hmm.out] at h1; exact h1)
                have HE : Hid (txP t = txP u) := by show _ = _; unfold txP; rw [HALL.out, HO, Hno.out]
                clear HO
                go_wp2
                go_ret
                exact ⟨_, rfl, ⟨fun _ => HE.out, fun _ => rfl⟩, (Hb0.out).trans ⟨Hb.out.os, Hb.out.tape, Hb.out.output, Hb.out.size, fun j hj => Hb.out.block j (by have := Hb0.out.size; omega)⟩⟩

      · have hne : txP t ≠ txP u := fun e => ho (by have := congrArg (fun p : TxP => p.outs.length) e; simp [txP] at this; omega)
        go_enter Try.func17, Try.ntmps17
        go_wp2
        go_ret
        exact ⟨_, rfl, same_not rfl hne, Hb0.out⟩
    · have hne : txP t ≠ txP u := fun e => hi (by have := congrArg (fun p : TxP => p.ins.length) e; simp [txP] at this; omega)
      go_enter Try.func17, Try.ntmps17
      go_wp2
      go_ret
      exact ⟨_, rfl, same_not rfl hne, Hb0.out⟩
  · have hne : txP t ≠ txP u := fun e => hn (by have := congrArg TxP.nonce e; simp [txP] at this; omega)
    go_enter Try.func17, Try.ntmps17
    go_wp2
    go_ret
    exact ⟨_, rfl, same_not rfl hne, Hb0.out⟩
end Go.Proofs.Ytjcbihdhkaiidaa
