/-
  block, the document's: HeaderBytes. · block: headers' ids, the program's and the document's.
-/
import Derived.Test.YtbloomnifhcgbaaGreatDoorBk1
import Derived.Test.YtbloomnifhcgbaaGreatDoorTq
import Derived.Test.YtbloomnifhcgbaaGreatDoorTxD
import Derived.Test.YtbloomnifhcgbaaGreatDoorTxE
namespace Go.Proofs.YtbloomnifhcgbaaGreatDoor
open Go.RowKit

theorem rng_sees {w : World} {b o B : Nat} {x : List UInt8} (h : w.rangeAt b o (By x)) (hB : b < B) : Sees w B (some ⟨b, o, none⟩) x :=
  .inr ⟨b, o, rfl, hB, fun i hi => h i _ (by simp [By, hi])⟩
theorem own_len {A : Option Addr} {n m c : Nat} : (Value.slice A n c).ownBlock = (Value.slice A m c).ownBlock := by cases A <;> rfl
theorem fill_step (place : Nat → Option (Nat × Nat)) (z : List Value) (i off : Nat) (vs : List Value) (hp : place i = some (off, vs.length)) (ho : off + vs.length ≤ z.length) (rest : List (Nat × Value)) :
    Instr.fill place z.toArray ((i, .agg vs.toArray) :: rest) = Instr.fill place (z.take off ++ vs ++ z.drop (off + vs.length)).toArray rest := by
  have h := foldl_set off vs 0 z (by omega)
  simp only [Nat.add_zero] at h
  have hc : (Value.agg vs.toArray).cells = vs.toArray := rfl
  conv => lhs; unfold Instr.fill
  simp only [hc, hp, List.size_toArray]
  rw [if_neg (by simp; omega)]
  congr 1
  refine Eq.trans ?_ h
  simp
theorem put_part (pre old x post : List Value) (hl : old.length = x.length) (k : Nat) (hk : k = pre.length) : ((pre ++ (old ++ post)).take k ++ x ++ (pre ++ (old ++ post)).drop (k + x.length)) = pre ++ (x ++ post) := by
  subst hk
  rw [List.take_append_of_le_length (Nat.le_refl _), List.take_length, List.drop_append, List.drop_eq_nil_of_le (by omega), List.nil_append, show pre.length + x.length - pre.length = x.length by omega, List.drop_append, List.drop_eq_nil_of_le (by omega), List.nil_append, hl, Nat.sub_self, List.drop_zero, List.append_assoc]
theorem fill_four {a b c d : List Value} (ha : a.length = 32) (hb : b.length = 32) (hc : c.length = 32) (hd : d.length = 32) (z : List Value) (hz : z = By zero32 ++ (By zero32 ++ (By zero32 ++ By zero32))) :
    Instr.fill (fun i => some (i * 32, 32)) z.toArray [(0, .agg a.toArray), (1, .agg b.toArray), (2, .agg c.toArray), (3, .agg d.toArray)] = some (a ++ (b ++ (c ++ d))).toArray := by
  have hl : (By zero32).length = 32 := rfl
  subst hz
  obtain ⟨q, hq⟩ : ∃ q, By zero32 = q := ⟨_, rfl⟩
  rw [hq] at hl ⊢
  clear hq
  rw [fill_step _ _ 0 0 a (by rw [ha]) (by simp only [List.length_append]; omega)]
  have e1 := put_part [] q a (q ++ (q ++ q)) (by omega) 0 rfl
  simp only [List.nil_append, List.append_assoc] at e1 ⊢
  rw [e1, fill_step _ _ 1 32 b (by rw [hb]) (by simp only [List.length_append]; omega)]
  have e2 := put_part a q b (q ++ q) (by omega) 32 ha.symm
  simp only [List.append_assoc] at e2 ⊢
  rw [e2, fill_step _ _ 2 64 c (by rw [hc]) (by simp only [List.length_append]; omega)]
  have e3 := put_part (a ++ b) q c q (by omega) 64 (by simp only [List.length_append]; omega)
  simp only [List.append_assoc] at e3 ⊢
  rw [e3, fill_step _ _ 3 96 d (by rw [hd]) (by simp only [List.length_append]; omega)]
  have e4 := put_part (a ++ (b ++ c)) q d [] (by omega) 96 (by simp only [List.length_append]; omega)
  simp only [List.append_nil, List.append_assoc] at e4 ⊢
  rw [e4]
  rfl
theorem Tryz.a32info : (Tryz.prog.info? 25).map (fun i => (i.zero, i.size, i.bytes)) = some (some (.agg (By zero32).toArray), 32, 32) := by kernel_rfl
theorem Tryz.a32size : (Tryz.prog.info? 25).map (·.size) = some 32 := by kernel_rfl
theorem zeros4 : ((Array.range (4 * 32)).map ((Value.agg (By zero32).toArray).cells[· % (Value.agg (By zero32).toArray).cells.size]!)) = (By zero32 ++ (By zero32 ++ (By zero32 ++ By zero32))).toArray := by kernel_rfl
/-- The four hashes behind the parents. -/
def four (p : HdP) : List (List UInt8) := [p.rt, p.ac, p.co, p.mi]
theorem four_32 {p : HdP} (f : HdFit p) : All32 (four p) := by
  intro x hx
  simp only [four, List.mem_cons, List.not_mem_nil, or_false] at hx
  rcases hx with rfl | rfl | rfl | rfl
  · exact f.rt
  · exact f.ac
  · exact f.co
  · exact f.mi
theorem wpList_build4 {ops : Array Oper} {rest : List Oper} {o : Oper} {a : Act} {w : World} {Q : Exit → Act → World → Prop} (hg : o.guard = none) (x0 x1 x2 x3 : Operand) (ho : o.op = .buildSlice 119 4 #[(0, x0), (1, x1), (2, x2), (3, x3)])
    (p : HdP) (f : HdFit p) (h0 : a.eval x0 = .agg (By p.rt).toArray) (h1 : a.eval x1 = .agg (By p.ac).toArray) (h2 : a.eval x2 = .agg (By p.co).toArray) (h3 : a.eval x3 = .agg (By p.mi).toArray)
    (h : wpList Tryz.prog ops Q rest (a.put o.dst (.slice (some ⟨w.heap.size, 0, none⟩) 4 4)) (w.alloc (.cells (Hs (four p)).toArray 25))) : wpList Tryz.prog ops Q (o :: rest) a w := by
  obtain ⟨i0, hi, hz0, hz1, hz2⟩ := info_parts Tryz.a32info
  refine wpList_buildSlice hg 119 25 4 #[(0, x0), (1, x1), (2, x2), (3, x3)] ho (Hs (four p)).toArray i0 _ Tryz.underlying119 hi hz0 (by rw [hz1]; omega) (by rw [hz1]; omega) ?_ h
  rw [hz1, zeros4]
  have e : (#[(0, x0), (1, x1), (2, x2), (3, x3)].map fun (q : Nat × Operand) => (q.1, a.eval q.2)).toList = [(0, .agg (By p.rt).toArray), (1, .agg (By p.ac).toArray), (2, .agg (By p.co).toArray), (3, .agg (By p.mi).toArray)] := by simp [h0, h1, h2, h3]
  have hf := fill_four (a := By p.rt) (b := By p.ac) (c := By p.co) (d := By p.mi) (by rw [By_length, f.rt]) (by rw [By_length, f.ac]) (by rw [By_length, f.co]) (by rw [By_length, f.mi]) _ rfl
  have eH : Hs (four p) = By p.rt ++ (By p.ac ++ (By p.co ++ By p.mi)) := by simp [Hs, four, By]
  rw [eH, ← hf, ← e]

def RHBytesPost (w : World) (h : HdR) (e : Ending) (w' : World) : Prop := (∃ A c, e = .returned (.slice A (packH h.p).length c) ∧ (packH h.p).length ≤ c ∧ Sees w' w'.heap.size A (packH h.p)) ∧ Below w.heap.size w w'

set_option maxHeartbeats 4000000 in
set_option maxRecDepth 100000 in
theorem rhbytes_any (w : World) (h : HdR) (k : HdOk w h) (hz : mayH h.p = true) : Calls Tryz.prog 35 #[.agg (hdC h).toArray] w (RHBytesPost w h) := by
  have hB : Blk (w.alloc (.cells (hdC h).toArray 29)) w.heap.size 29 (hdC h).toArray := heap_alloc_new w _
  have hb0 : Below w.heap.size w (w.alloc (.cells (hdC h).toArray 29)) := nxAl (nxRf w) _
  have Hb0 := Lib.hid hb0
  have HROW := Lib.hid (HdRow.of (blkR hB) k.f)
  have Hs0 : Hid (w.heap.size < (w.alloc (.cells (hdC h).toArray 29)).heap.size) := by show _ < _; simp
  have HF := Lib.hid k.f
  have hn : h.p.ps.length ≤ 255 := of_decide_eq_true hz
  have HFl : Hid ((packH h.p).length ≤ 30000) := by show _ ≤ _; rw [packH_len k.f]; omega
  have HP : Hid (packH h.p = (leB h.p.ps.length 2 ++ h.p.ps.flatten) ++ ((four h.p).flatten ++ leB h.p.nonce 8)) := by show _ = _; simp [packH, four]
  have HLi : Hid (∀ k, (h.p.ps.take k).flatten.length ≤ 8160) := by
    intro j
    rw [All32.flat (fun x hx => k.f.ps x (List.mem_of_mem_take hx)), List.length_take]; omega
  have HL4 : Hid (∀ k, ((four h.p).take k).flatten.length ≤ 128) := by
    intro j
    rw [All32.flat (fun x hx => four_32 k.f x (List.mem_of_mem_take hx)), List.length_take]
    have : (four h.p).length = 4 := rfl
    omega
  have hc0 : (w.alloc (.cells (hdC h).toArray 29)).cell? ⟨w.heap.size, 0, none⟩ = some (.slice h.A h.p.ps.length h.c) := HROW.out.ps
  have HS : Hid (SeesV w w.heap.size h.A (Hs h.p.ps)) := k.s
  have H432 := Lib.hid (four_32 k.f)
  have HN := Lib.hid k.f.nonce
  obtain ⟨F, hF⟩ : ∃ F, packH h.p = F := ⟨_, rfl⟩
  obtain ⟨l, hl⟩ : ∃ F, h.p.ps = F := ⟨_, rfl⟩
  obtain ⟨q, hq⟩ : ∃ F, four h.p = F := ⟨_, rfl⟩
  have HQ4 : Hid (q.length = 4) := by show _ = _; rw [← hq]; rfl
  have HQ := Lib.hid hq
  unfold RHBytesPost
  have H32 : Hid (All32 h.p.ps) := k.f.ps
  rw [hF] at HP HFl ⊢
  rw [hl] at HP HLi HS H32 hn hc0
  rw [hq] at HP HL4 H432
  have HLe := Lib.hid hl
  have HHp : Hid (HdFit h.p) := k.f
  have hwl1 : IntKind.u64.wrap (l.length : Int) = (l.length : Int) := by rw [IntKind.wrap_u64]; omega
  obtain ⟨i0, hi, hz0, hz1, hz2⟩ := info_parts Tryz.u8info
  clear hB hb0 hz k hF hl hq
  go_enter Tryz.func35, Tryz.ntmps35
  go_wp2_with (go_at_call 61; refine (refNumZ_any _ l.length (by omega) 2 rfl).mono ?_; rintro e w3 ⟨A1, c1, rfl, ho3, hb3⟩; have HO3 := Lib.hid ho3; have V3 : Hid (Below w.heap.size w w3) := nxTr Hb0.out hb3; have VW3 := Lib.hid hb3; clear ho3 hb3)
  clear hc0 hwl1
  generalize (w.alloc (.cells (hdC h).toArray 29)) = W0 at *
  go_loopw [3, 4] (fun bv iv wr => ∃ (k : Nat) (A1 : Option Addr) (c1 : Nat), k ≤ l.length ∧ iv = .int .i64 k ∧ bv = .slice A1 (leB l.length 2 ++ (l.take k).flatten).length c1 ∧ Hid (wr.ownsRow W0.heap.size 5 1 (.slice A1 (leB l.length 2 ++ (l.take k).flatten).length c1) (leB l.length 2 ++ (l.take k).flatten).length (By (leB l.length 2 ++ (l.take k).flatten))) ∧ Hid (Below W0.heap.size W0 wr)) (fun _ iv _ => l.length - (intOf iv).toNat)
  case atStart => exact ⟨0, A1, c1, by omega, rfl, (by simp [leB_length]), Lib.hid (by simpa [leB_length] using HO3.out), VW3.out⟩
  case round =>
    clear HO3 V3 VW3
    obtain ⟨k, A1, c1, hk, rfl, rfl, HO, Hb⟩ := hrel
    have hc0 : wr.cell? ⟨w.heap.size, 0, none⟩ = some (.slice h.A l.length h.c) := by
      have h1 := (HROW.out.below Hb.out Hs0.out).ps
      rw [HLe.out] at h1; exact h1
    have HBg : Hid (Below w.heap.size w wr) := nxTr Hb0.out Hb.out
    by_cases hlt : k < l.length
    · have hin : (k : Int) < (l.length : Int) := by omega
      obtain ⟨b, off, hA, hbb, hr⟩ := SeesV.hash HS.out H32.out hlt
      have hrk := rngB (hr k hlt) HBg.out hbb
      have hik := H32.out.get hlt
      have hnx := flat_next l k hlt
      have hll := HLi.out k
      rw [hA] at hc0
      obtain ⟨x, hx⟩ : ∃ i, l[k] = i := ⟨_, rfl⟩
      rw [hx] at hrk hik hnx
      obtain ⟨L, hL⟩ : ∃ L, leB l.length 2 ++ (l.take k).flatten = L := ⟨_, rfl⟩
      have HLn : Hid (leB l.length 2 ++ (l.take (k + 1)).flatten = L ++ x) := by show _ = _; rw [hnx, ← List.append_assoc, hL]
      have HLl : Hid (L.length ≤ 8162) := by show _ ≤ _; rw [← hL, List.length_append, leB_length]; omega
      rw [hL] at HO ⊢
      have HSx := Lib.hid (rng_sees (B := wr.heap.size) hrk (Nat.lt_of_lt_of_le hbb HBg.out.size))
      have HX := Lib.hid hik
      clear hr hrk hik hx hnx hll hA hL
      go_wp2_with ((with_reducible show wpList _ _ _ (⟨some 25, _, _, _, _, _⟩ :: _) _ _); refine wpList_append_sees rfl (.tmp 19) (.tmp 24) 22 rfl W0.heap.size 5 i0 (.int .u8 0) Tryz.underlying22 hi hz0 hz1 hz2 rfl (.slice A1 L.length c1) L.length (By L) rfl HO.out wr.heap.size (some ⟨b, off + k * 32, none⟩) 32 32 x rfl HX.out.symm HSx.out (by have := HLl.out; omega) Hb.out.size ?_; intro v2 w2 ho2 hg2 hat2; obtain ⟨A2, c2, rfl⟩ := own_form ho2; have HO2 : Hid (w2.ownsRow W0.heap.size 5 1 (.slice A2 (L ++ x).length c2) (L ++ x).length (By (L ++ x))) := (by rw [List.length_append, HX.out, By_append]; exact ho2); have Hb2 : Hid (Below W0.heap.size W0 w2) := Hb.out.grown hg2 Hb.out.size (fun j hj => (own_lt HO.out j hj).1); have HL2 : Hid (L.length + 32 = (L ++ x).length) := (by show _ = _; rw [List.length_append, HX.out]); clear ho2 hg2 hat2)
      rw [HL2.out]
      go_roundw
      case rel => exact ⟨k + 1, A2, c2, by omega, by go_num, by rw [HLn.out], by rw [HLn.out]; exact HO2.out, Hb2.out⟩
      case measure => simp [intOf] <;> omega
    · obtain rfl : k = l.length := by omega
      rw [List.take_length] at HO ⊢
      obtain ⟨L, hL⟩ : ∃ L, leB l.length 2 ++ l.flatten = L := ⟨_, rfl⟩
      have HLl : Hid (L.length ≤ 8162) := by
        have h := HLi.out l.length
        rw [List.take_length] at h
        show _ ≤ _
        rw [← hL, List.length_append, leB_length]; omega
      rw [hL] at HO HP ⊢
      have HRb := Lib.hid (HROW.out.below Hb.out Hs0.out)
      clear hL hlt HLe
      go_wp2_with (first
        | ((with_reducible show wpList _ _ _ (⟨some 27, _, _, _, _, _⟩ :: _) _ _); refine wpList_load_mid rfl 26 (.tmp 26) rfl w.heap.size 1 rfl (By h.p.rt) _ HRb.out.rt Tryz.underlying26 rfl (hsz HHp.out.rt) ?_)
        | ((with_reducible show wpList _ _ _ (⟨some 29, _, _, _, _, _⟩ :: _) _ _); refine wpList_load_mid rfl 26 (.tmp 28) rfl w.heap.size 33 rfl (By h.p.ac) _ HRb.out.ac Tryz.underlying26 rfl (hsz HHp.out.ac) ?_)
        | ((with_reducible show wpList _ _ _ (⟨some 31, _, _, _, _, _⟩ :: _) _ _); refine wpList_load_mid rfl 26 (.tmp 30) rfl w.heap.size 65 rfl (By h.p.co) _ HRb.out.co Tryz.underlying26 rfl (hsz HHp.out.co) ?_)
        | ((with_reducible show wpList _ _ _ (⟨some 33, _, _, _, _, _⟩ :: _) _ _); refine wpList_load_mid rfl 26 (.tmp 32) rfl w.heap.size 97 rfl (By h.p.mi) _ HRb.out.mi Tryz.underlying26 rfl (hsz HHp.out.mi) ?_)
        | ((with_reducible show wpList _ _ _ (⟨some 34, _, _, _, _, _⟩ :: _) _ _); refine wpList_build4 rfl (.tmp 27) (.tmp 29) (.tmp 31) (.tmp 33) rfl h.p HHp.out rfl rfl rfl rfl ?_; rw [HQ.out]))
      have HSq : Hid (Blk (wr.alloc (.cells (Hs q).toArray 25)) wr.heap.size 25 (Hs q).toArray) := heap_alloc_new wr _
      have HOq := Lib.hid (own_gb HO.out (nxAl (nxRf wr) (.cells (Hs q).toArray 25)))
      have Hbq : Hid (Below W0.heap.size W0 (wr.alloc (.cells (Hs q).toArray 25))) := nxAl Hb.out _
      have HNq : Hid (∀ j, (Value.slice A1 L.length c1).ownBlock = some j → j ≠ wr.heap.size) := fun j hj => by have := (own_lt HO.out j hj).2; omega
      obtain ⟨W1, hW1⟩ : ∃ W, wr.alloc (.cells (Hs q).toArray 25) = W := ⟨_, rfl⟩
      obtain ⟨g4, hg4⟩ : ∃ W, wr.heap.size = W := ⟨_, rfl⟩
      rw [hW1] at HSq HOq Hbq ⊢
      rw [hg4] at HSq HNq ⊢
      clear hW1 hg4 HO Hb HRb hc0 HBg
      go_loopw [3, 6] (fun bv iv wr => ∃ (k : Nat) (A1 : Option Addr) (c1 : Nat), k ≤ 4 ∧ iv = .int .i64 k ∧ bv = .slice A1 (L ++ (q.take k).flatten).length c1 ∧ Hid (wr.ownsRow W0.heap.size 5 1 (.slice A1 (L ++ (q.take k).flatten).length c1) (L ++ (q.take k).flatten).length (By (L ++ (q.take k).flatten))) ∧ Hid (∀ j, (Value.slice A1 (L ++ (q.take k).flatten).length c1).ownBlock = some j → j ≠ g4) ∧ Hid (Blk wr g4 25 (Hs q).toArray) ∧ Hid (Below W0.heap.size W0 wr)) (fun _ iv _ => 4 - (intOf iv).toNat)
      case atStart => exact ⟨0, A1, c1, by omega, rfl, (by simp), Lib.hid (by simpa using HOq.out), (by rw [show (q.take 0).flatten = [] from rfl, List.append_nil]; exact HNq), HSq.out, Hbq.out⟩
      case round =>
        clear HOq HNq HSq Hbq
        obtain ⟨k, A1, c1, hk, rfl, rfl, HO, HNe, HBq, Hb⟩ := hrel
        by_cases hlt : k < 4
        · have hin : (k : Int) < 4 := by omega
          have hlq : k < q.length := by rw [HQ4.out]; exact hlt
          obtain ⟨b, off, hA, hbb, hr⟩ := SeesV.hash (SeesV.blk (cs := (Hs q).toArray) HBq.out) H432.out hlq
          injection hA with hA
          injection hA with hA1 hA2
          subst hA1 hA2
          have hrk := hr k hlq
          rw [Nat.zero_add] at hrk
          have hik := H432.out.get hlq
          have hnx := flat_next q k hlq
          have hll := HL4.out k
          obtain ⟨x, hx⟩ : ∃ i, q[k] = i := ⟨_, rfl⟩
          rw [hx] at hrk hik hnx
          obtain ⟨M, hM⟩ : ∃ M, L ++ (q.take k).flatten = M := ⟨_, rfl⟩
          have HLn : Hid (L ++ (q.take (k + 1)).flatten = M ++ x) := by show _ = _; rw [hnx, ← List.append_assoc, hM]
          have HLl2 : Hid (M.length ≤ 8290) := by show _ ≤ _; have := HLl.out; rw [← hM, List.length_append]; omega
          rw [hM] at HO HNe ⊢
          have HSx := Lib.hid (rng_sees (B := wr.heap.size) hrk HBq.out.lt)
          have HX := Lib.hid hik
          clear hr hrk hik hx hnx hll hM hbb
          go_wp2_with ((with_reducible show wpList _ _ _ (⟨some 44, _, _, _, _, _⟩ :: _) _ _); refine wpList_append_sees rfl (.tmp 39) (.tmp 43) 22 rfl W0.heap.size 5 i0 (.int .u8 0) Tryz.underlying22 hi hz0 hz1 hz2 rfl (.slice A1 M.length c1) M.length (By M) rfl HO.out wr.heap.size (some ⟨g4, k * 32, none⟩) 32 32 x (by simp [Act.eval]) HX.out.symm HSx.out (by have := HLl2.out; omega) Hb.out.size ?_; intro v2 w2 ho2 hg2 hat2; obtain ⟨A2, c2, rfl⟩ := own_form ho2; have HO2 : Hid (w2.ownsRow W0.heap.size 5 1 (.slice A2 (M ++ x).length c2) (M ++ x).length (By (M ++ x))) := (by rw [List.length_append, HX.out, By_append]; exact ho2); have Hb2 : Hid (Below W0.heap.size W0 w2) := Hb.out.grown hg2 Hb.out.size (fun j hj => (own_lt HO.out j hj).1); have HB2 : Hid (Blk w2 g4 25 (Hs q).toArray) := blkG HBq.out hg2 (fun h => HNe.out g4 h.symm rfl); have HN2 : Hid (∀ j, (Value.slice A2 (M ++ x).length c2).ownBlock = some j → j ≠ g4) := (fun j hj => by rw [own_len (m := M.length + 32)] at hj; rcases hat2 with h | h; exact HNe.out j (by rw [← h]; exact hj); rw [h] at hj; injection hj with hj; have := HBq.out.lt; omega); have HL2 : Hid (M.length + 32 = (M ++ x).length) := (by show _ = _; rw [List.length_append, HX.out]); clear ho2 hg2 hat2)
          rw [HL2.out]
          go_roundw
          case rel => exact ⟨k + 1, A2, c2, by omega, by go_num, by rw [HLn.out], by rw [HLn.out]; exact HO2.out, by rw [HLn.out]; exact HN2.out, HB2.out, Hb2.out⟩
          case measure => simp [intOf] <;> omega
        · obtain rfl : k = 4 := by omega
          have ht : q.take 4 = q := List.take_of_length_le (by rw [HQ4.out]; omega)
          have hll := HL4.out 4
          rw [ht] at HO HNe hll ⊢
          obtain ⟨M, hM⟩ : ∃ M, L ++ q.flatten = M := ⟨_, rfl⟩
          have HMl : Hid (M.length ≤ 8290) := by show _ ≤ _; have := HLl.out; rw [← hM, List.length_append]; omega
          have HPF : Hid (F = M ++ leB h.p.nonce 8) := by show _ = _; rw [HP.out, ← hM, List.append_assoc]
          rw [hM] at HO HNe ⊢
          have hcn : wr.cell? ⟨w.heap.size, 129, none⟩ = some (.int .u64 (h.p.nonce : Int)) := (HROW.out.below Hb.out Hs0.out).nonce
          clear hM ht hll hlt HP HQ
          go_wp2_with (first
            | (go_at_call 61; refine (refNumZ_any _ h.p.nonce HN.out 8 rfl).mono ?_; rintro e w5 ⟨A5, c5, rfl, ho5, hb5⟩; have HS5 := Lib.hid (Sees.own ho5); have HO5 : Hid (w5.ownsRow W0.heap.size 5 1 (.slice A1 M.length c1) M.length (By M)) := Lib.hid (own_gb HO.out hb5); have Hb5 : Hid (Below W0.heap.size W0 w5) := nxTr Hb.out hb5; clear ho5 hb5)
            | ((with_reducible show wpList _ _ _ (⟨some 49, _, _, _, _, _⟩ :: _) _ _); refine wpList_append_sees rfl (.tmp 45) (.tmp 48) 22 rfl W0.heap.size 5 i0 (.int .u8 0) Tryz.underlying22 hi hz0 hz1 hz2 rfl (.slice A1 M.length c1) M.length (By M) rfl HO5.out w5.heap.size A5 8 c5 (leB h.p.nonce 8) rfl (leB_length _ _).symm HS5.out (by have := HMl.out; omega) Hb5.out.size ?_; intro v6 w6 ho6 hg6 hat6; obtain ⟨A6, c6, rfl⟩ := own_form ho6; have HO6 : Hid (w6.ownsRow W0.heap.size 5 1 (.slice A6 F.length c6) F.length (By F)) := (by rw [HPF.out, List.length_append, leB_length, By_append]; exact ho6); have Hb6 : Hid (Below W0.heap.size W0 w6) := Hb5.out.grown hg6 Hb5.out.size (fun j hj => (own_lt HO5.out j hj).1); have HL6 : Hid (M.length + 8 = F.length) := (by show _ = _; rw [HPF.out, List.length_append, leB_length]); clear ho6 hg6 hat6))
          rw [HL6.out]
          go_ret
          exact ⟨⟨A6, c6, rfl, own_cp HO6.out, Sees.own HO6.out⟩, nxTr Hb0.out Hb6.out⟩
end Go.Proofs.YtbloomnifhcgbaaGreatDoor
namespace Go.Proofs.YtbloomnifhcgbaaGreatDoor
open Go.RowKit

def nmBl : ByteArray := ⟨#[98, 108, 111, 99, 107]⟩
/-- A header's id. -/
def idH (p : HdP) : List UInt8 := bif mayH p then shaB (tagB (cutN nmBl) (packH p)) else zero32
theorem idH_len (p : HdP) : (idH p).length = 32 := by
  unfold idH
  cases mayH p
  · rfl
  · exact shaB_length _
theorem packH_le {p : HdP} (f : HdFit p) (hz : mayH p = true) : (packH p).length ≤ 30000 := by
  have hn : p.ps.length ≤ 255 := of_decide_eq_true hz
  rw [packH_len f]; omega

set_option maxHeartbeats 1000000 in
set_option maxRecDepth 100000 in
theorem idh_any (w : World) (hTb : Tabs w) (h : HdR) (k : HdOk w h) : Calls Tryz.prog 12 #[.agg (hdC h).toArray] w fun e w' => e = .returned (.agg (By (idH h.p)).toArray) ∧ Below w.heap.size w w' := by
  have hb0 : Below w.heap.size w ((w.alloc (.cells (hdC h).toArray 29)).alloc (.cells (By zero32).toArray 26)) := nxAl (nxAl (nxRf w) _) _
  have hBk : Blk ((w.alloc (.cells (hdC h).toArray 29)).alloc (.cells (By zero32).toArray 26)) w.heap.size 29 (hdC h).toArray := Blk.alloc (heap_alloc_new w _) _
  have hHk : Blk ((w.alloc (.cells (hdC h).toArray 29)).alloc (.cells (By zero32).toArray 26)) (w.heap.size + 1) 26 (By zero32).toArray := Blk.newAt (by simp) rfl
  have HR := Lib.hid (blkR (vs := hdC h) hBk)
  have HH := Lib.hid hHk
  have HT := Lib.hid (k.later hb0)
  have HTb := Lib.hid hTb
  have HZ := Lib.hid (hdSz k.f)
  have HZ0 := Lib.hid (Tryz.hsizeB zero32 rfl)
  have Hb0 := Lib.hid hb0
  cases hzm : mayH h.p with
  | true =>
    have HZm := Lib.hid hzm
    have HV : Hid (idH h.p = shaB (tagB (cutN nmBl) (packH h.p))) := by show _ = _; rw [idH, hzm]; rfl
    have HL := Lib.hid (packH_le k.f hzm)
    have HI := Lib.hid (idH_len h.p)
    obtain ⟨x, hx⟩ : ∃ x, idH h.p = x := ⟨_, rfl⟩
    obtain ⟨F, hF⟩ : ∃ F, packH h.p = F := ⟨_, rfl⟩
    have HF := Lib.hid hF
    rw [hx] at HV HI ⊢
    rw [hF] at HV HL
    have HZx := Lib.hid (Tryz.hsizeB x HI.out)
    have HFl : Hid (([F] : List (List UInt8)).flatten = F) := by show _ = _; simp
    clear hzm k hBk hHk hb0 hx hF hTb
    go_enter Tryz.func12, Tryz.ntmps12
    go_wp2_with (first
      | ((with_reducible show wpList _ _ _ (⟨some 6, _, _, _, _, _⟩ :: _) _ _); refine wpList_load_mid rfl 29 (.tmp 1) rfl w.heap.size 0 rfl (hdC h) _ HR.out Tryz.underlying29 rfl HZ.out ?_)
      | (go_at_call 14; refine (hbytes_yes _ h HT.out HZm.out).mono ?_; unfold HBytesPost; rw [HF.out]; rintro e w2 ⟨⟨A3, c3, B0, rfl, hB0, ho3⟩, hb2⟩; have Hb2 : Hid (Below w.heap.size w w2) := nxTr Hb0.out hb2; have H2 := Lib.hid (HH.out.below hb2 HH.out.lt); have S3 := Lib.hid (Sees.own ho3); have C3 := Lib.hid (own_cp ho3); clear hb2 hB0 ho3)
      | (go_at_call 34; refine (tag_any _ (HTb.out.later (nxAl Hb2.out _)) nmBl _ 1 1 [F] rfl (SeesL.one (SeesO.of S3.out (by simp)) rfl C3.out (by simp)) (by rw [HFl.out]; have := HL.out; omega) (by omega) (by show 5 ≤ _; omega)).mono ?_; rw [HFl.out, ← HV.out]; rintro e w4 ⟨rfl, hb4⟩; have Hb4 : Hid (Below w.heap.size w w4) := nxTr (nxAl Hb2.out _) hb4; have H4 := Lib.hid ((Blk.alloc H2.out _).below hb4 (Blk.alloc H2.out _).lt); clear hb4)
      | ((with_reducible show wpList _ _ _ (⟨none, .store 26 _ _, _, _, _, _⟩ :: _) _ _); refine wpList_store_all rfl 26 (.tmp 2) (.tmp 15) rfl (w.heap.size + 1) 26 (By zero32).toArray (By x).toArray rfl rfl H4.out (by rw [List.size_toArray, List.size_toArray, By_length, By_length, HI.out]; rfl) HZx.out (By_one _) ?_; intro w5 h5 h6 h7; have H5 := Lib.hid h5; have Hb5 : Hid (Below w.heap.size w w5) := Hb4.out.trans (h6.below Hb4.out.size (fun k hk => by omega)); clear h5 h6 h7))
    refine bodyPost_ret (results_cell_row Tryz.results12 _ _ (w.heap.size + 1) 26 _ (0, 0) _ rfl H5.out Tryz.underlying26 rfl HZx.out) rfl ⟨rfl, Hb5.out⟩
  | false =>
    have HV : Hid (idH h.p = zero32) := by show _ = _; rw [idH, hzm]; rfl
    have HZm := Lib.hid hzm
    rw [HV.out]
    clear k hBk hHk hb0 hTb hzm
    go_enter Tryz.func12, Tryz.ntmps12
    go_wp2_with (first
      | ((with_reducible show wpList _ _ _ (⟨some 6, _, _, _, _, _⟩ :: _) _ _); refine wpList_load_mid rfl 29 (.tmp 1) rfl w.heap.size 0 rfl (hdC h) _ HR.out Tryz.underlying29 rfl HZ.out ?_)
      | (go_at_call 14; refine (hbytes_no _ h HT.out HZm.out).mono ?_; rintro e w2 ⟨rfl, hb2⟩; have Hb2 : Hid (Below w.heap.size w w2) := nxTr Hb0.out hb2; have H2 := Lib.hid (HH.out.below hb2 HH.out.lt); clear hb2)
      | ((with_reducible show wpList _ _ _ (⟨none, .store 26 _ _, _, _, _, _⟩ :: _) _ _); refine wpList_store_all rfl 26 (.tmp 2) (.tmp 12) rfl (w.heap.size + 1) 26 (By zero32).toArray (By zero32).toArray rfl rfl H2.out rfl HZ0.out (By_one _) ?_; intro w5 h5 h6 h7; have H5 := Lib.hid h5; have Hb5 : Hid (Below w.heap.size w w5) := Hb2.out.trans (h6.below Hb2.out.size (fun k hk => by omega)); clear h5 h6 h7))
    refine bodyPost_ret (results_cell_row Tryz.results12 _ _ (w.heap.size + 1) 26 _ (0, 0) _ rfl H5.out Tryz.underlying26 rfl HZ0.out) rfl ⟨rfl, Hb5.out⟩
end Go.Proofs.YtbloomnifhcgbaaGreatDoor
