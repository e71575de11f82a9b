/-
  merkle, the program's: Lead.
-/
import Derived.Test.YtcbdjcmjchoagaaDoorMkX
namespace Go.Proofs.YtcbdjcmjchoagaaDoor
open Go.RowKit

theorem trR_len (x : List UInt8) (n c : Nat) (hs : List (List UInt8)) : (trR x n c hs).length ≤ c := by
  induction hm : c using Nat.strongRecOn generalizing x n c hs with
  | ind m ih =>
    subst hm
    by_cases h : c ≤ 1
    · rw [trR_one h]; simp
    · by_cases ha : aloneB n c = true
      · rw [trR_alone h ha]; have := ih ((c + 1) / 2) (by omega) x (n / 2) ((c + 1) / 2) hs rfl; omega
      · by_cases he : n % 2 = 0
        · rw [trR_even h ha he, List.length_cons]; have := ih ((c + 1) / 2) (by omega) (knotB x (hs.getD 0 default)) (n / 2) ((c + 1) / 2) (hs.drop 1) rfl; omega
        · rw [trR_odd h ha he, List.length_cons]; have := ih ((c + 1) / 2) (by omega) (knotB (hs.getD 0 default) x) (n / 2) ((c + 1) / 2) (hs.drop 1) rfl; omega
/-- The last text of a row of texts. -/
theorem last_text {w : World} {rb : Option Nat} {a : Nat} {A : Option Addr} {U : List (ByteArray × List UInt8)} {nm : ByteArray} {l : List UInt8} {vs : List Value} (hs : SeesV w w.heap.size A vs) (hx : TxV w rb a (U ++ [(nm, l)]) vs) :
    ∃ b off Ab cb, A = some ⟨b, off, none⟩ ∧ b < w.heap.size ∧ w.rangeAt b (off + U.length * 2) [.string nm, .slice Ab l.length cb] ∧ l.length ≤ cb ∧ Sees w w.heap.size Ab l := by
  have hl : vs.length = U.length * 2 + 2 := by rw [hx.1]; simp; omega
  obtain ⟨b, off, hA, hb, hc⟩ := hs.at_ (k := 0) (by omega)
  obtain ⟨Ab, cb, g1, g2, g3, g4⟩ := hx.2 U.length (by simp)
  have e : (U ++ [(nm, l)])[U.length]'(by simp) = (nm, l) := by simp
  rw [e] at g1 g2 g3 g4
  refine ⟨b, off, Ab, cb, hA, hb, fun j v hv => ?_, g3, g4.sees⟩
  match j, hv with
  | 0, hv =>
    rw [show v = .string nm by simpa using hv.symm]
    have h1 := (List.getElem?_eq_some_iff.1 g1)
    rw [Nat.add_zero, hc (U.length * 2) (by omega), h1.2]
  | 1, hv =>
    rw [show v = .slice Ab l.length cb by simpa using hv.symm]
    have h1 := (List.getElem?_eq_some_iff.1 g2)
    rw [Nat.add_assoc, hc (U.length * 2 + 1) (by omega), h1.2]
  | j + 2, hv => simp at hv

/-- The program's Lead: the hash, the error. -/
def leadV (id : List UInt8) (n c : Int) (hs : List (List UInt8)) : List UInt8 := bif mayB n c hs.length then leadB id n.toNat c.toNat hs else zero32
def leadE (n c : Int) (m : Nat) : Int := bif mayB n c m then 0 else 21
def LeadPost (w : World) (v : List UInt8) (z : Int) (e : Ending) (w' : World) : Prop := e = .returned (.tuple #[.agg (By v).toArray, .int .i64 z]) ∧ Below w.heap.size w w'

set_option maxHeartbeats 2000000 in
set_option maxRecDepth 100000 in
theorem lead_any (w : World) (hT : Tabs w) (id : List UInt8) (n c : Int) (A : Option Addr) (m d : Nat) (hs : List (List UInt8)) (hid : id.length = 32) (hm : m = hs.length) (hd : m ≤ d) (h32 : All32 hs) (hS : SeesV w w.heap.size A (Hs hs)) :
    Calls Tryd.prog 17 #[.agg (By id).toArray, .agg (PathZ n c A m d)] w (LeadPost w (leadV id n c hs) (leadE n c m)) := by
  have hA : Blk (((w.alloc (.cells (By id).toArray 32)).alloc (.cells (PathZ n c A m d) 25)).alloc (.cells (By zero32).toArray 32)) w.heap.size 32 (By id).toArray := ((show Blk (w.alloc _) _ _ _ from heap_alloc_new w _).alloc _).alloc _
  have hP : Blk (((w.alloc (.cells (By id).toArray 32)).alloc (.cells (PathZ n c A m d) 25)).alloc (.cells (By zero32).toArray 32)) (w.heap.size + 1) 25 (PathZ n c A m d) := Blk.alloc (Blk.newAt (by simp) rfl) _
  have hZ : Blk (((w.alloc (.cells (By id).toArray 32)).alloc (.cells (PathZ n c A m d) 25)).alloc (.cells (By zero32).toArray 32)) (w.heap.size + 2) 32 (By zero32).toArray := Blk.newAt (by simp) rfl
  have hb0 : Below w.heap.size w (((w.alloc (.cells (By id).toArray 32)).alloc (.cells (PathZ n c A m d) 25)).alloc (.cells (By zero32).toArray 32)) := nxAlloc (nxAlloc (nxAlloc (nxRefl w) _) _) _
  have HS : Hid (SeesV (((w.alloc (.cells (By id).toArray 32)).alloc (.cells (PathZ n c A m d) 25)).alloc (.cells (By zero32).toArray 32)) w.heap.size A (Hs hs)) := ((hS.alloc _).alloc _).alloc _
  have hsz0 : w.heap.size + 3 = (((w.alloc (.cells (By id).toArray 32)).alloc (.cells (PathZ n c A m d) 25)).alloc (.cells (By zero32).toArray 32)).heap.size := by simp
  have HTb := Lib.hid (hT.later hb0)
  have HSX : Hid ((Tryd.prog.info? 32).map (·.size) = some (By id).length) := by have h := Tryd.hsizeB id hid; show _ = _; rw [h]; simp
  have HSP : Hid ((Tryd.prog.info? 25).map (·.size) = some [Value.int .i64 n, .int .i64 c, .slice A m d].length) := Tryd.psize
  have HST : Hid (∀ (nm : ByteArray) (A : Option Addr) (n c : Nat), (Tryd.prog.info? 63).map (·.size) = some [Value.string nm, .slice A n c].length) := fun _ _ _ _ => Tryd.txtsize
  have HZz := Lib.hid (Tryd.hsizeB zero32 rfl)
  have hc0 : (((w.alloc (.cells (By id).toArray 32)).alloc (.cells (PathZ n c A m d) 25)).alloc (.cells (By zero32).toArray 32)).cell? ⟨w.heap.size + 1, 0, none⟩ = some (.int .i64 n) := hP.cell 0
  have hc1 : (((w.alloc (.cells (By id).toArray 32)).alloc (.cells (PathZ n c A m d) 25)).alloc (.cells (By zero32).toArray 32)).cell? ⟨w.heap.size + 1, 1, none⟩ = some (.int .i64 c) := hP.cell 1
  have hc2 : (((w.alloc (.cells (By id).toArray 32)).alloc (.cells (PathZ n c A m d) 25)).alloc (.cells (By zero32).toArray 32)).cell? ⟨w.heap.size + 1, 2, none⟩ = some (.slice A m d) := hP.cell 2
  have HRA := Lib.hid (blk_rng hA)
  have HRP := Lib.hid (blk_rng (vs := [Value.int .i64 n, .int .i64 c, .slice A m d]) hP)
  have HZ := Lib.hid hZ
  have Hb0 := Lib.hid hb0
  have Hs0 := Lib.hid hsz0
  have HL := Lib.hid hid
  have H32 := Lib.hid h32
  have HM := Lib.hid hm
  have HD := Lib.hid hd
  clear hT hS hA hP hZ hb0 hsz0 hid h32 hm hd
  cases hmay : mayB n c m with
  | false =>
    have HV : Hid (leadV id n c hs = zero32) := by show _ = _; rw [leadV, ← HM.out, hmay, cond_false]
    have HE : Hid (leadE n c m = 21) := by show _ = _; rw [leadE, hmay, cond_false]
    rw [HV.out, HE.out]
    cases hpl : placeB n c with
    | false =>
      have HSz : Hid (sizeV n c = 0 ∧ sizeE n c = 2) := by show _ ∧ _; unfold sizeV sizeE; rw [hpl]; exact ⟨rfl, rfl⟩
      clear hpl hmay
      go_enter Tryd.func17, Tryd.ntmps17
      go_wp2_with (first
        | (go_at_call 10; ((refine (size_all _ n c).mono ?_); rw [HSz.out.1, HSz.out.2]; rintro e w' ⟨rfl, hw'⟩; subst hw'))
        | ((with_reducible show wpList _ _ _ (⟨none, .store 32 _ _, _, _, _, _⟩ :: _) _ _); change wpList _ _ _ _ _ (((w.alloc (.cells (By id).toArray 32)).alloc (.cells (PathZ n c A m d) 25)).alloc (.cells (By zero32).toArray 32)); refine wpList_store_all rfl 32 (.tmp 4) (.tmp 26) rfl (w.heap.size + 2) 32 (By zero32).toArray (By zero32).toArray rfl rfl HZ.out rfl HZz.out (By_one _) ?_; intro w5 h5 h6 h7; have H5 := Lib.hid h5; have Hb5 : Hid (Below w.heap.size w w5) := Hb0.out.trans (h6.below Hb0.out.size (fun k hk => by omega)); clear h5 h6 h7))
      refine bodyPost_ret (results_row_tmp Tryd.results17 _ _ (w.heap.size + 2) 32 _ _ rfl H5.out Tryd.underlying32 rfl HZz.out _ rfl) rfl ⟨rfl, Hb5.out⟩
    | true =>
      obtain ⟨h0, h1, h2⟩ := place_of hpl
      obtain ⟨z, hz⟩ : ∃ z, szH n.toNat c.toNat = z := ⟨_, rfl⟩
      have HSz : Hid (sizeV n c = (z : Int) ∧ sizeE n c = 0) := by show _ ∧ _; unfold sizeV sizeE; rw [hpl, hz]; exact ⟨rfl, rfl⟩
      have hne : ¬ m = z := by
        intro e
        rw [mayB, hpl, Bool.true_and, decide_eq_false_iff_not, hz] at hmay
        exact hmay e
      have h4 : ((z : Int) == (m : Int)) = false := by rw [beq_eq_false_iff_ne]; omega
      clear hpl hmay hz hne h0 h1 h2
      go_enter Tryd.func17, Tryd.ntmps17
      go_wp2_with (first
        | (go_at_call 10; ((refine (size_all _ n c).mono ?_); rw [HSz.out.1, HSz.out.2]; rintro e w' ⟨rfl, hw'⟩; subst hw'))
        | ((with_reducible show wpList _ _ _ (⟨none, .store 32 _ _, _, _, _, _⟩ :: _) _ _); change wpList _ _ _ _ _ (((w.alloc (.cells (By id).toArray 32)).alloc (.cells (PathZ n c A m d) 25)).alloc (.cells (By zero32).toArray 32)); refine wpList_store_all rfl 32 (.tmp 4) (.tmp 26) rfl (w.heap.size + 2) 32 (By zero32).toArray (By zero32).toArray rfl rfl HZ.out rfl HZz.out (By_one _) ?_; intro w5 h5 h6 h7; have H5 := Lib.hid h5; have Hb5 : Hid (Below w.heap.size w w5) := Hb0.out.trans (h6.below Hb0.out.size (fun k hk => by omega)); clear h5 h6 h7))
      refine bodyPost_ret (results_row_tmp Tryd.results17 _ _ (w.heap.size + 2) 32 _ _ rfl H5.out Tryd.underlying32 rfl HZz.out _ rfl) rfl ⟨rfl, Hb5.out⟩
  | true =>
    obtain ⟨⟨h0, h1, h2⟩, h3⟩ := may_of hmay
    have hpl := place_yes h0 h1 h2
    obtain ⟨p, rfl⟩ : ∃ p : Nat, n = p := ⟨n.toNat, by omega⟩
    obtain ⟨q, rfl⟩ : ∃ q : Nat, c = q := ⟨c.toNat, by omega⟩
    have hz : szH p q = m := by rw [h3, Int.toNat_natCast, Int.toNat_natCast]
    obtain ⟨x, hx⟩ : ∃ x, leadB id p q hs = x := ⟨_, rfl⟩
    have HV : Hid (leadV id p q hs = x) := by show _ = _; rw [leadV, ← HM.out, hmay, cond_true, Int.toNat_natCast, Int.toNat_natCast, hx]
    have HE : Hid (leadE p q m = 0) := by show _ = _; rw [leadE, hmay, cond_true]
    have HSz : Hid (sizeV (p : Int) (q : Int) = (m : Int) ∧ sizeE (p : Int) (q : Int) = 0) := by show _ ∧ _; unfold sizeV sizeE; rw [hpl, Int.toNat_natCast, Int.toNat_natCast, hz]; exact ⟨rfl, rfl⟩
    have HSr : Hid (hs.length = szR p q) := by show _ = _; rw [sz_eq p q (by omega), hz, HM.out]
    obtain ⟨l, hl⟩ : ∃ l, le8 q ++ ldR knotB (leafB id) p q hs = l := ⟨_, rfl⟩
    obtain ⟨U, hU⟩ : ∃ U, (nmLeaf, id) :: trR (leafB id) p q hs = U := ⟨_, rfl⟩
    have HTr : Hid (trailL id p q hs = U ++ [(nmRoot, l)]) := by show _ = _; rw [trailL, hU, hl]
    have HXl' : Hid (shaB (tagB nmRoot l) = x) := by show _ = _; rw [← hl, ← hx, leadB, ld_eq knotB (leafB id) p q hs (by omega) (by rw [hz, HM.out])]
    have HUl : Hid (U.length ≤ 1048577) := by show _ ≤ _; rw [← hU, List.length_cons]; have := trR_len (leafB id) p q hs; omega
    have HLl : Hid (l.length = 40) := by
      show _ = _
      rw [← hl, List.length_append, le8_len, ld_eq knotB (leafB id) p q hs (by omega) (by rw [hz, HM.out]), ldH_len _ _ _ _ (leafB_len id)]
    have HXl : Hid (x.length = 32) := by show _ = _; rw [← hx]; exact leadB_len _ _ _ _
    have HZx := Lib.hid (Tryd.hsizeB x HXl.out)
    have HQ : Hid (p < q ∧ q ≤ 1048576) := by show _ ∧ _; omega
    have h4 : ((m : Int) == (m : Int)) = true := beq_self_eq_true _
    rw [HV.out, HE.out]
    clear hpl hmay h3 hz hx hl hU h0 h1 h2
    have HTl : Hid ((U ++ [(nmRoot, l)]).length = U.length + 1) := by show _ = _; simp
    have hTl1 : (U.length : Int) < (U.length : Int) + 1 := by omega
    have hTw : IntKind.i64.wrap (U.length : Int) = (U.length : Int) := by rw [IntKind.wrap_i64]; have := HUl.out; omega
    go_enter Tryd.func17, Tryd.ntmps17
    go_wp2_with (first
      | (go_at_call 10; ((refine (size_all _ (p : Int) (q : Int)).mono ?_); rw [HSz.out.1, HSz.out.2]; rintro e w' ⟨rfl, hw'⟩; subst hw'))
      | ((with_reducible show wpList _ _ _ (⟨some 27, _, _, _, _, _⟩ :: _) _ _); change wpList _ _ _ _ _ (((w.alloc (.cells (By id).toArray 32)).alloc (.cells (PathZ (p : Int) (q : Int) A m d) 25)).alloc (.cells (By zero32).toArray 32)); refine wpList_load_mid rfl 32 (.tmp 2) rfl w.heap.size 0 rfl (By id) _ HRA.out Tryd.underlying32 rfl HSX.out ?_)
      | ((with_reducible show wpList _ _ _ (⟨some 28, _, _, _, _, _⟩ :: _) _ _); change wpList _ _ _ _ _ (((w.alloc (.cells (By id).toArray 32)).alloc (.cells (PathZ (p : Int) (q : Int) A m d) 25)).alloc (.cells (By zero32).toArray 32)); refine wpList_load_mid rfl 25 (.tmp 3) rfl (w.heap.size + 1) 0 rfl [Value.int .i64 (p : Int), .int .i64 (q : Int), .slice A m d] _ HRP.out Tryd.underlying25 rfl HSP.out ?_)
      | (go_at_call 36; refine (trail_any (((w.alloc (.cells (By id).toArray 32)).alloc (.cells (PathZ (p : Int) (q : Int) A m d) 25)).alloc (.cells (By zero32).toArray 32)) HTb.out id p q A m d hs HL.out HM.out HD.out HQ.out.1 HQ.out.2 HSr.out H32.out (HS.out.more (by have := Hs0.out; omega))).mono ?_; rw [HTr.out]; rintro e w1 ⟨A1, d1, vs, rb, a, rfl, hd1, hs1, hx1, hb1⟩; rw [HTl.out]; have hlt := last_text hs1 hx1; obtain ⟨b, off, Ab, cb, rfl, hbl, hrg, hcb, hsb⟩ := hlt; have HRg := Lib.hid hrg; have HCb := Lib.hid hcb; have HSb := Lib.hid hsb; have Hb1 : Hid (Below w.heap.size w w1) := nxTo Hb0.out hb1; have HT1 := Lib.hid (HTb.out.later hb1); have HZ1 := Lib.hid (HZ.out.below hb1 HZ.out.lt); clear hd1 hs1 hx1 hb1 hbl hrg hcb hsb)
      | ((with_reducible show wpList _ _ _ (⟨some 35, _, _, _, _, _⟩ :: _) _ _); refine wpList_load_mid rfl 63 (.tmp 34) rfl b (off + U.length * 2) rfl [.string nmRoot, .slice Ab l.length cb] _ HRg.out Tryd.underlying63 rfl (HST.out _ _ _ _) ?_)
      | (go_at_call 33; refine (hash_any w1 HT1.out nmRoot nm_le.2.2 Ab _ cb l rfl HCb.out HSb.out (by have := HLl.out; omega)).mono ?_; rw [HXl'.out]; rintro e w3 ⟨rfl, hb3⟩; have Hb3 : Hid (Below w.heap.size w w3) := nxTo Hb1.out hb3; have HZ3 := Lib.hid (HZ1.out.below hb3 HZ1.out.lt); clear hb3)
      | ((with_reducible show wpList _ _ _ (⟨none, .store 32 _ _, _, _, _, _⟩ :: _) _ _); refine wpList_store_all rfl 32 (.tmp 4) (.tmp 36) rfl (w.heap.size + 2) 32 (By zero32).toArray (By x).toArray rfl rfl HZ3.out (by rw [List.size_toArray, List.size_toArray, By_length, By_length, HXl.out]; rfl) HZx.out (By_one _) ?_; intro w5 h5 h6 h7; have H5 := Lib.hid h5; have Hb5 : Hid (Below w.heap.size w w5) := Hb3.out.trans (h6.below Hb3.out.size (fun k hk => by omega)); clear h5 h6 h7))
    refine bodyPost_ret (results_row_tmp Tryd.results17 _ _ (w.heap.size + 2) 32 _ _ rfl H5.out Tryd.underlying32 rfl HZx.out _ rfl) rfl ⟨rfl, Hb5.out⟩
end Go.Proofs.YtcbdjcmjchoagaaDoor
