/-
  block, the document's: HeaderBytes. · block: headers' ids, the program's and the document's.
-/
import Derived.Test.YtpfjkjogljilnaaDoorBk1
import Derived.Test.YtpfjkjogljilnaaDoorPBbQ7
import Derived.Test.YtpfjkjogljilnaaDoorTxE
namespace Go.Proofs.YtpfjkjogljilnaaDoor
open Go.RowKit

theorem rng_sees {w : World} {b o B : Nat} {x : List UInt8} (h : w.rangeAt b o (By x)) (hB : b < B) : Sees w B (some ⟨b, o, none⟩) x :=
  .inr ⟨b, o, rfl, hB, fun i hi => h i _ (by simp [By, hi])⟩
theorem own_len {A : Option Addr} {n m c : Nat} : (Value.slice A n c).ownBlock = (Value.slice A m c).ownBlock := by cases A <;> rfl
theorem fill_step (place : Nat → Option (Nat × Nat)) (z : List Value) (i off : Nat) (vs : List Value) (hp : place i = some (off, vs.length)) (ho : off + vs.length ≤ z.length) (rest : List (Nat × Value)) :
    Instr.fill place z.toArray ((i, .agg vs.toArray) :: rest) = Instr.fill place (z.take off ++ vs ++ z.drop (off + vs.length)).toArray rest := by
  have h := foldl_set off vs 0 z (by omega)
  simp only [Nat.add_zero] at h
  have hc : (Value.agg vs.toArray).cells = vs.toArray := rfl
  conv => lhs; unfold Instr.fill
  simp only [hc, hp, List.size_toArray]
  rw [if_neg (by simp; omega)]
  congr 1
  refine Eq.trans ?_ h
  simp
theorem put_part (pre old x post : List Value) (hl : old.length = x.length) (k : Nat) (hk : k = pre.length) : ((pre ++ (old ++ post)).take k ++ x ++ (pre ++ (old ++ post)).drop (k + x.length)) = pre ++ (x ++ post) := by
  subst hk
  rw [List.take_append_of_le_length (Nat.le_refl _), List.take_length, List.drop_append, List.drop_eq_nil_of_le (by omega), List.nil_append, show pre.length + x.length - pre.length = x.length by omega, List.drop_append, List.drop_eq_nil_of_le (by omega), List.nil_append, hl, Nat.sub_self, List.drop_zero, List.append_assoc]
theorem fill_four {a b c d : List Value} (ha : a.length = 32) (hb : b.length = 32) (hc : c.length = 32) (hd : d.length = 32) (z : List Value) (hz : z = By zero32 ++ (By zero32 ++ (By zero32 ++ By zero32))) :
    Instr.fill (fun i => some (i * 32, 32)) z.toArray [(0, .agg a.toArray), (1, .agg b.toArray), (2, .agg c.toArray), (3, .agg d.toArray)] = some (a ++ (b ++ (c ++ d))).toArray := by
  have hl : (By zero32).length = 32 := rfl
  subst hz
  obtain ⟨q, hq⟩ : ∃ q, By zero32 = q := ⟨_, rfl⟩
  rw [hq] at hl ⊢
  clear hq
  rw [fill_step _ _ 0 0 a (by rw [ha]) (by simp only [List.length_append]; omega)]
  have e1 := put_part [] q a (q ++ (q ++ q)) (by omega) 0 rfl
  simp only [List.nil_append, List.append_assoc] at e1 ⊢
  rw [e1, fill_step _ _ 1 32 b (by rw [hb]) (by simp only [List.length_append]; omega)]
  have e2 := put_part a q b (q ++ q) (by omega) 32 ha.symm
  simp only [List.append_assoc] at e2 ⊢
  rw [e2, fill_step _ _ 2 64 c (by rw [hc]) (by simp only [List.length_append]; omega)]
  have e3 := put_part (a ++ b) q c q (by omega) 64 (by simp only [List.length_append]; omega)
  simp only [List.append_assoc] at e3 ⊢
  rw [e3, fill_step _ _ 3 96 d (by rw [hd]) (by simp only [List.length_append]; omega)]
  have e4 := put_part (a ++ (b ++ c)) q d [] (by omega) 96 (by simp only [List.length_append]; omega)
  simp only [List.append_nil, List.append_assoc] at e4 ⊢
  rw [e4]
  rfl
theorem Tryd.a32info : (Tryd.prog.info? 23).map (fun i => (i.zero, i.size, i.bytes)) = some (some (.agg (By zero32).toArray), 32, 32) := by kernel_rfl
theorem Tryd.a32size : (Tryd.prog.info? 23).map (·.size) = some 32 := by kernel_rfl
theorem zeros4 : ((Array.range (4 * 32)).map ((Value.agg (By zero32).toArray).cells[· % (Value.agg (By zero32).toArray).cells.size]!)) = (By zero32 ++ (By zero32 ++ (By zero32 ++ By zero32))).toArray := by kernel_rfl
/-- The four hashes behind the parents. -/
def four (p : HdP) : List (List UInt8) := [p.rt, p.ac, p.co, p.mi]
theorem four_32 {p : HdP} (f : HdFit p) : All32 (four p) := by
  intro x hx
  simp only [four, List.mem_cons, List.not_mem_nil, or_false] at hx
  rcases hx with rfl | rfl | rfl | rfl
  · exact f.rt
  · exact f.ac
  · exact f.co
  · exact f.mi
def RHBytesPost (w : World) (h : HdR) (e : Ending) (w' : World) : Prop := (∃ A c, e = .returned (.slice A (packH h.p).length c) ∧ (packH h.p).length ≤ c ∧ Sees w' w'.heap.size A (packH h.p)) ∧ Below w.heap.size w w'

end Go.Proofs.YtpfjkjogljilnaaDoor
namespace Go.Proofs.YtpfjkjogljilnaaDoor
open Go.RowKit

def nmBl : ByteArray := ⟨#[98, 108, 111, 99, 107]⟩
/-- A header's id. -/
def idH (p : HdP) : List UInt8 := bif mayH p then shaB (tagB (cutN nmBl) (packH p)) else zero32
theorem idH_len (p : HdP) : (idH p).length = 32 := by
  unfold idH
  cases mayH p
  · rfl
  · exact shaB_length _
theorem packH_le {p : HdP} (f : HdFit p) (hz : mayH p = true) : (packH p).length ≤ 30000 := by
  have hn : p.ps.length ≤ 255 := of_decide_eq_true hz
  rw [packH_len f]; omega

set_option maxHeartbeats 1000000 in
set_option maxRecDepth 100000 in
theorem idh_any (w : World) (hTb : Tabs w) (h : HdR) (k : HdOk w h) : Calls Tryd.prog 10 #[.agg (hdC h).toArray] w fun e w' => e = .returned (.agg (By (idH h.p)).toArray) ∧ Below w.heap.size w w' := by
  have hb0 : Below w.heap.size w ((w.alloc (.cells (hdC h).toArray 27)).alloc (.cells (By zero32).toArray 24)) := nxAl (nxAl (nxRf w) _) _
  have hBk : Blk ((w.alloc (.cells (hdC h).toArray 27)).alloc (.cells (By zero32).toArray 24)) w.heap.size 27 (hdC h).toArray := Blk.alloc (heap_alloc_new w _) _
  have hHk : Blk ((w.alloc (.cells (hdC h).toArray 27)).alloc (.cells (By zero32).toArray 24)) (w.heap.size + 1) 24 (By zero32).toArray := Blk.newAt (by simp) rfl
  have HR := Lib.hid (blkR (vs := hdC h) hBk)
  have HH := Lib.hid hHk
  have HT := Lib.hid (k.later hb0)
  have HTb := Lib.hid hTb
  have HZ := Lib.hid (hdSz k.f)
  have HZ0 := Lib.hid (Tryd.hsizeB zero32 rfl)
  have Hb0 := Lib.hid hb0
  cases hzm : mayH h.p with
  | true =>
    have HZm := Lib.hid hzm
    have HV : Hid (idH h.p = shaB (tagB (cutN nmBl) (packH h.p))) := by show _ = _; rw [idH, hzm]; rfl
    have HL := Lib.hid (packH_le k.f hzm)
    have HI := Lib.hid (idH_len h.p)
    obtain ⟨x, hx⟩ : ∃ x, idH h.p = x := ⟨_, rfl⟩
    obtain ⟨F, hF⟩ : ∃ F, packH h.p = F := ⟨_, rfl⟩
    have HF := Lib.hid hF
    rw [hx] at HV HI ⊢
    rw [hF] at HV HL
    have HZx := Lib.hid (Tryd.hsizeB x HI.out)
    have HFl : Hid (([F] : List (List UInt8)).flatten = F) := by show _ = _; simp
    clear hzm k hBk hHk hb0 hx hF hTb
    go_enter Tryd.func10, Tryd.ntmps10
    go_wp2_with (first
      | ((with_reducible show wpList _ _ _ (⟨some 6, _, _, _, _, _⟩ :: _) _ _); refine wpList_load_mid rfl 27 (.tmp 1) rfl w.heap.size 0 rfl (hdC h) _ HR.out Tryd.underlying27 rfl HZ.out ?_)
      | (go_at_call 4; refine (hbytes_yes _ h HT.out HZm.out).mono ?_; unfold HBytesPost; rw [HF.out]; rintro e w2 ⟨⟨A3, c3, B0, rfl, hB0, ho3⟩, hb2⟩; have Hb2 : Hid (Below w.heap.size w w2) := nxTr Hb0.out hb2; have H2 := Lib.hid (HH.out.below hb2 HH.out.lt); have S3 := Lib.hid (Sees.own ho3); have C3 := Lib.hid (own_cp ho3); clear hb2 hB0 ho3)
      | (go_at_call 29; refine (tag_any _ (HTb.out.later (nxAl Hb2.out _)) nmBl _ 1 1 [F] rfl (SeesL.one (SeesO.of S3.out (by simp)) rfl C3.out (by simp)) (by rw [HFl.out]; have := HL.out; omega) (by omega) (by show 5 ≤ _; omega)).mono ?_; rw [HFl.out, ← HV.out]; rintro e w4 ⟨rfl, hb4⟩; have Hb4 : Hid (Below w.heap.size w w4) := nxTr (nxAl Hb2.out _) hb4; have H4 := Lib.hid ((Blk.alloc H2.out _).below hb4 (Blk.alloc H2.out _).lt); clear hb4)
      | ((with_reducible show wpList _ _ _ (⟨none, .store 24 _ _, _, _, _, _⟩ :: _) _ _); refine wpList_store_all rfl 24 (.tmp 2) (.tmp 15) rfl (w.heap.size + 1) 24 (By zero32).toArray (By x).toArray rfl rfl H4.out (by rw [List.size_toArray, List.size_toArray, By_length, By_length, HI.out]; rfl) HZx.out (By_one _) ?_; intro w5 h5 h6 h7; have H5 := Lib.hid h5; have Hb5 : Hid (Below w.heap.size w w5) := Hb4.out.trans (h6.below Hb4.out.size (fun k hk => by omega)); clear h5 h6 h7))
    refine bodyPost_ret (results_cell_row Tryd.results10 _ _ (w.heap.size + 1) 24 _ (0, 0) _ rfl H5.out Tryd.underlying24 rfl HZx.out) rfl ⟨rfl, Hb5.out⟩
  | false =>
    have HV : Hid (idH h.p = zero32) := by show _ = _; rw [idH, hzm]; rfl
    have HZm := Lib.hid hzm
    rw [HV.out]
    clear k hBk hHk hb0 hTb hzm
    go_enter Tryd.func10, Tryd.ntmps10
    go_wp2_with (first
      | ((with_reducible show wpList _ _ _ (⟨some 6, _, _, _, _, _⟩ :: _) _ _); refine wpList_load_mid rfl 27 (.tmp 1) rfl w.heap.size 0 rfl (hdC h) _ HR.out Tryd.underlying27 rfl HZ.out ?_)
      | (go_at_call 4; refine (hbytes_no _ h HT.out HZm.out).mono ?_; rintro e w2 ⟨rfl, hb2⟩; have Hb2 : Hid (Below w.heap.size w w2) := nxTr Hb0.out hb2; have H2 := Lib.hid (HH.out.below hb2 HH.out.lt); clear hb2)
      | ((with_reducible show wpList _ _ _ (⟨none, .store 24 _ _, _, _, _, _⟩ :: _) _ _); refine wpList_store_all rfl 24 (.tmp 2) (.tmp 12) rfl (w.heap.size + 1) 24 (By zero32).toArray (By zero32).toArray rfl rfl H2.out rfl HZ0.out (By_one _) ?_; intro w5 h5 h6 h7; have H5 := Lib.hid h5; have Hb5 : Hid (Below w.heap.size w w5) := Hb2.out.trans (h6.below Hb2.out.size (fun k hk => by omega)); clear h5 h6 h7))
    refine bodyPost_ret (results_cell_row Tryd.results10 _ _ (w.heap.size + 1) 24 _ (0, 0) _ rfl H5.out Tryd.underlying24 rfl HZ0.out) rfl ⟨rfl, Hb5.out⟩
end Go.Proofs.YtpfjkjogljilnaaDoor
