/-
  tx: a transaction's bytes, plainly. · tx: Bytes.
-/
import Derived.Test.YtpfjkjogljilnaaDoorPBbQ5
import Derived.Test.YtpfjkjogljilnaaDoorTp
import Derived.Deep.RegionHeldLaw
import Derived.Deep.RegionHeld3
namespace Go.Proofs.YtpfjkjogljilnaaDoor
open Go.RowKit

def inB (i : InR) : List UInt8 := i.id ++ (leB i.n 4 ++ (leB i.wit.length 4 ++ i.wit))
def outB (o : OutR) : List UInt8 := leB o.amt 8 ++ o.lock
def insB (l : List InR) : List UInt8 := (l.map inB).flatten
def outsB (l : List OutR) : List UInt8 := (l.map outB).flatten
/-- A transaction's bytes. -/
def packT (t : TxR) : List UInt8 := leB t.ins.length 2 ++ (insB t.ins ++ (leB t.outs.length 2 ++ (outsB t.outs ++ leB t.nonce 8)))
theorem putN_ok {l : List UInt8} {N : Nat} {Z : Nat} (hm : may (Z : Int) = true) (h : N < 256 ^ Z) : putN (some l) N (Z : Int) = some (l ++ leB N Z) := by
  have e : numOk N (Z : Int) = true := by unfold numOk; rw [hm, Int.toNat_natCast, decide_eq_true h]; rfl
  rw [putN, if_pos e, Int.toNat_natCast]; rfl
theorem putIn {l : List UInt8} {i : InR} (hn : i.n < 4294967296) (hw : i.wit.length ≤ 256) : putBlob (putN (putB (some l) i.id) i.n 4) i.wit = some (l ++ inB i) := by
  have e1 : putN (putB (some l) i.id) i.n 4 = some ((l ++ i.id) ++ leB i.n 4) := putN_ok (Z := 4) rfl (by omega)
  have e2 : putN (some ((l ++ i.id) ++ leB i.n 4)) i.wit.length 4 = some (((l ++ i.id) ++ leB i.n 4) ++ leB i.wit.length 4) := putN_ok (Z := 4) rfl (by omega)
  rw [e1, putBlob, if_pos (by omega), e2]
  simp [putB, inB]
theorem putOut {l : List UInt8} {o : OutR} (hn : o.amt < 18446744073709551616) : putB (putN (some l) o.amt 8) o.lock = some (l ++ outB o) := by
  have e1 : putN (some l) o.amt 8 = some (l ++ leB o.amt 8) := putN_ok (Z := 8) rfl (by omega)
  rw [e1]
  simp [putB, outB]
theorem putCnt {l : List UInt8} {n : Nat} (hn : n ≤ 64) : putCount (some l) (n : Int) = some (l ++ leB n 2) := by
  have e1 : putN (some l) n 2 = some (l ++ leB n 2) := putN_ok (Z := 2) rfl (by omega)
  rw [putCount, if_pos (by omega), Int.toNat_natCast, e1]
theorem insB_next {l : List InR} {k : Nat} (h : k < l.length) : insB (l.take (k + 1)) = insB (l.take k) ++ inB l[k] := by
  unfold insB
  rw [List.take_succ_eq_append_getElem h, List.map_append, List.flatten_append]
  simp
theorem outsB_next {l : List OutR} {k : Nat} (h : k < l.length) : outsB (l.take (k + 1)) = outsB (l.take k) ++ outB l[k] := by
  unfold outsB
  rw [List.take_succ_eq_append_getElem h, List.map_append, List.flatten_append]
  simp
theorem insB_len {l : List InR} (h : ∀ i ∈ l, i.id.length = 32 ∧ i.wit.length ≤ 256) : (insB l).length ≤ l.length * 296 := by
  induction l with
  | nil => simp [insB]
  | cons a r ih =>
    have ha := h a (by simp)
    have hi := ih (fun i hi => h i (List.mem_cons_of_mem _ hi))
    have e : insB (a :: r) = inB a ++ insB r := by simp [insB]
    rw [e, List.length_append, List.length_cons, inB, List.length_append, List.length_append, List.length_append, leB_length, leB_length]
    omega
theorem outsB_len {l : List OutR} (h : ∀ o ∈ l, o.lock.length = 32) : (outsB l).length = l.length * 40 := by
  induction l with
  | nil => simp [outsB]
  | cons a r ih =>
    have ha := h a (by simp)
    have hi := ih (fun i hi => h i (List.mem_cons_of_mem _ hi))
    have e : outsB (a :: r) = outB a ++ outsB r := by simp [outsB]
    rw [e, List.length_append, List.length_cons, outB, List.length_append, leB_length]
    omega
theorem checkT_three (t : TxR) : checkT t = 0 ∨ checkT t = 2 ∨ checkT t = 5 := by
  unfold checkT
  cases formB t
  · exact .inr (.inl rfl)
  · rw [cond_true]
    rcases amtE_two t.outs with h | h
    · exact .inl h
    · exact .inr (.inr h)
theorem checkT_ok {t : TxR} (h : checkT t = 0) : (1 ≤ t.ins.length ∧ t.ins.length ≤ 64) ∧ (1 ≤ t.outs.length ∧ t.outs.length ≤ 64) ∧ ∀ i ∈ t.ins, i.wit.length ≤ 256 := by
  unfold checkT at h
  cases hf : formB t with
  | false => rw [hf, cond_false] at h; omega
  | true =>
    unfold formB at hf
    rw [Bool.and_eq_true, Bool.and_eq_true, Bool.and_eq_true] at hf
    obtain ⟨h1, h2, h3, _⟩ := hf
    refine ⟨of_decide_eq_true h1, of_decide_eq_true h2, fun i hi => ?_⟩
    by_cases hl : i.wit.length ≤ 256
    · exact hl
    · exfalso
      have ha : t.ins.any longB = true := List.any_eq_true.2 ⟨i, hi, decide_eq_true (by omega)⟩
      rw [ha] at h3
      cases h3
theorem sees_lt {w : World} {B : Nat} {A : Option Addr} {l : List UInt8} (h : Sees w B A l) (hne : l ≠ []) {ad : Addr} (ha : A = some ad) : ad.block < B := by
  rcases h with h | ⟨b, off, hA, hb, _⟩
  · exact absurd h hne
  · rw [hA] at ha; injection ha with ha; subst ha; exact hb
theorem rng_tail {w : World} {b o : Nat} {v : Value} {cs : List Value} (h : w.rangeAt b o (v :: cs)) : w.rangeAt b (o + 1) cs := fun j u hu => by have := h (j + 1) u hu; rw [show o + 1 + j = o + (j + 1) by omega]; exact this
theorem rngS {S : Nat → Prop} {w w' : World} {b o : Nat} {cs : List Value} (h : w.rangeAt b o cs) (hk : Keeps S w w') (hlt : b < w.heap.size) (hn : ¬ S b) : w'.rangeAt b o cs := fun j v hv => (World.cell?_of_block (a := ⟨b, o + j, none⟩) (hk.block b hlt hn)).trans (h j v hv)
theorem cellS {S : Nat → Prop} {w w' : World} {b o : Nat} {v : Value} (h : w.cell? ⟨b, o, none⟩ = some v) (hk : Keeps S w w') (hlt : b < w.heap.size) (hn : ¬ S b) : w'.cell? ⟨b, o, none⟩ = some v := (World.cell?_of_block (a := ⟨b, o, none⟩) (hk.block b hlt hn)).trans h
end Go.Proofs.YtpfjkjogljilnaaDoor
namespace Go.Proofs.YtpfjkjogljilnaaDoor
open Go.RowKit

set_option maxHeartbeats 1000000 in
set_option maxRecDepth 100000 in
theorem bytes_no (w : World) (t : TxR) (h : TxOk w t) (hz : checkT t ≠ 0) : Calls Tryd.prog 26 #[.agg (txC t).toArray] w fun e w' => e = .returned (.tuple #[.slice none 0 0, .int .i64 (checkT t)]) ∧ Below w.heap.size w w' := by
  have hA := TxAt.new h
  have HR := Lib.hid (blkR (vs := txC t) hA.1)
  have HT := Lib.hid hA.2
  have HZ : Hid ((Tryd.prog.info? 40).map (·.size) = some (txC t).length) := Tryd.sizeTx
  have Hb0 : Hid (Below w.heap.size w (w.alloc (.cells (txC t).toArray 40))) := Lib.hid (nxAl (nxRf w) _)
  have h3 := checkT_three t
  obtain ⟨z, hzz⟩ : ∃ z, checkT t = z := ⟨_, rfl⟩
  have HZz := Lib.hid hzz
  rw [hzz] at h3 hz ⊢
  clear hA h hzz
  rcases h3 with rfl | rfl | rfl
  · exact absurd rfl hz
  · clear hz
    go_enter Tryd.func26, Tryd.ntmps26
    go_wp2_with (first
      | ((with_reducible show wpList _ _ _ (⟨some 10, _, _, _, _, _⟩ :: _) _ _); refine wpList_load_mid rfl 40 (.tmp 1) rfl w.heap.size 0 rfl (txC t) _ HR.out Tryd.underlying40 rfl HZ.out ?_)
      | (go_at_call 41; refine (check_any _ t HT.out).mono ?_; rw [HZz.out]; rintro e w2 ⟨rfl, hb2⟩; have Hb2 : Hid (Below w.heap.size w w2) := nxTr Hb0.out hb2; clear hb2))
    go_ret2
    exact ⟨rfl, Hb2.out⟩
  · clear hz
    go_enter Tryd.func26, Tryd.ntmps26
    go_wp2_with (first
      | ((with_reducible show wpList _ _ _ (⟨some 10, _, _, _, _, _⟩ :: _) _ _); refine wpList_load_mid rfl 40 (.tmp 1) rfl w.heap.size 0 rfl (txC t) _ HR.out Tryd.underlying40 rfl HZ.out ?_)
      | (go_at_call 41; refine (check_any _ t HT.out).mono ?_; rw [HZz.out]; rintro e w2 ⟨rfl, hb2⟩; have Hb2 : Hid (Below w.heap.size w w2) := nxTr Hb0.out hb2; clear hb2))
    go_ret2
    exact ⟨rfl, Hb2.out⟩
theorem Tryd.sizeH : (Tryd.prog.info? 24).map (·.size) = some 32 := by kernel_rfl
def BytesPost (w : World) (t : TxR) (e : Ending) (w' : World) : Prop := (∃ A c B0, e = .returned (.tuple #[.slice A (packT t).length c, .int .i64 0]) ∧ w.heap.size ≤ B0 ∧ w'.ownsRow B0 5 1 (.slice A (packT t).length c) (packT t).length (By (packT t))) ∧ Below w.heap.size w w'

set_option maxHeartbeats 4000000 in
set_option maxRecDepth 100000 in
theorem bytes_yes (w : World) (t : TxR) (h : TxOk w t) (hz : checkT t = 0) : Calls Tryd.prog 26 #[.agg (txC t).toArray] w (BytesPost w t) := by
  have hA := TxAt.new h
  have HR := Lib.hid (blkR (vs := txC t) hA.1)
  have HT := Lib.hid hA.2
  have HZ : Hid ((Tryd.prog.info? 40).map (·.size) = some (txC t).length) := Tryd.sizeTx
  have Hb0 : Hid (Below w.heap.size w (w.alloc (.cells (txC t).toArray 40))) := Lib.hid (nxAl (nxRf w) _)
  have HC : Hid ((w.alloc (.cells (txC t).toArray 40)).cell? ⟨w.heap.size, 0, none⟩ = some (.slice t.A t.ins.length t.c) ∧ (w.alloc (.cells (txC t).toArray 40)).cell? ⟨w.heap.size, 1, none⟩ = some (.slice t.B t.outs.length t.d) ∧ (w.alloc (.cells (txC t).toArray 40)).cell? ⟨w.heap.size, 2, none⟩ = some (.int .u64 (t.nonce : Int))) := ⟨hA.1.cell 0, hA.1.cell 1, hA.1.cell 2⟩
  have Hs0 : Hid (w.heap.size < (w.alloc (.cells (txC t).toArray 40)).heap.size) := by show _ < _; simp
  obtain ⟨⟨hi1, hi2⟩, ⟨ho1, ho2⟩, hwl⟩ := checkT_ok hz
  have HI : Hid (∀ i ∈ t.ins, i.id.length = 32 ∧ i.n < 4294967296 ∧ i.wit.length ≤ 256 ∧ Sees w w.heap.size i.A i.wit) := fun i hi => ⟨(h.each i hi).id, (h.each i hi).n, hwl i hi, (h.each i hi).s⟩
  have HJ : Hid (∀ o ∈ t.outs, OutOk o) := h.eacho
  have HIS := Lib.hid h.ins
  have HJS := Lib.hid h.outs
  have HN := Lib.hid h.nonce
  have HP : Hid (packT t = leB t.ins.length 2 ++ (insB t.ins ++ (leB t.outs.length 2 ++ (outsB t.outs ++ leB t.nonce 8)))) := rfl
  have HLi : Hid (∀ k, (insB (t.ins.take k)).length ≤ 18944) := by
    intro k
    have h1 := insB_len (l := t.ins.take k) (fun i hi => ⟨(h.each i (List.mem_of_mem_take hi)).id, hwl i (List.mem_of_mem_take hi)⟩)
    have h2 : (t.ins.take k).length ≤ 64 := by rw [List.length_take]; omega
    omega
  have HLo : Hid (∀ k, (outsB (t.outs.take k)).length ≤ 2560) := by
    intro k
    have h1 := outsB_len (l := t.outs.take k) (fun i hi => (h.eacho i (List.mem_of_mem_take hi)).lock)
    have h2 : (t.outs.take k).length ≤ 64 := by rw [List.length_take]; omega
    omega
  have HM : Hid (t.ins.length ≤ 64 ∧ t.outs.length ≤ 64) := ⟨hi2, ho2⟩
  have HZz := Lib.hid hz
  obtain ⟨l, hl⟩ : ∃ l, t.ins = l := ⟨_, rfl⟩
  obtain ⟨m, hm⟩ : ∃ l, t.outs = l := ⟨_, rfl⟩
  obtain ⟨A, hAA⟩ : ∃ l, t.A = l := ⟨_, rfl⟩
  obtain ⟨B, hBB⟩ : ∃ l, t.B = l := ⟨_, rfl⟩
  obtain ⟨nn, hnn⟩ : ∃ l, t.nonce = l := ⟨_, rfl⟩
  rw [hl, hm, hAA, hBB, hnn] at HC
  rw [hl, hm, hnn] at HP
  rw [hl] at HI HIS HLi hi1 hi2
  rw [hm] at HJ HJS HLo ho1 ho2
  rw [hl, hm] at HM
  rw [hAA] at HIS
  rw [hBB] at HJS
  rw [hnn] at HN
  unfold BytesPost
  obtain ⟨F, hF⟩ : ∃ F, packT t = F := ⟨_, rfl⟩
  rw [hF] at HP ⊢
  clear hA h hz hwl hl hm hAA hBB hnn hF
  go_enter Tryd.func26, Tryd.ntmps26
  go_wp2_with (first
    | ((with_reducible show wpList _ _ _ (⟨some 10, _, _, _, _, _⟩ :: _) _ _); refine wpList_load_mid rfl 40 (.tmp 1) rfl w.heap.size 0 rfl (txC t) _ HR.out Tryd.underlying40 rfl HZ.out ?_)
    | (go_at_call 41; refine (check_any _ t HT.out).mono ?_; rw [HZz.out]; rintro e w2 ⟨rfl, hb2⟩; have Hb2 : Hid (Below w.heap.size w w2) := nxTr Hb0.out hb2; have hc0 : (w2.alloc (.cells #[.slice none 0 0, .bool false] 54)).cell? ⟨w.heap.size, 0, none⟩ = some (.slice A l.length t.c) := cell_later (nxAl (nxRf w2) _) (cell_later hb2 HC.out.1); have HC2 : Hid (w2.cell? ⟨w.heap.size, 0, none⟩ = some (.slice A l.length t.c) ∧ w2.cell? ⟨w.heap.size, 1, none⟩ = some (.slice B m.length t.d) ∧ w2.cell? ⟨w.heap.size, 2, none⟩ = some (.int .u64 (nn : Int)) ∧ w.heap.size < w2.heap.size) := ⟨cell_later hb2 HC.out.1, cell_later hb2 HC.out.2.1, cell_later hb2 HC.out.2.2, Nat.lt_of_lt_of_le Hs0.out hb2.size⟩; clear hb2)
    | (go_at_call 14; refine (count_s (w2.alloc (.cells #[.slice none 0 0, .bool false] 54)) (fun j => w2.heap.size ≤ j) w2.heap.size (some []) (WrS.fresh w2 _ (Nat.le_refl _)) (fun k hk => by simp at hk; omega) (l.length : Int) (by simp [lenS])).mono ?_; rw [putCnt hi2]; rintro e w3 ⟨rfl, hq1, hq2⟩; have V3 : Hid (Below w2.heap.size w2 w3) := (nxAl (nxRf w2) _).trans (hq2.below (nxAl (nxRf w2) _).size (fun k hk => by omega)); have W3 : Hid (WrS w3 (fun j => w2.heap.size ≤ j) w2.heap.size (some (leB l.length 2))) := hq1; have hc3 : w3.cell? ⟨w.heap.size, 0, none⟩ = some (.slice A l.length t.c) := cell_later V3.out HC2.out.1; clear hq1 hq2))
  clear hc0 HR HZ HC Hs0 HT Hb0
  obtain ⟨g, hg⟩ : ∃ g, w2.heap.size = g := ⟨_, rfl⟩
  have HG : Hid (w2.heap.size = g) := hg
  have HGw : Hid (w.heap.size < g) := by rw [← hg]; exact HC2.out.2.2.2
  rw [hg] at V3 W3
  rw [hg]
  clear hg
  go_loopw [23] (fun iv wr => ∃ k : Nat, k ≤ l.length ∧ iv = .int .i64 k ∧ Hid (WrS wr (fun j => g ≤ j) g (some (leB l.length 2 ++ insB (l.take k)))) ∧ Hid (Below g w2 wr)) (fun iv _ => l.length - (intOf iv).toNat)
  case atStart => exact ⟨0, by omega, rfl, (by rw [show insB (l.take 0) = [] from rfl, List.append_nil]; exact W3.out), V3.out⟩
  case round =>
    clear W3 V3 hc3
    obtain ⟨k, hk, rfl, HW, Hb⟩ := hrel
    have HBg : Hid (Below w.heap.size w wr) := nxTr Hb2.out (by rw [HG.out]; exact Hb.out)
    have HSz : Hid (g ≤ wr.heap.size) := by rw [← HG.out]; exact Hb.out.size
    by_cases hlt : k < l.length
    · obtain ⟨b, off, rfl, hbb, hr⟩ := insC_row HIS.out (fun i h => (HI.out i h).1) (by omega)
      have hrk := rngB (hr k hlt) HBg.out hbb
      have hik := HI.out _ (List.getElem_mem hlt)
      have hnx := insB_next hlt
      have hll := HLi.out k
      obtain ⟨i, hi⟩ : ∃ i, l[k] = i := ⟨_, rfl⟩
      rw [hi] at hrk hik hnx
      have HR := Lib.hid hrk
      have HIk := Lib.hid hik
      have HNx := Lib.hid hnx
      have HLk := Lib.hid hll
      have HZ : Hid ((Tryd.prog.info? 94).map (·.size) = some (inC i).length) := by show _ = _; rw [inC_len hik.1]; exact Tryd.sizeIn
      have HZh : Hid ((Tryd.prog.info? 24).map (·.size) = some (By i.id).length) := by show _ = _; rw [By_length, hik.1]; exact Tryd.sizeH
      have hwn : IntKind.u64.wrap (i.n : Int) = (i.n : Int) := by rw [IntKind.wrap_u64]; have := hik.2.1; omega
      clear hr hrk hik hi hnx hll
      go_wp2_with (first
        | ((with_reducible show wpList _ _ _ (⟨some 26, _, _, _, _, _⟩ :: _) _ _); refine wpList_load_mid rfl 94 (.tmp 25) rfl b (off + k * 34) rfl (inC i) _ HR.out Tryd.underlying94 rfl HZ.out ?_)
        | ((with_reducible show wpList _ _ _ (⟨none, .store 94 _ _, _, _, _, _⟩ :: _) _ _); refine wpList_store_all rfl 94 (.tmp 7) (.tmp 26) rfl wr.heap.size 94 _ (inC i).toArray rfl rfl (heap_alloc_new wr _) (by simp [inC_len HIk.out.1]) (by rw [List.size_toArray]; exact HZ.out) (inC_one i) ?_; intro w4 h5 h6 h7; have R4 := Lib.hid (rng_prefix (cs := By i.id) (by have h := blkR h5; unfold inC at h; exact h)); have c32 : w4.cell? ⟨wr.heap.size, 32, none⟩ = some (.int .u32 (i.n : Int)) := (h5.cell 32).trans (by have := (inC_at HIk.out.1).1; simpa using this); have c33 : w4.cell? ⟨wr.heap.size, 33, none⟩ = some (.slice i.A i.wit.length i.c) := (h5.cell 33).trans (by have := (inC_at HIk.out.1).2; simpa using this); have C4 := Lib.hid (And.intro c32 c33); have L4 : Hid (wr.heap.size < w4.heap.size) := h5.lt; have K4 : Hid (Below wr.heap.size wr w4) := (nxAl (nxRf wr) _).trans (h6.below (nxAl (nxRf wr) _).size (fun k hk => by omega)); clear h5 h6 h7 c32 c33))
      have W4 : Hid (WrS w4 (fun j => g ≤ j ∧ j ≠ wr.heap.size) g (some (leB l.length 2 ++ insB (l.take k)))) := (HW.out.re (fun j hj h => ⟨h, by omega⟩)).below K4.out
      have HBn : Hid (∀ j, w4.heap.size ≤ j → g ≤ j ∧ j ≠ wr.heap.size) := fun j hj => ⟨by have := HSz.out; have := L4.out; omega, by have := L4.out; omega⟩
      have HBx : Hid (Below w.heap.size w w4) := nxTr HBg.out K4.out
      obtain ⟨gi, hgi⟩ : ∃ g, wr.heap.size = g := ⟨_, rfl⟩
      have HSg : Hid (g ≤ gi) := by rw [← hgi]; exact HSz.out
      rw [hgi] at W4 HBn R4 C4 L4
      rw [hgi]
      have HGi : Hid (wr.heap.size = gi) := hgi
      clear hgi
      refine wp_region_held_drew (S := fun W => W.rangeAt gi 0 (By i.id) ∧ W.cell? ⟨gi, 32, none⟩ = some (.int .u32 (i.n : Int)) ∧ W.cell? ⟨gi, 33, none⟩ = some (.slice i.A i.wit.length i.c)) (by kernel_rfl) ⟨R4.out, C4.out.1, C4.out.2⟩ (fun hHeld => ?_)
      refine wpAnyH_take (i := 0) (oi := ⟨_, _, _, _, _, _⟩) (v := ?_) rfl (by kernel_rfl) (by kernel_rfl) (by kernel_rfl) (fun _ _ _ h => h) (Or.inl ⟨by rfl, ?_⟩) (by assumption) ?_
      rotate_left 1
      · intro W hSw
        try dsimp only at hSw
        go_simp
        try with_reducible rfl
      try simp only [Act.put, List.setIfInBounds_toArray, List.set_cons_zero, List.set_cons_succ]
      refine wpAnyH_take (i := 1) (oi := ⟨_, _, _, _, _, _⟩) (v := ?_) rfl (by kernel_rfl) (by kernel_rfl) (by kernel_rfl) (fun _ _ _ h => h) (Or.inl ⟨by rfl, ?_⟩) (by assumption) ?_
      rotate_left 1
      · intro W hSw
        try dsimp only at hSw
        go_simp
        try with_reducible rfl
      try simp only [Act.put, List.setIfInBounds_toArray, List.set_cons_zero, List.set_cons_succ]
      refine wpAnyH_take (i := 2) (oi := ⟨_, _, _, _, _, _⟩) (v := ?_) rfl (by kernel_rfl) (by kernel_rfl) (by kernel_rfl) (fun _ _ _ h => h) (Or.inl ⟨by rfl, ?_⟩) (by assumption) ?_
      rotate_left 1
      · intro W hSw
        try dsimp only at hSw
        go_simp
        try with_reducible rfl
      try simp only [Act.put, List.setIfInBounds_toArray, List.set_cons_zero, List.set_cons_succ]
      refine wpAnyH_take (i := 3) (oi := ⟨_, _, _, _, _, _⟩) (v := .agg (By i.id).toArray) rfl (by kernel_rfl) (by kernel_rfl) (by kernel_rfl) (fun _ _ _ h => h) (yieldsIf_load_mid (by rfl) 24 (.tmp 29) rfl (gi) (0) rfl (By i.id) _ (fun W h => h.1) Tryd.underlying24 rfl HZh.out) (by assumption) ?_
      try simp only [Act.put, List.setIfInBounds_toArray, List.set_cons_zero, List.set_cons_succ]
      refine wpAnyH_take (i := 5) (oi := ⟨_, _, _, _, _, _⟩) (v := ?_) rfl (by kernel_rfl) (by kernel_rfl) (by kernel_rfl) (fun _ _ _ h => h) (Or.inl ⟨by rfl, ?_⟩) (by assumption) ?_
      rotate_left 1
      · intro W hSw
        try dsimp only at hSw
        go_simp
        try with_reducible rfl
      try simp only [Act.put, List.setIfInBounds_toArray, List.set_cons_zero, List.set_cons_succ]
      refine wpAnyH_take (i := 6) (oi := ⟨_, _, _, _, _, _⟩) (v := ?_) rfl (by kernel_rfl) (by kernel_rfl) (by kernel_rfl) (fun _ _ _ h => h) (Or.inl ⟨by rfl, ?_⟩) (by assumption) ?_
      rotate_left 1
      · intro W hSw
        try dsimp only at hSw
        go_simp
        try with_reducible rfl
      try simp only [Act.put, List.setIfInBounds_toArray, List.set_cons_zero, List.set_cons_succ]
      refine wpAnyH_take (i := 7) (oi := ⟨_, _, _, _, _, _⟩) (v := ?_) rfl (by kernel_rfl) (by kernel_rfl) (by kernel_rfl) (fun _ _ _ h => h) (Or.inl ⟨by rfl, ?_⟩) (by assumption) ?_
      rotate_left 1
      · intro W hSw
        try dsimp only at hSw
        go_simp
        try with_reducible rfl
      try simp only [Act.put, List.setIfInBounds_toArray, List.set_cons_zero, List.set_cons_succ]
      refine wpAnyH_take (i := 8) (oi := ⟨_, _, _, _, _, _⟩) (v := ?_) rfl (by kernel_rfl) (by kernel_rfl) (by kernel_rfl) (fun _ _ _ h => h) (Or.inl ⟨by rfl, ?_⟩) (by assumption) ?_
      rotate_left 1
      · intro W hSw
        try dsimp only at hSw
        go_simp
        try with_reducible rfl
      try simp only [Act.put, List.setIfInBounds_toArray, List.set_cons_zero, List.set_cons_succ]
      refine wpAnyH_take (i := 10) (oi := ⟨_, _, _, _, _, _⟩) (v := ?_) rfl (by kernel_rfl) (by kernel_rfl) (by kernel_rfl) (fun _ _ _ h => h) (Or.inl ⟨by rfl, ?_⟩) (by assumption) ?_
      rotate_left 1
      · intro W hSw
        try dsimp only at hSw
        go_simp
        try with_reducible rfl
      try simp only [Act.put, List.setIfInBounds_toArray, List.set_cons_zero, List.set_cons_succ]
      refine wpAnyH_take (i := 11) (oi := ⟨_, _, _, _, _, _⟩) (v := ?_) rfl (by kernel_rfl) (by kernel_rfl) (by kernel_rfl) (fun _ _ _ h => h) (Or.inl ⟨by rfl, ?_⟩) (by assumption) ?_
      rotate_left 1
      · intro W hSw
        try dsimp only at hSw
        go_simp
        try with_reducible rfl
      try simp only [Act.put, List.setIfInBounds_toArray, List.set_cons_zero, List.set_cons_succ]
      refine wpAnyH_ready (rs := [4]) (by kernel_rfl) (by simp) ?_
      refine AllReadyH.cons rfl (fun K hK => ?_) AllReadyH.nil
      go_simp
      go_at_call 15
      refine (whash_s w4.drew (fun j => g ≤ j ∧ j ≠ gi) g (some (leB l.length 2 ++ insB (l.take k))) (show WrS w4.drew _ g _ from W4.out) HBn.out i.id HIk.out.1 (by simp only [lenS, Option.getD_some, List.length_append, leB_length]; have := HLk.out; omega)).mono ?_
      rintro e v1 ⟨rfl, hq1, hq2⟩
      have W5 := Lib.hid hq1
      have Q5 : Hid (Keeps (fun j => g ≤ j ∧ j ≠ gi) w4 v1) := ⟨hq2.os, hq2.tape, hq2.output, hq2.size, hq2.block⟩
      clear hq1 hq2
      refine hK.out _ _ ⟨rngS R4.out Q5.out L4.out (fun h => h.2 rfl), cellS C4.out.1 Q5.out L4.out (fun h => h.2 rfl), cellS C4.out.2 Q5.out L4.out (fun h => h.2 rfl)⟩ (fun hSn => ?_)
      clear hK K
      try simp only [Act.put, List.setIfInBounds_toArray, List.set_cons_zero, List.set_cons_succ]
      refine wpAnyH_ready (rs := [9]) (by kernel_rfl) (by simp) ?_
      refine AllReadyH.cons rfl (fun K hK => ?_) AllReadyH.nil
      go_simp
      go_at_call 16
      refine (number_s v1 (fun j => g ≤ j ∧ j ≠ gi) g _ W5.out (fun j hj => HBn.out j (Nat.le_trans Q5.out.size hj)) i.n 4 (by have := HIk.out.2.1; omega) (by simp only [lenS, putB, Option.map_some, Option.getD_some, List.length_append, leB_length]; have := HLk.out; have := HIk.out.1; omega)).mono ?_
      rintro e v2 ⟨rfl, hq1, hq2⟩
      have W6 := Lib.hid hq1
      have Q6 : Hid (Keeps (fun j => g ≤ j ∧ j ≠ gi) w4 v2) := Q5.out.trans hq2
      clear hq1 hq2
      refine hK.out _ _ ⟨rngS R4.out Q6.out L4.out (fun h => h.2 rfl), cellS C4.out.1 Q6.out L4.out (fun h => h.2 rfl), cellS C4.out.2 Q6.out L4.out (fun h => h.2 rfl)⟩ (fun hSn => ?_)
      clear hK K
      try simp only [Act.put, List.setIfInBounds_toArray, List.set_cons_zero, List.set_cons_succ]
      refine wpAnyH_ready (rs := [12]) (by kernel_rfl) (by simp) ?_
      refine AllReadyH.cons rfl (fun K hK => ?_) AllReadyH.nil
      go_simp
      go_at_call 25
      refine (blob_s v2 (fun j => g ≤ j ∧ j ≠ gi) g _ W6.out (fun j hj => HBn.out j (Nat.le_trans Q6.out.size hj)) w.heap.size i.A _ i.c i.wit rfl ((HIk.out.2.2.2.below HBx.out).keeps2 Q6.out (fun hne ad had _ hs => by have := sees_lt HIk.out.2.2.2 hne had; have := hs.1; have := HGw.out; omega)) (fun hne ad had _ hs => by have := sees_lt HIk.out.2.2.2 hne had; have := hs.1; have := HGw.out; omega) (by have h1 := lenS_putN (putB (some (leB l.length 2 ++ insB (l.take k))) i.id) i.n 4; have h2 := lenS_putB (some (leB l.length 2 ++ insB (l.take k))) i.id; have h3 : lenS (some (leB l.length 2 ++ insB (l.take k))) ≤ 18946 := (by simp only [lenS, Option.getD_some, List.length_append, leB_length]; have := HLk.out; omega); have := HIk.out.1; have := HIk.out.2.2.1; omega)).mono ?_
      rw [putIn HIk.out.2.1 HIk.out.2.2.1]
      rintro e v3 ⟨rfl, hq1, hq2⟩
      have W7 : Hid (WrS v3 (fun j => g ≤ j) g (some (leB l.length 2 ++ insB (l.take (k + 1))))) := (by rw [HNx.out, ← List.append_assoc]; exact hq1.re (fun j _ h => h.1))
      have Q7 : Hid (Keeps (fun j => g ≤ j ∧ j ≠ gi) w4 v3) := Q6.out.trans hq2
      clear hq1 hq2
      refine hK.out _ _ ⟨rngS R4.out Q7.out L4.out (fun h => h.2 rfl), cellS C4.out.1 Q7.out L4.out (fun h => h.2 rfl), cellS C4.out.2 Q7.out L4.out (fun h => h.2 rfl)⟩ (fun hSn => ?_)
      clear hK K
      try simp only [Act.put, List.setIfInBounds_toArray, List.set_cons_zero, List.set_cons_succ]
      refine wpAnyH_done (by kernel_rfl) ?_ _
      have Hb7 : Hid (Below g w2 v3) := (Hb.out.trans ((show Below g wr w4 from ⟨K4.out.os, K4.out.tape, K4.out.output, K4.out.size, fun j hj => K4.out.block j (Nat.lt_of_lt_of_le hj HSz.out)⟩))).trans (Q7.out.below (Nat.le_trans HSz.out K4.out.size) (fun j hj h => by have := h.1; omega))
      go_wp2
      go_roundw
      case rel => exact ⟨k + 1, by omega, by go_num, W7.out, Hb7.out⟩
      case measure => simp [intOf] <;> omega
    · obtain rfl : k = l.length := by omega
      obtain ⟨Q0, hQ0⟩ : ∃ P, leB l.length 2 ++ insB l = P := ⟨_, rfl⟩
      obtain ⟨P, hP⟩ : ∃ P, Q0 ++ leB m.length 2 = P := ⟨_, rfl⟩
      have HWe : Hid (WrS wr (fun j => g ≤ j) g (some Q0)) := by have h := HW.out; rw [List.take_length, hQ0] at h; exact h
      have HLq : Hid (Q0.length ≤ 18946) := by
        have h := HLi.out l.length
        rw [List.take_length] at h
        show _ ≤ _
        rw [← hQ0, List.length_append, leB_length]; omega
      have HLp : Hid (P.length ≤ 18948) := by show _ ≤ _; rw [← hP, List.length_append, leB_length]; have := HLq.out; omega
      have HEq : Hid (P ++ outsB m ++ leB nn 8 = leB l.length 2 ++ (insB l ++ (leB m.length 2 ++ (outsB m ++ leB nn 8)))) := by show _ = _; rw [← hP, ← hQ0]; simp only [List.append_assoc]
      have HPq : Hid (Q0 ++ leB m.length 2 = P) := hP
      have hc1 : wr.cell? ⟨w.heap.size, 1, none⟩ = some (.slice B m.length t.d) := (Hb.out.cell (p := ⟨w.heap.size, 1, none⟩) HGw.out).trans HC2.out.2.1
      clear hQ0 hP HW
      go_wp2_with (go_at_call 14; refine (count_s wr (fun j => g ≤ j) g (some Q0) HWe.out (fun j hj => Nat.le_trans HSz.out hj) (m.length : Int) (by simp only [lenS, Option.getD_some]; have := HLq.out; omega)).mono ?_; rw [putCnt ho2, HPq.out]; rintro e w5 ⟨rfl, hq1, hq2⟩; have W5 := Lib.hid hq1; have V5 : Hid (Below g w2 w5) := Hb.out.trans (hq2.below HSz.out (fun j hj h => by omega)); have hc5 : w5.cell? ⟨w.heap.size, 1, none⟩ = some (.slice B m.length t.d) := (V5.out.cell (p := ⟨w.heap.size, 1, none⟩) HGw.out).trans HC2.out.2.1; clear hq1 hq2)
      clear hc1 HWe HSz Hb HBg
      go_loopw [49] (fun iv wr => ∃ k : Nat, k ≤ m.length ∧ iv = .int .i64 k ∧ Hid (WrS wr (fun j => g ≤ j) g (some (P ++ outsB (m.take k)))) ∧ Hid (Below g w2 wr)) (fun iv _ => m.length - (intOf iv).toNat)
      case atStart => exact ⟨0, by omega, rfl, (by rw [show outsB (m.take 0) = [] from rfl, List.append_nil]; exact W5.out), V5.out⟩
      case round =>
        clear W5 V5 hc5
        obtain ⟨k, hk, rfl, HW, Hb⟩ := hrel
        have HBg : Hid (Below w.heap.size w wr) := nxTr Hb2.out (by rw [HG.out]; exact Hb.out)
        have HSz : Hid (g ≤ wr.heap.size) := by rw [← HG.out]; exact Hb.out.size
        by_cases hlt : k < m.length
        · obtain ⟨b, off, rfl, hbb, hr⟩ := outsC_row HJS.out (fun i h => (HJ.out i h).lock) (by omega)
          have hrk := rngB (hr k hlt) HBg.out hbb
          have hik := HJ.out _ (List.getElem_mem hlt)
          have hnx := outsB_next hlt
          have hll := HLo.out k
          obtain ⟨o, ho⟩ : ∃ i, m[k] = i := ⟨_, rfl⟩
          rw [ho] at hrk hik hnx
          have HR := Lib.hid hrk
          have HIk := Lib.hid hik
          have HNx := Lib.hid hnx
          have HLk := Lib.hid hll
          have HZ : Hid ((Tryd.prog.info? 37).map (·.size) = some (outC o).length) := by show _ = _; rw [outC_len hik.lock]; exact Tryd.sizeOut
          have HZh : Hid ((Tryd.prog.info? 24).map (·.size) = some (By o.lock).length) := by show _ = _; rw [By_length, hik.lock]; exact Tryd.sizeH
          clear hr hrk hik ho hnx hll
          go_wp2_with (first
            | ((with_reducible show wpList _ _ _ (⟨some 52, _, _, _, _, _⟩ :: _) _ _); refine wpList_load_mid rfl 37 (.tmp 51) rfl b (off + k * 33) rfl (outC o) _ HR.out Tryd.underlying37 rfl HZ.out ?_)
            | ((with_reducible show wpList _ _ _ (⟨none, .store 37 _ _, _, _, _, _⟩ :: _) _ _); refine wpList_store_all rfl 37 (.tmp 9) (.tmp 52) rfl wr.heap.size 37 _ (outC o).toArray rfl rfl (heap_alloc_new wr _) (by simp [outC_len HIk.out.lock]) (by rw [List.size_toArray]; exact HZ.out) (outC_one o) ?_; intro w4 h5 h6 h7; have R4 := Lib.hid (rng_tail (blkR (vs := outC o) h5)); have C4 : Hid (w4.cell? ⟨wr.heap.size, 0, none⟩ = some (.int .u64 (o.amt : Int))) := h5.cell 0; have L4 : Hid (wr.heap.size < w4.heap.size) := h5.lt; have K4 : Hid (Below wr.heap.size wr w4) := (nxAl (nxRf wr) _).trans (h6.below (nxAl (nxRf wr) _).size (fun k hk => by omega)); clear h5 h6 h7))
          have W4 : Hid (WrS w4 (fun j => g ≤ j ∧ j ≠ wr.heap.size) g (some (P ++ outsB (m.take k)))) := (HW.out.re (fun j hj h => ⟨h, by omega⟩)).below K4.out
          have HBn : Hid (∀ j, w4.heap.size ≤ j → g ≤ j ∧ j ≠ wr.heap.size) := fun j hj => ⟨by have := HSz.out; have := L4.out; omega, by have := L4.out; omega⟩
          obtain ⟨gi, hgi⟩ : ∃ g, wr.heap.size = g := ⟨_, rfl⟩
          rw [hgi] at W4 HBn R4 C4 L4
          rw [hgi]
          clear hgi
          refine wp_region_held_drew (S := fun W => W.rangeAt gi (0 + 1) (By o.lock) ∧ W.cell? ⟨gi, 0, none⟩ = some (.int .u64 (o.amt : Int))) (by kernel_rfl) ⟨R4.out, C4.out⟩ (fun hHeld => ?_)
          refine wpAnyH_take (i := 0) (oi := ⟨_, _, _, _, _, _⟩) (v := ?_) rfl (by kernel_rfl) (by kernel_rfl) (by kernel_rfl) (fun _ _ _ h => h) (Or.inl ⟨by rfl, ?_⟩) (by assumption) ?_
          rotate_left 1
          · intro W hSw
            try dsimp only at hSw
            go_simp
            try with_reducible rfl
          try simp only [Act.put, List.setIfInBounds_toArray, List.set_cons_zero, List.set_cons_succ]
          refine wpAnyH_take (i := 1) (oi := ⟨_, _, _, _, _, _⟩) (v := ?_) rfl (by kernel_rfl) (by kernel_rfl) (by kernel_rfl) (fun _ _ _ h => h) (Or.inl ⟨by rfl, ?_⟩) (by assumption) ?_
          rotate_left 1
          · intro W hSw
            try dsimp only at hSw
            go_simp
            try with_reducible rfl
          try simp only [Act.put, List.setIfInBounds_toArray, List.set_cons_zero, List.set_cons_succ]
          refine wpAnyH_take (i := 2) (oi := ⟨_, _, _, _, _, _⟩) (v := ?_) rfl (by kernel_rfl) (by kernel_rfl) (by kernel_rfl) (fun _ _ _ h => h) (Or.inl ⟨by rfl, ?_⟩) (by assumption) ?_
          rotate_left 1
          · intro W hSw
            try dsimp only at hSw
            go_simp
            try with_reducible rfl
          try simp only [Act.put, List.setIfInBounds_toArray, List.set_cons_zero, List.set_cons_succ]
          refine wpAnyH_take (i := 4) (oi := ⟨_, _, _, _, _, _⟩) (v := ?_) rfl (by kernel_rfl) (by kernel_rfl) (by kernel_rfl) (fun _ _ _ h => h) (Or.inl ⟨by rfl, ?_⟩) (by assumption) ?_
          rotate_left 1
          · intro W hSw
            try dsimp only at hSw
            go_simp
            try with_reducible rfl
          try simp only [Act.put, List.setIfInBounds_toArray, List.set_cons_zero, List.set_cons_succ]
          refine wpAnyH_take (i := 5) (oi := ⟨_, _, _, _, _, _⟩) (v := .agg (By o.lock).toArray) rfl (by kernel_rfl) (by kernel_rfl) (by kernel_rfl) (fun _ _ _ h => h) (yieldsIf_load_mid (by rfl) 24 (.tmp 57) rfl (gi) (0 + 1) rfl (By o.lock) _ (fun W h => h.1) Tryd.underlying24 rfl HZh.out) (by assumption) ?_
          try simp only [Act.put, List.setIfInBounds_toArray, List.set_cons_zero, List.set_cons_succ]
          refine wpAnyH_ready (rs := [3]) (by kernel_rfl) (by simp) ?_
          refine AllReadyH.cons rfl (fun K hK => ?_) AllReadyH.nil
          go_simp
          go_at_call 16
          refine (number_s w4.drew (fun j => g ≤ j ∧ j ≠ gi) g (some (P ++ outsB (m.take k))) (show WrS w4.drew _ g _ from W4.out) HBn.out o.amt 8 HIk.out.amt (by simp only [lenS, Option.getD_some, List.length_append]; have := HLk.out; have := HLp.out; omega)).mono ?_
          rintro e v1 ⟨rfl, hq1, hq2⟩
          have W5 := Lib.hid hq1
          have Q5 : Hid (Keeps (fun j => g ≤ j ∧ j ≠ gi) w4 v1) := ⟨hq2.os, hq2.tape, hq2.output, hq2.size, hq2.block⟩
          clear hq1 hq2
          refine hK.out _ _ ⟨rngS R4.out Q5.out L4.out (fun h => h.2 rfl), cellS C4.out Q5.out L4.out (fun h => h.2 rfl)⟩ (fun hSn => ?_)
          clear hK K
          try simp only [Act.put, List.setIfInBounds_toArray, List.set_cons_zero, List.set_cons_succ]
          refine wpAnyH_ready (rs := [6]) (by kernel_rfl) (by simp) ?_
          refine AllReadyH.cons rfl (fun K hK => ?_) AllReadyH.nil
          go_simp
          go_at_call 15
          refine (whash_s v1 (fun j => g ≤ j ∧ j ≠ gi) g _ W5.out (fun j hj => HBn.out j (Nat.le_trans Q5.out.size hj)) o.lock HIk.out.lock (by have h1 := lenS_putN (some (P ++ outsB (m.take k))) o.amt 8; have h3 : lenS (some (P ++ outsB (m.take k))) ≤ 21508 := (by simp only [lenS, Option.getD_some, List.length_append]; have := HLk.out; have := HLp.out; omega); omega)).mono ?_
          rw [putOut HIk.out.amt]
          rintro e v3 ⟨rfl, hq1, hq2⟩
          have W7 : Hid (WrS v3 (fun j => g ≤ j) g (some (P ++ outsB (m.take (k + 1))))) := (by rw [HNx.out, ← List.append_assoc]; exact hq1.re (fun j _ h => h.1))
          have Q7 : Hid (Keeps (fun j => g ≤ j ∧ j ≠ gi) w4 v3) := Q5.out.trans hq2
          clear hq1 hq2
          refine hK.out _ _ ⟨rngS R4.out Q7.out L4.out (fun h => h.2 rfl), cellS C4.out Q7.out L4.out (fun h => h.2 rfl)⟩ (fun hSn => ?_)
          clear hK K
          try simp only [Act.put, List.setIfInBounds_toArray, List.set_cons_zero, List.set_cons_succ]
          refine wpAnyH_done (by kernel_rfl) ?_ _
          have Hb7 : Hid (Below g w2 v3) := (Hb.out.trans ((show Below g wr w4 from ⟨K4.out.os, K4.out.tape, K4.out.output, K4.out.size, fun j hj => K4.out.block j (Nat.lt_of_lt_of_le hj HSz.out)⟩))).trans (Q7.out.below (Nat.le_trans HSz.out K4.out.size) (fun j hj h => by have := h.1; omega))
          go_wp2
          go_roundw
          case rel => exact ⟨k + 1, by omega, by go_num, W7.out, Hb7.out⟩
          case measure => simp [intOf] <;> omega
        · obtain rfl : k = m.length := by omega
          have HWe : Hid (WrS wr (fun j => g ≤ j) g (some (P ++ outsB m))) := by have h := HW.out; rw [List.take_length] at h; exact h
          have HLe : Hid ((outsB m).length ≤ 2560) := by have h := HLo.out m.length; rw [List.take_length] at h; exact h
          have hc2 : wr.cell? ⟨w.heap.size, 2, none⟩ = some (.int .u64 (nn : Int)) := (Hb.out.cell (p := ⟨w.heap.size, 2, none⟩) HGw.out).trans HC2.out.2.2.1
          have hpn : putN (some (P ++ outsB m)) nn 8 = some F := by rw [HP.out, ← HEq.out]; exact putN_ok (Z := 8) rfl (by have := HN.out; omega)
          have HFl : Hid (F.length ≤ 30000) := by show _ ≤ _; rw [HP.out, ← HEq.out, List.length_append, List.length_append, leB_length]; have := HLe.out; have := HLp.out; omega
          have HPn := Lib.hid hpn
          clear hpn HW
          go_wp2_with (first
            | (go_at_call 16; refine (number_s wr (fun j => g ≤ j) g (some (P ++ outsB m)) HWe.out (fun j hj => Nat.le_trans HSz.out hj) nn 8 HN.out (by simp only [lenS, Option.getD_some, List.length_append]; have := HLe.out; have := HLp.out; omega)).mono ?_; rw [HPn.out]; rintro e w7 ⟨rfl, hq1, hq2⟩; have W7 := Lib.hid hq1; have V7 : Hid (Below g w2 w7) := Hb.out.trans (hq2.below HSz.out (fun j hj h => by omega)); clear hq1 hq2)
            | (go_at_call 17; refine (end_s w7 (fun j => g ≤ j) g _ W7.out (by have h := HFl.out; unfold lenS; rw [Option.getD_some]; omega)).mono ?_; unfold EndPost; rintro e w8 ⟨⟨A9, c9, rfl, ho9⟩, hb8⟩; have HO9 := Lib.hid ho9; have V8 := Lib.hid hb8; clear ho9 hb8))
          go_ret2
          have HB7 : Below w.heap.size w w7 := nxTr Hb2.out (by rw [HG.out]; exact V7.out)
          exact ⟨⟨A9, c9, w7.heap.size, rfl, HB7.size, HO9.out⟩, nxTr HB7 V8.out⟩
end Go.Proofs.YtpfjkjogljilnaaDoor
