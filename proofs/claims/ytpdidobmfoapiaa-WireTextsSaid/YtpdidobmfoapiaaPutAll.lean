/-
  put(l): a writer with parts put into it.
-/
import Derived.Test.YtpdidobmfoapiaaByt
namespace Go.Proofs.Ytpdidobmfoapiaa
open Go.RowKit

/-- What putting one part does. -/
def putPart (st : Option (List UInt8)) (p : Prt) : Option (List UInt8) :=
  if p.kind = 1 then putN st p.n p.size
  else if p.kind = 2 then putB st p.b
  else if p.kind = 3 then putBlob st p.b
  else if p.kind = 4 then putCount st p.size
  else if p.kind = 5 then putB st p.h
  else st
/-- The first k parts put. -/
def putTo (L : List Prt) (k : Nat) : Option (List UInt8) := (L.take k).foldl putPart (some [])
theorem putTo_succ (L : List Prt) (k : Nat) (h : k < L.length) : putTo L (k + 1) = putPart (putTo L k) L[k] := by
  unfold putTo
  rw [List.take_succ_eq_append_getElem h, List.foldl_append]
  rfl
theorem lenS_putCount (st : Option (List UInt8)) (n : Int) : lenS (putCount st n) ≤ lenS st + 8 := by
  unfold putCount
  split
  · exact lenS_putN _ _ _
  · simp [lenS]
theorem lenS_putBlob (st : Option (List UInt8)) (x : List UInt8) : lenS (putBlob st x) ≤ lenS st + 8 + x.length := by
  unfold putBlob
  split
  · have h1 := lenS_putB (putN st x.length 4) x
    have h2 := lenS_putN st x.length 4
    omega
  · simp [lenS]
theorem lenS_putPart (st : Option (List UInt8)) (p : Prt) (hh : p.h.length = 32) : lenS (putPart st p) ≤ lenS st + p.b.length + 40 := by
  unfold putPart
  split
  · have := lenS_putN st p.n p.size; omega
  split
  · have := lenS_putB st p.b; omega
  split
  · have := lenS_putBlob st p.b; omega
  split
  · have := lenS_putCount st p.size; omega
  split
  · have := lenS_putB st p.h; omega
  · omega

theorem putPart_1 {st : Option (List UInt8)} {p : Prt} (h : (p.kind == 1) = true) : putPart st p = putN st p.n p.size := by
  have := beq_iff_eq.1 h; simp [putPart, this]
theorem putPart_2 {st : Option (List UInt8)} {p : Prt} (h : (p.kind == 2) = true) : putPart st p = putB st p.b := by
  have := beq_iff_eq.1 h; simp [putPart, this]
theorem putPart_3 {st : Option (List UInt8)} {p : Prt} (h : (p.kind == 3) = true) : putPart st p = putBlob st p.b := by
  have := beq_iff_eq.1 h; simp [putPart, this]
theorem putPart_4 {st : Option (List UInt8)} {p : Prt} (h : (p.kind == 4) = true) : putPart st p = putCount st p.size := by
  have := beq_iff_eq.1 h; simp [putPart, this]
theorem putPart_5 {st : Option (List UInt8)} {p : Prt} (h : (p.kind == 5) = true) : putPart st p = putB st p.h := by
  have := beq_iff_eq.1 h; simp [putPart, this]
theorem putPart_6 {st : Option (List UInt8)} {p : Prt} (h1 : (p.kind == 1) = false) (h2 : (p.kind == 2) = false) (h3 : (p.kind == 3) = false) (h4 : (p.kind == 4) = false) (h5 : (p.kind == 5) = false) : putPart st p = st := by
  simp only [beq_eq_false_iff_ne] at h1 h2 h3 h4 h5
  simp [putPart, h1, h2, h3, h4, h5]
/-- The hash's cells inside a part's block. -/
theorem range_hash {w : World} {g : Nat} {t : TypeId} {p : Prt} (hb : Blk w g t (PCells p).toArray) : w.rangeAt g 4 (By p.h) := by
  intro j v hv
  rw [hb.cell (4 + j)]
  simpa [PCells, Nat.add_comm 4 j] using hv
theorem Blk.new (w : World) (t : TypeId) (cs : Array Value) : Blk (w.alloc (.cells cs t)) w.heap.size t cs := heap_alloc_new w _
/-- A zero part's cells. -/
def pZero : Array Value := #[.int .i64 0, .int .i64 0, .int .u64 0, .slice none 0 0, .int .u8 0, .int .u8 0, .int .u8 0, .int .u8 0, .int .u8 0, .int .u8 0, .int .u8 0, .int .u8 0, .int .u8 0, .int .u8 0, .int .u8 0, .int .u8 0, .int .u8 0, .int .u8 0, .int .u8 0, .int .u8 0, .int .u8 0, .int .u8 0, .int .u8 0, .int .u8 0, .int .u8 0, .int .u8 0, .int .u8 0, .int .u8 0, .int .u8 0, .int .u8 0, .int .u8 0, .int .u8 0, .int .u8 0, .int .u8 0, .int .u8 0, .int .u8 0]
theorem Try.psize : (Try.prog.info? 32).map (·.size) = some 36 := by kernel_rfl
theorem below_new {w w2 : World} {o : Obj} (hk : Keeps (· = w.heap.size) (w.alloc o) w2) : Below w.heap.size w w2 :=
  ((Below.refl _ _).alloc (Nat.le_refl _) _).trans (hk.below (by simp) (fun k hk => by omega))

/-- What put answers. -/
def PAllPost (w : World) (L : List Prt) (e : Ending) (w' : World) : Prop :=
  e = .returned (.pointer (some ⟨w.heap.size, 0, none⟩)) ∧ WrS w' (fun k => w.heap.size ≤ k) w.heap.size (putTo L L.length) ∧ Below w.heap.size w w'

/-- What a round of put leaves. -/
def PutRel (w : World) (L : List Prt) (k : Nat) (wr : World) : Prop :=
  WrS wr (fun j => w.heap.size ≤ j) w.heap.size (putTo L k) ∧ Below w.heap.size w wr ∧ lenS (putTo L k) ≤ k * 20040 ∧ w.heap.size < wr.heap.size

theorem PutRel.next {w w2 w3 : World} {L : List Prt} {k : Nat} (h2 : Below w.heap.size w w2) (hz : w.heap.size < w2.heap.size) (hlt : k < L.length) (hW : WrS w3 (fun j => w.heap.size ≤ j) w.heap.size (putTo L (k + 1)))
    (hk : Keeps (fun j => w.heap.size ≤ j) w2 w3) (hb : L[k].b.length ≤ 20000) (hh : L[k].h.length = 32) (hl : lenS (putTo L k) ≤ k * 20040) : PutRel w L (k + 1) w3 :=
  ⟨hW, h2.trans (hk.below h2.size (fun j hj => by omega)), by
    rw [putTo_succ L k hlt]
    have := lenS_putPart (putTo L k) L[k] hh
    omega, Nat.lt_of_lt_of_le hz hk.size⟩

set_option maxHeartbeats 1000000 in
set_option maxRecDepth 100000 in
theorem put_any (w : World) (A : Option Addr) (n c : Nat) (L : List Prt) (hn : n = L.length) (hS : PSees w w.heap.size A L) (hmax : n ≤ 40) (hbig : ∀ p ∈ L, p.b.length ≤ 20000) :
    Calls Try.prog 11 #[.slice A n c] w (PAllPost w L) := by
  subst hn
  have HS := Lib.hid hS
  have Hbig := Lib.hid hbig
  clear hS hbig
  have HS0 := Lib.hid (WrS.new w (fun k => w.heap.size ≤ k) (Nat.le_refl _))
  go_enter Try.func11, Try.ntmps11
  go_wp2
  go_loopw [3, 4] (fun v i wr => ∃ k : Nat, k ≤ L.length ∧ i = .int .i64 k ∧ v = .pointer (some ⟨w.heap.size, 0, none⟩) ∧ Hid (PutRel w L k wr)) (fun _ i _ => L.length - (intOf i).toNat)
  case atStart => exact ⟨0, Nat.zero_le _, rfl, rfl, HS0.out, (Below.refl _ _).alloc (Nat.le_refl _) _, by simp [putTo, lenS], by simp⟩
  case round =>
    obtain ⟨k, hk, rfl, rfl, HR⟩ := hrel
    by_cases hlt : k < L.length
    · obtain ⟨b, off, rfl, hb, hr, hok⟩ := (HS.out.below HR.out.2.1).at_ hlt
      have Hr := Lib.hid hr
      have Hok := Lib.hid hok
      have HPS : Hid ((Try.prog.info? 32).map (·.size) = some (PCells L[k]).length) := by show _ = _; rw [PCells_length hok]; exact Try.psize
      have HPS2 : Hid ((Try.prog.info? 32).map (·.size) = some (PCells L[k]).toArray.size) := by show _ = _; rw [List.size_toArray]; exact HPS.out
      have HPZ : Hid (pZero.size = (PCells L[k]).toArray.size) := by show 36 = (PCells L[k]).length; rw [PCells_length hok]
      have hlb := Hbig.out _ (List.getElem_mem hlt)
      have HHS : Hid ((Try.prog.info? 30).map (·.size) = some (By L[k].h).length) := by show _ = _; rw [By_length, hok.h]; exact Try.hsize
      have Hsn := Lib.hid (putTo_succ L k hlt)
      clear hr hok
      have hp := HR.out.2.2.2
      go_wp2_with (first
        | ((with_reducible show wpList _ _ _ (⟨some 17, _, _, _, _, _⟩ :: _) _ _); refine wpList_load_mid rfl 32 (.tmp 16) rfl b (off + k * 36) rfl (PCells L[k]) _ Hr.out Try.underlying32 rfl HPS.out ?_)
        | ((with_reducible show wpList _ _ _ (⟨none, _, _, _, _, _⟩ :: _) _ _); refine wpList_store_all rfl 32 (.tmp 5) (.tmp 17) rfl wr.heap.size 32 pZero (PCells L[k]).toArray rfl rfl (Blk.new wr _ _) HPZ.out HPS2.out (PCells_one _) ?_; intro w2 h5 h6 h7; have H5 := Lib.hid h5; have H6 := Lib.hid (below_new h6); have c0 : w2.cell? ⟨wr.heap.size, 0, none⟩ = some (.int .i64 L[k].kind) := h5.cell 0; have c1 : w2.cell? ⟨wr.heap.size, 1, none⟩ = some (.int .i64 L[k].size) := h5.cell 1; have c2 : w2.cell? ⟨wr.heap.size, 2, none⟩ = some (.int .u64 L[k].n) := h5.cell 2; have c3 : w2.cell? ⟨wr.heap.size, 3, none⟩ = some (.slice L[k].A L[k].b.length L[k].c) := h5.cell 3; have HW2 := Lib.hid (HR.out.1.below H6.out); have Hnw : Hid (∀ j, w2.heap.size ≤ j → w.heap.size ≤ j) := (fun j hj => by have := H6.out.size; omega); have Hok2 : Hid (L[k].ok w2 w.heap.size) := Hok.out.later (H6.out.mono (by omega)); clear h5 h6 h7)
        | (go_at_call 35; have hkd : (L[k].kind == 1) = true := (by assumption); refine (number_s _ _ _ _ HW2.out Hnw.out L[k].n L[k].size Hok2.out.n (by have := HR.out.2.2.1; omega)).mono ?_; rintro e w3 ⟨rfl, hq1, hq2⟩; have HX : Hid (WrS w3 (fun j => w.heap.size ≤ j) w.heap.size (putTo L (k + 1)) ∧ Keeps (fun j => w.heap.size ≤ j) w2 w3) := ⟨(by rw [Hsn.out, putPart_1 hkd]; exact hq1), hq2⟩; clear hq1 hq2)
        | (go_at_call 39; have hkd : (L[k].kind == 2) = true := (by assumption); refine (bytes_s _ _ _ _ HW2.out Hnw.out _ _ _ _ L[k].b rfl Hok2.out.see (by have := HR.out.2.2.1; omega)).mono ?_; rintro e w3 ⟨rfl, hq1, hq2⟩; have HX : Hid (WrS w3 (fun j => w.heap.size ≤ j) w.heap.size (putTo L (k + 1)) ∧ Keeps (fun j => w.heap.size ≤ j) w2 w3) := ⟨(by rw [Hsn.out, putPart_2 hkd]; exact hq1), hq2⟩; clear hq1 hq2)
        | (go_at_call 36; have hkd : (L[k].kind == 3) = true := (by assumption); refine (blob_s _ _ _ _ HW2.out Hnw.out _ _ _ _ L[k].b rfl Hok2.out.see (fun h0 ad had _ => by have := Hok2.out.at_ h0 ad had; omega) (by have := HR.out.2.2.1; omega)).mono ?_; rintro e w3 ⟨rfl, hq1, hq2⟩; have HX : Hid (WrS w3 (fun j => w.heap.size ≤ j) w.heap.size (putTo L (k + 1)) ∧ Keeps (fun j => w.heap.size ≤ j) w2 w3) := ⟨(by rw [Hsn.out, putPart_3 hkd]; exact hq1), hq2⟩; clear hq1 hq2)
        | (go_at_call 40; have hkd : (L[k].kind == 4) = true := (by assumption); refine (count_s _ _ _ _ HW2.out Hnw.out L[k].size (by have := HR.out.2.2.1; omega)).mono ?_; rintro e w3 ⟨rfl, hq1, hq2⟩; have HX : Hid (WrS w3 (fun j => w.heap.size ≤ j) w.heap.size (putTo L (k + 1)) ∧ Keeps (fun j => w.heap.size ≤ j) w2 w3) := ⟨(by rw [Hsn.out, putPart_4 hkd]; exact hq1), hq2⟩; clear hq1 hq2)
        | ((with_reducible show wpList _ _ _ (⟨some 50, _, _, _, _, _⟩ :: _) _ _); refine wpList_load_mid rfl 30 (.tmp 49) rfl wr.heap.size 4 rfl (By L[k].h) _ (range_hash H5.out) Try.underlying30 rfl HHS.out ?_)
        | (go_at_call 41; have hkd : (L[k].kind == 5) = true := (by assumption); refine (whash_s _ _ _ _ HW2.out Hnw.out L[k].h Hok2.out.h (by have := HR.out.2.2.1; omega)).mono ?_; rintro e w3 ⟨rfl, hq1, hq2⟩; have HX : Hid (WrS w3 (fun j => w.heap.size ≤ j) w.heap.size (putTo L (k + 1)) ∧ Keeps (fun j => w.heap.size ≤ j) w2 w3) := ⟨(by rw [Hsn.out, putPart_5 hkd]; exact hq1), hq2⟩; clear hq1 hq2))
      all_goals
        go_roundw
        case rel =>
          first
            | exact ⟨k + 1, by omega, by go_num, rfl, PutRel.next (HR.out.2.1.trans (H6.out.mono (by omega))) (by have := H6.out.size; omega) hlt HX.out.1 HX.out.2 hlb Hok2.out.h HR.out.2.2.1⟩
            | exact ⟨k + 1, by omega, by go_num, rfl, PutRel.next (HR.out.2.1.trans (H6.out.mono (by omega))) (by have := H6.out.size; omega) hlt (by rw [Hsn.out, putPart_6 (by assumption) (by assumption) (by assumption) (by assumption) (by assumption)]; exact HW2.out) (Keeps.refl _ _) hlb Hok2.out.h HR.out.2.2.1⟩
        case measure => simp [intOf]; omega
    · obtain rfl : k = L.length := by omega
      go_wp2
      go_ret
      exact ⟨rfl, HR.out.1, HR.out.2.1⟩

end Go.Proofs.Ytpdidobmfoapiaa
