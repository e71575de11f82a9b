/-
  WireWrites: the walk.
-/
import Derived.Test.YtpdidobmfoapiaaPutAll
namespace Go.Proofs.Ytpdidobmfoapiaa
open Go.RowKit

/-- What the document wants of the first k parts. -/
def wantTo (L : List Prt) (k : Nat) : List UInt8 := (L.take k).flatMap fun p => (partB p).1
def goodTo (L : List Prt) (k : Nat) : Bool := (L.take k).all fun p => (partB p).2
theorem wantTo_succ (L : List Prt) (k : Nat) (h : k < L.length) : wantTo L (k + 1) = wantTo L k ++ (partB L[k]).1 := by
  unfold wantTo; rw [List.take_succ_eq_append_getElem h, List.flatMap_append]; simp
theorem goodTo_succ (L : List Prt) (k : Nat) (h : k < L.length) : goodTo L (k + 1) = (goodTo L k && (partB L[k]).2) := by
  unfold goodTo; rw [List.take_succ_eq_append_getElem h, List.all_append]; simp
theorem putL_len (N : Nat) (Z : Int) : (putL N Z).length ≤ 8 := by
  unfold putL
  split
  · rename_i h
    rw [leB_length]
    have := may_cases h; omega
  · simp
theorem partB_len (p : Prt) (hh : p.h.length = 32) : (partB p).1.length ≤ p.b.length + 40 := by
  unfold partB
  split
  · have := putL_len p.n p.size; simp; omega
  split
  · simp
  split
  · simp [leB_length]; omega
  split
  · split
    · have := putL_len p.size.toNat 2; simp; omega
    · simp
  split
  · simp; omega
  · simp
theorem putB_nil (st : Option (List UInt8)) : putB st [] = st := by cases st <;> simp [putB]
theorem putB_putB (st : Option (List UInt8)) (x y : List UInt8) : putB (putB st x) y = putB st (x ++ y) := by cases st <;> simp [putB]
theorem putN_eq (st : Option (List UInt8)) (N : Nat) (Z : Int) : putN st N Z = if numOk N Z then putB st (putL N Z) else none := by
  unfold putN
  cases h : numOk N Z with
  | false => rfl
  | true =>
    have : may Z = true := by simp [numOk] at h; exact h.1
    simp [putL, this]
theorem numOk4 (n : Nat) (h : n ≤ 16777216) : numOk n 4 = true := by
  simp [numOk]
  exact ⟨rfl, by omega⟩
theorem putPart_eq (st : Option (List UInt8)) (p : Prt) (hb : p.b.length ≤ 20000) : putPart st p = if (partB p).2 then putB st (partB p).1 else none := by
  unfold putPart partB
  by_cases h1 : p.kind = 1
  · simp [h1, putN_eq]
  by_cases h2 : p.kind = 2
  · simp [h2]
  by_cases h3 : p.kind = 3
  · have e : putBlob st p.b = putB st (leB p.b.length 4 ++ p.b) := by
      unfold putBlob
      rw [if_pos (by omega), putN_eq, numOk4 _ (by omega), if_pos rfl, putB_putB]
      rfl
    simp [h3, e]
  by_cases h4 : p.kind = 4
  · simp only [h4, putCount]
    by_cases hs : 0 ≤ p.size ∧ p.size ≤ 65535
    · simp [hs, putN_eq]
    · simp [hs]
  by_cases h5 : p.kind = 5
  · simp [h5]
  · simp [h1, h2, h3, h4, h5, putB_nil]
theorem putTo_eq (L : List Prt) (hb : ∀ p ∈ L, p.b.length ≤ 20000) : ∀ k, k ≤ L.length → putTo L k = if goodTo L k then some (wantTo L k) else none := by
  intro k
  induction k with
  | zero => intro _; simp [putTo, goodTo, wantTo]
  | succ k ih =>
    intro hk
    rw [putTo_succ L k (by omega), ih (by omega), goodTo_succ L k (by omega), wantTo_succ L k (by omega), putPart_eq _ _ (hb _ (List.getElem_mem _))]
    cases goodTo L k <;> cases (partB L[k]).2 <;> simp [putB]

/-- What a round of the first loop leaves. -/
def WantRel (w : World) (L : List Prt) (k : Nat) (A : Option Addr) (c : Nat) (wr : World) : Prop :=
  wr.ownsRow w.heap.size 5 1 (.slice A (wantTo L k).length c) (wantTo L k).length (By (wantTo L k)) ∧ Below w.heap.size w wr ∧ (wantTo L k).length ≤ k * 20040

/-- A byte of a row of the call's own: what it holds, and what comes of a store. -/
theorem own_byte {w : World} {base : Nat} {A : Option Addr} {n c : Nat} {l : List UInt8} (h : w.ownsRow base 5 1 (.slice A n c) n (By l)) {j : Nat} (hj : j < l.length) :
    ∃ g, A = some ⟨g, 0, none⟩ ∧ base ≤ g ∧ w.cell? ⟨g, j, none⟩ = some (.int .u8 (l[j].toNat : Int)) ∧ w.frozen? ⟨g, j, none⟩ = false ∧
      ∀ b : UInt8, (w.setCell ⟨g, j, none⟩ (.int .u8 (b.toNat : Int))).ownsRow base 5 1 (.slice (some ⟨g, 0, none⟩) n c) n (By (l.set j b)) := by
  have hn : n = l.length := by have := h.1; simp [By_length] at this; omega
  rcases h.2 with ⟨_, h0⟩ | ⟨g, cap, cur, hv, hb, hh, hnc, hcm, hcs, ht⟩
  · omega
  · injection hv with hA _ hc
    subst hA hc
    refine ⟨g, rfl, hb, ?_, h.frozenAt j, fun b => ?_⟩
    · rw [h.cellAt j (by omega)]
      simp [By, hj]
    · have := (h.stored j (.int .u8 (b.toNat : Int))).1
      have e : By (l.set j b) = (By l).set j (.int .u8 (b.toNat : Int)) := by simp [By, List.map_set]
      rw [e]
      exact this
theorem psees_up {w wr : World} {A : Option Addr} {L : List Prt} (h : PSees w w.heap.size A L) (hb : Below w.heap.size w wr) : PSees wr wr.heap.size A L := by
  have h1 := h.below hb
  refine ⟨fun p hp => ?_, ?_⟩
  · have := h1.1 p hp
    exact ⟨this.n, this.h, this.see.size, this.lo, this.hi⟩
  · rcases h1.2 with h0 | ⟨b, off, hA, hlt, hr⟩
    · exact .inl h0
    · exact .inr ⟨b, off, hA, Nat.lt_of_lt_of_le hlt hb.size, hr⟩
theorem want_own {w wr w1 : World} {L : List Prt} {k : Nat} {A : Option Addr} {c m : Nat} (h : WantRel w L k A c wr) (hm : m = (wantTo L k).length) (hb : Below wr.heap.size wr w1) :
    w1.ownsRow w.heap.size 5 1 (.slice A m c) m (By (wantTo L k)) := by
  subst hm
  exact own_below h.1 hb (fun g hg => (h.1.lt g hg).2)
theorem want_next {w wr w1 w2 : World} {L : List Prt} {k : Nat} {A A' : Option Addr} {c c' m : Nat} {pb : List UInt8} (_hlt : k < L.length) (h : WantRel w L k A c wr) (hm : m = (wantTo L k).length) (hb : Below wr.heap.size wr w1)
    (hown : w2.ownsRow w.heap.size 5 1 (.slice A' (m + pb.length) c') (m + pb.length) (By (wantTo L k) ++ By pb)) (hgr : w1.grownBy w2 (Value.slice A m c).ownBlock) (hs : wantTo L (k + 1) = wantTo L k ++ pb) (hp : pb.length ≤ 20040) :
    WantRel w L (k + 1) A' c' w2 := by
  subst hm
  have hl : (wantTo L (k + 1)).length = (wantTo L k).length + pb.length := by rw [hs, List.length_append]
  refine ⟨?_, ?_, ?_⟩
  · rw [hl, hs, By_append]; exact hown
  · exact (h.2.1.trans (hb.mono h.2.1.size)).grown hgr (Nat.le_trans h.2.1.size hb.size) (fun j hj => (h.1.lt j hj).1)
  · rw [hl]; have := h.2.2; omega

set_option maxHeartbeats 1000000 in
set_option maxRecDepth 100000 in
theorem wireWrites_any (w : World) (A : Option Addr) (n c : Nat) (L : List Prt) (hn : n = L.length) (hS : PSees w w.heap.size A L) (hmax : n ≤ 9223372036854775807) (hbig : ∀ p ∈ L, p.b.length ≤ 9223372036854775807) :
    Calls Try.prog 3 #[.slice A n c] w fun e w' => e = .returned (.bool true) ∧ Below w.heap.size w w' := by
  cases hM : muchB L with
  | true =>
    have HM := Lib.hid hM
    have HS := Lib.hid hS
    have Hbig := Lib.hid hbig
    have Hn := Lib.hid hn
    clear hM hS hbig hn
    go_enter Try.func3, Try.ntmps3
    go_wp2_with (first
      | (go_at_call 8; refine (much_any _ _ _ _ _ L Hn.out HS.out hmax Hbig.out).mono ?_; rw [HM.out]; rintro e w' ⟨rfl, rfl⟩)
      | (go_at_call 9; refine (known_any _).mono ?_; rintro e w1 ⟨rfl, hb1⟩))
    go_ret
    exact ⟨rfl, hb1⟩
  | false =>
    obtain ⟨hl40, hb20, _⟩ := much_no hM
    have HM := Lib.hid hM
    have HS := Lib.hid hS
    have Hbig := Lib.hid hbig
    have Hb20 := Lib.hid hb20
    obtain rfl := hn
    clear hM hS hbig hb20
    obtain ⟨i0, hi, hz0, hz1, hz2⟩ := info_parts Try.u8info
    go_enter Try.func3, Try.ntmps3
    go_wp2_with (go_at_call 8; refine (much_any _ _ _ _ _ L rfl HS.out hmax Hbig.out).mono ?_; rw [HM.out]; rintro e w' ⟨rfl, rfl⟩)
    go_loopw [3, 4, 5] (fun v gd i wr => ∃ (k : Nat) (A1 : Option Addr) (c1 m : Nat) (g : Bool), k ≤ L.length ∧ i = .int .i64 k ∧ v = .slice A1 m c1 ∧ gd = .bool g ∧ Hid (m = (wantTo L k).length) ∧ Hid (g = goodTo L k) ∧ Hid (WantRel w L k A1 c1 wr)) (fun _ _ i _ => L.length - (intOf i).toNat)
    case atStart => exact ⟨0, none, 0, 0, true, Nat.zero_le _, rfl, rfl, rfl, rfl, rfl, World.ownsRow_nil _ _ _ _, Below.refl _ _, by simp [wantTo]⟩
    case round =>
      obtain ⟨k, A1, c1, m, g, hk, rfl, rfl, rfl, Hm, Hg, HR⟩ := hrel
      by_cases hlt : k < L.length
      · obtain ⟨b, off, rfl, hb, hr, hok⟩ := (HS.out.below HR.out.2.1).at_ hlt
        have Hr := Lib.hid hr
        have Hok := Lib.hid hok
        have HPS : Hid ((Try.prog.info? 32).map (·.size) = some (PCells L[k]).length) := by show _ = _; rw [PCells_length hok]; exact Try.psize
        have hlb := Hb20.out _ (List.getElem_mem hlt)
        have Hws := Lib.hid (wantTo_succ L k hlt)
        have Hgs := Lib.hid (goodTo_succ L k hlt)
        have hpl := partB_len L[k] hok.h
        generalize hpb : (partB L[k]).1 = pb at *
        generalize hpo : (partB L[k]).2 = po at *
        have Hpb := Lib.hid hpb
        have Hpo := Lib.hid hpo
        have hmm : m ≤ k * 20040 := by rw [Hm.out]; exact HR.out.2.2
        have hwz := HR.out.2.1.size
        clear hr hok hpb hpo
        cases g with
        | true =>
          go_wp2_with (first
            | ((with_reducible show wpList _ _ _ (⟨some 27, _, _, _, _, _⟩ :: _) _ _); refine wpList_load_mid rfl 32 (.tmp 26) rfl b (off + k * 36) rfl (PCells L[k]) _ Hr.out Try.underlying32 rfl HPS.out ?_)
            | (go_at_call 10; refine (byt_any _ _ L[k] Hok.out hlb).mono ?_; rw [Hpb.out, Hpo.out]; rintro e w1 ⟨A2, c2, rfl, hs2, hb2⟩; have Hs2 := Lib.hid hs2; have Hb2 := Lib.hid hb2; clear hs2 hb2)
            | (at_builtin; refine wpList_append_sees rfl (.tmp 35) (.tmp 36) 25 rfl w.heap.size 5 i0 (.int .u8 0) Try.underlying25 hi hz0 hz1 hz2 rfl (.slice A1 m c1) m (By (wantTo L k)) rfl (want_own HR.out Hm.out Hb2.out) _ A2 pb.length c2 pb rfl rfl Hs2.out (by omega) (Nat.le_trans hwz Hb2.out.size) ?_; intro v' w2 hown hgr hat; obtain ⟨A3, c3, rfl⟩ := own_form hown; have HR2 := Lib.hid (want_next hlt HR.out Hm.out Hb2.out hown hgr Hws.out (by omega)); clear hown hgr hat))
          go_roundw
          case rel => exact ⟨k + 1, A3, c3, m + pb.length, po, by omega, by go_num, rfl, rfl, by show _ = _; rw [Hws.out, List.length_append, Hm.out], by show _ = _; rw [Hgs.out, ← Hg.out]; simp, HR2⟩
          case measure => simp [intOf]; omega
        | false =>
          go_wp2_with (first
            | ((with_reducible show wpList _ _ _ (⟨some 27, _, _, _, _, _⟩ :: _) _ _); refine wpList_load_mid rfl 32 (.tmp 26) rfl b (off + k * 36) rfl (PCells L[k]) _ Hr.out Try.underlying32 rfl HPS.out ?_)
            | (go_at_call 10; refine (byt_any _ _ L[k] Hok.out hlb).mono ?_; rw [Hpb.out, Hpo.out]; rintro e w1 ⟨A2, c2, rfl, hs2, hb2⟩; have Hs2 := Lib.hid hs2; have Hb2 := Lib.hid hb2; clear hs2 hb2)
            | (at_builtin; refine wpList_append_sees rfl (.tmp 35) (.tmp 36) 25 rfl w.heap.size 5 i0 (.int .u8 0) Try.underlying25 hi hz0 hz1 hz2 rfl (.slice A1 m c1) m (By (wantTo L k)) rfl (want_own HR.out Hm.out Hb2.out) _ A2 pb.length c2 pb rfl rfl Hs2.out (by omega) (Nat.le_trans hwz Hb2.out.size) ?_; intro v' w2 hown hgr hat; obtain ⟨A3, c3, rfl⟩ := own_form hown; have HR2 := Lib.hid (want_next hlt HR.out Hm.out Hb2.out hown hgr Hws.out (by omega)); clear hown hgr hat))
          go_roundw
          case rel => exact ⟨k + 1, A3, c3, m + pb.length, false, by omega, by go_num, rfl, rfl, by show _ = _; rw [Hws.out, List.length_append, Hm.out], by show _ = _; rw [Hgs.out, ← Hg.out]; simp, HR2⟩
          case measure => simp [intOf]; omega
      · obtain rfl : k = L.length := by omega
        have HT := Lib.hid (putTo_eq L Hb20.out L.length (Nat.le_refl _))
        have hmm : m ≤ 40 * 20040 := by rw [Hm.out]; have := HR.out.2.2; have : L.length * 20040 ≤ 40 * 20040 := Nat.mul_le_mul_right _ hl40; omega
        have hwz := HR.out.2.1.size
        cases g with
        | false =>
          have HT2 : Hid (putTo L L.length = none) := by show _ = _; rw [HT.out, ← Hg.out]; rfl
          go_wp2_with (first
            | (go_at_call 11; refine (put_any _ _ _ _ L rfl (psees_up HS.out HR.out.2.1) hl40 Hb20.out).mono ?_; rintro e w1 ⟨rfl, h1, h2⟩; rw [HT2.out] at h1; have H1 := Lib.hid h1; have H2 := Lib.hid h2; clear h1 h2)
            | (go_at_call 12; refine (end_s _ _ _ _ H1.out (by simp [lenS])).mono ?_; rintro e w' ⟨rfl, rfl⟩)
            | (go_at_call 13; refine (num_any _ _).mono ?_; rintro e w' ⟨rfl, rfl⟩)
            | (go_at_call 9; refine (known_any _).mono ?_; rintro e w2 ⟨rfl, hb2⟩))
          go_ret
          exact ⟨rfl, (HR.out.2.1.trans (H2.out.mono hwz)).trans (hb2.mono (Nat.le_trans hwz H2.out.size))⟩
        | true =>
          have HT2 : Hid (putTo L L.length = some (wantTo L L.length)) := by show _ = _; rw [HT.out, ← Hg.out]; rfl
          have HRo := Lib.hid (want_own HR.out Hm.out (Below.refl _ _))
          generalize wantTo L L.length = l at *
          obtain rfl : m = l.length := Hm.out
          go_wp2_with (first
            | (go_at_call 11; refine (put_any _ _ _ _ L rfl (psees_up HS.out HR.out.2.1) hl40 Hb20.out).mono ?_; rintro e w1 ⟨rfl, h1, h2⟩; rw [HT2.out] at h1; have H1 := Lib.hid h1; have H2 := Lib.hid h2; clear h1 h2)
            | (go_at_call 12; refine (end_s _ _ _ _ H1.out (by simp only [lenS, Option.getD_some]; omega)).mono ?_; rintro e w2 ⟨⟨A2, c2, rfl, ho2⟩, hb2⟩; have Ho2 := Lib.hid ho2; have Hb2 := Lib.hid hb2; clear ho2 hb2))
          obtain ⟨wo, rfl⟩ : ∃ wo : World, wo = wr := ⟨_, rfl⟩
          go_loopw [11] (fun i wx => ∃ (j : Nat) (l2 : List UInt8), j ≤ l.length ∧ i = .int .i64 j ∧ Hid (l2.length = l.length) ∧ Hid (wx.ownsRow w1.heap.size 5 1 (.slice A2 l.length c2) l.length (By l2)) ∧ Hid (Below w1.heap.size w1 wx)) (fun i _ => l.length - (intOf i).toNat)
          case atStart => exact ⟨0, l, Nat.zero_le _, rfl, rfl, Ho2.out, Hb2.out⟩
          case round =>
            obtain ⟨j, l2, hj, rfl, Hl2, Ho, Hb⟩ := hrel
            by_cases hjl : j < l.length
            · have hjl2 : j < l2.length := by rw [Hl2.out]; exact hjl
              obtain ⟨gb, rfl, hgb, hcell, hfr, hset⟩ := own_byte Ho.out hjl2
              have hlt256 : l2[j].toNat < 256 := l2[j].toNat_lt
              have Hset := Lib.hid hset
              clear hset
              have HE : Hid (((UInt8.ofNat ((l2[j].toNat + 1) % 256)).toNat : Int) = ((l2[j].toNat : Int) + 1) % 256) := by show _ = _; rw [u8_mod]; omega
              go_wp2
              go_roundw
              case rel => exact ⟨j + 1, l2.set j (UInt8.ofNat ((l2[j].toNat + 1) % 256)), by omega, by go_num, by show _ = _; rw [List.length_set]; exact Hl2.out, by show World.ownsRow _ _ _ _ _ _ _; rw [← HE.out]; exact Hset.out _, Hb.out.setCell (by exact hgb) _⟩
              case measure => simp [intOf]; omega
            · obtain rfl : j = l.length := by omega
              have HW := Lib.hid (H1.out.below Hb.out)
              go_wp2_with (first
                | (go_at_call 12; refine (end_s _ _ _ _ HW.out (by simp only [lenS, Option.getD_some]; omega)).mono ?_; rintro e w4 ⟨⟨A4, c4, rfl, ho4⟩, hb4⟩; have Hb4 := Lib.hid hb4; have q1 : (convert 25 9 (.slice A4 l.length c4)).run Try.prog w4 = .ok (.string (Str l)) w4 := (run_string_sees Try.underlying25 Try.underlying5 Try.underlying9 rfl (Sees.own ho4)); have q2 : (convert 25 9 (.slice A1 l.length c1)).run Try.prog w4 = .ok (.string (Str l)) w4 := (run_string_sees Try.underlying25 Try.underlying5 Try.underlying9 rfl ((((Sees.own HRo.out).later H2.out).later Hb.out).later hb4)); clear ho4 hb4)
                | (go_at_call 13; refine (num_any _ _).mono ?_; rintro e w' ⟨rfl, rfl⟩)
                | (go_at_call 9; refine (known_any _).mono ?_; rintro e w5 ⟨rfl, hb5⟩))
              go_ret
              have z1 := Nat.le_trans hwz H2.out.size
              have z2 := Nat.le_trans z1 Hb.out.size
              exact ⟨rfl, (((HR.out.2.1.trans (H2.out.mono hwz)).trans (Hb.out.mono z1)).trans (Hb4.out.mono z2)).trans (hb5.mono (Nat.le_trans z2 Hb4.out.size))⟩

end Go.Proofs.Ytpdidobmfoapiaa
