/-
  merkle: all bytes of a text. · merkle: the walk of meet.
-/
import Derived.Test.YtcbdjcmjchoagaaDoorMkV
import Derived.Test.YtcbdjcmjchoagaaDoorMkY
namespace Go.Proofs.YtcbdjcmjchoagaaDoor
open Go.RowKit

theorem SeesL.three {w : World} {g : Nat} {A B C : Option Addr} {k l q : List UInt8} {t : TypeId} {i j n c d e : Nat} (h1 : SeesO w g A k) (h2 : SeesO w g B l) (h3 : SeesO w g C q) (hi : i = k.length) (hj : j = l.length) (hn : n = q.length) (hc : i ≤ c) (hd : j ≤ d) (he : n ≤ e) (hne : w.heap.size ≠ g) :
    SeesL (w.alloc (.cells #[.slice A i c, .slice B j d, .slice C n e] t)) g (some ⟨w.heap.size, 0, none⟩) [k, l, q] := by
  subst hi hj hn
  refine .inr ⟨w.heap.size, 0, rfl, by simp, hne, fun x hx => ?_⟩
  have hb : Blk (w.alloc (.cells #[.slice A k.length c, .slice B l.length d, .slice C q.length e] t)) w.heap.size t #[.slice A k.length c, .slice B l.length d, .slice C q.length e] := heap_alloc_new w _
  have : x = 0 ∨ x = 1 ∨ x = 2 := by simp at hx; omega
  rcases this with rfl | rfl | rfl
  · exact ⟨A, c, by rw [hb.cell]; rfl, hc, h1.keeps ((Keeps.refl _ _).alloc _)⟩
  · exact ⟨B, d, by rw [hb.cell]; rfl, hd, h2.keeps ((Keeps.refl _ _).alloc _)⟩
  · exact ⟨C, e, by rw [hb.cell]; rfl, he, h3.keeps ((Keeps.refl _ _).alloc _)⟩
theorem whole_sees {w : World} {g : Nat} {A : Option Addr} {l : List UInt8} (T : ByteArray) (k : Nat) (hk : k = T.size) (hT : k ≤ 255) (cap : Nat) (hcap : k ≤ cap) (t : TypeId) (e : TypeId) (fr : Nat × Nat) (n c : Nat) (hn : n = l.length) (hc : n ≤ c) (hl : SeesO w g A l) (hg : g ≠ w.heap.size ∧ g ≠ w.heap.size + 1 ∧ g ≠ w.heap.size + 2) :
    SeesL ((((w.alloc (.cells #[.int .u8 (k : Int)] e)).alloc (.cells (bytesRow T cap) e fr))).alloc (.cells #[.slice (some ⟨w.heap.size, 0, none⟩) 1 1, .slice (some ⟨w.heap.size + 1, 0, none⟩) k cap, .slice A n c] t)) g (some ⟨w.heap.size + 1 + 1, 0, none⟩) [[UInt8.ofNat k], nmL T, l] := by
  have h1 : SeesO (w.alloc (.cells #[.int .u8 (k : Int)] e)) g (some ⟨w.heap.size, 0, none⟩) [UInt8.ofNat k] := SeesO.lenB (w := w) k hT e (by omega)
  have h2 := SeesO.brow (w := (w.alloc (.cells #[.int .u8 (k : Int)] e))) (g := g) T cap e fr (by rw [World.size_alloc]; omega)
  have h3 := SeesL.three (t := t) (i := 1) (j := k) (n := n) (c := 1) (d := cap) (e := c) (h1.keeps ((Keeps.refl (· = g) _).alloc (.cells (bytesRow T cap) e fr))) h2 ((hl.keeps ((Keeps.refl (· = g) _).alloc _)).keeps ((Keeps.refl (· = g) _).alloc _)) rfl (by rw [nmL_length, hk]) hn (Nat.le_refl _) hcap hc (by rw [World.size_alloc, World.size_alloc]; omega)
  simp only [World.size_alloc] at h3
  exact h3

set_option maxHeartbeats 1000000 in
set_option maxRecDepth 100000 in
theorem whole_any (w : World) (nm : ByteArray) (hnm : nm.size ≤ 200) (A : Option Addr) (n c : Nat) (l : List UInt8) (hn : n = l.length) (hc : n ≤ c) (hS : Sees w w.heap.size A l) (hmax : n ≤ 10000) :
    Calls Tryd.prog 38 #[TextV nm A n c] w (CatNew w (tagB nm l)) := by
  unfold TextV
  have hP : Blk (w.alloc (.cells #[.string nm, .slice A n c] 63)) w.heap.size 63 #[.string nm, .slice A n c] := heap_alloc_new w _
  have hb0 : Below w.heap.size w (w.alloc (.cells #[.string nm, .slice A n c] 63)) := nxAlloc (nxRefl w) _
  have qc : ∀ (W : World) (U : ByteArray), (convert 9 47 (.string U)).run Tryd.prog W = .ok (.slice (some ⟨W.heap.size, 0, none⟩) U.size (grownCap W U.size 0 5)) (W.drew.alloc (.cells (bytesRow U (grownCap W U.size 0 5)) 5 ((bytesRow U (grownCap W U.size 0 5)).size, (bytesRow U (grownCap W U.size 0 5)).size + 1))) := fun W U => run_bytes_of_string W 9 47 5 U Tryd.underlying9 Tryd.underlying47 Tryd.underlying5
  have hc0 : (w.alloc (.cells #[.string nm, .slice A n c] 63)).cell? ⟨w.heap.size, 0, none⟩ = some (.string nm) := hP.cell 0
  have hc1 : (w.alloc (.cells #[.string nm, .slice A n c] 63)).cell? ⟨w.heap.size, 1, none⟩ = some (.slice A n c) := hP.cell 1
  have hlO : SeesO (w.alloc (.cells #[.string nm, .slice A n c] 63)) (w.heap.size + 1 + 1 + 1 + 1) A l := by
    rcases (hS.below hb0) with h | ⟨b, off, hA, hlt, hcc⟩
    · exact .inl h
    · exact .inr ⟨b, off, hA, by simp; omega, by omega, hcc⟩
  have HO := Lib.hid hlO
  have HF : Hid (([[UInt8.ofNat nm.size], nmL nm, l] : List (List UInt8)).flatten = tagB nm l) := by show _ = _; simp [tagB]
  have HLl : Hid ((tagB nm l).length ≤ 100000) := by show _ ≤ _; simp only [tagB, List.length_append, List.length_cons, nmL_length]; omega
  have Hb0 := Lib.hid hb0
  have HN := Lib.hid hn
  have HC := Lib.hid hc
  clear hS hP hb0 hlO hn hc
  go_enter Tryd.func38, Tryd.ntmps38
  go_wp2_with (go_at_call 48; refine (concat_new _ _ 3 3 [[UInt8.ofNat nm.size], nmL nm, l] rfl (by have h := (whole_sees (w := w.alloc (.cells #[.string nm, .slice A n c] 63)) (g := w.heap.size + 1 + 1 + 1 + 1) nm nm.size rfl (by omega) (grownCap ((w.alloc (.cells #[.string nm, .slice A n c] 63)).alloc (.cells #[.int .u8 (nm.size : Int)] 5)) nm.size 0 5) (grownCap_ge _ _ _ _) 47 5 ((bytesRow nm (grownCap ((w.alloc (.cells #[.string nm, .slice A n c] 63)).alloc (.cells #[.int .u8 (nm.size : Int)] 5)) nm.size 0 5)).size, (bytesRow nm (grownCap ((w.alloc (.cells #[.string nm, .slice A n c] 63)).alloc (.cells #[.int .u8 (nm.size : Int)] 5)) nm.size 0 5)).size + 1) n c HN.out HC.out HO.out (by simp only [World.size_alloc]; omega)).drew; simpa only [World.size_alloc, World.drew] using h) (by omega) (by rw [HF.out]; exact HLl.out)).mono ?_; rw [HF.out]; rintro e w4 ⟨A4, c4, rfl, hc4, hs4, hb4, hf4⟩; have HC4 := Lib.hid hc4; have HS4 := Lib.hid hs4; have Hb4 : Hid (Below w.heap.size w w4) := nxTo (nxDr (nxAlloc (nxAlloc (nxAlloc Hb0.out _) _) _)) hb4; have HF4 : Hid (Fresh w.heap.size A4) := Fresh.mono (B := w.heap.size) hf4 (by simp only [World.size_alloc, World.drew]; omega); clear hc4 hs4 hb4 hf4)
  go_ret
  exact ⟨A4, c4, rfl, HC4.out, HS4.out, Hb4.out, HF4.out⟩
end Go.Proofs.YtcbdjcmjchoagaaDoor
namespace Go.Proofs.YtcbdjcmjchoagaaDoor
open Go.RowKit

/-- A text of a row of texts. -/
theorem text_at {w : World} {rb : Option Nat} {a : Nat} {A : Option Addr} {T : List (ByteArray × List UInt8)} {vs : List Value} (hs : SeesV w w.heap.size A vs) (hx : TxV w rb a T vs) {i : Nat} (hi : i < T.length) :
    ∃ b off Ab cb, A = some ⟨b, off, none⟩ ∧ b < w.heap.size ∧ w.rangeAt b (off + i * 2) [.string T[i].1, .slice Ab T[i].2.length cb] ∧ T[i].2.length ≤ cb ∧ Sees w w.heap.size Ab T[i].2 := by
  have hl : vs.length = T.length * 2 := hx.1
  obtain ⟨b, off, hA, hb, hc⟩ := hs.at_ (k := 0) (by omega)
  obtain ⟨Ab, cb, g1, g2, g3, g4⟩ := hx.2 i hi
  refine ⟨b, off, Ab, cb, hA, hb, fun j v hv => ?_, g3, g4.sees⟩
  match j, hv with
  | 0, hv =>
    rw [show v = .string T[i].1 by simpa using hv.symm]
    have h1 := (List.getElem?_eq_some_iff.1 g1)
    rw [Nat.add_zero, hc (i * 2) (by omega), h1.2]
  | 1, hv =>
    rw [show v = .slice Ab T[i].2.length cb by simpa using hv.symm]
    have h1 := (List.getElem?_eq_some_iff.1 g2)
    rw [Nat.add_assoc, hc (i * 2 + 1) (by omega), h1.2]
  | j + 2, hv => simp at hv
/-- A text's hash. -/
def hashT (t : ByteArray × List UInt8) : List UInt8 := shaB (tagB t.1 t.2)
theorem hashT_len (t : ByteArray × List UInt8) : (hashT t).length = 32 := shaB_length _
def FitT (T : List (ByteArray × List UInt8)) : Prop := ∀ t ∈ T, t.1.size ≤ 200 ∧ t.2.length ≤ 10000
/-- What meet answers: of the first place where the hashes are the same both texts, or nothing. -/
def MeetPost (w : World) (T U : List (ByteArray × List UInt8)) (e : Ending) (w' : World) : Prop :=
  Below w.heap.size w w' ∧
  ((∃ (i : Nat) (h1 : i < T.length) (h2 : i < U.length) (A B : Option Addr) (c d : Nat), (∀ j (g1 : j < T.length) (g2 : j < U.length), j < i → hashT T[j] ≠ hashT U[j]) ∧ hashT T[i] = hashT U[i] ∧
      e = .returned (.tuple #[.slice A (tagB T[i].1 T[i].2).length c, .slice B (tagB U[i].1 U[i].2).length d, .bool true]) ∧ (tagB T[i].1 T[i].2).length ≤ c ∧ (tagB U[i].1 U[i].2).length ≤ d ∧ Sees w' w'.heap.size A (tagB T[i].1 T[i].2) ∧ Sees w' w'.heap.size B (tagB U[i].1 U[i].2)) ∨
   ((∀ j (g1 : j < T.length) (g2 : j < U.length), hashT T[j] ≠ hashT U[j]) ∧ e = .returned (.tuple #[.slice none 0 0, .slice none 0 0, .bool false])))

set_option maxHeartbeats 2000000 in
set_option maxRecDepth 100000 in
theorem meet_any (w : World) (hT : Tabs w) (A B : Option Addr) (n c m d : Nat) (T U : List (ByteArray × List UInt8)) (hn : n = T.length) (hm : m = U.length) (hc : n ≤ c) (hd : m ≤ d) (vs us : List Value) (ra rb : Option Nat) (a b : Nat) (hs : SeesV w w.heap.size A vs) (hu : SeesV w w.heap.size B us) (hx : TxV w ra a T vs) (hy : TxV w rb b U us) (fT : FitT T) (fU : FitT U) (hmax : n ≤ 2097152) (mmax : m ≤ 2097152) :
    Calls Tryd.prog 39 #[.slice A n c, .slice B m d] w (MeetPost w T U) := by
  subst hn hm
  have HT := Lib.hid hT
  have HS := Lib.hid hs
  have HU := Lib.hid hu
  have HX := Lib.hid hx
  have HY := Lib.hid hy
  have FT := Lib.hid fT
  have FU := Lib.hid fU
  have HST : Hid (∀ (nm : ByteArray) (A : Option Addr) (n c : Nat), (Tryd.prog.info? 63).map (·.size) = some [Value.string nm, .slice A n c].length) := fun _ _ _ _ => Tryd.txtsize
  clear hT hs hu hx hy fT fU
  by_cases hM : U.length < T.length
  · go_enter Tryd.func39, Tryd.ntmps39
    go_wp2
    go_loopw [13] (fun iv wr => ∃ k : Nat, k ≤ U.length ∧ iv = .int .i64 k ∧ Hid (∀ j (g1 : j < T.length) (g2 : j < U.length), j < k → hashT T[j] ≠ hashT U[j]) ∧ Hid (Below w.heap.size w wr)) (fun iv _ => U.length - (intOf iv).toNat)
    case atStart => exact ⟨0, by omega, rfl, fun j _ _ h => absurd h (Nat.not_lt_zero _), nxRefl w⟩
    case round =>
      obtain ⟨k, hk, rfl, HN, Hb⟩ := hrel
      by_cases hlt : k < U.length
      · have hkT : k < T.length := by omega
        have hkU : k < U.length := by omega
        obtain ⟨b1, o1, A1, c1, hA1, hb1, hr1, hl1, hs1⟩ := text_at ((HS.out.below Hb.out).size) (HX.out.later Hb.out) hkT
        obtain ⟨b2, o2, A2, c2, hA2, hb2, hr2, hl2, hs2⟩ := text_at ((HU.out.below Hb.out).size) (HY.out.later Hb.out) hkU
        subst hA1 hA2
        have f1 := FT.out _ (List.getElem_mem hkT)
        have f2 := FU.out _ (List.getElem_mem hkU)
        obtain ⟨t, ht⟩ : ∃ t, T[k] = t := ⟨_, rfl⟩
        obtain ⟨u, hu⟩ : ∃ u, U[k] = u := ⟨_, rfl⟩
        rw [ht] at hr1 hl1 hs1 f1
        rw [hu] at hr2 hl2 hs2 f2
        obtain ⟨x, hx⟩ : ∃ x, hashT t = x := ⟨_, rfl⟩
        obtain ⟨y, hy⟩ : ∃ y, hashT u = y := ⟨_, rfl⟩
        have HXx : Hid (shaB (tagB t.1 t.2) = x) := hx
        have HYy : Hid (shaB (tagB u.1 u.2) = y) := hy
        have hxl : x.length = 32 := by rw [← hx]; exact hashT_len _
        have hyl : y.length = 32 := by rw [← hy]; exact hashT_len _
        have HTk : Hid (T[k] = t) := ht
        have HUk : Hid (U[k] = u) := hu
        have HHx : Hid (hashT t = x) := hx
        have HHy : Hid (hashT u = y) := hy
        have R1 := Lib.hid hr1
        have R2 := Lib.hid hr2
        have L1 := Lib.hid hl1
        have L2 := Lib.hid hl2
        have Z1 := Lib.hid hs1
        have Z2 := Lib.hid hs2
        have F1 := Lib.hid f1
        have F2 := Lib.hid f2
        have B1 := Lib.hid hb1
        have B2 := Lib.hid hb2
        clear ht hu hx hy hr1 hr2 hl1 hl2 hs1 hs2 f1 f2 hb1 hb2
        cases hq : x == y with
        | false =>
          have heq : ∀ wq, (binOp .eql 32 (.agg (By x).toArray) (.agg (By y).toArray)).run Tryd.prog wq = .ok (.bool false) wq := fun wq => by rw [run_eql_bytes 32 32 5 Tryd.underlying32 Tryd.underlying5 Tryd.u8size x y hxl hyl, hq]
          have HQ : Hid (x ≠ y) := by show _ ≠ _; exact beq_eq_false_iff_ne.1 hq
          clear hq hxl hyl
          go_wp2
          refine wp_region_held_drew (S := fun W => W.rangeAt b1 (o1 + k * 2) [Value.string t.1, .slice A1 t.2.length c1] ∧ W.rangeAt b2 (o2 + k * 2) [Value.string u.1, .slice A2 u.2.length c2]) (by kernel_rfl) ⟨R1.out, R2.out⟩ (fun hHeld => ?_)
          refine wpAnyH_take (i := 0) (oi := ⟨_, _, _, _, _, _⟩) (v := ?_) rfl (by kernel_rfl) (by kernel_rfl) (by kernel_rfl) (fun _ _ _ h => h) (Or.inl ⟨by rfl, ?_⟩) (by assumption) ?_
          rotate_left 1
          · intro W hSw
            try dsimp only at hSw
            go_simp
            try with_reducible rfl
          try simp only [Act.put, List.setIfInBounds_toArray, List.set_cons_zero, List.set_cons_succ]
          refine wpAnyH_take (i := 1) (oi := ⟨_, _, _, _, _, _⟩) (v := ?_) rfl (by kernel_rfl) (by kernel_rfl) (by kernel_rfl) (fun _ _ _ h => h) (Or.inl ⟨by rfl, ?_⟩) (by assumption) ?_
          rotate_left 1
          · intro W hSw
            try dsimp only at hSw
            go_simp
            try with_reducible rfl
          try simp only [Act.put, List.setIfInBounds_toArray, List.set_cons_zero, List.set_cons_succ]
          refine wpAnyH_take (i := 2) (oi := ⟨_, _, _, _, _, _⟩) (v := ?_) rfl (by kernel_rfl) (by kernel_rfl) (by kernel_rfl) (fun _ _ _ h => h) (Or.inl ⟨by rfl, ?_⟩) (by assumption) ?_
          rotate_left 1
          · intro W hSw
            try dsimp only at hSw
            go_simp
            try with_reducible rfl
          try simp only [Act.put, List.setIfInBounds_toArray, List.set_cons_zero, List.set_cons_succ]
          refine wpAnyH_take (i := 3) (oi := ⟨_, _, _, _, _, _⟩) (v := .agg ([Value.string t.1, .slice A1 t.2.length c1]).toArray) rfl (by kernel_rfl) (by kernel_rfl) (by kernel_rfl) (fun _ _ _ h => h) (yieldsIf_load_mid (by rfl) 63 (.tmp 18) rfl (b1) (o1 + k * 2) rfl ([Value.string t.1, .slice A1 t.2.length c1]) _ (fun W h => h.1) Tryd.underlying63 rfl (HST.out _ _ _ _)) (by assumption) ?_
          try simp only [Act.put, List.setIfInBounds_toArray, List.set_cons_zero, List.set_cons_succ]
          refine wpAnyH_take (i := 5) (oi := ⟨_, _, _, _, _, _⟩) (v := ?_) rfl (by kernel_rfl) (by kernel_rfl) (by kernel_rfl) (fun _ _ _ h => h) (Or.inl ⟨by rfl, ?_⟩) (by assumption) ?_
          rotate_left 1
          · intro W hSw
            try dsimp only at hSw
            go_simp
            try with_reducible rfl
          try simp only [Act.put, List.setIfInBounds_toArray, List.set_cons_zero, List.set_cons_succ]
          refine wpAnyH_take (i := 6) (oi := ⟨_, _, _, _, _, _⟩) (v := ?_) rfl (by kernel_rfl) (by kernel_rfl) (by kernel_rfl) (fun _ _ _ h => h) (Or.inl ⟨by rfl, ?_⟩) (by assumption) ?_
          rotate_left 1
          · intro W hSw
            try dsimp only at hSw
            go_simp
            try with_reducible rfl
          try simp only [Act.put, List.setIfInBounds_toArray, List.set_cons_zero, List.set_cons_succ]
          refine wpAnyH_take (i := 7) (oi := ⟨_, _, _, _, _, _⟩) (v := ?_) rfl (by kernel_rfl) (by kernel_rfl) (by kernel_rfl) (fun _ _ _ h => h) (Or.inl ⟨by rfl, ?_⟩) (by assumption) ?_
          rotate_left 1
          · intro W hSw
            try dsimp only at hSw
            go_simp
            try with_reducible rfl
          try simp only [Act.put, List.setIfInBounds_toArray, List.set_cons_zero, List.set_cons_succ]
          refine wpAnyH_take (i := 8) (oi := ⟨_, _, _, _, _, _⟩) (v := .agg ([Value.string u.1, .slice A2 u.2.length c2]).toArray) rfl (by kernel_rfl) (by kernel_rfl) (by kernel_rfl) (fun _ _ _ h => h) (yieldsIf_load_mid (by rfl) 63 (.tmp 23) rfl (b2) (o2 + k * 2) rfl ([Value.string u.1, .slice A2 u.2.length c2]) _ (fun W h => h.2) Tryd.underlying63 rfl (HST.out _ _ _ _)) (by assumption) ?_
          try simp only [Act.put, List.setIfInBounds_toArray, List.set_cons_zero, List.set_cons_succ]
          refine wpAnyH_ready (rs := [4]) (by kernel_rfl) (by simp) ?_
          refine AllReadyH.cons rfl (fun K hK => ?_) AllReadyH.nil
          go_simp
          go_at_call 33
          refine (hash_any wr.drew (HT.out.later (nxDr Hb.out)) t.1 F1.out.1 A1 _ c1 t.2 rfl L1.out (show Sees wr.drew _ _ _ from Z1.out) (by have := F1.out.2; omega)).mono ?_
          rw [HXx.out]
          rintro e v1 ⟨rfl, hv1⟩
          have V1 : Hid (Below wr.heap.size wr v1) := nxUndr hv1
          clear hv1
          refine hK.out _ _ ⟨rng_below R1.out V1.out B1.out, rng_below R2.out V1.out B2.out⟩ (fun hSn => ?_)
          clear hK K
          try simp only [Act.put, List.setIfInBounds_toArray, List.set_cons_zero, List.set_cons_succ]
          refine wpAnyH_ready (rs := [9]) (by kernel_rfl) (by simp) ?_
          refine AllReadyH.cons rfl (fun K hK => ?_) AllReadyH.nil
          go_simp
          go_at_call 33
          refine (hash_any v1 (HT.out.later (nxTo Hb.out V1.out)) u.1 F2.out.1 A2 _ c2 u.2 rfl L2.out ((Z2.out.below V1.out).more V1.out.size) (by have := F2.out.2; omega)).mono ?_
          rw [HYy.out]
          rintro e v2 ⟨rfl, hv2⟩
          have V2 : Hid (Below wr.heap.size wr v2) := nxTo V1.out hv2
          clear hv2
          refine hK.out _ _ ⟨rng_below R1.out V2.out B1.out, rng_below R2.out V2.out B2.out⟩ (fun hSn => ?_)
          clear hK K
          try simp only [Act.put, List.setIfInBounds_toArray, List.set_cons_zero, List.set_cons_succ]
          refine wpAnyH_take (i := 10) (oi := ⟨_, _, _, _, _, _⟩) (v := ?_) rfl (by kernel_rfl) (by kernel_rfl) (by kernel_rfl) (fun _ _ _ h => h) (Or.inl ⟨by rfl, ?_⟩) (by assumption) ?_
          rotate_left 1
          · intro W hSw
            try dsimp only at hSw
            go_simp
            try with_reducible rfl
          try simp only [Act.put, List.setIfInBounds_toArray, List.set_cons_zero, List.set_cons_succ]
          refine wpAnyH_done (by kernel_rfl) ?_ _
          go_wp2
          have HN' : Hid (∀ j (g1 : j < T.length) (g2 : j < U.length), j < k + 1 → hashT T[j] ≠ hashT U[j]) := by
            intro j g1 g2 hj
            by_cases h : j < k
            · exact HN.out j g1 g2 h
            · obtain rfl : j = k := by omega
              rw [HTk.out, HUk.out, HHx.out, HHy.out]; exact HQ.out
          go_roundw
          case rel => exact ⟨k + 1, by omega, by go_num, HN'.out, nxTo Hb.out V2.out⟩
          case measure => simp [intOf] <;> omega
        | true =>
          have heq : ∀ wq, (binOp .eql 32 (.agg (By x).toArray) (.agg (By y).toArray)).run Tryd.prog wq = .ok (.bool true) wq := fun wq => by rw [run_eql_bytes 32 32 5 Tryd.underlying32 Tryd.underlying5 Tryd.u8size x y hxl hyl, hq]
          have HQ : Hid (x = y) := by show _ = _; exact eq_of_beq hq
          clear hq hxl hyl
          go_wp2
          refine wp_region_held_drew (S := fun W => W.rangeAt b1 (o1 + k * 2) [Value.string t.1, .slice A1 t.2.length c1] ∧ W.rangeAt b2 (o2 + k * 2) [Value.string u.1, .slice A2 u.2.length c2]) (by kernel_rfl) ⟨R1.out, R2.out⟩ (fun hHeld => ?_)
          refine wpAnyH_take (i := 0) (oi := ⟨_, _, _, _, _, _⟩) (v := ?_) rfl (by kernel_rfl) (by kernel_rfl) (by kernel_rfl) (fun _ _ _ h => h) (Or.inl ⟨by rfl, ?_⟩) (by assumption) ?_
          rotate_left 1
          · intro W hSw
            try dsimp only at hSw
            go_simp
            try with_reducible rfl
          try simp only [Act.put, List.setIfInBounds_toArray, List.set_cons_zero, List.set_cons_succ]
          refine wpAnyH_take (i := 1) (oi := ⟨_, _, _, _, _, _⟩) (v := ?_) rfl (by kernel_rfl) (by kernel_rfl) (by kernel_rfl) (fun _ _ _ h => h) (Or.inl ⟨by rfl, ?_⟩) (by assumption) ?_
          rotate_left 1
          · intro W hSw
            try dsimp only at hSw
            go_simp
            try with_reducible rfl
          try simp only [Act.put, List.setIfInBounds_toArray, List.set_cons_zero, List.set_cons_succ]
          refine wpAnyH_take (i := 2) (oi := ⟨_, _, _, _, _, _⟩) (v := ?_) rfl (by kernel_rfl) (by kernel_rfl) (by kernel_rfl) (fun _ _ _ h => h) (Or.inl ⟨by rfl, ?_⟩) (by assumption) ?_
          rotate_left 1
          · intro W hSw
            try dsimp only at hSw
            go_simp
            try with_reducible rfl
          try simp only [Act.put, List.setIfInBounds_toArray, List.set_cons_zero, List.set_cons_succ]
          refine wpAnyH_take (i := 3) (oi := ⟨_, _, _, _, _, _⟩) (v := .agg ([Value.string t.1, .slice A1 t.2.length c1]).toArray) rfl (by kernel_rfl) (by kernel_rfl) (by kernel_rfl) (fun _ _ _ h => h) (yieldsIf_load_mid (by rfl) 63 (.tmp 18) rfl (b1) (o1 + k * 2) rfl ([Value.string t.1, .slice A1 t.2.length c1]) _ (fun W h => h.1) Tryd.underlying63 rfl (HST.out _ _ _ _)) (by assumption) ?_
          try simp only [Act.put, List.setIfInBounds_toArray, List.set_cons_zero, List.set_cons_succ]
          refine wpAnyH_take (i := 5) (oi := ⟨_, _, _, _, _, _⟩) (v := ?_) rfl (by kernel_rfl) (by kernel_rfl) (by kernel_rfl) (fun _ _ _ h => h) (Or.inl ⟨by rfl, ?_⟩) (by assumption) ?_
          rotate_left 1
          · intro W hSw
            try dsimp only at hSw
            go_simp
            try with_reducible rfl
          try simp only [Act.put, List.setIfInBounds_toArray, List.set_cons_zero, List.set_cons_succ]
          refine wpAnyH_take (i := 6) (oi := ⟨_, _, _, _, _, _⟩) (v := ?_) rfl (by kernel_rfl) (by kernel_rfl) (by kernel_rfl) (fun _ _ _ h => h) (Or.inl ⟨by rfl, ?_⟩) (by assumption) ?_
          rotate_left 1
          · intro W hSw
            try dsimp only at hSw
            go_simp
            try with_reducible rfl
          try simp only [Act.put, List.setIfInBounds_toArray, List.set_cons_zero, List.set_cons_succ]
          refine wpAnyH_take (i := 7) (oi := ⟨_, _, _, _, _, _⟩) (v := ?_) rfl (by kernel_rfl) (by kernel_rfl) (by kernel_rfl) (fun _ _ _ h => h) (Or.inl ⟨by rfl, ?_⟩) (by assumption) ?_
          rotate_left 1
          · intro W hSw
            try dsimp only at hSw
            go_simp
            try with_reducible rfl
          try simp only [Act.put, List.setIfInBounds_toArray, List.set_cons_zero, List.set_cons_succ]
          refine wpAnyH_take (i := 8) (oi := ⟨_, _, _, _, _, _⟩) (v := .agg ([Value.string u.1, .slice A2 u.2.length c2]).toArray) rfl (by kernel_rfl) (by kernel_rfl) (by kernel_rfl) (fun _ _ _ h => h) (yieldsIf_load_mid (by rfl) 63 (.tmp 23) rfl (b2) (o2 + k * 2) rfl ([Value.string u.1, .slice A2 u.2.length c2]) _ (fun W h => h.2) Tryd.underlying63 rfl (HST.out _ _ _ _)) (by assumption) ?_
          try simp only [Act.put, List.setIfInBounds_toArray, List.set_cons_zero, List.set_cons_succ]
          refine wpAnyH_ready (rs := [4]) (by kernel_rfl) (by simp) ?_
          refine AllReadyH.cons rfl (fun K hK => ?_) AllReadyH.nil
          go_simp
          go_at_call 33
          refine (hash_any wr.drew (HT.out.later (nxDr Hb.out)) t.1 F1.out.1 A1 _ c1 t.2 rfl L1.out (show Sees wr.drew _ _ _ from Z1.out) (by have := F1.out.2; omega)).mono ?_
          rw [HXx.out]
          rintro e v1 ⟨rfl, hv1⟩
          have V1 : Hid (Below wr.heap.size wr v1) := nxUndr hv1
          clear hv1
          refine hK.out _ _ ⟨rng_below R1.out V1.out B1.out, rng_below R2.out V1.out B2.out⟩ (fun hSn => ?_)
          clear hK K
          try simp only [Act.put, List.setIfInBounds_toArray, List.set_cons_zero, List.set_cons_succ]
          refine wpAnyH_ready (rs := [9]) (by kernel_rfl) (by simp) ?_
          refine AllReadyH.cons rfl (fun K hK => ?_) AllReadyH.nil
          go_simp
          go_at_call 33
          refine (hash_any v1 (HT.out.later (nxTo Hb.out V1.out)) u.1 F2.out.1 A2 _ c2 u.2 rfl L2.out ((Z2.out.below V1.out).more V1.out.size) (by have := F2.out.2; omega)).mono ?_
          rw [HYy.out]
          rintro e v2 ⟨rfl, hv2⟩
          have V2 : Hid (Below wr.heap.size wr v2) := nxTo V1.out hv2
          clear hv2
          refine hK.out _ _ ⟨rng_below R1.out V2.out B1.out, rng_below R2.out V2.out B2.out⟩ (fun hSn => ?_)
          clear hK K
          try simp only [Act.put, List.setIfInBounds_toArray, List.set_cons_zero, List.set_cons_succ]
          refine wpAnyH_take (i := 10) (oi := ⟨_, _, _, _, _, _⟩) (v := ?_) rfl (by kernel_rfl) (by kernel_rfl) (by kernel_rfl) (fun _ _ _ h => h) (Or.inl ⟨by rfl, ?_⟩) (by assumption) ?_
          rotate_left 1
          · intro W hSw
            try dsimp only at hSw
            go_simp
            try with_reducible rfl
          try simp only [Act.put, List.setIfInBounds_toArray, List.set_cons_zero, List.set_cons_succ]
          refine wpAnyH_done (by kernel_rfl) ?_ _
          go_wp2
          refine wp_region_held_drew (S := fun W => W.rangeAt b1 (o1 + k * 2) [Value.string t.1, .slice A1 t.2.length c1] ∧ W.rangeAt b2 (o2 + k * 2) [Value.string u.1, .slice A2 u.2.length c2]) (by kernel_rfl) ⟨rng_below R1.out (nxDr V2.out) B1.out, rng_below R2.out (nxDr V2.out) B2.out⟩ (fun hHeld => ?_)
          refine wpAnyH_take (i := 0) (oi := ⟨_, _, _, _, _, _⟩) (v := ?_) rfl (by kernel_rfl) (by kernel_rfl) (by kernel_rfl) (fun _ _ _ h => h) (Or.inl ⟨by rfl, ?_⟩) (by assumption) ?_
          rotate_left 1
          · intro W hSw
            try dsimp only at hSw
            go_simp
            try with_reducible rfl
          try simp only [Act.put, List.setIfInBounds_toArray, List.set_cons_zero, List.set_cons_succ]
          refine wpAnyH_take (i := 1) (oi := ⟨_, _, _, _, _, _⟩) (v := ?_) rfl (by kernel_rfl) (by kernel_rfl) (by kernel_rfl) (fun _ _ _ h => h) (Or.inl ⟨by rfl, ?_⟩) (by assumption) ?_
          rotate_left 1
          · intro W hSw
            try dsimp only at hSw
            go_simp
            try with_reducible rfl
          try simp only [Act.put, List.setIfInBounds_toArray, List.set_cons_zero, List.set_cons_succ]
          refine wpAnyH_take (i := 2) (oi := ⟨_, _, _, _, _, _⟩) (v := ?_) rfl (by kernel_rfl) (by kernel_rfl) (by kernel_rfl) (fun _ _ _ h => h) (Or.inl ⟨by rfl, ?_⟩) (by assumption) ?_
          rotate_left 1
          · intro W hSw
            try dsimp only at hSw
            go_simp
            try with_reducible rfl
          try simp only [Act.put, List.setIfInBounds_toArray, List.set_cons_zero, List.set_cons_succ]
          refine wpAnyH_take (i := 3) (oi := ⟨_, _, _, _, _, _⟩) (v := .agg ([Value.string t.1, .slice A1 t.2.length c1]).toArray) rfl (by kernel_rfl) (by kernel_rfl) (by kernel_rfl) (fun _ _ _ h => h) (yieldsIf_load_mid (by rfl) 63 (.tmp 29) rfl (b1) (o1 + k * 2) rfl ([Value.string t.1, .slice A1 t.2.length c1]) _ (fun W h => h.1) Tryd.underlying63 rfl (HST.out _ _ _ _)) (by assumption) ?_
          try simp only [Act.put, List.setIfInBounds_toArray, List.set_cons_zero, List.set_cons_succ]
          refine wpAnyH_take (i := 5) (oi := ⟨_, _, _, _, _, _⟩) (v := ?_) rfl (by kernel_rfl) (by kernel_rfl) (by kernel_rfl) (fun _ _ _ h => h) (Or.inl ⟨by rfl, ?_⟩) (by assumption) ?_
          rotate_left 1
          · intro W hSw
            try dsimp only at hSw
            go_simp
            try with_reducible rfl
          try simp only [Act.put, List.setIfInBounds_toArray, List.set_cons_zero, List.set_cons_succ]
          refine wpAnyH_take (i := 6) (oi := ⟨_, _, _, _, _, _⟩) (v := ?_) rfl (by kernel_rfl) (by kernel_rfl) (by kernel_rfl) (fun _ _ _ h => h) (Or.inl ⟨by rfl, ?_⟩) (by assumption) ?_
          rotate_left 1
          · intro W hSw
            try dsimp only at hSw
            go_simp
            try with_reducible rfl
          try simp only [Act.put, List.setIfInBounds_toArray, List.set_cons_zero, List.set_cons_succ]
          refine wpAnyH_take (i := 7) (oi := ⟨_, _, _, _, _, _⟩) (v := ?_) rfl (by kernel_rfl) (by kernel_rfl) (by kernel_rfl) (fun _ _ _ h => h) (Or.inl ⟨by rfl, ?_⟩) (by assumption) ?_
          rotate_left 1
          · intro W hSw
            try dsimp only at hSw
            go_simp
            try with_reducible rfl
          try simp only [Act.put, List.setIfInBounds_toArray, List.set_cons_zero, List.set_cons_succ]
          refine wpAnyH_take (i := 8) (oi := ⟨_, _, _, _, _, _⟩) (v := .agg ([Value.string u.1, .slice A2 u.2.length c2]).toArray) rfl (by kernel_rfl) (by kernel_rfl) (by kernel_rfl) (fun _ _ _ h => h) (yieldsIf_load_mid (by rfl) 63 (.tmp 34) rfl (b2) (o2 + k * 2) rfl ([Value.string u.1, .slice A2 u.2.length c2]) _ (fun W h => h.2) Tryd.underlying63 rfl (HST.out _ _ _ _)) (by assumption) ?_
          try simp only [Act.put, List.setIfInBounds_toArray, List.set_cons_zero, List.set_cons_succ]
          refine wpAnyH_ready (rs := [4]) (by kernel_rfl) (by simp) ?_
          refine AllReadyH.cons rfl (fun K hK => ?_) AllReadyH.nil
          go_simp
          go_at_call 38
          refine (whole_any v2.drew t.1 F1.out.1 A1 _ c1 t.2 rfl L1.out (show Sees v2.drew _ _ _ from (Z1.out.below V2.out).more V2.out.size) (by have := F1.out.2; omega)).mono ?_
          rintro e v3 ⟨A3, c3, rfl, hc3, hs3, hb3, hf3⟩
          have C3 := Lib.hid hc3
          have S3 := Lib.hid hs3
          have V3 : Hid (Below wr.heap.size wr v3) := nxTo V2.out (nxUndr hb3)
          clear hc3 hs3 hb3 hf3
          refine hK.out _ _ ⟨rng_below R1.out V3.out B1.out, rng_below R2.out V3.out B2.out⟩ (fun hSn => ?_)
          clear hK K
          try simp only [Act.put, List.setIfInBounds_toArray, List.set_cons_zero, List.set_cons_succ]
          refine wpAnyH_ready (rs := [9]) (by kernel_rfl) (by simp) ?_
          refine AllReadyH.cons rfl (fun K hK => ?_) AllReadyH.nil
          go_simp
          go_at_call 38
          refine (whole_any v3 u.1 F2.out.1 A2 _ c2 u.2 rfl L2.out ((Z2.out.below V3.out).more V3.out.size) (by have := F2.out.2; omega)).mono ?_
          rintro e v4 ⟨A4, c4, rfl, hc4, hs4, hb4, hf4⟩
          have C4 := Lib.hid hc4
          have S4 := Lib.hid hs4
          have S5 := Lib.hid ((S3.out.below hb4).more hb4.size)
          have V4 : Hid (Below wr.heap.size wr v4) := nxTo V3.out hb4
          clear hc4 hs4 hb4 hf4
          refine hK.out _ _ ⟨rng_below R1.out V4.out B1.out, rng_below R2.out V4.out B2.out⟩ (fun hSn => ?_)
          clear hK K
          try simp only [Act.put, List.setIfInBounds_toArray, List.set_cons_zero, List.set_cons_succ]
          refine wpAnyH_take (i := 10) (oi := ⟨_, _, _, _, _, _⟩) (v := ?_) rfl (by kernel_rfl) (by kernel_rfl) (by kernel_rfl) (fun _ _ _ h => h) (Or.inl ⟨by rfl, ?_⟩) (by assumption) ?_
          rotate_left 1
          · intro W hSw
            try dsimp only at hSw
            go_simp
            try with_reducible rfl
          try simp only [Act.put, List.setIfInBounds_toArray, List.set_cons_zero, List.set_cons_succ]
          refine wpAnyH_take (i := 11) (oi := ⟨_, _, _, _, _, _⟩) (v := ?_) rfl (by kernel_rfl) (by kernel_rfl) (by kernel_rfl) (fun _ _ _ h => h) (Or.inl ⟨by rfl, ?_⟩) (by assumption) ?_
          rotate_left 1
          · intro W hSw
            try dsimp only at hSw
            go_simp
            try with_reducible rfl
          try simp only [Act.put, List.setIfInBounds_toArray, List.set_cons_zero, List.set_cons_succ]
          refine wpAnyH_take (i := 12) (oi := ⟨_, _, _, _, _, _⟩) (v := ?_) rfl (by kernel_rfl) (by kernel_rfl) (by kernel_rfl) (fun _ _ _ h => h) (Or.inl ⟨by rfl, ?_⟩) (by assumption) ?_
          rotate_left 1
          · intro W hSw
            try dsimp only at hSw
            go_simp
            try with_reducible rfl
          try simp only [Act.put, List.setIfInBounds_toArray, List.set_cons_zero, List.set_cons_succ]
          refine wpAnyH_done (by kernel_rfl) ?_ _
          go_wp2
          go_ret3
          refine ⟨nxTo Hb.out V4.out, .inl ⟨k, hkT, hkU, A3, A4, c3, c4, fun j g1 g2 hj => HN.out j g1 g2 hj, by rw [HTk.out, HUk.out, HHx.out, HHy.out]; exact HQ.out, ?_⟩⟩
          rw [HTk.out, HUk.out]
          exact ⟨rfl, C3.out, C4.out, S5.out, S4.out⟩
      · obtain rfl : k = U.length := by omega
        go_wp2
        go_ret3
        exact ⟨Hb.out, .inr ⟨fun j g1 g2 => HN.out j g1 g2 (by omega), rfl⟩⟩
  · go_enter Tryd.func39, Tryd.ntmps39
    go_wp2
    go_loopw [13] (fun iv wr => ∃ k : Nat, k ≤ T.length ∧ iv = .int .i64 k ∧ Hid (∀ j (g1 : j < T.length) (g2 : j < U.length), j < k → hashT T[j] ≠ hashT U[j]) ∧ Hid (Below w.heap.size w wr)) (fun iv _ => T.length - (intOf iv).toNat)
    case atStart => exact ⟨0, by omega, rfl, fun j _ _ h => absurd h (Nat.not_lt_zero _), nxRefl w⟩
    case round =>
      obtain ⟨k, hk, rfl, HN, Hb⟩ := hrel
      by_cases hlt : k < T.length
      · have hkT : k < T.length := by omega
        have hkU : k < U.length := by omega
        obtain ⟨b1, o1, A1, c1, hA1, hb1, hr1, hl1, hs1⟩ := text_at ((HS.out.below Hb.out).size) (HX.out.later Hb.out) hkT
        obtain ⟨b2, o2, A2, c2, hA2, hb2, hr2, hl2, hs2⟩ := text_at ((HU.out.below Hb.out).size) (HY.out.later Hb.out) hkU
        subst hA1 hA2
        have f1 := FT.out _ (List.getElem_mem hkT)
        have f2 := FU.out _ (List.getElem_mem hkU)
        obtain ⟨t, ht⟩ : ∃ t, T[k] = t := ⟨_, rfl⟩
        obtain ⟨u, hu⟩ : ∃ u, U[k] = u := ⟨_, rfl⟩
        rw [ht] at hr1 hl1 hs1 f1
        rw [hu] at hr2 hl2 hs2 f2
        obtain ⟨x, hx⟩ : ∃ x, hashT t = x := ⟨_, rfl⟩
        obtain ⟨y, hy⟩ : ∃ y, hashT u = y := ⟨_, rfl⟩
        have HXx : Hid (shaB (tagB t.1 t.2) = x) := hx
        have HYy : Hid (shaB (tagB u.1 u.2) = y) := hy
        have hxl : x.length = 32 := by rw [← hx]; exact hashT_len _
        have hyl : y.length = 32 := by rw [← hy]; exact hashT_len _
        have HTk : Hid (T[k] = t) := ht
        have HUk : Hid (U[k] = u) := hu
        have HHx : Hid (hashT t = x) := hx
        have HHy : Hid (hashT u = y) := hy
        have R1 := Lib.hid hr1
        have R2 := Lib.hid hr2
        have L1 := Lib.hid hl1
        have L2 := Lib.hid hl2
        have Z1 := Lib.hid hs1
        have Z2 := Lib.hid hs2
        have F1 := Lib.hid f1
        have F2 := Lib.hid f2
        have B1 := Lib.hid hb1
        have B2 := Lib.hid hb2
        clear ht hu hx hy hr1 hr2 hl1 hl2 hs1 hs2 f1 f2 hb1 hb2
        cases hq : x == y with
        | false =>
          have heq : ∀ wq, (binOp .eql 32 (.agg (By x).toArray) (.agg (By y).toArray)).run Tryd.prog wq = .ok (.bool false) wq := fun wq => by rw [run_eql_bytes 32 32 5 Tryd.underlying32 Tryd.underlying5 Tryd.u8size x y hxl hyl, hq]
          have HQ : Hid (x ≠ y) := by show _ ≠ _; exact beq_eq_false_iff_ne.1 hq
          clear hq hxl hyl
          go_wp2
          refine wp_region_held_drew (S := fun W => W.rangeAt b1 (o1 + k * 2) [Value.string t.1, .slice A1 t.2.length c1] ∧ W.rangeAt b2 (o2 + k * 2) [Value.string u.1, .slice A2 u.2.length c2]) (by kernel_rfl) ⟨R1.out, R2.out⟩ (fun hHeld => ?_)
          refine wpAnyH_take (i := 0) (oi := ⟨_, _, _, _, _, _⟩) (v := ?_) rfl (by kernel_rfl) (by kernel_rfl) (by kernel_rfl) (fun _ _ _ h => h) (Or.inl ⟨by rfl, ?_⟩) (by assumption) ?_
          rotate_left 1
          · intro W hSw
            try dsimp only at hSw
            go_simp
            try with_reducible rfl
          try simp only [Act.put, List.setIfInBounds_toArray, List.set_cons_zero, List.set_cons_succ]
          refine wpAnyH_take (i := 1) (oi := ⟨_, _, _, _, _, _⟩) (v := ?_) rfl (by kernel_rfl) (by kernel_rfl) (by kernel_rfl) (fun _ _ _ h => h) (Or.inl ⟨by rfl, ?_⟩) (by assumption) ?_
          rotate_left 1
          · intro W hSw
            try dsimp only at hSw
            go_simp
            try with_reducible rfl
          try simp only [Act.put, List.setIfInBounds_toArray, List.set_cons_zero, List.set_cons_succ]
          refine wpAnyH_take (i := 2) (oi := ⟨_, _, _, _, _, _⟩) (v := ?_) rfl (by kernel_rfl) (by kernel_rfl) (by kernel_rfl) (fun _ _ _ h => h) (Or.inl ⟨by rfl, ?_⟩) (by assumption) ?_
          rotate_left 1
          · intro W hSw
            try dsimp only at hSw
            go_simp
            try with_reducible rfl
          try simp only [Act.put, List.setIfInBounds_toArray, List.set_cons_zero, List.set_cons_succ]
          refine wpAnyH_take (i := 3) (oi := ⟨_, _, _, _, _, _⟩) (v := .agg ([Value.string t.1, .slice A1 t.2.length c1]).toArray) rfl (by kernel_rfl) (by kernel_rfl) (by kernel_rfl) (fun _ _ _ h => h) (yieldsIf_load_mid (by rfl) 63 (.tmp 18) rfl (b1) (o1 + k * 2) rfl ([Value.string t.1, .slice A1 t.2.length c1]) _ (fun W h => h.1) Tryd.underlying63 rfl (HST.out _ _ _ _)) (by assumption) ?_
          try simp only [Act.put, List.setIfInBounds_toArray, List.set_cons_zero, List.set_cons_succ]
          refine wpAnyH_take (i := 5) (oi := ⟨_, _, _, _, _, _⟩) (v := ?_) rfl (by kernel_rfl) (by kernel_rfl) (by kernel_rfl) (fun _ _ _ h => h) (Or.inl ⟨by rfl, ?_⟩) (by assumption) ?_
          rotate_left 1
          · intro W hSw
            try dsimp only at hSw
            go_simp
            try with_reducible rfl
          try simp only [Act.put, List.setIfInBounds_toArray, List.set_cons_zero, List.set_cons_succ]
          refine wpAnyH_take (i := 6) (oi := ⟨_, _, _, _, _, _⟩) (v := ?_) rfl (by kernel_rfl) (by kernel_rfl) (by kernel_rfl) (fun _ _ _ h => h) (Or.inl ⟨by rfl, ?_⟩) (by assumption) ?_
          rotate_left 1
          · intro W hSw
            try dsimp only at hSw
            go_simp
            try with_reducible rfl
          try simp only [Act.put, List.setIfInBounds_toArray, List.set_cons_zero, List.set_cons_succ]
          refine wpAnyH_take (i := 7) (oi := ⟨_, _, _, _, _, _⟩) (v := ?_) rfl (by kernel_rfl) (by kernel_rfl) (by kernel_rfl) (fun _ _ _ h => h) (Or.inl ⟨by rfl, ?_⟩) (by assumption) ?_
          rotate_left 1
          · intro W hSw
            try dsimp only at hSw
            go_simp
            try with_reducible rfl
          try simp only [Act.put, List.setIfInBounds_toArray, List.set_cons_zero, List.set_cons_succ]
          refine wpAnyH_take (i := 8) (oi := ⟨_, _, _, _, _, _⟩) (v := .agg ([Value.string u.1, .slice A2 u.2.length c2]).toArray) rfl (by kernel_rfl) (by kernel_rfl) (by kernel_rfl) (fun _ _ _ h => h) (yieldsIf_load_mid (by rfl) 63 (.tmp 23) rfl (b2) (o2 + k * 2) rfl ([Value.string u.1, .slice A2 u.2.length c2]) _ (fun W h => h.2) Tryd.underlying63 rfl (HST.out _ _ _ _)) (by assumption) ?_
          try simp only [Act.put, List.setIfInBounds_toArray, List.set_cons_zero, List.set_cons_succ]
          refine wpAnyH_ready (rs := [4]) (by kernel_rfl) (by simp) ?_
          refine AllReadyH.cons rfl (fun K hK => ?_) AllReadyH.nil
          go_simp
          go_at_call 33
          refine (hash_any wr.drew (HT.out.later (nxDr Hb.out)) t.1 F1.out.1 A1 _ c1 t.2 rfl L1.out (show Sees wr.drew _ _ _ from Z1.out) (by have := F1.out.2; omega)).mono ?_
          rw [HXx.out]
          rintro e v1 ⟨rfl, hv1⟩
          have V1 : Hid (Below wr.heap.size wr v1) := nxUndr hv1
          clear hv1
          refine hK.out _ _ ⟨rng_below R1.out V1.out B1.out, rng_below R2.out V1.out B2.out⟩ (fun hSn => ?_)
          clear hK K
          try simp only [Act.put, List.setIfInBounds_toArray, List.set_cons_zero, List.set_cons_succ]
          refine wpAnyH_ready (rs := [9]) (by kernel_rfl) (by simp) ?_
          refine AllReadyH.cons rfl (fun K hK => ?_) AllReadyH.nil
          go_simp
          go_at_call 33
          refine (hash_any v1 (HT.out.later (nxTo Hb.out V1.out)) u.1 F2.out.1 A2 _ c2 u.2 rfl L2.out ((Z2.out.below V1.out).more V1.out.size) (by have := F2.out.2; omega)).mono ?_
          rw [HYy.out]
          rintro e v2 ⟨rfl, hv2⟩
          have V2 : Hid (Below wr.heap.size wr v2) := nxTo V1.out hv2
          clear hv2
          refine hK.out _ _ ⟨rng_below R1.out V2.out B1.out, rng_below R2.out V2.out B2.out⟩ (fun hSn => ?_)
          clear hK K
          try simp only [Act.put, List.setIfInBounds_toArray, List.set_cons_zero, List.set_cons_succ]
          refine wpAnyH_take (i := 10) (oi := ⟨_, _, _, _, _, _⟩) (v := ?_) rfl (by kernel_rfl) (by kernel_rfl) (by kernel_rfl) (fun _ _ _ h => h) (Or.inl ⟨by rfl, ?_⟩) (by assumption) ?_
          rotate_left 1
          · intro W hSw
            try dsimp only at hSw
            go_simp
            try with_reducible rfl
          try simp only [Act.put, List.setIfInBounds_toArray, List.set_cons_zero, List.set_cons_succ]
          refine wpAnyH_done (by kernel_rfl) ?_ _
          go_wp2
          have HN' : Hid (∀ j (g1 : j < T.length) (g2 : j < U.length), j < k + 1 → hashT T[j] ≠ hashT U[j]) := by
            intro j g1 g2 hj
            by_cases h : j < k
            · exact HN.out j g1 g2 h
            · obtain rfl : j = k := by omega
              rw [HTk.out, HUk.out, HHx.out, HHy.out]; exact HQ.out
          go_roundw
          case rel => exact ⟨k + 1, by omega, by go_num, HN'.out, nxTo Hb.out V2.out⟩
          case measure => simp [intOf] <;> omega
        | true =>
          have heq : ∀ wq, (binOp .eql 32 (.agg (By x).toArray) (.agg (By y).toArray)).run Tryd.prog wq = .ok (.bool true) wq := fun wq => by rw [run_eql_bytes 32 32 5 Tryd.underlying32 Tryd.underlying5 Tryd.u8size x y hxl hyl, hq]
          have HQ : Hid (x = y) := by show _ = _; exact eq_of_beq hq
          clear hq hxl hyl
          go_wp2
          refine wp_region_held_drew (S := fun W => W.rangeAt b1 (o1 + k * 2) [Value.string t.1, .slice A1 t.2.length c1] ∧ W.rangeAt b2 (o2 + k * 2) [Value.string u.1, .slice A2 u.2.length c2]) (by kernel_rfl) ⟨R1.out, R2.out⟩ (fun hHeld => ?_)
          refine wpAnyH_take (i := 0) (oi := ⟨_, _, _, _, _, _⟩) (v := ?_) rfl (by kernel_rfl) (by kernel_rfl) (by kernel_rfl) (fun _ _ _ h => h) (Or.inl ⟨by rfl, ?_⟩) (by assumption) ?_
          rotate_left 1
          · intro W hSw
            try dsimp only at hSw
            go_simp
            try with_reducible rfl
          try simp only [Act.put, List.setIfInBounds_toArray, List.set_cons_zero, List.set_cons_succ]
          refine wpAnyH_take (i := 1) (oi := ⟨_, _, _, _, _, _⟩) (v := ?_) rfl (by kernel_rfl) (by kernel_rfl) (by kernel_rfl) (fun _ _ _ h => h) (Or.inl ⟨by rfl, ?_⟩) (by assumption) ?_
          rotate_left 1
          · intro W hSw
            try dsimp only at hSw
            go_simp
            try with_reducible rfl
          try simp only [Act.put, List.setIfInBounds_toArray, List.set_cons_zero, List.set_cons_succ]
          refine wpAnyH_take (i := 2) (oi := ⟨_, _, _, _, _, _⟩) (v := ?_) rfl (by kernel_rfl) (by kernel_rfl) (by kernel_rfl) (fun _ _ _ h => h) (Or.inl ⟨by rfl, ?_⟩) (by assumption) ?_
          rotate_left 1
          · intro W hSw
            try dsimp only at hSw
            go_simp
            try with_reducible rfl
          try simp only [Act.put, List.setIfInBounds_toArray, List.set_cons_zero, List.set_cons_succ]
          refine wpAnyH_take (i := 3) (oi := ⟨_, _, _, _, _, _⟩) (v := .agg ([Value.string t.1, .slice A1 t.2.length c1]).toArray) rfl (by kernel_rfl) (by kernel_rfl) (by kernel_rfl) (fun _ _ _ h => h) (yieldsIf_load_mid (by rfl) 63 (.tmp 18) rfl (b1) (o1 + k * 2) rfl ([Value.string t.1, .slice A1 t.2.length c1]) _ (fun W h => h.1) Tryd.underlying63 rfl (HST.out _ _ _ _)) (by assumption) ?_
          try simp only [Act.put, List.setIfInBounds_toArray, List.set_cons_zero, List.set_cons_succ]
          refine wpAnyH_take (i := 5) (oi := ⟨_, _, _, _, _, _⟩) (v := ?_) rfl (by kernel_rfl) (by kernel_rfl) (by kernel_rfl) (fun _ _ _ h => h) (Or.inl ⟨by rfl, ?_⟩) (by assumption) ?_
          rotate_left 1
          · intro W hSw
            try dsimp only at hSw
            go_simp
            try with_reducible rfl
          try simp only [Act.put, List.setIfInBounds_toArray, List.set_cons_zero, List.set_cons_succ]
          refine wpAnyH_take (i := 6) (oi := ⟨_, _, _, _, _, _⟩) (v := ?_) rfl (by kernel_rfl) (by kernel_rfl) (by kernel_rfl) (fun _ _ _ h => h) (Or.inl ⟨by rfl, ?_⟩) (by assumption) ?_
          rotate_left 1
          · intro W hSw
            try dsimp only at hSw
            go_simp
            try with_reducible rfl
          try simp only [Act.put, List.setIfInBounds_toArray, List.set_cons_zero, List.set_cons_succ]
          refine wpAnyH_take (i := 7) (oi := ⟨_, _, _, _, _, _⟩) (v := ?_) rfl (by kernel_rfl) (by kernel_rfl) (by kernel_rfl) (fun _ _ _ h => h) (Or.inl ⟨by rfl, ?_⟩) (by assumption) ?_
          rotate_left 1
          · intro W hSw
            try dsimp only at hSw
            go_simp
            try with_reducible rfl
          try simp only [Act.put, List.setIfInBounds_toArray, List.set_cons_zero, List.set_cons_succ]
          refine wpAnyH_take (i := 8) (oi := ⟨_, _, _, _, _, _⟩) (v := .agg ([Value.string u.1, .slice A2 u.2.length c2]).toArray) rfl (by kernel_rfl) (by kernel_rfl) (by kernel_rfl) (fun _ _ _ h => h) (yieldsIf_load_mid (by rfl) 63 (.tmp 23) rfl (b2) (o2 + k * 2) rfl ([Value.string u.1, .slice A2 u.2.length c2]) _ (fun W h => h.2) Tryd.underlying63 rfl (HST.out _ _ _ _)) (by assumption) ?_
          try simp only [Act.put, List.setIfInBounds_toArray, List.set_cons_zero, List.set_cons_succ]
          refine wpAnyH_ready (rs := [4]) (by kernel_rfl) (by simp) ?_
          refine AllReadyH.cons rfl (fun K hK => ?_) AllReadyH.nil
          go_simp
          go_at_call 33
          refine (hash_any wr.drew (HT.out.later (nxDr Hb.out)) t.1 F1.out.1 A1 _ c1 t.2 rfl L1.out (show Sees wr.drew _ _ _ from Z1.out) (by have := F1.out.2; omega)).mono ?_
          rw [HXx.out]
          rintro e v1 ⟨rfl, hv1⟩
          have V1 : Hid (Below wr.heap.size wr v1) := nxUndr hv1
          clear hv1
          refine hK.out _ _ ⟨rng_below R1.out V1.out B1.out, rng_below R2.out V1.out B2.out⟩ (fun hSn => ?_)
          clear hK K
          try simp only [Act.put, List.setIfInBounds_toArray, List.set_cons_zero, List.set_cons_succ]
          refine wpAnyH_ready (rs := [9]) (by kernel_rfl) (by simp) ?_
          refine AllReadyH.cons rfl (fun K hK => ?_) AllReadyH.nil
          go_simp
          go_at_call 33
          refine (hash_any v1 (HT.out.later (nxTo Hb.out V1.out)) u.1 F2.out.1 A2 _ c2 u.2 rfl L2.out ((Z2.out.below V1.out).more V1.out.size) (by have := F2.out.2; omega)).mono ?_
          rw [HYy.out]
          rintro e v2 ⟨rfl, hv2⟩
          have V2 : Hid (Below wr.heap.size wr v2) := nxTo V1.out hv2
          clear hv2
          refine hK.out _ _ ⟨rng_below R1.out V2.out B1.out, rng_below R2.out V2.out B2.out⟩ (fun hSn => ?_)
          clear hK K
          try simp only [Act.put, List.setIfInBounds_toArray, List.set_cons_zero, List.set_cons_succ]
          refine wpAnyH_take (i := 10) (oi := ⟨_, _, _, _, _, _⟩) (v := ?_) rfl (by kernel_rfl) (by kernel_rfl) (by kernel_rfl) (fun _ _ _ h => h) (Or.inl ⟨by rfl, ?_⟩) (by assumption) ?_
          rotate_left 1
          · intro W hSw
            try dsimp only at hSw
            go_simp
            try with_reducible rfl
          try simp only [Act.put, List.setIfInBounds_toArray, List.set_cons_zero, List.set_cons_succ]
          refine wpAnyH_done (by kernel_rfl) ?_ _
          go_wp2
          refine wp_region_held_drew (S := fun W => W.rangeAt b1 (o1 + k * 2) [Value.string t.1, .slice A1 t.2.length c1] ∧ W.rangeAt b2 (o2 + k * 2) [Value.string u.1, .slice A2 u.2.length c2]) (by kernel_rfl) ⟨rng_below R1.out (nxDr V2.out) B1.out, rng_below R2.out (nxDr V2.out) B2.out⟩ (fun hHeld => ?_)
          refine wpAnyH_take (i := 0) (oi := ⟨_, _, _, _, _, _⟩) (v := ?_) rfl (by kernel_rfl) (by kernel_rfl) (by kernel_rfl) (fun _ _ _ h => h) (Or.inl ⟨by rfl, ?_⟩) (by assumption) ?_
          rotate_left 1
          · intro W hSw
            try dsimp only at hSw
            go_simp
            try with_reducible rfl
          try simp only [Act.put, List.setIfInBounds_toArray, List.set_cons_zero, List.set_cons_succ]
          refine wpAnyH_take (i := 1) (oi := ⟨_, _, _, _, _, _⟩) (v := ?_) rfl (by kernel_rfl) (by kernel_rfl) (by kernel_rfl) (fun _ _ _ h => h) (Or.inl ⟨by rfl, ?_⟩) (by assumption) ?_
          rotate_left 1
          · intro W hSw
            try dsimp only at hSw
            go_simp
            try with_reducible rfl
          try simp only [Act.put, List.setIfInBounds_toArray, List.set_cons_zero, List.set_cons_succ]
          refine wpAnyH_take (i := 2) (oi := ⟨_, _, _, _, _, _⟩) (v := ?_) rfl (by kernel_rfl) (by kernel_rfl) (by kernel_rfl) (fun _ _ _ h => h) (Or.inl ⟨by rfl, ?_⟩) (by assumption) ?_
          rotate_left 1
          · intro W hSw
            try dsimp only at hSw
            go_simp
            try with_reducible rfl
          try simp only [Act.put, List.setIfInBounds_toArray, List.set_cons_zero, List.set_cons_succ]
          refine wpAnyH_take (i := 3) (oi := ⟨_, _, _, _, _, _⟩) (v := .agg ([Value.string t.1, .slice A1 t.2.length c1]).toArray) rfl (by kernel_rfl) (by kernel_rfl) (by kernel_rfl) (fun _ _ _ h => h) (yieldsIf_load_mid (by rfl) 63 (.tmp 29) rfl (b1) (o1 + k * 2) rfl ([Value.string t.1, .slice A1 t.2.length c1]) _ (fun W h => h.1) Tryd.underlying63 rfl (HST.out _ _ _ _)) (by assumption) ?_
          try simp only [Act.put, List.setIfInBounds_toArray, List.set_cons_zero, List.set_cons_succ]
          refine wpAnyH_take (i := 5) (oi := ⟨_, _, _, _, _, _⟩) (v := ?_) rfl (by kernel_rfl) (by kernel_rfl) (by kernel_rfl) (fun _ _ _ h => h) (Or.inl ⟨by rfl, ?_⟩) (by assumption) ?_
          rotate_left 1
          · intro W hSw
            try dsimp only at hSw
            go_simp
            try with_reducible rfl
          try simp only [Act.put, List.setIfInBounds_toArray, List.set_cons_zero, List.set_cons_succ]
          refine wpAnyH_take (i := 6) (oi := ⟨_, _, _, _, _, _⟩) (v := ?_) rfl (by kernel_rfl) (by kernel_rfl) (by kernel_rfl) (fun _ _ _ h => h) (Or.inl ⟨by rfl, ?_⟩) (by assumption) ?_
          rotate_left 1
          · intro W hSw
            try dsimp only at hSw
            go_simp
            try with_reducible rfl
          try simp only [Act.put, List.setIfInBounds_toArray, List.set_cons_zero, List.set_cons_succ]
          refine wpAnyH_take (i := 7) (oi := ⟨_, _, _, _, _, _⟩) (v := ?_) rfl (by kernel_rfl) (by kernel_rfl) (by kernel_rfl) (fun _ _ _ h => h) (Or.inl ⟨by rfl, ?_⟩) (by assumption) ?_
          rotate_left 1
          · intro W hSw
            try dsimp only at hSw
            go_simp
            try with_reducible rfl
          try simp only [Act.put, List.setIfInBounds_toArray, List.set_cons_zero, List.set_cons_succ]
          refine wpAnyH_take (i := 8) (oi := ⟨_, _, _, _, _, _⟩) (v := .agg ([Value.string u.1, .slice A2 u.2.length c2]).toArray) rfl (by kernel_rfl) (by kernel_rfl) (by kernel_rfl) (fun _ _ _ h => h) (yieldsIf_load_mid (by rfl) 63 (.tmp 34) rfl (b2) (o2 + k * 2) rfl ([Value.string u.1, .slice A2 u.2.length c2]) _ (fun W h => h.2) Tryd.underlying63 rfl (HST.out _ _ _ _)) (by assumption) ?_
          try simp only [Act.put, List.setIfInBounds_toArray, List.set_cons_zero, List.set_cons_succ]
          refine wpAnyH_ready (rs := [4]) (by kernel_rfl) (by simp) ?_
          refine AllReadyH.cons rfl (fun K hK => ?_) AllReadyH.nil
          go_simp
          go_at_call 38
          refine (whole_any v2.drew t.1 F1.out.1 A1 _ c1 t.2 rfl L1.out (show Sees v2.drew _ _ _ from (Z1.out.below V2.out).more V2.out.size) (by have := F1.out.2; omega)).mono ?_
          rintro e v3 ⟨A3, c3, rfl, hc3, hs3, hb3, hf3⟩
          have C3 := Lib.hid hc3
          have S3 := Lib.hid hs3
          have V3 : Hid (Below wr.heap.size wr v3) := nxTo V2.out (nxUndr hb3)
          clear hc3 hs3 hb3 hf3
          refine hK.out _ _ ⟨rng_below R1.out V3.out B1.out, rng_below R2.out V3.out B2.out⟩ (fun hSn => ?_)
          clear hK K
          try simp only [Act.put, List.setIfInBounds_toArray, List.set_cons_zero, List.set_cons_succ]
          refine wpAnyH_ready (rs := [9]) (by kernel_rfl) (by simp) ?_
          refine AllReadyH.cons rfl (fun K hK => ?_) AllReadyH.nil
          go_simp
          go_at_call 38
          refine (whole_any v3 u.1 F2.out.1 A2 _ c2 u.2 rfl L2.out ((Z2.out.below V3.out).more V3.out.size) (by have := F2.out.2; omega)).mono ?_
          rintro e v4 ⟨A4, c4, rfl, hc4, hs4, hb4, hf4⟩
          have C4 := Lib.hid hc4
          have S4 := Lib.hid hs4
          have S5 := Lib.hid ((S3.out.below hb4).more hb4.size)
          have V4 : Hid (Below wr.heap.size wr v4) := nxTo V3.out hb4
          clear hc4 hs4 hb4 hf4
          refine hK.out _ _ ⟨rng_below R1.out V4.out B1.out, rng_below R2.out V4.out B2.out⟩ (fun hSn => ?_)
          clear hK K
          try simp only [Act.put, List.setIfInBounds_toArray, List.set_cons_zero, List.set_cons_succ]
          refine wpAnyH_take (i := 10) (oi := ⟨_, _, _, _, _, _⟩) (v := ?_) rfl (by kernel_rfl) (by kernel_rfl) (by kernel_rfl) (fun _ _ _ h => h) (Or.inl ⟨by rfl, ?_⟩) (by assumption) ?_
          rotate_left 1
          · intro W hSw
            try dsimp only at hSw
            go_simp
            try with_reducible rfl
          try simp only [Act.put, List.setIfInBounds_toArray, List.set_cons_zero, List.set_cons_succ]
          refine wpAnyH_take (i := 11) (oi := ⟨_, _, _, _, _, _⟩) (v := ?_) rfl (by kernel_rfl) (by kernel_rfl) (by kernel_rfl) (fun _ _ _ h => h) (Or.inl ⟨by rfl, ?_⟩) (by assumption) ?_
          rotate_left 1
          · intro W hSw
            try dsimp only at hSw
            go_simp
            try with_reducible rfl
          try simp only [Act.put, List.setIfInBounds_toArray, List.set_cons_zero, List.set_cons_succ]
          refine wpAnyH_take (i := 12) (oi := ⟨_, _, _, _, _, _⟩) (v := ?_) rfl (by kernel_rfl) (by kernel_rfl) (by kernel_rfl) (fun _ _ _ h => h) (Or.inl ⟨by rfl, ?_⟩) (by assumption) ?_
          rotate_left 1
          · intro W hSw
            try dsimp only at hSw
            go_simp
            try with_reducible rfl
          try simp only [Act.put, List.setIfInBounds_toArray, List.set_cons_zero, List.set_cons_succ]
          refine wpAnyH_done (by kernel_rfl) ?_ _
          go_wp2
          go_ret3
          refine ⟨nxTo Hb.out V4.out, .inl ⟨k, hkT, hkU, A3, A4, c3, c4, fun j g1 g2 hj => HN.out j g1 g2 hj, by rw [HTk.out, HUk.out, HHx.out, HHy.out]; exact HQ.out, ?_⟩⟩
          rw [HTk.out, HUk.out]
          exact ⟨rfl, C3.out, C4.out, S5.out, S4.out⟩
      · obtain rfl : k = T.length := by omega
        go_wp2
        go_ret3
        exact ⟨Hb.out, .inr ⟨fun j g1 g2 => HN.out j g1 g2 (by omega), rfl⟩⟩
end Go.Proofs.YtcbdjcmjchoagaaDoor
