/-
  disk: Append, Cut, SetFuse.
-/
import Derived.Test.YthamlphebnhcpaaDoorDk7
namespace Go.Proofs.YthamlphebnhcpaaDoor
open Go.RowKit

set_option maxHeartbeats 1000000 in
theorem cut_any (w : World) (i n : Nat) : Calls Tryd.prog 48 #[.int .i64 (i : Int), .int .i64 (n : Int)] w fun e w' =>
    ∃ p0 p1, e = .returned (.agg #[(StM.cut i n p0 p1).whole, (StM.cut i n p0 p1).torn]) ∧ CutOk w' i n p0 p1 ∧ (w.heap.size ≤ p0 ∧ w.heap.size ≤ p1) ∧ Below w.heap.size w w' := by
  have hmf : ∀ (fn : Fn) (first cap : Array Value) (w : World), (Instr.makeFunc fn first cap).run Tryd.prog w = .ok (.func fn first cap) w := fun _ _ _ _ => rfl
  have hbd : ∀ wq, (Instr.build 86 #[(0, .func (.func 67) #[] #[.pointer (some ⟨w.heap.size, 0, none⟩), .pointer (some ⟨w.heap.size + 1, 0, none⟩)]), (1, .func (.func 68) #[] #[])]).run Tryd.prog wq = .ok (.agg #[.func (.func 67) #[] #[.pointer (some ⟨w.heap.size, 0, none⟩), .pointer (some ⟨w.heap.size + 1, 0, none⟩)], .func (.func 68) #[] #[]]) wq := fun wq => by kernel_rfl
  have HB2 : Hid (Blk (((w.alloc (.cells #[.int .i64 (i : Int)] 3)).alloc (.cells #[.int .i64 (n : Int)] 3)).alloc (.cells #[.nilFunc, .nilFunc] 86)) (w.heap.size + 1 + 1) 86 #[.nilFunc, .nilFunc]) := blk_newD (by simp)
  have HB1 : Hid (Blk (((w.alloc (.cells #[.int .i64 (i : Int)] 3)).alloc (.cells #[.int .i64 (n : Int)] 3)).alloc (.cells #[.nilFunc, .nilFunc] 86)) (w.heap.size + 1) 3 #[.int .i64 (n : Int)]) := (blk_newD (by simp) : Blk ((w.alloc (.cells #[.int .i64 (i : Int)] 3)).alloc (.cells #[.int .i64 (n : Int)] 3)) _ _ _).alloc _
  have HB0 : Hid (Blk (((w.alloc (.cells #[.int .i64 (i : Int)] 3)).alloc (.cells #[.int .i64 (n : Int)] 3)).alloc (.cells #[.nilFunc, .nilFunc] 86)) w.heap.size 3 #[.int .i64 (i : Int)]) := ((blk_newD rfl : Blk (w.alloc (.cells #[.int .i64 (i : Int)] 3)) _ _ _).alloc _).alloc _
  have HV : Hid (Below w.heap.size w (((w.alloc (.cells #[.int .i64 (i : Int)] 3)).alloc (.cells #[.int .i64 (n : Int)] 3)).alloc (.cells #[.nilFunc, .nilFunc] 86))) := nxAlloc (nxAlloc (nxAlloc (nxRefl w) _) _) _
  go_enter Tryd.func48, Tryd.ntmps48
  go_wp2_with ((with_reducible show wpList _ _ _ (⟨none, .store 86 _ _, _, _, _, _⟩ :: _) _ _); refine wpList_store_partD rfl 86 (.tmp 4) (.tmp 6) rfl (w.heap.size + 1 + 1) 0 86 #[.nilFunc, .nilFunc] #[.func (.func 67) #[] #[.pointer (some ⟨w.heap.size, 0, none⟩), .pointer (some ⟨w.heap.size + 1, 0, none⟩)], .func (.func 68) #[] #[]] #[.func (.func 67) #[] #[.pointer (some ⟨w.heap.size, 0, none⟩), .pointer (some ⟨w.heap.size + 1, 0, none⟩)], .func (.func 68) #[] #[]] (.agg #[.func (.func 67) #[] #[.pointer (some ⟨w.heap.size, 0, none⟩), .pointer (some ⟨w.heap.size + 1, 0, none⟩)], .func (.func 68) #[] #[]]) rfl rfl rfl HB2.out (Nat.le_refl _) Tryd.stsize (fun u hu => by rcases List.mem_cons.1 hu with rfl | hu; rfl; rw [List.mem_singleton.1 hu]; rfl) rfl ?_; intro w6 h5 h6 h7; have S6 := Lib.hid h5; have K6 := Lib.hid h6; clear h5 h6 h7)
  refine bodyPost_ret (results_cell_row Tryd.results48 _ _ (w.heap.size + 1 + 1) 86 _ (0, 0) _ rfl S6.out Tryd.underlying86 rfl Tryd.stsize) rfl ?_
  have V6 : Below w.heap.size w w6 := HV.out.trans (K6.out.below HV.out.size (fun j hj => by omega))
  exact ⟨w.heap.size, w.heap.size + 1, rfl, ⟨HB0.out.keeps K6.out (by omega), HB1.out.keeps K6.out (by omega)⟩, ⟨by omega, by omega⟩, V6⟩
/-- What a function of a disk answers, and leaves. -/
def DkPost (w : World) (g : Nat) (m : DkM) (R : DkD × Int) (e : Ending) (w' : World) : Prop := e = .returned (.int .i64 R.2) ∧ ∃ m', DkTo w g m w' m' ∧ m'.d = R.1
theorem DkPost.no {w w' : World} {g : Nat} {m : DkM} {R : DkD × Int} {n : Int} (h : DkOk w g m) (hR : R = (m.d, n)) (hw : w' = w) : DkPost w g m R (.returned (.int .i64 n)) w' := by
  subst hR hw
  exact ⟨rfl, m, DkTo.refl h, rfl⟩
theorem DoTo.to {w w1 w2 : World} {g : Nat} {m m' : DkM} {s : StM} (h : DkOk w g m) (b : Below w.heap.size w w1) (d : DoTo w1 g m s w2 m') (hs : ∀ j ∈ s.ro, w.heap.size ≤ j) : DkTo w g m w2 m' := by
  refine ⟨d.ok, fun j hj => ?_, fun j hj => ?_, (Keeps.of_below b _).trans d.k⟩
  · rcases d.ft j hj with h1 | h1
    · exact .inl h1
    · exact .inr (Nat.le_trans b.size h1)
  · rcases d.r j hj with h1 | h1 | h1
    · exact .inl h1
    · exact .inr (hs j h1)
    · exact .inr (Nat.le_trans b.size h1)
theorem DkOk.now {w : World} {g : Nat} {m : DkM} (h : DkOk w g m) {i : Nat} (hi : i < 16) : ∃ A c, w.cell? ⟨g, 17 + i, none⟩ = some (.slice A (rowD m.d.X (16 + i)).length c) ∧ Sees w w.heap.size A (rowD m.d.X (16 + i)) ∧ (rowD m.d.X (16 + i)).length ≤ c ∧ c ≤ maxLen ∧ A.map (·.block) = (m.rows[16 + i]'(by rw [h.n]; omega)).bk := by
  have hk : 16 + i < m.rows.length := by rw [h.n]; omega
  have h1 := h.row (k := 16 + i) (by omega)
  have h2 := h.o _ (List.getElem_mem hk)
  rw [show 1 + (16 + i) = 17 + i by omega] at h1
  rw [DkM.row_l hk]
  exact ⟨_, _, h1, RowM.sees h2, (RowM.len h2).1, (RowM.len h2).2, rfl⟩

set_option maxHeartbeats 2000000 in
theorem append_any (w : World) (g : Nat) (m : DkM) (h : DkOk w g m) (wf : DkWf m.d) (hW : m.W.length ≤ 1000) (log : Int) (A : Option Addr) (b : List UInt8) (c : Nat) (hS : Sees w w.heap.size A b) (hb : b.length ≤ 100000000) :
    Calls Tryd.prog 37 #[ptrD g, .int .i64 log, .slice A b.length c] w (DkPost w g m (appendD m.d log b)) := by
  have H := Lib.hid h
  have HWf := Lib.hid wf
  have HWl := Lib.hid hW
  have HS := Lib.hid hS
  have HM : Hid (w.cell? ⟨g, 0, none⟩ = some (.bool true)) := h.made
  have c35 : w.cell? ⟨g, 35, none⟩ = some (.bool m.dead) := h.dead
  obtain ⟨R, hR⟩ : ∃ R, appendD m.d log b = R := ⟨_, rfl⟩
  have HR := Lib.hid hR
  rw [hR]
  unfold ptrD
  clear h wf hW hS hR
  cases h1 : mayD log with
  | false =>
    have HRn : Hid (R = (m.d, 2)) := by show _ = _; rw [← HR.out, appendD, h1]; rfl
    go_enter Tryd.func37, Tryd.ntmps37
    go_wp2_with (first
      | (go_at_call 39; refine (isMade_any w g true HM.out).mono ?_; rintro e w1 ⟨rfl, hw1⟩; obtain rfl := hw1)
      | (go_at_call 43; refine (mayLog_any _ log).mono ?_; rw [h1]; rintro e w2 ⟨rfl, hw2⟩; obtain rfl := hw2))
    go_ret
    exact DkPost.no H.out HRn.out rfl
  | true =>
    obtain ⟨l0, l1⟩ := mayD_iff h1
    obtain ⟨i, rfl⟩ : ∃ i : Nat, log = (i : Int) := ⟨log.toNat, by omega⟩
    have hi16 : i < 16 := by omega
    have HI16 := Lib.hid hi16
    cases h2 : m.dead with
    | true =>
      have HRn : Hid (R = (m.d, 20)) := by show _ = _; rw [← HR.out, appendD, h1, show m.d.dead = true from h2]; rfl
      rw [h2] at c35
      go_enter Tryd.func37, Tryd.ntmps37
      go_wp2_with (first
        | (go_at_call 39; refine (isMade_any w g true HM.out).mono ?_; rintro e w1 ⟨rfl, hw1⟩; obtain rfl := hw1)
        | (go_at_call 43; refine (mayLog_any _ _).mono ?_; rw [h1]; rintro e w2 ⟨rfl, hw2⟩; obtain rfl := hw2))
      go_ret
      exact DkPost.no H.out HRn.out rfl
    | false =>
      rw [h2] at c35
      obtain ⟨A0, c0, hc0, -⟩ := H.out.now hi16
      obtain ⟨l, hl⟩ : ∃ l, (rowD m.d.X (16 + i)).length = l := ⟨_, rfl⟩
      have HLe := Lib.hid hl
      have hlm : l ≤ 16777216 := by rw [← hl]; exact HWf.out.m _
      rw [hl] at hc0
      clear hl
      have hws : IntKind.i64.wrap (16777216 - (l : Int)) = 16777216 - (l : Int) := by rw [IntKind.wrap_i64]; omega
      cases h3 : decide (16777216 < l + b.length) with
      | true =>
        have HRn : Hid (R = (m.d, 8)) := by show _ = _; rw [← HR.out, appendD, h1, show m.d.dead = false from h2, Int.toNat_natCast, HLe.out, h3]; rfl
        have h4 : 16777216 - (l : Int) < (b.length : Int) := by have := of_decide_eq_true h3; omega
        go_enter Tryd.func37, Tryd.ntmps37
        go_wp2_with (first
          | (go_at_call 39; refine (isMade_any w g true HM.out).mono ?_; rintro e w1 ⟨rfl, hw1⟩; obtain rfl := hw1)
          | (go_at_call 43; refine (mayLog_any _ _).mono ?_; rw [h1]; rintro e w2 ⟨rfl, hw2⟩; obtain rfl := hw2))
        go_ret
        exact DkPost.no H.out HRn.out rfl
      | false =>
        have HRn : Hid (R = burnD (waitD m.d (.put i b))) := by show _ = _; rw [← HR.out, appendD, h1, show m.d.dead = false from h2, Int.toNat_natCast, HLe.out, h3]; rfl
        have h4 : ¬ (16777216 - (l : Int) < (b.length : Int)) := by have := of_decide_eq_false h3; omega
        have HOk : Hid (okS (m.d.X.drop 16) (.put i b)) := ⟨hi16, by rw [drop16, HLe.out]; have := of_decide_eq_false h3; omega⟩
        clear h3 hlm hi16
        go_enter Tryd.func37, Tryd.ntmps37
        go_wp2_with (first
          | (go_at_call 39; refine (isMade_any w g true HM.out).mono ?_; rintro e w1 ⟨rfl, hw1⟩; obtain rfl := hw1)
          | (go_at_call 43; refine (mayLog_any _ _).mono ?_; rw [h1]; rintro e w2 ⟨rfl, hw2⟩; obtain rfl := hw2)
          | (go_at_call 38; refine (bclone_any _ _ A b.length c b rfl HS.out hb).mono ?_; unfold ClonePostD; rintro e w3 ⟨r, rfl, hrl, hro, hrb, hb3⟩; have RL := Lib.hid hrl; have RO := Lib.hid hro; have RB := Lib.hid hrb; have V3 := Lib.hid hb3; have RV : Hid (r.v = .slice r.A b.length r.c) := (by show _ = _; rw [RowM.v, hrl]); clear hrl hro hrb hb3; rw [RV.out])
          | (go_at_call 61; refine (dput_any w3 i r.c b r.A (by have h := RowM.sees RO.out; rw [RL.out] at h; exact h) (by have h := (RowM.len RO.out).1; rw [RL.out] at h; exact h) (RowM.len RO.out).2).mono ?_; rintro e w4 ⟨p0, p1, pf, rfl, hp, hpn, hb4⟩; have P4 := Lib.hid hp; have N4 := Lib.hid hpn; have V4 := Lib.hid hb4; clear hp hpn hb4)
          | (go_at_call 47; refine (do_any w4 g m (DkTo.below H.out (nxTo V3.out V4.out)).ok (.put i b p0 p1 pf r.A r.c) P4.out (fun j hj => ⟨fun hf => (by have h5 := H.out.foot_lt hf; have h6 := V3.out.size; have h7 := N4.out; simp only [StM.ro, List.mem_cons, Option.mem_toList] at hj; rcases hj with rfl | rfl | rfl | hj; omega; omega; omega; have := RB.out j hj; omega), (by simp only [StM.ro, List.mem_cons, Option.mem_toList] at hj; rcases hj with rfl | rfl | rfl | hj; exact P4.out.a.lt; exact P4.out.s.lt; exact P4.out.f.lt; exact Nat.lt_of_lt_of_le (RowM.lt RO.out hj) V4.out.size)⟩) HOk.out HWl.out HWf.out.f HWf.out.g).mono ?_; unfold DoPost; rintro e w5 ⟨rfl, m5, hm5⟩; have M5 := Lib.hid hm5; clear hm5))
        go_ret
        refine ⟨by rw [HRn.out] <;> rfl, m5, DoTo.to H.out (nxTo V3.out V4.out) M5.out (fun j hj => ?_), by rw [HRn.out]; exact M5.out.d⟩
        have h6 := V3.out.size
        have h7 := N4.out
        simp only [StM.ro, List.mem_cons, Option.mem_toList] at hj
        rcases hj with rfl | rfl | rfl | hj
        · omega
        · omega
        · omega
        · exact RB.out j hj
end Go.Proofs.YthamlphebnhcpaaDoor
