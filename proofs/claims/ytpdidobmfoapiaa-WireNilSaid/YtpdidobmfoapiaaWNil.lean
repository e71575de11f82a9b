/-
  WireNil: the walk.
-/
import Derived.Test.YtpdidobmfoapiaaNil
namespace Go.Proofs.Ytpdidobmfoapiaa
open Go.RowKit

/-- Along WireNil: nothing that was there has turned; the zero reader lies in the first new block. -/
def St (w wk : World) : Prop := Below w.heap.size w wk ∧ wk.cell? ⟨w.heap.size, 1, none⟩ = some (.bool false) ∧ w.heap.size < wk.heap.size
theorem St.next {w a b : World} (h : St w a) (hb : Below a.heap.size a b) : St w b :=
  ⟨h.1.trans (hb.mono h.1.size), cell_later hb h.2.1, Nat.lt_of_lt_of_le h.2.2 hb.size⟩
theorem St.start (w : World) : St w (w.alloc (.cells #[.slice none 0 0, .bool false, .bool false] 63)) := by
  have hb : Blk (w.alloc (.cells #[.slice none 0 0, .bool false, .bool false] 63)) w.heap.size 63 #[.slice none 0 0, .bool false, .bool false] := heap_alloc_new w _
  exact ⟨(Below.refl _ _).alloc (Nat.le_refl _) _, hb.cell 1, by simp⟩
theorem St.no {w wk : World} (h : St w wk) : NoRd wk (.pointer (some ⟨w.heap.size, 0, none⟩)) := .inr ⟨_, rfl, h.2.1⟩

theorem end_fresh (w : World) : Calls Try.prog 12 #[.pointer (some ⟨w.heap.size, 0, none⟩)] (w.alloc (.cells #[.slice none 0 0, .bool false] 67)) fun e w' => (∃ A c, e = .returned (.tuple #[.slice A 0 c, .int .i64 0])) ∧ Below w.heap.size w w' := by
  refine (end_s _ (fun k => w.heap.size ≤ k) w.heap.size (some []) (WrS.new w _ (Nat.le_refl _)) (by simp [lenS])).mono ?_
  rintro e w1 ⟨⟨A, c, rfl, _⟩, hb⟩
  exact ⟨⟨A, c, rfl⟩, ((Below.refl _ _).alloc (Nat.le_refl _) _).trans (hb.mono (by simp))⟩

theorem blob_fresh (w : World) (A : Option Addr) (n c : Nat) (x : List UInt8) (hn : n = x.length) (hx : Sees w w.heap.size A x) (hA : ∀ ad, A = some ad → ad.block < w.heap.size) (hlen : n ≤ 1099511620000) :
    Calls Try.prog 36 #[.pointer (some ⟨w.heap.size, 0, none⟩), .slice A n c] (w.alloc (.cells #[.slice none 0 0, .bool false] 67)) fun e w' =>
      e = .returned (.pointer (some ⟨w.heap.size, 0, none⟩)) ∧ WrS w' (fun k => w.heap.size ≤ k) w.heap.size (putBlob (some []) x) ∧ Below w.heap.size w w' := by
  refine (blob_s _ (fun k => w.heap.size ≤ k) w.heap.size (some []) (WrS.new w _ (Nat.le_refl _)) (fun k hk => by simp at hk; omega) _ A n c x hn (hx.alloc _) (fun ad had _ => by have := hA ad had; omega) (by simp [lenS]; omega)).mono ?_
  rintro e w1 ⟨rfl, h1, h2⟩
  exact ⟨rfl, h1, ((Below.refl _ _).alloc (Nat.le_refl _) _).trans (h2.below (by simp) (fun k hk => by omega))⟩

theorem made_sees {w : World} {base g n : Nat} (h : w.ownsRow base 5 1 (.slice (some ⟨g, 0, none⟩) n n) n (madeCells (Value.int .u8 0).cells (n * 1)).toList) : Sees w w.heap.size (some ⟨g, 0, none⟩) (List.replicate n 0) := by
  have e : (madeCells (Value.int .u8 0).cells (n * 1)).toList = By (List.replicate n 0) := by
    rw [Nat.mul_one]
    have := toList_madeCells_one (.int .u8 0) n
    simp only [Value.cells]
    rw [this]
    simp [By]
  rw [e] at h
  exact Sees.own h
theorem big_blob (n : Nat) (h : 16777216 < n) : putBlob (some []) (List.replicate n 0) = none := by
  unfold putBlob
  rw [if_neg (by simp; omega)]

theorem ok_blob (n : Nat) (h : n ≤ 16777216) : putBlob (some []) (List.replicate n 0) = some (leB n 4 ++ List.replicate n 0) := by
  unfold putBlob
  rw [if_pos (by simpa using h), List.length_replicate]
  have : numOk n 4 = true := by
    simp [numOk]
    exact ⟨rfl, by omega⟩
  simp [putN, this, putB]
theorem end_len (w : World) (S : Nat → Prop) (g : Nat) (l : List UInt8) (k : Nat) (h : WrS w S g (some l)) (hk : l.length = k) (hl : k ≤ 1099511627776) :
    Calls Try.prog 12 #[.pointer (some ⟨g, 0, none⟩)] w fun e w' => (∃ A c, e = .returned (.tuple #[.slice A k c, .int .i64 0])) ∧ Below w.heap.size w w' := by
  subst hk
  exact (end_s w S g (some l) h (by simpa [lenS] using hl)).mono fun e w' ⟨⟨A, c, h1, _⟩, h2⟩ => ⟨⟨A, c, h1⟩, h2⟩
theorem St.keeps {w a b : World} {g : Nat} (h : St w a) (hk : Keeps (· = g) a b) (hg : w.heap.size < g) : St w b :=
  ⟨h.1.trans (hk.below h.1.size (fun k hk => by omega)), (hk.cell (p := ⟨w.heap.size, 1, none⟩) h.2.2 (by exact Nat.ne_of_lt hg)).trans h.2.1, Nat.lt_of_lt_of_le h.2.2 hk.size⟩
theorem nil_blob1 : blobPiece (some [1, 0, 0, 1, 5]) = [] := by decide
theorem nil_blob2 : blobRest (some [1, 0, 0, 1, 5]) = none := by decide

set_option maxHeartbeats 1000000 in
set_option maxRecDepth 100000 in
theorem wireNil_any (w : World) : Calls Try.prog 7 #[] w fun e w' => e = .returned (.bool true) ∧ Below w.heap.size w w' := by
  have H0 := Lib.hid (St.start w)
  obtain ⟨i0, hi, hz0, hz1, hz2⟩ := info_parts Try.u8info
  go_enter Try.func7, Try.ntmps7
  go_wp2_with fail
  refine (number_nil _).mono ?_
  rintro e w1 ⟨rfl, hb⟩
  have H1 := Lib.hid (H0.out.next hb)
  clear hb H0
  go_wp2_with fail
  refine (blob_nil _).mono ?_
  rintro e w2 ⟨rfl, hb⟩
  have H2 := Lib.hid (H1.out.next hb)
  clear hb H1
  go_wp2_with fail
  refine (end_nil _).mono ?_
  rintro e w' ⟨rfl, rfl⟩
  go_wp2_with fail
  refine (end_fresh _).mono ?_
  rintro e w3 ⟨⟨A3, c3, rfl⟩, hb⟩
  have H3 := Lib.hid (H2.out.next hb)
  clear hb H2
  obtain ⟨n, hn1, hn2⟩ : ∃ n : Nat, 16777217 ≤ n ∧ n ≤ 16777217 := ⟨16777217, Nat.le_refl _, Nat.le_refl _⟩
  go_wp2_with (at_make; go_loud (refine wpList_make_full _ rfl _ _ 25 rfl w3.heap.size 5 i0 (.int .u8 0) 1 Try.underlying25 hi hz0 hz1 .i64 .i64 16777217 16777217 n rfl rfl (by omega) (by omega) (by rw [hz2]; omega) (by simp only [maxLen]; omega) (Nat.le_refl _) ?_); intro w4 ho4 hg4; have HS4 := Lib.hid (made_sees ho4); have Hb4 := Lib.hid ((Below.refl w3.heap.size w3).grown hg4 (Nat.le_refl _) (fun k hk => by cases hk)); have Hz4 : Hid (w3.heap.size < w4.heap.size) := ((ho4.lt w3.heap.size rfl).2); clear ho4 hg4)
  have H4 := Lib.hid (H3.out.next Hb4.out)
  refine (blob_fresh _ _ _ _ (List.replicate n 0) (by simp) HS4.out (fun ad h => by injection h with h; subst h; exact Hz4.out) (by omega)).mono ?_
  rintro e w5 ⟨rfl, hw5, hb5⟩
  rw [big_blob n (by omega)] at hw5
  have Hw5 := Lib.hid hw5
  have H5 := Lib.hid (H4.out.next hb5)
  have HS5 := Lib.hid (HS4.out.later hb5)
  have Hz5 : Hid (w3.heap.size < w5.heap.size) := Nat.lt_of_lt_of_le Hz4.out hb5.size
  clear hw5 hb5 HS4 Hz4 Hb4 H4 H3
  go_wp2_with fail
  refine (end_s _ _ _ _ Hw5.out (by simp [lenS])).mono ?_
  rintro e w' ⟨rfl, rfl⟩
  clear Hw5
  go_wp2_with fail
  refine (blob_fresh _ _ _ _ (List.replicate (n - 1) 0) (by simp) (by simpa [Addr.add_lit, List.drop_replicate] using HS5.out.size.drop 1) (fun ad h => by injection h with h; subst h; exact Hz5.out) (by omega)).mono ?_
  rintro e w6 ⟨rfl, hw6, hb6⟩
  rw [ok_blob (n - 1) (by omega)] at hw6
  have Hw6 := Lib.hid hw6
  have H6 := Lib.hid (H5.out.next hb6)
  clear hw6 hb6 HS5 Hz5 H5
  go_wp2_with fail
  refine (end_len _ _ _ _ (n + 3) Hw6.out (by rw [List.length_append, leB_length, List.length_replicate]; omega) (by omega)).mono ?_
  rintro e w7 ⟨⟨A7, c7, rfl⟩, hb7⟩
  have H7 := Lib.hid (H6.out.next hb7)
  clear hb7 H6 Hw6
  go_wp2_with fail
  refine (read_any _ _ _ _ _ [1, 0, 0, 1, 5] rfl (Sees.lit w7 [1, 0, 0, 1, 5] 5) (by simp)).mono ?_
  rintro e w8 ⟨g, d, rfl, hg, hd, hR, hb8⟩
  have hgw : w.heap.size < g := by have := H7.out.2.2; simp at hg; omega
  have H8 := Lib.hid (H7.out.next (((Below.refl _ _).alloc (Nat.le_refl _) _).trans (hb8.mono (by simp))))
  have HR8 := Lib.hid hR
  clear hb8 H7 hg hd hR
  go_wp2_with fail
  refine (rblob_s _ _ _ _ HR8.out (by simp [lenS])).mono ?_
  rw [nil_blob1, nil_blob2]
  rintro e w9 ⟨A9, c9, rfl, ho9, hR9, hk9⟩
  have H9 := Lib.hid (H8.out.keeps hk9 hgw)
  have HR9 := Lib.hid hR9
  clear ho9 hk9 hR9 H8 HR8
  have hn3 : ((n : Int) + 3 == 16777220) = true := by simp; omega
  go_wp2_with (go_at_call 13; refine (num_any _ _).mono ?_; rintro e w' ⟨rfl, rfl⟩)
  refine (rend_s _ _ _ _ HR9.out).mono ?_
  rw [show rend none = 4 from rfl]
  rintro e w' ⟨rfl, rfl⟩
  go_wp2_with (go_at_call 13; refine (num_any _ _).mono ?_; rintro e w' ⟨rfl, rfl⟩)
  refine (left_s _ _ _ _ HR9.out).mono ?_
  rw [show lenS none = 0 from rfl]
  rintro e w' ⟨rfl, rfl⟩
  go_wp2_with (go_at_call 13; refine (num_any _ _).mono ?_; rintro e w' ⟨rfl, rfl⟩)
  refine (rend_no _ _ (.inl rfl)).mono ?_
  rintro e w' ⟨rfl, rfl⟩
  go_wp2_with (go_at_call 13; refine (num_any _ _).mono ?_; rintro e w' ⟨rfl, rfl⟩)
  refine (rend_no _ _ H9.out.no).mono ?_
  rintro e w' ⟨rfl, rfl⟩
  go_wp2_with (go_at_call 13; refine (num_any _ _).mono ?_; rintro e w' ⟨rfl, rfl⟩)
  refine (rnumber_no _ _ (.inl rfl) _).mono ?_
  rintro e w' ⟨rfl, rfl⟩
  go_wp2_with fail
  refine (rbytes_no _ _ H9.out.no).mono ?_
  rintro e w10 ⟨rfl, hb10⟩
  have H10 := Lib.hid (H9.out.next hb10)
  clear hb10 H9 HR9
  go_wp2_with fail
  refine (left_no _ _ (.inl rfl)).mono ?_
  rintro e w' ⟨rfl, rfl⟩
  go_wp2_with fail
  refine (rcount_no _ _ H10.out.no).mono ?_
  rintro e w' ⟨rfl, rfl⟩
  go_wp2_with fail
  refine (rhash_no _ _ (.inl rfl)).mono ?_
  rintro e w11 ⟨rfl, hb11⟩
  have H11 := Lib.hid (H10.out.next hb11)
  clear hb11 H10
  have qe : ∀ W : World, (binOp .eql 30 (.agg (By zero32).toArray) (.agg (By zero32).toArray)).run Try.prog W = .ok (.bool true) W := fun W => by
    rw [run_eql_bytes 32 30 5 Try.underlying30 Try.underlying5 Try.u8size zero32 zero32 rfl rfl, beq_self_eq_true]
  rw [zero32_cells] at qe ⊢
  go_wp2_with fail
  refine (known_any _).mono ?_
  rintro e w12 ⟨rfl, hb12⟩
  have H12 := Lib.hid (H11.out.next hb12)
  clear hb12 H11
  go_wp2_with fail
  go_ret
  exact ⟨rfl, H12.out.1⟩

end Go.Proofs.Ytpdidobmfoapiaa
