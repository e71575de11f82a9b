/-
  wal: Scan: the batches of a log's bytes.
-/
import Derived.Test.YthamlphebnhcpaaDoorTag
import Derived.Test.YthamlphebnhcpaaDoorWr2
import Derived.Test.YthamlphebnhcpaaDoorDk2
import Derived.Test.YthamlphebnhcpaaDoorDkG
import Derived.Test.YthamlphebnhcpaaDoorPWpQ4
import Derived.Test.YthamlphebnhcpaaDoorRf1
namespace Go.Proofs.YthamlphebnhcpaaDoor
open Go.RowKit

/-- The name of a record's mark. -/
def walN : ByteArray := ⟨#[119, 97, 108]⟩
def headB (n : Nat) (b : List UInt8) : List UInt8 := leB b.length 4 ++ leB n 8
def markB (n : Nat) (b : List UInt8) : List UInt8 := shaB (tagB walN (headB n b ++ b))
def recB (n : Nat) (b : List UInt8) : List UInt8 := headB n b ++ (markB n b).take 8 ++ b
theorem headB_len (n : Nat) (b : List UInt8) : (headB n b).length = 12 := by unfold headB; rw [List.length_append, leB_length, leB_length]
theorem markB_len (n : Nat) (b : List UInt8) : (markB n b).length = 32 := rfl
theorem recB_len (n : Nat) (b : List UInt8) : (recB n b).length = 20 + b.length := by
  unfold recB
  rw [List.length_append, List.length_append, headB_len, List.length_take, markB_len]; omega
theorem WrS.first (w : World) (S : Nat → Prop) (hS : S w.heap.size) : WrS (w.alloc (.cells #[.slice none 0 0, .bool false] 103)) S w.heap.size (some []) :=
  ⟨hS, none, 0, heap_alloc_new w _, World.ownsRow_nil _ _ _ _, fun k hk => by simp [Value.ownBlock] at hk⟩
theorem own_capW {w : World} {base n c : Nat} {A : Option Addr} {e : TypeId} {xs : List Value} (h : w.ownsRow base e 1 (.slice A n c) n xs) : n ≤ c := by
  rcases h.2 with ⟨hv, h0⟩ | ⟨g, cap, cur, hv, hb, hh, hnc, hcm, hcs, ht⟩
  · omega
  · injection hv with a1 a2 a3; omega
theorem Sees.blkW {w : World} {g : Nat} {t : TypeId} {l : List UInt8} (h : Blk w g t (By l).toArray) : Sees w w.heap.size (some ⟨g, 0, none⟩) l :=
  .inr ⟨g, 0, rfl, h.lt, fun i hi => by rw [Nat.zero_add, h.cell]; simp [By, hi]⟩
theorem own_lessW {w : World} {b b' size n : Nat} {e : TypeId} {v : Value} {xs : List Value} (h : w.ownsRow b' e size v n xs) (hb : b ≤ b') : w.ownsRow b e size v n xs := by
  refine ⟨h.1, ?_⟩
  rcases h.2 with h0 | ⟨g, cap, cur, hv, hg, h1⟩
  · exact .inl h0
  · exact .inr ⟨g, cap, cur, hv, by omega, h1⟩
/-- A row of bytes of one's own, in new memory. -/
def OwnPost (w : World) (l : List UInt8) (e : Ending) (w' : World) : Prop := ∃ A c, e = .returned (.slice A l.length c) ∧ w'.ownsRow w.heap.size 5 1 (.slice A l.length c) l.length (By l) ∧ Below w.heap.size w w'
theorem putN_head1 (b : List UInt8) (hb : b.length ≤ 4194304) : putN (some []) b.length 4 = some (leB b.length 4) := by
  have h : numOk b.length 4 = true := by
    unfold numOk
    rw [Bool.and_eq_true]
    exact ⟨rfl, decide_eq_true (by show b.length < 256 ^ 4; omega)⟩
  unfold putN
  rw [if_pos h]; rfl
theorem putN_head2 (n : Nat) (b : List UInt8) (hn : n < 18446744073709551616) : putN (some (leB b.length 4)) n 8 = some (headB n b) := by
  have h : numOk n 8 = true := by
    unfold numOk
    rw [Bool.and_eq_true]
    exact ⟨rfl, decide_eq_true (by show n < 256 ^ 8; omega)⟩
  unfold putN
  rw [if_pos h]; rfl

theorem record_long (w : World) (n : Int) (A : Option Addr) (k c : Nat) (hk : 4194304 < k) : Calls Tryd.prog 36 #[.int .u64 n, .slice A k c] w fun e w' => e = .returned (.slice none 0 0) ∧ w' = w := by
  have h1 : (4194304 : Int) < (k : Int) := by omega
  go_enter Tryd.func36, Tryd.ntmps36
  go_wp2
  go_ret
  exact ⟨rfl, rfl⟩

set_option maxHeartbeats 4000000 in
set_option maxRecDepth 100000 in
theorem record_any (w : World) (hT : Tabs w) (n : Nat) (hn : n < 18446744073709551616) (A : Option Addr) (c : Nat) (b : List UInt8) (hS : Sees w w.heap.size A b) (hb : b.length ≤ 4194304) (hbc : b.length ≤ c) :
    Calls Tryd.prog 36 #[.int .u64 n, .slice A b.length c] w (OwnPost w (recB n b)) := by
  have h1 : ¬ (4194304 : Int) < (b.length : Int) := by omega
  have hwl : IntKind.u64.wrap (b.length : Int) = (b.length : Int) := by rw [IntKind.wrap_u64]; omega
  have HT := Lib.hid hT
  have HS := Lib.hid hS
  have HBl := Lib.hid hb
  have HBc := Lib.hid hbc
  have HN := Lib.hid hn
  have P1 := Lib.hid (putN_head1 b hb)
  have P2 := Lib.hid (putN_head2 n b hn)
  have HL := Lib.hid (headB_len n b)
  have HR : Hid (putB (putB (putB (some []) (headB n b)) ((markB n b).take 8)) b = some (recB n b)) := rfl
  have HF : Hid (([headB n b, b] : List (List UInt8)).flatten = headB n b ++ b) := by show _ = _; simp
  have HM : Hid (shaB (tagB (cutN walN) (headB n b ++ b)) = markB n b) := by show _ = _; rw [cutN_short walN (by decide)]; rfl
  have HMl : Hid ((markB n b).length = 32) := markB_len n b
  have HRl : Hid ((recB n b).length = 20 + b.length) := recB_len n b
  obtain ⟨H, hH⟩ : ∃ H, headB n b = H := ⟨_, rfl⟩
  obtain ⟨M, hM⟩ : ∃ M, markB n b = M := ⟨_, rfl⟩
  obtain ⟨R, hR⟩ : ∃ R, recB n b = R := ⟨_, rfl⟩
  rw [hH] at P2 HL HR HF HM
  rw [hM] at HR HM HMl
  rw [hR] at HR HRl ⊢
  clear hT hS hb hbc hn hH hM hR
  have hnew : ∀ k, (w.alloc (.cells #[.slice none 0 0, .bool false] 103)).heap.size ≤ k → w.heap.size ≤ k := fun k hk => by simp at hk; omega
  have HNew := Lib.hid hnew
  have V0 : Hid (Below w.heap.size w (w.alloc (.cells #[.slice none 0 0, .bool false] 103))) := nxAlloc (nxRefl w) _
  clear hnew
  unfold OwnPost
  go_enter Tryd.func36, Tryd.ntmps36
  go_upto_region 4 with (first
    | (go_at_call 57; (with_reducible show Calls _ _ #[_, _, .int .i64 4] _ _); refine (number_s (w.alloc (.cells #[.slice none 0 0, .bool false] 103)) (fun j => w.heap.size ≤ j) w.heap.size (some []) (WrS.first w _ (Nat.le_refl _)) HNew.out b.length 4 (by have := HBl.out; omega) (by simp [lenS])).mono ?_; rw [P1.out]; rintro e w1 ⟨rfl, hq1, hq2⟩; have W1 := Lib.hid hq1; have V1 : Hid (Below w.heap.size w w1) := V0.out.trans (hq2.below V0.out.size (fun j hj h => by omega)); clear hq1 hq2)
    | (go_at_call 57; (with_reducible show Calls _ _ #[_, _, .int .i64 8] _ _); refine (number_s w1 (fun j => w.heap.size ≤ j) w.heap.size _ W1.out (fun k hk => Nat.le_trans V1.out.size hk) n 8 HN.out (by simp [lenS, leB_length])).mono ?_; rw [P2.out]; rintro e w2 ⟨rfl, hq1, hq2⟩; have W2 := Lib.hid hq1; have V2 : Hid (Below w.heap.size w w2) := V1.out.trans (hq2.below V1.out.size (fun j hj h => by omega)); clear hq1 hq2)
    | (go_at_call 58; refine (end_s w2 (fun j => w.heap.size ≤ j) w.heap.size _ W2.out (by have h := HL.out; unfold lenS; rw [Option.getD_some]; omega)).mono ?_; unfold EndPost; rintro e w3 ⟨⟨A3, c3, rfl, ho3⟩, hb3⟩; have O3 := Lib.hid ho3; have V3 : Hid (Below w.heap.size w w3) := nxTrD V2.out hb3; clear ho3 hb3))
  have S3 : Hid (Sees w3 w3.heap.size A3 H) := Sees.own O3.out
  have C3 : Hid (H.length ≤ c3) := own_capW O3.out
  have SB3 : Hid (Sees w3 w3.heap.size A b) := (HS.out.later V3.out).more V3.out.size
  clear O3 W1 W2 V1 V2
  go_upto_region 5 with (first
    | (go_at_call 59; refine (tag_any _ (HT.out.later (nxAlloc V3.out _)) walN _ 2 2 [H, b] rfl (SeesL.two (SeesO.of S3.out (by simp)) (SeesO.of SB3.out (by simp)) rfl rfl C3.out HBc.out (by simp)) (by rw [HF.out, List.length_append]; have := HBl.out; have := HL.out; omega) (by omega) (by show 3 ≤ _; omega)).mono ?_; rw [HF.out, HM.out]; rintro e w4 ⟨rfl, hb4⟩; have V4 : Hid (Below w3.heap.size w3 w4) := nxTrD (nxAlloc (nxRefl w3) _) hb4; clear hb4)
    | ((with_reducible show wpList _ _ _ (⟨none, .store 107 _ _, _, _, _, _⟩ :: _) _ _); (show wpList _ _ _ _ _ (w4.alloc (.cells (By zero32).toArray 107))); refine wpList_store_all rfl 107 (.tmp 7) (.tmp 27) rfl w4.heap.size 107 (By zero32).toArray (By M).toArray rfl rfl (heap_alloc_new w4 _) (by rw [List.size_toArray, List.size_toArray, By_length, By_length, HMl.out]; rfl) (Tryd.hsizeB M HMl.out) (By_one _) ?_; intro w5 h5 h6 h7; have B5 := Lib.hid h5; have V5 : Hid (Below w3.heap.size w3 w5) := ((nxAlloc V4.out _).trans (h6.below (nxAlloc V4.out (.cells (By zero32).toArray 107)).size (fun k hk => by have := V4.out.size; omega))); clear h5 h6 h7))
  have S5 : Hid (Sees w5 w5.heap.size A3 H) := (S3.out.later V5.out).more V5.out.size
  have SB5 : Hid (Sees w5 w5.heap.size A b) := (SB3.out.later V5.out).more V5.out.size
  have SM5 : Hid (Sees w5 w5.heap.size (some ⟨w4.heap.size, 0, none⟩) (M.take 8)) := (Sees.blkW B5.out).take 8
  have HM8 : Hid ((M.take 8).length = 8) := by show _ = _; rw [List.length_take, HMl.out]; rfl
  have VW5 : Hid (Below w.heap.size w w5) := nxTrD V3.out V5.out
  clear S3 SB3 C3 V3 V4 V5 B5 V0 HNew
  have hnew5 : ∀ k, (w5.alloc (.cells #[.slice none 0 0, .bool false] 103)).heap.size ≤ k → w5.heap.size ≤ k := fun k hk => by simp at hk; omega
  have HNew5 := Lib.hid hnew5
  have VA : Hid (Below w5.heap.size w5 (w5.alloc (.cells #[.slice none 0 0, .bool false] 103)).drew) := (nxAlloc (nxRefl w5) _).drew
  have WA : Hid (WrS (w5.alloc (.cells #[.slice none 0 0, .bool false] 103)).drew (fun j => w5.heap.size ≤ j) w5.heap.size (some [])) := (show WrS (w5.alloc (.cells #[.slice none 0 0, .bool false] 103)) _ _ _ from WrS.first w5 _ (Nat.le_refl _))
  clear hnew5
  refine wp_region_held_drew (S := fun _ => True) (by kernel_rfl) True.intro (fun hHeld => ?_)
  refine wpAnyH_take (i := 1) (oi := ⟨_, _, _, _, _, _⟩) (v := ?_) rfl (by kernel_rfl) (by kernel_rfl) (by kernel_rfl) (fun _ _ _ h => h) (Or.inl ⟨by rfl, ?_⟩) (by assumption) ?_
  rotate_left 1
  · intro W hSw
    try dsimp only at hSw
    go_simp
    try with_reducible rfl
  try simp only [Act.put, List.setIfInBounds_toArray, List.set_cons_zero, List.set_cons_succ]
  refine wpAnyH_take (i := 3) (oi := ⟨_, _, _, _, _, _⟩) (v := ?_) rfl (by kernel_rfl) (by kernel_rfl) (by kernel_rfl) (fun _ _ _ h => h) (Or.inl ⟨by rfl, ?_⟩) (by assumption) ?_
  rotate_left 1
  · intro W hSw
    try dsimp only at hSw
    go_simp
    try with_reducible rfl
  try simp only [Act.put, List.setIfInBounds_toArray, List.set_cons_zero, List.set_cons_succ]
  refine wpAnyH_take (i := 5) (oi := ⟨_, _, _, _, _, _⟩) (v := ?_) rfl (by kernel_rfl) (by kernel_rfl) (by kernel_rfl) (fun _ _ _ h => h) (Or.inl ⟨by rfl, ?_⟩) (by assumption) ?_
  rotate_left 1
  · intro W hSw
    try dsimp only at hSw
    go_simp
    try with_reducible rfl
  try simp only [Act.put, List.setIfInBounds_toArray, List.set_cons_zero, List.set_cons_succ]
  refine wpAnyH_ready (rs := [0]) (by kernel_rfl) (by simp) ?_
  refine AllReadyH.cons rfl (fun K hK => ?_) AllReadyH.nil
  go_simp
  obtain ⟨wa, hwa⟩ : ∃ x, (w5.alloc (.cells #[.slice none 0 0, .bool false] 103)).drew = x := ⟨_, rfl⟩
  rw [hwa] at VA WA ⊢
  refine hK.out _ _ True.intro (fun hSn => ?_)
  clear hK K
  try simp only [Act.put, List.setIfInBounds_toArray, List.set_cons_zero, List.set_cons_succ]
  refine wpAnyH_ready (rs := [2]) (by kernel_rfl) (by simp) ?_
  refine AllReadyH.cons rfl (fun K hK => ?_) AllReadyH.nil
  go_simp
  go_at_call 60
  refine (bytes_s wa (fun j => w5.heap.size ≤ j) w5.heap.size (some []) WA.out (fun k hk => Nat.le_trans VA.out.size hk) wa.heap.size A3 _ c3 H rfl ((S5.out.later VA.out).more VA.out.size) (by have := HL.out; simp only [lenS, Option.getD_some, List.length_nil]; omega)).mono ?_
  rintro e wb ⟨rfl, hq1, hq2⟩
  have WB : Hid (WrS wb (fun j => w5.heap.size ≤ j) w5.heap.size (putB (some []) H)) := hq1
  have VB : Hid (Below w5.heap.size w5 wb) := VA.out.trans (hq2.below VA.out.size (fun j hj h => by omega))
  clear hq1 hq2
  refine hK.out _ _ True.intro (fun hSn => ?_)
  clear hK K
  try simp only [Act.put, List.setIfInBounds_toArray, List.set_cons_zero, List.set_cons_succ]
  refine wpAnyH_ready (rs := [4]) (by kernel_rfl) (by simp) ?_
  refine AllReadyH.cons rfl (fun K hK => ?_) AllReadyH.nil
  go_simp
  go_at_call 60
  refine (bytes_s wb (fun j => w5.heap.size ≤ j) w5.heap.size _ WB.out (fun k hk => Nat.le_trans VB.out.size hk) wb.heap.size _ 8 32 (M.take 8) HM8.out.symm ((SM5.out.later VB.out).more VB.out.size) (by have h1 := lenS_putB (some []) H; have := HL.out; have := HM8.out; simp only [lenS, Option.getD_some, List.length_nil] at h1 ⊢; omega)).mono ?_
  rintro e wc ⟨rfl, hq1, hq2⟩
  have WC : Hid (WrS wc (fun j => w5.heap.size ≤ j) w5.heap.size (putB (putB (some []) H) (M.take 8))) := hq1
  have VC : Hid (Below w5.heap.size w5 wc) := VB.out.trans (hq2.below VB.out.size (fun j hj h => by omega))
  clear hq1 hq2
  refine hK.out _ _ True.intro (fun hSn => ?_)
  clear hK K
  try simp only [Act.put, List.setIfInBounds_toArray, List.set_cons_zero, List.set_cons_succ]
  refine wpAnyH_ready (rs := [6]) (by kernel_rfl) (by simp) ?_
  refine AllReadyH.cons rfl (fun K hK => ?_) AllReadyH.nil
  go_simp
  go_at_call 60
  refine (bytes_s wc (fun j => w5.heap.size ≤ j) w5.heap.size _ WC.out (fun k hk => Nat.le_trans VC.out.size hk) wc.heap.size A _ c b rfl ((SB5.out.later VC.out).more VC.out.size) (by have h1 := lenS_putB (some []) H; have h2 := lenS_putB (putB (some []) H) (M.take 8); have := HL.out; have := HM8.out; have := HBl.out; simp only [lenS, Option.getD_some, List.length_nil] at h1 h2 ⊢; omega)).mono ?_
  rw [HR.out]
  rintro e wd ⟨rfl, hq1, hq2⟩
  have WD : Hid (WrS wd (fun j => w5.heap.size ≤ j) w5.heap.size (some R)) := hq1
  have VD : Hid (Below w5.heap.size w5 wd) := VC.out.trans (hq2.below VC.out.size (fun j hj h => by omega))
  clear hq1 hq2
  refine hK.out _ _ True.intro (fun hSn => ?_)
  clear hK K
  try simp only [Act.put, List.setIfInBounds_toArray, List.set_cons_zero, List.set_cons_succ]
  refine wpAnyH_ready (rs := [7]) (by kernel_rfl) (by simp) ?_
  refine AllReadyH.cons rfl (fun K hK => ?_) AllReadyH.nil
  go_simp
  go_at_call 58
  refine (end_s wd (fun j => w5.heap.size ≤ j) w5.heap.size _ WD.out (by have h := HRl.out; have := HBl.out; unfold lenS; rw [Option.getD_some]; omega)).mono ?_
  unfold EndPost
  rintro e we ⟨⟨A9, c9, rfl, ho9⟩, hb9⟩
  have O9 := Lib.hid ho9
  have V9 : Hid (Below w.heap.size w we) := nxTrD (nxTrD VW5.out VD.out) hb9
  have HS9 : Hid (w.heap.size ≤ wd.heap.size) := Nat.le_trans VW5.out.size VD.out.size
  clear ho9 hb9
  refine hK.out _ _ True.intro (fun hSn => ?_)
  clear hK K
  try simp only [Act.put, List.setIfInBounds_toArray, List.set_cons_zero, List.set_cons_succ]
  refine wpAnyH_take (i := 8) (oi := ⟨_, _, _, _, _, _⟩) (v := ?_) rfl (by kernel_rfl) (by kernel_rfl) (by kernel_rfl) (fun _ _ _ h => h) (Or.inl ⟨by rfl, ?_⟩) (by assumption) ?_
  rotate_left 1
  · intro W hSw
    try dsimp only at hSw
    go_simp
    try with_reducible rfl
  try simp only [Act.put, List.setIfInBounds_toArray, List.set_cons_zero, List.set_cons_succ]
  refine wpAnyH_take (i := 9) (oi := ⟨_, _, _, _, _, _⟩) (v := ?_) rfl (by kernel_rfl) (by kernel_rfl) (by kernel_rfl) (fun _ _ _ h => h) (Or.inl ⟨by rfl, ?_⟩) (by assumption) ?_
  rotate_left 1
  · intro W hSw
    try dsimp only at hSw
    go_simp
    try with_reducible rfl
  try simp only [Act.put, List.setIfInBounds_toArray, List.set_cons_zero, List.set_cons_succ]
  refine wpAnyH_take (i := 10) (oi := ⟨_, _, _, _, _, _⟩) (v := ?_) rfl (by kernel_rfl) (by kernel_rfl) (by kernel_rfl) (fun _ _ _ h => h) (Or.inl ⟨by rfl, ?_⟩) (by assumption) ?_
  rotate_left 1
  · intro W hSw
    try dsimp only at hSw
    go_simp
    try with_reducible rfl
  try simp only [Act.put, List.setIfInBounds_toArray, List.set_cons_zero, List.set_cons_succ]
  refine wpAnyH_take (i := 11) (oi := ⟨_, _, _, _, _, _⟩) (v := ?_) rfl (by kernel_rfl) (by kernel_rfl) (by kernel_rfl) (fun _ _ _ h => h) (Or.inl ⟨by rfl, ?_⟩) (by assumption) ?_
  rotate_left 1
  · intro W hSw
    try dsimp only at hSw
    go_simp
    try with_reducible rfl
  try simp only [Act.put, List.setIfInBounds_toArray, List.set_cons_zero, List.set_cons_succ]
  refine wpAnyH_take (i := 12) (oi := ⟨_, _, _, _, _, _⟩) (v := ?_) rfl (by kernel_rfl) (by kernel_rfl) (by kernel_rfl) (fun _ _ _ h => h) (Or.inl ⟨by rfl, ?_⟩) (by assumption) ?_
  rotate_left 1
  · intro W hSw
    try dsimp only at hSw
    go_simp
    try with_reducible rfl
  try simp only [Act.put, List.setIfInBounds_toArray, List.set_cons_zero, List.set_cons_succ]
  refine wpAnyH_done (by kernel_rfl) ?_ _
  clear hHeld
  go_wp2
  go_ret
  exact ⟨A9, c9, rfl, own_lessW O9.out HS9.out, V9.out⟩
end Go.Proofs.YthamlphebnhcpaaDoor

namespace Go.Proofs.YthamlphebnhcpaaDoor
open Go.RowKit

/-- The next record's bytes, right or not, and what is behind. -/
def nextR (b : List UInt8) : Option (List UInt8 × List UInt8) := if 20 + ofLe (b.take 4) ≤ b.length then some (b.take (20 + ofLe (b.take 4)), b.drop (20 + ofLe (b.take 4))) else none
/-- A slice of bytes that lies below block B. -/
structure SeenW (w : World) (B : Nat) (A : Option Addr) (c : Nat) (l : List UInt8) : Prop where
  s : Sees w B A l
  kc : l.length ≤ c
  m : c ≤ maxLen
theorem SeenW.below {w w' : World} {B : Nat} {A : Option Addr} {c : Nat} {l : List UInt8} (h : SeenW w B A c l) (b : Below B w w') : SeenW w' B A c l := ⟨h.s.below b, h.kc, h.m⟩
theorem Keeps.belowW {w w' : World} {g B : Nat} (k : Keeps (· = g) w w') (hB : B ≤ g) (hw : B ≤ w.heap.size) : Below B w w' := ⟨k.os, k.tape, k.output, k.size, fun j hj => k.block j (by omega) (by omega)⟩
theorem low_sliceW {w : World} {B : Nat} {A : Option Addr} {c : Nat} {l : List UInt8} (h : SeenW w B A c l) (k : Nat) (hk : k ≤ l.length) (κ : IntKind) :
    ∃ A1, SeenW w B A1 c (l.take k) ∧ ∀ wq, (Instr.slice 39 (.slice A l.length c) none (some (.int κ (k : Int))) none).run Tryd.prog wq = .ok (.slice A1 k c) wq := by
  obtain ⟨i0, hi, _, hz1, _⟩ := infoD Tryd.u8info
  have hc := h.kc
  have hm := h.m
  unfold maxLen at hm
  refine ⟨if c = 0 then A else A.map (·.add (0 * 1)), ⟨?_, by rw [List.length_take]; omega, h.m⟩, fun wq => ?_⟩
  · split
    · exact h.s.take _
    · have := (h.s.drop 0).take k
      simpa using this
  · simp [Instr.slice, run_underlying Tryd.underlying39, Instr.sliceBounds, run_sliceBound wq κ (k : Int) c _ (by omega) (by omega), sizeOf, typeInfo, hi, hz1]
theorem high_sliceW {w : World} {B : Nat} {A : Option Addr} {c : Nat} {l : List UInt8} (h : SeenW w B A c l) (k : Nat) (hk : k ≤ l.length) :
    ∃ A1, SeenW w B A1 (c - k) (l.drop k) ∧ ∀ wq, (Instr.slice 39 (.slice A l.length c) (some (.int .i64 (k : Int))) none none).run Tryd.prog wq = .ok (.slice A1 (l.length - k) (c - k)) wq := by
  obtain ⟨i0, hi, _, hz1, _⟩ := infoD Tryd.u8info
  have hc := h.kc
  have hm := h.m
  unfold maxLen at hm
  refine ⟨if c = k then A else A.map (·.add (k * 1)), ⟨?_, by rw [List.length_drop]; omega, by unfold maxLen; omega⟩, fun wq => ?_⟩
  · split
    · next he => exact .inl (List.drop_eq_nil_of_le (by omega))
    · have := h.s.drop k
      simpa using this
  · simp [Instr.slice, run_underlying Tryd.underlying39, Instr.sliceBounds, run_sliceBound wq .i64 (k : Int) l.length _ (by omega) (by omega), sizeOf, typeInfo, hi, hz1]
/-- What is left to be read, in the closure's box. -/
def RestAt (w : World) (B g : Nat) (l : List UInt8) : Prop := B ≤ g ∧ ∃ A c, Blk w g 39 #[.slice A l.length c] ∧ SeenW w B A c l
theorem RestAt.below {w w' : World} {B g : Nat} {l : List UInt8} (h : RestAt w B g l) (b : Below (g + 1) w w') : RestAt w' B g l := by
  obtain ⟨h0, A, c, h1, h2⟩ := h
  exact ⟨h0, A, c, h1.below b (by omega), h2.below (b.mono (by omega))⟩
def NextPost (w : World) (B g : Nat) (l : List UInt8) (e : Ending) (w' : World) : Prop :=
  match nextR l with
  | none => e = .returned (.slice none 0 0) ∧ Keeps (· = g) w w'
  | some (r, q) => ∃ A1 c1, e = .returned (.slice A1 r.length c1) ∧ SeenW w' B A1 c1 r ∧ RestAt w' B g q ∧ Keeps (· = g) w w'

set_option maxHeartbeats 4000000 in
set_option maxRecDepth 100000 in
theorem next_any (w : World) (B g : Nat) (l : List UInt8) (h : RestAt w B g l) (hl : l.length ≤ 1000000000) : Calls Tryd.prog 63 #[.pointer (some ⟨g, 0, none⟩)] w (NextPost w B g l) := by
  obtain ⟨hBg, A, c, hb, hS⟩ := h
  have HBg := Lib.hid hBg
  have c0 : w.cell? ⟨g, 0, none⟩ = some (.slice A l.length c) := hb.cell 0
  have f0 : w.frozen? ⟨g, 0, none⟩ = false := hb.frozen 0
  obtain ⟨m, hm⟩ : ∃ m, min 4 l.length = m := ⟨_, rfl⟩
  have hml : m ≤ l.length := by omega
  obtain ⟨A0, hS0, hsl0⟩ := low_sliceW hS m hml .i64
  have hsl := hsl0
  have HB := Lib.hid hb
  have HS := Lib.hid hS
  have HS0 := Lib.hid hS0
  have HLl := Lib.hid hl
  have HM := Lib.hid hm
  have hmin : (if (l.length : Int) < 4 then (l.length : Int) else 4) = (m : Int) := by split <;> omega
  have HBw : Hid (B ≤ w.heap.size) := Nat.le_trans hBg (Nat.le_of_lt hb.lt)
  clear hb hS hS0 hl hsl0 hBg
  go_enter Tryd.func63, Tryd.ntmps63
  go_upto_region 2 with (first
    | (go_at_call 64; refine (read_any w B A0 m c (l.take m) (by rw [List.length_take]; omega) HS0.out.s (by omega)).mono ?_; unfold ReadPost; rintro e w1 ⟨gr, d, rfl, hg, hd, hr, hb⟩; have HR1 := Lib.hid hr; have V1 := Lib.hid hb; have HG1 := Lib.hid hg; clear hg hd hr hb)
    | (go_at_call 65; refine (rnumber_s w1 gr d _ HR1.out 4).mono ?_; unfold NumPost; rintro e w2 ⟨rfl, -, hk, hs⟩; have K2 := Lib.hid hk; clear hk hs))
  have V2 : Hid (Below w.heap.size w w2) := V1.out.trans (K2.out.below V1.out.size (fun j hj e => by have := HG1.out; omega))
  obtain ⟨kk, hkk⟩ : ∃ kk, ofLe (cutPiece (some (l.take m)) 4 (may 4)) = kk := ⟨_, rfl⟩
  have hk32 : kk < 4294967296 := by
    rw [← hkk]
    have h1 := ofLe_lt (cutPiece (some (l.take m)) 4 (may 4))
    have h2 := cutPiece_le (some (l.take m)) 4 (may 4)
    have h3 : 256 ^ (cutPiece (some (l.take m)) 4 (may 4)).length ≤ 256 ^ 4 := Nat.pow_le_pow_right (by omega) (by simpa using h2)
    omega
  have hk4 : 4 ≤ l.length → kk = ofLe (l.take 4) := fun h4 => by
    have hm4 : m = 4 := by omega
    have hlt : (l.take 4).length = 4 := by rw [List.length_take]; omega
    have e : cutPiece (some (l.take m)) 4 (may 4) = l.take 4 := by
      unfold cutPiece cutOk lenS
      rw [hm4, Option.getD_some, hlt]
      show (l.take 4).take 4 = _
      rw [List.take_take]; rfl
    rw [← hkk, e]
  rw [hkk]
  have hwl : IntKind.u64.wrap (l.length : Int) = (l.length : Int) := by rw [IntKind.wrap_u64]; have := HLl.out; omega
  obtain ⟨k, hk⟩ : ∃ k : Nat, 20 + kk = k := ⟨_, rfl⟩
  have hwk : IntKind.u64.wrap (20 + (kk : Int)) = (k : Int) := by rw [IntKind.wrap_u64]; omega
  have B2 : Hid (Blk w2 g 39 #[.slice A l.length c]) := HB.out.below V2.out HB.out.lt
  have c02 : w2.cell? ⟨g, 0, none⟩ = some (.slice A l.length c) := B2.out.cell 0
  have f02 : w2.frozen? ⟨g, 0, none⟩ = false := B2.out.frozen 0
  have S2 : Hid (SeenW w2 B A c l) := HS.out.below (V2.out.mono HBw.out)
  have HBw2 : Hid (B ≤ w2.heap.size) := Nat.le_trans HBw.out V2.out.size
  have KV : Hid (Keeps (· = g) w w2) := Keeps.of_below V2.out _
  clear c0 f0 hsl hmin K2 HR1 V1 HG1
  by_cases hyes : k ≤ l.length
  · have he := hk4 (by omega)
    have HNx : Hid (nextR l = some (l.take k, l.drop k)) := by
      show _ = _
      unfold nextR
      rw [← he, hk, if_pos hyes]
    obtain ⟨A1, hS1, hsl1⟩ := low_sliceW S2.out k hyes .u64
    obtain ⟨A2, hS2, hsl2⟩ := high_sliceW S2.out k hyes
    have q1 := hsl1
    have q2 := hsl2
    have hgt : ¬ (l.length : Int) < (k : Int) := by omega
    have HS1 := Lib.hid hS1
    have HS2 := Lib.hid hS2
    have HY := Lib.hid hyes
    clear hS1 hS2 hsl1 hsl2 hk4 he hkk hm hml hk hk32 hyes
    go_wp2
    go_ret
    unfold NextPost
    rw [HNx.out]
    have K3 : ∀ v, Keeps (· = g) w2 (w2.setCell ⟨g, 0, none⟩ v) := fun v => Keeps.setCell (S := (· = g)) (p := ⟨g, 0, none⟩) (Keeps.refl _ _) rfl v
    have hlk : (l.take k).length = k := by rw [List.length_take]; have := HY.out; omega
    refine ⟨A1, c, by rw [hlk]; rfl, HS1.out.below ((K3 _).belowW HBg.out HBw2.out), ⟨HBg.out, A2, c - k, ?_, HS2.out.below ((K3 _).belowW HBg.out HBw2.out)⟩, KV.out.trans (K3 _)⟩
    rw [List.length_drop]
    exact B2.out.set 0 _
  · have HNx : Hid (nextR l = none) := by
      show _ = _
      unfold nextR
      rw [if_neg]
      intro h
      have := hk4 (by omega)
      omega
    have hgt : (l.length : Int) < (k : Int) := by omega
    clear hk4 hkk hm hml hk hk32 hyes
    go_wp2
    go_ret
    unfold NextPost
    rw [HNx.out]
    exact ⟨rfl, KV.out⟩
end Go.Proofs.YthamlphebnhcpaaDoor

namespace Go.Proofs.YthamlphebnhcpaaDoor
open Go.RowKit

/-- The next record, where it is right. -/
def stepR (n : Nat) (b : List UInt8) : Option (List UInt8 × List UInt8) :=
  match nextR b with
  | none => none
  | some (r, q) => if (r.drop 20).length ≤ 4194304 ∧ r = recB n (r.drop 20) then some (r.drop 20, q) else none
def scanF : Nat → Nat → List UInt8 → List (List UInt8)
  | 0, _, _ => []
  | f + 1, n, b => match stepR n b with
    | none => []
    | some (x, q) => x :: scanF f (n + 1) q
def scanB (b : List UInt8) : List (List UInt8) := scanF b.length 1 b
def sizeL (L : List (List UInt8)) : Nat := (L.map fun x => 20 + x.length).sum
theorem nextR_len {b r q : List UInt8} (h : nextR b = some (r, q)) : 20 ≤ r.length ∧ r.length + q.length = b.length := by
  unfold nextR at h
  split at h
  · injection h with h
    injection h with h1 h2
    subst h1 h2
    rw [List.length_take, List.length_drop]
    omega
  · cases h
theorem stepR_some {n : Nat} {b x q : List UInt8} (h : stepR n b = some (x, q)) : nextR b = some (recB n x, q) ∧ x.length ≤ 4194304 ∧ 20 + x.length + q.length = b.length := by
  unfold stepR at h
  cases hn : nextR b with
  | none => rw [hn] at h; cases h
  | some p =>
    obtain ⟨r, q'⟩ := p
    rw [hn] at h
    dsimp only at h
    split at h
    · next hc =>
      injection h with h
      injection h with h1 h2
      obtain ⟨hl, hr⟩ := hc
      rw [h1] at hl hr
      subst h2
      have hln := nextR_len hn
      rw [hr] at hln ⊢
      rw [recB_len] at hln
      exact ⟨rfl, hl, by omega⟩
    · cases h
theorem stepR_none {n : Nat} {b r q : List UInt8} (h : nextR b = some (r, q)) (hs : stepR n b = none) : ¬ ((r.drop 20).length ≤ 4194304 ∧ r = recB n (r.drop 20)) := by
  unfold stepR at hs
  rw [h] at hs
  dsimp only at hs
  intro hc
  rw [if_pos hc] at hs
  cases hs
theorem scanF_fuel : ∀ (f g n : Nat) (b : List UInt8), b.length ≤ f → b.length ≤ g → scanF f n b = scanF g n b
  | 0, g, n, b, hf, hg => by
    have h0 : b = [] := List.eq_nil_of_length_eq_zero (by omega)
    subst h0
    cases g with
    | zero => rfl
    | succ g => rfl
  | f + 1, 0, n, b, hf, hg => by
    have h0 : b = [] := List.eq_nil_of_length_eq_zero (by omega)
    subst h0
    rfl
  | f + 1, g + 1, n, b, hf, hg => by
    unfold scanF
    cases h : stepR n b with
    | none => rfl
    | some p =>
      obtain ⟨x, q⟩ := p
      have := (stepR_some h).2.2
      dsimp only
      rw [scanF_fuel f g (n + 1) q (by omega) (by omega)]
theorem scanF_step {n : Nat} {b x q : List UInt8} (h : stepR n b = some (x, q)) : scanF b.length n b = x :: scanF q.length (n + 1) q := by
  have hl := (stepR_some h).2.2
  obtain ⟨f, hf⟩ : ∃ f, b.length = f + 1 := ⟨b.length - 1, by omega⟩
  rw [hf]
  show (match stepR n b with
    | none => []
    | some (x, q) => x :: scanF f (n + 1) q) = _
  rw [h]
  dsimp only
  rw [scanF_fuel f q.length (n + 1) q (by omega) (Nat.le_refl _)]
theorem scanF_end {n : Nat} {b : List UInt8} (h : stepR n b = none) : scanF b.length n b = [] := by
  cases hb : b.length with
  | zero => rfl
  | succ f =>
    show (match stepR n b with
      | none => []
      | some (x, q) => x :: scanF f (n + 1) q) = _
    rw [h]
theorem sizeL_snoc (L : List (List UInt8)) (x : List UInt8) : sizeL (L ++ [x]) = sizeL L + (20 + x.length) := by
  unfold sizeL; rw [List.map_append, List.sum_append]; simp

theorem records_any (w : World) (A : Option Addr) (c : Nat) (b : List UInt8) (hS : Sees w w.heap.size A b) (hc : b.length ≤ c) (hm : c ≤ maxLen) : Calls Tryd.prog 44 #[.slice A b.length c] w fun e w' => ∃ g, e = .returned (.func (.func 63) #[] #[.pointer (some ⟨g, 0, none⟩)]) ∧ g = w.heap.size ∧ RestAt w' w.heap.size g b ∧ Below w.heap.size w w' := by
  have hmf : ∀ (fn : Fn) (first cap : Array Value) (w : World), (Instr.makeFunc fn first cap).run Tryd.prog w = .ok (.func fn first cap) w := fun _ _ _ _ => rfl
  have V : Hid (Below w.heap.size w (w.alloc (.cells #[.slice A b.length c] 39))) := nxAlloc (nxRefl w) _
  have HS := Lib.hid hS
  have HC := Lib.hid hc
  have HM := Lib.hid hm
  clear hS hc hm
  go_enter Tryd.func44, Tryd.ntmps44
  go_wp2
  go_ret
  exact ⟨w.heap.size, rfl, rfl, ⟨Nat.le_refl _, A, c, heap_alloc_new w _, HS.out.below V.out, HC.out, HM.out⟩, V.out⟩
theorem Tryd.slInfo : (Tryd.prog.info? 39).map (fun i => (i.zero, i.size, i.bytes)) = some (some (.slice none 0 0), 1, 24) := by kernel_rfl
theorem rowsC_snoc (rows : List RowM) (r : RowM) : rowsC (rows ++ [r]) = rowsC rows ++ [r.v] := by unfold rowsC; rw [List.map_append]; rfl
theorem rowV_one (r : RowM) : ∀ u ∈ [r.v], u.oneCell' = true := by intro u hu; rw [List.mem_singleton.1 hu]; rfl
/-- What Scan answers. -/
def ScanPost (w : World) (b : List UInt8) (e : Ending) (w' : World) : Prop := ∃ (rows : List RowM) (A : Option Addr) (c : Nat), e = .returned (.tuple #[.slice A rows.length c, .int .i64 (sizeL (scanB b) : Int)]) ∧ rows.map (·.l) = scanB b ∧
  w'.ownsRow w.heap.size 39 1 (.slice A rows.length c) rows.length (rowsC rows) ∧ (∀ r ∈ rows, r.own w' ∧ ∀ j, r.bk = some j → w.heap.size ≤ j) ∧ Below w.heap.size w w'
/-- On the way. -/
structure ScanAt (w wr : World) (b : List UInt8) (g N : Nat) (rows : List RowM) (A : Option Addr) (c : Nat) (q : List UInt8) : Prop where
  rs : RestAt wr w.heap.size g q
  gw : g = w.heap.size
  gl : g < wr.heap.size
  nn : N = rows.length + 1
  l : rows.map (·.l) ++ scanF q.length N q = scanB b
  z : sizeL (rows.map (·.l)) + q.length = b.length
  o : wr.ownsRow w.heap.size 39 1 (.slice A rows.length c) rows.length (rowsC rows)
  go : ∀ j, A.map (·.block) = some j → g < j
  r : ∀ r ∈ rows, r.own wr ∧ ∀ j, r.bk = some j → g < j
  v : Below w.heap.size w wr
theorem ScanAt.fin {w wr W : World} {b : List UInt8} {g N : Nat} {rows : List RowM} {A : Option Addr} {c : Nat} {q : List UInt8} (h : ScanAt w wr b g N rows A c q) (hs : stepR N q = none) (k : Keeps (· = g) wr W) (z : Int) (hz : z = sizeL (rows.map (·.l))) : ScanPost w b (.returned (.tuple #[.slice A rows.length c, .int .i64 z])) W := by
  have he : rows.map (·.l) = scanB b := by
    have h1 := h.l
    rw [scanF_end hs, List.append_nil] at h1
    exact h1
  subst hz
  refine ⟨rows, A, c, by rw [← he], he, own_keep h.o k (fun j hj e => ?_), fun r hr => ⟨RowM.keep (h.r r hr).1 k (fun j hj e => by have := (h.r r hr).2 j hj; omega), fun j hj => by have := (h.r r hr).2 j hj; have := h.gw; omega⟩, h.v.trans (k.below h.v.size (fun j hj e => by have := h.gw; omega))⟩
  have := h.go j (by rw [own_blkD] at hj; exact hj)
  omega
/-- One batch more. -/
theorem ScanAt.next {w wr w2 w4 w8 : World} {b : List UInt8} {g N : Nat} {rows : List RowM} {A A8 A9 : Option Addr} {c c8 c9 : Nat} {q q2 x : List UInt8} (h : ScanAt w wr b g N rows A c q) (hs : stepR N q = some (x, q2)) (k : Keeps (· = g) wr w2) (hr2 : RestAt w2 w.heap.size g q2)
    (v4 : Below w2.heap.size w2 w4) (ho9 : (⟨A9, c9, x⟩ : RowM).own w4) (hb9 : ∀ j, (⟨A9, c9, x⟩ : RowM).bk = some j → w2.heap.size ≤ j) (cs : Array Value) (t : TypeId)
    (ho8 : w8.ownsRow w.heap.size 39 1 (.slice A8 (rows.length + 1) c8) (rows.length + 1) (rowsC rows ++ [.slice A9 x.length c9])) (hg8 : (w4.alloc (.cells cs t)).grownBy w8 (Value.slice A rows.length c).ownBlock)
    (hat : (Value.slice A8 (rows.length + 1) c8).ownBlock = (Value.slice A rows.length c).ownBlock ∨ (Value.slice A8 (rows.length + 1) c8).ownBlock = some (w4.alloc (.cells cs t)).heap.size) : ScanAt w w8 b g (N + 1) (rows ++ [⟨A9, c9, x⟩]) A8 c8 q2 := by
  have hgw := h.gw
  have hgl := h.gl
  have hkz := k.size
  have hz4 := v4.size
  have b2 : Below w.heap.size w w2 := h.v.trans (k.below h.v.size (fun j hj e => by omega))
  have ho2 := own_keep h.o k (fun j hj e => by have := h.go j (by rw [own_blkD] at hj; exact hj); omega)
  have ho4 := own_keep ho2 (Keeps.of_below v4 (fun _ => False)) (fun _ _ h => h)
  have hgo : ∀ j, (Value.slice A rows.length c).ownBlock = some j → g < j := fun j hj => h.go j (by rw [own_blkD] at hj; exact hj)
  have k4 : Keeps (fun _ => False) w4 (w4.alloc (.cells cs t)) := (Keeps.refl _ w4).alloc _
  have k8 : Keeps (fun j => (Value.slice A rows.length c).ownBlock = some j) w4 w8 := Keeps.grown ((Keeps.refl _ w4).alloc _) hg8 (fun j hj => hj)
  have b8 : Below (g + 1) w4 w8 := ⟨k8.os, k8.tape, k8.output, k8.size, fun j hj => k8.block j (by omega) (fun e => by have := hgo j e; omega)⟩
  have b28 : Below (g + 1) w2 w8 := (v4.mono (by omega)).trans b8
  have hs8 := k8.size
  have hapart : ∀ {r : RowM}, r.own w4 → ∀ j, r.bk = some j → ¬ (Value.slice A rows.length c).ownBlock = some j := fun hr j hj => own_apart hr ho4 (by decide) j (by rw [RowM.v, own_blkD]; exact hj)
  refine ⟨hr2.below b28, hgw, by omega, by have := h.nn; rw [List.length_append]; show _ = _ + 1 + 1; omega, ?_, ?_, ?_, ?_, ?_, ?_⟩
  · rw [List.map_append, List.append_assoc]
    have h1 := h.l
    rw [scanF_step hs] at h1
    exact h1
  · rw [List.map_append]
    show sizeL (_ ++ [x]) + _ = _
    rw [sizeL_snoc]
    have := h.z
    have := (stepR_some hs).2.2
    omega
  · rw [rowsC_snoc, List.length_append]
    exact ho8
  · intro j hj
    rcases hat with e | e
    · exact hgo j (by rw [← e, own_blkD]; exact hj)
    · rw [own_blkD] at e
      rw [hj] at e
      injection e with e
      rw [e, World.size_alloc]
      omega
  · intro r hr
    rcases List.mem_append.1 hr with hr | hr
    · have h1 := h.r r hr
      have h2 : r.own w2 := RowM.keep h1.1 k (fun j hj e => by have := h1.2 j hj; omega)
      have h4 : r.own w4 := RowM.keep h2 (Keeps.of_below v4 (fun _ => False)) (fun _ _ h => h)
      exact ⟨RowM.keep h4 k8 (fun j hj e => hapart h4 j hj e), h1.2⟩
    · rw [List.mem_singleton.1 hr]
      exact ⟨RowM.keep ho9 k8 (fun j hj e => hapart ho9 j hj e), fun j hj => by have := hb9 j hj; omega⟩
  · exact b2.trans (b28.mono (by omega))
theorem sizeL_len (L : List (List UInt8)) : 20 * L.length ≤ sizeL L := by
  induction L with
  | nil => exact Nat.zero_le _
  | cons x L ih =>
    have e : sizeL (x :: L) = (20 + x.length) + sizeL L := by unfold sizeL; rw [List.map_cons, List.sum_cons]
    rw [e, List.length_cons]; omega

set_option maxHeartbeats 4000000 in
set_option maxRecDepth 100000 in
theorem scan_any (w : World) (hT : Tabs w) (A : Option Addr) (c : Nat) (b : List UInt8) (hS : Sees w w.heap.size A b) (hc : b.length ≤ c) (hm : c ≤ maxLen) (hl : b.length ≤ 100000000) : Calls Tryd.prog 19 #[.slice A b.length c] w (ScanPost w b) := by
  have HT := Lib.hid hT
  have HS := Lib.hid hS
  have HC := Lib.hid hc
  have HM := Lib.hid hm
  have HL := Lib.hid hl
  clear hT hS hc hm hl
  go_enter Tryd.func19, Tryd.ntmps19
  go_wp2
  go_step3
  go_wp2_with (first
    | (go_at_call 44; refine (records_any w A c b HS.out HC.out HM.out).mono ?_; rintro e w1 ⟨g, rfl, hg, hr, hb⟩; have HG : Hid (g = w.heap.size) := hg; have R1 := Lib.hid hr; have V1 := Lib.hid hb; clear hg hr hb))
  go_step3
  go_wp2
  have SA0 : Hid (ScanAt w w1 b g 1 [] none 0 b) := ⟨R1.out, HG.out, (by obtain ⟨_, _, _, h, _⟩ := R1.out; exact h.lt), rfl, rfl, by show sizeL [] + _ = _; simp [sizeL], World.ownsRow_nil _ _ _ _, fun j h => (by cases h), fun r h => (by cases h), V1.out⟩
  clear R1 V1
  go_loopw [2, 3, 5] (fun bv sv nv wr => ∃ (rows : List RowM) (A1 : Option Addr) (c1 N z : Nat) (q : List UInt8), bv = .slice A1 rows.length c1 ∧ sv = .int .i64 (z : Int) ∧ nv = .int .u64 (N : Int) ∧ z + q.length = b.length ∧ Hid (z = sizeL (rows.map (·.l))) ∧ Hid (ScanAt w wr b g N rows A1 c1 q)) (fun _ sv _ _ => b.length - (intOf sv).toNat)
  case atStart => exact ⟨[], none, 0, 1, 0, b, rfl, rfl, rfl, by omega, rfl, SA0.out⟩
  case round =>
    obtain ⟨rows, A1, c1, N, z, q, rfl, rfl, rfl, hz, HZ, SA⟩ := hrel
    clear SA0
    have hql : q.length ≤ 100000000 := by have := HL.out; omega
    have hnx := next_any wr w.heap.size g q SA.out.rs (by omega)
    unfold NextPost at hnx
    have HLb : Hid (b.length ≤ 100000000) := HL.out
    have HN20 : Hid (20 * rows.length ≤ b.length) := by show _ ≤ _; have := sizeL_len (rows.map (·.l)); rw [List.length_map] at this; have := SA.out.z; omega
    cases hn : nextR q with
    | none =>
      rw [hn] at hnx
      have HBad : Hid (stepR N q = none) := by show _ = _; unfold stepR; rw [hn]
      clear hn
      go_wp2_with (first
        | (go_at_call 63; refine hnx.mono ?_; rintro e w2 ⟨rfl, hk⟩; have K2 := Lib.hid hk; clear hk))
      rw [Exit.noGoto_ret]
      go_ret2
      exact SA.out.fin HBad.out K2.out _ (by rw [HZ.out])
    | some p =>
      obtain ⟨r, q2⟩ := p
      rw [hn] at hnx
      dsimp only at hnx
      have hrl := nextR_len hn
      obtain ⟨x, hx⟩ : ∃ x, r.drop 20 = x := ⟨_, rfl⟩
      have hxl : x.length = r.length - 20 := by rw [← hx, List.length_drop]
      have Hx := Lib.hid hx
      have hr0 : ((r.length : Int) == 0) = false := beq_eq_false_iff_ne.2 (by omega)
      have hr1 : ¬ (r.length : Int) = 0 := by omega
      have hN63 : N < 18446744073709551616 := by have := SA.out.nn; have := HN20.out; have := HLb.out; omega
      have HNN := Lib.hid hN63
      have HRl := Lib.hid hrl
      go_upto_region 6 with (first
        | (go_at_call 63; refine hnx.mono ?_; rintro e w2 ⟨A3, c3, rfl, hs, hr, hk⟩; have K2 := Lib.hid hk; have S2 := Lib.hid hs; have R2 := Lib.hid hr; clear hk hs hr))
      have V2 : Hid (Below w.heap.size w w2) := SA.out.v.trans (K2.out.below SA.out.v.size (fun j hj e => by have := SA.out.gw; omega))
      have HBW : Hid (w.heap.size ≤ w2.heap.size) := V2.out.size
      obtain ⟨A4, hS4, hsl4⟩ := high_sliceW S2.out 20 hrl.1
      rw [hx] at hS4
      have q1 : ∀ wq, (Instr.slice 39 (.slice A3 r.length c3) (some (.int .i64 20)) none none).run Tryd.prog wq = .ok (.slice A4 (r.length - 20) (c3 - 20)) wq := hsl4
      rw [← hxl] at q1
      have S4 := Lib.hid hS4
      clear hS4 hsl4 hx hxl
      by_cases hlong : x.length ≤ 4194304
      · have hrec := record_any w2 (HT.out.later V2.out) N HNN.out A4 (c3 - 20) x (S4.out.s.more HBW.out) hlong S4.out.kc
        unfold OwnPost at hrec
        have S2a : Hid (Sees w2 w2.heap.size A3 r) := S2.out.s.more HBW.out
        by_cases hgood : r = recB N x
        · have HSt : Hid (stepR N q = some (x, q2)) := by
            show _ = _
            unfold stepR
            rw [hn]
            dsimp only
            rw [Hx.out, if_pos ⟨hlong, hgood⟩]
          have heq : (r == recB N x) = true := by rw [← hgood]; simp
          obtain ⟨R, hR⟩ : ∃ R, recB N x = R := ⟨_, rfl⟩
          rw [hR] at hrec heq
          have HLg := Lib.hid hlong
          have hsz : IntKind.i64.wrap ((z : Int) + (r.length : Int)) = ((z + r.length : Nat) : Int) := by rw [IntKind.wrap_i64]; have := HLb.out; omega
          have hnz : IntKind.u64.wrap ((N : Int) + 1) = ((N + 1 : Nat) : Int) := by rw [IntKind.wrap_u64]; have := SA.out.nn; have := HN20.out; have := HLb.out; omega
          clear hn hgood hR hrl hlong hN63
          obtain ⟨i0, hi, hz0, hz1, hz2⟩ := infoD Tryd.slInfo
          have HO2 : Hid (w2.ownsRow w.heap.size 39 1 (.slice A1 rows.length c1) rows.length (rowsC rows)) := own_keep SA.out.o K2.out (fun j hj e => by have := SA.out.go j (by rw [own_blkD] at hj; exact hj); omega)
          go_wp2_with (first
            | (go_at_call 36; refine hrec.mono ?_; rintro e w3 ⟨A5, c5, rfl, ho5, hb5⟩; have S5 : Hid (Sees w3 w3.heap.size A5 R) := Sees.own ho5; have V3 : Hid (Below w2.heap.size w2 w3) := hb5; clear ho5 hb5)
            | (go_at_call 45; refine (bequal_any w3 A3 A5 r.length c3 R.length c5 r R rfl rfl ((S2a.out.later V3.out).more V3.out.size) S5.out).mono ?_; rw [heq]; rintro e w3' ⟨rfl, hw3⟩; obtain rfl := hw3.symm)
            | (go_at_call 38; refine (bclone_any w3 w3.heap.size A4 x.length (c3 - 20) x rfl (((S4.out.s.more HBW.out).later V3.out).more V3.out.size) (by have := HLg.out; omega)).mono ?_; unfold ClonePostD; rintro e w4 ⟨⟨A9, c9, x9⟩, rfl, hx9, ho9, hn9, hb4⟩; obtain rfl : x9 = x := hx9; (have hv9 : RowM.v ⟨A9, c9, x9⟩ = .slice A9 x9.length c9 := rfl); rw [hv9]; clear hv9; have O9 := Lib.hid ho9; have N9 : Hid (∀ j, (⟨A9, c9, x9⟩ : RowM).bk = some j → w2.heap.size ≤ j) := fun j hj => Nat.le_trans V3.out.size (hn9 j hj); have V4 : Hid (Below w2.heap.size w2 w4) := nxTrD V3.out hb4; clear ho9 hn9 hb4; (have HO4 : Hid (w4.ownsRow w.heap.size 39 1 (.slice A1 rows.length c1) rows.length (rowsC rows)) := own_keep HO2.out (Keeps.of_below V4.out (fun _ => False)) (fun _ _ h => h)))
            | ((with_reducible show wpList _ _ _ (⟨some 30, _, _, _, _, _⟩ :: _) _ _); refine wpList_append_seesV rfl (.tmp 25) (.tmp 29) 43 rfl w.heap.size 39 i0 (.slice none 0 0) 1 24 Tryd.underlying43 hi hz0 hz1 hz2 rfl (by omega) (.slice A1 rows.length c1) rows.length (rowsC rows) rfl (HO4.out.alloc _) _ (some ⟨w4.heap.size, 0, none⟩) 1 1 [.slice A9 x9.length c9] rfl rfl (SeesV.blk (heap_alloc_new w4 (.cells #[.slice A9 x9.length c9] 39))) (fun u hu => by rw [List.mem_singleton.1 hu]; rfl) (by have := HN20.out; have := HLb.out; omega) (by have := HN20.out; have := HLb.out; omega) (by have := V4.out.size; have := HBW.out; rw [World.size_alloc]; omega) ?_; intro v8 w8 ho8 hg8 hat8; obtain ⟨A8, c8, rfl⟩ := own_form ho8; have SA8 := Lib.hid (SA.out.next HSt.out K2.out R2.out V4.out O9.out N9.out #[.slice A9 x9.length c9] 39 ho8 hg8 hat8); clear ho8 hg8 hat8))
          go_roundw
          case rel => exact ⟨rows ++ [⟨A9, c9, x9⟩], A8, c8, N + 1, z + r.length, q2, by rw [List.length_append]; rfl, rfl, rfl, by have := HRl.out; omega, by (show _ = sizeL _; rw [List.map_append]; show _ = sizeL (_ ++ [x9]); rw [sizeL_snoc, ← HZ.out]; have := HRl.out; have := congrArg List.length Hx.out; rw [List.length_drop] at this; omega), SA8⟩
          case measure => (have hq1 := HRl.out; simp [intOf] <;> omega)
        · have HBad : Hid (stepR N q = none) := by
            show _ = _
            unfold stepR
            rw [hn]
            dsimp only
            rw [if_neg]
            intro h
            rw [Hx.out] at h
            exact hgood h.2
          have heq : (r == recB N x) = false := beq_eq_false_iff_ne.2 hgood
          obtain ⟨R, hR⟩ : ∃ R, recB N x = R := ⟨_, rfl⟩
          rw [hR] at hrec heq
          clear hn hgood hR hrl hlong hN63
          go_wp2_with (first
            | (go_at_call 36; refine hrec.mono ?_; rintro e w3 ⟨A5, c5, rfl, ho5, hb5⟩; have S5 : Hid (Sees w3 w3.heap.size A5 R) := Sees.own ho5; have V3 : Hid (Below w2.heap.size w2 w3) := hb5; clear ho5 hb5)
            | (go_at_call 45; refine (bequal_any w3 A3 A5 r.length c3 R.length c5 r R rfl rfl ((S2a.out.later V3.out).more V3.out.size) S5.out).mono ?_; rw [heq]; rintro e w3' ⟨rfl, hw3⟩; obtain rfl := hw3.symm))
          rw [Exit.noGoto_ret]
          go_ret2
          exact SA.out.fin HBad.out (K2.out.trans (Keeps.of_below V3.out _)) _ (by rw [HZ.out])
      · have hrec := record_long w2 (N : Int) A4 x.length (c3 - 20) (by omega)
        have HBad : Hid (stepR N q = none) := by
          show _ = _
          unfold stepR
          rw [hn]
          dsimp only
          rw [if_neg]
          intro h
          rw [Hx.out] at h
          exact hlong h.1
        have hne : (r == ([] : List UInt8)) = false := by
          cases r with
          | nil => exact absurd hrl.1 (by decide)
          | cons a t => rfl
        clear hn
        go_wp2_with (first
          | (go_at_call 36; refine hrec.mono ?_; rintro e w3 ⟨rfl, hw3⟩; obtain rfl := hw3.symm)
          | (go_at_call 45; refine (bequal_any w2 A3 none r.length c3 0 0 r [] rfl rfl (S2.out.s.more HBW.out) (.inl rfl)).mono ?_; rw [hne]; rintro e w3 ⟨rfl, hw3⟩; obtain rfl := hw3.symm))
        rw [Exit.noGoto_ret]
        go_ret2
        exact SA.out.fin HBad.out K2.out _ (by rw [HZ.out])
end Go.Proofs.YthamlphebnhcpaaDoor
