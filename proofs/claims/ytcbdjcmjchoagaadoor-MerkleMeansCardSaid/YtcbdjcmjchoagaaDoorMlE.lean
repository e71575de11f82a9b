/-
  merkle, plainly: two trails of one length that end in one hash: at the first place where the hashes are the same the texts are unlike. · merkle: what Collide tells.
-/
import Derived.Test.YtcbdjcmjchoagaaDoorMlD
namespace Go.Proofs.YtcbdjcmjchoagaaDoor
open Go.RowKit

theorem tagB_cancel {nm : ByteArray} {l m : List UInt8} (h : tagB nm l = tagB nm m) : l = m := by
  unfold tagB at h
  exact List.append_cancel_left h
/-- Two rows of texts, of which each is unlike the other's if the hashes below are. -/
def Unlike (T U : List (ByteArray × List UInt8)) : Prop := T.length = U.length ∧ ∀ i (h1 : i < T.length) (h2 : i < U.length), (∀ j (g1 : j < T.length) (g2 : j < U.length), j < i → hashT T[j] ≠ hashT U[j]) → tagB T[i].1 T[i].2 ≠ tagB U[i].1 U[i].2
theorem hashT_knot (a b : List UInt8) : hashT (nmKnot, a ++ b) = knotB a b := by unfold hashT knotB; rfl
theorem hashT_leaf (a : List UInt8) : hashT (nmLeaf, a) = leafB a := by unfold hashT leafB; rfl
theorem Unlike.cons {T U : List (ByteArray × List UInt8)} {nm : ByteArray} {l m : List UInt8} (hlm : l ≠ m) (h : hashT (nm, l) ≠ hashT (nm, m) → Unlike T U) (hl : T.length = U.length) : Unlike ((nm, l) :: T) ((nm, m) :: U) := by
  refine ⟨by simpa using hl, fun i h1 h2 hb => ?_⟩
  cases i with
  | zero => exact fun e => hlm (tagB_cancel e)
  | succ i =>
    have hd := hb 0 (by simp) (by simp) (by omega)
    have hu := h hd
    simp only [List.length_cons] at h1 h2
    exact hu.2 i (by omega) (by omega) (fun j g1 g2 hj => hb (j + 1) (by simp; omega) (by simp; omega) (by omega))
theorem Unlike.one {nm : ByteArray} {l m : List UInt8} (h : l ≠ m) : Unlike [(nm, l)] [(nm, m)] := by
  refine ⟨rfl, fun i h1 h2 hb => ?_⟩
  have h0 : i = 0 := by simp at h1; omega
  subst h0
  exact fun e => h (tagB_cancel e)
theorem trR_same_len (x y : List UInt8) (n c : Nat) (hs gs : List (List UInt8)) : (trR x n c hs).length = (trR y n c gs).length := by
  induction hm : c using Nat.strongRecOn generalizing x y n c hs gs with
  | ind m ih =>
    subst hm
    by_cases h : c ≤ 1
    · rw [trR_one h, trR_one h]
    · by_cases ha : aloneB n c = true
      · rw [trR_alone h ha, trR_alone h ha]; exact ih _ (by omega) _ _ _ _ _ _ rfl
      · by_cases he : n % 2 = 0
        · rw [trR_even h ha he, trR_even h ha he, List.length_cons, List.length_cons]; rw [ih _ (by omega) _ _ _ _ _ _ rfl]
        · rw [trR_odd h ha he, trR_odd h ha he, List.length_cons, List.length_cons]; rw [ih _ (by omega) _ _ _ _ _ _ rfl]
theorem ldR_even' {x : List UInt8} {n c : Nat} {hs : List (List UInt8)} (h : ¬ c ≤ 1) (ha : ¬ aloneB n c = true) (he : n % 2 = 0) : ldR knotB x n c hs = ldR knotB (knotB x (hs.getD 0 default)) (n / 2) ((c + 1) / 2) (hs.drop 1) := by rw [ldR_step knotB h]; unfold stX stH; rw [if_neg ha, if_pos he, if_neg ha]
theorem ldR_odd' {x : List UInt8} {n c : Nat} {hs : List (List UInt8)} (h : ¬ c ≤ 1) (ha : ¬ aloneB n c = true) (he : ¬ n % 2 = 0) : ldR knotB x n c hs = ldR knotB (knotB (hs.getD 0 default) x) (n / 2) ((c + 1) / 2) (hs.drop 1) := by rw [ldR_step knotB h]; unfold stX stH; rw [if_neg ha, if_neg he, if_neg ha]
theorem ldR_alone' {x : List UInt8} {n c : Nat} {hs : List (List UInt8)} (h : ¬ c ≤ 1) (ha : aloneB n c = true) : ldR knotB x n c hs = ldR knotB x (n / 2) ((c + 1) / 2) hs := by rw [ldR_step knotB h]; unfold stX stH; rw [if_pos ha, if_pos ha]
theorem tr_unlike (z : List UInt8) (x y : List UInt8) (hx : x.length = y.length) (hxy : x ≠ y) (n c : Nat) (hs gs : List (List UInt8)) :
    Unlike (trR x n c hs ++ [(nmRoot, z ++ ldR knotB x n c hs)]) (trR y n c gs ++ [(nmRoot, z ++ ldR knotB y n c gs)]) := by
  induction hm : c using Nat.strongRecOn generalizing x y n c hs gs with
  | ind m ih =>
    subst hm
    by_cases h : c ≤ 1
    · rw [trR_one h, trR_one h, ldR_one knotB h, ldR_one knotB h]
      exact Unlike.one fun e => hxy (List.append_cancel_left e)
    · by_cases ha : aloneB n c = true
      · rw [trR_alone h ha, trR_alone h ha, ldR_alone' h ha, ldR_alone' h ha]; exact ih _ (by omega) _ _ hx hxy _ _ _ _ rfl
      · by_cases he : n % 2 = 0
        · rw [trR_even h ha he, trR_even h ha he, ldR_even' h ha he, ldR_even' h ha he, List.cons_append, List.cons_append]
          refine Unlike.cons (fun e => hxy (List.append_inj e hx).1) (fun hne => ?_) ?_
          · rw [hashT_knot, hashT_knot] at hne
            exact ih _ (by omega) (knotB x (hs.getD 0 default)) (knotB y (gs.getD 0 default)) (by rw [knotB_len, knotB_len]) hne _ _ _ _ rfl
          · rw [List.length_append, List.length_append, trR_same_len _ (knotB y (gs.getD 0 default)) _ _ _ (gs.drop 1), List.length_singleton, List.length_singleton]
        · rw [trR_odd h ha he, trR_odd h ha he, ldR_odd' h ha he, ldR_odd' h ha he, List.cons_append, List.cons_append]
          refine Unlike.cons (fun e => hxy (List.append_inj' e hx).2) (fun hne => ?_) ?_
          · rw [hashT_knot, hashT_knot] at hne
            exact ih _ (by omega) (knotB (hs.getD 0 default) x) (knotB (gs.getD 0 default) y) (by rw [knotB_len, knotB_len]) hne _ _ _ _ rfl
          · rw [List.length_append, List.length_append, trR_same_len _ (knotB (gs.getD 0 default) y) _ _ _ (gs.drop 1), List.length_singleton, List.length_singleton]
/-- Two trails of unlike hashes. -/
theorem trail_unlike {x y : List UInt8} (hx : x.length = y.length) (hxy : x ≠ y) (n c : Nat) (hs gs : List (List UInt8)) : Unlike (trailL x n c hs) (trailL y n c gs) := by
  unfold trailL
  rw [List.cons_append, List.cons_append]
  refine Unlike.cons hxy (fun hne => ?_) ?_
  · rw [hashT_leaf, hashT_leaf] at hne
    exact tr_unlike (le8 c) (leafB x) (leafB y) (by rw [leafB_len, leafB_len]) hne n c hs gs
 
  · rw [List.length_append, List.length_append, trR_same_len _ (leafB y) _ _ _ gs, List.length_singleton, List.length_singleton]
/-- The last hash of a trail is what it leads to. -/
theorem trail_last {x : List UInt8} {n c : Nat} {hs : List (List UInt8)} (hn : n < c) (hl : hs.length = szH n c) : ∃ h : (trailL x n c hs).length - 1 < (trailL x n c hs).length, hashT (trailL x n c hs)[(trailL x n c hs).length - 1] = leadB x n c hs := by
  have e : (trailL x n c hs).length = ((nmLeaf, x) :: trR (leafB x) n c hs).length + 1 := by unfold trailL; rw [List.length_append, List.length_singleton]
  refine ⟨by omega, ?_⟩
  have e2 : (trailL x n c hs)[(trailL x n c hs).length - 1]'(by omega) = (nmRoot, le8 c ++ ldR knotB (leafB x) n c hs) := by
    unfold trailL
    simp
  rw [e2, leadB, ← ld_eq knotB (leafB x) n c hs hn hl, hashT]
/-- A path of a row's place leads to its root. -/
theorem lead_beside {n : Nat} {ids : List (List UInt8)} (hn : n < ids.length) : leadB (ids[n]) n ids.length (besideL n ids) = rootL ids := by
  have h1 : (besideL n ids).length = szH n ids.length := by
    rw [← besR_beside hn, besR_len, List.length_map, sz_eq n _ hn]
  have h2 := ldR_path knotB n (ids.map leafB) (by simpa using hn)
  rw [List.length_map, besR_beside hn] at h2
  have h3 : (ids.map leafB).getD n default = leafB ids[n] := by simp [hn]
  rw [h3] at h2
  rw [leadB, ← ld_eq knotB _ n _ _ hn h1, h2, ← rootL_some (by omega)]
  rfl
theorem beside_sz {n : Nat} {ids : List (List UInt8)} (hn : n < ids.length) : (besideL n ids).length = szH n ids.length := by
  rw [← besR_beside hn, besR_len, List.length_map, sz_eq n _ hn]
theorem le8_inj {a b : Nat} (ha : a < 18446744073709551616) (hb : b < 18446744073709551616) (h : le8 a = le8 b) : a = b := by
  have hk : ∀ k, k < 8 → a / 256 ^ k % 256 = b / 256 ^ k % 256 := by
    intro k hk
    have := congrArg (fun l => (l.getD k 0).toNat) h
    simp only [le8, List.getD_eq_getElem?_getD, List.getElem?_map, List.getElem?_range hk, Option.map_some, Option.getD_some, UInt8.toNat_ofNat'] at this
    exact this
  have hm : ∀ k, k ≤ 8 → a % 256 ^ k = b % 256 ^ k := by
    intro k
    induction k with
    | zero => intro _; simp [Nat.mod_one]
    | succ k ih => intro h; rw [Nat.mod_pow_succ, Nat.mod_pow_succ, ih (by omega), hk k (by omega)]
  have h8 := hm 8 (by omega)
  rw [Nat.mod_eq_of_lt (by simpa using ha), Nat.mod_eq_of_lt (by simpa using hb)] at h8
  exact h8
theorem getD_32 {hs : List (List UInt8)} (h : All32 hs) : (hs.getD 0 default).length ≤ 32 := by
  cases hs with
  | nil => show ([] : List UInt8).length ≤ 32; simp
  | cons a r => have := h a (by simp); simp; omega
theorem tr_fit (x : List UInt8) (hx : x.length = 32) (n c : Nat) (hs : List (List UInt8)) (h32 : All32 hs) : FitT (trR x n c hs) := by
  induction hm : c using Nat.strongRecOn generalizing x n c hs with
  | ind m ih =>
    subst hm
    have hg := getD_32 h32
    have hk := nm_le.2.1
    by_cases h : c ≤ 1
    · rw [trR_one h]; intro t ht; cases ht
    · by_cases ha : aloneB n c = true
      · rw [trR_alone h ha]; exact ih _ (by omega) _ hx _ _ _ h32 rfl
      · by_cases he : n % 2 = 0
        · rw [trR_even h ha he]
          intro t ht
          rcases List.mem_cons.1 ht with rfl | ht
          · refine ⟨hk, ?_⟩; show (x ++ hs.getD 0 default).length ≤ 10000; rw [List.length_append]; omega
          · exact ih _ (by omega) _ (knotB_len _ _) _ _ _ (h32.drop 1) rfl t ht
        · rw [trR_odd h ha he]
          intro t ht
          rcases List.mem_cons.1 ht with rfl | ht
          · refine ⟨hk, ?_⟩; show (hs.getD 0 default ++ x).length ≤ 10000; rw [List.length_append]; omega
          · exact ih _ (by omega) _ (knotB_len _ _) _ _ _ (h32.drop 1) rfl t ht
theorem trail_fit {x : List UInt8} (hx : x.length = 32) {n c : Nat} {hs : List (List UInt8)} (hn : n < c) (hl : hs.length = szH n c) (h32 : All32 hs) : FitT (trailL x n c hs) := by
  intro t ht
  unfold trailL at ht
  rcases List.mem_append.1 ht with ht | ht
  · rcases List.mem_cons.1 ht with rfl | ht
    · exact ⟨nm_le.1, by show x.length ≤ 10000; omega⟩
    · exact tr_fit _ (leafB_len x) _ _ _ h32 t ht
  · obtain rfl := List.mem_singleton.1 ht
    refine ⟨nm_le.2.2, ?_⟩
    show (le8 c ++ ldR knotB (leafB x) n c hs).length ≤ 10000
    rw [List.length_append, le8_len, ld_eq knotB (leafB x) n c hs hn hl, ldH_len _ _ _ _ (leafB_len x)]
    omega
theorem trail_len (x : List UInt8) (n c : Nat) (hs : List (List UInt8)) : (trailL x n c hs).length ≤ c + 2 := by
  have := trR_len (leafB x) n c hs
  unfold trailL
  simp only [List.length_append, List.length_cons, List.length_nil]
  omega
end Go.Proofs.YtcbdjcmjchoagaaDoor
namespace Go.Proofs.YtcbdjcmjchoagaaDoor
open Go.RowKit

/-- Two unlike texts of one hash are told. -/
def ToldPost (w : World) (e : Ending) (w' : World) : Prop := Below w.heap.size w w' ∧ ∃ (a b : List UInt8) (A B : Option Addr) (x y : Nat), a ≠ b ∧ shaB a = shaB b ∧ a.length ≤ 20000 ∧ b.length ≤ 20000 ∧ e = .returned (.tuple #[.slice A a.length x, .slice B b.length y, .bool true]) ∧ a.length ≤ x ∧ b.length ≤ y ∧ Sees w' w'.heap.size A a ∧ Sees w' w'.heap.size B b
/-- Nothing is told. -/
def NonePost (w : World) (e : Ending) (w' : World) : Prop := Below w.heap.size w w' ∧ e = .returned (.tuple #[.slice none 0 0, .slice none 0 0, .bool false])
theorem tagB_le {nm : ByteArray} {l : List UInt8} (h : nm.size ≤ 200) (hl : l.length ≤ 10000) : (tagB nm l).length ≤ 20000 := by
  simp only [tagB, List.length_append, List.length_cons, nmL_length]; omega
theorem meet_told (w : World) (hT : Tabs w) (A B : Option Addr) (n c m d : Nat) (T U : List (ByteArray × List UInt8)) (hn : n = T.length) (hm : m = U.length) (hc : n ≤ c) (hd : m ≤ d) (vs us : List Value) (ra rb : Option Nat) (a b : Nat) (hs : SeesV w w.heap.size A vs) (hu : SeesV w w.heap.size B us) (hx : TxV w ra a T vs) (hy : TxV w rb b U us) (fT : FitT T) (fU : FitT U) (hmax : n ≤ 2097152) (mmax : m ≤ 2097152)
    (hun : Unlike T U) (hl : ∃ (i : Nat) (h1 : i < T.length) (h2 : i < U.length), hashT T[i] = hashT U[i]) :
    Calls Tryd.prog 39 #[.slice A n c, .slice B m d] w (ToldPost w) := by
  refine (meet_any w hT A B n c m d T U hn hm hc hd vs us ra rb a b hs hu hx hy fT fU hmax mmax).mono fun e w' hp => ?_
  rcases hp with ⟨hb, ⟨i, h1, h2, P, Q, x, y, hf, he, rfl, hx', hy', hsP, hsQ⟩ | ⟨hno, _⟩⟩
  · refine ⟨hb, tagB T[i].1 T[i].2, tagB U[i].1 U[i].2, P, Q, x, y, hun.2 i h1 h2 hf, he, ?_, ?_, rfl, hx', hy', hsP, hsQ⟩
    · have := fT _ (List.getElem_mem h1); exact tagB_le this.1 this.2
    · have := fU _ (List.getElem_mem h2); exact tagB_le this.1 this.2
  · obtain ⟨i, h1, h2, h⟩ := hl
    exact absurd h (hno i h1 h2)
/-- Does Collide tell? -/
def collB (id : List UInt8) (n c : Int) (hs ids : List (List UInt8)) : Bool := checkB (rootL ids) id n c hs && !(decide (c = (ids.length : Int)) && (ids.getD n.toNat default == id))
/-- What is known where a path checks for the root. -/
theorem check_of {id : List UInt8} {n c : Int} {hs ids : List (List UInt8)} (h : checkB (rootL ids) id n c hs = true) : ∃ p q : Nat, n = p ∧ c = q ∧ p < q ∧ q ≤ 1048576 ∧ hs.length = szH p q ∧ leadB id p q hs = rootL ids := by
  rw [checkB, Bool.and_eq_true] at h
  obtain ⟨⟨h0, h1, h2⟩, h3⟩ := may_of h.1
  refine ⟨n.toNat, c.toNat, by omega, by omega, by omega, by omega, h3, eq_of_beq h.2⟩
/-- The texts of roots of unlike counts. -/
theorem root_texts {p q : Nat} {id : List UInt8} {hs ids : List (List UInt8)} (hpq : p < q) (hq : q ≤ 1048576) (hi : ids.length ≤ 1048576) (hsz : hs.length = szH p q) (hl : leadB id p q hs = rootL ids) (hne : q ≠ ids.length) :
    tagB nmRoot (le8 q ++ ldR knotB (leafB id) p q hs) ≠ tagB nmRoot (le8 ids.length ++ (topR knotB (ids.map leafB)).flatten) ∧ shaB (tagB nmRoot (le8 q ++ ldR knotB (leafB id) p q hs)) = shaB (tagB nmRoot (le8 ids.length ++ (topR knotB (ids.map leafB)).flatten)) := by
  refine ⟨fun e => ?_, ?_⟩
  · have h := (List.append_inj (tagB_cancel e) (by rw [le8_len, le8_len])).1
    exact hne (le8_inj (by omega) (by omega) h)
  · rw [leadB, ← ld_eq knotB (leafB id) p q hs hpq hsz, rootL, rootB] at hl
    exact hl
theorem top_le (ids : List (List UInt8)) : (topR knotB (ids.map leafB)).flatten.length ≤ 32 := by
  by_cases h : ids = []
  · subst h; rw [List.map_nil, topR_short (by simp)]; simp
  · have hne : ids.map leafB ≠ [] := by simpa using h
    rw [topR_eq knotB _ hne]
    have := topH_len (ids.map leafB) hne (by intro z hz; obtain ⟨q, _, rfl⟩ := List.mem_map.1 hz; exact leafB_len q)
    simp [this]
end Go.Proofs.YtcbdjcmjchoagaaDoor
