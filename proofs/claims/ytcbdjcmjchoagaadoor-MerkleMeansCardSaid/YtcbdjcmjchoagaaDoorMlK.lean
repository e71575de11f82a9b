/-
  merkle: Collide whole, and the law's told.
-/
import Derived.Test.YtcbdjcmjchoagaaDoorMlG
import Derived.Test.YtcbdjcmjchoagaaDoorRSum
import Derived.Test.YtcbdjcmjchoagaaDoorMlA
namespace Go.Proofs.YtcbdjcmjchoagaaDoor
open Go.RowKit

theorem coll_yes (w : World) (hT : Tabs w) (id : List UInt8) (n c : Int) (A : Option Addr) (m d : Nat) (hs : List (List UInt8)) (B : Option Addr) (k f : Nat) (ids : List (List UInt8)) (hid : id.length = 32) (hm : m = hs.length) (hd : m ≤ d) (h32 : All32 hs) (hS : SeesV w w.heap.size A (Hs hs)) (hk : k = ids.length) (i32 : All32 ids) (iS : SeesV w w.heap.size B (Hs ids)) (hmax : k ≤ 1048576) (h : collB id n c hs ids = true) : Calls Tryd.prog 22 #[.agg (By id).toArray, .agg (PathZ n c A m d), .slice B k f] w (ToldPost w) := by
  rw [collB, Bool.and_eq_true] at h
  obtain ⟨p, q, rfl, rfl, hpq, hq, hsz, hld⟩ := check_of h.1
  by_cases hqk : q = ids.length
  · have hp : p < ids.length := by omega
    refine coll_other w hT id p q A m d hs B k f ids hid hm hd h32 hS hk i32 iS hmax hpq hq hsz hld hqk hp (fun e => ?_)
    have h2 := h.2
    rw [show decide ((q : Int) = (ids.length : Int)) = true from decide_eq_true (by rw [hqk]), Int.toNat_natCast, Bool.true_and, List.getD_eq_getElem?_getD, List.getElem?_eq_getElem hp, Option.getD_some, e, beq_self_eq_true] at h2
    cases h2
  · exact coll_count w hT id p q A m d hs B k f ids hid hm hd h32 hS hk i32 iS hmax hpq hq hsz hld hqk
theorem coll_no (w : World) (hT : Tabs w) (id : List UInt8) (n c : Int) (A : Option Addr) (m d : Nat) (hs : List (List UInt8)) (B : Option Addr) (k f : Nat) (ids : List (List UInt8)) (hid : id.length = 32) (hm : m = hs.length) (hd : m ≤ d) (h32 : All32 hs) (hS : SeesV w w.heap.size A (Hs hs)) (hk : k = ids.length) (i32 : All32 ids) (iS : SeesV w w.heap.size B (Hs ids)) (hmax : k ≤ 1048576) (h : collB id n c hs ids = false) : Calls Tryd.prog 22 #[.agg (By id).toArray, .agg (PathZ n c A m d), .slice B k f] w (NonePost w) := by
  cases hc : checkB (rootL ids) id n c hs with
  | false => exact coll_off w hT id n c A m d hs B k f ids hid hm hd h32 hS hk i32 iS hmax hc
  | true =>
    rw [collB, hc, Bool.true_and, Bool.not_eq_false', Bool.and_eq_true, decide_eq_true_eq] at h
    obtain ⟨p, q, rfl, rfl, hpq, hq, hsz, hld⟩ := check_of hc
    have hqk : q = ids.length := by have := h.1; omega
    have hp : p < ids.length := by omega
    refine coll_here w hT id p q A m d hs B k f ids hid hm hd h32 hS hk i32 iS hmax hpq hq hsz hld hqk hp ?_
    have h2 := h.2
    rw [Int.toNat_natCast, List.getD_eq_getElem?_getD, List.getElem?_eq_getElem hp, Option.getD_some] at h2
    exact eq_of_beq h2

set_option maxHeartbeats 2000000 in
set_option maxRecDepth 100000 in
theorem told_no (w : World) (hT : Tabs w) (id : List UInt8) (n c : Int) (A : Option Addr) (m d : Nat) (hs : List (List UInt8)) (B : Option Addr) (k f : Nat) (ids : List (List UInt8)) (hid : id.length = 32) (hm : m = hs.length) (hd : m ≤ d) (h32 : All32 hs) (hS : SeesV w w.heap.size A (Hs hs)) (hk : k = ids.length) (i32 : All32 ids) (iS : SeesV w w.heap.size B (Hs ids)) (hmax : k ≤ 1048576) (h : collB id n c hs ids = false) : Calls Tryd.prog 24 #[.agg (By id).toArray, .agg (PathZ n c A m d), .slice B k f] w fun e w' => e = .returned (.bool false) ∧ Below w.heap.size w w' := by
  have hA : Blk ((w.alloc (.cells (By id).toArray 32)).alloc (.cells (PathZ n c A m d) 25)) w.heap.size 32 (By id).toArray := (show Blk (w.alloc _) _ _ _ from heap_alloc_new w _).alloc _
  have hP : Blk ((w.alloc (.cells (By id).toArray 32)).alloc (.cells (PathZ n c A m d) 25)) (w.heap.size + 1) 25 (PathZ n c A m d) := Blk.newAt (by simp) rfl
  have hb0 : Below w.heap.size w ((w.alloc (.cells (By id).toArray 32)).alloc (.cells (PathZ n c A m d) 25)) := nxAlloc (nxAlloc (nxRefl w) _) _
  have HS : Hid (SeesV ((w.alloc (.cells (By id).toArray 32)).alloc (.cells (PathZ n c A m d) 25)) ((w.alloc (.cells (By id).toArray 32)).alloc (.cells (PathZ n c A m d) 25)).heap.size A (Hs hs)) := ((hS.alloc _).alloc _).size
  have IS : Hid (SeesV ((w.alloc (.cells (By id).toArray 32)).alloc (.cells (PathZ n c A m d) 25)) ((w.alloc (.cells (By id).toArray 32)).alloc (.cells (PathZ n c A m d) 25)).heap.size B (Hs ids)) := ((iS.alloc _).alloc _).size
  have hsz0 : w.heap.size + 2 = ((w.alloc (.cells (By id).toArray 32)).alloc (.cells (PathZ n c A m d) 25)).heap.size := by simp
  have HTb := Lib.hid (hT.later hb0)
  have HSI : Hid ((Tryd.prog.info? 32).map (·.size) = some (By id).length) := by have h := Tryd.hsizeB id hid; show _ = _; rw [h]; simp
  have HSP : Hid ((Tryd.prog.info? 25).map (·.size) = some [Value.int .i64 n, .int .i64 c, .slice A m d].length) := Tryd.psize
  have HRI := Lib.hid (blk_rng hA)
  have HRP := Lib.hid (blk_rng (vs := [Value.int .i64 n, .int .i64 c, .slice A m d]) hP)
  have Hb0 := Lib.hid hb0
  have Hs0 := Lib.hid hsz0
  have HL := Lib.hid hid
  have H32 := Lib.hid h32
  have I32 := Lib.hid i32
  have HM := Lib.hid hm
  have HK := Lib.hid hk
  have HD := Lib.hid hd
  have HMx := Lib.hid hmax
  clear hT hS iS hA hP hb0 hsz0 hid h32 i32 hm hk hd hmax
  have HC := Lib.hid h
  clear h
  go_enter Tryd.func24, Tryd.ntmps24
  go_wp2_with (first
    | ((with_reducible show wpList _ _ _ (⟨some 11, _, _, _, _, _⟩ :: _) _ _); change wpList _ _ _ _ _ ((w.alloc (.cells (By id).toArray 32)).alloc (.cells (PathZ n c A m d) 25)); refine wpList_load_mid rfl 32 (.tmp 3) rfl w.heap.size 0 rfl (By id) _ HRI.out Tryd.underlying32 rfl HSI.out ?_)
    | ((with_reducible show wpList _ _ _ (⟨some 12, _, _, _, _, _⟩ :: _) _ _); change wpList _ _ _ _ _ ((w.alloc (.cells (By id).toArray 32)).alloc (.cells (PathZ n c A m d) 25)); refine wpList_load_mid rfl 25 (.tmp 4) rfl (w.heap.size + 1) 0 rfl [Value.int .i64 n, .int .i64 c, .slice A m d] _ HRP.out Tryd.underlying25 rfl HSP.out ?_)
    | (go_at_call 22; refine (coll_no ((w.alloc (.cells (By id).toArray 32)).alloc (.cells (PathZ n c A m d) 25)) HTb.out id n c A m d hs B k f ids HL.out HM.out HD.out H32.out HS.out HK.out I32.out IS.out HMx.out HC.out).mono ?_; rintro e w3 ⟨hb3, rfl⟩; have Hb3 : Hid (Below w.heap.size w w3) := nxTo Hb0.out hb3; clear hb3))
  go_ret
  exact ⟨rfl, Hb3.out⟩

set_option maxHeartbeats 2000000 in
set_option maxRecDepth 100000 in
theorem told_yes (w : World) (hT : Tabs w) (id : List UInt8) (n c : Int) (A : Option Addr) (m d : Nat) (hs : List (List UInt8)) (B : Option Addr) (k f : Nat) (ids : List (List UInt8)) (hid : id.length = 32) (hm : m = hs.length) (hd : m ≤ d) (h32 : All32 hs) (hS : SeesV w w.heap.size A (Hs hs)) (hk : k = ids.length) (i32 : All32 ids) (iS : SeesV w w.heap.size B (Hs ids)) (hmax : k ≤ 1048576) (h : collB id n c hs ids = true) : Calls Tryd.prog 24 #[.agg (By id).toArray, .agg (PathZ n c A m d), .slice B k f] w fun e w' => e = .returned (.bool true) ∧ Below w.heap.size w w' := by
  have hA : Blk ((w.alloc (.cells (By id).toArray 32)).alloc (.cells (PathZ n c A m d) 25)) w.heap.size 32 (By id).toArray := (show Blk (w.alloc _) _ _ _ from heap_alloc_new w _).alloc _
  have hP : Blk ((w.alloc (.cells (By id).toArray 32)).alloc (.cells (PathZ n c A m d) 25)) (w.heap.size + 1) 25 (PathZ n c A m d) := Blk.newAt (by simp) rfl
  have hb0 : Below w.heap.size w ((w.alloc (.cells (By id).toArray 32)).alloc (.cells (PathZ n c A m d) 25)) := nxAlloc (nxAlloc (nxRefl w) _) _
  have HS : Hid (SeesV ((w.alloc (.cells (By id).toArray 32)).alloc (.cells (PathZ n c A m d) 25)) ((w.alloc (.cells (By id).toArray 32)).alloc (.cells (PathZ n c A m d) 25)).heap.size A (Hs hs)) := ((hS.alloc _).alloc _).size
  have IS : Hid (SeesV ((w.alloc (.cells (By id).toArray 32)).alloc (.cells (PathZ n c A m d) 25)) ((w.alloc (.cells (By id).toArray 32)).alloc (.cells (PathZ n c A m d) 25)).heap.size B (Hs ids)) := ((iS.alloc _).alloc _).size
  have hsz0 : w.heap.size + 2 = ((w.alloc (.cells (By id).toArray 32)).alloc (.cells (PathZ n c A m d) 25)).heap.size := by simp
  have HTb := Lib.hid (hT.later hb0)
  have HSI : Hid ((Tryd.prog.info? 32).map (·.size) = some (By id).length) := by have h := Tryd.hsizeB id hid; show _ = _; rw [h]; simp
  have HSP : Hid ((Tryd.prog.info? 25).map (·.size) = some [Value.int .i64 n, .int .i64 c, .slice A m d].length) := Tryd.psize
  have HRI := Lib.hid (blk_rng hA)
  have HRP := Lib.hid (blk_rng (vs := [Value.int .i64 n, .int .i64 c, .slice A m d]) hP)
  have Hb0 := Lib.hid hb0
  have Hs0 := Lib.hid hsz0
  have HL := Lib.hid hid
  have H32 := Lib.hid h32
  have I32 := Lib.hid i32
  have HM := Lib.hid hm
  have HK := Lib.hid hk
  have HD := Lib.hid hd
  have HMx := Lib.hid hmax
  clear hT hS iS hA hP hb0 hsz0 hid h32 i32 hm hk hd hmax
  have HC := Lib.hid h
  clear h
  go_enter Tryd.func24, Tryd.ntmps24
  go_wp2_with (first
    | ((with_reducible show wpList _ _ _ (⟨some 11, _, _, _, _, _⟩ :: _) _ _); change wpList _ _ _ _ _ ((w.alloc (.cells (By id).toArray 32)).alloc (.cells (PathZ n c A m d) 25)); refine wpList_load_mid rfl 32 (.tmp 3) rfl w.heap.size 0 rfl (By id) _ HRI.out Tryd.underlying32 rfl HSI.out ?_)
    | ((with_reducible show wpList _ _ _ (⟨some 12, _, _, _, _, _⟩ :: _) _ _); change wpList _ _ _ _ _ ((w.alloc (.cells (By id).toArray 32)).alloc (.cells (PathZ n c A m d) 25)); refine wpList_load_mid rfl 25 (.tmp 4) rfl (w.heap.size + 1) 0 rfl [Value.int .i64 n, .int .i64 c, .slice A m d] _ HRP.out Tryd.underlying25 rfl HSP.out ?_)
    | (go_at_call 22; refine (coll_yes ((w.alloc (.cells (By id).toArray 32)).alloc (.cells (PathZ n c A m d) 25)) HTb.out id n c A m d hs B k f ids HL.out HM.out HD.out H32.out HS.out HK.out I32.out IS.out HMx.out HC.out).mono ?_; rintro e w3 ⟨hb3, a, b, P, Q, x, y, hne, heqs, hla, hlb, rfl, hx, hy, hsa, hsb⟩; have Hb3 : Hid (Below w.heap.size w w3) := nxTo Hb0.out hb3; have hab : (a == b) = false := beq_eq_false_iff_ne.2 hne; have qa : (convert 47 9 (.slice P a.length x)).run Tryd.prog w3 = .ok (.string (Str a)) w3 := run_string_sees Tryd.underlying47 Tryd.underlying5 Tryd.underlying9 rfl hsa; have qb : (convert 47 9 (.slice Q b.length y)).run Tryd.prog w3 = .ok (.string (Str b)) w3 := run_string_sees Tryd.underlying47 Tryd.underlying5 Tryd.underlying9 rfl hsb; obtain ⟨z, hz⟩ : ∃ z, shaB a = z := ⟨_, rfl⟩; have HZa := Lib.hid hz; have HZb : Hid (shaB b = z) := (heqs.symm.trans hz); have qe := eql_same z (by rw [← hz]; exact shaB_length a); have HLa := Lib.hid hla; have HLb := Lib.hid hlb; have SA := Lib.hid hsa; have SB := Lib.hid hsb; clear hb3 hne heqs hla hlb hx hy hsa hsb hz)
    | (go_at_call 23; (with_reducible show Calls _ _ _ w3 _); refine (rsum_any w3 P _ x a rfl SA.out (by have := HLa.out; omega)).mono ?_; rw [HZa.out]; rintro e w4 ⟨rfl, hb4⟩; have Hb4 : Hid (Below w.heap.size w w4) := nxTo Hb3.out hb4; have SB4 := Lib.hid ((SB.out.below hb4).more hb4.size); clear hb4)
    | (go_at_call 23; (with_reducible show Calls _ _ _ w4 _); refine (rsum_any w4 Q _ y b rfl SB4.out (by have := HLb.out; omega)).mono ?_; rw [HZb.out]; rintro e w5 ⟨rfl, hb5⟩; have Hb5 : Hid (Below w.heap.size w w5) := nxTo Hb4.out hb5; clear hb5))
  go_ret
  exact ⟨rfl, Hb5.out⟩
theorem told_any (w : World) (hT : Tabs w) (id : List UInt8) (n c : Int) (A : Option Addr) (m d : Nat) (hs : List (List UInt8)) (B : Option Addr) (k f : Nat) (ids : List (List UInt8)) (hid : id.length = 32) (hm : m = hs.length) (hd : m ≤ d) (h32 : All32 hs) (hS : SeesV w w.heap.size A (Hs hs)) (hk : k = ids.length) (i32 : All32 ids) (iS : SeesV w w.heap.size B (Hs ids)) (hmax : k ≤ 1048576) : Calls Tryd.prog 24 #[.agg (By id).toArray, .agg (PathZ n c A m d), .slice B k f] w fun e w' => e = .returned (.bool (collB id n c hs ids)) ∧ Below w.heap.size w w' := by
  cases h : collB id n c hs ids with
  | false => exact told_no w hT id n c A m d hs B k f ids hid hm hd h32 hS hk i32 iS hmax h
  | true => exact told_yes w hT id n c A m d hs B k f ids hid hm hd h32 hS hk i32 iS hmax h
end Go.Proofs.YtcbdjcmjchoagaaDoor
