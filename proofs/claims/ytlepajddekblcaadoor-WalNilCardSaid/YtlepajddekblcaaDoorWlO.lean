/-
  wal: WalNil.
-/
import Derived.Test.YtlepajddekblcaaDoorWlN
import Derived.Deep.RegionHeldLaw
import Derived.Deep.DeepCutAuto
import Derived.Deep.CutBlock
namespace Go.Proofs.YtlepajddekblcaaDoor
open Go.RowKit Go.Shelf

theorem wp_noQ {P : Program} {c : Code} {K : Act → World → Prop} {Q' : Exit → Act → World → Prop} {a : Act} {w : World} (h : c.wp P (Exit.then K (fun _ _ _ => False)) a w) : c.wp P (Exit.then K Q') a w :=
  wp_mono h (by intro e a' w' hq; cases e <;> first | exact hq | exact hq.elim)
theorem wnil_leave {w W : World} {D : Nat} (tmps : Array Value) (hp : tmps.getD 0 undef = .bool true) (hv : Below w.heap.size w W) (hD : W.heap[D]? = some (.deferred (some []))) (hDl : w.heap.size ≤ D) :
    LeavesInM Fence.wide 5 Tryd.prog Tryd.f6 tmps (fun e w' => e = .returned (.bool true) ∧ Below w.heap.size w w') [{ target := .collected D, args := #[] }] .returning W := by
  refine ⟨by simp, .inl ⟨_, _, rfl, run_takeDeferred hD, ?_⟩⟩
  exact ⟨_, results_tmp rfl tmps _ _, by rw [hp], hv.grown (grownBy_putObj' W D (.deferred none)) hv.size (fun k e => by cases e; omega)⟩
theorem put_long_law (W0 w : World) (hT : Tabs w) (d : Nat) (dm : DkM) (q : Nat) (m : WlM) (i : Nat) (L : List (List UInt8)) (h : AliveW W0 w d dm q m i L) (hLn : L.length ≤ 1000) (hLz : sizeL L ≤ 16777216) (A : Option Addr) (c : Nat) (b : List UInt8) (hS : Sees w w.heap.size A b) (hbc : b.length ≤ c) (hb : 4194304 < b.length) (hb63 : b.length < 9223372036854775808)
    (hoff : b ≠ [] → ∀ a, A = some a → ¬ (foot d dm a.block ∨ footW q m a.block)) :
    Calls Tryd.prog 24 #[.pointer (some ⟨q, 0, none⟩), .slice A b.length c] w fun e w' => e = .returned (.int .i64 3) ∧ ∃ dm' m', AliveW W0 w' d dm' q m' i L ∧ WlTo w d dm q m w' dm' m' ∧ dm'.d = dm.d := by
  have hmz : m.size = sizeL L := congrArg LgD.size h.md
  have hrl : m.rows.length = L.length := by rw [← h.rows, List.length_map]
  refine (put_anyW w hT d dm q m h.l.p (by rw [h.W0]; omega) (by omega) (by omega) A c b hS hbc hb63 hoff).mono ?_
  rintro e w' ⟨rfl, dm', m', hd', hm', ht'⟩
  have e0 : putW dm.d m.d b = (dm.d, m.d, 3) := by
    unfold putW
    rw [h.md, if_neg (by simp), if_pos hb]
  rw [e0] at hd' hm' ⊢
  exact ⟨rfl, dm', m', ⟨h.l.to ht', by rw [hd']; exact h.st, by rw [hd']; exact h.dd, by rw [hm']; exact h.md⟩, ht', hd'⟩

set_option maxHeartbeats 8000000 in
set_option maxRecDepth 100000 in
theorem walNil_any (w : World) (hT : Tabs w) : Calls Tryd.prog 6 #[] w fun e w' => e = .returned (.bool true) ∧ Below w.heap.size w w' := by
  have HT := Lib.hid hT
  clear hT
  have qfn : ∀ (W : World) (g : Nat), (binOp .eql 60 (.func (.func 55) #[] #[.pointer (some ⟨g, 0, none⟩)]) .nilFunc).run Tryd.prog W = .ok (.bool false) W := fun W g => by kernel_rfl
  have kl : ∀ W : World, (W.alloc (.cells #[.pointer none, .int .i64 0, .slice none 0 0, .int .i64 0, .bool false] 58)).heap.size = W.heap.size + 1 := fun W => World.size_alloc _ _
  have VZ : Hid (Below w.heap.size w (w.alloc (.cells #[.pointer none, .int .i64 0, .slice none 0 0, .int .i64 0, .bool false] 58))) := nxAlloc (nxRefl w) _
  have BZ : Hid (Blk (w.alloc (.cells #[.pointer none, .int .i64 0, .slice none 0 0, .int .i64 0, .bool false] 58)) w.heap.size 58 #[.pointer none, .int .i64 0, .slice none 0 0, .int .i64 0, .bool false]) := heap_alloc_new w _
  clear kl
  obtain ⟨LR, hLR, hLz⟩ := long_row 4194305
  have HLz := Lib.hid hLz
  clear hLz
  have hmk : ∀ W : World, (Instr.makeSlice 23 (.int .i64 4194305) (.int .i64 4194305)).run Tryd.prog W = .ok (.slice (some ⟨W.heap.size, 0, none⟩) 4194305 4194305) (W.alloc (.cells LR 5)) := fun W => hLR W (by decide)
  clear hLR
  refine (callsIn_wide (n := 5)).1 ?_
  refine callsIn_of_wp_marks Tryd.func6 rfl trivial ?_ rfl
  simp only [Tryd.ntmps6, List.size_toArray, List.length_cons, List.length_nil, Nat.reduceAdd, Nat.reduceSub, Array.replicate_succ, Array.replicate_zero, List.push_toArray, List.append_toArray, List.nil_append, List.cons_append]
  refine wpIn_wide.2 ?_
  go_upto_region 10 with (first
    | (go_at_call 15; (with_reducible show Calls _ _ #[.pointer none, _] _ _); refine (open_un _ (.pointer none) 0 (isMade_nilW _)).mono ?_; rintro e wn ⟨rfl, hwn⟩; obtain rfl := hwn.symm)
    | (go_at_call 13; (with_reducible show Calls _ _ _ (World.alloc w _) _); refine (newDisk_law _).mono ?_; rintro e w2 ⟨d0, rfl, hd⟩; have D0 := Lib.hid hd; clear hd)
    | (go_at_call 15; (with_reducible show Calls _ _ #[_, .int .i64 16] _ _); refine (open_arg w2 d0 newM D0.out.k D0.out.wf 16 rfl).mono ?_; rintro e w3 ⟨rfl, hb⟩; have V3 : Hid (Below w.heap.size w w3) := nxTrD (nxTrD VZ.out D0.out.v) hb; have BZ3 := Lib.hid ((BZ.out.below D0.out.v (by simp)).below hb (by have := D0.out.v.size; simp at this; omega)); clear hb)
    | (go_at_call 13; (with_reducible show Calls _ _ _ w3 _); refine (newDisk_law _).mono ?_; rintro e w4 ⟨d, rfl, hd⟩; have D4 := Lib.hid hd; clear hd)
    | (go_at_call 15; (with_reducible show Calls _ _ #[_, .int .i64 1] _ _); refine (open_law w3 w4 (HT.out.later (nxTrD V3.out D4.out.v)) d newM D4.out 1 [] [] (by rw [newM_d]; exact newD_st (by omega)) (by rw [newM_d]; rfl) (fun x hx => by cases hx) rfl).mono ?_; rintro e w5 ⟨dm, -, hv, h2⟩; obtain ⟨q, m, he, ha⟩ : ∃ q m, e = .returned (.tuple #[.pointer (some ⟨q, 0, none⟩), .int .i64 0]) ∧ AliveW w3 w5 d dm q m 1 [] ∧ dm.d.fuse = -1 := (h2.elim (fun ⟨q, m, h1, h2, h3⟩ => ⟨q, m, h1, h2, h3 (by rw [newM_d]; rfl)⟩) (fun ⟨n, _, _, hf, _⟩ => absurd (by rw [newM_d]; rfl) hf)); subst he; have AL := Lib.hid ha.1; have HFu := Lib.hid ha.2; clear hv h2 ha)
    | (go_at_call 17; refine (num_any _ _).mono ?_; rintro e wn ⟨rfl, hwn⟩; obtain rfl := hwn.symm))
  have B6 : Hid (Below w5.heap.size w5 (w5.alloc (.cells LR 5)).drew) := (nxAlloc (nxRefl w5) _).drew
  have AL6 : Hid (AliveW w3 (w5.alloc (.cells LR 5)).drew d dm q m 1 []) := AL.out.below B6.out
  have SL6 : ∀ o k : Nat, o + k ≤ 4194305 → Sees (w5.alloc (.cells LR 5)).drew (w5.alloc (.cells LR 5)).drew.heap.size (some ⟨w5.heap.size, o, none⟩) (zs k) := fun o k h => by
    have h1 := long_sees w5 LR 4194305 HLz.out o k h
    have h2 : Sees (w5.alloc (.cells LR 5)) (w5.alloc (.cells LR 5)).heap.size (some ⟨w5.heap.size, o, none⟩) (zs k) := by rw [World.size_alloc]; exact h1
    exact h2
  have HS6 := Lib.hid SL6
  have HOff : Hid (¬ (foot d dm w5.heap.size ∨ footW q m w5.heap.size)) := AL.out.off (Nat.le_refl _)
  have HV6 : Hid (Below w.heap.size w (w5.alloc (.cells LR 5)).drew) := nxTrD (nxTrD V3.out AL.out.l.v) B6.out
  have hsz : (w5.alloc (.cells LR 5)).drew.heap.size = w5.heap.size + 1 := World.size_alloc _ _
  have HSz := Lib.hid hsz
  have hp1 := put_long_law w3 _ (HT.out.later HV6.out) d dm q m 1 [] AL6.out (by decide) (by decide) (some ⟨w5.heap.size, 0, none⟩) 4194305 (zs 4194305) (HS6.out 0 4194305 (by decide)) (by rw [zs_len]; exact Nat.le_refl _) (by rw [zs_len]; decide) (by rw [zs_len]; decide) (fun _ a ha => by injection ha with ha; subst ha; exact HOff.out)
  rw [zs_len] at hp1
  have HP1 := Lib.hid hp1
  clear SL6 hsz hp1
  go_cut [11, 12] from 14 (fun a b wx => a = .int .i64 3 ∧ b = .int .i64 0 ∧ ∃ dm8 m8, Hid (AliveW w3 wx d dm8 q m8 1 [zs 4194304]))
  case first =>
    refine wp_noQ ?_
    go_region_held_law (fun _ => True) (exact True.intro) (first
      | (go_at_call 24; (with_reducible show Calls _ _ #[_, .slice _ 4194305 _] _ _); refine HP1.out.mono ?_; rintro e w7 ⟨rfl, dm7, m7, h7, t7, f7⟩; have A7 := Lib.hid h7; have T7 := Lib.hid t7; have F7 : Hid (dm7.d.fuse = -1) := (by show _ = _; rw [f7]; exact HFu.out); have S7 : Hid (Sees w7 w7.heap.size (some ⟨w5.heap.size, 1, none⟩) (zs 4194304)) := (Sees.offW (HS6.out 1 4194304 (by decide)) t7.k (fun _ a ha => by injection ha with ha; subst ha; exact HOff.out)); have O7 : Hid (¬ (foot d dm7 w5.heap.size ∨ footW q m7 w5.heap.size)) := (fun hf => (t7.ft _ hf).elim HOff.out (fun h => by have := HSz.out; omega)); (have hp2 := put_law w3 w7 (HT.out.later (nxTrD V3.out h7.l.v)) d dm7 q m7 1 [] h7 (some ⟨w5.heap.size, 1, none⟩) 4194304 (zs 4194304) S7.out (by rw [zs_len]; exact Nat.le_refl _) (by rw [zs_len]; exact Nat.le_refl _) (by rw [zs_len]; decide) (fun _ a ha => by injection ha with ha; subst ha; exact O7.out)); rw [zs_len] at hp2; have HP2 := Lib.hid hp2; clear h7 t7 f7 hp2)
      | (go_at_call 24; (with_reducible show Calls _ _ #[_, .slice _ 4194304 _] _ _); refine HP2.out.mono ?_; rintro e w8 ⟨dm8, m8, hl8, hv8, h8⟩; obtain ⟨he8, ha8⟩ : e = .returned (.int .i64 0) ∧ AliveW w3 w8 d dm8 q m8 1 ([] ++ [zs 4194304]) := (h8.elim (fun h => ⟨h.1, h.2.1⟩) (fun h => absurd F7.out h.2.1)); subst he8; have A8 : Hid (AliveW w3 w8 d dm8 q m8 1 [zs 4194304]) := ha8; clear hl8 hv8 h8 ha8))
    all_goals (go_wp2_with fail; go_meet; exact ⟨rfl, rfl, dm8, m8, A8⟩)
  case rest =>
    obtain ⟨rfl, rfl, dm8, m8, A8⟩ := hcut
    obtain ⟨w8, hw8⟩ : ∃ x, x = wc := ⟨_, rfl⟩
    rw [← hw8] at A8 ⊢
    clear hw8 HP1 HS6 AL6 B6 AL HOff HSz
    go_wp2_with (first
      | (go_at_call 26; (with_reducible show Calls _ _ _ (World.alloc _ _) _); refine (wbatches_un _ (.pointer none) isOpen_nilW).mono ?_; rintro e w10 ⟨rfl, -, hb⟩; have V10 : Hid (Below w8.heap.size w8 w10) := nxTrD (nxAlloc (nxRefl w8) _) hb; have N10 : Hid (Blk w10 w8.heap.size 3 #[.int .i64 0]) := (Blk.below (heap_alloc_new w8 _ : Blk (w8.alloc (.cells #[.int .i64 0] 3)) w8.heap.size 3 #[.int .i64 0]) hb (by simp)); clear hb)
      | (go_at_call 26; (with_reducible show Calls _ _ _ w10 _); refine (wbatches_un w10 (.pointer none) isOpen_nilW).mono ?_; rintro e w11 ⟨rfl, hbk, hb⟩; have X11 := Lib.hid hbk; have V11 : Hid (Below w8.heap.size w8 w11) := nxTrD V10.out hb; have N11 : Hid (Blk w11 w8.heap.size 3 #[.int .i64 0]) := N10.out.below hb N10.out.lt; clear hbk hb))
    have HS11 : Hid (w.heap.size ≤ w11.heap.size) := Nat.le_trans V3.out.size (Nat.le_trans A8.out.l.v.size V11.out.size)
    refine (wpIn_wide (n := 5)).1 ?_
    refine wpIn_rangeW (gf := 55) (lb := #[.pointer (some ⟨w10.heap.size, 0, none⟩)]) rfl (enters_of Tryd.func55 (by kernel_rfl) rfl) 0 w11.heap.size (Nat.le_refl _) (fun _ _ _ => False)
      (fun _ W => Below w11.heap.size w11 W) (fun _ => False) ?seq (fun _ _ _ h => h.elim) (fun _ _ _ _ _ _ h => h.elim) (nxRefl _) (fun _ _ _ h b => nxTrD h b) (fun k W l o o' h hl hh ho => h.grown (grownBy_putObj' W l o') h.size (fun k e => by cases e; omega)) (fun _ _ _ _ h => h.elim)
      (fun _ => { tmps := #[], defers := [] }) (fun _ _ _ _ _ h => h.elim) (fun _ _ _ _ h => absurd h (Nat.not_lt_zero _)) ?done (fun _ _ h => h.elim)
    case seq =>
      intro l J Jx W hbW hJ hY hJ0
      exact batches1_in 4 l _ w11.heap.size [] none 0 J Jx W ((X11.out.below hbW X11.out.lt).cell 0) hbW.size (.inl rfl) (fun r hr => by cases hr) (by decide) hJ (fun k x A9 c9 W1 hk hj hb ho => absurd hk.1 (Nat.not_lt_zero _)) hJ0
    case done =>
      intro D W hI hD hDl
      have VW : Hid (Below w8.heap.size w8 W) := nxTrD V11.out hI
      have cn : W.cell? ⟨w8.heap.size, 0, none⟩ = some (.int .i64 0) := (N11.out.below hI N11.out.lt).cell 0
      have AW : Hid (AliveW w3 W d dm8 q m8 1 [zs 4194304]) := A8.out.below VW.out
      have VWw : Hid (Below w.heap.size w W) := nxTrD V3.out AW.out.l.v
      have cz : W.cell? ⟨w.heap.size, 0, none⟩ = some (.pointer none) := (BZ3.out.below AW.out.l.v BZ3.out.lt).cell 0
      have HZ := Lib.hid (isOpen_zeroW W w.heap.size cz)
      have hl1 := wlen_any W q d m8 AW.out.l.p.l
      have hl2 := wsize_any W q d m8 AW.out.l.p.l
      have e1 : m8.rows.length = 1 := by have := congrArg List.length AW.out.rows; rw [List.length_map] at this; exact this
      have e2 : m8.size = 4194324 := by
        have h1 : m8.size = sizeL [zs 4194304] := congrArg LgD.size AW.out.md
        rw [h1]
        unfold sizeL
        rw [List.map_cons, List.sum_cons, zs_len]
        rfl
      rw [e1] at hl1
      rw [e2] at hl2
      have HL1 := Lib.hid hl1
      have HL2 := Lib.hid hl2
      have HD := Lib.hid hD
      have HDl : Hid (w.heap.size ≤ D) := Nat.le_trans HS11.out hDl
      have HDlt : Hid (D < W.heap.size) := (Array.getElem?_eq_some_iff.1 hD).1
      clear hl1 hl2 e1 e2 hI hD hDl cz X11 N11
      go_wp2_with (first
        | (go_at_call 17; refine (num_any _ _).mono ?_; rintro e wn ⟨rfl, hwn⟩; obtain rfl := hwn.symm)
        | (go_at_call 19; (with_reducible show Calls _ _ #[.pointer none] _ _); refine (wlen_un W (.pointer none) (isOpen_nilW W)).mono ?_; rintro e wn ⟨rfl, hwn⟩; obtain rfl := hwn.symm)
        | (go_at_call 19; refine HL1.out.mono ?_; rintro e wn ⟨rfl, hwn⟩; obtain rfl := hwn.symm)
        | (go_at_call 20; (with_reducible show Calls _ _ #[.pointer (some ⟨q, _, _⟩)] _ _); refine HL2.out.mono ?_; rintro e wn ⟨rfl, hwn⟩; obtain rfl := hwn.symm)
        | (go_at_call 20; refine (wsize_un W _ HZ.out).mono ?_; rintro e wn ⟨rfl, hwn⟩; obtain rfl := hwn.symm)
        | (go_at_call 10; refine (record_long W 1 _ 4194305 4194305 (by decide)).mono ?_; rintro e wn ⟨rfl, hwn⟩; obtain rfl := hwn.symm)
        | (go_at_call 24; refine (wput_un W (.pointer none) _ (isOpen_nilW W)).mono ?_; rintro e wn ⟨rfl, hwn⟩; obtain rfl := hwn.symm)
        | (go_at_call 27; refine (wempty_un W _ HZ.out).mono ?_; rintro e wn ⟨rfl, hwn⟩; obtain rfl := hwn.symm)
        | (go_at_call 21; refine (wdead_un W (.pointer none) (isOpen_nilW W)).mono ?_; rintro e wn ⟨rfl, hwn⟩; obtain rfl := hwn.symm)
        | (go_at_call 7; refine (wknown_any W (HT.out.later VWw.out)).mono ?_; rintro e w12 ⟨rfl, hb⟩; have V12 := Lib.hid hb; clear hb))
      exact wnil_leave _ rfl (nxTrD VWw.out V12.out) ((V12.out.block D HDlt.out).trans HD.out) HDl.out
end Go.Proofs.YtlepajddekblcaaDoor
