/- The walk of the law CommitAsks: at any numbers it returns true and leaves what was in memory. -/
import Derived.Test.YtdjnaahkcnklhabDoorM45CommitAsks
import Derived.Test.YtdjnaahkcnklhabDoorA35CommitAsks
import Derived.Test.YtdjnaahkcnklhabDoorM11CommitAsks
namespace Go.Proofs.YtdjnaahkcnklhabDoor.Co
open Go.ChangeShapes Go.WideShapes Go.ChangeAt Go.RowKit
open Go.Proofs.YtdjnaahkcnklhabDoor.St (BoxN boxn_new own_below grown_setCell IsRow Elem flat flat_append own_isRow idxI)
open Go.Proofs.YtdjnaahkcnklhabDoor.Pt (LS2 cfg_two two_any)
set_option linter.unusedVariables false

set_option maxRecDepth 100000 in
set_option maxHeartbeats 16000000 in
theorem commitAsks_walk (s : Int) (a : Option Addr) (len cap : Nat) (zs : List Int) (no : Int) (w : World) (hs : (Lit.int .i64 s).wf = true) (hr : IsInts w a len cap zs) (hno : (Lit.int .i64 no).wf = true) (hHa : HasAt w 0 mHas) (hTo : TopsAt w) :
    Calls Tryd.prog 4 #[.int .i64 s, .slice a len cap, .int .i64 no] w fun e w' => e = .returned (.bool true) ∧ Below w.heap.size w w' := by
  have bds : -9223372036854775808 ≤ s ∧ s ≤ 9223372036854775807 := by
    simp [Lit.wf, IntKind.min, IntKind.max, IntKind.signed, IntKind.bits] at hs
    omega
  clear hs
  have bdno : -9223372036854775808 ≤ no ∧ no ≤ 9223372036854775807 := by
    simp [Lit.wf, IntKind.min, IntKind.max, IntKind.signed, IntKind.bits] at hno
    omega
  clear hno
  have hgT : 1 < w.heap.size := World.block_lt_of_cell? w _ hTo.1
  have hgM : 0 < w.heap.size := hHa.lt (by decide)
  have KT : Hid (∀ U, Below w.heap.size w U → Tables U) := fun U hU => ⟨hHa.below hU hgM, hTo.below hU hgT⟩
  clear hHa hTo hgT hgM
  have hsp := pk_bd s 3 (by omega)
  have hTw := fun u => two_any s u bds
  obtain ⟨S, eS⟩ : ∃ S : Nat, (S : Int) = 1 + pk s 3 := ⟨(1 + pk s 3).toNat, by omega⟩
  rw [← eS] at hTw
  have hS1 : 1 ≤ S := by omega
  have hS3 : S ≤ 3 := by omega
  have hSi1 : (1 : Int) ≤ (S : Int) := by omega
  have hSi4 : (S : Int) ≤ 4 := by omega
  clear eS hsp
  have bw : Below w.heap.size w w := Below.refl _ _
  have hcl : len ≤ cap ∧ cap ≤ maxLen := ⟨hr.2.1, hr.2.2.1⟩
  unfold maxLen at hcl
  obtain ⟨hcl1, hcl2⟩ := hcl
  have hmp := pk_bd (len : Int) 5 (by omega)
  have hPM := fun u => picked_any (len : Int) 5 u (by omega) (by omega) (by omega)
  obtain ⟨n, en⟩ : ∃ n : Nat, (n : Int) = 1 + pk (len : Int) 5 := ⟨(1 + pk (len : Int) 5).toNat, by omega⟩
  have hn1 : 1 ≤ n := by omega
  have hn5 : n ≤ 5 := by omega
  obtain ⟨PM, ePM⟩ : ∃ x, x = pk (len : Int) 5 := ⟨_, rfl⟩
  rw [← ePM] at hPM en
  have hwm : IntKind.i64.wrap (1 + PM) = (n : Int) := by rw [← en]; simp [IntKind.wrap, IntKind.bits, IntKind.signed]; omega
  have hwm2 : IntKind.i64.wrap (PM + 1) = (n : Int) := by rw [show PM + 1 = (n : Int) by omega]; simp [IntKind.wrap, IntKind.bits, IntKind.signed]; omega
  clear ePM hmp en
  have hbp := pk_bd no ((n : Int) + 1) (by omega)
  have hPB := fun u => picked_any no ((n : Int) + 1) u bdno (by omega) (by omega)
  obtain ⟨bad, ebad⟩ : ∃ bad : Nat, (bad : Int) = pk no ((n : Int) + 1) := ⟨(pk no ((n : Int) + 1)).toNat, by omega⟩
  rw [← ebad] at hPB
  have hbad : bad ≤ n := by omega
  have hwb : IntKind.i64.wrap ((n : Int) + 1) = (n : Int) + 1 := by simp [IntKind.wrap, IntKind.bits, IntKind.signed]; omega
  clear ebad hbp hr
  go_enter Tryd.func4, Tryd.ntmps4
  go_upto_region 2 with (go_at_call 7; refine (hTw _).mono ?_; rintro e w1 ⟨g0, rfl, hlab, hg0, hb1⟩)
  clear hTw
  replace bw := bw.trans (hb1.mono bw.size)
  obtain ⟨X1, eX1⟩ : ∃ X : World, X = w1.alloc (.cells #[.int .i64 (S : Int), .slice (some ⟨g0, 0, none⟩) 2 2, .int .i64 3] 25) := ⟨_, rfl⟩
  have cb : BoxN X1 w1.heap.size 3 [.int .i64 (S : Int), .slice (some ⟨g0, 0, none⟩) 2 2, .int .i64 3] := by rw [eX1]; exact boxn_new w1 #[.int .i64 (S : Int), .slice (some ⟨g0, 0, none⟩) 2 2, .int .i64 3] 25 3 rfl
  have bX1 : Below w1.heap.size w1 X1 := by rw [eX1]; exact (Below.refl _ _).alloc (Nat.le_refl _) _
  rw [← eX1]
  clear eX1
  replace bw := bw.trans (bX1.mono bw.size)
  replace hlab := hlab.below bX1
  have HC1 : Hid (Calls Tryd.prog 8 #[.agg #[.int .i64 (S : Int), .slice (some ⟨g0, 0, none⟩) 2 2, .int .i64 3], .int .i64 1, .int .i64 0, .agg #[.int .i64 1, .slice none 0 0], .int .i64 6000, .agg #[.int .i64 1, .int .i64 0, .int .i64 0, .int .i64 0, .int .i64 0]] X1 fun e w' => ∃ (v' : CkV) (ix' : List (Nat × Nat)) (more' : List Rw), e = .returned (.tuple #[.agg #[.int .i64 2, .slice v'.ja 1 v'.jc, .slice v'.ma 0 v'.mc, .slice v'.ra 1 v'.rc, .slice v'.pa 1 v'.pc, .int .i64 0, .int .i64 0], .int .i64 0]) ∧ Live X1.heap.size w' v' ix' more' tBegin ∧ Below X1.heap.size X1 w') := call_first S 3 (some ⟨g0, 0, none⟩) 2 2 LS2 1 0 1 6000 ⟨1, 0, 0, 0, 0⟩ X1 hlab (ans_begin hSi1 hSi4 (Or.inr rfl)).1 (ans_begin hSi1 hSi4 (Or.inr rfl)).2 rfl rfl rfl rfl rfl rfl rfl
  have cb_0 : X1.cell? ⟨w1.heap.size, 0, none⟩ = some (.int .i64 (S : Int)) := (cb.c 0 (by decide)).1
  have cb_1 : X1.cell? ⟨w1.heap.size, 1, none⟩ = some (.slice (some ⟨g0, 0, none⟩) 2 2) := (cb.c 1 (by decide)).1
  have cb_2 : X1.cell? ⟨w1.heap.size, 2, none⟩ = some (.int .i64 3) := (cb.c 2 (by decide)).1
  have cb_z := cb.lt
  go_upto_region 3 with (go_at_call 8; refine HC1.out.mono ?_; rintro e y1 ⟨v1, ix1, more1, rfl, hL1, hc1⟩)
  clear cb_0 cb_1 cb_2 cb_z
  clear HC1
  replace cb := cb.below hc1 cb.lt
  replace bw := bw.trans (hc1.mono bw.size)
  replace hlab := hlab.below hc1
  obtain ⟨X2, eX2⟩ : ∃ X : World, X = y1.alloc (.cells #[.int .i64 2, .slice v1.ja 1 v1.jc, .slice v1.ma 0 v1.mc, .slice v1.ra 1 v1.rc, .slice v1.pa 1 v1.pc, .int .i64 0, .int .i64 0] 34) := ⟨_, rfl⟩
  have tb1 : BoxN X2 y1.heap.size 7 [.int .i64 2, .slice v1.ja 1 v1.jc, .slice v1.ma 0 v1.mc, .slice v1.ra 1 v1.rc, .slice v1.pa 1 v1.pc, .int .i64 0, .int .i64 0] := by rw [eX2]; exact boxn_new y1 #[.int .i64 2, .slice v1.ja 1 v1.jc, .slice v1.ma 0 v1.mc, .slice v1.ra 1 v1.rc, .slice v1.pa 1 v1.pc, .int .i64 0, .int .i64 0] 34 7 rfl
  have bX2 : Below y1.heap.size y1 X2 := by rw [eX2]; exact (Below.refl _ _).alloc (Nat.le_refl _) _
  rw [← eX2]
  clear eX2
  replace cb := cb.below bX2 cb.lt
  replace bw := bw.trans (bX2.mono bw.size)
  replace hlab := hlab.below bX2
  replace hL1 := hL1.below bX2
  have HY : Hid (∀ U, Below X2.heap.size X2 U → Below w.heap.size w U ∧ IsLabs U (some ⟨g0, 0, none⟩) 2 2 LS2 ∧ BoxN U w1.heap.size 3 [.int .i64 (S : Int), .slice (some ⟨g0, 0, none⟩) 2 2, .int .i64 3]) := fun U hU => ⟨bw.trans (hU.mono bw.size), hlab.below hU, cb.below hU cb.lt⟩
  have hdk0 := hL1.desk
  have hjb0 := hL1.js
  rw [hjb0.2] at hdk0
  have HD0 : Hid (DeskAt X2 X1.heap.size v1.ja 1 v1.jc v1.js ix1 more1 ∧ v1.js.map JbV.bare = [jDn (rds 0)]) := ⟨hdk0, hjb0.1⟩
  clear hdk0 hjb0
  have tb1_0 : X2.cell? ⟨y1.heap.size, 0, none⟩ = some (.int .i64 2) := (tb1.c 0 (by decide)).1
  have tb1_1 : X2.cell? ⟨y1.heap.size, 1, none⟩ = some (.slice v1.ja 1 v1.jc) := (tb1.c 1 (by decide)).1
  have tb1_z := tb1.lt
  go_upto_region 4 with (fail)
  clear tb1_0 tb1_1 tb1_z
  obtain ⟨X3, eX3⟩ : ∃ X : World, X = X2.alloc (.cells #[.int .i64 2, .slice v1.ja 1 v1.jc] 29) := ⟨_, rfl⟩
  have dbx : BoxN X3 X2.heap.size 2 [.int .i64 2, .slice v1.ja 1 v1.jc] := by rw [eX3]; exact boxn_new X2 #[.int .i64 2, .slice v1.ja 1 v1.jc] 29 2 rfl
  have bX3 : Below X2.heap.size X2 X3 := by rw [eX3]; exact (Below.refl _ _).alloc (Nat.le_refl _) _
  rw [← eX3]
  clear eX3
  replace cb := cb.below bX3 cb.lt
  replace tb1 := tb1.below bX3 tb1.lt
  replace bw := bw.trans (bX3.mono bw.size)
  replace hlab := hlab.below bX3
  replace hL1 := hL1.below bX3
  have HPl : Hid (OneSt X1.heap.size X2.heap.size X2 X3 (jDn (rds 0)) v1.ja v1.jc) := by
    have hfar : Far X2.heap.size (jobRow v1.ja 1 v1.jc v1.js :: more1) := HD0.out.1.farNew (Nat.le_refl _)
    exact ⟨dbx, ⟨v1.js, ix1, more1, HD0.out.1.below bX3, hfar, HD0.out.2⟩, bX3⟩
  have HXD : Hid (X1.heap.size ≤ X2.heap.size) := nT hc1 bX2 |>.size
  have HOK : Hid (DOK S 2 2 [jDn (rds 0)]) := dok_begin (l := 1) hSi1 hSi4 (Or.inr rfl)
  clear hlab hL1 cb tb1 dbx bw HD0 bX3 bX2 hc1
  go_upto_region 6 with (go_at_call 9; refine (hPM _).mono ?_; rintro e u ⟨rfl, hu⟩; rw [hu]; clear hu)
  clear hPM
  go_loopw [12, 13, 14] (fun s12 _ _ wr => ∃ k : Nat, s12 = .int .i64 (k : Int) ∧ k ≤ n ∧ Hid (∃ da dc, OneSt X1.heap.size X2.heap.size X2 wr (jDn (rds k)) da dc) ∧ Hid (DOK S 2 2 [jDn (rds k)])) (fun s12 _ _ _ => n - (intOf s12).toNat)
  case atStart => exact ⟨0, rfl, Nat.zero_le _, ⟨_, _, HPl.out⟩, HOK⟩
  case round =>
    clear HPl HOK
    obtain ⟨k, rfl, hk, hI, hOK⟩ := hrel
    obtain ⟨da, dc, hS⟩ := hI.out
    obtain ⟨hbw, hlw, cbw⟩ := HY.out wr hS.bel
    by_cases hlt : k < n
    · have hlt' : (k : Int) < (n : Int) := by omega
      have hGet := get_R (s := (S : Int)) (i := k) hSi1 hSi4 (by omega) hOK.out
      have hBak := back_R (s := (S : Int)) (i := k) hSi1 hSi4 (by omega) hOK.out
      have HO2 : Hid (DOK S 2 2 [jDn (rds (k + 1))]) := dok_R hSi1 hSi4 (by omega) hOK.out
      obtain ⟨js0, ix0, mo0, hDk0, hb0⟩ := hS.dkIs
      obtain ⟨J2, eJ2⟩ : ∃ J2, J2 = jWt (rds k) ⟨false, (k : Int) % 2, (k : Int), 0, 0, (k : Int) + 1, false, false⟩ := ⟨_, rfl⟩
      rw [← eJ2] at hGet hBak
      obtain ⟨kl, ekl⟩ : ∃ kl : Int, kl = (k : Int) % 2 := ⟨_, rfl⟩
      obtain ⟨kh, ekh⟩ : ∃ kh : Int, kh = (k : Int) % (S : Int) := ⟨_, rfl⟩
      rw [← ekl, ← ekh] at hGet hBak
      have hrem : Int.tmod (k : Int) 2 = kl := by rw [Int.tmod_eq_emod_of_nonneg (by omega)]; exact ekl.symm
      clear ekl ekh
      have hE0 : clErr (C2 S 1) 2 [jDn (rds k)] 2 = 0 := cl_c2 hSi1 hSi4 (Or.inr rfl) hOK.out (by omega)
      have HCl : Hid (Calls Tryd.prog 8 #[.agg #[.int .i64 (S : Int), .slice (some ⟨g0, 0, none⟩) 2 2, .int .i64 3], .int .i64 1, .int .i64 0, .agg #[.int .i64 2, .slice da 1 dc], .int .i64 6000, .agg #[.int .i64 2, .int .i64 1, .int .i64 kl, .int .i64 (k : Int), .int .i64 0]] wr fun e w' => ∃ (v' : CkV) (ix' : List (Nat × Nat)) (more' : List Rw), e = .returned (.tuple #[.agg #[.int .i64 2, .slice v'.ja 1 v'.jc, .slice v'.ma 1 v'.mc, .slice v'.ra 0 v'.rc, .slice v'.pa 0 v'.pc, .int .i64 0, .int .i64 0], .int .i64 0]) ∧ Live wr.heap.size w' v' ix' more' ⟨2, [J2], [⟨1, 0, kh, 0, 1, kl, (k : Int), 0, 0, (k : Int) + 1, false, 0⟩], [], [], 0, 0⟩ ∧ Below wr.heap.size wr w') := by
        refine (call_dk S 3 (some ⟨g0, 0, none⟩) 2 2 LS2 1 0 2 da dc [jDn (rds k)] 6000 ⟨2, 1, kl, (k : Int), 0⟩ wr hlw hDk0 hb0).mono ?_
        rintro e x ⟨v', ix', more', rfl, g1, g2⟩
        rw [hGet] at g1
        exact ⟨v', ix', more', by rw [hE0, g1.turn (jl := 1) (ml := 1) (rl := 0) (pl := 0) rfl rfl rfl rfl rfl rfl rfl]; rfl, g1, g2⟩
      have HBak : Hid (backNx (C2 S 1) 2 [J2] ⟨1, 0, kh, 0, 1, kl, (k : Int), 0, 0, (k : Int) + 1, false, 0⟩ ⟨0, (k : Int), 0, 0, (k : Int), 0⟩ = 2 ∧ backJs (C2 S 1) 2 [J2] ⟨1, 0, kh, 0, 1, kl, (k : Int), 0, 0, (k : Int) + 1, false, 0⟩ ⟨0, (k : Int), 0, 0, (k : Int), 0⟩ = [jDn (rds (k + 1))]) := hBak
      have HS : Hid (OneSt X1.heap.size X2.heap.size X2 wr (jDn (rds k)) da dc) := hS
      have x0 := (cbw.c 0 (by decide)).1
      have x1 := (cbw.c 1 (by decide)).1
      have x2 := (cbw.c 2 (by decide)).1
      have zc := cbw.lt
      have d0 := (hS.box.c 0 (by decide)).1
      have d1 := (hS.box.c 1 (by decide)).1
      have zd := hS.box.lt
      simp only [List.getD_cons_zero, List.getD_cons_succ] at x0 x1 x2 d0 d1
      clear hE0 hGet hBak hDk0 hb0 eJ2 hS hlw cbw hbw hI
      go_upto_region 9 with (go_at_call 8; refine HCl.out.mono ?_; rintro e y ⟨V, iz, mz, rfl, hLv, hby⟩)
      clear x0 x1 x2 zc d0 d1 zd HCl
      obtain ⟨X4, eX4⟩ : ∃ X : World, X = y.alloc (.cells #[.int .i64 2, .slice V.ja 1 V.jc, .slice V.ma 1 V.mc, .slice V.ra 0 V.rc, .slice V.pa 0 V.pc, .int .i64 0, .int .i64 0] 34) := ⟨_, rfl⟩
      have tb : BoxN X4 y.heap.size 7 [.int .i64 2, .slice V.ja 1 V.jc, .slice V.ma 1 V.mc, .slice V.ra 0 V.rc, .slice V.pa 0 V.pc, .int .i64 0, .int .i64 0] := by rw [eX4]; exact boxn_new y #[.int .i64 2, .slice V.ja 1 V.jc, .slice V.ma 1 V.mc, .slice V.ra 0 V.rc, .slice V.pa 0 V.pc, .int .i64 0, .int .i64 0] 34 7 rfl
      have bX4 : Below y.heap.size y X4 := by rw [eX4]; exact (Below.refl _ _).alloc (Nat.le_refl _) _
      rw [← eX4]
      clear eX4
      replace hLv := hLv.below bX4
      have bYw : Below wr.heap.size wr X4 := nT hby bX4
      have hM := hLv.msgs
      rw [hLv.ms.1, hLv.ms.2] at hM
      simp only [List.length_cons, List.length_nil, Nat.zero_add] at hM
      obtain ⟨mb, mo, em, zm, hmc⟩ := hM.2.2.2.2 (by decide)
      have hcm : 0 < V.mc := hM.2.1
      clear hmc
      have tb_2 : X4.cell? ⟨y.heap.size, 2, none⟩ = some (.slice V.ma 1 V.mc) := (tb.c 2 (by decide)).1
      have tb_z := tb.lt
      go_upto_region 11 with (fail)
      clear tb_2 tb_z
      have KC : Hid (∀ U, Below X4.heap.size X4 U → (U.cell? ⟨w1.heap.size, 0, none⟩ = some (.int .i64 (S : Int)) ∧ U.cell? ⟨w1.heap.size, 1, none⟩ = some (.slice (some ⟨g0, 0, none⟩) 2 2) ∧ U.cell? ⟨w1.heap.size, 2, none⟩ = some (.int .i64 3) ∧ w1.heap.size < U.heap.size) ∧ (U.cell? ⟨y.heap.size, 0, none⟩ = some (.int .i64 2) ∧ U.cell? ⟨y.heap.size, 1, none⟩ = some (.slice V.ja 1 V.jc) ∧ U.cell? ⟨y.heap.size, 2, none⟩ = some (.slice (some ⟨mb, mo, none⟩) 1 V.mc) ∧ y.heap.size < U.heap.size) ∧ (U.cell? ⟨mb, mo, none⟩ = some (.int .i64 1) ∧ U.cell? ⟨mb, mo + 1, none⟩ = some (.int .i64 0) ∧ U.cell? ⟨mb, mo + 2, none⟩ = some (.int .i64 kh) ∧ U.cell? ⟨mb, mo + 3, none⟩ = some (.int .i64 0) ∧ U.cell? ⟨mb, mo + 4, none⟩ = some (.int .i64 1) ∧ U.cell? ⟨mb, mo + 5, none⟩ = some (.int .i64 kl) ∧ U.cell? ⟨mb, mo + 6, none⟩ = some (.int .i64 (k : Int)) ∧ U.cell? ⟨mb, mo + 7, none⟩ = some (.int .i64 0) ∧ U.cell? ⟨mb, mo + 8, none⟩ = some (.int .i64 0) ∧ U.cell? ⟨mb, mo + 9, none⟩ = some (.int .i64 ((k : Int) + 1)) ∧ U.cell? ⟨mb, mo + 10, none⟩ = some (.bool false) ∧ U.cell? ⟨mb, mo + 11, none⟩ = some (.int .i64 0) ∧ mb < U.heap.size) ∧ OneSt X1.heap.size X2.heap.size X2 U (jDn (rds k)) da dc) := fun U hU => by
        have hwU := nT bYw hU
        have hP := HS.out.below hwU
        obtain ⟨-, -, cbU⟩ := HY.out U hP.bel
        have tbU := tb.below hU tb.lt
        have hMU := St.IsRow.below hM hU
        obtain ⟨mb', mo', em', zm', hmc'⟩ := hMU.2.2.2.2 (by decide)
        rw [em] at em'
        simp at em'
        obtain ⟨rfl, rfl⟩ := em'
        have tc2 := (tbU.c 2 (by decide)).1
        simp only [List.getD_cons_zero, List.getD_cons_succ] at tc2
        rw [em] at tc2
        have hmc9_0 := hmc' 0 (by decide) 0 (by decide)
        have hmc9_1 := hmc' 0 (by decide) 1 (by decide)
        have hmc9_2 := hmc' 0 (by decide) 2 (by decide)
        have hmc9_3 := hmc' 0 (by decide) 3 (by decide)
        have hmc9_4 := hmc' 0 (by decide) 4 (by decide)
        have hmc9_5 := hmc' 0 (by decide) 5 (by decide)
        have hmc9_6 := hmc' 0 (by decide) 6 (by decide)
        have hmc9_7 := hmc' 0 (by decide) 7 (by decide)
        have hmc9_8 := hmc' 0 (by decide) 8 (by decide)
        have hmc9_9 := hmc' 0 (by decide) 9 (by decide)
        have hmc9_10 := hmc' 0 (by decide) 10 (by decide)
        have hmc9_11 := hmc' 0 (by decide) 11 (by decide)
        simp only [List.getD_cons_zero, mcells, List.getElem?_cons_zero, List.getElem?_cons_succ, Nat.zero_mul, Nat.add_zero] at hmc9_0 hmc9_1 hmc9_2 hmc9_3 hmc9_4 hmc9_5 hmc9_6 hmc9_7 hmc9_8 hmc9_9 hmc9_10 hmc9_11
        refine ⟨⟨(cbU.c 0 (by decide)).1, (cbU.c 1 (by decide)).1, (cbU.c 2 (by decide)).1, cbU.lt⟩, ⟨(tbU.c 0 (by decide)).1, (tbU.c 1 (by decide)).1, tc2, tbU.lt⟩, ⟨hmc9_0, hmc9_1, hmc9_2, hmc9_3, hmc9_4, hmc9_5, hmc9_6, hmc9_7, hmc9_8, hmc9_9, hmc9_10, hmc9_11, zm'⟩, hP⟩
      have hTd := hLv.dk
      have hnn := hLv.nums.1
      have hjj := hLv.js.2
      rw [hnn, hjj] at hTd
      have HBk : Hid (∀ U, Below X4.heap.size X4 U → Calls Tryd.prog 10 #[.agg #[.int .i64 (S : Int), .slice (some ⟨g0, 0, none⟩) 2 2, .int .i64 3], .int .i64 1, .int .i64 0, .agg #[.int .i64 2, .slice V.ja 1 V.jc], .agg #[.int .i64 1, .int .i64 0, .int .i64 kh, .int .i64 0, .int .i64 1, .int .i64 kl, .int .i64 (k : Int), .int .i64 0, .int .i64 0, .int .i64 ((k : Int) + 1), .bool false, .int .i64 0], .agg #[.int .i64 0, .int .i64 (k : Int), .int .i64 0, .int .i64 0, .int .i64 (k : Int), .int .i64 0]] U fun e w' => ∃ (a2 : Option Addr) (c2 : Nat), e = .returned (.agg #[.int .i64 2, .slice a2 1 c2]) ∧ DkIs wr.heap.size w' (.agg #[.int .i64 2, .slice a2 1 c2]) 2 [jDn (rds (k + 1))] ∧ Below U.heap.size U w') := fun U hU => by
        have hwU := nT bYw hU
        obtain ⟨hbU, hlU, -⟩ := HY.out U (HS.out.below hwU).bel
        refine (back_any S 3 (some ⟨g0, 0, none⟩) 2 2 LS2 1 0 2 (.agg #[.int .i64 2, .slice V.ja 1 V.jc]) [J2] ⟨1, 0, kh, 0, 1, kl, (k : Int), 0, 0, (k : Int) + 1, false, 0⟩ ⟨0, (k : Int), 0, 0, (k : Int), 0⟩ U hwU.size hlU (hTd.below hU) (fun V' hV' => KT.out V' (hbU.trans (hV'.mono hbU.size))) (by refine ⟨?_, ?_, ?_, ?_, ?_, ?_⟩ <;> (show _ ≤ _ ∧ _ ≤ _) <;> simp only [] <;> omega)).mono ?_
        rintro e x ⟨⟨D2, rfl, hD2⟩, hb2⟩
        rw [HBak.out.1, HBak.out.2] at hD2
        have hD3 := hD2
        obtain ⟨a2, c2, js2, ix2, mo2, rfl, -, -⟩ := hD2
        exact ⟨a2, c2, rfl, hD3, hb2⟩
      have HGW : Hid (X2.heap.size < wr.heap.size ∧ X1.heap.size ≤ wr.heap.size) := ⟨HS.out.box.lt, Nat.le_trans HXD.out (Nat.le_of_lt HS.out.box.lt)⟩
      clear hTd hnn hjj hM em tb hLv
      refine wp_region_inv (by kernel_rfl) [61, 62, 63, 64, 65, 66, 67, 68, 69, 70, 71] (fun L T u => ∃ (ba : Option Addr) (bcp : Nat), True ∧ (L 0 = true → T 61 = .agg #[.int .i64 (S : Int), .slice (some ⟨g0, 0, none⟩) 2 2, .int .i64 3]) ∧ (L 1 = true → T 62 = .pointer (some ⟨y.heap.size, 0, none⟩)) ∧ (L 2 = true → T 63 = .agg #[.int .i64 2, .slice V.ja 1 V.jc]) ∧ (L 3 = true → T 64 = .pointer (some ⟨y.heap.size, 2, none⟩)) ∧ (L 4 = true → T 65 = .slice (some ⟨mb, mo, none⟩) 1 V.mc) ∧ (L 5 = true → T 66 = .pointer (some ⟨mb, mo, none⟩)) ∧ (L 6 = true → T 67 = .agg #[.int .i64 1, .int .i64 0, .int .i64 kh, .int .i64 0, .int .i64 1, .int .i64 kl, .int .i64 (k : Int), .int .i64 0, .int .i64 0, .int .i64 ((k : Int) + 1), .bool false, .int .i64 0]) ∧ (L 7 = true → T 68 = .int .i64 (k : Int)) ∧ (L 8 = true → T 69 = .int .i64 (k : Int)) ∧ (L 9 = true → T 70 = .agg #[.int .i64 0, .int .i64 (k : Int), .int .i64 0, .int .i64 0, .int .i64 (k : Int), .int .i64 0]) ∧ (L 10 = true → T 71 = .agg #[.int .i64 2, .slice ba 1 bcp]) ∧ (L 11 = false → Below X4.heap.size X4 u) ∧ (L 11 = true → OneSt X1.heap.size X2.heap.size X2 u (jDn (rds (k + 1))) ba bcp) ∧ (L 10 = true → L 11 = false → DkIs wr.heap.size u (.agg #[.int .i64 2, .slice ba 1 bcp]) 2 [jDn (rds (k + 1))])) (by decide) (by kernel_rfl) (by kernel_rfl) ?_ ?_ ?_
      · exact ⟨none, 0, trivial, nofun, nofun, nofun, nofun, nofun, nofun, nofun, nofun, nofun, nofun, nofun, fun _ => (Below.refl _ _).drew, nofun, nofun⟩
      · refine ⟨?_, ?_, ?_, ?_, ?_, ?_, ?_, ?_, ?_, ?_, ?_, ?_, trivial⟩
        · rintro L T u hd hk hcl ⟨ba, bcp, hb, p0, p1, p2, p3, p4, p5, p6, p7, p8, p9, p10, c1, c2, dkf⟩ K hK
          simp only [fr, Act.put, List.setIfInBounds_toArray, List.set_cons_zero, List.set_cons_succ, updO] at hK ⊢
          simp [Region.binds] at hd
          have k11 := hcl 11 _ rfl
          simp [Region.binds] at k11
          have k10 := hcl 10 _ rfl
          simp [Region.binds] at k10
          have hE : L 11 = false := by cases h : L 11 with | false => rfl | true => have a11 := k11 h; have a10 := k10 (by simp [a11]); simp [hk] at a10
          obtain ⟨⟨x0, x1, x2, x3⟩, ⟨y0, y1, y2, y3⟩, ⟨m0, m1, m2, m3, m4, m5, m6, m7, m8, m9, m10, m11, mz9⟩, hPU⟩ := KC.out u (c1 hE)
          clear hPU
          rw [if_pos (by rfl)]
          simp only [Oper.wpv]
          go_simp
          exact hK _ _ ⟨ba, bcp, hb, fun _ => rfl, p1, p2, p3, p4, p5, p6, p7, p8, p9, p10, c1, c2, dkf⟩
        · rintro L T u hd hk hcl ⟨ba, bcp, hb, p0, p1, p2, p3, p4, p5, p6, p7, p8, p9, p10, c1, c2, dkf⟩ K hK
          simp only [fr, Act.put, List.setIfInBounds_toArray, List.set_cons_zero, List.set_cons_succ, updO] at hK ⊢
          simp [Region.binds] at hd
          rw [if_pos (by rfl)]
          simp only [Oper.wpv]
          go_simp
          exact hK _ _ ⟨ba, bcp, hb, p0, fun _ => rfl, p2, p3, p4, p5, p6, p7, p8, p9, p10, c1, c2, dkf⟩
        · rintro L T u hd hk hcl ⟨ba, bcp, hb, p0, p1, p2, p3, p4, p5, p6, p7, p8, p9, p10, c1, c2, dkf⟩ K hK
          simp only [fr, Act.put, List.setIfInBounds_toArray, List.set_cons_zero, List.set_cons_succ, updO] at hK ⊢
          simp [Region.binds] at hd
          have g1 := p1 (by simp [hd])
          have k11 := hcl 11 _ rfl
          simp [Region.binds] at k11
          have k10 := hcl 10 _ rfl
          simp [Region.binds] at k10
          have hE : L 11 = false := by cases h : L 11 with | false => rfl | true => have a11 := k11 h; have a10 := k10 (by simp [a11]); simp [hk] at a10
          obtain ⟨⟨x0, x1, x2, x3⟩, ⟨y0, y1, y2, y3⟩, ⟨m0, m1, m2, m3, m4, m5, m6, m7, m8, m9, m10, m11, mz9⟩, hPU⟩ := KC.out u (c1 hE)
          clear hPU
          rw [if_pos (by rfl)]
          simp only [Oper.wpv]
          go_simp
          exact hK _ _ ⟨ba, bcp, hb, p0, p1, fun _ => rfl, p3, p4, p5, p6, p7, p8, p9, p10, c1, c2, dkf⟩
        · rintro L T u hd hk hcl ⟨ba, bcp, hb, p0, p1, p2, p3, p4, p5, p6, p7, p8, p9, p10, c1, c2, dkf⟩ K hK
          simp only [fr, Act.put, List.setIfInBounds_toArray, List.set_cons_zero, List.set_cons_succ, updO] at hK ⊢
          simp [Region.binds] at hd
          rw [if_pos (by rfl)]
          simp only [Oper.wpv]
          go_simp
          exact hK _ _ ⟨ba, bcp, hb, p0, p1, p2, fun _ => rfl, p4, p5, p6, p7, p8, p9, p10, c1, c2, dkf⟩
        · rintro L T u hd hk hcl ⟨ba, bcp, hb, p0, p1, p2, p3, p4, p5, p6, p7, p8, p9, p10, c1, c2, dkf⟩ K hK
          simp only [fr, Act.put, List.setIfInBounds_toArray, List.set_cons_zero, List.set_cons_succ, updO] at hK ⊢
          simp [Region.binds] at hd
          have g3 := p3 (by simp [hd])
          have k11 := hcl 11 _ rfl
          simp [Region.binds] at k11
          have k10 := hcl 10 _ rfl
          simp [Region.binds] at k10
          have k6 := hcl 6 _ rfl
          simp [Region.binds] at k6
          have k5 := hcl 5 _ rfl
          simp [Region.binds] at k5
          have hE : L 11 = false := by cases h : L 11 with | false => rfl | true => have a11 := k11 h; have a10 := k10 (by simp [a11]); have a6 := k6 (by simp [a10]); have a5 := k5 (by simp [a6]); simp [hk] at a5
          obtain ⟨⟨x0, x1, x2, x3⟩, ⟨y0, y1, y2, y3⟩, ⟨m0, m1, m2, m3, m4, m5, m6, m7, m8, m9, m10, m11, mz9⟩, hPU⟩ := KC.out u (c1 hE)
          clear hPU
          rw [if_pos (by rfl)]
          simp only [Oper.wpv]
          go_simp
          exact hK _ _ ⟨ba, bcp, hb, p0, p1, p2, p3, fun _ => rfl, p5, p6, p7, p8, p9, p10, c1, c2, dkf⟩
        · rintro L T u hd hk hcl ⟨ba, bcp, hb, p0, p1, p2, p3, p4, p5, p6, p7, p8, p9, p10, c1, c2, dkf⟩ K hK
          simp only [fr, Act.put, List.setIfInBounds_toArray, List.set_cons_zero, List.set_cons_succ, updO] at hK ⊢
          simp [Region.binds] at hd
          have g4 := p4 (by simp [hd])
          rw [if_pos (by rfl)]
          simp only [Oper.wpv]
          go_simp
          exact hK _ _ ⟨ba, bcp, hb, p0, p1, p2, p3, p4, fun _ => rfl, p6, p7, p8, p9, p10, c1, c2, dkf⟩
        · rintro L T u hd hk hcl ⟨ba, bcp, hb, p0, p1, p2, p3, p4, p5, p6, p7, p8, p9, p10, c1, c2, dkf⟩ K hK
          simp only [fr, Act.put, List.setIfInBounds_toArray, List.set_cons_zero, List.set_cons_succ, updO] at hK ⊢
          simp [Region.binds] at hd
          have g5 := p5 (by simp [hd])
          have k11 := hcl 11 _ rfl
          simp [Region.binds] at k11
          have k10 := hcl 10 _ rfl
          simp [Region.binds] at k10
          have hE : L 11 = false := by cases h : L 11 with | false => rfl | true => have a11 := k11 h; have a10 := k10 (by simp [a11]); simp [hk] at a10
          obtain ⟨⟨x0, x1, x2, x3⟩, ⟨y0, y1, y2, y3⟩, ⟨m0, m1, m2, m3, m4, m5, m6, m7, m8, m9, m10, m11, mz9⟩, hPU⟩ := KC.out u (c1 hE)
          clear hPU
          rw [if_pos (by rfl)]
          simp only [Oper.wpv]
          go_simp
          exact hK _ _ ⟨ba, bcp, hb, p0, p1, p2, p3, p4, p5, fun _ => rfl, p7, p8, p9, p10, c1, c2, dkf⟩
        · rintro L T u hd hk hcl ⟨ba, bcp, hb, p0, p1, p2, p3, p4, p5, p6, p7, p8, p9, p10, c1, c2, dkf⟩ K hK
          simp only [fr, Act.put, List.setIfInBounds_toArray, List.set_cons_zero, List.set_cons_succ, updO] at hK ⊢
          simp [Region.binds] at hd
          rw [if_pos (by rfl)]
          simp only [Oper.wpv]
          go_simp
          exact hK _ _ ⟨ba, bcp, hb, p0, p1, p2, p3, p4, p5, p6, fun _ => rfl, p8, p9, p10, c1, c2, dkf⟩
        · rintro L T u hd hk hcl ⟨ba, bcp, hb, p0, p1, p2, p3, p4, p5, p6, p7, p8, p9, p10, c1, c2, dkf⟩ K hK
          simp only [fr, Act.put, List.setIfInBounds_toArray, List.set_cons_zero, List.set_cons_succ, updO] at hK ⊢
          simp [Region.binds] at hd
          rw [if_pos (by rfl)]
          simp only [Oper.wpv]
          go_simp
          exact hK _ _ ⟨ba, bcp, hb, p0, p1, p2, p3, p4, p5, p6, p7, fun _ => rfl, p9, p10, c1, c2, dkf⟩
        · rintro L T u hd hk hcl ⟨ba, bcp, hb, p0, p1, p2, p3, p4, p5, p6, p7, p8, p9, p10, c1, c2, dkf⟩ K hK
          simp only [fr, Act.put, List.setIfInBounds_toArray, List.set_cons_zero, List.set_cons_succ, updO] at hK ⊢
          simp [Region.binds] at hd
          have g7 := p7 (by simp [hd])
          have g8 := p8 (by simp [hd])
          rw [if_pos (by rfl)]
          simp only [Oper.wpv]
          go_simp
          exact hK _ _ ⟨ba, bcp, hb, p0, p1, p2, p3, p4, p5, p6, p7, p8, fun _ => rfl, p10, c1, c2, dkf⟩
        · rintro L T u hd hk hcl ⟨ba, bcp, hb, p0, p1, p2, p3, p4, p5, p6, p7, p8, p9, p10, c1, c2, dkf⟩ K hK
          simp only [fr, Act.put, List.setIfInBounds_toArray, List.set_cons_zero, List.set_cons_succ, updO] at hK ⊢
          simp [Region.binds] at hd
          have g0 := p0 (by simp [hd])
          have g2 := p2 (by simp [hd])
          have g6 := p6 (by simp [hd])
          have g9 := p9 (by simp [hd])
          have k11 := hcl 11 _ rfl
          simp [Region.binds] at k11
          have hE : L 11 = false := by cases h : L 11 with | false => rfl | true => have a11 := k11 h; simp [hk] at a11
          rw [if_pos (by rfl)]
          simp only [Oper.wpv]
          go_simp
          refine (HBk.out _ (c1 hE)).mono ?_
          rintro e u1 ⟨a5, c5, rfl, hdk5, hg⟩
          exact hK _ _ ⟨a5, c5, hb, p0, p1, p2, p3, p4, p5, p6, p7, p8, p9, fun _ => rfl, fun _ => nT (c1 hE) hg, fun h => absurd (show L 11 = true from h) (by simp [hE]), fun _ _ => hdk5⟩
        · rintro L T u hd hk hcl ⟨ba, bcp, hb, p0, p1, p2, p3, p4, p5, p6, p7, p8, p9, p10, c1, c2, dkf⟩ K hK
          simp only [fr, Act.put, List.setIfInBounds_toArray, List.set_cons_zero, List.set_cons_succ, updO] at hK ⊢
          simp [Region.binds] at hd
          have g10 := p10 (by simp [hd])
          have hE : L 11 = false := hk
          have hDk9 := dkf (by simp [hd]) hk
          have hP9 := (KC.out u (c1 hE)).2.2.2
          have e0 := (hP9.box.c 0 (by decide)).1
          have ef0 := (hP9.box.c 0 (by decide)).2
          have e1 := (hP9.box.c 1 (by decide)).1
          have ef1 := (hP9.box.c 1 (by decide)).2
          have zd9 := hP9.box.lt
          simp only [List.getD_cons_zero, List.getD_cons_succ] at e0 e1
          have hQ9 := hP9.put hDk9 HGW.out.1 HGW.out.2
          have HQ9 : Hid _ := hQ9
          clear hQ9 hP9 hDk9
          rw [if_pos (by rfl)]
          simp only [Oper.wpv]
          go_simp
          exact hK _ _ ⟨ba, bcp, hb, p0, p1, p2, p3, p4, p5, p6, p7, p8, p9, p10, fun h => Bool.noConfusion (show true = false from h), fun _ => HQ9.out, fun _ h => Bool.noConfusion (show true = false from h)⟩
      · rintro L T u hl ⟨ba, bcp, hb, p0, p1, p2, p3, p4, p5, p6, p7, p8, p9, p10, c1, c2, dkf⟩
        simp only [fr, Act.put, List.setIfInBounds_toArray, List.set_cons_zero, List.set_cons_succ]
        have hP := c2 (hl 11 (by decide))
        clear p0 p1 p2 p3 p4 p5 p6 p7 p8 p9 p10 c1 c2 dkf KC HBk HBak hb
        have HI2 : Hid (∃ da dc, OneSt X1.heap.size X2.heap.size X2 u (jDn (rds (k + 1))) da dc) := ⟨_, _, hP⟩
        clear hP
        go_wp2
        go_roundw
        case rel => exact ⟨k + 1, by go_num, by omega, HI2, HO2⟩
        case measure => simp [intOf]; omega
    · have hlt' : ¬ (k : Int) < (n : Int) := by omega
      have hkn : k = n := by omega
      subst hkn
      have hA := commit_R (s := (S : Int)) hSi1 hSi4 hn1 hn5 hOK.out
      have HO3 : Hid (DOK S 2 2 [jC k 0]) := dok_C hSi1 hSi4 hn1 hn5 hOK.out
      obtain ⟨js0, ix0, mo0, hDk0, hb0⟩ := hS.dkIs
      have hE0 : clErr (C2 S 1) 2 [jDn (rds k)] 4 = 0 := cl_c2 hSi1 hSi4 (Or.inr rfl) hOK.out (by omega)
      have HCl : Hid (Calls Tryd.prog 8 #[.agg #[.int .i64 (S : Int), .slice (some ⟨g0, 0, none⟩) 2 2, .int .i64 3], .int .i64 1, .int .i64 0, .agg #[.int .i64 2, .slice da 1 dc], .int .i64 6000, .agg #[.int .i64 4, .int .i64 1, .int .i64 0, .int .i64 0, .int .i64 0]] wr fun e w' => ∃ (v' : CkV) (ix' : List (Nat × Nat)) (more' : List Rw), e = .returned (.tuple #[.agg #[.int .i64 2, .slice v'.ja 1 v'.jc, .slice v'.ma k v'.mc, .slice v'.ra 0 v'.rc, .slice v'.pa 0 v'.pc, .int .i64 1, .int .i64 0], .int .i64 0]) ∧ Live wr.heap.size w' v' ix' more' ⟨2, [jC k 0], (List.range k).map (ckM S), [], [], 1, 0⟩ ∧ Below wr.heap.size wr w') := by
        refine (call_dk S 3 (some ⟨g0, 0, none⟩) 2 2 LS2 1 0 2 da dc [jDn (rds k)] 6000 ⟨4, 1, 0, 0, 0⟩ wr hlw hDk0 hb0).mono ?_
        rintro e x ⟨v', ix', more', rfl, g1, g2⟩
        rw [hA] at g1
        exact ⟨v', ix', more', by rw [hE0, g1.turn (jl := 1) (ml := k) (rl := 0) (pl := 0) rfl rfl (by simp) rfl rfl rfl rfl]; rfl, g1, g2⟩
      have HS : Hid (OneSt X1.heap.size X2.heap.size X2 wr (jDn (rds k)) da dc) := hS
      have x0 := (cbw.c 0 (by decide)).1
      have x1 := (cbw.c 1 (by decide)).1
      have x2 := (cbw.c 2 (by decide)).1
      have zc := cbw.lt
      have d0 := (hS.box.c 0 (by decide)).1
      have d1 := (hS.box.c 1 (by decide)).1
      have zd := hS.box.lt
      simp only [List.getD_cons_zero, List.getD_cons_succ] at x0 x1 x2 d0 d1
      clear hA hDk0 hb0 hE0 hS hlw cbw hI hOK
      go_upto_region 13 with (go_at_call 8; refine HCl.out.mono ?_; rintro e y ⟨V, iz, mz, rfl, hLv, hby⟩)
      clear x0 x1 x2 zc d0 d1 zd HCl
      obtain ⟨X9, eX9⟩ : ∃ X : World, X = y.alloc (.cells #[.int .i64 2, .slice V.ja 1 V.jc, .slice V.ma k V.mc, .slice V.ra 0 V.rc, .slice V.pa 0 V.pc, .int .i64 1, .int .i64 0] 34) := ⟨_, rfl⟩
      have tb : BoxN X9 y.heap.size 7 [.int .i64 2, .slice V.ja 1 V.jc, .slice V.ma k V.mc, .slice V.ra 0 V.rc, .slice V.pa 0 V.pc, .int .i64 1, .int .i64 0] := by rw [eX9]; exact boxn_new y #[.int .i64 2, .slice V.ja 1 V.jc, .slice V.ma k V.mc, .slice V.ra 0 V.rc, .slice V.pa 0 V.pc, .int .i64 1, .int .i64 0] 34 7 rfl
      have bX9 : Below y.heap.size y X9 := by rw [eX9]; exact (Below.refl _ _).alloc (Nat.le_refl _) _
      rw [← eX9]
      clear eX9
      replace hLv := hLv.below bX9
      have bYw : Below wr.heap.size wr X9 := nT hby bX9
      have hSY := HS.out.below bYw
      have hM := hLv.msgs
      rw [hLv.ms.1, hLv.ms.2] at hM
      have hTd := hLv.dk
      rw [hLv.nums.1, hLv.js.2] at hTd
      have hQ := hSY.put (J2 := jC k 0) hTd HS.out.box.lt (Nat.le_trans HXD.out (Nat.le_of_lt HS.out.box.lt))
      have hne : X2.heap.size ≠ y.heap.size := by have h8 := HS.out.box.lt; have h9 := hby.size; omega
      have e0 := (hSY.box.c 0 (by decide)).1
      have ef0 := (hSY.box.c 0 (by decide)).2
      have e1 := (hSY.box.c 1 (by decide)).1
      have ef1 := (hSY.box.c 1 (by decide)).2
      have zd9 := hSY.box.lt
      simp only [List.getD_cons_zero, List.getD_cons_succ] at e0 e1
      have tb_0 : X9.cell? ⟨y.heap.size, 0, none⟩ = some (.int .i64 2) := (tb.c 0 (by decide)).1
      have tb_1 : X9.cell? ⟨y.heap.size, 1, none⟩ = some (.slice V.ja 1 V.jc) := (tb.c 1 (by decide)).1
      have tb_2 : X9.cell? ⟨y.heap.size, 2, none⟩ = some (.slice V.ma k V.mc) := (tb.c 2 (by decide)).1
      have tb_3 : X9.cell? ⟨y.heap.size, 3, none⟩ = some (.slice V.ra 0 V.rc) := (tb.c 3 (by decide)).1
      have tb_4 : X9.cell? ⟨y.heap.size, 4, none⟩ = some (.slice V.pa 0 V.pc) := (tb.c 4 (by decide)).1
      have tb_5 : X9.cell? ⟨y.heap.size, 5, none⟩ = some (.int .i64 1) := (tb.c 5 (by decide)).1
      have tb_6 : X9.cell? ⟨y.heap.size, 6, none⟩ = some (.int .i64 0) := (tb.c 6 (by decide)).1
      have tb_z := tb.lt
      obtain ⟨Z, eZ⟩ : ∃ Z : World, Z = set2 X9 X2.heap.size (.int .i64 2) (.slice V.ja 1 V.jc) := ⟨_, rfl⟩
      rw [← eZ] at hQ
      have tbZ : BoxN Z y.heap.size 7 [.int .i64 2, .slice V.ja 1 V.jc, .slice V.ma k V.mc, .slice V.ra 0 V.rc, .slice V.pa 0 V.pc, .int .i64 1, .int .i64 0] := by rw [eZ]; exact (tb.far (fun e => hne e.symm)).far (fun e => hne e.symm)
      have hMZ : IsRow 12 mcells Z V.ma k V.mc ((List.range k).map (ckM (S : Int))) := by
        have h7 : Far X2.heap.size (V.rows ++ mz) := hLv.farOld HS.out.box.lt
        have h8 := (hLv.aside h7 0 (.int .i64 2)).aside h7 1 (.slice V.ja 1 V.jc)
        have h9 := h8.msgs
        rw [h8.ms.1, h8.ms.2] at h9
        simp only [List.length_map, List.length_range] at h9
        rw [eZ]
        exact h9
      have hneM : ∀ b off, V.ma = some ⟨b, off, none⟩ → b ≠ X2.heap.size := fun b off e e2 => by
        have h7 : Far X2.heap.size (V.rows ++ mz) := hLv.farOld HS.out.box.lt
        refine h7 1 _ rfl ?_
        show Value.ownBlock (.slice V.ma V.ml V.mc) = some X2.heap.size
        rw [e, ← e2]
        rfl
      unfold set2 at eZ
      have hMc : k ≤ V.mc ∧ V.mc ≤ maxLen := ⟨hMZ.2.1, hMZ.2.2.1⟩
      unfold maxLen at hMc
      obtain ⟨hMc1, hMc2⟩ := hMc
      go_upto_region 16 with (fail)
      rw [← eZ]
      clear eZ e0 e1 ef0 ef1 zd9
      clear tb_0 tb_1 tb_2 tb_3 tb_4 tb_5 tb_6 tb_z
      clear hSY hM hTd tb hLv
      go_upto_region 17 with (go_at_call 9; refine (hPB _).mono ?_; rintro e u ⟨rfl, hu⟩; rw [hu]; clear hu)
      have H0 : Hid (∃ da dc, OneSt X1.heap.size X2.heap.size X2 Z (jC k 0) da dc) := ⟨_, _, hQ⟩
      have HB2 : Hid (∀ U, Below X2.heap.size X2 U → Below w.heap.size w U ∧ IsLabs U (some ⟨g0, 0, none⟩) 2 2 LS2 ∧ BoxN U w1.heap.size 3 [.int .i64 (S : Int), .slice (some ⟨g0, 0, none⟩) 2 2, .int .i64 3]) := HY
      have tz2 := (tbZ.c 2 (by decide)).1
      have tzz := tbZ.lt
      simp only [List.getD_cons_zero, List.getD_cons_succ] at tz2
      go_upto_region 18 with (fail)
      clear tz2 tzz hPB
      have HZr : Hid (IsRow 12 mcells Z V.ma k V.mc ((List.range k).map (ckM (S : Int)))) := hMZ
      have HNe0 : Hid (∀ b off, V.ma = some ⟨b, off, none⟩ → b ≠ X2.heap.size) := hneM
      clear hMZ hQ tbZ hneM
      go_loopw [18, 19, 20, 21, 22, 112, 140, 143, 164, 186] (fun _ _ _ _ _ s112 _ _ _ _ wi => ∃ q : Nat, s112 = .int .i64 (q : Int) ∧ q < k ∧ q ≤ bad ∧ Hid (∃ da dc, OneSt X1.heap.size X2.heap.size X2 wi (jC k q) da dc) ∧ Hid (DOK S 2 2 [jC k q]) ∧ Hid (IsRow 12 mcells wi V.ma k V.mc ((List.range k).map (ckM (S : Int))))) (fun _ _ _ _ _ s112 _ _ _ _ _ => k - (intOf s112).toNat)
      case atStart => exact ⟨0, rfl, by omega, Nat.zero_le _, H0, HO3, HZr⟩
      case round =>
        clear H0 HO3 HZr
        obtain ⟨q, rfl, hq, hqb, hI, hOK, hRw⟩ := hrel
        rename World => wi
        have hlq' : (q : Int) < (k : Int) := by omega
        obtain ⟨da, dc, hS⟩ := hI.out
        obtain ⟨mb, mo, em, zm, hmc⟩ := hRw.out.2.2.2.2 (by omega)
        have hmq := hmc q hq
        rw [show ((List.range k).map (ckM (S : Int))).getD q default = ckM (S : Int) q by simp [List.getD, hq]] at hmq
        have hqc : q < V.mc := by omega
        obtain ⟨kl, ekl⟩ : ∃ kl : Int, kl = (q : Int) % 2 := ⟨_, rfl⟩
        obtain ⟨kh, ekh⟩ : ∃ kh : Int, kh = (q : Int) % (S : Int) := ⟨_, rfl⟩
        obtain ⟨kv, ekv⟩ : ∃ kv : Int, kv = (q : Int) % 4 := ⟨_, rfl⟩
        have HEK : Hid (kl = (q : Int) % 2 ∧ kh = (q : Int) % (S : Int) ∧ kv = (q : Int) % 4) := ⟨ekl, ekh, ekv⟩
        unfold ckM at hmq
        rw [← ekl, ← ekh, ← ekv] at hmq
        clear ekl ekh ekv
        have m0 := hmq 0 (by decide); have m1 := hmq 1 (by decide); have m2 := hmq 2 (by decide); have m3 := hmq 3 (by decide); have m4 := hmq 4 (by decide); have m5 := hmq 5 (by decide); have m6 := hmq 6 (by decide); have m7 := hmq 7 (by decide); have m8 := hmq 8 (by decide); have m9 := hmq 9 (by decide); have m10 := hmq 10 (by decide); have m11 := hmq 11 (by decide)
        simp only [mcells, List.getElem?_cons_zero, List.getElem?_cons_succ, Nat.add_zero] at m0 m1 m2 m3 m4 m5 m6 m7 m8 m9 m10 m11
        obtain ⟨U, hU⟩ : ∃ U : World, U = (wi.alloc (.cells #[.int .i64 3, .int .i64 0, .int .i64 kh, .int .i64 0, .int .i64 1, .int .i64 kl, .int .i64 (q : Int), .int .i64 0, .int .i64 kv, .int .i64 0, .bool false, .int .i64 0] 46)) := ⟨_, rfl⟩
        have bU : Below wi.heap.size wi U := by rw [hU]; exact (Below.refl _ _).alloc (Nat.le_refl _) _
        have ub : BoxN U wi.heap.size 12 [.int .i64 3, .int .i64 0, .int .i64 kh, .int .i64 0, .int .i64 1, .int .i64 kl, .int .i64 (q : Int), .int .i64 0, .int .i64 kv, .int .i64 0, .bool false, .int .i64 0] := by rw [hU]; exact boxn_new wi #[.int .i64 3, .int .i64 0, .int .i64 kh, .int .i64 0, .int .i64 1, .int .i64 kl, .int .i64 (q : Int), .int .i64 0, .int .i64 kv, .int .i64 0, .bool false, .int .i64 0] 46 12 rfl
        have HemV : Hid (V.ma = some ⟨mb, mo, none⟩) := em
        have HNe : Hid (∀ b off, (some (⟨mb, mo, none⟩ : Addr)) = some ⟨b, off, none⟩ → b ≠ X2.heap.size) := fun b off e => HNe0.out b off (HemV.out.trans e)
        rw [HemV.out] at hRw
        obtain ⟨vma, evma⟩ : ∃ vma, vma = V.ma := ⟨_, rfl⟩
        rw [← evma] at em ⊢
        subst em
        clear hmc hmq evma
        go_upto_region 20 with (fail)
        rw [← hU]
        clear hU m0 m1 m2 m3 m4 m5 m6 m7 m8 m9 m10 m11
        have u2 := (ub.c 2 (by decide)).1
        have u3 := (ub.c 3 (by decide)).1
        have u4 := (ub.c 4 (by decide)).1
        have u5 := (ub.c 5 (by decide)).1
        have u6 := (ub.c 6 (by decide)).1
        have u8 := (ub.c 8 (by decide)).1
        have uz := ub.lt
        simp only [List.getD_cons_zero, List.getD_cons_succ] at u2 u3 u4 u5 u6 u8
        have hSU := hS.below bU
        have hRU := St.IsRow.below hRw.out bU
        clear hS hI hRw
        obtain ⟨hbU, hlU, cbU⟩ := HY.out U hSU.bel
        by_cases hqbad : q = bad
        · subst hqbad
          have hbq : ((q : Int) != (q : Int)) = false := by simp
          have hbq2 : ((q : Int) == (q : Int)) = true := by simp
          obtain ⟨U2, hU2⟩ : ∃ U2 : World, U2 = U.alloc (.cells #[.int .i64 7, .int .i64 kh, .int .i64 0, .int .i64 0, .int .i64 1, .int .i64 kl, .int .i64 (q : Int), .int .i64 0, .int .i64 kv, .int .i64 0, .bool false, .int .i64 0] 46) := ⟨_, rfl⟩
          have bU2 : Below U.heap.size U U2 := by rw [hU2]; exact (Below.refl _ _).alloc (Nat.le_refl _) _
          have xb : BoxN U2 U.heap.size 12 [.int .i64 7, .int .i64 kh, .int .i64 0, .int .i64 0, .int .i64 1, .int .i64 kl, .int .i64 (q : Int), .int .i64 0, .int .i64 kv, .int .i64 0, .bool false, .int .i64 0] := by rw [hU2]; exact boxn_new U #[.int .i64 7, .int .i64 kh, .int .i64 0, .int .i64 0, .int .i64 1, .int .i64 kl, .int .i64 (q : Int), .int .i64 0, .int .i64 kv, .int .i64 0, .bool false, .int .i64 0] 46 12 rfl
          go_upto_region 21 with (fail)
          rw [← hU2]
          clear hU2 u2 u3 u4 u5 u6 u8 uz ub
          replace hSU := hSU.below bU2
          replace hRU := St.IsRow.below hRU bU2
          replace cbU := cbU.below bU2 cbU.lt
          replace hlU := hlU.below bU2
          replace hbU := hbU.trans (bU2.mono hbU.size)
          obtain ⟨js0, ix0, mo0, hDk0, hb0⟩ := hSU.dkIs
          have hE0 := hr_C (s := (S : Int)) (y := false) hSi1 hSi4 (show q < 5 by omega) hOK.out
          obtain ⟨nx9, js9, ms9, rs9, hA⟩ := sure_bad (s := (S : Int)) hSi1 hSi4 hq hn5 hOK.out
          unfold srM at hA hE0
          rw [← HEK.out.1, ← HEK.out.2.1, ← HEK.out.2.2] at hA hE0
          have HHr : Hid (Calls Tryd.prog 11 #[.agg #[.int .i64 (S : Int), .slice (some ⟨g0, 0, none⟩) 2 2, .int .i64 3], .int .i64 1, .int .i64 0, .agg #[.int .i64 2, .slice da 1 dc], .agg #[.int .i64 7, .int .i64 kh, .int .i64 0, .int .i64 0, .int .i64 1, .int .i64 kl, .int .i64 (q : Int), .int .i64 0, .int .i64 kv, .int .i64 0, .bool false, .int .i64 0]] U2 fun e w' => ∃ (v' : CkV) (ix' : List (Nat × Nat)) (more' : List Rw), e = .returned (.tuple #[.agg #[.int .i64 nx9, .slice v'.ja v'.jl v'.jc, .slice v'.ma v'.ml v'.mc, .slice v'.ra v'.rl v'.rc, .slice v'.pa 1 v'.pc, .int .i64 0, .int .i64 0], .int .i64 0]) ∧ Live U2.heap.size w' v' ix' more' ⟨nx9, js9, ms9, rs9, [⟨0, 4, 1, 0, 0, 11⟩], 0, 0⟩ ∧ Below U2.heap.size U2 w') := by
            refine (hear_dk S 3 (some ⟨g0, 0, none⟩) 2 2 LS2 1 0 2 da dc [jC k q] ⟨7, kh, 0, 0, 1, kl, (q : Int), 0, kv, 0, false, 0⟩ U2 hlU hDk0 hb0 (fun V' hV' => KT.out V' (hbU.trans (hV'.mono hbU.size)))).mono ?_
            rintro e x ⟨v', ix', more', rfl, g1, g2⟩
            rw [hA] at g1
            exact ⟨v', ix', more', by rw [hE0, g1.turn (jl := v'.jl) (ml := v'.ml) (rl := v'.rl) (pl := 1) rfl g1.js.2.symm g1.ms.2.symm g1.rs.2.symm rfl rfl rfl]; rfl, g1, g2⟩
          have x0 := (cbU.c 0 (by decide)).1
          have x1 := (cbU.c 1 (by decide)).1
          have x2 := (cbU.c 2 (by decide)).1
          have zc := cbU.lt
          have d0 := (hSU.box.c 0 (by decide)).1
          have d1 := (hSU.box.c 1 (by decide)).1
          have zd := hSU.box.lt
          have v0 := (xb.c 0 (by decide)).1
          have v1 := (xb.c 1 (by decide)).1
          have v2 := (xb.c 2 (by decide)).1
          have v3 := (xb.c 3 (by decide)).1
          have v4 := (xb.c 4 (by decide)).1
          have v5 := (xb.c 5 (by decide)).1
          have v6 := (xb.c 6 (by decide)).1
          have v7 := (xb.c 7 (by decide)).1
          have v8 := (xb.c 8 (by decide)).1
          have v9 := (xb.c 9 (by decide)).1
          have v10 := (xb.c 10 (by decide)).1
          have v11 := (xb.c 11 (by decide)).1
          have vz := xb.lt
          simp only [List.getD_cons_zero, List.getD_cons_succ] at x0 x1 x2 d0 d1 v0 v1 v2 v3 v4 v5 v6 v7 v8 v9 v10 v11
          have HSU : Hid _ := hSU
          have HRU : Hid _ := hRU
          clear hA hE0 hDk0 hb0 hSU hRU cbU hlU
          go_upto_region 22 with (go_at_call 11; refine HHr.out.mono ?_; rintro e z ⟨V7, iz7, mz7, rfl, hL7, hbz⟩)
          clear x0 x1 x2 zc d0 d1 zd v0 v1 v2 v3 v4 v5 v6 v7 v8 v9 v10 v11 vz HHr xb
          obtain ⟨Z7, eZ7⟩ : ∃ Z7 : World, Z7 = z.alloc (.cells #[.int .i64 nx9, .slice V7.ja V7.jl V7.jc, .slice V7.ma V7.ml V7.mc, .slice V7.ra V7.rl V7.rc, .slice V7.pa 1 V7.pc, .int .i64 0, .int .i64 0] 34) := ⟨_, rfl⟩
          have bZ7 : Below z.heap.size z Z7 := by rw [eZ7]; exact (Below.refl _ _).alloc (Nat.le_refl _) _
          have tb7 : BoxN Z7 z.heap.size 7 [.int .i64 nx9, .slice V7.ja V7.jl V7.jc, .slice V7.ma V7.ml V7.mc, .slice V7.ra V7.rl V7.rc, .slice V7.pa 1 V7.pc, .int .i64 0, .int .i64 0] := by rw [eZ7]; exact boxn_new z #[.int .i64 nx9, .slice V7.ja V7.jl V7.jc, .slice V7.ma V7.ml V7.mc, .slice V7.ra V7.rl V7.rc, .slice V7.pa 1 V7.pc, .int .i64 0, .int .i64 0] 34 7 rfl
          rw [← eZ7]
          clear eZ7
          have hb7 := nT hbz bZ7
          have hS7 := HSU.out.below hb7
          have hR7 := St.IsRow.below HRU.out hb7
          have hL8 := hL7.below bZ7
          have hzD : X2.heap.size < z.heap.size := Nat.lt_of_lt_of_le HSU.out.box.lt hbz.size
          have d0 := (hS7.box.c 0 (by decide)).1
          have d1 := (hS7.box.c 1 (by decide)).1
          have df0 := (hS7.box.c 0 (by decide)).2
          have df1 := (hS7.box.c 1 (by decide)).2
          have zd := hS7.box.lt
          have t0 := (tb7.c 0 (by decide)).1
          have t1 := (tb7.c 1 (by decide)).1
          have zt := tb7.lt
          simp only [List.getD_cons_zero, List.getD_cons_succ] at d0 d1 t0 t1
          have hneD : z.heap.size ≠ X2.heap.size := by omega
          obtain ⟨Q, eQ⟩ : ∃ Q, Q = set2 Z7 X2.heap.size (.int .i64 nx9) (.slice V7.ja V7.jl V7.jc) := ⟨_, rfl⟩
          have tbQ : BoxN Q z.heap.size 7 [.int .i64 nx9, .slice V7.ja V7.jl V7.jc, .slice V7.ma V7.ml V7.mc, .slice V7.ra V7.rl V7.rc, .slice V7.pa 1 V7.pc, .int .i64 0, .int .i64 0] := by rw [eQ]; exact (tb7.far hneD).far hneD
          have bQ : Below X2.heap.size X2 Q := by rw [eQ]; exact ((hS7.bel).setCell (p := ⟨X2.heap.size, 0, none⟩) (Nat.le_refl _) _).setCell (p := ⟨X2.heap.size, 1, none⟩) (Nat.le_refl _) _
          have hfP : Far X2.heap.size (V7.rows ++ mz7) := hL8.farOld HSU.out.box.lt
          have hL9 := (hL8.aside hfP 0 (.int .i64 nx9)).aside hfP 1 (.slice V7.ja V7.jl V7.jc)
          have hRq := hL9.reps
          rw [hL9.ps.1, hL9.ps.2] at hRq
          simp only [List.length_cons, List.length_nil, Nat.zero_add] at hRq
          have hRQ : IsRow 6 RpV.cells Q V7.pa 1 V7.pc [⟨0, 4, 1, 0, 0, 11⟩] := by rw [eQ]; exact hRq
          obtain ⟨rb, ro, er, zr, hrp⟩ := hRQ.2.2.2.2 (by decide)
          have hcp : 0 < V7.pc := hRQ.2.1
          have q5 := hrp 0 (by decide) 5 (by decide)
          simp only [List.getD_cons_zero, RpV.cells, List.getElem?_cons_zero, List.getElem?_cons_succ, Nat.zero_mul, Nat.add_zero] at q5
          clear hrp hRQ hRq hL9 hfP
          unfold set2 at eQ
          go_upto_region 23 with (fail)
          rw [← eQ]
          clear eQ d0 d1 df0 df1 t0 t1 zd zt hS7 hR7 hL7 hL8 tb7
          have w4 := (tbQ.c 4 (by decide)).1
          have w6 := (tbQ.c 6 (by decide)).1
          have wz := tbQ.lt
          simp only [List.getD_cons_zero, List.getD_cons_succ] at w4 w6
          obtain ⟨hBF, -, -⟩ := HY.out Q bQ
          rw [er] at w4
          go_wp2
          go_ret
          exact ⟨by simp, hBF⟩
        · have hbq : ((q : Int) != (bad : Int)) = true := by simp; omega
          have hbq2 : ((q : Int) == (bad : Int)) = false := by simp; omega
          have hwk : IntKind.i64.wrap ((k : Int) - 1) = (k : Int) - 1 := by simp [IntKind.wrap, IntKind.bits, IntKind.signed]; omega
          by_cases hlast : q + 1 = k
          · skip
            obtain ⟨U2, hU2⟩ : ∃ U2 : World, U2 = U.alloc (.cells #[.int .i64 7, .int .i64 kh, .int .i64 0, .int .i64 0, .int .i64 1, .int .i64 kl, .int .i64 (q : Int), .int .i64 0, .int .i64 kv, .int .i64 0, .bool true, .int .i64 0] 46) := ⟨_, rfl⟩
            have bU2 : Below U.heap.size U U2 := by rw [hU2]; exact (Below.refl _ _).alloc (Nat.le_refl _) _
            have xb : BoxN U2 U.heap.size 12 [.int .i64 7, .int .i64 kh, .int .i64 0, .int .i64 0, .int .i64 1, .int .i64 kl, .int .i64 (q : Int), .int .i64 0, .int .i64 kv, .int .i64 0, .bool true, .int .i64 0] := by rw [hU2]; exact boxn_new U #[.int .i64 7, .int .i64 kh, .int .i64 0, .int .i64 0, .int .i64 1, .int .i64 kl, .int .i64 (q : Int), .int .i64 0, .int .i64 kv, .int .i64 0, .bool true, .int .i64 0] 46 12 rfl
            go_upto_region 21 with (fail)
            rw [← hU2]
            clear hU2 u2 u3 u4 u5 u6 u8 uz ub
            replace hSU := hSU.below bU2
            replace hRU := St.IsRow.below hRU bU2
            replace cbU := cbU.below bU2 cbU.lt
            replace hlU := hlU.below bU2
            replace hbU := hbU.trans (bU2.mono hbU.size)
            obtain ⟨js0, ix0, mo0, hDk0, hb0⟩ := hSU.dkIs
            have hE0 := hr_C (s := (S : Int)) (y := true) hSi1 hSi4 (show q < 5 by omega) hOK.out
            obtain ⟨nx9, js9, ms9, rs9, hA⟩ := sure_last (s := (S : Int)) hSi1 hSi4 (show q + 1 = k by omega) hn5 hOK.out
            unfold srM at hA hE0
            rw [← HEK.out.1, ← HEK.out.2.1, ← HEK.out.2.2] at hA hE0
            have HHr : Hid (Calls Tryd.prog 11 #[.agg #[.int .i64 (S : Int), .slice (some ⟨g0, 0, none⟩) 2 2, .int .i64 3], .int .i64 1, .int .i64 0, .agg #[.int .i64 2, .slice da 1 dc], .agg #[.int .i64 7, .int .i64 kh, .int .i64 0, .int .i64 0, .int .i64 1, .int .i64 kl, .int .i64 (q : Int), .int .i64 0, .int .i64 kv, .int .i64 0, .bool true, .int .i64 0]] U2 fun e w' => ∃ (v' : CkV) (ix' : List (Nat × Nat)) (more' : List Rw), e = .returned (.tuple #[.agg #[.int .i64 nx9, .slice v'.ja v'.jl v'.jc, .slice v'.ma v'.ml v'.mc, .slice v'.ra v'.rl v'.rc, .slice v'.pa 1 v'.pc, .int .i64 0, .int .i64 1], .int .i64 0]) ∧ Live U2.heap.size w' v' ix' more' ⟨nx9, js9, ms9, rs9, [⟨0, 4, 1, 0, 0, 0⟩], 0, 1⟩ ∧ Below U2.heap.size U2 w') := by
              refine (hear_dk S 3 (some ⟨g0, 0, none⟩) 2 2 LS2 1 0 2 da dc [jC k q] ⟨7, kh, 0, 0, 1, kl, (q : Int), 0, kv, 0, true, 0⟩ U2 hlU hDk0 hb0 (fun V' hV' => KT.out V' (hbU.trans (hV'.mono hbU.size)))).mono ?_
              rintro e x ⟨v', ix', more', rfl, g1, g2⟩
              rw [hA] at g1
              exact ⟨v', ix', more', by rw [hE0, g1.turn (jl := v'.jl) (ml := v'.ml) (rl := v'.rl) (pl := 1) rfl g1.js.2.symm g1.ms.2.symm g1.rs.2.symm rfl rfl rfl]; rfl, g1, g2⟩
            have x0 := (cbU.c 0 (by decide)).1
            have x1 := (cbU.c 1 (by decide)).1
            have x2 := (cbU.c 2 (by decide)).1
            have zc := cbU.lt
            have d0 := (hSU.box.c 0 (by decide)).1
            have d1 := (hSU.box.c 1 (by decide)).1
            have zd := hSU.box.lt
            have v0 := (xb.c 0 (by decide)).1
            have v1 := (xb.c 1 (by decide)).1
            have v2 := (xb.c 2 (by decide)).1
            have v3 := (xb.c 3 (by decide)).1
            have v4 := (xb.c 4 (by decide)).1
            have v5 := (xb.c 5 (by decide)).1
            have v6 := (xb.c 6 (by decide)).1
            have v7 := (xb.c 7 (by decide)).1
            have v8 := (xb.c 8 (by decide)).1
            have v9 := (xb.c 9 (by decide)).1
            have v10 := (xb.c 10 (by decide)).1
            have v11 := (xb.c 11 (by decide)).1
            have vz := xb.lt
            simp only [List.getD_cons_zero, List.getD_cons_succ] at x0 x1 x2 d0 d1 v0 v1 v2 v3 v4 v5 v6 v7 v8 v9 v10 v11
            have HSU : Hid _ := hSU
            have HRU : Hid _ := hRU
            clear hA hE0 hDk0 hb0 hSU hRU cbU hlU
            go_upto_region 22 with (go_at_call 11; refine HHr.out.mono ?_; rintro e z ⟨V7, iz7, mz7, rfl, hL7, hbz⟩)
            clear x0 x1 x2 zc d0 d1 zd v0 v1 v2 v3 v4 v5 v6 v7 v8 v9 v10 v11 vz HHr xb
            obtain ⟨Z7, eZ7⟩ : ∃ Z7 : World, Z7 = z.alloc (.cells #[.int .i64 nx9, .slice V7.ja V7.jl V7.jc, .slice V7.ma V7.ml V7.mc, .slice V7.ra V7.rl V7.rc, .slice V7.pa 1 V7.pc, .int .i64 0, .int .i64 1] 34) := ⟨_, rfl⟩
            have bZ7 : Below z.heap.size z Z7 := by rw [eZ7]; exact (Below.refl _ _).alloc (Nat.le_refl _) _
            have tb7 : BoxN Z7 z.heap.size 7 [.int .i64 nx9, .slice V7.ja V7.jl V7.jc, .slice V7.ma V7.ml V7.mc, .slice V7.ra V7.rl V7.rc, .slice V7.pa 1 V7.pc, .int .i64 0, .int .i64 1] := by rw [eZ7]; exact boxn_new z #[.int .i64 nx9, .slice V7.ja V7.jl V7.jc, .slice V7.ma V7.ml V7.mc, .slice V7.ra V7.rl V7.rc, .slice V7.pa 1 V7.pc, .int .i64 0, .int .i64 1] 34 7 rfl
            rw [← eZ7]
            clear eZ7
            have hb7 := nT hbz bZ7
            have hS7 := HSU.out.below hb7
            have hR7 := St.IsRow.below HRU.out hb7
            have hL8 := hL7.below bZ7
            have hzD : X2.heap.size < z.heap.size := Nat.lt_of_lt_of_le HSU.out.box.lt hbz.size
            have d0 := (hS7.box.c 0 (by decide)).1
            have d1 := (hS7.box.c 1 (by decide)).1
            have df0 := (hS7.box.c 0 (by decide)).2
            have df1 := (hS7.box.c 1 (by decide)).2
            have zd := hS7.box.lt
            have t0 := (tb7.c 0 (by decide)).1
            have t1 := (tb7.c 1 (by decide)).1
            have zt := tb7.lt
            simp only [List.getD_cons_zero, List.getD_cons_succ] at d0 d1 t0 t1
            have hneD : z.heap.size ≠ X2.heap.size := by omega
            obtain ⟨Q, eQ⟩ : ∃ Q, Q = set2 Z7 X2.heap.size (.int .i64 nx9) (.slice V7.ja V7.jl V7.jc) := ⟨_, rfl⟩
            have tbQ : BoxN Q z.heap.size 7 [.int .i64 nx9, .slice V7.ja V7.jl V7.jc, .slice V7.ma V7.ml V7.mc, .slice V7.ra V7.rl V7.rc, .slice V7.pa 1 V7.pc, .int .i64 0, .int .i64 1] := by rw [eQ]; exact (tb7.far hneD).far hneD
            have bQ : Below X2.heap.size X2 Q := by rw [eQ]; exact ((hS7.bel).setCell (p := ⟨X2.heap.size, 0, none⟩) (Nat.le_refl _) _).setCell (p := ⟨X2.heap.size, 1, none⟩) (Nat.le_refl _) _
            have hfP : Far X2.heap.size (V7.rows ++ mz7) := hL8.farOld HSU.out.box.lt
            have hL9 := (hL8.aside hfP 0 (.int .i64 nx9)).aside hfP 1 (.slice V7.ja V7.jl V7.jc)
            have hRq := hL9.reps
            rw [hL9.ps.1, hL9.ps.2] at hRq
            simp only [List.length_cons, List.length_nil, Nat.zero_add] at hRq
            have hRQ : IsRow 6 RpV.cells Q V7.pa 1 V7.pc [⟨0, 4, 1, 0, 0, 0⟩] := by rw [eQ]; exact hRq
            obtain ⟨rb, ro, er, zr, hrp⟩ := hRQ.2.2.2.2 (by decide)
            have hcp : 0 < V7.pc := hRQ.2.1
            have q5 := hrp 0 (by decide) 5 (by decide)
            simp only [List.getD_cons_zero, RpV.cells, List.getElem?_cons_zero, List.getElem?_cons_succ, Nat.zero_mul, Nat.add_zero] at q5
            clear hrp hRQ hRq hL9 hfP
            unfold set2 at eQ
            go_upto_region 23 with (fail)
            rw [← eQ]
            clear eQ d0 d1 df0 df1 t0 t1 zd zt hS7 hR7 hL7 hL8 tb7
            have w4 := (tbQ.c 4 (by decide)).1
            have w6 := (tbQ.c 6 (by decide)).1
            have wz := tbQ.lt
            simp only [List.getD_cons_zero, List.getD_cons_succ] at w4 w6
            obtain ⟨hBF, -, -⟩ := HY.out Q bQ
            rw [er] at w4
            have hk1 : ((q : Int) == (k : Int) - 1) = true := by simp; omega
            go_wp2
            go_ret
            exact ⟨by simp, hBF⟩
          · skip
            obtain ⟨U2, hU2⟩ : ∃ U2 : World, U2 = U.alloc (.cells #[.int .i64 7, .int .i64 kh, .int .i64 0, .int .i64 0, .int .i64 1, .int .i64 kl, .int .i64 (q : Int), .int .i64 0, .int .i64 kv, .int .i64 0, .bool true, .int .i64 0] 46) := ⟨_, rfl⟩
            have bU2 : Below U.heap.size U U2 := by rw [hU2]; exact (Below.refl _ _).alloc (Nat.le_refl _) _
            have xb : BoxN U2 U.heap.size 12 [.int .i64 7, .int .i64 kh, .int .i64 0, .int .i64 0, .int .i64 1, .int .i64 kl, .int .i64 (q : Int), .int .i64 0, .int .i64 kv, .int .i64 0, .bool true, .int .i64 0] := by rw [hU2]; exact boxn_new U #[.int .i64 7, .int .i64 kh, .int .i64 0, .int .i64 0, .int .i64 1, .int .i64 kl, .int .i64 (q : Int), .int .i64 0, .int .i64 kv, .int .i64 0, .bool true, .int .i64 0] 46 12 rfl
            go_upto_region 21 with (fail)
            rw [← hU2]
            clear hU2 u2 u3 u4 u5 u6 u8 uz ub
            replace hSU := hSU.below bU2
            replace hRU := St.IsRow.below hRU bU2
            replace cbU := cbU.below bU2 cbU.lt
            replace hlU := hlU.below bU2
            replace hbU := hbU.trans (bU2.mono hbU.size)
            obtain ⟨js0, ix0, mo0, hDk0, hb0⟩ := hSU.dkIs
            have hE0 := hr_C (s := (S : Int)) (y := true) hSi1 hSi4 (show q < 5 by omega) hOK.out
            have hA := sure_on (s := (S : Int)) hSi1 hSi4 (show q + 1 < k by omega) hn5 hOK.out
            have HO4 : Hid (DOK S 2 2 [jC k (q + 1)]) := dok_on hSi1 hSi4 (by omega) hn5 hOK.out
            unfold srM at hA hE0
            rw [← HEK.out.1, ← HEK.out.2.1, ← HEK.out.2.2] at hA hE0
            have HHr : Hid (Calls Tryd.prog 11 #[.agg #[.int .i64 (S : Int), .slice (some ⟨g0, 0, none⟩) 2 2, .int .i64 3], .int .i64 1, .int .i64 0, .agg #[.int .i64 2, .slice da 1 dc], .agg #[.int .i64 7, .int .i64 kh, .int .i64 0, .int .i64 0, .int .i64 1, .int .i64 kl, .int .i64 (q : Int), .int .i64 0, .int .i64 kv, .int .i64 0, .bool true, .int .i64 0]] U2 fun e w' => ∃ (v' : CkV) (ix' : List (Nat × Nat)) (more' : List Rw), e = .returned (.tuple #[.agg #[.int .i64 2, .slice v'.ja 1 v'.jc, .slice v'.ma 0 v'.mc, .slice v'.ra 0 v'.rc, .slice v'.pa 0 v'.pc, .int .i64 0, .int .i64 0], .int .i64 0]) ∧ Live U2.heap.size w' v' ix' more' ⟨2, [jC k (q + 1)], [], [], [], 0, 0⟩ ∧ Below U2.heap.size U2 w') := by
              refine (hear_dk S 3 (some ⟨g0, 0, none⟩) 2 2 LS2 1 0 2 da dc [jC k q] ⟨7, kh, 0, 0, 1, kl, (q : Int), 0, kv, 0, true, 0⟩ U2 hlU hDk0 hb0 (fun V' hV' => KT.out V' (hbU.trans (hV'.mono hbU.size)))).mono ?_
              rintro e x ⟨v', ix', more', rfl, g1, g2⟩
              rw [hA] at g1
              exact ⟨v', ix', more', by rw [hE0, g1.turn (jl := 1) (ml := 0) (rl := 0) (pl := 0) rfl rfl rfl rfl rfl rfl rfl]; rfl, g1, g2⟩
            have x0 := (cbU.c 0 (by decide)).1
            have x1 := (cbU.c 1 (by decide)).1
            have x2 := (cbU.c 2 (by decide)).1
            have zc := cbU.lt
            have d0 := (hSU.box.c 0 (by decide)).1
            have d1 := (hSU.box.c 1 (by decide)).1
            have zd := hSU.box.lt
            have v0 := (xb.c 0 (by decide)).1
            have v1 := (xb.c 1 (by decide)).1
            have v2 := (xb.c 2 (by decide)).1
            have v3 := (xb.c 3 (by decide)).1
            have v4 := (xb.c 4 (by decide)).1
            have v5 := (xb.c 5 (by decide)).1
            have v6 := (xb.c 6 (by decide)).1
            have v7 := (xb.c 7 (by decide)).1
            have v8 := (xb.c 8 (by decide)).1
            have v9 := (xb.c 9 (by decide)).1
            have v10 := (xb.c 10 (by decide)).1
            have v11 := (xb.c 11 (by decide)).1
            have vz := xb.lt
            simp only [List.getD_cons_zero, List.getD_cons_succ] at x0 x1 x2 d0 d1 v0 v1 v2 v3 v4 v5 v6 v7 v8 v9 v10 v11
            have HSU : Hid _ := hSU
            have HRU : Hid _ := hRU
            clear hA hE0 hDk0 hb0 hSU hRU cbU hlU
            go_upto_region 22 with (go_at_call 11; refine HHr.out.mono ?_; rintro e z ⟨V7, iz7, mz7, rfl, hL7, hbz⟩)
            clear x0 x1 x2 zc d0 d1 zd v0 v1 v2 v3 v4 v5 v6 v7 v8 v9 v10 v11 vz HHr xb
            obtain ⟨Z7, eZ7⟩ : ∃ Z7 : World, Z7 = z.alloc (.cells #[.int .i64 2, .slice V7.ja 1 V7.jc, .slice V7.ma 0 V7.mc, .slice V7.ra 0 V7.rc, .slice V7.pa 0 V7.pc, .int .i64 0, .int .i64 0] 34) := ⟨_, rfl⟩
            have bZ7 : Below z.heap.size z Z7 := by rw [eZ7]; exact (Below.refl _ _).alloc (Nat.le_refl _) _
            have tb7 : BoxN Z7 z.heap.size 7 [.int .i64 2, .slice V7.ja 1 V7.jc, .slice V7.ma 0 V7.mc, .slice V7.ra 0 V7.rc, .slice V7.pa 0 V7.pc, .int .i64 0, .int .i64 0] := by rw [eZ7]; exact boxn_new z #[.int .i64 2, .slice V7.ja 1 V7.jc, .slice V7.ma 0 V7.mc, .slice V7.ra 0 V7.rc, .slice V7.pa 0 V7.pc, .int .i64 0, .int .i64 0] 34 7 rfl
            rw [← eZ7]
            clear eZ7
            have hb7 := nT hbz bZ7
            have hS7 := HSU.out.below hb7
            have hR7 := St.IsRow.below HRU.out hb7
            have hL8 := hL7.below bZ7
            have hzD : X2.heap.size < z.heap.size := Nat.lt_of_lt_of_le HSU.out.box.lt hbz.size
            have d0 := (hS7.box.c 0 (by decide)).1
            have d1 := (hS7.box.c 1 (by decide)).1
            have df0 := (hS7.box.c 0 (by decide)).2
            have df1 := (hS7.box.c 1 (by decide)).2
            have zd := hS7.box.lt
            have t0 := (tb7.c 0 (by decide)).1
            have t1 := (tb7.c 1 (by decide)).1
            have zt := tb7.lt
            simp only [List.getD_cons_zero, List.getD_cons_succ] at d0 d1 t0 t1
            have hneD : z.heap.size ≠ X2.heap.size := by omega
            obtain ⟨Q, eQ⟩ : ∃ Q, Q = set2 Z7 X2.heap.size (.int .i64 2) (.slice V7.ja 1 V7.jc) := ⟨_, rfl⟩
            have tbQ : BoxN Q z.heap.size 7 [.int .i64 2, .slice V7.ja 1 V7.jc, .slice V7.ma 0 V7.mc, .slice V7.ra 0 V7.rc, .slice V7.pa 0 V7.pc, .int .i64 0, .int .i64 0] := by rw [eQ]; exact (tb7.far hneD).far hneD
            have bQ : Below X2.heap.size X2 Q := by rw [eQ]; exact ((hS7.bel).setCell (p := ⟨X2.heap.size, 0, none⟩) (Nat.le_refl _) _).setCell (p := ⟨X2.heap.size, 1, none⟩) (Nat.le_refl _) _
            have hTd := hL8.dk
            rw [hL8.nums.1, hL8.js.2] at hTd
            have hQ9 := hS7.put (J2 := jC k (q + 1)) hTd HSU.out.box.lt (Nat.le_trans HXD.out (Nat.le_of_lt HSU.out.box.lt))
            have hR9 : IsRow 12 mcells Q (some ⟨mb, mo, none⟩) k V.mc ((List.range k).map (ckM (S : Int))) := by rw [eQ]; exact row_far (row_far hR7 HNe.out) HNe.out
            rw [← eQ] at hQ9
            have HI2 : Hid (∃ da dc, OneSt X1.heap.size X2.heap.size X2 Q (jC k (q + 1)) da dc) := ⟨_, _, hQ9⟩
            have HR2 : Hid (IsRow 12 mcells Q (some ⟨mb, mo, none⟩) k V.mc ((List.range k).map (ckM (S : Int)))) := hR9
            clear hTd hQ9 hR9
            unfold set2 at eQ
            go_upto_region 23 with (fail)
            rw [← eQ]
            clear eQ d0 d1 df0 df1 t0 t1 zd zt hS7 hR7 hL7 hL8 tb7
            have w4 := (tbQ.c 4 (by decide)).1
            have w6 := (tbQ.c 6 (by decide)).1
            have wz := tbQ.lt
            simp only [List.getD_cons_zero, List.getD_cons_succ] at w4 w6
            obtain ⟨hBF, -, -⟩ := HY.out Q bQ
            have hk1 : ((q : Int) == (k : Int) - 1) = false := by simp; omega
            go_wp2
            go_roundw
            case rel => exact ⟨q + 1, by go_num, by omega, by omega, HI2, HO4, HR2⟩
            case measure => simp [intOf]; omega
end Go.Proofs.YtdjnaahkcnklhabDoor.Co
