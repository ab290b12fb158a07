/- The walk of the law CommitPlain: at any numbers it returns true and leaves what was in memory. -/
import Derived.Test.YtdjnaahkcnklhabDoorA45CommitPlain
import Derived.Test.YtdjnaahkcnklhabDoorA35CommitPlain
import Derived.Test.YtdjnaahkcnklhabDoorM11CommitPlain
import Derived.OwnWalk
namespace Go.Proofs.YtdjnaahkcnklhabDoor.Co
open Go.ChangeShapes Go.WideShapes Go.ChangeAt Go.RowKit
open Go.Proofs.YtdjnaahkcnklhabDoor.St (BoxN boxn_new own_below grown_setCell IsRow Elem flat flat_append own_isRow idxI)
open Go.Proofs.YtdjnaahkcnklhabDoor.Pt (LS2 cfg_two two_any)
set_option linter.unusedVariables false

/-- What the first k keys are. -/
def pks (zs : List Int) (k : Nat) : List Int := (zs.take k).map fun z => pk z 8
theorem pks_succ {zs : List Int} {k : Nat} (h : k < zs.length) : pks zs (k + 1) = pks zs k ++ [pk (zs.getD k 0) 8] := by
  unfold pks
  rw [show zs.take (k + 1) = zs.take k ++ [zs.getD k 0] by rw [List.take_add_one]; simp [List.getD, h], List.map_append]
  rfl
theorem pks_len {zs : List Int} {k : Nat} (h : k ≤ zs.length) : (pks zs k).length = k := by
  unfold pks
  simp
  omega
theorem pks_in (zs : List Int) (k : Nat) : ∀ x ∈ pks zs k, 0 ≤ x ∧ x ≤ 7 := fun x hx => by
  unfold pks at hx
  obtain ⟨z, hz, rfl⟩ := List.mem_map.1 hx
  have := pk_bd z 8 (by omega)
  omega
theorem cntW_nil (S : Nat) : cntW S [] = 0 := by
  unfold cntW
  simp
theorem cntW_le (S : Nat) (ks : List Int) : cntW S ks ≤ S := by
  unfold cntW
  exact Nat.le_trans (List.length_filter_le _ _) (by simp)
set_option maxRecDepth 100000 in
set_option maxHeartbeats 16000000 in
theorem commitPlain_walk (s : Int) (a : Option Addr) (len cap : Nat) (zs : List Int) (w : World) (hs : (Lit.int .i64 s).wf = true) (hr : IsInts w a len cap zs) (hHa : HasAt w 0 mHas) (hTo : TopsAt w) :
    Calls Tryd.prog 3 #[.int .i64 s, .slice a len cap] w fun e w' => e = .returned (.bool true) ∧ Below w.heap.size w w' := by
  have bds : -9223372036854775808 ≤ s ∧ s ≤ 9223372036854775807 := by
    simp [Lit.wf, IntKind.min, IntKind.max, IntKind.signed, IntKind.bits] at hs
    omega
  clear hs
  have hgT : 1 < w.heap.size := World.block_lt_of_cell? w _ hTo.1
  have hgM : 0 < w.heap.size := hHa.lt (by decide)
  have KT : Hid (∀ U, Below w.heap.size w U → Tables U) := fun U hU => ⟨hHa.below hU hgM, hTo.below hU hgT⟩
  clear hHa hTo hgT hgM
  have hsp := pk_bd s 3 (by omega)
  have hTw := fun u => two_any s u bds
  obtain ⟨S, eS⟩ : ∃ S : Nat, (S : Int) = 1 + pk s 3 := ⟨(1 + pk s 3).toNat, by omega⟩
  rw [← eS] at hTw
  have hS1 : 1 ≤ S := by omega
  have hS3 : S ≤ 3 := by omega
  have hSi1 : (1 : Int) ≤ (S : Int) := by omega
  have hSi4 : (S : Int) ≤ 4 := by omega
  clear eS hsp
  have bw : Below w.heap.size w w := Below.refl _ _
  have hzl : zs.length = len := hr.1
  have HZL : Hid (zs.length = len) := hzl
  have hcl : len ≤ cap ∧ cap ≤ maxLen := ⟨hr.2.1, hr.2.2.1⟩
  unfold maxLen at hcl
  obtain ⟨hcl1, hcl2⟩ := hcl
  clear hzl
  go_enter Tryd.func3, Tryd.ntmps3
  go_upto_region 2 with (go_at_call 7; refine (hTw _).mono ?_; rintro e w1 ⟨g0, rfl, hlab, hg0, hb1⟩)
  clear hTw
  replace bw := bw.trans (hb1.mono bw.size)
  obtain ⟨X1, eX1⟩ : ∃ X : World, X = w1.alloc (.cells #[.int .i64 (S : Int), .slice (some ⟨g0, 0, none⟩) 2 2, .int .i64 3] 25) := ⟨_, rfl⟩
  have cb : BoxN X1 w1.heap.size 3 [.int .i64 (S : Int), .slice (some ⟨g0, 0, none⟩) 2 2, .int .i64 3] := by rw [eX1]; exact boxn_new w1 #[.int .i64 (S : Int), .slice (some ⟨g0, 0, none⟩) 2 2, .int .i64 3] 25 3 rfl
  have bX1 : Below w1.heap.size w1 X1 := by rw [eX1]; exact (Below.refl _ _).alloc (Nat.le_refl _) _
  rw [← eX1]
  clear eX1
  replace bw := bw.trans (bX1.mono bw.size)
  replace hlab := hlab.below bX1
  have HC1 : Hid (Calls Tryd.prog 8 #[.agg #[.int .i64 (S : Int), .slice (some ⟨g0, 0, none⟩) 2 2, .int .i64 3], .int .i64 0, .int .i64 0, .agg #[.int .i64 1, .slice none 0 0], .int .i64 6000, .agg #[.int .i64 1, .int .i64 0, .int .i64 0, .int .i64 0, .int .i64 0]] X1 fun e w' => ∃ (v' : CkV) (ix' : List (Nat × Nat)) (more' : List Rw), e = .returned (.tuple #[.agg #[.int .i64 2, .slice v'.ja 1 v'.jc, .slice v'.ma 0 v'.mc, .slice v'.ra 1 v'.rc, .slice v'.pa 1 v'.pc, .int .i64 0, .int .i64 0], .int .i64 0]) ∧ Live X1.heap.size w' v' ix' more' tBegin ∧ Below X1.heap.size X1 w') := call_first S 3 (some ⟨g0, 0, none⟩) 2 2 LS2 0 0 1 6000 ⟨1, 0, 0, 0, 0⟩ X1 hlab (ans_begin hSi1 hSi4 (Or.inl rfl)).1 (ans_begin hSi1 hSi4 (Or.inl rfl)).2 rfl rfl rfl rfl rfl rfl rfl
  have cb_0 : X1.cell? ⟨w1.heap.size, 0, none⟩ = some (.int .i64 (S : Int)) := (cb.c 0 (by decide)).1
  have cb_1 : X1.cell? ⟨w1.heap.size, 1, none⟩ = some (.slice (some ⟨g0, 0, none⟩) 2 2) := (cb.c 1 (by decide)).1
  have cb_2 : X1.cell? ⟨w1.heap.size, 2, none⟩ = some (.int .i64 3) := (cb.c 2 (by decide)).1
  have cb_z := cb.lt
  go_upto_region 3 with (go_at_call 8; refine HC1.out.mono ?_; rintro e y1 ⟨v1, ix1, more1, rfl, hL1, hc1⟩)
  clear cb_0 cb_1 cb_2 cb_z
  clear HC1
  replace cb := cb.below hc1 cb.lt
  replace bw := bw.trans (hc1.mono bw.size)
  replace hlab := hlab.below hc1
  obtain ⟨X2, eX2⟩ : ∃ X : World, X = y1.alloc (.cells #[.int .i64 2, .slice v1.ja 1 v1.jc, .slice v1.ma 0 v1.mc, .slice v1.ra 1 v1.rc, .slice v1.pa 1 v1.pc, .int .i64 0, .int .i64 0] 34) := ⟨_, rfl⟩
  have tb1 : BoxN X2 y1.heap.size 7 [.int .i64 2, .slice v1.ja 1 v1.jc, .slice v1.ma 0 v1.mc, .slice v1.ra 1 v1.rc, .slice v1.pa 1 v1.pc, .int .i64 0, .int .i64 0] := by rw [eX2]; exact boxn_new y1 #[.int .i64 2, .slice v1.ja 1 v1.jc, .slice v1.ma 0 v1.mc, .slice v1.ra 1 v1.rc, .slice v1.pa 1 v1.pc, .int .i64 0, .int .i64 0] 34 7 rfl
  have bX2 : Below y1.heap.size y1 X2 := by rw [eX2]; exact (Below.refl _ _).alloc (Nat.le_refl _) _
  rw [← eX2]
  clear eX2
  replace cb := cb.below bX2 cb.lt
  replace bw := bw.trans (bX2.mono bw.size)
  replace hlab := hlab.below bX2
  replace hL1 := hL1.below bX2
  have HY : Hid (∀ U, Below X2.heap.size X2 U → Below w.heap.size w U ∧ IsLabs U (some ⟨g0, 0, none⟩) 2 2 LS2 ∧ BoxN U w1.heap.size 3 [.int .i64 (S : Int), .slice (some ⟨g0, 0, none⟩) 2 2, .int .i64 3]) := fun U hU => ⟨bw.trans (hU.mono bw.size), hlab.below hU, cb.below hU cb.lt⟩
  have hdk0 := hL1.desk
  have hjb0 := hL1.js
  rw [hjb0.2] at hdk0
  have HD0 : Hid (DeskAt X2 X1.heap.size v1.ja 1 v1.jc v1.js ix1 more1 ∧ v1.js.map JbV.bare = [jDn (wrs [])]) := ⟨hdk0, hjb0.1⟩
  clear hdk0 hjb0
  have tb1_0 : X2.cell? ⟨y1.heap.size, 0, none⟩ = some (.int .i64 2) := (tb1.c 0 (by decide)).1
  have tb1_1 : X2.cell? ⟨y1.heap.size, 1, none⟩ = some (.slice v1.ja 1 v1.jc) := (tb1.c 1 (by decide)).1
  have tb1_z := tb1.lt
  go_upto_region 4 with (fail)
  clear tb1_0 tb1_1 tb1_z
  obtain ⟨X3, eX3⟩ : ∃ X : World, X = X2.alloc (.cells #[.int .i64 2, .slice v1.ja 1 v1.jc] 29) := ⟨_, rfl⟩
  have dbx : BoxN X3 X2.heap.size 2 [.int .i64 2, .slice v1.ja 1 v1.jc] := by rw [eX3]; exact boxn_new X2 #[.int .i64 2, .slice v1.ja 1 v1.jc] 29 2 rfl
  have bX3 : Below X2.heap.size X2 X3 := by rw [eX3]; exact (Below.refl _ _).alloc (Nat.le_refl _) _
  rw [← eX3]
  clear eX3
  replace cb := cb.below bX3 cb.lt
  replace tb1 := tb1.below bX3 tb1.lt
  replace bw := bw.trans (bX3.mono bw.size)
  replace hlab := hlab.below bX3
  replace hL1 := hL1.below bX3
  have hDGlt : X2.heap.size < X3.heap.size := dbx.lt
  obtain ⟨ib, hib, hiz, his, hiy⟩ := info_parts (P := Tryd.prog) (e := 4) (z := .bool false) (size := 1) (bytes := 1) (by kernel_rfl)
  obtain ⟨M, hrun, hown, hgr⟩ := run_makeSlice_full (P := Tryd.prog) (w := X3) X3.heap.size 40 4 ib (.bool false) 1 (by kernel_rfl) hib hiz his .i64 .i64 S (by omega) (by rw [hiy]; omega) (by unfold maxLen; omega) (Nat.le_refl _)
  have hbM : Below X3.heap.size X3 M := grownNone hgr
  have hmc : (madeCells (Value.bool false).cells (S * 1)).toList = handW S [] := by
    rcases (show S = 1 ∨ S = 2 ∨ S = 3 by omega) with rfl | rfl | rfl <;> kernel_rfl
  rw [hmc] at hown
  have hbx : BoxN M X3.heap.size S (handW S []) := row_boxS hown (handW_len S []) (by omega)
  clear hib hiz his hiy hown hgr hmc
  have cb_0 : X3.cell? ⟨w1.heap.size, 0, none⟩ = some (.int .i64 (S : Int)) := (cb.c 0 (by decide)).1
  have cb_z := cb.lt
  go_upto_region 5 with (fail)
  clear cb_0 cb_z
  clear hrun
  replace cb := cb.below hbM cb.lt
  replace tb1 := tb1.below hbM tb1.lt
  replace dbx := dbx.below hbM dbx.lt
  replace bw := bw.trans (hbM.mono bw.size)
  replace hlab := hlab.below hbM
  replace hL1 := hL1.below hbM
  have HPl : Hid (PlainSt S X1.heap.size X2.heap.size X3.heap.size X2 M (pks zs 0) (pks zs 0) v1.ja v1.jc) := by
    have hfar : Far X2.heap.size (jobRow v1.ja 1 v1.jc v1.js :: more1) := HD0.out.1.farNew (Nat.le_refl _)
    have hfar2 : Far X3.heap.size (jobRow v1.ja 1 v1.jc v1.js :: more1) := HD0.out.1.farNew bX3.size
    have hall : Below X2.heap.size X2 M := nT bX3 hbM
    exact ⟨dbx, ⟨v1.js, ix1, more1, HD0.out.1.below hall, hfar, hfar2, HD0.out.2⟩, hbx, hall⟩
  have HDG : Hid (X2.heap.size < X3.heap.size ∧ X3.heap.size < M.heap.size ∧ X1.heap.size ≤ X2.heap.size) := ⟨hDGlt, hbx.lt, nT hc1 bX2 |>.size⟩
  have HOK : Hid (DOK S 2 2 [jDn (wrs (pks zs 0))]) := dok_begin (l := 0) hSi1 hSi4 (Or.inl rfl)
  have HRr : Hid (∀ U, Below w.heap.size w U → IsInts U a len cap zs) := fun U hU => hr.below hU
  clear hlab hL1 cb tb1 dbx bw hr HD0 hbx hbM bX3 hDGlt bX2 hc1
  go_upto_region 7 with (fail)
  go_loopw [10, 11, 12, 13, 14] (fun s10 s11 _ _ _ wr => ∃ k : Nat, s11 = .int .i64 (k : Int) ∧ k ≤ len ∧ k ≤ 10 ∧ s10 = .int .i64 (cntW S (pks zs k) : Int) ∧ Hid (∃ da dc, PlainSt S X1.heap.size X2.heap.size X3.heap.size X2 wr (pks zs k) (pks zs k) da dc) ∧ Hid (X3.heap.size < wr.heap.size) ∧ Hid (DOK S 2 2 [jDn (wrs (pks zs k))])) (fun _ s11 _ _ _ _ => len - (intOf s11).toNat)
  case atStart => exact ⟨0, rfl, Nat.zero_le _, Nat.zero_le _, by rw [show pks zs 0 = [] by simp [pks], cntW_nil]; rfl, ⟨_, _, HPl.out⟩, HDG.out.2.1, HOK⟩
  case round =>
    clear HPl HOK
    obtain ⟨k, rfl, hk, hk10, rfl, hI, hGw, hOK⟩ := hrel
    obtain ⟨da, dc, hS⟩ := hI.out
    obtain ⟨hbw, hlw, cbw⟩ := HY.out wr hS.bel
    have hcn := cntW_le S (pks zs k)
    obtain ⟨CN, eCN⟩ : ∃ CN, CN = cntW S (pks zs k) := ⟨_, rfl⟩
    have HCN : Hid (CN = cntW S (pks zs k)) := eCN
    rw [← eCN] at hcn ⊢
    clear eCN
    by_cases hgo : k < len ∧ k < 10
    · obtain ⟨hlt, hl10⟩ := hgo
      have hlt' : (k : Int) < (len : Int) := by omega
      have hlt10 : (k : Int) < 10 := by omega
      have hrw := HRr.out wr hbw
      obtain ⟨b, off, rfl, zb, hcr⟩ := hrw.2.2.2.2 (by omega)
      have hcell := hcr k hlt
      have hzb := hrw.2.2.2.1 k
      have hkc : k < cap := by omega
      have HPS : Hid (pks zs (k + 1) = pks zs k ++ [pk (zs.getD k 0) 8] ∧ (pks zs k).length = k) := ⟨pks_succ (by rw [HZL.out]; exact hlt), pks_len (by rw [HZL.out]; omega)⟩
      have hkp := pk_bd (zs.getD k 0) 8 (by omega)
      have hPK := fun u => picked_any (zs.getD k 0) 8 u hzb (by omega) (by omega)
      obtain ⟨K, eK⟩ : ∃ K, K = pk (zs.getD k 0) 8 := ⟨_, rfl⟩
      rw [← eK] at HPS hkp hPK
      clear eK
      have hK7 : 0 ≤ K ∧ K ≤ 7 := by omega
      obtain ⟨z, ez⟩ : ∃ z, z = zs.getD k 0 := ⟨_, rfl⟩
      rw [← ez] at hcell hPK
      clear ez hzb hrw hcr
      go_upto_region 10 with (go_at_call 9; refine (hPK _).mono ?_; rintro e u ⟨rfl, hu⟩; rw [hu]; clear hu)
      clear hcell hPK hkp
      have hPut := put_W (s := (S : Int)) (ks := pks zs k) (k := K) hSi1 hSi4 hK7 (by rw [HPS.out.2]; exact hl10) hOK.out
      have hBak := back_W (s := (S : Int)) (ks := pks zs k) (k := K) hSi1 hSi4 hK7 (by rw [HPS.out.2]; exact hl10) hOK.out
      have HO2 : Hid (DOK S 2 2 [jDn (wrs (pks zs (k + 1)))]) := by
        show DOK S 2 2 [jDn (wrs (pks zs (k + 1)))]
        rw [HPS.out.1]
        exact dok_W hSi1 hSi4 hK7 (by rw [HPS.out.2]; exact hl10) hOK.out
      rw [← HPS.out.1] at hBak
      rw [HPS.out.2] at hPut hBak
      obtain ⟨js0, ix0, mo0, hDk0, hb0⟩ := hS.dkIs
      obtain ⟨J2, eJ2⟩ : ∃ J2, J2 = jWt (wrs (pks zs k)) ⟨true, 0, K, (k : Int), 0, (k : Int) + 1, false, false⟩ := ⟨_, rfl⟩
      rw [← eJ2] at hPut hBak
      have hE0 : clErr (C2 S 0) 2 [jDn (wrs (pks zs k))] 3 = 0 := cl_c2 hSi1 hSi4 (Or.inl rfl) hOK.out (by omega)
      have HCl : Hid (Calls Tryd.prog 8 #[.agg #[.int .i64 (S : Int), .slice (some ⟨g0, 0, none⟩) 2 2, .int .i64 3], .int .i64 0, .int .i64 0, .agg #[.int .i64 2, .slice da 1 dc], .int .i64 6000, .agg #[.int .i64 3, .int .i64 1, .int .i64 0, .int .i64 K, .int .i64 (k : Int)]] wr fun e w' => ∃ (v' : CkV) (ix' : List (Nat × Nat)) (more' : List Rw), e = .returned (.tuple #[.agg #[.int .i64 2, .slice v'.ja 1 v'.jc, .slice v'.ma 1 v'.mc, .slice v'.ra 0 v'.rc, .slice v'.pa 0 v'.pc, .int .i64 0, .int .i64 0], .int .i64 0]) ∧ Live wr.heap.size w' v' ix' more' ⟨2, [J2], [⟨2, 0, K % (S : Int), 0, 1, 0, K, (k : Int), 0, (k : Int) + 1, false, 0⟩], [], [], 0, 0⟩ ∧ Below wr.heap.size wr w') := by
        refine (call_dk S 3 (some ⟨g0, 0, none⟩) 2 2 LS2 0 0 2 da dc [jDn (wrs (pks zs k))] 6000 ⟨3, 1, 0, K, (k : Int)⟩ wr hlw hDk0 hb0).mono ?_
        rintro e x ⟨v', ix', more', rfl, g1, g2⟩
        rw [hPut] at g1
        exact ⟨v', ix', more', by rw [hE0, g1.turn (jl := 1) (ml := 1) (rl := 0) (pl := 0) rfl rfl rfl rfl rfl rfl rfl]; rfl, g1, g2⟩
      have HBak : Hid (backNx (C2 S 0) 2 [J2] ⟨2, 0, K % (S : Int), 0, 1, 0, K, (k : Int), 0, (k : Int) + 1, false, 0⟩ ⟨0, 0, 0, 0, 0, 0⟩ = 2 ∧ backJs (C2 S 0) 2 [J2] ⟨2, 0, K % (S : Int), 0, 1, 0, K, (k : Int), 0, (k : Int) + 1, false, 0⟩ ⟨0, 0, 0, 0, 0, 0⟩ = [jDn (wrs (pks zs (k + 1)))]) := hBak
      have HS : Hid (PlainSt S X1.heap.size X2.heap.size X3.heap.size X2 wr (pks zs k) (pks zs k) da dc) := hS
      have x0 := (cbw.c 0 (by decide)).1
      have x1 := (cbw.c 1 (by decide)).1
      have x2 := (cbw.c 2 (by decide)).1
      have zc := cbw.lt
      have d0 := (hS.box.c 0 (by decide)).1
      have d1 := (hS.box.c 1 (by decide)).1
      have zd := hS.box.lt
      simp only [List.getD_cons_zero, List.getD_cons_succ] at x0 x1 x2 d0 d1
      clear hE0 hPut hBak hDk0 hb0 eJ2 hS hlw cbw hbw hI
      go_upto_region 11 with (go_at_call 8; refine HCl.out.mono ?_; rintro e y ⟨V, iz, mz, rfl, hLv, hby⟩)
      clear x0 x1 x2 zc d0 d1 zd HCl
      obtain ⟨X4, eX4⟩ : ∃ X : World, X = y.alloc (.cells #[.int .i64 2, .slice V.ja 1 V.jc, .slice V.ma 1 V.mc, .slice V.ra 0 V.rc, .slice V.pa 0 V.pc, .int .i64 0, .int .i64 0] 34) := ⟨_, rfl⟩
      have tb : BoxN X4 y.heap.size 7 [.int .i64 2, .slice V.ja 1 V.jc, .slice V.ma 1 V.mc, .slice V.ra 0 V.rc, .slice V.pa 0 V.pc, .int .i64 0, .int .i64 0] := by rw [eX4]; exact boxn_new y #[.int .i64 2, .slice V.ja 1 V.jc, .slice V.ma 1 V.mc, .slice V.ra 0 V.rc, .slice V.pa 0 V.pc, .int .i64 0, .int .i64 0] 34 7 rfl
      have bX4 : Below y.heap.size y X4 := by rw [eX4]; exact (Below.refl _ _).alloc (Nat.le_refl _) _
      rw [← eX4]
      clear eX4
      replace hLv := hLv.below bX4
      have bYw : Below wr.heap.size wr X4 := nT hby bX4
      have hM := hLv.msgs
      rw [hLv.ms.1, hLv.ms.2] at hM
      simp only [List.length_cons, List.length_nil, Nat.zero_add] at hM
      obtain ⟨mb, mo, em, zm, hmc⟩ := hM.2.2.2.2 (by decide)
      have hcm : 0 < V.mc := hM.2.1
      have p0 := hmc 0 (by decide) 0 (by decide)
      have p1 := hmc 0 (by decide) 1 (by decide)
      have p2 := hmc 0 (by decide) 2 (by decide)
      have p3 := hmc 0 (by decide) 3 (by decide)
      have p4 := hmc 0 (by decide) 4 (by decide)
      have p5 := hmc 0 (by decide) 5 (by decide)
      have p6 := hmc 0 (by decide) 6 (by decide)
      have p7 := hmc 0 (by decide) 7 (by decide)
      have p8 := hmc 0 (by decide) 8 (by decide)
      have p9 := hmc 0 (by decide) 9 (by decide)
      have p10 := hmc 0 (by decide) 10 (by decide)
      have p11 := hmc 0 (by decide) 11 (by decide)
      simp only [List.getD_cons_zero, mcells, List.getElem?_cons_zero, List.getElem?_cons_succ, Nat.zero_mul, Nat.add_zero] at p0 p1 p2 p3 p4 p5 p6 p7 p8 p9 p10 p11
      clear hmc
      have tb_2 : X4.cell? ⟨y.heap.size, 2, none⟩ = some (.slice V.ma 1 V.mc) := (tb.c 2 (by decide)).1
      have tb_z := tb.lt
      go_upto_region 13 with (fail)
      clear tb_2 tb_z
      have KC : Hid (∀ U, Below X4.heap.size X4 U → (U.cell? ⟨w1.heap.size, 0, none⟩ = some (.int .i64 (S : Int)) ∧ U.cell? ⟨w1.heap.size, 1, none⟩ = some (.slice (some ⟨g0, 0, none⟩) 2 2) ∧ U.cell? ⟨w1.heap.size, 2, none⟩ = some (.int .i64 3) ∧ w1.heap.size < U.heap.size) ∧ (U.cell? ⟨y.heap.size, 0, none⟩ = some (.int .i64 2) ∧ U.cell? ⟨y.heap.size, 1, none⟩ = some (.slice V.ja 1 V.jc) ∧ U.cell? ⟨y.heap.size, 2, none⟩ = some (.slice (some ⟨mb, mo, none⟩) 1 V.mc) ∧ y.heap.size < U.heap.size) ∧ (U.cell? ⟨mb, mo, none⟩ = some (.int .i64 2) ∧ U.cell? ⟨mb, mo + 1, none⟩ = some (.int .i64 0) ∧ U.cell? ⟨mb, mo + 2, none⟩ = some (.int .i64 (K % (S : Int))) ∧ U.cell? ⟨mb, mo + 3, none⟩ = some (.int .i64 0) ∧ U.cell? ⟨mb, mo + 4, none⟩ = some (.int .i64 1) ∧ U.cell? ⟨mb, mo + 5, none⟩ = some (.int .i64 0) ∧ U.cell? ⟨mb, mo + 6, none⟩ = some (.int .i64 K) ∧ U.cell? ⟨mb, mo + 7, none⟩ = some (.int .i64 (k : Int)) ∧ U.cell? ⟨mb, mo + 8, none⟩ = some (.int .i64 0) ∧ U.cell? ⟨mb, mo + 9, none⟩ = some (.int .i64 ((k : Int) + 1)) ∧ U.cell? ⟨mb, mo + 10, none⟩ = some (.bool false) ∧ U.cell? ⟨mb, mo + 11, none⟩ = some (.int .i64 0) ∧ mb < U.heap.size) ∧ PlainSt S X1.heap.size X2.heap.size X3.heap.size X2 U (pks zs k) (pks zs k) da dc) := fun U hU => by
        have hwU := nT bYw hU
        have hP := HS.out.below hwU
        obtain ⟨-, -, cbU⟩ := HY.out U hP.bel
        have tbU := tb.below hU tb.lt
        have hMU := St.IsRow.below hM hU
        obtain ⟨mb', mo', em', zm', hmc'⟩ := hMU.2.2.2.2 (by decide)
        rw [em] at em'
        simp at em'
        obtain ⟨rfl, rfl⟩ := em'
        have tc2 := (tbU.c 2 (by decide)).1
        simp only [List.getD_cons_zero, List.getD_cons_succ] at tc2
        rw [em] at tc2
        have hmc9_0 := hmc' 0 (by decide) 0 (by decide)
        have hmc9_1 := hmc' 0 (by decide) 1 (by decide)
        have hmc9_2 := hmc' 0 (by decide) 2 (by decide)
        have hmc9_3 := hmc' 0 (by decide) 3 (by decide)
        have hmc9_4 := hmc' 0 (by decide) 4 (by decide)
        have hmc9_5 := hmc' 0 (by decide) 5 (by decide)
        have hmc9_6 := hmc' 0 (by decide) 6 (by decide)
        have hmc9_7 := hmc' 0 (by decide) 7 (by decide)
        have hmc9_8 := hmc' 0 (by decide) 8 (by decide)
        have hmc9_9 := hmc' 0 (by decide) 9 (by decide)
        have hmc9_10 := hmc' 0 (by decide) 10 (by decide)
        have hmc9_11 := hmc' 0 (by decide) 11 (by decide)
        simp only [List.getD_cons_zero, mcells, List.getElem?_cons_zero, List.getElem?_cons_succ, Nat.zero_mul, Nat.add_zero] at hmc9_0 hmc9_1 hmc9_2 hmc9_3 hmc9_4 hmc9_5 hmc9_6 hmc9_7 hmc9_8 hmc9_9 hmc9_10 hmc9_11
        refine ⟨⟨(cbU.c 0 (by decide)).1, (cbU.c 1 (by decide)).1, (cbU.c 2 (by decide)).1, cbU.lt⟩, ⟨(tbU.c 0 (by decide)).1, (tbU.c 1 (by decide)).1, tc2, tbU.lt⟩, ⟨hmc9_0, hmc9_1, hmc9_2, hmc9_3, hmc9_4, hmc9_5, hmc9_6, hmc9_7, hmc9_8, hmc9_9, hmc9_10, hmc9_11, zm'⟩, hP⟩
      have hTd := hLv.dk
      have hnn := hLv.nums.1
      have hjj := hLv.js.2
      rw [hnn, hjj] at hTd
      have HBk : Hid (∀ U, Below X4.heap.size X4 U → Calls Tryd.prog 10 #[.agg #[.int .i64 (S : Int), .slice (some ⟨g0, 0, none⟩) 2 2, .int .i64 3], .int .i64 0, .int .i64 0, .agg #[.int .i64 2, .slice V.ja 1 V.jc], .agg #[.int .i64 2, .int .i64 0, .int .i64 (K % (S : Int)), .int .i64 0, .int .i64 1, .int .i64 0, .int .i64 K, .int .i64 (k : Int), .int .i64 0, .int .i64 ((k : Int) + 1), .bool false, .int .i64 0], .agg #[.int .i64 0, .int .i64 0, .int .i64 0, .int .i64 0, .int .i64 0, .int .i64 0]] U fun e w' => ∃ (a2 : Option Addr) (c2 : Nat), e = .returned (.agg #[.int .i64 2, .slice a2 1 c2]) ∧ DkIs wr.heap.size w' (.agg #[.int .i64 2, .slice a2 1 c2]) 2 [jDn (wrs (pks zs (k + 1)))] ∧ Below U.heap.size U w') := fun U hU => by
        have hwU := nT bYw hU
        obtain ⟨hbU, hlU, -⟩ := HY.out U (HS.out.below hwU).bel
        refine (back_any S 3 (some ⟨g0, 0, none⟩) 2 2 LS2 0 0 2 (.agg #[.int .i64 2, .slice V.ja 1 V.jc]) [J2] ⟨2, 0, K % (S : Int), 0, 1, 0, K, (k : Int), 0, (k : Int) + 1, false, 0⟩ ⟨0, 0, 0, 0, 0, 0⟩ U hwU.size hlU (hTd.below hU) (fun V' hV' => KT.out V' (hbU.trans (hV'.mono hbU.size))) (by refine ⟨?_, ?_, ?_, ?_, ?_, ?_⟩ <;> simp [St.Bd])).mono ?_
        rintro e x ⟨⟨D2, rfl, hD2⟩, hb2⟩
        rw [HBak.out.1, HBak.out.2] at hD2
        have hD3 := hD2
        obtain ⟨a2, c2, js2, ix2, mo2, rfl, -, -⟩ := hD2
        exact ⟨a2, c2, rfl, hD3, hb2⟩
      have HGW : Hid (X2.heap.size < wr.heap.size ∧ X3.heap.size < wr.heap.size ∧ X1.heap.size ≤ wr.heap.size ∧ X2.heap.size ≠ X3.heap.size) := ⟨HS.out.box.lt, hGw.out, Nat.le_trans HDG.out.2.2 (Nat.le_of_lt HS.out.box.lt), by have := HDG.out.1; omega⟩
      clear hTd hnn hjj hM em tb hLv p0 p1 p2 p3 p4 p5 p6 p7 p8 p9 p10 p11
      refine wp_region_inv (by kernel_rfl) [65, 66, 67, 68, 69, 70, 71, 72, 73] (fun L T u => ∃ (ba : Option Addr) (bcp : Nat), True ∧ (L 0 = true → T 65 = .agg #[.int .i64 (S : Int), .slice (some ⟨g0, 0, none⟩) 2 2, .int .i64 3]) ∧ (L 1 = true → T 66 = .pointer (some ⟨y.heap.size, 0, none⟩)) ∧ (L 2 = true → T 67 = .agg #[.int .i64 2, .slice V.ja 1 V.jc]) ∧ (L 3 = true → T 68 = .pointer (some ⟨y.heap.size, 2, none⟩)) ∧ (L 4 = true → T 69 = .slice (some ⟨mb, mo, none⟩) 1 V.mc) ∧ (L 5 = true → T 70 = .pointer (some ⟨mb, mo, none⟩)) ∧ (L 6 = true → T 71 = .agg #[.int .i64 2, .int .i64 0, .int .i64 (K % (S : Int)), .int .i64 0, .int .i64 1, .int .i64 0, .int .i64 K, .int .i64 (k : Int), .int .i64 0, .int .i64 ((k : Int) + 1), .bool false, .int .i64 0]) ∧ (L 7 = true → T 72 = .agg #[.int .i64 0, .int .i64 0, .int .i64 0, .int .i64 0, .int .i64 0, .int .i64 0]) ∧ (L 8 = true → T 73 = .agg #[.int .i64 2, .slice ba 1 bcp]) ∧ (L 9 = false → Below X4.heap.size X4 u) ∧ (L 9 = true → (PlainSt S X1.heap.size X2.heap.size X3.heap.size X2 u (pks zs (k + 1)) (pks zs k) ba bcp ∧ wr.heap.size ≤ u.heap.size)) ∧ (L 8 = true → L 9 = false → DkIs wr.heap.size u (.agg #[.int .i64 2, .slice ba 1 bcp]) 2 [jDn (wrs (pks zs (k + 1)))])) (by decide) (by kernel_rfl) (by kernel_rfl) ?_ ?_ ?_
      · exact ⟨none, 0, trivial, nofun, nofun, nofun, nofun, nofun, nofun, nofun, nofun, nofun, fun _ => (Below.refl _ _).drew, nofun, nofun⟩
      · refine ⟨?_, ?_, ?_, ?_, ?_, ?_, ?_, ?_, ?_, ?_, trivial⟩
        · rintro L T u hd hk hcl ⟨ba, bcp, hb, p0, p1, p2, p3, p4, p5, p6, p7, p8, c1, c2, dkf⟩ K hK
          simp only [fr, Act.put, List.setIfInBounds_toArray, List.set_cons_zero, List.set_cons_succ, updO] at hK ⊢
          simp [Region.binds] at hd
          have k9 := hcl 9 _ rfl
          simp [Region.binds] at k9
          have k8 := hcl 8 _ rfl
          simp [Region.binds] at k8
          have hE : L 9 = false := by cases h : L 9 with | false => rfl | true => have a9 := k9 h; have a8 := k8 (by simp [a9]); simp [hk] at a8
          obtain ⟨⟨x0, x1, x2, x3⟩, ⟨y0, y1, y2, y3⟩, ⟨m0, m1, m2, m3, m4, m5, m6, m7, m8, m9, m10, m11, mz9⟩, hPU⟩ := KC.out u (c1 hE)
          clear hPU
          rw [if_pos (by rfl)]
          simp only [Oper.wpv]
          go_simp
          exact hK _ _ ⟨ba, bcp, hb, fun _ => rfl, p1, p2, p3, p4, p5, p6, p7, p8, c1, c2, dkf⟩
        · rintro L T u hd hk hcl ⟨ba, bcp, hb, p0, p1, p2, p3, p4, p5, p6, p7, p8, c1, c2, dkf⟩ K hK
          simp only [fr, Act.put, List.setIfInBounds_toArray, List.set_cons_zero, List.set_cons_succ, updO] at hK ⊢
          simp [Region.binds] at hd
          rw [if_pos (by rfl)]
          simp only [Oper.wpv]
          go_simp
          exact hK _ _ ⟨ba, bcp, hb, p0, fun _ => rfl, p2, p3, p4, p5, p6, p7, p8, c1, c2, dkf⟩
        · rintro L T u hd hk hcl ⟨ba, bcp, hb, p0, p1, p2, p3, p4, p5, p6, p7, p8, c1, c2, dkf⟩ K hK
          simp only [fr, Act.put, List.setIfInBounds_toArray, List.set_cons_zero, List.set_cons_succ, updO] at hK ⊢
          simp [Region.binds] at hd
          have g1 := p1 (by simp [hd])
          have k9 := hcl 9 _ rfl
          simp [Region.binds] at k9
          have k8 := hcl 8 _ rfl
          simp [Region.binds] at k8
          have hE : L 9 = false := by cases h : L 9 with | false => rfl | true => have a9 := k9 h; have a8 := k8 (by simp [a9]); simp [hk] at a8
          obtain ⟨⟨x0, x1, x2, x3⟩, ⟨y0, y1, y2, y3⟩, ⟨m0, m1, m2, m3, m4, m5, m6, m7, m8, m9, m10, m11, mz9⟩, hPU⟩ := KC.out u (c1 hE)
          clear hPU
          rw [if_pos (by rfl)]
          simp only [Oper.wpv]
          go_simp
          exact hK _ _ ⟨ba, bcp, hb, p0, p1, fun _ => rfl, p3, p4, p5, p6, p7, p8, c1, c2, dkf⟩
        · rintro L T u hd hk hcl ⟨ba, bcp, hb, p0, p1, p2, p3, p4, p5, p6, p7, p8, c1, c2, dkf⟩ K hK
          simp only [fr, Act.put, List.setIfInBounds_toArray, List.set_cons_zero, List.set_cons_succ, updO] at hK ⊢
          simp [Region.binds] at hd
          rw [if_pos (by rfl)]
          simp only [Oper.wpv]
          go_simp
          exact hK _ _ ⟨ba, bcp, hb, p0, p1, p2, fun _ => rfl, p4, p5, p6, p7, p8, c1, c2, dkf⟩
        · rintro L T u hd hk hcl ⟨ba, bcp, hb, p0, p1, p2, p3, p4, p5, p6, p7, p8, c1, c2, dkf⟩ K hK
          simp only [fr, Act.put, List.setIfInBounds_toArray, List.set_cons_zero, List.set_cons_succ, updO] at hK ⊢
          simp [Region.binds] at hd
          have g3 := p3 (by simp [hd])
          have k9 := hcl 9 _ rfl
          simp [Region.binds] at k9
          have k8 := hcl 8 _ rfl
          simp [Region.binds] at k8
          have k6 := hcl 6 _ rfl
          simp [Region.binds] at k6
          have k5 := hcl 5 _ rfl
          simp [Region.binds] at k5
          have hE : L 9 = false := by cases h : L 9 with | false => rfl | true => have a9 := k9 h; have a8 := k8 (by simp [a9]); have a6 := k6 (by simp [a8]); have a5 := k5 (by simp [a6]); simp [hk] at a5
          obtain ⟨⟨x0, x1, x2, x3⟩, ⟨y0, y1, y2, y3⟩, ⟨m0, m1, m2, m3, m4, m5, m6, m7, m8, m9, m10, m11, mz9⟩, hPU⟩ := KC.out u (c1 hE)
          clear hPU
          rw [if_pos (by rfl)]
          simp only [Oper.wpv]
          go_simp
          exact hK _ _ ⟨ba, bcp, hb, p0, p1, p2, p3, fun _ => rfl, p5, p6, p7, p8, c1, c2, dkf⟩
        · rintro L T u hd hk hcl ⟨ba, bcp, hb, p0, p1, p2, p3, p4, p5, p6, p7, p8, c1, c2, dkf⟩ K hK
          simp only [fr, Act.put, List.setIfInBounds_toArray, List.set_cons_zero, List.set_cons_succ, updO] at hK ⊢
          simp [Region.binds] at hd
          have g4 := p4 (by simp [hd])
          rw [if_pos (by rfl)]
          simp only [Oper.wpv]
          go_simp
          exact hK _ _ ⟨ba, bcp, hb, p0, p1, p2, p3, p4, fun _ => rfl, p6, p7, p8, c1, c2, dkf⟩
        · rintro L T u hd hk hcl ⟨ba, bcp, hb, p0, p1, p2, p3, p4, p5, p6, p7, p8, c1, c2, dkf⟩ K hK
          simp only [fr, Act.put, List.setIfInBounds_toArray, List.set_cons_zero, List.set_cons_succ, updO] at hK ⊢
          simp [Region.binds] at hd
          have g5 := p5 (by simp [hd])
          have k9 := hcl 9 _ rfl
          simp [Region.binds] at k9
          have k8 := hcl 8 _ rfl
          simp [Region.binds] at k8
          have hE : L 9 = false := by cases h : L 9 with | false => rfl | true => have a9 := k9 h; have a8 := k8 (by simp [a9]); simp [hk] at a8
          obtain ⟨⟨x0, x1, x2, x3⟩, ⟨y0, y1, y2, y3⟩, ⟨m0, m1, m2, m3, m4, m5, m6, m7, m8, m9, m10, m11, mz9⟩, hPU⟩ := KC.out u (c1 hE)
          clear hPU
          rw [if_pos (by rfl)]
          simp only [Oper.wpv]
          go_simp
          exact hK _ _ ⟨ba, bcp, hb, p0, p1, p2, p3, p4, p5, fun _ => rfl, p7, p8, c1, c2, dkf⟩
        · rintro L T u hd hk hcl ⟨ba, bcp, hb, p0, p1, p2, p3, p4, p5, p6, p7, p8, c1, c2, dkf⟩ K hK
          simp only [fr, Act.put, List.setIfInBounds_toArray, List.set_cons_zero, List.set_cons_succ, updO] at hK ⊢
          simp [Region.binds] at hd
          rw [if_pos (by rfl)]
          simp only [Oper.wpv]
          go_simp
          exact hK _ _ ⟨ba, bcp, hb, p0, p1, p2, p3, p4, p5, p6, fun _ => rfl, p8, c1, c2, dkf⟩
        · rintro L T u hd hk hcl ⟨ba, bcp, hb, p0, p1, p2, p3, p4, p5, p6, p7, p8, c1, c2, dkf⟩ K hK
          simp only [fr, Act.put, List.setIfInBounds_toArray, List.set_cons_zero, List.set_cons_succ, updO] at hK ⊢
          simp [Region.binds] at hd
          have g0 := p0 (by simp [hd])
          have g2 := p2 (by simp [hd])
          have g6 := p6 (by simp [hd])
          have g7 := p7 (by simp [hd])
          have k9 := hcl 9 _ rfl
          simp [Region.binds] at k9
          have hE : L 9 = false := by cases h : L 9 with | false => rfl | true => have a9 := k9 h; simp [hk] at a9
          rw [if_pos (by rfl)]
          simp only [Oper.wpv]
          go_simp
          refine (HBk.out _ (c1 hE)).mono ?_
          rintro e u1 ⟨a5, c5, rfl, hdk5, hg⟩
          exact hK _ _ ⟨a5, c5, hb, p0, p1, p2, p3, p4, p5, p6, p7, fun _ => rfl, fun _ => nT (c1 hE) hg, fun h => absurd (show L 9 = true from h) (by simp [hE]), fun _ _ => hdk5⟩
        · rintro L T u hd hk hcl ⟨ba, bcp, hb, p0, p1, p2, p3, p4, p5, p6, p7, p8, c1, c2, dkf⟩ K hK
          simp only [fr, Act.put, List.setIfInBounds_toArray, List.set_cons_zero, List.set_cons_succ, updO] at hK ⊢
          simp [Region.binds] at hd
          have g8 := p8 (by simp [hd])
          have hE : L 9 = false := hk
          have hDk9 := dkf (by simp [hd]) hk
          have hP9 := (KC.out u (c1 hE)).2.2.2
          have e0 := (hP9.box.c 0 (by decide)).1
          have ef0 := (hP9.box.c 0 (by decide)).2
          have e1 := (hP9.box.c 1 (by decide)).1
          have ef1 := (hP9.box.c 1 (by decide)).2
          have zd9 := hP9.box.lt
          simp only [List.getD_cons_zero, List.getD_cons_succ] at e0 e1
          have hQ9 := hP9.put hDk9 HGW.out.1 HGW.out.2.1 HGW.out.2.2.1 HGW.out.2.2.2
          have HQ9 : Hid _ := hQ9
          have HU9 : Hid (wr.heap.size ≤ u.heap.size) := (nT bYw (c1 hE)).size
          clear hQ9 hP9 hDk9
          rw [if_pos (by rfl)]
          simp only [Oper.wpv]
          go_simp
          exact hK _ _ ⟨ba, bcp, hb, p0, p1, p2, p3, p4, p5, p6, p7, p8, fun h => Bool.noConfusion (show true = false from h), fun _ => ⟨HQ9.out, by simpa using HU9.out⟩, fun _ h => Bool.noConfusion (show true = false from h)⟩
      · rintro L T u hl ⟨ba, bcp, hb, p0, p1, p2, p3, p4, p5, p6, p7, p8, c1, c2, dkf⟩
        simp only [fr, Act.put, List.setIfInBounds_toArray, List.set_cons_zero, List.set_cons_succ]
        obtain ⟨hP, hUw⟩ := c2 (hl 9 (by decide))
        clear p0 p1 p2 p3 p4 p5 p6 p7 p8 c1 c2 dkf KC HBk HBak hb
        have hrr : ∃ r : Nat, K % (S : Int) = (r : Int) ∧ r < S := ⟨(K % (S : Int)).toNat, by have h8 := Int.emod_nonneg K (show (S : Int) ≠ 0 by omega); omega, by have h8 := Int.emod_nonneg K (show (S : Int) ≠ 0 by omega); have h9 := Int.emod_lt_of_pos K (show (0 : Int) < (S : Int) by omega); omega⟩
        obtain ⟨r, hr1, hr2⟩ := hrr
        have hrem : Int.tmod K (S : Int) = (r : Int) := by rw [Int.tmod_eq_emod_of_nonneg hK7.1]; exact hr1
        have hsn : ((S : Int) == 0) = false := by simp; omega
        have hhc := (hP.hands.c r hr2).1
        have hhf := (hP.hands.c r hr2).2
        have hhz := hP.hands.lt
        rw [handW_get hr2] at hhc
        obtain ⟨-, -, cbu⟩ := HY.out u hP.bel
        have x0 := (cbu.c 0 (by decide)).1
        have zc := cbu.lt
        simp only [List.getD_cons_zero] at x0
        have HCS := cntW_snoc (ks := pks zs k) hr1 hr2
        obtain ⟨Q, eQ⟩ : ∃ Q, Q = ((pks zs k).any fun k => k % (S : Int) == (r : Int)) := ⟨_, rfl⟩
        have HQ : Hid (((pks zs k).any fun k => k % (S : Int) == (r : Int)) = Q) := eQ.symm
        rw [← eQ] at hhc HCS
        rw [← HPS.out.1, ← HCN.out] at HCS
        have HP : Hid (PlainSt S X1.heap.size X2.heap.size X3.heap.size X2 u (pks zs (k + 1)) (pks zs k) ba bcp) := hP
        have HR : Hid (K % (S : Int) = (r : Int)) := hr1
        have HUW : Hid (X3.heap.size < u.heap.size) := Nat.lt_of_lt_of_le hGw.out hUw
        have hwk : IntKind.i64.wrap ((CN : Int) + 1) = (CN : Int) + 1 := by simp [IntKind.wrap, IntKind.bits, IntKind.signed]; omega
        have hrS : (r : Int) < (S : Int) := by omega
        clear eQ hP hr1 cbu hUw
        cases Q with
        | true =>
          have HC2 : Hid (cntW S (pks zs (k + 1)) = CN) := HCS
          have HI2 : Hid (∃ da dc, PlainSt S X1.heap.size X2.heap.size X3.heap.size X2 u (pks zs (k + 1)) (pks zs (k + 1)) da dc) := by
            have h9 := HP.out.same HR.out hr2 HQ.out
            rw [← HPS.out.1] at h9
            exact ⟨_, _, h9⟩
          clear HCS
          go_wp2
          go_roundw
          case rel => exact ⟨k + 1, by go_num, by omega, by omega, by rw [HC2.out], HI2, HUW, HO2⟩
          case measure => simp [intOf]; omega
        | false =>
          have HC2 : Hid (cntW S (pks zs (k + 1)) = CN + 1) := HCS
          have HI2 : Hid (∃ da dc, PlainSt S X1.heap.size X2.heap.size X3.heap.size X2 (u.setCell ⟨X3.heap.size, r, none⟩ (.bool true)) (pks zs (k + 1)) (pks zs (k + 1)) da dc) := by
            have h9 := HP.out.hand HR.out hr2 HDG.out.1
            rw [← HPS.out.1] at h9
            exact ⟨_, _, h9⟩
          have HUW2 : Hid (X3.heap.size < (u.setCell ⟨X3.heap.size, r, none⟩ (.bool true)).heap.size) := by show _ < _; simpa using HUW.out
          clear HCS
          go_wp2
          go_roundw
          case rel => exact ⟨k + 1, by go_num, by omega, by omega, by rw [HC2.out]; simp, HI2, HUW2, HO2⟩
          case measure => simp [intOf]; omega
    · by_cases hlt : k < len
      · have hlt' : (k : Int) < (len : Int) := by omega
        have hl10 : ¬ (k : Int) < 10 := by omega
        have hA := commit_W (S := S) (ks := pks zs k) hS1 (by omega) (pks_in zs k) hOK.out
        obtain ⟨js9, ms9, rs9, hA, hjl, hrl, hml, hmm⟩ := hA
        rw [← HCN.out] at hjl hrl hml
        obtain ⟨JL, eJL⟩ : ∃ JL, JL = js9.length := ⟨_, rfl⟩
        obtain ⟨RL, eRL⟩ : ∃ RL, RL = rs9.length := ⟨_, rfl⟩
        rw [← eJL] at hjl
        rw [← eRL] at hrl
        have HJL : Hid (JL = if CN = 0 then 0 else 1) := hjl
        have HRL : Hid (RL = if CN = 0 then 0 else 1) := hrl
        obtain ⟨js0, ix0, mo0, hDk0, hb0⟩ := hS.dkIs
        have hE0 : clErr (C2 S 0) 2 [jDn (wrs (pks zs k))] 4 = 0 := cl_c2 hSi1 hSi4 (Or.inl rfl) hOK.out (by omega)
        have HCl : Hid (Calls Tryd.prog 8 #[.agg #[.int .i64 (S : Int), .slice (some ⟨g0, 0, none⟩) 2 2, .int .i64 3], .int .i64 0, .int .i64 0, .agg #[.int .i64 2, .slice da 1 dc], .int .i64 6000, .agg #[.int .i64 4, .int .i64 1, .int .i64 0, .int .i64 0, .int .i64 0]] wr fun e w' => ∃ (v' : CkV) (ix' : List (Nat × Nat)) (more' : List Rw), e = .returned (.tuple #[.agg #[.int .i64 2, .slice v'.ja JL v'.jc, .slice v'.ma CN v'.mc, .slice v'.ra RL v'.rc, .slice v'.pa 1 v'.pc, .int .i64 1, .int .i64 1], .int .i64 0]) ∧ Live wr.heap.size w' v' ix' more' ⟨2, js9, ms9, rs9, [⟨0, 4, 1, 0, 0, 0⟩], 1, 1⟩ ∧ Below wr.heap.size wr w') := by
          refine (call_dk S 3 (some ⟨g0, 0, none⟩) 2 2 LS2 0 0 2 da dc [jDn (wrs (pks zs k))] 6000 ⟨4, 1, 0, 0, 0⟩ wr hlw hDk0 hb0).mono ?_
          rintro e x ⟨v', ix', more', rfl, g1, g2⟩
          rw [hA] at g1
          exact ⟨v', ix', more', by rw [hE0, g1.turn (jl := JL) (ml := CN) (rl := RL) (pl := 1) rfl eJL.symm hml eRL.symm rfl rfl rfl]; rfl, g1, g2⟩
        have HMM : Hid (∀ i, i < CN → ∃ r : Nat, r < S ∧ ms9.getD i default = decM 0 1 true r ∧ ((pks zs k).any fun k => k % (S : Int) == (r : Int)) = true) := fun i hi => hmm _ (mem_at (by rw [hml]; exact hi))
        have HML : Hid (ms9.length = CN) := hml
        have HS : Hid (PlainSt S X1.heap.size X2.heap.size X3.heap.size X2 wr (pks zs k) (pks zs k) da dc) := hS
        have x0 := (cbw.c 0 (by decide)).1
        have x1 := (cbw.c 1 (by decide)).1
        have x2 := (cbw.c 2 (by decide)).1
        have zc := cbw.lt
        have d0 := (hS.box.c 0 (by decide)).1
        have d1 := (hS.box.c 1 (by decide)).1
        have zd := hS.box.lt
        simp only [List.getD_cons_zero, List.getD_cons_succ] at x0 x1 x2 d0 d1
        clear hA hjl hrl hml hmm eJL eRL hDk0 hb0 hE0 hS hlw cbw hI
        go_upto_region 18 with (go_at_call 8; refine HCl.out.mono ?_; rintro e y ⟨V, iz, mz, rfl, hLv, hby⟩)
        clear x0 x1 x2 zc d0 d1 zd HCl
        obtain ⟨Y, eY⟩ : ∃ Y : World, Y = y.alloc (.cells #[.int .i64 2, .slice V.ja JL V.jc, .slice V.ma CN V.mc, .slice V.ra RL V.rc, .slice V.pa 1 V.pc, .int .i64 1, .int .i64 1] 34) := ⟨_, rfl⟩
        have bY : Below y.heap.size y Y := by rw [eY]; exact (Below.refl _ _).alloc (Nat.le_refl _) _
        have tb : BoxN Y y.heap.size 7 [.int .i64 2, .slice V.ja JL V.jc, .slice V.ma CN V.mc, .slice V.ra RL V.rc, .slice V.pa 1 V.pc, .int .i64 1, .int .i64 1] := by rw [eY]; exact boxn_new y #[.int .i64 2, .slice V.ja JL V.jc, .slice V.ma CN V.mc, .slice V.ra RL V.rc, .slice V.pa 1 V.pc, .int .i64 1, .int .i64 1] 34 7 rfl
        rw [← eY]
        clear eY
        have bYw : Below wr.heap.size wr Y := nT hby bY
        have hLY := hLv.below bY
        have hR := hLY.reps
        rw [hLY.ps.1, hLY.ps.2] at hR
        simp only [List.length_cons, List.length_nil, Nat.zero_add] at hR
        obtain ⟨rb, ro, er, zr, hrp⟩ := hR.2.2.2.2 (by decide)
        have hcp : 0 < V.pc := hR.2.1
        have q5 := hrp 0 (by decide) 5 (by decide)
        simp only [List.getD_cons_zero, RpV.cells, List.getElem?_cons_zero, List.getElem?_cons_succ, Nat.zero_mul, Nat.add_zero] at q5
        have hM := hLY.msgs
        rw [hLY.ms.1, hLY.ms.2, show (⟨2, js9, ms9, rs9, [⟨0, 4, 1, 0, 0, 0⟩], 1, 1⟩ : Tn).ms = ms9 from rfl, HML.out] at hM
        have HM : Hid (∀ U, Below Y.heap.size Y U → IsRow 12 mcells U V.ma CN V.mc ms9) := fun U hU => St.IsRow.below hM hU
        have hMc : CN ≤ V.mc ∧ V.mc ≤ maxLen := ⟨hM.2.1, hM.2.2.1⟩
        unfold maxLen at hMc
        obtain ⟨hMc1, hMc2⟩ := hMc
        have HTb : Hid (∀ U, Below Y.heap.size Y U → BoxN U y.heap.size 7 [.int .i64 2, .slice V.ja JL V.jc, .slice V.ma CN V.mc, .slice V.ra RL V.rc, .slice V.pa 1 V.pc, .int .i64 1, .int .i64 1]) := fun U hU => tb.below hU tb.lt
        have HPY : Hid (∀ U, Below Y.heap.size Y U → PlainSt S X1.heap.size X2.heap.size X3.heap.size X2 U (pks zs k) (pks zs k) da dc ∧ Below w.heap.size w U) := fun U hU => ⟨HS.out.below (nT bYw hU), hbw.trans ((nT bYw hU).mono hbw.size)⟩
        have t1 := (tb.c 2 (by decide)).1
        have t3 := (tb.c 4 (by decide)).1
        have t5 := (tb.c 5 (by decide)).1
        have t6 := (tb.c 6 (by decide)).1
        have zt := tb.lt
        simp only [List.getD_cons_zero, List.getD_cons_succ] at t1 t3 t5 t6
        rw [er] at t3
        clear hrp hR hM hLY hLv tb
        go_upto_region 21 with (fail)
        clear t1 t3 t5 t6 zt q5
        go_loopw [18, 137] (fun _ s137 wi => ∃ q : Nat, s137 = .int .i64 (q : Int) ∧ q ≤ CN ∧ Hid (Below Y.heap.size Y wi)) (fun _ s137 _ => CN - (intOf s137).toNat)
        case atStart => exact ⟨0, rfl, Nat.zero_le _, Below.refl _ _⟩
        case round =>
          obtain ⟨q, rfl, hq, hbq⟩ := hrel
          rename World => wi
          by_cases hlq : q < CN
          · have hlq' : (q : Int) < (CN : Int) := by omega
            have hmr := HM.out wi hbq.out
            obtain ⟨mb, mo, em, zm, hmc⟩ := hmr.2.2.2.2 (by omega)
            have hmq := hmc q hlq
            obtain ⟨r, hr2, er2, har⟩ := HMM.out q hlq
            rw [er2] at hmq
            have hqc : q < V.mc := by omega
            have m0 := hmq 0 (by decide); have m1 := hmq 1 (by decide); have m2 := hmq 2 (by decide); have m3 := hmq 3 (by decide); have m4 := hmq 4 (by decide); have m5 := hmq 5 (by decide); have m6 := hmq 6 (by decide); have m7 := hmq 7 (by decide); have m8 := hmq 8 (by decide); have m9 := hmq 9 (by decide); have m10 := hmq 10 (by decide); have m11 := hmq 11 (by decide)
            simp only [mcells, decM, List.getElem?_cons_zero, List.getElem?_cons_succ, Nat.add_zero] at m0 m1 m2 m3 m4 m5 m6 m7 m8 m9 m10 m11
            obtain ⟨hPi, -⟩ := HPY.out wi hbq.out
            have hhc0 := (hPi.hands.c r hr2).1
            have hhz0 := hPi.hands.lt
            rw [handW_get hr2, har] at hhc0
            obtain ⟨U, hU⟩ : ∃ U : World, U = wi.alloc (.cells #[.int .i64 4, .int .i64 0, .int .i64 (r : Int), .int .i64 0, .int .i64 1, .int .i64 0, .int .i64 0, .int .i64 0, .int .i64 0, .int .i64 0, .bool true, .int .i64 0] 46) := ⟨_, rfl⟩
            have bU : Below wi.heap.size wi U := by rw [hU]; exact (Below.refl _ _).alloc (Nat.le_refl _) _
            have l0 : U.cell? ⟨wi.heap.size, 0, none⟩ = some (.int .i64 4) := by rw [hU]; go_simp
            have l2 : U.cell? ⟨wi.heap.size, 2, none⟩ = some (.int .i64 (r : Int)) := by rw [hU]; go_simp
            have l10 : U.cell? ⟨wi.heap.size, 10, none⟩ = some (.bool true) := by rw [hU]; go_simp
            have zl : wi.heap.size < U.heap.size := by rw [hU]; simp
            have hhc : U.cell? ⟨X3.heap.size, r, none⟩ = some (.bool true) := (bU.cell (p := ⟨X3.heap.size, r, none⟩) hhz0).trans hhc0
            have hhz : X3.heap.size < U.heap.size := Nat.lt_of_lt_of_le hhz0 bU.size
            have HbU : Hid (Below Y.heap.size Y U) := nT hbq.out bU
            obtain ⟨vma, evma⟩ : ∃ vma, vma = V.ma := ⟨_, rfl⟩
            rw [← evma] at em ⊢
            subst em
            have hrS : (r : Int) < (S : Int) := by omega
            clear hmc hmq hmr er2 har hPi hhc0 hhz0 evma
            go_upto_region 23 with (fail)
            rw [← hU]
            clear hU m0 m1 m2 m3 m4 m5 m6 m7 m8 m9 m10 m11
            go_wp2
            go_roundw
            case rel => exact ⟨q + 1, by go_num, by omega, HbU⟩
            case measure => simp [intOf]; omega
          · have hlq' : ¬ (q : Int) < (CN : Int) := by omega
            have tbw := HTb.out wi hbq.out
            have hBF := (HPY.out wi hbq.out).2
            have t1 := (tbw.c 1 (by decide)).1
            have t3 := (tbw.c 3 (by decide)).1
            have zt := tbw.lt
            simp only [List.getD_cons_zero, List.getD_cons_succ] at t1 t3
            by_cases hc0 : CN = 0
            · subst hc0
              have hj0 : JL = 0 := by rw [HJL.out]; rfl
              have hr0 : RL = 0 := by rw [HRL.out]; rfl
              subst hj0 hr0
              clear HJL HRL tbw
              go_wp2
              go_ret
              exact ⟨by simp, hBF⟩
            · have hj0 : JL = 1 := by rw [HJL.out, if_neg hc0]
              have hr0 : RL = 1 := by rw [HRL.out, if_neg hc0]
              subst hj0 hr0
              have hc1 : ¬ (CN : Int) < 1 := by omega
              have hc2 : (1 : Int) ≤ (CN : Int) := by omega
              clear HJL HRL tbw hc0
              go_wp2
              all_goals
                go_ret
                exact ⟨by first | (simp; done) | (simp; omega), hBF⟩
      · have hlt' : ¬ (k : Int) < (len : Int) := by omega
        have hA := commit_W (S := S) (ks := pks zs k) hS1 (by omega) (pks_in zs k) hOK.out
        obtain ⟨js9, ms9, rs9, hA, hjl, hrl, hml, hmm⟩ := hA
        rw [← HCN.out] at hjl hrl hml
        obtain ⟨JL, eJL⟩ : ∃ JL, JL = js9.length := ⟨_, rfl⟩
        obtain ⟨RL, eRL⟩ : ∃ RL, RL = rs9.length := ⟨_, rfl⟩
        rw [← eJL] at hjl
        rw [← eRL] at hrl
        have HJL : Hid (JL = if CN = 0 then 0 else 1) := hjl
        have HRL : Hid (RL = if CN = 0 then 0 else 1) := hrl
        obtain ⟨js0, ix0, mo0, hDk0, hb0⟩ := hS.dkIs
        have hE0 : clErr (C2 S 0) 2 [jDn (wrs (pks zs k))] 4 = 0 := cl_c2 hSi1 hSi4 (Or.inl rfl) hOK.out (by omega)
        have HCl : Hid (Calls Tryd.prog 8 #[.agg #[.int .i64 (S : Int), .slice (some ⟨g0, 0, none⟩) 2 2, .int .i64 3], .int .i64 0, .int .i64 0, .agg #[.int .i64 2, .slice da 1 dc], .int .i64 6000, .agg #[.int .i64 4, .int .i64 1, .int .i64 0, .int .i64 0, .int .i64 0]] wr fun e w' => ∃ (v' : CkV) (ix' : List (Nat × Nat)) (more' : List Rw), e = .returned (.tuple #[.agg #[.int .i64 2, .slice v'.ja JL v'.jc, .slice v'.ma CN v'.mc, .slice v'.ra RL v'.rc, .slice v'.pa 1 v'.pc, .int .i64 1, .int .i64 1], .int .i64 0]) ∧ Live wr.heap.size w' v' ix' more' ⟨2, js9, ms9, rs9, [⟨0, 4, 1, 0, 0, 0⟩], 1, 1⟩ ∧ Below wr.heap.size wr w') := by
          refine (call_dk S 3 (some ⟨g0, 0, none⟩) 2 2 LS2 0 0 2 da dc [jDn (wrs (pks zs k))] 6000 ⟨4, 1, 0, 0, 0⟩ wr hlw hDk0 hb0).mono ?_
          rintro e x ⟨v', ix', more', rfl, g1, g2⟩
          rw [hA] at g1
          exact ⟨v', ix', more', by rw [hE0, g1.turn (jl := JL) (ml := CN) (rl := RL) (pl := 1) rfl eJL.symm hml eRL.symm rfl rfl rfl]; rfl, g1, g2⟩
        have HMM : Hid (∀ i, i < CN → ∃ r : Nat, r < S ∧ ms9.getD i default = decM 0 1 true r ∧ ((pks zs k).any fun k => k % (S : Int) == (r : Int)) = true) := fun i hi => hmm _ (mem_at (by rw [hml]; exact hi))
        have HML : Hid (ms9.length = CN) := hml
        have HS : Hid (PlainSt S X1.heap.size X2.heap.size X3.heap.size X2 wr (pks zs k) (pks zs k) da dc) := hS
        have x0 := (cbw.c 0 (by decide)).1
        have x1 := (cbw.c 1 (by decide)).1
        have x2 := (cbw.c 2 (by decide)).1
        have zc := cbw.lt
        have d0 := (hS.box.c 0 (by decide)).1
        have d1 := (hS.box.c 1 (by decide)).1
        have zd := hS.box.lt
        simp only [List.getD_cons_zero, List.getD_cons_succ] at x0 x1 x2 d0 d1
        clear hA hjl hrl hml hmm eJL eRL hDk0 hb0 hE0 hS hlw cbw hI
        go_upto_region 18 with (go_at_call 8; refine HCl.out.mono ?_; rintro e y ⟨V, iz, mz, rfl, hLv, hby⟩)
        clear x0 x1 x2 zc d0 d1 zd HCl
        obtain ⟨Y, eY⟩ : ∃ Y : World, Y = y.alloc (.cells #[.int .i64 2, .slice V.ja JL V.jc, .slice V.ma CN V.mc, .slice V.ra RL V.rc, .slice V.pa 1 V.pc, .int .i64 1, .int .i64 1] 34) := ⟨_, rfl⟩
        have bY : Below y.heap.size y Y := by rw [eY]; exact (Below.refl _ _).alloc (Nat.le_refl _) _
        have tb : BoxN Y y.heap.size 7 [.int .i64 2, .slice V.ja JL V.jc, .slice V.ma CN V.mc, .slice V.ra RL V.rc, .slice V.pa 1 V.pc, .int .i64 1, .int .i64 1] := by rw [eY]; exact boxn_new y #[.int .i64 2, .slice V.ja JL V.jc, .slice V.ma CN V.mc, .slice V.ra RL V.rc, .slice V.pa 1 V.pc, .int .i64 1, .int .i64 1] 34 7 rfl
        rw [← eY]
        clear eY
        have bYw : Below wr.heap.size wr Y := nT hby bY
        have hLY := hLv.below bY
        have hR := hLY.reps
        rw [hLY.ps.1, hLY.ps.2] at hR
        simp only [List.length_cons, List.length_nil, Nat.zero_add] at hR
        obtain ⟨rb, ro, er, zr, hrp⟩ := hR.2.2.2.2 (by decide)
        have hcp : 0 < V.pc := hR.2.1
        have q5 := hrp 0 (by decide) 5 (by decide)
        simp only [List.getD_cons_zero, RpV.cells, List.getElem?_cons_zero, List.getElem?_cons_succ, Nat.zero_mul, Nat.add_zero] at q5
        have hM := hLY.msgs
        rw [hLY.ms.1, hLY.ms.2, show (⟨2, js9, ms9, rs9, [⟨0, 4, 1, 0, 0, 0⟩], 1, 1⟩ : Tn).ms = ms9 from rfl, HML.out] at hM
        have HM : Hid (∀ U, Below Y.heap.size Y U → IsRow 12 mcells U V.ma CN V.mc ms9) := fun U hU => St.IsRow.below hM hU
        have hMc : CN ≤ V.mc ∧ V.mc ≤ maxLen := ⟨hM.2.1, hM.2.2.1⟩
        unfold maxLen at hMc
        obtain ⟨hMc1, hMc2⟩ := hMc
        have HTb : Hid (∀ U, Below Y.heap.size Y U → BoxN U y.heap.size 7 [.int .i64 2, .slice V.ja JL V.jc, .slice V.ma CN V.mc, .slice V.ra RL V.rc, .slice V.pa 1 V.pc, .int .i64 1, .int .i64 1]) := fun U hU => tb.below hU tb.lt
        have HPY : Hid (∀ U, Below Y.heap.size Y U → PlainSt S X1.heap.size X2.heap.size X3.heap.size X2 U (pks zs k) (pks zs k) da dc ∧ Below w.heap.size w U) := fun U hU => ⟨HS.out.below (nT bYw hU), hbw.trans ((nT bYw hU).mono hbw.size)⟩
        have t1 := (tb.c 2 (by decide)).1
        have t3 := (tb.c 4 (by decide)).1
        have t5 := (tb.c 5 (by decide)).1
        have t6 := (tb.c 6 (by decide)).1
        have zt := tb.lt
        simp only [List.getD_cons_zero, List.getD_cons_succ] at t1 t3 t5 t6
        rw [er] at t3
        clear hrp hR hM hLY hLv tb
        go_upto_region 21 with (fail)
        clear t1 t3 t5 t6 zt q5
        go_loopw [18, 137] (fun _ s137 wi => ∃ q : Nat, s137 = .int .i64 (q : Int) ∧ q ≤ CN ∧ Hid (Below Y.heap.size Y wi)) (fun _ s137 _ => CN - (intOf s137).toNat)
        case atStart => exact ⟨0, rfl, Nat.zero_le _, Below.refl _ _⟩
        case round =>
          obtain ⟨q, rfl, hq, hbq⟩ := hrel
          rename World => wi
          by_cases hlq : q < CN
          · have hlq' : (q : Int) < (CN : Int) := by omega
            have hmr := HM.out wi hbq.out
            obtain ⟨mb, mo, em, zm, hmc⟩ := hmr.2.2.2.2 (by omega)
            have hmq := hmc q hlq
            obtain ⟨r, hr2, er2, har⟩ := HMM.out q hlq
            rw [er2] at hmq
            have hqc : q < V.mc := by omega
            have m0 := hmq 0 (by decide); have m1 := hmq 1 (by decide); have m2 := hmq 2 (by decide); have m3 := hmq 3 (by decide); have m4 := hmq 4 (by decide); have m5 := hmq 5 (by decide); have m6 := hmq 6 (by decide); have m7 := hmq 7 (by decide); have m8 := hmq 8 (by decide); have m9 := hmq 9 (by decide); have m10 := hmq 10 (by decide); have m11 := hmq 11 (by decide)
            simp only [mcells, decM, List.getElem?_cons_zero, List.getElem?_cons_succ, Nat.add_zero] at m0 m1 m2 m3 m4 m5 m6 m7 m8 m9 m10 m11
            obtain ⟨hPi, -⟩ := HPY.out wi hbq.out
            have hhc0 := (hPi.hands.c r hr2).1
            have hhz0 := hPi.hands.lt
            rw [handW_get hr2, har] at hhc0
            obtain ⟨U, hU⟩ : ∃ U : World, U = wi.alloc (.cells #[.int .i64 4, .int .i64 0, .int .i64 (r : Int), .int .i64 0, .int .i64 1, .int .i64 0, .int .i64 0, .int .i64 0, .int .i64 0, .int .i64 0, .bool true, .int .i64 0] 46) := ⟨_, rfl⟩
            have bU : Below wi.heap.size wi U := by rw [hU]; exact (Below.refl _ _).alloc (Nat.le_refl _) _
            have l0 : U.cell? ⟨wi.heap.size, 0, none⟩ = some (.int .i64 4) := by rw [hU]; go_simp
            have l2 : U.cell? ⟨wi.heap.size, 2, none⟩ = some (.int .i64 (r : Int)) := by rw [hU]; go_simp
            have l10 : U.cell? ⟨wi.heap.size, 10, none⟩ = some (.bool true) := by rw [hU]; go_simp
            have zl : wi.heap.size < U.heap.size := by rw [hU]; simp
            have hhc : U.cell? ⟨X3.heap.size, r, none⟩ = some (.bool true) := (bU.cell (p := ⟨X3.heap.size, r, none⟩) hhz0).trans hhc0
            have hhz : X3.heap.size < U.heap.size := Nat.lt_of_lt_of_le hhz0 bU.size
            have HbU : Hid (Below Y.heap.size Y U) := nT hbq.out bU
            obtain ⟨vma, evma⟩ : ∃ vma, vma = V.ma := ⟨_, rfl⟩
            rw [← evma] at em ⊢
            subst em
            have hrS : (r : Int) < (S : Int) := by omega
            clear hmc hmq hmr er2 har hPi hhc0 hhz0 evma
            go_upto_region 23 with (fail)
            rw [← hU]
            clear hU m0 m1 m2 m3 m4 m5 m6 m7 m8 m9 m10 m11
            go_wp2
            go_roundw
            case rel => exact ⟨q + 1, by go_num, by omega, HbU⟩
            case measure => simp [intOf]; omega
          · have hlq' : ¬ (q : Int) < (CN : Int) := by omega
            have tbw := HTb.out wi hbq.out
            have hBF := (HPY.out wi hbq.out).2
            have t1 := (tbw.c 1 (by decide)).1
            have t3 := (tbw.c 3 (by decide)).1
            have zt := tbw.lt
            simp only [List.getD_cons_zero, List.getD_cons_succ] at t1 t3
            by_cases hc0 : CN = 0
            · subst hc0
              have hj0 : JL = 0 := by rw [HJL.out]; rfl
              have hr0 : RL = 0 := by rw [HRL.out]; rfl
              subst hj0 hr0
              clear HJL HRL tbw
              go_wp2
              go_ret
              exact ⟨by simp, hBF⟩
            · have hj0 : JL = 1 := by rw [HJL.out, if_neg hc0]
              have hr0 : RL = 1 := by rw [HRL.out, if_neg hc0]
              subst hj0 hr0
              have hc1 : ¬ (CN : Int) < 1 := by omega
              have hc2 : (1 : Int) ≤ (CN : Int) := by omega
              clear HJL HRL tbw hc0
              go_wp2
              all_goals
                go_ret
                exact ⟨by first | (simp; done) | (simp; omega), hBF⟩
end Go.Proofs.YtdjnaahkcnklhabDoor.Co
