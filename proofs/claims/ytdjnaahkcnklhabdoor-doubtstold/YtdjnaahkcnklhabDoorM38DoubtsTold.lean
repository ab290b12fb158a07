/- Texts of this claim, one behind the other. -/
import Derived.Test.YtdjnaahkcnklhabDoorM37DoubtsTold
import Derived.Test.YtdjnaahkcnklhabDoorM25DoubtsTold
import Derived.Lib.LaidTab
import Derived.OpenShut
/- The walk of the law DoubtsTold: at any numbers it returns true and leaves what was in memory. -/
namespace Go.Proofs.YtdjnaahkcnklhabDoor.Co
open Go.ChangeShapes Go.WideShapes Go.ChangeAt Go.RowKit
open Go.Proofs.YtdjnaahkcnklhabDoor.St (BoxN boxn_new own_below grown_setCell IsRow Elem flat flat_append own_isRow idxI)
open Go.Proofs.YtdjnaahkcnklhabDoor.Pt (LS2 cfg_two two_any)
set_option linter.unusedVariables false

set_option maxRecDepth 100000 in
set_option maxHeartbeats 16000000 in
theorem doubtsTold_walk (s : Int) (a : Option Addr) (len cap : Nat) (rs : List St.RV) (n fr : Int) (w : World) (hs : (Lit.int .i64 s).wf = true) (hr : St.IsRaws w a len cap rs) (hn : (Lit.int .i64 n).wf = true) (hf : (Lit.int .i64 fr).wf = true) (hHa : HasAt w 0 mHas) (hTo : TopsAt w) :
    Calls Tryd.prog 5 #[.int .i64 s, .slice a len cap, .int .i64 n, .int .i64 fr] w fun e w' => e = .returned (.bool true) ∧ Below w.heap.size w w' := by
  have bds : -9223372036854775808 ≤ s ∧ s ≤ 9223372036854775807 := by
    simp [Lit.wf, IntKind.min, IntKind.max, IntKind.signed, IntKind.bits] at hs
    omega
  have bdn : -9223372036854775808 ≤ n ∧ n ≤ 9223372036854775807 := by
    simp [Lit.wf, IntKind.min, IntKind.max, IntKind.signed, IntKind.bits] at hn
    omega
  have bdf : -9223372036854775808 ≤ fr ∧ fr ≤ 9223372036854775807 := by
    simp [Lit.wf, IntKind.min, IntKind.max, IntKind.signed, IntKind.bits] at hf
    omega
  clear hs hn hf
  have hgT : 1 < w.heap.size := World.block_lt_of_cell? w _ hTo.1
  have hgM : 0 < w.heap.size := hHa.lt (by decide)
  have KT : Hid (∀ U, Below w.heap.size w U → Tables U) := fun U hU => ⟨hHa.below hU hgM, hTo.below hU hgT⟩
  clear hHa hTo hgT hgM
  have hnp := pk_bd n 9 (by omega)
  have hPN := fun u => picked_any n 9 u bdn (by omega) (by omega)
  obtain ⟨PN, ePN⟩ : ∃ x, x = pk n 9 := ⟨_, rfl⟩
  rw [← ePN] at hnp hPN
  clear ePN
  have hsp := pk_bd s 3 (by omega)
  have hTw := fun u => two_any s u bds
  obtain ⟨S1, eS1⟩ : ∃ x, x = 1 + pk s 3 := ⟨_, rfl⟩
  rw [← eS1] at hTw
  have hS1 : 1 ≤ S1 := by omega
  have hS3 : S1 ≤ 3 := by omega
  have hfp := pk_bd fr S1 (by omega)
  have hPF := fun u => picked_any fr S1 u bdf (by omega) (by omega)
  obtain ⟨PF, ePF⟩ : ∃ x, x = pk fr S1 := ⟨_, rfl⟩
  rw [← ePF] at hfp hPF
  clear eS1 hsp ePF
  have hwn : IntKind.i64.wrap (1 + PN) = 1 + PN := by simp [IntKind.wrap, IntKind.bits, IntKind.signed]; omega
  have hKN : 1 ≤ 1 + PN ∧ 1 + PN ≤ 9 := by omega
  have bw : Below w.heap.size w w := Below.refl _ _
  go_enter Tryd.func5, Tryd.ntmps5
  go_upto_region 2 with (go_at_call 7; refine (hTw _).mono ?_; rintro e w1 ⟨g0, rfl, hl, hg0, hb1⟩)
  clear hTw
  replace bw := bw.trans (hb1.mono bw.size)
  replace hr := hr.below hb1
  obtain ⟨X1, eX1⟩ : ∃ X : World, X = w1.alloc (.cells #[.int .i64 S1, .slice (some ⟨g0, 0, none⟩) 2 2, .int .i64 3] 25) := ⟨_, rfl⟩
  have cb : BoxN X1 w1.heap.size 3 [.int .i64 S1, .slice (some ⟨g0, 0, none⟩) 2 2, .int .i64 3] := by rw [eX1]; exact boxn_new w1 #[.int .i64 S1, .slice (some ⟨g0, 0, none⟩) 2 2, .int .i64 3] 25 3 rfl
  have bX1 : Below w1.heap.size w1 X1 := by rw [eX1]; exact (Below.refl _ _).alloc (Nat.le_refl _) _
  rw [← eX1]
  clear eX1
  replace bw := bw.trans (bX1.mono bw.size)
  replace hr := hr.below bX1
  replace hl := hl.below bX1
  have HDm : Hid (Calls Tryd.prog 12 #[.agg #[.int .i64 S1, .slice (some ⟨g0, 0, none⟩) 2 2, .int .i64 3], .int .i64 1, .int .i64 0, .slice a len cap, .int .i64 30] X1 fun e w' => ∃ (da : Option Addr) (dc : Nat) (nx : Int) (bs js : List JbV) (ix : List (Nat × Nat)) (more : List Rw), e = .returned (.agg #[.int .i64 nx, .slice da bs.length dc]) ∧ DeskAt w' X1.heap.size da bs.length dc js ix more ∧ js.map JbV.bare = bs ∧ DOK S1 2 nx bs ∧ Below X1.heap.size X1 w') := by
    refine (desk_made S1 1 0 g0 a len cap rs 30 X1 hS1 hS3 (Or.inr rfl) ⟨by omega, by omega⟩ hl hr (fun U hU => KT.out U (bw.trans (hU.mono bw.size))) (by omega)).mono ?_
    rintro e x ⟨⟨D, nx, bs, rfl, ⟨da, dc, js, ix, more, rfl, h2, h3⟩, h4, -⟩, h5⟩
    exact ⟨da, dc, nx, bs, js, ix, more, rfl, h2, h3, h4, h5⟩
  have cb_0 : X1.cell? ⟨w1.heap.size, 0, none⟩ = some (.int .i64 S1) := (cb.c 0 (by decide)).1
  have cb_1 : X1.cell? ⟨w1.heap.size, 1, none⟩ = some (.slice (some ⟨g0, 0, none⟩) 2 2) := (cb.c 1 (by decide)).1
  have cb_2 : X1.cell? ⟨w1.heap.size, 2, none⟩ = some (.int .i64 3) := (cb.c 2 (by decide)).1
  have cb_z := cb.lt
  go_upto_region 3 with (go_at_call 12; refine HDm.out.mono ?_; rintro e y0 ⟨da, dc, nx, bs, js, ix, more, rfl, hDk, hbs, hok, hb0⟩)
  clear cb_0 cb_1 cb_2 cb_z
  clear HDm hr
  replace cb := cb.below hb0 cb.lt
  replace bw := bw.trans (hb0.mono bw.size)
  replace hl := hl.below hb0
  obtain ⟨N, eN⟩ : ∃ N, N = bs.length := ⟨_, rfl⟩
  rw [← eN] at hDk ⊢
  have HN : Hid (N = bs.length) := eN
  clear eN
  obtain ⟨X2, eX2⟩ : ∃ X : World, X = y0.alloc (.cells #[.int .i64 nx, .slice da N dc] 29) := ⟨_, rfl⟩
  have dbx : BoxN X2 y0.heap.size 2 [.int .i64 nx, .slice da N dc] := by rw [eX2]; exact boxn_new y0 #[.int .i64 nx, .slice da N dc] 29 2 rfl
  have bX2 : Below y0.heap.size y0 X2 := by rw [eX2]; exact (Below.refl _ _).alloc (Nat.le_refl _) _
  rw [← eX2]
  clear eX2
  replace cb := cb.below bX2 cb.lt
  replace bw := bw.trans (bX2.mono bw.size)
  replace hl := hl.below bX2
  replace hDk := hDk.below bX2
  have cb_0 : X2.cell? ⟨w1.heap.size, 0, none⟩ = some (.int .i64 S1) := (cb.c 0 (by decide)).1
  have cb_1 : X2.cell? ⟨w1.heap.size, 1, none⟩ = some (.slice (some ⟨g0, 0, none⟩) 2 2) := (cb.c 1 (by decide)).1
  have cb_2 : X2.cell? ⟨w1.heap.size, 2, none⟩ = some (.int .i64 3) := (cb.c 2 (by decide)).1
  have cb_z := cb.lt
  go_upto_region 5 with (first | (go_at_call_of 9 (Value.int .i64 n); refine (hPN _).mono ?_; rintro e u ⟨rfl, hu⟩; rw [hu]; clear hu) | (go_at_call_of 9 (Value.int .i64 fr); refine (hPF _).mono ?_; rintro e u ⟨rfl, hu⟩; rw [hu]; clear hu))
  clear cb_0 cb_1 cb_2 cb_z
  have hbb := bare_idem bs hbs
  have hE0 := dbt_ok hS1 hS3 hKN ⟨hfp.1, by omega⟩ hok
  have hAn := dbt_ans hE0 hbb
  obtain ⟨MS, eMS⟩ : ∃ MS : List MV, MS = if idxI (isN (1 + PN)) bs = -1 then [decM 0 (1 + PN) false PF] else if (decide ((bs.getD (idxI (isN (1 + PN)) bs).toNat default).state = 3) && (bs.getD (idxI (isN (1 + PN)) bs).toNat default).asked.any fun y => PF == y) = true then [decM 0 (1 + PN) true PF] else [] := ⟨_, rfl⟩
  rw [← eMS] at hAn
  obtain ⟨ML, eML⟩ : ∃ ML, ML = MS.length := ⟨_, rfl⟩
  have HHr : Hid (Calls Tryd.prog 11 #[.agg #[.int .i64 S1, .slice (some ⟨g0, 0, none⟩) 2 2, .int .i64 3], .int .i64 1, .int .i64 0, .agg #[.int .i64 nx, .slice da N dc], .agg #[.int .i64 9, .int .i64 PF, .int .i64 0, .int .i64 0, .int .i64 (1 + PN), .int .i64 0, .int .i64 0, .int .i64 0, .int .i64 0, .int .i64 0, .bool false, .int .i64 0]] X2 fun e w' => ∃ (v' : CkV) (ix' : List (Nat × Nat)) (more' : List Rw), e = .returned (.tuple #[.agg #[.int .i64 nx, .slice v'.ja N v'.jc, .slice v'.ma ML v'.mc, .slice v'.ra 0 v'.rc, .slice v'.pa 0 v'.pc, .int .i64 0, .int .i64 0], .int .i64 0]) ∧ Live X2.heap.size w' v' ix' more' ⟨nx, bs, MS, [], [], 0, 0⟩ ∧ Below X2.heap.size X2 w') := by
    have h1 := hDk
    rw [HN.out] at h1 ⊢
    refine (hear_dk S1 3 (some ⟨g0, 0, none⟩) 2 2 LS2 1 0 nx da dc bs (dbtM (1 + PN) PF) X2 hl h1 hbs (fun U hU => KT.out U (bw.trans (hU.mono bw.size)))).mono ?_
    rintro e x ⟨v', ix', more', rfl, g1, g2⟩
    rw [hAn] at g1
    exact ⟨v', ix', more', by rw [hE0, g1.turn (jl := bs.length) (ml := ML) (rl := 0) (pl := 0) rfl rfl eML.symm rfl rfl rfl rfl]; rfl, g1, g2⟩
  have HMS : Hid (MS = if idxI (isN (1 + PN)) bs = -1 then [decM 0 (1 + PN) false PF] else if (decide ((bs.getD (idxI (isN (1 + PN)) bs).toNat default).state = 3) && (bs.getD (idxI (isN (1 + PN)) bs).toNat default).asked.any fun y => PF == y) = true then [decM 0 (1 + PN) true PF] else []) := eMS
  have HML : Hid (ML = MS.length) := eML
  have HOK : Hid (DOK S1 2 nx bs) := hok
  have HBS : Hid (js.map JbV.bare = bs ∧ bs.map JbV.bare = bs) := ⟨hbs, hbb⟩
  clear eMS eML hAn hE0 hok hbs hbb
  have cb_0 : X2.cell? ⟨w1.heap.size, 0, none⟩ = some (.int .i64 S1) := (cb.c 0 (by decide)).1
  have cb_1 : X2.cell? ⟨w1.heap.size, 1, none⟩ = some (.slice (some ⟨g0, 0, none⟩) 2 2) := (cb.c 1 (by decide)).1
  have cb_2 : X2.cell? ⟨w1.heap.size, 2, none⟩ = some (.int .i64 3) := (cb.c 2 (by decide)).1
  have cb_z := cb.lt
  have dbx_0 : X2.cell? ⟨y0.heap.size, 0, none⟩ = some (.int .i64 nx) := (dbx.c 0 (by decide)).1
  have dbx_1 : X2.cell? ⟨y0.heap.size, 1, none⟩ = some (.slice da N dc) := (dbx.c 1 (by decide)).1
  have dbx_z := dbx.lt
  go_upto_region 6 with (go_at_call 11; refine HHr.out.mono ?_; rintro e y1 ⟨V, iz, mz, rfl, hLv, hb5⟩)
  clear cb_0 cb_1 cb_2 cb_z dbx_0 dbx_1 dbx_z
  clear HHr
  replace cb := cb.below hb5 cb.lt
  replace dbx := dbx.below hb5 dbx.lt
  replace bw := bw.trans (hb5.mono bw.size)
  replace hl := hl.below hb5
  replace hDk := hDk.below hb5
  obtain ⟨X3, eX3⟩ : ∃ X : World, X = y1.alloc (.cells #[.int .i64 nx, .slice V.ja N V.jc, .slice V.ma ML V.mc, .slice V.ra 0 V.rc, .slice V.pa 0 V.pc, .int .i64 0, .int .i64 0] 34) := ⟨_, rfl⟩
  have tb : BoxN X3 y1.heap.size 7 [.int .i64 nx, .slice V.ja N V.jc, .slice V.ma ML V.mc, .slice V.ra 0 V.rc, .slice V.pa 0 V.pc, .int .i64 0, .int .i64 0] := by rw [eX3]; exact boxn_new y1 #[.int .i64 nx, .slice V.ja N V.jc, .slice V.ma ML V.mc, .slice V.ra 0 V.rc, .slice V.pa 0 V.pc, .int .i64 0, .int .i64 0] 34 7 rfl
  have bX3 : Below y1.heap.size y1 X3 := by rw [eX3]; exact (Below.refl _ _).alloc (Nat.le_refl _) _
  rw [← eX3]
  clear eX3
  replace cb := cb.below bX3 cb.lt
  replace dbx := dbx.below bX3 dbx.lt
  replace bw := bw.trans (bX3.mono bw.size)
  replace hl := hl.below bX3
  replace hDk := hDk.below bX3
  replace hLv := hLv.below bX3
  have HSm : Hid (Calls Tryd.prog 13 #[.agg #[.int .i64 nx, .slice V.ja N V.jc], .agg #[.int .i64 nx, .slice da N dc]] X3 fun e w' => e = .returned (.bool true) ∧ Below X3.heap.size X3 w') := by
    have j3 := hLv.isJobs
    rw [hLv.js.2, ← HN.out] at j3
    exact sameDesk_eq nx V.ja N V.jc V.js da dc js X3 j3 hDk.isJobs (hLv.js.1.trans HBS.out.1.symm)
  have tb_0 : X3.cell? ⟨y1.heap.size, 0, none⟩ = some (.int .i64 nx) := (tb.c 0 (by decide)).1
  have tb_1 : X3.cell? ⟨y1.heap.size, 1, none⟩ = some (.slice V.ja N V.jc) := (tb.c 1 (by decide)).1
  have tb_2 : X3.cell? ⟨y1.heap.size, 2, none⟩ = some (.slice V.ma ML V.mc) := (tb.c 2 (by decide)).1
  have tb_3 : X3.cell? ⟨y1.heap.size, 3, none⟩ = some (.slice V.ra 0 V.rc) := (tb.c 3 (by decide)).1
  have tb_4 : X3.cell? ⟨y1.heap.size, 4, none⟩ = some (.slice V.pa 0 V.pc) := (tb.c 4 (by decide)).1
  have tb_5 : X3.cell? ⟨y1.heap.size, 5, none⟩ = some (.int .i64 0) := (tb.c 5 (by decide)).1
  have tb_6 : X3.cell? ⟨y1.heap.size, 6, none⟩ = some (.int .i64 0) := (tb.c 6 (by decide)).1
  have tb_z := tb.lt
  have dbx_0 : X3.cell? ⟨y0.heap.size, 0, none⟩ = some (.int .i64 nx) := (dbx.c 0 (by decide)).1
  have dbx_1 : X3.cell? ⟨y0.heap.size, 1, none⟩ = some (.slice da N dc) := (dbx.c 1 (by decide)).1
  have dbx_z := dbx.lt
  go_upto_region 8 with (go_at_call 13; refine HSm.out.mono ?_; rintro e y2 ⟨rfl, hb6⟩)
  clear tb_0 tb_1 tb_2 tb_3 tb_4 tb_5 tb_6 tb_z dbx_0 dbx_1 dbx_z
  clear HSm
  replace cb := cb.below hb6 cb.lt
  replace dbx := dbx.below hb6 dbx.lt
  replace tb := tb.below hb6 tb.lt
  replace bw := bw.trans (hb6.mono bw.size)
  replace hl := hl.below hb6
  replace hDk := hDk.below hb6
  replace hLv := hLv.below hb6
  have hJd := hDk.isJobs
  have HJd : Hid (∀ U, Below y2.heap.size y2 U → IsJobs U da N dc js) := fun U hU => hJd.below hU
  have HTb : Hid (∀ U, Below y2.heap.size y2 U → U.cell? ⟨y1.heap.size, 2, none⟩ = some (.slice V.ma ML V.mc) ∧ y1.heap.size < U.heap.size ∧ IsRow 12 mcells U V.ma ML V.mc MS) := fun U hU => by
    have h1 := tb.below hU tb.lt
    have h2 := hLv.msgs
    rw [hLv.ms.1, hLv.ms.2] at h2
    refine ⟨(h1.c 2 (by decide)).1, h1.lt, ?_⟩
    rw [HML.out]
    exact St.IsRow.below h2 hU
  have HBw : Hid (∀ U, Below y2.heap.size y2 U → Below w.heap.size w U) := fun U hU => bw.trans (hU.mono bw.size)
  have hNc : N ≤ dc ∧ dc ≤ maxLen := ⟨hJd.row.2.1, hJd.row.2.2.1⟩
  unfold maxLen at hNc
  obtain ⟨hNc1, hNc2⟩ := hNc
  have HJl : Hid (js.length = N) := hJd.row.1
  have HGd : Hid (∀ i, (bs.getD i default) = (js.getD i default).bare) := fun i => by rw [← HBS.out.1, getD_bare]
  have dbx_0 : y2.cell? ⟨y0.heap.size, 0, none⟩ = some (.int .i64 nx) := (dbx.c 0 (by decide)).1
  have dbx_1 : y2.cell? ⟨y0.heap.size, 1, none⟩ = some (.slice da N dc) := (dbx.c 1 (by decide)).1
  have dbx_z := dbx.lt
  go_upto_region 9 with (fail)
  clear dbx_0 dbx_1 dbx_z
  clear hJd hLv hDk tb dbx cb
  go_loopw [16, 17, 19, 54] (fun _ _ _ s54 wr => ∃ k : Nat, s54 = .int .i64 (k : Int) ∧ k ≤ N ∧ Hid (∀ i, i < k → (bs.getD i default).n ≠ 1 + PN) ∧ Hid (Below y2.heap.size y2 wr)) (fun _ _ _ s54 _ => N - (intOf s54).toNat)
  case atStart => exact ⟨0, rfl, Nat.zero_le _, fun i hi => absurd hi (by omega), Below.refl _ _⟩
  case round =>
    obtain ⟨k, rfl, hk, hnot, hbk⟩ := hrel
    by_cases hlt : k < N
    · have hlt' : (k : Int) < (N : Int) := by omega
      have hJr := HJd.out wr hbk.out
      obtain ⟨b, off, rfl, zb, hcr⟩ := hJr.row.2.2.2.2 (by omega)
      have hkdc : k < dc := by omega
      have hcells := hcr k hlt
      have hmem := hJr.each _ (mem_at (l := js) (i := k) (by rw [HJl.out]; exact hlt))
      have HJk : Hid ((bs.getD k default) = (js.getD k default).bare) := HGd.out k
      obtain ⟨J, eJ⟩ : ∃ J, J = js.getD k default := ⟨_, rfl⟩
      rw [← eJ] at hcells hmem HJk
      have hasked := hmem.asked
      clear eJ hcr hmem hJr
      obtain ⟨jn, st, ta, tl, tc, aa, al, ac, asks, age, tasks, asked⟩ := J
      have a0 := hcells 0 (by decide)
      have a1 := hcells 1 (by decide)
      have a2 := hcells 2 (by decide)
      have a3 := hcells 3 (by decide)
      have a4 := hcells 4 (by decide)
      have a5 := hcells 5 (by decide)
      simp only [JbV.cells, List.getElem?_cons_zero, List.getElem?_cons_succ, Nat.add_zero] at a0 a1 a2 a3 a4 a5
      clear hcells
      obtain ⟨U, hU⟩ : ∃ U : World, U = wr.alloc (.cells #[.int .i64 jn, .int .i64 st, .slice ta tl tc, .slice aa al ac, .int .i64 asks, .int .i64 age] 59) := ⟨_, rfl⟩
      have bU : Below wr.heap.size wr U := by rw [hU]; exact (Below.refl _ _).alloc (Nat.le_refl _) _
      have l0 : U.cell? ⟨wr.heap.size, 0, none⟩ = some (.int .i64 jn) := by rw [hU]; go_simp
      have l3 : U.cell? ⟨wr.heap.size, 3, none⟩ = some (.slice aa al ac) := by rw [hU]; go_simp
      have zl : wr.heap.size < U.heap.size := by rw [hU]; simp
      have hbU := nT hbk.out bU
      have HbU : Hid (Below y2.heap.size y2 U) := hbU
      go_upto_region 11 with (fail)
      rw [← hU]
      clear hU a0 a1 a2 a3 a4 a5
      by_cases hjn : jn = 1 + PN
      · subst hjn
        have hidx : idxI (isN (1 + PN)) bs = (k : Int) := St.idxI_hit (by rw [← HN.out]; exact hlt) (fun i hi => decide_eq_false (hnot.out i hi)) (by rw [HJk.out]; exact decide_eq_true rfl)
        have hgk : bs.getD (idxI (isN (1 + PN)) bs).toNat default = JbV.bare ⟨1 + PN, st, ta, tl, tc, aa, al, ac, asks, age, tasks, asked⟩ := by rw [hidx]; exact HJk.out
        have hMS0 : MS = if (decide (st = 3) && asked.any fun y => PF == y) = true then [decM 0 (1 + PN) true PF] else [] := by
          rw [HMS.out, if_neg (by rw [hidx]; omega), hgk]
          rfl
        have hst3 : (asked.any fun y => PF == y) = true → st = 3 := fun ha => by
          have hj := (HOK.out.ok (bs.getD k default) (mem_at (by rw [← HN.out]; exact hlt))).2.2
          rw [HJk.out] at hj
          refine hj.tell.2 ?_
          intro e
          have e' : asked = [] := e
          rw [e'] at ha
          simp at ha
        have HMF : Hid ((asked.any fun y => PF == y) = false → MS = []) := fun ha => by rw [hMS0, ha]; simp
        have HMT : Hid ((asked.any fun y => PF == y) = true → MS = [decM 0 (1 + PN) true PF]) := fun ha => by rw [hMS0, ha, hst3 ha]; rfl
        have hal : al ≤ ac ∧ ac ≤ maxLen := ⟨hasked.2.1, hasked.2.2.1⟩
        unfold maxLen at hal
        obtain ⟨hal1, hal2⟩ := hal
        have HAl : Hid (asked.length = al) := hasked.1
        have HAs : Hid (∀ V', Below U.heap.size U V' → IsSites V' aa al ac asked) := fun V' hV => (hasked.below bU).below hV
        clear hidx hgk hMS0 hst3 hasked hnot
        go_upto_region 14 with (fail)
        clear l0 l3
        go_loopw [17, 19, 65] (fun s17 _ s65 wi => ∃ n : Nat, s65 = .int .i64 (n : Int) ∧ n ≤ al ∧ s17 = .bool ((asked.take n).any fun y => PF == y) ∧ Hid (Below U.heap.size U wi)) (fun _ _ s65 _ => al - (intOf s65).toNat)
        case atStart => exact ⟨0, rfl, Nat.zero_le _, by simp, Below.refl _ _⟩
        case round =>
          obtain ⟨n, rfl, hn, rfl, hbn⟩ := hrel
          by_cases hln : n < al
          · have hln' : (n : Int) < (al : Int) := by omega
            have hsr := HAs.out _ hbn.out
            obtain ⟨sb, so, rfl, zsb, hsc⟩ := hsr.2.2.2.2 (by omega)
            have s0 := hsc n hln 0 (by decide)
            rw [Nat.mul_one, Nat.add_zero] at s0
            simp only [inCell, List.getElem?_cons_zero] at s0
            have HTk : Hid ((asked.take (n + 1)).any (fun y => PF == y) = ((asked.take n).any (fun y => PF == y) || (PF == asked.getD n default))) := by
              show _ = _
              have e1 : asked.take (n + 1) = asked.take n ++ [asked.getD n default] := by rw [List.take_add_one]; simp [List.getD, show n < asked.length by rw [HAl.out]; exact hln]
              rw [e1, List.any_append]
              simp
            obtain ⟨z, ez⟩ : ∃ z, z = asked.getD n default := ⟨_, rfl⟩
            rw [← ez] at s0 HTk
            obtain ⟨Q, eQ⟩ : ∃ Q : Bool, Q = (asked.take n).any fun y => PF == y := ⟨_, rfl⟩
            rw [← eQ] at HTk ⊢
            have hnac : n < ac := by omega
            obtain ⟨R, eR⟩ : ∃ R : Bool, R = (z == PF) := ⟨_, rfl⟩
            have hR := eR.symm
            have HR : Hid ((PF == z) = R) := by show _ = _; rw [eR]; exact Bool.eq_iff_iff.2 (by simp; exact eq_comm)
            clear ez eQ eR hsc hsr
            cases Q <;> cases R
            all_goals
              go_wp2
              go_roundw
              case rel => exact ⟨n + 1, by go_num, by omega, by rw [HTk.out, HR.out]; rfl, hbn⟩
              case measure => simp [intOf]; omega
          · have hln' : ¬ (n : Int) < (al : Int) := by omega
            have HTa : Hid (asked.take n = asked) := List.take_of_length_le (by rw [HAl.out]; omega)
            rw [HTa.out]
            obtain ⟨Q, eQ⟩ : ∃ Q : Bool, Q = asked.any fun y => PF == y := ⟨_, rfl⟩
            rw [← eQ] at HMF HMT ⊢
            clear eQ
            have hb9 := nT HbU.out hbn.out
            obtain ⟨y2c, zy, hrow⟩ := HTb.out _ hb9
            have hBF := HBw.out _ hb9
            cases Q with
            | false =>
              have hML : ML = 0 := by rw [HML.out, HMF.out rfl]; rfl
              rw [hML] at y2c
              clear hML hrow
              go_wp2
              go_ret
              exact ⟨by simp, hBF⟩
            | true =>
              have hMS := HMT.out rfl
              have hML : ML = 1 := by rw [HML.out, hMS]; rfl
              rw [hMS] at hrow
              rw [hML] at y2c hrow
              obtain ⟨mb, mo, emb, zmb, hmc⟩ := hrow.2.2.2.2 (by decide)
              have hcm : 0 < V.mc := hrow.2.1
              have p2 := hmc 0 (by decide) 2 (by decide)
              have p10 := hmc 0 (by decide) 10 (by decide)
              simp only [List.getD_cons_zero, mcells, decM, List.getElem?_cons_zero, List.getElem?_cons_succ, Nat.zero_mul, Nat.add_zero] at p2 p10
              rw [emb] at y2c
              clear hmc hrow hMS hML emb
              go_wp2
              go_ret
              exact ⟨by simp, hBF⟩
      · have hjn' : (jn != 1 + PN) = true := by simpa using hjn
        have HN2 : Hid (∀ i, i < k + 1 → (bs.getD i default).n ≠ 1 + PN) := fun i hi => by
          by_cases e : i = k
          · subst e; rw [HJk.out]; exact hjn
          · exact hnot.out i (by omega)
        clear hjn
        go_wp2
        go_roundw
        case rel => exact ⟨k + 1, by go_num, by omega, HN2, HbU⟩
        case measure => simp [intOf]; omega
    · have hlt' : ¬ (k : Int) < (N : Int) := by omega
      have hkN : k = N := by omega
      obtain ⟨y2c, zy, hrow⟩ := HTb.out wr hbk.out
      have hidx : idxI (isN (1 + PN)) bs = -1 := St.idxI_none (fun i hi => by
        have := hnot.out i (by rw [hkN, HN.out]; exact hi)
        exact decide_eq_false this)
      have hMS : MS = [decM 0 (1 + PN) false PF] := by rw [HMS.out, if_pos hidx]
      have hML : ML = 1 := by rw [HML.out, hMS]; rfl
      rw [hMS] at hrow
      rw [hML] at y2c hrow
      obtain ⟨mb, mo, emb, zmb, hmc⟩ := hrow.2.2.2.2 (by decide)
      have hcm : 0 < V.mc := hrow.2.1
      have p0 := hmc 0 (by decide) 0 (by decide)
      have p2 := hmc 0 (by decide) 2 (by decide)
      have p10 := hmc 0 (by decide) 10 (by decide)
      simp only [List.getD_cons_zero, mcells, decM, List.getElem?_cons_zero, List.getElem?_cons_succ, Nat.zero_mul, Nat.add_zero] at p0 p2 p10
      rw [emb] at y2c
      have hBF := HBw.out wr hbk.out
      clear hmc hrow hMS hidx hkN hk hML HTb emb
      go_wp2
      go_ret
      exact ⟨by simp, hBF⟩
end Go.Proofs.YtdjnaahkcnklhabDoor.Co
/- What the listed tables of package wire hold, cell by cell, out of their reading as data. -/
namespace Go.Proofs.YtdjnaahkcnklhabDoor
open Go.ChangeShapes Go.WideShapes Go.ChangeAt Go.RowKit

def bRow {H : Type} (bs : List Bool) : DataW H := .agg (bs.map fun b => .lit (.bool b))
def bTab {H : Type} (tb : List (List Bool)) : DataW H := .agg (tb.map bRow)

section
variable {H : Type} {enc : TypeId × Value → H} {W : World} {base : Nat} {sp : Nat → Bool} {held : Bool}

theorem c1b : Tryd.prog.cellsOf 4 = 1 := by kernel_rfl
theorem c8b : Tryd.prog.cellsOf 131 = 8 := by kernel_rfl

theorem row_of {fuel : Nat} {cs : List Value} {bs : List Bool} {p : List MemPlace} (hb : bs.length = 8) (h : DataW.trod enc Tryd.prog W base sp held fuel 131 cs = some (bRow bs, p)) (j : Nat) (hj : j < 8) : cs[j]? = some (.bool (bs.getD j false)) := by
  obtain ⟨xs, m, rfl, hx, hl, hn, hel⟩ := DataW.trod_array Tryd.underlying131 h
  have hxs : xs.map (·.1) = bs.map fun b => (DataW.lit (.bool b) : DataW H) := by
    have := congrArg Prod.fst hx
    simpa [bRow] using this.symm
  have h1 := hel j hj
  rw [c1b, List.getElem?_eq_getElem (by omega)] at h1
  obtain ⟨b, hc, hx1⟩ := DataW.trod_bool Tryd.underlying4 h1
  have e1 : cs[j]? = some (.bool b) := by
    have := congrArg (·[0]?) hc
    simpa [List.getElem?_take, List.getElem?_drop] using this
  have e2 : (xs.map (·.1))[j]? = some (DataW.lit (.bool b) : DataW H) := by
    rw [List.getElem?_map, List.getElem?_eq_getElem (by omega), hx1]; rfl
  rw [hxs] at e2
  have hjb : j < bs.length := by omega
  simp [hjb] at e2
  rw [e1]
  simp [List.getD, hjb, e2]

theorem tab_of {fuel n : Nat} {t : TypeId} {cs : List Value} {tb : List (List Bool)} {p : List MemPlace} (ht : Tryd.prog.underlying t = some (.array n 131)) (hn : tb.length = n) (hb : ∀ i, i < n → (tb.getD i []).length = 8) (h : DataW.trod enc Tryd.prog W base sp held fuel t cs = some (bTab tb, p)) (i j : Nat) (hi : i < n) (hj : j < 8) : cs[i * 8 + j]? = some (.bool ((tb.getD i []).getD j false)) := by
  obtain ⟨xs, m, rfl, hx, hl, hlen, hel⟩ := DataW.trod_array ht h
  have hxs : xs.map (·.1) = tb.map bRow := by
    have := congrArg Prod.fst hx
    simpa [bTab] using this.symm
  have h1 := hel i hi
  rw [c8b, List.getElem?_eq_getElem (by omega)] at h1
  have e2 : (xs.map (·.1))[i]? = (tb.map (bRow (H := H)))[i]? := by rw [hxs]
  have hit : i < tb.length := by omega
  have hix : i < xs.length := by omega
  simp [hix, hit] at e2
  obtain ⟨d, q, hxi⟩ : ∃ d q, xs[i] = (d, q) := ⟨_, _, rfl⟩
  have e3 : d = bRow (tb.getD i []) := by
    rw [hxi] at e2
    simp [List.getD, hit]
    exact e2
  rw [hxi, e3] at h1
  have := row_of (hb i hi) h1 j hj
  rw [List.getElem?_take, if_pos hj, List.getElem?_drop] at this
  exact this

theorem has_of {fuel n g : Nat} {t : TypeId} {cs : Array Value} {tb : List (List Bool)} {p : List MemPlace} {name : String} (hg : Tryd.prog.globalNamed name = some g) (hv : W.var? Tryd.prog name = some cs) (ht : Tryd.prog.underlying t = some (.array n 131)) (hn : tb.length = n) (hb : ∀ i, i < n → (tb.getD i []).length = 8)
    (h : DataW.trod enc Tryd.prog W base sp held fuel t cs.toList = some (bTab tb, p)) : HasAt W g tb := by
  intro i j hi hj
  rw [World.var?_cell hg hv, ← Array.getElem?_toList]
  exact tab_of ht hn hb h i j (by omega) hj

theorem mHas_rows : ∀ i, i < 10 → (mHas.getD i []).length = 8 := by decide
theorem rHas_rows : ∀ i, i < 7 → (rHas.getD i []).length = 8 := by decide

theorem tops_of {fuel : Nat} {cs : Array Value} {p : List MemPlace} {name : String} (hg : Tryd.prog.globalNamed name = some 1) (hv : W.var? Tryd.prog name = some cs)
    (h : DataW.trod enc Tryd.prog W base sp held fuel 124 cs.toList = some (Lib.tabData .i64 topL, p)) : TopsAt W := by
  have e := Lib.cells_of_tab Tryd.underlying124 Tryd.underlying3 (by kernel_rfl) (by kernel_rfl) h
  have c : ∀ i, W.cell? ⟨1, i, none⟩ = (topL.map fun z => Value.int .i64 z)[i]? := by
    intro i
    rw [World.var?_cell hg hv, ← Array.getElem?_toList, e]
  unfold TopsAt
  simp only [c]
  simp [topL]
end
end Go.Proofs.YtdjnaahkcnklhabDoor
