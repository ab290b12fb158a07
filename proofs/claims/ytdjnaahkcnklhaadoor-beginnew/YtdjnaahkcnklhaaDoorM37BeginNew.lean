/- Texts of this claim, one behind the other. -/
import Derived.Test.YtdjnaahkcnklhaaDoorM36BeginNew
import Derived.Deep.QuietTactic
import Derived.BigQuiet
import Derived.Test.YtdjnaahkcnklhaaDoorM25BeginNew
import Derived.Lib.LaidTab
import Derived.OpenShut
/- The walk of the law BeginNew: at any numbers it returns true and leaves what was in memory. -/
namespace Go.Proofs.YtdjnaahkcnklhaaDoor.Co
open Go.ChangeShapes Go.WideShapes Go.ChangeAt Go.RowKit
open Go.Proofs.YtdjnaahkcnklhaaDoor.St (BoxN boxn_new own_below grown_setCell IsRow Elem flat flat_append own_isRow idxI)
open Go.Proofs.YtdjnaahkcnklhaaDoor.Pt (LS2 cfg_two two_any)
set_option linter.unusedVariables false

theorem cl_ok {C : Cx} {nx kind : Int} {bs : List JbV} (hc : cfgFault C.s C.ls C.p = 0) (hl : 0 ≤ C.l ∧ C.l ≤ (C.ls.length : Int) - 1) (hm : 0 ≤ C.me ∧ C.me ≤ C.s - 1) (hd : DOK C.s C.ls.length nx bs) (hk : 1 ≤ kind ∧ kind ≤ 5) : clErr C nx bs kind = 0 := by
  unfold clErr
  rw [if_pos (rf_of hc hl hm hd), if_pos (by simp [inR, hk])]
theorem begin_full {C : Cx} {nx room : Int} {bs : List JbV} (hE : clErr C nx bs 1 = 0) (hb : bs.map JbV.bare = bs) (hf : 6 ≤ bs.length ∨ room < 600) : CallAns C nx bs room ⟨1, 0, 0, 0, 0⟩ = ⟨nx, bs, [], [], [⟨C.me, 1, 0, 0, 0, 8⟩], 0, 0⟩ := by
  unfold CallAns
  rw [if_pos hE]
  have e0 : tn0 nx bs = ⟨nx, bs, [], [], [], 0, 0⟩ := by unfold tn0; rw [hb]
  rw [e0]
  unfold Tn.call
  rw [if_pos rfl]
  unfold Tn.begun
  rw [if_pos (by simp only [Bool.or_eq_true, decide_eq_true_eq]; omega)]
  rfl
theorem begin_new {C : Cx} {nx room : Int} {bs : List JbV} (hE : clErr C nx bs 1 = 0) (hb : bs.map JbV.bare = bs) (h6 : bs.length < 6) (hr : 600 ≤ room) (hn : nx ≤ 1048576) : CallAns C nx bs room ⟨1, 0, 0, 0, 0⟩ = ⟨nx + 1, bs ++ [newJob nx], [], [⟨5, C.me, nx, 0, 0, 0, false, none, 0, 0, []⟩], [⟨C.me, 1, nx, 0, 0, 0⟩], 0, 0⟩ := by
  unfold CallAns
  rw [if_pos hE]
  have e0 : tn0 nx bs = ⟨nx, bs, [], [], [], 0, 0⟩ := by unfold tn0; rw [hb]
  rw [e0]
  unfold Tn.call
  rw [if_pos rfl]
  unfold Tn.begun
  rw [if_neg (by simp only [Bool.or_eq_true, decide_eq_true_eq]; omega)]
  rfl
set_option maxRecDepth 100000 in
set_option maxHeartbeats 16000000 in
theorem beginNew_walk (s : Int) (a : Option Addr) (len cap : Nat) (rs : List St.RV) (room : Int) (w : World) (hs : (Lit.int .i64 s).wf = true) (hr : St.IsRaws w a len cap rs) (hrm : (Lit.int .i64 room).wf = true) (hHa : HasAt w 0 mHas) (hTo : TopsAt w) :
    Calls Tryd.prog 4 #[.int .i64 s, .slice a len cap, .int .i64 room] w fun e w' => e = .returned (.bool true) ∧ Below w.heap.size w w' := by
  have bds : -9223372036854775808 ≤ s ∧ s ≤ 9223372036854775807 := by
    simp [Lit.wf, IntKind.min, IntKind.max, IntKind.signed, IntKind.bits] at hs
    omega
  clear hs
  have bdroom : -9223372036854775808 ≤ room ∧ room ≤ 9223372036854775807 := by
    simp [Lit.wf, IntKind.min, IntKind.max, IntKind.signed, IntKind.bits] at hrm
    omega
  clear hrm
  have hgT : 1 < w.heap.size := World.block_lt_of_cell? w _ hTo.1
  have hgM : 0 < w.heap.size := hHa.lt (by decide)
  have KT : Hid (∀ U, Below w.heap.size w U → Tables U) := fun U hU => ⟨hHa.below hU hgM, hTo.below hU hgT⟩
  clear hHa hTo hgT hgM
  have hnp := pk_bd room 1200 (by omega)
  have hPN := fun u => picked_any room 1200 u bdroom (by omega) (by omega)
  obtain ⟨PN, ePN⟩ : ∃ x, x = pk room 1200 := ⟨_, rfl⟩
  rw [← ePN] at hnp hPN
  clear ePN
  have hsp := pk_bd s 3 (by omega)
  have hTw := fun u => two_any s u bds
  obtain ⟨S1, eS1⟩ : ∃ x, x = 1 + pk s 3 := ⟨_, rfl⟩
  rw [← eS1] at hTw
  have hS1 : 1 ≤ S1 := by omega
  have hS3 : S1 ≤ 3 := by omega
  clear eS1 hsp
  have bw : Below w.heap.size w w := Below.refl _ _
  go_enter Tryd.func4, Tryd.ntmps4
  go_upto_region 2 with (go_at_call 7; refine (hTw _).mono ?_; rintro e w1 ⟨g0, rfl, hl, hg0, hb1⟩)
  clear hTw
  replace bw := bw.trans (hb1.mono bw.size)
  replace hr := hr.below hb1
  obtain ⟨X1, eX1⟩ : ∃ X : World, X = w1.alloc (.cells #[.int .i64 S1, .slice (some ⟨g0, 0, none⟩) 2 2, .int .i64 3] 25) := ⟨_, rfl⟩
  have cb : BoxN X1 w1.heap.size 3 [.int .i64 S1, .slice (some ⟨g0, 0, none⟩) 2 2, .int .i64 3] := by rw [eX1]; exact boxn_new w1 #[.int .i64 S1, .slice (some ⟨g0, 0, none⟩) 2 2, .int .i64 3] 25 3 rfl
  have bX1 : Below w1.heap.size w1 X1 := by rw [eX1]; exact (Below.refl _ _).alloc (Nat.le_refl _) _
  rw [← eX1]
  clear eX1
  replace bw := bw.trans (bX1.mono bw.size)
  replace hr := hr.below bX1
  replace hl := hl.below bX1
  have HDm : Hid (Calls Tryd.prog 8 #[.agg #[.int .i64 S1, .slice (some ⟨g0, 0, none⟩) 2 2, .int .i64 3], .int .i64 1, .int .i64 0, .slice a len cap, .int .i64 30] X1 fun e w' => ∃ (da : Option Addr) (dc : Nat) (nx : Int) (bs js : List JbV) (ix : List (Nat × Nat)) (more : List Rw), e = .returned (.agg #[.int .i64 nx, .slice da bs.length dc]) ∧ DeskAt w' X1.heap.size da bs.length dc js ix more ∧ js.map JbV.bare = bs ∧ DOK S1 2 nx bs ∧ nx ≤ 1 + 30 ∧ Below X1.heap.size X1 w') := by
    refine (desk_made S1 1 0 g0 a len cap rs 30 X1 hS1 hS3 (Or.inr rfl) ⟨by omega, by omega⟩ hl hr (fun U hU => KT.out U (bw.trans (hU.mono bw.size))) (by omega)).mono ?_
    rintro e x ⟨⟨D, nx, bs, rfl, ⟨da, dc, js, ix, more, rfl, h2, h3⟩, h4, h6⟩, h5⟩
    exact ⟨da, dc, nx, bs, js, ix, more, rfl, h2, h3, h4, h6, h5⟩
  have cb_0 : X1.cell? ⟨w1.heap.size, 0, none⟩ = some (.int .i64 S1) := (cb.c 0 (by decide)).1
  have cb_1 : X1.cell? ⟨w1.heap.size, 1, none⟩ = some (.slice (some ⟨g0, 0, none⟩) 2 2) := (cb.c 1 (by decide)).1
  have cb_2 : X1.cell? ⟨w1.heap.size, 2, none⟩ = some (.int .i64 3) := (cb.c 2 (by decide)).1
  have cb_z := cb.lt
  go_upto_region 3 with (go_at_call 8; refine HDm.out.mono ?_; rintro e y0 ⟨da, dc, nx, bs, js, ix, more, rfl, hDk, hbs, hok, hnx, hb0⟩)
  clear cb_0 cb_1 cb_2 cb_z
  clear HDm
  replace cb := cb.below hb0 cb.lt
  replace bw := bw.trans (hb0.mono bw.size)
  replace hr := hr.below hb0
  replace hl := hl.below hb0
  obtain ⟨N, eN⟩ : ∃ N, N = bs.length := ⟨_, rfl⟩
  rw [← eN] at hDk ⊢
  have HN : Hid (N = bs.length) := eN
  clear eN
  obtain ⟨X2, eX2⟩ : ∃ X : World, X = y0.alloc (.cells #[.int .i64 nx, .slice da N dc] 29) := ⟨_, rfl⟩
  have dbx : BoxN X2 y0.heap.size 2 [.int .i64 nx, .slice da N dc] := by rw [eX2]; exact boxn_new y0 #[.int .i64 nx, .slice da N dc] 29 2 rfl
  have bX2 : Below y0.heap.size y0 X2 := by rw [eX2]; exact (Below.refl _ _).alloc (Nat.le_refl _) _
  rw [← eX2]
  clear eX2
  replace cb := cb.below bX2 cb.lt
  replace bw := bw.trans (bX2.mono bw.size)
  replace hr := hr.below bX2
  replace hl := hl.below bX2
  replace hDk := hDk.below bX2
  clear hr
  go_upto_region 4 with (go_at_call 9; refine (hPN _).mono ?_; rintro e u ⟨rfl, hu⟩; rw [hu]; clear hu)
  have hcf : cfgFault S1 LS2 3 = 0 := cfg_two hS1 (by omega) (by omega) (by omega)
  have hbb := bare_idem bs hbs
  have hE0 : clErr ⟨S1, LS2, 3, 1, 0⟩ nx bs 1 = 0 := cl_ok hcf ⟨by show (0 : Int) ≤ 1; omega, by show (1 : Int) ≤ (LS2.length : Int) - 1; decide⟩ ⟨by show (0 : Int) ≤ 0; omega, by show (0 : Int) ≤ S1 - 1; omega⟩ hok (by omega)
  have hN6 : N ≤ 6 := by rw [HN.out]; exact hok.len
  have HOK : Hid (DOK S1 2 nx bs) := hok
  have hnx1 : 1 ≤ nx := hok.nx.1
  have HBS : Hid (js.map JbV.bare = bs ∧ bs.map JbV.bare = bs) := ⟨hbs, hbb⟩
  by_cases hfull : N = 6 ∨ PN < 600
  · skip
    have HCl : Hid (Calls Tryd.prog 11 #[.agg #[.int .i64 S1, .slice (some ⟨g0, 0, none⟩) 2 2, .int .i64 3], .int .i64 1, .int .i64 0, .agg #[.int .i64 nx, .slice da N dc], .int .i64 PN, .agg #[.int .i64 1, .int .i64 0, .int .i64 0, .int .i64 0, .int .i64 0]] X2 fun e w' => ∃ (v' : CkV) (ix' : List (Nat × Nat)) (more' : List Rw), e = .returned (.tuple #[.agg #[.int .i64 nx, .slice v'.ja N v'.jc, .slice v'.ma 0 v'.mc, .slice v'.ra 0 v'.rc, .slice v'.pa 1 v'.pc, .int .i64 0, .int .i64 0], .int .i64 0]) ∧ Live X2.heap.size w' v' ix' more' ⟨nx, bs, [], [], [⟨0, 1, 0, 0, 0, 8⟩], 0, 0⟩ ∧ Below X2.heap.size X2 w') := by
      have h1 := hDk
      have hA := begin_full (room := PN) hE0 hbb (by rw [← HN.out]; omega)
      rw [HN.out] at h1 ⊢
      refine (call_dk S1 3 (some ⟨g0, 0, none⟩) 2 2 LS2 1 0 nx da dc bs PN ⟨1, 0, 0, 0, 0⟩ X2 hl h1 hbs).mono ?_
      rintro e x ⟨v', ix', more', rfl, g1, g2⟩
      rw [hA] at g1
      exact ⟨v', ix', more', by rw [hE0, g1.turn (jl := bs.length) (ml := 0) (rl := 0) (pl := 1) rfl rfl rfl rfl rfl rfl rfl]; rfl, g1, g2⟩
    clear hE0 hok hbs hbb
    have cb_0 : X2.cell? ⟨w1.heap.size, 0, none⟩ = some (.int .i64 S1) := (cb.c 0 (by decide)).1
    have cb_1 : X2.cell? ⟨w1.heap.size, 1, none⟩ = some (.slice (some ⟨g0, 0, none⟩) 2 2) := (cb.c 1 (by decide)).1
    have cb_2 : X2.cell? ⟨w1.heap.size, 2, none⟩ = some (.int .i64 3) := (cb.c 2 (by decide)).1
    have cb_z := cb.lt
    have dbx_0 : X2.cell? ⟨y0.heap.size, 0, none⟩ = some (.int .i64 nx) := (dbx.c 0 (by decide)).1
    have dbx_1 : X2.cell? ⟨y0.heap.size, 1, none⟩ = some (.slice da N dc) := (dbx.c 1 (by decide)).1
    have dbx_z := dbx.lt
    go_upto_region 5 with (go_at_call 11; refine HCl.out.mono ?_; rintro e y1 ⟨V, iz, mz, rfl, hLv, hb5⟩)
    clear cb_0 cb_1 cb_2 cb_z dbx_0 dbx_1 dbx_z
    clear HCl
    replace cb := cb.below hb5 cb.lt
    replace dbx := dbx.below hb5 dbx.lt
    replace bw := bw.trans (hb5.mono bw.size)
    replace hl := hl.below hb5
    replace hDk := hDk.below hb5
    obtain ⟨X3, eX3⟩ : ∃ X : World, X = y1.alloc (.cells #[.int .i64 nx, .slice V.ja N V.jc, .slice V.ma 0 V.mc, .slice V.ra 0 V.rc, .slice V.pa 1 V.pc, .int .i64 0, .int .i64 0] 39) := ⟨_, rfl⟩
    have tb : BoxN X3 y1.heap.size 7 [.int .i64 nx, .slice V.ja N V.jc, .slice V.ma 0 V.mc, .slice V.ra 0 V.rc, .slice V.pa 1 V.pc, .int .i64 0, .int .i64 0] := by rw [eX3]; exact boxn_new y1 #[.int .i64 nx, .slice V.ja N V.jc, .slice V.ma 0 V.mc, .slice V.ra 0 V.rc, .slice V.pa 1 V.pc, .int .i64 0, .int .i64 0] 39 7 rfl
    have bX3 : Below y1.heap.size y1 X3 := by rw [eX3]; exact (Below.refl _ _).alloc (Nat.le_refl _) _
    rw [← eX3]
    clear eX3
    replace cb := cb.below bX3 cb.lt
    replace dbx := dbx.below bX3 dbx.lt
    replace bw := bw.trans (bX3.mono bw.size)
    replace hl := hl.below bX3
    replace hDk := hDk.below bX3
    replace hLv := hLv.below bX3
    have hR := hLv.reps
    rw [hLv.ps.1, hLv.ps.2] at hR
    simp only [List.length_cons, List.length_nil, Nat.zero_add] at hR
    obtain ⟨rb, ro, er, zr, hrp⟩ := hR.2.2.2.2 (by decide)
    have hcp : 0 < V.pc := hR.2.1
    have p0 := hrp 0 (by decide) 0 (by decide)
    have p1 := hrp 0 (by decide) 1 (by decide)
    have p2 := hrp 0 (by decide) 2 (by decide)
    have p3 := hrp 0 (by decide) 3 (by decide)
    have p4 := hrp 0 (by decide) 4 (by decide)
    have p5 := hrp 0 (by decide) 5 (by decide)
    simp only [List.getD_cons_zero, RpV.cells, List.getElem?_cons_zero, List.getElem?_cons_succ, Nat.zero_mul, Nat.add_zero] at p0 p1 p2 p3 p4 p5
    clear hrp hR
    have HSm : Hid (Calls Tryd.prog 12 #[.agg #[.int .i64 nx, .slice da N dc], .agg #[.int .i64 nx, .slice V.ja N V.jc]] X3 fun e w' => e = .returned (.bool true) ∧ Below X3.heap.size X3 w') := by
      have j3 := hLv.isJobs
      rw [hLv.js.2, ← HN.out] at j3
      exact sameDesk_eq nx da N dc js V.ja V.jc V.js X3 hDk.isJobs j3 (HBS.out.1.trans hLv.js.1.symm)
    have tb_0 : X3.cell? ⟨y1.heap.size, 0, none⟩ = some (.int .i64 nx) := (tb.c 0 (by decide)).1
    have tb_1 : X3.cell? ⟨y1.heap.size, 1, none⟩ = some (.slice V.ja N V.jc) := (tb.c 1 (by decide)).1
    have tb_2 : X3.cell? ⟨y1.heap.size, 2, none⟩ = some (.slice V.ma 0 V.mc) := (tb.c 2 (by decide)).1
    have tb_3 : X3.cell? ⟨y1.heap.size, 3, none⟩ = some (.slice V.ra 0 V.rc) := (tb.c 3 (by decide)).1
    have tb_4 : X3.cell? ⟨y1.heap.size, 4, none⟩ = some (.slice V.pa 1 V.pc) := (tb.c 4 (by decide)).1
    have tb_5 : X3.cell? ⟨y1.heap.size, 5, none⟩ = some (.int .i64 0) := (tb.c 5 (by decide)).1
    have tb_6 : X3.cell? ⟨y1.heap.size, 6, none⟩ = some (.int .i64 0) := (tb.c 6 (by decide)).1
    have tb_z := tb.lt
    have dbx_0 : X3.cell? ⟨y0.heap.size, 0, none⟩ = some (.int .i64 nx) := (dbx.c 0 (by decide)).1
    have dbx_1 : X3.cell? ⟨y0.heap.size, 1, none⟩ = some (.slice da N dc) := (dbx.c 1 (by decide)).1
    have dbx_z := dbx.lt
    rw [er] at tb_4
    have fin9 : ∀ U, Below X3.heap.size X3 U → U.cell? ⟨y1.heap.size, 3, none⟩ = some (.slice V.ra 0 V.rc) ∧ y1.heap.size < U.heap.size := fun U hU => by
      have h1 := tb.below hU tb.lt
      exact ⟨(h1.c 3 (by decide)).1, h1.lt⟩
    have Hf9 : Hid _ := fin9
    clear fin9 tb hLv hDk dbx cb
    rcases hfull with hn6 | hn6
    · subst hn6
      go_wp2_with (go_at_call 12; refine HSm.out.mono ?_; rintro e y4 ⟨rfl, hb7⟩; obtain ⟨q3, q7⟩ := Hf9.out y4 hb7)
      go_ret
      exact ⟨by simp, bw.trans (hb7.mono bw.size)⟩
    · have hn7 : PN < 600 := hn6
      by_cases hn8 : N = 6
      · subst hn8
        go_wp2_with (go_at_call 12; refine HSm.out.mono ?_; rintro e y4 ⟨rfl, hb7⟩; obtain ⟨q3, q7⟩ := Hf9.out y4 hb7)
        go_ret
        exact ⟨by simp, bw.trans (hb7.mono bw.size)⟩
      · have hn9 : ((N : Int) == 6) = false := by simp; omega
        go_wp2_with (go_at_call 12; refine HSm.out.mono ?_; rintro e y4 ⟨rfl, hb7⟩; obtain ⟨q3, q7⟩ := Hf9.out y4 hb7)
        go_ret
        exact ⟨by simp, bw.trans (hb7.mono bw.size)⟩
  · skip
    have HCl : Hid (Calls Tryd.prog 11 #[.agg #[.int .i64 S1, .slice (some ⟨g0, 0, none⟩) 2 2, .int .i64 3], .int .i64 1, .int .i64 0, .agg #[.int .i64 nx, .slice da N dc], .int .i64 PN, .agg #[.int .i64 1, .int .i64 0, .int .i64 0, .int .i64 0, .int .i64 0]] X2 fun e w' => ∃ (v' : CkV) (ix' : List (Nat × Nat)) (more' : List Rw), e = .returned (.tuple #[.agg #[.int .i64 (nx + 1), .slice v'.ja (N + 1) v'.jc, .slice v'.ma 0 v'.mc, .slice v'.ra 1 v'.rc, .slice v'.pa 1 v'.pc, .int .i64 0, .int .i64 0], .int .i64 0]) ∧ Live X2.heap.size w' v' ix' more' ⟨nx + 1, bs ++ [newJob nx], [], [⟨5, 0, nx, 0, 0, 0, false, none, 0, 0, []⟩], [⟨0, 1, nx, 0, 0, 0⟩], 0, 0⟩ ∧ Below X2.heap.size X2 w') := by
      have h1 := hDk
      have hA := begin_new (room := PN) hE0 hbb (by rw [← HN.out]; omega) (by omega) (by omega)
      rw [HN.out] at h1 ⊢
      refine (call_dk S1 3 (some ⟨g0, 0, none⟩) 2 2 LS2 1 0 nx da dc bs PN ⟨1, 0, 0, 0, 0⟩ X2 hl h1 hbs).mono ?_
      rintro e x ⟨v', ix', more', rfl, g1, g2⟩
      rw [hA] at g1
      exact ⟨v', ix', more', by rw [hE0, g1.turn (jl := (bs.length + 1)) (ml := 0) (rl := 1) (pl := 1) rfl (by simp) rfl rfl rfl rfl rfl]; rfl, g1, g2⟩
    clear hE0 hok hbs hbb
    have cb_0 : X2.cell? ⟨w1.heap.size, 0, none⟩ = some (.int .i64 S1) := (cb.c 0 (by decide)).1
    have cb_1 : X2.cell? ⟨w1.heap.size, 1, none⟩ = some (.slice (some ⟨g0, 0, none⟩) 2 2) := (cb.c 1 (by decide)).1
    have cb_2 : X2.cell? ⟨w1.heap.size, 2, none⟩ = some (.int .i64 3) := (cb.c 2 (by decide)).1
    have cb_z := cb.lt
    have dbx_0 : X2.cell? ⟨y0.heap.size, 0, none⟩ = some (.int .i64 nx) := (dbx.c 0 (by decide)).1
    have dbx_1 : X2.cell? ⟨y0.heap.size, 1, none⟩ = some (.slice da N dc) := (dbx.c 1 (by decide)).1
    have dbx_z := dbx.lt
    go_upto_region 5 with (go_at_call 11; refine HCl.out.mono ?_; rintro e y1 ⟨V, iz, mz, rfl, hLv, hb5⟩)
    clear cb_0 cb_1 cb_2 cb_z dbx_0 dbx_1 dbx_z
    clear HCl
    replace cb := cb.below hb5 cb.lt
    replace dbx := dbx.below hb5 dbx.lt
    replace bw := bw.trans (hb5.mono bw.size)
    replace hl := hl.below hb5
    replace hDk := hDk.below hb5
    obtain ⟨X3, eX3⟩ : ∃ X : World, X = y1.alloc (.cells #[.int .i64 (nx + 1), .slice V.ja (N + 1) V.jc, .slice V.ma 0 V.mc, .slice V.ra 1 V.rc, .slice V.pa 1 V.pc, .int .i64 0, .int .i64 0] 39) := ⟨_, rfl⟩
    have tb : BoxN X3 y1.heap.size 7 [.int .i64 (nx + 1), .slice V.ja (N + 1) V.jc, .slice V.ma 0 V.mc, .slice V.ra 1 V.rc, .slice V.pa 1 V.pc, .int .i64 0, .int .i64 0] := by rw [eX3]; exact boxn_new y1 #[.int .i64 (nx + 1), .slice V.ja (N + 1) V.jc, .slice V.ma 0 V.mc, .slice V.ra 1 V.rc, .slice V.pa 1 V.pc, .int .i64 0, .int .i64 0] 39 7 rfl
    have bX3 : Below y1.heap.size y1 X3 := by rw [eX3]; exact (Below.refl _ _).alloc (Nat.le_refl _) _
    rw [← eX3]
    clear eX3
    replace cb := cb.below bX3 cb.lt
    replace dbx := dbx.below bX3 dbx.lt
    replace bw := bw.trans (bX3.mono bw.size)
    replace hl := hl.below bX3
    replace hDk := hDk.below bX3
    replace hLv := hLv.below bX3
    have hR := hLv.reps
    rw [hLv.ps.1, hLv.ps.2] at hR
    simp only [List.length_cons, List.length_nil, Nat.zero_add] at hR
    obtain ⟨rb, ro, er, zr, hrp⟩ := hR.2.2.2.2 (by decide)
    have hcp : 0 < V.pc := hR.2.1
    have p0 := hrp 0 (by decide) 0 (by decide)
    have p1 := hrp 0 (by decide) 1 (by decide)
    have p2 := hrp 0 (by decide) 2 (by decide)
    have p3 := hrp 0 (by decide) 3 (by decide)
    have p4 := hrp 0 (by decide) 4 (by decide)
    have p5 := hrp 0 (by decide) 5 (by decide)
    simp only [List.getD_cons_zero, RpV.cells, List.getElem?_cons_zero, List.getElem?_cons_succ, Nat.zero_mul, Nat.add_zero] at p0 p1 p2 p3 p4 p5
    clear hrp hR
    have hRc := hLv.rcds
    have hv1 : V.rs.length = 1 := by
      have h1 := hLv.rs.2
      have h2 := hLv.lens.2.2.1
      rw [h1] at h2
      exact h2
    have hrk : (V.rs.getD 0 default).kind = 5 := by
      have h1 := hLv.rs.1
      cases hv : V.rs with
      | nil => rw [hv] at hv1; simp at hv1
      | cons r0 rest =>
        rw [hv] at h1
        simp only [List.map_cons, List.cons.injEq] at h1
        simp only [List.getD_cons_zero]
        have := congrArg RcV.kind h1.1
        exact this
    rw [hLv.rs.2] at hRc
    simp only [List.length_cons, List.length_nil, Nat.zero_add] at hRc
    obtain ⟨cb2, co2, ec, zc2, hcc⟩ := hRc.2.2.2.2 (by decide)
    have hcr : 0 < V.rc := hRc.2.1
    have c0 := hcc 0 (by decide) 0 (by decide)
    simp only [RcV.cells, List.getElem?_cons_zero, Nat.zero_mul, Nat.add_zero, hrk] at c0
    clear hcc hRc hv1 hrk
    have hn6 : ((N : Int) == 6) = false := by simp; omega
    have hn7 : decide (PN < 600) = false := by simp; omega
    have hwn : IntKind.i64.wrap (nx + 1) = nx + 1 := by simp [IntKind.wrap, IntKind.bits, IntKind.signed]; omega
    have hwn2 : IntKind.i64.wrap (1 + nx) = nx + 1 := by simp [IntKind.wrap, IntKind.bits, IntKind.signed]; omega
    have tb_0 : X3.cell? ⟨y1.heap.size, 0, none⟩ = some (.int .i64 (nx + 1)) := (tb.c 0 (by decide)).1
    have tb_1 : X3.cell? ⟨y1.heap.size, 1, none⟩ = some (.slice V.ja (N + 1) V.jc) := (tb.c 1 (by decide)).1
    have tb_2 : X3.cell? ⟨y1.heap.size, 2, none⟩ = some (.slice V.ma 0 V.mc) := (tb.c 2 (by decide)).1
    have tb_3 : X3.cell? ⟨y1.heap.size, 3, none⟩ = some (.slice V.ra 1 V.rc) := (tb.c 3 (by decide)).1
    have tb_4 : X3.cell? ⟨y1.heap.size, 4, none⟩ = some (.slice V.pa 1 V.pc) := (tb.c 4 (by decide)).1
    have tb_5 : X3.cell? ⟨y1.heap.size, 5, none⟩ = some (.int .i64 0) := (tb.c 5 (by decide)).1
    have tb_6 : X3.cell? ⟨y1.heap.size, 6, none⟩ = some (.int .i64 0) := (tb.c 6 (by decide)).1
    have tb_z := tb.lt
    have dbx_0 : X3.cell? ⟨y0.heap.size, 0, none⟩ = some (.int .i64 nx) := (dbx.c 0 (by decide)).1
    have dbx_1 : X3.cell? ⟨y0.heap.size, 1, none⟩ = some (.slice da N dc) := (dbx.c 1 (by decide)).1
    have dbx_z := dbx.lt
    rw [er] at tb_4
    rw [ec] at tb_3
    clear hfull hnx
    go_upto_region 9 with (fail)
    go_quiet (fail)
    go_wp2
    go_ret
    exact ⟨by simp, below_drewN bw _⟩
end Go.Proofs.YtdjnaahkcnklhaaDoor.Co
/- What the listed tables of package wire hold, cell by cell, out of their reading as data. -/
namespace Go.Proofs.YtdjnaahkcnklhaaDoor
open Go.ChangeShapes Go.WideShapes Go.ChangeAt Go.RowKit

def bRow {H : Type} (bs : List Bool) : DataW H := .agg (bs.map fun b => .lit (.bool b))
def bTab {H : Type} (tb : List (List Bool)) : DataW H := .agg (tb.map bRow)

section
variable {H : Type} {enc : TypeId × Value → H} {W : World} {base : Nat} {sp : Nat → Bool} {held : Bool}

theorem c1b : Tryd.prog.cellsOf 4 = 1 := by kernel_rfl
theorem c8b : Tryd.prog.cellsOf 131 = 8 := by kernel_rfl

theorem row_of {fuel : Nat} {cs : List Value} {bs : List Bool} {p : List MemPlace} (hb : bs.length = 8) (h : DataW.trod enc Tryd.prog W base sp held fuel 131 cs = some (bRow bs, p)) (j : Nat) (hj : j < 8) : cs[j]? = some (.bool (bs.getD j false)) := by
  obtain ⟨xs, m, rfl, hx, hl, hn, hel⟩ := DataW.trod_array Tryd.underlying131 h
  have hxs : xs.map (·.1) = bs.map fun b => (DataW.lit (.bool b) : DataW H) := by
    have := congrArg Prod.fst hx
    simpa [bRow] using this.symm
  have h1 := hel j hj
  rw [c1b, List.getElem?_eq_getElem (by omega)] at h1
  obtain ⟨b, hc, hx1⟩ := DataW.trod_bool Tryd.underlying4 h1
  have e1 : cs[j]? = some (.bool b) := by
    have := congrArg (·[0]?) hc
    simpa [List.getElem?_take, List.getElem?_drop] using this
  have e2 : (xs.map (·.1))[j]? = some (DataW.lit (.bool b) : DataW H) := by
    rw [List.getElem?_map, List.getElem?_eq_getElem (by omega), hx1]; rfl
  rw [hxs] at e2
  have hjb : j < bs.length := by omega
  simp [hjb] at e2
  rw [e1]
  simp [List.getD, hjb, e2]

theorem tab_of {fuel n : Nat} {t : TypeId} {cs : List Value} {tb : List (List Bool)} {p : List MemPlace} (ht : Tryd.prog.underlying t = some (.array n 131)) (hn : tb.length = n) (hb : ∀ i, i < n → (tb.getD i []).length = 8) (h : DataW.trod enc Tryd.prog W base sp held fuel t cs = some (bTab tb, p)) (i j : Nat) (hi : i < n) (hj : j < 8) : cs[i * 8 + j]? = some (.bool ((tb.getD i []).getD j false)) := by
  obtain ⟨xs, m, rfl, hx, hl, hlen, hel⟩ := DataW.trod_array ht h
  have hxs : xs.map (·.1) = tb.map bRow := by
    have := congrArg Prod.fst hx
    simpa [bTab] using this.symm
  have h1 := hel i hi
  rw [c8b, List.getElem?_eq_getElem (by omega)] at h1
  have e2 : (xs.map (·.1))[i]? = (tb.map (bRow (H := H)))[i]? := by rw [hxs]
  have hit : i < tb.length := by omega
  have hix : i < xs.length := by omega
  simp [hix, hit] at e2
  obtain ⟨d, q, hxi⟩ : ∃ d q, xs[i] = (d, q) := ⟨_, _, rfl⟩
  have e3 : d = bRow (tb.getD i []) := by
    rw [hxi] at e2
    simp [List.getD, hit]
    exact e2
  rw [hxi, e3] at h1
  have := row_of (hb i hi) h1 j hj
  rw [List.getElem?_take, if_pos hj, List.getElem?_drop] at this
  exact this

theorem has_of {fuel n g : Nat} {t : TypeId} {cs : Array Value} {tb : List (List Bool)} {p : List MemPlace} {name : String} (hg : Tryd.prog.globalNamed name = some g) (hv : W.var? Tryd.prog name = some cs) (ht : Tryd.prog.underlying t = some (.array n 131)) (hn : tb.length = n) (hb : ∀ i, i < n → (tb.getD i []).length = 8)
    (h : DataW.trod enc Tryd.prog W base sp held fuel t cs.toList = some (bTab tb, p)) : HasAt W g tb := by
  intro i j hi hj
  rw [World.var?_cell hg hv, ← Array.getElem?_toList]
  exact tab_of ht hn hb h i j (by omega) hj

theorem mHas_rows : ∀ i, i < 10 → (mHas.getD i []).length = 8 := by decide
theorem rHas_rows : ∀ i, i < 7 → (rHas.getD i []).length = 8 := by decide

theorem tops_of {fuel : Nat} {cs : Array Value} {p : List MemPlace} {name : String} (hg : Tryd.prog.globalNamed name = some 1) (hv : W.var? Tryd.prog name = some cs)
    (h : DataW.trod enc Tryd.prog W base sp held fuel 124 cs.toList = some (Lib.tabData .i64 topL, p)) : TopsAt W := by
  have e := Lib.cells_of_tab Tryd.underlying124 Tryd.underlying3 (by kernel_rfl) (by kernel_rfl) h
  have c : ∀ i, W.cell? ⟨1, i, none⟩ = (topL.map fun z => Value.int .i64 z)[i]? := by
    intro i
    rw [World.var?_cell hg hv, ← Array.getElem?_toList, e]
  unfold TopsAt
  simp only [c]
  simp [topL]
end
end Go.Proofs.YtdjnaahkcnklhaaDoor
