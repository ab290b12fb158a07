/- Texts of this claim, one behind the other. -/
import Derived.Test.YtdjnaahkcnklhabDoorM10TickEnds
import Derived.Test.YtdjnaahkcnklhabDoorM29TickEnds
import Derived.Test.YtdjnaahkcnklhabDoorM37TickEnds
/- reredoskeep.coordTells: a desk without a next number may not be. -/
namespace Go.Proofs.YtdjnaahkcnklhabDoor.Co
open Go.ChangeShapes Go.WideShapes Go.ChangeAt Go.RowKit
open Go.Proofs.YtdjnaahkcnklhabDoor.St (IsRow)
open Go.Proofs.YtdjnaahkcnklhabDoor.Pt (LS2 cfg_two two_any)
set_option linter.unusedVariables false

theorem isJobs_nil (w : World) : IsJobs w none 0 0 [] := ⟨St.isRow_nil _ _ _, fun j hj => by cases hj⟩
theorem dk_none {s p : Int} {ls : List (Int × Int)} (h : cfgFault s ls p = 0) : dkErr s ls p 0 [] = 9 := by
  unfold dkErr
  rw [if_pos h]
  rfl
set_option maxRecDepth 100000 in
theorem coordTells_any (w : World) : Calls Tryd.prog 14 #[] w fun e w' => e = .returned (.bool true) ∧ Below w.heap.size w w' := by
  have hTw := two_any 0 w (by omega)
  have e1 : (1 : Int) + pk 0 3 = 1 := by decide
  rw [e1] at hTw
  go_enter Tryd.func14, Tryd.ntmps14
  go_wp2_with (first | (go_at_call 7; refine hTw.mono ?_; rintro e w1 ⟨g0, rfl, hl, hg0, hb1⟩; have hC := deskCheck_any 1 3 (some ⟨g0, 0, none⟩) 2 2 LS2 0 none 0 0 [] w1 hl (isJobs_nil w1); rw [dk_none (cfg_two (by omega) (by omega) (by omega) (by omega))] at hC) | (go_at_call 15; refine hC.mono ?_; rintro e w2 ⟨rfl, hb2⟩))
  go_ret
  exact ⟨by simp, hb1.trans (hb2.mono hb1.size)⟩
end Go.Proofs.YtdjnaahkcnklhabDoor.Co
/- What is heard of doubts, as plain data. -/
namespace Go.Proofs.YtdjnaahkcnklhabDoor.Co
open Go.Proofs.YtdjnaahkcnklhabDoor.St (idxI idxI_lt idxI_hit idxI_none)
open Go.Proofs.YtdjnaahkcnklhabDoor.Pt (LS2 cfg_two)
set_option linter.unusedVariables false

theorem bare_idem (bs : List JbV) {js : List JbV} (h : js.map JbV.bare = bs) : bs.map JbV.bare = bs := by
  rw [← h, List.map_map]
  rfl
def dbtM (k f : Int) : MV := ⟨9, f, 0, 0, k, 0, 0, 0, 0, 0, false, 0⟩
theorem dbt_ok {S1 k f nx : Int} {bs : List JbV} (h1 : 1 ≤ S1) (h3 : S1 ≤ 3) (hk : 1 ≤ k ∧ k ≤ 9) (hf : 0 ≤ f ∧ f ≤ S1 - 1) (hd : DOK S1 2 nx bs) : hrErr ⟨S1, LS2, 3, 1, 0⟩ nx bs (dbtM k f) = 0 := by
  have hc := cfg_two (p := 3) h1 (by omega) (by omega) (by omega)
  have hr : rfErr S1 LS2 3 1 0 nx bs = 0 := rf_of hc ⟨by omega, by decide⟩ ⟨by omega, by omega⟩ hd
  have hm : msgFault S1 LS2 3 (dbtM k f) = 0 := by
    refine mf_ok hc rfl ?_ ?_
    · have hk2 : k ≤ 1048576 := by omega
      simp [msgRange, txnOK, partsOK, dbtM, MV.parts, topL, inTops, inR, hf, hk.1, hk2, bit, plc, LS2, isCd]
      omega
    · simp [msgForm, dbtM, MV.parts, mHasOf, mHas, hasAll, bit]
  unfold hrErr
  simp only []
  rw [if_pos hr, if_pos hm]
  rfl
theorem dbt_ans {S1 k f nx : Int} {bs : List JbV} (hE : hrErr ⟨S1, LS2, 3, 1, 0⟩ nx bs (dbtM k f) = 0) (hb : bs.map JbV.bare = bs) : HearAns ⟨S1, LS2, 3, 1, 0⟩ nx bs (dbtM k f) = ⟨nx, bs, if idxI (isN k) bs = -1 then [decM 0 k false f] else if (decide ((bs.getD (idxI (isN k) bs).toNat default).state = 3) && (bs.getD (idxI (isN k) bs).toNat default).asked.any fun y => f == y) = true then [decM 0 k true f] else [], [], [], 0, 0⟩ := by
  unfold HearAns
  rw [if_pos hE]
  have e0 : tn0 nx bs = ⟨nx, bs, [], [], [], 0, 0⟩ := by unfold tn0; rw [hb]
  rw [e0]
  unfold Tn.heard
  rw [if_pos (show (dbtM k f).kind = 9 from rfl)]
  show (if idxI (isN k) bs = -1 then _ else _) = _
  by_cases hi : idxI (isN k) bs = -1
  · rw [if_pos hi, if_pos hi]; rfl
  · rw [if_neg hi, if_neg hi]
    have hn := (idx_get hi).2
    unfold Tn.doubted
    show (if (decide ((bs.getD (idxI (isN k) bs).toNat default).state = 3) && (bs.getD (idxI (isN k) bs).toNat default).asked.any fun y => f == y) = true then _ else _) = _
    split
    · unfold Tn.told
      show (⟨nx, bs, [] ++ [decM 0 (bs.getD (idxI (isN k) bs).toNat default).n true f], [], [], 0, 0⟩ : Tn) = _
      rw [hn]
      rfl
    · rfl
end Go.Proofs.YtdjnaahkcnklhabDoor.Co
/- The walk of the law TickEnds: at any numbers it returns true and leaves what was in memory. -/
namespace Go.Proofs.YtdjnaahkcnklhabDoor.Co
open Go.ChangeShapes Go.WideShapes Go.ChangeAt Go.RowKit
open Go.Proofs.YtdjnaahkcnklhabDoor.St (BoxN boxn_new own_below grown_setCell IsRow Elem flat flat_append own_isRow idxI)
open Go.Proofs.YtdjnaahkcnklhabDoor.Pt (LS2 cfg_two two_any)
set_option linter.unusedVariables false

theorem tells_take {bs : List JbV} {k : Nat} (h : k < bs.length) : tells (bs.take (k + 1)) = tells (bs.take k) + (if (bs.getD k default).state = 3 then 1 else 0) := by
  have e1 : bs.take (k + 1) = bs.take k ++ [bs.getD k default] := by rw [List.take_add_one]; simp [List.getD, h]
  rw [e1]
  unfold tells
  rw [List.filter_append, List.length_append]
  congr 1
  generalize bs.getD k default = j
  by_cases hs : j.state = 3
  · rw [if_pos hs, List.filter_cons, if_pos (by simp [isTell, hs])]
    rfl
  · rw [if_neg hs, List.filter_cons, if_neg (by simp [isTell, hs])]
    rfl
theorem tells_le (bs : List JbV) : tells bs ≤ bs.length := by unfold tells; exact List.length_filter_le _ _
set_option maxRecDepth 100000 in
set_option maxHeartbeats 16000000 in
theorem tickEnds_walk (s : Int) (a : Option Addr) (len cap : Nat) (rs : List St.RV) (w : World) (hs : (Lit.int .i64 s).wf = true) (hr : St.IsRaws w a len cap rs) (hHa : HasAt w 0 mHas) (hTo : TopsAt w) :
    Calls Tryd.prog 6 #[.int .i64 s, .slice a len cap] w fun e w' => e = .returned (.bool true) ∧ Below w.heap.size w w' := by
  have bds : -9223372036854775808 ≤ s ∧ s ≤ 9223372036854775807 := by
    simp [Lit.wf, IntKind.min, IntKind.max, IntKind.signed, IntKind.bits] at hs
    omega
  clear hs
  have hgT : 1 < w.heap.size := World.block_lt_of_cell? w _ hTo.1
  have hgM : 0 < w.heap.size := hHa.lt (by decide)
  have KT : Hid (∀ U, Below w.heap.size w U → Tables U) := fun U hU => ⟨hHa.below hU hgM, hTo.below hU hgT⟩
  clear hHa hTo hgT hgM
  have hsp := pk_bd s 3 (by omega)
  have hTw := fun u => two_any s u bds
  obtain ⟨S1, eS1⟩ : ∃ x, x = 1 + pk s 3 := ⟨_, rfl⟩
  rw [← eS1] at hTw
  have hS1 : 1 ≤ S1 := by omega
  have hS3 : S1 ≤ 3 := by omega
  clear eS1 hsp
  have bw : Below w.heap.size w w := Below.refl _ _
  have hTl := coordTells_any w
  go_enter Tryd.func6, Tryd.ntmps6
  go_upto_region 3 with (go_at_call 14; refine hTl.mono ?_; rintro e w0 ⟨rfl, hb00⟩)
  clear hTl
  replace bw := bw.trans (hb00.mono bw.size)
  replace hr := hr.below hb00
  go_upto_region 4 with (go_at_call 7; refine (hTw _).mono ?_; rintro e w1 ⟨g0, rfl, hl, hg0, hb1⟩)
  clear hTw
  replace bw := bw.trans (hb1.mono bw.size)
  replace hr := hr.below hb1
  obtain ⟨X1, eX1⟩ : ∃ X : World, X = w1.alloc (.cells #[.int .i64 S1, .slice (some ⟨g0, 0, none⟩) 2 2, .int .i64 3] 25) := ⟨_, rfl⟩
  have cb : BoxN X1 w1.heap.size 3 [.int .i64 S1, .slice (some ⟨g0, 0, none⟩) 2 2, .int .i64 3] := by rw [eX1]; exact boxn_new w1 #[.int .i64 S1, .slice (some ⟨g0, 0, none⟩) 2 2, .int .i64 3] 25 3 rfl
  have bX1 : Below w1.heap.size w1 X1 := by rw [eX1]; exact (Below.refl _ _).alloc (Nat.le_refl _) _
  rw [← eX1]
  clear eX1
  replace bw := bw.trans (bX1.mono bw.size)
  replace hr := hr.below bX1
  replace hl := hl.below bX1
  have HDm : Hid (Calls Tryd.prog 12 #[.agg #[.int .i64 S1, .slice (some ⟨g0, 0, none⟩) 2 2, .int .i64 3], .int .i64 1, .int .i64 0, .slice a len cap, .int .i64 30] X1 fun e w' => ∃ (da : Option Addr) (dc : Nat) (nx : Int) (bs js : List JbV) (ix : List (Nat × Nat)) (more : List Rw), e = .returned (.agg #[.int .i64 nx, .slice da bs.length dc]) ∧ DeskAt w' X1.heap.size da bs.length dc js ix more ∧ js.map JbV.bare = bs ∧ DOK S1 2 nx bs ∧ nx ≤ 1 + 30 ∧ Below X1.heap.size X1 w') := by
    refine (desk_made S1 1 0 g0 a len cap rs 30 X1 hS1 hS3 (Or.inr rfl) ⟨by omega, by omega⟩ hl hr (fun U hU => KT.out U (bw.trans (hU.mono bw.size))) (by omega)).mono ?_
    rintro e x ⟨⟨D, nx, bs, rfl, ⟨da, dc, js, ix, more, rfl, h2, h3⟩, h4, h6⟩, h5⟩
    exact ⟨da, dc, nx, bs, js, ix, more, rfl, h2, h3, h4, h6, h5⟩
  have cb_0 : X1.cell? ⟨w1.heap.size, 0, none⟩ = some (.int .i64 S1) := (cb.c 0 (by decide)).1
  have cb_1 : X1.cell? ⟨w1.heap.size, 1, none⟩ = some (.slice (some ⟨g0, 0, none⟩) 2 2) := (cb.c 1 (by decide)).1
  have cb_2 : X1.cell? ⟨w1.heap.size, 2, none⟩ = some (.int .i64 3) := (cb.c 2 (by decide)).1
  have cb_z := cb.lt
  go_upto_region 5 with (go_at_call 12; refine HDm.out.mono ?_; rintro e y0 ⟨da, dc, nx, bs, js, ix, more, rfl, hDk, hbs, hok, hnx, hb0⟩)
  clear cb_0 cb_1 cb_2 cb_z
  clear HDm
  replace cb := cb.below hb0 cb.lt
  replace bw := bw.trans (hb0.mono bw.size)
  replace hr := hr.below hb0
  replace hl := hl.below hb0
  obtain ⟨N, eN⟩ : ∃ N, N = bs.length := ⟨_, rfl⟩
  rw [← eN] at hDk ⊢
  have HN : Hid (N = bs.length) := eN
  clear eN
  have HY : Hid (∀ U, Below y0.heap.size y0 U → Below w.heap.size w U ∧ IsLabs U (some ⟨g0, 0, none⟩) 2 2 LS2 ∧ BoxN U w1.heap.size 3 [.int .i64 S1, .slice (some ⟨g0, 0, none⟩) 2 2, .int .i64 3]) := fun U hU => ⟨bw.trans (hU.mono bw.size), hl.below hU, cb.below hU cb.lt⟩
  have HD0 : Hid (DeskAt y0 X1.heap.size da N dc js ix more) := hDk
  obtain ⟨X2, eX2⟩ : ∃ X : World, X = y0.alloc (.cells #[.int .i64 nx, .slice da N dc] 29) := ⟨_, rfl⟩
  have dbx : BoxN X2 y0.heap.size 2 [.int .i64 nx, .slice da N dc] := by rw [eX2]; exact boxn_new y0 #[.int .i64 nx, .slice da N dc] 29 2 rfl
  have bX2 : Below y0.heap.size y0 X2 := by rw [eX2]; exact (Below.refl _ _).alloc (Nat.le_refl _) _
  rw [← eX2]
  clear eX2
  replace cb := cb.below bX2 cb.lt
  replace bw := bw.trans (bX2.mono bw.size)
  replace hr := hr.below bX2
  replace hl := hl.below bX2
  replace hDk := hDk.below bX2
  clear hr
  have HX : Hid (DeskBox (Ticked S1 · (tells bs) 0 ·) X1.heap.size y0.heap.size y0 X2 nx da N dc) := deskBox_new (P := (Ticked S1 · (tells bs) 0 ·)) dbx bX2 HN.out HD0.out hbs (ticked_zero hok)
  have HBB : Hid (X1.heap.size ≤ y0.heap.size ∧ nx ≤ 31) := ⟨hb0.size, by omega⟩
  have hN6 : N ≤ 6 := by rw [HN.out]; exact hok.len
  have hcf : cfgFault S1 LS2 3 = 0 := cfg_two hS1 (by omega) (by omega) (by omega)
  have HOK : Hid (DOK S1 2 nx bs) := hok
  have HBS : Hid (js.map JbV.bare = bs ∧ bs.map JbV.bare = bs) := ⟨hbs, bare_idem bs hbs⟩
  have hJd := hDk.isJobs
  have HJd : Hid (∀ U, Below X2.heap.size X2 U → IsJobs U da N dc js) := fun U hU => hJd.below hU
  have HJl : Hid (js.length = N) := hJd.row.1
  have HGd : Hid (∀ i, (bs.getD i default) = (js.getD i default).bare) := fun i => by rw [← HBS.out.1, getD_bare]
  have hNc : N ≤ dc ∧ dc ≤ maxLen := ⟨hJd.row.2.1, hJd.row.2.2.1⟩
  unfold maxLen at hNc
  obtain ⟨hNc1, hNc2⟩ := hNc
  clear hbs hok hnx
  have dbx_0 : X2.cell? ⟨y0.heap.size, 0, none⟩ = some (.int .i64 nx) := (dbx.c 0 (by decide)).1
  have dbx_1 : X2.cell? ⟨y0.heap.size, 1, none⟩ = some (.slice da N dc) := (dbx.c 1 (by decide)).1
  have dbx_z := dbx.lt
  go_upto_region 7 with (fail)
  clear dbx_0 dbx_1 dbx_z
  clear hJd hDk dbx cb bw hl
  go_loopw [7, 9, 25] (fun s7 _ s25 wr => ∃ k : Nat, s25 = .int .i64 (k : Int) ∧ k ≤ N ∧ s7 = .int .i64 (tells (bs.take k) : Int) ∧ Hid (Below X2.heap.size X2 wr)) (fun _ _ s25 _ => N - (intOf s25).toNat)
  case atStart => exact ⟨0, rfl, Nat.zero_le _, by simp [tells], Below.refl _ _⟩
  case round =>
    obtain ⟨k, rfl, hk, rfl, hbk⟩ := hrel
    by_cases hlt : k < N
    · have hlt' : (k : Int) < (N : Int) := by omega
      have hJr := HJd.out wr hbk.out
      obtain ⟨b, off, rfl, zb, hcr⟩ := hJr.row.2.2.2.2 (by omega)
      have hkdc : k < dc := by omega
      have hcells := hcr k hlt
      have HJk : Hid ((bs.getD k default) = (js.getD k default).bare) := HGd.out k
      obtain ⟨J, eJ⟩ : ∃ J, J = js.getD k default := ⟨_, rfl⟩
      rw [← eJ] at hcells HJk
      clear eJ hcr hJr
      obtain ⟨jn, st, ta, tl, tc, aa, al, ac, asks, age, tasks, asked⟩ := J
      have a0 := hcells 0 (by decide)
      have a1 := hcells 1 (by decide)
      have a2 := hcells 2 (by decide)
      have a3 := hcells 3 (by decide)
      have a4 := hcells 4 (by decide)
      have a5 := hcells 5 (by decide)
      simp only [JbV.cells, List.getElem?_cons_zero, List.getElem?_cons_succ, Nat.add_zero] at a0 a1 a2 a3 a4 a5
      clear hcells
      have HTk : Hid (tells (bs.take (k + 1)) = tells (bs.take k) + (if st = 3 then 1 else 0)) := by
        have h1 := tells_take (bs := bs) (k := k) (by rw [← HN.out]; exact hlt)
        rw [HJk.out] at h1
        exact h1
      have HTl : Hid (tells (bs.take k) ≤ k) := by
        have h1 := tells_le (bs.take k)
        have h2 : (bs.take k).length ≤ k := by simp; omega
        exact Nat.le_trans h1 h2
      obtain ⟨TK, eTK⟩ : ∃ TK, TK = tells (bs.take k) := ⟨_, rfl⟩
      rw [← eTK] at HTk HTl ⊢
      have hTK : TK ≤ 6 := Nat.le_trans HTl.out (by omega)
      clear eTK
      obtain ⟨U, hU⟩ : ∃ U : World, U = wr.alloc (.cells #[.int .i64 jn, .int .i64 st, .slice ta tl tc, .slice aa al ac, .int .i64 asks, .int .i64 age] 59) := ⟨_, rfl⟩
      have bU : Below wr.heap.size wr U := by rw [hU]; exact (Below.refl _ _).alloc (Nat.le_refl _) _
      have l1 : U.cell? ⟨wr.heap.size, 1, none⟩ = some (.int .i64 st) := by rw [hU]; go_simp
      have zl : wr.heap.size < U.heap.size := by rw [hU]; simp
      have HbU : Hid (Below X2.heap.size X2 U) := nT hbk.out bU
      have hwT : IntKind.i64.wrap ((TK : Int) + 1) = (TK : Int) + 1 := by simp [IntKind.wrap, IntKind.bits, IntKind.signed]; omega
      have hwT2 : IntKind.i64.wrap (1 + (TK : Int)) = (TK : Int) + 1 := by simp [IntKind.wrap, IntKind.bits, IntKind.signed]; omega
      go_upto_region 9 with (fail)
      rw [← hU]
      clear hU a0 a1 a2 a3 a4 a5
      by_cases hst : st = 3
      · subst hst
        have HT2 : Hid (tells (bs.take (k + 1)) = TK + 1) := by show _ = _; rw [HTk.out]; rfl
        clear HTk
        go_wp2
        go_roundw
        case rel => exact ⟨k + 1, by go_num, by omega, by rw [HT2.out]; simp, HbU⟩
        case measure => simp [intOf]; omega
      · have hst' : (st == 3) = false := by simpa using hst
        have HT2 : Hid (tells (bs.take (k + 1)) = TK) := by show _ = _; rw [HTk.out, if_neg hst]; rfl
        clear HTk hst
        go_wp2
        go_roundw
        case rel => exact ⟨k + 1, by go_num, by omega, by rw [HT2.out], HbU⟩
        case measure => simp [intOf]; omega
    · have hlt' : ¬ (k : Int) < (N : Int) := by omega
      have hkN : k = N := by omega
      have HTa : Hid (tells (bs.take k) = tells bs) := by
        show _ = _
        rw [List.take_of_length_le (by rw [← HN.out]; omega)]
      rw [HTa.out]
      have hTn : tells bs ≤ 6 := Nat.le_trans (tells_le bs) (by rw [← HN.out]; exact hN6)
      have HXw := HX.out.below hbk.out
      obtain ⟨hbw, hlw, cbw⟩ := HY.out wr HXw.bel
      have HCk : Hid (Calls Tryd.prog 15 #[.agg #[.int .i64 S1, .slice (some ⟨g0, 0, none⟩) 2 2, .int .i64 3], .agg #[.int .i64 nx, .slice da N dc]] wr fun e w' => e = .returned (.int .i64 0) ∧ Below wr.heap.size wr w') := by
        have h1 := deskCheck_any S1 3 (some ⟨g0, 0, none⟩) 2 2 LS2 nx da N dc js wr hlw (HJd.out wr hbk.out)
        have h2 : dkErr S1 LS2 3 nx js = 0 := by
          have h3 := rf_zero (rf_of (p := 3) (l := 1) (me := 0) hcf ⟨by omega, by decide⟩ ⟨by omega, by omega⟩ HOK.out)
          unfold dkErr at h3 ⊢
          rw [if_pos hcf] at h3 ⊢
          have e9 : jbsOK S1 LS2.length nx bs = jbsOK S1 LS2.length nx js := by
            rw [← HBS.out.1]
            unfold jbsOK
            rw [jbs_bare, List.length_map]
          rw [e9] at h3
          exact h3
        rw [h2] at h1
        exact h1
      obtain ⟨TT, eTT⟩ : ∃ TT, TT = tells bs := ⟨_, rfl⟩
      rw [← eTT] at HX hTn ⊢
      have x0 := (cbw.c 0 (by decide)).1
      have x1 := (cbw.c 1 (by decide)).1
      have x2 := (cbw.c 2 (by decide)).1
      have zc := cbw.lt
      have d0 := (HXw.box.c 0 (by decide)).1
      have d1 := (HXw.box.c 1 (by decide)).1
      have zd := HXw.box.lt
      simp only [List.getD_cons_zero, List.getD_cons_succ] at x0 x1 x2 d0 d1
      have HXk : Hid (∀ V, Below wr.heap.size wr V → DeskBox (Ticked S1 · TT 0 ·) X1.heap.size y0.heap.size y0 V nx da N dc) := fun V hV => (HX.out.below hbk.out).below hV
      clear HXw cbw eTT hbw hlw HOK HJd HJl HTa hkN
      go_upto_region 14 with (go_at_call 15; refine HCk.out.mono ?_; rintro e v0 ⟨rfl, hv0⟩)
      have H0 : Hid (∃ nx da N dc, DeskBox (Ticked S1 · TT 0 ·) X1.heap.size y0.heap.size y0 v0 nx da N dc) := ⟨_, _, _, _, HXk.out v0 hv0⟩
      clear x0 x1 x2 zc d0 d1 zd HCk HXk hv0 HX hbk
      go_upto_region 15 with (fail)
      go_loopw [10, 11, 12] (fun s10 _ _ wi => ∃ n : Nat, s10 = .int .i64 (n : Int) ∧ n ≤ 3 ∧ Hid (∃ nx da N dc, DeskBox (Ticked S1 · TT n ·) X1.heap.size y0.heap.size y0 wi nx da N dc)) (fun s10 _ _ _ => 3 - (intOf s10).toNat)
      case atStart => exact ⟨0, rfl, Nat.zero_le _, H0⟩
      case round =>
        obtain ⟨n, rfl, hn, hI⟩ := hrel
        obtain ⟨nx, da, N, dc, hS⟩ := hI.out
        rename World => wi
        obtain ⟨hbw, hlw, cbw⟩ := HY.out wi hS.bel
        have x0 := (cbw.c 0 (by decide)).1
        have x1 := (cbw.c 1 (by decide)).1
        have x2 := (cbw.c 2 (by decide)).1
        have zc := cbw.lt
        have d0 := (hS.box.c 0 (by decide)).1
        have d1 := (hS.box.c 1 (by decide)).1
        have zd := hS.box.lt
        simp only [List.getD_cons_zero, List.getD_cons_succ] at x0 x1 x2 d0 d1
        by_cases hln : n < 3
        · have hln' : (n : Int) < 3 := by omega
          obtain ⟨bs2, js2, ix2, mo2, hN2, hDk2, hfar2, hbs2, hT2⟩ := hS.dk
          have hrf2 : rfErr S1 LS2 3 1 0 nx bs2 = 0 := rf_of hcf ⟨by omega, by decide⟩ ⟨by omega, by omega⟩ hT2.ok
          have hA := tick_ans (C := ⟨S1, LS2, 3, 1, 0⟩) (bare_idem bs2 hbs2) hrf2 hT2.ok
          have HTc : Hid (Calls Tryd.prog 16 #[.agg #[.int .i64 S1, .slice (some ⟨g0, 0, none⟩) 2 2, .int .i64 3], .int .i64 1, .int .i64 0, .agg #[.int .i64 nx, .slice da N dc]] wi fun e w' => ∃ (v' : CkV) (ix' : List (Nat × Nat)) (more' : List Rw), e = .returned (.tuple #[.agg #[.int .i64 nx, .slice v'.ja v'.jl v'.jc, .slice v'.ma v'.ml v'.mc, .slice v'.ra v'.rl v'.rc, .slice v'.pa v'.pl v'.pc, .int .i64 0, .int .i64 0], .int .i64 0]) ∧ Live wi.heap.size w' v' ix' more' (TickAns ⟨S1, LS2, 3, 1, 0⟩ nx bs2) ∧ Below wi.heap.size wi w') := by
            have h1 := hDk2
            rw [hN2] at h1 ⊢
            refine (tick_dk S1 3 (some ⟨g0, 0, none⟩) 2 2 LS2 1 0 nx da dc bs2 wi hlw h1 hbs2).mono ?_
            rintro e x ⟨v', ix', more', rfl, g1, g2⟩
            refine ⟨v', ix', more', ?_, g1, g2⟩
            rw [hrf2]
            unfold CkV.turn
            rw [g1.nums.1, g1.nums.2.1, g1.nums.2.2, hA.2.1, hA.2.2.1, hA.2.2.2]
          have HA : Hid ((TickAns ⟨S1, LS2, 3, 1, 0⟩ nx bs2).js = bs2.filterMap (agedJ 3)) := hA.1
          have HT2 : Hid (Ticked S1 nx TT n bs2) := hT2
          have HS : Hid (DeskBox (Ticked S1 · TT n ·) X1.heap.size y0.heap.size y0 wi nx da N dc) := hS
          clear hA hrf2 hT2 hbs2 hfar2 hDk2 hN2 hS cbw hlw hbw hI
          go_upto_region 18 with (go_at_call 16; refine HTc.out.mono ?_; rintro e z ⟨V, iz, mz, rfl, hLv, hbz⟩)
          clear x0 x1 x2 zc d0 d1 zd HTc
          obtain ⟨Z, eZ⟩ : ∃ Z : World, Z = z.alloc (.cells #[.int .i64 nx, .slice V.ja V.jl V.jc, .slice V.ma V.ml V.mc, .slice V.ra V.rl V.rc, .slice V.pa V.pl V.pc, .int .i64 0, .int .i64 0] 34) := ⟨_, rfl⟩
          have bZ : Below z.heap.size z Z := by rw [eZ]; exact (Below.refl _ _).alloc (Nat.le_refl _) _
          have tb : BoxN Z z.heap.size 7 [.int .i64 nx, .slice V.ja V.jl V.jc, .slice V.ma V.ml V.mc, .slice V.ra V.rl V.rc, .slice V.pa V.pl V.pc, .int .i64 0, .int .i64 0] := by rw [eZ]; exact boxn_new z #[.int .i64 nx, .slice V.ja V.jl V.jc, .slice V.ma V.ml V.mc, .slice V.ra V.rl V.rc, .slice V.pa V.pl V.pc, .int .i64 0, .int .i64 0] 34 7 rfl
          rw [← eZ]
          clear eZ
          have hSZ := HS.out.below (nT hbz bZ)
          have hLZ := hLv.below bZ
          have hdk := hLZ.desk
          have hnb := hLZ.js
          rw [HA.out] at hnb
          have hS2 := hSZ.put (Q := (Ticked S1 · TT (n + 1) ·)) (nx' := nx) hnb.2 hdk HS.out.le (by have := HBB.out.1; have := HS.out.le; omega) hnb.1 (ticked_succ HT2.out)
          have t0 := (tb.c 0 (by decide)).1
          have t1 := (tb.c 1 (by decide)).1
          have t5 := (tb.c 5 (by decide)).1
          have t6 := (tb.c 6 (by decide)).1
          have zt := tb.lt
          have d0 := (hSZ.box.c 0 (by decide)).1
          have d1 := (hSZ.box.c 1 (by decide)).1
          have df0 := (hSZ.box.c 0 (by decide)).2
          have df1 := (hSZ.box.c 1 (by decide)).2
          have zd := hSZ.box.lt
          simp only [List.getD_cons_zero, List.getD_cons_succ] at t0 t1 t5 t6 d0 d1
          unfold set2 at hS2
          have HI3 : Hid (∃ nx da N dc, DeskBox (Ticked S1 · TT (n + 1) ·) X1.heap.size y0.heap.size y0 _ nx da N dc) := ⟨_, _, _, _, hS2⟩
          clear hS2 hSZ hLZ hdk hnb hLv tb HS HT2 HA
          go_wp2
          go_roundw
          case rel => exact ⟨n + 1, by go_num, by omega, HI3⟩
          case measure => simp [intOf]; omega
        · have hln' : ¬ (n : Int) < 3 := by omega
          have hn3 : n = 3 := by omega
          subst hn3
          obtain ⟨bs2, js2, ix2, mo2, hN2, hDk2, hfar2, hbs2, hT2⟩ := hS.dk
          obtain ⟨hall, hlenT⟩ := ticked_end hT2
          have hNT : N = TT := hN2.trans hlenT
          subst hNT
          have hJ2 := hDk2.isJobs
          have HJ2 : Hid (∀ U, Below wi.heap.size wi U → IsJobs U da N dc js2) := fun U hU => hJ2.below hU
          have HS3 : Hid (∀ i, i < N → (js2.getD i default).state = 3) := fun i hi => by
            have h1 : js2.length = N := hJ2.row.1
            have h2 : (js2.getD i default).bare ∈ bs2 := by
              rw [← hbs2]
              exact List.mem_map.2 ⟨_, mem_at (by rw [h1]; exact hi), rfl⟩
            exact (hall (js2.getD i default).bare h2 : (js2.getD i default).bare.state = 3)
          have hNc : N ≤ dc ∧ dc ≤ maxLen := ⟨hJ2.row.2.1, hJ2.row.2.2.1⟩
          unfold maxLen at hNc
          obtain ⟨hNd1, hNd2⟩ := hNc
          have HXb : Hid (∀ V, Below wi.heap.size wi V → BoxN V y0.heap.size 2 [.int .i64 nx, .slice da N dc] ∧ Below w.heap.size w V) := fun V hV => ⟨hS.box.below hV hS.box.lt, hbw.trans (hV.mono hbw.size)⟩
          clear hS hI hJ2 hDk2 hfar2 hbs2 hT2 hall hlenT hN2 cbw hlw hbw
          go_upto_region 22 with (fail)
          clear x0 x1 x2 zc d0 d1 zd
          go_loopw [14, 66] (fun _ s66 wj => ∃ q : Nat, s66 = .int .i64 (q : Int) ∧ q ≤ N ∧ Hid (Below wi.heap.size wi wj)) (fun _ s66 _ => N - (intOf s66).toNat)
          case atStart => exact ⟨0, rfl, Nat.zero_le _, Below.refl _ _⟩
          case round =>
            obtain ⟨q, rfl, hq, hbq⟩ := hrel
            rename World => wj
            by_cases hlq : q < N
            · have hlq' : (q : Int) < (N : Int) := by omega
              have hJr := HJ2.out wj hbq.out
              obtain ⟨b, off, rfl, zb, hcr⟩ := hJr.row.2.2.2.2 (by omega)
              have hqdc : q < dc := by omega
              have hcells := hcr q hlq
              have hst := HS3.out q hlq
              obtain ⟨J, eJ⟩ : ∃ J, J = js2.getD q default := ⟨_, rfl⟩
              rw [← eJ] at hcells hst
              clear eJ hcr hJr
              obtain ⟨jn, st, ta, tl, tc, aa, al, ac, asks, age, tasks, asked⟩ := J
              have hst2 : st = 3 := hst
              subst hst2
              have a0 := hcells 0 (by decide)
              have a1 := hcells 1 (by decide)
              have a2 := hcells 2 (by decide)
              have a3 := hcells 3 (by decide)
              have a4 := hcells 4 (by decide)
              have a5 := hcells 5 (by decide)
              simp only [JbV.cells, List.getElem?_cons_zero, List.getElem?_cons_succ, Nat.add_zero] at a0 a1 a2 a3 a4 a5
              have HbU : Hid (Below wi.heap.size wi (wj.alloc (.cells #[.int .i64 jn, .int .i64 3, .slice ta tl tc, .slice aa al ac, .int .i64 asks, .int .i64 age] 59))) := nT hbq.out ((Below.refl _ _).alloc (Nat.le_refl _) _)
              clear hcells hst
              go_wp2
              go_roundw
              case rel => exact ⟨q + 1, by go_num, by omega, HbU⟩
              case measure => simp [intOf]; omega
            · have hlq' : ¬ (q : Int) < (N : Int) := by omega
              obtain ⟨bxE, hBF⟩ := HXb.out wj hbq.out
              have d1 := (bxE.c 1 (by decide)).1
              have zd := bxE.lt
              simp only [List.getD_cons_zero, List.getD_cons_succ] at d1
              go_wp2
              go_ret
              exact ⟨by simp, hBF⟩
end Go.Proofs.YtdjnaahkcnklhabDoor.Co
