/- Texts of this claim, one behind the other. -/
import Derived.Test.YtdjnaahkcnklhaaDoorM10HearTwice
import Derived.Test.YtdjnaahkcnklhaaDoorM29HearTwice
import Derived.Test.YtdjnaahkcnklhaaDoorM36HearTwice
/- reredoskeep.coordTells: a desk without a next number may not be. -/
namespace Go.Proofs.YtdjnaahkcnklhaaDoor.Co
open Go.ChangeShapes Go.WideShapes Go.ChangeAt Go.RowKit
open Go.Proofs.YtdjnaahkcnklhaaDoor.St (IsRow)
open Go.Proofs.YtdjnaahkcnklhaaDoor.Pt (LS2 cfg_two two_any)
set_option linter.unusedVariables false

theorem isJobs_nil (w : World) : IsJobs w none 0 0 [] := ⟨St.isRow_nil _ _ _, fun j hj => by cases hj⟩
theorem dk_none {s p : Int} {ls : List (Int × Int)} (h : cfgFault s ls p = 0) : dkErr s ls p 0 [] = 9 := by
  unfold dkErr
  rw [if_pos h]
  rfl
set_option maxRecDepth 100000 in
theorem coordTells_any (w : World) : Calls Tryd.prog 13 #[] w fun e w' => e = .returned (.bool true) ∧ Below w.heap.size w w' := by
  have hTw := two_any 0 w (by omega)
  have e1 : (1 : Int) + pk 0 3 = 1 := by decide
  rw [e1] at hTw
  go_enter Tryd.func13, Tryd.ntmps13
  go_wp2_with (first | (go_at_call 7; refine hTw.mono ?_; rintro e w1 ⟨g0, rfl, hl, hg0, hb1⟩; have hC := deskCheck_any 1 3 (some ⟨g0, 0, none⟩) 2 2 LS2 0 none 0 0 [] w1 hl (isJobs_nil w1); rw [dk_none (cfg_two (by omega) (by omega) (by omega) (by omega))] at hC) | (go_at_call 10; refine hC.mono ?_; rintro e w2 ⟨rfl, hb2⟩))
  go_ret
  exact ⟨by simp, hb1.trans (hb2.mono hb1.size)⟩
end Go.Proofs.YtdjnaahkcnklhaaDoor.Co
/- What is heard of doubts, as plain data. -/
namespace Go.Proofs.YtdjnaahkcnklhaaDoor.Co
open Go.Proofs.YtdjnaahkcnklhaaDoor.St (idxI idxI_lt idxI_hit idxI_none)
open Go.Proofs.YtdjnaahkcnklhaaDoor.Pt (LS2 cfg_two)
set_option linter.unusedVariables false

theorem bare_idem (bs : List JbV) {js : List JbV} (h : js.map JbV.bare = bs) : bs.map JbV.bare = bs := by
  rw [← h, List.map_map]
  rfl
def dbtM (k f : Int) : MV := ⟨9, f, 0, 0, k, 0, 0, 0, 0, 0, false, 0⟩
theorem dbt_ok {S1 k f nx : Int} {bs : List JbV} (h1 : 1 ≤ S1) (h3 : S1 ≤ 3) (hk : 1 ≤ k ∧ k ≤ 9) (hf : 0 ≤ f ∧ f ≤ S1 - 1) (hd : DOK S1 2 nx bs) : hrErr ⟨S1, LS2, 3, 1, 0⟩ nx bs (dbtM k f) = 0 := by
  have hc := cfg_two (p := 3) h1 (by omega) (by omega) (by omega)
  have hr : rfErr S1 LS2 3 1 0 nx bs = 0 := rf_of hc ⟨by omega, by decide⟩ ⟨by omega, by omega⟩ hd
  have hm : msgFault S1 LS2 3 (dbtM k f) = 0 := by
    refine mf_ok hc rfl ?_ ?_
    · have hk2 : k ≤ 1048576 := by omega
      simp [msgRange, txnOK, partsOK, dbtM, MV.parts, topL, inTops, inR, hf, hk.1, hk2, bit, plc, LS2, isCd]
      omega
    · simp [msgForm, dbtM, MV.parts, mHasOf, mHas, hasAll, bit]
  unfold hrErr
  simp only []
  rw [if_pos hr, if_pos hm]
  rfl
theorem dbt_ans {S1 k f nx : Int} {bs : List JbV} (hE : hrErr ⟨S1, LS2, 3, 1, 0⟩ nx bs (dbtM k f) = 0) (hb : bs.map JbV.bare = bs) : HearAns ⟨S1, LS2, 3, 1, 0⟩ nx bs (dbtM k f) = ⟨nx, bs, if idxI (isN k) bs = -1 then [decM 0 k false f] else if (decide ((bs.getD (idxI (isN k) bs).toNat default).state = 3) && (bs.getD (idxI (isN k) bs).toNat default).asked.any fun y => f == y) = true then [decM 0 k true f] else [], [], [], 0, 0⟩ := by
  unfold HearAns
  rw [if_pos hE]
  have e0 : tn0 nx bs = ⟨nx, bs, [], [], [], 0, 0⟩ := by unfold tn0; rw [hb]
  rw [e0]
  unfold Tn.heard
  rw [if_pos (show (dbtM k f).kind = 9 from rfl)]
  show (if idxI (isN k) bs = -1 then _ else _) = _
  by_cases hi : idxI (isN k) bs = -1
  · rw [if_pos hi, if_pos hi]; rfl
  · rw [if_neg hi, if_neg hi]
    have hn := (idx_get hi).2
    unfold Tn.doubted
    show (if (decide ((bs.getD (idxI (isN k) bs).toNat default).state = 3) && (bs.getD (idxI (isN k) bs).toNat default).asked.any fun y => f == y) = true then _ else _) = _
    split
    · unfold Tn.told
      show (⟨nx, bs, [] ++ [decM 0 (bs.getD (idxI (isN k) bs).toNat default).n true f], [], [], 0, 0⟩ : Tn) = _
      rw [hn]
      rfl
    · rfl
end Go.Proofs.YtdjnaahkcnklhaaDoor.Co
/- The walk of the law HearTwice: at any numbers it returns true and leaves what was in memory. -/
namespace Go.Proofs.YtdjnaahkcnklhaaDoor.Co
open Go.ChangeShapes Go.WideShapes Go.ChangeAt Go.RowKit
open Go.Proofs.YtdjnaahkcnklhaaDoor.St (BoxN boxn_new own_below grown_setCell IsRow Elem flat flat_append own_isRow idxI)
open Go.Proofs.YtdjnaahkcnklhaaDoor.Pt (LS2 cfg_two two_any)
set_option linter.unusedVariables false

theorem mf_me {s : Int} {ls : List (Int × Int)} {p : Int} {m : MV} (h : msgFault s ls p m = 0) (hs : 1 ≤ s) : msgFault s ls p { m with dst := 0, site := 0 } = 0 := by
  obtain ⟨kind, frm, dst, site, num, label, key, value, version, ask, yes, code⟩ := m
  unfold msgFault at h ⊢
  split at h
  · rename_i h1; exact absurd h h1
  · rename_i h1
    rw [if_neg h1]
    split at h
    · omega
    · rename_i h2
      rw [if_neg h2]
      split at h
      · omega
      · rename_i h3
        have h4 : ¬ msgRange s ls.length { kind := kind, frm := frm, dst := 0, site := 0, num := num, label := label, key := key, value := value, version := version, ask := ask, yes := yes, code := code } = false := by
          simp only [Bool.not_eq_false] at h3 ⊢
          simp only [msgRange, txnOK, Bool.and_eq_true] at h3 ⊢
          refine ⟨⟨⟨h3.1.1.1, ?_⟩, ?_, h3.1.2.2⟩, h3.2⟩
          · simp [inR]; omega
          · simp [inR]; omega
        rw [if_neg h4]
        split at h
        · omega
        · rename_i h5
          have h6 : ¬ msgForm { kind := kind, frm := frm, dst := 0, site := 0, num := num, label := label, key := key, value := value, version := version, ask := ask, yes := yes, code := code } = false := h5
          rw [if_neg h6]
set_option maxRecDepth 100000 in
set_option maxHeartbeats 16000000 in
theorem hearTwice_walk (s : Int) (a : Option Addr) (len cap : Nat) (rs : List St.RV) (r : St.RV) (w : World) (hs : (Lit.int .i64 s).wf = true) (hr : St.IsRaws w a len cap rs) (hrr : r.ok) (hHa : HasAt w 0 mHas) (hTo : TopsAt w) :
    Calls Tryd.prog 6 #[.int .i64 s, .slice a len cap, r.val] w fun e w' => e = .returned (.bool true) ∧ Below w.heap.size w w' := by
  have bds : -9223372036854775808 ≤ s ∧ s ≤ 9223372036854775807 := by
    simp [Lit.wf, IntKind.min, IntKind.max, IntKind.signed, IntKind.bits] at hs
    omega
  clear hs
  have hgT : 1 < w.heap.size := World.block_lt_of_cell? w _ hTo.1
  have hgM : 0 < w.heap.size := hHa.lt (by decide)
  have KT : Hid (∀ U, Below w.heap.size w U → Tables U) := fun U hU => ⟨hHa.below hU hgM, hTo.below hU hgT⟩
  clear hHa hTo hgT hgM
  obtain ⟨rk, ra, rb, rc, rd, re⟩ := r
  obtain ⟨bk, ba, bb, bc, bdd, be⟩ := hrr
  simp only [St.RV.val]
  have hsp := pk_bd s 3 (by omega)
  have hTw := fun u => two_any s u bds
  obtain ⟨S1, eS1⟩ : ∃ x, x = 1 + pk s 3 := ⟨_, rfl⟩
  rw [← eS1] at hTw
  have hS1 : 1 ≤ S1 := by omega
  have hS3 : S1 ≤ 3 := by omega
  clear eS1 hsp
  have bw : Below w.heap.size w w := Below.refl _ _
  go_enter Tryd.func6, Tryd.ntmps6
  go_upto_region 1 with (fail)
  obtain ⟨X1, eX1⟩ : ∃ X : World, X = w.alloc (.cells #[.int .i64 rk, .int .i64 ra, .int .i64 rb, .int .i64 rc, .int .i64 rd, .int .i64 re] 55) := ⟨_, rfl⟩
  have rbx : BoxN X1 w.heap.size 6 [.int .i64 rk, .int .i64 ra, .int .i64 rb, .int .i64 rc, .int .i64 rd, .int .i64 re] := by rw [eX1]; exact boxn_new w #[.int .i64 rk, .int .i64 ra, .int .i64 rb, .int .i64 rc, .int .i64 rd, .int .i64 re] 55 6 rfl
  have bX1 : Below w.heap.size w X1 := by rw [eX1]; exact (Below.refl _ _).alloc (Nat.le_refl _) _
  rw [← eX1]
  clear eX1
  replace bw := bw.trans (bX1.mono bw.size)
  replace hr := hr.below bX1
  have hTl := coordTells_any X1
  go_upto_region 3 with (go_at_call 13; refine hTl.mono ?_; rintro e w0 ⟨rfl, hb00⟩)
  clear hTl
  replace rbx := rbx.below hb00 rbx.lt
  replace bw := bw.trans (hb00.mono bw.size)
  replace hr := hr.below hb00
  go_upto_region 4 with (go_at_call 7; refine (hTw _).mono ?_; rintro e w1 ⟨g0, rfl, hl, hg0, hb1⟩)
  clear hTw
  replace rbx := rbx.below hb1 rbx.lt
  replace bw := bw.trans (hb1.mono bw.size)
  replace hr := hr.below hb1
  obtain ⟨X2, eX2⟩ : ∃ X : World, X = w1.alloc (.cells #[.int .i64 S1, .slice (some ⟨g0, 0, none⟩) 2 2, .int .i64 3] 25) := ⟨_, rfl⟩
  have cb : BoxN X2 w1.heap.size 3 [.int .i64 S1, .slice (some ⟨g0, 0, none⟩) 2 2, .int .i64 3] := by rw [eX2]; exact boxn_new w1 #[.int .i64 S1, .slice (some ⟨g0, 0, none⟩) 2 2, .int .i64 3] 25 3 rfl
  have bX2 : Below w1.heap.size w1 X2 := by rw [eX2]; exact (Below.refl _ _).alloc (Nat.le_refl _) _
  rw [← eX2]
  clear eX2
  replace rbx := rbx.below bX2 rbx.lt
  replace bw := bw.trans (bX2.mono bw.size)
  replace hr := hr.below bX2
  replace hl := hl.below bX2
  have HDm : Hid (Calls Tryd.prog 8 #[.agg #[.int .i64 S1, .slice (some ⟨g0, 0, none⟩) 2 2, .int .i64 3], .int .i64 1, .int .i64 0, .slice a len cap, .int .i64 30] X2 fun e w' => ∃ (da : Option Addr) (dc : Nat) (nx : Int) (bs js : List JbV) (ix : List (Nat × Nat)) (more : List Rw), e = .returned (.agg #[.int .i64 nx, .slice da bs.length dc]) ∧ DeskAt w' X2.heap.size da bs.length dc js ix more ∧ js.map JbV.bare = bs ∧ DOK S1 2 nx bs ∧ nx ≤ 1 + 30 ∧ Below X2.heap.size X2 w') := by
    refine (desk_made S1 1 0 g0 a len cap rs 30 X2 hS1 hS3 (Or.inr rfl) ⟨by omega, by omega⟩ hl hr (fun U hU => KT.out U (bw.trans (hU.mono bw.size))) (by omega)).mono ?_
    rintro e x ⟨⟨D, nx, bs, rfl, ⟨da, dc, js, ix, more, rfl, h2, h3⟩, h4, h6⟩, h5⟩
    exact ⟨da, dc, nx, bs, js, ix, more, rfl, h2, h3, h4, h6, h5⟩
  have cb_0 : X2.cell? ⟨w1.heap.size, 0, none⟩ = some (.int .i64 S1) := (cb.c 0 (by decide)).1
  have cb_1 : X2.cell? ⟨w1.heap.size, 1, none⟩ = some (.slice (some ⟨g0, 0, none⟩) 2 2) := (cb.c 1 (by decide)).1
  have cb_2 : X2.cell? ⟨w1.heap.size, 2, none⟩ = some (.int .i64 3) := (cb.c 2 (by decide)).1
  have cb_z := cb.lt
  go_upto_region 5 with (go_at_call 8; refine HDm.out.mono ?_; rintro e y0 ⟨da, dc, nx, bs, js, ix, more, rfl, hDk, hbs, hok, -, hb0⟩)
  clear cb_0 cb_1 cb_2 cb_z
  clear HDm hr
  replace rbx := rbx.below hb0 rbx.lt
  replace cb := cb.below hb0 cb.lt
  replace bw := bw.trans (hb0.mono bw.size)
  replace hl := hl.below hb0
  obtain ⟨N, eN⟩ : ∃ N, N = bs.length := ⟨_, rfl⟩
  rw [← eN] at hDk ⊢
  have HN : Hid (N = bs.length) := eN
  clear eN
  obtain ⟨X3, eX3⟩ : ∃ X : World, X = y0.alloc (.cells #[.int .i64 nx, .slice da N dc] 29) := ⟨_, rfl⟩
  have dbx : BoxN X3 y0.heap.size 2 [.int .i64 nx, .slice da N dc] := by rw [eX3]; exact boxn_new y0 #[.int .i64 nx, .slice da N dc] 29 2 rfl
  have bX3 : Below y0.heap.size y0 X3 := by rw [eX3]; exact (Below.refl _ _).alloc (Nat.le_refl _) _
  rw [← eX3]
  clear eX3
  replace rbx := rbx.below bX3 rbx.lt
  replace cb := cb.below bX3 cb.lt
  replace bw := bw.trans (bX3.mono bw.size)
  replace hl := hl.below bX3
  replace hDk := hDk.below bX3
  have hcf : cfgFault S1 LS2 3 = 0 := cfg_two hS1 (by omega) (by omega) (by omega)
  have HMg : Hid (Calls Tryd.prog 14 #[.agg #[.int .i64 S1, .slice (some ⟨g0, 0, none⟩) 2 2, .int .i64 3], .agg #[.int .i64 rk, .int .i64 ra, .int .i64 rb, .int .i64 rc, .int .i64 rd, .int .i64 re]] X3 fun e w' => ∃ m : MV, e = .returned m.val ∧ msgFault S1 LS2 3 m = 0 ∧ Below X3.heap.size X3 w') := msg_good S1 3 g0 2 2 LS2 rk ra rb rc rd re X3 ⟨hl, hcf, hS1, hS3, by decide, by decide, rfl⟩ bk ba bb bc bdd be
  have cb_0 : X3.cell? ⟨w1.heap.size, 0, none⟩ = some (.int .i64 S1) := (cb.c 0 (by decide)).1
  have cb_1 : X3.cell? ⟨w1.heap.size, 1, none⟩ = some (.slice (some ⟨g0, 0, none⟩) 2 2) := (cb.c 1 (by decide)).1
  have cb_2 : X3.cell? ⟨w1.heap.size, 2, none⟩ = some (.int .i64 3) := (cb.c 2 (by decide)).1
  have cb_z := cb.lt
  have rbx_0 : X3.cell? ⟨w.heap.size, 0, none⟩ = some (.int .i64 rk) := (rbx.c 0 (by decide)).1
  have rbx_1 : X3.cell? ⟨w.heap.size, 1, none⟩ = some (.int .i64 ra) := (rbx.c 1 (by decide)).1
  have rbx_2 : X3.cell? ⟨w.heap.size, 2, none⟩ = some (.int .i64 rb) := (rbx.c 2 (by decide)).1
  have rbx_3 : X3.cell? ⟨w.heap.size, 3, none⟩ = some (.int .i64 rc) := (rbx.c 3 (by decide)).1
  have rbx_4 : X3.cell? ⟨w.heap.size, 4, none⟩ = some (.int .i64 rd) := (rbx.c 4 (by decide)).1
  have rbx_5 : X3.cell? ⟨w.heap.size, 5, none⟩ = some (.int .i64 re) := (rbx.c 5 (by decide)).1
  have rbx_z := rbx.lt
  go_upto_region 8 with (go_at_call 14; refine HMg.out.mono ?_; rintro e y1 ⟨⟨kind, frm, dst, site, num, label, key, value, version, ask, yes, code⟩, rfl, hmf, hb2⟩; simp only [MV.val])
  clear cb_0 cb_1 cb_2 cb_z rbx_0 rbx_1 rbx_2 rbx_3 rbx_4 rbx_5 rbx_z
  clear HMg rbx bk ba bb bc bdd be
  replace cb := cb.below hb2 cb.lt
  replace dbx := dbx.below hb2 dbx.lt
  replace bw := bw.trans (hb2.mono bw.size)
  replace hl := hl.below hb2
  replace hDk := hDk.below hb2
  obtain ⟨X4, eX4⟩ : ∃ X : World, X = y1.alloc (.cells #[.int .i64 kind, .int .i64 frm, .int .i64 0, .int .i64 0, .int .i64 num, .int .i64 label, .int .i64 key, .int .i64 value, .int .i64 version, .int .i64 ask, .bool yes, .int .i64 code] 58) := ⟨_, rfl⟩
  have mb : BoxN X4 y1.heap.size 12 [.int .i64 kind, .int .i64 frm, .int .i64 0, .int .i64 0, .int .i64 num, .int .i64 label, .int .i64 key, .int .i64 value, .int .i64 version, .int .i64 ask, .bool yes, .int .i64 code] := by rw [eX4]; exact boxn_new y1 #[.int .i64 kind, .int .i64 frm, .int .i64 0, .int .i64 0, .int .i64 num, .int .i64 label, .int .i64 key, .int .i64 value, .int .i64 version, .int .i64 ask, .bool yes, .int .i64 code] 58 12 rfl
  have bX4 : Below y1.heap.size y1 X4 := by rw [eX4]; exact (Below.refl _ _).alloc (Nat.le_refl _) _
  rw [← eX4]
  clear eX4
  replace cb := cb.below bX4 cb.lt
  replace dbx := dbx.below bX4 dbx.lt
  replace bw := bw.trans (bX4.mono bw.size)
  replace hl := hl.below bX4
  replace hDk := hDk.below bX4
  have hmf2 : msgFault S1 LS2 3 ⟨kind, frm, 0, 0, num, label, key, value, version, ask, yes, code⟩ = 0 := mf_me hmf hS1
  have HOK : Hid (DOK S1 2 nx bs) := hok
  have HBS : Hid (js.map JbV.bare = bs ∧ bs.map JbV.bare = bs) := ⟨hbs, bare_idem bs hbs⟩
  have hkr : 1 ≤ kind ∧ kind ≤ 9 := by
    unfold msgFault at hmf2
    rw [if_neg (by rw [hcf]; decide)] at hmf2
    split at hmf2
    · omega
    · rename_i h2
      simpa [inR] using h2
  by_cases hk : kind < 5 ∨ kind = 9
  · have HCk : Hid (Calls Tryd.prog 10 #[.agg #[.int .i64 S1, .slice (some ⟨g0, 0, none⟩) 2 2, .int .i64 3], .agg #[.int .i64 nx, .slice da N dc]] X4 fun e w' => e = .returned (.int .i64 0) ∧ Below X4.heap.size X4 w') := by
      have h1 := deskCheck_any S1 3 (some ⟨g0, 0, none⟩) 2 2 LS2 nx da N dc js X4 hl hDk.isJobs
      have h2 : dkErr S1 LS2 3 nx js = 0 := by
        have h3 := rf_zero (rf_of (p := 3) (l := 1) (me := 0) hcf ⟨by omega, by decide⟩ ⟨by omega, by omega⟩ HOK.out)
        unfold dkErr at h3 ⊢
        rw [if_pos hcf] at h3 ⊢
        have e9 : jbsOK S1 LS2.length nx bs = jbsOK S1 LS2.length nx js := by
          rw [← HBS.out.1]
          unfold jbsOK
          rw [jbs_bare, List.length_map]
        rw [e9] at h3
        exact h3
      rw [h2] at h1
      exact h1
    have mb_0 : X4.cell? ⟨y1.heap.size, 0, none⟩ = some (.int .i64 kind) := (mb.c 0 (by decide)).1
    have mb_z := mb.lt
    have cb_0 : X4.cell? ⟨w1.heap.size, 0, none⟩ = some (.int .i64 S1) := (cb.c 0 (by decide)).1
    have cb_1 : X4.cell? ⟨w1.heap.size, 1, none⟩ = some (.slice (some ⟨g0, 0, none⟩) 2 2) := (cb.c 1 (by decide)).1
    have cb_2 : X4.cell? ⟨w1.heap.size, 2, none⟩ = some (.int .i64 3) := (cb.c 2 (by decide)).1
    have cb_z := cb.lt
    have dbx_0 : X4.cell? ⟨y0.heap.size, 0, none⟩ = some (.int .i64 nx) := (dbx.c 0 (by decide)).1
    have dbx_1 : X4.cell? ⟨y0.heap.size, 1, none⟩ = some (.slice da N dc) := (dbx.c 1 (by decide)).1
    have dbx_z := dbx.lt
    clear hmf hmf2 hcf hok hbs mb
    rcases hk with hk | hk
    · have hk5 : kind < 5 := hk
      go_wp2_with (go_at_call 10; refine HCk.out.mono ?_; rintro e z ⟨rfl, hz⟩)
      go_ret
      exact ⟨by simp, bw.trans (hz.mono bw.size)⟩
    · subst hk
      go_wp2_with (go_at_call 10; refine HCk.out.mono ?_; rintro e z ⟨rfl, hz⟩)
      go_ret
      exact ⟨by simp, bw.trans (hz.mono bw.size)⟩
  · have hk5 : 5 ≤ kind ∧ kind ≤ 8 := by omega
    have hE0 : hrErr ⟨S1, LS2, 3, 1, 0⟩ nx bs ⟨kind, frm, 0, 0, num, label, key, value, version, ask, yes, code⟩ = 0 := by
      have h1 : rfErr S1 LS2 3 1 0 nx bs = 0 := rf_of hcf ⟨by omega, by decide⟩ ⟨by omega, by omega⟩ HOK.out
      have h2 : inR kind 5 9 = true := by simp [inR]; omega
      unfold hrErr
      simp only []
      rw [if_pos h1, if_pos hmf2, h2]
      rfl
    have HHr : Hid (Calls Tryd.prog 15 #[.agg #[.int .i64 S1, .slice (some ⟨g0, 0, none⟩) 2 2, .int .i64 3], .int .i64 1, .int .i64 0, .agg #[.int .i64 nx, .slice da N dc], .agg #[.int .i64 kind, .int .i64 frm, .int .i64 0, .int .i64 0, .int .i64 num, .int .i64 label, .int .i64 key, .int .i64 value, .int .i64 version, .int .i64 ask, .bool yes, .int .i64 code]] X4 fun e w' => ∃ (v' : CkV) (ix' : List (Nat × Nat)) (more' : List Rw), e = .returned (.tuple #[v'.turn, .int .i64 0]) ∧ Live X4.heap.size w' v' ix' more' (HearAns ⟨S1, LS2, 3, 1, 0⟩ nx bs ⟨kind, frm, 0, 0, num, label, key, value, version, ask, yes, code⟩) ∧ Below X4.heap.size X4 w') := by
      have h1 := hDk
      rw [HN.out] at h1 ⊢
      have h2 := hear_dk S1 3 (some ⟨g0, 0, none⟩) 2 2 LS2 1 0 nx da dc bs ⟨kind, frm, 0, 0, num, label, key, value, version, ask, yes, code⟩ X4 hl h1 hbs (fun U hU => KT.out U (bw.trans (hU.mono bw.size)))
      rw [hE0] at h2
      exact h2
    have hk9 : (kind == 9) = false := by simp; omega
    have hk4 : (decide (kind < 5)) = false := by simp; omega
    have HT2 : Hid (∀ v' : CkV, v'.tn = HearAns ⟨S1, LS2, 3, 1, 0⟩ nx bs ⟨kind, frm, 0, 0, num, label, key, value, version, ask, yes, code⟩ → hrErr ⟨S1, LS2, 3, 1, 0⟩ (HearAns ⟨S1, LS2, 3, 1, 0⟩ nx bs ⟨kind, frm, 0, 0, num, label, key, value, version, ask, yes, code⟩).next (HearAns ⟨S1, LS2, 3, 1, 0⟩ nx bs ⟨kind, frm, 0, 0, num, label, key, value, version, ask, yes, code⟩).js ⟨kind, frm, 0, 0, num, label, key, value, version, ask, yes, code⟩ = 0 ∧ ∃ ms su, HearAns ⟨S1, LS2, 3, 1, 0⟩ (HearAns ⟨S1, LS2, 3, 1, 0⟩ nx bs ⟨kind, frm, 0, 0, num, label, key, value, version, ask, yes, code⟩).next (HearAns ⟨S1, LS2, 3, 1, 0⟩ nx bs ⟨kind, frm, 0, 0, num, label, key, value, version, ask, yes, code⟩).js ⟨kind, frm, 0, 0, num, label, key, value, version, ask, yes, code⟩ = ⟨(HearAns ⟨S1, LS2, 3, 1, 0⟩ nx bs ⟨kind, frm, 0, 0, num, label, key, value, version, ask, yes, code⟩).next, (HearAns ⟨S1, LS2, 3, 1, 0⟩ nx bs ⟨kind, frm, 0, 0, num, label, key, value, version, ask, yes, code⟩).js, ms, [], [], su, 0⟩) := fun v' e => by
      refine hear_twice hE0 (by show kind ≠ 9; omega) HBS.out.2 ?_
      rw [← e]
      show (v'.js.map JbV.bare).map JbV.bare = v'.js.map JbV.bare
      rw [List.map_map]
      rfl
    obtain ⟨T1, eT1⟩ : ∃ T1, T1 = HearAns ⟨S1, LS2, 3, 1, 0⟩ nx bs ⟨kind, frm, 0, 0, num, label, key, value, version, ask, yes, code⟩ := ⟨_, rfl⟩
    rw [← eT1] at HHr HT2
    clear eT1 hE0 hmf hmf2 hok hbs
    have mb_0 : X4.cell? ⟨y1.heap.size, 0, none⟩ = some (.int .i64 kind) := (mb.c 0 (by decide)).1
    have mb_1 : X4.cell? ⟨y1.heap.size, 1, none⟩ = some (.int .i64 frm) := (mb.c 1 (by decide)).1
    have mb_2 : X4.cell? ⟨y1.heap.size, 2, none⟩ = some (.int .i64 0) := (mb.c 2 (by decide)).1
    have mb_3 : X4.cell? ⟨y1.heap.size, 3, none⟩ = some (.int .i64 0) := (mb.c 3 (by decide)).1
    have mb_4 : X4.cell? ⟨y1.heap.size, 4, none⟩ = some (.int .i64 num) := (mb.c 4 (by decide)).1
    have mb_5 : X4.cell? ⟨y1.heap.size, 5, none⟩ = some (.int .i64 label) := (mb.c 5 (by decide)).1
    have mb_6 : X4.cell? ⟨y1.heap.size, 6, none⟩ = some (.int .i64 key) := (mb.c 6 (by decide)).1
    have mb_7 : X4.cell? ⟨y1.heap.size, 7, none⟩ = some (.int .i64 value) := (mb.c 7 (by decide)).1
    have mb_8 : X4.cell? ⟨y1.heap.size, 8, none⟩ = some (.int .i64 version) := (mb.c 8 (by decide)).1
    have mb_9 : X4.cell? ⟨y1.heap.size, 9, none⟩ = some (.int .i64 ask) := (mb.c 9 (by decide)).1
    have mb_10 : X4.cell? ⟨y1.heap.size, 10, none⟩ = some (.bool yes) := (mb.c 10 (by decide)).1
    have mb_11 : X4.cell? ⟨y1.heap.size, 11, none⟩ = some (.int .i64 code) := (mb.c 11 (by decide)).1
    have mb_z := mb.lt
    have cb_0 : X4.cell? ⟨w1.heap.size, 0, none⟩ = some (.int .i64 S1) := (cb.c 0 (by decide)).1
    have cb_1 : X4.cell? ⟨w1.heap.size, 1, none⟩ = some (.slice (some ⟨g0, 0, none⟩) 2 2) := (cb.c 1 (by decide)).1
    have cb_2 : X4.cell? ⟨w1.heap.size, 2, none⟩ = some (.int .i64 3) := (cb.c 2 (by decide)).1
    have cb_z := cb.lt
    have dbx_0 : X4.cell? ⟨y0.heap.size, 0, none⟩ = some (.int .i64 nx) := (dbx.c 0 (by decide)).1
    have dbx_1 : X4.cell? ⟨y0.heap.size, 1, none⟩ = some (.slice da N dc) := (dbx.c 1 (by decide)).1
    have dbx_z := dbx.lt
    have hk1 := hk5.1
    have hk2 := hk5.2
    go_upto_region 11 with (go_at_call 15; refine HHr.out.mono ?_; rintro e y2 ⟨V, iz, mz, rfl, hLv, hb5⟩; simp only [CkV.turn])
    clear mb_0 mb_1 mb_2 mb_3 mb_4 mb_5 mb_6 mb_7 mb_8 mb_9 mb_10 mb_11 mb_z cb_0 cb_1 cb_2 cb_z dbx_0 dbx_1 dbx_z
    clear HHr
    replace cb := cb.below hb5 cb.lt
    replace dbx := dbx.below hb5 dbx.lt
    replace mb := mb.below hb5 mb.lt
    replace bw := bw.trans (hb5.mono bw.size)
    replace hl := hl.below hb5
    replace hDk := hDk.below hb5
    obtain ⟨X5, eX5⟩ : ∃ X : World, X = y2.alloc (.cells #[.int .i64 V.next, .slice V.ja V.jl V.jc, .slice V.ma V.ml V.mc, .slice V.ra V.rl V.rc, .slice V.pa V.pl V.pc, .int .i64 V.sure, .int .i64 V.com] 39) := ⟨_, rfl⟩
    have tb : BoxN X5 y2.heap.size 7 [.int .i64 V.next, .slice V.ja V.jl V.jc, .slice V.ma V.ml V.mc, .slice V.ra V.rl V.rc, .slice V.pa V.pl V.pc, .int .i64 V.sure, .int .i64 V.com] := by rw [eX5]; exact boxn_new y2 #[.int .i64 V.next, .slice V.ja V.jl V.jc, .slice V.ma V.ml V.mc, .slice V.ra V.rl V.rc, .slice V.pa V.pl V.pc, .int .i64 V.sure, .int .i64 V.com] 39 7 rfl
    have bX5 : Below y2.heap.size y2 X5 := by rw [eX5]; exact (Below.refl _ _).alloc (Nat.le_refl _) _
    rw [← eX5]
    clear eX5
    replace cb := cb.below bX5 cb.lt
    replace dbx := dbx.below bX5 dbx.lt
    replace mb := mb.below bX5 mb.lt
    replace bw := bw.trans (bX5.mono bw.size)
    replace hl := hl.below bX5
    replace hDk := hDk.below bX5
    replace hLv := hLv.below bX5
    obtain ⟨hE1, ms2, su2, hA2⟩ := HT2.out V hLv.tn
    obtain ⟨M2L, eM2L⟩ : ∃ x, x = ms2.length := ⟨_, rfl⟩
    have HHr : Hid (Calls Tryd.prog 15 #[.agg #[.int .i64 S1, .slice (some ⟨g0, 0, none⟩) 2 2, .int .i64 3], .int .i64 1, .int .i64 0, .agg #[.int .i64 V.next, .slice V.ja V.jl V.jc], .agg #[.int .i64 kind, .int .i64 frm, .int .i64 0, .int .i64 0, .int .i64 num, .int .i64 label, .int .i64 key, .int .i64 value, .int .i64 version, .int .i64 ask, .bool yes, .int .i64 code]] X5 fun e w' => ∃ (v' : CkV) (ix' : List (Nat × Nat)) (more' : List Rw), e = .returned (.tuple #[.agg #[.int .i64 V.next, .slice v'.ja V.jl v'.jc, .slice v'.ma M2L v'.mc, .slice v'.ra 0 v'.rc, .slice v'.pa 0 v'.pc, .int .i64 su2, .int .i64 0], .int .i64 0]) ∧ Live X5.heap.size w' v' ix' more' ⟨T1.next, T1.js, ms2, [], [], su2, 0⟩ ∧ Below X5.heap.size X5 w') := by
      have hd := hLv.dk
      have h3 := hLv.desk
      rw [hLv.js.2] at h3 ⊢
      refine (hear_dk S1 3 (some ⟨g0, 0, none⟩) 2 2 LS2 1 0 V.next V.ja V.jc T1.js ⟨kind, frm, 0, 0, num, label, key, value, version, ask, yes, code⟩ X5 hl h3 hLv.js.1 (fun U hU => KT.out U (bw.trans (hU.mono bw.size)))).mono ?_
      rintro e x ⟨v', ix', more', rfl, g1, g2⟩
      rw [hLv.nums.1, hA2] at g1
      rw [hLv.nums.1]
      exact ⟨v', ix', more', by rw [hE1, g1.turn (nx := T1.next) (jl := T1.js.length) (ml := M2L) (rl := 0) (pl := 0) (su := su2) (co := 0) rfl rfl eM2L.symm rfl rfl rfl rfl]; rfl, g1, g2⟩
    clear hA2 eM2L hE1 HT2
    have mb_0 : X5.cell? ⟨y1.heap.size, 0, none⟩ = some (.int .i64 kind) := (mb.c 0 (by decide)).1
    have mb_1 : X5.cell? ⟨y1.heap.size, 1, none⟩ = some (.int .i64 frm) := (mb.c 1 (by decide)).1
    have mb_2 : X5.cell? ⟨y1.heap.size, 2, none⟩ = some (.int .i64 0) := (mb.c 2 (by decide)).1
    have mb_3 : X5.cell? ⟨y1.heap.size, 3, none⟩ = some (.int .i64 0) := (mb.c 3 (by decide)).1
    have mb_4 : X5.cell? ⟨y1.heap.size, 4, none⟩ = some (.int .i64 num) := (mb.c 4 (by decide)).1
    have mb_5 : X5.cell? ⟨y1.heap.size, 5, none⟩ = some (.int .i64 label) := (mb.c 5 (by decide)).1
    have mb_6 : X5.cell? ⟨y1.heap.size, 6, none⟩ = some (.int .i64 key) := (mb.c 6 (by decide)).1
    have mb_7 : X5.cell? ⟨y1.heap.size, 7, none⟩ = some (.int .i64 value) := (mb.c 7 (by decide)).1
    have mb_8 : X5.cell? ⟨y1.heap.size, 8, none⟩ = some (.int .i64 version) := (mb.c 8 (by decide)).1
    have mb_9 : X5.cell? ⟨y1.heap.size, 9, none⟩ = some (.int .i64 ask) := (mb.c 9 (by decide)).1
    have mb_10 : X5.cell? ⟨y1.heap.size, 10, none⟩ = some (.bool yes) := (mb.c 10 (by decide)).1
    have mb_11 : X5.cell? ⟨y1.heap.size, 11, none⟩ = some (.int .i64 code) := (mb.c 11 (by decide)).1
    have mb_z := mb.lt
    have cb_0 : X5.cell? ⟨w1.heap.size, 0, none⟩ = some (.int .i64 S1) := (cb.c 0 (by decide)).1
    have cb_1 : X5.cell? ⟨w1.heap.size, 1, none⟩ = some (.slice (some ⟨g0, 0, none⟩) 2 2) := (cb.c 1 (by decide)).1
    have cb_2 : X5.cell? ⟨w1.heap.size, 2, none⟩ = some (.int .i64 3) := (cb.c 2 (by decide)).1
    have cb_z := cb.lt
    have tb_0 : X5.cell? ⟨y2.heap.size, 0, none⟩ = some (.int .i64 V.next) := (tb.c 0 (by decide)).1
    have tb_1 : X5.cell? ⟨y2.heap.size, 1, none⟩ = some (.slice V.ja V.jl V.jc) := (tb.c 1 (by decide)).1
    have tb_z := tb.lt
    go_upto_region 12 with (go_at_call 15; refine HHr.out.mono ?_; rintro e y3 ⟨V3, iz3, mz3, rfl, hLw, hb6⟩)
    clear mb_0 mb_1 mb_2 mb_3 mb_4 mb_5 mb_6 mb_7 mb_8 mb_9 mb_10 mb_11 mb_z cb_0 cb_1 cb_2 cb_z tb_0 tb_1 tb_z
    clear HHr
    replace cb := cb.below hb6 cb.lt
    replace dbx := dbx.below hb6 dbx.lt
    replace mb := mb.below hb6 mb.lt
    replace tb := tb.below hb6 tb.lt
    replace bw := bw.trans (hb6.mono bw.size)
    replace hl := hl.below hb6
    replace hDk := hDk.below hb6
    replace hLv := hLv.below hb6
    obtain ⟨X6, eX6⟩ : ∃ X : World, X = y3.alloc (.cells #[.int .i64 V.next, .slice V3.ja V.jl V3.jc, .slice V3.ma M2L V3.mc, .slice V3.ra 0 V3.rc, .slice V3.pa 0 V3.pc, .int .i64 su2, .int .i64 0] 39) := ⟨_, rfl⟩
    have tb3 : BoxN X6 y3.heap.size 7 [.int .i64 V.next, .slice V3.ja V.jl V3.jc, .slice V3.ma M2L V3.mc, .slice V3.ra 0 V3.rc, .slice V3.pa 0 V3.pc, .int .i64 su2, .int .i64 0] := by rw [eX6]; exact boxn_new y3 #[.int .i64 V.next, .slice V3.ja V.jl V3.jc, .slice V3.ma M2L V3.mc, .slice V3.ra 0 V3.rc, .slice V3.pa 0 V3.pc, .int .i64 su2, .int .i64 0] 39 7 rfl
    have bX6 : Below y3.heap.size y3 X6 := by rw [eX6]; exact (Below.refl _ _).alloc (Nat.le_refl _) _
    rw [← eX6]
    clear eX6
    replace cb := cb.below bX6 cb.lt
    replace dbx := dbx.below bX6 dbx.lt
    replace mb := mb.below bX6 mb.lt
    replace tb := tb.below bX6 tb.lt
    replace bw := bw.trans (bX6.mono bw.size)
    replace hl := hl.below bX6
    replace hDk := hDk.below bX6
    replace hLv := hLv.below bX6
    replace hLw := hLw.below bX6
    have HSm : Hid (Calls Tryd.prog 12 #[.agg #[.int .i64 V.next, .slice V.ja V.jl V.jc], .agg #[.int .i64 V.next, .slice V3.ja V.jl V3.jc]] X6 fun e w' => e = .returned (.bool true) ∧ Below X6.heap.size X6 w') := by
      have j3 := hLv.isJobs
      have j4 := hLw.isJobs
      have e4 : V3.jl = V.jl := hLw.js.2.trans hLv.js.2.symm
      rw [e4] at j4
      exact sameDesk_eq V.next V.ja V.jl V.jc V.js V3.ja V3.jc V3.js X6 j3 j4 (hLv.js.1.trans hLw.js.1.symm)
    have tb_0 : X6.cell? ⟨y2.heap.size, 0, none⟩ = some (.int .i64 V.next) := (tb.c 0 (by decide)).1
    have tb_1 : X6.cell? ⟨y2.heap.size, 1, none⟩ = some (.slice V.ja V.jl V.jc) := (tb.c 1 (by decide)).1
    have tb_z := tb.lt
    have tb3_0 : X6.cell? ⟨y3.heap.size, 0, none⟩ = some (.int .i64 V.next) := (tb3.c 0 (by decide)).1
    have tb3_1 : X6.cell? ⟨y3.heap.size, 1, none⟩ = some (.slice V3.ja V.jl V3.jc) := (tb3.c 1 (by decide)).1
    have tb3_2 : X6.cell? ⟨y3.heap.size, 2, none⟩ = some (.slice V3.ma M2L V3.mc) := (tb3.c 2 (by decide)).1
    have tb3_3 : X6.cell? ⟨y3.heap.size, 3, none⟩ = some (.slice V3.ra 0 V3.rc) := (tb3.c 3 (by decide)).1
    have tb3_4 : X6.cell? ⟨y3.heap.size, 4, none⟩ = some (.slice V3.pa 0 V3.pc) := (tb3.c 4 (by decide)).1
    have tb3_5 : X6.cell? ⟨y3.heap.size, 5, none⟩ = some (.int .i64 su2) := (tb3.c 5 (by decide)).1
    have tb3_6 : X6.cell? ⟨y3.heap.size, 6, none⟩ = some (.int .i64 0) := (tb3.c 6 (by decide)).1
    have tb3_z := tb3.lt
    go_wp2_with (go_at_call 12; refine HSm.out.mono ?_; rintro e y4 ⟨rfl, hb7⟩; replace tb3 := tb3.below hb7 tb3.lt; have q3 := (tb3.c 3 (by decide)).1; have q4 := (tb3.c 4 (by decide)).1; have q6 := (tb3.c 6 (by decide)).1; have q7 := tb3.lt; simp only [List.getD_cons_zero, List.getD_cons_succ] at q3 q4 q6)
    go_ret
    exact ⟨by simp, bw.trans (hb7.mono bw.size)⟩
end Go.Proofs.YtdjnaahkcnklhaaDoor.Co
