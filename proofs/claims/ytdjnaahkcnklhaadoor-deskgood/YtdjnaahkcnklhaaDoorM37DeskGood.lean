/- Texts of this claim, one behind the other. -/
import Derived.Test.YtdjnaahkcnklhaaDoorM36DeskGood
import Derived.Test.YtdjnaahkcnklhaaDoorM11DeskGood
import Derived.Test.YtdjnaahkcnklhaaDoorM25DeskGood
import Derived.Lib.LaidTab
import Derived.OpenShut
/- The walk of the law DeskGood: at any numbers it returns true and leaves what was in memory. -/
namespace Go.Proofs.YtdjnaahkcnklhaaDoor.Co
open Go.ChangeShapes Go.WideShapes Go.ChangeAt Go.RowKit
open Go.Proofs.YtdjnaahkcnklhaaDoor.St (BoxN boxn_new own_below grown_setCell IsRow Elem flat flat_append own_isRow idxI)
open Go.Proofs.YtdjnaahkcnklhaaDoor.Pt (LS2 cfg_two two_any)
set_option linter.unusedVariables false

theorem DeskAt.aside2 {X : World} {B r : Nat} {a : Option Addr} {n c : Nat} {js : List JbV} {ix : List (Nat × Nat)} {more : List Rw} (h : DeskAt X B a n c js ix more) (hr : Far r (jobRow a n c js :: more)) (x y : Value) : DeskAt ((X.setCell ⟨r, 0, none⟩ x).setCell ⟨r, 1, none⟩ y) B a n c js ix more := (h.asideF hr 0 x).asideF hr 1 y
set_option maxRecDepth 100000 in
set_option maxHeartbeats 16000000 in
theorem deskGood_walk (s : Int) (a : Option Addr) (len cap : Nat) (rs : List St.RV) (me : Int) (w : World) (hs : (Lit.int .i64 s).wf = true) (hr : St.IsRaws w a len cap rs) (hme : (Lit.int .i64 me).wf = true) (hHa : HasAt w 0 mHas) (hTo : TopsAt w) :
    Calls Tryd.prog 3 #[.int .i64 s, .slice a len cap, .int .i64 me] w fun e w' => e = .returned (.bool true) ∧ Below w.heap.size w w' := by
  have bds : -9223372036854775808 ≤ s ∧ s ≤ 9223372036854775807 := by
    simp [Lit.wf, IntKind.min, IntKind.max, IntKind.signed, IntKind.bits] at hs
    omega
  clear hs
  have bdme : -9223372036854775808 ≤ me ∧ me ≤ 9223372036854775807 := by
    simp [Lit.wf, IntKind.min, IntKind.max, IntKind.signed, IntKind.bits] at hme
    omega
  clear hme
  have hgT : 1 < w.heap.size := World.block_lt_of_cell? w _ hTo.1
  have hgM : 0 < w.heap.size := hHa.lt (by decide)
  have KT : Hid (∀ U, Below w.heap.size w U → Tables U) := fun U hU => ⟨hHa.below hU hgM, hTo.below hU hgT⟩
  clear hHa hTo hgT hgM
  have hsp := pk_bd s 3 (by omega)
  have hTw := fun u => two_any s u bds
  obtain ⟨S1, eS1⟩ : ∃ x, x = 1 + pk s 3 := ⟨_, rfl⟩
  rw [← eS1] at hTw
  have hS1 : 1 ≤ S1 := by omega
  have hS3 : S1 ≤ 3 := by omega
  clear eS1 hsp
  have bw : Below w.heap.size w w := Below.refl _ _
  have hmp := pk_bd me S1 (by omega)
  have HPM : Hid (∀ u, Calls Tryd.prog 9 #[.int .i64 me, .int .i64 S1] u fun e w' => e = .returned (.int .i64 (pk me S1)) ∧ Below u.heap.size u w') := fun u => by
    refine (picked_any me S1 u bdme (by omega) (by omega)).mono ?_
    rintro e v ⟨rfl, hv⟩
    rw [hv]
    exact ⟨rfl, Below.refl _ _⟩
  obtain ⟨PM, ePM⟩ : ∃ x, x = pk me S1 := ⟨_, rfl⟩
  rw [← ePM] at hmp HPM
  clear ePM
  go_enter Tryd.func3, Tryd.ntmps3
  go_upto_region 2 with (go_at_call 7; refine (hTw _).mono ?_; rintro e w1 ⟨g0, rfl, hlab, hg0, hb1⟩)
  clear hTw
  replace bw := bw.trans (hb1.mono bw.size)
  replace hr := hr.below hb1
  obtain ⟨X1, eX1⟩ : ∃ X : World, X = w1.alloc (.cells #[.int .i64 S1, .slice (some ⟨g0, 0, none⟩) 2 2, .int .i64 3] 25) := ⟨_, rfl⟩
  have cb : BoxN X1 w1.heap.size 3 [.int .i64 S1, .slice (some ⟨g0, 0, none⟩) 2 2, .int .i64 3] := by rw [eX1]; exact boxn_new w1 #[.int .i64 S1, .slice (some ⟨g0, 0, none⟩) 2 2, .int .i64 3] 25 3 rfl
  have bX1 : Below w1.heap.size w1 X1 := by rw [eX1]; exact (Below.refl _ _).alloc (Nat.le_refl _) _
  rw [← eX1]
  clear eX1
  replace bw := bw.trans (bX1.mono bw.size)
  replace hr := hr.below bX1
  replace hlab := hlab.below bX1
  have HDm : Hid (∀ U, Below X1.heap.size X1 U → Calls Tryd.prog 8 #[.agg #[.int .i64 S1, .slice (some ⟨g0, 0, none⟩) 2 2, .int .i64 3], .int .i64 1, .int .i64 PM, .slice a len cap, .int .i64 40] U fun e w' => ∃ (da : Option Addr) (dc N : Nat) (nx : Int) (bs js : List JbV) (ix : List (Nat × Nat)) (more : List Rw), e = .returned (.agg #[.int .i64 nx, .slice da N dc]) ∧ (N = bs.length ∧ DeskAt w' U.heap.size da N dc js ix more ∧ js.map JbV.bare = bs ∧ DOK S1 2 nx bs) ∧ Below U.heap.size U w') := fun U hU => by
    have hbU := bw.trans (hU.mono bw.size)
    refine (desk_made S1 1 PM g0 a len cap rs 40 U hS1 hS3 (Or.inr rfl) ⟨hmp.1, by omega⟩ (hlab.below hU) (hr.below hU) (fun V hV => KT.out V (hbU.trans (hV.mono hbU.size))) (by omega)).mono ?_
    rintro e x ⟨⟨D, nx, bs, rfl, ⟨da, dc, js, ix, more, rfl, h2, h3⟩, h4, h6⟩, h5⟩
    exact ⟨da, dc, bs.length, nx, bs, js, ix, more, rfl, ⟨rfl, h2, h3, h4⟩, h5⟩
  have KC : Hid (∀ U, Below X1.heap.size X1 U → U.cell? ⟨w1.heap.size, 0, none⟩ = some (.int .i64 S1) ∧ U.cell? ⟨w1.heap.size, 1, none⟩ = some (.slice (some ⟨g0, 0, none⟩) 2 2) ∧ U.cell? ⟨w1.heap.size, 2, none⟩ = some (.int .i64 3) ∧ w1.heap.size < U.heap.size) := fun U hU => ⟨((cb.below hU cb.lt).c 0 (by decide)).1, ((cb.below hU cb.lt).c 1 (by decide)).1, ((cb.below hU cb.lt).c 2 (by decide)).1, (cb.below hU cb.lt).lt⟩
  go_upto_region 2 with (fail)
  refine wp_region_inv (by kernel_rfl) [11, 12, 13, 14, 15, 16, 17, 8] (fun L T u => ∃ (nx : Int) (da : Option Addr) (N : Nat) (dc : Nat) (bs : List JbV) (js : List JbV) (ix : List (Nat × Nat)) (more : List Rw) (A : Nat), Below X1.heap.size X1 u ∧ (L 0 = true → T 11 = .agg #[.int .i64 S1, .slice (some ⟨g0, 0, none⟩) 2 2, .int .i64 3]) ∧ (L 1 = true → T 12 = .int .i64 me) ∧ (L 2 = true → T 13 = .pointer (some ⟨w1.heap.size, 0, none⟩)) ∧ (L 3 = true → T 14 = .int .i64 S1) ∧ (L 4 = true → T 15 = .int .i64 PM) ∧ (L 5 = true → T 16 = .slice a len cap) ∧ (L 6 = true → T 17 = .agg #[.int .i64 nx, .slice da N dc]) ∧ (L 6 = true → (Hid (N = bs.length) ∧ Hid (js.map JbV.bare = bs) ∧ DOK S1 2 nx bs ∧ DeskAt u X1.heap.size da N dc js ix more)) ∧ (L 7 = true → (T 8 = .pointer (some ⟨A, 0, none⟩) ∧ X1.heap.size ≤ A ∧ A < u.heap.size)) ∧ (L 7 = true → L 8 = false → BoxN u A 2 [.int .i64 0, .slice none 0 0]) ∧ (L 8 = true → BoxN u A 2 [.int .i64 nx, .slice da N dc]) ∧ (L 6 = true → L 7 = true → Far A (jobRow da N dc js :: more))) (by decide) (by kernel_rfl) (by kernel_rfl) ?_ ?_ ?_
  · exact ⟨default, none, 0, 0, default, default, default, default, 0, (Below.refl _ _).drew, nofun, nofun, nofun, nofun, nofun, nofun, nofun, nofun, nofun, nofun, nofun, nofun⟩
  · refine ⟨?_, ?_, ?_, ?_, ?_, ?_, ?_, ?_, ?_, trivial⟩
    · rintro L T u hd hk hcl ⟨nx, da, N, dc, bs, js, ix, more, A, hb, p0, p1, p2, p3, p4, p5, p6, lv, pa7, bz7, bv7, fr7_lv⟩ K hK
      simp only [fr, Act.put, List.setIfInBounds_toArray, List.set_cons_zero, List.set_cons_succ, updO] at hK ⊢
      simp [Region.binds] at hd
      obtain ⟨x0, x1, x2, x3⟩ := KC.out u hb
      rw [if_pos (by rfl)]
      simp only [Oper.wpv]
      go_simp
      exact hK _ _ ⟨nx, da, N, dc, bs, js, ix, more, A, hb, fun _ => rfl, p1, p2, p3, p4, p5, p6, lv, pa7, bz7, bv7, fr7_lv⟩
    · rintro L T u hd hk hcl ⟨nx, da, N, dc, bs, js, ix, more, A, hb, p0, p1, p2, p3, p4, p5, p6, lv, pa7, bz7, bv7, fr7_lv⟩ K hK
      simp only [fr, Act.put, List.setIfInBounds_toArray, List.set_cons_zero, List.set_cons_succ, updO] at hK ⊢
      simp [Region.binds] at hd
      rw [if_pos (by rfl)]
      simp only [Oper.wpv]
      go_simp
      exact hK _ _ ⟨nx, da, N, dc, bs, js, ix, more, A, hb, p0, fun _ => rfl, p2, p3, p4, p5, p6, lv, pa7, bz7, bv7, fr7_lv⟩
    · rintro L T u hd hk hcl ⟨nx, da, N, dc, bs, js, ix, more, A, hb, p0, p1, p2, p3, p4, p5, p6, lv, pa7, bz7, bv7, fr7_lv⟩ K hK
      simp only [fr, Act.put, List.setIfInBounds_toArray, List.set_cons_zero, List.set_cons_succ, updO] at hK ⊢
      simp [Region.binds] at hd
      rw [if_pos (by rfl)]
      simp only [Oper.wpv]
      go_simp
      exact hK _ _ ⟨nx, da, N, dc, bs, js, ix, more, A, hb, p0, p1, fun _ => rfl, p3, p4, p5, p6, lv, pa7, bz7, bv7, fr7_lv⟩
    · rintro L T u hd hk hcl ⟨nx, da, N, dc, bs, js, ix, more, A, hb, p0, p1, p2, p3, p4, p5, p6, lv, pa7, bz7, bv7, fr7_lv⟩ K hK
      simp only [fr, Act.put, List.setIfInBounds_toArray, List.set_cons_zero, List.set_cons_succ, updO] at hK ⊢
      simp [Region.binds] at hd
      have g2 := p2 (by simp [hd])
      obtain ⟨x0, x1, x2, x3⟩ := KC.out u hb
      rw [if_pos (by rfl)]
      simp only [Oper.wpv]
      go_simp
      exact hK _ _ ⟨nx, da, N, dc, bs, js, ix, more, A, hb, p0, p1, p2, fun _ => rfl, p4, p5, p6, lv, pa7, bz7, bv7, fr7_lv⟩
    · rintro L T u hd hk hcl ⟨nx, da, N, dc, bs, js, ix, more, A, hb, p0, p1, p2, p3, p4, p5, p6, lv, pa7, bz7, bv7, fr7_lv⟩ K hK
      simp only [fr, Act.put, List.setIfInBounds_toArray, List.set_cons_zero, List.set_cons_succ, updO] at hK ⊢
      simp [Region.binds] at hd
      have g1 := p1 (by simp [hd])
      have g3 := p3 (by simp [hd])
      rw [if_pos (by rfl)]
      simp only [Oper.wpv]
      go_simp
      refine (HPM.out _).mono ?_
      rintro e u1 ⟨rfl, hg⟩
      exact hK _ _ ⟨nx, da, N, dc, bs, js, ix, more, A, nT hb hg, p0, p1, p2, p3, fun _ => rfl, p5, p6, fun h0 => ⟨(lv h0).1, (lv h0).2.1, (lv h0).2.2.1, ((lv h0).2.2.2).below hg⟩, fun h0 => ⟨(pa7 h0).1, (pa7 h0).2.1, Nat.lt_of_lt_of_le (pa7 h0).2.2 hg.size⟩, fun h0 h1 => (bz7 h0 h1).below hg (bz7 h0 h1).lt, fun h0 => (bv7 h0).below hg (bv7 h0).lt, fr7_lv⟩
    · rintro L T u hd hk hcl ⟨nx, da, N, dc, bs, js, ix, more, A, hb, p0, p1, p2, p3, p4, p5, p6, lv, pa7, bz7, bv7, fr7_lv⟩ K hK
      simp only [fr, Act.put, List.setIfInBounds_toArray, List.set_cons_zero, List.set_cons_succ, updO] at hK ⊢
      simp [Region.binds] at hd
      rw [if_pos (by rfl)]
      simp only [Oper.wpv]
      go_simp
      exact hK _ _ ⟨nx, da, N, dc, bs, js, ix, more, A, hb, p0, p1, p2, p3, p4, fun _ => rfl, p6, lv, pa7, bz7, bv7, fr7_lv⟩
    · rintro L T u hd hk hcl ⟨nx, da, N, dc, bs, js, ix, more, A, hb, p0, p1, p2, p3, p4, p5, p6, lv, pa7, bz7, bv7, fr7_lv⟩ K hK
      simp only [fr, Act.put, List.setIfInBounds_toArray, List.set_cons_zero, List.set_cons_succ, updO] at hK ⊢
      simp [Region.binds] at hd
      have g0 := p0 (by simp [hd])
      have g4 := p4 (by simp [hd])
      have g5 := p5 (by simp [hd])
      have k8 := hcl 8 _ rfl
      simp [Region.binds] at k8
      rw [if_pos (by rfl)]
      simp only [Oper.wpv]
      go_simp
      refine (HDm.out _ hb).mono ?_
      rintro e u1 ⟨da5, dc5, N5, nx5, bs5, js5, ix5, mo5, rfl, ⟨hv1, hv2, hv3, hv4⟩, hg⟩
      exact hK _ _ ⟨nx5, da5, N5, dc5, bs5, js5, ix5, mo5, A, nT hb hg, p0, p1, p2, p3, p4, p5, fun _ => rfl, fun _ => ⟨hv1, hv3, hv4, hv2.base hb.size⟩, fun h0 => ⟨(pa7 h0).1, (pa7 h0).2.1, Nat.lt_of_lt_of_le (pa7 h0).2.2 hg.size⟩, fun h0 h1 => (bz7 h0 h1).below hg (bz7 h0 h1).lt, fun h => absurd (show L 8 = true from h) (by intro hh; have a8 := k8 hh; simp [hk] at a8), fun _ h1 => (hv2).farOld ((pa7 (show L 7 = true from h1)).2.2)⟩
    · rintro L T u hd hk hcl ⟨nx, da, N, dc, bs, js, ix, more, A, hb, p0, p1, p2, p3, p4, p5, p6, lv, pa7, bz7, bv7, fr7_lv⟩ K hK
      simp only [fr, Act.put, List.setIfInBounds_toArray, List.set_cons_zero, List.set_cons_succ, updO] at hK ⊢
      simp [Region.binds] at hd
      have kst := hcl 8 _ rfl
      simp [Region.binds] at kst
      rw [if_pos (by rfl)]
      simp only [Oper.wpv]
      go_simp
      have hg : Below u.heap.size u _ := (Below.refl u.heap.size u).alloc (Nat.le_refl _) (.cells #[.int .i64 0, .slice none 0 0] 29)
      exact hK _ _ ⟨nx, da, N, dc, bs, js, ix, more, u.heap.size, nT hb hg, p0, p1, p2, p3, p4, p5, p6, fun h0 => ⟨(lv h0).1, (lv h0).2.1, (lv h0).2.2.1, ((lv h0).2.2.2).below hg⟩, fun _ => ⟨rfl, hb.size, by simp⟩, fun _ _ => boxn_new u #[.int .i64 0, .slice none 0 0] 29 2 rfl, fun h => absurd (show L 8 = true from h) (by intro hh; have := kst hh; simp [hk] at this), fun h0 _ => (lv (show L 6 = true from h0)).2.2.2.farNew (Nat.le_refl _)⟩
    · rintro L T u hd hk hcl ⟨nx, da, N, dc, bs, js, ix, more, A, hb, p0, p1, p2, p3, p4, p5, p6, lv, pa7, bz7, bv7, fr7_lv⟩ K hK
      simp only [fr, Act.put, List.setIfInBounds_toArray, List.set_cons_zero, List.set_cons_succ, updO] at hK ⊢
      simp [Region.binds] at hd
      have g6 := p6 (by simp [hd])
      have g7 := pa7 (by simp [hd])
      have HK7 : L 7 = true := by simp [hd]
      obtain ⟨gA, gB, gC⟩ := pa7 HK7
      have bz := bz7 HK7 hk
      have z0 : u.cell? ⟨A, 0, none⟩ = some (.int .i64 0) := (bz.c 0 (by decide)).1
      have zf0 := (bz.c 0 (by decide)).2
      have z1 : u.cell? ⟨A, 1, none⟩ = some (.slice none 0 0) := (bz.c 1 (by decide)).1
      have zf1 := (bz.c 1 (by decide)).2
      clear g7
      rw [if_pos (by rfl)]
      simp only [Oper.wpv]
      go_simp
      exact hK _ _ ⟨nx, da, N, dc, bs, js, ix, more, A, ((hb.setCell (p := ⟨A, 0, none⟩) gB _).setCell (p := ⟨A, 1, none⟩) gB _), p0, p1, p2, p3, p4, p5, p6, fun h0 => ⟨(lv h0).1, (lv h0).2.1, (lv h0).2.2.1, DeskAt.aside2 ((lv h0).2.2.2) (fr7_lv h0 HK7) _ _⟩, fun h0 => ⟨(pa7 h0).1, (pa7 h0).2.1, by simpa using (pa7 h0).2.2⟩, fun h0 h1 => Bool.noConfusion (show true = false from h1), fun _ => ((bz.set 0 (by decide) _).set 1 (by decide) _), fr7_lv⟩
  · rintro L T u hl ⟨nx, da, N, dc, bs, js, ix, more, A, hb, p0, p1, p2, p3, p4, p5, p6, lv, pa7, bz7, bv7, fr7_lv⟩
    simp only [fr, Act.put, List.setIfInBounds_toArray, List.set_cons_zero, List.set_cons_succ]
    have hLv := lv (hl 6 (by decide))
    have hPa := pa7 (hl 7 (by decide))
    have bV := bv7 (hl 8 (by decide))
    clear p0 p1 p2 p3 p4 p5 p6 lv pa7 bz7 bv7 fr7_lv HDm KC HPM
    obtain ⟨hA1, hA2, hA3⟩ := hPa
    obtain ⟨HN, hbs0, hok, hDk⟩ := hLv
    have hbs := hbs0.out
    rw [hA1]
    clear hA1
    replace cb := cb.below hb cb.lt
    replace bw := bw.trans (hb.mono bw.size)
    replace hlab := hlab.below hb
    have hcf : cfgFault S1 LS2 3 = 0 := cfg_two hS1 (by omega) (by omega) (by omega)
    have hnx1 : 1 ≤ nx := hok.nx.1
    have HCk : Hid (Calls Tryd.prog 10 #[.agg #[.int .i64 S1, .slice (some ⟨g0, 0, none⟩) 2 2, .int .i64 3], .agg #[.int .i64 nx, .slice da N dc]] u fun e w' => e = .returned (.int .i64 0) ∧ Below u.heap.size u w') := by
      have h1 := deskCheck_any S1 3 (some ⟨g0, 0, none⟩) 2 2 LS2 nx da N dc js u hlab hDk.isJobs
      have h2 : dkErr S1 LS2 3 nx js = 0 := by
        have h3 := rf_zero (rf_of (p := 3) (l := 1) (me := 0) hcf ⟨by omega, by decide⟩ ⟨by omega, by omega⟩ hok)
        unfold dkErr at h3 ⊢
        rw [if_pos hcf] at h3 ⊢
        have e9 : jbsOK S1 LS2.length nx bs = jbsOK S1 LS2.length nx js := by
          rw [← hbs]
          unfold jbsOK
          rw [jbs_bare, List.length_map]
        rw [e9] at h3
        exact h3
      rw [h2] at h1
      exact h1
    have HC2 : Hid (∀ U, Below u.heap.size u U → Calls Tryd.prog 10 #[.agg #[.int .i64 S1, .slice (some ⟨g0, 0, none⟩) 2 2, .int .i64 3], .agg #[.int .i64 0, .slice none 0 0]] U fun e w' => e = .returned (.int .i64 9) ∧ Below U.heap.size U w') := fun U hU => by
      have h1 := deskCheck_any S1 3 (some ⟨g0, 0, none⟩) 2 2 LS2 0 none 0 0 [] U (hlab.below hU) (isJobs_nil U)
      rw [dk_none hcf] at h1
      exact h1
    have HB : Hid (∀ U, Below u.heap.size u U → BoxN U A 2 [.int .i64 nx, .slice da N dc] ∧ BoxN U w1.heap.size 3 [.int .i64 S1, .slice (some ⟨g0, 0, none⟩) 2 2, .int .i64 3]) := fun U hU => ⟨bV.below hU bV.lt, cb.below hU cb.lt⟩
    have cb_0 : u.cell? ⟨w1.heap.size, 0, none⟩ = some (.int .i64 S1) := (cb.c 0 (by decide)).1
    have cb_1 : u.cell? ⟨w1.heap.size, 1, none⟩ = some (.slice (some ⟨g0, 0, none⟩) 2 2) := (cb.c 1 (by decide)).1
    have cb_2 : u.cell? ⟨w1.heap.size, 2, none⟩ = some (.int .i64 3) := (cb.c 2 (by decide)).1
    have cb_z := cb.lt
    have bV_0 : u.cell? ⟨A, 0, none⟩ = some (.int .i64 nx) := (bV.c 0 (by decide)).1
    have bV_1 : u.cell? ⟨A, 1, none⟩ = some (.slice da N dc) := (bV.c 1 (by decide)).1
    have bV_z := bV.lt
    clear cb bV hDk hlab hbs hok
    have tok : True := trivial
    go_wp2_with (first | (go_at_call 10; clear tok; refine HCk.out.mono ?_; rintro e y1 ⟨rfl, hy1⟩; clear HCk; obtain ⟨q1, q2⟩ := HB.out y1 hy1; have z0 := (q2.c 0 (by decide)).1; have z1 := (q2.c 1 (by decide)).1; have z2 := (q2.c 2 (by decide)).1; have z3 := q2.lt; simp only [List.getD_cons_zero, List.getD_cons_succ] at z0 z1 z2; clear q1 q2) | (go_at_call 10; refine (HC2.out _ hy1).mono ?_; rintro e y2 ⟨rfl, hy2⟩; have hy3 := nT hy1 hy2; obtain ⟨q1, q2⟩ := HB.out y2 hy3; have v0 := (q1.c 0 (by decide)).1; have v1 := q1.lt; simp only [List.getD_cons_zero] at v0; clear q1 q2))
    go_ret
    exact ⟨by simp; omega, bw.trans (hy3.mono bw.size)⟩
end Go.Proofs.YtdjnaahkcnklhaaDoor.Co
/- What the listed tables of package wire hold, cell by cell, out of their reading as data. -/
namespace Go.Proofs.YtdjnaahkcnklhaaDoor
open Go.ChangeShapes Go.WideShapes Go.ChangeAt Go.RowKit

def bRow {H : Type} (bs : List Bool) : DataW H := .agg (bs.map fun b => .lit (.bool b))
def bTab {H : Type} (tb : List (List Bool)) : DataW H := .agg (tb.map bRow)

section
variable {H : Type} {enc : TypeId × Value → H} {W : World} {base : Nat} {sp : Nat → Bool} {held : Bool}

theorem c1b : Tryd.prog.cellsOf 4 = 1 := by kernel_rfl
theorem c8b : Tryd.prog.cellsOf 131 = 8 := by kernel_rfl

theorem row_of {fuel : Nat} {cs : List Value} {bs : List Bool} {p : List MemPlace} (hb : bs.length = 8) (h : DataW.trod enc Tryd.prog W base sp held fuel 131 cs = some (bRow bs, p)) (j : Nat) (hj : j < 8) : cs[j]? = some (.bool (bs.getD j false)) := by
  obtain ⟨xs, m, rfl, hx, hl, hn, hel⟩ := DataW.trod_array Tryd.underlying131 h
  have hxs : xs.map (·.1) = bs.map fun b => (DataW.lit (.bool b) : DataW H) := by
    have := congrArg Prod.fst hx
    simpa [bRow] using this.symm
  have h1 := hel j hj
  rw [c1b, List.getElem?_eq_getElem (by omega)] at h1
  obtain ⟨b, hc, hx1⟩ := DataW.trod_bool Tryd.underlying4 h1
  have e1 : cs[j]? = some (.bool b) := by
    have := congrArg (·[0]?) hc
    simpa [List.getElem?_take, List.getElem?_drop] using this
  have e2 : (xs.map (·.1))[j]? = some (DataW.lit (.bool b) : DataW H) := by
    rw [List.getElem?_map, List.getElem?_eq_getElem (by omega), hx1]; rfl
  rw [hxs] at e2
  have hjb : j < bs.length := by omega
  simp [hjb] at e2
  rw [e1]
  simp [List.getD, hjb, e2]

theorem tab_of {fuel n : Nat} {t : TypeId} {cs : List Value} {tb : List (List Bool)} {p : List MemPlace} (ht : Tryd.prog.underlying t = some (.array n 131)) (hn : tb.length = n) (hb : ∀ i, i < n → (tb.getD i []).length = 8) (h : DataW.trod enc Tryd.prog W base sp held fuel t cs = some (bTab tb, p)) (i j : Nat) (hi : i < n) (hj : j < 8) : cs[i * 8 + j]? = some (.bool ((tb.getD i []).getD j false)) := by
  obtain ⟨xs, m, rfl, hx, hl, hlen, hel⟩ := DataW.trod_array ht h
  have hxs : xs.map (·.1) = tb.map bRow := by
    have := congrArg Prod.fst hx
    simpa [bTab] using this.symm
  have h1 := hel i hi
  rw [c8b, List.getElem?_eq_getElem (by omega)] at h1
  have e2 : (xs.map (·.1))[i]? = (tb.map (bRow (H := H)))[i]? := by rw [hxs]
  have hit : i < tb.length := by omega
  have hix : i < xs.length := by omega
  simp [hix, hit] at e2
  obtain ⟨d, q, hxi⟩ : ∃ d q, xs[i] = (d, q) := ⟨_, _, rfl⟩
  have e3 : d = bRow (tb.getD i []) := by
    rw [hxi] at e2
    simp [List.getD, hit]
    exact e2
  rw [hxi, e3] at h1
  have := row_of (hb i hi) h1 j hj
  rw [List.getElem?_take, if_pos hj, List.getElem?_drop] at this
  exact this

theorem has_of {fuel n g : Nat} {t : TypeId} {cs : Array Value} {tb : List (List Bool)} {p : List MemPlace} {name : String} (hg : Tryd.prog.globalNamed name = some g) (hv : W.var? Tryd.prog name = some cs) (ht : Tryd.prog.underlying t = some (.array n 131)) (hn : tb.length = n) (hb : ∀ i, i < n → (tb.getD i []).length = 8)
    (h : DataW.trod enc Tryd.prog W base sp held fuel t cs.toList = some (bTab tb, p)) : HasAt W g tb := by
  intro i j hi hj
  rw [World.var?_cell hg hv, ← Array.getElem?_toList]
  exact tab_of ht hn hb h i j (by omega) hj

theorem mHas_rows : ∀ i, i < 10 → (mHas.getD i []).length = 8 := by decide
theorem rHas_rows : ∀ i, i < 7 → (rHas.getD i []).length = 8 := by decide

theorem tops_of {fuel : Nat} {cs : Array Value} {p : List MemPlace} {name : String} (hg : Tryd.prog.globalNamed name = some 1) (hv : W.var? Tryd.prog name = some cs)
    (h : DataW.trod enc Tryd.prog W base sp held fuel 124 cs.toList = some (Lib.tabData .i64 topL, p)) : TopsAt W := by
  have e := Lib.cells_of_tab Tryd.underlying124 Tryd.underlying3 (by kernel_rfl) (by kernel_rfl) h
  have c : ∀ i, W.cell? ⟨1, i, none⟩ = (topL.map fun z => Value.int .i64 z)[i]? := by
    intro i
    rw [World.var?_cell hg hv, ← Array.getElem?_toList, e]
  unfold TopsAt
  simp only [c]
  simp [topL]
end
end Go.Proofs.YtdjnaahkcnklhaaDoor
