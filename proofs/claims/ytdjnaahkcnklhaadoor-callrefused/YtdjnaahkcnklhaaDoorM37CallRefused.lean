/- Texts of this claim, one behind the other. -/
import Derived.Test.YtdjnaahkcnklhaaDoorM36CallRefused
import Derived.Test.YtdjnaahkcnklhaaDoorM11CallRefused
import Derived.Deep.QuietTactic
import Derived.BigQuiet
import Derived.Test.YtdjnaahkcnklhaaDoorM25CallRefused
import Derived.Lib.LaidTab
import Derived.OpenShut
/- The walk of the law CallRefused: at any numbers it returns true and leaves what was in memory. -/
namespace Go.Proofs.YtdjnaahkcnklhaaDoor.Co
open Go.ChangeShapes Go.WideShapes Go.ChangeAt Go.RowKit
open Go.Proofs.YtdjnaahkcnklhaaDoor.St (BoxN boxn_new own_below grown_setCell IsRow Elem flat flat_append own_isRow idxI)
open Go.Proofs.YtdjnaahkcnklhaaDoor.Pt (LS2 cfg_two two_any)
set_option linter.unusedVariables false

theorem idx_new {n nx s nl : Int} {bs : List JbV} (hd : DOK s nl nx bs) (hn : nx ≤ n ∨ n < 1) : idxI (isN n) bs = -1 := by
  refine St.idxI_none fun i hi => ?_
  have h := hd.get hi
  exact decide_eq_false (by omega)
theorem ref_ans {C : Cx} {nx n kind key : Int} {bs : List JbV} (hE : clErr C nx bs kind = 0) (hb : bs.map JbV.bare = bs) (hk : kind ≠ 1) (hi : idxI (isN n) bs = -1) : CallAns C nx bs 6000 ⟨kind, n, 0, key, 0⟩ = ⟨nx, bs, [], [], [⟨C.me, kind, n, key, 0, 6⟩], 0, 0⟩ := by
  unfold CallAns
  simp only []
  rw [if_pos hE]
  have e0 : tn0 nx bs = ⟨nx, bs, [], [], [], 0, 0⟩ := by unfold tn0; rw [hb]
  rw [e0]
  unfold Tn.call
  simp only []
  rw [if_neg hk, if_pos hi]
  rfl
set_option maxRecDepth 100000 in
set_option maxHeartbeats 16000000 in
theorem callRefused_walk (s : Int) (a : Option Addr) (len cap : Nat) (rs : List St.RV) (which n : Int) (w : World) (hs : (Lit.int .i64 s).wf = true) (hr : St.IsRaws w a len cap rs) (hwh : (Lit.int .i64 which).wf = true) (hn : (Lit.int .i64 n).wf = true) (hHa : HasAt w 0 mHas) (hTo : TopsAt w) :
    Calls Tryd.prog 5 #[.int .i64 s, .slice a len cap, .int .i64 which, .int .i64 n] w fun e w' => e = .returned (.bool true) ∧ Below w.heap.size w w' := by
  have bds : -9223372036854775808 ≤ s ∧ s ≤ 9223372036854775807 := by
    simp [Lit.wf, IntKind.min, IntKind.max, IntKind.signed, IntKind.bits] at hs
    omega
  clear hs
  have bdwhich : -9223372036854775808 ≤ which ∧ which ≤ 9223372036854775807 := by
    simp [Lit.wf, IntKind.min, IntKind.max, IntKind.signed, IntKind.bits] at hwh
    omega
  clear hwh
  have bdn : -9223372036854775808 ≤ n ∧ n ≤ 9223372036854775807 := by
    simp [Lit.wf, IntKind.min, IntKind.max, IntKind.signed, IntKind.bits] at hn
    omega
  clear hn
  have hgT : 1 < w.heap.size := World.block_lt_of_cell? w _ hTo.1
  have hgM : 0 < w.heap.size := hHa.lt (by decide)
  have KT : Hid (∀ U, Below w.heap.size w U → Tables U) := fun U hU => ⟨hHa.below hU hgM, hTo.below hU hgT⟩
  clear hHa hTo hgT hgM
  have hwp := pk_bd which 4 (by omega)
  have hPW := fun u => picked_any which 4 u bdwhich (by omega) (by omega)
  obtain ⟨PW, ePW⟩ : ∃ x, x = pk which 4 := ⟨_, rfl⟩
  rw [← ePW] at hwp hPW
  clear ePW
  have hnp := pk_bd n 9 (by omega)
  have HPN : Hid (∀ u, Calls Tryd.prog 9 #[.int .i64 n, .int .i64 9] u fun e w' => e = .returned (.int .i64 (pk n 9)) ∧ Below u.heap.size u w') := fun u => by
    refine (picked_any n 9 u bdn (by omega) (by omega)).mono ?_
    rintro e v ⟨rfl, hv⟩
    rw [hv]
    exact ⟨rfl, Below.refl _ _⟩
  obtain ⟨PN, ePN⟩ : ∃ x, x = pk n 9 := ⟨_, rfl⟩
  rw [← ePN] at hnp HPN
  clear ePN
  have hsp := pk_bd s 3 (by omega)
  have hTw := fun u => two_any s u bds
  obtain ⟨S1, eS1⟩ : ∃ x, x = 1 + pk s 3 := ⟨_, rfl⟩
  rw [← eS1] at hTw
  have hS1 : 1 ≤ S1 := by omega
  have hS3 : S1 ≤ 3 := by omega
  clear eS1 hsp
  have bw : Below w.heap.size w w := Below.refl _ _
  go_enter Tryd.func5, Tryd.ntmps5
  go_upto_region 2 with (go_at_call 7; refine (hTw _).mono ?_; rintro e w1 ⟨g0, rfl, hl, hg0, hb1⟩)
  clear hTw
  replace bw := bw.trans (hb1.mono bw.size)
  replace hr := hr.below hb1
  obtain ⟨X1, eX1⟩ : ∃ X : World, X = w1.alloc (.cells #[.int .i64 S1, .slice (some ⟨g0, 0, none⟩) 2 2, .int .i64 3] 25) := ⟨_, rfl⟩
  have cb : BoxN X1 w1.heap.size 3 [.int .i64 S1, .slice (some ⟨g0, 0, none⟩) 2 2, .int .i64 3] := by rw [eX1]; exact boxn_new w1 #[.int .i64 S1, .slice (some ⟨g0, 0, none⟩) 2 2, .int .i64 3] 25 3 rfl
  have bX1 : Below w1.heap.size w1 X1 := by rw [eX1]; exact (Below.refl _ _).alloc (Nat.le_refl _) _
  rw [← eX1]
  clear eX1
  replace bw := bw.trans (bX1.mono bw.size)
  replace hr := hr.below bX1
  replace hl := hl.below bX1
  have HDm : Hid (Calls Tryd.prog 8 #[.agg #[.int .i64 S1, .slice (some ⟨g0, 0, none⟩) 2 2, .int .i64 3], .int .i64 0, .int .i64 0, .slice a len cap, .int .i64 30] X1 fun e w' => ∃ (da : Option Addr) (dc : Nat) (nx : Int) (bs js : List JbV) (ix : List (Nat × Nat)) (more : List Rw), e = .returned (.agg #[.int .i64 nx, .slice da bs.length dc]) ∧ DeskAt w' X1.heap.size da bs.length dc js ix more ∧ js.map JbV.bare = bs ∧ DOK S1 2 nx bs ∧ nx ≤ 1 + 30 ∧ Below X1.heap.size X1 w') := by
    refine (desk_made S1 0 0 g0 a len cap rs 30 X1 hS1 hS3 (Or.inl rfl) ⟨by omega, by omega⟩ hl hr (fun U hU => KT.out U (bw.trans (hU.mono bw.size))) (by omega)).mono ?_
    rintro e x ⟨⟨D, nx, bs, rfl, ⟨da, dc, js, ix, more, rfl, h2, h3⟩, h4, h6⟩, h5⟩
    exact ⟨da, dc, nx, bs, js, ix, more, rfl, h2, h3, h4, h6, h5⟩
  have cb_0 : X1.cell? ⟨w1.heap.size, 0, none⟩ = some (.int .i64 S1) := (cb.c 0 (by decide)).1
  have cb_1 : X1.cell? ⟨w1.heap.size, 1, none⟩ = some (.slice (some ⟨g0, 0, none⟩) 2 2) := (cb.c 1 (by decide)).1
  have cb_2 : X1.cell? ⟨w1.heap.size, 2, none⟩ = some (.int .i64 3) := (cb.c 2 (by decide)).1
  have cb_z := cb.lt
  go_upto_region 3 with (go_at_call 8; refine HDm.out.mono ?_; rintro e y0 ⟨da, dc, nx, bs, js, ix, more, rfl, hDk, hbs, hok, hnx, hb0⟩)
  clear cb_0 cb_1 cb_2 cb_z
  clear HDm
  replace cb := cb.below hb0 cb.lt
  replace bw := bw.trans (hb0.mono bw.size)
  replace hr := hr.below hb0
  replace hl := hl.below hb0
  obtain ⟨N, eN⟩ : ∃ N, N = bs.length := ⟨_, rfl⟩
  rw [← eN] at hDk ⊢
  have HN : Hid (N = bs.length) := eN
  clear eN
  obtain ⟨X2, eX2⟩ : ∃ X : World, X = y0.alloc (.cells #[.int .i64 nx, .slice da N dc] 29) := ⟨_, rfl⟩
  have dbx : BoxN X2 y0.heap.size 2 [.int .i64 nx, .slice da N dc] := by rw [eX2]; exact boxn_new y0 #[.int .i64 nx, .slice da N dc] 29 2 rfl
  have bX2 : Below y0.heap.size y0 X2 := by rw [eX2]; exact (Below.refl _ _).alloc (Nat.le_refl _) _
  rw [← eX2]
  clear eX2
  replace cb := cb.below bX2 cb.lt
  replace bw := bw.trans (bX2.mono bw.size)
  replace hr := hr.below bX2
  replace hl := hl.below bX2
  replace hDk := hDk.below bX2
  clear hr
  have hcf : cfgFault S1 LS2 3 = 0 := cfg_two hS1 (by omega) (by omega) (by omega)
  have hnx1 : 1 ≤ nx := hok.nx.1
  have HOK : Hid (DOK S1 2 nx bs) := hok
  have HBS : Hid (js.map JbV.bare = bs ∧ bs.map JbV.bare = bs) := ⟨hbs, bare_idem bs hbs⟩
  have hwn : IntKind.i64.wrap (nx + PN) = nx + PN := by simp [IntKind.wrap, IntKind.bits, IntKind.signed]; omega
  have hwn2 : IntKind.i64.wrap (PN + nx) = nx + PN := by simp [IntKind.wrap, IntKind.bits, IntKind.signed]; omega
  have KC : Hid (∀ U, Below X2.heap.size X2 U → U.cell? ⟨y0.heap.size, 0, none⟩ = some (.int .i64 nx) ∧ y0.heap.size < U.heap.size) := fun U hU => ⟨((dbx.below hU dbx.lt).c 0 (by decide)).1, (dbx.below hU dbx.lt).lt⟩
  have hlab := hl
  clear hl
  refine wp_region_inv (by kernel_rfl) [22, 23, 24, 25, 26, 27, 28, 29, 30, 31, 32, 33, 11] (fun L T u => ∃ (A : Nat), Below X2.heap.size X2 u ∧ (L 0 = true → T 22 = .pointer (some ⟨y0.heap.size, 0, none⟩)) ∧ (L 1 = true → T 23 = .int .i64 nx) ∧ (L 2 = true → T 24 = .int .i64 n) ∧ (L 3 = true → T 25 = .int .i64 PN) ∧ (L 4 = true → T 26 = .int .i64 (nx + PN)) ∧ (L 5 = true → T 27 = .agg #[.int .i64 4, .int .i64 (nx + PN), .int .i64 0, .int .i64 0, .int .i64 0]) ∧ (L 6 = true → T 28 = .pointer (some ⟨y0.heap.size, 0, none⟩)) ∧ (L 7 = true → T 29 = .int .i64 nx) ∧ (L 8 = true → T 30 = .agg #[.int .i64 2, .int .i64 nx, .int .i64 0, .int .i64 1, .int .i64 0]) ∧ (L 9 = true → T 31 = .agg #[.int .i64 5, .int .i64 0, .int .i64 0, .int .i64 0, .int .i64 0]) ∧ (L 10 = true → T 32 = .agg #[.int .i64 3, .int .i64 1048576, .int .i64 0, .int .i64 1, .int .i64 0]) ∧ (L 12 = true → T 11 = .slice (some ⟨A, 0, none⟩) 4 4) ∧ (L 11 = true → (T 33 = .slice (some ⟨A, 0, none⟩) 4 4 ∧ X2.heap.size ≤ A ∧ A < u.heap.size)) ∧ (L 11 = true → BoxN u A 20 [.int .i64 4, .int .i64 (nx + PN), .int .i64 0, .int .i64 0, .int .i64 0, .int .i64 2, .int .i64 nx, .int .i64 0, .int .i64 1, .int .i64 0, .int .i64 5, .int .i64 0, .int .i64 0, .int .i64 0, .int .i64 0, .int .i64 3, .int .i64 1048576, .int .i64 0, .int .i64 1, .int .i64 0])) (by decide) (by kernel_rfl) (by kernel_rfl) ?_ ?_ ?_
  · exact ⟨0, (Below.refl _ _).drew, nofun, nofun, nofun, nofun, nofun, nofun, nofun, nofun, nofun, nofun, nofun, nofun, nofun, nofun⟩
  · refine ⟨?_, ?_, ?_, ?_, ?_, ?_, ?_, ?_, ?_, ?_, ?_, ?_, ?_, trivial⟩
    · rintro L T u hd hk hcl ⟨A, hb, p0, p1, p2, p3, p4, p5, p6, p7, p8, p9, p10, p12, pa11, bv11⟩ K hK
      simp only [fr, Act.put, List.setIfInBounds_toArray, List.set_cons_zero, List.set_cons_succ, updO] at hK ⊢
      simp [Region.binds] at hd
      rw [if_pos (by rfl)]
      simp only [Oper.wpv]
      go_simp
      exact hK _ _ ⟨A, hb, fun _ => rfl, p1, p2, p3, p4, p5, p6, p7, p8, p9, p10, p12, pa11, bv11⟩
    · rintro L T u hd hk hcl ⟨A, hb, p0, p1, p2, p3, p4, p5, p6, p7, p8, p9, p10, p12, pa11, bv11⟩ K hK
      simp only [fr, Act.put, List.setIfInBounds_toArray, List.set_cons_zero, List.set_cons_succ, updO] at hK ⊢
      simp [Region.binds] at hd
      have g0 := p0 (by simp [hd])
      obtain ⟨x0, x1⟩ := KC.out u hb
      rw [if_pos (by rfl)]
      simp only [Oper.wpv]
      go_simp
      exact hK _ _ ⟨A, hb, p0, fun _ => rfl, p2, p3, p4, p5, p6, p7, p8, p9, p10, p12, pa11, bv11⟩
    · rintro L T u hd hk hcl ⟨A, hb, p0, p1, p2, p3, p4, p5, p6, p7, p8, p9, p10, p12, pa11, bv11⟩ K hK
      simp only [fr, Act.put, List.setIfInBounds_toArray, List.set_cons_zero, List.set_cons_succ, updO] at hK ⊢
      simp [Region.binds] at hd
      rw [if_pos (by rfl)]
      simp only [Oper.wpv]
      go_simp
      exact hK _ _ ⟨A, hb, p0, p1, fun _ => rfl, p3, p4, p5, p6, p7, p8, p9, p10, p12, pa11, bv11⟩
    · rintro L T u hd hk hcl ⟨A, hb, p0, p1, p2, p3, p4, p5, p6, p7, p8, p9, p10, p12, pa11, bv11⟩ K hK
      simp only [fr, Act.put, List.setIfInBounds_toArray, List.set_cons_zero, List.set_cons_succ, updO] at hK ⊢
      simp [Region.binds] at hd
      have g2 := p2 (by simp [hd])
      rw [if_pos (by rfl)]
      simp only [Oper.wpv]
      go_simp
      refine (HPN.out _).mono ?_
      rintro e u1 ⟨rfl, hg⟩
      exact hK _ _ ⟨A, nT hb hg, p0, p1, p2, fun _ => rfl, p4, p5, p6, p7, p8, p9, p10, p12, fun h0 => ⟨(pa11 h0).1, (pa11 h0).2.1, Nat.lt_of_lt_of_le (pa11 h0).2.2 hg.size⟩, fun h0 => (bv11 h0).below hg (bv11 h0).lt⟩
    · rintro L T u hd hk hcl ⟨A, hb, p0, p1, p2, p3, p4, p5, p6, p7, p8, p9, p10, p12, pa11, bv11⟩ K hK
      simp only [fr, Act.put, List.setIfInBounds_toArray, List.set_cons_zero, List.set_cons_succ, updO] at hK ⊢
      simp [Region.binds] at hd
      have g1 := p1 (by simp [hd])
      have g3 := p3 (by simp [hd])
      rw [if_pos (by rfl)]
      simp only [Oper.wpv]
      go_simp
      exact hK _ _ ⟨A, hb, p0, p1, p2, p3, fun _ => rfl, p5, p6, p7, p8, p9, p10, p12, pa11, bv11⟩
    · rintro L T u hd hk hcl ⟨A, hb, p0, p1, p2, p3, p4, p5, p6, p7, p8, p9, p10, p12, pa11, bv11⟩ K hK
      simp only [fr, Act.put, List.setIfInBounds_toArray, List.set_cons_zero, List.set_cons_succ, updO] at hK ⊢
      simp [Region.binds] at hd
      have g4 := p4 (by simp [hd])
      rw [if_pos (by rfl)]
      simp only [Oper.wpv]
      go_simp
      exact hK _ _ ⟨A, hb, p0, p1, p2, p3, p4, fun _ => rfl, p6, p7, p8, p9, p10, p12, pa11, bv11⟩
    · rintro L T u hd hk hcl ⟨A, hb, p0, p1, p2, p3, p4, p5, p6, p7, p8, p9, p10, p12, pa11, bv11⟩ K hK
      simp only [fr, Act.put, List.setIfInBounds_toArray, List.set_cons_zero, List.set_cons_succ, updO] at hK ⊢
      simp [Region.binds] at hd
      rw [if_pos (by rfl)]
      simp only [Oper.wpv]
      go_simp
      exact hK _ _ ⟨A, hb, p0, p1, p2, p3, p4, p5, fun _ => rfl, p7, p8, p9, p10, p12, pa11, bv11⟩
    · rintro L T u hd hk hcl ⟨A, hb, p0, p1, p2, p3, p4, p5, p6, p7, p8, p9, p10, p12, pa11, bv11⟩ K hK
      simp only [fr, Act.put, List.setIfInBounds_toArray, List.set_cons_zero, List.set_cons_succ, updO] at hK ⊢
      simp [Region.binds] at hd
      have g6 := p6 (by simp [hd])
      obtain ⟨x0, x1⟩ := KC.out u hb
      rw [if_pos (by rfl)]
      simp only [Oper.wpv]
      go_simp
      exact hK _ _ ⟨A, hb, p0, p1, p2, p3, p4, p5, p6, fun _ => rfl, p8, p9, p10, p12, pa11, bv11⟩
    · rintro L T u hd hk hcl ⟨A, hb, p0, p1, p2, p3, p4, p5, p6, p7, p8, p9, p10, p12, pa11, bv11⟩ K hK
      simp only [fr, Act.put, List.setIfInBounds_toArray, List.set_cons_zero, List.set_cons_succ, updO] at hK ⊢
      simp [Region.binds] at hd
      have g7 := p7 (by simp [hd])
      rw [if_pos (by rfl)]
      simp only [Oper.wpv]
      go_simp
      exact hK _ _ ⟨A, hb, p0, p1, p2, p3, p4, p5, p6, p7, fun _ => rfl, p9, p10, p12, pa11, bv11⟩
    · rintro L T u hd hk hcl ⟨A, hb, p0, p1, p2, p3, p4, p5, p6, p7, p8, p9, p10, p12, pa11, bv11⟩ K hK
      simp only [fr, Act.put, List.setIfInBounds_toArray, List.set_cons_zero, List.set_cons_succ, updO] at hK ⊢
      simp [Region.binds] at hd
      rw [if_pos (by rfl)]
      simp only [Oper.wpv]
      go_simp
      exact hK _ _ ⟨A, hb, p0, p1, p2, p3, p4, p5, p6, p7, p8, fun _ => rfl, p10, p12, pa11, bv11⟩
    · rintro L T u hd hk hcl ⟨A, hb, p0, p1, p2, p3, p4, p5, p6, p7, p8, p9, p10, p12, pa11, bv11⟩ K hK
      simp only [fr, Act.put, List.setIfInBounds_toArray, List.set_cons_zero, List.set_cons_succ, updO] at hK ⊢
      simp [Region.binds] at hd
      rw [if_pos (by rfl)]
      simp only [Oper.wpv]
      go_simp
      exact hK _ _ ⟨A, hb, p0, p1, p2, p3, p4, p5, p6, p7, p8, p9, fun _ => rfl, p12, pa11, bv11⟩
    · rintro L T u hd hk hcl ⟨A, hb, p0, p1, p2, p3, p4, p5, p6, p7, p8, p9, p10, p12, pa11, bv11⟩ K hK
      simp only [fr, Act.put, List.setIfInBounds_toArray, List.set_cons_zero, List.set_cons_succ, updO] at hK ⊢
      simp [Region.binds] at hd
      have g5 := p5 (by simp [hd])
      have g8 := p8 (by simp [hd])
      have g9 := p9 (by simp [hd])
      have g10 := p10 (by simp [hd])
      have k12 := hcl 12 _ rfl
      simp [Region.binds] at k12
      have hg : Below u.heap.size u (u.alloc (.cells #[.int .i64 4, .int .i64 (nx + PN), .int .i64 0, .int .i64 0, .int .i64 0, .int .i64 2, .int .i64 nx, .int .i64 0, .int .i64 1, .int .i64 0, .int .i64 5, .int .i64 0, .int .i64 0, .int .i64 0, .int .i64 0, .int .i64 3, .int .i64 1048576, .int .i64 0, .int .i64 1, .int .i64 0] 43)) := (Below.refl _ _).alloc (Nat.le_refl _) _
      rw [if_pos (by rfl)]
      simp only [Oper.wpv]
      go_simp
      exact hK _ _ ⟨u.heap.size, (nT hb hg), p0, p1, p2, p3, p4, p5, p6, p7, p8, p9, p10, fun h => absurd (show L 12 = true from h) (by intro hh; have a12 := k12 hh; simp [hk] at a12), fun _ => ⟨rfl, hb.size, by simp⟩, fun _ => boxn_new u #[.int .i64 4, .int .i64 (nx + PN), .int .i64 0, .int .i64 0, .int .i64 0, .int .i64 2, .int .i64 nx, .int .i64 0, .int .i64 1, .int .i64 0, .int .i64 5, .int .i64 0, .int .i64 0, .int .i64 0, .int .i64 0, .int .i64 3, .int .i64 1048576, .int .i64 0, .int .i64 1, .int .i64 0] 43 20 rfl⟩
    · rintro L T u hd hk hcl ⟨A, hb, p0, p1, p2, p3, p4, p5, p6, p7, p8, p9, p10, p12, pa11, bv11⟩ K hK
      simp only [fr, Act.put, List.setIfInBounds_toArray, List.set_cons_zero, List.set_cons_succ, updO] at hK ⊢
      simp [Region.binds] at hd
      have g11 := pa11 (by simp [hd])
      rw [if_pos (by rfl)]
      simp only [Oper.wpv]
      go_simp
      exact hK _ _ ⟨A, hb, p0, p1, p2, p3, p4, p5, p6, p7, p8, p9, p10, fun _ => rfl, pa11, bv11⟩
  · rintro L T u hl ⟨A, hb, p0, p1, p2, p3, p4, p5, p6, p7, p8, p9, p10, p12, pa11, bv11⟩
    simp only [fr, Act.put, List.setIfInBounds_toArray, List.set_cons_zero, List.set_cons_succ]
    have hPa := pa11 (hl 11 (by decide))
    have lb := bv11 (hl 11 (by decide))
    have h12 := p12 (hl 12 (by decide))
    clear p0 p1 p2 p3 p4 p5 p6 p7 p8 p9 p10 p12 pa11 bv11 KC
    obtain ⟨hA1, hA2, hA3⟩ := hPa
    rw [h12]
    clear hA1 h12
    replace cb := cb.below hb cb.lt
    replace dbx := dbx.below hb dbx.lt
    replace bw := bw.trans (hb.mono bw.size)
    replace hDk := hDk.below hb
    replace hlab := hlab.below hb
    rcases (show PW = 0 ∨ PW = 1 ∨ PW = 2 ∨ PW = 3 by omega) with hPW0 | hPW0 | hPW0 | hPW0
    · subst hPW0
      have q0 : u.cell? ⟨A, 0, none⟩ = some (.int .i64 4) := (lb.c 0 (by decide)).1
      have q1 : u.cell? ⟨A, 1, none⟩ = some (.int .i64 (nx + PN)) := (lb.c 1 (by decide)).1
      have q2 : u.cell? ⟨A, 2, none⟩ = some (.int .i64 0) := (lb.c 2 (by decide)).1
      have q3 : u.cell? ⟨A, 3, none⟩ = some (.int .i64 0) := (lb.c 3 (by decide)).1
      have q4 : u.cell? ⟨A, 4, none⟩ = some (.int .i64 0) := (lb.c 4 (by decide)).1
      have qz := lb.lt
      go_upto_region 5 with (go_at_call 9; refine (hPW _).mono ?_; rintro e v ⟨rfl, hv⟩; rw [hv]; clear hv)
      clear q0 q1 q2 q3 q4 qz lb hPW
      obtain ⟨X3, eX3⟩ : ∃ X : World, X = u.alloc (.cells #[.int .i64 4, .int .i64 (nx + PN), .int .i64 0, .int .i64 0, .int .i64 0] 43) := ⟨_, rfl⟩
      have xb : BoxN X3 u.heap.size 5 [.int .i64 4, .int .i64 (nx + PN), .int .i64 0, .int .i64 0, .int .i64 0] := by rw [eX3]; exact boxn_new u #[.int .i64 4, .int .i64 (nx + PN), .int .i64 0, .int .i64 0, .int .i64 0] 43 5 rfl
      have bX3 : Below u.heap.size u X3 := by rw [eX3]; exact (Below.refl _ _).alloc (Nat.le_refl _) _
      rw [← eX3]
      clear eX3
      replace cb := cb.below bX3 cb.lt
      replace dbx := dbx.below bX3 dbx.lt
      replace bw := bw.trans (bX3.mono bw.size)
      replace hDk := hDk.below bX3
      replace hlab := hlab.below bX3
      have hE0 : clErr ⟨S1, LS2, 3, 0, 0⟩ nx bs 4 = 0 := by
        unfold clErr
        rw [if_pos (rf_of hcf ⟨by show (0 : Int) ≤ 0; omega, by show (0 : Int) ≤ _; decide⟩ ⟨by show (0 : Int) ≤ 0; omega, by show (0 : Int) ≤ S1 - 1; omega⟩ HOK.out)]
        rfl
      have hE6 : clErr ⟨S1, LS2, 3, 0, 0⟩ nx bs 6 = 3 := by
        unfold clErr
        rw [if_pos (rf_of hcf ⟨by show (0 : Int) ≤ 0; omega, by show (0 : Int) ≤ _; decide⟩ ⟨by show (0 : Int) ≤ 0; omega, by show (0 : Int) ≤ S1 - 1; omega⟩ HOK.out)]
        rfl
      have HCl : Hid (Calls Tryd.prog 11 #[.agg #[.int .i64 S1, .slice (some ⟨g0, 0, none⟩) 2 2, .int .i64 3], .int .i64 0, .int .i64 0, .agg #[.int .i64 nx, .slice da N dc], .int .i64 6000, .agg #[.int .i64 4, .int .i64 (nx + PN), .int .i64 0, .int .i64 0, .int .i64 0]] X3 fun e w' => ∃ (v' : CkV) (ix' : List (Nat × Nat)) (more' : List Rw), e = .returned (.tuple #[.agg #[.int .i64 nx, .slice v'.ja N v'.jc, .slice v'.ma 0 v'.mc, .slice v'.ra 0 v'.rc, .slice v'.pa 1 v'.pc, .int .i64 0, .int .i64 0], .int .i64 0]) ∧ Live X3.heap.size w' v' ix' more' ⟨nx, bs, [], [], [⟨0, 4, (nx + PN), 0, 0, 6⟩], 0, 0⟩ ∧ Below X3.heap.size X3 w') := by
        have h1 := hDk
        have hA := ref_ans (C := ⟨S1, LS2, 3, 0, 0⟩) (nx := nx) (n := (nx + PN)) (kind := 4) (key := 0) hE0 HBS.out.2 (by decide) (idx_new HOK.out (Or.inl (by omega)))
        rw [HN.out] at h1 ⊢
        refine (call_dk S1 3 (some ⟨g0, 0, none⟩) 2 2 LS2 0 0 nx da dc bs 6000 ⟨4, (nx + PN), 0, 0, 0⟩ X3 hlab h1 HBS.out.1).mono ?_
        rintro e x ⟨v', ix', more', rfl, g1, g2⟩
        rw [hA] at g1
        exact ⟨v', ix', more', by rw [hE0, g1.turn (jl := bs.length) (ml := 0) (rl := 0) (pl := 1) rfl rfl rfl rfl rfl rfl rfl]; rfl, g1, g2⟩
      have HC6 : Hid (∀ U, IsLabs U (some ⟨g0, 0, none⟩) 2 2 LS2 → DeskAt U X1.heap.size da N dc js ix more → Calls Tryd.prog 11 #[.agg #[.int .i64 S1, .slice (some ⟨g0, 0, none⟩) 2 2, .int .i64 3], .int .i64 0, .int .i64 0, .agg #[.int .i64 nx, .slice da N dc], .int .i64 6000, .agg #[.int .i64 6, .int .i64 0, .int .i64 0, .int .i64 0, .int .i64 0]] U fun e w' => ∃ v' : CkV, e = .returned (.tuple #[v'.turn, .int .i64 3]) ∧ Below U.heap.size U w') := fun U hlU hDU => by
        rw [HN.out] at hDU ⊢
        refine (call_dk S1 3 (some ⟨g0, 0, none⟩) 2 2 LS2 0 0 nx da dc bs 6000 ⟨6, 0, 0, 0, 0⟩ U hlU hDU HBS.out.1).mono ?_
        rintro e x ⟨v', ix', more', rfl, g1, g2⟩
        exact ⟨v', by rw [hE6], g2⟩
      clear hE0 hE6
      have cb_0 : X3.cell? ⟨w1.heap.size, 0, none⟩ = some (.int .i64 S1) := (cb.c 0 (by decide)).1
      have cb_1 : X3.cell? ⟨w1.heap.size, 1, none⟩ = some (.slice (some ⟨g0, 0, none⟩) 2 2) := (cb.c 1 (by decide)).1
      have cb_2 : X3.cell? ⟨w1.heap.size, 2, none⟩ = some (.int .i64 3) := (cb.c 2 (by decide)).1
      have cb_z := cb.lt
      have dbx_0 : X3.cell? ⟨y0.heap.size, 0, none⟩ = some (.int .i64 nx) := (dbx.c 0 (by decide)).1
      have dbx_1 : X3.cell? ⟨y0.heap.size, 1, none⟩ = some (.slice da N dc) := (dbx.c 1 (by decide)).1
      have dbx_z := dbx.lt
      have xb_0 : X3.cell? ⟨u.heap.size, 0, none⟩ = some (.int .i64 4) := (xb.c 0 (by decide)).1
      have xb_1 : X3.cell? ⟨u.heap.size, 1, none⟩ = some (.int .i64 (nx + PN)) := (xb.c 1 (by decide)).1
      have xb_2 : X3.cell? ⟨u.heap.size, 2, none⟩ = some (.int .i64 0) := (xb.c 2 (by decide)).1
      have xb_3 : X3.cell? ⟨u.heap.size, 3, none⟩ = some (.int .i64 0) := (xb.c 3 (by decide)).1
      have xb_4 : X3.cell? ⟨u.heap.size, 4, none⟩ = some (.int .i64 0) := (xb.c 4 (by decide)).1
      have xb_z := xb.lt
      go_upto_region 6 with (go_at_call 11; refine HCl.out.mono ?_; rintro e y1 ⟨V, iz, mz, rfl, hLv, hb5⟩)
      clear cb_0 cb_1 cb_2 cb_z dbx_0 dbx_1 dbx_z xb_0 xb_1 xb_2 xb_3 xb_4 xb_z
      clear HCl xb
      replace cb := cb.below hb5 cb.lt
      replace dbx := dbx.below hb5 dbx.lt
      replace bw := bw.trans (hb5.mono bw.size)
      replace hDk := hDk.below hb5
      replace hlab := hlab.below hb5
      obtain ⟨X4, eX4⟩ : ∃ X : World, X = y1.alloc (.cells #[.int .i64 nx, .slice V.ja N V.jc, .slice V.ma 0 V.mc, .slice V.ra 0 V.rc, .slice V.pa 1 V.pc, .int .i64 0, .int .i64 0] 39) := ⟨_, rfl⟩
      have tb : BoxN X4 y1.heap.size 7 [.int .i64 nx, .slice V.ja N V.jc, .slice V.ma 0 V.mc, .slice V.ra 0 V.rc, .slice V.pa 1 V.pc, .int .i64 0, .int .i64 0] := by rw [eX4]; exact boxn_new y1 #[.int .i64 nx, .slice V.ja N V.jc, .slice V.ma 0 V.mc, .slice V.ra 0 V.rc, .slice V.pa 1 V.pc, .int .i64 0, .int .i64 0] 39 7 rfl
      have bX4 : Below y1.heap.size y1 X4 := by rw [eX4]; exact (Below.refl _ _).alloc (Nat.le_refl _) _
      rw [← eX4]
      clear eX4
      replace cb := cb.below bX4 cb.lt
      replace dbx := dbx.below bX4 dbx.lt
      replace bw := bw.trans (bX4.mono bw.size)
      replace hDk := hDk.below bX4
      replace hlab := hlab.below bX4
      replace hLv := hLv.below bX4
      have HC7 : Hid (Calls Tryd.prog 11 #[.agg #[.int .i64 S1, .slice (some ⟨g0, 0, none⟩) 2 2, .int .i64 3], .int .i64 0, .int .i64 0, .agg #[.int .i64 nx, .slice da N dc], .int .i64 6000, .agg #[.int .i64 6, .int .i64 0, .int .i64 0, .int .i64 0, .int .i64 0]] X4 fun e w' => ∃ v' : CkV, e = .returned (.tuple #[v'.turn, .int .i64 3]) ∧ Below X4.heap.size X4 w') := HC6.out X4 hlab hDk
      have cb_0 : X4.cell? ⟨w1.heap.size, 0, none⟩ = some (.int .i64 S1) := (cb.c 0 (by decide)).1
      have cb_1 : X4.cell? ⟨w1.heap.size, 1, none⟩ = some (.slice (some ⟨g0, 0, none⟩) 2 2) := (cb.c 1 (by decide)).1
      have cb_2 : X4.cell? ⟨w1.heap.size, 2, none⟩ = some (.int .i64 3) := (cb.c 2 (by decide)).1
      have cb_z := cb.lt
      have dbx_0 : X4.cell? ⟨y0.heap.size, 0, none⟩ = some (.int .i64 nx) := (dbx.c 0 (by decide)).1
      have dbx_1 : X4.cell? ⟨y0.heap.size, 1, none⟩ = some (.slice da N dc) := (dbx.c 1 (by decide)).1
      have dbx_z := dbx.lt
      go_upto_region 7 with (go_at_call 11; refine HC7.out.mono ?_; rintro e y2 ⟨V6, rfl, hb6⟩; simp only [CkV.turn])
      clear cb_0 cb_1 cb_2 cb_z dbx_0 dbx_1 dbx_z
      clear HC6 HC7
      replace cb := cb.below hb6 cb.lt
      replace dbx := dbx.below hb6 dbx.lt
      replace tb := tb.below hb6 tb.lt
      replace bw := bw.trans (hb6.mono bw.size)
      replace hDk := hDk.below hb6
      replace hlab := hlab.below hb6
      replace hLv := hLv.below hb6
      obtain ⟨X5, eX5⟩ : ∃ X : World, X = y2.alloc (.cells #[.int .i64 V6.next, .slice V6.ja V6.jl V6.jc, .slice V6.ma V6.ml V6.mc, .slice V6.ra V6.rl V6.rc, .slice V6.pa V6.pl V6.pc, .int .i64 V6.sure, .int .i64 V6.com] 39) := ⟨_, rfl⟩
      have tb6 : BoxN X5 y2.heap.size 7 [.int .i64 V6.next, .slice V6.ja V6.jl V6.jc, .slice V6.ma V6.ml V6.mc, .slice V6.ra V6.rl V6.rc, .slice V6.pa V6.pl V6.pc, .int .i64 V6.sure, .int .i64 V6.com] := by rw [eX5]; exact boxn_new y2 #[.int .i64 V6.next, .slice V6.ja V6.jl V6.jc, .slice V6.ma V6.ml V6.mc, .slice V6.ra V6.rl V6.rc, .slice V6.pa V6.pl V6.pc, .int .i64 V6.sure, .int .i64 V6.com] 39 7 rfl
      have bX5 : Below y2.heap.size y2 X5 := by rw [eX5]; exact (Below.refl _ _).alloc (Nat.le_refl _) _
      rw [← eX5]
      clear eX5
      replace cb := cb.below bX5 cb.lt
      replace dbx := dbx.below bX5 dbx.lt
      replace tb := tb.below bX5 tb.lt
      replace bw := bw.trans (bX5.mono bw.size)
      replace hDk := hDk.below bX5
      replace hlab := hlab.below bX5
      replace hLv := hLv.below bX5
      have hR := hLv.reps
      rw [hLv.ps.1, hLv.ps.2] at hR
      simp only [List.length_cons, List.length_nil, Nat.zero_add] at hR
      obtain ⟨rb, ro, er, zr, hrp⟩ := hR.2.2.2.2 (by decide)
      have hcp : 0 < V.pc := hR.2.1
      have p5 := hrp 0 (by decide) 5 (by decide)
      simp only [List.getD_cons_zero, RpV.cells, List.getElem?_cons_zero, List.getElem?_cons_succ, Nat.zero_mul, Nat.add_zero] at p5
      clear hrp hR
      have HSm : Hid (Calls Tryd.prog 12 #[.agg #[.int .i64 nx, .slice V.ja N V.jc], .agg #[.int .i64 nx, .slice da N dc]] X5 fun e w' => e = .returned (.bool true) ∧ Below X5.heap.size X5 w') := by
        have j3 := hLv.isJobs
        rw [hLv.js.2, ← HN.out] at j3
        exact sameDesk_eq nx V.ja N V.jc V.js da dc js X5 j3 hDk.isJobs (hLv.js.1.trans HBS.out.1.symm)
      have tb_0 : X5.cell? ⟨y1.heap.size, 0, none⟩ = some (.int .i64 nx) := (tb.c 0 (by decide)).1
      have tb_1 : X5.cell? ⟨y1.heap.size, 1, none⟩ = some (.slice V.ja N V.jc) := (tb.c 1 (by decide)).1
      have tb_2 : X5.cell? ⟨y1.heap.size, 2, none⟩ = some (.slice V.ma 0 V.mc) := (tb.c 2 (by decide)).1
      have tb_3 : X5.cell? ⟨y1.heap.size, 3, none⟩ = some (.slice V.ra 0 V.rc) := (tb.c 3 (by decide)).1
      have tb_4 : X5.cell? ⟨y1.heap.size, 4, none⟩ = some (.slice V.pa 1 V.pc) := (tb.c 4 (by decide)).1
      have tb_5 : X5.cell? ⟨y1.heap.size, 5, none⟩ = some (.int .i64 0) := (tb.c 5 (by decide)).1
      have tb_6 : X5.cell? ⟨y1.heap.size, 6, none⟩ = some (.int .i64 0) := (tb.c 6 (by decide)).1
      have tb_z := tb.lt
      have dbx_0 : X5.cell? ⟨y0.heap.size, 0, none⟩ = some (.int .i64 nx) := (dbx.c 0 (by decide)).1
      have dbx_1 : X5.cell? ⟨y0.heap.size, 1, none⟩ = some (.slice da N dc) := (dbx.c 1 (by decide)).1
      have dbx_z := dbx.lt
      rw [er] at tb_4
      clear tb tb6 dbx cb hLv hDk
      go_wp2_with (go_at_call 12; refine HSm.out.mono ?_; rintro e y4 ⟨rfl, hb7⟩)
      go_ret
      exact ⟨by simp, bw.trans (hb7.mono bw.size)⟩
    · subst hPW0
      have q0 : u.cell? ⟨A, 5, none⟩ = some (.int .i64 2) := (lb.c 5 (by decide)).1
      have q1 : u.cell? ⟨A, 6, none⟩ = some (.int .i64 nx) := (lb.c 6 (by decide)).1
      have q2 : u.cell? ⟨A, 7, none⟩ = some (.int .i64 0) := (lb.c 7 (by decide)).1
      have q3 : u.cell? ⟨A, 8, none⟩ = some (.int .i64 1) := (lb.c 8 (by decide)).1
      have q4 : u.cell? ⟨A, 9, none⟩ = some (.int .i64 0) := (lb.c 9 (by decide)).1
      have qz := lb.lt
      go_upto_region 5 with (go_at_call 9; refine (hPW _).mono ?_; rintro e v ⟨rfl, hv⟩; rw [hv]; clear hv)
      clear q0 q1 q2 q3 q4 qz lb hPW
      obtain ⟨X3, eX3⟩ : ∃ X : World, X = u.alloc (.cells #[.int .i64 2, .int .i64 nx, .int .i64 0, .int .i64 1, .int .i64 0] 43) := ⟨_, rfl⟩
      have xb : BoxN X3 u.heap.size 5 [.int .i64 2, .int .i64 nx, .int .i64 0, .int .i64 1, .int .i64 0] := by rw [eX3]; exact boxn_new u #[.int .i64 2, .int .i64 nx, .int .i64 0, .int .i64 1, .int .i64 0] 43 5 rfl
      have bX3 : Below u.heap.size u X3 := by rw [eX3]; exact (Below.refl _ _).alloc (Nat.le_refl _) _
      rw [← eX3]
      clear eX3
      replace cb := cb.below bX3 cb.lt
      replace dbx := dbx.below bX3 dbx.lt
      replace bw := bw.trans (bX3.mono bw.size)
      replace hDk := hDk.below bX3
      replace hlab := hlab.below bX3
      have hE0 : clErr ⟨S1, LS2, 3, 0, 0⟩ nx bs 2 = 0 := by
        unfold clErr
        rw [if_pos (rf_of hcf ⟨by show (0 : Int) ≤ 0; omega, by show (0 : Int) ≤ _; decide⟩ ⟨by show (0 : Int) ≤ 0; omega, by show (0 : Int) ≤ S1 - 1; omega⟩ HOK.out)]
        rfl
      have hE6 : clErr ⟨S1, LS2, 3, 0, 0⟩ nx bs 6 = 3 := by
        unfold clErr
        rw [if_pos (rf_of hcf ⟨by show (0 : Int) ≤ 0; omega, by show (0 : Int) ≤ _; decide⟩ ⟨by show (0 : Int) ≤ 0; omega, by show (0 : Int) ≤ S1 - 1; omega⟩ HOK.out)]
        rfl
      have HCl : Hid (Calls Tryd.prog 11 #[.agg #[.int .i64 S1, .slice (some ⟨g0, 0, none⟩) 2 2, .int .i64 3], .int .i64 0, .int .i64 0, .agg #[.int .i64 nx, .slice da N dc], .int .i64 6000, .agg #[.int .i64 2, .int .i64 nx, .int .i64 0, .int .i64 1, .int .i64 0]] X3 fun e w' => ∃ (v' : CkV) (ix' : List (Nat × Nat)) (more' : List Rw), e = .returned (.tuple #[.agg #[.int .i64 nx, .slice v'.ja N v'.jc, .slice v'.ma 0 v'.mc, .slice v'.ra 0 v'.rc, .slice v'.pa 1 v'.pc, .int .i64 0, .int .i64 0], .int .i64 0]) ∧ Live X3.heap.size w' v' ix' more' ⟨nx, bs, [], [], [⟨0, 2, nx, 1, 0, 6⟩], 0, 0⟩ ∧ Below X3.heap.size X3 w') := by
        have h1 := hDk
        have hA := ref_ans (C := ⟨S1, LS2, 3, 0, 0⟩) (nx := nx) (n := nx) (kind := 2) (key := 1) hE0 HBS.out.2 (by decide) (idx_new HOK.out (Or.inl (Int.le_refl _)))
        rw [HN.out] at h1 ⊢
        refine (call_dk S1 3 (some ⟨g0, 0, none⟩) 2 2 LS2 0 0 nx da dc bs 6000 ⟨2, nx, 0, 1, 0⟩ X3 hlab h1 HBS.out.1).mono ?_
        rintro e x ⟨v', ix', more', rfl, g1, g2⟩
        rw [hA] at g1
        exact ⟨v', ix', more', by rw [hE0, g1.turn (jl := bs.length) (ml := 0) (rl := 0) (pl := 1) rfl rfl rfl rfl rfl rfl rfl]; rfl, g1, g2⟩
      have HC6 : Hid (∀ U, IsLabs U (some ⟨g0, 0, none⟩) 2 2 LS2 → DeskAt U X1.heap.size da N dc js ix more → Calls Tryd.prog 11 #[.agg #[.int .i64 S1, .slice (some ⟨g0, 0, none⟩) 2 2, .int .i64 3], .int .i64 0, .int .i64 0, .agg #[.int .i64 nx, .slice da N dc], .int .i64 6000, .agg #[.int .i64 6, .int .i64 0, .int .i64 0, .int .i64 0, .int .i64 0]] U fun e w' => ∃ v' : CkV, e = .returned (.tuple #[v'.turn, .int .i64 3]) ∧ Below U.heap.size U w') := fun U hlU hDU => by
        rw [HN.out] at hDU ⊢
        refine (call_dk S1 3 (some ⟨g0, 0, none⟩) 2 2 LS2 0 0 nx da dc bs 6000 ⟨6, 0, 0, 0, 0⟩ U hlU hDU HBS.out.1).mono ?_
        rintro e x ⟨v', ix', more', rfl, g1, g2⟩
        exact ⟨v', by rw [hE6], g2⟩
      clear hE0 hE6
      have cb_0 : X3.cell? ⟨w1.heap.size, 0, none⟩ = some (.int .i64 S1) := (cb.c 0 (by decide)).1
      have cb_1 : X3.cell? ⟨w1.heap.size, 1, none⟩ = some (.slice (some ⟨g0, 0, none⟩) 2 2) := (cb.c 1 (by decide)).1
      have cb_2 : X3.cell? ⟨w1.heap.size, 2, none⟩ = some (.int .i64 3) := (cb.c 2 (by decide)).1
      have cb_z := cb.lt
      have dbx_0 : X3.cell? ⟨y0.heap.size, 0, none⟩ = some (.int .i64 nx) := (dbx.c 0 (by decide)).1
      have dbx_1 : X3.cell? ⟨y0.heap.size, 1, none⟩ = some (.slice da N dc) := (dbx.c 1 (by decide)).1
      have dbx_z := dbx.lt
      have xb_0 : X3.cell? ⟨u.heap.size, 0, none⟩ = some (.int .i64 2) := (xb.c 0 (by decide)).1
      have xb_1 : X3.cell? ⟨u.heap.size, 1, none⟩ = some (.int .i64 nx) := (xb.c 1 (by decide)).1
      have xb_2 : X3.cell? ⟨u.heap.size, 2, none⟩ = some (.int .i64 0) := (xb.c 2 (by decide)).1
      have xb_3 : X3.cell? ⟨u.heap.size, 3, none⟩ = some (.int .i64 1) := (xb.c 3 (by decide)).1
      have xb_4 : X3.cell? ⟨u.heap.size, 4, none⟩ = some (.int .i64 0) := (xb.c 4 (by decide)).1
      have xb_z := xb.lt
      go_upto_region 6 with (go_at_call 11; refine HCl.out.mono ?_; rintro e y1 ⟨V, iz, mz, rfl, hLv, hb5⟩)
      clear cb_0 cb_1 cb_2 cb_z dbx_0 dbx_1 dbx_z xb_0 xb_1 xb_2 xb_3 xb_4 xb_z
      clear HCl xb
      replace cb := cb.below hb5 cb.lt
      replace dbx := dbx.below hb5 dbx.lt
      replace bw := bw.trans (hb5.mono bw.size)
      replace hDk := hDk.below hb5
      replace hlab := hlab.below hb5
      obtain ⟨X4, eX4⟩ : ∃ X : World, X = y1.alloc (.cells #[.int .i64 nx, .slice V.ja N V.jc, .slice V.ma 0 V.mc, .slice V.ra 0 V.rc, .slice V.pa 1 V.pc, .int .i64 0, .int .i64 0] 39) := ⟨_, rfl⟩
      have tb : BoxN X4 y1.heap.size 7 [.int .i64 nx, .slice V.ja N V.jc, .slice V.ma 0 V.mc, .slice V.ra 0 V.rc, .slice V.pa 1 V.pc, .int .i64 0, .int .i64 0] := by rw [eX4]; exact boxn_new y1 #[.int .i64 nx, .slice V.ja N V.jc, .slice V.ma 0 V.mc, .slice V.ra 0 V.rc, .slice V.pa 1 V.pc, .int .i64 0, .int .i64 0] 39 7 rfl
      have bX4 : Below y1.heap.size y1 X4 := by rw [eX4]; exact (Below.refl _ _).alloc (Nat.le_refl _) _
      rw [← eX4]
      clear eX4
      replace cb := cb.below bX4 cb.lt
      replace dbx := dbx.below bX4 dbx.lt
      replace bw := bw.trans (bX4.mono bw.size)
      replace hDk := hDk.below bX4
      replace hlab := hlab.below bX4
      replace hLv := hLv.below bX4
      have HC7 : Hid (Calls Tryd.prog 11 #[.agg #[.int .i64 S1, .slice (some ⟨g0, 0, none⟩) 2 2, .int .i64 3], .int .i64 0, .int .i64 0, .agg #[.int .i64 nx, .slice da N dc], .int .i64 6000, .agg #[.int .i64 6, .int .i64 0, .int .i64 0, .int .i64 0, .int .i64 0]] X4 fun e w' => ∃ v' : CkV, e = .returned (.tuple #[v'.turn, .int .i64 3]) ∧ Below X4.heap.size X4 w') := HC6.out X4 hlab hDk
      have cb_0 : X4.cell? ⟨w1.heap.size, 0, none⟩ = some (.int .i64 S1) := (cb.c 0 (by decide)).1
      have cb_1 : X4.cell? ⟨w1.heap.size, 1, none⟩ = some (.slice (some ⟨g0, 0, none⟩) 2 2) := (cb.c 1 (by decide)).1
      have cb_2 : X4.cell? ⟨w1.heap.size, 2, none⟩ = some (.int .i64 3) := (cb.c 2 (by decide)).1
      have cb_z := cb.lt
      have dbx_0 : X4.cell? ⟨y0.heap.size, 0, none⟩ = some (.int .i64 nx) := (dbx.c 0 (by decide)).1
      have dbx_1 : X4.cell? ⟨y0.heap.size, 1, none⟩ = some (.slice da N dc) := (dbx.c 1 (by decide)).1
      have dbx_z := dbx.lt
      go_upto_region 7 with (go_at_call 11; refine HC7.out.mono ?_; rintro e y2 ⟨V6, rfl, hb6⟩; simp only [CkV.turn])
      clear cb_0 cb_1 cb_2 cb_z dbx_0 dbx_1 dbx_z
      clear HC6 HC7
      replace cb := cb.below hb6 cb.lt
      replace dbx := dbx.below hb6 dbx.lt
      replace tb := tb.below hb6 tb.lt
      replace bw := bw.trans (hb6.mono bw.size)
      replace hDk := hDk.below hb6
      replace hlab := hlab.below hb6
      replace hLv := hLv.below hb6
      obtain ⟨X5, eX5⟩ : ∃ X : World, X = y2.alloc (.cells #[.int .i64 V6.next, .slice V6.ja V6.jl V6.jc, .slice V6.ma V6.ml V6.mc, .slice V6.ra V6.rl V6.rc, .slice V6.pa V6.pl V6.pc, .int .i64 V6.sure, .int .i64 V6.com] 39) := ⟨_, rfl⟩
      have tb6 : BoxN X5 y2.heap.size 7 [.int .i64 V6.next, .slice V6.ja V6.jl V6.jc, .slice V6.ma V6.ml V6.mc, .slice V6.ra V6.rl V6.rc, .slice V6.pa V6.pl V6.pc, .int .i64 V6.sure, .int .i64 V6.com] := by rw [eX5]; exact boxn_new y2 #[.int .i64 V6.next, .slice V6.ja V6.jl V6.jc, .slice V6.ma V6.ml V6.mc, .slice V6.ra V6.rl V6.rc, .slice V6.pa V6.pl V6.pc, .int .i64 V6.sure, .int .i64 V6.com] 39 7 rfl
      have bX5 : Below y2.heap.size y2 X5 := by rw [eX5]; exact (Below.refl _ _).alloc (Nat.le_refl _) _
      rw [← eX5]
      clear eX5
      replace cb := cb.below bX5 cb.lt
      replace dbx := dbx.below bX5 dbx.lt
      replace tb := tb.below bX5 tb.lt
      replace bw := bw.trans (bX5.mono bw.size)
      replace hDk := hDk.below bX5
      replace hlab := hlab.below bX5
      replace hLv := hLv.below bX5
      have hR := hLv.reps
      rw [hLv.ps.1, hLv.ps.2] at hR
      simp only [List.length_cons, List.length_nil, Nat.zero_add] at hR
      obtain ⟨rb, ro, er, zr, hrp⟩ := hR.2.2.2.2 (by decide)
      have hcp : 0 < V.pc := hR.2.1
      have p5 := hrp 0 (by decide) 5 (by decide)
      simp only [List.getD_cons_zero, RpV.cells, List.getElem?_cons_zero, List.getElem?_cons_succ, Nat.zero_mul, Nat.add_zero] at p5
      clear hrp hR
      have HSm : Hid (Calls Tryd.prog 12 #[.agg #[.int .i64 nx, .slice V.ja N V.jc], .agg #[.int .i64 nx, .slice da N dc]] X5 fun e w' => e = .returned (.bool true) ∧ Below X5.heap.size X5 w') := by
        have j3 := hLv.isJobs
        rw [hLv.js.2, ← HN.out] at j3
        exact sameDesk_eq nx V.ja N V.jc V.js da dc js X5 j3 hDk.isJobs (hLv.js.1.trans HBS.out.1.symm)
      have tb_0 : X5.cell? ⟨y1.heap.size, 0, none⟩ = some (.int .i64 nx) := (tb.c 0 (by decide)).1
      have tb_1 : X5.cell? ⟨y1.heap.size, 1, none⟩ = some (.slice V.ja N V.jc) := (tb.c 1 (by decide)).1
      have tb_2 : X5.cell? ⟨y1.heap.size, 2, none⟩ = some (.slice V.ma 0 V.mc) := (tb.c 2 (by decide)).1
      have tb_3 : X5.cell? ⟨y1.heap.size, 3, none⟩ = some (.slice V.ra 0 V.rc) := (tb.c 3 (by decide)).1
      have tb_4 : X5.cell? ⟨y1.heap.size, 4, none⟩ = some (.slice V.pa 1 V.pc) := (tb.c 4 (by decide)).1
      have tb_5 : X5.cell? ⟨y1.heap.size, 5, none⟩ = some (.int .i64 0) := (tb.c 5 (by decide)).1
      have tb_6 : X5.cell? ⟨y1.heap.size, 6, none⟩ = some (.int .i64 0) := (tb.c 6 (by decide)).1
      have tb_z := tb.lt
      have dbx_0 : X5.cell? ⟨y0.heap.size, 0, none⟩ = some (.int .i64 nx) := (dbx.c 0 (by decide)).1
      have dbx_1 : X5.cell? ⟨y0.heap.size, 1, none⟩ = some (.slice da N dc) := (dbx.c 1 (by decide)).1
      have dbx_z := dbx.lt
      rw [er] at tb_4
      clear tb tb6 dbx cb hLv hDk
      go_wp2_with (go_at_call 12; refine HSm.out.mono ?_; rintro e y4 ⟨rfl, hb7⟩)
      go_ret
      exact ⟨by simp, bw.trans (hb7.mono bw.size)⟩
    · subst hPW0
      have q0 : u.cell? ⟨A, 10, none⟩ = some (.int .i64 5) := (lb.c 10 (by decide)).1
      have q1 : u.cell? ⟨A, 11, none⟩ = some (.int .i64 0) := (lb.c 11 (by decide)).1
      have q2 : u.cell? ⟨A, 12, none⟩ = some (.int .i64 0) := (lb.c 12 (by decide)).1
      have q3 : u.cell? ⟨A, 13, none⟩ = some (.int .i64 0) := (lb.c 13 (by decide)).1
      have q4 : u.cell? ⟨A, 14, none⟩ = some (.int .i64 0) := (lb.c 14 (by decide)).1
      have qz := lb.lt
      go_upto_region 5 with (go_at_call 9; refine (hPW _).mono ?_; rintro e v ⟨rfl, hv⟩; rw [hv]; clear hv)
      clear q0 q1 q2 q3 q4 qz lb hPW
      obtain ⟨X3, eX3⟩ : ∃ X : World, X = u.alloc (.cells #[.int .i64 5, .int .i64 0, .int .i64 0, .int .i64 0, .int .i64 0] 43) := ⟨_, rfl⟩
      have xb : BoxN X3 u.heap.size 5 [.int .i64 5, .int .i64 0, .int .i64 0, .int .i64 0, .int .i64 0] := by rw [eX3]; exact boxn_new u #[.int .i64 5, .int .i64 0, .int .i64 0, .int .i64 0, .int .i64 0] 43 5 rfl
      have bX3 : Below u.heap.size u X3 := by rw [eX3]; exact (Below.refl _ _).alloc (Nat.le_refl _) _
      rw [← eX3]
      clear eX3
      replace cb := cb.below bX3 cb.lt
      replace dbx := dbx.below bX3 dbx.lt
      replace bw := bw.trans (bX3.mono bw.size)
      replace hDk := hDk.below bX3
      replace hlab := hlab.below bX3
      have hE0 : clErr ⟨S1, LS2, 3, 0, 0⟩ nx bs 5 = 0 := by
        unfold clErr
        rw [if_pos (rf_of hcf ⟨by show (0 : Int) ≤ 0; omega, by show (0 : Int) ≤ _; decide⟩ ⟨by show (0 : Int) ≤ 0; omega, by show (0 : Int) ≤ S1 - 1; omega⟩ HOK.out)]
        rfl
      have hE6 : clErr ⟨S1, LS2, 3, 0, 0⟩ nx bs 6 = 3 := by
        unfold clErr
        rw [if_pos (rf_of hcf ⟨by show (0 : Int) ≤ 0; omega, by show (0 : Int) ≤ _; decide⟩ ⟨by show (0 : Int) ≤ 0; omega, by show (0 : Int) ≤ S1 - 1; omega⟩ HOK.out)]
        rfl
      have HCl : Hid (Calls Tryd.prog 11 #[.agg #[.int .i64 S1, .slice (some ⟨g0, 0, none⟩) 2 2, .int .i64 3], .int .i64 0, .int .i64 0, .agg #[.int .i64 nx, .slice da N dc], .int .i64 6000, .agg #[.int .i64 5, .int .i64 0, .int .i64 0, .int .i64 0, .int .i64 0]] X3 fun e w' => ∃ (v' : CkV) (ix' : List (Nat × Nat)) (more' : List Rw), e = .returned (.tuple #[.agg #[.int .i64 nx, .slice v'.ja N v'.jc, .slice v'.ma 0 v'.mc, .slice v'.ra 0 v'.rc, .slice v'.pa 1 v'.pc, .int .i64 0, .int .i64 0], .int .i64 0]) ∧ Live X3.heap.size w' v' ix' more' ⟨nx, bs, [], [], [⟨0, 5, 0, 0, 0, 6⟩], 0, 0⟩ ∧ Below X3.heap.size X3 w') := by
        have h1 := hDk
        have hA := ref_ans (C := ⟨S1, LS2, 3, 0, 0⟩) (nx := nx) (n := 0) (kind := 5) (key := 0) hE0 HBS.out.2 (by decide) (idx_new HOK.out (Or.inr (by omega)))
        rw [HN.out] at h1 ⊢
        refine (call_dk S1 3 (some ⟨g0, 0, none⟩) 2 2 LS2 0 0 nx da dc bs 6000 ⟨5, 0, 0, 0, 0⟩ X3 hlab h1 HBS.out.1).mono ?_
        rintro e x ⟨v', ix', more', rfl, g1, g2⟩
        rw [hA] at g1
        exact ⟨v', ix', more', by rw [hE0, g1.turn (jl := bs.length) (ml := 0) (rl := 0) (pl := 1) rfl rfl rfl rfl rfl rfl rfl]; rfl, g1, g2⟩
      have HC6 : Hid (∀ U, IsLabs U (some ⟨g0, 0, none⟩) 2 2 LS2 → DeskAt U X1.heap.size da N dc js ix more → Calls Tryd.prog 11 #[.agg #[.int .i64 S1, .slice (some ⟨g0, 0, none⟩) 2 2, .int .i64 3], .int .i64 0, .int .i64 0, .agg #[.int .i64 nx, .slice da N dc], .int .i64 6000, .agg #[.int .i64 6, .int .i64 0, .int .i64 0, .int .i64 0, .int .i64 0]] U fun e w' => ∃ v' : CkV, e = .returned (.tuple #[v'.turn, .int .i64 3]) ∧ Below U.heap.size U w') := fun U hlU hDU => by
        rw [HN.out] at hDU ⊢
        refine (call_dk S1 3 (some ⟨g0, 0, none⟩) 2 2 LS2 0 0 nx da dc bs 6000 ⟨6, 0, 0, 0, 0⟩ U hlU hDU HBS.out.1).mono ?_
        rintro e x ⟨v', ix', more', rfl, g1, g2⟩
        exact ⟨v', by rw [hE6], g2⟩
      clear hE0 hE6
      have cb_0 : X3.cell? ⟨w1.heap.size, 0, none⟩ = some (.int .i64 S1) := (cb.c 0 (by decide)).1
      have cb_1 : X3.cell? ⟨w1.heap.size, 1, none⟩ = some (.slice (some ⟨g0, 0, none⟩) 2 2) := (cb.c 1 (by decide)).1
      have cb_2 : X3.cell? ⟨w1.heap.size, 2, none⟩ = some (.int .i64 3) := (cb.c 2 (by decide)).1
      have cb_z := cb.lt
      have dbx_0 : X3.cell? ⟨y0.heap.size, 0, none⟩ = some (.int .i64 nx) := (dbx.c 0 (by decide)).1
      have dbx_1 : X3.cell? ⟨y0.heap.size, 1, none⟩ = some (.slice da N dc) := (dbx.c 1 (by decide)).1
      have dbx_z := dbx.lt
      have xb_0 : X3.cell? ⟨u.heap.size, 0, none⟩ = some (.int .i64 5) := (xb.c 0 (by decide)).1
      have xb_1 : X3.cell? ⟨u.heap.size, 1, none⟩ = some (.int .i64 0) := (xb.c 1 (by decide)).1
      have xb_2 : X3.cell? ⟨u.heap.size, 2, none⟩ = some (.int .i64 0) := (xb.c 2 (by decide)).1
      have xb_3 : X3.cell? ⟨u.heap.size, 3, none⟩ = some (.int .i64 0) := (xb.c 3 (by decide)).1
      have xb_4 : X3.cell? ⟨u.heap.size, 4, none⟩ = some (.int .i64 0) := (xb.c 4 (by decide)).1
      have xb_z := xb.lt
      go_upto_region 6 with (go_at_call 11; refine HCl.out.mono ?_; rintro e y1 ⟨V, iz, mz, rfl, hLv, hb5⟩)
      clear cb_0 cb_1 cb_2 cb_z dbx_0 dbx_1 dbx_z xb_0 xb_1 xb_2 xb_3 xb_4 xb_z
      clear HCl xb
      replace cb := cb.below hb5 cb.lt
      replace dbx := dbx.below hb5 dbx.lt
      replace bw := bw.trans (hb5.mono bw.size)
      replace hDk := hDk.below hb5
      replace hlab := hlab.below hb5
      obtain ⟨X4, eX4⟩ : ∃ X : World, X = y1.alloc (.cells #[.int .i64 nx, .slice V.ja N V.jc, .slice V.ma 0 V.mc, .slice V.ra 0 V.rc, .slice V.pa 1 V.pc, .int .i64 0, .int .i64 0] 39) := ⟨_, rfl⟩
      have tb : BoxN X4 y1.heap.size 7 [.int .i64 nx, .slice V.ja N V.jc, .slice V.ma 0 V.mc, .slice V.ra 0 V.rc, .slice V.pa 1 V.pc, .int .i64 0, .int .i64 0] := by rw [eX4]; exact boxn_new y1 #[.int .i64 nx, .slice V.ja N V.jc, .slice V.ma 0 V.mc, .slice V.ra 0 V.rc, .slice V.pa 1 V.pc, .int .i64 0, .int .i64 0] 39 7 rfl
      have bX4 : Below y1.heap.size y1 X4 := by rw [eX4]; exact (Below.refl _ _).alloc (Nat.le_refl _) _
      rw [← eX4]
      clear eX4
      replace cb := cb.below bX4 cb.lt
      replace dbx := dbx.below bX4 dbx.lt
      replace bw := bw.trans (bX4.mono bw.size)
      replace hDk := hDk.below bX4
      replace hlab := hlab.below bX4
      replace hLv := hLv.below bX4
      have HC7 : Hid (Calls Tryd.prog 11 #[.agg #[.int .i64 S1, .slice (some ⟨g0, 0, none⟩) 2 2, .int .i64 3], .int .i64 0, .int .i64 0, .agg #[.int .i64 nx, .slice da N dc], .int .i64 6000, .agg #[.int .i64 6, .int .i64 0, .int .i64 0, .int .i64 0, .int .i64 0]] X4 fun e w' => ∃ v' : CkV, e = .returned (.tuple #[v'.turn, .int .i64 3]) ∧ Below X4.heap.size X4 w') := HC6.out X4 hlab hDk
      have cb_0 : X4.cell? ⟨w1.heap.size, 0, none⟩ = some (.int .i64 S1) := (cb.c 0 (by decide)).1
      have cb_1 : X4.cell? ⟨w1.heap.size, 1, none⟩ = some (.slice (some ⟨g0, 0, none⟩) 2 2) := (cb.c 1 (by decide)).1
      have cb_2 : X4.cell? ⟨w1.heap.size, 2, none⟩ = some (.int .i64 3) := (cb.c 2 (by decide)).1
      have cb_z := cb.lt
      have dbx_0 : X4.cell? ⟨y0.heap.size, 0, none⟩ = some (.int .i64 nx) := (dbx.c 0 (by decide)).1
      have dbx_1 : X4.cell? ⟨y0.heap.size, 1, none⟩ = some (.slice da N dc) := (dbx.c 1 (by decide)).1
      have dbx_z := dbx.lt
      go_upto_region 7 with (go_at_call 11; refine HC7.out.mono ?_; rintro e y2 ⟨V6, rfl, hb6⟩; simp only [CkV.turn])
      clear cb_0 cb_1 cb_2 cb_z dbx_0 dbx_1 dbx_z
      clear HC6 HC7
      replace cb := cb.below hb6 cb.lt
      replace dbx := dbx.below hb6 dbx.lt
      replace tb := tb.below hb6 tb.lt
      replace bw := bw.trans (hb6.mono bw.size)
      replace hDk := hDk.below hb6
      replace hlab := hlab.below hb6
      replace hLv := hLv.below hb6
      obtain ⟨X5, eX5⟩ : ∃ X : World, X = y2.alloc (.cells #[.int .i64 V6.next, .slice V6.ja V6.jl V6.jc, .slice V6.ma V6.ml V6.mc, .slice V6.ra V6.rl V6.rc, .slice V6.pa V6.pl V6.pc, .int .i64 V6.sure, .int .i64 V6.com] 39) := ⟨_, rfl⟩
      have tb6 : BoxN X5 y2.heap.size 7 [.int .i64 V6.next, .slice V6.ja V6.jl V6.jc, .slice V6.ma V6.ml V6.mc, .slice V6.ra V6.rl V6.rc, .slice V6.pa V6.pl V6.pc, .int .i64 V6.sure, .int .i64 V6.com] := by rw [eX5]; exact boxn_new y2 #[.int .i64 V6.next, .slice V6.ja V6.jl V6.jc, .slice V6.ma V6.ml V6.mc, .slice V6.ra V6.rl V6.rc, .slice V6.pa V6.pl V6.pc, .int .i64 V6.sure, .int .i64 V6.com] 39 7 rfl
      have bX5 : Below y2.heap.size y2 X5 := by rw [eX5]; exact (Below.refl _ _).alloc (Nat.le_refl _) _
      rw [← eX5]
      clear eX5
      replace cb := cb.below bX5 cb.lt
      replace dbx := dbx.below bX5 dbx.lt
      replace tb := tb.below bX5 tb.lt
      replace bw := bw.trans (bX5.mono bw.size)
      replace hDk := hDk.below bX5
      replace hlab := hlab.below bX5
      replace hLv := hLv.below bX5
      have hR := hLv.reps
      rw [hLv.ps.1, hLv.ps.2] at hR
      simp only [List.length_cons, List.length_nil, Nat.zero_add] at hR
      obtain ⟨rb, ro, er, zr, hrp⟩ := hR.2.2.2.2 (by decide)
      have hcp : 0 < V.pc := hR.2.1
      have p5 := hrp 0 (by decide) 5 (by decide)
      simp only [List.getD_cons_zero, RpV.cells, List.getElem?_cons_zero, List.getElem?_cons_succ, Nat.zero_mul, Nat.add_zero] at p5
      clear hrp hR
      have HSm : Hid (Calls Tryd.prog 12 #[.agg #[.int .i64 nx, .slice V.ja N V.jc], .agg #[.int .i64 nx, .slice da N dc]] X5 fun e w' => e = .returned (.bool true) ∧ Below X5.heap.size X5 w') := by
        have j3 := hLv.isJobs
        rw [hLv.js.2, ← HN.out] at j3
        exact sameDesk_eq nx V.ja N V.jc V.js da dc js X5 j3 hDk.isJobs (hLv.js.1.trans HBS.out.1.symm)
      have tb_0 : X5.cell? ⟨y1.heap.size, 0, none⟩ = some (.int .i64 nx) := (tb.c 0 (by decide)).1
      have tb_1 : X5.cell? ⟨y1.heap.size, 1, none⟩ = some (.slice V.ja N V.jc) := (tb.c 1 (by decide)).1
      have tb_2 : X5.cell? ⟨y1.heap.size, 2, none⟩ = some (.slice V.ma 0 V.mc) := (tb.c 2 (by decide)).1
      have tb_3 : X5.cell? ⟨y1.heap.size, 3, none⟩ = some (.slice V.ra 0 V.rc) := (tb.c 3 (by decide)).1
      have tb_4 : X5.cell? ⟨y1.heap.size, 4, none⟩ = some (.slice V.pa 1 V.pc) := (tb.c 4 (by decide)).1
      have tb_5 : X5.cell? ⟨y1.heap.size, 5, none⟩ = some (.int .i64 0) := (tb.c 5 (by decide)).1
      have tb_6 : X5.cell? ⟨y1.heap.size, 6, none⟩ = some (.int .i64 0) := (tb.c 6 (by decide)).1
      have tb_z := tb.lt
      have dbx_0 : X5.cell? ⟨y0.heap.size, 0, none⟩ = some (.int .i64 nx) := (dbx.c 0 (by decide)).1
      have dbx_1 : X5.cell? ⟨y0.heap.size, 1, none⟩ = some (.slice da N dc) := (dbx.c 1 (by decide)).1
      have dbx_z := dbx.lt
      rw [er] at tb_4
      clear tb tb6 dbx cb hLv hDk
      go_wp2_with (go_at_call 12; refine HSm.out.mono ?_; rintro e y4 ⟨rfl, hb7⟩)
      go_ret
      exact ⟨by simp, bw.trans (hb7.mono bw.size)⟩
    · subst hPW0
      have q0 : u.cell? ⟨A, 15, none⟩ = some (.int .i64 3) := (lb.c 15 (by decide)).1
      have q1 : u.cell? ⟨A, 16, none⟩ = some (.int .i64 1048576) := (lb.c 16 (by decide)).1
      have q2 : u.cell? ⟨A, 17, none⟩ = some (.int .i64 0) := (lb.c 17 (by decide)).1
      have q3 : u.cell? ⟨A, 18, none⟩ = some (.int .i64 1) := (lb.c 18 (by decide)).1
      have q4 : u.cell? ⟨A, 19, none⟩ = some (.int .i64 0) := (lb.c 19 (by decide)).1
      have qz := lb.lt
      go_upto_region 5 with (go_at_call 9; refine (hPW _).mono ?_; rintro e v ⟨rfl, hv⟩; rw [hv]; clear hv)
      clear q0 q1 q2 q3 q4 qz lb hPW
      obtain ⟨X3, eX3⟩ : ∃ X : World, X = u.alloc (.cells #[.int .i64 3, .int .i64 1048576, .int .i64 0, .int .i64 1, .int .i64 0] 43) := ⟨_, rfl⟩
      have xb : BoxN X3 u.heap.size 5 [.int .i64 3, .int .i64 1048576, .int .i64 0, .int .i64 1, .int .i64 0] := by rw [eX3]; exact boxn_new u #[.int .i64 3, .int .i64 1048576, .int .i64 0, .int .i64 1, .int .i64 0] 43 5 rfl
      have bX3 : Below u.heap.size u X3 := by rw [eX3]; exact (Below.refl _ _).alloc (Nat.le_refl _) _
      rw [← eX3]
      clear eX3
      replace cb := cb.below bX3 cb.lt
      replace dbx := dbx.below bX3 dbx.lt
      replace bw := bw.trans (bX3.mono bw.size)
      replace hDk := hDk.below bX3
      replace hlab := hlab.below bX3
      have hE0 : clErr ⟨S1, LS2, 3, 0, 0⟩ nx bs 3 = 0 := by
        unfold clErr
        rw [if_pos (rf_of hcf ⟨by show (0 : Int) ≤ 0; omega, by show (0 : Int) ≤ _; decide⟩ ⟨by show (0 : Int) ≤ 0; omega, by show (0 : Int) ≤ S1 - 1; omega⟩ HOK.out)]
        rfl
      have hE6 : clErr ⟨S1, LS2, 3, 0, 0⟩ nx bs 6 = 3 := by
        unfold clErr
        rw [if_pos (rf_of hcf ⟨by show (0 : Int) ≤ 0; omega, by show (0 : Int) ≤ _; decide⟩ ⟨by show (0 : Int) ≤ 0; omega, by show (0 : Int) ≤ S1 - 1; omega⟩ HOK.out)]
        rfl
      have HCl : Hid (Calls Tryd.prog 11 #[.agg #[.int .i64 S1, .slice (some ⟨g0, 0, none⟩) 2 2, .int .i64 3], .int .i64 0, .int .i64 0, .agg #[.int .i64 nx, .slice da N dc], .int .i64 6000, .agg #[.int .i64 3, .int .i64 1048576, .int .i64 0, .int .i64 1, .int .i64 0]] X3 fun e w' => ∃ (v' : CkV) (ix' : List (Nat × Nat)) (more' : List Rw), e = .returned (.tuple #[.agg #[.int .i64 nx, .slice v'.ja N v'.jc, .slice v'.ma 0 v'.mc, .slice v'.ra 0 v'.rc, .slice v'.pa 1 v'.pc, .int .i64 0, .int .i64 0], .int .i64 0]) ∧ Live X3.heap.size w' v' ix' more' ⟨nx, bs, [], [], [⟨0, 3, 1048576, 1, 0, 6⟩], 0, 0⟩ ∧ Below X3.heap.size X3 w') := by
        have h1 := hDk
        have hA := ref_ans (C := ⟨S1, LS2, 3, 0, 0⟩) (nx := nx) (n := 1048576) (kind := 3) (key := 1) hE0 HBS.out.2 (by decide) (idx_new HOK.out (Or.inl (by omega)))
        rw [HN.out] at h1 ⊢
        refine (call_dk S1 3 (some ⟨g0, 0, none⟩) 2 2 LS2 0 0 nx da dc bs 6000 ⟨3, 1048576, 0, 1, 0⟩ X3 hlab h1 HBS.out.1).mono ?_
        rintro e x ⟨v', ix', more', rfl, g1, g2⟩
        rw [hA] at g1
        exact ⟨v', ix', more', by rw [hE0, g1.turn (jl := bs.length) (ml := 0) (rl := 0) (pl := 1) rfl rfl rfl rfl rfl rfl rfl]; rfl, g1, g2⟩
      have HC6 : Hid (∀ U, IsLabs U (some ⟨g0, 0, none⟩) 2 2 LS2 → DeskAt U X1.heap.size da N dc js ix more → Calls Tryd.prog 11 #[.agg #[.int .i64 S1, .slice (some ⟨g0, 0, none⟩) 2 2, .int .i64 3], .int .i64 0, .int .i64 0, .agg #[.int .i64 nx, .slice da N dc], .int .i64 6000, .agg #[.int .i64 6, .int .i64 0, .int .i64 0, .int .i64 0, .int .i64 0]] U fun e w' => ∃ v' : CkV, e = .returned (.tuple #[v'.turn, .int .i64 3]) ∧ Below U.heap.size U w') := fun U hlU hDU => by
        rw [HN.out] at hDU ⊢
        refine (call_dk S1 3 (some ⟨g0, 0, none⟩) 2 2 LS2 0 0 nx da dc bs 6000 ⟨6, 0, 0, 0, 0⟩ U hlU hDU HBS.out.1).mono ?_
        rintro e x ⟨v', ix', more', rfl, g1, g2⟩
        exact ⟨v', by rw [hE6], g2⟩
      clear hE0 hE6
      have cb_0 : X3.cell? ⟨w1.heap.size, 0, none⟩ = some (.int .i64 S1) := (cb.c 0 (by decide)).1
      have cb_1 : X3.cell? ⟨w1.heap.size, 1, none⟩ = some (.slice (some ⟨g0, 0, none⟩) 2 2) := (cb.c 1 (by decide)).1
      have cb_2 : X3.cell? ⟨w1.heap.size, 2, none⟩ = some (.int .i64 3) := (cb.c 2 (by decide)).1
      have cb_z := cb.lt
      have dbx_0 : X3.cell? ⟨y0.heap.size, 0, none⟩ = some (.int .i64 nx) := (dbx.c 0 (by decide)).1
      have dbx_1 : X3.cell? ⟨y0.heap.size, 1, none⟩ = some (.slice da N dc) := (dbx.c 1 (by decide)).1
      have dbx_z := dbx.lt
      have xb_0 : X3.cell? ⟨u.heap.size, 0, none⟩ = some (.int .i64 3) := (xb.c 0 (by decide)).1
      have xb_1 : X3.cell? ⟨u.heap.size, 1, none⟩ = some (.int .i64 1048576) := (xb.c 1 (by decide)).1
      have xb_2 : X3.cell? ⟨u.heap.size, 2, none⟩ = some (.int .i64 0) := (xb.c 2 (by decide)).1
      have xb_3 : X3.cell? ⟨u.heap.size, 3, none⟩ = some (.int .i64 1) := (xb.c 3 (by decide)).1
      have xb_4 : X3.cell? ⟨u.heap.size, 4, none⟩ = some (.int .i64 0) := (xb.c 4 (by decide)).1
      have xb_z := xb.lt
      go_upto_region 6 with (go_at_call 11; refine HCl.out.mono ?_; rintro e y1 ⟨V, iz, mz, rfl, hLv, hb5⟩)
      clear cb_0 cb_1 cb_2 cb_z dbx_0 dbx_1 dbx_z xb_0 xb_1 xb_2 xb_3 xb_4 xb_z
      clear HCl xb
      replace cb := cb.below hb5 cb.lt
      replace dbx := dbx.below hb5 dbx.lt
      replace bw := bw.trans (hb5.mono bw.size)
      replace hDk := hDk.below hb5
      replace hlab := hlab.below hb5
      obtain ⟨X4, eX4⟩ : ∃ X : World, X = y1.alloc (.cells #[.int .i64 nx, .slice V.ja N V.jc, .slice V.ma 0 V.mc, .slice V.ra 0 V.rc, .slice V.pa 1 V.pc, .int .i64 0, .int .i64 0] 39) := ⟨_, rfl⟩
      have tb : BoxN X4 y1.heap.size 7 [.int .i64 nx, .slice V.ja N V.jc, .slice V.ma 0 V.mc, .slice V.ra 0 V.rc, .slice V.pa 1 V.pc, .int .i64 0, .int .i64 0] := by rw [eX4]; exact boxn_new y1 #[.int .i64 nx, .slice V.ja N V.jc, .slice V.ma 0 V.mc, .slice V.ra 0 V.rc, .slice V.pa 1 V.pc, .int .i64 0, .int .i64 0] 39 7 rfl
      have bX4 : Below y1.heap.size y1 X4 := by rw [eX4]; exact (Below.refl _ _).alloc (Nat.le_refl _) _
      rw [← eX4]
      clear eX4
      replace cb := cb.below bX4 cb.lt
      replace dbx := dbx.below bX4 dbx.lt
      replace bw := bw.trans (bX4.mono bw.size)
      replace hDk := hDk.below bX4
      replace hlab := hlab.below bX4
      replace hLv := hLv.below bX4
      have HC7 : Hid (Calls Tryd.prog 11 #[.agg #[.int .i64 S1, .slice (some ⟨g0, 0, none⟩) 2 2, .int .i64 3], .int .i64 0, .int .i64 0, .agg #[.int .i64 nx, .slice da N dc], .int .i64 6000, .agg #[.int .i64 6, .int .i64 0, .int .i64 0, .int .i64 0, .int .i64 0]] X4 fun e w' => ∃ v' : CkV, e = .returned (.tuple #[v'.turn, .int .i64 3]) ∧ Below X4.heap.size X4 w') := HC6.out X4 hlab hDk
      have cb_0 : X4.cell? ⟨w1.heap.size, 0, none⟩ = some (.int .i64 S1) := (cb.c 0 (by decide)).1
      have cb_1 : X4.cell? ⟨w1.heap.size, 1, none⟩ = some (.slice (some ⟨g0, 0, none⟩) 2 2) := (cb.c 1 (by decide)).1
      have cb_2 : X4.cell? ⟨w1.heap.size, 2, none⟩ = some (.int .i64 3) := (cb.c 2 (by decide)).1
      have cb_z := cb.lt
      have dbx_0 : X4.cell? ⟨y0.heap.size, 0, none⟩ = some (.int .i64 nx) := (dbx.c 0 (by decide)).1
      have dbx_1 : X4.cell? ⟨y0.heap.size, 1, none⟩ = some (.slice da N dc) := (dbx.c 1 (by decide)).1
      have dbx_z := dbx.lt
      go_upto_region 7 with (go_at_call 11; refine HC7.out.mono ?_; rintro e y2 ⟨V6, rfl, hb6⟩; simp only [CkV.turn])
      clear cb_0 cb_1 cb_2 cb_z dbx_0 dbx_1 dbx_z
      clear HC6 HC7
      replace cb := cb.below hb6 cb.lt
      replace dbx := dbx.below hb6 dbx.lt
      replace tb := tb.below hb6 tb.lt
      replace bw := bw.trans (hb6.mono bw.size)
      replace hDk := hDk.below hb6
      replace hlab := hlab.below hb6
      replace hLv := hLv.below hb6
      obtain ⟨X5, eX5⟩ : ∃ X : World, X = y2.alloc (.cells #[.int .i64 V6.next, .slice V6.ja V6.jl V6.jc, .slice V6.ma V6.ml V6.mc, .slice V6.ra V6.rl V6.rc, .slice V6.pa V6.pl V6.pc, .int .i64 V6.sure, .int .i64 V6.com] 39) := ⟨_, rfl⟩
      have tb6 : BoxN X5 y2.heap.size 7 [.int .i64 V6.next, .slice V6.ja V6.jl V6.jc, .slice V6.ma V6.ml V6.mc, .slice V6.ra V6.rl V6.rc, .slice V6.pa V6.pl V6.pc, .int .i64 V6.sure, .int .i64 V6.com] := by rw [eX5]; exact boxn_new y2 #[.int .i64 V6.next, .slice V6.ja V6.jl V6.jc, .slice V6.ma V6.ml V6.mc, .slice V6.ra V6.rl V6.rc, .slice V6.pa V6.pl V6.pc, .int .i64 V6.sure, .int .i64 V6.com] 39 7 rfl
      have bX5 : Below y2.heap.size y2 X5 := by rw [eX5]; exact (Below.refl _ _).alloc (Nat.le_refl _) _
      rw [← eX5]
      clear eX5
      replace cb := cb.below bX5 cb.lt
      replace dbx := dbx.below bX5 dbx.lt
      replace tb := tb.below bX5 tb.lt
      replace bw := bw.trans (bX5.mono bw.size)
      replace hDk := hDk.below bX5
      replace hlab := hlab.below bX5
      replace hLv := hLv.below bX5
      have hR := hLv.reps
      rw [hLv.ps.1, hLv.ps.2] at hR
      simp only [List.length_cons, List.length_nil, Nat.zero_add] at hR
      obtain ⟨rb, ro, er, zr, hrp⟩ := hR.2.2.2.2 (by decide)
      have hcp : 0 < V.pc := hR.2.1
      have p5 := hrp 0 (by decide) 5 (by decide)
      simp only [List.getD_cons_zero, RpV.cells, List.getElem?_cons_zero, List.getElem?_cons_succ, Nat.zero_mul, Nat.add_zero] at p5
      clear hrp hR
      have HSm : Hid (Calls Tryd.prog 12 #[.agg #[.int .i64 nx, .slice V.ja N V.jc], .agg #[.int .i64 nx, .slice da N dc]] X5 fun e w' => e = .returned (.bool true) ∧ Below X5.heap.size X5 w') := by
        have j3 := hLv.isJobs
        rw [hLv.js.2, ← HN.out] at j3
        exact sameDesk_eq nx V.ja N V.jc V.js da dc js X5 j3 hDk.isJobs (hLv.js.1.trans HBS.out.1.symm)
      have tb_0 : X5.cell? ⟨y1.heap.size, 0, none⟩ = some (.int .i64 nx) := (tb.c 0 (by decide)).1
      have tb_1 : X5.cell? ⟨y1.heap.size, 1, none⟩ = some (.slice V.ja N V.jc) := (tb.c 1 (by decide)).1
      have tb_2 : X5.cell? ⟨y1.heap.size, 2, none⟩ = some (.slice V.ma 0 V.mc) := (tb.c 2 (by decide)).1
      have tb_3 : X5.cell? ⟨y1.heap.size, 3, none⟩ = some (.slice V.ra 0 V.rc) := (tb.c 3 (by decide)).1
      have tb_4 : X5.cell? ⟨y1.heap.size, 4, none⟩ = some (.slice V.pa 1 V.pc) := (tb.c 4 (by decide)).1
      have tb_5 : X5.cell? ⟨y1.heap.size, 5, none⟩ = some (.int .i64 0) := (tb.c 5 (by decide)).1
      have tb_6 : X5.cell? ⟨y1.heap.size, 6, none⟩ = some (.int .i64 0) := (tb.c 6 (by decide)).1
      have tb_z := tb.lt
      have dbx_0 : X5.cell? ⟨y0.heap.size, 0, none⟩ = some (.int .i64 nx) := (dbx.c 0 (by decide)).1
      have dbx_1 : X5.cell? ⟨y0.heap.size, 1, none⟩ = some (.slice da N dc) := (dbx.c 1 (by decide)).1
      have dbx_z := dbx.lt
      rw [er] at tb_4
      clear tb tb6 dbx cb hLv hDk
      go_wp2_with (go_at_call 12; refine HSm.out.mono ?_; rintro e y4 ⟨rfl, hb7⟩)
      go_ret
      exact ⟨by simp, bw.trans (hb7.mono bw.size)⟩
end Go.Proofs.YtdjnaahkcnklhaaDoor.Co
/- What the listed tables of package wire hold, cell by cell, out of their reading as data. -/
namespace Go.Proofs.YtdjnaahkcnklhaaDoor
open Go.ChangeShapes Go.WideShapes Go.ChangeAt Go.RowKit

def bRow {H : Type} (bs : List Bool) : DataW H := .agg (bs.map fun b => .lit (.bool b))
def bTab {H : Type} (tb : List (List Bool)) : DataW H := .agg (tb.map bRow)

section
variable {H : Type} {enc : TypeId × Value → H} {W : World} {base : Nat} {sp : Nat → Bool} {held : Bool}

theorem c1b : Tryd.prog.cellsOf 4 = 1 := by kernel_rfl
theorem c8b : Tryd.prog.cellsOf 131 = 8 := by kernel_rfl

theorem row_of {fuel : Nat} {cs : List Value} {bs : List Bool} {p : List MemPlace} (hb : bs.length = 8) (h : DataW.trod enc Tryd.prog W base sp held fuel 131 cs = some (bRow bs, p)) (j : Nat) (hj : j < 8) : cs[j]? = some (.bool (bs.getD j false)) := by
  obtain ⟨xs, m, rfl, hx, hl, hn, hel⟩ := DataW.trod_array Tryd.underlying131 h
  have hxs : xs.map (·.1) = bs.map fun b => (DataW.lit (.bool b) : DataW H) := by
    have := congrArg Prod.fst hx
    simpa [bRow] using this.symm
  have h1 := hel j hj
  rw [c1b, List.getElem?_eq_getElem (by omega)] at h1
  obtain ⟨b, hc, hx1⟩ := DataW.trod_bool Tryd.underlying4 h1
  have e1 : cs[j]? = some (.bool b) := by
    have := congrArg (·[0]?) hc
    simpa [List.getElem?_take, List.getElem?_drop] using this
  have e2 : (xs.map (·.1))[j]? = some (DataW.lit (.bool b) : DataW H) := by
    rw [List.getElem?_map, List.getElem?_eq_getElem (by omega), hx1]; rfl
  rw [hxs] at e2
  have hjb : j < bs.length := by omega
  simp [hjb] at e2
  rw [e1]
  simp [List.getD, hjb, e2]

theorem tab_of {fuel n : Nat} {t : TypeId} {cs : List Value} {tb : List (List Bool)} {p : List MemPlace} (ht : Tryd.prog.underlying t = some (.array n 131)) (hn : tb.length = n) (hb : ∀ i, i < n → (tb.getD i []).length = 8) (h : DataW.trod enc Tryd.prog W base sp held fuel t cs = some (bTab tb, p)) (i j : Nat) (hi : i < n) (hj : j < 8) : cs[i * 8 + j]? = some (.bool ((tb.getD i []).getD j false)) := by
  obtain ⟨xs, m, rfl, hx, hl, hlen, hel⟩ := DataW.trod_array ht h
  have hxs : xs.map (·.1) = tb.map bRow := by
    have := congrArg Prod.fst hx
    simpa [bTab] using this.symm
  have h1 := hel i hi
  rw [c8b, List.getElem?_eq_getElem (by omega)] at h1
  have e2 : (xs.map (·.1))[i]? = (tb.map (bRow (H := H)))[i]? := by rw [hxs]
  have hit : i < tb.length := by omega
  have hix : i < xs.length := by omega
  simp [hix, hit] at e2
  obtain ⟨d, q, hxi⟩ : ∃ d q, xs[i] = (d, q) := ⟨_, _, rfl⟩
  have e3 : d = bRow (tb.getD i []) := by
    rw [hxi] at e2
    simp [List.getD, hit]
    exact e2
  rw [hxi, e3] at h1
  have := row_of (hb i hi) h1 j hj
  rw [List.getElem?_take, if_pos hj, List.getElem?_drop] at this
  exact this

theorem has_of {fuel n g : Nat} {t : TypeId} {cs : Array Value} {tb : List (List Bool)} {p : List MemPlace} {name : String} (hg : Tryd.prog.globalNamed name = some g) (hv : W.var? Tryd.prog name = some cs) (ht : Tryd.prog.underlying t = some (.array n 131)) (hn : tb.length = n) (hb : ∀ i, i < n → (tb.getD i []).length = 8)
    (h : DataW.trod enc Tryd.prog W base sp held fuel t cs.toList = some (bTab tb, p)) : HasAt W g tb := by
  intro i j hi hj
  rw [World.var?_cell hg hv, ← Array.getElem?_toList]
  exact tab_of ht hn hb h i j (by omega) hj

theorem mHas_rows : ∀ i, i < 10 → (mHas.getD i []).length = 8 := by decide
theorem rHas_rows : ∀ i, i < 7 → (rHas.getD i []).length = 8 := by decide

theorem tops_of {fuel : Nat} {cs : Array Value} {p : List MemPlace} {name : String} (hg : Tryd.prog.globalNamed name = some 1) (hv : W.var? Tryd.prog name = some cs)
    (h : DataW.trod enc Tryd.prog W base sp held fuel 124 cs.toList = some (Lib.tabData .i64 topL, p)) : TopsAt W := by
  have e := Lib.cells_of_tab Tryd.underlying124 Tryd.underlying3 (by kernel_rfl) (by kernel_rfl) h
  have c : ∀ i, W.cell? ⟨1, i, none⟩ = (topL.map fun z => Value.int .i64 z)[i]? := by
    intro i
    rw [World.var?_cell hg hv, ← Array.getElem?_toList, e]
  unfold TopsAt
  simp only [c]
  simp [topL]
end
end Go.Proofs.YtdjnaahkcnklhaaDoor
