/- The walk of the law NetTakes: at any config, lists and numbers it returns true and leaves what was in memory. -/
import Derived.Test.YtpkbklhjpaaiiaaDoorNTakenOk
import Derived.Test.YtpkbklhjpaaiiaaDoorNSame
import Derived.OpenShut
import Derived.Test.YtpkbklhjpaaiiaaDoorNetSendsWalk
namespace Go.Proofs.YtpkbklhjpaaiiaaDoor.Nt
open Go.ChangeShapes Go.WideShapes Go.ChangeAt Go.RowKit
set_option linter.unusedVariables false
theorem mss_take {s : Int} {ls : List (Int × Int)} {p : Int} {fs gs : List FL} (h : mss gs = mss fs) (f t pick kind : Int) : takeErr s ls p gs f t pick kind = takeErr s ls p fs f t pick kind := by
  unfold takeErr
  rw [mss_fault h, h]
end Go.Proofs.YtpkbklhjpaaiiaaDoor.Nt
namespace Go.Proofs.YtpkbklhjpaaiiaaDoor
open Go.ChangeShapes Go.WideShapes Go.ChangeAt Go.RowKit
set_option linter.unusedVariables false

set_option maxRecDepth 100000 in
set_option maxHeartbeats 4000000 in
theorem netTakes_walk (s : Int) (a : Option Addr) (len cap : Nat) (p : Int) (ls : List (Int × Int)) (fa : Option Addr) (fl fc : Nat) (fs : List Nt.FL) (f t pick kind : Int) (w : World) (_ : (Lit.int .i64 s).wf = true) (h : IsLabs w a len cap ls) (_ : (Lit.int .i64 p).wf = true) (hL : Nt.IsFly w fa fl fc fs) (hby : fl * 24 ≤ 140737488351232 ∧ ∀ f ∈ fs, f.len * 96 ≤ 140737488351232) (_ : (Lit.int .i64 f).wf = true) (_ : (Lit.int .i64 t).wf = true) (hpw : (Lit.int .i64 pick).wf = true) (_ : (Lit.int .i64 kind).wf = true) (hm : HasAt w 0 mHas) (ht : TopsAt w) :
    Calls Tryd.prog 5 #[.agg #[.int .i64 s, .slice a len cap, .int .i64 p], .slice fa fl fc, .int .i64 f, .int .i64 t, .int .i64 pick, .int .i64 kind] w fun e w' => e = .returned (.bool true) ∧ Below w.heap.size w w' := by
  have hpk : pick ≤ 9223372036854775807 := (bounds_i64 hpw).2
  obtain ⟨hby, hbs⟩ := hby
  have hgT : 1 < w.heap.size := World.block_lt_of_cell? w _ ht.1
  have hgM : 0 < w.heap.size := hm.lt (by decide)
  have HCP : Hid (∀ w', Nt.IsFly w' fa fl fc fs → Calls Tryd.prog 8 #[.slice fa fl fc] w' fun e w'' => ∃ a' c' gs, e = .returned (.slice a' fl c') ∧ Nt.OwnFly w'' w'.heap.size (.slice a' fl c') gs ∧ Nt.mss gs = Nt.mss fs ∧ Below w'.heap.size w' w'') := fun w' h' => Nt.flyingCopy_any fa fl fc fs w' h' hby hbs
  obtain ⟨W, hW⟩ : ∃ W : World, W = w.alloc (.cells #[.int .i64 s, .slice a len cap, .int .i64 p] 24) := ⟨_, rfl⟩
  have hB : Below w.heap.size w W := by rw [hW]; exact (Below.refl _ _).alloc (Nat.le_refl _) _
  have z0 : w.heap.size < W.heap.size := by rw [hW]; simp
  have c0 : W.cell? ⟨w.heap.size, 0, none⟩ = some (.int .i64 s) := by rw [hW]; go_simp
  have c1 : W.cell? ⟨w.heap.size, 1, none⟩ = some (.slice a len cap) := by rw [hW]; go_simp
  have c2 : W.cell? ⟨w.heap.size, 2, none⟩ = some (.int .i64 p) := by rw [hW]; go_simp
  have KA : Hid (∀ U : World, Below W.heap.size W U → U.cell? ⟨w.heap.size, 0, none⟩ = some (.int .i64 s) ∧ U.cell? ⟨w.heap.size, 1, none⟩ = some (.slice a len cap) ∧ U.cell? ⟨w.heap.size, 2, none⟩ = some (.int .i64 p)) := fun U hU =>
    ⟨(hU.cell (p := ⟨w.heap.size, 0, none⟩) z0).trans c0, (hU.cell (p := ⟨w.heap.size, 1, none⟩) z0).trans c1, (hU.cell (p := ⟨w.heap.size, 2, none⟩) z0).trans c2⟩
  have HS : Hid (∀ U : World, Below W.heap.size W U → IsLabs U a len cap ls ∧ Nt.IsFly U fa fl fc fs ∧ HasAt U 0 mHas ∧ TopsAt U) := fun U hU => by
    have hv := hB.trans (hU.mono hB.size)
    exact ⟨h.below hv, hL.below hv, hm.below hv hgM, ht.below hv hgT⟩
  have hfW := (HS.out W (Below.refl _ _)).2.1
  have HBS : Hid (∀ f ∈ fs, f.len * 96 ≤ 140737488351232) := hbs
  clear h hL hm ht hbs
  go_enter Tryd.func5, Tryd.ntmps5
  go_upto_region 1 with (fail)
  rw [← hW]
  clear hW
  go_upto_region 2 with (go_at_call 8; refine (HCP.out _ hfW).mono ?_; rintro e w1 ⟨ka, kc, ks, rfl, hOk, hks, hb1⟩)
  have HK : Hid (Nt.mss ks = Nt.mss fs) := hks
  clear hks c0 c1 c2
  obtain ⟨d0, d1, d2⟩ := KA.out _ hb1
  obtain ⟨x1, _, x4, x5⟩ := HS.out _ hb1
  have hTk := Nt.take_any s p a len cap ls ka fl kc ks f t pick kind w1 hpk x1 hOk.isFly.2.1 x4 x5
  unfold Nt.TakeAns at hTk
  rw [Nt.mss_take HK.out, HK.out] at hTk
  clear x1 x4 x5
  by_cases hE : Nt.takeErr s ls p fs f t pick kind = 0
  · have HTO : Hid (∀ w', IsLabs w' a len cap ls → Nt.IsFly w' fa fl fc fs → _) := fun w' h1 h2 => Nt.takenOf_ok s p a len cap ls fa fl fc fs f t pick kind w' hpk h1 h2 hby HBS.out hE
    have hTO := HTO.out
    rw [hE] at hTk
    simp only [if_true] at hTk
    obtain ⟨m, em⟩ : ∃ m, m = (Nt.atWay s (Nt.mss fs) f t).getD (pick.toNat % (Nt.atWay s (Nt.mss fs) f t).length) default := ⟨_, rfl⟩
    rw [← em] at hTk hTO
    obtain ⟨ll, ell⟩ : ∃ ll, ll = Nt.takenL s (Nt.mss fs) f t kind (pick.toNat % (Nt.atWay s (Nt.mss fs) f t).length) := ⟨_, rfl⟩
    rw [← ell] at hTk hTO
    clear em ell HTO
    obtain ⟨t0, t1, t2, t3, t4, t5, t6, t7, t8, t9, t10, t11⟩ := m
    simp only [MV.val] at hTk hTO
    go_upto_region 3 with (go_at_call 12; refine hTk.mono ?_; rintro e w2 ⟨⟨g2, gs2, rfl, hO2, hm2⟩, hb2⟩)
    obtain ⟨V, hV⟩ : ∃ V : World, V = w2.alloc (.cells #[.int .i64 t0, .int .i64 t1, .int .i64 t2, .int .i64 t3, .int .i64 t4, .int .i64 t5, .int .i64 t6, .int .i64 t7, .int .i64 t8, .int .i64 t9, .bool t10, .int .i64 t11] 38) := ⟨_, rfl⟩
    have hbV : Below w2.heap.size w2 V := by rw [hV]; exact (Below.refl _ _).alloc (Nat.le_refl _) _
    have bx1 : Nt.BoxN V w2.heap.size 12 [.int .i64 t0, .int .i64 t1, .int .i64 t2, .int .i64 t3, .int .i64 t4, .int .i64 t5, .int .i64 t6, .int .i64 t7, .int .i64 t8, .int .i64 t9, .bool t10, .int .i64 t11] := by rw [hV]; exact Nt.boxn_new w2 #[.int .i64 t0, .int .i64 t1, .int .i64 t2, .int .i64 t3, .int .i64 t4, .int .i64 t5, .int .i64 t6, .int .i64 t7, .int .i64 t8, .int .i64 t9, .bool t10, .int .i64 t11] 38 12 rfl
    rw [← hV]
    clear hV
    have hb1V : Below w1.heap.size w1 V := hb2.trans (hbV.mono hb2.size)
    have hWV : Below W.heap.size W V := hb1.trans (hb1V.mono hb1.size)
    clear d0 d1 d2
    obtain ⟨d0, d1, d2⟩ := KA.out _ hWV
    obtain ⟨x1, x2, _, _⟩ := HS.out _ hWV
    go_upto_region 4 with (go_at_call 13; refine (hTO _ x1 x2).mono ?_; rintro e w3 ⟨a3, c3, gs3, rfl, hO3, hm3, hb3⟩)
    obtain ⟨X, hX⟩ : ∃ X : World, X = w3.alloc (.cells #[.int .i64 t0, .int .i64 t1, .int .i64 t2, .int .i64 t3, .int .i64 t4, .int .i64 t5, .int .i64 t6, .int .i64 t7, .int .i64 t8, .int .i64 t9, .bool t10, .int .i64 t11] 38) := ⟨_, rfl⟩
    have hbX : Below w3.heap.size w3 X := by rw [hX]; exact (Below.refl _ _).alloc (Nat.le_refl _) _
    have bx2 : Nt.BoxN X w3.heap.size 12 [.int .i64 t0, .int .i64 t1, .int .i64 t2, .int .i64 t3, .int .i64 t4, .int .i64 t5, .int .i64 t6, .int .i64 t7, .int .i64 t8, .int .i64 t9, .bool t10, .int .i64 t11] := by rw [hX]; exact Nt.boxn_new w3 #[.int .i64 t0, .int .i64 t1, .int .i64 t2, .int .i64 t3, .int .i64 t4, .int .i64 t5, .int .i64 t6, .int .i64 t7, .int .i64 t8, .int .i64 t9, .bool t10, .int .i64 t11] 38 12 rfl
    rw [← hX]
    clear hX
    have hVX : Below V.heap.size V X := hb3.trans (hbX.mono hb3.size)
    have bx1' := bx1.below hVX bx1.lt
    have y0 : X.cell? ⟨w2.heap.size, 0, none⟩ = some (.int .i64 t0) := (bx1'.c 0 (by omega)).1
    have z0' : X.cell? ⟨w3.heap.size, 0, none⟩ = some (.int .i64 t0) := (bx2.c 0 (by omega)).1
    have y1 : X.cell? ⟨w2.heap.size, 1, none⟩ = some (.int .i64 t1) := (bx1'.c 1 (by omega)).1
    have z1' : X.cell? ⟨w3.heap.size, 1, none⟩ = some (.int .i64 t1) := (bx2.c 1 (by omega)).1
    have y2 : X.cell? ⟨w2.heap.size, 2, none⟩ = some (.int .i64 t2) := (bx1'.c 2 (by omega)).1
    have z2' : X.cell? ⟨w3.heap.size, 2, none⟩ = some (.int .i64 t2) := (bx2.c 2 (by omega)).1
    have y3 : X.cell? ⟨w2.heap.size, 3, none⟩ = some (.int .i64 t3) := (bx1'.c 3 (by omega)).1
    have z3' : X.cell? ⟨w3.heap.size, 3, none⟩ = some (.int .i64 t3) := (bx2.c 3 (by omega)).1
    have y4 : X.cell? ⟨w2.heap.size, 4, none⟩ = some (.int .i64 t4) := (bx1'.c 4 (by omega)).1
    have z4' : X.cell? ⟨w3.heap.size, 4, none⟩ = some (.int .i64 t4) := (bx2.c 4 (by omega)).1
    have y5 : X.cell? ⟨w2.heap.size, 5, none⟩ = some (.int .i64 t5) := (bx1'.c 5 (by omega)).1
    have z5' : X.cell? ⟨w3.heap.size, 5, none⟩ = some (.int .i64 t5) := (bx2.c 5 (by omega)).1
    have y6 : X.cell? ⟨w2.heap.size, 6, none⟩ = some (.int .i64 t6) := (bx1'.c 6 (by omega)).1
    have z6' : X.cell? ⟨w3.heap.size, 6, none⟩ = some (.int .i64 t6) := (bx2.c 6 (by omega)).1
    have y7 : X.cell? ⟨w2.heap.size, 7, none⟩ = some (.int .i64 t7) := (bx1'.c 7 (by omega)).1
    have z7' : X.cell? ⟨w3.heap.size, 7, none⟩ = some (.int .i64 t7) := (bx2.c 7 (by omega)).1
    have y8 : X.cell? ⟨w2.heap.size, 8, none⟩ = some (.int .i64 t8) := (bx1'.c 8 (by omega)).1
    have z8' : X.cell? ⟨w3.heap.size, 8, none⟩ = some (.int .i64 t8) := (bx2.c 8 (by omega)).1
    have y9 : X.cell? ⟨w2.heap.size, 9, none⟩ = some (.int .i64 t9) := (bx1'.c 9 (by omega)).1
    have z9' : X.cell? ⟨w3.heap.size, 9, none⟩ = some (.int .i64 t9) := (bx2.c 9 (by omega)).1
    have y10 : X.cell? ⟨w2.heap.size, 10, none⟩ = some (.bool t10) := (bx1'.c 10 (by omega)).1
    have z10' : X.cell? ⟨w3.heap.size, 10, none⟩ = some (.bool t10) := (bx2.c 10 (by omega)).1
    have y11 : X.cell? ⟨w2.heap.size, 11, none⟩ = some (.int .i64 t11) := (bx1'.c 11 (by omega)).1
    have z11' : X.cell? ⟨w3.heap.size, 11, none⟩ = some (.int .i64 t11) := (bx2.c 11 (by omega)).1
    have hb1X : Below w1.heap.size w1 X := hb1V.trans (hVX.mono hb1V.size)
    have f1 := ((hO2.below hbV).below hVX).isFly.2.1
    have f2 := (hO3.below hbX).isFly.2.1
    have f3 := (hOk.below hb1X).isFly.2.1
    have f4 := (HS.out _ (hb1.trans (hb1X.mono hb1.size))).2.1
    have H2 : Hid (Nt.mss gs2 = Nt.mss gs3) := by show _ = _; rw [hm2, hm3]
    clear hm2 hm3 bx1 bx2 bx1' d0 d1 d2 hTk hTO
    have s1 := Nt.sameFlying_any _ _ fl fl c3 gs2 gs3 X f1 f2 (fun i _ => Nt.mss_ms H2.out i)
    have s2 := fun U (hU : Below X.heap.size X U) => Nt.sameFlying_any ka fa fl kc fc ks fs U (f3.below hU) (f4.below hU) (fun i _ => Nt.mss_ms HK.out i)
    clear f1 f2 f3 f4 x1 x2
    go_wp2_with (first | (go_at_call 11; refine s1.mono ?_; rintro e w8 ⟨rfl, hb8⟩; clear s1) | (go_at_call 11; refine (s2 _ hb8).mono ?_; rintro e w9 ⟨rfl, hb9⟩))
    go_ret
    exact ⟨rfl, hB.trans ((hb1.trans ((hb1X.trans ((hb8.trans (hb9.mono hb8.size)).mono hb1X.size)).mono hb1.size)).mono hB.size)⟩
  · have hTO := fun w' h1 h2 => Nt.takenOf_bad s p a len cap ls fa fl fc fs f t pick kind w' hpk h1 h2 hE
    simp only [if_neg hE] at hTk
    obtain ⟨C, eC⟩ : ∃ C, C = Nt.takeErr s ls p fs f t pick kind := ⟨_, rfl⟩
    rw [← eC] at hTk hTO
    clear eC hE
    go_upto_region 3 with (go_at_call 12; refine hTk.mono ?_; rintro e w2 ⟨rfl, hb2⟩)
    obtain ⟨V, hV⟩ : ∃ V : World, V = w2.alloc (.cells #[.int .i64 0, .int .i64 0, .int .i64 0, .int .i64 0, .int .i64 0, .int .i64 0, .int .i64 0, .int .i64 0, .int .i64 0, .int .i64 0, .bool false, .int .i64 0] 38) := ⟨_, rfl⟩
    have hbV : Below w2.heap.size w2 V := by rw [hV]; exact (Below.refl _ _).alloc (Nat.le_refl _) _
    have bx1 : Nt.BoxN V w2.heap.size 12 [.int .i64 0, .int .i64 0, .int .i64 0, .int .i64 0, .int .i64 0, .int .i64 0, .int .i64 0, .int .i64 0, .int .i64 0, .int .i64 0, .bool false, .int .i64 0] := by rw [hV]; exact Nt.boxn_new w2 #[.int .i64 0, .int .i64 0, .int .i64 0, .int .i64 0, .int .i64 0, .int .i64 0, .int .i64 0, .int .i64 0, .int .i64 0, .int .i64 0, .bool false, .int .i64 0] 38 12 rfl
    rw [← hV]
    clear hV
    have hb1V : Below w1.heap.size w1 V := hb2.trans (hbV.mono hb2.size)
    have hWV : Below W.heap.size W V := hb1.trans (hb1V.mono hb1.size)
    clear d0 d1 d2
    obtain ⟨d0, d1, d2⟩ := KA.out _ hWV
    obtain ⟨x1, x2, _, _⟩ := HS.out _ hWV
    go_upto_region 4 with (go_at_call 13; refine (hTO _ x1 x2).mono ?_; rintro e w3 ⟨rfl, hb3⟩)
    obtain ⟨X, hX⟩ : ∃ X : World, X = w3.alloc (.cells #[.int .i64 0, .int .i64 0, .int .i64 0, .int .i64 0, .int .i64 0, .int .i64 0, .int .i64 0, .int .i64 0, .int .i64 0, .int .i64 0, .bool false, .int .i64 0] 38) := ⟨_, rfl⟩
    have hbX : Below w3.heap.size w3 X := by rw [hX]; exact (Below.refl _ _).alloc (Nat.le_refl _) _
    have bx2 : Nt.BoxN X w3.heap.size 12 [.int .i64 0, .int .i64 0, .int .i64 0, .int .i64 0, .int .i64 0, .int .i64 0, .int .i64 0, .int .i64 0, .int .i64 0, .int .i64 0, .bool false, .int .i64 0] := by rw [hX]; exact Nt.boxn_new w3 #[.int .i64 0, .int .i64 0, .int .i64 0, .int .i64 0, .int .i64 0, .int .i64 0, .int .i64 0, .int .i64 0, .int .i64 0, .int .i64 0, .bool false, .int .i64 0] 38 12 rfl
    rw [← hX]
    clear hX
    have hVX : Below V.heap.size V X := hb3.trans (hbX.mono hb3.size)
    have bx1' := bx1.below hVX bx1.lt
    have y0 : X.cell? ⟨w2.heap.size, 0, none⟩ = some (.int .i64 0) := (bx1'.c 0 (by omega)).1
    have z0' : X.cell? ⟨w3.heap.size, 0, none⟩ = some (.int .i64 0) := (bx2.c 0 (by omega)).1
    have y1 : X.cell? ⟨w2.heap.size, 1, none⟩ = some (.int .i64 0) := (bx1'.c 1 (by omega)).1
    have z1' : X.cell? ⟨w3.heap.size, 1, none⟩ = some (.int .i64 0) := (bx2.c 1 (by omega)).1
    have y2 : X.cell? ⟨w2.heap.size, 2, none⟩ = some (.int .i64 0) := (bx1'.c 2 (by omega)).1
    have z2' : X.cell? ⟨w3.heap.size, 2, none⟩ = some (.int .i64 0) := (bx2.c 2 (by omega)).1
    have y3 : X.cell? ⟨w2.heap.size, 3, none⟩ = some (.int .i64 0) := (bx1'.c 3 (by omega)).1
    have z3' : X.cell? ⟨w3.heap.size, 3, none⟩ = some (.int .i64 0) := (bx2.c 3 (by omega)).1
    have y4 : X.cell? ⟨w2.heap.size, 4, none⟩ = some (.int .i64 0) := (bx1'.c 4 (by omega)).1
    have z4' : X.cell? ⟨w3.heap.size, 4, none⟩ = some (.int .i64 0) := (bx2.c 4 (by omega)).1
    have y5 : X.cell? ⟨w2.heap.size, 5, none⟩ = some (.int .i64 0) := (bx1'.c 5 (by omega)).1
    have z5' : X.cell? ⟨w3.heap.size, 5, none⟩ = some (.int .i64 0) := (bx2.c 5 (by omega)).1
    have y6 : X.cell? ⟨w2.heap.size, 6, none⟩ = some (.int .i64 0) := (bx1'.c 6 (by omega)).1
    have z6' : X.cell? ⟨w3.heap.size, 6, none⟩ = some (.int .i64 0) := (bx2.c 6 (by omega)).1
    have y7 : X.cell? ⟨w2.heap.size, 7, none⟩ = some (.int .i64 0) := (bx1'.c 7 (by omega)).1
    have z7' : X.cell? ⟨w3.heap.size, 7, none⟩ = some (.int .i64 0) := (bx2.c 7 (by omega)).1
    have y8 : X.cell? ⟨w2.heap.size, 8, none⟩ = some (.int .i64 0) := (bx1'.c 8 (by omega)).1
    have z8' : X.cell? ⟨w3.heap.size, 8, none⟩ = some (.int .i64 0) := (bx2.c 8 (by omega)).1
    have y9 : X.cell? ⟨w2.heap.size, 9, none⟩ = some (.int .i64 0) := (bx1'.c 9 (by omega)).1
    have z9' : X.cell? ⟨w3.heap.size, 9, none⟩ = some (.int .i64 0) := (bx2.c 9 (by omega)).1
    have y10 : X.cell? ⟨w2.heap.size, 10, none⟩ = some (.bool false) := (bx1'.c 10 (by omega)).1
    have z10' : X.cell? ⟨w3.heap.size, 10, none⟩ = some (.bool false) := (bx2.c 10 (by omega)).1
    have y11 : X.cell? ⟨w2.heap.size, 11, none⟩ = some (.int .i64 0) := (bx1'.c 11 (by omega)).1
    have z11' : X.cell? ⟨w3.heap.size, 11, none⟩ = some (.int .i64 0) := (bx2.c 11 (by omega)).1
    have hb1X : Below w1.heap.size w1 X := hb1V.trans (hVX.mono hb1V.size)
    have f0 : Nt.IsFly X none 0 0 [] := ⟨Nt.isRow_nil _ _ _, by simp⟩
    have f3 := (hOk.below hb1X).isFly.2.1
    have f4 := (HS.out _ (hb1.trans (hb1X.mono hb1.size))).2.1
    clear bx1 bx2 bx1' d0 d1 d2 hTk hTO
    have s1 := Nt.sameFlying_any none none 0 0 0 [] [] X f0 f0 (fun i _ => rfl)
    have s2 := fun U (hU : Below X.heap.size X U) => Nt.sameFlying_any ka fa fl kc fc ks fs U (f3.below hU) (f4.below hU) (fun i _ => Nt.mss_ms HK.out i)
    clear f0 f3 f4 x1 x2
    go_wp2_with (first | (go_at_call 11; refine s1.mono ?_; rintro e w8 ⟨rfl, hb8⟩; clear s1) | (go_at_call 11; refine (s2 _ hb8).mono ?_; rintro e w9 ⟨rfl, hb9⟩))
    go_ret
    exact ⟨rfl, hB.trans ((hb1.trans ((hb1X.trans ((hb8.trans (hb9.mono hb8.size)).mono hb1X.size)).mono hb1.size)).mono hB.size)⟩
end Go.Proofs.YtpkbklhjpaaiiaaDoor
