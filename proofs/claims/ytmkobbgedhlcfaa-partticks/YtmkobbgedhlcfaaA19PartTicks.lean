/- The walk of the law PartTicks: at any config and stores it returns true and leaves what was in memory. -/
import Derived.Test.YtmkobbgedhlcfaaM18PartTicks
import Derived.Test.YtmkobbgedhlcfaaA14PartTicks
namespace Go.Proofs.Ytmkobbgedhlcfaa.Pt
open Go.ChangeShapes Go.WideShapes Go.ChangeAt Go.RowKit
open Go.Proofs.Ytmkobbgedhlcfaa.St (SV IsStore IsRow TxWf SLight BoxN boxn_new flat Elem own_isRow own_below)
set_option linter.unusedVariables false

theorem stInfo : (Try.prog.info? 31).map (fun i => (i.zero, i.size, i.bytes)) = some (some (.agg #[.slice none 0 0, .slice none 0 0, .slice none 0 0, .slice none 0 0]), 4, 96) := by kernel_rfl
theorem box_len (s : SV) : s.box.length = 4 := rfl
theorem box_one (s : SV) : ∀ u ∈ s.box, u.oneCell' = true := by
  intro u hu
  simp only [SV.box, List.mem_cons, List.not_mem_nil, or_false] at hu
  rcases hu with rfl | rfl | rfl | rfl <;> rfl
theorem stElem : ∃ i, Elem 4 SV.box 31 25 i (.agg #[.slice none 0 0, .slice none 0 0, .slice none 0 0, .slice none 0 0]) 96 := by
  obtain ⟨j0, hj, lj0, lj1, lj2⟩ := info_parts stInfo
  exact ⟨j0, box_len, by decide, box_one, Try.underlying25, hj, lj0, lj1, lj2, rfl⟩
theorem ans_box {u : World} {g B : Nat} {vs : List Value} (bx : BoxN u g 7 vs) {v : AnsV} (h : IsAns u v) (hf : v.far B) (hB : g < B) (v0 v1 v2 v3 v4 v5 v6 : Value) :
    BoxN (((((((u.setCell ⟨g, 0, none⟩ v0).setCell ⟨g, 1, none⟩ v1).setCell ⟨g, 2, none⟩ v2).setCell ⟨g, 3, none⟩ v3).setCell ⟨g, 4, none⟩ v4).setCell ⟨g, 5, none⟩ v5).setCell ⟨g, 6, none⟩ v6) g 7 [v0, v1, v2, v3, v4, v5, v6] ∧ IsAns (((((((u.setCell ⟨g, 0, none⟩ v0).setCell ⟨g, 1, none⟩ v1).setCell ⟨g, 2, none⟩ v2).setCell ⟨g, 3, none⟩ v3).setCell ⟨g, 4, none⟩ v4).setCell ⟨g, 5, none⟩ v5).setCell ⟨g, 6, none⟩ v6) v := by
  refine ⟨?_, h.grown (grown7 u g v0 v1 v2 v3 v4 v5 v6) hf hB⟩
  obtain ⟨x0, x1, x2, x3, x4, x5, x6, rfl⟩ : ∃ x0 x1 x2 x3 x4 x5 x6, vs = [x0, x1, x2, x3, x4, x5, x6] := by
    match vs, bx.len with
    | [x0, x1, x2, x3, x4, x5, x6], _ => exact ⟨x0, x1, x2, x3, x4, x5, x6, rfl⟩
  exact ((((((bx.set 0 (by omega) v0).set 1 (by omega) v1).set 2 (by omega) v2).set 3 (by omega) v3).set 4 (by omega) v4).set 5 (by omega) v5).set 6 (by omega) v6
theorem grownN {w w' : World} (h : w.grownBy w' none) : Below w.heap.size w w' := (Below.refl w.heap.size w).grown h (Nat.le_refl _) (fun k hk => by cases hk)

set_option maxRecDepth 100000 in
set_option maxHeartbeats 4000000 in
theorem partTicks_walk (s : Int) (a : Option Addr) (len cap : Nat) (q : Int) (ls : List (Int × Int)) (l me : Int) (sa : Option Addr) (n sc : Nat) (ss : List SV) (w : World) (_ : (Lit.int .i64 s).wf = true) (h : IsLabs w a len cap ls) (_ : (Lit.int .i64 q).wf = true) (_ : (Lit.int .i64 l).wf = true) (_ : (Lit.int .i64 me).wf = true) (hS : IsStores w sa n sc ss) (hL : SSLight n ss) :
    Calls Try.prog 3 #[.agg #[.int .i64 s, .slice a len cap, .int .i64 q], .int .i64 l, .int .i64 me, .slice sa n sc] w fun e w' => e = .returned (.bool true) ∧ Below w.heap.size w w' := by
  obtain ⟨iS, ES⟩ := stElem
  have hov : ∀ i, i < n → (ss.getD i default).ol * 16 ≤ 140737488351232 := fun i hi => (hL.2 i hi).over
  have hn96 := hL.1
  have hsl := hS.row.1
  have HSl : Hid (ss.length = n) := hsl
  clear hsl
  obtain ⟨W, hW⟩ : ∃ W : World, W = w.alloc (.cells #[.int .i64 s, .slice a len cap, .int .i64 q] 24) := ⟨_, rfl⟩
  have hBw : Below w.heap.size w W := by rw [hW]; exact (Below.refl _ _).alloc (Nat.le_refl _) _
  have z0 : w.heap.size < W.heap.size := by rw [hW]; simp
  have c0 : W.cell? ⟨w.heap.size, 0, none⟩ = some (.int .i64 s) := by rw [hW]; go_simp
  have c1 : W.cell? ⟨w.heap.size, 1, none⟩ = some (.slice a len cap) := by rw [hW]; go_simp
  have c2 : W.cell? ⟨w.heap.size, 2, none⟩ = some (.int .i64 q) := by rw [hW]; go_simp
  have KC : Hid (∀ U : World, Below W.heap.size W U → U.cell? ⟨w.heap.size, 0, none⟩ = some (.int .i64 s) ∧ U.cell? ⟨w.heap.size, 1, none⟩ = some (.slice a len cap) ∧ U.cell? ⟨w.heap.size, 2, none⟩ = some (.int .i64 q)) := by
    intro U hU
    exact ⟨(hU.cell (p := ⟨w.heap.size, 0, none⟩) z0).trans c0, (hU.cell (p := ⟨w.heap.size, 1, none⟩) z0).trans c1, (hU.cell (p := ⟨w.heap.size, 2, none⟩) z0).trans c2⟩
  have KB : Hid (∀ U : World, Below W.heap.size W U → Below w.heap.size w U) := fun U hU => hBw.trans (hU.mono hBw.size)
  have KL : Hid (∀ U : World, Below W.heap.size W U → IsLabs U a len cap ls) := fun U hU => h.below (KB.out U hU)
  have KS : Hid (∀ U : World, Below W.heap.size W U → IsStores U sa n sc ss) := fun U hU => hS.below (KB.out U hU)
  have KR : Hid (∀ U : World, Below W.heap.size W U → IsRow 4 SV.box U sa n sc ss) := fun U hU => (hS.below (KB.out U hU)).row
  have hDec := fun sa sc w' h1 h2 => tick_any s q a len cap ls l me sa n sc ss w' h1 h2 hov
  have hRef := fun w' h1 h2 => ticked_any s q a len cap ls l me sa n sc ss w' h1 h2 hov
  obtain ⟨TD, eTD⟩ : ∃ x, x = tickD s ls q l me n ss := ⟨_, rfl⟩
  obtain ⟨er, eE⟩ : ∃ x, x = siteErr s ls q l me n ss := ⟨_, rfl⟩
  rw [← eTD, ← eE] at hDec hRef
  clear eTD eE
  go_enter Try.func3, Try.ntmps3
  go_upto_region 1 with (fail)
  rw [← hW]
  clear hW
  go_cut [9, 10] (fun s9 s10 wc => ∃ (g : Nat) (v : AnsV), s9 = .pointer (some ⟨g, 0, none⟩) ∧ s10 = .int .i64 er ∧ BoxN wc g 7 v.cells ∧ IsAns wc v ∧ v.data = TD ∧ Below W.heap.size W wc)
  case first =>
    go_region_held3 (fun U => U.cell? ⟨w.heap.size, 0, none⟩ = some (.int .i64 s) ∧ U.cell? ⟨w.heap.size, 1, none⟩ = some (.slice a len cap) ∧ U.cell? ⟨w.heap.size, 2, none⟩ = some (.int .i64 q))
      (exact KC.out _ (by (with_reducible repeat (first | exact hu3 | exact hu1 | exact Below.refl _ _ | refine qD ?_ | refine qA ?_ _ | refine qS ?_ (by omega) _)); done))
      (first
        | (refine St.step_append_row ES (by rfl) (.const (.slice none 0 0)) (.tmp 17) (by rfl) W.heap.size (.slice none 0 0) 0 [] (by rfl) (World.ownsRow_nil _ _ _ _) sa n sc ss (by rfl) (KR.out _ (by (with_reducible repeat (first | exact hu1 | exact Below.refl _ _ | refine qD ?_ | refine qA ?_ _ | refine qS ?_ (by omega) _)); done)) (by unfold maxLen; omega) (by omega) (by first | exact Nat.le_refl _ | (simp; done) | (simp; omega)) ?_; intro a6 c6 u1 own1 gr1 at1; have hu1 : Below W.heap.size W u1 := qT (by (with_reducible repeat (first | exact hu1 | exact Below.refl _ _ | refine qD ?_ | refine qA ?_ _ | refine qS ?_ (by omega) _)); done) (grownN gr1); have z1 : W.heap.size ≤ u1.heap.size := hu1.size; (first | (have bx1 : BoxN u1 W.heap.size 7 [.slice none 0 0, .slice none 0 0, .slice none 0 0, .slice none 0 0, .slice none 0 0, .slice none 0 0, .slice none 0 0] := (boxn_new W.drew #[.slice none 0 0, .slice none 0 0, .slice none 0 0, .slice none 0 0, .slice none 0 0, .slice none 0 0, .slice none 0 0] 36 7 rfl).below (grownN gr1) (by simp); have zbx1 := bx1.lt) | (have bx1 : BoxN u1 W.heap.size 7 [.slice none 0 0, .slice none 0 0, .slice none 0 0, .slice none 0 0, .slice none 0 0, .slice none 0 0, .slice none 0 0] := (boxn_new W #[.slice none 0 0, .slice none 0 0, .slice none 0 0, .slice none 0 0, .slice none 0 0, .slice none 0 0, .slice none 0 0] 36 7 rfl).below (grownN gr1) (by simp); have zbx1 := bx1.lt) | skip); simp only [Nat.zero_add, List.nil_append] at own1 ⊢; have hI1 : IsStores u1 a6 n c6 ss := ⟨(own_isRow box_len own1 HSl.out).1, (KS.out _ hu1).each⟩)
        | (go_at_call 7; refine (hDec a6 c6 _ (KL.out _ (by (with_reducible repeat (first | exact hu1 | exact Below.refl _ _ | refine qD ?_ | refine qA ?_ _ | refine qS ?_ (by omega) _)); done)) (by first | exact hI1 | exact hI1.below ((Below.refl _ _).alloc (Nat.le_refl _) _))).mono ?_; rintro e u3 ⟨⟨⟨ra0, rn0, rc0, ra1, rn1, rc1, ra2, rn2, rc2, ra3, rn3, rc3, ri, rl, rd, ro⟩, ra4, rn4, rc4, ra5, rn5, rc5, ra6, rn6, rc6, rms, rrs, rns⟩, rfl, hI3, hd3, hb3', hf3⟩; simp only [AnsV.val]; have hu3 : Below W.heap.size W u3 := qT (by (with_reducible repeat (first | exact hu1 | exact Below.refl _ _ | refine qD ?_ | refine qA ?_ _ | refine qS ?_ (by omega) _)); done) hb3'; have z3 : W.heap.size ≤ u3.heap.size := hu3.size; (first | (have bx3 := bx1.below hb3' bx1.lt; have s0 : _ = some (Value.slice none 0 0) := (bx3.c 0 (by omega)).1; have g0 := (bx3.c 0 (by omega)).2; have s1 : _ = some (Value.slice none 0 0) := (bx3.c 1 (by omega)).1; have g1 := (bx3.c 1 (by omega)).2; have s2 : _ = some (Value.slice none 0 0) := (bx3.c 2 (by omega)).1; have g2 := (bx3.c 2 (by omega)).2; have s3 : _ = some (Value.slice none 0 0) := (bx3.c 3 (by omega)).1; have g3 := (bx3.c 3 (by omega)).2; have s4 : _ = some (Value.slice none 0 0) := (bx3.c 4 (by omega)).1; have g4 := (bx3.c 4 (by omega)).2; have s5 : _ = some (Value.slice none 0 0) := (bx3.c 5 (by omega)).1; have g5 := (bx3.c 5 (by omega)).2; have s6 : _ = some (Value.slice none 0 0) := (bx3.c 6 (by omega)).1; have g6 := (bx3.c 6 (by omega)).2; have zbx := bx3.lt) | (have bx3 : BoxN u3 u1.heap.size 7 [.slice none 0 0, .slice none 0 0, .slice none 0 0, .slice none 0 0, .slice none 0 0, .slice none 0 0, .slice none 0 0] := (boxn_new u1 #[.slice none 0 0, .slice none 0 0, .slice none 0 0, .slice none 0 0, .slice none 0 0, .slice none 0 0, .slice none 0 0] 36 7 rfl).below hb3' (by simp); have s0 : _ = some (Value.slice none 0 0) := (bx3.c 0 (by omega)).1; have g0 := (bx3.c 0 (by omega)).2; have s1 : _ = some (Value.slice none 0 0) := (bx3.c 1 (by omega)).1; have g1 := (bx3.c 1 (by omega)).2; have s2 : _ = some (Value.slice none 0 0) := (bx3.c 2 (by omega)).1; have g2 := (bx3.c 2 (by omega)).2; have s3 : _ = some (Value.slice none 0 0) := (bx3.c 3 (by omega)).1; have g3 := (bx3.c 3 (by omega)).2; have s4 : _ = some (Value.slice none 0 0) := (bx3.c 4 (by omega)).1; have g4 := (bx3.c 4 (by omega)).2; have s5 : _ = some (Value.slice none 0 0) := (bx3.c 5 (by omega)).1; have g5 := (bx3.c 5 (by omega)).2; have s6 : _ = some (Value.slice none 0 0) := (bx3.c 6 (by omega)).1; have g6 := (bx3.c 6 (by omega)).2; have zbx := bx3.lt) | skip)))
    all_goals
      first
        | (have bx4 := bx3; obtain ⟨bxF, hAF⟩ := ans_box bx4 hI3 hf3 (by first | omega | (simp; done) | (simp; omega)) (.slice ra0 rn0 rc0) (.slice ra1 rn1 rc1) (.slice ra2 rn2 rc2) (.slice ra3 rn3 rc3) (.slice ra4 rn4 rc4) (.slice ra5 rn5 rc5) (.slice ra6 rn6 rc6))
        | (have bxF : BoxN _ u3.heap.size 7 [.slice ra0 rn0 rc0, .slice ra1 rn1 rc1, .slice ra2 rn2 rc2, .slice ra3 rn3 rc3, .slice ra4 rn4 rc4, .slice ra5 rn5 rc5, .slice ra6 rn6 rc6] := boxn_new u3 #[.slice ra0 rn0 rc0, .slice ra1 rn1 rc1, .slice ra2 rn2 rc2, .slice ra3 rn3 rc3, .slice ra4 rn4 rc4, .slice ra5 rn5 rc5, .slice ra6 rn6 rc6] 36 7 rfl; have hAF := hI3.below ((Below.refl _ _).alloc (Nat.le_refl _) (.cells #[.slice ra0 rn0 rc0, .slice ra1 rn1 rc1, .slice ra2 rn2 rc2, .slice ra3 rn3 rc3, .slice ra4 rn4 rc4, .slice ra5 rn5 rc5, .slice ra6 rn6 rc6] 36)))
      go_wp2_with fail
      go_meet
      case rel => exact ⟨_, ⟨⟨ra0, rn0, rc0, ra1, rn1, rc1, ra2, rn2, rc2, ra3, rn3, rc3, ri, rl, rd, ro⟩, ra4, rn4, rc4, ra5, rn5, rc5, ra6, rn6, rc6, rms, rrs, rns⟩, rfl, rfl, bxF, by first | exact hAF | exact hAF.below (Below.refl _ _).drew, hd3, (by (with_reducible repeat (first | exact hu3 | exact hu1 | exact Below.refl _ _ | refine qD ?_ | refine qA ?_ _ | refine qS ?_ (by omega) _)); done)⟩
  case rest =>
    obtain ⟨g, ⟨⟨ra0, rn0, rc0, ra1, rn1, rc1, ra2, rn2, rc2, ra3, rn3, rc3, ri, rl, rd, ro⟩, ra4, rn4, rc4, ra5, rn5, rc5, ra6, rn6, rc6, rms, rrs, rns⟩, rfl, rfl, bxF, hAF, hd, bF⟩ := hcut
    obtain ⟨X, eX⟩ : ∃ X, X = wc := ⟨_, rfl⟩
    rw [← eX] at bxF hAF bF ⊢
    simp only [AnsV.cells] at bxF
    clear eX c0 c1 c2 hDec
    have glt := bxF.lt
    obtain ⟨c0, c1, c2⟩ := KC.out _ bF
    have zX : w.heap.size < X.heap.size := Nat.lt_of_lt_of_le z0 bF.size
    go_upto_region 3 with (go_at_call 8; refine (hRef _ (KL.out _ bF) (KS.out _ bF)).mono ?_; rintro e u4 ⟨⟨⟨ta0, tn0, tc0, ta1, tn1, tc1, ta2, tn2, tc2, ta3, tn3, tc3, ti, tl, td, t_o⟩, ta4, tn4, tc4, ta5, tn5, tc5, ta6, tn6, tc6, tms, trs, tns⟩, rfl, hI4, hd4, hb4, _⟩; simp only [AnsV.val])
    obtain ⟨Y, hY⟩ : ∃ Y : World, Y = u4.alloc (.cells #[.slice ta0 tn0 tc0, .slice ta1 tn1 tc1, .slice ta2 tn2 tc2, .slice ta3 tn3 tc3, .slice ta4 tn4 tc4, .slice ta5 tn5 tc5, .slice ta6 tn6 tc6] 36) := ⟨_, rfl⟩
    have bY4 : Below u4.heap.size u4 Y := by rw [hY]; exact (Below.refl _ _).alloc (Nat.le_refl _) _
    have bY : Below X.heap.size X Y := qT hb4 bY4
    have bxG : BoxN Y u4.heap.size 7 [.slice ta0 tn0 tc0, .slice ta1 tn1 tc1, .slice ta2 tn2 tc2, .slice ta3 tn3 tc3, .slice ta4 tn4 tc4, .slice ta5 tn5 tc5, .slice ta6 tn6 tc6] := by rw [hY]; exact boxn_new u4 #[.slice ta0 tn0 tc0, .slice ta1 tn1 tc1, .slice ta2 tn2 tc2, .slice ta3 tn3 tc3, .slice ta4 tn4 tc4, .slice ta5 tn5 tc5, .slice ta6 tn6 tc6] 36 7 rfl
    rw [← hY]
    clear hY
    have bxY := bxF.below bY bxF.lt
    clear c0 c1 c2 glt
    have gltY := bxY.lt
    have gltG := bxG.lt
    have hSm := sameAnswer_any ⟨⟨ra0, rn0, rc0, ra1, rn1, rc1, ra2, rn2, rc2, ra3, rn3, rc3, ri, rl, rd, ro⟩, ra4, rn4, rc4, ra5, rn5, rc5, ra6, rn6, rc6, rms, rrs, rns⟩ ⟨⟨ta0, tn0, tc0, ta1, tn1, tc1, ta2, tn2, tc2, ta3, tn3, tc3, ti, tl, td, t_o⟩, ta4, tn4, tc4, ta5, tn5, tc5, ta6, tn6, tc6, tms, trs, tns⟩ Y (hAF.below bY) (hI4.below bY4) (hd.trans hd4.symm)
    simp only [AnsV.val] at hSm
    have m0 := (bxY.c 0 (by decide)).1
    have n0 := (bxG.c 0 (by decide)).1
    have m1 := (bxY.c 1 (by decide)).1
    have n1 := (bxG.c 1 (by decide)).1
    have m2 := (bxY.c 2 (by decide)).1
    have n2 := (bxG.c 2 (by decide)).1
    have m3 := (bxY.c 3 (by decide)).1
    have n3 := (bxG.c 3 (by decide)).1
    have m4 := (bxY.c 4 (by decide)).1
    have n4 := (bxG.c 4 (by decide)).1
    have m5 := (bxY.c 5 (by decide)).1
    have n5 := (bxG.c 5 (by decide)).1
    have m6 := (bxY.c 6 (by decide)).1
    have n6 := (bxG.c 6 (by decide)).1
    simp only [List.getD_cons_zero, List.getD_cons_succ] at m0 n0 m1 n1 m2 n2 m3 n3 m4 n4 m5 n5 m6 n6
    go_wp2_with (go_at_call 9; refine hSm.mono ?_; rintro e u5 ⟨rfl, hb5⟩)
    go_ret
    exact ⟨by simp, KB.out _ (qT (qT bF bY) hb5)⟩
end Go.Proofs.Ytmkobbgedhlcfaa.Pt
