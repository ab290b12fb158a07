/- Texts of this claim, one behind the other. -/
import Derived.Test.YtifdjlhgcbkamaaM13PartForces
import Derived.Deep.RegionHeld3
import Derived.Deep.CutBlock
import Derived.Deep.DeepCutAuto
import Derived.Test.YtifdjlhgcbkamaaM9PartForces
import Derived.Test.YtifdjlhgcbkamaaM4PartForces
import Derived.Deep.Cut
/- The contract of part.Tick. -/
namespace Go.Proofs.Ytifdjlhgcbkamaa.Pt
open Go.ChangeShapes Go.WideShapes Go.ChangeAt Go.RowKit
open Go.Proofs.Ytifdjlhgcbkamaa.St (SV PS IsStore IsRow storeOK TxWf BoxN boxn_new ageErr ageData ageTold toldT IsTxns OwnStore flat Elem isOne grown_setCell own_below own_isRow ne_own isRow_nil)
set_option linter.unusedVariables false

theorem qA {W V : World} (h : Below W.heap.size W V) (ob : Obj) : Below W.heap.size W (V.alloc ob) := h.alloc h.size ob
theorem qD {W V : World} (h : Below W.heap.size W V) : Below W.heap.size W V.drew := h.drew
theorem qS {W V : World} (h : Below W.heap.size W V) {b i : Nat} (hb : W.heap.size ≤ b) (v : Value) : Below W.heap.size W (V.setCell ⟨b, i, none⟩ v) := h.setCell (p := ⟨b, i, none⟩) hb v
theorem qT {W V U : World} (h : Below W.heap.size W V) (h2 : Below V.heap.size V U) : Below W.heap.size W U := h.trans (h2.mono h.size)
theorem grown_one {w u : World} {b i : Nat} {v : Value} (h : w.grownBy u (some b)) : w.grownBy (u.setCell ⟨b, i, none⟩ v) (some b) := h.trans (grown_setCell u ⟨b, i, none⟩ v)
theorem grown7 (w : World) (b : Nat) (v0 v1 v2 v3 v4 v5 v6 : Value) : w.grownBy (((((((w.setCell ⟨b, 0, none⟩ v0).setCell ⟨b, 1, none⟩ v1).setCell ⟨b, 2, none⟩ v2).setCell ⟨b, 3, none⟩ v3).setCell ⟨b, 4, none⟩ v4).setCell ⟨b, 5, none⟩ v5).setCell ⟨b, 6, none⟩ v6) (some b) :=
  grown_one (grown_one (grown_one (grown_one (grown_one (grown_one (grown_one (World.grownBy.refl _ _)))))))
theorem row_four {α : Type} [Inhabited α] {k : Nat} {cells : α → List Value} {U : World} {a : Option Addr} {n c : Nat} {xs : List α} (h : IsRow k cells U a n c xs) {g : Nat} (hn : ∀ b off, a = some ⟨b, off, none⟩ → b ≠ g) (v0 v1 v2 v3 : Value) :
    IsRow k cells ((((U.setCell ⟨g, 0, none⟩ v0).setCell ⟨g, 1, none⟩ v1).setCell ⟨g, 2, none⟩ v2).setCell ⟨g, 3, none⟩ v3) a n c xs :=
  row_grown h (grown_one (grown_one (grown_one (grown_one (World.grownBy.refl _ _)))) : U.grownBy _ (some g)) (fun b off e e' => hn b off e (by simpa using e'))

set_option maxRecDepth 100000 in
set_option maxHeartbeats 8000000 in
theorem tick_any (s p : Int) (a : Option Addr) (len cap : Nat) (ls : List (Int × Int)) (l me : Int) (sa : Option Addr) (n sc : Nat) (ss : List SV) (w : World) (hl : IsLabs w a len cap ls) (hS : IsStores w sa n sc ss) (hov : ∀ i, i < n → (ss.getD i default).ol * 16 ≤ 140737488351232) :
    Calls Try.prog 11 #[.agg #[.int .i64 s, .slice a len cap, .int .i64 p], .int .i64 l, .int .i64 me, .slice sa n sc] w fun e w' => ∃ v : AnsV, e = .returned (.tuple #[v.val, .int .i64 (siteErr s ls p l me n ss)]) ∧ IsAns w' v ∧ v.data = tickD s ls p l me n ss ∧ Below w.heap.size w w' ∧ v.far w.heap.size := by
  obtain ⟨iM, EM⟩ := msElem
  have hRf := fun w' h1 h2 => refuse_any s p a len cap ls l me sa n sc ss w' h1 h2
  have hok := fun h => site_ok (s := s) (ls := ls) (p := p) (l := l) (me := me) (n := n) (ss := ss) h hS.row.1
  have HD : Hid (tickD s ls p l me n ss = if siteErr s ls p l me n ss = 0 then ⟨ageData (ss.getD l.toNat default) p, tickMsgs s me (ageTold (ss.getD l.toNat default) p), [], []⟩ else AD.nil) := rfl
  obtain ⟨TD, eTD⟩ : ∃ x, x = tickD s ls p l me n ss := ⟨_, rfl⟩
  rw [← eTD] at HD ⊢
  clear eTD
  obtain ⟨E, eE⟩ : ∃ x, x = siteErr s ls p l me n ss := ⟨_, rfl⟩
  rw [← eE] at hRf hok HD ⊢
  clear eE
  obtain ⟨W, hW⟩ : ∃ W : World, W = (w.alloc (.cells #[.int .i64 s, .slice a len cap, .int .i64 p] 24)).alloc (.cells #[.slice none 0 0, .slice none 0 0, .slice none 0 0, .slice none 0 0, .slice none 0 0, .slice none 0 0, .slice none 0 0] 38) := ⟨_, rfl⟩
  have hB : Below w.heap.size w W := by rw [hW]; exact ((Below.refl _ _).alloc (Nat.le_refl _) _).alloc (by simp) _
  have z1 : w.heap.size + 1 < W.heap.size := by rw [hW]; simp
  have z0 : w.heap.size < W.heap.size := by omega
  have cb : BoxN W w.heap.size 3 [.int .i64 s, .slice a len cap, .int .i64 p] := by
    rw [hW]; exact (boxn_new w #[.int .i64 s, .slice a len cap, .int .i64 p] 24 3 rfl).below ((Below.refl _ _).alloc (Nat.le_refl _) _) (by simp)
  have qb : BoxN W (w.heap.size + 1) 7 [.slice none 0 0, .slice none 0 0, .slice none 0 0, .slice none 0 0, .slice none 0 0, .slice none 0 0, .slice none 0 0] := by
    rw [hW]; simpa using boxn_new (w.alloc (.cells #[.int .i64 s, .slice a len cap, .int .i64 p] 24)) #[.slice none 0 0, .slice none 0 0, .slice none 0 0, .slice none 0 0, .slice none 0 0, .slice none 0 0, .slice none 0 0] 38 7 rfl
  have KC : Hid (∀ V : World, Below W.heap.size W V → V.cell? ⟨w.heap.size, 0, none⟩ = some (.int .i64 s) ∧ V.cell? ⟨w.heap.size, 1, none⟩ = some (.slice a len cap) ∧ V.cell? ⟨w.heap.size, 2, none⟩ = some (.int .i64 p)) := fun V hV => ⟨(hV.cell (p := ⟨w.heap.size, 0, none⟩) z0).trans (cb.c 0 (by decide)).1, (hV.cell (p := ⟨w.heap.size, 1, none⟩) z0).trans (cb.c 1 (by decide)).1, (hV.cell (p := ⟨w.heap.size, 2, none⟩) z0).trans (cb.c 2 (by decide)).1⟩
  have KQ : Hid (∀ V : World, Below W.heap.size W V → V.cell? ⟨w.heap.size + 1, 0, none⟩ = some (.slice none 0 0) ∧ V.cell? ⟨w.heap.size + 1, 1, none⟩ = some (.slice none 0 0) ∧ V.cell? ⟨w.heap.size + 1, 2, none⟩ = some (.slice none 0 0) ∧ V.cell? ⟨w.heap.size + 1, 3, none⟩ = some (.slice none 0 0) ∧ V.cell? ⟨w.heap.size + 1, 4, none⟩ = some (.slice none 0 0) ∧ V.cell? ⟨w.heap.size + 1, 5, none⟩ = some (.slice none 0 0) ∧ V.cell? ⟨w.heap.size + 1, 6, none⟩ = some (.slice none 0 0) ∧ V.frozen? ⟨w.heap.size + 1, 0, none⟩ = false ∧ V.frozen? ⟨w.heap.size + 1, 1, none⟩ = false ∧ V.frozen? ⟨w.heap.size + 1, 2, none⟩ = false ∧ V.frozen? ⟨w.heap.size + 1, 3, none⟩ = false ∧ V.frozen? ⟨w.heap.size + 1, 4, none⟩ = false ∧ V.frozen? ⟨w.heap.size + 1, 5, none⟩ = false ∧ V.frozen? ⟨w.heap.size + 1, 6, none⟩ = false) := fun V hV => ⟨(hV.cell (p := ⟨w.heap.size + 1, 0, none⟩) z1).trans (qb.c 0 (by decide)).1, (hV.cell (p := ⟨w.heap.size + 1, 1, none⟩) z1).trans (qb.c 1 (by decide)).1, (hV.cell (p := ⟨w.heap.size + 1, 2, none⟩) z1).trans (qb.c 2 (by decide)).1, (hV.cell (p := ⟨w.heap.size + 1, 3, none⟩) z1).trans (qb.c 3 (by decide)).1, (hV.cell (p := ⟨w.heap.size + 1, 4, none⟩) z1).trans (qb.c 4 (by decide)).1, (hV.cell (p := ⟨w.heap.size + 1, 5, none⟩) z1).trans (qb.c 5 (by decide)).1, (hV.cell (p := ⟨w.heap.size + 1, 6, none⟩) z1).trans (qb.c 6 (by decide)).1, (hV.frozen (p := ⟨w.heap.size + 1, 0, none⟩) z1).trans (qb.c 0 (by decide)).2, (hV.frozen (p := ⟨w.heap.size + 1, 1, none⟩) z1).trans (qb.c 1 (by decide)).2, (hV.frozen (p := ⟨w.heap.size + 1, 2, none⟩) z1).trans (qb.c 2 (by decide)).2, (hV.frozen (p := ⟨w.heap.size + 1, 3, none⟩) z1).trans (qb.c 3 (by decide)).2, (hV.frozen (p := ⟨w.heap.size + 1, 4, none⟩) z1).trans (qb.c 4 (by decide)).2, (hV.frozen (p := ⟨w.heap.size + 1, 5, none⟩) z1).trans (qb.c 5 (by decide)).2, (hV.frozen (p := ⟨w.heap.size + 1, 6, none⟩) z1).trans (qb.c 6 (by decide)).2⟩
  have HS : Hid (∀ V : World, Below W.heap.size W V → IsLabs V a len cap ls ∧ IsStores V sa n sc ss ∧ Below w.heap.size w V) := fun V hV => by
    have hv := hB.trans (hV.mono hB.size)
    exact ⟨hl.below hv, hS.below hv, hv⟩
  clear cb qb
  obtain ⟨c0, c1, c2⟩ := KC.out _ (Below.refl _ _)
  obtain ⟨hl1, hs1, _⟩ := HS.out _ (Below.refl _ _)
  go_enter Try.func11, Try.ntmps11
  go_upto_region 1 with (fail)
  rw [← hW]
  clear hW
  go_upto_region 2 with (go_at_call 28; refine (hRf _ hl1 hs1).mono ?_; rintro e w1 ⟨rfl, hb1⟩)
  clear c0 c1 c2 hl1 hs1
  have zw1 := hb1.size
  by_cases hE : E = 0
  · obtain ⟨hcf, ⟨hl0, hln⟩, hme, hnl, hso⟩ := hok hE
    obtain ⟨q1, q2, q3, q4, q5, q6, q7⟩ := cfg_zero hcf
    subst hE
    obtain ⟨k, rfl⟩ : ∃ k : Nat, l = (k : Int) := ⟨l.toNat, by omega⟩
    have hk : k < n := by omega
    have hkn : (k : Int) < (n : Int) := by omega
    have hkc : k < sc := Nat.lt_of_lt_of_le hk hS.row.2.1
    have hov := hov k hk
    have hA0 : ageErr (ss.getD k default) p = 0 := by
      unfold ageErr
      rw [hso k hk, show St.inR p 1 1048576 = true from St.inR_true q6 q7]
      rfl
    have HTD : Hid (TD = ⟨ageData (ss.getD k default) p, tickMsgs s me (ageTold (ss.getD k default) p), [], []⟩) := by
      show _ = _
      rw [HD.out, if_pos rfl, Int.toNat_natCast]
    have HT24 : Hid ((ageTold (ss.getD k default) p).length ≤ 24) := by
      show _ ≤ _
      unfold ageTold
      rw [if_pos hA0]
      have := St.told_len p (ss.getD k default).doubts
      have h2 := (hS.each k hk).1
      have := (St.ok_sizes (hso k hk) h2).2.2
      have := h2.doubts.1
      omega
    clear hok HD hso hnl hcf q3 q4 q5 hme
    have hAge : ∀ U, Below w1.heap.size w1 U → Calls Try.prog 29 #[(ss.getD k default).val, .int .i64 p] U fun e w' => ∃ (r : SV) (ta : Option Addr) (tc : Nat), e = .returned (.tuple #[r.val, .slice ta (ageTold (ss.getD k default) p).length tc, .int .i64 0]) ∧ OwnStore w' U.heap.size r ∧ r.data = ageData (ss.getD k default) p ∧ IsTxns w' ta (ageTold (ss.getD k default) p).length tc (ageTold (ss.getD k default) p) ∧ Below U.heap.size U w' ∧ (∀ b off, ta = some ⟨b, off, none⟩ → U.heap.size ≤ b ∧ b < w'.heap.size) := fun U hU => by
      have hIs := ((HS.out _ hb1).2.1.below hU).each k hk |>.1
      have hwf := (hS.each k hk).2
      have := St.age_any_at (ss.getD k default) p U hIs hwf hov
      rw [hA0] at this
      exact this
    obtain ⟨b, off, hsa, hblt, y0, y1, y2, y3⟩ := (HS.out _ hb1).2.1.at hk
    subst hsa
    obtain ⟨T, eT⟩ : ∃ T, T = ageTold (ss.getD k default) p := ⟨_, rfl⟩
    obtain ⟨D, eD⟩ : ∃ D, D = ageData (ss.getD k default) p := ⟨_, rfl⟩
    rw [← eT, ← eD] at hAge HTD
    rw [← eT] at HT24
    clear eT eD hA0
    obtain ⟨⟨xa0, xn0, xc0, xa1, xn1, xc1, xa2, xn2, xc2, xa3, xn3, xc3, xi, xl, xd, xo⟩, eX⟩ : ∃ x, x = ss.getD k default := ⟨_, rfl⟩
    rw [← eX] at hAge y0 y1 y2 y3
    clear eX
    simp only [SV.val] at hAge y0 y1 y2 y3
    have HAge : Hid (∀ U, Below w1.heap.size w1 U → Calls Try.prog 29 #[.agg #[.slice xa0 xn0 xc0, .slice xa1 xn1 xc1, .slice xa2 xn2 xc2, .slice xa3 xn3 xc3], .int .i64 p] U fun e w' => ∃ (r : SV) (ta : Option Addr) (tc : Nat), e = .returned (.tuple #[r.val, .slice ta T.length tc, .int .i64 0]) ∧ OwnStore w' U.heap.size r ∧ r.data = D ∧ IsTxns w' ta T.length tc T ∧ Below U.heap.size U w' ∧ (∀ b off, ta = some ⟨b, off, none⟩ → U.heap.size ≤ b ∧ b < w'.heap.size)) := hAge
    clear hAge
    have zc2 := (KC.out _ hb1).2.2
    have zq : w.heap.size < w1.heap.size := by omega
    have KX : Hid (∀ U, Below w1.heap.size w1 U → U.cell? ⟨b, off + k * 4, none⟩ = some (.slice xa0 xn0 xc0) ∧ U.cell? ⟨b, off + k * 4 + 1, none⟩ = some (.slice xa1 xn1 xc1) ∧ U.cell? ⟨b, off + k * 4 + 2, none⟩ = some (.slice xa2 xn2 xc2) ∧ U.cell? ⟨b, off + k * 4 + 3, none⟩ = some (.slice xa3 xn3 xc3) ∧ U.cell? ⟨w.heap.size, 2, none⟩ = some (.int .i64 p)) := fun U hU =>
      ⟨(hU.cell (p := ⟨b, off + k * 4, none⟩) hblt).trans y0, (hU.cell (p := ⟨b, off + k * 4 + 1, none⟩) hblt).trans y1, (hU.cell (p := ⟨b, off + k * 4 + 2, none⟩) hblt).trans y2, (hU.cell (p := ⟨b, off + k * 4 + 3, none⟩) hblt).trans y3, (hU.cell (p := ⟨w.heap.size, 2, none⟩) zq).trans zc2⟩
    clear y0 y1 y2 y3 zc2
    go_upto_region 4 with (fail)
    go_cut [11, 12, 13] (fun s11 s12 s13 wc => ∃ (g : Nat) (r : SV) (ta : Option Addr) (tc : Nat), s11 = .pointer (some ⟨g, 0, none⟩) ∧ s12 = .slice ta T.length tc ∧ s13 = .int .i64 0 ∧ BoxN wc g 4 r.box ∧ OwnStore wc w1.heap.size r ∧ r.data = D ∧ IsTxns wc ta T.length tc T ∧ Below w1.heap.size w1 wc)
    case first =>
      go_region_held3 (fun U => U.cell? ⟨b, off + k * 4, none⟩ = some (.slice xa0 xn0 xc0) ∧ U.cell? ⟨b, off + k * 4 + 1, none⟩ = some (.slice xa1 xn1 xc1) ∧ U.cell? ⟨b, off + k * 4 + 2, none⟩ = some (.slice xa2 xn2 xc2) ∧ U.cell? ⟨b, off + k * 4 + 3, none⟩ = some (.slice xa3 xn3 xc3) ∧ U.cell? ⟨w.heap.size, 2, none⟩ = some (.int .i64 p))
        (exact KX.out _ (by (with_reducible repeat (first | exact Below.refl _ _ | exact hu2 | refine qD ?_ | refine qA ?_ _ | refine qS ?_ (by first | omega | (simp; done)) _)); done))
        ((go_at_call 29; refine (HAge.out _ (by (with_reducible repeat (first | exact Below.refl _ _ | exact hu2 | refine qD ?_ | refine qA ?_ _ | refine qS ?_ (by first | omega | (simp; done)) _)); done)).mono ?_; rintro e w2 ⟨⟨ra0, rn0, rc0, ra1, rn1, rc1, ra2, rn2, rc2, ra3, rn3, rc3, ri, rl, rd, ro⟩, ta, tc, rfl, hO2', hd2, hT2, hb2, hta⟩; simp only [SV.val]; have hu2 : Below w1.heap.size w1 w2 := qT (by (with_reducible repeat (first | exact Below.refl _ _ | exact hu2 | refine qD ?_ | refine qA ?_ _ | refine qS ?_ (by first | omega | (simp; done)) _)); done) hb2; have zu2 := hu2.size; (first | (have bx3 : BoxN w2 w1.heap.size 4 [.slice none 0 0, .slice none 0 0, .slice none 0 0, .slice none 0 0] := (boxn_new w1.drew #[.slice none 0 0, .slice none 0 0, .slice none 0 0, .slice none 0 0] 34 4 rfl).below hb2 (by simp); have s0 : _ = some (Value.slice none 0 0) := (bx3.c 0 (by decide)).1; have g0 := (bx3.c 0 (by decide)).2; have s1 : _ = some (Value.slice none 0 0) := (bx3.c 1 (by decide)).1; have g1 := (bx3.c 1 (by decide)).2; have s2 : _ = some (Value.slice none 0 0) := (bx3.c 2 (by decide)).1; have g2 := (bx3.c 2 (by decide)).2; have s3 : _ = some (Value.slice none 0 0) := (bx3.c 3 (by decide)).1; have g3 := (bx3.c 3 (by decide)).2; have zbx3 := bx3.lt) | skip)))
      all_goals
        go_wp2_with fail
        go_meet
        case rel => first | exact ⟨_, ⟨ra0, rn0, rc0, ra1, rn1, rc1, ra2, rn2, rc2, ra3, rn3, rc3, ri, rl, rd, ro⟩, ta, tc, rfl, rfl, rfl, (((bx3.set 0 (by decide) (.slice ra0 rn0 rc0)).set 1 (by decide) (.slice ra1 rn1 rc1)).set 2 (by decide) (.slice ra2 rn2 rc2)).set 3 (by decide) (.slice ra3 rn3 rc3), (hO2'.four (b := w1.heap.size) (by simp) _ _ _ _).base (by simp), hd2, row_four hT2 (fun b off e => by have := hta b off e; simp at this; omega) _ _ _ _, by (with_reducible repeat (first | exact Below.refl _ _ | exact hu2 | refine qD ?_ | refine qA ?_ _ | refine qS ?_ (by first | omega | (simp; done)) _)); done⟩ | exact ⟨_, ⟨ra0, rn0, rc0, ra1, rn1, rc1, ra2, rn2, rc2, ra3, rn3, rc3, ri, rl, rd, ro⟩, ta, tc, rfl, rfl, rfl, boxn_new w2 #[.slice ra0 rn0 rc0, .slice ra1 rn1 rc1, .slice ra2 rn2 rc2, .slice ra3 rn3 rc3] _ 4 rfl, (hO2'.below ((Below.refl _ _).alloc (Nat.le_refl _) _)).base (by first | omega | (simp; done) | (simp; omega)), hd2, St.IsRow.below hT2 ((Below.refl _ _).alloc (Nat.le_refl _) _), by (with_reducible repeat (first | exact Below.refl _ _ | exact hu2 | refine qD ?_ | refine qA ?_ _ | refine qS ?_ (by first | omega | (simp; done)) _)); done⟩
    case rest =>
      obtain ⟨g, ⟨ra0, rn0, rc0, ra1, rn1, rc1, ra2, rn2, rc2, ra3, rn3, rc3, ri, rl, rd, ro⟩, ta, tc, rfl, rfl, rfl, bxg, hO, hd, hT, bY⟩ := hcut
      obtain ⟨Y, eY⟩ : ∃ Y, Y = wc := ⟨_, rfl⟩
      rw [← eY] at bxg hO hT bY ⊢
      clear eY KX HAge
      simp only [SV.box] at bxg
      have bWY : Below W.heap.size W Y := hb1.trans (bY.mono zw1)
      have HO : Hid (OwnStore Y w1.heap.size ⟨ra0, rn0, rc0, ra1, rn1, rc1, ra2, rn2, rc2, ra3, rn3, rc3, ri, rl, rd, ro⟩) := hO
      clear hO
      have x0 := (bxg.c 0 (by decide)).1
      have x1 := (bxg.c 1 (by decide)).1
      have x2 := (bxg.c 2 (by decide)).1
      have x3 := (bxg.c 3 (by decide)).1
      simp only [List.getD_cons_zero, List.getD_cons_succ] at x0 x1 x2 x3
      have zg := bxg.lt
      go_upto_region 8 with (fail)
      obtain ⟨X, eX⟩ : ∃ X : World, X = Y.alloc (.cells #[.slice ra0 rn0 rc0, .slice ra1 rn1 rc1, .slice ra2 rn2 rc2, .slice ra3 rn3 rc3, .slice none 0 0, .slice none 0 0, .slice none 0 0] 38) := ⟨_, rfl⟩
      have hTB : TB Y X Y.heap.size (Y.heap.size + 1) ⟨ra0, rn0, rc0, ra1, rn1, rc1, ra2, rn2, rc2, ra3, rn3, rc3, ri, rl, rd, ro⟩ none 0 [] := by rw [eX]; exact TB.new (r := ⟨ra0, rn0, rc0, ra1, rn1, rc1, ra2, rn2, rc2, ra3, rn3, rc3, ri, rl, rd, ro⟩)
      rw [← eX]
      clear eX x0 x1 x2 x3 zg bxg
      have zY := bY.size
      have zQY : w.heap.size + 1 < Y.heap.size := by omega
      have HTl : Hid (T.length = T.length) := rfl
      have hmx : T.length ≤ 24 := HT24.out
      go_wp2
      go_loopw [45, 16] (fun s45 s16 wr => ∃ (i : Nat) (a1 : Option Addr) (c1 : Nat) (ms : List MV), s45 = .int .i64 (i : Int) ∧ i ≤ T.length ∧ ms.length ≤ i ∧ TB Y wr Y.heap.size (Y.heap.size + 1) ⟨ra0, rn0, rc0, ra1, rn1, rc1, ra2, rn2, rc2, ra3, rn3, rc3, ri, rl, rd, ro⟩ a1 c1 ms ∧ Hid (ms = tickMsgs s me (T.take i))) (fun s45 _ _ => T.length - (intOf s45).toNat)
      case atStart => exact ⟨0, none, 0, [], rfl, by omega, by simp, hTB, by show _ = _; simp [tickMsgs]⟩
      case round =>
        obtain ⟨i, a1, c1, ms, rfl, hi, hmi, hR, hms⟩ := hrel
        clear hTB
        by_cases hlt : i < T.length
        · have hlt' : (i : Int) < (T.length : Int) := by omega
          obtain ⟨b1, o1, rfl, zb1, hc⟩ := (St.IsRow.below hT hR.bel).2.2.2.2 (by omega)
          have t0 := hc i hlt 0 (by decide)
          have t1 := hc i hlt 1 (by decide)
          have HAT := tick_at s me T hlt
          obtain ⟨⟨tsi, tnu⟩, et⟩ : ∃ t, t = T.getD i default := ⟨_, rfl⟩
          rw [← et] at t0 t1 HAT
          simp only [] at HAT
          simp only [St.txCells, List.getElem?_cons_zero, List.getElem?_cons_succ, Nat.add_zero] at t0 t1
          have HA : Hid (tickMsgs s me (T.take (i + 1)) = tickMsgs s me (T.take i) ++ if inR tsi 0 (s - 1) = true then [doubtsMsg me (tsi, tnu)] else []) := HAT
          clear HAT et hc
          go_upto_region 11 with (fail)
          obtain ⟨U1, eU1⟩ : ∃ U : World, U = wr.alloc (.cells #[.int .i64 tsi, .int .i64 tnu] 28) := ⟨_, rfl⟩
          have bU1 : Below wr.heap.size wr U1 := by rw [eU1]; exact (Below.refl _ _).alloc (Nat.le_refl _) _
          have v0 : U1.cell? ⟨wr.heap.size, 0, none⟩ = some (.int .i64 tsi) := by rw [eU1]; go_simp
          have v1 : U1.cell? ⟨wr.heap.size, 1, none⟩ = some (.int .i64 tnu) := by rw [eU1]; go_simp
          have zU1 : wr.heap.size < U1.heap.size := by rw [eU1]; simp
          rw [← eU1]
          clear eU1 t0 t1
          have hR1 := hR.below bU1
          obtain ⟨c0, c1', c2⟩ := KC.out _ (bWY.trans (hR1.bel.mono bWY.size))
          have hSi := fun u => site_any s p a len cap tsi u ⟨q1, q2⟩
          cases hin : inR tsi 0 (s - 1) with
          | true =>
            rw [hin] at HA hSi
            simp only [if_true] at HA
            go_upto_region 12 with (go_at_call 30; refine (hSi _).mono ?_; rintro e U2 ⟨rfl, bU2⟩)
            have hR2 := hR1.below bU2
            have v0' := (bU2.cell (p := ⟨wr.heap.size, 0, none⟩) zU1).trans v0
            have v1' := (bU2.cell (p := ⟨wr.heap.size, 1, none⟩) zU1).trans v1
            have zU2 : wr.heap.size < U2.heap.size := Nat.lt_of_lt_of_le zU1 bU2.size
            have d4 := (hR2.box.c 4 (by decide)).1
            simp only [List.getD_cons_zero, List.getD_cons_succ] at d4
            have zA := hR2.box.lt
            clear v0 v1 c0 c1' c2
            obtain ⟨U3, eU3⟩ : ∃ U : World, U = U2.alloc (.cells #[.int .i64 9, .int .i64 me, .int .i64 tsi, .int .i64 tsi, .int .i64 tnu, .int .i64 0, .int .i64 0, .int .i64 0, .int .i64 0, .int .i64 0, .bool false, .int .i64 0] 64) := ⟨_, rfl⟩
            have bU3 : Below U2.heap.size U2 U3 := by rw [eU3]; exact (Below.refl _ _).alloc (Nat.le_refl _) _
            have hR3 := hR2.below bU3
            have hone : IsRow 12 mcells U3 (some ⟨U2.heap.size, 0, none⟩) 1 1 [doubtsMsg me (tsi, tnu)] := by rw [eU3]; exact isOne _ _ _ _ rfl rfl
            have HPut := fun a5 c5 w5 gr own => hR3.put (w5 := w5) (a5 := a5) (c5 := c5) (m := doubtsMsg me (tsi, tnu)) gr own
            go_wp2_with (at_builtin; rw [← eU3]; go_loud (refine St.wpList_append_row EM (by rfl) _ _ (by rfl) (Y.heap.size + 1) (.slice a1 ms.length c1) ms.length ms (by rfl) hR3.row _ 1 1 [doubtsMsg me (tsi, tnu)] (by rfl) hone (by unfold maxLen; omega) (by omega) hR3.le.2.2 ?_; intro a5 c5 w5 own5 gr5 at5; obtain ⟨⟨p4, f4, zA5⟩, hR6⟩ := HPut a5 c5 w5 gr5 own5))
            have HMS : Hid (ms ++ [doubtsMsg me (tsi, tnu)] = tickMsgs s me (T.take (i + 1))) := by show _ = _; rw [HA.out, hms.out]
            go_roundw
            case rel => exact ⟨i + 1, a5, c5, _, by go_num, by omega, by simp; omega, hR6, HMS⟩
            case measure => simp [intOf]; omega
          | false =>
            rw [hin] at HA hSi
            simp only [Bool.false_eq_true, if_false, List.append_nil] at HA
            go_wp2_with (go_at_call 30; refine (hSi _).mono ?_; rintro e U2 ⟨rfl, bU2⟩)
            go_roundw
            case rel => exact ⟨i + 1, a1, c1, ms, by go_num, by omega, by omega, hR1.below bU2, by show _ = _; rw [HA.out, hms.out]⟩
            case measure => simp [intOf]; omega
        · obtain rfl : i = T.length := by omega
          obtain ⟨k0, k1, k2, k3, k4, k5, k6, h0, h1, h2, h3, h4, h5, h6⟩ := KQ.out _ (bWY.trans (hR.bel.mono bWY.size))
          have v0 := (hR.box.c 0 (by decide)).1
          have v1 := (hR.box.c 1 (by decide)).1
          have v2 := (hR.box.c 2 (by decide)).1
          have v3 := (hR.box.c 3 (by decide)).1
          have v4 := (hR.box.c 4 (by decide)).1
          have v5 := (hR.box.c 5 (by decide)).1
          have v6 := (hR.box.c 6 (by decide)).1
          simp only [List.getD_cons_zero, List.getD_cons_succ] at v0 v1 v2 v3 v4 v5 v6
          have zA := hR.box.lt
          have zQ : w.heap.size + 1 < wr.heap.size := Nat.lt_of_lt_of_le zQY hR.bel.size
          have gF : wr.grownBy (((((((wr.setCell ⟨w.heap.size + 1, 0, none⟩ (.slice ra0 rn0 rc0)).setCell ⟨w.heap.size + 1, 1, none⟩ (.slice ra1 rn1 rc1)).setCell ⟨w.heap.size + 1, 2, none⟩ (.slice ra2 rn2 rc2)).setCell ⟨w.heap.size + 1, 3, none⟩ (.slice ra3 rn3 rc3)).setCell ⟨w.heap.size + 1, 4, none⟩ (.slice a1 ms.length c1)).setCell ⟨w.heap.size + 1, 5, none⟩ (.slice none 0 0)).setCell ⟨w.heap.size + 1, 6, none⟩ (.slice none 0 0)) (some (w.heap.size + 1)) := grown7 wr _ _ _ _ _ _ _ _
          obtain ⟨hAns, hFar⟩ := hR.ans HO.out zY (by omega : w.heap.size + 1 < w1.heap.size) gF
          have hbF : Below w.heap.size w (((((((wr.setCell ⟨w.heap.size + 1, 0, none⟩ (.slice ra0 rn0 rc0)).setCell ⟨w.heap.size + 1, 1, none⟩ (.slice ra1 rn1 rc1)).setCell ⟨w.heap.size + 1, 2, none⟩ (.slice ra2 rn2 rc2)).setCell ⟨w.heap.size + 1, 3, none⟩ (.slice ra3 rn3 rc3)).setCell ⟨w.heap.size + 1, 4, none⟩ (.slice a1 ms.length c1)).setCell ⟨w.heap.size + 1, 5, none⟩ (.slice none 0 0)).setCell ⟨w.heap.size + 1, 6, none⟩ (.slice none 0 0)) := ((HS.out _ (bWY.trans (hR.bel.mono bWY.size))).2.2).grown gF (HS.out _ (bWY.trans (hR.bel.mono bWY.size))).2.2.size (fun q hq => by simp at hq; omega)
          have HM : Hid (ms = tickMsgs s me T) := by show _ = _; rw [hms.out, List.take_length]
          go_wp2
          refine bodyPost_ret (v := .tuple #[.agg #[.slice ra0 rn0 rc0, .slice ra1 rn1 rc1, .slice ra2 rn2 rc2, .slice ra3 rn3 rc3, .slice a1 ms.length c1, .slice none 0 0, .slice none 0 0], .int .i64 0]) (by simp [results, Try.results11, go_sem, k0, k1, k2, k3, k4, k5, k6]) rfl ⟨_, rfl, hAns, ?_, hbF, hFar.mono (by omega)⟩
          rw [HTD.out, ← hd, ← HM.out]
          rfl
  · obtain ⟨k0, k1, k2, k3, k4, k5, k6, h0, h1, h2, h3, h4, h5, h6⟩ := KQ.out _ hb1
    have hwE := (HS.out _ hb1).2.2
    have HN : Hid (TD = AD.nil) := by show _ = _; rw [HD.out, if_neg hE]
    have zQ : w.heap.size + 1 < w1.heap.size := by omega
    clear HD hok
    go_wp2
    refine bodyPost_ret (v := .tuple #[.agg #[.slice none 0 0, .slice none 0 0, .slice none 0 0, .slice none 0 0, .slice none 0 0, .slice none 0 0, .slice none 0 0], .int .i64 E]) (by simp [results, Try.results11, go_sem, k0, k1, k2, k3, k4, k5, k6]) rfl ⟨AnsV.nil, rfl, isAns_nil _, by rw [HN.out]; rfl, ?_, AnsV.far_nil _⟩
    exact hwE.grown (grown7 w1 (w.heap.size + 1) _ _ _ _ _ _ _) hwE.size (fun q hq => by simp at hq; omega)

end Go.Proofs.Ytifdjlhgcbkamaa.Pt
/- Contracts of store.refuseTxn and refuse. -/
namespace Go.Proofs.Ytifdjlhgcbkamaa.St
open Go.ChangeShapes Go.WideShapes Go.ChangeAt Go.RowKit
set_option linter.unusedVariables false

def refErr (s : SV) (t : Int × Int) (key : Int) : Int := if storeOK s then (if txOK t && inR key 0 7 then 0 else 2) else 9

set_option maxHeartbeats 1000000 in
theorem refuseTxn_any (s : SV) (t : Int × Int) (w : World) (h : IsStore w s) (hwf : ∀ t ∈ s.over, TxWf t) :
    Calls Try.prog 34 #[s.val, .agg #[.int .i64 t.1, .int .i64 t.2]] w fun e w' => e = .returned (.int .i64 (if storeOK s then (if txOK t then 0 else 2) else 9)) ∧ Below w.heap.size w w' := by
  have hC := fun w' h1 => check_any s w' h1 hwf
  have hT := fun w' => isTxn_any t w'
  obtain ⟨R, e0⟩ : ∃ R : Int, R = (if storeOK s then (if txOK t then 0 else 2) else 9) := ⟨_, rfl⟩
  obtain ⟨S, e1⟩ : ∃ R, R = storeOK s := ⟨_, rfl⟩
  obtain ⟨T, e2⟩ : ∃ R, R = txOK t := ⟨_, rfl⟩
  have eR : Hid (R = if S then (if T then 0 else 2) else 9) := by rw [e1, e2]; exact e0
  rw [← e1] at hC
  rw [← e2] at hT
  rw [← e0]
  clear e0 e1 e2
  have hh := h
  obtain ⟨ia, il, ic, la, ll, lc, da, dl, dc, oa, ol, oc, items, locks, doubts, over⟩ := s
  obtain ⟨ts, tn⟩ := t
  simp only [SV.val] at *
  obtain ⟨W, hW⟩ : ∃ W : World, W = (w.alloc (.cells #[.slice ia il ic, .slice la ll lc, .slice da dl dc, .slice oa ol oc] 34)).alloc (.cells #[.int .i64 ts, .int .i64 tn] 28) := ⟨_, rfl⟩
  have hB : Below w.heap.size w W := by rw [hW]; exact ((Below.refl _ _).alloc (Nat.le_refl _) _).alloc (by simp) _
  have zW : W.heap.size = w.heap.size + 2 := by rw [hW]; simp
  have z0 : w.heap.size < W.heap.size := by omega
  have z1 : w.heap.size + 1 < W.heap.size := by omega
  clear zW
  have c0 : W.cell? ⟨w.heap.size, 0, none⟩ = some (.slice ia il ic) := by rw [hW]; go_simp
  have c1 : W.cell? ⟨w.heap.size, 1, none⟩ = some (.slice la ll lc) := by rw [hW]; go_simp
  have c2 : W.cell? ⟨w.heap.size, 2, none⟩ = some (.slice da dl dc) := by rw [hW]; go_simp
  have c3 : W.cell? ⟨w.heap.size, 3, none⟩ = some (.slice oa ol oc) := by rw [hW]; go_simp
  have c4 : W.cell? ⟨w.heap.size + 1, 0, none⟩ = some (.int .i64 ts) := by rw [hW]; go_simp
  have c5 : W.cell? ⟨w.heap.size + 1, 1, none⟩ = some (.int .i64 tn) := by rw [hW]; go_simp
  have KA : Hid (∀ U : World, Below W.heap.size W U → U.cell? ⟨w.heap.size, 0, none⟩ = some (.slice ia il ic) ∧ U.cell? ⟨w.heap.size, 1, none⟩ = some (.slice la ll lc) ∧ U.cell? ⟨w.heap.size, 2, none⟩ = some (.slice da dl dc) ∧ U.cell? ⟨w.heap.size, 3, none⟩ = some (.slice oa ol oc) ∧ U.cell? ⟨w.heap.size + 1, 0, none⟩ = some (.int .i64 ts) ∧ U.cell? ⟨w.heap.size + 1, 1, none⟩ = some (.int .i64 tn)) := fun U hU =>
    ⟨(hU.cell (p := ⟨w.heap.size, 0, none⟩) z0).trans c0, (hU.cell (p := ⟨w.heap.size, 1, none⟩) z0).trans c1, (hU.cell (p := ⟨w.heap.size, 2, none⟩) z0).trans c2, (hU.cell (p := ⟨w.heap.size, 3, none⟩) z0).trans c3, (hU.cell (p := ⟨w.heap.size + 1, 0, none⟩) z1).trans c4, (hU.cell (p := ⟨w.heap.size + 1, 1, none⟩) z1).trans c5⟩
  have hSW := hh.below hB
  go_enter Try.func34, Try.ntmps34
  go_upto_region 1 with (fail)
  rw [← hW]
  clear hW
  cases S <;> cases T
  all_goals
    simp only [if_true, Bool.false_eq_true, if_false] at hC
    go_wp2_with (first
      | (go_at_call 55; refine (hC _ hSW).mono ?_; rintro e w1 ⟨rfl, hb1⟩; have hw1 := hB.trans (hb1.mono hB.size); obtain ⟨x0, x1, x2, x3, x4, x5⟩ := KA.out _ hb1)
      | (go_at_call 66; refine (hT _).mono ?_; rintro e w2 ⟨rfl, hb2⟩; have hw2 := hw1.trans (hb2.mono hw1.size)))
    go_ret
    exact ⟨by rw [eR.out]; rfl, by first | exact hw2 | exact hw1⟩

set_option maxHeartbeats 1000000 in
theorem refuse_any (s : SV) (t : Int × Int) (key : Int) (w : World) (h : IsStore w s) (hwf : ∀ t ∈ s.over, TxWf t) :
    Calls Try.prog 57 #[s.val, .agg #[.int .i64 t.1, .int .i64 t.2], .int .i64 key] w fun e w' => e = .returned (.int .i64 (refErr s t key)) ∧ Below w.heap.size w w' := by
  have hC := fun w' h1 => refuseTxn_any s t w' h1 hwf
  obtain ⟨R, e0⟩ : ∃ R : Int, R = refErr s t key := ⟨_, rfl⟩
  obtain ⟨S, e1⟩ : ∃ R, R = storeOK s := ⟨_, rfl⟩
  obtain ⟨T, e2⟩ : ∃ R, R = txOK t := ⟨_, rfl⟩
  obtain ⟨K, e3⟩ : ∃ R, R = inR key 0 7 := ⟨_, rfl⟩
  have eR : Hid (R = if S then (if T && K then 0 else 2) else 9) := by rw [e1, e2, e3]; exact e0
  rw [← e1, ← e2] at hC
  rw [← e0]
  replace e3 := e3.symm
  clear e0 e1 e2
  have hh := h
  obtain ⟨ia, il, ic, la, ll, lc, da, dl, dc, oa, ol, oc, items, locks, doubts, over⟩ := s
  obtain ⟨ts, tn⟩ := t
  simp only [SV.val] at *
  obtain ⟨W, hW⟩ : ∃ W : World, W = (w.alloc (.cells #[.slice ia il ic, .slice la ll lc, .slice da dl dc, .slice oa ol oc] 34)).alloc (.cells #[.int .i64 ts, .int .i64 tn] 28) := ⟨_, rfl⟩
  have hB : Below w.heap.size w W := by rw [hW]; exact ((Below.refl _ _).alloc (Nat.le_refl _) _).alloc (by simp) _
  have zW : W.heap.size = w.heap.size + 2 := by rw [hW]; simp
  have z0 : w.heap.size < W.heap.size := by omega
  have z1 : w.heap.size + 1 < W.heap.size := by omega
  clear zW
  have c0 : W.cell? ⟨w.heap.size, 0, none⟩ = some (.slice ia il ic) := by rw [hW]; go_simp
  have c1 : W.cell? ⟨w.heap.size, 1, none⟩ = some (.slice la ll lc) := by rw [hW]; go_simp
  have c2 : W.cell? ⟨w.heap.size, 2, none⟩ = some (.slice da dl dc) := by rw [hW]; go_simp
  have c3 : W.cell? ⟨w.heap.size, 3, none⟩ = some (.slice oa ol oc) := by rw [hW]; go_simp
  have c4 : W.cell? ⟨w.heap.size + 1, 0, none⟩ = some (.int .i64 ts) := by rw [hW]; go_simp
  have c5 : W.cell? ⟨w.heap.size + 1, 1, none⟩ = some (.int .i64 tn) := by rw [hW]; go_simp
  have KA : Hid (∀ U : World, Below W.heap.size W U → U.cell? ⟨w.heap.size, 0, none⟩ = some (.slice ia il ic) ∧ U.cell? ⟨w.heap.size, 1, none⟩ = some (.slice la ll lc) ∧ U.cell? ⟨w.heap.size, 2, none⟩ = some (.slice da dl dc) ∧ U.cell? ⟨w.heap.size, 3, none⟩ = some (.slice oa ol oc) ∧ U.cell? ⟨w.heap.size + 1, 0, none⟩ = some (.int .i64 ts) ∧ U.cell? ⟨w.heap.size + 1, 1, none⟩ = some (.int .i64 tn)) := fun U hU =>
    ⟨(hU.cell (p := ⟨w.heap.size, 0, none⟩) z0).trans c0, (hU.cell (p := ⟨w.heap.size, 1, none⟩) z0).trans c1, (hU.cell (p := ⟨w.heap.size, 2, none⟩) z0).trans c2, (hU.cell (p := ⟨w.heap.size, 3, none⟩) z0).trans c3, (hU.cell (p := ⟨w.heap.size + 1, 0, none⟩) z1).trans c4, (hU.cell (p := ⟨w.heap.size + 1, 1, none⟩) z1).trans c5⟩
  have hSW := hh.below hB
  go_enter Try.func57, Try.ntmps57
  go_upto_region 1 with (fail)
  rw [← hW]
  clear hW
  cases S <;> cases T <;> cases K
  all_goals
    simp only [if_true, Bool.false_eq_true, if_false] at hC
    go_wp2_with (first
      | (go_at_call 34; refine (hC _ hSW).mono ?_; rintro e w1 ⟨rfl, hb1⟩; have hw1 := hB.trans (hb1.mono hB.size))
      | (go_at_call 83; refine (key_any _ _).mono ?_; rintro e u ⟨rfl, hu⟩; rw [hu, e3]; clear hu))
    go_ret
    exact ⟨by rw [eR.out]; rfl, hw1⟩
end Go.Proofs.Ytifdjlhgcbkamaa.St
/- The contract of store.writesOf: the locks of a transaction that are for writing, in memory of their own; and of Writes. -/
namespace Go.Proofs.Ytifdjlhgcbkamaa.St
open Go.ChangeShapes Go.WideShapes Go.ChangeAt Go.RowKit
set_option linter.unusedVariables false

def wOf (t : Int × Int) (k : LkV) : Bool := k.write && decide (k.t = t)
theorem filter_at {p : LkV → Bool} {xs : List LkV} {j : Nat} (hj : j < xs.length) : (xs.take (j + 1)).filter p = (xs.take j).filter p ++ (if p (xs.getD j default) then [xs.getD j default] else []) := by
  rw [take_at hj, List.filter_append]
  simp only [List.filter_cons, List.filter_nil]

set_option maxRecDepth 100000 in
set_option maxHeartbeats 4000000 in
theorem writesOf_any (s : SV) (t : Int × Int) (w : World) (h : IsLocks w s.la s.ll s.lc s.locks) (h24 : s.ll ≤ 24) :
    Calls Try.prog 35 #[s.val, .agg #[.int .i64 t.1, .int .i64 t.2]] w fun e w' => ∃ (ao : Option Addr) (cp : Nat), e = .returned (.slice ao (s.locks.filter (wOf t)).length cp) ∧ IsLocks w' ao (s.locks.filter (wOf t)).length cp (s.locks.filter (wOf t)) ∧ (∀ b off, ao = some ⟨b, off, none⟩ → w.heap.size ≤ b ∧ b < w'.heap.size) ∧ Below w.heap.size w w' := by
  obtain ⟨i0, hi, li0, li1, li2⟩ := info_parts lkInfo
  obtain ⟨ia, il, ic, la, ll, lc, da, dl, dc, oa, ol, oc, items, locks, doubts, over⟩ := s
  obtain ⟨ts, tn⟩ := t
  simp only [SV.val] at *
  obtain ⟨hlen, hcap, hmax, _, hmem⟩ := h
  have HL : Hid (locks.length = ll) := hlen
  clear hlen
  unfold maxLen at hmax
  obtain ⟨P, eP⟩ : ∃ P, P = wOf (ts, tn) := ⟨_, rfl⟩
  have EP : Hid (∀ y, P y = (y.write && decide (y.t = (ts, tn)))) := by show ∀ _, _; rw [eP]; intro y; rfl
  rw [← eP]
  clear eP
  obtain ⟨W, hW⟩ : ∃ W : World, W = (w.alloc (.cells #[.slice ia il ic, .slice la ll lc, .slice da dl dc, .slice oa ol oc] 34)).alloc (.cells #[.int .i64 ts, .int .i64 tn] 28) := ⟨_, rfl⟩
  have hB : Below w.heap.size w W := by rw [hW]; exact ((Below.refl _ _).alloc (Nat.le_refl _) _).alloc (by simp) _
  have zW : W.heap.size = w.heap.size + 2 := by rw [hW]; simp
  have z0 : w.heap.size < W.heap.size := by omega
  have z1 : w.heap.size + 1 < W.heap.size := by omega
  clear zW
  have c0 : W.cell? ⟨w.heap.size, 0, none⟩ = some (.slice ia il ic) := by rw [hW]; go_simp
  have c1 : W.cell? ⟨w.heap.size, 1, none⟩ = some (.slice la ll lc) := by rw [hW]; go_simp
  have c2 : W.cell? ⟨w.heap.size, 2, none⟩ = some (.slice da dl dc) := by rw [hW]; go_simp
  have c3 : W.cell? ⟨w.heap.size, 3, none⟩ = some (.slice oa ol oc) := by rw [hW]; go_simp
  have c4 : W.cell? ⟨w.heap.size + 1, 0, none⟩ = some (.int .i64 ts) := by rw [hW]; go_simp
  have c5 : W.cell? ⟨w.heap.size + 1, 1, none⟩ = some (.int .i64 tn) := by rw [hW]; go_simp
  have KA : Hid (∀ U : World, Below W.heap.size W U → U.cell? ⟨w.heap.size, 0, none⟩ = some (.slice ia il ic) ∧ U.cell? ⟨w.heap.size, 1, none⟩ = some (.slice la ll lc) ∧ U.cell? ⟨w.heap.size, 2, none⟩ = some (.slice da dl dc) ∧ U.cell? ⟨w.heap.size, 3, none⟩ = some (.slice oa ol oc) ∧ U.cell? ⟨w.heap.size + 1, 0, none⟩ = some (.int .i64 ts) ∧ U.cell? ⟨w.heap.size + 1, 1, none⟩ = some (.int .i64 tn)) := fun U hU =>
    ⟨(hU.cell (p := ⟨w.heap.size, 0, none⟩) z0).trans c0, (hU.cell (p := ⟨w.heap.size, 1, none⟩) z0).trans c1, (hU.cell (p := ⟨w.heap.size, 2, none⟩) z0).trans c2, (hU.cell (p := ⟨w.heap.size, 3, none⟩) z0).trans c3, (hU.cell (p := ⟨w.heap.size + 1, 0, none⟩) z1).trans c4, (hU.cell (p := ⟨w.heap.size + 1, 1, none⟩) z1).trans c5⟩
  go_enter Try.func35, Try.ntmps35
  go_wp2
  rw [← hW]
  clear hW
  go_loopw [5, 11] (fun s5 s11 wr => ∃ (k : Nat) (ys : List LkV) (ao : Option Addr) (cp : Nat), k ≤ ll ∧ s11 = .int .i64 k ∧ s5 = .slice ao ys.length cp ∧ wr.ownsRow W.heap.size 87 6 (.slice ao ys.length cp) ys.length (flat LkV.cells ys) ∧ Hid (ys = (locks.take k).filter P) ∧ ys.length ≤ k ∧ Below W.heap.size W wr) (fun _ s11 _ => ll - (intOf s11).toNat)
  case atStart => exact ⟨0, [], none, 0, Nat.zero_le _, rfl, rfl, World.ownsRow_nil _ _ _ _, by show _ = _; simp, Nat.le_refl _, Below.refl _ _⟩
  case round =>
    obtain ⟨k, ys, ao, cp, hk, rfl, rfl, hown, hys, hyk, hb⟩ := hrel
    have hwr := hB.trans (hb.mono hB.size)
    clear c0 c1 c2 c3 c4 c5
    obtain ⟨c0, c1, c2, c3, c4, c5⟩ := KA.out _ hb
    by_cases hlt : k < ll
    · have hlt' : (k : Int) < (ll : Int) := by omega
      obtain ⟨b, off, rfl, zb, hc⟩ := hmem (by omega)
      have hkl : k < locks.length := by have := HL.out; omega
      have hcells := hc k hlt
      have n1 := filter_at (p := P) hkl
      obtain ⟨x, ex⟩ : ∃ x, x = locks.getD k default := ⟨_, rfl⟩
      rw [← ex] at hcells n1
      clear ex
      rw [EP.out, ← hys.out] at n1
      have N1 : Hid ((locks.take (k + 1)).filter P = ys ++ (if (x.write && decide (x.t = (ts, tn))) = true then [x] else [])) := n1
      clear n1 hys
      obtain ⟨⟨site, num⟩, key, write, value, ask⟩ := x
      have a0 := hcells 0 (by decide)
      have a1 := hcells 1 (by decide)
      have a2 := hcells 2 (by decide)
      have a3 := hcells 3 (by decide)
      have a4 := hcells 4 (by decide)
      have a5 := hcells 5 (by decide)
      simp [LkV.cells] at a0 a1 a2 a3 a4 a5
      rw [← hwr.cell (p := ⟨b, off + k * 6, none⟩) zb] at a0
      rw [← hwr.cell (p := ⟨b, off + k * 6 + 1, none⟩) zb] at a1
      rw [← hwr.cell (p := ⟨b, off + k * 6 + 2, none⟩) zb] at a2
      rw [← hwr.cell (p := ⟨b, off + k * 6 + 3, none⟩) zb] at a3
      rw [← hwr.cell (p := ⟨b, off + k * 6 + 4, none⟩) zb] at a4
      rw [← hwr.cell (p := ⟨b, off + k * 6 + 5, none⟩) zb] at a5
      clear hcells hc
      obtain ⟨V, hV⟩ : ∃ V : World, V = wr.alloc (.cells #[.int .i64 site, .int .i64 num, .int .i64 key, .bool write, .int .i64 value, .int .i64 ask] 87) := ⟨_, rfl⟩
      have bV : Below W.heap.size W V := by rw [hV]; exact hb.alloc hb.size _
      have oV : V.ownsRow W.heap.size 87 6 (.slice ao ys.length cp) ys.length (flat LkV.cells ys) := by rw [hV]; exact hown.alloc _
      have zV : wr.heap.size < V.heap.size := by rw [hV]; simp
      have b0 : V.cell? ⟨wr.heap.size, 0, none⟩ = some (.int .i64 site) := by rw [hV]; go_simp
      have b1 : V.cell? ⟨wr.heap.size, 1, none⟩ = some (.int .i64 num) := by rw [hV]; go_simp
      have b2 : V.cell? ⟨wr.heap.size, 2, none⟩ = some (.int .i64 key) := by rw [hV]; go_simp
      have b3 : V.cell? ⟨wr.heap.size, 3, none⟩ = some (.bool write) := by rw [hV]; go_simp
      have b4 : V.cell? ⟨wr.heap.size, 4, none⟩ = some (.int .i64 value) := by rw [hV]; go_simp
      have b5 : V.cell? ⟨wr.heap.size, 5, none⟩ = some (.int .i64 ask) := by rw [hV]; go_simp
      go_upto_region 5 with (fail)
      rw [← hV]
      clear hV a0 a1 a2 a3 a4 a5 c0 c1 c2 c3 c4 c5
      obtain ⟨c0, c1, c2, c3, c4, c5⟩ := KA.out _ bV
      obtain ⟨T, eT⟩ : ∃ T, T = (write && decide ((site, num) = (ts, tn))) := ⟨_, rfl⟩
      simp only at N1
      rw [← eT] at N1
      have ET : Hid (T = (write && decide ((site, num) = (ts, tn)))) := eT
      clear eT
      go_cut [22] (fun s22 wc => s22 = .bool T ∧ wc = V)
      case first =>
        clear N1
        go_wp2
        all_goals go_meet
        all_goals (refine ⟨?_, rfl⟩; rw [ET.out]; first | (simp_all; done) | (simp_all; rfl) | (simp_all; omega))
      case rest =>
        obtain ⟨rfl, rfl⟩ := hcut
        cases T with
        | false =>
          go_wp2
          go_roundw
          case rel => exact ⟨k + 1, ys, ao, cp, by omega, by go_num, rfl, oV, by show _ = _; rw [N1.out]; simp, by omega, bV⟩
          case measure => simp [intOf]; omega
        | true =>
          have zX : W.heap.size ≤ wc.heap.size := bV.size
          have hne : ∀ m, (Value.slice ao ys.length cp).ownBlock = some m → W.heap.size ≤ m ∧ m < wc.heap.size := fun m hm => oV.lt m hm
          go_upto_region 7 with (at_builtin; refine wpList_append_lies _ (by rfl) (.tmp 23) (.tmp 25) 30 (by rfl) W.heap.size 87 i0 (.agg #[.int .i64 0, .int .i64 0, .int .i64 0, .bool false, .int .i64 0, .int .i64 0]) 6 48 Try.underlying30 hi li0 li1 li2 rfl (by decide) (.slice ao ys.length cp) ys.length (flat LkV.cells ys) (by rfl) (oV.alloc _) ⟨wc.heap.size, 0, none⟩ 1 1 (LkV.cells ⟨(site, num), key, write, value, ask⟩) (by rfl) rfl (news_at #[.int .i64 site, .int .i64 num, .int .i64 key, .bool write, .int .i64 value, .int .i64 ask] _ rfl) (lk_one _) (by omega) (by unfold maxLen; omega) (by omega) (by simp; omega) _ rfl ?_; intro g5 c5' w5 own5 gr5 at5 lt5)
          have hb5 : Below W.heap.size W w5 := (bV.alloc bV.size _).grown gr5 (by simp; omega) (fun q hq => (hne q hq).1)
          have ezs : Hid ((locks.take (k + 1)).filter P = ys ++ [⟨(site, num), key, write, value, ask⟩]) := by show _ = _; rw [N1.out]; simp
          have hO : w5.ownsRow W.heap.size 87 6 (.slice (some ⟨g5, 0, none⟩) (ys.length + 1) c5') (ys.length + 1) (flat LkV.cells (ys ++ [⟨(site, num), key, write, value, ask⟩])) := by
            rw [flat_append]
            simpa [flat] using own5
          obtain ⟨zs, ez⟩ : ∃ zs, zs = ys ++ [(⟨(site, num), key, write, value, ask⟩ : LkV)] := ⟨_, rfl⟩
          have elz : Hid (zs.length = ys.length + 1) := by rw [ez]; show _ = _; simp
          rw [← ez] at ezs hO
          clear ez
          go_wp2
          go_roundw
          case rel =>
            refine ⟨k + 1, zs, some ⟨g5, 0, none⟩, c5', by omega, by go_num, ?_, ?_, ezs.out.symm, ?_, hb5⟩
            · rw [elz.out]
            · rw [elz.out]; exact hO
            · rw [elz.out]; omega
          case measure => simp [intOf]; omega
    · have hke : k = ll := by omega
      have etk : locks.take k = locks := List.take_of_length_le (by have := HL.out; omega)
      have hy' := hys.out
      rw [etk] at hy'
      clear etk hke hys
      subst hy'
      obtain ⟨hR, hN⟩ := own_isRow lk_len hown rfl
      go_wp2
      go_ret
      exact ⟨ao, cp, rfl, hR, fun b off e => by have := hN b off e; have := hB.size; omega, hwr⟩

def cntErr (s : SV) (t : Int × Int) : Int := if storeOK s then (if txOK t then 0 else 2) else 9
def cntIs (s : SV) (t : Int × Int) : Int := if cntErr s t = 0 then ((s.locks.filter (wOf t)).length : Int) else 0
theorem ok_24 {s : SV} (h : storeOK s = true) : s.locks.length ≤ 24 := by
  unfold storeOK locksOK at h
  simp only [Bool.and_eq_true, decide_eq_true_eq] at h
  exact h.1.1.2.1
end Go.Proofs.Ytifdjlhgcbkamaa.St
