/- The walk of the law PeekNothing. -/
import Derived.Test.YtbmbahifkegehabSKStore
import Derived.Test.YtbmbahifkegehabSKPeek
import Derived.Test.YtbmbahifkegehabSKEnd
import Derived.Test.YtbmbahifkegehabSKTells
namespace Go.Proofs.Ytbmbahifkegehab
open Go.ChangeShapes Go.WideShapes Go.ChangeAt Go.RowKit St
set_option linter.unusedVariables false

set_option maxRecDepth 100000 in
set_option maxHeartbeats 4000000 in
theorem peekNothing_walk (a : Option Addr) (len cap : Nat) (rs : List RV) (x key : Int) (w : World) (h : IsRaws w a len cap rs) (hx : (Lit.int .i64 x).wf = true) (hkey : (Lit.int .i64 key).wf = true) :
    Calls Try.prog 5 #[.slice a len cap, .int .i64 x, .int .i64 key] w fun e w' => e = .returned (.bool true) ∧ Below w.heap.size w w' := by
  have wx := i64_bd hx
  have wk := i64_bd hkey
  clear hx hkey
  have hbv : Below w.heap.size w w := Below.refl _ _
  have b1 := pk_bd x 9 (by decide)
  have b8 := pk_bd key 8 (by decide)
  have hw1 : IntKind.i64.wrap (1 + pk x 9) = 1 + pk x 9 := by apply wrap_in <;> omega
  have hTl := storeTells_any w
  have hs_h := h
  have hSt := fun w' h1 => store_made a len cap rs 30 w' h1 (by decide)
  go_enter Try.func5, Try.ntmps5
  go_upto_region 3 with ((go_at_call 15; refine (hTl).mono ?_; rintro e w1 ⟨rfl, hb1⟩; replace hs_h := hs_h.below hb1; replace hbv : Below w.heap.size w w1 := hbv.trans (hb1.mono hbv.size)))
  go_upto_region 4 with ((go_at_call 7; refine (hSt _ hs_h).mono ?_; rintro e w2 ⟨⟨sa0, sn0, sc0, sa1, sn1, sc1, sa2, sn2, sc2, sa3, sn3, sc3, sxi, sxl, sxd, sxo⟩, rfl, hO, hG, hb2⟩; simp only [SV.val]; replace hs_h := hs_h.below hb2; replace hbv : Below w.heap.size w w2 := hbv.trans (hb2.mono hbv.size); have hs_s := hO.isStore))
  clear hSt hO hTl
  obtain ⟨X3, eX3⟩ : ∃ X : World, X = w2.alloc (.cells #[.slice sa0 sn0 sc0, .slice sa1 sn1 sc1, .slice sa2 sn2 sc2, .slice sa3 sn3 sc3] 28) := ⟨_, rfl⟩
  have bX3 : Below w2.heap.size w2 X3 := by rw [eX3]; exact (Below.refl _ _).alloc (Nat.le_refl _) _
  have bx_s : BoxN X3 w2.heap.size 4 [.slice sa0 sn0 sc0, .slice sa1 sn1 sc1, .slice sa2 sn2 sc2, .slice sa3 sn3 sc3] := by rw [eX3]; exact boxn_new w2 #[.slice sa0 sn0 sc0, .slice sa1 sn1 sc1, .slice sa2 sn2 sc2, .slice sa3 sn3 sc3] 28 4 rfl
  rw [← eX3]
  obtain ⟨m_s, em_s⟩ : ∃ m, m = w2.heap.size := ⟨_, rfl⟩
  rw [← em_s] at bx_s ⊢
  clear em_s eX3
  replace hs_h := hs_h.below bX3
  replace hs_s := hs_s.below bX3
  replace hbv : Below w.heap.size w X3 := hbv.trans (bX3.mono hbv.size)
  have c_s0 := (bx_s.c 0 (by decide)).1
  have c_s1 := (bx_s.c 1 (by decide)).1
  have c_s2 := (bx_s.c 2 (by decide)).1
  have c_s3 := (bx_s.c 3 (by decide)).1
  have z_s := bx_s.lt
  simp only [List.getD_cons_zero, List.getD_cons_succ] at c_s0 c_s1 c_s2 c_s3
  go_upto_region 5 with ((go_at_call 8; refine (picked_any _ _ _ (by assumption) (by decide) (by decide)).mono ?_; rintro e u ⟨rfl, hu⟩; rw [hu]; clear hu))
  have h20 : sxl.length ≤ 20 := hG.locks20
  have hF : Fresh (SV.data ⟨sa0, sn0, sc0, sa1, sn1, sc1, sa2, sn2, sc2, sa3, sn3, sc3, sxi, sxl, sxd, sxo⟩) (3, 1 + pk x 9) := hG.fresh (by decide) (by decide) (by omega) (by omega)
  obtain ⟨K, eK⟩ : ∃ K, K = pk key 8 := ⟨_, rfl⟩
  rw [← eK] at b8 ⊢
  clear eK
  have hk : inR K 0 7 = true := inR_true b8.1 (by omega)
  have hCs := fun w' h1 => check_any ⟨sa0, sn0, sc0, sa1, sn1, sc1, sa2, sn2, sc2, sa3, sn3, sc3, sxi, sxl, sxd, sxo⟩ w' h1 hG.wf
  simp only [hG.ok.ok, SV.val, if_true] at hCs
  have hrd := read_fresh (s := ⟨sa0, sn0, sc0, sa1, sn1, sc1, sa2, sn2, sc2, sa3, sn3, sc3, sxi, sxl, sxd, sxo⟩) (k := K) hG.ok (by show sxl.length ≤ 22; omega) hF hk
  have hpk := peek_is (s := ⟨sa0, sn0, sc0, sa1, sn1, sc1, sa2, sn2, sc2, sa3, sn3, sc3, sxi, sxl, sxd, sxo⟩) hG.ok hk
  have hRd := fun w' h1 => read_own ⟨sa0, sn0, sc0, sa1, sn1, sc1, sa2, sn2, sc2, sa3, sn3, sc3, sxi, sxl, sxd, sxo⟩ (3, 1 + pk x 9) K w' h1 hG.wf (hG.h4 h1)
  have hPk := fun w' h1 => peek_any ⟨sa0, sn0, sc0, sa1, sn1, sc1, sa2, sn2, sc2, sa3, sn3, sc3, sxi, sxl, sxd, sxo⟩ K w' h1 hG.wf
  obtain ⟨D, eD⟩ : ∃ D, D = readData ⟨sa0, sn0, sc0, sa1, sn1, sc1, sa2, sn2, sc2, sa3, sn3, sc3, sxi, sxl, sxd, sxo⟩ (3, 1 + pk x 9) K := ⟨_, rfl⟩
  obtain ⟨I1, eI1⟩ : ∃ I, I = (itemAt sxi K).value := ⟨_, rfl⟩
  obtain ⟨I2, eI2⟩ : ∃ I, I = (itemAt sxi K).version := ⟨_, rfl⟩
  cases hA : sxl.any (wrT K) with
  | true =>
    obtain ⟨q1, q2, q3⟩ := hrd.1 hA
    obtain ⟨y1, y2, y3⟩ := hpk.1 hA
    simp only [q1, q2, q3, SV.val, ← eD] at hRd
    simp only [y1, y2, y3, SV.val] at hPk
    clear q1 q2 q3 y1 y2 y3 hrd hpk hA hF hG eD eI1 eI2
    go_upto_region 6 with ((go_at_call 16; refine (hPk _ hs_s).mono ?_; rintro e w4 ⟨rfl, hb4⟩; replace bx_s := bx_s.below hb4 bx_s.lt; replace hs_h := hs_h.below hb4; replace hs_s := hs_s.below hb4; replace hbv : Below w.heap.size w w4 := hbv.trans (hb4.mono hbv.size); clear c_s0 c_s1 c_s2 c_s3 z_s; have c_s0 := (bx_s.c 0 (by decide)).1; have c_s1 := (bx_s.c 1 (by decide)).1; have c_s2 := (bx_s.c 2 (by decide)).1; have c_s3 := (bx_s.c 3 (by decide)).1; have z_s := bx_s.lt; simp only [List.getD_cons_zero, List.getD_cons_succ] at c_s0 c_s1 c_s2 c_s3))
    go_upto_region 6 with (fail)
    have KX : Hid (∀ U, Below w4.heap.size w4 U → U.cell? ⟨m_s, 0, none⟩ = some (.slice sa0 sn0 sc0) ∧ U.cell? ⟨m_s, 1, none⟩ = some (.slice sa1 sn1 sc1) ∧ U.cell? ⟨m_s, 2, none⟩ = some (.slice sa2 sn2 sc2) ∧ U.cell? ⟨m_s, 3, none⟩ = some (.slice sa3 sn3 sc3)) := fun U hU => ⟨(hU.cell (p := ⟨m_s, 0, none⟩) z_s).trans c_s0, (hU.cell (p := ⟨m_s, 1, none⟩) z_s).trans c_s1, (hU.cell (p := ⟨m_s, 2, none⟩) z_s).trans c_s2, (hU.cell (p := ⟨m_s, 3, none⟩) z_s).trans c_s3⟩
    have HSX : Hid (∀ U, Below w4.heap.size w4 U → IsStore U ⟨sa0, sn0, sc0, sa1, sn1, sc1, sa2, sn2, sc2, sa3, sn3, sc3, sxi, sxl, sxd, sxo⟩) := fun U hU => hs_s.below hU
    go_cut [12, 13, 14, 15] (fun sp x0 x1 se wc => ∃ (q2 : Nat) (r2 : SV), sp = .pointer (some ⟨q2, 0, none⟩) ∧ x0 = .int .i64 0 ∧ x1 = .int .i64 0 ∧ se = .int .i64 11 ∧ BoxN wc q2 4 r2.box ∧ OwnStore wc w4.heap.size r2 ∧ r2.data = D ∧ Below w4.heap.size w4 wc)
    case first =>
      clear c_s0 c_s1 c_s2 c_s3 z_s
      go_region_held3 (fun U => U.cell? ⟨m_s, 0, none⟩ = some (.slice sa0 sn0 sc0) ∧ U.cell? ⟨m_s, 1, none⟩ = some (.slice sa1 sn1 sc1) ∧ U.cell? ⟨m_s, 2, none⟩ = some (.slice sa2 sn2 sc2) ∧ U.cell? ⟨m_s, 3, none⟩ = some (.slice sa3 sn3 sc3))
        (exact KX.out _ (by (with_reducible repeat (first | exact Below.refl _ _ | exact hu2 | refine nD ?_ | refine nA ?_ _ | refine nS ?_ (by first | omega | (simp; done)) _)); done))
        (first | (go_at_call 8; refine (picked_any _ _ _ (by assumption) (by decide) (by decide)).mono ?_; rintro e u ⟨rfl, hu⟩; rw [hu]; clear hu) | (go_at_call 10; refine (hRd _ (HSX.out _ (by (with_reducible repeat (first | exact Below.refl _ _ | exact hu2 | refine nD ?_ | refine nA ?_ _ | refine nS ?_ (by first | omega | (simp; done)) _)); done))).mono ?_; rintro e w2 ⟨⟨ua0, un0, uc0, ua1, un1, uc1, ua2, un2, uc2, ua3, un3, uc3, uxi, uxl, uxd, uxo⟩, rfl, hO2', hd2, hb2⟩; simp only []; have hu2 : Below w4.heap.size w4 w2 := nT (by (with_reducible repeat (first | exact Below.refl _ _ | exact hu2 | refine nD ?_ | refine nA ?_ _ | refine nS ?_ (by first | omega | (simp; done)) _)); done) hb2; have zu2 := hu2.size; (first | (have bx3 : BoxN w2 w4.heap.size 4 [.slice none 0 0, .slice none 0 0, .slice none 0 0, .slice none 0 0] := (boxn_new w4.drew #[.slice none 0 0, .slice none 0 0, .slice none 0 0, .slice none 0 0] 28 4 rfl).below hb2 (by simp); have s0 : _ = some (Value.slice none 0 0) := (bx3.c 0 (by decide)).1; have s1 : _ = some (Value.slice none 0 0) := (bx3.c 1 (by decide)).1; have s2 : _ = some (Value.slice none 0 0) := (bx3.c 2 (by decide)).1; have s3 : _ = some (Value.slice none 0 0) := (bx3.c 3 (by decide)).1; have g0 := (bx3.c 0 (by decide)).2; have g1 := (bx3.c 1 (by decide)).2; have g2 := (bx3.c 2 (by decide)).2; have g3 := (bx3.c 3 (by decide)).2; have zbx3 := bx3.lt) | skip)))
      all_goals
        go_wp2_with fail
        go_meet
        case rel => first | exact ⟨_, ⟨ua0, un0, uc0, ua1, un1, uc1, ua2, un2, uc2, ua3, un3, uc3, uxi, uxl, uxd, uxo⟩, rfl, rfl, rfl, rfl, (((bx3.set 0 (by decide) (.slice ua0 un0 uc0)).set 1 (by decide) (.slice ua1 un1 uc1)).set 2 (by decide) (.slice ua2 un2 uc2)).set 3 (by decide) (.slice ua3 un3 uc3), (hO2'.four (b := w4.heap.size) (by simp) _ _ _ _).base (by simp), hd2, by (with_reducible repeat (first | exact Below.refl _ _ | exact hu2 | refine nD ?_ | refine nA ?_ _ | refine nS ?_ (by first | omega | (simp; done)) _)); done⟩ | exact ⟨_, ⟨ua0, un0, uc0, ua1, un1, uc1, ua2, un2, uc2, ua3, un3, uc3, uxi, uxl, uxd, uxo⟩, rfl, rfl, rfl, rfl, boxn_new w2 #[.slice ua0 un0 uc0, .slice ua1 un1 uc1, .slice ua2 un2 uc2, .slice ua3 un3 uc3] _ 4 rfl, (hO2'.below ((Below.refl _ _).alloc (Nat.le_refl _) _)).base (by first | omega | (simp; done) | (simp; omega)), hd2, by (with_reducible repeat (first | exact Below.refl _ _ | exact hu2 | refine nD ?_ | refine nA ?_ _ | refine nS ?_ (by first | omega | (simp; done)) _)); done⟩
    case rest =>
      obtain ⟨m_u, ⟨ua0, un0, uc0, ua1, un1, uc1, ua2, un2, uc2, ua3, un3, uc3, uxi, uxl, uxd, uxo⟩, rfl, rfl, rfl, rfl, bx_u, hO, hd, bY5⟩ := hcut
      obtain ⟨Y5, eY5⟩ : ∃ Y, Y = wc := ⟨_, rfl⟩
      rw [← eY5] at bx_u hO bY5 ⊢
      simp only [SV.box] at bx_u
      clear eY5 KX HSX
      replace bx_s := bx_s.below bY5 bx_s.lt
      replace hs_h := hs_h.below bY5
      replace hs_s := hs_s.below bY5
      replace hbv : Below w.heap.size w Y5 := hbv.trans (bY5.mono hbv.size)
      have hs_u := hO.isStore
      clear c_s0 c_s1 c_s2 c_s3 z_s
      have c_s0 := (bx_s.c 0 (by decide)).1
      have c_s1 := (bx_s.c 1 (by decide)).1
      have c_s2 := (bx_s.c 2 (by decide)).1
      have c_s3 := (bx_s.c 3 (by decide)).1
      have z_s := bx_s.lt
      have c_u0 := (bx_u.c 0 (by decide)).1
      have c_u1 := (bx_u.c 1 (by decide)).1
      have c_u2 := (bx_u.c 2 (by decide)).1
      have c_u3 := (bx_u.c 3 (by decide)).1
      have z_u := bx_u.lt
      simp only [List.getD_cons_zero, List.getD_cons_succ] at c_s0 c_s1 c_s2 c_s3 c_u0 c_u1 c_u2 c_u3
      go_wp2_with ((go_at_call 14; refine (hCs _ hs_s).mono ?_; rintro e w6 ⟨rfl, hb6⟩; replace bx_s := bx_s.below hb6 bx_s.lt; replace bx_u := bx_u.below hb6 bx_u.lt; replace hs_h := hs_h.below hb6; replace hs_s := hs_s.below hb6; replace hs_u := hs_u.below hb6; replace hbv : Below w.heap.size w w6 := hbv.trans (hb6.mono hbv.size); clear c_s0 c_s1 c_s2 c_s3 z_s c_u0 c_u1 c_u2 c_u3 z_u; have c_s0 := (bx_s.c 0 (by decide)).1; have c_s1 := (bx_s.c 1 (by decide)).1; have c_s2 := (bx_s.c 2 (by decide)).1; have c_s3 := (bx_s.c 3 (by decide)).1; have z_s := bx_s.lt; have c_u0 := (bx_u.c 0 (by decide)).1; have c_u1 := (bx_u.c 1 (by decide)).1; have c_u2 := (bx_u.c 2 (by decide)).1; have c_u3 := (bx_u.c 3 (by decide)).1; have z_u := bx_u.lt; simp only [List.getD_cons_zero, List.getD_cons_succ] at c_s0 c_s1 c_s2 c_s3 c_u0 c_u1 c_u2 c_u3))
      go_ret
      exact ⟨rfl, hbv⟩
  | false =>
    obtain ⟨q1, q2, q3, q4⟩ := hrd.2 hA
    obtain ⟨y1, y2, y3⟩ := hpk.2 hA
    have hok2 := read_ok q1
    rw [← eD] at hok2 q4
    simp only [q1, q2, q3, SV.val, ← eD, ← eI1, ← eI2] at hRd
    simp only [y1, y2, y3, SV.val, ← eI1, ← eI2] at hPk
    have HA : Hid (sxl.any (wrT K) = false) := hA
    have HI1 : Hid (I1 = (itemAt sxi K).value) := eI1
    have HI2 : Hid (I2 = (itemAt sxi K).version) := eI2
    clear q1 q2 q3 y1 y2 y3 hrd hpk hA hG eD eI1 eI2
    go_upto_region 6 with ((go_at_call 16; refine (hPk _ hs_s).mono ?_; rintro e w4 ⟨rfl, hb4⟩; replace bx_s := bx_s.below hb4 bx_s.lt; replace hs_h := hs_h.below hb4; replace hs_s := hs_s.below hb4; replace hbv : Below w.heap.size w w4 := hbv.trans (hb4.mono hbv.size); clear c_s0 c_s1 c_s2 c_s3 z_s; have c_s0 := (bx_s.c 0 (by decide)).1; have c_s1 := (bx_s.c 1 (by decide)).1; have c_s2 := (bx_s.c 2 (by decide)).1; have c_s3 := (bx_s.c 3 (by decide)).1; have z_s := bx_s.lt; simp only [List.getD_cons_zero, List.getD_cons_succ] at c_s0 c_s1 c_s2 c_s3))
    go_upto_region 6 with (fail)
    have KX : Hid (∀ U, Below w4.heap.size w4 U → U.cell? ⟨m_s, 0, none⟩ = some (.slice sa0 sn0 sc0) ∧ U.cell? ⟨m_s, 1, none⟩ = some (.slice sa1 sn1 sc1) ∧ U.cell? ⟨m_s, 2, none⟩ = some (.slice sa2 sn2 sc2) ∧ U.cell? ⟨m_s, 3, none⟩ = some (.slice sa3 sn3 sc3)) := fun U hU => ⟨(hU.cell (p := ⟨m_s, 0, none⟩) z_s).trans c_s0, (hU.cell (p := ⟨m_s, 1, none⟩) z_s).trans c_s1, (hU.cell (p := ⟨m_s, 2, none⟩) z_s).trans c_s2, (hU.cell (p := ⟨m_s, 3, none⟩) z_s).trans c_s3⟩
    have HSX : Hid (∀ U, Below w4.heap.size w4 U → IsStore U ⟨sa0, sn0, sc0, sa1, sn1, sc1, sa2, sn2, sc2, sa3, sn3, sc3, sxi, sxl, sxd, sxo⟩) := fun U hU => hs_s.below hU
    go_cut [12, 13, 14, 15] (fun sp x0 x1 se wc => ∃ (q2 : Nat) (r2 : SV), sp = .pointer (some ⟨q2, 0, none⟩) ∧ x0 = .int .i64 I1 ∧ x1 = .int .i64 I2 ∧ se = .int .i64 0 ∧ BoxN wc q2 4 r2.box ∧ OwnStore wc w4.heap.size r2 ∧ r2.data = D ∧ Below w4.heap.size w4 wc)
    case first =>
      clear c_s0 c_s1 c_s2 c_s3 z_s
      go_region_held3 (fun U => U.cell? ⟨m_s, 0, none⟩ = some (.slice sa0 sn0 sc0) ∧ U.cell? ⟨m_s, 1, none⟩ = some (.slice sa1 sn1 sc1) ∧ U.cell? ⟨m_s, 2, none⟩ = some (.slice sa2 sn2 sc2) ∧ U.cell? ⟨m_s, 3, none⟩ = some (.slice sa3 sn3 sc3))
        (exact KX.out _ (by (with_reducible repeat (first | exact Below.refl _ _ | exact hu2 | refine nD ?_ | refine nA ?_ _ | refine nS ?_ (by first | omega | (simp; done)) _)); done))
        (first | (go_at_call 8; refine (picked_any _ _ _ (by assumption) (by decide) (by decide)).mono ?_; rintro e u ⟨rfl, hu⟩; rw [hu]; clear hu) | (go_at_call 10; refine (hRd _ (HSX.out _ (by (with_reducible repeat (first | exact Below.refl _ _ | exact hu2 | refine nD ?_ | refine nA ?_ _ | refine nS ?_ (by first | omega | (simp; done)) _)); done))).mono ?_; rintro e w2 ⟨⟨ua0, un0, uc0, ua1, un1, uc1, ua2, un2, uc2, ua3, un3, uc3, uxi, uxl, uxd, uxo⟩, rfl, hO2', hd2, hb2⟩; simp only []; have hu2 : Below w4.heap.size w4 w2 := nT (by (with_reducible repeat (first | exact Below.refl _ _ | exact hu2 | refine nD ?_ | refine nA ?_ _ | refine nS ?_ (by first | omega | (simp; done)) _)); done) hb2; have zu2 := hu2.size; (first | (have bx3 : BoxN w2 w4.heap.size 4 [.slice none 0 0, .slice none 0 0, .slice none 0 0, .slice none 0 0] := (boxn_new w4.drew #[.slice none 0 0, .slice none 0 0, .slice none 0 0, .slice none 0 0] 28 4 rfl).below hb2 (by simp); have s0 : _ = some (Value.slice none 0 0) := (bx3.c 0 (by decide)).1; have s1 : _ = some (Value.slice none 0 0) := (bx3.c 1 (by decide)).1; have s2 : _ = some (Value.slice none 0 0) := (bx3.c 2 (by decide)).1; have s3 : _ = some (Value.slice none 0 0) := (bx3.c 3 (by decide)).1; have g0 := (bx3.c 0 (by decide)).2; have g1 := (bx3.c 1 (by decide)).2; have g2 := (bx3.c 2 (by decide)).2; have g3 := (bx3.c 3 (by decide)).2; have zbx3 := bx3.lt) | skip)))
      all_goals
        go_wp2_with fail
        go_meet
        case rel => first | exact ⟨_, ⟨ua0, un0, uc0, ua1, un1, uc1, ua2, un2, uc2, ua3, un3, uc3, uxi, uxl, uxd, uxo⟩, rfl, rfl, rfl, rfl, (((bx3.set 0 (by decide) (.slice ua0 un0 uc0)).set 1 (by decide) (.slice ua1 un1 uc1)).set 2 (by decide) (.slice ua2 un2 uc2)).set 3 (by decide) (.slice ua3 un3 uc3), (hO2'.four (b := w4.heap.size) (by simp) _ _ _ _).base (by simp), hd2, by (with_reducible repeat (first | exact Below.refl _ _ | exact hu2 | refine nD ?_ | refine nA ?_ _ | refine nS ?_ (by first | omega | (simp; done)) _)); done⟩ | exact ⟨_, ⟨ua0, un0, uc0, ua1, un1, uc1, ua2, un2, uc2, ua3, un3, uc3, uxi, uxl, uxd, uxo⟩, rfl, rfl, rfl, rfl, boxn_new w2 #[.slice ua0 un0 uc0, .slice ua1 un1 uc1, .slice ua2 un2 uc2, .slice ua3 un3 uc3] _ 4 rfl, (hO2'.below ((Below.refl _ _).alloc (Nat.le_refl _) _)).base (by first | omega | (simp; done) | (simp; omega)), hd2, by (with_reducible repeat (first | exact Below.refl _ _ | exact hu2 | refine nD ?_ | refine nA ?_ _ | refine nS ?_ (by first | omega | (simp; done)) _)); done⟩
    case rest =>
      obtain ⟨m_u, ⟨ua0, un0, uc0, ua1, un1, uc1, ua2, un2, uc2, ua3, un3, uc3, uxi, uxl, uxd, uxo⟩, rfl, rfl, rfl, rfl, bx_u, hO, hd, bY5⟩ := hcut
      obtain ⟨Y5, eY5⟩ : ∃ Y, Y = wc := ⟨_, rfl⟩
      rw [← eY5] at bx_u hO bY5 ⊢
      simp only [SV.box] at bx_u
      clear eY5 KX HSX
      replace bx_s := bx_s.below bY5 bx_s.lt
      replace hs_h := hs_h.below bY5
      replace hs_s := hs_s.below bY5
      replace hbv : Below w.heap.size w Y5 := hbv.trans (bY5.mono hbv.size)
      have hs_u := hO.isStore
      clear c_s0 c_s1 c_s2 c_s3 z_s
      have c_s0 := (bx_s.c 0 (by decide)).1
      have c_s1 := (bx_s.c 1 (by decide)).1
      have c_s2 := (bx_s.c 2 (by decide)).1
      have c_s3 := (bx_s.c 3 (by decide)).1
      have z_s := bx_s.lt
      have c_u0 := (bx_u.c 0 (by decide)).1
      have c_u1 := (bx_u.c 1 (by decide)).1
      have c_u2 := (bx_u.c 2 (by decide)).1
      have c_u3 := (bx_u.c 3 (by decide)).1
      have z_u := bx_u.lt
      simp only [List.getD_cons_zero, List.getD_cons_succ] at c_s0 c_s1 c_s2 c_s3 c_u0 c_u1 c_u2 c_u3
      clear hRd hO
      rw [← hd] at hok2
      rw [q4] at hd
      clear q4
      have hP : Plus (SV.data ⟨sa0, sn0, sc0, sa1, sn1, sc1, sa2, sn2, sc2, sa3, sn3, sc3, sxi, sxl, sxd, sxo⟩) (SV.data ⟨ua0, un0, uc0, ua1, un1, uc1, ua2, un2, uc2, ua3, un3, uc3, uxi, uxl, uxd, uxo⟩) ⟨(3, 1 + pk x 9), K, false, 0, 0⟩ := Plus.of hd
      have hdl : uxl = sxl ++ [⟨(3, 1 + pk x 9), K, false, 0, 0⟩] := hP.locks
      have hdi : uxi = sxi := hP.items
      have hwu : uxl.any (wrT K) = false := by rw [hdl, List.any_append, HA.out]; simp [wrT]
      obtain ⟨p1, p2, p3⟩ := (peek_is (s := ⟨ua0, un0, uc0, ua1, un1, uc1, ua2, un2, uc2, ua3, un3, uc3, uxi, uxl, uxd, uxo⟩) hok2 hk).2 hwu
      have p2' : peekVal ⟨ua0, un0, uc0, ua1, un1, uc1, ua2, un2, uc2, ua3, un3, uc3, uxi, uxl, uxd, uxo⟩ K = I1 := by rw [p2, HI1.out]; show (itemAt uxi K).value = _; rw [hdi]
      have p3' : peekVer ⟨ua0, un0, uc0, ua1, un1, uc1, ua2, un2, uc2, ua3, un3, uc3, uxi, uxl, uxd, uxo⟩ K = I2 := by rw [p3, HI2.out]; show (itemAt uxi K).version = _; rw [hdi]
      have hPu := fun w' h1 => peek_any ⟨ua0, un0, uc0, ua1, un1, uc1, ua2, un2, uc2, ua3, un3, uc3, uxi, uxl, uxd, uxo⟩ K w' h1 hok2.wf
      simp only [p1, p2', p3', SV.val] at hPu
      clear p1 p2 p3 p2' p3' hP hd hok2 hF hdl hdi hwu hPk
      go_upto_region 11 with ((go_at_call 14; refine (hCs _ hs_s).mono ?_; rintro e w6 ⟨rfl, hb6⟩; replace bx_s := bx_s.below hb6 bx_s.lt; replace bx_u := bx_u.below hb6 bx_u.lt; replace hs_h := hs_h.below hb6; replace hs_s := hs_s.below hb6; replace hs_u := hs_u.below hb6; replace hbv : Below w.heap.size w w6 := hbv.trans (hb6.mono hbv.size); clear c_s0 c_s1 c_s2 c_s3 z_s c_u0 c_u1 c_u2 c_u3 z_u; have c_s0 := (bx_s.c 0 (by decide)).1; have c_s1 := (bx_s.c 1 (by decide)).1; have c_s2 := (bx_s.c 2 (by decide)).1; have c_s3 := (bx_s.c 3 (by decide)).1; have z_s := bx_s.lt; have c_u0 := (bx_u.c 0 (by decide)).1; have c_u1 := (bx_u.c 1 (by decide)).1; have c_u2 := (bx_u.c 2 (by decide)).1; have c_u3 := (bx_u.c 3 (by decide)).1; have z_u := bx_u.lt; simp only [List.getD_cons_zero, List.getD_cons_succ] at c_s0 c_s1 c_s2 c_s3 c_u0 c_u1 c_u2 c_u3))
      go_wp2_with ((go_at_call 16; refine (hPu _ hs_u).mono ?_; rintro e w7 ⟨rfl, hb7⟩; replace bx_s := bx_s.below hb7 bx_s.lt; replace bx_u := bx_u.below hb7 bx_u.lt; replace hs_h := hs_h.below hb7; replace hs_s := hs_s.below hb7; replace hs_u := hs_u.below hb7; replace hbv : Below w.heap.size w w7 := hbv.trans (hb7.mono hbv.size); clear c_s0 c_s1 c_s2 c_s3 z_s c_u0 c_u1 c_u2 c_u3 z_u; have c_s0 := (bx_s.c 0 (by decide)).1; have c_s1 := (bx_s.c 1 (by decide)).1; have c_s2 := (bx_s.c 2 (by decide)).1; have c_s3 := (bx_s.c 3 (by decide)).1; have z_s := bx_s.lt; have c_u0 := (bx_u.c 0 (by decide)).1; have c_u1 := (bx_u.c 1 (by decide)).1; have c_u2 := (bx_u.c 2 (by decide)).1; have c_u3 := (bx_u.c 3 (by decide)).1; have z_u := bx_u.lt; simp only [List.getD_cons_zero, List.getD_cons_succ] at c_s0 c_s1 c_s2 c_s3 c_u0 c_u1 c_u2 c_u3))
      go_ret
      exact ⟨rfl, hbv⟩
end Go.Proofs.Ytbmbahifkegehab
