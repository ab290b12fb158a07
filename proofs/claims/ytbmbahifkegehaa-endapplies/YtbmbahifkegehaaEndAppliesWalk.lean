/- The walk of the law EndApplies. -/
import Derived.Test.YtbmbahifkegehaaSKStore
import Derived.Test.YtbmbahifkegehaaSKPeek
import Derived.Test.YtbmbahifkegehaaSKEnd
namespace Go.Proofs.Ytbmbahifkegehaa
open Go.ChangeShapes Go.WideShapes Go.ChangeAt Go.RowKit St
set_option linter.unusedVariables false

set_option maxRecDepth 100000 in
set_option maxHeartbeats 4000000 in
theorem endApplies_walk (a : Option Addr) (len cap : Nat) (rs : List RV) (x key v : Int) (yes : Bool) (w : World) (h : IsRaws w a len cap rs) (hx : (Lit.int .i64 x).wf = true) (hkey : (Lit.int .i64 key).wf = true) (hv : (Lit.int .i64 v).wf = true) :
    Calls Try.prog 8 #[.slice a len cap, .int .i64 x, .int .i64 key, .int .i64 v, .bool yes] w fun e w' => e = .returned (.bool true) ∧ Below w.heap.size w w' := by
  have wx := i64_bd hx
  have wk := i64_bd hkey
  have wv := i64_bd hv
  clear hx hkey hv
  have hbv : Below w.heap.size w w := Below.refl _ _
  have b1 := pk_bd x 9 (by decide)
  have b8 := pk_bd key 8 (by decide)
  have bv := pk_bd v 99 (by decide)
  have hw1 : IntKind.i64.wrap (1 + pk x 9) = 1 + pk x 9 := by apply wrap_in <;> omega
  have hSt := store_made a len cap rs 30 w h (by decide)
  go_enter Try.func8, Try.ntmps8
  go_upto_region 2 with ((go_at_call 13; refine (hSt).mono ?_; rintro e w1 ⟨⟨sa0, sn0, sc0, sa1, sn1, sc1, sa2, sn2, sc2, sa3, sn3, sc3, sxi, sxl, sxd, sxo⟩, rfl, hO, hG, hb1⟩; simp only [SV.val]; replace hbv : Below w.heap.size w w1 := hbv.trans (hb1.mono hbv.size); have hs_s := hO.isStore))
  clear hSt hO
  obtain ⟨X2, eX2⟩ : ∃ X : World, X = w1.alloc (.cells #[.slice sa0 sn0 sc0, .slice sa1 sn1 sc1, .slice sa2 sn2 sc2, .slice sa3 sn3 sc3] 27) := ⟨_, rfl⟩
  have bX2 : Below w1.heap.size w1 X2 := by rw [eX2]; exact (Below.refl _ _).alloc (Nat.le_refl _) _
  have bx_s : BoxN X2 w1.heap.size 4 [.slice sa0 sn0 sc0, .slice sa1 sn1 sc1, .slice sa2 sn2 sc2, .slice sa3 sn3 sc3] := by rw [eX2]; exact boxn_new w1 #[.slice sa0 sn0 sc0, .slice sa1 sn1 sc1, .slice sa2 sn2 sc2, .slice sa3 sn3 sc3] 27 4 rfl
  rw [← eX2]
  obtain ⟨m_s, em_s⟩ : ∃ m, m = w1.heap.size := ⟨_, rfl⟩
  rw [← em_s] at bx_s ⊢
  clear em_s eX2
  replace hs_s := hs_s.below bX2
  replace hbv : Below w.heap.size w X2 := hbv.trans (bX2.mono hbv.size)
  have c_s0 := (bx_s.c 0 (by decide)).1
  have c_s1 := (bx_s.c 1 (by decide)).1
  have c_s2 := (bx_s.c 2 (by decide)).1
  have c_s3 := (bx_s.c 3 (by decide)).1
  have z_s := bx_s.lt
  simp only [List.getD_cons_zero, List.getD_cons_succ] at c_s0 c_s1 c_s2 c_s3
  go_upto_region 3 with ((go_at_call 16; refine (picked_any _ _ _ (by assumption) (by decide) (by decide)).mono ?_; rintro e u ⟨rfl, hu⟩; rw [hu]; clear hu))
  obtain ⟨X3, eX3⟩ : ∃ X : World, X = X2.alloc (.cells #[.int .i64 2, .int .i64 (1 + pk x 9)] 29) := ⟨_, rfl⟩
  have bX3 : Below X2.heap.size X2 X3 := by rw [eX3]; exact (Below.refl _ _).alloc (Nat.le_refl _) _
  have bx_x : BoxN X3 X2.heap.size 2 [.int .i64 2, .int .i64 (1 + pk x 9)] := by rw [eX3]; exact boxn_new X2 #[.int .i64 2, .int .i64 (1 + pk x 9)] 29 2 rfl
  rw [← eX3]
  obtain ⟨m_x, em_x⟩ : ∃ m, m = X2.heap.size := ⟨_, rfl⟩
  rw [← em_x] at bx_x ⊢
  clear em_x eX3
  replace bx_s := bx_s.below bX3 bx_s.lt
  replace hs_s := hs_s.below bX3
  replace hbv : Below w.heap.size w X3 := hbv.trans (bX3.mono hbv.size)
  clear c_s0 c_s1 c_s2 c_s3 z_s
  have c_s0 := (bx_s.c 0 (by decide)).1
  have c_s1 := (bx_s.c 1 (by decide)).1
  have c_s2 := (bx_s.c 2 (by decide)).1
  have c_s3 := (bx_s.c 3 (by decide)).1
  have z_s := bx_s.lt
  have c_x0 := (bx_x.c 0 (by decide)).1
  have c_x1 := (bx_x.c 1 (by decide)).1
  have z_x := bx_x.lt
  simp only [List.getD_cons_zero, List.getD_cons_succ] at c_s0 c_s1 c_s2 c_s3 c_x0 c_x1
  go_upto_region 4 with ((go_at_call 16; refine (picked_any _ _ _ (by assumption) (by decide) (by decide)).mono ?_; rintro e u ⟨rfl, hu⟩; rw [hu]; clear hu))
  have h20 : sxl.length ≤ 20 := hG.locks20
  have hF : Fresh (SV.data ⟨sa0, sn0, sc0, sa1, sn1, sc1, sa2, sn2, sc2, sa3, sn3, sc3, sxi, sxl, sxd, sxo⟩) (2, 1 + pk x 9) := hG.fresh (by decide) (by decide) (by omega) (by omega)
  obtain ⟨N1, eN1⟩ : ∃ N, N = 1 + pk x 9 := ⟨_, rfl⟩
  rw [← eN1] at hF hw1 bx_x c_x1 ⊢
  obtain ⟨K, eK⟩ : ∃ K, K = pk key 8 := ⟨_, rfl⟩
  rw [← eK] at b8 ⊢
  clear eN1 eK hw1 b1
  have hk : inR K 0 7 = true := inR_true b8.1 (by omega)
  have hv : inR (pk v 99) 0 1073741824 = true := inR_true bv.1 (by omega)
  have hCs := fun w' h1 => check_any ⟨sa0, sn0, sc0, sa1, sn1, sc1, sa2, sn2, sc2, sa3, sn3, sc3, sxi, sxl, sxd, sxo⟩ w' h1 hG.wf
  simp only [hG.ok.ok, SV.val, if_true] at hCs
  have hver : ∀ y ∈ sxi, y.version ≤ 1048000 := fun y hy => by have := hG.ver y hy; omega
  have hwt := write_fresh (s := ⟨sa0, sn0, sc0, sa1, sn1, sc1, sa2, sn2, sc2, sa3, sn3, sc3, sxi, sxl, sxd, sxo⟩) (k := K) (va := pk v 99) (ask := 0) hG.ok (by show sxl.length ≤ 22; omega) hF hk hv (by decide) hver
  have hWr := fun w' h1 => write_own ⟨sa0, sn0, sc0, sa1, sn1, sc1, sa2, sn2, sc2, sa3, sn3, sc3, sxi, sxl, sxd, sxo⟩ (2, N1) K (pk v 99) 0 w' h1 hG.wf (hG.h4 h1)
  have hPk := fun w' h1 => peek_any ⟨sa0, sn0, sc0, sa1, sn1, sc1, sa2, sn2, sc2, sa3, sn3, sc3, sxi, sxl, sxd, sxo⟩ K w' h1 hG.wf
  have HOT : Hid (∀ t ∈ sxo, TxWf t) := hG.wf
  have HOL : Hid (sxo.length ≤ 4) := hG.over4
  obtain ⟨D, eD⟩ : ∃ D, D = writeData ⟨sa0, sn0, sc0, sa1, sn1, sc1, sa2, sn2, sc2, sa3, sn3, sc3, sxi, sxl, sxd, sxo⟩ (2, N1) K (pk v 99) 0 := ⟨_, rfl⟩
  cases hA : sxl.any (othT (2, N1) K) with
  | true =>
    have q1 := hwt.1 hA
    simp only [q1, SV.val, ← eD] at hWr
    obtain ⟨P0, eP0⟩ : ∃ P, P = peekErr ⟨sa0, sn0, sc0, sa1, sn1, sc1, sa2, sn2, sc2, sa3, sn3, sc3, sxi, sxl, sxd, sxo⟩ K := ⟨_, rfl⟩
    obtain ⟨P1, eP1⟩ : ∃ P, P = peekVal ⟨sa0, sn0, sc0, sa1, sn1, sc1, sa2, sn2, sc2, sa3, sn3, sc3, sxi, sxl, sxd, sxo⟩ K := ⟨_, rfl⟩
    obtain ⟨P2, eP2⟩ : ∃ P, P = peekVer ⟨sa0, sn0, sc0, sa1, sn1, sc1, sa2, sn2, sc2, sa3, sn3, sc3, sxi, sxl, sxd, sxo⟩ K := ⟨_, rfl⟩
    simp only [← eP0, ← eP1, ← eP2, SV.val] at hPk
    clear q1 hwt hA hF hver hG eD eP0 eP1 eP2
    go_upto_region 5 with ((go_at_call 17; refine (hPk _ hs_s).mono ?_; rintro e w4 ⟨rfl, hb4⟩; replace bx_s := bx_s.below hb4 bx_s.lt; replace bx_x := bx_x.below hb4 bx_x.lt; replace hs_s := hs_s.below hb4; replace hbv : Below w.heap.size w w4 := hbv.trans (hb4.mono hbv.size); clear c_s0 c_s1 c_s2 c_s3 z_s c_x0 c_x1 z_x; have c_s0 := (bx_s.c 0 (by decide)).1; have c_s1 := (bx_s.c 1 (by decide)).1; have c_s2 := (bx_s.c 2 (by decide)).1; have c_s3 := (bx_s.c 3 (by decide)).1; have z_s := bx_s.lt; have c_x0 := (bx_x.c 0 (by decide)).1; have c_x1 := (bx_x.c 1 (by decide)).1; have z_x := bx_x.lt; simp only [List.getD_cons_zero, List.getD_cons_succ] at c_s0 c_s1 c_s2 c_s3 c_x0 c_x1))
    go_upto_region 5 with (fail)
    have KX : Hid (∀ U, Below w4.heap.size w4 U → U.cell? ⟨m_s, 0, none⟩ = some (.slice sa0 sn0 sc0) ∧ U.cell? ⟨m_s, 1, none⟩ = some (.slice sa1 sn1 sc1) ∧ U.cell? ⟨m_s, 2, none⟩ = some (.slice sa2 sn2 sc2) ∧ U.cell? ⟨m_s, 3, none⟩ = some (.slice sa3 sn3 sc3) ∧ U.cell? ⟨m_x, 0, none⟩ = some (.int .i64 2) ∧ U.cell? ⟨m_x, 1, none⟩ = some (.int .i64 N1)) := fun U hU => ⟨(hU.cell (p := ⟨m_s, 0, none⟩) z_s).trans c_s0, (hU.cell (p := ⟨m_s, 1, none⟩) z_s).trans c_s1, (hU.cell (p := ⟨m_s, 2, none⟩) z_s).trans c_s2, (hU.cell (p := ⟨m_s, 3, none⟩) z_s).trans c_s3, (hU.cell (p := ⟨m_x, 0, none⟩) z_x).trans c_x0, (hU.cell (p := ⟨m_x, 1, none⟩) z_x).trans c_x1⟩
    have HSX : Hid (∀ U, Below w4.heap.size w4 U → IsStore U ⟨sa0, sn0, sc0, sa1, sn1, sc1, sa2, sn2, sc2, sa3, sn3, sc3, sxi, sxl, sxd, sxo⟩) := fun U hU => hs_s.below hU
    go_cut [17, 18] (fun sp se wc => ∃ (q2 : Nat) (r2 : SV), sp = .pointer (some ⟨q2, 0, none⟩) ∧ se = .int .i64 11 ∧ BoxN wc q2 4 r2.box ∧ OwnStore wc w4.heap.size r2 ∧ r2.data = D ∧ Below w4.heap.size w4 wc)
    case first =>
      clear c_s0 c_s1 c_s2 c_s3 z_s c_x0 c_x1 z_x
      go_region_held3 (fun U => U.cell? ⟨m_s, 0, none⟩ = some (.slice sa0 sn0 sc0) ∧ U.cell? ⟨m_s, 1, none⟩ = some (.slice sa1 sn1 sc1) ∧ U.cell? ⟨m_s, 2, none⟩ = some (.slice sa2 sn2 sc2) ∧ U.cell? ⟨m_s, 3, none⟩ = some (.slice sa3 sn3 sc3) ∧ U.cell? ⟨m_x, 0, none⟩ = some (.int .i64 2) ∧ U.cell? ⟨m_x, 1, none⟩ = some (.int .i64 N1))
        (exact KX.out _ (by (with_reducible repeat (first | exact Below.refl _ _ | exact hu2 | refine nD ?_ | refine nA ?_ _ | refine nS ?_ (by first | omega | (simp; done)) _)); done))
        (first | (go_at_call 16; refine (picked_any _ _ _ (by assumption) (by decide) (by decide)).mono ?_; rintro e u ⟨rfl, hu⟩; rw [hu]; clear hu) | (go_at_call 20; refine (hWr _ (HSX.out _ (by (with_reducible repeat (first | exact Below.refl _ _ | exact hu2 | refine nD ?_ | refine nA ?_ _ | refine nS ?_ (by first | omega | (simp; done)) _)); done))).mono ?_; rintro e w2 ⟨⟨ua0, un0, uc0, ua1, un1, uc1, ua2, un2, uc2, ua3, un3, uc3, uxi, uxl, uxd, uxo⟩, rfl, hO2', hd2, hb2⟩; simp only []; have hu2 : Below w4.heap.size w4 w2 := nT (by (with_reducible repeat (first | exact Below.refl _ _ | exact hu2 | refine nD ?_ | refine nA ?_ _ | refine nS ?_ (by first | omega | (simp; done)) _)); done) hb2; have zu2 := hu2.size; (first | (have bx3 : BoxN w2 w4.heap.size 4 [.slice none 0 0, .slice none 0 0, .slice none 0 0, .slice none 0 0] := (boxn_new w4.drew #[.slice none 0 0, .slice none 0 0, .slice none 0 0, .slice none 0 0] 27 4 rfl).below hb2 (by simp); have s0 : _ = some (Value.slice none 0 0) := (bx3.c 0 (by decide)).1; have s1 : _ = some (Value.slice none 0 0) := (bx3.c 1 (by decide)).1; have s2 : _ = some (Value.slice none 0 0) := (bx3.c 2 (by decide)).1; have s3 : _ = some (Value.slice none 0 0) := (bx3.c 3 (by decide)).1; have g0 := (bx3.c 0 (by decide)).2; have g1 := (bx3.c 1 (by decide)).2; have g2 := (bx3.c 2 (by decide)).2; have g3 := (bx3.c 3 (by decide)).2; have zbx3 := bx3.lt) | skip)))
      all_goals
        go_wp2_with fail
        go_meet
        case rel => first | exact ⟨_, ⟨ua0, un0, uc0, ua1, un1, uc1, ua2, un2, uc2, ua3, un3, uc3, uxi, uxl, uxd, uxo⟩, rfl, rfl, (((bx3.set 0 (by decide) (.slice ua0 un0 uc0)).set 1 (by decide) (.slice ua1 un1 uc1)).set 2 (by decide) (.slice ua2 un2 uc2)).set 3 (by decide) (.slice ua3 un3 uc3), (hO2'.four (b := w4.heap.size) (by simp) _ _ _ _).base (by simp), hd2, by (with_reducible repeat (first | exact Below.refl _ _ | exact hu2 | refine nD ?_ | refine nA ?_ _ | refine nS ?_ (by first | omega | (simp; done)) _)); done⟩ | exact ⟨_, ⟨ua0, un0, uc0, ua1, un1, uc1, ua2, un2, uc2, ua3, un3, uc3, uxi, uxl, uxd, uxo⟩, rfl, rfl, boxn_new w2 #[.slice ua0 un0 uc0, .slice ua1 un1 uc1, .slice ua2 un2 uc2, .slice ua3 un3 uc3] _ 4 rfl, (hO2'.below ((Below.refl _ _).alloc (Nat.le_refl _) _)).base (by first | omega | (simp; done) | (simp; omega)), hd2, by (with_reducible repeat (first | exact Below.refl _ _ | exact hu2 | refine nD ?_ | refine nA ?_ _ | refine nS ?_ (by first | omega | (simp; done)) _)); done⟩
    case rest =>
      obtain ⟨m_u, ⟨ua0, un0, uc0, ua1, un1, uc1, ua2, un2, uc2, ua3, un3, uc3, uxi, uxl, uxd, uxo⟩, rfl, rfl, bx_u, hO, hd, bY5⟩ := hcut
      obtain ⟨Y5, eY5⟩ : ∃ Y, Y = wc := ⟨_, rfl⟩
      rw [← eY5] at bx_u hO bY5 ⊢
      simp only [SV.box] at bx_u
      clear eY5 KX HSX
      replace bx_s := bx_s.below bY5 bx_s.lt
      replace bx_x := bx_x.below bY5 bx_x.lt
      replace hs_s := hs_s.below bY5
      replace hbv : Below w.heap.size w Y5 := hbv.trans (bY5.mono hbv.size)
      have hs_u := hO.isStore
      clear c_s0 c_s1 c_s2 c_s3 z_s c_x0 c_x1 z_x
      have c_s0 := (bx_s.c 0 (by decide)).1
      have c_s1 := (bx_s.c 1 (by decide)).1
      have c_s2 := (bx_s.c 2 (by decide)).1
      have c_s3 := (bx_s.c 3 (by decide)).1
      have z_s := bx_s.lt
      have c_x0 := (bx_x.c 0 (by decide)).1
      have c_x1 := (bx_x.c 1 (by decide)).1
      have z_x := bx_x.lt
      have c_u0 := (bx_u.c 0 (by decide)).1
      have c_u1 := (bx_u.c 1 (by decide)).1
      have c_u2 := (bx_u.c 2 (by decide)).1
      have c_u3 := (bx_u.c 3 (by decide)).1
      have z_u := bx_u.lt
      simp only [List.getD_cons_zero, List.getD_cons_succ] at c_s0 c_s1 c_s2 c_s3 c_x0 c_x1 c_u0 c_u1 c_u2 c_u3
      go_wp2_with ((go_at_call 15; refine (hCs _ hs_s).mono ?_; rintro e w6 ⟨rfl, hb6⟩; replace bx_s := bx_s.below hb6 bx_s.lt; replace bx_x := bx_x.below hb6 bx_x.lt; replace bx_u := bx_u.below hb6 bx_u.lt; replace hs_s := hs_s.below hb6; replace hs_u := hs_u.below hb6; replace hbv : Below w.heap.size w w6 := hbv.trans (hb6.mono hbv.size); clear c_s0 c_s1 c_s2 c_s3 z_s c_x0 c_x1 z_x c_u0 c_u1 c_u2 c_u3 z_u; have c_s0 := (bx_s.c 0 (by decide)).1; have c_s1 := (bx_s.c 1 (by decide)).1; have c_s2 := (bx_s.c 2 (by decide)).1; have c_s3 := (bx_s.c 3 (by decide)).1; have z_s := bx_s.lt; have c_x0 := (bx_x.c 0 (by decide)).1; have c_x1 := (bx_x.c 1 (by decide)).1; have z_x := bx_x.lt; have c_u0 := (bx_u.c 0 (by decide)).1; have c_u1 := (bx_u.c 1 (by decide)).1; have c_u2 := (bx_u.c 2 (by decide)).1; have c_u3 := (bx_u.c 3 (by decide)).1; have z_u := bx_u.lt; simp only [List.getD_cons_zero, List.getD_cons_succ] at c_s0 c_s1 c_s2 c_s3 c_x0 c_x1 c_u0 c_u1 c_u2 c_u3))
      go_ret
      exact ⟨rfl, hbv⟩
  | false =>
    obtain ⟨q1, q4⟩ := hwt.2 hA
    have hok2 := write_ok q1
    have hwr := oth_wr hF hA
    obtain ⟨p1, p2, p3⟩ := (peek_is (s := ⟨sa0, sn0, sc0, sa1, sn1, sc1, sa2, sn2, sc2, sa3, sn3, sc3, sxi, sxl, sxd, sxo⟩) hG.ok hk).2 hwr
    simp only [p1, p2, p3, SV.val] at hPk
    simp only [q1, SV.val, ← eD] at hWr
    rw [← eD] at hok2 q4
    have hio := hG.ok.items
    have hi2 := itemAt_bd (l := sxi) (k := K) (v := 1048000) (by omega) hver
    have hi0 : 0 ≤ (itemAt sxi K).version := by
      have hge := itemsOK_ge sxi 0 hio
      by_cases hidx : idxI (kyT K) sxi < 0
      · unfold itemAt; rw [if_pos hidx]; exact Int.le_refl _
      · obtain ⟨i, ei, hil, _, _⟩ := mem_of_idx hidx
        unfold itemAt; rw [if_neg hidx, ei]
        have := (hge _ (getD_mem hil)).2.2.1
        simp only [Int.toNat_natCast]
        omega
    clear q1 hwt hA hG eD p1 p2 p3
    go_upto_region 5 with ((go_at_call 17; refine (hPk _ hs_s).mono ?_; rintro e w4 ⟨rfl, hb4⟩; replace bx_s := bx_s.below hb4 bx_s.lt; replace bx_x := bx_x.below hb4 bx_x.lt; replace hs_s := hs_s.below hb4; replace hbv : Below w.heap.size w w4 := hbv.trans (hb4.mono hbv.size); clear c_s0 c_s1 c_s2 c_s3 z_s c_x0 c_x1 z_x; have c_s0 := (bx_s.c 0 (by decide)).1; have c_s1 := (bx_s.c 1 (by decide)).1; have c_s2 := (bx_s.c 2 (by decide)).1; have c_s3 := (bx_s.c 3 (by decide)).1; have z_s := bx_s.lt; have c_x0 := (bx_x.c 0 (by decide)).1; have c_x1 := (bx_x.c 1 (by decide)).1; have z_x := bx_x.lt; simp only [List.getD_cons_zero, List.getD_cons_succ] at c_s0 c_s1 c_s2 c_s3 c_x0 c_x1))
    go_upto_region 5 with (fail)
    have KX : Hid (∀ U, Below w4.heap.size w4 U → U.cell? ⟨m_s, 0, none⟩ = some (.slice sa0 sn0 sc0) ∧ U.cell? ⟨m_s, 1, none⟩ = some (.slice sa1 sn1 sc1) ∧ U.cell? ⟨m_s, 2, none⟩ = some (.slice sa2 sn2 sc2) ∧ U.cell? ⟨m_s, 3, none⟩ = some (.slice sa3 sn3 sc3) ∧ U.cell? ⟨m_x, 0, none⟩ = some (.int .i64 2) ∧ U.cell? ⟨m_x, 1, none⟩ = some (.int .i64 N1)) := fun U hU => ⟨(hU.cell (p := ⟨m_s, 0, none⟩) z_s).trans c_s0, (hU.cell (p := ⟨m_s, 1, none⟩) z_s).trans c_s1, (hU.cell (p := ⟨m_s, 2, none⟩) z_s).trans c_s2, (hU.cell (p := ⟨m_s, 3, none⟩) z_s).trans c_s3, (hU.cell (p := ⟨m_x, 0, none⟩) z_x).trans c_x0, (hU.cell (p := ⟨m_x, 1, none⟩) z_x).trans c_x1⟩
    have HSX : Hid (∀ U, Below w4.heap.size w4 U → IsStore U ⟨sa0, sn0, sc0, sa1, sn1, sc1, sa2, sn2, sc2, sa3, sn3, sc3, sxi, sxl, sxd, sxo⟩) := fun U hU => hs_s.below hU
    go_cut [17, 18] (fun sp se wc => ∃ (q2 : Nat) (r2 : SV), sp = .pointer (some ⟨q2, 0, none⟩) ∧ se = .int .i64 0 ∧ BoxN wc q2 4 r2.box ∧ OwnStore wc w4.heap.size r2 ∧ r2.data = D ∧ Below w4.heap.size w4 wc)
    case first =>
      clear c_s0 c_s1 c_s2 c_s3 z_s c_x0 c_x1 z_x
      go_region_held3 (fun U => U.cell? ⟨m_s, 0, none⟩ = some (.slice sa0 sn0 sc0) ∧ U.cell? ⟨m_s, 1, none⟩ = some (.slice sa1 sn1 sc1) ∧ U.cell? ⟨m_s, 2, none⟩ = some (.slice sa2 sn2 sc2) ∧ U.cell? ⟨m_s, 3, none⟩ = some (.slice sa3 sn3 sc3) ∧ U.cell? ⟨m_x, 0, none⟩ = some (.int .i64 2) ∧ U.cell? ⟨m_x, 1, none⟩ = some (.int .i64 N1))
        (exact KX.out _ (by (with_reducible repeat (first | exact Below.refl _ _ | exact hu2 | refine nD ?_ | refine nA ?_ _ | refine nS ?_ (by first | omega | (simp; done)) _)); done))
        (first | (go_at_call 16; refine (picked_any _ _ _ (by assumption) (by decide) (by decide)).mono ?_; rintro e u ⟨rfl, hu⟩; rw [hu]; clear hu) | (go_at_call 20; refine (hWr _ (HSX.out _ (by (with_reducible repeat (first | exact Below.refl _ _ | exact hu2 | refine nD ?_ | refine nA ?_ _ | refine nS ?_ (by first | omega | (simp; done)) _)); done))).mono ?_; rintro e w2 ⟨⟨ua0, un0, uc0, ua1, un1, uc1, ua2, un2, uc2, ua3, un3, uc3, uxi, uxl, uxd, uxo⟩, rfl, hO2', hd2, hb2⟩; simp only []; have hu2 : Below w4.heap.size w4 w2 := nT (by (with_reducible repeat (first | exact Below.refl _ _ | exact hu2 | refine nD ?_ | refine nA ?_ _ | refine nS ?_ (by first | omega | (simp; done)) _)); done) hb2; have zu2 := hu2.size; (first | (have bx3 : BoxN w2 w4.heap.size 4 [.slice none 0 0, .slice none 0 0, .slice none 0 0, .slice none 0 0] := (boxn_new w4.drew #[.slice none 0 0, .slice none 0 0, .slice none 0 0, .slice none 0 0] 27 4 rfl).below hb2 (by simp); have s0 : _ = some (Value.slice none 0 0) := (bx3.c 0 (by decide)).1; have s1 : _ = some (Value.slice none 0 0) := (bx3.c 1 (by decide)).1; have s2 : _ = some (Value.slice none 0 0) := (bx3.c 2 (by decide)).1; have s3 : _ = some (Value.slice none 0 0) := (bx3.c 3 (by decide)).1; have g0 := (bx3.c 0 (by decide)).2; have g1 := (bx3.c 1 (by decide)).2; have g2 := (bx3.c 2 (by decide)).2; have g3 := (bx3.c 3 (by decide)).2; have zbx3 := bx3.lt) | skip)))
      all_goals
        go_wp2_with fail
        go_meet
        case rel => first | exact ⟨_, ⟨ua0, un0, uc0, ua1, un1, uc1, ua2, un2, uc2, ua3, un3, uc3, uxi, uxl, uxd, uxo⟩, rfl, rfl, (((bx3.set 0 (by decide) (.slice ua0 un0 uc0)).set 1 (by decide) (.slice ua1 un1 uc1)).set 2 (by decide) (.slice ua2 un2 uc2)).set 3 (by decide) (.slice ua3 un3 uc3), (hO2'.four (b := w4.heap.size) (by simp) _ _ _ _).base (by simp), hd2, by (with_reducible repeat (first | exact Below.refl _ _ | exact hu2 | refine nD ?_ | refine nA ?_ _ | refine nS ?_ (by first | omega | (simp; done)) _)); done⟩ | exact ⟨_, ⟨ua0, un0, uc0, ua1, un1, uc1, ua2, un2, uc2, ua3, un3, uc3, uxi, uxl, uxd, uxo⟩, rfl, rfl, boxn_new w2 #[.slice ua0 un0 uc0, .slice ua1 un1 uc1, .slice ua2 un2 uc2, .slice ua3 un3 uc3] _ 4 rfl, (hO2'.below ((Below.refl _ _).alloc (Nat.le_refl _) _)).base (by first | omega | (simp; done) | (simp; omega)), hd2, by (with_reducible repeat (first | exact Below.refl _ _ | exact hu2 | refine nD ?_ | refine nA ?_ _ | refine nS ?_ (by first | omega | (simp; done)) _)); done⟩
    case rest =>
      obtain ⟨m_u, ⟨ua0, un0, uc0, ua1, un1, uc1, ua2, un2, uc2, ua3, un3, uc3, uxi, uxl, uxd, uxo⟩, rfl, rfl, bx_u, hO, hd, bY5⟩ := hcut
      obtain ⟨Y5, eY5⟩ : ∃ Y, Y = wc := ⟨_, rfl⟩
      rw [← eY5] at bx_u hO bY5 ⊢
      simp only [SV.box] at bx_u
      clear eY5 KX HSX
      replace bx_s := bx_s.below bY5 bx_s.lt
      replace bx_x := bx_x.below bY5 bx_x.lt
      replace hs_s := hs_s.below bY5
      replace hbv : Below w.heap.size w Y5 := hbv.trans (bY5.mono hbv.size)
      have hs_u := hO.isStore
      clear c_s0 c_s1 c_s2 c_s3 z_s c_x0 c_x1 z_x
      have c_s0 := (bx_s.c 0 (by decide)).1
      have c_s1 := (bx_s.c 1 (by decide)).1
      have c_s2 := (bx_s.c 2 (by decide)).1
      have c_s3 := (bx_s.c 3 (by decide)).1
      have z_s := bx_s.lt
      have c_x0 := (bx_x.c 0 (by decide)).1
      have c_x1 := (bx_x.c 1 (by decide)).1
      have z_x := bx_x.lt
      have c_u0 := (bx_u.c 0 (by decide)).1
      have c_u1 := (bx_u.c 1 (by decide)).1
      have c_u2 := (bx_u.c 2 (by decide)).1
      have c_u3 := (bx_u.c 3 (by decide)).1
      have z_u := bx_u.lt
      simp only [List.getD_cons_zero, List.getD_cons_succ] at c_s0 c_s1 c_s2 c_s3 c_x0 c_x1 c_u0 c_u1 c_u2 c_u3
      clear hWr hO hPk
      go_upto_region 10 with ((go_at_call 15; refine (hCs _ hs_s).mono ?_; rintro e w6 ⟨rfl, hb6⟩; replace bx_s := bx_s.below hb6 bx_s.lt; replace bx_x := bx_x.below hb6 bx_x.lt; replace bx_u := bx_u.below hb6 bx_u.lt; replace hs_s := hs_s.below hb6; replace hs_u := hs_u.below hb6; replace hbv : Below w.heap.size w w6 := hbv.trans (hb6.mono hbv.size); clear c_s0 c_s1 c_s2 c_s3 z_s c_x0 c_x1 z_x c_u0 c_u1 c_u2 c_u3 z_u; have c_s0 := (bx_s.c 0 (by decide)).1; have c_s1 := (bx_s.c 1 (by decide)).1; have c_s2 := (bx_s.c 2 (by decide)).1; have c_s3 := (bx_s.c 3 (by decide)).1; have z_s := bx_s.lt; have c_x0 := (bx_x.c 0 (by decide)).1; have c_x1 := (bx_x.c 1 (by decide)).1; have z_x := bx_x.lt; have c_u0 := (bx_u.c 0 (by decide)).1; have c_u1 := (bx_u.c 1 (by decide)).1; have c_u2 := (bx_u.c 2 (by decide)).1; have c_u3 := (bx_u.c 3 (by decide)).1; have z_u := bx_u.lt; simp only [List.getD_cons_zero, List.getD_cons_succ] at c_s0 c_s1 c_s2 c_s3 c_x0 c_x1 c_u0 c_u1 c_u2 c_u3))
      clear hCs
      rw [← hd] at hok2
      rw [q4] at hd
      clear q4
      have hP : Plus (SV.data ⟨sa0, sn0, sc0, sa1, sn1, sc1, sa2, sn2, sc2, sa3, sn3, sc3, sxi, sxl, sxd, sxo⟩) (SV.data ⟨ua0, un0, uc0, ua1, un1, uc1, ua2, un2, uc2, ua3, un3, uc3, uxi, uxl, uxd, uxo⟩) ⟨(2, N1), K, true, pk v 99, 0⟩ := Plus.of hd
      have hdo : uxo = sxo := hP.over
      have h4u : un3 * 16 ≤ 140737488351232 := by
        have e1 : uxo.length = un3 := hs_u.over.1
        have := HOL.out
        rw [hdo] at e1
        omega
      obtain ⟨y1, y2, y3, y4, y5⟩ := end_plus (u := ⟨ua0, un0, uc0, ua1, un1, uc1, ua2, un2, uc2, ua3, un3, uc3, uxi, uxl, uxd, uxo⟩) (yes := yes) hF hP hok2 hver
      have hEn := fun w' h1 => end_own ⟨ua0, un0, uc0, ua1, un1, uc1, ua2, un2, uc2, ua3, un3, uc3, uxi, uxl, uxd, uxo⟩ (2, N1) yes w' h1 hok2.wf h4u
      simp only [y1, SV.val] at hEn
      have hIP := itemAt_put K (pk v 99) sxi 0 hio
      clear hd hP hdo h4u y1
      go_upto_region 11 with ((go_at_call 10; refine (hEn _ hs_u).mono ?_; rintro e w7 ⟨⟨qa0, qn0, qc0, qa1, qn1, qc1, qa2, qn2, qc2, qa3, qn3, qc3, qxi, qxl, qxd, qxo⟩, rfl, hO, hd, hb7⟩; simp only []; replace bx_s := bx_s.below hb7 bx_s.lt; replace bx_x := bx_x.below hb7 bx_x.lt; replace bx_u := bx_u.below hb7 bx_u.lt; replace hs_s := hs_s.below hb7; replace hs_u := hs_u.below hb7; replace hbv : Below w.heap.size w w7 := hbv.trans (hb7.mono hbv.size); have hs_q := hO.isStore; clear c_s0 c_s1 c_s2 c_s3 z_s c_x0 c_x1 z_x c_u0 c_u1 c_u2 c_u3 z_u; have c_s0 := (bx_s.c 0 (by decide)).1; have c_s1 := (bx_s.c 1 (by decide)).1; have c_s2 := (bx_s.c 2 (by decide)).1; have c_s3 := (bx_s.c 3 (by decide)).1; have z_s := bx_s.lt; have c_x0 := (bx_x.c 0 (by decide)).1; have c_x1 := (bx_x.c 1 (by decide)).1; have z_x := bx_x.lt; have c_u0 := (bx_u.c 0 (by decide)).1; have c_u1 := (bx_u.c 1 (by decide)).1; have c_u2 := (bx_u.c 2 (by decide)).1; have c_u3 := (bx_u.c 3 (by decide)).1; have z_u := bx_u.lt; simp only [List.getD_cons_zero, List.getD_cons_succ] at c_s0 c_s1 c_s2 c_s3 c_x0 c_x1 c_u0 c_u1 c_u2 c_u3))
      clear hEn hO
      obtain ⟨X8, eX8⟩ : ∃ X : World, X = w7.alloc (.cells #[.slice qa0 qn0 qc0, .slice qa1 qn1 qc1, .slice qa2 qn2 qc2, .slice qa3 qn3 qc3] 27) := ⟨_, rfl⟩
      have bX8 : Below w7.heap.size w7 X8 := by rw [eX8]; exact (Below.refl _ _).alloc (Nat.le_refl _) _
      have bx_q : BoxN X8 w7.heap.size 4 [.slice qa0 qn0 qc0, .slice qa1 qn1 qc1, .slice qa2 qn2 qc2, .slice qa3 qn3 qc3] := by rw [eX8]; exact boxn_new w7 #[.slice qa0 qn0 qc0, .slice qa1 qn1 qc1, .slice qa2 qn2 qc2, .slice qa3 qn3 qc3] 27 4 rfl
      rw [← eX8]
      obtain ⟨m_q, em_q⟩ : ∃ m, m = w7.heap.size := ⟨_, rfl⟩
      rw [← em_q] at bx_q ⊢
      clear em_q eX8
      replace bx_s := bx_s.below bX8 bx_s.lt
      replace bx_x := bx_x.below bX8 bx_x.lt
      replace bx_u := bx_u.below bX8 bx_u.lt
      replace hs_s := hs_s.below bX8
      replace hs_u := hs_u.below bX8
      replace hs_q := hs_q.below bX8
      replace hbv : Below w.heap.size w X8 := hbv.trans (bX8.mono hbv.size)
      clear c_s0 c_s1 c_s2 c_s3 z_s c_x0 c_x1 z_x c_u0 c_u1 c_u2 c_u3 z_u
      have c_s0 := (bx_s.c 0 (by decide)).1
      have c_s1 := (bx_s.c 1 (by decide)).1
      have c_s2 := (bx_s.c 2 (by decide)).1
      have c_s3 := (bx_s.c 3 (by decide)).1
      have z_s := bx_s.lt
      have c_x0 := (bx_x.c 0 (by decide)).1
      have c_x1 := (bx_x.c 1 (by decide)).1
      have z_x := bx_x.lt
      have c_u0 := (bx_u.c 0 (by decide)).1
      have c_u1 := (bx_u.c 1 (by decide)).1
      have c_u2 := (bx_u.c 2 (by decide)).1
      have c_u3 := (bx_u.c 3 (by decide)).1
      have z_u := bx_u.lt
      have c_q0 := (bx_q.c 0 (by decide)).1
      have c_q1 := (bx_q.c 1 (by decide)).1
      have c_q2 := (bx_q.c 2 (by decide)).1
      have c_q3 := (bx_q.c 3 (by decide)).1
      have z_q := bx_q.lt
      simp only [List.getD_cons_zero, List.getD_cons_succ] at c_s0 c_s1 c_s2 c_s3 c_x0 c_x1 c_u0 c_u1 c_u2 c_u3 c_q0 c_q1 c_q2 c_q3
      rw [← hd] at y2 y3 y4 y5
      have z3 : qxi = if yes then putI K (pk v 99) sxi else sxi := y3
      have z4 : qxl = sxl := y4
      have hwq : qxl.any (wrT K) = false := by rw [z4]; exact hwr
      obtain ⟨p1, p2, p3⟩ := (peek_is (s := ⟨qa0, qn0, qc0, qa1, qn1, qc1, qa2, qn2, qc2, qa3, qn3, qc3, qxi, qxl, qxd, qxo⟩) y2 hk).2 hwq
      have hPq := fun w' h1 => peek_any ⟨qa0, qn0, qc0, qa1, qn1, qc1, qa2, qn2, qc2, qa3, qn3, qc3, qxi, qxl, qxd, qxo⟩ K w' h1 y2.wf
      have hCq := fun w' h1 => check_any ⟨qa0, qn0, qc0, qa1, qn1, qc1, qa2, qn2, qc2, qa3, qn3, qc3, qxi, qxl, qxd, qxo⟩ w' h1 y2.wf
      simp only [y2.ok, SV.val, if_true] at hCq
      have p2' : peekVal ⟨qa0, qn0, qc0, qa1, qn1, qc1, qa2, qn2, qc2, qa3, qn3, qc3, qxi, qxl, qxd, qxo⟩ K = if yes then pk v 99 else (itemAt sxi K).value := by rw [p2]; show (itemAt qxi K).value = _; rw [z3]; cases yes <;> simp [hIP]
      have p3' : peekVer ⟨qa0, qn0, qc0, qa1, qn1, qc1, qa2, qn2, qc2, qa3, qn3, qc3, qxi, qxl, qxd, qxo⟩ K = if yes then (itemAt sxi K).version + 1 else (itemAt sxi K).version := by rw [p3]; show (itemAt qxi K).version = _; rw [z3]; cases yes <;> simp [hIP]
      simp only [p1, p2', p3', SV.val] at hPq
      clear p1 p2 p3 p2' p3' y2 y3 y4 y5 z3 z4 hwq hwr hd hok2 hF hver hIP hio
      obtain ⟨I1, eI1⟩ : ∃ I, I = (itemAt sxi K).value := ⟨_, rfl⟩
      obtain ⟨I2, eI2⟩ : ∃ I, I = (itemAt sxi K).version := ⟨_, rfl⟩
      simp only [← eI1, ← eI2] at hPq hi2 hi0 ⊢
      clear eI1 eI2
      have hw5 : IntKind.i64.wrap (I2 + 1) = I2 + 1 := by apply wrap_in <;> omega
      cases yes
      all_goals
        simp only [Bool.false_eq_true, if_true, if_false] at hPq
        go_wp2_with (first | (go_at_call 17; refine (hPq _ hs_q).mono ?_; rintro e w9 ⟨rfl, hb9⟩; replace bx_s := bx_s.below hb9 bx_s.lt; replace bx_x := bx_x.below hb9 bx_x.lt; replace bx_u := bx_u.below hb9 bx_u.lt; replace bx_q := bx_q.below hb9 bx_q.lt; replace hs_s := hs_s.below hb9; replace hs_u := hs_u.below hb9; replace hs_q := hs_q.below hb9; replace hbv : Below w.heap.size w w9 := hbv.trans (hb9.mono hbv.size); clear c_s0 c_s1 c_s2 c_s3 z_s c_x0 c_x1 z_x c_u0 c_u1 c_u2 c_u3 z_u c_q0 c_q1 c_q2 c_q3 z_q; have c_s0 := (bx_s.c 0 (by decide)).1; have c_s1 := (bx_s.c 1 (by decide)).1; have c_s2 := (bx_s.c 2 (by decide)).1; have c_s3 := (bx_s.c 3 (by decide)).1; have z_s := bx_s.lt; have c_x0 := (bx_x.c 0 (by decide)).1; have c_x1 := (bx_x.c 1 (by decide)).1; have z_x := bx_x.lt; have c_u0 := (bx_u.c 0 (by decide)).1; have c_u1 := (bx_u.c 1 (by decide)).1; have c_u2 := (bx_u.c 2 (by decide)).1; have c_u3 := (bx_u.c 3 (by decide)).1; have z_u := bx_u.lt; have c_q0 := (bx_q.c 0 (by decide)).1; have c_q1 := (bx_q.c 1 (by decide)).1; have c_q2 := (bx_q.c 2 (by decide)).1; have c_q3 := (bx_q.c 3 (by decide)).1; have z_q := bx_q.lt; simp only [List.getD_cons_zero, List.getD_cons_succ] at c_s0 c_s1 c_s2 c_s3 c_x0 c_x1 c_u0 c_u1 c_u2 c_u3 c_q0 c_q1 c_q2 c_q3) | (go_at_call 15; refine (hCq _ hs_q).mono ?_; rintro e w10 ⟨rfl, hb10⟩; replace bx_s := bx_s.below hb10 bx_s.lt; replace bx_x := bx_x.below hb10 bx_x.lt; replace bx_u := bx_u.below hb10 bx_u.lt; replace bx_q := bx_q.below hb10 bx_q.lt; replace hs_s := hs_s.below hb10; replace hs_u := hs_u.below hb10; replace hs_q := hs_q.below hb10; replace hbv : Below w.heap.size w w10 := hbv.trans (hb10.mono hbv.size); clear c_s0 c_s1 c_s2 c_s3 z_s c_x0 c_x1 z_x c_u0 c_u1 c_u2 c_u3 z_u c_q0 c_q1 c_q2 c_q3 z_q; have c_s0 := (bx_s.c 0 (by decide)).1; have c_s1 := (bx_s.c 1 (by decide)).1; have c_s2 := (bx_s.c 2 (by decide)).1; have c_s3 := (bx_s.c 3 (by decide)).1; have z_s := bx_s.lt; have c_x0 := (bx_x.c 0 (by decide)).1; have c_x1 := (bx_x.c 1 (by decide)).1; have z_x := bx_x.lt; have c_u0 := (bx_u.c 0 (by decide)).1; have c_u1 := (bx_u.c 1 (by decide)).1; have c_u2 := (bx_u.c 2 (by decide)).1; have c_u3 := (bx_u.c 3 (by decide)).1; have z_u := bx_u.lt; have c_q0 := (bx_q.c 0 (by decide)).1; have c_q1 := (bx_q.c 1 (by decide)).1; have c_q2 := (bx_q.c 2 (by decide)).1; have c_q3 := (bx_q.c 3 (by decide)).1; have z_q := bx_q.lt; simp only [List.getD_cons_zero, List.getD_cons_succ] at c_s0 c_s1 c_s2 c_s3 c_x0 c_x1 c_u0 c_u1 c_u2 c_u3 c_q0 c_q1 c_q2 c_q3) | (go_at_call 16; refine (picked_any _ _ _ (by assumption) (by decide) (by decide)).mono ?_; rintro e u ⟨rfl, hu⟩; rw [hu]; clear hu))
        go_ret
        exact ⟨rfl, hbv⟩
end Go.Proofs.Ytbmbahifkegehaa
