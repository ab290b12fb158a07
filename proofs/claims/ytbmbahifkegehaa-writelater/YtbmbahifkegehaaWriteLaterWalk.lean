/- The walk of the law WriteLater. -/
import Derived.Test.YtbmbahifkegehaaSKStore
import Derived.Test.YtbmbahifkegehaaSKFresh
namespace Go.Proofs.Ytbmbahifkegehaa
open Go.ChangeShapes Go.WideShapes Go.ChangeAt Go.RowKit St
set_option linter.unusedVariables false

set_option maxRecDepth 100000 in
set_option maxHeartbeats 4000000 in
theorem writeLater_walk (a : Option Addr) (len cap : Nat) (rs : List RV) (x key v z f m : Int) (w : World) (h : IsRaws w a len cap rs) (hx : (Lit.int .i64 x).wf = true) (hkey : (Lit.int .i64 key).wf = true) (hv : (Lit.int .i64 v).wf = true) (hz : (Lit.int .i64 z).wf = true) (hf : (Lit.int .i64 f).wf = true) (hm : (Lit.int .i64 m).wf = true) :
    Calls Try.prog 7 #[.slice a len cap, .int .i64 x, .int .i64 key, .int .i64 v, .int .i64 z, .int .i64 f, .int .i64 m] w fun e w' => e = .returned (.bool true) ∧ Below w.heap.size w w' := by
  have wx := i64_bd hx
  have wk := i64_bd hkey
  have wv := i64_bd hv
  have wz := i64_bd hz
  have wf := i64_bd hf
  have wm := i64_bd hm
  clear hx hkey hv hz hf hm
  have hbv : Below w.heap.size w w := Below.refl _ _
  have b1 := pk_bd x 9 (by decide)
  have b8 := pk_bd key 8 (by decide)
  have bv := pk_bd v 99 (by decide)
  have bz := pk_bd z 99 (by decide)
  have bf := pk_bd f 100 (by decide)
  have bm := pk_bd m 100 (by decide)
  have hw1 : IntKind.i64.wrap (1 + pk x 9) = 1 + pk x 9 := by apply wrap_in <;> omega
  have hw2 : IntKind.i64.wrap (pk f 100 + 1) = pk f 100 + 1 := by apply wrap_in <;> omega
  have hw3 : IntKind.i64.wrap (pk f 100 + 1 + pk m 100) = pk f 100 + 1 + pk m 100 := by apply wrap_in <;> omega
  have hSt := store_made a len cap rs 20 w h (by decide)
  go_enter Try.func7, Try.ntmps7
  go_upto_region 2 with ((go_at_call 13; refine (hSt).mono ?_; rintro e w1 ⟨⟨sa0, sn0, sc0, sa1, sn1, sc1, sa2, sn2, sc2, sa3, sn3, sc3, sxi, sxl, sxd, sxo⟩, rfl, hO, hG, hb1⟩; simp only [SV.val]; replace hbv : Below w.heap.size w w1 := hbv.trans (hb1.mono hbv.size); have hs_s := hO.isStore))
  clear hSt hO
  obtain ⟨X2, eX2⟩ : ∃ X : World, X = w1.alloc (.cells #[.slice sa0 sn0 sc0, .slice sa1 sn1 sc1, .slice sa2 sn2 sc2, .slice sa3 sn3 sc3] 27) := ⟨_, rfl⟩
  have bX2 : Below w1.heap.size w1 X2 := by rw [eX2]; exact (Below.refl _ _).alloc (Nat.le_refl _) _
  have bx_s : BoxN X2 w1.heap.size 4 [.slice sa0 sn0 sc0, .slice sa1 sn1 sc1, .slice sa2 sn2 sc2, .slice sa3 sn3 sc3] := by rw [eX2]; exact boxn_new w1 #[.slice sa0 sn0 sc0, .slice sa1 sn1 sc1, .slice sa2 sn2 sc2, .slice sa3 sn3 sc3] 27 4 rfl
  rw [← eX2]
  obtain ⟨m_s, em_s⟩ : ∃ m, m = w1.heap.size := ⟨_, rfl⟩
  rw [← em_s] at bx_s ⊢
  clear em_s eX2
  replace hs_s := hs_s.below bX2
  replace hbv : Below w.heap.size w X2 := hbv.trans (bX2.mono hbv.size)
  have c_s0 := (bx_s.c 0 (by decide)).1
  have c_s1 := (bx_s.c 1 (by decide)).1
  have c_s2 := (bx_s.c 2 (by decide)).1
  have c_s3 := (bx_s.c 3 (by decide)).1
  have z_s := bx_s.lt
  simp only [List.getD_cons_zero, List.getD_cons_succ] at c_s0 c_s1 c_s2 c_s3
  go_upto_region 3 with ((go_at_call 16; refine (picked_any _ _ _ (by assumption) (by decide) (by decide)).mono ?_; rintro e u ⟨rfl, hu⟩; rw [hu]; clear hu))
  obtain ⟨X3, eX3⟩ : ∃ X : World, X = X2.alloc (.cells #[.int .i64 2, .int .i64 (1 + pk x 9)] 29) := ⟨_, rfl⟩
  have bX3 : Below X2.heap.size X2 X3 := by rw [eX3]; exact (Below.refl _ _).alloc (Nat.le_refl _) _
  have bx_x : BoxN X3 X2.heap.size 2 [.int .i64 2, .int .i64 (1 + pk x 9)] := by rw [eX3]; exact boxn_new X2 #[.int .i64 2, .int .i64 (1 + pk x 9)] 29 2 rfl
  rw [← eX3]
  obtain ⟨m_x, em_x⟩ : ∃ m, m = X2.heap.size := ⟨_, rfl⟩
  rw [← em_x] at bx_x ⊢
  clear em_x eX3
  replace bx_s := bx_s.below bX3 bx_s.lt
  replace hs_s := hs_s.below bX3
  replace hbv : Below w.heap.size w X3 := hbv.trans (bX3.mono hbv.size)
  clear c_s0 c_s1 c_s2 c_s3 z_s
  have c_s0 := (bx_s.c 0 (by decide)).1
  have c_s1 := (bx_s.c 1 (by decide)).1
  have c_s2 := (bx_s.c 2 (by decide)).1
  have c_s3 := (bx_s.c 3 (by decide)).1
  have z_s := bx_s.lt
  have c_x0 := (bx_x.c 0 (by decide)).1
  have c_x1 := (bx_x.c 1 (by decide)).1
  have z_x := bx_x.lt
  simp only [List.getD_cons_zero, List.getD_cons_succ] at c_s0 c_s1 c_s2 c_s3 c_x0 c_x1
  go_upto_region 6 with ((go_at_call 16; refine (picked_any _ _ _ (by assumption) (by decide) (by decide)).mono ?_; rintro e u ⟨rfl, hu⟩; rw [hu]; clear hu))
  have h20 : sxl.length ≤ 20 := hG.locks20
  have hF : Fresh (SV.data ⟨sa0, sn0, sc0, sa1, sn1, sc1, sa2, sn2, sc2, sa3, sn3, sc3, sxi, sxl, sxd, sxo⟩) (2, 1 + pk x 9) := hG.fresh (by decide) (by decide) (by omega) (by omega)
  obtain ⟨N1, eN1⟩ : ∃ N, N = 1 + pk x 9 := ⟨_, rfl⟩
  rw [← eN1] at hF hw1 bx_x c_x1 ⊢
  obtain ⟨K, eK⟩ : ∃ K, K = pk key 8 := ⟨_, rfl⟩
  rw [← eK] at b8 ⊢
  obtain ⟨A2, eA2⟩ : ∃ K, K = pk f 100 + 1 + pk m 100 := ⟨_, rfl⟩
  have hA2 : pk f 100 < A2 := by omega
  have hA3 : A2 ≤ 300 := by omega
  rw [← eA2] at hw3 ⊢
  obtain ⟨A1, eA1⟩ : ∃ K, K = pk f 100 := ⟨_, rfl⟩
  rw [← eA1] at bf hA2 hw2 ⊢
  clear eN1 eK eA1 eA2 hw1 hw2 hw3 b1
  have hw4 : IntKind.i64.wrap (A2 + 1) = A2 + 1 := by apply wrap_in <;> omega
  have hk : inR K 0 7 = true := inR_true b8.1 (by omega)
  have hv : inR (pk v 99) 0 1073741824 = true := inR_true bv.1 (by omega)
  have hz : inR (pk z 99) 0 1073741824 = true := inR_true bz.1 (by omega)
  have ha1 : inR A1 0 1048576 = true := inR_true bf.1 (by omega)
  have ha2 : inR A2 0 1048576 = true := inR_true (by omega) (by omega)
  have ha3 : inR (A2 + 1) 0 1048576 = true := inR_true (by omega) (by omega)
  have hCs := fun w' h1 => check_any ⟨sa0, sn0, sc0, sa1, sn1, sc1, sa2, sn2, sc2, sa3, sn3, sc3, sxi, sxl, sxd, sxo⟩ w' h1 hG.wf
  simp only [hG.ok.ok, SV.val, if_true] at hCs
  have hver : ∀ y ∈ sxi, y.version ≤ 1048000 := fun y hy => by have := hG.ver y hy; omega
  have hwt := write_fresh (s := ⟨sa0, sn0, sc0, sa1, sn1, sc1, sa2, sn2, sc2, sa3, sn3, sc3, sxi, sxl, sxd, sxo⟩) (k := K) (va := pk v 99) (ask := A2) hG.ok (by show sxl.length ≤ 22; omega) hF hk hv ha2 hver
  have hWr := fun w' h1 => write_own ⟨sa0, sn0, sc0, sa1, sn1, sc1, sa2, sn2, sc2, sa3, sn3, sc3, sxi, sxl, sxd, sxo⟩ (2, N1) K (pk v 99) A2 w' h1 hG.wf (hG.h4 h1)
  have HOT : Hid (∀ t ∈ sxo, TxWf t) := hG.wf
  have HOL : Hid (sxo.length ≤ 4) := hG.over4
  obtain ⟨D, eD⟩ : ∃ D, D = writeData ⟨sa0, sn0, sc0, sa1, sn1, sc1, sa2, sn2, sc2, sa3, sn3, sc3, sxi, sxl, sxd, sxo⟩ (2, N1) K (pk v 99) A2 := ⟨_, rfl⟩
  cases hA : sxl.any (othT (2, N1) K) with
  | true =>
    have q1 := hwt.1 hA
    simp only [q1, SV.val, ← eD] at hWr
    clear q1 hwt hA hF hver hG eD
    go_upto_region 6 with (fail)
    have KX : Hid (∀ U, Below X3.heap.size X3 U → U.cell? ⟨m_s, 0, none⟩ = some (.slice sa0 sn0 sc0) ∧ U.cell? ⟨m_s, 1, none⟩ = some (.slice sa1 sn1 sc1) ∧ U.cell? ⟨m_s, 2, none⟩ = some (.slice sa2 sn2 sc2) ∧ U.cell? ⟨m_s, 3, none⟩ = some (.slice sa3 sn3 sc3) ∧ U.cell? ⟨m_x, 0, none⟩ = some (.int .i64 2) ∧ U.cell? ⟨m_x, 1, none⟩ = some (.int .i64 N1)) := fun U hU => ⟨(hU.cell (p := ⟨m_s, 0, none⟩) z_s).trans c_s0, (hU.cell (p := ⟨m_s, 1, none⟩) z_s).trans c_s1, (hU.cell (p := ⟨m_s, 2, none⟩) z_s).trans c_s2, (hU.cell (p := ⟨m_s, 3, none⟩) z_s).trans c_s3, (hU.cell (p := ⟨m_x, 0, none⟩) z_x).trans c_x0, (hU.cell (p := ⟨m_x, 1, none⟩) z_x).trans c_x1⟩
    have HSX : Hid (∀ U, Below X3.heap.size X3 U → IsStore U ⟨sa0, sn0, sc0, sa1, sn1, sc1, sa2, sn2, sc2, sa3, sn3, sc3, sxi, sxl, sxd, sxo⟩) := fun U hU => hs_s.below hU
    go_cut [20, 21] (fun sp se wc => ∃ (q2 : Nat) (r2 : SV), sp = .pointer (some ⟨q2, 0, none⟩) ∧ se = .int .i64 11 ∧ BoxN wc q2 4 r2.box ∧ OwnStore wc X3.heap.size r2 ∧ r2.data = D ∧ Below X3.heap.size X3 wc)
    case first =>
      clear c_s0 c_s1 c_s2 c_s3 z_s c_x0 c_x1 z_x
      go_region_held3 (fun U => U.cell? ⟨m_s, 0, none⟩ = some (.slice sa0 sn0 sc0) ∧ U.cell? ⟨m_s, 1, none⟩ = some (.slice sa1 sn1 sc1) ∧ U.cell? ⟨m_s, 2, none⟩ = some (.slice sa2 sn2 sc2) ∧ U.cell? ⟨m_s, 3, none⟩ = some (.slice sa3 sn3 sc3) ∧ U.cell? ⟨m_x, 0, none⟩ = some (.int .i64 2) ∧ U.cell? ⟨m_x, 1, none⟩ = some (.int .i64 N1))
        (exact KX.out _ (by (with_reducible repeat (first | exact Below.refl _ _ | exact hu2 | refine nD ?_ | refine nA ?_ _ | refine nS ?_ (by first | omega | (simp; done)) _)); done))
        (first | (go_at_call 16; refine (picked_any _ _ _ (by assumption) (by decide) (by decide)).mono ?_; rintro e u ⟨rfl, hu⟩; rw [hu]; clear hu) | (go_at_call 20; refine (hWr _ (HSX.out _ (by (with_reducible repeat (first | exact Below.refl _ _ | exact hu2 | refine nD ?_ | refine nA ?_ _ | refine nS ?_ (by first | omega | (simp; done)) _)); done))).mono ?_; rintro e w2 ⟨⟨ua0, un0, uc0, ua1, un1, uc1, ua2, un2, uc2, ua3, un3, uc3, uxi, uxl, uxd, uxo⟩, rfl, hO2', hd2, hb2⟩; simp only []; have hu2 : Below X3.heap.size X3 w2 := nT (by (with_reducible repeat (first | exact Below.refl _ _ | exact hu2 | refine nD ?_ | refine nA ?_ _ | refine nS ?_ (by first | omega | (simp; done)) _)); done) hb2; have zu2 := hu2.size; (first | (have bx3 : BoxN w2 X3.heap.size 4 [.slice none 0 0, .slice none 0 0, .slice none 0 0, .slice none 0 0] := (boxn_new X3.drew #[.slice none 0 0, .slice none 0 0, .slice none 0 0, .slice none 0 0] 27 4 rfl).below hb2 (by simp); have s0 : _ = some (Value.slice none 0 0) := (bx3.c 0 (by decide)).1; have s1 : _ = some (Value.slice none 0 0) := (bx3.c 1 (by decide)).1; have s2 : _ = some (Value.slice none 0 0) := (bx3.c 2 (by decide)).1; have s3 : _ = some (Value.slice none 0 0) := (bx3.c 3 (by decide)).1; have g0 := (bx3.c 0 (by decide)).2; have g1 := (bx3.c 1 (by decide)).2; have g2 := (bx3.c 2 (by decide)).2; have g3 := (bx3.c 3 (by decide)).2; have zbx3 := bx3.lt) | skip)))
      all_goals
        go_wp2_with fail
        go_meet
        case rel => first | exact ⟨_, ⟨ua0, un0, uc0, ua1, un1, uc1, ua2, un2, uc2, ua3, un3, uc3, uxi, uxl, uxd, uxo⟩, rfl, rfl, (((bx3.set 0 (by decide) (.slice ua0 un0 uc0)).set 1 (by decide) (.slice ua1 un1 uc1)).set 2 (by decide) (.slice ua2 un2 uc2)).set 3 (by decide) (.slice ua3 un3 uc3), (hO2'.four (b := X3.heap.size) (by simp) _ _ _ _).base (by simp), hd2, by (with_reducible repeat (first | exact Below.refl _ _ | exact hu2 | refine nD ?_ | refine nA ?_ _ | refine nS ?_ (by first | omega | (simp; done)) _)); done⟩ | exact ⟨_, ⟨ua0, un0, uc0, ua1, un1, uc1, ua2, un2, uc2, ua3, un3, uc3, uxi, uxl, uxd, uxo⟩, rfl, rfl, boxn_new w2 #[.slice ua0 un0 uc0, .slice ua1 un1 uc1, .slice ua2 un2 uc2, .slice ua3 un3 uc3] _ 4 rfl, (hO2'.below ((Below.refl _ _).alloc (Nat.le_refl _) _)).base (by first | omega | (simp; done) | (simp; omega)), hd2, by (with_reducible repeat (first | exact Below.refl _ _ | exact hu2 | refine nD ?_ | refine nA ?_ _ | refine nS ?_ (by first | omega | (simp; done)) _)); done⟩
    case rest =>
      obtain ⟨m_u, ⟨ua0, un0, uc0, ua1, un1, uc1, ua2, un2, uc2, ua3, un3, uc3, uxi, uxl, uxd, uxo⟩, rfl, rfl, bx_u, hO, hd, bY4⟩ := hcut
      obtain ⟨Y4, eY4⟩ : ∃ Y, Y = wc := ⟨_, rfl⟩
      rw [← eY4] at bx_u hO bY4 ⊢
      simp only [SV.box] at bx_u
      clear eY4 KX HSX
      replace bx_s := bx_s.below bY4 bx_s.lt
      replace bx_x := bx_x.below bY4 bx_x.lt
      replace hs_s := hs_s.below bY4
      replace hbv : Below w.heap.size w Y4 := hbv.trans (bY4.mono hbv.size)
      have hs_u := hO.isStore
      clear c_s0 c_s1 c_s2 c_s3 z_s c_x0 c_x1 z_x
      have c_s0 := (bx_s.c 0 (by decide)).1
      have c_s1 := (bx_s.c 1 (by decide)).1
      have c_s2 := (bx_s.c 2 (by decide)).1
      have c_s3 := (bx_s.c 3 (by decide)).1
      have z_s := bx_s.lt
      have c_x0 := (bx_x.c 0 (by decide)).1
      have c_x1 := (bx_x.c 1 (by decide)).1
      have z_x := bx_x.lt
      have c_u0 := (bx_u.c 0 (by decide)).1
      have c_u1 := (bx_u.c 1 (by decide)).1
      have c_u2 := (bx_u.c 2 (by decide)).1
      have c_u3 := (bx_u.c 3 (by decide)).1
      have z_u := bx_u.lt
      simp only [List.getD_cons_zero, List.getD_cons_succ] at c_s0 c_s1 c_s2 c_s3 c_x0 c_x1 c_u0 c_u1 c_u2 c_u3
      go_wp2_with ((go_at_call 15; refine (hCs _ hs_s).mono ?_; rintro e w5 ⟨rfl, hb5⟩; replace bx_s := bx_s.below hb5 bx_s.lt; replace bx_x := bx_x.below hb5 bx_x.lt; replace bx_u := bx_u.below hb5 bx_u.lt; replace hs_s := hs_s.below hb5; replace hs_u := hs_u.below hb5; replace hbv : Below w.heap.size w w5 := hbv.trans (hb5.mono hbv.size); clear c_s0 c_s1 c_s2 c_s3 z_s c_x0 c_x1 z_x c_u0 c_u1 c_u2 c_u3 z_u; have c_s0 := (bx_s.c 0 (by decide)).1; have c_s1 := (bx_s.c 1 (by decide)).1; have c_s2 := (bx_s.c 2 (by decide)).1; have c_s3 := (bx_s.c 3 (by decide)).1; have z_s := bx_s.lt; have c_x0 := (bx_x.c 0 (by decide)).1; have c_x1 := (bx_x.c 1 (by decide)).1; have z_x := bx_x.lt; have c_u0 := (bx_u.c 0 (by decide)).1; have c_u1 := (bx_u.c 1 (by decide)).1; have c_u2 := (bx_u.c 2 (by decide)).1; have c_u3 := (bx_u.c 3 (by decide)).1; have z_u := bx_u.lt; simp only [List.getD_cons_zero, List.getD_cons_succ] at c_s0 c_s1 c_s2 c_s3 c_x0 c_x1 c_u0 c_u1 c_u2 c_u3))
      go_ret
      exact ⟨rfl, hbv⟩
  | false =>
    obtain ⟨q1, q4⟩ := hwt.2 hA
    have hok2 := write_ok q1
    have hno : (SV.data ⟨sa0, sn0, sc0, sa1, sn1, sc1, sa2, sn2, sc2, sa3, sn3, sc3, sxi, sxl, sxd, sxo⟩).locks.any (othT (2, N1) K) = false := hA
    simp only [q1, SV.val, ← eD] at hWr
    rw [← eD] at hok2 q4
    clear q1 hwt hA hG eD
    go_upto_region 6 with (fail)
    have KX : Hid (∀ U, Below X3.heap.size X3 U → U.cell? ⟨m_s, 0, none⟩ = some (.slice sa0 sn0 sc0) ∧ U.cell? ⟨m_s, 1, none⟩ = some (.slice sa1 sn1 sc1) ∧ U.cell? ⟨m_s, 2, none⟩ = some (.slice sa2 sn2 sc2) ∧ U.cell? ⟨m_s, 3, none⟩ = some (.slice sa3 sn3 sc3) ∧ U.cell? ⟨m_x, 0, none⟩ = some (.int .i64 2) ∧ U.cell? ⟨m_x, 1, none⟩ = some (.int .i64 N1)) := fun U hU => ⟨(hU.cell (p := ⟨m_s, 0, none⟩) z_s).trans c_s0, (hU.cell (p := ⟨m_s, 1, none⟩) z_s).trans c_s1, (hU.cell (p := ⟨m_s, 2, none⟩) z_s).trans c_s2, (hU.cell (p := ⟨m_s, 3, none⟩) z_s).trans c_s3, (hU.cell (p := ⟨m_x, 0, none⟩) z_x).trans c_x0, (hU.cell (p := ⟨m_x, 1, none⟩) z_x).trans c_x1⟩
    have HSX : Hid (∀ U, Below X3.heap.size X3 U → IsStore U ⟨sa0, sn0, sc0, sa1, sn1, sc1, sa2, sn2, sc2, sa3, sn3, sc3, sxi, sxl, sxd, sxo⟩) := fun U hU => hs_s.below hU
    go_cut [20, 21] (fun sp se wc => ∃ (q2 : Nat) (r2 : SV), sp = .pointer (some ⟨q2, 0, none⟩) ∧ se = .int .i64 0 ∧ BoxN wc q2 4 r2.box ∧ OwnStore wc X3.heap.size r2 ∧ r2.data = D ∧ Below X3.heap.size X3 wc)
    case first =>
      clear c_s0 c_s1 c_s2 c_s3 z_s c_x0 c_x1 z_x
      go_region_held3 (fun U => U.cell? ⟨m_s, 0, none⟩ = some (.slice sa0 sn0 sc0) ∧ U.cell? ⟨m_s, 1, none⟩ = some (.slice sa1 sn1 sc1) ∧ U.cell? ⟨m_s, 2, none⟩ = some (.slice sa2 sn2 sc2) ∧ U.cell? ⟨m_s, 3, none⟩ = some (.slice sa3 sn3 sc3) ∧ U.cell? ⟨m_x, 0, none⟩ = some (.int .i64 2) ∧ U.cell? ⟨m_x, 1, none⟩ = some (.int .i64 N1))
        (exact KX.out _ (by (with_reducible repeat (first | exact Below.refl _ _ | exact hu2 | refine nD ?_ | refine nA ?_ _ | refine nS ?_ (by first | omega | (simp; done)) _)); done))
        (first | (go_at_call 16; refine (picked_any _ _ _ (by assumption) (by decide) (by decide)).mono ?_; rintro e u ⟨rfl, hu⟩; rw [hu]; clear hu) | (go_at_call 20; refine (hWr _ (HSX.out _ (by (with_reducible repeat (first | exact Below.refl _ _ | exact hu2 | refine nD ?_ | refine nA ?_ _ | refine nS ?_ (by first | omega | (simp; done)) _)); done))).mono ?_; rintro e w2 ⟨⟨ua0, un0, uc0, ua1, un1, uc1, ua2, un2, uc2, ua3, un3, uc3, uxi, uxl, uxd, uxo⟩, rfl, hO2', hd2, hb2⟩; simp only []; have hu2 : Below X3.heap.size X3 w2 := nT (by (with_reducible repeat (first | exact Below.refl _ _ | exact hu2 | refine nD ?_ | refine nA ?_ _ | refine nS ?_ (by first | omega | (simp; done)) _)); done) hb2; have zu2 := hu2.size; (first | (have bx3 : BoxN w2 X3.heap.size 4 [.slice none 0 0, .slice none 0 0, .slice none 0 0, .slice none 0 0] := (boxn_new X3.drew #[.slice none 0 0, .slice none 0 0, .slice none 0 0, .slice none 0 0] 27 4 rfl).below hb2 (by simp); have s0 : _ = some (Value.slice none 0 0) := (bx3.c 0 (by decide)).1; have s1 : _ = some (Value.slice none 0 0) := (bx3.c 1 (by decide)).1; have s2 : _ = some (Value.slice none 0 0) := (bx3.c 2 (by decide)).1; have s3 : _ = some (Value.slice none 0 0) := (bx3.c 3 (by decide)).1; have g0 := (bx3.c 0 (by decide)).2; have g1 := (bx3.c 1 (by decide)).2; have g2 := (bx3.c 2 (by decide)).2; have g3 := (bx3.c 3 (by decide)).2; have zbx3 := bx3.lt) | skip)))
      all_goals
        go_wp2_with fail
        go_meet
        case rel => first | exact ⟨_, ⟨ua0, un0, uc0, ua1, un1, uc1, ua2, un2, uc2, ua3, un3, uc3, uxi, uxl, uxd, uxo⟩, rfl, rfl, (((bx3.set 0 (by decide) (.slice ua0 un0 uc0)).set 1 (by decide) (.slice ua1 un1 uc1)).set 2 (by decide) (.slice ua2 un2 uc2)).set 3 (by decide) (.slice ua3 un3 uc3), (hO2'.four (b := X3.heap.size) (by simp) _ _ _ _).base (by simp), hd2, by (with_reducible repeat (first | exact Below.refl _ _ | exact hu2 | refine nD ?_ | refine nA ?_ _ | refine nS ?_ (by first | omega | (simp; done)) _)); done⟩ | exact ⟨_, ⟨ua0, un0, uc0, ua1, un1, uc1, ua2, un2, uc2, ua3, un3, uc3, uxi, uxl, uxd, uxo⟩, rfl, rfl, boxn_new w2 #[.slice ua0 un0 uc0, .slice ua1 un1 uc1, .slice ua2 un2 uc2, .slice ua3 un3 uc3] _ 4 rfl, (hO2'.below ((Below.refl _ _).alloc (Nat.le_refl _) _)).base (by first | omega | (simp; done) | (simp; omega)), hd2, by (with_reducible repeat (first | exact Below.refl _ _ | exact hu2 | refine nD ?_ | refine nA ?_ _ | refine nS ?_ (by first | omega | (simp; done)) _)); done⟩
    case rest =>
      obtain ⟨m_u, ⟨ua0, un0, uc0, ua1, un1, uc1, ua2, un2, uc2, ua3, un3, uc3, uxi, uxl, uxd, uxo⟩, rfl, rfl, bx_u, hO, hd, bY4⟩ := hcut
      obtain ⟨Y4, eY4⟩ : ∃ Y, Y = wc := ⟨_, rfl⟩
      rw [← eY4] at bx_u hO bY4 ⊢
      simp only [SV.box] at bx_u
      clear eY4 KX HSX
      replace bx_s := bx_s.below bY4 bx_s.lt
      replace bx_x := bx_x.below bY4 bx_x.lt
      replace hs_s := hs_s.below bY4
      replace hbv : Below w.heap.size w Y4 := hbv.trans (bY4.mono hbv.size)
      have hs_u := hO.isStore
      clear c_s0 c_s1 c_s2 c_s3 z_s c_x0 c_x1 z_x
      have c_s0 := (bx_s.c 0 (by decide)).1
      have c_s1 := (bx_s.c 1 (by decide)).1
      have c_s2 := (bx_s.c 2 (by decide)).1
      have c_s3 := (bx_s.c 3 (by decide)).1
      have z_s := bx_s.lt
      have c_x0 := (bx_x.c 0 (by decide)).1
      have c_x1 := (bx_x.c 1 (by decide)).1
      have z_x := bx_x.lt
      have c_u0 := (bx_u.c 0 (by decide)).1
      have c_u1 := (bx_u.c 1 (by decide)).1
      have c_u2 := (bx_u.c 2 (by decide)).1
      have c_u3 := (bx_u.c 3 (by decide)).1
      have z_u := bx_u.lt
      simp only [List.getD_cons_zero, List.getD_cons_succ] at c_s0 c_s1 c_s2 c_s3 c_x0 c_x1 c_u0 c_u1 c_u2 c_u3
      clear hWr hO
      go_upto_region 11 with ((go_at_call 15; refine (hCs _ hs_s).mono ?_; rintro e w5 ⟨rfl, hb5⟩; replace bx_s := bx_s.below hb5 bx_s.lt; replace bx_x := bx_x.below hb5 bx_x.lt; replace bx_u := bx_u.below hb5 bx_u.lt; replace hs_s := hs_s.below hb5; replace hs_u := hs_u.below hb5; replace hbv : Below w.heap.size w w5 := hbv.trans (hb5.mono hbv.size); clear c_s0 c_s1 c_s2 c_s3 z_s c_x0 c_x1 z_x c_u0 c_u1 c_u2 c_u3 z_u; have c_s0 := (bx_s.c 0 (by decide)).1; have c_s1 := (bx_s.c 1 (by decide)).1; have c_s2 := (bx_s.c 2 (by decide)).1; have c_s3 := (bx_s.c 3 (by decide)).1; have z_s := bx_s.lt; have c_x0 := (bx_x.c 0 (by decide)).1; have c_x1 := (bx_x.c 1 (by decide)).1; have z_x := bx_x.lt; have c_u0 := (bx_u.c 0 (by decide)).1; have c_u1 := (bx_u.c 1 (by decide)).1; have c_u2 := (bx_u.c 2 (by decide)).1; have c_u3 := (bx_u.c 3 (by decide)).1; have z_u := bx_u.lt; simp only [List.getD_cons_zero, List.getD_cons_succ] at c_s0 c_s1 c_s2 c_s3 c_x0 c_x1 c_u0 c_u1 c_u2 c_u3))
      clear hCs
      rw [← hd] at hok2
      rw [q4] at hd
      clear q4
      have hP : Plus (SV.data ⟨sa0, sn0, sc0, sa1, sn1, sc1, sa2, sn2, sc2, sa3, sn3, sc3, sxi, sxl, sxd, sxo⟩) (SV.data ⟨ua0, un0, uc0, ua1, un1, uc1, ua2, un2, uc2, ua3, un3, uc3, uxi, uxl, uxd, uxo⟩) ⟨(2, N1), K, true, pk v 99, A2⟩ := Plus.of hd
      have hdo : uxo = sxo := hP.over
      have hwfu : ∀ t ∈ uxo, TxWf t := by rw [hdo]; exact HOT.out
      have h4u : un3 * 16 ≤ 140737488351232 := by
        have e1 : uxo.length = un3 := hs_u.over.1
        have := HOL.out
        rw [hdo] at e1
        omega
      have y1 := (write_again hF hP hok2 hk hno hz ha1 hver).1 hA2
      have y2 := (write_again hF hP hok2 hk hno hz ha3 hver).2 (by omega)
      obtain ⟨r1, r2, r3, r4⟩ := read_again hF hP hok2 hk
      have hW1 := fun w' h1 => write_own ⟨ua0, un0, uc0, ua1, un1, uc1, ua2, un2, uc2, ua3, un3, uc3, uxi, uxl, uxd, uxo⟩ (2, N1) K (pk z 99) A1 w' h1 hwfu h4u
      have hW2 := fun w' h1 => write_own ⟨ua0, un0, uc0, ua1, un1, uc1, ua2, un2, uc2, ua3, un3, uc3, uxi, uxl, uxd, uxo⟩ (2, N1) K (pk z 99) (A2 + 1) w' h1 hwfu h4u
      have hRx := fun w' h1 => read_own ⟨ua0, un0, uc0, ua1, un1, uc1, ua2, un2, uc2, ua3, un3, uc3, uxi, uxl, uxd, uxo⟩ (2, N1) K w' h1 hwfu h4u
      obtain ⟨D1, eD1⟩ : ∃ D, D = writeData ⟨ua0, un0, uc0, ua1, un1, uc1, ua2, un2, uc2, ua3, un3, uc3, uxi, uxl, uxd, uxo⟩ (2, N1) K (pk z 99) A1 := ⟨_, rfl⟩
      obtain ⟨D2, eD2⟩ : ∃ D, D = writeData ⟨ua0, un0, uc0, ua1, un1, uc1, ua2, un2, uc2, ua3, un3, uc3, uxi, uxl, uxd, uxo⟩ (2, N1) K (pk z 99) (A2 + 1) := ⟨_, rfl⟩
      simp only [y1, SV.val, ← eD1] at hW1
      simp only [y2, SV.val, ← eD2] at hW2
      simp only [r1, r2, if_true, SV.val] at hRx
      clear y1 y2 r1 r2 r3 r4 hP hd hok2 hF hdo hwfu h4u hver hno eD1 eD2
      go_upto_region 11 with (fail)
      have KX : Hid (∀ U, Below w5.heap.size w5 U → U.cell? ⟨m_u, 0, none⟩ = some (.slice ua0 un0 uc0) ∧ U.cell? ⟨m_u, 1, none⟩ = some (.slice ua1 un1 uc1) ∧ U.cell? ⟨m_u, 2, none⟩ = some (.slice ua2 un2 uc2) ∧ U.cell? ⟨m_u, 3, none⟩ = some (.slice ua3 un3 uc3) ∧ U.cell? ⟨m_x, 0, none⟩ = some (.int .i64 2) ∧ U.cell? ⟨m_x, 1, none⟩ = some (.int .i64 N1)) := fun U hU => ⟨(hU.cell (p := ⟨m_u, 0, none⟩) z_u).trans c_u0, (hU.cell (p := ⟨m_u, 1, none⟩) z_u).trans c_u1, (hU.cell (p := ⟨m_u, 2, none⟩) z_u).trans c_u2, (hU.cell (p := ⟨m_u, 3, none⟩) z_u).trans c_u3, (hU.cell (p := ⟨m_x, 0, none⟩) z_x).trans c_x0, (hU.cell (p := ⟨m_x, 1, none⟩) z_x).trans c_x1⟩
      have HSX : Hid (∀ U, Below w5.heap.size w5 U → IsStore U ⟨ua0, un0, uc0, ua1, un1, uc1, ua2, un2, uc2, ua3, un3, uc3, uxi, uxl, uxd, uxo⟩) := fun U hU => hs_u.below hU
      go_cut [22, 23] (fun sp se wc => ∃ (q2 : Nat) (r2 : SV), sp = .pointer (some ⟨q2, 0, none⟩) ∧ se = .int .i64 13 ∧ BoxN wc q2 4 r2.box ∧ OwnStore wc w5.heap.size r2 ∧ r2.data = D1 ∧ Below w5.heap.size w5 wc)
      case first =>
        clear c_s0 c_s1 c_s2 c_s3 z_s c_x0 c_x1 z_x c_u0 c_u1 c_u2 c_u3 z_u
        go_region_held3 (fun U => U.cell? ⟨m_u, 0, none⟩ = some (.slice ua0 un0 uc0) ∧ U.cell? ⟨m_u, 1, none⟩ = some (.slice ua1 un1 uc1) ∧ U.cell? ⟨m_u, 2, none⟩ = some (.slice ua2 un2 uc2) ∧ U.cell? ⟨m_u, 3, none⟩ = some (.slice ua3 un3 uc3) ∧ U.cell? ⟨m_x, 0, none⟩ = some (.int .i64 2) ∧ U.cell? ⟨m_x, 1, none⟩ = some (.int .i64 N1))
          (exact KX.out _ (by (with_reducible repeat (first | exact Below.refl _ _ | exact hu2 | refine nD ?_ | refine nA ?_ _ | refine nS ?_ (by first | omega | (simp; done)) _)); done))
          (first | (go_at_call 16; refine (picked_any _ _ _ (by assumption) (by decide) (by decide)).mono ?_; rintro e u ⟨rfl, hu⟩; rw [hu]; clear hu) | (go_at_call 20; refine (hW1 _ (HSX.out _ (by (with_reducible repeat (first | exact Below.refl _ _ | exact hu2 | refine nD ?_ | refine nA ?_ _ | refine nS ?_ (by first | omega | (simp; done)) _)); done))).mono ?_; rintro e w2 ⟨⟨va0, vn0, vc0, va1, vn1, vc1, va2, vn2, vc2, va3, vn3, vc3, vxi, vxl, vxd, vxo⟩, rfl, hO2', hd2, hb2⟩; simp only []; have hu2 : Below w5.heap.size w5 w2 := nT (by (with_reducible repeat (first | exact Below.refl _ _ | exact hu2 | refine nD ?_ | refine nA ?_ _ | refine nS ?_ (by first | omega | (simp; done)) _)); done) hb2; have zu2 := hu2.size; (first | (have bx3 : BoxN w2 w5.heap.size 4 [.slice none 0 0, .slice none 0 0, .slice none 0 0, .slice none 0 0] := (boxn_new w5.drew #[.slice none 0 0, .slice none 0 0, .slice none 0 0, .slice none 0 0] 27 4 rfl).below hb2 (by simp); have s0 : _ = some (Value.slice none 0 0) := (bx3.c 0 (by decide)).1; have s1 : _ = some (Value.slice none 0 0) := (bx3.c 1 (by decide)).1; have s2 : _ = some (Value.slice none 0 0) := (bx3.c 2 (by decide)).1; have s3 : _ = some (Value.slice none 0 0) := (bx3.c 3 (by decide)).1; have g0 := (bx3.c 0 (by decide)).2; have g1 := (bx3.c 1 (by decide)).2; have g2 := (bx3.c 2 (by decide)).2; have g3 := (bx3.c 3 (by decide)).2; have zbx3 := bx3.lt) | skip)))
        all_goals
          go_wp2_with fail
          go_meet
          case rel => first | exact ⟨_, ⟨va0, vn0, vc0, va1, vn1, vc1, va2, vn2, vc2, va3, vn3, vc3, vxi, vxl, vxd, vxo⟩, rfl, rfl, (((bx3.set 0 (by decide) (.slice va0 vn0 vc0)).set 1 (by decide) (.slice va1 vn1 vc1)).set 2 (by decide) (.slice va2 vn2 vc2)).set 3 (by decide) (.slice va3 vn3 vc3), (hO2'.four (b := w5.heap.size) (by simp) _ _ _ _).base (by simp), hd2, by (with_reducible repeat (first | exact Below.refl _ _ | exact hu2 | refine nD ?_ | refine nA ?_ _ | refine nS ?_ (by first | omega | (simp; done)) _)); done⟩ | exact ⟨_, ⟨va0, vn0, vc0, va1, vn1, vc1, va2, vn2, vc2, va3, vn3, vc3, vxi, vxl, vxd, vxo⟩, rfl, rfl, boxn_new w2 #[.slice va0 vn0 vc0, .slice va1 vn1 vc1, .slice va2 vn2 vc2, .slice va3 vn3 vc3] _ 4 rfl, (hO2'.below ((Below.refl _ _).alloc (Nat.le_refl _) _)).base (by first | omega | (simp; done) | (simp; omega)), hd2, by (with_reducible repeat (first | exact Below.refl _ _ | exact hu2 | refine nD ?_ | refine nA ?_ _ | refine nS ?_ (by first | omega | (simp; done)) _)); done⟩
      case rest =>
        obtain ⟨m_v, ⟨va0, vn0, vc0, va1, vn1, vc1, va2, vn2, vc2, va3, vn3, vc3, vxi, vxl, vxd, vxo⟩, rfl, rfl, bx_v, hO, hd, bY6⟩ := hcut
        obtain ⟨Y6, eY6⟩ : ∃ Y, Y = wc := ⟨_, rfl⟩
        rw [← eY6] at bx_v hO bY6 ⊢
        simp only [SV.box] at bx_v
        clear eY6 KX HSX
        replace bx_s := bx_s.below bY6 bx_s.lt
        replace bx_x := bx_x.below bY6 bx_x.lt
        replace bx_u := bx_u.below bY6 bx_u.lt
        replace hs_s := hs_s.below bY6
        replace hs_u := hs_u.below bY6
        replace hbv : Below w.heap.size w Y6 := hbv.trans (bY6.mono hbv.size)
        have hs_v := hO.isStore
        clear c_s0 c_s1 c_s2 c_s3 z_s c_x0 c_x1 z_x c_u0 c_u1 c_u2 c_u3 z_u
        have c_s0 := (bx_s.c 0 (by decide)).1
        have c_s1 := (bx_s.c 1 (by decide)).1
        have c_s2 := (bx_s.c 2 (by decide)).1
        have c_s3 := (bx_s.c 3 (by decide)).1
        have z_s := bx_s.lt
        have c_x0 := (bx_x.c 0 (by decide)).1
        have c_x1 := (bx_x.c 1 (by decide)).1
        have z_x := bx_x.lt
        have c_u0 := (bx_u.c 0 (by decide)).1
        have c_u1 := (bx_u.c 1 (by decide)).1
        have c_u2 := (bx_u.c 2 (by decide)).1
        have c_u3 := (bx_u.c 3 (by decide)).1
        have z_u := bx_u.lt
        have c_v0 := (bx_v.c 0 (by decide)).1
        have c_v1 := (bx_v.c 1 (by decide)).1
        have c_v2 := (bx_v.c 2 (by decide)).1
        have c_v3 := (bx_v.c 3 (by decide)).1
        have z_v := bx_v.lt
        simp only [List.getD_cons_zero, List.getD_cons_succ] at c_s0 c_s1 c_s2 c_s3 c_x0 c_x1 c_u0 c_u1 c_u2 c_u3 c_v0 c_v1 c_v2 c_v3
        clear hW1 hO hd
        go_upto_region 13 with ((go_at_call 14; refine (hRx _ hs_u).mono ?_; rintro e w7 ⟨⟨qa0, qn0, qc0, qa1, qn1, qc1, qa2, qn2, qc2, qa3, qn3, qc3, qxi, qxl, qxd, qxo⟩, rfl, hO, hd, hb7⟩; simp only []; replace bx_s := bx_s.below hb7 bx_s.lt; replace bx_x := bx_x.below hb7 bx_x.lt; replace bx_u := bx_u.below hb7 bx_u.lt; replace bx_v := bx_v.below hb7 bx_v.lt; replace hs_s := hs_s.below hb7; replace hs_u := hs_u.below hb7; replace hs_v := hs_v.below hb7; replace hbv : Below w.heap.size w w7 := hbv.trans (hb7.mono hbv.size); clear c_s0 c_s1 c_s2 c_s3 z_s c_x0 c_x1 z_x c_u0 c_u1 c_u2 c_u3 z_u c_v0 c_v1 c_v2 c_v3 z_v; have c_s0 := (bx_s.c 0 (by decide)).1; have c_s1 := (bx_s.c 1 (by decide)).1; have c_s2 := (bx_s.c 2 (by decide)).1; have c_s3 := (bx_s.c 3 (by decide)).1; have z_s := bx_s.lt; have c_x0 := (bx_x.c 0 (by decide)).1; have c_x1 := (bx_x.c 1 (by decide)).1; have z_x := bx_x.lt; have c_u0 := (bx_u.c 0 (by decide)).1; have c_u1 := (bx_u.c 1 (by decide)).1; have c_u2 := (bx_u.c 2 (by decide)).1; have c_u3 := (bx_u.c 3 (by decide)).1; have z_u := bx_u.lt; have c_v0 := (bx_v.c 0 (by decide)).1; have c_v1 := (bx_v.c 1 (by decide)).1; have c_v2 := (bx_v.c 2 (by decide)).1; have c_v3 := (bx_v.c 3 (by decide)).1; have z_v := bx_v.lt; simp only [List.getD_cons_zero, List.getD_cons_succ] at c_s0 c_s1 c_s2 c_s3 c_x0 c_x1 c_u0 c_u1 c_u2 c_u3 c_v0 c_v1 c_v2 c_v3))
        clear hRx hO hd
        obtain ⟨X8, eX8⟩ : ∃ X : World, X = w7.alloc (.cells #[.slice qa0 qn0 qc0, .slice qa1 qn1 qc1, .slice qa2 qn2 qc2, .slice qa3 qn3 qc3] 27) := ⟨_, rfl⟩
        have bX8 : Below w7.heap.size w7 X8 := by rw [eX8]; exact (Below.refl _ _).alloc (Nat.le_refl _) _
        have bx_q : BoxN X8 w7.heap.size 4 [.slice qa0 qn0 qc0, .slice qa1 qn1 qc1, .slice qa2 qn2 qc2, .slice qa3 qn3 qc3] := by rw [eX8]; exact boxn_new w7 #[.slice qa0 qn0 qc0, .slice qa1 qn1 qc1, .slice qa2 qn2 qc2, .slice qa3 qn3 qc3] 27 4 rfl
        rw [← eX8]
        obtain ⟨m_q, em_q⟩ : ∃ m, m = w7.heap.size := ⟨_, rfl⟩
        rw [← em_q] at bx_q ⊢
        clear em_q eX8
        replace bx_s := bx_s.below bX8 bx_s.lt
        replace bx_x := bx_x.below bX8 bx_x.lt
        replace bx_u := bx_u.below bX8 bx_u.lt
        replace bx_v := bx_v.below bX8 bx_v.lt
        replace hs_s := hs_s.below bX8
        replace hs_u := hs_u.below bX8
        replace hs_v := hs_v.below bX8
        replace hbv : Below w.heap.size w X8 := hbv.trans (bX8.mono hbv.size)
        clear c_s0 c_s1 c_s2 c_s3 z_s c_x0 c_x1 z_x c_u0 c_u1 c_u2 c_u3 z_u c_v0 c_v1 c_v2 c_v3 z_v
        have c_s0 := (bx_s.c 0 (by decide)).1
        have c_s1 := (bx_s.c 1 (by decide)).1
        have c_s2 := (bx_s.c 2 (by decide)).1
        have c_s3 := (bx_s.c 3 (by decide)).1
        have z_s := bx_s.lt
        have c_x0 := (bx_x.c 0 (by decide)).1
        have c_x1 := (bx_x.c 1 (by decide)).1
        have z_x := bx_x.lt
        have c_u0 := (bx_u.c 0 (by decide)).1
        have c_u1 := (bx_u.c 1 (by decide)).1
        have c_u2 := (bx_u.c 2 (by decide)).1
        have c_u3 := (bx_u.c 3 (by decide)).1
        have z_u := bx_u.lt
        have c_v0 := (bx_v.c 0 (by decide)).1
        have c_v1 := (bx_v.c 1 (by decide)).1
        have c_v2 := (bx_v.c 2 (by decide)).1
        have c_v3 := (bx_v.c 3 (by decide)).1
        have z_v := bx_v.lt
        have c_q0 := (bx_q.c 0 (by decide)).1
        have c_q1 := (bx_q.c 1 (by decide)).1
        have c_q2 := (bx_q.c 2 (by decide)).1
        have c_q3 := (bx_q.c 3 (by decide)).1
        have z_q := bx_q.lt
        simp only [List.getD_cons_zero, List.getD_cons_succ] at c_s0 c_s1 c_s2 c_s3 c_x0 c_x1 c_u0 c_u1 c_u2 c_u3 c_v0 c_v1 c_v2 c_v3 c_q0 c_q1 c_q2 c_q3
        go_upto_region 13 with (fail)
        have KX : Hid (∀ U, Below X8.heap.size X8 U → U.cell? ⟨m_u, 0, none⟩ = some (.slice ua0 un0 uc0) ∧ U.cell? ⟨m_u, 1, none⟩ = some (.slice ua1 un1 uc1) ∧ U.cell? ⟨m_u, 2, none⟩ = some (.slice ua2 un2 uc2) ∧ U.cell? ⟨m_u, 3, none⟩ = some (.slice ua3 un3 uc3) ∧ U.cell? ⟨m_x, 0, none⟩ = some (.int .i64 2) ∧ U.cell? ⟨m_x, 1, none⟩ = some (.int .i64 N1)) := fun U hU => ⟨(hU.cell (p := ⟨m_u, 0, none⟩) z_u).trans c_u0, (hU.cell (p := ⟨m_u, 1, none⟩) z_u).trans c_u1, (hU.cell (p := ⟨m_u, 2, none⟩) z_u).trans c_u2, (hU.cell (p := ⟨m_u, 3, none⟩) z_u).trans c_u3, (hU.cell (p := ⟨m_x, 0, none⟩) z_x).trans c_x0, (hU.cell (p := ⟨m_x, 1, none⟩) z_x).trans c_x1⟩
        have HSX : Hid (∀ U, Below X8.heap.size X8 U → IsStore U ⟨ua0, un0, uc0, ua1, un1, uc1, ua2, un2, uc2, ua3, un3, uc3, uxi, uxl, uxd, uxo⟩) := fun U hU => hs_u.below hU
        go_cut [28, 29] (fun sp se wc => ∃ (q2 : Nat) (r2 : SV), sp = .pointer (some ⟨q2, 0, none⟩) ∧ se = .int .i64 0 ∧ BoxN wc q2 4 r2.box ∧ OwnStore wc X8.heap.size r2 ∧ r2.data = D2 ∧ Below X8.heap.size X8 wc)
        case first =>
          clear c_s0 c_s1 c_s2 c_s3 z_s c_x0 c_x1 z_x c_u0 c_u1 c_u2 c_u3 z_u c_v0 c_v1 c_v2 c_v3 z_v c_q0 c_q1 c_q2 c_q3 z_q
          go_region_held3 (fun U => U.cell? ⟨m_u, 0, none⟩ = some (.slice ua0 un0 uc0) ∧ U.cell? ⟨m_u, 1, none⟩ = some (.slice ua1 un1 uc1) ∧ U.cell? ⟨m_u, 2, none⟩ = some (.slice ua2 un2 uc2) ∧ U.cell? ⟨m_u, 3, none⟩ = some (.slice ua3 un3 uc3) ∧ U.cell? ⟨m_x, 0, none⟩ = some (.int .i64 2) ∧ U.cell? ⟨m_x, 1, none⟩ = some (.int .i64 N1))
            (exact KX.out _ (by (with_reducible repeat (first | exact Below.refl _ _ | exact hu2 | refine nD ?_ | refine nA ?_ _ | refine nS ?_ (by first | omega | (simp; done)) _)); done))
            (first | (go_at_call 16; refine (picked_any _ _ _ (by assumption) (by decide) (by decide)).mono ?_; rintro e u ⟨rfl, hu⟩; rw [hu]; clear hu) | (go_at_call 20; refine (hW2 _ (HSX.out _ (by (with_reducible repeat (first | exact Below.refl _ _ | exact hu2 | refine nD ?_ | refine nA ?_ _ | refine nS ?_ (by first | omega | (simp; done)) _)); done))).mono ?_; rintro e w2 ⟨⟨ta0, tn0, tc0, ta1, tn1, tc1, ta2, tn2, tc2, ta3, tn3, tc3, txi, txl, txd, txo⟩, rfl, hO2', hd2, hb2⟩; simp only []; have hu2 : Below X8.heap.size X8 w2 := nT (by (with_reducible repeat (first | exact Below.refl _ _ | exact hu2 | refine nD ?_ | refine nA ?_ _ | refine nS ?_ (by first | omega | (simp; done)) _)); done) hb2; have zu2 := hu2.size; (first | (have bx3 : BoxN w2 X8.heap.size 4 [.slice none 0 0, .slice none 0 0, .slice none 0 0, .slice none 0 0] := (boxn_new X8.drew #[.slice none 0 0, .slice none 0 0, .slice none 0 0, .slice none 0 0] 27 4 rfl).below hb2 (by simp); have s0 : _ = some (Value.slice none 0 0) := (bx3.c 0 (by decide)).1; have s1 : _ = some (Value.slice none 0 0) := (bx3.c 1 (by decide)).1; have s2 : _ = some (Value.slice none 0 0) := (bx3.c 2 (by decide)).1; have s3 : _ = some (Value.slice none 0 0) := (bx3.c 3 (by decide)).1; have g0 := (bx3.c 0 (by decide)).2; have g1 := (bx3.c 1 (by decide)).2; have g2 := (bx3.c 2 (by decide)).2; have g3 := (bx3.c 3 (by decide)).2; have zbx3 := bx3.lt) | skip)))
          all_goals
            go_wp2_with fail
            go_meet
            case rel => first | exact ⟨_, ⟨ta0, tn0, tc0, ta1, tn1, tc1, ta2, tn2, tc2, ta3, tn3, tc3, txi, txl, txd, txo⟩, rfl, rfl, (((bx3.set 0 (by decide) (.slice ta0 tn0 tc0)).set 1 (by decide) (.slice ta1 tn1 tc1)).set 2 (by decide) (.slice ta2 tn2 tc2)).set 3 (by decide) (.slice ta3 tn3 tc3), (hO2'.four (b := X8.heap.size) (by simp) _ _ _ _).base (by simp), hd2, by (with_reducible repeat (first | exact Below.refl _ _ | exact hu2 | refine nD ?_ | refine nA ?_ _ | refine nS ?_ (by first | omega | (simp; done)) _)); done⟩ | exact ⟨_, ⟨ta0, tn0, tc0, ta1, tn1, tc1, ta2, tn2, tc2, ta3, tn3, tc3, txi, txl, txd, txo⟩, rfl, rfl, boxn_new w2 #[.slice ta0 tn0 tc0, .slice ta1 tn1 tc1, .slice ta2 tn2 tc2, .slice ta3 tn3 tc3] _ 4 rfl, (hO2'.below ((Below.refl _ _).alloc (Nat.le_refl _) _)).base (by first | omega | (simp; done) | (simp; omega)), hd2, by (with_reducible repeat (first | exact Below.refl _ _ | exact hu2 | refine nD ?_ | refine nA ?_ _ | refine nS ?_ (by first | omega | (simp; done)) _)); done⟩
        case rest =>
          obtain ⟨m_t, ⟨ta0, tn0, tc0, ta1, tn1, tc1, ta2, tn2, tc2, ta3, tn3, tc3, txi, txl, txd, txo⟩, rfl, rfl, bx_t, hO, hd, bY9⟩ := hcut
          obtain ⟨Y9, eY9⟩ : ∃ Y, Y = wc := ⟨_, rfl⟩
          rw [← eY9] at bx_t hO bY9 ⊢
          simp only [SV.box] at bx_t
          clear eY9 KX HSX
          replace bx_s := bx_s.below bY9 bx_s.lt
          replace bx_x := bx_x.below bY9 bx_x.lt
          replace bx_u := bx_u.below bY9 bx_u.lt
          replace bx_v := bx_v.below bY9 bx_v.lt
          replace bx_q := bx_q.below bY9 bx_q.lt
          replace hs_s := hs_s.below bY9
          replace hs_u := hs_u.below bY9
          replace hs_v := hs_v.below bY9
          replace hbv : Below w.heap.size w Y9 := hbv.trans (bY9.mono hbv.size)
          have hs_t := hO.isStore
          clear c_s0 c_s1 c_s2 c_s3 z_s c_x0 c_x1 z_x c_u0 c_u1 c_u2 c_u3 z_u c_v0 c_v1 c_v2 c_v3 z_v c_q0 c_q1 c_q2 c_q3 z_q
          have c_s0 := (bx_s.c 0 (by decide)).1
          have c_s1 := (bx_s.c 1 (by decide)).1
          have c_s2 := (bx_s.c 2 (by decide)).1
          have c_s3 := (bx_s.c 3 (by decide)).1
          have z_s := bx_s.lt
          have c_x0 := (bx_x.c 0 (by decide)).1
          have c_x1 := (bx_x.c 1 (by decide)).1
          have z_x := bx_x.lt
          have c_u0 := (bx_u.c 0 (by decide)).1
          have c_u1 := (bx_u.c 1 (by decide)).1
          have c_u2 := (bx_u.c 2 (by decide)).1
          have c_u3 := (bx_u.c 3 (by decide)).1
          have z_u := bx_u.lt
          have c_v0 := (bx_v.c 0 (by decide)).1
          have c_v1 := (bx_v.c 1 (by decide)).1
          have c_v2 := (bx_v.c 2 (by decide)).1
          have c_v3 := (bx_v.c 3 (by decide)).1
          have z_v := bx_v.lt
          have c_q0 := (bx_q.c 0 (by decide)).1
          have c_q1 := (bx_q.c 1 (by decide)).1
          have c_q2 := (bx_q.c 2 (by decide)).1
          have c_q3 := (bx_q.c 3 (by decide)).1
          have z_q := bx_q.lt
          have c_t0 := (bx_t.c 0 (by decide)).1
          have c_t1 := (bx_t.c 1 (by decide)).1
          have c_t2 := (bx_t.c 2 (by decide)).1
          have c_t3 := (bx_t.c 3 (by decide)).1
          have z_t := bx_t.lt
          simp only [List.getD_cons_zero, List.getD_cons_succ] at c_s0 c_s1 c_s2 c_s3 c_x0 c_x1 c_u0 c_u1 c_u2 c_u3 c_v0 c_v1 c_v2 c_v3 c_q0 c_q1 c_q2 c_q3 c_t0 c_t1 c_t2 c_t3
          go_wp2_with ((go_at_call 16; refine (picked_any _ _ _ (by assumption) (by decide) (by decide)).mono ?_; rintro e u ⟨rfl, hu⟩; rw [hu]; clear hu))
          go_ret
          exact ⟨rfl, hbv⟩
end Go.Proofs.Ytbmbahifkegehaa
