/- The walk of the law StoreGood. -/
import Derived.Test.YtbmbahifkegehaaSKStore
import Derived.Test.YtbmbahifkegehaaSKFresh
namespace Go.Proofs.Ytbmbahifkegehaa
open Go.ChangeShapes Go.WideShapes Go.ChangeAt Go.RowKit St
set_option linter.unusedVariables false

set_option maxRecDepth 100000 in
set_option maxHeartbeats 4000000 in
theorem storeGood_walk (a : Option Addr) (len cap : Nat) (rs : List RV) (w : World) (h : IsRaws w a len cap rs) :
    Calls Try.prog 4 #[.slice a len cap] w fun e w' => e = .returned (.bool true) ∧ Below w.heap.size w w' := by
  have hSt := store_made a len cap rs 40 w h (by decide)
  have hbv : Below w.heap.size w w := Below.refl _ _
  go_enter Try.func4, Try.ntmps4
  go_upto_region 2 with ((go_at_call 13; refine (hSt).mono ?_; rintro e w1 ⟨⟨sa0, sn0, sc0, sa1, sn1, sc1, sa2, sn2, sc2, sa3, sn3, sc3, sxi, sxl, sxd, sxo⟩, rfl, hO, hG, hb1⟩; simp only [SV.val]; replace hbv : Below w.heap.size w w1 := hbv.trans (hb1.mono hbv.size); have hs_s := hO.isStore))
  clear hSt hO
  obtain ⟨X2, eX2⟩ : ∃ X : World, X = w1.alloc (.cells #[.slice sa0 sn0 sc0, .slice sa1 sn1 sc1, .slice sa2 sn2 sc2, .slice sa3 sn3 sc3] 27) := ⟨_, rfl⟩
  have bX2 : Below w1.heap.size w1 X2 := by rw [eX2]; exact (Below.refl _ _).alloc (Nat.le_refl _) _
  have bx_s : BoxN X2 w1.heap.size 4 [.slice sa0 sn0 sc0, .slice sa1 sn1 sc1, .slice sa2 sn2 sc2, .slice sa3 sn3 sc3] := by rw [eX2]; exact boxn_new w1 #[.slice sa0 sn0 sc0, .slice sa1 sn1 sc1, .slice sa2 sn2 sc2, .slice sa3 sn3 sc3] 27 4 rfl
  rw [← eX2]
  obtain ⟨m_s, em_s⟩ : ∃ m, m = w1.heap.size := ⟨_, rfl⟩
  rw [← em_s] at bx_s ⊢
  clear em_s eX2
  replace hs_s := hs_s.below bX2
  replace hbv : Below w.heap.size w X2 := hbv.trans (bX2.mono hbv.size)
  have c_s0 := (bx_s.c 0 (by decide)).1
  have c_s1 := (bx_s.c 1 (by decide)).1
  have c_s2 := (bx_s.c 2 (by decide)).1
  have c_s3 := (bx_s.c 3 (by decide)).1
  have z_s := bx_s.lt
  simp only [List.getD_cons_zero, List.getD_cons_succ] at c_s0 c_s1 c_s2 c_s3
  have h20 : sxl.length ≤ 20 := hG.locks20
  have hF : Fresh (SV.data ⟨sa0, sn0, sc0, sa1, sn1, sc1, sa2, sn2, sc2, sa3, sn3, sc3, sxi, sxl, sxd, sxo⟩) (3, 9) := hG.fresh (by decide) (by decide) (by decide) (by decide)
  have hw7 : sxl.any (wrT 7) = false := List.any_eq_false.2 fun o ho e => by
    have := (hG.lt o ho).2
    simp only [wrT, Bool.and_eq_true, decide_eq_true_eq] at e
    omega
  have hi7 : itemAt sxi 7 = ⟨7, 0, 0⟩ := itemAt_none fun o ho e => by have := hG.ik o ho; omega
  obtain ⟨q1, q2, q3, q4⟩ := (read_fresh (s := ⟨sa0, sn0, sc0, sa1, sn1, sc1, sa2, sn2, sc2, sa3, sn3, sc3, sxi, sxl, sxd, sxo⟩) (k := 7) hG.ok (by show sxl.length ≤ 22; omega) hF (by decide)).2 hw7
  simp only [hi7] at q2 q3
  have hok2 := read_ok q1
  rw [q4] at hok2
  have hRd := fun w' h1 => read_own ⟨sa0, sn0, sc0, sa1, sn1, sc1, sa2, sn2, sc2, sa3, sn3, sc3, sxi, sxl, sxd, sxo⟩ (3, 9) 7 w' h1 hG.wf (hG.h4 h1)
  simp only [q1, q2, q3, q4, SV.val] at hRd
  have hCs := fun w' h1 => check_any ⟨sa0, sn0, sc0, sa1, sn1, sc1, sa2, sn2, sc2, sa3, sn3, sc3, sxi, sxl, sxd, sxo⟩ w' h1 hG.wf
  simp only [hG.ok.ok, SV.val, if_true] at hCs
  have HOT : Hid (∀ t ∈ sxo, TxWf t) := hG.wf
  have hl0 : sxl.length = sn1 := hs_s.locks.1
  clear q1 q2 q3 q4 hw7 hi7 hF hG
  go_upto_region 3 with ((go_at_call 14; refine (hRd _ hs_s).mono ?_; rintro e w3 ⟨⟨ua0, un0, uc0, ua1, un1, uc1, ua2, un2, uc2, ua3, un3, uc3, uxi, uxl, uxd, uxo⟩, rfl, hO, hd, hb3⟩; simp only []; replace bx_s := bx_s.below hb3 bx_s.lt; replace hs_s := hs_s.below hb3; replace hbv : Below w.heap.size w w3 := hbv.trans (hb3.mono hbv.size); have hs_u := hO.isStore; clear c_s0 c_s1 c_s2 c_s3 z_s; have c_s0 := (bx_s.c 0 (by decide)).1; have c_s1 := (bx_s.c 1 (by decide)).1; have c_s2 := (bx_s.c 2 (by decide)).1; have c_s3 := (bx_s.c 3 (by decide)).1; have z_s := bx_s.lt; simp only [List.getD_cons_zero, List.getD_cons_succ] at c_s0 c_s1 c_s2 c_s3))
  clear hRd hO
  obtain ⟨X4, eX4⟩ : ∃ X : World, X = w3.alloc (.cells #[.slice ua0 un0 uc0, .slice ua1 un1 uc1, .slice ua2 un2 uc2, .slice ua3 un3 uc3] 27) := ⟨_, rfl⟩
  have bX4 : Below w3.heap.size w3 X4 := by rw [eX4]; exact (Below.refl _ _).alloc (Nat.le_refl _) _
  have bx_u : BoxN X4 w3.heap.size 4 [.slice ua0 un0 uc0, .slice ua1 un1 uc1, .slice ua2 un2 uc2, .slice ua3 un3 uc3] := by rw [eX4]; exact boxn_new w3 #[.slice ua0 un0 uc0, .slice ua1 un1 uc1, .slice ua2 un2 uc2, .slice ua3 un3 uc3] 27 4 rfl
  rw [← eX4]
  obtain ⟨m_u, em_u⟩ : ∃ m, m = w3.heap.size := ⟨_, rfl⟩
  rw [← em_u] at bx_u ⊢
  clear em_u eX4
  replace bx_s := bx_s.below bX4 bx_s.lt
  replace hs_s := hs_s.below bX4
  replace hs_u := hs_u.below bX4
  replace hbv : Below w.heap.size w X4 := hbv.trans (bX4.mono hbv.size)
  clear c_s0 c_s1 c_s2 c_s3 z_s
  have c_s0 := (bx_s.c 0 (by decide)).1
  have c_s1 := (bx_s.c 1 (by decide)).1
  have c_s2 := (bx_s.c 2 (by decide)).1
  have c_s3 := (bx_s.c 3 (by decide)).1
  have z_s := bx_s.lt
  have c_u0 := (bx_u.c 0 (by decide)).1
  have c_u1 := (bx_u.c 1 (by decide)).1
  have c_u2 := (bx_u.c 2 (by decide)).1
  have c_u3 := (bx_u.c 3 (by decide)).1
  have z_u := bx_u.lt
  simp only [List.getD_cons_zero, List.getD_cons_succ] at c_s0 c_s1 c_s2 c_s3 c_u0 c_u1 c_u2 c_u3
  have hdl : uxl = sxl ++ [⟨(3, 9), 7, false, 0, 0⟩] := congrArg PS.locks hd
  have hdo : uxo = sxo := congrArg PS.over hd
  have hl1 : uxl.length = un1 := hs_u.locks.1
  rw [hdl] at hl1
  simp only [List.length_append, List.length_cons, List.length_nil, hl0] at hl1
  rw [hl0] at h20
  obtain rfl : un1 = sn1 + 1 := by omega
  rw [← hd] at hok2
  have hCu := fun w' h1 => check_any ⟨ua0, un0, uc0, ua1, (sn1 + 1), uc1, ua2, un2, uc2, ua3, un3, uc3, uxi, uxl, uxd, uxo⟩ w' h1 (by show ∀ t ∈ uxo, TxWf t; rw [hdo]; exact HOT.out)
  simp only [hok2.ok, SV.val, if_true] at hCu
  clear hl0 hl1 hdl hdo hd hok2
  have hwr : IntKind.i64.wrap ((sn1 : Int) + 1) = (sn1 : Int) + 1 := by apply wrap_in <;> omega
  have tok : True := trivial
  go_wp2_with (first | (go_at_call 15; clear tok; refine (hCs _ hs_s).mono ?_; rintro e w5 ⟨rfl, hb5⟩; replace bx_s := bx_s.below hb5 bx_s.lt; replace bx_u := bx_u.below hb5 bx_u.lt; replace hs_s := hs_s.below hb5; replace hs_u := hs_u.below hb5; replace hbv : Below w.heap.size w w5 := hbv.trans (hb5.mono hbv.size); clear c_s0 c_s1 c_s2 c_s3 z_s c_u0 c_u1 c_u2 c_u3 z_u; have c_s0 := (bx_s.c 0 (by decide)).1; have c_s1 := (bx_s.c 1 (by decide)).1; have c_s2 := (bx_s.c 2 (by decide)).1; have c_s3 := (bx_s.c 3 (by decide)).1; have z_s := bx_s.lt; have c_u0 := (bx_u.c 0 (by decide)).1; have c_u1 := (bx_u.c 1 (by decide)).1; have c_u2 := (bx_u.c 2 (by decide)).1; have c_u3 := (bx_u.c 3 (by decide)).1; have z_u := bx_u.lt; simp only [List.getD_cons_zero, List.getD_cons_succ] at c_s0 c_s1 c_s2 c_s3 c_u0 c_u1 c_u2 c_u3) | (go_at_call 15; refine (hCu _ hs_u).mono ?_; rintro e w6 ⟨rfl, hb6⟩; replace bx_s := bx_s.below hb6 bx_s.lt; replace bx_u := bx_u.below hb6 bx_u.lt; replace hs_s := hs_s.below hb6; replace hs_u := hs_u.below hb6; replace hbv : Below w.heap.size w w6 := hbv.trans (hb6.mono hbv.size); clear c_s0 c_s1 c_s2 c_s3 z_s c_u0 c_u1 c_u2 c_u3 z_u; have c_s0 := (bx_s.c 0 (by decide)).1; have c_s1 := (bx_s.c 1 (by decide)).1; have c_s2 := (bx_s.c 2 (by decide)).1; have c_s3 := (bx_s.c 3 (by decide)).1; have z_s := bx_s.lt; have c_u0 := (bx_u.c 0 (by decide)).1; have c_u1 := (bx_u.c 1 (by decide)).1; have c_u2 := (bx_u.c 2 (by decide)).1; have c_u3 := (bx_u.c 3 (by decide)).1; have z_u := bx_u.lt; simp only [List.getD_cons_zero, List.getD_cons_succ] at c_s0 c_s1 c_s2 c_s3 c_u0 c_u1 c_u2 c_u3))
  go_ret
  exact ⟨rfl, hbv⟩
end Go.Proofs.Ytbmbahifkegehaa
