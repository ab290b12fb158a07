/- The walk of the law EndAll. -/
import Derived.Test.YtbmbahifkegehabSKStore
import Derived.Test.YtbmbahifkegehabSKOver
import Derived.Test.YtbmbahifkegehabSKSame
import Derived.Test.YtbmbahifkegehabSWritesCnt
namespace Go.Proofs.Ytbmbahifkegehab
open Go.ChangeShapes Go.WideShapes Go.ChangeAt Go.RowKit St
set_option linter.unusedVariables false

set_option maxRecDepth 100000 in
set_option maxHeartbeats 4000000 in
theorem endAll_walk (a : Option Addr) (len cap : Nat) (rs : List RV) (x y : Int) (yes : Bool) (w : World) (h : IsRaws w a len cap rs) (hx : (Lit.int .i64 x).wf = true) (hy : (Lit.int .i64 y).wf = true) :
    Calls Try.prog 3 #[.slice a len cap, .int .i64 x, .int .i64 y, .bool yes] w fun e w' => e = .returned (.bool true) ∧ Below w.heap.size w w' := by
  have wx := i64_bd hx
  have wy := i64_bd hy
  clear hx hy
  have hbv : Below w.heap.size w w := Below.refl _ _
  have b1 := pk_bd x 2 (by decide)
  have b2 := pk_bd y 5 (by decide)
  have hw1 : IntKind.i64.wrap (1 + pk y 5) = 1 + pk y 5 := by apply wrap_in <;> omega
  have hSt := store_made a len cap rs 30 w h (by decide)
  go_enter Try.func3, Try.ntmps3
  go_upto_region 2 with ((go_at_call 7; refine (hSt).mono ?_; rintro e w1 ⟨⟨sa0, sn0, sc0, sa1, sn1, sc1, sa2, sn2, sc2, sa3, sn3, sc3, sxi, sxl, sxd, sxo⟩, rfl, hO, hG, hb1⟩; simp only [SV.val]; replace hbv : Below w.heap.size w w1 := hbv.trans (hb1.mono hbv.size); have hs_s := hO.isStore))
  clear hSt hO
  obtain ⟨X2, eX2⟩ : ∃ X : World, X = w1.alloc (.cells #[.slice sa0 sn0 sc0, .slice sa1 sn1 sc1, .slice sa2 sn2 sc2, .slice sa3 sn3 sc3] 28) := ⟨_, rfl⟩
  have bX2 : Below w1.heap.size w1 X2 := by rw [eX2]; exact (Below.refl _ _).alloc (Nat.le_refl _) _
  have bx_s : BoxN X2 w1.heap.size 4 [.slice sa0 sn0 sc0, .slice sa1 sn1 sc1, .slice sa2 sn2 sc2, .slice sa3 sn3 sc3] := by rw [eX2]; exact boxn_new w1 #[.slice sa0 sn0 sc0, .slice sa1 sn1 sc1, .slice sa2 sn2 sc2, .slice sa3 sn3 sc3] 28 4 rfl
  rw [← eX2]
  obtain ⟨m_s, em_s⟩ : ∃ m, m = w1.heap.size := ⟨_, rfl⟩
  rw [← em_s] at bx_s ⊢
  clear em_s eX2
  replace hs_s := hs_s.below bX2
  replace hbv : Below w.heap.size w X2 := hbv.trans (bX2.mono hbv.size)
  have c_s0 := (bx_s.c 0 (by decide)).1
  have c_s1 := (bx_s.c 1 (by decide)).1
  have c_s2 := (bx_s.c 2 (by decide)).1
  have c_s3 := (bx_s.c 3 (by decide)).1
  have z_s := bx_s.lt
  simp only [List.getD_cons_zero, List.getD_cons_succ] at c_s0 c_s1 c_s2 c_s3
  go_upto_region 3 with ((go_at_call 8; refine (picked_any _ _ _ (by assumption) (by decide) (by decide)).mono ?_; rintro e u ⟨rfl, hu⟩; rw [hu]; clear hu))
  obtain ⟨X3, eX3⟩ : ∃ X : World, X = X2.alloc (.cells #[.int .i64 (pk x 2), .int .i64 (1 + pk y 5)] 32) := ⟨_, rfl⟩
  have bX3 : Below X2.heap.size X2 X3 := by rw [eX3]; exact (Below.refl _ _).alloc (Nat.le_refl _) _
  have bx_x : BoxN X3 X2.heap.size 2 [.int .i64 (pk x 2), .int .i64 (1 + pk y 5)] := by rw [eX3]; exact boxn_new X2 #[.int .i64 (pk x 2), .int .i64 (1 + pk y 5)] 32 2 rfl
  rw [← eX3]
  obtain ⟨m_x, em_x⟩ : ∃ m, m = X2.heap.size := ⟨_, rfl⟩
  rw [← em_x] at bx_x ⊢
  clear em_x eX3
  replace bx_s := bx_s.below bX3 bx_s.lt
  replace hs_s := hs_s.below bX3
  replace hbv : Below w.heap.size w X3 := hbv.trans (bX3.mono hbv.size)
  clear c_s0 c_s1 c_s2 c_s3 z_s
  have c_s0 := (bx_s.c 0 (by decide)).1
  have c_s1 := (bx_s.c 1 (by decide)).1
  have c_s2 := (bx_s.c 2 (by decide)).1
  have c_s3 := (bx_s.c 3 (by decide)).1
  have z_s := bx_s.lt
  have c_x0 := (bx_x.c 0 (by decide)).1
  have c_x1 := (bx_x.c 1 (by decide)).1
  have z_x := bx_x.lt
  simp only [List.getD_cons_zero, List.getD_cons_succ] at c_s0 c_s1 c_s2 c_s3 c_x0 c_x1
  have hxo : txOK (pk x 2, 1 + pk y 5) = true := by
    simp only [txOK, Bool.and_eq_true]
    exact ⟨inR_true b1.1 (by show pk x 2 ≤ 3; omega), inR_true (by show 1 ≤ 1 + pk y 5; omega) (by show 1 + pk y 5 ≤ 1048576; omega)⟩
  obtain ⟨N0, eN0⟩ : ∃ N, N = pk x 2 := ⟨_, rfl⟩
  obtain ⟨N1, eN1⟩ : ∃ N, N = 1 + pk y 5 := ⟨_, rfl⟩
  rw [← eN0, ← eN1] at hxo
  rw [← eN0] at bx_x c_x0 b1
  rw [← eN1] at bx_x c_x1 hw1
  clear eN0 eN1 hw1 b1 b2 wx wy
  have hver : ∀ y ∈ sxi, y.version ≤ 1048000 := fun y hy => by have := hG.ver y hy; omega
  have hEn := fun w' h1 => end_own ⟨sa0, sn0, sc0, sa1, sn1, sc1, sa2, sn2, sc2, sa3, sn3, sc3, sxi, sxl, sxd, sxo⟩ (N0, N1) yes w' h1 hG.wf (hG.h4 h1)
  have y1 := end_err (s := ⟨sa0, sn0, sc0, sa1, sn1, sc1, sa2, sn2, sc2, sa3, sn3, sc3, sxi, sxl, sxd, sxo⟩) (yes := yes) hG.ok hxo
  simp only [y1, SV.val] at hEn
  clear y1
  have HGO : Hid (OKP (SV.data ⟨sa0, sn0, sc0, sa1, sn1, sc1, sa2, sn2, sc2, sa3, sn3, sc3, sxi, sxl, sxd, sxo⟩)) := hG.ok
  have HOL : Hid (sxo.length ≤ 4) := hG.over4
  clear hG
  go_upto_region 4 with ((go_at_call 9; refine (hEn _ hs_s).mono ?_; rintro e w4 ⟨⟨ua0, un0, uc0, ua1, un1, uc1, ua2, un2, uc2, ua3, un3, uc3, uxi, uxl, uxd, uxo⟩, rfl, hO, hd, hb4⟩; simp only []; replace bx_s := bx_s.below hb4 bx_s.lt; replace bx_x := bx_x.below hb4 bx_x.lt; replace hs_s := hs_s.below hb4; replace hbv : Below w.heap.size w w4 := hbv.trans (hb4.mono hbv.size); have hs_u := hO.isStore; clear c_s0 c_s1 c_s2 c_s3 z_s c_x0 c_x1 z_x; have c_s0 := (bx_s.c 0 (by decide)).1; have c_s1 := (bx_s.c 1 (by decide)).1; have c_s2 := (bx_s.c 2 (by decide)).1; have c_s3 := (bx_s.c 3 (by decide)).1; have z_s := bx_s.lt; have c_x0 := (bx_x.c 0 (by decide)).1; have c_x1 := (bx_x.c 1 (by decide)).1; have z_x := bx_x.lt; simp only [List.getD_cons_zero, List.getD_cons_succ] at c_s0 c_s1 c_s2 c_s3 c_x0 c_x1))
  clear hEn hO
  obtain ⟨X5, eX5⟩ : ∃ X : World, X = w4.alloc (.cells #[.slice ua0 un0 uc0, .slice ua1 un1 uc1, .slice ua2 un2 uc2, .slice ua3 un3 uc3] 28) := ⟨_, rfl⟩
  have bX5 : Below w4.heap.size w4 X5 := by rw [eX5]; exact (Below.refl _ _).alloc (Nat.le_refl _) _
  have bx_u : BoxN X5 w4.heap.size 4 [.slice ua0 un0 uc0, .slice ua1 un1 uc1, .slice ua2 un2 uc2, .slice ua3 un3 uc3] := by rw [eX5]; exact boxn_new w4 #[.slice ua0 un0 uc0, .slice ua1 un1 uc1, .slice ua2 un2 uc2, .slice ua3 un3 uc3] 28 4 rfl
  rw [← eX5]
  obtain ⟨m_u, em_u⟩ : ∃ m, m = w4.heap.size := ⟨_, rfl⟩
  rw [← em_u] at bx_u ⊢
  clear em_u eX5
  replace bx_s := bx_s.below bX5 bx_s.lt
  replace bx_x := bx_x.below bX5 bx_x.lt
  replace hs_s := hs_s.below bX5
  replace hs_u := hs_u.below bX5
  replace hbv : Below w.heap.size w X5 := hbv.trans (bX5.mono hbv.size)
  clear c_s0 c_s1 c_s2 c_s3 z_s c_x0 c_x1 z_x
  have c_s0 := (bx_s.c 0 (by decide)).1
  have c_s1 := (bx_s.c 1 (by decide)).1
  have c_s2 := (bx_s.c 2 (by decide)).1
  have c_s3 := (bx_s.c 3 (by decide)).1
  have z_s := bx_s.lt
  have c_x0 := (bx_x.c 0 (by decide)).1
  have c_x1 := (bx_x.c 1 (by decide)).1
  have z_x := bx_x.lt
  have c_u0 := (bx_u.c 0 (by decide)).1
  have c_u1 := (bx_u.c 1 (by decide)).1
  have c_u2 := (bx_u.c 2 (by decide)).1
  have c_u3 := (bx_u.c 3 (by decide)).1
  have z_u := bx_u.lt
  simp only [List.getD_cons_zero, List.getD_cons_succ] at c_s0 c_s1 c_s2 c_s3 c_x0 c_x1 c_u0 c_u1 c_u2 c_u3
  obtain ⟨g1, g2, g3, g4, g5, g6, g7⟩ := end_again (u := ⟨ua0, un0, uc0, ua1, un1, uc1, ua2, un2, uc2, ua3, un3, uc3, uxi, uxl, uxd, uxo⟩) HGO.out hxo hver hd (!yes)
  have h4u : un3 * 16 ≤ 140737488351232 := by
    have e1 : uxo.length = un3 := hs_u.over.1
    have := HOL.out
    rcases g7 with e | e
    · have e' : uxo = sxo := e
      rw [e'] at e1
      omega
    · have e' : uxo = sxo ++ [(N0, N1)] := e
      rw [e'] at e1
      simp at e1
      omega
  have hE2 := fun w' h1 => end_own ⟨ua0, un0, uc0, ua1, un1, uc1, ua2, un2, uc2, ua3, un3, uc3, uxi, uxl, uxd, uxo⟩ (N0, N1) (!yes) w' h1 g1.wf h4u
  have hRd := fun w' h1 => read_own ⟨ua0, un0, uc0, ua1, un1, uc1, ua2, un2, uc2, ua3, un3, uc3, uxi, uxl, uxd, uxo⟩ (N0, N1) 7 w' h1 g1.wf h4u
  have hWr := fun w' h1 => write_own ⟨ua0, un0, uc0, ua1, un1, uc1, ua2, un2, uc2, ua3, un3, uc3, uxi, uxl, uxd, uxo⟩ (N0, N1) 7 1 1 w' h1 g1.wf h4u
  have hCt := fun w' h1 => writes_count ⟨ua0, un0, uc0, ua1, un1, uc1, ua2, un2, uc2, ua3, un3, uc3, uxi, uxl, uxd, uxo⟩ (N0, N1) w' h1 g1.wf
  have hCu := fun w' h1 => check_any ⟨ua0, un0, uc0, ua1, un1, uc1, ua2, un2, uc2, ua3, un3, uc3, uxi, uxl, uxd, uxo⟩ w' h1 g1.wf
  obtain ⟨q1, q2, q3⟩ := read_over (k := 7) g1 hxo g2 g3 (by decide)
  have q4 := write_over (k := 7) (va := 1) (ask := 1) g1 hxo g2 (by decide) (by decide) (by decide)
  obtain ⟨q5, q6⟩ := cnt_none g1 hxo g3
  simp only [g4, g5, SV.val] at hE2
  simp only [q1, q2, q3, SV.val] at hRd
  simp only [q4, SV.val] at hWr
  simp only [q5, q6, SV.val] at hCt
  simp only [g1.ok, SV.val, if_true] at hCu
  have HNO : Hid (∀ o ∈ uxl, o.t ≠ (N0, N1)) := g3
  clear g1 g2 g3 g4 g5 g6 g7 q1 q2 q3 q4 q5 q6 hd h4u hver
  go_upto_region 5 with ((go_at_call 9; refine (hE2 _ hs_u).mono ?_; rintro e w6 ⟨⟨va0, vn0, vc0, va1, vn1, vc1, va2, vn2, vc2, va3, vn3, vc3, vxi, vxl, vxd, vxo⟩, rfl, hO, hd, hb6⟩; simp only []; replace bx_s := bx_s.below hb6 bx_s.lt; replace bx_x := bx_x.below hb6 bx_x.lt; replace bx_u := bx_u.below hb6 bx_u.lt; replace hs_s := hs_s.below hb6; replace hs_u := hs_u.below hb6; replace hbv : Below w.heap.size w w6 := hbv.trans (hb6.mono hbv.size); have hs_v := hO.isStore; clear c_s0 c_s1 c_s2 c_s3 z_s c_x0 c_x1 z_x c_u0 c_u1 c_u2 c_u3 z_u; have c_s0 := (bx_s.c 0 (by decide)).1; have c_s1 := (bx_s.c 1 (by decide)).1; have c_s2 := (bx_s.c 2 (by decide)).1; have c_s3 := (bx_s.c 3 (by decide)).1; have z_s := bx_s.lt; have c_x0 := (bx_x.c 0 (by decide)).1; have c_x1 := (bx_x.c 1 (by decide)).1; have z_x := bx_x.lt; have c_u0 := (bx_u.c 0 (by decide)).1; have c_u1 := (bx_u.c 1 (by decide)).1; have c_u2 := (bx_u.c 2 (by decide)).1; have c_u3 := (bx_u.c 3 (by decide)).1; have z_u := bx_u.lt; simp only [List.getD_cons_zero, List.getD_cons_succ] at c_s0 c_s1 c_s2 c_s3 c_x0 c_x1 c_u0 c_u1 c_u2 c_u3))
  clear hE2 hO
  obtain ⟨X7, eX7⟩ : ∃ X : World, X = w6.alloc (.cells #[.slice va0 vn0 vc0, .slice va1 vn1 vc1, .slice va2 vn2 vc2, .slice va3 vn3 vc3] 28) := ⟨_, rfl⟩
  have bX7 : Below w6.heap.size w6 X7 := by rw [eX7]; exact (Below.refl _ _).alloc (Nat.le_refl _) _
  have bx_v : BoxN X7 w6.heap.size 4 [.slice va0 vn0 vc0, .slice va1 vn1 vc1, .slice va2 vn2 vc2, .slice va3 vn3 vc3] := by rw [eX7]; exact boxn_new w6 #[.slice va0 vn0 vc0, .slice va1 vn1 vc1, .slice va2 vn2 vc2, .slice va3 vn3 vc3] 28 4 rfl
  rw [← eX7]
  obtain ⟨m_v, em_v⟩ : ∃ m, m = w6.heap.size := ⟨_, rfl⟩
  rw [← em_v] at bx_v ⊢
  clear em_v eX7
  replace bx_s := bx_s.below bX7 bx_s.lt
  replace bx_x := bx_x.below bX7 bx_x.lt
  replace bx_u := bx_u.below bX7 bx_u.lt
  replace hs_s := hs_s.below bX7
  replace hs_u := hs_u.below bX7
  replace hs_v := hs_v.below bX7
  replace hbv : Below w.heap.size w X7 := hbv.trans (bX7.mono hbv.size)
  clear c_s0 c_s1 c_s2 c_s3 z_s c_x0 c_x1 z_x c_u0 c_u1 c_u2 c_u3 z_u
  have c_s0 := (bx_s.c 0 (by decide)).1
  have c_s1 := (bx_s.c 1 (by decide)).1
  have c_s2 := (bx_s.c 2 (by decide)).1
  have c_s3 := (bx_s.c 3 (by decide)).1
  have z_s := bx_s.lt
  have c_x0 := (bx_x.c 0 (by decide)).1
  have c_x1 := (bx_x.c 1 (by decide)).1
  have z_x := bx_x.lt
  have c_u0 := (bx_u.c 0 (by decide)).1
  have c_u1 := (bx_u.c 1 (by decide)).1
  have c_u2 := (bx_u.c 2 (by decide)).1
  have c_u3 := (bx_u.c 3 (by decide)).1
  have z_u := bx_u.lt
  have c_v0 := (bx_v.c 0 (by decide)).1
  have c_v1 := (bx_v.c 1 (by decide)).1
  have c_v2 := (bx_v.c 2 (by decide)).1
  have c_v3 := (bx_v.c 3 (by decide)).1
  have z_v := bx_v.lt
  simp only [List.getD_cons_zero, List.getD_cons_succ] at c_s0 c_s1 c_s2 c_s3 c_x0 c_x1 c_u0 c_u1 c_u2 c_u3 c_v0 c_v1 c_v2 c_v3
  have hSm := fun w' h1 h2 => keptStore_any ⟨ua0, un0, uc0, ua1, un1, uc1, ua2, un2, uc2, ua3, un3, uc3, uxi, uxl, uxd, uxo⟩ ⟨va0, vn0, vc0, va1, vn1, vc1, va2, vn2, vc2, va3, vn3, vc3, vxi, vxl, vxd, vxo⟩ w' h1 h2 hd.symm
  simp only [SV.val] at hSm
  clear hd
  go_upto_region 6 with ((go_at_call 10; refine (hRd _ hs_u).mono ?_; rintro e w8 ⟨⟨ra0, rn0, rc0, ra1, rn1, rc1, ra2, rn2, rc2, ra3, rn3, rc3, rxi, rxl, rxd, rxo⟩, rfl, hO, hd, hb8⟩; simp only []; replace bx_s := bx_s.below hb8 bx_s.lt; replace bx_x := bx_x.below hb8 bx_x.lt; replace bx_u := bx_u.below hb8 bx_u.lt; replace bx_v := bx_v.below hb8 bx_v.lt; replace hs_s := hs_s.below hb8; replace hs_u := hs_u.below hb8; replace hs_v := hs_v.below hb8; replace hbv : Below w.heap.size w w8 := hbv.trans (hb8.mono hbv.size); clear c_s0 c_s1 c_s2 c_s3 z_s c_x0 c_x1 z_x c_u0 c_u1 c_u2 c_u3 z_u c_v0 c_v1 c_v2 c_v3 z_v; have c_s0 := (bx_s.c 0 (by decide)).1; have c_s1 := (bx_s.c 1 (by decide)).1; have c_s2 := (bx_s.c 2 (by decide)).1; have c_s3 := (bx_s.c 3 (by decide)).1; have z_s := bx_s.lt; have c_x0 := (bx_x.c 0 (by decide)).1; have c_x1 := (bx_x.c 1 (by decide)).1; have z_x := bx_x.lt; have c_u0 := (bx_u.c 0 (by decide)).1; have c_u1 := (bx_u.c 1 (by decide)).1; have c_u2 := (bx_u.c 2 (by decide)).1; have c_u3 := (bx_u.c 3 (by decide)).1; have z_u := bx_u.lt; have c_v0 := (bx_v.c 0 (by decide)).1; have c_v1 := (bx_v.c 1 (by decide)).1; have c_v2 := (bx_v.c 2 (by decide)).1; have c_v3 := (bx_v.c 3 (by decide)).1; have z_v := bx_v.lt; simp only [List.getD_cons_zero, List.getD_cons_succ] at c_s0 c_s1 c_s2 c_s3 c_x0 c_x1 c_u0 c_u1 c_u2 c_u3 c_v0 c_v1 c_v2 c_v3))
  clear hRd hO hd
  obtain ⟨X9, eX9⟩ : ∃ X : World, X = w8.alloc (.cells #[.slice ra0 rn0 rc0, .slice ra1 rn1 rc1, .slice ra2 rn2 rc2, .slice ra3 rn3 rc3] 28) := ⟨_, rfl⟩
  have bX9 : Below w8.heap.size w8 X9 := by rw [eX9]; exact (Below.refl _ _).alloc (Nat.le_refl _) _
  have bx_r : BoxN X9 w8.heap.size 4 [.slice ra0 rn0 rc0, .slice ra1 rn1 rc1, .slice ra2 rn2 rc2, .slice ra3 rn3 rc3] := by rw [eX9]; exact boxn_new w8 #[.slice ra0 rn0 rc0, .slice ra1 rn1 rc1, .slice ra2 rn2 rc2, .slice ra3 rn3 rc3] 28 4 rfl
  rw [← eX9]
  obtain ⟨m_r, em_r⟩ : ∃ m, m = w8.heap.size := ⟨_, rfl⟩
  rw [← em_r] at bx_r ⊢
  clear em_r eX9
  replace bx_s := bx_s.below bX9 bx_s.lt
  replace bx_x := bx_x.below bX9 bx_x.lt
  replace bx_u := bx_u.below bX9 bx_u.lt
  replace bx_v := bx_v.below bX9 bx_v.lt
  replace hs_s := hs_s.below bX9
  replace hs_u := hs_u.below bX9
  replace hs_v := hs_v.below bX9
  replace hbv : Below w.heap.size w X9 := hbv.trans (bX9.mono hbv.size)
  clear c_s0 c_s1 c_s2 c_s3 z_s c_x0 c_x1 z_x c_u0 c_u1 c_u2 c_u3 z_u c_v0 c_v1 c_v2 c_v3 z_v
  have c_s0 := (bx_s.c 0 (by decide)).1
  have c_s1 := (bx_s.c 1 (by decide)).1
  have c_s2 := (bx_s.c 2 (by decide)).1
  have c_s3 := (bx_s.c 3 (by decide)).1
  have z_s := bx_s.lt
  have c_x0 := (bx_x.c 0 (by decide)).1
  have c_x1 := (bx_x.c 1 (by decide)).1
  have z_x := bx_x.lt
  have c_u0 := (bx_u.c 0 (by decide)).1
  have c_u1 := (bx_u.c 1 (by decide)).1
  have c_u2 := (bx_u.c 2 (by decide)).1
  have c_u3 := (bx_u.c 3 (by decide)).1
  have z_u := bx_u.lt
  have c_v0 := (bx_v.c 0 (by decide)).1
  have c_v1 := (bx_v.c 1 (by decide)).1
  have c_v2 := (bx_v.c 2 (by decide)).1
  have c_v3 := (bx_v.c 3 (by decide)).1
  have z_v := bx_v.lt
  have c_r0 := (bx_r.c 0 (by decide)).1
  have c_r1 := (bx_r.c 1 (by decide)).1
  have c_r2 := (bx_r.c 2 (by decide)).1
  have c_r3 := (bx_r.c 3 (by decide)).1
  have z_r := bx_r.lt
  simp only [List.getD_cons_zero, List.getD_cons_succ] at c_s0 c_s1 c_s2 c_s3 c_x0 c_x1 c_u0 c_u1 c_u2 c_u3 c_v0 c_v1 c_v2 c_v3 c_r0 c_r1 c_r2 c_r3
  go_upto_region 7 with ((go_at_call 11; refine (hWr _ hs_u).mono ?_; rintro e w10 ⟨⟨ta0, tn0, tc0, ta1, tn1, tc1, ta2, tn2, tc2, ta3, tn3, tc3, txi, txl, txd, txo⟩, rfl, hO, hd, hb10⟩; simp only []; replace bx_s := bx_s.below hb10 bx_s.lt; replace bx_x := bx_x.below hb10 bx_x.lt; replace bx_u := bx_u.below hb10 bx_u.lt; replace bx_v := bx_v.below hb10 bx_v.lt; replace bx_r := bx_r.below hb10 bx_r.lt; replace hs_s := hs_s.below hb10; replace hs_u := hs_u.below hb10; replace hs_v := hs_v.below hb10; replace hbv : Below w.heap.size w w10 := hbv.trans (hb10.mono hbv.size); clear c_s0 c_s1 c_s2 c_s3 z_s c_x0 c_x1 z_x c_u0 c_u1 c_u2 c_u3 z_u c_v0 c_v1 c_v2 c_v3 z_v c_r0 c_r1 c_r2 c_r3 z_r; have c_s0 := (bx_s.c 0 (by decide)).1; have c_s1 := (bx_s.c 1 (by decide)).1; have c_s2 := (bx_s.c 2 (by decide)).1; have c_s3 := (bx_s.c 3 (by decide)).1; have z_s := bx_s.lt; have c_x0 := (bx_x.c 0 (by decide)).1; have c_x1 := (bx_x.c 1 (by decide)).1; have z_x := bx_x.lt; have c_u0 := (bx_u.c 0 (by decide)).1; have c_u1 := (bx_u.c 1 (by decide)).1; have c_u2 := (bx_u.c 2 (by decide)).1; have c_u3 := (bx_u.c 3 (by decide)).1; have z_u := bx_u.lt; have c_v0 := (bx_v.c 0 (by decide)).1; have c_v1 := (bx_v.c 1 (by decide)).1; have c_v2 := (bx_v.c 2 (by decide)).1; have c_v3 := (bx_v.c 3 (by decide)).1; have z_v := bx_v.lt; have c_r0 := (bx_r.c 0 (by decide)).1; have c_r1 := (bx_r.c 1 (by decide)).1; have c_r2 := (bx_r.c 2 (by decide)).1; have c_r3 := (bx_r.c 3 (by decide)).1; have z_r := bx_r.lt; simp only [List.getD_cons_zero, List.getD_cons_succ] at c_s0 c_s1 c_s2 c_s3 c_x0 c_x1 c_u0 c_u1 c_u2 c_u3 c_v0 c_v1 c_v2 c_v3 c_r0 c_r1 c_r2 c_r3))
  clear hWr hO hd
  obtain ⟨X11, eX11⟩ : ∃ X : World, X = w10.alloc (.cells #[.slice ta0 tn0 tc0, .slice ta1 tn1 tc1, .slice ta2 tn2 tc2, .slice ta3 tn3 tc3] 28) := ⟨_, rfl⟩
  have bX11 : Below w10.heap.size w10 X11 := by rw [eX11]; exact (Below.refl _ _).alloc (Nat.le_refl _) _
  have bx_t : BoxN X11 w10.heap.size 4 [.slice ta0 tn0 tc0, .slice ta1 tn1 tc1, .slice ta2 tn2 tc2, .slice ta3 tn3 tc3] := by rw [eX11]; exact boxn_new w10 #[.slice ta0 tn0 tc0, .slice ta1 tn1 tc1, .slice ta2 tn2 tc2, .slice ta3 tn3 tc3] 28 4 rfl
  rw [← eX11]
  obtain ⟨m_t, em_t⟩ : ∃ m, m = w10.heap.size := ⟨_, rfl⟩
  rw [← em_t] at bx_t ⊢
  clear em_t eX11
  replace bx_s := bx_s.below bX11 bx_s.lt
  replace bx_x := bx_x.below bX11 bx_x.lt
  replace bx_u := bx_u.below bX11 bx_u.lt
  replace bx_v := bx_v.below bX11 bx_v.lt
  replace bx_r := bx_r.below bX11 bx_r.lt
  replace hs_s := hs_s.below bX11
  replace hs_u := hs_u.below bX11
  replace hs_v := hs_v.below bX11
  replace hbv : Below w.heap.size w X11 := hbv.trans (bX11.mono hbv.size)
  clear c_s0 c_s1 c_s2 c_s3 z_s c_x0 c_x1 z_x c_u0 c_u1 c_u2 c_u3 z_u c_v0 c_v1 c_v2 c_v3 z_v c_r0 c_r1 c_r2 c_r3 z_r
  have c_s0 := (bx_s.c 0 (by decide)).1
  have c_s1 := (bx_s.c 1 (by decide)).1
  have c_s2 := (bx_s.c 2 (by decide)).1
  have c_s3 := (bx_s.c 3 (by decide)).1
  have z_s := bx_s.lt
  have c_x0 := (bx_x.c 0 (by decide)).1
  have c_x1 := (bx_x.c 1 (by decide)).1
  have z_x := bx_x.lt
  have c_u0 := (bx_u.c 0 (by decide)).1
  have c_u1 := (bx_u.c 1 (by decide)).1
  have c_u2 := (bx_u.c 2 (by decide)).1
  have c_u3 := (bx_u.c 3 (by decide)).1
  have z_u := bx_u.lt
  have c_v0 := (bx_v.c 0 (by decide)).1
  have c_v1 := (bx_v.c 1 (by decide)).1
  have c_v2 := (bx_v.c 2 (by decide)).1
  have c_v3 := (bx_v.c 3 (by decide)).1
  have z_v := bx_v.lt
  have c_r0 := (bx_r.c 0 (by decide)).1
  have c_r1 := (bx_r.c 1 (by decide)).1
  have c_r2 := (bx_r.c 2 (by decide)).1
  have c_r3 := (bx_r.c 3 (by decide)).1
  have z_r := bx_r.lt
  have c_t0 := (bx_t.c 0 (by decide)).1
  have c_t1 := (bx_t.c 1 (by decide)).1
  have c_t2 := (bx_t.c 2 (by decide)).1
  have c_t3 := (bx_t.c 3 (by decide)).1
  have z_t := bx_t.lt
  simp only [List.getD_cons_zero, List.getD_cons_succ] at c_s0 c_s1 c_s2 c_s3 c_x0 c_x1 c_u0 c_u1 c_u2 c_u3 c_v0 c_v1 c_v2 c_v3 c_r0 c_r1 c_r2 c_r3 c_t0 c_t1 c_t2 c_t3
  go_upto_region 9 with ((go_at_call 12; refine (hCt _ hs_u).mono ?_; rintro e w12 ⟨rfl, hb12⟩; replace bx_s := bx_s.below hb12 bx_s.lt; replace bx_x := bx_x.below hb12 bx_x.lt; replace bx_u := bx_u.below hb12 bx_u.lt; replace bx_v := bx_v.below hb12 bx_v.lt; replace bx_r := bx_r.below hb12 bx_r.lt; replace bx_t := bx_t.below hb12 bx_t.lt; replace hs_s := hs_s.below hb12; replace hs_u := hs_u.below hb12; replace hs_v := hs_v.below hb12; replace hbv : Below w.heap.size w w12 := hbv.trans (hb12.mono hbv.size); clear c_s0 c_s1 c_s2 c_s3 z_s c_x0 c_x1 z_x c_u0 c_u1 c_u2 c_u3 z_u c_v0 c_v1 c_v2 c_v3 z_v c_r0 c_r1 c_r2 c_r3 z_r c_t0 c_t1 c_t2 c_t3 z_t; have c_s0 := (bx_s.c 0 (by decide)).1; have c_s1 := (bx_s.c 1 (by decide)).1; have c_s2 := (bx_s.c 2 (by decide)).1; have c_s3 := (bx_s.c 3 (by decide)).1; have z_s := bx_s.lt; have c_x0 := (bx_x.c 0 (by decide)).1; have c_x1 := (bx_x.c 1 (by decide)).1; have z_x := bx_x.lt; have c_u0 := (bx_u.c 0 (by decide)).1; have c_u1 := (bx_u.c 1 (by decide)).1; have c_u2 := (bx_u.c 2 (by decide)).1; have c_u3 := (bx_u.c 3 (by decide)).1; have z_u := bx_u.lt; have c_v0 := (bx_v.c 0 (by decide)).1; have c_v1 := (bx_v.c 1 (by decide)).1; have c_v2 := (bx_v.c 2 (by decide)).1; have c_v3 := (bx_v.c 3 (by decide)).1; have z_v := bx_v.lt; have c_r0 := (bx_r.c 0 (by decide)).1; have c_r1 := (bx_r.c 1 (by decide)).1; have c_r2 := (bx_r.c 2 (by decide)).1; have c_r3 := (bx_r.c 3 (by decide)).1; have z_r := bx_r.lt; have c_t0 := (bx_t.c 0 (by decide)).1; have c_t1 := (bx_t.c 1 (by decide)).1; have c_t2 := (bx_t.c 2 (by decide)).1; have c_t3 := (bx_t.c 3 (by decide)).1; have z_t := bx_t.lt; simp only [List.getD_cons_zero, List.getD_cons_succ] at c_s0 c_s1 c_s2 c_s3 c_x0 c_x1 c_u0 c_u1 c_u2 c_u3 c_v0 c_v1 c_v2 c_v3 c_r0 c_r1 c_r2 c_r3 c_t0 c_t1 c_t2 c_t3))
  go_wp2
  clear hCt c_s0 c_s1 c_s2 c_s3 z_s c_x0 c_x1 z_x c_u0 c_u1 c_u2 c_u3 z_u c_v0 c_v1 c_v2 c_v3 z_v c_r0 c_r1 c_r2 c_r3 z_r c_t0 c_t1 c_t2 c_t3 z_t
  have hL0 := hs_u.locks
  simp only [] at hL0
  have hl0 : Hid (uxl.length = un1) := hL0.1
  have hmx : un1 ≤ maxLen := Nat.le_trans hL0.2.1 hL0.2.2.1
  unfold maxLen at hmx
  go_loopw [24, 71] (fun _ s71 wr => ∃ (j : Nat), s71 = .int .i64 (j : Int) ∧ j ≤ un1 ∧ Below w12.heap.size w12 wr) (fun _ s71 _ => un1 - (intOf s71).toNat)
  case atStart => exact ⟨0, rfl, Nat.zero_le _, Below.refl _ _⟩
  case round =>
    obtain ⟨j, rfl, hj, hb⟩ := hrel
    replace bx_s := bx_s.below hb bx_s.lt
    replace bx_x := bx_x.below hb bx_x.lt
    replace bx_u := bx_u.below hb bx_u.lt
    replace bx_v := bx_v.below hb bx_v.lt
    replace bx_r := bx_r.below hb bx_r.lt
    replace bx_t := bx_t.below hb bx_t.lt
    replace hs_s := hs_s.below hb
    replace hs_u := hs_u.below hb
    replace hs_v := hs_v.below hb
    replace hbv : Below w.heap.size w wr := hbv.trans (hb.mono hbv.size)
    have c_s0 := (bx_s.c 0 (by decide)).1
    have c_s1 := (bx_s.c 1 (by decide)).1
    have c_s2 := (bx_s.c 2 (by decide)).1
    have c_s3 := (bx_s.c 3 (by decide)).1
    have z_s := bx_s.lt
    have c_x0 := (bx_x.c 0 (by decide)).1
    have c_x1 := (bx_x.c 1 (by decide)).1
    have z_x := bx_x.lt
    have c_u0 := (bx_u.c 0 (by decide)).1
    have c_u1 := (bx_u.c 1 (by decide)).1
    have c_u2 := (bx_u.c 2 (by decide)).1
    have c_u3 := (bx_u.c 3 (by decide)).1
    have z_u := bx_u.lt
    have c_v0 := (bx_v.c 0 (by decide)).1
    have c_v1 := (bx_v.c 1 (by decide)).1
    have c_v2 := (bx_v.c 2 (by decide)).1
    have c_v3 := (bx_v.c 3 (by decide)).1
    have z_v := bx_v.lt
    have c_r0 := (bx_r.c 0 (by decide)).1
    have c_r1 := (bx_r.c 1 (by decide)).1
    have c_r2 := (bx_r.c 2 (by decide)).1
    have c_r3 := (bx_r.c 3 (by decide)).1
    have z_r := bx_r.lt
    have c_t0 := (bx_t.c 0 (by decide)).1
    have c_t1 := (bx_t.c 1 (by decide)).1
    have c_t2 := (bx_t.c 2 (by decide)).1
    have c_t3 := (bx_t.c 3 (by decide)).1
    have z_t := bx_t.lt
    simp only [List.getD_cons_zero, List.getD_cons_succ] at c_s0 c_s1 c_s2 c_s3 c_x0 c_x1 c_u0 c_u1 c_u2 c_u3 c_v0 c_v1 c_v2 c_v3 c_r0 c_r1 c_r2 c_r3 c_t0 c_t1 c_t2 c_t3
    by_cases hlt : j < un1
    · have hlt' : (j : Int) < (un1 : Int) := by omega
      have hne := HNO.out _ (getD_mem (i := j) (by rw [hl0.out]; exact hlt))
      obtain ⟨b, off, rfl, zb, hc⟩ := (hL0.below hb).2.2.2.2 (by omega)
      have hcells := hc j hlt
      obtain ⟨o, eo⟩ : ∃ o, o = uxl.getD j default := ⟨_, rfl⟩
      rw [← eo] at hcells hne
      clear eo hc
      obtain ⟨⟨q0, q1⟩, q2, q3, q4, q5⟩ := o
      have e0 := hcells 0 (by decide)
      have e1 := hcells 1 (by decide)
      have e2 := hcells 2 (by decide)
      have e3 := hcells 3 (by decide)
      have e4 := hcells 4 (by decide)
      have e5 := hcells 5 (by decide)
      simp only [LkV.cells, List.getElem?_cons_zero, List.getElem?_cons_succ, Nat.add_zero] at e0 e1 e2 e3 e4 e5
      simp only [ne_eq, Prod.mk.injEq, not_and] at hne
      clear hcells
      by_cases hq : q0 = N0
      · have hq1 := hne hq
        go_wp2
        go_roundw
        case rel => exact ⟨j + 1, by go_num, by omega, by first | exact hb.alloc hb.size _ | exact hb⟩
        case measure => simp [intOf]; omega
      · clear hne
        go_wp2
        go_roundw
        case rel => exact ⟨j + 1, by go_num, by omega, by first | exact hb.alloc hb.size _ | exact hb⟩
        case measure => simp [intOf]; omega
    · obtain rfl : j = un1 := by omega
      clear hL0
      go_wp2_with (first | (go_at_call 13; refine (hSm _ hs_u hs_v).mono ?_; rintro e w13 ⟨rfl, hb13⟩; replace bx_s := bx_s.below hb13 bx_s.lt; replace bx_x := bx_x.below hb13 bx_x.lt; replace bx_u := bx_u.below hb13 bx_u.lt; replace bx_v := bx_v.below hb13 bx_v.lt; replace bx_r := bx_r.below hb13 bx_r.lt; replace bx_t := bx_t.below hb13 bx_t.lt; replace hs_s := hs_s.below hb13; replace hs_u := hs_u.below hb13; replace hs_v := hs_v.below hb13; replace hbv : Below w.heap.size w w13 := hbv.trans (hb13.mono hbv.size); clear c_s0 c_s1 c_s2 c_s3 z_s c_x0 c_x1 z_x c_u0 c_u1 c_u2 c_u3 z_u c_v0 c_v1 c_v2 c_v3 z_v c_r0 c_r1 c_r2 c_r3 z_r c_t0 c_t1 c_t2 c_t3 z_t; have c_s0 := (bx_s.c 0 (by decide)).1; have c_s1 := (bx_s.c 1 (by decide)).1; have c_s2 := (bx_s.c 2 (by decide)).1; have c_s3 := (bx_s.c 3 (by decide)).1; have z_s := bx_s.lt; have c_x0 := (bx_x.c 0 (by decide)).1; have c_x1 := (bx_x.c 1 (by decide)).1; have z_x := bx_x.lt; have c_u0 := (bx_u.c 0 (by decide)).1; have c_u1 := (bx_u.c 1 (by decide)).1; have c_u2 := (bx_u.c 2 (by decide)).1; have c_u3 := (bx_u.c 3 (by decide)).1; have z_u := bx_u.lt; have c_v0 := (bx_v.c 0 (by decide)).1; have c_v1 := (bx_v.c 1 (by decide)).1; have c_v2 := (bx_v.c 2 (by decide)).1; have c_v3 := (bx_v.c 3 (by decide)).1; have z_v := bx_v.lt; have c_r0 := (bx_r.c 0 (by decide)).1; have c_r1 := (bx_r.c 1 (by decide)).1; have c_r2 := (bx_r.c 2 (by decide)).1; have c_r3 := (bx_r.c 3 (by decide)).1; have z_r := bx_r.lt; have c_t0 := (bx_t.c 0 (by decide)).1; have c_t1 := (bx_t.c 1 (by decide)).1; have c_t2 := (bx_t.c 2 (by decide)).1; have c_t3 := (bx_t.c 3 (by decide)).1; have z_t := bx_t.lt; simp only [List.getD_cons_zero, List.getD_cons_succ] at c_s0 c_s1 c_s2 c_s3 c_x0 c_x1 c_u0 c_u1 c_u2 c_u3 c_v0 c_v1 c_v2 c_v3 c_r0 c_r1 c_r2 c_r3 c_t0 c_t1 c_t2 c_t3) | (go_at_call 14; refine (hCu _ hs_u).mono ?_; rintro e w14 ⟨rfl, hb14⟩; replace bx_s := bx_s.below hb14 bx_s.lt; replace bx_x := bx_x.below hb14 bx_x.lt; replace bx_u := bx_u.below hb14 bx_u.lt; replace bx_v := bx_v.below hb14 bx_v.lt; replace bx_r := bx_r.below hb14 bx_r.lt; replace bx_t := bx_t.below hb14 bx_t.lt; replace hs_s := hs_s.below hb14; replace hs_u := hs_u.below hb14; replace hs_v := hs_v.below hb14; replace hbv : Below w.heap.size w w14 := hbv.trans (hb14.mono hbv.size); clear c_s0 c_s1 c_s2 c_s3 z_s c_x0 c_x1 z_x c_u0 c_u1 c_u2 c_u3 z_u c_v0 c_v1 c_v2 c_v3 z_v c_r0 c_r1 c_r2 c_r3 z_r c_t0 c_t1 c_t2 c_t3 z_t; have c_s0 := (bx_s.c 0 (by decide)).1; have c_s1 := (bx_s.c 1 (by decide)).1; have c_s2 := (bx_s.c 2 (by decide)).1; have c_s3 := (bx_s.c 3 (by decide)).1; have z_s := bx_s.lt; have c_x0 := (bx_x.c 0 (by decide)).1; have c_x1 := (bx_x.c 1 (by decide)).1; have z_x := bx_x.lt; have c_u0 := (bx_u.c 0 (by decide)).1; have c_u1 := (bx_u.c 1 (by decide)).1; have c_u2 := (bx_u.c 2 (by decide)).1; have c_u3 := (bx_u.c 3 (by decide)).1; have z_u := bx_u.lt; have c_v0 := (bx_v.c 0 (by decide)).1; have c_v1 := (bx_v.c 1 (by decide)).1; have c_v2 := (bx_v.c 2 (by decide)).1; have c_v3 := (bx_v.c 3 (by decide)).1; have z_v := bx_v.lt; have c_r0 := (bx_r.c 0 (by decide)).1; have c_r1 := (bx_r.c 1 (by decide)).1; have c_r2 := (bx_r.c 2 (by decide)).1; have c_r3 := (bx_r.c 3 (by decide)).1; have z_r := bx_r.lt; have c_t0 := (bx_t.c 0 (by decide)).1; have c_t1 := (bx_t.c 1 (by decide)).1; have c_t2 := (bx_t.c 2 (by decide)).1; have c_t3 := (bx_t.c 3 (by decide)).1; have z_t := bx_t.lt; simp only [List.getD_cons_zero, List.getD_cons_succ] at c_s0 c_s1 c_s2 c_s3 c_x0 c_x1 c_u0 c_u1 c_u2 c_u3 c_v0 c_v1 c_v2 c_v3 c_r0 c_r1 c_r2 c_r3 c_t0 c_t1 c_t2 c_t3))
      go_ret
      exact ⟨rfl, hbv⟩
end Go.Proofs.Ytbmbahifkegehab
