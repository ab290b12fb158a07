/- The walk of the law ReadTells. -/
import Derived.Test.YtbmbahifkegehaaSKStore
import Derived.Test.YtbmbahifkegehaaSKPeek
import Derived.Test.YtbmbahifkegehaaSKStill
import Derived.Test.YtbmbahifkegehaaSKSame
namespace Go.Proofs.Ytbmbahifkegehaa
open Go.ChangeShapes Go.WideShapes Go.ChangeAt Go.RowKit St
set_option linter.unusedVariables false

set_option maxRecDepth 100000 in
set_option maxHeartbeats 4000000 in
theorem readTells_walk (a : Option Addr) (len cap : Nat) (rs : List RV) (r : RV) (key : Int) (w : World) (h : IsRaws w a len cap rs) (hr : r.ok) (hkey : (Lit.int .i64 key).wf = true) :
    Calls Try.prog 5 #[.slice a len cap, r.val, .int .i64 key] w fun e w' => e = .returned (.bool true) ∧ Below w.heap.size w w' := by
  obtain ⟨kd, ra, rb, rc, rd, re⟩ := r
  obtain ⟨okd, ora, orb, orc, ord, ore⟩ := hr
  simp only [Bd] at ora
  clear okd orb orc ord ore
  simp only [RV.val]
  have hky := i64_bd hkey
  have hbv : Below w.heap.size w w := Below.refl _ _
  have b9 := pk_bd ra 9 (by decide)
  have b8 := pk_bd key 8 (by decide)
  have hw1 : IntKind.i64.wrap (1 + pk ra 9) = 1 + pk ra 9 := by apply wrap_in <;> omega
  go_enter Try.func5, Try.ntmps5
  go_upto_region 1 with (fail)
  have hs_h := h
  obtain ⟨X1, eX1⟩ : ∃ X : World, X = w.alloc (.cells #[.int .i64 kd, .int .i64 ra, .int .i64 rb, .int .i64 rc, .int .i64 rd, .int .i64 re] 43) := ⟨_, rfl⟩
  have bX1 : Below w.heap.size w X1 := by rw [eX1]; exact (Below.refl _ _).alloc (Nat.le_refl _) _
  have bx_r : BoxN X1 w.heap.size 6 [.int .i64 kd, .int .i64 ra, .int .i64 rb, .int .i64 rc, .int .i64 rd, .int .i64 re] := by rw [eX1]; exact boxn_new w #[.int .i64 kd, .int .i64 ra, .int .i64 rb, .int .i64 rc, .int .i64 rd, .int .i64 re] 43 6 rfl
  rw [← eX1]
  obtain ⟨m_r, em_r⟩ : ∃ m, m = w.heap.size := ⟨_, rfl⟩
  rw [← em_r] at bx_r ⊢
  clear em_r eX1
  replace hs_h := hs_h.below bX1
  replace hbv : Below w.heap.size w X1 := hbv.trans (bX1.mono hbv.size)
  have c_r0 := (bx_r.c 0 (by decide)).1
  have c_r1 := (bx_r.c 1 (by decide)).1
  have c_r2 := (bx_r.c 2 (by decide)).1
  have c_r3 := (bx_r.c 3 (by decide)).1
  have c_r4 := (bx_r.c 4 (by decide)).1
  have c_r5 := (bx_r.c 5 (by decide)).1
  have z_r := bx_r.lt
  simp only [List.getD_cons_zero, List.getD_cons_succ] at c_r0 c_r1 c_r2 c_r3 c_r4 c_r5
  have hSt := store_made a len cap rs 30 X1 hs_h (by decide)
  go_upto_region 2 with ((go_at_call 13; refine (hSt).mono ?_; rintro e w2 ⟨⟨sa0, sn0, sc0, sa1, sn1, sc1, sa2, sn2, sc2, sa3, sn3, sc3, sxi, sxl, sxd, sxo⟩, rfl, hO, hG, hb2⟩; simp only [SV.val]; replace bx_r := bx_r.below hb2 bx_r.lt; replace hs_h := hs_h.below hb2; replace hbv : Below w.heap.size w w2 := hbv.trans (hb2.mono hbv.size); have hs_s := hO.isStore; clear c_r0 c_r1 c_r2 c_r3 c_r4 c_r5 z_r; have c_r0 := (bx_r.c 0 (by decide)).1; have c_r1 := (bx_r.c 1 (by decide)).1; have c_r2 := (bx_r.c 2 (by decide)).1; have c_r3 := (bx_r.c 3 (by decide)).1; have c_r4 := (bx_r.c 4 (by decide)).1; have c_r5 := (bx_r.c 5 (by decide)).1; have z_r := bx_r.lt; simp only [List.getD_cons_zero, List.getD_cons_succ] at c_r0 c_r1 c_r2 c_r3 c_r4 c_r5))
  clear hSt hO
  obtain ⟨X3, eX3⟩ : ∃ X : World, X = w2.alloc (.cells #[.slice sa0 sn0 sc0, .slice sa1 sn1 sc1, .slice sa2 sn2 sc2, .slice sa3 sn3 sc3] 27) := ⟨_, rfl⟩
  have bX3 : Below w2.heap.size w2 X3 := by rw [eX3]; exact (Below.refl _ _).alloc (Nat.le_refl _) _
  have bx_s : BoxN X3 w2.heap.size 4 [.slice sa0 sn0 sc0, .slice sa1 sn1 sc1, .slice sa2 sn2 sc2, .slice sa3 sn3 sc3] := by rw [eX3]; exact boxn_new w2 #[.slice sa0 sn0 sc0, .slice sa1 sn1 sc1, .slice sa2 sn2 sc2, .slice sa3 sn3 sc3] 27 4 rfl
  rw [← eX3]
  obtain ⟨m_s, em_s⟩ : ∃ m, m = w2.heap.size := ⟨_, rfl⟩
  rw [← em_s] at bx_s ⊢
  clear em_s eX3
  replace bx_r := bx_r.below bX3 bx_r.lt
  replace hs_h := hs_h.below bX3
  replace hs_s := hs_s.below bX3
  replace hbv : Below w.heap.size w X3 := hbv.trans (bX3.mono hbv.size)
  clear c_r0 c_r1 c_r2 c_r3 c_r4 c_r5 z_r
  have c_r0 := (bx_r.c 0 (by decide)).1
  have c_r1 := (bx_r.c 1 (by decide)).1
  have c_r2 := (bx_r.c 2 (by decide)).1
  have c_r3 := (bx_r.c 3 (by decide)).1
  have c_r4 := (bx_r.c 4 (by decide)).1
  have c_r5 := (bx_r.c 5 (by decide)).1
  have z_r := bx_r.lt
  have c_s0 := (bx_s.c 0 (by decide)).1
  have c_s1 := (bx_s.c 1 (by decide)).1
  have c_s2 := (bx_s.c 2 (by decide)).1
  have c_s3 := (bx_s.c 3 (by decide)).1
  have z_s := bx_s.lt
  simp only [List.getD_cons_zero, List.getD_cons_succ] at c_r0 c_r1 c_r2 c_r3 c_r4 c_r5 c_s0 c_s1 c_s2 c_s3
  go_upto_region 3 with ((go_at_call 16; refine (picked_any _ _ _ (by assumption) (by decide) (by decide)).mono ?_; rintro e u ⟨rfl, hu⟩; rw [hu]; clear hu))
  obtain ⟨X4, eX4⟩ : ∃ X : World, X = X3.alloc (.cells #[.int .i64 2, .int .i64 (1 + pk ra 9)] 29) := ⟨_, rfl⟩
  have bX4 : Below X3.heap.size X3 X4 := by rw [eX4]; exact (Below.refl _ _).alloc (Nat.le_refl _) _
  have bx_x : BoxN X4 X3.heap.size 2 [.int .i64 2, .int .i64 (1 + pk ra 9)] := by rw [eX4]; exact boxn_new X3 #[.int .i64 2, .int .i64 (1 + pk ra 9)] 29 2 rfl
  rw [← eX4]
  obtain ⟨m_x, em_x⟩ : ∃ m, m = X3.heap.size := ⟨_, rfl⟩
  rw [← em_x] at bx_x ⊢
  clear em_x eX4
  replace bx_r := bx_r.below bX4 bx_r.lt
  replace bx_s := bx_s.below bX4 bx_s.lt
  replace hs_h := hs_h.below bX4
  replace hs_s := hs_s.below bX4
  replace hbv : Below w.heap.size w X4 := hbv.trans (bX4.mono hbv.size)
  clear c_r0 c_r1 c_r2 c_r3 c_r4 c_r5 z_r c_s0 c_s1 c_s2 c_s3 z_s
  have c_r0 := (bx_r.c 0 (by decide)).1
  have c_r1 := (bx_r.c 1 (by decide)).1
  have c_r2 := (bx_r.c 2 (by decide)).1
  have c_r3 := (bx_r.c 3 (by decide)).1
  have c_r4 := (bx_r.c 4 (by decide)).1
  have c_r5 := (bx_r.c 5 (by decide)).1
  have z_r := bx_r.lt
  have c_s0 := (bx_s.c 0 (by decide)).1
  have c_s1 := (bx_s.c 1 (by decide)).1
  have c_s2 := (bx_s.c 2 (by decide)).1
  have c_s3 := (bx_s.c 3 (by decide)).1
  have z_s := bx_s.lt
  have c_x0 := (bx_x.c 0 (by decide)).1
  have c_x1 := (bx_x.c 1 (by decide)).1
  have z_x := bx_x.lt
  simp only [List.getD_cons_zero, List.getD_cons_succ] at c_r0 c_r1 c_r2 c_r3 c_r4 c_r5 c_s0 c_s1 c_s2 c_s3 c_x0 c_x1
  go_upto_region 4 with ((go_at_call 16; refine (picked_any _ _ _ (by assumption) (by decide) (by decide)).mono ?_; rintro e u ⟨rfl, hu⟩; rw [hu]; clear hu))
  have h20 : sxl.length ≤ 20 := hG.locks20
  have hF : Fresh (SV.data ⟨sa0, sn0, sc0, sa1, sn1, sc1, sa2, sn2, sc2, sa3, sn3, sc3, sxi, sxl, sxd, sxo⟩) (2, 1 + pk ra 9) := hG.fresh (by decide) (by decide) (by omega) (by omega)
  obtain ⟨N1, eN1⟩ : ∃ N, N = 1 + pk ra 9 := ⟨_, rfl⟩
  rw [← eN1] at hF hw1 bx_x c_x1 ⊢
  obtain ⟨K, eK⟩ : ∃ K, K = pk key 8 := ⟨_, rfl⟩
  rw [← eK] at b8 ⊢
  clear eN1 eK hw1 b9
  have hk : inR K 0 7 = true := inR_true b8.1 (by omega)
  have hCs := fun w' h1 => check_any ⟨sa0, sn0, sc0, sa1, sn1, sc1, sa2, sn2, sc2, sa3, sn3, sc3, sxi, sxl, sxd, sxo⟩ w' h1 hG.wf
  simp only [hG.ok.ok, SV.val, if_true] at hCs
  have hrd := read_fresh (s := ⟨sa0, sn0, sc0, sa1, sn1, sc1, sa2, sn2, sc2, sa3, sn3, sc3, sxi, sxl, sxd, sxo⟩) (k := K) hG.ok (by show sxl.length ≤ 22; omega) hF hk
  have hpk := peek_is (s := ⟨sa0, sn0, sc0, sa1, sn1, sc1, sa2, sn2, sc2, sa3, sn3, sc3, sxi, sxl, sxd, sxo⟩) hG.ok hk
  have hRd := fun w' h1 => read_own ⟨sa0, sn0, sc0, sa1, sn1, sc1, sa2, sn2, sc2, sa3, sn3, sc3, sxi, sxl, sxd, sxo⟩ (2, N1) K w' h1 hG.wf (hG.h4 h1)
  have hPk := fun w' h1 => peek_any ⟨sa0, sn0, sc0, sa1, sn1, sc1, sa2, sn2, sc2, sa3, sn3, sc3, sxi, sxl, sxd, sxo⟩ K w' h1 hG.wf
  have HOT : Hid (∀ t ∈ sxo, TxWf t) := hG.wf
  have HOL : Hid (sxo.length ≤ 4) := hG.over4
  cases hA : sxl.any (wrT K) with
  | true =>
    obtain ⟨q1, q2, q3⟩ := hrd.1 hA
    obtain ⟨y1, y2, y3⟩ := hpk.1 hA
    simp only [q1, q2, q3, SV.val] at hRd
    simp only [y1, y2, y3, SV.val] at hPk
    clear q1 q2 q3 y1 y2 y3 hrd hpk hA hF hG
    go_upto_region 5 with ((go_at_call 14; refine (hRd _ hs_s).mono ?_; rintro e w5 ⟨⟨ua0, un0, uc0, ua1, un1, uc1, ua2, un2, uc2, ua3, un3, uc3, uxi, uxl, uxd, uxo⟩, rfl, hO, hd, hb5⟩; simp only []; replace bx_r := bx_r.below hb5 bx_r.lt; replace bx_s := bx_s.below hb5 bx_s.lt; replace bx_x := bx_x.below hb5 bx_x.lt; replace hs_h := hs_h.below hb5; replace hs_s := hs_s.below hb5; replace hbv : Below w.heap.size w w5 := hbv.trans (hb5.mono hbv.size); clear c_r0 c_r1 c_r2 c_r3 c_r4 c_r5 z_r c_s0 c_s1 c_s2 c_s3 z_s c_x0 c_x1 z_x; have c_r0 := (bx_r.c 0 (by decide)).1; have c_r1 := (bx_r.c 1 (by decide)).1; have c_r2 := (bx_r.c 2 (by decide)).1; have c_r3 := (bx_r.c 3 (by decide)).1; have c_r4 := (bx_r.c 4 (by decide)).1; have c_r5 := (bx_r.c 5 (by decide)).1; have z_r := bx_r.lt; have c_s0 := (bx_s.c 0 (by decide)).1; have c_s1 := (bx_s.c 1 (by decide)).1; have c_s2 := (bx_s.c 2 (by decide)).1; have c_s3 := (bx_s.c 3 (by decide)).1; have z_s := bx_s.lt; have c_x0 := (bx_x.c 0 (by decide)).1; have c_x1 := (bx_x.c 1 (by decide)).1; have z_x := bx_x.lt; simp only [List.getD_cons_zero, List.getD_cons_succ] at c_r0 c_r1 c_r2 c_r3 c_r4 c_r5 c_s0 c_s1 c_s2 c_s3 c_x0 c_x1))
    clear hRd hO hd
    obtain ⟨X6, eX6⟩ : ∃ X : World, X = w5.alloc (.cells #[.slice ua0 un0 uc0, .slice ua1 un1 uc1, .slice ua2 un2 uc2, .slice ua3 un3 uc3] 27) := ⟨_, rfl⟩
    have bX6 : Below w5.heap.size w5 X6 := by rw [eX6]; exact (Below.refl _ _).alloc (Nat.le_refl _) _
    have bx_u : BoxN X6 w5.heap.size 4 [.slice ua0 un0 uc0, .slice ua1 un1 uc1, .slice ua2 un2 uc2, .slice ua3 un3 uc3] := by rw [eX6]; exact boxn_new w5 #[.slice ua0 un0 uc0, .slice ua1 un1 uc1, .slice ua2 un2 uc2, .slice ua3 un3 uc3] 27 4 rfl
    rw [← eX6]
    obtain ⟨m_u, em_u⟩ : ∃ m, m = w5.heap.size := ⟨_, rfl⟩
    rw [← em_u] at bx_u ⊢
    clear em_u eX6
    replace bx_r := bx_r.below bX6 bx_r.lt
    replace bx_s := bx_s.below bX6 bx_s.lt
    replace bx_x := bx_x.below bX6 bx_x.lt
    replace hs_h := hs_h.below bX6
    replace hs_s := hs_s.below bX6
    replace hbv : Below w.heap.size w X6 := hbv.trans (bX6.mono hbv.size)
    clear c_r0 c_r1 c_r2 c_r3 c_r4 c_r5 z_r c_s0 c_s1 c_s2 c_s3 z_s c_x0 c_x1 z_x
    have c_r0 := (bx_r.c 0 (by decide)).1
    have c_r1 := (bx_r.c 1 (by decide)).1
    have c_r2 := (bx_r.c 2 (by decide)).1
    have c_r3 := (bx_r.c 3 (by decide)).1
    have c_r4 := (bx_r.c 4 (by decide)).1
    have c_r5 := (bx_r.c 5 (by decide)).1
    have z_r := bx_r.lt
    have c_s0 := (bx_s.c 0 (by decide)).1
    have c_s1 := (bx_s.c 1 (by decide)).1
    have c_s2 := (bx_s.c 2 (by decide)).1
    have c_s3 := (bx_s.c 3 (by decide)).1
    have z_s := bx_s.lt
    have c_x0 := (bx_x.c 0 (by decide)).1
    have c_x1 := (bx_x.c 1 (by decide)).1
    have z_x := bx_x.lt
    have c_u0 := (bx_u.c 0 (by decide)).1
    have c_u1 := (bx_u.c 1 (by decide)).1
    have c_u2 := (bx_u.c 2 (by decide)).1
    have c_u3 := (bx_u.c 3 (by decide)).1
    have z_u := bx_u.lt
    simp only [List.getD_cons_zero, List.getD_cons_succ] at c_r0 c_r1 c_r2 c_r3 c_r4 c_r5 c_s0 c_s1 c_s2 c_s3 c_x0 c_x1 c_u0 c_u1 c_u2 c_u3
    go_wp2_with (first | (go_at_call 17; refine (hPk _ hs_s).mono ?_; rintro e w7 ⟨rfl, hb7⟩; replace bx_r := bx_r.below hb7 bx_r.lt; replace bx_s := bx_s.below hb7 bx_s.lt; replace bx_x := bx_x.below hb7 bx_x.lt; replace bx_u := bx_u.below hb7 bx_u.lt; replace hs_h := hs_h.below hb7; replace hs_s := hs_s.below hb7; replace hbv : Below w.heap.size w w7 := hbv.trans (hb7.mono hbv.size); clear c_r0 c_r1 c_r2 c_r3 c_r4 c_r5 z_r c_s0 c_s1 c_s2 c_s3 z_s c_x0 c_x1 z_x c_u0 c_u1 c_u2 c_u3 z_u; have c_r0 := (bx_r.c 0 (by decide)).1; have c_r1 := (bx_r.c 1 (by decide)).1; have c_r2 := (bx_r.c 2 (by decide)).1; have c_r3 := (bx_r.c 3 (by decide)).1; have c_r4 := (bx_r.c 4 (by decide)).1; have c_r5 := (bx_r.c 5 (by decide)).1; have z_r := bx_r.lt; have c_s0 := (bx_s.c 0 (by decide)).1; have c_s1 := (bx_s.c 1 (by decide)).1; have c_s2 := (bx_s.c 2 (by decide)).1; have c_s3 := (bx_s.c 3 (by decide)).1; have z_s := bx_s.lt; have c_x0 := (bx_x.c 0 (by decide)).1; have c_x1 := (bx_x.c 1 (by decide)).1; have z_x := bx_x.lt; have c_u0 := (bx_u.c 0 (by decide)).1; have c_u1 := (bx_u.c 1 (by decide)).1; have c_u2 := (bx_u.c 2 (by decide)).1; have c_u3 := (bx_u.c 3 (by decide)).1; have z_u := bx_u.lt; simp only [List.getD_cons_zero, List.getD_cons_succ] at c_r0 c_r1 c_r2 c_r3 c_r4 c_r5 c_s0 c_s1 c_s2 c_s3 c_x0 c_x1 c_u0 c_u1 c_u2 c_u3) | (go_at_call 15; refine (hCs _ hs_s).mono ?_; rintro e w8 ⟨rfl, hb8⟩; replace bx_r := bx_r.below hb8 bx_r.lt; replace bx_s := bx_s.below hb8 bx_s.lt; replace bx_x := bx_x.below hb8 bx_x.lt; replace bx_u := bx_u.below hb8 bx_u.lt; replace hs_h := hs_h.below hb8; replace hs_s := hs_s.below hb8; replace hbv : Below w.heap.size w w8 := hbv.trans (hb8.mono hbv.size); clear c_r0 c_r1 c_r2 c_r3 c_r4 c_r5 z_r c_s0 c_s1 c_s2 c_s3 z_s c_x0 c_x1 z_x c_u0 c_u1 c_u2 c_u3 z_u; have c_r0 := (bx_r.c 0 (by decide)).1; have c_r1 := (bx_r.c 1 (by decide)).1; have c_r2 := (bx_r.c 2 (by decide)).1; have c_r3 := (bx_r.c 3 (by decide)).1; have c_r4 := (bx_r.c 4 (by decide)).1; have c_r5 := (bx_r.c 5 (by decide)).1; have z_r := bx_r.lt; have c_s0 := (bx_s.c 0 (by decide)).1; have c_s1 := (bx_s.c 1 (by decide)).1; have c_s2 := (bx_s.c 2 (by decide)).1; have c_s3 := (bx_s.c 3 (by decide)).1; have z_s := bx_s.lt; have c_x0 := (bx_x.c 0 (by decide)).1; have c_x1 := (bx_x.c 1 (by decide)).1; have z_x := bx_x.lt; have c_u0 := (bx_u.c 0 (by decide)).1; have c_u1 := (bx_u.c 1 (by decide)).1; have c_u2 := (bx_u.c 2 (by decide)).1; have c_u3 := (bx_u.c 3 (by decide)).1; have z_u := bx_u.lt; simp only [List.getD_cons_zero, List.getD_cons_succ] at c_r0 c_r1 c_r2 c_r3 c_r4 c_r5 c_s0 c_s1 c_s2 c_s3 c_x0 c_x1 c_u0 c_u1 c_u2 c_u3))
    go_ret
    exact ⟨rfl, hbv⟩
  | false =>
    obtain ⟨q1, q2, q3, q4⟩ := hrd.2 hA
    obtain ⟨y1, y2, y3⟩ := hpk.2 hA
    have hok2 := read_ok q1
    simp only [q1, q2, q3, SV.val] at hRd
    simp only [y1, y2, y3, SV.val] at hPk
    clear q1 q2 q3 y1 y2 y3 hrd hpk hA hG
    go_upto_region 5 with ((go_at_call 14; refine (hRd _ hs_s).mono ?_; rintro e w5 ⟨⟨ua0, un0, uc0, ua1, un1, uc1, ua2, un2, uc2, ua3, un3, uc3, uxi, uxl, uxd, uxo⟩, rfl, hO, hd, hb5⟩; simp only []; replace bx_r := bx_r.below hb5 bx_r.lt; replace bx_s := bx_s.below hb5 bx_s.lt; replace bx_x := bx_x.below hb5 bx_x.lt; replace hs_h := hs_h.below hb5; replace hs_s := hs_s.below hb5; replace hbv : Below w.heap.size w w5 := hbv.trans (hb5.mono hbv.size); have hs_u := hO.isStore; clear c_r0 c_r1 c_r2 c_r3 c_r4 c_r5 z_r c_s0 c_s1 c_s2 c_s3 z_s c_x0 c_x1 z_x; have c_r0 := (bx_r.c 0 (by decide)).1; have c_r1 := (bx_r.c 1 (by decide)).1; have c_r2 := (bx_r.c 2 (by decide)).1; have c_r3 := (bx_r.c 3 (by decide)).1; have c_r4 := (bx_r.c 4 (by decide)).1; have c_r5 := (bx_r.c 5 (by decide)).1; have z_r := bx_r.lt; have c_s0 := (bx_s.c 0 (by decide)).1; have c_s1 := (bx_s.c 1 (by decide)).1; have c_s2 := (bx_s.c 2 (by decide)).1; have c_s3 := (bx_s.c 3 (by decide)).1; have z_s := bx_s.lt; have c_x0 := (bx_x.c 0 (by decide)).1; have c_x1 := (bx_x.c 1 (by decide)).1; have z_x := bx_x.lt; simp only [List.getD_cons_zero, List.getD_cons_succ] at c_r0 c_r1 c_r2 c_r3 c_r4 c_r5 c_s0 c_s1 c_s2 c_s3 c_x0 c_x1))
    clear hRd hO
    obtain ⟨X6, eX6⟩ : ∃ X : World, X = w5.alloc (.cells #[.slice ua0 un0 uc0, .slice ua1 un1 uc1, .slice ua2 un2 uc2, .slice ua3 un3 uc3] 27) := ⟨_, rfl⟩
    have bX6 : Below w5.heap.size w5 X6 := by rw [eX6]; exact (Below.refl _ _).alloc (Nat.le_refl _) _
    have bx_u : BoxN X6 w5.heap.size 4 [.slice ua0 un0 uc0, .slice ua1 un1 uc1, .slice ua2 un2 uc2, .slice ua3 un3 uc3] := by rw [eX6]; exact boxn_new w5 #[.slice ua0 un0 uc0, .slice ua1 un1 uc1, .slice ua2 un2 uc2, .slice ua3 un3 uc3] 27 4 rfl
    rw [← eX6]
    obtain ⟨m_u, em_u⟩ : ∃ m, m = w5.heap.size := ⟨_, rfl⟩
    rw [← em_u] at bx_u ⊢
    clear em_u eX6
    replace bx_r := bx_r.below bX6 bx_r.lt
    replace bx_s := bx_s.below bX6 bx_s.lt
    replace bx_x := bx_x.below bX6 bx_x.lt
    replace hs_h := hs_h.below bX6
    replace hs_s := hs_s.below bX6
    replace hs_u := hs_u.below bX6
    replace hbv : Below w.heap.size w X6 := hbv.trans (bX6.mono hbv.size)
    clear c_r0 c_r1 c_r2 c_r3 c_r4 c_r5 z_r c_s0 c_s1 c_s2 c_s3 z_s c_x0 c_x1 z_x
    have c_r0 := (bx_r.c 0 (by decide)).1
    have c_r1 := (bx_r.c 1 (by decide)).1
    have c_r2 := (bx_r.c 2 (by decide)).1
    have c_r3 := (bx_r.c 3 (by decide)).1
    have c_r4 := (bx_r.c 4 (by decide)).1
    have c_r5 := (bx_r.c 5 (by decide)).1
    have z_r := bx_r.lt
    have c_s0 := (bx_s.c 0 (by decide)).1
    have c_s1 := (bx_s.c 1 (by decide)).1
    have c_s2 := (bx_s.c 2 (by decide)).1
    have c_s3 := (bx_s.c 3 (by decide)).1
    have z_s := bx_s.lt
    have c_x0 := (bx_x.c 0 (by decide)).1
    have c_x1 := (bx_x.c 1 (by decide)).1
    have z_x := bx_x.lt
    have c_u0 := (bx_u.c 0 (by decide)).1
    have c_u1 := (bx_u.c 1 (by decide)).1
    have c_u2 := (bx_u.c 2 (by decide)).1
    have c_u3 := (bx_u.c 3 (by decide)).1
    have z_u := bx_u.lt
    simp only [List.getD_cons_zero, List.getD_cons_succ] at c_r0 c_r1 c_r2 c_r3 c_r4 c_r5 c_s0 c_s1 c_s2 c_s3 c_x0 c_x1 c_u0 c_u1 c_u2 c_u3
    rw [← hd] at hok2
    rw [q4] at hd
    clear q4
    have hP : Plus (SV.data ⟨sa0, sn0, sc0, sa1, sn1, sc1, sa2, sn2, sc2, sa3, sn3, sc3, sxi, sxl, sxd, sxo⟩) (SV.data ⟨ua0, un0, uc0, ua1, un1, uc1, ua2, un2, uc2, ua3, un3, uc3, uxi, uxl, uxd, uxo⟩) ⟨(2, N1), K, false, 0, 0⟩ := Plus.of hd
    have hdo : uxo = sxo := hP.over
    have hwfu : ∀ t ∈ uxo, TxWf t := by rw [hdo]; exact HOT.out
    have h4u : un3 * 16 ≤ 140737488351232 := by
      have e1 : uxo.length = un3 := hs_u.over.1
      have := HOL.out
      rw [hdo] at e1
      omega
    obtain ⟨q1, q2, q3, q4⟩ := read_again hF hP hok2 hk
    obtain ⟨y1, y2⟩ := still_plus hF hP hok2 hk
    have hRu := fun w' h1 => read_own ⟨ua0, un0, uc0, ua1, un1, uc1, ua2, un2, uc2, ua3, un3, uc3, uxi, uxl, uxd, uxo⟩ (2, N1) K w' h1 hwfu h4u
    simp only [q1, q2, q3, q4, SV.val, Bool.false_eq_true, if_false] at hRu
    have hSl := fun w' h1 => still_any ⟨ua0, un0, uc0, ua1, un1, uc1, ua2, un2, uc2, ua3, un3, uc3, uxi, uxl, uxd, uxo⟩ (2, N1) K (itemAt sxi K).version w' h1 hwfu
    have y2' : stillIs ⟨ua0, un0, uc0, ua1, un1, uc1, ua2, un2, uc2, ua3, un3, uc3, uxi, uxl, uxd, uxo⟩ (2, N1) K (itemAt sxi K).version = true := y2
    simp only [y1, y2', SV.val] at hSl
    simp only [SV.data] at hRu
    clear q1 q2 q3 q4 y1 y2 y2' hP hd hok2 hF hdo hwfu h4u
    obtain ⟨I1, eI1⟩ : ∃ I, I = (itemAt sxi K).value := ⟨_, rfl⟩
    obtain ⟨I2, eI2⟩ : ∃ I, I = (itemAt sxi K).version := ⟨_, rfl⟩
    simp only [← eI1, ← eI2] at hRu hSl hPk ⊢
    clear eI1 eI2
    go_upto_region 6 with ((go_at_call 17; refine (hPk _ hs_s).mono ?_; rintro e w7 ⟨rfl, hb7⟩; replace bx_r := bx_r.below hb7 bx_r.lt; replace bx_s := bx_s.below hb7 bx_s.lt; replace bx_x := bx_x.below hb7 bx_x.lt; replace bx_u := bx_u.below hb7 bx_u.lt; replace hs_h := hs_h.below hb7; replace hs_s := hs_s.below hb7; replace hs_u := hs_u.below hb7; replace hbv : Below w.heap.size w w7 := hbv.trans (hb7.mono hbv.size); clear c_r0 c_r1 c_r2 c_r3 c_r4 c_r5 z_r c_s0 c_s1 c_s2 c_s3 z_s c_x0 c_x1 z_x c_u0 c_u1 c_u2 c_u3 z_u; have c_r0 := (bx_r.c 0 (by decide)).1; have c_r1 := (bx_r.c 1 (by decide)).1; have c_r2 := (bx_r.c 2 (by decide)).1; have c_r3 := (bx_r.c 3 (by decide)).1; have c_r4 := (bx_r.c 4 (by decide)).1; have c_r5 := (bx_r.c 5 (by decide)).1; have z_r := bx_r.lt; have c_s0 := (bx_s.c 0 (by decide)).1; have c_s1 := (bx_s.c 1 (by decide)).1; have c_s2 := (bx_s.c 2 (by decide)).1; have c_s3 := (bx_s.c 3 (by decide)).1; have z_s := bx_s.lt; have c_x0 := (bx_x.c 0 (by decide)).1; have c_x1 := (bx_x.c 1 (by decide)).1; have z_x := bx_x.lt; have c_u0 := (bx_u.c 0 (by decide)).1; have c_u1 := (bx_u.c 1 (by decide)).1; have c_u2 := (bx_u.c 2 (by decide)).1; have c_u3 := (bx_u.c 3 (by decide)).1; have z_u := bx_u.lt; simp only [List.getD_cons_zero, List.getD_cons_succ] at c_r0 c_r1 c_r2 c_r3 c_r4 c_r5 c_s0 c_s1 c_s2 c_s3 c_x0 c_x1 c_u0 c_u1 c_u2 c_u3))
    clear hPk
    go_upto_region 10 with ((go_at_call 15; refine (hCs _ hs_s).mono ?_; rintro e w8 ⟨rfl, hb8⟩; replace bx_r := bx_r.below hb8 bx_r.lt; replace bx_s := bx_s.below hb8 bx_s.lt; replace bx_x := bx_x.below hb8 bx_x.lt; replace bx_u := bx_u.below hb8 bx_u.lt; replace hs_h := hs_h.below hb8; replace hs_s := hs_s.below hb8; replace hs_u := hs_u.below hb8; replace hbv : Below w.heap.size w w8 := hbv.trans (hb8.mono hbv.size); clear c_r0 c_r1 c_r2 c_r3 c_r4 c_r5 z_r c_s0 c_s1 c_s2 c_s3 z_s c_x0 c_x1 z_x c_u0 c_u1 c_u2 c_u3 z_u; have c_r0 := (bx_r.c 0 (by decide)).1; have c_r1 := (bx_r.c 1 (by decide)).1; have c_r2 := (bx_r.c 2 (by decide)).1; have c_r3 := (bx_r.c 3 (by decide)).1; have c_r4 := (bx_r.c 4 (by decide)).1; have c_r5 := (bx_r.c 5 (by decide)).1; have z_r := bx_r.lt; have c_s0 := (bx_s.c 0 (by decide)).1; have c_s1 := (bx_s.c 1 (by decide)).1; have c_s2 := (bx_s.c 2 (by decide)).1; have c_s3 := (bx_s.c 3 (by decide)).1; have z_s := bx_s.lt; have c_x0 := (bx_x.c 0 (by decide)).1; have c_x1 := (bx_x.c 1 (by decide)).1; have z_x := bx_x.lt; have c_u0 := (bx_u.c 0 (by decide)).1; have c_u1 := (bx_u.c 1 (by decide)).1; have c_u2 := (bx_u.c 2 (by decide)).1; have c_u3 := (bx_u.c 3 (by decide)).1; have z_u := bx_u.lt; simp only [List.getD_cons_zero, List.getD_cons_succ] at c_r0 c_r1 c_r2 c_r3 c_r4 c_r5 c_s0 c_s1 c_s2 c_s3 c_x0 c_x1 c_u0 c_u1 c_u2 c_u3))
    clear hCs
    go_upto_region 11 with ((go_at_call 14; refine (hRu _ hs_u).mono ?_; rintro e w9 ⟨⟨va0, vn0, vc0, va1, vn1, vc1, va2, vn2, vc2, va3, vn3, vc3, vxi, vxl, vxd, vxo⟩, rfl, hO, hd, hb9⟩; simp only []; replace bx_r := bx_r.below hb9 bx_r.lt; replace bx_s := bx_s.below hb9 bx_s.lt; replace bx_x := bx_x.below hb9 bx_x.lt; replace bx_u := bx_u.below hb9 bx_u.lt; replace hs_h := hs_h.below hb9; replace hs_s := hs_s.below hb9; replace hs_u := hs_u.below hb9; replace hbv : Below w.heap.size w w9 := hbv.trans (hb9.mono hbv.size); have hs_v := hO.isStore; clear c_r0 c_r1 c_r2 c_r3 c_r4 c_r5 z_r c_s0 c_s1 c_s2 c_s3 z_s c_x0 c_x1 z_x c_u0 c_u1 c_u2 c_u3 z_u; have c_r0 := (bx_r.c 0 (by decide)).1; have c_r1 := (bx_r.c 1 (by decide)).1; have c_r2 := (bx_r.c 2 (by decide)).1; have c_r3 := (bx_r.c 3 (by decide)).1; have c_r4 := (bx_r.c 4 (by decide)).1; have c_r5 := (bx_r.c 5 (by decide)).1; have z_r := bx_r.lt; have c_s0 := (bx_s.c 0 (by decide)).1; have c_s1 := (bx_s.c 1 (by decide)).1; have c_s2 := (bx_s.c 2 (by decide)).1; have c_s3 := (bx_s.c 3 (by decide)).1; have z_s := bx_s.lt; have c_x0 := (bx_x.c 0 (by decide)).1; have c_x1 := (bx_x.c 1 (by decide)).1; have z_x := bx_x.lt; have c_u0 := (bx_u.c 0 (by decide)).1; have c_u1 := (bx_u.c 1 (by decide)).1; have c_u2 := (bx_u.c 2 (by decide)).1; have c_u3 := (bx_u.c 3 (by decide)).1; have z_u := bx_u.lt; simp only [List.getD_cons_zero, List.getD_cons_succ] at c_r0 c_r1 c_r2 c_r3 c_r4 c_r5 c_s0 c_s1 c_s2 c_s3 c_x0 c_x1 c_u0 c_u1 c_u2 c_u3))
    clear hRu hO
    obtain ⟨X10, eX10⟩ : ∃ X : World, X = w9.alloc (.cells #[.slice va0 vn0 vc0, .slice va1 vn1 vc1, .slice va2 vn2 vc2, .slice va3 vn3 vc3] 27) := ⟨_, rfl⟩
    have bX10 : Below w9.heap.size w9 X10 := by rw [eX10]; exact (Below.refl _ _).alloc (Nat.le_refl _) _
    have bx_v : BoxN X10 w9.heap.size 4 [.slice va0 vn0 vc0, .slice va1 vn1 vc1, .slice va2 vn2 vc2, .slice va3 vn3 vc3] := by rw [eX10]; exact boxn_new w9 #[.slice va0 vn0 vc0, .slice va1 vn1 vc1, .slice va2 vn2 vc2, .slice va3 vn3 vc3] 27 4 rfl
    rw [← eX10]
    obtain ⟨m_v, em_v⟩ : ∃ m, m = w9.heap.size := ⟨_, rfl⟩
    rw [← em_v] at bx_v ⊢
    clear em_v eX10
    replace bx_r := bx_r.below bX10 bx_r.lt
    replace bx_s := bx_s.below bX10 bx_s.lt
    replace bx_x := bx_x.below bX10 bx_x.lt
    replace bx_u := bx_u.below bX10 bx_u.lt
    replace hs_h := hs_h.below bX10
    replace hs_s := hs_s.below bX10
    replace hs_u := hs_u.below bX10
    replace hs_v := hs_v.below bX10
    replace hbv : Below w.heap.size w X10 := hbv.trans (bX10.mono hbv.size)
    clear c_r0 c_r1 c_r2 c_r3 c_r4 c_r5 z_r c_s0 c_s1 c_s2 c_s3 z_s c_x0 c_x1 z_x c_u0 c_u1 c_u2 c_u3 z_u
    have c_r0 := (bx_r.c 0 (by decide)).1
    have c_r1 := (bx_r.c 1 (by decide)).1
    have c_r2 := (bx_r.c 2 (by decide)).1
    have c_r3 := (bx_r.c 3 (by decide)).1
    have c_r4 := (bx_r.c 4 (by decide)).1
    have c_r5 := (bx_r.c 5 (by decide)).1
    have z_r := bx_r.lt
    have c_s0 := (bx_s.c 0 (by decide)).1
    have c_s1 := (bx_s.c 1 (by decide)).1
    have c_s2 := (bx_s.c 2 (by decide)).1
    have c_s3 := (bx_s.c 3 (by decide)).1
    have z_s := bx_s.lt
    have c_x0 := (bx_x.c 0 (by decide)).1
    have c_x1 := (bx_x.c 1 (by decide)).1
    have z_x := bx_x.lt
    have c_u0 := (bx_u.c 0 (by decide)).1
    have c_u1 := (bx_u.c 1 (by decide)).1
    have c_u2 := (bx_u.c 2 (by decide)).1
    have c_u3 := (bx_u.c 3 (by decide)).1
    have z_u := bx_u.lt
    have c_v0 := (bx_v.c 0 (by decide)).1
    have c_v1 := (bx_v.c 1 (by decide)).1
    have c_v2 := (bx_v.c 2 (by decide)).1
    have c_v3 := (bx_v.c 3 (by decide)).1
    have z_v := bx_v.lt
    simp only [List.getD_cons_zero, List.getD_cons_succ] at c_r0 c_r1 c_r2 c_r3 c_r4 c_r5 c_s0 c_s1 c_s2 c_s3 c_x0 c_x1 c_u0 c_u1 c_u2 c_u3 c_v0 c_v1 c_v2 c_v3
    have hSm := fun w' h1 h2 => keptStore_any ⟨ua0, un0, uc0, ua1, un1, uc1, ua2, un2, uc2, ua3, un3, uc3, uxi, uxl, uxd, uxo⟩ ⟨va0, vn0, vc0, va1, vn1, vc1, va2, vn2, vc2, va3, vn3, vc3, vxi, vxl, vxd, vxo⟩ w' h1 h2 hd.symm
    simp only [SV.val] at hSm
    clear hd
    go_wp2_with (first | (go_at_call 18; refine (hSl _ hs_u).mono ?_; rintro e w11 ⟨rfl, hb11⟩; replace bx_r := bx_r.below hb11 bx_r.lt; replace bx_s := bx_s.below hb11 bx_s.lt; replace bx_x := bx_x.below hb11 bx_x.lt; replace bx_u := bx_u.below hb11 bx_u.lt; replace bx_v := bx_v.below hb11 bx_v.lt; replace hs_h := hs_h.below hb11; replace hs_s := hs_s.below hb11; replace hs_u := hs_u.below hb11; replace hs_v := hs_v.below hb11; replace hbv : Below w.heap.size w w11 := hbv.trans (hb11.mono hbv.size); clear c_r0 c_r1 c_r2 c_r3 c_r4 c_r5 z_r c_s0 c_s1 c_s2 c_s3 z_s c_x0 c_x1 z_x c_u0 c_u1 c_u2 c_u3 z_u c_v0 c_v1 c_v2 c_v3 z_v; have c_r0 := (bx_r.c 0 (by decide)).1; have c_r1 := (bx_r.c 1 (by decide)).1; have c_r2 := (bx_r.c 2 (by decide)).1; have c_r3 := (bx_r.c 3 (by decide)).1; have c_r4 := (bx_r.c 4 (by decide)).1; have c_r5 := (bx_r.c 5 (by decide)).1; have z_r := bx_r.lt; have c_s0 := (bx_s.c 0 (by decide)).1; have c_s1 := (bx_s.c 1 (by decide)).1; have c_s2 := (bx_s.c 2 (by decide)).1; have c_s3 := (bx_s.c 3 (by decide)).1; have z_s := bx_s.lt; have c_x0 := (bx_x.c 0 (by decide)).1; have c_x1 := (bx_x.c 1 (by decide)).1; have z_x := bx_x.lt; have c_u0 := (bx_u.c 0 (by decide)).1; have c_u1 := (bx_u.c 1 (by decide)).1; have c_u2 := (bx_u.c 2 (by decide)).1; have c_u3 := (bx_u.c 3 (by decide)).1; have z_u := bx_u.lt; have c_v0 := (bx_v.c 0 (by decide)).1; have c_v1 := (bx_v.c 1 (by decide)).1; have c_v2 := (bx_v.c 2 (by decide)).1; have c_v3 := (bx_v.c 3 (by decide)).1; have z_v := bx_v.lt; simp only [List.getD_cons_zero, List.getD_cons_succ] at c_r0 c_r1 c_r2 c_r3 c_r4 c_r5 c_s0 c_s1 c_s2 c_s3 c_x0 c_x1 c_u0 c_u1 c_u2 c_u3 c_v0 c_v1 c_v2 c_v3) | (go_at_call 19; refine (hSm _ hs_u hs_v).mono ?_; rintro e w12 ⟨rfl, hb12⟩; replace bx_r := bx_r.below hb12 bx_r.lt; replace bx_s := bx_s.below hb12 bx_s.lt; replace bx_x := bx_x.below hb12 bx_x.lt; replace bx_u := bx_u.below hb12 bx_u.lt; replace bx_v := bx_v.below hb12 bx_v.lt; replace hs_h := hs_h.below hb12; replace hs_s := hs_s.below hb12; replace hs_u := hs_u.below hb12; replace hs_v := hs_v.below hb12; replace hbv : Below w.heap.size w w12 := hbv.trans (hb12.mono hbv.size); clear c_r0 c_r1 c_r2 c_r3 c_r4 c_r5 z_r c_s0 c_s1 c_s2 c_s3 z_s c_x0 c_x1 z_x c_u0 c_u1 c_u2 c_u3 z_u c_v0 c_v1 c_v2 c_v3 z_v; have c_r0 := (bx_r.c 0 (by decide)).1; have c_r1 := (bx_r.c 1 (by decide)).1; have c_r2 := (bx_r.c 2 (by decide)).1; have c_r3 := (bx_r.c 3 (by decide)).1; have c_r4 := (bx_r.c 4 (by decide)).1; have c_r5 := (bx_r.c 5 (by decide)).1; have z_r := bx_r.lt; have c_s0 := (bx_s.c 0 (by decide)).1; have c_s1 := (bx_s.c 1 (by decide)).1; have c_s2 := (bx_s.c 2 (by decide)).1; have c_s3 := (bx_s.c 3 (by decide)).1; have z_s := bx_s.lt; have c_x0 := (bx_x.c 0 (by decide)).1; have c_x1 := (bx_x.c 1 (by decide)).1; have z_x := bx_x.lt; have c_u0 := (bx_u.c 0 (by decide)).1; have c_u1 := (bx_u.c 1 (by decide)).1; have c_u2 := (bx_u.c 2 (by decide)).1; have c_u3 := (bx_u.c 3 (by decide)).1; have z_u := bx_u.lt; have c_v0 := (bx_v.c 0 (by decide)).1; have c_v1 := (bx_v.c 1 (by decide)).1; have c_v2 := (bx_v.c 2 (by decide)).1; have c_v3 := (bx_v.c 3 (by decide)).1; have z_v := bx_v.lt; simp only [List.getD_cons_zero, List.getD_cons_succ] at c_r0 c_r1 c_r2 c_r3 c_r4 c_r5 c_s0 c_s1 c_s2 c_s3 c_x0 c_x1 c_u0 c_u1 c_u2 c_u3 c_v0 c_v1 c_v2 c_v3))
    go_ret
    exact ⟨rfl, hbv⟩
end Go.Proofs.Ytbmbahifkegehaa
