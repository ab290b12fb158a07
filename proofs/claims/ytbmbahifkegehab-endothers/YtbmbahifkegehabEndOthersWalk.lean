/- The walk of the law EndOthers. -/
import Derived.Test.YtbmbahifkegehabSKStore
import Derived.Test.YtbmbahifkegehabSKEnd
import Derived.Test.YtbmbahifkegehabSKTells
namespace Go.Proofs.Ytbmbahifkegehab
open Go.ChangeShapes Go.WideShapes Go.ChangeAt Go.RowKit St
set_option linter.unusedVariables false

set_option maxRecDepth 100000 in
set_option maxHeartbeats 4000000 in
theorem endOthers_walk (a : Option Addr) (len cap : Nat) (rs : List RV) (x y : Int) (yes : Bool) (w : World) (h : IsRaws w a len cap rs) (hx : (Lit.int .i64 x).wf = true) (hy : (Lit.int .i64 y).wf = true) :
    Calls Try.prog 4 #[.slice a len cap, .int .i64 x, .int .i64 y, .bool yes] w fun e w' => e = .returned (.bool true) ∧ Below w.heap.size w w' := by
  obtain ⟨i0, hi, li0, li1, li2⟩ := info_parts lkInfo
  have wx := i64_bd hx
  have wy := i64_bd hy
  clear hx hy
  have hbv : Below w.heap.size w w := Below.refl _ _
  have b1 := pk_bd x 2 (by decide)
  have b2 := pk_bd y 5 (by decide)
  have hw1 : IntKind.i64.wrap (1 + pk y 5) = 1 + pk y 5 := by apply wrap_in <;> omega
  have hTl := storeTells_any w
  have hs_h := h
  have hSt := fun w' h1 => store_made a len cap rs 30 w' h1 (by decide)
  go_enter Try.func4, Try.ntmps4
  go_upto_region 3 with ((go_at_call 15; refine (hTl).mono ?_; rintro e w1 ⟨rfl, hb1⟩; replace hs_h := hs_h.below hb1; replace hbv : Below w.heap.size w w1 := hbv.trans (hb1.mono hbv.size)))
  go_upto_region 4 with ((go_at_call 7; refine (hSt _ hs_h).mono ?_; rintro e w2 ⟨⟨sa0, sn0, sc0, sa1, sn1, sc1, sa2, sn2, sc2, sa3, sn3, sc3, sxi, sxl, sxd, sxo⟩, rfl, hO, hG, hb2⟩; simp only [SV.val]; replace hs_h := hs_h.below hb2; replace hbv : Below w.heap.size w w2 := hbv.trans (hb2.mono hbv.size); have hs_s := hO.isStore))
  clear hSt hO hTl
  obtain ⟨X3, eX3⟩ : ∃ X : World, X = w2.alloc (.cells #[.slice sa0 sn0 sc0, .slice sa1 sn1 sc1, .slice sa2 sn2 sc2, .slice sa3 sn3 sc3] 28) := ⟨_, rfl⟩
  have bX3 : Below w2.heap.size w2 X3 := by rw [eX3]; exact (Below.refl _ _).alloc (Nat.le_refl _) _
  have bx_s : BoxN X3 w2.heap.size 4 [.slice sa0 sn0 sc0, .slice sa1 sn1 sc1, .slice sa2 sn2 sc2, .slice sa3 sn3 sc3] := by rw [eX3]; exact boxn_new w2 #[.slice sa0 sn0 sc0, .slice sa1 sn1 sc1, .slice sa2 sn2 sc2, .slice sa3 sn3 sc3] 28 4 rfl
  rw [← eX3]
  obtain ⟨m_s, em_s⟩ : ∃ m, m = w2.heap.size := ⟨_, rfl⟩
  rw [← em_s] at bx_s ⊢
  clear em_s eX3
  replace hs_h := hs_h.below bX3
  replace hs_s := hs_s.below bX3
  replace hbv : Below w.heap.size w X3 := hbv.trans (bX3.mono hbv.size)
  have c_s0 := (bx_s.c 0 (by decide)).1
  have c_s1 := (bx_s.c 1 (by decide)).1
  have c_s2 := (bx_s.c 2 (by decide)).1
  have c_s3 := (bx_s.c 3 (by decide)).1
  have z_s := bx_s.lt
  simp only [List.getD_cons_zero, List.getD_cons_succ] at c_s0 c_s1 c_s2 c_s3
  go_upto_region 5 with ((go_at_call 8; refine (picked_any _ _ _ (by assumption) (by decide) (by decide)).mono ?_; rintro e u ⟨rfl, hu⟩; rw [hu]; clear hu))
  obtain ⟨X4, eX4⟩ : ∃ X : World, X = X3.alloc (.cells #[.int .i64 (pk x 2), .int .i64 (1 + pk y 5)] 32) := ⟨_, rfl⟩
  have bX4 : Below X3.heap.size X3 X4 := by rw [eX4]; exact (Below.refl _ _).alloc (Nat.le_refl _) _
  have bx_x : BoxN X4 X3.heap.size 2 [.int .i64 (pk x 2), .int .i64 (1 + pk y 5)] := by rw [eX4]; exact boxn_new X3 #[.int .i64 (pk x 2), .int .i64 (1 + pk y 5)] 32 2 rfl
  rw [← eX4]
  obtain ⟨m_x, em_x⟩ : ∃ m, m = X3.heap.size := ⟨_, rfl⟩
  rw [← em_x] at bx_x ⊢
  clear em_x eX4
  replace bx_s := bx_s.below bX4 bx_s.lt
  replace hs_h := hs_h.below bX4
  replace hs_s := hs_s.below bX4
  replace hbv : Below w.heap.size w X4 := hbv.trans (bX4.mono hbv.size)
  clear c_s0 c_s1 c_s2 c_s3 z_s
  have c_s0 := (bx_s.c 0 (by decide)).1
  have c_s1 := (bx_s.c 1 (by decide)).1
  have c_s2 := (bx_s.c 2 (by decide)).1
  have c_s3 := (bx_s.c 3 (by decide)).1
  have z_s := bx_s.lt
  have c_x0 := (bx_x.c 0 (by decide)).1
  have c_x1 := (bx_x.c 1 (by decide)).1
  have z_x := bx_x.lt
  simp only [List.getD_cons_zero, List.getD_cons_succ] at c_s0 c_s1 c_s2 c_s3 c_x0 c_x1
  have hxo : txOK (pk x 2, 1 + pk y 5) = true := by
    simp only [txOK, Bool.and_eq_true]
    exact ⟨inR_true b1.1 (by show pk x 2 ≤ 3; omega), inR_true (by show 1 ≤ 1 + pk y 5; omega) (by show 1 + pk y 5 ≤ 1048576; omega)⟩
  obtain ⟨N0, eN0⟩ : ∃ N, N = pk x 2 := ⟨_, rfl⟩
  obtain ⟨N1, eN1⟩ : ∃ N, N = 1 + pk y 5 := ⟨_, rfl⟩
  rw [← eN0, ← eN1] at hxo
  rw [← eN0] at bx_x c_x0 b1
  rw [← eN1] at bx_x c_x1 hw1
  clear eN0 eN1 hw1 b1 b2 wx wy
  have hver : ∀ y ∈ sxi, y.version ≤ 1048000 := fun y hy => by have := hG.ver y hy; omega
  have hEn := fun w' h1 => end_own ⟨sa0, sn0, sc0, sa1, sn1, sc1, sa2, sn2, sc2, sa3, sn3, sc3, sxi, sxl, sxd, sxo⟩ (N0, N1) yes w' h1 hG.wf (hG.h4 h1)
  have y1 := end_err (s := ⟨sa0, sn0, sc0, sa1, sn1, sc1, sa2, sn2, sc2, sa3, sn3, sc3, sxi, sxl, sxd, sxo⟩) (yes := yes) hG.ok hxo
  simp only [y1, SV.val] at hEn
  have h20 : sxl.length ≤ 20 := hG.locks20
  have HGO : Hid (OKP (SV.data ⟨sa0, sn0, sc0, sa1, sn1, sc1, sa2, sn2, sc2, sa3, sn3, sc3, sxi, sxl, sxd, sxo⟩)) := hG.ok
  clear hG y1
  go_upto_region 6 with ((go_at_call 9; refine (hEn _ hs_s).mono ?_; rintro e w5 ⟨⟨ua0, un0, uc0, ua1, un1, uc1, ua2, un2, uc2, ua3, un3, uc3, uxi, uxl, uxd, uxo⟩, rfl, hO, hd, hb5⟩; simp only []; replace bx_s := bx_s.below hb5 bx_s.lt; replace bx_x := bx_x.below hb5 bx_x.lt; replace hs_h := hs_h.below hb5; replace hs_s := hs_s.below hb5; replace hbv : Below w.heap.size w w5 := hbv.trans (hb5.mono hbv.size); have hs_u := hO.isStore; clear c_s0 c_s1 c_s2 c_s3 z_s c_x0 c_x1 z_x; have c_s0 := (bx_s.c 0 (by decide)).1; have c_s1 := (bx_s.c 1 (by decide)).1; have c_s2 := (bx_s.c 2 (by decide)).1; have c_s3 := (bx_s.c 3 (by decide)).1; have z_s := bx_s.lt; have c_x0 := (bx_x.c 0 (by decide)).1; have c_x1 := (bx_x.c 1 (by decide)).1; have z_x := bx_x.lt; simp only [List.getD_cons_zero, List.getD_cons_succ] at c_s0 c_s1 c_s2 c_s3 c_x0 c_x1))
  clear hEn hO
  obtain ⟨X6, eX6⟩ : ∃ X : World, X = w5.alloc (.cells #[.slice ua0 un0 uc0, .slice ua1 un1 uc1, .slice ua2 un2 uc2, .slice ua3 un3 uc3] 28) := ⟨_, rfl⟩
  have bX6 : Below w5.heap.size w5 X6 := by rw [eX6]; exact (Below.refl _ _).alloc (Nat.le_refl _) _
  have bx_u : BoxN X6 w5.heap.size 4 [.slice ua0 un0 uc0, .slice ua1 un1 uc1, .slice ua2 un2 uc2, .slice ua3 un3 uc3] := by rw [eX6]; exact boxn_new w5 #[.slice ua0 un0 uc0, .slice ua1 un1 uc1, .slice ua2 un2 uc2, .slice ua3 un3 uc3] 28 4 rfl
  rw [← eX6]
  obtain ⟨m_u, em_u⟩ : ∃ m, m = w5.heap.size := ⟨_, rfl⟩
  rw [← em_u] at bx_u ⊢
  clear em_u eX6
  replace bx_s := bx_s.below bX6 bx_s.lt
  replace bx_x := bx_x.below bX6 bx_x.lt
  replace hs_h := hs_h.below bX6
  replace hs_s := hs_s.below bX6
  replace hs_u := hs_u.below bX6
  replace hbv : Below w.heap.size w X6 := hbv.trans (bX6.mono hbv.size)
  clear c_s0 c_s1 c_s2 c_s3 z_s c_x0 c_x1 z_x
  have c_s0 := (bx_s.c 0 (by decide)).1
  have c_s1 := (bx_s.c 1 (by decide)).1
  have c_s2 := (bx_s.c 2 (by decide)).1
  have c_s3 := (bx_s.c 3 (by decide)).1
  have z_s := bx_s.lt
  have c_x0 := (bx_x.c 0 (by decide)).1
  have c_x1 := (bx_x.c 1 (by decide)).1
  have z_x := bx_x.lt
  have c_u0 := (bx_u.c 0 (by decide)).1
  have c_u1 := (bx_u.c 1 (by decide)).1
  have c_u2 := (bx_u.c 2 (by decide)).1
  have c_u3 := (bx_u.c 3 (by decide)).1
  have z_u := bx_u.lt
  simp only [List.getD_cons_zero, List.getD_cons_succ] at c_s0 c_s1 c_s2 c_s3 c_x0 c_x1 c_u0 c_u1 c_u2 c_u3
  obtain ⟨g1, g2, g3, g4, g5, g6, g7⟩ := end_again (u := ⟨ua0, un0, uc0, ua1, un1, uc1, ua2, un2, uc2, ua3, un3, uc3, uxi, uxl, uxd, uxo⟩) HGO.out hxo hver hd true
  have y4 : Hid (uxl = sxl.filter (fun k => !(ofT (N0, N1) k))) := g6
  have l1 : Hid (uxl.length = un1) := hs_u.locks.1
  have l2 : Hid (sxl.length = sn1) := hs_s.locks.1
  have n20 : sn1 ≤ 20 := by rw [← l2.out]; exact h20
  clear g1 g2 g3 g4 g5 g6 g7 hd hver h20 hxo
  go_upto_region 8 with (fail)
  go_wp2
  clear c_s0 c_s1 c_s2 c_s3 z_s c_x0 c_x1 z_x c_u0 c_u1 c_u2 c_u3 z_u
  have hL0 := hs_s.locks
  have hL1 := hs_u.locks
  simp only [] at hL0 hL1
  go_loopw [13, 15, 37] (fun s13 _ s37 wr => ∃ (j : Nat) (ys : List LkV) (ao : Option Addr) (cp : Nat), s37 = .int .i64 (j : Int) ∧ s13 = .slice ao ys.length cp ∧ j ≤ sn1 ∧ ys.length ≤ j ∧ Hid (ys = (sxl.take j).filter (fun k => !(ofT (N0, N1) k))) ∧ wr.ownsRow X6.heap.size 42 6 (.slice ao ys.length cp) ys.length (flat LkV.cells ys) ∧ Below X6.heap.size X6 wr) (fun _ _ s37 _ => sn1 - (intOf s37).toNat)
  case atStart => exact ⟨0, [], none, 0, rfl, rfl, Nat.zero_le _, Nat.le_refl _, rfl, World.ownsRow_nil _ _ _ _, Below.refl _ _⟩
  case round =>
    obtain ⟨j, ys, ao, cp, rfl, rfl, hj, hyj, hys, hown, hb⟩ := hrel
    replace bx_s := bx_s.below hb bx_s.lt
    replace bx_x := bx_x.below hb bx_x.lt
    replace bx_u := bx_u.below hb bx_u.lt
    replace hs_h := hs_h.below hb
    replace hs_s := hs_s.below hb
    replace hs_u := hs_u.below hb
    replace hbv : Below w.heap.size w wr := hbv.trans (hb.mono hbv.size)
    have c_s0 := (bx_s.c 0 (by decide)).1
    have c_s1 := (bx_s.c 1 (by decide)).1
    have c_s2 := (bx_s.c 2 (by decide)).1
    have c_s3 := (bx_s.c 3 (by decide)).1
    have z_s := bx_s.lt
    have c_x0 := (bx_x.c 0 (by decide)).1
    have c_x1 := (bx_x.c 1 (by decide)).1
    have z_x := bx_x.lt
    have c_u0 := (bx_u.c 0 (by decide)).1
    have c_u1 := (bx_u.c 1 (by decide)).1
    have c_u2 := (bx_u.c 2 (by decide)).1
    have c_u3 := (bx_u.c 3 (by decide)).1
    have z_u := bx_u.lt
    simp only [List.getD_cons_zero, List.getD_cons_succ] at c_s0 c_s1 c_s2 c_s3 c_x0 c_x1 c_u0 c_u1 c_u2 c_u3
    by_cases hlt : j < sn1
    · have hlt' : (j : Int) < (sn1 : Int) := by omega
      have hjl : j < sxl.length := by rw [l2.out]; exact hlt
      have HT : Hid ((sxl.take (j + 1)).filter (fun k => !(ofT (N0, N1) k)) = ys ++ (if (!(ofT (N0, N1) (sxl.getD j default))) = true then [sxl.getD j default] else [])) := by show _ = _; rw [hys.out]; exact filter_at hjl
      obtain ⟨b, off, rfl, zb, hc⟩ := (hL0.below hb).2.2.2.2 (by omega)
      have hcells := hc j hlt
      obtain ⟨o, eo⟩ : ∃ o, o = sxl.getD j default := ⟨_, rfl⟩
      rw [← eo] at hcells HT
      clear eo hc hys
      obtain ⟨⟨q0, q1⟩, q2, q3, q4, q5⟩ := o
      have e0 := hcells 0 (by decide)
      have e1 := hcells 1 (by decide)
      have e2 := hcells 2 (by decide)
      have e3 := hcells 3 (by decide)
      have e4 := hcells 4 (by decide)
      have e5 := hcells 5 (by decide)
      simp only [LkV.cells, List.getElem?_cons_zero, List.getElem?_cons_succ, Nat.add_zero] at e0 e1 e2 e3 e4 e5
      clear hcells
      by_cases hq : q0 = N0
      · by_cases hq1 : q1 = N1
        · subst hq hq1
          have HT' : Hid ((sxl.take (j + 1)).filter (fun k => !(ofT (q0, q1) k)) = ys) := by show _ = _; rw [HT.out, if_neg (by simp [ofT])]; simp
          clear HT
          go_wp2
          go_roundw
          case rel => exact ⟨j + 1, ys, ao, cp, by go_num, rfl, by omega, by omega, HT'.out.symm, hown.alloc _, hb.alloc hb.size _⟩
          case measure => simp [intOf]; omega
        · have hq' := hq.symm
          clear hq
          subst hq'
          have HT' : Hid ((sxl.take (j + 1)).filter (fun k => !(ofT (N0, N1) k)) = ys ++ [⟨(N0, q1), q2, q3, q4, q5⟩]) := by show _ = _; rw [HT.out, if_pos (by simp [ofT, hq1])]
          clear HT
          obtain ⟨V, hV⟩ : ∃ V : World, V = wr.alloc (.cells #[.int .i64 N0, .int .i64 q1, .int .i64 q2, .bool q3, .int .i64 q4, .int .i64 q5] 42) := ⟨_, rfl⟩
          have bVw : Below wr.heap.size wr V := by rw [hV]; exact (Below.refl _ _).alloc (Nat.le_refl _) _
          have bV : Below X6.heap.size X6 V := nT hb bVw
          have oV : V.ownsRow X6.heap.size 42 6 (.slice ao ys.length cp) ys.length (flat LkV.cells ys) := by rw [hV]; exact hown.alloc _
          have bo : BoxN V wr.heap.size 6 [.int .i64 N0, .int .i64 q1, .int .i64 q2, .bool q3, .int .i64 q4, .int .i64 q5] := by rw [hV]; exact boxn_new wr #[.int .i64 N0, .int .i64 q1, .int .i64 q2, .bool q3, .int .i64 q4, .int .i64 q5] 42 6 rfl
          have bxV := bx_x.below bVw bx_x.lt
          go_upto_region 10 with (fail)
          rw [← hV]
          clear hV e0 e1 e2 e3 e4 e5 c_s0 c_s1 c_s2 c_s3 z_s c_x0 c_x1 z_x c_u0 c_u1 c_u2 c_u3 z_u
          have k0 := (bo.c 0 (by decide)).1
          have k1 := (bo.c 1 (by decide)).1
          have k2 := (bo.c 2 (by decide)).1
          have k3 := (bo.c 3 (by decide)).1
          have k4 := (bo.c 4 (by decide)).1
          have k5 := (bo.c 5 (by decide)).1
          have zz := bo.lt
          have x0 := (bxV.c 0 (by decide)).1
          have x1 := (bxV.c 1 (by decide)).1
          have zx := bxV.lt
          simp only [List.getD_cons_zero, List.getD_cons_succ] at k0 k1 k2 k3 k4 k5 x0 x1
          have zX : X6.heap.size ≤ V.heap.size := bV.size
          have hne : ∀ m, (Value.slice ao ys.length cp).ownBlock = some m → X6.heap.size ≤ m ∧ m < V.heap.size := fun m hm => oV.lt m hm
          go_upto_region 12 with (at_builtin; refine wpList_append_lies _ (by rfl) (.tmp 45) (.tmp 47) 24 (by rfl) X6.heap.size 42 i0 (.agg #[.int .i64 0, .int .i64 0, .int .i64 0, .bool false, .int .i64 0, .int .i64 0]) 6 48 Try.underlying24 hi li0 li1 li2 rfl (by decide) (.slice ao ys.length cp) ys.length (flat LkV.cells ys) (by rfl) (oV.alloc _) ⟨V.heap.size, 0, none⟩ 1 1 (LkV.cells ⟨(N0, q1), q2, q3, q4, q5⟩) (by rfl) rfl (news_at #[.int .i64 N0, .int .i64 q1, .int .i64 q2, .bool q3, .int .i64 q4, .int .i64 q5] _ rfl) (lk_one _) (by omega) (by unfold maxLen; omega) (by omega) (by simp; omega) _ rfl ?_; intro g5 c5' w5 own5 gr5 at5 lt5)
          have hb5 : Below X6.heap.size X6 w5 := (bV.alloc bV.size _).grown gr5 (by simp; omega) (fun q hq => (hne q hq).1)
          have hO5 : w5.ownsRow X6.heap.size 42 6 (.slice (some ⟨g5, 0, none⟩) (ys.length + 1) c5') (ys.length + 1) (flat LkV.cells (ys ++ [⟨(N0, q1), q2, q3, q4, q5⟩])) := by
            rw [flat_append]
            simpa [flat] using own5
          obtain ⟨zs, ez⟩ : ∃ zs, zs = ys ++ [(⟨(N0, q1), q2, q3, q4, q5⟩ : LkV)] := ⟨_, rfl⟩
          have elz : Hid (zs.length = ys.length + 1) := by rw [ez]; show _ = _; simp
          rw [← ez] at HT' hO5
          clear ez
          go_wp2
          go_roundw
          case rel =>
            refine ⟨j + 1, zs, some ⟨g5, 0, none⟩, c5', by go_num, ?_, by omega, ?_, HT'.out.symm, ?_, hb5⟩
            · rw [elz.out]
            · rw [elz.out]; omega
            · rw [elz.out]; exact hO5
          case measure => simp [intOf]; omega
      ·
        have HT' : Hid ((sxl.take (j + 1)).filter (fun k => !(ofT (N0, N1) k)) = ys ++ [⟨(q0, q1), q2, q3, q4, q5⟩]) := by show _ = _; rw [HT.out, if_pos (by simp [ofT, hq])]
        clear HT
        obtain ⟨V, hV⟩ : ∃ V : World, V = wr.alloc (.cells #[.int .i64 q0, .int .i64 q1, .int .i64 q2, .bool q3, .int .i64 q4, .int .i64 q5] 42) := ⟨_, rfl⟩
        have bVw : Below wr.heap.size wr V := by rw [hV]; exact (Below.refl _ _).alloc (Nat.le_refl _) _
        have bV : Below X6.heap.size X6 V := nT hb bVw
        have oV : V.ownsRow X6.heap.size 42 6 (.slice ao ys.length cp) ys.length (flat LkV.cells ys) := by rw [hV]; exact hown.alloc _
        have bo : BoxN V wr.heap.size 6 [.int .i64 q0, .int .i64 q1, .int .i64 q2, .bool q3, .int .i64 q4, .int .i64 q5] := by rw [hV]; exact boxn_new wr #[.int .i64 q0, .int .i64 q1, .int .i64 q2, .bool q3, .int .i64 q4, .int .i64 q5] 42 6 rfl
        have bxV := bx_x.below bVw bx_x.lt
        go_upto_region 10 with (fail)
        rw [← hV]
        clear hV e0 e1 e2 e3 e4 e5 c_s0 c_s1 c_s2 c_s3 z_s c_x0 c_x1 z_x c_u0 c_u1 c_u2 c_u3 z_u
        have k0 := (bo.c 0 (by decide)).1
        have k1 := (bo.c 1 (by decide)).1
        have k2 := (bo.c 2 (by decide)).1
        have k3 := (bo.c 3 (by decide)).1
        have k4 := (bo.c 4 (by decide)).1
        have k5 := (bo.c 5 (by decide)).1
        have zz := bo.lt
        have x0 := (bxV.c 0 (by decide)).1
        have x1 := (bxV.c 1 (by decide)).1
        have zx := bxV.lt
        simp only [List.getD_cons_zero, List.getD_cons_succ] at k0 k1 k2 k3 k4 k5 x0 x1
        have zX : X6.heap.size ≤ V.heap.size := bV.size
        have hne : ∀ m, (Value.slice ao ys.length cp).ownBlock = some m → X6.heap.size ≤ m ∧ m < V.heap.size := fun m hm => oV.lt m hm
        go_upto_region 12 with (at_builtin; refine wpList_append_lies _ (by rfl) (.tmp 45) (.tmp 47) 24 (by rfl) X6.heap.size 42 i0 (.agg #[.int .i64 0, .int .i64 0, .int .i64 0, .bool false, .int .i64 0, .int .i64 0]) 6 48 Try.underlying24 hi li0 li1 li2 rfl (by decide) (.slice ao ys.length cp) ys.length (flat LkV.cells ys) (by rfl) (oV.alloc _) ⟨V.heap.size, 0, none⟩ 1 1 (LkV.cells ⟨(q0, q1), q2, q3, q4, q5⟩) (by rfl) rfl (news_at #[.int .i64 q0, .int .i64 q1, .int .i64 q2, .bool q3, .int .i64 q4, .int .i64 q5] _ rfl) (lk_one _) (by omega) (by unfold maxLen; omega) (by omega) (by simp; omega) _ rfl ?_; intro g5 c5' w5 own5 gr5 at5 lt5)
        have hb5 : Below X6.heap.size X6 w5 := (bV.alloc bV.size _).grown gr5 (by simp; omega) (fun q hq => (hne q hq).1)
        have hO5 : w5.ownsRow X6.heap.size 42 6 (.slice (some ⟨g5, 0, none⟩) (ys.length + 1) c5') (ys.length + 1) (flat LkV.cells (ys ++ [⟨(q0, q1), q2, q3, q4, q5⟩])) := by
          rw [flat_append]
          simpa [flat] using own5
        obtain ⟨zs, ez⟩ : ∃ zs, zs = ys ++ [(⟨(q0, q1), q2, q3, q4, q5⟩ : LkV)] := ⟨_, rfl⟩
        have elz : Hid (zs.length = ys.length + 1) := by rw [ez]; show _ = _; simp
        rw [← ez] at HT' hO5
        clear ez
        go_wp2
        go_roundw
        case rel =>
          refine ⟨j + 1, zs, some ⟨g5, 0, none⟩, c5', by go_num, ?_, by omega, ?_, HT'.out.symm, ?_, hb5⟩
          · rw [elz.out]
          · rw [elz.out]; omega
          · rw [elz.out]; exact hO5
        case measure => simp [intOf]; omega
    · obtain rfl : j = sn1 := by omega
      have HYU : Hid (ys = uxl) := by show _ = _; rw [hys.out, y4.out, List.take_of_length_le (by rw [l2.out]; exact Nat.le_refl _)]
      obtain rfl : un1 = ys.length := by rw [← l1.out, HYU.out]
      obtain ⟨hR, hN⟩ := own_isRow lk_len hown rfl
      have hRu := hs_u.locks
      simp only [] at hRu
      rw [← HYU.out] at hRu
      have hmx : ys.length ≤ 20 := by omega
      go_wp2
      clear c_s0 c_s1 c_s2 c_s3 z_s c_x0 c_x1 z_x c_u0 c_u1 c_u2 c_u3 z_u hL0 hL1 hys HYU
      rename World => wo
      go_loopw [16, 62] (fun _ s62 wr => ∃ (j : Nat), s62 = .int .i64 (j : Int) ∧ j ≤ ys.length ∧ Below wo.heap.size wo wr) (fun _ s62 _ => ys.length - (intOf s62).toNat)
      case atStart => exact ⟨0, rfl, Nat.zero_le _, Below.refl _ _⟩
      case round =>
        obtain ⟨k, rfl, hk, hb2⟩ := hrel
        have bu := bx_u.below hb2 bx_u.lt
        have u1 := (bu.c 1 (by decide)).1
        have zu := bu.lt
        simp only [List.getD_cons_zero, List.getD_cons_succ] at u1
        by_cases hlk : k < ys.length
        · have hlk' : (k : Int) < (ys.length : Int) := by omega
          obtain ⟨b1, o1, rfl, _, k1⟩ := (hR.below hb2).2.2.2.2 (by omega)
          obtain ⟨b2, o2, rfl, _, k2⟩ := (hRu.below hb2).2.2.2.2 (by omega)
          have e1 := k1 k hlk
          have e2 := k2 k hlk
          obtain ⟨z, hz⟩ : ∃ z, z = ys.getD k default := ⟨_, rfl⟩
          rw [← hz] at e1 e2
          clear hz k1 k2
          obtain ⟨⟨q0, q1⟩, q2, q3, q4, q5⟩ := z
          have x0 := e1 0 (by decide)
          have y0 := e2 0 (by decide)
          have x1 := e1 1 (by decide)
          have y1 := e2 1 (by decide)
          have x2 := e1 2 (by decide)
          have y2 := e2 2 (by decide)
          have x3 := e1 3 (by decide)
          have y3 := e2 3 (by decide)
          have x4 := e1 4 (by decide)
          have y4 := e2 4 (by decide)
          have x5 := e1 5 (by decide)
          have y5 := e2 5 (by decide)
          simp only [LkV.cells, List.getElem?_cons_zero, List.getElem?_cons_succ, Nat.add_zero] at x0 y0 x1 y1 x2 y2 x3 y3 x4 y4 x5 y5
          clear e1 e2
          go_wp2
          go_quiet (fail)
          go_wp2
          go_roundw
          case rel => exact ⟨k + 1, by go_num, by omega, below_drewN hb2 nq⟩
          case measure => simp [intOf]; omega
        · obtain rfl : k = ys.length := by omega
          go_wp2
          go_ret
          exact ⟨rfl, hbv.trans (hb2.mono hbv.size)⟩
end Go.Proofs.Ytbmbahifkegehab
