/- The walk of the law WriteAlone. -/
import Derived.Test.YtbmbahifkegehaaSKStore
import Derived.Test.YtbmbahifkegehaaSKPeek
import Derived.Test.YtbmbahifkegehaaSKCnt
namespace Go.Proofs.Ytbmbahifkegehaa
open Go.ChangeShapes Go.WideShapes Go.ChangeAt Go.RowKit St
set_option linter.unusedVariables false

set_option maxRecDepth 100000 in
set_option maxHeartbeats 4000000 in
theorem writeAlone_walk (a : Option Addr) (len cap : Nat) (rs : List RV) (x y key value : Int) (w : World) (h : IsRaws w a len cap rs) (hx : (Lit.int .i64 x).wf = true) (hy : (Lit.int .i64 y).wf = true) (hkey : (Lit.int .i64 key).wf = true) (hval : (Lit.int .i64 value).wf = true) :
    Calls Try.prog 6 #[.slice a len cap, .int .i64 x, .int .i64 y, .int .i64 key, .int .i64 value] w fun e w' => e = .returned (.bool true) ∧ Below w.heap.size w w' := by
  have wx := i64_bd hx
  have wy := i64_bd hy
  have wk := i64_bd hkey
  have wv := i64_bd hval
  clear hx hy hkey hval
  have hbv : Below w.heap.size w w := Below.refl _ _
  have b1 := pk_bd x 9 (by decide)
  have b2 := pk_bd y 9 (by decide)
  have b8 := pk_bd key 8 (by decide)
  have bv := pk_bd value 1073741824 (by decide)
  have hw1 : IntKind.i64.wrap (1 + pk x 9) = 1 + pk x 9 := by apply wrap_in <;> omega
  have hw2 : IntKind.i64.wrap (1 + pk y 9) = 1 + pk y 9 := by apply wrap_in <;> omega
  have hSt := store_made a len cap rs 30 w h (by decide)
  go_enter Try.func6, Try.ntmps6
  go_upto_region 2 with ((go_at_call 13; refine (hSt).mono ?_; rintro e w1 ⟨⟨sa0, sn0, sc0, sa1, sn1, sc1, sa2, sn2, sc2, sa3, sn3, sc3, sxi, sxl, sxd, sxo⟩, rfl, hO, hG, hb1⟩; simp only [SV.val]; replace hbv : Below w.heap.size w w1 := hbv.trans (hb1.mono hbv.size); have hs_s := hO.isStore))
  clear hSt hO
  obtain ⟨X2, eX2⟩ : ∃ X : World, X = w1.alloc (.cells #[.slice sa0 sn0 sc0, .slice sa1 sn1 sc1, .slice sa2 sn2 sc2, .slice sa3 sn3 sc3] 27) := ⟨_, rfl⟩
  have bX2 : Below w1.heap.size w1 X2 := by rw [eX2]; exact (Below.refl _ _).alloc (Nat.le_refl _) _
  have bx_s : BoxN X2 w1.heap.size 4 [.slice sa0 sn0 sc0, .slice sa1 sn1 sc1, .slice sa2 sn2 sc2, .slice sa3 sn3 sc3] := by rw [eX2]; exact boxn_new w1 #[.slice sa0 sn0 sc0, .slice sa1 sn1 sc1, .slice sa2 sn2 sc2, .slice sa3 sn3 sc3] 27 4 rfl
  rw [← eX2]
  obtain ⟨m_s, em_s⟩ : ∃ m, m = w1.heap.size := ⟨_, rfl⟩
  rw [← em_s] at bx_s ⊢
  clear em_s eX2
  replace hs_s := hs_s.below bX2
  replace hbv : Below w.heap.size w X2 := hbv.trans (bX2.mono hbv.size)
  have c_s0 := (bx_s.c 0 (by decide)).1
  have c_s1 := (bx_s.c 1 (by decide)).1
  have c_s2 := (bx_s.c 2 (by decide)).1
  have c_s3 := (bx_s.c 3 (by decide)).1
  have z_s := bx_s.lt
  simp only [List.getD_cons_zero, List.getD_cons_succ] at c_s0 c_s1 c_s2 c_s3
  go_upto_region 3 with ((go_at_call 16; refine (picked_any _ _ _ (by assumption) (by decide) (by decide)).mono ?_; rintro e u ⟨rfl, hu⟩; rw [hu]; clear hu))
  obtain ⟨X3, eX3⟩ : ∃ X : World, X = X2.alloc (.cells #[.int .i64 2, .int .i64 (1 + pk x 9)] 29) := ⟨_, rfl⟩
  have bX3 : Below X2.heap.size X2 X3 := by rw [eX3]; exact (Below.refl _ _).alloc (Nat.le_refl _) _
  have bx_x : BoxN X3 X2.heap.size 2 [.int .i64 2, .int .i64 (1 + pk x 9)] := by rw [eX3]; exact boxn_new X2 #[.int .i64 2, .int .i64 (1 + pk x 9)] 29 2 rfl
  rw [← eX3]
  obtain ⟨m_x, em_x⟩ : ∃ m, m = X2.heap.size := ⟨_, rfl⟩
  rw [← em_x] at bx_x ⊢
  clear em_x eX3
  replace bx_s := bx_s.below bX3 bx_s.lt
  replace hs_s := hs_s.below bX3
  replace hbv : Below w.heap.size w X3 := hbv.trans (bX3.mono hbv.size)
  clear c_s0 c_s1 c_s2 c_s3 z_s
  have c_s0 := (bx_s.c 0 (by decide)).1
  have c_s1 := (bx_s.c 1 (by decide)).1
  have c_s2 := (bx_s.c 2 (by decide)).1
  have c_s3 := (bx_s.c 3 (by decide)).1
  have z_s := bx_s.lt
  have c_x0 := (bx_x.c 0 (by decide)).1
  have c_x1 := (bx_x.c 1 (by decide)).1
  have z_x := bx_x.lt
  simp only [List.getD_cons_zero, List.getD_cons_succ] at c_s0 c_s1 c_s2 c_s3 c_x0 c_x1
  go_upto_region 4 with ((go_at_call 16; refine (picked_any _ _ _ (by assumption) (by decide) (by decide)).mono ?_; rintro e u ⟨rfl, hu⟩; rw [hu]; clear hu))
  obtain ⟨X4, eX4⟩ : ∃ X : World, X = X3.alloc (.cells #[.int .i64 3, .int .i64 (1 + pk y 9)] 29) := ⟨_, rfl⟩
  have bX4 : Below X3.heap.size X3 X4 := by rw [eX4]; exact (Below.refl _ _).alloc (Nat.le_refl _) _
  have bx_y : BoxN X4 X3.heap.size 2 [.int .i64 3, .int .i64 (1 + pk y 9)] := by rw [eX4]; exact boxn_new X3 #[.int .i64 3, .int .i64 (1 + pk y 9)] 29 2 rfl
  rw [← eX4]
  obtain ⟨m_y, em_y⟩ : ∃ m, m = X3.heap.size := ⟨_, rfl⟩
  rw [← em_y] at bx_y ⊢
  clear em_y eX4
  replace bx_s := bx_s.below bX4 bx_s.lt
  replace bx_x := bx_x.below bX4 bx_x.lt
  replace hs_s := hs_s.below bX4
  replace hbv : Below w.heap.size w X4 := hbv.trans (bX4.mono hbv.size)
  clear c_s0 c_s1 c_s2 c_s3 z_s c_x0 c_x1 z_x
  have c_s0 := (bx_s.c 0 (by decide)).1
  have c_s1 := (bx_s.c 1 (by decide)).1
  have c_s2 := (bx_s.c 2 (by decide)).1
  have c_s3 := (bx_s.c 3 (by decide)).1
  have z_s := bx_s.lt
  have c_x0 := (bx_x.c 0 (by decide)).1
  have c_x1 := (bx_x.c 1 (by decide)).1
  have z_x := bx_x.lt
  have c_y0 := (bx_y.c 0 (by decide)).1
  have c_y1 := (bx_y.c 1 (by decide)).1
  have z_y := bx_y.lt
  simp only [List.getD_cons_zero, List.getD_cons_succ] at c_s0 c_s1 c_s2 c_s3 c_x0 c_x1 c_y0 c_y1
  go_upto_region 6 with ((go_at_call 16; refine (picked_any _ _ _ (by assumption) (by decide) (by decide)).mono ?_; rintro e u ⟨rfl, hu⟩; rw [hu]; clear hu))
  have h20 : sxl.length ≤ 20 := hG.locks20
  have hF : Fresh (SV.data ⟨sa0, sn0, sc0, sa1, sn1, sc1, sa2, sn2, sc2, sa3, sn3, sc3, sxi, sxl, sxd, sxo⟩) (2, 1 + pk x 9) := hG.fresh (by decide) (by decide) (by omega) (by omega)
  have hFy : Fresh (SV.data ⟨sa0, sn0, sc0, sa1, sn1, sc1, sa2, sn2, sc2, sa3, sn3, sc3, sxi, sxl, sxd, sxo⟩) (3, 1 + pk y 9) := hG.fresh (by decide) (by decide) (by omega) (by omega)
  obtain ⟨N1, eN1⟩ : ∃ N, N = 1 + pk x 9 := ⟨_, rfl⟩
  rw [← eN1] at hF hw1 bx_x c_x1 ⊢
  obtain ⟨N2, eN2⟩ : ∃ N, N = 1 + pk y 9 := ⟨_, rfl⟩
  rw [← eN2] at hFy hw2 bx_y c_y1 ⊢
  obtain ⟨K, eK⟩ : ∃ K, K = pk key 8 := ⟨_, rfl⟩
  rw [← eK] at b8 ⊢
  obtain ⟨V, eV⟩ : ∃ V, V = pk value 1073741824 := ⟨_, rfl⟩
  rw [← eV] at bv ⊢
  clear eN1 eN2 eK eV hw1 hw2 b1 b2 wx wy wk wv
  have hk : inR K 0 7 = true := inR_true b8.1 (by omega)
  have hv : inR V 0 1073741824 = true := inR_true bv.1 (by omega)
  clear b8 bv
  have hCs := fun w' h1 => check_any ⟨sa0, sn0, sc0, sa1, sn1, sc1, sa2, sn2, sc2, sa3, sn3, sc3, sxi, sxl, sxd, sxo⟩ w' h1 hG.wf
  simp only [hG.ok.ok, SV.val, if_true] at hCs
  have hver : ∀ y ∈ sxi, y.version ≤ 1048000 := fun y hy => by have := hG.ver y hy; omega
  have hwt := write_fresh (s := ⟨sa0, sn0, sc0, sa1, sn1, sc1, sa2, sn2, sc2, sa3, sn3, sc3, sxi, sxl, sxd, sxo⟩) (k := K) (va := V) (ask := 1) hG.ok (by show sxl.length ≤ 22; omega) hF hk hv (by decide) hver
  have hWr := fun w' h1 => write_own ⟨sa0, sn0, sc0, sa1, sn1, sc1, sa2, sn2, sc2, sa3, sn3, sc3, sxi, sxl, sxd, sxo⟩ (2, N1) K V 1 w' h1 hG.wf (hG.h4 h1)
  have HOT : Hid (∀ t ∈ sxo, TxWf t) := hG.wf
  have HOL : Hid (sxo.length ≤ 4) := hG.over4
  have hl0 : Hid (sxl.length = sn1) := hs_s.locks.1
  have hn20 : sn1 ≤ 20 := by have := hl0.out; omega
  cases hA : sxl.any (othT (2, N1) K) with
  | true =>
    have q1 := hwt.1 hA
    simp only [q1, SV.val] at hWr
    have HPOS : Hid (0 < (sxl.filter (fun o => decide (o.key = K))).length) := by
      obtain ⟨o, ho, e⟩ := List.any_eq_true.1 hA
      simp only [othT, Bool.and_eq_true, decide_eq_true_eq] at e
      exact List.length_pos_of_mem (List.mem_filter.2 ⟨ho, by simp [e.2]⟩)
    clear q1 hwt hA hF hFy hver hk hv
    go_upto_region 7 with ((go_at_call 20; refine (hWr _ hs_s).mono ?_; rintro e w5 ⟨⟨ua0, un0, uc0, ua1, un1, uc1, ua2, un2, uc2, ua3, un3, uc3, uxi, uxl, uxd, uxo⟩, rfl, hO, hd, hb5⟩; simp only []; replace bx_s := bx_s.below hb5 bx_s.lt; replace bx_x := bx_x.below hb5 bx_x.lt; replace bx_y := bx_y.below hb5 bx_y.lt; replace hs_s := hs_s.below hb5; replace hbv : Below w.heap.size w w5 := hbv.trans (hb5.mono hbv.size); clear c_s0 c_s1 c_s2 c_s3 z_s c_x0 c_x1 z_x c_y0 c_y1 z_y; have c_s0 := (bx_s.c 0 (by decide)).1; have c_s1 := (bx_s.c 1 (by decide)).1; have c_s2 := (bx_s.c 2 (by decide)).1; have c_s3 := (bx_s.c 3 (by decide)).1; have z_s := bx_s.lt; have c_x0 := (bx_x.c 0 (by decide)).1; have c_x1 := (bx_x.c 1 (by decide)).1; have z_x := bx_x.lt; have c_y0 := (bx_y.c 0 (by decide)).1; have c_y1 := (bx_y.c 1 (by decide)).1; have z_y := bx_y.lt; simp only [List.getD_cons_zero, List.getD_cons_succ] at c_s0 c_s1 c_s2 c_s3 c_x0 c_x1 c_y0 c_y1))
    clear hWr hO hd
    obtain ⟨X6, eX6⟩ : ∃ X : World, X = w5.alloc (.cells #[.slice ua0 un0 uc0, .slice ua1 un1 uc1, .slice ua2 un2 uc2, .slice ua3 un3 uc3] 27) := ⟨_, rfl⟩
    have bX6 : Below w5.heap.size w5 X6 := by rw [eX6]; exact (Below.refl _ _).alloc (Nat.le_refl _) _
    have bx_u : BoxN X6 w5.heap.size 4 [.slice ua0 un0 uc0, .slice ua1 un1 uc1, .slice ua2 un2 uc2, .slice ua3 un3 uc3] := by rw [eX6]; exact boxn_new w5 #[.slice ua0 un0 uc0, .slice ua1 un1 uc1, .slice ua2 un2 uc2, .slice ua3 un3 uc3] 27 4 rfl
    rw [← eX6]
    obtain ⟨m_u, em_u⟩ : ∃ m, m = w5.heap.size := ⟨_, rfl⟩
    rw [← em_u] at bx_u ⊢
    clear em_u eX6
    replace bx_s := bx_s.below bX6 bx_s.lt
    replace bx_x := bx_x.below bX6 bx_x.lt
    replace bx_y := bx_y.below bX6 bx_y.lt
    replace hs_s := hs_s.below bX6
    replace hbv : Below w.heap.size w X6 := hbv.trans (bX6.mono hbv.size)
    clear c_s0 c_s1 c_s2 c_s3 z_s c_x0 c_x1 z_x c_y0 c_y1 z_y
    have c_s0 := (bx_s.c 0 (by decide)).1
    have c_s1 := (bx_s.c 1 (by decide)).1
    have c_s2 := (bx_s.c 2 (by decide)).1
    have c_s3 := (bx_s.c 3 (by decide)).1
    have z_s := bx_s.lt
    have c_x0 := (bx_x.c 0 (by decide)).1
    have c_x1 := (bx_x.c 1 (by decide)).1
    have z_x := bx_x.lt
    have c_y0 := (bx_y.c 0 (by decide)).1
    have c_y1 := (bx_y.c 1 (by decide)).1
    have z_y := bx_y.lt
    have c_u0 := (bx_u.c 0 (by decide)).1
    have c_u1 := (bx_u.c 1 (by decide)).1
    have c_u2 := (bx_u.c 2 (by decide)).1
    have c_u3 := (bx_u.c 3 (by decide)).1
    have z_u := bx_u.lt
    simp only [List.getD_cons_zero, List.getD_cons_succ] at c_s0 c_s1 c_s2 c_s3 c_x0 c_x1 c_y0 c_y1 c_u0 c_u1 c_u2 c_u3
    go_upto_region 12 with ((go_at_call 15; refine (hCs _ hs_s).mono ?_; rintro e w7 ⟨rfl, hb7⟩; replace bx_s := bx_s.below hb7 bx_s.lt; replace bx_x := bx_x.below hb7 bx_x.lt; replace bx_y := bx_y.below hb7 bx_y.lt; replace bx_u := bx_u.below hb7 bx_u.lt; replace hs_s := hs_s.below hb7; replace hbv : Below w.heap.size w w7 := hbv.trans (hb7.mono hbv.size); clear c_s0 c_s1 c_s2 c_s3 z_s c_x0 c_x1 z_x c_y0 c_y1 z_y c_u0 c_u1 c_u2 c_u3 z_u; have c_s0 := (bx_s.c 0 (by decide)).1; have c_s1 := (bx_s.c 1 (by decide)).1; have c_s2 := (bx_s.c 2 (by decide)).1; have c_s3 := (bx_s.c 3 (by decide)).1; have z_s := bx_s.lt; have c_x0 := (bx_x.c 0 (by decide)).1; have c_x1 := (bx_x.c 1 (by decide)).1; have z_x := bx_x.lt; have c_y0 := (bx_y.c 0 (by decide)).1; have c_y1 := (bx_y.c 1 (by decide)).1; have z_y := bx_y.lt; have c_u0 := (bx_u.c 0 (by decide)).1; have c_u1 := (bx_u.c 1 (by decide)).1; have c_u2 := (bx_u.c 2 (by decide)).1; have c_u3 := (bx_u.c 3 (by decide)).1; have z_u := bx_u.lt; simp only [List.getD_cons_zero, List.getD_cons_succ] at c_s0 c_s1 c_s2 c_s3 c_x0 c_x1 c_y0 c_y1 c_u0 c_u1 c_u2 c_u3))
    go_wp2
    have hL0 := hs_s.locks
    simp only [] at hL0
    clear hCs hG c_s0 c_s1 c_s2 c_s3 z_s c_x0 c_x1 z_x c_y0 c_y1 z_y c_u0 c_u1 c_u2 c_u3 z_u bx_s bx_x bx_y bx_u hs_s
    go_loopw [18, 20, 66] (fun s18 _ s66 wr => ∃ (j n : Nat), s66 = .int .i64 (j : Int) ∧ s18 = .int .i64 (n : Int) ∧ j ≤ sn1 ∧ n ≤ j ∧ Hid (n = ((sxl.take j).filter (fun o => decide (o.key = K))).length) ∧ Below w7.heap.size w7 wr) (fun _ _ s66 _ => sn1 - (intOf s66).toNat)
    case atStart => exact ⟨0, 0, rfl, rfl, Nat.zero_le _, Nat.le_refl _, rfl, Below.refl _ _⟩
    case round =>
      obtain ⟨j, n, rfl, rfl, hj, hnj, hn, hb⟩ := hrel
      by_cases hlt : j < sn1
      · have hlt' : (j : Int) < (sn1 : Int) := by omega
        obtain ⟨b, off, rfl, zb, hc⟩ := (hL0.below hb).2.2.2.2 (by omega)
        have hcells := hc j hlt
        have HT : Hid (((sxl.take (j + 1)).filter (fun o => decide (o.key = K))).length = n + (if (sxl.getD j default).key = K then 1 else 0)) := by
          show _ = _
          rw [filter_at (by rw [hl0.out]; exact hlt), hn.out, List.length_append]
          congr 1
          by_cases e : (sxl.getD j default).key = K <;> simp only [e, decide_true, decide_false, if_true, if_false, List.length_cons, List.length_nil, Bool.false_eq_true]
        obtain ⟨o, eo⟩ : ∃ o, o = sxl.getD j default := ⟨_, rfl⟩
        rw [← eo] at hcells HT
        clear eo hc
        obtain ⟨⟨q0, q1⟩, q2, q3, q4, q5⟩ := o
        have e0 := hcells 0 (by decide)
        have e1 := hcells 1 (by decide)
        have e2 := hcells 2 (by decide)
        have e3 := hcells 3 (by decide)
        have e4 := hcells 4 (by decide)
        have e5 := hcells 5 (by decide)
        simp only [LkV.cells, List.getElem?_cons_zero, List.getElem?_cons_succ, Nat.add_zero] at e0 e1 e2 e3 e4 e5
        simp only [] at HT
        clear hcells
        by_cases hq : q2 = K
        · subst hq
          have HT' : Hid (((sxl.take (j + 1)).filter (fun o => decide (o.key = q2))).length = n + 1) := by show _ = _; rw [HT.out, if_pos rfl]
          go_wp2
          go_roundw
          case rel => exact ⟨j + 1, n + 1, by go_num, by go_num, by omega, by omega, HT'.out.symm, by first | exact hb.alloc hb.size _ | exact hb⟩
          case measure => simp [intOf]; omega
        · have HT' : Hid (((sxl.take (j + 1)).filter (fun o => decide (o.key = K))).length = n) := by show _ = _; rw [HT.out, if_neg hq]; rfl
          go_wp2
          go_roundw
          case rel => exact ⟨j + 1, n, by go_num, rfl, by omega, by omega, HT'.out.symm, by first | exact hb.alloc hb.size _ | exact hb⟩
          case measure => simp [intOf]; omega
      · obtain rfl : j = sn1 := by omega
        have hpos : (0 : Int) < (n : Int) := by
          have h1 := HPOS.out
          have h2 := hn.out
          rw [List.take_of_length_le (by rw [hl0.out]; exact Nat.le_refl _)] at h2
          omega
        have hpos' : 0 < n := by omega
        go_wp2
        go_ret
        exact ⟨rfl, hbv.trans (hb.mono hbv.size)⟩
  | false =>
    obtain ⟨q1, q4⟩ := hwt.2 hA
    have hok2 := write_ok q1
    simp only [q1, SV.val] at hWr
    clear q1 hwt hA hG
    go_upto_region 7 with ((go_at_call 20; refine (hWr _ hs_s).mono ?_; rintro e w5 ⟨⟨ua0, un0, uc0, ua1, un1, uc1, ua2, un2, uc2, ua3, un3, uc3, uxi, uxl, uxd, uxo⟩, rfl, hO, hd, hb5⟩; simp only []; replace bx_s := bx_s.below hb5 bx_s.lt; replace bx_x := bx_x.below hb5 bx_x.lt; replace bx_y := bx_y.below hb5 bx_y.lt; replace hs_s := hs_s.below hb5; replace hbv : Below w.heap.size w w5 := hbv.trans (hb5.mono hbv.size); have hs_u := hO.isStore; clear c_s0 c_s1 c_s2 c_s3 z_s c_x0 c_x1 z_x c_y0 c_y1 z_y; have c_s0 := (bx_s.c 0 (by decide)).1; have c_s1 := (bx_s.c 1 (by decide)).1; have c_s2 := (bx_s.c 2 (by decide)).1; have c_s3 := (bx_s.c 3 (by decide)).1; have z_s := bx_s.lt; have c_x0 := (bx_x.c 0 (by decide)).1; have c_x1 := (bx_x.c 1 (by decide)).1; have z_x := bx_x.lt; have c_y0 := (bx_y.c 0 (by decide)).1; have c_y1 := (bx_y.c 1 (by decide)).1; have z_y := bx_y.lt; simp only [List.getD_cons_zero, List.getD_cons_succ] at c_s0 c_s1 c_s2 c_s3 c_x0 c_x1 c_y0 c_y1))
    clear hWr hO
    obtain ⟨X6, eX6⟩ : ∃ X : World, X = w5.alloc (.cells #[.slice ua0 un0 uc0, .slice ua1 un1 uc1, .slice ua2 un2 uc2, .slice ua3 un3 uc3] 27) := ⟨_, rfl⟩
    have bX6 : Below w5.heap.size w5 X6 := by rw [eX6]; exact (Below.refl _ _).alloc (Nat.le_refl _) _
    have bx_u : BoxN X6 w5.heap.size 4 [.slice ua0 un0 uc0, .slice ua1 un1 uc1, .slice ua2 un2 uc2, .slice ua3 un3 uc3] := by rw [eX6]; exact boxn_new w5 #[.slice ua0 un0 uc0, .slice ua1 un1 uc1, .slice ua2 un2 uc2, .slice ua3 un3 uc3] 27 4 rfl
    rw [← eX6]
    obtain ⟨m_u, em_u⟩ : ∃ m, m = w5.heap.size := ⟨_, rfl⟩
    rw [← em_u] at bx_u ⊢
    clear em_u eX6
    replace bx_s := bx_s.below bX6 bx_s.lt
    replace bx_x := bx_x.below bX6 bx_x.lt
    replace bx_y := bx_y.below bX6 bx_y.lt
    replace hs_s := hs_s.below bX6
    replace hs_u := hs_u.below bX6
    replace hbv : Below w.heap.size w X6 := hbv.trans (bX6.mono hbv.size)
    clear c_s0 c_s1 c_s2 c_s3 z_s c_x0 c_x1 z_x c_y0 c_y1 z_y
    have c_s0 := (bx_s.c 0 (by decide)).1
    have c_s1 := (bx_s.c 1 (by decide)).1
    have c_s2 := (bx_s.c 2 (by decide)).1
    have c_s3 := (bx_s.c 3 (by decide)).1
    have z_s := bx_s.lt
    have c_x0 := (bx_x.c 0 (by decide)).1
    have c_x1 := (bx_x.c 1 (by decide)).1
    have z_x := bx_x.lt
    have c_y0 := (bx_y.c 0 (by decide)).1
    have c_y1 := (bx_y.c 1 (by decide)).1
    have z_y := bx_y.lt
    have c_u0 := (bx_u.c 0 (by decide)).1
    have c_u1 := (bx_u.c 1 (by decide)).1
    have c_u2 := (bx_u.c 2 (by decide)).1
    have c_u3 := (bx_u.c 3 (by decide)).1
    have z_u := bx_u.lt
    simp only [List.getD_cons_zero, List.getD_cons_succ] at c_s0 c_s1 c_s2 c_s3 c_x0 c_x1 c_y0 c_y1 c_u0 c_u1 c_u2 c_u3
    go_upto_region 18 with ((go_at_call 15; refine (hCs _ hs_s).mono ?_; rintro e w7 ⟨rfl, hb7⟩; replace bx_s := bx_s.below hb7 bx_s.lt; replace bx_x := bx_x.below hb7 bx_x.lt; replace bx_y := bx_y.below hb7 bx_y.lt; replace bx_u := bx_u.below hb7 bx_u.lt; replace hs_s := hs_s.below hb7; replace hs_u := hs_u.below hb7; replace hbv : Below w.heap.size w w7 := hbv.trans (hb7.mono hbv.size); clear c_s0 c_s1 c_s2 c_s3 z_s c_x0 c_x1 z_x c_y0 c_y1 z_y c_u0 c_u1 c_u2 c_u3 z_u; have c_s0 := (bx_s.c 0 (by decide)).1; have c_s1 := (bx_s.c 1 (by decide)).1; have c_s2 := (bx_s.c 2 (by decide)).1; have c_s3 := (bx_s.c 3 (by decide)).1; have z_s := bx_s.lt; have c_x0 := (bx_x.c 0 (by decide)).1; have c_x1 := (bx_x.c 1 (by decide)).1; have z_x := bx_x.lt; have c_y0 := (bx_y.c 0 (by decide)).1; have c_y1 := (bx_y.c 1 (by decide)).1; have z_y := bx_y.lt; have c_u0 := (bx_u.c 0 (by decide)).1; have c_u1 := (bx_u.c 1 (by decide)).1; have c_u2 := (bx_u.c 2 (by decide)).1; have c_u3 := (bx_u.c 3 (by decide)).1; have z_u := bx_u.lt; simp only [List.getD_cons_zero, List.getD_cons_succ] at c_s0 c_s1 c_s2 c_s3 c_x0 c_x1 c_y0 c_y1 c_u0 c_u1 c_u2 c_u3))
    clear hCs
    rw [← hd] at hok2
    rw [q4] at hd
    clear q4
    have hP : Plus (SV.data ⟨sa0, sn0, sc0, sa1, sn1, sc1, sa2, sn2, sc2, sa3, sn3, sc3, sxi, sxl, sxd, sxo⟩) (SV.data ⟨ua0, un0, uc0, ua1, un1, uc1, ua2, un2, uc2, ua3, un3, uc3, uxi, uxl, uxd, uxo⟩) ⟨(2, N1), K, true, V, 1⟩ := Plus.of hd
    have hdo : uxo = sxo := hP.over
    have hdl : uxl = sxl ++ [⟨(2, N1), K, true, V, 1⟩] := hP.locks
    have hdi : uxi = sxi := hP.items
    have hwfu : ∀ t ∈ uxo, TxWf t := by rw [hdo]; exact HOT.out
    have h4u : un3 * 16 ≤ 140737488351232 := by
      have e1 : uxo.length = un3 := hs_u.over.1
      have := HOL.out
      rw [hdo] at e1
      omega
    have hu22 : uxl.length ≤ 22 := by rw [hdl]; simp; omega
    have hFu := hP.fresh hFy (by simp)
    obtain ⟨w1, w2⟩ := wr_plus (u := ⟨ua0, un0, uc0, ua1, un1, uc1, ua2, un2, uc2, ua3, un3, uc3, uxi, uxl, uxd, uxo⟩) hP
    have w3 := w2 (3, N2) (by simp)
    obtain ⟨q1, q2, q3⟩ := (read_fresh (s := ⟨ua0, un0, uc0, ua1, un1, uc1, ua2, un2, uc2, ua3, un3, uc3, uxi, uxl, uxd, uxo⟩) (k := K) hok2 hu22 hFu hk).1 w1
    have y1 := (write_fresh (s := ⟨ua0, un0, uc0, ua1, un1, uc1, ua2, un2, uc2, ua3, un3, uc3, uxi, uxl, uxd, uxo⟩) (k := K) (va := V) (ask := 1) hok2 hu22 hFu hk hv (by decide) (by show ∀ y ∈ uxi, y.version ≤ 1048000; rw [hdi]; exact hver)).1 w3
    obtain ⟨p1, p2, p3⟩ := (peek_is (s := ⟨ua0, un0, uc0, ua1, un1, uc1, ua2, un2, uc2, ua3, un3, uc3, uxi, uxl, uxd, uxo⟩) hok2 hk).1 w1
    obtain ⟨r1, r2, r3, r4⟩ := read_again hF hP hok2 hk
    obtain ⟨t1, t2⟩ := cnt_plus hF hP hok2
    have hRy := fun w' h1 => read_own ⟨ua0, un0, uc0, ua1, un1, uc1, ua2, un2, uc2, ua3, un3, uc3, uxi, uxl, uxd, uxo⟩ (3, N2) K w' h1 hwfu h4u
    have hWy := fun w' h1 => write_own ⟨ua0, un0, uc0, ua1, un1, uc1, ua2, un2, uc2, ua3, un3, uc3, uxi, uxl, uxd, uxo⟩ (3, N2) K V 1 w' h1 hwfu h4u
    have hPu := fun w' h1 => peek_any ⟨ua0, un0, uc0, ua1, un1, uc1, ua2, un2, uc2, ua3, un3, uc3, uxi, uxl, uxd, uxo⟩ K w' h1 hwfu
    have hRx := fun w' h1 => read_own ⟨ua0, un0, uc0, ua1, un1, uc1, ua2, un2, uc2, ua3, un3, uc3, uxi, uxl, uxd, uxo⟩ (2, N1) K w' h1 hwfu h4u
    have hCt := fun w' h1 => writes_count ⟨ua0, un0, uc0, ua1, un1, uc1, ua2, un2, uc2, ua3, un3, uc3, uxi, uxl, uxd, uxo⟩ (2, N1) w' h1 hwfu
    have hCu := fun w' h1 => check_any ⟨ua0, un0, uc0, ua1, un1, uc1, ua2, un2, uc2, ua3, un3, uc3, uxi, uxl, uxd, uxo⟩ w' h1 hwfu
    simp only [q1, q2, q3, SV.val] at hRy
    simp only [y1, SV.val] at hWy
    simp only [p1, p2, p3, SV.val] at hPu
    simp only [r1, r2, if_true, SV.val] at hRx
    simp only [t1, t2, SV.val] at hCt
    simp only [hok2.ok, SV.val, if_true] at hCu
    clear q1 q2 q3 y1 p1 p2 p3 r1 r2 r3 r4 t1 t2 w1 w2 w3 hP hd hok2 hF hFy hFu hdo hdl hdi hwfu h4u hu22 hver hk hv
    go_upto_region 19 with ((go_at_call 14; refine (hRy _ hs_u).mono ?_; rintro e w8 ⟨⟨va0, vn0, vc0, va1, vn1, vc1, va2, vn2, vc2, va3, vn3, vc3, vxi, vxl, vxd, vxo⟩, rfl, hO, hd, hb8⟩; simp only []; replace bx_s := bx_s.below hb8 bx_s.lt; replace bx_x := bx_x.below hb8 bx_x.lt; replace bx_y := bx_y.below hb8 bx_y.lt; replace bx_u := bx_u.below hb8 bx_u.lt; replace hs_s := hs_s.below hb8; replace hs_u := hs_u.below hb8; replace hbv : Below w.heap.size w w8 := hbv.trans (hb8.mono hbv.size); clear c_s0 c_s1 c_s2 c_s3 z_s c_x0 c_x1 z_x c_y0 c_y1 z_y c_u0 c_u1 c_u2 c_u3 z_u; have c_s0 := (bx_s.c 0 (by decide)).1; have c_s1 := (bx_s.c 1 (by decide)).1; have c_s2 := (bx_s.c 2 (by decide)).1; have c_s3 := (bx_s.c 3 (by decide)).1; have z_s := bx_s.lt; have c_x0 := (bx_x.c 0 (by decide)).1; have c_x1 := (bx_x.c 1 (by decide)).1; have z_x := bx_x.lt; have c_y0 := (bx_y.c 0 (by decide)).1; have c_y1 := (bx_y.c 1 (by decide)).1; have z_y := bx_y.lt; have c_u0 := (bx_u.c 0 (by decide)).1; have c_u1 := (bx_u.c 1 (by decide)).1; have c_u2 := (bx_u.c 2 (by decide)).1; have c_u3 := (bx_u.c 3 (by decide)).1; have z_u := bx_u.lt; simp only [List.getD_cons_zero, List.getD_cons_succ] at c_s0 c_s1 c_s2 c_s3 c_x0 c_x1 c_y0 c_y1 c_u0 c_u1 c_u2 c_u3))
    clear hRy hO hd
    obtain ⟨X9, eX9⟩ : ∃ X : World, X = w8.alloc (.cells #[.slice va0 vn0 vc0, .slice va1 vn1 vc1, .slice va2 vn2 vc2, .slice va3 vn3 vc3] 27) := ⟨_, rfl⟩
    have bX9 : Below w8.heap.size w8 X9 := by rw [eX9]; exact (Below.refl _ _).alloc (Nat.le_refl _) _
    have bx_v : BoxN X9 w8.heap.size 4 [.slice va0 vn0 vc0, .slice va1 vn1 vc1, .slice va2 vn2 vc2, .slice va3 vn3 vc3] := by rw [eX9]; exact boxn_new w8 #[.slice va0 vn0 vc0, .slice va1 vn1 vc1, .slice va2 vn2 vc2, .slice va3 vn3 vc3] 27 4 rfl
    rw [← eX9]
    obtain ⟨m_v, em_v⟩ : ∃ m, m = w8.heap.size := ⟨_, rfl⟩
    rw [← em_v] at bx_v ⊢
    clear em_v eX9
    replace bx_s := bx_s.below bX9 bx_s.lt
    replace bx_x := bx_x.below bX9 bx_x.lt
    replace bx_y := bx_y.below bX9 bx_y.lt
    replace bx_u := bx_u.below bX9 bx_u.lt
    replace hs_s := hs_s.below bX9
    replace hs_u := hs_u.below bX9
    replace hbv : Below w.heap.size w X9 := hbv.trans (bX9.mono hbv.size)
    clear c_s0 c_s1 c_s2 c_s3 z_s c_x0 c_x1 z_x c_y0 c_y1 z_y c_u0 c_u1 c_u2 c_u3 z_u
    have c_s0 := (bx_s.c 0 (by decide)).1
    have c_s1 := (bx_s.c 1 (by decide)).1
    have c_s2 := (bx_s.c 2 (by decide)).1
    have c_s3 := (bx_s.c 3 (by decide)).1
    have z_s := bx_s.lt
    have c_x0 := (bx_x.c 0 (by decide)).1
    have c_x1 := (bx_x.c 1 (by decide)).1
    have z_x := bx_x.lt
    have c_y0 := (bx_y.c 0 (by decide)).1
    have c_y1 := (bx_y.c 1 (by decide)).1
    have z_y := bx_y.lt
    have c_u0 := (bx_u.c 0 (by decide)).1
    have c_u1 := (bx_u.c 1 (by decide)).1
    have c_u2 := (bx_u.c 2 (by decide)).1
    have c_u3 := (bx_u.c 3 (by decide)).1
    have z_u := bx_u.lt
    have c_v0 := (bx_v.c 0 (by decide)).1
    have c_v1 := (bx_v.c 1 (by decide)).1
    have c_v2 := (bx_v.c 2 (by decide)).1
    have c_v3 := (bx_v.c 3 (by decide)).1
    have z_v := bx_v.lt
    simp only [List.getD_cons_zero, List.getD_cons_succ] at c_s0 c_s1 c_s2 c_s3 c_x0 c_x1 c_y0 c_y1 c_u0 c_u1 c_u2 c_u3 c_v0 c_v1 c_v2 c_v3
    go_upto_region 20 with ((go_at_call 20; refine (hWy _ hs_u).mono ?_; rintro e w10 ⟨⟨ta0, tn0, tc0, ta1, tn1, tc1, ta2, tn2, tc2, ta3, tn3, tc3, txi, txl, txd, txo⟩, rfl, hO, hd, hb10⟩; simp only []; replace bx_s := bx_s.below hb10 bx_s.lt; replace bx_x := bx_x.below hb10 bx_x.lt; replace bx_y := bx_y.below hb10 bx_y.lt; replace bx_u := bx_u.below hb10 bx_u.lt; replace bx_v := bx_v.below hb10 bx_v.lt; replace hs_s := hs_s.below hb10; replace hs_u := hs_u.below hb10; replace hbv : Below w.heap.size w w10 := hbv.trans (hb10.mono hbv.size); clear c_s0 c_s1 c_s2 c_s3 z_s c_x0 c_x1 z_x c_y0 c_y1 z_y c_u0 c_u1 c_u2 c_u3 z_u c_v0 c_v1 c_v2 c_v3 z_v; have c_s0 := (bx_s.c 0 (by decide)).1; have c_s1 := (bx_s.c 1 (by decide)).1; have c_s2 := (bx_s.c 2 (by decide)).1; have c_s3 := (bx_s.c 3 (by decide)).1; have z_s := bx_s.lt; have c_x0 := (bx_x.c 0 (by decide)).1; have c_x1 := (bx_x.c 1 (by decide)).1; have z_x := bx_x.lt; have c_y0 := (bx_y.c 0 (by decide)).1; have c_y1 := (bx_y.c 1 (by decide)).1; have z_y := bx_y.lt; have c_u0 := (bx_u.c 0 (by decide)).1; have c_u1 := (bx_u.c 1 (by decide)).1; have c_u2 := (bx_u.c 2 (by decide)).1; have c_u3 := (bx_u.c 3 (by decide)).1; have z_u := bx_u.lt; have c_v0 := (bx_v.c 0 (by decide)).1; have c_v1 := (bx_v.c 1 (by decide)).1; have c_v2 := (bx_v.c 2 (by decide)).1; have c_v3 := (bx_v.c 3 (by decide)).1; have z_v := bx_v.lt; simp only [List.getD_cons_zero, List.getD_cons_succ] at c_s0 c_s1 c_s2 c_s3 c_x0 c_x1 c_y0 c_y1 c_u0 c_u1 c_u2 c_u3 c_v0 c_v1 c_v2 c_v3))
    clear hWy hO hd
    obtain ⟨X11, eX11⟩ : ∃ X : World, X = w10.alloc (.cells #[.slice ta0 tn0 tc0, .slice ta1 tn1 tc1, .slice ta2 tn2 tc2, .slice ta3 tn3 tc3] 27) := ⟨_, rfl⟩
    have bX11 : Below w10.heap.size w10 X11 := by rw [eX11]; exact (Below.refl _ _).alloc (Nat.le_refl _) _
    have bx_t : BoxN X11 w10.heap.size 4 [.slice ta0 tn0 tc0, .slice ta1 tn1 tc1, .slice ta2 tn2 tc2, .slice ta3 tn3 tc3] := by rw [eX11]; exact boxn_new w10 #[.slice ta0 tn0 tc0, .slice ta1 tn1 tc1, .slice ta2 tn2 tc2, .slice ta3 tn3 tc3] 27 4 rfl
    rw [← eX11]
    obtain ⟨m_t, em_t⟩ : ∃ m, m = w10.heap.size := ⟨_, rfl⟩
    rw [← em_t] at bx_t ⊢
    clear em_t eX11
    replace bx_s := bx_s.below bX11 bx_s.lt
    replace bx_x := bx_x.below bX11 bx_x.lt
    replace bx_y := bx_y.below bX11 bx_y.lt
    replace bx_u := bx_u.below bX11 bx_u.lt
    replace bx_v := bx_v.below bX11 bx_v.lt
    replace hs_s := hs_s.below bX11
    replace hs_u := hs_u.below bX11
    replace hbv : Below w.heap.size w X11 := hbv.trans (bX11.mono hbv.size)
    clear c_s0 c_s1 c_s2 c_s3 z_s c_x0 c_x1 z_x c_y0 c_y1 z_y c_u0 c_u1 c_u2 c_u3 z_u c_v0 c_v1 c_v2 c_v3 z_v
    have c_s0 := (bx_s.c 0 (by decide)).1
    have c_s1 := (bx_s.c 1 (by decide)).1
    have c_s2 := (bx_s.c 2 (by decide)).1
    have c_s3 := (bx_s.c 3 (by decide)).1
    have z_s := bx_s.lt
    have c_x0 := (bx_x.c 0 (by decide)).1
    have c_x1 := (bx_x.c 1 (by decide)).1
    have z_x := bx_x.lt
    have c_y0 := (bx_y.c 0 (by decide)).1
    have c_y1 := (bx_y.c 1 (by decide)).1
    have z_y := bx_y.lt
    have c_u0 := (bx_u.c 0 (by decide)).1
    have c_u1 := (bx_u.c 1 (by decide)).1
    have c_u2 := (bx_u.c 2 (by decide)).1
    have c_u3 := (bx_u.c 3 (by decide)).1
    have z_u := bx_u.lt
    have c_v0 := (bx_v.c 0 (by decide)).1
    have c_v1 := (bx_v.c 1 (by decide)).1
    have c_v2 := (bx_v.c 2 (by decide)).1
    have c_v3 := (bx_v.c 3 (by decide)).1
    have z_v := bx_v.lt
    have c_t0 := (bx_t.c 0 (by decide)).1
    have c_t1 := (bx_t.c 1 (by decide)).1
    have c_t2 := (bx_t.c 2 (by decide)).1
    have c_t3 := (bx_t.c 3 (by decide)).1
    have z_t := bx_t.lt
    simp only [List.getD_cons_zero, List.getD_cons_succ] at c_s0 c_s1 c_s2 c_s3 c_x0 c_x1 c_y0 c_y1 c_u0 c_u1 c_u2 c_u3 c_v0 c_v1 c_v2 c_v3 c_t0 c_t1 c_t2 c_t3
    go_upto_region 21 with ((go_at_call 17; refine (hPu _ hs_u).mono ?_; rintro e w12 ⟨rfl, hb12⟩; replace bx_s := bx_s.below hb12 bx_s.lt; replace bx_x := bx_x.below hb12 bx_x.lt; replace bx_y := bx_y.below hb12 bx_y.lt; replace bx_u := bx_u.below hb12 bx_u.lt; replace bx_v := bx_v.below hb12 bx_v.lt; replace bx_t := bx_t.below hb12 bx_t.lt; replace hs_s := hs_s.below hb12; replace hs_u := hs_u.below hb12; replace hbv : Below w.heap.size w w12 := hbv.trans (hb12.mono hbv.size); clear c_s0 c_s1 c_s2 c_s3 z_s c_x0 c_x1 z_x c_y0 c_y1 z_y c_u0 c_u1 c_u2 c_u3 z_u c_v0 c_v1 c_v2 c_v3 z_v c_t0 c_t1 c_t2 c_t3 z_t; have c_s0 := (bx_s.c 0 (by decide)).1; have c_s1 := (bx_s.c 1 (by decide)).1; have c_s2 := (bx_s.c 2 (by decide)).1; have c_s3 := (bx_s.c 3 (by decide)).1; have z_s := bx_s.lt; have c_x0 := (bx_x.c 0 (by decide)).1; have c_x1 := (bx_x.c 1 (by decide)).1; have z_x := bx_x.lt; have c_y0 := (bx_y.c 0 (by decide)).1; have c_y1 := (bx_y.c 1 (by decide)).1; have z_y := bx_y.lt; have c_u0 := (bx_u.c 0 (by decide)).1; have c_u1 := (bx_u.c 1 (by decide)).1; have c_u2 := (bx_u.c 2 (by decide)).1; have c_u3 := (bx_u.c 3 (by decide)).1; have z_u := bx_u.lt; have c_v0 := (bx_v.c 0 (by decide)).1; have c_v1 := (bx_v.c 1 (by decide)).1; have c_v2 := (bx_v.c 2 (by decide)).1; have c_v3 := (bx_v.c 3 (by decide)).1; have z_v := bx_v.lt; have c_t0 := (bx_t.c 0 (by decide)).1; have c_t1 := (bx_t.c 1 (by decide)).1; have c_t2 := (bx_t.c 2 (by decide)).1; have c_t3 := (bx_t.c 3 (by decide)).1; have z_t := bx_t.lt; simp only [List.getD_cons_zero, List.getD_cons_succ] at c_s0 c_s1 c_s2 c_s3 c_x0 c_x1 c_y0 c_y1 c_u0 c_u1 c_u2 c_u3 c_v0 c_v1 c_v2 c_v3 c_t0 c_t1 c_t2 c_t3))
    clear hPu
    go_upto_region 22 with ((go_at_call 14; refine (hRx _ hs_u).mono ?_; rintro e w13 ⟨⟨qa0, qn0, qc0, qa1, qn1, qc1, qa2, qn2, qc2, qa3, qn3, qc3, qxi, qxl, qxd, qxo⟩, rfl, hO, hd, hb13⟩; simp only []; replace bx_s := bx_s.below hb13 bx_s.lt; replace bx_x := bx_x.below hb13 bx_x.lt; replace bx_y := bx_y.below hb13 bx_y.lt; replace bx_u := bx_u.below hb13 bx_u.lt; replace bx_v := bx_v.below hb13 bx_v.lt; replace bx_t := bx_t.below hb13 bx_t.lt; replace hs_s := hs_s.below hb13; replace hs_u := hs_u.below hb13; replace hbv : Below w.heap.size w w13 := hbv.trans (hb13.mono hbv.size); clear c_s0 c_s1 c_s2 c_s3 z_s c_x0 c_x1 z_x c_y0 c_y1 z_y c_u0 c_u1 c_u2 c_u3 z_u c_v0 c_v1 c_v2 c_v3 z_v c_t0 c_t1 c_t2 c_t3 z_t; have c_s0 := (bx_s.c 0 (by decide)).1; have c_s1 := (bx_s.c 1 (by decide)).1; have c_s2 := (bx_s.c 2 (by decide)).1; have c_s3 := (bx_s.c 3 (by decide)).1; have z_s := bx_s.lt; have c_x0 := (bx_x.c 0 (by decide)).1; have c_x1 := (bx_x.c 1 (by decide)).1; have z_x := bx_x.lt; have c_y0 := (bx_y.c 0 (by decide)).1; have c_y1 := (bx_y.c 1 (by decide)).1; have z_y := bx_y.lt; have c_u0 := (bx_u.c 0 (by decide)).1; have c_u1 := (bx_u.c 1 (by decide)).1; have c_u2 := (bx_u.c 2 (by decide)).1; have c_u3 := (bx_u.c 3 (by decide)).1; have z_u := bx_u.lt; have c_v0 := (bx_v.c 0 (by decide)).1; have c_v1 := (bx_v.c 1 (by decide)).1; have c_v2 := (bx_v.c 2 (by decide)).1; have c_v3 := (bx_v.c 3 (by decide)).1; have z_v := bx_v.lt; have c_t0 := (bx_t.c 0 (by decide)).1; have c_t1 := (bx_t.c 1 (by decide)).1; have c_t2 := (bx_t.c 2 (by decide)).1; have c_t3 := (bx_t.c 3 (by decide)).1; have z_t := bx_t.lt; simp only [List.getD_cons_zero, List.getD_cons_succ] at c_s0 c_s1 c_s2 c_s3 c_x0 c_x1 c_y0 c_y1 c_u0 c_u1 c_u2 c_u3 c_v0 c_v1 c_v2 c_v3 c_t0 c_t1 c_t2 c_t3))
    clear hRx hO hd
    obtain ⟨X14, eX14⟩ : ∃ X : World, X = w13.alloc (.cells #[.slice qa0 qn0 qc0, .slice qa1 qn1 qc1, .slice qa2 qn2 qc2, .slice qa3 qn3 qc3] 27) := ⟨_, rfl⟩
    have bX14 : Below w13.heap.size w13 X14 := by rw [eX14]; exact (Below.refl _ _).alloc (Nat.le_refl _) _
    have bx_q : BoxN X14 w13.heap.size 4 [.slice qa0 qn0 qc0, .slice qa1 qn1 qc1, .slice qa2 qn2 qc2, .slice qa3 qn3 qc3] := by rw [eX14]; exact boxn_new w13 #[.slice qa0 qn0 qc0, .slice qa1 qn1 qc1, .slice qa2 qn2 qc2, .slice qa3 qn3 qc3] 27 4 rfl
    rw [← eX14]
    obtain ⟨m_q, em_q⟩ : ∃ m, m = w13.heap.size := ⟨_, rfl⟩
    rw [← em_q] at bx_q ⊢
    clear em_q eX14
    replace bx_s := bx_s.below bX14 bx_s.lt
    replace bx_x := bx_x.below bX14 bx_x.lt
    replace bx_y := bx_y.below bX14 bx_y.lt
    replace bx_u := bx_u.below bX14 bx_u.lt
    replace bx_v := bx_v.below bX14 bx_v.lt
    replace bx_t := bx_t.below bX14 bx_t.lt
    replace hs_s := hs_s.below bX14
    replace hs_u := hs_u.below bX14
    replace hbv : Below w.heap.size w X14 := hbv.trans (bX14.mono hbv.size)
    clear c_s0 c_s1 c_s2 c_s3 z_s c_x0 c_x1 z_x c_y0 c_y1 z_y c_u0 c_u1 c_u2 c_u3 z_u c_v0 c_v1 c_v2 c_v3 z_v c_t0 c_t1 c_t2 c_t3 z_t
    have c_s0 := (bx_s.c 0 (by decide)).1
    have c_s1 := (bx_s.c 1 (by decide)).1
    have c_s2 := (bx_s.c 2 (by decide)).1
    have c_s3 := (bx_s.c 3 (by decide)).1
    have z_s := bx_s.lt
    have c_x0 := (bx_x.c 0 (by decide)).1
    have c_x1 := (bx_x.c 1 (by decide)).1
    have z_x := bx_x.lt
    have c_y0 := (bx_y.c 0 (by decide)).1
    have c_y1 := (bx_y.c 1 (by decide)).1
    have z_y := bx_y.lt
    have c_u0 := (bx_u.c 0 (by decide)).1
    have c_u1 := (bx_u.c 1 (by decide)).1
    have c_u2 := (bx_u.c 2 (by decide)).1
    have c_u3 := (bx_u.c 3 (by decide)).1
    have z_u := bx_u.lt
    have c_v0 := (bx_v.c 0 (by decide)).1
    have c_v1 := (bx_v.c 1 (by decide)).1
    have c_v2 := (bx_v.c 2 (by decide)).1
    have c_v3 := (bx_v.c 3 (by decide)).1
    have z_v := bx_v.lt
    have c_t0 := (bx_t.c 0 (by decide)).1
    have c_t1 := (bx_t.c 1 (by decide)).1
    have c_t2 := (bx_t.c 2 (by decide)).1
    have c_t3 := (bx_t.c 3 (by decide)).1
    have z_t := bx_t.lt
    have c_q0 := (bx_q.c 0 (by decide)).1
    have c_q1 := (bx_q.c 1 (by decide)).1
    have c_q2 := (bx_q.c 2 (by decide)).1
    have c_q3 := (bx_q.c 3 (by decide)).1
    have z_q := bx_q.lt
    simp only [List.getD_cons_zero, List.getD_cons_succ] at c_s0 c_s1 c_s2 c_s3 c_x0 c_x1 c_y0 c_y1 c_u0 c_u1 c_u2 c_u3 c_v0 c_v1 c_v2 c_v3 c_t0 c_t1 c_t2 c_t3 c_q0 c_q1 c_q2 c_q3
    go_wp2_with (first | (go_at_call 21; refine (hCt _ hs_u).mono ?_; rintro e w15 ⟨rfl, hb15⟩; replace bx_s := bx_s.below hb15 bx_s.lt; replace bx_x := bx_x.below hb15 bx_x.lt; replace bx_y := bx_y.below hb15 bx_y.lt; replace bx_u := bx_u.below hb15 bx_u.lt; replace bx_v := bx_v.below hb15 bx_v.lt; replace bx_t := bx_t.below hb15 bx_t.lt; replace bx_q := bx_q.below hb15 bx_q.lt; replace hs_s := hs_s.below hb15; replace hs_u := hs_u.below hb15; replace hbv : Below w.heap.size w w15 := hbv.trans (hb15.mono hbv.size); clear c_s0 c_s1 c_s2 c_s3 z_s c_x0 c_x1 z_x c_y0 c_y1 z_y c_u0 c_u1 c_u2 c_u3 z_u c_v0 c_v1 c_v2 c_v3 z_v c_t0 c_t1 c_t2 c_t3 z_t c_q0 c_q1 c_q2 c_q3 z_q; have c_s0 := (bx_s.c 0 (by decide)).1; have c_s1 := (bx_s.c 1 (by decide)).1; have c_s2 := (bx_s.c 2 (by decide)).1; have c_s3 := (bx_s.c 3 (by decide)).1; have z_s := bx_s.lt; have c_x0 := (bx_x.c 0 (by decide)).1; have c_x1 := (bx_x.c 1 (by decide)).1; have z_x := bx_x.lt; have c_y0 := (bx_y.c 0 (by decide)).1; have c_y1 := (bx_y.c 1 (by decide)).1; have z_y := bx_y.lt; have c_u0 := (bx_u.c 0 (by decide)).1; have c_u1 := (bx_u.c 1 (by decide)).1; have c_u2 := (bx_u.c 2 (by decide)).1; have c_u3 := (bx_u.c 3 (by decide)).1; have z_u := bx_u.lt; have c_v0 := (bx_v.c 0 (by decide)).1; have c_v1 := (bx_v.c 1 (by decide)).1; have c_v2 := (bx_v.c 2 (by decide)).1; have c_v3 := (bx_v.c 3 (by decide)).1; have z_v := bx_v.lt; have c_t0 := (bx_t.c 0 (by decide)).1; have c_t1 := (bx_t.c 1 (by decide)).1; have c_t2 := (bx_t.c 2 (by decide)).1; have c_t3 := (bx_t.c 3 (by decide)).1; have z_t := bx_t.lt; have c_q0 := (bx_q.c 0 (by decide)).1; have c_q1 := (bx_q.c 1 (by decide)).1; have c_q2 := (bx_q.c 2 (by decide)).1; have c_q3 := (bx_q.c 3 (by decide)).1; have z_q := bx_q.lt; simp only [List.getD_cons_zero, List.getD_cons_succ] at c_s0 c_s1 c_s2 c_s3 c_x0 c_x1 c_y0 c_y1 c_u0 c_u1 c_u2 c_u3 c_v0 c_v1 c_v2 c_v3 c_t0 c_t1 c_t2 c_t3 c_q0 c_q1 c_q2 c_q3) | (go_at_call 15; refine (hCu _ hs_u).mono ?_; rintro e w16 ⟨rfl, hb16⟩; replace bx_s := bx_s.below hb16 bx_s.lt; replace bx_x := bx_x.below hb16 bx_x.lt; replace bx_y := bx_y.below hb16 bx_y.lt; replace bx_u := bx_u.below hb16 bx_u.lt; replace bx_v := bx_v.below hb16 bx_v.lt; replace bx_t := bx_t.below hb16 bx_t.lt; replace bx_q := bx_q.below hb16 bx_q.lt; replace hs_s := hs_s.below hb16; replace hs_u := hs_u.below hb16; replace hbv : Below w.heap.size w w16 := hbv.trans (hb16.mono hbv.size); clear c_s0 c_s1 c_s2 c_s3 z_s c_x0 c_x1 z_x c_y0 c_y1 z_y c_u0 c_u1 c_u2 c_u3 z_u c_v0 c_v1 c_v2 c_v3 z_v c_t0 c_t1 c_t2 c_t3 z_t c_q0 c_q1 c_q2 c_q3 z_q; have c_s0 := (bx_s.c 0 (by decide)).1; have c_s1 := (bx_s.c 1 (by decide)).1; have c_s2 := (bx_s.c 2 (by decide)).1; have c_s3 := (bx_s.c 3 (by decide)).1; have z_s := bx_s.lt; have c_x0 := (bx_x.c 0 (by decide)).1; have c_x1 := (bx_x.c 1 (by decide)).1; have z_x := bx_x.lt; have c_y0 := (bx_y.c 0 (by decide)).1; have c_y1 := (bx_y.c 1 (by decide)).1; have z_y := bx_y.lt; have c_u0 := (bx_u.c 0 (by decide)).1; have c_u1 := (bx_u.c 1 (by decide)).1; have c_u2 := (bx_u.c 2 (by decide)).1; have c_u3 := (bx_u.c 3 (by decide)).1; have z_u := bx_u.lt; have c_v0 := (bx_v.c 0 (by decide)).1; have c_v1 := (bx_v.c 1 (by decide)).1; have c_v2 := (bx_v.c 2 (by decide)).1; have c_v3 := (bx_v.c 3 (by decide)).1; have z_v := bx_v.lt; have c_t0 := (bx_t.c 0 (by decide)).1; have c_t1 := (bx_t.c 1 (by decide)).1; have c_t2 := (bx_t.c 2 (by decide)).1; have c_t3 := (bx_t.c 3 (by decide)).1; have z_t := bx_t.lt; have c_q0 := (bx_q.c 0 (by decide)).1; have c_q1 := (bx_q.c 1 (by decide)).1; have c_q2 := (bx_q.c 2 (by decide)).1; have c_q3 := (bx_q.c 3 (by decide)).1; have z_q := bx_q.lt; simp only [List.getD_cons_zero, List.getD_cons_succ] at c_s0 c_s1 c_s2 c_s3 c_x0 c_x1 c_y0 c_y1 c_u0 c_u1 c_u2 c_u3 c_v0 c_v1 c_v2 c_v3 c_t0 c_t1 c_t2 c_t3 c_q0 c_q1 c_q2 c_q3))
    go_ret
    exact ⟨rfl, hbv⟩
end Go.Proofs.Ytbmbahifkegehaa
