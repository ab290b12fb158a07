/- The walk of the law ForgetReads. -/
import Derived.Test.YtbmbahifkegehabSKStore
import Derived.Test.YtbmbahifkegehabSKForget
namespace Go.Proofs.Ytbmbahifkegehab
open Go.ChangeShapes Go.WideShapes Go.ChangeAt Go.RowKit St
set_option linter.unusedVariables false

set_option maxRecDepth 100000 in
set_option maxHeartbeats 4000000 in
theorem forgetReads_walk (a : Option Addr) (len cap : Nat) (rs : List RV) (w : World) (h : IsRaws w a len cap rs) :
    Calls Try.prog 6 #[.slice a len cap] w fun e w' => e = .returned (.bool true) ∧ Below w.heap.size w w' := by
  have hSt := store_made a len cap rs 40 w h (by decide)
  have hbv : Below w.heap.size w w := Below.refl _ _
  go_enter Try.func6, Try.ntmps6
  go_upto_region 2 with ((go_at_call 7; refine (hSt).mono ?_; rintro e w1 ⟨⟨sa0, sn0, sc0, sa1, sn1, sc1, sa2, sn2, sc2, sa3, sn3, sc3, sxi, sxl, sxd, sxo⟩, rfl, hO, hG, hb1⟩; simp only [SV.val]; replace hbv : Below w.heap.size w w1 := hbv.trans (hb1.mono hbv.size); have hs_s := hO.isStore))
  clear hSt hO
  obtain ⟨X2, eX2⟩ : ∃ X : World, X = w1.alloc (.cells #[.slice sa0 sn0 sc0, .slice sa1 sn1 sc1, .slice sa2 sn2 sc2, .slice sa3 sn3 sc3] 28) := ⟨_, rfl⟩
  have bX2 : Below w1.heap.size w1 X2 := by rw [eX2]; exact (Below.refl _ _).alloc (Nat.le_refl _) _
  have bx_s : BoxN X2 w1.heap.size 4 [.slice sa0 sn0 sc0, .slice sa1 sn1 sc1, .slice sa2 sn2 sc2, .slice sa3 sn3 sc3] := by rw [eX2]; exact boxn_new w1 #[.slice sa0 sn0 sc0, .slice sa1 sn1 sc1, .slice sa2 sn2 sc2, .slice sa3 sn3 sc3] 28 4 rfl
  rw [← eX2]
  obtain ⟨m_s, em_s⟩ : ∃ m, m = w1.heap.size := ⟨_, rfl⟩
  rw [← em_s] at bx_s ⊢
  clear em_s eX2
  replace hs_s := hs_s.below bX2
  replace hbv : Below w.heap.size w X2 := hbv.trans (bX2.mono hbv.size)
  have c_s0 := (bx_s.c 0 (by decide)).1
  have c_s1 := (bx_s.c 1 (by decide)).1
  have c_s2 := (bx_s.c 2 (by decide)).1
  have c_s3 := (bx_s.c 3 (by decide)).1
  have z_s := bx_s.lt
  simp only [List.getD_cons_zero, List.getD_cons_succ] at c_s0 c_s1 c_s2 c_s3
  obtain ⟨g1, g2, g3, g4, g5⟩ := forget_ok (s := ⟨sa0, sn0, sc0, sa1, sn1, sc1, sa2, sn2, sc2, sa3, sn3, sc3, sxi, sxl, sxd, sxo⟩) hG.ok
  have hFo := fun w' h1 => forget_own ⟨sa0, sn0, sc0, sa1, sn1, sc1, sa2, sn2, sc2, sa3, sn3, sc3, sxi, sxl, sxd, sxo⟩ w' h1 hG.wf (hG.h4 h1)
  simp only [g1, SV.val] at hFo
  have h20 : sxl.length ≤ 20 := hG.locks20
  clear g1 hG
  go_upto_region 3 with ((go_at_call 17; refine (hFo _ hs_s).mono ?_; rintro e w3 ⟨⟨ua0, un0, uc0, ua1, un1, uc1, ua2, un2, uc2, ua3, un3, uc3, uxi, uxl, uxd, uxo⟩, rfl, hO, hd, hb3⟩; simp only []; replace bx_s := bx_s.below hb3 bx_s.lt; replace hs_s := hs_s.below hb3; replace hbv : Below w.heap.size w w3 := hbv.trans (hb3.mono hbv.size); have hs_u := hO.isStore; clear c_s0 c_s1 c_s2 c_s3 z_s; have c_s0 := (bx_s.c 0 (by decide)).1; have c_s1 := (bx_s.c 1 (by decide)).1; have c_s2 := (bx_s.c 2 (by decide)).1; have c_s3 := (bx_s.c 3 (by decide)).1; have z_s := bx_s.lt; simp only [List.getD_cons_zero, List.getD_cons_succ] at c_s0 c_s1 c_s2 c_s3))
  clear hFo hO
  obtain ⟨X4, eX4⟩ : ∃ X : World, X = w3.alloc (.cells #[.slice ua0 un0 uc0, .slice ua1 un1 uc1, .slice ua2 un2 uc2, .slice ua3 un3 uc3] 28) := ⟨_, rfl⟩
  have bX4 : Below w3.heap.size w3 X4 := by rw [eX4]; exact (Below.refl _ _).alloc (Nat.le_refl _) _
  have bx_u : BoxN X4 w3.heap.size 4 [.slice ua0 un0 uc0, .slice ua1 un1 uc1, .slice ua2 un2 uc2, .slice ua3 un3 uc3] := by rw [eX4]; exact boxn_new w3 #[.slice ua0 un0 uc0, .slice ua1 un1 uc1, .slice ua2 un2 uc2, .slice ua3 un3 uc3] 28 4 rfl
  rw [← eX4]
  obtain ⟨m_u, em_u⟩ : ∃ m, m = w3.heap.size := ⟨_, rfl⟩
  rw [← em_u] at bx_u ⊢
  clear em_u eX4
  replace bx_s := bx_s.below bX4 bx_s.lt
  replace hs_s := hs_s.below bX4
  replace hs_u := hs_u.below bX4
  replace hbv : Below w.heap.size w X4 := hbv.trans (bX4.mono hbv.size)
  clear c_s0 c_s1 c_s2 c_s3 z_s
  have c_s0 := (bx_s.c 0 (by decide)).1
  have c_s1 := (bx_s.c 1 (by decide)).1
  have c_s2 := (bx_s.c 2 (by decide)).1
  have c_s3 := (bx_s.c 3 (by decide)).1
  have z_s := bx_s.lt
  have c_u0 := (bx_u.c 0 (by decide)).1
  have c_u1 := (bx_u.c 1 (by decide)).1
  have c_u2 := (bx_u.c 2 (by decide)).1
  have c_u3 := (bx_u.c 3 (by decide)).1
  have z_u := bx_u.lt
  simp only [List.getD_cons_zero, List.getD_cons_succ] at c_s0 c_s1 c_s2 c_s3 c_u0 c_u1 c_u2 c_u3
  rw [← hd] at g2 g3 g4 g5
  have y3 : uxi = sxi := g3
  have y4 : Hid (uxl = sxl.filter (fun k => k.write)) := g4
  have hCu := fun w' h1 => check_any ⟨ua0, un0, uc0, ua1, un1, uc1, ua2, un2, uc2, ua3, un3, uc3, uxi, uxl, uxd, uxo⟩ w' h1 g2.wf
  simp only [g2.ok, SV.val, if_true] at hCu
  have i1 : uxi.length = un0 := hs_u.items.1
  have i2 : sxi.length = sn0 := hs_s.items.1
  obtain rfl : sn0 = un0 := by rw [← i1, ← i2, y3]
  have l1 : Hid (uxl.length = un1) := hs_u.locks.1
  have l2 : Hid (sxl.length = sn1) := hs_s.locks.1
  have n20 : sn1 ≤ 20 := by rw [← l2.out]; exact h20
  clear g2 g3 g4 g5 y3 i1 i2 hd h20
  go_upto_region 7 with ((go_at_call 14; refine (hCu _ hs_u).mono ?_; rintro e w5 ⟨rfl, hb5⟩; replace bx_s := bx_s.below hb5 bx_s.lt; replace bx_u := bx_u.below hb5 bx_u.lt; replace hs_s := hs_s.below hb5; replace hs_u := hs_u.below hb5; replace hbv : Below w.heap.size w w5 := hbv.trans (hb5.mono hbv.size); clear c_s0 c_s1 c_s2 c_s3 z_s c_u0 c_u1 c_u2 c_u3 z_u; have c_s0 := (bx_s.c 0 (by decide)).1; have c_s1 := (bx_s.c 1 (by decide)).1; have c_s2 := (bx_s.c 2 (by decide)).1; have c_s3 := (bx_s.c 3 (by decide)).1; have z_s := bx_s.lt; have c_u0 := (bx_u.c 0 (by decide)).1; have c_u1 := (bx_u.c 1 (by decide)).1; have c_u2 := (bx_u.c 2 (by decide)).1; have c_u3 := (bx_u.c 3 (by decide)).1; have z_u := bx_u.lt; simp only [List.getD_cons_zero, List.getD_cons_succ] at c_s0 c_s1 c_s2 c_s3 c_u0 c_u1 c_u2 c_u3))
  go_wp2
  clear hCu c_s0 c_s1 c_s2 c_s3 z_s c_u0 c_u1 c_u2 c_u3 z_u
  have hL0 := hs_s.locks
  have hL1 := hs_u.locks
  simp only [] at hL0 hL1
  go_loopw [6, 8, 37] (fun s6 _ s37 wr => ∃ (j n : Nat), s37 = .int .i64 (j : Int) ∧ s6 = .int .i64 (n : Int) ∧ j ≤ sn1 ∧ n ≤ j ∧ Hid (n = ((sxl.take j).filter (fun k => k.write)).length) ∧ Below w5.heap.size w5 wr) (fun _ _ s37 _ => sn1 - (intOf s37).toNat)
  case atStart => exact ⟨0, 0, rfl, rfl, Nat.zero_le _, Nat.le_refl _, rfl, Below.refl _ _⟩
  case round =>
    obtain ⟨j, n, rfl, rfl, hj, hnj, hn, hb⟩ := hrel
    replace bx_s := bx_s.below hb bx_s.lt
    replace bx_u := bx_u.below hb bx_u.lt
    replace hs_s := hs_s.below hb
    replace hs_u := hs_u.below hb
    replace hbv : Below w.heap.size w wr := hbv.trans (hb.mono hbv.size)
    have c_s0 := (bx_s.c 0 (by decide)).1
    have c_s1 := (bx_s.c 1 (by decide)).1
    have c_s2 := (bx_s.c 2 (by decide)).1
    have c_s3 := (bx_s.c 3 (by decide)).1
    have z_s := bx_s.lt
    have c_u0 := (bx_u.c 0 (by decide)).1
    have c_u1 := (bx_u.c 1 (by decide)).1
    have c_u2 := (bx_u.c 2 (by decide)).1
    have c_u3 := (bx_u.c 3 (by decide)).1
    have z_u := bx_u.lt
    simp only [List.getD_cons_zero, List.getD_cons_succ] at c_s0 c_s1 c_s2 c_s3 c_u0 c_u1 c_u2 c_u3
    by_cases hlt : j < sn1
    · have hlt' : (j : Int) < (sn1 : Int) := by omega
      have hjl : j < sxl.length := by rw [l2.out]; exact hlt
      have HT : Hid (((sxl.take (j + 1)).filter (fun k => k.write)).length = n + (if (sxl.getD j default).write = true then 1 else 0)) := by
        show _ = _
        rw [filter_at hjl, hn.out, List.length_append]
        congr 1
        by_cases e : (sxl.getD j default).write = true <;> simp only [e, if_true, if_false, List.length_cons, List.length_nil, Bool.false_eq_true]
      have HN := fun hw => next_kept hjl hw
      rw [← hn.out] at HN
      rw [← y4.out, l1.out] at HN
      obtain ⟨b, off, rfl, zb, hc⟩ := (hL0.below hb).2.2.2.2 (by omega)
      have hcells := hc j hlt
      obtain ⟨o, eo⟩ : ∃ o, o = sxl.getD j default := ⟨_, rfl⟩
      rw [← eo] at hcells HT HN
      clear eo hc
      obtain ⟨⟨q0, q1⟩, q2, q3, q4, q5⟩ := o
      have e0 := hcells 0 (by decide)
      have e1 := hcells 1 (by decide)
      have e2 := hcells 2 (by decide)
      have e3 := hcells 3 (by decide)
      have e4 := hcells 4 (by decide)
      have e5 := hcells 5 (by decide)
      simp only [LkV.cells, List.getElem?_cons_zero, List.getElem?_cons_succ, Nat.add_zero] at e0 e1 e2 e3 e4 e5
      simp only [] at HT HN
      clear hcells hn
      cases q3 with
      | true =>
        obtain ⟨hnl, hnv⟩ := HN rfl
        have HT' : Hid (((sxl.take (j + 1)).filter (fun k => k.write)).length = n + 1) := by show _ = _; rw [HT.out, if_pos rfl]
        have hnl' : (n : Int) < (un1 : Int) := by omega
        have hnn : ¬ (n : Int) = (un1 : Int) := by omega
        obtain ⟨b2, off2, rfl, zb2, hc2⟩ := (hL1.below hb).2.2.2.2 (by omega)
        have hcells2 := hc2 n hnl
        rw [hnv] at hcells2
        have d0 := hcells2 0 (by decide)
        have d1 := hcells2 1 (by decide)
        have d2 := hcells2 2 (by decide)
        have d3 := hcells2 3 (by decide)
        have d4 := hcells2 4 (by decide)
        have d5 := hcells2 5 (by decide)
        simp only [LkV.cells, List.getElem?_cons_zero, List.getElem?_cons_succ, Nat.add_zero] at d0 d1 d2 d3 d4 d5
        clear hcells2 hc2 hnv HN HT
        obtain ⟨Z, hZ⟩ : ∃ Z : World, Z = wr.alloc (.cells #[.int .i64 q0, .int .i64 q1, .int .i64 q2, .bool true, .int .i64 q4, .int .i64 q5] 42) := ⟨_, rfl⟩
        have bZ : Below wr.heap.size wr Z := by rw [hZ]; exact (Below.refl _ _).alloc (Nat.le_refl _) _
        have bo : BoxN Z wr.heap.size 6 [.int .i64 q0, .int .i64 q1, .int .i64 q2, .bool true, .int .i64 q4, .int .i64 q5] := by rw [hZ]; exact boxn_new wr #[.int .i64 q0, .int .i64 q1, .int .i64 q2, .bool true, .int .i64 q4, .int .i64 q5] 42 6 rfl
        go_upto_region 9 with (fail)
        rw [← hZ]
        have k0 := (bo.c 0 (by decide)).1
        have k1 := (bo.c 1 (by decide)).1
        have k2 := (bo.c 2 (by decide)).1
        have k3 := (bo.c 3 (by decide)).1
        have k4 := (bo.c 4 (by decide)).1
        have k5 := (bo.c 5 (by decide)).1
        simp only [List.getD_cons_zero, List.getD_cons_succ] at k0 k1 k2 k3 k4 k5
        have f0 := (bZ.cell (p := ⟨b2, off2 + n * 6, none⟩) zb2).trans d0
        have f1 := (bZ.cell (p := ⟨b2, off2 + n * 6 + 1, none⟩) zb2).trans d1
        have f2 := (bZ.cell (p := ⟨b2, off2 + n * 6 + 2, none⟩) zb2).trans d2
        have f3 := (bZ.cell (p := ⟨b2, off2 + n * 6 + 3, none⟩) zb2).trans d3
        have f4 := (bZ.cell (p := ⟨b2, off2 + n * 6 + 4, none⟩) zb2).trans d4
        have f5 := (bZ.cell (p := ⟨b2, off2 + n * 6 + 5, none⟩) zb2).trans d5
        have u1 := ((bx_u.below bZ bx_u.lt).c 1 (by decide)).1
        simp only [List.getD_cons_zero, List.getD_cons_succ] at u1
        have hbZ := hb.trans (bZ.mono hb.size)
        clear hZ bo d0 d1 d2 d3 d4 d5 e0 e1 e2 e3 e4 e5 c_s0 c_s1 c_s2 c_s3 z_s c_u0 c_u1 c_u2 c_u3 z_u
        go_wp2
        go_quiet (fail)
        go_wp2
        go_roundw
        case rel => exact ⟨j + 1, n + 1, by go_num, by go_num, by omega, by omega, HT'.out.symm, below_drewN hbZ nq⟩
        case measure => simp [intOf]; omega
      | false =>
        have HT' : Hid (((sxl.take (j + 1)).filter (fun k => k.write)).length = n) := by show _ = _; rw [HT.out]; rfl
        clear HN
        go_wp2
        go_roundw
        case rel => exact ⟨j + 1, n, by go_num, rfl, by omega, by omega, HT'.out.symm, by first | exact hb.alloc hb.size _ | exact hb⟩
        case measure => simp [intOf]; omega
    · obtain rfl : j = sn1 := by omega
      obtain rfl : n = un1 := by rw [hn.out, ← l1.out, y4.out, List.take_of_length_le (by rw [l2.out]; exact Nat.le_refl _)]
      have hFb : ∀ (w' : World) (q : Nat), IsLocks w' (some ⟨q, 0, none⟩) 1 1 [⟨(0, 0), 0, false, 0, 0⟩] → Calls Try.prog 17 #[.agg #[.slice none 0 0, .slice (some ⟨q, 0, none⟩) 1 1, .slice none 0 0, .slice none 0 0]] w' fun e w'' => ∃ r : SV, e = .returned (.tuple #[r.val, .int .i64 9]) ∧ Below w'.heap.size w' w'' := fun w' q h1 =>
        (forget_own ⟨none, 0, 0, some ⟨q, 0, none⟩, 1, 1, none, 0, 0, none, 0, 0, [], [⟨(0, 0), 0, false, 0, 0⟩], [], []⟩ w' ⟨isRow_nil _ _ _, h1, isRow_nil _ _ _, isRow_nil _ _ _⟩ (fun t ht => by simp at ht) (by show 0 * 16 ≤ _; omega)).mono fun e w'' ⟨r, q1, q2, q3, q4⟩ => ⟨r, by rw [q1]; rfl, q4⟩
      clear hL0 hL1
      go_upto_region 15 with (go_at_call 17; refine (hFb _ wr.heap.size (isOne (k := 6) (cells := LkV.cells) wr #[.int .i64 0, .int .i64 0, .int .i64 0, .bool false, .int .i64 0, .int .i64 0] _ ⟨(0, 0), 0, false, 0, 0⟩ rfl rfl)).mono ?_; rintro e w9 ⟨⟨ta0, tn0, tc0, ta1, tn1, tc1, ta2, tn2, tc2, ta3, tn3, tc3, txi, txl, txd, txo⟩, rfl, hb9⟩; simp only [SV.val])
      have bA : Below wr.heap.size wr (w9.alloc (.cells #[.slice ta0 tn0 tc0, .slice ta1 tn1 tc1, .slice ta2 tn2 tc2, .slice ta3 tn3 tc3] 28)) := ((Below.refl _ _).alloc (Nat.le_refl _) _ : Below wr.heap.size wr (wr.alloc _)).trans ((hb9.mono (by simp)).alloc (by have := hb9.size; simp at this; omega) _)
      obtain ⟨Y, eY⟩ : ∃ Y, Y = w9.alloc (.cells #[.slice ta0 tn0 tc0, .slice ta1 tn1 tc1, .slice ta2 tn2 tc2, .slice ta3 tn3 tc3] 28) := ⟨_, rfl⟩
      rw [← eY] at bA ⊢
      have u1 := ((bx_u.below bA bx_u.lt).c 1 (by decide)).1
      simp only [List.getD_cons_zero, List.getD_cons_succ] at u1
      have zu := (bx_u.below bA bx_u.lt).lt
      clear eY hFb c_s0 c_s1 c_s2 c_s3 z_s c_u0 c_u1 c_u2 c_u3 z_u
      go_wp2
      go_ret
      exact ⟨rfl, hbv.trans (bA.mono hbv.size)⟩
end Go.Proofs.Ytbmbahifkegehab
