/- Texts of this claim, one behind the other. -/
import Derived.Test.YtfhciplckjkflaaM7CoordTicks
import Derived.Test.YtfhciplckjkflaaM10CoordTicks
/- Contracts of coord.tasksMayBe, jobMayBe, jobsMayBe and Check. -/
namespace Go.Proofs.Ytfhciplckjkflaa.Co
open Go.ChangeShapes Go.WideShapes Go.ChangeAt Go.RowKit
open Go.Proofs.Ytfhciplckjkflaa.St (IsRow drop_at take_at BoxN boxn_new)
set_option linter.unusedVariables false

set_option maxRecDepth 100000 in
set_option maxHeartbeats 4000000 in
theorem tasksMayBe_any (s q : Int) (a : Option Addr) (len cap : Nat) (j : JbV) (w : World) (hl : len ≤ 6) (hj : IsTasks w j.ta j.tl j.tc j.tasks) (hak : inR j.asks 0 1048576 = true) :
    Calls Try.prog 86 #[.agg #[.int .i64 s, .slice a len cap, .int .i64 q], j.val] w fun e w' => e = .returned (.bool (tksOK (len : Int) j.asks j.state j.tasks)) ∧ Below w.heap.size w w' := by
  obtain ⟨jn, st, ta, tl, tc, aa, al, ac, asks, age, tasks, asked⟩ := j
  simp only [JbV.val] at *
  have hak2 := inR_of hak
  clear hak
  have HL : Hid (tasks.length = tl) := hj.1
  have hmx : tl ≤ maxLen := Nat.le_trans hj.2.1 hj.2.2.1
  unfold maxLen at hmx
  have hT := fun t w' => taskMayBe_any s q a len cap t w' hl
  obtain ⟨W, hW⟩ : ∃ W : World, W = (w.alloc (.cells #[.int .i64 s, .slice a len cap, .int .i64 q] 24)).alloc (.cells #[.int .i64 jn, .int .i64 st, .slice ta tl tc, .slice aa al ac, .int .i64 asks, .int .i64 age] 47) := ⟨_, rfl⟩
  have hB : Below w.heap.size w W := by rw [hW]; exact ((Below.refl _ _).alloc (Nat.le_refl _) _).alloc (by simp) _
  have b2 : BoxN W (w.heap.size + 1) 6 [.int .i64 jn, .int .i64 st, .slice ta tl tc, .slice aa al ac, .int .i64 asks, .int .i64 age] := by rw [hW]; simpa using boxn_new (w.alloc (.cells #[.int .i64 s, .slice a len cap, .int .i64 q] 24)) #[.int .i64 jn, .int .i64 st, .slice ta tl tc, .slice aa al ac, .int .i64 asks, .int .i64 age] 47 6 rfl
  have b1 : BoxN W w.heap.size 3 [.int .i64 s, .slice a len cap, .int .i64 q] := by rw [hW]; exact (boxn_new w #[.int .i64 s, .slice a len cap, .int .i64 q] 24 3 rfl).below (B := (w.alloc (.cells #[.int .i64 s, .slice a len cap, .int .i64 q] 24)).heap.size) ((Below.refl _ _).alloc (Nat.le_refl _) _) (by simp)
  have c0 := (b1.c 0 (by decide)).1
  have c1 := (b1.c 1 (by decide)).1
  have c2 := (b1.c 2 (by decide)).1
  have k0 := (b2.c 0 (by decide)).1
  have k1 := (b2.c 1 (by decide)).1
  have k2 := (b2.c 2 (by decide)).1
  have k3 := (b2.c 3 (by decide)).1
  have k4 := (b2.c 4 (by decide)).1
  have k5 := (b2.c 5 (by decide)).1
  simp only [List.getD_cons_zero, List.getD_cons_succ] at c0 c1 c2 k0 k1 k2 k3 k4 k5
  have z1 := b1.lt
  have z2 := b2.lt
  have hjW := hj.below hB
  obtain ⟨R, eR⟩ : ∃ R, R = tksOK (len : Int) asks st tasks := ⟨_, rfl⟩
  have HR : Hid (R = (decide (tl ≤ 10) && tksGo (len : Int) asks st 1 (tasks.drop 0))) := by rw [eR, ← HL.out]; rfl
  rw [← eR]
  clear eR hj
  go_enter Try.func86, Try.ntmps86
  go_upto_region 1 with (fail)
  rw [← hW]
  clear hW
  by_cases h10 : tl ≤ 10
  · have h10' : ¬ (10 : Int) < (tl : Int) := by omega
    have HR0 : Hid (R = tksGo (len : Int) asks st 1 (tasks.drop 0)) := by show _ = _; rw [HR.out, decide_eq_true h10]; rfl
    go_upto_region 5 with (fail)
    go_wp2
    clear c0 c1 c2 k0 k1 k2 k3 k4 k5 z1 z2
    go_loopw [5, 6, 7, 15] (fun s5 _ _ s15 wr => ∃ (k : Nat) (lo : Int), s15 = .int .i64 (k : Int) ∧ s5 = .int .i64 lo ∧ k ≤ tl ∧ 1 ≤ lo ∧ lo ≤ 1048577 ∧ Hid (R = tksGo (len : Int) asks st lo (tasks.drop k)) ∧ Below W.heap.size W wr) (fun _ _ _ s15 _ => tl - (intOf s15).toNat)
    case atStart => exact ⟨0, 1, rfl, rfl, Nat.zero_le _, by omega, by omega, HR0.out, Below.refl _ _⟩
    case round =>
      obtain ⟨k, lo, rfl, rfl, hk, l0, l5, hR, hb⟩ := hrel
      have b1r := b1
      have b2r := b2
      replace b1 := b1.below hb b1.lt
      replace b2 := b2.below hb b2.lt
      have c0 := (b1.c 0 (by decide)).1
      have c1 := (b1.c 1 (by decide)).1
      have c2 := (b1.c 2 (by decide)).1
      have k0 := (b2.c 0 (by decide)).1
      have k1 := (b2.c 1 (by decide)).1
      have k2 := (b2.c 2 (by decide)).1
      have k3 := (b2.c 3 (by decide)).1
      have k4 := (b2.c 4 (by decide)).1
      have k5 := (b2.c 5 (by decide)).1
      simp only [List.getD_cons_zero, List.getD_cons_succ] at c0 c1 c2 k0 k1 k2 k3 k4 k5
      have z1 := b1.lt
      have z2 := b2.lt
      by_cases hlt : k < tl
      · have hlt' : (k : Int) < (tl : Int) := by omega
        have hkl : k < tasks.length := by rw [HL.out]; exact hlt
        have HS : Hid (R = (inR (tasks.getD k default).ask lo asks && tkOK (len : Int) (tasks.getD k default) && ((tasks.getD k default).done || (decide (k + 1 = tl) && decide (st = 1))) && tksGo (len : Int) asks st ((tasks.getD k default).ask + 1) (tasks.drop (k + 1)))) := by show _ = _; rw [hR.out, tksGo_at hkl, HL.out]
        obtain ⟨b, off, rfl, zb, hc⟩ := (hjW.below hb).2.2.2.2 (by omega)
        have hcells := hc k hlt
        have hTk := hT (tasks.getD k default)
        obtain ⟨x, ex⟩ : ∃ x, x = tasks.getD k default := ⟨_, rfl⟩
        rw [← ex] at hcells HS hTk
        clear ex hc hR
        obtain ⟨OKT, eOK⟩ : ∃ O, O = tkOK (len : Int) x := ⟨_, rfl⟩
        rw [← eOK] at HS hTk
        clear eOK
        obtain ⟨t0, t1, t2, t3, t4, t5, t6, t7⟩ := x
        have e0 := hcells 0 (by decide)
        have e1 := hcells 1 (by decide)
        have e2 := hcells 2 (by decide)
        have e3 := hcells 3 (by decide)
        have e4 := hcells 4 (by decide)
        have e5 := hcells 5 (by decide)
        have e6 := hcells 6 (by decide)
        have e7 := hcells 7 (by decide)
        simp only [TkV.cells, List.getElem?_cons_zero, List.getElem?_cons_succ, Nat.add_zero] at e0 e1 e2 e3 e4 e5 e6 e7
        simp only [TkV.val] at hTk HS
        clear hcells
        obtain ⟨V, hV⟩ : ∃ V : World, V = wr.alloc (.cells #[.bool t0, .int .i64 t1, .int .i64 t2, .int .i64 t3, .int .i64 t4, .int .i64 t5, .bool t6, .bool t7] 73) := ⟨_, rfl⟩
        have bV : Below wr.heap.size wr V := by rw [hV]; exact (Below.refl _ _).alloc (Nat.le_refl _) _
        have b3 : BoxN V wr.heap.size 8 [.bool t0, .int .i64 t1, .int .i64 t2, .int .i64 t3, .int .i64 t4, .int .i64 t5, .bool t6, .bool t7] := by rw [hV]; exact boxn_new wr #[.bool t0, .int .i64 t1, .int .i64 t2, .int .i64 t3, .int .i64 t4, .int .i64 t5, .bool t6, .bool t7] 73 8 rfl
        go_upto_region 7 with (fail)
        rw [← hV]
        clear c0 c1 c2 k0 k1 k2 k3 k4 k5 z1 z2 hV e0 e1 e2 e3 e4 e5 e6 e7
        replace b1 := b1.below bV b1.lt
        replace b2 := b2.below bV b2.lt
        replace hb : Below W.heap.size W V := hb.trans (bV.mono hb.size)
        have c0 := (b1.c 0 (by decide)).1
        have c1 := (b1.c 1 (by decide)).1
        have c2 := (b1.c 2 (by decide)).1
        have k0 := (b2.c 0 (by decide)).1
        have k1 := (b2.c 1 (by decide)).1
        have k2 := (b2.c 2 (by decide)).1
        have k3 := (b2.c 3 (by decide)).1
        have k4 := (b2.c 4 (by decide)).1
        have k5 := (b2.c 5 (by decide)).1
        simp only [List.getD_cons_zero, List.getD_cons_succ] at c0 c1 c2 k0 k1 k2 k3 k4 k5
        have z1 := b1.lt
        have z2 := b2.lt
        have g0 := (b3.c 0 (by decide)).1
        have g1 := (b3.c 1 (by decide)).1
        have g2 := (b3.c 2 (by decide)).1
        have g3 := (b3.c 3 (by decide)).1
        have g4 := (b3.c 4 (by decide)).1
        have g5 := (b3.c 5 (by decide)).1
        have g6 := (b3.c 6 (by decide)).1
        have g7 := (b3.c 7 (by decide)).1
        simp only [List.getD_cons_zero, List.getD_cons_succ] at g0 g1 g2 g3 g4 g5 g6 g7
        have z3 := b3.lt
        cases h1 : inR t5 lo asks with
        | false =>
          go_wp2_with (go_at_call 15; refine (within_any _ _ _ _).mono ?_; rintro e u ⟨rfl, hu⟩; rw [hu, h1]; clear hu)
          go_ret
          exact ⟨by rw [HS.out, h1]; simp, hB.trans (hb.mono hB.size)⟩
        | true =>
          have hx := inR_of h1
          have hwx : IntKind.i64.wrap (t5 + 1) = t5 + 1 := by apply wrap_in <;> omega
          have hwl : IntKind.i64.wrap ((tl : Int) - 1) = (tl : Int) - 1 := by apply wrap_in <;> omega
          cases OKT with
          | false =>
            go_wp2_with (first | (go_at_call 15; refine (within_any _ _ _ _).mono ?_; rintro e u ⟨rfl, hu⟩; rw [hu, h1]; clear hu) | (go_at_call 88; refine (hTk _).mono ?_; rintro e w5 ⟨rfl, hb5⟩))
            go_ret
            exact ⟨by rw [HS.out, h1]; simp, hB.trans ((hb.trans (hb5.mono hb.size)).mono hB.size)⟩
          | true =>
            go_upto_region 9 with (first | (go_at_call 15; refine (within_any _ _ _ _).mono ?_; rintro e u ⟨rfl, hu⟩; rw [hu, h1]; clear hu) | (go_at_call 88; refine (hTk _).mono ?_; rintro e w5 ⟨rfl, hb5⟩; clear c0 c1 c2 k0 k1 k2 k3 k4 k5 z1 z2; replace b1 := b1.below hb5 b1.lt; replace b2 := b2.below hb5 b2.lt; have c0 := (b1.c 0 (by decide)).1; have c1 := (b1.c 1 (by decide)).1; have c2 := (b1.c 2 (by decide)).1; have k0 := (b2.c 0 (by decide)).1; have k1 := (b2.c 1 (by decide)).1; have k2 := (b2.c 2 (by decide)).1; have k3 := (b2.c 3 (by decide)).1; have k4 := (b2.c 4 (by decide)).1; have k5 := (b2.c 5 (by decide)).1; simp only [List.getD_cons_zero, List.getD_cons_succ] at c0 c1 c2 k0 k1 k2 k3 k4 k5; have z1 := b1.lt; have z2 := b2.lt; replace hb : Below W.heap.size W w5 := hb.trans (hb5.mono hb.size); replace b3 := b3.below hb5 b3.lt; clear g0 g1 g2 g3 g4 g5 g6 g7 z3; have g5 := (b3.c 5 (by decide)).1; have g6 := (b3.c 6 (by decide)).1; simp only [List.getD_cons_zero, List.getD_cons_succ] at g5 g6; have z3 := b3.lt))
            have hrel2 : Hid (R = ((t6 || (decide (k + 1 = tl) && decide (st = 1))) && tksGo (len : Int) asks st (t5 + 1) (tasks.drop (k + 1)))) := by show _ = _; rw [HS.out, h1]; simp
            clear HS
            cases t6 with
            | true =>
              go_wp2
              go_roundw
              case rel => exact ⟨k + 1, t5 + 1, by go_num, rfl, by omega, by omega, by omega, by show _ = _; rw [hrel2.out]; rfl, hb⟩
              case measure => simp [intOf]; omega
            | false =>
              by_cases hlast : k + 1 = tl
              · have hl1 : ¬ (k : Int) < (tl : Int) - 1 := by omega
                by_cases hst : st = 1
                · have hst' := hst.symm
                  clear hst
                  subst hst'
                  go_wp2
                  go_roundw
                  case rel => exact ⟨k + 1, t5 + 1, by go_num, rfl, by omega, by omega, by omega, by show _ = _; rw [hrel2.out]; simp [hlast], hb⟩
                  case measure => simp [intOf]; omega
                · go_wp2
                  go_ret
                  exact ⟨by rw [hrel2.out]; simp [hst], hB.trans (hb.mono hB.size)⟩
              · have hl1 : (k : Int) < (tl : Int) - 1 := by omega
                go_wp2
                go_ret
                exact ⟨by rw [hrel2.out]; simp [hlast], hB.trans (hb.mono hB.size)⟩
      · obtain rfl : k = tl := by omega
        have hT : R = true := by rw [hR.out, List.drop_of_length_le (by rw [HL.out]; exact Nat.le_refl _)]; rfl
        go_wp2
        go_ret
        exact ⟨by rw [hT]; rfl, hB.trans (hb.mono hB.size)⟩
  · have h10' : (10 : Int) < (tl : Int) := by omega
    have hF : R = false := by rw [HR.out, decide_eq_false h10]; rfl
    go_wp2
    go_ret
    exact ⟨by rw [hF]; rfl, hB⟩

end Go.Proofs.Ytfhciplckjkflaa.Co
/- Contracts of coord.jobMayBe, jobsMayBe and Check. -/
namespace Go.Proofs.Ytfhciplckjkflaa.Co
open Go.ChangeShapes Go.WideShapes Go.ChangeAt Go.RowKit
open Go.Proofs.Ytfhciplckjkflaa.St (IsRow drop_at take_at BoxN boxn_new)
set_option linter.unusedVariables false

set_option maxRecDepth 100000 in
set_option maxHeartbeats 4000000 in
theorem jobMayBe_any (s q : Int) (a : Option Addr) (len cap : Nat) (j : JbV) (w : World) (hl : len ≤ 6) (hs : 1 ≤ s ∧ s ≤ 4) (hj : IsJob w j) :
    Calls Try.prog 80 #[.agg #[.int .i64 s, .slice a len cap, .int .i64 q], j.val] w fun e w' => e = .returned (.bool (jbOK s (len : Int) j)) ∧ Below w.heap.size w w' := by
  have hRi := fun w' h1 => rising_any s q a len cap j.aa j.al j.ac j.asked w' h1 hs
  have hTa0 : inR j.asks 0 1048576 = true → ∀ w', IsTasks w' j.ta j.tl j.tc j.tasks → Calls Try.prog 86 #[.agg #[.int .i64 s, .slice a len cap, .int .i64 q], j.val] w' fun e w'' => e = .returned (.bool (tksOK (len : Int) j.asks j.state j.tasks)) ∧ Below w'.heap.size w' w'' := fun h3 w' h1 => tasksMayBe_any s q a len cap j w' hl h1 h3
  have HA : Hid (j.asked.length = j.al) := hj.asked.1
  obtain ⟨R, eR⟩ : ∃ R, R = jbOK s (len : Int) j := ⟨_, rfl⟩
  have HR : Hid (R = (inR j.age 0 1048576 && inR j.state 1 3 && inR j.asks 0 1048576 && rise s 0 j.asked && (decide (j.state = 3) == decide (0 < j.al)) && tksOK (len : Int) j.asks j.state j.tasks)) := by rw [eR, ← HA.out]; rfl
  rw [← eR]
  clear eR
  obtain ⟨RI, eRI⟩ : ∃ R, R = rise s 0 j.asked := ⟨_, rfl⟩
  obtain ⟨TO, eTO⟩ : ∃ R, R = tksOK (len : Int) j.asks j.state j.tasks := ⟨_, rfl⟩
  rw [← eRI] at HR hRi
  rw [← eTO] at HR hTa0
  clear eRI eTO
  obtain ⟨jn, st, ta, tl, tc, aa, al, ac, asks, age, tasks, asked⟩ := j
  simp only [JbV.val] at *
  obtain ⟨W, hW⟩ : ∃ W : World, W = (w.alloc (.cells #[.int .i64 s, .slice a len cap, .int .i64 q] 24)).alloc (.cells #[.int .i64 jn, .int .i64 st, .slice ta tl tc, .slice aa al ac, .int .i64 asks, .int .i64 age] 47) := ⟨_, rfl⟩
  have hB : Below w.heap.size w W := by rw [hW]; exact ((Below.refl _ _).alloc (Nat.le_refl _) _).alloc (by simp) _
  have b2 : BoxN W (w.heap.size + 1) 6 [.int .i64 jn, .int .i64 st, .slice ta tl tc, .slice aa al ac, .int .i64 asks, .int .i64 age] := by rw [hW]; simpa using boxn_new (w.alloc (.cells #[.int .i64 s, .slice a len cap, .int .i64 q] 24)) #[.int .i64 jn, .int .i64 st, .slice ta tl tc, .slice aa al ac, .int .i64 asks, .int .i64 age] 47 6 rfl
  have b1 : BoxN W w.heap.size 3 [.int .i64 s, .slice a len cap, .int .i64 q] := by rw [hW]; exact (boxn_new w #[.int .i64 s, .slice a len cap, .int .i64 q] 24 3 rfl).below (B := (w.alloc (.cells #[.int .i64 s, .slice a len cap, .int .i64 q] 24)).heap.size) ((Below.refl _ _).alloc (Nat.le_refl _) _) (by simp)
  have c0 := (b1.c 0 (by decide)).1
  have c1 := (b1.c 1 (by decide)).1
  have c2 := (b1.c 2 (by decide)).1
  have k0 := (b2.c 0 (by decide)).1
  have k1 := (b2.c 1 (by decide)).1
  have k2 := (b2.c 2 (by decide)).1
  have k3 := (b2.c 3 (by decide)).1
  have k4 := (b2.c 4 (by decide)).1
  have k5 := (b2.c 5 (by decide)).1
  simp only [List.getD_cons_zero, List.getD_cons_succ] at c0 c1 c2 k0 k1 k2 k3 k4 k5
  have z1 := b1.lt
  have z2 := b2.lt
  have hsi := hj.asked.below hB
  have hti := hj.tasks.below hB
  simp only [] at hsi hti
  have hb := Below.refl W.heap.size W
  go_enter Try.func80, Try.ntmps80
  go_upto_region 1 with (fail)
  rw [← hW]
  clear hW
  cases h1 : inR age 0 1048576 with
  | false =>
    go_wp2_with (go_at_call 15; refine (within_any _ _ _ _).mono ?_; rintro e u ⟨rfl, hu⟩; rw [hu]; clear hu; (first | rw [h1] | rw [h2] | rw [h3]))
    go_ret
    exact ⟨by rw [HR.out, h1]; simp, hB.trans (hb.mono hB.size)⟩
  | true =>
    cases h2 : inR st 1 3 with
    | false =>
      go_wp2_with (go_at_call 15; refine (within_any _ _ _ _).mono ?_; rintro e u ⟨rfl, hu⟩; rw [hu]; clear hu; (first | rw [h1] | rw [h2] | rw [h3]))
      go_ret
      exact ⟨by rw [HR.out, h1, h2]; simp, hB.trans (hb.mono hB.size)⟩
    | true =>
      cases h3 : inR asks 0 1048576 with
      | false =>
        go_wp2_with (go_at_call 15; refine (within_any _ _ _ _).mono ?_; rintro e u ⟨rfl, hu⟩; rw [hu]; clear hu; (first | rw [h1] | rw [h2] | rw [h3]))
        go_ret
        exact ⟨by rw [HR.out, h1, h2, h3]; simp, hB.trans (hb.mono hB.size)⟩
      | true =>
        have hTa := hTa0 h3
        have HR1 : Hid (R = (RI && (decide (st = 3) == decide (0 < al)) && TO)) := by show _ = _; rw [HR.out, h1, h2, h3]; simp
        clear HR hTa0
        go_upto_region 3 with (go_at_call 15; refine (within_any _ _ _ _).mono ?_; rintro e u ⟨rfl, hu⟩; rw [hu]; clear hu; (first | rw [h1] | rw [h2] | rw [h3]))
        cases RI with
        | false =>
          go_wp2_with (go_at_call 85; refine (hRi _ hsi).mono ?_; rintro e w3 ⟨rfl, hb3⟩; clear c0 c1 c2 k0 k1 k2 k3 k4 k5 z1 z2; replace b1 := b1.below hb3 b1.lt; replace b2 := b2.below hb3 b2.lt; have c0 := (b1.c 0 (by decide)).1; have c1 := (b1.c 1 (by decide)).1; have c2 := (b1.c 2 (by decide)).1; have k0 := (b2.c 0 (by decide)).1; have k1 := (b2.c 1 (by decide)).1; have k2 := (b2.c 2 (by decide)).1; have k3 := (b2.c 3 (by decide)).1; have k4 := (b2.c 4 (by decide)).1; have k5 := (b2.c 5 (by decide)).1; simp only [List.getD_cons_zero, List.getD_cons_succ] at c0 c1 c2 k0 k1 k2 k3 k4 k5; have z1 := b1.lt; have z2 := b2.lt; replace hb : Below W.heap.size W w3 := hb.trans (hb3.mono hb.size))
          go_ret
          exact ⟨by rw [HR1.out]; rfl, hB.trans (hb.mono hB.size)⟩
        | true =>
          have hal : (al : Int) = 0 ∨ (0 : Int) < (al : Int) := by omega
          by_cases hst : st = 3
          · have hst' := hst.symm
            clear hst
            subst hst'
            rcases hal with hal | hal
            · obtain rfl : al = 0 := by omega
              go_wp2_with (go_at_call 85; refine (hRi _ hsi).mono ?_; rintro e w3 ⟨rfl, hb3⟩; clear c0 c1 c2 k0 k1 k2 k3 k4 k5 z1 z2; replace b1 := b1.below hb3 b1.lt; replace b2 := b2.below hb3 b2.lt; have c0 := (b1.c 0 (by decide)).1; have c1 := (b1.c 1 (by decide)).1; have c2 := (b1.c 2 (by decide)).1; have k0 := (b2.c 0 (by decide)).1; have k1 := (b2.c 1 (by decide)).1; have k2 := (b2.c 2 (by decide)).1; have k3 := (b2.c 3 (by decide)).1; have k4 := (b2.c 4 (by decide)).1; have k5 := (b2.c 5 (by decide)).1; simp only [List.getD_cons_zero, List.getD_cons_succ] at c0 c1 c2 k0 k1 k2 k3 k4 k5; have z1 := b1.lt; have z2 := b2.lt; replace hb : Below W.heap.size W w3 := hb.trans (hb3.mono hb.size))
              go_ret
              exact ⟨by rw [HR1.out]; rfl, hB.trans (hb.mono hB.size)⟩
            · have hal2 : 0 < al := by omega
              have HR2 : Hid (R = TO) := by show _ = _; rw [HR1.out]; simp [hal2]
              go_wp2_with (first | (go_at_call 85; refine (hRi _ hsi).mono ?_; rintro e w3 ⟨rfl, hb3⟩; clear c0 c1 c2 k0 k1 k2 k3 k4 k5 z1 z2; replace b1 := b1.below hb3 b1.lt; replace b2 := b2.below hb3 b2.lt; have c0 := (b1.c 0 (by decide)).1; have c1 := (b1.c 1 (by decide)).1; have c2 := (b1.c 2 (by decide)).1; have k0 := (b2.c 0 (by decide)).1; have k1 := (b2.c 1 (by decide)).1; have k2 := (b2.c 2 (by decide)).1; have k3 := (b2.c 3 (by decide)).1; have k4 := (b2.c 4 (by decide)).1; have k5 := (b2.c 5 (by decide)).1; simp only [List.getD_cons_zero, List.getD_cons_succ] at c0 c1 c2 k0 k1 k2 k3 k4 k5; have z1 := b1.lt; have z2 := b2.lt; replace hb : Below W.heap.size W w3 := hb.trans (hb3.mono hb.size)) | (go_at_call 86; refine (hTa _ (hti.below hb)).mono ?_; rintro e w4 ⟨rfl, hb4⟩; replace hb : Below W.heap.size W w4 := hb.trans (hb4.mono hb.size)))
              go_ret
              exact ⟨by rw [HR2.out]; rfl, hB.trans (hb.mono hB.size)⟩
          · rcases hal with hal | hal
            · obtain rfl : al = 0 := by omega
              have HR2 : Hid (R = TO) := by show _ = _; rw [HR1.out]; simp [hst]
              go_wp2_with (first | (go_at_call 85; refine (hRi _ hsi).mono ?_; rintro e w3 ⟨rfl, hb3⟩; clear c0 c1 c2 k0 k1 k2 k3 k4 k5 z1 z2; replace b1 := b1.below hb3 b1.lt; replace b2 := b2.below hb3 b2.lt; have c0 := (b1.c 0 (by decide)).1; have c1 := (b1.c 1 (by decide)).1; have c2 := (b1.c 2 (by decide)).1; have k0 := (b2.c 0 (by decide)).1; have k1 := (b2.c 1 (by decide)).1; have k2 := (b2.c 2 (by decide)).1; have k3 := (b2.c 3 (by decide)).1; have k4 := (b2.c 4 (by decide)).1; have k5 := (b2.c 5 (by decide)).1; simp only [List.getD_cons_zero, List.getD_cons_succ] at c0 c1 c2 k0 k1 k2 k3 k4 k5; have z1 := b1.lt; have z2 := b2.lt; replace hb : Below W.heap.size W w3 := hb.trans (hb3.mono hb.size)) | (go_at_call 86; refine (hTa _ (hti.below hb)).mono ?_; rintro e w4 ⟨rfl, hb4⟩; replace hb : Below W.heap.size W w4 := hb.trans (hb4.mono hb.size)))
              go_ret
              exact ⟨by rw [HR2.out]; rfl, hB.trans (hb.mono hB.size)⟩
            · have hal2 : 0 < al := by omega
              have hst2 : (st == 3) = false := by simp [hst]
              have HR3 : Hid (R = false) := by show _ = _; rw [HR1.out]; simp [hst, hal2]
              clear HR1
              go_wp2_with (go_at_call 85; refine (hRi _ hsi).mono ?_; rintro e w3 ⟨rfl, hb3⟩; clear c0 c1 c2 k0 k1 k2 k3 k4 k5 z1 z2; replace b1 := b1.below hb3 b1.lt; replace b2 := b2.below hb3 b2.lt; have c0 := (b1.c 0 (by decide)).1; have c1 := (b1.c 1 (by decide)).1; have c2 := (b1.c 2 (by decide)).1; have k0 := (b2.c 0 (by decide)).1; have k1 := (b2.c 1 (by decide)).1; have k2 := (b2.c 2 (by decide)).1; have k3 := (b2.c 3 (by decide)).1; have k4 := (b2.c 4 (by decide)).1; have k5 := (b2.c 5 (by decide)).1; simp only [List.getD_cons_zero, List.getD_cons_succ] at c0 c1 c2 k0 k1 k2 k3 k4 k5; have z1 := b1.lt; have z2 := b2.lt; replace hb : Below W.heap.size W w3 := hb.trans (hb3.mono hb.size))
              go_ret
              exact ⟨by rw [HR3.out]; rfl, hB.trans (hb.mono hB.size)⟩

set_option maxRecDepth 100000 in
set_option maxHeartbeats 4000000 in
theorem jobsMayBe_any (s q : Int) (a : Option Addr) (len cap : Nat) (nx : Int) (ja : Option Addr) (jl jc : Nat) (js : List JbV) (w : World) (hl : len ≤ 6) (hs : 1 ≤ s ∧ s ≤ 4) (hj : IsJobs w ja jl jc js) (hn : inR nx 1 1048577 = true) :
    Calls Try.prog 66 #[.agg #[.int .i64 s, .slice a len cap, .int .i64 q], .agg #[.int .i64 nx, .slice ja jl jc]] w fun e w' => e = .returned (.bool (jbsOK s (len : Int) nx js)) ∧ Below w.heap.size w w' := by
  have hn2 := inR_of hn
  clear hn
  have HL : Hid (js.length = jl) := hj.row.1
  have hmx : jl ≤ maxLen := Nat.le_trans hj.row.2.1 hj.row.2.2.1
  unfold maxLen at hmx
  have HJM : Hid (∀ j w', IsJob w' j → Calls Try.prog 80 #[.agg #[.int .i64 s, .slice a len cap, .int .i64 q], j.val] w' fun e w'' => e = .returned (.bool (jbOK s (len : Int) j)) ∧ Below w'.heap.size w' w'') := fun j w' h1 => jobMayBe_any s q a len cap j w' hl hs h1
  have hw0 : IntKind.i64.wrap (nx - 1) = nx - 1 := by apply wrap_in <;> omega
  obtain ⟨W, hW⟩ : ∃ W : World, W = (w.alloc (.cells #[.int .i64 s, .slice a len cap, .int .i64 q] 24)).alloc (.cells #[.int .i64 nx, .slice ja jl jc] 27) := ⟨_, rfl⟩
  have hB : Below w.heap.size w W := by rw [hW]; exact ((Below.refl _ _).alloc (Nat.le_refl _) _).alloc (by simp) _
  have b2 : BoxN W (w.heap.size + 1) 2 [.int .i64 nx, .slice ja jl jc] := by rw [hW]; simpa using boxn_new (w.alloc (.cells #[.int .i64 s, .slice a len cap, .int .i64 q] 24)) #[.int .i64 nx, .slice ja jl jc] 27 2 rfl
  have b1 : BoxN W w.heap.size 3 [.int .i64 s, .slice a len cap, .int .i64 q] := by rw [hW]; exact (boxn_new w #[.int .i64 s, .slice a len cap, .int .i64 q] 24 3 rfl).below (B := (w.alloc (.cells #[.int .i64 s, .slice a len cap, .int .i64 q] 24)).heap.size) ((Below.refl _ _).alloc (Nat.le_refl _) _) (by simp)
  have c0 := (b1.c 0 (by decide)).1
  have c1 := (b1.c 1 (by decide)).1
  have c2 := (b1.c 2 (by decide)).1
  have k0 := (b2.c 0 (by decide)).1
  have k1 := (b2.c 1 (by decide)).1
  simp only [List.getD_cons_zero, List.getD_cons_succ] at c0 c1 c2 k0 k1
  have z1 := b1.lt
  have z2 := b2.lt
  have hjW := hj.below hB
  obtain ⟨R, eR⟩ : ∃ R, R = jbsOK s (len : Int) nx js := ⟨_, rfl⟩
  have HR : Hid (R = (decide (jl ≤ 6) && jbsGo s (len : Int) nx 1 (js.drop 0))) := by rw [eR, ← HL.out]; rfl
  rw [← eR]
  clear eR hj
  go_enter Try.func66, Try.ntmps66
  go_upto_region 1 with (fail)
  rw [← hW]
  clear hW
  by_cases h6 : jl ≤ 6
  · have h6' : ¬ (6 : Int) < (jl : Int) := by omega
    have HR0 : Hid (R = jbsGo s (len : Int) nx 1 (js.drop 0)) := by show _ = _; rw [HR.out, decide_eq_true h6]; rfl
    go_upto_region 5 with (fail)
    go_wp2
    clear c0 c1 c2 k0 k1 z1 z2
    go_loopw [5, 7, 15] (fun s5 _ s15 wr => ∃ (k : Nat) (lo : Int), s15 = .int .i64 (k : Int) ∧ s5 = .int .i64 lo ∧ k ≤ jl ∧ 1 ≤ lo ∧ lo ≤ 1048577 ∧ Hid (R = jbsGo s (len : Int) nx lo (js.drop k)) ∧ Below W.heap.size W wr) (fun _ _ s15 _ => jl - (intOf s15).toNat)
    case atStart => exact ⟨0, 1, rfl, rfl, Nat.zero_le _, by omega, by omega, HR0.out, Below.refl _ _⟩
    case round =>
      obtain ⟨k, lo, rfl, rfl, hk, l0, l5, hR, hb⟩ := hrel
      replace b1 := b1.below hb b1.lt
      replace b2 := b2.below hb b2.lt
      have c0 := (b1.c 0 (by decide)).1
      have c1 := (b1.c 1 (by decide)).1
      have c2 := (b1.c 2 (by decide)).1
      have k0 := (b2.c 0 (by decide)).1
      have k1 := (b2.c 1 (by decide)).1
      simp only [List.getD_cons_zero, List.getD_cons_succ] at c0 c1 c2 k0 k1
      have z1 := b1.lt
      have z2 := b2.lt
      by_cases hlt : k < jl
      · have hlt' : (k : Int) < (jl : Int) := by omega
        have hkl : k < js.length := by rw [HL.out]; exact hlt
        have HS : Hid (R = (inR (js.getD k default).n lo (nx - 1) && jbOK s (len : Int) (js.getD k default) && jbsGo s (len : Int) nx ((js.getD k default).n + 1) (js.drop (k + 1)))) := by show _ = _; rw [hR.out, jbsGo_at hkl]
        have hjb := hjW.below hb
        have hjk := hjb.each _ (mem_at hkl)
        obtain ⟨b, off, rfl, zb, hc⟩ := hjb.row.2.2.2.2 (by omega)
        have hcells := hc k hlt
        have hJm := HJM.out (js.getD k default)
        obtain ⟨x, ex⟩ : ∃ x, x = js.getD k default := ⟨_, rfl⟩
        rw [← ex] at hcells HS hJm hjk
        clear ex hc hR
        obtain ⟨OKJ, eOK⟩ : ∃ O, O = jbOK s (len : Int) x := ⟨_, rfl⟩
        rw [← eOK] at HS hJm
        clear eOK
        obtain ⟨jn, st, ta, tl, tc, aa, al, ac, asks, age, tasks, asked⟩ := x
        have e0 := hcells 0 (by decide)
        have e1 := hcells 1 (by decide)
        have e2 := hcells 2 (by decide)
        have e3 := hcells 3 (by decide)
        have e4 := hcells 4 (by decide)
        have e5 := hcells 5 (by decide)
        simp only [JbV.cells, List.getElem?_cons_zero, List.getElem?_cons_succ, Nat.add_zero] at e0 e1 e2 e3 e4 e5
        simp only [JbV.val] at hJm HS
        clear hcells
        obtain ⟨V, hV⟩ : ∃ V : World, V = wr.alloc (.cells #[.int .i64 jn, .int .i64 st, .slice ta tl tc, .slice aa al ac, .int .i64 asks, .int .i64 age] 47) := ⟨_, rfl⟩
        have bV : Below wr.heap.size wr V := by rw [hV]; exact (Below.refl _ _).alloc (Nat.le_refl _) _
        have b3 : BoxN V wr.heap.size 6 [.int .i64 jn, .int .i64 st, .slice ta tl tc, .slice aa al ac, .int .i64 asks, .int .i64 age] := by rw [hV]; exact boxn_new wr #[.int .i64 jn, .int .i64 st, .slice ta tl tc, .slice aa al ac, .int .i64 asks, .int .i64 age] 47 6 rfl
        go_upto_region 7 with (fail)
        rw [← hV]
        clear c0 c1 c2 k0 k1 z1 z2 hV e0 e1 e2 e3 e4 e5
        replace b1 := b1.below bV b1.lt
        replace b2 := b2.below bV b2.lt
        replace hb : Below W.heap.size W V := hb.trans (bV.mono hb.size)
        replace hjk := hjk.below bV
        have c0 := (b1.c 0 (by decide)).1
        have c1 := (b1.c 1 (by decide)).1
        have c2 := (b1.c 2 (by decide)).1
        have k0 := (b2.c 0 (by decide)).1
        have k1 := (b2.c 1 (by decide)).1
        simp only [List.getD_cons_zero, List.getD_cons_succ] at c0 c1 c2 k0 k1
        have z1 := b1.lt
        have z2 := b2.lt
        have g0 := (b3.c 0 (by decide)).1
        have g1 := (b3.c 1 (by decide)).1
        have g2 := (b3.c 2 (by decide)).1
        have g3 := (b3.c 3 (by decide)).1
        have g4 := (b3.c 4 (by decide)).1
        have g5 := (b3.c 5 (by decide)).1
        simp only [List.getD_cons_zero, List.getD_cons_succ] at g0 g1 g2 g3 g4 g5
        have z3 := b3.lt
        cases h1 : inR jn lo (nx - 1) with
        | false =>
          go_wp2_with (go_at_call 15; refine (within_any _ _ _ _).mono ?_; rintro e u ⟨rfl, hu⟩; rw [hu, h1]; clear hu)
          go_ret
          exact ⟨by rw [HS.out, h1]; simp, hB.trans (hb.mono hB.size)⟩
        | true =>
          have hx := inR_of h1
          have hwx : IntKind.i64.wrap (jn + 1) = jn + 1 := by apply wrap_in <;> omega
          cases OKJ with
          | false =>
            go_wp2_with (first | (go_at_call 15; refine (within_any _ _ _ _).mono ?_; rintro e u ⟨rfl, hu⟩; rw [hu, h1]; clear hu) | (go_at_call 80; refine (hJm _ hjk).mono ?_; rintro e w5 ⟨rfl, hb5⟩))
            go_ret
            exact ⟨by rw [HS.out, h1]; simp, hB.trans ((hb.trans (hb5.mono hb.size)).mono hB.size)⟩
          | true =>
            have hrel2 : Hid (R = jbsGo s (len : Int) nx (jn + 1) (js.drop (k + 1))) := by show _ = _; rw [HS.out, h1]; simp
            clear HS
            go_wp2_with (first | (go_at_call 15; refine (within_any _ _ _ _).mono ?_; rintro e u ⟨rfl, hu⟩; rw [hu, h1]; clear hu) | (go_at_call 80; refine (hJm _ hjk).mono ?_; rintro e w5 ⟨rfl, hb5⟩; replace hb : Below W.heap.size W w5 := hb.trans (hb5.mono hb.size); replace b3 := b3.below hb5 b3.lt; clear g0 g1 g2 g3 g4 g5 z3; have g0 := (b3.c 0 (by decide)).1; simp only [List.getD_cons_zero] at g0; have z3 := b3.lt))
            go_roundw
            case rel => exact ⟨k + 1, jn + 1, by go_num, rfl, by omega, by omega, by omega, hrel2.out, hb⟩
            case measure => simp [intOf]; omega
      · obtain rfl : k = jl := by omega
        have hT : R = true := by rw [hR.out, List.drop_of_length_le (by rw [HL.out]; exact Nat.le_refl _)]; rfl
        go_wp2
        go_ret
        exact ⟨by rw [hT]; rfl, hB.trans (hb.mono hB.size)⟩
  · have h6' : (6 : Int) < (jl : Int) := by omega
    have hF : R = false := by rw [HR.out, decide_eq_false h6]; rfl
    go_wp2
    go_ret
    exact ⟨by rw [hF]; rfl, hB⟩

set_option maxRecDepth 100000 in
set_option maxHeartbeats 4000000 in
theorem deskCheck_any (s q : Int) (a : Option Addr) (len cap : Nat) (ls : List (Int × Int)) (nx : Int) (ja : Option Addr) (jl jc : Nat) (js : List JbV) (w : World) (h : IsLabs w a len cap ls) (hj : IsJobs w ja jl jc js) :
    Calls Try.prog 39 #[.agg #[.int .i64 s, .slice a len cap, .int .i64 q], .agg #[.int .i64 nx, .slice ja jl jc]] w fun e w' => e = .returned (.int .i64 (dkErr s ls q nx js)) ∧ Below w.heap.size w w' := by
  have hC := fun w' h1 => check_any s q a len cap ls w' h1
  have hz : cfgFault s ls q = 0 → len ≤ 6 ∧ 1 ≤ s ∧ s ≤ 4 := fun e => by
    have h1 : ls.length = len := h.1
    have := cfg_zero e
    omega
  have HN : Hid (ls.length = len) := h.1
  obtain ⟨F, eF⟩ : ∃ F, F = cfgFault s ls q := ⟨_, rfl⟩
  obtain ⟨R, eR⟩ : ∃ R, R = dkErr s ls q nx js := ⟨_, rfl⟩
  have HR : Hid (R = if F = 0 then (if inR nx 1 1048577 && jbsOK s (len : Int) nx js then 0 else 9) else F) := by rw [eR, eF, ← HN.out]; rfl
  rw [← eR]
  rw [← eF] at hC hz
  clear eR eF
  obtain ⟨W, hW⟩ : ∃ W : World, W = (w.alloc (.cells #[.int .i64 s, .slice a len cap, .int .i64 q] 24)).alloc (.cells #[.int .i64 nx, .slice ja jl jc] 27) := ⟨_, rfl⟩
  have hB : Below w.heap.size w W := by rw [hW]; exact ((Below.refl _ _).alloc (Nat.le_refl _) _).alloc (by simp) _
  have b2 : BoxN W (w.heap.size + 1) 2 [.int .i64 nx, .slice ja jl jc] := by rw [hW]; simpa using boxn_new (w.alloc (.cells #[.int .i64 s, .slice a len cap, .int .i64 q] 24)) #[.int .i64 nx, .slice ja jl jc] 27 2 rfl
  have b1 : BoxN W w.heap.size 3 [.int .i64 s, .slice a len cap, .int .i64 q] := by rw [hW]; exact (boxn_new w #[.int .i64 s, .slice a len cap, .int .i64 q] 24 3 rfl).below (B := (w.alloc (.cells #[.int .i64 s, .slice a len cap, .int .i64 q] 24)).heap.size) ((Below.refl _ _).alloc (Nat.le_refl _) _) (by simp)
  have c0 := (b1.c 0 (by decide)).1
  have c1 := (b1.c 1 (by decide)).1
  have c2 := (b1.c 2 (by decide)).1
  have k0 := (b2.c 0 (by decide)).1
  have k1 := (b2.c 1 (by decide)).1
  simp only [List.getD_cons_zero, List.getD_cons_succ] at c0 c1 c2 k0 k1
  have z1 := b1.lt
  have z2 := b2.lt
  have hjW := hj.below hB
  have hcW := h.below hB
  have hb := Below.refl W.heap.size W
  go_enter Try.func39, Try.ntmps39
  go_upto_region 1 with (fail)
  rw [← hW]
  clear hW
  by_cases hF : F = 0
  · subst hF
    obtain ⟨z6, zs⟩ := hz rfl
    cases h1 : inR nx 1 1048577 with
    | false =>
      have HR1 : Hid (R = 9) := by show _ = _; rw [HR.out, if_pos rfl, h1]; rfl
      clear HR
      go_wp2_with (first | (go_at_call 65; refine (hC _ hcW).mono ?_; rintro e w3 ⟨rfl, hb3⟩; clear c0 c1 c2 k0 k1 z1 z2; replace b1 := b1.below hb3 b1.lt; replace b2 := b2.below hb3 b2.lt; have c0 := (b1.c 0 (by decide)).1; have c1 := (b1.c 1 (by decide)).1; have c2 := (b1.c 2 (by decide)).1; have k0 := (b2.c 0 (by decide)).1; have k1 := (b2.c 1 (by decide)).1; simp only [List.getD_cons_zero, List.getD_cons_succ] at c0 c1 c2 k0 k1; have z1 := b1.lt; have z2 := b2.lt; replace hb : Below W.heap.size W w3 := hb.trans (hb3.mono hb.size)) | (go_at_call 15; refine (within_any _ _ _ _).mono ?_; rintro e u ⟨rfl, hu⟩; rw [hu, h1]; clear hu))
      go_ret
      exact ⟨by rw [HR1.out]; rfl, hB.trans (hb.mono hB.size)⟩
    | true =>
      have hJs := fun w' k => jobsMayBe_any s q a len cap nx ja jl jc js w' z6 zs k h1
      obtain ⟨JO, eJO⟩ : ∃ R, R = jbsOK s (len : Int) nx js := ⟨_, rfl⟩
      have HR1 : Hid (R = if JO then 0 else 9) := by show _ = _; rw [HR.out, if_pos rfl, h1, eJO]; rfl
      rw [← eJO] at hJs
      clear eJO HR
      cases JO
      all_goals
        go_wp2_with (first | (go_at_call 65; refine (hC _ hcW).mono ?_; rintro e w3 ⟨rfl, hb3⟩; clear c0 c1 c2 k0 k1 z1 z2; replace b1 := b1.below hb3 b1.lt; replace b2 := b2.below hb3 b2.lt; have c0 := (b1.c 0 (by decide)).1; have c1 := (b1.c 1 (by decide)).1; have c2 := (b1.c 2 (by decide)).1; have k0 := (b2.c 0 (by decide)).1; have k1 := (b2.c 1 (by decide)).1; simp only [List.getD_cons_zero, List.getD_cons_succ] at c0 c1 c2 k0 k1; have z1 := b1.lt; have z2 := b2.lt; replace hb : Below W.heap.size W w3 := hb.trans (hb3.mono hb.size)) | (go_at_call 15; refine (within_any _ _ _ _).mono ?_; rintro e u ⟨rfl, hu⟩; rw [hu, h1]; clear hu) | (go_at_call 66; refine (hJs _ (hjW.below hb)).mono ?_; rintro e w4 ⟨rfl, hb4⟩; replace hb : Below W.heap.size W w4 := hb.trans (hb4.mono hb.size)))
        go_ret
        exact ⟨by rw [HR1.out]; rfl, hB.trans (hb.mono hB.size)⟩
  · have HR1 : Hid (R = F) := by show _ = _; rw [HR.out, if_neg hF]
    clear HR
    go_wp2_with (go_at_call 65; refine (hC _ hcW).mono ?_; rintro e w3 ⟨rfl, hb3⟩; replace hb : Below W.heap.size W w3 := hb.trans (hb3.mono hb.size))
    go_ret
    exact ⟨by rw [HR1.out]; rfl, hB.trans (hb.mono hB.size)⟩
end Go.Proofs.Ytfhciplckjkflaa.Co
/- coord.refuse and coord.sit: a clerk at a copy of the desk. -/
namespace Go.Proofs.Ytfhciplckjkflaa.Co
open Go.ChangeShapes Go.WideShapes Go.ChangeAt Go.RowKit
open Go.Proofs.Ytfhciplckjkflaa.St (BoxN boxn_new own_below grown_setCell IsRow Elem flat flat_append own_isRow)
set_option linter.unusedVariables false

theorem Own.ins {X : World} {B : Nat} {r : Rw} {more : List Rw} (h : Own X B (r :: more)) (te : TypeId) (k : Nat) : Own X B (r :: ⟨te, k, .slice none 0 0, 0, []⟩ :: more) := by
  have get : ∀ (i : Nat) (s : Rw), (r :: (⟨te, k, .slice none 0 0, 0, []⟩ : Rw) :: more)[i]? = some s → (s.v.ownBlock = none ∧ X.ownsRow B s.te s.k s.v s.n s.xs) ∨ ∃ j, (r :: more)[j]? = some s ∧ (∀ (i2 j2 : Nat), i2 ≠ i → (i2 = 0 → j2 = 0) → (∀ m, i2 = m + 2 → j2 = m + 1) → i2 ≠ 1 → j2 ≠ j) ∧ (i = 0 → j = 0) ∧ (∀ m, i = m + 2 → j = m + 1) ∧ i ≠ 1 := by
    intro i s e
    match i, e with
    | 0, e => exact Or.inr ⟨0, e, fun i2 j2 h1 h2 h3 h4 e2 => by
        match i2, h1, h3, h4 with
        | 0, h1, _, _ => exact h1 rfl
        | 1, _, _, h4 => exact h4 rfl
        | m + 2, _, h3, _ => have := h3 m rfl; omega, fun _ => rfl, fun m e2 => by omega, by omega⟩
    | 1, e =>
      simp at e
      subst e
      exact Or.inl ⟨rfl, World.ownsRow_nil _ _ _ _⟩
    | m + 2, e => exact Or.inr ⟨m + 1, by simpa using e, fun i2 j2 h1 h2 h3 h4 e2 => by
        match i2, h1, h2, h3, h4 with
        | 0, _, h2, _, _ => have := h2 rfl; omega
        | 1, _, _, _, h4 => exact h4 rfl
        | m2 + 2, h1, _, h3, _ => have := h3 m2 rfl; omega, fun e2 => by omega, fun m2 e2 => by omega, by omega⟩
  refine ⟨fun i s e => ?_, fun i j s t ei ej hij => ?_⟩
  · rcases get i s e with ⟨_, h1⟩ | ⟨j, ej, _⟩
    · exact h1
    · exact h.own j s ej
  · rcases get i s ei with ⟨h1, _⟩ | ⟨i', ei', ni, zi, mi, oi⟩
    · exact Or.inl h1
    · rcases get j t ej with ⟨h1, _⟩ | ⟨j', ej', _, zj, mj, oj⟩
      · by_cases h2 : s.v.ownBlock = none
        · exact Or.inl h2
        · exact Or.inr (fun e => h2 (e.trans h1))
      · exact h.ap i' j' s t ei' ej' (fun e => ni j j' (fun e2 => hij e2.symm) zj mj oj e.symm)

/-- What the calls refuse of a desk. -/
def rfErr (s : Int) (ls : List (Int × Int)) (p l me next : Int) (js : List JbV) : Int :=
  if dkErr s ls p next js = 0 then (if inR l 0 ((ls.length : Int) - 1) then (if inR me 0 (s - 1) then 0 else 2) else 6) else dkErr s ls p next js
theorem dk_zero {s : Int} {ls : List (Int × Int)} {p next : Int} {js : List JbV} (h : dkErr s ls p next js = 0) : cfgFault s ls p = 0 ∧ inR next 1 1048577 = true ∧ jbsOK s ls.length next js = true := by
  unfold dkErr at h
  by_cases hc : cfgFault s ls p = 0
  · rw [if_pos hc] at h
    by_cases h2 : (inR next 1 1048577 && jbsOK s ls.length next js) = true
    · simp only [Bool.and_eq_true] at h2
      exact ⟨hc, h2.1, h2.2⟩
    · rw [if_neg h2] at h
      omega
  · rw [if_neg hc] at h
    exact absurd h hc
theorem site_any (s p : Int) (a : Option Addr) (len cap : Nat) (n : Int) (w : World) (hs : 1 ≤ s ∧ s ≤ 4) :
    Calls Try.prog 41 #[.agg #[.int .i64 s, .slice a len cap, .int .i64 p], .int .i64 n] w fun e w' => e = .returned (.bool (inR n 0 (s - 1))) ∧ Below w.heap.size w w' := by
  have hA : Below w.heap.size w (w.alloc (.cells #[.int .i64 s, .slice a len cap, .int .i64 p] 24)) := (Below.refl _ _).alloc (Nat.le_refl _) _
  obtain ⟨h1, h2⟩ := hs
  go_enter Try.func41, Try.ntmps41
  go_wp2_with (go_at_call 15; refine (within_any _ _ _ _).mono ?_; rintro e u1 ⟨rfl, hu1⟩; rw [hu1]; clear hu1)
  go_ret
  exact ⟨rfl, hA⟩
set_option maxRecDepth 100000 in
set_option maxHeartbeats 2000000 in
theorem refuse_any (s p : Int) (a : Option Addr) (len cap : Nat) (ls : List (Int × Int)) (l me next : Int) (ja : Option Addr) (jl jc : Nat) (js : List JbV) (w : World) (h : IsLabs w a len cap ls) (hj : IsJobs w ja jl jc js) :
    Calls Try.prog 14 #[.agg #[.int .i64 s, .slice a len cap, .int .i64 p], .int .i64 l, .int .i64 me, .agg #[.int .i64 next, .slice ja jl jc]] w fun e w' => e = .returned (.int .i64 (rfErr s ls p l me next js)) ∧ Below w.heap.size w w' := by
  have hlen := h.1
  obtain ⟨R, eR⟩ : ∃ R, R = rfErr s ls p l me next js := ⟨_, rfl⟩
  obtain ⟨D, eD⟩ : ∃ D, D = dkErr s ls p next js := ⟨_, rfl⟩
  have HR : Hid (R = if D = 0 then (if inR l 0 ((len : Int) - 1) then (if inR me 0 (s - 1) then 0 else 2) else 6) else D) := by show _ = _; rw [eR, eD, rfErr, hlen]
  have hz : D = 0 → len ≤ 6 ∧ 1 ≤ s ∧ s ≤ 4 := fun e => by
    have := cfg_zero (dk_zero (eD.symm.trans e)).1
    omega
  have hC := fun w' h1 h2 => deskCheck_any s p a len cap ls next ja jl jc js w' h1 h2
  rw [← eD] at hC
  rw [← eR]
  clear eR eD hlen
  obtain ⟨W, hW⟩ : ∃ W : World, W = (w.alloc (.cells #[.int .i64 s, .slice a len cap, .int .i64 p] 24)).alloc (.cells #[.int .i64 next, .slice ja jl jc] 27) := ⟨_, rfl⟩
  have hB : Below w.heap.size w W := by rw [hW]; exact ((Below.refl _ _).alloc (Nat.le_refl _) _).alloc (by simp) _
  have zW : w.heap.size + 1 < W.heap.size := by rw [hW]; simp
  have c0 : W.cell? ⟨w.heap.size, 0, none⟩ = some (.int .i64 s) := by rw [hW]; go_simp
  have c1 : W.cell? ⟨w.heap.size, 1, none⟩ = some (.slice a len cap) := by rw [hW]; go_simp
  have c2 : W.cell? ⟨w.heap.size, 2, none⟩ = some (.int .i64 p) := by rw [hW]; go_simp
  have d0 : W.cell? ⟨w.heap.size + 1, 0, none⟩ = some (.int .i64 next) := by rw [hW]; go_simp
  have d1 : W.cell? ⟨w.heap.size + 1, 1, none⟩ = some (.slice ja jl jc) := by rw [hW]; go_simp
  have KC : Hid (∀ U, Below W.heap.size W U → U.cell? ⟨w.heap.size, 0, none⟩ = some (.int .i64 s) ∧ U.cell? ⟨w.heap.size, 1, none⟩ = some (.slice a len cap) ∧ U.cell? ⟨w.heap.size, 2, none⟩ = some (.int .i64 p)) := fun U hU =>
    ⟨(hU.cell (p := ⟨w.heap.size, 0, none⟩) (by show w.heap.size < _; omega)).trans c0, (hU.cell (p := ⟨w.heap.size, 1, none⟩) (by show w.heap.size < _; omega)).trans c1, (hU.cell (p := ⟨w.heap.size, 2, none⟩) (by show w.heap.size < _; omega)).trans c2⟩
  have hlW := h.below hB
  have hjW := hj.below hB
  go_enter Try.func14, Try.ntmps14
  go_upto_region 1 with (fail)
  rw [← hW]
  clear hW h hj
  by_cases hD : D = 0
  · subst hD
    obtain ⟨l6, s14⟩ := hz rfl
    rw [if_pos rfl] at HR
    go_upto_region 4 with (go_at_call 39; refine (hC _ hlW hjW).mono ?_; rintro e w1 ⟨rfl, hb1⟩)
    clear c0 c1 c2 d0 d1 hC hlW hjW
    obtain ⟨c0, c1, c2⟩ := KC.out _ hb1
    have hbv := hb1
    cases hl : inR l 0 ((len : Int) - 1) with
    | false =>
      have hf : Hid (R = 6) := by show _ = _; rw [HR.out, hl]; rfl
      clear HR
      go_wp2_with (go_at_call 40; refine (label_any s p a len cap l _ l6).mono ?_; rw [hl]; rintro e w2 ⟨rfl, hb2⟩)
      go_ret
      exact ⟨ret_int hf.out.symm, hB.trans ((hb1.trans (hb2.mono hb1.size)).mono hB.size)⟩
    | true =>
      go_upto_region 6 with (go_at_call 40; refine (label_any s p a len cap l _ l6).mono ?_; rw [hl]; rintro e w2 ⟨rfl, hb2⟩)
      have hb12 := hb1.trans (hb2.mono hb1.size)
      clear c0 c1 c2
      obtain ⟨c0, c1, c2⟩ := KC.out _ hb12
      cases hm : inR me 0 (s - 1) with
      | false =>
        have hf : Hid (R = 2) := by show _ = _; rw [HR.out, hl, hm]; rfl
        clear HR
        go_wp2_with (go_at_call 41; refine (site_any s p a len cap me _ s14).mono ?_; rw [hm]; rintro e w3 ⟨rfl, hb3⟩)
        go_ret
        exact ⟨ret_int hf.out.symm, hB.trans ((hb12.trans (hb3.mono hb12.size)).mono hB.size)⟩
      | true =>
        have hf : Hid (R = 0) := by show _ = _; rw [HR.out, hl, hm]; rfl
        clear HR
        go_wp2_with (go_at_call 41; refine (site_any s p a len cap me _ s14).mono ?_; rw [hm]; rintro e w3 ⟨rfl, hb3⟩)
        go_ret
        exact ⟨ret_int hf.out.symm, hB.trans ((hb12.trans (hb3.mono hb12.size)).mono hB.size)⟩
  · have hf : Hid (R = D) := by show _ = _; rw [HR.out, if_neg hD]
    have hD2 : (D == 0) = false := by simpa using hD
    clear HR hz
    go_wp2_with (go_at_call 39; refine (hC _ hlW hjW).mono ?_; rintro e w1 ⟨rfl, hb1⟩)
    go_ret
    exact ⟨ret_int hf.out.symm, hB.trans (hb1.mono hB.size)⟩

/-- A clerk that sits at a copy of the desk. -/
def SitNew (w w' : World) (e : Ending) (s : Int) (a : Option Addr) (len cap : Nat) (p l me next : Int) (jl : Nat) (js : List JbV) : Prop :=
  ∃ (q : Nat) (ja : Option Addr) (jc : Nat) (js' : List JbV) (ix : List (Nat × Nat)) (more : List Rw), e = .returned (.pointer (some ⟨q, 0, none⟩)) ∧ Clerk w w' w.heap.size q ⟨s, a, len, cap, p, l, me, next, ja, jl, jc, none, 0, 0, none, 0, 0, none, 0, 0, 0, 0, js', [], [], []⟩ ix more ∧ js'.map JbV.bare = js.map JbV.bare
set_option maxRecDepth 100000 in
set_option maxHeartbeats 4000000 in
theorem sit_any (s p : Int) (a : Option Addr) (len cap : Nat) (l me next : Int) (ja : Option Addr) (jl jc : Nat) (js : List JbV) (w : World) (hj : IsJobs w ja jl jc js) (h6 : jl ≤ 6) (h10 : ∀ j ∈ js, j.tl ≤ 10 ∧ j.al ≤ 10) :
    Calls Try.prog 16 #[.agg #[.int .i64 s, .slice a len cap, .int .i64 p], .int .i64 l, .int .i64 me, .agg #[.int .i64 next, .slice ja jl jc]] w fun e w' => SitNew w w' e s a len cap p l me next jl js := by
  have hD := fun w' h1 => desk_any next ja jl jc js w' h1 h6 h10
  obtain ⟨W, hW⟩ : ∃ W : World, W = (w.alloc (.cells #[.int .i64 s, .slice a len cap, .int .i64 p] 24)).alloc (.cells #[.int .i64 next, .slice ja jl jc] 27) := ⟨_, rfl⟩
  have hB : Below w.heap.size w W := by rw [hW]; exact ((Below.refl _ _).alloc (Nat.le_refl _) _).alloc (by simp) _
  have zW : w.heap.size + 1 < W.heap.size := by rw [hW]; simp
  have c0 : W.cell? ⟨w.heap.size, 0, none⟩ = some (.int .i64 s) := by rw [hW]; go_simp
  have c1 : W.cell? ⟨w.heap.size, 1, none⟩ = some (.slice a len cap) := by rw [hW]; go_simp
  have c2 : W.cell? ⟨w.heap.size, 2, none⟩ = some (.int .i64 p) := by rw [hW]; go_simp
  have d0 : W.cell? ⟨w.heap.size + 1, 0, none⟩ = some (.int .i64 next) := by rw [hW]; go_simp
  have d1 : W.cell? ⟨w.heap.size + 1, 1, none⟩ = some (.slice ja jl jc) := by rw [hW]; go_simp
  have KC : Hid (∀ U, Below W.heap.size W U → U.cell? ⟨w.heap.size, 0, none⟩ = some (.int .i64 s) ∧ U.cell? ⟨w.heap.size, 1, none⟩ = some (.slice a len cap) ∧ U.cell? ⟨w.heap.size, 2, none⟩ = some (.int .i64 p) ∧ U.cell? ⟨w.heap.size + 1, 0, none⟩ = some (.int .i64 next) ∧ U.cell? ⟨w.heap.size + 1, 1, none⟩ = some (.slice ja jl jc)) := fun U hU =>
    ⟨(hU.cell (p := ⟨w.heap.size, 0, none⟩) (by show w.heap.size < _; omega)).trans c0, (hU.cell (p := ⟨w.heap.size, 1, none⟩) (by show w.heap.size < _; omega)).trans c1, (hU.cell (p := ⟨w.heap.size, 2, none⟩) (by show w.heap.size < _; omega)).trans c2, (hU.cell (p := ⟨w.heap.size + 1, 0, none⟩) zW).trans d0, (hU.cell (p := ⟨w.heap.size + 1, 1, none⟩) zW).trans d1⟩
  have hjD := (hj.below hB).below (Below.refl W.heap.size W).drew
  go_enter Try.func16, Try.ntmps16
  go_upto_region 1 with (fail)
  rw [← hW]
  clear hW
  go_region_held3 (fun U => U.cell? ⟨w.heap.size, 0, none⟩ = some (.int .i64 s) ∧ U.cell? ⟨w.heap.size, 1, none⟩ = some (.slice a len cap) ∧ U.cell? ⟨w.heap.size, 2, none⟩ = some (.int .i64 p) ∧ U.cell? ⟨w.heap.size + 1, 0, none⟩ = some (.int .i64 next) ∧ U.cell? ⟨w.heap.size + 1, 1, none⟩ = some (.slice ja jl jc))
    (first | exact KC.out _ ((Below.refl _ _).drew) | exact KC.out _ hu1 | exact KC.out _ (hu1.alloc hu1.size _))
    ((go_at_call 42; refine (hD _ hjD).mono ?_; rintro e w1 ⟨ja1, jc1, js1, ix, more, rfl, hAt, hbare, hb1⟩; have hu1 : Below W.heap.size W w1 := (Below.refl W.heap.size W).drew.trans (hb1.mono (Nat.le_refl _))))
  all_goals
    have bq := boxn_new w1 #[.int .i64 s, .slice a len cap, .int .i64 p, .int .i64 l, .int .i64 me, .int .i64 next, .slice ja1 jl jc1, .slice none 0 0, .slice none 0 0, .slice none 0 0, .int .i64 0, .int .i64 0] 56 12 rfl
    have bA : Below w1.heap.size w1 (w1.alloc (.cells #[.int .i64 s, .slice a len cap, .int .i64 p, .int .i64 l, .int .i64 me, .int .i64 next, .slice ja1 jl jc1, .slice none 0 0, .slice none 0 0, .slice none 0 0, .int .i64 0, .int .i64 0] 56)) := (Below.refl _ _).alloc (Nat.le_refl _) _
    have hle : w.heap.size ≤ W.heap.size := hB.size
    have ow := (((hAt.own.base (B := w.heap.size) hle).ins 62 6).ins 69 8).ins 75 12
    have HC : Hid (Clerk w (w1.alloc (.cells #[.int .i64 s, .slice a len cap, .int .i64 p, .int .i64 l, .int .i64 me, .int .i64 next, .slice ja1 jl jc1, .slice none 0 0, .slice none 0 0, .slice none 0 0, .int .i64 0, .int .i64 0] 56)) w.heap.size w1.heap.size ⟨s, a, len, cap, p, l, me, next, ja1, jl, jc1, none, 0, 0, none, 0, 0, none, 0, 0, 0, 0, js1, [], [], []⟩ ix more) :=
      ⟨⟨bq, ow.below bA, fun i r e e2 => Nat.lt_irrefl _ ((ow.own i r e).lt _ e2).2, Nat.le_trans hle hu1.size, (hB.trans (hu1.mono hle)).trans (bA.mono (Nat.le_trans hle hu1.size))⟩, hAt.jobs, hAt.len, rfl, rfl, rfl⟩
    clear bq bA ow
    go_wp2
    go_ret
    exact ⟨w1.heap.size, ja1, jc1, js1, ix, more, rfl, HC.out, hbare⟩

end Go.Proofs.Ytfhciplckjkflaa.Co
