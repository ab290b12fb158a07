/- Contracts of coord.jobMayBe, jobsMayBe and Check. -/
import Derived.Test.YtbnlibeokekpfaaCoProg
namespace Go.Proofs.Ytbnlibeokekpfaa.Co
open Go.ChangeShapes Go.WideShapes Go.ChangeAt Go.RowKit
open Go.Proofs.Ytbnlibeokekpfaa.St (IsRow drop_at take_at BoxN boxn_new)
set_option linter.unusedVariables false

set_option maxRecDepth 100000 in
set_option maxHeartbeats 4000000 in
theorem jobMayBe_any (s q : Int) (a : Option Addr) (len cap : Nat) (j : JbV) (w : World) (hl : len ≤ 6) (hs : 1 ≤ s ∧ s ≤ 4) (hj : IsJob w j) :
    Calls Try.prog 14 #[.agg #[.int .i64 s, .slice a len cap, .int .i64 q], j.val] w fun e w' => e = .returned (.bool (jbOK s (len : Int) j)) ∧ Below w.heap.size w w' := by
  have hRi := fun w' h1 => rising_any s q a len cap j.aa j.al j.ac j.asked w' h1 hs
  have hTa0 : inR j.asks 0 1048576 = true → ∀ w', IsTasks w' j.ta j.tl j.tc j.tasks → Calls Try.prog 18 #[.agg #[.int .i64 s, .slice a len cap, .int .i64 q], j.val] w' fun e w'' => e = .returned (.bool (tksOK (len : Int) j.asks j.state j.tasks)) ∧ Below w'.heap.size w' w'' := fun h3 w' h1 => tasksMayBe_any s q a len cap j w' hl h1 h3
  have HA : Hid (j.asked.length = j.al) := hj.asked.1
  obtain ⟨R, eR⟩ : ∃ R, R = jbOK s (len : Int) j := ⟨_, rfl⟩
  have HR : Hid (R = (inR j.age 0 1048576 && inR j.state 1 3 && inR j.asks 0 1048576 && rise s 0 j.asked && (decide (j.state = 3) == decide (0 < j.al)) && tksOK (len : Int) j.asks j.state j.tasks)) := by rw [eR, ← HA.out]; rfl
  rw [← eR]
  clear eR
  obtain ⟨RI, eRI⟩ : ∃ R, R = rise s 0 j.asked := ⟨_, rfl⟩
  obtain ⟨TO, eTO⟩ : ∃ R, R = tksOK (len : Int) j.asks j.state j.tasks := ⟨_, rfl⟩
  rw [← eRI] at HR hRi
  rw [← eTO] at HR hTa0
  clear eRI eTO
  obtain ⟨jn, st, ta, tl, tc, aa, al, ac, asks, age, tasks, asked⟩ := j
  simp only [JbV.val] at *
  obtain ⟨W, hW⟩ : ∃ W : World, W = (w.alloc (.cells #[.int .i64 s, .slice a len cap, .int .i64 q] 24)).alloc (.cells #[.int .i64 jn, .int .i64 st, .slice ta tl tc, .slice aa al ac, .int .i64 asks, .int .i64 age] 37) := ⟨_, rfl⟩
  have hB : Below w.heap.size w W := by rw [hW]; exact ((Below.refl _ _).alloc (Nat.le_refl _) _).alloc (by simp) _
  have b2 : BoxN W (w.heap.size + 1) 6 [.int .i64 jn, .int .i64 st, .slice ta tl tc, .slice aa al ac, .int .i64 asks, .int .i64 age] := by rw [hW]; simpa using boxn_new (w.alloc (.cells #[.int .i64 s, .slice a len cap, .int .i64 q] 24)) #[.int .i64 jn, .int .i64 st, .slice ta tl tc, .slice aa al ac, .int .i64 asks, .int .i64 age] 37 6 rfl
  have b1 : BoxN W w.heap.size 3 [.int .i64 s, .slice a len cap, .int .i64 q] := by rw [hW]; exact (boxn_new w #[.int .i64 s, .slice a len cap, .int .i64 q] 24 3 rfl).below (B := (w.alloc (.cells #[.int .i64 s, .slice a len cap, .int .i64 q] 24)).heap.size) ((Below.refl _ _).alloc (Nat.le_refl _) _) (by simp)
  have c0 := (b1.c 0 (by decide)).1
  have c1 := (b1.c 1 (by decide)).1
  have c2 := (b1.c 2 (by decide)).1
  have k0 := (b2.c 0 (by decide)).1
  have k1 := (b2.c 1 (by decide)).1
  have k2 := (b2.c 2 (by decide)).1
  have k3 := (b2.c 3 (by decide)).1
  have k4 := (b2.c 4 (by decide)).1
  have k5 := (b2.c 5 (by decide)).1
  simp only [List.getD_cons_zero, List.getD_cons_succ] at c0 c1 c2 k0 k1 k2 k3 k4 k5
  have z1 := b1.lt
  have z2 := b2.lt
  have hsi := hj.asked.below hB
  have hti := hj.tasks.below hB
  simp only [] at hsi hti
  have hb := Below.refl W.heap.size W
  go_enter Try.func14, Try.ntmps14
  go_upto_region 1 with (fail)
  rw [← hW]
  clear hW
  cases h1 : inR age 0 1048576 with
  | false =>
    go_wp2_with (go_at_call 7; refine (within_any _ _ _ _).mono ?_; rintro e u ⟨rfl, hu⟩; rw [hu]; clear hu; (first | rw [h1] | rw [h2] | rw [h3]))
    go_ret
    exact ⟨by rw [HR.out, h1]; simp, hB.trans (hb.mono hB.size)⟩
  | true =>
    cases h2 : inR st 1 3 with
    | false =>
      go_wp2_with (go_at_call 7; refine (within_any _ _ _ _).mono ?_; rintro e u ⟨rfl, hu⟩; rw [hu]; clear hu; (first | rw [h1] | rw [h2] | rw [h3]))
      go_ret
      exact ⟨by rw [HR.out, h1, h2]; simp, hB.trans (hb.mono hB.size)⟩
    | true =>
      cases h3 : inR asks 0 1048576 with
      | false =>
        go_wp2_with (go_at_call 7; refine (within_any _ _ _ _).mono ?_; rintro e u ⟨rfl, hu⟩; rw [hu]; clear hu; (first | rw [h1] | rw [h2] | rw [h3]))
        go_ret
        exact ⟨by rw [HR.out, h1, h2, h3]; simp, hB.trans (hb.mono hB.size)⟩
      | true =>
        have hTa := hTa0 h3
        have HR1 : Hid (R = (RI && (decide (st = 3) == decide (0 < al)) && TO)) := by show _ = _; rw [HR.out, h1, h2, h3]; simp
        clear HR hTa0
        go_upto_region 3 with (go_at_call 7; refine (within_any _ _ _ _).mono ?_; rintro e u ⟨rfl, hu⟩; rw [hu]; clear hu; (first | rw [h1] | rw [h2] | rw [h3]))
        cases RI with
        | false =>
          go_wp2_with (go_at_call 17; refine (hRi _ hsi).mono ?_; rintro e w3 ⟨rfl, hb3⟩; clear c0 c1 c2 k0 k1 k2 k3 k4 k5 z1 z2; replace b1 := b1.below hb3 b1.lt; replace b2 := b2.below hb3 b2.lt; have c0 := (b1.c 0 (by decide)).1; have c1 := (b1.c 1 (by decide)).1; have c2 := (b1.c 2 (by decide)).1; have k0 := (b2.c 0 (by decide)).1; have k1 := (b2.c 1 (by decide)).1; have k2 := (b2.c 2 (by decide)).1; have k3 := (b2.c 3 (by decide)).1; have k4 := (b2.c 4 (by decide)).1; have k5 := (b2.c 5 (by decide)).1; simp only [List.getD_cons_zero, List.getD_cons_succ] at c0 c1 c2 k0 k1 k2 k3 k4 k5; have z1 := b1.lt; have z2 := b2.lt; replace hb : Below W.heap.size W w3 := hb.trans (hb3.mono hb.size))
          go_ret
          exact ⟨by rw [HR1.out]; rfl, hB.trans (hb.mono hB.size)⟩
        | true =>
          have hal : (al : Int) = 0 ∨ (0 : Int) < (al : Int) := by omega
          by_cases hst : st = 3
          · have hst' := hst.symm
            clear hst
            subst hst'
            rcases hal with hal | hal
            · obtain rfl : al = 0 := by omega
              go_wp2_with (go_at_call 17; refine (hRi _ hsi).mono ?_; rintro e w3 ⟨rfl, hb3⟩; clear c0 c1 c2 k0 k1 k2 k3 k4 k5 z1 z2; replace b1 := b1.below hb3 b1.lt; replace b2 := b2.below hb3 b2.lt; have c0 := (b1.c 0 (by decide)).1; have c1 := (b1.c 1 (by decide)).1; have c2 := (b1.c 2 (by decide)).1; have k0 := (b2.c 0 (by decide)).1; have k1 := (b2.c 1 (by decide)).1; have k2 := (b2.c 2 (by decide)).1; have k3 := (b2.c 3 (by decide)).1; have k4 := (b2.c 4 (by decide)).1; have k5 := (b2.c 5 (by decide)).1; simp only [List.getD_cons_zero, List.getD_cons_succ] at c0 c1 c2 k0 k1 k2 k3 k4 k5; have z1 := b1.lt; have z2 := b2.lt; replace hb : Below W.heap.size W w3 := hb.trans (hb3.mono hb.size))
              go_ret
              exact ⟨by rw [HR1.out]; rfl, hB.trans (hb.mono hB.size)⟩
            · have hal2 : 0 < al := by omega
              have HR2 : Hid (R = TO) := by show _ = _; rw [HR1.out]; simp [hal2]
              go_wp2_with (first | (go_at_call 17; refine (hRi _ hsi).mono ?_; rintro e w3 ⟨rfl, hb3⟩; clear c0 c1 c2 k0 k1 k2 k3 k4 k5 z1 z2; replace b1 := b1.below hb3 b1.lt; replace b2 := b2.below hb3 b2.lt; have c0 := (b1.c 0 (by decide)).1; have c1 := (b1.c 1 (by decide)).1; have c2 := (b1.c 2 (by decide)).1; have k0 := (b2.c 0 (by decide)).1; have k1 := (b2.c 1 (by decide)).1; have k2 := (b2.c 2 (by decide)).1; have k3 := (b2.c 3 (by decide)).1; have k4 := (b2.c 4 (by decide)).1; have k5 := (b2.c 5 (by decide)).1; simp only [List.getD_cons_zero, List.getD_cons_succ] at c0 c1 c2 k0 k1 k2 k3 k4 k5; have z1 := b1.lt; have z2 := b2.lt; replace hb : Below W.heap.size W w3 := hb.trans (hb3.mono hb.size)) | (go_at_call 18; refine (hTa _ (hti.below hb)).mono ?_; rintro e w4 ⟨rfl, hb4⟩; replace hb : Below W.heap.size W w4 := hb.trans (hb4.mono hb.size)))
              go_ret
              exact ⟨by rw [HR2.out]; rfl, hB.trans (hb.mono hB.size)⟩
          · rcases hal with hal | hal
            · obtain rfl : al = 0 := by omega
              have HR2 : Hid (R = TO) := by show _ = _; rw [HR1.out]; simp [hst]
              go_wp2_with (first | (go_at_call 17; refine (hRi _ hsi).mono ?_; rintro e w3 ⟨rfl, hb3⟩; clear c0 c1 c2 k0 k1 k2 k3 k4 k5 z1 z2; replace b1 := b1.below hb3 b1.lt; replace b2 := b2.below hb3 b2.lt; have c0 := (b1.c 0 (by decide)).1; have c1 := (b1.c 1 (by decide)).1; have c2 := (b1.c 2 (by decide)).1; have k0 := (b2.c 0 (by decide)).1; have k1 := (b2.c 1 (by decide)).1; have k2 := (b2.c 2 (by decide)).1; have k3 := (b2.c 3 (by decide)).1; have k4 := (b2.c 4 (by decide)).1; have k5 := (b2.c 5 (by decide)).1; simp only [List.getD_cons_zero, List.getD_cons_succ] at c0 c1 c2 k0 k1 k2 k3 k4 k5; have z1 := b1.lt; have z2 := b2.lt; replace hb : Below W.heap.size W w3 := hb.trans (hb3.mono hb.size)) | (go_at_call 18; refine (hTa _ (hti.below hb)).mono ?_; rintro e w4 ⟨rfl, hb4⟩; replace hb : Below W.heap.size W w4 := hb.trans (hb4.mono hb.size)))
              go_ret
              exact ⟨by rw [HR2.out]; rfl, hB.trans (hb.mono hB.size)⟩
            · have hal2 : 0 < al := by omega
              have hst2 : (st == 3) = false := by simp [hst]
              have HR3 : Hid (R = false) := by show _ = _; rw [HR1.out]; simp [hst, hal2]
              clear HR1
              go_wp2_with (go_at_call 17; refine (hRi _ hsi).mono ?_; rintro e w3 ⟨rfl, hb3⟩; clear c0 c1 c2 k0 k1 k2 k3 k4 k5 z1 z2; replace b1 := b1.below hb3 b1.lt; replace b2 := b2.below hb3 b2.lt; have c0 := (b1.c 0 (by decide)).1; have c1 := (b1.c 1 (by decide)).1; have c2 := (b1.c 2 (by decide)).1; have k0 := (b2.c 0 (by decide)).1; have k1 := (b2.c 1 (by decide)).1; have k2 := (b2.c 2 (by decide)).1; have k3 := (b2.c 3 (by decide)).1; have k4 := (b2.c 4 (by decide)).1; have k5 := (b2.c 5 (by decide)).1; simp only [List.getD_cons_zero, List.getD_cons_succ] at c0 c1 c2 k0 k1 k2 k3 k4 k5; have z1 := b1.lt; have z2 := b2.lt; replace hb : Below W.heap.size W w3 := hb.trans (hb3.mono hb.size))
              go_ret
              exact ⟨by rw [HR3.out]; rfl, hB.trans (hb.mono hB.size)⟩

set_option maxRecDepth 100000 in
set_option maxHeartbeats 4000000 in
theorem jobsMayBe_any (s q : Int) (a : Option Addr) (len cap : Nat) (nx : Int) (ja : Option Addr) (jl jc : Nat) (js : List JbV) (w : World) (hl : len ≤ 6) (hs : 1 ≤ s ∧ s ≤ 4) (hj : IsJobs w ja jl jc js) (hn : inR nx 1 1048577 = true) :
    Calls Try.prog 8 #[.agg #[.int .i64 s, .slice a len cap, .int .i64 q], .agg #[.int .i64 nx, .slice ja jl jc]] w fun e w' => e = .returned (.bool (jbsOK s (len : Int) nx js)) ∧ Below w.heap.size w w' := by
  have hn2 := inR_of hn
  clear hn
  have HL : Hid (js.length = jl) := hj.row.1
  have hmx : jl ≤ maxLen := Nat.le_trans hj.row.2.1 hj.row.2.2.1
  unfold maxLen at hmx
  have HJM : Hid (∀ j w', IsJob w' j → Calls Try.prog 14 #[.agg #[.int .i64 s, .slice a len cap, .int .i64 q], j.val] w' fun e w'' => e = .returned (.bool (jbOK s (len : Int) j)) ∧ Below w'.heap.size w' w'') := fun j w' h1 => jobMayBe_any s q a len cap j w' hl hs h1
  have hw0 : IntKind.i64.wrap (nx - 1) = nx - 1 := by apply wrap_in <;> omega
  obtain ⟨W, hW⟩ : ∃ W : World, W = (w.alloc (.cells #[.int .i64 s, .slice a len cap, .int .i64 q] 24)).alloc (.cells #[.int .i64 nx, .slice ja jl jc] 27) := ⟨_, rfl⟩
  have hB : Below w.heap.size w W := by rw [hW]; exact ((Below.refl _ _).alloc (Nat.le_refl _) _).alloc (by simp) _
  have b2 : BoxN W (w.heap.size + 1) 2 [.int .i64 nx, .slice ja jl jc] := by rw [hW]; simpa using boxn_new (w.alloc (.cells #[.int .i64 s, .slice a len cap, .int .i64 q] 24)) #[.int .i64 nx, .slice ja jl jc] 27 2 rfl
  have b1 : BoxN W w.heap.size 3 [.int .i64 s, .slice a len cap, .int .i64 q] := by rw [hW]; exact (boxn_new w #[.int .i64 s, .slice a len cap, .int .i64 q] 24 3 rfl).below (B := (w.alloc (.cells #[.int .i64 s, .slice a len cap, .int .i64 q] 24)).heap.size) ((Below.refl _ _).alloc (Nat.le_refl _) _) (by simp)
  have c0 := (b1.c 0 (by decide)).1
  have c1 := (b1.c 1 (by decide)).1
  have c2 := (b1.c 2 (by decide)).1
  have k0 := (b2.c 0 (by decide)).1
  have k1 := (b2.c 1 (by decide)).1
  simp only [List.getD_cons_zero, List.getD_cons_succ] at c0 c1 c2 k0 k1
  have z1 := b1.lt
  have z2 := b2.lt
  have hjW := hj.below hB
  obtain ⟨R, eR⟩ : ∃ R, R = jbsOK s (len : Int) nx js := ⟨_, rfl⟩
  have HR : Hid (R = (decide (jl ≤ 6) && jbsGo s (len : Int) nx 1 (js.drop 0))) := by rw [eR, ← HL.out]; rfl
  rw [← eR]
  clear eR hj
  go_enter Try.func8, Try.ntmps8
  go_upto_region 1 with (fail)
  rw [← hW]
  clear hW
  by_cases h6 : jl ≤ 6
  · have h6' : ¬ (6 : Int) < (jl : Int) := by omega
    have HR0 : Hid (R = jbsGo s (len : Int) nx 1 (js.drop 0)) := by show _ = _; rw [HR.out, decide_eq_true h6]; rfl
    go_upto_region 5 with (fail)
    go_wp2
    clear c0 c1 c2 k0 k1 z1 z2
    go_loopw [5, 7, 15] (fun s5 _ s15 wr => ∃ (k : Nat) (lo : Int), s15 = .int .i64 (k : Int) ∧ s5 = .int .i64 lo ∧ k ≤ jl ∧ 1 ≤ lo ∧ lo ≤ 1048577 ∧ Hid (R = jbsGo s (len : Int) nx lo (js.drop k)) ∧ Below W.heap.size W wr) (fun _ _ s15 _ => jl - (intOf s15).toNat)
    case atStart => exact ⟨0, 1, rfl, rfl, Nat.zero_le _, by omega, by omega, HR0.out, Below.refl _ _⟩
    case round =>
      obtain ⟨k, lo, rfl, rfl, hk, l0, l5, hR, hb⟩ := hrel
      replace b1 := b1.below hb b1.lt
      replace b2 := b2.below hb b2.lt
      have c0 := (b1.c 0 (by decide)).1
      have c1 := (b1.c 1 (by decide)).1
      have c2 := (b1.c 2 (by decide)).1
      have k0 := (b2.c 0 (by decide)).1
      have k1 := (b2.c 1 (by decide)).1
      simp only [List.getD_cons_zero, List.getD_cons_succ] at c0 c1 c2 k0 k1
      have z1 := b1.lt
      have z2 := b2.lt
      by_cases hlt : k < jl
      · have hlt' : (k : Int) < (jl : Int) := by omega
        have hkl : k < js.length := by rw [HL.out]; exact hlt
        have HS : Hid (R = (inR (js.getD k default).n lo (nx - 1) && jbOK s (len : Int) (js.getD k default) && jbsGo s (len : Int) nx ((js.getD k default).n + 1) (js.drop (k + 1)))) := by show _ = _; rw [hR.out, jbsGo_at hkl]
        have hjb := hjW.below hb
        have hjk := hjb.each _ (mem_at hkl)
        obtain ⟨b, off, rfl, zb, hc⟩ := hjb.row.2.2.2.2 (by omega)
        have hcells := hc k hlt
        have hJm := HJM.out (js.getD k default)
        obtain ⟨x, ex⟩ : ∃ x, x = js.getD k default := ⟨_, rfl⟩
        rw [← ex] at hcells HS hJm hjk
        clear ex hc hR
        obtain ⟨OKJ, eOK⟩ : ∃ O, O = jbOK s (len : Int) x := ⟨_, rfl⟩
        rw [← eOK] at HS hJm
        clear eOK
        obtain ⟨jn, st, ta, tl, tc, aa, al, ac, asks, age, tasks, asked⟩ := x
        have e0 := hcells 0 (by decide)
        have e1 := hcells 1 (by decide)
        have e2 := hcells 2 (by decide)
        have e3 := hcells 3 (by decide)
        have e4 := hcells 4 (by decide)
        have e5 := hcells 5 (by decide)
        simp only [JbV.cells, List.getElem?_cons_zero, List.getElem?_cons_succ, Nat.add_zero] at e0 e1 e2 e3 e4 e5
        simp only [JbV.val] at hJm HS
        clear hcells
        obtain ⟨V, hV⟩ : ∃ V : World, V = wr.alloc (.cells #[.int .i64 jn, .int .i64 st, .slice ta tl tc, .slice aa al ac, .int .i64 asks, .int .i64 age] 37) := ⟨_, rfl⟩
        have bV : Below wr.heap.size wr V := by rw [hV]; exact (Below.refl _ _).alloc (Nat.le_refl _) _
        have b3 : BoxN V wr.heap.size 6 [.int .i64 jn, .int .i64 st, .slice ta tl tc, .slice aa al ac, .int .i64 asks, .int .i64 age] := by rw [hV]; exact boxn_new wr #[.int .i64 jn, .int .i64 st, .slice ta tl tc, .slice aa al ac, .int .i64 asks, .int .i64 age] 37 6 rfl
        go_upto_region 7 with (fail)
        rw [← hV]
        clear c0 c1 c2 k0 k1 z1 z2 hV e0 e1 e2 e3 e4 e5
        replace b1 := b1.below bV b1.lt
        replace b2 := b2.below bV b2.lt
        replace hb : Below W.heap.size W V := hb.trans (bV.mono hb.size)
        replace hjk := hjk.below bV
        have c0 := (b1.c 0 (by decide)).1
        have c1 := (b1.c 1 (by decide)).1
        have c2 := (b1.c 2 (by decide)).1
        have k0 := (b2.c 0 (by decide)).1
        have k1 := (b2.c 1 (by decide)).1
        simp only [List.getD_cons_zero, List.getD_cons_succ] at c0 c1 c2 k0 k1
        have z1 := b1.lt
        have z2 := b2.lt
        have g0 := (b3.c 0 (by decide)).1
        have g1 := (b3.c 1 (by decide)).1
        have g2 := (b3.c 2 (by decide)).1
        have g3 := (b3.c 3 (by decide)).1
        have g4 := (b3.c 4 (by decide)).1
        have g5 := (b3.c 5 (by decide)).1
        simp only [List.getD_cons_zero, List.getD_cons_succ] at g0 g1 g2 g3 g4 g5
        have z3 := b3.lt
        cases h1 : inR jn lo (nx - 1) with
        | false =>
          go_wp2_with (go_at_call 7; refine (within_any _ _ _ _).mono ?_; rintro e u ⟨rfl, hu⟩; rw [hu, h1]; clear hu)
          go_ret
          exact ⟨by rw [HS.out, h1]; simp, hB.trans (hb.mono hB.size)⟩
        | true =>
          have hx := inR_of h1
          have hwx : IntKind.i64.wrap (jn + 1) = jn + 1 := by apply wrap_in <;> omega
          cases OKJ with
          | false =>
            go_wp2_with (first | (go_at_call 7; refine (within_any _ _ _ _).mono ?_; rintro e u ⟨rfl, hu⟩; rw [hu, h1]; clear hu) | (go_at_call 14; refine (hJm _ hjk).mono ?_; rintro e w5 ⟨rfl, hb5⟩))
            go_ret
            exact ⟨by rw [HS.out, h1]; simp, hB.trans ((hb.trans (hb5.mono hb.size)).mono hB.size)⟩
          | true =>
            have hrel2 : Hid (R = jbsGo s (len : Int) nx (jn + 1) (js.drop (k + 1))) := by show _ = _; rw [HS.out, h1]; simp
            clear HS
            go_wp2_with (first | (go_at_call 7; refine (within_any _ _ _ _).mono ?_; rintro e u ⟨rfl, hu⟩; rw [hu, h1]; clear hu) | (go_at_call 14; refine (hJm _ hjk).mono ?_; rintro e w5 ⟨rfl, hb5⟩; replace hb : Below W.heap.size W w5 := hb.trans (hb5.mono hb.size); replace b3 := b3.below hb5 b3.lt; clear g0 g1 g2 g3 g4 g5 z3; have g0 := (b3.c 0 (by decide)).1; simp only [List.getD_cons_zero] at g0; have z3 := b3.lt))
            go_roundw
            case rel => exact ⟨k + 1, jn + 1, by go_num, rfl, by omega, by omega, by omega, hrel2.out, hb⟩
            case measure => simp [intOf]; omega
      · obtain rfl : k = jl := by omega
        have hT : R = true := by rw [hR.out, List.drop_of_length_le (by rw [HL.out]; exact Nat.le_refl _)]; rfl
        go_wp2
        go_ret
        exact ⟨by rw [hT]; rfl, hB.trans (hb.mono hB.size)⟩
  · have h6' : (6 : Int) < (jl : Int) := by omega
    have hF : R = false := by rw [HR.out, decide_eq_false h6]; rfl
    go_wp2
    go_ret
    exact ⟨by rw [hF]; rfl, hB⟩

set_option maxRecDepth 100000 in
set_option maxHeartbeats 4000000 in
theorem deskCheck_any (s q : Int) (a : Option Addr) (len cap : Nat) (ls : List (Int × Int)) (nx : Int) (ja : Option Addr) (jl jc : Nat) (js : List JbV) (w : World) (h : IsLabs w a len cap ls) (hj : IsJobs w ja jl jc js) :
    Calls Try.prog 4 #[.agg #[.int .i64 s, .slice a len cap, .int .i64 q], .agg #[.int .i64 nx, .slice ja jl jc]] w fun e w' => e = .returned (.int .i64 (dkErr s ls q nx js)) ∧ Below w.heap.size w w' := by
  have hC := fun w' h1 => check_any s q a len cap ls w' h1
  have hz : cfgFault s ls q = 0 → len ≤ 6 ∧ 1 ≤ s ∧ s ≤ 4 := fun e => by
    have h1 : ls.length = len := h.1
    have := cfg_zero e
    omega
  have HN : Hid (ls.length = len) := h.1
  obtain ⟨F, eF⟩ : ∃ F, F = cfgFault s ls q := ⟨_, rfl⟩
  obtain ⟨R, eR⟩ : ∃ R, R = dkErr s ls q nx js := ⟨_, rfl⟩
  have HR : Hid (R = if F = 0 then (if inR nx 1 1048577 && jbsOK s (len : Int) nx js then 0 else 9) else F) := by rw [eR, eF, ← HN.out]; rfl
  rw [← eR]
  rw [← eF] at hC hz
  clear eR eF
  obtain ⟨W, hW⟩ : ∃ W : World, W = (w.alloc (.cells #[.int .i64 s, .slice a len cap, .int .i64 q] 24)).alloc (.cells #[.int .i64 nx, .slice ja jl jc] 27) := ⟨_, rfl⟩
  have hB : Below w.heap.size w W := by rw [hW]; exact ((Below.refl _ _).alloc (Nat.le_refl _) _).alloc (by simp) _
  have b2 : BoxN W (w.heap.size + 1) 2 [.int .i64 nx, .slice ja jl jc] := by rw [hW]; simpa using boxn_new (w.alloc (.cells #[.int .i64 s, .slice a len cap, .int .i64 q] 24)) #[.int .i64 nx, .slice ja jl jc] 27 2 rfl
  have b1 : BoxN W w.heap.size 3 [.int .i64 s, .slice a len cap, .int .i64 q] := by rw [hW]; exact (boxn_new w #[.int .i64 s, .slice a len cap, .int .i64 q] 24 3 rfl).below (B := (w.alloc (.cells #[.int .i64 s, .slice a len cap, .int .i64 q] 24)).heap.size) ((Below.refl _ _).alloc (Nat.le_refl _) _) (by simp)
  have c0 := (b1.c 0 (by decide)).1
  have c1 := (b1.c 1 (by decide)).1
  have c2 := (b1.c 2 (by decide)).1
  have k0 := (b2.c 0 (by decide)).1
  have k1 := (b2.c 1 (by decide)).1
  simp only [List.getD_cons_zero, List.getD_cons_succ] at c0 c1 c2 k0 k1
  have z1 := b1.lt
  have z2 := b2.lt
  have hjW := hj.below hB
  have hcW := h.below hB
  have hb := Below.refl W.heap.size W
  go_enter Try.func4, Try.ntmps4
  go_upto_region 1 with (fail)
  rw [← hW]
  clear hW
  by_cases hF : F = 0
  · subst hF
    obtain ⟨z6, zs⟩ := hz rfl
    cases h1 : inR nx 1 1048577 with
    | false =>
      have HR1 : Hid (R = 9) := by show _ = _; rw [HR.out, if_pos rfl, h1]; rfl
      clear HR
      go_wp2_with (first | (go_at_call 6; refine (hC _ hcW).mono ?_; rintro e w3 ⟨rfl, hb3⟩; clear c0 c1 c2 k0 k1 z1 z2; replace b1 := b1.below hb3 b1.lt; replace b2 := b2.below hb3 b2.lt; have c0 := (b1.c 0 (by decide)).1; have c1 := (b1.c 1 (by decide)).1; have c2 := (b1.c 2 (by decide)).1; have k0 := (b2.c 0 (by decide)).1; have k1 := (b2.c 1 (by decide)).1; simp only [List.getD_cons_zero, List.getD_cons_succ] at c0 c1 c2 k0 k1; have z1 := b1.lt; have z2 := b2.lt; replace hb : Below W.heap.size W w3 := hb.trans (hb3.mono hb.size)) | (go_at_call 7; refine (within_any _ _ _ _).mono ?_; rintro e u ⟨rfl, hu⟩; rw [hu, h1]; clear hu))
      go_ret
      exact ⟨by rw [HR1.out]; rfl, hB.trans (hb.mono hB.size)⟩
    | true =>
      have hJs := fun w' k => jobsMayBe_any s q a len cap nx ja jl jc js w' z6 zs k h1
      obtain ⟨JO, eJO⟩ : ∃ R, R = jbsOK s (len : Int) nx js := ⟨_, rfl⟩
      have HR1 : Hid (R = if JO then 0 else 9) := by show _ = _; rw [HR.out, if_pos rfl, h1, eJO]; rfl
      rw [← eJO] at hJs
      clear eJO HR
      cases JO
      all_goals
        go_wp2_with (first | (go_at_call 6; refine (hC _ hcW).mono ?_; rintro e w3 ⟨rfl, hb3⟩; clear c0 c1 c2 k0 k1 z1 z2; replace b1 := b1.below hb3 b1.lt; replace b2 := b2.below hb3 b2.lt; have c0 := (b1.c 0 (by decide)).1; have c1 := (b1.c 1 (by decide)).1; have c2 := (b1.c 2 (by decide)).1; have k0 := (b2.c 0 (by decide)).1; have k1 := (b2.c 1 (by decide)).1; simp only [List.getD_cons_zero, List.getD_cons_succ] at c0 c1 c2 k0 k1; have z1 := b1.lt; have z2 := b2.lt; replace hb : Below W.heap.size W w3 := hb.trans (hb3.mono hb.size)) | (go_at_call 7; refine (within_any _ _ _ _).mono ?_; rintro e u ⟨rfl, hu⟩; rw [hu, h1]; clear hu) | (go_at_call 8; refine (hJs _ (hjW.below hb)).mono ?_; rintro e w4 ⟨rfl, hb4⟩; replace hb : Below W.heap.size W w4 := hb.trans (hb4.mono hb.size)))
        go_ret
        exact ⟨by rw [HR1.out]; rfl, hB.trans (hb.mono hB.size)⟩
  · have HR1 : Hid (R = F) := by show _ = _; rw [HR.out, if_neg hF]
    clear HR
    go_wp2_with (go_at_call 6; refine (hC _ hcW).mono ?_; rintro e w3 ⟨rfl, hb3⟩; replace hb : Below W.heap.size W w3 := hb.trans (hb3.mono hb.size))
    go_ret
    exact ⟨by rw [HR1.out]; rfl, hB.trans (hb.mono hB.size)⟩
end Go.Proofs.Ytbnlibeokekpfaa.Co
