/- The contract of the document's DeskFault. -/
import Derived.Test.YtbnlibeokekpfaaCoRef
namespace Go.Proofs.Ytbnlibeokekpfaa.Co
open Go.ChangeShapes Go.WideShapes Go.ChangeAt Go.RowKit
open Go.Proofs.Ytbnlibeokekpfaa.St (IsRow drop_at take_at BoxN boxn_new)
set_option linter.unusedVariables false

set_option maxRecDepth 100000 in
set_option maxHeartbeats 8000000 in
theorem deskFault_any (s q : Int) (a : Option Addr) (len cap : Nat) (ls : List (Int × Int)) (nx : Int) (ja : Option Addr) (jl jc : Nat) (js : List JbV) (w : World) (h : IsLabs w a len cap ls) (hj : IsJobs w ja jl jc js) :
    Calls Try.prog 5 #[.agg #[.int .i64 s, .slice a len cap, .int .i64 q], .agg #[.int .i64 nx, .slice ja jl jc]] w fun e w' => e = .returned (.int .i64 (dkErr s ls q nx js)) ∧ Below w.heap.size w w' := by
  have hC := fun w' h1 => fault_any s q a len cap ls w' h1
  have hz : cfgFault s ls q = 0 → len ≤ 6 ∧ 1 ≤ s ∧ s ≤ 4 := fun e => by
    have h1 : ls.length = len := h.1
    have := cfg_zero e
    omega
  have HN : Hid (ls.length = len) := h.1
  have HL : Hid (js.length = jl) := hj.row.1
  have hmx : jl ≤ maxLen := Nat.le_trans hj.row.2.1 hj.row.2.2.1
  unfold maxLen at hmx
  obtain ⟨F, eF⟩ : ∃ F, F = cfgFault s ls q := ⟨_, rfl⟩
  obtain ⟨J, eJ⟩ : ∃ J, J = jbsGo s (len : Int) nx 1 js := ⟨_, rfl⟩
  obtain ⟨R, eR⟩ : ∃ R, R = dkErr s ls q nx js := ⟨_, rfl⟩
  have HR0 : Hid (R = if F = 0 then (if inR nx 1 1048577 && (decide (jl ≤ 6) && J) then 0 else 9) else F) := by rw [eR, eF, eJ, ← HN.out, ← HL.out]; rfl
  have HJ0 : Hid (J = jbsGo s (len : Int) nx 1 (js.drop 0)) := eJ
  rw [← eR]
  rw [← eF] at hC hz
  clear eR eF eJ
  obtain ⟨W, hW⟩ : ∃ W : World, W = (w.alloc (.cells #[.int .i64 s, .slice a len cap, .int .i64 q] 24)).alloc (.cells #[.int .i64 nx, .slice ja jl jc] 27) := ⟨_, rfl⟩
  have hB : Below w.heap.size w W := by rw [hW]; exact ((Below.refl _ _).alloc (Nat.le_refl _) _).alloc (by simp) _
  have b2 : BoxN W (w.heap.size + 1) 2 [.int .i64 nx, .slice ja jl jc] := by rw [hW]; simpa using boxn_new (w.alloc (.cells #[.int .i64 s, .slice a len cap, .int .i64 q] 24)) #[.int .i64 nx, .slice ja jl jc] 27 2 rfl
  have b1 : BoxN W w.heap.size 3 [.int .i64 s, .slice a len cap, .int .i64 q] := by rw [hW]; exact (boxn_new w #[.int .i64 s, .slice a len cap, .int .i64 q] 24 3 rfl).below (B := (w.alloc (.cells #[.int .i64 s, .slice a len cap, .int .i64 q] 24)).heap.size) ((Below.refl _ _).alloc (Nat.le_refl _) _) (by simp)
  have c0 := (b1.c 0 (by decide)).1
  have c1 := (b1.c 1 (by decide)).1
  have c2 := (b1.c 2 (by decide)).1
  have k0 := (b2.c 0 (by decide)).1
  have k1 := (b2.c 1 (by decide)).1
  simp only [List.getD_cons_zero, List.getD_cons_succ] at c0 c1 c2 k0 k1
  have z1 := b1.lt
  have z2 := b2.lt
  have hjW := hj.below hB
  have hcW := h.below hB
  have hb := Below.refl W.heap.size W
  have b1W := b1
  have b2W := b2
  go_enter Try.func5, Try.ntmps5
  go_upto_region 1 with (fail)
  rw [← hW]
  clear hW
  by_cases hF0 : F = 0
  · subst hF0
    obtain ⟨z6, zs⟩ := hz rfl
    clear hz
    cases h1 : inR nx 1 1048577 with
    | false =>
      have hF : Hid (R = 9) := by show _ = _; rw [HR0.out, if_pos rfl, h1]; rfl
      clear HR0
      go_wp2_with (first | (go_at_call 9; refine (hC _ hcW).mono ?_; rintro e w3 ⟨rfl, hb3⟩; clear c0 c1 c2 k0 k1 z1 z2; replace b1 := b1.below hb3 b1.lt; replace b2 := b2.below hb3 b2.lt; have c0 := (b1.c 0 (by decide)).1; have c1 := (b1.c 1 (by decide)).1; have c2 := (b1.c 2 (by decide)).1; have k0 := (b2.c 0 (by decide)).1; have k1 := (b2.c 1 (by decide)).1; simp only [List.getD_cons_zero, List.getD_cons_succ] at c0 c1 c2 k0 k1; have z1 := b1.lt; have z2 := b2.lt; replace hb : Below W.heap.size W w3 := hb.trans (hb3.mono hb.size)) | (go_at_call 10; refine (in_any _ _ _ _).mono ?_; rintro e u ⟨rfl, hu⟩; rw [hu, h1]; clear hu))
      go_ret
      exact ⟨by rw [hF.out]; rfl, hB.trans (hb.mono hB.size)⟩
    | true =>
      by_cases h6 : jl ≤ 6
      · have h6' : ¬ (6 : Int) < (jl : Int) := by omega
        have HR : Hid (R = if J then 0 else 9) := by show _ = _; rw [HR0.out, if_pos rfl, h1, decide_eq_true h6]; simp
        clear HR0
        have HJM : Hid (∀ j w', IsJob w' j → Calls Try.prog 11 #[.agg #[.int .i64 s, .slice a len cap, .int .i64 q], .int .i64 nx, j.val] w' fun e w'' => e = .returned (.bool (inR j.n 1 (nx - 1) && jbOK s (len : Int) j)) ∧ Below w'.heap.size w' w'') := fun j w' k => jobMay_any s q a len cap nx j w' z6 zs k h1
        have hn2 := inR_of h1
        go_upto_region 7 with (first | (go_at_call 9; refine (hC _ hcW).mono ?_; rintro e w3 ⟨rfl, hb3⟩; clear c0 c1 c2 k0 k1 z1 z2; replace b1 := b1.below hb3 b1.lt; replace b2 := b2.below hb3 b2.lt; have c0 := (b1.c 0 (by decide)).1; have c1 := (b1.c 1 (by decide)).1; have c2 := (b1.c 2 (by decide)).1; have k0 := (b2.c 0 (by decide)).1; have k1 := (b2.c 1 (by decide)).1; simp only [List.getD_cons_zero, List.getD_cons_succ] at c0 c1 c2 k0 k1; have z1 := b1.lt; have z2 := b2.lt; replace hb : Below W.heap.size W w3 := hb.trans (hb3.mono hb.size)) | (go_at_call 10; refine (in_any _ _ _ _).mono ?_; rintro e u ⟨rfl, hu⟩; rw [hu, h1]; clear hu))
        have hbo := hb
        have b1o := b1
        have b2o := b2
        go_wp2
        clear c0 c1 c2 k0 k1 z1 z2 hb b1 b2 h1 hC hcW
        rename World => wo
        go_loopw [6] (fun s6 wr => ∃ (k : Nat), s6 = .int .i64 (k : Int) ∧ k ≤ jl ∧ Hid (J = jbsGo s (len : Int) nx (prevJ js k + 1) (js.drop k)) ∧ 0 ≤ prevJ js k ∧ Below W.heap.size W wr) (fun s6 _ => jl - (intOf s6).toNat)
        case atStart => exact ⟨0, rfl, Nat.zero_le _, HJ0.out, Int.le_refl _, hbo⟩
        case round =>
          obtain ⟨k, rfl, hk, hT, hp0, hb⟩ := hrel
          have b1 := b1W.below hb b1W.lt
          have b2 := b2W.below hb b2W.lt
          have c0 := (b1.c 0 (by decide)).1
          have c1 := (b1.c 1 (by decide)).1
          have c2 := (b1.c 2 (by decide)).1
          have k0 := (b2.c 0 (by decide)).1
          have k1 := (b2.c 1 (by decide)).1
          simp only [List.getD_cons_zero, List.getD_cons_succ] at c0 c1 c2 k0 k1
          have z1 := b1.lt
          have z2 := b2.lt
          by_cases hlt : k < jl
          · have hlt' : (k : Int) < (jl : Int) := by omega
            have hkl : k < js.length := by rw [HL.out]; exact hlt
            have HPN : Hid (prevJ js (k + 1) = (js.getD k default).n) := rfl
            have HS : Hid (J = ((inR (js.getD k default).n 1 (nx - 1) && jbOK s (len : Int) (js.getD k default)) && decide (prevJ js k < (js.getD k default).n) && jbsGo s (len : Int) nx ((js.getD k default).n + 1) (js.drop (k + 1)))) := by
              show _ = _
              rw [hT.out, jbsGo_at hkl, step_in (b := 1) (by omega) rfl, Bool.and_right_comm (inR (js.getD k default).n 1 (nx - 1))]
            have hjb := hjW.below hb
            have hjk := hjb.each _ (mem_at hkl)
            obtain ⟨b, off, rfl, zb, hc⟩ := hjb.row.2.2.2.2 (by omega)
            have hcells := hc k hlt
            have hpc : ∀ i, i + 1 = k → wr.cell? ⟨b, off + i * 6, none⟩ = some (.int .i64 (js.getD i default).n) := fun i hi => hc i (by omega) 0 (by decide)
            have hJm := HJM.out (js.getD k default)
            obtain ⟨x, ex⟩ : ∃ x, x = js.getD k default := ⟨_, rfl⟩
            rw [← ex] at hcells HS hJm hjk HPN
            clear ex hc hT
            obtain ⟨JM, eJM⟩ : ∃ O, O = (inR x.n 1 (nx - 1) && jbOK s (len : Int) x) := ⟨_, rfl⟩
            rw [← eJM] at HS hJm
            have hJM1 : JM = true → 1 ≤ x.n := fun e => by
              rw [e] at eJM
              have := eJM.symm
              simp only [Bool.and_eq_true] at this
              exact (inR_of this.1).1
            clear eJM
            obtain ⟨jn, st, ta, tl, tc, aa, al, ac, asks, age, tasks, asked⟩ := x
            have e0 := hcells 0 (by decide)
            have e1 := hcells 1 (by decide)
            have e2 := hcells 2 (by decide)
            have e3 := hcells 3 (by decide)
            have e4 := hcells 4 (by decide)
            have e5 := hcells 5 (by decide)
            simp only [JbV.cells, List.getElem?_cons_zero, List.getElem?_cons_succ, Nat.add_zero] at e0 e1 e2 e3 e4 e5
            simp only [JbV.val] at hJm
            simp only [] at HS HPN hJM1
            clear hcells
            go_upto_region 9 with (fail)
            cases JM with
            | false =>
              clear hJM1
              have y0 := fun d os => cell_regrown c0 d os
              have y1 := fun d os => cell_regrown c1 d os
              have y2 := fun d os => cell_regrown c2 d os
              have y3 := fun d os => cell_regrown k0 d os
              have y4 := fun d os => cell_regrown k1 d os
              have y5 := fun d os => cell_regrown e0 d os
              have y6 := fun d os => cell_regrown e1 d os
              have y7 := fun d os => cell_regrown e2 d os
              have y8 := fun d os => cell_regrown e3 d os
              have y9 := fun d os => cell_regrown e4 d os
              have y10 := fun d os => cell_regrown e5 d os
              refine wp_region_quiet_below (by kernel_rfl) (by kernel_rfl) ?_
              repeat (go_big_quiet_step ((exact Calls.regrown_of (hJm _ (hjk.below (below_regrown _ _ _))))))
              refine wpQuiet_nil ?_
              intro _ hw'
              obtain ⟨⟨dq, osq⟩, hw''⟩ := hw'
              subst hw''
              have bR := below_regrown wr dq osq
              obtain ⟨V, eV⟩ : ∃ V, V = Go.Sort.grow (Go.redrawn wr dq) osq := ⟨_, rfl⟩
              rw [← eV] at bR ⊢
              clear eV y0 y1 y2 y3 y4 y5 y6 y7 y8 y9 y10
              have hbV : Below W.heap.size W V := hb.trans (bR.mono hb.size)
              have hF : Hid (R = 9) := by show _ = _; rw [HR.out, HS.out]; simp
              clear HR HS
              go_wp2
              go_ret
              exact ⟨by rw [hF.out]; rfl, hB.trans (hbV.mono hB.size)⟩
            | true =>
              have h15 := hJM1 rfl
              clear hJM1
              cases k with
              | zero =>
                have hpv : decide (prevJ js 0 < jn) = true := decide_eq_true (by show (0 : Int) < jn; omega)
                rw [hpv] at HS
                clear hpv hpc
                simp only [Nat.zero_mul, Nat.add_zero] at e0 e1 e2 e3 e4 e5
                have hrel2 : Hid (J = jbsGo s (len : Int) nx (prevJ js (0 + 1) + 1) (js.drop (0 + 1))) := by show _ = _; rw [HS.out, HPN.out]; simp
                have y0 := fun d os => cell_regrown c0 d os
                have y1 := fun d os => cell_regrown c1 d os
                have y2 := fun d os => cell_regrown c2 d os
                have y3 := fun d os => cell_regrown k0 d os
                have y4 := fun d os => cell_regrown k1 d os
                have y5 := fun d os => cell_regrown e0 d os
                have y6 := fun d os => cell_regrown e1 d os
                have y7 := fun d os => cell_regrown e2 d os
                have y8 := fun d os => cell_regrown e3 d os
                have y9 := fun d os => cell_regrown e4 d os
                have y10 := fun d os => cell_regrown e5 d os
                refine wp_region_quiet_below (by kernel_rfl) (by kernel_rfl) ?_
                repeat (go_big_quiet_step ((exact Calls.regrown_of (hJm _ (hjk.below (below_regrown _ _ _))))))
                refine wpQuiet_nil ?_
                intro _ hw'
                obtain ⟨⟨dq, osq⟩, hw''⟩ := hw'
                subst hw''
                have bR := below_regrown wr dq osq
                obtain ⟨V, eV⟩ : ∃ V, V = Go.Sort.grow (Go.redrawn wr dq) osq := ⟨_, rfl⟩
                rw [← eV] at bR ⊢
                clear eV y0 y1 y2 y3 y4 y5 y6 y7 y8 y9 y10
                have hbV : Below W.heap.size W V := hb.trans (bR.mono hb.size)
                go_wp2
                go_roundw
                case rel => exact ⟨0 + 1, by go_num, by omega, hrel2.out, by rw [HPN.out]; omega, hbV⟩
                case measure => simp [intOf]; omega
              | succ i =>
                have hp := hpc i rfl
                obtain ⟨pv, epv⟩ : ∃ pv, pv = (js.getD i default).n := ⟨_, rfl⟩
                have hpA : prevJ js (i + 1) = pv := by rw [epv]; rfl
                rw [hpA] at HS hp0
                rw [← epv] at hp
                clear epv hpA hpc
                have hj0 : decide ((0 : Int) < (i : Int) + 1) = true := by simp
                have hj1 : (0 : Int) < (i : Int) + 1 := by omega
                have hjm : ((i + 1 : Nat) : Int) - 1 = (i : Int) := by omega
                have hjl : (i : Int) < (jl : Int) := by omega
                by_cases hle : jn ≤ pv
                · have hd : decide (pv < jn) = false := by simp; omega
                  have hd' : decide (jn ≤ pv) = true := by simp [hle]
                  rw [hd] at HS
                  have y0 := fun d os => cell_regrown c0 d os
                  have y1 := fun d os => cell_regrown c1 d os
                  have y2 := fun d os => cell_regrown c2 d os
                  have y3 := fun d os => cell_regrown k0 d os
                  have y4 := fun d os => cell_regrown k1 d os
                  have y5 := fun d os => cell_regrown e0 d os
                  have y6 := fun d os => cell_regrown e1 d os
                  have y7 := fun d os => cell_regrown e2 d os
                  have y8 := fun d os => cell_regrown e3 d os
                  have y9 := fun d os => cell_regrown e4 d os
                  have y10 := fun d os => cell_regrown e5 d os
                  have y11 := fun d os => cell_regrown hp d os
                  refine wp_region_quiet_below (by kernel_rfl) (by kernel_rfl) ?_
                  repeat (go_big_quiet_step ((exact Calls.regrown_of (hJm _ (hjk.below (below_regrown _ _ _))))))
                  refine wpQuiet_nil ?_
                  intro _ hw'
                  obtain ⟨⟨dq, osq⟩, hw''⟩ := hw'
                  subst hw''
                  have bR := below_regrown wr dq osq
                  obtain ⟨V, eV⟩ : ∃ V, V = Go.Sort.grow (Go.redrawn wr dq) osq := ⟨_, rfl⟩
                  rw [← eV] at bR ⊢
                  clear eV y0 y1 y2 y3 y4 y5 y6 y7 y8 y9 y10 y11
                  have hbV : Below W.heap.size W V := hb.trans (bR.mono hb.size)
                  have hF : Hid (R = 9) := by show _ = _; rw [HR.out, HS.out]; simp
                  clear HR HS
                  go_wp2
                  go_ret
                  exact ⟨by rw [hF.out]; rfl, hB.trans (hbV.mono hB.size)⟩
                · have hd : decide (pv < jn) = true := by simp; omega
                  have hd' : decide (jn ≤ pv) = false := by simp [hle]
                  rw [hd] at HS
                  clear hd
                  have hrel2 : Hid (J = jbsGo s (len : Int) nx (prevJ js (i + 1 + 1) + 1) (js.drop (i + 1 + 1))) := by show _ = _; rw [HS.out, HPN.out]; simp
                  have y0 := fun d os => cell_regrown c0 d os
                  have y1 := fun d os => cell_regrown c1 d os
                  have y2 := fun d os => cell_regrown c2 d os
                  have y3 := fun d os => cell_regrown k0 d os
                  have y4 := fun d os => cell_regrown k1 d os
                  have y5 := fun d os => cell_regrown e0 d os
                  have y6 := fun d os => cell_regrown e1 d os
                  have y7 := fun d os => cell_regrown e2 d os
                  have y8 := fun d os => cell_regrown e3 d os
                  have y9 := fun d os => cell_regrown e4 d os
                  have y10 := fun d os => cell_regrown e5 d os
                  have y11 := fun d os => cell_regrown hp d os
                  refine wp_region_quiet_below (by kernel_rfl) (by kernel_rfl) ?_
                  repeat (go_big_quiet_step ((exact Calls.regrown_of (hJm _ (hjk.below (below_regrown _ _ _))))))
                  refine wpQuiet_nil ?_
                  intro _ hw'
                  obtain ⟨⟨dq, osq⟩, hw''⟩ := hw'
                  subst hw''
                  have bR := below_regrown wr dq osq
                  obtain ⟨V, eV⟩ : ∃ V, V = Go.Sort.grow (Go.redrawn wr dq) osq := ⟨_, rfl⟩
                  rw [← eV] at bR ⊢
                  clear eV y0 y1 y2 y3 y4 y5 y6 y7 y8 y9 y10 y11
                  have hbV : Below W.heap.size W V := hb.trans (bR.mono hb.size)
                  go_wp2
                  go_roundw
                  case rel => exact ⟨i + 1 + 1, by go_num, by omega, hrel2.out, by rw [HPN.out]; omega, hbV⟩
                  case measure => simp [intOf]; omega
          · obtain rfl : k = jl := by omega
            have hTT : J = true := by rw [hT.out, List.drop_of_length_le (by rw [HL.out]; exact Nat.le_refl _)]; rfl
            have hF : Hid (R = 0) := by show _ = _; rw [HR.out, hTT]; rfl
            clear HR hT hTT
            go_wp2
            go_ret
            exact ⟨by rw [hF.out]; rfl, hB.trans (hb.mono hB.size)⟩
      · have h6' : (6 : Int) < (jl : Int) := by omega
        have hF : Hid (R = 9) := by show _ = _; rw [HR0.out, if_pos rfl, h1, decide_eq_false h6]; rfl
        clear HR0
        go_wp2_with (first | (go_at_call 9; refine (hC _ hcW).mono ?_; rintro e w3 ⟨rfl, hb3⟩; clear c0 c1 c2 k0 k1 z1 z2; replace b1 := b1.below hb3 b1.lt; replace b2 := b2.below hb3 b2.lt; have c0 := (b1.c 0 (by decide)).1; have c1 := (b1.c 1 (by decide)).1; have c2 := (b1.c 2 (by decide)).1; have k0 := (b2.c 0 (by decide)).1; have k1 := (b2.c 1 (by decide)).1; simp only [List.getD_cons_zero, List.getD_cons_succ] at c0 c1 c2 k0 k1; have z1 := b1.lt; have z2 := b2.lt; replace hb : Below W.heap.size W w3 := hb.trans (hb3.mono hb.size)) | (go_at_call 10; refine (in_any _ _ _ _).mono ?_; rintro e u ⟨rfl, hu⟩; rw [hu, h1]; clear hu))
        go_ret
        exact ⟨by rw [hF.out]; rfl, hB.trans (hb.mono hB.size)⟩
  · have HR1 : Hid (R = F) := by show _ = _; rw [HR0.out, if_neg hF0]
    clear HR0
    go_wp2_with (go_at_call 9; refine (hC _ hcW).mono ?_; rintro e w3 ⟨rfl, hb3⟩; replace hb : Below W.heap.size W w3 := hb.trans (hb3.mono hb.size))
    go_ret
    exact ⟨by rw [HR1.out]; rfl, hB.trans (hb.mono hB.size)⟩
end Go.Proofs.Ytbnlibeokekpfaa.Co
