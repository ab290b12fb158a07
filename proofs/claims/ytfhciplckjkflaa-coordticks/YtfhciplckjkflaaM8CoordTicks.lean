/- Texts of this claim, one behind the other. -/
import Derived.Test.YtfhciplckjkflaaM7CoordTicks
import Derived.Test.YtfhciplckjkflaaM4CoordTicks
import Derived.Deep.AppendLies
import Derived.Laws.AppendOwnNone
import Derived.Laws.OwnMore
import Derived.Laws.AppendOwn
/- The contract of the document's DeskFault. -/
namespace Go.Proofs.Ytfhciplckjkflaa.Co
open Go.ChangeShapes Go.WideShapes Go.ChangeAt Go.RowKit
open Go.Proofs.Ytfhciplckjkflaa.St (IsRow drop_at take_at BoxN boxn_new)
set_option linter.unusedVariables false

set_option maxRecDepth 100000 in
set_option maxHeartbeats 8000000 in
theorem deskFault_any (s q : Int) (a : Option Addr) (len cap : Nat) (ls : List (Int × Int)) (nx : Int) (ja : Option Addr) (jl jc : Nat) (js : List JbV) (w : World) (h : IsLabs w a len cap ls) (hj : IsJobs w ja jl jc js) :
    Calls Try.prog 57 #[.agg #[.int .i64 s, .slice a len cap, .int .i64 q], .agg #[.int .i64 nx, .slice ja jl jc]] w fun e w' => e = .returned (.int .i64 (dkErr s ls q nx js)) ∧ Below w.heap.size w w' := by
  have hC := fun w' h1 => fault_any s q a len cap ls w' h1
  have hz : cfgFault s ls q = 0 → len ≤ 6 ∧ 1 ≤ s ∧ s ≤ 4 := fun e => by
    have h1 : ls.length = len := h.1
    have := cfg_zero e
    omega
  have HN : Hid (ls.length = len) := h.1
  have HL : Hid (js.length = jl) := hj.row.1
  have hmx : jl ≤ maxLen := Nat.le_trans hj.row.2.1 hj.row.2.2.1
  unfold maxLen at hmx
  obtain ⟨F, eF⟩ : ∃ F, F = cfgFault s ls q := ⟨_, rfl⟩
  obtain ⟨J, eJ⟩ : ∃ J, J = jbsGo s (len : Int) nx 1 js := ⟨_, rfl⟩
  obtain ⟨R, eR⟩ : ∃ R, R = dkErr s ls q nx js := ⟨_, rfl⟩
  have HR0 : Hid (R = if F = 0 then (if inR nx 1 1048577 && (decide (jl ≤ 6) && J) then 0 else 9) else F) := by rw [eR, eF, eJ, ← HN.out, ← HL.out]; rfl
  have HJ0 : Hid (J = jbsGo s (len : Int) nx 1 (js.drop 0)) := eJ
  rw [← eR]
  rw [← eF] at hC hz
  clear eR eF eJ
  obtain ⟨W, hW⟩ : ∃ W : World, W = (w.alloc (.cells #[.int .i64 s, .slice a len cap, .int .i64 q] 24)).alloc (.cells #[.int .i64 nx, .slice ja jl jc] 27) := ⟨_, rfl⟩
  have hB : Below w.heap.size w W := by rw [hW]; exact ((Below.refl _ _).alloc (Nat.le_refl _) _).alloc (by simp) _
  have b2 : BoxN W (w.heap.size + 1) 2 [.int .i64 nx, .slice ja jl jc] := by rw [hW]; simpa using boxn_new (w.alloc (.cells #[.int .i64 s, .slice a len cap, .int .i64 q] 24)) #[.int .i64 nx, .slice ja jl jc] 27 2 rfl
  have b1 : BoxN W w.heap.size 3 [.int .i64 s, .slice a len cap, .int .i64 q] := by rw [hW]; exact (boxn_new w #[.int .i64 s, .slice a len cap, .int .i64 q] 24 3 rfl).below (B := (w.alloc (.cells #[.int .i64 s, .slice a len cap, .int .i64 q] 24)).heap.size) ((Below.refl _ _).alloc (Nat.le_refl _) _) (by simp)
  have c0 := (b1.c 0 (by decide)).1
  have c1 := (b1.c 1 (by decide)).1
  have c2 := (b1.c 2 (by decide)).1
  have k0 := (b2.c 0 (by decide)).1
  have k1 := (b2.c 1 (by decide)).1
  simp only [List.getD_cons_zero, List.getD_cons_succ] at c0 c1 c2 k0 k1
  have z1 := b1.lt
  have z2 := b2.lt
  have hjW := hj.below hB
  have hcW := h.below hB
  have hb := Below.refl W.heap.size W
  have b1W := b1
  have b2W := b2
  go_enter Try.func57, Try.ntmps57
  go_upto_region 1 with (fail)
  rw [← hW]
  clear hW
  by_cases hF0 : F = 0
  · subst hF0
    obtain ⟨z6, zs⟩ := hz rfl
    clear hz
    cases h1 : inR nx 1 1048577 with
    | false =>
      have hF : Hid (R = 9) := by show _ = _; rw [HR0.out, if_pos rfl, h1]; rfl
      clear HR0
      go_wp2_with (first | (go_at_call 76; refine (hC _ hcW).mono ?_; rintro e w3 ⟨rfl, hb3⟩; clear c0 c1 c2 k0 k1 z1 z2; replace b1 := b1.below hb3 b1.lt; replace b2 := b2.below hb3 b2.lt; have c0 := (b1.c 0 (by decide)).1; have c1 := (b1.c 1 (by decide)).1; have c2 := (b1.c 2 (by decide)).1; have k0 := (b2.c 0 (by decide)).1; have k1 := (b2.c 1 (by decide)).1; simp only [List.getD_cons_zero, List.getD_cons_succ] at c0 c1 c2 k0 k1; have z1 := b1.lt; have z2 := b2.lt; replace hb : Below W.heap.size W w3 := hb.trans (hb3.mono hb.size)) | (go_at_call 26; refine (in_any _ _ _ _).mono ?_; rintro e u ⟨rfl, hu⟩; rw [hu, h1]; clear hu))
      go_ret
      exact ⟨by rw [hF.out]; rfl, hB.trans (hb.mono hB.size)⟩
    | true =>
      by_cases h6 : jl ≤ 6
      · have h6' : ¬ (6 : Int) < (jl : Int) := by omega
        have HR : Hid (R = if J then 0 else 9) := by show _ = _; rw [HR0.out, if_pos rfl, h1, decide_eq_true h6]; simp
        clear HR0
        have HJM : Hid (∀ j w', IsJob w' j → Calls Try.prog 77 #[.agg #[.int .i64 s, .slice a len cap, .int .i64 q], .int .i64 nx, j.val] w' fun e w'' => e = .returned (.bool (inR j.n 1 (nx - 1) && jbOK s (len : Int) j)) ∧ Below w'.heap.size w' w'') := fun j w' k => jobMay_any s q a len cap nx j w' z6 zs k h1
        have hn2 := inR_of h1
        go_upto_region 7 with (first | (go_at_call 76; refine (hC _ hcW).mono ?_; rintro e w3 ⟨rfl, hb3⟩; clear c0 c1 c2 k0 k1 z1 z2; replace b1 := b1.below hb3 b1.lt; replace b2 := b2.below hb3 b2.lt; have c0 := (b1.c 0 (by decide)).1; have c1 := (b1.c 1 (by decide)).1; have c2 := (b1.c 2 (by decide)).1; have k0 := (b2.c 0 (by decide)).1; have k1 := (b2.c 1 (by decide)).1; simp only [List.getD_cons_zero, List.getD_cons_succ] at c0 c1 c2 k0 k1; have z1 := b1.lt; have z2 := b2.lt; replace hb : Below W.heap.size W w3 := hb.trans (hb3.mono hb.size)) | (go_at_call 26; refine (in_any _ _ _ _).mono ?_; rintro e u ⟨rfl, hu⟩; rw [hu, h1]; clear hu))
        have hbo := hb
        have b1o := b1
        have b2o := b2
        go_wp2
        clear c0 c1 c2 k0 k1 z1 z2 hb b1 b2 h1 hC hcW
        rename World => wo
        go_loopw [6] (fun s6 wr => ∃ (k : Nat), s6 = .int .i64 (k : Int) ∧ k ≤ jl ∧ Hid (J = jbsGo s (len : Int) nx (prevJ js k + 1) (js.drop k)) ∧ 0 ≤ prevJ js k ∧ Below W.heap.size W wr) (fun s6 _ => jl - (intOf s6).toNat)
        case atStart => exact ⟨0, rfl, Nat.zero_le _, HJ0.out, Int.le_refl _, hbo⟩
        case round =>
          obtain ⟨k, rfl, hk, hT, hp0, hb⟩ := hrel
          have b1 := b1W.below hb b1W.lt
          have b2 := b2W.below hb b2W.lt
          have c0 := (b1.c 0 (by decide)).1
          have c1 := (b1.c 1 (by decide)).1
          have c2 := (b1.c 2 (by decide)).1
          have k0 := (b2.c 0 (by decide)).1
          have k1 := (b2.c 1 (by decide)).1
          simp only [List.getD_cons_zero, List.getD_cons_succ] at c0 c1 c2 k0 k1
          have z1 := b1.lt
          have z2 := b2.lt
          by_cases hlt : k < jl
          · have hlt' : (k : Int) < (jl : Int) := by omega
            have hkl : k < js.length := by rw [HL.out]; exact hlt
            have HPN : Hid (prevJ js (k + 1) = (js.getD k default).n) := rfl
            have HS : Hid (J = ((inR (js.getD k default).n 1 (nx - 1) && jbOK s (len : Int) (js.getD k default)) && decide (prevJ js k < (js.getD k default).n) && jbsGo s (len : Int) nx ((js.getD k default).n + 1) (js.drop (k + 1)))) := by
              show _ = _
              rw [hT.out, jbsGo_at hkl, step_in (b := 1) (by omega) rfl, Bool.and_right_comm (inR (js.getD k default).n 1 (nx - 1))]
            have hjb := hjW.below hb
            have hjk := hjb.each _ (mem_at hkl)
            obtain ⟨b, off, rfl, zb, hc⟩ := hjb.row.2.2.2.2 (by omega)
            have hcells := hc k hlt
            have hpc : ∀ i, i + 1 = k → wr.cell? ⟨b, off + i * 6, none⟩ = some (.int .i64 (js.getD i default).n) := fun i hi => hc i (by omega) 0 (by decide)
            have hJm := HJM.out (js.getD k default)
            obtain ⟨x, ex⟩ : ∃ x, x = js.getD k default := ⟨_, rfl⟩
            rw [← ex] at hcells HS hJm hjk HPN
            clear ex hc hT
            obtain ⟨JM, eJM⟩ : ∃ O, O = (inR x.n 1 (nx - 1) && jbOK s (len : Int) x) := ⟨_, rfl⟩
            rw [← eJM] at HS hJm
            have hJM1 : JM = true → 1 ≤ x.n := fun e => by
              rw [e] at eJM
              have := eJM.symm
              simp only [Bool.and_eq_true] at this
              exact (inR_of this.1).1
            clear eJM
            obtain ⟨jn, st, ta, tl, tc, aa, al, ac, asks, age, tasks, asked⟩ := x
            have e0 := hcells 0 (by decide)
            have e1 := hcells 1 (by decide)
            have e2 := hcells 2 (by decide)
            have e3 := hcells 3 (by decide)
            have e4 := hcells 4 (by decide)
            have e5 := hcells 5 (by decide)
            simp only [JbV.cells, List.getElem?_cons_zero, List.getElem?_cons_succ, Nat.add_zero] at e0 e1 e2 e3 e4 e5
            simp only [JbV.val] at hJm
            simp only [] at HS HPN hJM1
            clear hcells
            go_upto_region 9 with (fail)
            cases JM with
            | false =>
              clear hJM1
              have y0 := fun d os => cell_regrown c0 d os
              have y1 := fun d os => cell_regrown c1 d os
              have y2 := fun d os => cell_regrown c2 d os
              have y3 := fun d os => cell_regrown k0 d os
              have y4 := fun d os => cell_regrown k1 d os
              have y5 := fun d os => cell_regrown e0 d os
              have y6 := fun d os => cell_regrown e1 d os
              have y7 := fun d os => cell_regrown e2 d os
              have y8 := fun d os => cell_regrown e3 d os
              have y9 := fun d os => cell_regrown e4 d os
              have y10 := fun d os => cell_regrown e5 d os
              refine wp_region_quiet_below (by kernel_rfl) (by kernel_rfl) ?_
              repeat (go_big_quiet_step ((exact Calls.regrown_of (hJm _ (hjk.below (below_regrown _ _ _))))))
              refine wpQuiet_nil ?_
              intro _ hw'
              obtain ⟨⟨dq, osq⟩, hw''⟩ := hw'
              subst hw''
              have bR := below_regrown wr dq osq
              obtain ⟨V, eV⟩ : ∃ V, V = Go.Sort.grow (Go.redrawn wr dq) osq := ⟨_, rfl⟩
              rw [← eV] at bR ⊢
              clear eV y0 y1 y2 y3 y4 y5 y6 y7 y8 y9 y10
              have hbV : Below W.heap.size W V := hb.trans (bR.mono hb.size)
              have hF : Hid (R = 9) := by show _ = _; rw [HR.out, HS.out]; simp
              clear HR HS
              go_wp2
              go_ret
              exact ⟨by rw [hF.out]; rfl, hB.trans (hbV.mono hB.size)⟩
            | true =>
              have h15 := hJM1 rfl
              clear hJM1
              cases k with
              | zero =>
                have hpv : decide (prevJ js 0 < jn) = true := decide_eq_true (by show (0 : Int) < jn; omega)
                rw [hpv] at HS
                clear hpv hpc
                simp only [Nat.zero_mul, Nat.add_zero] at e0 e1 e2 e3 e4 e5
                have hrel2 : Hid (J = jbsGo s (len : Int) nx (prevJ js (0 + 1) + 1) (js.drop (0 + 1))) := by show _ = _; rw [HS.out, HPN.out]; simp
                have y0 := fun d os => cell_regrown c0 d os
                have y1 := fun d os => cell_regrown c1 d os
                have y2 := fun d os => cell_regrown c2 d os
                have y3 := fun d os => cell_regrown k0 d os
                have y4 := fun d os => cell_regrown k1 d os
                have y5 := fun d os => cell_regrown e0 d os
                have y6 := fun d os => cell_regrown e1 d os
                have y7 := fun d os => cell_regrown e2 d os
                have y8 := fun d os => cell_regrown e3 d os
                have y9 := fun d os => cell_regrown e4 d os
                have y10 := fun d os => cell_regrown e5 d os
                refine wp_region_quiet_below (by kernel_rfl) (by kernel_rfl) ?_
                repeat (go_big_quiet_step ((exact Calls.regrown_of (hJm _ (hjk.below (below_regrown _ _ _))))))
                refine wpQuiet_nil ?_
                intro _ hw'
                obtain ⟨⟨dq, osq⟩, hw''⟩ := hw'
                subst hw''
                have bR := below_regrown wr dq osq
                obtain ⟨V, eV⟩ : ∃ V, V = Go.Sort.grow (Go.redrawn wr dq) osq := ⟨_, rfl⟩
                rw [← eV] at bR ⊢
                clear eV y0 y1 y2 y3 y4 y5 y6 y7 y8 y9 y10
                have hbV : Below W.heap.size W V := hb.trans (bR.mono hb.size)
                go_wp2
                go_roundw
                case rel => exact ⟨0 + 1, by go_num, by omega, hrel2.out, by rw [HPN.out]; omega, hbV⟩
                case measure => simp [intOf]; omega
              | succ i =>
                have hp := hpc i rfl
                obtain ⟨pv, epv⟩ : ∃ pv, pv = (js.getD i default).n := ⟨_, rfl⟩
                have hpA : prevJ js (i + 1) = pv := by rw [epv]; rfl
                rw [hpA] at HS hp0
                rw [← epv] at hp
                clear epv hpA hpc
                have hj0 : decide ((0 : Int) < (i : Int) + 1) = true := by simp
                have hj1 : (0 : Int) < (i : Int) + 1 := by omega
                have hjm : ((i + 1 : Nat) : Int) - 1 = (i : Int) := by omega
                have hjl : (i : Int) < (jl : Int) := by omega
                by_cases hle : jn ≤ pv
                · have hd : decide (pv < jn) = false := by simp; omega
                  have hd' : decide (jn ≤ pv) = true := by simp [hle]
                  rw [hd] at HS
                  have y0 := fun d os => cell_regrown c0 d os
                  have y1 := fun d os => cell_regrown c1 d os
                  have y2 := fun d os => cell_regrown c2 d os
                  have y3 := fun d os => cell_regrown k0 d os
                  have y4 := fun d os => cell_regrown k1 d os
                  have y5 := fun d os => cell_regrown e0 d os
                  have y6 := fun d os => cell_regrown e1 d os
                  have y7 := fun d os => cell_regrown e2 d os
                  have y8 := fun d os => cell_regrown e3 d os
                  have y9 := fun d os => cell_regrown e4 d os
                  have y10 := fun d os => cell_regrown e5 d os
                  have y11 := fun d os => cell_regrown hp d os
                  refine wp_region_quiet_below (by kernel_rfl) (by kernel_rfl) ?_
                  repeat (go_big_quiet_step ((exact Calls.regrown_of (hJm _ (hjk.below (below_regrown _ _ _))))))
                  refine wpQuiet_nil ?_
                  intro _ hw'
                  obtain ⟨⟨dq, osq⟩, hw''⟩ := hw'
                  subst hw''
                  have bR := below_regrown wr dq osq
                  obtain ⟨V, eV⟩ : ∃ V, V = Go.Sort.grow (Go.redrawn wr dq) osq := ⟨_, rfl⟩
                  rw [← eV] at bR ⊢
                  clear eV y0 y1 y2 y3 y4 y5 y6 y7 y8 y9 y10 y11
                  have hbV : Below W.heap.size W V := hb.trans (bR.mono hb.size)
                  have hF : Hid (R = 9) := by show _ = _; rw [HR.out, HS.out]; simp
                  clear HR HS
                  go_wp2
                  go_ret
                  exact ⟨by rw [hF.out]; rfl, hB.trans (hbV.mono hB.size)⟩
                · have hd : decide (pv < jn) = true := by simp; omega
                  have hd' : decide (jn ≤ pv) = false := by simp [hle]
                  rw [hd] at HS
                  clear hd
                  have hrel2 : Hid (J = jbsGo s (len : Int) nx (prevJ js (i + 1 + 1) + 1) (js.drop (i + 1 + 1))) := by show _ = _; rw [HS.out, HPN.out]; simp
                  have y0 := fun d os => cell_regrown c0 d os
                  have y1 := fun d os => cell_regrown c1 d os
                  have y2 := fun d os => cell_regrown c2 d os
                  have y3 := fun d os => cell_regrown k0 d os
                  have y4 := fun d os => cell_regrown k1 d os
                  have y5 := fun d os => cell_regrown e0 d os
                  have y6 := fun d os => cell_regrown e1 d os
                  have y7 := fun d os => cell_regrown e2 d os
                  have y8 := fun d os => cell_regrown e3 d os
                  have y9 := fun d os => cell_regrown e4 d os
                  have y10 := fun d os => cell_regrown e5 d os
                  have y11 := fun d os => cell_regrown hp d os
                  refine wp_region_quiet_below (by kernel_rfl) (by kernel_rfl) ?_
                  repeat (go_big_quiet_step ((exact Calls.regrown_of (hJm _ (hjk.below (below_regrown _ _ _))))))
                  refine wpQuiet_nil ?_
                  intro _ hw'
                  obtain ⟨⟨dq, osq⟩, hw''⟩ := hw'
                  subst hw''
                  have bR := below_regrown wr dq osq
                  obtain ⟨V, eV⟩ : ∃ V, V = Go.Sort.grow (Go.redrawn wr dq) osq := ⟨_, rfl⟩
                  rw [← eV] at bR ⊢
                  clear eV y0 y1 y2 y3 y4 y5 y6 y7 y8 y9 y10 y11
                  have hbV : Below W.heap.size W V := hb.trans (bR.mono hb.size)
                  go_wp2
                  go_roundw
                  case rel => exact ⟨i + 1 + 1, by go_num, by omega, hrel2.out, by rw [HPN.out]; omega, hbV⟩
                  case measure => simp [intOf]; omega
          · obtain rfl : k = jl := by omega
            have hTT : J = true := by rw [hT.out, List.drop_of_length_le (by rw [HL.out]; exact Nat.le_refl _)]; rfl
            have hF : Hid (R = 0) := by show _ = _; rw [HR.out, hTT]; rfl
            clear HR hT hTT
            go_wp2
            go_ret
            exact ⟨by rw [hF.out]; rfl, hB.trans (hb.mono hB.size)⟩
      · have h6' : (6 : Int) < (jl : Int) := by omega
        have hF : Hid (R = 9) := by show _ = _; rw [HR0.out, if_pos rfl, h1, decide_eq_false h6]; rfl
        clear HR0
        go_wp2_with (first | (go_at_call 76; refine (hC _ hcW).mono ?_; rintro e w3 ⟨rfl, hb3⟩; clear c0 c1 c2 k0 k1 z1 z2; replace b1 := b1.below hb3 b1.lt; replace b2 := b2.below hb3 b2.lt; have c0 := (b1.c 0 (by decide)).1; have c1 := (b1.c 1 (by decide)).1; have c2 := (b1.c 2 (by decide)).1; have k0 := (b2.c 0 (by decide)).1; have k1 := (b2.c 1 (by decide)).1; simp only [List.getD_cons_zero, List.getD_cons_succ] at c0 c1 c2 k0 k1; have z1 := b1.lt; have z2 := b2.lt; replace hb : Below W.heap.size W w3 := hb.trans (hb3.mono hb.size)) | (go_at_call 26; refine (in_any _ _ _ _).mono ?_; rintro e u ⟨rfl, hu⟩; rw [hu, h1]; clear hu))
        go_ret
        exact ⟨by rw [hF.out]; rfl, hB.trans (hb.mono hB.size)⟩
  · have HR1 : Hid (R = F) := by show _ = _; rw [HR0.out, if_neg hF0]
    clear HR0
    go_wp2_with (go_at_call 76; refine (hC _ hcW).mono ?_; rintro e w3 ⟨rfl, hb3⟩; replace hb : Below W.heap.size W w3 := hb.trans (hb3.mono hb.size))
    go_ret
    exact ⟨by rw [HR1.out]; rfl, hB.trans (hb.mono hB.size)⟩
end Go.Proofs.Ytfhciplckjkflaa.Co
/- Rows that a call makes of its own: elements of several cells, one behind the other; append of one, and of all of a slice. -/
namespace Go.Proofs.Ytfhciplckjkflaa.St
open Go.ChangeShapes Go.WideShapes Go.ChangeAt Go.RowKit
set_option linter.unusedVariables false

theorem adr_add (b off i : Nat) : (⟨b, off, none⟩ : Addr).add i = ⟨b, off + i, none⟩ := by
  unfold Addr.add
  by_cases h : i = 0 <;> simp [h]
def flat {α : Type} (cells : α → List Value) (xs : List α) : List Value := xs.flatMap cells
theorem flat_append {α : Type} (cells : α → List Value) (xs ys : List α) : flat cells (xs ++ ys) = flat cells xs ++ flat cells ys := by simp [flat]
theorem flat_len {α : Type} {cells : α → List Value} {k : Nat} (hk : ∀ x, (cells x).length = k) (xs : List α) : (flat cells xs).length = xs.length * k := by
  induction xs with
  | nil => simp [flat]
  | cons x r ih =>
    simp only [flat, List.flatMap_cons, List.length_append, List.length_cons] at *
    rw [ih, hk]
    rw [Nat.add_mul]
    omega
theorem flat_get {α : Type} [Inhabited α] {cells : α → List Value} {k : Nat} (hk : ∀ x, (cells x).length = k) : ∀ (xs : List α) (i : Nat), i < xs.length → ∀ j, j < k → (flat cells xs)[i * k + j]? = (cells (xs.getD i default))[j]? := by
  intro xs
  induction xs with
  | nil => intro i hi; simp at hi
  | cons x r ih =>
    intro i hi j hj
    have e : flat cells (x :: r) = cells x ++ flat cells r := by simp [flat]
    rw [e]
    cases i with
    | zero =>
      rw [List.getElem?_append_left (by rw [hk]; omega)]
      simp
    | succ i =>
      rw [List.getElem?_append_right (by rw [hk, Nat.add_mul]; omega), hk]
      have : (i + 1) * k + j - k = i * k + j := by rw [Nat.add_mul]; omega
      rw [this, ih i (by simpa using hi) j hj]
      simp
theorem own_form {w : World} {B : Nat} {e : TypeId} {size : Nat} {v : Value} {n : Nat} {xs : List Value} (h : w.ownsRow B e size v n xs) : ∃ a cap, v = .slice a n cap ∧ n ≤ cap ∧ cap ≤ maxLen ∧ (a = none → cap = 0) := by
  rcases h.2 with ⟨rfl, rfl⟩ | ⟨g, cap, cur, rfl, _, _, h1, h2, _⟩
  · exact ⟨none, 0, rfl, Nat.le_refl _, Nat.zero_le _, fun _ => rfl⟩
  · exact ⟨_, cap, rfl, h1, h2, fun e => by simp at e⟩
theorem own_below {w w' : World} {base : Nat} {e : TypeId} {size : Nat} {v : Value} {n : Nat} {xs : List Value} (h : w.ownsRow base e size v n xs) (hb : Below w.heap.size w w') : w'.ownsRow base e size v n xs :=
  h.kept (row := none) ⟨hb.os, hb.tape, hb.output, hb.size, fun k hk _ => hb.block k hk⟩ (by cases hv : v.ownBlock <;> simp)
/-- What a call owns is there to be read. -/
theorem own_isRow {α : Type} [Inhabited α] {k : Nat} {cells : α → List Value} (hk : ∀ x, (cells x).length = k) {w : World} {B : Nat} {te : TypeId} {a : Option Addr} {n cap : Nat} {xs : List α} (h : w.ownsRow B te k (.slice a n cap) n (flat cells xs)) (hn : xs.length = n) :
    IsRow k cells w a n cap xs ∧ ∀ b off, a = some ⟨b, off, none⟩ → B ≤ b ∧ b < w.heap.size := by
  obtain ⟨a', cap', e, h1, h2, h3⟩ := own_form h
  simp at e
  obtain ⟨rfl, rfl⟩ := e
  refine ⟨⟨hn, h1, h2, h3, fun hp => ?_⟩, fun b off e => ?_⟩
  · rcases h.2 with ⟨_, h0⟩ | ⟨g, cap2, cur, hv, hb, hg, _⟩
    · omega
    · simp at hv
      obtain ⟨rfl, rfl⟩ := hv
      refine ⟨g, 0, rfl, (h.lt g rfl).2, fun i hi j hj => ?_⟩
      have hf := flat_get hk xs i (by omega) j hj
      have hc : j < (cells (xs.getD i default)).length := by rw [hk]; exact hj
      rw [List.getElem?_eq_getElem hc] at hf
      have := h.cells (g := g) rfl _ _ hf
      rw [adr_add, ← Nat.add_assoc] at this
      rw [this, List.getElem?_eq_getElem hc]
  · subst e
    rcases h.2 with ⟨hv, h0⟩ | ⟨g, cap2, cur, hv, hb, hg, _⟩
    · simp at hv
    · simp at hv
      obtain ⟨⟨rfl, rfl⟩, rfl⟩ := hv
      exact h.lt _ rfl
theorem news_at {W : World} {n : Nat} (cs : Array Value) (t : TypeId) (h : W.heap.size = n) : ∀ j u, cs.toList[j]? = some u → (W.alloc (.cells cs t)).cell? ((⟨n, 0, none⟩ : Addr).add j) = some u := by
  subst h
  exact World.news_of_block (heap_alloc_new W _)
theorem lk_len (x : LkV) : x.cells.length = 6 := rfl
theorem lk_one (y : LkV) : ∀ u ∈ y.cells, u.oneCell' = true := by
  intro u hu
  simp [LkV.cells] at hu
  rcases hu with h | h | h | h | h | h <;> subst h <;> rfl
end Go.Proofs.Ytfhciplckjkflaa.St
/- append of all elements of a slice to a row of the call's own: elements of several cells. -/
namespace Go.Proofs.Ytfhciplckjkflaa.St
open Go.ChangeShapes Go.WideShapes Go.ChangeAt Go.RowKit
set_option linter.unusedVariables false

/-- What is known of an element's type. -/
structure Elem {α : Type} (k : Nat) (cells : α → List Value) (te tsl : TypeId) (i : TypeInfo) (z : Value) (bytes : Nat) : Prop where
  len : ∀ x, (cells x).length = k
  pos : 0 < k
  one : ∀ x, ∀ u ∈ cells x, u.oneCell' = true
  sl : Try.prog.underlying tsl = some (.slice te)
  info : Try.prog.info? te = some i
  zero : i.zero = some z
  size : i.size = k
  byts : i.bytes = bytes
  zs : z.cells.size = k

theorem flat_one' {α : Type} {k : Nat} {cells : α → List Value} (hone : ∀ x, ∀ u ∈ cells x, u.oneCell' = true) (xs : List α) : ∀ u ∈ flat cells xs, u.oneCell' = true := by
  intro u hu
  simp only [flat, List.mem_flatMap] at hu
  obtain ⟨x, _, h⟩ := hu
  exact hone x u h
theorem row_lies {α : Type} [Inhabited α] {k : Nat} {cells : α → List Value} (hk : ∀ x, (cells x).length = k) (hp : 0 < k) {w : World} {ad : Addr} {len cap : Nat} {xs : List α} (h : IsRow k cells w (some ad) len cap xs) : ∀ j u, (flat cells xs)[j]? = some u → w.cell? (ad.add j) = some u := by
  intro j u hu
  have hj : j < (flat cells xs).length := (List.getElem?_eq_some_iff.1 hu).1
  rw [flat_len hk, h.1] at hj
  have hl : 0 < len := by
    rcases Nat.eq_zero_or_pos len with h0 | h0
    · subst h0; simp at hj
    · exact h0
  obtain ⟨b', off', e, _, hc⟩ := h.2.2.2.2 hl
  cases e
  have h1 : j / k < len := (Nat.div_lt_iff_lt_mul hp).2 hj
  have hm : j % k < k := Nat.mod_lt _ hp
  have h2 := hc (j / k) h1 (j % k) hm
  have h3 := flat_get hk xs (j / k) (by rw [h.1]; exact h1) (j % k) hm
  have e : j / k * k + j % k = j := by rw [Nat.mul_comm]; exact Nat.div_add_mod j k
  rw [e] at h3
  have e2 : off' + j = off' + j / k * k + j % k := by rw [Nat.add_assoc, e]
  rw [adr_add, e2, h2, ← h3, hu]

theorem run_append_row {α : Type} [Inhabited α] {k : Nat} {cells : α → List Value} {te tsl : TypeId} {i : TypeInfo} {z : Value} {bytes : Nat} (E : Elem k cells te tsl i z bytes) {w : World} (ty : TypeId) (B : Nat) (v : Value) (n : Nat) (xs : List α) (hown : w.ownsRow B te k v n (flat cells xs))
    (a : Option Addr) (len cap : Nat) (bs : List α) (hs : IsRow k cells w a len cap bs) (h63 : n + len ≤ maxLen) (hby : (n + len) * bytes ≤ 140737488355328) (hbase : B ≤ w.heap.size) :
    ∃ a' cap' w', (Builtin.append_ #[tsl, tsl] ty #[v, .slice a len cap]).run Try.prog w = .ok (.slice a' (n + len) cap') w' ∧ w'.ownsRow B te k (.slice a' (n + len) cap') (n + len) (flat cells (xs ++ bs)) ∧ w.grownBy w' v.ownBlock ∧
      ((Value.slice a' (n + len) cap').ownBlock = v.ownBlock ∨ (Value.slice a' (n + len) cap').ownBlock = some w.heap.size) := by
  have hs' := hs
  obtain ⟨h1, h2, h3, hn, h4⟩ := hs
  cases a with
  | none =>
    have := hn rfl
    subst this
    obtain rfl : len = 0 := by omega
    obtain rfl : bs = [] := List.length_eq_zero_iff.1 h1
    have hrun := run_append_owned_none (P := Try.prog) (w := w) B tsl ty te i k E.sl E.info v n (flat cells xs) hown
    obtain ⟨a', cap', rfl, _⟩ := own_form hown
    exact ⟨a', cap', w, hrun, by simpa using hown, World.grownBy.refl _ _, .inl rfl⟩
  | some ad =>
    obtain ⟨v', w', hr, k2, k3, _, k5⟩ := run_append_own_at (P := Try.prog) w B tsl ty te i z k bytes E.sl E.info E.zero E.size E.byts E.zs E.pos v n (flat cells xs) hown ad len cap (flat cells bs)
      (by rw [flat_len E.len, h1]) (row_lies E.len E.pos hs') (flat_one' (k := k) E.one bs) h63 hby hbase
    obtain ⟨a', cap', rfl, _⟩ := own_form k2
    exact ⟨a', cap', w', hr, by rw [flat_append]; exact k2, k3, k5⟩

theorem wpList_append_row {α : Type} [Inhabited α] {k : Nat} {cells : α → List Value} {te tsl : TypeId} {i : TypeInfo} {z : Value} {bytes : Nat} (E : Elem k cells te tsl i z bytes) {w : World} {ops : Array Oper} {rest : List Oper} {o : Oper} {A : Act} {Q : Exit → Act → World → Prop} (hgd : o.guard = none) (s x : Operand)
    (ho : o.op = .call { callee := .builtin .append, args := #[s, x], argTypes := #[tsl, tsl] })
    (B : Nat) (v : Value) (n : Nat) (xs : List α) (hs : A.eval s = v) (hown : w.ownsRow B te k v n (flat cells xs))
    (a : Option Addr) (len cap : Nat) (bs : List α) (hx : A.eval x = .slice a len cap) (hb : IsRow k cells w a len cap bs) (h63 : n + len ≤ maxLen) (hby : (n + len) * bytes ≤ 140737488355328) (hbase : B ≤ w.heap.size)
    (h : ∀ a' cap' w', w'.ownsRow B te k (.slice a' (n + len) cap') (n + len) (flat cells (xs ++ bs)) → w.grownBy w' v.ownBlock → ((Value.slice a' (n + len) cap').ownBlock = v.ownBlock ∨ (Value.slice a' (n + len) cap').ownBlock = some w.heap.size) → wpList Try.prog ops Q rest (A.put o.dst (.slice a' (n + len) cap')) w') :
    wpList Try.prog ops Q (o :: rest) A w := by
  refine wpList_plain hgd fun K hK => ?_
  obtain ⟨a', cap', w', hr, h2, h3, h4⟩ := run_append_row E (w := w) o.type B v n xs hown a len cap bs hb h63 hby hbase
  unfold Oper.wp execOp
  simp only [ho, resolve, invoke, builtin, Sem.run_bind, Sem.run_pure, Result.andThen_ok, List.map_toArray, List.map_cons, List.map_nil, hs, hx, hr]
  exact hK _ _ (h a' cap' w' h2 h3 h4)

/-- The same at a step of a region that draws its order. -/
theorem step_append_row {α : Type} [Inhabited α] {k : Nat} {cells : α → List Value} {te tsl : TypeId} {i : TypeInfo} {z : Value} {bytes : Nat} (E : Elem k cells te tsl i z bytes) {w : World} {ops : Array Oper} {o : Oper} {A : Act} {K : Act → World → Prop} {Q : Exit → Act → World → Prop} {F : Prop} (hgd : o.guard = none) (s x : Operand)
    (ho : o.op = .call { callee := .builtin .append, args := #[s, x], argTypes := #[tsl, tsl] })
    (B : Nat) (v : Value) (n : Nat) (xs : List α) (hs : A.eval s = v) (hown : w.ownsRow B te k v n (flat cells xs))
    (a : Option Addr) (len cap : Nat) (bs : List α) (hx : A.eval x = .slice a len cap) (hb : IsRow k cells w a len cap bs) (h63 : n + len ≤ maxLen) (hby : (n + len) * bytes ≤ 140737488355328) (hbase : B ≤ w.heap.size)
    (h : ∀ a' cap' w', w'.ownsRow B te k (.slice a' (n + len) cap') (n + len) (flat cells (xs ++ bs)) → w.grownBy w' v.ownBlock → ((Value.slice a' (n + len) cap').ownBlock = v.ownBlock ∨ (Value.slice a' (n + len) cap').ownBlock = some w.heap.size) → K (A.put o.dst (.slice a' (n + len) cap')) w') :
    if Region.wanted o (yielded ops A.tmps) = true then Oper.wp Try.prog o A w K Q else F := by
  have hw : Region.wanted o (yielded ops A.tmps) = true := by simp [Region.wanted, hgd]
  rw [if_pos hw]
  obtain ⟨a', cap', w', hr, h2, h3, h4⟩ := run_append_row E (w := w) o.type B v n xs hown a len cap bs hb h63 hby hbase
  unfold Oper.wp execOp
  simp only [ho, resolve, invoke, builtin, Sem.run_bind, Sem.run_pure, Result.andThen_ok, List.map_toArray, List.map_cons, List.map_nil, hs, hx, hr]
  exact h a' cap' w' h2 h3 h4
end Go.Proofs.Ytfhciplckjkflaa.St
