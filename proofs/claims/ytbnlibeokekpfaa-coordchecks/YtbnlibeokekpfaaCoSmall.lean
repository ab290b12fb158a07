/- Contracts of the small functions: bounds.Label, Key, Value, Rising; coord.taskMayBe; the document's labelMay and taskMay. -/
import Derived.Test.YtbnlibeokekpfaaCoBase
import Derived.Test.YtbnlibeokekpfaaFault
import Derived.LoopTactic
import Derived.Deep.Cut
import Derived.Deep.DeepCutAuto
namespace Go.Proofs.Ytbnlibeokekpfaa.Co
open Go.ChangeShapes Go.WideShapes Go.ChangeAt Go.RowKit
open Go.Proofs.Ytbnlibeokekpfaa.St (IsRow drop_at take_at BoxN boxn_new)
set_option linter.unusedVariables false

theorem wrap_in {n : Int} (h1 : -9223372036854775808 ≤ n) (h2 : n ≤ 9223372036854775807) : IntKind.i64.wrap n = n := by
  rw [IntKind.wrap_i64]
  omega
theorem key_any (n : Int) (w : World) :
    Calls Try.prog 22 #[.int .i64 n] w fun e w' => e = .returned (.bool (inR n 0 7)) ∧ w' = w := by
  go_enter Try.func22, Try.ntmps22
  go_wp2_with (go_at_call 7; refine (within_any _ _ _ _).mono ?_; rintro e w1 ⟨rfl, hu1⟩; rw [hu1]; clear hu1)
  go_ret
  exact ⟨rfl, rfl⟩
theorem value_any (n : Int) (w : World) :
    Calls Try.prog 23 #[.int .i64 n] w fun e w' => e = .returned (.bool (inR n 0 1073741824)) ∧ w' = w := by
  go_enter Try.func23, Try.ntmps23
  go_wp2_with (go_at_call 7; refine (within_any _ _ _ _).mono ?_; rintro e w1 ⟨rfl, hu1⟩; rw [hu1]; clear hu1)
  go_ret
  exact ⟨rfl, rfl⟩
theorem label_any (s q : Int) (a : Option Addr) (len cap : Nat) (l : Int) (w : World) (hl : len ≤ 6) :
    Calls Try.prog 21 #[.agg #[.int .i64 s, .slice a len cap, .int .i64 q], .int .i64 l] w fun e w' => e = .returned (.bool (inR l 0 ((len : Int) - 1))) ∧ Below w.heap.size w w' := by
  have hA : Below w.heap.size w (w.alloc (.cells #[.int .i64 s, .slice a len cap, .int .i64 q] 24)) := (Below.refl _ _).alloc (Nat.le_refl _) _
  have hw : IntKind.i64.wrap ((len : Int) - 1) = (len : Int) - 1 := by apply wrap_in <;> omega
  go_enter Try.func21, Try.ntmps21
  go_wp2_with (go_at_call 7; refine (within_any _ _ _ _).mono ?_; rintro e w1 ⟨rfl, hu1⟩; rw [hu1]; clear hu1)
  go_ret
  exact ⟨rfl, hA⟩
theorem labelMay_any (s q : Int) (a : Option Addr) (len cap : Nat) (l : Int) (w : World) (hl : len ≤ 6) :
    Calls Try.prog 19 #[.agg #[.int .i64 s, .slice a len cap, .int .i64 q], .int .i64 l] w fun e w' => e = .returned (.bool (inR l 0 ((len : Int) - 1))) ∧ Below w.heap.size w w' := by
  have hA : Below w.heap.size w (w.alloc (.cells #[.int .i64 s, .slice a len cap, .int .i64 q] 24)) := (Below.refl _ _).alloc (Nat.le_refl _) _
  have hw : IntKind.i64.wrap ((len : Int) - 1) = (len : Int) - 1 := by apply wrap_in <;> omega
  go_enter Try.func19, Try.ntmps19
  go_wp2_with (go_at_call 10; refine (in_any _ _ _ _).mono ?_; rintro e w1 ⟨rfl, hu1⟩; rw [hu1]; clear hu1)
  go_ret
  exact ⟨rfl, hA⟩
set_option maxHeartbeats 4000000 in
theorem taskMayBe_any (s q : Int) (a : Option Addr) (len cap : Nat) (t : TkV) (w : World) (hl : len ≤ 6) :
    Calls Try.prog 20 #[.agg #[.int .i64 s, .slice a len cap, .int .i64 q], t.val] w fun e w' => e = .returned (.bool (tkOK (len : Int) t)) ∧ Below w.heap.size w w' := by
  obtain ⟨wr, lb, ky, va, ve, ask, dn, su⟩ := t
  simp only [TkV.val]
  obtain ⟨W, hW⟩ : ∃ W : World, W = (w.alloc (.cells #[.int .i64 s, .slice a len cap, .int .i64 q] 24)).alloc (.cells #[.bool wr, .int .i64 lb, .int .i64 ky, .int .i64 va, .int .i64 ve, .int .i64 ask, .bool dn, .bool su] 45) := ⟨_, rfl⟩
  have hbv : Below w.heap.size w W := by rw [hW]; exact ((Below.refl _ _).alloc (Nat.le_refl _) _).alloc (by simp) _
  have bt : BoxN W (w.heap.size + 1) 8 [.bool wr, .int .i64 lb, .int .i64 ky, .int .i64 va, .int .i64 ve, .int .i64 ask, .bool dn, .bool su] := by rw [hW]; simpa using boxn_new (w.alloc (.cells #[.int .i64 s, .slice a len cap, .int .i64 q] 24)) #[.bool wr, .int .i64 lb, .int .i64 ky, .int .i64 va, .int .i64 ve, .int .i64 ask, .bool dn, .bool su] 45 8 rfl
  have c0 : W.cell? ⟨w.heap.size, 0, none⟩ = some (.int .i64 s) := by rw [hW]; go_simp
  have c1 : W.cell? ⟨w.heap.size, 1, none⟩ = some (.slice a len cap) := by rw [hW]; go_simp
  have c2 : W.cell? ⟨w.heap.size, 2, none⟩ = some (.int .i64 q) := by rw [hW]; go_simp
  have zc : w.heap.size < W.heap.size := by rw [hW]; simp; omega
  have k0 := (bt.c 0 (by decide)).1
  have k1 := (bt.c 1 (by decide)).1
  have k2 := (bt.c 2 (by decide)).1
  have k3 := (bt.c 3 (by decide)).1
  have k4 := (bt.c 4 (by decide)).1
  have k5 := (bt.c 5 (by decide)).1
  have k6 := (bt.c 6 (by decide)).1
  have k7 := (bt.c 7 (by decide)).1
  simp only [List.getD_cons_zero, List.getD_cons_succ] at k0 k1 k2 k3 k4 k5 k6 k7
  have zt := bt.lt
  have e0 : Hid ((tkOK (len : Int) ⟨wr, lb, ky, va, ve, ask, dn, su⟩) = (inR lb 0 ((len : Int) - 1) && inR ky 0 7 && inR va 0 1073741824 && inR ve 0 1048576 && (dn || (!su && (wr || (decide (va = 0) && decide (ve = 0))))))) := by show _ = _; unfold tkOK; rfl
  obtain ⟨R, eR⟩ : ∃ R, R = (tkOK (len : Int) ⟨wr, lb, ky, va, ve, ask, dn, su⟩) := ⟨_, rfl⟩
  rw [← eR] at e0
  first | rw [← eR] | (simp only []; rw [← eR])
  clear eR
  go_enter Try.func20, Try.ntmps20
  go_upto_region 1 with (fail)
  rw [← hW]
  clear hW
  cases h1 : inR lb 0 ((len : Int) - 1) with
  | false =>
    go_wp2_with (first | (go_at_call 21; refine (label_any s q a len cap lb _ hl).mono ?_; rintro e w1 ⟨rfl, hb1⟩; rw [h1]; replace hbv : Below w.heap.size w w1 := hbv.trans (hb1.mono hbv.size); clear k0 k1 k2 k3 k4 k5 k6 k7; replace bt := bt.below hb1 bt.lt; have k0 := (bt.c 0 (by decide)).1; have k1 := (bt.c 1 (by decide)).1; have k2 := (bt.c 2 (by decide)).1; have k3 := (bt.c 3 (by decide)).1; have k4 := (bt.c 4 (by decide)).1; have k5 := (bt.c 5 (by decide)).1; have k6 := (bt.c 6 (by decide)).1; have k7 := (bt.c 7 (by decide)).1; simp only [List.getD_cons_zero, List.getD_cons_succ] at k0 k1 k2 k3 k4 k5 k6 k7; have zt := bt.lt) | (go_at_call 22; refine (key_any _ _).mono ?_; rintro e u ⟨rfl, hu⟩; rw [hu]; clear hu; (first | rw [h2] | rw [h3] | rw [h4] | rw [h5])) | (go_at_call 23; refine (value_any _ _).mono ?_; rintro e u ⟨rfl, hu⟩; rw [hu]; clear hu; (first | rw [h2] | rw [h3] | rw [h4] | rw [h5])) | (go_at_call 7; refine (within_any _ _ _ _).mono ?_; rintro e u ⟨rfl, hu⟩; rw [hu]; clear hu; (first | rw [h2] | rw [h3] | rw [h4] | rw [h5])))
    go_ret
    exact ⟨by rw [e0.out, h1]; simp, hbv⟩
  | true =>
    cases h2 : inR ky 0 7 with
    | false =>
      go_wp2_with (first | (go_at_call 21; refine (label_any s q a len cap lb _ hl).mono ?_; rintro e w1 ⟨rfl, hb1⟩; rw [h1]; replace hbv : Below w.heap.size w w1 := hbv.trans (hb1.mono hbv.size); clear k0 k1 k2 k3 k4 k5 k6 k7; replace bt := bt.below hb1 bt.lt; have k0 := (bt.c 0 (by decide)).1; have k1 := (bt.c 1 (by decide)).1; have k2 := (bt.c 2 (by decide)).1; have k3 := (bt.c 3 (by decide)).1; have k4 := (bt.c 4 (by decide)).1; have k5 := (bt.c 5 (by decide)).1; have k6 := (bt.c 6 (by decide)).1; have k7 := (bt.c 7 (by decide)).1; simp only [List.getD_cons_zero, List.getD_cons_succ] at k0 k1 k2 k3 k4 k5 k6 k7; have zt := bt.lt) | (go_at_call 22; refine (key_any _ _).mono ?_; rintro e u ⟨rfl, hu⟩; rw [hu]; clear hu; (first | rw [h2] | rw [h3] | rw [h4] | rw [h5])) | (go_at_call 23; refine (value_any _ _).mono ?_; rintro e u ⟨rfl, hu⟩; rw [hu]; clear hu; (first | rw [h2] | rw [h3] | rw [h4] | rw [h5])) | (go_at_call 7; refine (within_any _ _ _ _).mono ?_; rintro e u ⟨rfl, hu⟩; rw [hu]; clear hu; (first | rw [h2] | rw [h3] | rw [h4] | rw [h5])))
      go_ret
      exact ⟨by rw [e0.out, h1, h2]; simp, hbv⟩
    | true =>
      cases h3 : inR va 0 1073741824 with
      | false =>
        go_wp2_with (first | (go_at_call 21; refine (label_any s q a len cap lb _ hl).mono ?_; rintro e w1 ⟨rfl, hb1⟩; rw [h1]; replace hbv : Below w.heap.size w w1 := hbv.trans (hb1.mono hbv.size); clear k0 k1 k2 k3 k4 k5 k6 k7; replace bt := bt.below hb1 bt.lt; have k0 := (bt.c 0 (by decide)).1; have k1 := (bt.c 1 (by decide)).1; have k2 := (bt.c 2 (by decide)).1; have k3 := (bt.c 3 (by decide)).1; have k4 := (bt.c 4 (by decide)).1; have k5 := (bt.c 5 (by decide)).1; have k6 := (bt.c 6 (by decide)).1; have k7 := (bt.c 7 (by decide)).1; simp only [List.getD_cons_zero, List.getD_cons_succ] at k0 k1 k2 k3 k4 k5 k6 k7; have zt := bt.lt) | (go_at_call 22; refine (key_any _ _).mono ?_; rintro e u ⟨rfl, hu⟩; rw [hu]; clear hu; (first | rw [h2] | rw [h3] | rw [h4] | rw [h5])) | (go_at_call 23; refine (value_any _ _).mono ?_; rintro e u ⟨rfl, hu⟩; rw [hu]; clear hu; (first | rw [h2] | rw [h3] | rw [h4] | rw [h5])) | (go_at_call 7; refine (within_any _ _ _ _).mono ?_; rintro e u ⟨rfl, hu⟩; rw [hu]; clear hu; (first | rw [h2] | rw [h3] | rw [h4] | rw [h5])))
        go_ret
        exact ⟨by rw [e0.out, h1, h2, h3]; simp, hbv⟩
      | true =>
        cases h4 : inR ve 0 1048576 with
        | false =>
          go_wp2_with (first | (go_at_call 21; refine (label_any s q a len cap lb _ hl).mono ?_; rintro e w1 ⟨rfl, hb1⟩; rw [h1]; replace hbv : Below w.heap.size w w1 := hbv.trans (hb1.mono hbv.size); clear k0 k1 k2 k3 k4 k5 k6 k7; replace bt := bt.below hb1 bt.lt; have k0 := (bt.c 0 (by decide)).1; have k1 := (bt.c 1 (by decide)).1; have k2 := (bt.c 2 (by decide)).1; have k3 := (bt.c 3 (by decide)).1; have k4 := (bt.c 4 (by decide)).1; have k5 := (bt.c 5 (by decide)).1; have k6 := (bt.c 6 (by decide)).1; have k7 := (bt.c 7 (by decide)).1; simp only [List.getD_cons_zero, List.getD_cons_succ] at k0 k1 k2 k3 k4 k5 k6 k7; have zt := bt.lt) | (go_at_call 22; refine (key_any _ _).mono ?_; rintro e u ⟨rfl, hu⟩; rw [hu]; clear hu; (first | rw [h2] | rw [h3] | rw [h4] | rw [h5])) | (go_at_call 23; refine (value_any _ _).mono ?_; rintro e u ⟨rfl, hu⟩; rw [hu]; clear hu; (first | rw [h2] | rw [h3] | rw [h4] | rw [h5])) | (go_at_call 7; refine (within_any _ _ _ _).mono ?_; rintro e u ⟨rfl, hu⟩; rw [hu]; clear hu; (first | rw [h2] | rw [h3] | rw [h4] | rw [h5])))
          go_ret
          exact ⟨by rw [e0.out, h1, h2, h3, h4]; simp, hbv⟩
        | true =>
          replace e0 : Hid (R = (dn || (!su && (wr || (decide (va = 0) && decide (ve = 0)))))) := by show _ = _; rw [e0.out, h1, h2, h3, h4]; simp
          go_upto_region 3 with (first | (go_at_call 21; refine (label_any s q a len cap lb _ hl).mono ?_; rintro e w1 ⟨rfl, hb1⟩; rw [h1]; replace hbv : Below w.heap.size w w1 := hbv.trans (hb1.mono hbv.size); clear k0 k1 k2 k3 k4 k5 k6 k7; replace bt := bt.below hb1 bt.lt; have k0 := (bt.c 0 (by decide)).1; have k1 := (bt.c 1 (by decide)).1; have k2 := (bt.c 2 (by decide)).1; have k3 := (bt.c 3 (by decide)).1; have k4 := (bt.c 4 (by decide)).1; have k5 := (bt.c 5 (by decide)).1; have k6 := (bt.c 6 (by decide)).1; have k7 := (bt.c 7 (by decide)).1; simp only [List.getD_cons_zero, List.getD_cons_succ] at k0 k1 k2 k3 k4 k5 k6 k7; have zt := bt.lt) | (go_at_call 22; refine (key_any _ _).mono ?_; rintro e u ⟨rfl, hu⟩; rw [hu]; clear hu; (first | rw [h2] | rw [h3] | rw [h4] | rw [h5])) | (go_at_call 23; refine (value_any _ _).mono ?_; rintro e u ⟨rfl, hu⟩; rw [hu]; clear hu; (first | rw [h2] | rw [h3] | rw [h4] | rw [h5])) | (go_at_call 7; refine (within_any _ _ _ _).mono ?_; rintro e u ⟨rfl, hu⟩; rw [hu]; clear hu; (first | rw [h2] | rw [h3] | rw [h4] | rw [h5])))
          cases dn with
          | true =>
            go_wp2
            go_ret
            exact ⟨by rw [e0.out]; rfl, hbv⟩
          | false =>
            cases su with
            | true =>
              go_wp2
              go_ret
              exact ⟨by rw [e0.out]; rfl, hbv⟩
            | false =>
              cases wr with
              | true =>
                go_wp2
                go_ret
                exact ⟨by rw [e0.out]; rfl, hbv⟩
              | false =>
                by_cases hv : va = 0
                · subst hv
                  by_cases hw : ve = 0
                  · subst hw
                    go_wp2
                    go_ret
                    exact ⟨by rw [e0.out]; rfl, hbv⟩
                  · go_wp2
                    go_ret
                    exact ⟨by rw [e0.out]; simp [hw], hbv⟩
                · go_wp2
                  go_ret
                  exact ⟨by rw [e0.out]; simp [hv], hbv⟩
set_option maxHeartbeats 4000000 in
theorem taskMay_any (s q : Int) (a : Option Addr) (len cap : Nat) (t : TkV) (w : World) (hl : len ≤ 6) :
    Calls Try.prog 15 #[.agg #[.int .i64 s, .slice a len cap, .int .i64 q], t.val] w fun e w' => e = .returned (.bool (tkOK (len : Int) t && inR t.ask 1 1048576)) ∧ Below w.heap.size w w' := by
  obtain ⟨wr, lb, ky, va, ve, ask, dn, su⟩ := t
  simp only [TkV.val]
  obtain ⟨W, hW⟩ : ∃ W : World, W = (w.alloc (.cells #[.int .i64 s, .slice a len cap, .int .i64 q] 24)).alloc (.cells #[.bool wr, .int .i64 lb, .int .i64 ky, .int .i64 va, .int .i64 ve, .int .i64 ask, .bool dn, .bool su] 45) := ⟨_, rfl⟩
  have hbv : Below w.heap.size w W := by rw [hW]; exact ((Below.refl _ _).alloc (Nat.le_refl _) _).alloc (by simp) _
  have bt : BoxN W (w.heap.size + 1) 8 [.bool wr, .int .i64 lb, .int .i64 ky, .int .i64 va, .int .i64 ve, .int .i64 ask, .bool dn, .bool su] := by rw [hW]; simpa using boxn_new (w.alloc (.cells #[.int .i64 s, .slice a len cap, .int .i64 q] 24)) #[.bool wr, .int .i64 lb, .int .i64 ky, .int .i64 va, .int .i64 ve, .int .i64 ask, .bool dn, .bool su] 45 8 rfl
  have c0 : W.cell? ⟨w.heap.size, 0, none⟩ = some (.int .i64 s) := by rw [hW]; go_simp
  have c1 : W.cell? ⟨w.heap.size, 1, none⟩ = some (.slice a len cap) := by rw [hW]; go_simp
  have c2 : W.cell? ⟨w.heap.size, 2, none⟩ = some (.int .i64 q) := by rw [hW]; go_simp
  have zc : w.heap.size < W.heap.size := by rw [hW]; simp; omega
  have k0 := (bt.c 0 (by decide)).1
  have k1 := (bt.c 1 (by decide)).1
  have k2 := (bt.c 2 (by decide)).1
  have k3 := (bt.c 3 (by decide)).1
  have k4 := (bt.c 4 (by decide)).1
  have k5 := (bt.c 5 (by decide)).1
  have k6 := (bt.c 6 (by decide)).1
  have k7 := (bt.c 7 (by decide)).1
  simp only [List.getD_cons_zero, List.getD_cons_succ] at k0 k1 k2 k3 k4 k5 k6 k7
  have zt := bt.lt
  have e0 : Hid ((tkOK (len : Int) ⟨wr, lb, ky, va, ve, ask, dn, su⟩ && inR ask 1 1048576) = (inR lb 0 ((len : Int) - 1) && inR ky 0 7 && inR va 0 1073741824 && inR ve 0 1048576 && inR ask 1 1048576 && (dn || (!su && (wr || (decide (va = 0) && decide (ve = 0))))))) := by show _ = _; unfold tkOK; simp only [Bool.and_assoc]; congr 4; exact Bool.and_comm _ _
  obtain ⟨R, eR⟩ : ∃ R, R = (tkOK (len : Int) ⟨wr, lb, ky, va, ve, ask, dn, su⟩ && inR ask 1 1048576) := ⟨_, rfl⟩
  rw [← eR] at e0
  first | rw [← eR] | (simp only []; rw [← eR])
  clear eR
  go_enter Try.func15, Try.ntmps15
  go_upto_region 1 with (fail)
  rw [← hW]
  clear hW
  cases h1 : inR lb 0 ((len : Int) - 1) with
  | false =>
    go_wp2_with (first | (go_at_call 19; refine (labelMay_any s q a len cap lb _ hl).mono ?_; rintro e w1 ⟨rfl, hb1⟩; rw [h1]; replace hbv : Below w.heap.size w w1 := hbv.trans (hb1.mono hbv.size); clear k0 k1 k2 k3 k4 k5 k6 k7; replace bt := bt.below hb1 bt.lt; have k0 := (bt.c 0 (by decide)).1; have k1 := (bt.c 1 (by decide)).1; have k2 := (bt.c 2 (by decide)).1; have k3 := (bt.c 3 (by decide)).1; have k4 := (bt.c 4 (by decide)).1; have k5 := (bt.c 5 (by decide)).1; have k6 := (bt.c 6 (by decide)).1; have k7 := (bt.c 7 (by decide)).1; simp only [List.getD_cons_zero, List.getD_cons_succ] at k0 k1 k2 k3 k4 k5 k6 k7; have zt := bt.lt) | (go_at_call 10; refine (in_any _ _ _ _).mono ?_; rintro e u ⟨rfl, hu⟩; rw [hu]; clear hu; (first | rw [h2] | rw [h3] | rw [h4] | rw [h5])))
    go_ret
    exact ⟨by rw [e0.out, h1]; simp, hbv⟩
  | true =>
    cases h2 : inR ky 0 7 with
    | false =>
      go_wp2_with (first | (go_at_call 19; refine (labelMay_any s q a len cap lb _ hl).mono ?_; rintro e w1 ⟨rfl, hb1⟩; rw [h1]; replace hbv : Below w.heap.size w w1 := hbv.trans (hb1.mono hbv.size); clear k0 k1 k2 k3 k4 k5 k6 k7; replace bt := bt.below hb1 bt.lt; have k0 := (bt.c 0 (by decide)).1; have k1 := (bt.c 1 (by decide)).1; have k2 := (bt.c 2 (by decide)).1; have k3 := (bt.c 3 (by decide)).1; have k4 := (bt.c 4 (by decide)).1; have k5 := (bt.c 5 (by decide)).1; have k6 := (bt.c 6 (by decide)).1; have k7 := (bt.c 7 (by decide)).1; simp only [List.getD_cons_zero, List.getD_cons_succ] at k0 k1 k2 k3 k4 k5 k6 k7; have zt := bt.lt) | (go_at_call 10; refine (in_any _ _ _ _).mono ?_; rintro e u ⟨rfl, hu⟩; rw [hu]; clear hu; (first | rw [h2] | rw [h3] | rw [h4] | rw [h5])))
      go_ret
      exact ⟨by rw [e0.out, h1, h2]; simp, hbv⟩
    | true =>
      cases h3 : inR va 0 1073741824 with
      | false =>
        go_wp2_with (first | (go_at_call 19; refine (labelMay_any s q a len cap lb _ hl).mono ?_; rintro e w1 ⟨rfl, hb1⟩; rw [h1]; replace hbv : Below w.heap.size w w1 := hbv.trans (hb1.mono hbv.size); clear k0 k1 k2 k3 k4 k5 k6 k7; replace bt := bt.below hb1 bt.lt; have k0 := (bt.c 0 (by decide)).1; have k1 := (bt.c 1 (by decide)).1; have k2 := (bt.c 2 (by decide)).1; have k3 := (bt.c 3 (by decide)).1; have k4 := (bt.c 4 (by decide)).1; have k5 := (bt.c 5 (by decide)).1; have k6 := (bt.c 6 (by decide)).1; have k7 := (bt.c 7 (by decide)).1; simp only [List.getD_cons_zero, List.getD_cons_succ] at k0 k1 k2 k3 k4 k5 k6 k7; have zt := bt.lt) | (go_at_call 10; refine (in_any _ _ _ _).mono ?_; rintro e u ⟨rfl, hu⟩; rw [hu]; clear hu; (first | rw [h2] | rw [h3] | rw [h4] | rw [h5])))
        go_ret
        exact ⟨by rw [e0.out, h1, h2, h3]; simp, hbv⟩
      | true =>
        cases h4 : inR ve 0 1048576 with
        | false =>
          go_wp2_with (first | (go_at_call 19; refine (labelMay_any s q a len cap lb _ hl).mono ?_; rintro e w1 ⟨rfl, hb1⟩; rw [h1]; replace hbv : Below w.heap.size w w1 := hbv.trans (hb1.mono hbv.size); clear k0 k1 k2 k3 k4 k5 k6 k7; replace bt := bt.below hb1 bt.lt; have k0 := (bt.c 0 (by decide)).1; have k1 := (bt.c 1 (by decide)).1; have k2 := (bt.c 2 (by decide)).1; have k3 := (bt.c 3 (by decide)).1; have k4 := (bt.c 4 (by decide)).1; have k5 := (bt.c 5 (by decide)).1; have k6 := (bt.c 6 (by decide)).1; have k7 := (bt.c 7 (by decide)).1; simp only [List.getD_cons_zero, List.getD_cons_succ] at k0 k1 k2 k3 k4 k5 k6 k7; have zt := bt.lt) | (go_at_call 10; refine (in_any _ _ _ _).mono ?_; rintro e u ⟨rfl, hu⟩; rw [hu]; clear hu; (first | rw [h2] | rw [h3] | rw [h4] | rw [h5])))
          go_ret
          exact ⟨by rw [e0.out, h1, h2, h3, h4]; simp, hbv⟩
        | true =>
          cases h5 : inR ask 1 1048576 with
          | false =>
            go_wp2_with (first | (go_at_call 19; refine (labelMay_any s q a len cap lb _ hl).mono ?_; rintro e w1 ⟨rfl, hb1⟩; rw [h1]; replace hbv : Below w.heap.size w w1 := hbv.trans (hb1.mono hbv.size); clear k0 k1 k2 k3 k4 k5 k6 k7; replace bt := bt.below hb1 bt.lt; have k0 := (bt.c 0 (by decide)).1; have k1 := (bt.c 1 (by decide)).1; have k2 := (bt.c 2 (by decide)).1; have k3 := (bt.c 3 (by decide)).1; have k4 := (bt.c 4 (by decide)).1; have k5 := (bt.c 5 (by decide)).1; have k6 := (bt.c 6 (by decide)).1; have k7 := (bt.c 7 (by decide)).1; simp only [List.getD_cons_zero, List.getD_cons_succ] at k0 k1 k2 k3 k4 k5 k6 k7; have zt := bt.lt) | (go_at_call 10; refine (in_any _ _ _ _).mono ?_; rintro e u ⟨rfl, hu⟩; rw [hu]; clear hu; (first | rw [h2] | rw [h3] | rw [h4] | rw [h5])))
            go_ret
            exact ⟨by rw [e0.out, h1, h2, h3, h4, h5]; simp, hbv⟩
          | true =>
            replace e0 : Hid (R = (dn || (!su && (wr || (decide (va = 0) && decide (ve = 0)))))) := by show _ = _; rw [e0.out, h1, h2, h3, h4, h5]; simp
            go_upto_region 3 with (first | (go_at_call 19; refine (labelMay_any s q a len cap lb _ hl).mono ?_; rintro e w1 ⟨rfl, hb1⟩; rw [h1]; replace hbv : Below w.heap.size w w1 := hbv.trans (hb1.mono hbv.size); clear k0 k1 k2 k3 k4 k5 k6 k7; replace bt := bt.below hb1 bt.lt; have k0 := (bt.c 0 (by decide)).1; have k1 := (bt.c 1 (by decide)).1; have k2 := (bt.c 2 (by decide)).1; have k3 := (bt.c 3 (by decide)).1; have k4 := (bt.c 4 (by decide)).1; have k5 := (bt.c 5 (by decide)).1; have k6 := (bt.c 6 (by decide)).1; have k7 := (bt.c 7 (by decide)).1; simp only [List.getD_cons_zero, List.getD_cons_succ] at k0 k1 k2 k3 k4 k5 k6 k7; have zt := bt.lt) | (go_at_call 10; refine (in_any _ _ _ _).mono ?_; rintro e u ⟨rfl, hu⟩; rw [hu]; clear hu; (first | rw [h2] | rw [h3] | rw [h4] | rw [h5])))
            cases dn with
            | true =>
              go_wp2
              go_ret
              exact ⟨by rw [e0.out]; rfl, hbv⟩
            | false =>
              cases su with
              | true =>
                go_wp2
                go_ret
                exact ⟨by rw [e0.out]; rfl, hbv⟩
              | false =>
                cases wr with
                | true =>
                  go_wp2
                  go_ret
                  exact ⟨by rw [e0.out]; rfl, hbv⟩
                | false =>
                  by_cases hv : va = 0
                  · subst hv
                    by_cases hw : ve = 0
                    · subst hw
                      go_wp2
                      go_ret
                      exact ⟨by rw [e0.out]; rfl, hbv⟩
                    · go_wp2
                      go_ret
                      exact ⟨by rw [e0.out]; simp [hw], hbv⟩
                  · go_wp2
                    go_ret
                    exact ⟨by rw [e0.out]; simp [hv], hbv⟩
set_option maxHeartbeats 4000000 in
theorem rising_any (s q : Int) (a : Option Addr) (len cap : Nat) (b : Option Addr) (n c : Nat) (xs : List Int) (w : World) (h : IsSites w b n c xs) (hs : 1 ≤ s ∧ s ≤ 4) :
    Calls Try.prog 17 #[.agg #[.int .i64 s, .slice a len cap, .int .i64 q], .slice b n c] w fun e w' => e = .returned (.bool (rise s 0 xs)) ∧ Below w.heap.size w w' := by
  have hmx : n ≤ maxLen := Nat.le_trans h.2.1 h.2.2.1
  unfold maxLen at hmx
  have HL : Hid (xs.length = n) := h.1
  have hw : IntKind.i64.wrap (s - 1) = s - 1 := by apply wrap_in <;> omega
  obtain ⟨W, hW⟩ : ∃ W : World, W = (w.alloc (.cells #[.int .i64 s, .slice a len cap, .int .i64 q] 24)) := ⟨_, rfl⟩
  have hB : Below w.heap.size w W := by rw [hW]; exact (Below.refl _ _).alloc (Nat.le_refl _) _
  have bc : BoxN W w.heap.size 3 [.int .i64 s, .slice a len cap, .int .i64 q] := by rw [hW]; exact boxn_new w #[.int .i64 s, .slice a len cap, .int .i64 q] 24 3 rfl
  obtain ⟨R, eR⟩ : ∃ R, R = rise s 0 xs := ⟨_, rfl⟩
  have HR : Hid (R = rise s 0 (xs.drop 0)) := by rw [eR]; rfl
  rw [← eR]
  clear eR
  go_enter Try.func17, Try.ntmps17
  go_upto_region 1 with (fail)
  rw [← hW]
  clear hW
  go_wp2
  go_loopw [5, 7, 10] (fun s5 _ s10 wr => ∃ (k : Nat) (lo : Int), s10 = .int .i64 (k : Int) ∧ s5 = .int .i64 lo ∧ k ≤ n ∧ 0 ≤ lo ∧ lo ≤ 5 ∧ Hid (R = rise s lo (xs.drop k)) ∧ wr = W) (fun _ _ s10 _ => n - (intOf s10).toNat)
  case atStart => exact ⟨0, 0, rfl, rfl, Nat.zero_le _, by omega, by omega, HR.out, rfl⟩
  case round =>
    obtain ⟨k, lo, rfl, rfl, hk, l0, l5, hR, hwr⟩ := hrel
    subst hwr
    have x0 := (bc.c 0 (by decide)).1
    have zc := bc.lt
    simp only [List.getD_cons_zero] at x0
    by_cases hlt : k < n
    · have hlt' : (k : Int) < (n : Int) := by omega
      have hkl : k < xs.length := by rw [HL.out]; exact hlt
      have HS : Hid (R = (inR (xs.getD k default) lo (s - 1) && rise s (xs.getD k default + 1) (xs.drop (k + 1)))) := by show _ = _; rw [hR.out, rise_at hkl]
      obtain ⟨b', off, rfl, zb, hc⟩ := (h.below hB).2.2.2.2 (by omega)
      have e0 := hc k hlt 0 (by decide)
      obtain ⟨x, ex⟩ : ∃ x, x = xs.getD k default := ⟨_, rfl⟩
      rw [← ex] at e0 HS
      clear ex hc hR
      simp only [inCell, List.getElem?_cons_zero, Nat.add_zero, Nat.mul_one] at e0
      cases h1 : inR x lo (s - 1) with
      | false =>
        go_wp2_with (go_at_call 7; refine (within_any _ _ _ _).mono ?_; rintro e u ⟨rfl, hu⟩; rw [hu, h1]; clear hu)
        go_ret
        exact ⟨by rw [HS.out, h1]; rfl, hB⟩
      | true =>
        have hx := inR_of h1
        have hwx : IntKind.i64.wrap (x + 1) = x + 1 := by apply wrap_in <;> omega
        go_wp2_with (go_at_call 7; refine (within_any _ _ _ _).mono ?_; rintro e u ⟨rfl, hu⟩; rw [hu, h1]; clear hu)
        go_roundw
        case rel => exact ⟨k + 1, x + 1, by go_num, rfl, by omega, by omega, by omega, by show _ = _; rw [HS.out, h1]; rfl, by first | rfl | trivial⟩
        case measure => simp [intOf]; omega
    · obtain rfl : k = n := by omega
      have hT : R = true := by rw [hR.out, List.drop_of_length_le (by rw [HL.out]; exact Nat.le_refl _)]; rfl
      go_wp2
      go_ret
      exact ⟨by rw [hT]; rfl, hB⟩
end Go.Proofs.Ytbnlibeokekpfaa.Co
