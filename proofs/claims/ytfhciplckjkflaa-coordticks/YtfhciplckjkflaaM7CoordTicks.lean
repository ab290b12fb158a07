/- Texts of this claim, one behind the other. -/
import Derived.Test.YtfhciplckjkflaaProg
import Derived.WalkKit
import Derived.ProofKit
import Derived.Below
import Derived.Deep.QuietTactic
import Derived.BigQuiet
import Derived.LoopTactic
import Derived.WalkSmall
import Derived.Test.YtfhciplckjkflaaA0CoordTicks
import Derived.Test.YtfhciplckjkflaaM2CoordTicks
import Derived.Test.YtfhciplckjkflaaM4CoordTicks
import Derived.Deep.Cut
import Derived.Deep.DeepCutAuto
import Derived.Lib.QuietBelow
/- The contract of the document's answer ConfigFault: at every config it returns the fault that cfgFault tells, and leaves what was in memory. -/
namespace Go.Proofs.Ytfhciplckjkflaa
open Go.ChangeShapes Go.WideShapes Go.ChangeAt Go.RowKit

theorem in_any (n lo hi : Int) (w : World) :
    Calls Try.prog 26 #[.int .i64 n, .int .i64 lo, .int .i64 hi] w fun e w' => e = .returned (.bool (inR n lo hi)) ∧ w' = w := by
  go_enter Try.func26, Try.ntmps26
  go_wp2
  all_goals go_ret
  all_goals exact ⟨ret_bool (by unfold inR; rw [Bool.eq_iff_iff]; simp; omega), rfl⟩

theorem fault_sites (s p : Int) (a : Option Addr) (len cap : Nat) (w : World) (hs : s < 1 ∨ 4 < s) :
    Calls Try.prog 76 #[.agg #[.int .i64 s, .slice a len cap, .int .i64 p]] w fun e w' => e = .returned (.int .i64 2) ∧ Below w.heap.size w w' := by
  have hA : Below w.heap.size w (w.alloc (.cells #[.int .i64 s, .slice a len cap, .int .i64 p] 24)) := (Below.refl _ _).alloc (Nat.le_refl _) _
  have h1 := inR_false hs
  go_enter Try.func76, Try.ntmps76
  go_wp2_with (go_at_call 26; refine (in_any _ _ _ _).mono ?_; rintro e w1 ⟨rfl, rfl⟩)
  go_ret
  exact ⟨rfl, hA⟩

theorem fault_size (s p : Int) (a : Option Addr) (len cap : Nat) (w : World) (h1 : 1 ≤ s) (h2 : s ≤ 4) (hn : len < 1 ∨ 6 < len) :
    Calls Try.prog 76 #[.agg #[.int .i64 s, .slice a len cap, .int .i64 p]] w fun e w' => e = .returned (.int .i64 1) ∧ Below w.heap.size w w' := by
  have hA : Below w.heap.size w (w.alloc (.cells #[.int .i64 s, .slice a len cap, .int .i64 p] 24)) := (Below.refl _ _).alloc (Nat.le_refl _) _
  have h3 := inR_true h1 h2
  have h4 : inR (len : Int) 1 6 = false := inR_false (by omega)
  go_enter Try.func76, Try.ntmps76
  go_wp2_with (go_at_call 26; refine (in_any _ _ _ _).mono ?_; rintro e w1 ⟨rfl, rfl⟩)
  go_ret
  exact ⟨rfl, hA⟩

set_option maxHeartbeats 1000000 in
theorem fault_labs (s p : Int) (b off : Nat) (cap : Nat) (ls : List (Int × Int)) (w : World) (h1 : 1 ≤ s) (h2 : s ≤ 4) (h3 : 1 ≤ ls.length) (h4 : ls.length ≤ 6) (h : Labs w b off ls) :
    Calls Try.prog 76 #[.agg #[.int .i64 s, .slice (some ⟨b, off, none⟩) ls.length cap, .int .i64 p]] w fun e w' => e = .returned (.int .i64 (cfgFault s ls p)) ∧ Below w.heap.size w w' := by
  have r1 := inR_true h1 h2
  have r2 : inR (ls.length : Int) 1 6 = true := inR_true (by omega) (by omega)
  go_enter Try.func76, Try.ntmps76
  go_wp2_with (go_at_call 26; refine (in_any _ _ _ _).mono ?_; rintro e w1 ⟨rfl, rfl⟩)
  go_loopw [3] (fun i wr => ∃ k : Nat, k ≤ ls.length ∧ i = .int .i64 k ∧ labAt ls k ∧ Below (w.heap.size + 1) (w.alloc (.cells #[.int .i64 s, .slice (some ⟨b, off, none⟩) ls.length cap, .int .i64 p] 24)) wr) (fun i _ => ls.length - (intOf i).toNat)
  case atStart => exact ⟨0, Nat.zero_le _, rfl, labAt_zero _, Below.refl _ _⟩
  case round =>
    obtain ⟨k, hk, rfl, hat, hb⟩ := hrel
    have hbw : Below w.heap.size w wr := ((Below.refl _ _).alloc (Nat.le_refl _) _).trans (hb.mono (by omega))
    have d1 : wr.cell? ⟨w.heap.size, 1, none⟩ = some (.slice (some ⟨b, off, none⟩) ls.length cap) := by
      rw [hb.cell (p := ⟨w.heap.size, 1, none⟩) (by simp)]; go_simp
    have d2 : wr.cell? ⟨w.heap.size, 2, none⟩ = some (.int .i64 p) := by
      rw [hb.cell (p := ⟨w.heap.size, 2, none⟩) (by simp)]; go_simp
    by_cases hlt : k < ls.length
    · have hr := (h.below hbw).2 k hlt
      obtain ⟨x, hx⟩ : ∃ p, p = (ls.getD k (0, 0)).1 := ⟨_, rfl⟩
      obtain ⟨y, hy⟩ : ∃ q, q = (ls.getD k (0, 0)).2 := ⟨_, rfl⟩
      rw [← hx, ← hy] at hr
      obtain ⟨c0, c1⟩ := hr
      have hxy : ls.getD k (0, 0) = (x, y) := Prod.ext hx.symm hy.symm
      clear hx hy
      cases hB : inB x y with
      | false =>
        have hf : cfgFault s ls p = 2 := cfg_lab h1 h2 h3 h4 (labAt_range hlt hat (by rw [hxy]; exact hB)) (by decide)
        clear hxy
        rw [inB_of] at hB
        cases hX : inR x 0 9 with
        | false =>
          go_wp2_with (go_at_call 26; refine (in_any _ _ _ _).mono ?_; rintro e w1 ⟨rfl, rfl⟩)
          go_ret
          exact ⟨ret_int hf.symm, hbw⟩
        | true =>
          have hY : inR y 0 15 = false := by rw [hX] at hB; simpa using hB
          clear hB
          go_wp2_with (go_at_call 26; refine (in_any _ _ _ _).mono ?_; rintro e w1 ⟨rfl, rfl⟩)
          go_ret
          exact ⟨ret_int hf.symm, hbw⟩
      | true =>
        have hT : Hid ((x, y) ∈ ls.take k → cfgFault s ls p = 7) := fun hmem => cfg_lab h1 h2 h3 h4 (labAt_twice hlt hat (by rw [hxy]; exact hB) (by rw [hxy]; exact hmem)) (by decide)
        have hS : Hid ((x, y) ∉ ls.take k → labAt ls (k + 1)) := fun hmem => labAt_succ hlt hat (by rw [hxy]; exact hB) (by rw [hxy]; exact hmem)
        clear hxy
        rw [inB_of] at hB
        obtain ⟨hX, hY⟩ : inR x 0 9 = true ∧ inR y 0 15 = true := by simpa using hB
        clear hB
        go_wp2_with (go_at_call 26; refine (in_any _ _ _ _).mono ?_; rintro e w1 ⟨rfl, rfl⟩)
        obtain ⟨wo, hwo⟩ : ∃ wo : World, wo = w1 := ⟨_, rfl⟩
        rw [← hwo] at hb hbw d1 d2 c0 c1 ⊢
        clear hwo
        go_loopw [4] (fun i wr => ∃ j : Nat, j ≤ k ∧ i = .int .i64 j ∧ (x, y) ∉ ls.take j ∧ Below wo.heap.size wo wr) (fun i _ => k - (intOf i).toNat)
        case atStart => exact ⟨0, Nat.zero_le _, rfl, by simp, Below.refl _ _⟩
        case round =>
          obtain ⟨j, hj, rfl, hno, hbo⟩ := hrel
          have hzo : w.heap.size < wo.heap.size := by have := hb.size; simp at this; omega
          have hb3 : Below (w.heap.size + 1) (w.alloc (.cells #[.int .i64 s, .slice (some ⟨b, off, none⟩) ls.length cap, .int .i64 p] 24)) wr := hb.trans (hbo.mono hzo)
          have hbw2 : Below w.heap.size w wr := hbw.trans (hbo.mono (by omega))
          have e1 : wr.cell? ⟨w.heap.size, 1, none⟩ = some (.slice (some ⟨b, off, none⟩) ls.length cap) := by
            rw [hbo.cell (p := ⟨w.heap.size, 1, none⟩) hzo]; exact d1
          by_cases hjk : j < k
          · have hr := (h.below hbw2).2 j (by omega)
            have hbo' : b < wo.heap.size := by have := h.1; omega
            have g0 : wr.cell? ⟨b, off + k * 2, none⟩ = some (.int .i64 x) := by rw [hbo.cell (p := ⟨b, off + k * 2, none⟩) hbo']; exact c0
            have g1 : wr.cell? ⟨b, off + k * 2 + 1, none⟩ = some (.int .i64 y) := by rw [hbo.cell (p := ⟨b, off + k * 2 + 1, none⟩) hbo']; exact c1
            obtain ⟨u, hu⟩ : ∃ p, p = (ls.getD j (0, 0)).1 := ⟨_, rfl⟩
            obtain ⟨v, hv⟩ : ∃ q, q = (ls.getD j (0, 0)).2 := ⟨_, rfl⟩
            rw [← hu, ← hv] at hr
            obtain ⟨g2, g3⟩ := hr
            have hjl : (j : Int) < (ls.length : Int) := by omega
            by_cases e1' : u = x
            · by_cases e2 : v = y
              · have hmem : (x, y) ∈ ls.take k := by
                  refine mem_of_getD (k := j) (by simp; omega) ?_ ?_
                  · rw [← e1', hu]; simp [List.getD, hjk]
                  · rw [← e2, hv]; simp [List.getD, hjk]
                have hf := hT.out hmem
                clear hu hv hno
                subst e1' e2
                go_wp2
                go_quiet (fail)
                go_wp2
                go_ret
                exact ⟨ret_int hf.symm, below_drewN hbw2 nq⟩
              · have hn := not_take_succ (p := (x, y)) (by omega) hno (by rw [← hu, ← hv]; simp; intro _; exact fun h => e2 h.symm)
                have e3 : (v == y) = false := by simpa using e2
                clear hu hv
                subst e1'
                go_wp2
                go_quiet (fail)
                go_wp2
                go_roundw
                case rel => exact ⟨j + 1, by omega, by go_num, hn, below_drewN hbo nq⟩
                case measure => simp [intOf]; omega
            · have hn := not_take_succ (p := (x, y)) (by omega) hno (by rw [← hu, ← hv]; simp; intro h; exact absurd h.symm e1')
              have e3 : (u == x) = false := by simpa using e1'
              clear hu hv
              go_wp2
              go_quiet (fail)
              go_wp2
              go_roundw
              case rel => exact ⟨j + 1, by omega, by go_num, hn, below_drewN hbo nq⟩
              case measure => simp [intOf]; omega
          · have hjk' : j = k := by omega
            subst hjk'
            have hn := hS.out hno
            go_wp2
            go_roundw
            case rel => exact ⟨j + 1, by omega, by go_num, hn, hb3⟩
            case measure => simp [intOf]; omega
    · have he : k = ls.length := by omega
      subst he
      have hf := labAt_end hat
      by_cases hp : p < 1 ∨ 1048576 < p
      · have hr := inR_false hp
        go_wp2_with (go_at_call 26; refine (in_any _ _ _ _).mono ?_; rintro e w1 ⟨rfl, rfl⟩)
        go_ret
        exact ⟨ret_int (cfg_late h1 h2 h3 h4 hf hp).symm, hbw⟩
      · have hr : inR p 1 1048576 = true := inR_true (by omega) (by omega)
        go_wp2_with (go_at_call 26; refine (in_any _ _ _ _).mono ?_; rintro e w1 ⟨rfl, rfl⟩)
        go_ret
        exact ⟨ret_int (cfg_ok h1 h2 h3 h4 hf (by omega) (by omega)).symm, hbw⟩

theorem fault_any (s p : Int) (a : Option Addr) (len cap : Nat) (ls : List (Int × Int)) (w : World) (h : IsLabs w a len cap ls) :
    Calls Try.prog 76 #[.agg #[.int .i64 s, .slice a len cap, .int .i64 p]] w fun e w' => e = .returned (.int .i64 (cfgFault s ls p)) ∧ Below w.heap.size w w' := by
  obtain ⟨rfl, _, _, h4⟩ := h
  by_cases hs : s < 1 ∨ 4 < s
  · rw [cfg_sites hs]
    exact fault_sites s p a _ cap w hs
  · by_cases hn : ls.length < 1 ∨ 6 < ls.length
    · rw [cfg_size (by omega) (by omega) hn]
      exact fault_size s p a _ cap w (by omega) (by omega) hn
    · obtain ⟨b, off, rfl, hL⟩ := h4 (by omega)
      exact fault_labs s p b off cap ls w (by omega) (by omega) (by omega) (by omega) hL
end Go.Proofs.Ytfhciplckjkflaa
/- Contracts of the small functions: bounds.Label, Key, Value, Rising; coord.taskMayBe; the document's labelMay and taskMay. -/
namespace Go.Proofs.Ytfhciplckjkflaa.Co
open Go.ChangeShapes Go.WideShapes Go.ChangeAt Go.RowKit
open Go.Proofs.Ytfhciplckjkflaa.St (IsRow drop_at take_at BoxN boxn_new)
set_option linter.unusedVariables false

theorem wrap_in {n : Int} (h1 : -9223372036854775808 ≤ n) (h2 : n ≤ 9223372036854775807) : IntKind.i64.wrap n = n := by
  rw [IntKind.wrap_i64]
  omega
theorem key_any (n : Int) (w : World) :
    Calls Try.prog 68 #[.int .i64 n] w fun e w' => e = .returned (.bool (inR n 0 7)) ∧ w' = w := by
  go_enter Try.func68, Try.ntmps68
  go_wp2_with (go_at_call 15; refine (within_any _ _ _ _).mono ?_; rintro e w1 ⟨rfl, hu1⟩; rw [hu1]; clear hu1)
  go_ret
  exact ⟨rfl, rfl⟩
theorem value_any (n : Int) (w : World) :
    Calls Try.prog 69 #[.int .i64 n] w fun e w' => e = .returned (.bool (inR n 0 1073741824)) ∧ w' = w := by
  go_enter Try.func69, Try.ntmps69
  go_wp2_with (go_at_call 15; refine (within_any _ _ _ _).mono ?_; rintro e w1 ⟨rfl, hu1⟩; rw [hu1]; clear hu1)
  go_ret
  exact ⟨rfl, rfl⟩
theorem label_any (s q : Int) (a : Option Addr) (len cap : Nat) (l : Int) (w : World) (hl : len ≤ 6) :
    Calls Try.prog 40 #[.agg #[.int .i64 s, .slice a len cap, .int .i64 q], .int .i64 l] w fun e w' => e = .returned (.bool (inR l 0 ((len : Int) - 1))) ∧ Below w.heap.size w w' := by
  have hA : Below w.heap.size w (w.alloc (.cells #[.int .i64 s, .slice a len cap, .int .i64 q] 24)) := (Below.refl _ _).alloc (Nat.le_refl _) _
  have hw : IntKind.i64.wrap ((len : Int) - 1) = (len : Int) - 1 := by apply wrap_in <;> omega
  go_enter Try.func40, Try.ntmps40
  go_wp2_with (go_at_call 15; refine (within_any _ _ _ _).mono ?_; rintro e w1 ⟨rfl, hu1⟩; rw [hu1]; clear hu1)
  go_ret
  exact ⟨rfl, hA⟩
theorem labelMay_any (s q : Int) (a : Option Addr) (len cap : Nat) (l : Int) (w : World) (hl : len ≤ 6) :
    Calls Try.prog 58 #[.agg #[.int .i64 s, .slice a len cap, .int .i64 q], .int .i64 l] w fun e w' => e = .returned (.bool (inR l 0 ((len : Int) - 1))) ∧ Below w.heap.size w w' := by
  have hA : Below w.heap.size w (w.alloc (.cells #[.int .i64 s, .slice a len cap, .int .i64 q] 24)) := (Below.refl _ _).alloc (Nat.le_refl _) _
  have hw : IntKind.i64.wrap ((len : Int) - 1) = (len : Int) - 1 := by apply wrap_in <;> omega
  go_enter Try.func58, Try.ntmps58
  go_wp2_with (go_at_call 26; refine (in_any _ _ _ _).mono ?_; rintro e w1 ⟨rfl, hu1⟩; rw [hu1]; clear hu1)
  go_ret
  exact ⟨rfl, hA⟩
set_option maxHeartbeats 4000000 in
theorem taskMayBe_any (s q : Int) (a : Option Addr) (len cap : Nat) (t : TkV) (w : World) (hl : len ≤ 6) :
    Calls Try.prog 88 #[.agg #[.int .i64 s, .slice a len cap, .int .i64 q], t.val] w fun e w' => e = .returned (.bool (tkOK (len : Int) t)) ∧ Below w.heap.size w w' := by
  obtain ⟨wr, lb, ky, va, ve, ask, dn, su⟩ := t
  simp only [TkV.val]
  obtain ⟨W, hW⟩ : ∃ W : World, W = (w.alloc (.cells #[.int .i64 s, .slice a len cap, .int .i64 q] 24)).alloc (.cells #[.bool wr, .int .i64 lb, .int .i64 ky, .int .i64 va, .int .i64 ve, .int .i64 ask, .bool dn, .bool su] 73) := ⟨_, rfl⟩
  have hbv : Below w.heap.size w W := by rw [hW]; exact ((Below.refl _ _).alloc (Nat.le_refl _) _).alloc (by simp) _
  have bt : BoxN W (w.heap.size + 1) 8 [.bool wr, .int .i64 lb, .int .i64 ky, .int .i64 va, .int .i64 ve, .int .i64 ask, .bool dn, .bool su] := by rw [hW]; simpa using boxn_new (w.alloc (.cells #[.int .i64 s, .slice a len cap, .int .i64 q] 24)) #[.bool wr, .int .i64 lb, .int .i64 ky, .int .i64 va, .int .i64 ve, .int .i64 ask, .bool dn, .bool su] 73 8 rfl
  have c0 : W.cell? ⟨w.heap.size, 0, none⟩ = some (.int .i64 s) := by rw [hW]; go_simp
  have c1 : W.cell? ⟨w.heap.size, 1, none⟩ = some (.slice a len cap) := by rw [hW]; go_simp
  have c2 : W.cell? ⟨w.heap.size, 2, none⟩ = some (.int .i64 q) := by rw [hW]; go_simp
  have zc : w.heap.size < W.heap.size := by rw [hW]; simp; omega
  have k0 := (bt.c 0 (by decide)).1
  have k1 := (bt.c 1 (by decide)).1
  have k2 := (bt.c 2 (by decide)).1
  have k3 := (bt.c 3 (by decide)).1
  have k4 := (bt.c 4 (by decide)).1
  have k5 := (bt.c 5 (by decide)).1
  have k6 := (bt.c 6 (by decide)).1
  have k7 := (bt.c 7 (by decide)).1
  simp only [List.getD_cons_zero, List.getD_cons_succ] at k0 k1 k2 k3 k4 k5 k6 k7
  have zt := bt.lt
  have e0 : Hid ((tkOK (len : Int) ⟨wr, lb, ky, va, ve, ask, dn, su⟩) = (inR lb 0 ((len : Int) - 1) && inR ky 0 7 && inR va 0 1073741824 && inR ve 0 1048576 && (dn || (!su && (wr || (decide (va = 0) && decide (ve = 0))))))) := by show _ = _; unfold tkOK; rfl
  obtain ⟨R, eR⟩ : ∃ R, R = (tkOK (len : Int) ⟨wr, lb, ky, va, ve, ask, dn, su⟩) := ⟨_, rfl⟩
  rw [← eR] at e0
  first | rw [← eR] | (simp only []; rw [← eR])
  clear eR
  go_enter Try.func88, Try.ntmps88
  go_upto_region 1 with (fail)
  rw [← hW]
  clear hW
  cases h1 : inR lb 0 ((len : Int) - 1) with
  | false =>
    go_wp2_with (first | (go_at_call 40; refine (label_any s q a len cap lb _ hl).mono ?_; rintro e w1 ⟨rfl, hb1⟩; rw [h1]; replace hbv : Below w.heap.size w w1 := hbv.trans (hb1.mono hbv.size); clear k0 k1 k2 k3 k4 k5 k6 k7; replace bt := bt.below hb1 bt.lt; have k0 := (bt.c 0 (by decide)).1; have k1 := (bt.c 1 (by decide)).1; have k2 := (bt.c 2 (by decide)).1; have k3 := (bt.c 3 (by decide)).1; have k4 := (bt.c 4 (by decide)).1; have k5 := (bt.c 5 (by decide)).1; have k6 := (bt.c 6 (by decide)).1; have k7 := (bt.c 7 (by decide)).1; simp only [List.getD_cons_zero, List.getD_cons_succ] at k0 k1 k2 k3 k4 k5 k6 k7; have zt := bt.lt) | (go_at_call 68; refine (key_any _ _).mono ?_; rintro e u ⟨rfl, hu⟩; rw [hu]; clear hu; (first | rw [h2] | rw [h3] | rw [h4] | rw [h5])) | (go_at_call 69; refine (value_any _ _).mono ?_; rintro e u ⟨rfl, hu⟩; rw [hu]; clear hu; (first | rw [h2] | rw [h3] | rw [h4] | rw [h5])) | (go_at_call 15; refine (within_any _ _ _ _).mono ?_; rintro e u ⟨rfl, hu⟩; rw [hu]; clear hu; (first | rw [h2] | rw [h3] | rw [h4] | rw [h5])))
    go_ret
    exact ⟨by rw [e0.out, h1]; simp, hbv⟩
  | true =>
    cases h2 : inR ky 0 7 with
    | false =>
      go_wp2_with (first | (go_at_call 40; refine (label_any s q a len cap lb _ hl).mono ?_; rintro e w1 ⟨rfl, hb1⟩; rw [h1]; replace hbv : Below w.heap.size w w1 := hbv.trans (hb1.mono hbv.size); clear k0 k1 k2 k3 k4 k5 k6 k7; replace bt := bt.below hb1 bt.lt; have k0 := (bt.c 0 (by decide)).1; have k1 := (bt.c 1 (by decide)).1; have k2 := (bt.c 2 (by decide)).1; have k3 := (bt.c 3 (by decide)).1; have k4 := (bt.c 4 (by decide)).1; have k5 := (bt.c 5 (by decide)).1; have k6 := (bt.c 6 (by decide)).1; have k7 := (bt.c 7 (by decide)).1; simp only [List.getD_cons_zero, List.getD_cons_succ] at k0 k1 k2 k3 k4 k5 k6 k7; have zt := bt.lt) | (go_at_call 68; refine (key_any _ _).mono ?_; rintro e u ⟨rfl, hu⟩; rw [hu]; clear hu; (first | rw [h2] | rw [h3] | rw [h4] | rw [h5])) | (go_at_call 69; refine (value_any _ _).mono ?_; rintro e u ⟨rfl, hu⟩; rw [hu]; clear hu; (first | rw [h2] | rw [h3] | rw [h4] | rw [h5])) | (go_at_call 15; refine (within_any _ _ _ _).mono ?_; rintro e u ⟨rfl, hu⟩; rw [hu]; clear hu; (first | rw [h2] | rw [h3] | rw [h4] | rw [h5])))
      go_ret
      exact ⟨by rw [e0.out, h1, h2]; simp, hbv⟩
    | true =>
      cases h3 : inR va 0 1073741824 with
      | false =>
        go_wp2_with (first | (go_at_call 40; refine (label_any s q a len cap lb _ hl).mono ?_; rintro e w1 ⟨rfl, hb1⟩; rw [h1]; replace hbv : Below w.heap.size w w1 := hbv.trans (hb1.mono hbv.size); clear k0 k1 k2 k3 k4 k5 k6 k7; replace bt := bt.below hb1 bt.lt; have k0 := (bt.c 0 (by decide)).1; have k1 := (bt.c 1 (by decide)).1; have k2 := (bt.c 2 (by decide)).1; have k3 := (bt.c 3 (by decide)).1; have k4 := (bt.c 4 (by decide)).1; have k5 := (bt.c 5 (by decide)).1; have k6 := (bt.c 6 (by decide)).1; have k7 := (bt.c 7 (by decide)).1; simp only [List.getD_cons_zero, List.getD_cons_succ] at k0 k1 k2 k3 k4 k5 k6 k7; have zt := bt.lt) | (go_at_call 68; refine (key_any _ _).mono ?_; rintro e u ⟨rfl, hu⟩; rw [hu]; clear hu; (first | rw [h2] | rw [h3] | rw [h4] | rw [h5])) | (go_at_call 69; refine (value_any _ _).mono ?_; rintro e u ⟨rfl, hu⟩; rw [hu]; clear hu; (first | rw [h2] | rw [h3] | rw [h4] | rw [h5])) | (go_at_call 15; refine (within_any _ _ _ _).mono ?_; rintro e u ⟨rfl, hu⟩; rw [hu]; clear hu; (first | rw [h2] | rw [h3] | rw [h4] | rw [h5])))
        go_ret
        exact ⟨by rw [e0.out, h1, h2, h3]; simp, hbv⟩
      | true =>
        cases h4 : inR ve 0 1048576 with
        | false =>
          go_wp2_with (first | (go_at_call 40; refine (label_any s q a len cap lb _ hl).mono ?_; rintro e w1 ⟨rfl, hb1⟩; rw [h1]; replace hbv : Below w.heap.size w w1 := hbv.trans (hb1.mono hbv.size); clear k0 k1 k2 k3 k4 k5 k6 k7; replace bt := bt.below hb1 bt.lt; have k0 := (bt.c 0 (by decide)).1; have k1 := (bt.c 1 (by decide)).1; have k2 := (bt.c 2 (by decide)).1; have k3 := (bt.c 3 (by decide)).1; have k4 := (bt.c 4 (by decide)).1; have k5 := (bt.c 5 (by decide)).1; have k6 := (bt.c 6 (by decide)).1; have k7 := (bt.c 7 (by decide)).1; simp only [List.getD_cons_zero, List.getD_cons_succ] at k0 k1 k2 k3 k4 k5 k6 k7; have zt := bt.lt) | (go_at_call 68; refine (key_any _ _).mono ?_; rintro e u ⟨rfl, hu⟩; rw [hu]; clear hu; (first | rw [h2] | rw [h3] | rw [h4] | rw [h5])) | (go_at_call 69; refine (value_any _ _).mono ?_; rintro e u ⟨rfl, hu⟩; rw [hu]; clear hu; (first | rw [h2] | rw [h3] | rw [h4] | rw [h5])) | (go_at_call 15; refine (within_any _ _ _ _).mono ?_; rintro e u ⟨rfl, hu⟩; rw [hu]; clear hu; (first | rw [h2] | rw [h3] | rw [h4] | rw [h5])))
          go_ret
          exact ⟨by rw [e0.out, h1, h2, h3, h4]; simp, hbv⟩
        | true =>
          replace e0 : Hid (R = (dn || (!su && (wr || (decide (va = 0) && decide (ve = 0)))))) := by show _ = _; rw [e0.out, h1, h2, h3, h4]; simp
          go_upto_region 3 with (first | (go_at_call 40; refine (label_any s q a len cap lb _ hl).mono ?_; rintro e w1 ⟨rfl, hb1⟩; rw [h1]; replace hbv : Below w.heap.size w w1 := hbv.trans (hb1.mono hbv.size); clear k0 k1 k2 k3 k4 k5 k6 k7; replace bt := bt.below hb1 bt.lt; have k0 := (bt.c 0 (by decide)).1; have k1 := (bt.c 1 (by decide)).1; have k2 := (bt.c 2 (by decide)).1; have k3 := (bt.c 3 (by decide)).1; have k4 := (bt.c 4 (by decide)).1; have k5 := (bt.c 5 (by decide)).1; have k6 := (bt.c 6 (by decide)).1; have k7 := (bt.c 7 (by decide)).1; simp only [List.getD_cons_zero, List.getD_cons_succ] at k0 k1 k2 k3 k4 k5 k6 k7; have zt := bt.lt) | (go_at_call 68; refine (key_any _ _).mono ?_; rintro e u ⟨rfl, hu⟩; rw [hu]; clear hu; (first | rw [h2] | rw [h3] | rw [h4] | rw [h5])) | (go_at_call 69; refine (value_any _ _).mono ?_; rintro e u ⟨rfl, hu⟩; rw [hu]; clear hu; (first | rw [h2] | rw [h3] | rw [h4] | rw [h5])) | (go_at_call 15; refine (within_any _ _ _ _).mono ?_; rintro e u ⟨rfl, hu⟩; rw [hu]; clear hu; (first | rw [h2] | rw [h3] | rw [h4] | rw [h5])))
          cases dn with
          | true =>
            go_wp2
            go_ret
            exact ⟨by rw [e0.out]; rfl, hbv⟩
          | false =>
            cases su with
            | true =>
              go_wp2
              go_ret
              exact ⟨by rw [e0.out]; rfl, hbv⟩
            | false =>
              cases wr with
              | true =>
                go_wp2
                go_ret
                exact ⟨by rw [e0.out]; rfl, hbv⟩
              | false =>
                by_cases hv : va = 0
                · subst hv
                  by_cases hw : ve = 0
                  · subst hw
                    go_wp2
                    go_ret
                    exact ⟨by rw [e0.out]; rfl, hbv⟩
                  · go_wp2
                    go_ret
                    exact ⟨by rw [e0.out]; simp [hw], hbv⟩
                · go_wp2
                  go_ret
                  exact ⟨by rw [e0.out]; simp [hv], hbv⟩
set_option maxHeartbeats 4000000 in
theorem taskMay_any (s q : Int) (a : Option Addr) (len cap : Nat) (t : TkV) (w : World) (hl : len ≤ 6) :
    Calls Try.prog 83 #[.agg #[.int .i64 s, .slice a len cap, .int .i64 q], t.val] w fun e w' => e = .returned (.bool (tkOK (len : Int) t && inR t.ask 1 1048576)) ∧ Below w.heap.size w w' := by
  obtain ⟨wr, lb, ky, va, ve, ask, dn, su⟩ := t
  simp only [TkV.val]
  obtain ⟨W, hW⟩ : ∃ W : World, W = (w.alloc (.cells #[.int .i64 s, .slice a len cap, .int .i64 q] 24)).alloc (.cells #[.bool wr, .int .i64 lb, .int .i64 ky, .int .i64 va, .int .i64 ve, .int .i64 ask, .bool dn, .bool su] 73) := ⟨_, rfl⟩
  have hbv : Below w.heap.size w W := by rw [hW]; exact ((Below.refl _ _).alloc (Nat.le_refl _) _).alloc (by simp) _
  have bt : BoxN W (w.heap.size + 1) 8 [.bool wr, .int .i64 lb, .int .i64 ky, .int .i64 va, .int .i64 ve, .int .i64 ask, .bool dn, .bool su] := by rw [hW]; simpa using boxn_new (w.alloc (.cells #[.int .i64 s, .slice a len cap, .int .i64 q] 24)) #[.bool wr, .int .i64 lb, .int .i64 ky, .int .i64 va, .int .i64 ve, .int .i64 ask, .bool dn, .bool su] 73 8 rfl
  have c0 : W.cell? ⟨w.heap.size, 0, none⟩ = some (.int .i64 s) := by rw [hW]; go_simp
  have c1 : W.cell? ⟨w.heap.size, 1, none⟩ = some (.slice a len cap) := by rw [hW]; go_simp
  have c2 : W.cell? ⟨w.heap.size, 2, none⟩ = some (.int .i64 q) := by rw [hW]; go_simp
  have zc : w.heap.size < W.heap.size := by rw [hW]; simp; omega
  have k0 := (bt.c 0 (by decide)).1
  have k1 := (bt.c 1 (by decide)).1
  have k2 := (bt.c 2 (by decide)).1
  have k3 := (bt.c 3 (by decide)).1
  have k4 := (bt.c 4 (by decide)).1
  have k5 := (bt.c 5 (by decide)).1
  have k6 := (bt.c 6 (by decide)).1
  have k7 := (bt.c 7 (by decide)).1
  simp only [List.getD_cons_zero, List.getD_cons_succ] at k0 k1 k2 k3 k4 k5 k6 k7
  have zt := bt.lt
  have e0 : Hid ((tkOK (len : Int) ⟨wr, lb, ky, va, ve, ask, dn, su⟩ && inR ask 1 1048576) = (inR lb 0 ((len : Int) - 1) && inR ky 0 7 && inR va 0 1073741824 && inR ve 0 1048576 && inR ask 1 1048576 && (dn || (!su && (wr || (decide (va = 0) && decide (ve = 0))))))) := by show _ = _; unfold tkOK; simp only [Bool.and_assoc]; congr 4; exact Bool.and_comm _ _
  obtain ⟨R, eR⟩ : ∃ R, R = (tkOK (len : Int) ⟨wr, lb, ky, va, ve, ask, dn, su⟩ && inR ask 1 1048576) := ⟨_, rfl⟩
  rw [← eR] at e0
  first | rw [← eR] | (simp only []; rw [← eR])
  clear eR
  go_enter Try.func83, Try.ntmps83
  go_upto_region 1 with (fail)
  rw [← hW]
  clear hW
  cases h1 : inR lb 0 ((len : Int) - 1) with
  | false =>
    go_wp2_with (first | (go_at_call 58; refine (labelMay_any s q a len cap lb _ hl).mono ?_; rintro e w1 ⟨rfl, hb1⟩; rw [h1]; replace hbv : Below w.heap.size w w1 := hbv.trans (hb1.mono hbv.size); clear k0 k1 k2 k3 k4 k5 k6 k7; replace bt := bt.below hb1 bt.lt; have k0 := (bt.c 0 (by decide)).1; have k1 := (bt.c 1 (by decide)).1; have k2 := (bt.c 2 (by decide)).1; have k3 := (bt.c 3 (by decide)).1; have k4 := (bt.c 4 (by decide)).1; have k5 := (bt.c 5 (by decide)).1; have k6 := (bt.c 6 (by decide)).1; have k7 := (bt.c 7 (by decide)).1; simp only [List.getD_cons_zero, List.getD_cons_succ] at k0 k1 k2 k3 k4 k5 k6 k7; have zt := bt.lt) | (go_at_call 26; refine (in_any _ _ _ _).mono ?_; rintro e u ⟨rfl, hu⟩; rw [hu]; clear hu; (first | rw [h2] | rw [h3] | rw [h4] | rw [h5])))
    go_ret
    exact ⟨by rw [e0.out, h1]; simp, hbv⟩
  | true =>
    cases h2 : inR ky 0 7 with
    | false =>
      go_wp2_with (first | (go_at_call 58; refine (labelMay_any s q a len cap lb _ hl).mono ?_; rintro e w1 ⟨rfl, hb1⟩; rw [h1]; replace hbv : Below w.heap.size w w1 := hbv.trans (hb1.mono hbv.size); clear k0 k1 k2 k3 k4 k5 k6 k7; replace bt := bt.below hb1 bt.lt; have k0 := (bt.c 0 (by decide)).1; have k1 := (bt.c 1 (by decide)).1; have k2 := (bt.c 2 (by decide)).1; have k3 := (bt.c 3 (by decide)).1; have k4 := (bt.c 4 (by decide)).1; have k5 := (bt.c 5 (by decide)).1; have k6 := (bt.c 6 (by decide)).1; have k7 := (bt.c 7 (by decide)).1; simp only [List.getD_cons_zero, List.getD_cons_succ] at k0 k1 k2 k3 k4 k5 k6 k7; have zt := bt.lt) | (go_at_call 26; refine (in_any _ _ _ _).mono ?_; rintro e u ⟨rfl, hu⟩; rw [hu]; clear hu; (first | rw [h2] | rw [h3] | rw [h4] | rw [h5])))
      go_ret
      exact ⟨by rw [e0.out, h1, h2]; simp, hbv⟩
    | true =>
      cases h3 : inR va 0 1073741824 with
      | false =>
        go_wp2_with (first | (go_at_call 58; refine (labelMay_any s q a len cap lb _ hl).mono ?_; rintro e w1 ⟨rfl, hb1⟩; rw [h1]; replace hbv : Below w.heap.size w w1 := hbv.trans (hb1.mono hbv.size); clear k0 k1 k2 k3 k4 k5 k6 k7; replace bt := bt.below hb1 bt.lt; have k0 := (bt.c 0 (by decide)).1; have k1 := (bt.c 1 (by decide)).1; have k2 := (bt.c 2 (by decide)).1; have k3 := (bt.c 3 (by decide)).1; have k4 := (bt.c 4 (by decide)).1; have k5 := (bt.c 5 (by decide)).1; have k6 := (bt.c 6 (by decide)).1; have k7 := (bt.c 7 (by decide)).1; simp only [List.getD_cons_zero, List.getD_cons_succ] at k0 k1 k2 k3 k4 k5 k6 k7; have zt := bt.lt) | (go_at_call 26; refine (in_any _ _ _ _).mono ?_; rintro e u ⟨rfl, hu⟩; rw [hu]; clear hu; (first | rw [h2] | rw [h3] | rw [h4] | rw [h5])))
        go_ret
        exact ⟨by rw [e0.out, h1, h2, h3]; simp, hbv⟩
      | true =>
        cases h4 : inR ve 0 1048576 with
        | false =>
          go_wp2_with (first | (go_at_call 58; refine (labelMay_any s q a len cap lb _ hl).mono ?_; rintro e w1 ⟨rfl, hb1⟩; rw [h1]; replace hbv : Below w.heap.size w w1 := hbv.trans (hb1.mono hbv.size); clear k0 k1 k2 k3 k4 k5 k6 k7; replace bt := bt.below hb1 bt.lt; have k0 := (bt.c 0 (by decide)).1; have k1 := (bt.c 1 (by decide)).1; have k2 := (bt.c 2 (by decide)).1; have k3 := (bt.c 3 (by decide)).1; have k4 := (bt.c 4 (by decide)).1; have k5 := (bt.c 5 (by decide)).1; have k6 := (bt.c 6 (by decide)).1; have k7 := (bt.c 7 (by decide)).1; simp only [List.getD_cons_zero, List.getD_cons_succ] at k0 k1 k2 k3 k4 k5 k6 k7; have zt := bt.lt) | (go_at_call 26; refine (in_any _ _ _ _).mono ?_; rintro e u ⟨rfl, hu⟩; rw [hu]; clear hu; (first | rw [h2] | rw [h3] | rw [h4] | rw [h5])))
          go_ret
          exact ⟨by rw [e0.out, h1, h2, h3, h4]; simp, hbv⟩
        | true =>
          cases h5 : inR ask 1 1048576 with
          | false =>
            go_wp2_with (first | (go_at_call 58; refine (labelMay_any s q a len cap lb _ hl).mono ?_; rintro e w1 ⟨rfl, hb1⟩; rw [h1]; replace hbv : Below w.heap.size w w1 := hbv.trans (hb1.mono hbv.size); clear k0 k1 k2 k3 k4 k5 k6 k7; replace bt := bt.below hb1 bt.lt; have k0 := (bt.c 0 (by decide)).1; have k1 := (bt.c 1 (by decide)).1; have k2 := (bt.c 2 (by decide)).1; have k3 := (bt.c 3 (by decide)).1; have k4 := (bt.c 4 (by decide)).1; have k5 := (bt.c 5 (by decide)).1; have k6 := (bt.c 6 (by decide)).1; have k7 := (bt.c 7 (by decide)).1; simp only [List.getD_cons_zero, List.getD_cons_succ] at k0 k1 k2 k3 k4 k5 k6 k7; have zt := bt.lt) | (go_at_call 26; refine (in_any _ _ _ _).mono ?_; rintro e u ⟨rfl, hu⟩; rw [hu]; clear hu; (first | rw [h2] | rw [h3] | rw [h4] | rw [h5])))
            go_ret
            exact ⟨by rw [e0.out, h1, h2, h3, h4, h5]; simp, hbv⟩
          | true =>
            replace e0 : Hid (R = (dn || (!su && (wr || (decide (va = 0) && decide (ve = 0)))))) := by show _ = _; rw [e0.out, h1, h2, h3, h4, h5]; simp
            go_upto_region 3 with (first | (go_at_call 58; refine (labelMay_any s q a len cap lb _ hl).mono ?_; rintro e w1 ⟨rfl, hb1⟩; rw [h1]; replace hbv : Below w.heap.size w w1 := hbv.trans (hb1.mono hbv.size); clear k0 k1 k2 k3 k4 k5 k6 k7; replace bt := bt.below hb1 bt.lt; have k0 := (bt.c 0 (by decide)).1; have k1 := (bt.c 1 (by decide)).1; have k2 := (bt.c 2 (by decide)).1; have k3 := (bt.c 3 (by decide)).1; have k4 := (bt.c 4 (by decide)).1; have k5 := (bt.c 5 (by decide)).1; have k6 := (bt.c 6 (by decide)).1; have k7 := (bt.c 7 (by decide)).1; simp only [List.getD_cons_zero, List.getD_cons_succ] at k0 k1 k2 k3 k4 k5 k6 k7; have zt := bt.lt) | (go_at_call 26; refine (in_any _ _ _ _).mono ?_; rintro e u ⟨rfl, hu⟩; rw [hu]; clear hu; (first | rw [h2] | rw [h3] | rw [h4] | rw [h5])))
            cases dn with
            | true =>
              go_wp2
              go_ret
              exact ⟨by rw [e0.out]; rfl, hbv⟩
            | false =>
              cases su with
              | true =>
                go_wp2
                go_ret
                exact ⟨by rw [e0.out]; rfl, hbv⟩
              | false =>
                cases wr with
                | true =>
                  go_wp2
                  go_ret
                  exact ⟨by rw [e0.out]; rfl, hbv⟩
                | false =>
                  by_cases hv : va = 0
                  · subst hv
                    by_cases hw : ve = 0
                    · subst hw
                      go_wp2
                      go_ret
                      exact ⟨by rw [e0.out]; rfl, hbv⟩
                    · go_wp2
                      go_ret
                      exact ⟨by rw [e0.out]; simp [hw], hbv⟩
                  · go_wp2
                    go_ret
                    exact ⟨by rw [e0.out]; simp [hv], hbv⟩
set_option maxHeartbeats 4000000 in
theorem rising_any (s q : Int) (a : Option Addr) (len cap : Nat) (b : Option Addr) (n c : Nat) (xs : List Int) (w : World) (h : IsSites w b n c xs) (hs : 1 ≤ s ∧ s ≤ 4) :
    Calls Try.prog 85 #[.agg #[.int .i64 s, .slice a len cap, .int .i64 q], .slice b n c] w fun e w' => e = .returned (.bool (rise s 0 xs)) ∧ Below w.heap.size w w' := by
  have hmx : n ≤ maxLen := Nat.le_trans h.2.1 h.2.2.1
  unfold maxLen at hmx
  have HL : Hid (xs.length = n) := h.1
  have hw : IntKind.i64.wrap (s - 1) = s - 1 := by apply wrap_in <;> omega
  obtain ⟨W, hW⟩ : ∃ W : World, W = (w.alloc (.cells #[.int .i64 s, .slice a len cap, .int .i64 q] 24)) := ⟨_, rfl⟩
  have hB : Below w.heap.size w W := by rw [hW]; exact (Below.refl _ _).alloc (Nat.le_refl _) _
  have bc : BoxN W w.heap.size 3 [.int .i64 s, .slice a len cap, .int .i64 q] := by rw [hW]; exact boxn_new w #[.int .i64 s, .slice a len cap, .int .i64 q] 24 3 rfl
  obtain ⟨R, eR⟩ : ∃ R, R = rise s 0 xs := ⟨_, rfl⟩
  have HR : Hid (R = rise s 0 (xs.drop 0)) := by rw [eR]; rfl
  rw [← eR]
  clear eR
  go_enter Try.func85, Try.ntmps85
  go_upto_region 1 with (fail)
  rw [← hW]
  clear hW
  go_wp2
  go_loopw [5, 7, 10] (fun s5 _ s10 wr => ∃ (k : Nat) (lo : Int), s10 = .int .i64 (k : Int) ∧ s5 = .int .i64 lo ∧ k ≤ n ∧ 0 ≤ lo ∧ lo ≤ 5 ∧ Hid (R = rise s lo (xs.drop k)) ∧ wr = W) (fun _ _ s10 _ => n - (intOf s10).toNat)
  case atStart => exact ⟨0, 0, rfl, rfl, Nat.zero_le _, by omega, by omega, HR.out, rfl⟩
  case round =>
    obtain ⟨k, lo, rfl, rfl, hk, l0, l5, hR, hwr⟩ := hrel
    subst hwr
    have x0 := (bc.c 0 (by decide)).1
    have zc := bc.lt
    simp only [List.getD_cons_zero] at x0
    by_cases hlt : k < n
    · have hlt' : (k : Int) < (n : Int) := by omega
      have hkl : k < xs.length := by rw [HL.out]; exact hlt
      have HS : Hid (R = (inR (xs.getD k default) lo (s - 1) && rise s (xs.getD k default + 1) (xs.drop (k + 1)))) := by show _ = _; rw [hR.out, rise_at hkl]
      obtain ⟨b', off, rfl, zb, hc⟩ := (h.below hB).2.2.2.2 (by omega)
      have e0 := hc k hlt 0 (by decide)
      obtain ⟨x, ex⟩ : ∃ x, x = xs.getD k default := ⟨_, rfl⟩
      rw [← ex] at e0 HS
      clear ex hc hR
      simp only [inCell, List.getElem?_cons_zero, Nat.add_zero, Nat.mul_one] at e0
      cases h1 : inR x lo (s - 1) with
      | false =>
        go_wp2_with (go_at_call 15; refine (within_any _ _ _ _).mono ?_; rintro e u ⟨rfl, hu⟩; rw [hu, h1]; clear hu)
        go_ret
        exact ⟨by rw [HS.out, h1]; rfl, hB⟩
      | true =>
        have hx := inR_of h1
        have hwx : IntKind.i64.wrap (x + 1) = x + 1 := by apply wrap_in <;> omega
        go_wp2_with (go_at_call 15; refine (within_any _ _ _ _).mono ?_; rintro e u ⟨rfl, hu⟩; rw [hu, h1]; clear hu)
        go_roundw
        case rel => exact ⟨k + 1, x + 1, by go_num, rfl, by omega, by omega, by omega, by show _ = _; rw [HS.out, h1]; rfl, by first | rfl | trivial⟩
        case measure => simp [intOf]; omega
    · obtain rfl : k = n := by omega
      have hT : R = true := by rw [hR.out, List.drop_of_length_le (by rw [HL.out]; exact Nat.le_refl _)]; rfl
      go_wp2
      go_ret
      exact ⟨by rw [hT]; rfl, hB⟩
end Go.Proofs.Ytfhciplckjkflaa.Co
/- Contracts of the document's jobMay and DeskFault. -/
namespace Go.Proofs.Ytfhciplckjkflaa.Co
open Go.ChangeShapes Go.WideShapes Go.ChangeAt Go.RowKit
open Go.Proofs.Ytfhciplckjkflaa.St (IsRow drop_at take_at BoxN boxn_new)
set_option linter.unusedVariables false

theorem in_eq {n lo hi : Int} {b : Bool} (h : inR n lo hi = b) (w : World) : Calls Try.prog 26 #[.int .i64 n, .int .i64 lo, .int .i64 hi] w fun e w' => e = .returned (.bool b) ∧ Below w.heap.size w w' :=
  (in_any n lo hi w).mono fun e w' ⟨h1, h2⟩ => ⟨by rw [h1, h], by rw [h2]; exact Below.refl _ _⟩
def prevA (l : List TkV) : Nat → Int
  | 0 => 0
  | k + 1 => (l.getD k default).ask
def prevS (l : List Int) : Nat → Int
  | 0 => -1
  | k + 1 => l.getD k default
def prevJ (l : List JbV) : Nat → Int
  | 0 => 0
  | k + 1 => (l.getD k default).n
theorem step_task {x lo asks p : Int} {T : Bool} (hp : 0 ≤ p) (ha : asks ≤ 1048576) (hlo : lo = p + 1) : (inR x lo asks && T) = ((T && inR x 1 1048576) && decide (x ≤ asks) && decide (p < x)) := by
  subst hlo
  unfold inR
  rw [Bool.eq_iff_iff]
  simp
  constructor
  · rintro ⟨⟨h1, h2⟩, h3⟩; exact ⟨⟨⟨h3, by omega, by omega⟩, h2⟩, by omega⟩
  · rintro ⟨⟨⟨h3, _, _⟩, h2⟩, h1⟩; exact ⟨⟨by omega, h2⟩, h3⟩
theorem step_in {x lo hi p b : Int} (hp : b ≤ p + 1) (hlo : lo = p + 1) : inR x lo hi = (inR x b hi && decide (p < x)) := by
  subst hlo
  unfold inR
  rw [Bool.eq_iff_iff]
  simp
  omega

set_option maxRecDepth 100000 in
set_option maxHeartbeats 8000000 in
theorem jobMay_any (s q : Int) (a : Option Addr) (len cap : Nat) (nx : Int) (j : JbV) (w : World) (hl : len ≤ 6) (hs : 1 ≤ s ∧ s ≤ 4) (hj : IsJob w j) (hn : inR nx 1 1048577 = true) :
    Calls Try.prog 77 #[.agg #[.int .i64 s, .slice a len cap, .int .i64 q], .int .i64 nx, j.val] w fun e w' => e = .returned (.bool (inR j.n 1 (nx - 1) && jbOK s (len : Int) j)) ∧ Below w.heap.size w w' := by
  have hn2 := inR_of hn
  clear hn
  have HTM : Hid (∀ t w', Calls Try.prog 83 #[.agg #[.int .i64 s, .slice a len cap, .int .i64 q], t.val] w' fun e w'' => e = .returned (.bool (tkOK (len : Int) t && inR t.ask 1 1048576)) ∧ Below w'.heap.size w' w'') := fun t w' => taskMay_any s q a len cap t w' hl
  have HA : Hid (j.asked.length = j.al) := hj.asked.1
  have HL : Hid (j.tasks.length = j.tl) := hj.tasks.1
  have hmx : j.tl ≤ maxLen := Nat.le_trans hj.tasks.2.1 hj.tasks.2.2.1
  have hma : j.al ≤ maxLen := Nat.le_trans hj.asked.2.1 hj.asked.2.2.1
  unfold maxLen at hmx hma
  obtain ⟨T, eT⟩ : ∃ R, R = tksGo (len : Int) j.asks j.state 1 j.tasks := ⟨_, rfl⟩
  obtain ⟨RI, eRI⟩ : ∃ R, R = rise s 0 j.asked := ⟨_, rfl⟩
  obtain ⟨R, eR⟩ : ∃ R, R = (inR j.n 1 (nx - 1) && jbOK s (len : Int) j) := ⟨_, rfl⟩
  have HR : Hid (R = (inR j.n 1 (nx - 1) && inR j.age 0 1048576 && inR j.state 1 3 && decide (j.tl ≤ 10) && inR j.asks 0 1048576 && T && RI && (decide (j.state = 3) == decide (0 < j.al)))) := by
    show _ = _
    rw [eR, eT, eRI, ← HA.out, ← HL.out]
    unfold jbOK tksOK
    rw [Bool.eq_iff_iff]
    simp only [Bool.and_eq_true]
    constructor
    · rintro ⟨x1, ⟨⟨⟨⟨x2, x3⟩, x4⟩, x5⟩, x6⟩, x7, x8⟩
      exact ⟨⟨⟨⟨⟨⟨⟨x1, x2⟩, x3⟩, x7⟩, x4⟩, x8⟩, x5⟩, x6⟩
    · rintro ⟨⟨⟨⟨⟨⟨⟨x1, x2⟩, x3⟩, x7⟩, x4⟩, x8⟩, x5⟩, x6⟩
      exact ⟨x1, ⟨⟨⟨⟨x2, x3⟩, x4⟩, x5⟩, x6⟩, x7, x8⟩
  have HT0 : Hid (T = tksGo (len : Int) j.asks j.state 1 (j.tasks.drop 0)) := eT
  have HRI0 : Hid (RI = rise s 0 (j.asked.drop 0)) := eRI
  rw [← eR]
  clear eR eT eRI
  obtain ⟨jn, st, ta, tl, tc, aa, al, ac, asks, age, tasks, asked⟩ := j
  simp only [JbV.val] at *
  obtain ⟨W, hW⟩ : ∃ W : World, W = (w.alloc (.cells #[.int .i64 s, .slice a len cap, .int .i64 q] 24)).alloc (.cells #[.int .i64 jn, .int .i64 st, .slice ta tl tc, .slice aa al ac, .int .i64 asks, .int .i64 age] 47) := ⟨_, rfl⟩
  have hB : Below w.heap.size w W := by rw [hW]; exact ((Below.refl _ _).alloc (Nat.le_refl _) _).alloc (by simp) _
  have b2 : BoxN W (w.heap.size + 1) 6 [.int .i64 jn, .int .i64 st, .slice ta tl tc, .slice aa al ac, .int .i64 asks, .int .i64 age] := by rw [hW]; simpa using boxn_new (w.alloc (.cells #[.int .i64 s, .slice a len cap, .int .i64 q] 24)) #[.int .i64 jn, .int .i64 st, .slice ta tl tc, .slice aa al ac, .int .i64 asks, .int .i64 age] 47 6 rfl
  have b1 : BoxN W w.heap.size 3 [.int .i64 s, .slice a len cap, .int .i64 q] := by rw [hW]; exact (boxn_new w #[.int .i64 s, .slice a len cap, .int .i64 q] 24 3 rfl).below (B := (w.alloc (.cells #[.int .i64 s, .slice a len cap, .int .i64 q] 24)).heap.size) ((Below.refl _ _).alloc (Nat.le_refl _) _) (by simp)
  have c0 := (b1.c 0 (by decide)).1
  have c1 := (b1.c 1 (by decide)).1
  have c2 := (b1.c 2 (by decide)).1
  have k0 := (b2.c 0 (by decide)).1
  have k1 := (b2.c 1 (by decide)).1
  have k2 := (b2.c 2 (by decide)).1
  have k3 := (b2.c 3 (by decide)).1
  have k4 := (b2.c 4 (by decide)).1
  have k5 := (b2.c 5 (by decide)).1
  simp only [List.getD_cons_zero, List.getD_cons_succ] at c0 c1 c2 k0 k1 k2 k3 k4 k5
  have z1 := b1.lt
  have z2 := b2.lt
  have hsi := hj.asked.below hB
  have hti := hj.tasks.below hB
  simp only [] at hsi hti
  have hw0 : IntKind.i64.wrap (nx - 1) = nx - 1 := by apply wrap_in <;> omega
  have hws : IntKind.i64.wrap (s - 1) = s - 1 := by apply wrap_in <;> omega
  go_enter Try.func77, Try.ntmps77
  go_upto_region 1 with (fail)
  rw [← hW]
  clear hW
  cases h1 : inR jn 1 (nx - 1) with
  | false =>
    have hF : Hid (R = false) := by show _ = _; rw [HR.out, h1]; simp
    clear HR
    go_wp2_with (go_at_call 26; refine (in_any _ _ _ _).mono ?_; rintro e u ⟨rfl, hu⟩; rw [hu]; clear hu; (first | rw [h1] | rw [h2] | rw [h3] | rw [h4]))
    go_ret
    exact ⟨by rw [hF.out]; rfl, hB⟩
  | true =>
    cases h2 : inR age 0 1048576 with
    | false =>
      have hF : Hid (R = false) := by show _ = _; rw [HR.out, h1, h2]; simp
      clear HR
      go_wp2_with (go_at_call 26; refine (in_any _ _ _ _).mono ?_; rintro e u ⟨rfl, hu⟩; rw [hu]; clear hu; (first | rw [h1] | rw [h2] | rw [h3] | rw [h4]))
      go_ret
      exact ⟨by rw [hF.out]; rfl, hB⟩
    | true =>
      cases h3 : inR st 1 3 with
      | false =>
        have hF : Hid (R = false) := by show _ = _; rw [HR.out, h1, h2, h3]; simp
        clear HR
        go_wp2_with (go_at_call 26; refine (in_any _ _ _ _).mono ?_; rintro e u ⟨rfl, hu⟩; rw [hu]; clear hu; (first | rw [h1] | rw [h2] | rw [h3] | rw [h4]))
        go_ret
        exact ⟨by rw [hF.out]; rfl, hB⟩
      | true =>
        by_cases h10 : tl ≤ 10
        case neg =>
          have h10' : (10 : Int) < (tl : Int) := by omega
          have hF : Hid (R = false) := by show _ = _; rw [HR.out, decide_eq_false h10]; simp
          clear HR
          go_wp2_with (go_at_call 26; refine (in_any _ _ _ _).mono ?_; rintro e u ⟨rfl, hu⟩; rw [hu]; clear hu; (first | rw [h1] | rw [h2] | rw [h3] | rw [h4]))
          go_ret
          exact ⟨by rw [hF.out]; rfl, hB⟩
        case pos =>
          cases h4 : inR asks 0 1048576 with
          | false =>
            have hF : Hid (R = false) := by show _ = _; rw [HR.out, h1, h2, h3, h4]; simp
            clear HR
            go_wp2_with (go_at_call 26; refine (in_any _ _ _ _).mono ?_; rintro e u ⟨rfl, hu⟩; rw [hu]; clear hu; (first | rw [h1] | rw [h2] | rw [h3] | rw [h4]))
            go_ret
            exact ⟨by rw [hF.out]; rfl, hB⟩
          | true =>
            have h10' : ¬ (10 : Int) < (tl : Int) := by omega
            have hak2 := inR_of h4
            replace HR : Hid (R = (T && RI && (decide (st = 3) == decide (0 < al)))) := by show _ = _; rw [HR.out, h1, h2, h3, h4, decide_eq_true h10]; simp
            go_upto_region 4 with (go_at_call 26; refine (in_any _ _ _ _).mono ?_; rintro e u ⟨rfl, hu⟩; rw [hu]; clear hu; (first | rw [h1] | rw [h2] | rw [h3] | rw [h4]))
            go_wp2
            clear c0 c1 c2 k0 k1 k2 k3 k4 k5 z1 z2 h1 h2 h3 h4
            go_loopw [7] (fun s7 wr => ∃ (k : Nat), s7 = .int .i64 (k : Int) ∧ k ≤ tl ∧ Hid (T = tksGo (len : Int) asks st (prevA tasks k + 1) (tasks.drop k)) ∧ 0 ≤ prevA tasks k ∧ Below W.heap.size W wr) (fun s7 _ => tl - (intOf s7).toNat)
            case atStart => exact ⟨0, rfl, Nat.zero_le _, HT0.out, Int.le_refl _, Below.refl _ _⟩
            case round =>
              obtain ⟨k, rfl, hk, hT, hp0, hb⟩ := hrel
              replace b1 := b1.below hb b1.lt
              replace b2 := b2.below hb b2.lt
              have c0 := (b1.c 0 (by decide)).1
              have c1 := (b1.c 1 (by decide)).1
              have c2 := (b1.c 2 (by decide)).1
              have k0 := (b2.c 0 (by decide)).1
              have k1 := (b2.c 1 (by decide)).1
              have k2 := (b2.c 2 (by decide)).1
              have k3 := (b2.c 3 (by decide)).1
              have k4 := (b2.c 4 (by decide)).1
              have k5 := (b2.c 5 (by decide)).1
              simp only [List.getD_cons_zero, List.getD_cons_succ] at c0 c1 c2 k0 k1 k2 k3 k4 k5
              have z1 := b1.lt
              have z2 := b2.lt
              by_cases hlt : k < tl
              · have hlt' : (k : Int) < (tl : Int) := by omega
                have hkl : k < tasks.length := by rw [HL.out]; exact hlt
                have HPN : Hid (prevA tasks (k + 1) = (tasks.getD k default).ask) := rfl
                have HS : Hid (T = ((((tkOK (len : Int) (tasks.getD k default) && inR (tasks.getD k default).ask 1 1048576) && decide ((tasks.getD k default).ask ≤ asks) && decide (prevA tasks k < (tasks.getD k default).ask))) && ((tasks.getD k default).done || (decide (k + 1 = tl) && decide (st = 1))) && tksGo (len : Int) asks st ((tasks.getD k default).ask + 1) (tasks.drop (k + 1)))) := by show _ = _; rw [hT.out, tksGo_at hkl, HL.out, step_task hp0 hak2.2 rfl]
                obtain ⟨b, off, rfl, zb, hc⟩ := (hti.below hb).2.2.2.2 (by omega)
                have hcells := hc k hlt
                have hpc : ∀ i, i + 1 = k → wr.cell? ⟨b, off + i * 8 + 5, none⟩ = some (.int .i64 (tasks.getD i default).ask) := fun i hi => hc i (by omega) 5 (by decide)
                have hTm := HTM.out (tasks.getD k default)
                obtain ⟨x, ex⟩ : ∃ x, x = tasks.getD k default := ⟨_, rfl⟩
                rw [← ex] at hcells HS hTm HPN
                clear ex hc hT
                obtain ⟨TM, eTM⟩ : ∃ O, O = (tkOK (len : Int) x && inR x.ask 1 1048576) := ⟨_, rfl⟩
                rw [← eTM] at HS hTm
                have hTM1 : TM = true → 1 ≤ x.ask := fun e => by
                  rw [e] at eTM
                  have := eTM.symm
                  simp only [Bool.and_eq_true] at this
                  exact (inR_of this.2).1
                clear eTM
                obtain ⟨t0, t1, t2, t3, t4, t5, t6, t7⟩ := x
                have e0 := hcells 0 (by decide)
                have e1 := hcells 1 (by decide)
                have e2 := hcells 2 (by decide)
                have e3 := hcells 3 (by decide)
                have e4 := hcells 4 (by decide)
                have e5 := hcells 5 (by decide)
                have e6 := hcells 6 (by decide)
                have e7 := hcells 7 (by decide)
                simp only [TkV.cells, List.getElem?_cons_zero, List.getElem?_cons_succ, Nat.add_zero] at e0 e1 e2 e3 e4 e5 e6 e7
                simp only [TkV.val] at hTm HS HPN hTM1
                clear hcells
                go_upto_region 6 with (fail)
                cases TM with
                | false =>
                  clear hTM1
                  have y0 := fun d os => cell_regrown c0 d os
                  have y1 := fun d os => cell_regrown c1 d os
                  have y2 := fun d os => cell_regrown c2 d os
                  have y3 := fun d os => cell_regrown k2 d os
                  have y4 := fun d os => cell_regrown k4 d os
                  have y5 := fun d os => cell_regrown e0 d os
                  have y6 := fun d os => cell_regrown e1 d os
                  have y7 := fun d os => cell_regrown e2 d os
                  have y8 := fun d os => cell_regrown e3 d os
                  have y9 := fun d os => cell_regrown e4 d os
                  have y10 := fun d os => cell_regrown e5 d os
                  have y11 := fun d os => cell_regrown e6 d os
                  have y12 := fun d os => cell_regrown e7 d os
                  refine wp_region_quiet_below (by kernel_rfl) (by kernel_rfl) ?_
                  repeat (go_big_quiet_step ((exact Calls.regrown_of (hTm _))))
                  refine wpQuiet_nil ?_
                  intro _ hw'
                  obtain ⟨⟨dq, osq⟩, hw''⟩ := hw'
                  subst hw''
                  have bR := below_regrown wr dq osq
                  obtain ⟨V, eV⟩ : ∃ V, V = Go.Sort.grow (Go.redrawn wr dq) osq := ⟨_, rfl⟩
                  rw [← eV] at bR ⊢
                  clear eV y0 y1 y2 y3 y4 y5 y6 y7 y8 y9 y10 y11 y12
                  have hbV : Below W.heap.size W V := hb.trans (bR.mono hb.size)
                  have hF : Hid (R = false) := by show _ = _; rw [HR.out, HS.out, Bool.false_and]; simp
                  clear HR HS
                  go_wp2
                  go_ret
                  exact ⟨by rw [hF.out]; rfl, hB.trans (hbV.mono hB.size)⟩
                | true =>
                  have h15 := hTM1 rfl
                  clear hTM1
                  by_cases hga : t5 ≤ asks
                  · have hga' : ¬ asks < t5 := by omega
                    cases k with
                    | zero =>
                      have hpv : decide (prevA tasks 0 < t5) = true := decide_eq_true (by show (0 : Int) < t5; omega)
                      rw [hpv, decide_eq_true hga] at HS
                      clear hpv hpc
                      simp only [Nat.zero_mul, Nat.add_zero] at e0 e1 e2 e3 e4 e5 e6 e7
                      have y0 := fun d os => cell_regrown c0 d os
                      have y1 := fun d os => cell_regrown c1 d os
                      have y2 := fun d os => cell_regrown c2 d os
                      have y3 := fun d os => cell_regrown k2 d os
                      have y4 := fun d os => cell_regrown k4 d os
                      have y5 := fun d os => cell_regrown e0 d os
                      have y6 := fun d os => cell_regrown e1 d os
                      have y7 := fun d os => cell_regrown e2 d os
                      have y8 := fun d os => cell_regrown e3 d os
                      have y9 := fun d os => cell_regrown e4 d os
                      have y10 := fun d os => cell_regrown e5 d os
                      have y11 := fun d os => cell_regrown e6 d os
                      have y12 := fun d os => cell_regrown e7 d os
                      refine wp_region_quiet_below (by kernel_rfl) (by kernel_rfl) ?_
                      repeat (go_big_quiet_step ((exact Calls.regrown_of (hTm _))))
                      refine wpQuiet_nil ?_
                      intro _ hw'
                      obtain ⟨⟨dq, osq⟩, hw''⟩ := hw'
                      subst hw''
                      have bR := below_regrown wr dq osq
                      obtain ⟨V, eV⟩ : ∃ V, V = Go.Sort.grow (Go.redrawn wr dq) osq := ⟨_, rfl⟩
                      rw [← eV] at bR ⊢
                      clear eV y0 y1 y2 y3 y4 y5 y6 y7 y8 y9 y10 y11 y12
                      have hbV : Below W.heap.size W V := hb.trans (bR.mono hb.size)
                      have hrel2 : Hid (T = ((t6 || (decide (0 + 1 = tl) && decide (st = 1))) && tksGo (len : Int) asks st (t5 + 1) (tasks.drop (0 + 1)))) := by show _ = _; rw [HS.out, Bool.true_and]; simp
                      clear HS
                      have hwl : IntKind.i64.wrap ((tl : Int) - 1) = (tl : Int) - 1 := by apply wrap_in <;> omega
                      clear c0 c1 c2 k0 k1 k2 k3 k4 k5 z1 z2
                      replace b1 := b1.below bR b1.lt
                      replace b2 := b2.below bR b2.lt
                      have c0 := (b1.c 0 (by decide)).1
                      have c1 := (b1.c 1 (by decide)).1
                      have c2 := (b1.c 2 (by decide)).1
                      have k0 := (b2.c 0 (by decide)).1
                      have k1 := (b2.c 1 (by decide)).1
                      have k2 := (b2.c 2 (by decide)).1
                      have k3 := (b2.c 3 (by decide)).1
                      have k4 := (b2.c 4 (by decide)).1
                      have k5 := (b2.c 5 (by decide)).1
                      simp only [List.getD_cons_zero, List.getD_cons_succ] at c0 c1 c2 k0 k1 k2 k3 k4 k5
                      have z1 := b1.lt
                      have z2 := b2.lt
                      have e6' := (bR.cell (p := ⟨b, off + 6, none⟩) zb).trans e6
                      have zbV : b < V.heap.size := Nat.lt_of_lt_of_le zb bR.size
                      cases t6 with
                      | true =>
                        go_wp2
                        go_roundw
                        case rel => exact ⟨0 + 1, by go_num, by omega, by show _ = _; rw [hrel2.out]; show _ = tksGo _ _ _ (_ + 1) _; rw [HPN.out]; rfl, by rw [HPN.out]; omega, hbV⟩
                        case measure => simp [intOf]; omega
                      | false =>
                        by_cases hlast : 0 + 1 = tl
                        · have hl1 : ¬ (0 : Int) < (tl : Int) - 1 := by omega
                          by_cases hst : st = 1
                          · have hst' := hst.symm
                            clear hst
                            subst hst'
                            have HLAST : Hid (T = tksGo (len : Int) asks 1 (prevA tasks (0 + 1) + 1) (tasks.drop (0 + 1))) := by show _ = _; rw [hrel2.out, HPN.out, decide_eq_true hlast]; simp
                            clear hlast
                            go_wp2
                            go_roundw
                            case rel => exact ⟨0 + 1, by go_num, by omega, HLAST.out, by rw [HPN.out]; omega, hbV⟩
                            case measure => simp [intOf]; omega
                          · have hF : Hid (R = false) := by show _ = _; rw [HR.out, hrel2.out]; simp [hst]
                            have hst2 : (st != 1) = true := by simp [hst]
                            have hst3 : (st == 1) = false := by simp [hst]
                            clear HR
                            go_wp2
                            go_ret
                            exact ⟨by rw [hF.out]; rfl, hB.trans (hbV.mono hB.size)⟩
                        · have hl1 : (0 : Int) < (tl : Int) - 1 := by omega
                          have hF : Hid (R = false) := by show _ = _; rw [HR.out, hrel2.out]; simp [hlast]
                          clear HR
                          go_wp2
                          go_ret
                          exact ⟨by rw [hF.out]; rfl, hB.trans (hbV.mono hB.size)⟩
                    | succ i =>
                      have hp := hpc i rfl
                      obtain ⟨pv, epv⟩ : ∃ pv, pv = (tasks.getD i default).ask := ⟨_, rfl⟩
                      have hpA : prevA tasks (i + 1) = pv := by rw [epv]; rfl
                      rw [hpA] at HS hp0
                      rw [← epv] at hp
                      clear epv hpA hpc
                      have hj0 : decide ((0 : Int) < (i : Int) + 1) = true := by simp
                      have hj1 : (0 : Int) < (i : Int) + 1 := by omega
                      have hjm : ((i + 1 : Nat) : Int) - 1 = (i : Int) := by omega
                      have hjl : (i : Int) < (tl : Int) := by omega
                      by_cases hle : t5 ≤ pv
                      · have hd : decide (pv < t5) = false := by simp; omega
                        have hd' : decide (t5 ≤ pv) = true := by simp [hle]
                        rw [hd] at HS
                        have y0 := fun d os => cell_regrown c0 d os
                        have y1 := fun d os => cell_regrown c1 d os
                        have y2 := fun d os => cell_regrown c2 d os
                        have y3 := fun d os => cell_regrown k2 d os
                        have y4 := fun d os => cell_regrown k4 d os
                        have y5 := fun d os => cell_regrown e0 d os
                        have y6 := fun d os => cell_regrown e1 d os
                        have y7 := fun d os => cell_regrown e2 d os
                        have y8 := fun d os => cell_regrown e3 d os
                        have y9 := fun d os => cell_regrown e4 d os
                        have y10 := fun d os => cell_regrown e5 d os
                        have y11 := fun d os => cell_regrown e6 d os
                        have y12 := fun d os => cell_regrown e7 d os
                        have y13 := fun d os => cell_regrown hp d os
                        refine wp_region_quiet_below (by kernel_rfl) (by kernel_rfl) ?_
                        repeat (go_big_quiet_step ((exact Calls.regrown_of (hTm _))))
                        refine wpQuiet_nil ?_
                        intro _ hw'
                        obtain ⟨⟨dq, osq⟩, hw''⟩ := hw'
                        subst hw''
                        have bR := below_regrown wr dq osq
                        obtain ⟨V, eV⟩ : ∃ V, V = Go.Sort.grow (Go.redrawn wr dq) osq := ⟨_, rfl⟩
                        rw [← eV] at bR ⊢
                        clear eV y0 y1 y2 y3 y4 y5 y6 y7 y8 y9 y10 y11 y12 y13
                        have hbV : Below W.heap.size W V := hb.trans (bR.mono hb.size)
                        have hF : Hid (R = false) := by show _ = _; rw [HR.out, HS.out, Bool.and_false, Bool.false_and]; simp
                        clear HR HS
                        go_wp2
                        go_ret
                        exact ⟨by rw [hF.out]; rfl, hB.trans (hbV.mono hB.size)⟩
                      · have hd : decide (pv < t5) = true := by simp; omega
                        have hd' : decide (t5 ≤ pv) = false := by simp [hle]
                        rw [hd, decide_eq_true hga] at HS
                        clear hd
                        have y0 := fun d os => cell_regrown c0 d os
                        have y1 := fun d os => cell_regrown c1 d os
                        have y2 := fun d os => cell_regrown c2 d os
                        have y3 := fun d os => cell_regrown k2 d os
                        have y4 := fun d os => cell_regrown k4 d os
                        have y5 := fun d os => cell_regrown e0 d os
                        have y6 := fun d os => cell_regrown e1 d os
                        have y7 := fun d os => cell_regrown e2 d os
                        have y8 := fun d os => cell_regrown e3 d os
                        have y9 := fun d os => cell_regrown e4 d os
                        have y10 := fun d os => cell_regrown e5 d os
                        have y11 := fun d os => cell_regrown e6 d os
                        have y12 := fun d os => cell_regrown e7 d os
                        have y13 := fun d os => cell_regrown hp d os
                        refine wp_region_quiet_below (by kernel_rfl) (by kernel_rfl) ?_
                        repeat (go_big_quiet_step ((exact Calls.regrown_of (hTm _))))
                        refine wpQuiet_nil ?_
                        intro _ hw'
                        obtain ⟨⟨dq, osq⟩, hw''⟩ := hw'
                        subst hw''
                        have bR := below_regrown wr dq osq
                        obtain ⟨V, eV⟩ : ∃ V, V = Go.Sort.grow (Go.redrawn wr dq) osq := ⟨_, rfl⟩
                        rw [← eV] at bR ⊢
                        clear eV y0 y1 y2 y3 y4 y5 y6 y7 y8 y9 y10 y11 y12 y13
                        have hbV : Below W.heap.size W V := hb.trans (bR.mono hb.size)
                        have hrel2 : Hid (T = ((t6 || (decide (i + 1 + 1 = tl) && decide (st = 1))) && tksGo (len : Int) asks st (t5 + 1) (tasks.drop (i + 1 + 1)))) := by show _ = _; rw [HS.out, Bool.true_and]; simp
                        clear HS
                        have hwl : IntKind.i64.wrap ((tl : Int) - 1) = (tl : Int) - 1 := by apply wrap_in <;> omega
                        clear c0 c1 c2 k0 k1 k2 k3 k4 k5 z1 z2
                        replace b1 := b1.below bR b1.lt
                        replace b2 := b2.below bR b2.lt
                        have c0 := (b1.c 0 (by decide)).1
                        have c1 := (b1.c 1 (by decide)).1
                        have c2 := (b1.c 2 (by decide)).1
                        have k0 := (b2.c 0 (by decide)).1
                        have k1 := (b2.c 1 (by decide)).1
                        have k2 := (b2.c 2 (by decide)).1
                        have k3 := (b2.c 3 (by decide)).1
                        have k4 := (b2.c 4 (by decide)).1
                        have k5 := (b2.c 5 (by decide)).1
                        simp only [List.getD_cons_zero, List.getD_cons_succ] at c0 c1 c2 k0 k1 k2 k3 k4 k5
                        have z1 := b1.lt
                        have z2 := b2.lt
                        have e6' := (bR.cell (p := ⟨b, off + (i + 1) * 8 + 6, none⟩) zb).trans e6
                        have zbV : b < V.heap.size := Nat.lt_of_lt_of_le zb bR.size
                        cases t6 with
                        | true =>
                          go_wp2
                          go_roundw
                          case rel => exact ⟨i + 1 + 1, by go_num, by omega, by show _ = _; rw [hrel2.out]; show _ = tksGo _ _ _ (_ + 1) _; rw [HPN.out]; rfl, by rw [HPN.out]; omega, hbV⟩
                          case measure => simp [intOf]; omega
                        | false =>
                          by_cases hlast : i + 1 + 1 = tl
                          · have hl1 : ¬ ((i + 1 : Nat) : Int) < (tl : Int) - 1 := by omega
                            by_cases hst : st = 1
                            · have hst' := hst.symm
                              clear hst
                              subst hst'
                              have HLAST : Hid (T = tksGo (len : Int) asks 1 (prevA tasks (i + 1 + 1) + 1) (tasks.drop (i + 1 + 1))) := by show _ = _; rw [hrel2.out, HPN.out, decide_eq_true hlast]; simp
                              clear hlast
                              go_wp2
                              go_roundw
                              case rel => exact ⟨i + 1 + 1, by go_num, by omega, HLAST.out, by rw [HPN.out]; omega, hbV⟩
                              case measure => simp [intOf]; omega
                            · have hF : Hid (R = false) := by show _ = _; rw [HR.out, hrel2.out]; simp [hst]
                              have hst2 : (st != 1) = true := by simp [hst]
                              have hst3 : (st == 1) = false := by simp [hst]
                              clear HR
                              go_wp2
                              go_ret
                              exact ⟨by rw [hF.out]; rfl, hB.trans (hbV.mono hB.size)⟩
                          · have hl1 : ((i + 1 : Nat) : Int) < (tl : Int) - 1 := by omega
                            have hF : Hid (R = false) := by show _ = _; rw [HR.out, hrel2.out]; simp [hlast]
                            clear HR
                            go_wp2
                            go_ret
                            exact ⟨by rw [hF.out]; rfl, hB.trans (hbV.mono hB.size)⟩
                  · have hga' : asks < t5 := by omega
                    rw [decide_eq_false hga] at HS
                    clear hpc
                    have y0 := fun d os => cell_regrown c0 d os
                    have y1 := fun d os => cell_regrown c1 d os
                    have y2 := fun d os => cell_regrown c2 d os
                    have y3 := fun d os => cell_regrown k2 d os
                    have y4 := fun d os => cell_regrown k4 d os
                    have y5 := fun d os => cell_regrown e0 d os
                    have y6 := fun d os => cell_regrown e1 d os
                    have y7 := fun d os => cell_regrown e2 d os
                    have y8 := fun d os => cell_regrown e3 d os
                    have y9 := fun d os => cell_regrown e4 d os
                    have y10 := fun d os => cell_regrown e5 d os
                    have y11 := fun d os => cell_regrown e6 d os
                    have y12 := fun d os => cell_regrown e7 d os
                    refine wp_region_quiet_below (by kernel_rfl) (by kernel_rfl) ?_
                    repeat (go_big_quiet_step ((exact Calls.regrown_of (hTm _))))
                    refine wpQuiet_nil ?_
                    intro _ hw'
                    obtain ⟨⟨dq, osq⟩, hw''⟩ := hw'
                    subst hw''
                    have bR := below_regrown wr dq osq
                    obtain ⟨V, eV⟩ : ∃ V, V = Go.Sort.grow (Go.redrawn wr dq) osq := ⟨_, rfl⟩
                    rw [← eV] at bR ⊢
                    clear eV y0 y1 y2 y3 y4 y5 y6 y7 y8 y9 y10 y11 y12
                    have hbV : Below W.heap.size W V := hb.trans (bR.mono hb.size)
                    have hF : Hid (R = false) := by show _ = _; rw [HR.out, HS.out, Bool.and_false, Bool.false_and]; simp
                    clear HR HS
                    go_wp2
                    go_ret
                    exact ⟨by rw [hF.out]; rfl, hB.trans (hbV.mono hB.size)⟩
              · obtain rfl : k = tl := by omega
                have hTT : T = true := by rw [hT.out, List.drop_of_length_le (by rw [HL.out]; exact Nat.le_refl _)]; rfl
                subst hTT
                replace HR : Hid (R = (RI && (decide (st = 3) == decide (0 < al)))) := by show _ = _; rw [HR.out]; simp
                have hbo := hb
                have b1o := b1
                have b2o := b2
                go_wp2
                clear c0 c1 c2 k0 k1 k2 k3 k4 k5 z1 z2 hb hT hp0 hlt b1 b2 HT0
                rename World => wo
                go_loopw [8] (fun s8 wr => ∃ (k : Nat), s8 = .int .i64 (k : Int) ∧ k ≤ al ∧ Hid (RI = rise s (prevS asked k + 1) (asked.drop k)) ∧ -1 ≤ prevS asked k ∧ Below wo.heap.size wo wr) (fun s8 _ => al - (intOf s8).toNat)
                case atStart => exact ⟨0, rfl, Nat.zero_le _, HRI0.out, Int.le_refl _, Below.refl _ _⟩
                case round =>
                  obtain ⟨k, rfl, hk, hT, hp0, hb2⟩ := hrel
                  have b1 := b1o.below hb2 b1o.lt
                  have b2 := b2o.below hb2 b2o.lt
                  have hb := hbo.trans (hb2.mono hbo.size)
                  have c0 := (b1.c 0 (by decide)).1
                  have c1 := (b1.c 1 (by decide)).1
                  have c2 := (b1.c 2 (by decide)).1
                  have k0 := (b2.c 0 (by decide)).1
                  have k1 := (b2.c 1 (by decide)).1
                  have k2 := (b2.c 2 (by decide)).1
                  have k3 := (b2.c 3 (by decide)).1
                  have k4 := (b2.c 4 (by decide)).1
                  have k5 := (b2.c 5 (by decide)).1
                  simp only [List.getD_cons_zero, List.getD_cons_succ] at c0 c1 c2 k0 k1 k2 k3 k4 k5
                  have z1 := b1.lt
                  have z2 := b2.lt
                  by_cases hlt : k < al
                  · have hlt' : (k : Int) < (al : Int) := by omega
                    have hkl : k < asked.length := by rw [HA.out]; exact hlt
                    have HPN : Hid (prevS asked (k + 1) = asked.getD k default) := rfl
                    have HS : Hid (RI = (inR (asked.getD k default) 0 (s - 1) && decide (prevS asked k < asked.getD k default) && rise s (asked.getD k default + 1) (asked.drop (k + 1)))) := by show _ = _; rw [hT.out, rise_at hkl, step_in (b := 0) (by omega) rfl]
                    obtain ⟨b, off, rfl, zb, hc⟩ := (hsi.below hb).2.2.2.2 (by omega)
                    have e0 := hc k hlt 0 (by decide)
                    have hpc : ∀ i, i + 1 = k → wr.cell? ⟨b, off + i, none⟩ = some (.int .i64 (asked.getD i default)) := fun i hi => by
                      have := hc i (by omega) 0 (by decide)
                      simpa only [inCell, List.getElem?_cons_zero, Nat.add_zero, Nat.mul_one] using this
                    obtain ⟨x, ex⟩ : ∃ x, x = asked.getD k default := ⟨_, rfl⟩
                    rw [← ex] at e0 HS HPN
                    clear ex hc hT
                    simp only [inCell, List.getElem?_cons_zero, Nat.add_zero, Nat.mul_one] at e0
                    go_upto_region 13 with (fail)
                    cases h1 : inR x 0 (s - 1) with
                    | false =>
                      rw [h1] at HS
                      have y0 := fun d os => cell_regrown c0 d os
                      have y1 := fun d os => cell_regrown k3 d os
                      have y2 := fun d os => cell_regrown e0 d os
                      refine wp_region_quiet_below (by kernel_rfl) (by kernel_rfl) ?_
                      repeat (go_big_quiet_step ((exact Calls.regrown_of (in_eq (by assumption) _))))
                      refine wpQuiet_nil ?_
                      intro _ hw'
                      obtain ⟨⟨dq, osq⟩, hw''⟩ := hw'
                      subst hw''
                      have bR := below_regrown wr dq osq
                      obtain ⟨V, eV⟩ : ∃ V, V = Go.Sort.grow (Go.redrawn wr dq) osq := ⟨_, rfl⟩
                      rw [← eV] at bR ⊢
                      clear eV y0 y1 y2
                      have hbV : Below W.heap.size W V := hb.trans (bR.mono hb.size)
                      have hF : Hid (R = false) := by show _ = _; rw [HR.out, HS.out, Bool.false_and]; simp
                      clear HR HS
                      go_wp2
                      go_ret
                      exact ⟨by rw [hF.out]; rfl, hB.trans (hbV.mono hB.size)⟩
                    | true =>
                      have hx := inR_of h1
                      rw [h1] at HS
                      cases k with
                      | zero =>
                        have hpv : decide (prevS asked 0 < x) = true := decide_eq_true (by show (-1 : Int) < x; omega)
                        rw [hpv] at HS
                        clear hpv hpc
                        simp only [Nat.add_zero] at e0
                        have hrel2 : Hid (RI = rise s (prevS asked (0 + 1) + 1) (asked.drop (0 + 1))) := by show _ = _; rw [HS.out, HPN.out]; simp
                        have y0 := fun d os => cell_regrown c0 d os
                        have y1 := fun d os => cell_regrown k3 d os
                        have y2 := fun d os => cell_regrown e0 d os
                        refine wp_region_quiet_below (by kernel_rfl) (by kernel_rfl) ?_
                        repeat (go_big_quiet_step ((exact Calls.regrown_of (in_eq (by assumption) _))))
                        refine wpQuiet_nil ?_
                        intro _ hw'
                        obtain ⟨⟨dq, osq⟩, hw''⟩ := hw'
                        subst hw''
                        have bR := below_regrown wr dq osq
                        obtain ⟨V, eV⟩ : ∃ V, V = Go.Sort.grow (Go.redrawn wr dq) osq := ⟨_, rfl⟩
                        rw [← eV] at bR ⊢
                        clear eV y0 y1 y2
                        have hbV : Below W.heap.size W V := hb.trans (bR.mono hb.size)
                        go_wp2
                        go_roundw
                        case rel => exact ⟨0 + 1, by go_num, by omega, hrel2.out, by rw [HPN.out]; omega, hb2.trans (bR.mono hb2.size)⟩
                        case measure => simp [intOf]; omega
                      | succ i =>
                        have hp := hpc i rfl
                        obtain ⟨pv, epv⟩ : ∃ pv, pv = asked.getD i default := ⟨_, rfl⟩
                        have hpA : prevS asked (i + 1) = pv := by rw [epv]; rfl
                        rw [hpA] at HS hp0
                        rw [← epv] at hp
                        clear epv hpA hpc
                        have hj0 : decide ((0 : Int) < (i : Int) + 1) = true := by simp
                        have hj1 : (0 : Int) < (i : Int) + 1 := by omega
                        have hjm : ((i + 1 : Nat) : Int) - 1 = (i : Int) := by omega
                        have hjl : (i : Int) < (al : Int) := by omega
                        by_cases hle : x ≤ pv
                        · have hd : decide (pv < x) = false := by simp; omega
                          have hd' : decide (x ≤ pv) = true := by simp [hle]
                          rw [hd] at HS
                          have y0 := fun d os => cell_regrown c0 d os
                          have y1 := fun d os => cell_regrown k3 d os
                          have y2 := fun d os => cell_regrown e0 d os
                          have y3 := fun d os => cell_regrown hp d os
                          refine wp_region_quiet_below (by kernel_rfl) (by kernel_rfl) ?_
                          repeat (go_big_quiet_step ((exact Calls.regrown_of (in_eq (by assumption) _))))
                          refine wpQuiet_nil ?_
                          intro _ hw'
                          obtain ⟨⟨dq, osq⟩, hw''⟩ := hw'
                          subst hw''
                          have bR := below_regrown wr dq osq
                          obtain ⟨V, eV⟩ : ∃ V, V = Go.Sort.grow (Go.redrawn wr dq) osq := ⟨_, rfl⟩
                          rw [← eV] at bR ⊢
                          clear eV y0 y1 y2 y3
                          have hbV : Below W.heap.size W V := hb.trans (bR.mono hb.size)
                          have hF : Hid (R = false) := by show _ = _; rw [HR.out, HS.out, Bool.and_false, Bool.false_and]; simp
                          clear HR HS
                          go_wp2
                          go_ret
                          exact ⟨by rw [hF.out]; rfl, hB.trans (hbV.mono hB.size)⟩
                        · have hd : decide (pv < x) = true := by simp; omega
                          have hd' : decide (x ≤ pv) = false := by simp [hle]
                          rw [hd] at HS
                          clear hd
                          have hrel2 : Hid (RI = rise s (prevS asked (i + 1 + 1) + 1) (asked.drop (i + 1 + 1))) := by show _ = _; rw [HS.out, HPN.out]; simp
                          have y0 := fun d os => cell_regrown c0 d os
                          have y1 := fun d os => cell_regrown k3 d os
                          have y2 := fun d os => cell_regrown e0 d os
                          have y3 := fun d os => cell_regrown hp d os
                          refine wp_region_quiet_below (by kernel_rfl) (by kernel_rfl) ?_
                          repeat (go_big_quiet_step ((exact Calls.regrown_of (in_eq (by assumption) _))))
                          refine wpQuiet_nil ?_
                          intro _ hw'
                          obtain ⟨⟨dq, osq⟩, hw''⟩ := hw'
                          subst hw''
                          have bR := below_regrown wr dq osq
                          obtain ⟨V, eV⟩ : ∃ V, V = Go.Sort.grow (Go.redrawn wr dq) osq := ⟨_, rfl⟩
                          rw [← eV] at bR ⊢
                          clear eV y0 y1 y2 y3
                          have hbV : Below W.heap.size W V := hb.trans (bR.mono hb.size)
                          go_wp2
                          go_roundw
                          case rel => exact ⟨i + 1 + 1, by go_num, by omega, hrel2.out, by rw [HPN.out]; omega, hb2.trans (bR.mono hb2.size)⟩
                          case measure => simp [intOf]; omega
                  · obtain rfl : k = al := by omega
                    have hTT : RI = true := by rw [hT.out, List.drop_of_length_le (by rw [HA.out]; exact Nat.le_refl _)]; rfl
                    subst hTT
                    have HR3 : Hid (R = (decide (st = 3) == decide (0 < k))) := by show _ = _; rw [HR.out]; simp
                    clear HR hT hp0
                    have hal : k = 0 ∨ 0 < k := by omega
                    have hbV := hb
                    by_cases hst : st = 3
                    · have hst' := hst.symm
                      clear hst
                      subst hst'
                      rcases hal with rfl | hal
                      · have hF : Hid (R = false) := by show _ = _; rw [HR3.out]; rfl
                        clear HR3
                        go_wp2
                        go_ret
                        exact ⟨by rw [hF.out]; rfl, hB.trans (hb.mono hB.size)⟩
                      · have hal' : (0 : Int) < (k : Int) := by omega
                        have hF : Hid (R = true) := by show _ = _; rw [HR3.out, decide_eq_true hal]; rfl
                        clear HR3
                        go_wp2
                        go_ret
                        exact ⟨by rw [hF.out]; rfl, hB.trans (hb.mono hB.size)⟩
                    · have hst2 : (st == 3) = false := by simp [hst]
                      rcases hal with rfl | hal
                      · have hF : Hid (R = true) := by show _ = _; rw [HR3.out, decide_eq_false hst]; rfl
                        clear HR3
                        go_wp2
                        go_ret
                        exact ⟨by rw [hF.out]; rfl, hB.trans (hb.mono hB.size)⟩
                      · have hal' : (0 : Int) < (k : Int) := by omega
                        have hF : Hid (R = false) := by show _ = _; rw [HR3.out, decide_eq_true hal, decide_eq_false hst]; rfl
                        clear HR3
                        go_wp2
                        go_ret
                        exact ⟨by rw [hF.out]; rfl, hB.trans (hb.mono hB.size)⟩
end Go.Proofs.Ytfhciplckjkflaa.Co
