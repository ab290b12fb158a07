/- The contract of the document's answer ConfigFault: at every config it returns the fault that cfgFault tells, and leaves what was in memory. -/
import Derived.Test.YtoonldnbpnlalaaDoorProg
import Derived.WalkKit
import Derived.ProofKit
import Derived.Below
import Derived.Deep.QuietTactic
import Derived.BigQuiet
import Derived.LoopTactic
import Derived.WalkSmall
import Derived.Test.YtoonldnbpnlalaaDoorBase
import Derived.Test.YtoonldnbpnlalaaDoorCheck
namespace Go.Proofs.YtoonldnbpnlalaaDoor
open Go.ChangeShapes Go.WideShapes Go.ChangeAt Go.RowKit

theorem in_any (n lo hi : Int) (w : World) :
    Calls Tryd.prog 17 #[.int .i64 n, .int .i64 lo, .int .i64 hi] w fun e w' => e = .returned (.bool (inR n lo hi)) ∧ w' = w := by
  go_enter Tryd.func17, Tryd.ntmps17
  go_wp2
  all_goals go_ret
  all_goals exact ⟨ret_bool (by unfold inR; rw [Bool.eq_iff_iff]; simp; omega), rfl⟩

theorem fault_sites (s p : Int) (a : Option Addr) (len cap : Nat) (w : World) (hs : s < 1 ∨ 4 < s) :
    Calls Tryd.prog 16 #[.agg #[.int .i64 s, .slice a len cap, .int .i64 p]] w fun e w' => e = .returned (.int .i64 2) ∧ Below w.heap.size w w' := by
  have hA : Below w.heap.size w (w.alloc (.cells #[.int .i64 s, .slice a len cap, .int .i64 p] 24)) := (Below.refl _ _).alloc (Nat.le_refl _) _
  have h1 := inR_false hs
  go_enter Tryd.func16, Tryd.ntmps16
  go_wp2_with (go_at_call 17; refine (in_any _ _ _ _).mono ?_; rintro e w1 ⟨rfl, rfl⟩)
  go_ret
  exact ⟨rfl, hA⟩

theorem fault_size (s p : Int) (a : Option Addr) (len cap : Nat) (w : World) (h1 : 1 ≤ s) (h2 : s ≤ 4) (hn : len < 1 ∨ 6 < len) :
    Calls Tryd.prog 16 #[.agg #[.int .i64 s, .slice a len cap, .int .i64 p]] w fun e w' => e = .returned (.int .i64 1) ∧ Below w.heap.size w w' := by
  have hA : Below w.heap.size w (w.alloc (.cells #[.int .i64 s, .slice a len cap, .int .i64 p] 24)) := (Below.refl _ _).alloc (Nat.le_refl _) _
  have h3 := inR_true h1 h2
  have h4 : inR (len : Int) 1 6 = false := inR_false (by omega)
  go_enter Tryd.func16, Tryd.ntmps16
  go_wp2_with (go_at_call 17; refine (in_any _ _ _ _).mono ?_; rintro e w1 ⟨rfl, rfl⟩)
  go_ret
  exact ⟨rfl, hA⟩

set_option maxHeartbeats 1000000 in
theorem fault_labs (s p : Int) (b off : Nat) (cap : Nat) (ls : List (Int × Int)) (w : World) (h1 : 1 ≤ s) (h2 : s ≤ 4) (h3 : 1 ≤ ls.length) (h4 : ls.length ≤ 6) (h : Labs w b off ls) :
    Calls Tryd.prog 16 #[.agg #[.int .i64 s, .slice (some ⟨b, off, none⟩) ls.length cap, .int .i64 p]] w fun e w' => e = .returned (.int .i64 (cfgFault s ls p)) ∧ Below w.heap.size w w' := by
  have r1 := inR_true h1 h2
  have r2 : inR (ls.length : Int) 1 6 = true := inR_true (by omega) (by omega)
  go_enter Tryd.func16, Tryd.ntmps16
  go_wp2_with (go_at_call 17; refine (in_any _ _ _ _).mono ?_; rintro e w1 ⟨rfl, rfl⟩)
  go_loopw [3] (fun i wr => ∃ k : Nat, k ≤ ls.length ∧ i = .int .i64 k ∧ labAt ls k ∧ Below (w.heap.size + 1) (w.alloc (.cells #[.int .i64 s, .slice (some ⟨b, off, none⟩) ls.length cap, .int .i64 p] 24)) wr) (fun i _ => ls.length - (intOf i).toNat)
  case atStart => exact ⟨0, Nat.zero_le _, rfl, labAt_zero _, Below.refl _ _⟩
  case round =>
    obtain ⟨k, hk, rfl, hat, hb⟩ := hrel
    have hbw : Below w.heap.size w wr := ((Below.refl _ _).alloc (Nat.le_refl _) _).trans (hb.mono (by omega))
    have d1 : wr.cell? ⟨w.heap.size, 1, none⟩ = some (.slice (some ⟨b, off, none⟩) ls.length cap) := by
      rw [hb.cell (p := ⟨w.heap.size, 1, none⟩) (by simp)]; go_simp
    have d2 : wr.cell? ⟨w.heap.size, 2, none⟩ = some (.int .i64 p) := by
      rw [hb.cell (p := ⟨w.heap.size, 2, none⟩) (by simp)]; go_simp
    by_cases hlt : k < ls.length
    · have hr := (h.below hbw).2 k hlt
      obtain ⟨x, hx⟩ : ∃ p, p = (ls.getD k (0, 0)).1 := ⟨_, rfl⟩
      obtain ⟨y, hy⟩ : ∃ q, q = (ls.getD k (0, 0)).2 := ⟨_, rfl⟩
      rw [← hx, ← hy] at hr
      obtain ⟨c0, c1⟩ := hr
      have hxy : ls.getD k (0, 0) = (x, y) := Prod.ext hx.symm hy.symm
      clear hx hy
      cases hB : inB x y with
      | false =>
        have hf : cfgFault s ls p = 2 := cfg_lab h1 h2 h3 h4 (labAt_range hlt hat (by rw [hxy]; exact hB)) (by decide)
        clear hxy
        rw [inB_of] at hB
        cases hX : inR x 0 9 with
        | false =>
          go_wp2_with (go_at_call 17; refine (in_any _ _ _ _).mono ?_; rintro e w1 ⟨rfl, rfl⟩)
          go_ret
          exact ⟨ret_int hf.symm, hbw⟩
        | true =>
          have hY : inR y 0 15 = false := by rw [hX] at hB; simpa using hB
          clear hB
          go_wp2_with (go_at_call 17; refine (in_any _ _ _ _).mono ?_; rintro e w1 ⟨rfl, rfl⟩)
          go_ret
          exact ⟨ret_int hf.symm, hbw⟩
      | true =>
        have hT : Hid ((x, y) ∈ ls.take k → cfgFault s ls p = 7) := fun hmem => cfg_lab h1 h2 h3 h4 (labAt_twice hlt hat (by rw [hxy]; exact hB) (by rw [hxy]; exact hmem)) (by decide)
        have hS : Hid ((x, y) ∉ ls.take k → labAt ls (k + 1)) := fun hmem => labAt_succ hlt hat (by rw [hxy]; exact hB) (by rw [hxy]; exact hmem)
        clear hxy
        rw [inB_of] at hB
        obtain ⟨hX, hY⟩ : inR x 0 9 = true ∧ inR y 0 15 = true := by simpa using hB
        clear hB
        go_wp2_with (go_at_call 17; refine (in_any _ _ _ _).mono ?_; rintro e w1 ⟨rfl, rfl⟩)
        obtain ⟨wo, hwo⟩ : ∃ wo : World, wo = w1 := ⟨_, rfl⟩
        rw [← hwo] at hb hbw d1 d2 c0 c1 ⊢
        clear hwo
        go_loopw [4] (fun i wr => ∃ j : Nat, j ≤ k ∧ i = .int .i64 j ∧ (x, y) ∉ ls.take j ∧ Below wo.heap.size wo wr) (fun i _ => k - (intOf i).toNat)
        case atStart => exact ⟨0, Nat.zero_le _, rfl, by simp, Below.refl _ _⟩
        case round =>
          obtain ⟨j, hj, rfl, hno, hbo⟩ := hrel
          have hzo : w.heap.size < wo.heap.size := by have := hb.size; simp at this; omega
          have hb3 : Below (w.heap.size + 1) (w.alloc (.cells #[.int .i64 s, .slice (some ⟨b, off, none⟩) ls.length cap, .int .i64 p] 24)) wr := hb.trans (hbo.mono hzo)
          have hbw2 : Below w.heap.size w wr := hbw.trans (hbo.mono (by omega))
          have e1 : wr.cell? ⟨w.heap.size, 1, none⟩ = some (.slice (some ⟨b, off, none⟩) ls.length cap) := by
            rw [hbo.cell (p := ⟨w.heap.size, 1, none⟩) hzo]; exact d1
          by_cases hjk : j < k
          · have hr := (h.below hbw2).2 j (by omega)
            have hbo' : b < wo.heap.size := by have := h.1; omega
            have g0 : wr.cell? ⟨b, off + k * 2, none⟩ = some (.int .i64 x) := by rw [hbo.cell (p := ⟨b, off + k * 2, none⟩) hbo']; exact c0
            have g1 : wr.cell? ⟨b, off + k * 2 + 1, none⟩ = some (.int .i64 y) := by rw [hbo.cell (p := ⟨b, off + k * 2 + 1, none⟩) hbo']; exact c1
            obtain ⟨u, hu⟩ : ∃ p, p = (ls.getD j (0, 0)).1 := ⟨_, rfl⟩
            obtain ⟨v, hv⟩ : ∃ q, q = (ls.getD j (0, 0)).2 := ⟨_, rfl⟩
            rw [← hu, ← hv] at hr
            obtain ⟨g2, g3⟩ := hr
            have hjl : (j : Int) < (ls.length : Int) := by omega
            by_cases e1' : u = x
            · by_cases e2 : v = y
              · have hmem : (x, y) ∈ ls.take k := by
                  refine mem_of_getD (k := j) (by simp; omega) ?_ ?_
                  · rw [← e1', hu]; simp [List.getD, hjk]
                  · rw [← e2, hv]; simp [List.getD, hjk]
                have hf := hT.out hmem
                clear hu hv hno
                subst e1' e2
                go_wp2
                go_quiet (fail)
                go_wp2
                go_ret
                exact ⟨ret_int hf.symm, below_drewN hbw2 nq⟩
              · have hn := not_take_succ (p := (x, y)) (by omega) hno (by rw [← hu, ← hv]; simp; intro _; exact fun h => e2 h.symm)
                have e3 : (v == y) = false := by simpa using e2
                clear hu hv
                subst e1'
                go_wp2
                go_quiet (fail)
                go_wp2
                go_roundw
                case rel => exact ⟨j + 1, by omega, by go_num, hn, below_drewN hbo nq⟩
                case measure => simp [intOf]; omega
            · have hn := not_take_succ (p := (x, y)) (by omega) hno (by rw [← hu, ← hv]; simp; intro h; exact absurd h.symm e1')
              have e3 : (u == x) = false := by simpa using e1'
              clear hu hv
              go_wp2
              go_quiet (fail)
              go_wp2
              go_roundw
              case rel => exact ⟨j + 1, by omega, by go_num, hn, below_drewN hbo nq⟩
              case measure => simp [intOf]; omega
          · have hjk' : j = k := by omega
            subst hjk'
            have hn := hS.out hno
            go_wp2
            go_roundw
            case rel => exact ⟨j + 1, by omega, by go_num, hn, hb3⟩
            case measure => simp [intOf]; omega
    · have he : k = ls.length := by omega
      subst he
      have hf := labAt_end hat
      by_cases hp : p < 1 ∨ 1048576 < p
      · have hr := inR_false hp
        go_wp2_with (go_at_call 17; refine (in_any _ _ _ _).mono ?_; rintro e w1 ⟨rfl, rfl⟩)
        go_ret
        exact ⟨ret_int (cfg_late h1 h2 h3 h4 hf hp).symm, hbw⟩
      · have hr : inR p 1 1048576 = true := inR_true (by omega) (by omega)
        go_wp2_with (go_at_call 17; refine (in_any _ _ _ _).mono ?_; rintro e w1 ⟨rfl, rfl⟩)
        go_ret
        exact ⟨ret_int (cfg_ok h1 h2 h3 h4 hf (by omega) (by omega)).symm, hbw⟩

theorem fault_any (s p : Int) (a : Option Addr) (len cap : Nat) (ls : List (Int × Int)) (w : World) (h : IsLabs w a len cap ls) :
    Calls Tryd.prog 16 #[.agg #[.int .i64 s, .slice a len cap, .int .i64 p]] w fun e w' => e = .returned (.int .i64 (cfgFault s ls p)) ∧ Below w.heap.size w w' := by
  obtain ⟨rfl, _, _, h4⟩ := h
  by_cases hs : s < 1 ∨ 4 < s
  · rw [cfg_sites hs]
    exact fault_sites s p a _ cap w hs
  · by_cases hn : ls.length < 1 ∨ 6 < ls.length
    · rw [cfg_size (by omega) (by omega) hn]
      exact fault_size s p a _ cap w (by omega) (by omega) hn
    · obtain ⟨b, off, rfl, hL⟩ := h4 (by omega)
      exact fault_labs s p b off cap ls w (by omega) (by omega) (by omega) (by omega) hL
end Go.Proofs.YtoonldnbpnlalaaDoor
