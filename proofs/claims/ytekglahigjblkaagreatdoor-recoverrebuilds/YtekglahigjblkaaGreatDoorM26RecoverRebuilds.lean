/- Texts of this claim, one behind the other. -/
import Derived.Test.YtekglahigjblkaaGreatDoorM10RecoverRebuilds
import Derived.Test.YtekglahigjblkaaGreatDoorM2RecoverRebuilds
import Derived.Deep.QuietTactic
import Derived.BigQuiet
import Derived.BigRegion
import Derived.LoopTactic
import Derived.RegionTactic
import Derived.Deep.RegionWith
import Derived.Deep.RegionHeld3
import Derived.WalkSmall
import Derived.Deep.Cut
import Derived.Lib.QuietBelow
/- Contracts of the small functions of bounds and wire: Site, Txn, Label, isCode, truth. -/
namespace Go.Proofs.YtekglahigjblkaaGreatDoor
open Go.ChangeShapes Go.WideShapes Go.ChangeAt Go.RowKit

theorem wrap_i64 {n : Int} (h1 : -9223372036854775808 ≤ n) (h2 : n ≤ 9223372036854775807) : IntKind.i64.wrap n = n := by
  simp [IntKind.wrap, IntKind.bits, IntKind.signed]; omega

theorem site_any (s p : Int) (a : Option Addr) (len cap : Nat) (n : Int) (w : World) (hs : 1 ≤ s ∧ s ≤ 4) :
    Calls Tryz.prog 25 #[.agg #[.int .i64 s, .slice a len cap, .int .i64 p], .int .i64 n] w fun e w' => e = .returned (.bool (inR n 0 (s - 1))) ∧ Below w.heap.size w w' := by
  have hA : Below w.heap.size w (w.alloc (.cells #[.int .i64 s, .slice a len cap, .int .i64 p] 24)) := (Below.refl _ _).alloc (Nat.le_refl _) _
  obtain ⟨h1, h2⟩ := hs
  go_enter Tryz.func25, Tryz.ntmps25
  go_wp2_with (go_at_call 41; refine (within_any _ _ _ _).mono ?_; rintro e w1 ⟨rfl, hu1⟩; rw [hu1]; clear hu1)
  go_ret
  exact ⟨rfl, hA⟩

theorem place_any (s p : Int) (a : Option Addr) (len cap : Nat) (l : Int) (w : World) (hl : len ≤ 6) :
    Calls Tryz.prog 60 #[.agg #[.int .i64 s, .slice a len cap, .int .i64 p], .int .i64 l] w fun e w' => e = .returned (.bool (plc l len)) ∧ Below w.heap.size w w' := by
  have hA : Below w.heap.size w (w.alloc (.cells #[.int .i64 s, .slice a len cap, .int .i64 p] 24)) := (Below.refl _ _).alloc (Nat.le_refl _) _
  have h2 : (len : Int) ≤ 6 := by omega
  have e : plc l len = inR l 0 ((len : Int) - 1) := by unfold plc inR; rw [Bool.eq_iff_iff]; simp; omega
  rw [e]
  clear e
  go_enter Tryz.func60, Tryz.ntmps60
  go_wp2_with (go_at_call 41; refine (within_any _ _ _ _).mono ?_; rintro e w1 ⟨rfl, hu1⟩; rw [hu1]; clear hu1)
  go_ret
  exact ⟨rfl, hA⟩

theorem txn_any (site num s : Int) (w : World) (hs : 1 ≤ s ∧ s ≤ 4) :
    Calls Tryz.prog 45 #[.agg #[.int .i64 site, .int .i64 num], .int .i64 s] w fun e w' => e = .returned (.bool (txnOK s site num)) ∧ Below w.heap.size w w' := by
  have hA : Below w.heap.size w (w.alloc (.cells #[.int .i64 site, .int .i64 num] 51)) := (Below.refl _ _).alloc (Nat.le_refl _) _
  obtain ⟨h1, h2⟩ := hs
  unfold txnOK
  cases hr : inR site 0 (s - 1) with
  | false =>
    go_enter Tryz.func45, Tryz.ntmps45
    go_wp2_with (go_at_call 41; refine (within_any _ _ _ _).mono ?_; rintro e w1 ⟨rfl, hu1⟩; rw [hu1]; clear hu1)
    go_ret
    exact ⟨rfl, hA⟩
  | true =>
    go_enter Tryz.func45, Tryz.ntmps45
    go_wp2_with (go_at_call 41; refine (within_any _ _ _ _).mono ?_; rintro e w1 ⟨rfl, hu1⟩; rw [hu1]; clear hu1)
    go_ret
    exact ⟨by simp, hA⟩

theorem isCode_any (n : Int) (w : World) :
    Calls Tryz.prog 61 #[.int .i64 n] w fun e w' => e = .returned (.bool (isCd n)) ∧ w' = w := by
  go_enter Tryz.func61, Tryz.ntmps61
  go_wp2
  all_goals go_ret
  all_goals exact ⟨ret_bool (by unfold isCd; simp [*]), rfl⟩

theorem truth_any (b : Bool) (w : World) :
    Calls Tryz.prog 59 #[.bool b] w fun e w' => e = .returned (.int .i64 (bit b)) ∧ w' = w := by
  cases b
  all_goals
    go_enter Tryz.func59, Tryz.ntmps59
    go_wp2
    go_ret
    exact ⟨rfl, rfl⟩
end Go.Proofs.YtekglahigjblkaaGreatDoor
/- The contract of wire's messageParts: parts of a message as eight numbers. -/
namespace Go.Proofs.YtekglahigjblkaaGreatDoor
open Go.ChangeShapes Go.WideShapes Go.ChangeAt Go.RowKit

theorem idxP0 (v0 v1 v2 v3 v4 v5 v6 v7 : Int) (w : World) : (Instr.index 103 (.agg #[.int .i64 v0, .int .i64 v1, .int .i64 v2, .int .i64 v3, .int .i64 v4, .int .i64 v5, .int .i64 v6, .int .i64 v7]) (.int .i64 0)).run Tryz.prog w = .ok (.int .i64 v0) w := by kernel_rfl
theorem idxP1 (v0 v1 v2 v3 v4 v5 v6 v7 : Int) (w : World) : (Instr.index 103 (.agg #[.int .i64 v0, .int .i64 v1, .int .i64 v2, .int .i64 v3, .int .i64 v4, .int .i64 v5, .int .i64 v6, .int .i64 v7]) (.int .i64 1)).run Tryz.prog w = .ok (.int .i64 v1) w := by kernel_rfl
theorem idxP2 (v0 v1 v2 v3 v4 v5 v6 v7 : Int) (w : World) : (Instr.index 103 (.agg #[.int .i64 v0, .int .i64 v1, .int .i64 v2, .int .i64 v3, .int .i64 v4, .int .i64 v5, .int .i64 v6, .int .i64 v7]) (.int .i64 2)).run Tryz.prog w = .ok (.int .i64 v2) w := by kernel_rfl
theorem idxP3 (v0 v1 v2 v3 v4 v5 v6 v7 : Int) (w : World) : (Instr.index 103 (.agg #[.int .i64 v0, .int .i64 v1, .int .i64 v2, .int .i64 v3, .int .i64 v4, .int .i64 v5, .int .i64 v6, .int .i64 v7]) (.int .i64 3)).run Tryz.prog w = .ok (.int .i64 v3) w := by kernel_rfl
theorem idxP4 (v0 v1 v2 v3 v4 v5 v6 v7 : Int) (w : World) : (Instr.index 103 (.agg #[.int .i64 v0, .int .i64 v1, .int .i64 v2, .int .i64 v3, .int .i64 v4, .int .i64 v5, .int .i64 v6, .int .i64 v7]) (.int .i64 4)).run Tryz.prog w = .ok (.int .i64 v4) w := by kernel_rfl
theorem idxP5 (v0 v1 v2 v3 v4 v5 v6 v7 : Int) (w : World) : (Instr.index 103 (.agg #[.int .i64 v0, .int .i64 v1, .int .i64 v2, .int .i64 v3, .int .i64 v4, .int .i64 v5, .int .i64 v6, .int .i64 v7]) (.int .i64 5)).run Tryz.prog w = .ok (.int .i64 v5) w := by kernel_rfl
theorem idxP6 (v0 v1 v2 v3 v4 v5 v6 v7 : Int) (w : World) : (Instr.index 103 (.agg #[.int .i64 v0, .int .i64 v1, .int .i64 v2, .int .i64 v3, .int .i64 v4, .int .i64 v5, .int .i64 v6, .int .i64 v7]) (.int .i64 6)).run Tryz.prog w = .ok (.int .i64 v6) w := by kernel_rfl
theorem idxP7 (v0 v1 v2 v3 v4 v5 v6 v7 : Int) (w : World) : (Instr.index 103 (.agg #[.int .i64 v0, .int .i64 v1, .int .i64 v2, .int .i64 v3, .int .i64 v4, .int .i64 v5, .int .i64 v6, .int .i64 v7]) (.int .i64 7)).run Tryz.prog w = .ok (.int .i64 v7) w := by kernel_rfl
theorem idxA0 (v0 v1 v2 v3 v4 v5 v6 v7 : Int) (w : World) : (Instr.index 102 (.agg #[.int .i64 v0, .int .i64 v1, .int .i64 v2, .int .i64 v3, .int .i64 v4, .int .i64 v5, .int .i64 v6, .int .i64 v7]) (.int .i64 0)).run Tryz.prog w = .ok (.int .i64 v0) w := by kernel_rfl
theorem idxA1 (v0 v1 v2 v3 v4 v5 v6 v7 : Int) (w : World) : (Instr.index 102 (.agg #[.int .i64 v0, .int .i64 v1, .int .i64 v2, .int .i64 v3, .int .i64 v4, .int .i64 v5, .int .i64 v6, .int .i64 v7]) (.int .i64 1)).run Tryz.prog w = .ok (.int .i64 v1) w := by kernel_rfl
theorem idxA2 (v0 v1 v2 v3 v4 v5 v6 v7 : Int) (w : World) : (Instr.index 102 (.agg #[.int .i64 v0, .int .i64 v1, .int .i64 v2, .int .i64 v3, .int .i64 v4, .int .i64 v5, .int .i64 v6, .int .i64 v7]) (.int .i64 2)).run Tryz.prog w = .ok (.int .i64 v2) w := by kernel_rfl
theorem idxA3 (v0 v1 v2 v3 v4 v5 v6 v7 : Int) (w : World) : (Instr.index 102 (.agg #[.int .i64 v0, .int .i64 v1, .int .i64 v2, .int .i64 v3, .int .i64 v4, .int .i64 v5, .int .i64 v6, .int .i64 v7]) (.int .i64 3)).run Tryz.prog w = .ok (.int .i64 v3) w := by kernel_rfl
theorem idxA4 (v0 v1 v2 v3 v4 v5 v6 v7 : Int) (w : World) : (Instr.index 102 (.agg #[.int .i64 v0, .int .i64 v1, .int .i64 v2, .int .i64 v3, .int .i64 v4, .int .i64 v5, .int .i64 v6, .int .i64 v7]) (.int .i64 4)).run Tryz.prog w = .ok (.int .i64 v4) w := by kernel_rfl
theorem idxA5 (v0 v1 v2 v3 v4 v5 v6 v7 : Int) (w : World) : (Instr.index 102 (.agg #[.int .i64 v0, .int .i64 v1, .int .i64 v2, .int .i64 v3, .int .i64 v4, .int .i64 v5, .int .i64 v6, .int .i64 v7]) (.int .i64 5)).run Tryz.prog w = .ok (.int .i64 v5) w := by kernel_rfl
theorem idxA6 (v0 v1 v2 v3 v4 v5 v6 v7 : Int) (w : World) : (Instr.index 102 (.agg #[.int .i64 v0, .int .i64 v1, .int .i64 v2, .int .i64 v3, .int .i64 v4, .int .i64 v5, .int .i64 v6, .int .i64 v7]) (.int .i64 6)).run Tryz.prog w = .ok (.int .i64 v6) w := by kernel_rfl
theorem idxA7 (v0 v1 v2 v3 v4 v5 v6 v7 : Int) (w : World) : (Instr.index 102 (.agg #[.int .i64 v0, .int .i64 v1, .int .i64 v2, .int .i64 v3, .int .i64 v4, .int .i64 v5, .int .i64 v6, .int .i64 v7]) (.int .i64 7)).run Tryz.prog w = .ok (.int .i64 v7) w := by kernel_rfl

set_option maxRecDepth 100000 in
set_option maxHeartbeats 1000000 in
/-- Whether all that is not 0 is among what there is. -/
theorem hasAll_any (h0 h1 h2 h3 h4 h5 h6 h7 : Bool) (p0 p1 p2 p3 p4 p5 p6 p7 : Int) (w : World) :
    Calls Tryz.prog 48 #[.agg #[.bool h0, .bool h1, .bool h2, .bool h3, .bool h4, .bool h5, .bool h6, .bool h7], .agg #[.int .i64 p0, .int .i64 p1, .int .i64 p2, .int .i64 p3, .int .i64 p4, .int .i64 p5, .int .i64 p6, .int .i64 p7]] w
      fun e w' => e = .returned (.bool (hasAll [h0, h1, h2, h3, h4, h5, h6, h7] [p0, p1, p2, p3, p4, p5, p6, p7])) ∧ Below w.heap.size w w' := by
  obtain ⟨W, hW⟩ : ∃ W : World, W = (w.alloc (.cells #[.bool h0, .bool h1, .bool h2, .bool h3, .bool h4, .bool h5, .bool h6, .bool h7] 110)).alloc (.cells #[.int .i64 p0, .int .i64 p1, .int .i64 p2, .int .i64 p3, .int .i64 p4, .int .i64 p5, .int .i64 p6, .int .i64 p7] 103) := ⟨_, rfl⟩
  have hB : Below w.heap.size w W := by rw [hW]; exact ((Below.refl _ _).alloc (Nat.le_refl _) _).alloc (by simp) _
  have b0 : W.cell? ⟨w.heap.size, 0, none⟩ = some (.bool h0) := by rw [hW]; go_simp
  have b1 : W.cell? ⟨w.heap.size, 1, none⟩ = some (.bool h1) := by rw [hW]; go_simp
  have b2 : W.cell? ⟨w.heap.size, 2, none⟩ = some (.bool h2) := by rw [hW]; go_simp
  have b3 : W.cell? ⟨w.heap.size, 3, none⟩ = some (.bool h3) := by rw [hW]; go_simp
  have b4 : W.cell? ⟨w.heap.size, 4, none⟩ = some (.bool h4) := by rw [hW]; go_simp
  have b5 : W.cell? ⟨w.heap.size, 5, none⟩ = some (.bool h5) := by rw [hW]; go_simp
  have b6 : W.cell? ⟨w.heap.size, 6, none⟩ = some (.bool h6) := by rw [hW]; go_simp
  have b7 : W.cell? ⟨w.heap.size, 7, none⟩ = some (.bool h7) := by rw [hW]; go_simp
  obtain ⟨hs, ehs⟩ : ∃ hs, hs = [h0, h1, h2, h3, h4, h5, h6, h7] := ⟨_, rfl⟩
  obtain ⟨ps, eps⟩ : ∃ ps, ps = [p0, p1, p2, p3, p4, p5, p6, p7] := ⟨_, rfl⟩
  rw [← ehs, ← eps]
  have EH : Hid (hs = [h0, h1, h2, h3, h4, h5, h6, h7]) := ehs
  have EP : Hid (ps = [p0, p1, p2, p3, p4, p5, p6, p7]) := eps
  clear ehs eps
  go_enter Tryz.func48, Tryz.ntmps48
  go_wp2
  rw [← hW]
  clear hW
  go_loopw [8] (fun i wr => ∃ k : Nat, k ≤ 8 ∧ i = .int .i64 k ∧ Hid (hasAll hs ps = hasAll (hs.drop k) (ps.drop k)) ∧ wr = W) (fun i _ => 8 - (intOf i).toNat)
  case atStart => exact ⟨0, by omega, rfl, rfl, rfl⟩
  case round =>
    obtain ⟨k, hk, rfl, hat, rfl⟩ := hrel
    rcases (by omega : k = 0 ∨ k = 1 ∨ k = 2 ∨ k = 3 ∨ k = 4 ∨ k = 5 ∨ k = 6 ∨ k = 7 ∨ k = 8) with rfl | rfl | rfl | rfl | rfl | rfl | rfl | rfl | rfl
    · have hx := idxP0 p0 p1 p2 p3 p4 p5 p6 p7
      by_cases e : p0 = 0
      · subst e
        have hn : Hid (hasAll hs ps = hasAll (hs.drop 1) (ps.drop 1)) := by show hasAll hs ps = _; rw [hat.out, EH.out, EP.out]; simp [hasAll]
        clear hat
        go_wp2
        go_roundw
        case rel => exact ⟨1, by omega, by go_num, hn, by first | rfl | trivial⟩
        case measure => simp [intOf]
      · cases hb : h0 with
        | true =>
          have hn : Hid (hasAll hs ps = hasAll (hs.drop 1) (ps.drop 1)) := by show hasAll hs ps = _; rw [hat.out, EH.out, EP.out]; simp [hasAll, hb]
          rw [hb] at b0
          clear hat
          go_wp2
          go_roundw
          case rel => exact ⟨1, by omega, by go_num, hn, by first | rfl | trivial⟩
          case measure => simp [intOf]
        | false =>
          have hf : Hid (hasAll hs ps = false) := by show hasAll hs ps = _; rw [hat.out, EH.out, EP.out]; simp [hasAll, e, hb]
          rw [hb] at b0
          clear hat
          go_wp2
          go_ret
          exact ⟨ret_bool hf.out.symm, hB⟩
    · have hx := idxP1 p0 p1 p2 p3 p4 p5 p6 p7
      by_cases e : p1 = 0
      · subst e
        have hn : Hid (hasAll hs ps = hasAll (hs.drop 2) (ps.drop 2)) := by show hasAll hs ps = _; rw [hat.out, EH.out, EP.out]; simp [hasAll]
        clear hat
        go_wp2
        go_roundw
        case rel => exact ⟨2, by omega, by go_num, hn, by first | rfl | trivial⟩
        case measure => simp [intOf]
      · cases hb : h1 with
        | true =>
          have hn : Hid (hasAll hs ps = hasAll (hs.drop 2) (ps.drop 2)) := by show hasAll hs ps = _; rw [hat.out, EH.out, EP.out]; simp [hasAll, hb]
          rw [hb] at b1
          clear hat
          go_wp2
          go_roundw
          case rel => exact ⟨2, by omega, by go_num, hn, by first | rfl | trivial⟩
          case measure => simp [intOf]
        | false =>
          have hf : Hid (hasAll hs ps = false) := by show hasAll hs ps = _; rw [hat.out, EH.out, EP.out]; simp [hasAll, e, hb]
          rw [hb] at b1
          clear hat
          go_wp2
          go_ret
          exact ⟨ret_bool hf.out.symm, hB⟩
    · have hx := idxP2 p0 p1 p2 p3 p4 p5 p6 p7
      by_cases e : p2 = 0
      · subst e
        have hn : Hid (hasAll hs ps = hasAll (hs.drop 3) (ps.drop 3)) := by show hasAll hs ps = _; rw [hat.out, EH.out, EP.out]; simp [hasAll]
        clear hat
        go_wp2
        go_roundw
        case rel => exact ⟨3, by omega, by go_num, hn, by first | rfl | trivial⟩
        case measure => simp [intOf]
      · cases hb : h2 with
        | true =>
          have hn : Hid (hasAll hs ps = hasAll (hs.drop 3) (ps.drop 3)) := by show hasAll hs ps = _; rw [hat.out, EH.out, EP.out]; simp [hasAll, hb]
          rw [hb] at b2
          clear hat
          go_wp2
          go_roundw
          case rel => exact ⟨3, by omega, by go_num, hn, by first | rfl | trivial⟩
          case measure => simp [intOf]
        | false =>
          have hf : Hid (hasAll hs ps = false) := by show hasAll hs ps = _; rw [hat.out, EH.out, EP.out]; simp [hasAll, e, hb]
          rw [hb] at b2
          clear hat
          go_wp2
          go_ret
          exact ⟨ret_bool hf.out.symm, hB⟩
    · have hx := idxP3 p0 p1 p2 p3 p4 p5 p6 p7
      by_cases e : p3 = 0
      · subst e
        have hn : Hid (hasAll hs ps = hasAll (hs.drop 4) (ps.drop 4)) := by show hasAll hs ps = _; rw [hat.out, EH.out, EP.out]; simp [hasAll]
        clear hat
        go_wp2
        go_roundw
        case rel => exact ⟨4, by omega, by go_num, hn, by first | rfl | trivial⟩
        case measure => simp [intOf]
      · cases hb : h3 with
        | true =>
          have hn : Hid (hasAll hs ps = hasAll (hs.drop 4) (ps.drop 4)) := by show hasAll hs ps = _; rw [hat.out, EH.out, EP.out]; simp [hasAll, hb]
          rw [hb] at b3
          clear hat
          go_wp2
          go_roundw
          case rel => exact ⟨4, by omega, by go_num, hn, by first | rfl | trivial⟩
          case measure => simp [intOf]
        | false =>
          have hf : Hid (hasAll hs ps = false) := by show hasAll hs ps = _; rw [hat.out, EH.out, EP.out]; simp [hasAll, e, hb]
          rw [hb] at b3
          clear hat
          go_wp2
          go_ret
          exact ⟨ret_bool hf.out.symm, hB⟩
    · have hx := idxP4 p0 p1 p2 p3 p4 p5 p6 p7
      by_cases e : p4 = 0
      · subst e
        have hn : Hid (hasAll hs ps = hasAll (hs.drop 5) (ps.drop 5)) := by show hasAll hs ps = _; rw [hat.out, EH.out, EP.out]; simp [hasAll]
        clear hat
        go_wp2
        go_roundw
        case rel => exact ⟨5, by omega, by go_num, hn, by first | rfl | trivial⟩
        case measure => simp [intOf]
      · cases hb : h4 with
        | true =>
          have hn : Hid (hasAll hs ps = hasAll (hs.drop 5) (ps.drop 5)) := by show hasAll hs ps = _; rw [hat.out, EH.out, EP.out]; simp [hasAll, hb]
          rw [hb] at b4
          clear hat
          go_wp2
          go_roundw
          case rel => exact ⟨5, by omega, by go_num, hn, by first | rfl | trivial⟩
          case measure => simp [intOf]
        | false =>
          have hf : Hid (hasAll hs ps = false) := by show hasAll hs ps = _; rw [hat.out, EH.out, EP.out]; simp [hasAll, e, hb]
          rw [hb] at b4
          clear hat
          go_wp2
          go_ret
          exact ⟨ret_bool hf.out.symm, hB⟩
    · have hx := idxP5 p0 p1 p2 p3 p4 p5 p6 p7
      by_cases e : p5 = 0
      · subst e
        have hn : Hid (hasAll hs ps = hasAll (hs.drop 6) (ps.drop 6)) := by show hasAll hs ps = _; rw [hat.out, EH.out, EP.out]; simp [hasAll]
        clear hat
        go_wp2
        go_roundw
        case rel => exact ⟨6, by omega, by go_num, hn, by first | rfl | trivial⟩
        case measure => simp [intOf]
      · cases hb : h5 with
        | true =>
          have hn : Hid (hasAll hs ps = hasAll (hs.drop 6) (ps.drop 6)) := by show hasAll hs ps = _; rw [hat.out, EH.out, EP.out]; simp [hasAll, hb]
          rw [hb] at b5
          clear hat
          go_wp2
          go_roundw
          case rel => exact ⟨6, by omega, by go_num, hn, by first | rfl | trivial⟩
          case measure => simp [intOf]
        | false =>
          have hf : Hid (hasAll hs ps = false) := by show hasAll hs ps = _; rw [hat.out, EH.out, EP.out]; simp [hasAll, e, hb]
          rw [hb] at b5
          clear hat
          go_wp2
          go_ret
          exact ⟨ret_bool hf.out.symm, hB⟩
    · have hx := idxP6 p0 p1 p2 p3 p4 p5 p6 p7
      by_cases e : p6 = 0
      · subst e
        have hn : Hid (hasAll hs ps = hasAll (hs.drop 7) (ps.drop 7)) := by show hasAll hs ps = _; rw [hat.out, EH.out, EP.out]; simp [hasAll]
        clear hat
        go_wp2
        go_roundw
        case rel => exact ⟨7, by omega, by go_num, hn, by first | rfl | trivial⟩
        case measure => simp [intOf]
      · cases hb : h6 with
        | true =>
          have hn : Hid (hasAll hs ps = hasAll (hs.drop 7) (ps.drop 7)) := by show hasAll hs ps = _; rw [hat.out, EH.out, EP.out]; simp [hasAll, hb]
          rw [hb] at b6
          clear hat
          go_wp2
          go_roundw
          case rel => exact ⟨7, by omega, by go_num, hn, by first | rfl | trivial⟩
          case measure => simp [intOf]
        | false =>
          have hf : Hid (hasAll hs ps = false) := by show hasAll hs ps = _; rw [hat.out, EH.out, EP.out]; simp [hasAll, e, hb]
          rw [hb] at b6
          clear hat
          go_wp2
          go_ret
          exact ⟨ret_bool hf.out.symm, hB⟩
    · have hx := idxP7 p0 p1 p2 p3 p4 p5 p6 p7
      by_cases e : p7 = 0
      · subst e
        have hn : Hid (hasAll hs ps = hasAll (hs.drop 8) (ps.drop 8)) := by show hasAll hs ps = _; rw [hat.out, EH.out, EP.out]; simp [hasAll]
        clear hat
        go_wp2
        go_roundw
        case rel => exact ⟨8, by omega, by go_num, hn, by first | rfl | trivial⟩
        case measure => simp [intOf]
      · cases hb : h7 with
        | true =>
          have hn : Hid (hasAll hs ps = hasAll (hs.drop 8) (ps.drop 8)) := by show hasAll hs ps = _; rw [hat.out, EH.out, EP.out]; simp [hasAll, hb]
          rw [hb] at b7
          clear hat
          go_wp2
          go_roundw
          case rel => exact ⟨8, by omega, by go_num, hn, by first | rfl | trivial⟩
          case measure => simp [intOf]
        | false =>
          have hf : Hid (hasAll hs ps = false) := by show hasAll hs ps = _; rw [hat.out, EH.out, EP.out]; simp [hasAll, e, hb]
          rw [hb] at b7
          clear hat
          go_wp2
          go_ret
          exact ⟨ret_bool hf.out.symm, hB⟩
    · go_wp2
      go_ret
      exact ⟨ret_bool (by rw [hat.out, EH.out, EP.out]; rfl), hB⟩

/-- The table of tops, as the program lays it. -/
def TopsAt (w : World) : Prop := w.cell? ⟨1, 0, none⟩ = some (.int .i64 5) ∧ w.cell? ⟨1, 1, none⟩ = some (.int .i64 7) ∧ w.cell? ⟨1, 2, none⟩ = some (.int .i64 1073741824) ∧ w.cell? ⟨1, 3, none⟩ = some (.int .i64 1048576) ∧ w.cell? ⟨1, 4, none⟩ = some (.int .i64 1048576) ∧ w.cell? ⟨1, 5, none⟩ = some (.int .i64 1) ∧ w.cell? ⟨1, 6, none⟩ = some (.int .i64 11) ∧ w.cell? ⟨1, 7, none⟩ = some (.int .i64 4)
theorem TopsAt.below {w w' : World} {B : Nat} (h : TopsAt w) (hb : Below B w w') (hB : 1 < B) : TopsAt w' := by
  unfold TopsAt at h ⊢
  simp only [fun i => hb.cell (p := ⟨1, i, none⟩) hB]
  exact h

set_option maxRecDepth 100000 in
set_option maxHeartbeats 1000000 in
theorem inBoundsW_any (s p : Int) (a : Option Addr) (len cap : Nat) (p0 p1 p2 p3 p4 p5 p6 p7 : Int) (w : World) (hl : len ≤ 6) (ht : TopsAt w) (hg : 1 < w.heap.size) :
    Calls Tryz.prog 46 #[.agg #[.int .i64 s, .slice a len cap, .int .i64 p], .agg #[.int .i64 p0, .int .i64 p1, .int .i64 p2, .int .i64 p3, .int .i64 p4, .int .i64 p5, .int .i64 p6, .int .i64 p7]] w
      fun e w' => e = .returned (.bool (partsOK len [p0, p1, p2, p3, p4, p5, p6, p7])) ∧ Below w.heap.size w w' := by
  obtain ⟨W, hW⟩ : ∃ W : World, W = (w.alloc (.cells #[.int .i64 s, .slice a len cap, .int .i64 p] 24)).alloc (.cells #[.int .i64 p0, .int .i64 p1, .int .i64 p2, .int .i64 p3, .int .i64 p4, .int .i64 p5, .int .i64 p6, .int .i64 p7] 103) := ⟨_, rfl⟩
  have hB : Below w.heap.size w W := by rw [hW]; exact ((Below.refl _ _).alloc (Nat.le_refl _) _).alloc (by simp) _
  have zW : W.heap.size = w.heap.size + 2 := by rw [hW]; simp
  have d0 : W.cell? ⟨w.heap.size, 0, none⟩ = some (.int .i64 s) := by rw [hW]; go_simp
  have d1 : W.cell? ⟨w.heap.size, 1, none⟩ = some (.slice a len cap) := by rw [hW]; go_simp
  have d2 : W.cell? ⟨w.heap.size, 2, none⟩ = some (.int .i64 p) := by rw [hW]; go_simp

  have b0 : W.cell? ⟨w.heap.size + 1, 0, none⟩ = some (.int .i64 p0) := by rw [hW]; go_simp
  have b1 : W.cell? ⟨w.heap.size + 1, 1, none⟩ = some (.int .i64 p1) := by rw [hW]; go_simp
  have b2 : W.cell? ⟨w.heap.size + 1, 2, none⟩ = some (.int .i64 p2) := by rw [hW]; go_simp
  have b3 : W.cell? ⟨w.heap.size + 1, 3, none⟩ = some (.int .i64 p3) := by rw [hW]; go_simp
  have b4 : W.cell? ⟨w.heap.size + 1, 4, none⟩ = some (.int .i64 p4) := by rw [hW]; go_simp
  have b5 : W.cell? ⟨w.heap.size + 1, 5, none⟩ = some (.int .i64 p5) := by rw [hW]; go_simp
  have b6 : W.cell? ⟨w.heap.size + 1, 6, none⟩ = some (.int .i64 p6) := by rw [hW]; go_simp
  have b7 : W.cell? ⟨w.heap.size + 1, 7, none⟩ = some (.int .i64 p7) := by rw [hW]; go_simp
  obtain ⟨t0, t1, t2, t3, t4, t5, t6, t7⟩ := (ht.below hB hg : TopsAt W)
  obtain ⟨qs, eqs⟩ : ∃ qs, qs = [p0, p1, p2, p3, p4, p5, p6, p7] := ⟨_, rfl⟩
  rw [← eqs]
  have EP : Hid (qs = [p0, p1, p2, p3, p4, p5, p6, p7]) := eqs
  clear eqs
  go_enter Tryz.func46, Tryz.ntmps46
  go_upto_region 1 with (fail)
  rw [← hW]
  clear hW
  go_wp2
  go_loopw [8] (fun i wr => ∃ k : Nat, k ≤ 8 ∧ i = .int .i64 k ∧ Hid (inTops topL qs = inTops (topL.drop k) (qs.drop k)) ∧ wr = W) (fun i _ => 8 - (intOf i).toNat)
  case atStart => exact ⟨0, by omega, rfl, rfl, rfl⟩
  case round =>
    obtain ⟨k, hk, rfl, hat, rfl⟩ := hrel
    rcases (by omega : k = 0 ∨ k = 1 ∨ k = 2 ∨ k = 3 ∨ k = 4 ∨ k = 5 ∨ k = 6 ∨ k = 7 ∨ k = 8) with rfl | rfl | rfl | rfl | rfl | rfl | rfl | rfl | rfl
    · have hx := idxA0 5 7 1073741824 1048576 1048576 1 11 4
      cases e : inR p0 0 5 with
      | true =>
        have hn : Hid (inTops topL qs = inTops (topL.drop 1) (qs.drop 1)) := by show inTops topL qs = _; rw [hat.out, EP.out]; simp [inTops, topL, e]
        clear hat
        go_wp2_with (go_at_call 41; refine (within_any _ _ _ _).mono ?_; rintro e u1 ⟨rfl, hu1⟩; rw [hu1]; clear hu1)
        go_roundw
        case rel => exact ⟨1, by omega, by go_num, hn, by first | rfl | trivial⟩
        case measure => simp [intOf]
      | false =>
        have hf : Hid (partsOK len qs = false) := by show partsOK len qs = _; unfold partsOK; rw [hat.out, EP.out]; simp [inTops, topL, e]
        clear hat
        go_wp2_with (go_at_call 41; refine (within_any _ _ _ _).mono ?_; rintro e u1 ⟨rfl, hu1⟩; rw [hu1]; clear hu1)
        go_ret
        exact ⟨ret_bool hf.out.symm, hB⟩
    · have hx := idxA1 5 7 1073741824 1048576 1048576 1 11 4
      cases e : inR p1 0 7 with
      | true =>
        have hn : Hid (inTops topL qs = inTops (topL.drop 2) (qs.drop 2)) := by show inTops topL qs = _; rw [hat.out, EP.out]; simp [inTops, topL, e]
        clear hat
        go_wp2_with (go_at_call 41; refine (within_any _ _ _ _).mono ?_; rintro e u1 ⟨rfl, hu1⟩; rw [hu1]; clear hu1)
        go_roundw
        case rel => exact ⟨2, by omega, by go_num, hn, by first | rfl | trivial⟩
        case measure => simp [intOf]
      | false =>
        have hf : Hid (partsOK len qs = false) := by show partsOK len qs = _; unfold partsOK; rw [hat.out, EP.out]; simp [inTops, topL, e]
        clear hat
        go_wp2_with (go_at_call 41; refine (within_any _ _ _ _).mono ?_; rintro e u1 ⟨rfl, hu1⟩; rw [hu1]; clear hu1)
        go_ret
        exact ⟨ret_bool hf.out.symm, hB⟩
    · have hx := idxA2 5 7 1073741824 1048576 1048576 1 11 4
      cases e : inR p2 0 1073741824 with
      | true =>
        have hn : Hid (inTops topL qs = inTops (topL.drop 3) (qs.drop 3)) := by show inTops topL qs = _; rw [hat.out, EP.out]; simp [inTops, topL, e]
        clear hat
        go_wp2_with (go_at_call 41; refine (within_any _ _ _ _).mono ?_; rintro e u1 ⟨rfl, hu1⟩; rw [hu1]; clear hu1)
        go_roundw
        case rel => exact ⟨3, by omega, by go_num, hn, by first | rfl | trivial⟩
        case measure => simp [intOf]
      | false =>
        have hf : Hid (partsOK len qs = false) := by show partsOK len qs = _; unfold partsOK; rw [hat.out, EP.out]; simp [inTops, topL, e]
        clear hat
        go_wp2_with (go_at_call 41; refine (within_any _ _ _ _).mono ?_; rintro e u1 ⟨rfl, hu1⟩; rw [hu1]; clear hu1)
        go_ret
        exact ⟨ret_bool hf.out.symm, hB⟩
    · have hx := idxA3 5 7 1073741824 1048576 1048576 1 11 4
      cases e : inR p3 0 1048576 with
      | true =>
        have hn : Hid (inTops topL qs = inTops (topL.drop 4) (qs.drop 4)) := by show inTops topL qs = _; rw [hat.out, EP.out]; simp [inTops, topL, e]
        clear hat
        go_wp2_with (go_at_call 41; refine (within_any _ _ _ _).mono ?_; rintro e u1 ⟨rfl, hu1⟩; rw [hu1]; clear hu1)
        go_roundw
        case rel => exact ⟨4, by omega, by go_num, hn, by first | rfl | trivial⟩
        case measure => simp [intOf]
      | false =>
        have hf : Hid (partsOK len qs = false) := by show partsOK len qs = _; unfold partsOK; rw [hat.out, EP.out]; simp [inTops, topL, e]
        clear hat
        go_wp2_with (go_at_call 41; refine (within_any _ _ _ _).mono ?_; rintro e u1 ⟨rfl, hu1⟩; rw [hu1]; clear hu1)
        go_ret
        exact ⟨ret_bool hf.out.symm, hB⟩
    · have hx := idxA4 5 7 1073741824 1048576 1048576 1 11 4
      cases e : inR p4 0 1048576 with
      | true =>
        have hn : Hid (inTops topL qs = inTops (topL.drop 5) (qs.drop 5)) := by show inTops topL qs = _; rw [hat.out, EP.out]; simp [inTops, topL, e]
        clear hat
        go_wp2_with (go_at_call 41; refine (within_any _ _ _ _).mono ?_; rintro e u1 ⟨rfl, hu1⟩; rw [hu1]; clear hu1)
        go_roundw
        case rel => exact ⟨5, by omega, by go_num, hn, by first | rfl | trivial⟩
        case measure => simp [intOf]
      | false =>
        have hf : Hid (partsOK len qs = false) := by show partsOK len qs = _; unfold partsOK; rw [hat.out, EP.out]; simp [inTops, topL, e]
        clear hat
        go_wp2_with (go_at_call 41; refine (within_any _ _ _ _).mono ?_; rintro e u1 ⟨rfl, hu1⟩; rw [hu1]; clear hu1)
        go_ret
        exact ⟨ret_bool hf.out.symm, hB⟩
    · have hx := idxA5 5 7 1073741824 1048576 1048576 1 11 4
      cases e : inR p5 0 1 with
      | true =>
        have hn : Hid (inTops topL qs = inTops (topL.drop 6) (qs.drop 6)) := by show inTops topL qs = _; rw [hat.out, EP.out]; simp [inTops, topL, e]
        clear hat
        go_wp2_with (go_at_call 41; refine (within_any _ _ _ _).mono ?_; rintro e u1 ⟨rfl, hu1⟩; rw [hu1]; clear hu1)
        go_roundw
        case rel => exact ⟨6, by omega, by go_num, hn, by first | rfl | trivial⟩
        case measure => simp [intOf]
      | false =>
        have hf : Hid (partsOK len qs = false) := by show partsOK len qs = _; unfold partsOK; rw [hat.out, EP.out]; simp [inTops, topL, e]
        clear hat
        go_wp2_with (go_at_call 41; refine (within_any _ _ _ _).mono ?_; rintro e u1 ⟨rfl, hu1⟩; rw [hu1]; clear hu1)
        go_ret
        exact ⟨ret_bool hf.out.symm, hB⟩
    · have hx := idxA6 5 7 1073741824 1048576 1048576 1 11 4
      cases e : inR p6 0 11 with
      | true =>
        have hn : Hid (inTops topL qs = inTops (topL.drop 7) (qs.drop 7)) := by show inTops topL qs = _; rw [hat.out, EP.out]; simp [inTops, topL, e]
        clear hat
        go_wp2_with (go_at_call 41; refine (within_any _ _ _ _).mono ?_; rintro e u1 ⟨rfl, hu1⟩; rw [hu1]; clear hu1)
        go_roundw
        case rel => exact ⟨7, by omega, by go_num, hn, by first | rfl | trivial⟩
        case measure => simp [intOf]
      | false =>
        have hf : Hid (partsOK len qs = false) := by show partsOK len qs = _; unfold partsOK; rw [hat.out, EP.out]; simp [inTops, topL, e]
        clear hat
        go_wp2_with (go_at_call 41; refine (within_any _ _ _ _).mono ?_; rintro e u1 ⟨rfl, hu1⟩; rw [hu1]; clear hu1)
        go_ret
        exact ⟨ret_bool hf.out.symm, hB⟩
    · have hx := idxA7 5 7 1073741824 1048576 1048576 1 11 4
      cases e : inR p7 0 4 with
      | true =>
        have hn : Hid (inTops topL qs = inTops (topL.drop 8) (qs.drop 8)) := by show inTops topL qs = _; rw [hat.out, EP.out]; simp [inTops, topL, e]
        clear hat
        go_wp2_with (go_at_call 41; refine (within_any _ _ _ _).mono ?_; rintro e u1 ⟨rfl, hu1⟩; rw [hu1]; clear hu1)
        go_roundw
        case rel => exact ⟨8, by omega, by go_num, hn, by first | rfl | trivial⟩
        case measure => simp [intOf]
      | false =>
        have hf : Hid (partsOK len qs = false) := by show partsOK len qs = _; unfold partsOK; rw [hat.out, EP.out]; simp [inTops, topL, e]
        clear hat
        go_wp2_with (go_at_call 41; refine (within_any _ _ _ _).mono ?_; rintro e u1 ⟨rfl, hu1⟩; rw [hu1]; clear hu1)
        go_ret
        exact ⟨ret_bool hf.out.symm, hB⟩
    · have hT : inTops topL qs = true := by rw [hat.out, EP.out]; rfl
      have hP : Hid (partsOK len qs = (plc p0 len && isCd p6)) := by show partsOK len qs = _; unfold partsOK; rw [hT, EP.out]; simp
      clear hat hT
      cases e : plc p0 len with
      | true =>
        go_wp2_with (first
          | (go_at_call 60; refine (place_any s p a len cap p0 _ hl).mono ?_; rintro e u1 ⟨rfl, hu1⟩; obtain ⟨hc1, hf1⟩ := bcell hu1)
          | (go_at_call 61; refine (isCode_any _ _).mono ?_; rintro e u2 ⟨rfl, hu2⟩; rw [hu2]; clear hu2))
        go_ret
        exact ⟨ret_bool (by rw [hP.out, e]; simp), hB.trans (hu1.mono hB.size)⟩
      | false =>
        go_wp2_with (go_at_call 60; refine (place_any s p a len cap p0 _ hl).mono ?_; rintro e u1 ⟨rfl, hu1⟩)
        go_ret
        exact ⟨ret_bool (by rw [hP.out, e]; simp), hB.trans (hu1.mono hB.size)⟩
end Go.Proofs.YtekglahigjblkaaGreatDoor
/- The contract of wire.CheckMessage: at every config and message it returns the fault that msgFault tells, and leaves what was in memory. -/
namespace Go.Proofs.YtekglahigjblkaaGreatDoor
open Go.ChangeShapes Go.WideShapes Go.ChangeAt Go.RowKit
set_option linter.unusedVariables false

/-- A table of which kind has which parts, as the program lays it. -/
def HasAt (w : World) (g : Nat) (t : List (List Bool)) : Prop := ∀ i j, i < t.length → j < 8 → w.cell? ⟨g, i * 8 + j, none⟩ = some (.bool ((t.getD i []).getD j false))
theorem HasAt.below {w w' : World} {B g : Nat} {t : List (List Bool)} (h : HasAt w g t) (hb : Below B w w') (hB : g < B) : HasAt w' g t := by
  intro i j hi hj
  rw [hb.cell (p := ⟨g, i * 8 + j, none⟩) hB]
  exact h i j hi hj

theorem HasAt.lt {w : World} {g : Nat} {t : List (List Bool)} (h : HasAt w g t) (ht : 0 < t.length) : g < w.heap.size := World.block_lt_of_cell? w _ (h 0 0 ht (by decide))

theorem mHas_eight (k : Nat) (hk : k < 10) : mHas.getD k [] = [(mHas.getD k []).getD 0 false, (mHas.getD k []).getD 1 false, (mHas.getD k []).getD 2 false, (mHas.getD k []).getD 3 false, (mHas.getD k []).getD 4 false, (mHas.getD k []).getD 5 false, (mHas.getD k []).getD 6 false, (mHas.getD k []).getD 7 false] := by
  rcases (by omega : k = 0 ∨ k = 1 ∨ k = 2 ∨ k = 3 ∨ k = 4 ∨ k = 5 ∨ k = 6 ∨ k = 7 ∨ k = 8 ∨ k = 9) with rfl | rfl | rfl | rfl | rfl | rfl | rfl | rfl | rfl | rfl <;> rfl

end Go.Proofs.YtekglahigjblkaaGreatDoor
