/- Texts of this claim, one behind the other. -/
import Derived.Test.YtflfcjbgkpfgkaaDoorM11TapeRecovers
import Derived.Deep.QuietTactic
import Derived.BigQuiet
import Derived.BigRegion
import Derived.LoopTactic
import Derived.RegionTactic
import Derived.Deep.RegionWith
import Derived.Deep.RegionHeld3
import Derived.WalkSmall
import Derived.Deep.Cut
import Derived.Test.YtflfcjbgkpfgkaaDoorM8TapeRecovers
import Derived.Test.YtflfcjbgkpfgkaaDoorM4TapeRecovers
/- The contract of wire's messageParts: parts of a message as eight numbers. -/
namespace Go.Proofs.YtflfcjbgkpfgkaaDoor
open Go.ChangeShapes Go.WideShapes Go.ChangeAt Go.RowKit

theorem idxP0 (v0 v1 v2 v3 v4 v5 v6 v7 : Int) (w : World) : (Instr.index 92 (.agg #[.int .i64 v0, .int .i64 v1, .int .i64 v2, .int .i64 v3, .int .i64 v4, .int .i64 v5, .int .i64 v6, .int .i64 v7]) (.int .i64 0)).run Tryd.prog w = .ok (.int .i64 v0) w := by kernel_rfl
theorem idxP1 (v0 v1 v2 v3 v4 v5 v6 v7 : Int) (w : World) : (Instr.index 92 (.agg #[.int .i64 v0, .int .i64 v1, .int .i64 v2, .int .i64 v3, .int .i64 v4, .int .i64 v5, .int .i64 v6, .int .i64 v7]) (.int .i64 1)).run Tryd.prog w = .ok (.int .i64 v1) w := by kernel_rfl
theorem idxP2 (v0 v1 v2 v3 v4 v5 v6 v7 : Int) (w : World) : (Instr.index 92 (.agg #[.int .i64 v0, .int .i64 v1, .int .i64 v2, .int .i64 v3, .int .i64 v4, .int .i64 v5, .int .i64 v6, .int .i64 v7]) (.int .i64 2)).run Tryd.prog w = .ok (.int .i64 v2) w := by kernel_rfl
theorem idxP3 (v0 v1 v2 v3 v4 v5 v6 v7 : Int) (w : World) : (Instr.index 92 (.agg #[.int .i64 v0, .int .i64 v1, .int .i64 v2, .int .i64 v3, .int .i64 v4, .int .i64 v5, .int .i64 v6, .int .i64 v7]) (.int .i64 3)).run Tryd.prog w = .ok (.int .i64 v3) w := by kernel_rfl
theorem idxP4 (v0 v1 v2 v3 v4 v5 v6 v7 : Int) (w : World) : (Instr.index 92 (.agg #[.int .i64 v0, .int .i64 v1, .int .i64 v2, .int .i64 v3, .int .i64 v4, .int .i64 v5, .int .i64 v6, .int .i64 v7]) (.int .i64 4)).run Tryd.prog w = .ok (.int .i64 v4) w := by kernel_rfl
theorem idxP5 (v0 v1 v2 v3 v4 v5 v6 v7 : Int) (w : World) : (Instr.index 92 (.agg #[.int .i64 v0, .int .i64 v1, .int .i64 v2, .int .i64 v3, .int .i64 v4, .int .i64 v5, .int .i64 v6, .int .i64 v7]) (.int .i64 5)).run Tryd.prog w = .ok (.int .i64 v5) w := by kernel_rfl
theorem idxP6 (v0 v1 v2 v3 v4 v5 v6 v7 : Int) (w : World) : (Instr.index 92 (.agg #[.int .i64 v0, .int .i64 v1, .int .i64 v2, .int .i64 v3, .int .i64 v4, .int .i64 v5, .int .i64 v6, .int .i64 v7]) (.int .i64 6)).run Tryd.prog w = .ok (.int .i64 v6) w := by kernel_rfl
theorem idxP7 (v0 v1 v2 v3 v4 v5 v6 v7 : Int) (w : World) : (Instr.index 92 (.agg #[.int .i64 v0, .int .i64 v1, .int .i64 v2, .int .i64 v3, .int .i64 v4, .int .i64 v5, .int .i64 v6, .int .i64 v7]) (.int .i64 7)).run Tryd.prog w = .ok (.int .i64 v7) w := by kernel_rfl
theorem idxA0 (v0 v1 v2 v3 v4 v5 v6 v7 : Int) (w : World) : (Instr.index 91 (.agg #[.int .i64 v0, .int .i64 v1, .int .i64 v2, .int .i64 v3, .int .i64 v4, .int .i64 v5, .int .i64 v6, .int .i64 v7]) (.int .i64 0)).run Tryd.prog w = .ok (.int .i64 v0) w := by kernel_rfl
theorem idxA1 (v0 v1 v2 v3 v4 v5 v6 v7 : Int) (w : World) : (Instr.index 91 (.agg #[.int .i64 v0, .int .i64 v1, .int .i64 v2, .int .i64 v3, .int .i64 v4, .int .i64 v5, .int .i64 v6, .int .i64 v7]) (.int .i64 1)).run Tryd.prog w = .ok (.int .i64 v1) w := by kernel_rfl
theorem idxA2 (v0 v1 v2 v3 v4 v5 v6 v7 : Int) (w : World) : (Instr.index 91 (.agg #[.int .i64 v0, .int .i64 v1, .int .i64 v2, .int .i64 v3, .int .i64 v4, .int .i64 v5, .int .i64 v6, .int .i64 v7]) (.int .i64 2)).run Tryd.prog w = .ok (.int .i64 v2) w := by kernel_rfl
theorem idxA3 (v0 v1 v2 v3 v4 v5 v6 v7 : Int) (w : World) : (Instr.index 91 (.agg #[.int .i64 v0, .int .i64 v1, .int .i64 v2, .int .i64 v3, .int .i64 v4, .int .i64 v5, .int .i64 v6, .int .i64 v7]) (.int .i64 3)).run Tryd.prog w = .ok (.int .i64 v3) w := by kernel_rfl
theorem idxA4 (v0 v1 v2 v3 v4 v5 v6 v7 : Int) (w : World) : (Instr.index 91 (.agg #[.int .i64 v0, .int .i64 v1, .int .i64 v2, .int .i64 v3, .int .i64 v4, .int .i64 v5, .int .i64 v6, .int .i64 v7]) (.int .i64 4)).run Tryd.prog w = .ok (.int .i64 v4) w := by kernel_rfl
theorem idxA5 (v0 v1 v2 v3 v4 v5 v6 v7 : Int) (w : World) : (Instr.index 91 (.agg #[.int .i64 v0, .int .i64 v1, .int .i64 v2, .int .i64 v3, .int .i64 v4, .int .i64 v5, .int .i64 v6, .int .i64 v7]) (.int .i64 5)).run Tryd.prog w = .ok (.int .i64 v5) w := by kernel_rfl
theorem idxA6 (v0 v1 v2 v3 v4 v5 v6 v7 : Int) (w : World) : (Instr.index 91 (.agg #[.int .i64 v0, .int .i64 v1, .int .i64 v2, .int .i64 v3, .int .i64 v4, .int .i64 v5, .int .i64 v6, .int .i64 v7]) (.int .i64 6)).run Tryd.prog w = .ok (.int .i64 v6) w := by kernel_rfl
theorem idxA7 (v0 v1 v2 v3 v4 v5 v6 v7 : Int) (w : World) : (Instr.index 91 (.agg #[.int .i64 v0, .int .i64 v1, .int .i64 v2, .int .i64 v3, .int .i64 v4, .int .i64 v5, .int .i64 v6, .int .i64 v7]) (.int .i64 7)).run Tryd.prog w = .ok (.int .i64 v7) w := by kernel_rfl

theorem messageParts_any (m : MV) (w : World) :
    Calls Tryd.prog 52 #[m.val] w fun e w' => e = .returned (.agg #[.int .i64 m.label, .int .i64 m.key, .int .i64 m.value, .int .i64 m.version, .int .i64 m.ask, .int .i64 (bit m.yes), .int .i64 m.code, .int .i64 0]) ∧ Below w.heap.size w w' := by
  obtain ⟨kind, frm, dst, site, num, label, key, value, version, ask, yes, code⟩ := m
  simp only [MV.val]
  obtain ⟨W, hW⟩ : ∃ W : World, W = (w.alloc (.cells #[.int .i64 kind, .int .i64 frm, .int .i64 dst, .int .i64 site, .int .i64 num, .int .i64 label, .int .i64 key, .int .i64 value, .int .i64 version, .int .i64 ask, .bool yes, .int .i64 code] 30)).alloc (.cells #[.int .i64 0, .int .i64 0, .int .i64 0, .int .i64 0, .int .i64 0, .int .i64 0, .int .i64 0, .int .i64 0] 92) := ⟨_, rfl⟩
  have d4 : W.cell? ⟨w.heap.size, 5, none⟩ = some (.int .i64 label) := by rw [hW]; go_simp
  have d5 : W.cell? ⟨w.heap.size, 6, none⟩ = some (.int .i64 key) := by rw [hW]; go_simp
  have d6 : W.cell? ⟨w.heap.size, 7, none⟩ = some (.int .i64 value) := by rw [hW]; go_simp
  have d7 : W.cell? ⟨w.heap.size, 8, none⟩ = some (.int .i64 version) := by rw [hW]; go_simp
  have d8 : W.cell? ⟨w.heap.size, 9, none⟩ = some (.int .i64 ask) := by rw [hW]; go_simp
  have d9 : W.cell? ⟨w.heap.size, 10, none⟩ = some (.bool yes) := by rw [hW]; go_simp
  have d10 : W.cell? ⟨w.heap.size, 11, none⟩ = some (.int .i64 code) := by rw [hW]; go_simp
  go_enter Tryd.func52, Tryd.ntmps52
  go_wp2
  rw [← hW]
  go_region_held3 (fun w' => w'.cell? ⟨w.heap.size, 5, none⟩ = some (.int .i64 label) ∧ w'.cell? ⟨w.heap.size, 6, none⟩ = some (.int .i64 key) ∧ w'.cell? ⟨w.heap.size, 7, none⟩ = some (.int .i64 value) ∧ w'.cell? ⟨w.heap.size, 8, none⟩ = some (.int .i64 version) ∧ w'.cell? ⟨w.heap.size, 9, none⟩ = some (.int .i64 ask) ∧ w'.cell? ⟨w.heap.size, 10, none⟩ = some (.bool yes) ∧ w'.cell? ⟨w.heap.size, 11, none⟩ = some (.int .i64 code))
     (go_keep)
     ((go_at_call 69; refine (truth_any _ _).mono ?_; rintro e u1 ⟨rfl, rfl⟩))
  all_goals
    go_wp2
    refine bodyPost_ret (v := .agg #[.int .i64 label, .int .i64 key, .int .i64 value, .int .i64 version, .int .i64 ask, .int .i64 (bit yes), .int .i64 code, .int .i64 0]) (by simp [results, Tryd.results52, go_sem]) rfl ⟨rfl, ?_⟩
    exact (((Below.refl _ _).alloc (Nat.le_refl _) _).alloc (by simp) _).drew

set_option maxRecDepth 100000 in
set_option maxHeartbeats 1000000 in
/-- Whether all that is not 0 is among what there is. -/
theorem hasAll_any (h0 h1 h2 h3 h4 h5 h6 h7 : Bool) (p0 p1 p2 p3 p4 p5 p6 p7 : Int) (w : World) :
    Calls Tryd.prog 56 #[.agg #[.bool h0, .bool h1, .bool h2, .bool h3, .bool h4, .bool h5, .bool h6, .bool h7], .agg #[.int .i64 p0, .int .i64 p1, .int .i64 p2, .int .i64 p3, .int .i64 p4, .int .i64 p5, .int .i64 p6, .int .i64 p7]] w
      fun e w' => e = .returned (.bool (hasAll [h0, h1, h2, h3, h4, h5, h6, h7] [p0, p1, p2, p3, p4, p5, p6, p7])) ∧ Below w.heap.size w w' := by
  obtain ⟨W, hW⟩ : ∃ W : World, W = (w.alloc (.cells #[.bool h0, .bool h1, .bool h2, .bool h3, .bool h4, .bool h5, .bool h6, .bool h7] 95)).alloc (.cells #[.int .i64 p0, .int .i64 p1, .int .i64 p2, .int .i64 p3, .int .i64 p4, .int .i64 p5, .int .i64 p6, .int .i64 p7] 92) := ⟨_, rfl⟩
  have hB : Below w.heap.size w W := by rw [hW]; exact ((Below.refl _ _).alloc (Nat.le_refl _) _).alloc (by simp) _
  have b0 : W.cell? ⟨w.heap.size, 0, none⟩ = some (.bool h0) := by rw [hW]; go_simp
  have b1 : W.cell? ⟨w.heap.size, 1, none⟩ = some (.bool h1) := by rw [hW]; go_simp
  have b2 : W.cell? ⟨w.heap.size, 2, none⟩ = some (.bool h2) := by rw [hW]; go_simp
  have b3 : W.cell? ⟨w.heap.size, 3, none⟩ = some (.bool h3) := by rw [hW]; go_simp
  have b4 : W.cell? ⟨w.heap.size, 4, none⟩ = some (.bool h4) := by rw [hW]; go_simp
  have b5 : W.cell? ⟨w.heap.size, 5, none⟩ = some (.bool h5) := by rw [hW]; go_simp
  have b6 : W.cell? ⟨w.heap.size, 6, none⟩ = some (.bool h6) := by rw [hW]; go_simp
  have b7 : W.cell? ⟨w.heap.size, 7, none⟩ = some (.bool h7) := by rw [hW]; go_simp
  obtain ⟨hs, ehs⟩ : ∃ hs, hs = [h0, h1, h2, h3, h4, h5, h6, h7] := ⟨_, rfl⟩
  obtain ⟨ps, eps⟩ : ∃ ps, ps = [p0, p1, p2, p3, p4, p5, p6, p7] := ⟨_, rfl⟩
  rw [← ehs, ← eps]
  have EH : Hid (hs = [h0, h1, h2, h3, h4, h5, h6, h7]) := ehs
  have EP : Hid (ps = [p0, p1, p2, p3, p4, p5, p6, p7]) := eps
  clear ehs eps
  go_enter Tryd.func56, Tryd.ntmps56
  go_wp2
  rw [← hW]
  clear hW
  go_loopw [8] (fun i wr => ∃ k : Nat, k ≤ 8 ∧ i = .int .i64 k ∧ Hid (hasAll hs ps = hasAll (hs.drop k) (ps.drop k)) ∧ wr = W) (fun i _ => 8 - (intOf i).toNat)
  case atStart => exact ⟨0, by omega, rfl, rfl, rfl⟩
  case round =>
    obtain ⟨k, hk, rfl, hat, rfl⟩ := hrel
    rcases (by omega : k = 0 ∨ k = 1 ∨ k = 2 ∨ k = 3 ∨ k = 4 ∨ k = 5 ∨ k = 6 ∨ k = 7 ∨ k = 8) with rfl | rfl | rfl | rfl | rfl | rfl | rfl | rfl | rfl
    · have hx := idxP0 p0 p1 p2 p3 p4 p5 p6 p7
      by_cases e : p0 = 0
      · subst e
        have hn : Hid (hasAll hs ps = hasAll (hs.drop 1) (ps.drop 1)) := by show hasAll hs ps = _; rw [hat.out, EH.out, EP.out]; simp [hasAll]
        clear hat
        go_wp2
        go_roundw
        case rel => exact ⟨1, by omega, by go_num, hn, by first | rfl | trivial⟩
        case measure => simp [intOf]
      · cases hb : h0 with
        | true =>
          have hn : Hid (hasAll hs ps = hasAll (hs.drop 1) (ps.drop 1)) := by show hasAll hs ps = _; rw [hat.out, EH.out, EP.out]; simp [hasAll, hb]
          rw [hb] at b0
          clear hat
          go_wp2
          go_roundw
          case rel => exact ⟨1, by omega, by go_num, hn, by first | rfl | trivial⟩
          case measure => simp [intOf]
        | false =>
          have hf : Hid (hasAll hs ps = false) := by show hasAll hs ps = _; rw [hat.out, EH.out, EP.out]; simp [hasAll, e, hb]
          rw [hb] at b0
          clear hat
          go_wp2
          go_ret
          exact ⟨ret_bool hf.out.symm, hB⟩
    · have hx := idxP1 p0 p1 p2 p3 p4 p5 p6 p7
      by_cases e : p1 = 0
      · subst e
        have hn : Hid (hasAll hs ps = hasAll (hs.drop 2) (ps.drop 2)) := by show hasAll hs ps = _; rw [hat.out, EH.out, EP.out]; simp [hasAll]
        clear hat
        go_wp2
        go_roundw
        case rel => exact ⟨2, by omega, by go_num, hn, by first | rfl | trivial⟩
        case measure => simp [intOf]
      · cases hb : h1 with
        | true =>
          have hn : Hid (hasAll hs ps = hasAll (hs.drop 2) (ps.drop 2)) := by show hasAll hs ps = _; rw [hat.out, EH.out, EP.out]; simp [hasAll, hb]
          rw [hb] at b1
          clear hat
          go_wp2
          go_roundw
          case rel => exact ⟨2, by omega, by go_num, hn, by first | rfl | trivial⟩
          case measure => simp [intOf]
        | false =>
          have hf : Hid (hasAll hs ps = false) := by show hasAll hs ps = _; rw [hat.out, EH.out, EP.out]; simp [hasAll, e, hb]
          rw [hb] at b1
          clear hat
          go_wp2
          go_ret
          exact ⟨ret_bool hf.out.symm, hB⟩
    · have hx := idxP2 p0 p1 p2 p3 p4 p5 p6 p7
      by_cases e : p2 = 0
      · subst e
        have hn : Hid (hasAll hs ps = hasAll (hs.drop 3) (ps.drop 3)) := by show hasAll hs ps = _; rw [hat.out, EH.out, EP.out]; simp [hasAll]
        clear hat
        go_wp2
        go_roundw
        case rel => exact ⟨3, by omega, by go_num, hn, by first | rfl | trivial⟩
        case measure => simp [intOf]
      · cases hb : h2 with
        | true =>
          have hn : Hid (hasAll hs ps = hasAll (hs.drop 3) (ps.drop 3)) := by show hasAll hs ps = _; rw [hat.out, EH.out, EP.out]; simp [hasAll, hb]
          rw [hb] at b2
          clear hat
          go_wp2
          go_roundw
          case rel => exact ⟨3, by omega, by go_num, hn, by first | rfl | trivial⟩
          case measure => simp [intOf]
        | false =>
          have hf : Hid (hasAll hs ps = false) := by show hasAll hs ps = _; rw [hat.out, EH.out, EP.out]; simp [hasAll, e, hb]
          rw [hb] at b2
          clear hat
          go_wp2
          go_ret
          exact ⟨ret_bool hf.out.symm, hB⟩
    · have hx := idxP3 p0 p1 p2 p3 p4 p5 p6 p7
      by_cases e : p3 = 0
      · subst e
        have hn : Hid (hasAll hs ps = hasAll (hs.drop 4) (ps.drop 4)) := by show hasAll hs ps = _; rw [hat.out, EH.out, EP.out]; simp [hasAll]
        clear hat
        go_wp2
        go_roundw
        case rel => exact ⟨4, by omega, by go_num, hn, by first | rfl | trivial⟩
        case measure => simp [intOf]
      · cases hb : h3 with
        | true =>
          have hn : Hid (hasAll hs ps = hasAll (hs.drop 4) (ps.drop 4)) := by show hasAll hs ps = _; rw [hat.out, EH.out, EP.out]; simp [hasAll, hb]
          rw [hb] at b3
          clear hat
          go_wp2
          go_roundw
          case rel => exact ⟨4, by omega, by go_num, hn, by first | rfl | trivial⟩
          case measure => simp [intOf]
        | false =>
          have hf : Hid (hasAll hs ps = false) := by show hasAll hs ps = _; rw [hat.out, EH.out, EP.out]; simp [hasAll, e, hb]
          rw [hb] at b3
          clear hat
          go_wp2
          go_ret
          exact ⟨ret_bool hf.out.symm, hB⟩
    · have hx := idxP4 p0 p1 p2 p3 p4 p5 p6 p7
      by_cases e : p4 = 0
      · subst e
        have hn : Hid (hasAll hs ps = hasAll (hs.drop 5) (ps.drop 5)) := by show hasAll hs ps = _; rw [hat.out, EH.out, EP.out]; simp [hasAll]
        clear hat
        go_wp2
        go_roundw
        case rel => exact ⟨5, by omega, by go_num, hn, by first | rfl | trivial⟩
        case measure => simp [intOf]
      · cases hb : h4 with
        | true =>
          have hn : Hid (hasAll hs ps = hasAll (hs.drop 5) (ps.drop 5)) := by show hasAll hs ps = _; rw [hat.out, EH.out, EP.out]; simp [hasAll, hb]
          rw [hb] at b4
          clear hat
          go_wp2
          go_roundw
          case rel => exact ⟨5, by omega, by go_num, hn, by first | rfl | trivial⟩
          case measure => simp [intOf]
        | false =>
          have hf : Hid (hasAll hs ps = false) := by show hasAll hs ps = _; rw [hat.out, EH.out, EP.out]; simp [hasAll, e, hb]
          rw [hb] at b4
          clear hat
          go_wp2
          go_ret
          exact ⟨ret_bool hf.out.symm, hB⟩
    · have hx := idxP5 p0 p1 p2 p3 p4 p5 p6 p7
      by_cases e : p5 = 0
      · subst e
        have hn : Hid (hasAll hs ps = hasAll (hs.drop 6) (ps.drop 6)) := by show hasAll hs ps = _; rw [hat.out, EH.out, EP.out]; simp [hasAll]
        clear hat
        go_wp2
        go_roundw
        case rel => exact ⟨6, by omega, by go_num, hn, by first | rfl | trivial⟩
        case measure => simp [intOf]
      · cases hb : h5 with
        | true =>
          have hn : Hid (hasAll hs ps = hasAll (hs.drop 6) (ps.drop 6)) := by show hasAll hs ps = _; rw [hat.out, EH.out, EP.out]; simp [hasAll, hb]
          rw [hb] at b5
          clear hat
          go_wp2
          go_roundw
          case rel => exact ⟨6, by omega, by go_num, hn, by first | rfl | trivial⟩
          case measure => simp [intOf]
        | false =>
          have hf : Hid (hasAll hs ps = false) := by show hasAll hs ps = _; rw [hat.out, EH.out, EP.out]; simp [hasAll, e, hb]
          rw [hb] at b5
          clear hat
          go_wp2
          go_ret
          exact ⟨ret_bool hf.out.symm, hB⟩
    · have hx := idxP6 p0 p1 p2 p3 p4 p5 p6 p7
      by_cases e : p6 = 0
      · subst e
        have hn : Hid (hasAll hs ps = hasAll (hs.drop 7) (ps.drop 7)) := by show hasAll hs ps = _; rw [hat.out, EH.out, EP.out]; simp [hasAll]
        clear hat
        go_wp2
        go_roundw
        case rel => exact ⟨7, by omega, by go_num, hn, by first | rfl | trivial⟩
        case measure => simp [intOf]
      · cases hb : h6 with
        | true =>
          have hn : Hid (hasAll hs ps = hasAll (hs.drop 7) (ps.drop 7)) := by show hasAll hs ps = _; rw [hat.out, EH.out, EP.out]; simp [hasAll, hb]
          rw [hb] at b6
          clear hat
          go_wp2
          go_roundw
          case rel => exact ⟨7, by omega, by go_num, hn, by first | rfl | trivial⟩
          case measure => simp [intOf]
        | false =>
          have hf : Hid (hasAll hs ps = false) := by show hasAll hs ps = _; rw [hat.out, EH.out, EP.out]; simp [hasAll, e, hb]
          rw [hb] at b6
          clear hat
          go_wp2
          go_ret
          exact ⟨ret_bool hf.out.symm, hB⟩
    · have hx := idxP7 p0 p1 p2 p3 p4 p5 p6 p7
      by_cases e : p7 = 0
      · subst e
        have hn : Hid (hasAll hs ps = hasAll (hs.drop 8) (ps.drop 8)) := by show hasAll hs ps = _; rw [hat.out, EH.out, EP.out]; simp [hasAll]
        clear hat
        go_wp2
        go_roundw
        case rel => exact ⟨8, by omega, by go_num, hn, by first | rfl | trivial⟩
        case measure => simp [intOf]
      · cases hb : h7 with
        | true =>
          have hn : Hid (hasAll hs ps = hasAll (hs.drop 8) (ps.drop 8)) := by show hasAll hs ps = _; rw [hat.out, EH.out, EP.out]; simp [hasAll, hb]
          rw [hb] at b7
          clear hat
          go_wp2
          go_roundw
          case rel => exact ⟨8, by omega, by go_num, hn, by first | rfl | trivial⟩
          case measure => simp [intOf]
        | false =>
          have hf : Hid (hasAll hs ps = false) := by show hasAll hs ps = _; rw [hat.out, EH.out, EP.out]; simp [hasAll, e, hb]
          rw [hb] at b7
          clear hat
          go_wp2
          go_ret
          exact ⟨ret_bool hf.out.symm, hB⟩
    · go_wp2
      go_ret
      exact ⟨ret_bool (by rw [hat.out, EH.out, EP.out]; rfl), hB⟩

/-- The table of tops, as the program lays it. -/
def TopsAt (w : World) : Prop := w.cell? ⟨3, 0, none⟩ = some (.int .i64 5) ∧ w.cell? ⟨3, 1, none⟩ = some (.int .i64 7) ∧ w.cell? ⟨3, 2, none⟩ = some (.int .i64 1073741824) ∧ w.cell? ⟨3, 3, none⟩ = some (.int .i64 1048576) ∧ w.cell? ⟨3, 4, none⟩ = some (.int .i64 1048576) ∧ w.cell? ⟨3, 5, none⟩ = some (.int .i64 1) ∧ w.cell? ⟨3, 6, none⟩ = some (.int .i64 11) ∧ w.cell? ⟨3, 7, none⟩ = some (.int .i64 4)
theorem TopsAt.below {w w' : World} {B : Nat} (h : TopsAt w) (hb : Below B w w') (hB : 3 < B) : TopsAt w' := by
  unfold TopsAt at h ⊢
  simp only [fun i => hb.cell (p := ⟨3, i, none⟩) hB]
  exact h

set_option maxRecDepth 100000 in
set_option maxHeartbeats 1000000 in
theorem inBoundsW_any (s p : Int) (a : Option Addr) (len cap : Nat) (p0 p1 p2 p3 p4 p5 p6 p7 : Int) (w : World) (hl : len ≤ 6) (ht : TopsAt w) (hg : 3 < w.heap.size) :
    Calls Tryd.prog 55 #[.agg #[.int .i64 s, .slice a len cap, .int .i64 p], .agg #[.int .i64 p0, .int .i64 p1, .int .i64 p2, .int .i64 p3, .int .i64 p4, .int .i64 p5, .int .i64 p6, .int .i64 p7]] w
      fun e w' => e = .returned (.bool (partsOK len [p0, p1, p2, p3, p4, p5, p6, p7])) ∧ Below w.heap.size w w' := by
  obtain ⟨W, hW⟩ : ∃ W : World, W = (w.alloc (.cells #[.int .i64 s, .slice a len cap, .int .i64 p] 24)).alloc (.cells #[.int .i64 p0, .int .i64 p1, .int .i64 p2, .int .i64 p3, .int .i64 p4, .int .i64 p5, .int .i64 p6, .int .i64 p7] 92) := ⟨_, rfl⟩
  have hB : Below w.heap.size w W := by rw [hW]; exact ((Below.refl _ _).alloc (Nat.le_refl _) _).alloc (by simp) _
  have zW : W.heap.size = w.heap.size + 2 := by rw [hW]; simp
  have d0 : W.cell? ⟨w.heap.size, 0, none⟩ = some (.int .i64 s) := by rw [hW]; go_simp
  have d1 : W.cell? ⟨w.heap.size, 1, none⟩ = some (.slice a len cap) := by rw [hW]; go_simp
  have d2 : W.cell? ⟨w.heap.size, 2, none⟩ = some (.int .i64 p) := by rw [hW]; go_simp

  have b0 : W.cell? ⟨w.heap.size + 1, 0, none⟩ = some (.int .i64 p0) := by rw [hW]; go_simp
  have b1 : W.cell? ⟨w.heap.size + 1, 1, none⟩ = some (.int .i64 p1) := by rw [hW]; go_simp
  have b2 : W.cell? ⟨w.heap.size + 1, 2, none⟩ = some (.int .i64 p2) := by rw [hW]; go_simp
  have b3 : W.cell? ⟨w.heap.size + 1, 3, none⟩ = some (.int .i64 p3) := by rw [hW]; go_simp
  have b4 : W.cell? ⟨w.heap.size + 1, 4, none⟩ = some (.int .i64 p4) := by rw [hW]; go_simp
  have b5 : W.cell? ⟨w.heap.size + 1, 5, none⟩ = some (.int .i64 p5) := by rw [hW]; go_simp
  have b6 : W.cell? ⟨w.heap.size + 1, 6, none⟩ = some (.int .i64 p6) := by rw [hW]; go_simp
  have b7 : W.cell? ⟨w.heap.size + 1, 7, none⟩ = some (.int .i64 p7) := by rw [hW]; go_simp
  obtain ⟨t0, t1, t2, t3, t4, t5, t6, t7⟩ := (ht.below hB hg : TopsAt W)
  obtain ⟨qs, eqs⟩ : ∃ qs, qs = [p0, p1, p2, p3, p4, p5, p6, p7] := ⟨_, rfl⟩
  rw [← eqs]
  have EP : Hid (qs = [p0, p1, p2, p3, p4, p5, p6, p7]) := eqs
  clear eqs
  go_enter Tryd.func55, Tryd.ntmps55
  go_upto_region 1 with (fail)
  rw [← hW]
  clear hW
  go_wp2
  go_loopw [8] (fun i wr => ∃ k : Nat, k ≤ 8 ∧ i = .int .i64 k ∧ Hid (inTops topL qs = inTops (topL.drop k) (qs.drop k)) ∧ wr = W) (fun i _ => 8 - (intOf i).toNat)
  case atStart => exact ⟨0, by omega, rfl, rfl, rfl⟩
  case round =>
    obtain ⟨k, hk, rfl, hat, rfl⟩ := hrel
    rcases (by omega : k = 0 ∨ k = 1 ∨ k = 2 ∨ k = 3 ∨ k = 4 ∨ k = 5 ∨ k = 6 ∨ k = 7 ∨ k = 8) with rfl | rfl | rfl | rfl | rfl | rfl | rfl | rfl | rfl
    · have hx := idxA0 5 7 1073741824 1048576 1048576 1 11 4
      cases e : inR p0 0 5 with
      | true =>
        have hn : Hid (inTops topL qs = inTops (topL.drop 1) (qs.drop 1)) := by show inTops topL qs = _; rw [hat.out, EP.out]; simp [inTops, topL, e]
        clear hat
        go_wp2_with (go_at_call 44; refine (within_any _ _ _ _).mono ?_; rintro e u1 ⟨rfl, hu1⟩; rw [hu1]; clear hu1)
        go_roundw
        case rel => exact ⟨1, by omega, by go_num, hn, by first | rfl | trivial⟩
        case measure => simp [intOf]
      | false =>
        have hf : Hid (partsOK len qs = false) := by show partsOK len qs = _; unfold partsOK; rw [hat.out, EP.out]; simp [inTops, topL, e]
        clear hat
        go_wp2_with (go_at_call 44; refine (within_any _ _ _ _).mono ?_; rintro e u1 ⟨rfl, hu1⟩; rw [hu1]; clear hu1)
        go_ret
        exact ⟨ret_bool hf.out.symm, hB⟩
    · have hx := idxA1 5 7 1073741824 1048576 1048576 1 11 4
      cases e : inR p1 0 7 with
      | true =>
        have hn : Hid (inTops topL qs = inTops (topL.drop 2) (qs.drop 2)) := by show inTops topL qs = _; rw [hat.out, EP.out]; simp [inTops, topL, e]
        clear hat
        go_wp2_with (go_at_call 44; refine (within_any _ _ _ _).mono ?_; rintro e u1 ⟨rfl, hu1⟩; rw [hu1]; clear hu1)
        go_roundw
        case rel => exact ⟨2, by omega, by go_num, hn, by first | rfl | trivial⟩
        case measure => simp [intOf]
      | false =>
        have hf : Hid (partsOK len qs = false) := by show partsOK len qs = _; unfold partsOK; rw [hat.out, EP.out]; simp [inTops, topL, e]
        clear hat
        go_wp2_with (go_at_call 44; refine (within_any _ _ _ _).mono ?_; rintro e u1 ⟨rfl, hu1⟩; rw [hu1]; clear hu1)
        go_ret
        exact ⟨ret_bool hf.out.symm, hB⟩
    · have hx := idxA2 5 7 1073741824 1048576 1048576 1 11 4
      cases e : inR p2 0 1073741824 with
      | true =>
        have hn : Hid (inTops topL qs = inTops (topL.drop 3) (qs.drop 3)) := by show inTops topL qs = _; rw [hat.out, EP.out]; simp [inTops, topL, e]
        clear hat
        go_wp2_with (go_at_call 44; refine (within_any _ _ _ _).mono ?_; rintro e u1 ⟨rfl, hu1⟩; rw [hu1]; clear hu1)
        go_roundw
        case rel => exact ⟨3, by omega, by go_num, hn, by first | rfl | trivial⟩
        case measure => simp [intOf]
      | false =>
        have hf : Hid (partsOK len qs = false) := by show partsOK len qs = _; unfold partsOK; rw [hat.out, EP.out]; simp [inTops, topL, e]
        clear hat
        go_wp2_with (go_at_call 44; refine (within_any _ _ _ _).mono ?_; rintro e u1 ⟨rfl, hu1⟩; rw [hu1]; clear hu1)
        go_ret
        exact ⟨ret_bool hf.out.symm, hB⟩
    · have hx := idxA3 5 7 1073741824 1048576 1048576 1 11 4
      cases e : inR p3 0 1048576 with
      | true =>
        have hn : Hid (inTops topL qs = inTops (topL.drop 4) (qs.drop 4)) := by show inTops topL qs = _; rw [hat.out, EP.out]; simp [inTops, topL, e]
        clear hat
        go_wp2_with (go_at_call 44; refine (within_any _ _ _ _).mono ?_; rintro e u1 ⟨rfl, hu1⟩; rw [hu1]; clear hu1)
        go_roundw
        case rel => exact ⟨4, by omega, by go_num, hn, by first | rfl | trivial⟩
        case measure => simp [intOf]
      | false =>
        have hf : Hid (partsOK len qs = false) := by show partsOK len qs = _; unfold partsOK; rw [hat.out, EP.out]; simp [inTops, topL, e]
        clear hat
        go_wp2_with (go_at_call 44; refine (within_any _ _ _ _).mono ?_; rintro e u1 ⟨rfl, hu1⟩; rw [hu1]; clear hu1)
        go_ret
        exact ⟨ret_bool hf.out.symm, hB⟩
    · have hx := idxA4 5 7 1073741824 1048576 1048576 1 11 4
      cases e : inR p4 0 1048576 with
      | true =>
        have hn : Hid (inTops topL qs = inTops (topL.drop 5) (qs.drop 5)) := by show inTops topL qs = _; rw [hat.out, EP.out]; simp [inTops, topL, e]
        clear hat
        go_wp2_with (go_at_call 44; refine (within_any _ _ _ _).mono ?_; rintro e u1 ⟨rfl, hu1⟩; rw [hu1]; clear hu1)
        go_roundw
        case rel => exact ⟨5, by omega, by go_num, hn, by first | rfl | trivial⟩
        case measure => simp [intOf]
      | false =>
        have hf : Hid (partsOK len qs = false) := by show partsOK len qs = _; unfold partsOK; rw [hat.out, EP.out]; simp [inTops, topL, e]
        clear hat
        go_wp2_with (go_at_call 44; refine (within_any _ _ _ _).mono ?_; rintro e u1 ⟨rfl, hu1⟩; rw [hu1]; clear hu1)
        go_ret
        exact ⟨ret_bool hf.out.symm, hB⟩
    · have hx := idxA5 5 7 1073741824 1048576 1048576 1 11 4
      cases e : inR p5 0 1 with
      | true =>
        have hn : Hid (inTops topL qs = inTops (topL.drop 6) (qs.drop 6)) := by show inTops topL qs = _; rw [hat.out, EP.out]; simp [inTops, topL, e]
        clear hat
        go_wp2_with (go_at_call 44; refine (within_any _ _ _ _).mono ?_; rintro e u1 ⟨rfl, hu1⟩; rw [hu1]; clear hu1)
        go_roundw
        case rel => exact ⟨6, by omega, by go_num, hn, by first | rfl | trivial⟩
        case measure => simp [intOf]
      | false =>
        have hf : Hid (partsOK len qs = false) := by show partsOK len qs = _; unfold partsOK; rw [hat.out, EP.out]; simp [inTops, topL, e]
        clear hat
        go_wp2_with (go_at_call 44; refine (within_any _ _ _ _).mono ?_; rintro e u1 ⟨rfl, hu1⟩; rw [hu1]; clear hu1)
        go_ret
        exact ⟨ret_bool hf.out.symm, hB⟩
    · have hx := idxA6 5 7 1073741824 1048576 1048576 1 11 4
      cases e : inR p6 0 11 with
      | true =>
        have hn : Hid (inTops topL qs = inTops (topL.drop 7) (qs.drop 7)) := by show inTops topL qs = _; rw [hat.out, EP.out]; simp [inTops, topL, e]
        clear hat
        go_wp2_with (go_at_call 44; refine (within_any _ _ _ _).mono ?_; rintro e u1 ⟨rfl, hu1⟩; rw [hu1]; clear hu1)
        go_roundw
        case rel => exact ⟨7, by omega, by go_num, hn, by first | rfl | trivial⟩
        case measure => simp [intOf]
      | false =>
        have hf : Hid (partsOK len qs = false) := by show partsOK len qs = _; unfold partsOK; rw [hat.out, EP.out]; simp [inTops, topL, e]
        clear hat
        go_wp2_with (go_at_call 44; refine (within_any _ _ _ _).mono ?_; rintro e u1 ⟨rfl, hu1⟩; rw [hu1]; clear hu1)
        go_ret
        exact ⟨ret_bool hf.out.symm, hB⟩
    · have hx := idxA7 5 7 1073741824 1048576 1048576 1 11 4
      cases e : inR p7 0 4 with
      | true =>
        have hn : Hid (inTops topL qs = inTops (topL.drop 8) (qs.drop 8)) := by show inTops topL qs = _; rw [hat.out, EP.out]; simp [inTops, topL, e]
        clear hat
        go_wp2_with (go_at_call 44; refine (within_any _ _ _ _).mono ?_; rintro e u1 ⟨rfl, hu1⟩; rw [hu1]; clear hu1)
        go_roundw
        case rel => exact ⟨8, by omega, by go_num, hn, by first | rfl | trivial⟩
        case measure => simp [intOf]
      | false =>
        have hf : Hid (partsOK len qs = false) := by show partsOK len qs = _; unfold partsOK; rw [hat.out, EP.out]; simp [inTops, topL, e]
        clear hat
        go_wp2_with (go_at_call 44; refine (within_any _ _ _ _).mono ?_; rintro e u1 ⟨rfl, hu1⟩; rw [hu1]; clear hu1)
        go_ret
        exact ⟨ret_bool hf.out.symm, hB⟩
    · have hT : inTops topL qs = true := by rw [hat.out, EP.out]; rfl
      have hP : Hid (partsOK len qs = (plc p0 len && isCd p6)) := by show partsOK len qs = _; unfold partsOK; rw [hT, EP.out]; simp
      clear hat hT
      cases e : plc p0 len with
      | true =>
        go_wp2_with (first
          | (go_at_call 70; refine (place_any s p a len cap p0 _ hl).mono ?_; rintro e u1 ⟨rfl, hu1⟩; obtain ⟨hc1, hf1⟩ := bcell hu1)
          | (go_at_call 71; refine (isCode_any _ _).mono ?_; rintro e u2 ⟨rfl, hu2⟩; rw [hu2]; clear hu2))
        go_ret
        exact ⟨ret_bool (by rw [hP.out, e]; simp), hB.trans (hu1.mono hB.size)⟩
      | false =>
        go_wp2_with (go_at_call 70; refine (place_any s p a len cap p0 _ hl).mono ?_; rintro e u1 ⟨rfl, hu1⟩)
        go_ret
        exact ⟨ret_bool (by rw [hP.out, e]; simp), hB.trans (hu1.mono hB.size)⟩
end Go.Proofs.YtflfcjbgkpfgkaaDoor
/- Records on plain data, and contracts of wire's recordParts and bounds' Rising. -/
namespace Go.Proofs.YtflfcjbgkpfgkaaDoor
open Go.ChangeShapes Go.WideShapes Go.ChangeAt Go.RowKit
set_option linter.unusedVariables false

structure RcV where
  kind : Int
  site : Int
  num : Int
  key : Int
  value : Int
  ask : Int
  yes : Bool
  sa : Option Addr
  sl : Nat
  sc : Nat
  sites : List Int

def RcV.val (r : RcV) : Value := .agg #[.int .i64 r.kind, .int .i64 r.site, .int .i64 r.num, .int .i64 r.key, .int .i64 r.value, .int .i64 r.ask, .bool r.yes, .slice r.sa r.sl r.sc]

/-- Numbers from 'low' on below s, each above the one ahead. -/
def rising (s low : Int) : List Int → Bool
  | [] => true
  | n :: r => inR n low (s - 1) && rising s (n + 1) r

def recRange (s : Int) (n : Nat) (r : RcV) : Bool := txnOK s r.site r.num && partsOK n [0, r.key, r.value, 0, r.ask, bit r.yes, 0, (r.sl : Int)] && rising s 0 r.sites
def recForm (r : RcV) : Bool := hasAll (rHasOf r.kind) [0, r.key, r.value, 0, r.ask, bit r.yes, 0, (r.sl : Int)]
def recFault (s : Int) (ls : List (Int × Int)) (p : Int) (r : RcV) : Int :=
  if cfgFault s ls p ≠ 0 then cfgFault s ls p else if inR r.kind 1 6 = false then 3 else if recRange s ls.length r = false then 2 else if recForm r = false then 4 else 0

theorem rf_cfg {s : Int} {ls : List (Int × Int)} {p : Int} {m : RcV} (h : cfgFault s ls p ≠ 0) : recFault s ls p m = cfgFault s ls p := by simp [recFault, h]
theorem rf_kind {s : Int} {ls : List (Int × Int)} {p : Int} {m : RcV} (h : cfgFault s ls p = 0) (hk : inR m.kind 1 6 = false) : recFault s ls p m = 3 := by simp [recFault, h, hk]
theorem rf_range {s : Int} {ls : List (Int × Int)} {p : Int} {m : RcV} (h : cfgFault s ls p = 0) (hk : inR m.kind 1 6 = true) (hr : recRange s ls.length m = false) : recFault s ls p m = 2 := by simp [recFault, h, hk, hr]
theorem rf_form {s : Int} {ls : List (Int × Int)} {p : Int} {m : RcV} (h : cfgFault s ls p = 0) (hk : inR m.kind 1 6 = true) (hr : recRange s ls.length m = true) (hf : recForm m = false) : recFault s ls p m = 4 := by simp [recFault, h, hk, hr, hf]
theorem rf_ok {s : Int} {ls : List (Int × Int)} {p : Int} {m : RcV} (h : cfgFault s ls p = 0) (hk : inR m.kind 1 6 = true) (hr : recRange s ls.length m = true) (hf : recForm m = true) : recFault s ls p m = 0 := by simp [recFault, h, hk, hr, hf]

theorem drop_int {zs : List Int} {k : Nat} (hk : k < zs.length) : zs.drop k = zs.getD k 0 :: zs.drop (k + 1) := by
  rw [List.drop_eq_getElem_cons hk]; simp [List.getD, hk]

theorem recordParts_any (r : RcV) (w : World) (hl : r.sl ≤ maxLen) :
    Calls Tryd.prog 67 #[r.val] w fun e w' => e = .returned (.agg #[.int .i64 0, .int .i64 r.key, .int .i64 r.value, .int .i64 0, .int .i64 r.ask, .int .i64 (bit r.yes), .int .i64 0, .int .i64 (r.sl : Int)]) ∧ Below w.heap.size w w' := by
  obtain ⟨kind, site, num, key, value, ask, yes, sa, sl, sc, sites⟩ := r
  simp only [RcV.val] at hl ⊢
  unfold maxLen at hl
  obtain ⟨W, hW⟩ : ∃ W : World, W = (w.alloc (.cells #[.int .i64 kind, .int .i64 site, .int .i64 num, .int .i64 key, .int .i64 value, .int .i64 ask, .bool yes, .slice sa sl sc] 56)).alloc (.cells #[.int .i64 0, .int .i64 0, .int .i64 0, .int .i64 0, .int .i64 0, .int .i64 0, .int .i64 0, .int .i64 0] 92) := ⟨_, rfl⟩
  have d3 : W.cell? ⟨w.heap.size, 3, none⟩ = some (.int .i64 key) := by rw [hW]; go_simp
  have d4 : W.cell? ⟨w.heap.size, 4, none⟩ = some (.int .i64 value) := by rw [hW]; go_simp
  have d5 : W.cell? ⟨w.heap.size, 5, none⟩ = some (.int .i64 ask) := by rw [hW]; go_simp
  have d6 : W.cell? ⟨w.heap.size, 6, none⟩ = some (.bool yes) := by rw [hW]; go_simp
  have d7 : W.cell? ⟨w.heap.size, 7, none⟩ = some (.slice sa sl sc) := by rw [hW]; go_simp
  go_enter Tryd.func67, Tryd.ntmps67
  go_wp2
  rw [← hW]
  go_region_held3 (fun w' => w'.cell? ⟨w.heap.size, 3, none⟩ = some (.int .i64 key) ∧ w'.cell? ⟨w.heap.size, 4, none⟩ = some (.int .i64 value) ∧ w'.cell? ⟨w.heap.size, 5, none⟩ = some (.int .i64 ask) ∧ w'.cell? ⟨w.heap.size, 6, none⟩ = some (.bool yes) ∧ w'.cell? ⟨w.heap.size, 7, none⟩ = some (.slice sa sl sc))
     (go_keep)
     ((go_at_call 69; refine (truth_any _ _).mono ?_; rintro e u1 ⟨rfl, rfl⟩))
  all_goals
    go_wp2
    refine bodyPost_ret (v := .agg #[.int .i64 0, .int .i64 key, .int .i64 value, .int .i64 0, .int .i64 ask, .int .i64 (bit yes), .int .i64 0, .int .i64 (sl : Int)]) (by simp [results, Tryd.results67, go_sem]) rfl ⟨rfl, ?_⟩
    exact (((Below.refl _ _).alloc (Nat.le_refl _) _).alloc (by simp) _).drew

set_option maxRecDepth 100000 in
set_option maxHeartbeats 1000000 in
theorem rising_any (s p : Int) (a : Option Addr) (len cap : Nat) (sa : Option Addr) (sl sc : Nat) (sites : List Int) (w : World) (hs : 1 ≤ s ∧ s ≤ 4) (h : IsInts w sa sl sc sites) :
    Calls Tryd.prog 73 #[.agg #[.int .i64 s, .slice a len cap, .int .i64 p], .slice sa sl sc] w fun e w' => e = .returned (.bool (rising s 0 sites)) ∧ Below w.heap.size w w' := by
  obtain ⟨s1, s4⟩ := hs
  obtain ⟨hlen, hcap, hmax, hbd, hmem⟩ := h
  unfold maxLen at hmax
  have HL : Hid (sites.length = sl) := hlen
  clear hlen
  obtain ⟨W, hW⟩ : ∃ W : World, W = w.alloc (.cells #[.int .i64 s, .slice a len cap, .int .i64 p] 24) := ⟨_, rfl⟩
  have hB : Below w.heap.size w W := by rw [hW]; exact (Below.refl _ _).alloc (Nat.le_refl _) _
  have c0 : W.cell? ⟨w.heap.size, 0, none⟩ = some (.int .i64 s) := by rw [hW]; go_simp
  by_cases hz : sl = 0
  · subst hz
    obtain rfl : sites = [] := List.length_eq_zero_iff.1 HL.out
    go_enter Tryd.func73, Tryd.ntmps73
    go_wp2
    rw [← hW]
    clear hW
    go_loopw [10] (fun i wr => i = .int .i64 0 ∧ wr = W) (fun _ _ => 0)
    case atStart => exact ⟨rfl, rfl⟩
    case round =>
      obtain ⟨rfl, rfl⟩ := hrel
      go_wp2
      go_ret
      exact ⟨rfl, hB⟩
  · obtain ⟨b, off, rfl, hbl, hcell⟩ := hmem (by omega)
    go_enter Tryd.func73, Tryd.ntmps73
    go_wp2
    rw [← hW]
    clear hW
    go_loopw [5, 10] (fun lo i wr => ∃ (k : Nat) (l : Int), k ≤ sl ∧ i = .int .i64 k ∧ lo = .int .i64 l ∧ 0 ≤ l ∧ l ≤ 4 ∧ Hid (rising s 0 sites = rising s l (sites.drop k)) ∧ wr = W) (fun _ i _ => sl - (intOf i).toNat)
    case atStart => exact ⟨0, 0, by omega, rfl, rfl, by omega, by omega, rfl, rfl⟩
    case round =>
      obtain ⟨k, l, hk, rfl, rfl, l0, l4, hat, rfl⟩ := hrel
      by_cases hlt : k < sl
      · have hr := hcell k hlt
        rw [← hB.cell (p := ⟨b, off + k, none⟩) hbl] at hr
        have hdrop := drop_int (zs := sites) (k := k) (by have := HL.out; omega)
        obtain ⟨n, en⟩ : ∃ n, n = sites.getD k 0 := ⟨_, rfl⟩
        rw [← en] at hr hdrop
        have hlt' : (k : Int) < (sl : Int) := by omega
        clear en
        cases e : inR n l (s - 1) with
        | true =>
          have hb := inR_of e
          have hn : Hid (rising s 0 sites = rising s (n + 1) (sites.drop (k + 1))) := by show rising s 0 sites = _; rw [hat.out, hdrop]; simp [rising, e]
          clear hat hdrop
          go_wp2_with (go_at_call 44; refine (within_any _ _ _ _).mono ?_; rintro e v ⟨rfl, hv⟩; rw [hv]; clear hv v)
          go_roundw
          case rel => exact ⟨k + 1, n + 1, by omega, by go_num, by go_num, by omega, by omega, hn, by first | rfl | trivial⟩
          case measure => simp [intOf]; omega
        | false =>
          have hf : Hid (rising s 0 sites = false) := by show rising s 0 sites = _; rw [hat.out, hdrop]; simp [rising, e]
          clear hat hdrop
          go_wp2_with (go_at_call 44; refine (within_any _ _ _ _).mono ?_; rintro e v ⟨rfl, hv⟩; rw [hv]; clear hv v)
          go_ret
          exact ⟨ret_bool hf.out.symm, hB⟩
      · have he : k = sl := by omega
        have hf : Hid (rising s 0 sites = true) := by show rising s 0 sites = _; rw [hat.out, he, ← HL.out, List.drop_length]; rfl
        subst he
        clear hat
        go_wp2
        go_ret
        exact ⟨ret_bool hf.out.symm, hB⟩
end Go.Proofs.YtflfcjbgkpfgkaaDoor
/- Messages and records read off bytes, on plain data: what was written is read as it was; what is read is written as it was; what is torn is short. -/
namespace Go.Proofs.YtflfcjbgkpfgkaaDoor
open Go.ChangeShapes Go.WideShapes Go.ChangeAt Go.RowKit
set_option linter.unusedVariables false

/-! ### Numbers one behind the other -/
def rdNums : List Nat → RS → List Int × RS
  | [], r => ([], r)
  | k :: ks, r => ((r.num k).1 :: (rdNums ks (r.num k).2).1, (rdNums ks (r.num k).2).2)
def wrNums : List Nat → List Int → List Int
  | k :: ks, n :: ns => be n k ++ wrNums ks ns
  | _, _ => []
def fits : List Nat → List Int → Bool
  | k :: ks, n :: ns => decide (0 ≤ n ∧ n < 256 ^ k) && fits ks ns
  | [], [] => true
  | _, _ => false
def widthOf (ks : List Nat) : Nat := ks.foldr (· + ·) 0

theorem rd_wrong : ∀ (ks : List Nat) (r : RS), r.wrong ≠ 0 → rdNums ks r = (ks.map fun _ => 0, r) := by
  intro ks
  induction ks with
  | nil => intro r _; rfl
  | cons k ks ih => intro r h; simp [rdNums, num_wrong h, ih r h]
theorem rd_wr : ∀ (ks : List Nat) (ns t : List Int), fits ks ns = true → rdNums ks ⟨wrNums ks ns ++ t, 0⟩ = (ns, ⟨t, 0⟩) := by
  intro ks
  induction ks with
  | nil => intro ns t h; cases ns <;> simp_all [fits, rdNums, wrNums]
  | cons k ks ih =>
    intro ns t h
    cases ns with
    | nil => simp [fits] at h
    | cons n ns =>
      simp only [fits, Bool.and_eq_true, decide_eq_true_eq] at h
      simp only [rdNums, wrNums, List.append_assoc]
      rw [num_app h.1.1 h.1.2, ih ns t h.2]
theorem wr_len : ∀ (ks : List Nat) (ns : List Int), ns.length = ks.length → (wrNums ks ns).length = widthOf ks := by
  intro ks
  induction ks with
  | nil => intro ns h; simp [wrNums, widthOf]
  | cons k ks ih =>
    intro ns h
    cases ns with
    | nil => simp at h
    | cons n ns =>
      have := ih ns (by simpa using h)
      simp only [wrNums, List.length_append, be_len, widthOf, List.foldr_cons] at this ⊢
      omega
theorem rd_len : ∀ (ks : List Nat) (r : RS), (rdNums ks r).1.length = ks.length := by
  intro ks
  induction ks with
  | nil => intro r; rfl
  | cons k ks ih => intro r; simp [rdNums, ih]
/-- Too few bytes: short. -/
theorem rd_short : ∀ (ks : List Nat) (r : RS), r.wrong = 0 → r.rest.length < widthOf ks → (rdNums ks r).2.wrong = 5 := by
  intro ks
  induction ks with
  | nil => intro r _ h; simp [widthOf] at h
  | cons k ks ih =>
    intro r h0 h
    by_cases hk : k ≤ r.rest.length
    · simp only [rdNums, num_ok h0 hk]
      refine ih ⟨r.rest.drop k, 0⟩ rfl ?_
      simp only [widthOf, List.foldr_cons] at h
      simp only [List.length_drop, widthOf]
      omega
    · simp only [rdNums, num_short h0 (by omega : r.rest.length < k)]
      rw [rd_wrong _ _ (by simp)]
/-- Enough bytes: what is read is what stood there. -/
theorem rd_ok : ∀ (ks : List Nat) (r : RS), r.wrong = 0 → widthOf ks ≤ r.rest.length → Byt r.rest →
    (rdNums ks r).2 = ⟨r.rest.drop (widthOf ks), 0⟩ ∧ fits ks (rdNums ks r).1 = true ∧ wrNums ks (rdNums ks r).1 = r.rest.take (widthOf ks) := by
  intro ks
  induction ks with
  | nil => intro r h0 h hb; simp [rdNums, widthOf, fits, wrNums, ← h0]
  | cons k ks ih =>
    intro r h0 h hb
    simp only [widthOf, List.foldr_cons] at h ⊢
    have hk : k ≤ r.rest.length := by omega
    obtain ⟨h1, h2, h3⟩ := ih ⟨r.rest.drop k, 0⟩ rfl (by simp only [widthOf, List.length_drop]; omega) (fun b hb' => hb b (List.mem_of_mem_drop hb'))
    have hlen : (r.rest.take k).length = k := by simp; omega
    have hbt : Byt (r.rest.take k) := fun b hb' => hb b (List.mem_of_mem_take hb')
    simp only [rdNums, num_ok h0 hk, fits, wrNums, Bool.and_eq_true, decide_eq_true_eq]
    refine ⟨?_, ⟨bval_bd k _ hlen hbt, h2⟩, ?_⟩
    · rw [h1]
      simp only [List.drop_drop, widthOf]
    · rw [h3, be_bval k _ hlen hbt]
      simp only [widthOf]
      rw [← List.take_append_drop k (List.take (k + List.foldr (· + ·) 0 ks) r.rest), List.take_take, List.drop_take, Nat.min_eq_left (by omega)]
      congr 2
      omega
theorem rd_app (ks ls : List Nat) (r : RS) : rdNums (ks ++ ls) r = ((rdNums ks r).1 ++ (rdNums ls (rdNums ks r).2).1, (rdNums ls (rdNums ks r).2).2) := by
  induction ks generalizing r with
  | nil => rfl
  | cons k ks ih => simp [rdNums, ih]
theorem num_byt (r : RS) (k : Nat) (h : Byt r.rest) : Byt (r.num k).2.rest := by
  by_cases h0 : r.wrong = 0
  · by_cases hk : k ≤ r.rest.length
    · rw [num_ok h0 hk]; exact fun b hb => h b (List.mem_of_mem_drop hb)
    · rw [num_short h0 (by omega)]; exact h
  · rw [num_wrong h0]; exact h
theorem rd_byt : ∀ (ks : List Nat) (r : RS), Byt r.rest → Byt (rdNums ks r).2.rest := by
  intro ks
  induction ks with
  | nil => intro r h; exact h
  | cons k ks ih => intro r h; exact ih _ (num_byt r k h)

/-! ### Kinds, transactions, parts -/
def RS.kind (r : RS) (top : Int) : Int × RS := if (r.num 1).1 = 0 ∨ top ≤ (r.num 1).1 then (0, (r.num 1).2.refuse 3) else r.num 1
def RS.part (r : RS) (i k : Nat) : Int × RS := if i = 5 ∧ 1 < (r.num k).1 then ((r.num k).1, (r.num k).2.refuse 4) else r.num k
def decParts : Nat → List Bool → List Nat → RS → List Int × RS
  | i, h :: hs, k :: ks, r =>
    if h then ((r.part i k).1 :: (decParts (i + 1) hs ks (r.part i k).2).1, (decParts (i + 1) hs ks (r.part i k).2).2)
    else (0 :: (decParts (i + 1) hs ks r).1, (decParts (i + 1) hs ks r).2)
  | _, _, _, r => ([], r)
def RS.fin (r : RS) : RS := if 0 < r.rest.length then r.refuse 4 else r
end Go.Proofs.YtflfcjbgkpfgkaaDoor
