/- Texts of this claim, one behind the other. -/
import Derived.Test.YtdjnaahkcnklhaaDoorM8HearTwice
import Derived.Test.YtdjnaahkcnklhaaDoorM7HearTwice
import Derived.Deep.QuietTactic
import Derived.BigQuiet
import Derived.BigRegion
import Derived.LoopTactic
import Derived.RegionTactic
import Derived.Deep.RegionWith
import Derived.Deep.RegionHeld3
import Derived.WalkSmall
import Derived.Deep.Cut
import Derived.Lib.QuietBelow
/- Contracts of the small functions of bounds and wire: Site, Txn, Label, isCode, truth. -/
namespace Go.Proofs.YtdjnaahkcnklhaaDoor
open Go.ChangeShapes Go.WideShapes Go.ChangeAt Go.RowKit

theorem wrap_i64 {n : Int} (h1 : -9223372036854775808 ≤ n) (h2 : n ≤ 9223372036854775807) : IntKind.i64.wrap n = n := by
  simp [IntKind.wrap, IntKind.bits, IntKind.signed]; omega

theorem site_any (s p : Int) (a : Option Addr) (len cap : Nat) (n : Int) (w : World) (hs : 1 ≤ s ∧ s ≤ 4) :
    Calls Tryd.prog 42 #[.agg #[.int .i64 s, .slice a len cap, .int .i64 p], .int .i64 n] w fun e w' => e = .returned (.bool (inR n 0 (s - 1))) ∧ Below w.heap.size w w' := by
  have hA : Below w.heap.size w (w.alloc (.cells #[.int .i64 s, .slice a len cap, .int .i64 p] 25)) := (Below.refl _ _).alloc (Nat.le_refl _) _
  obtain ⟨h1, h2⟩ := hs
  go_enter Tryd.func42, Tryd.ntmps42
  go_wp2_with (go_at_call 19; refine (within_any _ _ _ _).mono ?_; rintro e w1 ⟨rfl, hu1⟩; rw [hu1]; clear hu1)
  go_ret
  exact ⟨rfl, hA⟩

theorem place_any (s p : Int) (a : Option Addr) (len cap : Nat) (l : Int) (w : World) (hl : len ≤ 6) :
    Calls Tryd.prog 41 #[.agg #[.int .i64 s, .slice a len cap, .int .i64 p], .int .i64 l] w fun e w' => e = .returned (.bool (plc l len)) ∧ Below w.heap.size w w' := by
  have hA : Below w.heap.size w (w.alloc (.cells #[.int .i64 s, .slice a len cap, .int .i64 p] 25)) := (Below.refl _ _).alloc (Nat.le_refl _) _
  have h2 : (len : Int) ≤ 6 := by omega
  have e : plc l len = inR l 0 ((len : Int) - 1) := by unfold plc inR; rw [Bool.eq_iff_iff]; simp; omega
  rw [e]
  clear e
  go_enter Tryd.func41, Tryd.ntmps41
  go_wp2_with (go_at_call 19; refine (within_any _ _ _ _).mono ?_; rintro e w1 ⟨rfl, hu1⟩; rw [hu1]; clear hu1)
  go_ret
  exact ⟨rfl, hA⟩

theorem txn_any (site num s : Int) (w : World) (hs : 1 ≤ s ∧ s ≤ 4) :
    Calls Tryd.prog 79 #[.agg #[.int .i64 site, .int .i64 num], .int .i64 s] w fun e w' => e = .returned (.bool (txnOK s site num)) ∧ Below w.heap.size w w' := by
  have hA : Below w.heap.size w (w.alloc (.cells #[.int .i64 site, .int .i64 num] 48)) := (Below.refl _ _).alloc (Nat.le_refl _) _
  obtain ⟨h1, h2⟩ := hs
  unfold txnOK
  cases hr : inR site 0 (s - 1) with
  | false =>
    go_enter Tryd.func79, Tryd.ntmps79
    go_wp2_with (go_at_call 19; refine (within_any _ _ _ _).mono ?_; rintro e w1 ⟨rfl, hu1⟩; rw [hu1]; clear hu1)
    go_ret
    exact ⟨rfl, hA⟩
  | true =>
    go_enter Tryd.func79, Tryd.ntmps79
    go_wp2_with (go_at_call 19; refine (within_any _ _ _ _).mono ?_; rintro e w1 ⟨rfl, hu1⟩; rw [hu1]; clear hu1)
    go_ret
    exact ⟨by simp, hA⟩

theorem isCode_any (n : Int) (w : World) :
    Calls Tryd.prog 89 #[.int .i64 n] w fun e w' => e = .returned (.bool (isCd n)) ∧ w' = w := by
  go_enter Tryd.func89, Tryd.ntmps89
  go_wp2
  all_goals go_ret
  all_goals exact ⟨ret_bool (by unfold isCd; simp [*]), rfl⟩

theorem truth_any (b : Bool) (w : World) :
    Calls Tryd.prog 88 #[.bool b] w fun e w' => e = .returned (.int .i64 (bit b)) ∧ w' = w := by
  cases b
  all_goals
    go_enter Tryd.func88, Tryd.ntmps88
    go_wp2
    go_ret
    exact ⟨rfl, rfl⟩
end Go.Proofs.YtdjnaahkcnklhaaDoor
/- The contract of wire's messageParts: parts of a message as eight numbers. -/
namespace Go.Proofs.YtdjnaahkcnklhaaDoor
open Go.ChangeShapes Go.WideShapes Go.ChangeAt Go.RowKit

theorem idxP0 (v0 v1 v2 v3 v4 v5 v6 v7 : Int) (w : World) : (Instr.index 125 (.agg #[.int .i64 v0, .int .i64 v1, .int .i64 v2, .int .i64 v3, .int .i64 v4, .int .i64 v5, .int .i64 v6, .int .i64 v7]) (.int .i64 0)).run Tryd.prog w = .ok (.int .i64 v0) w := by kernel_rfl
theorem idxP1 (v0 v1 v2 v3 v4 v5 v6 v7 : Int) (w : World) : (Instr.index 125 (.agg #[.int .i64 v0, .int .i64 v1, .int .i64 v2, .int .i64 v3, .int .i64 v4, .int .i64 v5, .int .i64 v6, .int .i64 v7]) (.int .i64 1)).run Tryd.prog w = .ok (.int .i64 v1) w := by kernel_rfl
theorem idxP2 (v0 v1 v2 v3 v4 v5 v6 v7 : Int) (w : World) : (Instr.index 125 (.agg #[.int .i64 v0, .int .i64 v1, .int .i64 v2, .int .i64 v3, .int .i64 v4, .int .i64 v5, .int .i64 v6, .int .i64 v7]) (.int .i64 2)).run Tryd.prog w = .ok (.int .i64 v2) w := by kernel_rfl
theorem idxP3 (v0 v1 v2 v3 v4 v5 v6 v7 : Int) (w : World) : (Instr.index 125 (.agg #[.int .i64 v0, .int .i64 v1, .int .i64 v2, .int .i64 v3, .int .i64 v4, .int .i64 v5, .int .i64 v6, .int .i64 v7]) (.int .i64 3)).run Tryd.prog w = .ok (.int .i64 v3) w := by kernel_rfl
theorem idxP4 (v0 v1 v2 v3 v4 v5 v6 v7 : Int) (w : World) : (Instr.index 125 (.agg #[.int .i64 v0, .int .i64 v1, .int .i64 v2, .int .i64 v3, .int .i64 v4, .int .i64 v5, .int .i64 v6, .int .i64 v7]) (.int .i64 4)).run Tryd.prog w = .ok (.int .i64 v4) w := by kernel_rfl
theorem idxP5 (v0 v1 v2 v3 v4 v5 v6 v7 : Int) (w : World) : (Instr.index 125 (.agg #[.int .i64 v0, .int .i64 v1, .int .i64 v2, .int .i64 v3, .int .i64 v4, .int .i64 v5, .int .i64 v6, .int .i64 v7]) (.int .i64 5)).run Tryd.prog w = .ok (.int .i64 v5) w := by kernel_rfl
theorem idxP6 (v0 v1 v2 v3 v4 v5 v6 v7 : Int) (w : World) : (Instr.index 125 (.agg #[.int .i64 v0, .int .i64 v1, .int .i64 v2, .int .i64 v3, .int .i64 v4, .int .i64 v5, .int .i64 v6, .int .i64 v7]) (.int .i64 6)).run Tryd.prog w = .ok (.int .i64 v6) w := by kernel_rfl
theorem idxP7 (v0 v1 v2 v3 v4 v5 v6 v7 : Int) (w : World) : (Instr.index 125 (.agg #[.int .i64 v0, .int .i64 v1, .int .i64 v2, .int .i64 v3, .int .i64 v4, .int .i64 v5, .int .i64 v6, .int .i64 v7]) (.int .i64 7)).run Tryd.prog w = .ok (.int .i64 v7) w := by kernel_rfl
theorem idxA0 (v0 v1 v2 v3 v4 v5 v6 v7 : Int) (w : World) : (Instr.index 124 (.agg #[.int .i64 v0, .int .i64 v1, .int .i64 v2, .int .i64 v3, .int .i64 v4, .int .i64 v5, .int .i64 v6, .int .i64 v7]) (.int .i64 0)).run Tryd.prog w = .ok (.int .i64 v0) w := by kernel_rfl
theorem idxA1 (v0 v1 v2 v3 v4 v5 v6 v7 : Int) (w : World) : (Instr.index 124 (.agg #[.int .i64 v0, .int .i64 v1, .int .i64 v2, .int .i64 v3, .int .i64 v4, .int .i64 v5, .int .i64 v6, .int .i64 v7]) (.int .i64 1)).run Tryd.prog w = .ok (.int .i64 v1) w := by kernel_rfl
theorem idxA2 (v0 v1 v2 v3 v4 v5 v6 v7 : Int) (w : World) : (Instr.index 124 (.agg #[.int .i64 v0, .int .i64 v1, .int .i64 v2, .int .i64 v3, .int .i64 v4, .int .i64 v5, .int .i64 v6, .int .i64 v7]) (.int .i64 2)).run Tryd.prog w = .ok (.int .i64 v2) w := by kernel_rfl
theorem idxA3 (v0 v1 v2 v3 v4 v5 v6 v7 : Int) (w : World) : (Instr.index 124 (.agg #[.int .i64 v0, .int .i64 v1, .int .i64 v2, .int .i64 v3, .int .i64 v4, .int .i64 v5, .int .i64 v6, .int .i64 v7]) (.int .i64 3)).run Tryd.prog w = .ok (.int .i64 v3) w := by kernel_rfl
theorem idxA4 (v0 v1 v2 v3 v4 v5 v6 v7 : Int) (w : World) : (Instr.index 124 (.agg #[.int .i64 v0, .int .i64 v1, .int .i64 v2, .int .i64 v3, .int .i64 v4, .int .i64 v5, .int .i64 v6, .int .i64 v7]) (.int .i64 4)).run Tryd.prog w = .ok (.int .i64 v4) w := by kernel_rfl
theorem idxA5 (v0 v1 v2 v3 v4 v5 v6 v7 : Int) (w : World) : (Instr.index 124 (.agg #[.int .i64 v0, .int .i64 v1, .int .i64 v2, .int .i64 v3, .int .i64 v4, .int .i64 v5, .int .i64 v6, .int .i64 v7]) (.int .i64 5)).run Tryd.prog w = .ok (.int .i64 v5) w := by kernel_rfl
theorem idxA6 (v0 v1 v2 v3 v4 v5 v6 v7 : Int) (w : World) : (Instr.index 124 (.agg #[.int .i64 v0, .int .i64 v1, .int .i64 v2, .int .i64 v3, .int .i64 v4, .int .i64 v5, .int .i64 v6, .int .i64 v7]) (.int .i64 6)).run Tryd.prog w = .ok (.int .i64 v6) w := by kernel_rfl
theorem idxA7 (v0 v1 v2 v3 v4 v5 v6 v7 : Int) (w : World) : (Instr.index 124 (.agg #[.int .i64 v0, .int .i64 v1, .int .i64 v2, .int .i64 v3, .int .i64 v4, .int .i64 v5, .int .i64 v6, .int .i64 v7]) (.int .i64 7)).run Tryd.prog w = .ok (.int .i64 v7) w := by kernel_rfl

theorem messageParts_any (m : MV) (w : World) :
    Calls Tryd.prog 78 #[m.val] w fun e w' => e = .returned (.agg #[.int .i64 m.label, .int .i64 m.key, .int .i64 m.value, .int .i64 m.version, .int .i64 m.ask, .int .i64 (bit m.yes), .int .i64 m.code, .int .i64 0]) ∧ Below w.heap.size w w' := by
  obtain ⟨kind, frm, dst, site, num, label, key, value, version, ask, yes, code⟩ := m
  simp only [MV.val]
  obtain ⟨W, hW⟩ : ∃ W : World, W = (w.alloc (.cells #[.int .i64 kind, .int .i64 frm, .int .i64 dst, .int .i64 site, .int .i64 num, .int .i64 label, .int .i64 key, .int .i64 value, .int .i64 version, .int .i64 ask, .bool yes, .int .i64 code] 58)).alloc (.cells #[.int .i64 0, .int .i64 0, .int .i64 0, .int .i64 0, .int .i64 0, .int .i64 0, .int .i64 0, .int .i64 0] 125) := ⟨_, rfl⟩
  have d4 : W.cell? ⟨w.heap.size, 5, none⟩ = some (.int .i64 label) := by rw [hW]; go_simp
  have d5 : W.cell? ⟨w.heap.size, 6, none⟩ = some (.int .i64 key) := by rw [hW]; go_simp
  have d6 : W.cell? ⟨w.heap.size, 7, none⟩ = some (.int .i64 value) := by rw [hW]; go_simp
  have d7 : W.cell? ⟨w.heap.size, 8, none⟩ = some (.int .i64 version) := by rw [hW]; go_simp
  have d8 : W.cell? ⟨w.heap.size, 9, none⟩ = some (.int .i64 ask) := by rw [hW]; go_simp
  have d9 : W.cell? ⟨w.heap.size, 10, none⟩ = some (.bool yes) := by rw [hW]; go_simp
  have d10 : W.cell? ⟨w.heap.size, 11, none⟩ = some (.int .i64 code) := by rw [hW]; go_simp
  go_enter Tryd.func78, Tryd.ntmps78
  go_wp2
  rw [← hW]
  go_region_held3 (fun w' => w'.cell? ⟨w.heap.size, 5, none⟩ = some (.int .i64 label) ∧ w'.cell? ⟨w.heap.size, 6, none⟩ = some (.int .i64 key) ∧ w'.cell? ⟨w.heap.size, 7, none⟩ = some (.int .i64 value) ∧ w'.cell? ⟨w.heap.size, 8, none⟩ = some (.int .i64 version) ∧ w'.cell? ⟨w.heap.size, 9, none⟩ = some (.int .i64 ask) ∧ w'.cell? ⟨w.heap.size, 10, none⟩ = some (.bool yes) ∧ w'.cell? ⟨w.heap.size, 11, none⟩ = some (.int .i64 code))
     (go_keep)
     ((go_at_call 88; refine (truth_any _ _).mono ?_; rintro e u1 ⟨rfl, rfl⟩))
  all_goals
    go_wp2
    refine bodyPost_ret (v := .agg #[.int .i64 label, .int .i64 key, .int .i64 value, .int .i64 version, .int .i64 ask, .int .i64 (bit yes), .int .i64 code, .int .i64 0]) (by simp [results, Tryd.results78, go_sem]) rfl ⟨rfl, ?_⟩
    exact (((Below.refl _ _).alloc (Nat.le_refl _) _).alloc (by simp) _).drew

set_option maxRecDepth 100000 in
set_option maxHeartbeats 1000000 in
/-- Whether all that is not 0 is among what there is. -/
theorem hasAll_any (h0 h1 h2 h3 h4 h5 h6 h7 : Bool) (p0 p1 p2 p3 p4 p5 p6 p7 : Int) (w : World) :
    Calls Tryd.prog 81 #[.agg #[.bool h0, .bool h1, .bool h2, .bool h3, .bool h4, .bool h5, .bool h6, .bool h7], .agg #[.int .i64 p0, .int .i64 p1, .int .i64 p2, .int .i64 p3, .int .i64 p4, .int .i64 p5, .int .i64 p6, .int .i64 p7]] w
      fun e w' => e = .returned (.bool (hasAll [h0, h1, h2, h3, h4, h5, h6, h7] [p0, p1, p2, p3, p4, p5, p6, p7])) ∧ Below w.heap.size w w' := by
  obtain ⟨W, hW⟩ : ∃ W : World, W = (w.alloc (.cells #[.bool h0, .bool h1, .bool h2, .bool h3, .bool h4, .bool h5, .bool h6, .bool h7] 131)).alloc (.cells #[.int .i64 p0, .int .i64 p1, .int .i64 p2, .int .i64 p3, .int .i64 p4, .int .i64 p5, .int .i64 p6, .int .i64 p7] 125) := ⟨_, rfl⟩
  have hB : Below w.heap.size w W := by rw [hW]; exact ((Below.refl _ _).alloc (Nat.le_refl _) _).alloc (by simp) _
  have b0 : W.cell? ⟨w.heap.size, 0, none⟩ = some (.bool h0) := by rw [hW]; go_simp
  have b1 : W.cell? ⟨w.heap.size, 1, none⟩ = some (.bool h1) := by rw [hW]; go_simp
  have b2 : W.cell? ⟨w.heap.size, 2, none⟩ = some (.bool h2) := by rw [hW]; go_simp
  have b3 : W.cell? ⟨w.heap.size, 3, none⟩ = some (.bool h3) := by rw [hW]; go_simp
  have b4 : W.cell? ⟨w.heap.size, 4, none⟩ = some (.bool h4) := by rw [hW]; go_simp
  have b5 : W.cell? ⟨w.heap.size, 5, none⟩ = some (.bool h5) := by rw [hW]; go_simp
  have b6 : W.cell? ⟨w.heap.size, 6, none⟩ = some (.bool h6) := by rw [hW]; go_simp
  have b7 : W.cell? ⟨w.heap.size, 7, none⟩ = some (.bool h7) := by rw [hW]; go_simp
  obtain ⟨hs, ehs⟩ : ∃ hs, hs = [h0, h1, h2, h3, h4, h5, h6, h7] := ⟨_, rfl⟩
  obtain ⟨ps, eps⟩ : ∃ ps, ps = [p0, p1, p2, p3, p4, p5, p6, p7] := ⟨_, rfl⟩
  rw [← ehs, ← eps]
  have EH : Hid (hs = [h0, h1, h2, h3, h4, h5, h6, h7]) := ehs
  have EP : Hid (ps = [p0, p1, p2, p3, p4, p5, p6, p7]) := eps
  clear ehs eps
  go_enter Tryd.func81, Tryd.ntmps81
  go_wp2
  rw [← hW]
  clear hW
  go_loopw [8] (fun i wr => ∃ k : Nat, k ≤ 8 ∧ i = .int .i64 k ∧ Hid (hasAll hs ps = hasAll (hs.drop k) (ps.drop k)) ∧ wr = W) (fun i _ => 8 - (intOf i).toNat)
  case atStart => exact ⟨0, by omega, rfl, rfl, rfl⟩
  case round =>
    obtain ⟨k, hk, rfl, hat, rfl⟩ := hrel
    rcases (by omega : k = 0 ∨ k = 1 ∨ k = 2 ∨ k = 3 ∨ k = 4 ∨ k = 5 ∨ k = 6 ∨ k = 7 ∨ k = 8) with rfl | rfl | rfl | rfl | rfl | rfl | rfl | rfl | rfl
    · have hx := idxP0 p0 p1 p2 p3 p4 p5 p6 p7
      by_cases e : p0 = 0
      · subst e
        have hn : Hid (hasAll hs ps = hasAll (hs.drop 1) (ps.drop 1)) := by show hasAll hs ps = _; rw [hat.out, EH.out, EP.out]; simp [hasAll]
        clear hat
        go_wp2
        go_roundw
        case rel => exact ⟨1, by omega, by go_num, hn, by first | rfl | trivial⟩
        case measure => simp [intOf]
      · cases hb : h0 with
        | true =>
          have hn : Hid (hasAll hs ps = hasAll (hs.drop 1) (ps.drop 1)) := by show hasAll hs ps = _; rw [hat.out, EH.out, EP.out]; simp [hasAll, hb]
          rw [hb] at b0
          clear hat
          go_wp2
          go_roundw
          case rel => exact ⟨1, by omega, by go_num, hn, by first | rfl | trivial⟩
          case measure => simp [intOf]
        | false =>
          have hf : Hid (hasAll hs ps = false) := by show hasAll hs ps = _; rw [hat.out, EH.out, EP.out]; simp [hasAll, e, hb]
          rw [hb] at b0
          clear hat
          go_wp2
          go_ret
          exact ⟨ret_bool hf.out.symm, hB⟩
    · have hx := idxP1 p0 p1 p2 p3 p4 p5 p6 p7
      by_cases e : p1 = 0
      · subst e
        have hn : Hid (hasAll hs ps = hasAll (hs.drop 2) (ps.drop 2)) := by show hasAll hs ps = _; rw [hat.out, EH.out, EP.out]; simp [hasAll]
        clear hat
        go_wp2
        go_roundw
        case rel => exact ⟨2, by omega, by go_num, hn, by first | rfl | trivial⟩
        case measure => simp [intOf]
      · cases hb : h1 with
        | true =>
          have hn : Hid (hasAll hs ps = hasAll (hs.drop 2) (ps.drop 2)) := by show hasAll hs ps = _; rw [hat.out, EH.out, EP.out]; simp [hasAll, hb]
          rw [hb] at b1
          clear hat
          go_wp2
          go_roundw
          case rel => exact ⟨2, by omega, by go_num, hn, by first | rfl | trivial⟩
          case measure => simp [intOf]
        | false =>
          have hf : Hid (hasAll hs ps = false) := by show hasAll hs ps = _; rw [hat.out, EH.out, EP.out]; simp [hasAll, e, hb]
          rw [hb] at b1
          clear hat
          go_wp2
          go_ret
          exact ⟨ret_bool hf.out.symm, hB⟩
    · have hx := idxP2 p0 p1 p2 p3 p4 p5 p6 p7
      by_cases e : p2 = 0
      · subst e
        have hn : Hid (hasAll hs ps = hasAll (hs.drop 3) (ps.drop 3)) := by show hasAll hs ps = _; rw [hat.out, EH.out, EP.out]; simp [hasAll]
        clear hat
        go_wp2
        go_roundw
        case rel => exact ⟨3, by omega, by go_num, hn, by first | rfl | trivial⟩
        case measure => simp [intOf]
      · cases hb : h2 with
        | true =>
          have hn : Hid (hasAll hs ps = hasAll (hs.drop 3) (ps.drop 3)) := by show hasAll hs ps = _; rw [hat.out, EH.out, EP.out]; simp [hasAll, hb]
          rw [hb] at b2
          clear hat
          go_wp2
          go_roundw
          case rel => exact ⟨3, by omega, by go_num, hn, by first | rfl | trivial⟩
          case measure => simp [intOf]
        | false =>
          have hf : Hid (hasAll hs ps = false) := by show hasAll hs ps = _; rw [hat.out, EH.out, EP.out]; simp [hasAll, e, hb]
          rw [hb] at b2
          clear hat
          go_wp2
          go_ret
          exact ⟨ret_bool hf.out.symm, hB⟩
    · have hx := idxP3 p0 p1 p2 p3 p4 p5 p6 p7
      by_cases e : p3 = 0
      · subst e
        have hn : Hid (hasAll hs ps = hasAll (hs.drop 4) (ps.drop 4)) := by show hasAll hs ps = _; rw [hat.out, EH.out, EP.out]; simp [hasAll]
        clear hat
        go_wp2
        go_roundw
        case rel => exact ⟨4, by omega, by go_num, hn, by first | rfl | trivial⟩
        case measure => simp [intOf]
      · cases hb : h3 with
        | true =>
          have hn : Hid (hasAll hs ps = hasAll (hs.drop 4) (ps.drop 4)) := by show hasAll hs ps = _; rw [hat.out, EH.out, EP.out]; simp [hasAll, hb]
          rw [hb] at b3
          clear hat
          go_wp2
          go_roundw
          case rel => exact ⟨4, by omega, by go_num, hn, by first | rfl | trivial⟩
          case measure => simp [intOf]
        | false =>
          have hf : Hid (hasAll hs ps = false) := by show hasAll hs ps = _; rw [hat.out, EH.out, EP.out]; simp [hasAll, e, hb]
          rw [hb] at b3
          clear hat
          go_wp2
          go_ret
          exact ⟨ret_bool hf.out.symm, hB⟩
    · have hx := idxP4 p0 p1 p2 p3 p4 p5 p6 p7
      by_cases e : p4 = 0
      · subst e
        have hn : Hid (hasAll hs ps = hasAll (hs.drop 5) (ps.drop 5)) := by show hasAll hs ps = _; rw [hat.out, EH.out, EP.out]; simp [hasAll]
        clear hat
        go_wp2
        go_roundw
        case rel => exact ⟨5, by omega, by go_num, hn, by first | rfl | trivial⟩
        case measure => simp [intOf]
      · cases hb : h4 with
        | true =>
          have hn : Hid (hasAll hs ps = hasAll (hs.drop 5) (ps.drop 5)) := by show hasAll hs ps = _; rw [hat.out, EH.out, EP.out]; simp [hasAll, hb]
          rw [hb] at b4
          clear hat
          go_wp2
          go_roundw
          case rel => exact ⟨5, by omega, by go_num, hn, by first | rfl | trivial⟩
          case measure => simp [intOf]
        | false =>
          have hf : Hid (hasAll hs ps = false) := by show hasAll hs ps = _; rw [hat.out, EH.out, EP.out]; simp [hasAll, e, hb]
          rw [hb] at b4
          clear hat
          go_wp2
          go_ret
          exact ⟨ret_bool hf.out.symm, hB⟩
    · have hx := idxP5 p0 p1 p2 p3 p4 p5 p6 p7
      by_cases e : p5 = 0
      · subst e
        have hn : Hid (hasAll hs ps = hasAll (hs.drop 6) (ps.drop 6)) := by show hasAll hs ps = _; rw [hat.out, EH.out, EP.out]; simp [hasAll]
        clear hat
        go_wp2
        go_roundw
        case rel => exact ⟨6, by omega, by go_num, hn, by first | rfl | trivial⟩
        case measure => simp [intOf]
      · cases hb : h5 with
        | true =>
          have hn : Hid (hasAll hs ps = hasAll (hs.drop 6) (ps.drop 6)) := by show hasAll hs ps = _; rw [hat.out, EH.out, EP.out]; simp [hasAll, hb]
          rw [hb] at b5
          clear hat
          go_wp2
          go_roundw
          case rel => exact ⟨6, by omega, by go_num, hn, by first | rfl | trivial⟩
          case measure => simp [intOf]
        | false =>
          have hf : Hid (hasAll hs ps = false) := by show hasAll hs ps = _; rw [hat.out, EH.out, EP.out]; simp [hasAll, e, hb]
          rw [hb] at b5
          clear hat
          go_wp2
          go_ret
          exact ⟨ret_bool hf.out.symm, hB⟩
    · have hx := idxP6 p0 p1 p2 p3 p4 p5 p6 p7
      by_cases e : p6 = 0
      · subst e
        have hn : Hid (hasAll hs ps = hasAll (hs.drop 7) (ps.drop 7)) := by show hasAll hs ps = _; rw [hat.out, EH.out, EP.out]; simp [hasAll]
        clear hat
        go_wp2
        go_roundw
        case rel => exact ⟨7, by omega, by go_num, hn, by first | rfl | trivial⟩
        case measure => simp [intOf]
      · cases hb : h6 with
        | true =>
          have hn : Hid (hasAll hs ps = hasAll (hs.drop 7) (ps.drop 7)) := by show hasAll hs ps = _; rw [hat.out, EH.out, EP.out]; simp [hasAll, hb]
          rw [hb] at b6
          clear hat
          go_wp2
          go_roundw
          case rel => exact ⟨7, by omega, by go_num, hn, by first | rfl | trivial⟩
          case measure => simp [intOf]
        | false =>
          have hf : Hid (hasAll hs ps = false) := by show hasAll hs ps = _; rw [hat.out, EH.out, EP.out]; simp [hasAll, e, hb]
          rw [hb] at b6
          clear hat
          go_wp2
          go_ret
          exact ⟨ret_bool hf.out.symm, hB⟩
    · have hx := idxP7 p0 p1 p2 p3 p4 p5 p6 p7
      by_cases e : p7 = 0
      · subst e
        have hn : Hid (hasAll hs ps = hasAll (hs.drop 8) (ps.drop 8)) := by show hasAll hs ps = _; rw [hat.out, EH.out, EP.out]; simp [hasAll]
        clear hat
        go_wp2
        go_roundw
        case rel => exact ⟨8, by omega, by go_num, hn, by first | rfl | trivial⟩
        case measure => simp [intOf]
      · cases hb : h7 with
        | true =>
          have hn : Hid (hasAll hs ps = hasAll (hs.drop 8) (ps.drop 8)) := by show hasAll hs ps = _; rw [hat.out, EH.out, EP.out]; simp [hasAll, hb]
          rw [hb] at b7
          clear hat
          go_wp2
          go_roundw
          case rel => exact ⟨8, by omega, by go_num, hn, by first | rfl | trivial⟩
          case measure => simp [intOf]
        | false =>
          have hf : Hid (hasAll hs ps = false) := by show hasAll hs ps = _; rw [hat.out, EH.out, EP.out]; simp [hasAll, e, hb]
          rw [hb] at b7
          clear hat
          go_wp2
          go_ret
          exact ⟨ret_bool hf.out.symm, hB⟩
    · go_wp2
      go_ret
      exact ⟨ret_bool (by rw [hat.out, EH.out, EP.out]; rfl), hB⟩

/-- The table of tops, as the program lays it. -/
def TopsAt (w : World) : Prop := w.cell? ⟨1, 0, none⟩ = some (.int .i64 5) ∧ w.cell? ⟨1, 1, none⟩ = some (.int .i64 7) ∧ w.cell? ⟨1, 2, none⟩ = some (.int .i64 1073741824) ∧ w.cell? ⟨1, 3, none⟩ = some (.int .i64 1048576) ∧ w.cell? ⟨1, 4, none⟩ = some (.int .i64 1048576) ∧ w.cell? ⟨1, 5, none⟩ = some (.int .i64 1) ∧ w.cell? ⟨1, 6, none⟩ = some (.int .i64 11) ∧ w.cell? ⟨1, 7, none⟩ = some (.int .i64 4)
theorem TopsAt.below {w w' : World} {B : Nat} (h : TopsAt w) (hb : Below B w w') (hB : 1 < B) : TopsAt w' := by
  unfold TopsAt at h ⊢
  simp only [fun i => hb.cell (p := ⟨1, i, none⟩) hB]
  exact h

set_option maxRecDepth 100000 in
set_option maxHeartbeats 1000000 in
theorem inBoundsW_any (s p : Int) (a : Option Addr) (len cap : Nat) (p0 p1 p2 p3 p4 p5 p6 p7 : Int) (w : World) (hl : len ≤ 6) (ht : TopsAt w) (hg : 1 < w.heap.size) :
    Calls Tryd.prog 80 #[.agg #[.int .i64 s, .slice a len cap, .int .i64 p], .agg #[.int .i64 p0, .int .i64 p1, .int .i64 p2, .int .i64 p3, .int .i64 p4, .int .i64 p5, .int .i64 p6, .int .i64 p7]] w
      fun e w' => e = .returned (.bool (partsOK len [p0, p1, p2, p3, p4, p5, p6, p7])) ∧ Below w.heap.size w w' := by
  obtain ⟨W, hW⟩ : ∃ W : World, W = (w.alloc (.cells #[.int .i64 s, .slice a len cap, .int .i64 p] 25)).alloc (.cells #[.int .i64 p0, .int .i64 p1, .int .i64 p2, .int .i64 p3, .int .i64 p4, .int .i64 p5, .int .i64 p6, .int .i64 p7] 125) := ⟨_, rfl⟩
  have hB : Below w.heap.size w W := by rw [hW]; exact ((Below.refl _ _).alloc (Nat.le_refl _) _).alloc (by simp) _
  have zW : W.heap.size = w.heap.size + 2 := by rw [hW]; simp
  have d0 : W.cell? ⟨w.heap.size, 0, none⟩ = some (.int .i64 s) := by rw [hW]; go_simp
  have d1 : W.cell? ⟨w.heap.size, 1, none⟩ = some (.slice a len cap) := by rw [hW]; go_simp
  have d2 : W.cell? ⟨w.heap.size, 2, none⟩ = some (.int .i64 p) := by rw [hW]; go_simp

  have b0 : W.cell? ⟨w.heap.size + 1, 0, none⟩ = some (.int .i64 p0) := by rw [hW]; go_simp
  have b1 : W.cell? ⟨w.heap.size + 1, 1, none⟩ = some (.int .i64 p1) := by rw [hW]; go_simp
  have b2 : W.cell? ⟨w.heap.size + 1, 2, none⟩ = some (.int .i64 p2) := by rw [hW]; go_simp
  have b3 : W.cell? ⟨w.heap.size + 1, 3, none⟩ = some (.int .i64 p3) := by rw [hW]; go_simp
  have b4 : W.cell? ⟨w.heap.size + 1, 4, none⟩ = some (.int .i64 p4) := by rw [hW]; go_simp
  have b5 : W.cell? ⟨w.heap.size + 1, 5, none⟩ = some (.int .i64 p5) := by rw [hW]; go_simp
  have b6 : W.cell? ⟨w.heap.size + 1, 6, none⟩ = some (.int .i64 p6) := by rw [hW]; go_simp
  have b7 : W.cell? ⟨w.heap.size + 1, 7, none⟩ = some (.int .i64 p7) := by rw [hW]; go_simp
  obtain ⟨t0, t1, t2, t3, t4, t5, t6, t7⟩ := (ht.below hB hg : TopsAt W)
  obtain ⟨qs, eqs⟩ : ∃ qs, qs = [p0, p1, p2, p3, p4, p5, p6, p7] := ⟨_, rfl⟩
  rw [← eqs]
  have EP : Hid (qs = [p0, p1, p2, p3, p4, p5, p6, p7]) := eqs
  clear eqs
  go_enter Tryd.func80, Tryd.ntmps80
  go_upto_region 1 with (fail)
  rw [← hW]
  clear hW
  go_wp2
  go_loopw [8] (fun i wr => ∃ k : Nat, k ≤ 8 ∧ i = .int .i64 k ∧ Hid (inTops topL qs = inTops (topL.drop k) (qs.drop k)) ∧ wr = W) (fun i _ => 8 - (intOf i).toNat)
  case atStart => exact ⟨0, by omega, rfl, rfl, rfl⟩
  case round =>
    obtain ⟨k, hk, rfl, hat, rfl⟩ := hrel
    rcases (by omega : k = 0 ∨ k = 1 ∨ k = 2 ∨ k = 3 ∨ k = 4 ∨ k = 5 ∨ k = 6 ∨ k = 7 ∨ k = 8) with rfl | rfl | rfl | rfl | rfl | rfl | rfl | rfl | rfl
    · have hx := idxA0 5 7 1073741824 1048576 1048576 1 11 4
      cases e : inR p0 0 5 with
      | true =>
        have hn : Hid (inTops topL qs = inTops (topL.drop 1) (qs.drop 1)) := by show inTops topL qs = _; rw [hat.out, EP.out]; simp [inTops, topL, e]
        clear hat
        go_wp2_with (go_at_call 19; refine (within_any _ _ _ _).mono ?_; rintro e u1 ⟨rfl, hu1⟩; rw [hu1]; clear hu1)
        go_roundw
        case rel => exact ⟨1, by omega, by go_num, hn, by first | rfl | trivial⟩
        case measure => simp [intOf]
      | false =>
        have hf : Hid (partsOK len qs = false) := by show partsOK len qs = _; unfold partsOK; rw [hat.out, EP.out]; simp [inTops, topL, e]
        clear hat
        go_wp2_with (go_at_call 19; refine (within_any _ _ _ _).mono ?_; rintro e u1 ⟨rfl, hu1⟩; rw [hu1]; clear hu1)
        go_ret
        exact ⟨ret_bool hf.out.symm, hB⟩
    · have hx := idxA1 5 7 1073741824 1048576 1048576 1 11 4
      cases e : inR p1 0 7 with
      | true =>
        have hn : Hid (inTops topL qs = inTops (topL.drop 2) (qs.drop 2)) := by show inTops topL qs = _; rw [hat.out, EP.out]; simp [inTops, topL, e]
        clear hat
        go_wp2_with (go_at_call 19; refine (within_any _ _ _ _).mono ?_; rintro e u1 ⟨rfl, hu1⟩; rw [hu1]; clear hu1)
        go_roundw
        case rel => exact ⟨2, by omega, by go_num, hn, by first | rfl | trivial⟩
        case measure => simp [intOf]
      | false =>
        have hf : Hid (partsOK len qs = false) := by show partsOK len qs = _; unfold partsOK; rw [hat.out, EP.out]; simp [inTops, topL, e]
        clear hat
        go_wp2_with (go_at_call 19; refine (within_any _ _ _ _).mono ?_; rintro e u1 ⟨rfl, hu1⟩; rw [hu1]; clear hu1)
        go_ret
        exact ⟨ret_bool hf.out.symm, hB⟩
    · have hx := idxA2 5 7 1073741824 1048576 1048576 1 11 4
      cases e : inR p2 0 1073741824 with
      | true =>
        have hn : Hid (inTops topL qs = inTops (topL.drop 3) (qs.drop 3)) := by show inTops topL qs = _; rw [hat.out, EP.out]; simp [inTops, topL, e]
        clear hat
        go_wp2_with (go_at_call 19; refine (within_any _ _ _ _).mono ?_; rintro e u1 ⟨rfl, hu1⟩; rw [hu1]; clear hu1)
        go_roundw
        case rel => exact ⟨3, by omega, by go_num, hn, by first | rfl | trivial⟩
        case measure => simp [intOf]
      | false =>
        have hf : Hid (partsOK len qs = false) := by show partsOK len qs = _; unfold partsOK; rw [hat.out, EP.out]; simp [inTops, topL, e]
        clear hat
        go_wp2_with (go_at_call 19; refine (within_any _ _ _ _).mono ?_; rintro e u1 ⟨rfl, hu1⟩; rw [hu1]; clear hu1)
        go_ret
        exact ⟨ret_bool hf.out.symm, hB⟩
    · have hx := idxA3 5 7 1073741824 1048576 1048576 1 11 4
      cases e : inR p3 0 1048576 with
      | true =>
        have hn : Hid (inTops topL qs = inTops (topL.drop 4) (qs.drop 4)) := by show inTops topL qs = _; rw [hat.out, EP.out]; simp [inTops, topL, e]
        clear hat
        go_wp2_with (go_at_call 19; refine (within_any _ _ _ _).mono ?_; rintro e u1 ⟨rfl, hu1⟩; rw [hu1]; clear hu1)
        go_roundw
        case rel => exact ⟨4, by omega, by go_num, hn, by first | rfl | trivial⟩
        case measure => simp [intOf]
      | false =>
        have hf : Hid (partsOK len qs = false) := by show partsOK len qs = _; unfold partsOK; rw [hat.out, EP.out]; simp [inTops, topL, e]
        clear hat
        go_wp2_with (go_at_call 19; refine (within_any _ _ _ _).mono ?_; rintro e u1 ⟨rfl, hu1⟩; rw [hu1]; clear hu1)
        go_ret
        exact ⟨ret_bool hf.out.symm, hB⟩
    · have hx := idxA4 5 7 1073741824 1048576 1048576 1 11 4
      cases e : inR p4 0 1048576 with
      | true =>
        have hn : Hid (inTops topL qs = inTops (topL.drop 5) (qs.drop 5)) := by show inTops topL qs = _; rw [hat.out, EP.out]; simp [inTops, topL, e]
        clear hat
        go_wp2_with (go_at_call 19; refine (within_any _ _ _ _).mono ?_; rintro e u1 ⟨rfl, hu1⟩; rw [hu1]; clear hu1)
        go_roundw
        case rel => exact ⟨5, by omega, by go_num, hn, by first | rfl | trivial⟩
        case measure => simp [intOf]
      | false =>
        have hf : Hid (partsOK len qs = false) := by show partsOK len qs = _; unfold partsOK; rw [hat.out, EP.out]; simp [inTops, topL, e]
        clear hat
        go_wp2_with (go_at_call 19; refine (within_any _ _ _ _).mono ?_; rintro e u1 ⟨rfl, hu1⟩; rw [hu1]; clear hu1)
        go_ret
        exact ⟨ret_bool hf.out.symm, hB⟩
    · have hx := idxA5 5 7 1073741824 1048576 1048576 1 11 4
      cases e : inR p5 0 1 with
      | true =>
        have hn : Hid (inTops topL qs = inTops (topL.drop 6) (qs.drop 6)) := by show inTops topL qs = _; rw [hat.out, EP.out]; simp [inTops, topL, e]
        clear hat
        go_wp2_with (go_at_call 19; refine (within_any _ _ _ _).mono ?_; rintro e u1 ⟨rfl, hu1⟩; rw [hu1]; clear hu1)
        go_roundw
        case rel => exact ⟨6, by omega, by go_num, hn, by first | rfl | trivial⟩
        case measure => simp [intOf]
      | false =>
        have hf : Hid (partsOK len qs = false) := by show partsOK len qs = _; unfold partsOK; rw [hat.out, EP.out]; simp [inTops, topL, e]
        clear hat
        go_wp2_with (go_at_call 19; refine (within_any _ _ _ _).mono ?_; rintro e u1 ⟨rfl, hu1⟩; rw [hu1]; clear hu1)
        go_ret
        exact ⟨ret_bool hf.out.symm, hB⟩
    · have hx := idxA6 5 7 1073741824 1048576 1048576 1 11 4
      cases e : inR p6 0 11 with
      | true =>
        have hn : Hid (inTops topL qs = inTops (topL.drop 7) (qs.drop 7)) := by show inTops topL qs = _; rw [hat.out, EP.out]; simp [inTops, topL, e]
        clear hat
        go_wp2_with (go_at_call 19; refine (within_any _ _ _ _).mono ?_; rintro e u1 ⟨rfl, hu1⟩; rw [hu1]; clear hu1)
        go_roundw
        case rel => exact ⟨7, by omega, by go_num, hn, by first | rfl | trivial⟩
        case measure => simp [intOf]
      | false =>
        have hf : Hid (partsOK len qs = false) := by show partsOK len qs = _; unfold partsOK; rw [hat.out, EP.out]; simp [inTops, topL, e]
        clear hat
        go_wp2_with (go_at_call 19; refine (within_any _ _ _ _).mono ?_; rintro e u1 ⟨rfl, hu1⟩; rw [hu1]; clear hu1)
        go_ret
        exact ⟨ret_bool hf.out.symm, hB⟩
    · have hx := idxA7 5 7 1073741824 1048576 1048576 1 11 4
      cases e : inR p7 0 4 with
      | true =>
        have hn : Hid (inTops topL qs = inTops (topL.drop 8) (qs.drop 8)) := by show inTops topL qs = _; rw [hat.out, EP.out]; simp [inTops, topL, e]
        clear hat
        go_wp2_with (go_at_call 19; refine (within_any _ _ _ _).mono ?_; rintro e u1 ⟨rfl, hu1⟩; rw [hu1]; clear hu1)
        go_roundw
        case rel => exact ⟨8, by omega, by go_num, hn, by first | rfl | trivial⟩
        case measure => simp [intOf]
      | false =>
        have hf : Hid (partsOK len qs = false) := by show partsOK len qs = _; unfold partsOK; rw [hat.out, EP.out]; simp [inTops, topL, e]
        clear hat
        go_wp2_with (go_at_call 19; refine (within_any _ _ _ _).mono ?_; rintro e u1 ⟨rfl, hu1⟩; rw [hu1]; clear hu1)
        go_ret
        exact ⟨ret_bool hf.out.symm, hB⟩
    · have hT : inTops topL qs = true := by rw [hat.out, EP.out]; rfl
      have hP : Hid (partsOK len qs = (plc p0 len && isCd p6)) := by show partsOK len qs = _; unfold partsOK; rw [hT, EP.out]; simp
      clear hat hT
      cases e : plc p0 len with
      | true =>
        go_wp2_with (first
          | (go_at_call 41; refine (place_any s p a len cap p0 _ hl).mono ?_; rintro e u1 ⟨rfl, hu1⟩; obtain ⟨hc1, hf1⟩ := bcell hu1)
          | (go_at_call 89; refine (isCode_any _ _).mono ?_; rintro e u2 ⟨rfl, hu2⟩; rw [hu2]; clear hu2))
        go_ret
        exact ⟨ret_bool (by rw [hP.out, e]; simp), hB.trans (hu1.mono hB.size)⟩
      | false =>
        go_wp2_with (go_at_call 41; refine (place_any s p a len cap p0 _ hl).mono ?_; rintro e u1 ⟨rfl, hu1⟩)
        go_ret
        exact ⟨ret_bool (by rw [hP.out, e]; simp), hB.trans (hu1.mono hB.size)⟩
end Go.Proofs.YtdjnaahkcnklhaaDoor
/- The contract of wire.CheckMessage: at every config and message it returns the fault that msgFault tells, and leaves what was in memory. -/
namespace Go.Proofs.YtdjnaahkcnklhaaDoor
open Go.ChangeShapes Go.WideShapes Go.ChangeAt Go.RowKit
set_option linter.unusedVariables false

/-- A table of which kind has which parts, as the program lays it. -/
def HasAt (w : World) (g : Nat) (t : List (List Bool)) : Prop := ∀ i j, i < t.length → j < 8 → w.cell? ⟨g, i * 8 + j, none⟩ = some (.bool ((t.getD i []).getD j false))
theorem HasAt.below {w w' : World} {B g : Nat} {t : List (List Bool)} (h : HasAt w g t) (hb : Below B w w') (hB : g < B) : HasAt w' g t := by
  intro i j hi hj
  rw [hb.cell (p := ⟨g, i * 8 + j, none⟩) hB]
  exact h i j hi hj

theorem HasAt.lt {w : World} {g : Nat} {t : List (List Bool)} (h : HasAt w g t) (ht : 0 < t.length) : g < w.heap.size := World.block_lt_of_cell? w _ (h 0 0 ht (by decide))

theorem mHas_eight (k : Nat) (hk : k < 10) : mHas.getD k [] = [(mHas.getD k []).getD 0 false, (mHas.getD k []).getD 1 false, (mHas.getD k []).getD 2 false, (mHas.getD k []).getD 3 false, (mHas.getD k []).getD 4 false, (mHas.getD k []).getD 5 false, (mHas.getD k []).getD 6 false, (mHas.getD k []).getD 7 false] := by
  rcases (by omega : k = 0 ∨ k = 1 ∨ k = 2 ∨ k = 3 ∨ k = 4 ∨ k = 5 ∨ k = 6 ∨ k = 7 ∨ k = 8 ∨ k = 9) with rfl | rfl | rfl | rfl | rfl | rfl | rfl | rfl | rfl | rfl <;> rfl

set_option maxRecDepth 100000 in
set_option maxHeartbeats 4000000 in
theorem checkMessage_any (s p : Int) (a : Option Addr) (len cap : Nat) (ls : List (Int × Int)) (m : MV) (w : World) (h : IsLabs w a len cap ls) (hm : HasAt w 0 mHas) (ht : TopsAt w) :
    Calls Tryd.prog 58 #[.agg #[.int .i64 s, .slice a len cap, .int .i64 p], m.val] w fun e w' => e = .returned (.int .i64 (msgFault s ls p m)) ∧ Below w.heap.size w w' := by
  have hPs := fun w' => messageParts_any m w'
  have hgT : 1 < w.heap.size := World.block_lt_of_cell? w _ ht.1
  have hgM : 0 < w.heap.size := hm.lt (by decide)
  obtain ⟨kind, frm, dst, site, num, label, key, value, version, ask, yes, code⟩ := m
  obtain ⟨M, eM⟩ : ∃ M : MV, M = ⟨kind, frm, dst, site, num, label, key, value, version, ask, yes, code⟩ := ⟨_, rfl⟩
  have EM : Hid (M = ⟨kind, frm, dst, site, num, label, key, value, version, ask, yes, code⟩) := eM
  rw [← eM]
  rw [eM]
  have hMF : ∀ v, msgFault s ls p M = v → msgFault s ls p ⟨kind, frm, dst, site, num, label, key, value, version, ask, yes, code⟩ = v := fun v hv => by rw [← eM]; exact hv
  have MF : Hid (∀ v, msgFault s ls p M = v → msgFault s ls p ⟨kind, frm, dst, site, num, label, key, value, version, ask, yes, code⟩ = v) := hMF
  clear hMF eM
  simp only [MV.val] at hPs ⊢
  obtain ⟨W, hW⟩ : ∃ W : World, W = (w.alloc (.cells #[.int .i64 s, .slice a len cap, .int .i64 p] 25)).alloc (.cells #[.int .i64 kind, .int .i64 frm, .int .i64 dst, .int .i64 site, .int .i64 num, .int .i64 label, .int .i64 key, .int .i64 value, .int .i64 version, .int .i64 ask, .bool yes, .int .i64 code] 58) := ⟨_, rfl⟩
  have hB : Below w.heap.size w W := by rw [hW]; exact ((Below.refl _ _).alloc (Nat.le_refl _) _).alloc (by simp) _
  have zW : W.heap.size = w.heap.size + 2 := by rw [hW]; simp
  have c0 : W.cell? ⟨w.heap.size, 0, none⟩ = some (.int .i64 s) := by rw [hW]; go_simp
  have c1 : W.cell? ⟨w.heap.size, 1, none⟩ = some (.slice a len cap) := by rw [hW]; go_simp
  have c2 : W.cell? ⟨w.heap.size, 2, none⟩ = some (.int .i64 p) := by rw [hW]; go_simp
  have d0 : W.cell? ⟨w.heap.size + 1, 0, none⟩ = some (.int .i64 kind) := by rw [hW]; go_simp
  have d1 : W.cell? ⟨w.heap.size + 1, 1, none⟩ = some (.int .i64 frm) := by rw [hW]; go_simp
  have d2 : W.cell? ⟨w.heap.size + 1, 2, none⟩ = some (.int .i64 dst) := by rw [hW]; go_simp
  have d3 : W.cell? ⟨w.heap.size + 1, 3, none⟩ = some (.int .i64 site) := by rw [hW]; go_simp
  have d4 : W.cell? ⟨w.heap.size + 1, 4, none⟩ = some (.int .i64 num) := by rw [hW]; go_simp
  have d5 : W.cell? ⟨w.heap.size + 1, 5, none⟩ = some (.int .i64 label) := by rw [hW]; go_simp
  have d6 : W.cell? ⟨w.heap.size + 1, 6, none⟩ = some (.int .i64 key) := by rw [hW]; go_simp
  have d7 : W.cell? ⟨w.heap.size + 1, 7, none⟩ = some (.int .i64 value) := by rw [hW]; go_simp
  have d8 : W.cell? ⟨w.heap.size + 1, 8, none⟩ = some (.int .i64 version) := by rw [hW]; go_simp
  have d9 : W.cell? ⟨w.heap.size + 1, 9, none⟩ = some (.int .i64 ask) := by rw [hW]; go_simp
  have d10 : W.cell? ⟨w.heap.size + 1, 10, none⟩ = some (.bool yes) := by rw [hW]; go_simp
  have d11 : W.cell? ⟨w.heap.size + 1, 11, none⟩ = some (.int .i64 code) := by rw [hW]; go_simp
  have hLW := h.below hB
  have tW : TopsAt W := ht.below hB (by omega)
  have mW : HasAt W 0 mHas := hm.below hB (by omega)
  go_enter Tryd.func58, Tryd.ntmps58
  go_upto_region 1 with (fail)
  rw [← hW]
  clear hW ht hm
  by_cases hF : cfgFault s ls p = 0
  · obtain ⟨s1, s4, n1, n6, _, _, _⟩ := cfg_zero hF
    have hlen : Hid (ls.length = len) := h.1
    have l6 : len ≤ 6 := by have := hlen.out; omega
    go_upto_region 4 with (go_at_call 18; refine (check_any s p a len cap ls _ hLW).mono ?_; rintro e w1 ⟨rfl, hb1⟩)
    have KC : Hid (∀ (V : World), Below W.heap.size W V → (V.cell? ⟨w.heap.size, 0, none⟩ = some (.int .i64 s) ∧ V.cell? ⟨w.heap.size, 1, none⟩ = some (.slice a len cap) ∧ V.cell? ⟨w.heap.size, 2, none⟩ = some (.int .i64 p)) ∧
        V.cell? ⟨w.heap.size + 1, 0, none⟩ = some (.int .i64 kind) ∧ V.cell? ⟨w.heap.size + 1, 1, none⟩ = some (.int .i64 frm) ∧ V.cell? ⟨w.heap.size + 1, 2, none⟩ = some (.int .i64 dst) ∧ V.cell? ⟨w.heap.size + 1, 3, none⟩ = some (.int .i64 site) ∧ V.cell? ⟨w.heap.size + 1, 4, none⟩ = some (.int .i64 num) ∧ V.cell? ⟨w.heap.size + 1, 5, none⟩ = some (.int .i64 label) ∧ V.cell? ⟨w.heap.size + 1, 6, none⟩ = some (.int .i64 key) ∧ V.cell? ⟨w.heap.size + 1, 7, none⟩ = some (.int .i64 value) ∧ V.cell? ⟨w.heap.size + 1, 8, none⟩ = some (.int .i64 version) ∧ V.cell? ⟨w.heap.size + 1, 9, none⟩ = some (.int .i64 ask) ∧ V.cell? ⟨w.heap.size + 1, 10, none⟩ = some (.bool yes) ∧ V.cell? ⟨w.heap.size + 1, 11, none⟩ = some (.int .i64 code)) := by
      intro V hV
      have e0 : ∀ o, V.cell? ⟨w.heap.size, o, none⟩ = W.cell? ⟨w.heap.size, o, none⟩ := fun o => hV.cell (p := ⟨w.heap.size, o, none⟩) (by show w.heap.size < _; omega)
      have e1 : ∀ o, V.cell? ⟨w.heap.size + 1, o, none⟩ = W.cell? ⟨w.heap.size + 1, o, none⟩ := fun o => hV.cell (p := ⟨w.heap.size + 1, o, none⟩) (by show w.heap.size + 1 < _; omega)
      simp only [e0, e1]
      exact ⟨⟨c0, c1, c2⟩, d0, d1, d2, d3, d4, d5, d6, d7, d8, d9, d10, d11⟩
    clear c0 c1 c2 d0 d1 d2 d3 d4 d5 d6 d7 d8 d9 d10 d11
    obtain ⟨⟨c0, c1, c2⟩, d0, d1, d2, d3, d4, d5, d6, d7, d8, d9, d10, d11⟩ := KC.out w1 hb1
    cases hK : inR kind 1 9 with
    | false =>
      have hf := MF.out 3 (mf_kind hF (by rw [EM.out]; exact hK))
      go_wp2_with (go_at_call 19; refine (within_any _ _ _ _).mono ?_; rintro e u1 ⟨rfl, hu1⟩; rw [hu1]; clear hu1)
      go_ret
      exact ⟨ret_int hf.symm, hB.trans (hb1.mono hB.size)⟩
    | true =>
      have kb := inR_of hK
      obtain ⟨k, rfl⟩ : ∃ k : Nat, kind = k := ⟨kind.toNat, by omega⟩
      have k10 : k < 10 := by omega
      have k9 : (k : Int) < 10 := by omega
      go_upto_region 6 with (go_at_call 19; refine (within_any _ _ _ _).mono ?_; rintro e u1 ⟨rfl, hu1⟩; rw [hu1]; clear hu1)
      go_upto_region 7 with (go_at_call 78; refine (hPs _).mono ?_; rintro e w2 ⟨rfl, hb2⟩)
      obtain ⟨V, hV⟩ : ∃ V : World, V = w2.alloc (.cells #[.int .i64 label, .int .i64 key, .int .i64 value, .int .i64 version, .int .i64 ask, .int .i64 (bit yes), .int .i64 code, .int .i64 0] 125) := ⟨_, rfl⟩
      have hbW : Below W.heap.size W V := by rw [hV]; exact (hb1.trans (hb2.mono hb1.size)).alloc (by have := hb1.size; have := hb2.size; omega) _
      have zV : V.heap.size = w2.heap.size + 1 := by rw [hV]; simp
      have zw2 : W.heap.size ≤ w2.heap.size := Nat.le_trans hb1.size hb2.size
      have e0 : V.cell? ⟨w2.heap.size, 0, none⟩ = some (.int .i64 label) := by rw [hV]; go_simp
      have e1 : V.cell? ⟨w2.heap.size, 1, none⟩ = some (.int .i64 key) := by rw [hV]; go_simp
      have e2 : V.cell? ⟨w2.heap.size, 2, none⟩ = some (.int .i64 value) := by rw [hV]; go_simp
      have e3 : V.cell? ⟨w2.heap.size, 3, none⟩ = some (.int .i64 version) := by rw [hV]; go_simp
      have e4 : V.cell? ⟨w2.heap.size, 4, none⟩ = some (.int .i64 ask) := by rw [hV]; go_simp
      have e5 : V.cell? ⟨w2.heap.size, 5, none⟩ = some (.int .i64 (bit yes)) := by rw [hV]; go_simp
      have e6 : V.cell? ⟨w2.heap.size, 6, none⟩ = some (.int .i64 code) := by rw [hV]; go_simp
      have e7 : V.cell? ⟨w2.heap.size, 7, none⟩ = some (.int .i64 0) := by rw [hV]; go_simp
      rw [← hV]
      clear hV
      have tV : TopsAt V := tW.below hbW (by omega)
      have mV : HasAt V 0 mHas := mW.below hbW (by omega)
      have EH : Hid (mHas.getD k [] = [(mHas.getD k []).getD 0 false, (mHas.getD k []).getD 1 false, (mHas.getD k []).getD 2 false, (mHas.getD k []).getD 3 false, (mHas.getD k []).getD 4 false, (mHas.getD k []).getD 5 false, (mHas.getD k []).getD 6 false, (mHas.getD k []).getD 7 false]) := mHas_eight k k10
      have f0 := mV k 0 k10 (by decide)
      have f1 := mV k 1 k10 (by decide)
      have f2 := mV k 2 k10 (by decide)
      have f3 := mV k 3 k10 (by decide)
      have f4 := mV k 4 k10 (by decide)
      have f5 := mV k 5 k10 (by decide)
      have f6 := mV k 6 k10 (by decide)
      have f7 := mV k 7 k10 (by decide)
      obtain ⟨h0, eh0⟩ : ∃ x, x = (mHas.getD k []).getD 0 false := ⟨_, rfl⟩
      obtain ⟨h1, eh1⟩ : ∃ x, x = (mHas.getD k []).getD 1 false := ⟨_, rfl⟩
      obtain ⟨h2, eh2⟩ : ∃ x, x = (mHas.getD k []).getD 2 false := ⟨_, rfl⟩
      obtain ⟨h3, eh3⟩ : ∃ x, x = (mHas.getD k []).getD 3 false := ⟨_, rfl⟩
      obtain ⟨h4, eh4⟩ : ∃ x, x = (mHas.getD k []).getD 4 false := ⟨_, rfl⟩
      obtain ⟨h5, eh5⟩ : ∃ x, x = (mHas.getD k []).getD 5 false := ⟨_, rfl⟩
      obtain ⟨h6, eh6⟩ : ∃ x, x = (mHas.getD k []).getD 6 false := ⟨_, rfl⟩
      obtain ⟨h7, eh7⟩ : ∃ x, x = (mHas.getD k []).getD 7 false := ⟨_, rfl⟩
      rw [← eh0, ← eh1, ← eh2, ← eh3, ← eh4, ← eh5, ← eh6, ← eh7] at EH
      rw [← eh0] at f0
      rw [← eh1] at f1
      rw [← eh2] at f2
      rw [← eh3] at f3
      rw [← eh4] at f4
      rw [← eh5] at f5
      rw [← eh6] at f6
      rw [← eh7] at f7
      clear eh0 eh1 eh2 eh3 eh4 eh5 eh6 eh7
      simp only [Nat.add_zero] at f0
      have KA : Hid (∀ (U : World), Below V.heap.size V U → (U.cell? ⟨w.heap.size, 0, none⟩ = some (.int .i64 s) ∧ U.cell? ⟨w.heap.size, 1, none⟩ = some (.slice a len cap) ∧ U.cell? ⟨w.heap.size, 2, none⟩ = some (.int .i64 p)) ∧ (U.cell? ⟨w.heap.size + 1, 0, none⟩ = some (.int .i64 k) ∧ U.cell? ⟨w.heap.size + 1, 1, none⟩ = some (.int .i64 frm) ∧ U.cell? ⟨w.heap.size + 1, 2, none⟩ = some (.int .i64 dst) ∧ U.cell? ⟨w.heap.size + 1, 3, none⟩ = some (.int .i64 site) ∧ U.cell? ⟨w.heap.size + 1, 4, none⟩ = some (.int .i64 num) ∧ U.cell? ⟨w.heap.size + 1, 5, none⟩ = some (.int .i64 label) ∧ U.cell? ⟨w.heap.size + 1, 6, none⟩ = some (.int .i64 key) ∧ U.cell? ⟨w.heap.size + 1, 7, none⟩ = some (.int .i64 value) ∧ U.cell? ⟨w.heap.size + 1, 8, none⟩ = some (.int .i64 version) ∧ U.cell? ⟨w.heap.size + 1, 9, none⟩ = some (.int .i64 ask) ∧ U.cell? ⟨w.heap.size + 1, 10, none⟩ = some (.bool yes) ∧ U.cell? ⟨w.heap.size + 1, 11, none⟩ = some (.int .i64 code)) ∧ (U.cell? ⟨w2.heap.size, 0, none⟩ = some (.int .i64 label) ∧ U.cell? ⟨w2.heap.size, 1, none⟩ = some (.int .i64 key) ∧ U.cell? ⟨w2.heap.size, 2, none⟩ = some (.int .i64 value) ∧ U.cell? ⟨w2.heap.size, 3, none⟩ = some (.int .i64 version) ∧ U.cell? ⟨w2.heap.size, 4, none⟩ = some (.int .i64 ask) ∧ U.cell? ⟨w2.heap.size, 5, none⟩ = some (.int .i64 (bit yes)) ∧ U.cell? ⟨w2.heap.size, 6, none⟩ = some (.int .i64 code) ∧ U.cell? ⟨w2.heap.size, 7, none⟩ = some (.int .i64 0)) ∧ (U.cell? ⟨0, k * 8, none⟩ = some (.bool h0) ∧ U.cell? ⟨0, k * 8 + 1, none⟩ = some (.bool h1) ∧ U.cell? ⟨0, k * 8 + 2, none⟩ = some (.bool h2) ∧ U.cell? ⟨0, k * 8 + 3, none⟩ = some (.bool h3) ∧ U.cell? ⟨0, k * 8 + 4, none⟩ = some (.bool h4) ∧ U.cell? ⟨0, k * 8 + 5, none⟩ = some (.bool h5) ∧ U.cell? ⟨0, k * 8 + 6, none⟩ = some (.bool h6) ∧ U.cell? ⟨0, k * 8 + 7, none⟩ = some (.bool h7))) := by
        intro U hU
        have q1 : ∀ o, U.cell? ⟨w2.heap.size, o, none⟩ = V.cell? ⟨w2.heap.size, o, none⟩ := fun o => hU.cell (p := ⟨w2.heap.size, o, none⟩) (by show w2.heap.size < _; omega)
        have q2 : ∀ o, U.cell? ⟨0, o, none⟩ = V.cell? ⟨0, o, none⟩ := fun o => hU.cell (p := ⟨0, o, none⟩) (by show 0 < _; omega)
        obtain ⟨hc, hd⟩ := KC.out U (hbW.trans (hU.mono hbW.size))
        refine ⟨hc, hd, ?_, ?_⟩
        · simp only [q1]
          exact ⟨e0, e1, e2, e3, e4, e5, e6, e7⟩
        · simp only [q2]
          exact ⟨f0, f1, f2, f3, f4, f5, f6, f7⟩
      clear c0 c1 c2 d0 d1 d2 d3 d4 d5 d6 d7 d8 d9 d10 d11 e0 e1 e2 e3 e4 e5 e6 e7 f0 f1 f2 f3 f4 f5 f6 f7
      have hbv : Below V.heap.size V V := Below.refl _ _
      have hbw : Below w.heap.size w V := hB.trans (hbW.mono hB.size)
      obtain ⟨⟨c0, c1, c2⟩, ⟨d0, d1, d2, d3, d4, d5, d6, d7, d8, d9, d10, d11⟩, ⟨e0, e1, e2, e3, e4, e5, e6, e7⟩, ⟨f0, f1, f2, f3, f4, f5, f6, f7⟩⟩ := KA.out _ hbv
      have hRng : Hid (msgRange s ls.length M = (inR frm 0 (s - 1) && inR dst 0 (s - 1) && txnOK s site num && partsOK len [label, key, value, version, ask, bit yes, code, 0])) := by
        show msgRange s ls.length M = _
        rw [EM.out, hlen.out]
        rfl
      cases g1 : inR frm 0 (s - 1) with
      | false =>
        have hf := MF.out 2 (mf_range hF (by rw [EM.out]; exact hK) (by rw [hRng.out, g1]; rfl))
        go_wp2_with (first
          | (go_at_call 42; refine (site_any s p a len cap _ _ ⟨s1, s4⟩).mono ?_; rintro e u ⟨rfl, hu⟩; replace hbv := hbv.trans (hu.mono hbv.size); clear hu c0 c1 c2 d0 d1 d2 d3 d4 d5 d6 d7 d8 d9 d10 d11 e0 e1 e2 e3 e4 e5 e6 e7; obtain ⟨⟨c0, c1, c2⟩, ⟨d0, d1, d2, d3, d4, d5, d6, d7, d8, d9, d10, d11⟩, ⟨e0, e1, e2, e3, e4, e5, e6, e7⟩, ⟨f0, f1, f2, f3, f4, f5, f6, f7⟩⟩ := KA.out _ hbv)
          | (go_at_call 79; refine (txn_any site num s _ ⟨s1, s4⟩).mono ?_; rintro e u ⟨rfl, hu⟩; replace hbv := hbv.trans (hu.mono hbv.size); clear hu c0 c1 c2 d0 d1 d2 d3 d4 d5 d6 d7 d8 d9 d10 d11 e0 e1 e2 e3 e4 e5 e6 e7; obtain ⟨⟨c0, c1, c2⟩, ⟨d0, d1, d2, d3, d4, d5, d6, d7, d8, d9, d10, d11⟩, ⟨e0, e1, e2, e3, e4, e5, e6, e7⟩, ⟨f0, f1, f2, f3, f4, f5, f6, f7⟩⟩ := KA.out _ hbv)
          | (go_at_call 80; refine (inBoundsW_any s p a len cap label key value version ask (bit yes) code 0 _ l6 (tV.below hbv (by omega)) (by have := hbv.size; omega)).mono ?_; rintro e u ⟨rfl, hu⟩; replace hbv := hbv.trans (hu.mono hbv.size); clear hu c0 c1 c2 d0 d1 d2 d3 d4 d5 d6 d7 d8 d9 d10 d11 e0 e1 e2 e3 e4 e5 e6 e7; obtain ⟨⟨c0, c1, c2⟩, ⟨d0, d1, d2, d3, d4, d5, d6, d7, d8, d9, d10, d11⟩, ⟨e0, e1, e2, e3, e4, e5, e6, e7⟩, ⟨f0, f1, f2, f3, f4, f5, f6, f7⟩⟩ := KA.out _ hbv))
        go_ret
        exact ⟨ret_int hf.symm, hbw.trans (hbv.mono hbw.size)⟩
      | true =>
      cases g2 : inR dst 0 (s - 1) with
      | false =>
        have hf := MF.out 2 (mf_range hF (by rw [EM.out]; exact hK) (by rw [hRng.out, g1, g2]; rfl))
        go_wp2_with (first
          | (go_at_call 42; refine (site_any s p a len cap _ _ ⟨s1, s4⟩).mono ?_; rintro e u ⟨rfl, hu⟩; replace hbv := hbv.trans (hu.mono hbv.size); clear hu c0 c1 c2 d0 d1 d2 d3 d4 d5 d6 d7 d8 d9 d10 d11 e0 e1 e2 e3 e4 e5 e6 e7; obtain ⟨⟨c0, c1, c2⟩, ⟨d0, d1, d2, d3, d4, d5, d6, d7, d8, d9, d10, d11⟩, ⟨e0, e1, e2, e3, e4, e5, e6, e7⟩, ⟨f0, f1, f2, f3, f4, f5, f6, f7⟩⟩ := KA.out _ hbv)
          | (go_at_call 79; refine (txn_any site num s _ ⟨s1, s4⟩).mono ?_; rintro e u ⟨rfl, hu⟩; replace hbv := hbv.trans (hu.mono hbv.size); clear hu c0 c1 c2 d0 d1 d2 d3 d4 d5 d6 d7 d8 d9 d10 d11 e0 e1 e2 e3 e4 e5 e6 e7; obtain ⟨⟨c0, c1, c2⟩, ⟨d0, d1, d2, d3, d4, d5, d6, d7, d8, d9, d10, d11⟩, ⟨e0, e1, e2, e3, e4, e5, e6, e7⟩, ⟨f0, f1, f2, f3, f4, f5, f6, f7⟩⟩ := KA.out _ hbv)
          | (go_at_call 80; refine (inBoundsW_any s p a len cap label key value version ask (bit yes) code 0 _ l6 (tV.below hbv (by omega)) (by have := hbv.size; omega)).mono ?_; rintro e u ⟨rfl, hu⟩; replace hbv := hbv.trans (hu.mono hbv.size); clear hu c0 c1 c2 d0 d1 d2 d3 d4 d5 d6 d7 d8 d9 d10 d11 e0 e1 e2 e3 e4 e5 e6 e7; obtain ⟨⟨c0, c1, c2⟩, ⟨d0, d1, d2, d3, d4, d5, d6, d7, d8, d9, d10, d11⟩, ⟨e0, e1, e2, e3, e4, e5, e6, e7⟩, ⟨f0, f1, f2, f3, f4, f5, f6, f7⟩⟩ := KA.out _ hbv))
        go_ret
        exact ⟨ret_int hf.symm, hbw.trans (hbv.mono hbw.size)⟩
      | true =>
      cases g3 : txnOK s site num with
      | false =>
        have hf := MF.out 2 (mf_range hF (by rw [EM.out]; exact hK) (by rw [hRng.out, g1, g2, g3]; rfl))
        go_wp2_with (first
          | (go_at_call 42; refine (site_any s p a len cap _ _ ⟨s1, s4⟩).mono ?_; rintro e u ⟨rfl, hu⟩; replace hbv := hbv.trans (hu.mono hbv.size); clear hu c0 c1 c2 d0 d1 d2 d3 d4 d5 d6 d7 d8 d9 d10 d11 e0 e1 e2 e3 e4 e5 e6 e7; obtain ⟨⟨c0, c1, c2⟩, ⟨d0, d1, d2, d3, d4, d5, d6, d7, d8, d9, d10, d11⟩, ⟨e0, e1, e2, e3, e4, e5, e6, e7⟩, ⟨f0, f1, f2, f3, f4, f5, f6, f7⟩⟩ := KA.out _ hbv)
          | (go_at_call 79; refine (txn_any site num s _ ⟨s1, s4⟩).mono ?_; rintro e u ⟨rfl, hu⟩; replace hbv := hbv.trans (hu.mono hbv.size); clear hu c0 c1 c2 d0 d1 d2 d3 d4 d5 d6 d7 d8 d9 d10 d11 e0 e1 e2 e3 e4 e5 e6 e7; obtain ⟨⟨c0, c1, c2⟩, ⟨d0, d1, d2, d3, d4, d5, d6, d7, d8, d9, d10, d11⟩, ⟨e0, e1, e2, e3, e4, e5, e6, e7⟩, ⟨f0, f1, f2, f3, f4, f5, f6, f7⟩⟩ := KA.out _ hbv)
          | (go_at_call 80; refine (inBoundsW_any s p a len cap label key value version ask (bit yes) code 0 _ l6 (tV.below hbv (by omega)) (by have := hbv.size; omega)).mono ?_; rintro e u ⟨rfl, hu⟩; replace hbv := hbv.trans (hu.mono hbv.size); clear hu c0 c1 c2 d0 d1 d2 d3 d4 d5 d6 d7 d8 d9 d10 d11 e0 e1 e2 e3 e4 e5 e6 e7; obtain ⟨⟨c0, c1, c2⟩, ⟨d0, d1, d2, d3, d4, d5, d6, d7, d8, d9, d10, d11⟩, ⟨e0, e1, e2, e3, e4, e5, e6, e7⟩, ⟨f0, f1, f2, f3, f4, f5, f6, f7⟩⟩ := KA.out _ hbv))
        go_ret
        exact ⟨ret_int hf.symm, hbw.trans (hbv.mono hbw.size)⟩
      | true =>
      cases g4 : partsOK len [label, key, value, version, ask, bit yes, code, 0] with
      | false =>
        have hf := MF.out 2 (mf_range hF (by rw [EM.out]; exact hK) (by rw [hRng.out, g1, g2, g3, g4]; rfl))
        go_wp2_with (first
          | (go_at_call 42; refine (site_any s p a len cap _ _ ⟨s1, s4⟩).mono ?_; rintro e u ⟨rfl, hu⟩; replace hbv := hbv.trans (hu.mono hbv.size); clear hu c0 c1 c2 d0 d1 d2 d3 d4 d5 d6 d7 d8 d9 d10 d11 e0 e1 e2 e3 e4 e5 e6 e7; obtain ⟨⟨c0, c1, c2⟩, ⟨d0, d1, d2, d3, d4, d5, d6, d7, d8, d9, d10, d11⟩, ⟨e0, e1, e2, e3, e4, e5, e6, e7⟩, ⟨f0, f1, f2, f3, f4, f5, f6, f7⟩⟩ := KA.out _ hbv)
          | (go_at_call 79; refine (txn_any site num s _ ⟨s1, s4⟩).mono ?_; rintro e u ⟨rfl, hu⟩; replace hbv := hbv.trans (hu.mono hbv.size); clear hu c0 c1 c2 d0 d1 d2 d3 d4 d5 d6 d7 d8 d9 d10 d11 e0 e1 e2 e3 e4 e5 e6 e7; obtain ⟨⟨c0, c1, c2⟩, ⟨d0, d1, d2, d3, d4, d5, d6, d7, d8, d9, d10, d11⟩, ⟨e0, e1, e2, e3, e4, e5, e6, e7⟩, ⟨f0, f1, f2, f3, f4, f5, f6, f7⟩⟩ := KA.out _ hbv)
          | (go_at_call 80; refine (inBoundsW_any s p a len cap label key value version ask (bit yes) code 0 _ l6 (tV.below hbv (by omega)) (by have := hbv.size; omega)).mono ?_; rintro e u ⟨rfl, hu⟩; replace hbv := hbv.trans (hu.mono hbv.size); clear hu c0 c1 c2 d0 d1 d2 d3 d4 d5 d6 d7 d8 d9 d10 d11 e0 e1 e2 e3 e4 e5 e6 e7; obtain ⟨⟨c0, c1, c2⟩, ⟨d0, d1, d2, d3, d4, d5, d6, d7, d8, d9, d10, d11⟩, ⟨e0, e1, e2, e3, e4, e5, e6, e7⟩, ⟨f0, f1, f2, f3, f4, f5, f6, f7⟩⟩ := KA.out _ hbv))
        go_ret
        exact ⟨ret_int hf.symm, hbw.trans (hbv.mono hbw.size)⟩
      | true =>
      go_upto_region 9 with (first
          | (go_at_call 42; refine (site_any s p a len cap _ _ ⟨s1, s4⟩).mono ?_; rintro e u ⟨rfl, hu⟩; replace hbv := hbv.trans (hu.mono hbv.size); clear hu c0 c1 c2 d0 d1 d2 d3 d4 d5 d6 d7 d8 d9 d10 d11 e0 e1 e2 e3 e4 e5 e6 e7; obtain ⟨⟨c0, c1, c2⟩, ⟨d0, d1, d2, d3, d4, d5, d6, d7, d8, d9, d10, d11⟩, ⟨e0, e1, e2, e3, e4, e5, e6, e7⟩, ⟨f0, f1, f2, f3, f4, f5, f6, f7⟩⟩ := KA.out _ hbv)
          | (go_at_call 79; refine (txn_any site num s _ ⟨s1, s4⟩).mono ?_; rintro e u ⟨rfl, hu⟩; replace hbv := hbv.trans (hu.mono hbv.size); clear hu c0 c1 c2 d0 d1 d2 d3 d4 d5 d6 d7 d8 d9 d10 d11 e0 e1 e2 e3 e4 e5 e6 e7; obtain ⟨⟨c0, c1, c2⟩, ⟨d0, d1, d2, d3, d4, d5, d6, d7, d8, d9, d10, d11⟩, ⟨e0, e1, e2, e3, e4, e5, e6, e7⟩, ⟨f0, f1, f2, f3, f4, f5, f6, f7⟩⟩ := KA.out _ hbv)
          | (go_at_call 80; refine (inBoundsW_any s p a len cap label key value version ask (bit yes) code 0 _ l6 (tV.below hbv (by omega)) (by have := hbv.size; omega)).mono ?_; rintro e u ⟨rfl, hu⟩; replace hbv := hbv.trans (hu.mono hbv.size); clear hu c0 c1 c2 d0 d1 d2 d3 d4 d5 d6 d7 d8 d9 d10 d11 e0 e1 e2 e3 e4 e5 e6 e7; obtain ⟨⟨c0, c1, c2⟩, ⟨d0, d1, d2, d3, d4, d5, d6, d7, d8, d9, d10, d11⟩, ⟨e0, e1, e2, e3, e4, e5, e6, e7⟩, ⟨f0, f1, f2, f3, f4, f5, f6, f7⟩⟩ := KA.out _ hbv))
      have hbu : Below w.heap.size w u := hbw.trans (hbv.mono hbw.size)
      have cH := fun w' => hasAll_any h0 h1 h2 h3 h4 h5 h6 h7 label key value version ask (bit yes) code 0 w'
      have hFrm : Hid (msgForm M = (hasAll [h0, h1, h2, h3, h4, h5, h6, h7] [label, key, value, version, ask, bit yes, code, 0] && (code == 0 || (value == 0 && version == 0)))) := by
        show msgForm M = _
        rw [EM.out]
        unfold msgForm mHasOf
        simp only [Int.toNat_natCast]
        rw [EH.out]
        rfl
      have hKM : Hid (inR M.kind 1 9 = true) := by show inR M.kind 1 9 = true; rw [EM.out]; exact hK
      have hRM : Hid (msgRange s ls.length M = true) := by show msgRange s ls.length M = true; rw [hRng.out, g1, g2, g3, g4]; rfl
      have Gd0 := fun d os => cell_regrown d0 d os
      have Gd7 := fun d os => cell_regrown d7 d os
      have Gd8 := fun d os => cell_regrown d8 d os
      have Gd11 := fun d os => cell_regrown d11 d os
      have Ge0 := fun d os => cell_regrown e0 d os
      have Ge1 := fun d os => cell_regrown e1 d os
      have Ge2 := fun d os => cell_regrown e2 d os
      have Ge3 := fun d os => cell_regrown e3 d os
      have Ge4 := fun d os => cell_regrown e4 d os
      have Ge5 := fun d os => cell_regrown e5 d os
      have Ge6 := fun d os => cell_regrown e6 d os
      have Ge7 := fun d os => cell_regrown e7 d os
      have Gf0 := fun d os => cell_regrown f0 d os
      have Gf1 := fun d os => cell_regrown f1 d os
      have Gf2 := fun d os => cell_regrown f2 d os
      have Gf3 := fun d os => cell_regrown f3 d os
      have Gf4 := fun d os => cell_regrown f4 d os
      have Gf5 := fun d os => cell_regrown f5 d os
      have Gf6 := fun d os => cell_regrown f6 d os
      have Gf7 := fun d os => cell_regrown f7 d os
      cases hH : hasAll [h0, h1, h2, h3, h4, h5, h6, h7] [label, key, value, version, ask, bit yes, code, 0] with
      | false =>
        have hf := MF.out 4 (mf_form hF hKM.out hRM.out (by rw [hFrm.out, hH]; rfl))
        rw [hH] at cH
        clear hH
        refine wp_region_quiet_below (by kernel_rfl) (by kernel_rfl) ?_
        repeat (go_big_quiet_step (exact Calls.regrown_of (cH _)))
        refine wpQuiet_nil ?_
        intro _ hw'
        obtain ⟨⟨dq, osq⟩, hw''⟩ := hw'
        subst hw''
        have hBr := below_regrown u dq osq
        go_wp2
        go_ret
        exact ⟨ret_int hf.symm, hbu.trans (hBr.mono hbu.size)⟩
      | true =>
        have hH' : Hid (hasAll [h0, h1, h2, h3, h4, h5, h6, h7] [label, key, value, version, ask, bit yes, code, 0] = true) := hH
        rw [hH] at cH
        clear hH
        by_cases q0 : code = 0
        · have hf := MF.out 0 (mf_ok hF hKM.out hRM.out (by rw [hFrm.out, hH'.out, q0]; rfl))
          have q1 : (code == 0) = true := by simp [q0]
          have q2 : (code != 0) = false := by simp [q0]
          clear q0
          refine wp_region_quiet_below (by kernel_rfl) (by kernel_rfl) ?_
          repeat (go_big_quiet_step (exact Calls.regrown_of (cH _)))
          refine wpQuiet_nil ?_
          intro _ hw'
          obtain ⟨⟨dq, osq⟩, hw''⟩ := hw'
          subst hw''
          have hBr := below_regrown u dq osq
          go_wp2
          go_ret
          exact ⟨ret_int hf.symm, hbu.trans (hBr.mono hbu.size)⟩
        · have q1 : (code == 0) = false := by simpa using q0
          have q2 : (code != 0) = true := by simpa using q0
          by_cases q3 : value = 0
          · by_cases q4 : version = 0
            · have hf := MF.out 0 (mf_ok hF hKM.out hRM.out (by rw [hFrm.out, hH'.out, q3, q4]; simp))
              have q5 : (value == 0) = true := by simp [q3]
              have q6 : (version == 0) = true := by simp [q4]
              have q7 : (value != 0) = false := by simp [q3]
              have q8 : (version != 0) = false := by simp [q4]
              clear q0 q3 q4
              refine wp_region_quiet_below (by kernel_rfl) (by kernel_rfl) ?_
              repeat (go_big_quiet_step (exact Calls.regrown_of (cH _)))
              refine wpQuiet_nil ?_
              intro _ hw'
              obtain ⟨⟨dq, osq⟩, hw''⟩ := hw'
              subst hw''
              have hBr := below_regrown u dq osq
              go_wp2
              go_ret
              exact ⟨ret_int hf.symm, hbu.trans (hBr.mono hbu.size)⟩
            · have q6 : (version == 0) = false := by simpa using q4
              have hf := MF.out 4 (mf_form hF hKM.out hRM.out (by rw [hFrm.out, hH'.out, q1, q6]; simp))
              have q5 : (value == 0) = true := by simp [q3]
              have q7 : (value != 0) = false := by simp [q3]
              have q8 : (version != 0) = true := by simpa using q4
              clear q0 q3 q4
              refine wp_region_quiet_below (by kernel_rfl) (by kernel_rfl) ?_
              repeat (go_big_quiet_step (exact Calls.regrown_of (cH _)))
              refine wpQuiet_nil ?_
              intro _ hw'
              obtain ⟨⟨dq, osq⟩, hw''⟩ := hw'
              subst hw''
              have hBr := below_regrown u dq osq
              go_wp2
              go_ret
              exact ⟨ret_int hf.symm, hbu.trans (hBr.mono hbu.size)⟩
          · have q5 : (value == 0) = false := by simpa using q3
            have hf := MF.out 4 (mf_form hF hKM.out hRM.out (by rw [hFrm.out, hH'.out, q1, q5]; simp))
            have q7 : (value != 0) = true := by simpa using q3
            clear q0 q3
            refine wp_region_quiet_below (by kernel_rfl) (by kernel_rfl) ?_
            repeat (go_big_quiet_step (exact Calls.regrown_of (cH _)))
            refine wpQuiet_nil ?_
            intro _ hw'
            obtain ⟨⟨dq, osq⟩, hw''⟩ := hw'
            subst hw''
            have hBr := below_regrown u dq osq
            go_wp2
            go_ret
            exact ⟨ret_int hf.symm, hbu.trans (hBr.mono hbu.size)⟩
  · have hf := MF.out _ (mf_cfg hF)
    go_wp2_with (go_at_call 18; refine (check_any s p a len cap ls _ hLW).mono ?_; rintro e w1 ⟨rfl, hb1⟩)
    go_ret
    exact ⟨ret_int hf.symm, hB.trans (hb1.mono hB.size)⟩
end Go.Proofs.YtdjnaahkcnklhaaDoor
