/- The contracts of lines.onlyHas, callParts, actParts, and of the test of a Keep's numbers. -/
import Derived.Test.YtjihmhijnpjnoaaGreatDoorLnPlain
import Derived.Test.YtjihmhijnpjnoaaGreatDoorSBox
import Derived.LoopTactic
import Derived.Deep.QuietTactic
import Derived.BigQuiet
import Derived.BigRegion
import Derived.RegionTactic
import Derived.Deep.RegionWith
import Derived.Deep.RegionHeld3
import Derived.WalkSmall
import Derived.Deep.DeepCutAuto
namespace Go.Proofs.YtjihmhijnpjnoaaGreatDoor.Ln
open Go.ChangeShapes Go.WideShapes Go.ChangeAt Go.RowKit
open Go.Proofs.YtjihmhijnpjnoaaGreatDoor.St (BoxN boxn_new)
set_option linter.unusedVariables false

set_option maxHeartbeats 1000000 in
theorem onlyHas_any (b g n : Nat) (hs : List Bool) (ps : List Int) (w : World) (h1 : hs.length = n) (h2 : ps.length = n) (hn : n ≤ 100) (hb : Bools w b hs) (hg : Nms w g ps) :
    Calls Tryz.prog 34 #[.slice (some ⟨b, 0, none⟩) n n, .slice (some ⟨g, 0, none⟩) n n] w fun e w' => e = .returned (.bool (only hs ps)) ∧ w' = w := by
  have H1 : Hid (hs.length = n) := h1
  have H2 : Hid (ps.length = n) := h2
  clear h1 h2
  have hn' : (n : Int) ≤ 100 := by omega
  obtain ⟨R, eR⟩ : ∃ R, R = only hs ps := ⟨_, rfl⟩
  have HR : Hid (R = only (hs.drop 0) (ps.drop 0)) := eR
  rw [← eR]
  clear eR
  obtain ⟨zb, cb⟩ := hb
  obtain ⟨zg, cg⟩ := hg
  go_enter Tryz.func34, Tryz.ntmps34
  go_wp2
  go_loop [5, 6, 9] (fun _ _ s9 => ∃ k : Nat, k ≤ n ∧ s9 = .int .i64 k ∧ Hid (R = only (hs.drop k) (ps.drop k))) (fun _ _ s9 => n - (intOf s9).toNat)
  case atStart => exact ⟨0, Nat.zero_le _, rfl, HR.out⟩
  case round =>
    obtain ⟨k, hk, rfl, hat⟩ := hrel
    by_cases hlt : k < n
    · have hlt' : (k : Int) < (n : Int) := by omega
      have c1 := cb k (by rw [H1.out]; exact hlt)
      have c2 := cg k (by rw [H2.out]; exact hlt)
      have hst : Hid (R = ((hs.getD k false || ps.getD k 0 == 0) && only (hs.drop (k + 1)) (ps.drop (k + 1)))) := by
        show _ = _
        rw [hat.out]
        exact only_at (by rw [H1.out]; exact hlt) (by rw [H2.out]; exact hlt)
      clear hat cb cg
      obtain ⟨B, eB⟩ : ∃ B, B = hs.getD k false := ⟨_, rfl⟩
      obtain ⟨X, eX⟩ : ∃ X, X = ps.getD k 0 := ⟨_, rfl⟩
      rw [← eB, ← eX] at hst
      rw [← eB] at c1
      rw [← eX] at c2
      clear eB eX
      by_cases e : X = 0
      · subst e
        have hnx : Hid (R = only (hs.drop (k + 1)) (ps.drop (k + 1))) := by show _ = _; rw [hst.out]; simp
        clear hst
        go_wp2
        go_round
        case rel => exact ⟨k + 1, by omega, by go_num, hnx.out⟩
        case measure => simp [intOf]; omega
      · have e1 : (X != 0) = true := by simpa using e
        cases B with
        | true =>
          have hnx : Hid (R = only (hs.drop (k + 1)) (ps.drop (k + 1))) := by show _ = _; rw [hst.out]; simp
          clear hst
          go_wp2
          go_round
          case rel => exact ⟨k + 1, by omega, by go_num, hnx.out⟩
          case measure => simp [intOf]; omega
        | false =>
          have hf : Hid (R = false) := by show _ = _; rw [hst.out]; simp [e]
          clear hst
          go_wp2
          go_ret
          exact ⟨ret_bool hf.out.symm, rfl⟩
    · have hf : Hid (R = true) := by show _ = _; rw [hat.out]; exact only_end (by rw [H2.out]; omega)
      clear hat
      go_wp2
      go_ret
      exact ⟨ret_bool hf.out.symm, rfl⟩

theorem callParts_any (c0 c1 c2 c3 c4 : Int) (w : World) :
    Calls Tryz.prog 52 #[.agg #[.int .i64 c0, .int .i64 c1, .int .i64 c2, .int .i64 c3, .int .i64 c4]] w fun e w' => e = .returned (.agg #[.int .i64 c1, .int .i64 c2, .int .i64 c3, .int .i64 c4]) ∧ Below w.heap.size w w' := by
  go_enter Tryz.func52, Tryz.ntmps52
  go_wp2
  refine bodyPost_ret (v := .agg #[.int .i64 c1, .int .i64 c2, .int .i64 c3, .int .i64 c4]) (by simp [results, Tryz.results52, go_sem]) rfl ⟨rfl, ?_⟩
  exact ((Below.refl _ _).alloc (Nat.le_refl _) _).alloc (by simp) _

set_option maxHeartbeats 1000000 in
theorem actParts_any (a : AV) (w : World) :
    Calls Tryz.prog 33 #[.agg #[.int .i64 a.kind, .int .i64 a.site, .int .i64 a.to, .int .i64 a.label, .int .i64 a.pick, .slice a.ka a.kl a.kc, .int .i64 a.c0, .int .i64 a.c1, .int .i64 a.c2, .int .i64 a.c3, .int .i64 a.c4, .string a.line]] w fun e w' => e = .returned (.agg ((aParts a).map (Value.int .i64)).toArray) ∧ Below w.heap.size w w' := by
  obtain ⟨kind, site, to1, label, pick, ka, kl, kc, c0, c1, c2, c3, c4, line, keep⟩ := a
  simp only [aParts]
  by_cases hz : c0 = 0 ∧ c1 = 0 ∧ c2 = 0 ∧ c3 = 0 ∧ c4 = 0
  · obtain ⟨rfl, rfl, rfl, rfl, rfl⟩ := hz
    go_enter Tryz.func33, Tryz.ntmps33
    go_wp2
    refine bodyPost_ret (v := .agg #[.int .i64 site, .int .i64 to1, .int .i64 label, .int .i64 pick, .int .i64 (kl : Int), .int .i64 0, .int .i64 (line.size : Int)]) (by simp [results, Tryz.results33, go_sem]) rfl ⟨by simp [one, nz], ?_⟩
    exact (((Below.refl _ _).alloc (Nat.le_refl _) _).alloc (by simp) _).alloc (by simp; omega) _
  · have e1 : one (nz c0 c1 c2 c3 c4) = 1 := by
      have : nz c0 c1 c2 c3 c4 = true := by
        unfold nz
        simp
        omega
      rw [this]
      rfl
    rw [e1]
    clear e1
    have HZ : Hid (¬ (c0 = 0 ∧ c1 = 0 ∧ c2 = 0 ∧ c3 = 0 ∧ c4 = 0)) := hz
    clear hz
    go_enter Tryz.func33, Tryz.ntmps33
    go_wp2
    all_goals
      first
        | exact absurd ⟨by assumption, by assumption, by assumption, by assumption, by assumption⟩ HZ.out
        | (refine bodyPost_ret (v := .agg #[.int .i64 site, .int .i64 to1, .int .i64 label, .int .i64 pick, .int .i64 (kl : Int), .int .i64 1, .int .i64 (line.size : Int)]) (by simp [results, Tryz.results33, go_sem]) rfl ⟨by simp, ?_⟩
           exact (((Below.refl _ _).alloc (Nat.le_refl _) _).alloc (by simp) _).alloc (by simp; omega) _)
end Go.Proofs.YtjihmhijnpjnoaaGreatDoor.Ln
