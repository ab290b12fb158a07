/- The config of two labels, the second one above the first one. -/
import Derived.Test.YtoonldnbpnlalaaDoorPicked
import Derived.Test.YtoonldnbpnlalaaDoorCheck
namespace Go.Proofs.YtoonldnbpnlalaaDoor.Pt
open Go.ChangeShapes Go.WideShapes Go.ChangeAt Go.RowKit
set_option linter.unusedVariables false

def LS2 : List (Int × Int) := [(0, 0), (1, 0)]
theorem cfg_two {s p : Int} (h1 : 1 ≤ s) (h2 : s ≤ 4) (h3 : 1 ≤ p) (h4 : p ≤ 1048576) : cfgFault s LS2 p = 0 := by
  unfold cfgFault
  rw [if_neg (by omega), if_neg (by decide), if_neg (by decide), if_neg (by omega)]
set_option maxRecDepth 100000 in
theorem two_any (s : Int) (w : World) (hs : -9223372036854775808 ≤ s ∧ s ≤ 9223372036854775807) :
    Calls Tryd.prog 7 #[.int .i64 s] w fun e w' => ∃ g, e = .returned (.agg #[.int .i64 (1 + pk s 3), .slice (some ⟨g, 0, none⟩) 2 2, .int .i64 3]) ∧ IsLabs w' (some ⟨g, 0, none⟩) 2 2 LS2 ∧ w.heap.size ≤ g ∧ Below w.heap.size w w' := by
  have hp := pk_bd s 3 (by omega)
  have hwr : IntKind.i64.wrap (1 + pk s 3) = 1 + pk s 3 := by simp [IntKind.wrap, IntKind.bits, IntKind.signed]; omega
  have hP := fun u => picked_any s 3 u hs (by omega) (by omega)
  obtain ⟨K, eK⟩ : ∃ K, K = pk s 3 := ⟨_, rfl⟩
  rw [← eK] at hP hwr ⊢
  clear eK hp
  go_enter Tryd.func7, Tryd.ntmps7
  go_wp2_with (go_at_call 9; refine (hP _).mono ?_; rintro e u ⟨rfl, hu⟩; rw [hu]; clear hu)
  obtain ⟨X, eX⟩ : ∃ X : World, X = (w.alloc (.cells #[.int .i64 (1 + K), .slice (some ⟨w.heap.size + 1, 0, none⟩) 2 2, .int .i64 3] 24)).alloc (.cells #[.int .i64 0, .int .i64 0, .int .i64 1, .int .i64 0] 50) := ⟨_, rfl⟩
  have hb : Below w.heap.size w X := by rw [eX]; exact ((Below.refl _ _).alloc (Nat.le_refl _) _).alloc (by simp) _
  have c0 : X.cell? ⟨w.heap.size + 1, 0, none⟩ = some (.int .i64 0) := by rw [eX]; go_simp
  have c1 : X.cell? ⟨w.heap.size + 1, 1, none⟩ = some (.int .i64 0) := by rw [eX]; go_simp
  have c2 : X.cell? ⟨w.heap.size + 1, 2, none⟩ = some (.int .i64 1) := by rw [eX]; go_simp
  have c3 : X.cell? ⟨w.heap.size + 1, 3, none⟩ = some (.int .i64 0) := by rw [eX]; go_simp
  have q0 : X.cell? ⟨w.heap.size, 0, none⟩ = some (.int .i64 (1 + K)) := by rw [eX]; go_simp
  have q1 : X.cell? ⟨w.heap.size, 1, none⟩ = some (.slice (some ⟨w.heap.size + 1, 0, none⟩) 2 2) := by rw [eX]; go_simp
  have q2 : X.cell? ⟨w.heap.size, 2, none⟩ = some (.int .i64 3) := by rw [eX]; go_simp
  have zX : w.heap.size + 1 < X.heap.size := by rw [eX]; simp
  rw [← eX]
  clear eX
  refine bodyPost_ret (v := .agg #[.int .i64 (1 + K), .slice (some ⟨w.heap.size + 1, 0, none⟩) 2 2, .int .i64 3]) (by simp [results, Tryd.results7, go_sem, q0, q1, q2]) rfl ⟨w.heap.size + 1, rfl, ?_, by omega, ?_⟩
  · refine ⟨rfl, Nat.le_refl _, by unfold maxLen; omega, fun _ => ⟨w.heap.size + 1, 0, rfl, zX, fun i hi => ?_⟩⟩
    have hi2 : i = 0 ∨ i = 1 := by simp [LS2] at hi; omega
    rcases hi2 with rfl | rfl
    · exact ⟨c0, c1⟩
    · exact ⟨c2, c3⟩
  · exact hb
end Go.Proofs.YtoonldnbpnlalaaDoor.Pt
