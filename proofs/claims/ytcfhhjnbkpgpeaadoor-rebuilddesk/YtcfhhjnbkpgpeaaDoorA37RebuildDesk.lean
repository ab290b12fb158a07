/- The contract of Txn of raw numbers. -/
import Derived.Test.YtcfhhjnbkpgpeaaDoorM29RebuildDesk
import Derived.Test.YtcfhhjnbkpgpeaaDoorA30RebuildDesk
import Derived.Deep.DeepCutAuto
import Derived.Deep.CutBlock
namespace Go.Proofs.YtcfhhjnbkpgpeaaDoor
open Go.ChangeShapes Go.WideShapes Go.ChangeAt Go.RowKit
set_option linter.unusedVariables false

theorem below_set {B : Nat} {a u : World} (b j : Nat) (v : Value) (h : Below B a u) (hb : B ≤ b) : Below B a (u.setCell ⟨b, j, none⟩ v) := h.setCell (p := ⟨b, j, none⟩) hb v

theorem txnR_any (s p : Int) (ad : Option Addr) (len cap : Nat) (a b : Int) (w : World) (hs : 1 ≤ s ∧ s ≤ 4) (ha : -9223372036854775808 ≤ a ∧ a ≤ 9223372036854775807) (hb : -9223372036854775808 ≤ b ∧ b ≤ 9223372036854775807) :
    Calls Tryd.prog 18 #[.agg #[.int .i64 s, .slice ad len cap, .int .i64 p], .int .i64 a, .int .i64 b] w fun e w' => e = .returned (.agg #[.int .i64 (pk a s), .int .i64 (1 + pk b 6)]) ∧ Below w.heap.size w w' := by
  obtain ⟨s1, s4⟩ := hs
  have z := pk_bd b 6 (by decide)
  have cA := fun w' => picked_any a s w' ha (by omega) (by omega)
  have cB := fun w' => picked_any b 6 w' hb (by decide) (by decide)
  obtain ⟨A, eA⟩ : ∃ x, x = pk a s := ⟨_, rfl⟩
  obtain ⟨B, eB⟩ : ∃ x, x = pk b 6 := ⟨_, rfl⟩
  rw [← eA] at cA ⊢
  rw [← eB] at cB z ⊢
  clear eA eB
  obtain ⟨z1, z2⟩ := z
  go_enter Tryd.func18, Tryd.ntmps18
  go_wp2_with (first | (go_at_call_of 8 (Value.int .i64 s); refine (cA _).mono ?_; rintro e u1 ⟨rfl, hu1⟩; rw [hu1]; clear hu1 u1) | (go_at_call_of 8 (Value.int .i64 6); refine (cB _).mono ?_; rintro e u1 ⟨rfl, hu1⟩; rw [hu1]; clear hu1 u1))
  refine bodyPost_ret (v := .agg #[.int .i64 A, .int .i64 (1 + B)]) (by simp [results, Tryd.results18, go_sem]) rfl ⟨rfl, ?_⟩
  exact ((Below.refl _ _).alloc (Nat.le_refl _) _).alloc (by simp) _
end Go.Proofs.YtcfhhjnbkpgpeaaDoor
