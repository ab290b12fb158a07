/- Texts of this claim, one behind the other. -/
import Derived.Test.YtflfcjbgkpfgkaaDoorM10TapeRecovers
import Derived.Test.YtflfcjbgkpfgkaaDoorM4TapeRecovers
import Derived.Test.YtflfcjbgkpfgkaaDoorM7TapeRecovers
import Derived.Test.YtflfcjbgkpfgkaaDoorM8TapeRecovers
import Derived.Deep.DeepCutAuto
import Derived.Deep.CutBlock
import Derived.Test.YtflfcjbgkpfgkaaDoorM2TapeRecovers
/- A config made of raw numbers, beside bytes: what the laws of the keeping kind begin with. -/
namespace Go.Proofs.YtflfcjbgkpfgkaaDoor
open Go.ChangeShapes Go.WideShapes Go.ChangeAt Go.RowKit
set_option linter.unusedVariables false

theorem isB_cell {U : World} {q : Nat} {x : Int} (h0 : 0 ≤ x) (h1 : x < 256) (hc : U.cell? ⟨q, 0, none⟩ = some (.int .u8 x)) : IsB U (some ⟨q, 0, none⟩) 1 1 [x] := by
  refine ⟨rfl, Nat.le_refl _, by unfold maxLen; omega, fun b hb => by simp at hb; omega, fun e => by simp at e, fun _ => ⟨q, 0, rfl, World.block_lt_of_cell? U _ hc, fun i hi => ?_⟩⟩
  obtain rfl : i = 0 := by omega
  exact hc

end Go.Proofs.YtflfcjbgkpfgkaaDoor
/- The contract of Txn of raw numbers. -/
namespace Go.Proofs.YtflfcjbgkpfgkaaDoor
open Go.ChangeShapes Go.WideShapes Go.ChangeAt Go.RowKit
set_option linter.unusedVariables false

theorem below_set {B : Nat} {a u : World} (b j : Nat) (v : Value) (h : Below B a u) (hb : B ≤ b) : Below B a (u.setCell ⟨b, j, none⟩ v) := h.setCell (p := ⟨b, j, none⟩) hb v

theorem txnR_any (s p : Int) (ad : Option Addr) (len cap : Nat) (a b : Int) (w : World) (hs : 1 ≤ s ∧ s ≤ 4) (ha : -9223372036854775808 ≤ a ∧ a ≤ 9223372036854775807) (hb : -9223372036854775808 ≤ b ∧ b ≤ 9223372036854775807) :
    Calls Tryd.prog 41 #[.agg #[.int .i64 s, .slice ad len cap, .int .i64 p], .int .i64 a, .int .i64 b] w fun e w' => e = .returned (.agg #[.int .i64 (pk a s), .int .i64 (1 + pk b 6)]) ∧ Below w.heap.size w w' := by
  obtain ⟨s1, s4⟩ := hs
  have z := pk_bd b 6 (by decide)
  have cA := fun w' => picked_any a s w' ha (by omega) (by omega)
  have cB := fun w' => picked_any b 6 w' hb (by decide) (by decide)
  obtain ⟨A, eA⟩ : ∃ x, x = pk a s := ⟨_, rfl⟩
  obtain ⟨B, eB⟩ : ∃ x, x = pk b 6 := ⟨_, rfl⟩
  rw [← eA] at cA ⊢
  rw [← eB] at cB z ⊢
  clear eA eB
  obtain ⟨z1, z2⟩ := z
  go_enter Tryd.func41, Tryd.ntmps41
  go_wp2_with (first | (go_at_call_of 18 (Value.int .i64 s); refine (cA _).mono ?_; rintro e u1 ⟨rfl, hu1⟩; rw [hu1]; clear hu1 u1) | (go_at_call_of 18 (Value.int .i64 6); refine (cB _).mono ?_; rintro e u1 ⟨rfl, hu1⟩; rw [hu1]; clear hu1 u1))
  refine bodyPost_ret (v := .agg #[.int .i64 A, .int .i64 (1 + B)]) (by simp [results, Tryd.results41, go_sem]) rfl ⟨rfl, ?_⟩
  exact ((Below.refl _ _).alloc (Nat.le_refl _) _).alloc (by simp) _
end Go.Proofs.YtflfcjbgkpfgkaaDoor
/- Contracts of the small functions of bounds and wire: Site, Txn, Label, isCode, truth. -/
namespace Go.Proofs.YtflfcjbgkpfgkaaDoor
open Go.ChangeShapes Go.WideShapes Go.ChangeAt Go.RowKit

theorem wrap_i64 {n : Int} (h1 : -9223372036854775808 ≤ n) (h2 : n ≤ 9223372036854775807) : IntKind.i64.wrap n = n := by
  simp [IntKind.wrap, IntKind.bits, IntKind.signed]; omega

theorem site_any (s p : Int) (a : Option Addr) (len cap : Nat) (n : Int) (w : World) (hs : 1 ≤ s ∧ s ≤ 4) :
    Calls Tryd.prog 53 #[.agg #[.int .i64 s, .slice a len cap, .int .i64 p], .int .i64 n] w fun e w' => e = .returned (.bool (inR n 0 (s - 1))) ∧ Below w.heap.size w w' := by
  have hA : Below w.heap.size w (w.alloc (.cells #[.int .i64 s, .slice a len cap, .int .i64 p] 24)) := (Below.refl _ _).alloc (Nat.le_refl _) _
  obtain ⟨h1, h2⟩ := hs
  go_enter Tryd.func53, Tryd.ntmps53
  go_wp2_with (go_at_call 44; refine (within_any _ _ _ _).mono ?_; rintro e w1 ⟨rfl, hu1⟩; rw [hu1]; clear hu1)
  go_ret
  exact ⟨rfl, hA⟩

theorem place_any (s p : Int) (a : Option Addr) (len cap : Nat) (l : Int) (w : World) (hl : len ≤ 6) :
    Calls Tryd.prog 70 #[.agg #[.int .i64 s, .slice a len cap, .int .i64 p], .int .i64 l] w fun e w' => e = .returned (.bool (plc l len)) ∧ Below w.heap.size w w' := by
  have hA : Below w.heap.size w (w.alloc (.cells #[.int .i64 s, .slice a len cap, .int .i64 p] 24)) := (Below.refl _ _).alloc (Nat.le_refl _) _
  have h2 : (len : Int) ≤ 6 := by omega
  have e : plc l len = inR l 0 ((len : Int) - 1) := by unfold plc inR; rw [Bool.eq_iff_iff]; simp; omega
  rw [e]
  clear e
  go_enter Tryd.func70, Tryd.ntmps70
  go_wp2_with (go_at_call 44; refine (within_any _ _ _ _).mono ?_; rintro e w1 ⟨rfl, hu1⟩; rw [hu1]; clear hu1)
  go_ret
  exact ⟨rfl, hA⟩

theorem txn_any (site num s : Int) (w : World) (hs : 1 ≤ s ∧ s ≤ 4) :
    Calls Tryd.prog 54 #[.agg #[.int .i64 site, .int .i64 num], .int .i64 s] w fun e w' => e = .returned (.bool (txnOK s site num)) ∧ Below w.heap.size w w' := by
  have hA : Below w.heap.size w (w.alloc (.cells #[.int .i64 site, .int .i64 num] 27)) := (Below.refl _ _).alloc (Nat.le_refl _) _
  obtain ⟨h1, h2⟩ := hs
  unfold txnOK
  cases hr : inR site 0 (s - 1) with
  | false =>
    go_enter Tryd.func54, Tryd.ntmps54
    go_wp2_with (go_at_call 44; refine (within_any _ _ _ _).mono ?_; rintro e w1 ⟨rfl, hu1⟩; rw [hu1]; clear hu1)
    go_ret
    exact ⟨rfl, hA⟩
  | true =>
    go_enter Tryd.func54, Tryd.ntmps54
    go_wp2_with (go_at_call 44; refine (within_any _ _ _ _).mono ?_; rintro e w1 ⟨rfl, hu1⟩; rw [hu1]; clear hu1)
    go_ret
    exact ⟨by simp, hA⟩

theorem isCode_any (n : Int) (w : World) :
    Calls Tryd.prog 71 #[.int .i64 n] w fun e w' => e = .returned (.bool (isCd n)) ∧ w' = w := by
  go_enter Tryd.func71, Tryd.ntmps71
  go_wp2
  all_goals go_ret
  all_goals exact ⟨ret_bool (by unfold isCd; simp [*]), rfl⟩

theorem truth_any (b : Bool) (w : World) :
    Calls Tryd.prog 69 #[.bool b] w fun e w' => e = .returned (.int .i64 (bit b)) ∧ w' = w := by
  cases b
  all_goals
    go_enter Tryd.func69, Tryd.ntmps69
    go_wp2
    go_ret
    exact ⟨rfl, rfl⟩
end Go.Proofs.YtflfcjbgkpfgkaaDoor
