/- Texts of this claim, one behind the other. -/
import Derived.Test.YtekglahigjblkaaGreatDoorM9RecoverRebuilds
import Derived.Test.YtekglahigjblkaaGreatDoorM28RecoverRebuilds
import Derived.LoopTactic
import Derived.Deep.Cut
import Derived.Deep.DeepCutAuto
/- Contracts of the small functions: bounds.Label, Key, Value, Rising; coord.taskMayBe; the document's labelMay and taskMay. -/
namespace Go.Proofs.YtekglahigjblkaaGreatDoor.Co
open Go.ChangeShapes Go.WideShapes Go.ChangeAt Go.RowKit
open Go.Proofs.YtekglahigjblkaaGreatDoor.St (IsRow drop_at take_at BoxN boxn_new)
set_option linter.unusedVariables false

theorem wrap_in {n : Int} (h1 : -9223372036854775808 ≤ n) (h2 : n ≤ 9223372036854775807) : IntKind.i64.wrap n = n := by
  rw [IntKind.wrap_i64]
  omega
theorem key_any (n : Int) (w : World) :
    Calls Tryz.prog 78 #[.int .i64 n] w fun e w' => e = .returned (.bool (inR n 0 7)) ∧ w' = w := by
  go_enter Tryz.func78, Tryz.ntmps78
  go_wp2_with (go_at_call 41; refine (within_any _ _ _ _).mono ?_; rintro e w1 ⟨rfl, hu1⟩; rw [hu1]; clear hu1)
  go_ret
  exact ⟨rfl, rfl⟩
theorem value_any (n : Int) (w : World) :
    Calls Tryz.prog 63 #[.int .i64 n] w fun e w' => e = .returned (.bool (inR n 0 1073741824)) ∧ w' = w := by
  go_enter Tryz.func63, Tryz.ntmps63
  go_wp2_with (go_at_call 41; refine (within_any _ _ _ _).mono ?_; rintro e w1 ⟨rfl, hu1⟩; rw [hu1]; clear hu1)
  go_ret
  exact ⟨rfl, rfl⟩
theorem label_any (s q : Int) (a : Option Addr) (len cap : Nat) (l : Int) (w : World) (hl : len ≤ 6) :
    Calls Tryz.prog 60 #[.agg #[.int .i64 s, .slice a len cap, .int .i64 q], .int .i64 l] w fun e w' => e = .returned (.bool (inR l 0 ((len : Int) - 1))) ∧ Below w.heap.size w w' := by
  have hA : Below w.heap.size w (w.alloc (.cells #[.int .i64 s, .slice a len cap, .int .i64 q] 24)) := (Below.refl _ _).alloc (Nat.le_refl _) _
  have hw : IntKind.i64.wrap ((len : Int) - 1) = (len : Int) - 1 := by apply wrap_in <;> omega
  go_enter Tryz.func60, Tryz.ntmps60
  go_wp2_with (go_at_call 41; refine (within_any _ _ _ _).mono ?_; rintro e w1 ⟨rfl, hu1⟩; rw [hu1]; clear hu1)
  go_ret
  exact ⟨rfl, hA⟩
set_option maxHeartbeats 4000000 in
theorem rising_any (s q : Int) (a : Option Addr) (len cap : Nat) (b : Option Addr) (n c : Nat) (xs : List Int) (w : World) (h : IsSites w b n c xs) (hs : 1 ≤ s ∧ s ≤ 4) :
    Calls Tryz.prog 47 #[.agg #[.int .i64 s, .slice a len cap, .int .i64 q], .slice b n c] w fun e w' => e = .returned (.bool (rise s 0 xs)) ∧ Below w.heap.size w w' := by
  have hmx : n ≤ maxLen := Nat.le_trans h.2.1 h.2.2.1
  unfold maxLen at hmx
  have HL : Hid (xs.length = n) := h.1
  have hw : IntKind.i64.wrap (s - 1) = s - 1 := by apply wrap_in <;> omega
  obtain ⟨W, hW⟩ : ∃ W : World, W = (w.alloc (.cells #[.int .i64 s, .slice a len cap, .int .i64 q] 24)) := ⟨_, rfl⟩
  have hB : Below w.heap.size w W := by rw [hW]; exact (Below.refl _ _).alloc (Nat.le_refl _) _
  have bc : BoxN W w.heap.size 3 [.int .i64 s, .slice a len cap, .int .i64 q] := by rw [hW]; exact boxn_new w #[.int .i64 s, .slice a len cap, .int .i64 q] 24 3 rfl
  obtain ⟨R, eR⟩ : ∃ R, R = rise s 0 xs := ⟨_, rfl⟩
  have HR : Hid (R = rise s 0 (xs.drop 0)) := by rw [eR]; rfl
  rw [← eR]
  clear eR
  go_enter Tryz.func47, Tryz.ntmps47
  go_upto_region 1 with (fail)
  rw [← hW]
  clear hW
  go_wp2
  go_loopw [5, 7, 10] (fun s5 _ s10 wr => ∃ (k : Nat) (lo : Int), s10 = .int .i64 (k : Int) ∧ s5 = .int .i64 lo ∧ k ≤ n ∧ 0 ≤ lo ∧ lo ≤ 5 ∧ Hid (R = rise s lo (xs.drop k)) ∧ wr = W) (fun _ _ s10 _ => n - (intOf s10).toNat)
  case atStart => exact ⟨0, 0, rfl, rfl, Nat.zero_le _, by omega, by omega, HR.out, rfl⟩
  case round =>
    obtain ⟨k, lo, rfl, rfl, hk, l0, l5, hR, hwr⟩ := hrel
    subst hwr
    have x0 := (bc.c 0 (by decide)).1
    have zc := bc.lt
    simp only [List.getD_cons_zero] at x0
    by_cases hlt : k < n
    · have hlt' : (k : Int) < (n : Int) := by omega
      have hkl : k < xs.length := by rw [HL.out]; exact hlt
      have HS : Hid (R = (inR (xs.getD k default) lo (s - 1) && rise s (xs.getD k default + 1) (xs.drop (k + 1)))) := by show _ = _; rw [hR.out, rise_at hkl]
      obtain ⟨b', off, rfl, zb, hc⟩ := (h.below hB).2.2.2.2 (by omega)
      have e0 := hc k hlt 0 (by decide)
      obtain ⟨x, ex⟩ : ∃ x, x = xs.getD k default := ⟨_, rfl⟩
      rw [← ex] at e0 HS
      clear ex hc hR
      simp only [inCell, List.getElem?_cons_zero, Nat.add_zero, Nat.mul_one] at e0
      cases h1 : inR x lo (s - 1) with
      | false =>
        go_wp2_with (go_at_call 41; refine (within_any _ _ _ _).mono ?_; rintro e u ⟨rfl, hu⟩; rw [hu, h1]; clear hu)
        go_ret
        exact ⟨by rw [HS.out, h1]; rfl, hB⟩
      | true =>
        have hx := inR_of h1
        have hwx : IntKind.i64.wrap (x + 1) = x + 1 := by apply wrap_in <;> omega
        go_wp2_with (go_at_call 41; refine (within_any _ _ _ _).mono ?_; rintro e u ⟨rfl, hu⟩; rw [hu, h1]; clear hu)
        go_roundw
        case rel => exact ⟨k + 1, x + 1, by go_num, rfl, by omega, by omega, by omega, by show _ = _; rw [HS.out, h1]; rfl, by first | rfl | trivial⟩
        case measure => simp [intOf]; omega
    · obtain rfl : k = n := by omega
      have hT : R = true := by rw [hR.out, List.drop_of_length_le (by rw [HL.out]; exact Nat.le_refl _)]; rfl
      go_wp2
      go_ret
      exact ⟨by rw [hT]; rfl, hB⟩
end Go.Proofs.YtekglahigjblkaaGreatDoor.Co
/- Contracts of coord.tasksMayBe, jobMayBe, jobsMayBe and Check. -/
namespace Go.Proofs.YtekglahigjblkaaGreatDoor.Co
open Go.ChangeShapes Go.WideShapes Go.ChangeAt Go.RowKit
open Go.Proofs.YtekglahigjblkaaGreatDoor.St (IsRow drop_at take_at BoxN boxn_new)
set_option linter.unusedVariables false

end Go.Proofs.YtekglahigjblkaaGreatDoor.Co
/- Contracts of coord.jobMayBe, jobsMayBe and Check. -/
namespace Go.Proofs.YtekglahigjblkaaGreatDoor.Co
open Go.ChangeShapes Go.WideShapes Go.ChangeAt Go.RowKit
open Go.Proofs.YtekglahigjblkaaGreatDoor.St (IsRow drop_at take_at BoxN boxn_new)
set_option linter.unusedVariables false

end Go.Proofs.YtekglahigjblkaaGreatDoor.Co
