/- Contracts of label.Home: what it returns at every config and key. -/
import Derived.Test.YtppnhcnkcbhbiaaProg
import Derived.WalkKit
import Derived.ProofKit
import Derived.Below
import Derived.Test.YtppnhcnkcbhbiaaCheck
namespace Go.Proofs.Ytppnhcnkcbhbiaa
open Go.ChangeShapes Go.WideShapes Go.ChangeAt Go.RowKit

def homeErr (s : Int) (ls : List (Int × Int)) (p key : Int) : Int := if cfgFault s ls p = 0 then (if key < 0 ∨ 7 < key then 2 else 0) else cfgFault s ls p
def homeNum (s : Int) (ls : List (Int × Int)) (p key : Int) : Int := if homeErr s ls p key = 0 then key % s else 0

theorem home_bad {s : Int} {ls : List (Int × Int)} {p key : Int} (h : cfgFault s ls p ≠ 0) : homeErr s ls p key = cfgFault s ls p ∧ homeNum s ls p key = 0 := by
  unfold homeNum homeErr
  simp [h]
theorem home_key {s : Int} {ls : List (Int × Int)} {p key : Int} (h : cfgFault s ls p = 0) (hk : key < 0 ∨ 7 < key) : homeErr s ls p key = 2 ∧ homeNum s ls p key = 0 := by
  unfold homeNum homeErr
  simp [h, hk]
theorem home_ok {s : Int} {ls : List (Int × Int)} {p key : Int} (h : cfgFault s ls p = 0) (h0 : 0 ≤ key) (h7 : key ≤ 7) : homeErr s ls p key = 0 ∧ homeNum s ls p key = key % s := by
  have hk : ¬ (key < 0 ∨ 7 < key) := by omega
  unfold homeNum homeErr
  simp [h, hk]

theorem key_any (n : Int) (w : World) :
    Calls Try.prog 20 #[.int .i64 n] w fun e w' => e = .returned (.bool (inR n 0 7)) ∧ w' = w := by
  go_enter Try.func20, Try.ntmps20
  go_wp2_with (go_at_call 17; refine (within_any _ _ _ _).mono ?_; rintro e w1 ⟨rfl, hu1⟩; rw [hu1]; clear hu1)
  go_ret
  exact ⟨rfl, rfl⟩

theorem home_any (s p : Int) (a : Option Addr) (len cap : Nat) (ls : List (Int × Int)) (key : Int) (w : World) (h : IsLabs w a len cap ls) :
    Calls Try.prog 11 #[.agg #[.int .i64 s, .slice a len cap, .int .i64 p], .int .i64 key] w fun e w' => e = .returned (.tuple #[.int .i64 (homeNum s ls p key), .int .i64 (homeErr s ls p key)]) ∧ Below w.heap.size w w' := by
  have hA : Below w.heap.size w (w.alloc (.cells #[.int .i64 s, .slice a len cap, .int .i64 p] 25)) := (Below.refl _ _).alloc (Nat.le_refl _) _
  by_cases hF : cfgFault s ls p = 0
  · have hs := cfg_zero hF
    have hs1 := hs.1
    have hs4 := hs.2.1
    by_cases hk : key < 0 ∨ 7 < key
    · have hkk : inR key 0 7 = false := by unfold inR; simp; omega
      rw [(home_key hF hk).1, (home_key hF hk).2]
      rcases hk with hk | hk
      · go_enter Try.func11, Try.ntmps11
        go_wp2_with (first | (go_at_call 9; refine (check_any s p a len cap ls _ (h.below hA)).mono ?_; rintro e w1 ⟨rfl, hb1⟩) | (go_at_call 20; refine (key_any _ _).mono ?_; rintro e w2 ⟨rfl, hu2⟩; rw [hu2, hkk]; clear hu2))
        go_ret2
        exact ⟨rfl, hA.trans (hb1.mono (by simp))⟩
      · have hk' : ¬ key < 0 := by omega
        have hk8 : 8 ≤ key := by omega
        go_enter Try.func11, Try.ntmps11
        go_wp2_with (first | (go_at_call 9; refine (check_any s p a len cap ls _ (h.below hA)).mono ?_; rintro e w1 ⟨rfl, hb1⟩) | (go_at_call 20; refine (key_any _ _).mono ?_; rintro e w2 ⟨rfl, hu2⟩; rw [hu2, hkk]; clear hu2))
        go_ret2
        exact ⟨rfl, hA.trans (hb1.mono (by simp))⟩
    · have k0 : 0 ≤ key := by omega
      have k7 : key < 8 := by omega
      have hkk : inR key 0 7 = true := by unfold inR; simp; omega
      rw [(home_ok hF k0 (by omega)).1, (home_ok hF k0 (by omega)).2]
      go_enter Try.func11, Try.ntmps11
      go_wp2_with (first | (go_at_call 9; refine (check_any s p a len cap ls _ (h.below hA)).mono ?_; rintro e w1 ⟨rfl, hb1⟩; have hz1 : w.heap.size < w1.heap.size := (by have := hb1.size; simp at this; omega); obtain ⟨hc1, hf1⟩ := bcell hb1) | (go_at_call 20; refine (key_any _ _).mono ?_; rintro e w2 ⟨rfl, hu2⟩; rw [hu2, hkk]; clear hu2))
      go_ret2
      exact ⟨rfl, hA.trans (hb1.mono (by simp))⟩
  · rw [(home_bad hF).1, (home_bad hF).2]
    go_enter Try.func11, Try.ntmps11
    go_wp2_with (go_at_call 9; refine (check_any s p a len cap ls _ (h.below hA)).mono ?_; rintro e w1 ⟨rfl, hb1⟩)
    go_ret2
    exact ⟨rfl, hA.trans (hb1.mono (by simp))⟩

end Go.Proofs.Ytppnhcnkcbhbiaa
