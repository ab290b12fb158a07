/- The contract of the document's answer HomeOf: the same as label.Home's. -/
import Derived.Test.YtijpncibpfbkaaaFault
import Derived.Test.YtijpncibpfbkaaaHome
namespace Go.Proofs.Ytijpncibpfbkaaa
open Go.ChangeShapes Go.WideShapes Go.ChangeAt Go.RowKit

theorem homeOf_any (s p : Int) (a : Option Addr) (len cap : Nat) (ls : List (Int × Int)) (key : Int) (w : World) (h : IsLabs w a len cap ls) :
    Calls Try.prog 12 #[.agg #[.int .i64 s, .slice a len cap, .int .i64 p], .int .i64 key] w fun e w' => e = .returned (.tuple #[.int .i64 (homeNum s ls p key), .int .i64 (homeErr s ls p key)]) ∧ Below w.heap.size w w' := by
  have hA : Below w.heap.size w (w.alloc (.cells #[.int .i64 s, .slice a len cap, .int .i64 p] 24)) := (Below.refl _ _).alloc (Nat.le_refl _) _
  by_cases hF : cfgFault s ls p = 0
  · have hs := cfg_zero hF
    have hs1 := hs.1
    have hs4 := hs.2.1
    by_cases hk : key < 0 ∨ 7 < key
    · rw [(home_key hF hk).1, (home_key hF hk).2]
      have hr := inR_false hk
      go_enter Try.func12, Try.ntmps12
      go_wp2_with (first
        | (go_at_call 8; refine (fault_any s p a len cap ls _ (h.below hA)).mono ?_; rintro e w1 ⟨rfl, hb1⟩)
        | (go_at_call 19; refine (in_any _ _ _ _).mono ?_; rintro e w2 ⟨rfl, rfl⟩))
      go_ret2
      exact ⟨rfl, hA.trans (hb1.mono (by simp))⟩
    · have k0 : 0 ≤ key := by omega
      have k7 : key ≤ 7 := by omega
      have hr := inR_true k0 k7
      rw [(home_ok hF k0 (by omega)).1, (home_ok hF k0 (by omega)).2]
      go_enter Try.func12, Try.ntmps12
      go_wp2_with (first
        | (go_at_call 8; refine (fault_any s p a len cap ls _ (h.below hA)).mono ?_; rintro e w1 ⟨rfl, hb1⟩; have hz1 : w.heap.size < w1.heap.size := (by have := hb1.size; simp at this; omega); obtain ⟨hc1, hf1⟩ := bcell hb1)
        | (go_at_call 19; refine (in_any _ _ _ _).mono ?_; rintro e w2 ⟨rfl, rfl⟩))
      go_ret2
      exact ⟨rfl, hA.trans (hb1.mono (by simp))⟩
  · rw [(home_bad hF).1, (home_bad hF).2]
    go_enter Try.func12, Try.ntmps12
    go_wp2_with (first
        | (go_at_call 8; refine (fault_any s p a len cap ls _ (h.below hA)).mono ?_; rintro e w1 ⟨rfl, hb1⟩)
        | (go_at_call 19; refine (in_any _ _ _ _).mono ?_; rintro e w2 ⟨rfl, rfl⟩))
    go_ret2
    exact ⟨rfl, hA.trans (hb1.mono (by simp))⟩
end Go.Proofs.Ytijpncibpfbkaaa
