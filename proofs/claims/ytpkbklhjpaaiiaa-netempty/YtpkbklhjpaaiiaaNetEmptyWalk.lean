/- The walk of the law NetEmpty: at any config it returns true and leaves what was in memory. -/
import Derived.Test.YtpkbklhjpaaiiaaNEmptyRef
import Derived.Test.YtpkbklhjpaaiiaaNSame
namespace Go.Proofs.Ytpkbklhjpaaiiaa
open Go.ChangeShapes Go.WideShapes Go.ChangeAt Go.RowKit
set_option linter.unusedVariables false

set_option maxRecDepth 100000 in
set_option maxHeartbeats 1000000 in
theorem netEmpty_walk (s : Int) (a : Option Addr) (len cap : Nat) (p : Int) (ls : List (Int × Int)) (w : World) (_ : (Lit.int .i64 s).wf = true) (h : IsLabs w a len cap ls) (_ : (Lit.int .i64 p).wf = true) :
    Calls Try.prog 3 #[.agg #[.int .i64 s, .slice a len cap, .int .i64 p]] w fun e w' => e = .returned (.bool true) ∧ Below w.heap.size w w' := by
  obtain ⟨W, hW⟩ : ∃ W : World, W = w.alloc (.cells #[.int .i64 s, .slice a len cap, .int .i64 p] 24) := ⟨_, rfl⟩
  have hB : Below w.heap.size w W := by rw [hW]; exact (Below.refl _ _).alloc (Nat.le_refl _) _
  have z0 : w.heap.size < W.heap.size := by rw [hW]; simp
  have c0 : W.cell? ⟨w.heap.size, 0, none⟩ = some (.int .i64 s) := by rw [hW]; go_simp
  have c1 : W.cell? ⟨w.heap.size, 1, none⟩ = some (.slice a len cap) := by rw [hW]; go_simp
  have c2 : W.cell? ⟨w.heap.size, 2, none⟩ = some (.int .i64 p) := by rw [hW]; go_simp
  have hLW := h.below hB
  go_enter Try.func3, Try.ntmps3
  go_upto_region 1 with (fail)
  rw [← hW]
  clear hW
  by_cases hcf : cfgFault s ls p = 0
  · obtain ⟨s1, s4, _⟩ := cfg_zero hcf
    obtain ⟨q1, q2, _⟩ := Nt.sq_bd s1 s4
    obtain ⟨n, hn⟩ : ∃ n : Nat, (n : Int) = s * s := ⟨(s * s).toNat, by omega⟩
    have HN : Hid ((n : Int) = s * s) := hn
    clear hn
    go_upto_region 2 with (go_at_call 4; refine (Nt.empty_any s p a len cap ls _ hcf hLW n HN.out).mono ?_; rintro e w1 ⟨g, rfl, hO1, hb1⟩)
    have d0 := (hb1.cell (p := ⟨w.heap.size, 0, none⟩) z0).trans c0
    have d1 := (hb1.cell (p := ⟨w.heap.size, 1, none⟩) z0).trans c1
    have d2 := (hb1.cell (p := ⟨w.heap.size, 2, none⟩) z0).trans c2
    have hL1 := hLW.below hb1
    go_upto_region 3 with (go_at_call 5; refine (Nt.emptyOf_any s p a len cap ls _ hcf hL1 n HN.out).mono ?_; rintro e w2 ⟨g2, rfl, hO2, hb2⟩)
    have f1 := (hO1.below hb2).isFly.2.1
    have f2 := hO2.isFly.2.1
    go_wp2_with (go_at_call 6; refine (Nt.sameFlying_any _ _ n n n _ _ _ f1 f2 (fun _ _ => rfl)).mono ?_; rintro e w3 ⟨rfl, hb3⟩)
    go_ret
    exact ⟨rfl, hB.trans ((hb1.trans ((hb2.trans (hb3.mono hb2.size)).mono hb1.size)).mono hB.size)⟩
  · have hE := fun w' h' => Nt.empty_bad s p a len cap ls w' hcf h'
    have hF := fun w' h' => Nt.emptyOf_bad s p a len cap ls w' hcf h'
    obtain ⟨C, eC⟩ : ∃ C, C = cfgFault s ls p := ⟨_, rfl⟩
    rw [← eC] at hE hF
    clear eC
    go_upto_region 2 with (go_at_call 4; refine (hE _ hLW).mono ?_; rintro e w1 ⟨rfl, hb1⟩)
    have d0 := (hb1.cell (p := ⟨w.heap.size, 0, none⟩) z0).trans c0
    have d1 := (hb1.cell (p := ⟨w.heap.size, 1, none⟩) z0).trans c1
    have d2 := (hb1.cell (p := ⟨w.heap.size, 2, none⟩) z0).trans c2
    have hL1 := hLW.below hb1
    go_upto_region 3 with (go_at_call 5; refine (hF _ hL1).mono ?_; rintro e w2 ⟨rfl, hb2⟩)
    have f0 : Nt.IsFly w2 none 0 0 [] := ⟨Nt.isRow_nil _ _ _, by simp⟩
    go_wp2_with (go_at_call 6; refine (Nt.sameFlying_any _ _ 0 0 0 _ _ _ f0 f0 (fun _ _ => rfl)).mono ?_; rintro e w3 ⟨rfl, hb3⟩)
    go_ret
    exact ⟨rfl, hB.trans ((hb1.trans ((hb2.trans (hb3.mono hb2.size)).mono hb1.size)).mono hB.size)⟩
end Go.Proofs.Ytpkbklhjpaaiiaa
