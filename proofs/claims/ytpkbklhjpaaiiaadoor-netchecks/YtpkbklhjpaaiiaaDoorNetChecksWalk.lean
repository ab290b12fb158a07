/- The walk of the law NetChecks: at any config and lists it returns true and leaves what was in memory. -/
import Derived.Test.YtpkbklhjpaaiiaaDoorNCheck
import Derived.Test.YtpkbklhjpaaiiaaDoorNFault
namespace Go.Proofs.YtpkbklhjpaaiiaaDoor
open Go.ChangeShapes Go.WideShapes Go.ChangeAt Go.RowKit
set_option linter.unusedVariables false

theorem netChecks_walk (s : Int) (a : Option Addr) (len cap : Nat) (p : Int) (ls : List (Int × Int)) (fa : Option Addr) (fl fc : Nat) (fs : List Nt.FL) (w : World) (_ : (Lit.int .i64 s).wf = true) (h : IsLabs w a len cap ls) (_ : (Lit.int .i64 p).wf = true) (hL : Nt.IsFly w fa fl fc fs) (hm : HasAt w 0 mHas) (ht : TopsAt w) :
    Calls Tryd.prog 3 #[.agg #[.int .i64 s, .slice a len cap, .int .i64 p], .slice fa fl fc] w fun e w' => e = .returned (.bool true) ∧ Below w.heap.size w w' := by
  have hc := fun w' h1 h2 h3 h4 => Nt.netCheck_any s p a len cap ls fa fl fc fs w' h1 h2 h3 h4
  have hf := fun w' h1 h2 => Nt.flyingFault_any s p a len cap ls fa fl fc fs w' h1 h2
  obtain ⟨F, eF⟩ : ∃ F, F = Nt.flyFault s ls p fs := ⟨_, rfl⟩
  rw [← eF] at hc hf
  clear eF
  obtain ⟨W, hW⟩ : ∃ W : World, W = w.alloc (.cells #[.int .i64 s, .slice a len cap, .int .i64 p] 24) := ⟨_, rfl⟩
  have hB : Below w.heap.size w W := by rw [hW]; exact (Below.refl _ _).alloc (Nat.le_refl _) _
  have z0 : w.heap.size < W.heap.size := by rw [hW]; simp
  have c0 : W.cell? ⟨w.heap.size, 0, none⟩ = some (.int .i64 s) := by rw [hW]; go_simp
  have c1 : W.cell? ⟨w.heap.size, 1, none⟩ = some (.slice a len cap) := by rw [hW]; go_simp
  have c2 : W.cell? ⟨w.heap.size, 2, none⟩ = some (.int .i64 p) := by rw [hW]; go_simp
  have hLW := h.below hB
  have hFW := hL.below hB
  have tW : TopsAt W := ht.below hB (World.block_lt_of_cell? w _ ht.1)
  have mW : HasAt W 0 mHas := hm.below hB (hm.lt (by decide))
  go_enter Tryd.func3, Tryd.ntmps3
  go_upto_region 1 with (fail)
  rw [← hW]
  clear hW
  go_upto_region 2 with (go_at_call 6; refine (hc _ hLW hFW mW tW).mono ?_; rintro e w1 ⟨rfl, hb1⟩)
  have d0 := (hb1.cell (p := ⟨w.heap.size, 0, none⟩) z0).trans c0
  have d1 := (hb1.cell (p := ⟨w.heap.size, 1, none⟩) z0).trans c1
  have d2 := (hb1.cell (p := ⟨w.heap.size, 2, none⟩) z0).trans c2
  have hL1 := hLW.below hb1
  have hF1 := hFW.below hb1
  go_wp2_with (go_at_call 7; refine (hf _ hL1 hF1).mono ?_; rintro e w2 ⟨rfl, hb2⟩)
  go_ret
  exact ⟨rfl, hB.trans ((hb1.trans (hb2.mono hb1.size)).mono hB.size)⟩
end Go.Proofs.YtpkbklhjpaaiiaaDoor
