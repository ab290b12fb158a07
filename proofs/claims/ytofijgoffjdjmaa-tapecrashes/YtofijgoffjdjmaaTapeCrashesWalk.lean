/- The law TapeCrashes at every argument. -/
import Derived.Test.YtofijgoffjdjmaaTCrashRef
import Derived.Test.YtofijgoffjdjmaaTapes
namespace Go.Proofs.Ytofijgoffjdjmaa
open Go.ChangeShapes Go.WideShapes Go.ChangeAt Go.RowKit
set_option linter.unusedVariables false

theorem tapeCrashes_walk (a : Option Addr) (len cap : Nat) (bs : List Int) (y keep : Int) (w : World) (h : IsB w a len cap bs) (hy : -9223372036854775808 ≤ y ∧ y ≤ 9223372036854775807) (hl : len ≤ 140737488351232) (hk : (Lit.int .i64 keep).wf = true) :
    Calls Try.prog 5 #[.agg #[.slice a len cap, .int .i64 y], .int .i64 keep] w fun e w' => e = .returned (.bool true) ∧ Below w.heap.size w w' := by
  have hkb := bounds_i64 hk
  clear hk
  obtain ⟨W, hW⟩ : ∃ W : World, W = w.alloc (.cells #[.slice a len cap, .int .i64 y] 24) := ⟨_, rfl⟩
  have hB : Below w.heap.size w W := by rw [hW]; exact (Below.refl _ _).alloc (Nat.le_refl _) _
  have zW : W.heap.size = w.heap.size + 1 := by rw [hW]; simp
  have d0 : W.cell? ⟨w.heap.size, 0, none⟩ = some (.slice a len cap) := by rw [hW]; go_simp
  have d1 : W.cell? ⟨w.heap.size, 1, none⟩ = some (.int .i64 y) := by rw [hW]; go_simp
  have KC : Hid (∀ V : World, Below W.heap.size W V → V.cell? ⟨w.heap.size, 0, none⟩ = some (.slice a len cap) ∧ V.cell? ⟨w.heap.size, 1, none⟩ = some (.int .i64 y)) := by
    intro V hV
    exact ⟨(hV.cell (p := ⟨w.heap.size, 0, none⟩) (by show w.heap.size < _; omega)).trans d0, (hV.cell (p := ⟨w.heap.size, 1, none⟩) (by show w.heap.size < _; omega)).trans d1⟩
  have hcr := fun (a : Option Addr) (cap : Nat) (w : World) (h : IsB w a len cap bs) => crash_any a len cap bs y keep w h hkb
  have href := fun (a : Option Addr) (cap : Nat) (w : World) (h : IsB w a len cap bs) => tapeCrashed_any a len cap bs y keep w h hkb
  obtain ⟨rb, hrb⟩ : ∃ rb, rb = crBs len y keep bs := ⟨_, rfl⟩
  obtain ⟨ry, hry⟩ : ∃ ry, ry = crY len y keep := ⟨_, rfl⟩
  obtain ⟨re, hre⟩ : ∃ re : Int, re = crErr len y keep := ⟨_, rfl⟩
  rw [← hrb, ← hry, ← hre] at hcr href
  clear hrb hry hre
  go_enter Try.func5, Try.ntmps5
  go_upto_region 1 with (fail)
  rw [← hW]
  clear hW
  go_upto_region 2 with (go_at_call 9; refine (tapes_any a len cap bs y _ (h.below hB) (by omega)).mono ?_; rintro e w1 ⟨a1, cap1, rfl, hN1, hb1⟩)
  obtain ⟨X, hX, x0, x1, zX, bX⟩ := boxT w1 a1 len cap1 y
  rw [← hX]
  clear hX
  have hI1 := hN1.1.below bX
  go_upto_region 3 with (go_at_call 12; refine (hcr a1 cap1 _ hI1).mono ?_; rintro e w2 ⟨a2, len2, cap2, rfl, hB2, hge2, hb2⟩)
  obtain ⟨V, hV, v0, v1, zV, bV⟩ := boxT w2 a2 len2 cap2 ry
  rw [← hV]
  clear hV
  have hXV : Below X.heap.size X V := hb2.trans (bV.mono hb2.size)
  have hW1V : Below w1.heap.size w1 V := bX.trans (hXV.mono (by omega))
  have hWV : Below W.heap.size W V := hb1.trans (hW1V.mono hb1.size)
  obtain ⟨k0, k1⟩ := KC.out _ hWV
  clear d0 d1
  have hIV := h.below (hB.trans (hWV.mono hB.size))
  have hB2V := hB2.below bV
  go_upto_region 4 with (go_at_call 13; refine (href a cap _ hIV).mono ?_; rintro e w3 ⟨a3, len3, cap3, rfl, hB3, hge3, hb3⟩)
  obtain ⟨U, hU, y0, y1, zU, bU⟩ := boxT w3 a3 len3 cap3 ry
  rw [← hU]
  clear hU
  have hVU : Below V.heap.size V U := hb3.trans (bU.mono hb3.size)
  have s3 := hVU.size
  have s2 := hb2.size
  have sX := hXV.size
  have s1 := hb1.size
  have z0 := (hVU.cell (p := ⟨w2.heap.size, 0, none⟩) (by show w2.heap.size < _; omega)).trans v0
  have z1 := (hVU.cell (p := ⟨w2.heap.size, 1, none⟩) (by show w2.heap.size < _; omega)).trans v1
  have hXU : Below X.heap.size X U := hXV.trans (hVU.mono sX)
  have q0 := (hXU.cell (p := ⟨w1.heap.size, 0, none⟩) (by show w1.heap.size < _; omega)).trans x0
  have q1 := (hXU.cell (p := ⟨w1.heap.size, 1, none⟩) (by show w1.heap.size < _; omega)).trans x1
  have hWU : Below W.heap.size W U := hWV.trans (hVU.mono (by omega))
  have hwU := hB.trans (hWU.mono hB.size)
  obtain ⟨m0, m1⟩ := KC.out _ hWU
  clear k0 k1 x0 x1 v0 v1
  have hI1U := hI1.below hXU
  have hIU := h.below hwU
  have tok : True := trivial
  have lt1 : w1.heap.size < U.heap.size := by omega
  have lt0 : w.heap.size < U.heap.size := by omega
  go_wp2_with (go_at_call 11; first
    | (clear tok; refine (sameTape_any a2 len2 cap2 rb ry a3 len3 cap3 rb ry _ (hB2V.below hVU) (hB3.below bU) rfl rfl).mono ?_; rintro e w4 ⟨rfl, hb4⟩; have p0 := (hb4.cell (p := ⟨w1.heap.size, 0, none⟩) lt1).trans q0; have p1 := (hb4.cell (p := ⟨w1.heap.size, 1, none⟩) lt1).trans q1; have p2 := (hb4.cell (p := ⟨w.heap.size, 0, none⟩) lt0).trans m0; have p3 := (hb4.cell (p := ⟨w.heap.size, 1, none⟩) lt0).trans m1)
    | (refine (sameTape_any a1 len cap1 bs y a len cap bs y _ (hI1U.below hb4) (hIU.below hb4) rfl rfl).mono ?_; rintro e w5 ⟨rfl, hb5⟩))
  go_ret
  exact ⟨rfl, (hwU.trans (hb4.mono hwU.size)).trans (hb5.mono (by have := hb4.size; have := hwU.size; omega))⟩
end Go.Proofs.Ytofijgoffjdjmaa
