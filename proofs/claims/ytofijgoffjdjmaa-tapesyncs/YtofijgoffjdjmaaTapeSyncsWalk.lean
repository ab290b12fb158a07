/- The law TapeSyncs at every argument. -/
import Derived.Test.YtofijgoffjdjmaaTSyncRef
import Derived.Test.YtofijgoffjdjmaaTapes
namespace Go.Proofs.Ytofijgoffjdjmaa
open Go.ChangeShapes Go.WideShapes Go.ChangeAt Go.RowKit
set_option linter.unusedVariables false

/-- A tape that was laid into a new block of its own. -/
theorem boxT (u : World) (a : Option Addr) (len cap : Nat) (y : Int) : ∃ V : World, V = u.alloc (.cells #[.slice a len cap, .int .i64 y] 24) ∧
    V.cell? ⟨u.heap.size, 0, none⟩ = some (.slice a len cap) ∧ V.cell? ⟨u.heap.size, 1, none⟩ = some (.int .i64 y) ∧ V.heap.size = u.heap.size + 1 ∧ Below u.heap.size u V := by
  refine ⟨_, rfl, by go_simp, by go_simp, by simp, ?_⟩
  exact (Below.refl _ _).alloc (Nat.le_refl _) _

theorem tapeSyncs_walk (a : Option Addr) (len cap : Nat) (bs : List Int) (y : Int) (w : World) (h : IsB w a len cap bs) (hy : -9223372036854775808 ≤ y ∧ y ≤ 9223372036854775807) (hl : len ≤ 140737488351232) :
    Calls Try.prog 4 #[.agg #[.slice a len cap, .int .i64 y]] w fun e w' => e = .returned (.bool true) ∧ Below w.heap.size w w' := by
  obtain ⟨W, hW⟩ : ∃ W : World, W = w.alloc (.cells #[.slice a len cap, .int .i64 y] 24) := ⟨_, rfl⟩
  have hB : Below w.heap.size w W := by rw [hW]; exact (Below.refl _ _).alloc (Nat.le_refl _) _
  have zW : W.heap.size = w.heap.size + 1 := by rw [hW]; simp
  have d0 : W.cell? ⟨w.heap.size, 0, none⟩ = some (.slice a len cap) := by rw [hW]; go_simp
  have d1 : W.cell? ⟨w.heap.size, 1, none⟩ = some (.int .i64 y) := by rw [hW]; go_simp
  have KC : Hid (∀ V : World, Below W.heap.size W V → V.cell? ⟨w.heap.size, 0, none⟩ = some (.slice a len cap) ∧ V.cell? ⟨w.heap.size, 1, none⟩ = some (.int .i64 y)) := by
    intro V hV
    exact ⟨(hV.cell (p := ⟨w.heap.size, 0, none⟩) (by show w.heap.size < _; omega)).trans d0, (hV.cell (p := ⟨w.heap.size, 1, none⟩) (by show w.heap.size < _; omega)).trans d1⟩
  obtain ⟨rb, hrb⟩ : ∃ rb, rb = (if mayT len y then bs else []) := ⟨_, rfl⟩
  obtain ⟨ry, hry⟩ : ∃ ry, ry = (if mayT len y then (len : Int) else 0) := ⟨_, rfl⟩
  obtain ⟨re, hre⟩ : ∃ re : Int, re = (if mayT len y then 0 else 9) := ⟨_, rfl⟩
  have hsync := fun (a : Option Addr) (cap : Nat) (w : World) (h : IsB w a len cap bs) => sync_any a len cap bs y w h
  have href := fun (a : Option Addr) (cap : Nat) (w : World) (h : IsB w a len cap bs) => tapeSynced_any a len cap bs y w h
  rw [← hrb, ← hry, ← hre] at hsync href
  clear hrb hry hre
  go_enter Try.func4, Try.ntmps4
  go_upto_region 1 with (fail)
  rw [← hW]
  clear hW
  go_upto_region 2 with (first
    | (go_at_call 9; refine (tapes_any a len cap bs y _ (h.below hB) (by omega)).mono ?_; rintro e w1 ⟨a1, cap1, rfl, hN1, hb1⟩)
    | (go_at_call 8; refine (hsync a1 cap1 _ hN1.1).mono ?_; rintro e w2 ⟨a2, len2, cap2, rfl, hB2, hge2, hb2⟩))
  obtain ⟨V, hV, x0, x1, zV, bV⟩ := boxT w2 a2 len2 cap2 ry
  rw [← hV]
  clear hV
  have hWV : Below W.heap.size W V := (hb1.trans (hb2.mono hb1.size)).trans (bV.mono (Nat.le_trans hb1.size hb2.size))
  obtain ⟨k0, k1⟩ := KC.out _ hWV
  clear d0 d1
  have hIV := h.below (hB.trans (hWV.mono hB.size))
  have hB2V := hB2.below bV
  go_upto_region 3 with (go_at_call 10; refine (href a cap _ hIV).mono ?_; rintro e w3 ⟨a3, len3, cap3, rfl, hB3, hge3, hb3⟩)
  obtain ⟨U, hU, y0, y1, zU, bU⟩ := boxT w3 a3 len3 cap3 ry
  rw [← hU]
  clear hU
  have hVU : Below V.heap.size V U := hb3.trans (bU.mono hb3.size)
  have z0 := (hVU.cell (p := ⟨w2.heap.size, 0, none⟩) (by show w2.heap.size < _; omega)).trans x0
  have z1 := (hVU.cell (p := ⟨w2.heap.size, 1, none⟩) (by show w2.heap.size < _; omega)).trans x1
  go_wp2_with (go_at_call 11; refine (sameTape_any a2 len2 cap2 rb ry a3 len3 cap3 rb ry _ (hB2V.below hVU) (hB3.below bU) rfl rfl).mono ?_; rintro e w4 ⟨rfl, hb4⟩)
  go_ret
  exact ⟨rfl, ((hB.trans (hWV.mono hB.size)).trans (hVU.mono (by have := hWV.size; omega))).trans (hb4.mono (by have := hWV.size; have := hVU.size; omega))⟩
end Go.Proofs.Ytofijgoffjdjmaa
