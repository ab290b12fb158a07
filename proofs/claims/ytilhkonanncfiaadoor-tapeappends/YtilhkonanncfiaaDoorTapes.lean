/- The contracts of the law's tapes (a tape of the same bytes, in new memory) and sameTape. -/
import Derived.Test.YtilhkonanncfiaaDoorOctets
import Derived.Deep.RegionHeld3
import Derived.Deep.Cut
import Derived.WalkSmall
namespace Go.Proofs.YtilhkonanncfiaaDoor
open Go.ChangeShapes Go.WideShapes Go.ChangeAt Go.RowKit
set_option linter.unusedVariables false

/-- Bytes in new memory. -/
def NewB (w w' : World) (a : Option Addr) (len cap : Nat) (bs : List Int) : Prop := IsB w' a len cap bs ∧ (∀ b off, a = some ⟨b, off, none⟩ → w.heap.size ≤ b)

theorem tapes_any (a : Option Addr) (len cap : Nat) (bs : List Int) (y : Int) (w : World) (h : IsB w a len cap bs) (hl : len ≤ 140737488355328) :
    Calls Tryd.prog 10 #[.agg #[.slice a len cap, .int .i64 y]] w fun e w' => ∃ a' cap', e = .returned (.agg #[.slice a' len cap', .int .i64 y]) ∧ NewB w w' a' len cap' bs ∧ Below w.heap.size w w' := by
  obtain ⟨W, hW⟩ : ∃ W : World, W = (w.alloc (.cells #[.slice a len cap, .int .i64 y] 40)).alloc (.cells #[.slice none 0 0, .int .i64 0] 40) := ⟨_, rfl⟩
  have hB : Below w.heap.size w W := by rw [hW]; exact ((Below.refl _ _).alloc (Nat.le_refl _) _).alloc (by simp) _
  have zW : W.heap.size = w.heap.size + 2 := by rw [hW]; simp
  have d0 : W.cell? ⟨w.heap.size, 0, none⟩ = some (.slice a len cap) := by rw [hW]; go_simp
  have d1 : W.cell? ⟨w.heap.size, 1, none⟩ = some (.int .i64 y) := by rw [hW]; go_simp
  have r0 : W.cell? ⟨w.heap.size + 1, 0, none⟩ = some (.slice none 0 0) := by rw [hW]; go_simp
  have r1 : W.cell? ⟨w.heap.size + 1, 1, none⟩ = some (.int .i64 0) := by rw [hW]; go_simp
  have f0 : W.frozen? ⟨w.heap.size + 1, 0, none⟩ = false := by rw [hW]; go_simp
  have f1 : W.frozen? ⟨w.heap.size + 1, 1, none⟩ = false := by rw [hW]; go_simp
  have hD : Below W.heap.size W W.drew := (Below.refl _ _).drew
  have KC : Hid (∀ V : World, Below W.heap.size W V → V.cell? ⟨w.heap.size, 0, none⟩ = some (.slice a len cap) ∧ V.cell? ⟨w.heap.size, 1, none⟩ = some (.int .i64 y) ∧ V.cell? ⟨w.heap.size + 1, 0, none⟩ = some (.slice none 0 0) ∧ V.cell? ⟨w.heap.size + 1, 1, none⟩ = some (.int .i64 0) ∧ V.frozen? ⟨w.heap.size + 1, 0, none⟩ = false ∧ V.frozen? ⟨w.heap.size + 1, 1, none⟩ = false) := by
    intro V hV
    exact ⟨(hV.cell (p := ⟨w.heap.size, 0, none⟩) (by show w.heap.size < _; omega)).trans d0, (hV.cell (p := ⟨w.heap.size, 1, none⟩) (by show w.heap.size < _; omega)).trans d1, (hV.cell (p := ⟨w.heap.size + 1, 0, none⟩) (by show w.heap.size + 1 < _; omega)).trans r0, (hV.cell (p := ⟨w.heap.size + 1, 1, none⟩) (by show w.heap.size + 1 < _; omega)).trans r1, (hV.frozen (p := ⟨w.heap.size + 1, 0, none⟩) (by show w.heap.size + 1 < _; omega)).trans f0, (hV.frozen (p := ⟨w.heap.size + 1, 1, none⟩) (by show w.heap.size + 1 < _; omega)).trans f1⟩
  go_enter Tryd.func10, Tryd.ntmps10
  go_wp2
  rw [← hW]
  clear hW
  go_region_held3 (fun w' => w'.cell? ⟨w.heap.size, 0, none⟩ = some (.slice a len cap) ∧ w'.cell? ⟨w.heap.size, 1, none⟩ = some (.int .i64 y))
    (first | (go_keep; done) | exact ⟨k0, k1⟩)
    (first
      | ((go_at_call 26; refine (octets_any a len cap bs _ ((h.below hB).below hD) hl).mono ?_; rintro e w1 ⟨a', cap', rfl, hB1, hb1, hge⟩; have hW1 : Below W.heap.size W w1 := hD.trans (hb1.mono (Nat.le_refl _)); obtain ⟨k0, k1, k2, k3, k4, k5⟩ := KC.out _ hW1)))
  all_goals
    have hsz := hW1.size
    have hne : ∀ b off, a' = some ⟨b, off, none⟩ → b ≠ w.heap.size + 1 := fun b off e => by have := hge b off e; simp at this; omega
    have hfin : IsB ((w1.setCell ⟨w.heap.size + 1, 0, none⟩ (.slice a' len cap')).setCell ⟨w.heap.size + 1, 1, none⟩ (.int .i64 y)) a' len cap' bs := (hB1.set _ _ hne).set _ _ hne
    have hbf : Below w.heap.size w ((w1.setCell ⟨w.heap.size + 1, 0, none⟩ (.slice a' len cap')).setCell ⟨w.heap.size + 1, 1, none⟩ (.int .i64 y)) := ((hB.trans (hW1.mono hB.size)).setCell (by simp) _).setCell (by simp) _
    go_wp2
    exact bodyPost_ret (v := .agg #[.slice a' len cap', .int .i64 y]) (by simp [results, Tryd.results10, go_sem, k2, k3]) rfl ⟨a', cap', rfl, ⟨hfin, fun b off e => by have := hge b off e; simp at this; omega⟩, hbf⟩

theorem sameTape_any (a : Option Addr) (len cap : Nat) (bs : List Int) (y : Int) (a2 : Option Addr) (len2 cap2 : Nat) (bs2 : List Int) (y2 : Int) (w : World) (h : IsB w a len cap bs) (h2 : IsB w a2 len2 cap2 bs2) (hy : y = y2) (hb : bs = bs2) :
    Calls Tryd.prog 13 #[.agg #[.slice a len cap, .int .i64 y], .agg #[.slice a2 len2 cap2, .int .i64 y2]] w fun e w' => e = .returned (.bool true) ∧ Below w.heap.size w w' := by
  subst hy
  subst hb
  obtain ⟨W, hW⟩ : ∃ W : World, W = (w.alloc (.cells #[.slice a len cap, .int .i64 y] 40)).alloc (.cells #[.slice a2 len2 cap2, .int .i64 y] 40) := ⟨_, rfl⟩
  have hB : Below w.heap.size w W := by rw [hW]; exact ((Below.refl _ _).alloc (Nat.le_refl _) _).alloc (by simp) _
  have s1 := run_string (h.below hB)
  have s2 := run_string (h2.below hB)
  have d0 : W.cell? ⟨w.heap.size, 0, none⟩ = some (.slice a len cap) := by rw [hW]; go_simp
  have d1 : W.cell? ⟨w.heap.size, 1, none⟩ = some (.int .i64 y) := by rw [hW]; go_simp
  have r0 : W.cell? ⟨w.heap.size + 1, 0, none⟩ = some (.slice a2 len2 cap2) := by rw [hW]; go_simp
  have r1 : W.cell? ⟨w.heap.size + 1, 1, none⟩ = some (.int .i64 y) := by rw [hW]; go_simp
  go_enter Tryd.func13, Tryd.ntmps13
  go_upto_region 1 with (fail)
  rw [← hW]
  clear hW
  go_wp2
  go_ret
  exact ⟨rfl, hB⟩
/-- A tape that was laid into a new block of its own. -/
theorem boxT (u : World) (a : Option Addr) (len cap : Nat) (y : Int) : ∃ V : World, V = u.alloc (.cells #[.slice a len cap, .int .i64 y] 40) ∧
    V.cell? ⟨u.heap.size, 0, none⟩ = some (.slice a len cap) ∧ V.cell? ⟨u.heap.size, 1, none⟩ = some (.int .i64 y) ∧ V.heap.size = u.heap.size + 1 ∧ Below u.heap.size u V := by
  refine ⟨_, rfl, by go_simp, by go_simp, by simp, ?_⟩
  exact (Below.refl _ _).alloc (Nat.le_refl _) _

end Go.Proofs.YtilhkonanncfiaaDoor
