/- The contract of net.Empty: nothing is on its way. -/
import Derived.Test.YtcdfaimpbbjioaaDoorNFly
import Derived.Test.YtcdfaimpbbjioaaDoorCheck
import Derived.Deep.RegionHeld3
import Derived.Deep.DeepCutAuto
namespace Go.Proofs.YtcdfaimpbbjioaaDoor.Nt
open Go.ChangeShapes Go.WideShapes Go.ChangeAt Go.RowKit
set_option linter.unusedVariables false

set_option maxRecDepth 100000 in
set_option maxHeartbeats 1000000 in
theorem empty_any (s p : Int) (a : Option Addr) (len cap : Nat) (ls : List (Int × Int)) (w : World) (hcf : cfgFault s ls p = 0) (h : IsLabs w a len cap ls) (n : Nat) (hn : (n : Int) = s * s) :
    Calls Tryd.prog 8 #[.agg #[.int .i64 s, .slice a len cap, .int .i64 p]] w fun e w' => ∃ g, e = .returned (.tuple #[.slice (some ⟨g, 0, none⟩) n n, .int .i64 0]) ∧ OwnFly w' w.heap.size (.slice (some ⟨g, 0, none⟩) n n) (List.replicate n default) ∧ Below w.heap.size w w' := by
  have hCk := fun w' h1 => check_any s p a len cap ls w' h1
  rw [hcf] at hCk
  obtain ⟨i0, hi, li0, li1, li2⟩ := info_parts slInfo
  obtain ⟨s1, s4, _⟩ := cfg_zero hcf
  obtain ⟨q1, q2, _⟩ := sq_bd s1 s4
  have kq : IntKind.i64.wrap (s * s) = (n : Int) := by rw [hn]; exact wrapI (by omega)
  have hn16 : n ≤ 16 := by omega
  clear hn
  obtain ⟨W, hW⟩ : ∃ W : World, W = w.alloc (.cells #[.int .i64 s, .slice a len cap, .int .i64 p] 26) := ⟨_, rfl⟩
  have hB : Below w.heap.size w W := by rw [hW]; exact (Below.refl _ _).alloc (Nat.le_refl _) _
  have z0 : w.heap.size < W.heap.size := by rw [hW]; simp
  have c0 : W.cell? ⟨w.heap.size, 0, none⟩ = some (.int .i64 s) := by rw [hW]; go_simp
  have c1 : W.cell? ⟨w.heap.size, 1, none⟩ = some (.slice a len cap) := by rw [hW]; go_simp
  have c2 : W.cell? ⟨w.heap.size, 2, none⟩ = some (.int .i64 p) := by rw [hW]; go_simp
  have hLW := h.below hB
  go_enter Tryd.func8, Tryd.ntmps8
  go_upto_region 1 with (fail)
  rw [← hW]
  clear hW
  go_upto_region 4 with (go_at_call 16; refine (hCk _ hLW).mono ?_; rintro e w1 ⟨rfl, hb1⟩)
  have d0 := (hb1.cell (p := ⟨w.heap.size, 0, none⟩) z0).trans c0
  have z1 : w.heap.size ≤ w1.heap.size := Nat.le_trans (Nat.le_of_lt z0) hb1.size
  go_wp2_with (refine wpList_make_full _ (by rfl) (.tmp 14) (.tmp 14) 30 (by rfl) w.heap.size 28 i0 (.slice none 0 0) 1 Tryd.underlying30 hi li0 li1 .i64 .i64 _ _ n (by rfl) (by rfl) (by rfl) (by rfl) (by rw [li2]; omega) (by unfold maxLen; omega) z1 ?_; intro w2 hown hgr)
  go_ret2
  exact ⟨_, rfl, ownFly_made hown, hB.trans ((hb1.trans ((grownN hgr).mono hb1.size)).mono hB.size)⟩

theorem empty_bad (s p : Int) (a : Option Addr) (len cap : Nat) (ls : List (Int × Int)) (w : World) (hcf : cfgFault s ls p ≠ 0) (h : IsLabs w a len cap ls) :
    Calls Tryd.prog 8 #[.agg #[.int .i64 s, .slice a len cap, .int .i64 p]] w fun e w' => e = .returned (.tuple #[.slice none 0 0, .int .i64 (cfgFault s ls p)]) ∧ Below w.heap.size w w' := by
  have hCk := fun w' h1 => check_any s p a len cap ls w' h1
  obtain ⟨C, eC⟩ : ∃ C, C = cfgFault s ls p := ⟨_, rfl⟩
  rw [← eC] at hCk hcf ⊢
  clear eC
  obtain ⟨W, hW⟩ : ∃ W : World, W = w.alloc (.cells #[.int .i64 s, .slice a len cap, .int .i64 p] 26) := ⟨_, rfl⟩
  have hB : Below w.heap.size w W := by rw [hW]; exact (Below.refl _ _).alloc (Nat.le_refl _) _
  have c0 : W.cell? ⟨w.heap.size, 0, none⟩ = some (.int .i64 s) := by rw [hW]; go_simp
  have c1 : W.cell? ⟨w.heap.size, 1, none⟩ = some (.slice a len cap) := by rw [hW]; go_simp
  have c2 : W.cell? ⟨w.heap.size, 2, none⟩ = some (.int .i64 p) := by rw [hW]; go_simp
  have hLW := h.below hB
  go_enter Tryd.func8, Tryd.ntmps8
  go_upto_region 1 with (fail)
  rw [← hW]
  clear hW
  go_wp2_with (go_at_call 16; refine (hCk _ hLW).mono ?_; rintro e w1 ⟨rfl, hb1⟩)
  go_ret2
  exact ⟨rfl, hB.trans (hb1.mono hB.size)⟩

end Go.Proofs.YtcdfaimpbbjioaaDoor.Nt
