/- cluster.Run of a script that is refused: nothing is seen, and the place is told. -/
import Derived.Test.YtjihmhijnpjnoaaGreatDoorClRefuse
import Derived.Test.YtjihmhijnpjnoaaGreatDoorSBox
namespace Go.Proofs.YtjihmhijnpjnoaaGreatDoor.Ln
open Go.ChangeShapes Go.WideShapes Go.ChangeAt Go.RowKit
open Go.Proofs.YtjihmhijnpjnoaaGreatDoor.St (BoxN boxn_new)
set_option linter.unusedVariables false

set_option maxRecDepth 100000 in
set_option maxHeartbeats 4000000 in
theorem run_refused (s p : Int) (a : Option Addr) (len cap : Nat) (ls : List (Int × Int)) (ao : Option Addr) (n cp : Nat) (ys : List AV) (w : World) (h : IsLabs w a len cap ls) (hn : n ≤ 1048576) (hy : n ≤ 3000 → IsActs w ao n cp ys) (hT : LTabs w) (hE : (scrErr s ls p n ys).2 ≠ 0) :
    Calls Tryz.prog 7 #[.agg #[.int .i64 s, .slice a len cap, .int .i64 p], .slice ao n cp] w fun e w' => e = .returned (.tuple #[.agg #[.slice none 0 0, .slice none 0 0, .int .i64 0, .slice none 0 0], .int .i64 (scrErr s ls p n ys).1, .int .i64 (scrErr s ls p n ys).2]) ∧ Below w.heap.size w w' := by
  obtain ⟨W, hW⟩ : ∃ W : World, W = (w.alloc (.cells #[.int .i64 s, .slice a len cap, .int .i64 p] 26)).alloc (.cells #[.slice none 0 0, .slice none 0 0, .int .i64 0, .slice none 0 0] 39) := ⟨_, rfl⟩
  have hB : Below w.heap.size w W := by rw [hW]; exact ((Below.refl _ _).alloc (Nat.le_refl _) _).alloc (by simp) _
  have zW : W.heap.size = w.heap.size + 2 := by rw [hW]; simp
  have d0 : W.cell? ⟨w.heap.size, 0, none⟩ = some (.int .i64 s) := by rw [hW]; go_simp
  have d1 : W.cell? ⟨w.heap.size, 1, none⟩ = some (.slice a len cap) := by rw [hW]; go_simp
  have d2 : W.cell? ⟨w.heap.size, 2, none⟩ = some (.int .i64 p) := by rw [hW]; go_simp
  have ob : BoxN W (w.heap.size + 1) 4 [.slice none 0 0, .slice none 0 0, .int .i64 0, .slice none 0 0] := by
    rw [hW]
    have := boxn_new (w.alloc (.cells #[.int .i64 s, .slice a len cap, .int .i64 p] 26)) #[.slice none 0 0, .slice none 0 0, .int .i64 0, .slice none 0 0] 39 4 rfl
    simpa using this
  have hR := refuse_script s p a len cap ls ao n cp ys W (h.below hB) hn (fun h3 => (hy h3).below hB) (hT.below hB)
  obtain ⟨E1, e1⟩ : ∃ E1, E1 = (scrErr s ls p n ys).1 := ⟨_, rfl⟩
  obtain ⟨E2, e2⟩ : ∃ E2, E2 = (scrErr s ls p n ys).2 := ⟨_, rfl⟩
  rw [← e1, ← e2] at hR ⊢
  have hE' : (E2 != 0) = true := by rw [e2]; simpa using hE
  clear hE e1 e2 hy
  have z0 : w.heap.size < W.heap.size := by omega
  have z1 : w.heap.size + 1 < W.heap.size := by omega
  clear zW
  go_enter Tryz.func7, Tryz.ntmps7
  go_upto_region 1 with (fail)
  rw [← hW]
  clear hW
  go_upto_region 2 with (go_at_call 12; refine hR.mono ?_; rintro e U ⟨rfl, hb⟩)
  have obU := ob.below hb z1
  have o0 := (obU.c 0 (by decide)).1
  have o1 := (obU.c 1 (by decide)).1
  have o2 := (obU.c 2 (by decide)).1
  have o3 := (obU.c 3 (by decide)).1
  have f0 := (obU.c 0 (by decide)).2
  have f1 := (obU.c 1 (by decide)).2
  have f2 := (obU.c 2 (by decide)).2
  have f3 := (obU.c 3 (by decide)).2
  have zo := obU.lt
  simp only [List.getD_cons_zero, List.getD_cons_succ] at o0 o1 o2 o3
  clear d0 d1 d2
  go_wp2
  have obF := (((obU.set 0 (by decide) (.slice none 0 0)).set 1 (by decide) (.slice none 0 0)).set 2 (by decide) (.int .i64 0)).set 3 (by decide) (.slice none 0 0)
  have hle : w.heap.size ≤ w.heap.size + 1 := by omega
  have bF : Below w.heap.size w ((((U.setCell ⟨w.heap.size + 1, 0, none⟩ (.slice none 0 0)).setCell ⟨w.heap.size + 1, 1, none⟩ (.slice none 0 0)).setCell ⟨w.heap.size + 1, 2, none⟩ (.int .i64 0)).setCell ⟨w.heap.size + 1, 3, none⟩ (.slice none 0 0)) := (((((hB.trans (hb.mono hB.size)).setCell (p := ⟨w.heap.size + 1, 0, none⟩) hle _).setCell (p := ⟨w.heap.size + 1, 1, none⟩) hle _).setCell (p := ⟨w.heap.size + 1, 2, none⟩) hle _).setCell (p := ⟨w.heap.size + 1, 3, none⟩) hle _)
  obtain ⟨Y, eY⟩ : ∃ Y, Y = (((U.setCell ⟨w.heap.size + 1, 0, none⟩ (.slice none 0 0)).setCell ⟨w.heap.size + 1, 1, none⟩ (.slice none 0 0)).setCell ⟨w.heap.size + 1, 2, none⟩ (.int .i64 0)).setCell ⟨w.heap.size + 1, 3, none⟩ (.slice none 0 0) := ⟨_, rfl⟩
  rw [← eY] at obF bF ⊢
  clear eY
  have k0 : Y.cell? ⟨w.heap.size + 1, 0, none⟩ = some (.slice none 0 0) := (obF.c 0 (by decide)).1
  have k1 : Y.cell? ⟨w.heap.size + 1, 1, none⟩ = some (.slice none 0 0) := (obF.c 1 (by decide)).1
  have k2 : Y.cell? ⟨w.heap.size + 1, 2, none⟩ = some (.int .i64 0) := (obF.c 2 (by decide)).1
  have k3 : Y.cell? ⟨w.heap.size + 1, 3, none⟩ = some (.slice none 0 0) := (obF.c 3 (by decide)).1
  exact bodyPost_ret (v := .tuple #[.agg #[.slice none 0 0, .slice none 0 0, .int .i64 0, .slice none 0 0], .int .i64 E1, .int .i64 E2]) (by simp [results, Tryz.results7, go_sem, k0, k1, k2, k3]) rfl ⟨rfl, bF⟩
end Go.Proofs.YtjihmhijnpjnoaaGreatDoor.Ln
