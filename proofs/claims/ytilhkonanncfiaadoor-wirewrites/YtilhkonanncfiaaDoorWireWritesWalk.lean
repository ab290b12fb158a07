/- The walk of the law WireWrites: at any config and record it returns true and leaves what was in memory. -/
import Derived.Test.YtilhkonanncfiaaDoorWRefRec
import Derived.Test.YtilhkonanncfiaaDoorWEncR
namespace Go.Proofs.YtilhkonanncfiaaDoor
open Go.ChangeShapes Go.WideShapes Go.ChangeAt Go.RowKit
set_option linter.unusedVariables false

set_option maxRecDepth 100000 in
set_option maxHeartbeats 1000000 in
theorem wireWrites_walk (s : Int) (a : Option Addr) (len cap : Nat) (p : Int) (ls : List (Int × Int)) (r : RcV) (w : World) (_ : (Lit.int .i64 s).wf = true) (h : IsLabs w a len cap ls) (_ : (Lit.int .i64 p).wf = true) (hi : IsInts w r.sa r.sl r.sc r.sites) (hm : HasAt w 1 rHas) (hwd : WidsAt w) (ht : TopsAt w) :
    Calls Tryd.prog 4 #[.agg #[.int .i64 s, .slice a len cap, .int .i64 p], r.val] w fun e w' => e = .returned (.bool true) ∧ Below w.heap.size w w' := by
  have hgW : 2 < w.heap.size := hwd.lt
  have hc := fun w' h1 h2 h3 h4 h5 => encodeRecord_any s p a len cap ls r w' h1 h2 h3 h4 h5
  have hf := fun w' h1 h2 => recordBytes_any s p a len cap ls r w' h1 h2
  obtain ⟨BS, eBS⟩ : ∃ BS, BS = if recFault s ls p r = 0 then recBytes r else [] := ⟨_, rfl⟩
  obtain ⟨F, eF⟩ : ∃ F, F = recFault s ls p r := ⟨_, rfl⟩
  rw [← eBS, ← eF] at hc
  rw [← eBS, ← eF] at hf
  clear eBS eF
  obtain ⟨kind, site, num, key, value, ask, yes, sa, sl, sc, sites⟩ := r
  simp only [RcV.val] at hc hf hi ⊢
  obtain ⟨W, hW⟩ : ∃ W : World, W = (w.alloc (.cells #[.int .i64 s, .slice a len cap, .int .i64 p] 24)).alloc (.cells #[.int .i64 kind, .int .i64 site, .int .i64 num, .int .i64 key, .int .i64 value, .int .i64 ask, .bool yes, .slice sa sl sc] 36) := ⟨_, rfl⟩
  have hB : Below w.heap.size w W := by rw [hW]; exact ((Below.refl _ _).alloc (Nat.le_refl _) _).alloc (by simp) _
  have hLW := h.below hB
  have hIW := hi.below hB
  have tW : TopsAt W := ht.below hB (World.block_lt_of_cell? w _ ht.1)
  have mW : HasAt W 1 rHas := hm.below hB (hm.lt (by decide))
  have wW : WidsAt W := hwd.below hB hgW
  go_enter Tryd.func4, Tryd.ntmps4
  go_upto_region 1 with (fail)
  rw [← hW]
  have z0 : w.heap.size < W.heap.size := by rw [hW]; simp; omega
  have z1 : w.heap.size + 1 < W.heap.size := by rw [hW]; simp
  have c0 : W.cell? ⟨w.heap.size, 0, none⟩ = some (.int .i64 s) := by rw [hW]; go_simp
  have c1 : W.cell? ⟨w.heap.size, 1, none⟩ = some (.slice a len cap) := by rw [hW]; go_simp
  have c2 : W.cell? ⟨w.heap.size, 2, none⟩ = some (.int .i64 p) := by rw [hW]; go_simp
  have d0 : W.cell? ⟨w.heap.size + 1, 0, none⟩ = some (.int .i64 kind) := by rw [hW]; go_simp
  have d1 : W.cell? ⟨w.heap.size + 1, 1, none⟩ = some (.int .i64 site) := by rw [hW]; go_simp
  have d2 : W.cell? ⟨w.heap.size + 1, 2, none⟩ = some (.int .i64 num) := by rw [hW]; go_simp
  have d3 : W.cell? ⟨w.heap.size + 1, 3, none⟩ = some (.int .i64 key) := by rw [hW]; go_simp
  have d4 : W.cell? ⟨w.heap.size + 1, 4, none⟩ = some (.int .i64 value) := by rw [hW]; go_simp
  have d5 : W.cell? ⟨w.heap.size + 1, 5, none⟩ = some (.int .i64 ask) := by rw [hW]; go_simp
  have d6 : W.cell? ⟨w.heap.size + 1, 6, none⟩ = some (.bool yes) := by rw [hW]; go_simp
  have d7 : W.cell? ⟨w.heap.size + 1, 7, none⟩ = some (.slice sa sl sc) := by rw [hW]; go_simp
  clear hW
  go_upto_region 2 with (go_at_call 8; refine (hc _ hLW hIW mW tW wW).mono ?_; rintro e w1 ⟨x1, n1, y1, rfl, hB1, _, hb1⟩)
  have e0 : ∀ o, w1.cell? ⟨w.heap.size, o, none⟩ = W.cell? ⟨w.heap.size, o, none⟩ := fun o => hb1.cell (p := ⟨w.heap.size, o, none⟩) z0
  have e1 : ∀ o, w1.cell? ⟨w.heap.size + 1, o, none⟩ = W.cell? ⟨w.heap.size + 1, o, none⟩ := fun o => hb1.cell (p := ⟨w.heap.size + 1, o, none⟩) z1
  have hL1 := hLW.below hb1
  have hI1 := hIW.below hb1
  go_upto_region 3 with (go_at_call 9; refine (hf _ hL1 hI1).mono ?_; rintro e w2 ⟨x2, n2, y2, rfl, hB2, hb2⟩)
  have s1 := run_string (hB1.below hb2)
  have s2 := run_string hB2
  clear e0 e1
  go_wp2
  go_ret
  exact ⟨rfl, hB.trans ((hb1.trans (hb2.mono hb1.size)).mono hB.size)⟩
end Go.Proofs.YtilhkonanncfiaaDoor
