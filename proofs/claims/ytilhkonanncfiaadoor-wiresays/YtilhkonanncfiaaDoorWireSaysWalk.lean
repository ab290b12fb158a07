/- The walk of the law WireSays: at any config and message it returns true and leaves what was in memory. -/
import Derived.Test.YtilhkonanncfiaaDoorWRefMsg
import Derived.Test.YtilhkonanncfiaaDoorWEncM
namespace Go.Proofs.YtilhkonanncfiaaDoor
open Go.ChangeShapes Go.WideShapes Go.ChangeAt Go.RowKit
set_option linter.unusedVariables false

set_option maxRecDepth 100000 in
set_option maxHeartbeats 1000000 in
theorem wireSays_walk (s : Int) (a : Option Addr) (len cap : Nat) (p : Int) (ls : List (Int × Int)) (m : MV) (w : World) (_ : (Lit.int .i64 s).wf = true) (h : IsLabs w a len cap ls) (_ : (Lit.int .i64 p).wf = true) (hm : HasAt w 0 mHas) (hwd : WidsAt w) (ht : TopsAt w) :
    Calls Tryd.prog 3 #[.agg #[.int .i64 s, .slice a len cap, .int .i64 p], m.val] w fun e w' => e = .returned (.bool true) ∧ Below w.heap.size w w' := by
  have hgW : 2 < w.heap.size := hwd.lt
  have hc := fun w' h1 h2 h3 h4 => encodeMessage_any s p a len cap ls m w' h1 h2 h3 h4
  have hf := fun w' h1 => messageBytes_any s p a len cap ls m w' h1
  obtain ⟨BS, eBS⟩ : ∃ BS, BS = if msgFault s ls p m = 0 then msgBytes m else [] := ⟨_, rfl⟩
  obtain ⟨F, eF⟩ : ∃ F, F = msgFault s ls p m := ⟨_, rfl⟩
  rw [← eBS, ← eF] at hc
  rw [← eBS, ← eF] at hf
  clear eBS eF
  obtain ⟨kind, frm, dst, site, num, label, key, value, version, ask, yes, code⟩ := m
  simp only [MV.val] at hc hf ⊢
  obtain ⟨W, hW⟩ : ∃ W : World, W = (w.alloc (.cells #[.int .i64 s, .slice a len cap, .int .i64 p] 24)).alloc (.cells #[.int .i64 kind, .int .i64 frm, .int .i64 dst, .int .i64 site, .int .i64 num, .int .i64 label, .int .i64 key, .int .i64 value, .int .i64 version, .int .i64 ask, .bool yes, .int .i64 code] 29) := ⟨_, rfl⟩
  have hB : Below w.heap.size w W := by rw [hW]; exact ((Below.refl _ _).alloc (Nat.le_refl _) _).alloc (by simp) _
  have hLW := h.below hB
  have tW : TopsAt W := ht.below hB (World.block_lt_of_cell? w _ ht.1)
  have mW : HasAt W 0 mHas := hm.below hB (hm.lt (by decide))
  have wW : WidsAt W := hwd.below hB hgW
  go_enter Tryd.func3, Tryd.ntmps3
  go_upto_region 1 with (fail)
  rw [← hW]
  have z0 : w.heap.size < W.heap.size := by rw [hW]; simp; omega
  have z1 : w.heap.size + 1 < W.heap.size := by rw [hW]; simp
  have c0 : W.cell? ⟨w.heap.size, 0, none⟩ = some (.int .i64 s) := by rw [hW]; go_simp
  have c1 : W.cell? ⟨w.heap.size, 1, none⟩ = some (.slice a len cap) := by rw [hW]; go_simp
  have c2 : W.cell? ⟨w.heap.size, 2, none⟩ = some (.int .i64 p) := by rw [hW]; go_simp
  have d0 : W.cell? ⟨w.heap.size + 1, 0, none⟩ = some (.int .i64 kind) := by rw [hW]; go_simp
  have d1 : W.cell? ⟨w.heap.size + 1, 1, none⟩ = some (.int .i64 frm) := by rw [hW]; go_simp
  have d2 : W.cell? ⟨w.heap.size + 1, 2, none⟩ = some (.int .i64 dst) := by rw [hW]; go_simp
  have d3 : W.cell? ⟨w.heap.size + 1, 3, none⟩ = some (.int .i64 site) := by rw [hW]; go_simp
  have d4 : W.cell? ⟨w.heap.size + 1, 4, none⟩ = some (.int .i64 num) := by rw [hW]; go_simp
  have d5 : W.cell? ⟨w.heap.size + 1, 5, none⟩ = some (.int .i64 label) := by rw [hW]; go_simp
  have d6 : W.cell? ⟨w.heap.size + 1, 6, none⟩ = some (.int .i64 key) := by rw [hW]; go_simp
  have d7 : W.cell? ⟨w.heap.size + 1, 7, none⟩ = some (.int .i64 value) := by rw [hW]; go_simp
  have d8 : W.cell? ⟨w.heap.size + 1, 8, none⟩ = some (.int .i64 version) := by rw [hW]; go_simp
  have d9 : W.cell? ⟨w.heap.size + 1, 9, none⟩ = some (.int .i64 ask) := by rw [hW]; go_simp
  have d10 : W.cell? ⟨w.heap.size + 1, 10, none⟩ = some (.bool yes) := by rw [hW]; go_simp
  have d11 : W.cell? ⟨w.heap.size + 1, 11, none⟩ = some (.int .i64 code) := by rw [hW]; go_simp
  clear hW
  go_upto_region 2 with (go_at_call 6; refine (hc _ hLW mW tW wW).mono ?_; rintro e w1 ⟨x1, n1, y1, rfl, hB1, _, hb1⟩)
  have e0 : ∀ o, w1.cell? ⟨w.heap.size, o, none⟩ = W.cell? ⟨w.heap.size, o, none⟩ := fun o => hb1.cell (p := ⟨w.heap.size, o, none⟩) z0
  have e1 : ∀ o, w1.cell? ⟨w.heap.size + 1, o, none⟩ = W.cell? ⟨w.heap.size + 1, o, none⟩ := fun o => hb1.cell (p := ⟨w.heap.size + 1, o, none⟩) z1
  have hL1 := hLW.below hb1
  go_upto_region 3 with (go_at_call 7; refine (hf _ hL1).mono ?_; rintro e w2 ⟨x2, n2, y2, rfl, hB2, hb2⟩)
  have s1 := run_string (hB1.below hb2)
  have s2 := run_string hB2
  clear e0 e1
  go_wp2
  go_ret
  exact ⟨rfl, hB.trans ((hb1.trans (hb2.mono hb1.size)).mono hB.size)⟩
end Go.Proofs.YtilhkonanncfiaaDoor
