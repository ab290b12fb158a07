/- The walk of the law TapeAppends: at any config, tape and record it returns true and leaves what was in memory. -/
import Derived.Test.YtilhkonanncfiaaDoorTAppRef
import Derived.Test.YtilhkonanncfiaaDoorTapes
namespace Go.Proofs.YtilhkonanncfiaaDoor
open Go.ChangeShapes Go.WideShapes Go.ChangeAt Go.RowKit
set_option linter.unusedVariables false

set_option maxRecDepth 100000 in
set_option maxHeartbeats 4000000 in
theorem tapeAppends_walk (s : Int) (a : Option Addr) (len cap : Nat) (p : Int) (ls : List (Int × Int)) (ta : Option Addr) (tl tc : Nat) (tbs : List Int) (y : Int) (r : RcV) (w : World) (_ : (Lit.int .i64 s).wf = true) (h : IsLabs w a len cap ls) (_ : (Lit.int .i64 p).wf = true) (hT : IsB w ta tl tc tbs) (hy : -9223372036854775808 ≤ y ∧ y ≤ 9223372036854775807) (hl : tl ≤ 140737488351232) (hi : IsInts w r.sa r.sl r.sc r.sites) (hm : HasAt w 1 rHas) (hwd : WidsAt w) (ht : TopsAt w) :
    Calls Tryd.prog 5 #[.agg #[.int .i64 s, .slice a len cap, .int .i64 p], .agg #[.slice ta tl tc, .int .i64 y], r.val] w fun e w' => e = .returned (.bool true) ∧ Below w.heap.size w w' := by
  have hgT : 3 < w.heap.size := World.block_lt_of_cell? w _ ht.1
  have hgM : 1 < w.heap.size := hm.lt (by decide)
  have hgW : 2 < w.heap.size := hwd.lt
  have hAp := fun a1 c1 w' h1 (h2 : IsB w' a1 tl c1 tbs) h3 h4 h5 h6 => append_any s p a len cap ls a1 tl c1 tbs y r w' h1 h2 h3 h4 h5 h6
  have hRf := fun w' h1 h2 h3 => tapeAppended_any s p a len cap ls ta tl tc tbs y r w' h1 h2 h3
  obtain ⟨AE, eAE⟩ : ∃ x, x = apErr tl y (recFault s ls p r) (recBytes r) := ⟨_, rfl⟩
  rw [← eAE] at hAp hRf
  obtain ⟨AB, eAB⟩ : ∃ x, x = apBs tbs AE (recBytes r) := ⟨_, rfl⟩
  obtain ⟨AY, eAY⟩ : ∃ x, x = apY y AE := ⟨_, rfl⟩
  rw [← eAB, ← eAY] at hAp
  rw [← eAB, ← eAY] at hRf
  clear eAE eAB eAY
  obtain ⟨kind, site, num, key, value, ask, yes, sa, sl, sc, sites⟩ := r
  simp only [RcV.val] at hAp hRf hi ⊢
  obtain ⟨W, hW⟩ : ∃ W : World, W = ((w.alloc (.cells #[.int .i64 s, .slice a len cap, .int .i64 p] 24)).alloc (.cells #[.slice ta tl tc, .int .i64 y] 40)).alloc (.cells #[.int .i64 kind, .int .i64 site, .int .i64 num, .int .i64 key, .int .i64 value, .int .i64 ask, .bool yes, .slice sa sl sc] 36) := ⟨_, rfl⟩
  have hB : Below w.heap.size w W := by rw [hW]; exact (((Below.refl _ _).alloc (Nat.le_refl _) _).alloc (by simp) _).alloc (by simp; omega) _
  have z0 : w.heap.size < W.heap.size := by rw [hW]; first | (simp; done) | (simp; omega)
  have z1 : w.heap.size + 1 < W.heap.size := by rw [hW]; first | (simp; done) | (simp; omega)
  have z2 : w.heap.size + 2 < W.heap.size := by rw [hW]; first | (simp; done) | (simp; omega)
  have c0 : W.cell? ⟨w.heap.size, 0, none⟩ = some (.int .i64 s) := by rw [hW]; go_simp
  have c1 : W.cell? ⟨w.heap.size, 1, none⟩ = some (.slice a len cap) := by rw [hW]; go_simp
  have c2 : W.cell? ⟨w.heap.size, 2, none⟩ = some (.int .i64 p) := by rw [hW]; go_simp
  have t0 : W.cell? ⟨w.heap.size + 1, 0, none⟩ = some (.slice ta tl tc) := by rw [hW]; go_simp
  have t1 : W.cell? ⟨w.heap.size + 1, 1, none⟩ = some (.int .i64 y) := by rw [hW]; go_simp
  have d0 : W.cell? ⟨w.heap.size + 2, 0, none⟩ = some (.int .i64 kind) := by rw [hW]; go_simp
  have d1 : W.cell? ⟨w.heap.size + 2, 1, none⟩ = some (.int .i64 site) := by rw [hW]; go_simp
  have d2 : W.cell? ⟨w.heap.size + 2, 2, none⟩ = some (.int .i64 num) := by rw [hW]; go_simp
  have d3 : W.cell? ⟨w.heap.size + 2, 3, none⟩ = some (.int .i64 key) := by rw [hW]; go_simp
  have d4 : W.cell? ⟨w.heap.size + 2, 4, none⟩ = some (.int .i64 value) := by rw [hW]; go_simp
  have d5 : W.cell? ⟨w.heap.size + 2, 5, none⟩ = some (.int .i64 ask) := by rw [hW]; go_simp
  have d6 : W.cell? ⟨w.heap.size + 2, 6, none⟩ = some (.bool yes) := by rw [hW]; go_simp
  have d7 : W.cell? ⟨w.heap.size + 2, 7, none⟩ = some (.slice sa sl sc) := by rw [hW]; go_simp
  have KA : Hid (∀ U : World, Below W.heap.size W U → (U.cell? ⟨w.heap.size, 0, none⟩ = some (.int .i64 s) ∧ U.cell? ⟨w.heap.size, 1, none⟩ = some (.slice a len cap) ∧ U.cell? ⟨w.heap.size, 2, none⟩ = some (.int .i64 p) ∧ U.cell? ⟨w.heap.size + 1, 0, none⟩ = some (.slice ta tl tc) ∧ U.cell? ⟨w.heap.size + 1, 1, none⟩ = some (.int .i64 y)) ∧ U.cell? ⟨w.heap.size + 2, 0, none⟩ = some (.int .i64 kind) ∧ U.cell? ⟨w.heap.size + 2, 1, none⟩ = some (.int .i64 site) ∧ U.cell? ⟨w.heap.size + 2, 2, none⟩ = some (.int .i64 num) ∧ U.cell? ⟨w.heap.size + 2, 3, none⟩ = some (.int .i64 key) ∧ U.cell? ⟨w.heap.size + 2, 4, none⟩ = some (.int .i64 value) ∧ U.cell? ⟨w.heap.size + 2, 5, none⟩ = some (.int .i64 ask) ∧ U.cell? ⟨w.heap.size + 2, 6, none⟩ = some (.bool yes) ∧ U.cell? ⟨w.heap.size + 2, 7, none⟩ = some (.slice sa sl sc)) := fun U hU =>
    ⟨⟨(hU.cell (p := ⟨w.heap.size, 0, none⟩) z0).trans c0, (hU.cell (p := ⟨w.heap.size, 1, none⟩) z0).trans c1, (hU.cell (p := ⟨w.heap.size, 2, none⟩) z0).trans c2, (hU.cell (p := ⟨w.heap.size + 1, 0, none⟩) z1).trans t0, (hU.cell (p := ⟨w.heap.size + 1, 1, none⟩) z1).trans t1⟩, (hU.cell (p := ⟨w.heap.size + 2, 0, none⟩) z2).trans d0, (hU.cell (p := ⟨w.heap.size + 2, 1, none⟩) z2).trans d1, (hU.cell (p := ⟨w.heap.size + 2, 2, none⟩) z2).trans d2, (hU.cell (p := ⟨w.heap.size + 2, 3, none⟩) z2).trans d3, (hU.cell (p := ⟨w.heap.size + 2, 4, none⟩) z2).trans d4, (hU.cell (p := ⟨w.heap.size + 2, 5, none⟩) z2).trans d5, (hU.cell (p := ⟨w.heap.size + 2, 6, none⟩) z2).trans d6, (hU.cell (p := ⟨w.heap.size + 2, 7, none⟩) z2).trans d7⟩
  have HS : Hid (∀ U : World, Below W.heap.size W U → IsLabs U a len cap ls ∧ IsB U ta tl tc tbs ∧ IsInts U sa sl sc sites ∧ HasAt U 1 rHas ∧ TopsAt U ∧ WidsAt U) := fun U hU => by
    have hv := hB.trans (hU.mono hB.size)
    exact ⟨h.below hv, hT.below hv, hi.below hv, hm.below hv hgM, ht.below hv hgT, hwd.below hv hgW⟩
  have hTW := (HS.out W (Below.refl _ _)).2.1
  clear hm ht hwd
  go_enter Tryd.func5, Tryd.ntmps5
  go_upto_region 1 with (fail)
  rw [← hW]
  clear hW
  go_upto_region 2 with (go_at_call 10; refine (tapes_any ta tl tc tbs y _ hTW (by omega)).mono ?_; rintro e w1 ⟨a1, cap1, rfl, hN1, hb1⟩)
  obtain ⟨V1, hV1, k0, k1, zV1, bV1⟩ := boxT w1 a1 tl cap1 y
  rw [← hV1]
  clear hV1
  have hWV : Below W.heap.size W V1 := hb1.trans (bV1.mono hb1.size)
  clear c0 c1 c2 t0 t1 d0 d1 d2 d3 d4 d5 d6 d7
  obtain ⟨⟨c0, c1, c2, t0, t1⟩, d0, d1, d2, d3, d4, d5, d6, d7⟩ := KA.out _ hWV
  obtain ⟨x1, _, x3, x4, x5, x6⟩ := HS.out _ hWV
  have hNV := hN1.1.below bV1
  go_upto_region 3 with (go_at_call 11; refine (hAp a1 cap1 _ x1 hNV x3 x4 x5 x6).mono ?_; rintro e w2 ⟨a2, len2, cap2, rfl, hB2, _, hb2⟩)
  obtain ⟨V2, hV2, x0', x1', zV2, bV2⟩ := boxT w2 a2 len2 cap2 AY
  rw [← hV2]
  clear hV2 c0 c1 c2 t0 t1 d0 d1 d2 d3 d4 d5 d6 d7 x1 x3 x4 x5 x6
  have h12 : Below V1.heap.size V1 V2 := hb2.trans (bV2.mono hb2.size)
  have hW2 : Below W.heap.size W V2 := hWV.trans (h12.mono hWV.size)
  obtain ⟨⟨c0, c1, c2, t0, t1⟩, d0, d1, d2, d3, d4, d5, d6, d7⟩ := KA.out _ hW2
  obtain ⟨x1, x2, x3, _, _, _⟩ := HS.out _ hW2
  go_upto_region 4 with (go_at_call 12; refine (hRf _ x1 x2 x3).mono ?_; rintro e w3 ⟨a3, len3, cap3, rfl, hB3, hb3⟩)
  obtain ⟨V3, hV3, y0', y1', zV3, bV3⟩ := boxT w3 a3 len3 cap3 AY
  rw [← hV3]
  clear hV3 c0 c1 c2 t0 t1 d0 d1 d2 d3 d4 d5 d6 d7 x1 x2 x3
  have h23 : Below V2.heap.size V2 V3 := hb3.trans (bV3.mono hb3.size)
  have h13 : Below V1.heap.size V1 V3 := h12.trans (h23.mono h12.size)
  have hW3 : Below W.heap.size W V3 := hW2.trans (h23.mono hW2.size)
  obtain ⟨⟨_, _, _, t0, t1⟩, _⟩ := KA.out _ hW3
  have p0 := (h23.cell (p := ⟨w2.heap.size, 0, none⟩) (by show w2.heap.size < _; omega)).trans x0'
  have p1 := (h23.cell (p := ⟨w2.heap.size, 1, none⟩) (by show w2.heap.size < _; omega)).trans x1'
  have q0 := (h13.cell (p := ⟨w1.heap.size, 0, none⟩) (by show w1.heap.size < _; omega)).trans k0
  have q1 := (h13.cell (p := ⟨w1.heap.size, 1, none⟩) (by show w1.heap.size < _; omega)).trans k1
  have s1 := sameTape_any a2 len2 cap2 AB AY a3 len3 cap3 AB AY V3 ((hB2.below bV2).below h23) (hB3.below bV3) rfl rfl
  have hN3 := hNV.below h13
  have hT3 := (HS.out _ hW3).2.1
  have s2 := fun U (hU : Below V3.heap.size V3 U) => sameTape_any a1 tl cap1 tbs y ta tl tc tbs y U (hN3.below hU) (hT3.below hU) rfl rfl
  have zz1 : w1.heap.size < V3.heap.size := Nat.lt_of_lt_of_le (by omega : w1.heap.size < V1.heap.size) h13.size
  have zzw : w.heap.size + 1 < V3.heap.size := Nat.lt_of_lt_of_le z1 hW3.size
  have KQ : Hid (∀ U, Below V3.heap.size V3 U → (U.cell? ⟨w1.heap.size, 0, none⟩ = some (.slice a1 tl cap1) ∧ U.cell? ⟨w1.heap.size, 1, none⟩ = some (.int .i64 y)) ∧ U.cell? ⟨w.heap.size + 1, 0, none⟩ = some (.slice ta tl tc) ∧ U.cell? ⟨w.heap.size + 1, 1, none⟩ = some (.int .i64 y)) := fun U hU => ⟨⟨(hU.cell (p := ⟨w1.heap.size, 0, none⟩) zz1).trans q0, (hU.cell (p := ⟨w1.heap.size, 1, none⟩) zz1).trans q1⟩, (hU.cell (p := ⟨w.heap.size + 1, 0, none⟩) zzw).trans t0, (hU.cell (p := ⟨w.heap.size + 1, 1, none⟩) zzw).trans t1⟩
  clear zV1 zV2 zV3 hN3 hT3 q0 q1 t0 t1
  go_wp2_with (first | (go_at_call 13; refine s1.mono ?_; rintro e w8 ⟨rfl, hb8⟩; clear s1; obtain ⟨⟨q0, q1⟩, t0, t1⟩ := KQ.out _ hb8) | (go_at_call 13; refine (s2 _ hb8).mono ?_; rintro e w9 ⟨rfl, hb9⟩))
  go_ret
  have hf := hB.trans (hW3.mono hB.size)
  exact ⟨rfl, hf.trans ((hb8.trans (hb9.mono hb8.size)).mono hf.size)⟩
end Go.Proofs.YtilhkonanncfiaaDoor
