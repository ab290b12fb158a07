/- The contract of the document's TapeAppended. -/
import Derived.Test.YtilhkonanncfiaaDoorTAppend2
import Derived.Test.YtilhkonanncfiaaDoorWRefRec
import Derived.Test.YtilhkonanncfiaaDoorTSmallRef
namespace Go.Proofs.YtilhkonanncfiaaDoor
open Go.ChangeShapes Go.WideShapes Go.ChangeAt Go.RowKit
set_option linter.unusedVariables false

theorem isBs_threeAt (U : World) (q : Nat) (hq : q = U.heap.size) (a1 a2 a3 : Option Addr) (l1 l2 l3 c1 c2 c3 : Nat) (b1 b2 b3 : List Int) (t : TypeId) (h1 : IsB U a1 l1 c1 b1) (h2 : IsB U a2 l2 c2 b2) (h3 : IsB U a3 l3 c3 b3) : IsBs (U.alloc (.cells #[.slice a1 l1 c1, .slice a2 l2 c2, .slice a3 l3 c3] t)) q 3 [⟨a1, l1, c1, b1⟩, ⟨a2, l2, c2, b2⟩, ⟨a3, l3, c3, b3⟩] := by
  subst hq
  have hb : Below U.heap.size U (U.alloc (.cells #[.slice a1 l1 c1, .slice a2 l2 c2, .slice a3 l3 c3] t)) := (Below.refl _ _).alloc (Nat.le_refl _) _
  refine ⟨rfl, by simp, fun i hi => ?_⟩
  rcases (by omega : i = 0 ∨ i = 1 ∨ i = 2) with rfl | rfl | rfl
  · exact ⟨by go_simp, h1.below hb⟩
  · exact ⟨by go_simp, h2.below hb⟩
  · exact ⟨by go_simp, h3.below hb⟩

set_option maxRecDepth 100000 in
set_option maxHeartbeats 4000000 in
theorem tapeAppended_any (s p : Int) (a : Option Addr) (len cap : Nat) (ls : List (Int × Int)) (ta : Option Addr) (tl tc : Nat) (tbs : List Int) (y : Int) (r : RcV) (w : World) (h : IsLabs w a len cap ls) (hT : IsB w ta tl tc tbs) (hi : IsInts w r.sa r.sl r.sc r.sites) :
    Calls Tryd.prog 12 #[.agg #[.int .i64 s, .slice a len cap, .int .i64 p], .agg #[.slice ta tl tc, .int .i64 y], r.val] w fun e w' => ∃ a' l' c', e = .returned (.tuple #[.agg #[.slice a' l' c', .int .i64 (apY y (apErr tl y (recFault s ls p r) (recBytes r)))], .int .i64 (apErr tl y (recFault s ls p r) (recBytes r))]) ∧ IsB w' a' l' c' (apBs tbs (apErr tl y (recFault s ls p r) (recBytes r)) (recBytes r)) ∧ Below w.heap.size w w' := by
  have hl : tl ≤ 9223372036854775807 := by have := hT.2.1; have := hT.2.2.1; unfold maxLen at this; omega
  have hMy := fun w' => tapeMay_any ta tl tc y w' hl
  have hRB := fun w' h1 h2 => recordBytes_any s p a len cap ls r w' h1 h2
  have hBd := @recBytes_bd s ls p r
  have hil := hi.1
  obtain ⟨FV, eFV⟩ : ∃ x, x = recFault s ls p r := ⟨_, rfl⟩
  obtain ⟨rb, erb⟩ : ∃ x, x = recBytes r := ⟨_, rfl⟩
  rw [← eFV, ← erb] at hRB hBd ⊢
  clear eFV erb
  have hTl := hT.1
  obtain ⟨AE, eAE⟩ : ∃ x, x = apErr tl y FV rb := ⟨_, rfl⟩
  rw [← eAE]
  have EA : Hid (AE = apErr tl y FV rb) := eAE
  clear eAE
  obtain ⟨kind, site, num, key, value, ask, yes, sa, sl, sc, sites⟩ := r
  simp only [RcV.val] at hRB hBd hil hi ⊢
  obtain ⟨W, hW⟩ : ∃ W : World, W = (((w.alloc (.cells #[.int .i64 s, .slice a len cap, .int .i64 p] 24)).alloc (.cells #[.slice ta tl tc, .int .i64 y] 40)).alloc (.cells #[.int .i64 kind, .int .i64 site, .int .i64 num, .int .i64 key, .int .i64 value, .int .i64 ask, .bool yes, .slice sa sl sc] 36)).alloc (.cells #[.slice none 0 0, .int .i64 0] 40) := ⟨_, rfl⟩
  have hB : Below w.heap.size w W := by rw [hW]; exact ((((Below.refl _ _).alloc (Nat.le_refl _) _).alloc (by simp) _).alloc (by simp; omega) _).alloc (by simp; omega) _
  have z0 : w.heap.size < W.heap.size := by rw [hW]; first | (simp; done) | (simp; omega)
  have z1 : w.heap.size + 1 < W.heap.size := by rw [hW]; first | (simp; done) | (simp; omega)
  have z2 : w.heap.size + 2 < W.heap.size := by rw [hW]; first | (simp; done) | (simp; omega)
  have z3 : w.heap.size + 3 < W.heap.size := by rw [hW]; simp
  have c0 : W.cell? ⟨w.heap.size, 0, none⟩ = some (.int .i64 s) := by rw [hW]; go_simp
  have c1 : W.cell? ⟨w.heap.size, 1, none⟩ = some (.slice a len cap) := by rw [hW]; go_simp
  have c2 : W.cell? ⟨w.heap.size, 2, none⟩ = some (.int .i64 p) := by rw [hW]; go_simp
  have t0 : W.cell? ⟨w.heap.size + 1, 0, none⟩ = some (.slice ta tl tc) := by rw [hW]; go_simp
  have t1 : W.cell? ⟨w.heap.size + 1, 1, none⟩ = some (.int .i64 y) := by rw [hW]; go_simp
  have d0 : W.cell? ⟨w.heap.size + 2, 0, none⟩ = some (.int .i64 kind) := by rw [hW]; go_simp
  have d1 : W.cell? ⟨w.heap.size + 2, 1, none⟩ = some (.int .i64 site) := by rw [hW]; go_simp
  have d2 : W.cell? ⟨w.heap.size + 2, 2, none⟩ = some (.int .i64 num) := by rw [hW]; go_simp
  have d3 : W.cell? ⟨w.heap.size + 2, 3, none⟩ = some (.int .i64 key) := by rw [hW]; go_simp
  have d4 : W.cell? ⟨w.heap.size + 2, 4, none⟩ = some (.int .i64 value) := by rw [hW]; go_simp
  have d5 : W.cell? ⟨w.heap.size + 2, 5, none⟩ = some (.int .i64 ask) := by rw [hW]; go_simp
  have d6 : W.cell? ⟨w.heap.size + 2, 6, none⟩ = some (.bool yes) := by rw [hW]; go_simp
  have d7 : W.cell? ⟨w.heap.size + 2, 7, none⟩ = some (.slice sa sl sc) := by rw [hW]; go_simp
  have bR : Nt.BoxN W (w.heap.size + 3) 2 [.slice none 0 0, .int .i64 0] := by
    rw [hW]
    simpa using Nt.boxn_new (((w.alloc (.cells #[.int .i64 s, .slice a len cap, .int .i64 p] 24)).alloc (.cells #[.slice ta tl tc, .int .i64 y] 40)).alloc (.cells #[.int .i64 kind, .int .i64 site, .int .i64 num, .int .i64 key, .int .i64 value, .int .i64 ask, .bool yes, .slice sa sl sc] 36)) #[.slice none 0 0, .int .i64 0] 40 2 rfl
  have KA : Hid (∀ U : World, Below W.heap.size W U → (U.cell? ⟨w.heap.size, 0, none⟩ = some (.int .i64 s) ∧ U.cell? ⟨w.heap.size, 1, none⟩ = some (.slice a len cap) ∧ U.cell? ⟨w.heap.size, 2, none⟩ = some (.int .i64 p) ∧ U.cell? ⟨w.heap.size + 1, 0, none⟩ = some (.slice ta tl tc) ∧ U.cell? ⟨w.heap.size + 1, 1, none⟩ = some (.int .i64 y)) ∧ U.cell? ⟨w.heap.size + 2, 0, none⟩ = some (.int .i64 kind) ∧ U.cell? ⟨w.heap.size + 2, 1, none⟩ = some (.int .i64 site) ∧ U.cell? ⟨w.heap.size + 2, 2, none⟩ = some (.int .i64 num) ∧ U.cell? ⟨w.heap.size + 2, 3, none⟩ = some (.int .i64 key) ∧ U.cell? ⟨w.heap.size + 2, 4, none⟩ = some (.int .i64 value) ∧ U.cell? ⟨w.heap.size + 2, 5, none⟩ = some (.int .i64 ask) ∧ U.cell? ⟨w.heap.size + 2, 6, none⟩ = some (.bool yes) ∧ U.cell? ⟨w.heap.size + 2, 7, none⟩ = some (.slice sa sl sc)) := fun U hU =>
    ⟨⟨(hU.cell (p := ⟨w.heap.size, 0, none⟩) z0).trans c0, (hU.cell (p := ⟨w.heap.size, 1, none⟩) z0).trans c1, (hU.cell (p := ⟨w.heap.size, 2, none⟩) z0).trans c2, (hU.cell (p := ⟨w.heap.size + 1, 0, none⟩) z1).trans t0, (hU.cell (p := ⟨w.heap.size + 1, 1, none⟩) z1).trans t1⟩, (hU.cell (p := ⟨w.heap.size + 2, 0, none⟩) z2).trans d0, (hU.cell (p := ⟨w.heap.size + 2, 1, none⟩) z2).trans d1, (hU.cell (p := ⟨w.heap.size + 2, 2, none⟩) z2).trans d2, (hU.cell (p := ⟨w.heap.size + 2, 3, none⟩) z2).trans d3, (hU.cell (p := ⟨w.heap.size + 2, 4, none⟩) z2).trans d4, (hU.cell (p := ⟨w.heap.size + 2, 5, none⟩) z2).trans d5, (hU.cell (p := ⟨w.heap.size + 2, 6, none⟩) z2).trans d6, (hU.cell (p := ⟨w.heap.size + 2, 7, none⟩) z2).trans d7⟩
  have KR : Hid (∀ U : World, Below W.heap.size W U → (U.cell? ⟨w.heap.size + 3, 0, none⟩ = some (.slice none 0 0) ∧ U.frozen? ⟨w.heap.size + 3, 0, none⟩ = false) ∧ U.cell? ⟨w.heap.size + 3, 1, none⟩ = some (.int .i64 0) ∧ U.frozen? ⟨w.heap.size + 3, 1, none⟩ = false) := fun U hU => by
    have b := bR.below hU z3
    exact ⟨b.c 0 (by omega), b.c 1 (by omega)⟩
  have HS : Hid (∀ U : World, Below W.heap.size W U → IsLabs U a len cap ls ∧ IsB U ta tl tc tbs ∧ IsInts U sa sl sc sites) := fun U hU => by
    have hv := hB.trans (hU.mono hB.size)
    exact ⟨h.below hv, hT.below hv, hi.below hv⟩
  have HF : Hid (∀ (U : World) (u v : Value), Below W.heap.size W U → Below w.heap.size w ((U.setCell ⟨w.heap.size + 3, 0, none⟩ u).setCell ⟨w.heap.size + 3, 1, none⟩ v)) := fun U u v hU => ((hB.trans (hU.mono hB.size)).setCell (p := ⟨w.heap.size + 3, 0, none⟩) (by show w.heap.size ≤ w.heap.size + 3; omega) u).setCell (p := ⟨w.heap.size + 3, 1, none⟩) (by show w.heap.size ≤ w.heap.size + 3; omega) v
  go_enter Tryd.func12, Tryd.ntmps12
  go_upto_region 1 with (fail)
  rw [← hW]
  clear hW bR
  obtain ⟨My, eMy⟩ : ∃ My, My = mayT tl y := ⟨_, rfl⟩
  rw [← eMy] at hMy
  have EMy : Hid (mayT tl y = My) := eMy.symm
  clear eMy
  cases My with
  | false =>
    have hE : AE = 9 := by rw [EA.out]; unfold apErr; rw [EMy.out]; simp
    go_upto_region 2 with (go_at_call 28; refine (hMy _).mono ?_; rintro e w1 ⟨rfl, hb1⟩)
    obtain ⟨⟨r0, f0⟩, r1, f1⟩ := KR.out _ hb1
    go_wp2
    subst hE
    refine bodyPost_ret (v := .tuple #[.agg #[.slice none 0 0, .int .i64 0], .int .i64 9]) (by simp [results, Tryd.results12, go_sem, r0, r1]) rfl ⟨none, 0, 0, ?_, ?_, HF.out _ _ _ hb1⟩
    · simp [apY]
    · simp only [apBs]; exact isB_nil _
  | true =>
    have hmy := mayT_of EMy.out
    have hmy6 : tl ≤ 6000 := by omega
    clear hmy
    go_upto_region 3 with (go_at_call 28; refine (hMy _).mono ?_; rintro e w1 ⟨rfl, hb1⟩)
    clear c0 c1 c2 t0 t1 d0 d1 d2 d3 d4 d5 d6 d7
    obtain ⟨⟨c0, c1, c2, t0, t1⟩, d0, d1, d2, d3, d4, d5, d6, d7⟩ := KA.out _ hb1
    obtain ⟨hL1, _, hI1⟩ := HS.out _ hb1
    go_upto_region 4 with (go_at_call 9; refine (hRB _ hL1 hI1).mono ?_; rintro e w2 ⟨x2, n2, y2, rfl, hB2, hb2'⟩)
    have hb2 : Below W.heap.size W w2 := hb1.trans (hb2'.mono hb1.size)
    clear c0 c1 c2 t0 t1 d0 d1 d2 d3 d4 d5 d6 d7 hL1 hI1
    obtain ⟨⟨c0, c1, c2, t0, t1⟩, _⟩ := KA.out _ hb2
    by_cases hF0 : FV = 0
    · subst hF0
      obtain ⟨bd1, bd2⟩ := hBd rfl hil
      simp only [if_true] at hB2
      have hn2 : rb.length = n2 := hB2.1
      rw [hn2] at bd1 bd2
      have HN2 : Hid (rb.length = n2) := hn2
      have HE : Hid (AE = if 6000 < tl + 1 + n2 then 8 else 0) := by show _ = _; rw [EA.out]; unfold apErr; rw [EMy.out]; simp [hn2]
      clear hn2
      have mn : (n2 : Int) % 256 = (n2 : Int) := by omega
      have un : IntKind.u8.wrap (n2 : Int) = (n2 : Int) := wrapU (by omega)
      have hTw := (HS.out _ hb2).2.1
      have hone := isB_one w2 (n2 : Int) (by omega) (by omega)
      have hal : Below w2.heap.size w2 (w2.alloc (.cells #[.int .u8 (n2 : Int)] 5)) := (Below.refl _ _).alloc (Nat.le_refl _) _
      go_upto_region 7 with (go_at_call 19; refine (joined_any _ 3 _ _ (isBs_threeAt _ _ (by simp) ta _ x2 tl 1 n2 tc 1 y2 tbs [(n2 : Int)] rb _ (hTw.below hal) hone (hB2.below hal)) (by omega) (by simp [catB]; have := HN2.out; omega)).mono ?_; rintro e u3 ⟨v3, rfl, own3, hb3'⟩; rw [show ∀ q, catB [⟨ta, tl, tc, tbs⟩, ⟨q, 1, 1, [(n2 : Int)]⟩, ⟨x2, n2, y2, rb⟩] = tbs ++ ((n2 : Int) :: rb) from (fun q => by simp [catB]), show (tbs ++ ((n2 : Int) :: rb)).length = tl + 1 + n2 from (by simp [hTl]; have := HN2.out; omega)] at own3; obtain ⟨x3, y3, rfl⟩ := own_slice own3)
      have hb3 : Below W.heap.size W u3 := hb2.trans ((jT (jA hal _) hb3').mono hb2.size)
      have hIB : IsB u3 x3 (tl + 1 + n2) y3 (tbs ++ ((n2 : Int) :: rb)) := (isB_slice own3 (fun b hb => by
        simp only [List.mem_append, List.mem_cons] at hb
        rcases hb with hb | hb | hb
        · exact hTw.2.2.2.1 b hb
        · omega
        · exact hB2.2.2.2.1 b hb)).1
      have hge : ∀ b off, x3 = some ⟨b, off, none⟩ → w.heap.size + 3 < b := fun b off e => by
        subst e
        have h1 := (own3.lt b (by rcases own3.2 with ⟨hv, _⟩ | ⟨g', _, _, hv, _⟩; simp at hv; simp at hv; simp [Value.ownBlock])).1
        have h2 := hb2.size
        simp at h1
        omega
      clear c0 c1 c2 t0 t1 own3
      obtain ⟨⟨c0, c1, c2, t0, t1⟩, _⟩ := KA.out _ hb3
      obtain ⟨⟨r0, f0⟩, r1, f1⟩ := KR.out _ hb3
      by_cases h6 : 6000 < tl + 1 + n2
      · have h6' : (6000 : Int) < (tl : Int) + 1 + (n2 : Int) := by omega
        have hE : AE = 8 := by rw [HE.out, if_pos h6]
        go_wp2
        subst hE
        refine bodyPost_ret (v := .tuple #[.agg #[.slice none 0 0, .int .i64 0], .int .i64 8]) (by simp [results, Tryd.results12, go_sem, r0, r1]) rfl ⟨none, 0, 0, ?_, ?_, HF.out _ _ _ hb3⟩
        · simp [apY]
        · simp only [apBs]; exact isB_nil _
      · have h6' : ¬ (6000 : Int) < (tl : Int) + 1 + (n2 : Int) := by omega
        have hE : AE = 0 := by rw [HE.out, if_neg h6]
        go_wp2
        subst hE
        refine bodyPost_ret (v := .tuple #[.agg #[.slice x3 (tl + 1 + n2) y3, .int .i64 y], .int .i64 0]) (by simp [results, Tryd.results12, go_sem, r0, r1]) rfl ⟨x3, tl + 1 + n2, y3, ?_, ?_, HF.out _ _ _ hb3⟩
        · simp [apY]
        · simp only [apBs]
          rw [if_pos trivial, HN2.out]
          exact (hIB.set _ _ (fun b off e => by have := hge b off e; show b ≠ w.heap.size + 1 + 1 + 1; omega)).set _ _ (fun b off e => by have := hge b off e; show b ≠ w.heap.size + 1 + 1 + 1; omega)
    · have hE : AE = FV := by rw [EA.out]; unfold apErr; rw [EMy.out]; simp [hF0]
      obtain ⟨⟨r0, f0⟩, r1, f1⟩ := KR.out _ hb2
      go_wp2
      subst hE
      refine bodyPost_ret (v := .tuple #[.agg #[.slice none 0 0, .int .i64 0], .int .i64 AE]) (by simp [results, Tryd.results12, go_sem, r0, r1]) rfl ⟨none, 0, 0, ?_, ?_, HF.out _ _ _ hb2⟩
      · simp [apY, hF0]
      · simp only [apBs]; rw [if_neg hF0]; exact isB_nil _
end Go.Proofs.YtilhkonanncfiaaDoor
