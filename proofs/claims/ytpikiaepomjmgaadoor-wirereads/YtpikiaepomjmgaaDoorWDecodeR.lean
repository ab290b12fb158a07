/- The contract of wire.DecodeRecord: what recOf tells, its sites in new memory. -/
import Derived.Test.YtpikiaepomjmgaaDoorWReadR
namespace Go.Proofs.YtpikiaepomjmgaaDoor
open Go.ChangeShapes Go.WideShapes Go.ChangeAt Go.RowKit
set_option linter.unusedVariables false

theorem isI_nilR (w : World) : IsInts w none 0 0 [] := ⟨rfl, Nat.le_refl _, Nat.zero_le _, fun i => by simp, fun h => absurd h (by omega)⟩
def DecRPost (w w' : World) (e : Ending) (d : RcV × Int) : Prop :=
  ∃ sa sc, e = .returned (.tuple #[RcV.val { d.1 with sa := sa, sc := sc }, .int .i64 d.2]) ∧ IsInts w' sa d.1.sl sc d.1.sites ∧ (∀ b off, sa = some ⟨b, off, none⟩ → w.heap.size ≤ b ∧ b < w'.heap.size) ∧ Below w.heap.size w w'

set_option maxRecDepth 100000 in
set_option maxHeartbeats 4000000 in
theorem decodeRecord_any (s p : Int) (a : Option Addr) (len cap : Nat) (ls : List (Int × Int)) (ba : Option Addr) (bl bc : Nat) (bs : List Int) (w : World) (h : IsLabs w a len cap ls) (hI : IsB w ba bl bc bs) (hfb : ∀ b off, ba = some ⟨b, off, none⟩ → b < w.heap.size) (hm : HasAt w 1 rHas) (ht : TopsAt w) (hwd : WidsAt w) :
    Calls Tryd.prog 9 #[.agg #[.int .i64 s, .slice a len cap, .int .i64 p], .slice ba bl bc] w fun e w' => DecRPost w w' e (recOf s ls p bs) := by
  have hgT : 3 < w.heap.size := World.block_lt_of_cell? w _ ht.1
  have hgM : 1 < w.heap.size := hm.lt (by decide)
  have hgW : 2 < w.heap.size := hwd.lt
  have hbyt := hI.2.2.2.1
  have hkn := kind_nonneg ⟨bs, 0⟩ hbyt 7
  have hRd := fun R L w' h1 h2 h3 h4 h5 => readRecord_any R L ⟨bs, 0⟩ w' h1 hbyt h2 h3 h4 h5 hkn
  have EO : Hid (recOf s ls p bs = if cfgFault s ls p ≠ 0 then (RcV.zero, cfgFault s ls p) else if (decRecRS ⟨bs, 0⟩).2.fin.wrong ≠ 0 then (RcV.zero, (decRecRS ⟨bs, 0⟩).2.fin.wrong) else if recFault s ls p (decRecRS ⟨bs, 0⟩).1 ≠ 0 then (RcV.zero, recFault s ls p (decRecRS ⟨bs, 0⟩).1) else ((decRecRS ⟨bs, 0⟩).1, 0)) := rfl
  obtain ⟨MO, eMO⟩ : ∃ x, x = recOf s ls p bs := ⟨_, rfl⟩
  rw [← eMO] at EO ⊢
  clear eMO
  obtain ⟨m, rE, eD⟩ : ∃ m r, decRecRS ⟨bs, 0⟩ = (m, r) := ⟨_, _, rfl⟩
  rw [eD] at EO hRd
  simp only at EO
  clear eD hkn
  have hCk := fun sa sc w' h1 h2 h3 h4 => checkRecord_any s p a len cap ls { m with sa := sa, sc := sc } w' h1 h2 h3 h4
  obtain ⟨FE, eFE⟩ : ∃ x, x = rE.fin.wrong := ⟨_, rfl⟩
  obtain ⟨FM, eFM⟩ : ∃ x, x = recFault s ls p m := ⟨_, rfl⟩
  obtain ⟨FC, eFC⟩ : ∃ x, x = cfgFault s ls p := ⟨_, rfl⟩
  have hEnd := fun R L w' hh => endR_any R L rE w' hh
  have hLc := fun w' hh => check_any s p a len cap ls w' hh
  have eFm2 : ∀ sa sc, recFault s ls p { m with sa := sa, sc := sc } = FM := fun sa sc => eFM.symm
  simp only [eFm2] at hCk
  rw [← eFE] at EO hEnd
  rw [← eFM] at EO
  rw [← eFC] at EO hLc
  clear eFE eFM eFC eFm2
  obtain ⟨kind, site, num, key, value, ask, yes, sa0, sl, sc0, sites⟩ := m
  simp only [RcV.val] at hCk
  obtain ⟨W, hW⟩ : ∃ W : World, W = (w.alloc (.cells #[.int .i64 s, .slice a len cap, .int .i64 p] 24)).alloc (.cells #[.int .i64 0, .int .i64 0, .int .i64 0, .int .i64 0, .int .i64 0, .int .i64 0, .bool false, .slice none 0 0] 37) := ⟨_, rfl⟩
  have hB : Below w.heap.size w W := by rw [hW]; exact ((Below.refl _ _).alloc (Nat.le_refl _) _).alloc (by simp) _
  have zW : W.heap.size = w.heap.size + 2 := by rw [hW]; simp
  have c0 : W.cell? ⟨w.heap.size, 0, none⟩ = some (.int .i64 s) := by rw [hW]; go_simp
  have c1 : W.cell? ⟨w.heap.size, 1, none⟩ = some (.slice a len cap) := by rw [hW]; go_simp
  have c2 : W.cell? ⟨w.heap.size, 2, none⟩ = some (.int .i64 p) := by rw [hW]; go_simp
  have rbW : BoxN W (w.heap.size + 1) 8 [.int .i64 0, .int .i64 0, .int .i64 0, .int .i64 0, .int .i64 0, .int .i64 0, .bool false, .slice none 0 0] := by
    have := boxn_new (w.alloc (.cells #[.int .i64 s, .slice a len cap, .int .i64 p] 24)) #[.int .i64 0, .int .i64 0, .int .i64 0, .int .i64 0, .int .i64 0, .int .i64 0, .bool false, .slice none 0 0] 37 8 rfl
    rw [hW]
    simpa using this
  have hLW := h.below hB
  have KC : Hid (∀ V : World, Below W.heap.size W V → V.cell? ⟨w.heap.size, 0, none⟩ = some (.int .i64 s) ∧ V.cell? ⟨w.heap.size, 1, none⟩ = some (.slice a len cap) ∧ V.cell? ⟨w.heap.size, 2, none⟩ = some (.int .i64 p) ∧ BoxN V (w.heap.size + 1) 8 [.int .i64 0, .int .i64 0, .int .i64 0, .int .i64 0, .int .i64 0, .int .i64 0, .bool false, .slice none 0 0]) := by
    intro V hV
    exact ⟨(hV.cell (p := ⟨w.heap.size, 0, none⟩) (by show w.heap.size < _; omega)).trans c0, (hV.cell (p := ⟨w.heap.size, 1, none⟩) (by show w.heap.size < _; omega)).trans c1, (hV.cell (p := ⟨w.heap.size, 2, none⟩) (by show w.heap.size < _; omega)).trans c2, rbW.below hV (by omega)⟩
  go_enter Tryd.func9, Tryd.ntmps9
  go_upto_region 1 with (fail)
  rw [← hW]
  clear hW
  go_upto_region 2 with (go_at_call 17; refine (hLc _ hLW).mono ?_; rintro e w1 ⟨rfl, hb1⟩)
  clear c0 c1 c2 rbW
  have hw1 := hB.trans (hb1.mono hB.size)
  by_cases hF : FC = 0
  · subst hF
    go_upto_region 4 with (fail)
    go_upto_region 5 with (fail)
    obtain ⟨V, hV⟩ : ∃ V : World, V = w1.alloc (.cells #[.slice ba bl bc, .int .i64 0] 52) := ⟨_, rfl⟩
    have hRV : RdTo V w1.heap.size w.heap.size ⟨bs, 0⟩ := by rw [hV]; exact rd_new (hI.below hw1) hw1.size hfb
    have hWV : Below W.heap.size W V := by rw [hV]; exact hb1.alloc hb1.size _
    have hwV := hB.trans (hWV.mono hB.size)
    have zV : w1.heap.size < V.heap.size := hRV.lt
    rw [← hV]
    clear hV
    have hmV := hm.below hwV hgM
    have wdV := hwd.below hwV hgW
    have hRs : W.heap.size ≤ w1.heap.size := hb1.size
    go_upto_region 6 with (go_at_call 27; refine (hRd _ _ _ hRV hmV wdV hgM hgW).mono ?_; rintro e w2 ⟨v, rfl, sa, sc, rfl, hI2, hn2, hR2, hg2⟩; simp only [RcV.val])
    simp only at hI2 hR2
    have hW2 : Below W.heap.size W w2 := hWV.grown hg2 hWV.size (fun q hq => by simp at hq; omega)
    obtain ⟨U, hU⟩ : ∃ U : World, U = w2.alloc (.cells #[.int .i64 kind, .int .i64 site, .int .i64 num, .int .i64 key, .int .i64 value, .int .i64 ask, .bool yes, .slice sa sl sc] 37) := ⟨_, rfl⟩
    have mbU : BoxN U w2.heap.size 8 [.int .i64 kind, .int .i64 site, .int .i64 num, .int .i64 key, .int .i64 value, .int .i64 ask, .bool yes, .slice sa sl sc] := by rw [hU]; simpa using boxn_new w2 #[.int .i64 kind, .int .i64 site, .int .i64 num, .int .i64 key, .int .i64 value, .int .i64 ask, .bool yes, .slice sa sl sc] 37 8 rfl
    have h2U : Below w2.heap.size w2 U := by rw [hU]; exact (Below.refl _ _).alloc (Nat.le_refl _) _
    have hWU : Below W.heap.size W U := hW2.trans (h2U.mono hW2.size)
    have hRU : RdTo U w1.heap.size w.heap.size rE := by rw [hU]; exact hR2.grown (World.grownBy_alloc w2 _ none) (fun q hq => by cases hq)
    have hR2lt := hR2.lt
    have hIU := hI2.below h2U
    rw [← hU]
    clear hU hR2 hRV hI2
    go_upto_region 7 with (go_at_call 19; refine (hEnd _ _ _ hRU).mono ?_; rintro e w3 ⟨rfl, hg3⟩)
    have hW3 : Below W.heap.size W w3 := hWU.grown hg3 hWU.size (fun q hq => by simp at hq; omega)
    have mb3 := mbU.grown hg3 (by simp; omega)
    have hI3 := isI_grownR hIU hg3 (fun b off e => by have := (hn2 b off e).1; simp; omega)
    have hn3 : ∀ b off, sa = some ⟨b, off, none⟩ → W.heap.size ≤ b ∧ b < w3.heap.size := fun b off e => by have := hn2 b off e; have := hWV.size; have := h2U.size; have := hg3.size; omega
    have hw3 := hB.trans (hW3.mono hB.size)
    obtain ⟨c0, c1, c2, rb3⟩ := KC.out _ hW3
    have z2W := hW2.size
    clear mbU hRU hg2 hg3 hIU hn2
    by_cases hE : FE = 0
    · subst hE
      have m0 : w3.cell? ⟨w2.heap.size, 0, none⟩ = some (.int .i64 kind) := (mb3.c 0 (by omega)).1
      have m1 : w3.cell? ⟨w2.heap.size, 1, none⟩ = some (.int .i64 site) := (mb3.c 1 (by omega)).1
      have m2 : w3.cell? ⟨w2.heap.size, 2, none⟩ = some (.int .i64 num) := (mb3.c 2 (by omega)).1
      have m3 : w3.cell? ⟨w2.heap.size, 3, none⟩ = some (.int .i64 key) := (mb3.c 3 (by omega)).1
      have m4 : w3.cell? ⟨w2.heap.size, 4, none⟩ = some (.int .i64 value) := (mb3.c 4 (by omega)).1
      have m5 : w3.cell? ⟨w2.heap.size, 5, none⟩ = some (.int .i64 ask) := (mb3.c 5 (by omega)).1
      have m6 : w3.cell? ⟨w2.heap.size, 6, none⟩ = some (.bool yes) := (mb3.c 6 (by omega)).1
      have m7 : w3.cell? ⟨w2.heap.size, 7, none⟩ = some (.slice sa sl sc) := (mb3.c 7 (by omega)).1
      have hL3 := h.below hw3
      have hm3 := hm.below hw3 hgM
      have ht3 := ht.below hw3 hgT
      go_upto_region 9 with (fail)
      go_upto_region 10 with (go_at_call 28; refine (hCk sa sc _ hL3 hI3 hm3 ht3).mono ?_; rintro e w4 ⟨rfl, hb4⟩)
      have hW4 := hW3.trans (hb4.mono hW3.size)
      have mb4 := mb3.below hb4 mb3.lt
      have hI4 := hI3.below hb4
      have hn4 : ∀ b off, sa = some ⟨b, off, none⟩ → W.heap.size ≤ b ∧ b < w4.heap.size := fun b off e => by have := hn3 b off e; have := hb4.size; omega
      have hw4 := hB.trans (hW4.mono hB.size)
      have mlt : w.heap.size + 1 < w2.heap.size := by omega
      have mlt' : w.heap.size + 1 ≠ w2.heap.size := by omega
      clear c0 c1 c2 rb3 m0 m1 m2 m3 m4 m5 m6 m7 hI3 hn3
      obtain ⟨c0, c1, c2, rb4⟩ := KC.out _ hW4
      have s0 : w4.cell? ⟨w.heap.size + 1, 0, none⟩ = some (.int .i64 0) := (rb4.c 0 (by omega)).1
      have g0 : w4.frozen? ⟨w.heap.size + 1, 0, none⟩ = false := (rb4.c 0 (by omega)).2
      have s1 : w4.cell? ⟨w.heap.size + 1, 1, none⟩ = some (.int .i64 0) := (rb4.c 1 (by omega)).1
      have g1 : w4.frozen? ⟨w.heap.size + 1, 1, none⟩ = false := (rb4.c 1 (by omega)).2
      have s2 : w4.cell? ⟨w.heap.size + 1, 2, none⟩ = some (.int .i64 0) := (rb4.c 2 (by omega)).1
      have g2 : w4.frozen? ⟨w.heap.size + 1, 2, none⟩ = false := (rb4.c 2 (by omega)).2
      have s3 : w4.cell? ⟨w.heap.size + 1, 3, none⟩ = some (.int .i64 0) := (rb4.c 3 (by omega)).1
      have g3 : w4.frozen? ⟨w.heap.size + 1, 3, none⟩ = false := (rb4.c 3 (by omega)).2
      have s4 : w4.cell? ⟨w.heap.size + 1, 4, none⟩ = some (.int .i64 0) := (rb4.c 4 (by omega)).1
      have g4 : w4.frozen? ⟨w.heap.size + 1, 4, none⟩ = false := (rb4.c 4 (by omega)).2
      have s5 : w4.cell? ⟨w.heap.size + 1, 5, none⟩ = some (.int .i64 0) := (rb4.c 5 (by omega)).1
      have g5 : w4.frozen? ⟨w.heap.size + 1, 5, none⟩ = false := (rb4.c 5 (by omega)).2
      have s6 : w4.cell? ⟨w.heap.size + 1, 6, none⟩ = some (.bool false) := (rb4.c 6 (by omega)).1
      have g6 : w4.frozen? ⟨w.heap.size + 1, 6, none⟩ = false := (rb4.c 6 (by omega)).2
      have s7 : w4.cell? ⟨w.heap.size + 1, 7, none⟩ = some (.slice none 0 0) := (rb4.c 7 (by omega)).1
      have g7 : w4.frozen? ⟨w.heap.size + 1, 7, none⟩ = false := (rb4.c 7 (by omega)).2
      by_cases hX : FM = 0
      · subst hX
        have m0 : w4.cell? ⟨w2.heap.size, 0, none⟩ = some (.int .i64 kind) := (mb4.c 0 (by omega)).1
        have m1 : w4.cell? ⟨w2.heap.size, 1, none⟩ = some (.int .i64 site) := (mb4.c 1 (by omega)).1
        have m2 : w4.cell? ⟨w2.heap.size, 2, none⟩ = some (.int .i64 num) := (mb4.c 2 (by omega)).1
        have m3 : w4.cell? ⟨w2.heap.size, 3, none⟩ = some (.int .i64 key) := (mb4.c 3 (by omega)).1
        have m4 : w4.cell? ⟨w2.heap.size, 4, none⟩ = some (.int .i64 value) := (mb4.c 4 (by omega)).1
        have m5 : w4.cell? ⟨w2.heap.size, 5, none⟩ = some (.int .i64 ask) := (mb4.c 5 (by omega)).1
        have m6 : w4.cell? ⟨w2.heap.size, 6, none⟩ = some (.bool yes) := (mb4.c 6 (by omega)).1
        have m7 : w4.cell? ⟨w2.heap.size, 7, none⟩ = some (.slice sa sl sc) := (mb4.c 7 (by omega)).1
        have hset : w4.grownBy _ (some (w.heap.size + 1)) := grown_set (i := 7) (v := .slice sa sl sc) (grown_set (i := 6) (v := .bool yes) (grown_set (i := 5) (v := .int .i64 ask) (grown_set (i := 4) (v := .int .i64 value) (grown_set (i := 3) (v := .int .i64 key) (grown_set (i := 2) (v := .int .i64 num) (grown_set (i := 1) (v := .int .i64 site) (grown_set (i := 0) (v := .int .i64 kind) (grownR_refl w4 (some (w.heap.size + 1))))))))))
        have hIF := isI_grownR hI4 hset (fun b off e => by have := (hn4 b off e).1; simp; omega)
        clear mb4 mb3 rb4
        go_wp2
        refine bodyPost_ret (v := .tuple #[.agg #[.int .i64 kind, .int .i64 site, .int .i64 num, .int .i64 key, .int .i64 value, .int .i64 ask, .bool yes, .slice sa sl sc], .int .i64 0]) (by simp [results, Tryd.results9, go_sem, s0, s1, s2, s3, s4, s5, s6, s7]) rfl ⟨sa, sc, by rw [EO.out]; rfl, by rw [EO.out]; exact hIF, fun b off e => ?_, ?_⟩
        · have hx := hn4 b off e
          exact ⟨by omega, Nat.lt_of_lt_of_le hx.2 hset.size⟩
        · exact (Below.setCell (p := ⟨w.heap.size + 1, 7, none⟩) (Below.setCell (p := ⟨w.heap.size + 1, 6, none⟩) (Below.setCell (p := ⟨w.heap.size + 1, 5, none⟩) (Below.setCell (p := ⟨w.heap.size + 1, 4, none⟩) (Below.setCell (p := ⟨w.heap.size + 1, 3, none⟩) (Below.setCell (p := ⟨w.heap.size + 1, 2, none⟩) (Below.setCell (p := ⟨w.heap.size + 1, 1, none⟩) (Below.setCell (p := ⟨w.heap.size + 1, 0, none⟩) hw4 (by simp) (.int .i64 kind)) (by simp) (.int .i64 site)) (by simp) (.int .i64 num)) (by simp) (.int .i64 key)) (by simp) (.int .i64 value)) (by simp) (.int .i64 ask)) (by simp) (.bool yes)) (by simp) (.slice sa sl sc))
      · clear mb4 mb3 rb4
        go_wp2
        refine bodyPost_ret (v := .tuple #[.agg #[.int .i64 0, .int .i64 0, .int .i64 0, .int .i64 0, .int .i64 0, .int .i64 0, .bool false, .slice none 0 0], .int .i64 FM]) (by simp [results, Tryd.results9, go_sem, s0, s1, s2, s3, s4, s5, s6, s7]) rfl ⟨none, 0, by rw [EO.out, if_neg (by simp), if_neg (by simp), if_pos hX]; rfl, by rw [EO.out, if_neg (by simp), if_neg (by simp), if_pos hX]; exact isI_nilR _, fun b off e => by simp at e, ?_⟩
        exact (Below.setCell (p := ⟨w.heap.size + 1, 7, none⟩) (Below.setCell (p := ⟨w.heap.size + 1, 6, none⟩) (Below.setCell (p := ⟨w.heap.size + 1, 5, none⟩) (Below.setCell (p := ⟨w.heap.size + 1, 4, none⟩) (Below.setCell (p := ⟨w.heap.size + 1, 3, none⟩) (Below.setCell (p := ⟨w.heap.size + 1, 2, none⟩) (Below.setCell (p := ⟨w.heap.size + 1, 1, none⟩) (Below.setCell (p := ⟨w.heap.size + 1, 0, none⟩) hw4 (by simp) (.int .i64 0)) (by simp) (.int .i64 0)) (by simp) (.int .i64 0)) (by simp) (.int .i64 0)) (by simp) (.int .i64 0)) (by simp) (.int .i64 0)) (by simp) (.bool false)) (by simp) (.slice none 0 0))
    · have hw3b := hw3
      have s0 : w3.cell? ⟨w.heap.size + 1, 0, none⟩ = some (.int .i64 0) := (rb3.c 0 (by omega)).1
      have g0 : w3.frozen? ⟨w.heap.size + 1, 0, none⟩ = false := (rb3.c 0 (by omega)).2
      have s1 : w3.cell? ⟨w.heap.size + 1, 1, none⟩ = some (.int .i64 0) := (rb3.c 1 (by omega)).1
      have g1 : w3.frozen? ⟨w.heap.size + 1, 1, none⟩ = false := (rb3.c 1 (by omega)).2
      have s2 : w3.cell? ⟨w.heap.size + 1, 2, none⟩ = some (.int .i64 0) := (rb3.c 2 (by omega)).1
      have g2 : w3.frozen? ⟨w.heap.size + 1, 2, none⟩ = false := (rb3.c 2 (by omega)).2
      have s3 : w3.cell? ⟨w.heap.size + 1, 3, none⟩ = some (.int .i64 0) := (rb3.c 3 (by omega)).1
      have g3 : w3.frozen? ⟨w.heap.size + 1, 3, none⟩ = false := (rb3.c 3 (by omega)).2
      have s4 : w3.cell? ⟨w.heap.size + 1, 4, none⟩ = some (.int .i64 0) := (rb3.c 4 (by omega)).1
      have g4 : w3.frozen? ⟨w.heap.size + 1, 4, none⟩ = false := (rb3.c 4 (by omega)).2
      have s5 : w3.cell? ⟨w.heap.size + 1, 5, none⟩ = some (.int .i64 0) := (rb3.c 5 (by omega)).1
      have g5 : w3.frozen? ⟨w.heap.size + 1, 5, none⟩ = false := (rb3.c 5 (by omega)).2
      have s6 : w3.cell? ⟨w.heap.size + 1, 6, none⟩ = some (.bool false) := (rb3.c 6 (by omega)).1
      have g6 : w3.frozen? ⟨w.heap.size + 1, 6, none⟩ = false := (rb3.c 6 (by omega)).2
      have s7 : w3.cell? ⟨w.heap.size + 1, 7, none⟩ = some (.slice none 0 0) := (rb3.c 7 (by omega)).1
      have g7 : w3.frozen? ⟨w.heap.size + 1, 7, none⟩ = false := (rb3.c 7 (by omega)).2
      clear mb3 rb3
      go_wp2
      refine bodyPost_ret (v := .tuple #[.agg #[.int .i64 0, .int .i64 0, .int .i64 0, .int .i64 0, .int .i64 0, .int .i64 0, .bool false, .slice none 0 0], .int .i64 FE]) (by simp [results, Tryd.results9, go_sem, s0, s1, s2, s3, s4, s5, s6, s7]) rfl ⟨none, 0, by rw [EO.out, if_neg (by simp), if_pos hE]; rfl, by rw [EO.out, if_neg (by simp), if_pos hE]; exact isI_nilR _, fun b off e => by simp at e, ?_⟩
      exact (Below.setCell (p := ⟨w.heap.size + 1, 7, none⟩) (Below.setCell (p := ⟨w.heap.size + 1, 6, none⟩) (Below.setCell (p := ⟨w.heap.size + 1, 5, none⟩) (Below.setCell (p := ⟨w.heap.size + 1, 4, none⟩) (Below.setCell (p := ⟨w.heap.size + 1, 3, none⟩) (Below.setCell (p := ⟨w.heap.size + 1, 2, none⟩) (Below.setCell (p := ⟨w.heap.size + 1, 1, none⟩) (Below.setCell (p := ⟨w.heap.size + 1, 0, none⟩) hw3 (by simp) (.int .i64 0)) (by simp) (.int .i64 0)) (by simp) (.int .i64 0)) (by simp) (.int .i64 0)) (by simp) (.int .i64 0)) (by simp) (.int .i64 0)) (by simp) (.bool false)) (by simp) (.slice none 0 0))
  · obtain ⟨c0, c1, c2, rb1⟩ := KC.out _ hb1
    have s0 : w1.cell? ⟨w.heap.size + 1, 0, none⟩ = some (.int .i64 0) := (rb1.c 0 (by omega)).1
    have g0 : w1.frozen? ⟨w.heap.size + 1, 0, none⟩ = false := (rb1.c 0 (by omega)).2
    have s1 : w1.cell? ⟨w.heap.size + 1, 1, none⟩ = some (.int .i64 0) := (rb1.c 1 (by omega)).1
    have g1 : w1.frozen? ⟨w.heap.size + 1, 1, none⟩ = false := (rb1.c 1 (by omega)).2
    have s2 : w1.cell? ⟨w.heap.size + 1, 2, none⟩ = some (.int .i64 0) := (rb1.c 2 (by omega)).1
    have g2 : w1.frozen? ⟨w.heap.size + 1, 2, none⟩ = false := (rb1.c 2 (by omega)).2
    have s3 : w1.cell? ⟨w.heap.size + 1, 3, none⟩ = some (.int .i64 0) := (rb1.c 3 (by omega)).1
    have g3 : w1.frozen? ⟨w.heap.size + 1, 3, none⟩ = false := (rb1.c 3 (by omega)).2
    have s4 : w1.cell? ⟨w.heap.size + 1, 4, none⟩ = some (.int .i64 0) := (rb1.c 4 (by omega)).1
    have g4 : w1.frozen? ⟨w.heap.size + 1, 4, none⟩ = false := (rb1.c 4 (by omega)).2
    have s5 : w1.cell? ⟨w.heap.size + 1, 5, none⟩ = some (.int .i64 0) := (rb1.c 5 (by omega)).1
    have g5 : w1.frozen? ⟨w.heap.size + 1, 5, none⟩ = false := (rb1.c 5 (by omega)).2
    have s6 : w1.cell? ⟨w.heap.size + 1, 6, none⟩ = some (.bool false) := (rb1.c 6 (by omega)).1
    have g6 : w1.frozen? ⟨w.heap.size + 1, 6, none⟩ = false := (rb1.c 6 (by omega)).2
    have s7 : w1.cell? ⟨w.heap.size + 1, 7, none⟩ = some (.slice none 0 0) := (rb1.c 7 (by omega)).1
    have g7 : w1.frozen? ⟨w.heap.size + 1, 7, none⟩ = false := (rb1.c 7 (by omega)).2
    clear rb1
    go_wp2
    refine bodyPost_ret (v := .tuple #[.agg #[.int .i64 0, .int .i64 0, .int .i64 0, .int .i64 0, .int .i64 0, .int .i64 0, .bool false, .slice none 0 0], .int .i64 FC]) (by simp [results, Tryd.results9, go_sem, s0, s1, s2, s3, s4, s5, s6, s7]) rfl ⟨none, 0, by rw [EO.out, if_pos hF]; rfl, by rw [EO.out, if_pos hF]; exact isI_nilR _, fun b off e => by simp at e, ?_⟩
    exact (Below.setCell (p := ⟨w.heap.size + 1, 7, none⟩) (Below.setCell (p := ⟨w.heap.size + 1, 6, none⟩) (Below.setCell (p := ⟨w.heap.size + 1, 5, none⟩) (Below.setCell (p := ⟨w.heap.size + 1, 4, none⟩) (Below.setCell (p := ⟨w.heap.size + 1, 3, none⟩) (Below.setCell (p := ⟨w.heap.size + 1, 2, none⟩) (Below.setCell (p := ⟨w.heap.size + 1, 1, none⟩) (Below.setCell (p := ⟨w.heap.size + 1, 0, none⟩) hw1 (by simp) (.int .i64 0)) (by simp) (.int .i64 0)) (by simp) (.int .i64 0)) (by simp) (.int .i64 0)) (by simp) (.int .i64 0)) (by simp) (.int .i64 0)) (by simp) (.bool false)) (by simp) (.slice none 0 0))
end Go.Proofs.YtpikiaepomjmgaaDoor