/- Texts of this claim, one behind the other. -/
import Derived.Test.YtflfcjbgkpfgkaaDoorM19TapeRecovers
import Derived.Test.YtflfcjbgkpfgkaaDoorM18TapeRecovers
/- The contract of wire.DecodeRecord: what recOf tells, its sites in new memory. -/
namespace Go.Proofs.YtflfcjbgkpfgkaaDoor
open Go.ChangeShapes Go.WideShapes Go.ChangeAt Go.RowKit
set_option linter.unusedVariables false

theorem isI_nilR (w : World) : IsInts w none 0 0 [] := ⟨rfl, Nat.le_refl _, Nat.zero_le _, fun i => by simp, fun h => absurd h (by omega)⟩
def DecRPost (w w' : World) (e : Ending) (d : RcV × Int) : Prop :=
  ∃ sa sc, e = .returned (.tuple #[RcV.val { d.1 with sa := sa, sc := sc }, .int .i64 d.2]) ∧ IsInts w' sa d.1.sl sc d.1.sites ∧ (∀ b off, sa = some ⟨b, off, none⟩ → w.heap.size ≤ b ∧ b < w'.heap.size) ∧ Below w.heap.size w w'

set_option maxRecDepth 100000 in
set_option maxHeartbeats 4000000 in
theorem decodeRecord_any (s p : Int) (a : Option Addr) (len cap : Nat) (ls : List (Int × Int)) (ba : Option Addr) (bl bc : Nat) (bs : List Int) (w : World) (h : IsLabs w a len cap ls) (hI : IsB w ba bl bc bs) (hfb : ∀ b off, ba = some ⟨b, off, none⟩ → b < w.heap.size) (hm : HasAt w 1 rHas) (ht : TopsAt w) (hwd : WidsAt w) :
    Calls Tryd.prog 61 #[.agg #[.int .i64 s, .slice a len cap, .int .i64 p], .slice ba bl bc] w fun e w' => DecRPost w w' e (recOf s ls p bs) := by
  have hgT : 3 < w.heap.size := World.block_lt_of_cell? w _ ht.1
  have hgM : 1 < w.heap.size := hm.lt (by decide)
  have hgW : 2 < w.heap.size := hwd.lt
  have hbyt := hI.2.2.2.1
  have hkn := kind_nonneg ⟨bs, 0⟩ hbyt 7
  have hRd := fun R L w' h1 h2 h3 h4 h5 => readRecord_any R L ⟨bs, 0⟩ w' h1 hbyt h2 h3 h4 h5 hkn
  have EO : Hid (recOf s ls p bs = if cfgFault s ls p ≠ 0 then (RcV.zero, cfgFault s ls p) else if (decRecRS ⟨bs, 0⟩).2.fin.wrong ≠ 0 then (RcV.zero, (decRecRS ⟨bs, 0⟩).2.fin.wrong) else if recFault s ls p (decRecRS ⟨bs, 0⟩).1 ≠ 0 then (RcV.zero, recFault s ls p (decRecRS ⟨bs, 0⟩).1) else ((decRecRS ⟨bs, 0⟩).1, 0)) := rfl
  obtain ⟨MO, eMO⟩ : ∃ x, x = recOf s ls p bs := ⟨_, rfl⟩
  rw [← eMO] at EO ⊢
  clear eMO
  obtain ⟨m, rE, eD⟩ : ∃ m r, decRecRS ⟨bs, 0⟩ = (m, r) := ⟨_, _, rfl⟩
  rw [eD] at EO hRd
  simp only at EO
  clear eD hkn
  have hCk := fun sa sc w' h1 h2 h3 h4 => checkRecord_any s p a len cap ls { m with sa := sa, sc := sc } w' h1 h2 h3 h4
  obtain ⟨FE, eFE⟩ : ∃ x, x = rE.fin.wrong := ⟨_, rfl⟩
  obtain ⟨FM, eFM⟩ : ∃ x, x = recFault s ls p m := ⟨_, rfl⟩
  obtain ⟨FC, eFC⟩ : ∃ x, x = cfgFault s ls p := ⟨_, rfl⟩
  have hEnd := fun R L w' hh => endR_any R L rE w' hh
  have hLc := fun w' hh => check_any s p a len cap ls w' hh
  have eFm2 : ∀ sa sc, recFault s ls p { m with sa := sa, sc := sc } = FM := fun sa sc => eFM.symm
  simp only [eFm2] at hCk
  rw [← eFE] at EO hEnd
  rw [← eFM] at EO
  rw [← eFC] at EO hLc
  clear eFE eFM eFC eFm2
  obtain ⟨kind, site, num, key, value, ask, yes, sa0, sl, sc0, sites⟩ := m
  simp only [RcV.val] at hCk
  obtain ⟨W, hW⟩ : ∃ W : World, W = (w.alloc (.cells #[.int .i64 s, .slice a len cap, .int .i64 p] 24)).alloc (.cells #[.int .i64 0, .int .i64 0, .int .i64 0, .int .i64 0, .int .i64 0, .int .i64 0, .bool false, .slice none 0 0] 56) := ⟨_, rfl⟩
  have hB : Below w.heap.size w W := by rw [hW]; exact ((Below.refl _ _).alloc (Nat.le_refl _) _).alloc (by simp) _
  have zW : W.heap.size = w.heap.size + 2 := by rw [hW]; simp
  have c0 : W.cell? ⟨w.heap.size, 0, none⟩ = some (.int .i64 s) := by rw [hW]; go_simp
  have c1 : W.cell? ⟨w.heap.size, 1, none⟩ = some (.slice a len cap) := by rw [hW]; go_simp
  have c2 : W.cell? ⟨w.heap.size, 2, none⟩ = some (.int .i64 p) := by rw [hW]; go_simp
  have rbW : BoxN W (w.heap.size + 1) 8 [.int .i64 0, .int .i64 0, .int .i64 0, .int .i64 0, .int .i64 0, .int .i64 0, .bool false, .slice none 0 0] := by
    have := boxn_new (w.alloc (.cells #[.int .i64 s, .slice a len cap, .int .i64 p] 24)) #[.int .i64 0, .int .i64 0, .int .i64 0, .int .i64 0, .int .i64 0, .int .i64 0, .bool false, .slice none 0 0] 56 8 rfl
    rw [hW]
    simpa using this
  have hLW := h.below hB
  have KC : Hid (∀ V : World, Below W.heap.size W V → V.cell? ⟨w.heap.size, 0, none⟩ = some (.int .i64 s) ∧ V.cell? ⟨w.heap.size, 1, none⟩ = some (.slice a len cap) ∧ V.cell? ⟨w.heap.size, 2, none⟩ = some (.int .i64 p) ∧ BoxN V (w.heap.size + 1) 8 [.int .i64 0, .int .i64 0, .int .i64 0, .int .i64 0, .int .i64 0, .int .i64 0, .bool false, .slice none 0 0]) := by
    intro V hV
    exact ⟨(hV.cell (p := ⟨w.heap.size, 0, none⟩) (by show w.heap.size < _; omega)).trans c0, (hV.cell (p := ⟨w.heap.size, 1, none⟩) (by show w.heap.size < _; omega)).trans c1, (hV.cell (p := ⟨w.heap.size, 2, none⟩) (by show w.heap.size < _; omega)).trans c2, rbW.below hV (by omega)⟩
  go_enter Tryd.func61, Tryd.ntmps61
  go_upto_region 1 with (fail)
  rw [← hW]
  clear hW
  go_upto_region 2 with (go_at_call 23; refine (hLc _ hLW).mono ?_; rintro e w1 ⟨rfl, hb1⟩)
  clear c0 c1 c2 rbW
  have hw1 := hB.trans (hb1.mono hB.size)
  by_cases hF : FC = 0
  · subst hF
    go_upto_region 4 with (fail)
    go_upto_region 5 with (fail)
    obtain ⟨V, hV⟩ : ∃ V : World, V = w1.alloc (.cells #[.slice ba bl bc, .int .i64 0] 63) := ⟨_, rfl⟩
    have hRV : RdTo V w1.heap.size w.heap.size ⟨bs, 0⟩ := by rw [hV]; exact rd_new (hI.below hw1) hw1.size hfb
    have hWV : Below W.heap.size W V := by rw [hV]; exact hb1.alloc hb1.size _
    have hwV := hB.trans (hWV.mono hB.size)
    have zV : w1.heap.size < V.heap.size := hRV.lt
    rw [← hV]
    clear hV
    have hmV := hm.below hwV hgM
    have wdV := hwd.below hwV hgW
    have hRs : W.heap.size ≤ w1.heap.size := hb1.size
    go_upto_region 6 with (go_at_call 72; refine (hRd _ _ _ hRV hmV wdV hgM hgW).mono ?_; rintro e w2 ⟨v, rfl, sa, sc, rfl, hI2, hn2, hR2, hg2⟩; simp only [RcV.val])
    simp only at hI2 hR2
    have hW2 : Below W.heap.size W w2 := hWV.grown hg2 hWV.size (fun q hq => by simp at hq; omega)
    obtain ⟨U, hU⟩ : ∃ U : World, U = w2.alloc (.cells #[.int .i64 kind, .int .i64 site, .int .i64 num, .int .i64 key, .int .i64 value, .int .i64 ask, .bool yes, .slice sa sl sc] 56) := ⟨_, rfl⟩
    have mbU : BoxN U w2.heap.size 8 [.int .i64 kind, .int .i64 site, .int .i64 num, .int .i64 key, .int .i64 value, .int .i64 ask, .bool yes, .slice sa sl sc] := by rw [hU]; simpa using boxn_new w2 #[.int .i64 kind, .int .i64 site, .int .i64 num, .int .i64 key, .int .i64 value, .int .i64 ask, .bool yes, .slice sa sl sc] 56 8 rfl
    have h2U : Below w2.heap.size w2 U := by rw [hU]; exact (Below.refl _ _).alloc (Nat.le_refl _) _
    have hWU : Below W.heap.size W U := hW2.trans (h2U.mono hW2.size)
    have hRU : RdTo U w1.heap.size w.heap.size rE := by rw [hU]; exact hR2.grown (World.grownBy_alloc w2 _ none) (fun q hq => by cases hq)
    have hR2lt := hR2.lt
    have hIU := hI2.below h2U
    rw [← hU]
    clear hU hR2 hRV hI2
    go_upto_region 7 with (go_at_call 25; refine (hEnd _ _ _ hRU).mono ?_; rintro e w3 ⟨rfl, hg3⟩)
    have hW3 : Below W.heap.size W w3 := hWU.grown hg3 hWU.size (fun q hq => by simp at hq; omega)
    have mb3 := mbU.grown hg3 (by simp; omega)
    have hI3 := isI_grownR hIU hg3 (fun b off e => by have := (hn2 b off e).1; simp; omega)
    have hn3 : ∀ b off, sa = some ⟨b, off, none⟩ → W.heap.size ≤ b ∧ b < w3.heap.size := fun b off e => by have := hn2 b off e; have := hWV.size; have := h2U.size; have := hg3.size; omega
    have hw3 := hB.trans (hW3.mono hB.size)
    obtain ⟨c0, c1, c2, rb3⟩ := KC.out _ hW3
    have z2W := hW2.size
    clear mbU hRU hg2 hg3 hIU hn2
    by_cases hE : FE = 0
    · subst hE
      have m0 : w3.cell? ⟨w2.heap.size, 0, none⟩ = some (.int .i64 kind) := (mb3.c 0 (by omega)).1
      have m1 : w3.cell? ⟨w2.heap.size, 1, none⟩ = some (.int .i64 site) := (mb3.c 1 (by omega)).1
      have m2 : w3.cell? ⟨w2.heap.size, 2, none⟩ = some (.int .i64 num) := (mb3.c 2 (by omega)).1
      have m3 : w3.cell? ⟨w2.heap.size, 3, none⟩ = some (.int .i64 key) := (mb3.c 3 (by omega)).1
      have m4 : w3.cell? ⟨w2.heap.size, 4, none⟩ = some (.int .i64 value) := (mb3.c 4 (by omega)).1
      have m5 : w3.cell? ⟨w2.heap.size, 5, none⟩ = some (.int .i64 ask) := (mb3.c 5 (by omega)).1
      have m6 : w3.cell? ⟨w2.heap.size, 6, none⟩ = some (.bool yes) := (mb3.c 6 (by omega)).1
      have m7 : w3.cell? ⟨w2.heap.size, 7, none⟩ = some (.slice sa sl sc) := (mb3.c 7 (by omega)).1
      have hL3 := h.below hw3
      have hm3 := hm.below hw3 hgM
      have ht3 := ht.below hw3 hgT
      go_upto_region 9 with (fail)
      go_upto_region 10 with (go_at_call 64; refine (hCk sa sc _ hL3 hI3 hm3 ht3).mono ?_; rintro e w4 ⟨rfl, hb4⟩)
      have hW4 := hW3.trans (hb4.mono hW3.size)
      have mb4 := mb3.below hb4 mb3.lt
      have hI4 := hI3.below hb4
      have hn4 : ∀ b off, sa = some ⟨b, off, none⟩ → W.heap.size ≤ b ∧ b < w4.heap.size := fun b off e => by have := hn3 b off e; have := hb4.size; omega
      have hw4 := hB.trans (hW4.mono hB.size)
      have mlt : w.heap.size + 1 < w2.heap.size := by omega
      have mlt' : w.heap.size + 1 ≠ w2.heap.size := by omega
      clear c0 c1 c2 rb3 m0 m1 m2 m3 m4 m5 m6 m7 hI3 hn3
      obtain ⟨c0, c1, c2, rb4⟩ := KC.out _ hW4
      have s0 : w4.cell? ⟨w.heap.size + 1, 0, none⟩ = some (.int .i64 0) := (rb4.c 0 (by omega)).1
      have g0 : w4.frozen? ⟨w.heap.size + 1, 0, none⟩ = false := (rb4.c 0 (by omega)).2
      have s1 : w4.cell? ⟨w.heap.size + 1, 1, none⟩ = some (.int .i64 0) := (rb4.c 1 (by omega)).1
      have g1 : w4.frozen? ⟨w.heap.size + 1, 1, none⟩ = false := (rb4.c 1 (by omega)).2
      have s2 : w4.cell? ⟨w.heap.size + 1, 2, none⟩ = some (.int .i64 0) := (rb4.c 2 (by omega)).1
      have g2 : w4.frozen? ⟨w.heap.size + 1, 2, none⟩ = false := (rb4.c 2 (by omega)).2
      have s3 : w4.cell? ⟨w.heap.size + 1, 3, none⟩ = some (.int .i64 0) := (rb4.c 3 (by omega)).1
      have g3 : w4.frozen? ⟨w.heap.size + 1, 3, none⟩ = false := (rb4.c 3 (by omega)).2
      have s4 : w4.cell? ⟨w.heap.size + 1, 4, none⟩ = some (.int .i64 0) := (rb4.c 4 (by omega)).1
      have g4 : w4.frozen? ⟨w.heap.size + 1, 4, none⟩ = false := (rb4.c 4 (by omega)).2
      have s5 : w4.cell? ⟨w.heap.size + 1, 5, none⟩ = some (.int .i64 0) := (rb4.c 5 (by omega)).1
      have g5 : w4.frozen? ⟨w.heap.size + 1, 5, none⟩ = false := (rb4.c 5 (by omega)).2
      have s6 : w4.cell? ⟨w.heap.size + 1, 6, none⟩ = some (.bool false) := (rb4.c 6 (by omega)).1
      have g6 : w4.frozen? ⟨w.heap.size + 1, 6, none⟩ = false := (rb4.c 6 (by omega)).2
      have s7 : w4.cell? ⟨w.heap.size + 1, 7, none⟩ = some (.slice none 0 0) := (rb4.c 7 (by omega)).1
      have g7 : w4.frozen? ⟨w.heap.size + 1, 7, none⟩ = false := (rb4.c 7 (by omega)).2
      by_cases hX : FM = 0
      · subst hX
        have m0 : w4.cell? ⟨w2.heap.size, 0, none⟩ = some (.int .i64 kind) := (mb4.c 0 (by omega)).1
        have m1 : w4.cell? ⟨w2.heap.size, 1, none⟩ = some (.int .i64 site) := (mb4.c 1 (by omega)).1
        have m2 : w4.cell? ⟨w2.heap.size, 2, none⟩ = some (.int .i64 num) := (mb4.c 2 (by omega)).1
        have m3 : w4.cell? ⟨w2.heap.size, 3, none⟩ = some (.int .i64 key) := (mb4.c 3 (by omega)).1
        have m4 : w4.cell? ⟨w2.heap.size, 4, none⟩ = some (.int .i64 value) := (mb4.c 4 (by omega)).1
        have m5 : w4.cell? ⟨w2.heap.size, 5, none⟩ = some (.int .i64 ask) := (mb4.c 5 (by omega)).1
        have m6 : w4.cell? ⟨w2.heap.size, 6, none⟩ = some (.bool yes) := (mb4.c 6 (by omega)).1
        have m7 : w4.cell? ⟨w2.heap.size, 7, none⟩ = some (.slice sa sl sc) := (mb4.c 7 (by omega)).1
        have hset : w4.grownBy _ (some (w.heap.size + 1)) := grown_set (i := 7) (v := .slice sa sl sc) (grown_set (i := 6) (v := .bool yes) (grown_set (i := 5) (v := .int .i64 ask) (grown_set (i := 4) (v := .int .i64 value) (grown_set (i := 3) (v := .int .i64 key) (grown_set (i := 2) (v := .int .i64 num) (grown_set (i := 1) (v := .int .i64 site) (grown_set (i := 0) (v := .int .i64 kind) (grownR_refl w4 (some (w.heap.size + 1))))))))))
        have hIF := isI_grownR hI4 hset (fun b off e => by have := (hn4 b off e).1; simp; omega)
        clear mb4 mb3 rb4
        go_wp2
        refine bodyPost_ret (v := .tuple #[.agg #[.int .i64 kind, .int .i64 site, .int .i64 num, .int .i64 key, .int .i64 value, .int .i64 ask, .bool yes, .slice sa sl sc], .int .i64 0]) (by simp [results, Tryd.results61, go_sem, s0, s1, s2, s3, s4, s5, s6, s7]) rfl ⟨sa, sc, by rw [EO.out]; rfl, by rw [EO.out]; exact hIF, fun b off e => ?_, ?_⟩
        · have hx := hn4 b off e
          exact ⟨by omega, Nat.lt_of_lt_of_le hx.2 hset.size⟩
        · exact (Below.setCell (p := ⟨w.heap.size + 1, 7, none⟩) (Below.setCell (p := ⟨w.heap.size + 1, 6, none⟩) (Below.setCell (p := ⟨w.heap.size + 1, 5, none⟩) (Below.setCell (p := ⟨w.heap.size + 1, 4, none⟩) (Below.setCell (p := ⟨w.heap.size + 1, 3, none⟩) (Below.setCell (p := ⟨w.heap.size + 1, 2, none⟩) (Below.setCell (p := ⟨w.heap.size + 1, 1, none⟩) (Below.setCell (p := ⟨w.heap.size + 1, 0, none⟩) hw4 (by simp) (.int .i64 kind)) (by simp) (.int .i64 site)) (by simp) (.int .i64 num)) (by simp) (.int .i64 key)) (by simp) (.int .i64 value)) (by simp) (.int .i64 ask)) (by simp) (.bool yes)) (by simp) (.slice sa sl sc))
      · clear mb4 mb3 rb4
        go_wp2
        refine bodyPost_ret (v := .tuple #[.agg #[.int .i64 0, .int .i64 0, .int .i64 0, .int .i64 0, .int .i64 0, .int .i64 0, .bool false, .slice none 0 0], .int .i64 FM]) (by simp [results, Tryd.results61, go_sem, s0, s1, s2, s3, s4, s5, s6, s7]) rfl ⟨none, 0, by rw [EO.out, if_neg (by simp), if_neg (by simp), if_pos hX]; rfl, by rw [EO.out, if_neg (by simp), if_neg (by simp), if_pos hX]; exact isI_nilR _, fun b off e => by simp at e, ?_⟩
        exact (Below.setCell (p := ⟨w.heap.size + 1, 7, none⟩) (Below.setCell (p := ⟨w.heap.size + 1, 6, none⟩) (Below.setCell (p := ⟨w.heap.size + 1, 5, none⟩) (Below.setCell (p := ⟨w.heap.size + 1, 4, none⟩) (Below.setCell (p := ⟨w.heap.size + 1, 3, none⟩) (Below.setCell (p := ⟨w.heap.size + 1, 2, none⟩) (Below.setCell (p := ⟨w.heap.size + 1, 1, none⟩) (Below.setCell (p := ⟨w.heap.size + 1, 0, none⟩) hw4 (by simp) (.int .i64 0)) (by simp) (.int .i64 0)) (by simp) (.int .i64 0)) (by simp) (.int .i64 0)) (by simp) (.int .i64 0)) (by simp) (.int .i64 0)) (by simp) (.bool false)) (by simp) (.slice none 0 0))
    · have hw3b := hw3
      have s0 : w3.cell? ⟨w.heap.size + 1, 0, none⟩ = some (.int .i64 0) := (rb3.c 0 (by omega)).1
      have g0 : w3.frozen? ⟨w.heap.size + 1, 0, none⟩ = false := (rb3.c 0 (by omega)).2
      have s1 : w3.cell? ⟨w.heap.size + 1, 1, none⟩ = some (.int .i64 0) := (rb3.c 1 (by omega)).1
      have g1 : w3.frozen? ⟨w.heap.size + 1, 1, none⟩ = false := (rb3.c 1 (by omega)).2
      have s2 : w3.cell? ⟨w.heap.size + 1, 2, none⟩ = some (.int .i64 0) := (rb3.c 2 (by omega)).1
      have g2 : w3.frozen? ⟨w.heap.size + 1, 2, none⟩ = false := (rb3.c 2 (by omega)).2
      have s3 : w3.cell? ⟨w.heap.size + 1, 3, none⟩ = some (.int .i64 0) := (rb3.c 3 (by omega)).1
      have g3 : w3.frozen? ⟨w.heap.size + 1, 3, none⟩ = false := (rb3.c 3 (by omega)).2
      have s4 : w3.cell? ⟨w.heap.size + 1, 4, none⟩ = some (.int .i64 0) := (rb3.c 4 (by omega)).1
      have g4 : w3.frozen? ⟨w.heap.size + 1, 4, none⟩ = false := (rb3.c 4 (by omega)).2
      have s5 : w3.cell? ⟨w.heap.size + 1, 5, none⟩ = some (.int .i64 0) := (rb3.c 5 (by omega)).1
      have g5 : w3.frozen? ⟨w.heap.size + 1, 5, none⟩ = false := (rb3.c 5 (by omega)).2
      have s6 : w3.cell? ⟨w.heap.size + 1, 6, none⟩ = some (.bool false) := (rb3.c 6 (by omega)).1
      have g6 : w3.frozen? ⟨w.heap.size + 1, 6, none⟩ = false := (rb3.c 6 (by omega)).2
      have s7 : w3.cell? ⟨w.heap.size + 1, 7, none⟩ = some (.slice none 0 0) := (rb3.c 7 (by omega)).1
      have g7 : w3.frozen? ⟨w.heap.size + 1, 7, none⟩ = false := (rb3.c 7 (by omega)).2
      clear mb3 rb3
      go_wp2
      refine bodyPost_ret (v := .tuple #[.agg #[.int .i64 0, .int .i64 0, .int .i64 0, .int .i64 0, .int .i64 0, .int .i64 0, .bool false, .slice none 0 0], .int .i64 FE]) (by simp [results, Tryd.results61, go_sem, s0, s1, s2, s3, s4, s5, s6, s7]) rfl ⟨none, 0, by rw [EO.out, if_neg (by simp), if_pos hE]; rfl, by rw [EO.out, if_neg (by simp), if_pos hE]; exact isI_nilR _, fun b off e => by simp at e, ?_⟩
      exact (Below.setCell (p := ⟨w.heap.size + 1, 7, none⟩) (Below.setCell (p := ⟨w.heap.size + 1, 6, none⟩) (Below.setCell (p := ⟨w.heap.size + 1, 5, none⟩) (Below.setCell (p := ⟨w.heap.size + 1, 4, none⟩) (Below.setCell (p := ⟨w.heap.size + 1, 3, none⟩) (Below.setCell (p := ⟨w.heap.size + 1, 2, none⟩) (Below.setCell (p := ⟨w.heap.size + 1, 1, none⟩) (Below.setCell (p := ⟨w.heap.size + 1, 0, none⟩) hw3 (by simp) (.int .i64 0)) (by simp) (.int .i64 0)) (by simp) (.int .i64 0)) (by simp) (.int .i64 0)) (by simp) (.int .i64 0)) (by simp) (.int .i64 0)) (by simp) (.bool false)) (by simp) (.slice none 0 0))
  · obtain ⟨c0, c1, c2, rb1⟩ := KC.out _ hb1
    have s0 : w1.cell? ⟨w.heap.size + 1, 0, none⟩ = some (.int .i64 0) := (rb1.c 0 (by omega)).1
    have g0 : w1.frozen? ⟨w.heap.size + 1, 0, none⟩ = false := (rb1.c 0 (by omega)).2
    have s1 : w1.cell? ⟨w.heap.size + 1, 1, none⟩ = some (.int .i64 0) := (rb1.c 1 (by omega)).1
    have g1 : w1.frozen? ⟨w.heap.size + 1, 1, none⟩ = false := (rb1.c 1 (by omega)).2
    have s2 : w1.cell? ⟨w.heap.size + 1, 2, none⟩ = some (.int .i64 0) := (rb1.c 2 (by omega)).1
    have g2 : w1.frozen? ⟨w.heap.size + 1, 2, none⟩ = false := (rb1.c 2 (by omega)).2
    have s3 : w1.cell? ⟨w.heap.size + 1, 3, none⟩ = some (.int .i64 0) := (rb1.c 3 (by omega)).1
    have g3 : w1.frozen? ⟨w.heap.size + 1, 3, none⟩ = false := (rb1.c 3 (by omega)).2
    have s4 : w1.cell? ⟨w.heap.size + 1, 4, none⟩ = some (.int .i64 0) := (rb1.c 4 (by omega)).1
    have g4 : w1.frozen? ⟨w.heap.size + 1, 4, none⟩ = false := (rb1.c 4 (by omega)).2
    have s5 : w1.cell? ⟨w.heap.size + 1, 5, none⟩ = some (.int .i64 0) := (rb1.c 5 (by omega)).1
    have g5 : w1.frozen? ⟨w.heap.size + 1, 5, none⟩ = false := (rb1.c 5 (by omega)).2
    have s6 : w1.cell? ⟨w.heap.size + 1, 6, none⟩ = some (.bool false) := (rb1.c 6 (by omega)).1
    have g6 : w1.frozen? ⟨w.heap.size + 1, 6, none⟩ = false := (rb1.c 6 (by omega)).2
    have s7 : w1.cell? ⟨w.heap.size + 1, 7, none⟩ = some (.slice none 0 0) := (rb1.c 7 (by omega)).1
    have g7 : w1.frozen? ⟨w.heap.size + 1, 7, none⟩ = false := (rb1.c 7 (by omega)).2
    clear rb1
    go_wp2
    refine bodyPost_ret (v := .tuple #[.agg #[.int .i64 0, .int .i64 0, .int .i64 0, .int .i64 0, .int .i64 0, .int .i64 0, .bool false, .slice none 0 0], .int .i64 FC]) (by simp [results, Tryd.results61, go_sem, s0, s1, s2, s3, s4, s5, s6, s7]) rfl ⟨none, 0, by rw [EO.out, if_pos hF]; rfl, by rw [EO.out, if_pos hF]; exact isI_nilR _, fun b off e => by simp at e, ?_⟩
    exact (Below.setCell (p := ⟨w.heap.size + 1, 7, none⟩) (Below.setCell (p := ⟨w.heap.size + 1, 6, none⟩) (Below.setCell (p := ⟨w.heap.size + 1, 5, none⟩) (Below.setCell (p := ⟨w.heap.size + 1, 4, none⟩) (Below.setCell (p := ⟨w.heap.size + 1, 3, none⟩) (Below.setCell (p := ⟨w.heap.size + 1, 2, none⟩) (Below.setCell (p := ⟨w.heap.size + 1, 1, none⟩) (Below.setCell (p := ⟨w.heap.size + 1, 0, none⟩) hw1 (by simp) (.int .i64 0)) (by simp) (.int .i64 0)) (by simp) (.int .i64 0)) (by simp) (.int .i64 0)) (by simp) (.int .i64 0)) (by simp) (.int .i64 0)) (by simp) (.bool false)) (by simp) (.slice none 0 0))
end Go.Proofs.YtflfcjbgkpfgkaaDoor
/- The records that are whole at a tape's beginning, on plain data. -/
namespace Go.Proofs.YtflfcjbgkpfgkaaDoor
open Go.ChangeShapes Go.WideShapes Go.ChangeAt Go.RowKit
set_option linter.unusedVariables false

def wholeF (s : Int) (ls : List (Int × Int)) (p : Int) : Nat → List Int → List RcV × Nat
  | 0, _ => ([], 0)
  | _ + 1, [] => ([], 0)
  | f + 1, b :: bs =>
    if bs.length < b.toNat then ([], 0)
    else if (recOf s ls p (bs.take b.toNat)).2 ≠ 0 then ([], 0)
    else ((recOf s ls p (bs.take b.toNat)).1 :: (wholeF s ls p f (bs.drop b.toNat)).1, 1 + b.toNat + (wholeF s ls p f (bs.drop b.toNat)).2)
def wholeOf (s : Int) (ls : List (Int × Int)) (p : Int) (bs : List Int) : List RcV × Nat := wholeF s ls p bs.length bs
end Go.Proofs.YtflfcjbgkpfgkaaDoor
/- The contract of tape.whole: the records that are whole at a tape's beginning, in memory of their own, and how many bytes they are. -/
namespace Go.Proofs.YtflfcjbgkpfgkaaDoor
open Go.ChangeShapes Go.WideShapes Go.ChangeAt Go.RowKit
set_option linter.unusedVariables false

/-- What is still to come, where n bytes are done. -/
def Left (s : Int) (ls : List (Int × Int)) (p : Int) (bs : List Int) (ys : List RcV) (n : Nat) : Prop :=
  ∃ f, bs.length ≤ n + f ∧ (wholeOf s ls p bs).1.map RcV.pl = ys.map RcV.pl ++ (wholeF s ls p f (bs.drop n)).1.map RcV.pl ∧ (wholeOf s ls p bs).2 = n + (wholeF s ls p f (bs.drop n)).2
/-- All is done. -/
def AllOf (s : Int) (ls : List (Int × Int)) (p : Int) (bs : List Int) (ys : List RcV) (n : Nat) : Prop :=
  ys.map RcV.pl = (wholeOf s ls p bs).1.map RcV.pl ∧ (wholeOf s ls p bs).2 = n
theorem left_start (s : Int) (ls : List (Int × Int)) (p : Int) (bs : List Int) : Left s ls p bs [] 0 := ⟨bs.length, by omega, by simp [wholeOf], by simp [wholeOf]⟩
theorem left_end {s : Int} {ls : List (Int × Int)} {p : Int} {bs : List Int} {ys : List RcV} {n : Nat} (h : Left s ls p bs ys n) (hn : bs.length ≤ n) : AllOf s ls p bs ys n := by
  obtain ⟨f, _, h1, h2⟩ := h
  rw [List.drop_eq_nil_of_le hn] at h1 h2
  have e : wholeF s ls p f [] = ([], 0) := by cases f <;> rfl
  rw [e] at h1 h2
  exact ⟨by simpa using h1.symm, by simpa using h2⟩
theorem drop_byte {bs : List Int} {n : Nat} (h : n < bs.length) : bs.drop n = bs.getD n 0 :: bs.drop (n + 1) := by
  rw [List.drop_eq_getElem_cons h]; simp [List.getD, h]
theorem left_long {s : Int} {ls : List (Int × Int)} {p : Int} {bs : List Int} {ys : List RcV} {n : Nat} (h : Left s ls p bs ys n) (hn : n < bs.length) (hl : bs.length < n + 1 + (bs.getD n 0).toNat) : AllOf s ls p bs ys n := by
  obtain ⟨f, hf, h1, h2⟩ := h
  obtain ⟨f, rfl⟩ : ∃ f', f = f' + 1 := ⟨f - 1, by omega⟩
  have e : wholeF s ls p (f + 1) (bs.drop n) = ([], 0) := by
    rw [drop_byte hn, wholeF, if_pos (by rw [List.length_drop]; omega)]
  rw [e] at h1 h2
  exact ⟨by simpa using h1.symm, by simpa using h2⟩
theorem left_bad {s : Int} {ls : List (Int × Int)} {p : Int} {bs : List Int} {ys : List RcV} {n : Nat} (h : Left s ls p bs ys n) (hn : n < bs.length) (hl : ¬ bs.length < n + 1 + (bs.getD n 0).toNat)
    (hr : (recOf s ls p ((bs.drop (n + 1)).take (bs.getD n 0).toNat)).2 ≠ 0) : AllOf s ls p bs ys n := by
  obtain ⟨f, hf, h1, h2⟩ := h
  obtain ⟨f, rfl⟩ : ∃ f', f = f' + 1 := ⟨f - 1, by omega⟩
  have e : wholeF s ls p (f + 1) (bs.drop n) = ([], 0) := by
    rw [drop_byte hn, wholeF, if_neg (by rw [List.length_drop]; omega), if_pos hr]
  rw [e] at h1 h2
  exact ⟨by simpa using h1.symm, by simpa using h2⟩
theorem left_next {s : Int} {ls : List (Int × Int)} {p : Int} {bs : List Int} {ys : List RcV} {n : Nat} (h : Left s ls p bs ys n) (hn : n < bs.length) (hl : ¬ bs.length < n + 1 + (bs.getD n 0).toNat)
    (hr : (recOf s ls p ((bs.drop (n + 1)).take (bs.getD n 0).toNat)).2 = 0) {y : RcV} (hy : y.pl = (recOf s ls p ((bs.drop (n + 1)).take (bs.getD n 0).toNat)).1.pl) : Left s ls p bs (ys ++ [y]) (n + 1 + (bs.getD n 0).toNat) := by
  obtain ⟨f, hf, h1, h2⟩ := h
  obtain ⟨f, rfl⟩ : ∃ f', f = f' + 1 := ⟨f - 1, by omega⟩
  rw [drop_byte hn, wholeF, if_neg (by rw [List.length_drop]; omega), if_neg (fun hh => hh hr), List.drop_drop] at h1 h2
  refine ⟨f, by omega, ?_, ?_⟩
  · rw [h1]
    simp [hy]
  · rw [h2]
    simp only []
    omega
theorem IsB.piece {w : World} {b off bl bc : Nat} {bs : List Int} (h : IsB w (some ⟨b, off, none⟩) bl bc bs) (n k : Nat) (hk : n + k ≤ bl) : IsB w (some ⟨b, off + n, none⟩) k k ((bs.drop n).take k) := by
  obtain ⟨h1, h2, h3, hbd, hn, h4⟩ := h
  refine ⟨by simp; omega, Nat.le_refl _, by omega, (hbd.drop n).take k, fun e => by simp at e, fun hp => ?_⟩
  obtain ⟨b', off', e, hlt, hl⟩ := h4 (by omega)
  simp at e
  obtain ⟨rfl, rfl⟩ := e
  refine ⟨b, off + n, rfl, hlt, fun i hi => ?_⟩
  rw [Nat.add_assoc, hl (n + i) (by omega)]
  have : n + i < bs.length := by omega
  simp [List.getD, hi]
theorem isB_empty (w : World) (b off : Nat) : IsB w (some ⟨b, off, none⟩) 0 0 [] := ⟨rfl, Nat.le_refl _, Nat.zero_le _, fun x hx => by simp at hx, fun e => by simp at e, fun h => absurd h (by omega)⟩

theorem piece_of {W : World} {b off bl bc : Nat} {bs : List Int} (k x : Nat) (h : IsB W (some ⟨b, off, none⟩) bl bc bs) (zb : b < W.heap.size) (hk : k + 1 + x ≤ bl) :
    ∃ pa, IsB W pa x x ((bs.drop (k + 1)).take x) ∧ (∀ b' o', pa = some ⟨b', o', none⟩ → b' < W.heap.size) ∧
      (∀ U : World, (Instr.slice 25 (.slice (some ⟨b, off, none⟩) bl bc) (some (.int .i64 ((k : Int) + 1))) (some (.int .i64 ((k : Int) + 1 + (x : Int)))) (some (.int .i64 ((k : Int) + 1 + (x : Int))))).run Tryd.prog U = .ok (.slice pa x x) U) ∧ ∀ U : World, (Instr.sliceAt 25 (.slice (some ⟨b, off, none⟩) bl bc) (some (.int .i64 ((k : Int) + 1))) (some (.int .i64 ((k : Int) + 1 + (x : Int)))) (some (.int .i64 ((k : Int) + 1 + (x : Int))))).run Tryd.prog U = .ok (.slice pa x x) U := by
  have hc := h.2.1
  have e1 : ((k : Int) + 1).toNat = k + 1 := by omega
  have e2 : ((k : Int) + 1 + (x : Int)).toNat = k + 1 + x := by omega
  have hr : ∀ U : World, (Instr.slice 25 (.slice (some ⟨b, off, none⟩) bl bc) (some (.int .i64 ((k : Int) + 1))) (some (.int .i64 ((k : Int) + 1 + (x : Int)))) (some (.int .i64 ((k : Int) + 1 + (x : Int))))).run Tryd.prog U = .ok (sliced (some ⟨b, off, none⟩) (k + 1) (k + 1 + x) (k + 1 + x) 1) U := fun U => by
    rw [run_slice_lhm (P := Tryd.prog) (t := 25) (a := some ⟨b, off, none⟩) (len := bl) (cap := bc) (w := U) (by kernel_rfl) .i64 .i64 .i64 ((k : Int) + 1) ((k : Int) + 1 + (x : Int)) ((k : Int) + 1 + (x : Int)) (by omega) (by omega) (by omega) (by omega), e1, e2]
    have : (sizeOf (Tryd.prog.elem 25)).run Tryd.prog U = .ok 1 U := by kernel_rfl
    rw [this]
    rfl
  rcases Nat.eq_zero_or_pos x with rfl | hx
  · refine ⟨some ⟨b, off, none⟩, by simpa using isB_empty W b off, fun b' o' e => by simp at e; rw [← e.1]; exact zb, fun U => ?_, fun U => ?_⟩
    · rw [hr]
      simp [sliced]
    · refine (run_sliceAt_slice (P := Tryd.prog) (w := U) 25 (.slice (some ⟨b, off, none⟩) bl bc) (some (.int .i64 _)) (some (.int .i64 _)) (some (.int .i64 _)) (by kernel_rfl)).trans ?_
      rw [hr]
      simp [sliced]
  · refine ⟨some ⟨b, off + (k + 1), none⟩, h.piece (k + 1) x hk, fun b' o' e => by simp at e; rw [← e.1]; exact zb, fun U => ?_, fun U => ?_⟩
    · rw [hr]
      have h0 : ¬ (x = 0) := by omega
      simp [sliced, h0, adr_add]
    · refine (run_sliceAt_slice (P := Tryd.prog) (w := U) 25 (.slice (some ⟨b, off, none⟩) bl bc) (some (.int .i64 _)) (some (.int .i64 _)) (some (.int .i64 _)) (by kernel_rfl)).trans ?_
      rw [hr]
      have h0 : ¬ (x = 0) := by omega
      simp [sliced, h0, adr_add]

set_option maxHeartbeats 4000000 in
set_option maxRecDepth 100000 in
theorem whole_any (S P : Int) (ad : Option Addr) (n cp0 : Nat) (L : List (Int × Int)) (ba : Option Addr) (bl bc : Nat) (bs : List Int) (w : World) (h : IsLabs w ad n cp0 L) (hI : IsB w ba bl bc bs) (hl6 : bl ≤ 6000) (hm : HasAt w 1 rHas) (ht : TopsAt w) (hwd : WidsAt w) :
    Calls Tryd.prog 34 #[.agg #[.int .i64 S, .slice ad n cp0, .int .i64 P], .slice ba bl bc] w fun e w' => ∃ (ao : Option Addr) (cp : Nat) (ys : List RcV) (q : Nat),
      e = .returned (.tuple #[.slice ao ys.length cp, .int .i64 (q : Int)]) ∧ IsRecs w' ao ys.length cp ys ∧ AllOf S L P bs ys q ∧ q ≤ bl ∧ (∀ b off, ao = some ⟨b, off, none⟩ → w.heap.size ≤ b) ∧ (∀ y ∈ ys, ∀ b off, y.sa = some ⟨b, off, none⟩ → w.heap.size ≤ b) ∧ Below w.heap.size w w' := by
  obtain ⟨i0, hi, li0, li1, li2⟩ := info_parts recInfo
  have hgT : 3 < w.heap.size := World.block_lt_of_cell? w _ ht.1
  have hgM : 1 < w.heap.size := hm.lt (by decide)
  have hgW : 2 < w.heap.size := hwd.lt
  have hlen := hI.1
  have HL : Hid (bs.length = bl) := hlen
  clear hlen
  obtain ⟨W, hW⟩ : ∃ W : World, W = w.alloc (.cells #[.int .i64 S, .slice ad n cp0, .int .i64 P] 24) := ⟨_, rfl⟩
  have hA : Below w.heap.size w W := by rw [hW]; exact (Below.refl _ _).alloc (Nat.le_refl _) _
  have zW : w.heap.size < W.heap.size := by rw [hW]; simp
  have d0 : W.cell? ⟨w.heap.size, 0, none⟩ = some (.int .i64 S) := by rw [hW]; go_simp
  have d1 : W.cell? ⟨w.heap.size, 1, none⟩ = some (.slice ad n cp0) := by rw [hW]; go_simp
  have d2 : W.cell? ⟨w.heap.size, 2, none⟩ = some (.int .i64 P) := by rw [hW]; go_simp
  go_enter Tryd.func34, Tryd.ntmps34
  go_wp2
  rw [← hW]
  clear hW
  go_loopw [6, 7] (fun v i wr => ∃ (ao : Option Addr) (cp : Nat) (ys : List RcV) (k : Nat), v = .slice ao ys.length cp ∧ i = .int .i64 (k : Int) ∧ k ≤ bl ∧ ys.length ≤ k ∧ OwnRecs wr W.heap.size (.slice ao ys.length cp) ys ∧ Hid (Left S L P bs ys k) ∧ (∀ y ∈ ys, ∀ b off, y.sa = some ⟨b, off, none⟩ → W.heap.size ≤ b) ∧ Below W.heap.size W wr) (fun _ i _ => bl - (intOf i).toNat)
  case atStart => exact ⟨none, 0, [], 0, rfl, rfl, Nat.zero_le _, Nat.le_refl _, ownRecs_nil _ _, left_start _ _ _ _, by simp, Below.refl _ _⟩
  case round =>
    obtain ⟨ao, cp, ys, k, rfl, rfl, hk, hyk, hO, hleft, hsn, hb⟩ := hrel
    have hao : ∀ b off, ao = some ⟨b, off, none⟩ → w.heap.size ≤ b := fun b off e => by subst e; have := (hO.row.lt b rfl).1; omega
    have hsn' : ∀ y ∈ ys, ∀ b off, y.sa = some ⟨b, off, none⟩ → w.heap.size ≤ b := fun y hy b off e => by have := hsn y hy b off e; omega
    have hwr := hA.trans (hb.mono hA.size)
    by_cases hlt : k < bl
    · have hlt' : (k : Int) < (bl : Int) := by omega
      have hkl : k < bs.length := by have := HL.out; omega
      have hIr := hI.below hwr
      obtain ⟨b, off, rfl, zb0, hc0⟩ := hI.2.2.2.2.2 (by omega)
      have hcell := hc0 k hlt
      rw [← hwr.cell (p := ⟨b, off + k, none⟩) zb0] at hcell
      have hbd := hI.2.2.2.1 bs[k] (List.getElem_mem hkl)
      have hget : bs.getD k 0 = bs[k] := by simp [List.getD, hkl]
      rw [← hget] at hbd
      have HLong : Hid (bl < k + 1 + (bs.getD k 0).toNat → AllOf S L P bs ys k) := fun hh => left_long hleft.out hkl (by have := HL.out; omega)
      have HBad : Hid (¬ bl < k + 1 + (bs.getD k 0).toNat → (recOf S L P ((bs.drop (k + 1)).take (bs.getD k 0).toNat)).2 ≠ 0 → AllOf S L P bs ys k) := fun hh hr => left_bad hleft.out hkl (by have := HL.out; omega) hr
      have HNext : Hid (∀ y : RcV, ¬ bl < k + 1 + (bs.getD k 0).toNat → (recOf S L P ((bs.drop (k + 1)).take (bs.getD k 0).toNat)).2 = 0 → y.pl = (recOf S L P ((bs.drop (k + 1)).take (bs.getD k 0).toNat)).1.pl → Left S L P bs (ys ++ [y]) (k + 1 + (bs.getD k 0).toNat)) := fun y hh hr hy => left_next hleft.out hkl (by have := HL.out; omega) hr hy
      obtain ⟨x, ex⟩ : ∃ x : Nat, (x : Int) = bs.getD k 0 := ⟨(bs.getD k 0).toNat, by omega⟩
      rw [← ex] at hcell hbd HLong HBad HNext
      simp only [Int.toNat_natCast] at HLong HBad HNext
      clear ex hget hleft hc0
      have x256 : x < 256 := by omega
      have x256' : (x : Int) < 256 := by omega
      have k6 : (k : Int) < 6000 := by omega
      have zb : b < wr.heap.size := Nat.lt_of_lt_of_le zb0 hwr.size
      have xm : (x : Int) % 18446744073709551616 = (x : Int) := by omega
      have hwp : IntKind.i64.wrap ((k : Int) + 1) = (k : Int) + 1 := by simp [IntKind.wrap, IntKind.bits, IntKind.signed]; omega
      by_cases hlong : bl < k + 1 + x
      · have hlong' : (bl : Int) < (k : Int) + 1 + (x : Int) := by omega
        have hfin := HLong.out hlong
        have hR : IsRecs wr ao ys.length cp ys := hO.isRecs.2
        go_wp2
        go_ret2
        exact ⟨ao, cp, ys, k, rfl, hR, hfin, by omega, hao, hsn', hwr⟩
      · have hlong' : ¬ (bl : Int) < (k : Int) + 1 + (x : Int) := by omega
        obtain ⟨pa, hpa, hfb, hsl, hslA⟩ := piece_of (W := wr) (b := b) (off := off) (bl := bl) (bc := bc) (bs := bs) k x hIr zb (by omega)
        obtain ⟨D, eD⟩ : ∃ D, D = recOf S L P ((bs.drop (k + 1)).take x) := ⟨_, rfl⟩
        rw [← eD] at HBad HNext
        have hDec0 := fun U (hU : Below wr.heap.size wr U) => decodeRecord_any S P ad n cp0 L pa x x ((bs.drop (k + 1)).take x) U (h.below (hwr.trans (hU.mono hwr.size))) (hpa.below hU) (fun b' o' e => Nat.lt_of_lt_of_le (hfb b' o' e) hU.size) (hm.below (hwr.trans (hU.mono hwr.size)) hgM) (ht.below (hwr.trans (hU.mono hwr.size)) hgT) (hwd.below (hwr.trans (hU.mono hwr.size)) hgW)
        rw [← eD] at hDec0
        clear eD
        have HDec : Hid (∀ U, Below wr.heap.size wr U → Calls Tryd.prog 61 #[.agg #[.int .i64 S, .slice ad n cp0, .int .i64 P], .slice pa x x] U fun e w' => DecRPost U w' e D) := hDec0
        clear hDec0 hpa hfb
        obtain ⟨⟨kind, site, num, key, value, ask, yes, sa0, sl, sc0, sites⟩, err⟩ := D
        have x0 := (hb.cell (p := ⟨w.heap.size, 0, none⟩) zW).trans d0
        have x1 := (hb.cell (p := ⟨w.heap.size, 1, none⟩) zW).trans d1
        have x2 := (hb.cell (p := ⟨w.heap.size, 2, none⟩) zW).trans d2
        have zr : w.heap.size < wr.heap.size := Nat.lt_of_lt_of_le zW hb.size
        have KA : Hid (∀ U : World, Below wr.heap.size wr U → U.cell? ⟨w.heap.size, 0, none⟩ = some (.int .i64 S) ∧ U.cell? ⟨w.heap.size, 1, none⟩ = some (.slice ad n cp0) ∧ U.cell? ⟨w.heap.size, 2, none⟩ = some (.int .i64 P)) := fun U hU =>
          ⟨(hU.cell (p := ⟨w.heap.size, 0, none⟩) zr).trans x0, (hU.cell (p := ⟨w.heap.size, 1, none⟩) zr).trans x1, (hU.cell (p := ⟨w.heap.size, 2, none⟩) zr).trans x2⟩
        have hD : Below wr.heap.size wr wr.drew := (Below.refl _ _).drew
        go_upto_region 6 with (fail)
        go_cut [9, 10] (fun s9 s10 wc => ∃ (q : Nat) (sa : Option Addr) (sc : Nat), s9 = .pointer (some ⟨q, 0, none⟩) ∧ s10 = .int .i64 err ∧ BoxN wc q 8 (RcV.cells ⟨kind, site, num, key, value, ask, yes, sa, sl, sc, sites⟩) ∧ IsInts wc sa sl sc sites ∧ (∀ b off, sa = some ⟨b, off, none⟩ → wr.heap.size ≤ b ∧ b < wc.heap.size) ∧ Below wr.heap.size wr wc)
        case first =>
          clear HLong HBad HNext
          go_region_held3 (fun U => U.cell? ⟨w.heap.size, 0, none⟩ = some (.int .i64 S) ∧ U.cell? ⟨w.heap.size, 1, none⟩ = some (.slice ad n cp0) ∧ U.cell? ⟨w.heap.size, 2, none⟩ = some (.int .i64 P))
            (exact KA.out _ (by (with_reducible repeat (first | exact hu3 | exact hD | exact Below.refl _ _ | refine bD ?_ | refine bA ?_ _ | refine bS ?_ (by omega) _)); done))
            ((go_at_call 61; refine (HDec.out _ (by (with_reducible repeat (first | exact hD | exact Below.refl _ _ | refine bD ?_ | refine bA ?_ _ | refine bS ?_ (by omega) _)); done)).mono ?_; rintro e u3 ⟨sa, sc, rfl, hIs, hnew, hb3'⟩; simp only [RcV.val]; have hu3 : Below wr.heap.size wr u3 := bT (by (with_reducible repeat (first | exact hD | exact Below.refl _ _ | refine bD ?_ | refine bA ?_ _ | refine bS ?_ (by omega) _)); done) hb3'; have z3 : wr.heap.size ≤ u3.heap.size := hu3.size; (first | (have bx3 : BoxN u3 wr.heap.size 8 [.int .i64 0, .int .i64 0, .int .i64 0, .int .i64 0, .int .i64 0, .int .i64 0, .bool false, .slice none 0 0] := (boxn_new wr.drew #[.int .i64 0, .int .i64 0, .int .i64 0, .int .i64 0, .int .i64 0, .int .i64 0, .bool false, .slice none 0 0] 56 8 rfl).below hb3' (by simp); have hne3 : ∀ b off, sa = some ⟨b, off, none⟩ → wr.heap.size ≠ b := fun b off e => Nat.ne_of_lt (Nat.lt_of_lt_of_le (by simp) (hnew b off e).1); have s0 : _ = some (Value.int .i64 0) := (bx3.c 0 (by omega)).1; have g0 := (bx3.c 0 (by omega)).2; have s1 : _ = some (Value.int .i64 0) := (bx3.c 1 (by omega)).1; have g1 := (bx3.c 1 (by omega)).2; have s2 : _ = some (Value.int .i64 0) := (bx3.c 2 (by omega)).1; have g2 := (bx3.c 2 (by omega)).2; have s3 : _ = some (Value.int .i64 0) := (bx3.c 3 (by omega)).1; have g3 := (bx3.c 3 (by omega)).2; have s4 : _ = some (Value.int .i64 0) := (bx3.c 4 (by omega)).1; have g4 := (bx3.c 4 (by omega)).2; have s5 : _ = some (Value.int .i64 0) := (bx3.c 5 (by omega)).1; have g5 := (bx3.c 5 (by omega)).2; have s6 : _ = some (Value.bool false) := (bx3.c 6 (by omega)).1; have g6 := (bx3.c 6 (by omega)).2; have s7 : _ = some (Value.slice none 0 0) := (bx3.c 7 (by omega)).1; have g7 := (bx3.c 7 (by omega)).2) | (have bx3 : BoxN u3 wr.heap.size 8 [.int .i64 0, .int .i64 0, .int .i64 0, .int .i64 0, .int .i64 0, .int .i64 0, .bool false, .slice none 0 0] := (boxn_new wr #[.int .i64 0, .int .i64 0, .int .i64 0, .int .i64 0, .int .i64 0, .int .i64 0, .bool false, .slice none 0 0] 56 8 rfl).below hb3' (by simp); have hne3 : ∀ b off, sa = some ⟨b, off, none⟩ → wr.heap.size ≠ b := fun b off e => Nat.ne_of_lt (Nat.lt_of_lt_of_le (by simp) (hnew b off e).1); have s0 : _ = some (Value.int .i64 0) := (bx3.c 0 (by omega)).1; have g0 := (bx3.c 0 (by omega)).2; have s1 : _ = some (Value.int .i64 0) := (bx3.c 1 (by omega)).1; have g1 := (bx3.c 1 (by omega)).2; have s2 : _ = some (Value.int .i64 0) := (bx3.c 2 (by omega)).1; have g2 := (bx3.c 2 (by omega)).2; have s3 : _ = some (Value.int .i64 0) := (bx3.c 3 (by omega)).1; have g3 := (bx3.c 3 (by omega)).2; have s4 : _ = some (Value.int .i64 0) := (bx3.c 4 (by omega)).1; have g4 := (bx3.c 4 (by omega)).2; have s5 : _ = some (Value.int .i64 0) := (bx3.c 5 (by omega)).1; have g5 := (bx3.c 5 (by omega)).2; have s6 : _ = some (Value.bool false) := (bx3.c 6 (by omega)).1; have g6 := (bx3.c 6 (by omega)).2; have s7 : _ = some (Value.slice none 0 0) := (bx3.c 7 (by omega)).1; have g7 := (bx3.c 7 (by omega)).2) | skip)))
          all_goals
            simp only [] at hIs
            have hG3 : ∀ b off, sa = some ⟨b, off, none⟩ → wr.heap.size ≤ b ∧ b < u3.heap.size := fun b off e => ⟨Nat.le_trans (by first | exact Nat.le_refl _ | (simp; done) | (simp; omega)) (hnew b off e).1, (hnew b off e).2⟩
            first
              | (have bxF := ((((((((bx3.set 0 (by omega) (.int .i64 kind)).set 1 (by omega) (.int .i64 site)).set 2 (by omega) (.int .i64 num)).set 3 (by omega) (.int .i64 key)).set 4 (by omega) (.int .i64 value)).set 5 (by omega) (.int .i64 ask)).set 6 (by omega) (.bool yes)).set 7 (by omega) (.slice sa sl sc)))
              | (have bxF : BoxN _ u3.heap.size 8 [.int .i64 kind, .int .i64 site, .int .i64 num, .int .i64 key, .int .i64 value, .int .i64 ask, .bool yes, .slice sa sl sc] := boxn_new u3 #[.int .i64 kind, .int .i64 site, .int .i64 num, .int .i64 key, .int .i64 value, .int .i64 ask, .bool yes, .slice sa sl sc] 56 8 rfl)
            go_wp2_with fail
            go_meet
            case rel => exact ⟨_, sa, sc, rfl, rfl, bxF, (by (with_reducible repeat (first | exact hIs | exact hne3 | refine isI_far ?_ ?_ | refine isI_alloc ?_ _)); done), (fun b off e => ⟨(hG3 b off e).1, Nat.lt_of_lt_of_le (hG3 b off e).2 (by simp)⟩), (by (with_reducible repeat (first | exact hu3 | exact hD | exact Below.refl _ _ | refine bD ?_ | refine bA ?_ _ | refine bS ?_ (by omega) _)); done)⟩
        case rest =>
          obtain ⟨q, sa, sc, rfl, rfl, bxF, hIs, hnew, bF⟩ := hcut
          obtain ⟨X, eX⟩ : ∃ X, X = wc := ⟨_, rfl⟩
          rw [← eX] at bxF hIs hnew bF ⊢
          clear eX
          have hwX := hwr.trans (bF.mono hwr.size)
          by_cases herr : err = 0
          · subst herr
            have hNx := HNext.out ⟨kind, site, num, key, value, ask, yes, sa, sl, sc, sites⟩ hlong rfl rfl
            have HNx : Hid (Left S L P bs (ys ++ [⟨kind, site, num, key, value, ask, yes, sa, sl, sc, sites⟩]) (k + 1 + x)) := hNx
            clear hNx HNext HBad HLong
            have qlt := bxF.lt
            have m0 : X.cell? ⟨q, 0, none⟩ = some (.int .i64 kind) := (bxF.c 0 (by omega)).1
            have m1 : X.cell? ⟨q, 1, none⟩ = some (.int .i64 site) := (bxF.c 1 (by omega)).1
            have m2 : X.cell? ⟨q, 2, none⟩ = some (.int .i64 num) := (bxF.c 2 (by omega)).1
            have m3 : X.cell? ⟨q, 3, none⟩ = some (.int .i64 key) := (bxF.c 3 (by omega)).1
            have m4 : X.cell? ⟨q, 4, none⟩ = some (.int .i64 value) := (bxF.c 4 (by omega)).1
            have m5 : X.cell? ⟨q, 5, none⟩ = some (.int .i64 ask) := (bxF.c 5 (by omega)).1
            have m6 : X.cell? ⟨q, 6, none⟩ = some (.bool yes) := (bxF.c 6 (by omega)).1
            have m7 : X.cell? ⟨q, 7, none⟩ = some (.slice sa sl sc) := (bxF.c 7 (by omega)).1
            have hOx := hO.below bF
            have hne : ∀ m, (Value.slice ao ys.length cp).ownBlock = some m → W.heap.size ≤ m ∧ m < wr.heap.size := fun m hm => hO.row.lt m hm
            have zX : W.heap.size ≤ X.heap.size := Nat.le_trans hb.size bF.size
            go_upto_region 9 with (at_builtin; refine wpList_append_lies _ (by rfl) (.tmp 40) (.tmp 42) 38 (by rfl) W.heap.size 56 i0 (.agg #[.int .i64 0, .int .i64 0, .int .i64 0, .int .i64 0, .int .i64 0, .int .i64 0, .bool false, .slice none 0 0]) 8 80 Tryd.underlying38 hi li0 li1 li2 rfl (by decide) (.slice ao ys.length cp) ys.length (flatRecs ys) (by rfl) (hOx.row.alloc _) ⟨X.heap.size, 0, none⟩ 1 1 (RcV.cells ⟨kind, site, num, key, value, ask, yes, sa, sl, sc, sites⟩) (by rfl) rfl (news_rec #[.int .i64 kind, .int .i64 site, .int .i64 num, .int .i64 key, .int .i64 value, .int .i64 ask, .bool yes, .slice sa sl sc] _ rfl) (rcells_one _) (by omega) (by unfold maxLen; omega) (by omega) (by simp; omega) _ rfl ?_; intro g5 c5 w5 own5 gr5 at5 lt5)
            have hOp := hO.push (y := ⟨kind, site, num, key, value, ask, yes, sa, sl, sc, sites⟩) (w1 := X.alloc (.cells #[.int .i64 kind, .int .i64 site, .int .i64 num, .int .i64 key, .int .i64 value, .int .i64 ask, .bool yes, .slice sa sl sc] 56)) (bA bF _) (isI_alloc hIs _) (fun b off e => ⟨(hnew b off e).1, Nat.lt_of_lt_of_le (hnew b off e).2 (by simp)⟩) own5 gr5 at5
            have hb5 : Below W.heap.size W w5 := bG (bA (bT hb bF) _) gr5 (fun k hk => (hne k hk).1)
            have hsz : ∀ y ∈ ys ++ [(⟨kind, site, num, key, value, ask, yes, sa, sl, sc, sites⟩ : RcV)], ∀ b off, y.sa = some ⟨b, off, none⟩ → W.heap.size ≤ b := fun y hy b off e => by
              rcases List.mem_append.1 hy with hy | hy
              · exact hsn y hy b off e
              · simp at hy; subst hy; have := (hnew b off e).1; have := hb.size; omega
            obtain ⟨zs, ezs⟩ : ∃ zs, zs = ys ++ [(⟨kind, site, num, key, value, ask, yes, sa, sl, sc, sites⟩ : RcV)] := ⟨_, rfl⟩
            have elz : Hid (zs.length = ys.length + 1) := by rw [ezs]; show _ = _; simp
            rw [← ezs] at hOp HNx hsz
            clear ezs
            go_wp2
            go_roundw
            case rel =>
              refine ⟨some ⟨g5, 0, none⟩, c5, zs, k + 1 + x, ?_, by go_num, by omega, ?_, ?_, HNx, hsz, hb5⟩
              · rw [elz.out]
              · rw [elz.out]; omega
              · rw [elz.out]; exact hOp
            case measure => simp [intOf]; omega
          · have hfin := HBad.out hlong herr
            have hR : IsRecs X ao ys.length cp ys := (hO.below bF).isRecs.2
            clear HLong HBad HNext
            go_wp2
            go_ret2
            exact ⟨ao, cp, ys, k, rfl, hR, hfin, by omega, hao, hsn', hwX⟩
    · have hfin := left_end hleft.out (by have := HL.out; omega)
      have hlt' : ¬ (k : Int) < (bl : Int) := by omega
      have hR : IsRecs wr ao ys.length cp ys := hO.isRecs.2
      go_wp2
      go_ret2
      exact ⟨ao, cp, ys, k, rfl, hR, hfin, by omega, hao, hsn', hwr⟩
end Go.Proofs.YtflfcjbgkpfgkaaDoor
