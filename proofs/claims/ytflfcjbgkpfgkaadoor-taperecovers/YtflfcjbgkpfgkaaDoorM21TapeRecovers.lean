/- Texts of this claim, one behind the other. -/
import Derived.Test.YtflfcjbgkpfgkaaDoorM7TapeRecovers
import Derived.Test.YtflfcjbgkpfgkaaDoorM20TapeRecovers
/- The contract of tape.cut: the first bytes, in new memory. -/
namespace Go.Proofs.YtflfcjbgkpfgkaaDoor
open Go.ChangeShapes Go.WideShapes Go.ChangeAt Go.RowKit
set_option linter.unusedVariables false

theorem grown_none {w w' : World} (h : w.grownBy w' none) : Below w.heap.size w w' := by
  refine (Below.refl w.heap.size w).grown h (Nat.le_refl _) (fun k hk => by cases hk)

theorem cut_any (a : Option Addr) (len cap : Nat) (bs : List Int) (n : Nat) (w : World) (h : IsB w a len cap bs) (hl : len ≤ 140737488355328) (hn : n ≤ len) :
    Calls Tryd.prog 35 #[.slice a len cap, .int .i64 n] w fun e w' => ∃ a', e = .returned (.slice a' n n) ∧ IsB w' a' n n (bs.take n) ∧ Below w.heap.size w w' ∧ (∀ b off, a' = some ⟨b, off, none⟩ → w.heap.size ≤ b) := by
  go_enter Tryd.func35, Tryd.ntmps35
  go_wp2_with (at_builtin; go_loud (refine wpList_append_bytes (by rfl) _ _ (by rfl) w.heap.size (.slice none 0 0) 0 [] (by rfl) (World.ownsRow_nil _ _ _ _) a len cap bs (by rfl) h (by omega) (Nat.le_refl _) ?_))
  intro v' w1 hown hgrow hat
  obtain ⟨a', cap', rfl, hB, hge, _⟩ := isB_own hown (by simpa using h.2.2.2.1)
  have hbel := grown_none hgrow
  have hc : n ≤ cap' := Nat.le_trans hn hB.2.1
  go_wp2
  go_ret
  exact ⟨a', rfl, hB.take n n hn (Nat.le_refl _) hc, hbel, hge⟩
end Go.Proofs.YtflfcjbgkpfgkaaDoor
/- Contracts of tape.Recover: of a tape that may be, the records that are whole and the tape without what is behind them; of another one the fault. -/
namespace Go.Proofs.YtflfcjbgkpfgkaaDoor
open Go.ChangeShapes Go.WideShapes Go.ChangeAt Go.RowKit
set_option linter.unusedVariables false

theorem isRecs_set {w : World} {a : Option Addr} {len cap : Nat} {ys : List RcV} {c k : Nat} {v : Value} (h : IsRecs w a len cap ys) (ha : ∀ b off, a = some ⟨b, off, none⟩ → b ≠ c) (hs : ∀ y ∈ ys, ∀ b off, y.sa = some ⟨b, off, none⟩ → b ≠ c) : IsRecs (w.setCell ⟨c, k, none⟩ v) a len cap ys := by
  obtain ⟨h1, h2, h3, h4, h5⟩ := h
  refine ⟨h1, h2, h3, fun y hy => isI_far (h4 y hy) (fun b off e => (hs y hy b off e).symm), fun hp => ?_⟩
  obtain ⟨b, off, e, hl, hc⟩ := h5 hp
  refine ⟨b, off, e, by simpa using hl, fun i hi j hj => ?_⟩
  rw [World.cell?_of_block (a := ⟨b, off + i * 8 + j, none⟩) (Below.heap_setCell w ⟨c, k, none⟩ v b (ha b off e))]
  exact hc i hi j hj

set_option maxHeartbeats 4000000 in
set_option maxRecDepth 100000 in
theorem recover_ok (S P : Int) (ad : Option Addr) (n cp0 : Nat) (L : List (Int × Int)) (ta : Option Addr) (tl tc : Nat) (bs : List Int) (y : Int) (w : World) (h : IsLabs w ad n cp0 L) (hT : IsB w ta tl tc bs) (hmy : mayT tl y = true) (hcf : cfgFault S L P = 0) (hm : HasAt w 1 rHas) (ht : TopsAt w) (hwd : WidsAt w) :
    Calls Tryd.prog 10 #[.agg #[.int .i64 S, .slice ad n cp0, .int .i64 P], .agg #[.slice ta tl tc, .int .i64 y]] w fun e w' => ∃ (ao : Option Addr) (cp : Nat) (ys : List RcV) (q : Nat) (ua : Option Addr) (z : Int),
      e = .returned (.tuple #[.slice ao ys.length cp, .agg #[.slice ua q q, .int .i64 z], .int .i64 0]) ∧ IsRecs w' ao ys.length cp ys ∧ AllOf S L P bs ys q ∧ q ≤ tl ∧ IsB w' ua q q (bs.take q) ∧ z = (if (q : Int) < y then (q : Int) else y) ∧ (∀ b off, ua = some ⟨b, off, none⟩ → w.heap.size ≤ b) ∧ (∀ b off, ao = some ⟨b, off, none⟩ → w.heap.size ≤ b) ∧ (∀ y ∈ ys, ∀ b off, y.sa = some ⟨b, off, none⟩ → w.heap.size ≤ b) ∧ Below w.heap.size w w' := by
  have hgT : 3 < w.heap.size := World.block_lt_of_cell? w _ ht.1
  have hgM : 1 < w.heap.size := hm.lt (by decide)
  have hgW : 2 < w.heap.size := hwd.lt
  have hmm := mayT_of hmy
  have hl : tl ≤ 9223372036854775807 := by omega
  have hl6 : tl ≤ 6000 := by omega
  have hCk := fun w' h1 => check_any S P ad n cp0 L w' h1
  rw [hcf] at hCk
  have hWh := fun w' h1 h2 h3 h4 h5 => whole_any S P ad n cp0 L ta tl tc bs w' h1 h2 hl6 h3 h4 h5
  obtain ⟨W, hW⟩ : ∃ W : World, W = ((w.alloc (.cells #[.int .i64 S, .slice ad n cp0, .int .i64 P] 24)).alloc (.cells #[.slice ta tl tc, .int .i64 y] 36)).alloc (.cells #[.slice none 0 0, .int .i64 0] 36) := ⟨_, rfl⟩
  have hB : Below w.heap.size w W := by rw [hW]; exact (((Below.refl _ _).alloc (Nat.le_refl _) _).alloc (by simp) _).alloc (by simp; omega) _
  have zW : W.heap.size = w.heap.size + 3 := by rw [hW]; simp
  have d0 : W.cell? ⟨w.heap.size, 0, none⟩ = some (.int .i64 S) := by rw [hW]; go_simp
  have d1 : W.cell? ⟨w.heap.size, 1, none⟩ = some (.slice ad n cp0) := by rw [hW]; go_simp
  have d2 : W.cell? ⟨w.heap.size, 2, none⟩ = some (.int .i64 P) := by rw [hW]; go_simp
  have d3 : W.cell? ⟨w.heap.size + 1, 0, none⟩ = some (.slice ta tl tc) := by rw [hW]; go_simp
  have d4 : W.cell? ⟨w.heap.size + 1, 1, none⟩ = some (.int .i64 y) := by rw [hW]; go_simp
  have d5 : W.cell? ⟨w.heap.size + 2, 0, none⟩ = some (.slice none 0 0) := by rw [hW]; go_simp
  have d6 : W.cell? ⟨w.heap.size + 2, 1, none⟩ = some (.int .i64 0) := by rw [hW]; go_simp
  have f0 : W.frozen? ⟨w.heap.size + 2, 0, none⟩ = false := by rw [hW]; go_simp
  have f1 : W.frozen? ⟨w.heap.size + 2, 1, none⟩ = false := by rw [hW]; go_simp
  have z0 : w.heap.size < W.heap.size := by omega
  have z1 : w.heap.size + 1 < W.heap.size := by omega
  have z2 : w.heap.size + 2 < W.heap.size := by omega
  clear zW
  have KC : Hid (∀ V : World, Below W.heap.size W V → (V.cell? ⟨w.heap.size, 0, none⟩ = some (.int .i64 S) ∧ V.cell? ⟨w.heap.size, 1, none⟩ = some (.slice ad n cp0) ∧ V.cell? ⟨w.heap.size, 2, none⟩ = some (.int .i64 P) ∧ V.cell? ⟨w.heap.size + 1, 0, none⟩ = some (.slice ta tl tc) ∧ V.cell? ⟨w.heap.size + 1, 1, none⟩ = some (.int .i64 y) ∧ V.cell? ⟨w.heap.size + 2, 0, none⟩ = some (.slice none 0 0) ∧ V.cell? ⟨w.heap.size + 2, 1, none⟩ = some (.int .i64 0)) ∧ V.frozen? ⟨w.heap.size + 2, 0, none⟩ = false ∧ V.frozen? ⟨w.heap.size + 2, 1, none⟩ = false) := fun V hV =>
    ⟨⟨(hV.cell (p := ⟨w.heap.size, 0, none⟩) z0).trans d0, (hV.cell (p := ⟨w.heap.size, 1, none⟩) z0).trans d1, (hV.cell (p := ⟨w.heap.size, 2, none⟩) z0).trans d2, (hV.cell (p := ⟨w.heap.size + 1, 0, none⟩) z1).trans d3, (hV.cell (p := ⟨w.heap.size + 1, 1, none⟩) z1).trans d4, (hV.cell (p := ⟨w.heap.size + 2, 0, none⟩) z2).trans d5, (hV.cell (p := ⟨w.heap.size + 2, 1, none⟩) z2).trans d6⟩, (hV.frozen (p := ⟨w.heap.size + 2, 0, none⟩) z2).trans f0, (hV.frozen (p := ⟨w.heap.size + 2, 1, none⟩) z2).trans f1⟩
  have HS : Hid (∀ V : World, Below W.heap.size W V → IsLabs V ad n cp0 L ∧ IsB V ta tl tc bs ∧ HasAt V 1 rHas ∧ TopsAt V ∧ WidsAt V) := fun V hV => by
    have hv := hB.trans (hV.mono hB.size)
    exact ⟨h.below hv, hT.below hv, hm.below hv hgM, ht.below hv hgT, hwd.below hv hgW⟩
  clear hm ht hwd
  go_enter Tryd.func10, Tryd.ntmps10
  go_upto_region 1 with (fail)
  rw [← hW]
  clear hW
  go_upto_region 3 with (go_at_call 33; refine (mayBe_any _ _ _ _ _ hl).mono ?_; rintro e w1 ⟨rfl, hb1⟩; rw [hmy])
  clear d0 d1 d2 d3 d4 d5 d6 f0 f1
  obtain ⟨⟨d0, d1, d2, d3, d4, d5, d6⟩, f0, f1⟩ := KC.out _ hb1
  go_upto_region 6 with (go_at_call 23; refine (hCk _ (HS.out _ hb1).1).mono ?_; rintro e w2 ⟨rfl, hb2'⟩; have hb2 : Below W.heap.size W w2 := hb1.trans (hb2'.mono hb1.size))
  clear d0 d1 d2 d3 d4 d5 d6 f0 f1
  obtain ⟨⟨d0, d1, d2, d3, d4, d5, d6⟩, f0, f1⟩ := KC.out _ hb2
  obtain ⟨s1, s2, s3, s4, s5⟩ := HS.out _ hb2
  go_upto_region 7 with (go_at_call 34; refine (hWh _ s1 s2 s3 s4 s5).mono ?_; rintro e w3 ⟨ao, cp, ys, q, rfl, hR, hall, hq, hao, hsn, hb3'⟩; have hb3 : Below W.heap.size W w3 := hb2.trans (hb3'.mono hb2.size))
  clear d0 d1 d2 d3 d4 d5 d6 f0 f1
  obtain ⟨⟨d0, d1, d2, d3, d4, d5, d6⟩, f0, f1⟩ := KC.out _ hb3
  have hIB3 := (HS.out _ hb3).2.1
  have hD : Below w3.heap.size w3 w3.drew := (Below.refl _ _).drew
  have hD3 : Below W.heap.size W w3.drew := hb3.trans (hD.mono hb3.size)
  have hsz := hb3.size
  have hCut := fun U (hU : Below w3.heap.size w3 U) => cut_any ta tl tc bs q U (hIB3.below hU) (by omega) hq
  have HCut : Hid (∀ U, Below w3.heap.size w3 U → Calls Tryd.prog 35 #[.slice ta tl tc, .int .i64 q] U fun e w' => ∃ a', e = .returned (.slice a' q q) ∧ IsB w' a' q q (bs.take q) ∧ Below U.heap.size U w' ∧ (∀ b off, a' = some ⟨b, off, none⟩ → U.heap.size ≤ b)) := hCut
  clear hCut
  have hW2 : w.heap.size + 2 < w2.heap.size := Nat.lt_of_lt_of_le z2 hb2.size
  have hfinal : ∀ (w4 : World) (a' : Option Addr), Below w3.heap.size w3 w4 → IsB w4 a' q q (bs.take q) → (∀ b off, a' = some ⟨b, off, none⟩ → w3.heap.size ≤ b) → ∀ u v : Value, IsRecs ((w4.setCell ⟨w.heap.size + 2, 0, none⟩ u).setCell ⟨w.heap.size + 2, 1, none⟩ v) ao ys.length cp ys ∧ IsB ((w4.setCell ⟨w.heap.size + 2, 0, none⟩ u).setCell ⟨w.heap.size + 2, 1, none⟩ v) a' q q (bs.take q) ∧ Below w.heap.size w ((w4.setCell ⟨w.heap.size + 2, 0, none⟩ u).setCell ⟨w.heap.size + 2, 1, none⟩ v) := fun w4 a' h4 hb4 hge u v => by
    have hne : ∀ b off, a' = some ⟨b, off, none⟩ → b ≠ w.heap.size + 2 := fun b off e => by have := hge b off e; omega
    have hw4 := hB.trans ((hb3.trans (h4.mono hb3.size)).mono hB.size)
    have hR4 := hR.below h4
    exact ⟨isRecs_set (isRecs_set hR4 (fun b off e => by have := hao b off e; omega) (fun y hy b off e => by have := hsn y hy b off e; omega)) (fun b off e => by have := hao b off e; omega) (fun y hy b off e => by have := hsn y hy b off e; omega), (hb4.set _ _ hne).set _ _ hne, (hw4.setCell (by simp) _).setCell (by simp) _⟩
  have hq0 : (q : Int) ≤ 6000 := by omega
  by_cases hyq : (q : Int) < y
  · have hyq' : ¬ y ≤ (q : Int) := by omega
    have hyq2 : ¬ y < (q : Int) := by omega
    have hyq3 : (q : Int) ≤ y := by omega
    have eZ : (if (q : Int) < y then (q : Int) else y) = (q : Int) := if_pos hyq
    go_region_held3 (fun V => V.cell? ⟨w.heap.size + 1, 0, none⟩ = some (.slice ta tl tc) ∧ V.cell? ⟨w.heap.size + 1, 1, none⟩ = some (.int .i64 y))
      (first | (go_keep; done) | exact ⟨(KC.out _ hW4).1.2.2.2.1, (KC.out _ hW4).1.2.2.2.2.1⟩ | exact ⟨(KC.out _ hD3).1.2.2.2.1, (KC.out _ hD3).1.2.2.2.2.1⟩ | exact ⟨(KC.out _ hb3).1.2.2.2.1, (KC.out _ hb3).1.2.2.2.2.1⟩)
      ((go_at_call 35; refine (HCut.out _ hD).mono ?_; rintro e w4 ⟨a', rfl, hB4, hb4', hge⟩; have hb4 : Below w3.heap.size w3 w4 := hD.trans (hb4'.mono hD.size); have hW4 : Below W.heap.size W w4 := hb3.trans (hb4.mono hb3.size); obtain ⟨⟨e0, e1, e2, e3, e4, e5, e6⟩, g0, g1⟩ := KC.out _ hW4))
    all_goals
      have hge' : ∀ b off, a' = some ⟨b, off, none⟩ → w3.heap.size ≤ b := fun b off e => by have := hge b off e; simpa using this
      go_wp2
      (try simp only [if_pos hyq])
      refine bodyPost_ret (v := .tuple #[.slice ao ys.length cp, .agg #[.slice a' q q, .int .i64 ((q : Int))], .int .i64 0]) (by simp [results, Tryd.results10, go_sem, e5, e6]; first | done | rfl) rfl ⟨ao, cp, ys, q, a', (q : Int), rfl, (hfinal w4 a' hb4 hB4 hge' _ _).1, hall, hq, (hfinal w4 a' hb4 hB4 hge' _ _).2.1, eZ.symm, fun b off e => by have := hge' b off e; omega, fun b off e => by have := hao b off e; omega, fun y hy b off e => by have := hsn y hy b off e; omega, (hfinal w4 a' hb4 hB4 hge' _ _).2.2⟩
  · have hyq' : y ≤ (q : Int) := by omega
    have eZ : (if (q : Int) < y then (q : Int) else y) = y := if_neg hyq
    by_cases hyq2 : y < (q : Int)
    · have hyq3 : ¬ (q : Int) ≤ y := by omega
      go_region_held3 (fun V => V.cell? ⟨w.heap.size + 1, 0, none⟩ = some (.slice ta tl tc) ∧ V.cell? ⟨w.heap.size + 1, 1, none⟩ = some (.int .i64 y))
        (first | (go_keep; done) | exact ⟨(KC.out _ hW4).1.2.2.2.1, (KC.out _ hW4).1.2.2.2.2.1⟩ | exact ⟨(KC.out _ hD3).1.2.2.2.1, (KC.out _ hD3).1.2.2.2.2.1⟩ | exact ⟨(KC.out _ hb3).1.2.2.2.1, (KC.out _ hb3).1.2.2.2.2.1⟩)
        ((go_at_call 35; refine (HCut.out _ hD).mono ?_; rintro e w4 ⟨a', rfl, hB4, hb4', hge⟩; have hb4 : Below w3.heap.size w3 w4 := hD.trans (hb4'.mono hD.size); have hW4 : Below W.heap.size W w4 := hb3.trans (hb4.mono hb3.size); obtain ⟨⟨e0, e1, e2, e3, e4, e5, e6⟩, g0, g1⟩ := KC.out _ hW4))
      all_goals
        have hge' : ∀ b off, a' = some ⟨b, off, none⟩ → w3.heap.size ≤ b := fun b off e => by have := hge b off e; simpa using this
        go_wp2
        (try simp only [if_neg hyq])
        refine bodyPost_ret (v := .tuple #[.slice ao ys.length cp, .agg #[.slice a' q q, .int .i64 (y)], .int .i64 0]) (by simp [results, Tryd.results10, go_sem, e5, e6]; first | done | rfl) rfl ⟨ao, cp, ys, q, a', y, rfl, (hfinal w4 a' hb4 hB4 hge' _ _).1, hall, hq, (hfinal w4 a' hb4 hB4 hge' _ _).2.1, eZ.symm, fun b off e => by have := hge' b off e; omega, fun b off e => by have := hao b off e; omega, fun y hy b off e => by have := hsn y hy b off e; omega, (hfinal w4 a' hb4 hB4 hge' _ _).2.2⟩
    · have hyq3 : (q : Int) ≤ y := by omega
      go_region_held3 (fun V => V.cell? ⟨w.heap.size + 1, 0, none⟩ = some (.slice ta tl tc) ∧ V.cell? ⟨w.heap.size + 1, 1, none⟩ = some (.int .i64 y))
        (first | (go_keep; done) | exact ⟨(KC.out _ hW4).1.2.2.2.1, (KC.out _ hW4).1.2.2.2.2.1⟩ | exact ⟨(KC.out _ hD3).1.2.2.2.1, (KC.out _ hD3).1.2.2.2.2.1⟩ | exact ⟨(KC.out _ hb3).1.2.2.2.1, (KC.out _ hb3).1.2.2.2.2.1⟩)
        ((go_at_call 35; refine (HCut.out _ hD).mono ?_; rintro e w4 ⟨a', rfl, hB4, hb4', hge⟩; have hb4 : Below w3.heap.size w3 w4 := hD.trans (hb4'.mono hD.size); have hW4 : Below W.heap.size W w4 := hb3.trans (hb4.mono hb3.size); obtain ⟨⟨e0, e1, e2, e3, e4, e5, e6⟩, g0, g1⟩ := KC.out _ hW4))
      all_goals
        have hge' : ∀ b off, a' = some ⟨b, off, none⟩ → w3.heap.size ≤ b := fun b off e => by have := hge b off e; simpa using this
        go_wp2
        (try simp only [if_neg hyq])
        refine bodyPost_ret (v := .tuple #[.slice ao ys.length cp, .agg #[.slice a' q q, .int .i64 (y)], .int .i64 0]) (by simp [results, Tryd.results10, go_sem, e5, e6]; first | done | rfl) rfl ⟨ao, cp, ys, q, a', y, rfl, (hfinal w4 a' hb4 hB4 hge' _ _).1, hall, hq, (hfinal w4 a' hb4 hB4 hge' _ _).2.1, eZ.symm, fun b off e => by have := hge' b off e; omega, fun b off e => by have := hao b off e; omega, fun y hy b off e => by have := hsn y hy b off e; omega, (hfinal w4 a' hb4 hB4 hge' _ _).2.2⟩
end Go.Proofs.YtflfcjbgkpfgkaaDoor
/- The document's side of the small functions of tapes. -/
namespace Go.Proofs.YtflfcjbgkpfgkaaDoor
open Go.ChangeShapes Go.WideShapes Go.ChangeAt Go.RowKit
set_option linter.unusedVariables false

theorem inRefT_any (n lo hi : Int) (w : World) :
    Calls Tryd.prog 57 #[.int .i64 n, .int .i64 lo, .int .i64 hi] w fun e w' => e = .returned (.bool (inT n lo hi)) ∧ w' = w := by
  go_enter Tryd.func57, Tryd.ntmps57
  go_wp2
  all_goals go_ret
  all_goals exact ⟨ret_bool (by unfold inT; rw [Bool.eq_iff_iff]; simp; omega), rfl⟩

theorem tapeMay_any (a : Option Addr) (len cap : Nat) (y : Int) (w : World) (hl : len ≤ 9223372036854775807) :
    Calls Tryd.prog 36 #[.agg #[.slice a len cap, .int .i64 y]] w fun e w' => e = .returned (.bool (mayT len y)) ∧ Below w.heap.size w w' := by
  have hA : Below w.heap.size w (w.alloc (.cells #[.slice a len cap, .int .i64 y] 36)) := (Below.refl _ _).alloc (Nat.le_refl _) _
  by_cases h6 : (len : Int) ≤ 6000
  · have e : mayT len y = inT y 0 len := by unfold mayT inT; rw [Bool.eq_iff_iff]; simp; omega
    rw [e]
    clear e
    go_enter Tryd.func36, Tryd.ntmps36
    go_wp2_with (go_at_call 57; refine (inRefT_any _ _ _ _).mono ?_; rintro e w1 ⟨rfl, hu1⟩; rw [hu1]; clear hu1)
    go_ret
    exact ⟨rfl, hA⟩
  · have e : mayT len y = false := by unfold mayT; simp; omega
    rw [e]
    clear e
    go_enter Tryd.func36, Tryd.ntmps36
    go_wp2
    go_ret
    exact ⟨rfl, hA⟩
end Go.Proofs.YtflfcjbgkpfgkaaDoor
