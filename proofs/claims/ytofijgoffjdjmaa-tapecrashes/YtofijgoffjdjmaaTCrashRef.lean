/- The document's side of tape.Crash. -/
import Derived.Test.YtofijgoffjdjmaaTCrash
import Derived.Test.YtofijgoffjdjmaaTSmallRef
import Derived.Test.YtofijgoffjdjmaaJoined
namespace Go.Proofs.Ytofijgoffjdjmaa
open Go.ChangeShapes Go.WideShapes Go.ChangeAt Go.RowKit
set_option linter.unusedVariables false

theorem tapeCrashed_any (a : Option Addr) (len cap : Nat) (bs : List Int) (y keep : Int) (w : World) (h : IsB w a len cap bs) (hk : -9223372036854775808 ≤ keep ∧ keep ≤ 9223372036854775807) :
    Calls Try.prog 13 #[.agg #[.slice a len cap, .int .i64 y], .int .i64 keep] w fun e w' => TapeAns w w' e (crBs len y keep bs) (crY len y keep) (crErr len y keep) := by
  have hl : len ≤ 9223372036854775807 := by have := h.2.1; have := h.2.2.1; unfold maxLen at this; omega
  obtain ⟨W, hW⟩ : ∃ W : World, W = (w.alloc (.cells #[.slice a len cap, .int .i64 y] 24)).alloc (.cells #[.slice none 0 0, .int .i64 0] 24) := ⟨_, rfl⟩
  have hB : Below w.heap.size w W := by rw [hW]; exact ((Below.refl _ _).alloc (Nat.le_refl _) _).alloc (by simp) _
  have zW : W.heap.size = w.heap.size + 2 := by rw [hW]; simp
  have d0 : W.cell? ⟨w.heap.size, 0, none⟩ = some (.slice a len cap) := by rw [hW]; go_simp
  have d1 : W.cell? ⟨w.heap.size, 1, none⟩ = some (.int .i64 y) := by rw [hW]; go_simp
  have r0 : W.cell? ⟨w.heap.size + 1, 0, none⟩ = some (.slice none 0 0) := by rw [hW]; go_simp
  have r1 : W.cell? ⟨w.heap.size + 1, 1, none⟩ = some (.int .i64 0) := by rw [hW]; go_simp
  have f0 : W.frozen? ⟨w.heap.size + 1, 0, none⟩ = false := by rw [hW]; go_simp
  have f1 : W.frozen? ⟨w.heap.size + 1, 1, none⟩ = false := by rw [hW]; go_simp
  have KC : Hid (∀ V : World, Below W.heap.size W V → V.cell? ⟨w.heap.size, 0, none⟩ = some (.slice a len cap) ∧ V.cell? ⟨w.heap.size, 1, none⟩ = some (.int .i64 y) ∧ V.cell? ⟨w.heap.size + 1, 0, none⟩ = some (.slice none 0 0) ∧ V.cell? ⟨w.heap.size + 1, 1, none⟩ = some (.int .i64 0) ∧ V.frozen? ⟨w.heap.size + 1, 0, none⟩ = false ∧ V.frozen? ⟨w.heap.size + 1, 1, none⟩ = false) := by
    intro V hV
    exact ⟨(hV.cell (p := ⟨w.heap.size, 0, none⟩) (by show w.heap.size < _; omega)).trans d0, (hV.cell (p := ⟨w.heap.size, 1, none⟩) (by show w.heap.size < _; omega)).trans d1, (hV.cell (p := ⟨w.heap.size + 1, 0, none⟩) (by show w.heap.size + 1 < _; omega)).trans r0, (hV.cell (p := ⟨w.heap.size + 1, 1, none⟩) (by show w.heap.size + 1 < _; omega)).trans r1, (hV.frozen (p := ⟨w.heap.size + 1, 0, none⟩) (by show w.heap.size + 1 < _; omega)).trans f0, (hV.frozen (p := ⟨w.heap.size + 1, 1, none⟩) (by show w.heap.size + 1 < _; omega)).trans f1⟩
  cases hm : mayT len y with
  | true =>
    have hmm := mayT_of hm
    have h6 : (len : Int) ≤ 6000 := by omega
    by_cases hk0 : keep < 0
    · have e1 : crErr len y keep = 2 := by unfold crErr; rw [hm]; simp [hk0]
      have e2 : crBs len y keep bs = [] := by unfold crBs; rw [e1]; simp
      have e3 : crY len y keep = 0 := by unfold crY; rw [e1]; simp
      rw [e1, e2, e3]
      go_enter Try.func13, Try.ntmps13
      go_upto_region 1 with (fail)
      rw [← hW]
      clear hW
      go_upto_region 4 with (go_at_call 15; refine (tapeMay_any _ _ _ _ _ hl).mono ?_; rintro e w1 ⟨rfl, hb1⟩; rw [hm])
      clear d0 d1 r0 r1 f0 f1
      obtain ⟨k0, k1, k2, k3, k4, k5⟩ := KC.out _ hb1
      go_wp2
      refine bodyPost_ret (v := .tuple #[.agg #[.slice none 0 0, .int .i64 0], .int .i64 2]) (by simp [results, Try.results13, go_sem, k2, k3]) rfl ⟨none, 0, 0, rfl, isB_nil _, fun b off e => by simp at e, ?_⟩
      exact ((hB.trans (hb1.mono hB.size)).setCell (by simp) _).setCell (by simp) _
    · have e1 : crErr len y keep = 0 := by unfold crErr; rw [hm]; simp [hk0]
      have e2 : crBs len y keep bs = bs.take (crN len y keep) := by unfold crBs; rw [e1]; simp
      have e3 : crY len y keep = (crN len y keep : Int) := by unfold crY; rw [e1]; simp
      rw [e1, e2, e3]
      have hnl := crN_le hm (by omega : 0 ≤ keep)
      by_cases hlt : keep < (len : Int) - y
      · have hmin : Hid ((y + keep) = (crN len y keep : Int)) := by show _ = _; unfold crN; rw [if_pos hlt]; omega
        obtain ⟨n, hn⟩ : ∃ n, n = crN len y keep := ⟨_, rfl⟩
        rw [← hn] at hmin hnl ⊢
        clear hn e1 e2 e3
        go_enter Try.func13, Try.ntmps13
        go_upto_region 1 with (fail)
        rw [← hW]
        clear hW
        go_upto_region 5 with (go_at_call 15; refine (tapeMay_any _ _ _ _ _ hl).mono ?_; rintro e w1 ⟨rfl, hb1⟩; rw [hm])
        clear d0 d1 r0 r1 f0 f1
        obtain ⟨k0, k1, k2, k3, k4, k5⟩ := KC.out _ hb1
        have hIB := h.below (hB.trans (hb1.mono hB.size))
        go_upto_region 8 with (fail)
        rw [hmin.out]
        clear hmin
        have hsz := hb1.size
        have hnc : n ≤ cap := Nat.le_trans hnl h.2.1
        have hnc' : (n : Int) ≤ cap := by omega
        have htk := hIB.take n cap hnl hnc (Nat.le_refl _)
        have hone := isBs_one w1 a n cap (bs.take n) htk
        have hA : Below w1.heap.size w1 (w1.alloc (.cells #[.slice a n cap] 22)) := (Below.refl _ _).alloc (Nat.le_refl _) _
        have hlenT : (bs.take n).length = n := htk.1
        have hcat : (catB [⟨a, n, cap, bs.take n⟩]).length ≤ 140737488355328 := by simp [catB]; omega
        go_wp2_with (go_at_call 18; refine (joined_any _ 1 [⟨a, n, cap, bs.take n⟩] _ hone (by omega) hcat).mono ?_; rintro e w2 ⟨v', rfl, hown, hb2⟩; obtain ⟨a', cap', rfl, hB2, hge, _⟩ := isB_own hown (by simpa [catB] using h.2.2.2.1.take n); have hW2 : Below W.heap.size W w2 := hb1.trans ((hA.trans (hb2.mono hA.size)).mono hsz); obtain ⟨j0, j1, j2, j3, j4, j5⟩ := KC.out _ hW2)
        have e2 : catB [⟨a, n, cap, bs.take n⟩] = bs.take n := by simp [catB]
        have e3 : (catB [⟨a, n, cap, bs.take n⟩]).length = n := by rw [e2]; exact hlenT
        have hge' : ∀ b off, a' = some ⟨b, off, none⟩ → w.heap.size + 1 < b := fun b off e => by have := hge b off e; simp at this; omega
        have hne : ∀ b off, a' = some ⟨b, off, none⟩ → b ≠ w.heap.size + 1 := fun b off e => by have := hge' b off e; omega
        rw [e3, e2] at hB2
        refine bodyPost_ret (v := .tuple #[.agg #[.slice a' n cap', .int .i64 n], .int .i64 0]) (by simp [results, Try.results13, go_sem, j2, j3]; first | done | (simp [e3])) rfl ⟨a', n, cap', rfl, ?_, fun b off e => by have := hge' b off e; omega, ?_⟩
        · first | exact (hB2.set _ _ hne).set _ _ hne | (simp only [e3]; exact (hB2.set _ _ hne).set _ _ hne)
        · exact ((hB.trans (hW2.mono hB.size)).setCell (by simp) _).setCell (by simp) _
      · have hmin : Hid ((len : Int) = (crN len y keep : Int)) := by show _ = _; unfold crN; rw [if_neg hlt]
        obtain ⟨n, hn⟩ : ∃ n, n = crN len y keep := ⟨_, rfl⟩
        rw [← hn] at hmin hnl ⊢
        clear hn e1 e2 e3
        go_enter Try.func13, Try.ntmps13
        go_upto_region 1 with (fail)
        rw [← hW]
        clear hW
        go_upto_region 5 with (go_at_call 15; refine (tapeMay_any _ _ _ _ _ hl).mono ?_; rintro e w1 ⟨rfl, hb1⟩; rw [hm])
        clear d0 d1 r0 r1 f0 f1
        obtain ⟨k0, k1, k2, k3, k4, k5⟩ := KC.out _ hb1
        have hIB := h.below (hB.trans (hb1.mono hB.size))
        go_upto_region 8 with (fail)
        rw [hmin.out]
        clear hmin
        have hsz := hb1.size
        have hnc : n ≤ cap := Nat.le_trans hnl h.2.1
        have hnc' : (n : Int) ≤ cap := by omega
        have htk := hIB.take n cap hnl hnc (Nat.le_refl _)
        have hone := isBs_one w1 a n cap (bs.take n) htk
        have hA : Below w1.heap.size w1 (w1.alloc (.cells #[.slice a n cap] 22)) := (Below.refl _ _).alloc (Nat.le_refl _) _
        have hlenT : (bs.take n).length = n := htk.1
        have hcat : (catB [⟨a, n, cap, bs.take n⟩]).length ≤ 140737488355328 := by simp [catB]; omega
        go_wp2_with (go_at_call 18; refine (joined_any _ 1 [⟨a, n, cap, bs.take n⟩] _ hone (by omega) hcat).mono ?_; rintro e w2 ⟨v', rfl, hown, hb2⟩; obtain ⟨a', cap', rfl, hB2, hge, _⟩ := isB_own hown (by simpa [catB] using h.2.2.2.1.take n); have hW2 : Below W.heap.size W w2 := hb1.trans ((hA.trans (hb2.mono hA.size)).mono hsz); obtain ⟨j0, j1, j2, j3, j4, j5⟩ := KC.out _ hW2)
        have e2 : catB [⟨a, n, cap, bs.take n⟩] = bs.take n := by simp [catB]
        have e3 : (catB [⟨a, n, cap, bs.take n⟩]).length = n := by rw [e2]; exact hlenT
        have hge' : ∀ b off, a' = some ⟨b, off, none⟩ → w.heap.size + 1 < b := fun b off e => by have := hge b off e; simp at this; omega
        have hne : ∀ b off, a' = some ⟨b, off, none⟩ → b ≠ w.heap.size + 1 := fun b off e => by have := hge' b off e; omega
        rw [e3, e2] at hB2
        refine bodyPost_ret (v := .tuple #[.agg #[.slice a' n cap', .int .i64 n], .int .i64 0]) (by simp [results, Try.results13, go_sem, j2, j3]; first | done | (simp [e3])) rfl ⟨a', n, cap', rfl, ?_, fun b off e => by have := hge' b off e; omega, ?_⟩
        · first | exact (hB2.set _ _ hne).set _ _ hne | (simp only [e3]; exact (hB2.set _ _ hne).set _ _ hne)
        · exact ((hB.trans (hW2.mono hB.size)).setCell (by simp) _).setCell (by simp) _
  | false =>
    have e1 : crErr len y keep = 9 := by unfold crErr; rw [hm]; simp
    have e2 : crBs len y keep bs = [] := by unfold crBs; rw [e1]; simp
    have e3 : crY len y keep = 0 := by unfold crY; rw [e1]; simp
    rw [e1, e2, e3]
    go_enter Try.func13, Try.ntmps13
    go_upto_region 1 with (fail)
    rw [← hW]
    clear hW
    go_upto_region 2 with (go_at_call 15; refine (tapeMay_any _ _ _ _ _ hl).mono ?_; rintro e w1 ⟨rfl, hb1⟩; rw [hm])
    clear d0 d1 r0 r1 f0 f1
    obtain ⟨k0, k1, k2, k3, k4, k5⟩ := KC.out _ hb1
    go_wp2
    refine bodyPost_ret (v := .tuple #[.agg #[.slice none 0 0, .int .i64 0], .int .i64 9]) (by simp [results, Try.results13, go_sem, k2, k3]) rfl ⟨none, 0, 0, rfl, isB_nil _, fun b off e => by simp at e, ?_⟩
    exact ((hB.trans (hb1.mono hB.size)).setCell (by simp) _).setCell (by simp) _
end Go.Proofs.Ytofijgoffjdjmaa
