/- The contract of tape.Crash: what was synced and so many bytes more, in new memory; or what is refused. -/
import Derived.Test.YtjjnmiaaejhdaaaDoorTSync
namespace Go.Proofs.YtjjnmiaaejhdaaaDoor
open Go.ChangeShapes Go.WideShapes Go.ChangeAt Go.RowKit
set_option linter.unusedVariables false

/-- How many bytes stay. -/
def crN (len : Nat) (y keep : Int) : Nat := if keep < (len : Int) - y then (y + keep).toNat else len
def crErr (len : Nat) (y keep : Int) : Int := if mayT len y then (if keep < 0 then 2 else 0) else 9
def crBs (len : Nat) (y keep : Int) (bs : List Int) : List Int := if crErr len y keep = 0 then bs.take (crN len y keep) else []
def crY (len : Nat) (y keep : Int) : Int := if crErr len y keep = 0 then (crN len y keep : Int) else 0
theorem crN_le {len : Nat} {y keep : Int} (h : mayT len y = true) (hk : 0 ≤ keep) : crN len y keep ≤ len := by
  have := mayT_of h
  unfold crN
  split <;> omega

theorem crash_any (a : Option Addr) (len cap : Nat) (bs : List Int) (y keep : Int) (w : World) (h : IsB w a len cap bs) (hk : -9223372036854775808 ≤ keep ∧ keep ≤ 9223372036854775807) :
    Calls Tryd.prog 17 #[.agg #[.slice a len cap, .int .i64 y], .int .i64 keep] w fun e w' => TapeAns w w' e (crBs len y keep bs) (crY len y keep) (crErr len y keep) := by
  have hl : len ≤ 9223372036854775807 := by have := h.2.1; have := h.2.2.1; unfold maxLen at this; omega
  obtain ⟨W, hW⟩ : ∃ W : World, W = (w.alloc (.cells #[.slice a len cap, .int .i64 y] 46)).alloc (.cells #[.slice none 0 0, .int .i64 0] 46) := ⟨_, rfl⟩
  have hB : Below w.heap.size w W := by rw [hW]; exact ((Below.refl _ _).alloc (Nat.le_refl _) _).alloc (by simp) _
  have zW : W.heap.size = w.heap.size + 2 := by rw [hW]; simp
  have d0 : W.cell? ⟨w.heap.size, 0, none⟩ = some (.slice a len cap) := by rw [hW]; go_simp
  have d1 : W.cell? ⟨w.heap.size, 1, none⟩ = some (.int .i64 y) := by rw [hW]; go_simp
  have r0 : W.cell? ⟨w.heap.size + 1, 0, none⟩ = some (.slice none 0 0) := by rw [hW]; go_simp
  have r1 : W.cell? ⟨w.heap.size + 1, 1, none⟩ = some (.int .i64 0) := by rw [hW]; go_simp
  have f0 : W.frozen? ⟨w.heap.size + 1, 0, none⟩ = false := by rw [hW]; go_simp
  have f1 : W.frozen? ⟨w.heap.size + 1, 1, none⟩ = false := by rw [hW]; go_simp
  have KC : Hid (∀ V : World, Below W.heap.size W V → V.cell? ⟨w.heap.size, 0, none⟩ = some (.slice a len cap) ∧ V.cell? ⟨w.heap.size, 1, none⟩ = some (.int .i64 y) ∧ V.cell? ⟨w.heap.size + 1, 0, none⟩ = some (.slice none 0 0) ∧ V.cell? ⟨w.heap.size + 1, 1, none⟩ = some (.int .i64 0) ∧ V.frozen? ⟨w.heap.size + 1, 0, none⟩ = false ∧ V.frozen? ⟨w.heap.size + 1, 1, none⟩ = false) := by
    intro V hV
    exact ⟨(hV.cell (p := ⟨w.heap.size, 0, none⟩) (by show w.heap.size < _; omega)).trans d0, (hV.cell (p := ⟨w.heap.size, 1, none⟩) (by show w.heap.size < _; omega)).trans d1, (hV.cell (p := ⟨w.heap.size + 1, 0, none⟩) (by show w.heap.size + 1 < _; omega)).trans r0, (hV.cell (p := ⟨w.heap.size + 1, 1, none⟩) (by show w.heap.size + 1 < _; omega)).trans r1, (hV.frozen (p := ⟨w.heap.size + 1, 0, none⟩) (by show w.heap.size + 1 < _; omega)).trans f0, (hV.frozen (p := ⟨w.heap.size + 1, 1, none⟩) (by show w.heap.size + 1 < _; omega)).trans f1⟩
  cases hm : mayT len y with
  | true =>
    have hmm := mayT_of hm
    have h6 : (len : Int) ≤ 6000 := by omega
    by_cases hk0 : keep < 0
    · have e1 : crErr len y keep = 2 := by unfold crErr; rw [hm]; simp [hk0]
      have e2 : crBs len y keep bs = [] := by unfold crBs; rw [e1]; simp
      have e3 : crY len y keep = 0 := by unfold crY; rw [e1]; simp
      rw [e1, e2, e3]
      go_enter Tryd.func17, Tryd.ntmps17
      go_upto_region 1 with (fail)
      rw [← hW]
      clear hW
      go_upto_region 4 with (go_at_call 31; refine (mayBe_any _ _ _ _ _ hl).mono ?_; rintro e w1 ⟨rfl, hb1⟩; rw [hm])
      clear d0 d1 r0 r1 f0 f1
      obtain ⟨k0, k1, k2, k3, k4, k5⟩ := KC.out _ hb1
      go_wp2
      refine bodyPost_ret (v := .tuple #[.agg #[.slice none 0 0, .int .i64 0], .int .i64 2]) (by simp [results, Tryd.results17, go_sem, k2, k3]) rfl ⟨none, 0, 0, rfl, isB_nil _, fun b off e => by simp at e, ?_⟩
      exact ((hB.trans (hb1.mono hB.size)).setCell (by simp) _).setCell (by simp) _
    · have e1 : crErr len y keep = 0 := by unfold crErr; rw [hm]; simp [hk0]
      have e2 : crBs len y keep bs = bs.take (crN len y keep) := by unfold crBs; rw [e1]; simp
      have e3 : crY len y keep = (crN len y keep : Int) := by unfold crY; rw [e1]; simp
      rw [e1, e2, e3]
      have hnl := crN_le hm (by omega : 0 ≤ keep)
      have hmin : Hid ((y + if (len : Int) - y < keep then (len : Int) - y else keep) = (crN len y keep : Int)) := by show _ = _; unfold crN; split <;> split <;> omega
      obtain ⟨n, hn⟩ : ∃ n, n = crN len y keep := ⟨_, rfl⟩
      rw [← hn] at hmin hnl ⊢
      clear hn e1 e2 e3
      go_enter Tryd.func17, Tryd.ntmps17
      go_upto_region 1 with (fail)
      rw [← hW]
      clear hW
      go_upto_region 5 with (go_at_call 31; refine (mayBe_any _ _ _ _ _ hl).mono ?_; rintro e w1 ⟨rfl, hb1⟩; rw [hm])
      clear d0 d1 r0 r1 f0 f1
      obtain ⟨k0, k1, k2, k3, k4, k5⟩ := KC.out _ hb1
      have hIB := h.below (hB.trans (hb1.mono hB.size))
      go_upto_region 6 with (fail)
      rw [hmin.out]
      clear hmin
      go_wp2_with (go_at_call 32; refine (cut_any a len cap bs n _ hIB (by omega) hnl).mono ?_; rintro e w2 ⟨a', rfl, hB2, hb2, hge⟩; have hW2 : Below W.heap.size W w2 := hb1.trans (hb2.mono hb1.size); clear k0 k1 k2 k3 k4 k5; obtain ⟨k0, k1, k2, k3, k4, k5⟩ := KC.out _ hW2)
      all_goals
        have hsz := hb1.size
        have hne : ∀ b off, a' = some ⟨b, off, none⟩ → b ≠ w.heap.size + 1 := fun b off e => by have := hge b off e; omega
        refine bodyPost_ret (v := .tuple #[.agg #[.slice a' n n, .int .i64 n], .int .i64 0]) (by simp [results, Tryd.results17, go_sem, k2, k3]) rfl ⟨a', n, n, rfl, (hB2.set _ _ hne).set _ _ hne, fun b off e => by have := hge b off e; omega, ?_⟩
        exact ((hB.trans (hW2.mono hB.size)).setCell (by simp) _).setCell (by simp) _
  | false =>
    have e1 : crErr len y keep = 9 := by unfold crErr; rw [hm]; simp
    have e2 : crBs len y keep bs = [] := by unfold crBs; rw [e1]; simp
    have e3 : crY len y keep = 0 := by unfold crY; rw [e1]; simp
    rw [e1, e2, e3]
    go_enter Tryd.func17, Tryd.ntmps17
    go_upto_region 1 with (fail)
    rw [← hW]
    clear hW
    go_upto_region 2 with (go_at_call 31; refine (mayBe_any _ _ _ _ _ hl).mono ?_; rintro e w1 ⟨rfl, hb1⟩; rw [hm])
    clear d0 d1 r0 r1 f0 f1
    obtain ⟨k0, k1, k2, k3, k4, k5⟩ := KC.out _ hb1
    go_wp2
    refine bodyPost_ret (v := .tuple #[.agg #[.slice none 0 0, .int .i64 0], .int .i64 9]) (by simp [results, Tryd.results17, go_sem, k2, k3]) rfl ⟨none, 0, 0, rfl, isB_nil _, fun b off e => by simp at e, ?_⟩
    exact ((hB.trans (hb1.mono hB.size)).setCell (by simp) _).setCell (by simp) _
end Go.Proofs.YtjjnmiaaejhdaaaDoor
