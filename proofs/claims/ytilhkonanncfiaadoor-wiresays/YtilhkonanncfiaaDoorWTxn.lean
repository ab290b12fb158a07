/- The contract of wire.appendTxn: a transaction's bytes behind a row of bytes of the call's own. -/
import Derived.Test.YtilhkonanncfiaaDoorWNumber
namespace Go.Proofs.YtilhkonanncfiaaDoor
open Go.ChangeShapes Go.WideShapes Go.ChangeAt Go.RowKit
set_option linter.unusedVariables false

set_option maxRecDepth 100000 in
set_option maxHeartbeats 1000000 in
theorem appendTxn_any (B : Nat) (va : Option Addr) (vc m : Nat) (bs : List Int) (site num : Int) (w : World) (hs : 0 ≤ site ∧ site < 256) (hm : m ≤ 100) (hB : B ≤ w.heap.size) (ho : w.ownsRow B 5 1 (.slice va m vc) m (bytesV bs)) :
    Calls Tryd.prog 15 #[.slice va m vc, .agg #[.int .i64 site, .int .i64 num]] w fun e w' => ∃ va' vc', e = .returned (.slice va' (m + 4) vc') ∧ w'.ownsRow B 5 1 (.slice va' (m + 4) vc') (m + 4) (bytesV (bs ++ (site :: be num 3))) ∧ w.grownBy w' (Value.slice va m vc).ownBlock ∧ Beyond w (.slice va m vc) (.slice va' (m + 4) vc') := by
  obtain ⟨s0, s1⟩ := hs
  obtain ⟨v, hv⟩ : ∃ v, v = Value.slice va m vc := ⟨_, rfl⟩
  rw [← hv] at ho
  obtain ⟨W, hW⟩ : ∃ W : World, W = w.alloc (.cells #[.int .i64 site, .int .i64 num] 26) := ⟨_, rfl⟩
  have hG : w.grownBy W none := by rw [hW]; exact World.grownBy_alloc w _ none
  have zW : W.heap.size = w.heap.size + 1 := by rw [hW]; simp
  have d0 : W.cell? ⟨w.heap.size, 0, none⟩ = some (.int .i64 site) := by rw [hW]; go_simp
  have d1 : W.cell? ⟨w.heap.size, 1, none⟩ = some (.int .i64 num) := by rw [hW]; go_simp
  have hoW : W.ownsRow B 5 1 v m (bytesV bs) := by rw [hW]; exact ho.alloc _
  have hlt : ∀ k, v.ownBlock = some k → k < w.heap.size := fun k hk => (ho.lt k hk).2
  have hone := isB_one W.drew site s0 s1
  rw [show W.drew.heap.size = w.heap.size + 1 from zW] at hone
  have hoA : (W.drew.alloc (.cells #[.int .u8 site] 5)).ownsRow B 5 1 v m (bytesV bs) := (World.ownsRow.drew hoW).alloc _
  have hBW : B ≤ (W.drew.alloc (.cells #[.int .u8 site] 5)).heap.size := by simp; omega
  have hA0 : (W.drew.alloc (.cells #[.int .u8 site] 5)).cell? ⟨w.heap.size, 0, none⟩ = some (.int .i64 site) := by go_simp
  have hA1 : (W.drew.alloc (.cells #[.int .u8 site] 5)).cell? ⟨w.heap.size, 1, none⟩ = some (.int .i64 num) := by go_simp
  have hnv : some w.heap.size ≠ v.ownBlock := by intro e; have := hlt _ e.symm; omega
  have w8 : IntKind.u8.wrap site = site := by simp [IntKind.wrap, IntKind.bits, IntKind.signed]; omega
  subst hv
  go_enter Tryd.func15, Tryd.ntmps15
  go_wp2
  rw [← hW]
  clear hW
  go_region_held3 (fun w' => w'.cell? ⟨w.heap.size, 0, none⟩ = some (.int .i64 site) ∧ w'.cell? ⟨w.heap.size, 1, none⟩ = some (.int .i64 num))
    (first | (go_keep; done) | exact ⟨k0, k1⟩ | exact ⟨j0, j1⟩)
    (first
      | ((refine step_append_bytes (by rfl) (.tmp 5) (.tmp 9) (by rfl) B (.slice va m vc) m bs (by rfl) hoA (some ⟨w.heap.size + 1, 0, none⟩) 1 1 [site] (by rfl) hone (by omega) hBW ?_; intro a1 c1 w1 hown1 hgrow1 hat1; have k0 := hgrow1.cell hA0 hnv; have k1 := hgrow1.cell hA1 hnv; have hn1 : some w.heap.size ≠ (Value.slice a1 (m + 1) c1).ownBlock := by (intro e; rw [← e] at hat1; rcases hat1 with h | h; exact hnv h; simp at h; omega)))
      | ((go_at_call 35; refine (appendNumber_any B (.slice a1 (m + 1) c1) (m + 1) (bs ++ [site]) num 3 _ (by omega) (by omega) (Nat.le_trans hBW hgrow1.size) hown1).mono ?_; rintro e w2 ⟨v2, rfl, hown2, hgrow2, hby2⟩; obtain ⟨a2, c2, rfl⟩ := own_slice hown2; have j0 := hgrow2.cell k0 hn1; have j1 := hgrow2.cell k1 hn1)))
  all_goals
    have hAl := World.grownBy_alloc W (.cells #[.int .u8 site] 5) none
    have hGA : w.grownBy (W.alloc (.cells #[.int .u8 site] 5)).drew (Value.slice va m vc).ownBlock := ⟨hAl.os.trans hG.os, hAl.tape.trans hG.tape, hAl.output.trans hG.output, Nat.le_trans hG.size hAl.size, fun k hk _ => (hAl.block k (by omega) (by simp)).trans (hG.block k hk (by simp))⟩
    have hby1 : Beyond w (.slice va m vc) (.slice a1 (m + 1) c1) := by
      intro j hj
      rcases hat1 with h | h
      · right; rw [← h]; exact hj
      · left; rw [hj] at h; simp at h; omega
    have g1 := grown_then hGA hgrow1 (fun j hj => .inr hj)
    have g2 := grown_then g1 hgrow2 hby1
    have hbf : Beyond w (.slice va m vc) (.slice a2 (m + 1 + 3) c2) := by
      intro j hj
      rcases hby2 j hj with h | h
      · left; have := g1.size; omega
      · exact hby1 j h
    go_wp2
    go_ret
    refine ⟨a2, c2, rfl, ?_, g2, hbf⟩
    simpa using hown2
end Go.Proofs.YtilhkonanncfiaaDoor
