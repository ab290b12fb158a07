/- What Forget leaves is a store that may be. -/
import Derived.Test.YtbmbahifkegehabSKEnd
import Derived.Test.YtbmbahifkegehabSForget
namespace Go.Proofs.Ytbmbahifkegehab.St
open Go.ChangeShapes Go.WideShapes Go.ChangeAt Go.RowKit
set_option linter.unusedVariables false

theorem keep_write (l : List LkV) : keep rdT l = l.filter (fun k => k.write) := by
  unfold keep rdT
  congr 1
  funext k
  simp
theorem forget_ok {s : SV} (h : OKP s.data) : forgetErr s = 0 ∧ OKP (forgetData s) ∧ (forgetData s).items = s.items ∧ (forgetData s).locks = s.locks.filter (fun k => k.write) ∧ (forgetData s).over = s.over := by
  have hE : forgetErr s = 0 := by unfold forgetErr; rw [if_pos h.ok]
  have e : forgetData s = ⟨s.items, keep rdT s.locks, (keep (noL (keep rdT s.locks)) s.doubts).map zeroD, s.over⟩ := by unfold forgetData; rw [if_pos hE]
  rw [e]
  have hmem : ∀ d ∈ (keep (noL (keep rdT s.locks)) s.doubts).map zeroD, ∃ c ∈ s.doubts, d = ⟨c.t, 0⟩ ∧ ∃ k ∈ keep rdT s.locks, k.t = c.t := by
    intro d hd
    obtain ⟨c, hc, rfl⟩ := List.mem_map.1 hd
    obtain ⟨c1, c2⟩ := mem_keep.1 hc
    simp only [noL, Bool.not_eq_false', List.any_eq_true] at c2
    obtain ⟨k, hk, e2⟩ := c2
    exact ⟨c, c1, rfl, k, hk, by simpa [ofT] using e2⟩
  refine ⟨hE, ⟨h.items, ?_, ?_, ?_, h.ov, h.ovt, ?_, ?_, ?_, ?_, ?_⟩, rfl, keep_write _, rfl⟩
  · show (keep rdT s.locks).length ≤ 24
    exact Nat.le_trans (List.length_filter_le _ _) h.l24
  · intro k hk
    exact h.lk k (mem_keep.1 hk).1
  · exact List.Pairwise.filter _ h.nag
  · intro d hd
    obtain ⟨c, _, rfl, _⟩ := hmem d hd
    rfl
  · intro d hd
    obtain ⟨c, _, rfl, k, hk, e2⟩ := hmem d hd
    exact ⟨k, hk, e2⟩
  · show ((keep (noL (keep rdT s.locks)) s.doubts).map zeroD).Pairwise _
    rw [List.pairwise_map]
    exact List.Pairwise.filter _ h.dn
  · intro d hd
    obtain ⟨c, hc, rfl, _⟩ := hmem d hd
    exact h.dov c hc
  · intro k hk
    obtain ⟨d, hd, e2⟩ := h.ld k (mem_keep.1 hk).1
    refine ⟨zeroD d, List.mem_map.2 ⟨d, mem_keep.2 ⟨hd, ?_⟩, rfl⟩, e2⟩
    simp only [noL, Bool.not_eq_false', List.any_eq_true]
    exact ⟨k, hk, by simp [ofT, e2]⟩
/-- The one that comes next among those that are kept. -/
theorem next_kept {l : List LkV} {j : Nat} (hj : j < l.length) (hw : (l.getD j default).write = true) : ((l.take j).filter (fun k => k.write)).length < (l.filter (fun k => k.write)).length ∧ (l.filter (fun k => k.write)).getD ((l.take j).filter (fun k => k.write)).length default = l.getD j default := by
  have e : l.filter (fun k => k.write) = (l.take j).filter (fun k => k.write) ++ (l.getD j default :: (l.drop (j + 1)).filter (fun k => k.write)) := by
    conv => lhs; rw [← List.take_append_drop j l]
    rw [List.filter_append, drop_at hj, List.filter_cons, if_pos hw]
  rw [e]
  constructor
  · simp
  · simp [List.getD]
end Go.Proofs.Ytbmbahifkegehab.St
