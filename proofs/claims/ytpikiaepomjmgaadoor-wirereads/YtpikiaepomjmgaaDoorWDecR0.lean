/- Records off bytes, on plain data: what each kind reads. -/
import Derived.Test.YtpikiaepomjmgaaDoorWDecR1
import Derived.Test.YtpikiaepomjmgaaDoorWDecM
namespace Go.Proofs.YtpikiaepomjmgaaDoor
open Go.ChangeShapes Go.WideShapes Go.ChangeAt Go.RowKit
set_option linter.unusedVariables false

theorem kindR_eq {r : RS} {k : Nat} (hk : 1 ≤ k ∧ k ≤ 6) (h : (r.num 1).1 = k) : r.kind 7 = r.num 1 := by unfold RS.kind; rw [if_neg (by omega)]
theorem sites_zero (r : RS) : r.sites 0 = ([], r) := rfl

theorem decR_1 (r : RS) (h : (r.num 1).1 = ((1 : Nat) : Int)) : decRecRS r = (⟨1, (rdNums [1, 1, 3, 1, 4, 3] r).1.getD 1 0, (rdNums [1, 1, 3, 1, 4, 3] r).1.getD 2 0, (rdNums [1, 1, 3, 1, 4, 3] r).1.getD 3 0, (rdNums [1, 1, 3, 1, 4, 3] r).1.getD 4 0, (rdNums [1, 1, 3, 1, 4, 3] r).1.getD 5 0, false, none, 0, 0, []⟩, (rdNums [1, 1, 3, 1, 4, 3] r).2) := by
  unfold decRecRS
  rw [kindR_eq (k := 1) (by omega) h, h]
  simp [rHasOf, rHas, widL, decParts, part_no, recMk, rdNums, List.getD, RS.sites]
theorem decR_y (r : RS) (k : Nat) (hk : k = 2 ∨ k = 6) (h : (r.num 1).1 = (k : Int)) : decRecRS r = (⟨(k : Int), (rdNums [1, 1, 3, 1] r).1.getD 1 0, (rdNums [1, 1, 3, 1] r).1.getD 2 0, 0, 0, 0, decide ((rdNums [1, 1, 3, 1] r).1.getD 3 0 = 1), none, 0, 0, []⟩, (rdNums [1, 1, 3, 1] r).2.truth ((rdNums [1, 1, 3, 1] r).1.getD 3 0)) := by
  unfold decRecRS
  rw [kindR_eq (k := k) (by omega) h, h]
  rcases hk with rfl | rfl
  all_goals simp [rHasOf, rHas, widL, decParts, part_yes, recMk, rdNums, List.getD, RS.sites]
theorem decR_n (r : RS) (k : Nat) (hk : k = 4 ∨ k = 5) (h : (r.num 1).1 = (k : Int)) : decRecRS r = (⟨(k : Int), (rdNums [1, 1, 3] r).1.getD 1 0, (rdNums [1, 1, 3] r).1.getD 2 0, 0, 0, 0, false, none, 0, 0, []⟩, (rdNums [1, 1, 3] r).2) := by
  unfold decRecRS
  rw [kindR_eq (k := k) (by omega) h, h]
  rcases hk with rfl | rfl
  all_goals simp [rHasOf, rHas, widL, decParts, recMk, rdNums, List.getD, RS.sites]
theorem decR_3 (r : RS) (h : (r.num 1).1 = ((3 : Nat) : Int)) : decRecRS r = (⟨3, (rdNums [1, 1, 3, 1] r).1.getD 1 0, (rdNums [1, 1, 3, 1] r).1.getD 2 0, 0, 0, 0, false, none, ((rdNums [1, 1, 3, 1] r).2.sites ((rdNums [1, 1, 3, 1] r).1.getD 3 0)).1.length, 0, ((rdNums [1, 1, 3, 1] r).2.sites ((rdNums [1, 1, 3, 1] r).1.getD 3 0)).1⟩, ((rdNums [1, 1, 3, 1] r).2.sites ((rdNums [1, 1, 3, 1] r).1.getD 3 0)).2) := by
  unfold decRecRS
  rw [kindR_eq (k := 3) (by omega) h, h]
  simp [rHasOf, rHas, widL, decParts, part_no, recMk, rdNums, List.getD]
end Go.Proofs.YtpikiaepomjmgaaDoor
