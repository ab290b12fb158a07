/- Dominance of small labels, on numbers: it is an order, the join is the least upper bound, the meet the greatest lower one. -/
import Derived.Test.YtnpfpfdlaedphabLab1
import Derived.Test.YtnpfpfdlaedphabJoin
namespace Go.Proofs.Ytnpfpfdlaedphab
open Go.ChangeShapes Go.WideShapes Go.ChangeAt Go.RowKit

theorem four (c : Int) (h : 0 ≤ c ∧ c ≤ 3) : ∃ x : Fin 4, c = (x.val : Int) := ⟨⟨c.toNat, by omega⟩, by simp; omega⟩

theorem and_self4 : ∀ x : Fin 4, bits .and .i64 (x.val : Int) (x.val : Int) = (x.val : Int) := by decide
theorem and_anti4 : ∀ x y : Fin 4, bits .and .i64 (x.val : Int) (y.val : Int) = (y.val : Int) → bits .and .i64 (y.val : Int) (x.val : Int) = (x.val : Int) → (x.val : Int) = (y.val : Int) := by decide
theorem and_trans4 : ∀ x y z : Fin 4, bits .and .i64 (x.val : Int) (y.val : Int) = (y.val : Int) → bits .and .i64 (y.val : Int) (z.val : Int) = (z.val : Int) → bits .and .i64 (x.val : Int) (z.val : Int) = (z.val : Int) := by decide
theorem or_left4 : ∀ x y : Fin 4, bits .and .i64 (bits .or .i64 (x.val : Int) (y.val : Int)) (x.val : Int) = (x.val : Int) := by decide
theorem or_right4 : ∀ x y : Fin 4, bits .and .i64 (bits .or .i64 (x.val : Int) (y.val : Int)) (y.val : Int) = (y.val : Int) := by decide
theorem or_least4 : ∀ x y z : Fin 4, (bits .and .i64 (z.val : Int) (bits .or .i64 (x.val : Int) (y.val : Int)) = bits .or .i64 (x.val : Int) (y.val : Int)) ↔ (bits .and .i64 (z.val : Int) (x.val : Int) = (x.val : Int) ∧ bits .and .i64 (z.val : Int) (y.val : Int) = (y.val : Int)) := by decide
theorem and_left4 : ∀ x y : Fin 4, bits .and .i64 (x.val : Int) (bits .and .i64 (x.val : Int) (y.val : Int)) = bits .and .i64 (x.val : Int) (y.val : Int) := by decide
theorem and_right4 : ∀ x y : Fin 4, bits .and .i64 (y.val : Int) (bits .and .i64 (x.val : Int) (y.val : Int)) = bits .and .i64 (x.val : Int) (y.val : Int) := by decide
theorem and_most4 : ∀ x y z : Fin 4, (bits .and .i64 (bits .and .i64 (x.val : Int) (y.val : Int)) (z.val : Int) = (z.val : Int)) ↔ (bits .and .i64 (x.val : Int) (z.val : Int) = (z.val : Int) ∧ bits .and .i64 (y.val : Int) (z.val : Int) = (z.val : Int)) := by decide

theorem abv_iff (al ac bl bc : Int) : abv al ac bl bc = true ↔ bl ≤ al ∧ bits .and .i64 ac bc = bc := by simp [abv]

theorem abv_refl {l c : Int} (hc : 0 ≤ c ∧ c ≤ 3) : abv l c l c = true := by
  obtain ⟨x, rfl⟩ := four c hc
  rw [abv_iff]; exact ⟨Int.le_refl _, and_self4 x⟩
theorem abv_anti {l c m d : Int} (hc : 0 ≤ c ∧ c ≤ 3) (hd : 0 ≤ d ∧ d ≤ 3) (h1 : abv l c m d = true) (h2 : abv m d l c = true) : l = m ∧ c = d := by
  obtain ⟨x, rfl⟩ := four c hc
  obtain ⟨y, rfl⟩ := four d hd
  rw [abv_iff] at h1 h2
  exact ⟨by omega, and_anti4 x y h1.2 h2.2⟩
theorem abv_trans {l c m d n e : Int} (hc : 0 ≤ c ∧ c ≤ 3) (hd : 0 ≤ d ∧ d ≤ 3) (he : 0 ≤ e ∧ e ≤ 3) (h1 : abv l c m d = true) (h2 : abv m d n e = true) : abv l c n e = true := by
  obtain ⟨x, rfl⟩ := four c hc
  obtain ⟨y, rfl⟩ := four d hd
  obtain ⟨z, rfl⟩ := four e he
  rw [abv_iff] at h1 h2 ⊢
  exact ⟨by omega, and_trans4 x y z h1.2 h2.2⟩
theorem join_left {l c m d : Int} (hc : 0 ≤ c ∧ c ≤ 3) (hd : 0 ≤ d ∧ d ≤ 3) : abv (great l m) (bits .or .i64 c d) l c = true := by
  obtain ⟨x, rfl⟩ := four c hc
  obtain ⟨y, rfl⟩ := four d hd
  rw [abv_iff]; exact ⟨by unfold great; split <;> omega, or_left4 x y⟩
theorem join_right {l c m d : Int} (hc : 0 ≤ c ∧ c ≤ 3) (hd : 0 ≤ d ∧ d ≤ 3) : abv (great l m) (bits .or .i64 c d) m d = true := by
  obtain ⟨x, rfl⟩ := four c hc
  obtain ⟨y, rfl⟩ := four d hd
  rw [abv_iff]; exact ⟨by unfold great; split <;> omega, or_right4 x y⟩
theorem join_least {l c m d n e : Int} (hc : 0 ≤ c ∧ c ≤ 3) (hd : 0 ≤ d ∧ d ≤ 3) (he : 0 ≤ e ∧ e ≤ 3) : abv n e (great l m) (bits .or .i64 c d) = (abv n e l c && abv n e m d) := by
  obtain ⟨x, rfl⟩ := four c hc
  obtain ⟨y, rfl⟩ := four d hd
  obtain ⟨z, rfl⟩ := four e he
  rw [Bool.eq_iff_iff, Bool.and_eq_true, abv_iff, abv_iff, abv_iff, or_least4]
  have : great l m ≤ n ↔ l ≤ n ∧ m ≤ n := by unfold great; split <;> omega
  rw [this]
  constructor
  · rintro ⟨⟨a, b⟩, c, d⟩; exact ⟨⟨a, c⟩, b, d⟩
  · rintro ⟨⟨a, c⟩, b, d⟩; exact ⟨⟨a, b⟩, c, d⟩
theorem meet_left {l c m d : Int} (hc : 0 ≤ c ∧ c ≤ 3) (hd : 0 ≤ d ∧ d ≤ 3) : abv l c (least l m) (bits .and .i64 c d) = true := by
  obtain ⟨x, rfl⟩ := four c hc
  obtain ⟨y, rfl⟩ := four d hd
  rw [abv_iff]; exact ⟨by unfold least; split <;> omega, and_left4 x y⟩
theorem meet_right {l c m d : Int} (hc : 0 ≤ c ∧ c ≤ 3) (hd : 0 ≤ d ∧ d ≤ 3) : abv m d (least l m) (bits .and .i64 c d) = true := by
  obtain ⟨x, rfl⟩ := four c hc
  obtain ⟨y, rfl⟩ := four d hd
  rw [abv_iff]; exact ⟨by unfold least; split <;> omega, and_right4 x y⟩
theorem meet_most {l c m d n e : Int} (hc : 0 ≤ c ∧ c ≤ 3) (hd : 0 ≤ d ∧ d ≤ 3) (he : 0 ≤ e ∧ e ≤ 3) : abv (least l m) (bits .and .i64 c d) n e = (abv l c n e && abv m d n e) := by
  obtain ⟨x, rfl⟩ := four c hc
  obtain ⟨y, rfl⟩ := four d hd
  obtain ⟨z, rfl⟩ := four e he
  rw [Bool.eq_iff_iff, Bool.and_eq_true, abv_iff, abv_iff, abv_iff, and_most4]
  have : n ≤ least l m ↔ n ≤ l ∧ n ≤ m := by unfold least; split <;> omega
  rw [this]
  constructor
  · rintro ⟨⟨a, b⟩, c, d⟩; exact ⟨⟨a, c⟩, b, d⟩
  · rintro ⟨⟨a, c⟩, b, d⟩; exact ⟨⟨a, b⟩, c, d⟩
end Go.Proofs.Ytnpfpfdlaedphab
