/- Purge on plain data: twice, under a label that dominates, under one that dominates all. -/
import Derived.Test.YtppnhcnkcbhbiaaActMem
import Derived.Test.YtppnhcnkcbhbiaaCfgMem
import Derived.Test.YtppnhcnkcbhbiaaLab1
namespace Go.Proofs.Ytppnhcnkcbhbiaa
set_option linter.unusedVariables false

theorem four_k (c : Int) (h : 0 ≤ c ∧ c ≤ 3) : ∃ x : Fin 4, c = (x.val : Int) := ⟨⟨c.toNat, by omega⟩, by simp; omega⟩
theorem and_trans4_k : ∀ x y z : Fin 4, bits .and .i64 (x.val : Int) (y.val : Int) = (y.val : Int) → bits .and .i64 (y.val : Int) (z.val : Int) = (z.val : Int) → bits .and .i64 (x.val : Int) (z.val : Int) = (z.val : Int) := by decide
theorem abv_iff_k (al ac bl bc : Int) : abv al ac bl bc = true ↔ bl ≤ al ∧ bits .and .i64 ac bc = bc := by simp [abv]
theorem abv_trans_k {l c m d n e : Int} (hc : 0 ≤ c ∧ c ≤ 3) (hd : 0 ≤ d ∧ d ≤ 3) (he : 0 ≤ e ∧ e ≤ 3) (h1 : abv l c m d = true) (h2 : abv m d n e = true) : abv l c n e = true := by
  obtain ⟨x, rfl⟩ := four_k c hc
  obtain ⟨y, rfl⟩ := four_k d hd
  obtain ⟨z, rfl⟩ := four_k e he
  rw [abv_iff_k] at h1 h2 ⊢
  exact ⟨by omega, and_trans4_k x y z h1.2 h2.2⟩

theorem keepOf_under {ls : List (Int × Int)} {x y kind : Int} (h : ∀ p, hid ls x p = true → hid ls y p = true) (keep : List Int) : keepOf ls y kind (keepOf ls x kind keep) = keepOf ls y kind keep := by
  unfold keepOf
  split
  · apply List.ext_getElem
    · simp
    · intro i h1 h2
      simp only [List.getElem_map, List.getElem_zipIdx]
      by_cases hy : hid ls y ((0 + i : Nat) : Int) = true
      · rw [if_pos hy, if_pos hy]
      · have hx : ¬ hid ls x ((0 + i : Nat) : Int) = true := fun e => hy (h _ e)
        rw [if_neg hy, if_neg hy, if_neg hx]
  · rfl

theorem purge_under {ls : List (Int × Int)} {x y : Int} (h : ∀ p, hid ls x p = true → hid ls y p = true) (xs : List AV) : purgeF ls y (purgeF ls x xs) = purgeF ls y xs := by
  unfold purgeF
  rw [List.flatMap_assoc]
  congr 1
  funext a
  unfold purgeStep
  by_cases hx : (hasLab a.kind && hid ls x a.label) = true
  · have hy : (hasLab a.kind && hid ls y a.label) = true := by
      simp only [Bool.and_eq_true] at hx ⊢
      exact ⟨hx.1, h _ hx.2⟩
    rw [if_pos hx, if_pos hy]
    rfl
  · rw [if_neg hx]
    simp only [List.flatMap_cons, List.flatMap_nil, List.append_nil]
    by_cases hy : (hasLab a.kind && hid ls y a.label) = true
    · rw [if_pos hy, if_pos (by simpa [AV.bare] using hy)]
    · rw [if_neg hy, if_neg (by simpa [AV.bare] using hy)]
      simp [AV.bare, keepOf_under h]

theorem purge_bare (ls : List (Int × Int)) (l : Int) (xs : List AV) : purgeF ls l (xs.map AV.bare) = purgeF ls l xs := by
  unfold purgeF
  rw [List.flatMap_map]
  rfl

theorem purge_none {ls : List (Int × Int)} {l : Int} (xs : List AV) (h : ∀ p, hid ls l p = false) : purgeF ls l xs = xs.map AV.bare := by
  unfold purgeF
  induction xs with
  | nil => rfl
  | cons a r ih =>
    rw [List.flatMap_cons, ih, List.map_cons]
    have hk : keepOf ls l a.kind a.keep = a.keep := by
      unfold keepOf
      split
      · apply List.ext_getElem
        · simp
        · intro i h1 h2
          simp [h]
      · rfl
    simp [purgeStep, h, hk, AV.bare]

/-- What is left is of labels that are dominated, or of all. -/
theorem purge_left {ls : List (Int × Int)} {l : Int} {xs ys : List AV} (h : ys.map AV.bare = purgeF ls l xs) : ∀ y ∈ ys, hasLab y.kind = true → hid ls l y.label = false := by
  intro y hy hk
  have hm : y.bare ∈ purgeF ls l xs := by rw [← h]; exact List.mem_map_of_mem hy
  unfold purgeF at hm
  obtain ⟨a, ha, hb⟩ := List.mem_flatMap.1 hm
  unfold purgeStep at hb
  split at hb
  · simp at hb
  · rename_i hn
    simp at hb
    have e1 : y.kind = a.kind := by have := congrArg AV.kind hb; simpa [AV.bare] using this
    have e2 : y.label = a.label := by have := congrArg AV.label hb; simpa [AV.bare] using this
    rw [e1] at hk
    rw [e2]
    simpa [hk] using hn

theorem labAtI_small {ls : List (Int × Int)} (hg : Good ls) (l : Int) : 0 ≤ (labAtI ls l).2 ∧ (labAtI ls l).2 ≤ 3 := by
  unfold labAtI
  by_cases h : l.toNat < ls.length
  · have e : ls.getD l.toNat (0, 0) = ls[l.toNat] := by simp [List.getD, h]
    rw [e]
    exact (hg.small _ (List.getElem_mem h)).2.2
  · have e : ls.getD l.toNat (0, 0) = (0, 0) := by simp [List.getD, h]
    rw [e]
    exact ⟨Int.le_refl _, by decide⟩

theorem acts_small {w : World} {a : Option Addr} {n cap : Nat} {xs : List AV} (h : IsActs w a n cap xs) (hf : ∀ y ∈ xs, y.kl ≤ 4) : ∀ y ∈ xs, y.keep.length ≤ 4 := by
  intro y hy
  obtain ⟨i, hi, rfl⟩ := List.getElem_of_mem hy
  obtain ⟨h1, h2, h3, h4⟩ := h
  obtain ⟨b, off, e, hb, hA⟩ := h4 (by omega)
  have hI := (hA i hi).2.1
  have e : xs.getD i default = xs[i] := by simp [List.getD, hi]
  rw [e] at hI
  have := hf _ (List.getElem_mem hi)
  omega
theorem purged_small {ls : List (Int × Int)} {l : Int} {xs ys : List AV} (h : ys.map AV.bare = purgeF ls l xs) (hx : ∀ x ∈ xs, x.keep.length ≤ 4) : ∀ y ∈ ys, y.keep.length ≤ 4 := by
  intro y hy
  have hm : y.bare ∈ purgeF ls l xs := by rw [← h]; exact List.mem_map_of_mem hy
  unfold purgeF at hm
  obtain ⟨a, ha, hb⟩ := List.mem_flatMap.1 hm
  unfold purgeStep at hb
  split at hb
  · simp at hb
  · simp at hb
    have e1 : y.keep = keepOf ls l a.kind a.keep := by have := congrArg AV.keep hb; simpa [AV.bare] using this
    rw [e1, keepOf_len]
    exact hx a ha
theorem small_bytes {xs : List AV} (h : ∀ y ∈ xs, y.keep.length ≤ 4) : ∀ i, (xs.getD i default).keep.length * 8 ≤ 140737488355328 := by
  intro i
  by_cases hi : i < xs.length
  · have e : xs.getD i default = xs[i] := by simp [List.getD, hi]
    rw [e]
    have := h _ (List.getElem_mem hi)
    omega
  · have e : xs.getD i default = default := by simp [List.getD, hi]
    rw [e]
    decide
theorem purged_len {ls : List (Int × Int)} {l : Int} {xs ys : List AV} (h : ys.map AV.bare = purgeF ls l xs) : ys.length ≤ xs.length := by
  have := congrArg List.length h
  have h2 := purgeF_len ls l xs
  simp at this
  omega

/-- Who dominates more hides less. -/
theorem hid_under {ls : List (Int × Int)} (hg : Good ls) {x y : Int} (h : abv (labAtI ls x).1 (labAtI ls x).2 (labAtI ls y).1 (labAtI ls y).2 = true) : ∀ p, hid ls x p = true → hid ls y p = true := by
  intro p hp
  unfold hid at hp ⊢
  simp only [Bool.and_eq_true, Bool.not_eq_true'] at hp ⊢
  refine ⟨hp.1, ?_⟩
  by_cases hq : abv (labAtI ls y).1 (labAtI ls y).2 (labAtI ls p).1 (labAtI ls p).2 = true
  · have := abv_trans_k (labAtI_small hg x) (labAtI_small hg y) (labAtI_small hg p) h hq
    rw [this] at hp
    exact absurd hp.2 (by decide)
  · simpa using hq
end Go.Proofs.Ytppnhcnkcbhbiaa
