/- The contract of slices.Delete at messages: of a list of the call's own, one message taken out, in its place. -/
import Derived.Test.YtcdfaimpbbjioaaDoorNOwn
import Derived.Deep.RegionLaw
import Derived.Lib.SliceRun
import Derived.Laws.IdiomCopy
namespace Go.Proofs.YtcdfaimpbbjioaaDoor.Nt
open Go.ChangeShapes Go.WideShapes Go.ChangeAt Go.RowKit
set_option linter.unusedVariables false

theorem own_setk {w : World} {base : Nat} {e : TypeId} {g n cap size : Nat} {xs : List Value} (h : w.ownsRow base e size (.slice (some ⟨g, 0, none⟩) n cap) n xs) {k : Nat} (hk : k < n * size) (u : Value) :
    (w.setCell ⟨g, k, none⟩ u).ownsRow base e size (.slice (some ⟨g, 0, none⟩) n cap) n (xs.set k u) := by
  obtain ⟨hl, h2⟩ := h
  rcases h2 with ⟨hv, hn⟩ | ⟨g', cap', cur, hv, hb, hg, h1, h3, hs, ht⟩
  · subst hn; simp at hk
  · simp at hv
    obtain ⟨rfl, rfl⟩ := hv
    refine ⟨by simpa using hl, .inr ⟨g, cap, cur.setIfInBounds k u, rfl, hb, heap_setCell_same w g k cur e u hg, h1, h3, by simpa using hs, ?_⟩⟩
    rw [← ht, Array.toList_setIfInBounds, List.take_set]
theorem own_there {w : World} {base : Nat} {e : TypeId} {g n cap size : Nat} {xs : List Value} (h : w.ownsRow base e size (.slice (some ⟨g, 0, none⟩) n cap) n xs) {k : Nat} (hk : k < n * size) : (w.cell? ⟨g, k, none⟩).isSome = true ∧ w.frozen? ⟨g, k, none⟩ = false := by
  obtain ⟨hl, h2⟩ := h
  rcases h2 with ⟨hv, hn⟩ | ⟨g', cap', cur, hv, hb, hg, h1, h3, hs, ht⟩
  · subst hn; simp at hk
  · simp at hv
    obtain ⟨rfl, rfl⟩ := hv
    have hk2 : n * size ≤ cap * size := Nat.mul_le_mul_right _ h1
    have hkc : k < cur.size := by omega
    exact ⟨by simp [World.cell?, hg, hkc], by simp [World.frozen?, hg]⟩
def setL : List Value → Nat → List Value → List Value
  | xs, _, [] => xs
  | xs, o, v :: r => setL (xs.set o v) (o + 1) r
theorem setL_len : ∀ (vs : List Value) (xs : List Value) (o : Nat), (setL xs o vs).length = xs.length
  | [], xs, o => rfl
  | v :: r, xs, o => by rw [setL, setL_len]; simp
theorem setL_eq : ∀ (vs : List Value) (xs : List Value) (o : Nat), o + vs.length ≤ xs.length → setL xs o vs = xs.take o ++ vs ++ xs.drop (o + vs.length)
  | [], xs, o, h => by simp [setL]
  | v :: r, xs, o, h => by
    simp only [List.length_cons] at h
    rw [setL, setL_eq r (xs.set o v) (o + 1) (by simp; omega)]
    have h1 : (xs.set o v).take (o + 1) = xs.take o ++ [v] := by
      rw [List.take_succ_eq_append_getElem (by simp; omega), List.take_set, List.set_eq_of_length_le (by simp; omega)]
      simp
    have h2 : (xs.set o v).drop (o + 1 + r.length) = xs.drop (o + 1 + r.length) := by
      rw [List.drop_set]
      rw [if_pos (by omega)]
    rw [h1, h2, List.length_cons, show o + (r.length + 1) = o + 1 + r.length by omega]
    simp
theorem own_setCells {base : Nat} {e : TypeId} {g n cap size : Nat} : ∀ (vs : List Value) (o : Nat) (w : World) (xs : List Value), w.ownsRow base e size (.slice (some ⟨g, 0, none⟩) n cap) n xs → o + vs.length ≤ n * size → (w.setCells g o vs).ownsRow base e size (.slice (some ⟨g, 0, none⟩) n cap) n (setL xs o vs)
  | [], o, w, xs, h, _ => h
  | v :: r, o, w, xs, h, hl => by
    simp only [List.length_cons] at hl
    exact own_setCells r (o + 1) _ _ (own_setk h (by omega) v) (by omega)
theorem own_prefix {w : World} {base : Nat} {e : TypeId} {g n cap size : Nat} {xs : List Value} (h : w.ownsRow base e size (.slice (some ⟨g, 0, none⟩) n cap) n xs) {k : Nat} (hk : k ≤ n) (h0 : 0 < n) : w.ownsRow base e size (.slice (some ⟨g, 0, none⟩) k cap) k (xs.take (k * size)) := by
  obtain ⟨hl, h2⟩ := h
  rcases h2 with ⟨hv, hn⟩ | ⟨g', cap', cur, hv, hb, hg, h1, h3, hs, ht⟩
  · omega
  · simp at hv
    obtain ⟨rfl, rfl⟩ := hv
    have hk2 : k * size ≤ n * size := Nat.mul_le_mul_right _ hk
    refine ⟨by rw [List.length_take, hl]; omega, .inr ⟨g, cap, cur, rfl, hb, hg, by omega, h3, hs, ?_⟩⟩
    rw [← ht, List.take_take]
    congr 1
    omega
theorem grown_setCells (b : Nat) : ∀ (vs : List Value) (o : Nat) (w : World), w.grownBy (w.setCells b o vs) (some b)
  | [], o, w => World.grownBy.refl _ _
  | v :: r, o, w => by
    have h1 := grown_setCell w ⟨b, o, none⟩ v
    have h2 := grown_setCells b r (o + 1) (w.setCell ⟨b, o, none⟩ v)
    exact ⟨h2.os.trans h1.os, h2.tape.trans h1.tape, h2.output.trans h1.output, Nat.le_trans h1.size h2.size, fun k hk hne => (h2.block k (Nat.lt_of_lt_of_le hk h1.size) hne).trans (h1.block k hk hne)⟩
theorem flat_take {α : Type} {cells : α → List Value} {k : Nat} (hk : ∀ x, (cells x).length = k) : ∀ (xs : List α) (i : Nat), (flat cells xs).take (i * k) = flat cells (xs.take i)
  | [], i => by simp [flat]
  | x :: r, 0 => by simp [flat]
  | x :: r, i + 1 => by
    have e : flat cells (x :: r) = cells x ++ flat cells r := by simp [flat]
    have e2 : flat cells ((x :: r).take (i + 1)) = cells x ++ flat cells (r.take i) := by simp [flat]
    rw [e, e2, List.take_append, hk, List.take_of_length_le (by rw [hk, Nat.add_mul]; omega), show (i + 1) * k - k = i * k by rw [Nat.add_mul]; omega, flat_take hk r i]
theorem flat_drop {α : Type} {cells : α → List Value} {k : Nat} (hk : ∀ x, (cells x).length = k) : ∀ (xs : List α) (i : Nat), (flat cells xs).drop (i * k) = flat cells (xs.drop i)
  | [], i => by simp [flat]
  | x :: r, 0 => by simp [flat]
  | x :: r, i + 1 => by
    have e : flat cells (x :: r) = cells x ++ flat cells r := by simp [flat]
    rw [e, List.drop_append, hk, List.drop_eq_nil_of_le (by rw [hk, Nat.add_mul]; omega), show (i + 1) * k - k = i * k by rw [Nat.add_mul]; omega, flat_drop hk r i]
    simp
theorem erase_eq {α : Type} (xs : List α) (i : Nat) : xs.eraseIdx i = xs.take i ++ xs.drop (i + 1) := List.eraseIdx_eq_take_drop_succ xs i

def zeroM : List Value := [.int .i64 0, .int .i64 0, .int .i64 0, .int .i64 0, .int .i64 0, .int .i64 0, .int .i64 0, .int .i64 0, .int .i64 0, .int .i64 0, .bool false, .int .i64 0]
theorem run_clear_one (w : World) (ty : TypeId) (b o c : Nat) (hc : ∀ j, j < 12 → (w.cell? ⟨b, o + j, none⟩).isSome = true ∧ w.frozen? ⟨b, o + j, none⟩ = false) :
    (Builtin.clear_ #[28] ty #[.slice (some ⟨b, o, none⟩) 1 c]).run Tryd.prog w = .ok (.tuple #[]) (w.setCells b o zeroM) := by
  have hv : ∀ w, (zeroValue 40).run Tryd.prog w = .ok (.agg zeroM.toArray) w := fun w => by
    exact Tryd.zeroValue40 w
  have hzc : (Builtin.zeroCells (Value.agg zeroM.toArray).cells 1).toList = zeroM := by kernel_rfl
  have hst := run_storeCells_cells (P := Tryd.prog) b o zeroM 0 w (fun j hj => (hc j hj).1) (fun j hj => (hc j hj).2) (by intro v hv'; simp [zeroM] at hv'; rcases hv' with h | h | h <;> subst h <;> rfl)
  simp only [Nat.add_zero] at hst
  simp [Builtin.clear_, run_underlying Tryd.underlying28, hv, hzc, hst]

set_option maxRecDepth 100000 in
set_option maxHeartbeats 4000000 in
theorem delete_any (B g n cap i : Nat) (xs : List MV) (w : World) (h : w.ownsRow B 40 12 (.slice (some ⟨g, 0, none⟩) n cap) n (flat mcells xs)) (hl : xs.length = n) (hi : i < n) :
    Calls Tryd.prog 23 #[.slice (some ⟨g, 0, none⟩) n cap, .int .i64 (i : Int), .int .i64 ((i : Int) + 1)] w fun e w' => e = .returned (.slice (some ⟨g, 0, none⟩) (n - 1) cap) ∧ w'.ownsRow B 40 12 (.slice (some ⟨g, 0, none⟩) (n - 1) cap) (n - 1) (flat mcells (xs.eraseIdx i)) ∧ w.grownBy w' (some g) := by
  obtain ⟨i0, E⟩ := msElem
  obtain ⟨hnc, hcm⟩ : n ≤ cap ∧ cap ≤ maxLen := by
    obtain ⟨_, _, e0, h1, h2, _⟩ := own_form h
    simp at e0
    obtain ⟨_, rfl⟩ := e0
    exact ⟨h1, h2⟩
  unfold maxLen at hcm
  have hj0 : (0 : Int) ≤ (i : Int) + 1 := by omega
  have hjn : ((i : Int) + 1) ≤ (n : Int) := by omega
  have hic : i ≤ cap := by omega
  have hjc : i + 1 ≤ cap := by omega
  have hin : i ≤ n := by omega
  obtain ⟨k, rfl⟩ : ∃ k, n = k + 1 := ⟨n - 1, by omega⟩
  have hik : i ≤ k := by omega
  obtain ⟨news, hnews⟩ : ∃ news, news = flat mcells (xs.drop (i + 1)) := ⟨_, rfl⟩
  have hlen : news.length = (k - i) * 12 := by rw [hnews, flat_len mcells_len]; simp [hl]
  have HL : Hid (news.length = (k - i) * 12) := hlen
  have hH := h
  have HONE : Hid (∀ u ∈ news, u.oneCell' = true) := by rw [hnews]; exact flat_one' (k := 12) mcells_one _
  have HSP : Hid (∀ j, j < news.length → (w.drew.cell? ⟨g, 0 + i * 12 + j, none⟩).isSome = true ∧ w.drew.frozen? ⟨g, 0 + i * 12 + j, none⟩ = false) := fun j hj => by
    rw [hlen] at hj
    exact own_there (own_below h (Below.refl _ _).drew) (by omega)
  have HSRC : Hid (∀ j u, news[j]? = some u → w.drew.cell? ((⟨g, 0 + (i + 1) * 12, none⟩ : Addr).add j) = some u) := fun j u hu => by
    have hr := (own_isRow mcells_len h hl).1
    have hf : (flat mcells xs)[(i + 1) * 12 + j]? = some u := by
      rw [← List.getElem?_drop, flat_drop mcells_len, ← hnews]
      exact hu
    have := (own_below h (Below.refl _ _).drew).cells (g := g) rfl _ _ hf
    rw [adr_add] at this ⊢
    rw [show 0 + (i + 1) * 12 + j = 0 + ((i + 1) * 12 + j) by omega]
    exact this
  obtain ⟨W1, hW1⟩ : ∃ W1, W1 = w.drew.setCells g (0 + i * 12) news := ⟨_, rfl⟩
  have own1 : W1.ownsRow B 40 12 (.slice (some ⟨g, 0, none⟩) (k + 1) cap) (k + 1) (setL (flat mcells xs) (0 + i * 12) news) := by
    rw [hW1]
    exact own_setCells news _ _ _ (own_below h (Below.refl _ _).drew) (by rw [hlen]; omega)
  have gr1 : w.grownBy W1 (some g) := by
    rw [hW1]
    have h1 : w.grownBy w.drew (some g) := ⟨rfl, rfl, rfl, Nat.le_refl _, fun _ _ _ => rfl⟩
    have h2 := grown_setCells g news (0 + i * 12) w.drew
    exact ⟨h2.os.trans h1.os, h2.tape.trans h1.tape, h2.output.trans h1.output, Nat.le_trans h1.size h2.size, fun q hq hne => (h2.block q (Nat.lt_of_lt_of_le hq h1.size) hne).trans (h1.block q hq hne)⟩
  have HW1 : Hid (W1 = w.drew.setCells g (0 + i * 12) news) := hW1
  have hcl := fun ty c => run_clear_one W1 ty g (k * 12) c (fun j hj => own_there own1 (by omega))
  have HFIN : Hid ((W1.setCells g (k * 12) zeroM).ownsRow B 40 12 (.slice (some ⟨g, 0, none⟩) k cap) k (flat mcells (xs.eraseIdx i)) ∧ w.grownBy (W1.setCells g (k * 12) zeroM) (some g)) := by
    have hz : zeroM.length = 12 := rfl
    have hX : (flat mcells xs).length = (k + 1) * 12 := by rw [flat_len mcells_len, hl]
    have own2 := own_prefix (own_setCells zeroM (k * 12) W1 _ own1 (by rw [hz]; omega)) (k := k) (by omega) (by omega)
    have e1 : setL (flat mcells xs) (0 + i * 12) news = (flat mcells xs).take (i * 12) ++ news ++ (flat mcells xs).drop (0 + i * 12 + news.length) := by
      rw [setL_eq _ _ _ (by rw [hlen, hX]; omega), Nat.zero_add]
    have e2 : (setL (setL (flat mcells xs) (0 + i * 12) news) (k * 12) zeroM).take (k * 12) = flat mcells (xs.eraseIdx i) := by
      rw [setL_eq _ _ _ (by rw [setL_len, hz, hX]; omega)]
      have h1 : ((setL (flat mcells xs) (0 + i * 12) news).take (k * 12)).length = k * 12 := by
        rw [List.length_take, setL_len, hX]
        omega
      rw [List.append_assoc, List.take_append_of_le_length (by rw [h1]; exact Nat.le_refl _), List.take_take, Nat.min_self, e1]
      have h2 : ((flat mcells xs).take (i * 12) ++ news).length = k * 12 := by
        rw [List.length_append, List.length_take, hX, hlen]
        omega
      rw [List.take_append_of_le_length (by rw [h2]; exact Nat.le_refl _), List.take_of_length_le (by rw [h2]; exact Nat.le_refl _), flat_take mcells_len, hnews, ← flat_append, erase_eq]
    rw [e2] at own2
    have g2 := grown_setCells g zeroM (k * 12) W1
    exact ⟨own2, ⟨g2.os.trans gr1.os, g2.tape.trans gr1.tape, g2.output.trans gr1.output, Nat.le_trans gr1.size g2.size, fun q hq hne => (g2.block q (Nat.lt_of_lt_of_le hq gr1.size) hne).trans (gr1.block q hq hne)⟩⟩
  have hkc : k + 1 ≤ cap := by omega
  have hkn : ¬ cap = k := by omega
  have hk1 : (k : Int) ≤ (k : Int) + 1 := by omega
  have ek : i + (k - i) = k := by omega
  clear hW1 hlen h hnews gr1 own1
  by_cases hcj : cap = i + 1
  · obtain rfl : i = k := by omega
    subst hcj
    go_enter Tryd.func23, Tryd.ntmps23
    go_upto_region 5 with (fail)
    go_region_law (refine step_append_room (by rfl) (.tmp 22) (.tmp 25) 28 (by rfl) 40 i0 12 Tryd.underlying28 E.info E.size g 0 i (i + 1) (by simp [Act.eval, Act.put]) ⟨g, 0, none⟩ 0 0 news (by simp [Act.eval, Act.put]) (by rw [HL.out]; simp) (fun j u hu => by have := (List.getElem?_eq_some_iff.1 hu).1; rw [HL.out] at this; simp at this) HONE.out (by omega) HSP.out ?_; rw [← HW1.out])
    all_goals
      go_wp2
      go_ret
      exact ⟨rfl, HFIN.out.1, HFIN.out.2⟩
  · go_enter Tryd.func23, Tryd.ntmps23
    go_upto_region 5 with (fail)
    go_region_law (refine step_append_room (by rfl) (.tmp 22) (.tmp 25) 28 (by rfl) 40 i0 12 Tryd.underlying28 E.info E.size g 0 i cap (by simp [Act.eval, Act.put]) ⟨g, 0 + (i + 1) * 12, none⟩ (k - i) (cap - (i + 1)) news (by simp [Act.eval, Act.put]) HL.out HSRC.out HONE.out (by omega) HSP.out ?_; rw [← HW1.out, ek])
    all_goals
      go_wp2
      go_ret
      exact ⟨rfl, HFIN.out.1, HFIN.out.2⟩
end Go.Proofs.YtcdfaimpbbjioaaDoor.Nt
