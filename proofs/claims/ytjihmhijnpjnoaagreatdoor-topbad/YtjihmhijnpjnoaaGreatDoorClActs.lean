/- Acts in rows: cut, and put one behind the other. -/
import Derived.Test.YtjihmhijnpjnoaaGreatDoorRInvS
import Derived.Test.YtjihmhijnpjnoaaGreatDoorSOwn
import Derived.Test.YtjihmhijnpjnoaaGreatDoorOwnActs
import Derived.Test.YtjihmhijnpjnoaaGreatDoorPurge
import Derived.Test.YtjihmhijnpjnoaaGreatDoorClRun0
namespace Go.Proofs.YtjihmhijnpjnoaaGreatDoor.Ln
open Go.ChangeShapes Go.WideShapes Go.ChangeAt Go.RowKit
open Go.Proofs.YtjihmhijnpjnoaaGreatDoor.St (IsRow Elem flat own_isRow)
set_option linter.unusedVariables false

theorem act_elem : ∃ (i : TypeInfo) (z : Value), Elem 12 AV.cells 34 28 i z 120 := by
  obtain ⟨i0, hi, li0, li1, li2⟩ := info_parts actInfo
  refine ⟨i0, _, ⟨AV.cells_len, by decide, fun x u hu => ?_, Tryz.underlying28, hi, li0, li1, li2, rfl⟩⟩
  simp only [AV.cells, List.mem_cons, List.mem_nil_iff, or_false] at hu
  rcases hu with rfl | rfl | rfl | rfl | rfl | rfl | rfl | rfl | rfl | rfl | rfl | rfl <;> rfl
theorem flat_acts (ys : List AV) : flat AV.cells ys = flatActs ys := rfl
theorem OwnActs.isRow {w : World} {B : Nat} {ao : Option Addr} {n cp : Nat} {ys : List AV} (h : OwnActs w B (.slice ao n cp) ys) : IsRow 12 AV.cells w ao n cp ys := by
  have h2 := h.isActs.1
  subst h2
  exact (own_isRow AV.cells_len h.row rfl).1
theorem acts_of_row {w : World} {a : Option Addr} {n cp : Nat} {ys : List AV} (h : IsRow 12 AV.cells w a n cp ys) (hk : ∀ y ∈ ys, IsInts w y.ka y.kl y.kc y.keep) : IsActs w a n cp ys := by
  refine ⟨h.1, h.2.1, h.2.2.1, fun h0 => ?_⟩
  obtain ⟨b, off, e, hz, hc⟩ := h.2.2.2.2 h0
  refine ⟨b, off, e, hz, fun i hi => ⟨fun j hj => hc i (by rw [← h.1]; exact hi) j hj, hk _ ?_⟩⟩
  simp [List.getD, hi]
theorem acts_keeps {w : World} {a : Option Addr} {n cp : Nat} {ys : List AV} (h : IsActs w a n cp ys) : ∀ y ∈ ys, IsInts w y.ka y.kl y.kc y.keep := fun y hy => by
  obtain ⟨i, hi, rfl⟩ := List.getElem_of_mem hy
  obtain ⟨b, off, e, hz, hc⟩ := h.2.2.2 (by have := h.1; omega)
  have := (hc i hi).2
  simpa [List.getD, hi] using this
theorem act_size (U : World) : (sizeOf (Tryz.prog.elem 28)).run Tryz.prog U = .ok 12 U := by kernel_rfl
theorem act_take (ta : Option Addr) (tl tc k : Nat) (hk : k ≤ tc) (U : World) : (Instr.sliceAt 28 (.slice ta tl tc) none (some (.int .i64 (k : Int))) none).run Tryz.prog U = .ok (.slice ta k tc) U := by
  refine (run_sliceAt_slice (P := Tryz.prog) (w := U) 28 (.slice ta tl tc) none (some (.int .i64 _)) none (by kernel_rfl)).trans ?_
  rw [run_slice_h (P := Tryz.prog) (t := 28) (a := ta) (len := tl) (cap := tc) (w := U) (by kernel_rfl) .i64 (k : Int) (by omega) (by omega), act_size]
  cases ta <;> simp [sliced, Result.andThen, Addr.add]
theorem act_drop (ta : Option Addr) (tl tc k : Nat) (hk : k ≤ tl) (hc : tl ≤ tc) (ys : List AV) : ∃ (pa : Option Addr) (pc : Nat), (∀ U : World, (Instr.sliceAt 28 (.slice ta tl tc) (some (.int .i64 (k : Int))) none none).run Tryz.prog U = .ok (.slice pa (tl - k) pc) U) ∧ ∀ U, IsRow 12 AV.cells U ta tl tc ys → IsRow 12 AV.cells U pa (tl - k) pc (ys.drop k) := by
  refine ⟨if tc = k then ta else ta.map (·.add (k * 12)), tc - k, fun U => ?_, fun U h => ?_⟩
  · refine (run_sliceAt_slice (P := Tryz.prog) (w := U) 28 (.slice ta tl tc) (some (.int .i64 _)) none none (by kernel_rfl)).trans ?_
    rw [run_slice_l (P := Tryz.prog) (t := 28) (a := ta) (len := tl) (cap := tc) (w := U) (by kernel_rfl) .i64 (k : Int) (by omega) (by omega), act_size]
    simp [sliced, Result.andThen]
  · obtain ⟨h1, h2, h3, h4, h5⟩ := h
    refine ⟨by simp; omega, by omega, by omega, fun e => ?_, fun h0 => ?_⟩
    · by_cases hck : tc = k
      · omega
      · rw [if_neg hck] at e
        have : ta = none := by simpa using e
        have := h4 this
        omega
    · obtain ⟨b, off, e, hz, hcl⟩ := h5 (by omega)
      refine ⟨b, off + k * 12, ?_, hz, fun i hi j hj => ?_⟩
      · rw [if_neg (by omega), e]
        simp [Addr.add]
      · have := hcl (k + i) (by omega) j hj
        rw [show off + k * 12 + i * 12 + j = off + (k + i) * 12 + j by omega, this]
        simp [List.getD, List.getElem?_drop]
/-- An act of no kind. -/
def act9 : AV := ⟨9, 0, 0, 0, 0, none, 0, 0, 0, 0, 0, 0, 0, .empty, []⟩
theorem row9 (u : World) : IsRow 12 AV.cells (u.alloc (.cells #[.int .i64 9, .int .i64 0, .int .i64 0, .int .i64 0, .int .i64 0, .slice none 0 0, .int .i64 0, .int .i64 0, .int .i64 0, .int .i64 0, .int .i64 0, .string .empty] 34)) (some ⟨u.heap.size, 0, none⟩) 1 1 [act9] := by
  refine ⟨rfl, Nat.le_refl _, by unfold maxLen; omega, (fun e => by cases e), fun _ => ⟨u.heap.size, 0, rfl, by simp, fun i hi j hj => ?_⟩⟩
  obtain rfl : i = 0 := by omega
  rcases (by omega : j = 0 ∨ j = 1 ∨ j = 2 ∨ j = 3 ∨ j = 4 ∨ j = 5 ∨ j = 6 ∨ j = 7 ∨ j = 8 ∨ j = 9 ∨ j = 10 ∨ j = 11) with rfl | rfl | rfl | rfl | rfl | rfl | rfl | rfl | rfl | rfl | rfl | rfl <;> simp [act9, AV.cells]
theorem ints_nil (w : World) : IsInts w none 0 0 [] := ⟨rfl, Nat.le_refl _, Nat.zero_le _, fun i => by simp, fun h => absurd h (by omega)⟩
theorem bad9 {s : Int} {ls : List (Int × Int)} {p : Int} (h : cfgFault s ls p = 0) : actFault s ls p act9 = 3 := by
  unfold actFault
  rw [if_neg (by simpa using h)]
  rfl
theorem firstBad_bent {f : AV → Int} {x : AV} : ∀ (l : List AV) (k i : Nat), (∀ y ∈ l, f y = 0) → f x ≠ 0 → k ≤ l.length → firstBad f i (l.take k ++ [x] ++ l.drop k) = (((i + k : Nat) : Int), f x)
  | l, 0, i, h, hx, hk => by
    simp only [List.take_zero, List.nil_append, List.drop_zero, List.cons_append]
    unfold firstBad
    rw [if_neg hx]
    simp
  | [], k + 1, i, h, hx, hk => by simp at hk
  | a :: l, k + 1, i, h, hx, hk => by
    simp only [List.take_succ_cons, List.cons_append, List.drop_succ_cons]
    unfold firstBad
    rw [if_pos (h a (List.mem_cons_self ..))]
    have := firstBad_bent l k (i + 1) (fun y hy => h y (List.mem_cons_of_mem _ hy)) hx (by simpa using hk)
    simp only [List.append_assoc] at this ⊢
    rw [this]
    congr 1
    omega
end Go.Proofs.YtjihmhijnpjnoaaGreatDoor.Ln
