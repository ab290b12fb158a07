/- What End leaves: of a transaction that wrote one key; of any. -/
import Derived.Test.YtbmbahifkegehabSKFresh
namespace Go.Proofs.Ytbmbahifkegehab.St
open Go.ChangeShapes Go.WideShapes Go.ChangeAt Go.RowKit
set_option linter.unusedVariables false

theorem wf_of {n : Int} (h1 : -9223372036854775808 ≤ n) (h2 : n ≤ 9223372036854775807) : (Lit.int .i64 n).wf = true := by
  simp [Lit.wf, IntKind.min, IntKind.max, IntKind.signed, IntKind.bits]
  omega
theorem txWf_of {t : Int × Int} (h : txOK t = true) : TxWf t := by
  simp only [txOK, Bool.and_eq_true] at h
  have h1 := inR_of h.1
  have h2 := inR_of h.2
  exact ⟨wf_of (by omega) (by omega), wf_of (by omega) (by omega)⟩
theorem OKP.wf {s : SV} (h : OKP s.data) : ∀ t ∈ s.over, TxWf t := fun t ht => txWf_of (h.ovt t ht)
theorem wOf_one {p : PS} {x : Int × Int} {k va ask : Int} (hF : Fresh p x) : (p.locks ++ [(⟨x, k, true, va, ask⟩ : LkV)]).filter (wOf x) = [⟨x, k, true, va, ask⟩] := by
  rw [List.filter_append]
  have : p.locks.filter (wOf x) = [] := List.filter_eq_nil_iff.2 fun o ho => by simp [wOf, hF.nl o ho]
  rw [this]
  simp [wOf]
theorem end_err {s : SV} {x : Int × Int} {yes : Bool} (ho : OKP s.data) (hx : txOK x = true) : endErr s x yes = 0 := by
  unfold endErr
  rw [if_pos ho.ok, if_pos hx]
theorem end_data {s : SV} {x : Int × Int} {yes : Bool} (ho : OKP s.data) (hx : txOK x = true) : endData s x yes = ⟨if yes then putAll s.items (s.locks.filter (wOf x)) else s.items, keep (ofT x) s.locks, keep (dbT x) s.doubts, if x ∈ s.over then s.over else s.over ++ [x]⟩ := by
  unfold endData
  rw [if_pos (end_err ho hx)]
theorem end_plus {p : PS} {u : SV} {x : Int × Int} {k va ask : Int} {yes : Bool} (hF : Fresh p x) (hP : Plus p u.data ⟨x, k, true, va, ask⟩) (ho : OKP u.data) (hver : ∀ y ∈ p.items, y.version ≤ 1048000) :
    endErr u x yes = 0 ∧ OKP (endData u x yes) ∧ (endData u x yes).items = (if yes then putI k va p.items else p.items) ∧ (endData u x yes).locks = p.locks ∧ (endData u x yes).over = p.over ++ [x] := by
  have hE := end_err (yes := yes) ho hF.okx
  have el : u.locks = p.locks ++ [⟨x, k, true, va, ask⟩] := hP.locks
  have ei : u.items = p.items := hP.items
  have eo : u.over = p.over := hP.over
  refine ⟨hE, (end_ok hE (v := 1048000) (by omega) (by omega) (by rw [ei]; exact hver)).1, ?_, ?_, ?_⟩
  all_goals rw [end_data ho hF.okx]
  · show (if yes then putAll u.items (u.locks.filter (wOf x)) else u.items) = _
    rw [ei, el, wOf_one hF]
    rfl
  · show keep (ofT x) u.locks = p.locks
    rw [el]
    unfold keep
    rw [List.filter_append, List.filter_eq_self.2 (fun o h => by simp [ofT, hF.nl o h])]
    simp [ofT]
  · show (if x ∈ u.over then u.over else u.over ++ [x]) = p.over ++ [x]
    rw [eo, if_neg hF.nov]
/-- Who is over is over. -/
theorem end_again {s : SV} {x : Int × Int} {yes : Bool} (ho : OKP s.data) (hx : txOK x = true) (hver : ∀ y ∈ s.items, y.version ≤ 1048000) {u : SV} (hd : u.data = endData s x yes) (no : Bool) :
    OKP u.data ∧ x ∈ u.over ∧ (∀ k ∈ u.locks, k.t ≠ x) ∧ endErr u x no = 0 ∧ endData u x no = u.data ∧ u.locks = keep (ofT x) s.locks ∧ (u.over = s.over ∨ u.over = s.over ++ [x]) := by
  have hE := end_err (yes := yes) ho hx
  have hok : OKP u.data := by rw [hd]; exact (end_ok hE (v := 1048000) (by omega) (by omega) hver).1
  rw [end_data ho hx] at hd
  have el : u.locks = keep (ofT x) s.locks := congrArg PS.locks hd
  have ed : u.doubts = keep (dbT x) s.doubts := congrArg PS.doubts hd
  have eo : u.over = if x ∈ s.over then s.over else s.over ++ [x] := congrArg PS.over hd
  have hin : x ∈ u.over := by
    rw [eo]
    split
    · assumption
    · simp
  have hno : ∀ k ∈ u.locks, k.t ≠ x := by
    rw [el]
    intro k hk
    have := (mem_keep.1 hk).2
    simpa [ofT] using this
  refine ⟨hok, hin, hno, end_err hok hx, ?_, el, ?_⟩
  · rw [end_data hok hx]
    have h1 : u.locks.filter (wOf x) = [] := List.filter_eq_nil_iff.2 fun o h => by simp [wOf, hno o h]
    have h2 : keep (ofT x) u.locks = u.locks := List.filter_eq_self.2 fun o h => by simp [ofT, hno o h]
    have h3 : keep (dbT x) u.doubts = u.doubts := by
      rw [ed]
      unfold keep
      rw [List.filter_filter]
      congr 1
      funext d
      cases dbT x d <;> rfl
    rw [h1, h2, h3, if_pos hin]
    show (⟨if no then u.items else u.items, _, _, _⟩ : PS) = _
    rw [ite_self]
    rfl
  · rw [eo]
    split
    · exact .inl rfl
    · exact .inr rfl
end Go.Proofs.Ytbmbahifkegehab.St
