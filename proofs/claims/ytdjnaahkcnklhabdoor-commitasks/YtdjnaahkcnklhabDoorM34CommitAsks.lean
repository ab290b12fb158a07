/- Texts of this claim, one behind the other. -/
import Derived.Test.YtdjnaahkcnklhabDoorM8CommitAsks
/- What of a message that may be is known. -/
namespace Go.Proofs.YtdjnaahkcnklhabDoor
open Go.ChangeShapes Go.WideShapes Go.ChangeAt Go.RowKit

/-- What of a message that may be is known. -/
theorem may_msg {s : Int} {ls : List (Int × Int)} {p : Int} {m : MV} (h : msgFault s ls p m = 0) : cfgFault s ls p = 0 ∧ inR m.kind 1 9 = true ∧ msgRange s ls.length m = true ∧ msgForm m = true := by
  unfold msgFault at h
  split at h
  · omega
  split at h
  · omega
  split at h
  · omega
  split at h
  · omega
  simp_all

end Go.Proofs.YtdjnaahkcnklhabDoor
/- When a message may be, on plain data: its range part by part, its form kind by kind. -/
namespace Go.Proofs.YtdjnaahkcnklhabDoor
open Go.ChangeShapes Go.WideShapes Go.ChangeAt Go.RowKit

theorem rangeB_of (s : Int) (n : Nat) (kind frm dst site num label key value version ask code : Int) (yes : Bool) : msgRange s n ⟨kind, frm, dst, site, num, label, key, value, version, ask, yes, code⟩ = (inR frm 0 (s - 1) && inR dst 0 (s - 1) && txnOK s site num && plc label n && inR key 0 7 && inR value 0 1073741824 && inR version 0 1048576 && inR ask 0 1048576 && isCd code) ∨ 6 < n := by
  by_cases hn : 6 < n
  · exact .inr hn
  · left
    unfold msgRange partsOK MV.parts
    have e1 : (inTops topL [label, key, value, version, ask, bit yes, code, 0] && plc label n && isCd code) = (plc label n && inR key 0 7 && inR value 0 1073741824 && inR version 0 1048576 && inR ask 0 1048576 && isCd code) := by
      have hb : inR (bit yes) 0 1 = true := by cases yes <;> rfl
      have h0 : inR 0 0 4 = true := rfl
      simp only [inTops, topL, hb, h0, Bool.and_true]
      rw [Bool.eq_iff_iff]
      simp only [Bool.and_eq_true]
      constructor
      · rintro ⟨⟨⟨h1, h2, h3, h4, h5, h6⟩, h7⟩, h8⟩
        exact ⟨⟨⟨⟨⟨h7, h2⟩, h3⟩, h4⟩, h5⟩, h8⟩
      · rintro ⟨⟨⟨⟨⟨h7, h2⟩, h3⟩, h4⟩, h5⟩, h8⟩
        refine ⟨⟨⟨?_, h2, h3, h4, h5, ?_⟩, h7⟩, h8⟩
        · have h9 := plc_true h7
          exact inR_true (n := label) (lo := 0) (hi := 5) (by omega) (by omega)
        · unfold isCd at h8
          simp at h8
          exact ⟨trivial, inR_true (n := code) (lo := 0) (hi := 11) (by omega) (by omega)⟩
    have e2 : ∀ l : Int, [l, key, value, version, ask, bit yes, code, 0].getD 0 0 = l := fun _ => rfl
    have e3 : ∀ l : Int, [label, key, value, version, ask, bit yes, l, 0].getD 6 0 = l := fun _ => rfl
    simp only [e2, e3]
    rw [e1]
    simp only [Bool.and_assoc]

theorem formB_1 (frm dst site num label key value version ask code : Int) (yes : Bool) : msgForm ⟨1, frm, dst, site, num, label, key, value, version, ask, yes, code⟩ = decide (value = 0 ∧ version = 0 ∧ yes = false ∧ code = 0) := by
  rw [Bool.eq_iff_iff, decide_eq_true_eq]
  cases yes <;> simp [msgForm, mHasOf, mHas, hasAll, MV.parts, bit] <;> omega
theorem formB_2 (frm dst site num label key value version ask code : Int) (yes : Bool) : msgForm ⟨2, frm, dst, site, num, label, key, value, version, ask, yes, code⟩ = decide (label = 0 ∧ version = 0 ∧ yes = false ∧ code = 0) := by
  rw [Bool.eq_iff_iff, decide_eq_true_eq]
  cases yes <;> simp [msgForm, mHasOf, mHas, hasAll, MV.parts, bit] <;> omega
theorem formB_3 (frm dst site num label key value version ask code : Int) (yes : Bool) : msgForm ⟨3, frm, dst, site, num, label, key, value, version, ask, yes, code⟩ = decide (value = 0 ∧ ask = 0 ∧ yes = false ∧ code = 0) := by
  rw [Bool.eq_iff_iff, decide_eq_true_eq]
  cases yes <;> simp [msgForm, mHasOf, mHas, hasAll, MV.parts, bit] <;> omega
theorem formB_4 (frm dst site num label key value version ask code : Int) (yes : Bool) : msgForm ⟨4, frm, dst, site, num, label, key, value, version, ask, yes, code⟩ = decide (label = 0 ∧ key = 0 ∧ value = 0 ∧ version = 0 ∧ ask = 0 ∧ code = 0) := by
  rw [Bool.eq_iff_iff, decide_eq_true_eq]
  cases yes <;> simp [msgForm, mHasOf, mHas, hasAll, MV.parts, bit] <;> omega
theorem formB_5 (frm dst site num label key value version ask code : Int) (yes : Bool) : msgForm ⟨5, frm, dst, site, num, label, key, value, version, ask, yes, code⟩ = decide (yes = false ∧ (code = 0 ∨ (value = 0 ∧ version = 0))) := by
  rw [Bool.eq_iff_iff, decide_eq_true_eq]
  cases yes <;> simp [msgForm, mHasOf, mHas, hasAll, MV.parts, bit] <;> omega
theorem formB_6 (frm dst site num label key value version ask code : Int) (yes : Bool) : msgForm ⟨6, frm, dst, site, num, label, key, value, version, ask, yes, code⟩ = decide (label = 0 ∧ value = 0 ∧ version = 0 ∧ yes = false) := by
  rw [Bool.eq_iff_iff, decide_eq_true_eq]
  cases yes <;> simp [msgForm, mHasOf, mHas, hasAll, MV.parts, bit] <;> omega
theorem formB_7 (frm dst site num label key value version ask code : Int) (yes : Bool) : msgForm ⟨7, frm, dst, site, num, label, key, value, version, ask, yes, code⟩ = decide (value = 0 ∧ ask = 0 ∧ code = 0) := by
  rw [Bool.eq_iff_iff, decide_eq_true_eq]
  cases yes <;> simp [msgForm, mHasOf, mHas, hasAll, MV.parts, bit] <;> omega
theorem formB_8 (frm dst site num label key value version ask code : Int) (yes : Bool) : msgForm ⟨8, frm, dst, site, num, label, key, value, version, ask, yes, code⟩ = decide (label = 0 ∧ key = 0 ∧ value = 0 ∧ version = 0 ∧ ask = 0 ∧ yes = false ∧ code = 0) := by
  rw [Bool.eq_iff_iff, decide_eq_true_eq]
  cases yes <;> simp [msgForm, mHasOf, mHas, hasAll, MV.parts, bit] <;> omega
theorem formB_9 (frm dst site num label key value version ask code : Int) (yes : Bool) : msgForm ⟨9, frm, dst, site, num, label, key, value, version, ask, yes, code⟩ = decide (label = 0 ∧ key = 0 ∧ value = 0 ∧ version = 0 ∧ ask = 0 ∧ yes = false ∧ code = 0) := by
  rw [Bool.eq_iff_iff, decide_eq_true_eq]
  cases yes <;> simp [msgForm, mHasOf, mHas, hasAll, MV.parts, bit] <;> omega

end Go.Proofs.YtdjnaahkcnklhabDoor
