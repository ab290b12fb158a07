/- What DecodeMessage answers, on plain data: of a message's bytes, of more, of fewer; and what is encoded again. -/
import Derived.Test.YtacmafecjcldfaaDoorWDecM
namespace Go.Proofs.YtacmafecjcldfaaDoor
open Go.ChangeShapes Go.WideShapes Go.ChangeAt Go.RowKit
set_option linter.unusedVariables false

theorem msgBytes_pos (m : MV) : 7 ≤ (msgBytes m).length := by simp [msgBytes, be_len]
theorem msgOf_back {s : Int} {ls : List (Int × Int)} {p : Int} {m : MV} (h : msgFault s ls p m = 0) : msgOf s ls p (msgBytes m) = (m, 0) := by
  have hc := (may_msg h).1
  have hd := dec_enc h []
  rw [List.append_nil] at hd
  unfold msgOf
  rw [hd]
  simp [hc, h, RS.fin]
theorem msgOf_more {s : Int} {ls : List (Int × Int)} {p : Int} {m : MV} (h : msgFault s ls p m = 0) (t : Int) : msgOf s ls p (msgBytes m ++ [t]) = (MV.zero, 4) := by
  have hc := (may_msg h).1
  have hd := dec_enc h [t]
  unfold msgOf
  rw [hd]
  simp [hc, RS.fin, RS.refuse]
theorem msgOf_torn {s : Int} {ls : List (Int × Int)} {p : Int} {m : MV} (h : msgFault s ls p m = 0) (j : Nat) (hj : j < (msgBytes m).length) : msgOf s ls p ((msgBytes m).take j) = (MV.zero, 5) := by
  have hc := (may_msg h).1
  have hd := dec_torn h j hj
  have hf : (decMsgRS ⟨(msgBytes m).take j, 0⟩).2.fin.wrong = 5 := by rw [fin_wrong (by rw [hd]; decide), hd]
  unfold msgOf
  rw [hf]
  simp [hc]
theorem msgOf_nil {s : Int} {ls : List (Int × Int)} {p : Int} (hc : cfgFault s ls p = 0) : msgOf s ls p [] = (MV.zero, 5) := by
  have hf : (decMsgRS ⟨[], 0⟩).2.fin.wrong = 5 := by rw [fin_wrong (by rw [dec_empty]; decide), dec_empty]
  unfold msgOf
  rw [hf]
  simp [hc]
theorem msgOf_fixed {s : Int} {ls : List (Int × Int)} {p : Int} {b : List Int} (hb : Byt b) (h : (msgOf s ls p b).2 = 0) : msgBytes (msgOf s ls p b).1 = b ∧ msgFault s ls p (msgOf s ls p b).1 = 0 := by
  unfold msgOf at h ⊢
  split at h
  · rename_i hc; exact absurd h hc
  · rename_i hc
    rw [if_neg hc]
    split at h
    · rename_i hw; exact absurd h hw
    · rename_i hw
      rw [if_neg hw]
      split at h
      · rename_i hm; exact absurd h hm
      · rename_i hm
        rw [if_neg hm]
        exact ⟨enc_dec hb (by simpa using hw), by simpa using hm⟩
theorem msgOf_bad {s : Int} {ls : List (Int × Int)} {p : Int} {b : List Int} (h : (msgOf s ls p b).2 ≠ 0) : (msgOf s ls p b).1 = MV.zero := by
  unfold msgOf at h ⊢
  split
  · rfl
  · rename_i hc
    rw [if_neg hc] at h
    split
    · rfl
    · rename_i hw
      rw [if_neg hw] at h
      split
      · rfl
      · rename_i hm
        rw [if_neg hm] at h
        exact absurd rfl h
end Go.Proofs.YtacmafecjcldfaaDoor
