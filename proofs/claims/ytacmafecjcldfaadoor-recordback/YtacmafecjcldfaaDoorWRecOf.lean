/- What DecodeRecord answers, on plain data: of a record's bytes, of more, of fewer; and what is encoded again. -/
import Derived.Test.YtacmafecjcldfaaDoorWDecR
import Derived.Test.YtacmafecjcldfaaDoorWReadM
namespace Go.Proofs.YtacmafecjcldfaaDoor
open Go.ChangeShapes Go.WideShapes Go.ChangeAt Go.RowKit
set_option linter.unusedVariables false

theorem recBytes_pos (r : RcV) : 5 ≤ (recBytes r).length := by simp [recBytes, be_len]
theorem recFault_sa (s : Int) (ls : List (Int × Int)) (p : Int) (r : RcV) (a : Option Addr) (c : Nat) : recFault s ls p { r with sa := a, sc := c } = recFault s ls p r := rfl
theorem recBytes_sa (r : RcV) (a : Option Addr) (c : Nat) : recBytes { r with sa := a, sc := c } = recBytes r := rfl
theorem recOf_back {s : Int} {ls : List (Int × Int)} {p : Int} {r : RcV} (h : recFault s ls p r = 0) (hl : r.sites.length = r.sl) : recOf s ls p (recBytes r) = (r.pl, 0) := by
  have hc := (may_rec h).1
  have hd := decR_enc h hl []
  rw [List.append_nil] at hd
  have h' : recFault s ls p r.pl = 0 := h
  unfold recOf
  rw [hd]
  simp [hc, h', RS.fin]
theorem recOf_more {s : Int} {ls : List (Int × Int)} {p : Int} {r : RcV} (h : recFault s ls p r = 0) (hl : r.sites.length = r.sl) (t : Int) : recOf s ls p (recBytes r ++ [t]) = (RcV.zero, 4) := by
  have hc := (may_rec h).1
  have hd := decR_enc h hl [t]
  unfold recOf
  rw [hd]
  simp [hc, RS.fin, RS.refuse]
theorem recOf_torn {s : Int} {ls : List (Int × Int)} {p : Int} {r : RcV} (h : recFault s ls p r = 0) (hl : r.sites.length = r.sl) (j : Nat) (hj : j < (recBytes r).length) : recOf s ls p ((recBytes r).take j) = (RcV.zero, 5) := by
  have hc := (may_rec h).1
  have hd := decR_torn h hl j hj
  have hf : (decRecRS ⟨(recBytes r).take j, 0⟩).2.fin.wrong = 5 := by rw [fin_wrong (by rw [hd]; decide), hd]
  unfold recOf
  rw [hf]
  simp [hc]
theorem recOf_nil {s : Int} {ls : List (Int × Int)} {p : Int} (hc : cfgFault s ls p = 0) : recOf s ls p [] = (RcV.zero, 5) := by
  have hf : (decRecRS ⟨[], 0⟩).2.fin.wrong = 5 := by rw [fin_wrong (by rw [decR_empty]; decide), decR_empty]
  unfold recOf
  rw [hf]
  simp [hc]
theorem recOf_fixed {s : Int} {ls : List (Int × Int)} {p : Int} {b : List Int} (hb : Byt b) (h : (recOf s ls p b).2 = 0) : recBytes (recOf s ls p b).1 = b ∧ recFault s ls p (recOf s ls p b).1 = 0 := by
  unfold recOf at h ⊢
  split at h
  · rename_i hc; exact absurd h hc
  · rename_i hc
    rw [if_neg hc]
    split at h
    · rename_i hw; exact absurd h hw
    · rename_i hw
      rw [if_neg hw]
      split at h
      · rename_i hm; exact absurd h hm
      · rename_i hm
        rw [if_neg hm]
        exact ⟨encR_dec hb (by simpa using hw), by simpa using hm⟩
theorem recOf_bad {s : Int} {ls : List (Int × Int)} {p : Int} {b : List Int} (h : (recOf s ls p b).2 ≠ 0) : (recOf s ls p b).1 = RcV.zero := by
  unfold recOf at h ⊢
  split
  · rfl
  · rename_i hc
    rw [if_neg hc] at h
    split
    · rfl
    · rename_i hw
      rw [if_neg hw] at h
      split
      · rfl
      · rename_i hm
        rw [if_neg hm] at h
        exact absurd rfl h

/-- Ints that lie elsewhere stay. -/
theorem isI_far {U : World} {a : Option Addr} {len cap q k : Nat} {zs : List Int} {v : Value} (h : IsInts U a len cap zs) (hne : ∀ b off, a = some ⟨b, off, none⟩ → q ≠ b) : IsInts (U.setCell ⟨q, k, none⟩ v) a len cap zs := by
  obtain ⟨h1, h2, h3, hbd, h4⟩ := h
  refine ⟨h1, h2, h3, hbd, fun hp => ?_⟩
  obtain ⟨b, off, e, hlt, hl⟩ := h4 hp
  have hn := hne b off e
  refine ⟨b, off, e, by simpa using hlt, fun i hi => ?_⟩
  rw [World.cell?_of_block (a := ⟨b, off + i, none⟩) (Below.heap_setCell U _ _ b (fun e' => hn e'.symm))]
  exact hl i hi
theorem isI_alloc {U : World} {a : Option Addr} {len cap : Nat} {zs : List Int} (h : IsInts U a len cap zs) (ob : Obj) : IsInts (U.alloc ob) a len cap zs := h.below ((Below.refl _ _).alloc (Nat.le_refl _) ob)
end Go.Proofs.YtacmafecjcldfaaDoor
