/- What is taken, and what is sent so many times, on plain data. -/
import Derived.Test.YtcdfaimpbbjioaaDoorNSentPlain
import Derived.Test.YtcdfaimpbbjioaaDoorNTake
namespace Go.Proofs.YtcdfaimpbbjioaaDoor.Nt
open Go.ChangeShapes Go.WideShapes Go.ChangeAt Go.RowKit
set_option linter.unusedVariables false

theorem total_setL {ll : List (List MV)} {k : Nat} (hk : k < ll.length) (x : List MV) : total (ll.set k x) + (ll.getD k []).length = total ll + x.length := by
  induction ll generalizing k with
  | nil => simp at hk
  | cons l r ih =>
    cases k with
    | zero => simp [total]; omega
    | succ k =>
      have := ih (k := k) (by simpa using hk)
      simp only [total, List.set_cons_succ, List.map_cons, List.sum_cons, List.getD_cons_succ] at *
      omega
theorem sent_rep {s : Int} {n : Nat} {m : MV} (hp : plcN s m < n) : ∀ k, sent s (List.replicate n []) (List.replicate k m) = (List.replicate n []).set (plcN s m) (List.replicate (min k 30) m) := by
  intro k
  induction k with
  | zero =>
    refine List.ext_getElem (by simp [sent]) fun i h1 h2 => ?_
    have hi : i < n := by simpa [sent] using h1
    by_cases e : plcN s m = i <;> simp [sent, e]
  | succ k ih =>
    rw [List.replicate_succ', sent_snoc, ih]
    have hl : plcN s m < (List.replicate n ([] : List MV)).length := by simpa using hp
    have hg : (((List.replicate n ([] : List MV)).set (plcN s m) (List.replicate (min k 30) m)).getD (plcN s m) []) = List.replicate (min k 30) m := by
      rw [getD_setL _ _ _ _ hl, if_pos rfl]
    show (if (((List.replicate n ([] : List MV)).set (plcN s m) (List.replicate (min k 30) m)).getD (plcN s m) []).length < 30 then ((List.replicate n ([] : List MV)).set (plcN s m) (List.replicate (min k 30) m)).set (plcN s m) (((List.replicate n ([] : List MV)).set (plcN s m) (List.replicate (min k 30) m)).getD (plcN s m) [] ++ [m]) else (List.replicate n ([] : List MV)).set (plcN s m) (List.replicate (min k 30) m)) = _
    rw [hg, List.length_replicate, List.set_set]
    by_cases h : k < 30
    · rw [if_pos (by omega), ← List.replicate_succ', show min k 30 + 1 = min (k + 1) 30 by omega]
    · rw [if_neg (by omega), show min (k + 1) 30 = min k 30 by omega]
theorem total_rep {n q : Nat} {x : List MV} (hq : q < n) : total ((List.replicate n []).set q x) = x.length := by
  have h := total_setL (ll := List.replicate n []) (k := q) (by simpa using hq) x
  have h0 : total (List.replicate n ([] : List MV)) = 0 := by
    induction n with
    | zero => rfl
    | succ n ih => simp [total]
  have h1 : ((List.replicate n ([] : List MV)).getD q []) = [] := by simp [List.getD, hq]
  rw [h0, h1] at h
  simpa using h
/-- What was sent so many times may be. -/
theorem fault_rep {s : Int} {ls : List (Int × Int)} {p : Int} {n k : Nat} {m : MV} {gs : List FL} (hc : cfgFault s ls p = 0) (hn : (n : Int) = s * s) (hm : msgFault s ls p m = 0) (hg : mss gs = sent s (List.replicate n []) (List.replicate k m)) : flyFault s ls p gs = 0 ∧ gs.length = n ∧ total (mss gs) = min k 30 ∧ atWay s (mss gs) m.frm m.dst = List.replicate (min k 30) m ∧ ∀ i, (gs.getD i default).ms.length ≤ 30 := by
  obtain ⟨s1, s4, _⟩ := cfg_zero hc
  obtain ⟨hpl, hpn⟩ := place_of hm s1 s4 hn
  rw [sent_rep hpn] at hg
  have hlen : gs.length = n := by rw [← mss_len, hg]; simp
  have hq : ∀ q, (gs.getD q default).ms = if q = plcN s m then List.replicate (min k 30) m else [] := fun q => by
    rw [← mss_at, hg, getD_setL _ _ _ _ (by simpa using hpn)]
    split
    · rfl
    · by_cases hi : q < n <;> simp [List.getD, hi]
  refine ⟨?_, hlen, by rw [hg, total_rep hpn, List.length_replicate], ?_, fun i => ?_⟩
  · have h : flyOK s ls p gs = true := flyOK_true fun j hj => by
      rw [hq]
      split
      · rename_i e
        subst e
        refine flOK_good (by simp; omega) fun i hi => ?_
        have hi' : i < min k 30 := by simpa using hi
        have : (List.replicate (min k 30) m).getD i default = m := by simp [List.getD, hi']
        rw [this]
        exact ⟨hm, hpl.symm⟩
      · rfl
    simp [flyFault, hc, h, hn, hlen]
  · show (mss gs).getD (plcN s m) [] = _
    rw [mss_at, hq, if_pos rfl]
  · rw [hq]
    split
    · simp; omega
    · simp
theorem taken_total {s : Int} {ll : List (List MV)} {f t kind : Int} {i : Nat} (hq : (f * s + t).toNat < ll.length) (hi : i < (atWay s ll f t).length) : total (takenL s ll f t kind i) + (if kind = 4 then 0 else 1) = total ll + (if kind = 4 then 1 else 0) := by
  unfold takenL
  have h := fun x => total_setL hq x
  by_cases hk : kind = 4
  · have := h (atWay s ll f t ++ [(atWay s ll f t).getD i default])
    rw [if_pos hk, if_pos hk, if_pos hk]
    rw [List.length_append] at this
    unfold atWay at this ⊢
    simp only [List.length_cons, List.length_nil] at this
    omega
  · have := h ((atWay s ll f t).eraseIdx i)
    rw [if_neg hk, if_neg hk, if_neg hk]
    rw [List.length_eraseIdx_of_lt hi] at this
    unfold atWay at this hi ⊢
    omega
/-- The first two words of what Take answers do not matter. -/
theorem take_code {s : Int} {ls : List (Int × Int)} {p : Int} {fl : Nat} {fs : List FL} {f t pick kind : Int} {w w' : World} {e : Ending} (h : TakeAns s ls p fl fs f t pick kind w w' e) : ∃ (a' : Option Addr) (l' c' : Nat) (m : MV), e = .returned (.tuple #[.slice a' l' c', m.val, .int .i64 (takeErr s ls p fs f t pick kind)]) := by
  unfold TakeAns at h
  by_cases h0 : takeErr s ls p fs f t pick kind = 0
  · rw [if_pos h0] at h
    obtain ⟨g, gs, rfl, _⟩ := h
    exact ⟨_, _, _, _, by rw [h0]⟩
  · rw [if_neg h0] at h
    exact ⟨none, 0, 0, ⟨0, 0, 0, 0, 0, 0, 0, 0, 0, 0, false, 0⟩, h⟩
end Go.Proofs.YtcdfaimpbbjioaaDoor.Nt
