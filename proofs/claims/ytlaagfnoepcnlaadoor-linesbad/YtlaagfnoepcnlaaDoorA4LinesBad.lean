/- The labels of a config made of raw numbers, as a list; and how the config that is being made lies in memory. -/
import Derived.Test.YtlaagfnoepcnlaaDoorM2LinesBad
import Derived.Test.YtlaagfnoepcnlaaDoorM3LinesBad
import Derived.OwnWalk
namespace Go.Proofs.YtlaagfnoepcnlaaDoor
open Go.ChangeShapes Go.WideShapes Go.ChangeAt Go.RowKit

/-! ### The labels -/
def cfgStep (ls : List (Int × Int)) (n : Int) : List (Int × Int) := if ls.length < 4 ∧ (labL n, labC n) ∉ ls then ls ++ [(labL n, labC n)] else ls
def cfgRow (zs : List Int) (k : Nat) : List (Int × Int) := (zs.take k).foldl cfgStep []
def cfgLabs (zs : List Int) : List (Int × Int) := if cfgRow zs zs.length = [] then [(0, 0)] else cfgRow zs zs.length

theorem cfgRow_zero (zs : List Int) : cfgRow zs 0 = [] := by simp [cfgRow]
theorem cfgRow_succ {zs : List Int} {k : Nat} (h : k < zs.length) : cfgRow zs (k + 1) = cfgStep (cfgRow zs k) (zs.getD k 0) := by
  unfold cfgRow
  rw [List.take_succ_eq_append_getElem h, List.foldl_append]
  simp [List.getD, h]
theorem cfgStep_full {ls : List (Int × Int)} {n : Int} (h : 4 ≤ ls.length) : cfgStep ls n = ls := by
  unfold cfgStep; rw [if_neg (by omega)]
theorem cfgStep_there {ls : List (Int × Int)} {n : Int} (h : (labL n, labC n) ∈ ls) : cfgStep ls n = ls := by
  unfold cfgStep; rw [if_neg (fun hh => hh.2 h)]
theorem cfgStep_new {ls : List (Int × Int)} {n : Int} (h : ls.length < 4) (hn : (labL n, labC n) ∉ ls) : cfgStep ls n = ls ++ [(labL n, labC n)] := by
  unfold cfgStep; rw [if_pos ⟨h, hn⟩]
theorem cfgStep_len (ls : List (Int × Int)) (n : Int) (h : ls.length ≤ 4) : (cfgStep ls n).length ≤ 4 := by
  unfold cfgStep
  split
  · simp; omega
  · exact h
theorem cfgRow_full {zs : List Int} {k : Nat} (h : 4 ≤ (cfgRow zs k).length) (hk : k ≤ zs.length) : cfgRow zs zs.length = cfgRow zs k := by
  have : ∀ m, k + m ≤ zs.length → cfgRow zs (k + m) = cfgRow zs k := by
    intro m
    induction m with
    | zero => intro _; rfl
    | succ m ih =>
      intro hm
      have e := ih (by omega)
      rw [show k + (m + 1) = (k + m) + 1 by omega, cfgRow_succ (by omega), e, cfgStep_full h]
  have := this (zs.length - k) (by omega)
  rwa [show k + (zs.length - k) = zs.length by omega] at this

/-- Small labels, each once. -/
structure Good (ls : List (Int × Int)) : Prop where
  len : ls.length ≤ 4
  once : ls.Nodup
  small : ∀ p ∈ ls, 0 ≤ p.1 ∧ p.1 ≤ 2 ∧ 0 ≤ p.2 ∧ p.2 ≤ 3
theorem good_nil : Good [] := ⟨by simp, by simp, by simp⟩
theorem good_step {ls : List (Int × Int)} (n : Int) (h : Good ls) : Good (cfgStep ls n) := by
  unfold cfgStep
  split
  · rename_i hh
    refine ⟨by simp; omega, ?_, ?_⟩
    · rw [List.nodup_append]
      refine ⟨h.once, by simp, ?_⟩
      intro a ha b hb
      simp at hb
      subst hb
      intro e
      subst e
      exact hh.2 ha
    · intro p hp
      rcases List.mem_append.1 hp with hp | hp
      · exact h.small p hp
      · simp at hp
        subst hp
        have := labL_bd n
        have := labC_bd n
        simp
        omega
  · exact h
theorem good_row (zs : List Int) (k : Nat) : Good (cfgRow zs k) := by
  unfold cfgRow
  have : ∀ (l : List Int) (ls : List (Int × Int)), Good ls → Good (l.foldl cfgStep ls) := by
    intro l
    induction l with
    | nil => intro ls h; exact h
    | cons a l ih => intro ls h; exact ih _ (good_step a h)
  exact this _ _ good_nil
theorem good_labs (zs : List Int) : Good (cfgLabs zs) ∧ 1 ≤ (cfgLabs zs).length := by
  unfold cfgLabs
  split
  · exact ⟨⟨by simp, by simp, by simp⟩, by simp⟩
  · rename_i h
    exact ⟨good_row _ _, List.length_pos_iff.2 h⟩

theorem labFault_good : ∀ (rest seen : List (Int × Int)), (seen ++ rest).Nodup → (∀ p ∈ rest, 0 ≤ p.1 ∧ p.1 ≤ 2 ∧ 0 ≤ p.2 ∧ p.2 ≤ 3) → labFault seen rest = 0 := by
  intro rest
  induction rest with
  | nil => intro seen _ _; rfl
  | cons a r ih =>
    intro seen hn hs
    have ha := hs a (by simp)
    have hb : inB a.1 a.2 = true := by unfold inB; simp; omega
    have hm : a ∉ seen := by
      intro hm
      rw [List.nodup_append] at hn
      exact hn.2.2 a hm a (by simp) rfl
    rw [labFault, if_neg (by rw [hb]; simp), if_neg hm]
    refine ih _ ?_ (fun p hp => hs p (by simp [hp]))
    rwa [List.append_assoc]
theorem cfgFault_good {ls : List (Int × Int)} {s p : Int} (h : Good ls) (h1 : 1 ≤ ls.length) (hs : 1 ≤ s ∧ s ≤ 4) (hp : 1 ≤ p ∧ p ≤ 1048576) : cfgFault s ls p = 0 :=
  cfg_ok hs.1 hs.2 h1 (by have := h.len; omega) (labFault_good ls [] (by simpa using h.once) h.small) hp.1 hp.2

def cfgS (s : Int) : Int := 1 + pk s 3
def cfgP (p : Int) : Int := 1 + pk p 4
theorem cfgS_bd (s : Int) : 1 ≤ cfgS s ∧ cfgS s ≤ 3 := by have := pk_bd s 3 (by decide); unfold cfgS; omega
theorem cfgP_bd (s : Int) : 1 ≤ cfgP s ∧ cfgP s ≤ 4 := by have := pk_bd s 4 (by decide); unfold cfgP; omega

/-! ### In memory -/
def flat (ls : List (Int × Int)) : List Value := ls.flatMap fun p => [.int .i64 p.1, .int .i64 p.2]
theorem flat_len (ls : List (Int × Int)) : (flat ls).length = ls.length * 2 := by
  unfold flat
  induction ls with
  | nil => rfl
  | cons a l ih => simp at ih ⊢; omega
theorem flat_append (ls : List (Int × Int)) (x y : Int) : flat (ls ++ [(x, y)]) = flat ls ++ [.int .i64 x, .int .i64 y] := by simp [flat]
theorem flat_get (ls : List (Int × Int)) : ∀ i, i < ls.length → (flat ls)[i * 2]? = some (.int .i64 (ls.getD i (0, 0)).1) ∧ (flat ls)[i * 2 + 1]? = some (.int .i64 (ls.getD i (0, 0)).2) := by
  induction ls with
  | nil => intro i hi; simp at hi
  | cons a l ih =>
    intro i hi
    cases i with
    | zero => simp [flat]
    | succ i =>
      have := ih i (by simpa using hi)
      rw [show (i + 1) * 2 = i * 2 + 1 + 1 by omega]
      simpa [flat] using this

theorem Below.toGrown {w w' : World} (h : Below w.heap.size w w') : w.grownBy w' none := ⟨h.os, h.tape, h.output, h.size, fun k hk _ => h.block k hk⟩
theorem own_below {w w' : World} {base : Nat} {e : TypeId} {size : Nat} {v : Value} {n : Nat} {xs : List Value} (h : w.ownsRow base e size v n xs) (hb : Below w.heap.size w w') : w'.ownsRow base e size v n xs :=
  h.kept (Below.toGrown hb) (by cases hv : v.ownBlock <;> simp)

/-- Labels that a slice of the call's own holds lie in memory one behind the other. -/
theorem labs_of_own {w : World} {base : Nat} {g cp : Nat} {ls : List (Int × Int)} (h : w.ownsRow base 70 2 (.slice (some ⟨g, 0, none⟩) ls.length cp) ls.length (flat ls)) : Labs w g 0 ls := by
  have hlt := h.lt g rfl
  refine ⟨hlt.2, fun i hi => ?_⟩
  obtain ⟨h0, h1⟩ := flat_get ls i hi
  have a0 := h.cells (g := g) rfl _ _ h0
  have a1 := h.cells (g := g) rfl _ _ h1
  have e : ∀ j, (⟨g, 0, none⟩ : Addr).add j = ⟨g, 0 + j, none⟩ := by
    intro j
    unfold Addr.add
    by_cases hj : j = 0 <;> simp [hj]
  rw [e] at a0 a1
  exact ⟨a0, a1⟩
end Go.Proofs.YtlaagfnoepcnlaaDoor
