/- Texts of this claim, one behind the other. -/
import Derived.Test.YtcmjcopopkafnaaDoorProg
import Derived.WalkKit
import Derived.ProofKit
import Derived.Below
import Derived.OpenShut
import Derived.Test.YtcmjcopopkafnaaDoorA0HearKind
import Derived.Test.YtcmjcopopkafnaaDoorM26HearKind
import Derived.Test.YtcmjcopopkafnaaDoorM13HearKind
import Derived.Test.YtcmjcopopkafnaaDoorM5HearKind
import Derived.OwnWalk
/- Contracts of picked and Lab: a number from 0 on below another one; a label of a raw number. -/
namespace Go.Proofs.YtcmjcopopkafnaaDoor
open Go.ChangeShapes Go.WideShapes Go.ChangeAt Go.RowKit

def labL (n : Int) : Int := pk n 3
def labC (n : Int) : Int := pk (n.tdiv 3) 4
theorem labL_bd (n : Int) : 0 ≤ labL n ∧ labL n ≤ 2 := by have := pk_bd n 3 (by decide); unfold labL; omega
theorem labC_bd (n : Int) : 0 ≤ labC n ∧ labC n ≤ 3 := by have := pk_bd (n.tdiv 3) 4 (by decide); unfold labC; omega
theorem tdiv_bd {n m : Int} (hn : -9223372036854775808 ≤ n ∧ n ≤ 9223372036854775807) (hm : 0 < m) : -9223372036854775808 ≤ n.tdiv m ∧ n.tdiv m ≤ 9223372036854775807 := by
  rcases Int.le_total 0 n with h | h
  · have h1 : 0 ≤ n.tdiv m := Int.tdiv_nonneg h (by omega)
    have h2 : n.tdiv m ≤ n := Int.tdiv_le_self m h
    omega
  · have e : n.tdiv m = -((-n).tdiv m) := by rw [Int.neg_tdiv]; omega
    have h1 : 0 ≤ (-n).tdiv m := Int.tdiv_nonneg (by omega) (by omega)
    have h2 : (-n).tdiv m ≤ -n := Int.tdiv_le_self m (by omega)
    omega

end Go.Proofs.YtcmjcopopkafnaaDoor
/- When a message may be, on plain data: its range part by part, its form kind by kind. -/
namespace Go.Proofs.YtcmjcopopkafnaaDoor
open Go.ChangeShapes Go.WideShapes Go.ChangeAt Go.RowKit

theorem rangeB_of (s : Int) (n : Nat) (kind frm dst site num label key value version ask code : Int) (yes : Bool) : msgRange s n ⟨kind, frm, dst, site, num, label, key, value, version, ask, yes, code⟩ = (inR frm 0 (s - 1) && inR dst 0 (s - 1) && txnOK s site num && plc label n && inR key 0 7 && inR value 0 1073741824 && inR version 0 1048576 && inR ask 0 1048576 && isCd code) ∨ 6 < n := by
  by_cases hn : 6 < n
  · exact .inr hn
  · left
    unfold msgRange partsOK MV.parts
    have e1 : (inTops topL [label, key, value, version, ask, bit yes, code, 0] && plc label n && isCd code) = (plc label n && inR key 0 7 && inR value 0 1073741824 && inR version 0 1048576 && inR ask 0 1048576 && isCd code) := by
      have hb : inR (bit yes) 0 1 = true := by cases yes <;> rfl
      have h0 : inR 0 0 4 = true := rfl
      simp only [inTops, topL, hb, h0, Bool.and_true]
      rw [Bool.eq_iff_iff]
      simp only [Bool.and_eq_true]
      constructor
      · rintro ⟨⟨⟨h1, h2, h3, h4, h5, h6⟩, h7⟩, h8⟩
        exact ⟨⟨⟨⟨⟨h7, h2⟩, h3⟩, h4⟩, h5⟩, h8⟩
      · rintro ⟨⟨⟨⟨⟨h7, h2⟩, h3⟩, h4⟩, h5⟩, h8⟩
        refine ⟨⟨⟨?_, h2, h3, h4, h5, ?_⟩, h7⟩, h8⟩
        · have h9 := plc_true h7
          exact inR_true (n := label) (lo := 0) (hi := 5) (by omega) (by omega)
        · unfold isCd at h8
          simp at h8
          exact ⟨trivial, inR_true (n := code) (lo := 0) (hi := 11) (by omega) (by omega)⟩
    have e2 : ∀ l : Int, [l, key, value, version, ask, bit yes, code, 0].getD 0 0 = l := fun _ => rfl
    have e3 : ∀ l : Int, [label, key, value, version, ask, bit yes, l, 0].getD 6 0 = l := fun _ => rfl
    simp only [e2, e3]
    rw [e1]
    simp only [Bool.and_assoc]

theorem formB_1 (frm dst site num label key value version ask code : Int) (yes : Bool) : msgForm ⟨1, frm, dst, site, num, label, key, value, version, ask, yes, code⟩ = decide (value = 0 ∧ version = 0 ∧ yes = false ∧ code = 0) := by
  rw [Bool.eq_iff_iff, decide_eq_true_eq]
  cases yes <;> simp [msgForm, mHasOf, mHas, hasAll, MV.parts, bit] <;> omega
theorem formB_2 (frm dst site num label key value version ask code : Int) (yes : Bool) : msgForm ⟨2, frm, dst, site, num, label, key, value, version, ask, yes, code⟩ = decide (label = 0 ∧ version = 0 ∧ yes = false ∧ code = 0) := by
  rw [Bool.eq_iff_iff, decide_eq_true_eq]
  cases yes <;> simp [msgForm, mHasOf, mHas, hasAll, MV.parts, bit] <;> omega
theorem formB_3 (frm dst site num label key value version ask code : Int) (yes : Bool) : msgForm ⟨3, frm, dst, site, num, label, key, value, version, ask, yes, code⟩ = decide (value = 0 ∧ ask = 0 ∧ yes = false ∧ code = 0) := by
  rw [Bool.eq_iff_iff, decide_eq_true_eq]
  cases yes <;> simp [msgForm, mHasOf, mHas, hasAll, MV.parts, bit] <;> omega
theorem formB_4 (frm dst site num label key value version ask code : Int) (yes : Bool) : msgForm ⟨4, frm, dst, site, num, label, key, value, version, ask, yes, code⟩ = decide (label = 0 ∧ key = 0 ∧ value = 0 ∧ version = 0 ∧ ask = 0 ∧ code = 0) := by
  rw [Bool.eq_iff_iff, decide_eq_true_eq]
  cases yes <;> simp [msgForm, mHasOf, mHas, hasAll, MV.parts, bit] <;> omega
theorem formB_5 (frm dst site num label key value version ask code : Int) (yes : Bool) : msgForm ⟨5, frm, dst, site, num, label, key, value, version, ask, yes, code⟩ = decide (yes = false ∧ (code = 0 ∨ (value = 0 ∧ version = 0))) := by
  rw [Bool.eq_iff_iff, decide_eq_true_eq]
  cases yes <;> simp [msgForm, mHasOf, mHas, hasAll, MV.parts, bit] <;> omega
theorem formB_6 (frm dst site num label key value version ask code : Int) (yes : Bool) : msgForm ⟨6, frm, dst, site, num, label, key, value, version, ask, yes, code⟩ = decide (label = 0 ∧ value = 0 ∧ version = 0 ∧ yes = false) := by
  rw [Bool.eq_iff_iff, decide_eq_true_eq]
  cases yes <;> simp [msgForm, mHasOf, mHas, hasAll, MV.parts, bit] <;> omega
theorem formB_7 (frm dst site num label key value version ask code : Int) (yes : Bool) : msgForm ⟨7, frm, dst, site, num, label, key, value, version, ask, yes, code⟩ = decide (value = 0 ∧ ask = 0 ∧ code = 0) := by
  rw [Bool.eq_iff_iff, decide_eq_true_eq]
  cases yes <;> simp [msgForm, mHasOf, mHas, hasAll, MV.parts, bit] <;> omega
theorem formB_8 (frm dst site num label key value version ask code : Int) (yes : Bool) : msgForm ⟨8, frm, dst, site, num, label, key, value, version, ask, yes, code⟩ = decide (label = 0 ∧ key = 0 ∧ value = 0 ∧ version = 0 ∧ ask = 0 ∧ yes = false ∧ code = 0) := by
  rw [Bool.eq_iff_iff, decide_eq_true_eq]
  cases yes <;> simp [msgForm, mHasOf, mHas, hasAll, MV.parts, bit] <;> omega
theorem formB_9 (frm dst site num label key value version ask code : Int) (yes : Bool) : msgForm ⟨9, frm, dst, site, num, label, key, value, version, ask, yes, code⟩ = decide (label = 0 ∧ key = 0 ∧ value = 0 ∧ version = 0 ∧ ask = 0 ∧ yes = false ∧ code = 0) := by
  rw [Bool.eq_iff_iff, decide_eq_true_eq]
  cases yes <;> simp [msgForm, mHasOf, mHas, hasAll, MV.parts, bit] <;> omega

end Go.Proofs.YtcmjcopopkafnaaDoor
/- The labels of a config made of raw numbers, as a list; and how the config that is being made lies in memory. -/
namespace Go.Proofs.YtcmjcopopkafnaaDoor
open Go.ChangeShapes Go.WideShapes Go.ChangeAt Go.RowKit

/-! ### The labels -/
def cfgStep (ls : List (Int × Int)) (n : Int) : List (Int × Int) := if ls.length < 4 ∧ (labL n, labC n) ∉ ls then ls ++ [(labL n, labC n)] else ls
def cfgRow (zs : List Int) (k : Nat) : List (Int × Int) := (zs.take k).foldl cfgStep []
def cfgLabs (zs : List Int) : List (Int × Int) := if cfgRow zs zs.length = [] then [(0, 0)] else cfgRow zs zs.length

theorem cfgRow_zero (zs : List Int) : cfgRow zs 0 = [] := by simp [cfgRow]
theorem cfgRow_succ {zs : List Int} {k : Nat} (h : k < zs.length) : cfgRow zs (k + 1) = cfgStep (cfgRow zs k) (zs.getD k 0) := by
  unfold cfgRow
  rw [List.take_succ_eq_append_getElem h, List.foldl_append]
  simp [List.getD, h]
theorem cfgStep_full {ls : List (Int × Int)} {n : Int} (h : 4 ≤ ls.length) : cfgStep ls n = ls := by
  unfold cfgStep; rw [if_neg (by omega)]
theorem cfgStep_there {ls : List (Int × Int)} {n : Int} (h : (labL n, labC n) ∈ ls) : cfgStep ls n = ls := by
  unfold cfgStep; rw [if_neg (fun hh => hh.2 h)]
theorem cfgStep_new {ls : List (Int × Int)} {n : Int} (h : ls.length < 4) (hn : (labL n, labC n) ∉ ls) : cfgStep ls n = ls ++ [(labL n, labC n)] := by
  unfold cfgStep; rw [if_pos ⟨h, hn⟩]
theorem cfgStep_len (ls : List (Int × Int)) (n : Int) (h : ls.length ≤ 4) : (cfgStep ls n).length ≤ 4 := by
  unfold cfgStep
  split
  · simp; omega
  · exact h
theorem cfgRow_full {zs : List Int} {k : Nat} (h : 4 ≤ (cfgRow zs k).length) (hk : k ≤ zs.length) : cfgRow zs zs.length = cfgRow zs k := by
  have : ∀ m, k + m ≤ zs.length → cfgRow zs (k + m) = cfgRow zs k := by
    intro m
    induction m with
    | zero => intro _; rfl
    | succ m ih =>
      intro hm
      have e := ih (by omega)
      rw [show k + (m + 1) = (k + m) + 1 by omega, cfgRow_succ (by omega), e, cfgStep_full h]
  have := this (zs.length - k) (by omega)
  rwa [show k + (zs.length - k) = zs.length by omega] at this

/-- Small labels, each once. -/
structure Good (ls : List (Int × Int)) : Prop where
  len : ls.length ≤ 4
  once : ls.Nodup
  small : ∀ p ∈ ls, 0 ≤ p.1 ∧ p.1 ≤ 2 ∧ 0 ≤ p.2 ∧ p.2 ≤ 3
theorem good_nil : Good [] := ⟨by simp, by simp, by simp⟩
theorem good_step {ls : List (Int × Int)} (n : Int) (h : Good ls) : Good (cfgStep ls n) := by
  unfold cfgStep
  split
  · rename_i hh
    refine ⟨by simp; omega, ?_, ?_⟩
    · rw [List.nodup_append]
      refine ⟨h.once, by simp, ?_⟩
      intro a ha b hb
      simp at hb
      subst hb
      intro e
      subst e
      exact hh.2 ha
    · intro p hp
      rcases List.mem_append.1 hp with hp | hp
      · exact h.small p hp
      · simp at hp
        subst hp
        have := labL_bd n
        have := labC_bd n
        simp
        omega
  · exact h
theorem good_row (zs : List Int) (k : Nat) : Good (cfgRow zs k) := by
  unfold cfgRow
  have : ∀ (l : List Int) (ls : List (Int × Int)), Good ls → Good (l.foldl cfgStep ls) := by
    intro l
    induction l with
    | nil => intro ls h; exact h
    | cons a l ih => intro ls h; exact ih _ (good_step a h)
  exact this _ _ good_nil
theorem good_labs (zs : List Int) : Good (cfgLabs zs) ∧ 1 ≤ (cfgLabs zs).length := by
  unfold cfgLabs
  split
  · exact ⟨⟨by simp, by simp, by simp⟩, by simp⟩
  · rename_i h
    exact ⟨good_row _ _, List.length_pos_iff.2 h⟩

theorem labFault_good : ∀ (rest seen : List (Int × Int)), (seen ++ rest).Nodup → (∀ p ∈ rest, 0 ≤ p.1 ∧ p.1 ≤ 2 ∧ 0 ≤ p.2 ∧ p.2 ≤ 3) → labFault seen rest = 0 := by
  intro rest
  induction rest with
  | nil => intro seen _ _; rfl
  | cons a r ih =>
    intro seen hn hs
    have ha := hs a (by simp)
    have hb : inB a.1 a.2 = true := by unfold inB; simp; omega
    have hm : a ∉ seen := by
      intro hm
      rw [List.nodup_append] at hn
      exact hn.2.2 a hm a (by simp) rfl
    rw [labFault, if_neg (by rw [hb]; simp), if_neg hm]
    refine ih _ ?_ (fun p hp => hs p (by simp [hp]))
    rwa [List.append_assoc]
theorem cfgFault_good {ls : List (Int × Int)} {s p : Int} (h : Good ls) (h1 : 1 ≤ ls.length) (hs : 1 ≤ s ∧ s ≤ 4) (hp : 1 ≤ p ∧ p ≤ 1048576) : cfgFault s ls p = 0 :=
  cfg_ok hs.1 hs.2 h1 (by have := h.len; omega) (labFault_good ls [] (by simpa using h.once) h.small) hp.1 hp.2

def cfgS (s : Int) : Int := 1 + pk s 3
def cfgP (p : Int) : Int := 1 + pk p 4
theorem cfgS_bd (s : Int) : 1 ≤ cfgS s ∧ cfgS s ≤ 3 := by have := pk_bd s 3 (by decide); unfold cfgS; omega
theorem cfgP_bd (s : Int) : 1 ≤ cfgP s ∧ cfgP s ≤ 4 := by have := pk_bd s 4 (by decide); unfold cfgP; omega

/-! ### In memory -/
def flat (ls : List (Int × Int)) : List Value := ls.flatMap fun p => [.int .i64 p.1, .int .i64 p.2]
theorem flat_len (ls : List (Int × Int)) : (flat ls).length = ls.length * 2 := by
  unfold flat
  induction ls with
  | nil => rfl
  | cons a l ih => simp at ih ⊢; omega
theorem flat_append (ls : List (Int × Int)) (x y : Int) : flat (ls ++ [(x, y)]) = flat ls ++ [.int .i64 x, .int .i64 y] := by simp [flat]
theorem flat_get (ls : List (Int × Int)) : ∀ i, i < ls.length → (flat ls)[i * 2]? = some (.int .i64 (ls.getD i (0, 0)).1) ∧ (flat ls)[i * 2 + 1]? = some (.int .i64 (ls.getD i (0, 0)).2) := by
  induction ls with
  | nil => intro i hi; simp at hi
  | cons a l ih =>
    intro i hi
    cases i with
    | zero => simp [flat]
    | succ i =>
      have := ih i (by simpa using hi)
      rw [show (i + 1) * 2 = i * 2 + 1 + 1 by omega]
      simpa [flat] using this

theorem Below.toGrown {w w' : World} (h : Below w.heap.size w w') : w.grownBy w' none := ⟨h.os, h.tape, h.output, h.size, fun k hk _ => h.block k hk⟩
theorem own_below {w w' : World} {base : Nat} {e : TypeId} {size : Nat} {v : Value} {n : Nat} {xs : List Value} (h : w.ownsRow base e size v n xs) (hb : Below w.heap.size w w') : w'.ownsRow base e size v n xs :=
  h.kept (Below.toGrown hb) (by cases hv : v.ownBlock <;> simp)

/-- Labels that a slice of the call's own holds lie in memory one behind the other. -/
theorem labs_of_own {w : World} {base : Nat} {g cp : Nat} {ls : List (Int × Int)} (h : w.ownsRow base 73 2 (.slice (some ⟨g, 0, none⟩) ls.length cp) ls.length (flat ls)) : Labs w g 0 ls := by
  have hlt := h.lt g rfl
  refine ⟨hlt.2, fun i hi => ?_⟩
  obtain ⟨h0, h1⟩ := flat_get ls i hi
  have a0 := h.cells (g := g) rfl _ _ h0
  have a1 := h.cells (g := g) rfl _ _ h1
  have e : ∀ j, (⟨g, 0, none⟩ : Addr).add j = ⟨g, 0 + j, none⟩ := by
    intro j
    unfold Addr.add
    by_cases hj : j = 0 <;> simp [hj]
  rw [e] at a0 a1
  exact ⟨a0, a1⟩
end Go.Proofs.YtcmjcopopkafnaaDoor
