/- Texts of this claim, one behind the other. -/
import Derived.Test.YtcmjcopopkafnaaDoorM2HearKind
import Derived.Deep.Cut
import Derived.Lib.QuietBelow
import Derived.Deep.DeepCutAuto
import Derived.Deep.CutBlock
/- Contracts of the document's small functions: In, plainTxn, doubtOf, isOver. -/
namespace Go.Proofs.YtcmjcopopkafnaaDoor.St
open Go.ChangeShapes Go.WideShapes Go.ChangeAt Go.RowKit
set_option linter.unusedVariables false

end Go.Proofs.YtcmjcopopkafnaaDoor.St
/- What the document's StoreMay asks, on plain data, and that it is what Check asks. -/
namespace Go.Proofs.YtcmjcopopkafnaaDoor.St
open Go.ChangeShapes Go.WideShapes Go.ChangeAt Go.RowKit
set_option linter.unusedVariables false

def itemsR : Option Int → List ItV → Bool
  | _, [] => true
  | p, x :: r => inR x.key 0 7 && inR x.value 0 1073741824 && inR x.version 1 1048576 && (match p with | none => true | some q => !(decide (x.key ≤ q))) && itemsR (some x.key) r
def lkRest (k : LkV) : Bool := inR k.key 0 7 && inR k.value 0 1073741824 && inR k.ask 0 1048576 && (k.write || (decide (k.value = 0) && decide (k.ask = 0)))
def lkR (ds : List DbV) : List LkV → List LkV → Bool
  | _, [] => true
  | seen, k :: r => (ds.any (dbT k.t) && lkRest k) && !(seen.any (against k)) && lkR ds (seen ++ [k]) r
def dbR (ls : List LkV) (ov : List (Int × Int)) : List DbV → List DbV → Bool
  | _, [] => true
  | seen, d :: r => txOK d.t && inR d.age 0 1048576 && ls.any (ofT d.t) && !(seen.any (dbT d.t)) && !(decide (d.t ∈ ov)) && dbR ls ov (seen ++ [d]) r
def refOK (s : SV) : Bool := decide (s.locks.length ≤ 24) && itemsR none s.items && lkR s.doubts [] s.locks && dbR s.locks s.over [] s.doubts && overGo [] s.over

theorem items_same : ∀ (l : List ItV) (q : Int), -1 ≤ q → itemsR (some q) l = itemsOK (q + 1) l := by
  intro l
  induction l with
  | nil => intro q _; rfl
  | cons x r ih =>
    intro q hq
    simp only [itemsR, itemsOK]
    by_cases h : inR x.key (q + 1) 7 = true
    · have := inR_of h
      rw [h, inR_true (n := x.key) (lo := 0) (by omega) this.2, ih x.key (by omega)]
      have : ¬ x.key ≤ q := by omega
      simp [this]
    · have h' : inR x.key (q + 1) 7 = false := by simpa using h
      rw [h']
      have := inR_not h'
      by_cases h0 : inR x.key 0 7 = true
      · have h1 := inR_of h0
        have : x.key ≤ q := by omega
        simp [this]
      · have : inR x.key 0 7 = false := by simpa using h0
        simp [this]
theorem items_none (l : List ItV) : itemsR none l = itemsOK 0 l := by
  cases l with
  | nil => rfl
  | cons x r =>
    simp only [itemsR, itemsOK]
    by_cases h : inR x.key 0 7 = true
    · have := inR_of h
      rw [items_same r x.key (by omega)]
      simp
    · have h' : inR x.key 0 7 = false := by simpa using h
      simp [h']

def nag : List LkV → List LkV → Bool
  | _, [] => true
  | seen, k :: r => !(seen.any (against k)) && nag (seen ++ [k]) r
def onceD : List DbV → List DbV → Bool
  | _, [] => true
  | seen, d :: r => !(seen.any (dbT d.t)) && onceD (seen ++ [d]) r
theorem locksGo_parts : ∀ (l seen : List LkV), locksGo seen l = (l.all (fun k => txOK k.t) && l.all lkRest && nag seen l) := by
  intro l
  induction l with
  | nil => intro seen; rfl
  | cons k r ih =>
    intro seen
    simp only [locksGo, nag, List.all_cons, ih, lockOK, lkRest]
    rw [Bool.eq_iff_iff]
    simp only [Bool.and_eq_true]
    constructor <;> intro h <;> simp_all
theorem lkR_parts (ds : List DbV) : ∀ (l seen : List LkV), lkR ds seen l = (l.all (fun k => ds.any (dbT k.t)) && l.all lkRest && nag seen l) := by
  intro l
  induction l with
  | nil => intro seen; rfl
  | cons k r ih =>
    intro seen
    simp only [lkR, nag, List.all_cons, ih]
    rw [Bool.eq_iff_iff]
    simp only [Bool.and_eq_true]
    constructor <;> intro h <;> simp_all
def dbRest (ls : List LkV) (ov : List (Int × Int)) (d : DbV) : Bool := inR d.age 0 1048576 && ls.any (ofT d.t) && !(decide (d.t ∈ ov))
theorem doubtsGo_parts (ls : List LkV) (ov : List (Int × Int)) : ∀ (l seen : List DbV), doubtsGo ls ov seen l = (l.all (dbRest ls ov) && onceD seen l) := by
  intro l
  induction l with
  | nil => intro seen; rfl
  | cons d r ih =>
    intro seen
    simp only [doubtsGo, onceD, List.all_cons, ih, dbRest]
    rw [Bool.eq_iff_iff]
    simp only [Bool.and_eq_true]
    constructor <;> intro h <;> simp_all
theorem dbR_parts (ls : List LkV) (ov : List (Int × Int)) : ∀ (l seen : List DbV), dbR ls ov seen l = (l.all (fun d => txOK d.t) && l.all (dbRest ls ov) && onceD seen l) := by
  intro l
  induction l with
  | nil => intro seen; rfl
  | cons d r ih =>
    intro seen
    simp only [dbR, onceD, List.all_cons, ih, dbRest]
    rw [Bool.eq_iff_iff]
    simp only [Bool.and_eq_true]
    constructor <;> intro h <;> simp_all

theorem ref_is (s : SV) : refOK s = storeOK s := by
  unfold refOK storeOK locksOK doubtsOK
  rw [items_none, lkR_parts, dbR_parts, locksGo_parts, doubtsGo_parts]
  rw [Bool.eq_iff_iff]
  simp only [Bool.and_eq_true]
  constructor
  · rintro ⟨⟨⟨⟨h1, h2⟩, ⟨h3, h4⟩, h5⟩, ⟨h6, h7⟩, h8⟩, h9⟩
    refine ⟨⟨⟨h2, h1, ⟨?_, h4⟩, h5⟩, h9⟩, ⟨h7, h8⟩, h3⟩
    rw [List.all_eq_true] at h3 h6 ⊢
    intro k hk
    obtain ⟨d, hd, e⟩ := List.any_eq_true.1 (h3 k hk)
    have e' : d.t = k.t := by simpa [dbT] using e
    rw [← e']
    exact h6 d hd
  · rintro ⟨⟨⟨h2, h1, ⟨ht, h4⟩, h5⟩, h9⟩, ⟨h7, h8⟩, h3⟩
    refine ⟨⟨⟨⟨h1, h2⟩, ⟨h3, h4⟩, h5⟩, ⟨?_, h7⟩, h8⟩, h9⟩
    rw [List.all_eq_true] at h7 ht ⊢
    intro d hd
    have := h7 d hd
    simp only [dbRest, Bool.and_eq_true] at this
    obtain ⟨k, hk, e⟩ := List.any_eq_true.1 this.1.2
    have e' : k.t = d.t := by simpa [ofT] using e
    rw [← e']
    exact ht k hk

def prevK (l : List ItV) : Nat → Option Int
  | 0 => none
  | k + 1 => some (l.getD k default).key
theorem itemsR_at {xs : List ItV} {k : Nat} (hk : k < xs.length) (h : itemsR none xs = itemsR (prevK xs k) (xs.drop k)) :
    itemsR none xs = (inR (xs.getD k default).key 0 7 && inR (xs.getD k default).value 0 1073741824 && inR (xs.getD k default).version 1 1048576 && (match prevK xs k with | none => true | some q => !(decide ((xs.getD k default).key ≤ q))) && itemsR (prevK xs (k + 1)) (xs.drop (k + 1))) := by
  rw [h, drop_at hk]
  rfl
theorem lkR_at {ds : List DbV} {xs : List LkV} {k : Nat} (hk : k < xs.length) (h : lkR ds [] xs = lkR ds (xs.take k) (xs.drop k)) :
    lkR ds [] xs = ((ds.any (dbT (xs.getD k default).t) && lkRest (xs.getD k default)) && !((xs.take k).any (against (xs.getD k default))) && lkR ds (xs.take (k + 1)) (xs.drop (k + 1))) := by
  rw [h, drop_at hk, take_at hk]
  rfl
theorem dbR_at {ls : List LkV} {ov : List (Int × Int)} {xs : List DbV} {k : Nat} (hk : k < xs.length) (h : dbR ls ov [] xs = dbR ls ov (xs.take k) (xs.drop k)) :
    dbR ls ov [] xs = (txOK (xs.getD k default).t && inR (xs.getD k default).age 0 1048576 && ls.any (ofT (xs.getD k default).t) && !((xs.take k).any (dbT (xs.getD k default).t)) && !(decide ((xs.getD k default).t ∈ ov)) && dbR ls ov (xs.take (k + 1)) (xs.drop (k + 1))) := by
  rw [h, drop_at hk, take_at hk]
  rfl
/-- The first place of a transaction's doubt is this one, just if it is not among those ahead. -/
theorem first_is {xs : List DbV} {k : Nat} (hk : k < xs.length) : decide (idxI (dbT (xs.getD k default).t) xs = (k : Int)) = !((xs.take k).any (dbT (xs.getD k default).t)) := by
  rw [Bool.eq_iff_iff]
  simp only [decide_eq_true_eq, Bool.not_eq_true', List.any_eq_false]
  constructor
  · intro h x hx
    obtain ⟨i, hi, rfl⟩ := List.getElem_of_mem hx
    have hi' : i < k := by simp at hi; omega
    intro hd
    unfold idxI at h
    cases hf : xs.findIdx? (dbT (xs.getD k default).t) with
    | none => rw [hf] at h; simp at h
    | some m =>
      rw [hf] at h
      simp at h
      obtain rfl : m = k := by omega
      rw [List.findIdx?_eq_some_iff_getElem] at hf
      obtain ⟨_, _, h3⟩ := hf
      have := h3 i hi'
      simp at hd
      exact absurd hd (by simpa using this)
  · intro h
    refine idxI_hit hk (fun i hi => ?_) (by simp [dbT])
    have hi' : i < xs.length := by omega
    have := h (xs.getD i default) (by
      rw [List.mem_take_iff_getElem]
      exact ⟨i, by omega, by simp [List.getD, hi']⟩)
    simpa using this
end Go.Proofs.YtcmjcopopkafnaaDoor.St
/- The contract of the document's StoreMay: at every store it tells whether it may be. -/
namespace Go.Proofs.YtcmjcopopkafnaaDoor.St
open Go.ChangeShapes Go.WideShapes Go.ChangeAt Go.RowKit
set_option linter.unusedVariables false

theorem take_any_at {α : Type} [Inhabited α] {p : α → Bool} {xs : List α} {j : Nat} (hj : j < xs.length) : (xs.take (j + 1)).any p = ((xs.take j).any p || p (xs.getD j default)) := by
  rw [take_at hj, List.any_append]
  simp
theorem any_take_none {α : Type} [Inhabited α] {p : α → Bool} {xs : List α} {k : Nat} (hk : k ≤ xs.length) (h : ∀ i, i < k → p (xs.getD i default) = false) : (xs.take k).any p = false := by
  rw [List.any_eq_false]
  intro x hx
  obtain ⟨i, hi, rfl⟩ := List.getElem_of_mem hx
  have hi1 : i < k := by simp at hi; omega
  have hi2 : i < xs.length := by omega
  have := h i hi1
  simpa [List.getD, hi2] using this
theorem any_take_some {α : Type} [Inhabited α] {p : α → Bool} {xs : List α} {k i : Nat} (hk : k ≤ xs.length) (hi : i < k) (h : p (xs.getD i default) = true) : (xs.take k).any p = true := by
  rw [List.any_eq_true]
  have hi2 : i < xs.length := by omega
  exact ⟨xs.getD i default, by rw [List.mem_take_iff_getElem]; exact ⟨i, by omega, by simp [List.getD, hi2]⟩, h⟩

theorem overGo_at' {xs : List (Int × Int)} {k : Nat} (hk : k < xs.length) (h : overGo [] xs = overGo (xs.take k) (xs.drop k)) :
    overGo [] xs = (!(decide (xs.getD k default ∈ xs.take k)) && txOK (xs.getD k default) && overGo (xs.take (k + 1)) (xs.drop (k + 1))) := by
  rw [h, drop_at hk, take_at hk]
  rfl
end Go.Proofs.YtcmjcopopkafnaaDoor.St
