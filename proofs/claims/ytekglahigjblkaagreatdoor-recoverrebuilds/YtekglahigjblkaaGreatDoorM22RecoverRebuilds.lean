/- Texts of this claim, one behind the other. -/
import Derived.Test.YtekglahigjblkaaGreatDoorM20RecoverRebuilds
import Derived.Test.YtekglahigjblkaaGreatDoorM17RecoverRebuilds
import Derived.Test.YtekglahigjblkaaGreatDoorM21RecoverRebuilds
import Derived.Test.YtekglahigjblkaaGreatDoorM14RecoverRebuilds
import Derived.Test.YtekglahigjblkaaGreatDoorM4RecoverRebuilds
import Derived.Test.YtekglahigjblkaaGreatDoorM19RecoverRebuilds
/- The contracts of store.refuseRead and Read. -/
namespace Go.Proofs.YtekglahigjblkaaGreatDoor.St
open Go.ChangeShapes Go.WideShapes Go.ChangeAt Go.RowKit
set_option linter.unusedVariables false

def rrErr (s : SV) (t : Int × Int) (key : Int) : Int := if t ∈ s.over then 13 else if s.locks.any (wrT key) then 11 else if 24 ≤ s.locks.length then 8 else 0
def readErr (s : SV) (t : Int × Int) (key : Int) : Int := if refErr s t key = 0 then (if idxI (byT t key) s.locks < 0 then rrErr s t key else 0) else refErr s t key
def readData (s : SV) (t : Int × Int) (key : Int) : PS := if readErr s t key = 0 then (if idxI (byT t key) s.locks < 0 then ⟨s.items, holdL s.locks ⟨t, key, false, 0, 0⟩, holdD s.doubts t, s.over⟩ else ⟨s.items, s.locks, s.doubts, s.over⟩) else PS.nil
def readVal (s : SV) (t : Int × Int) (key : Int) : Int := if readErr s t key = 0 then (if 0 ≤ idxI (byT t key) s.locks ∧ (s.locks.getD (idxI (byT t key) s.locks).toNat default).write = true then (s.locks.getD (idxI (byT t key) s.locks).toNat default).value else (itemAt s.items key).value) else 0
def readVer (s : SV) (t : Int × Int) (key : Int) : Int := if readErr s t key = 0 then (itemAt s.items key).version else 0

end Go.Proofs.YtekglahigjblkaaGreatDoor.St
/- What the document's StoreMay asks, on plain data, and that it is what Check asks. -/
namespace Go.Proofs.YtekglahigjblkaaGreatDoor.St
open Go.ChangeShapes Go.WideShapes Go.ChangeAt Go.RowKit
set_option linter.unusedVariables false

def itemsR : Option Int → List ItV → Bool
  | _, [] => true
  | p, x :: r => inR x.key 0 7 && inR x.value 0 1073741824 && inR x.version 1 1048576 && (match p with | none => true | some q => !(decide (x.key ≤ q))) && itemsR (some x.key) r
def lkRest (k : LkV) : Bool := inR k.key 0 7 && inR k.value 0 1073741824 && inR k.ask 0 1048576 && (k.write || (decide (k.value = 0) && decide (k.ask = 0)))
def lkR (ds : List DbV) : List LkV → List LkV → Bool
  | _, [] => true
  | seen, k :: r => (ds.any (dbT k.t) && lkRest k) && !(seen.any (against k)) && lkR ds (seen ++ [k]) r
def dbR (ls : List LkV) (ov : List (Int × Int)) : List DbV → List DbV → Bool
  | _, [] => true
  | seen, d :: r => txOK d.t && inR d.age 0 1048576 && ls.any (ofT d.t) && !(seen.any (dbT d.t)) && !(decide (d.t ∈ ov)) && dbR ls ov (seen ++ [d]) r
def refOK (s : SV) : Bool := decide (s.locks.length ≤ 24) && itemsR none s.items && lkR s.doubts [] s.locks && dbR s.locks s.over [] s.doubts && overGo [] s.over

theorem items_same : ∀ (l : List ItV) (q : Int), -1 ≤ q → itemsR (some q) l = itemsOK (q + 1) l := by
  intro l
  induction l with
  | nil => intro q _; rfl
  | cons x r ih =>
    intro q hq
    simp only [itemsR, itemsOK]
    by_cases h : inR x.key (q + 1) 7 = true
    · have := inR_of h
      rw [h, inR_true (n := x.key) (lo := 0) (by omega) this.2, ih x.key (by omega)]
      have : ¬ x.key ≤ q := by omega
      simp [this]
    · have h' : inR x.key (q + 1) 7 = false := by simpa using h
      rw [h']
      have := inR_not h'
      by_cases h0 : inR x.key 0 7 = true
      · have h1 := inR_of h0
        have : x.key ≤ q := by omega
        simp [this]
      · have : inR x.key 0 7 = false := by simpa using h0
        simp [this]
theorem items_none (l : List ItV) : itemsR none l = itemsOK 0 l := by
  cases l with
  | nil => rfl
  | cons x r =>
    simp only [itemsR, itemsOK]
    by_cases h : inR x.key 0 7 = true
    · have := inR_of h
      rw [items_same r x.key (by omega)]
      simp
    · have h' : inR x.key 0 7 = false := by simpa using h
      simp [h']

def nag : List LkV → List LkV → Bool
  | _, [] => true
  | seen, k :: r => !(seen.any (against k)) && nag (seen ++ [k]) r
def onceD : List DbV → List DbV → Bool
  | _, [] => true
  | seen, d :: r => !(seen.any (dbT d.t)) && onceD (seen ++ [d]) r
theorem locksGo_parts : ∀ (l seen : List LkV), locksGo seen l = (l.all (fun k => txOK k.t) && l.all lkRest && nag seen l) := by
  intro l
  induction l with
  | nil => intro seen; rfl
  | cons k r ih =>
    intro seen
    simp only [locksGo, nag, List.all_cons, ih, lockOK, lkRest]
    rw [Bool.eq_iff_iff]
    simp only [Bool.and_eq_true]
    constructor <;> intro h <;> simp_all
theorem lkR_parts (ds : List DbV) : ∀ (l seen : List LkV), lkR ds seen l = (l.all (fun k => ds.any (dbT k.t)) && l.all lkRest && nag seen l) := by
  intro l
  induction l with
  | nil => intro seen; rfl
  | cons k r ih =>
    intro seen
    simp only [lkR, nag, List.all_cons, ih]
    rw [Bool.eq_iff_iff]
    simp only [Bool.and_eq_true]
    constructor <;> intro h <;> simp_all
def dbRest (ls : List LkV) (ov : List (Int × Int)) (d : DbV) : Bool := inR d.age 0 1048576 && ls.any (ofT d.t) && !(decide (d.t ∈ ov))
theorem doubtsGo_parts (ls : List LkV) (ov : List (Int × Int)) : ∀ (l seen : List DbV), doubtsGo ls ov seen l = (l.all (dbRest ls ov) && onceD seen l) := by
  intro l
  induction l with
  | nil => intro seen; rfl
  | cons d r ih =>
    intro seen
    simp only [doubtsGo, onceD, List.all_cons, ih, dbRest]
    rw [Bool.eq_iff_iff]
    simp only [Bool.and_eq_true]
    constructor <;> intro h <;> simp_all
theorem dbR_parts (ls : List LkV) (ov : List (Int × Int)) : ∀ (l seen : List DbV), dbR ls ov seen l = (l.all (fun d => txOK d.t) && l.all (dbRest ls ov) && onceD seen l) := by
  intro l
  induction l with
  | nil => intro seen; rfl
  | cons d r ih =>
    intro seen
    simp only [dbR, onceD, List.all_cons, ih, dbRest]
    rw [Bool.eq_iff_iff]
    simp only [Bool.and_eq_true]
    constructor <;> intro h <;> simp_all

theorem ref_is (s : SV) : refOK s = storeOK s := by
  unfold refOK storeOK locksOK doubtsOK
  rw [items_none, lkR_parts, dbR_parts, locksGo_parts, doubtsGo_parts]
  rw [Bool.eq_iff_iff]
  simp only [Bool.and_eq_true]
  constructor
  · rintro ⟨⟨⟨⟨h1, h2⟩, ⟨h3, h4⟩, h5⟩, ⟨h6, h7⟩, h8⟩, h9⟩
    refine ⟨⟨⟨h2, h1, ⟨?_, h4⟩, h5⟩, h9⟩, ⟨h7, h8⟩, h3⟩
    rw [List.all_eq_true] at h3 h6 ⊢
    intro k hk
    obtain ⟨d, hd, e⟩ := List.any_eq_true.1 (h3 k hk)
    have e' : d.t = k.t := by simpa [dbT] using e
    rw [← e']
    exact h6 d hd
  · rintro ⟨⟨⟨h2, h1, ⟨ht, h4⟩, h5⟩, h9⟩, ⟨h7, h8⟩, h3⟩
    refine ⟨⟨⟨⟨h1, h2⟩, ⟨h3, h4⟩, h5⟩, ⟨?_, h7⟩, h8⟩, h9⟩
    rw [List.all_eq_true] at h7 ht ⊢
    intro d hd
    have := h7 d hd
    simp only [dbRest, Bool.and_eq_true] at this
    obtain ⟨k, hk, e⟩ := List.any_eq_true.1 this.1.2
    have e' : k.t = d.t := by simpa [ofT] using e
    rw [← e']
    exact ht k hk

def prevK (l : List ItV) : Nat → Option Int
  | 0 => none
  | k + 1 => some (l.getD k default).key
theorem itemsR_at {xs : List ItV} {k : Nat} (hk : k < xs.length) (h : itemsR none xs = itemsR (prevK xs k) (xs.drop k)) :
    itemsR none xs = (inR (xs.getD k default).key 0 7 && inR (xs.getD k default).value 0 1073741824 && inR (xs.getD k default).version 1 1048576 && (match prevK xs k with | none => true | some q => !(decide ((xs.getD k default).key ≤ q))) && itemsR (prevK xs (k + 1)) (xs.drop (k + 1))) := by
  rw [h, drop_at hk]
  rfl
theorem lkR_at {ds : List DbV} {xs : List LkV} {k : Nat} (hk : k < xs.length) (h : lkR ds [] xs = lkR ds (xs.take k) (xs.drop k)) :
    lkR ds [] xs = ((ds.any (dbT (xs.getD k default).t) && lkRest (xs.getD k default)) && !((xs.take k).any (against (xs.getD k default))) && lkR ds (xs.take (k + 1)) (xs.drop (k + 1))) := by
  rw [h, drop_at hk, take_at hk]
  rfl
theorem dbR_at {ls : List LkV} {ov : List (Int × Int)} {xs : List DbV} {k : Nat} (hk : k < xs.length) (h : dbR ls ov [] xs = dbR ls ov (xs.take k) (xs.drop k)) :
    dbR ls ov [] xs = (txOK (xs.getD k default).t && inR (xs.getD k default).age 0 1048576 && ls.any (ofT (xs.getD k default).t) && !((xs.take k).any (dbT (xs.getD k default).t)) && !(decide ((xs.getD k default).t ∈ ov)) && dbR ls ov (xs.take (k + 1)) (xs.drop (k + 1))) := by
  rw [h, drop_at hk, take_at hk]
  rfl
/-- The first place of a transaction's doubt is this one, just if it is not among those ahead. -/
theorem first_is {xs : List DbV} {k : Nat} (hk : k < xs.length) : decide (idxI (dbT (xs.getD k default).t) xs = (k : Int)) = !((xs.take k).any (dbT (xs.getD k default).t)) := by
  rw [Bool.eq_iff_iff]
  simp only [decide_eq_true_eq, Bool.not_eq_true', List.any_eq_false]
  constructor
  · intro h x hx
    obtain ⟨i, hi, rfl⟩ := List.getElem_of_mem hx
    have hi' : i < k := by simp at hi; omega
    intro hd
    unfold idxI at h
    cases hf : xs.findIdx? (dbT (xs.getD k default).t) with
    | none => rw [hf] at h; simp at h
    | some m =>
      rw [hf] at h
      simp at h
      obtain rfl : m = k := by omega
      rw [List.findIdx?_eq_some_iff_getElem] at hf
      obtain ⟨_, _, h3⟩ := hf
      have := h3 i hi'
      simp at hd
      exact absurd hd (by simpa using this)
  · intro h
    refine idxI_hit hk (fun i hi => ?_) (by simp [dbT])
    have hi' : i < xs.length := by omega
    have := h (xs.getD i default) (by
      rw [List.mem_take_iff_getElem]
      exact ⟨i, by omega, by simp [List.getD, hi']⟩)
    simpa using this
end Go.Proofs.YtekglahigjblkaaGreatDoor.St
/- What a store that may be is, one property each; that Read, Write and End keep it; what a store has that is made of raw numbers. -/
namespace Go.Proofs.YtekglahigjblkaaGreatDoor.St
open Go.ChangeShapes Go.WideShapes Go.ChangeAt Go.RowKit
set_option linter.unusedVariables false

def okP (p : PS) : Bool := itemsOK 0 p.items && locksOK p.locks && overGo [] p.over && doubtsOK p.doubts p.locks p.over
theorem ok_is (s : SV) : storeOK s = okP s.data := rfl
structure OKP (p : PS) : Prop where
  items : itemsOK 0 p.items = true
  l24 : p.locks.length ≤ 24
  lk : ∀ k ∈ p.locks, lockOK k = true
  nag : p.locks.Pairwise (fun a b => against b a = false)
  ov : p.over.Nodup
  ovt : ∀ t ∈ p.over, txOK t = true
  da : ∀ d ∈ p.doubts, inR d.age 0 1048576 = true
  dl : ∀ d ∈ p.doubts, ∃ k ∈ p.locks, k.t = d.t
  dn : p.doubts.Pairwise (fun a b => a.t ≠ b.t)
  dov : ∀ d ∈ p.doubts, d.t ∉ p.over
  ld : ∀ k ∈ p.locks, ∃ d ∈ p.doubts, d.t = k.t
theorem nag_iff : ∀ (l seen : List LkV), nag seen l = true ↔ (∀ k ∈ l, seen.any (against k) = false) ∧ l.Pairwise (fun a b => against b a = false)
  | [], seen => by simp [nag]
  | k :: r, seen => by
    simp only [nag, Bool.and_eq_true, Bool.not_eq_true', nag_iff r, List.pairwise_cons, List.any_append, List.mem_cons, forall_eq_or_imp]
    constructor
    · rintro ⟨h1, h2, h3⟩
      refine ⟨⟨h1, fun x hx => ?_⟩, fun x hx => ?_, h3⟩
      · have := h2 x hx; simp only [Bool.or_eq_false_iff] at this; exact this.1
      · have := h2 x hx; simp only [Bool.or_eq_false_iff, List.any_cons, List.any_nil] at this; exact this.2.1
    · rintro ⟨⟨h1, h2⟩, h3, h4⟩
      refine ⟨h1, fun x hx => ?_, h4⟩
      simp [h2 x hx, h3 x hx]
theorem once_iff : ∀ (l seen : List DbV), onceD seen l = true ↔ (∀ d ∈ l, seen.any (dbT d.t) = false) ∧ l.Pairwise (fun a b => a.t ≠ b.t)
  | [], seen => by simp [onceD]
  | d :: r, seen => by
    simp only [onceD, Bool.and_eq_true, Bool.not_eq_true', once_iff r, List.pairwise_cons, List.any_append, List.mem_cons, forall_eq_or_imp]
    constructor
    · rintro ⟨h1, h2, h3⟩
      refine ⟨⟨h1, fun x hx => ?_⟩, fun x hx => ?_, h3⟩
      · have := h2 x hx; simp only [Bool.or_eq_false_iff] at this; exact this.1
      · have := h2 x hx
        simp only [Bool.or_eq_false_iff, List.any_cons, List.any_nil] at this
        have h4 := this.2.1
        simpa [dbT] using h4
    · rintro ⟨⟨h1, h2⟩, h3, h4⟩
      refine ⟨h1, fun x hx => ?_, h4⟩
      have h5 := h3 x hx
      rw [h2 x hx]
      simp [dbT, h5]
theorem over_iff : ∀ (l seen : List (Int × Int)), overGo seen l = true ↔ (∀ t ∈ l, t ∉ seen) ∧ l.Nodup ∧ ∀ t ∈ l, txOK t = true
  | [], seen => by simp [overGo]
  | t :: r, seen => by
    simp only [overGo, Bool.and_eq_true, Bool.not_eq_true', over_iff r, List.nodup_cons, List.mem_cons, forall_eq_or_imp, decide_eq_false_iff_not, List.mem_append, List.not_mem_nil, or_false]
    constructor
    · rintro ⟨⟨h1, h2⟩, h3, h4, h5⟩
      exact ⟨⟨h1, fun x hx => fun e => h3 x hx (.inl e)⟩, ⟨fun e => h3 t e (.inr rfl), h4⟩, h2, h5⟩
    · rintro ⟨⟨h1, h2⟩, ⟨h3, h4⟩, h5, h6⟩
      exact ⟨⟨h1, h5⟩, fun x hx => fun e => by rcases e with e | e; exact h2 x hx e; exact h3 (e ▸ hx), h4, h6⟩
theorem lockOK_parts (k : LkV) : lockOK k = (txOK k.t && lkRest k) := by
  unfold lockOK lkRest
  simp only [Bool.and_assoc]
theorem okP_iff (p : PS) : okP p = true ↔ OKP p := by
  unfold okP locksOK doubtsOK
  rw [locksGo_parts, doubtsGo_parts]
  simp only [Bool.and_eq_true, decide_eq_true_eq, nag_iff, once_iff, over_iff, List.all_eq_true, List.any_eq_true]
  constructor
  · rintro ⟨⟨⟨h1, h2, ⟨h3, h4⟩, h5, h6⟩, h7, h8, h9⟩, ⟨h10, h11, h12⟩, h13⟩
    refine ⟨h1, h2, fun k hk => by rw [lockOK_parts, h3 k hk, h4 k hk]; rfl, h6, h8, h9, fun d hd => ?_, fun d hd => ?_, h12, fun d hd => ?_, fun k hk => ?_⟩
    · have := h10 d hd; simp only [dbRest, Bool.and_eq_true] at this; exact this.1.1
    · have := h10 d hd
      simp only [dbRest, Bool.and_eq_true, List.any_eq_true] at this
      obtain ⟨k, hk, e⟩ := this.1.2
      exact ⟨k, hk, by simpa [ofT] using e⟩
    · have := h10 d hd
      simp only [dbRest, Bool.and_eq_true] at this
      simpa using this.2
    · obtain ⟨d, hd, e⟩ := h13 k hk
      exact ⟨d, hd, by simpa [dbT] using e⟩
  · intro h
    refine ⟨⟨⟨h.items, h.l24, ⟨fun k hk => ?_, fun k hk => ?_⟩, by simp, h.nag⟩, by simp, h.ov, h.ovt⟩, ⟨fun d hd => ?_, by simp, h.dn⟩, fun k hk => ?_⟩
    · have := h.lk k hk; rw [lockOK_parts] at this; simp only [Bool.and_eq_true] at this; exact this.1
    · have := h.lk k hk; rw [lockOK_parts] at this; simp only [Bool.and_eq_true] at this; exact this.2
    · obtain ⟨k, hk, e⟩ := h.dl d hd
      simp only [dbRest, Bool.and_eq_true, List.any_eq_true]
      exact ⟨⟨h.da d hd, k, hk, by simp [ofT, e]⟩, by simpa using h.dov d hd⟩
    · obtain ⟨d, hd, e⟩ := h.ld k hk
      exact ⟨d, hd, by simp [dbT, e]⟩
theorem OKP.of {s : SV} (h : storeOK s = true) : OKP s.data := (okP_iff _).1 h
theorem OKP.ok {s : SV} (h : OKP s.data) : storeOK s = true := (okP_iff _).2 h
theorem against_comm (a b : LkV) : against a b = against b a := by
  unfold against
  rw [Bool.eq_iff_iff]
  simp only [Bool.and_eq_true, Bool.or_eq_true, decide_eq_true_eq]
  constructor
  · rintro ⟨h1, (h2 | h2) | h2⟩
    · exact ⟨h1.symm, .inl (.inl h2.symm)⟩
    · exact ⟨h1.symm, .inr h2⟩
    · exact ⟨h1.symm, .inl (.inr h2)⟩
  · rintro ⟨h1, (h2 | h2) | h2⟩
    · exact ⟨h1.symm, .inl (.inl h2.symm)⟩
    · exact ⟨h1.symm, .inr h2⟩
    · exact ⟨h1.symm, .inl (.inr h2)⟩
theorem mem_of_idx {α : Type} [Inhabited α] {p : α → Bool} {l : List α} (h : ¬ idxI p l < 0) : ∃ i : Nat, idxI p l = (i : Int) ∧ i < l.length ∧ p (l.getD i default) = true ∧ ∀ j, j < i → p (l.getD j default) = false := by
  unfold idxI at h ⊢
  cases hf : l.findIdx? p with
  | none => rw [hf] at h; simp at h
  | some m =>
    rw [List.findIdx?_eq_some_iff_getElem] at hf
    obtain ⟨h1, h2, h3⟩ := hf
    refine ⟨m, rfl, h1, by simpa [List.getD, h1] using h2, fun j hj => ?_⟩
    have hj' : j < l.length := by omega
    have := h3 j hj
    simpa [List.getD, hj'] using this
theorem none_of_idx {α : Type} {p : α → Bool} {l : List α} (h : idxI p l < 0) : ∀ x ∈ l, p x = false := by
  have := idxI_any p l
  rw [decide_eq_false (by omega)] at this
  intro x hx
  have h2 := List.any_eq_false.1 this.symm x hx
  simpa using h2
theorem idx_neg {α : Type} {p : α → Bool} {l : List α} (h : ∀ x ∈ l, p x = false) : idxI p l < 0 := by
  have h1 : l.any p = false := List.any_eq_false.2 fun x hx => by simp [h x hx]
  have := idxI_any p l
  rw [h1] at this
  simp at this
  exact this
theorem mem_set {α : Type} {l : List α} {i : Nat} {x y : α} (h : x ∈ l.set i y) : x = y ∨ ∃ j, ∃ hj : j < l.length, j ≠ i ∧ l[j] = x := by
  obtain ⟨j, hj, e⟩ := List.getElem_of_mem h
  rw [List.getElem_set] at e
  split at e
  · exact .inl e.symm
  · rename_i hn
    exact .inr ⟨j, by simpa using hj, fun e2 => hn e2.symm, e⟩
/-- A doubt of a transaction that has a lock now. -/
theorem holdD_ok {ds : List DbV} {t : Int × Int} {ov : List (Int × Int)} (h1 : ds.Pairwise (fun a b => a.t ≠ b.t)) (h2 : ∀ d ∈ ds, inR d.age 0 1048576 = true) (h3 : ∀ d ∈ ds, d.t ∉ ov) (ht : t ∉ ov) :
    (holdD ds t).Pairwise (fun a b => a.t ≠ b.t) ∧ (∀ d ∈ holdD ds t, inR d.age 0 1048576 = true) ∧ (∀ d ∈ holdD ds t, d.t ∉ ov) ∧ (∃ d ∈ holdD ds t, d.t = t) ∧ (∀ d ∈ ds, d ∈ holdD ds t) ∧ (∀ d ∈ holdD ds t, d ∈ ds ∨ d.t = t) := by
  unfold holdD
  split
  · rename_i h
    obtain ⟨d, hd, e⟩ := List.any_eq_true.1 h
    exact ⟨h1, h2, h3, ⟨d, hd, by simpa [dbT] using e⟩, fun d hd => hd, fun d hd => .inl hd⟩
  · rename_i h
    have h' : ds.any (dbT t) = false := by simpa using h
    have hn : ∀ d ∈ ds, d.t ≠ t := fun d hd e => by
      have := List.any_eq_false.1 h' d hd
      simp [dbT, e] at this
    refine ⟨?_, ?_, ?_, ⟨⟨t, 0⟩, by simp, rfl⟩, fun d hd => by simp [hd], ?_⟩
    · rw [List.pairwise_append]
      exact ⟨h1, by simp, fun a ha b hb => by simp at hb; subst hb; exact hn a ha⟩
    · intro d hd
      rcases List.mem_append.1 hd with hd | hd
      · exact h2 d hd
      · simp at hd; subst hd; rfl
    · intro d hd
      rcases List.mem_append.1 hd with hd | hd
      · exact h3 d hd
      · simp at hd; subst hd; exact ht
    · intro d hd
      rcases List.mem_append.1 hd with hd | hd
      · exact .inl hd
      · simp at hd; subst hd; exact .inr rfl
/-- A lock more, or one in the place of its own: nobody else's stands against it. -/
theorem hold_ok {p : PS} (h : OKP p) {k : LkV} (hk : lockOK k = true) (hf : idxI (byT k.t k.key) p.locks < 0 → p.locks.length < 24) (ht : k.t ∉ p.over) (hag : ∀ o ∈ p.locks, byT k.t k.key o = false → against k o = false) (hw : 0 ≤ idxI (byT k.t k.key) p.locks → ∀ o ∈ p.locks, o.key = k.key → o.t = k.t) :
    OKP ⟨p.items, holdL p.locks k, holdD p.doubts k.t, p.over⟩ := by
  obtain ⟨d1, d2, d3, d4, d5, d6⟩ := holdD_ok h.dn h.da h.dov ht
  by_cases hi : idxI (byT k.t k.key) p.locks < 0
  · have hno := none_of_idx hi
    have el : holdL p.locks k = p.locks ++ [k] := by unfold holdL; rw [if_neg (by omega)]
    have hlen := hf hi
    refine ⟨h.items, by rw [el]; simp; omega, ?_, ?_, h.ov, h.ovt, d2, ?_, d1, d3, ?_⟩
    · rw [el]; intro o ho
      rcases List.mem_append.1 ho with ho | ho
      · exact h.lk o ho
      · simp at ho; subst ho; exact hk
    · show (holdL p.locks k).Pairwise _
      rw [el, List.pairwise_append]
      exact ⟨h.nag, by simp, fun a ha b hb => by simp at hb; subst hb; exact hag a ha (hno a ha)⟩
    · intro d hd
      show ∃ o ∈ holdL p.locks k, o.t = d.t
      rw [el]
      rcases d6 d hd with hd | hd
      · obtain ⟨o, ho, e⟩ := h.dl d hd
        exact ⟨o, by simp [ho], e⟩
      · exact ⟨k, by simp, hd.symm⟩
    · show ∀ o ∈ holdL p.locks k, _
      rw [el]; intro o ho
      rcases List.mem_append.1 ho with ho | ho
      · obtain ⟨d, hd, e⟩ := h.ld o ho
        exact ⟨d, d5 d hd, e⟩
      · simp at ho; subst ho; exact d4
  · obtain ⟨i, ei, hil, hpi, _⟩ := mem_of_idx hi
    have el : holdL p.locks k = p.locks.set i k := by unfold holdL; rw [if_pos (by omega), ei]; rfl
    have hg : (p.locks.getD i default) = p.locks[i] := by simp [List.getD, hil]
    rw [hg] at hpi
    have hpi' : p.locks[i].t = k.t ∧ p.locks[i].key = k.key := by simpa [byT] using hpi
    have hot : ∀ j (hj : j < p.locks.length), j ≠ i → p.locks[j].key ≠ k.key := by
      intro j hj hne e
      have e2 := hw (by omega) p.locks[j] (List.getElem_mem hj) e
      have hpw := List.pairwise_iff_getElem.1 h.nag
      have hag2 : against p.locks[i] p.locks[j] = true := by simp [against, e, e2, hpi'.1, hpi'.2]
      by_cases hlt : j < i
      · have := hpw j i hj hil hlt
        rw [hag2] at this; cases this
      · have := hpw i j hil hj (by omega)
        rw [against_comm, hag2] at this; cases this
    have hag3 : ∀ j (hj : j < p.locks.length), j ≠ i → against k p.locks[j] = false := by
      intro j hj hne
      have := hot j hj hne
      simp [against, this]
    refine ⟨h.items, by rw [el]; simpa using h.l24, ?_, ?_, h.ov, h.ovt, d2, ?_, d1, d3, ?_⟩
    · rw [el]; intro o ho
      rcases mem_set ho with rfl | ⟨j, hj, _, rfl⟩
      · exact hk
      · exact h.lk _ (List.getElem_mem hj)
    · show (holdL p.locks k).Pairwise _
      rw [el, List.pairwise_iff_getElem]
      intro a b ha hb hab
      simp only [List.length_set] at ha hb
      rw [List.getElem_set, List.getElem_set]
      by_cases ea : i = a
      · rw [if_pos ea, if_neg (by omega), against_comm]
        exact hag3 b hb (by omega)
      · rw [if_neg ea]
        by_cases eb : i = b
        · rw [if_pos eb]; exact hag3 a ha (by omega)
        · rw [if_neg eb]; exact List.pairwise_iff_getElem.1 h.nag a b ha hb hab
    · intro d hd
      show ∃ o ∈ holdL p.locks k, o.t = d.t
      rw [el]
      have hin : k ∈ p.locks.set i k := List.mem_iff_getElem.2 ⟨i, by simpa using hil, by simp⟩
      rcases d6 d hd with hd | hd
      · obtain ⟨o, ho, e⟩ := h.dl d hd
        obtain ⟨j, hj, rfl⟩ := List.getElem_of_mem ho
        by_cases ej : j = i
        · subst ej; exact ⟨k, hin, by rw [← e, hpi'.1]⟩
        · exact ⟨p.locks[j], List.mem_iff_getElem.2 ⟨j, by simpa using hj, by rw [List.getElem_set_ne (by omega)]⟩, e⟩
      · exact ⟨k, hin, hd.symm⟩
    · show ∀ o ∈ holdL p.locks k, _
      rw [el]; intro o ho
      rcases mem_set ho with rfl | ⟨j, hj, _, rfl⟩
      · exact d4
      · obtain ⟨d, hd, e⟩ := h.ld _ (List.getElem_mem hj)
        exact ⟨d, d5 d hd, e⟩
theorem ref_ok {s : SV} {t : Int × Int} {key : Int} (h : refErr s t key = 0) : storeOK s = true ∧ txOK t = true ∧ inR key 0 7 = true := by
  unfold refErr at h
  split at h
  · split at h
    · rename_i h1 h2; simp only [Bool.and_eq_true] at h2; exact ⟨h1, h2.1, h2.2⟩
    · omega
  · omega
theorem read_ok {s : SV} {t : Int × Int} {key : Int} (h : readErr s t key = 0) : OKP (readData s t key) := by
  have hr : refErr s t key = 0 := by unfold readErr at h; split at h <;> first | assumption | omega
  obtain ⟨h1, h2, h3⟩ := ref_ok hr
  have hp := OKP.of h1
  unfold readData
  rw [if_pos h]
  split
  · rename_i hi
    have hrr : rrErr s t key = 0 := by unfold readErr at h; rw [if_pos hr, if_pos hi] at h; exact h
    unfold rrErr at hrr
    split at hrr
    · omega
    · rename_i q1
      split at hrr
      · omega
      · rename_i q2
        split at hrr
        · omega
        · rename_i q3
          refine hold_ok (p := s.data) hp (k := ⟨t, key, false, 0, 0⟩) ?_ (fun _ => by show s.locks.length < 24; omega) q1 ?_ ?_
          · simp only [lockOK, h2, h3]; decide
          · intro o ho hb
            have hw : ¬ wrT key o = true := by
              have : s.locks.any (wrT key) = false := by simpa using q2
              exact List.any_eq_false.1 this o ho
            simp only [byT, Bool.and_eq_false_iff, decide_eq_false_iff_not] at hb
            simp only [wrT, Bool.and_eq_true, decide_eq_true_eq] at hw
            simp only [against, Bool.and_eq_false_iff, Bool.or_eq_false_iff, decide_eq_false_iff_not]
            by_cases e : o.key = key
            · right
              refine ⟨⟨?_, ?_⟩, trivial⟩
              · rcases hb with hb | hb
                · exact hb
                · exact absurd e hb
              · cases how : o.write with
                | false => rfl
                | true => exact absurd ⟨how, e⟩ hw
            · exact .inl e
          · intro h0; exact absurd h0 (Int.not_le.mpr hi)
  · exact hp
theorem write_ok {s : SV} {t : Int × Int} {key value ask : Int} (h : writeErr s t key value ask = 0) : OKP (writeData s t key value ask) := by
  have hr : refErr s t key = 0 := by unfold writeErr at h; split at h <;> first | assumption | omega
  obtain ⟨h1, h2, h3⟩ := ref_ok hr
  have hp := OKP.of h1
  have h' := h
  unfold writeErr at h'
  rw [if_pos hr] at h'
  split at h'
  · rename_i hv
    simp only [Bool.and_eq_true] at hv
    unfold rwErr at h'
    split at h'
    · omega
    · rename_i q1
      split at h'
      · omega
      · rename_i q2
        split at h'
        · omega
        · rename_i q3
          have q1' : lateT s t key ask = false := by simpa using q1
          simp only [lateT, Bool.or_eq_false_iff, decide_eq_false_iff_not] at q1'
          have hoth : ∀ o ∈ s.locks, ¬ othT t key o = true := by
            have : s.locks.any (othT t key) = false := by simpa using q2
            exact List.any_eq_false.1 this
          unfold writeData
          rw [if_pos h]
          refine hold_ok (p := s.data) hp (k := ⟨t, key, true, value, ask⟩) ?_ (fun hi => ?_) q1'.1 ?_ ?_
          · simp [lockOK, h2, h3, hv.1, hv.2]
          · show s.locks.length < 24
            have : ¬ 24 ≤ s.locks.length := fun e => q3 ⟨hi, e⟩
            omega
          · intro o ho hb
            have h4 := hoth o ho
            simp only [othT, Bool.and_eq_true, Bool.not_eq_true', decide_eq_true_eq, decide_eq_false_iff_not] at h4
            simp only [byT, Bool.and_eq_false_iff, decide_eq_false_iff_not] at hb
            simp only [against, Bool.and_eq_false_iff, decide_eq_false_iff_not]
            left
            intro e
            rcases hb with hb | hb
            · exact h4 ⟨hb, e⟩
            · exact hb e
          · intro _ o ho e
            have h4 := hoth o ho
            simp only [othT, Bool.and_eq_true, Bool.not_eq_true', decide_eq_true_eq, decide_eq_false_iff_not] at h4
            by_cases et : o.t = t
            · exact et
            · exact absurd ⟨et, e⟩ h4
  · omega
theorem putI_ok (key value : Int) (hv : inR value 0 1073741824 = true) (hk : key ≤ 7) : ∀ (xs : List ItV) (lo : Int), lo ≤ key → itemsOK lo xs = true → (∀ x ∈ xs, x.version ≤ 1048575) → itemsOK lo (putI key value xs) = true
  | [], lo, h1, _, _ => by simp only [putI, itemsOK, hv, inR_true h1 hk]; decide
  | x :: r, lo, h1, h2, h3 => by
    simp only [itemsOK, Bool.and_eq_true] at h2
    obtain ⟨⟨⟨a1, a2⟩, a3⟩, a4⟩ := h2
    have b1 := inR_of a1
    have b3 := inR_of a3
    have hx := h3 x (by simp)
    have hr : ∀ y ∈ r, y.version ≤ 1048575 := fun y hy => h3 y (by simp [hy])
    rw [putI]
    split
    · rename_i e
      simp only [itemsOK, Bool.and_eq_true]
      exact ⟨⟨⟨inR_true h1 hk, hv⟩, inR_true (by omega) (by omega)⟩, by rw [← e]; exact a4⟩
    · split
      · rename_i e
        simp only [itemsOK, Bool.and_eq_true]
        exact ⟨⟨⟨inR_true h1 hk, hv⟩, by decide⟩, ⟨⟨inR_true (by omega) b1.2, a2⟩, a3⟩, a4⟩
      · simp only [itemsOK, Bool.and_eq_true]
        exact ⟨⟨⟨a1, a2⟩, a3⟩, putI_ok key value hv hk r (x.key + 1) (by omega) a4 hr⟩
theorem itemsOK_ge : ∀ (xs : List ItV) (lo : Int), itemsOK lo xs = true → ∀ x ∈ xs, lo ≤ x.key ∧ x.key ≤ 7 ∧ 1 ≤ x.version ∧ x.version ≤ 1048576
  | [], _, _ => by simp
  | y :: r, lo, h => by
    simp only [itemsOK, Bool.and_eq_true] at h
    obtain ⟨⟨⟨a1, a2⟩, a3⟩, a4⟩ := h
    have b1 := inR_of a1
    have b3 := inR_of a3
    intro x hx
    rcases List.mem_cons.1 hx with rfl | hx
    · exact ⟨b1.1, b1.2, b3.1, b3.2⟩
    · have := itemsOK_ge r _ a4 x hx
      exact ⟨by omega, this.2⟩
theorem putI_keys (key value : Int) (P : Int → Prop) (hk : P key) : ∀ (xs : List ItV), (∀ x ∈ xs, P x.key) → ∀ x ∈ putI key value xs, P x.key
  | [], _ => by simp [putI, hk]
  | y :: r, h => by
    rw [putI]
    have hy := h y (by simp)
    have hr : ∀ x ∈ r, P x.key := fun x hx => h x (by simp [hx])
    split
    · intro x hx
      rcases List.mem_cons.1 hx with rfl | hx
      · exact hk
      · exact hr x hx
    · split
      · intro x hx
        rcases List.mem_cons.1 hx with rfl | hx
        · exact hk
        · exact h x hx
      · intro x hx
        rcases List.mem_cons.1 hx with rfl | hx
        · exact hy
        · exact putI_keys key value P hk r hr x hx
theorem putAll_ok : ∀ (l : List LkV) (xs : List ItV) (v : Int), (∀ k ∈ l, lockOK k = true) → itemsOK 0 xs = true → 1 ≤ v → v + l.length ≤ 1048576 → (∀ x ∈ xs, x.version ≤ v) → itemsOK 0 (putAll xs l) = true ∧ ∀ x ∈ putAll xs l, x.version ≤ v + l.length
  | [], xs, v, _, h2, _, _, h4 => by simpa [putAll] using ⟨h2, h4⟩
  | k :: r, xs, v, h1, h2, h3, h4, h5 => by
    have hk := h1 k (by simp)
    simp only [lockOK, Bool.and_eq_true] at hk
    have hk7 := inR_of hk.1.1.1.2
    simp only [List.length_cons] at h4 ⊢
    have e : putAll xs (k :: r) = putAll (putI k.key k.value xs) r := rfl
    rw [e]
    have hge := itemsOK_ge xs 0 h2
    have hb := (put_bd k.key k.value h3 xs (fun y hy => ⟨by have := hge y hy; omega, h5 y hy⟩)).2
    obtain ⟨q1, q2⟩ := putAll_ok r (putI k.key k.value xs) (v + 1) (fun o ho => h1 o (by simp [ho])) (putI_ok k.key k.value hk.1.1.2 hk7.2 xs 0 hk7.1 h2 (fun x hx => by have := h5 x hx; omega)) (by omega) (by omega) (fun y hy => (hb y hy).2)
    exact ⟨q1, fun x hx => by have := q2 x hx; omega⟩
theorem putAll_keys (P : Int → Prop) : ∀ (l : List LkV) (xs : List ItV), (∀ k ∈ l, P k.key) → (∀ x ∈ xs, P x.key) → ∀ x ∈ putAll xs l, P x.key
  | [], xs, _, h => by simpa [putAll] using h
  | k :: r, xs, h1, h2 => putAll_keys P r (putI k.key k.value xs) (fun o ho => h1 o (by simp [ho])) (putI_keys k.key k.value P (h1 k (by simp)) xs h2)
theorem mem_keep {α : Type} {p : α → Bool} {l : List α} {x : α} : x ∈ keep p l ↔ x ∈ l ∧ p x = false := by
  simp [keep, List.mem_filter]
theorem end_ok {s : SV} {t : Int × Int} {yes : Bool} (h : endErr s t yes = 0) {v : Int} (v1 : 1 ≤ v) (v2 : v ≤ 1048000) (hv : ∀ x ∈ s.items, x.version ≤ v) :
    OKP (endData s t yes) ∧ ∀ x ∈ (endData s t yes).items, x.version ≤ v + 24 := by
  have hs : storeOK s = true := by unfold endErr at h; split at h <;> first | assumption | omega
  have ht : txOK t = true := by unfold endErr at h; rw [if_pos hs] at h; split at h <;> first | assumption | omega
  have hp := OKP.of hs
  have hl24 : (s.locks.filter (wOf t)).length ≤ 24 := Nat.le_trans (List.length_filter_le _ _) hp.l24
  obtain ⟨q1, q2⟩ := putAll_ok (s.locks.filter (wOf t)) s.items v (fun k hk => hp.lk k (List.mem_filter.1 hk).1) hp.items v1 (by omega) hv
  unfold endData
  rw [if_pos h]
  refine ⟨⟨?_, ?_, ?_, ?_, ?_, ?_, ?_, ?_, ?_, ?_, ?_⟩, ?_⟩
  · show itemsOK 0 (if yes then _ else _) = true
    split
    · exact q1
    · exact hp.items
  · show (keep (ofT t) s.locks).length ≤ 24
    exact Nat.le_trans (List.length_filter_le _ _) hp.l24
  · intro k hk
    exact hp.lk k (mem_keep.1 hk).1
  · exact List.Pairwise.filter _ hp.nag
  · show (if t ∈ s.over then s.over else s.over ++ [t]).Nodup
    split
    · exact hp.ov
    · rename_i hn
      rw [List.nodup_append]
      exact ⟨hp.ov, by simp, fun a ha b hb => by simp at hb; subst hb; intro e; exact hn (e ▸ ha)⟩
  · show ∀ x ∈ (if t ∈ s.over then s.over else s.over ++ [t]), txOK x = true
    split
    · exact hp.ovt
    · intro x hx
      rcases List.mem_append.1 hx with hx | hx
      · exact hp.ovt x hx
      · simp at hx; subst hx; exact ht
  · intro d hd
    exact hp.da d (mem_keep.1 hd).1
  · intro d hd
    obtain ⟨d1, d2⟩ := mem_keep.1 hd
    obtain ⟨k, hk, e⟩ := hp.dl d d1
    refine ⟨k, mem_keep.2 ⟨hk, ?_⟩, e⟩
    simp [dbT] at d2
    simp [ofT, e, d2]
  · exact List.Pairwise.filter _ hp.dn
  · intro d hd
    obtain ⟨d1, d2⟩ := mem_keep.1 hd
    show d.t ∉ (if t ∈ s.over then s.over else s.over ++ [t])
    have h3 := hp.dov d d1
    simp [dbT] at d2
    split
    · exact h3
    · intro hx
      rcases List.mem_append.1 hx with hx | hx
      · exact h3 hx
      · simp at hx; exact d2 hx
  · intro k hk
    obtain ⟨k1, k2⟩ := mem_keep.1 hk
    obtain ⟨d, hd, e⟩ := hp.ld k k1
    refine ⟨d, mem_keep.2 ⟨hd, ?_⟩, e⟩
    simp [ofT] at k2
    simp [dbT, e, k2]
  · intro x hx
    have hx' : x ∈ (if yes then putAll s.items (s.locks.filter (wOf t)) else s.items) := hx
    split at hx'
    · have := q2 x hx'
      omega
    · have := hv x hx'
      omega
end Go.Proofs.YtekglahigjblkaaGreatDoor.St
