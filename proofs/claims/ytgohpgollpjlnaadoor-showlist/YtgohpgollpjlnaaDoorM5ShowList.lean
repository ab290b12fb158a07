/- Texts of this claim, one behind the other. -/
import Derived.Lib.SplitLaws
import Derived.Lib.AtoiAll
import Derived.Lib.ItoaMem
import Derived.Test.YtgohpgollpjlnaaDoorProg
import Derived.WalkKit
import Derived.ProofKit
import Derived.Below
import Derived.Deep.QuietTactic
import Derived.BigQuiet
import Derived.LoopTactic
import Derived.WalkSmall
import Derived.Test.YtgohpgollpjlnaaDoorA0ShowList
/- What an operator types, on plain data: words parted by blanks, numbers as they are written. -/
namespace Go.Proofs.YtgohpgollpjlnaaDoor.Cn
open Go
set_option linter.unusedVariables false

/-- Words, parted by single blanks. -/
def spl : List UInt8 → List (List UInt8)
  | [] => [[]]
  | c :: r => if c = 32 then [] :: spl r else match spl r with
    | [] => [[c]]
    | x :: xs => (c :: x) :: xs
theorem spl_ne (l : List UInt8) : spl l ≠ [] := by
  cases l with
  | nil => simp [spl]
  | cons c r =>
    rw [spl]
    split
    · simp
    · split <;> simp
theorem spl_none {l : List UInt8} (h : ∀ c ∈ l, c ≠ 32) : spl l = [l] := by
  induction l with
  | nil => rfl
  | cons c r ih =>
    rw [spl, if_neg (h c (by simp)), ih (fun x hx => h x (by simp [hx]))]
theorem spl_blank (a r : List UInt8) (h : ∀ c ∈ a, c ≠ 32) : spl (a ++ 32 :: r) = a :: spl r := by
  induction a with
  | nil => simp [spl]
  | cons c t ih =>
    rw [List.cons_append, spl, if_neg (h c (by simp)), ih (fun x hx => h x (by simp [hx]))]
theorem index_none {l : List UInt8} (h : ∀ c ∈ l, c ≠ 32) : Lib.index l [32] = -1 := by
  induction l with
  | nil => rfl
  | cons c r ih =>
    have hp : ([32] : List UInt8).isPrefixOf (c :: r) = false := by simp [List.isPrefixOf, Ne.symm (h c (by simp))]
    rw [Lib.index, hp, ih (fun x hx => h x (by simp [hx]))]
    rfl
theorem index_blank (a r : List UInt8) (h : ∀ c ∈ a, c ≠ 32) : Lib.index (a ++ 32 :: r) [32] = (a.length : Int) := by
  induction a with
  | nil =>
    rw [List.nil_append, Lib.index]
    simp [List.isPrefixOf]
  | cons c t ih =>
    have hp : ([32] : List UInt8).isPrefixOf (c :: (t ++ 32 :: r)) = false := by simp [List.isPrefixOf, Ne.symm (h c (by simp))]
    rw [List.cons_append, Lib.index, hp, ih (fun x hx => h x (by simp [hx]))]
    have : ¬ ((t.length : Int) == -1) = true := fun e => by have := beq_iff_eq.1 e; omega
    simp only [Bool.false_eq_true, if_false, if_neg this, List.length_cons]
    omega
theorem first_blank (l : List UInt8) : (∀ c ∈ l, c ≠ 32) ∨ ∃ a r, l = a ++ 32 :: r ∧ ∀ c ∈ a, c ≠ 32 := by
  induction l with
  | nil => exact Or.inl (by simp)
  | cons c t ih =>
    by_cases hc : c = 32
    · exact Or.inr ⟨[], t, by simp [hc], by simp⟩
    · rcases ih with h | ⟨a, r, rfl, h⟩
      · exact Or.inl fun x hx => by rcases List.mem_cons.1 hx with rfl | hx; exact hc; exact h x hx
      · exact Or.inr ⟨c :: a, r, by simp, fun x hx => by rcases List.mem_cons.1 hx with rfl | hx; exact hc; exact h x hx⟩
theorem split_spl : ∀ (n : Nat) (l : List UInt8), l.length ≤ n → Lib.splitK [32] 0 (Lib.count l [32]) l = spl l := by
  intro n
  induction n with
  | zero =>
    intro l hl
    cases l with
    | nil => rfl
    | cons c r => simp at hl
  | succ n ih =>
    intro l hl
    rcases first_blank l with h | ⟨a, r, rfl, h⟩
    · rw [Lib.count_miss (index_none h), spl_none h]
      rfl
    · have hi := index_blank a r h
      have hd : (a ++ 32 :: r).drop (a.length + ([32] : List UInt8).length) = r := by simp
      rw [Lib.count_hit (by simp) hi, hd, Nat.add_comm, Lib.splitK, hi]
      have hm : ¬ ((a.length : Int) == -1) = true := fun e => by have := beq_iff_eq.1 e; omega
      rw [if_neg hm, spl_blank a r h]
      simp only [Int.toNat_natCast, Nat.add_zero]
      rw [hd, ih r (by simp at hl; omega)]
      simp
/-- A number, as it is written, from 0 to most. -/
def numOf (l : List UInt8) (most : Int) : Option Int := match Lib.atoiAll l with
  | .ok v => if Lib.itoa v = l ∧ 0 ≤ v ∧ v ≤ most then some v else none
  | _ => none
structure Cmd where
  kind : Int
  label : Int
  site : Int
  num : Int
  yes : Bool
  deriving DecidableEq
def Cmd.nil : Cmd := ⟨0, 0, 0, 0, false⟩
def Cmd.val (c : Cmd) : Value := .agg #[.int .i64 c.kind, .int .i64 c.label, .int .i64 c.site, .int .i64 c.num, .bool c.yes]
def aboutOf (kind : Int) (yes : Bool) : List (List UInt8) → Option Cmd
  | [a, b, c] => match numOf a 5, numOf b 3, numOf c 1048576 with
    | some x, some y, some z => some ⟨kind, x, y, z, yes⟩
    | _, _, _ => none
  | _ => none
def wList : List UInt8 := [108, 105, 115, 116]
def wAudit : List UInt8 := [97, 117, 100, 105, 116]
def wStatus : List UInt8 := [115, 116, 97, 116, 117, 115]
def wForce : List UInt8 := [102, 111, 114, 99, 101]
def wCommit : List UInt8 := [99, 111, 109, 109, 105, 116]
def wAbort : List UInt8 := [97, 98, 111, 114, 116]
def forceOf : List (List UInt8) → Option Cmd
  | [a, b, c, d] => if d = wCommit then aboutOf 3 true [a, b, c] else if d = wAbort then aboutOf 3 false [a, b, c] else none
  | _ => none
def wordsOf : List (List UInt8) → Option Cmd
  | [] => none
  | name :: ws => if name = wList then (if ws = [] then some ⟨1, 0, 0, 0, false⟩ else none)
    else if name = wAudit then (if ws = [] then some ⟨4, 0, 0, 0, false⟩ else none)
    else if name = wStatus then aboutOf 2 false ws
    else if name = wForce then forceOf ws
    else none
/-- What a line means, and why it is refused. -/
def lineErr (l : List UInt8) : Int := if 60 < l.length then 1 else if (wordsOf (spl l)).isSome then 0 else 4
def lineCmd (l : List UInt8) : Cmd := if 60 < l.length then Cmd.nil else (wordsOf (spl l)).getD Cmd.nil
/-- A number's digits are read as that number. -/
theorem digit_ok (d : Nat) (h : d < 10) : 48 ≤ (UInt8.ofNat (48 + d)).toNat ∧ (UInt8.ofNat (48 + d)).toNat ≤ 57 ∧ (UInt8.ofNat (48 + d)).toNat - 48 = d := by
  have : (UInt8.ofNat (48 + d)).toNat = 48 + d := by simp; omega
  rw [this]
  omega
theorem parse_snoc (l : List UInt8) (c : UInt8) : ∀ (acc u : Nat), Lib.parseUint10 acc l = .ok u → Lib.parseUint10 acc (l ++ [c]) = Lib.parseUint10 u [c] := by
  induction l with
  | nil => intro acc u h; simp only [Lib.parseUint10] at h; injection h with h; subst h; rfl
  | cons x r ih =>
    intro acc u h
    rw [List.cons_append]
    simp only [Lib.parseUint10] at h ⊢
    split at h
    · split at h
      · cases h
      · split at h
        · cases h
        · rename_i h1 h2 h3
          rw [if_pos h1, if_neg h2, if_neg h3]
          have := ih _ _ h
          rw [this]
          simp only [Lib.parseUint10]
    · cases h
theorem parse_dec : ∀ (n u : Nat), u ≤ n → u < 18446744073709551616 → Lib.parseUint10 0 (Lib.decDigits u) = .ok u := by
  intro n
  induction n with
  | zero =>
    intro u hu _
    obtain rfl : u = 0 := by omega
    rw [Lib.decDigits, dif_pos (by omega)]
    rfl
  | succ n ih =>
    intro u hu h64
    by_cases h : u < 10
    · obtain ⟨a1, a2, a3⟩ := digit_ok u h
      rw [Lib.decDigits, dif_pos h]
      simp only [Lib.parseUint10]
      rw [if_pos ⟨a1, a2⟩, if_neg (by omega), if_neg (by omega)]
      simp only [a3]
      congr 1
      omega
    · obtain ⟨a1, a2, a3⟩ := digit_ok (u % 10) (by omega)
      rw [Lib.decDigits, dif_neg h, parse_snoc _ _ 0 (u / 10) (ih (u / 10) (by omega) (by omega))]
      simp only [Lib.parseUint10]
      rw [if_pos ⟨a1, a2⟩, if_neg (by omega), if_neg (by omega)]
      simp only [a3]
      congr 1
      omega
theorem dec_digit : ∀ (n u : Nat), u ≤ n → ∀ c ∈ Lib.decDigits u, 48 ≤ c.toNat ∧ c.toNat ≤ 57 := by
  intro n
  induction n with
  | zero =>
    intro u hu c hc
    obtain rfl : u = 0 := by omega
    rw [Lib.decDigits, dif_pos (by omega)] at hc
    simp at hc
    subst hc
    decide
  | succ n ih =>
    intro u hu c hc
    by_cases h : u < 10
    · rw [Lib.decDigits, dif_pos h] at hc
      simp only [List.mem_cons, List.not_mem_nil, or_false] at hc
      subst hc
      exact ⟨(digit_ok u h).1, (digit_ok u h).2.1⟩
    · rw [Lib.decDigits, dif_neg h] at hc
      rcases List.mem_append.1 hc with hc | hc
      · exact ih (u / 10) (by omega) c hc
      · simp only [List.mem_cons, List.not_mem_nil, or_false] at hc
        subst hc
        exact ⟨(digit_ok (u % 10) (by omega)).1, (digit_ok (u % 10) (by omega)).2.1⟩
theorem dec_ne (u : Nat) : Lib.decDigits u ≠ [] := fun h => by
  have := Lib.decDigits_length u
  rw [h] at this
  have := Lib.nDigits_pos u
  simp at *
  omega
theorem atoi_dec {u : Nat} (h : u < 9223372036854775808) : Lib.atoiAll (Lib.decDigits u) = .ok (u : Int) := by
  have hd := dec_digit u u (Nat.le_refl _)
  have hp := parse_dec u u (Nat.le_refl _) (by omega)
  have hne := dec_ne u
  revert hd hp hne
  generalize Lib.decDigits u = l
  intro hd hp hne
  cases l with
  | nil => exact absurd rfl hne
  | cons c r =>
    have hc := hd c (by simp)
    unfold Lib.atoiAll
    simp only
    rw [if_neg (by omega)]
    unfold Lib.parseMag
    rw [if_neg (by simp), hp]
    simp only
    rw [if_neg (by omega), if_neg (by omega), if_neg (by omega)]
theorem num_itoa {v most : Int} (h0 : 0 ≤ v) (h1 : v ≤ most) (h2 : most ≤ 9223372036854775807) : numOf (Lib.itoa v) most = some v := by
  obtain ⟨u, rfl⟩ : ∃ u : Nat, v = (u : Int) := ⟨v.toNat, by omega⟩
  have e : Lib.itoa (u : Int) = Lib.decDigits u := Lib.itoa_nonneg u
  unfold numOf
  rw [e, atoi_dec (by omega)]
  simp only
  rw [if_pos ⟨e, by omega, h1⟩]
theorem itoa_noblank {v : Int} (h0 : 0 ≤ v) : ∀ c ∈ Lib.itoa v, c ≠ 32 := by
  obtain ⟨u, rfl⟩ : ∃ u : Nat, v = (u : Int) := ⟨v.toNat, by omega⟩
  rw [Lib.itoa_nonneg u]
  intro c hc e
  have := dec_digit u u (Nat.le_refl _) c hc
  subst e
  simp at this
end Go.Proofs.YtgohpgollpjlnaaDoor.Cn
/- Contracts of slices.Index and slices.Contains at labels: Contains tells whether a label is among those of a slice; what was in memory stays. -/
namespace Go.Proofs.YtgohpgollpjlnaaDoor
open Go.ChangeShapes Go.WideShapes Go.ChangeAt Go.RowKit

/-- Labels that lie in memory one behind the other. -/
def Labs (w : World) (b off : Nat) (ls : List (Int × Int)) : Prop :=
  b < w.heap.size ∧ ∀ i, i < ls.length → w.cell? ⟨b, off + i * 2, none⟩ = some (.int .i64 (ls.getD i (0, 0)).1) ∧ w.cell? ⟨b, off + i * 2 + 1, none⟩ = some (.int .i64 (ls.getD i (0, 0)).2)

theorem Labs.below {w w' : World} {b off : Nat} {ls : List (Int × Int)} (h : Labs w b off ls) (hb : Below w.heap.size w w') : Labs w' b off ls := by
  obtain ⟨hc, _⟩ := bcell hb
  refine ⟨Nat.lt_of_lt_of_le h.1 hb.size, fun i hi => ?_⟩
  rw [hc _ _ h.1, hc _ _ h.1]
  exact h.2 i hi

theorem Labs.take {w : World} {b off : Nat} {ls : List (Int × Int)} (h : Labs w b off ls) (k : Nat) : Labs w b off (ls.take k) := by
  refine ⟨h.1, fun i hi => ?_⟩
  have hi' : i < k ∧ i < ls.length := by simp at hi; omega
  have := h.2 i hi'.2
  simpa [List.getD, List.getElem?_take, hi'.1] using this

theorem not_take_succ {ls : List (Int × Int)} {k : Nat} {p : Int × Int} (hk : k < ls.length) (h : p ∉ ls.take k) (hne : ¬ (p.1 = (ls.getD k (0, 0)).1 ∧ p.2 = (ls.getD k (0, 0)).2)) : p ∉ ls.take (k + 1) := by
  rw [List.take_succ_eq_append_getElem hk]
  simp only [List.mem_append, List.mem_singleton, not_or]
  refine ⟨h, fun e => hne ?_⟩
  simp [List.getD, hk, e]

theorem mem_of_getD {ls : List (Int × Int)} {k : Nat} {p : Int × Int} (hk : k < ls.length) (h1 : p.1 = (ls.getD k (0, 0)).1) (h2 : p.2 = (ls.getD k (0, 0)).2) : p ∈ ls := by
  have : p = ls[k] := by
    simp [List.getD, hk] at h1 h2
    exact Prod.ext h1 h2
  rw [this]
  exact List.getElem_mem hk

set_option maxHeartbeats 1000000 in
theorem index_any (b off cap : Nat) (ls : List (Int × Int)) (x y : Int) (w : World) (hl : ls.length ≤ 100) (h : Labs w b off ls) :
    Calls Tryd.prog 110 #[.slice (some ⟨b, off, none⟩) ls.length cap, .agg #[.int .i64 x, .int .i64 y]] w fun e w' => ∃ r : Int, e = .returned (.int .i64 r) ∧ (0 ≤ r ↔ (x, y) ∈ ls) ∧ Below w.heap.size w w' := by
  go_enter Tryd.func110, Tryd.ntmps110
  go_wp2
  go_loopw [8] (fun i wr => ∃ k : Nat, k ≤ ls.length ∧ i = .int .i64 k ∧ (x, y) ∉ ls.take k ∧ Below (w.heap.size + 1) (w.alloc (.cells #[.int .i64 x, .int .i64 y] 80)) wr) (fun i _ => ls.length - (intOf i).toNat)
  case atStart => exact ⟨0, Nat.zero_le _, rfl, by simp, Below.refl _ _⟩
  case round =>
    obtain ⟨k, hk, rfl, hno, hb⟩ := hrel
    by_cases hlt : k < ls.length
    · have hbw : Below w.heap.size w wr := ((Below.refl _ _).alloc (Nat.le_refl _) _).trans (hb.mono (by omega))
      have hr := (h.below hbw).2 k hlt
      obtain ⟨p, hp⟩ : ∃ p, p = (ls.getD k (0, 0)).1 := ⟨_, rfl⟩
      obtain ⟨q, hq⟩ : ∃ q, q = (ls.getD k (0, 0)).2 := ⟨_, rfl⟩
      rw [← hp, ← hq] at hr
      obtain ⟨c0, c1⟩ := hr
      have c2 : wr.cell? ⟨w.heap.size, 0, none⟩ = some (.int .i64 x) := by
        rw [hb.cell (p := ⟨w.heap.size, 0, none⟩) (by simp)]; go_simp
      have c3 : wr.cell? ⟨w.heap.size, 1, none⟩ = some (.int .i64 y) := by
        rw [hb.cell (p := ⟨w.heap.size, 1, none⟩) (by simp)]; go_simp
      by_cases e1 : x = p
      · by_cases e2 : y = q
        · have hm : (x, y) ∈ ls := mem_of_getD hlt (by rw [e1, hp]) (by rw [e2, hq])
          clear hp hq
          subst e1 e2
          go_wp2
          go_quiet (fail)
          go_wp2
          go_ret
          exact ⟨k, rfl, by simp [hm], below_drewN hbw nq⟩
        · have hn := not_take_succ (p := (x, y)) hlt hno (by rw [← hp, ← hq]; simp [e2])
          have e3 : (y == q) = false := by simpa using e2
          clear hp hq
          subst e1
          go_wp2
          go_quiet (fail)
          go_wp2
          go_roundw
          case rel => exact ⟨k + 1, by omega, by go_num, hn, below_drewN hb nq⟩
          case measure => simp [intOf]; omega
      · have hn := not_take_succ (p := (x, y)) hlt hno (by rw [← hp, ← hq]; simp [e1])
        have e3 : (x == p) = false := by simpa using e1
        clear hp hq
        go_wp2
        go_quiet (fail)
        go_wp2
        go_roundw
        case rel => exact ⟨k + 1, by omega, by go_num, hn, below_drewN hb nq⟩
        case measure => simp [intOf]; omega
    · have he : k = ls.length := by omega
      subst he
      rw [List.take_length] at hno
      go_wp2
      go_ret
      exact ⟨-1, rfl, by simp [hno], ((Below.refl _ _).alloc (Nat.le_refl _) _).trans (hb.mono (by omega))⟩

theorem contains_any (b off n cap : Nat) (ls : List (Int × Int)) (x y : Int) (w : World) (hn : ls.length = n) (hl : n ≤ 100) (h : Labs w b off ls) :
    Calls Tryd.prog 80 #[.slice (some ⟨b, off, none⟩) n cap, .agg #[.int .i64 x, .int .i64 y]] w fun e w' => e = .returned (.bool (decide ((x, y) ∈ ls))) ∧ Below w.heap.size w w' := by
  subst hn
  have hA : Below w.heap.size w (w.alloc (.cells #[.int .i64 x, .int .i64 y] 80)) := (Below.refl _ _).alloc (Nat.le_refl _) _
  go_enter Tryd.func80, Tryd.ntmps80
  go_wp2_with (go_at_call 110; refine (index_any _ _ _ _ _ _ _ hl (h.below hA)).mono ?_; rintro e w1 ⟨r, rfl, hr, hb1⟩)
  go_ret
  exact ⟨rfl, hA.trans (hb1.mono (by simp))⟩
end Go.Proofs.YtgohpgollpjlnaaDoor
/- What a config's fault is, on numbers: of the sites, the labels one by one, the patience; and contracts of the two small range tests. -/
namespace Go.Proofs.YtgohpgollpjlnaaDoor
open Go.ChangeShapes Go.WideShapes Go.ChangeAt Go.RowKit

def inB (l c : Int) : Bool := decide (0 ≤ l ∧ l ≤ 9 ∧ 0 ≤ c ∧ c ≤ 15)

/-- The fault of the first label that has one: 'seen' are those ahead. -/
def labFault (seen : List (Int × Int)) : List (Int × Int) → Int
  | [] => 0
  | a :: r => if inB a.1 a.2 = false then 2 else if a ∈ seen then 7 else labFault (seen ++ [a]) r

def cfgFault (s : Int) (ls : List (Int × Int)) (p : Int) : Int :=
  if s < 1 ∨ 4 < s then 2 else if ls.length < 1 ∨ 6 < ls.length then 1 else if labFault [] ls ≠ 0 then labFault [] ls else if p < 1 ∨ 1048576 < p then 2 else 0

theorem cfg_sites {s : Int} {ls : List (Int × Int)} {p : Int} (h : s < 1 ∨ 4 < s) : cfgFault s ls p = 2 := by simp [cfgFault, h]
theorem cfg_size {s : Int} {ls : List (Int × Int)} {p : Int} (h1 : 1 ≤ s) (h2 : s ≤ 4) (h : ls.length < 1 ∨ 6 < ls.length) : cfgFault s ls p = 1 := by
  unfold cfgFault
  rw [if_neg (by omega), if_pos h]
theorem cfg_lab {s : Int} {ls : List (Int × Int)} {p : Int} {f : Int} (h1 : 1 ≤ s) (h2 : s ≤ 4) (h3 : 1 ≤ ls.length) (h4 : ls.length ≤ 6) (h : labFault [] ls = f) (hf : f ≠ 0) : cfgFault s ls p = f := by
  unfold cfgFault
  rw [if_neg (by omega), if_neg (by omega), if_pos (by rw [h]; exact hf), h]
theorem cfg_late {s : Int} {ls : List (Int × Int)} {p : Int} (h1 : 1 ≤ s) (h2 : s ≤ 4) (h3 : 1 ≤ ls.length) (h4 : ls.length ≤ 6) (h : labFault [] ls = 0) (hp : p < 1 ∨ 1048576 < p) : cfgFault s ls p = 2 := by
  unfold cfgFault
  rw [if_neg (by omega), if_neg (by omega), if_neg (by simp [h]), if_pos hp]
theorem cfg_ok {s : Int} {ls : List (Int × Int)} {p : Int} (h1 : 1 ≤ s) (h2 : s ≤ 4) (h3 : 1 ≤ ls.length) (h4 : ls.length ≤ 6) (h : labFault [] ls = 0) (p1 : 1 ≤ p) (p2 : p ≤ 1048576) : cfgFault s ls p = 0 := by
  unfold cfgFault
  rw [if_neg (by omega), if_neg (by omega), if_neg (by simp [h]), if_neg (by omega)]

theorem cfg_zero {s : Int} {ls : List (Int × Int)} {p : Int} (h : cfgFault s ls p = 0) : 1 ≤ s ∧ s ≤ 4 ∧ 1 ≤ ls.length ∧ ls.length ≤ 6 ∧ labFault [] ls = 0 ∧ 1 ≤ p ∧ p ≤ 1048576 := by
  unfold cfgFault at h
  split at h
  · simp at h
  · split at h
    · simp at h
    · split at h
      · contradiction
      · split at h
        · simp at h
        · rename_i _ _ hz _
          have : labFault [] ls = 0 := Classical.not_not.1 hz
          omega

/-- Where the labels ahead of place k have no fault: the whole's fault is that of the rest. -/
def labAt (ls : List (Int × Int)) (k : Nat) : Prop := labFault [] ls = labFault (ls.take k) (ls.drop k)

theorem labAt_zero (ls : List (Int × Int)) : labAt ls 0 := by simp [labAt]
theorem drop_here {ls : List (Int × Int)} {k : Nat} (hk : k < ls.length) : ls.drop k = ls.getD k (0, 0) :: ls.drop (k + 1) := by
  rw [List.drop_eq_getElem_cons hk]; simp [List.getD, hk]
theorem take_here {ls : List (Int × Int)} {k : Nat} (hk : k < ls.length) : ls.take (k + 1) = ls.take k ++ [ls.getD k (0, 0)] := by
  rw [List.take_succ_eq_append_getElem hk]; simp [List.getD, hk]
theorem labAt_range {ls : List (Int × Int)} {k : Nat} (hk : k < ls.length) (h : labAt ls k) (hb : inB (ls.getD k (0, 0)).1 (ls.getD k (0, 0)).2 = false) : labFault [] ls = 2 := by
  rw [h, drop_here hk, labFault, if_pos hb]
theorem labAt_twice {ls : List (Int × Int)} {k : Nat} (hk : k < ls.length) (h : labAt ls k) (hb : inB (ls.getD k (0, 0)).1 (ls.getD k (0, 0)).2 = true) (hm : ls.getD k (0, 0) ∈ ls.take k) : labFault [] ls = 7 := by
  rw [h, drop_here hk, labFault, if_neg (by rw [hb]; simp), if_pos hm]
theorem labAt_succ {ls : List (Int × Int)} {k : Nat} (hk : k < ls.length) (h : labAt ls k) (hb : inB (ls.getD k (0, 0)).1 (ls.getD k (0, 0)).2 = true) (hm : ls.getD k (0, 0) ∉ ls.take k) : labAt ls (k + 1) := by
  unfold labAt
  rw [h, drop_here hk, labFault, if_neg (by rw [hb]; simp), if_neg hm, take_here hk]
theorem labAt_end {ls : List (Int × Int)} (h : labAt ls ls.length) : labFault [] ls = 0 := by
  rw [h, List.drop_length]; rfl

def inR (n lo hi : Int) : Bool := decide (lo ≤ n ∧ n ≤ hi)
theorem inR_true {n lo hi : Int} (h1 : lo ≤ n) (h2 : n ≤ hi) : inR n lo hi = true := by simp [inR, h1, h2]
theorem inR_false {n lo hi : Int} (h : n < lo ∨ hi < n) : inR n lo hi = false := by simp [inR]; omega
theorem inR_of {n lo hi : Int} (h : inR n lo hi = true) : lo ≤ n ∧ n ≤ hi := by simpa [inR] using h
theorem inR_not {n lo hi : Int} (h : inR n lo hi = false) : n < lo ∨ hi < n := by simp [inR] at h; omega

theorem within_any (n lo hi : Int) (w : World) :
    Calls Tryd.prog 78 #[.int .i64 n, .int .i64 lo, .int .i64 hi] w fun e w' => e = .returned (.bool (inR n lo hi)) ∧ w' = w := by
  go_enter Tryd.func78, Tryd.ntmps78
  go_wp2
  all_goals go_ret
  all_goals exact ⟨ret_bool (by unfold inR; rw [Bool.eq_iff_iff]; simp; omega), rfl⟩

theorem inB_of (x y : Int) : inB x y = (inR x 0 9 && inR y 0 15) := by
  unfold inB inR
  rw [Bool.eq_iff_iff]
  simp
  omega

theorem inBounds_any (l c : Int) (w : World) :
    Calls Tryd.prog 79 #[.agg #[.int .i64 l, .int .i64 c]] w fun e w' => e = .returned (.bool (inB l c)) ∧ Below w.heap.size w w' := by
  have hA : Below w.heap.size w (w.alloc (.cells #[.int .i64 l, .int .i64 c] 80)) := (Below.refl _ _).alloc (Nat.le_refl _) _
  rw [inB_of]
  cases h1 : inR l 0 9 with
  | false =>
    go_enter Tryd.func79, Tryd.ntmps79
    go_wp2_with (go_at_call 78; refine (within_any _ _ _ _).mono ?_; rintro e w1 ⟨rfl, hu1⟩; rw [hu1]; clear hu1)
    go_ret
    exact ⟨rfl, hA⟩
  | true =>
    go_enter Tryd.func79, Tryd.ntmps79
    go_wp2_with (go_at_call 78; refine (within_any _ _ _ _).mono ?_; rintro e w1 ⟨rfl, hu1⟩; rw [hu1]; clear hu1)
    go_ret
    exact ⟨by simp, hA⟩
end Go.Proofs.YtgohpgollpjlnaaDoor
