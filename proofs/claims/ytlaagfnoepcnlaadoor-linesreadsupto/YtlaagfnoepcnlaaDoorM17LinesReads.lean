/- Texts of this claim, one behind the other. -/
import Derived.Lib.SplitLaws
import Derived.Lib.AtoiAll
import Derived.Lib.ItoaMem
import Derived.Test.YtlaagfnoepcnlaaDoorM16LinesReads
import Derived.LoopTactic
/- What an operator types, on plain data: words parted by blanks, numbers as they are written. -/
namespace Go.Proofs.YtlaagfnoepcnlaaDoor.Cn
open Go
set_option linter.unusedVariables false

/-- Words, parted by single blanks. -/
def spl : List UInt8 → List (List UInt8)
  | [] => [[]]
  | c :: r => if c = 32 then [] :: spl r else match spl r with
    | [] => [[c]]
    | x :: xs => (c :: x) :: xs
theorem spl_ne (l : List UInt8) : spl l ≠ [] := by
  cases l with
  | nil => simp [spl]
  | cons c r =>
    rw [spl]
    split
    · simp
    · split <;> simp
theorem spl_none {l : List UInt8} (h : ∀ c ∈ l, c ≠ 32) : spl l = [l] := by
  induction l with
  | nil => rfl
  | cons c r ih =>
    rw [spl, if_neg (h c (by simp)), ih (fun x hx => h x (by simp [hx]))]
theorem spl_blank (a r : List UInt8) (h : ∀ c ∈ a, c ≠ 32) : spl (a ++ 32 :: r) = a :: spl r := by
  induction a with
  | nil => simp [spl]
  | cons c t ih =>
    rw [List.cons_append, spl, if_neg (h c (by simp)), ih (fun x hx => h x (by simp [hx]))]
theorem index_none {l : List UInt8} (h : ∀ c ∈ l, c ≠ 32) : Lib.index l [32] = -1 := by
  induction l with
  | nil => rfl
  | cons c r ih =>
    have hp : ([32] : List UInt8).isPrefixOf (c :: r) = false := by simp [List.isPrefixOf, Ne.symm (h c (by simp))]
    rw [Lib.index, hp, ih (fun x hx => h x (by simp [hx]))]
    rfl
theorem index_blank (a r : List UInt8) (h : ∀ c ∈ a, c ≠ 32) : Lib.index (a ++ 32 :: r) [32] = (a.length : Int) := by
  induction a with
  | nil =>
    rw [List.nil_append, Lib.index]
    simp [List.isPrefixOf]
  | cons c t ih =>
    have hp : ([32] : List UInt8).isPrefixOf (c :: (t ++ 32 :: r)) = false := by simp [List.isPrefixOf, Ne.symm (h c (by simp))]
    rw [List.cons_append, Lib.index, hp, ih (fun x hx => h x (by simp [hx]))]
    have : ¬ ((t.length : Int) == -1) = true := fun e => by have := beq_iff_eq.1 e; omega
    simp only [Bool.false_eq_true, if_false, if_neg this, List.length_cons]
    omega
theorem first_blank (l : List UInt8) : (∀ c ∈ l, c ≠ 32) ∨ ∃ a r, l = a ++ 32 :: r ∧ ∀ c ∈ a, c ≠ 32 := by
  induction l with
  | nil => exact Or.inl (by simp)
  | cons c t ih =>
    by_cases hc : c = 32
    · exact Or.inr ⟨[], t, by simp [hc], by simp⟩
    · rcases ih with h | ⟨a, r, rfl, h⟩
      · exact Or.inl fun x hx => by rcases List.mem_cons.1 hx with rfl | hx; exact hc; exact h x hx
      · exact Or.inr ⟨c :: a, r, by simp, fun x hx => by rcases List.mem_cons.1 hx with rfl | hx; exact hc; exact h x hx⟩
theorem split_spl : ∀ (n : Nat) (l : List UInt8), l.length ≤ n → Lib.splitK [32] 0 (Lib.count l [32]) l = spl l := by
  intro n
  induction n with
  | zero =>
    intro l hl
    cases l with
    | nil => rfl
    | cons c r => simp at hl
  | succ n ih =>
    intro l hl
    rcases first_blank l with h | ⟨a, r, rfl, h⟩
    · rw [Lib.count_miss (index_none h), spl_none h]
      rfl
    · have hi := index_blank a r h
      have hd : (a ++ 32 :: r).drop (a.length + ([32] : List UInt8).length) = r := by simp
      rw [Lib.count_hit (by simp) hi, hd, Nat.add_comm, Lib.splitK, hi]
      have hm : ¬ ((a.length : Int) == -1) = true := fun e => by have := beq_iff_eq.1 e; omega
      rw [if_neg hm, spl_blank a r h]
      simp only [Int.toNat_natCast, Nat.add_zero]
      rw [hd, ih r (by simp at hl; omega)]
      simp
/-- A number, as it is written, from 0 to most. -/
def numOf (l : List UInt8) (most : Int) : Option Int := match Lib.atoiAll l with
  | .ok v => if Lib.itoa v = l ∧ 0 ≤ v ∧ v ≤ most then some v else none
  | _ => none
structure Cmd where
  kind : Int
  label : Int
  site : Int
  num : Int
  yes : Bool
  deriving DecidableEq
def Cmd.nil : Cmd := ⟨0, 0, 0, 0, false⟩
def Cmd.val (c : Cmd) : Value := .agg #[.int .i64 c.kind, .int .i64 c.label, .int .i64 c.site, .int .i64 c.num, .bool c.yes]
def aboutOf (kind : Int) (yes : Bool) : List (List UInt8) → Option Cmd
  | [a, b, c] => match numOf a 5, numOf b 3, numOf c 1048576 with
    | some x, some y, some z => some ⟨kind, x, y, z, yes⟩
    | _, _, _ => none
  | _ => none
def wList : List UInt8 := [108, 105, 115, 116]
def wAudit : List UInt8 := [97, 117, 100, 105, 116]
def wStatus : List UInt8 := [115, 116, 97, 116, 117, 115]
def wForce : List UInt8 := [102, 111, 114, 99, 101]
def wCommit : List UInt8 := [99, 111, 109, 109, 105, 116]
def wAbort : List UInt8 := [97, 98, 111, 114, 116]
def forceOf : List (List UInt8) → Option Cmd
  | [a, b, c, d] => if d = wCommit then aboutOf 3 true [a, b, c] else if d = wAbort then aboutOf 3 false [a, b, c] else none
  | _ => none
def wordsOf : List (List UInt8) → Option Cmd
  | [] => none
  | name :: ws => if name = wList then (if ws = [] then some ⟨1, 0, 0, 0, false⟩ else none)
    else if name = wAudit then (if ws = [] then some ⟨4, 0, 0, 0, false⟩ else none)
    else if name = wStatus then aboutOf 2 false ws
    else if name = wForce then forceOf ws
    else none
/-- What a line means, and why it is refused. -/
def lineErr (l : List UInt8) : Int := if 60 < l.length then 1 else if (wordsOf (spl l)).isSome then 0 else 4
def lineCmd (l : List UInt8) : Cmd := if 60 < l.length then Cmd.nil else (wordsOf (spl l)).getD Cmd.nil
/-- A number's digits are read as that number. -/
theorem digit_ok (d : Nat) (h : d < 10) : 48 ≤ (UInt8.ofNat (48 + d)).toNat ∧ (UInt8.ofNat (48 + d)).toNat ≤ 57 ∧ (UInt8.ofNat (48 + d)).toNat - 48 = d := by
  have : (UInt8.ofNat (48 + d)).toNat = 48 + d := by simp; omega
  rw [this]
  omega
theorem parse_snoc (l : List UInt8) (c : UInt8) : ∀ (acc u : Nat), Lib.parseUint10 acc l = .ok u → Lib.parseUint10 acc (l ++ [c]) = Lib.parseUint10 u [c] := by
  induction l with
  | nil => intro acc u h; simp only [Lib.parseUint10] at h; injection h with h; subst h; rfl
  | cons x r ih =>
    intro acc u h
    rw [List.cons_append]
    simp only [Lib.parseUint10] at h ⊢
    split at h
    · split at h
      · cases h
      · split at h
        · cases h
        · rename_i h1 h2 h3
          rw [if_pos h1, if_neg h2, if_neg h3]
          have := ih _ _ h
          rw [this]
          simp only [Lib.parseUint10]
    · cases h
theorem parse_dec : ∀ (n u : Nat), u ≤ n → u < 18446744073709551616 → Lib.parseUint10 0 (Lib.decDigits u) = .ok u := by
  intro n
  induction n with
  | zero =>
    intro u hu _
    obtain rfl : u = 0 := by omega
    rw [Lib.decDigits, dif_pos (by omega)]
    rfl
  | succ n ih =>
    intro u hu h64
    by_cases h : u < 10
    · obtain ⟨a1, a2, a3⟩ := digit_ok u h
      rw [Lib.decDigits, dif_pos h]
      simp only [Lib.parseUint10]
      rw [if_pos ⟨a1, a2⟩, if_neg (by omega), if_neg (by omega)]
      simp only [a3]
      congr 1
      omega
    · obtain ⟨a1, a2, a3⟩ := digit_ok (u % 10) (by omega)
      rw [Lib.decDigits, dif_neg h, parse_snoc _ _ 0 (u / 10) (ih (u / 10) (by omega) (by omega))]
      simp only [Lib.parseUint10]
      rw [if_pos ⟨a1, a2⟩, if_neg (by omega), if_neg (by omega)]
      simp only [a3]
      congr 1
      omega
theorem dec_digit : ∀ (n u : Nat), u ≤ n → ∀ c ∈ Lib.decDigits u, 48 ≤ c.toNat ∧ c.toNat ≤ 57 := by
  intro n
  induction n with
  | zero =>
    intro u hu c hc
    obtain rfl : u = 0 := by omega
    rw [Lib.decDigits, dif_pos (by omega)] at hc
    simp at hc
    subst hc
    decide
  | succ n ih =>
    intro u hu c hc
    by_cases h : u < 10
    · rw [Lib.decDigits, dif_pos h] at hc
      simp only [List.mem_cons, List.not_mem_nil, or_false] at hc
      subst hc
      exact ⟨(digit_ok u h).1, (digit_ok u h).2.1⟩
    · rw [Lib.decDigits, dif_neg h] at hc
      rcases List.mem_append.1 hc with hc | hc
      · exact ih (u / 10) (by omega) c hc
      · simp only [List.mem_cons, List.not_mem_nil, or_false] at hc
        subst hc
        exact ⟨(digit_ok (u % 10) (by omega)).1, (digit_ok (u % 10) (by omega)).2.1⟩
theorem dec_ne (u : Nat) : Lib.decDigits u ≠ [] := fun h => by
  have := Lib.decDigits_length u
  rw [h] at this
  have := Lib.nDigits_pos u
  simp at *
  omega
theorem atoi_dec {u : Nat} (h : u < 9223372036854775808) : Lib.atoiAll (Lib.decDigits u) = .ok (u : Int) := by
  have hd := dec_digit u u (Nat.le_refl _)
  have hp := parse_dec u u (Nat.le_refl _) (by omega)
  have hne := dec_ne u
  revert hd hp hne
  generalize Lib.decDigits u = l
  intro hd hp hne
  cases l with
  | nil => exact absurd rfl hne
  | cons c r =>
    have hc := hd c (by simp)
    unfold Lib.atoiAll
    simp only
    rw [if_neg (by omega)]
    unfold Lib.parseMag
    rw [if_neg (by simp), hp]
    simp only
    rw [if_neg (by omega), if_neg (by omega), if_neg (by omega)]
theorem num_itoa {v most : Int} (h0 : 0 ≤ v) (h1 : v ≤ most) (h2 : most ≤ 9223372036854775807) : numOf (Lib.itoa v) most = some v := by
  obtain ⟨u, rfl⟩ : ∃ u : Nat, v = (u : Int) := ⟨v.toNat, by omega⟩
  have e : Lib.itoa (u : Int) = Lib.decDigits u := Lib.itoa_nonneg u
  unfold numOf
  rw [e, atoi_dec (by omega)]
  simp only
  rw [if_pos ⟨e, by omega, h1⟩]
theorem itoa_noblank {v : Int} (h0 : 0 ≤ v) : ∀ c ∈ Lib.itoa v, c ≠ 32 := by
  obtain ⟨u, rfl⟩ : ∃ u : Nat, v = (u : Int) := ⟨v.toNat, by omega⟩
  rw [Lib.itoa_nonneg u]
  intro c hc e
  have := dec_digit u u (Nat.le_refl _) c hc
  subst e
  simp at this
end Go.Proofs.YtlaagfnoepcnlaaDoor.Cn
/- lines.Read on plain data: words and lines, what they are read as. -/
namespace Go.Proofs.YtlaagfnoepcnlaaDoor.Ln
open Go.Proofs.YtlaagfnoepcnlaaDoor.Cn (spl spl_ne spl_none spl_blank)
set_option linter.unusedVariables false

abbrev WS := List (List UInt8)
/-- Parts, parted by a byte. -/
def spc (d : UInt8) : List UInt8 → WS
  | [] => [[]]
  | c :: r => if c = d then [] :: spc d r else match spc d r with
    | [] => [[c]]
    | x :: xs => (c :: x) :: xs
theorem spl_spc : ∀ (l : List UInt8), spl l = spc 32 l
  | [] => rfl
  | c :: r => by
    rw [spl, spc, spl_spc r]
    cases spc 32 r <;> rfl
theorem spc_none {d : UInt8} {l : List UInt8} (h : ∀ c ∈ l, c ≠ d) : spc d l = [l] := by
  induction l with
  | nil => rfl
  | cons c r ih => rw [spc, if_neg (h c (by simp)), ih (fun x hx => h x (by simp [hx]))]
theorem spc_cut {d : UInt8} (a r : List UInt8) (h : ∀ c ∈ a, c ≠ d) : spc d (a ++ d :: r) = a :: spc d r := by
  induction a with
  | nil => simp [spc]
  | cons c t ih => rw [List.cons_append, spc, if_neg (h c (by simp)), ih (fun x hx => h x (by simp [hx]))]
theorem spc_ne (d : UInt8) (l : List UInt8) : spc d l ≠ [] := by
  cases l with
  | nil => simp [spc]
  | cons c r =>
    rw [spc]
    split
    · simp
    · split <;> simp
theorem spc_first (d : UInt8) (l : List UInt8) : (∀ c ∈ l, c ≠ d) ∨ ∃ a r, l = a ++ d :: r ∧ ∀ c ∈ a, c ≠ d := by
  induction l with
  | nil => exact Or.inl (by simp)
  | cons c t ih =>
    by_cases hc : c = d
    · exact Or.inr ⟨[], t, by simp [hc], by simp⟩
    · rcases ih with h | ⟨a, r, rfl, h⟩
      · exact Or.inl fun x hx => by rcases List.mem_cons.1 hx with rfl | hx; exact hc; exact h x hx
      · exact Or.inr ⟨c :: a, r, by simp, fun x hx => by rcases List.mem_cons.1 hx with rfl | hx; exact hc; exact h x hx⟩
theorem ib_none {d : UInt8} {l : List UInt8} (h : ∀ c ∈ l, c ≠ d) : Lib.indexByte l d = -1 := by
  induction l with
  | nil => rfl
  | cons c r ih =>
    unfold Lib.indexByte
    rw [if_neg (by simpa using h c (by simp)), ih (fun x hx => h x (by simp [hx]))]
    rfl
theorem ib_hit {d : UInt8} (a r : List UInt8) (h : ∀ c ∈ a, c ≠ d) : Lib.indexByte (a ++ d :: r) d = (a.length : Int) := by
  induction a with
  | nil => unfold Lib.indexByte; simp
  | cons c t ih =>
    rw [List.cons_append]
    unfold Lib.indexByte
    rw [if_neg (by simpa using h c (by simp)), ih (fun x hx => h x (by simp [hx])), if_neg (by intro e; have := beq_iff_eq.1 e; omega)]
    simp
theorem cut_none {d : UInt8} {l : List UInt8} (h : ∀ c ∈ l, c ≠ d) : cutC d l = (l, [], false) := by
  unfold cutC
  rw [ib_none h, if_neg (by omega)]
theorem cut_hit2 {d : UInt8} (a r : List UInt8) (h : ∀ c ∈ a, c ≠ d) : cutC d (a ++ d :: r) = (a, r, true) := by
  unfold cutC
  rw [ib_hit a r h, if_pos (by omega)]
  simp
/-- What is cut off is the first part, and what is left are the others. -/
theorem cut_spc (d : UInt8) (r : List UInt8) : (cutC d r).1 = (spc d r).headD [] ∧ ((cutC d r).2.2 = true → spc d (cutC d r).2.1 = (spc d r).tail ∧ (cutC d r).2.1.length < r.length) ∧ ((cutC d r).2.2 = false → (spc d r).tail = [] ∧ (cutC d r).2.1 = [] ∧ r = (cutC d r).1) := by
  rcases spc_first d r with h | ⟨a, t, rfl, h⟩
  · rw [cut_none h, spc_none h]
    simp
  · rw [cut_hit2 a t h, spc_cut a t h]
    simp
    omega
def kFind (f : Nat → ByteArray) (w : List UInt8) : Nat → Nat → Nat
  | 0, _ => 0
  | m + 1, k => if (f k).data.toList = w then k else kFind f w m (k + 1)
def kindA (w : List UInt8) : Nat := kFind aWord w 9 0
def kindC (w : List UInt8) : Nat := kFind cWord w 6 0
theorem kFind_lt {f : Nat → ByteArray} {w : List UInt8} : ∀ (m k : Nat), kFind f w m k < m + k ∨ kFind f w m k = 0
  | 0, _ => Or.inr rfl
  | m + 1, k => by
    unfold kFind
    split
    · exact Or.inl (by omega)
    · rcases kFind_lt (f := f) (w := w) m (k + 1) with h | h
      · exact Or.inl (by omega)
      · exact Or.inr h
theorem kindA_lt (w : List UInt8) : kindA w < 9 := by
  rcases kFind_lt (f := aWord) (w := w) 9 0 with h | h
  · exact h
  · unfold kindA; omega
theorem kindC_lt (w : List UInt8) : kindC w < 6 := by
  rcases kFind_lt (f := cWord) (w := w) 6 0 with h | h
  · exact h
  · unfold kindC; omega
/-- Numbers that there are, each from its word. -/
def stNums : List Bool → WS → Option (List Int × WS)
  | [], ws => some ([], ws)
  | h :: hs, ws => if h then (match numL (ws.headD []) with
      | none => none
      | some n => (stNums hs ws.tail).map fun p => (n :: p.1, p.2))
    else (stNums hs ws).map fun p => (0 :: p.1, p.2)
def stKept : WS → Option (List Int)
  | [] => some []
  | w :: r => match numL w with
    | none => none
    | some n => (stKept r).map (n :: ·)
def digs : List UInt8 := [48, 49, 50, 51, 52, 53, 54, 55, 56, 57, 97, 98, 99, 100, 101, 102]
def dgt (c : UInt8) : Int := Lib.indexByte digs c
def unhex : List UInt8 → Option (List UInt8)
  | [] => some []
  | [_] => none
  | a :: b :: r => if dgt a < 0 ∨ dgt b < 0 then none else (unhex r).map (UInt8.ofNat (16 * (dgt a).toNat + (dgt b).toNat) :: ·)
def stText : List UInt8 → Option (List UInt8)
  | [] => none
  | c :: r => if c = 46 then unhex r else none
structure CV where
  kind : Nat
  ps : List Int
def CV.nil : CV := ⟨0, [0, 0, 0, 0]⟩
def stCall (ws : WS) : Option (CV × WS) := if kindC (ws.headD []) = 0 then none else (stNums (cHas.getD (kindC (ws.headD [])) []) ws.tail).map fun p => (⟨kindC (ws.headD []), p.1⟩, p.2)
/-- An act of its parts, its Keep not laid yet. -/
def mkAct (k : Nat) (ps : List Int) (zs : List Int) (c : CV) (t : List UInt8) : AV :=
  ⟨(k : Int), ps.getD 0 0, ps.getD 1 0, ps.getD 2 0, ps.getD 3 0, none, (zs.take 7).length, 0, (c.kind : Int), c.ps.getD 0 0, c.ps.getD 1 0, c.ps.getD 2 0, c.ps.getD 3 0, ⟨t.toArray⟩, zs.take 7⟩
def stKeep (k : Nat) (ws : WS) : Option (List Int × WS) := if k = 6 then (stKept ws).map fun l => (l, []) else some ([], ws)
def stCalled (k : Nat) (ws : WS) : Option (CV × WS) := if k = 1 then stCall ws else some (CV.nil, ws)
def stLine (k : Nat) (ws : WS) : Option (List UInt8 × WS) := if k = 8 then (stText (ws.headD [])).map fun t => (t, ws.tail) else some ([], ws)
def stAct (ws : WS) : Option (AV × WS) :=
  if kindA (ws.headD []) = 0 then none else
  match stNums ((aHas.getD (kindA (ws.headD [])) []).take 4) ws.tail with
  | none => none
  | some p => match stKeep (kindA (ws.headD [])) p.2 with
    | none => none
    | some z => match stCalled (kindA (ws.headD [])) z.2 with
      | none => none
      | some c => match stLine (kindA (ws.headD [])) c.2 with
        | none => none
        | some t => some (mkAct (kindA (ws.headD [])) p.1 z.1 c.1 t.1, t.2)
/-- An act of a line without its end. -/
def lnAct (l : List UInt8) : Option AV := match stAct (spc 32 l) with
  | some (a, []) => some a
  | _ => none
/-- Acts of lines: the acts, the place of the line that is wrong, and what is wrong. -/
def rdL (s : Int) (ls : List (Int × Int)) (p : Int) : Nat → List AV → WS → List AV × Int × Int
  | _, acc, [] => (acc, 0, 0)
  | k, acc, [x] => if x = [] then (acc, 0, 0) else if k = 3000 then ([], (k : Int), 1) else ([], (k : Int), 4)
  | k, acc, x :: y :: r => if k = 3000 then ([], (k : Int), 1) else match lnAct x with
    | none => ([], (k : Int), 4)
    | some a => if actFault s ls p a = 0 then rdL s ls p (k + 1) (acc ++ [a]) (y :: r) else ([], (k : Int), actFault s ls p a)
def rdAll (s : Int) (ls : List (Int × Int)) (p : Int) (t : List UInt8) : List AV × Int × Int :=
  if cfgFault s ls p ≠ 0 then ([], 0, cfgFault s ls p) else rdL s ls p 0 [] (spc 10 t)
/-- One line further. -/
theorem rdL_cut (s : Int) (ls : List (Int × Int)) (p : Int) (k : Nat) (acc : List AV) (t : List UInt8) : rdL s ls p k acc (spc 10 t) =
    if t = [] then (acc, 0, 0) else if k = 3000 then ([], (k : Int), 1) else if (cutC 10 t).2.2 = false then ([], (k : Int), 4) else
    match lnAct (cutC 10 t).1 with
    | none => ([], (k : Int), 4)
    | some a => if actFault s ls p a = 0 then rdL s ls p (k + 1) (acc ++ [a]) (spc 10 (cutC 10 t).2.1) else ([], (k : Int), actFault s ls p a) := by
  rcases spc_first 10 t with h | ⟨a, r, rfl, h⟩
  · rw [cut_none h, spc_none h]
    simp only [rdL, if_true]
  · rw [cut_hit2 a r h, spc_cut a r h, if_neg (by simp)]
    cases e : spc 10 r with
    | nil => exact absurd e (spc_ne 10 r)
    | cons y q => simp only [rdL, Bool.true_eq_false, if_false]
end Go.Proofs.YtlaagfnoepcnlaaDoor.Ln
/- lines' reader over plain data: word, number, actKind, callKind. -/
namespace Go.Proofs.YtlaagfnoepcnlaaDoor.Ln
open Go.ChangeShapes Go.WideShapes Go.ChangeAt Go.RowKit
open Go.Proofs.YtlaagfnoepcnlaaDoor.St (BoxN boxn_new)
set_option linter.unusedVariables false

def rdOk (r : List UInt8) (en wr : Bool) : Option WS → Prop
  | none => wr = true
  | some ws => wr = false ∧ ((en = true ∧ r = [] ∧ ws = []) ∨ (en = false ∧ ws = spc 32 r))
/-- A reader in its box: what words are left (none: something was wrong). -/
def Rd (L q : Nat) (u : World) (st : Option WS) : Prop := ∃ r en wr, BoxN u q 3 (rdC r en wr) ∧ r.length ≤ L ∧ rdOk r en wr st
theorem Rd.lt {L q : Nat} {u : World} {st : Option WS} (h : Rd L q u st) : q < u.heap.size := by
  obtain ⟨r, en, wr, h, -⟩ := h
  exact h.lt
theorem Rd.below {L q : Nat} {u v : World} {st : Option WS} (h : Rd L q u st) (hb : Below u.heap.size u v) : Rd L q v st := by
  have hl := h.lt
  obtain ⟨r, en, wr, h, h2⟩ := h
  exact ⟨r, en, wr, h.below hb hl, h2⟩
theorem rdOk_word {r : List UInt8} {en wr : Bool} {st : Option WS} (h : rdOk r en wr st) : (∀ ws, st = some ws → (cutC 32 r).1 = ws.headD []) ∧ rdOk (cutC 32 r).2.1 (!(cutC 32 r).2.2) wr (st.map List.tail) := by
  obtain ⟨c1, c2, c3⟩ := cut_spc 32 r
  cases st with
  | none => exact ⟨(fun ws e => by cases e), h⟩
  | some ws =>
    obtain ⟨hw, h⟩ := h
    rcases h with ⟨he, hr, hs⟩ | ⟨he, hs⟩
    · subst hr hs
      exact ⟨fun ws e => by cases e; rfl, hw, Or.inl ⟨rfl, rfl, rfl⟩⟩
    · subst hs
      refine ⟨fun ws e => by cases e; exact c1, hw, ?_⟩
      cases e : (cutC 32 r).2.2 with
      | true => exact Or.inr ⟨rfl, (c2 e).1.symm⟩
      | false => exact Or.inl ⟨rfl, (c3 e).2.1, (c3 e).1⟩
theorem rdOk_wrong {r : List UInt8} {en wr : Bool} {st : Option WS} (h : rdOk r en wr st) : rdOk r en true none := rfl
/-- A word. -/
theorem word_rd (L q : Nat) (st : Option WS) (u : World) (h : Rd L q u st) (hL : L ≤ 9223372036854775807) :
    Calls Tryd.prog 75 #[.pointer (some ⟨q, 0, none⟩)] u fun e u' => ∃ x : List UInt8, e = .returned (.string ⟨x.toArray⟩) ∧ x.length ≤ L ∧ (∀ ws, st = some ws → x = ws.headD []) ∧ Rd L q u' (st.map List.tail) ∧ Sav q u u' := by
  obtain ⟨r, en, wr, bx, hl, hr⟩ := h
  refine (word_any q r en wr u bx (by omega)).mono ?_
  rintro e u' ⟨rfl, b2, s2⟩
  have hc := cutC_len (c := 32) (r := r)
  exact ⟨_, rfl, by omega, (rdOk_word hr).1, ⟨_, _, _, b2, by omega, (rdOk_word hr).2⟩, s2⟩
def stNum (ws : WS) : Option WS := match numL (ws.headD []) with
  | none => none
  | some _ => some ws.tail
/-- A number. -/
theorem number_rd (L q : Nat) (st : Option WS) (u : World) (h : Rd L q u st) (hL : L ≤ 140737488355328) (hT : ∀ U, Sav q u U → RdW U) :
    Calls Tryd.prog 89 #[.pointer (some ⟨q, 0, none⟩)] u fun e u' => ∃ n, e = .returned (.int .i64 n) ∧ i64n n ∧ (∀ ws v, st = some ws → numL (ws.headD []) = some v → n = v) ∧ Rd L q u' (st.bind stNum) ∧ Sav q u u' := by
  obtain ⟨r, en, wr, bx, hl, hr⟩ := h
  refine (number_any q r en wr u bx (by omega) hT).mono ?_
  rintro e u' ⟨n, rfl, hi, hn, b2, s2⟩
  have hc := cutC_len (c := 32) (r := r)
  refine ⟨n, rfl, hi, fun ws v e1 e2 => hn v (by rw [(rdOk_word hr).1 ws e1]; exact e2), ⟨_, _, _, b2, by omega, ?_⟩, s2⟩
  obtain ⟨k1, k2⟩ := rdOk_word hr
  cases st with
  | none =>
    have : wr = true := hr
    subst this
    rfl
  | some ws =>
    have hw : wr = false := hr.1
    subst hw
    have e1 := k1 ws rfl
    rw [e1]
    show rdOk _ _ _ (stNum ws)
    unfold stNum
    cases e2 : numL (ws.headD []) with
    | none => rfl
    | some v => exact k2
theorem actKind_at (k : Nat) (hk : k < 9) (U : World) : (Instr.index 88 (.agg #[.string ⟨#[]⟩, .string ⟨#[97, 115, 107]⟩, .string ⟨#[100, 101, 108, 105, 118, 101, 114]⟩, .string ⟨#[100, 114, 111, 112]⟩, .string ⟨#[99, 111, 112, 121]⟩, .string ⟨#[116, 105, 99, 107]⟩, .string ⟨#[99, 114, 97, 115, 104]⟩, .string ⟨#[115, 116, 97, 114, 116]⟩, .string ⟨#[116, 121, 112, 101]⟩]) (.int .i64 (k : Int))).run Tryd.prog U = .ok (.string (aWord k)) U := by
  rcases (by omega : k = 0 ∨ k = 1 ∨ k = 2 ∨ k = 3 ∨ k = 4 ∨ k = 5 ∨ k = 6 ∨ k = 7 ∨ k = 8) with rfl | rfl | rfl | rfl | rfl | rfl | rfl | rfl | rfl <;> kernel_rfl
set_option maxRecDepth 100000 in
set_option maxHeartbeats 4000000 in
theorem actKind_any (x : List UInt8) (w : World) (hA : WTab w 1 9 aWord) :
    Calls Tryd.prog 74 #[.string ⟨x.toArray⟩] w fun e w' => e = .returned (.int .i64 (kindA x : Int)) ∧ w' = w := by
  obtain ⟨z, hc⟩ := hA
  have c0 : w.cell? ⟨1, 0, none⟩ = some (.string ⟨#[]⟩) := hc 0 (by decide)
  have c1 : w.cell? ⟨1, 1, none⟩ = some (.string ⟨#[97, 115, 107]⟩) := hc 1 (by decide)
  have c2 : w.cell? ⟨1, 2, none⟩ = some (.string ⟨#[100, 101, 108, 105, 118, 101, 114]⟩) := hc 2 (by decide)
  have c3 : w.cell? ⟨1, 3, none⟩ = some (.string ⟨#[100, 114, 111, 112]⟩) := hc 3 (by decide)
  have c4 : w.cell? ⟨1, 4, none⟩ = some (.string ⟨#[99, 111, 112, 121]⟩) := hc 4 (by decide)
  have c5 : w.cell? ⟨1, 5, none⟩ = some (.string ⟨#[116, 105, 99, 107]⟩) := hc 5 (by decide)
  have c6 : w.cell? ⟨1, 6, none⟩ = some (.string ⟨#[99, 114, 97, 115, 104]⟩) := hc 6 (by decide)
  have c7 : w.cell? ⟨1, 7, none⟩ = some (.string ⟨#[115, 116, 97, 114, 116]⟩) := hc 7 (by decide)
  have c8 : w.cell? ⟨1, 8, none⟩ = some (.string ⟨#[116, 121, 112, 101]⟩) := hc 8 (by decide)
  clear hc
  have hIx := fun k hk U => actKind_at k hk U
  obtain ⟨AG, eAG⟩ : ∃ v : Value, v = .agg #[.string ⟨#[]⟩, .string ⟨#[97, 115, 107]⟩, .string ⟨#[100, 101, 108, 105, 118, 101, 114]⟩, .string ⟨#[100, 114, 111, 112]⟩, .string ⟨#[99, 111, 112, 121]⟩, .string ⟨#[116, 105, 99, 107]⟩, .string ⟨#[99, 114, 97, 115, 104]⟩, .string ⟨#[115, 116, 97, 114, 116]⟩, .string ⟨#[116, 121, 112, 101]⟩] := ⟨_, rfl⟩
  rw [← eAG] at hIx
  have HIx : Hid (∀ (k : Nat), k < 9 → ∀ (U : World), (Instr.index 88 AG (.int .i64 (k : Int))).run Tryd.prog U = .ok (.string (aWord k)) U) := hIx
  obtain ⟨R, eR⟩ : ∃ R, R = kindA x := ⟨_, rfl⟩
  have HR : Hid (R = kFind aWord x (9 - 0) 0) := eR
  rw [← eR]
  clear eR hIx
  go_enter Tryd.func74, Tryd.ntmps74
  go_upto_region 2 with (fail)
  rw [← eAG]
  clear eAG c0 c1 c2 c3 c4 c5 c6 c7 c8 z
  go_loopw [6] (fun s6 wr => ∃ (k : Nat), k ≤ 9 ∧ s6 = .int .i64 k ∧ Hid (R = kFind aWord x (9 - k) k) ∧ wr = w) (fun s6 _ => 9 - (intOf s6).toNat)
  case atStart => exact ⟨0, by omega, rfl, HR, rfl⟩
  case round =>
    obtain ⟨k, hk, rfl, hT, rfl⟩ := hrel
    clear HR
    by_cases hlt : k < 9
    · have hlt' : (k : Int) < 9 := by omega
      have hi := HIx.out k hlt wr
      have HJ : Hid (k + 1 ≤ 9) := hlt
      have hT2 : Hid (R = if (aWord k).data.toList = x then k else kFind aWord x (9 - (k + 1)) (k + 1)) := by
        show _ = _
        rw [hT.out, show 9 - k = (9 - (k + 1)) + 1 by omega, kFind]
      obtain ⟨W1, eW⟩ : ∃ v, v = aWord k := ⟨_, rfl⟩
      rw [← eW] at hi hT2
      clear eW hT HIx
      have eT : W1.toList = W1.data.toList := Go.ByteArray.toList_eq W1
      by_cases hE : W1.data.toList = x
      · have hE2 : (W1.toList == x) = true := by rw [eT, hE]; simp
        have hR : Hid (R = k) := by show _ = _; rw [hT2.out, if_pos hE]
        clear hT2 eT hE
        go_wp2
        all_goals first | (exact absurd ‹¬ _› (by assumption)) | skip
        go_ret
        exact ⟨by rw [hR.out]; rfl, rfl⟩
      · have hE2 : (W1.toList == x) = false := by rw [eT]; simpa using hE
        have hR : Hid (R = kFind aWord x (9 - (k + 1)) (k + 1)) := by show _ = _; rw [hT2.out, if_neg hE]
        clear hT2 eT hE
        go_wp2
        go_roundw
        case rel => exact ⟨k + 1, HJ.out, by go_num, hR, by first | rfl | trivial⟩
        case measure => have := HJ.out; simp [intOf]; omega
    · obtain rfl : k = 9 := by omega
      have hR : Hid (R = 0) := by show _ = _; rw [hT.out]; rfl
      clear hT HIx
      go_wp2
      go_ret
      exact ⟨by rw [hR.out]; rfl, rfl⟩
theorem callKind_at (k : Nat) (hk : k < 6) (U : World) : (Instr.index 117 (.agg #[.string ⟨#[]⟩, .string ⟨#[98, 101, 103, 105, 110]⟩, .string ⟨#[103, 101, 116]⟩, .string ⟨#[112, 117, 116]⟩, .string ⟨#[99, 111, 109, 109, 105, 116]⟩, .string ⟨#[114, 111, 108, 108, 98, 97, 99, 107]⟩]) (.int .i64 (k : Int))).run Tryd.prog U = .ok (.string (cWord k)) U := by
  rcases (by omega : k = 0 ∨ k = 1 ∨ k = 2 ∨ k = 3 ∨ k = 4 ∨ k = 5) with rfl | rfl | rfl | rfl | rfl | rfl <;> kernel_rfl
set_option maxRecDepth 100000 in
set_option maxHeartbeats 4000000 in
theorem callKind_any (x : List UInt8) (w : World) (hA : WTab w 4 6 cWord) :
    Calls Tryd.prog 90 #[.string ⟨x.toArray⟩] w fun e w' => e = .returned (.int .i64 (kindC x : Int)) ∧ w' = w := by
  obtain ⟨z, hc⟩ := hA
  have c0 : w.cell? ⟨4, 0, none⟩ = some (.string ⟨#[]⟩) := hc 0 (by decide)
  have c1 : w.cell? ⟨4, 1, none⟩ = some (.string ⟨#[98, 101, 103, 105, 110]⟩) := hc 1 (by decide)
  have c2 : w.cell? ⟨4, 2, none⟩ = some (.string ⟨#[103, 101, 116]⟩) := hc 2 (by decide)
  have c3 : w.cell? ⟨4, 3, none⟩ = some (.string ⟨#[112, 117, 116]⟩) := hc 3 (by decide)
  have c4 : w.cell? ⟨4, 4, none⟩ = some (.string ⟨#[99, 111, 109, 109, 105, 116]⟩) := hc 4 (by decide)
  have c5 : w.cell? ⟨4, 5, none⟩ = some (.string ⟨#[114, 111, 108, 108, 98, 97, 99, 107]⟩) := hc 5 (by decide)
  clear hc
  have hIx := fun k hk U => callKind_at k hk U
  obtain ⟨AG, eAG⟩ : ∃ v : Value, v = .agg #[.string ⟨#[]⟩, .string ⟨#[98, 101, 103, 105, 110]⟩, .string ⟨#[103, 101, 116]⟩, .string ⟨#[112, 117, 116]⟩, .string ⟨#[99, 111, 109, 109, 105, 116]⟩, .string ⟨#[114, 111, 108, 108, 98, 97, 99, 107]⟩] := ⟨_, rfl⟩
  rw [← eAG] at hIx
  have HIx : Hid (∀ (k : Nat), k < 6 → ∀ (U : World), (Instr.index 117 AG (.int .i64 (k : Int))).run Tryd.prog U = .ok (.string (cWord k)) U) := hIx
  obtain ⟨R, eR⟩ : ∃ R, R = kindC x := ⟨_, rfl⟩
  have HR : Hid (R = kFind cWord x (6 - 0) 0) := eR
  rw [← eR]
  clear eR hIx
  go_enter Tryd.func90, Tryd.ntmps90
  go_upto_region 2 with (fail)
  rw [← eAG]
  clear eAG c0 c1 c2 c3 c4 c5 z
  go_loopw [6] (fun s6 wr => ∃ (k : Nat), k ≤ 6 ∧ s6 = .int .i64 k ∧ Hid (R = kFind cWord x (6 - k) k) ∧ wr = w) (fun s6 _ => 6 - (intOf s6).toNat)
  case atStart => exact ⟨0, by omega, rfl, HR, rfl⟩
  case round =>
    obtain ⟨k, hk, rfl, hT, rfl⟩ := hrel
    clear HR
    by_cases hlt : k < 6
    · have hlt' : (k : Int) < 6 := by omega
      have hi := HIx.out k hlt wr
      have HJ : Hid (k + 1 ≤ 6) := hlt
      have hT2 : Hid (R = if (cWord k).data.toList = x then k else kFind cWord x (6 - (k + 1)) (k + 1)) := by
        show _ = _
        rw [hT.out, show 6 - k = (6 - (k + 1)) + 1 by omega, kFind]
      obtain ⟨W1, eW⟩ : ∃ v, v = cWord k := ⟨_, rfl⟩
      rw [← eW] at hi hT2
      clear eW hT HIx
      have eT : W1.toList = W1.data.toList := Go.ByteArray.toList_eq W1
      by_cases hE : W1.data.toList = x
      · have hE2 : (W1.toList == x) = true := by rw [eT, hE]; simp
        have hR : Hid (R = k) := by show _ = _; rw [hT2.out, if_pos hE]
        clear hT2 eT hE
        go_wp2
        all_goals first | (exact absurd ‹¬ _› (by assumption)) | skip
        go_ret
        exact ⟨by rw [hR.out]; rfl, rfl⟩
      · have hE2 : (W1.toList == x) = false := by rw [eT]; simpa using hE
        have hR : Hid (R = kFind cWord x (6 - (k + 1)) (k + 1)) := by show _ = _; rw [hT2.out, if_neg hE]
        clear hT2 eT hE
        go_wp2
        go_roundw
        case rel => exact ⟨k + 1, HJ.out, by go_num, hR, by first | rfl | trivial⟩
        case measure => have := HJ.out; simp [intOf]; omega
    · obtain rfl : k = 6 := by omega
      have hR : Hid (R = 0) := by show _ = _; rw [hT.out]; rfl
      clear hT HIx
      go_wp2
      go_ret
      exact ⟨by rw [hR.out]; rfl, rfl⟩
end Go.Proofs.YtlaagfnoepcnlaaDoor.Ln
