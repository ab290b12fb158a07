/- Texts of this claim, one behind the other. -/
import Derived.Test.YtlaagfnoepcnlaaDoorM15LinesShows
import Derived.Test.YtlaagfnoepcnlaaDoorM19LinesShows
import Derived.Lib.LaidTab
import Derived.LaidLaws
import Derived.Shelf.Vars
import Derived.WalkSmall
import Derived.ShapedOpen
import Derived.Test.YtlaagfnoepcnlaaDoorM8LinesShows
import Derived.Laws.IdiomStrings
import Derived.Laws.Concat
import Derived.Deep.QuietTactic
import Derived.BigQuiet
import Derived.Lib.QuietBelow
import Derived.Lib.SplitLaws
import Derived.Lib.AtoiAll
import Derived.Lib.ItoaMem
/- The tables of words that package lines lays; all tables in every later world. -/
namespace Go.Proofs.YtlaagfnoepcnlaaDoor.Ln
set_option maxRecDepth 10000
open Go.ChangeShapes Go.WideShapes Go.ChangeAt Go.RowKit Go.Joins Go.Deep

def wTab {H : Type} (ws : List (List UInt8)) : DataW H := .agg (ws.map fun s => .lit (.string s))
section
variable {H : Type} {enc : TypeId × Value → H} {W : World} {base : Nat} {sp : Nat → Bool} {held : Bool}
theorem c1s : Tryd.prog.cellsOf 9 = 1 := by kernel_rfl
theorem words_of {fuel N : Nat} {tr : TypeId} {cs : List Value} {ws : List (List UInt8)} {p : List MemPlace} (hr : Tryd.prog.underlying tr = some (.array N 9)) (hb : ws.length = N) (h : DataW.trod enc Tryd.prog W base sp held fuel tr cs = some (wTab ws, p)) (j : Nat) (hj : j < N) : cs[j]? = some (.string ⟨(ws.getD j []).toArray⟩) := by
  obtain ⟨xs, m, rfl, hx, hl, hn, hel⟩ := DataW.trod_array hr h
  have hxs : xs.map (·.1) = ws.map fun b => (DataW.lit (.string b) : DataW H) := by
    have := congrArg Prod.fst hx
    simpa [wTab] using this.symm
  have h1 := hel j hj
  rw [c1s, List.getElem?_eq_getElem (by omega)] at h1
  obtain ⟨b, hc, hx1, _⟩ := DataW.trod_string Tryd.underlying9 h1
  have e1 : cs[j]? = some (.string b) := by
    have := congrArg (·[0]?) hc
    simpa [List.getElem?_take, List.getElem?_drop] using this
  have e2 : (xs.map (·.1))[j]? = some (DataW.lit (.string b.data.toList) : DataW H) := by
    rw [List.getElem?_map, List.getElem?_eq_getElem (by omega), hx1]; rfl
  rw [hxs] at e2
  have hjb : j < ws.length := by omega
  simp [hjb] at e2
  rw [e1]
  simp [List.getD, hjb, e2]
theorem wtab_of {fuel n g : Nat} {t : TypeId} {cs : Array Value} {ws : List (List UInt8)} {p : List MemPlace} {name : String} {f : Nat → ByteArray} (hg : Tryd.prog.globalNamed name = some g) (hv : W.var? Tryd.prog name = some cs) (ht : Tryd.prog.underlying t = some (.array n 9)) (hn : ws.length = n) (h0 : 0 < n) (hf : ∀ i, i < n → (⟨(ws.getD i []).toArray⟩ : ByteArray) = f i)
    (h : DataW.trod enc Tryd.prog W base sp held fuel t cs.toList = some (wTab ws, p)) : WTab W g n f := by
  have c : ∀ i, i < n → W.cell? ⟨g, i, none⟩ = some (.string (f i)) := fun i hi => by
    rw [World.var?_cell hg hv, ← Array.getElem?_toList, words_of ht hn h i hi, hf i hi]
  exact ⟨World.block_lt_of_cell? W _ (c 0 h0), c⟩
def awL : List (List UInt8) := [[], [97, 115, 107], [100, 101, 108, 105, 118, 101, 114], [100, 114, 111, 112], [99, 111, 112, 121], [116, 105, 99, 107], [99, 114, 97, 115, 104], [115, 116, 97, 114, 116], [116, 121, 112, 101]]
def cwL : List (List UInt8) := [[], [98, 101, 103, 105, 110], [103, 101, 116], [112, 117, 116], [99, 111, 109, 109, 105, 116], [114, 111, 108, 108, 98, 97, 99, 107]]
theorem awL_is : ∀ i, i < 9 → (⟨(awL.getD i []).toArray⟩ : ByteArray) = aWord i := by
  intro i hi
  rcases (by omega : i = 0 ∨ i = 1 ∨ i = 2 ∨ i = 3 ∨ i = 4 ∨ i = 5 ∨ i = 6 ∨ i = 7 ∨ i = 8) with rfl | rfl | rfl | rfl | rfl | rfl | rfl | rfl | rfl <;> rfl
theorem cwL_is : ∀ i, i < 6 → (⟨(cwL.getD i []).toArray⟩ : ByteArray) = cWord i := by
  intro i hi
  rcases (by omega : i = 0 ∨ i = 1 ∨ i = 2 ∨ i = 3 ∨ i = 4 ∨ i = 5) with rfl | rfl | rfl | rfl | rfl | rfl <;> rfl
end
theorem tab_lt {w : World} {g : Nat} {n : String} {cs : Array Value} (hg : Tryd.prog.globalNamed n = some g) (h : w.var? Tryd.prog n = some cs) : g < w.heap.size := by
  unfold World.var? at h
  rw [hg] at h
  simp only [Option.bind_some] at h
  by_cases hl : g < w.heap.size
  · exact hl
  · rw [Array.getElem?_eq_none (by omega)] at h
    cases h
theorem lnt_all {w : World} (h1 : Lib.TabIs Tryd.prog w "internal/strconv.uint64pow10" .u64 Lib.pow10Tab) (h2 : Tab w 0 7 aHas) (h3 : WTab w 1 9 aWord) (h4 : Tab w 2 4 cHas) (h5 : WTab w 4 6 cWord) (h6 : CTops w) : ∀ U, Below w.heap.size w U → LnT U := fun U hU =>
  ⟨by
    have hg : Tryd.prog.globalNamed "internal/strconv.uint64pow10" = some 6 := by kernel_rfl
    exact var?_below hU hg (tab_lt hg h1) h1, h2.below hU (h2.lt (by decide) (by decide)), h3.below hU h3.1, h4.below hU (h4.lt (by decide) (by decide)), h5.below hU h5.1, Nms.below h6 hU h6.1⟩
end Go.Proofs.YtlaagfnoepcnlaaDoor.Ln
/- Contracts of picked (once more), dec at a digit, ask and typed: some numbers, some text; what was in memory stays. -/
namespace Go.Proofs.YtlaagfnoepcnlaaDoor
open Go.ChangeShapes Go.WideShapes Go.ChangeAt Go.RowKit
set_option linter.unusedVariables false

def decB (n : Int) : ByteArray := ⟨#[UInt8.ofNat (48 + n).toNat]⟩
theorem decB_size (n : Int) : (decB n).size = 1 := rfl

theorem dec_any (n : Int) (w : World) (h0 : 0 ≤ n) (h9 : n ≤ 9) :
    Calls Tryd.prog 62 #[.int .i64 n] w fun e w' => e = .returned (.string (decB n)) ∧ Below w.heap.size w w' := by
  have hlt : n < 10 := by omega
  have hu : (UInt8.ofNat (48 + n).toNat).toNat = (48 + n).toNat := by
    rw [UInt8.toNat_ofNat']
    omega
  have hcv : (convert 52 9 (.slice (some ⟨w.heap.size, 0, none⟩) 1 1)).run Tryd.prog (w.alloc (.cells #[.int .u8 (48 + n)] 5)) = .ok (.string (decB n)) (w.alloc (.cells #[.int .u8 (48 + n)] 5)) :=
    run_convert_bytes_back (P := Tryd.prog) _ 52 9 5 ⟨w.heap.size, 0, none⟩ 1 [UInt8.ofNat (48 + n).toNat] Tryd.underlying52 Tryd.underlying5 Tryd.underlying9 (fun j hj => by
      obtain rfl : j = 0 := by simp at hj; omega
      have e : ((⟨w.heap.size, 0, none⟩ : Addr).add 0) = ⟨w.heap.size, 0, none⟩ := rfl
      rw [e]
      simp only [List.getElem_cons_zero, hu]
      have e2 : (((48 + n).toNat : Nat) : Int) = 48 + n := by omega
      rw [e2]
      go_simp)
  go_enter Tryd.func62, Tryd.ntmps62
  go_wp2
  go_ret
  exact ⟨rfl, (Below.refl _ _).alloc (Nat.le_refl _) _⟩

theorem picked_below (n m : Int) (w : World) (hn : -9223372036854775808 ≤ n ∧ n ≤ 9223372036854775807) (hm : 0 < m) (hm2 : m ≤ 9223372036854775807) :
    Calls Tryd.prog 18 #[.int .i64 n, .int .i64 m] w fun e w' => e = .returned (.int .i64 (pk n m)) ∧ Below w.heap.size w w' :=
  (picked_any n m w hn hm hm2).mono fun _ _ ⟨he, hw⟩ => ⟨he, hw ▸ Below.refl _ _⟩
end Go.Proofs.YtlaagfnoepcnlaaDoor
/- What an operator types, on plain data: words parted by blanks, numbers as they are written. -/
namespace Go.Proofs.YtlaagfnoepcnlaaDoor.Cn
open Go
set_option linter.unusedVariables false

/-- Words, parted by single blanks. -/
def spl : List UInt8 → List (List UInt8)
  | [] => [[]]
  | c :: r => if c = 32 then [] :: spl r else match spl r with
    | [] => [[c]]
    | x :: xs => (c :: x) :: xs
theorem spl_ne (l : List UInt8) : spl l ≠ [] := by
  cases l with
  | nil => simp [spl]
  | cons c r =>
    rw [spl]
    split
    · simp
    · split <;> simp
theorem spl_none {l : List UInt8} (h : ∀ c ∈ l, c ≠ 32) : spl l = [l] := by
  induction l with
  | nil => rfl
  | cons c r ih =>
    rw [spl, if_neg (h c (by simp)), ih (fun x hx => h x (by simp [hx]))]
theorem spl_blank (a r : List UInt8) (h : ∀ c ∈ a, c ≠ 32) : spl (a ++ 32 :: r) = a :: spl r := by
  induction a with
  | nil => simp [spl]
  | cons c t ih =>
    rw [List.cons_append, spl, if_neg (h c (by simp)), ih (fun x hx => h x (by simp [hx]))]
theorem index_none {l : List UInt8} (h : ∀ c ∈ l, c ≠ 32) : Lib.index l [32] = -1 := by
  induction l with
  | nil => rfl
  | cons c r ih =>
    have hp : ([32] : List UInt8).isPrefixOf (c :: r) = false := by simp [List.isPrefixOf, Ne.symm (h c (by simp))]
    rw [Lib.index, hp, ih (fun x hx => h x (by simp [hx]))]
    rfl
theorem index_blank (a r : List UInt8) (h : ∀ c ∈ a, c ≠ 32) : Lib.index (a ++ 32 :: r) [32] = (a.length : Int) := by
  induction a with
  | nil =>
    rw [List.nil_append, Lib.index]
    simp [List.isPrefixOf]
  | cons c t ih =>
    have hp : ([32] : List UInt8).isPrefixOf (c :: (t ++ 32 :: r)) = false := by simp [List.isPrefixOf, Ne.symm (h c (by simp))]
    rw [List.cons_append, Lib.index, hp, ih (fun x hx => h x (by simp [hx]))]
    have : ¬ ((t.length : Int) == -1) = true := fun e => by have := beq_iff_eq.1 e; omega
    simp only [Bool.false_eq_true, if_false, if_neg this, List.length_cons]
    omega
theorem first_blank (l : List UInt8) : (∀ c ∈ l, c ≠ 32) ∨ ∃ a r, l = a ++ 32 :: r ∧ ∀ c ∈ a, c ≠ 32 := by
  induction l with
  | nil => exact Or.inl (by simp)
  | cons c t ih =>
    by_cases hc : c = 32
    · exact Or.inr ⟨[], t, by simp [hc], by simp⟩
    · rcases ih with h | ⟨a, r, rfl, h⟩
      · exact Or.inl fun x hx => by rcases List.mem_cons.1 hx with rfl | hx; exact hc; exact h x hx
      · exact Or.inr ⟨c :: a, r, by simp, fun x hx => by rcases List.mem_cons.1 hx with rfl | hx; exact hc; exact h x hx⟩
theorem split_spl : ∀ (n : Nat) (l : List UInt8), l.length ≤ n → Lib.splitK [32] 0 (Lib.count l [32]) l = spl l := by
  intro n
  induction n with
  | zero =>
    intro l hl
    cases l with
    | nil => rfl
    | cons c r => simp at hl
  | succ n ih =>
    intro l hl
    rcases first_blank l with h | ⟨a, r, rfl, h⟩
    · rw [Lib.count_miss (index_none h), spl_none h]
      rfl
    · have hi := index_blank a r h
      have hd : (a ++ 32 :: r).drop (a.length + ([32] : List UInt8).length) = r := by simp
      rw [Lib.count_hit (by simp) hi, hd, Nat.add_comm, Lib.splitK, hi]
      have hm : ¬ ((a.length : Int) == -1) = true := fun e => by have := beq_iff_eq.1 e; omega
      rw [if_neg hm, spl_blank a r h]
      simp only [Int.toNat_natCast, Nat.add_zero]
      rw [hd, ih r (by simp at hl; omega)]
      simp
/-- A number, as it is written, from 0 to most. -/
def numOf (l : List UInt8) (most : Int) : Option Int := match Lib.atoiAll l with
  | .ok v => if Lib.itoa v = l ∧ 0 ≤ v ∧ v ≤ most then some v else none
  | _ => none
structure Cmd where
  kind : Int
  label : Int
  site : Int
  num : Int
  yes : Bool
  deriving DecidableEq
def Cmd.nil : Cmd := ⟨0, 0, 0, 0, false⟩
def Cmd.val (c : Cmd) : Value := .agg #[.int .i64 c.kind, .int .i64 c.label, .int .i64 c.site, .int .i64 c.num, .bool c.yes]
def aboutOf (kind : Int) (yes : Bool) : List (List UInt8) → Option Cmd
  | [a, b, c] => match numOf a 5, numOf b 3, numOf c 1048576 with
    | some x, some y, some z => some ⟨kind, x, y, z, yes⟩
    | _, _, _ => none
  | _ => none
def wList : List UInt8 := [108, 105, 115, 116]
def wAudit : List UInt8 := [97, 117, 100, 105, 116]
def wStatus : List UInt8 := [115, 116, 97, 116, 117, 115]
def wForce : List UInt8 := [102, 111, 114, 99, 101]
def wCommit : List UInt8 := [99, 111, 109, 109, 105, 116]
def wAbort : List UInt8 := [97, 98, 111, 114, 116]
def forceOf : List (List UInt8) → Option Cmd
  | [a, b, c, d] => if d = wCommit then aboutOf 3 true [a, b, c] else if d = wAbort then aboutOf 3 false [a, b, c] else none
  | _ => none
def wordsOf : List (List UInt8) → Option Cmd
  | [] => none
  | name :: ws => if name = wList then (if ws = [] then some ⟨1, 0, 0, 0, false⟩ else none)
    else if name = wAudit then (if ws = [] then some ⟨4, 0, 0, 0, false⟩ else none)
    else if name = wStatus then aboutOf 2 false ws
    else if name = wForce then forceOf ws
    else none
/-- What a line means, and why it is refused. -/
def lineErr (l : List UInt8) : Int := if 60 < l.length then 1 else if (wordsOf (spl l)).isSome then 0 else 4
def lineCmd (l : List UInt8) : Cmd := if 60 < l.length then Cmd.nil else (wordsOf (spl l)).getD Cmd.nil
/-- A number's digits are read as that number. -/
theorem digit_ok (d : Nat) (h : d < 10) : 48 ≤ (UInt8.ofNat (48 + d)).toNat ∧ (UInt8.ofNat (48 + d)).toNat ≤ 57 ∧ (UInt8.ofNat (48 + d)).toNat - 48 = d := by
  have : (UInt8.ofNat (48 + d)).toNat = 48 + d := by simp; omega
  rw [this]
  omega
theorem parse_snoc (l : List UInt8) (c : UInt8) : ∀ (acc u : Nat), Lib.parseUint10 acc l = .ok u → Lib.parseUint10 acc (l ++ [c]) = Lib.parseUint10 u [c] := by
  induction l with
  | nil => intro acc u h; simp only [Lib.parseUint10] at h; injection h with h; subst h; rfl
  | cons x r ih =>
    intro acc u h
    rw [List.cons_append]
    simp only [Lib.parseUint10] at h ⊢
    split at h
    · split at h
      · cases h
      · split at h
        · cases h
        · rename_i h1 h2 h3
          rw [if_pos h1, if_neg h2, if_neg h3]
          have := ih _ _ h
          rw [this]
          simp only [Lib.parseUint10]
    · cases h
theorem parse_dec : ∀ (n u : Nat), u ≤ n → u < 18446744073709551616 → Lib.parseUint10 0 (Lib.decDigits u) = .ok u := by
  intro n
  induction n with
  | zero =>
    intro u hu _
    obtain rfl : u = 0 := by omega
    rw [Lib.decDigits, dif_pos (by omega)]
    rfl
  | succ n ih =>
    intro u hu h64
    by_cases h : u < 10
    · obtain ⟨a1, a2, a3⟩ := digit_ok u h
      rw [Lib.decDigits, dif_pos h]
      simp only [Lib.parseUint10]
      rw [if_pos ⟨a1, a2⟩, if_neg (by omega), if_neg (by omega)]
      simp only [a3]
      congr 1
      omega
    · obtain ⟨a1, a2, a3⟩ := digit_ok (u % 10) (by omega)
      rw [Lib.decDigits, dif_neg h, parse_snoc _ _ 0 (u / 10) (ih (u / 10) (by omega) (by omega))]
      simp only [Lib.parseUint10]
      rw [if_pos ⟨a1, a2⟩, if_neg (by omega), if_neg (by omega)]
      simp only [a3]
      congr 1
      omega
theorem dec_digit : ∀ (n u : Nat), u ≤ n → ∀ c ∈ Lib.decDigits u, 48 ≤ c.toNat ∧ c.toNat ≤ 57 := by
  intro n
  induction n with
  | zero =>
    intro u hu c hc
    obtain rfl : u = 0 := by omega
    rw [Lib.decDigits, dif_pos (by omega)] at hc
    simp at hc
    subst hc
    decide
  | succ n ih =>
    intro u hu c hc
    by_cases h : u < 10
    · rw [Lib.decDigits, dif_pos h] at hc
      simp only [List.mem_cons, List.not_mem_nil, or_false] at hc
      subst hc
      exact ⟨(digit_ok u h).1, (digit_ok u h).2.1⟩
    · rw [Lib.decDigits, dif_neg h] at hc
      rcases List.mem_append.1 hc with hc | hc
      · exact ih (u / 10) (by omega) c hc
      · simp only [List.mem_cons, List.not_mem_nil, or_false] at hc
        subst hc
        exact ⟨(digit_ok (u % 10) (by omega)).1, (digit_ok (u % 10) (by omega)).2.1⟩
theorem dec_ne (u : Nat) : Lib.decDigits u ≠ [] := fun h => by
  have := Lib.decDigits_length u
  rw [h] at this
  have := Lib.nDigits_pos u
  simp at *
  omega
theorem atoi_dec {u : Nat} (h : u < 9223372036854775808) : Lib.atoiAll (Lib.decDigits u) = .ok (u : Int) := by
  have hd := dec_digit u u (Nat.le_refl _)
  have hp := parse_dec u u (Nat.le_refl _) (by omega)
  have hne := dec_ne u
  revert hd hp hne
  generalize Lib.decDigits u = l
  intro hd hp hne
  cases l with
  | nil => exact absurd rfl hne
  | cons c r =>
    have hc := hd c (by simp)
    unfold Lib.atoiAll
    simp only
    rw [if_neg (by omega)]
    unfold Lib.parseMag
    rw [if_neg (by simp), hp]
    simp only
    rw [if_neg (by omega), if_neg (by omega), if_neg (by omega)]
theorem num_itoa {v most : Int} (h0 : 0 ≤ v) (h1 : v ≤ most) (h2 : most ≤ 9223372036854775807) : numOf (Lib.itoa v) most = some v := by
  obtain ⟨u, rfl⟩ : ∃ u : Nat, v = (u : Int) := ⟨v.toNat, by omega⟩
  have e : Lib.itoa (u : Int) = Lib.decDigits u := Lib.itoa_nonneg u
  unfold numOf
  rw [e, atoi_dec (by omega)]
  simp only
  rw [if_pos ⟨e, by omega, h1⟩]
theorem itoa_noblank {v : Int} (h0 : 0 ≤ v) : ∀ c ∈ Lib.itoa v, c ≠ 32 := by
  obtain ⟨u, rfl⟩ : ∃ u : Nat, v = (u : Int) := ⟨v.toNat, by omega⟩
  rw [Lib.itoa_nonneg u]
  intro c hc e
  have := dec_digit u u (Nat.le_refl _) c hc
  subst e
  simp at this
end Go.Proofs.YtlaagfnoepcnlaaDoor.Cn
