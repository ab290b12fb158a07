/- Texts of this claim, one behind the other. -/
import Derived.Test.YtlaagfnoepcnlaaDoorProg
import Derived.WalkKit
import Derived.ProofKit
import Derived.Below
import Derived.Test.YtlaagfnoepcnlaaDoorA0LinesFixed
import Derived.BigQuiet
import Derived.BigRegion
import Derived.RegionTactic
import Derived.Deep.RegionWith
import Derived.WalkSmall
import Derived.Test.YtlaagfnoepcnlaaDoorM3LinesFixed
import Derived.Test.YtlaagfnoepcnlaaDoorA5LinesFixed
import Derived.OwnWalk
/- The contract of label.Above: for labels of any numbers it returns whether the first dominates the other, and leaves what was in memory. -/
namespace Go.Proofs.YtlaagfnoepcnlaaDoor
open Go.ChangeShapes Go.WideShapes Go.ChangeAt Go.RowKit

/-- Dominance of labels, on numbers. -/
def abv (al ac bl bc : Int) : Bool := decide (bl ≤ al) && (bits .and .i64 ac bc == bc)

theorem abv_pos {al ac bl bc : Int} (h : bl ≤ al) : abv al ac bl bc = (bits .and .i64 ac bc == bc) := by simp [abv, h]
theorem abv_neg {al ac bl bc : Int} (h : al < bl) : abv al ac bl bc = false := by
  have : ¬ bl ≤ al := by omega
  simp [abv, this]

end Go.Proofs.YtlaagfnoepcnlaaDoor
/- The contract of bounds.Label, and what a place is. -/
namespace Go.Proofs.YtlaagfnoepcnlaaDoor
open Go.ChangeShapes Go.WideShapes Go.ChangeAt Go.RowKit

/-- Is it the place of one of so many? -/
def plc (l : Int) (n : Nat) : Bool := decide (0 ≤ l ∧ l < (n : Int))
theorem plc_true {l : Int} {n : Nat} (h : plc l n = true) : 0 ≤ l ∧ l < (n : Int) := by simpa [plc] using h
theorem plc_false {l : Int} {n : Nat} (h : plc l n = false) : l < 0 ∨ (n : Int) ≤ l := by simp [plc] at h; omega

def labAtI (ls : List (Int × Int)) (l : Int) : Int × Int := ls.getD l.toNat (0, 0)

theorem isPlace_any (s p : Int) (a : Option Addr) (len cap : Nat) (l : Int) (w : World) (hl : len ≤ maxLen) :
    Calls Tryd.prog 67 #[.agg #[.int .i64 s, .slice a len cap, .int .i64 p], .int .i64 l] w fun e w' => e = .returned (.bool (plc l len)) ∧ Below w.heap.size w w' := by
  have hA : Below w.heap.size w (w.alloc (.cells #[.int .i64 s, .slice a len cap, .int .i64 p] 24)) := (Below.refl _ _).alloc (Nat.le_refl _) _
  unfold maxLen at hl
  have h2 : (len : Int) ≤ 9223372036854775807 := by omega
  have e : plc l len = inR l 0 ((len : Int) - 1) := by unfold plc inR; rw [Bool.eq_iff_iff]; simp; omega
  rw [e]
  clear e
  go_enter Tryd.func67, Tryd.ntmps67
  go_wp2_with (go_at_call 36; refine (within_any _ _ _ _).mono ?_; rintro e w1 ⟨rfl, hu1⟩; rw [hu1]; clear hu1)
  go_ret
  exact ⟨rfl, hA⟩

end Go.Proofs.YtlaagfnoepcnlaaDoor
/- Acts as they lie in memory: twelve cells each, and the numbers that a Keep leads to; and what Purge makes of them, on plain data. -/
namespace Go.Proofs.YtlaagfnoepcnlaaDoor
open Go.ChangeShapes Go.WideShapes Go.ChangeAt Go.RowKit

/-- An act: its numbers, its Keep's header and numbers, its call, its line. -/
structure AV where
  kind : Int
  site : Int
  to : Int
  label : Int
  pick : Int
  ka : Option Addr
  kl : Nat
  kc : Nat
  c0 : Int
  c1 : Int
  c2 : Int
  c3 : Int
  c4 : Int
  line : ByteArray
  keep : List Int

instance : Inhabited AV := ⟨⟨0, 0, 0, 0, 0, none, 0, 0, 0, 0, 0, 0, 0, .empty, []⟩⟩

/-- The act, but for where its Keep lies. -/
def AV.bare (a : AV) : AV := { a with ka := none, kl := 0, kc := 0 }

def AV.cells (a : AV) : List Value :=
  [.int .i64 a.kind, .int .i64 a.site, .int .i64 a.to, .int .i64 a.label, .int .i64 a.pick, .slice a.ka a.kl a.kc, .int .i64 a.c0, .int .i64 a.c1, .int .i64 a.c2, .int .i64 a.c3, .int .i64 a.c4, .string a.line]
theorem AV.cells_len (a : AV) : a.cells.length = 12 := rfl

def flatActs (xs : List AV) : List Value := xs.flatMap AV.cells
theorem flatActs_len (xs : List AV) : (flatActs xs).length = xs.length * 12 := by
  unfold flatActs
  induction xs with
  | nil => rfl
  | cons a l ih => simp [AV.cells_len] at ih ⊢; omega
theorem flatActs_append (xs : List AV) (a : AV) : flatActs (xs ++ [a]) = flatActs xs ++ a.cells := by simp [flatActs]
theorem flatActs_get (xs : List AV) : ∀ i, i < xs.length → ∀ j, j < 12 → (flatActs xs)[i * 12 + j]? = (xs.getD i default).cells[j]? := by
  induction xs with
  | nil => intro i hi; simp at hi
  | cons a l ih =>
    intro i hi j hj
    cases i with
    | zero =>
      have : j < a.cells.length := by rw [AV.cells_len]; exact hj
      have e : flatActs (a :: l) = a.cells ++ flatActs l := by simp [flatActs]
      rw [e, Nat.zero_mul, Nat.zero_add, List.getElem?_append_left this]
      simp
    | succ i =>
      have e : flatActs (a :: l) = a.cells ++ flatActs l := by simp [flatActs]
      rw [e, List.getElem?_append_right (by rw [AV.cells_len]; omega), AV.cells_len, show (i + 1) * 12 + j - 12 = i * 12 + j by omega, ih i (by simpa using hi) j hj]
      simp

/-- Acts that lie in memory one behind the other, their Keeps wherever they are. -/
def ActsAt (w : World) (b off : Nat) (xs : List AV) : Prop :=
  b < w.heap.size ∧ ∀ i, i < xs.length → (∀ j, j < 12 → w.cell? ⟨b, off + i * 12 + j, none⟩ = (xs.getD i default).cells[j]?) ∧ IsInts w (xs.getD i default).ka (xs.getD i default).kl (xs.getD i default).kc (xs.getD i default).keep

theorem ActsAt.below {w w' : World} {b off : Nat} {xs : List AV} (h : ActsAt w b off xs) (hb : Below w.heap.size w w') : ActsAt w' b off xs := by
  refine ⟨Nat.lt_of_lt_of_le h.1 hb.size, fun i hi => ⟨fun j hj => ?_, ((h.2 i hi).2).below hb⟩⟩
  rw [hb.cell (p := ⟨b, off + i * 12 + j, none⟩) h.1]
  exact (h.2 i hi).1 j hj

def IsActs (w : World) (a : Option Addr) (len cap : Nat) (xs : List AV) : Prop :=
  xs.length = len ∧ len ≤ cap ∧ cap ≤ maxLen ∧ (0 < len → ∃ b off, a = some ⟨b, off, none⟩ ∧ ActsAt w b off xs)

theorem IsActs.below {w w' : World} {a : Option Addr} {len cap : Nat} {xs : List AV} (h : IsActs w a len cap xs) (hb : Below w.heap.size w w') : IsActs w' a len cap xs := by
  obtain ⟨h1, h2, h3, h4⟩ := h
  refine ⟨h1, h2, h3, fun hp => ?_⟩
  obtain ⟨b, off, e, hl⟩ := h4 hp
  exact ⟨b, off, e, hl.below hb⟩

/-! ### Purge, on plain data -/
/-- Is the label at a place one that the label at place l does not dominate? -/
def hid (ls : List (Int × Int)) (l place : Int) : Bool := plc place ls.length && !abv (labAtI ls l).1 (labAtI ls l).2 (labAtI ls place).1 (labAtI ls place).2
def hasLab (kind : Int) : Bool := decide (kind ≠ 5 ∧ kind ≠ 7 ∧ kind ≠ 6)
def keepOf (ls : List (Int × Int)) (l kind : Int) (keep : List Int) : List Int :=
  if kind = 6 then keep.zipIdx.map fun p => if hid ls l (p.2 : Int) then 0 else p.1 else keep
def purgeStep (ls : List (Int × Int)) (l : Int) (a : AV) : List AV := if hasLab a.kind && hid ls l a.label then [] else [{ a.bare with keep := keepOf ls l a.kind a.keep }]
def purgeF (ls : List (Int × Int)) (l : Int) (xs : List AV) : List AV := xs.flatMap (purgeStep ls l)

theorem purgeF_take {ls : List (Int × Int)} {l : Int} {xs : List AV} {k : Nat} (hk : k < xs.length) : purgeF ls l (xs.take (k + 1)) = purgeF ls l (xs.take k) ++ purgeStep ls l (xs.getD k default) := by
  unfold purgeF
  rw [List.take_succ_eq_append_getElem hk, List.flatMap_append]
  congr 1
  simp [List.getD, hk]
theorem keepOf_len (ls : List (Int × Int)) (l kind : Int) (keep : List Int) : (keepOf ls l kind keep).length = keep.length := by
  unfold keepOf
  split <;> simp
theorem purgeF_len (ls : List (Int × Int)) (l : Int) (xs : List AV) : (purgeF ls l xs).length ≤ xs.length := by
  unfold purgeF
  induction xs with
  | nil => simp
  | cons a r ih =>
    have : (purgeStep ls l a).length ≤ 1 := by unfold purgeStep; split <;> simp
    simp only [List.flatMap_cons, List.length_append, List.length_cons]
    omega
end Go.Proofs.YtlaagfnoepcnlaaDoor
