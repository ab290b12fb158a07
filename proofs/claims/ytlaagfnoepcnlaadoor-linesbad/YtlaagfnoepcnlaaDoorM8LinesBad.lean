/- Texts of this claim, one behind the other. -/
import Derived.Test.YtlaagfnoepcnlaaDoorA1LinesBad
import Derived.OpenShut
import Derived.Test.YtlaagfnoepcnlaaDoorProg
import Derived.WalkKit
import Derived.ProofKit
import Derived.Below
import Derived.Test.YtlaagfnoepcnlaaDoorA0LinesBad
import Derived.BigQuiet
import Derived.BigRegion
import Derived.RegionTactic
import Derived.Deep.RegionWith
import Derived.WalkSmall
import Derived.Test.YtlaagfnoepcnlaaDoorM3LinesBad
/- Raw numbers, six in a row, as they come in as an argument. -/
namespace Go.Proofs.YtlaagfnoepcnlaaDoor
set_option maxRecDepth 10000
open Go.ChangeShapes Go.WideShapes Go.ChangeAt Go.RowKit Go.Joins Go.Deep

structure RV where
  kd : Int
  ra : Int
  rb : Int
  rc : Int
  rd : Int
  re : Int

instance : Inhabited RV := ⟨⟨0, 0, 0, 0, 0, 0⟩⟩
def Bd (n : Int) : Prop := -9223372036854775808 ≤ n ∧ n ≤ 9223372036854775807
def RV.ok (r : RV) : Prop := Bd r.kd ∧ Bd r.ra ∧ Bd r.rb ∧ Bd r.rc ∧ Bd r.rd ∧ Bd r.re
def RV.cells (r : RV) : List Value := [.int .i64 r.kd, .int .i64 r.ra, .int .i64 r.rb, .int .i64 r.rc, .int .i64 r.rd, .int .i64 r.re]

def RawsAt (w : World) (b off : Nat) (rs : List RV) : Prop :=
  b < w.heap.size ∧ ∀ i, i < rs.length → ∀ j, j < 6 → w.cell? ⟨b, off + i * 6 + j, none⟩ = (rs.getD i default).cells[j]?
def IsRaws (w : World) (a : Option Addr) (len cap : Nat) (rs : List RV) : Prop :=
  rs.length = len ∧ len ≤ cap ∧ cap ≤ maxLen ∧ (∀ i, (rs.getD i default).ok) ∧ (0 < len → ∃ b off, a = some ⟨b, off, none⟩ ∧ RawsAt w b off rs)

theorem IsRaws.below {w w' : World} {a : Option Addr} {len cap : Nat} {rs : List RV} (h : IsRaws w a len cap rs) (hb : Below w.heap.size w w') : IsRaws w' a len cap rs := by
  obtain ⟨h1, h2, h3, h4, h5⟩ := h
  refine ⟨h1, h2, h3, h4, fun hp => ?_⟩
  obtain ⟨b, off, e, hl⟩ := h5 hp
  refine ⟨b, off, e, Nat.lt_of_lt_of_le hl.1 hb.size, fun i hi j hj => ?_⟩
  rw [hb.cell (p := ⟨b, off + i * 6 + j, none⟩) hl.1]
  exact hl.2 i hi j hj

variable {H : Type} {enc : TypeId × Value → H} {W : World} {base : Nat}
theorem cellsR : Tryd.prog.cellsOf 73 = 6 := by kernel_rfl
theorem cellsN : Tryd.prog.cellsOf 3 = 1 := by kernel_rfl
theorem six_of {α : Type} {l : List α} (h : l.length = 6) : ∃ a b c d e f, l = [a, b, c, d, e, f] := by
  match l, h with
  | [a, b, c, d, e, f], _ => exact ⟨a, b, c, d, e, f, rfl⟩

theorem trod_raw {n : Nat} {cs : List Value} {x : DataW H × List MemPlace} (h : DataW.trod enc Tryd.prog W 0 (fun _ => true) true n 73 cs = some x) :
    ∃ r : RV, cs = r.cells ∧ r.ok := by
  obtain ⟨ys, m, _, _, hlen, hyl, hf⟩ := DataW.trod_struct Tryd.underlying73 h
  rw [cellsR] at hlen
  obtain ⟨v0, v1, v2, v3, v4, v5, rfl⟩ := six_of hlen
  obtain ⟨y0, y1, y2, y3, y4, y5, rfl⟩ := six_of (l := ys) (by simpa using hyl)
  have e0 := hf 0 _ rfl
  have e1 := hf 1 _ rfl
  have e2 := hf 2 _ rfl
  have e3 := hf 3 _ rfl
  have e4 := hf 4 _ rfl
  have e5 := hf 5 _ rfl
  simp [cellsN] at e0 e1 e2 e3 e4 e5
  obtain ⟨a0, r0, _, b0⟩ := DataW.trod_int Tryd.underlying3 e0
  obtain ⟨a1, r1, _, b1⟩ := DataW.trod_int Tryd.underlying3 e1
  obtain ⟨a2, r2, _, b2⟩ := DataW.trod_int Tryd.underlying3 e2
  obtain ⟨a3, r3, _, b3⟩ := DataW.trod_int Tryd.underlying3 e3
  obtain ⟨a4, r4, _, b4⟩ := DataW.trod_int Tryd.underlying3 e4
  obtain ⟨a5, r5, _, b5⟩ := DataW.trod_int Tryd.underlying3 e5
  simp at r0 r1 r2 r3 r4 r5
  exact ⟨⟨a0, a1, a2, a3, a4, a5⟩, by rw [r0, r1, r2, r3, r4, r5]; rfl, bounds_i64 b0, bounds_i64 b1, bounds_i64 b2, bounds_i64 b3, bounds_i64 b4, bounds_i64 b5⟩

theorem op_raws {v : Value} {d : DataW H} {p : List MemPlace} (hv : Value.okWide Tryd.prog W .any base 35 v) (h : DataW.Trod enc Tryd.prog W 0 (fun _ => true) true 35 v d p) :
    ∃ (a : Option Addr) (len cap : Nat) (rs : List RV), v = .slice a len cap ∧ IsRaws W a len cap rs := by
  obtain ⟨a, len, cap, rfl⟩ := okWide_slice Tryd.underlying35 hv
  obtain ⟨fuel, hf⟩ := h
  have hz0 : Bd 0 := ⟨by decide, by decide⟩
  have hdef : (default : RV).ok := ⟨hz0, hz0, hz0, hz0, hz0, hz0⟩
  rcases open_slice Tryd.underlying35 hf with ⟨hcs, _⟩ | ⟨a, len, cap, m, n, D, Pl, hcs, _, hl, hm, hmm, hxd, hx⟩
  · simp [Value.cells] at hcs
    obtain ⟨rfl, rfl, rfl⟩ := hcs
    exact ⟨none, 0, 0, [], rfl, rfl, Nat.le_refl _, Nat.zero_le _, fun i => by simpa using hdef, fun h => absurd h (by omega)⟩
  · simp [Value.cells] at hcs
    obtain ⟨rfl, rfl, rfl⟩ := hcs
    have hmc : m = cap := by simpa using hmm
    subst hmc
    rw [cellsR] at hx
    have hy : ∀ i, i < m → ∃ y : RV, W.cells? 0 (a.add (i * 6)) 6 = some y.cells ∧ y.ok := by
      intro i hi
      obtain ⟨cs', h1, h2⟩ := hx i hi
      obtain ⟨y, rfl, h3⟩ := trod_raw h2
      exact ⟨y, h1, h3⟩
    obtain ⟨f, hf⟩ := choose_lt hy
    refine ⟨some a, len, m, (List.range len).map f, rfl, by simp, hl, hm, fun i => ?_, fun hp => ?_⟩
    · by_cases hi : i < len
      · simpa [List.getD, hi] using (hf i (by omega)).2
      · simpa [List.getD, hi] using hdef
    · obtain ⟨b, off, spot⟩ := a
      have hc0 := (World.cells?_some (hf 0 (by omega)).1).2.2 0 (by decide)
      have h0 : W.cell? (((⟨b, off, spot⟩ : Addr).add (0 * 6)).add 0) = some (.int .i64 (f 0).kd) := by rw [hc0]; rfl
      have hspot : spot = none := by simpa [Addr.add] using World.cell?_spot h0
      subst hspot
      have hb0 : W.cell? ⟨b, off, none⟩ = some (.int .i64 (f 0).kd) := by simpa [Addr.add] using h0
      refine ⟨b, off, rfl, World.block_lt_of_cell? W _ hb0, fun i hi j hj => ?_⟩
      have hi' : i < len := by simpa using hi
      have hc := (World.cells?_some (hf i (by omega)).1).2.2 j hj
      have ad : ∀ o i, (⟨b, o, none⟩ : Addr).add i = ⟨b, o + i, none⟩ := by
        intro o i
        unfold Addr.add
        by_cases h : i = 0 <;> simp [h]
      rw [ad, ad] at hc
      rw [hc]
      simp [List.getD, hi']
end Go.Proofs.YtlaagfnoepcnlaaDoor
/- The contract of label.Above: for labels of any numbers it returns whether the first dominates the other, and leaves what was in memory. -/
namespace Go.Proofs.YtlaagfnoepcnlaaDoor
open Go.ChangeShapes Go.WideShapes Go.ChangeAt Go.RowKit

/-- Dominance of labels, on numbers. -/
def abv (al ac bl bc : Int) : Bool := decide (bl ≤ al) && (bits .and .i64 ac bc == bc)

theorem abv_pos {al ac bl bc : Int} (h : bl ≤ al) : abv al ac bl bc = (bits .and .i64 ac bc == bc) := by simp [abv, h]
theorem abv_neg {al ac bl bc : Int} (h : al < bl) : abv al ac bl bc = false := by
  have : ¬ bl ≤ al := by omega
  simp [abv, this]

end Go.Proofs.YtlaagfnoepcnlaaDoor
/- The contract of bounds.Label, and what a place is. -/
namespace Go.Proofs.YtlaagfnoepcnlaaDoor
open Go.ChangeShapes Go.WideShapes Go.ChangeAt Go.RowKit

/-- Is it the place of one of so many? -/
def plc (l : Int) (n : Nat) : Bool := decide (0 ≤ l ∧ l < (n : Int))
theorem plc_true {l : Int} {n : Nat} (h : plc l n = true) : 0 ≤ l ∧ l < (n : Int) := by simpa [plc] using h
theorem plc_false {l : Int} {n : Nat} (h : plc l n = false) : l < 0 ∨ (n : Int) ≤ l := by simp [plc] at h; omega

def labAtI (ls : List (Int × Int)) (l : Int) : Int × Int := ls.getD l.toNat (0, 0)

theorem isPlace_any (s p : Int) (a : Option Addr) (len cap : Nat) (l : Int) (w : World) (hl : len ≤ maxLen) :
    Calls Tryd.prog 67 #[.agg #[.int .i64 s, .slice a len cap, .int .i64 p], .int .i64 l] w fun e w' => e = .returned (.bool (plc l len)) ∧ Below w.heap.size w w' := by
  have hA : Below w.heap.size w (w.alloc (.cells #[.int .i64 s, .slice a len cap, .int .i64 p] 24)) := (Below.refl _ _).alloc (Nat.le_refl _) _
  unfold maxLen at hl
  have h2 : (len : Int) ≤ 9223372036854775807 := by omega
  have e : plc l len = inR l 0 ((len : Int) - 1) := by unfold plc inR; rw [Bool.eq_iff_iff]; simp; omega
  rw [e]
  clear e
  go_enter Tryd.func67, Tryd.ntmps67
  go_wp2_with (go_at_call 36; refine (within_any _ _ _ _).mono ?_; rintro e w1 ⟨rfl, hu1⟩; rw [hu1]; clear hu1)
  go_ret
  exact ⟨rfl, hA⟩

end Go.Proofs.YtlaagfnoepcnlaaDoor
