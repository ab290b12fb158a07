/- Texts of this claim, one behind the other. -/
import Derived.Test.YtdjnaahkcnklhabDoorProg
import Derived.WalkKit
import Derived.ProofKit
import Derived.Below
import Derived.Test.YtdjnaahkcnklhabDoorA0CommitAsks
import Derived.BigQuiet
import Derived.BigRegion
import Derived.RegionTactic
import Derived.Deep.RegionWith
import Derived.WalkSmall
import Derived.Test.YtdjnaahkcnklhabDoorM5CommitAsks
/- The contract of label.Above: for labels of any numbers it returns whether the first dominates the other, and leaves what was in memory. -/
namespace Go.Proofs.YtdjnaahkcnklhabDoor
open Go.ChangeShapes Go.WideShapes Go.ChangeAt Go.RowKit

/-- Dominance of labels, on numbers. -/
def abv (al ac bl bc : Int) : Bool := decide (bl ≤ al) && (bits .and .i64 ac bc == bc)

theorem abv_pos {al ac bl bc : Int} (h : bl ≤ al) : abv al ac bl bc = (bits .and .i64 ac bc == bc) := by simp [abv, h]
theorem abv_neg {al ac bl bc : Int} (h : al < bl) : abv al ac bl bc = false := by
  have : ¬ bl ≤ al := by omega
  simp [abv, this]

theorem above_any (al ac bl bc : Int) (w : World) :
    Calls Tryd.prog 92 #[.agg #[.int .i64 al, .int .i64 ac], .agg #[.int .i64 bl, .int .i64 bc]] w fun e w' => e = .returned (.bool (abv al ac bl bc)) ∧ Below w.heap.size w w' := by
  go_enter Tryd.func92, Tryd.ntmps92
  go_wp2
  · go_ret
    exact ⟨ret_bool (abv_pos ‹_›).symm, ((Below.refl _ _).alloc (Nat.le_refl _) _).alloc (by simp) _⟩
  · go_ret
    exact ⟨ret_bool (abv_neg ‹_›).symm, ((Below.refl _ _).alloc (Nat.le_refl _) _).alloc (by simp) _⟩

end Go.Proofs.YtdjnaahkcnklhabDoor
/- The contract of bounds.Label, and what a place is. -/
namespace Go.Proofs.YtdjnaahkcnklhabDoor.Se
open Go.ChangeShapes Go.WideShapes Go.ChangeAt Go.RowKit

/-- Is it the place of one of so many? -/
def plc (l : Int) (n : Nat) : Bool := decide (0 ≤ l ∧ l < (n : Int))
theorem plc_true {l : Int} {n : Nat} (h : plc l n = true) : 0 ≤ l ∧ l < (n : Int) := by simpa [plc] using h
theorem plc_false {l : Int} {n : Nat} (h : plc l n = false) : l < 0 ∨ (n : Int) ≤ l := by simp [plc] at h; omega

def labAtI (ls : List (Int × Int)) (l : Int) : Int × Int := ls.getD l.toNat (0, 0)

theorem isPlace_any (s p : Int) (a : Option Addr) (len cap : Nat) (l : Int) (w : World) (hl : len ≤ maxLen) :
    Calls Tryd.prog 39 #[.agg #[.int .i64 s, .slice a len cap, .int .i64 p], .int .i64 l] w fun e w' => e = .returned (.bool (plc l len)) ∧ Below w.heap.size w w' := by
  have hA : Below w.heap.size w (w.alloc (.cells #[.int .i64 s, .slice a len cap, .int .i64 p] 25)) := (Below.refl _ _).alloc (Nat.le_refl _) _
  unfold maxLen at hl
  have h2 : (len : Int) ≤ 9223372036854775807 := by omega
  have e : plc l len = inR l 0 ((len : Int) - 1) := by unfold plc inR; rw [Bool.eq_iff_iff]; simp; omega
  rw [e]
  clear e
  go_enter Tryd.func39, Tryd.ntmps39
  go_wp2_with (go_at_call 18; refine (within_any _ _ _ _).mono ?_; rintro e w1 ⟨rfl, hu1⟩; rw [hu1]; clear hu1)
  go_ret
  exact ⟨rfl, hA⟩

end Go.Proofs.YtdjnaahkcnklhabDoor.Se
/- The contract of label.Sees: what it returns at every config and places. -/
namespace Go.Proofs.YtdjnaahkcnklhabDoor.Se
open Go.ChangeShapes Go.WideShapes Go.ChangeAt Go.RowKit

def seesErr (s : Int) (ls : List (Int × Int)) (p a b : Int) : Int := if cfgFault s ls p = 0 then (if plc a ls.length && plc b ls.length then 0 else 6) else cfgFault s ls p
def seesB (s : Int) (ls : List (Int × Int)) (p a b : Int) : Bool := if seesErr s ls p a b = 0 then abv (labAtI ls a).1 (labAtI ls a).2 (labAtI ls b).1 (labAtI ls b).2 else false


theorem sees_bad {s : Int} {ls : List (Int × Int)} {p a b : Int} (h : cfgFault s ls p ≠ 0) : seesErr s ls p a b = cfgFault s ls p ∧ seesB s ls p a b = false := by
  unfold seesB seesErr
  simp [h]
theorem sees_none {s : Int} {ls : List (Int × Int)} {p a b : Int} (h : cfgFault s ls p = 0) (hp : plc a ls.length = false ∨ plc b ls.length = false) : seesErr s ls p a b = 6 ∧ seesB s ls p a b = false := by
  unfold seesB seesErr
  rcases hp with hp | hp <;> simp [h, hp]
theorem sees_ok {s : Int} {ls : List (Int × Int)} {p a b : Int} (h : cfgFault s ls p = 0) (ha : plc a ls.length = true) (hb : plc b ls.length = true) : seesErr s ls p a b = 0 ∧ seesB s ls p a b = abv (labAtI ls a).1 (labAtI ls a).2 (labAtI ls b).1 (labAtI ls b).2 := by
  unfold seesB seesErr
  simp [h, ha, hb]

set_option maxHeartbeats 8000000 in
theorem sees_any (s p : Int) (ad : Option Addr) (len cap : Nat) (ls : List (Int × Int)) (a b : Int) (w : World) (h : IsLabs w ad len cap ls) :
    Calls Tryd.prog 88 #[.agg #[.int .i64 s, .slice ad len cap, .int .i64 p], .int .i64 a, .int .i64 b] w fun e w' => e = .returned (.tuple #[.bool (seesB s ls p a b), .int .i64 (seesErr s ls p a b)]) ∧ Below w.heap.size w w' := by
  have hA : Below w.heap.size w (w.alloc (.cells #[.int .i64 s, .slice ad len cap, .int .i64 p] 25)) := (Below.refl _ _).alloc (Nat.le_refl _) _
  have hmx : len ≤ maxLen := Nat.le_trans h.2.1 h.2.2.1
  by_cases hF : cfgFault s ls p = 0
  · have hz := cfg_zero hF
    cases ha : plc a ls.length with
    | false =>
      rw [(sees_none hF (.inl ha)).1, (sees_none hF (.inl ha)).2]
      rw [h.1] at ha
      go_enter Tryd.func88, Tryd.ntmps88
      go_wp2_with (first
        | (go_at_call 36; refine (check_any s p ad len cap ls _ (h.below hA)).mono ?_; rintro e w1 ⟨rfl, hb1⟩; have hz1 : w.heap.size < w1.heap.size := (by have := hb1.size; simp at this; omega); obtain ⟨hc1, hf1⟩ := bcell hb1)
        | (go_at_call 39; refine (isPlace_any _ _ _ _ _ _ _ hmx).mono ?_; rintro e w2 ⟨rfl, hb2⟩))
      go_ret2
      exact ⟨rfl, hA.trans ((hb1.mono (by simp)).trans (hb2.mono (by omega)))⟩
    | true =>
      cases hb : plc b ls.length with
      | false =>
        rw [(sees_none hF (.inr hb)).1, (sees_none hF (.inr hb)).2]
        rw [h.1] at ha hb
        have tok : True := trivial
        go_enter Tryd.func88, Tryd.ntmps88
        go_wp2_with (first
          | (go_at_call 36; refine (check_any s p ad len cap ls _ (h.below hA)).mono ?_; rintro e w1 ⟨rfl, hb1⟩; have hz1 : w.heap.size < w1.heap.size := (by have := hb1.size; simp at this; omega); obtain ⟨hc1, hf1⟩ := bcell hb1)
          | (go_at_call 39; have _t := tok; refine (isPlace_any _ _ _ _ _ _ _ hmx).mono ?_; rintro e w2 ⟨rfl, hb2⟩; clear tok; obtain ⟨hc2, hf2⟩ := bcell hb2)
          | (go_at_call 39; refine (isPlace_any _ _ _ _ _ _ _ hmx).mono ?_; rintro e w3 ⟨rfl, hb3⟩))
        go_ret2
        have hz2 := hb2.size
        exact ⟨rfl, hA.trans ((hb1.mono (by simp)).trans ((hb2.mono (by omega)).trans (hb3.mono (by omega))))⟩
      | true =>
        rw [(sees_ok hF ha hb).1, (sees_ok hF ha hb).2]
        have ha' := plc_true ha
        have hb' := plc_true hb
        obtain ⟨i, rfl⟩ : ∃ i : Nat, a = i := ⟨a.toNat, by omega⟩
        obtain ⟨j, rfl⟩ : ∃ j : Nat, b = j := ⟨b.toNat, by omega⟩
        obtain ⟨hlen, _, _, hlab⟩ := id h
        obtain ⟨bk, off, rfl, hL⟩ := hlab (by omega)
        have hi : i < ls.length := by omega
        have hj : j < ls.length := by omega
        have hil : (i : Int) < (len : Int) := by omega
        have hjl : (j : Int) < (len : Int) := by omega
        rw [hlen] at ha hb
        obtain ⟨x, hx⟩ : ∃ x, x = labAtI ls i := ⟨_, rfl⟩
        obtain ⟨y, hy⟩ : ∃ y, y = labAtI ls j := ⟨_, rfl⟩
        rw [← hx, ← hy]
        have tok : True := trivial
        go_enter Tryd.func88, Tryd.ntmps88
        go_wp2_with (first
          | (go_at_call 36; refine (check_any s p _ len cap ls _ (h.below hA)).mono ?_; rintro e w1 ⟨rfl, hb1⟩; have hz1 : w.heap.size < w1.heap.size := (by have := hb1.size; simp at this; omega); obtain ⟨hc1, hf1⟩ := bcell hb1)
          | (go_at_call 39; have _t := tok; refine (isPlace_any _ _ _ _ _ _ _ hmx).mono ?_; rintro e w2 ⟨rfl, hb2⟩; clear tok; obtain ⟨hc2, hf2⟩ := bcell hb2)
          | (go_at_call 39; refine (isPlace_any _ _ _ _ _ _ _ hmx).mono ?_; rintro e w3 ⟨rfl, hb3⟩))
        have hz2 := hb2.size
        have hB : Below (w.heap.size + 1) (w.alloc (.cells #[.int .i64 s, .slice (some ⟨bk, off, none⟩) len cap, .int .i64 p] 25)) w3 := (hb1.mono (by simp)).trans ((hb2.mono (by omega)).trans (hb3.mono (by omega)))
        have hBw : Below w.heap.size w w3 := hA.trans (hB.mono (by omega))
        have d1 : w3.cell? ⟨w.heap.size, 1, none⟩ = some (.slice (some ⟨bk, off, none⟩) len cap) := by
          rw [hB.cell (p := ⟨w.heap.size, 1, none⟩) (by simp)]; go_simp
        have ri := (hL.below hBw).2 i hi
        have rj := (hL.below hBw).2 j hj
        have ex : ls.getD i (0, 0) = x := by rw [hx]; simp [labAtI]
        have ey : ls.getD j (0, 0) = y := by rw [hy]; simp [labAtI]
        rw [ex] at ri
        rw [ey] at rj
        obtain ⟨r0, r1⟩ := ri
        obtain ⟨r2, r3⟩ := rj
        clear hx hy ex ey hc1 hf1 hc2 hf2
        have hBd : Below w.heap.size w w3.drew := hBw.drew
        go_region_with (go_at_call 92; refine (above_any _ _ _ _ _).mono ?_; rintro e w4 ⟨rfl, hb4⟩)
        all_goals
          go_wp2
          go_ret2
          exact ⟨rfl, hBd.trans (hb4.mono hBd.size)⟩
  · rw [(sees_bad hF).1, (sees_bad hF).2]
    go_enter Tryd.func88, Tryd.ntmps88
    go_wp2_with (go_at_call 36; refine (check_any s p ad len cap ls _ (h.below hA)).mono ?_; rintro e w1 ⟨rfl, hb1⟩)
    go_ret2
    exact ⟨rfl, hA.trans (hb1.mono (by simp))⟩

end Go.Proofs.YtdjnaahkcnklhabDoor.Se
