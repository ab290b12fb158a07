/- Texts of this claim, one behind the other. -/
import Derived.Test.YtflfcjbgkpfgkaaDoorM4TapeRecovers
import Derived.Below
import Derived.Test.YtflfcjbgkpfgkaaDoorProg
import Derived.WalkKit
import Derived.ProofKit
import Derived.OpenShut
import Derived.Test.YtflfcjbgkpfgkaaDoorA0TapeRecovers
/- Contracts of the small functions of tapes: which tape may be, how much room there is; the program's and the document's. -/
namespace Go.Proofs.YtflfcjbgkpfgkaaDoor
open Go.ChangeShapes Go.WideShapes Go.ChangeAt Go.RowKit
set_option linter.unusedVariables false

def inT (n lo hi : Int) : Bool := decide (lo ≤ n ∧ n ≤ hi)
def mayT (len : Nat) (y : Int) : Bool := decide (len ≤ 6000 ∧ 0 ≤ y ∧ y ≤ (len : Int))
theorem mayT_of {len : Nat} {y : Int} (h : mayT len y = true) : len ≤ 6000 ∧ 0 ≤ y ∧ y ≤ (len : Int) := by simpa [mayT] using h

theorem withinT_any (n lo hi : Int) (w : World) :
    Calls Tryd.prog 44 #[.int .i64 n, .int .i64 lo, .int .i64 hi] w fun e w' => e = .returned (.bool (inT n lo hi)) ∧ w' = w := by
  go_enter Tryd.func44, Tryd.ntmps44
  go_wp2
  all_goals go_ret
  all_goals exact ⟨ret_bool (by unfold inT; rw [Bool.eq_iff_iff]; simp; omega), rfl⟩

theorem mayBe_any (a : Option Addr) (len cap : Nat) (y : Int) (w : World) (hl : len ≤ 9223372036854775807) :
    Calls Tryd.prog 33 #[.agg #[.slice a len cap, .int .i64 y]] w fun e w' => e = .returned (.bool (mayT len y)) ∧ Below w.heap.size w w' := by
  have hA : Below w.heap.size w (w.alloc (.cells #[.slice a len cap, .int .i64 y] 36)) := (Below.refl _ _).alloc (Nat.le_refl _) _
  by_cases h6 : (len : Int) ≤ 6000
  · have e : mayT len y = inT y 0 len := by unfold mayT inT; rw [Bool.eq_iff_iff]; simp; omega
    rw [e]
    clear e
    go_enter Tryd.func33, Tryd.ntmps33
    go_wp2_with (go_at_call 44; refine (withinT_any _ _ _ _).mono ?_; rintro e w1 ⟨rfl, hu1⟩; rw [hu1]; clear hu1)
    go_ret
    exact ⟨rfl, hA⟩
  · have e : mayT len y = false := by unfold mayT; simp; omega
    rw [e]
    clear e
    go_enter Tryd.func33, Tryd.ntmps33
    go_wp2
    go_ret
    exact ⟨rfl, hA⟩
end Go.Proofs.YtflfcjbgkpfgkaaDoor
/- The contract of tape.Recover at what is no tape. -/
namespace Go.Proofs.YtflfcjbgkpfgkaaDoor
open Go.ChangeShapes Go.WideShapes Go.ChangeAt Go.RowKit
set_option linter.unusedVariables false

set_option maxHeartbeats 2000000 in
theorem recover_state (S P : Int) (ad : Option Addr) (n cp0 : Nat) (ta : Option Addr) (tl tc : Nat) (y : Int) (w : World) (hl : tl ≤ 9223372036854775807) (hmy : mayT tl y = false) :
    Calls Tryd.prog 10 #[.agg #[.int .i64 S, .slice ad n cp0, .int .i64 P], .agg #[.slice ta tl tc, .int .i64 y]] w fun e w' => e = .returned (.tuple #[.slice none 0 0, .agg #[.slice none 0 0, .int .i64 0], .int .i64 9]) ∧ Below w.heap.size w w' := by
  obtain ⟨W, hW⟩ : ∃ W : World, W = ((w.alloc (.cells #[.int .i64 S, .slice ad n cp0, .int .i64 P] 24)).alloc (.cells #[.slice ta tl tc, .int .i64 y] 36)).alloc (.cells #[.slice none 0 0, .int .i64 0] 36) := ⟨_, rfl⟩
  have hB : Below w.heap.size w W := by rw [hW]; exact (((Below.refl _ _).alloc (Nat.le_refl _) _).alloc (by simp) _).alloc (by simp; omega) _
  have zW : W.heap.size = w.heap.size + 3 := by rw [hW]; simp
  have d0 : W.cell? ⟨w.heap.size, 0, none⟩ = some (.int .i64 S) := by rw [hW]; go_simp
  have d1 : W.cell? ⟨w.heap.size, 1, none⟩ = some (.slice ad n cp0) := by rw [hW]; go_simp
  have d2 : W.cell? ⟨w.heap.size, 2, none⟩ = some (.int .i64 P) := by rw [hW]; go_simp
  have d3 : W.cell? ⟨w.heap.size + 1, 0, none⟩ = some (.slice ta tl tc) := by rw [hW]; go_simp
  have d4 : W.cell? ⟨w.heap.size + 1, 1, none⟩ = some (.int .i64 y) := by rw [hW]; go_simp
  have d5 : W.cell? ⟨w.heap.size + 2, 0, none⟩ = some (.slice none 0 0) := by rw [hW]; go_simp
  have d6 : W.cell? ⟨w.heap.size + 2, 1, none⟩ = some (.int .i64 0) := by rw [hW]; go_simp
  have f0 : W.frozen? ⟨w.heap.size + 2, 0, none⟩ = false := by rw [hW]; go_simp
  have f1 : W.frozen? ⟨w.heap.size + 2, 1, none⟩ = false := by rw [hW]; go_simp
  have z0 : w.heap.size < W.heap.size := by omega
  have z1 : w.heap.size + 1 < W.heap.size := by omega
  have z2 : w.heap.size + 2 < W.heap.size := by omega
  clear zW
  have KC : Hid (∀ V : World, Below W.heap.size W V → (V.cell? ⟨w.heap.size, 0, none⟩ = some (.int .i64 S) ∧ V.cell? ⟨w.heap.size, 1, none⟩ = some (.slice ad n cp0) ∧ V.cell? ⟨w.heap.size, 2, none⟩ = some (.int .i64 P) ∧ V.cell? ⟨w.heap.size + 1, 0, none⟩ = some (.slice ta tl tc) ∧ V.cell? ⟨w.heap.size + 1, 1, none⟩ = some (.int .i64 y) ∧ V.cell? ⟨w.heap.size + 2, 0, none⟩ = some (.slice none 0 0) ∧ V.cell? ⟨w.heap.size + 2, 1, none⟩ = some (.int .i64 0)) ∧ V.frozen? ⟨w.heap.size + 2, 0, none⟩ = false ∧ V.frozen? ⟨w.heap.size + 2, 1, none⟩ = false) := fun V hV =>
    ⟨⟨(hV.cell (p := ⟨w.heap.size, 0, none⟩) z0).trans d0, (hV.cell (p := ⟨w.heap.size, 1, none⟩) z0).trans d1, (hV.cell (p := ⟨w.heap.size, 2, none⟩) z0).trans d2, (hV.cell (p := ⟨w.heap.size + 1, 0, none⟩) z1).trans d3, (hV.cell (p := ⟨w.heap.size + 1, 1, none⟩) z1).trans d4, (hV.cell (p := ⟨w.heap.size + 2, 0, none⟩) z2).trans d5, (hV.cell (p := ⟨w.heap.size + 2, 1, none⟩) z2).trans d6⟩, (hV.frozen (p := ⟨w.heap.size + 2, 0, none⟩) z2).trans f0, (hV.frozen (p := ⟨w.heap.size + 2, 1, none⟩) z2).trans f1⟩
  go_enter Tryd.func10, Tryd.ntmps10
  go_upto_region 1 with (fail)
  rw [← hW]
  clear hW
  go_upto_region 2 with (go_at_call 33; refine (mayBe_any _ _ _ _ _ hl).mono ?_; rintro e w1 ⟨rfl, hb1⟩; rw [hmy])
  clear d0 d1 d2 d3 d4 d5 d6 f0 f1
  obtain ⟨⟨d0, d1, d2, d3, d4, d5, d6⟩, f0, f1⟩ := KC.out _ hb1
  have hw1 := hB.trans (hb1.mono hB.size)
  go_wp2
  refine bodyPost_ret (v := .tuple #[.slice none 0 0, .agg #[.slice none 0 0, .int .i64 0], .int .i64 9]) (by simp [results, Tryd.results10, go_sem, d5, d6]) rfl ⟨rfl, ?_⟩
  exact (hw1.setCell (p := ⟨w.heap.size + 1 + 1, 0, none⟩) (by show w.heap.size ≤ w.heap.size + 1 + 1; omega) _).setCell (p := ⟨w.heap.size + 1 + 1, 1, none⟩) (by show w.heap.size ≤ w.heap.size + 1 + 1; omega) _
end Go.Proofs.YtflfcjbgkpfgkaaDoor
/- Contracts of picked and Lab: a number from 0 on below another one; a label of a raw number. -/
namespace Go.Proofs.YtflfcjbgkpfgkaaDoor
open Go.ChangeShapes Go.WideShapes Go.ChangeAt Go.RowKit

def pk (n m : Int) : Int := (if n < 0 then -(n + 1) else n) % m
theorem pk_bd (n m : Int) (h : 0 < m) : 0 ≤ pk n m ∧ pk n m < m := ⟨Int.emod_nonneg _ (by omega), Int.emod_lt_of_pos _ h⟩
theorem pk_neg {n m : Int} (h : n < 0) : pk n m = (-(n + 1)) % m := by simp [pk, h]
theorem pk_pos {n m : Int} (h : ¬ n < 0) : pk n m = n % m := by simp [pk, h]

theorem i64_bd {n : Int} (h : (Lit.int .i64 n).wf = true) : -9223372036854775808 ≤ n ∧ n ≤ 9223372036854775807 := by
  have := bounds_i64 h
  omega

theorem picked_any (n m : Int) (w : World) (hn : -9223372036854775808 ≤ n ∧ n ≤ 9223372036854775807) (hm : 0 < m) (hm2 : m ≤ 9223372036854775807) :
    Calls Tryd.prog 18 #[.int .i64 n, .int .i64 m] w fun e w' => e = .returned (.int .i64 (pk n m)) ∧ w' = w := by
  obtain ⟨h1, h2⟩ := hn
  by_cases h : n < 0
  · rw [pk_neg h]
    go_enter Tryd.func18, Tryd.ntmps18
    go_wp2
    go_ret
    exact ⟨ret_int (by rw [← Int.tmod_eq_emod_of_nonneg (by omega), Int.neg_tmod]), rfl⟩
  · rw [pk_pos h]
    have h0 : 0 ≤ n := by omega
    go_enter Tryd.func18, Tryd.ntmps18
    go_wp2
    go_ret
    exact ⟨rfl, rfl⟩

def labL (n : Int) : Int := pk n 3
def labC (n : Int) : Int := pk (n.tdiv 3) 4
theorem labL_bd (n : Int) : 0 ≤ labL n ∧ labL n ≤ 2 := by have := pk_bd n 3 (by decide); unfold labL; omega
theorem labC_bd (n : Int) : 0 ≤ labC n ∧ labC n ≤ 3 := by have := pk_bd (n.tdiv 3) 4 (by decide); unfold labC; omega
theorem tdiv_bd {n m : Int} (hn : -9223372036854775808 ≤ n ∧ n ≤ 9223372036854775807) (hm : 0 < m) : -9223372036854775808 ≤ n.tdiv m ∧ n.tdiv m ≤ 9223372036854775807 := by
  rcases Int.le_total 0 n with h | h
  · have h1 : 0 ≤ n.tdiv m := Int.tdiv_nonneg h (by omega)
    have h2 : n.tdiv m ≤ n := Int.tdiv_le_self m h
    omega
  · have e : n.tdiv m = -((-n).tdiv m) := by rw [Int.neg_tdiv]; omega
    have h1 : 0 ≤ (-n).tdiv m := Int.tdiv_nonneg (by omega) (by omega)
    have h2 : (-n).tdiv m ≤ -n := Int.tdiv_le_self m (by omega)
    omega

theorem lab_any (n : Int) (w : World) (hn : -9223372036854775808 ≤ n ∧ n ≤ 9223372036854775807) :
    Calls Tryd.prog 40 #[.int .i64 n] w fun e w' => e = .returned (.agg #[.int .i64 (labL n), .int .i64 (labC n)]) ∧ Below w.heap.size w w' := by
  have hd := tdiv_bd hn (m := 3) (by decide)
  obtain ⟨_, _⟩ := id hn
  unfold labL labC
  go_enter Tryd.func40, Tryd.ntmps40
  go_wp2_with (go_at_call 18; refine (picked_any _ _ _ (by assumption) (by decide) (by decide)).mono ?_; rintro e w1 ⟨rfl, rfl⟩)
  exact bodyPost_ret (v := .agg #[.int .i64 (pk n 3), .int .i64 (pk (n.tdiv 3) 4)]) (by simp [results, Tryd.results40, go_sem]) rfl ⟨rfl, (Below.refl _ _).alloc (Nat.le_refl _) _⟩
end Go.Proofs.YtflfcjbgkpfgkaaDoor
