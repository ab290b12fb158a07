/- Contracts of sameInts and sameRecord: at the same numbers, at the same record, they return true and leave what was in memory. -/
import Derived.Test.YtpikiaepomjmgaaDoorInts
import Derived.Test.YtpikiaepomjmgaaDoorWRec
import Derived.Test.YtpikiaepomjmgaaDoorWDecodeM
import Derived.LoopTactic
import Derived.Deep.QuietTactic
import Derived.BigQuiet
namespace Go.Proofs.YtpikiaepomjmgaaDoor
open Go.ChangeShapes Go.WideShapes Go.ChangeAt Go.RowKit
set_option linter.unusedVariables false

set_option maxHeartbeats 1000000 in
theorem sameInts_rec (a b : Option Addr) (n cap cap' : Nat) (zs : List Int) (w : World) (h : IsInts w a n cap zs) (h' : IsInts w b n cap' zs) :
    Calls Tryd.prog 30 #[.slice a n cap, .slice b n cap'] w fun e w' => e = .returned (.bool true) ∧ Below w.heap.size w w' := by
  have hmx : n ≤ maxLen := Nat.le_trans h.2.1 h.2.2.1
  unfold maxLen at hmx
  go_enter Tryd.func30, Tryd.ntmps30
  go_wp2
  go_loopw [5] (fun i wr => ∃ k : Nat, k ≤ n ∧ i = .int .i64 k ∧ Below w.heap.size w wr) (fun i _ => n - (intOf i).toNat)
  case atStart => exact ⟨0, Nat.zero_le _, rfl, Below.refl _ _⟩
  case round =>
    obtain ⟨k, hk, rfl, hb⟩ := hrel
    by_cases hlt : k < n
    · have hlt' : (k : Int) < (n : Int) := by omega
      obtain ⟨b1, o1, rfl, _, c1⟩ := (h.below hb).2.2.2.2 (by omega)
      obtain ⟨b2, o2, rfl, _, c2⟩ := (h'.below hb).2.2.2.2 (by omega)
      have e1 := c1 k hlt
      have e2 := c2 k hlt
      obtain ⟨z, hz⟩ : ∃ z, z = zs.getD k 0 := ⟨_, rfl⟩
      rw [← hz] at e1 e2
      clear hz c1 c2
      go_wp2
      go_quiet (fail)
      go_wp2
      go_roundw
      case rel => exact ⟨k + 1, by omega, by go_num, below_drewN hb nq⟩
      case measure => simp [intOf]; omega
    · go_wp2
      go_ret
      exact ⟨rfl, hb⟩

set_option maxRecDepth 100000 in
set_option maxHeartbeats 4000000 in
theorem sameRecord_any (kind site num key value ask : Int) (yes : Bool) (sa sa' : Option Addr) (sl sc sc' : Nat) (zs : List Int) (w : World) (h : IsInts w sa sl sc zs) (h' : IsInts w sa' sl sc' zs) :
    Calls Tryd.prog 11 #[.agg #[.int .i64 kind, .int .i64 site, .int .i64 num, .int .i64 key, .int .i64 value, .int .i64 ask, .bool yes, .slice sa sl sc], .agg #[.int .i64 kind, .int .i64 site, .int .i64 num, .int .i64 key, .int .i64 value, .int .i64 ask, .bool yes, .slice sa' sl sc']] w fun e w' => e = .returned (.bool true) ∧ Below w.heap.size w w' := by
  obtain ⟨W, hW⟩ : ∃ W : World, W = (w.alloc (.cells #[.int .i64 kind, .int .i64 site, .int .i64 num, .int .i64 key, .int .i64 value, .int .i64 ask, .bool yes, .slice sa sl sc] 37)).alloc (.cells #[.int .i64 kind, .int .i64 site, .int .i64 num, .int .i64 key, .int .i64 value, .int .i64 ask, .bool yes, .slice sa' sl sc'] 37) := ⟨_, rfl⟩
  have hB : Below w.heap.size w W := by rw [hW]; exact ((Below.refl _ _).alloc (Nat.le_refl _) _).alloc (by simp) _
  have bx1 : BoxN W w.heap.size 8 [.int .i64 kind, .int .i64 site, .int .i64 num, .int .i64 key, .int .i64 value, .int .i64 ask, .bool yes, .slice sa sl sc] := by
    rw [hW]
    exact (boxn_new w #[.int .i64 kind, .int .i64 site, .int .i64 num, .int .i64 key, .int .i64 value, .int .i64 ask, .bool yes, .slice sa sl sc] 37 8 rfl).below ((Below.refl _ _).alloc (Nat.le_refl _) _) (by simp)
  have bx2 : BoxN W (w.heap.size + 1) 8 [.int .i64 kind, .int .i64 site, .int .i64 num, .int .i64 key, .int .i64 value, .int .i64 ask, .bool yes, .slice sa' sl sc'] := by
    rw [hW]
    simpa using boxn_new (w.alloc (.cells #[.int .i64 kind, .int .i64 site, .int .i64 num, .int .i64 key, .int .i64 value, .int .i64 ask, .bool yes, .slice sa sl sc] 37)) #[.int .i64 kind, .int .i64 site, .int .i64 num, .int .i64 key, .int .i64 value, .int .i64 ask, .bool yes, .slice sa' sl sc'] 37 8 rfl
  have hS := sameInts_rec sa sa' sl sc sc' zs W (h.below hB) (h'.below hB)
  have a0 : W.cell? ⟨w.heap.size, 0, none⟩ = some (.int .i64 kind) := (bx1.c 0 (by omega)).1
  have a1 : W.cell? ⟨w.heap.size, 1, none⟩ = some (.int .i64 site) := (bx1.c 1 (by omega)).1
  have a2 : W.cell? ⟨w.heap.size, 2, none⟩ = some (.int .i64 num) := (bx1.c 2 (by omega)).1
  have a3 : W.cell? ⟨w.heap.size, 3, none⟩ = some (.int .i64 key) := (bx1.c 3 (by omega)).1
  have a4 : W.cell? ⟨w.heap.size, 4, none⟩ = some (.int .i64 value) := (bx1.c 4 (by omega)).1
  have a5 : W.cell? ⟨w.heap.size, 5, none⟩ = some (.int .i64 ask) := (bx1.c 5 (by omega)).1
  have a6 : W.cell? ⟨w.heap.size, 6, none⟩ = some (.bool yes) := (bx1.c 6 (by omega)).1
  have a7 : W.cell? ⟨w.heap.size, 7, none⟩ = some (.slice sa sl sc) := (bx1.c 7 (by omega)).1
  have b0 : W.cell? ⟨w.heap.size + 1, 0, none⟩ = some (.int .i64 kind) := (bx2.c 0 (by omega)).1
  have b1 : W.cell? ⟨w.heap.size + 1, 1, none⟩ = some (.int .i64 site) := (bx2.c 1 (by omega)).1
  have b2 : W.cell? ⟨w.heap.size + 1, 2, none⟩ = some (.int .i64 num) := (bx2.c 2 (by omega)).1
  have b3 : W.cell? ⟨w.heap.size + 1, 3, none⟩ = some (.int .i64 key) := (bx2.c 3 (by omega)).1
  have b4 : W.cell? ⟨w.heap.size + 1, 4, none⟩ = some (.int .i64 value) := (bx2.c 4 (by omega)).1
  have b5 : W.cell? ⟨w.heap.size + 1, 5, none⟩ = some (.int .i64 ask) := (bx2.c 5 (by omega)).1
  have b6 : W.cell? ⟨w.heap.size + 1, 6, none⟩ = some (.bool yes) := (bx2.c 6 (by omega)).1
  have b7 : W.cell? ⟨w.heap.size + 1, 7, none⟩ = some (.slice sa' sl sc') := (bx2.c 7 (by omega)).1
  clear bx1 bx2
  go_enter Tryd.func11, Tryd.ntmps11
  go_upto_region 1 with (fail)
  rw [← hW]
  clear hW
  go_wp2_with (go_at_call 30; refine hS.mono ?_; rintro e u ⟨rfl, hbu⟩)
  go_ret
  exact ⟨rfl, hB.trans (hbu.mono hB.size)⟩
end Go.Proofs.YtpikiaepomjmgaaDoor
