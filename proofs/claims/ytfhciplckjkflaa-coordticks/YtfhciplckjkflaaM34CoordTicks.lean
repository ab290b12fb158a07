/- Texts of this claim, one behind the other. -/
import Derived.Test.YtfhciplckjkflaaM33CoordTicks
import Derived.Test.YtfhciplckjkflaaM11CoordTicks
import Derived.LoopTactic
import Derived.Deep.QuietTactic
import Derived.BigQuiet
import Derived.Lib.QuietBelow
import Derived.Test.YtfhciplckjkflaaA32CoordTicks
/- reredoslaw's sameInts, sameTasks, sameMessages, sameReplies, sameDesk: at the same as plain data they return true. -/
namespace Go.Proofs.Ytfhciplckjkflaa.Cd
open Go.ChangeShapes Go.WideShapes Go.ChangeAt Go.RowKit
open Go.Proofs.Ytfhciplckjkflaa.St (BoxN boxn_new IsRow flat)
open Go.Proofs.Ytfhciplckjkflaa.Co
set_option linter.unusedVariables false

set_option maxHeartbeats 1000000 in
theorem sameIntsT (a b : Option Addr) (n cap cap' : Nat) (zs : List Int) (w : World) (h : IsSites w a n cap zs) (h' : IsSites w b n cap' zs) :
    Calls Try.prog 36 #[.slice a n cap, .slice b n cap'] w fun e w' => e = .returned (.bool true) ∧ Below w.heap.size w w' := by
  have hmx : n ≤ maxLen := Nat.le_trans h.2.1 h.2.2.1
  unfold maxLen at hmx
  go_enter Try.func36, Try.ntmps36
  go_wp2
  go_loopw [5] (fun i wr => ∃ k : Nat, k ≤ n ∧ i = .int .i64 k ∧ Below w.heap.size w wr) (fun i _ => n - (intOf i).toNat)
  case atStart => exact ⟨0, Nat.zero_le _, rfl, Below.refl _ _⟩
  case round =>
    obtain ⟨k, hk, rfl, hb⟩ := hrel
    by_cases hlt : k < n
    · have hlt' : (k : Int) < (n : Int) := by omega
      obtain ⟨b1, o1, rfl, _, c1⟩ := (h.below hb).2.2.2.2 (by omega)
      obtain ⟨b2, o2, rfl, _, c2⟩ := (h'.below hb).2.2.2.2 (by omega)
      have e1 := c1 k hlt 0 (by decide)
      have e2 := c2 k hlt 0 (by decide)
      rw [Nat.mul_one, Nat.add_zero] at e1 e2
      obtain ⟨z, hz⟩ : ∃ z, z = zs.getD k default := ⟨_, rfl⟩
      rw [← hz] at e1 e2
      simp only [inCell, List.getElem?_cons_zero] at e1 e2
      clear hz c1 c2
      go_wp2
      go_quiet (fail)
      go_wp2
      go_roundw
      case rel => exact ⟨k + 1, by omega, by go_num, below_drewN hb nq⟩
      case measure => simp [intOf]; omega
    · go_wp2
      go_ret
      exact ⟨rfl, hb⟩
set_option maxRecDepth 100000 in
set_option maxHeartbeats 2000000 in
theorem sameTasksT (a b : Option Addr) (n cap cap' : Nat) (ms : List TkV) (w : World) (h : IsTasks w a n cap ms) (h' : IsTasks w b n cap' ms) :
    Calls Try.prog 35 #[.slice a n cap, .slice b n cap'] w fun e w' => e = .returned (.bool true) ∧ Below w.heap.size w w' := by
  have hmx : n ≤ maxLen := Nat.le_trans h.2.1 h.2.2.1
  unfold maxLen at hmx
  go_enter Try.func35, Try.ntmps35
  go_wp2
  go_loopw [5] (fun i wr => ∃ k : Nat, k ≤ n ∧ i = .int .i64 k ∧ Below w.heap.size w wr) (fun i _ => n - (intOf i).toNat)
  case atStart => exact ⟨0, Nat.zero_le _, rfl, Below.refl _ _⟩
  case round =>
    obtain ⟨k, hk, rfl, hb⟩ := hrel
    by_cases hlt : k < n
    · have hlt' : (k : Int) < (n : Int) := by omega
      obtain ⟨b1, o1, rfl, _, c1⟩ := (St.IsRow.below h hb).2.2.2.2 (by omega)
      obtain ⟨b2, o2, rfl, _, c2⟩ := (St.IsRow.below h' hb).2.2.2.2 (by omega)
      have e1 := c1 k hlt
      have e2 := c2 k hlt
      obtain ⟨z, hz⟩ : ∃ z, z = ms.getD k default := ⟨_, rfl⟩
      rw [← hz] at e1 e2
      clear hz c1 c2
      obtain ⟨write, label, key, value, version, ask, done9, sure9⟩ := z
      have x0 := e1 0 (by decide)
      have y0 := e2 0 (by decide)
      have x1 := e1 1 (by decide)
      have y1 := e2 1 (by decide)
      have x2 := e1 2 (by decide)
      have y2 := e2 2 (by decide)
      have x3 := e1 3 (by decide)
      have y3 := e2 3 (by decide)
      have x4 := e1 4 (by decide)
      have y4 := e2 4 (by decide)
      have x5 := e1 5 (by decide)
      have y5 := e2 5 (by decide)
      have x6 := e1 6 (by decide)
      have y6 := e2 6 (by decide)
      have x7 := e1 7 (by decide)
      have y7 := e2 7 (by decide)
      simp only [TkV.cells, List.getElem?_cons_zero, List.getElem?_cons_succ, Nat.add_zero] at x0 x1 x2 x3 x4 x5 x6 x7 y0 y1 y2 y3 y4 y5 y6 y7
      clear e1 e2
      go_wp2
      go_quiet (fail)
      go_wp2
      go_roundw
      case rel => exact ⟨k + 1, by omega, by go_num, below_drewN hb nq⟩
      case measure => simp [intOf]; omega
    · go_wp2
      go_ret
      exact ⟨rfl, hb⟩
abbrev IsMsgsT := @IsRow MV _ 12 mcells
abbrev IsRepsT := @IsRow RpV _ 6 RpV.cells
set_option maxRecDepth 100000 in
set_option maxHeartbeats 2000000 in
theorem sameMessagesT (a b : Option Addr) (n cap cap' : Nat) (ms : List MV) (w : World) (h : IsMsgsT w a n cap ms) (h' : IsMsgsT w b n cap' ms) :
    Calls Try.prog 32 #[.slice a n cap, .slice b n cap'] w fun e w' => e = .returned (.bool true) ∧ Below w.heap.size w w' := by
  have hmx : n ≤ maxLen := Nat.le_trans h.2.1 h.2.2.1
  unfold maxLen at hmx
  go_enter Try.func32, Try.ntmps32
  go_wp2
  go_loopw [5] (fun i wr => ∃ k : Nat, k ≤ n ∧ i = .int .i64 k ∧ Below w.heap.size w wr) (fun i _ => n - (intOf i).toNat)
  case atStart => exact ⟨0, Nat.zero_le _, rfl, Below.refl _ _⟩
  case round =>
    obtain ⟨k, hk, rfl, hb⟩ := hrel
    by_cases hlt : k < n
    · have hlt' : (k : Int) < (n : Int) := by omega
      obtain ⟨b1, o1, rfl, _, c1⟩ := (St.IsRow.below h hb).2.2.2.2 (by omega)
      obtain ⟨b2, o2, rfl, _, c2⟩ := (St.IsRow.below h' hb).2.2.2.2 (by omega)
      have e1 := c1 k hlt
      have e2 := c2 k hlt
      obtain ⟨z, hz⟩ : ∃ z, z = ms.getD k default := ⟨_, rfl⟩
      rw [← hz] at e1 e2
      clear hz c1 c2
      obtain ⟨kind, frm, dst, site, num, label, key, value, version, ask, yes, code⟩ := z
      have x0 := e1 0 (by decide)
      have y0 := e2 0 (by decide)
      have x1 := e1 1 (by decide)
      have y1 := e2 1 (by decide)
      have x2 := e1 2 (by decide)
      have y2 := e2 2 (by decide)
      have x3 := e1 3 (by decide)
      have y3 := e2 3 (by decide)
      have x4 := e1 4 (by decide)
      have y4 := e2 4 (by decide)
      have x5 := e1 5 (by decide)
      have y5 := e2 5 (by decide)
      have x6 := e1 6 (by decide)
      have y6 := e2 6 (by decide)
      have x7 := e1 7 (by decide)
      have y7 := e2 7 (by decide)
      have x8 := e1 8 (by decide)
      have y8 := e2 8 (by decide)
      have x9 := e1 9 (by decide)
      have y9 := e2 9 (by decide)
      have x10 := e1 10 (by decide)
      have y10 := e2 10 (by decide)
      have x11 := e1 11 (by decide)
      have y11 := e2 11 (by decide)
      simp only [mcells, List.getElem?_cons_zero, List.getElem?_cons_succ, Nat.add_zero] at x0 x1 x2 x3 x4 x5 x6 x7 x8 x9 x10 x11 y0 y1 y2 y3 y4 y5 y6 y7 y8 y9 y10 y11
      clear e1 e2
      go_wp2
      go_quiet (fail)
      go_wp2
      go_roundw
      case rel => exact ⟨k + 1, by omega, by go_num, below_drewN hb nq⟩
      case measure => simp [intOf]; omega
    · go_wp2
      go_ret
      exact ⟨rfl, hb⟩
set_option maxRecDepth 100000 in
set_option maxHeartbeats 2000000 in
theorem sameRepliesT (a b : Option Addr) (n cap cap' : Nat) (ms : List RpV) (w : World) (h : IsRepsT w a n cap ms) (h' : IsRepsT w b n cap' ms) :
    Calls Try.prog 34 #[.slice a n cap, .slice b n cap'] w fun e w' => e = .returned (.bool true) ∧ Below w.heap.size w w' := by
  have hmx : n ≤ maxLen := Nat.le_trans h.2.1 h.2.2.1
  unfold maxLen at hmx
  go_enter Try.func34, Try.ntmps34
  go_wp2
  go_loopw [5] (fun i wr => ∃ k : Nat, k ≤ n ∧ i = .int .i64 k ∧ Below w.heap.size w wr) (fun i _ => n - (intOf i).toNat)
  case atStart => exact ⟨0, Nat.zero_le _, rfl, Below.refl _ _⟩
  case round =>
    obtain ⟨k, hk, rfl, hb⟩ := hrel
    by_cases hlt : k < n
    · have hlt' : (k : Int) < (n : Int) := by omega
      obtain ⟨b1, o1, rfl, _, c1⟩ := (St.IsRow.below h hb).2.2.2.2 (by omega)
      obtain ⟨b2, o2, rfl, _, c2⟩ := (St.IsRow.below h' hb).2.2.2.2 (by omega)
      have e1 := c1 k hlt
      have e2 := c2 k hlt
      obtain ⟨z, hz⟩ : ∃ z, z = ms.getD k default := ⟨_, rfl⟩
      rw [← hz] at e1 e2
      clear hz c1 c2
      obtain ⟨site, kind, num, key, value, code⟩ := z
      have x0 := e1 0 (by decide)
      have y0 := e2 0 (by decide)
      have x1 := e1 1 (by decide)
      have y1 := e2 1 (by decide)
      have x2 := e1 2 (by decide)
      have y2 := e2 2 (by decide)
      have x3 := e1 3 (by decide)
      have y3 := e2 3 (by decide)
      have x4 := e1 4 (by decide)
      have y4 := e2 4 (by decide)
      have x5 := e1 5 (by decide)
      have y5 := e2 5 (by decide)
      simp only [RpV.cells, List.getElem?_cons_zero, List.getElem?_cons_succ, Nat.add_zero] at x0 x1 x2 x3 x4 x5 y0 y1 y2 y3 y4 y5
      clear e1 e2
      go_wp2
      go_quiet (fail)
      go_wp2
      go_roundw
      case rel => exact ⟨k + 1, by omega, by go_num, below_drewN hb nq⟩
      case measure => simp [intOf]; omega
    · go_wp2
      go_ret
      exact ⟨rfl, hb⟩
set_option maxRecDepth 100000 in
set_option maxHeartbeats 8000000 in
theorem sameDeskT (next : Int) (ja : Option Addr) (jl jc : Nat) (js : List JbV) (ka : Option Addr) (kc : Nat) (ks : List JbV) (w : World) (h : IsJobs w ja jl jc js) (h' : IsJobs w ka jl kc ks) (he : js.map JbV.bare = ks.map JbV.bare) :
    Calls Try.prog 9 #[.agg #[.int .i64 next, .slice ja jl jc], .agg #[.int .i64 next, .slice ka jl kc]] w fun e w' => e = .returned (.bool true) ∧ Below w.heap.size w w' := by
  have m1 : jl ≤ maxLen := Nat.le_trans h.row.2.1 h.row.2.2.1
  unfold maxLen at m1
  have hlj : js.length = jl := h.row.1
  have hlk : ks.length = jl := h'.row.1
  obtain ⟨W, hW⟩ : ∃ W : World, W = (w.alloc (.cells #[.int .i64 next, .slice ja jl jc] 27)).alloc (.cells #[.int .i64 next, .slice ka jl kc] 27) := ⟨_, rfl⟩
  have hB : Below w.heap.size w W := by rw [hW]; exact ((Below.refl _ _).alloc (Nat.le_refl _) _).alloc (by simp) _
  have zW : W.heap.size = w.heap.size + 2 := by rw [hW]; simp
  have z0 : w.heap.size < W.heap.size := by omega
  have z1 : w.heap.size + 1 < W.heap.size := by omega
  clear zW
  have c0 : W.cell? ⟨w.heap.size, 0, none⟩ = some (.int .i64 next) := by rw [hW]; go_simp
  have d0 : W.cell? ⟨w.heap.size + 1, 0, none⟩ = some (.int .i64 next) := by rw [hW]; go_simp
  have c1 : W.cell? ⟨w.heap.size, 1, none⟩ = some (.slice ja jl jc) := by rw [hW]; go_simp
  have d1 : W.cell? ⟨w.heap.size + 1, 1, none⟩ = some (.slice ka jl kc) := by rw [hW]; go_simp
  have KA : Hid (∀ U : World, Below W.heap.size W U → U.cell? ⟨w.heap.size, 1, none⟩ = some (.slice ja jl jc) ∧ U.cell? ⟨w.heap.size + 1, 1, none⟩ = some (.slice ka jl kc) ∧ w.heap.size < U.heap.size ∧ w.heap.size + 1 < U.heap.size) := fun U hU => ⟨(hU.cell (p := ⟨w.heap.size, 1, none⟩) z0).trans c1, (hU.cell (p := ⟨w.heap.size + 1, 1, none⟩) z1).trans d1, Nat.lt_of_lt_of_le z0 hU.size, Nat.lt_of_lt_of_le z1 hU.size⟩
  have HB : Hid (∀ U, Below W.heap.size W U → Below w.heap.size w U) := fun U hU => hB.trans (hU.mono hB.size)
  have HS : Hid (∀ U, Below W.heap.size W U → IsJobs U ja jl jc js) := fun U hU => h.below (HB.out U hU)
  have HS' : Hid (∀ U, Below W.heap.size W U → IsJobs U ka jl kc ks) := fun U hU => h'.below (HB.out U hU)
  have HP : Hid (∀ k, k < jl → (js.getD k default).bare = (ks.getD k default).bare) := fun k hk => by
    have := congrArg (fun l => l.getD k default) he
    simp only [List.getD, List.getElem?_map] at this
    simpa [List.getD, show k < js.length by omega, show k < ks.length by omega] using this
  have HM : Hid (∀ k, k < jl → js.getD k default ∈ js ∧ ks.getD k default ∈ ks) := fun k hk => ⟨mem_at (by omega), mem_at (by omega)⟩
  clear h h' he
  go_enter Try.func9, Try.ntmps9
  go_upto_region 1 with (fail)
  rw [← hW]
  clear hW
  have hb0 := Below.refl W.heap.size W
  go_upto_region 4 with (fail)
  clear c0 c1 d0 d1
  go_loopw [5] (fun i wr => ∃ k : Nat, k ≤ jl ∧ i = .int .i64 k ∧ Below W.heap.size W wr) (fun i _ => jl - (intOf i).toNat)
  case atStart => exact ⟨0, Nat.zero_le _, rfl, hb0⟩
  case round =>
    obtain ⟨k, hk, rfl, hb⟩ := hrel
    by_cases hlt : k < jl
    · have hlt' : (k : Int) < (jl : Int) := by omega
      obtain ⟨c1, d1, y0, y1⟩ := KA.out _ hb
      have hJ := HS.out _ hb
      have hK := HS'.out _ hb
      obtain ⟨b1, o1, rfl, zb1, k1⟩ := hJ.row.2.2.2.2 (by omega)
      obtain ⟨b2, o2, rfl, zb2, k2⟩ := hK.row.2.2.2.2 (by omega)
      have hjc : k < jc := Nat.lt_of_lt_of_le hlt hJ.row.2.1
      have hkc : k < kc := Nat.lt_of_lt_of_le hlt hK.row.2.1
      have e1 := k1 k hlt
      have e2 := k2 k hlt
      have hm := HM.out k hlt
      have f1 := hJ.each _ hm.1
      have f2 := hK.each _ hm.2
      have hp := bare_parts2 (HP.out k hlt)
      obtain ⟨x, ex⟩ : ∃ x, x = js.getD k default := ⟨_, rfl⟩
      obtain ⟨y, ey⟩ : ∃ y, y = ks.getD k default := ⟨_, rfl⟩
      rw [← ex] at e1 f1 hp
      rw [← ey] at e2 f2 hp
      clear ex ey hm k1 k2 hJ hK
      obtain ⟨n, st, ta, tl, tc, aa, al, ac, asks, age, tasks, asked⟩ := x
      obtain ⟨n', st', ta', tl', tc', aa', al', ac', asks', age', tasks', asked'⟩ := y
      simp only [] at hp
      obtain ⟨rfl, rfl, rfl, rfl, rfl, rfl⟩ := hp
      obtain rfl : tl = tl' := f1.tasks.1.symm.trans f2.tasks.1
      obtain rfl : al = al' := f1.asked.1.symm.trans f2.asked.1
      have p0 := e1 0 (by decide)
      have p1 := e1 1 (by decide)
      have p2 := e1 2 (by decide)
      have p3 := e1 3 (by decide)
      have p4 := e1 4 (by decide)
      have p5 := e1 5 (by decide)
      have q0 := e2 0 (by decide)
      have q1 := e2 1 (by decide)
      have q2 := e2 2 (by decide)
      have q3 := e2 3 (by decide)
      have q4 := e2 4 (by decide)
      have q5 := e2 5 (by decide)
      simp only [JbV.cells, List.getElem?_cons_zero, List.getElem?_cons_succ] at p0 p1 p2 p3 p4 p5 q0 q1 q2 q3 q4 q5
      rw [Nat.add_zero] at p0 q0
      clear e1 e2
      obtain ⟨V, hV⟩ : ∃ V : World, V = (wr.alloc (.cells #[.int .i64 n, .int .i64 st, .slice ta tl tc, .slice aa al ac, .int .i64 asks, .int .i64 age] 47)).alloc (.cells #[.int .i64 n, .int .i64 st, .slice ta' tl tc', .slice aa' al ac', .int .i64 asks, .int .i64 age] 47) := ⟨_, rfl⟩
      have bV : Below wr.heap.size wr V := by rw [hV]; exact ((Below.refl _ _).alloc (Nat.le_refl _) _).alloc (by simp) _
      have zV : wr.heap.size + 1 < V.heap.size := by rw [hV]; simp
      have zV0 : wr.heap.size < V.heap.size := by omega
      have x0 : V.cell? ⟨wr.heap.size, 0, none⟩ = some (.int .i64 n) := by rw [hV]; go_simp
      have x1 : V.cell? ⟨wr.heap.size, 1, none⟩ = some (.int .i64 st) := by rw [hV]; go_simp
      have x2 : V.cell? ⟨wr.heap.size, 2, none⟩ = some (.slice ta tl tc) := by rw [hV]; go_simp
      have x3 : V.cell? ⟨wr.heap.size, 3, none⟩ = some (.slice aa al ac) := by rw [hV]; go_simp
      have x4 : V.cell? ⟨wr.heap.size, 4, none⟩ = some (.int .i64 asks) := by rw [hV]; go_simp
      have x5 : V.cell? ⟨wr.heap.size, 5, none⟩ = some (.int .i64 age) := by rw [hV]; go_simp
      have v0 : V.cell? ⟨wr.heap.size + 1, 0, none⟩ = some (.int .i64 n) := by rw [hV]; go_simp
      have v1 : V.cell? ⟨wr.heap.size + 1, 1, none⟩ = some (.int .i64 st) := by rw [hV]; go_simp
      have v2 : V.cell? ⟨wr.heap.size + 1, 2, none⟩ = some (.slice ta' tl tc') := by rw [hV]; go_simp
      have v3 : V.cell? ⟨wr.heap.size + 1, 3, none⟩ = some (.slice aa' al ac') := by rw [hV]; go_simp
      have v4 : V.cell? ⟨wr.heap.size + 1, 4, none⟩ = some (.int .i64 asks) := by rw [hV]; go_simp
      have v5 : V.cell? ⟨wr.heap.size + 1, 5, none⟩ = some (.int .i64 age) := by rw [hV]; go_simp
      have HI : Hid (Calls Try.prog 36 #[.slice aa al ac, .slice aa' al ac'] V fun e w' => e = .returned (.bool true) ∧ Below V.heap.size V w') := sameIntsT aa aa' al ac ac' asked V (f1.asked.below bV) (f2.asked.below bV)
      have KB : Hid (∀ U, Below V.heap.size V U → U.cell? ⟨wr.heap.size, 2, none⟩ = some (.slice ta tl tc) ∧ U.cell? ⟨wr.heap.size + 1, 2, none⟩ = some (.slice ta' tl tc') ∧ wr.heap.size < U.heap.size ∧ wr.heap.size + 1 < U.heap.size ∧ Below W.heap.size W U) := fun U hU => ⟨(hU.cell (p := ⟨wr.heap.size, 2, none⟩) zV0).trans x2, (hU.cell (p := ⟨wr.heap.size + 1, 2, none⟩) zV).trans v2, Nat.lt_of_lt_of_le zV0 hU.size, Nat.lt_of_lt_of_le zV hU.size, hb.trans ((bV.trans (hU.mono bV.size)).mono hb.size)⟩
      have i3 := f1.tasks
      have i4 := f2.tasks
      have i1 := f1.asked
      have i2 := f2.asked
      clear f1 f2
      go_upto_region 8 with (fail)
      rw [← hV]
      clear hV p0 p1 p2 p3 p4 p5 q0 q1 q2 q3 q4 q5 c1 d1
      have HI2 : Hid (∀ U, Below V.heap.size V U → Calls Try.prog 36 #[.slice aa al ac, .slice aa' al ac'] U fun e w' => e = .returned (.bool true) ∧ Below U.heap.size U w') := fun U hU => sameIntsT aa aa' al ac ac' asked U ((i1.below bV).below hU) ((i2.below bV).below hU)
      have KC : Hid (∀ U, Below V.heap.size V U → U.cell? ⟨wr.heap.size, 3, none⟩ = some (.slice aa al ac) ∧ U.cell? ⟨wr.heap.size + 1, 3, none⟩ = some (.slice aa' al ac')) := fun U hU => ⟨(hU.cell (p := ⟨wr.heap.size, 3, none⟩) zV0).trans x3, (hU.cell (p := ⟨wr.heap.size + 1, 3, none⟩) zV).trans v3⟩
      have HTk : Hid (Calls Try.prog 35 #[.slice ta tl tc, .slice ta' tl tc'] V fun e w' => e = .returned (.bool true) ∧ Below V.heap.size V w') := sameTasksT ta ta' tl tc tc' tasks V (i3.below bV) (i4.below bV)
      clear HI i1 i2 i3 i4
      go_wp2_with (first | (go_at_call 35; refine HTk.out.mono ?_; rintro e V1 ⟨rfl, hb1⟩; obtain ⟨s2, t2, zs, zt, hW1⟩ := KB.out _ hb1; obtain ⟨s3, t3⟩ := KC.out _ hb1; clear x0 x1 x2 x3 x4 x5 v0 v1 v2 v3 v4 v5) | (go_at_call 36; refine (HI2.out _ hb1).mono ?_; rintro e V2 ⟨rfl, hb2⟩))
      have HW2 := (KB.out _ (hb1.trans (hb2.mono hb1.size))).2.2.2.2
      go_roundw
      case rel => exact ⟨k + 1, by omega, by go_num, HW2⟩
      case measure => simp [intOf]; omega
    · have hlt' : ¬ (k : Int) < (jl : Int) := by omega
      obtain ⟨c1, d1, y0, y1⟩ := KA.out _ hb
      go_wp2
      go_ret
      exact ⟨rfl, HB.out _ hb⟩
end Go.Proofs.Ytfhciplckjkflaa.Cd
/- reredoslaw's sameRecords and sameTurn: at the same turns as plain data they return true. -/
namespace Go.Proofs.Ytfhciplckjkflaa.Cd
open Go.ChangeShapes Go.WideShapes Go.ChangeAt Go.RowKit
open Go.Proofs.Ytfhciplckjkflaa.St (BoxN boxn_new IsRow flat own_isRow)
open Go.Proofs.Ytfhciplckjkflaa.Co
set_option linter.unusedVariables false

set_option maxRecDepth 100000 in
set_option maxHeartbeats 4000000 in
theorem sameRecordT (kind site num key value ask : Int) (yes : Bool) (sa sa' : Option Addr) (sl sc sc' : Nat) (zs : List Int) (w : World) (h : IsSites w sa sl sc zs) (h' : IsSites w sa' sl sc' zs) :
    Calls Try.prog 62 #[.agg #[.int .i64 kind, .int .i64 site, .int .i64 num, .int .i64 key, .int .i64 value, .int .i64 ask, .bool yes, .slice sa sl sc], .agg #[.int .i64 kind, .int .i64 site, .int .i64 num, .int .i64 key, .int .i64 value, .int .i64 ask, .bool yes, .slice sa' sl sc']] w fun e w' => e = .returned (.bool true) ∧ Below w.heap.size w w' := by
  obtain ⟨W, hW⟩ : ∃ W : World, W = (w.alloc (.cells #[.int .i64 kind, .int .i64 site, .int .i64 num, .int .i64 key, .int .i64 value, .int .i64 ask, .bool yes, .slice sa sl sc] 69)).alloc (.cells #[.int .i64 kind, .int .i64 site, .int .i64 num, .int .i64 key, .int .i64 value, .int .i64 ask, .bool yes, .slice sa' sl sc'] 69) := ⟨_, rfl⟩
  have hB : Below w.heap.size w W := by rw [hW]; exact ((Below.refl _ _).alloc (Nat.le_refl _) _).alloc (by simp) _
  have bx1 : BoxN W w.heap.size 8 [.int .i64 kind, .int .i64 site, .int .i64 num, .int .i64 key, .int .i64 value, .int .i64 ask, .bool yes, .slice sa sl sc] := by
    rw [hW]
    exact (boxn_new w #[.int .i64 kind, .int .i64 site, .int .i64 num, .int .i64 key, .int .i64 value, .int .i64 ask, .bool yes, .slice sa sl sc] 69 8 rfl).below ((Below.refl _ _).alloc (Nat.le_refl _) _) (by simp)
  have bx2 : BoxN W (w.heap.size + 1) 8 [.int .i64 kind, .int .i64 site, .int .i64 num, .int .i64 key, .int .i64 value, .int .i64 ask, .bool yes, .slice sa' sl sc'] := by
    rw [hW]
    simpa using boxn_new (w.alloc (.cells #[.int .i64 kind, .int .i64 site, .int .i64 num, .int .i64 key, .int .i64 value, .int .i64 ask, .bool yes, .slice sa sl sc] 69)) #[.int .i64 kind, .int .i64 site, .int .i64 num, .int .i64 key, .int .i64 value, .int .i64 ask, .bool yes, .slice sa' sl sc'] 69 8 rfl
  have hS := sameIntsT sa sa' sl sc sc' zs W (h.below hB) (h'.below hB)
  have a0 : W.cell? ⟨w.heap.size, 0, none⟩ = some (.int .i64 kind) := (bx1.c 0 (by omega)).1
  have a1 : W.cell? ⟨w.heap.size, 1, none⟩ = some (.int .i64 site) := (bx1.c 1 (by omega)).1
  have a2 : W.cell? ⟨w.heap.size, 2, none⟩ = some (.int .i64 num) := (bx1.c 2 (by omega)).1
  have a3 : W.cell? ⟨w.heap.size, 3, none⟩ = some (.int .i64 key) := (bx1.c 3 (by omega)).1
  have a4 : W.cell? ⟨w.heap.size, 4, none⟩ = some (.int .i64 value) := (bx1.c 4 (by omega)).1
  have a5 : W.cell? ⟨w.heap.size, 5, none⟩ = some (.int .i64 ask) := (bx1.c 5 (by omega)).1
  have a6 : W.cell? ⟨w.heap.size, 6, none⟩ = some (.bool yes) := (bx1.c 6 (by omega)).1
  have a7 : W.cell? ⟨w.heap.size, 7, none⟩ = some (.slice sa sl sc) := (bx1.c 7 (by omega)).1
  have b0 : W.cell? ⟨w.heap.size + 1, 0, none⟩ = some (.int .i64 kind) := (bx2.c 0 (by omega)).1
  have b1 : W.cell? ⟨w.heap.size + 1, 1, none⟩ = some (.int .i64 site) := (bx2.c 1 (by omega)).1
  have b2 : W.cell? ⟨w.heap.size + 1, 2, none⟩ = some (.int .i64 num) := (bx2.c 2 (by omega)).1
  have b3 : W.cell? ⟨w.heap.size + 1, 3, none⟩ = some (.int .i64 key) := (bx2.c 3 (by omega)).1
  have b4 : W.cell? ⟨w.heap.size + 1, 4, none⟩ = some (.int .i64 value) := (bx2.c 4 (by omega)).1
  have b5 : W.cell? ⟨w.heap.size + 1, 5, none⟩ = some (.int .i64 ask) := (bx2.c 5 (by omega)).1
  have b6 : W.cell? ⟨w.heap.size + 1, 6, none⟩ = some (.bool yes) := (bx2.c 6 (by omega)).1
  have b7 : W.cell? ⟨w.heap.size + 1, 7, none⟩ = some (.slice sa' sl sc') := (bx2.c 7 (by omega)).1
  clear bx1 bx2
  go_enter Try.func62, Try.ntmps62
  go_upto_region 1 with (fail)
  rw [← hW]
  clear hW
  go_wp2_with (go_at_call 36; refine hS.mono ?_; rintro e u ⟨rfl, hbu⟩)
  go_ret
  exact ⟨rfl, hB.trans (hbu.mono hB.size)⟩
theorem rc_parts {j k : RcV} (h : j.bare = k.bare) : j.kind = k.kind ∧ j.site = k.site ∧ j.num = k.num ∧ j.key = k.key ∧ j.value = k.value ∧ j.ask = k.ask ∧ j.yes = k.yes ∧ j.zs = k.zs := by
  obtain ⟨kind, site, num, key, value, ask, yes, sa, sl, sc, zs⟩ := j
  obtain ⟨kind', site', num', key', value', ask', yes', sa', sl', sc', zs'⟩ := k
  simp [RcV.bare] at h
  obtain ⟨h1, h2, h3, h4, h5, h6, h7, h8⟩ := h
  exact ⟨h1, h2, h3, h4, h5, h6, h7, h8⟩
abbrev IsRecsT := @IsRow RcV _ 8 RcV.cells
set_option maxRecDepth 100000 in
set_option maxHeartbeats 4000000 in
theorem sameRecordsT (a b : Option Addr) (n cap cap' : Nat) (xs ys : List RcV) (w : World) (h : IsRecsT w a n cap xs) (h' : IsRecsT w b n cap' ys) (hx : ∀ r ∈ xs, IsSites w r.sa r.sl r.sc r.zs) (hy : ∀ r ∈ ys, IsSites w r.sa r.sl r.sc r.zs) (hs : xs.map RcV.bare = ys.map RcV.bare) :
    Calls Try.prog 33 #[.slice a n cap, .slice b n cap'] w fun e w' => e = .returned (.bool true) ∧ Below w.heap.size w w' := by
  have hmx : n ≤ maxLen := Nat.le_trans h.2.1 h.2.2.1
  unfold maxLen at hmx
  have hl1 := h.1
  have hl2 := h'.1
  have HX : Hid (∀ U, Below w.heap.size w U → ∀ r ∈ xs, IsSites U r.sa r.sl r.sc r.zs) := fun U hU r hr => (hx r hr).below hU
  have HY : Hid (∀ U, Below w.heap.size w U → ∀ r ∈ ys, IsSites U r.sa r.sl r.sc r.zs) := fun U hU r hr => (hy r hr).below hU
  clear hx hy
  go_enter Try.func33, Try.ntmps33
  go_wp2
  go_loopw [5] (fun i wr => ∃ k : Nat, k ≤ n ∧ i = .int .i64 k ∧ Below w.heap.size w wr) (fun i _ => n - (intOf i).toNat)
  case atStart => exact ⟨0, Nat.zero_le _, rfl, Below.refl _ _⟩
  case round =>
    obtain ⟨k, hk, rfl, hb⟩ := hrel
    by_cases hlt : k < n
    · have hlt' : (k : Int) < (n : Int) := by omega
      obtain ⟨g1, o1, rfl, zb1, t1⟩ := (St.IsRow.below h hb).2.2.2.2 (by omega)
      obtain ⟨g2, o2, rfl, zb2, t2⟩ := (St.IsRow.below h' hb).2.2.2.2 (by omega)
      have p1 := t1 k hlt
      have p2 := t2 k hlt
      have hsame : (xs.getD k default).bare = (ys.getD k default).bare := by
        have e := congrArg (fun l : List RcV => l[k]?) hs
        simp only [List.getElem?_map] at e
        rw [List.getElem?_eq_getElem (by omega), List.getElem?_eq_getElem (by omega)] at e
        simp at e
        simpa [List.getD, show k < xs.length by omega, show k < ys.length by omega] using e
      have q1 := HX.out wr hb _ (mem_at (l := xs) (i := k) (by omega))
      have q2 := HY.out wr hb _ (mem_at (l := ys) (i := k) (by omega))
      obtain ⟨x, ex⟩ : ∃ x, x = xs.getD k default := ⟨_, rfl⟩
      obtain ⟨y, ey⟩ : ∃ y, y = ys.getD k default := ⟨_, rfl⟩
      rw [← ex, ← ey] at hsame
      rw [← ex] at p1 q1
      rw [← ey] at p2 q2
      clear ex ey
      have hp := rc_parts hsame
      obtain ⟨kind, site, num, key, value, ask, yes, sa, sl, sc, zs⟩ := x
      obtain ⟨kind', site', num', key', value', ask', yes', sa', sl', sc', zs'⟩ := y
      simp only [] at hp q1 q2
      obtain ⟨rfl, rfl, rfl, rfl, rfl, rfl, rfl, rfl⟩ := hp
      obtain rfl : sl = sl' := q1.1.symm.trans q2.1
      have a0 := p1 0 (by decide)
      have b0 := p2 0 (by decide)
      have a1 := p1 1 (by decide)
      have b1 := p2 1 (by decide)
      have a2 := p1 2 (by decide)
      have b2 := p2 2 (by decide)
      have a3 := p1 3 (by decide)
      have b3 := p2 3 (by decide)
      have a4 := p1 4 (by decide)
      have b4 := p2 4 (by decide)
      have a5 := p1 5 (by decide)
      have b5 := p2 5 (by decide)
      have a6 := p1 6 (by decide)
      have b6 := p2 6 (by decide)
      have a7 := p1 7 (by decide)
      have b7 := p2 7 (by decide)
      simp only [RcV.cells, List.getElem?_cons_zero, List.getElem?_cons_succ, Nat.add_zero] at a0 b0 a1 b1 a2 b2 a3 b3 a4 b4 a5 b5 a6 b6 a7 b7
      clear p1 p2 t1 t2 hsame
      have HS : Hid (∀ U, Below wr.heap.size wr U → Calls Try.prog 62 #[.agg #[.int .i64 kind, .int .i64 site, .int .i64 num, .int .i64 key, .int .i64 value, .int .i64 ask, .bool yes, .slice sa sl sc], .agg #[.int .i64 kind, .int .i64 site, .int .i64 num, .int .i64 key, .int .i64 value, .int .i64 ask, .bool yes, .slice sa' sl sc']] U fun e w' => e = .returned (.bool true) ∧ Below U.heap.size U w') := fun U hU => sameRecordT kind site num key value ask yes sa sa' sl sc sc' zs U (q1.below hU) (q2.below hU)
      have hjc : k < cap := Nat.lt_of_lt_of_le hlt h.2.1
      have hkc : k < cap' := Nat.lt_of_lt_of_le hlt h'.2.1
      clear q1 q2
      have q0 := fun d os => cell_regrown a0 d os
      have r0 := fun d os => cell_regrown b0 d os
      have q1 := fun d os => cell_regrown a1 d os
      have r1 := fun d os => cell_regrown b1 d os
      have q2 := fun d os => cell_regrown a2 d os
      have r2 := fun d os => cell_regrown b2 d os
      have q3 := fun d os => cell_regrown a3 d os
      have r3 := fun d os => cell_regrown b3 d os
      have q4 := fun d os => cell_regrown a4 d os
      have r4 := fun d os => cell_regrown b4 d os
      have q5 := fun d os => cell_regrown a5 d os
      have r5 := fun d os => cell_regrown b5 d os
      have q6 := fun d os => cell_regrown a6 d os
      have r6 := fun d os => cell_regrown b6 d os
      have q7 := fun d os => cell_regrown a7 d os
      have r7 := fun d os => cell_regrown b7 d os
      go_upto_region 6 with (fail)
      refine wp_region_quiet_below (by kernel_rfl) (by kernel_rfl) ?_
      repeat (go_big_quiet_step ((exact Calls.regrown_of (HS.out _ (below_regrown wr _ _)))))
      refine wpQuiet_nil ?_
      intro _ hw'
      obtain ⟨⟨dq, osq⟩, hw''⟩ := hw'
      subst hw''
      go_wp2
      go_roundw
      case rel => exact ⟨k + 1, by omega, by go_num, hb.trans ((below_regrown wr dq osq).mono hb.size)⟩
      case measure => simp [intOf]; omega
    · go_wp2
      go_ret
      exact ⟨rfl, hb⟩
theorem live_recs {B : Nat} {u : World} {v : CkV} {ix : List (Nat × Nat)} {more : List Rw} {t : Tn} (h : Live B u v ix more t) : ∀ r ∈ v.rs, IsSites u r.sa r.sl r.sc r.zs := fun r hr => by
  rcases h.recs r hr with ⟨h1, h2, h3, h4⟩ | ⟨k, hk⟩
  · rw [h1, h2, h3, h4]
    exact ⟨rfl, Nat.le_refl _, Nat.zero_le _, fun _ => rfl, fun h => absurd h (Nat.lt_irrefl _)⟩
  · have o1 := h.own.own _ _ (more_get hk)
    exact (own_isRow in_len o1 (own_count in_len (by decide) o1)).1
set_option maxRecDepth 100000 in
set_option maxHeartbeats 8000000 in
theorem sameTurnT {B D : Nat} (v x : CkV) (ix iy : List (Nat × Nat)) (m m' : List Rw) (t : Tn) (w : World) (h : Live B w v ix m t) (h' : Live D w x iy m' t) :
    Calls Try.prog 8 #[.agg #[.int .i64 v.next, .slice v.ja v.jl v.jc, .slice v.ma v.ml v.mc, .slice v.ra v.rl v.rc, .slice v.pa v.pl v.pc, .int .i64 v.sure, .int .i64 v.com], .agg #[.int .i64 x.next, .slice x.ja x.jl x.jc, .slice x.ma x.ml x.mc, .slice x.ra x.rl x.rc, .slice x.pa x.pl x.pc, .int .i64 x.sure, .int .i64 x.com]] w fun e w' => e = .returned (.bool true) ∧ Below w.heap.size w w' := by
  have e0 := h.tn.trans h'.tn.symm
  have en : v.next = x.next := congrArg Tn.next e0
  have ej : v.js.map JbV.bare = x.js.map JbV.bare := congrArg Tn.js e0
  have em : v.ms = x.ms := congrArg Tn.ms e0
  have er : v.rs.map RcV.bare = x.rs.map RcV.bare := congrArg Tn.rs e0
  have ep : v.ps = x.ps := congrArg Tn.ps e0
  have es : v.sure = x.sure := congrArg Tn.sure e0
  have ec : v.com = x.com := congrArg Tn.com e0
  have l1 := h.lens
  have l2 := h'.lens
  have nj : v.jl = x.jl := by rw [← l1.1, ← l2.1]; have := congrArg List.length ej; simpa using this
  have nm : v.ml = x.ml := by rw [← l1.2.1, ← l2.2.1, em]
  have nr : v.rl = x.rl := by rw [← l1.2.2.1, ← l2.2.2.1]; have := congrArg List.length er; simpa using this
  have np : v.pl = x.pl := by rw [← l1.2.2.2, ← l2.2.2.2, ep]
  obtain ⟨W, hW⟩ : ∃ W : World, W = (w.alloc (.cells #[.int .i64 v.next, .slice v.ja v.jl v.jc, .slice v.ma v.ml v.mc, .slice v.ra v.rl v.rc, .slice v.pa v.pl v.pc, .int .i64 v.sure, .int .i64 v.com] 35)).alloc (.cells #[.int .i64 x.next, .slice x.ja x.jl x.jc, .slice x.ma x.ml x.mc, .slice x.ra x.rl x.rc, .slice x.pa x.pl x.pc, .int .i64 x.sure, .int .i64 x.com] 35) := ⟨_, rfl⟩
  have bW : Below w.heap.size w W := by rw [hW]; exact ((Below.refl _ _).alloc (Nat.le_refl _) _).alloc (by simp) _
  have b0 : BoxN W w.heap.size 7 [.int .i64 v.next, .slice v.ja v.jl v.jc, .slice v.ma v.ml v.mc, .slice v.ra v.rl v.rc, .slice v.pa v.pl v.pc, .int .i64 v.sure, .int .i64 v.com] := by
    rw [hW]
    have h8 := boxn_new w #[.int .i64 v.next, .slice v.ja v.jl v.jc, .slice v.ma v.ml v.mc, .slice v.ra v.rl v.rc, .slice v.pa v.pl v.pc, .int .i64 v.sure, .int .i64 v.com] 35 7 rfl
    exact h8.below ((Below.refl _ _).alloc (Nat.le_refl _) _) h8.lt
  have b1 : BoxN W (w.heap.size + 1) 7 [.int .i64 x.next, .slice x.ja x.jl x.jc, .slice x.ma x.ml x.mc, .slice x.ra x.rl x.rc, .slice x.pa x.pl x.pc, .int .i64 x.sure, .int .i64 x.com] := by
    rw [hW]
    have h8 := boxn_new (w.alloc (.cells #[.int .i64 v.next, .slice v.ja v.jl v.jc, .slice v.ma v.ml v.mc, .slice v.ra v.rl v.rc, .slice v.pa v.pl v.pc, .int .i64 v.sure, .int .i64 v.com] 35)) #[.int .i64 x.next, .slice x.ja x.jl x.jc, .slice x.ma x.ml x.mc, .slice x.ra x.rl x.rc, .slice x.pa x.pl x.pc, .int .i64 x.sure, .int .i64 x.com] 35 7 rfl
    simpa using h8
  have KB : Hid (∀ U, Below W.heap.size W U → (U.cell? ⟨w.heap.size, 0, none⟩ = some (.int .i64 v.next) ∧ U.cell? ⟨w.heap.size, 1, none⟩ = some (.slice v.ja v.jl v.jc) ∧ U.cell? ⟨w.heap.size, 2, none⟩ = some (.slice v.ma v.ml v.mc) ∧ U.cell? ⟨w.heap.size, 3, none⟩ = some (.slice v.ra v.rl v.rc) ∧ U.cell? ⟨w.heap.size, 4, none⟩ = some (.slice v.pa v.pl v.pc) ∧ U.cell? ⟨w.heap.size, 5, none⟩ = some (.int .i64 v.sure) ∧ U.cell? ⟨w.heap.size, 6, none⟩ = some (.int .i64 v.com) ∧ w.heap.size < U.heap.size) ∧ (U.cell? ⟨w.heap.size + 1, 0, none⟩ = some (.int .i64 x.next) ∧ U.cell? ⟨w.heap.size + 1, 1, none⟩ = some (.slice x.ja x.jl x.jc) ∧ U.cell? ⟨w.heap.size + 1, 2, none⟩ = some (.slice x.ma x.ml x.mc) ∧ U.cell? ⟨w.heap.size + 1, 3, none⟩ = some (.slice x.ra x.rl x.rc) ∧ U.cell? ⟨w.heap.size + 1, 4, none⟩ = some (.slice x.pa x.pl x.pc) ∧ U.cell? ⟨w.heap.size + 1, 5, none⟩ = some (.int .i64 x.sure) ∧ U.cell? ⟨w.heap.size + 1, 6, none⟩ = some (.int .i64 x.com) ∧ w.heap.size + 1 < U.heap.size) ∧ Below w.heap.size w U) := fun U hU => by
    have h1 := b0.below hU b0.lt
    have h2 := b1.below hU b1.lt
    exact ⟨⟨(h1.c 0 (by decide)).1, (h1.c 1 (by decide)).1, (h1.c 2 (by decide)).1, (h1.c 3 (by decide)).1, (h1.c 4 (by decide)).1, (h1.c 5 (by decide)).1, (h1.c 6 (by decide)).1, h1.lt⟩, ⟨(h2.c 0 (by decide)).1, (h2.c 1 (by decide)).1, (h2.c 2 (by decide)).1, (h2.c 3 (by decide)).1, (h2.c 4 (by decide)).1, (h2.c 5 (by decide)).1, (h2.c 6 (by decide)).1, h2.lt⟩, bW.trans (hU.mono bW.size)⟩
  have HL : Hid (∀ U, Below W.heap.size W U → Live B U v ix m t ∧ Live D U x iy m' t) := fun U hU => by
    have h9 := bW.trans (hU.mono bW.size)
    exact ⟨h.below h9, h'.below h9⟩
  have H1 : Hid (∀ U, Below W.heap.size W U → Calls Try.prog 9 #[.agg #[.int .i64 v.next, .slice v.ja v.jl v.jc], .agg #[.int .i64 x.next, .slice x.ja x.jl x.jc]] U fun e w' => e = .returned (.bool true) ∧ Below U.heap.size U w') := fun U hU => by
    obtain ⟨h1, h2⟩ := HL.out U hU
    have h3 := h2.isJobs
    rw [← nj] at h3
    rw [← en, ← nj]
    exact sameDeskT v.next v.ja v.jl v.jc v.js x.ja x.jc x.js U h1.isJobs h3 ej
  have H2 : Hid (∀ U, Below W.heap.size W U → Calls Try.prog 32 #[.slice v.ma v.ml v.mc, .slice x.ma x.ml x.mc] U fun e w' => e = .returned (.bool true) ∧ Below U.heap.size U w') := fun U hU => by
    obtain ⟨h1, h2⟩ := HL.out U hU
    have o1 := h1.own.own 1 ⟨75, 12, .slice v.ma v.ml v.mc, v.ml, flat mcells v.ms⟩ rfl
    have o2 := h2.own.own 1 ⟨75, 12, .slice x.ma x.ml x.mc, x.ml, flat mcells x.ms⟩ rfl
    have r1 : IsMsgsT U v.ma v.ml v.mc v.ms := (own_isRow (k := 12) (cells := mcells) (fun _ => rfl) o1 h1.lens.2.1).1
    have r2 : IsMsgsT U x.ma x.ml x.mc x.ms := (own_isRow (k := 12) (cells := mcells) (fun _ => rfl) o2 h2.lens.2.1).1
    rw [← em, ← nm] at r2
    rw [← nm]
    exact sameMessagesT v.ma x.ma v.ml v.mc x.mc v.ms U r1 r2
  have H3 : Hid (∀ U, Below W.heap.size W U → Calls Try.prog 33 #[.slice v.ra v.rl v.rc, .slice x.ra x.rl x.rc] U fun e w' => e = .returned (.bool true) ∧ Below U.heap.size U w') := fun U hU => by
    obtain ⟨h1, h2⟩ := HL.out U hU
    have o1 := h1.own.own 2 ⟨69, 8, .slice v.ra v.rl v.rc, v.rl, flat RcV.cells v.rs⟩ rfl
    have o2 := h2.own.own 2 ⟨69, 8, .slice x.ra x.rl x.rc, x.rl, flat RcV.cells x.rs⟩ rfl
    have r1 : IsRecsT U v.ra v.rl v.rc v.rs := (own_isRow (k := 8) (cells := RcV.cells) (fun _ => rfl) o1 h1.lens.2.2.1).1
    have r2 : IsRecsT U x.ra x.rl x.rc x.rs := (own_isRow (k := 8) (cells := RcV.cells) (fun _ => rfl) o2 h2.lens.2.2.1).1
    rw [← nr] at r2
    rw [← nr]
    exact sameRecordsT v.ra x.ra v.rl v.rc x.rc v.rs x.rs U r1 r2 (live_recs h1) (live_recs h2) er
  have H4 : Hid (∀ U, Below W.heap.size W U → Calls Try.prog 34 #[.slice v.pa v.pl v.pc, .slice x.pa x.pl x.pc] U fun e w' => e = .returned (.bool true) ∧ Below U.heap.size U w') := fun U hU => by
    obtain ⟨h1, h2⟩ := HL.out U hU
    have o1 := h1.own.own 3 ⟨62, 6, .slice v.pa v.pl v.pc, v.pl, flat RpV.cells v.ps⟩ rfl
    have o2 := h2.own.own 3 ⟨62, 6, .slice x.pa x.pl x.pc, x.pl, flat RpV.cells x.ps⟩ rfl
    have r1 : IsRepsT U v.pa v.pl v.pc v.ps := (own_isRow (k := 6) (cells := RpV.cells) (fun _ => rfl) o1 h1.lens.2.2.2).1
    have r2 : IsRepsT U x.pa x.pl x.pc x.ps := (own_isRow (k := 6) (cells := RpV.cells) (fun _ => rfl) o2 h2.lens.2.2.2).1
    rw [← ep, ← np] at r2
    rw [← np]
    exact sameRepliesT v.pa x.pa v.pl v.pc x.pc v.ps U r1 r2
  have es2 : (v.sure == x.sure) = true := by simp [es]
  have ec2 : (v.com == x.com) = true := by simp [ec]
  clear h h' b0 b1 bW e0 en ej em er ep es ec l1 l2 nj nm nr np HL
  go_enter Try.func8, Try.ntmps8
  go_upto_region 1 with (fail)
  rw [← hW]
  clear hW
  obtain ⟨⟨x0, x1, x2, x3, x4, x5, x6, xz⟩, ⟨y0, y1, y2, y3, y4, y5, y6, yz⟩, -⟩ := KB.out W (Below.refl _ _)
  have h1 := H1.out W (Below.refl _ _)
  go_wp2_with (first | (go_at_call 9; refine h1.mono ?_; rintro e U1 ⟨rfl, c1⟩; clear x0 x1 x2 x3 x4 x5 x6 xz y0 y1 y2 y3 y4 y5 y6 yz h1; obtain ⟨⟨x0, x1, x2, x3, x4, x5, x6, xz⟩, ⟨y0, y1, y2, y3, y4, y5, y6, yz⟩, -⟩ := KB.out U1 c1; have h2 := H2.out U1 c1) | (go_at_call 32; refine h2.mono ?_; rintro e U2 ⟨rfl, k2⟩; clear x0 x1 x2 x3 x4 x5 x6 xz y0 y1 y2 y3 y4 y5 y6 yz h2; have c2 := c1.trans (k2.mono c1.size); obtain ⟨⟨x0, x1, x2, x3, x4, x5, x6, xz⟩, ⟨y0, y1, y2, y3, y4, y5, y6, yz⟩, -⟩ := KB.out U2 c2; have h3 := H3.out U2 c2) | (go_at_call 33; refine h3.mono ?_; rintro e U3 ⟨rfl, k3⟩; clear x0 x1 x2 x3 x4 x5 x6 xz y0 y1 y2 y3 y4 y5 y6 yz h3; have c3 := c2.trans (k3.mono c2.size); obtain ⟨⟨x0, x1, x2, x3, x4, x5, x6, xz⟩, ⟨y0, y1, y2, y3, y4, y5, y6, yz⟩, -⟩ := KB.out U3 c3; have h4 := H4.out U3 c3) | (go_at_call 34; refine h4.mono ?_; rintro e U4 ⟨rfl, k4⟩; have c4 := c3.trans (k4.mono c3.size)))
  have hF := (KB.out _ c4).2.2
  go_ret
  exact ⟨rfl, hF⟩
end Go.Proofs.Ytfhciplckjkflaa.Cd
/- The walk of the law CoordTicks: it returns true and leaves what was in memory. -/
namespace Go.Proofs.Ytfhciplckjkflaa.Co
open Go.ChangeShapes Go.WideShapes Go.ChangeAt Go.RowKit
open Go.Proofs.Ytfhciplckjkflaa.St (BoxN boxn_new IsRow flat)
open Go.Proofs.Ytfhciplckjkflaa.Cd
set_option linter.unusedVariables false

set_option maxRecDepth 100000 in
set_option maxHeartbeats 8000000 in
theorem coordTicks_walk (s : Int) (a : Option Addr) (len cap : Nat) (p : Int) (ls : List (Int × Int)) (l me nx : Int) (ja : Option Addr) (jl jc : Nat) (js : List JbV) (w : World) (hs0 : (Lit.int .i64 s).wf = true) (hl : IsLabs w a len cap ls) (hp0 : (Lit.int .i64 p).wf = true) (hl0 : (Lit.int .i64 l).wf = true) (hm0 : (Lit.int .i64 me).wf = true) (hj : IsJobs w ja jl jc js) (hsz : jl * 80 ≤ 140737488351232 ∧ ∀ j ∈ js, j.tl * 56 ≤ 140737488351232 ∧ j.al * 8 ≤ 140737488351232) :
    Calls Try.prog 4 #[.agg #[.int .i64 s, .slice a len cap, .int .i64 p], .int .i64 l, .int .i64 me, .agg #[.int .i64 nx, .slice ja jl jc]] w fun e w' => e = .returned (.bool true) ∧ Below w.heap.size w w' := by
  clear hs0 hp0 hl0 hm0
  obtain ⟨W, hW⟩ : ∃ W : World, W = (w.alloc (.cells #[.int .i64 s, .slice a len cap, .int .i64 p] 24)).alloc (.cells #[.int .i64 nx, .slice ja jl jc] 27) := ⟨_, rfl⟩
  have bW : Below w.heap.size w W := by rw [hW]; exact ((Below.refl _ _).alloc (Nat.le_refl _) _).alloc (by simp) _
  have b0 : BoxN W w.heap.size 3 [.int .i64 s, .slice a len cap, .int .i64 p] := by
    rw [hW]
    have h8 := boxn_new w #[.int .i64 s, .slice a len cap, .int .i64 p] 24 3 rfl
    exact h8.below ((Below.refl _ _).alloc (Nat.le_refl _) _) h8.lt
  have b1 : BoxN W (w.heap.size + 1) 2 [.int .i64 nx, .slice ja jl jc] := by
    rw [hW]
    have h8 := boxn_new (w.alloc (.cells #[.int .i64 s, .slice a len cap, .int .i64 p] 24)) #[.int .i64 nx, .slice ja jl jc] 27 2 rfl
    simpa using h8
  have KB : Hid (∀ U, Below W.heap.size W U → (U.cell? ⟨w.heap.size, 0, none⟩ = some (.int .i64 s) ∧ U.cell? ⟨w.heap.size, 1, none⟩ = some (.slice a len cap) ∧ U.cell? ⟨w.heap.size, 2, none⟩ = some (.int .i64 p) ∧ w.heap.size < U.heap.size) ∧ (U.cell? ⟨w.heap.size + 1, 0, none⟩ = some (.int .i64 nx) ∧ U.cell? ⟨w.heap.size + 1, 1, none⟩ = some (.slice ja jl jc) ∧ w.heap.size + 1 < U.heap.size) ∧ Below w.heap.size w U) := fun U hU => by
    have h1 := b0.below hU b0.lt
    have h2 := b1.below hU b1.lt
    exact ⟨⟨(h1.c 0 (by decide)).1, (h1.c 1 (by decide)).1, (h1.c 2 (by decide)).1, h1.lt⟩, ⟨(h2.c 0 (by decide)).1, (h2.c 1 (by decide)).1, h2.lt⟩, bW.trans (hU.mono bW.size)⟩
  have HLb : Hid (∀ U, Below W.heap.size W U → IsLabs U a len cap ls ∧ IsJobs U ja jl jc js) := fun U hU => ⟨hl.below (bW.trans (hU.mono bW.size)), hj.below (bW.trans (hU.mono bW.size))⟩
  have HCp : Hid (Calls Try.prog 5 #[.agg #[.int .i64 nx, .slice ja jl jc]] W fun e w' => DeskNew W w' e nx jl js) := deskCopy_any nx ja jl jc js W (hj.below bW) hsz.1 hsz.2
  have HJl : Hid (js.length = jl) := hj.row.1
  clear hl hj hsz b0 b1 bW
  go_enter Try.func4, Try.ntmps4
  go_upto_region 1 with (fail)
  rw [← hW]
  clear hW
  obtain ⟨⟨x0, x1, x2, xz⟩, ⟨y0, y1, yz⟩, -⟩ := KB.out W (Below.refl _ _)
  go_upto_region 2 with (go_at_call 5; refine HCp.out.mono ?_; rintro e V ⟨ka, kc, ks, ix, more, rfl, hD, hbare, hbV⟩)
  clear x0 x1 x2 xz y0 y1 yz
  obtain ⟨X, eX⟩ : ∃ X : World, X = V.alloc (.cells #[.int .i64 nx, .slice ka jl kc] 27) := ⟨_, rfl⟩
  have bX : Below V.heap.size V X := by rw [eX]; exact (Below.refl _ _).alloc (Nat.le_refl _) _
  have bk : BoxN X V.heap.size 2 [.int .i64 nx, .slice ka jl kc] := by rw [eX]; exact boxn_new V #[.int .i64 nx, .slice ka jl kc] 27 2 rfl
  rw [← eX]
  clear eX
  have hWX : Below W.heap.size W X := hbV.trans (bX.mono hbV.size)
  have KK : Hid (∀ U, Below X.heap.size X U → (U.cell? ⟨V.heap.size, 0, none⟩ = some (.int .i64 nx) ∧ U.cell? ⟨V.heap.size, 1, none⟩ = some (.slice ka jl kc) ∧ V.heap.size < U.heap.size) ∧ IsJobs U ka jl kc ks ∧ Below W.heap.size W U) := fun U hU => by
    have h1 := bk.below hU bk.lt
    exact ⟨⟨(h1.c 0 (by decide)).1, (h1.c 1 (by decide)).1, h1.lt⟩, (hD.isJobs.below bX).below hU, hWX.trans (hU.mono hWX.size)⟩
  have HBr : Hid (ks.map JbV.bare = js.map JbV.bare) := hbare
  have HT1 : Hid (∀ U, Below X.heap.size X U → Calls Try.prog 10 #[.agg #[.int .i64 s, .slice a len cap, .int .i64 p], .int .i64 l, .int .i64 me, .agg #[.int .i64 nx, .slice ka jl kc]] U fun e w' => TickIs U w' ⟨s, ls, p, l, me⟩ nx js e) := fun U hU => by
    obtain ⟨-, h2, h3⟩ := KK.out U hU
    refine (tick_coord s p a len cap ls l me nx ka jl kc ks U (HLb.out U h3).1 h2).mono ?_
    rintro e w' ⟨tv, rfl, hT⟩
    refine ⟨tv, ?_, ?_⟩
    · show _ = Ending.returned (.tuple #[tv, .int .i64 (rfErr s ls p l me nx js)])
      have h9 := rf_bare s ls p l me nx ks
      rw [HBr.out, rf_bare] at h9
      rw [← h9] <;> rfl
    · have h9 := tk_bare ⟨s, ls, p, l, me⟩ nx ks
      rw [HBr.out, tk_bare] at h9
      rw [h9]
      exact hT
  have HT2 : Hid (∀ U, Below X.heap.size X U → Calls Try.prog 11 #[.agg #[.int .i64 s, .slice a len cap, .int .i64 p], .int .i64 l, .int .i64 me, .agg #[.int .i64 nx, .slice ja jl jc]] U fun e w' => TickIs U w' ⟨s, ls, p, l, me⟩ nx js e) := fun U hU => by
    obtain ⟨-, h2, h3⟩ := KK.out U hU
    exact ticked_ref s p a len cap ls l me nx ja jl jc js U (HLb.out U h3).1 (HLb.out U h3).2
  obtain ⟨E, eE⟩ : ∃ E, E = rfErr s ls p l me nx js := ⟨_, rfl⟩
  obtain ⟨T, eT⟩ : ∃ T, T = TickAns ⟨s, ls, p, l, me⟩ nx js := ⟨_, rfl⟩
  have HU : Hid (∀ (U w' : World) (e : Ending), TickIs U w' ⟨s, ls, p, l, me⟩ nx js e → ∃ (v : CkV) (ix : List (Nat × Nat)) (m : List Rw), e = .returned (.tuple #[.agg #[.int .i64 v.next, .slice v.ja v.jl v.jc, .slice v.ma v.ml v.mc, .slice v.ra v.rl v.rc, .slice v.pa v.pl v.pc, .int .i64 v.sure, .int .i64 v.com], .int .i64 E]) ∧ Live U.heap.size w' v ix m T ∧ Below U.heap.size U w') := fun U w' e h => by
    obtain ⟨tv, rfl, hT⟩ := h
    obtain ⟨v, ix, m, rfl, h1, h2⟩ := turn_live hT
    rw [eE, eT]
    exact ⟨v, ix, m, rfl, h1, h2⟩
  clear eE eT hD hbare hbV bX bk
  obtain ⟨⟨k0, k1, kz⟩, -, -⟩ := KK.out X (Below.refl _ _)
  obtain ⟨⟨x0, x1, x2, xz⟩, -, -⟩ := KB.out X hWX
  have h1 := HT1.out X (Below.refl _ _)
  go_upto_region 3 with (go_at_call 10; refine h1.mono ?_; rintro e V1 hV1; obtain ⟨v, iv, mv, rfl, hLv, hb1⟩ := HU.out X V1 e hV1; clear hV1)
  clear k0 k1 kz x0 x1 x2 xz h1
  obtain ⟨X1, eX1⟩ : ∃ X : World, X = V1.alloc (.cells #[.int .i64 v.next, .slice v.ja v.jl v.jc, .slice v.ma v.ml v.mc, .slice v.ra v.rl v.rc, .slice v.pa v.pl v.pc, .int .i64 v.sure, .int .i64 v.com] 35) := ⟨_, rfl⟩
  have bX1 : Below V1.heap.size V1 X1 := by rw [eX1]; exact (Below.refl _ _).alloc (Nat.le_refl _) _
  have bt1 : BoxN X1 V1.heap.size 7 [.int .i64 v.next, .slice v.ja v.jl v.jc, .slice v.ma v.ml v.mc, .slice v.ra v.rl v.rc, .slice v.pa v.pl v.pc, .int .i64 v.sure, .int .i64 v.com] := by rw [eX1]; exact boxn_new V1 #[.int .i64 v.next, .slice v.ja v.jl v.jc, .slice v.ma v.ml v.mc, .slice v.ra v.rl v.rc, .slice v.pa v.pl v.pc, .int .i64 v.sure, .int .i64 v.com] 35 7 rfl
  rw [← eX1]
  clear eX1
  have hXX1 : Below X.heap.size X X1 := hb1.trans (bX1.mono hb1.size)
  have HLv : Hid (∀ U, Below X1.heap.size X1 U → Live X.heap.size U v iv mv T ∧ BoxN U V1.heap.size 7 [.int .i64 v.next, .slice v.ja v.jl v.jc, .slice v.ma v.ml v.mc, .slice v.ra v.rl v.rc, .slice v.pa v.pl v.pc, .int .i64 v.sure, .int .i64 v.com]) := fun U hU => ⟨(hLv.below bX1).below hU, bt1.below hU bt1.lt⟩
  clear hLv bt1 hb1 bX1
  obtain ⟨⟨x0, x1, x2, xz⟩, ⟨y0, y1, yz⟩, -⟩ := KB.out X1 (KK.out X1 hXX1).2.2
  have h1 := HT2.out X1 hXX1
  go_upto_region 4 with (go_at_call 11; refine h1.mono ?_; rintro e V2 hV2; obtain ⟨x, ixx, mx, rfl, hLx, hb2⟩ := HU.out X1 V2 e hV2; clear hV2)
  clear x0 x1 x2 xz y0 y1 yz h1
  obtain ⟨X2, eX2⟩ : ∃ X : World, X = V2.alloc (.cells #[.int .i64 x.next, .slice x.ja x.jl x.jc, .slice x.ma x.ml x.mc, .slice x.ra x.rl x.rc, .slice x.pa x.pl x.pc, .int .i64 x.sure, .int .i64 x.com] 35) := ⟨_, rfl⟩
  have bX2 : Below V2.heap.size V2 X2 := by rw [eX2]; exact (Below.refl _ _).alloc (Nat.le_refl _) _
  have bt2 : BoxN X2 V2.heap.size 7 [.int .i64 x.next, .slice x.ja x.jl x.jc, .slice x.ma x.ml x.mc, .slice x.ra x.rl x.rc, .slice x.pa x.pl x.pc, .int .i64 x.sure, .int .i64 x.com] := by rw [eX2]; exact boxn_new V2 #[.int .i64 x.next, .slice x.ja x.jl x.jc, .slice x.ma x.ml x.mc, .slice x.ra x.rl x.rc, .slice x.pa x.pl x.pc, .int .i64 x.sure, .int .i64 x.com] 35 7 rfl
  rw [← eX2]
  clear eX2
  have hX12 : Below X1.heap.size X1 X2 := hb2.trans (bX2.mono hb2.size)
  have hX02 : Below X.heap.size X X2 := hXX1.trans (hX12.mono hXX1.size)
  have HS1 : Hid (Calls Try.prog 8 #[.agg #[.int .i64 v.next, .slice v.ja v.jl v.jc, .slice v.ma v.ml v.mc, .slice v.ra v.rl v.rc, .slice v.pa v.pl v.pc, .int .i64 v.sure, .int .i64 v.com], .agg #[.int .i64 x.next, .slice x.ja x.jl x.jc, .slice x.ma x.ml x.mc, .slice x.ra x.rl x.rc, .slice x.pa x.pl x.pc, .int .i64 x.sure, .int .i64 x.com]] X2 fun e w' => e = .returned (.bool true) ∧ Below X2.heap.size X2 w') := sameTurnT v x iv ixx mv mx T X2 (HLv.out X2 hX12).1 (hLx.below bX2)
  have HS2 : Hid (∀ U, Below X2.heap.size X2 U → Calls Try.prog 9 #[.agg #[.int .i64 nx, .slice ka jl kc], .agg #[.int .i64 nx, .slice ja jl jc]] U fun e w' => e = .returned (.bool true) ∧ Below U.heap.size U w') := fun U hU => by
    obtain ⟨-, h2, h3⟩ := KK.out U (hX02.trans (hU.mono hX02.size))
    exact sameDeskT nx ka jl kc ks ja jc js U h2 (HLb.out U h3).2 HBr.out
  have HFn : Hid (∀ U, Below X2.heap.size X2 U → Below w.heap.size w U) := fun U hU => (KB.out U (KK.out U (hX02.trans (hU.mono hX02.size))).2.2).2.2
  have HK2 : Hid (∀ U, Below X2.heap.size X2 U → (U.cell? ⟨V.heap.size, 0, none⟩ = some (.int .i64 nx) ∧ U.cell? ⟨V.heap.size, 1, none⟩ = some (.slice ka jl kc) ∧ V.heap.size < U.heap.size) ∧ (U.cell? ⟨w.heap.size + 1, 0, none⟩ = some (.int .i64 nx) ∧ U.cell? ⟨w.heap.size + 1, 1, none⟩ = some (.slice ja jl jc) ∧ w.heap.size + 1 < U.heap.size)) := fun U hU => ⟨(KK.out U (hX02.trans (hU.mono hX02.size))).1, (KB.out U (KK.out U (hX02.trans (hU.mono hX02.size))).2.2).2.1⟩
  have hv9 := (HLv.out X2 hX12).2
  have p0 : X2.cell? ⟨V1.heap.size, 0, none⟩ = some (.int .i64 v.next) := (hv9.c 0 (by decide)).1
  have p1 : X2.cell? ⟨V1.heap.size, 1, none⟩ = some (.slice v.ja v.jl v.jc) := (hv9.c 1 (by decide)).1
  have p2 : X2.cell? ⟨V1.heap.size, 2, none⟩ = some (.slice v.ma v.ml v.mc) := (hv9.c 2 (by decide)).1
  have p3 : X2.cell? ⟨V1.heap.size, 3, none⟩ = some (.slice v.ra v.rl v.rc) := (hv9.c 3 (by decide)).1
  have p4 : X2.cell? ⟨V1.heap.size, 4, none⟩ = some (.slice v.pa v.pl v.pc) := (hv9.c 4 (by decide)).1
  have p5 : X2.cell? ⟨V1.heap.size, 5, none⟩ = some (.int .i64 v.sure) := (hv9.c 5 (by decide)).1
  have p6 : X2.cell? ⟨V1.heap.size, 6, none⟩ = some (.int .i64 v.com) := (hv9.c 6 (by decide)).1
  have q0 : X2.cell? ⟨V2.heap.size, 0, none⟩ = some (.int .i64 x.next) := (bt2.c 0 (by decide)).1
  have q1 : X2.cell? ⟨V2.heap.size, 1, none⟩ = some (.slice x.ja x.jl x.jc) := (bt2.c 1 (by decide)).1
  have q2 : X2.cell? ⟨V2.heap.size, 2, none⟩ = some (.slice x.ma x.ml x.mc) := (bt2.c 2 (by decide)).1
  have q3 : X2.cell? ⟨V2.heap.size, 3, none⟩ = some (.slice x.ra x.rl x.rc) := (bt2.c 3 (by decide)).1
  have q4 : X2.cell? ⟨V2.heap.size, 4, none⟩ = some (.slice x.pa x.pl x.pc) := (bt2.c 4 (by decide)).1
  have q5 : X2.cell? ⟨V2.heap.size, 5, none⟩ = some (.int .i64 x.sure) := (bt2.c 5 (by decide)).1
  have q6 : X2.cell? ⟨V2.heap.size, 6, none⟩ = some (.int .i64 x.com) := (bt2.c 6 (by decide)).1
  have pz := hv9.lt
  have qz := bt2.lt
  clear hv9 bt2 hLx hb2 bX2 hX12 hX02 HLv hXX1 hWX
  go_wp2_with (first | (go_at_call 8; refine HS1.out.mono ?_; rintro e U1 ⟨rfl, c1⟩; clear p0 q0 p1 q1 p2 q2 p3 q3 p4 q4 p5 q5 p6 q6 pz qz; obtain ⟨⟨k0, k1, kz⟩, ⟨y0, y1, yz⟩⟩ := HK2.out U1 c1) | (go_at_call 9; refine (HS2.out _ c1).mono ?_; rintro e U2 ⟨rfl, k2⟩; have c2 := c1.trans (k2.mono c1.size)))
  have hF := HFn.out _ c2
  go_ret
  exact ⟨rfl, hF⟩
end Go.Proofs.Ytfhciplckjkflaa.Co
