/- Contracts of sameTxns and sameStore: at the same data they return true, and leave what was in memory. -/
import Derived.Test.YtbmbahifkegehaaSPre
import Derived.Deep.Cut
namespace Go.Proofs.Ytbmbahifkegehaa.St
open Go.ChangeShapes Go.WideShapes Go.ChangeAt Go.RowKit
set_option linter.unusedVariables false

set_option maxRecDepth 100000 in
set_option maxHeartbeats 2000000 in
theorem sameTxns_any (a b : Option Addr) (n cap cap' : Nat) (xs : List (Int × Int)) (w : World) (h : IsTxns w a n cap xs) (h' : IsTxns w b n cap' xs) :
    Calls Try.prog 34 #[.slice a n cap, .slice b n cap'] w fun e w' => e = .returned (.bool true) ∧ Below w.heap.size w w' := by
  have hmx : n ≤ maxLen := Nat.le_trans h.2.1 h.2.2.1
  unfold maxLen at hmx
  go_enter Try.func34, Try.ntmps34
  go_wp2
  go_loopw [5] (fun i wr => ∃ k : Nat, k ≤ n ∧ i = .int .i64 k ∧ Below w.heap.size w wr) (fun i _ => n - (intOf i).toNat)
  case atStart => exact ⟨0, Nat.zero_le _, rfl, Below.refl _ _⟩
  case round =>
    obtain ⟨k, hk, rfl, hb⟩ := hrel
    by_cases hlt : k < n
    · have hlt' : (k : Int) < (n : Int) := by omega
      obtain ⟨b1, o1, rfl, _, c1⟩ := (h.below hb).2.2.2.2 (by omega)
      obtain ⟨b2, o2, rfl, _, c2⟩ := (h'.below hb).2.2.2.2 (by omega)
      have e1 := c1 k hlt
      have e2 := c2 k hlt
      obtain ⟨z, hz⟩ : ∃ z, z = xs.getD k default := ⟨_, rfl⟩
      rw [← hz] at e1 e2
      clear hz c1 c2
      obtain ⟨q0, q1⟩ := z
      have x0 := e1 0 (by decide)
      have x1 := e1 1 (by decide)
      have y0 := e2 0 (by decide)
      have y1 := e2 1 (by decide)
      simp only [txCells, List.getElem?_cons_zero, List.getElem?_cons_succ, Nat.add_zero] at x0 x1 y0 y1
      clear e1 e2
      go_wp2
      go_quiet (fail)
      go_wp2
      go_roundw
      case rel => exact ⟨k + 1, by omega, by go_num, below_drewN hb nq⟩
      case measure => simp [intOf]; omega
    · go_wp2
      go_ret
      exact ⟨rfl, hb⟩

set_option maxRecDepth 100000 in
set_option maxHeartbeats 8000000 in
theorem sameStore_any (x y : SV) (w : World) (h : IsStore w x) (h' : IsStore w y) (hd : x.data = y.data) :
    Calls Try.prog 12 #[x.val, y.val] w fun e w' => e = .returned (.bool true) ∧ Below w.heap.size w w' := by
  obtain ⟨ia, il, ic, la, ll, lc, da, dl, dc, oa, ol, oc, items, locks, doubts, over⟩ := x
  obtain ⟨ja, jl, jc, ma, ml, mc, ea, el, ec, pa, pl, pc, items', locks', doubts', over'⟩ := y
  simp only [SV.data, PS.mk.injEq] at hd
  obtain ⟨rfl, rfl, rfl, rfl⟩ := hd
  obtain rfl : il = jl := h.items.1.symm.trans h'.items.1
  obtain rfl : ll = ml := h.locks.1.symm.trans h'.locks.1
  obtain rfl : dl = el := h.doubts.1.symm.trans h'.doubts.1
  obtain rfl : ol = pl := h.over.1.symm.trans h'.over.1
  simp only [SV.val]
  have m1 : il ≤ maxLen := Nat.le_trans h.items.2.1 h.items.2.2.1
  have m2 : ll ≤ maxLen := Nat.le_trans h.locks.2.1 h.locks.2.2.1
  have m3 : dl ≤ maxLen := Nat.le_trans h.doubts.2.1 h.doubts.2.2.1
  unfold maxLen at m1 m2 m3
  have hT := fun w' k k' => sameTxns_any oa pa ol oc pc over w' k k'
  obtain ⟨W, hW⟩ : ∃ W : World, W = (w.alloc (.cells #[.slice ia il ic, .slice la ll lc, .slice da dl dc, .slice oa ol oc] 27)).alloc (.cells #[.slice ja il jc, .slice ma ll mc, .slice ea dl ec, .slice pa ol pc] 27) := ⟨_, rfl⟩
  have hB : Below w.heap.size w W := by rw [hW]; exact ((Below.refl _ _).alloc (Nat.le_refl _) _).alloc (by simp) _
  have zW : W.heap.size = w.heap.size + 2 := by rw [hW]; simp
  have z0 : w.heap.size < W.heap.size := by omega
  have z1 : w.heap.size + 1 < W.heap.size := by omega
  clear zW
  have c0 : W.cell? ⟨w.heap.size, 0, none⟩ = some (.slice ia il ic) := by rw [hW]; go_simp
  have d0 : W.cell? ⟨w.heap.size + 1, 0, none⟩ = some (.slice ja il jc) := by rw [hW]; go_simp
  have c1 : W.cell? ⟨w.heap.size, 1, none⟩ = some (.slice la ll lc) := by rw [hW]; go_simp
  have d1 : W.cell? ⟨w.heap.size + 1, 1, none⟩ = some (.slice ma ll mc) := by rw [hW]; go_simp
  have c2 : W.cell? ⟨w.heap.size, 2, none⟩ = some (.slice da dl dc) := by rw [hW]; go_simp
  have d2 : W.cell? ⟨w.heap.size + 1, 2, none⟩ = some (.slice ea dl ec) := by rw [hW]; go_simp
  have c3 : W.cell? ⟨w.heap.size, 3, none⟩ = some (.slice oa ol oc) := by rw [hW]; go_simp
  have d3 : W.cell? ⟨w.heap.size + 1, 3, none⟩ = some (.slice pa ol pc) := by rw [hW]; go_simp
  have KA : Hid (∀ U : World, Below W.heap.size W U → U.cell? ⟨w.heap.size, 0, none⟩ = some (.slice ia il ic) ∧ U.cell? ⟨w.heap.size + 1, 0, none⟩ = some (.slice ja il jc) ∧ U.cell? ⟨w.heap.size, 1, none⟩ = some (.slice la ll lc) ∧ U.cell? ⟨w.heap.size + 1, 1, none⟩ = some (.slice ma ll mc) ∧ U.cell? ⟨w.heap.size, 2, none⟩ = some (.slice da dl dc) ∧ U.cell? ⟨w.heap.size + 1, 2, none⟩ = some (.slice ea dl ec) ∧ U.cell? ⟨w.heap.size, 3, none⟩ = some (.slice oa ol oc) ∧ U.cell? ⟨w.heap.size + 1, 3, none⟩ = some (.slice pa ol pc)) := fun U hU => ⟨(hU.cell (p := ⟨w.heap.size, 0, none⟩) z0).trans c0, (hU.cell (p := ⟨w.heap.size + 1, 0, none⟩) z1).trans d0, (hU.cell (p := ⟨w.heap.size, 1, none⟩) z0).trans c1, (hU.cell (p := ⟨w.heap.size + 1, 1, none⟩) z1).trans d1, (hU.cell (p := ⟨w.heap.size, 2, none⟩) z0).trans c2, (hU.cell (p := ⟨w.heap.size + 1, 2, none⟩) z1).trans d2, (hU.cell (p := ⟨w.heap.size, 3, none⟩) z0).trans c3, (hU.cell (p := ⟨w.heap.size + 1, 3, none⟩) z1).trans d3⟩
  have HS : Hid (∀ U, Below W.heap.size W U → IsStore U ⟨ia, il, ic, la, ll, lc, da, dl, dc, oa, ol, oc, items, locks, doubts, over⟩) := fun U hU => (h.below hB).below hU
  have HS' : Hid (∀ U, Below W.heap.size W U → IsStore U ⟨ja, il, jc, ma, ll, mc, ea, dl, ec, pa, ol, pc, items, locks, doubts, over⟩) := fun U hU => (h'.below hB).below hU
  have ho := (h.below hB).over
  have ho' := (h'.below hB).over
  simp only [] at ho ho'
  clear h h'
  go_enter Try.func12, Try.ntmps12
  go_upto_region 1 with (fail)
  rw [← hW]
  clear hW
  go_upto_region 3 with (go_at_call 34; refine (hT _ ho ho').mono ?_; rintro e w1 ⟨rfl, hb0⟩)
  go_wp2
  clear c0 c1 c2 c3 d0 d1 d2 d3 ho ho' hT
  go_loopw [5] (fun i wr => ∃ k : Nat, k ≤ il ∧ i = .int .i64 k ∧ Below W.heap.size W wr) (fun i _ => il - (intOf i).toNat)
  case atStart => exact ⟨0, Nat.zero_le _, rfl, hb0⟩
  case round =>
    obtain ⟨k, hk, rfl, hb⟩ := hrel
    obtain ⟨c0, d0, c1, d1, c2, d2, c3, d3⟩ := KA.out _ hb
    by_cases hlt : k < il
    · have hlt' : (k : Int) < (il : Int) := by omega
      obtain ⟨b1, o1, rfl, _, k1⟩ := (HS.out _ hb).items.2.2.2.2 (by show 0 < il; omega)
      obtain ⟨b2, o2, rfl, _, k2⟩ := (HS'.out _ hb).items.2.2.2.2 (by show 0 < il; omega)
      have e1 := k1 k hlt
      have e2 := k2 k hlt
      simp only [] at e1 e2
      obtain ⟨z, hz⟩ : ∃ z, z = items.getD k default := ⟨_, rfl⟩
      rw [← hz] at e1 e2
      clear hz k1 k2
      obtain ⟨q0, q1, q2⟩ := z
      have x0 := e1 0 (by decide)
      have y0 := e2 0 (by decide)
      have x1 := e1 1 (by decide)
      have y1 := e2 1 (by decide)
      have x2 := e1 2 (by decide)
      have y2 := e2 2 (by decide)
      simp only [ItV.cells, List.getElem?_cons_zero, List.getElem?_cons_succ, Nat.add_zero] at x0 y0 x1 y1 x2 y2
      clear e1 e2
      go_wp2
      go_quiet (fail)
      go_wp2
      go_roundw
      case rel => exact ⟨k + 1, by omega, by go_num, below_drewN hb nq⟩
      case measure => simp [intOf]; omega
    · have hb1 := hb
      go_wp2
      clear c0 c1 c2 c3 d0 d1 d2 d3 hlt hb hk
      go_loopw [6] (fun i wr => ∃ k : Nat, k ≤ ll ∧ i = .int .i64 k ∧ Below W.heap.size W wr) (fun i _ => ll - (intOf i).toNat)
      case atStart => exact ⟨0, Nat.zero_le _, rfl, hb1⟩
      case round =>
        obtain ⟨k, hk, rfl, hb⟩ := hrel
        obtain ⟨c0, d0, c1, d1, c2, d2, c3, d3⟩ := KA.out _ hb
        by_cases hlt : k < ll
        · have hlt' : (k : Int) < (ll : Int) := by omega
          obtain ⟨b1, o1, rfl, _, k1⟩ := (HS.out _ hb).locks.2.2.2.2 (by show 0 < ll; omega)
          obtain ⟨b2, o2, rfl, _, k2⟩ := (HS'.out _ hb).locks.2.2.2.2 (by show 0 < ll; omega)
          have e1 := k1 k hlt
          have e2 := k2 k hlt
          simp only [] at e1 e2
          obtain ⟨z, hz⟩ : ∃ z, z = locks.getD k default := ⟨_, rfl⟩
          rw [← hz] at e1 e2
          clear hz k1 k2
          obtain ⟨⟨q0, q1⟩, q2, q3, q4, q5⟩ := z
          have x0 := e1 0 (by decide)
          have y0 := e2 0 (by decide)
          have x1 := e1 1 (by decide)
          have y1 := e2 1 (by decide)
          have x2 := e1 2 (by decide)
          have y2 := e2 2 (by decide)
          have x3 := e1 3 (by decide)
          have y3 := e2 3 (by decide)
          have x4 := e1 4 (by decide)
          have y4 := e2 4 (by decide)
          have x5 := e1 5 (by decide)
          have y5 := e2 5 (by decide)
          simp only [LkV.cells, List.getElem?_cons_zero, List.getElem?_cons_succ, Nat.add_zero] at x0 y0 x1 y1 x2 y2 x3 y3 x4 y4 x5 y5
          clear e1 e2
          go_wp2
          go_quiet (fail)
          go_wp2
          go_roundw
          case rel => exact ⟨k + 1, by omega, by go_num, below_drewN hb nq⟩
          case measure => simp [intOf]; omega
        · have hb2 := hb
          go_wp2
          clear c0 c1 c2 c3 d0 d1 d2 d3 hlt hb hk
          go_loopw [7] (fun i wr => ∃ k : Nat, k ≤ dl ∧ i = .int .i64 k ∧ Below W.heap.size W wr) (fun i _ => dl - (intOf i).toNat)
          case atStart => exact ⟨0, Nat.zero_le _, rfl, hb2⟩
          case round =>
            obtain ⟨k, hk, rfl, hb⟩ := hrel
            obtain ⟨c0, d0, c1, d1, c2, d2, c3, d3⟩ := KA.out _ hb
            by_cases hlt : k < dl
            · have hlt' : (k : Int) < (dl : Int) := by omega
              obtain ⟨b1, o1, rfl, _, k1⟩ := (HS.out _ hb).doubts.2.2.2.2 (by show 0 < dl; omega)
              obtain ⟨b2, o2, rfl, _, k2⟩ := (HS'.out _ hb).doubts.2.2.2.2 (by show 0 < dl; omega)
              have e1 := k1 k hlt
              have e2 := k2 k hlt
              simp only [] at e1 e2
              obtain ⟨z, hz⟩ : ∃ z, z = doubts.getD k default := ⟨_, rfl⟩
              rw [← hz] at e1 e2
              clear hz k1 k2
              obtain ⟨⟨q0, q1⟩, q2⟩ := z
              have x0 := e1 0 (by decide)
              have y0 := e2 0 (by decide)
              have x1 := e1 1 (by decide)
              have y1 := e2 1 (by decide)
              have x2 := e1 2 (by decide)
              have y2 := e2 2 (by decide)
              simp only [DbV.cells, List.getElem?_cons_zero, List.getElem?_cons_succ, Nat.add_zero] at x0 y0 x1 y1 x2 y2
              clear e1 e2
              go_wp2
              go_quiet (fail)
              go_wp2
              go_roundw
              case rel => exact ⟨k + 1, by omega, by go_num, below_drewN hb nq⟩
              case measure => simp [intOf]; omega
            · go_wp2
              go_ret
              exact ⟨rfl, hB.trans (hb.mono hB.size)⟩
end Go.Proofs.Ytbmbahifkegehaa.St
