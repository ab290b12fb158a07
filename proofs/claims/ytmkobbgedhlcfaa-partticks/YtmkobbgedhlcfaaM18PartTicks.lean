/- Texts of this claim, one behind the other. -/
import Derived.Test.YtmkobbgedhlcfaaM9PartTicks
import Derived.Deep.RegionLaw
import Derived.Test.YtmkobbgedhlcfaaM15PartTicks
import Derived.Test.YtmkobbgedhlcfaaM12PartTicks
import Derived.Test.YtmkobbgedhlcfaaM17PartTicks
/- The contract of the document's StoreCopy: the same, in memory of its own. -/
namespace Go.Proofs.Ytmkobbgedhlcfaa.St
open Go.ChangeShapes Go.WideShapes Go.ChangeAt Go.RowKit
set_option linter.unusedVariables false

/-- What a result's box is told does not touch what was made behind it. -/
theorem out_box {w W U : World} {n : Nat} {r : SV} (zle : n + 1 < W.heap.size) (hB : Below n w W) (h : OwnStore U W.heap.size r) (hb : Below W.heap.size W U) (p0 p1 p2 p3 : Value) :
    OwnStore ((((U.setCell ⟨n + 1, 0, none⟩ p0).setCell ⟨n + 1, 1, none⟩ p1).setCell ⟨n + 1, 2, none⟩ p2).setCell ⟨n + 1, 3, none⟩ p3) n r ∧ Below n w ((((U.setCell ⟨n + 1, 0, none⟩ p0).setCell ⟨n + 1, 1, none⟩ p1).setCell ⟨n + 1, 2, none⟩ p2).setCell ⟨n + 1, 3, none⟩ p3) := by
  refine ⟨OwnStore.base (B := W.heap.size) ((((h.box (p := ⟨n + 1, 0, none⟩) zle p0).box (p := ⟨n + 1, 1, none⟩) zle p1).box (p := ⟨n + 1, 2, none⟩) zle p2).box (p := ⟨n + 1, 3, none⟩) zle p3) (by omega), ?_⟩
  refine Below.setCell (Below.setCell (Below.setCell (Below.setCell (hB.trans (hb.mono (by omega))) ?_ _) ?_ _) ?_ _) ?_ _
  all_goals exact Nat.le_succ _

set_option maxRecDepth 100000 in
set_option maxHeartbeats 8000000 in
theorem storeCopy_any (s : SV) (w : World) (h : IsStore w s) (h1 : s.il * 24 ≤ 140737488351232) (h2 : s.ll * 48 ≤ 140737488351232) (h3 : s.dl * 24 ≤ 140737488351232) (h4 : s.ol * 16 ≤ 140737488351232) :
    Calls Try.prog 45 #[s.val] w fun e w' => ∃ r : SV, e = .returned r.val ∧ s.same r ∧ OwnStore w' w.heap.size r ∧ Below w.heap.size w w' := by
  obtain ⟨i1, E1⟩ := itElem
  obtain ⟨i2, E2⟩ := lkElem
  obtain ⟨i3, E3⟩ := dbElem
  obtain ⟨i4, E4⟩ := txElem
  have HI : Hid (s.items.length = s.il) := h.items.1
  have HL : Hid (s.locks.length = s.ll) := h.locks.1
  have HD : Hid (s.doubts.length = s.dl) := h.doubts.1
  have HO : Hid (s.over.length = s.ol) := h.over.1
  have mx1 := h.items.2.1
  have mx1' := h.items.2.2.1
  have mx2 := h.locks.2.1
  have mx2' := h.locks.2.2.1
  have mx3 := h.doubts.2.1
  have mx3' := h.doubts.2.2.1
  have mx4 := h.over.2.1
  have mx4' := h.over.2.2.1
  unfold maxLen at mx1' mx2' mx3' mx4'
  obtain ⟨ia, il, ic, la, ll, lc, da, dl, dc, oa, ol, oc, items, locks, doubts, over⟩ := s
  simp only [SV.val] at *
  obtain ⟨W, hW⟩ : ∃ W : World, W = ((w.alloc (.cells #[.slice ia il ic, .slice la ll lc, .slice da dl dc, .slice oa ol oc] 31)).alloc (.cells #[.slice none 0 0, .slice none 0 0, .slice none 0 0, .slice none 0 0] 31)) := ⟨_, rfl⟩
  have hB : Below w.heap.size w W := by rw [hW]; exact ((Below.refl _ _).alloc (Nat.le_refl _) _).alloc (by simp) _
  have hz : W.heap.size = w.heap.size + 2 := by rw [hW]; simp
  have HZ : Hid (W.heap.size = w.heap.size + 2) := hz
  have zle : w.heap.size + 1 < W.heap.size := by omega
  have z0 : w.heap.size < W.heap.size := by omega
  have hS := h.below hB
  have HS : Hid (∀ U, Below W.heap.size W U → IsStore U ⟨ia, il, ic, la, ll, lc, da, dl, dc, oa, ol, oc, items, locks, doubts, over⟩) := fun U hU => hS.below hU
  have d0 : W.cell? ⟨w.heap.size, 0, none⟩ = some (.slice ia il ic) := by rw [hW]; go_simp
  have d1 : W.cell? ⟨w.heap.size, 1, none⟩ = some (.slice la ll lc) := by rw [hW]; go_simp
  have d2 : W.cell? ⟨w.heap.size, 2, none⟩ = some (.slice da dl dc) := by rw [hW]; go_simp
  have d3 : W.cell? ⟨w.heap.size, 3, none⟩ = some (.slice oa ol oc) := by rw [hW]; go_simp
  have KD : Hid (∀ U : World, Below W.heap.size W U → U.cell? ⟨w.heap.size, 0, none⟩ = some (.slice ia il ic) ∧ U.cell? ⟨w.heap.size, 1, none⟩ = some (.slice la ll lc) ∧ U.cell? ⟨w.heap.size, 2, none⟩ = some (.slice da dl dc) ∧ U.cell? ⟨w.heap.size, 3, none⟩ = some (.slice oa ol oc)) := fun U hU =>
    ⟨(hU.cell (p := ⟨w.heap.size, 0, none⟩) z0).trans d0, (hU.cell (p := ⟨w.heap.size, 1, none⟩) z0).trans d1, (hU.cell (p := ⟨w.heap.size, 2, none⟩) z0).trans d2, (hU.cell (p := ⟨w.heap.size, 3, none⟩) z0).trans d3⟩
  have RB : BoxN W (w.heap.size + 1) 4 [.slice none 0 0, .slice none 0 0, .slice none 0 0, .slice none 0 0] := by
    rw [hW]
    have := boxn_new (w.alloc (.cells #[.slice ia il ic, .slice la ll lc, .slice da dl dc, .slice oa ol oc] 31)) #[.slice none 0 0, .slice none 0 0, .slice none 0 0, .slice none 0 0] 31 4 rfl
    simpa using this
  have HRB : Hid (∀ U, Below W.heap.size W U → BoxN U (w.heap.size + 1) 4 [.slice none 0 0, .slice none 0 0, .slice none 0 0, .slice none 0 0]) := fun U hU => RB.below hU zle
  obtain ⟨X, hX⟩ : ∃ X : World, X = W.alloc (.cells #[.slice none 0 0, .slice none 0 0, .slice none 0 0, .slice none 0 0] 31) := ⟨_, rfl⟩
  have hM0 : Made W X W.heap.size W.heap.size SV.nil := by
    have hb1 : Below W.heap.size W X := by rw [hX]; exact (Below.refl _ _).alloc (Nat.le_refl _) _
    refine Made.new (ownStore_nil W _) (Below.refl _ _) hb1 (Nat.le_refl _) ?_ (Nat.le_refl _)
    rw [hX]
    exact boxn_new W #[.slice none 0 0, .slice none 0 0, .slice none 0 0, .slice none 0 0] 31 4 rfl
  clear hS d0 d1 d2 d3 h mx1 mx2 mx3 mx4 RB
  go_enter Try.func45, Try.ntmps45
  go_upto_region 1 with (fail)
  rw [← hW]
  clear hW
  rw [show w.heap.size + 2 = W.heap.size from hz.symm] at *
  clear hz
  go_upto_region 2 with (fail)
  rw [← hX]
  clear hX
  go_wp2
  go_loopw [4] (fun i wr => ∃ (k : Nat) (a : Option Addr) (c : Nat), i = .int .i64 (k : Int) ∧ k ≤ il ∧ Made W wr W.heap.size W.heap.size ⟨a, k, c, none, 0, 0, none, 0, 0, none, 0, 0, (items.take k), [], [], []⟩) (fun i _ => il - (intOf i).toNat)
  case atStart => exact ⟨0, none, 0, rfl, Nat.zero_le _, hM0⟩
  case round =>
    obtain ⟨k, a, c, rfl, hk, hM⟩ := hrel
    obtain ⟨mz, x0, x1, x2, x3, f0, f1, f2, f3⟩ := hM.cells
    simp only [] at x0 x1 x2 x3
    obtain ⟨d0, d1, d2, d3⟩ := KD.out _ hM.bel
    by_cases hlt : k < il
    · have hlt' : (k : Int) < (il : Int) := by omega
      obtain ⟨b, off, rfl, zb, hc⟩ := (HS.out _ hM.bel).items.2.2.2.2 (by show 0 < il; omega)
      have hcells := hc k hlt
      have HT : Hid (items.take (k + 1) = items.take k ++ [items.getD k default]) := take_at (by rw [HI.out]; exact hlt)
      simp only [] at hcells
      obtain ⟨x, ex⟩ : ∃ x, x = items.getD k default := ⟨_, rfl⟩
      rw [← ex] at hcells HT
      clear ex hc
      obtain ⟨q0, q1, q2⟩ := x
      have e0 := hcells 0 (by decide)
      have e1 := hcells 1 (by decide)
      have e2 := hcells 2 (by decide)
      simp only [ItV.cells, List.getElem?_cons_zero, List.getElem?_cons_succ, Nat.add_zero] at e0 e1 e2
      clear hcells
      have zM := hM.bel.size
      go_upto_region 5 with (fail)
      go_region_law (first | (refine step_append_row E1 (by rfl) (.tmp 17) (.tmp 23) (by rfl) W.heap.size (.slice a k c) k (items.take k) (by rfl) (own_below hM.own.items (by (with_reducible repeat (first | exact Below.refl _ _ | refine nD ?_ | refine nA ?_ _)); done)) _ 1 1 [⟨q0, q1, q2⟩] (by rfl) (isOne _ _ _ _ rfl rfl) (by unfold maxLen; omega) (by omega) (by simp; omega) ?_; intro a5 c5 w5 own5 gr5 at5; obtain ⟨cl5, fz5, hM5⟩ := hM.put_items (by (with_reducible repeat (first | exact Below.refl _ _ | refine nD ?_ | refine nA ?_ _)); done) gr5 own5 at5; have z5 := hM5.box.lt; simp only [] at cl5))
      all_goals
        go_wp2
        go_roundw
        case rel => exact ⟨k + 1, a5, c5, by go_num, by omega, by rw [HT.out]; exact hM5⟩
        case measure => simp [intOf]; omega
    · obtain rfl : il = k := by omega
      rw [List.take_of_length_le (by rw [HI.out]; exact Nat.le_refl _)] at hM
      have hM1 := hM
      go_wp2
      clear x0 x1 x2 x3 f0 f1 f2 f3 d0 d1 d2 d3 mz hM
      obtain ⟨a0, ea0⟩ : ∃ a0, a0 = a := ⟨_, rfl⟩
      obtain ⟨c0, ec0⟩ : ∃ c0, c0 = c := ⟨_, rfl⟩
      rw [← ea0, ← ec0] at hM1
      clear ea0 ec0 hk
      go_loopw [5] (fun i wr => ∃ (k : Nat) (a : Option Addr) (c : Nat), i = .int .i64 (k : Int) ∧ k ≤ ll ∧ Made W wr W.heap.size W.heap.size ⟨a0, il, c0, a, k, c, none, 0, 0, none, 0, 0, items, (locks.take k), [], []⟩) (fun i _ => ll - (intOf i).toNat)
      case atStart => exact ⟨0, none, 0, rfl, Nat.zero_le _, hM1⟩
      case round =>
        obtain ⟨k, a, c, rfl, hk, hM⟩ := hrel
        obtain ⟨mz, x0, x1, x2, x3, f0, f1, f2, f3⟩ := hM.cells
        simp only [] at x0 x1 x2 x3
        obtain ⟨d0, d1, d2, d3⟩ := KD.out _ hM.bel
        by_cases hlt : k < ll
        · have hlt' : (k : Int) < (ll : Int) := by omega
          obtain ⟨b, off, rfl, zb, hc⟩ := (HS.out _ hM.bel).locks.2.2.2.2 (by show 0 < ll; omega)
          have hcells := hc k hlt
          have HT : Hid (locks.take (k + 1) = locks.take k ++ [locks.getD k default]) := take_at (by rw [HL.out]; exact hlt)
          simp only [] at hcells
          obtain ⟨x, ex⟩ : ∃ x, x = locks.getD k default := ⟨_, rfl⟩
          rw [← ex] at hcells HT
          clear ex hc
          obtain ⟨⟨q0, q1⟩, q2, q3, q4, q5⟩ := x
          have e0 := hcells 0 (by decide)
          have e1 := hcells 1 (by decide)
          have e2 := hcells 2 (by decide)
          have e3 := hcells 3 (by decide)
          have e4 := hcells 4 (by decide)
          have e5 := hcells 5 (by decide)
          simp only [LkV.cells, List.getElem?_cons_zero, List.getElem?_cons_succ, Nat.add_zero] at e0 e1 e2 e3 e4 e5
          clear hcells
          have zM := hM.bel.size
          go_upto_region 9 with (fail)
          go_region_law (first | (refine step_append_row E2 (by rfl) (.tmp 34) (.tmp 40) (by rfl) W.heap.size (.slice a k c) k (locks.take k) (by rfl) (own_below hM.own.locks (by (with_reducible repeat (first | exact Below.refl _ _ | refine nD ?_ | refine nA ?_ _)); done)) _ 1 1 [⟨(q0, q1), q2, q3, q4, q5⟩] (by rfl) (isOne _ _ _ _ rfl rfl) (by unfold maxLen; omega) (by omega) (by simp; omega) ?_; intro a5 c5 w5 own5 gr5 at5; obtain ⟨cl5, fz5, hM5⟩ := hM.put_locks (by (with_reducible repeat (first | exact Below.refl _ _ | refine nD ?_ | refine nA ?_ _)); done) gr5 own5 at5; have z5 := hM5.box.lt; simp only [] at cl5))
          all_goals
            go_wp2
            go_roundw
            case rel => exact ⟨k + 1, a5, c5, by go_num, by omega, by rw [HT.out]; exact hM5⟩
            case measure => simp [intOf]; omega
        · obtain rfl : ll = k := by omega
          rw [List.take_of_length_le (by rw [HL.out]; exact Nat.le_refl _)] at hM
          have hM2 := hM
          go_wp2
          clear x0 x1 x2 x3 f0 f1 f2 f3 d0 d1 d2 d3 mz hM
          obtain ⟨a1, ea1⟩ : ∃ a1, a1 = a := ⟨_, rfl⟩
          obtain ⟨c1, ec1⟩ : ∃ c1, c1 = c := ⟨_, rfl⟩
          rw [← ea1, ← ec1] at hM2
          clear ea1 ec1 hk
          go_loopw [6] (fun i wr => ∃ (k : Nat) (a : Option Addr) (c : Nat), i = .int .i64 (k : Int) ∧ k ≤ dl ∧ Made W wr W.heap.size W.heap.size ⟨a0, il, c0, a1, ll, c1, a, k, c, none, 0, 0, items, locks, (doubts.take k), []⟩) (fun i _ => dl - (intOf i).toNat)
          case atStart => exact ⟨0, none, 0, rfl, Nat.zero_le _, hM2⟩
          case round =>
            obtain ⟨k, a, c, rfl, hk, hM⟩ := hrel
            obtain ⟨mz, x0, x1, x2, x3, f0, f1, f2, f3⟩ := hM.cells
            simp only [] at x0 x1 x2 x3
            obtain ⟨d0, d1, d2, d3⟩ := KD.out _ hM.bel
            by_cases hlt : k < dl
            · have hlt' : (k : Int) < (dl : Int) := by omega
              obtain ⟨b, off, rfl, zb, hc⟩ := (HS.out _ hM.bel).doubts.2.2.2.2 (by show 0 < dl; omega)
              have hcells := hc k hlt
              have HT : Hid (doubts.take (k + 1) = doubts.take k ++ [doubts.getD k default]) := take_at (by rw [HD.out]; exact hlt)
              simp only [] at hcells
              obtain ⟨x, ex⟩ : ∃ x, x = doubts.getD k default := ⟨_, rfl⟩
              rw [← ex] at hcells HT
              clear ex hc
              obtain ⟨⟨q0, q1⟩, q2⟩ := x
              have e0 := hcells 0 (by decide)
              have e1 := hcells 1 (by decide)
              have e2 := hcells 2 (by decide)
              simp only [DbV.cells, List.getElem?_cons_zero, List.getElem?_cons_succ, Nat.add_zero] at e0 e1 e2
              clear hcells
              have zM := hM.bel.size
              go_upto_region 13 with (fail)
              go_region_law (first | (refine step_append_row E3 (by rfl) (.tmp 51) (.tmp 57) (by rfl) W.heap.size (.slice a k c) k (doubts.take k) (by rfl) (own_below hM.own.doubts (by (with_reducible repeat (first | exact Below.refl _ _ | refine nD ?_ | refine nA ?_ _)); done)) _ 1 1 [⟨(q0, q1), q2⟩] (by rfl) (isOne _ _ _ _ rfl rfl) (by unfold maxLen; omega) (by omega) (by simp; omega) ?_; intro a5 c5 w5 own5 gr5 at5; obtain ⟨cl5, fz5, hM5⟩ := hM.put_doubts (by (with_reducible repeat (first | exact Below.refl _ _ | refine nD ?_ | refine nA ?_ _)); done) gr5 own5 at5; have z5 := hM5.box.lt; simp only [] at cl5))
              all_goals
                go_wp2
                go_roundw
                case rel => exact ⟨k + 1, a5, c5, by go_num, by omega, by rw [HT.out]; exact hM5⟩
                case measure => simp [intOf]; omega
            · obtain rfl : dl = k := by omega
              rw [List.take_of_length_le (by rw [HD.out]; exact Nat.le_refl _)] at hM
              have hM3 := hM
              go_wp2
              clear x0 x1 x2 x3 f0 f1 f2 f3 d0 d1 d2 d3 mz hM
              obtain ⟨a2, ea2⟩ : ∃ a2, a2 = a := ⟨_, rfl⟩
              obtain ⟨c2, ec2⟩ : ∃ c2, c2 = c := ⟨_, rfl⟩
              rw [← ea2, ← ec2] at hM3
              clear ea2 ec2 hk
              go_loopw [7] (fun i wr => ∃ (k : Nat) (a : Option Addr) (c : Nat), i = .int .i64 (k : Int) ∧ k ≤ ol ∧ Made W wr W.heap.size W.heap.size ⟨a0, il, c0, a1, ll, c1, a2, dl, c2, a, k, c, items, locks, doubts, (over.take k)⟩) (fun i _ => ol - (intOf i).toNat)
              case atStart => exact ⟨0, none, 0, rfl, Nat.zero_le _, hM3⟩
              case round =>
                obtain ⟨k, a, c, rfl, hk, hM⟩ := hrel
                obtain ⟨mz, x0, x1, x2, x3, f0, f1, f2, f3⟩ := hM.cells
                simp only [] at x0 x1 x2 x3
                obtain ⟨d0, d1, d2, d3⟩ := KD.out _ hM.bel
                by_cases hlt : k < ol
                · have hlt' : (k : Int) < (ol : Int) := by omega
                  obtain ⟨b, off, rfl, zb, hc⟩ := (HS.out _ hM.bel).over.2.2.2.2 (by show 0 < ol; omega)
                  have hcells := hc k hlt
                  have HT : Hid (over.take (k + 1) = over.take k ++ [over.getD k default]) := take_at (by rw [HO.out]; exact hlt)
                  simp only [] at hcells
                  obtain ⟨x, ex⟩ : ∃ x, x = over.getD k default := ⟨_, rfl⟩
                  rw [← ex] at hcells HT
                  clear ex hc
                  obtain ⟨q0, q1⟩ := x
                  have e0 := hcells 0 (by decide)
                  have e1 := hcells 1 (by decide)
                  simp only [txCells, List.getElem?_cons_zero, List.getElem?_cons_succ, Nat.add_zero] at e0 e1
                  clear hcells
                  have zM := hM.bel.size
                  go_upto_region 17 with (fail)
                  go_region_law (first | (refine step_append_row E4 (by rfl) (.tmp 68) (.tmp 74) (by rfl) W.heap.size (.slice a k c) k (over.take k) (by rfl) (own_below hM.own.over (by (with_reducible repeat (first | exact Below.refl _ _ | refine nD ?_ | refine nA ?_ _)); done)) _ 1 1 [(q0, q1)] (by rfl) (isOne _ _ _ _ rfl rfl) (by unfold maxLen; omega) (by omega) (by simp; omega) ?_; intro a5 c5 w5 own5 gr5 at5; obtain ⟨cl5, fz5, hM5⟩ := hM.put_over (by (with_reducible repeat (first | exact Below.refl _ _ | refine nD ?_ | refine nA ?_ _)); done) gr5 own5 at5; have z5 := hM5.box.lt; simp only [] at cl5))
                  all_goals
                    go_wp2
                    go_roundw
                    case rel => exact ⟨k + 1, a5, c5, by go_num, by omega, by rw [HT.out]; exact hM5⟩
                    case measure => simp [intOf]; omega
                · obtain rfl : ol = k := by omega
                  rw [List.take_of_length_le (by rw [HO.out]; exact Nat.le_refl _)] at hM
                  have hM4 := hM
                  skip
                  have rb := HRB.out _ hM4.bel
                  have r0 := (rb.c 0 (by decide)).1
                  have g0 := (rb.c 0 (by decide)).2
                  have z0 := (hM4.box.c 0 (by decide)).1
                  have r1 := (rb.c 1 (by decide)).1
                  have g1 := (rb.c 1 (by decide)).2
                  have z1 := (hM4.box.c 1 (by decide)).1
                  have r2 := (rb.c 2 (by decide)).1
                  have g2 := (rb.c 2 (by decide)).2
                  have z2 := (hM4.box.c 2 (by decide)).1
                  have r3 := (rb.c 3 (by decide)).1
                  have g3 := (rb.c 3 (by decide)).2
                  have z3 := (hM4.box.c 3 (by decide)).1
                  simp only [SV.box, List.getD_cons_zero, List.getD_cons_succ] at r0 r1 r2 r3 z0 z1 z2 z3
                  have mz := hM4.box.lt
                  have rz := rb.lt
                  go_wp2
                  refine bodyPost_ret (v := .agg #[.slice a0 il c0, .slice a1 ll c1, .slice a2 dl c2, .slice a ol c]) (by simp [results, Try.results45, go_sem, r0, r1, r2, r3]) rfl ?_
                  obtain ⟨t1, t2⟩ := out_box zle hB hM4.own hM4.bel (.slice a0 il c0) (.slice a1 ll c1) (.slice a2 dl c2) (.slice a ol c)
                  exact ⟨⟨a0, il, c0, a1, ll, c1, a2, dl, c2, a, ol, c, items, locks, doubts, over⟩, rfl, ⟨rfl, rfl, rfl, rfl, rfl, rfl, rfl, rfl⟩, t1, t2⟩
end Go.Proofs.Ytmkobbgedhlcfaa.St
/- The contract of the document's AgeOf. -/
namespace Go.Proofs.Ytmkobbgedhlcfaa.St
open Go.ChangeShapes Go.WideShapes Go.ChangeAt Go.RowKit
set_option linter.unusedVariables false

set_option maxRecDepth 100000 in
set_option maxHeartbeats 8000000 in
theorem ageRef_any_at (s : SV) (p : Int) (w : World) (h : IsStore w s) (h4 : s.ol * 16 ≤ 140737488351232) :
    Calls Try.prog 22 #[s.val, .int .i64 p] w fun e w' => ∃ (r : SV) (ta : Option Addr) (tc : Nat), e = .returned (.tuple #[r.val, .slice ta (ageTold s p).length tc, .int .i64 (ageErr s p)]) ∧ OwnStore w' w.heap.size r ∧ r.data = ageData s p ∧ IsTxns w' ta (ageTold s p).length tc (ageTold s p) ∧ Below w.heap.size w w' ∧ (∀ b off, ta = some ⟨b, off, none⟩ → w.heap.size ≤ b ∧ b < w'.heap.size) := by
  obtain ⟨i4, E4⟩ := txElem
  have hC := fun w' h1 => storeMay_any s w' h1
  have hOwn := fun w' h1 k1 k2 k3 => storeCopy_any s w' h1 k1 k2 k3 h4
  have hPre := pre_of w s h
  have hok : storeOK s = true → (s.il ≤ 8 ∧ s.ll ≤ 24 ∧ s.dl ≤ 24) ∧ ∀ i, i < s.dl → 0 ≤ (s.doubts.getD i default).age ∧ (s.doubts.getD i default).age ≤ 1048576 := fun e => ⟨ok_sizes e h, fun i hi => ok_ages e _ (getD_mem (by rw [h.doubts.1]; exact hi))⟩
  obtain ⟨E, e6⟩ : ∃ R : Int, R = ageErr s p := ⟨_, rfl⟩
  obtain ⟨D, e7⟩ : ∃ R, R = ageData s p := ⟨_, rfl⟩
  obtain ⟨T, e8⟩ : ∃ R, R = ageTold s p := ⟨_, rfl⟩
  obtain ⟨S, e9⟩ : ∃ R, R = storeOK s := ⟨_, rfl⟩
  obtain ⟨Q, e10⟩ : ∃ R, R = inR p 1 1048576 := ⟨_, rfl⟩
  have eE : Hid (E = if S then (if Q then 0 else 2) else 9) := by rw [e9, e10]; exact e6
  have eD : Hid (D = if E = 0 then ⟨s.items, s.locks, s.doubts.map (agedD p), s.over⟩ else PS.nil) := by rw [e6]; exact e7
  have eT : Hid (T = if E = 0 then toldT p s.doubts else []) := by rw [e6]; exact e8
  rw [← e6, ← e7, ← e8]
  rw [← e9] at hC hok
  replace e10 := e10.symm
  clear e6 e7 e8 e9
  have HD : Hid (s.doubts.length = s.dl) := h.doubts.1
  obtain ⟨ia, il, ic, la, ll, lc, da, dl, dc, oa, ol, oc, items, locks, doubts, over⟩ := s
  simp only [SV.val] at *
  obtain ⟨W, hW⟩ : ∃ W : World, W = (w.alloc (.cells #[.slice ia il ic, .slice la ll lc, .slice da dl dc, .slice oa ol oc] 31)).alloc (.cells #[.slice none 0 0, .slice none 0 0, .slice none 0 0, .slice none 0 0] 31) := ⟨_, rfl⟩
  rw [← hW] at hPre
  have HP : Hid (Pre w W ⟨ia, il, ic, la, ll, lc, da, dl, dc, oa, ol, oc, items, locks, doubts, over⟩) := hPre
  obtain ⟨d0, d1, d2, d3⟩ := hPre.cells _ (Below.refl _ _)
  simp only [] at d0 d1 d2 d3
  have hSW := hPre.st
  clear hPre h
  go_enter Try.func22, Try.ntmps22
  go_upto_region 1 with (fail)
  rw [← hW]
  clear hW
  cases S with
  | false =>
    try simp only [Bool.false_eq_true, ↓reduceIte] at hC
    go_wp2_with (first | (go_at_call 44; refine (hC _ hSW).mono ?_; rintro e w1 ⟨rfl, hb1⟩; have hS1 := hSW.below hb1; clear d0 d1 d2 d3; obtain ⟨d0, d1, d2, d3⟩ := HP.out.cells _ hb1; simp only [] at d0 d1 d2 d3; obtain ⟨⟨rz, r0, r1, r2, r3⟩, g0, g1, g2, g3⟩ := HP.out.out _ hb1) | (go_at_call 43; refine (in_any _ _ _ _).mono ?_; rintro e u ⟨rfl, hu⟩; rw [hu, e10]; clear hu))
    refine bodyPost_ret (v := .tuple #[.agg #[.slice none 0 0, .slice none 0 0, .slice none 0 0, .slice none 0 0], .slice none 0 0, .int .i64 9]) (by simp [results, Try.results22, go_sem, r0, r1, r2, r3]) rfl ?_
    obtain ⟨t1, t2⟩ := HP.out.done (r := SV.nil) hb1 (isStore_nil _) (fun b off e => by simp [SV.nil] at e) (.slice none 0 0) (.slice none 0 0) (.slice none 0 0) (.slice none 0 0)
    have hE : E = 9 := by rw [eE.out]; rfl
    have hT : T = [] := by rw [eT.out, hE]; rfl
    have hD : D = PS.nil := by rw [eD.out, hE]; rfl
    rw [hE, hT, hD]
    exact ⟨SV.nil, none, 0, rfl, ownStore_nil _ _, rfl, isRow_nil _ _ _, t2, fun b off e => by cases e⟩
  | true =>
  try simp only [↓reduceIte] at hC
  obtain ⟨⟨q1, q2, q3⟩, hag⟩ := hok rfl
  try simp only [] at q1 q2 q3
  cases Q with
  | false =>
    go_wp2_with (first | (go_at_call 44; refine (hC _ hSW).mono ?_; rintro e w1 ⟨rfl, hb1⟩; have hS1 := hSW.below hb1; clear d0 d1 d2 d3; obtain ⟨d0, d1, d2, d3⟩ := HP.out.cells _ hb1; simp only [] at d0 d1 d2 d3; obtain ⟨⟨rz, r0, r1, r2, r3⟩, g0, g1, g2, g3⟩ := HP.out.out _ hb1) | (go_at_call 43; refine (in_any _ _ _ _).mono ?_; rintro e u ⟨rfl, hu⟩; rw [hu, e10]; clear hu))
    refine bodyPost_ret (v := .tuple #[.agg #[.slice none 0 0, .slice none 0 0, .slice none 0 0, .slice none 0 0], .slice none 0 0, .int .i64 2]) (by simp [results, Try.results22, go_sem, r0, r1, r2, r3]) rfl ?_
    obtain ⟨t1, t2⟩ := HP.out.done (r := SV.nil) hb1 (isStore_nil _) (fun b off e => by simp [SV.nil] at e) (.slice none 0 0) (.slice none 0 0) (.slice none 0 0) (.slice none 0 0)
    have hE : E = 2 := by rw [eE.out]; rfl
    have hT : T = [] := by rw [eT.out, hE]; rfl
    have hD : D = PS.nil := by rw [eD.out, hE]; rfl
    rw [hE, hT, hD]
    exact ⟨SV.nil, none, 0, rfl, ownStore_nil _ _, rfl, isRow_nil _ _ _, t2, fun b off e => by cases e⟩
  | true =>
    have hE : E = 0 := by rw [eE.out]; rfl
    have hT : T = toldT p doubts := by rw [eT.out, hE]; rfl
    have hD : D = ⟨items, locks, doubts.map (agedD p), over⟩ := by rw [eD.out, hE]; rfl
    have HF : Hid (E = 0 ∧ T = toldT p doubts ∧ D = ⟨items, locks, doubts.map (agedD p), over⟩) := ⟨hE, hT, hD⟩
    clear hT hD hE eE eT eD hok
    have HAG : Hid (∀ i, i < dl → 0 ≤ (doubts.getD i default).age ∧ (doubts.getD i default).age ≤ 1048576) := hag
    clear hag
    go_upto_region 6 with (first | (go_at_call 44; refine (hC _ hSW).mono ?_; rintro e w1 ⟨rfl, hb1⟩; have hS1 := hSW.below hb1; clear d0 d1 d2 d3; obtain ⟨d0, d1, d2, d3⟩ := HP.out.cells _ hb1; simp only [] at d0 d1 d2 d3; obtain ⟨⟨rz, r0, r1, r2, r3⟩, g0, g1, g2, g3⟩ := HP.out.out _ hb1) | (go_at_call 43; refine (in_any _ _ _ _).mono ?_; rintro e u ⟨rfl, hu⟩; rw [hu, e10]; clear hu) | (go_at_call 45; refine (hOwn _ hS1 (by omega) (by omega) (by omega)).mono ?_; rintro e w2 ⟨⟨a0, n0, c0, a1, n1, c1, a2, n2, c2, a3, n3, c3, items', locks', doubts', over'⟩, rfl, hsame, hown, hb2⟩; obtain ⟨v1, v2, v3, v4, v5, v6, v7, v8⟩ := hsame; simp only [] at v1 v2 v3 v4 v5 v6 v7 v8; obtain rfl := v1.symm; obtain rfl := v2.symm; obtain rfl := v3.symm; obtain rfl := v4.symm; obtain rfl := v5.symm; obtain rfl := v6.symm; obtain rfl := v7.symm; obtain rfl := v8.symm; simp only []))
    have hbW : Below W.heap.size W w2 := hb1.trans (hb2.mono hb1.size)
    obtain ⟨X, hX⟩ : ∃ X : World, X = w2.alloc (.cells #[.slice a0 il c0, .slice a1 ll c1, .slice a2 dl c2, .slice a3 ol c3] 31) := ⟨_, rfl⟩
    have hM0 : Made W X W.heap.size w2.heap.size ⟨a0, il, c0, a1, ll, c1, a2, dl, c2, a3, ol, c3, items, locks, doubts, over⟩ := by
      have hb3 : Below w2.heap.size w2 X := by rw [hX]; exact (Below.refl _ _).alloc (Nat.le_refl _) _
      refine Made.new (hown.base hb1.size) hbW hb3 (Nat.le_refl _) ?_ hbW.size
      rw [hX]
      exact boxn_new w2 #[.slice a0 il c0, .slice a1 ll c1, .slice a2 dl c2, .slice a3 ol c3] 31 4 rfl
    rw [← hX]
    clear hX hown hb2 hbW hOwn hC
    obtain ⟨m, em⟩ : ∃ m, m = w2.heap.size := ⟨_, rfl⟩
    rw [← em] at hM0 ⊢
    clear em hb1 d0 d1 d2 d3 r0 r1 r2 r3 g0 g1 g2 g3 rz hS1 hSW
    have U0 := hM0.under
    have HU : Hid (Under ⟨a0, il, c0, a1, ll, c1, a2, dl, c2, a3, ol, c3, items, locks, doubts, over⟩ m X.heap.size) := U0
    have zX := Nat.le_trans hM0.sz (Nat.le_refl _)
    clear U0
    obtain ⟨mz, x0, x1, x2, x3, f0, f1, f2, f3⟩ := hM0.cells
    simp only [] at x0 x1 x2 x3
    go_wp2
    clear x0 x1 x2 x3 f0 f1 f2 f3 mz
    go_loopw [9, 8] (fun i t wr => ∃ (k : Nat) (ta : Option Addr) (tc : Nat) (ts : List (Int × Int)), i = .int .i64 (k : Int) ∧ t = .slice ta ts.length tc ∧ k ≤ dl ∧ wr.ownsRow X.heap.size 43 2 (.slice ta ts.length tc) ts.length (flat txCells ts) ∧ Hid (ts = toldT p (doubts.take k)) ∧ ts.length ≤ k ∧ X.heap.size ≤ wr.heap.size ∧ Made W wr W.heap.size m ⟨a0, il, c0, a1, ll, c1, a2, dl, c2, a3, ol, c3, items, locks, ((doubts.take k).map (agedD p) ++ doubts.drop k), over⟩) (fun i _ _ => dl - (intOf i).toNat)
    case atStart => exact ⟨0, none, 0, [], rfl, rfl, Nat.zero_le _, World.ownsRow_nil _ _ _ _, rfl, Nat.le_refl _, Nat.le_refl _, hM0⟩
    case round =>
      obtain ⟨k, ta, tc, ts, rfl, rfl, hk, hto, hts, htk, zwr, hM⟩ := hrel
      obtain ⟨mz, x0, x1, x2, x3, f0, f1, f2, f3⟩ := hM.cells
      simp only [] at x0 x1 x2 x3
      by_cases hlt : k < dl
      · have hlt' : (k : Int) < (dl : Int) := by omega
        obtain ⟨g, off, rfl, _, _⟩ := hM.own.isStore.doubts.2.2.2.2 (by show 0 < dl; omega)
        have hkl : k < doubts.length := by rw [HD.out]; exact hlt
        have HMS : Hid (((doubts.take k).map (agedD p) ++ doubts.drop k).set k (agedD p (doubts.getD k default)) = (doubts.take (k + 1)).map (agedD p) ++ doubts.drop (k + 1)) := mid_set _ _ hkl
        have HTO : Hid (toldT p (doubts.take (k + 1)) = ts ++ (if p ≤ (doubts.getD k default).age + 1 then [(doubts.getD k default).t] else [])) := by rw [hts.out]; exact told_at p doubts hkl
        have HMG : Hid (((doubts.take k).map (agedD p) ++ doubts.drop k).getD k default = doubts.getD k default) := mid_get _ _ hkl
        have hag := HAG.out k hlt
        obtain ⟨d, ed⟩ : ∃ d, d = doubts.getD k default := ⟨_, rfl⟩
        rw [← ed] at HMS HTO HMG hag
        clear ed
        obtain ⟨⟨tsi, tnu⟩, ag⟩ := d
        simp only [] at hag HTO
        have HM1 : Hid (∀ v, Made W (wr.setCell ⟨g, k * 3 + 2, none⟩ (.int .i64 v)) W.heap.size m ⟨a0, il, c0, a1, ll, c1, some ⟨g, off, none⟩, dl, c2, a3, ol, c3, items, locks, ((doubts.take k).map (agedD p) ++ doubts.drop k).set k ⟨(tsi, tnu), v⟩, over⟩) := fun v => hM.cell_doubts (g := g) (off := off) rfl (i := k) (j := 2) hlt (by decide) (.int .i64 v) ⟨(tsi, tnu), v⟩ (by simp only []; rw [HMG.out]; rfl)
        obtain ⟨rfl, hCg, hgz, hgm, hcl, _⟩ := hM.one_doubts (g := g) (off := off) rfl hlt default
        simp only [] at hcl
        rw [HMG.out] at hcl
        have hgX : g < X.heap.size := HU.out.doubts g rfl
        have e0 := (hcl 0 (by decide)).2.2
        have e1 := (hcl 1 (by decide)).2.2
        have e2 := (hcl 2 (by decide)).2.2
        have h2' := (hcl 2 (by decide)).1
        simp only [DbV.cells, List.getElem?_cons_zero, List.getElem?_cons_succ, Nat.add_zero] at e0 e1 e2
        clear hcl
        have hwr : IntKind.i64.wrap (ag + 1) = ag + 1 := by apply wrap_in <;> omega
        by_cases hp : p ≤ ag + 1
        · have HTT : Hid (toldT p (doubts.take (k + 1)) = ts ++ [(tsi, tnu)]) := by show _ = _; rw [HTO.out, if_pos hp]
          have HMM : Hid (((doubts.take k).map (agedD p) ++ doubts.drop k).set k ⟨(tsi, tnu), 0⟩ = (doubts.take (k + 1)).map (agedD p) ++ doubts.drop (k + 1)) := by show _ = _; rw [← HMS.out]; simp [agedD, hp]
          clear HTO HMS
          obtain ⟨V0, hV0⟩ : ∃ V, V = wr.setCell ⟨g, k * 3 + 2, none⟩ (.int .i64 (ag + 1)) := ⟨_, rfl⟩
          have hM0' := HM1.out (ag + 1)
          rw [← hV0] at hM0'
          have to0 : V0.ownsRow X.heap.size 43 2 (.slice ta ts.length tc) ts.length (flat txCells ts) := by rw [hV0]; exact hto.kept (grown_setCell wr ⟨g, k * 3 + 2, none⟩ _) (ne_own (fun q e => (hto.lt q e).1) hgX)
          have zV0 : X.heap.size ≤ V0.heap.size := by rw [hV0]; simpa using zwr
          have HG1 : Hid ((((doubts.take k).map (agedD p) ++ doubts.drop k).set k ⟨(tsi, tnu), ag + 1⟩).getD k default = ⟨(tsi, tnu), ag + 1⟩) := set_getD _ _ _ (by simp; omega)
          have HSS : Hid ((((doubts.take k).map (agedD p) ++ doubts.drop k).set k ⟨(tsi, tnu), ag + 1⟩).set k ⟨(tsi, tnu), 0⟩ = ((doubts.take k).map (agedD p) ++ doubts.drop k).set k ⟨(tsi, tnu), 0⟩) := List.set_set ..
          go_upto_region 11 with (fail)
          rw [← hV0]
          clear hV0 e0 e1 e2 h2' x0 x1 x2 x3 f0 f1 f2 f3 mz
          obtain ⟨mz, x0, x1, x2, x3, f0, f1, f2, f3⟩ := hM0'.cells
          simp only [] at x0 x1 x2 x3
          obtain ⟨_, _, _, _, hcl, _⟩ := hM0'.one_doubts (g := g) (off := 0) rfl hlt default
          simp only [] at hcl
          rw [HG1.out] at hcl
          have e0 := (hcl 0 (by decide)).2.2
          have e1 := (hcl 1 (by decide)).2.2
          have e2 := (hcl 2 (by decide)).2.2
          have h2' := (hcl 2 (by decide)).1
          simp only [DbV.cells, List.getElem?_cons_zero, List.getElem?_cons_succ, Nat.add_zero] at e0 e1 e2
          clear hcl
          have hM1 := hM0'.cell_doubts (g := g) (off := 0) rfl (i := k) (j := 2) hlt (by decide) (.int .i64 0) ⟨(tsi, tnu), 0⟩ (by simp only []; rw [HG1.out]; rfl)
          simp only [] at hM1
          have HG2 : Hid ((((doubts.take k).map (agedD p) ++ doubts.drop k).set k ⟨(tsi, tnu), 0⟩).getD k default = ⟨(tsi, tnu), 0⟩) := set_getD _ _ _ (by simp; omega)
          rw [HSS.out] at hM1
          obtain ⟨V, hV⟩ : ∃ V, V = V0.setCell ⟨g, k * 3 + 2, none⟩ (.int .i64 0) := ⟨_, rfl⟩
          rw [← hV] at hM1
          have to1 : V.ownsRow X.heap.size 43 2 (.slice ta ts.length tc) ts.length (flat txCells ts) := by rw [hV]; exact to0.kept (grown_setCell V0 ⟨g, k * 3 + 2, none⟩ _) (ne_own (fun q e => (to0.lt q e).1) hgX)
          have zV : X.heap.size ≤ V.heap.size := by rw [hV]; simpa using zV0
          go_upto_region 13 with (fail)
          rw [← hV]
          clear hV e0 e1 e2 h2' x0 x1 x2 x3 f0 f1 f2 f3 mz
          obtain ⟨mz, x0, x1, x2, x3, f0, f1, f2, f3⟩ := hM1.cells
          simp only [] at x0 x1 x2 x3
          obtain ⟨_, _, _, _, hcl, _⟩ := hM1.one_doubts (g := g) (off := 0) rfl hlt default
          simp only [] at hcl
          rw [HG2.out] at hcl
          have e0 := (hcl 0 (by decide)).2.2
          have e1 := (hcl 1 (by decide)).2.2
          have e2 := (hcl 2 (by decide)).2.2
          simp only [DbV.cells, List.getElem?_cons_zero, List.getElem?_cons_succ, Nat.add_zero] at e0 e1 e2
          clear hcl
          go_upto_region 9 with (at_builtin; go_loud (refine wpList_append_row E4 (by rfl) _ _ (by rfl) X.heap.size (.slice ta ts.length tc) ts.length ts (by rfl) (own_below to1 ((Below.refl _ _).alloc (Nat.le_refl _) _)) _ 1 1 [(tsi, tnu)] (by rfl) (isOne _ _ _ _ rfl rfl) (by unfold maxLen; omega) (by omega) (by simp; omega) ?_; intro a5 c5 w5 own5 gr5 at5))
          have hM5 := (hM1.below ((Below.refl _ _).alloc (Nat.le_refl _) _)).aside (B := X.heap.size) ⟨HU.out.m, HU.out.items, HU.out.locks, HU.out.doubts, HU.out.over⟩ gr5 (fun q hq => (to1.lt q hq).1) zX
          rw [HMM.out] at hM5
          have z5 : X.heap.size ≤ w5.heap.size := Nat.le_trans (by simp; omega) gr5.size
          go_wp2
          go_roundw
          case rel =>
            have el : (ts ++ [(tsi, tnu)]).length = ts.length + 1 := by simp
            refine ⟨k + 1, a5, c5, ts ++ [(tsi, tnu)], by go_num, by rw [el], by omega, ?_, HTT.out.symm, by rw [el]; omega, z5, hM5⟩
            rw [el]
            exact own5
          case measure => simp [intOf]; omega
        · have HTT : Hid (toldT p (doubts.take (k + 1)) = ts) := by show _ = _; rw [HTO.out, if_neg hp]; simp
          have HMM : Hid (((doubts.take k).map (agedD p) ++ doubts.drop k).set k ⟨(tsi, tnu), ag + 1⟩ = (doubts.take (k + 1)).map (agedD p) ++ doubts.drop (k + 1)) := by show _ = _; rw [← HMS.out]; simp [agedD, hp]
          clear HTO HMS
          have hp' : ¬ p ≤ ag + 1 := hp
          go_wp2
          go_roundw
          case rel =>
            refine ⟨k + 1, ta, tc, ts, by go_num, rfl, by omega, ?_, HTT.out.symm, by omega, by simpa using zwr, ?_⟩
            · exact hto.kept (grown_setCell wr ⟨g, k * 3 + 2, none⟩ (.int .i64 (ag + 1))) (ne_own (fun q e => (hto.lt q e).1) hgX)
            · rw [← HMM.out]; exact HM1.out _
          case measure => simp [intOf]; omega
      · obtain rfl : dl = k := by omega
        obtain ⟨⟨rz, r0, r1, r2, r3⟩, g0, g1, g2, g3⟩ := HP.out.out _ hM.bel
        have HTW : Hid (doubts.take dl = doubts) := List.take_of_length_le (by rw [HD.out]; exact Nat.le_refl _)
        have HDW : Hid (doubts.drop dl = []) := List.drop_eq_nil_of_le (by rw [HD.out]; exact Nat.le_refl _)
        rw [HTW.out, HDW.out, List.append_nil] at hM
        rw [HTW.out] at hts
        go_wp2
        refine bodyPost_ret (v := .tuple #[.agg #[.slice a0 il c0, .slice a1 ll c1, .slice a2 dl c2, .slice a3 ol c3], .slice ta ts.length tc, .int .i64 0]) (by simp [results, Try.results22, go_sem, r0, r1, r2, r3]) rfl ?_
        obtain ⟨_, t1, t2⟩ := HP.out.made hM (.slice a0 il c0) (.slice a1 ll c1) (.slice a2 dl c2) (.slice a3 ol c3)
        obtain ⟨y1, y2, y3⟩ := HF.out
        rw [y1, y2, y3, ← hts.out]
        have z1 := HP.out.z1
        have hb : ∀ (U : World) (j : Nat) (v : Value), U.ownsRow X.heap.size 43 2 (.slice ta ts.length tc) ts.length (flat txCells ts) → (U.setCell ⟨w.heap.size + 1, j, none⟩ v).ownsRow X.heap.size 43 2 (.slice ta ts.length tc) ts.length (flat txCells ts) := fun U j v hh => ownsRow_setCell_below hh (by show w.heap.size + 1 < X.heap.size; omega) v
        have hT4 := own_isRow tx_len (hb _ 3 (.slice a3 ol c3) (hb _ 2 (.slice a2 dl c2) (hb _ 1 (.slice a1 ll c1) (hb _ 0 (.slice a0 il c0) hto)))) rfl
        have zX9 : w.heap.size ≤ X.heap.size := by omega
        exact ⟨⟨a0, il, c0, a1, ll, c1, a2, dl, c2, a3, ol, c3, items, locks, doubts.map (agedD p), over⟩, ta, tc, rfl, t1, rfl, hT4.1, t2, fun b off e => ⟨Nat.le_trans zX9 (hT4.2 b off e).1, (hT4.2 b off e).2⟩⟩
theorem ageRef_any_own (s : SV) (p : Int) (w : World) (h : IsStore w s) (h4 : s.ol * 16 ≤ 140737488351232) :
    Calls Try.prog 22 #[s.val, .int .i64 p] w fun e w' => ∃ (r : SV) (ta : Option Addr) (tc : Nat), e = .returned (.tuple #[r.val, .slice ta (ageTold s p).length tc, .int .i64 (ageErr s p)]) ∧ OwnStore w' w.heap.size r ∧ r.data = ageData s p ∧ IsTxns w' ta (ageTold s p).length tc (ageTold s p) ∧ Below w.heap.size w w' :=
  (ageRef_any_at s p w h h4).mono fun e w' ⟨r, ta, tc, q1, q2, q3, q4, q5, q6⟩ => ⟨r, ta, tc, q1, q2, q3, q4, q5⟩
theorem ageRef_any (s : SV) (p : Int) (w : World) (h : IsStore w s) (h4 : s.ol * 16 ≤ 140737488351232) :
    Calls Try.prog 22 #[s.val, .int .i64 p] w fun e w' => ∃ (r : SV) (ta : Option Addr) (tc : Nat), e = .returned (.tuple #[r.val, .slice ta (ageTold s p).length tc, .int .i64 (ageErr s p)]) ∧ IsStore w' r ∧ r.data = ageData s p ∧ IsTxns w' ta (ageTold s p).length tc (ageTold s p) ∧ Below w.heap.size w w' :=
  (ageRef_any_own s p w h h4).mono fun e w' ⟨r, ta, tc, q1, q2, q3⟩ => ⟨r, ta, tc, q1, q2.isStore, q3⟩
end Go.Proofs.Ytmkobbgedhlcfaa.St
/- The contract of the document's PartTicked. -/
namespace Go.Proofs.Ytmkobbgedhlcfaa.Pt
open Go.ChangeShapes Go.WideShapes Go.ChangeAt Go.RowKit
open Go.Proofs.Ytmkobbgedhlcfaa.St (SV PS IsStore IsRow storeOK TxWf BoxN boxn_new ageErr ageData ageTold toldT IsTxns OwnStore flat Elem isOne grown_setCell own_below own_isRow ne_own isRow_nil)
set_option linter.unusedVariables false

theorem dbR_tx {ls : List St.LkV} {ov : List (Int × Int)} : ∀ (l seen : List St.DbV), St.dbR ls ov seen l = true → ∀ d ∈ l, St.txOK d.t = true
  | [], _, _, d, hd => by cases hd
  | x :: r, seen, h, d, hd => by
    simp only [St.dbR, Bool.and_eq_true] at h
    rcases List.mem_cons.1 hd with rfl | hd
    · exact h.1.1.1.1.1
    · exact dbR_tx r _ h.2 d hd
theorem doubt_site {s : SV} (h : storeOK s = true) (d : St.DbV) (hd : d ∈ s.doubts) : 0 ≤ d.t.1 := by
  rw [← St.ref_is] at h
  simp only [St.refOK, Bool.and_eq_true] at h
  have := dbR_tx _ _ h.1.2 d hd
  simp only [St.txOK, Bool.and_eq_true] at this
  exact (St.inR_of this.1).1

set_option maxRecDepth 100000 in
set_option maxHeartbeats 8000000 in
theorem ticked_any (s p : Int) (a : Option Addr) (len cap : Nat) (ls : List (Int × Int)) (l me : Int) (sa : Option Addr) (n sc : Nat) (ss : List SV) (w : World) (hl : IsLabs w a len cap ls) (hS : IsStores w sa n sc ss) (hov : ∀ i, i < n → (ss.getD i default).ol * 16 ≤ 140737488351232) :
    Calls Try.prog 8 #[.agg #[.int .i64 s, .slice a len cap, .int .i64 p], .int .i64 l, .int .i64 me, .slice sa n sc] w fun e w' => ∃ v : AnsV, e = .returned (.tuple #[v.val, .int .i64 (siteErr s ls p l me n ss)]) ∧ IsAns w' v ∧ v.data = tickD s ls p l me n ss ∧ Below w.heap.size w w' ∧ v.far w.heap.size := by
  obtain ⟨iM, EM⟩ := msElem
  have hRf := fun w' h1 h2 => siteFault_any s p a len cap ls l me sa n sc ss w' h1 h2
  have hok := fun h => site_ok (s := s) (ls := ls) (p := p) (l := l) (me := me) (n := n) (ss := ss) h hS.row.1
  have HD : Hid (tickD s ls p l me n ss = if siteErr s ls p l me n ss = 0 then ⟨ageData (ss.getD l.toNat default) p, tickMsgs s me (ageTold (ss.getD l.toNat default) p), [], []⟩ else AD.nil) := rfl
  obtain ⟨TD, eTD⟩ : ∃ x, x = tickD s ls p l me n ss := ⟨_, rfl⟩
  rw [← eTD] at HD ⊢
  clear eTD
  obtain ⟨E, eE⟩ : ∃ x, x = siteErr s ls p l me n ss := ⟨_, rfl⟩
  rw [← eE] at hRf hok HD ⊢
  clear eE
  obtain ⟨W, hW⟩ : ∃ W : World, W = (w.alloc (.cells #[.int .i64 s, .slice a len cap, .int .i64 p] 24)).alloc (.cells #[.slice none 0 0, .slice none 0 0, .slice none 0 0, .slice none 0 0, .slice none 0 0, .slice none 0 0, .slice none 0 0] 36) := ⟨_, rfl⟩
  have hB : Below w.heap.size w W := by rw [hW]; exact ((Below.refl _ _).alloc (Nat.le_refl _) _).alloc (by simp) _
  have z1 : w.heap.size + 1 < W.heap.size := by rw [hW]; simp
  have z0 : w.heap.size < W.heap.size := by omega
  have cb : BoxN W w.heap.size 3 [.int .i64 s, .slice a len cap, .int .i64 p] := by
    rw [hW]; exact (boxn_new w #[.int .i64 s, .slice a len cap, .int .i64 p] 24 3 rfl).below ((Below.refl _ _).alloc (Nat.le_refl _) _) (by simp)
  have qb : BoxN W (w.heap.size + 1) 7 [.slice none 0 0, .slice none 0 0, .slice none 0 0, .slice none 0 0, .slice none 0 0, .slice none 0 0, .slice none 0 0] := by
    rw [hW]; simpa using boxn_new (w.alloc (.cells #[.int .i64 s, .slice a len cap, .int .i64 p] 24)) #[.slice none 0 0, .slice none 0 0, .slice none 0 0, .slice none 0 0, .slice none 0 0, .slice none 0 0, .slice none 0 0] 36 7 rfl
  have KC : Hid (∀ V : World, Below W.heap.size W V → V.cell? ⟨w.heap.size, 0, none⟩ = some (.int .i64 s) ∧ V.cell? ⟨w.heap.size, 1, none⟩ = some (.slice a len cap) ∧ V.cell? ⟨w.heap.size, 2, none⟩ = some (.int .i64 p)) := fun V hV => ⟨(hV.cell (p := ⟨w.heap.size, 0, none⟩) z0).trans (cb.c 0 (by decide)).1, (hV.cell (p := ⟨w.heap.size, 1, none⟩) z0).trans (cb.c 1 (by decide)).1, (hV.cell (p := ⟨w.heap.size, 2, none⟩) z0).trans (cb.c 2 (by decide)).1⟩
  have KQ : Hid (∀ V : World, Below W.heap.size W V → V.cell? ⟨w.heap.size + 1, 0, none⟩ = some (.slice none 0 0) ∧ V.cell? ⟨w.heap.size + 1, 1, none⟩ = some (.slice none 0 0) ∧ V.cell? ⟨w.heap.size + 1, 2, none⟩ = some (.slice none 0 0) ∧ V.cell? ⟨w.heap.size + 1, 3, none⟩ = some (.slice none 0 0) ∧ V.cell? ⟨w.heap.size + 1, 4, none⟩ = some (.slice none 0 0) ∧ V.cell? ⟨w.heap.size + 1, 5, none⟩ = some (.slice none 0 0) ∧ V.cell? ⟨w.heap.size + 1, 6, none⟩ = some (.slice none 0 0) ∧ V.frozen? ⟨w.heap.size + 1, 0, none⟩ = false ∧ V.frozen? ⟨w.heap.size + 1, 1, none⟩ = false ∧ V.frozen? ⟨w.heap.size + 1, 2, none⟩ = false ∧ V.frozen? ⟨w.heap.size + 1, 3, none⟩ = false ∧ V.frozen? ⟨w.heap.size + 1, 4, none⟩ = false ∧ V.frozen? ⟨w.heap.size + 1, 5, none⟩ = false ∧ V.frozen? ⟨w.heap.size + 1, 6, none⟩ = false) := fun V hV => ⟨(hV.cell (p := ⟨w.heap.size + 1, 0, none⟩) z1).trans (qb.c 0 (by decide)).1, (hV.cell (p := ⟨w.heap.size + 1, 1, none⟩) z1).trans (qb.c 1 (by decide)).1, (hV.cell (p := ⟨w.heap.size + 1, 2, none⟩) z1).trans (qb.c 2 (by decide)).1, (hV.cell (p := ⟨w.heap.size + 1, 3, none⟩) z1).trans (qb.c 3 (by decide)).1, (hV.cell (p := ⟨w.heap.size + 1, 4, none⟩) z1).trans (qb.c 4 (by decide)).1, (hV.cell (p := ⟨w.heap.size + 1, 5, none⟩) z1).trans (qb.c 5 (by decide)).1, (hV.cell (p := ⟨w.heap.size + 1, 6, none⟩) z1).trans (qb.c 6 (by decide)).1, (hV.frozen (p := ⟨w.heap.size + 1, 0, none⟩) z1).trans (qb.c 0 (by decide)).2, (hV.frozen (p := ⟨w.heap.size + 1, 1, none⟩) z1).trans (qb.c 1 (by decide)).2, (hV.frozen (p := ⟨w.heap.size + 1, 2, none⟩) z1).trans (qb.c 2 (by decide)).2, (hV.frozen (p := ⟨w.heap.size + 1, 3, none⟩) z1).trans (qb.c 3 (by decide)).2, (hV.frozen (p := ⟨w.heap.size + 1, 4, none⟩) z1).trans (qb.c 4 (by decide)).2, (hV.frozen (p := ⟨w.heap.size + 1, 5, none⟩) z1).trans (qb.c 5 (by decide)).2, (hV.frozen (p := ⟨w.heap.size + 1, 6, none⟩) z1).trans (qb.c 6 (by decide)).2⟩
  have HS : Hid (∀ V : World, Below W.heap.size W V → IsLabs V a len cap ls ∧ IsStores V sa n sc ss ∧ Below w.heap.size w V) := fun V hV => by
    have hv := hB.trans (hV.mono hB.size)
    exact ⟨hl.below hv, hS.below hv, hv⟩
  clear cb qb
  obtain ⟨c0, c1, c2⟩ := KC.out _ (Below.refl _ _)
  obtain ⟨hl1, hs1, _⟩ := HS.out _ (Below.refl _ _)
  go_enter Try.func8, Try.ntmps8
  go_upto_region 1 with (fail)
  rw [← hW]
  clear hW
  go_upto_region 2 with (go_at_call 21; refine (hRf _ hl1 hs1).mono ?_; rintro e w1 ⟨rfl, hb1⟩)
  clear c0 c1 c2 hl1 hs1
  have zw1 := hb1.size
  by_cases hE : E = 0
  · obtain ⟨hcf, ⟨hl0, hln⟩, hme, hnl, hso⟩ := hok hE
    obtain ⟨q1, q2, q3, q4, q5, q6, q7⟩ := cfg_zero hcf
    subst hE
    obtain ⟨k, rfl⟩ : ∃ k : Nat, l = (k : Int) := ⟨l.toNat, by omega⟩
    have hk : k < n := by omega
    have hkn : (k : Int) < (n : Int) := by omega
    have hkc : k < sc := Nat.lt_of_lt_of_le hk hS.row.2.1
    have hov := hov k hk
    have hA0 : ageErr (ss.getD k default) p = 0 := by
      unfold ageErr
      rw [hso k hk, show St.inR p 1 1048576 = true from St.inR_true q6 q7]
      rfl
    have HTD : Hid (TD = ⟨ageData (ss.getD k default) p, tickMsgs s me (ageTold (ss.getD k default) p), [], []⟩) := by
      show _ = _
      rw [HD.out, if_pos rfl, Int.toNat_natCast]
    have HT24 : Hid ((ageTold (ss.getD k default) p).length ≤ 24) := by
      show _ ≤ _
      unfold ageTold
      rw [if_pos hA0]
      have := St.told_len p (ss.getD k default).doubts
      have h2 := (hS.each k hk).1
      have := (St.ok_sizes (hso k hk) h2).2.2
      have := h2.doubts.1
      omega
    have HT0 : Hid (∀ t ∈ ageTold (ss.getD k default) p, 0 ≤ t.1) := by
      intro t ht
      unfold ageTold at ht
      rw [if_pos hA0] at ht
      unfold toldT at ht
      obtain ⟨d, hd, rfl⟩ := List.mem_map.1 ht
      exact doubt_site (hso k hk) d (List.mem_filter.1 hd).1
    clear hok HD hso hnl hcf q3 q4 q5 hme
    have hAge : ∀ U, Below w1.heap.size w1 U → Calls Try.prog 22 #[(ss.getD k default).val, .int .i64 p] U fun e w' => ∃ (r : SV) (ta : Option Addr) (tc : Nat), e = .returned (.tuple #[r.val, .slice ta (ageTold (ss.getD k default) p).length tc, .int .i64 0]) ∧ OwnStore w' U.heap.size r ∧ r.data = ageData (ss.getD k default) p ∧ IsTxns w' ta (ageTold (ss.getD k default) p).length tc (ageTold (ss.getD k default) p) ∧ Below U.heap.size U w' ∧ (∀ b off, ta = some ⟨b, off, none⟩ → U.heap.size ≤ b ∧ b < w'.heap.size) := fun U hU => by
      have hIs := ((HS.out _ hb1).2.1.below hU).each k hk |>.1
      have hwf := (hS.each k hk).2
      have := St.ageRef_any_at (ss.getD k default) p U hIs hov
      rw [hA0] at this
      exact this
    obtain ⟨b, off, hsa, hblt, y0, y1, y2, y3⟩ := (HS.out _ hb1).2.1.at hk
    subst hsa
    obtain ⟨T, eT⟩ : ∃ T, T = ageTold (ss.getD k default) p := ⟨_, rfl⟩
    obtain ⟨D, eD⟩ : ∃ D, D = ageData (ss.getD k default) p := ⟨_, rfl⟩
    rw [← eT, ← eD] at hAge HTD
    rw [← eT] at HT24
    rw [← eT] at HT0
    clear eT eD hA0
    obtain ⟨⟨xa0, xn0, xc0, xa1, xn1, xc1, xa2, xn2, xc2, xa3, xn3, xc3, xi, xl, xd, xo⟩, eX⟩ : ∃ x, x = ss.getD k default := ⟨_, rfl⟩
    rw [← eX] at hAge y0 y1 y2 y3
    clear eX
    simp only [SV.val] at hAge y0 y1 y2 y3
    have HAge : Hid (∀ U, Below w1.heap.size w1 U → Calls Try.prog 22 #[.agg #[.slice xa0 xn0 xc0, .slice xa1 xn1 xc1, .slice xa2 xn2 xc2, .slice xa3 xn3 xc3], .int .i64 p] U fun e w' => ∃ (r : SV) (ta : Option Addr) (tc : Nat), e = .returned (.tuple #[r.val, .slice ta T.length tc, .int .i64 0]) ∧ OwnStore w' U.heap.size r ∧ r.data = D ∧ IsTxns w' ta T.length tc T ∧ Below U.heap.size U w' ∧ (∀ b off, ta = some ⟨b, off, none⟩ → U.heap.size ≤ b ∧ b < w'.heap.size)) := hAge
    clear hAge
    have zc2 := (KC.out _ hb1).2.2
    have zq : w.heap.size < w1.heap.size := by omega
    have KX : Hid (∀ U, Below w1.heap.size w1 U → U.cell? ⟨b, off + k * 4, none⟩ = some (.slice xa0 xn0 xc0) ∧ U.cell? ⟨b, off + k * 4 + 1, none⟩ = some (.slice xa1 xn1 xc1) ∧ U.cell? ⟨b, off + k * 4 + 2, none⟩ = some (.slice xa2 xn2 xc2) ∧ U.cell? ⟨b, off + k * 4 + 3, none⟩ = some (.slice xa3 xn3 xc3) ∧ U.cell? ⟨w.heap.size, 2, none⟩ = some (.int .i64 p)) := fun U hU =>
      ⟨(hU.cell (p := ⟨b, off + k * 4, none⟩) hblt).trans y0, (hU.cell (p := ⟨b, off + k * 4 + 1, none⟩) hblt).trans y1, (hU.cell (p := ⟨b, off + k * 4 + 2, none⟩) hblt).trans y2, (hU.cell (p := ⟨b, off + k * 4 + 3, none⟩) hblt).trans y3, (hU.cell (p := ⟨w.heap.size, 2, none⟩) zq).trans zc2⟩
    clear y0 y1 y2 y3 zc2
    go_upto_region 4 with (fail)
    go_cut [11, 12, 13] (fun s11 s12 s13 wc => ∃ (g : Nat) (r : SV) (ta : Option Addr) (tc : Nat), s11 = .pointer (some ⟨g, 0, none⟩) ∧ s12 = .slice ta T.length tc ∧ s13 = .int .i64 0 ∧ BoxN wc g 4 r.box ∧ OwnStore wc w1.heap.size r ∧ r.data = D ∧ IsTxns wc ta T.length tc T ∧ Below w1.heap.size w1 wc)
    case first =>
      go_region_held3 (fun U => U.cell? ⟨b, off + k * 4, none⟩ = some (.slice xa0 xn0 xc0) ∧ U.cell? ⟨b, off + k * 4 + 1, none⟩ = some (.slice xa1 xn1 xc1) ∧ U.cell? ⟨b, off + k * 4 + 2, none⟩ = some (.slice xa2 xn2 xc2) ∧ U.cell? ⟨b, off + k * 4 + 3, none⟩ = some (.slice xa3 xn3 xc3) ∧ U.cell? ⟨w.heap.size, 2, none⟩ = some (.int .i64 p))
        (exact KX.out _ (by (with_reducible repeat (first | exact Below.refl _ _ | exact hu2 | refine qD ?_ | refine qA ?_ _ | refine qS ?_ (by first | omega | (simp; done)) _)); done))
        ((go_at_call 22; refine (HAge.out _ (by (with_reducible repeat (first | exact Below.refl _ _ | exact hu2 | refine qD ?_ | refine qA ?_ _ | refine qS ?_ (by first | omega | (simp; done)) _)); done)).mono ?_; rintro e w2 ⟨⟨ra0, rn0, rc0, ra1, rn1, rc1, ra2, rn2, rc2, ra3, rn3, rc3, ri, rl, rd, ro⟩, ta, tc, rfl, hO2', hd2, hT2, hb2, hta⟩; simp only [SV.val]; have hu2 : Below w1.heap.size w1 w2 := qT (by (with_reducible repeat (first | exact Below.refl _ _ | exact hu2 | refine qD ?_ | refine qA ?_ _ | refine qS ?_ (by first | omega | (simp; done)) _)); done) hb2; have zu2 := hu2.size; (first | (have bx3 : BoxN w2 w1.heap.size 4 [.slice none 0 0, .slice none 0 0, .slice none 0 0, .slice none 0 0] := (boxn_new w1.drew #[.slice none 0 0, .slice none 0 0, .slice none 0 0, .slice none 0 0] 31 4 rfl).below hb2 (by simp); have s0 : _ = some (Value.slice none 0 0) := (bx3.c 0 (by decide)).1; have g0 := (bx3.c 0 (by decide)).2; have s1 : _ = some (Value.slice none 0 0) := (bx3.c 1 (by decide)).1; have g1 := (bx3.c 1 (by decide)).2; have s2 : _ = some (Value.slice none 0 0) := (bx3.c 2 (by decide)).1; have g2 := (bx3.c 2 (by decide)).2; have s3 : _ = some (Value.slice none 0 0) := (bx3.c 3 (by decide)).1; have g3 := (bx3.c 3 (by decide)).2; have zbx3 := bx3.lt) | skip)))
      all_goals
        go_wp2_with fail
        go_meet
        case rel => first | exact ⟨_, ⟨ra0, rn0, rc0, ra1, rn1, rc1, ra2, rn2, rc2, ra3, rn3, rc3, ri, rl, rd, ro⟩, ta, tc, rfl, rfl, rfl, (((bx3.set 0 (by decide) (.slice ra0 rn0 rc0)).set 1 (by decide) (.slice ra1 rn1 rc1)).set 2 (by decide) (.slice ra2 rn2 rc2)).set 3 (by decide) (.slice ra3 rn3 rc3), (hO2'.four (b := w1.heap.size) (by simp) _ _ _ _).base (by simp), hd2, row_four hT2 (fun b off e => by have := hta b off e; simp at this; omega) _ _ _ _, by (with_reducible repeat (first | exact Below.refl _ _ | exact hu2 | refine qD ?_ | refine qA ?_ _ | refine qS ?_ (by first | omega | (simp; done)) _)); done⟩ | exact ⟨_, ⟨ra0, rn0, rc0, ra1, rn1, rc1, ra2, rn2, rc2, ra3, rn3, rc3, ri, rl, rd, ro⟩, ta, tc, rfl, rfl, rfl, boxn_new w2 #[.slice ra0 rn0 rc0, .slice ra1 rn1 rc1, .slice ra2 rn2 rc2, .slice ra3 rn3 rc3] _ 4 rfl, (hO2'.below ((Below.refl _ _).alloc (Nat.le_refl _) _)).base (by first | omega | (simp; done) | (simp; omega)), hd2, St.IsRow.below hT2 ((Below.refl _ _).alloc (Nat.le_refl _) _), by (with_reducible repeat (first | exact Below.refl _ _ | exact hu2 | refine qD ?_ | refine qA ?_ _ | refine qS ?_ (by first | omega | (simp; done)) _)); done⟩
    case rest =>
      obtain ⟨g, ⟨ra0, rn0, rc0, ra1, rn1, rc1, ra2, rn2, rc2, ra3, rn3, rc3, ri, rl, rd, ro⟩, ta, tc, rfl, rfl, rfl, bxg, hO, hd, hT, bY⟩ := hcut
      obtain ⟨Y, eY⟩ : ∃ Y, Y = wc := ⟨_, rfl⟩
      rw [← eY] at bxg hO hT bY ⊢
      clear eY KX HAge
      simp only [SV.box] at bxg
      have bWY : Below W.heap.size W Y := hb1.trans (bY.mono zw1)
      have HO : Hid (OwnStore Y w1.heap.size ⟨ra0, rn0, rc0, ra1, rn1, rc1, ra2, rn2, rc2, ra3, rn3, rc3, ri, rl, rd, ro⟩) := hO
      clear hO
      have x0 := (bxg.c 0 (by decide)).1
      have x1 := (bxg.c 1 (by decide)).1
      have x2 := (bxg.c 2 (by decide)).1
      have x3 := (bxg.c 3 (by decide)).1
      simp only [List.getD_cons_zero, List.getD_cons_succ] at x0 x1 x2 x3
      have zg := bxg.lt
      go_upto_region 6 with (fail)
      obtain ⟨X, eX⟩ : ∃ X : World, X = Y.alloc (.cells #[.slice ra0 rn0 rc0, .slice ra1 rn1 rc1, .slice ra2 rn2 rc2, .slice ra3 rn3 rc3, .slice none 0 0, .slice none 0 0, .slice none 0 0] 36) := ⟨_, rfl⟩
      have hTB : TB Y X Y.heap.size (Y.heap.size + 1) ⟨ra0, rn0, rc0, ra1, rn1, rc1, ra2, rn2, rc2, ra3, rn3, rc3, ri, rl, rd, ro⟩ none 0 [] := by rw [eX]; exact TB.new (r := ⟨ra0, rn0, rc0, ra1, rn1, rc1, ra2, rn2, rc2, ra3, rn3, rc3, ri, rl, rd, ro⟩)
      rw [← eX]
      clear eX x0 x1 x2 x3 zg bxg
      have zY := bY.size
      have zQY : w.heap.size + 1 < Y.heap.size := by omega
      have HTl : Hid (T.length = T.length) := rfl
      have hmx : T.length ≤ 24 := HT24.out
      go_wp2
      go_loopw [15] (fun s15 wr => ∃ (i : Nat) (a1 : Option Addr) (c1 : Nat) (ms : List MV), s15 = .int .i64 (i : Int) ∧ i ≤ T.length ∧ ms.length ≤ i ∧ TB Y wr Y.heap.size (Y.heap.size + 1) ⟨ra0, rn0, rc0, ra1, rn1, rc1, ra2, rn2, rc2, ra3, rn3, rc3, ri, rl, rd, ro⟩ a1 c1 ms ∧ Hid (ms = tickMsgs s me (T.take i))) (fun s15 _ => T.length - (intOf s15).toNat)
      case atStart => exact ⟨0, none, 0, [], rfl, by omega, by simp, hTB, by show _ = _; simp [tickMsgs]⟩
      case round =>
        obtain ⟨i, a1, c1, ms, rfl, hi, hmi, hR, hms⟩ := hrel
        clear hTB
        by_cases hlt : i < T.length
        · have hlt' : (i : Int) < (T.length : Int) := by omega
          obtain ⟨b1, o1, rfl, zb1, hc⟩ := (St.IsRow.below hT hR.bel).2.2.2.2 (by omega)
          have t0 := hc i hlt 0 (by decide)
          have t1 := hc i hlt 1 (by decide)
          have HAT := tick_at s me T hlt
          have hpos := HT0.out (T.getD i default) (St.getD_mem hlt)
          obtain ⟨⟨tsi, tnu⟩, et⟩ : ∃ t, t = T.getD i default := ⟨_, rfl⟩
          rw [← et] at t0 t1 HAT hpos
          simp only [] at HAT hpos
          simp only [St.txCells, List.getElem?_cons_zero, List.getElem?_cons_succ, Nat.add_zero] at t0 t1
          have HA : Hid (tickMsgs s me (T.take (i + 1)) = tickMsgs s me (T.take i) ++ if inR tsi 0 (s - 1) = true then [doubtsMsg me (tsi, tnu)] else []) := HAT
          clear HAT et hc
          obtain ⟨c0, c1', c2⟩ := KC.out _ (bWY.trans (hR.bel.mono bWY.size))
          have HPut : Hid (∀ V3 a5 c5 w5, Below wr.heap.size wr V3 → V3.grownBy w5 (Value.slice a1 ms.length c1).ownBlock → w5.ownsRow (Y.heap.size + 1) 54 12 (.slice a5 (ms.length + 1) c5) (ms.length + 1) (flat mcells (ms ++ [doubtsMsg me (tsi, tnu)])) → (w5.cell? ⟨Y.heap.size, 4, none⟩ = some (.slice a1 ms.length c1) ∧ w5.frozen? ⟨Y.heap.size, 4, none⟩ = false ∧ Y.heap.size < w5.heap.size) ∧ TB Y (w5.setCell ⟨Y.heap.size, 4, none⟩ (.slice a5 (ms.length + 1) c5)) Y.heap.size (Y.heap.size + 1) ⟨ra0, rn0, rc0, ra1, rn1, rc1, ra2, rn2, rc2, ra3, rn3, rc3, ri, rl, rd, ro⟩ a5 c5 (ms ++ [doubtsMsg me (tsi, tnu)])) := fun V3 a5 c5 w5 hb gr own => (hR.below hb).put gr own
          have HRow : Hid (∀ V3, Below wr.heap.size wr V3 → V3.ownsRow (Y.heap.size + 1) 54 12 (.slice a1 ms.length c1) ms.length (flat mcells ms)) := fun V3 hb => own_below hR.row hb
          have d4 := (hR.box.c 4 (by decide)).1
          simp only [List.getD_cons_zero, List.getD_cons_succ] at d4
          have zA := hR.box.lt
          have zBw := hR.le.2.2
          have zcw : w.heap.size < wr.heap.size := by omega
          go_wp2
          go_quiet (fail)
          have hbq : Below wr.heap.size wr (wr.drewN nq) := below_drewN (Below.refl _ _) nq
          have hRq := hR.below hbq
          by_cases hin : tsi < s
          · have hin' : inR tsi 0 (s - 1) = true := inR_true hpos (by omega)
            rw [hin'] at HA
            simp only [if_true] at HA
            have HMS : Hid (ms ++ [doubtsMsg me (tsi, tnu)] = tickMsgs s me (T.take (i + 1))) := by show _ = _; rw [HA.out, hms.out]
            have t0q := (hbq.cell (p := ⟨b1, o1 + i * 2, none⟩) zb1).trans t0
            have t1q := (hbq.cell (p := ⟨b1, o1 + i * 2 + 1, none⟩) zb1).trans t1
            have d4q := (hbq.cell (p := ⟨Y.heap.size, 4, none⟩) zA).trans d4
            have zAq : Y.heap.size < (wr.drewN nq).heap.size := Nat.lt_of_lt_of_le zA hbq.size
            have zsq : wr.heap.size ≤ (wr.drewN nq).heap.size := hbq.size
            have hSb := hbq
            obtain ⟨Z, eZ⟩ : ∃ Z, Z = wr.drewN nq := ⟨_, rfl⟩
            rw [← eZ] at t0q t1q d4q zAq hbq hRq zsq ⊢
            clear eZ hSb t0 t1 d4 c0 c1' c2
            go_upto_region 10 with (fail)
            go_region_law (first
              | (refine St.step_append_row EM (by rfl) (.tmp 53) (.tmp 65) (by rfl) (Y.heap.size + 1) (.slice a1 ms.length c1) ms.length ms (by rfl) (HRow.out _ (by (with_reducible repeat (first | exact hbq | exact Below.refl _ _ | refine qD ?_ | refine qA ?_ _)); done)) _ 1 1 [doubtsMsg me (tsi, tnu)] (by rfl) (isOne _ _ _ _ rfl rfl) (by unfold maxLen; omega) (by omega) (by simp; omega) ?_; intro a5 c5 w5 own5 gr5 at5; obtain ⟨⟨p4, f4, zA5⟩, hR6⟩ := HPut.out _ a5 c5 w5 (by (with_reducible repeat (first | exact hbq | exact Below.refl _ _ | refine qD ?_ | refine qA ?_ _)); done) gr5 own5))
            all_goals
              go_wp2
              go_roundw
              case rel => exact ⟨i + 1, a5, c5, _, by go_num, by omega, by simp; omega, hR6, HMS⟩
              case measure => simp [intOf]; omega
          · have hin' : inR tsi 0 (s - 1) = false := inR_false (by omega)
            rw [hin'] at HA
            simp only [Bool.false_eq_true, if_false, List.append_nil] at HA
            go_wp2
            go_roundw
            case rel => exact ⟨i + 1, a1, c1, ms, by go_num, by omega, by omega, hRq, by show _ = _; rw [HA.out, hms.out]⟩
            case measure => simp [intOf]; omega
        · obtain rfl : i = T.length := by omega
          obtain ⟨k0, k1, k2, k3, k4, k5, k6, h0, h1, h2, h3, h4, h5, h6⟩ := KQ.out _ (bWY.trans (hR.bel.mono bWY.size))
          have v0 := (hR.box.c 0 (by decide)).1
          have v1 := (hR.box.c 1 (by decide)).1
          have v2 := (hR.box.c 2 (by decide)).1
          have v3 := (hR.box.c 3 (by decide)).1
          have v4 := (hR.box.c 4 (by decide)).1
          have v5 := (hR.box.c 5 (by decide)).1
          have v6 := (hR.box.c 6 (by decide)).1
          simp only [List.getD_cons_zero, List.getD_cons_succ] at v0 v1 v2 v3 v4 v5 v6
          have zA := hR.box.lt
          have zQ : w.heap.size + 1 < wr.heap.size := Nat.lt_of_lt_of_le zQY hR.bel.size
          have gF : wr.grownBy (((((((wr.setCell ⟨w.heap.size + 1, 0, none⟩ (.slice ra0 rn0 rc0)).setCell ⟨w.heap.size + 1, 1, none⟩ (.slice ra1 rn1 rc1)).setCell ⟨w.heap.size + 1, 2, none⟩ (.slice ra2 rn2 rc2)).setCell ⟨w.heap.size + 1, 3, none⟩ (.slice ra3 rn3 rc3)).setCell ⟨w.heap.size + 1, 4, none⟩ (.slice a1 ms.length c1)).setCell ⟨w.heap.size + 1, 5, none⟩ (.slice none 0 0)).setCell ⟨w.heap.size + 1, 6, none⟩ (.slice none 0 0)) (some (w.heap.size + 1)) := grown7 wr _ _ _ _ _ _ _ _
          obtain ⟨hAns, hFar⟩ := hR.ans HO.out zY (by omega : w.heap.size + 1 < w1.heap.size) gF
          have hbF : Below w.heap.size w (((((((wr.setCell ⟨w.heap.size + 1, 0, none⟩ (.slice ra0 rn0 rc0)).setCell ⟨w.heap.size + 1, 1, none⟩ (.slice ra1 rn1 rc1)).setCell ⟨w.heap.size + 1, 2, none⟩ (.slice ra2 rn2 rc2)).setCell ⟨w.heap.size + 1, 3, none⟩ (.slice ra3 rn3 rc3)).setCell ⟨w.heap.size + 1, 4, none⟩ (.slice a1 ms.length c1)).setCell ⟨w.heap.size + 1, 5, none⟩ (.slice none 0 0)).setCell ⟨w.heap.size + 1, 6, none⟩ (.slice none 0 0)) := ((HS.out _ (bWY.trans (hR.bel.mono bWY.size))).2.2).grown gF (HS.out _ (bWY.trans (hR.bel.mono bWY.size))).2.2.size (fun q hq => by simp at hq; omega)
          have HM : Hid (ms = tickMsgs s me T) := by show _ = _; rw [hms.out, List.take_length]
          go_wp2
          refine bodyPost_ret (v := .tuple #[.agg #[.slice ra0 rn0 rc0, .slice ra1 rn1 rc1, .slice ra2 rn2 rc2, .slice ra3 rn3 rc3, .slice a1 ms.length c1, .slice none 0 0, .slice none 0 0], .int .i64 0]) (by simp [results, Try.results8, go_sem, k0, k1, k2, k3, k4, k5, k6]) rfl ⟨_, rfl, hAns, ?_, hbF, hFar.mono (by omega)⟩
          rw [HTD.out, ← hd, ← HM.out]
          rfl
  · obtain ⟨k0, k1, k2, k3, k4, k5, k6, h0, h1, h2, h3, h4, h5, h6⟩ := KQ.out _ hb1
    have hwE := (HS.out _ hb1).2.2
    have HN : Hid (TD = AD.nil) := by show _ = _; rw [HD.out, if_neg hE]
    have zQ : w.heap.size + 1 < w1.heap.size := by omega
    clear HD hok
    go_wp2
    refine bodyPost_ret (v := .tuple #[.agg #[.slice none 0 0, .slice none 0 0, .slice none 0 0, .slice none 0 0, .slice none 0 0, .slice none 0 0, .slice none 0 0], .int .i64 E]) (by simp [results, Try.results8, go_sem, k0, k1, k2, k3, k4, k5, k6]) rfl ⟨AnsV.nil, rfl, isAns_nil _, by rw [HN.out]; rfl, ?_, AnsV.far_nil _⟩
    exact hwE.grown (grown7 w1 (w.heap.size + 1) _ _ _ _ _ _ _) hwE.size (fun q hq => by simp at hq; omega)

end Go.Proofs.Ytmkobbgedhlcfaa.Pt
