/- The contract of the document's StoreCopy: the same, in memory of its own. -/
import Derived.Test.YtbmbahifkegehaaSMade
import Derived.Deep.RegionLaw
namespace Go.Proofs.Ytbmbahifkegehaa.St
open Go.ChangeShapes Go.WideShapes Go.ChangeAt Go.RowKit
set_option linter.unusedVariables false

/-- What a result's box is told does not touch what was made behind it. -/
theorem out_box {w W U : World} {n : Nat} {r : SV} (zle : n + 1 < W.heap.size) (hB : Below n w W) (h : OwnStore U W.heap.size r) (hb : Below W.heap.size W U) (p0 p1 p2 p3 : Value) :
    OwnStore ((((U.setCell ⟨n + 1, 0, none⟩ p0).setCell ⟨n + 1, 1, none⟩ p1).setCell ⟨n + 1, 2, none⟩ p2).setCell ⟨n + 1, 3, none⟩ p3) n r ∧ Below n w ((((U.setCell ⟨n + 1, 0, none⟩ p0).setCell ⟨n + 1, 1, none⟩ p1).setCell ⟨n + 1, 2, none⟩ p2).setCell ⟨n + 1, 3, none⟩ p3) := by
  refine ⟨OwnStore.base (B := W.heap.size) ((((h.box (p := ⟨n + 1, 0, none⟩) zle p0).box (p := ⟨n + 1, 1, none⟩) zle p1).box (p := ⟨n + 1, 2, none⟩) zle p2).box (p := ⟨n + 1, 3, none⟩) zle p3) (by omega), ?_⟩
  refine Below.setCell (Below.setCell (Below.setCell (Below.setCell (hB.trans (hb.mono (by omega))) ?_ _) ?_ _) ?_ _) ?_ _
  all_goals exact Nat.le_succ _

set_option maxRecDepth 100000 in
set_option maxHeartbeats 8000000 in
theorem storeCopy_any (s : SV) (w : World) (h : IsStore w s) (h1 : s.il * 24 ≤ 140737488351232) (h2 : s.ll * 48 ≤ 140737488351232) (h3 : s.dl * 24 ≤ 140737488351232) (h4 : s.ol * 16 ≤ 140737488351232) :
    Calls Try.prog 9 #[s.val] w fun e w' => ∃ r : SV, e = .returned r.val ∧ s.same r ∧ OwnStore w' w.heap.size r ∧ Below w.heap.size w w' := by
  obtain ⟨i1, E1⟩ := itElem
  obtain ⟨i2, E2⟩ := lkElem
  obtain ⟨i3, E3⟩ := dbElem
  obtain ⟨i4, E4⟩ := txElem
  have HI : Hid (s.items.length = s.il) := h.items.1
  have HL : Hid (s.locks.length = s.ll) := h.locks.1
  have HD : Hid (s.doubts.length = s.dl) := h.doubts.1
  have HO : Hid (s.over.length = s.ol) := h.over.1
  have mx1 := h.items.2.1
  have mx1' := h.items.2.2.1
  have mx2 := h.locks.2.1
  have mx2' := h.locks.2.2.1
  have mx3 := h.doubts.2.1
  have mx3' := h.doubts.2.2.1
  have mx4 := h.over.2.1
  have mx4' := h.over.2.2.1
  unfold maxLen at mx1' mx2' mx3' mx4'
  obtain ⟨ia, il, ic, la, ll, lc, da, dl, dc, oa, ol, oc, items, locks, doubts, over⟩ := s
  simp only [SV.val] at *
  obtain ⟨W, hW⟩ : ∃ W : World, W = ((w.alloc (.cells #[.slice ia il ic, .slice la ll lc, .slice da dl dc, .slice oa ol oc] 27)).alloc (.cells #[.slice none 0 0, .slice none 0 0, .slice none 0 0, .slice none 0 0] 27)) := ⟨_, rfl⟩
  have hB : Below w.heap.size w W := by rw [hW]; exact ((Below.refl _ _).alloc (Nat.le_refl _) _).alloc (by simp) _
  have hz : W.heap.size = w.heap.size + 2 := by rw [hW]; simp
  have HZ : Hid (W.heap.size = w.heap.size + 2) := hz
  have zle : w.heap.size + 1 < W.heap.size := by omega
  have z0 : w.heap.size < W.heap.size := by omega
  have hS := h.below hB
  have HS : Hid (∀ U, Below W.heap.size W U → IsStore U ⟨ia, il, ic, la, ll, lc, da, dl, dc, oa, ol, oc, items, locks, doubts, over⟩) := fun U hU => hS.below hU
  have d0 : W.cell? ⟨w.heap.size, 0, none⟩ = some (.slice ia il ic) := by rw [hW]; go_simp
  have d1 : W.cell? ⟨w.heap.size, 1, none⟩ = some (.slice la ll lc) := by rw [hW]; go_simp
  have d2 : W.cell? ⟨w.heap.size, 2, none⟩ = some (.slice da dl dc) := by rw [hW]; go_simp
  have d3 : W.cell? ⟨w.heap.size, 3, none⟩ = some (.slice oa ol oc) := by rw [hW]; go_simp
  have KD : Hid (∀ U : World, Below W.heap.size W U → U.cell? ⟨w.heap.size, 0, none⟩ = some (.slice ia il ic) ∧ U.cell? ⟨w.heap.size, 1, none⟩ = some (.slice la ll lc) ∧ U.cell? ⟨w.heap.size, 2, none⟩ = some (.slice da dl dc) ∧ U.cell? ⟨w.heap.size, 3, none⟩ = some (.slice oa ol oc)) := fun U hU =>
    ⟨(hU.cell (p := ⟨w.heap.size, 0, none⟩) z0).trans d0, (hU.cell (p := ⟨w.heap.size, 1, none⟩) z0).trans d1, (hU.cell (p := ⟨w.heap.size, 2, none⟩) z0).trans d2, (hU.cell (p := ⟨w.heap.size, 3, none⟩) z0).trans d3⟩
  have RB : BoxN W (w.heap.size + 1) 4 [.slice none 0 0, .slice none 0 0, .slice none 0 0, .slice none 0 0] := by
    rw [hW]
    have := boxn_new (w.alloc (.cells #[.slice ia il ic, .slice la ll lc, .slice da dl dc, .slice oa ol oc] 27)) #[.slice none 0 0, .slice none 0 0, .slice none 0 0, .slice none 0 0] 27 4 rfl
    simpa using this
  have HRB : Hid (∀ U, Below W.heap.size W U → BoxN U (w.heap.size + 1) 4 [.slice none 0 0, .slice none 0 0, .slice none 0 0, .slice none 0 0]) := fun U hU => RB.below hU zle
  obtain ⟨X, hX⟩ : ∃ X : World, X = W.alloc (.cells #[.slice none 0 0, .slice none 0 0, .slice none 0 0, .slice none 0 0] 27) := ⟨_, rfl⟩
  have hM0 : Made W X W.heap.size W.heap.size SV.nil := by
    have hb1 : Below W.heap.size W X := by rw [hX]; exact (Below.refl _ _).alloc (Nat.le_refl _) _
    refine Made.new (ownStore_nil W _) (Below.refl _ _) hb1 (Nat.le_refl _) ?_ (Nat.le_refl _)
    rw [hX]
    exact boxn_new W #[.slice none 0 0, .slice none 0 0, .slice none 0 0, .slice none 0 0] 27 4 rfl
  clear hS d0 d1 d2 d3 h mx1 mx2 mx3 mx4 RB
  go_enter Try.func9, Try.ntmps9
  go_upto_region 1 with (fail)
  rw [← hW]
  clear hW
  rw [show w.heap.size + 2 = W.heap.size from hz.symm] at *
  clear hz
  go_upto_region 2 with (fail)
  rw [← hX]
  clear hX
  go_wp2
  go_loopw [4] (fun i wr => ∃ (k : Nat) (a : Option Addr) (c : Nat), i = .int .i64 (k : Int) ∧ k ≤ il ∧ Made W wr W.heap.size W.heap.size ⟨a, k, c, none, 0, 0, none, 0, 0, none, 0, 0, (items.take k), [], [], []⟩) (fun i _ => il - (intOf i).toNat)
  case atStart => exact ⟨0, none, 0, rfl, Nat.zero_le _, hM0⟩
  case round =>
    obtain ⟨k, a, c, rfl, hk, hM⟩ := hrel
    obtain ⟨mz, x0, x1, x2, x3, f0, f1, f2, f3⟩ := hM.cells
    simp only [] at x0 x1 x2 x3
    obtain ⟨d0, d1, d2, d3⟩ := KD.out _ hM.bel
    by_cases hlt : k < il
    · have hlt' : (k : Int) < (il : Int) := by omega
      obtain ⟨b, off, rfl, zb, hc⟩ := (HS.out _ hM.bel).items.2.2.2.2 (by show 0 < il; omega)
      have hcells := hc k hlt
      have HT : Hid (items.take (k + 1) = items.take k ++ [items.getD k default]) := take_at (by rw [HI.out]; exact hlt)
      simp only [] at hcells
      obtain ⟨x, ex⟩ : ∃ x, x = items.getD k default := ⟨_, rfl⟩
      rw [← ex] at hcells HT
      clear ex hc
      obtain ⟨q0, q1, q2⟩ := x
      have e0 := hcells 0 (by decide)
      have e1 := hcells 1 (by decide)
      have e2 := hcells 2 (by decide)
      simp only [ItV.cells, List.getElem?_cons_zero, List.getElem?_cons_succ, Nat.add_zero] at e0 e1 e2
      clear hcells
      have zM := hM.bel.size
      go_upto_region 5 with (fail)
      go_region_law (first | (refine step_append_row E1 (by rfl) (.tmp 17) (.tmp 23) (by rfl) W.heap.size (.slice a k c) k (items.take k) (by rfl) (own_below hM.own.items (by (with_reducible repeat (first | exact Below.refl _ _ | refine nD ?_ | refine nA ?_ _)); done)) _ 1 1 [⟨q0, q1, q2⟩] (by rfl) (isOne _ _ _ _ rfl rfl) (by unfold maxLen; omega) (by omega) (by simp; omega) ?_; intro a5 c5 w5 own5 gr5 at5; obtain ⟨cl5, fz5, hM5⟩ := hM.put_items (by (with_reducible repeat (first | exact Below.refl _ _ | refine nD ?_ | refine nA ?_ _)); done) gr5 own5 at5; have z5 := hM5.box.lt; simp only [] at cl5))
      all_goals
        go_wp2
        go_roundw
        case rel => exact ⟨k + 1, a5, c5, by go_num, by omega, by rw [HT.out]; exact hM5⟩
        case measure => simp [intOf]; omega
    · obtain rfl : il = k := by omega
      rw [List.take_of_length_le (by rw [HI.out]; exact Nat.le_refl _)] at hM
      have hM1 := hM
      go_wp2
      clear x0 x1 x2 x3 f0 f1 f2 f3 d0 d1 d2 d3 mz hM
      obtain ⟨a0, ea0⟩ : ∃ a0, a0 = a := ⟨_, rfl⟩
      obtain ⟨c0, ec0⟩ : ∃ c0, c0 = c := ⟨_, rfl⟩
      rw [← ea0, ← ec0] at hM1
      clear ea0 ec0 hk
      go_loopw [5] (fun i wr => ∃ (k : Nat) (a : Option Addr) (c : Nat), i = .int .i64 (k : Int) ∧ k ≤ ll ∧ Made W wr W.heap.size W.heap.size ⟨a0, il, c0, a, k, c, none, 0, 0, none, 0, 0, items, (locks.take k), [], []⟩) (fun i _ => ll - (intOf i).toNat)
      case atStart => exact ⟨0, none, 0, rfl, Nat.zero_le _, hM1⟩
      case round =>
        obtain ⟨k, a, c, rfl, hk, hM⟩ := hrel
        obtain ⟨mz, x0, x1, x2, x3, f0, f1, f2, f3⟩ := hM.cells
        simp only [] at x0 x1 x2 x3
        obtain ⟨d0, d1, d2, d3⟩ := KD.out _ hM.bel
        by_cases hlt : k < ll
        · have hlt' : (k : Int) < (ll : Int) := by omega
          obtain ⟨b, off, rfl, zb, hc⟩ := (HS.out _ hM.bel).locks.2.2.2.2 (by show 0 < ll; omega)
          have hcells := hc k hlt
          have HT : Hid (locks.take (k + 1) = locks.take k ++ [locks.getD k default]) := take_at (by rw [HL.out]; exact hlt)
          simp only [] at hcells
          obtain ⟨x, ex⟩ : ∃ x, x = locks.getD k default := ⟨_, rfl⟩
          rw [← ex] at hcells HT
          clear ex hc
          obtain ⟨⟨q0, q1⟩, q2, q3, q4, q5⟩ := x
          have e0 := hcells 0 (by decide)
          have e1 := hcells 1 (by decide)
          have e2 := hcells 2 (by decide)
          have e3 := hcells 3 (by decide)
          have e4 := hcells 4 (by decide)
          have e5 := hcells 5 (by decide)
          simp only [LkV.cells, List.getElem?_cons_zero, List.getElem?_cons_succ, Nat.add_zero] at e0 e1 e2 e3 e4 e5
          clear hcells
          have zM := hM.bel.size
          go_upto_region 9 with (fail)
          go_region_law (first | (refine step_append_row E2 (by rfl) (.tmp 34) (.tmp 40) (by rfl) W.heap.size (.slice a k c) k (locks.take k) (by rfl) (own_below hM.own.locks (by (with_reducible repeat (first | exact Below.refl _ _ | refine nD ?_ | refine nA ?_ _)); done)) _ 1 1 [⟨(q0, q1), q2, q3, q4, q5⟩] (by rfl) (isOne _ _ _ _ rfl rfl) (by unfold maxLen; omega) (by omega) (by simp; omega) ?_; intro a5 c5 w5 own5 gr5 at5; obtain ⟨cl5, fz5, hM5⟩ := hM.put_locks (by (with_reducible repeat (first | exact Below.refl _ _ | refine nD ?_ | refine nA ?_ _)); done) gr5 own5 at5; have z5 := hM5.box.lt; simp only [] at cl5))
          all_goals
            go_wp2
            go_roundw
            case rel => exact ⟨k + 1, a5, c5, by go_num, by omega, by rw [HT.out]; exact hM5⟩
            case measure => simp [intOf]; omega
        · obtain rfl : ll = k := by omega
          rw [List.take_of_length_le (by rw [HL.out]; exact Nat.le_refl _)] at hM
          have hM2 := hM
          go_wp2
          clear x0 x1 x2 x3 f0 f1 f2 f3 d0 d1 d2 d3 mz hM
          obtain ⟨a1, ea1⟩ : ∃ a1, a1 = a := ⟨_, rfl⟩
          obtain ⟨c1, ec1⟩ : ∃ c1, c1 = c := ⟨_, rfl⟩
          rw [← ea1, ← ec1] at hM2
          clear ea1 ec1 hk
          go_loopw [6] (fun i wr => ∃ (k : Nat) (a : Option Addr) (c : Nat), i = .int .i64 (k : Int) ∧ k ≤ dl ∧ Made W wr W.heap.size W.heap.size ⟨a0, il, c0, a1, ll, c1, a, k, c, none, 0, 0, items, locks, (doubts.take k), []⟩) (fun i _ => dl - (intOf i).toNat)
          case atStart => exact ⟨0, none, 0, rfl, Nat.zero_le _, hM2⟩
          case round =>
            obtain ⟨k, a, c, rfl, hk, hM⟩ := hrel
            obtain ⟨mz, x0, x1, x2, x3, f0, f1, f2, f3⟩ := hM.cells
            simp only [] at x0 x1 x2 x3
            obtain ⟨d0, d1, d2, d3⟩ := KD.out _ hM.bel
            by_cases hlt : k < dl
            · have hlt' : (k : Int) < (dl : Int) := by omega
              obtain ⟨b, off, rfl, zb, hc⟩ := (HS.out _ hM.bel).doubts.2.2.2.2 (by show 0 < dl; omega)
              have hcells := hc k hlt
              have HT : Hid (doubts.take (k + 1) = doubts.take k ++ [doubts.getD k default]) := take_at (by rw [HD.out]; exact hlt)
              simp only [] at hcells
              obtain ⟨x, ex⟩ : ∃ x, x = doubts.getD k default := ⟨_, rfl⟩
              rw [← ex] at hcells HT
              clear ex hc
              obtain ⟨⟨q0, q1⟩, q2⟩ := x
              have e0 := hcells 0 (by decide)
              have e1 := hcells 1 (by decide)
              have e2 := hcells 2 (by decide)
              simp only [DbV.cells, List.getElem?_cons_zero, List.getElem?_cons_succ, Nat.add_zero] at e0 e1 e2
              clear hcells
              have zM := hM.bel.size
              go_upto_region 13 with (fail)
              go_region_law (first | (refine step_append_row E3 (by rfl) (.tmp 51) (.tmp 57) (by rfl) W.heap.size (.slice a k c) k (doubts.take k) (by rfl) (own_below hM.own.doubts (by (with_reducible repeat (first | exact Below.refl _ _ | refine nD ?_ | refine nA ?_ _)); done)) _ 1 1 [⟨(q0, q1), q2⟩] (by rfl) (isOne _ _ _ _ rfl rfl) (by unfold maxLen; omega) (by omega) (by simp; omega) ?_; intro a5 c5 w5 own5 gr5 at5; obtain ⟨cl5, fz5, hM5⟩ := hM.put_doubts (by (with_reducible repeat (first | exact Below.refl _ _ | refine nD ?_ | refine nA ?_ _)); done) gr5 own5 at5; have z5 := hM5.box.lt; simp only [] at cl5))
              all_goals
                go_wp2
                go_roundw
                case rel => exact ⟨k + 1, a5, c5, by go_num, by omega, by rw [HT.out]; exact hM5⟩
                case measure => simp [intOf]; omega
            · obtain rfl : dl = k := by omega
              rw [List.take_of_length_le (by rw [HD.out]; exact Nat.le_refl _)] at hM
              have hM3 := hM
              go_wp2
              clear x0 x1 x2 x3 f0 f1 f2 f3 d0 d1 d2 d3 mz hM
              obtain ⟨a2, ea2⟩ : ∃ a2, a2 = a := ⟨_, rfl⟩
              obtain ⟨c2, ec2⟩ : ∃ c2, c2 = c := ⟨_, rfl⟩
              rw [← ea2, ← ec2] at hM3
              clear ea2 ec2 hk
              go_loopw [7] (fun i wr => ∃ (k : Nat) (a : Option Addr) (c : Nat), i = .int .i64 (k : Int) ∧ k ≤ ol ∧ Made W wr W.heap.size W.heap.size ⟨a0, il, c0, a1, ll, c1, a2, dl, c2, a, k, c, items, locks, doubts, (over.take k)⟩) (fun i _ => ol - (intOf i).toNat)
              case atStart => exact ⟨0, none, 0, rfl, Nat.zero_le _, hM3⟩
              case round =>
                obtain ⟨k, a, c, rfl, hk, hM⟩ := hrel
                obtain ⟨mz, x0, x1, x2, x3, f0, f1, f2, f3⟩ := hM.cells
                simp only [] at x0 x1 x2 x3
                obtain ⟨d0, d1, d2, d3⟩ := KD.out _ hM.bel
                by_cases hlt : k < ol
                · have hlt' : (k : Int) < (ol : Int) := by omega
                  obtain ⟨b, off, rfl, zb, hc⟩ := (HS.out _ hM.bel).over.2.2.2.2 (by show 0 < ol; omega)
                  have hcells := hc k hlt
                  have HT : Hid (over.take (k + 1) = over.take k ++ [over.getD k default]) := take_at (by rw [HO.out]; exact hlt)
                  simp only [] at hcells
                  obtain ⟨x, ex⟩ : ∃ x, x = over.getD k default := ⟨_, rfl⟩
                  rw [← ex] at hcells HT
                  clear ex hc
                  obtain ⟨q0, q1⟩ := x
                  have e0 := hcells 0 (by decide)
                  have e1 := hcells 1 (by decide)
                  simp only [txCells, List.getElem?_cons_zero, List.getElem?_cons_succ, Nat.add_zero] at e0 e1
                  clear hcells
                  have zM := hM.bel.size
                  go_upto_region 17 with (fail)
                  go_region_law (first | (refine step_append_row E4 (by rfl) (.tmp 68) (.tmp 74) (by rfl) W.heap.size (.slice a k c) k (over.take k) (by rfl) (own_below hM.own.over (by (with_reducible repeat (first | exact Below.refl _ _ | refine nD ?_ | refine nA ?_ _)); done)) _ 1 1 [(q0, q1)] (by rfl) (isOne _ _ _ _ rfl rfl) (by unfold maxLen; omega) (by omega) (by simp; omega) ?_; intro a5 c5 w5 own5 gr5 at5; obtain ⟨cl5, fz5, hM5⟩ := hM.put_over (by (with_reducible repeat (first | exact Below.refl _ _ | refine nD ?_ | refine nA ?_ _)); done) gr5 own5 at5; have z5 := hM5.box.lt; simp only [] at cl5))
                  all_goals
                    go_wp2
                    go_roundw
                    case rel => exact ⟨k + 1, a5, c5, by go_num, by omega, by rw [HT.out]; exact hM5⟩
                    case measure => simp [intOf]; omega
                · obtain rfl : ol = k := by omega
                  rw [List.take_of_length_le (by rw [HO.out]; exact Nat.le_refl _)] at hM
                  have hM4 := hM
                  skip
                  have rb := HRB.out _ hM4.bel
                  have r0 := (rb.c 0 (by decide)).1
                  have g0 := (rb.c 0 (by decide)).2
                  have z0 := (hM4.box.c 0 (by decide)).1
                  have r1 := (rb.c 1 (by decide)).1
                  have g1 := (rb.c 1 (by decide)).2
                  have z1 := (hM4.box.c 1 (by decide)).1
                  have r2 := (rb.c 2 (by decide)).1
                  have g2 := (rb.c 2 (by decide)).2
                  have z2 := (hM4.box.c 2 (by decide)).1
                  have r3 := (rb.c 3 (by decide)).1
                  have g3 := (rb.c 3 (by decide)).2
                  have z3 := (hM4.box.c 3 (by decide)).1
                  simp only [SV.box, List.getD_cons_zero, List.getD_cons_succ] at r0 r1 r2 r3 z0 z1 z2 z3
                  have mz := hM4.box.lt
                  have rz := rb.lt
                  go_wp2
                  refine bodyPost_ret (v := .agg #[.slice a0 il c0, .slice a1 ll c1, .slice a2 dl c2, .slice a ol c]) (by simp [results, Try.results9, go_sem, r0, r1, r2, r3]) rfl ?_
                  obtain ⟨t1, t2⟩ := out_box zle hB hM4.own hM4.bel (.slice a0 il c0) (.slice a1 ll c1) (.slice a2 dl c2) (.slice a ol c)
                  exact ⟨⟨a0, il, c0, a1, ll, c1, a2, dl, c2, a, ol, c, items, locks, doubts, over⟩, rfl, ⟨rfl, rfl, rfl, rfl, rfl, rfl, rfl, rfl⟩, t1, t2⟩
end Go.Proofs.Ytbmbahifkegehaa.St
