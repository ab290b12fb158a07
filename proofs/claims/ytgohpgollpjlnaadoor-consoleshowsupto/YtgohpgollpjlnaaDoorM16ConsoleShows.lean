/- Texts of this claim, one behind the other. -/
import Derived.Test.YtgohpgollpjlnaaDoorM7ConsoleShows
import Derived.Test.YtgohpgollpjlnaaDoorM15ConsoleShows
import Derived.Test.YtgohpgollpjlnaaDoorA14ConsoleShows
/- Contracts of store.by, and of the function that it hands back. -/
namespace Go.Proofs.YtgohpgollpjlnaaDoor.St
open Go.ChangeShapes Go.WideShapes Go.ChangeAt Go.RowKit
set_option linter.unusedVariables false

def byT (t : Int × Int) (ky : Int) (k : LkV) : Bool := decide (k.t = t) && decide (k.key = ky)
set_option maxHeartbeats 1000000 in
theorem by_asks (b0 : Nat) (b1 : Nat) (t : Int × Int) (ky : Int) (w : World) (c00 : w.cell? ⟨b0, 0, none⟩ = some (.int .i64 t.1)) (c01 : w.cell? ⟨b0, 1, none⟩ = some (.int .i64 t.2)) (z0 : b0 < w.heap.size) (c10 : w.cell? ⟨b1, 0, none⟩ = some (.int .i64 ky)) (z1 : b1 < w.heap.size) : Asks 94 #[.pointer (some ⟨b0, 0, none⟩), .pointer (some ⟨b1, 0, none⟩)] LkV.val (byT t ky) w := by
  refine ⟨enters_of Tryd.func94 (by kernel_rfl) rfl, fun x w' hb => ?_⟩
  rw [← hb.cell (p := ⟨b0, 0, none⟩) z0] at c00
  rw [← hb.cell (p := ⟨b0, 1, none⟩) z0] at c01
  have y0 := Nat.lt_of_lt_of_le z0 hb.size
  rw [← hb.cell (p := ⟨b1, 0, none⟩) z1] at c10
  have y1 := Nat.lt_of_lt_of_le z1 hb.size
  obtain ⟨ts, tn⟩ := t
  obtain ⟨⟨site, num⟩, key, write, value, ask⟩ := x
  simp only [LkV.val] at *
  have hA : ∀ o, Below w'.heap.size w' (w'.alloc o) := fun o => (Below.refl _ _).alloc (Nat.le_refl _) _
  show Calls Tryd.prog 94 #[_, .pointer (some ⟨b0, 0, none⟩), .pointer (some ⟨b1, 0, none⟩)] w' _
  go_enter Tryd.func94, Tryd.ntmps94
  go_wp2
  all_goals go_ret
  all_goals exact ⟨ret_bool (by first | (simp_all [byT]; done) | (simp_all [byT]; rfl)), hA _⟩
theorem by_any (t : Int × Int) (ky : Int) (w : World) :
    Calls Tryd.prog 60 #[.agg #[.int .i64 t.1, .int .i64 t.2], .int .i64 ky] w fun e w' => ∃ b0 b1 : Nat, e = .returned (.func (.func 94) #[] #[.pointer (some ⟨b0, 0, none⟩), .pointer (some ⟨b1, 0, none⟩)]) ∧ Asks 94 #[.pointer (some ⟨b0, 0, none⟩), .pointer (some ⟨b1, 0, none⟩)] LkV.val (byT t ky) w' ∧ Below w.heap.size w w' := by
  obtain ⟨ts, tn⟩ := t
  simp only
  obtain ⟨W, hW⟩ : ∃ W : World, W = ((w.alloc (.cells #[.int .i64 ts, .int .i64 tn] 23)).alloc (.cells #[.int .i64 ky] 3)) := ⟨_, rfl⟩
  have hB : Below w.heap.size w W := by rw [hW]; exact (((Below.refl _ _).alloc (Nat.le_refl _) _).alloc (by simp) _)
  have zW : W.heap.size = w.heap.size + 2 := by rw [hW]; simp
  have c00 : W.cell? ⟨w.heap.size, 0, none⟩ = some (.int .i64 ts) := by rw [hW]; go_simp
  have c01 : W.cell? ⟨w.heap.size, 1, none⟩ = some (.int .i64 tn) := by rw [hW]; go_simp
  have c10 : W.cell? ⟨w.heap.size + 1, 0, none⟩ = some (.int .i64 ky) := by rw [hW]; go_simp
  have hq := by_asks w.heap.size (w.heap.size + 1) (ts, tn) ky W c00 c01 (by omega) c10 (by omega)
  go_enter Tryd.func60, Tryd.ntmps60
  go_wp2
  rw [← hW]
  go_ret
  exact ⟨_, _, rfl, hq, hB⟩
end Go.Proofs.YtgohpgollpjlnaaDoor.St
/- Contracts of the document's functions that look through a store: lockOf, others, itemOf, askFault. -/
namespace Go.Proofs.YtgohpgollpjlnaaDoor.St
open Go.ChangeShapes Go.WideShapes Go.ChangeAt Go.RowKit
set_option linter.unusedVariables false

theorem countP_at {α : Type} [Inhabited α] {p : α → Bool} {xs : List α} {j : Nat} (hj : j < xs.length) : (xs.take (j + 1)).countP p = (xs.take j).countP p + (if p (xs.getD j default) then 1 else 0) := by
  rw [take_at hj, List.countP_append]
  simp [List.countP_cons]
end Go.Proofs.YtgohpgollpjlnaaDoor.St
/- The contract of the document's WritesOf; the walk of the law StoreCounts. -/
namespace Go.Proofs.YtgohpgollpjlnaaDoor.St
open Go.ChangeShapes Go.WideShapes Go.ChangeAt Go.RowKit
set_option linter.unusedVariables false

def wOf' (t : Int × Int) (k : LkV) : Bool := decide (k.t = t) && k.write
theorem wOf_same (t : Int × Int) (l : List LkV) : l.countP (wOf' t) = (l.filter (wOf t)).length := by
  rw [← List.countP_eq_length_filter]
  congr 1
  funext k
  simp [wOf', wOf, Bool.and_comm]
theorem ask_cnt (s : SV) (t : Int × Int) : askErr s t 0 = cntErr s t := by
  unfold askErr cntErr
  have : inR 0 0 7 = true := by decide
  rw [this]
  simp

set_option maxRecDepth 100000 in
set_option maxHeartbeats 4000000 in
theorem writesRef_any (s : SV) (t : Int × Int) (w : World) (h : IsStore w s) :
    Calls Tryd.prog 56 #[s.val, .agg #[.int .i64 t.1, .int .i64 t.2]] w fun e w' => e = .returned (.tuple #[.int .i64 (cntIs s t), .int .i64 (cntErr s t)]) ∧ Below w.heap.size w w' := by
  have hC := fun w' h1 => askFault_any s t 0 w' h1
  simp only [ask_cnt] at hC
  obtain ⟨E, e6⟩ : ∃ R : Int, R = cntErr s t := ⟨_, rfl⟩
  obtain ⟨R, e7⟩ : ∃ R, R = cntIs s t := ⟨_, rfl⟩
  have eR : Hid (R = if E = 0 then (s.locks.countP (wOf' t) : Int) else 0) := by rw [e6, wOf_same]; exact e7
  rw [← e6, ← e7]
  rw [← e6] at hC
  clear e6 e7
  have hh := h
  have hl := h.locks
  obtain ⟨ia, il, ic, la, ll, lc, da, dl, dc, oa, ol, oc, items, locks, doubts, over⟩ := s
  obtain ⟨ts, tn⟩ := t
  simp only [SV.val] at *
  obtain ⟨hlen, hcap, hmax, _, hmem⟩ := hl
  have HL : Hid (locks.length = ll) := hlen
  clear hlen
  unfold maxLen at hmax
  obtain ⟨P, eP⟩ : ∃ P, P = wOf' (ts, tn) := ⟨_, rfl⟩
  have EP : Hid (∀ y, P y = (decide (y.t = (ts, tn)) && y.write)) := by show ∀ _, _; rw [eP]; intro y; rfl
  rw [← eP] at eR
  clear eP
  obtain ⟨W, hW⟩ : ∃ W : World, W = (w.alloc (.cells #[.slice ia il ic, .slice la ll lc, .slice da dl dc, .slice oa ol oc] 55)).alloc (.cells #[.int .i64 ts, .int .i64 tn] 23) := ⟨_, rfl⟩
  have hB : Below w.heap.size w W := by rw [hW]; exact ((Below.refl _ _).alloc (Nat.le_refl _) _).alloc (by simp) _
  have zW : W.heap.size = w.heap.size + 2 := by rw [hW]; simp
  have z0 : w.heap.size < W.heap.size := by omega
  have z1 : w.heap.size + 1 < W.heap.size := by omega
  clear zW
  have c0 : W.cell? ⟨w.heap.size, 0, none⟩ = some (.slice ia il ic) := by rw [hW]; go_simp
  have c1 : W.cell? ⟨w.heap.size, 1, none⟩ = some (.slice la ll lc) := by rw [hW]; go_simp
  have c2 : W.cell? ⟨w.heap.size, 2, none⟩ = some (.slice da dl dc) := by rw [hW]; go_simp
  have c3 : W.cell? ⟨w.heap.size, 3, none⟩ = some (.slice oa ol oc) := by rw [hW]; go_simp
  have c4 : W.cell? ⟨w.heap.size + 1, 0, none⟩ = some (.int .i64 ts) := by rw [hW]; go_simp
  have c5 : W.cell? ⟨w.heap.size + 1, 1, none⟩ = some (.int .i64 tn) := by rw [hW]; go_simp
  have KA : Hid (∀ U : World, Below W.heap.size W U → U.cell? ⟨w.heap.size, 0, none⟩ = some (.slice ia il ic) ∧ U.cell? ⟨w.heap.size, 1, none⟩ = some (.slice la ll lc) ∧ U.cell? ⟨w.heap.size, 2, none⟩ = some (.slice da dl dc) ∧ U.cell? ⟨w.heap.size, 3, none⟩ = some (.slice oa ol oc) ∧ U.cell? ⟨w.heap.size + 1, 0, none⟩ = some (.int .i64 ts) ∧ U.cell? ⟨w.heap.size + 1, 1, none⟩ = some (.int .i64 tn)) := fun U hU =>
    ⟨(hU.cell (p := ⟨w.heap.size, 0, none⟩) z0).trans c0, (hU.cell (p := ⟨w.heap.size, 1, none⟩) z0).trans c1, (hU.cell (p := ⟨w.heap.size, 2, none⟩) z0).trans c2, (hU.cell (p := ⟨w.heap.size, 3, none⟩) z0).trans c3, (hU.cell (p := ⟨w.heap.size + 1, 0, none⟩) z1).trans c4, (hU.cell (p := ⟨w.heap.size + 1, 1, none⟩) z1).trans c5⟩
  have hSW := hh.below hB
  go_enter Tryd.func56, Tryd.ntmps56
  go_upto_region 1 with (fail)
  rw [← hW]
  clear hW
  by_cases hE : E = 0
  · subst hE
    go_wp2_with (go_at_call 90; refine (hC _ hSW).mono ?_; rintro e w1 ⟨rfl, hb1⟩)
    clear c0 c1 c2 c3 c4 c5
    go_loopw [7, 8] (fun s7 s8 wr => ∃ (k A : Nat), k ≤ ll ∧ s8 = .int .i64 k ∧ s7 = .int .i64 A ∧ Hid (A = (locks.take k).countP P) ∧ A ≤ k ∧ Below W.heap.size W wr) (fun _ s8 _ => ll - (intOf s8).toNat)
    case atStart => exact ⟨0, 0, Nat.zero_le _, rfl, rfl, rfl, Nat.le_refl _, hb1⟩
    case round =>
      obtain ⟨k, A, hk, rfl, rfl, hA, hAk, hb⟩ := hrel
      have hwr := hB.trans (hb.mono hB.size)
      obtain ⟨c0, c1, c2, c3, c4, c5⟩ := KA.out _ hb
      by_cases hlt : k < ll
      · have hlt' : (k : Int) < (ll : Int) := by omega
        obtain ⟨b, off, rfl, zb, hc⟩ := hmem (by omega)
        have hkl : k < locks.length := by have := HL.out; omega
        have hcells := hc k hlt
        have n1 := countP_at (p := P) hkl
        obtain ⟨x, ex⟩ : ∃ x, x = locks.getD k default := ⟨_, rfl⟩
        rw [← ex] at hcells n1
        clear ex
        rw [EP.out, ← hA.out] at n1
        obtain ⟨⟨site, num⟩, key2, write, value, ask⟩ := x
        simp only at n1
        have N1 : Hid ((locks.take (k + 1)).countP P = A + if (decide ((site, num) = (ts, tn)) && write) = true then 1 else 0) := n1
        clear n1 hA
        have a0 := hcells 0 (by decide)
        have a1 := hcells 1 (by decide)
        have a3 := hcells 3 (by decide)
        simp [LkV.cells] at a0 a1 a3
        rw [← hwr.cell (p := ⟨b, off + k * 6, none⟩) zb] at a0
        rw [← hwr.cell (p := ⟨b, off + k * 6 + 1, none⟩) zb] at a1
        rw [← hwr.cell (p := ⟨b, off + k * 6 + 3, none⟩) zb] at a3
        clear hcells hc
        have k63 : (k : Int) < 9223372036854775807 := by omega
        by_cases e1 : site = ts
        · by_cases e2 : num = tn
          · subst e1 e2
            cases write with
            | true =>
              go_wp2
              go_quiet (fail)
              go_wp2
              go_roundw
              case rel => exact ⟨k + 1, A + 1, by omega, by go_num, by go_num, by show _ = _; rw [N1.out]; simp, by omega, below_drewN hb nq⟩
              case measure => simp [intOf]; omega
            | false =>
              go_wp2
              go_quiet (fail)
              go_wp2
              go_roundw
              case rel => exact ⟨k + 1, A, by omega, by go_num, rfl, by show _ = _; rw [N1.out]; simp, by omega, below_drewN hb nq⟩
              case measure => simp [intOf]; omega
          · have e3 : (num == tn) = false := by simpa using e2
            subst e1
            go_wp2
            go_quiet (fail)
            go_wp2
            go_roundw
            case rel => exact ⟨k + 1, A, by omega, by go_num, rfl, by show _ = _; rw [N1.out]; simp [e2], by omega, below_drewN hb nq⟩
            case measure => simp [intOf]; omega
        · have e3 : (site == ts) = false := by simpa using e1
          go_wp2
          go_quiet (fail)
          go_wp2
          go_roundw
          case rel => exact ⟨k + 1, A, by omega, by go_num, rfl, by show _ = _; rw [N1.out]; simp [e1], by omega, below_drewN hb nq⟩
          case measure => simp [intOf]; omega
      · have hke : k = ll := by omega
        have etk : locks.take k = locks := List.take_of_length_le (by have := HL.out; omega)
        have hA' := hA.out
        rw [etk] at hA'
        clear etk hke hA
        subst hA'
        go_wp2
        go_ret2
        exact ⟨by rw [eR.out]; rfl, hwr⟩
  · go_wp2_with (go_at_call 90; refine (hC _ hSW).mono ?_; rintro e w1 ⟨rfl, hb1⟩)
    go_ret2
    exact ⟨by rw [eR.out, if_neg hE]; rfl, hB.trans (hb1.mono hB.size)⟩
end Go.Proofs.YtgohpgollpjlnaaDoor.St
