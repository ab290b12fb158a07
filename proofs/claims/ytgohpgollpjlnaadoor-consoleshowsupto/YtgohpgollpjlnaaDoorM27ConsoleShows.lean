/- Texts of this claim, one behind the other. -/
import Derived.Test.YtgohpgollpjlnaaDoorM7ConsoleShows
import Derived.Deep.Cut
import Derived.Test.YtgohpgollpjlnaaDoorM26ConsoleShows
/- The contract of store.item: the first item of a key; one that was never written has the value 0, and the version 0. -/
namespace Go.Proofs.YtgohpgollpjlnaaDoor.St
open Go.ChangeShapes Go.WideShapes Go.ChangeAt Go.RowKit
set_option linter.unusedVariables false

def kyT (ky : Int) (x : ItV) : Bool := decide (x.key = ky)
def itemAt (l : List ItV) (ky : Int) : ItV := if idxI (kyT ky) l < 0 then ⟨ky, 0, 0⟩ else l.getD (idxI (kyT ky) l).toNat default

theorem item1_asks (b : Nat) (ky : Int) (w : World) (c0 : w.cell? ⟨b, 0, none⟩ = some (.int .i64 ky)) (z : b < w.heap.size) : Asks 93 #[.pointer (some ⟨b, 0, none⟩)] ItV.val (kyT ky) w := by
  refine ⟨enters_of Tryd.func93 (by kernel_rfl) rfl, fun x w' hb => ?_⟩
  rw [← hb.cell (p := ⟨b, 0, none⟩) z] at c0
  have y := Nat.lt_of_lt_of_le z hb.size
  obtain ⟨key, value, version⟩ := x
  simp only [ItV.val] at *
  have hA : ∀ o, Below w'.heap.size w' (w'.alloc o) := fun o => (Below.refl _ _).alloc (Nat.le_refl _) _
  show Calls Tryd.prog 93 #[_, .pointer (some ⟨b, 0, none⟩)] w' _
  go_enter Tryd.func93, Tryd.ntmps93
  go_wp2
  all_goals go_ret
  all_goals exact ⟨ret_bool (by first | (simp_all [kyT]; done) | (simp_all [kyT]; rfl)), hA _⟩

set_option maxHeartbeats 1000000 in
theorem item_any (s : SV) (ky : Int) (w : World) (h : IsItems w s.ia s.il s.ic s.items) :
    Calls Tryd.prog 58 #[s.val, .int .i64 ky] w fun e w' => e = .returned (itemAt s.items ky).val ∧ Below w.heap.size w w' := by
  obtain ⟨ia, il, ic, la, ll, lc, da, dl, dc, oa, ol, oc, items, locks, doubts, over⟩ := s
  simp only [SV.val] at *
  have hI := fun fn cps w' h1 h2 => indexItem_any fn cps (kyT ky) ia il ic items w' h1 h2
  have hlt := idxI_lt (p := kyT ky) (l := items)
  have eR : Hid (itemAt items ky = if idxI (kyT ky) items < 0 then ⟨ky, 0, 0⟩ else items.getD (idxI (kyT ky) items).toNat default) := rfl
  obtain ⟨R, e0⟩ : ∃ R, R = itemAt items ky := ⟨_, rfl⟩
  obtain ⟨J, e1⟩ : ∃ J, J = idxI (kyT ky) items := ⟨_, rfl⟩
  rw [← e0, ← e1] at eR
  rw [← e1] at hI hlt
  rw [← e0]
  clear e0 e1
  obtain ⟨rk, rv, rn⟩ := R
  simp only [ItV.val]
  obtain ⟨W, hW⟩ : ∃ W : World, W = ((w.alloc (.cells #[.slice ia il ic, .slice la ll lc, .slice da dl dc, .slice oa ol oc] 55)).alloc (.cells #[.int .i64 ky] 3)).alloc (.cells #[.int .i64 0, .int .i64 0, .int .i64 0] 109) := ⟨_, rfl⟩
  have hB : Below w.heap.size w W := by rw [hW]; exact (((Below.refl _ _).alloc (Nat.le_refl _) _).alloc (by simp) _).alloc (by simp; omega) _
  have zW : W.heap.size = w.heap.size + 3 := by rw [hW]; simp
  have c0 : W.cell? ⟨w.heap.size, 0, none⟩ = some (.slice ia il ic) := by rw [hW]; go_simp
  have ck : W.cell? ⟨w.heap.size + 1, 0, none⟩ = some (.int .i64 ky) := by rw [hW]; go_simp
  have r0 : W.cell? ⟨w.heap.size + 2, 0, none⟩ = some (.int .i64 0) := by rw [hW]; go_simp
  have r1 : W.cell? ⟨w.heap.size + 2, 1, none⟩ = some (.int .i64 0) := by rw [hW]; go_simp
  have r2 : W.cell? ⟨w.heap.size + 2, 2, none⟩ = some (.int .i64 0) := by rw [hW]; go_simp
  have f0 : W.frozen? ⟨w.heap.size + 2, 0, none⟩ = false := by rw [hW]; go_simp
  have f1 : W.frozen? ⟨w.heap.size + 2, 1, none⟩ = false := by rw [hW]; go_simp
  have f2 : W.frozen? ⟨w.heap.size + 2, 2, none⟩ = false := by rw [hW]; go_simp
  have z0 : w.heap.size < W.heap.size := by omega
  have z1 : w.heap.size + 1 < W.heap.size := by omega
  have z2 : w.heap.size + 2 < W.heap.size := by omega
  have hX := h.below hB
  have hAs := item1_asks (w.heap.size + 1) ky W ck z1
  clear zW
  go_enter Tryd.func58, Tryd.ntmps58
  go_upto_region 1 with (fail)
  rw [← hW]
  clear hW
  go_upto_region 2 with (go_at_call 92; refine (hI _ _ _ hX hAs).mono ?_; rintro e w1 ⟨rfl, hb1⟩)
  have d0 := (hb1.cell (p := ⟨w.heap.size, 0, none⟩) z0).trans c0
  have dk := (hb1.cell (p := ⟨w.heap.size + 1, 0, none⟩) z1).trans ck
  have s0 := (hb1.cell (p := ⟨w.heap.size + 2, 0, none⟩) z2).trans r0
  have s1 := (hb1.cell (p := ⟨w.heap.size + 2, 1, none⟩) z2).trans r1
  have s2 := (hb1.cell (p := ⟨w.heap.size + 2, 2, none⟩) z2).trans r2
  have g0 := (hb1.frozen (p := ⟨w.heap.size + 2, 0, none⟩) z2).trans f0
  have g1 := (hb1.frozen (p := ⟨w.heap.size + 2, 1, none⟩) z2).trans f1
  have g2 := (hb1.frozen (p := ⟨w.heap.size + 2, 2, none⟩) z2).trans f2
  have hw1 := hB.trans (hb1.mono hB.size)
  have hfin : ∀ x y z, Below w.heap.size w (((w1.setCell ⟨w.heap.size + 2, 0, none⟩ x).setCell ⟨w.heap.size + 2, 1, none⟩ y).setCell ⟨w.heap.size + 2, 2, none⟩ z) := fun x y z =>
    ((hw1.setCell (by simp) _).setCell (by simp) _).setCell (by simp) _
  by_cases hJ : J < 0
  · have hR := eR.out
    rw [if_pos hJ] at hR
    clear eR
    obtain ⟨rfl, rfl, rfl⟩ := ItV.mk.inj hR
    go_wp2
    refine bodyPost_ret (v := .agg #[.int .i64 _, .int .i64 0, .int .i64 0]) (by simp [results, Tryd.results58, go_sem, s0, s1, s2]) rfl ⟨rfl, hfin _ _ _⟩
  · have hR := eR.out
    rw [if_neg hJ] at hR
    obtain ⟨j, rfl⟩ : ∃ j : Nat, J = j := ⟨J.toNat, by omega⟩
    have hjl : j < items.length := by omega
    obtain ⟨xl, _, hmax, _, xm⟩ := h
    unfold maxLen at hmax
    obtain ⟨b, off, rfl, zb, hc⟩ := xm (by omega)
    have hcells := hc j (by omega)
    have hji : (j : Int) < (il : Int) := by omega
    simp only [Int.toNat_natCast] at hR
    rw [← hR] at hcells
    clear hR eR xl hc
    have a0 := hcells 0 (by decide)
    have a1 := hcells 1 (by decide)
    have a2 := hcells 2 (by decide)
    simp [ItV.cells] at a0 a1 a2
    rw [← hw1.cell (p := ⟨b, off + j * 3, none⟩) zb] at a0
    rw [← hw1.cell (p := ⟨b, off + j * 3 + 1, none⟩) zb] at a1
    rw [← hw1.cell (p := ⟨b, off + j * 3 + 2, none⟩) zb] at a2
    have hJ' : ¬ (j : Int) < 0 := by omega
    go_wp2
    refine bodyPost_ret (v := .agg #[.int .i64 rk, .int .i64 rv, .int .i64 rn]) (by simp [results, Tryd.results58, go_sem, s0, s1, s2]) rfl ⟨rfl, hfin _ _ _⟩
end Go.Proofs.YtgohpgollpjlnaaDoor.St
/- Contracts of store.by, and of the function that it hands back. -/
namespace Go.Proofs.YtgohpgollpjlnaaDoor.St
open Go.ChangeShapes Go.WideShapes Go.ChangeAt Go.RowKit
set_option linter.unusedVariables false

def byT (t : Int × Int) (ky : Int) (k : LkV) : Bool := decide (k.t = t) && decide (k.key = ky)
set_option maxHeartbeats 1000000 in
theorem by_asks (b0 : Nat) (b1 : Nat) (t : Int × Int) (ky : Int) (w : World) (c00 : w.cell? ⟨b0, 0, none⟩ = some (.int .i64 t.1)) (c01 : w.cell? ⟨b0, 1, none⟩ = some (.int .i64 t.2)) (z0 : b0 < w.heap.size) (c10 : w.cell? ⟨b1, 0, none⟩ = some (.int .i64 ky)) (z1 : b1 < w.heap.size) : Asks 94 #[.pointer (some ⟨b0, 0, none⟩), .pointer (some ⟨b1, 0, none⟩)] LkV.val (byT t ky) w := by
  refine ⟨enters_of Tryd.func94 (by kernel_rfl) rfl, fun x w' hb => ?_⟩
  rw [← hb.cell (p := ⟨b0, 0, none⟩) z0] at c00
  rw [← hb.cell (p := ⟨b0, 1, none⟩) z0] at c01
  have y0 := Nat.lt_of_lt_of_le z0 hb.size
  rw [← hb.cell (p := ⟨b1, 0, none⟩) z1] at c10
  have y1 := Nat.lt_of_lt_of_le z1 hb.size
  obtain ⟨ts, tn⟩ := t
  obtain ⟨⟨site, num⟩, key, write, value, ask⟩ := x
  simp only [LkV.val] at *
  have hA : ∀ o, Below w'.heap.size w' (w'.alloc o) := fun o => (Below.refl _ _).alloc (Nat.le_refl _) _
  show Calls Tryd.prog 94 #[_, .pointer (some ⟨b0, 0, none⟩), .pointer (some ⟨b1, 0, none⟩)] w' _
  go_enter Tryd.func94, Tryd.ntmps94
  go_wp2
  all_goals go_ret
  all_goals exact ⟨ret_bool (by first | (simp_all [byT]; done) | (simp_all [byT]; rfl)), hA _⟩
theorem by_any (t : Int × Int) (ky : Int) (w : World) :
    Calls Tryd.prog 60 #[.agg #[.int .i64 t.1, .int .i64 t.2], .int .i64 ky] w fun e w' => ∃ b0 b1 : Nat, e = .returned (.func (.func 94) #[] #[.pointer (some ⟨b0, 0, none⟩), .pointer (some ⟨b1, 0, none⟩)]) ∧ Asks 94 #[.pointer (some ⟨b0, 0, none⟩), .pointer (some ⟨b1, 0, none⟩)] LkV.val (byT t ky) w' ∧ Below w.heap.size w w' := by
  obtain ⟨ts, tn⟩ := t
  simp only
  obtain ⟨W, hW⟩ : ∃ W : World, W = ((w.alloc (.cells #[.int .i64 ts, .int .i64 tn] 23)).alloc (.cells #[.int .i64 ky] 3)) := ⟨_, rfl⟩
  have hB : Below w.heap.size w W := by rw [hW]; exact (((Below.refl _ _).alloc (Nat.le_refl _) _).alloc (by simp) _)
  have zW : W.heap.size = w.heap.size + 2 := by rw [hW]; simp
  have c00 : W.cell? ⟨w.heap.size, 0, none⟩ = some (.int .i64 ts) := by rw [hW]; go_simp
  have c01 : W.cell? ⟨w.heap.size, 1, none⟩ = some (.int .i64 tn) := by rw [hW]; go_simp
  have c10 : W.cell? ⟨w.heap.size + 1, 0, none⟩ = some (.int .i64 ky) := by rw [hW]; go_simp
  have hq := by_asks w.heap.size (w.heap.size + 1) (ts, tn) ky W c00 c01 (by omega) c10 (by omega)
  go_enter Tryd.func60, Tryd.ntmps60
  go_wp2
  rw [← hW]
  go_ret
  exact ⟨_, _, rfl, hq, hB⟩
end Go.Proofs.YtgohpgollpjlnaaDoor.St
/- Contracts of the document's functions that look through a store: lockOf, others, itemOf, askFault. -/
namespace Go.Proofs.YtgohpgollpjlnaaDoor.St
open Go.ChangeShapes Go.WideShapes Go.ChangeAt Go.RowKit
set_option linter.unusedVariables false

theorem countP_at {α : Type} [Inhabited α] {p : α → Bool} {xs : List α} {j : Nat} (hj : j < xs.length) : (xs.take (j + 1)).countP p = (xs.take j).countP p + (if p (xs.getD j default) then 1 else 0) := by
  rw [take_at hj, List.countP_append]
  simp [List.countP_cons]
end Go.Proofs.YtgohpgollpjlnaaDoor.St
