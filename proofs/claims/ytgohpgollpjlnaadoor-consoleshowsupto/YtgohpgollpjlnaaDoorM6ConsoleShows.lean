/- Texts of this claim, one behind the other. -/
import Derived.Test.YtgohpgollpjlnaaDoorM5ConsoleShows
import Derived.Deep.RegionHeld3
import Derived.Deep.DeepCutAuto
/- The contract of fresh.Store: the same in memory of its own, the four lists apart. -/
namespace Go.Proofs.YtgohpgollpjlnaaDoor.St
open Go.ChangeShapes Go.WideShapes Go.ChangeAt Go.RowKit
set_option linter.unusedVariables false

theorem sD {W V : World} (h : Below W.heap.size W V) : Below W.heap.size W V.drew := h.drew
theorem sT {W V V' : World} (h : Below W.heap.size W V) (hb : Below V.heap.size V V') : Below W.heap.size W V' := h.trans (hb.mono h.size)
theorem sS {W V : World} {n i : Nat} (h : Below n W V) (v : Value) : Below n W (V.setCell ⟨n, i, none⟩ v) := h.setCell (p := ⟨n, i, none⟩) (Nat.le_refl _) v
theorem sGrown {w w' : World} (h : w.grownBy w' none) : Below w.heap.size w w' := (Below.refl w.heap.size w).grown h (Nat.le_refl _) (fun k hk => by cases hk)
theorem own_base {w : World} {b c : Nat} {e : TypeId} {size : Nat} {v : Value} {n : Nat} {xs : List Value} (h : w.ownsRow b e size v n xs) (hc : c ≤ b) : w.ownsRow c e size v n xs := by
  refine ⟨h.1, ?_⟩
  rcases h.2 with h2 | ⟨g, cap, cur, hv, hb, r⟩
  · exact .inl h2
  · exact .inr ⟨g, cap, cur, hv, Nat.le_trans hc hb, r⟩
theorem own_st {U : World} {W n : Nat} {e : TypeId} {size : Nat} {v : Value} {k : Nat} {xs : List Value} (hz : W = n + 2) (h : U.ownsRow W e size v k xs) (p0 p1 p2 p3 : Value) : ((((U.setCell ⟨n + 1, 0, none⟩ p0).setCell ⟨n + 1, 1, none⟩ p1).setCell ⟨n + 1, 2, none⟩ p2).setCell ⟨n + 1, 3, none⟩ p3).ownsRow n e size v k xs := by
  subst hz
  refine own_base (b := n + 2) ?_ (by omega)
  refine ownsRow_setCell_below (ownsRow_setCell_below (ownsRow_setCell_below (ownsRow_setCell_below h ?_ _) ?_ _) ?_ _) ?_ _
  all_goals exact Nat.lt_succ_self _
theorem fin_st {w W U : World} (hB : Below w.heap.size w W) (h : Below W.heap.size W U) (p0 p1 p2 p3 : Value) : Below w.heap.size w ((((U.setCell ⟨w.heap.size + 1, 0, none⟩ p0).setCell ⟨w.heap.size + 1, 1, none⟩ p1).setCell ⟨w.heap.size + 1, 2, none⟩ p2).setCell ⟨w.heap.size + 1, 3, none⟩ p3) := by
  refine Below.setCell (Below.setCell (Below.setCell (Below.setCell (hB.trans (h.mono hB.size)) ?_ _) ?_ _) ?_ _) ?_ _
  all_goals exact Nat.le_succ _
/-- Two rows that do not share their block. -/
def Apart (x y : Value) : Prop := ∀ m, x.ownBlock = some m → y.ownBlock ≠ some m
theorem Apart.symm {x y : Value} (h : Apart x y) : Apart y x := fun m hy hx => h m hx hy
theorem apart_of {x y : Value} {u W : World} (h1 : ∀ m, x.ownBlock = some m → m < u.heap.size) (at2 : y.ownBlock = (Value.slice none 0 0).ownBlock ∨ y.ownBlock = some W.heap.size) (hb : Below u.heap.size u W) : Apart x y := fun m hx hy => by
  have h2 := h1 m hx
  have h3 := hb.size
  rcases at2 with h | h <;> rw [h] at hy
  · simp [Value.ownBlock] at hy
  · simp at hy; omega
/-- The store's four lists are rows of the call's own, apart from one another. -/
structure OwnStore (w : World) (B : Nat) (s : SV) : Prop where
  items : w.ownsRow B 109 3 (.slice s.ia s.il s.ic) s.il (flat ItV.cells s.items)
  locks : w.ownsRow B 111 6 (.slice s.la s.ll s.lc) s.ll (flat LkV.cells s.locks)
  doubts : w.ownsRow B 60 3 (.slice s.da s.dl s.dc) s.dl (flat DbV.cells s.doubts)
  over : w.ownsRow B 23 2 (.slice s.oa s.ol s.oc) s.ol (flat txCells s.over)
  ap_il : Apart (.slice s.ia s.il s.ic) (.slice s.la s.ll s.lc)
  ap_id : Apart (.slice s.ia s.il s.ic) (.slice s.da s.dl s.dc)
  ap_io : Apart (.slice s.ia s.il s.ic) (.slice s.oa s.ol s.oc)
  ap_ld : Apart (.slice s.la s.ll s.lc) (.slice s.da s.dl s.dc)
  ap_lo : Apart (.slice s.la s.ll s.lc) (.slice s.oa s.ol s.oc)
  ap_do : Apart (.slice s.da s.dl s.dc) (.slice s.oa s.ol s.oc)
def SV.same (s r : SV) : Prop := r.items = s.items ∧ r.locks = s.locks ∧ r.doubts = s.doubts ∧ r.over = s.over ∧ r.il = s.il ∧ r.ll = s.ll ∧ r.dl = s.dl ∧ r.ol = s.ol

theorem it_len (x : ItV) : (ItV.cells x).length = 3 := rfl
theorem it_one (y : ItV) : ∀ u ∈ ItV.cells y, u.oneCell' = true := by
  intro u hu
  simp [ItV.cells] at hu
  rcases hu with h | h | h <;> subst h <;> rfl
theorem itInfo : (Tryd.prog.info? 109).map (fun i => (i.zero, i.size, i.bytes)) = some (some (.agg #[.int .i64 0, .int .i64 0, .int .i64 0]), 3, 24) := by kernel_rfl
theorem itElem : ∃ i, Elem 3 ItV.cells 109 50 i (.agg #[.int .i64 0, .int .i64 0, .int .i64 0]) 24 := by
  obtain ⟨j0, hj, lj0, lj1, lj2⟩ := info_parts itInfo
  exact ⟨j0, it_len, by decide, it_one, Tryd.underlying50, hj, lj0, lj1, lj2, rfl⟩
theorem lkElem : ∃ i, Elem 6 LkV.cells 111 51 i (.agg #[.int .i64 0, .int .i64 0, .int .i64 0, .bool false, .int .i64 0, .int .i64 0]) 48 := by
  obtain ⟨j0, hj, lj0, lj1, lj2⟩ := info_parts lkInfo
  exact ⟨j0, lk_len, by decide, lk_one, Tryd.underlying51, hj, lj0, lj1, lj2, rfl⟩
theorem db_len (x : DbV) : (DbV.cells x).length = 3 := rfl
theorem db_one (y : DbV) : ∀ u ∈ DbV.cells y, u.oneCell' = true := by
  intro u hu
  simp [DbV.cells] at hu
  rcases hu with h | h | h <;> subst h <;> rfl
theorem dbInfo : (Tryd.prog.info? 60).map (fun i => (i.zero, i.size, i.bytes)) = some (some (.agg #[.int .i64 0, .int .i64 0, .int .i64 0]), 3, 24) := by kernel_rfl
theorem dbElem : ∃ i, Elem 3 DbV.cells 60 52 i (.agg #[.int .i64 0, .int .i64 0, .int .i64 0]) 24 := by
  obtain ⟨j0, hj, lj0, lj1, lj2⟩ := info_parts dbInfo
  exact ⟨j0, db_len, by decide, db_one, Tryd.underlying52, hj, lj0, lj1, lj2, rfl⟩
theorem tx_len (x : Int × Int) : (txCells x).length = 2 := rfl
theorem tx_one (y : Int × Int) : ∀ u ∈ txCells y, u.oneCell' = true := by
  intro u hu
  simp [txCells] at hu
  rcases hu with h | h <;> subst h <;> rfl
theorem txInfo : (Tryd.prog.info? 23).map (fun i => (i.zero, i.size, i.bytes)) = some (some (.agg #[.int .i64 0, .int .i64 0]), 2, 16) := by kernel_rfl
theorem txElem : ∃ i, Elem 2 txCells 23 53 i (.agg #[.int .i64 0, .int .i64 0]) 16 := by
  obtain ⟨j0, hj, lj0, lj1, lj2⟩ := info_parts txInfo
  exact ⟨j0, tx_len, by decide, tx_one, Tryd.underlying53, hj, lj0, lj1, lj2, rfl⟩

set_option maxRecDepth 100000 in
set_option maxHeartbeats 8000000 in
theorem own_any (s : SV) (w : World) (h : IsStore w s) (h1 : s.il ≤ 100) (h2 : s.ll ≤ 100) (h3 : s.dl ≤ 100) (h4 : s.ol * 16 ≤ 140737488351232) :
    Calls Tryd.prog 63 #[s.val] w fun e w' => ∃ r : SV, e = .returned r.val ∧ s.same r ∧ OwnStore w' w.heap.size r ∧ Below w.heap.size w w' := by
  obtain ⟨i1, E1⟩ := itElem
  obtain ⟨i2, E2⟩ := lkElem
  obtain ⟨i3, E3⟩ := dbElem
  obtain ⟨i4, E4⟩ := txElem
  simp only [SV.val]
  obtain ⟨W, hW⟩ : ∃ W : World, W = (w.alloc (.cells #[.slice s.ia s.il s.ic, .slice s.la s.ll s.lc, .slice s.da s.dl s.dc, .slice s.oa s.ol s.oc] 55)).alloc (.cells #[.slice none 0 0, .slice none 0 0, .slice none 0 0, .slice none 0 0] 55) := ⟨_, rfl⟩
  have hB : Below w.heap.size w W := by rw [hW]; exact ((Below.refl _ _).alloc (Nat.le_refl _) _).alloc (by simp) _
  have hz : W.heap.size = w.heap.size + 2 := by rw [hW]; simp
  have HZ : Hid (W.heap.size = w.heap.size + 2) := hz
  have hS := h.below hB
  have HS : Hid (∀ U, Below W.heap.size W U → IsStore U s) := fun U hU => hS.below hU
  have d0 : W.cell? ⟨w.heap.size, 0, none⟩ = some (.slice s.ia s.il s.ic) := by rw [hW]; go_simp
  have d1 : W.cell? ⟨w.heap.size, 1, none⟩ = some (.slice s.la s.ll s.lc) := by rw [hW]; go_simp
  have d2 : W.cell? ⟨w.heap.size, 2, none⟩ = some (.slice s.da s.dl s.dc) := by rw [hW]; go_simp
  have d3 : W.cell? ⟨w.heap.size, 3, none⟩ = some (.slice s.oa s.ol s.oc) := by rw [hW]; go_simp
  have y0 : W.cell? ⟨w.heap.size + 1, 0, none⟩ = some (.slice none 0 0) := by rw [hW]; go_simp
  have g0 : W.frozen? ⟨w.heap.size + 1, 0, none⟩ = false := by rw [hW]; go_simp
  have y1 : W.cell? ⟨w.heap.size + 1, 1, none⟩ = some (.slice none 0 0) := by rw [hW]; go_simp
  have g1 : W.frozen? ⟨w.heap.size + 1, 1, none⟩ = false := by rw [hW]; go_simp
  have y2 : W.cell? ⟨w.heap.size + 1, 2, none⟩ = some (.slice none 0 0) := by rw [hW]; go_simp
  have g2 : W.frozen? ⟨w.heap.size + 1, 2, none⟩ = false := by rw [hW]; go_simp
  have y3 : W.cell? ⟨w.heap.size + 1, 3, none⟩ = some (.slice none 0 0) := by rw [hW]; go_simp
  have g3 : W.frozen? ⟨w.heap.size + 1, 3, none⟩ = false := by rw [hW]; go_simp
  have KD : Hid (∀ U : World, Below (w.heap.size + 1) W U → U.cell? ⟨w.heap.size, 0, none⟩ = some (.slice s.ia s.il s.ic) ∧ U.cell? ⟨w.heap.size, 1, none⟩ = some (.slice s.la s.ll s.lc) ∧ U.cell? ⟨w.heap.size, 2, none⟩ = some (.slice s.da s.dl s.dc) ∧ U.cell? ⟨w.heap.size, 3, none⟩ = some (.slice s.oa s.ol s.oc)) := fun U hU => ⟨(hU.cell (p := ⟨w.heap.size, 0, none⟩) (Nat.lt_succ_self _)).trans d0, (hU.cell (p := ⟨w.heap.size, 1, none⟩) (Nat.lt_succ_self _)).trans d1, (hU.cell (p := ⟨w.heap.size, 2, none⟩) (Nat.lt_succ_self _)).trans d2, (hU.cell (p := ⟨w.heap.size, 3, none⟩) (Nat.lt_succ_self _)).trans d3⟩
  have KB : Hid (∀ U : World, Below W.heap.size W U → U.cell? ⟨w.heap.size + 1, 0, none⟩ = some (.slice none 0 0) ∧ U.frozen? ⟨w.heap.size + 1, 0, none⟩ = false ∧ U.cell? ⟨w.heap.size + 1, 1, none⟩ = some (.slice none 0 0) ∧ U.frozen? ⟨w.heap.size + 1, 1, none⟩ = false ∧ U.cell? ⟨w.heap.size + 1, 2, none⟩ = some (.slice none 0 0) ∧ U.frozen? ⟨w.heap.size + 1, 2, none⟩ = false ∧ U.cell? ⟨w.heap.size + 1, 3, none⟩ = some (.slice none 0 0) ∧ U.frozen? ⟨w.heap.size + 1, 3, none⟩ = false) := fun U hU => ⟨(hU.cell (p := ⟨w.heap.size + 1, 0, none⟩) (by rw [HZ.out]; exact Nat.lt_succ_self _)).trans y0, (hU.frozen (p := ⟨w.heap.size + 1, 0, none⟩) (by rw [HZ.out]; exact Nat.lt_succ_self _)).trans g0, (hU.cell (p := ⟨w.heap.size + 1, 1, none⟩) (by rw [HZ.out]; exact Nat.lt_succ_self _)).trans y1, (hU.frozen (p := ⟨w.heap.size + 1, 1, none⟩) (by rw [HZ.out]; exact Nat.lt_succ_self _)).trans g1, (hU.cell (p := ⟨w.heap.size + 1, 2, none⟩) (by rw [HZ.out]; exact Nat.lt_succ_self _)).trans y2, (hU.frozen (p := ⟨w.heap.size + 1, 2, none⟩) (by rw [HZ.out]; exact Nat.lt_succ_self _)).trans g2, (hU.cell (p := ⟨w.heap.size + 1, 3, none⟩) (by rw [HZ.out]; exact Nat.lt_succ_self _)).trans y3, (hU.frozen (p := ⟨w.heap.size + 1, 3, none⟩) (by rw [HZ.out]; exact Nat.lt_succ_self _)).trans g3⟩
  clear y0 y1 y2 y3 g0 g1 g2 g3 hS hz
  go_enter Tryd.func63, Tryd.ntmps63
  go_upto_region 1 with (fail)
  rw [← hW]
  clear hW
  go_region_held3 (fun U => U.cell? ⟨w.heap.size, 0, none⟩ = some (.slice s.ia s.il s.ic) ∧ U.cell? ⟨w.heap.size, 1, none⟩ = some (.slice s.la s.ll s.lc) ∧ U.cell? ⟨w.heap.size, 2, none⟩ = some (.slice s.da s.dl s.dc) ∧ U.cell? ⟨w.heap.size, 3, none⟩ = some (.slice s.oa s.ol s.oc))
    (exact KD.out _ (by (with_reducible repeat (refine sS ?_ _)); refine Below.mono (B := W.heap.size) ?_ (by rw [HZ.out]; omega); (with_reducible repeat (first | exact Below.refl _ _ | refine sD ?_ | refine sT ?_ hb1' | refine sT ?_ hb2' | refine sT ?_ hb3' | refine sT ?_ hb4')); done))
    (first
      | (refine step_append_row E1 (by rfl) (.const (.slice none 0 0)) (.tmp 4) (by rfl) W.heap.size (.slice none 0 0) 0 [] (by rfl) (World.ownsRow_nil _ _ _ _) s.ia s.il s.ic s.items (by rfl) (HS.out _ (by (with_reducible repeat (first | exact Below.refl _ _ | refine sD ?_ | refine sT ?_ hb1' | refine sT ?_ hb2' | refine sT ?_ hb3' | refine sT ?_ hb4')); done)).items (by unfold maxLen; omega) (by omega) (Below.size (show Below W.heap.size W _ from (by (with_reducible repeat (first | exact Below.refl _ _ | refine sD ?_ | refine sT ?_ hb1' | refine sT ?_ hb2' | refine sT ?_ hb3' | refine sT ?_ hb4')); done))) ?_; intro a1 c1 w1 own1 gr1 at1; simp only [Nat.zero_add, List.nil_append] at own1 at1 ⊢; have hb1' := sGrown gr1; have K1 : Hid (∀ U, Below w1.heap.size w1 U → U.ownsRow W.heap.size 109 3 (.slice a1 s.il c1) s.il (flat ItV.cells s.items)) := fun U hU => own_below own1 hU; have S1 : Hid (∀ m, (Value.slice a1 s.il c1).ownBlock = some m → m < w1.heap.size) := fun m hm => (own1.lt m hm).2; try (have A21 : Hid (Apart (.slice a2 s.ll c2) (.slice a1 s.il c1)) := apart_of S2.out at1 (by (with_reducible repeat (first | exact Below.refl _ _ | refine sD ?_ | refine sT ?_ hb1' | refine sT ?_ hb2' | refine sT ?_ hb3' | refine sT ?_ hb4')); done)); try (have A31 : Hid (Apart (.slice a3 s.dl c3) (.slice a1 s.il c1)) := apart_of S3.out at1 (by (with_reducible repeat (first | exact Below.refl _ _ | refine sD ?_ | refine sT ?_ hb1' | refine sT ?_ hb2' | refine sT ?_ hb3' | refine sT ?_ hb4')); done)); try (have A41 : Hid (Apart (.slice a4 s.ol c4) (.slice a1 s.il c1)) := apart_of S4.out at1 (by (with_reducible repeat (first | exact Below.refl _ _ | refine sD ?_ | refine sT ?_ hb1' | refine sT ?_ hb2' | refine sT ?_ hb3' | refine sT ?_ hb4')); done)); clear own1 gr1 at1; try (have _q1 := K1; have _q2 := K2; have _q3 := K3; have _q4 := K4; clear _q1 _q2 _q3 _q4; obtain ⟨z0, f0, z1, f1, z2, f2, z3, f3⟩ := KB.out w1 (by (with_reducible repeat (first | exact Below.refl _ _ | refine sD ?_ | refine sT ?_ hb1' | refine sT ?_ hb2' | refine sT ?_ hb3' | refine sT ?_ hb4')); done)))
      | (refine step_append_row E2 (by rfl) (.const (.slice none 0 0)) (.tmp 7) (by rfl) W.heap.size (.slice none 0 0) 0 [] (by rfl) (World.ownsRow_nil _ _ _ _) s.la s.ll s.lc s.locks (by rfl) (HS.out _ (by (with_reducible repeat (first | exact Below.refl _ _ | refine sD ?_ | refine sT ?_ hb1' | refine sT ?_ hb2' | refine sT ?_ hb3' | refine sT ?_ hb4')); done)).locks (by unfold maxLen; omega) (by omega) (Below.size (show Below W.heap.size W _ from (by (with_reducible repeat (first | exact Below.refl _ _ | refine sD ?_ | refine sT ?_ hb1' | refine sT ?_ hb2' | refine sT ?_ hb3' | refine sT ?_ hb4')); done))) ?_; intro a2 c2 w2 own2 gr2 at2; simp only [Nat.zero_add, List.nil_append] at own2 at2 ⊢; have hb2' := sGrown gr2; have K2 : Hid (∀ U, Below w2.heap.size w2 U → U.ownsRow W.heap.size 111 6 (.slice a2 s.ll c2) s.ll (flat LkV.cells s.locks)) := fun U hU => own_below own2 hU; have S2 : Hid (∀ m, (Value.slice a2 s.ll c2).ownBlock = some m → m < w2.heap.size) := fun m hm => (own2.lt m hm).2; try (have A12 : Hid (Apart (.slice a1 s.il c1) (.slice a2 s.ll c2)) := apart_of S1.out at2 (by (with_reducible repeat (first | exact Below.refl _ _ | refine sD ?_ | refine sT ?_ hb1' | refine sT ?_ hb2' | refine sT ?_ hb3' | refine sT ?_ hb4')); done)); try (have A32 : Hid (Apart (.slice a3 s.dl c3) (.slice a2 s.ll c2)) := apart_of S3.out at2 (by (with_reducible repeat (first | exact Below.refl _ _ | refine sD ?_ | refine sT ?_ hb1' | refine sT ?_ hb2' | refine sT ?_ hb3' | refine sT ?_ hb4')); done)); try (have A42 : Hid (Apart (.slice a4 s.ol c4) (.slice a2 s.ll c2)) := apart_of S4.out at2 (by (with_reducible repeat (first | exact Below.refl _ _ | refine sD ?_ | refine sT ?_ hb1' | refine sT ?_ hb2' | refine sT ?_ hb3' | refine sT ?_ hb4')); done)); clear own2 gr2 at2; try (have _q1 := K1; have _q2 := K2; have _q3 := K3; have _q4 := K4; clear _q1 _q2 _q3 _q4; obtain ⟨z0, f0, z1, f1, z2, f2, z3, f3⟩ := KB.out w2 (by (with_reducible repeat (first | exact Below.refl _ _ | refine sD ?_ | refine sT ?_ hb1' | refine sT ?_ hb2' | refine sT ?_ hb3' | refine sT ?_ hb4')); done)))
      | (refine step_append_row E3 (by rfl) (.const (.slice none 0 0)) (.tmp 10) (by rfl) W.heap.size (.slice none 0 0) 0 [] (by rfl) (World.ownsRow_nil _ _ _ _) s.da s.dl s.dc s.doubts (by rfl) (HS.out _ (by (with_reducible repeat (first | exact Below.refl _ _ | refine sD ?_ | refine sT ?_ hb1' | refine sT ?_ hb2' | refine sT ?_ hb3' | refine sT ?_ hb4')); done)).doubts (by unfold maxLen; omega) (by omega) (Below.size (show Below W.heap.size W _ from (by (with_reducible repeat (first | exact Below.refl _ _ | refine sD ?_ | refine sT ?_ hb1' | refine sT ?_ hb2' | refine sT ?_ hb3' | refine sT ?_ hb4')); done))) ?_; intro a3 c3 w3 own3 gr3 at3; simp only [Nat.zero_add, List.nil_append] at own3 at3 ⊢; have hb3' := sGrown gr3; have K3 : Hid (∀ U, Below w3.heap.size w3 U → U.ownsRow W.heap.size 60 3 (.slice a3 s.dl c3) s.dl (flat DbV.cells s.doubts)) := fun U hU => own_below own3 hU; have S3 : Hid (∀ m, (Value.slice a3 s.dl c3).ownBlock = some m → m < w3.heap.size) := fun m hm => (own3.lt m hm).2; try (have A13 : Hid (Apart (.slice a1 s.il c1) (.slice a3 s.dl c3)) := apart_of S1.out at3 (by (with_reducible repeat (first | exact Below.refl _ _ | refine sD ?_ | refine sT ?_ hb1' | refine sT ?_ hb2' | refine sT ?_ hb3' | refine sT ?_ hb4')); done)); try (have A23 : Hid (Apart (.slice a2 s.ll c2) (.slice a3 s.dl c3)) := apart_of S2.out at3 (by (with_reducible repeat (first | exact Below.refl _ _ | refine sD ?_ | refine sT ?_ hb1' | refine sT ?_ hb2' | refine sT ?_ hb3' | refine sT ?_ hb4')); done)); try (have A43 : Hid (Apart (.slice a4 s.ol c4) (.slice a3 s.dl c3)) := apart_of S4.out at3 (by (with_reducible repeat (first | exact Below.refl _ _ | refine sD ?_ | refine sT ?_ hb1' | refine sT ?_ hb2' | refine sT ?_ hb3' | refine sT ?_ hb4')); done)); clear own3 gr3 at3; try (have _q1 := K1; have _q2 := K2; have _q3 := K3; have _q4 := K4; clear _q1 _q2 _q3 _q4; obtain ⟨z0, f0, z1, f1, z2, f2, z3, f3⟩ := KB.out w3 (by (with_reducible repeat (first | exact Below.refl _ _ | refine sD ?_ | refine sT ?_ hb1' | refine sT ?_ hb2' | refine sT ?_ hb3' | refine sT ?_ hb4')); done)))
      | (refine step_append_row E4 (by rfl) (.const (.slice none 0 0)) (.tmp 13) (by rfl) W.heap.size (.slice none 0 0) 0 [] (by rfl) (World.ownsRow_nil _ _ _ _) s.oa s.ol s.oc s.over (by rfl) (HS.out _ (by (with_reducible repeat (first | exact Below.refl _ _ | refine sD ?_ | refine sT ?_ hb1' | refine sT ?_ hb2' | refine sT ?_ hb3' | refine sT ?_ hb4')); done)).over (by unfold maxLen; omega) (by omega) (Below.size (show Below W.heap.size W _ from (by (with_reducible repeat (first | exact Below.refl _ _ | refine sD ?_ | refine sT ?_ hb1' | refine sT ?_ hb2' | refine sT ?_ hb3' | refine sT ?_ hb4')); done))) ?_; intro a4 c4 w4 own4 gr4 at4; simp only [Nat.zero_add, List.nil_append] at own4 at4 ⊢; have hb4' := sGrown gr4; have K4 : Hid (∀ U, Below w4.heap.size w4 U → U.ownsRow W.heap.size 23 2 (.slice a4 s.ol c4) s.ol (flat txCells s.over)) := fun U hU => own_below own4 hU; have S4 : Hid (∀ m, (Value.slice a4 s.ol c4).ownBlock = some m → m < w4.heap.size) := fun m hm => (own4.lt m hm).2; try (have A14 : Hid (Apart (.slice a1 s.il c1) (.slice a4 s.ol c4)) := apart_of S1.out at4 (by (with_reducible repeat (first | exact Below.refl _ _ | refine sD ?_ | refine sT ?_ hb1' | refine sT ?_ hb2' | refine sT ?_ hb3' | refine sT ?_ hb4')); done)); try (have A24 : Hid (Apart (.slice a2 s.ll c2) (.slice a4 s.ol c4)) := apart_of S2.out at4 (by (with_reducible repeat (first | exact Below.refl _ _ | refine sD ?_ | refine sT ?_ hb1' | refine sT ?_ hb2' | refine sT ?_ hb3' | refine sT ?_ hb4')); done)); try (have A34 : Hid (Apart (.slice a3 s.dl c3) (.slice a4 s.ol c4)) := apart_of S3.out at4 (by (with_reducible repeat (first | exact Below.refl _ _ | refine sD ?_ | refine sT ?_ hb1' | refine sT ?_ hb2' | refine sT ?_ hb3' | refine sT ?_ hb4')); done)); clear own4 gr4 at4; try (have _q1 := K1; have _q2 := K2; have _q3 := K3; have _q4 := K4; clear _q1 _q2 _q3 _q4; obtain ⟨z0, f0, z1, f1, z2, f2, z3, f3⟩ := KB.out w4 (by (with_reducible repeat (first | exact Below.refl _ _ | refine sD ?_ | refine sT ?_ hb1' | refine sT ?_ hb2' | refine sT ?_ hb3' | refine sT ?_ hb4')); done))))
  all_goals
    go_wp2
    refine bodyPost_ret (v := .agg #[.slice a1 s.il c1, .slice a2 s.ll c2, .slice a3 s.dl c3, .slice a4 s.ol c4]) (by simp [results, Tryd.results63, go_sem, z0, z1, z2, z3]) rfl ?_
    refine ⟨⟨a1, s.il, c1, a2, s.ll, c2, a3, s.dl, c3, a4, s.ol, c4, s.items, s.locks, s.doubts, s.over⟩, rfl, ⟨rfl, rfl, rfl, rfl, rfl, rfl, rfl, rfl⟩, ?_, fin_st hB (by (with_reducible repeat (first | exact Below.refl _ _ | refine sD ?_ | refine sT ?_ hb1' | refine sT ?_ hb2' | refine sT ?_ hb3' | refine sT ?_ hb4')); done) _ _ _ _⟩
    exact ⟨own_st HZ.out (K1.out _ (by (with_reducible repeat (first | exact Below.refl _ _ | refine sD ?_ | refine sT ?_ hb1' | refine sT ?_ hb2' | refine sT ?_ hb3' | refine sT ?_ hb4')); done)) _ _ _ _, own_st HZ.out (K2.out _ (by (with_reducible repeat (first | exact Below.refl _ _ | refine sD ?_ | refine sT ?_ hb1' | refine sT ?_ hb2' | refine sT ?_ hb3' | refine sT ?_ hb4')); done)) _ _ _ _, own_st HZ.out (K3.out _ (by (with_reducible repeat (first | exact Below.refl _ _ | refine sD ?_ | refine sT ?_ hb1' | refine sT ?_ hb2' | refine sT ?_ hb3' | refine sT ?_ hb4')); done)) _ _ _ _, own_st HZ.out (K4.out _ (by (with_reducible repeat (first | exact Below.refl _ _ | refine sD ?_ | refine sT ?_ hb1' | refine sT ?_ hb2' | refine sT ?_ hb3' | refine sT ?_ hb4')); done)) _ _ _ _, by first | exact A12.out | exact A21.out.symm, by first | exact A13.out | exact A31.out.symm, by first | exact A14.out | exact A41.out.symm, by first | exact A23.out | exact A32.out.symm, by first | exact A24.out | exact A42.out.symm, by first | exact A34.out | exact A43.out.symm⟩
end Go.Proofs.YtgohpgollpjlnaaDoor.St
/- A store's plain data; what a call owns of a store is a store; one list put in another's place. -/
namespace Go.Proofs.YtgohpgollpjlnaaDoor.St
open Go.ChangeShapes Go.WideShapes Go.ChangeAt Go.RowKit
set_option linter.unusedVariables false

structure PS where
  items : List ItV
  locks : List LkV
  doubts : List DbV
  over : List (Int × Int)
def SV.data (s : SV) : PS := ⟨s.items, s.locks, s.doubts, s.over⟩
def SV.nil : SV := ⟨none, 0, 0, none, 0, 0, none, 0, 0, none, 0, 0, [], [], [], []⟩
theorem isStore_nil (w : World) : IsStore w SV.nil := ⟨isRow_nil _ _ _, isRow_nil _ _ _, isRow_nil _ _ _, isRow_nil _ _ _⟩
theorem same_data {s r : SV} (h : s.same r) : r.data = s.data := by
  obtain ⟨h1, h2, h3, h4, _⟩ := h
  simp [SV.data, h1, h2, h3, h4]
theorem own_len {α : Type} {cells : α → List Value} {k : Nat} (hk : ∀ x, (cells x).length = k) (hp : 0 < k) {w : World} {B : Nat} {te : TypeId} {v : Value} {n : Nat} {xs : List α} (h : w.ownsRow B te k v n (flat cells xs)) : xs.length = n := by
  have h1 := h.1
  rw [flat_len hk] at h1
  exact Nat.eq_of_mul_eq_mul_right hp h1
theorem ownStore_nil (w : World) (B : Nat) : OwnStore w B SV.nil := by
  refine ⟨World.ownsRow_nil _ _ _ _, World.ownsRow_nil _ _ _ _, World.ownsRow_nil _ _ _ _, World.ownsRow_nil _ _ _ _, ?_, ?_, ?_, ?_, ?_, ?_⟩ <;> (intro m h; simp [SV.nil, Value.ownBlock] at h)
theorem OwnStore.isStore {w : World} {B : Nat} {s : SV} (h : OwnStore w B s) : IsStore w s :=
  ⟨(own_isRow it_len h.items (own_len it_len (by decide) h.items)).1, (own_isRow lk_len h.locks (own_len lk_len (by decide) h.locks)).1, (own_isRow db_len h.doubts (own_len db_len (by decide) h.doubts)).1, (own_isRow tx_len h.over (own_len tx_len (by decide) h.over)).1⟩
theorem OwnStore.below {w w' : World} {B : Nat} {s : SV} (h : OwnStore w B s) (hb : Below w.heap.size w w') : OwnStore w' B s :=
  ⟨own_below h.items hb, own_below h.locks hb, own_below h.doubts hb, own_below h.over hb, h.ap_il, h.ap_id, h.ap_io, h.ap_ld, h.ap_lo, h.ap_do⟩
theorem OwnStore.base {w : World} {B C : Nat} {s : SV} (h : OwnStore w B s) (hc : C ≤ B) : OwnStore w C s :=
  ⟨own_base h.items hc, own_base h.locks hc, own_base h.doubts hc, own_base h.over hc, h.ap_il, h.ap_id, h.ap_io, h.ap_ld, h.ap_lo, h.ap_do⟩
theorem OwnStore.box {w : World} {B : Nat} {s : SV} (h : OwnStore w B s) {p : Addr} (hp : p.block < B) (v : Value) : OwnStore (w.setCell p v) B s :=
  ⟨ownsRow_setCell_below h.items hp v, ownsRow_setCell_below h.locks hp v, ownsRow_setCell_below h.doubts hp v, ownsRow_setCell_below h.over hp v, h.ap_il, h.ap_id, h.ap_io, h.ap_ld, h.ap_lo, h.ap_do⟩
theorem apart_l {x y : Value} (h : Apart x y) : x.ownBlock = none ∨ x.ownBlock ≠ y.ownBlock := by
  cases e : x.ownBlock with
  | none => exact .inl rfl
  | some m => exact .inr fun e2 => h m e e2.symm
theorem apart_r {x y : Value} (h : Apart x y) : y.ownBlock = none ∨ y.ownBlock ≠ x.ownBlock := apart_l h.symm
theorem apart_new {w : World} {B : Nat} {te : TypeId} {k n : Nat} {x x' y : Value} {ys : List Value} (h : Apart x y) (hy : w.ownsRow B te k y n ys) (hat : ∀ m, x'.ownBlock = some m → x.ownBlock = some m ∨ w.heap.size ≤ m) : Apart x' y := by
  intro m h1 h2
  rcases hat m h1 with h3 | h3
  · exact h m h3 h2
  · have := (hy.lt m h2).2
    omega
theorem at_of {w : World} {x x' : Value} {n : Nat} (h : x'.ownBlock = x.ownBlock ∨ x'.ownBlock = some n) (hn : w.heap.size ≤ n) : ∀ m, x'.ownBlock = some m → x.ownBlock = some m ∨ w.heap.size ≤ m := by
  intro m hm
  rcases h with h1 | h1
  · exact .inl (h1 ▸ hm)
  · rw [h1] at hm
    simp at hm
    exact .inr (by omega)
/-- Another list of items. -/
theorem OwnStore.put_items {w w' : World} {B : Nat} {s : SV} (h : OwnStore w B s) {a : Option Addr} {n c : Nat} {xs : List ItV} (hg : w.grownBy w' (Value.slice s.ia s.il s.ic).ownBlock) (hown : w'.ownsRow B 109 3 (.slice a n c) n (flat ItV.cells xs))
    (hat : ∀ m, (Value.slice a n c).ownBlock = some m → (Value.slice s.ia s.il s.ic).ownBlock = some m ∨ w.heap.size ≤ m) : OwnStore w' B { s with ia := a, il := n, ic := c, items := xs } :=
  ⟨hown, h.locks.kept hg (apart_l (h.ap_il.symm)), h.doubts.kept hg (apart_l (h.ap_id.symm)), h.over.kept hg (apart_l (h.ap_io.symm)), apart_new h.ap_il h.locks hat, apart_new h.ap_id h.doubts hat, apart_new h.ap_io h.over hat, h.ap_ld, h.ap_lo, h.ap_do⟩
/-- Another list of locks. -/
theorem OwnStore.put_locks {w w' : World} {B : Nat} {s : SV} (h : OwnStore w B s) {a : Option Addr} {n c : Nat} {xs : List LkV} (hg : w.grownBy w' (Value.slice s.la s.ll s.lc).ownBlock) (hown : w'.ownsRow B 111 6 (.slice a n c) n (flat LkV.cells xs))
    (hat : ∀ m, (Value.slice a n c).ownBlock = some m → (Value.slice s.la s.ll s.lc).ownBlock = some m ∨ w.heap.size ≤ m) : OwnStore w' B { s with la := a, ll := n, lc := c, locks := xs } :=
  ⟨h.items.kept hg (apart_l (h.ap_il)), hown, h.doubts.kept hg (apart_l (h.ap_ld.symm)), h.over.kept hg (apart_l (h.ap_lo.symm)), (apart_new (h.ap_il.symm) h.items hat).symm, h.ap_id, h.ap_io, apart_new h.ap_ld h.doubts hat, apart_new h.ap_lo h.over hat, h.ap_do⟩
/-- Another list of doubts. -/
theorem OwnStore.put_doubts {w w' : World} {B : Nat} {s : SV} (h : OwnStore w B s) {a : Option Addr} {n c : Nat} {xs : List DbV} (hg : w.grownBy w' (Value.slice s.da s.dl s.dc).ownBlock) (hown : w'.ownsRow B 60 3 (.slice a n c) n (flat DbV.cells xs))
    (hat : ∀ m, (Value.slice a n c).ownBlock = some m → (Value.slice s.da s.dl s.dc).ownBlock = some m ∨ w.heap.size ≤ m) : OwnStore w' B { s with da := a, dl := n, dc := c, doubts := xs } :=
  ⟨h.items.kept hg (apart_l (h.ap_id)), h.locks.kept hg (apart_l (h.ap_ld)), hown, h.over.kept hg (apart_l (h.ap_do.symm)), h.ap_il, (apart_new (h.ap_id.symm) h.items hat).symm, h.ap_io, (apart_new (h.ap_ld.symm) h.locks hat).symm, h.ap_lo, apart_new h.ap_do h.over hat⟩
/-- Another list of over. -/
theorem OwnStore.put_over {w w' : World} {B : Nat} {s : SV} (h : OwnStore w B s) {a : Option Addr} {n c : Nat} {xs : List (Int × Int)} (hg : w.grownBy w' (Value.slice s.oa s.ol s.oc).ownBlock) (hown : w'.ownsRow B 23 2 (.slice a n c) n (flat txCells xs))
    (hat : ∀ m, (Value.slice a n c).ownBlock = some m → (Value.slice s.oa s.ol s.oc).ownBlock = some m ∨ w.heap.size ≤ m) : OwnStore w' B { s with oa := a, ol := n, oc := c, over := xs } :=
  ⟨h.items.kept hg (apart_l (h.ap_io)), h.locks.kept hg (apart_l (h.ap_lo)), h.doubts.kept hg (apart_l (h.ap_do)), hown, h.ap_il, h.ap_id, (apart_new (h.ap_io.symm) h.items hat).symm, h.ap_ld, (apart_new (h.ap_lo.symm) h.locks hat).symm, (apart_new (h.ap_do.symm) h.doubts hat).symm⟩
end Go.Proofs.YtgohpgollpjlnaaDoor.St
/- A store that a call makes in a box of its own: its rows are the call's own, and apart from the box. -/
namespace Go.Proofs.YtgohpgollpjlnaaDoor.St
open Go.ChangeShapes Go.WideShapes Go.ChangeAt Go.RowKit
set_option linter.unusedVariables false

theorem nD {W V : World} (h : Below W.heap.size W V) : Below W.heap.size W V.drew := h.drew
theorem nA {W V : World} (h : Below W.heap.size W V) (o : Obj) : Below W.heap.size W (V.alloc o) := h.alloc h.size o
theorem isOne {α : Type} [Inhabited α] {k : Nat} {cells : α → List Value} (u : World) (cs : Array Value) (t : TypeId) (x : α) (hc : cs.toList = cells x) (hk : cs.size = k) : IsRow k cells (u.alloc (.cells cs t)) (some ⟨u.heap.size, 0, none⟩) 1 1 [x] := by
  refine ⟨rfl, Nat.le_refl _, by unfold maxLen; omega, fun e => by simp at e, fun _ => ⟨u.heap.size, 0, rfl, by simp, fun i hi j hj => ?_⟩⟩
  obtain rfl : i = 0 := by omega
  have hb : (u.alloc (.cells cs t)).heap[u.heap.size]? = some (.cells cs t (0, 0)) := heap_alloc_new u _
  rw [Nat.zero_mul, Nat.zero_add, cell_of_row _ u.heap.size j cs t (0, 0) hb]
  simp only [List.getD_cons_zero]
  rw [← hc, Array.getElem?_toList]
def SV.box (s : SV) : List Value := [.slice s.ia s.il s.ic, .slice s.la s.ll s.lc, .slice s.da s.dl s.dc, .slice s.oa s.ol s.oc]
structure Made (W w : World) (C m : Nat) (r : SV) : Prop where
  own : OwnStore w C r
  box : BoxN w m 4 r.box
  far_i : (Value.slice r.ia r.il r.ic).ownBlock ≠ some m
  far_l : (Value.slice r.la r.ll r.lc).ownBlock ≠ some m
  far_d : (Value.slice r.da r.dl r.dc).ownBlock ≠ some m
  far_o : (Value.slice r.oa r.ol r.oc).ownBlock ≠ some m
  le : C ≤ m
  bel : Below C W w
theorem Made.sz {W w : World} {C m : Nat} {r : SV} (h : Made W w C m r) : C ≤ w.heap.size := Nat.le_trans h.le (Nat.le_of_lt h.box.lt)
theorem Made.cells {W w : World} {C m : Nat} {r : SV} (h : Made W w C m r) : m < w.heap.size ∧ w.cell? ⟨m, 0, none⟩ = some (.slice r.ia r.il r.ic) ∧ w.cell? ⟨m, 1, none⟩ = some (.slice r.la r.ll r.lc) ∧ w.cell? ⟨m, 2, none⟩ = some (.slice r.da r.dl r.dc) ∧ w.cell? ⟨m, 3, none⟩ = some (.slice r.oa r.ol r.oc) ∧ w.frozen? ⟨m, 0, none⟩ = false ∧ w.frozen? ⟨m, 1, none⟩ = false ∧ w.frozen? ⟨m, 2, none⟩ = false ∧ w.frozen? ⟨m, 3, none⟩ = false :=
  ⟨h.box.lt, (h.box.c 0 (by decide)).1, (h.box.c 1 (by decide)).1, (h.box.c 2 (by decide)).1, (h.box.c 3 (by decide)).1, (h.box.c 0 (by decide)).2, (h.box.c 1 (by decide)).2, (h.box.c 2 (by decide)).2, (h.box.c 3 (by decide)).2⟩
theorem Made.below {W w w' : World} {C m : Nat} {r : SV} (h : Made W w C m r) (hb : Below w.heap.size w w') : Made W w' C m r :=
  ⟨h.own.below hb, h.box.below hb h.box.lt, h.far_i, h.far_l, h.far_d, h.far_o, h.le, h.bel.trans (hb.mono h.sz)⟩
/-- A store of the call's own goes into a new box. -/
theorem Made.new {W w w' : World} {C m : Nat} {r : SV} (h : OwnStore w C r) (hb : Below C W w) (hw : Below w.heap.size w w') (hm : w.heap.size ≤ m) (hbox : BoxN w' m 4 r.box) (hC : C ≤ w.heap.size) : Made W w' C m r := by
  have fi : (Value.slice r.ia r.il r.ic).ownBlock ≠ some m := fun e => by have := (h.items.lt m e).2; omega
  have fl : (Value.slice r.la r.ll r.lc).ownBlock ≠ some m := fun e => by have := (h.locks.lt m e).2; omega
  have fd : (Value.slice r.da r.dl r.dc).ownBlock ≠ some m := fun e => by have := (h.doubts.lt m e).2; omega
  have fo : (Value.slice r.oa r.ol r.oc).ownBlock ≠ some m := fun e => by have := (h.over.lt m e).2; omega
  exact ⟨h.below hw, hbox, fi, fl, fd, fo, Nat.le_trans hC hm, hb.trans (hw.mono hC)⟩
/-- Another list of items, and the box is told. -/
theorem Made.put_items {W w V w5 : World} {C m : Nat} {r : SV} (h : Made W w C m r) (hV : Below w.heap.size w V) {a : Option Addr} {n c : Nat} {xs : List ItV} (hg : V.grownBy w5 (Value.slice r.ia r.il r.ic).ownBlock) (hown : w5.ownsRow C 109 3 (.slice a n c) n (flat ItV.cells xs))
    (hat : (Value.slice a n c).ownBlock = (Value.slice r.ia r.il r.ic).ownBlock ∨ (Value.slice a n c).ownBlock = some V.heap.size) :
    w5.cell? ⟨m, 0, none⟩ = some (Value.slice r.ia r.il r.ic) ∧ w5.frozen? ⟨m, 0, none⟩ = false ∧ Made W (w5.setCell ⟨m, 0, none⟩ (.slice a n c)) C m { r with ia := a, il := n, ic := c, items := xs } := by
  have h1 := h.below hV
  have hb5 : BoxN w5 m 4 r.box := h1.box.grown hg (fun e => h.far_i e.symm)
  have o5 := h1.own.put_items hg hown (at_of hat (Nat.le_refl _))
  have hfar : (Value.slice a n c).ownBlock ≠ some m := by
    rcases hat with e | e <;> rw [e]
    · exact h.far_i
    · intro e2; simp at e2; have := h1.box.lt; omega
  have bel5 : Below C W w5 := h1.bel.grown hg h1.sz (fun q hq => (h1.own.items.lt q hq).1)
  have gs := grown_setCell w5 ⟨m, 0, none⟩ (.slice a n c)
  refine ⟨(hb5.c 0 (by decide)).1, (hb5.c 0 (by decide)).2, ?_⟩
  exact ⟨⟨o5.items.kept gs (.inr hfar), o5.locks.kept gs (.inr h.far_l), o5.doubts.kept gs (.inr h.far_d), o5.over.kept gs (.inr h.far_o), o5.ap_il, o5.ap_id, o5.ap_io, o5.ap_ld, o5.ap_lo, o5.ap_do⟩, hb5.set 0 (by decide) _, hfar, h.far_l, h.far_d, h.far_o, h.le, bel5.setCell (p := ⟨m, 0, none⟩) h.le _⟩
/-- The same row, with other elements in it. -/
theorem Made.set_items {W w w5 : World} {C m : Nat} {r : SV} (h : Made W w C m r) {xs : List ItV} (hg : w.grownBy w5 (Value.slice r.ia r.il r.ic).ownBlock) (hown : w5.ownsRow C 109 3 (Value.slice r.ia r.il r.ic) r.il (flat ItV.cells xs)) : Made W w5 C m { r with items := xs } := by
  have o5 := h.own.put_items hg hown (fun q hq => .inl hq)
  exact ⟨o5, h.box.grown hg (fun e => h.far_i e.symm), h.far_i, h.far_l, h.far_d, h.far_o, h.le, h.bel.grown hg h.sz (fun q hq => (h.own.items.lt q hq).1)⟩
theorem Made.one_items {W w : World} {C m : Nat} {r : SV} (h : Made W w C m r) {g off : Nat} (e : r.ia = some ⟨g, off, none⟩) {i : Nat} (hi : i < r.il) (y : ItV) :
    off = 0 ∧ C ≤ g ∧ g < w.heap.size ∧ g ≠ m ∧ (∀ j, j < 3 → w.frozen? ⟨g, i * 3 + j, none⟩ = false ∧ (w.cell? ⟨g, i * 3 + j, none⟩).isSome = true ∧ w.cell? ⟨g, i * 3 + j, none⟩ = (ItV.cells (r.items.getD i default))[j]?) ∧ Made W (w.setCells g (i * 3) (ItV.cells y)) C m { r with items := r.items.set i y } := by
  have hl := own_len it_len (by decide) h.own.items
  obtain ⟨hr, _⟩ := own_isRow it_len h.own.items hl
  have ho := h.own.items
  rw [e] at ho hr
  have hoff : off = 0 := by
    rcases ho.2 with ⟨hv, _⟩ | ⟨g', cap', cur, hv, _⟩
    · simp at hv
    · simp at hv; exact hv.1.2
  subst hoff
  have hne : g ≠ m := fun e2 => h.far_i (by rw [e, e2]; rfl)
  have hlt := ho.lt g rfl
  refine ⟨rfl, hlt.1, hlt.2, hne, fun j hj => ?_, ?_⟩
  · have hk : i * 3 + j < r.il * 3 := by omega
    obtain ⟨t1, t2⟩ := own_there ho hk
    refine ⟨t2, t1, ?_⟩
    obtain ⟨b', off', e', _, hc⟩ := hr.2.2.2.2 (by omega)
    simp at e'
    obtain ⟨rfl, rfl⟩ := e'
    have := hc i hi j hj
    rw [Nat.zero_add] at this
    exact this
  · have h1 := own_setCells (ItV.cells y) (i * 3) w _ ho (by rw [it_len]; omega)
    rw [flat_setL it_len _ _ (by omega)] at h1
    refine h.set_items ?_ ?_
    · rw [e]; exact grown_setCells g _ _ _
    · rw [e]; exact h1
/-- Another list of locks, and the box is told. -/
theorem Made.put_locks {W w V w5 : World} {C m : Nat} {r : SV} (h : Made W w C m r) (hV : Below w.heap.size w V) {a : Option Addr} {n c : Nat} {xs : List LkV} (hg : V.grownBy w5 (Value.slice r.la r.ll r.lc).ownBlock) (hown : w5.ownsRow C 111 6 (.slice a n c) n (flat LkV.cells xs))
    (hat : (Value.slice a n c).ownBlock = (Value.slice r.la r.ll r.lc).ownBlock ∨ (Value.slice a n c).ownBlock = some V.heap.size) :
    w5.cell? ⟨m, 1, none⟩ = some (Value.slice r.la r.ll r.lc) ∧ w5.frozen? ⟨m, 1, none⟩ = false ∧ Made W (w5.setCell ⟨m, 1, none⟩ (.slice a n c)) C m { r with la := a, ll := n, lc := c, locks := xs } := by
  have h1 := h.below hV
  have hb5 : BoxN w5 m 4 r.box := h1.box.grown hg (fun e => h.far_l e.symm)
  have o5 := h1.own.put_locks hg hown (at_of hat (Nat.le_refl _))
  have hfar : (Value.slice a n c).ownBlock ≠ some m := by
    rcases hat with e | e <;> rw [e]
    · exact h.far_l
    · intro e2; simp at e2; have := h1.box.lt; omega
  have bel5 : Below C W w5 := h1.bel.grown hg h1.sz (fun q hq => (h1.own.locks.lt q hq).1)
  have gs := grown_setCell w5 ⟨m, 1, none⟩ (.slice a n c)
  refine ⟨(hb5.c 1 (by decide)).1, (hb5.c 1 (by decide)).2, ?_⟩
  exact ⟨⟨o5.items.kept gs (.inr h.far_i), o5.locks.kept gs (.inr hfar), o5.doubts.kept gs (.inr h.far_d), o5.over.kept gs (.inr h.far_o), o5.ap_il, o5.ap_id, o5.ap_io, o5.ap_ld, o5.ap_lo, o5.ap_do⟩, hb5.set 1 (by decide) _, h.far_i, hfar, h.far_d, h.far_o, h.le, bel5.setCell (p := ⟨m, 1, none⟩) h.le _⟩
/-- The same row, with other elements in it. -/
theorem Made.set_locks {W w w5 : World} {C m : Nat} {r : SV} (h : Made W w C m r) {xs : List LkV} (hg : w.grownBy w5 (Value.slice r.la r.ll r.lc).ownBlock) (hown : w5.ownsRow C 111 6 (Value.slice r.la r.ll r.lc) r.ll (flat LkV.cells xs)) : Made W w5 C m { r with locks := xs } := by
  have o5 := h.own.put_locks hg hown (fun q hq => .inl hq)
  exact ⟨o5, h.box.grown hg (fun e => h.far_l e.symm), h.far_i, h.far_l, h.far_d, h.far_o, h.le, h.bel.grown hg h.sz (fun q hq => (h.own.locks.lt q hq).1)⟩
theorem Made.one_locks {W w : World} {C m : Nat} {r : SV} (h : Made W w C m r) {g off : Nat} (e : r.la = some ⟨g, off, none⟩) {i : Nat} (hi : i < r.ll) (y : LkV) :
    off = 0 ∧ C ≤ g ∧ g < w.heap.size ∧ g ≠ m ∧ (∀ j, j < 6 → w.frozen? ⟨g, i * 6 + j, none⟩ = false ∧ (w.cell? ⟨g, i * 6 + j, none⟩).isSome = true ∧ w.cell? ⟨g, i * 6 + j, none⟩ = (LkV.cells (r.locks.getD i default))[j]?) ∧ Made W (w.setCells g (i * 6) (LkV.cells y)) C m { r with locks := r.locks.set i y } := by
  have hl := own_len lk_len (by decide) h.own.locks
  obtain ⟨hr, _⟩ := own_isRow lk_len h.own.locks hl
  have ho := h.own.locks
  rw [e] at ho hr
  have hoff : off = 0 := by
    rcases ho.2 with ⟨hv, _⟩ | ⟨g', cap', cur, hv, _⟩
    · simp at hv
    · simp at hv; exact hv.1.2
  subst hoff
  have hne : g ≠ m := fun e2 => h.far_l (by rw [e, e2]; rfl)
  have hlt := ho.lt g rfl
  refine ⟨rfl, hlt.1, hlt.2, hne, fun j hj => ?_, ?_⟩
  · have hk : i * 6 + j < r.ll * 6 := by omega
    obtain ⟨t1, t2⟩ := own_there ho hk
    refine ⟨t2, t1, ?_⟩
    obtain ⟨b', off', e', _, hc⟩ := hr.2.2.2.2 (by omega)
    simp at e'
    obtain ⟨rfl, rfl⟩ := e'
    have := hc i hi j hj
    rw [Nat.zero_add] at this
    exact this
  · have h1 := own_setCells (LkV.cells y) (i * 6) w _ ho (by rw [lk_len]; omega)
    rw [flat_setL lk_len _ _ (by omega)] at h1
    refine h.set_locks ?_ ?_
    · rw [e]; exact grown_setCells g _ _ _
    · rw [e]; exact h1
/-- Another list of doubts, and the box is told. -/
theorem Made.put_doubts {W w V w5 : World} {C m : Nat} {r : SV} (h : Made W w C m r) (hV : Below w.heap.size w V) {a : Option Addr} {n c : Nat} {xs : List DbV} (hg : V.grownBy w5 (Value.slice r.da r.dl r.dc).ownBlock) (hown : w5.ownsRow C 60 3 (.slice a n c) n (flat DbV.cells xs))
    (hat : (Value.slice a n c).ownBlock = (Value.slice r.da r.dl r.dc).ownBlock ∨ (Value.slice a n c).ownBlock = some V.heap.size) :
    w5.cell? ⟨m, 2, none⟩ = some (Value.slice r.da r.dl r.dc) ∧ w5.frozen? ⟨m, 2, none⟩ = false ∧ Made W (w5.setCell ⟨m, 2, none⟩ (.slice a n c)) C m { r with da := a, dl := n, dc := c, doubts := xs } := by
  have h1 := h.below hV
  have hb5 : BoxN w5 m 4 r.box := h1.box.grown hg (fun e => h.far_d e.symm)
  have o5 := h1.own.put_doubts hg hown (at_of hat (Nat.le_refl _))
  have hfar : (Value.slice a n c).ownBlock ≠ some m := by
    rcases hat with e | e <;> rw [e]
    · exact h.far_d
    · intro e2; simp at e2; have := h1.box.lt; omega
  have bel5 : Below C W w5 := h1.bel.grown hg h1.sz (fun q hq => (h1.own.doubts.lt q hq).1)
  have gs := grown_setCell w5 ⟨m, 2, none⟩ (.slice a n c)
  refine ⟨(hb5.c 2 (by decide)).1, (hb5.c 2 (by decide)).2, ?_⟩
  exact ⟨⟨o5.items.kept gs (.inr h.far_i), o5.locks.kept gs (.inr h.far_l), o5.doubts.kept gs (.inr hfar), o5.over.kept gs (.inr h.far_o), o5.ap_il, o5.ap_id, o5.ap_io, o5.ap_ld, o5.ap_lo, o5.ap_do⟩, hb5.set 2 (by decide) _, h.far_i, h.far_l, hfar, h.far_o, h.le, bel5.setCell (p := ⟨m, 2, none⟩) h.le _⟩
/-- The same row, with other elements in it. -/
theorem Made.set_doubts {W w w5 : World} {C m : Nat} {r : SV} (h : Made W w C m r) {xs : List DbV} (hg : w.grownBy w5 (Value.slice r.da r.dl r.dc).ownBlock) (hown : w5.ownsRow C 60 3 (Value.slice r.da r.dl r.dc) r.dl (flat DbV.cells xs)) : Made W w5 C m { r with doubts := xs } := by
  have o5 := h.own.put_doubts hg hown (fun q hq => .inl hq)
  exact ⟨o5, h.box.grown hg (fun e => h.far_d e.symm), h.far_i, h.far_l, h.far_d, h.far_o, h.le, h.bel.grown hg h.sz (fun q hq => (h.own.doubts.lt q hq).1)⟩
theorem Made.one_doubts {W w : World} {C m : Nat} {r : SV} (h : Made W w C m r) {g off : Nat} (e : r.da = some ⟨g, off, none⟩) {i : Nat} (hi : i < r.dl) (y : DbV) :
    off = 0 ∧ C ≤ g ∧ g < w.heap.size ∧ g ≠ m ∧ (∀ j, j < 3 → w.frozen? ⟨g, i * 3 + j, none⟩ = false ∧ (w.cell? ⟨g, i * 3 + j, none⟩).isSome = true ∧ w.cell? ⟨g, i * 3 + j, none⟩ = (DbV.cells (r.doubts.getD i default))[j]?) ∧ Made W (w.setCells g (i * 3) (DbV.cells y)) C m { r with doubts := r.doubts.set i y } := by
  have hl := own_len db_len (by decide) h.own.doubts
  obtain ⟨hr, _⟩ := own_isRow db_len h.own.doubts hl
  have ho := h.own.doubts
  rw [e] at ho hr
  have hoff : off = 0 := by
    rcases ho.2 with ⟨hv, _⟩ | ⟨g', cap', cur, hv, _⟩
    · simp at hv
    · simp at hv; exact hv.1.2
  subst hoff
  have hne : g ≠ m := fun e2 => h.far_d (by rw [e, e2]; rfl)
  have hlt := ho.lt g rfl
  refine ⟨rfl, hlt.1, hlt.2, hne, fun j hj => ?_, ?_⟩
  · have hk : i * 3 + j < r.dl * 3 := by omega
    obtain ⟨t1, t2⟩ := own_there ho hk
    refine ⟨t2, t1, ?_⟩
    obtain ⟨b', off', e', _, hc⟩ := hr.2.2.2.2 (by omega)
    simp at e'
    obtain ⟨rfl, rfl⟩ := e'
    have := hc i hi j hj
    rw [Nat.zero_add] at this
    exact this
  · have h1 := own_setCells (DbV.cells y) (i * 3) w _ ho (by rw [db_len]; omega)
    rw [flat_setL db_len _ _ (by omega)] at h1
    refine h.set_doubts ?_ ?_
    · rw [e]; exact grown_setCells g _ _ _
    · rw [e]; exact h1
/-- Another list of over, and the box is told. -/
theorem Made.put_over {W w V w5 : World} {C m : Nat} {r : SV} (h : Made W w C m r) (hV : Below w.heap.size w V) {a : Option Addr} {n c : Nat} {xs : List (Int × Int)} (hg : V.grownBy w5 (Value.slice r.oa r.ol r.oc).ownBlock) (hown : w5.ownsRow C 23 2 (.slice a n c) n (flat txCells xs))
    (hat : (Value.slice a n c).ownBlock = (Value.slice r.oa r.ol r.oc).ownBlock ∨ (Value.slice a n c).ownBlock = some V.heap.size) :
    w5.cell? ⟨m, 3, none⟩ = some (Value.slice r.oa r.ol r.oc) ∧ w5.frozen? ⟨m, 3, none⟩ = false ∧ Made W (w5.setCell ⟨m, 3, none⟩ (.slice a n c)) C m { r with oa := a, ol := n, oc := c, over := xs } := by
  have h1 := h.below hV
  have hb5 : BoxN w5 m 4 r.box := h1.box.grown hg (fun e => h.far_o e.symm)
  have o5 := h1.own.put_over hg hown (at_of hat (Nat.le_refl _))
  have hfar : (Value.slice a n c).ownBlock ≠ some m := by
    rcases hat with e | e <;> rw [e]
    · exact h.far_o
    · intro e2; simp at e2; have := h1.box.lt; omega
  have bel5 : Below C W w5 := h1.bel.grown hg h1.sz (fun q hq => (h1.own.over.lt q hq).1)
  have gs := grown_setCell w5 ⟨m, 3, none⟩ (.slice a n c)
  refine ⟨(hb5.c 3 (by decide)).1, (hb5.c 3 (by decide)).2, ?_⟩
  exact ⟨⟨o5.items.kept gs (.inr h.far_i), o5.locks.kept gs (.inr h.far_l), o5.doubts.kept gs (.inr h.far_d), o5.over.kept gs (.inr hfar), o5.ap_il, o5.ap_id, o5.ap_io, o5.ap_ld, o5.ap_lo, o5.ap_do⟩, hb5.set 3 (by decide) _, h.far_i, h.far_l, h.far_d, hfar, h.le, bel5.setCell (p := ⟨m, 3, none⟩) h.le _⟩
/-- The same row, with other elements in it. -/
theorem Made.set_over {W w w5 : World} {C m : Nat} {r : SV} (h : Made W w C m r) {xs : List (Int × Int)} (hg : w.grownBy w5 (Value.slice r.oa r.ol r.oc).ownBlock) (hown : w5.ownsRow C 23 2 (Value.slice r.oa r.ol r.oc) r.ol (flat txCells xs)) : Made W w5 C m { r with over := xs } := by
  have o5 := h.own.put_over hg hown (fun q hq => .inl hq)
  exact ⟨o5, h.box.grown hg (fun e => h.far_o e.symm), h.far_i, h.far_l, h.far_d, h.far_o, h.le, h.bel.grown hg h.sz (fun q hq => (h.own.over.lt q hq).1)⟩
theorem Made.one_over {W w : World} {C m : Nat} {r : SV} (h : Made W w C m r) {g off : Nat} (e : r.oa = some ⟨g, off, none⟩) {i : Nat} (hi : i < r.ol) (y : (Int × Int)) :
    off = 0 ∧ C ≤ g ∧ g < w.heap.size ∧ g ≠ m ∧ (∀ j, j < 2 → w.frozen? ⟨g, i * 2 + j, none⟩ = false ∧ (w.cell? ⟨g, i * 2 + j, none⟩).isSome = true ∧ w.cell? ⟨g, i * 2 + j, none⟩ = (txCells (r.over.getD i default))[j]?) ∧ Made W (w.setCells g (i * 2) (txCells y)) C m { r with over := r.over.set i y } := by
  have hl := own_len tx_len (by decide) h.own.over
  obtain ⟨hr, _⟩ := own_isRow tx_len h.own.over hl
  have ho := h.own.over
  rw [e] at ho hr
  have hoff : off = 0 := by
    rcases ho.2 with ⟨hv, _⟩ | ⟨g', cap', cur, hv, _⟩
    · simp at hv
    · simp at hv; exact hv.1.2
  subst hoff
  have hne : g ≠ m := fun e2 => h.far_o (by rw [e, e2]; rfl)
  have hlt := ho.lt g rfl
  refine ⟨rfl, hlt.1, hlt.2, hne, fun j hj => ?_, ?_⟩
  · have hk : i * 2 + j < r.ol * 2 := by omega
    obtain ⟨t1, t2⟩ := own_there ho hk
    refine ⟨t2, t1, ?_⟩
    obtain ⟨b', off', e', _, hc⟩ := hr.2.2.2.2 (by omega)
    simp at e'
    obtain ⟨rfl, rfl⟩ := e'
    have := hc i hi j hj
    rw [Nat.zero_add] at this
    exact this
  · have h1 := own_setCells (txCells y) (i * 2) w _ ho (by rw [tx_len]; omega)
    rw [flat_setL tx_len _ _ (by omega)] at h1
    refine h.set_over ?_ ?_
    · rw [e]; exact grown_setCells g _ _ _
    · rw [e]; exact h1
/-- One cell of one of the items. -/
theorem Made.cell_items {W w : World} {C m : Nat} {r : SV} (h : Made W w C m r) {g off : Nat} (e : r.ia = some ⟨g, off, none⟩) {i j : Nat} (hi : i < r.il) (hj : j < 3) (u : Value) (y : ItV) (hy : ItV.cells y = (ItV.cells (r.items.getD i default)).set j u) : Made W (w.setCell ⟨g, i * 3 + j, none⟩ u) C m { r with items := r.items.set i y } := by
  have hl := own_len it_len (by decide) h.own.items
  have ho := h.own.items
  rw [e] at ho
  have hoff : off = 0 := by
    rcases ho.2 with ⟨hv, _⟩ | ⟨g', cap', cur, hv, _⟩
    · simp at hv
    · simp at hv; exact hv.1.2
  subst hoff
  have h1 := own_setk ho (k := i * 3 + j) (by omega) u
  rw [flat_set it_len _ _ _ _ y (by omega) hj hy] at h1
  refine h.set_items ?_ ?_
  · rw [e]; exact grown_setCell w ⟨g, i * 3 + j, none⟩ u
  · rw [e]; exact h1
/-- One cell of one of the locks. -/
theorem Made.cell_locks {W w : World} {C m : Nat} {r : SV} (h : Made W w C m r) {g off : Nat} (e : r.la = some ⟨g, off, none⟩) {i j : Nat} (hi : i < r.ll) (hj : j < 6) (u : Value) (y : LkV) (hy : LkV.cells y = (LkV.cells (r.locks.getD i default)).set j u) : Made W (w.setCell ⟨g, i * 6 + j, none⟩ u) C m { r with locks := r.locks.set i y } := by
  have hl := own_len lk_len (by decide) h.own.locks
  have ho := h.own.locks
  rw [e] at ho
  have hoff : off = 0 := by
    rcases ho.2 with ⟨hv, _⟩ | ⟨g', cap', cur, hv, _⟩
    · simp at hv
    · simp at hv; exact hv.1.2
  subst hoff
  have h1 := own_setk ho (k := i * 6 + j) (by omega) u
  rw [flat_set lk_len _ _ _ _ y (by omega) hj hy] at h1
  refine h.set_locks ?_ ?_
  · rw [e]; exact grown_setCell w ⟨g, i * 6 + j, none⟩ u
  · rw [e]; exact h1
/-- One cell of one of the doubts. -/
theorem Made.cell_doubts {W w : World} {C m : Nat} {r : SV} (h : Made W w C m r) {g off : Nat} (e : r.da = some ⟨g, off, none⟩) {i j : Nat} (hi : i < r.dl) (hj : j < 3) (u : Value) (y : DbV) (hy : DbV.cells y = (DbV.cells (r.doubts.getD i default)).set j u) : Made W (w.setCell ⟨g, i * 3 + j, none⟩ u) C m { r with doubts := r.doubts.set i y } := by
  have hl := own_len db_len (by decide) h.own.doubts
  have ho := h.own.doubts
  rw [e] at ho
  have hoff : off = 0 := by
    rcases ho.2 with ⟨hv, _⟩ | ⟨g', cap', cur, hv, _⟩
    · simp at hv
    · simp at hv; exact hv.1.2
  subst hoff
  have h1 := own_setk ho (k := i * 3 + j) (by omega) u
  rw [flat_set db_len _ _ _ _ y (by omega) hj hy] at h1
  refine h.set_doubts ?_ ?_
  · rw [e]; exact grown_setCell w ⟨g, i * 3 + j, none⟩ u
  · rw [e]; exact h1
/-- One cell of one of the over. -/
theorem Made.cell_over {W w : World} {C m : Nat} {r : SV} (h : Made W w C m r) {g off : Nat} (e : r.oa = some ⟨g, off, none⟩) {i j : Nat} (hi : i < r.ol) (hj : j < 2) (u : Value) (y : (Int × Int)) (hy : txCells y = (txCells (r.over.getD i default)).set j u) : Made W (w.setCell ⟨g, i * 2 + j, none⟩ u) C m { r with over := r.over.set i y } := by
  have hl := own_len tx_len (by decide) h.own.over
  have ho := h.own.over
  rw [e] at ho
  have hoff : off = 0 := by
    rcases ho.2 with ⟨hv, _⟩ | ⟨g', cap', cur, hv, _⟩
    · simp at hv
    · simp at hv; exact hv.1.2
  subst hoff
  have h1 := own_setk ho (k := i * 2 + j) (by omega) u
  rw [flat_set tx_len _ _ _ _ y (by omega) hj hy] at h1
  refine h.set_over ?_ ?_
  · rw [e]; exact grown_setCell w ⟨g, i * 2 + j, none⟩ u
  · rw [e]; exact h1
/-- All that a store is made of lies below B. -/
structure Under (r : SV) (m B : Nat) : Prop where
  m : m < B
  items : ∀ q, (Value.slice r.ia r.il r.ic).ownBlock = some q → q < B
  locks : ∀ q, (Value.slice r.la r.ll r.lc).ownBlock = some q → q < B
  doubts : ∀ q, (Value.slice r.da r.dl r.dc).ownBlock = some q → q < B
  over : ∀ q, (Value.slice r.oa r.ol r.oc).ownBlock = some q → q < B
theorem Made.under {W w : World} {C m : Nat} {r : SV} (h : Made W w C m r) : Under r m w.heap.size := ⟨h.box.lt, fun q hq => (h.own.items.lt q hq).2, fun q hq => (h.own.locks.lt q hq).2, fun q hq => (h.own.doubts.lt q hq).2, fun q hq => (h.own.over.lt q hq).2⟩
theorem Made.aside {W w w' : World} {C m B : Nat} {r : SV} {row : Option Nat} (h : Made W w C m r) (hu : Under r m B) (hg : w.grownBy w' row) (hrow : ∀ q, row = some q → B ≤ q) (hC : C ≤ B) : Made W w' C m r := by
  have ki : (Value.slice r.ia r.il r.ic).ownBlock = none ∨ (Value.slice r.ia r.il r.ic).ownBlock ≠ row := by
    cases e : (Value.slice r.ia r.il r.ic).ownBlock with
    | none => exact .inl rfl
    | some q => exact .inr fun e2 => by have := hrow q e2.symm; have := hu.items q e; omega
  have kl : (Value.slice r.la r.ll r.lc).ownBlock = none ∨ (Value.slice r.la r.ll r.lc).ownBlock ≠ row := by
    cases e : (Value.slice r.la r.ll r.lc).ownBlock with
    | none => exact .inl rfl
    | some q => exact .inr fun e2 => by have := hrow q e2.symm; have := hu.locks q e; omega
  have kd : (Value.slice r.da r.dl r.dc).ownBlock = none ∨ (Value.slice r.da r.dl r.dc).ownBlock ≠ row := by
    cases e : (Value.slice r.da r.dl r.dc).ownBlock with
    | none => exact .inl rfl
    | some q => exact .inr fun e2 => by have := hrow q e2.symm; have := hu.doubts q e; omega
  have ko : (Value.slice r.oa r.ol r.oc).ownBlock = none ∨ (Value.slice r.oa r.ol r.oc).ownBlock ≠ row := by
    cases e : (Value.slice r.oa r.ol r.oc).ownBlock with
    | none => exact .inl rfl
    | some q => exact .inr fun e2 => by have := hrow q e2.symm; have := hu.over q e; omega
  exact ⟨⟨h.own.items.kept hg ki, h.own.locks.kept hg kl, h.own.doubts.kept hg kd, h.own.over.kept hg ko, h.own.ap_il, h.own.ap_id, h.own.ap_io, h.own.ap_ld, h.own.ap_lo, h.own.ap_do⟩, h.box.grown hg (fun e => by have := hrow _ e.symm; have := hu.m; omega), h.far_i, h.far_l, h.far_d, h.far_o, h.le, h.bel.grown hg h.sz (fun q hq => Nat.le_trans hC (hrow q hq))⟩
/-- None of the store's rows lies in that block. -/
structure Off (r : SV) (b : Nat) : Prop where
  i : (Value.slice r.ia r.il r.ic).ownBlock ≠ some b
  l : (Value.slice r.la r.ll r.lc).ownBlock ≠ some b
  d : (Value.slice r.da r.dl r.dc).ownBlock ≠ some b
  o : (Value.slice r.oa r.ol r.oc).ownBlock ≠ some b
theorem Off.of_lt {w : World} {C b : Nat} {s : SV} (h : OwnStore w C s) (hb : w.heap.size ≤ b) : Off s b := ⟨fun e => by have := (h.items.lt b e).2; omega, fun e => by have := (h.locks.lt b e).2; omega, fun e => by have := (h.doubts.lt b e).2; omega, fun e => by have := (h.over.lt b e).2; omega⟩
theorem Off.of_ge {w : World} {C b : Nat} {s : SV} (h : OwnStore w C s) (hb : b < C) : Off s b := ⟨fun e => by have := (h.items.lt b e).1; omega, fun e => by have := (h.locks.lt b e).1; omega, fun e => by have := (h.doubts.lt b e).1; omega, fun e => by have := (h.over.lt b e).1; omega⟩
theorem Off.far {w : World} {C b j : Nat} {s : SV} (f : Off s b) (h : OwnStore w C s) (v : Value) : OwnStore (w.setCell ⟨b, j, none⟩ v) C s := ⟨h.items.kept (grown_setCell w ⟨b, j, none⟩ v) (.inr f.i), h.locks.kept (grown_setCell w ⟨b, j, none⟩ v) (.inr f.l), h.doubts.kept (grown_setCell w ⟨b, j, none⟩ v) (.inr f.d), h.over.kept (grown_setCell w ⟨b, j, none⟩ v) (.inr f.o), h.ap_il, h.ap_id, h.ap_io, h.ap_ld, h.ap_lo, h.ap_do⟩
theorem Off.put_items {V : World} {b : Nat} {r : SV} (f : Off r b) {a : Option Addr} {n c : Nat} {xs : List ItV} (hat : (Value.slice a n c).ownBlock = (Value.slice r.ia r.il r.ic).ownBlock ∨ (Value.slice a n c).ownBlock = some V.heap.size) (hb : b < V.heap.size) : Off { r with ia := a, il := n, ic := c, items := xs } b := by
  have k : (Value.slice a n c).ownBlock ≠ some b := by
    rcases hat with e | e <;> rw [e]
    · exact f.i
    · intro e2; simp at e2; omega
  exact ⟨k, f.l, f.d, f.o⟩
theorem Off.put_locks {V : World} {b : Nat} {r : SV} (f : Off r b) {a : Option Addr} {n c : Nat} {xs : List LkV} (hat : (Value.slice a n c).ownBlock = (Value.slice r.la r.ll r.lc).ownBlock ∨ (Value.slice a n c).ownBlock = some V.heap.size) (hb : b < V.heap.size) : Off { r with la := a, ll := n, lc := c, locks := xs } b := by
  have k : (Value.slice a n c).ownBlock ≠ some b := by
    rcases hat with e | e <;> rw [e]
    · exact f.l
    · intro e2; simp at e2; omega
  exact ⟨f.i, k, f.d, f.o⟩
theorem Off.put_doubts {V : World} {b : Nat} {r : SV} (f : Off r b) {a : Option Addr} {n c : Nat} {xs : List DbV} (hat : (Value.slice a n c).ownBlock = (Value.slice r.da r.dl r.dc).ownBlock ∨ (Value.slice a n c).ownBlock = some V.heap.size) (hb : b < V.heap.size) : Off { r with da := a, dl := n, dc := c, doubts := xs } b := by
  have k : (Value.slice a n c).ownBlock ≠ some b := by
    rcases hat with e | e <;> rw [e]
    · exact f.d
    · intro e2; simp at e2; omega
  exact ⟨f.i, f.l, k, f.o⟩
theorem Off.put_over {V : World} {b : Nat} {r : SV} (f : Off r b) {a : Option Addr} {n c : Nat} {xs : List (Int × Int)} (hat : (Value.slice a n c).ownBlock = (Value.slice r.oa r.ol r.oc).ownBlock ∨ (Value.slice a n c).ownBlock = some V.heap.size) (hb : b < V.heap.size) : Off { r with oa := a, ol := n, oc := c, over := xs } b := by
  have k : (Value.slice a n c).ownBlock ≠ some b := by
    rcases hat with e | e <;> rw [e]
    · exact f.o
    · intro e2; simp at e2; omega
  exact ⟨f.i, f.l, f.d, k⟩
theorem Off.four {w : World} {C b : Nat} {s : SV} (f : Off s b) (h : OwnStore w C s) (p0 p1 p2 p3 : Value) : OwnStore ((((w.setCell ⟨b, 0, none⟩ p0).setCell ⟨b, 1, none⟩ p1).setCell ⟨b, 2, none⟩ p2).setCell ⟨b, 3, none⟩ p3) C s := f.far (f.far (f.far (f.far h p0) p1) p2) p3
theorem OwnStore.four {w : World} {C b : Nat} {s : SV} (h : OwnStore w C s) (hb : b < C) (p0 p1 p2 p3 : Value) : OwnStore ((((w.setCell ⟨b, 0, none⟩ p0).setCell ⟨b, 1, none⟩ p1).setCell ⟨b, 2, none⟩ p2).setCell ⟨b, 3, none⟩ p3) C s := (((h.box (p := ⟨b, 0, none⟩) hb p0).box (p := ⟨b, 1, none⟩) hb p1).box (p := ⟨b, 2, none⟩) hb p2).box (p := ⟨b, 3, none⟩) hb p3
theorem cell_four {U : World} {b c i : Nat} (h : b ≠ c) (p0 p1 p2 p3 : Value) : ((((U.setCell ⟨c, 0, none⟩ p0).setCell ⟨c, 1, none⟩ p1).setCell ⟨c, 2, none⟩ p2).setCell ⟨c, 3, none⟩ p3).cell? ⟨b, i, none⟩ = U.cell? ⟨b, i, none⟩ := by
  rw [World.cell?_of_block (a := ⟨b, i, none⟩) (Below.heap_setCell _ ⟨c, 3, none⟩ p3 b h), World.cell?_of_block (a := ⟨b, i, none⟩) (Below.heap_setCell _ ⟨c, 2, none⟩ p2 b h), World.cell?_of_block (a := ⟨b, i, none⟩) (Below.heap_setCell _ ⟨c, 1, none⟩ p1 b h), World.cell?_of_block (a := ⟨b, i, none⟩) (Below.heap_setCell _ ⟨c, 0, none⟩ p0 b h)]
theorem below_four {a w : World} {C b : Nat} (h : Below C a w) (hb : C ≤ b) (p0 p1 p2 p3 : Value) : Below C a ((((w.setCell ⟨b, 0, none⟩ p0).setCell ⟨b, 1, none⟩ p1).setCell ⟨b, 2, none⟩ p2).setCell ⟨b, 3, none⟩ p3) := by
  refine Below.setCell (Below.setCell (Below.setCell (Below.setCell h ?_ _) ?_ _) ?_ _) ?_ _
  all_goals exact hb
end Go.Proofs.YtgohpgollpjlnaaDoor.St
