/- Texts of this claim, one behind the other. -/
import Derived.Test.YtekglahigjblkaaGreatDoorM4RecoverRebuilds
import Derived.Test.YtekglahigjblkaaGreatDoorM7RecoverRebuilds
import Derived.Deep.RegionHeld3
import Derived.Deep.DeepCutAuto
/- A box of n cells in memory, and what leaves it alone. -/
namespace Go.Proofs.YtekglahigjblkaaGreatDoor.St
open Go.ChangeShapes Go.WideShapes Go.ChangeAt Go.RowKit
set_option linter.unusedVariables false

theorem set_ne {u : World} {b i j : Nat} {v : Value} (h : i ≠ j) : (u.setCell ⟨b, i, none⟩ v).cell? ⟨b, j, none⟩ = u.cell? ⟨b, j, none⟩ := by
  unfold World.setCell World.cell?
  simp only [Array.getElem?_modify]
  by_cases hb : b < u.heap.size
  · rw [Array.getElem?_eq_getElem hb]
    cases hc : u.heap[b] <;> simp [h]
  · rw [Array.getElem?_eq_none (by omega)]
    rfl
theorem set_frozen {u : World} {b i j : Nat} {v : Value} : (u.setCell ⟨b, i, none⟩ v).frozen? ⟨b, j, none⟩ = u.frozen? ⟨b, j, none⟩ := by
  unfold World.setCell World.frozen?
  simp only [Array.getElem?_modify]
  by_cases hb : b < u.heap.size
  · rw [Array.getElem?_eq_getElem hb]
    cases hc : u.heap[b] <;> simp
  · rw [Array.getElem?_eq_none (by omega)]
    rfl
/-- A box of n cells. -/
structure BoxN (u : World) (b n : Nat) (vs : List Value) : Prop where
  len : vs.length = n
  lt : b < u.heap.size
  c : ∀ i, i < n → u.cell? ⟨b, i, none⟩ = some (vs.getD i (.bool false)) ∧ u.frozen? ⟨b, i, none⟩ = false
theorem BoxN.set {u : World} {b n : Nat} {vs : List Value} (h : BoxN u b n vs) (k : Nat) (hk : k < n) (v : Value) : BoxN (u.setCell ⟨b, k, none⟩ v) b n (vs.set k v) := by
  refine ⟨by simp [h.len], by simpa using h.lt, fun i hi => ⟨?_, ?_⟩⟩
  · by_cases hik : k = i
    · subst hik
      rw [World.cell?_setCell_same u ⟨b, k, none⟩ _ (h.c k hk).1]
      simp [List.getD, h.len, hk]
    · rw [set_ne hik, (h.c i hi).1]
      simp [List.getD, hik]
  · rw [set_frozen]; exact (h.c i hi).2
theorem boxn_new (u : World) (cs : Array Value) (t : TypeId) (n : Nat) (hn : cs.size = n) : BoxN (u.alloc (.cells cs t)) u.heap.size n cs.toList := by
  refine ⟨by simpa using hn, by simp, fun i hi => ?_⟩
  have hb : (u.alloc (.cells cs t)).heap[u.heap.size]? = some (.cells cs t (0, 0)) := heap_alloc_new u _
  refine ⟨?_, ?_⟩
  · rw [cell_of_row _ u.heap.size i cs t (0, 0) hb]
    rw [Array.getElem?_eq_getElem (by omega)]
    simp [List.getD, show i < cs.size by omega]
  · simp only [World.frozen?, hb]
    simp
theorem BoxN.below {u u' : World} {b n B : Nat} {vs : List Value} (h : BoxN u b n vs) (hb : Below B u u') (hB : b < B) : BoxN u' b n vs := by
  have e := hb.block b hB
  refine ⟨h.len, Nat.lt_of_lt_of_le h.lt hb.size, fun i hi => ⟨?_, ?_⟩⟩
  · rw [World.cell?_of_block (a := ⟨b, i, none⟩) e]; exact (h.c i hi).1
  · rw [World.frozen?_of_block (a := ⟨b, i, none⟩) e]; exact (h.c i hi).2
theorem BoxN.grown {u u' : World} {b n : Nat} {vs : List Value} {row : Option Nat} (h : BoxN u b n vs) (hg : u.grownBy u' row) (hne : some b ≠ row) : BoxN u' b n vs := by
  have e := hg.block b h.lt hne
  refine ⟨h.len, Nat.lt_of_lt_of_le h.lt hg.size, fun i hi => ⟨?_, ?_⟩⟩
  · rw [World.cell?_of_block (a := ⟨b, i, none⟩) e]; exact (h.c i hi).1
  · rw [World.frozen?_of_block (a := ⟨b, i, none⟩) e]; exact (h.c i hi).2
theorem BoxN.far {u : World} {b n c k : Nat} {vs : List Value} {v : Value} (h : BoxN u b n vs) (hne : b ≠ c) : BoxN (u.setCell ⟨c, k, none⟩ v) b n vs := by
  have e : (u.setCell ⟨c, k, none⟩ v).heap[b]? = u.heap[b]? := Below.heap_setCell u _ _ b hne
  refine ⟨h.len, by simpa using h.lt, fun i hi => ⟨?_, ?_⟩⟩
  · rw [World.cell?_of_block (a := ⟨b, i, none⟩) e]; exact (h.c i hi).1
  · rw [World.frozen?_of_block (a := ⟨b, i, none⟩) e]; exact (h.c i hi).2
end Go.Proofs.YtekglahigjblkaaGreatDoor.St
/- The contract of fresh.Store: the same in memory of its own, the four lists apart. -/
namespace Go.Proofs.YtekglahigjblkaaGreatDoor.St
open Go.ChangeShapes Go.WideShapes Go.ChangeAt Go.RowKit
set_option linter.unusedVariables false

theorem sD {W V : World} (h : Below W.heap.size W V) : Below W.heap.size W V.drew := h.drew
theorem sT {W V V' : World} (h : Below W.heap.size W V) (hb : Below V.heap.size V V') : Below W.heap.size W V' := h.trans (hb.mono h.size)
theorem sS {W V : World} {n i : Nat} (h : Below n W V) (v : Value) : Below n W (V.setCell ⟨n, i, none⟩ v) := h.setCell (p := ⟨n, i, none⟩) (Nat.le_refl _) v
theorem sGrown {w w' : World} (h : w.grownBy w' none) : Below w.heap.size w w' := (Below.refl w.heap.size w).grown h (Nat.le_refl _) (fun k hk => by cases hk)
theorem own_base {w : World} {b c : Nat} {e : TypeId} {size : Nat} {v : Value} {n : Nat} {xs : List Value} (h : w.ownsRow b e size v n xs) (hc : c ≤ b) : w.ownsRow c e size v n xs := by
  refine ⟨h.1, ?_⟩
  rcases h.2 with h2 | ⟨g, cap, cur, hv, hb, r⟩
  · exact .inl h2
  · exact .inr ⟨g, cap, cur, hv, Nat.le_trans hc hb, r⟩
theorem own_st {U : World} {W n : Nat} {e : TypeId} {size : Nat} {v : Value} {k : Nat} {xs : List Value} (hz : W = n + 2) (h : U.ownsRow W e size v k xs) (p0 p1 p2 p3 : Value) : ((((U.setCell ⟨n + 1, 0, none⟩ p0).setCell ⟨n + 1, 1, none⟩ p1).setCell ⟨n + 1, 2, none⟩ p2).setCell ⟨n + 1, 3, none⟩ p3).ownsRow n e size v k xs := by
  subst hz
  refine own_base (b := n + 2) ?_ (by omega)
  refine ownsRow_setCell_below (ownsRow_setCell_below (ownsRow_setCell_below (ownsRow_setCell_below h ?_ _) ?_ _) ?_ _) ?_ _
  all_goals exact Nat.lt_succ_self _
theorem fin_st {w W U : World} (hB : Below w.heap.size w W) (h : Below W.heap.size W U) (p0 p1 p2 p3 : Value) : Below w.heap.size w ((((U.setCell ⟨w.heap.size + 1, 0, none⟩ p0).setCell ⟨w.heap.size + 1, 1, none⟩ p1).setCell ⟨w.heap.size + 1, 2, none⟩ p2).setCell ⟨w.heap.size + 1, 3, none⟩ p3) := by
  refine Below.setCell (Below.setCell (Below.setCell (Below.setCell (hB.trans (h.mono hB.size)) ?_ _) ?_ _) ?_ _) ?_ _
  all_goals exact Nat.le_succ _
/-- Two rows that do not share their block. -/
def Apart (x y : Value) : Prop := ∀ m, x.ownBlock = some m → y.ownBlock ≠ some m
theorem Apart.symm {x y : Value} (h : Apart x y) : Apart y x := fun m hy hx => h m hx hy
theorem apart_of {x y : Value} {u W : World} (h1 : ∀ m, x.ownBlock = some m → m < u.heap.size) (at2 : y.ownBlock = (Value.slice none 0 0).ownBlock ∨ y.ownBlock = some W.heap.size) (hb : Below u.heap.size u W) : Apart x y := fun m hx hy => by
  have h2 := h1 m hx
  have h3 := hb.size
  rcases at2 with h | h <;> rw [h] at hy
  · simp [Value.ownBlock] at hy
  · simp at hy; omega
/-- The store's four lists are rows of the call's own, apart from one another. -/
structure OwnStore (w : World) (B : Nat) (s : SV) : Prop where
  items : w.ownsRow B 68 3 (.slice s.ia s.il s.ic) s.il (flat ItV.cells s.items)
  locks : w.ownsRow B 70 6 (.slice s.la s.ll s.lc) s.ll (flat LkV.cells s.locks)
  doubts : w.ownsRow B 72 3 (.slice s.da s.dl s.dc) s.dl (flat DbV.cells s.doubts)
  over : w.ownsRow B 51 2 (.slice s.oa s.ol s.oc) s.ol (flat txCells s.over)
  ap_il : Apart (.slice s.ia s.il s.ic) (.slice s.la s.ll s.lc)
  ap_id : Apart (.slice s.ia s.il s.ic) (.slice s.da s.dl s.dc)
  ap_io : Apart (.slice s.ia s.il s.ic) (.slice s.oa s.ol s.oc)
  ap_ld : Apart (.slice s.la s.ll s.lc) (.slice s.da s.dl s.dc)
  ap_lo : Apart (.slice s.la s.ll s.lc) (.slice s.oa s.ol s.oc)
  ap_do : Apart (.slice s.da s.dl s.dc) (.slice s.oa s.ol s.oc)
def SV.same (s r : SV) : Prop := r.items = s.items ∧ r.locks = s.locks ∧ r.doubts = s.doubts ∧ r.over = s.over ∧ r.il = s.il ∧ r.ll = s.ll ∧ r.dl = s.dl ∧ r.ol = s.ol

theorem it_len (x : ItV) : (ItV.cells x).length = 3 := rfl
theorem it_one (y : ItV) : ∀ u ∈ ItV.cells y, u.oneCell' = true := by
  intro u hu
  simp [ItV.cells] at hu
  rcases hu with h | h | h <;> subst h <;> rfl
theorem itInfo : (Tryz.prog.info? 68).map (fun i => (i.zero, i.size, i.bytes)) = some (some (.agg #[.int .i64 0, .int .i64 0, .int .i64 0]), 3, 24) := by kernel_rfl
theorem itElem : ∃ i, Elem 3 ItV.cells 68 26 i (.agg #[.int .i64 0, .int .i64 0, .int .i64 0]) 24 := by
  obtain ⟨j0, hj, lj0, lj1, lj2⟩ := info_parts itInfo
  exact ⟨j0, it_len, by decide, it_one, Tryz.underlying26, hj, lj0, lj1, lj2, rfl⟩
theorem lkElem : ∃ i, Elem 6 LkV.cells 70 27 i (.agg #[.int .i64 0, .int .i64 0, .int .i64 0, .bool false, .int .i64 0, .int .i64 0]) 48 := by
  obtain ⟨j0, hj, lj0, lj1, lj2⟩ := info_parts lkInfo
  exact ⟨j0, lk_len, by decide, lk_one, Tryz.underlying27, hj, lj0, lj1, lj2, rfl⟩
theorem db_len (x : DbV) : (DbV.cells x).length = 3 := rfl
theorem db_one (y : DbV) : ∀ u ∈ DbV.cells y, u.oneCell' = true := by
  intro u hu
  simp [DbV.cells] at hu
  rcases hu with h | h | h <;> subst h <;> rfl
theorem dbInfo : (Tryz.prog.info? 72).map (fun i => (i.zero, i.size, i.bytes)) = some (some (.agg #[.int .i64 0, .int .i64 0, .int .i64 0]), 3, 24) := by kernel_rfl
theorem dbElem : ∃ i, Elem 3 DbV.cells 72 28 i (.agg #[.int .i64 0, .int .i64 0, .int .i64 0]) 24 := by
  obtain ⟨j0, hj, lj0, lj1, lj2⟩ := info_parts dbInfo
  exact ⟨j0, db_len, by decide, db_one, Tryz.underlying28, hj, lj0, lj1, lj2, rfl⟩
theorem tx_len (x : Int × Int) : (txCells x).length = 2 := rfl
theorem tx_one (y : Int × Int) : ∀ u ∈ txCells y, u.oneCell' = true := by
  intro u hu
  simp [txCells] at hu
  rcases hu with h | h <;> subst h <;> rfl
theorem txInfo : (Tryz.prog.info? 51).map (fun i => (i.zero, i.size, i.bytes)) = some (some (.agg #[.int .i64 0, .int .i64 0]), 2, 16) := by kernel_rfl
theorem txElem : ∃ i, Elem 2 txCells 51 29 i (.agg #[.int .i64 0, .int .i64 0]) 16 := by
  obtain ⟨j0, hj, lj0, lj1, lj2⟩ := info_parts txInfo
  exact ⟨j0, tx_len, by decide, tx_one, Tryz.underlying29, hj, lj0, lj1, lj2, rfl⟩

set_option maxRecDepth 100000 in
set_option maxHeartbeats 8000000 in
theorem own_any (s : SV) (w : World) (h : IsStore w s) (h1 : s.il ≤ 100) (h2 : s.ll ≤ 100) (h3 : s.dl ≤ 100) (h4 : s.ol * 16 ≤ 140737488351232) :
    Calls Tryz.prog 67 #[s.val] w fun e w' => ∃ r : SV, e = .returned r.val ∧ s.same r ∧ OwnStore w' w.heap.size r ∧ Below w.heap.size w w' := by
  obtain ⟨i1, E1⟩ := itElem
  obtain ⟨i2, E2⟩ := lkElem
  obtain ⟨i3, E3⟩ := dbElem
  obtain ⟨i4, E4⟩ := txElem
  simp only [SV.val]
  obtain ⟨W, hW⟩ : ∃ W : World, W = (w.alloc (.cells #[.slice s.ia s.il s.ic, .slice s.la s.ll s.lc, .slice s.da s.dl s.dc, .slice s.oa s.ol s.oc] 31)).alloc (.cells #[.slice none 0 0, .slice none 0 0, .slice none 0 0, .slice none 0 0] 31) := ⟨_, rfl⟩
  have hB : Below w.heap.size w W := by rw [hW]; exact ((Below.refl _ _).alloc (Nat.le_refl _) _).alloc (by simp) _
  have hz : W.heap.size = w.heap.size + 2 := by rw [hW]; simp
  have HZ : Hid (W.heap.size = w.heap.size + 2) := hz
  have hS := h.below hB
  have HS : Hid (∀ U, Below W.heap.size W U → IsStore U s) := fun U hU => hS.below hU
  have d0 : W.cell? ⟨w.heap.size, 0, none⟩ = some (.slice s.ia s.il s.ic) := by rw [hW]; go_simp
  have d1 : W.cell? ⟨w.heap.size, 1, none⟩ = some (.slice s.la s.ll s.lc) := by rw [hW]; go_simp
  have d2 : W.cell? ⟨w.heap.size, 2, none⟩ = some (.slice s.da s.dl s.dc) := by rw [hW]; go_simp
  have d3 : W.cell? ⟨w.heap.size, 3, none⟩ = some (.slice s.oa s.ol s.oc) := by rw [hW]; go_simp
  have y0 : W.cell? ⟨w.heap.size + 1, 0, none⟩ = some (.slice none 0 0) := by rw [hW]; go_simp
  have g0 : W.frozen? ⟨w.heap.size + 1, 0, none⟩ = false := by rw [hW]; go_simp
  have y1 : W.cell? ⟨w.heap.size + 1, 1, none⟩ = some (.slice none 0 0) := by rw [hW]; go_simp
  have g1 : W.frozen? ⟨w.heap.size + 1, 1, none⟩ = false := by rw [hW]; go_simp
  have y2 : W.cell? ⟨w.heap.size + 1, 2, none⟩ = some (.slice none 0 0) := by rw [hW]; go_simp
  have g2 : W.frozen? ⟨w.heap.size + 1, 2, none⟩ = false := by rw [hW]; go_simp
  have y3 : W.cell? ⟨w.heap.size + 1, 3, none⟩ = some (.slice none 0 0) := by rw [hW]; go_simp
  have g3 : W.frozen? ⟨w.heap.size + 1, 3, none⟩ = false := by rw [hW]; go_simp
  have KD : Hid (∀ U : World, Below (w.heap.size + 1) W U → U.cell? ⟨w.heap.size, 0, none⟩ = some (.slice s.ia s.il s.ic) ∧ U.cell? ⟨w.heap.size, 1, none⟩ = some (.slice s.la s.ll s.lc) ∧ U.cell? ⟨w.heap.size, 2, none⟩ = some (.slice s.da s.dl s.dc) ∧ U.cell? ⟨w.heap.size, 3, none⟩ = some (.slice s.oa s.ol s.oc)) := fun U hU => ⟨(hU.cell (p := ⟨w.heap.size, 0, none⟩) (Nat.lt_succ_self _)).trans d0, (hU.cell (p := ⟨w.heap.size, 1, none⟩) (Nat.lt_succ_self _)).trans d1, (hU.cell (p := ⟨w.heap.size, 2, none⟩) (Nat.lt_succ_self _)).trans d2, (hU.cell (p := ⟨w.heap.size, 3, none⟩) (Nat.lt_succ_self _)).trans d3⟩
  have KB : Hid (∀ U : World, Below W.heap.size W U → U.cell? ⟨w.heap.size + 1, 0, none⟩ = some (.slice none 0 0) ∧ U.frozen? ⟨w.heap.size + 1, 0, none⟩ = false ∧ U.cell? ⟨w.heap.size + 1, 1, none⟩ = some (.slice none 0 0) ∧ U.frozen? ⟨w.heap.size + 1, 1, none⟩ = false ∧ U.cell? ⟨w.heap.size + 1, 2, none⟩ = some (.slice none 0 0) ∧ U.frozen? ⟨w.heap.size + 1, 2, none⟩ = false ∧ U.cell? ⟨w.heap.size + 1, 3, none⟩ = some (.slice none 0 0) ∧ U.frozen? ⟨w.heap.size + 1, 3, none⟩ = false) := fun U hU => ⟨(hU.cell (p := ⟨w.heap.size + 1, 0, none⟩) (by rw [HZ.out]; exact Nat.lt_succ_self _)).trans y0, (hU.frozen (p := ⟨w.heap.size + 1, 0, none⟩) (by rw [HZ.out]; exact Nat.lt_succ_self _)).trans g0, (hU.cell (p := ⟨w.heap.size + 1, 1, none⟩) (by rw [HZ.out]; exact Nat.lt_succ_self _)).trans y1, (hU.frozen (p := ⟨w.heap.size + 1, 1, none⟩) (by rw [HZ.out]; exact Nat.lt_succ_self _)).trans g1, (hU.cell (p := ⟨w.heap.size + 1, 2, none⟩) (by rw [HZ.out]; exact Nat.lt_succ_self _)).trans y2, (hU.frozen (p := ⟨w.heap.size + 1, 2, none⟩) (by rw [HZ.out]; exact Nat.lt_succ_self _)).trans g2, (hU.cell (p := ⟨w.heap.size + 1, 3, none⟩) (by rw [HZ.out]; exact Nat.lt_succ_self _)).trans y3, (hU.frozen (p := ⟨w.heap.size + 1, 3, none⟩) (by rw [HZ.out]; exact Nat.lt_succ_self _)).trans g3⟩
  clear y0 y1 y2 y3 g0 g1 g2 g3 hS hz
  go_enter Tryz.func67, Tryz.ntmps67
  go_upto_region 1 with (fail)
  rw [← hW]
  clear hW
  go_region_held3 (fun U => U.cell? ⟨w.heap.size, 0, none⟩ = some (.slice s.ia s.il s.ic) ∧ U.cell? ⟨w.heap.size, 1, none⟩ = some (.slice s.la s.ll s.lc) ∧ U.cell? ⟨w.heap.size, 2, none⟩ = some (.slice s.da s.dl s.dc) ∧ U.cell? ⟨w.heap.size, 3, none⟩ = some (.slice s.oa s.ol s.oc))
    (exact KD.out _ (by (with_reducible repeat (refine sS ?_ _)); refine Below.mono (B := W.heap.size) ?_ (by rw [HZ.out]; omega); (with_reducible repeat (first | exact Below.refl _ _ | refine sD ?_ | refine sT ?_ hb1' | refine sT ?_ hb2' | refine sT ?_ hb3' | refine sT ?_ hb4')); done))
    (first
      | (refine step_append_row E1 (by rfl) (.const (.slice none 0 0)) (.tmp 4) (by rfl) W.heap.size (.slice none 0 0) 0 [] (by rfl) (World.ownsRow_nil _ _ _ _) s.ia s.il s.ic s.items (by rfl) (HS.out _ (by (with_reducible repeat (first | exact Below.refl _ _ | refine sD ?_ | refine sT ?_ hb1' | refine sT ?_ hb2' | refine sT ?_ hb3' | refine sT ?_ hb4')); done)).items (by unfold maxLen; omega) (by omega) (Below.size (show Below W.heap.size W _ from (by (with_reducible repeat (first | exact Below.refl _ _ | refine sD ?_ | refine sT ?_ hb1' | refine sT ?_ hb2' | refine sT ?_ hb3' | refine sT ?_ hb4')); done))) ?_; intro a1 c1 w1 own1 gr1 at1; simp only [Nat.zero_add, List.nil_append] at own1 at1 ⊢; have hb1' := sGrown gr1; have K1 : Hid (∀ U, Below w1.heap.size w1 U → U.ownsRow W.heap.size 68 3 (.slice a1 s.il c1) s.il (flat ItV.cells s.items)) := fun U hU => own_below own1 hU; have S1 : Hid (∀ m, (Value.slice a1 s.il c1).ownBlock = some m → m < w1.heap.size) := fun m hm => (own1.lt m hm).2; try (have A21 : Hid (Apart (.slice a2 s.ll c2) (.slice a1 s.il c1)) := apart_of S2.out at1 (by (with_reducible repeat (first | exact Below.refl _ _ | refine sD ?_ | refine sT ?_ hb1' | refine sT ?_ hb2' | refine sT ?_ hb3' | refine sT ?_ hb4')); done)); try (have A31 : Hid (Apart (.slice a3 s.dl c3) (.slice a1 s.il c1)) := apart_of S3.out at1 (by (with_reducible repeat (first | exact Below.refl _ _ | refine sD ?_ | refine sT ?_ hb1' | refine sT ?_ hb2' | refine sT ?_ hb3' | refine sT ?_ hb4')); done)); try (have A41 : Hid (Apart (.slice a4 s.ol c4) (.slice a1 s.il c1)) := apart_of S4.out at1 (by (with_reducible repeat (first | exact Below.refl _ _ | refine sD ?_ | refine sT ?_ hb1' | refine sT ?_ hb2' | refine sT ?_ hb3' | refine sT ?_ hb4')); done)); clear own1 gr1 at1; try (have _q1 := K1; have _q2 := K2; have _q3 := K3; have _q4 := K4; clear _q1 _q2 _q3 _q4; obtain ⟨z0, f0, z1, f1, z2, f2, z3, f3⟩ := KB.out w1 (by (with_reducible repeat (first | exact Below.refl _ _ | refine sD ?_ | refine sT ?_ hb1' | refine sT ?_ hb2' | refine sT ?_ hb3' | refine sT ?_ hb4')); done)))
      | (refine step_append_row E2 (by rfl) (.const (.slice none 0 0)) (.tmp 7) (by rfl) W.heap.size (.slice none 0 0) 0 [] (by rfl) (World.ownsRow_nil _ _ _ _) s.la s.ll s.lc s.locks (by rfl) (HS.out _ (by (with_reducible repeat (first | exact Below.refl _ _ | refine sD ?_ | refine sT ?_ hb1' | refine sT ?_ hb2' | refine sT ?_ hb3' | refine sT ?_ hb4')); done)).locks (by unfold maxLen; omega) (by omega) (Below.size (show Below W.heap.size W _ from (by (with_reducible repeat (first | exact Below.refl _ _ | refine sD ?_ | refine sT ?_ hb1' | refine sT ?_ hb2' | refine sT ?_ hb3' | refine sT ?_ hb4')); done))) ?_; intro a2 c2 w2 own2 gr2 at2; simp only [Nat.zero_add, List.nil_append] at own2 at2 ⊢; have hb2' := sGrown gr2; have K2 : Hid (∀ U, Below w2.heap.size w2 U → U.ownsRow W.heap.size 70 6 (.slice a2 s.ll c2) s.ll (flat LkV.cells s.locks)) := fun U hU => own_below own2 hU; have S2 : Hid (∀ m, (Value.slice a2 s.ll c2).ownBlock = some m → m < w2.heap.size) := fun m hm => (own2.lt m hm).2; try (have A12 : Hid (Apart (.slice a1 s.il c1) (.slice a2 s.ll c2)) := apart_of S1.out at2 (by (with_reducible repeat (first | exact Below.refl _ _ | refine sD ?_ | refine sT ?_ hb1' | refine sT ?_ hb2' | refine sT ?_ hb3' | refine sT ?_ hb4')); done)); try (have A32 : Hid (Apart (.slice a3 s.dl c3) (.slice a2 s.ll c2)) := apart_of S3.out at2 (by (with_reducible repeat (first | exact Below.refl _ _ | refine sD ?_ | refine sT ?_ hb1' | refine sT ?_ hb2' | refine sT ?_ hb3' | refine sT ?_ hb4')); done)); try (have A42 : Hid (Apart (.slice a4 s.ol c4) (.slice a2 s.ll c2)) := apart_of S4.out at2 (by (with_reducible repeat (first | exact Below.refl _ _ | refine sD ?_ | refine sT ?_ hb1' | refine sT ?_ hb2' | refine sT ?_ hb3' | refine sT ?_ hb4')); done)); clear own2 gr2 at2; try (have _q1 := K1; have _q2 := K2; have _q3 := K3; have _q4 := K4; clear _q1 _q2 _q3 _q4; obtain ⟨z0, f0, z1, f1, z2, f2, z3, f3⟩ := KB.out w2 (by (with_reducible repeat (first | exact Below.refl _ _ | refine sD ?_ | refine sT ?_ hb1' | refine sT ?_ hb2' | refine sT ?_ hb3' | refine sT ?_ hb4')); done)))
      | (refine step_append_row E3 (by rfl) (.const (.slice none 0 0)) (.tmp 10) (by rfl) W.heap.size (.slice none 0 0) 0 [] (by rfl) (World.ownsRow_nil _ _ _ _) s.da s.dl s.dc s.doubts (by rfl) (HS.out _ (by (with_reducible repeat (first | exact Below.refl _ _ | refine sD ?_ | refine sT ?_ hb1' | refine sT ?_ hb2' | refine sT ?_ hb3' | refine sT ?_ hb4')); done)).doubts (by unfold maxLen; omega) (by omega) (Below.size (show Below W.heap.size W _ from (by (with_reducible repeat (first | exact Below.refl _ _ | refine sD ?_ | refine sT ?_ hb1' | refine sT ?_ hb2' | refine sT ?_ hb3' | refine sT ?_ hb4')); done))) ?_; intro a3 c3 w3 own3 gr3 at3; simp only [Nat.zero_add, List.nil_append] at own3 at3 ⊢; have hb3' := sGrown gr3; have K3 : Hid (∀ U, Below w3.heap.size w3 U → U.ownsRow W.heap.size 72 3 (.slice a3 s.dl c3) s.dl (flat DbV.cells s.doubts)) := fun U hU => own_below own3 hU; have S3 : Hid (∀ m, (Value.slice a3 s.dl c3).ownBlock = some m → m < w3.heap.size) := fun m hm => (own3.lt m hm).2; try (have A13 : Hid (Apart (.slice a1 s.il c1) (.slice a3 s.dl c3)) := apart_of S1.out at3 (by (with_reducible repeat (first | exact Below.refl _ _ | refine sD ?_ | refine sT ?_ hb1' | refine sT ?_ hb2' | refine sT ?_ hb3' | refine sT ?_ hb4')); done)); try (have A23 : Hid (Apart (.slice a2 s.ll c2) (.slice a3 s.dl c3)) := apart_of S2.out at3 (by (with_reducible repeat (first | exact Below.refl _ _ | refine sD ?_ | refine sT ?_ hb1' | refine sT ?_ hb2' | refine sT ?_ hb3' | refine sT ?_ hb4')); done)); try (have A43 : Hid (Apart (.slice a4 s.ol c4) (.slice a3 s.dl c3)) := apart_of S4.out at3 (by (with_reducible repeat (first | exact Below.refl _ _ | refine sD ?_ | refine sT ?_ hb1' | refine sT ?_ hb2' | refine sT ?_ hb3' | refine sT ?_ hb4')); done)); clear own3 gr3 at3; try (have _q1 := K1; have _q2 := K2; have _q3 := K3; have _q4 := K4; clear _q1 _q2 _q3 _q4; obtain ⟨z0, f0, z1, f1, z2, f2, z3, f3⟩ := KB.out w3 (by (with_reducible repeat (first | exact Below.refl _ _ | refine sD ?_ | refine sT ?_ hb1' | refine sT ?_ hb2' | refine sT ?_ hb3' | refine sT ?_ hb4')); done)))
      | (refine step_append_row E4 (by rfl) (.const (.slice none 0 0)) (.tmp 13) (by rfl) W.heap.size (.slice none 0 0) 0 [] (by rfl) (World.ownsRow_nil _ _ _ _) s.oa s.ol s.oc s.over (by rfl) (HS.out _ (by (with_reducible repeat (first | exact Below.refl _ _ | refine sD ?_ | refine sT ?_ hb1' | refine sT ?_ hb2' | refine sT ?_ hb3' | refine sT ?_ hb4')); done)).over (by unfold maxLen; omega) (by omega) (Below.size (show Below W.heap.size W _ from (by (with_reducible repeat (first | exact Below.refl _ _ | refine sD ?_ | refine sT ?_ hb1' | refine sT ?_ hb2' | refine sT ?_ hb3' | refine sT ?_ hb4')); done))) ?_; intro a4 c4 w4 own4 gr4 at4; simp only [Nat.zero_add, List.nil_append] at own4 at4 ⊢; have hb4' := sGrown gr4; have K4 : Hid (∀ U, Below w4.heap.size w4 U → U.ownsRow W.heap.size 51 2 (.slice a4 s.ol c4) s.ol (flat txCells s.over)) := fun U hU => own_below own4 hU; have S4 : Hid (∀ m, (Value.slice a4 s.ol c4).ownBlock = some m → m < w4.heap.size) := fun m hm => (own4.lt m hm).2; try (have A14 : Hid (Apart (.slice a1 s.il c1) (.slice a4 s.ol c4)) := apart_of S1.out at4 (by (with_reducible repeat (first | exact Below.refl _ _ | refine sD ?_ | refine sT ?_ hb1' | refine sT ?_ hb2' | refine sT ?_ hb3' | refine sT ?_ hb4')); done)); try (have A24 : Hid (Apart (.slice a2 s.ll c2) (.slice a4 s.ol c4)) := apart_of S2.out at4 (by (with_reducible repeat (first | exact Below.refl _ _ | refine sD ?_ | refine sT ?_ hb1' | refine sT ?_ hb2' | refine sT ?_ hb3' | refine sT ?_ hb4')); done)); try (have A34 : Hid (Apart (.slice a3 s.dl c3) (.slice a4 s.ol c4)) := apart_of S3.out at4 (by (with_reducible repeat (first | exact Below.refl _ _ | refine sD ?_ | refine sT ?_ hb1' | refine sT ?_ hb2' | refine sT ?_ hb3' | refine sT ?_ hb4')); done)); clear own4 gr4 at4; try (have _q1 := K1; have _q2 := K2; have _q3 := K3; have _q4 := K4; clear _q1 _q2 _q3 _q4; obtain ⟨z0, f0, z1, f1, z2, f2, z3, f3⟩ := KB.out w4 (by (with_reducible repeat (first | exact Below.refl _ _ | refine sD ?_ | refine sT ?_ hb1' | refine sT ?_ hb2' | refine sT ?_ hb3' | refine sT ?_ hb4')); done))))
  all_goals
    go_wp2
    refine bodyPost_ret (v := .agg #[.slice a1 s.il c1, .slice a2 s.ll c2, .slice a3 s.dl c3, .slice a4 s.ol c4]) (by simp [results, Tryz.results67, go_sem, z0, z1, z2, z3]) rfl ?_
    refine ⟨⟨a1, s.il, c1, a2, s.ll, c2, a3, s.dl, c3, a4, s.ol, c4, s.items, s.locks, s.doubts, s.over⟩, rfl, ⟨rfl, rfl, rfl, rfl, rfl, rfl, rfl, rfl⟩, ?_, fin_st hB (by (with_reducible repeat (first | exact Below.refl _ _ | refine sD ?_ | refine sT ?_ hb1' | refine sT ?_ hb2' | refine sT ?_ hb3' | refine sT ?_ hb4')); done) _ _ _ _⟩
    exact ⟨own_st HZ.out (K1.out _ (by (with_reducible repeat (first | exact Below.refl _ _ | refine sD ?_ | refine sT ?_ hb1' | refine sT ?_ hb2' | refine sT ?_ hb3' | refine sT ?_ hb4')); done)) _ _ _ _, own_st HZ.out (K2.out _ (by (with_reducible repeat (first | exact Below.refl _ _ | refine sD ?_ | refine sT ?_ hb1' | refine sT ?_ hb2' | refine sT ?_ hb3' | refine sT ?_ hb4')); done)) _ _ _ _, own_st HZ.out (K3.out _ (by (with_reducible repeat (first | exact Below.refl _ _ | refine sD ?_ | refine sT ?_ hb1' | refine sT ?_ hb2' | refine sT ?_ hb3' | refine sT ?_ hb4')); done)) _ _ _ _, own_st HZ.out (K4.out _ (by (with_reducible repeat (first | exact Below.refl _ _ | refine sD ?_ | refine sT ?_ hb1' | refine sT ?_ hb2' | refine sT ?_ hb3' | refine sT ?_ hb4')); done)) _ _ _ _, by first | exact A12.out | exact A21.out.symm, by first | exact A13.out | exact A31.out.symm, by first | exact A14.out | exact A41.out.symm, by first | exact A23.out | exact A32.out.symm, by first | exact A24.out | exact A42.out.symm, by first | exact A34.out | exact A43.out.symm⟩
end Go.Proofs.YtekglahigjblkaaGreatDoor.St
/- A store's plain data; what a call owns of a store is a store; one list put in another's place. -/
namespace Go.Proofs.YtekglahigjblkaaGreatDoor.St
open Go.ChangeShapes Go.WideShapes Go.ChangeAt Go.RowKit
set_option linter.unusedVariables false

structure PS where
  items : List ItV
  locks : List LkV
  doubts : List DbV
  over : List (Int × Int)
def SV.data (s : SV) : PS := ⟨s.items, s.locks, s.doubts, s.over⟩
def SV.nil : SV := ⟨none, 0, 0, none, 0, 0, none, 0, 0, none, 0, 0, [], [], [], []⟩
theorem isStore_nil (w : World) : IsStore w SV.nil := ⟨isRow_nil _ _ _, isRow_nil _ _ _, isRow_nil _ _ _, isRow_nil _ _ _⟩
theorem same_data {s r : SV} (h : s.same r) : r.data = s.data := by
  obtain ⟨h1, h2, h3, h4, _⟩ := h
  simp [SV.data, h1, h2, h3, h4]
theorem own_len {α : Type} {cells : α → List Value} {k : Nat} (hk : ∀ x, (cells x).length = k) (hp : 0 < k) {w : World} {B : Nat} {te : TypeId} {v : Value} {n : Nat} {xs : List α} (h : w.ownsRow B te k v n (flat cells xs)) : xs.length = n := by
  have h1 := h.1
  rw [flat_len hk] at h1
  exact Nat.eq_of_mul_eq_mul_right hp h1
theorem ownStore_nil (w : World) (B : Nat) : OwnStore w B SV.nil := by
  refine ⟨World.ownsRow_nil _ _ _ _, World.ownsRow_nil _ _ _ _, World.ownsRow_nil _ _ _ _, World.ownsRow_nil _ _ _ _, ?_, ?_, ?_, ?_, ?_, ?_⟩ <;> (intro m h; simp [SV.nil, Value.ownBlock] at h)
theorem OwnStore.isStore {w : World} {B : Nat} {s : SV} (h : OwnStore w B s) : IsStore w s :=
  ⟨(own_isRow it_len h.items (own_len it_len (by decide) h.items)).1, (own_isRow lk_len h.locks (own_len lk_len (by decide) h.locks)).1, (own_isRow db_len h.doubts (own_len db_len (by decide) h.doubts)).1, (own_isRow tx_len h.over (own_len tx_len (by decide) h.over)).1⟩
theorem OwnStore.below {w w' : World} {B : Nat} {s : SV} (h : OwnStore w B s) (hb : Below w.heap.size w w') : OwnStore w' B s :=
  ⟨own_below h.items hb, own_below h.locks hb, own_below h.doubts hb, own_below h.over hb, h.ap_il, h.ap_id, h.ap_io, h.ap_ld, h.ap_lo, h.ap_do⟩
theorem OwnStore.base {w : World} {B C : Nat} {s : SV} (h : OwnStore w B s) (hc : C ≤ B) : OwnStore w C s :=
  ⟨own_base h.items hc, own_base h.locks hc, own_base h.doubts hc, own_base h.over hc, h.ap_il, h.ap_id, h.ap_io, h.ap_ld, h.ap_lo, h.ap_do⟩
theorem OwnStore.box {w : World} {B : Nat} {s : SV} (h : OwnStore w B s) {p : Addr} (hp : p.block < B) (v : Value) : OwnStore (w.setCell p v) B s :=
  ⟨ownsRow_setCell_below h.items hp v, ownsRow_setCell_below h.locks hp v, ownsRow_setCell_below h.doubts hp v, ownsRow_setCell_below h.over hp v, h.ap_il, h.ap_id, h.ap_io, h.ap_ld, h.ap_lo, h.ap_do⟩
theorem apart_l {x y : Value} (h : Apart x y) : x.ownBlock = none ∨ x.ownBlock ≠ y.ownBlock := by
  cases e : x.ownBlock with
  | none => exact .inl rfl
  | some m => exact .inr fun e2 => h m e e2.symm
theorem apart_r {x y : Value} (h : Apart x y) : y.ownBlock = none ∨ y.ownBlock ≠ x.ownBlock := apart_l h.symm
theorem apart_new {w : World} {B : Nat} {te : TypeId} {k n : Nat} {x x' y : Value} {ys : List Value} (h : Apart x y) (hy : w.ownsRow B te k y n ys) (hat : ∀ m, x'.ownBlock = some m → x.ownBlock = some m ∨ w.heap.size ≤ m) : Apart x' y := by
  intro m h1 h2
  rcases hat m h1 with h3 | h3
  · exact h m h3 h2
  · have := (hy.lt m h2).2
    omega
theorem at_of {w : World} {x x' : Value} {n : Nat} (h : x'.ownBlock = x.ownBlock ∨ x'.ownBlock = some n) (hn : w.heap.size ≤ n) : ∀ m, x'.ownBlock = some m → x.ownBlock = some m ∨ w.heap.size ≤ m := by
  intro m hm
  rcases h with h1 | h1
  · exact .inl (h1 ▸ hm)
  · rw [h1] at hm
    simp at hm
    exact .inr (by omega)
/-- Another list of items. -/
theorem OwnStore.put_items {w w' : World} {B : Nat} {s : SV} (h : OwnStore w B s) {a : Option Addr} {n c : Nat} {xs : List ItV} (hg : w.grownBy w' (Value.slice s.ia s.il s.ic).ownBlock) (hown : w'.ownsRow B 68 3 (.slice a n c) n (flat ItV.cells xs))
    (hat : ∀ m, (Value.slice a n c).ownBlock = some m → (Value.slice s.ia s.il s.ic).ownBlock = some m ∨ w.heap.size ≤ m) : OwnStore w' B { s with ia := a, il := n, ic := c, items := xs } :=
  ⟨hown, h.locks.kept hg (apart_l (h.ap_il.symm)), h.doubts.kept hg (apart_l (h.ap_id.symm)), h.over.kept hg (apart_l (h.ap_io.symm)), apart_new h.ap_il h.locks hat, apart_new h.ap_id h.doubts hat, apart_new h.ap_io h.over hat, h.ap_ld, h.ap_lo, h.ap_do⟩
/-- Another list of locks. -/
theorem OwnStore.put_locks {w w' : World} {B : Nat} {s : SV} (h : OwnStore w B s) {a : Option Addr} {n c : Nat} {xs : List LkV} (hg : w.grownBy w' (Value.slice s.la s.ll s.lc).ownBlock) (hown : w'.ownsRow B 70 6 (.slice a n c) n (flat LkV.cells xs))
    (hat : ∀ m, (Value.slice a n c).ownBlock = some m → (Value.slice s.la s.ll s.lc).ownBlock = some m ∨ w.heap.size ≤ m) : OwnStore w' B { s with la := a, ll := n, lc := c, locks := xs } :=
  ⟨h.items.kept hg (apart_l (h.ap_il)), hown, h.doubts.kept hg (apart_l (h.ap_ld.symm)), h.over.kept hg (apart_l (h.ap_lo.symm)), (apart_new (h.ap_il.symm) h.items hat).symm, h.ap_id, h.ap_io, apart_new h.ap_ld h.doubts hat, apart_new h.ap_lo h.over hat, h.ap_do⟩
/-- Another list of doubts. -/
theorem OwnStore.put_doubts {w w' : World} {B : Nat} {s : SV} (h : OwnStore w B s) {a : Option Addr} {n c : Nat} {xs : List DbV} (hg : w.grownBy w' (Value.slice s.da s.dl s.dc).ownBlock) (hown : w'.ownsRow B 72 3 (.slice a n c) n (flat DbV.cells xs))
    (hat : ∀ m, (Value.slice a n c).ownBlock = some m → (Value.slice s.da s.dl s.dc).ownBlock = some m ∨ w.heap.size ≤ m) : OwnStore w' B { s with da := a, dl := n, dc := c, doubts := xs } :=
  ⟨h.items.kept hg (apart_l (h.ap_id)), h.locks.kept hg (apart_l (h.ap_ld)), hown, h.over.kept hg (apart_l (h.ap_do.symm)), h.ap_il, (apart_new (h.ap_id.symm) h.items hat).symm, h.ap_io, (apart_new (h.ap_ld.symm) h.locks hat).symm, h.ap_lo, apart_new h.ap_do h.over hat⟩
/-- Another list of over. -/
theorem OwnStore.put_over {w w' : World} {B : Nat} {s : SV} (h : OwnStore w B s) {a : Option Addr} {n c : Nat} {xs : List (Int × Int)} (hg : w.grownBy w' (Value.slice s.oa s.ol s.oc).ownBlock) (hown : w'.ownsRow B 51 2 (.slice a n c) n (flat txCells xs))
    (hat : ∀ m, (Value.slice a n c).ownBlock = some m → (Value.slice s.oa s.ol s.oc).ownBlock = some m ∨ w.heap.size ≤ m) : OwnStore w' B { s with oa := a, ol := n, oc := c, over := xs } :=
  ⟨h.items.kept hg (apart_l (h.ap_io)), h.locks.kept hg (apart_l (h.ap_lo)), h.doubts.kept hg (apart_l (h.ap_do)), hown, h.ap_il, h.ap_id, (apart_new (h.ap_io.symm) h.items hat).symm, h.ap_ld, (apart_new (h.ap_lo.symm) h.locks hat).symm, (apart_new (h.ap_do.symm) h.doubts hat).symm⟩
end Go.Proofs.YtekglahigjblkaaGreatDoor.St
