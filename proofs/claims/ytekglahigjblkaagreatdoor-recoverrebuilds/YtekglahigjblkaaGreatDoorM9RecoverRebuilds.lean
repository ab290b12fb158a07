/- Texts of this claim, one behind the other. -/
import Derived.Test.YtekglahigjblkaaGreatDoorM8RecoverRebuilds
import Derived.Deep.RegionLaw
import Derived.Lib.Overlaps
import Derived.Lib.AppendZerosOnto
import Derived.Lib.SliceRun
import Derived.Laws.IdiomCopy
import Derived.Laws.Externs
import Derived.Test.YtekglahigjblkaaGreatDoorM7RecoverRebuilds
import Derived.Test.YtekglahigjblkaaGreatDoorM4RecoverRebuilds
import Derived.Test.YtekglahigjblkaaGreatDoorM2RecoverRebuilds
/- The contract of slices.Insert at items: one item into a row of the caller's own. -/
namespace Go.Proofs.YtekglahigjblkaaGreatDoor.St
open Go.ChangeShapes Go.WideShapes Go.ChangeAt Go.RowKit
set_option linter.unusedVariables false

theorem run_copy_items (w : World) (ty : TypeId) (b o dLen dCap : Nat) (a : Addr) (sLen sCap : Nat) (cs : List Value) (q : Nat) (hq : Nat.min sLen dLen = q) (hn : cs.length = q * 3)
    (hsrc : ∀ j v, cs[j]? = some v → w.cell? (a.add j) = some v) (hc : ∀ j, j < cs.length → (w.cell? ⟨b, o + j, none⟩).isSome = true) (hf : ∀ j, j < cs.length → w.frozen? ⟨b, o + j, none⟩ = false) (h1 : ∀ v ∈ cs, v.oneCell' = true) :
    (Builtin.copy_ #[26, 26] ty #[.slice (some ⟨b, o, none⟩) dLen dCap, .slice (some a) sLen sCap]).run Tryz.prog w = .ok (goInt q) (w.setCells b o cs) := by
  obtain ⟨i, hi, _, hs, _⟩ := info_parts itInfo
  have hl := run_loadCells_list (P := Tryz.prog) w a cs hsrc
  have hst := run_storeCells_cells (P := Tryz.prog) b o cs 0 w (by simpa using hc) (by simpa using hf) h1
  rw [hn] at hl
  simp only [Nat.add_zero] at hst
  simp [Builtin.copy_, run_underlying Tryz.underlying26, Builtin.lenOf, Builtin.firstCells, sizeOf, typeInfo, hi, hs, hq, hl, hst]
theorem cp_wp {w : World} {ops : Array Oper} {rest : List Oper} {o : Oper} {A : Act} {Q : Exit → Act → World → Prop} (hgd : o.guard = none) (d s : Operand) (t t' : TypeId)
    (ho : o.op = .call { callee := .builtin .copy, args := #[d, s], argTypes := #[t, t'] }) (v u : Value) (hd : A.eval d = v) (hs : A.eval s = u) {v' : Value} {w' : World}
    (hr : (Builtin.copy_ #[t, t'] o.type #[v, u]).run Tryz.prog w = .ok v' w') (h : wpList Tryz.prog ops Q rest (A.put o.dst v') w') : wpList Tryz.prog ops Q (o :: rest) A w := by
  refine wpList_plain hgd fun K hK => ?_
  unfold Oper.wp execOp
  simp only [ho, resolve, invoke, builtin, Sem.run_bind, Sem.run_pure, Result.andThen_ok, List.map_toArray, List.map_cons, List.map_nil, hd, hs, hr]
  exact hK _ _ h
theorem cp_step {ops : Array Oper} {o : Oper} {A : Act} {w : World} {K : Act → World → Prop} {Q : Exit → Act → World → Prop} {F : Prop} (hgd : o.guard = none) (d s : Operand) (t t' : TypeId)
    (ho : o.op = .call { callee := .builtin .copy, args := #[d, s], argTypes := #[t, t'] }) (v u : Value) (hd : A.eval d = v) (hs : A.eval s = u) {v' : Value} {w' : World}
    (hr : (Builtin.copy_ #[t, t'] o.type #[v, u]).run Tryz.prog w = .ok v' w') (h : K (A.put o.dst v') w') : if Region.wanted o (yielded ops A.tmps) = true then Oper.wp Tryz.prog o A w K Q else F := by
  have hw : Region.wanted o (yielded ops A.tmps) = true := by simp [Region.wanted, hgd]
  rw [if_pos hw]
  unfold Oper.wp execOp
  simp only [ho, resolve, invoke, builtin, Sem.run_bind, Sem.run_pure, Result.andThen_ok, List.map_toArray, List.map_cons, List.map_nil, hd, hs, hr]
  exact h
/-- A row may take its next place. -/
theorem own_more {w : World} {B : Nat} {e : TypeId} {g n cap size : Nat} {xs : List Value} (h : w.ownsRow B e size (.slice (some ⟨g, 0, none⟩) n cap) n xs) (hn : n + 1 ≤ cap) : ∃ ys, w.ownsRow B e size (.slice (some ⟨g, 0, none⟩) (n + 1) cap) (n + 1) ys ∧ ys.length = (n + 1) * size ∧ ys.take (n * size) = xs := by
  obtain ⟨hl, h2⟩ := h
  rcases h2 with ⟨hv, h0⟩ | ⟨g', cap', cur, hv, hb, hg, h1, h3, hs, ht⟩
  · simp at hv
  · simp at hv
    obtain ⟨rfl, rfl⟩ := hv
    have hm : (n + 1) * size ≤ cap * size := Nat.mul_le_mul_right _ hn
    have hm2 : n * size ≤ (n + 1) * size := Nat.mul_le_mul_right _ (by omega)
    refine ⟨cur.toList.take ((n + 1) * size), ⟨?_, .inr ⟨g, cap, cur, rfl, hb, hg, hn, h3, hs, rfl⟩⟩, ?_, ?_⟩
    · rw [List.length_take, Array.length_toList, hs]; omega
    · rw [List.length_take, Array.length_toList, hs]; omega
    · rw [List.take_take, Nat.min_eq_left hm2, ht]
theorem put_in {xs : List ItV} {n i : Nat} (x : ItV) (ys : List Value) (hl : xs.length = n) (hi : i ≤ n) (hy : ys.length = (n + 1) * 3) (ht : ys.take (i * 3) = flat ItV.cells (xs.take i)) : setL (setL ys ((i + 1) * 3) (flat ItV.cells (xs.drop i))) (i * 3) (ItV.cells x) = flat ItV.cells (xs.take i ++ x :: xs.drop i) := by
  have hd : (flat ItV.cells (xs.drop i)).length = (n - i) * 3 := by rw [flat_len it_len]; simp [hl]
  have hx : (ItV.cells x).length = 3 := rfl
  have e1 : setL ys ((i + 1) * 3) (flat ItV.cells (xs.drop i)) = ys.take ((i + 1) * 3) ++ flat ItV.cells (xs.drop i) := by
    have hdn : ys.drop ((i + 1) * 3 + (flat ItV.cells (xs.drop i)).length) = [] := List.drop_eq_nil_of_le (by rw [hd, hy]; omega)
    rw [setL_eq _ _ _ (by rw [hd, hy]; omega), hdn, List.append_nil]
  have h3 : (ys.take ((i + 1) * 3)).length = (i + 1) * 3 := by rw [List.length_take, hy]; omega
  rw [e1, setL_eq _ _ _ (by rw [List.length_append, h3, hx]; omega)]
  have e2 : (ys.take ((i + 1) * 3) ++ flat ItV.cells (xs.drop i)).take (i * 3) = flat ItV.cells (xs.take i) := by
    rw [List.take_append_of_le_length (by rw [h3]; omega), List.take_take, Nat.min_eq_left (by omega), ht]
  have e3 : (ys.take ((i + 1) * 3) ++ flat ItV.cells (xs.drop i)).drop (i * 3 + (ItV.cells x).length) = flat ItV.cells (xs.drop i) := by
    rw [hx, show i * 3 + 3 = (i + 1) * 3 by omega, List.drop_append_of_le_length (by rw [h3]; exact Nat.le_refl _), List.drop_eq_nil_of_le (by rw [h3]; exact Nat.le_refl _), List.nil_append]
  rw [e2, e3, flat_append]
  have : flat ItV.cells (x :: xs.drop i) = ItV.cells x ++ flat ItV.cells (xs.drop i) := by simp [flat]
  rw [this, List.append_assoc]

def insAt (xs : List ItV) (i : Nat) (x : ItV) : List ItV := xs.take i ++ x :: xs.drop i

set_option maxRecDepth 100000 in
set_option maxHeartbeats 4000000 in
/-- There is room, and it goes ahead of another one. -/
theorem insert_room (B g n cap i : Nat) (xs : List ItV) (x : ItV) (w V : World) (hVw : V = w.alloc (.cells #[.int .i64 x.key, .int .i64 x.value, .int .i64 x.version] 68)) (h : w.ownsRow B 68 3 (.slice (some ⟨g, 0, none⟩) n cap) n (flat ItV.cells xs)) (hi : i < n) (hn : n + 1 ≤ cap) :
    Calls Tryz.prog 89 #[.slice (some ⟨g, 0, none⟩) n cap, .int .i64 (i : Int), .slice (some ⟨w.heap.size, 0, none⟩) 1 1] V fun e w' => e = .returned (.slice (some ⟨g, 0, none⟩) (n + 1) cap) ∧ w'.ownsRow B 68 3 (.slice (some ⟨g, 0, none⟩) (n + 1) cap) (n + 1) (flat ItV.cells (insAt xs i x)) ∧ V.grownBy w' (some g) := by
  have hl := own_len it_len (by decide) h
  obtain ⟨ik, iv, iw⟩ := x
  simp only [] at hVw
  have hg := h.lt g rfl
  have bV : Below w.heap.size w V := by rw [hVw]; exact (Below.refl _ _).alloc (Nat.le_refl _) _
  have hV := own_below h bV
  have hcm : cap ≤ maxLen := by
    obtain ⟨_, _, e0, _, h2, _⟩ := own_form h
    simp at e0
    omega
  unfold maxLen at hcm
  obtain ⟨ys, hown, hyl, hyt⟩ := own_more hV hn
  have hyi : ys.take (i * 3) = flat ItV.cells (xs.take i) := by
    have : ys.take (i * 3) = (ys.take (n * 3)).take (i * 3) := by rw [List.take_take, Nat.min_eq_left (by omega)]
    rw [this, hyt, flat_take it_len]
  have bx := boxn_new w #[.int .i64 ik, .int .i64 iv, .int .i64 iw] 68 3 rfl
  rw [← hVw] at bx
  have hne : w.heap.size ≠ g := by omega
  have hov : ∀ oo lb cb, (callFunc 102 #[.slice (some ⟨w.heap.size, 0, none⟩) 1 1, .slice (some ⟨g, oo, none⟩) lb cb]).run Tryz.prog V = .ok (.value (.bool false)) V := by
    intro oo lb cb
    have hb : V.heap[w.heap.size]? = some (.cells #[.int .i64 ik, .int .i64 iv, .int .i64 iw] 68 (0, 0)) := by rw [hVw]; exact heap_alloc_new w _
    obtain ⟨cur, hgb, hcs⟩ : ∃ cur : Array Value, V.heap[g]? = some (.cells cur 68 (0, 0)) ∧ cur.size = cap * 3 := by
      rcases hV.2 with ⟨hv, _⟩ | ⟨g', cap', cur, hv, _, hgb, _, _, hs, _⟩
      · simp at hv
      · simp at hv
        obtain ⟨rfl, rfl⟩ := hv
        exact ⟨cur, hgb, hs⟩
    obtain ⟨i0, hi0, _, hs0, _⟩ := info_parts itInfo
    rw [run_callFunc_extern Tryz.func102 (by kernel_rfl) (by kernel_rfl) (by kernel_rfl) (e := Extern.SlicesOverlaps.overlaps #[26, 26] #[4]) (by kernel_rfl),
      Go.Lib.run_overlaps_apart V 26 4 68 Tryz.underlying26 3 (fun w => by simp [sizeOf, typeInfo, hi0, hs0]) ⟨w.heap.size, 0, none⟩ ⟨g, oo, none⟩ 1 1 lb cb hne 68 68 3 (cap * 3)
        (by simp [World.shape?, hb]) (by simp [World.shape?, hgb, hcs]) (by omega) (bx.c 0 (by decide)).2 (by simp [World.frozen?, hb])]
    rfl
  have HDL : Hid ((flat ItV.cells (xs.drop i)).length = (n - i) * 3) := by show _ = _; rw [flat_len it_len]; simp [hl]
  have h1c : ∀ v ∈ flat ItV.cells (xs.drop i), v.oneCell' = true := flat_one' (k := 3) it_one _
  have hrow := (own_isRow it_len hV hl).1
  have hD : Below V.heap.size V V.drew := (Below.refl _ _).drew
  have hownD := own_below hown hD
  have hcp1 : ∀ ty, (Builtin.copy_ #[26, 26] ty #[.slice (some ⟨g, (i + 1) * 3, none⟩) (n - i) (cap - (i + 1)), .slice (some ⟨g, i * 3, none⟩) (n + 1 - i) (cap - i)]).run Tryz.prog V.drew = .ok (goInt ((n - i : Nat) : Int)) (V.drew.setCells g ((i + 1) * 3) (flat ItV.cells (xs.drop i))) := fun ty =>
    run_copy_items V.drew ty g ((i + 1) * 3) (n - i) (cap - (i + 1)) ⟨g, i * 3, none⟩ (n + 1 - i) (cap - i) (flat ItV.cells (xs.drop i)) (n - i) (by simp only [Nat.min_def]; split <;> omega) HDL.out
      (fun j v hj => by
        have hf : (flat ItV.cells xs)[i * 3 + j]? = some v := by rw [← List.getElem?_drop, flat_drop it_len]; exact hj
        have := (own_below hV hD).cells (g := g) rfl _ _ hf
        rw [adr_add] at this ⊢
        rw [Nat.zero_add] at this
        exact this)
      (fun j hj => by rw [HDL.out] at hj; exact (own_there hownD (by omega)).1) (fun j hj => by rw [HDL.out] at hj; exact (own_there hownD (by omega)).2) h1c
  obtain ⟨W1, hW1⟩ : ∃ W1, W1 = V.drew.setCells g ((i + 1) * 3) (flat ItV.cells (xs.drop i)) := ⟨_, rfl⟩
  have own1 : W1.ownsRow B 68 3 (.slice (some ⟨g, 0, none⟩) (n + 1) cap) (n + 1) (setL ys ((i + 1) * 3) (flat ItV.cells (xs.drop i))) := by
    rw [hW1]
    exact own_setCells _ _ _ _ hownD (by rw [HDL.out]; omega)
  have gr1 : V.grownBy W1 (some g) := by rw [hW1]; exact grown_trans (grown_below hD _) (grown_setCells g _ _ _)
  rw [← hW1] at hcp1
  clear hW1
  have bx1 := bx.grown gr1 (by simpa using hne)
  have hcp2 : ∀ ty, (Builtin.copy_ #[26, 26] ty #[.slice (some ⟨g, i * 3, none⟩) (n + 1 - i) (cap - i), .slice (some ⟨w.heap.size, 0, none⟩) 1 1]).run Tryz.prog W1 = .ok (goInt 1) (W1.setCells g (i * 3) [.int .i64 ik, .int .i64 iv, .int .i64 iw]) := fun ty =>
    run_copy_items W1 ty g (i * 3) (n + 1 - i) (cap - i) ⟨w.heap.size, 0, none⟩ 1 1 [.int .i64 ik, .int .i64 iv, .int .i64 iw] 1 (by simp only [Nat.min_def]; split <;> omega) rfl
      (fun j v hj => by
        rw [adr_add, Nat.zero_add]
        have hj3 : j < 3 := (List.getElem?_eq_some_iff.1 hj).1
        rw [(bx1.c j hj3).1]
        have : j = 0 ∨ j = 1 ∨ j = 2 := by omega
        rcases this with rfl | rfl | rfl <;> exact hj)
      (fun j hj => (own_there own1 (by simp at hj; omega)).1) (fun j hj => (own_there own1 (by simp at hj; omega)).2) (fun v hv => by simp at hv; rcases hv with e | e | e <;> subst e <;> rfl)
  have HFIN : Hid ((W1.setCells g (i * 3) [.int .i64 ik, .int .i64 iv, .int .i64 iw]).ownsRow B 68 3 (.slice (some ⟨g, 0, none⟩) (n + 1) cap) (n + 1) (flat ItV.cells (insAt xs i ⟨ik, iv, iw⟩)) ∧ V.grownBy (W1.setCells g (i * 3) [.int .i64 ik, .int .i64 iv, .int .i64 iw]) (some g)) := by
    refine ⟨?_, grown_trans gr1 (grown_setCells g _ _ _)⟩
    have o2 := own_setCells (ItV.cells ⟨ik, iv, iw⟩) (i * 3) W1 _ own1 (by rw [it_len]; omega)
    rw [put_in ⟨ik, iv, iw⟩ ys hl (by omega) hyl hyi] at o2
    exact o2
  have hz2 : ¬ ((i : Int) = (n : Int)) := by omega
  have hw1 : IntKind.i64.wrap ((i : Int) + 1) = (i : Int) + 1 := by rw [IntKind.wrap_i64]; omega
  have hw2 : IntKind.i64.wrap ((n : Int) + 1) = (n : Int) + 1 := by rw [IntKind.wrap_i64]; omega
  have hin : i ≤ n := by omega
  have hic : i ≤ cap := by omega
  have hi1c : i + 1 ≤ cap := by omega
  have hb1 : (i : Int) ≤ (n : Int) := by omega
  have hb2 : ¬ cap = i + 1 := by omega
  have hb4 : ¬ cap = i := by omega
  have hb5 : ¬ ((cap : Int) < (n : Int) + 1) := by omega
  have hb6 : (i : Int) + 1 ≤ (n : Int) + 1 := by omega
  have hb7 : (i : Int) ≤ (n : Int) + 1 := by omega
  have hb8 : i + 1 ≤ n + 1 := by omega
  have hnc : n ≤ cap := by omega
  have hp0 : (0 : Int) ≤ (i : Int) + 1 := by omega
  have htn : ((i : Int) + 1).toNat = i + 1 := by omega
  clear hV hown own1 gr1 bx1 bx hrow hownD hD h1c hyl hyt hyi h hVw bV hg hcm hne
  go_enter Tryz.func89, Tryz.ntmps89
  go_wp2_with (simp only [hov])
  go_region_law (refine cp_step (by rfl) (.tmp 73) (.tmp 76) 26 26 (by rfl) (.slice (some ⟨g, (i + 1) * 3, none⟩) (n - i) (cap - (i + 1))) (.slice (some ⟨g, i * 3, none⟩) (n + 1 - i) (cap - i)) (by simp [Act.eval, Act.put]) (by simp [Act.eval, Act.put]) (hcp1 _) ?_)
  all_goals
    go_wp2_with (at_builtin; refine cp_wp (by rfl) _ _ 26 26 (by rfl) _ _ (by rfl) (by rfl) (hcp2 _) ?_)
    go_ret
    exact ⟨rfl, HFIN.out.1, HFIN.out.2⟩
end Go.Proofs.YtekglahigjblkaaGreatDoor.St
/- Rows of the call's own, many of them: each lies in a block of its own; one may grow, be told a cell, or be made, and the others stay. A box beside them. -/
namespace Go.Proofs.YtekglahigjblkaaGreatDoor.Co
open Go.ChangeShapes Go.WideShapes Go.ChangeAt Go.RowKit
open Go.Proofs.YtekglahigjblkaaGreatDoor.St (BoxN boxn_new own_below grown_setCell own_setk)
set_option linter.unusedVariables false

/-- A row: the element's type, its cells, the slice, how many, and what the cells hold. -/
structure Rw where
  te : TypeId
  k : Nat
  v : Value
  n : Nat
  xs : List Value
structure Own (X : World) (B : Nat) (rows : List Rw) : Prop where
  own : ∀ (i : Nat) (r : Rw), rows[i]? = some r → X.ownsRow B r.te r.k r.v r.n r.xs
  ap : ∀ (i j : Nat) (r s : Rw), rows[i]? = some r → rows[j]? = some s → i ≠ j → r.v.ownBlock = none ∨ r.v.ownBlock ≠ s.v.ownBlock
theorem own_nil (X : World) (B : Nat) : Own X B [] := ⟨fun i r e => by simp at e, fun i j r s e => by simp at e⟩
theorem own_base {w : World} {B C : Nat} {te : TypeId} {k : Nat} {v : Value} {n : Nat} {xs : List Value} (h : w.ownsRow C te k v n xs) (hB : B ≤ C) : w.ownsRow B te k v n xs := by
  obtain ⟨h1, h2⟩ := h
  refine ⟨h1, ?_⟩
  rcases h2 with h2 | ⟨g, cap, cur, e, hb, r⟩
  · exact .inl h2
  · exact .inr ⟨g, cap, cur, e, Nat.le_trans hB hb, r⟩
theorem Own.base {X : World} {B C : Nat} {rows : List Rw} (h : Own X C rows) (hB : B ≤ C) : Own X B rows := ⟨fun i r e => own_base (h.own i r e) hB, h.ap⟩
theorem Own.below {X X' : World} {B : Nat} {rows : List Rw} (h : Own X B rows) (hb : Below X.heap.size X X') : Own X' B rows := ⟨fun i r e => own_below (h.own i r e) hb, h.ap⟩
theorem set_get {α : Type} {l : List α} {i j : Nat} {x y z : α} (e : l[i]? = some x) (h : (l.set i y)[j]? = some z) : (j = i ∧ z = y) ∨ (j ≠ i ∧ l[j]? = some z) := by
  by_cases hj : j = i
  · subst hj
    have hl : j < l.length := (List.getElem?_eq_some_iff.1 e).1
    rw [List.getElem?_set_self hl] at h
    exact Or.inl ⟨rfl, (Option.some.inj h).symm⟩
  · rw [List.getElem?_set_ne (fun e => hj e.symm)] at h
    exact Or.inr ⟨hj, h⟩
/-- One row grew, where it lay or in a new block. -/
theorem Own.grow {X X' : World} {B : Nat} {rows : List Rw} (h : Own X B rows) {i : Nat} {r r' : Rw} (e : rows[i]? = some r) (hg : X.grownBy X' r.v.ownBlock) (ho : X'.ownsRow B r'.te r'.k r'.v r'.n r'.xs) (hat : r'.v.ownBlock = r.v.ownBlock ∨ r'.v.ownBlock = some X.heap.size) : Own X' B (rows.set i r') := by
  have old : ∀ (j : Nat) (s : Rw), rows[j]? = some s → j ≠ i → r'.v.ownBlock = none ∨ r'.v.ownBlock ≠ s.v.ownBlock := fun j s es hj => by
    rcases hat with e1 | e1
    · rw [e1]; exact h.ap i j r s e es (fun e => hj e.symm)
    · refine Or.inr (fun e2 => ?_)
      have := ((h.own j s es).lt X.heap.size (by rw [← e2]; exact e1)).2
      omega
  refine ⟨fun j s es => ?_, fun j l s t es et hjl => ?_⟩
  · rcases set_get e es with ⟨rfl, rfl⟩ | ⟨hj, es⟩
    · exact ho
    · exact (h.own j s es).kept hg (h.ap j i s r es e hj)
  · rcases set_get e es with ⟨rfl, rfl⟩ | ⟨hj, es2⟩
    · rcases set_get e et with ⟨hl, _⟩ | ⟨hl, et2⟩
      · exact absurd hl.symm hjl
      · exact old l t et2 hl
    · rcases set_get e et with ⟨rfl, rfl⟩ | ⟨hl, et2⟩
      · rcases old j s es2 hj with e1 | e1
        · by_cases h2 : s.v.ownBlock = none
          · exact Or.inl h2
          · exact Or.inr (fun e3 => h2 (e3.trans e1))
        · exact Or.inr (fun e3 => e1 e3.symm)
      · exact h.ap j l s t es2 et2 hjl
/-- A row that a call made. -/
theorem Own.add {X X' : World} {B : Nat} {rows : List Rw} (h : Own X B rows) (hb : Below X.heap.size X X') (hB : B ≤ X.heap.size) {r : Rw} (ho : X'.ownsRow X.heap.size r.te r.k r.v r.n r.xs) : Own X' B (rows ++ [r]) := by
  have hlt : ∀ (j : Nat) (s : Rw), rows[j]? = some s → ∀ g, s.v.ownBlock = some g → g < X.heap.size := fun j s es g eg => ((h.own j s es).lt g eg).2
  have hge : ∀ g, r.v.ownBlock = some g → X.heap.size ≤ g := fun g eg => (ho.lt g eg).1
  have get : ∀ (j : Nat) (s : Rw), (rows ++ [r])[j]? = some s → rows[j]? = some s ∨ (j = rows.length ∧ s = r) := fun j s es => by
    by_cases hj : j < rows.length
    · rw [List.getElem?_append_left hj] at es; exact Or.inl es
    · rw [List.getElem?_append_right (by omega)] at es
      have hl := (List.getElem?_eq_some_iff.1 es).1
      simp at hl
      have : j - rows.length = 0 := by omega
      rw [this] at es
      simp at es
      exact Or.inr ⟨by omega, es.symm⟩
  refine ⟨fun j s es => ?_, fun j l s t es et hjl => ?_⟩
  · rcases get j s es with es | ⟨_, rfl⟩
    · exact own_below (h.own j s es) hb
    · exact own_base ho hB
  · rcases get j s es with es2 | ⟨rfl, rfl⟩
    · rcases get l t et with et2 | ⟨rfl, rfl⟩
      · exact h.ap j l s t es2 et2 hjl
      · by_cases h2 : s.v.ownBlock = none
        · exact Or.inl h2
        · refine Or.inr (fun e3 => ?_)
          obtain ⟨g, eg⟩ := Option.ne_none_iff_exists'.1 h2
          have h3 := hlt j s es2 g eg
          have h4 := hge g (by rw [← e3]; exact eg)
          omega
    · rcases get l t et with et2 | ⟨rfl, _⟩
      · by_cases h2 : s.v.ownBlock = none
        · exact Or.inl h2
        · refine Or.inr (fun e3 => ?_)
          obtain ⟨g, eg⟩ := Option.ne_none_iff_exists'.1 h2
          have h3 := hge g eg
          have h4 := hlt l t et2 g (by rw [← e3]; exact eg)
          omega
      · exact absurd rfl hjl
/-- A cell of another block is told. -/
theorem Own.aside {X : World} {B : Nat} {rows : List Rw} (h : Own X B rows) {q : Nat} (hq : ∀ (i : Nat) (r : Rw), rows[i]? = some r → r.v.ownBlock ≠ some q) (j : Nat) (u : Value) : Own (X.setCell ⟨q, j, none⟩ u) B rows :=
  ⟨fun i r e => (h.own i r e).kept (grown_setCell X ⟨q, j, none⟩ u) (Or.inr (hq i r e)), h.ap⟩
/-- A cell of a row is told. -/
theorem Own.cell {X : World} {B : Nat} {rows : List Rw} (h : Own X B rows) {i : Nat} {te : TypeId} {k g n cap : Nat} {xs : List Value} (e : rows[i]? = some ⟨te, k, .slice (some ⟨g, 0, none⟩) n cap, n, xs⟩) {j : Nat} (hj : j < n * k) (u : Value) : Own (X.setCell ⟨g, j, none⟩ u) B (rows.set i ⟨te, k, .slice (some ⟨g, 0, none⟩) n cap, n, xs.set j u⟩) :=
  h.grow e (grown_setCell X ⟨g, j, none⟩ u) (own_setk (h.own i _ e) hj u) (Or.inl rfl)
/-- A box, and rows of which none lies in it; all at B or above, and what was there ahead of B is as it was. -/
structure Held (w X : World) (B q n : Nat) (vs : List Value) (rows : List Rw) : Prop where
  box : BoxN X q n vs
  own : Own X B rows
  apart : ∀ (i : Nat) (r : Rw), rows[i]? = some r → r.v.ownBlock ≠ some q
  le : B ≤ q
  bel : Below B w X
theorem Held.below {w X X' : World} {B q n : Nat} {vs : List Value} {rows : List Rw} (h : Held w X B q n vs rows) (hb : Below X.heap.size X X') : Held w X' B q n vs rows :=
  ⟨h.box.below hb h.box.lt, h.own.below hb, h.apart, h.le, h.bel.trans (hb.mono (Nat.le_trans h.le (Nat.le_of_lt h.box.lt)))⟩
theorem Held.tell {w X : World} {B q n : Nat} {vs : List Value} {rows : List Rw} (h : Held w X B q n vs rows) (j : Nat) (hj : j < n) (u : Value) : Held w (X.setCell ⟨q, j, none⟩ u) B q n (vs.set j u) rows :=
  ⟨h.box.set j hj u, h.own.aside h.apart j u, h.apart, h.le, h.bel.setCell (p := ⟨q, j, none⟩) h.le u⟩
theorem Held.grow {w X X' : World} {B q n : Nat} {vs : List Value} {rows : List Rw} (h : Held w X B q n vs rows) {i : Nat} {r r' : Rw} (e : rows[i]? = some r) (hg : X.grownBy X' r.v.ownBlock) (ho : X'.ownsRow B r'.te r'.k r'.v r'.n r'.xs) (hat : r'.v.ownBlock = r.v.ownBlock ∨ r'.v.ownBlock = some X.heap.size) : Held w X' B q n vs (rows.set i r') := by
  have hne := h.apart i r e
  refine ⟨h.box.grown hg (fun e2 => hne e2.symm), h.own.grow e hg ho hat, fun j s es => ?_, h.le, ?_⟩
  · rcases set_get e es with ⟨_, rfl⟩ | ⟨_, es⟩
    · rcases hat with e1 | e1
      · rw [e1]; exact hne
      · rw [e1]; intro e2; have := h.box.lt; simp at e2; omega
    · exact h.apart j s es
  · exact h.bel.grown hg (Nat.le_trans h.le (Nat.le_of_lt h.box.lt)) (fun g eg => ((h.own.own i r e).lt g eg).1)
theorem Held.add {w X X' : World} {B q n : Nat} {vs : List Value} {rows : List Rw} (h : Held w X B q n vs rows) (hb : Below X.heap.size X X') {r : Rw} (ho : X'.ownsRow X.heap.size r.te r.k r.v r.n r.xs) : Held w X' B q n vs (rows ++ [r]) := by
  have h1 := h.below hb
  have hB : B ≤ X.heap.size := Nat.le_trans h.le (Nat.le_of_lt h.box.lt)
  refine ⟨h1.box, h.own.add hb hB ho, fun j s es => ?_, h.le, h1.bel⟩
  by_cases hj : j < rows.length
  · rw [List.getElem?_append_left hj] at es; exact h.apart j s es
  · rw [List.getElem?_append_right (by omega)] at es
    have hl := (List.getElem?_eq_some_iff.1 es).1
    simp at hl
    have : j - rows.length = 0 := by omega
    rw [this] at es
    simp at es
    subst es
    intro e2
    have := (ho.lt q e2).1
    have := h.box.lt
    omega
theorem Held.cell {w X : World} {B q n : Nat} {vs : List Value} {rows : List Rw} (h : Held w X B q n vs rows) {i : Nat} {te : TypeId} {k g m cap : Nat} {xs : List Value} (e : rows[i]? = some ⟨te, k, .slice (some ⟨g, 0, none⟩) m cap, m, xs⟩) {j : Nat} (hj : j < m * k) (u : Value) : Held w (X.setCell ⟨g, j, none⟩ u) B q n vs (rows.set i ⟨te, k, .slice (some ⟨g, 0, none⟩) m cap, m, xs.set j u⟩) :=
  h.grow e (grown_setCell X ⟨g, j, none⟩ u) (own_setk (h.own.own i _ e) hj u) (Or.inl rfl)
end Go.Proofs.YtekglahigjblkaaGreatDoor.Co
/- A desk's jobs and their tasks, on plain data, and in memory; what a desk that may be is. -/
namespace Go.Proofs.YtekglahigjblkaaGreatDoor.Co
open Go.ChangeShapes Go.WideShapes Go.ChangeAt Go.RowKit
open Go.Proofs.YtekglahigjblkaaGreatDoor.St (IsRow drop_at take_at BoxN boxn_new)
set_option linter.unusedVariables false

structure TkV where
  write : Bool
  label : Int
  key : Int
  value : Int
  version : Int
  ask : Int
  done : Bool
  sure : Bool
instance : Inhabited TkV := ⟨⟨false, 0, 0, 0, 0, 0, false, false⟩⟩
def TkV.cells (x : TkV) : List Value := [.bool x.write, .int .i64 x.label, .int .i64 x.key, .int .i64 x.value, .int .i64 x.version, .int .i64 x.ask, .bool x.done, .bool x.sure]
def TkV.val (x : TkV) : Value := .agg #[.bool x.write, .int .i64 x.label, .int .i64 x.key, .int .i64 x.value, .int .i64 x.version, .int .i64 x.ask, .bool x.done, .bool x.sure]
def inCell (n : Int) : List Value := [.int .i64 n]
structure JbV where
  n : Int
  state : Int
  ta : Option Addr
  tl : Nat
  tc : Nat
  aa : Option Addr
  al : Nat
  ac : Nat
  asks : Int
  age : Int
  tasks : List TkV
  asked : List Int
instance : Inhabited JbV := ⟨⟨0, 0, none, 0, 0, none, 0, 0, 0, 0, [], []⟩⟩
def JbV.cells (j : JbV) : List Value := [.int .i64 j.n, .int .i64 j.state, .slice j.ta j.tl j.tc, .slice j.aa j.al j.ac, .int .i64 j.asks, .int .i64 j.age]
def JbV.val (j : JbV) : Value := .agg #[.int .i64 j.n, .int .i64 j.state, .slice j.ta j.tl j.tc, .slice j.aa j.al j.ac, .int .i64 j.asks, .int .i64 j.age]
abbrev IsTasks := @IsRow TkV _ 8 TkV.cells
abbrev IsSites := @IsRow Int _ 1 inCell
structure IsJob (w : World) (j : JbV) : Prop where
  tasks : IsTasks w j.ta j.tl j.tc j.tasks
  asked : IsSites w j.aa j.al j.ac j.asked
theorem IsJob.below {w w' : World} {j : JbV} (h : IsJob w j) (hb : Below w.heap.size w w') : IsJob w' j := ⟨h.tasks.below hb, h.asked.below hb⟩
structure IsJobs (w : World) (a : Option Addr) (n c : Nat) (js : List JbV) : Prop where
  row : IsRow 6 JbV.cells w a n c js
  each : ∀ j ∈ js, IsJob w j
theorem IsJobs.below {w w' : World} {a : Option Addr} {n c : Nat} {js : List JbV} (h : IsJobs w a n c js) (hb : Below w.heap.size w w') : IsJobs w' a n c js := ⟨h.row.below hb, fun j hj => (h.each j hj).below hb⟩

/-- What a task may be by itself; nl: how many labels there are. -/
def tkOK (nl : Int) (t : TkV) : Bool := inR t.label 0 (nl - 1) && inR t.key 0 7 && inR t.value 0 1073741824 && inR t.version 0 1048576 && (t.done || (!t.sure && (t.write || (decide (t.value = 0) && decide (t.version = 0)))))
def tksGo (nl asks state : Int) : Int → List TkV → Bool
  | _, [] => true
  | low, t :: r => inR t.ask low asks && tkOK nl t && (t.done || (r.isEmpty && decide (state = 1))) && tksGo nl asks state (t.ask + 1) r
def tksOK (nl asks state : Int) (l : List TkV) : Bool := decide (l.length ≤ 10) && tksGo nl asks state 1 l
def rise (s : Int) : Int → List Int → Bool
  | _, [] => true
  | low, n :: r => inR n low (s - 1) && rise s (n + 1) r
def jbOK (s nl : Int) (j : JbV) : Bool := inR j.age 0 1048576 && inR j.state 1 3 && inR j.asks 0 1048576 && rise s 0 j.asked && (decide (j.state = 3) == decide (0 < j.asked.length)) && tksOK nl j.asks j.state j.tasks
def jbsGo (s nl next : Int) : Int → List JbV → Bool
  | _, [] => true
  | low, j :: r => inR j.n low (next - 1) && jbOK s nl j && jbsGo s nl next (j.n + 1) r
def jbsOK (s nl next : Int) (l : List JbV) : Bool := decide (l.length ≤ 6) && jbsGo s nl next 1 l
def dkErr (s : Int) (ls : List (Int × Int)) (p next : Int) (l : List JbV) : Int := if cfgFault s ls p = 0 then (if inR next 1 1048577 && jbsOK s ls.length next l then 0 else 9) else cfgFault s ls p
theorem mem_at {α : Type} [Inhabited α] {l : List α} {i : Nat} (h : i < l.length) : l.getD i default ∈ l := by
  simp [List.getD, h]
theorem tksGo_at {nl asks state low : Int} {l : List TkV} {k : Nat} (hk : k < l.length) : tksGo nl asks state low (l.drop k) = (inR (l.getD k default).ask low asks && tkOK nl (l.getD k default) && ((l.getD k default).done || (decide (k + 1 = l.length) && decide (state = 1))) && tksGo nl asks state ((l.getD k default).ask + 1) (l.drop (k + 1))) := by
  rw [drop_at hk, tksGo]
  have : (l.drop (k + 1)).isEmpty = decide (k + 1 = l.length) := by
    rw [Bool.eq_iff_iff, List.isEmpty_iff]
    simp
    omega
  rw [this]
theorem rise_at {s low : Int} {l : List Int} {k : Nat} (hk : k < l.length) : rise s low (l.drop k) = (inR (l.getD k default) low (s - 1) && rise s (l.getD k default + 1) (l.drop (k + 1))) := by
  rw [drop_at hk, rise]
theorem jbsGo_at {s nl next low : Int} {l : List JbV} {k : Nat} (hk : k < l.length) : jbsGo s nl next low (l.drop k) = (inR (l.getD k default).n low (next - 1) && jbOK s nl (l.getD k default) && jbsGo s nl next ((l.getD k default).n + 1) (l.drop (k + 1))) := by
  rw [drop_at hk, jbsGo]
end Go.Proofs.YtekglahigjblkaaGreatDoor.Co
