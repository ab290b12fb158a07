/- The contract of slices.Insert at items: one item into a row of the caller's own. -/
import Derived.Test.YtbmbahifkegehaaSData
import Derived.Deep.RegionLaw
import Derived.Lib.Overlaps
import Derived.Lib.AppendZerosOnto
import Derived.Lib.SliceRun
import Derived.Laws.IdiomCopy
import Derived.Laws.Externs
namespace Go.Proofs.Ytbmbahifkegehaa.St
open Go.ChangeShapes Go.WideShapes Go.ChangeAt Go.RowKit
set_option linter.unusedVariables false

theorem run_copy_items (w : World) (ty : TypeId) (b o dLen dCap : Nat) (a : Addr) (sLen sCap : Nat) (cs : List Value) (q : Nat) (hq : Nat.min sLen dLen = q) (hn : cs.length = q * 3)
    (hsrc : ∀ j v, cs[j]? = some v → w.cell? (a.add j) = some v) (hc : ∀ j, j < cs.length → (w.cell? ⟨b, o + j, none⟩).isSome = true) (hf : ∀ j, j < cs.length → w.frozen? ⟨b, o + j, none⟩ = false) (h1 : ∀ v ∈ cs, v.oneCell' = true) :
    (Builtin.copy_ #[22, 22] ty #[.slice (some ⟨b, o, none⟩) dLen dCap, .slice (some a) sLen sCap]).run Try.prog w = .ok (goInt q) (w.setCells b o cs) := by
  obtain ⟨i, hi, _, hs, _⟩ := info_parts itInfo
  have hl := run_loadCells_list (P := Try.prog) w a cs hsrc
  have hst := run_storeCells_cells (P := Try.prog) b o cs 0 w (by simpa using hc) (by simpa using hf) h1
  rw [hn] at hl
  simp only [Nat.add_zero] at hst
  simp [Builtin.copy_, run_underlying Try.underlying22, Builtin.lenOf, Builtin.firstCells, sizeOf, typeInfo, hi, hs, hq, hl, hst]
theorem cp_wp {w : World} {ops : Array Oper} {rest : List Oper} {o : Oper} {A : Act} {Q : Exit → Act → World → Prop} (hgd : o.guard = none) (d s : Operand) (t t' : TypeId)
    (ho : o.op = .call { callee := .builtin .copy, args := #[d, s], argTypes := #[t, t'] }) (v u : Value) (hd : A.eval d = v) (hs : A.eval s = u) {v' : Value} {w' : World}
    (hr : (Builtin.copy_ #[t, t'] o.type #[v, u]).run Try.prog w = .ok v' w') (h : wpList Try.prog ops Q rest (A.put o.dst v') w') : wpList Try.prog ops Q (o :: rest) A w := by
  refine wpList_plain hgd fun K hK => ?_
  unfold Oper.wp execOp
  simp only [ho, resolve, invoke, builtin, Sem.run_bind, Sem.run_pure, Result.andThen_ok, List.map_toArray, List.map_cons, List.map_nil, hd, hs, hr]
  exact hK _ _ h
theorem cp_step {ops : Array Oper} {o : Oper} {A : Act} {w : World} {K : Act → World → Prop} {Q : Exit → Act → World → Prop} {F : Prop} (hgd : o.guard = none) (d s : Operand) (t t' : TypeId)
    (ho : o.op = .call { callee := .builtin .copy, args := #[d, s], argTypes := #[t, t'] }) (v u : Value) (hd : A.eval d = v) (hs : A.eval s = u) {v' : Value} {w' : World}
    (hr : (Builtin.copy_ #[t, t'] o.type #[v, u]).run Try.prog w = .ok v' w') (h : K (A.put o.dst v') w') : if Region.wanted o (yielded ops A.tmps) = true then Oper.wp Try.prog o A w K Q else F := by
  have hw : Region.wanted o (yielded ops A.tmps) = true := by simp [Region.wanted, hgd]
  rw [if_pos hw]
  unfold Oper.wp execOp
  simp only [ho, resolve, invoke, builtin, Sem.run_bind, Sem.run_pure, Result.andThen_ok, List.map_toArray, List.map_cons, List.map_nil, hd, hs, hr]
  exact h
/-- A row may take its next place. -/
theorem own_more {w : World} {B : Nat} {e : TypeId} {g n cap size : Nat} {xs : List Value} (h : w.ownsRow B e size (.slice (some ⟨g, 0, none⟩) n cap) n xs) (hn : n + 1 ≤ cap) : ∃ ys, w.ownsRow B e size (.slice (some ⟨g, 0, none⟩) (n + 1) cap) (n + 1) ys ∧ ys.length = (n + 1) * size ∧ ys.take (n * size) = xs := by
  obtain ⟨hl, h2⟩ := h
  rcases h2 with ⟨hv, h0⟩ | ⟨g', cap', cur, hv, hb, hg, h1, h3, hs, ht⟩
  · simp at hv
  · simp at hv
    obtain ⟨rfl, rfl⟩ := hv
    have hm : (n + 1) * size ≤ cap * size := Nat.mul_le_mul_right _ hn
    have hm2 : n * size ≤ (n + 1) * size := Nat.mul_le_mul_right _ (by omega)
    refine ⟨cur.toList.take ((n + 1) * size), ⟨?_, .inr ⟨g, cap, cur, rfl, hb, hg, hn, h3, hs, rfl⟩⟩, ?_, ?_⟩
    · rw [List.length_take, Array.length_toList, hs]; omega
    · rw [List.length_take, Array.length_toList, hs]; omega
    · rw [List.take_take, Nat.min_eq_left hm2, ht]
theorem put_in {xs : List ItV} {n i : Nat} (x : ItV) (ys : List Value) (hl : xs.length = n) (hi : i ≤ n) (hy : ys.length = (n + 1) * 3) (ht : ys.take (i * 3) = flat ItV.cells (xs.take i)) : setL (setL ys ((i + 1) * 3) (flat ItV.cells (xs.drop i))) (i * 3) (ItV.cells x) = flat ItV.cells (xs.take i ++ x :: xs.drop i) := by
  have hd : (flat ItV.cells (xs.drop i)).length = (n - i) * 3 := by rw [flat_len it_len]; simp [hl]
  have hx : (ItV.cells x).length = 3 := rfl
  have e1 : setL ys ((i + 1) * 3) (flat ItV.cells (xs.drop i)) = ys.take ((i + 1) * 3) ++ flat ItV.cells (xs.drop i) := by
    have hdn : ys.drop ((i + 1) * 3 + (flat ItV.cells (xs.drop i)).length) = [] := List.drop_eq_nil_of_le (by rw [hd, hy]; omega)
    rw [setL_eq _ _ _ (by rw [hd, hy]; omega), hdn, List.append_nil]
  have h3 : (ys.take ((i + 1) * 3)).length = (i + 1) * 3 := by rw [List.length_take, hy]; omega
  rw [e1, setL_eq _ _ _ (by rw [List.length_append, h3, hx]; omega)]
  have e2 : (ys.take ((i + 1) * 3) ++ flat ItV.cells (xs.drop i)).take (i * 3) = flat ItV.cells (xs.take i) := by
    rw [List.take_append_of_le_length (by rw [h3]; omega), List.take_take, Nat.min_eq_left (by omega), ht]
  have e3 : (ys.take ((i + 1) * 3) ++ flat ItV.cells (xs.drop i)).drop (i * 3 + (ItV.cells x).length) = flat ItV.cells (xs.drop i) := by
    rw [hx, show i * 3 + 3 = (i + 1) * 3 by omega, List.drop_append_of_le_length (by rw [h3]; exact Nat.le_refl _), List.drop_eq_nil_of_le (by rw [h3]; exact Nat.le_refl _), List.nil_append]
  rw [e2, e3, flat_append]
  have : flat ItV.cells (x :: xs.drop i) = ItV.cells x ++ flat ItV.cells (xs.drop i) := by simp [flat]
  rw [this, List.append_assoc]

def insAt (xs : List ItV) (i : Nat) (x : ItV) : List ItV := xs.take i ++ x :: xs.drop i

set_option maxRecDepth 100000 in
set_option maxHeartbeats 4000000 in
/-- There is room, and it goes ahead of another one. -/
theorem insert_room (B g n cap i : Nat) (xs : List ItV) (x : ItV) (w V : World) (hVw : V = w.alloc (.cells #[.int .i64 x.key, .int .i64 x.value, .int .i64 x.version] 59)) (h : w.ownsRow B 59 3 (.slice (some ⟨g, 0, none⟩) n cap) n (flat ItV.cells xs)) (hi : i < n) (hn : n + 1 ≤ cap) :
    Calls Try.prog 54 #[.slice (some ⟨g, 0, none⟩) n cap, .int .i64 (i : Int), .slice (some ⟨w.heap.size, 0, none⟩) 1 1] V fun e w' => e = .returned (.slice (some ⟨g, 0, none⟩) (n + 1) cap) ∧ w'.ownsRow B 59 3 (.slice (some ⟨g, 0, none⟩) (n + 1) cap) (n + 1) (flat ItV.cells (insAt xs i x)) ∧ V.grownBy w' (some g) := by
  have hl := own_len it_len (by decide) h
  obtain ⟨ik, iv, iw⟩ := x
  simp only [] at hVw
  have hg := h.lt g rfl
  have bV : Below w.heap.size w V := by rw [hVw]; exact (Below.refl _ _).alloc (Nat.le_refl _) _
  have hV := own_below h bV
  have hcm : cap ≤ maxLen := by
    obtain ⟨_, _, e0, _, h2, _⟩ := own_form h
    simp at e0
    omega
  unfold maxLen at hcm
  obtain ⟨ys, hown, hyl, hyt⟩ := own_more hV hn
  have hyi : ys.take (i * 3) = flat ItV.cells (xs.take i) := by
    have : ys.take (i * 3) = (ys.take (n * 3)).take (i * 3) := by rw [List.take_take, Nat.min_eq_left (by omega)]
    rw [this, hyt, flat_take it_len]
  have bx := boxn_new w #[.int .i64 ik, .int .i64 iv, .int .i64 iw] 59 3 rfl
  rw [← hVw] at bx
  have hne : w.heap.size ≠ g := by omega
  have hov : ∀ oo lb cb, (callFunc 71 #[.slice (some ⟨w.heap.size, 0, none⟩) 1 1, .slice (some ⟨g, oo, none⟩) lb cb]).run Try.prog V = .ok (.value (.bool false)) V := by
    intro oo lb cb
    have hb : V.heap[w.heap.size]? = some (.cells #[.int .i64 ik, .int .i64 iv, .int .i64 iw] 59 (0, 0)) := by rw [hVw]; exact heap_alloc_new w _
    obtain ⟨cur, hgb, hcs⟩ : ∃ cur : Array Value, V.heap[g]? = some (.cells cur 59 (0, 0)) ∧ cur.size = cap * 3 := by
      rcases hV.2 with ⟨hv, _⟩ | ⟨g', cap', cur, hv, _, hgb, _, _, hs, _⟩
      · simp at hv
      · simp at hv
        obtain ⟨rfl, rfl⟩ := hv
        exact ⟨cur, hgb, hs⟩
    obtain ⟨i0, hi0, _, hs0, _⟩ := info_parts itInfo
    rw [run_callFunc_extern Try.func71 (by kernel_rfl) (by kernel_rfl) (by kernel_rfl) (e := Extern.SlicesOverlaps.overlaps #[22, 22] #[4]) (by kernel_rfl),
      Go.Lib.run_overlaps_apart V 22 4 59 Try.underlying22 3 (fun w => by simp [sizeOf, typeInfo, hi0, hs0]) ⟨w.heap.size, 0, none⟩ ⟨g, oo, none⟩ 1 1 lb cb hne 59 59 3 (cap * 3)
        (by simp [World.shape?, hb]) (by simp [World.shape?, hgb, hcs]) (by omega) (bx.c 0 (by decide)).2 (by simp [World.frozen?, hb])]
    rfl
  have HDL : Hid ((flat ItV.cells (xs.drop i)).length = (n - i) * 3) := by show _ = _; rw [flat_len it_len]; simp [hl]
  have h1c : ∀ v ∈ flat ItV.cells (xs.drop i), v.oneCell' = true := flat_one' (k := 3) it_one _
  have hrow := (own_isRow it_len hV hl).1
  have hD : Below V.heap.size V V.drew := (Below.refl _ _).drew
  have hownD := own_below hown hD
  have hcp1 : ∀ ty, (Builtin.copy_ #[22, 22] ty #[.slice (some ⟨g, (i + 1) * 3, none⟩) (n - i) (cap - (i + 1)), .slice (some ⟨g, i * 3, none⟩) (n + 1 - i) (cap - i)]).run Try.prog V.drew = .ok (goInt ((n - i : Nat) : Int)) (V.drew.setCells g ((i + 1) * 3) (flat ItV.cells (xs.drop i))) := fun ty =>
    run_copy_items V.drew ty g ((i + 1) * 3) (n - i) (cap - (i + 1)) ⟨g, i * 3, none⟩ (n + 1 - i) (cap - i) (flat ItV.cells (xs.drop i)) (n - i) (by simp only [Nat.min_def]; split <;> omega) HDL.out
      (fun j v hj => by
        have hf : (flat ItV.cells xs)[i * 3 + j]? = some v := by rw [← List.getElem?_drop, flat_drop it_len]; exact hj
        have := (own_below hV hD).cells (g := g) rfl _ _ hf
        rw [adr_add] at this ⊢
        rw [Nat.zero_add] at this
        exact this)
      (fun j hj => by rw [HDL.out] at hj; exact (own_there hownD (by omega)).1) (fun j hj => by rw [HDL.out] at hj; exact (own_there hownD (by omega)).2) h1c
  obtain ⟨W1, hW1⟩ : ∃ W1, W1 = V.drew.setCells g ((i + 1) * 3) (flat ItV.cells (xs.drop i)) := ⟨_, rfl⟩
  have own1 : W1.ownsRow B 59 3 (.slice (some ⟨g, 0, none⟩) (n + 1) cap) (n + 1) (setL ys ((i + 1) * 3) (flat ItV.cells (xs.drop i))) := by
    rw [hW1]
    exact own_setCells _ _ _ _ hownD (by rw [HDL.out]; omega)
  have gr1 : V.grownBy W1 (some g) := by rw [hW1]; exact grown_trans (grown_below hD _) (grown_setCells g _ _ _)
  rw [← hW1] at hcp1
  clear hW1
  have bx1 := bx.grown gr1 (by simpa using hne)
  have hcp2 : ∀ ty, (Builtin.copy_ #[22, 22] ty #[.slice (some ⟨g, i * 3, none⟩) (n + 1 - i) (cap - i), .slice (some ⟨w.heap.size, 0, none⟩) 1 1]).run Try.prog W1 = .ok (goInt 1) (W1.setCells g (i * 3) [.int .i64 ik, .int .i64 iv, .int .i64 iw]) := fun ty =>
    run_copy_items W1 ty g (i * 3) (n + 1 - i) (cap - i) ⟨w.heap.size, 0, none⟩ 1 1 [.int .i64 ik, .int .i64 iv, .int .i64 iw] 1 (by simp only [Nat.min_def]; split <;> omega) rfl
      (fun j v hj => by
        rw [adr_add, Nat.zero_add]
        have hj3 : j < 3 := (List.getElem?_eq_some_iff.1 hj).1
        rw [(bx1.c j hj3).1]
        have : j = 0 ∨ j = 1 ∨ j = 2 := by omega
        rcases this with rfl | rfl | rfl <;> exact hj)
      (fun j hj => (own_there own1 (by simp at hj; omega)).1) (fun j hj => (own_there own1 (by simp at hj; omega)).2) (fun v hv => by simp at hv; rcases hv with e | e | e <;> subst e <;> rfl)
  have HFIN : Hid ((W1.setCells g (i * 3) [.int .i64 ik, .int .i64 iv, .int .i64 iw]).ownsRow B 59 3 (.slice (some ⟨g, 0, none⟩) (n + 1) cap) (n + 1) (flat ItV.cells (insAt xs i ⟨ik, iv, iw⟩)) ∧ V.grownBy (W1.setCells g (i * 3) [.int .i64 ik, .int .i64 iv, .int .i64 iw]) (some g)) := by
    refine ⟨?_, grown_trans gr1 (grown_setCells g _ _ _)⟩
    have o2 := own_setCells (ItV.cells ⟨ik, iv, iw⟩) (i * 3) W1 _ own1 (by rw [it_len]; omega)
    rw [put_in ⟨ik, iv, iw⟩ ys hl (by omega) hyl hyi] at o2
    exact o2
  have hz2 : ¬ ((i : Int) = (n : Int)) := by omega
  have hw1 : IntKind.i64.wrap ((i : Int) + 1) = (i : Int) + 1 := by rw [IntKind.wrap_i64]; omega
  have hw2 : IntKind.i64.wrap ((n : Int) + 1) = (n : Int) + 1 := by rw [IntKind.wrap_i64]; omega
  have hin : i ≤ n := by omega
  have hic : i ≤ cap := by omega
  have hi1c : i + 1 ≤ cap := by omega
  have hb1 : (i : Int) ≤ (n : Int) := by omega
  have hb2 : ¬ cap = i + 1 := by omega
  have hb4 : ¬ cap = i := by omega
  have hb5 : ¬ ((cap : Int) < (n : Int) + 1) := by omega
  have hb6 : (i : Int) + 1 ≤ (n : Int) + 1 := by omega
  have hb7 : (i : Int) ≤ (n : Int) + 1 := by omega
  have hb8 : i + 1 ≤ n + 1 := by omega
  have hnc : n ≤ cap := by omega
  have hp0 : (0 : Int) ≤ (i : Int) + 1 := by omega
  have htn : ((i : Int) + 1).toNat = i + 1 := by omega
  clear hV hown own1 gr1 bx1 bx hrow hownD hD h1c hyl hyt hyi h hVw bV hg hcm hne
  go_enter Try.func54, Try.ntmps54
  go_wp2_with (simp only [hov])
  go_region_law (refine cp_step (by rfl) (.tmp 73) (.tmp 76) 22 22 (by rfl) (.slice (some ⟨g, (i + 1) * 3, none⟩) (n - i) (cap - (i + 1))) (.slice (some ⟨g, i * 3, none⟩) (n + 1 - i) (cap - i)) (by simp [Act.eval, Act.put]) (by simp [Act.eval, Act.put]) (hcp1 _) ?_)
  all_goals
    go_wp2_with (at_builtin; refine cp_wp (by rfl) _ _ 22 22 (by rfl) _ _ (by rfl) (by rfl) (hcp2 _) ?_)
    go_ret
    exact ⟨rfl, HFIN.out.1, HFIN.out.2⟩
end Go.Proofs.Ytbmbahifkegehaa.St
