/- Texts of this claim, one behind the other. -/
import Derived.Test.YtekglahigjblkaaGreatDoorM9RecoverRebuilds
import Derived.Test.YtekglahigjblkaaGreatDoorM12RecoverRebuilds
import Derived.Test.YtekglahigjblkaaGreatDoorM4RecoverRebuilds
import Derived.Shelf.Abstract
/- The contract of slices.Insert at items, whatever room there is. -/
namespace Go.Proofs.YtekglahigjblkaaGreatDoor.St
open Go.ChangeShapes Go.WideShapes Go.ChangeAt Go.RowKit
set_option linter.unusedVariables false

theorem put_in2 {xs : List ItV} {n i : Nat} (x : ItV) (ys : List Value) (hl : xs.length = n) (hi : i ≤ n) (hy : ys.length = (n + 1) * 3) (ht : ys.take (i * 3) = flat ItV.cells (xs.take i)) : setL (setL ys (i * 3) (ItV.cells x)) ((i + 1) * 3) (flat ItV.cells (xs.drop i)) = flat ItV.cells (xs.take i ++ x :: xs.drop i) := by
  have hd : (flat ItV.cells (xs.drop i)).length = (n - i) * 3 := by rw [flat_len it_len]; simp [hl]
  have hx : (ItV.cells x).length = 3 := rfl
  have h0 : (setL ys (i * 3) (ItV.cells x)).length = (n + 1) * 3 := by rw [setL_len, hy]
  have hdn : (setL ys (i * 3) (ItV.cells x)).drop ((i + 1) * 3 + (flat ItV.cells (xs.drop i)).length) = [] := List.drop_eq_nil_of_le (by rw [hd, h0]; omega)
  have h1 : (ys.take (i * 3)).length = i * 3 := by rw [List.length_take, hy]; omega
  have e2 : (setL ys (i * 3) (ItV.cells x)).take ((i + 1) * 3) = flat ItV.cells (xs.take i) ++ ItV.cells x := by
    rw [setL_eq _ _ _ (by rw [hx, hy]; omega), ht]
    rw [ht] at h1
    rw [List.take_append_of_le_length (by rw [List.length_append, h1, hx]; omega), List.take_of_length_le (by rw [List.length_append, h1, hx]; omega)]
  rw [setL_eq _ _ _ (by rw [hd, h0]; omega), hdn, e2, List.append_nil, flat_append]
  have : flat ItV.cells (x :: xs.drop i) = ItV.cells x ++ flat ItV.cells (xs.drop i) := by simp [flat]
  rw [this, List.append_assoc]

set_option maxRecDepth 100000 in
set_option maxHeartbeats 4000000 in
/-- Behind all. -/
theorem insert_end (B : Nat) (a : Option Addr) (n cap : Nat) (xs : List ItV) (x : ItV) (w V : World) (hVw : V = w.alloc (.cells #[.int .i64 x.key, .int .i64 x.value, .int .i64 x.version] 68)) (h : w.ownsRow B 68 3 (.slice a n cap) n (flat ItV.cells xs)) (hB : B ≤ w.heap.size) (hn : n ≤ 100) :
    Calls Tryz.prog 89 #[.slice a n cap, .int .i64 (n : Int), .slice (some ⟨w.heap.size, 0, none⟩) 1 1] V fun e w' => ∃ a' c', e = .returned (.slice a' (n + 1) c') ∧ w'.ownsRow B 68 3 (.slice a' (n + 1) c') (n + 1) (flat ItV.cells (insAt xs n x)) ∧ V.grownBy w' (Value.slice a n cap).ownBlock ∧ ((Value.slice a' (n + 1) c').ownBlock = (Value.slice a n cap).ownBlock ∨ (Value.slice a' (n + 1) c').ownBlock = some V.heap.size) := by
  obtain ⟨i1, E1⟩ := itElem
  have hl := own_len it_len (by decide) h
  have HI : Hid (insAt xs n x = xs ++ [x]) := by
    show _ = _
    unfold insAt
    rw [List.take_of_length_le (by omega), List.drop_eq_nil_of_le (by omega)]
  obtain ⟨ik, iv, iw⟩ := x
  simp only [] at hVw
  have bV : Below w.heap.size w V := by rw [hVw]; exact (Below.refl _ _).alloc (Nat.le_refl _) _
  have hV := own_below h bV
  have hv1 : IsRow 3 ItV.cells V (some ⟨w.heap.size, 0, none⟩) 1 1 [(⟨ik, iv, iw⟩ : ItV)] := by rw [hVw]; exact isOne w #[.int .i64 ik, .int .i64 iv, .int .i64 iw] 68 (⟨ik, iv, iw⟩ : ItV) rfl rfl
  obtain ⟨_, _, e0, hnc, hcm, hnil⟩ := own_form h
  simp at e0
  obtain ⟨rfl, rfl⟩ := e0
  unfold maxLen at hcm
  have hBV : B ≤ V.heap.size := Nat.le_trans hB bV.size
  clear h hVw bV
  by_cases hcn : cap = n
  · subst hcn
    cases a with
    | none =>
      obtain rfl : cap = 0 := hnil rfl
      go_enter Tryz.func89, Tryz.ntmps89
      go_wp2_with (at_builtin; go_loud (refine wpList_append_row E1 (by rfl) _ _ (by rfl) B (.slice none 0 0) 0 xs (by rfl) hV _ 1 1 [⟨ik, iv, iw⟩] (by rfl) hv1 (by unfold maxLen; omega) (by omega) hBV ?_; intro a5 c5 w5 own5 gr5 at5))
      go_ret
      exact ⟨a5, c5, rfl, by rw [HI.out]; exact own5, gr5, at5⟩
    | some ad =>
      obtain ⟨ab, ao, asp⟩ := ad
      go_enter Tryz.func89, Tryz.ntmps89
      go_wp2_with (at_builtin; go_loud (refine wpList_append_row E1 (by rfl) _ _ (by rfl) B (.slice (some ⟨ab, ao, asp⟩) cap cap) cap xs (by rfl) hV _ 1 1 [⟨ik, iv, iw⟩] (by rfl) hv1 (by unfold maxLen; omega) (by omega) hBV ?_; intro a5 c5 w5 own5 gr5 at5))
      go_ret
      exact ⟨a5, c5, rfl, by rw [HI.out]; exact own5, gr5, at5⟩
  · cases a with
    | none => exact absurd (hnil rfl) (by omega)
    | some ad =>
      obtain ⟨ab, ao, asp⟩ := ad
      go_enter Tryz.func89, Tryz.ntmps89
      go_wp2_with (at_builtin; go_loud (refine wpList_append_row E1 (by rfl) _ _ (by rfl) B (.slice (some ⟨ab, ao, asp⟩) n cap) n xs (by rfl) hV _ 1 1 [⟨ik, iv, iw⟩] (by rfl) hv1 (by unfold maxLen; omega) (by omega) hBV ?_; intro a5 c5 w5 own5 gr5 at5))
      go_ret
      exact ⟨a5, c5, rfl, by rw [HI.out]; exact own5, gr5, at5⟩

set_option maxRecDepth 100000 in
set_option maxHeartbeats 4000000 in
/-- There is no room, and it goes ahead of another one. -/
theorem insert_grow (B g n i : Nat) (xs : List ItV) (x : ItV) (w V : World) (hVw : V = w.alloc (.cells #[.int .i64 x.key, .int .i64 x.value, .int .i64 x.version] 68)) (h : w.ownsRow B 68 3 (.slice (some ⟨g, 0, none⟩) n n) n (flat ItV.cells xs)) (hB : B ≤ w.heap.size) (hi : i < n) (hn : n ≤ 100) :
    Calls Tryz.prog 89 #[.slice (some ⟨g, 0, none⟩) n n, .int .i64 (i : Int), .slice (some ⟨w.heap.size, 0, none⟩) 1 1] V fun e w' => ∃ a' c', e = .returned (.slice a' (n + 1) c') ∧ w'.ownsRow B 68 3 (.slice a' (n + 1) c') (n + 1) (flat ItV.cells (insAt xs i x)) ∧ V.grownBy w' (some g) ∧ ((Value.slice a' (n + 1) c').ownBlock = some g ∨ (Value.slice a' (n + 1) c').ownBlock = some V.heap.size) := by
  have hl := own_len it_len (by decide) h
  obtain ⟨ik, iv, iw⟩ := x
  simp only [] at hVw
  have hg := h.lt g rfl
  have bV : Below w.heap.size w V := by rw [hVw]; exact (Below.refl _ _).alloc (Nat.le_refl _) _
  have zV : V.heap.size = w.heap.size + 1 := by rw [hVw]; simp
  have hV := own_below h bV
  have bx := boxn_new w #[.int .i64 ik, .int .i64 iv, .int .i64 iw] 68 3 rfl
  rw [← hVw] at bx
  obtain ⟨j0, hj0, lz, ls, lb⟩ := info_parts itInfo
  have hD : Below V.heap.size V V.drew := (Below.refl _ _).drew
  have hVd := own_below hV hD
  obtain ⟨C, eC⟩ : ∃ C, C = grownCap V (n + 1) n 68 := ⟨_, rfl⟩
  have hC1 : n + 1 ≤ C := by rw [eC]; exact grownCap_ge V (n + 1) n 68
  have hC2 : C ≤ maxLen := by rw [eC]; exact grownCap_le_maxLen V (n + 1) n 68 (by unfold maxLen; omega)
  obtain ⟨arr, earr⟩ : ∃ arr : Array Value, arr = (flat ItV.cells (xs.take i)).toArray ++ Builtin.zeroCells (Value.cells (.agg #[.int .i64 0, .int .i64 0, .int .i64 0])) (n + 1 - i) ++ Builtin.zeroCells (Value.cells (.agg #[.int .i64 0, .int .i64 0, .int .i64 0])) (C - (n + 1)) := ⟨_, rfl⟩
  have hfl : (flat ItV.cells (xs.take i)).length = i * 3 := by rw [flat_len it_len, List.length_take, hl]; omega
  have has : arr.size = C * 3 := by
    rw [earr]
    simp only [Array.size_append, List.size_toArray, size_zeroCells, hfl]
    show i * 3 + (n + 1 - i) * 3 + (C - (n + 1)) * 3 = C * 3
    omega
  have hap : ∀ ty, (Builtin.append_ #[26, 3] ty #[.slice (some ⟨g, 0, none⟩) i n, .int .i64 ((n : Int) + 1 - (i : Int))]).run Tryz.prog V = .ok (.slice (some ⟨V.heap.size, 0, none⟩) (n + 1) C) (V.drew.alloc (.cells arr 68)) := fun ty => by
    have hr := Go.Lib.run_append_grow_zeros (P := Tryz.prog) V 26 3 ty 68 j0 (.agg #[.int .i64 0, .int .i64 0, .int .i64 0]) .i64 .i64 Tryz.underlying26 Tryz.underlying3 hj0 lz (some ⟨g, 0, none⟩) i n (flat ItV.cells (xs.take i))
      (by
        rw [ls]
        refine run_firstCells_some V.drew 3 i ⟨g, 0, none⟩ i n _ hfl (fun j v hj => ?_)
        have hjl : j < i * 3 := by rw [← hfl]; exact (List.getElem?_eq_some_iff.1 hj).1
        have hf : (flat ItV.cells xs)[j]? = some v := by
          rw [← flat_take it_len, List.getElem?_take_of_lt hjl] at hj
          exact hj
        exact hVd.cells (g := g) rfl _ _ hf)
      (n + 1 - i) (by omega) (by rw [ls]; decide) (by omega) (by omega) (by rw [lb]; omega) (by rw [lb]; exact growslice_fits (by omega) (by omega))
    have e1 : i + (n + 1 - i) = n + 1 := by omega
    have e2 : ((n + 1 - i : Nat) : Int) = (n : Int) + 1 - (i : Int) := by omega
    rw [e1, e2, ← eC, ← earr] at hr
    exact hr
  obtain ⟨X, hX⟩ : ∃ X : World, X = V.drew.alloc (.cells arr 68) := ⟨_, rfl⟩
  have bX : Below V.heap.size V X := by rw [hX]; exact hD.alloc hD.size _
  have hXb : X.heap[V.heap.size]? = some (.cells arr 68 (0, 0)) := by rw [hX]; exact heap_alloc_new V.drew _
  have zX : V.heap.size < X.heap.size := by rw [hX]; simp
  have ownX : X.ownsRow B 68 3 (.slice (some ⟨V.heap.size, 0, none⟩) (n + 1) C) (n + 1) (arr.toList.take ((n + 1) * 3)) :=
    ⟨by rw [List.length_take, Array.length_toList, has]; omega, .inr ⟨V.heap.size, C, arr, rfl, by omega, hXb, hC1, hC2, has, rfl⟩⟩
  have hyl : (arr.toList.take ((n + 1) * 3)).length = (n + 1) * 3 := by rw [List.length_take, Array.length_toList, has]; omega
  have hyt : (arr.toList.take ((n + 1) * 3)).take (i * 3) = flat ItV.cells (xs.take i) := by
    rw [List.take_take, Nat.min_eq_left (by omega), earr]
    simp only [Array.toList_append, List.append_assoc]
    rw [List.take_append_of_le_length (by rw [hfl]; exact Nat.le_refl _), List.take_of_length_le (by rw [hfl]; exact Nat.le_refl _)]
  obtain ⟨ys, eys⟩ : ∃ ys, ys = arr.toList.take ((n + 1) * 3) := ⟨_, rfl⟩
  rw [← eys] at ownX hyl hyt
  rw [← hX] at hap
  clear eys hX earr has hXb
  have hne : w.heap.size ≠ V.heap.size := by omega
  have hgne : g ≠ V.heap.size := by omega
  have bxX := bx.below bX bx.lt
  have hcp1 : ∀ ty, (Builtin.copy_ #[26, 26] ty #[.slice (some ⟨V.heap.size, i * 3, none⟩) (n + 1 - i) (C - i), .slice (some ⟨w.heap.size, 0, none⟩) 1 1]).run Tryz.prog X = .ok (goInt 1) (X.setCells V.heap.size (i * 3) [.int .i64 ik, .int .i64 iv, .int .i64 iw]) := fun ty =>
    run_copy_items X ty V.heap.size (i * 3) (n + 1 - i) (C - i) ⟨w.heap.size, 0, none⟩ 1 1 [.int .i64 ik, .int .i64 iv, .int .i64 iw] 1 (by simp only [Nat.min_def]; split <;> omega) rfl
      (fun j v hj => by
        rw [adr_add, Nat.zero_add]
        have hj3 : j < 3 := (List.getElem?_eq_some_iff.1 hj).1
        rw [(bxX.c j hj3).1]
        have : j = 0 ∨ j = 1 ∨ j = 2 := by omega
        rcases this with rfl | rfl | rfl <;> exact hj)
      (fun j hj => (own_there ownX (by simp at hj; omega)).1) (fun j hj => (own_there ownX (by simp at hj; omega)).2) (fun v hv => by simp at hv; rcases hv with e | e | e <;> subst e <;> rfl)
  obtain ⟨X1, hX1⟩ : ∃ X1, X1 = X.setCells V.heap.size (i * 3) [.int .i64 ik, .int .i64 iv, .int .i64 iw] := ⟨_, rfl⟩
  have own1 : X1.ownsRow B 68 3 (.slice (some ⟨V.heap.size, 0, none⟩) (n + 1) C) (n + 1) (setL ys (i * 3) (ItV.cells ⟨ik, iv, iw⟩)) := by
    rw [hX1]
    exact own_setCells (ItV.cells ⟨ik, iv, iw⟩) (i * 3) X _ ownX (by rw [it_len]; omega)
  have gr1 : X.grownBy X1 (some V.heap.size) := by rw [hX1]; exact grown_setCells V.heap.size _ _ _
  rw [← hX1] at hcp1
  clear hX1
  have hD1 : Below X1.heap.size X1 X1.drew := (Below.refl _ _).drew
  have own1d := own_below own1 hD1
  have old1 := own_below ((own_below hV bX).kept gr1 (.inr (by simpa [Value.ownBlock] using hgne))) hD1
  have HDL : Hid ((flat ItV.cells (xs.drop i)).length = (n - i) * 3) := by show _ = _; rw [flat_len it_len]; simp [hl]
  have h1c : ∀ v ∈ flat ItV.cells (xs.drop i), v.oneCell' = true := flat_one' (k := 3) it_one _
  have hcp2 : ∀ ty, (Builtin.copy_ #[26, 26] ty #[.slice (some ⟨V.heap.size, (i + 1) * 3, none⟩) (n - i) (C - (i + 1)), .slice (some ⟨g, i * 3, none⟩) (n - i) (n - i)]).run Tryz.prog X1.drew = .ok (goInt ((n - i : Nat) : Int)) (X1.drew.setCells V.heap.size ((i + 1) * 3) (flat ItV.cells (xs.drop i))) := fun ty =>
    run_copy_items X1.drew ty V.heap.size ((i + 1) * 3) (n - i) (C - (i + 1)) ⟨g, i * 3, none⟩ (n - i) (n - i) (flat ItV.cells (xs.drop i)) (n - i) (by simp only [Nat.min_def]; split <;> omega) HDL.out
      (fun j v hj => by
        have hf : (flat ItV.cells xs)[i * 3 + j]? = some v := by rw [← List.getElem?_drop, flat_drop it_len]; exact hj
        have := old1.cells (g := g) rfl _ _ hf
        rw [adr_add] at this ⊢
        rw [Nat.zero_add] at this
        exact this)
      (fun j hj => by rw [HDL.out] at hj; exact (own_there own1d (by omega)).1) (fun j hj => by rw [HDL.out] at hj; exact (own_there own1d (by omega)).2) h1c
  have HFIN : Hid ((X1.drew.setCells V.heap.size ((i + 1) * 3) (flat ItV.cells (xs.drop i))).ownsRow B 68 3 (.slice (some ⟨V.heap.size, 0, none⟩) (n + 1) C) (n + 1) (flat ItV.cells (insAt xs i ⟨ik, iv, iw⟩)) ∧ V.grownBy (X1.drew.setCells V.heap.size ((i + 1) * 3) (flat ItV.cells (xs.drop i))) (some g)) := by
    have o2 := own_setCells (flat ItV.cells (xs.drop i)) ((i + 1) * 3) X1.drew _ own1d (by rw [HDL.out]; omega)
    rw [put_in2 ⟨ik, iv, iw⟩ ys hl (by omega) hyl hyt] at o2
    have g2 := grown_trans gr1 (grown_trans (grown_below hD1 (some V.heap.size)) (grown_setCells V.heap.size (flat ItV.cells (xs.drop i)) ((i + 1) * 3) X1.drew))
    refine ⟨o2, ⟨g2.os.trans bX.os, g2.tape.trans bX.tape, g2.output.trans bX.output, Nat.le_trans bX.size g2.size, fun k hk _ => (g2.block k (Nat.lt_of_lt_of_le hk bX.size) (by simp; omega)).trans (bX.block k hk)⟩⟩
  have hz2 : ¬ ((i : Int) = (n : Int)) := by omega
  have hw1 : IntKind.i64.wrap ((i : Int) + 1) = (i : Int) + 1 := by rw [IntKind.wrap_i64]; omega
  have hw2 : IntKind.i64.wrap ((n : Int) + 1) = (n : Int) + 1 := by rw [IntKind.wrap_i64]; omega
  have hw3 : IntKind.i64.wrap ((n : Int) + 1 - (i : Int)) = (n : Int) + 1 - (i : Int) := by rw [IntKind.wrap_i64]; omega
  have hin : i ≤ n := by omega
  have hiC : i ≤ C := by omega
  have hi1C : i + 1 ≤ C := by omega
  have hb1 : (i : Int) ≤ (n : Int) := by omega
  have hb2 : ¬ C = i + 1 := by omega
  have hb3 : ¬ C = i := by omega
  have hb4 : ¬ n = i := by omega
  have hb5 : (n : Int) < (n : Int) + 1 := by omega
  have hb6 : (i : Int) + 1 ≤ (n : Int) + 1 := by omega
  have hb7 : (i : Int) ≤ (n : Int) + 1 := by omega
  have hb8 : i + 1 ≤ n + 1 := by omega
  have hin1 : i ≤ n + 1 := by omega
  have hnC : n + 1 ≤ C := by omega
  have hp0 : (0 : Int) ≤ (i : Int) + 1 := by omega
  have htn : ((i : Int) + 1).toNat = i + 1 := by omega
  clear hV own1 gr1 bx bxX hVd own1d old1 hD1 hD h1c hyl hyt h hVw bV hg hne hgne ownX bX hfl hj0 lz ls lb zV eC hl zX
  go_enter Tryz.func89, Tryz.ntmps89
  go_upto_region 10 with (at_builtin; go_loud (refine Go.Lib.wpList_append_run _ (by rfl) _ _ _ _ (by rfl) _ _ (by rfl) (by rfl) _ _ (hap _) ?_))
  go_upto_region 11 with (at_builtin; refine cp_wp (by rfl) _ _ 26 26 (by rfl) _ _ (by rfl) (by rfl) (hcp1 _) ?_)
  go_region_law (refine cp_step (by rfl) (.tmp 50) (.tmp 53) 26 26 (by rfl) (.slice (some ⟨V.heap.size, (i + 1) * 3, none⟩) (n - i) (C - (i + 1))) (.slice (some ⟨g, i * 3, none⟩) (n - i) (n - i)) (by simp [Act.eval, Act.put]) (by simp [Act.eval, Act.put]) (hcp2 _) ?_)
  all_goals
    go_wp2
    go_ret
    exact ⟨some ⟨V.heap.size, 0, none⟩, C, rfl, HFIN.out.1, HFIN.out.2, .inr rfl⟩
/-- slices.Insert, one item, whatever room there is. -/
theorem insert_any (B : Nat) (a : Option Addr) (n cap i : Nat) (xs : List ItV) (x : ItV) (w V : World) (hVw : V = w.alloc (.cells #[.int .i64 x.key, .int .i64 x.value, .int .i64 x.version] 68)) (h : w.ownsRow B 68 3 (.slice a n cap) n (flat ItV.cells xs)) (hB : B ≤ w.heap.size) (hi : i ≤ n) (hn : n ≤ 100) :
    Calls Tryz.prog 89 #[.slice a n cap, .int .i64 (i : Int), .slice (some ⟨w.heap.size, 0, none⟩) 1 1] V fun e w' => ∃ a' c', e = .returned (.slice a' (n + 1) c') ∧ w'.ownsRow B 68 3 (.slice a' (n + 1) c') (n + 1) (flat ItV.cells (insAt xs i x)) ∧ V.grownBy w' (Value.slice a n cap).ownBlock ∧ ((Value.slice a' (n + 1) c').ownBlock = (Value.slice a n cap).ownBlock ∨ (Value.slice a' (n + 1) c').ownBlock = some V.heap.size) := by
  by_cases hin : i = n
  · subst hin
    exact insert_end B a i cap xs x w V hVw h hB hn
  · have hlt : i < n := by omega
    have hform := h.2
    rcases hform with ⟨hv, h0⟩ | ⟨g, cap', cur, hv, _, _, h1, _⟩
    · omega
    · simp at hv
      obtain ⟨rfl, rfl⟩ := hv
      by_cases hroom : n + 1 ≤ cap
      · exact (insert_room B g n cap i xs x w V hVw h hlt hroom).mono fun e w' ⟨q1, q2, q3⟩ => ⟨_, _, q1, q2, q3, .inl rfl⟩
      · obtain rfl : cap = n := by omega
        exact insert_grow B g cap i xs x w V hVw h hB hlt hn
end Go.Proofs.YtekglahigjblkaaGreatDoor.St
/- Contracts of slices.IndexFunc and ContainsFunc with any function value that asks about an element; of slices.Index and Contains. -/
namespace Go.Proofs.YtekglahigjblkaaGreatDoor.St
open Go.ChangeShapes Go.WideShapes Go.ChangeAt Go.RowKit
set_option linter.unusedVariables false

/-- A function value that answers a question about an element, and leaves what lay below. -/
def Asks {α : Type} (fn : Nat) (cps : Array Value) (val : α → Value) (p : α → Bool) (w : World) : Prop :=
  Enters Tryz.prog fn ∧ ∀ (x : α) (w' : World), Below w.heap.size w w' → Calls Tryz.prog fn (#[val x] ++ cps) w' fun e w'' => e = .returned (.bool (p x)) ∧ Below w'.heap.size w' w''
theorem Asks.below {α : Type} {fn : Nat} {cps : Array Value} {val : α → Value} {p : α → Bool} {w w' : World} (h : Asks fn cps val p w) (hb : Below w.heap.size w w') : Asks fn cps val p w' :=
  ⟨h.1, fun x u hu => h.2 x u (hb.trans (hu.mono hb.size))⟩

set_option maxHeartbeats 1000000 in
theorem indexLock_any (fn : Nat) (cps : Array Value) (p : LkV → Bool) (a : Option Addr) (len cap : Nat) (xs : List LkV) (w : World) (h : IsLocks w a len cap xs) (hF : Asks fn cps LkV.val p w) :
    Calls Tryz.prog 79 #[.slice a len cap, .func (.func fn) #[] cps] w fun e w' => e = .returned (.int .i64 (idxI p xs)) ∧ Below w.heap.size w w' := by
  obtain ⟨hlen, hcap, hmax, _, hmem⟩ := h
  obtain ⟨hE, hF⟩ := hF
  unfold Enters at hE
  have HL : Hid (xs.length = len) := hlen
  clear hlen
  unfold maxLen at hmax
  go_enter Tryz.func79, Tryz.ntmps79
  go_wp2
  go_loopw [8] (fun s8 wr => ∃ (k : Nat), k ≤ len ∧ s8 = .int .i64 k ∧ (∀ i, i < k → p (xs.getD i default) = false) ∧ Below w.heap.size w wr) (fun s8 _ => len - (intOf s8).toNat)
  case atStart => exact ⟨0, Nat.zero_le _, rfl, fun i hi => absurd hi (by omega), Below.refl _ _⟩
  case round =>
    obtain ⟨k, hk, rfl, hnot, hb⟩ := hrel
    by_cases hlt : k < len
    · have hlt' : (k : Int) < (len : Int) := by omega
      obtain ⟨b, off, rfl, zb, hc⟩ := hmem (by omega)
      have hcells := hc k hlt
      have hx := hF (xs.getD k default) wr hb
      have hhit := idxI_hit (p := p) (l := xs) (k := k) (by have := HL.out; omega) hnot
      have hnot' : p (xs.getD k default) = false → ∀ i, i < k + 1 → p (xs.getD i default) = false := fun hf i hi => by
        by_cases e : i = k
        · rw [e]; exact hf
        · exact hnot i (by omega)
      obtain ⟨x, ex⟩ : ∃ x, x = xs.getD k default := ⟨_, rfl⟩
      rw [← ex] at hcells hx hhit hnot'
      clear ex
      obtain ⟨⟨site, num⟩, key, write, value, ask⟩ := x
      have a0 := hcells 0 (by decide)
      have a1 := hcells 1 (by decide)
      have a2 := hcells 2 (by decide)
      have a3 := hcells 3 (by decide)
      have a4 := hcells 4 (by decide)
      have a5 := hcells 5 (by decide)
      simp [LkV.cells] at a0 a1 a2 a3 a4 a5
      rw [← hb.cell (p := ⟨b, off + k * 6, none⟩) zb] at a0
      rw [← hb.cell (p := ⟨b, off + k * 6 + 1, none⟩) zb] at a1
      rw [← hb.cell (p := ⟨b, off + k * 6 + 2, none⟩) zb] at a2
      rw [← hb.cell (p := ⟨b, off + k * 6 + 3, none⟩) zb] at a3
      rw [← hb.cell (p := ⟨b, off + k * 6 + 4, none⟩) zb] at a4
      rw [← hb.cell (p := ⟨b, off + k * 6 + 5, none⟩) zb] at a5
      clear hcells hc
      simp only [LkV.val] at hx
      obtain ⟨P, eP⟩ : ∃ P, P = p ⟨(site, num), key, write, value, ask⟩ := ⟨_, rfl⟩
      rw [← eP] at hx hhit hnot'
      clear eP
      cases P with
      | true =>
        have hh := hhit rfl
        clear hhit hnot'
        go_wp2_with (go_at_fn fn; refine (hx).mono ?_; rintro e w1 ⟨rfl, hb1⟩)
        go_ret
        exact ⟨by rw [hh]; rfl, hb.trans (hb1.mono hb.size)⟩
      | false =>
        have hh := hnot' rfl
        clear hhit hnot'
        go_wp2_with (go_at_fn fn; refine (hx).mono ?_; rintro e w1 ⟨rfl, hb1⟩)
        go_roundw
        case rel => exact ⟨k + 1, by omega, by go_num, hh, hb.trans (hb1.mono hb.size)⟩
        case measure => simp [intOf]; omega
    · have hfin : idxI p xs = -1 := idxI_none (fun i hi => hnot i (by have := HL.out; omega))
      go_wp2
      go_ret
      exact ⟨by rw [hfin]; rfl, hb⟩

theorem containsLock_any (fn : Nat) (cps : Array Value) (p : LkV → Bool) (a : Option Addr) (len cap : Nat) (xs : List LkV) (w : World) (h : IsLocks w a len cap xs) (hF : Asks fn cps LkV.val p w) :
    Calls Tryz.prog 81 #[.slice a len cap, .func (.func fn) #[] cps] w fun e w' => e = .returned (.bool (xs.any p)) ∧ Below w.heap.size w w' := by
  have hI := fun w' h1 h2 => indexLock_any fn cps p a len cap xs w' h1 h2
  have hA := idxI_any p xs
  obtain ⟨I, eI⟩ : ∃ I, I = idxI p xs := ⟨_, rfl⟩
  rw [← eI] at hI hA
  rw [← hA]
  clear eI hA
  go_enter Tryz.func81, Tryz.ntmps81
  go_wp2_with (go_at_call 79; refine (hI _ h hF).mono ?_; rintro e w1 ⟨rfl, hb1⟩)
  go_ret
  exact ⟨rfl, hb1⟩

set_option maxHeartbeats 1000000 in
theorem indexDoubt_any (fn : Nat) (cps : Array Value) (p : DbV → Bool) (a : Option Addr) (len cap : Nat) (xs : List DbV) (w : World) (h : IsDoubts w a len cap xs) (hF : Asks fn cps DbV.val p w) :
    Calls Tryz.prog 91 #[.slice a len cap, .func (.func fn) #[] cps] w fun e w' => e = .returned (.int .i64 (idxI p xs)) ∧ Below w.heap.size w w' := by
  obtain ⟨hlen, hcap, hmax, _, hmem⟩ := h
  obtain ⟨hE, hF⟩ := hF
  unfold Enters at hE
  have HL : Hid (xs.length = len) := hlen
  clear hlen
  unfold maxLen at hmax
  go_enter Tryz.func91, Tryz.ntmps91
  go_wp2
  go_loopw [8] (fun s8 wr => ∃ (k : Nat), k ≤ len ∧ s8 = .int .i64 k ∧ (∀ i, i < k → p (xs.getD i default) = false) ∧ Below w.heap.size w wr) (fun s8 _ => len - (intOf s8).toNat)
  case atStart => exact ⟨0, Nat.zero_le _, rfl, fun i hi => absurd hi (by omega), Below.refl _ _⟩
  case round =>
    obtain ⟨k, hk, rfl, hnot, hb⟩ := hrel
    by_cases hlt : k < len
    · have hlt' : (k : Int) < (len : Int) := by omega
      obtain ⟨b, off, rfl, zb, hc⟩ := hmem (by omega)
      have hcells := hc k hlt
      have hx := hF (xs.getD k default) wr hb
      have hhit := idxI_hit (p := p) (l := xs) (k := k) (by have := HL.out; omega) hnot
      have hnot' : p (xs.getD k default) = false → ∀ i, i < k + 1 → p (xs.getD i default) = false := fun hf i hi => by
        by_cases e : i = k
        · rw [e]; exact hf
        · exact hnot i (by omega)
      obtain ⟨x, ex⟩ : ∃ x, x = xs.getD k default := ⟨_, rfl⟩
      rw [← ex] at hcells hx hhit hnot'
      clear ex
      obtain ⟨⟨site, num⟩, age⟩ := x
      have a0 := hcells 0 (by decide)
      have a1 := hcells 1 (by decide)
      have a2 := hcells 2 (by decide)
      simp [DbV.cells] at a0 a1 a2
      rw [← hb.cell (p := ⟨b, off + k * 3, none⟩) zb] at a0
      rw [← hb.cell (p := ⟨b, off + k * 3 + 1, none⟩) zb] at a1
      rw [← hb.cell (p := ⟨b, off + k * 3 + 2, none⟩) zb] at a2
      clear hcells hc
      simp only [DbV.val] at hx
      obtain ⟨P, eP⟩ : ∃ P, P = p ⟨(site, num), age⟩ := ⟨_, rfl⟩
      rw [← eP] at hx hhit hnot'
      clear eP
      cases P with
      | true =>
        have hh := hhit rfl
        clear hhit hnot'
        go_wp2_with (go_at_fn fn; refine (hx).mono ?_; rintro e w1 ⟨rfl, hb1⟩)
        go_ret
        exact ⟨by rw [hh]; rfl, hb.trans (hb1.mono hb.size)⟩
      | false =>
        have hh := hnot' rfl
        clear hhit hnot'
        go_wp2_with (go_at_fn fn; refine (hx).mono ?_; rintro e w1 ⟨rfl, hb1⟩)
        go_roundw
        case rel => exact ⟨k + 1, by omega, by go_num, hh, hb.trans (hb1.mono hb.size)⟩
        case measure => simp [intOf]; omega
    · have hfin : idxI p xs = -1 := idxI_none (fun i hi => hnot i (by have := HL.out; omega))
      go_wp2
      go_ret
      exact ⟨by rw [hfin]; rfl, hb⟩

theorem containsDoubt_any (fn : Nat) (cps : Array Value) (p : DbV → Bool) (a : Option Addr) (len cap : Nat) (xs : List DbV) (w : World) (h : IsDoubts w a len cap xs) (hF : Asks fn cps DbV.val p w) :
    Calls Tryz.prog 84 #[.slice a len cap, .func (.func fn) #[] cps] w fun e w' => e = .returned (.bool (xs.any p)) ∧ Below w.heap.size w w' := by
  have hI := fun w' h1 h2 => indexDoubt_any fn cps p a len cap xs w' h1 h2
  have hA := idxI_any p xs
  obtain ⟨I, eI⟩ : ∃ I, I = idxI p xs := ⟨_, rfl⟩
  rw [← eI] at hI hA
  rw [← hA]
  clear eI hA
  go_enter Tryz.func84, Tryz.ntmps84
  go_wp2_with (go_at_call 91; refine (hI _ h hF).mono ?_; rintro e w1 ⟨rfl, hb1⟩)
  go_ret
  exact ⟨rfl, hb1⟩

set_option maxHeartbeats 1000000 in
theorem indexItem_any (fn : Nat) (cps : Array Value) (p : ItV → Bool) (a : Option Addr) (len cap : Nat) (xs : List ItV) (w : World) (h : IsItems w a len cap xs) (hF : Asks fn cps ItV.val p w) :
    Calls Tryz.prog 87 #[.slice a len cap, .func (.func fn) #[] cps] w fun e w' => e = .returned (.int .i64 (idxI p xs)) ∧ Below w.heap.size w w' := by
  obtain ⟨hlen, hcap, hmax, _, hmem⟩ := h
  obtain ⟨hE, hF⟩ := hF
  unfold Enters at hE
  have HL : Hid (xs.length = len) := hlen
  clear hlen
  unfold maxLen at hmax
  go_enter Tryz.func87, Tryz.ntmps87
  go_wp2
  go_loopw [8] (fun s8 wr => ∃ (k : Nat), k ≤ len ∧ s8 = .int .i64 k ∧ (∀ i, i < k → p (xs.getD i default) = false) ∧ Below w.heap.size w wr) (fun s8 _ => len - (intOf s8).toNat)
  case atStart => exact ⟨0, Nat.zero_le _, rfl, fun i hi => absurd hi (by omega), Below.refl _ _⟩
  case round =>
    obtain ⟨k, hk, rfl, hnot, hb⟩ := hrel
    by_cases hlt : k < len
    · have hlt' : (k : Int) < (len : Int) := by omega
      obtain ⟨b, off, rfl, zb, hc⟩ := hmem (by omega)
      have hcells := hc k hlt
      have hx := hF (xs.getD k default) wr hb
      have hhit := idxI_hit (p := p) (l := xs) (k := k) (by have := HL.out; omega) hnot
      have hnot' : p (xs.getD k default) = false → ∀ i, i < k + 1 → p (xs.getD i default) = false := fun hf i hi => by
        by_cases e : i = k
        · rw [e]; exact hf
        · exact hnot i (by omega)
      obtain ⟨x, ex⟩ : ∃ x, x = xs.getD k default := ⟨_, rfl⟩
      rw [← ex] at hcells hx hhit hnot'
      clear ex
      obtain ⟨key, value, version⟩ := x
      have a0 := hcells 0 (by decide)
      have a1 := hcells 1 (by decide)
      have a2 := hcells 2 (by decide)
      simp [ItV.cells] at a0 a1 a2
      rw [← hb.cell (p := ⟨b, off + k * 3, none⟩) zb] at a0
      rw [← hb.cell (p := ⟨b, off + k * 3 + 1, none⟩) zb] at a1
      rw [← hb.cell (p := ⟨b, off + k * 3 + 2, none⟩) zb] at a2
      clear hcells hc
      simp only [ItV.val] at hx
      obtain ⟨P, eP⟩ : ∃ P, P = p ⟨key, value, version⟩ := ⟨_, rfl⟩
      rw [← eP] at hx hhit hnot'
      clear eP
      cases P with
      | true =>
        have hh := hhit rfl
        clear hhit hnot'
        go_wp2_with (go_at_fn fn; refine (hx).mono ?_; rintro e w1 ⟨rfl, hb1⟩)
        go_ret
        exact ⟨by rw [hh]; rfl, hb.trans (hb1.mono hb.size)⟩
      | false =>
        have hh := hnot' rfl
        clear hhit hnot'
        go_wp2_with (go_at_fn fn; refine (hx).mono ?_; rintro e w1 ⟨rfl, hb1⟩)
        go_roundw
        case rel => exact ⟨k + 1, by omega, by go_num, hh, hb.trans (hb1.mono hb.size)⟩
        case measure => simp [intOf]; omega
    · have hfin : idxI p xs = -1 := idxI_none (fun i hi => hnot i (by have := HL.out; omega))
      go_wp2
      go_ret
      exact ⟨by rw [hfin]; rfl, hb⟩

set_option maxHeartbeats 1000000 in
theorem indexTxn_any (t : Int × Int) (a : Option Addr) (len cap : Nat) (xs : List (Int × Int)) (w : World) (h : IsTxns w a len cap xs) :
    Calls Tryz.prog 104 #[.slice a len cap, .agg #[.int .i64 t.1, .int .i64 t.2]] w fun e w' => e = .returned (.int .i64 (idxI (fun x => decide (x = t)) xs)) ∧ Below w.heap.size w w' := by
  obtain ⟨hlen, hcap, hmax, _, hmem⟩ := h
  have HL : Hid (xs.length = len) := hlen
  clear hlen
  unfold maxLen at hmax
  obtain ⟨ts, tn⟩ := t
  simp only
  obtain ⟨W, hW⟩ : ∃ W : World, W = w.alloc (.cells #[.int .i64 ts, .int .i64 tn] 51) := ⟨_, rfl⟩
  have hB : Below w.heap.size w W := by rw [hW]; exact (Below.refl _ _).alloc (Nat.le_refl _) _
  have zW : w.heap.size < W.heap.size := by rw [hW]; simp
  have c0 : W.cell? ⟨w.heap.size, 0, none⟩ = some (.int .i64 ts) := by rw [hW]; go_simp
  have c1 : W.cell? ⟨w.heap.size, 1, none⟩ = some (.int .i64 tn) := by rw [hW]; go_simp
  go_enter Tryz.func104, Tryz.ntmps104
  go_wp2
  rw [← hW]
  clear hW
  go_loopw [8] (fun s8 wr => ∃ (k : Nat), k ≤ len ∧ s8 = .int .i64 k ∧ (∀ i, i < k → decide (xs.getD i default = (ts, tn)) = false) ∧ Below W.heap.size W wr) (fun s8 _ => len - (intOf s8).toNat)
  case atStart => exact ⟨0, Nat.zero_le _, rfl, fun i hi => absurd hi (by omega), Below.refl _ _⟩
  case round =>
    obtain ⟨k, hk, rfl, hnot, hb⟩ := hrel
    have hwr := hB.trans (hb.mono hB.size)
    by_cases hlt : k < len
    · have hlt' : (k : Int) < (len : Int) := by omega
      obtain ⟨b, off, rfl, zb, hc⟩ := hmem (by omega)
      have hcells := hc k hlt
      have hhit := idxI_hit (p := fun x => decide (x = (ts, tn))) (l := xs) (k := k) (by have := HL.out; omega) hnot
      have hnot' : decide (xs.getD k default = (ts, tn)) = false → ∀ i, i < k + 1 → decide (xs.getD i default = (ts, tn)) = false := fun hf i hi => by
        by_cases e : i = k
        · rw [e]; exact hf
        · exact hnot i (by omega)
      obtain ⟨x, ex⟩ : ∃ x, x = xs.getD k default := ⟨_, rfl⟩
      rw [← ex] at hcells hhit hnot'
      clear ex
      obtain ⟨site, num⟩ := x
      have a0 := hcells 0 (by decide)
      have a1 := hcells 1 (by decide)
      simp [txCells] at a0 a1
      rw [← hwr.cell (p := ⟨b, off + k * 2, none⟩) zb] at a0
      rw [← hwr.cell (p := ⟨b, off + k * 2 + 1, none⟩) zb] at a1
      have d0 := (hb.cell (p := ⟨w.heap.size, 0, none⟩) zW).trans c0
      have d1 := (hb.cell (p := ⟨w.heap.size, 1, none⟩) zW).trans c1
      clear hcells hc
      by_cases e1 : ts = site
      · by_cases e2 : tn = num
        · subst e1 e2
          have hh := hhit (by simp)
          clear hhit hnot'
          go_wp2
          go_quiet (fail)
          go_wp2
          go_ret
          exact ⟨by rw [hh]; rfl, below_drewN hwr nq⟩
        · have hh := hnot' (by simp; intro _ e; exact e2 e.symm)
          have e3 : (tn == num) = false := by simpa using e2
          clear hhit hnot'
          subst e1
          go_wp2
          go_quiet (fail)
          go_wp2
          go_roundw
          case rel => exact ⟨k + 1, by omega, by go_num, hh, below_drewN hb nq⟩
          case measure => simp [intOf]; omega
      · have hh := hnot' (by simp; intro e; exact absurd e.symm e1)
        have e3 : (ts == site) = false := by simpa using e1
        clear hhit hnot'
        go_wp2
        go_quiet (fail)
        go_wp2
        go_roundw
        case rel => exact ⟨k + 1, by omega, by go_num, hh, below_drewN hb nq⟩
        case measure => simp [intOf]; omega
    · have hfin : idxI (fun x => decide (x = (ts, tn))) xs = -1 := idxI_none (fun i hi => hnot i (by have := HL.out; omega))
      go_wp2
      go_ret
      exact ⟨by rw [hfin]; rfl, hwr⟩

theorem mem_any (t : Int × Int) (xs : List (Int × Int)) : xs.any (fun x => decide (x = t)) = decide (t ∈ xs) := by
  rw [Bool.eq_iff_iff]
  simp
theorem containsTxn_any (t : Int × Int) (a : Option Addr) (len cap : Nat) (xs : List (Int × Int)) (w : World) (h : IsTxns w a len cap xs) :
    Calls Tryz.prog 93 #[.slice a len cap, .agg #[.int .i64 t.1, .int .i64 t.2]] w fun e w' => e = .returned (.bool (decide (t ∈ xs))) ∧ Below w.heap.size w w' := by
  have hI := fun w' h1 => indexTxn_any t a len cap xs w' h1
  have hA := idxI_any (fun x => decide (x = t)) xs
  rw [mem_any] at hA
  obtain ⟨I, eI⟩ : ∃ I, I = idxI (fun x => decide (x = t)) xs := ⟨_, rfl⟩
  rw [← eI] at hI hA
  rw [← hA]
  clear eI hA
  obtain ⟨ts, tn⟩ := t
  simp only at hI ⊢
  have hB : Below w.heap.size w (w.alloc (.cells #[.int .i64 ts, .int .i64 tn] 51)) := (Below.refl _ _).alloc (Nat.le_refl _) _
  have hX := h.below hB
  go_enter Tryz.func93, Tryz.ntmps93
  go_wp2_with (go_at_call 104; refine (hI _ hX).mono ?_; rintro e w1 ⟨rfl, hb1⟩)
  go_ret
  exact ⟨rfl, hB.trans (hb1.mono hB.size)⟩
end Go.Proofs.YtekglahigjblkaaGreatDoor.St
/- How a call that is handed a store and answers one begins: a box for the store, a box for the answer. -/
namespace Go.Proofs.YtekglahigjblkaaGreatDoor.St
open Go.ChangeShapes Go.WideShapes Go.ChangeAt Go.RowKit
set_option linter.unusedVariables false

structure Pre (w W : World) (s : SV) : Prop where
  bel : Below w.heap.size w W
  sz : W.heap.size = w.heap.size + 2
  st : IsStore W s
  par : BoxN W w.heap.size 4 s.box
  res : BoxN W (w.heap.size + 1) 4 SV.nil.box
theorem pre_of (w : World) (s : SV) (h : IsStore w s) : Pre w ((w.alloc (.cells #[.slice s.ia s.il s.ic, .slice s.la s.ll s.lc, .slice s.da s.dl s.dc, .slice s.oa s.ol s.oc] 31)).alloc (.cells #[.slice none 0 0, .slice none 0 0, .slice none 0 0, .slice none 0 0] 31)) s := by
  have h1 : Below w.heap.size w (w.alloc (.cells #[.slice s.ia s.il s.ic, .slice s.la s.ll s.lc, .slice s.da s.dl s.dc, .slice s.oa s.ol s.oc] 31)) := (Below.refl _ _).alloc (Nat.le_refl _) _
  have h2 : Below w.heap.size w ((w.alloc (.cells #[.slice s.ia s.il s.ic, .slice s.la s.ll s.lc, .slice s.da s.dl s.dc, .slice s.oa s.ol s.oc] 31)).alloc (.cells #[.slice none 0 0, .slice none 0 0, .slice none 0 0, .slice none 0 0] 31)) := h1.alloc (by simp) _
  have b1 := boxn_new w #[.slice s.ia s.il s.ic, .slice s.la s.ll s.lc, .slice s.da s.dl s.dc, .slice s.oa s.ol s.oc] 31 4 rfl
  have b2 := boxn_new (w.alloc (.cells #[.slice s.ia s.il s.ic, .slice s.la s.ll s.lc, .slice s.da s.dl s.dc, .slice s.oa s.ol s.oc] 31)) #[.slice none 0 0, .slice none 0 0, .slice none 0 0, .slice none 0 0] 31 4 rfl
  refine ⟨h2, by simp, h.below h2, ?_, by simpa [SV.nil, SV.box] using b2⟩
  refine b1.below (B := (w.alloc (.cells #[.slice s.ia s.il s.ic, .slice s.la s.ll s.lc, .slice s.da s.dl s.dc, .slice s.oa s.ol s.oc] 31)).heap.size) ((Below.refl _ _).alloc (Nat.le_refl _) _) (by simp)
theorem Pre.z0 {w W : World} {s : SV} (h : Pre w W s) : w.heap.size < W.heap.size := by have := h.sz; omega
theorem Pre.z1 {w W : World} {s : SV} (h : Pre w W s) : w.heap.size + 1 < W.heap.size := by have := h.sz; omega
theorem Pre.cells {w W : World} {s : SV} (h : Pre w W s) (U : World) (hU : Below W.heap.size W U) : U.cell? ⟨w.heap.size, 0, none⟩ = some (.slice s.ia s.il s.ic) ∧ U.cell? ⟨w.heap.size, 1, none⟩ = some (.slice s.la s.ll s.lc) ∧ U.cell? ⟨w.heap.size, 2, none⟩ = some (.slice s.da s.dl s.dc) ∧ U.cell? ⟨w.heap.size, 3, none⟩ = some (.slice s.oa s.ol s.oc) := by
  have hp := h.par.below hU h.z0
  exact ⟨(hp.c 0 (by decide)).1, (hp.c 1 (by decide)).1, (hp.c 2 (by decide)).1, (hp.c 3 (by decide)).1⟩
theorem Pre.out {w W : World} {s : SV} (h : Pre w W s) (U : World) (hU : Below W.heap.size W U) : (w.heap.size + 1 < U.heap.size ∧ U.cell? ⟨w.heap.size + 1, 0, none⟩ = some (.slice none 0 0) ∧ U.cell? ⟨w.heap.size + 1, 1, none⟩ = some (.slice none 0 0) ∧ U.cell? ⟨w.heap.size + 1, 2, none⟩ = some (.slice none 0 0) ∧ U.cell? ⟨w.heap.size + 1, 3, none⟩ = some (.slice none 0 0)) ∧ U.frozen? ⟨w.heap.size + 1, 0, none⟩ = false ∧ U.frozen? ⟨w.heap.size + 1, 1, none⟩ = false ∧ U.frozen? ⟨w.heap.size + 1, 2, none⟩ = false ∧ U.frozen? ⟨w.heap.size + 1, 3, none⟩ = false := by
  have hp := h.res.below hU h.z1
  exact ⟨⟨hp.lt, (hp.c 0 (by decide)).1, (hp.c 1 (by decide)).1, (hp.c 2 (by decide)).1, (hp.c 3 (by decide)).1⟩, (hp.c 0 (by decide)).2, (hp.c 1 (by decide)).2, (hp.c 2 (by decide)).2, (hp.c 3 (by decide)).2⟩
theorem Pre.below {w W U : World} {s : SV} (h : Pre w W s) (hU : Below W.heap.size W U) : Below w.heap.size w U := h.bel.trans (hU.mono h.bel.size)
/-- What is told to the answer's box. -/
theorem Pre.done {w W U : World} {s r : SV} (h : Pre w W s) (hU : Below W.heap.size W U) (hr : IsStore U r) (hn : ∀ b off, (r.ia = some ⟨b, off, none⟩ ∧ 0 < r.il) ∨ (r.la = some ⟨b, off, none⟩ ∧ 0 < r.ll) ∨ (r.da = some ⟨b, off, none⟩ ∧ 0 < r.dl) ∨ (r.oa = some ⟨b, off, none⟩ ∧ 0 < r.ol) → b ≠ w.heap.size + 1) (p0 p1 p2 p3 : Value) :
    IsStore ((((U.setCell ⟨w.heap.size + 1, 0, none⟩ p0).setCell ⟨w.heap.size + 1, 1, none⟩ p1).setCell ⟨w.heap.size + 1, 2, none⟩ p2).setCell ⟨w.heap.size + 1, 3, none⟩ p3) r ∧ Below w.heap.size w ((((U.setCell ⟨w.heap.size + 1, 0, none⟩ p0).setCell ⟨w.heap.size + 1, 1, none⟩ p1).setCell ⟨w.heap.size + 1, 2, none⟩ p2).setCell ⟨w.heap.size + 1, 3, none⟩ p3) := by
  have far : ∀ {α : Type} [Inhabited α] {k : Nat} {cells : α → List Value} {U : World} {a : Option Addr} {n c : Nat} {xs : List α} (j : Nat) (v : Value), (∀ b off, a = some ⟨b, off, none⟩ ∧ 0 < n → b ≠ w.heap.size + 1) → IsRow k cells U a n c xs → IsRow k cells (U.setCell ⟨w.heap.size + 1, j, none⟩ v) a n c xs := by
    intro α _ k cells U a n c xs j v hne hR
    obtain ⟨r1, r2, r3, r4, r5⟩ := hR
    refine ⟨r1, r2, r3, r4, fun hp => ?_⟩
    obtain ⟨b, off, e, hl, hc⟩ := r5 hp
    refine ⟨b, off, e, by simpa using hl, fun i hi q hq => ?_⟩
    rw [World.cell?_of_block (a := ⟨b, off + i * k + q, none⟩) (Below.heap_setCell U ⟨w.heap.size + 1, j, none⟩ v b (hne b off ⟨e, hp⟩))]
    exact hc i hi q hq
  have n1 := fun b off (q : r.ia = some ⟨b, off, none⟩ ∧ 0 < r.il) => hn b off (.inl q)
  have n2 := fun b off (q : r.la = some ⟨b, off, none⟩ ∧ 0 < r.ll) => hn b off (.inr (.inl q))
  have n3 := fun b off (q : r.da = some ⟨b, off, none⟩ ∧ 0 < r.dl) => hn b off (.inr (.inr (.inl q)))
  have n4 := fun b off (q : r.oa = some ⟨b, off, none⟩ ∧ 0 < r.ol) => hn b off (.inr (.inr (.inr q)))
  refine ⟨⟨far 3 _ n1 (far 2 _ n1 (far 1 _ n1 (far 0 _ n1 hr.items))), far 3 _ n2 (far 2 _ n2 (far 1 _ n2 (far 0 _ n2 hr.locks))), far 3 _ n3 (far 2 _ n3 (far 1 _ n3 (far 0 _ n3 hr.doubts))), far 3 _ n4 (far 2 _ n4 (far 1 _ n4 (far 0 _ n4 hr.over)))⟩, ?_⟩
  refine Below.setCell (Below.setCell (Below.setCell (Below.setCell (h.below hU) ?_ _) ?_ _) ?_ _) ?_ _
  all_goals exact Nat.le_succ _
/-- The same of a store that was made behind the two boxes. -/
theorem Pre.made {w W U : World} {s r : SV} {m : Nat} (h : Pre w W s) (hM : Made W U W.heap.size m r) (p0 p1 p2 p3 : Value) :
    IsStore ((((U.setCell ⟨w.heap.size + 1, 0, none⟩ p0).setCell ⟨w.heap.size + 1, 1, none⟩ p1).setCell ⟨w.heap.size + 1, 2, none⟩ p2).setCell ⟨w.heap.size + 1, 3, none⟩ p3) r ∧ OwnStore ((((U.setCell ⟨w.heap.size + 1, 0, none⟩ p0).setCell ⟨w.heap.size + 1, 1, none⟩ p1).setCell ⟨w.heap.size + 1, 2, none⟩ p2).setCell ⟨w.heap.size + 1, 3, none⟩ p3) w.heap.size r ∧ Below w.heap.size w ((((U.setCell ⟨w.heap.size + 1, 0, none⟩ p0).setCell ⟨w.heap.size + 1, 1, none⟩ p1).setCell ⟨w.heap.size + 1, 2, none⟩ p2).setCell ⟨w.heap.size + 1, 3, none⟩ p3) := by
  have z1 := h.z1
  have ho : OwnStore ((((U.setCell ⟨w.heap.size + 1, 0, none⟩ p0).setCell ⟨w.heap.size + 1, 1, none⟩ p1).setCell ⟨w.heap.size + 1, 2, none⟩ p2).setCell ⟨w.heap.size + 1, 3, none⟩ p3) W.heap.size r :=
    (((hM.own.box (p := ⟨w.heap.size + 1, 0, none⟩) z1 p0).box (p := ⟨w.heap.size + 1, 1, none⟩) z1 p1).box (p := ⟨w.heap.size + 1, 2, none⟩) z1 p2).box (p := ⟨w.heap.size + 1, 3, none⟩) z1 p3
  refine ⟨ho.isStore, ho.base h.bel.size, ?_⟩
  refine Below.setCell (Below.setCell (Below.setCell (Below.setCell (h.below hM.bel) ?_ _) ?_ _) ?_ _) ?_ _
  all_goals exact Nat.le_succ _
end Go.Proofs.YtekglahigjblkaaGreatDoor.St
