/- The contract of slices.Insert at items, whatever room there is. -/
import Derived.Test.YtbmbahifkegehaaSInsert
import Derived.Test.YtbmbahifkegehaaSMade
namespace Go.Proofs.Ytbmbahifkegehaa.St
open Go.ChangeShapes Go.WideShapes Go.ChangeAt Go.RowKit
set_option linter.unusedVariables false

theorem put_in2 {xs : List ItV} {n i : Nat} (x : ItV) (ys : List Value) (hl : xs.length = n) (hi : i ≤ n) (hy : ys.length = (n + 1) * 3) (ht : ys.take (i * 3) = flat ItV.cells (xs.take i)) : setL (setL ys (i * 3) (ItV.cells x)) ((i + 1) * 3) (flat ItV.cells (xs.drop i)) = flat ItV.cells (xs.take i ++ x :: xs.drop i) := by
  have hd : (flat ItV.cells (xs.drop i)).length = (n - i) * 3 := by rw [flat_len it_len]; simp [hl]
  have hx : (ItV.cells x).length = 3 := rfl
  have h0 : (setL ys (i * 3) (ItV.cells x)).length = (n + 1) * 3 := by rw [setL_len, hy]
  have hdn : (setL ys (i * 3) (ItV.cells x)).drop ((i + 1) * 3 + (flat ItV.cells (xs.drop i)).length) = [] := List.drop_eq_nil_of_le (by rw [hd, h0]; omega)
  have h1 : (ys.take (i * 3)).length = i * 3 := by rw [List.length_take, hy]; omega
  have e2 : (setL ys (i * 3) (ItV.cells x)).take ((i + 1) * 3) = flat ItV.cells (xs.take i) ++ ItV.cells x := by
    rw [setL_eq _ _ _ (by rw [hx, hy]; omega), ht]
    rw [ht] at h1
    rw [List.take_append_of_le_length (by rw [List.length_append, h1, hx]; omega), List.take_of_length_le (by rw [List.length_append, h1, hx]; omega)]
  rw [setL_eq _ _ _ (by rw [hd, h0]; omega), hdn, e2, List.append_nil, flat_append]
  have : flat ItV.cells (x :: xs.drop i) = ItV.cells x ++ flat ItV.cells (xs.drop i) := by simp [flat]
  rw [this, List.append_assoc]

set_option maxRecDepth 100000 in
set_option maxHeartbeats 4000000 in
/-- Behind all. -/
theorem insert_end (B : Nat) (a : Option Addr) (n cap : Nat) (xs : List ItV) (x : ItV) (w V : World) (hVw : V = w.alloc (.cells #[.int .i64 x.key, .int .i64 x.value, .int .i64 x.version] 59)) (h : w.ownsRow B 59 3 (.slice a n cap) n (flat ItV.cells xs)) (hB : B ≤ w.heap.size) (hn : n ≤ 100) :
    Calls Try.prog 54 #[.slice a n cap, .int .i64 (n : Int), .slice (some ⟨w.heap.size, 0, none⟩) 1 1] V fun e w' => ∃ a' c', e = .returned (.slice a' (n + 1) c') ∧ w'.ownsRow B 59 3 (.slice a' (n + 1) c') (n + 1) (flat ItV.cells (insAt xs n x)) ∧ V.grownBy w' (Value.slice a n cap).ownBlock ∧ ((Value.slice a' (n + 1) c').ownBlock = (Value.slice a n cap).ownBlock ∨ (Value.slice a' (n + 1) c').ownBlock = some V.heap.size) := by
  obtain ⟨i1, E1⟩ := itElem
  have hl := own_len it_len (by decide) h
  have HI : Hid (insAt xs n x = xs ++ [x]) := by
    show _ = _
    unfold insAt
    rw [List.take_of_length_le (by omega), List.drop_eq_nil_of_le (by omega)]
  obtain ⟨ik, iv, iw⟩ := x
  simp only [] at hVw
  have bV : Below w.heap.size w V := by rw [hVw]; exact (Below.refl _ _).alloc (Nat.le_refl _) _
  have hV := own_below h bV
  have hv1 : IsRow 3 ItV.cells V (some ⟨w.heap.size, 0, none⟩) 1 1 [(⟨ik, iv, iw⟩ : ItV)] := by rw [hVw]; exact isOne w #[.int .i64 ik, .int .i64 iv, .int .i64 iw] 59 (⟨ik, iv, iw⟩ : ItV) rfl rfl
  obtain ⟨_, _, e0, hnc, hcm, hnil⟩ := own_form h
  simp at e0
  obtain ⟨rfl, rfl⟩ := e0
  unfold maxLen at hcm
  have hBV : B ≤ V.heap.size := Nat.le_trans hB bV.size
  clear h hVw bV
  by_cases hcn : cap = n
  · subst hcn
    cases a with
    | none =>
      obtain rfl : cap = 0 := hnil rfl
      go_enter Try.func54, Try.ntmps54
      go_wp2_with (at_builtin; go_loud (refine wpList_append_row E1 (by rfl) _ _ (by rfl) B (.slice none 0 0) 0 xs (by rfl) hV _ 1 1 [⟨ik, iv, iw⟩] (by rfl) hv1 (by unfold maxLen; omega) (by omega) hBV ?_; intro a5 c5 w5 own5 gr5 at5))
      go_ret
      exact ⟨a5, c5, rfl, by rw [HI.out]; exact own5, gr5, at5⟩
    | some ad =>
      obtain ⟨ab, ao, asp⟩ := ad
      go_enter Try.func54, Try.ntmps54
      go_wp2_with (at_builtin; go_loud (refine wpList_append_row E1 (by rfl) _ _ (by rfl) B (.slice (some ⟨ab, ao, asp⟩) cap cap) cap xs (by rfl) hV _ 1 1 [⟨ik, iv, iw⟩] (by rfl) hv1 (by unfold maxLen; omega) (by omega) hBV ?_; intro a5 c5 w5 own5 gr5 at5))
      go_ret
      exact ⟨a5, c5, rfl, by rw [HI.out]; exact own5, gr5, at5⟩
  · cases a with
    | none => exact absurd (hnil rfl) (by omega)
    | some ad =>
      obtain ⟨ab, ao, asp⟩ := ad
      go_enter Try.func54, Try.ntmps54
      go_wp2_with (at_builtin; go_loud (refine wpList_append_row E1 (by rfl) _ _ (by rfl) B (.slice (some ⟨ab, ao, asp⟩) n cap) n xs (by rfl) hV _ 1 1 [⟨ik, iv, iw⟩] (by rfl) hv1 (by unfold maxLen; omega) (by omega) hBV ?_; intro a5 c5 w5 own5 gr5 at5))
      go_ret
      exact ⟨a5, c5, rfl, by rw [HI.out]; exact own5, gr5, at5⟩

set_option maxRecDepth 100000 in
set_option maxHeartbeats 4000000 in
/-- There is no room, and it goes ahead of another one. -/
theorem insert_grow (B g n i : Nat) (xs : List ItV) (x : ItV) (w V : World) (hVw : V = w.alloc (.cells #[.int .i64 x.key, .int .i64 x.value, .int .i64 x.version] 59)) (h : w.ownsRow B 59 3 (.slice (some ⟨g, 0, none⟩) n n) n (flat ItV.cells xs)) (hB : B ≤ w.heap.size) (hi : i < n) (hn : n ≤ 100) :
    Calls Try.prog 54 #[.slice (some ⟨g, 0, none⟩) n n, .int .i64 (i : Int), .slice (some ⟨w.heap.size, 0, none⟩) 1 1] V fun e w' => ∃ a' c', e = .returned (.slice a' (n + 1) c') ∧ w'.ownsRow B 59 3 (.slice a' (n + 1) c') (n + 1) (flat ItV.cells (insAt xs i x)) ∧ V.grownBy w' (some g) ∧ ((Value.slice a' (n + 1) c').ownBlock = some g ∨ (Value.slice a' (n + 1) c').ownBlock = some V.heap.size) := by
  have hl := own_len it_len (by decide) h
  obtain ⟨ik, iv, iw⟩ := x
  simp only [] at hVw
  have hg := h.lt g rfl
  have bV : Below w.heap.size w V := by rw [hVw]; exact (Below.refl _ _).alloc (Nat.le_refl _) _
  have zV : V.heap.size = w.heap.size + 1 := by rw [hVw]; simp
  have hV := own_below h bV
  have bx := boxn_new w #[.int .i64 ik, .int .i64 iv, .int .i64 iw] 59 3 rfl
  rw [← hVw] at bx
  obtain ⟨j0, hj0, lz, ls, lb⟩ := info_parts itInfo
  have hD : Below V.heap.size V V.drew := (Below.refl _ _).drew
  have hVd := own_below hV hD
  obtain ⟨C, eC⟩ : ∃ C, C = grownCap V (n + 1) n 59 := ⟨_, rfl⟩
  have hC1 : n + 1 ≤ C := by rw [eC]; exact grownCap_ge V (n + 1) n 59
  have hC2 : C ≤ maxLen := by rw [eC]; exact grownCap_le_maxLen V (n + 1) n 59 (by unfold maxLen; omega)
  obtain ⟨arr, earr⟩ : ∃ arr : Array Value, arr = (flat ItV.cells (xs.take i)).toArray ++ Builtin.zeroCells (Value.cells (.agg #[.int .i64 0, .int .i64 0, .int .i64 0])) (n + 1 - i) ++ Builtin.zeroCells (Value.cells (.agg #[.int .i64 0, .int .i64 0, .int .i64 0])) (C - (n + 1)) := ⟨_, rfl⟩
  have hfl : (flat ItV.cells (xs.take i)).length = i * 3 := by rw [flat_len it_len, List.length_take, hl]; omega
  have has : arr.size = C * 3 := by
    rw [earr]
    simp only [Array.size_append, List.size_toArray, size_zeroCells, hfl]
    show i * 3 + (n + 1 - i) * 3 + (C - (n + 1)) * 3 = C * 3
    omega
  have hap : ∀ ty, (Builtin.append_ #[22, 3] ty #[.slice (some ⟨g, 0, none⟩) i n, .int .i64 ((n : Int) + 1 - (i : Int))]).run Try.prog V = .ok (.slice (some ⟨V.heap.size, 0, none⟩) (n + 1) C) (V.drew.alloc (.cells arr 59)) := fun ty => by
    have hr := Go.Lib.run_append_grow_zeros (P := Try.prog) V 22 3 ty 59 j0 (.agg #[.int .i64 0, .int .i64 0, .int .i64 0]) .i64 .i64 Try.underlying22 Try.underlying3 hj0 lz (some ⟨g, 0, none⟩) i n (flat ItV.cells (xs.take i))
      (by
        rw [ls]
        refine run_firstCells_some V.drew 3 i ⟨g, 0, none⟩ i n _ hfl (fun j v hj => ?_)
        have hjl : j < i * 3 := by rw [← hfl]; exact (List.getElem?_eq_some_iff.1 hj).1
        have hf : (flat ItV.cells xs)[j]? = some v := by
          rw [← flat_take it_len, List.getElem?_take_of_lt hjl] at hj
          exact hj
        exact hVd.cells (g := g) rfl _ _ hf)
      (n + 1 - i) (by omega) (by rw [ls]; decide) (by omega) (by omega) (by rw [lb]; omega) (by rw [lb]; exact growslice_fits (by omega) (by omega))
    have e1 : i + (n + 1 - i) = n + 1 := by omega
    have e2 : ((n + 1 - i : Nat) : Int) = (n : Int) + 1 - (i : Int) := by omega
    rw [e1, e2, ← eC, ← earr] at hr
    exact hr
  obtain ⟨X, hX⟩ : ∃ X : World, X = V.drew.alloc (.cells arr 59) := ⟨_, rfl⟩
  have bX : Below V.heap.size V X := by rw [hX]; exact hD.alloc hD.size _
  have hXb : X.heap[V.heap.size]? = some (.cells arr 59 (0, 0)) := by rw [hX]; exact heap_alloc_new V.drew _
  have zX : V.heap.size < X.heap.size := by rw [hX]; simp
  have ownX : X.ownsRow B 59 3 (.slice (some ⟨V.heap.size, 0, none⟩) (n + 1) C) (n + 1) (arr.toList.take ((n + 1) * 3)) :=
    ⟨by rw [List.length_take, Array.length_toList, has]; omega, .inr ⟨V.heap.size, C, arr, rfl, by omega, hXb, hC1, hC2, has, rfl⟩⟩
  have hyl : (arr.toList.take ((n + 1) * 3)).length = (n + 1) * 3 := by rw [List.length_take, Array.length_toList, has]; omega
  have hyt : (arr.toList.take ((n + 1) * 3)).take (i * 3) = flat ItV.cells (xs.take i) := by
    rw [List.take_take, Nat.min_eq_left (by omega), earr]
    simp only [Array.toList_append, List.append_assoc]
    rw [List.take_append_of_le_length (by rw [hfl]; exact Nat.le_refl _), List.take_of_length_le (by rw [hfl]; exact Nat.le_refl _)]
  obtain ⟨ys, eys⟩ : ∃ ys, ys = arr.toList.take ((n + 1) * 3) := ⟨_, rfl⟩
  rw [← eys] at ownX hyl hyt
  rw [← hX] at hap
  clear eys hX earr has hXb
  have hne : w.heap.size ≠ V.heap.size := by omega
  have hgne : g ≠ V.heap.size := by omega
  have bxX := bx.below bX bx.lt
  have hcp1 : ∀ ty, (Builtin.copy_ #[22, 22] ty #[.slice (some ⟨V.heap.size, i * 3, none⟩) (n + 1 - i) (C - i), .slice (some ⟨w.heap.size, 0, none⟩) 1 1]).run Try.prog X = .ok (goInt 1) (X.setCells V.heap.size (i * 3) [.int .i64 ik, .int .i64 iv, .int .i64 iw]) := fun ty =>
    run_copy_items X ty V.heap.size (i * 3) (n + 1 - i) (C - i) ⟨w.heap.size, 0, none⟩ 1 1 [.int .i64 ik, .int .i64 iv, .int .i64 iw] 1 (by simp only [Nat.min_def]; split <;> omega) rfl
      (fun j v hj => by
        rw [adr_add, Nat.zero_add]
        have hj3 : j < 3 := (List.getElem?_eq_some_iff.1 hj).1
        rw [(bxX.c j hj3).1]
        have : j = 0 ∨ j = 1 ∨ j = 2 := by omega
        rcases this with rfl | rfl | rfl <;> exact hj)
      (fun j hj => (own_there ownX (by simp at hj; omega)).1) (fun j hj => (own_there ownX (by simp at hj; omega)).2) (fun v hv => by simp at hv; rcases hv with e | e | e <;> subst e <;> rfl)
  obtain ⟨X1, hX1⟩ : ∃ X1, X1 = X.setCells V.heap.size (i * 3) [.int .i64 ik, .int .i64 iv, .int .i64 iw] := ⟨_, rfl⟩
  have own1 : X1.ownsRow B 59 3 (.slice (some ⟨V.heap.size, 0, none⟩) (n + 1) C) (n + 1) (setL ys (i * 3) (ItV.cells ⟨ik, iv, iw⟩)) := by
    rw [hX1]
    exact own_setCells (ItV.cells ⟨ik, iv, iw⟩) (i * 3) X _ ownX (by rw [it_len]; omega)
  have gr1 : X.grownBy X1 (some V.heap.size) := by rw [hX1]; exact grown_setCells V.heap.size _ _ _
  rw [← hX1] at hcp1
  clear hX1
  have hD1 : Below X1.heap.size X1 X1.drew := (Below.refl _ _).drew
  have own1d := own_below own1 hD1
  have old1 := own_below ((own_below hV bX).kept gr1 (.inr (by simpa [Value.ownBlock] using hgne))) hD1
  have HDL : Hid ((flat ItV.cells (xs.drop i)).length = (n - i) * 3) := by show _ = _; rw [flat_len it_len]; simp [hl]
  have h1c : ∀ v ∈ flat ItV.cells (xs.drop i), v.oneCell' = true := flat_one' (k := 3) it_one _
  have hcp2 : ∀ ty, (Builtin.copy_ #[22, 22] ty #[.slice (some ⟨V.heap.size, (i + 1) * 3, none⟩) (n - i) (C - (i + 1)), .slice (some ⟨g, i * 3, none⟩) (n - i) (n - i)]).run Try.prog X1.drew = .ok (goInt ((n - i : Nat) : Int)) (X1.drew.setCells V.heap.size ((i + 1) * 3) (flat ItV.cells (xs.drop i))) := fun ty =>
    run_copy_items X1.drew ty V.heap.size ((i + 1) * 3) (n - i) (C - (i + 1)) ⟨g, i * 3, none⟩ (n - i) (n - i) (flat ItV.cells (xs.drop i)) (n - i) (by simp only [Nat.min_def]; split <;> omega) HDL.out
      (fun j v hj => by
        have hf : (flat ItV.cells xs)[i * 3 + j]? = some v := by rw [← List.getElem?_drop, flat_drop it_len]; exact hj
        have := old1.cells (g := g) rfl _ _ hf
        rw [adr_add] at this ⊢
        rw [Nat.zero_add] at this
        exact this)
      (fun j hj => by rw [HDL.out] at hj; exact (own_there own1d (by omega)).1) (fun j hj => by rw [HDL.out] at hj; exact (own_there own1d (by omega)).2) h1c
  have HFIN : Hid ((X1.drew.setCells V.heap.size ((i + 1) * 3) (flat ItV.cells (xs.drop i))).ownsRow B 59 3 (.slice (some ⟨V.heap.size, 0, none⟩) (n + 1) C) (n + 1) (flat ItV.cells (insAt xs i ⟨ik, iv, iw⟩)) ∧ V.grownBy (X1.drew.setCells V.heap.size ((i + 1) * 3) (flat ItV.cells (xs.drop i))) (some g)) := by
    have o2 := own_setCells (flat ItV.cells (xs.drop i)) ((i + 1) * 3) X1.drew _ own1d (by rw [HDL.out]; omega)
    rw [put_in2 ⟨ik, iv, iw⟩ ys hl (by omega) hyl hyt] at o2
    have g2 := grown_trans gr1 (grown_trans (grown_below hD1 (some V.heap.size)) (grown_setCells V.heap.size (flat ItV.cells (xs.drop i)) ((i + 1) * 3) X1.drew))
    refine ⟨o2, ⟨g2.os.trans bX.os, g2.tape.trans bX.tape, g2.output.trans bX.output, Nat.le_trans bX.size g2.size, fun k hk _ => (g2.block k (Nat.lt_of_lt_of_le hk bX.size) (by simp; omega)).trans (bX.block k hk)⟩⟩
  have hz2 : ¬ ((i : Int) = (n : Int)) := by omega
  have hw1 : IntKind.i64.wrap ((i : Int) + 1) = (i : Int) + 1 := by rw [IntKind.wrap_i64]; omega
  have hw2 : IntKind.i64.wrap ((n : Int) + 1) = (n : Int) + 1 := by rw [IntKind.wrap_i64]; omega
  have hw3 : IntKind.i64.wrap ((n : Int) + 1 - (i : Int)) = (n : Int) + 1 - (i : Int) := by rw [IntKind.wrap_i64]; omega
  have hin : i ≤ n := by omega
  have hiC : i ≤ C := by omega
  have hi1C : i + 1 ≤ C := by omega
  have hb1 : (i : Int) ≤ (n : Int) := by omega
  have hb2 : ¬ C = i + 1 := by omega
  have hb3 : ¬ C = i := by omega
  have hb4 : ¬ n = i := by omega
  have hb5 : (n : Int) < (n : Int) + 1 := by omega
  have hb6 : (i : Int) + 1 ≤ (n : Int) + 1 := by omega
  have hb7 : (i : Int) ≤ (n : Int) + 1 := by omega
  have hb8 : i + 1 ≤ n + 1 := by omega
  have hin1 : i ≤ n + 1 := by omega
  have hnC : n + 1 ≤ C := by omega
  have hp0 : (0 : Int) ≤ (i : Int) + 1 := by omega
  have htn : ((i : Int) + 1).toNat = i + 1 := by omega
  clear hV own1 gr1 bx bxX hVd own1d old1 hD1 hD h1c hyl hyt h hVw bV hg hne hgne ownX bX hfl hj0 lz ls lb zV eC hl zX
  go_enter Try.func54, Try.ntmps54
  go_upto_region 10 with (at_builtin; go_loud (refine Go.Lib.wpList_append_run _ (by rfl) _ _ _ _ (by rfl) _ _ (by rfl) (by rfl) _ _ (hap _) ?_))
  go_upto_region 11 with (at_builtin; refine cp_wp (by rfl) _ _ 22 22 (by rfl) _ _ (by rfl) (by rfl) (hcp1 _) ?_)
  go_region_law (refine cp_step (by rfl) (.tmp 50) (.tmp 53) 22 22 (by rfl) (.slice (some ⟨V.heap.size, (i + 1) * 3, none⟩) (n - i) (C - (i + 1))) (.slice (some ⟨g, i * 3, none⟩) (n - i) (n - i)) (by simp [Act.eval, Act.put]) (by simp [Act.eval, Act.put]) (hcp2 _) ?_)
  all_goals
    go_wp2
    go_ret
    exact ⟨some ⟨V.heap.size, 0, none⟩, C, rfl, HFIN.out.1, HFIN.out.2, .inr rfl⟩
/-- slices.Insert, one item, whatever room there is. -/
theorem insert_any (B : Nat) (a : Option Addr) (n cap i : Nat) (xs : List ItV) (x : ItV) (w V : World) (hVw : V = w.alloc (.cells #[.int .i64 x.key, .int .i64 x.value, .int .i64 x.version] 59)) (h : w.ownsRow B 59 3 (.slice a n cap) n (flat ItV.cells xs)) (hB : B ≤ w.heap.size) (hi : i ≤ n) (hn : n ≤ 100) :
    Calls Try.prog 54 #[.slice a n cap, .int .i64 (i : Int), .slice (some ⟨w.heap.size, 0, none⟩) 1 1] V fun e w' => ∃ a' c', e = .returned (.slice a' (n + 1) c') ∧ w'.ownsRow B 59 3 (.slice a' (n + 1) c') (n + 1) (flat ItV.cells (insAt xs i x)) ∧ V.grownBy w' (Value.slice a n cap).ownBlock ∧ ((Value.slice a' (n + 1) c').ownBlock = (Value.slice a n cap).ownBlock ∨ (Value.slice a' (n + 1) c').ownBlock = some V.heap.size) := by
  by_cases hin : i = n
  · subst hin
    exact insert_end B a i cap xs x w V hVw h hB hn
  · have hlt : i < n := by omega
    have hform := h.2
    rcases hform with ⟨hv, h0⟩ | ⟨g, cap', cur, hv, _, _, h1, _⟩
    · omega
    · simp at hv
      obtain ⟨rfl, rfl⟩ := hv
      by_cases hroom : n + 1 ≤ cap
      · exact (insert_room B g n cap i xs x w V hVw h hlt hroom).mono fun e w' ⟨q1, q2, q3⟩ => ⟨_, _, q1, q2, q3, .inl rfl⟩
      · obtain rfl : cap = n := by omega
        exact insert_grow B g cap i xs x w V hVw h hB hlt hn
end Go.Proofs.Ytbmbahifkegehaa.St
