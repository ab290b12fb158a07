/- Texts of this claim, one behind the other. -/
import Derived.Test.YtcfhhjnbkpgpeaaDoorM16RebuildOn
import Derived.Test.YtcfhhjnbkpgpeaaDoorM13RebuildOn
import Derived.Test.YtcfhhjnbkpgpeaaDoorM11RebuildOn
/- The contract of slices.Insert at items, whatever room there is. -/
namespace Go.Proofs.YtcfhhjnbkpgpeaaDoor.Co
open Go.ChangeShapes Go.WideShapes Go.ChangeAt Go.RowKit
open Go.Proofs.YtcfhhjnbkpgpeaaDoor.St
set_option linter.unusedVariables false

theorem put_inJ2 {xs : List JbV} {n i : Nat} (x : JbV) (ys : List Value) (hl : xs.length = n) (hi : i ≤ n) (hy : ys.length = (n + 1) * 6) (ht : ys.take (i * 6) = flat JbV.cells (xs.take i)) : setL (setL ys (i * 6) (JbV.cells x)) ((i + 1) * 6) (flat JbV.cells (xs.drop i)) = flat JbV.cells (xs.take i ++ x :: xs.drop i) := by
  have hd : (flat JbV.cells (xs.drop i)).length = (n - i) * 6 := by rw [flat_len jb_len]; simp [hl]
  have hx : (JbV.cells x).length = 6 := rfl
  have h0 : (setL ys (i * 6) (JbV.cells x)).length = (n + 1) * 6 := by rw [setL_len, hy]
  have hdn : (setL ys (i * 6) (JbV.cells x)).drop ((i + 1) * 6 + (flat JbV.cells (xs.drop i)).length) = [] := List.drop_eq_nil_of_le (by rw [hd, h0]; omega)
  have h1 : (ys.take (i * 6)).length = i * 6 := by rw [List.length_take, hy]; omega
  have e2 : (setL ys (i * 6) (JbV.cells x)).take ((i + 1) * 6) = flat JbV.cells (xs.take i) ++ JbV.cells x := by
    rw [setL_eq _ _ _ (by rw [hx, hy]; omega), ht]
    rw [ht] at h1
    rw [List.take_append_of_le_length (by rw [List.length_append, h1, hx]; omega), List.take_of_length_le (by rw [List.length_append, h1, hx]; omega)]
  rw [setL_eq _ _ _ (by rw [hd, h0]; omega), hdn, e2, List.append_nil, flat_append]
  have : flat JbV.cells (x :: xs.drop i) = JbV.cells x ++ flat JbV.cells (xs.drop i) := by simp [flat]
  rw [this, List.append_assoc]

set_option maxRecDepth 100000 in
set_option maxHeartbeats 4000000 in
/-- Behind all. -/
theorem insertJ_end (B : Nat) (a : Option Addr) (n cap : Nat) (xs : List JbV) (x : JbV) (w V : World) (hVw : V = w.alloc (.cells #[.int .i64 x.n, .int .i64 x.state, .slice x.ta x.tl x.tc, .slice x.aa x.al x.ac, .int .i64 x.asks, .int .i64 x.age] 61)) (h : w.ownsRow B 61 6 (.slice a n cap) n (flat JbV.cells xs)) (hB : B ≤ w.heap.size) (hn : n ≤ 100) :
    Calls Tryd.prog 77 #[.slice a n cap, .int .i64 (n : Int), .slice (some ⟨w.heap.size, 0, none⟩) 1 1] V fun e w' => ∃ a' c', e = .returned (.slice a' (n + 1) c') ∧ w'.ownsRow B 61 6 (.slice a' (n + 1) c') (n + 1) (flat JbV.cells (insJ xs n x)) ∧ V.grownBy w' (Value.slice a n cap).ownBlock ∧ ((Value.slice a' (n + 1) c').ownBlock = (Value.slice a n cap).ownBlock ∨ (Value.slice a' (n + 1) c').ownBlock = some V.heap.size) := by
  obtain ⟨i1, E1⟩ := jbElem
  have hl := own_len jb_len (by decide) h
  have HI : Hid (insJ xs n x = xs ++ [x]) := by
    show _ = _
    unfold insJ
    rw [List.take_of_length_le (by omega), List.drop_eq_nil_of_le (by omega)]
  obtain ⟨jn, st, ta, tl, tc, aa, al, ac, asks, age, tasks, asked⟩ := x
  simp only [] at hVw
  have bV : Below w.heap.size w V := by rw [hVw]; exact (Below.refl _ _).alloc (Nat.le_refl _) _
  have hV := own_below h bV
  have hv1 : IsRow 6 JbV.cells V (some ⟨w.heap.size, 0, none⟩) 1 1 [(⟨jn, st, ta, tl, tc, aa, al, ac, asks, age, tasks, asked⟩ : JbV)] := by rw [hVw]; exact isOne w #[.int .i64 jn, .int .i64 st, .slice ta tl tc, .slice aa al ac, .int .i64 asks, .int .i64 age] 61 (⟨jn, st, ta, tl, tc, aa, al, ac, asks, age, tasks, asked⟩ : JbV) rfl rfl
  obtain ⟨_, _, e0, hnc, hcm, hnil⟩ := own_form h
  simp at e0
  obtain ⟨rfl, rfl⟩ := e0
  unfold maxLen at hcm
  have hBV : B ≤ V.heap.size := Nat.le_trans hB bV.size
  clear h hVw bV
  by_cases hcn : cap = n
  · subst hcn
    cases a with
    | none =>
      obtain rfl : cap = 0 := hnil rfl
      go_enter Tryd.func77, Tryd.ntmps77
      go_wp2_with (at_builtin; go_loud (refine wpList_append_row E1 (by rfl) _ _ (by rfl) B (.slice none 0 0) 0 xs (by rfl) hV _ 1 1 [⟨jn, st, ta, tl, tc, aa, al, ac, asks, age, tasks, asked⟩] (by rfl) hv1 (by unfold maxLen; omega) (by omega) hBV ?_; intro a5 c5 w5 own5 gr5 at5))
      go_ret
      exact ⟨a5, c5, rfl, by rw [HI.out]; exact own5, gr5, at5⟩
    | some ad =>
      obtain ⟨ab, ao, asp⟩ := ad
      go_enter Tryd.func77, Tryd.ntmps77
      go_wp2_with (at_builtin; go_loud (refine wpList_append_row E1 (by rfl) _ _ (by rfl) B (.slice (some ⟨ab, ao, asp⟩) cap cap) cap xs (by rfl) hV _ 1 1 [⟨jn, st, ta, tl, tc, aa, al, ac, asks, age, tasks, asked⟩] (by rfl) hv1 (by unfold maxLen; omega) (by omega) hBV ?_; intro a5 c5 w5 own5 gr5 at5))
      go_ret
      exact ⟨a5, c5, rfl, by rw [HI.out]; exact own5, gr5, at5⟩
  · cases a with
    | none => exact absurd (hnil rfl) (by omega)
    | some ad =>
      obtain ⟨ab, ao, asp⟩ := ad
      go_enter Tryd.func77, Tryd.ntmps77
      go_wp2_with (at_builtin; go_loud (refine wpList_append_row E1 (by rfl) _ _ (by rfl) B (.slice (some ⟨ab, ao, asp⟩) n cap) n xs (by rfl) hV _ 1 1 [⟨jn, st, ta, tl, tc, aa, al, ac, asks, age, tasks, asked⟩] (by rfl) hv1 (by unfold maxLen; omega) (by omega) hBV ?_; intro a5 c5 w5 own5 gr5 at5))
      go_ret
      exact ⟨a5, c5, rfl, by rw [HI.out]; exact own5, gr5, at5⟩

set_option maxRecDepth 100000 in
set_option maxHeartbeats 4000000 in
/-- There is no room, and it goes ahead of another one. -/
theorem insertJ_grow (B g n i : Nat) (xs : List JbV) (x : JbV) (w V : World) (hVw : V = w.alloc (.cells #[.int .i64 x.n, .int .i64 x.state, .slice x.ta x.tl x.tc, .slice x.aa x.al x.ac, .int .i64 x.asks, .int .i64 x.age] 61)) (h : w.ownsRow B 61 6 (.slice (some ⟨g, 0, none⟩) n n) n (flat JbV.cells xs)) (hB : B ≤ w.heap.size) (hi : i < n) (hn : n ≤ 100) :
    Calls Tryd.prog 77 #[.slice (some ⟨g, 0, none⟩) n n, .int .i64 (i : Int), .slice (some ⟨w.heap.size, 0, none⟩) 1 1] V fun e w' => ∃ a' c', e = .returned (.slice a' (n + 1) c') ∧ w'.ownsRow B 61 6 (.slice a' (n + 1) c') (n + 1) (flat JbV.cells (insJ xs i x)) ∧ V.grownBy w' (some g) ∧ ((Value.slice a' (n + 1) c').ownBlock = some g ∨ (Value.slice a' (n + 1) c').ownBlock = some V.heap.size) := by
  have hl := own_len jb_len (by decide) h
  obtain ⟨jn, st, ta, tl, tc, aa, al, ac, asks, age, tasks, asked⟩ := x
  simp only [] at hVw
  have hg := h.lt g rfl
  have bV : Below w.heap.size w V := by rw [hVw]; exact (Below.refl _ _).alloc (Nat.le_refl _) _
  have zV : V.heap.size = w.heap.size + 1 := by rw [hVw]; simp
  have hV := own_below h bV
  have bx := boxn_new w #[.int .i64 jn, .int .i64 st, .slice ta tl tc, .slice aa al ac, .int .i64 asks, .int .i64 age] 61 6 rfl
  rw [← hVw] at bx
  obtain ⟨j0, hj0, lz, ls, lb⟩ := info_parts jbInfo
  have hD : Below V.heap.size V V.drew := (Below.refl _ _).drew
  have hVd := own_below hV hD
  obtain ⟨C, eC⟩ : ∃ C, C = grownCap V (n + 1) n 61 := ⟨_, rfl⟩
  have hC1 : n + 1 ≤ C := by rw [eC]; exact grownCap_ge V (n + 1) n 61
  have hC2 : C ≤ maxLen := by rw [eC]; exact grownCap_le_maxLen V (n + 1) n 61 (by unfold maxLen; omega)
  obtain ⟨arr, earr⟩ : ∃ arr : Array Value, arr = (flat JbV.cells (xs.take i)).toArray ++ Builtin.zeroCells (Value.cells (.agg #[.int .i64 0, .int .i64 0, .slice none 0 0, .slice none 0 0, .int .i64 0, .int .i64 0])) (n + 1 - i) ++ Builtin.zeroCells (Value.cells (.agg #[.int .i64 0, .int .i64 0, .slice none 0 0, .slice none 0 0, .int .i64 0, .int .i64 0])) (C - (n + 1)) := ⟨_, rfl⟩
  have hfl : (flat JbV.cells (xs.take i)).length = i * 6 := by rw [flat_len jb_len, List.length_take, hl]; omega
  have has : arr.size = C * 6 := by
    rw [earr]
    simp only [Array.size_append, List.size_toArray, size_zeroCells, hfl]
    show i * 6 + (n + 1 - i) * 6 + (C - (n + 1)) * 6 = C * 6
    omega
  have hap : ∀ ty, (Builtin.append_ #[39, 3] ty #[.slice (some ⟨g, 0, none⟩) i n, .int .i64 ((n : Int) + 1 - (i : Int))]).run Tryd.prog V = .ok (.slice (some ⟨V.heap.size, 0, none⟩) (n + 1) C) (V.drew.alloc (.cells arr 61)) := fun ty => by
    have hr := Go.Lib.run_append_grow_zeros (P := Tryd.prog) V 39 3 ty 61 j0 (.agg #[.int .i64 0, .int .i64 0, .slice none 0 0, .slice none 0 0, .int .i64 0, .int .i64 0]) .i64 .i64 Tryd.underlying39 Tryd.underlying3 hj0 lz (some ⟨g, 0, none⟩) i n (flat JbV.cells (xs.take i))
      (by
        rw [ls]
        refine run_firstCells_some V.drew 6 i ⟨g, 0, none⟩ i n _ hfl (fun j v hj => ?_)
        have hjl : j < i * 6 := by rw [← hfl]; exact (List.getElem?_eq_some_iff.1 hj).1
        have hf : (flat JbV.cells xs)[j]? = some v := by
          rw [← flat_take jb_len, List.getElem?_take_of_lt hjl] at hj
          exact hj
        exact hVd.cells (g := g) rfl _ _ hf)
      (n + 1 - i) (by omega) (by rw [ls]; decide) (by omega) (by omega) (by rw [lb]; omega) (by rw [lb]; exact growslice_fits (by omega) (by omega))
    have e1 : i + (n + 1 - i) = n + 1 := by omega
    have e2 : ((n + 1 - i : Nat) : Int) = (n : Int) + 1 - (i : Int) := by omega
    rw [e1, e2, ← eC, ← earr] at hr
    exact hr
  obtain ⟨X, hX⟩ : ∃ X : World, X = V.drew.alloc (.cells arr 61) := ⟨_, rfl⟩
  have bX : Below V.heap.size V X := by rw [hX]; exact hD.alloc hD.size _
  have hXb : X.heap[V.heap.size]? = some (.cells arr 61 (0, 0)) := by rw [hX]; exact heap_alloc_new V.drew _
  have zX : V.heap.size < X.heap.size := by rw [hX]; simp
  have ownX : X.ownsRow B 61 6 (.slice (some ⟨V.heap.size, 0, none⟩) (n + 1) C) (n + 1) (arr.toList.take ((n + 1) * 6)) :=
    ⟨by rw [List.length_take, Array.length_toList, has]; omega, .inr ⟨V.heap.size, C, arr, rfl, by omega, hXb, hC1, hC2, has, rfl⟩⟩
  have hyl : (arr.toList.take ((n + 1) * 6)).length = (n + 1) * 6 := by rw [List.length_take, Array.length_toList, has]; omega
  have hyt : (arr.toList.take ((n + 1) * 6)).take (i * 6) = flat JbV.cells (xs.take i) := by
    rw [List.take_take, Nat.min_eq_left (by omega), earr]
    simp only [Array.toList_append, List.append_assoc]
    rw [List.take_append_of_le_length (by rw [hfl]; exact Nat.le_refl _), List.take_of_length_le (by rw [hfl]; exact Nat.le_refl _)]
  obtain ⟨ys, eys⟩ : ∃ ys, ys = arr.toList.take ((n + 1) * 6) := ⟨_, rfl⟩
  rw [← eys] at ownX hyl hyt
  rw [← hX] at hap
  clear eys hX earr has hXb
  have hne : w.heap.size ≠ V.heap.size := by omega
  have hgne : g ≠ V.heap.size := by omega
  have bxX := bx.below bX bx.lt
  have hcp1 : ∀ ty, (Builtin.copy_ #[39, 39] ty #[.slice (some ⟨V.heap.size, i * 6, none⟩) (n + 1 - i) (C - i), .slice (some ⟨w.heap.size, 0, none⟩) 1 1]).run Tryd.prog X = .ok (goInt 1) (X.setCells V.heap.size (i * 6) [.int .i64 jn, .int .i64 st, .slice ta tl tc, .slice aa al ac, .int .i64 asks, .int .i64 age]) := fun ty =>
    run_copy_jobs X ty V.heap.size (i * 6) (n + 1 - i) (C - i) ⟨w.heap.size, 0, none⟩ 1 1 [.int .i64 jn, .int .i64 st, .slice ta tl tc, .slice aa al ac, .int .i64 asks, .int .i64 age] 1 (by simp only [Nat.min_def]; split <;> omega) rfl
      (fun j v hj => by
        rw [adr_add, Nat.zero_add]
        have hj3 : j < 6 := (List.getElem?_eq_some_iff.1 hj).1
        rw [(bxX.c j hj3).1]
        have : j = 0 ∨ j = 1 ∨ j = 2 ∨ j = 3 ∨ j = 4 ∨ j = 5 := by omega
        rcases this with rfl | rfl | rfl | rfl | rfl | rfl <;> exact hj)
      (fun j hj => (own_there ownX (by simp at hj; omega)).1) (fun j hj => (own_there ownX (by simp at hj; omega)).2) (fun v hv => by simp at hv; rcases hv with e | e | e | e | e | e <;> subst e <;> rfl)
  obtain ⟨X1, hX1⟩ : ∃ X1, X1 = X.setCells V.heap.size (i * 6) [.int .i64 jn, .int .i64 st, .slice ta tl tc, .slice aa al ac, .int .i64 asks, .int .i64 age] := ⟨_, rfl⟩
  have own1 : X1.ownsRow B 61 6 (.slice (some ⟨V.heap.size, 0, none⟩) (n + 1) C) (n + 1) (setL ys (i * 6) (JbV.cells ⟨jn, st, ta, tl, tc, aa, al, ac, asks, age, tasks, asked⟩)) := by
    rw [hX1]
    exact own_setCells (JbV.cells ⟨jn, st, ta, tl, tc, aa, al, ac, asks, age, tasks, asked⟩) (i * 6) X _ ownX (by rw [jb_len]; omega)
  have gr1 : X.grownBy X1 (some V.heap.size) := by rw [hX1]; exact grown_setCells V.heap.size _ _ _
  rw [← hX1] at hcp1
  clear hX1
  have hD1 : Below X1.heap.size X1 X1.drew := (Below.refl _ _).drew
  have own1d := own_below own1 hD1
  have old1 := own_below ((own_below hV bX).kept gr1 (.inr (by simpa [Value.ownBlock] using hgne))) hD1
  have HDL : Hid ((flat JbV.cells (xs.drop i)).length = (n - i) * 6) := by show _ = _; rw [flat_len jb_len]; simp [hl]
  have h1c : ∀ v ∈ flat JbV.cells (xs.drop i), v.oneCell' = true := flat_one' (k := 6) jb_one _
  have hcp2 : ∀ ty, (Builtin.copy_ #[39, 39] ty #[.slice (some ⟨V.heap.size, (i + 1) * 6, none⟩) (n - i) (C - (i + 1)), .slice (some ⟨g, i * 6, none⟩) (n - i) (n - i)]).run Tryd.prog X1.drew = .ok (goInt ((n - i : Nat) : Int)) (X1.drew.setCells V.heap.size ((i + 1) * 6) (flat JbV.cells (xs.drop i))) := fun ty =>
    run_copy_jobs X1.drew ty V.heap.size ((i + 1) * 6) (n - i) (C - (i + 1)) ⟨g, i * 6, none⟩ (n - i) (n - i) (flat JbV.cells (xs.drop i)) (n - i) (by simp only [Nat.min_def]; split <;> omega) HDL.out
      (fun j v hj => by
        have hf : (flat JbV.cells xs)[i * 6 + j]? = some v := by rw [← List.getElem?_drop, flat_drop jb_len]; exact hj
        have := old1.cells (g := g) rfl _ _ hf
        rw [adr_add] at this ⊢
        rw [Nat.zero_add] at this
        exact this)
      (fun j hj => by rw [HDL.out] at hj; exact (own_there own1d (by omega)).1) (fun j hj => by rw [HDL.out] at hj; exact (own_there own1d (by omega)).2) h1c
  have HFIN : Hid ((X1.drew.setCells V.heap.size ((i + 1) * 6) (flat JbV.cells (xs.drop i))).ownsRow B 61 6 (.slice (some ⟨V.heap.size, 0, none⟩) (n + 1) C) (n + 1) (flat JbV.cells (insJ xs i ⟨jn, st, ta, tl, tc, aa, al, ac, asks, age, tasks, asked⟩)) ∧ V.grownBy (X1.drew.setCells V.heap.size ((i + 1) * 6) (flat JbV.cells (xs.drop i))) (some g)) := by
    have o2 := own_setCells (flat JbV.cells (xs.drop i)) ((i + 1) * 6) X1.drew _ own1d (by rw [HDL.out]; omega)
    rw [put_inJ2 ⟨jn, st, ta, tl, tc, aa, al, ac, asks, age, tasks, asked⟩ ys hl (by omega) hyl hyt] at o2
    have g2 := grown_trans gr1 (grown_trans (grown_below hD1 (some V.heap.size)) (grown_setCells V.heap.size (flat JbV.cells (xs.drop i)) ((i + 1) * 6) X1.drew))
    refine ⟨o2, ⟨g2.os.trans bX.os, g2.tape.trans bX.tape, g2.output.trans bX.output, Nat.le_trans bX.size g2.size, fun k hk _ => (g2.block k (Nat.lt_of_lt_of_le hk bX.size) (by simp; omega)).trans (bX.block k hk)⟩⟩
  have hz2 : ¬ ((i : Int) = (n : Int)) := by omega
  have hw1 : IntKind.i64.wrap ((i : Int) + 1) = (i : Int) + 1 := by rw [IntKind.wrap_i64]; omega
  have hw2 : IntKind.i64.wrap ((n : Int) + 1) = (n : Int) + 1 := by rw [IntKind.wrap_i64]; omega
  have hw3 : IntKind.i64.wrap ((n : Int) + 1 - (i : Int)) = (n : Int) + 1 - (i : Int) := by rw [IntKind.wrap_i64]; omega
  have hin : i ≤ n := by omega
  have hiC : i ≤ C := by omega
  have hi1C : i + 1 ≤ C := by omega
  have hb1 : (i : Int) ≤ (n : Int) := by omega
  have hb2 : ¬ C = i + 1 := by omega
  have hb3 : ¬ C = i := by omega
  have hb4 : ¬ n = i := by omega
  have hb5 : (n : Int) < (n : Int) + 1 := by omega
  have hb6 : (i : Int) + 1 ≤ (n : Int) + 1 := by omega
  have hb7 : (i : Int) ≤ (n : Int) + 1 := by omega
  have hb8 : i + 1 ≤ n + 1 := by omega
  have hin1 : i ≤ n + 1 := by omega
  have hnC : n + 1 ≤ C := by omega
  have hp0 : (0 : Int) ≤ (i : Int) + 1 := by omega
  have htn : ((i : Int) + 1).toNat = i + 1 := by omega
  clear hV own1 gr1 bx bxX hVd own1d old1 hD1 hD h1c hyl hyt h hVw bV hg hne hgne ownX bX hfl hj0 lz ls lb zV eC hl zX
  go_enter Tryd.func77, Tryd.ntmps77
  go_upto_region 10 with (at_builtin; go_loud (refine Go.Lib.wpList_append_run _ (by rfl) _ _ _ _ (by rfl) _ _ (by rfl) (by rfl) _ _ (hap _) ?_))
  go_upto_region 11 with (at_builtin; refine cp_wp (by rfl) _ _ 39 39 (by rfl) _ _ (by rfl) (by rfl) (hcp1 _) ?_)
  go_region_law (refine cp_step (by rfl) (.tmp 50) (.tmp 53) 39 39 (by rfl) (.slice (some ⟨V.heap.size, (i + 1) * 6, none⟩) (n - i) (C - (i + 1))) (.slice (some ⟨g, i * 6, none⟩) (n - i) (n - i)) (by simp [Act.eval, Act.put]) (by simp [Act.eval, Act.put]) (hcp2 _) ?_)
  all_goals
    go_wp2
    go_ret
    exact ⟨some ⟨V.heap.size, 0, none⟩, C, rfl, HFIN.out.1, HFIN.out.2, .inr rfl⟩
/-- slices.Insert, one item, whatever room there is. -/
theorem insertJ_any (B : Nat) (a : Option Addr) (n cap i : Nat) (xs : List JbV) (x : JbV) (w V : World) (hVw : V = w.alloc (.cells #[.int .i64 x.n, .int .i64 x.state, .slice x.ta x.tl x.tc, .slice x.aa x.al x.ac, .int .i64 x.asks, .int .i64 x.age] 61)) (h : w.ownsRow B 61 6 (.slice a n cap) n (flat JbV.cells xs)) (hB : B ≤ w.heap.size) (hi : i ≤ n) (hn : n ≤ 100) :
    Calls Tryd.prog 77 #[.slice a n cap, .int .i64 (i : Int), .slice (some ⟨w.heap.size, 0, none⟩) 1 1] V fun e w' => ∃ a' c', e = .returned (.slice a' (n + 1) c') ∧ w'.ownsRow B 61 6 (.slice a' (n + 1) c') (n + 1) (flat JbV.cells (insJ xs i x)) ∧ V.grownBy w' (Value.slice a n cap).ownBlock ∧ ((Value.slice a' (n + 1) c').ownBlock = (Value.slice a n cap).ownBlock ∨ (Value.slice a' (n + 1) c').ownBlock = some V.heap.size) := by
  by_cases hin : i = n
  · subst hin
    exact insertJ_end B a i cap xs x w V hVw h hB hn
  · have hlt : i < n := by omega
    have hform := h.2
    rcases hform with ⟨hv, h0⟩ | ⟨g, cap', cur, hv, _, _, h1, _⟩
    · omega
    · simp at hv
      obtain ⟨rfl, rfl⟩ := hv
      by_cases hroom : n + 1 ≤ cap
      · exact (insertJ_room B g n cap i xs x w V hVw h hlt hroom).mono fun e w' ⟨q1, q2, q3⟩ => ⟨_, _, q1, q2, q3, .inl rfl⟩
      · obtain rfl : cap = n := by omega
        exact insertJ_grow B g cap i xs x w V hVw h hB hlt hn
end Go.Proofs.YtcfhhjnbkpgpeaaDoor.Co
/- The contract of slices.Insert at items, whatever room there is. -/
namespace Go.Proofs.YtcfhhjnbkpgpeaaDoor.St
open Go.ChangeShapes Go.WideShapes Go.ChangeAt Go.RowKit
set_option linter.unusedVariables false

theorem put_in2 {xs : List ItV} {n i : Nat} (x : ItV) (ys : List Value) (hl : xs.length = n) (hi : i ≤ n) (hy : ys.length = (n + 1) * 3) (ht : ys.take (i * 3) = flat ItV.cells (xs.take i)) : setL (setL ys (i * 3) (ItV.cells x)) ((i + 1) * 3) (flat ItV.cells (xs.drop i)) = flat ItV.cells (xs.take i ++ x :: xs.drop i) := by
  have hd : (flat ItV.cells (xs.drop i)).length = (n - i) * 3 := by rw [flat_len it_len]; simp [hl]
  have hx : (ItV.cells x).length = 3 := rfl
  have h0 : (setL ys (i * 3) (ItV.cells x)).length = (n + 1) * 3 := by rw [setL_len, hy]
  have hdn : (setL ys (i * 3) (ItV.cells x)).drop ((i + 1) * 3 + (flat ItV.cells (xs.drop i)).length) = [] := List.drop_eq_nil_of_le (by rw [hd, h0]; omega)
  have h1 : (ys.take (i * 3)).length = i * 3 := by rw [List.length_take, hy]; omega
  have e2 : (setL ys (i * 3) (ItV.cells x)).take ((i + 1) * 3) = flat ItV.cells (xs.take i) ++ ItV.cells x := by
    rw [setL_eq _ _ _ (by rw [hx, hy]; omega), ht]
    rw [ht] at h1
    rw [List.take_append_of_le_length (by rw [List.length_append, h1, hx]; omega), List.take_of_length_le (by rw [List.length_append, h1, hx]; omega)]
  rw [setL_eq _ _ _ (by rw [hd, h0]; omega), hdn, e2, List.append_nil, flat_append]
  have : flat ItV.cells (x :: xs.drop i) = ItV.cells x ++ flat ItV.cells (xs.drop i) := by simp [flat]
  rw [this, List.append_assoc]

set_option maxRecDepth 100000 in
set_option maxHeartbeats 4000000 in
/-- Behind all. -/
theorem insert_end (B : Nat) (a : Option Addr) (n cap : Nat) (xs : List ItV) (x : ItV) (w V : World) (hVw : V = w.alloc (.cells #[.int .i64 x.key, .int .i64 x.value, .int .i64 x.version] 93)) (h : w.ownsRow B 93 3 (.slice a n cap) n (flat ItV.cells xs)) (hB : B ≤ w.heap.size) (hn : n ≤ 100) :
    Calls Tryd.prog 53 #[.slice a n cap, .int .i64 (n : Int), .slice (some ⟨w.heap.size, 0, none⟩) 1 1] V fun e w' => ∃ a' c', e = .returned (.slice a' (n + 1) c') ∧ w'.ownsRow B 93 3 (.slice a' (n + 1) c') (n + 1) (flat ItV.cells (insAt xs n x)) ∧ V.grownBy w' (Value.slice a n cap).ownBlock ∧ ((Value.slice a' (n + 1) c').ownBlock = (Value.slice a n cap).ownBlock ∨ (Value.slice a' (n + 1) c').ownBlock = some V.heap.size) := by
  obtain ⟨i1, E1⟩ := itElem
  have hl := own_len it_len (by decide) h
  have HI : Hid (insAt xs n x = xs ++ [x]) := by
    show _ = _
    unfold insAt
    rw [List.take_of_length_le (by omega), List.drop_eq_nil_of_le (by omega)]
  obtain ⟨ik, iv, iw⟩ := x
  simp only [] at hVw
  have bV : Below w.heap.size w V := by rw [hVw]; exact (Below.refl _ _).alloc (Nat.le_refl _) _
  have hV := own_below h bV
  have hv1 : IsRow 3 ItV.cells V (some ⟨w.heap.size, 0, none⟩) 1 1 [(⟨ik, iv, iw⟩ : ItV)] := by rw [hVw]; exact isOne w #[.int .i64 ik, .int .i64 iv, .int .i64 iw] 93 (⟨ik, iv, iw⟩ : ItV) rfl rfl
  obtain ⟨_, _, e0, hnc, hcm, hnil⟩ := own_form h
  simp at e0
  obtain ⟨rfl, rfl⟩ := e0
  unfold maxLen at hcm
  have hBV : B ≤ V.heap.size := Nat.le_trans hB bV.size
  clear h hVw bV
  by_cases hcn : cap = n
  · subst hcn
    cases a with
    | none =>
      obtain rfl : cap = 0 := hnil rfl
      go_enter Tryd.func53, Tryd.ntmps53
      go_wp2_with (at_builtin; go_loud (refine wpList_append_row E1 (by rfl) _ _ (by rfl) B (.slice none 0 0) 0 xs (by rfl) hV _ 1 1 [⟨ik, iv, iw⟩] (by rfl) hv1 (by unfold maxLen; omega) (by omega) hBV ?_; intro a5 c5 w5 own5 gr5 at5))
      go_ret
      exact ⟨a5, c5, rfl, by rw [HI.out]; exact own5, gr5, at5⟩
    | some ad =>
      obtain ⟨ab, ao, asp⟩ := ad
      go_enter Tryd.func53, Tryd.ntmps53
      go_wp2_with (at_builtin; go_loud (refine wpList_append_row E1 (by rfl) _ _ (by rfl) B (.slice (some ⟨ab, ao, asp⟩) cap cap) cap xs (by rfl) hV _ 1 1 [⟨ik, iv, iw⟩] (by rfl) hv1 (by unfold maxLen; omega) (by omega) hBV ?_; intro a5 c5 w5 own5 gr5 at5))
      go_ret
      exact ⟨a5, c5, rfl, by rw [HI.out]; exact own5, gr5, at5⟩
  · cases a with
    | none => exact absurd (hnil rfl) (by omega)
    | some ad =>
      obtain ⟨ab, ao, asp⟩ := ad
      go_enter Tryd.func53, Tryd.ntmps53
      go_wp2_with (at_builtin; go_loud (refine wpList_append_row E1 (by rfl) _ _ (by rfl) B (.slice (some ⟨ab, ao, asp⟩) n cap) n xs (by rfl) hV _ 1 1 [⟨ik, iv, iw⟩] (by rfl) hv1 (by unfold maxLen; omega) (by omega) hBV ?_; intro a5 c5 w5 own5 gr5 at5))
      go_ret
      exact ⟨a5, c5, rfl, by rw [HI.out]; exact own5, gr5, at5⟩

set_option maxRecDepth 100000 in
set_option maxHeartbeats 4000000 in
/-- There is no room, and it goes ahead of another one. -/
theorem insert_grow (B g n i : Nat) (xs : List ItV) (x : ItV) (w V : World) (hVw : V = w.alloc (.cells #[.int .i64 x.key, .int .i64 x.value, .int .i64 x.version] 93)) (h : w.ownsRow B 93 3 (.slice (some ⟨g, 0, none⟩) n n) n (flat ItV.cells xs)) (hB : B ≤ w.heap.size) (hi : i < n) (hn : n ≤ 100) :
    Calls Tryd.prog 53 #[.slice (some ⟨g, 0, none⟩) n n, .int .i64 (i : Int), .slice (some ⟨w.heap.size, 0, none⟩) 1 1] V fun e w' => ∃ a' c', e = .returned (.slice a' (n + 1) c') ∧ w'.ownsRow B 93 3 (.slice a' (n + 1) c') (n + 1) (flat ItV.cells (insAt xs i x)) ∧ V.grownBy w' (some g) ∧ ((Value.slice a' (n + 1) c').ownBlock = some g ∨ (Value.slice a' (n + 1) c').ownBlock = some V.heap.size) := by
  have hl := own_len it_len (by decide) h
  obtain ⟨ik, iv, iw⟩ := x
  simp only [] at hVw
  have hg := h.lt g rfl
  have bV : Below w.heap.size w V := by rw [hVw]; exact (Below.refl _ _).alloc (Nat.le_refl _) _
  have zV : V.heap.size = w.heap.size + 1 := by rw [hVw]; simp
  have hV := own_below h bV
  have bx := boxn_new w #[.int .i64 ik, .int .i64 iv, .int .i64 iw] 93 3 rfl
  rw [← hVw] at bx
  obtain ⟨j0, hj0, lz, ls, lb⟩ := info_parts itInfo
  have hD : Below V.heap.size V V.drew := (Below.refl _ _).drew
  have hVd := own_below hV hD
  obtain ⟨C, eC⟩ : ∃ C, C = grownCap V (n + 1) n 93 := ⟨_, rfl⟩
  have hC1 : n + 1 ≤ C := by rw [eC]; exact grownCap_ge V (n + 1) n 93
  have hC2 : C ≤ maxLen := by rw [eC]; exact grownCap_le_maxLen V (n + 1) n 93 (by unfold maxLen; omega)
  obtain ⟨arr, earr⟩ : ∃ arr : Array Value, arr = (flat ItV.cells (xs.take i)).toArray ++ Builtin.zeroCells (Value.cells (.agg #[.int .i64 0, .int .i64 0, .int .i64 0])) (n + 1 - i) ++ Builtin.zeroCells (Value.cells (.agg #[.int .i64 0, .int .i64 0, .int .i64 0])) (C - (n + 1)) := ⟨_, rfl⟩
  have hfl : (flat ItV.cells (xs.take i)).length = i * 3 := by rw [flat_len it_len, List.length_take, hl]; omega
  have has : arr.size = C * 3 := by
    rw [earr]
    simp only [Array.size_append, List.size_toArray, size_zeroCells, hfl]
    show i * 3 + (n + 1 - i) * 3 + (C - (n + 1)) * 3 = C * 3
    omega
  have hap : ∀ ty, (Builtin.append_ #[33, 3] ty #[.slice (some ⟨g, 0, none⟩) i n, .int .i64 ((n : Int) + 1 - (i : Int))]).run Tryd.prog V = .ok (.slice (some ⟨V.heap.size, 0, none⟩) (n + 1) C) (V.drew.alloc (.cells arr 93)) := fun ty => by
    have hr := Go.Lib.run_append_grow_zeros (P := Tryd.prog) V 33 3 ty 93 j0 (.agg #[.int .i64 0, .int .i64 0, .int .i64 0]) .i64 .i64 Tryd.underlying33 Tryd.underlying3 hj0 lz (some ⟨g, 0, none⟩) i n (flat ItV.cells (xs.take i))
      (by
        rw [ls]
        refine run_firstCells_some V.drew 3 i ⟨g, 0, none⟩ i n _ hfl (fun j v hj => ?_)
        have hjl : j < i * 3 := by rw [← hfl]; exact (List.getElem?_eq_some_iff.1 hj).1
        have hf : (flat ItV.cells xs)[j]? = some v := by
          rw [← flat_take it_len, List.getElem?_take_of_lt hjl] at hj
          exact hj
        exact hVd.cells (g := g) rfl _ _ hf)
      (n + 1 - i) (by omega) (by rw [ls]; decide) (by omega) (by omega) (by rw [lb]; omega) (by rw [lb]; exact growslice_fits (by omega) (by omega))
    have e1 : i + (n + 1 - i) = n + 1 := by omega
    have e2 : ((n + 1 - i : Nat) : Int) = (n : Int) + 1 - (i : Int) := by omega
    rw [e1, e2, ← eC, ← earr] at hr
    exact hr
  obtain ⟨X, hX⟩ : ∃ X : World, X = V.drew.alloc (.cells arr 93) := ⟨_, rfl⟩
  have bX : Below V.heap.size V X := by rw [hX]; exact hD.alloc hD.size _
  have hXb : X.heap[V.heap.size]? = some (.cells arr 93 (0, 0)) := by rw [hX]; exact heap_alloc_new V.drew _
  have zX : V.heap.size < X.heap.size := by rw [hX]; simp
  have ownX : X.ownsRow B 93 3 (.slice (some ⟨V.heap.size, 0, none⟩) (n + 1) C) (n + 1) (arr.toList.take ((n + 1) * 3)) :=
    ⟨by rw [List.length_take, Array.length_toList, has]; omega, .inr ⟨V.heap.size, C, arr, rfl, by omega, hXb, hC1, hC2, has, rfl⟩⟩
  have hyl : (arr.toList.take ((n + 1) * 3)).length = (n + 1) * 3 := by rw [List.length_take, Array.length_toList, has]; omega
  have hyt : (arr.toList.take ((n + 1) * 3)).take (i * 3) = flat ItV.cells (xs.take i) := by
    rw [List.take_take, Nat.min_eq_left (by omega), earr]
    simp only [Array.toList_append, List.append_assoc]
    rw [List.take_append_of_le_length (by rw [hfl]; exact Nat.le_refl _), List.take_of_length_le (by rw [hfl]; exact Nat.le_refl _)]
  obtain ⟨ys, eys⟩ : ∃ ys, ys = arr.toList.take ((n + 1) * 3) := ⟨_, rfl⟩
  rw [← eys] at ownX hyl hyt
  rw [← hX] at hap
  clear eys hX earr has hXb
  have hne : w.heap.size ≠ V.heap.size := by omega
  have hgne : g ≠ V.heap.size := by omega
  have bxX := bx.below bX bx.lt
  have hcp1 : ∀ ty, (Builtin.copy_ #[33, 33] ty #[.slice (some ⟨V.heap.size, i * 3, none⟩) (n + 1 - i) (C - i), .slice (some ⟨w.heap.size, 0, none⟩) 1 1]).run Tryd.prog X = .ok (goInt 1) (X.setCells V.heap.size (i * 3) [.int .i64 ik, .int .i64 iv, .int .i64 iw]) := fun ty =>
    run_copy_items X ty V.heap.size (i * 3) (n + 1 - i) (C - i) ⟨w.heap.size, 0, none⟩ 1 1 [.int .i64 ik, .int .i64 iv, .int .i64 iw] 1 (by simp only [Nat.min_def]; split <;> omega) rfl
      (fun j v hj => by
        rw [adr_add, Nat.zero_add]
        have hj3 : j < 3 := (List.getElem?_eq_some_iff.1 hj).1
        rw [(bxX.c j hj3).1]
        have : j = 0 ∨ j = 1 ∨ j = 2 := by omega
        rcases this with rfl | rfl | rfl <;> exact hj)
      (fun j hj => (own_there ownX (by simp at hj; omega)).1) (fun j hj => (own_there ownX (by simp at hj; omega)).2) (fun v hv => by simp at hv; rcases hv with e | e | e <;> subst e <;> rfl)
  obtain ⟨X1, hX1⟩ : ∃ X1, X1 = X.setCells V.heap.size (i * 3) [.int .i64 ik, .int .i64 iv, .int .i64 iw] := ⟨_, rfl⟩
  have own1 : X1.ownsRow B 93 3 (.slice (some ⟨V.heap.size, 0, none⟩) (n + 1) C) (n + 1) (setL ys (i * 3) (ItV.cells ⟨ik, iv, iw⟩)) := by
    rw [hX1]
    exact own_setCells (ItV.cells ⟨ik, iv, iw⟩) (i * 3) X _ ownX (by rw [it_len]; omega)
  have gr1 : X.grownBy X1 (some V.heap.size) := by rw [hX1]; exact grown_setCells V.heap.size _ _ _
  rw [← hX1] at hcp1
  clear hX1
  have hD1 : Below X1.heap.size X1 X1.drew := (Below.refl _ _).drew
  have own1d := own_below own1 hD1
  have old1 := own_below ((own_below hV bX).kept gr1 (.inr (by simpa [Value.ownBlock] using hgne))) hD1
  have HDL : Hid ((flat ItV.cells (xs.drop i)).length = (n - i) * 3) := by show _ = _; rw [flat_len it_len]; simp [hl]
  have h1c : ∀ v ∈ flat ItV.cells (xs.drop i), v.oneCell' = true := flat_one' (k := 3) it_one _
  have hcp2 : ∀ ty, (Builtin.copy_ #[33, 33] ty #[.slice (some ⟨V.heap.size, (i + 1) * 3, none⟩) (n - i) (C - (i + 1)), .slice (some ⟨g, i * 3, none⟩) (n - i) (n - i)]).run Tryd.prog X1.drew = .ok (goInt ((n - i : Nat) : Int)) (X1.drew.setCells V.heap.size ((i + 1) * 3) (flat ItV.cells (xs.drop i))) := fun ty =>
    run_copy_items X1.drew ty V.heap.size ((i + 1) * 3) (n - i) (C - (i + 1)) ⟨g, i * 3, none⟩ (n - i) (n - i) (flat ItV.cells (xs.drop i)) (n - i) (by simp only [Nat.min_def]; split <;> omega) HDL.out
      (fun j v hj => by
        have hf : (flat ItV.cells xs)[i * 3 + j]? = some v := by rw [← List.getElem?_drop, flat_drop it_len]; exact hj
        have := old1.cells (g := g) rfl _ _ hf
        rw [adr_add] at this ⊢
        rw [Nat.zero_add] at this
        exact this)
      (fun j hj => by rw [HDL.out] at hj; exact (own_there own1d (by omega)).1) (fun j hj => by rw [HDL.out] at hj; exact (own_there own1d (by omega)).2) h1c
  have HFIN : Hid ((X1.drew.setCells V.heap.size ((i + 1) * 3) (flat ItV.cells (xs.drop i))).ownsRow B 93 3 (.slice (some ⟨V.heap.size, 0, none⟩) (n + 1) C) (n + 1) (flat ItV.cells (insAt xs i ⟨ik, iv, iw⟩)) ∧ V.grownBy (X1.drew.setCells V.heap.size ((i + 1) * 3) (flat ItV.cells (xs.drop i))) (some g)) := by
    have o2 := own_setCells (flat ItV.cells (xs.drop i)) ((i + 1) * 3) X1.drew _ own1d (by rw [HDL.out]; omega)
    rw [put_in2 ⟨ik, iv, iw⟩ ys hl (by omega) hyl hyt] at o2
    have g2 := grown_trans gr1 (grown_trans (grown_below hD1 (some V.heap.size)) (grown_setCells V.heap.size (flat ItV.cells (xs.drop i)) ((i + 1) * 3) X1.drew))
    refine ⟨o2, ⟨g2.os.trans bX.os, g2.tape.trans bX.tape, g2.output.trans bX.output, Nat.le_trans bX.size g2.size, fun k hk _ => (g2.block k (Nat.lt_of_lt_of_le hk bX.size) (by simp; omega)).trans (bX.block k hk)⟩⟩
  have hz2 : ¬ ((i : Int) = (n : Int)) := by omega
  have hw1 : IntKind.i64.wrap ((i : Int) + 1) = (i : Int) + 1 := by rw [IntKind.wrap_i64]; omega
  have hw2 : IntKind.i64.wrap ((n : Int) + 1) = (n : Int) + 1 := by rw [IntKind.wrap_i64]; omega
  have hw3 : IntKind.i64.wrap ((n : Int) + 1 - (i : Int)) = (n : Int) + 1 - (i : Int) := by rw [IntKind.wrap_i64]; omega
  have hin : i ≤ n := by omega
  have hiC : i ≤ C := by omega
  have hi1C : i + 1 ≤ C := by omega
  have hb1 : (i : Int) ≤ (n : Int) := by omega
  have hb2 : ¬ C = i + 1 := by omega
  have hb3 : ¬ C = i := by omega
  have hb4 : ¬ n = i := by omega
  have hb5 : (n : Int) < (n : Int) + 1 := by omega
  have hb6 : (i : Int) + 1 ≤ (n : Int) + 1 := by omega
  have hb7 : (i : Int) ≤ (n : Int) + 1 := by omega
  have hb8 : i + 1 ≤ n + 1 := by omega
  have hin1 : i ≤ n + 1 := by omega
  have hnC : n + 1 ≤ C := by omega
  have hp0 : (0 : Int) ≤ (i : Int) + 1 := by omega
  have htn : ((i : Int) + 1).toNat = i + 1 := by omega
  clear hV own1 gr1 bx bxX hVd own1d old1 hD1 hD h1c hyl hyt h hVw bV hg hne hgne ownX bX hfl hj0 lz ls lb zV eC hl zX
  go_enter Tryd.func53, Tryd.ntmps53
  go_upto_region 10 with (at_builtin; go_loud (refine Go.Lib.wpList_append_run _ (by rfl) _ _ _ _ (by rfl) _ _ (by rfl) (by rfl) _ _ (hap _) ?_))
  go_upto_region 11 with (at_builtin; refine cp_wp (by rfl) _ _ 33 33 (by rfl) _ _ (by rfl) (by rfl) (hcp1 _) ?_)
  go_region_law (refine cp_step (by rfl) (.tmp 50) (.tmp 53) 33 33 (by rfl) (.slice (some ⟨V.heap.size, (i + 1) * 3, none⟩) (n - i) (C - (i + 1))) (.slice (some ⟨g, i * 3, none⟩) (n - i) (n - i)) (by simp [Act.eval, Act.put]) (by simp [Act.eval, Act.put]) (hcp2 _) ?_)
  all_goals
    go_wp2
    go_ret
    exact ⟨some ⟨V.heap.size, 0, none⟩, C, rfl, HFIN.out.1, HFIN.out.2, .inr rfl⟩
/-- slices.Insert, one item, whatever room there is. -/
theorem insert_any (B : Nat) (a : Option Addr) (n cap i : Nat) (xs : List ItV) (x : ItV) (w V : World) (hVw : V = w.alloc (.cells #[.int .i64 x.key, .int .i64 x.value, .int .i64 x.version] 93)) (h : w.ownsRow B 93 3 (.slice a n cap) n (flat ItV.cells xs)) (hB : B ≤ w.heap.size) (hi : i ≤ n) (hn : n ≤ 100) :
    Calls Tryd.prog 53 #[.slice a n cap, .int .i64 (i : Int), .slice (some ⟨w.heap.size, 0, none⟩) 1 1] V fun e w' => ∃ a' c', e = .returned (.slice a' (n + 1) c') ∧ w'.ownsRow B 93 3 (.slice a' (n + 1) c') (n + 1) (flat ItV.cells (insAt xs i x)) ∧ V.grownBy w' (Value.slice a n cap).ownBlock ∧ ((Value.slice a' (n + 1) c').ownBlock = (Value.slice a n cap).ownBlock ∨ (Value.slice a' (n + 1) c').ownBlock = some V.heap.size) := by
  by_cases hin : i = n
  · subst hin
    exact insert_end B a i cap xs x w V hVw h hB hn
  · have hlt : i < n := by omega
    have hform := h.2
    rcases hform with ⟨hv, h0⟩ | ⟨g, cap', cur, hv, _, _, h1, _⟩
    · omega
    · simp at hv
      obtain ⟨rfl, rfl⟩ := hv
      by_cases hroom : n + 1 ≤ cap
      · exact (insert_room B g n cap i xs x w V hVw h hlt hroom).mono fun e w' ⟨q1, q2, q3⟩ => ⟨_, _, q1, q2, q3, .inl rfl⟩
      · obtain rfl : cap = n := by omega
        exact insert_grow B g cap i xs x w V hVw h hB hlt hn
end Go.Proofs.YtcfhhjnbkpgpeaaDoor.St
/- Contracts of the small functions: Within, Key, Value, Txn, isTxn, isAsk, lockMayBe; itemsMayBe. -/
namespace Go.Proofs.YtcfhhjnbkpgpeaaDoor.St
open Go.ChangeShapes Go.WideShapes Go.ChangeAt Go.RowKit
set_option linter.unusedVariables false

theorem within_any (n lo hi : Int) (w : World) :
    Calls Tryd.prog 37 #[.int .i64 n, .int .i64 lo, .int .i64 hi] w fun e w' => e = .returned (.bool (inR n lo hi)) ∧ w' = w := by
  go_enter Tryd.func37, Tryd.ntmps37
  go_wp2
  all_goals go_ret
  all_goals exact ⟨ret_bool (by unfold inR; rw [Bool.eq_iff_iff]; simp; omega), rfl⟩
theorem key_any (n : Int) (w : World) :
    Calls Tryd.prog 32 #[.int .i64 n] w fun e w' => e = .returned (.bool (inR n 0 7)) ∧ w' = w := by
  go_enter Tryd.func32, Tryd.ntmps32
  go_wp2_with (go_at_call 37; refine (within_any _ _ _ _).mono ?_; rintro e w1 ⟨rfl, hu1⟩; rw [hu1]; clear hu1)
  go_ret
  exact ⟨rfl, rfl⟩
theorem value_any (n : Int) (w : World) :
    Calls Tryd.prog 64 #[.int .i64 n] w fun e w' => e = .returned (.bool (inR n 0 1073741824)) ∧ w' = w := by
  go_enter Tryd.func64, Tryd.ntmps64
  go_wp2_with (go_at_call 37; refine (within_any _ _ _ _).mono ?_; rintro e w1 ⟨rfl, hu1⟩; rw [hu1]; clear hu1)
  go_ret
  exact ⟨rfl, rfl⟩
theorem isAsk_any (n : Int) (w : World) :
    Calls Tryd.prog 84 #[.int .i64 n] w fun e w' => e = .returned (.bool (inR n 0 1048576)) ∧ w' = w := by
  go_enter Tryd.func84, Tryd.ntmps84
  go_wp2_with (go_at_call 37; refine (within_any _ _ _ _).mono ?_; rintro e w1 ⟨rfl, hu1⟩; rw [hu1]; clear hu1)
  go_ret
  exact ⟨rfl, rfl⟩
theorem txn_any (site num : Int) (w : World) :
    Calls Tryd.prog 69 #[.agg #[.int .i64 site, .int .i64 num], .int .i64 4] w fun e w' => e = .returned (.bool (txOK (site, num))) ∧ Below w.heap.size w w' := by
  have hA : Below w.heap.size w (w.alloc (.cells #[.int .i64 site, .int .i64 num] 28)) := (Below.refl _ _).alloc (Nat.le_refl _) _
  unfold txOK
  cases hr : inR site 0 3 with
  | false =>
    go_enter Tryd.func69, Tryd.ntmps69
    go_wp2_with (go_at_call 37; refine (within_any _ _ _ _).mono ?_; rintro e w1 ⟨rfl, hu1⟩; rw [hu1]; clear hu1)
    go_ret
    exact ⟨by simp, hA⟩
  | true =>
    go_enter Tryd.func69, Tryd.ntmps69
    go_wp2_with (go_at_call 37; refine (within_any _ _ _ _).mono ?_; rintro e w1 ⟨rfl, hu1⟩; rw [hu1]; clear hu1)
    go_ret
    exact ⟨by simp, hA⟩
theorem isTxn_any (t : Int × Int) (w : World) :
    Calls Tryd.prog 50 #[.agg #[.int .i64 t.1, .int .i64 t.2]] w fun e w' => e = .returned (.bool (txOK t)) ∧ Below w.heap.size w w' := by
  obtain ⟨site, num⟩ := t
  have hA : Below w.heap.size w (w.alloc (.cells #[.int .i64 site, .int .i64 num] 28)) := (Below.refl _ _).alloc (Nat.le_refl _) _
  simp only
  go_enter Tryd.func50, Tryd.ntmps50
  go_wp2_with (go_at_call 69; refine (txn_any _ _ _).mono ?_; rintro e w1 ⟨rfl, hu1⟩)
  go_ret
  exact ⟨rfl, hA.trans (hu1.mono hA.size)⟩

set_option maxHeartbeats 1000000 in
theorem itemsMayBe_any (a : Option Addr) (len cap : Nat) (xs : List ItV) (w : World) (h : IsItems w a len cap xs) :
    Calls Tryd.prog 39 #[.slice a len cap] w fun e w' => e = .returned (.bool (itemsOK 0 xs)) ∧ Below w.heap.size w w' := by
  obtain ⟨hlen, hcap, hmax, _, hmem⟩ := h
  have HL : Hid (xs.length = len) := hlen
  clear hlen
  unfold maxLen at hmax
  go_enter Tryd.func39, Tryd.ntmps39
  go_wp2
  go_loopw [3, 8] (fun s3 s8 wr => ∃ (k : Nat) (lo : Int), k ≤ len ∧ 0 ≤ lo ∧ lo ≤ 8 ∧ s3 = .int .i64 lo ∧ s8 = .int .i64 k ∧ Hid (itemsOK 0 xs = itemsOK lo (xs.drop k)) ∧ Below w.heap.size w wr) (fun _ s8 _ => len - (intOf s8).toNat)
  case atStart => exact ⟨0, 0, Nat.zero_le _, Int.le_refl _, by omega, rfl, rfl, by show _ = _; simp, Below.refl _ _⟩
  case round =>
    obtain ⟨k, lo, hk, lo0, lo8, rfl, rfl, hat, hb⟩ := hrel
    by_cases hlt : k < len
    · have hlt' : (k : Int) < (len : Int) := by omega
      obtain ⟨b, off, rfl, zb, hc⟩ := hmem (by omega)
      have hcells := hc k hlt
      have hd := drop_at (l := xs) (k := k) (by have := HL.out; omega)
      obtain ⟨x, ex⟩ : ∃ x, x = xs.getD k default := ⟨_, rfl⟩
      rw [← ex] at hcells hd
      clear ex
      obtain ⟨key, value, version⟩ := x
      have a0 := hcells 0 (by decide)
      have a1 := hcells 1 (by decide)
      have a2 := hcells 2 (by decide)
      simp [ItV.cells] at a0 a1 a2
      rw [← hb.cell (p := ⟨b, off + k * 3, none⟩) zb] at a0
      rw [← hb.cell (p := ⟨b, off + k * 3 + 1, none⟩) zb] at a1
      rw [← hb.cell (p := ⟨b, off + k * 3 + 2, none⟩) zb] at a2
      have hn : Hid (itemsOK 0 xs = (inR key lo 7 && inR value 0 1073741824 && inR version 1 1048576 && itemsOK (key + 1) (xs.drop (k + 1)))) := by show _ = _; rw [hat.out, hd]; rfl
      clear hat hcells hd hc
      have hA : Below w.heap.size w (wr.alloc (.cells #[.int .i64 key, .int .i64 value, .int .i64 version] 93)) := hb.alloc hb.size _
      cases h1 : inR key lo 7 with
      | false =>
        go_wp2_with (first | (go_at_call 37; refine (within_any _ _ _ _).mono ?_; rintro e w1 ⟨rfl, hu1⟩; rw [hu1]; clear hu1) | (go_at_call 64; refine (value_any _ _).mono ?_; rintro e w1 ⟨rfl, hu1⟩; rw [hu1]; clear hu1))
        go_ret
        exact ⟨by rw [hn.out, h1]; rfl, hA⟩
      | true =>
        have kb := inR_of h1
        cases h2 : inR value 0 1073741824 with
        | false =>
          go_wp2_with (first | (go_at_call 37; refine (within_any _ _ _ _).mono ?_; rintro e w1 ⟨rfl, hu1⟩; rw [hu1]; clear hu1) | (go_at_call 64; refine (value_any _ _).mono ?_; rintro e w1 ⟨rfl, hu1⟩; rw [hu1]; clear hu1))
          go_ret
          exact ⟨by rw [hn.out, h1, h2]; rfl, hA⟩
        | true =>
          cases h3 : inR version 1 1048576 with
          | false =>
            go_wp2_with (first | (go_at_call 37; refine (within_any _ _ _ _).mono ?_; rintro e w1 ⟨rfl, hu1⟩; rw [hu1]; clear hu1) | (go_at_call 64; refine (value_any _ _).mono ?_; rintro e w1 ⟨rfl, hu1⟩; rw [hu1]; clear hu1))
            go_ret
            exact ⟨by rw [hn.out, h1, h2, h3]; rfl, hA⟩
          | true =>
            go_wp2_with (first | (go_at_call 37; refine (within_any _ _ _ _).mono ?_; rintro e w1 ⟨rfl, hu1⟩; rw [hu1]; clear hu1) | (go_at_call 64; refine (value_any _ _).mono ?_; rintro e w1 ⟨rfl, hu1⟩; rw [hu1]; clear hu1))
            go_roundw
            case rel => exact ⟨k + 1, key + 1, by omega, by omega, by omega, by go_num, by go_num, by show _ = _; rw [hn.out, h1, h2, h3]; simp, hA⟩
            case measure => simp [intOf]; omega
    · have hke : k = len := by omega
      have hfin : itemsOK 0 xs = true := by
        rw [hat.out, List.drop_eq_nil_of_le (by have := HL.out; omega)]
        rfl
      go_wp2
      go_ret
      exact ⟨by rw [hfin]; rfl, hb⟩
end Go.Proofs.YtcfhhjnbkpgpeaaDoor.St
