/- The contract of store.Age. -/
import Derived.Test.YtapnhpgobdaklaaSAgePlain
import Derived.Test.YtapnhpgobdaklaaSCheck
import Derived.Test.YtapnhpgobdaklaaSStoreOwn
namespace Go.Proofs.Ytapnhpgobdaklaa.St
open Go.ChangeShapes Go.WideShapes Go.ChangeAt Go.RowKit
set_option linter.unusedVariables false

set_option maxRecDepth 100000 in
set_option maxHeartbeats 8000000 in
theorem age_any_own (s : SV) (p : Int) (w : World) (h : IsStore w s) (hwf : ∀ t ∈ s.over, TxWf t) (h4 : s.ol * 16 ≤ 140737488351232) :
    Calls Try.prog 11 #[s.val, .int .i64 p] w fun e w' => ∃ (r : SV) (ta : Option Addr) (tc : Nat), e = .returned (.tuple #[r.val, .slice ta (ageTold s p).length tc, .int .i64 (ageErr s p)]) ∧ OwnStore w' w.heap.size r ∧ r.data = ageData s p ∧ IsTxns w' ta (ageTold s p).length tc (ageTold s p) ∧ Below w.heap.size w w' := by
  obtain ⟨i4, E4⟩ := txElem
  have hC := fun w' h1 => check_any s w' h1 hwf
  have hOwn := fun w' h1 k1 k2 k3 => own_any s w' h1 k1 k2 k3 h4
  have hPre := pre_of w s h
  have hok : storeOK s = true → (s.il ≤ 8 ∧ s.ll ≤ 24 ∧ s.dl ≤ 24) ∧ ∀ i, i < s.dl → 0 ≤ (s.doubts.getD i default).age ∧ (s.doubts.getD i default).age ≤ 1048576 := fun e => ⟨ok_sizes e h, fun i hi => ok_ages e _ (getD_mem (by rw [h.doubts.1]; exact hi))⟩
  obtain ⟨E, e6⟩ : ∃ R : Int, R = ageErr s p := ⟨_, rfl⟩
  obtain ⟨D, e7⟩ : ∃ R, R = ageData s p := ⟨_, rfl⟩
  obtain ⟨T, e8⟩ : ∃ R, R = ageTold s p := ⟨_, rfl⟩
  obtain ⟨S, e9⟩ : ∃ R, R = storeOK s := ⟨_, rfl⟩
  obtain ⟨Q, e10⟩ : ∃ R, R = inR p 1 1048576 := ⟨_, rfl⟩
  have eE : Hid (E = if S then (if Q then 0 else 2) else 9) := by rw [e9, e10]; exact e6
  have eD : Hid (D = if E = 0 then ⟨s.items, s.locks, s.doubts.map (agedD p), s.over⟩ else PS.nil) := by rw [e6]; exact e7
  have eT : Hid (T = if E = 0 then toldT p s.doubts else []) := by rw [e6]; exact e8
  rw [← e6, ← e7, ← e8]
  rw [← e9] at hC hok
  replace e10 := e10.symm
  clear e6 e7 e8 e9
  have HD : Hid (s.doubts.length = s.dl) := h.doubts.1
  obtain ⟨ia, il, ic, la, ll, lc, da, dl, dc, oa, ol, oc, items, locks, doubts, over⟩ := s
  simp only [SV.val] at *
  obtain ⟨W, hW⟩ : ∃ W : World, W = (w.alloc (.cells #[.slice ia il ic, .slice la ll lc, .slice da dl dc, .slice oa ol oc] 28)).alloc (.cells #[.slice none 0 0, .slice none 0 0, .slice none 0 0, .slice none 0 0] 28) := ⟨_, rfl⟩
  rw [← hW] at hPre
  have HP : Hid (Pre w W ⟨ia, il, ic, la, ll, lc, da, dl, dc, oa, ol, oc, items, locks, doubts, over⟩) := hPre
  obtain ⟨d0, d1, d2, d3⟩ := hPre.cells _ (Below.refl _ _)
  simp only [] at d0 d1 d2 d3
  have hSW := hPre.st
  clear hPre h
  go_enter Try.func11, Try.ntmps11
  go_upto_region 1 with (fail)
  rw [← hW]
  clear hW
  cases S with
  | false =>
    try simp only [Bool.false_eq_true, ↓reduceIte] at hC
    go_wp2_with (first | (go_at_call 14; refine (hC _ hSW).mono ?_; rintro e w1 ⟨rfl, hb1⟩; have hS1 := hSW.below hb1; clear d0 d1 d2 d3; obtain ⟨d0, d1, d2, d3⟩ := HP.out.cells _ hb1; simp only [] at d0 d1 d2 d3; obtain ⟨⟨rz, r0, r1, r2, r3⟩, g0, g1, g2, g3⟩ := HP.out.out _ hb1) | (go_at_call 30; refine (within_any _ _ _ _).mono ?_; rintro e u ⟨rfl, hu⟩; rw [hu, e10]; clear hu))
    refine bodyPost_ret (v := .tuple #[.agg #[.slice none 0 0, .slice none 0 0, .slice none 0 0, .slice none 0 0], .slice none 0 0, .int .i64 9]) (by simp [results, Try.results11, go_sem, r0, r1, r2, r3]) rfl ?_
    obtain ⟨t1, t2⟩ := HP.out.done (r := SV.nil) hb1 (isStore_nil _) (fun b off e => by simp [SV.nil] at e) (.slice none 0 0) (.slice none 0 0) (.slice none 0 0) (.slice none 0 0)
    have hE : E = 9 := by rw [eE.out]; rfl
    have hT : T = [] := by rw [eT.out, hE]; rfl
    have hD : D = PS.nil := by rw [eD.out, hE]; rfl
    rw [hE, hT, hD]
    exact ⟨SV.nil, none, 0, rfl, ownStore_nil _ _, rfl, isRow_nil _ _ _, t2⟩
  | true =>
  try simp only [↓reduceIte] at hC
  obtain ⟨⟨q1, q2, q3⟩, hag⟩ := hok rfl
  try simp only [] at q1 q2 q3
  cases Q with
  | false =>
    go_wp2_with (first | (go_at_call 14; refine (hC _ hSW).mono ?_; rintro e w1 ⟨rfl, hb1⟩; have hS1 := hSW.below hb1; clear d0 d1 d2 d3; obtain ⟨d0, d1, d2, d3⟩ := HP.out.cells _ hb1; simp only [] at d0 d1 d2 d3; obtain ⟨⟨rz, r0, r1, r2, r3⟩, g0, g1, g2, g3⟩ := HP.out.out _ hb1) | (go_at_call 30; refine (within_any _ _ _ _).mono ?_; rintro e u ⟨rfl, hu⟩; rw [hu, e10]; clear hu))
    refine bodyPost_ret (v := .tuple #[.agg #[.slice none 0 0, .slice none 0 0, .slice none 0 0, .slice none 0 0], .slice none 0 0, .int .i64 2]) (by simp [results, Try.results11, go_sem, r0, r1, r2, r3]) rfl ?_
    obtain ⟨t1, t2⟩ := HP.out.done (r := SV.nil) hb1 (isStore_nil _) (fun b off e => by simp [SV.nil] at e) (.slice none 0 0) (.slice none 0 0) (.slice none 0 0) (.slice none 0 0)
    have hE : E = 2 := by rw [eE.out]; rfl
    have hT : T = [] := by rw [eT.out, hE]; rfl
    have hD : D = PS.nil := by rw [eD.out, hE]; rfl
    rw [hE, hT, hD]
    exact ⟨SV.nil, none, 0, rfl, ownStore_nil _ _, rfl, isRow_nil _ _ _, t2⟩
  | true =>
    have hE : E = 0 := by rw [eE.out]; rfl
    have hT : T = toldT p doubts := by rw [eT.out, hE]; rfl
    have hD : D = ⟨items, locks, doubts.map (agedD p), over⟩ := by rw [eD.out, hE]; rfl
    have HF : Hid (E = 0 ∧ T = toldT p doubts ∧ D = ⟨items, locks, doubts.map (agedD p), over⟩) := ⟨hE, hT, hD⟩
    clear hT hD hE eE eT eD hok
    have HAG : Hid (∀ i, i < dl → 0 ≤ (doubts.getD i default).age ∧ (doubts.getD i default).age ≤ 1048576) := hag
    clear hag
    go_upto_region 7 with (first | (go_at_call 14; refine (hC _ hSW).mono ?_; rintro e w1 ⟨rfl, hb1⟩; have hS1 := hSW.below hb1; clear d0 d1 d2 d3; obtain ⟨d0, d1, d2, d3⟩ := HP.out.cells _ hb1; simp only [] at d0 d1 d2 d3; obtain ⟨⟨rz, r0, r1, r2, r3⟩, g0, g1, g2, g3⟩ := HP.out.out _ hb1) | (go_at_call 30; refine (within_any _ _ _ _).mono ?_; rintro e u ⟨rfl, hu⟩; rw [hu, e10]; clear hu) | (go_at_call 29; refine (hOwn _ hS1 (by omega) (by omega) (by omega)).mono ?_; rintro e w2 ⟨⟨a0, n0, c0, a1, n1, c1, a2, n2, c2, a3, n3, c3, items', locks', doubts', over'⟩, rfl, hsame, hown, hb2⟩; obtain ⟨v1, v2, v3, v4, v5, v6, v7, v8⟩ := hsame; simp only [] at v1 v2 v3 v4 v5 v6 v7 v8; obtain rfl := v1.symm; obtain rfl := v2.symm; obtain rfl := v3.symm; obtain rfl := v4.symm; obtain rfl := v5.symm; obtain rfl := v6.symm; obtain rfl := v7.symm; obtain rfl := v8.symm; simp only []))
    have hbW : Below W.heap.size W w2 := hb1.trans (hb2.mono hb1.size)
    obtain ⟨X, hX⟩ : ∃ X : World, X = w2.alloc (.cells #[.slice a0 il c0, .slice a1 ll c1, .slice a2 dl c2, .slice a3 ol c3] 28) := ⟨_, rfl⟩
    have hM0 : Made W X W.heap.size w2.heap.size ⟨a0, il, c0, a1, ll, c1, a2, dl, c2, a3, ol, c3, items, locks, doubts, over⟩ := by
      have hb3 : Below w2.heap.size w2 X := by rw [hX]; exact (Below.refl _ _).alloc (Nat.le_refl _) _
      refine Made.new (hown.base hb1.size) hbW hb3 (Nat.le_refl _) ?_ hbW.size
      rw [hX]
      exact boxn_new w2 #[.slice a0 il c0, .slice a1 ll c1, .slice a2 dl c2, .slice a3 ol c3] 28 4 rfl
    rw [← hX]
    clear hX hown hb2 hbW hOwn hC
    obtain ⟨m, em⟩ : ∃ m, m = w2.heap.size := ⟨_, rfl⟩
    rw [← em] at hM0 ⊢
    clear em hb1 d0 d1 d2 d3 r0 r1 r2 r3 g0 g1 g2 g3 rz hS1 hSW
    have U0 := hM0.under
    have HU : Hid (Under ⟨a0, il, c0, a1, ll, c1, a2, dl, c2, a3, ol, c3, items, locks, doubts, over⟩ m X.heap.size) := U0
    have zX := Nat.le_trans hM0.sz (Nat.le_refl _)
    clear U0
    obtain ⟨mz, x0, x1, x2, x3, f0, f1, f2, f3⟩ := hM0.cells
    simp only [] at x0 x1 x2 x3
    go_wp2
    clear x0 x1 x2 x3 f0 f1 f2 f3 mz
    go_loopw [27, 9] (fun i t wr => ∃ (k : Nat) (ta : Option Addr) (tc : Nat) (ts : List (Int × Int)), i = .int .i64 (k : Int) ∧ t = .slice ta ts.length tc ∧ k ≤ dl ∧ wr.ownsRow X.heap.size 33 2 (.slice ta ts.length tc) ts.length (flat txCells ts) ∧ Hid (ts = toldT p (doubts.take k)) ∧ ts.length ≤ k ∧ X.heap.size ≤ wr.heap.size ∧ Made W wr W.heap.size m ⟨a0, il, c0, a1, ll, c1, a2, dl, c2, a3, ol, c3, items, locks, ((doubts.take k).map (agedD p) ++ doubts.drop k), over⟩) (fun i _ _ => dl - (intOf i).toNat)
    case atStart => exact ⟨0, none, 0, [], rfl, rfl, Nat.zero_le _, World.ownsRow_nil _ _ _ _, rfl, Nat.le_refl _, Nat.le_refl _, hM0⟩
    case round =>
      obtain ⟨k, ta, tc, ts, rfl, rfl, hk, hto, hts, htk, zwr, hM⟩ := hrel
      obtain ⟨mz, x0, x1, x2, x3, f0, f1, f2, f3⟩ := hM.cells
      simp only [] at x0 x1 x2 x3
      by_cases hlt : k < dl
      · have hlt' : (k : Int) < (dl : Int) := by omega
        obtain ⟨g, off, rfl, _, _⟩ := hM.own.isStore.doubts.2.2.2.2 (by show 0 < dl; omega)
        have hkl : k < doubts.length := by rw [HD.out]; exact hlt
        have HMS : Hid (((doubts.take k).map (agedD p) ++ doubts.drop k).set k (agedD p (doubts.getD k default)) = (doubts.take (k + 1)).map (agedD p) ++ doubts.drop (k + 1)) := mid_set _ _ hkl
        have HTO : Hid (toldT p (doubts.take (k + 1)) = ts ++ (if p ≤ (doubts.getD k default).age + 1 then [(doubts.getD k default).t] else [])) := by rw [hts.out]; exact told_at p doubts hkl
        have HMG : Hid (((doubts.take k).map (agedD p) ++ doubts.drop k).getD k default = doubts.getD k default) := mid_get _ _ hkl
        have hag := HAG.out k hlt
        obtain ⟨d, ed⟩ : ∃ d, d = doubts.getD k default := ⟨_, rfl⟩
        rw [← ed] at HMS HTO HMG hag
        clear ed
        obtain ⟨⟨tsi, tnu⟩, ag⟩ := d
        simp only [] at hag HTO
        have HM1 : Hid (∀ v, Made W (wr.setCell ⟨g, k * 3 + 2, none⟩ (.int .i64 v)) W.heap.size m ⟨a0, il, c0, a1, ll, c1, some ⟨g, off, none⟩, dl, c2, a3, ol, c3, items, locks, ((doubts.take k).map (agedD p) ++ doubts.drop k).set k ⟨(tsi, tnu), v⟩, over⟩) := fun v => hM.cell_doubts (g := g) (off := off) rfl (i := k) (j := 2) hlt (by decide) (.int .i64 v) ⟨(tsi, tnu), v⟩ (by simp only []; rw [HMG.out]; rfl)
        obtain ⟨rfl, hCg, hgz, hgm, hcl, _⟩ := hM.one_doubts (g := g) (off := off) rfl hlt default
        simp only [] at hcl
        rw [HMG.out] at hcl
        have hgX : g < X.heap.size := HU.out.doubts g rfl
        have e0 := (hcl 0 (by decide)).2.2
        have e1 := (hcl 1 (by decide)).2.2
        have e2 := (hcl 2 (by decide)).2.2
        have h2' := (hcl 2 (by decide)).1
        simp only [DbV.cells, List.getElem?_cons_zero, List.getElem?_cons_succ, Nat.add_zero] at e0 e1 e2
        clear hcl
        have hwr : IntKind.i64.wrap (ag + 1) = ag + 1 := by apply wrap_in <;> omega
        by_cases hp : p ≤ ag + 1
        · have HTT : Hid (toldT p (doubts.take (k + 1)) = ts ++ [(tsi, tnu)]) := by show _ = _; rw [HTO.out, if_pos hp]
          have HMM : Hid (((doubts.take k).map (agedD p) ++ doubts.drop k).set k ⟨(tsi, tnu), 0⟩ = (doubts.take (k + 1)).map (agedD p) ++ doubts.drop (k + 1)) := by show _ = _; rw [← HMS.out]; simp [agedD, hp]
          clear HTO HMS
          obtain ⟨V, hV⟩ : ∃ V, V = wr.setCell ⟨g, k * 3 + 2, none⟩ (.int .i64 (ag + 1)) := ⟨_, rfl⟩
          have hM1 := HM1.out (ag + 1)
          rw [← hV] at hM1
          have to1 : V.ownsRow X.heap.size 33 2 (.slice ta ts.length tc) ts.length (flat txCells ts) := by rw [hV]; exact hto.kept (grown_setCell wr ⟨g, k * 3 + 2, none⟩ _) (ne_own (fun q e => (hto.lt q e).1) hgX)
          have zV : X.heap.size ≤ V.heap.size := by rw [hV]; simpa using zwr
          have HG1 : Hid ((((doubts.take k).map (agedD p) ++ doubts.drop k).set k ⟨(tsi, tnu), ag + 1⟩).getD k default = ⟨(tsi, tnu), ag + 1⟩) := set_getD _ _ _ (by simp; omega)
          have HSS : Hid ((((doubts.take k).map (agedD p) ++ doubts.drop k).set k ⟨(tsi, tnu), ag + 1⟩).set k ⟨(tsi, tnu), 0⟩ = ((doubts.take k).map (agedD p) ++ doubts.drop k).set k ⟨(tsi, tnu), 0⟩) := List.set_set ..
          go_upto_region 14 with (fail)
          rw [← hV]
          clear hV e0 e1 e2 h2' x0 x1 x2 x3 f0 f1 f2 f3 mz
          obtain ⟨_, _, _, _, hcl, _⟩ := hM1.one_doubts (g := g) (off := 0) rfl hlt default
          simp only [] at hcl
          rw [HG1.out] at hcl
          have e0 := (hcl 0 (by decide)).2.2
          have e1 := (hcl 1 (by decide)).2.2
          have e2 := (hcl 2 (by decide)).2.2
          simp only [DbV.cells, List.getElem?_cons_zero, List.getElem?_cons_succ, Nat.add_zero] at e0 e1 e2
          clear hcl
          go_upto_region 15 with (at_builtin; go_loud (refine wpList_append_row E4 (by rfl) _ _ (by rfl) X.heap.size (.slice ta ts.length tc) ts.length ts (by rfl) (own_below to1 ((Below.refl _ _).alloc (Nat.le_refl _) _)) _ 1 1 [(tsi, tnu)] (by rfl) (isOne _ _ _ _ rfl rfl) (by unfold maxLen; omega) (by omega) (by simp; omega) ?_; intro a5 c5 w5 own5 gr5 at5))
          have hM5 := (hM1.below ((Below.refl _ _).alloc (Nat.le_refl _) _)).aside (B := X.heap.size) ⟨HU.out.m, HU.out.items, HU.out.locks, HU.out.doubts, HU.out.over⟩ gr5 (fun q hq => (to1.lt q hq).1) zX
          clear e0 e1 e2
          have hM6 := hM5.cell_doubts (g := g) (off := 0) rfl (i := k) (j := 2) hlt (by decide) (.int .i64 0) ⟨(tsi, tnu), 0⟩ (by simp only []; rw [HG1.out]; rfl)
          simp only [] at hM6
          rw [HSS.out, HMM.out] at hM6
          obtain ⟨_, _, _, _, hcl, _⟩ := hM5.one_doubts (g := g) (off := 0) rfl hlt default
          simp only [] at hcl
          rw [HG1.out] at hcl
          have e2 := (hcl 2 (by decide)).2.2
          have h2' := (hcl 2 (by decide)).1
          simp only [DbV.cells, List.getElem?_cons_zero, List.getElem?_cons_succ] at e2
          clear hcl
          have z5 : X.heap.size ≤ w5.heap.size := Nat.le_trans (by simp; omega) gr5.size
          go_wp2
          go_roundw
          case rel =>
            have el : (ts ++ [(tsi, tnu)]).length = ts.length + 1 := by simp
            refine ⟨k + 1, a5, c5, ts ++ [(tsi, tnu)], by go_num, by rw [el], by omega, ?_, HTT.out.symm, by rw [el]; omega, by simpa using z5, hM6⟩
            rw [el]
            exact own5.kept (grown_setCell w5 ⟨g, k * 3 + 2, none⟩ (.int .i64 0)) (ne_own (fun q e => (own5.lt q e).1) hgX)
          case measure => simp [intOf]; omega
        · have HTT : Hid (toldT p (doubts.take (k + 1)) = ts) := by show _ = _; rw [HTO.out, if_neg hp]; simp
          have HMM : Hid (((doubts.take k).map (agedD p) ++ doubts.drop k).set k ⟨(tsi, tnu), ag + 1⟩ = (doubts.take (k + 1)).map (agedD p) ++ doubts.drop (k + 1)) := by show _ = _; rw [← HMS.out]; simp [agedD, hp]
          clear HTO HMS
          have hp' : ¬ p ≤ ag + 1 := hp
          go_wp2
          go_roundw
          case rel =>
            refine ⟨k + 1, ta, tc, ts, by go_num, rfl, by omega, ?_, HTT.out.symm, by omega, by simpa using zwr, ?_⟩
            · exact hto.kept (grown_setCell wr ⟨g, k * 3 + 2, none⟩ (.int .i64 (ag + 1))) (ne_own (fun q e => (hto.lt q e).1) hgX)
            · rw [← HMM.out]; exact HM1.out _
          case measure => simp [intOf]; omega
      · obtain rfl : dl = k := by omega
        obtain ⟨⟨rz, r0, r1, r2, r3⟩, g0, g1, g2, g3⟩ := HP.out.out _ hM.bel
        have HTW : Hid (doubts.take dl = doubts) := List.take_of_length_le (by rw [HD.out]; exact Nat.le_refl _)
        have HDW : Hid (doubts.drop dl = []) := List.drop_eq_nil_of_le (by rw [HD.out]; exact Nat.le_refl _)
        rw [HTW.out, HDW.out, List.append_nil] at hM
        rw [HTW.out] at hts
        go_wp2
        refine bodyPost_ret (v := .tuple #[.agg #[.slice a0 il c0, .slice a1 ll c1, .slice a2 dl c2, .slice a3 ol c3], .slice ta ts.length tc, .int .i64 0]) (by simp [results, Try.results11, go_sem, r0, r1, r2, r3]) rfl ?_
        obtain ⟨_, t1, t2⟩ := HP.out.made hM (.slice a0 il c0) (.slice a1 ll c1) (.slice a2 dl c2) (.slice a3 ol c3)
        obtain ⟨y1, y2, y3⟩ := HF.out
        rw [y1, y2, y3, ← hts.out]
        have z1 := HP.out.z1
        have hb : ∀ (U : World) (j : Nat) (v : Value), U.ownsRow X.heap.size 33 2 (.slice ta ts.length tc) ts.length (flat txCells ts) → (U.setCell ⟨w.heap.size + 1, j, none⟩ v).ownsRow X.heap.size 33 2 (.slice ta ts.length tc) ts.length (flat txCells ts) := fun U j v hh => ownsRow_setCell_below hh (by show w.heap.size + 1 < X.heap.size; omega) v
        exact ⟨⟨a0, il, c0, a1, ll, c1, a2, dl, c2, a3, ol, c3, items, locks, doubts.map (agedD p), over⟩, ta, tc, rfl, t1, rfl, (own_isRow tx_len (hb _ _ _ (hb _ _ _ (hb _ _ _ (hb _ _ _ hto)))) rfl).1, t2⟩
theorem age_any (s : SV) (p : Int) (w : World) (h : IsStore w s) (hwf : ∀ t ∈ s.over, TxWf t) (h4 : s.ol * 16 ≤ 140737488351232) :
    Calls Try.prog 11 #[s.val, .int .i64 p] w fun e w' => ∃ (r : SV) (ta : Option Addr) (tc : Nat), e = .returned (.tuple #[r.val, .slice ta (ageTold s p).length tc, .int .i64 (ageErr s p)]) ∧ IsStore w' r ∧ r.data = ageData s p ∧ IsTxns w' ta (ageTold s p).length tc (ageTold s p) ∧ Below w.heap.size w w' :=
  (age_any_own s p w h hwf h4).mono fun e w' ⟨r, ta, tc, q1, q2, q3⟩ => ⟨r, ta, tc, q1, q2.isStore, q3⟩
end Go.Proofs.Ytapnhpgobdaklaa.St
