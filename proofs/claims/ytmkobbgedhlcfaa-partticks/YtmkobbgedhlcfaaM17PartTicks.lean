/- Texts of this claim, one behind the other. -/
import Derived.Test.YtmkobbgedhlcfaaM15PartTicks
import Derived.Test.YtmkobbgedhlcfaaM11PartTicks
import Derived.Test.YtmkobbgedhlcfaaM8PartTicks
import Derived.Test.YtmkobbgedhlcfaaA13PartTicks
import Derived.Test.YtmkobbgedhlcfaaM16PartTicks
import Derived.Deep.RegionHeld3
import Derived.Deep.CutBlock
import Derived.Deep.DeepCutAuto
/- The contract of store.Age. -/
namespace Go.Proofs.Ytmkobbgedhlcfaa.St
open Go.ChangeShapes Go.WideShapes Go.ChangeAt Go.RowKit
set_option linter.unusedVariables false

set_option maxRecDepth 100000 in
set_option maxHeartbeats 8000000 in
theorem age_any_at (s : SV) (p : Int) (w : World) (h : IsStore w s) (hwf : ∀ t ∈ s.over, TxWf t) (h4 : s.ol * 16 ≤ 140737488351232) :
    Calls Try.prog 19 #[s.val, .int .i64 p] w fun e w' => ∃ (r : SV) (ta : Option Addr) (tc : Nat), e = .returned (.tuple #[r.val, .slice ta (ageTold s p).length tc, .int .i64 (ageErr s p)]) ∧ OwnStore w' w.heap.size r ∧ r.data = ageData s p ∧ IsTxns w' ta (ageTold s p).length tc (ageTold s p) ∧ Below w.heap.size w w' ∧ (∀ b off, ta = some ⟨b, off, none⟩ → w.heap.size ≤ b ∧ b < w'.heap.size) := by
  obtain ⟨i4, E4⟩ := txElem
  have hC := fun w' h1 => check_any s w' h1 hwf
  have hOwn := fun w' h1 k1 k2 k3 => own_any s w' h1 k1 k2 k3 h4
  have hPre := pre_of w s h
  have hok : storeOK s = true → (s.il ≤ 8 ∧ s.ll ≤ 24 ∧ s.dl ≤ 24) ∧ ∀ i, i < s.dl → 0 ≤ (s.doubts.getD i default).age ∧ (s.doubts.getD i default).age ≤ 1048576 := fun e => ⟨ok_sizes e h, fun i hi => ok_ages e _ (getD_mem (by rw [h.doubts.1]; exact hi))⟩
  obtain ⟨E, e6⟩ : ∃ R : Int, R = ageErr s p := ⟨_, rfl⟩
  obtain ⟨D, e7⟩ : ∃ R, R = ageData s p := ⟨_, rfl⟩
  obtain ⟨T, e8⟩ : ∃ R, R = ageTold s p := ⟨_, rfl⟩
  obtain ⟨S, e9⟩ : ∃ R, R = storeOK s := ⟨_, rfl⟩
  obtain ⟨Q, e10⟩ : ∃ R, R = inR p 1 1048576 := ⟨_, rfl⟩
  have eE : Hid (E = if S then (if Q then 0 else 2) else 9) := by rw [e9, e10]; exact e6
  have eD : Hid (D = if E = 0 then ⟨s.items, s.locks, s.doubts.map (agedD p), s.over⟩ else PS.nil) := by rw [e6]; exact e7
  have eT : Hid (T = if E = 0 then toldT p s.doubts else []) := by rw [e6]; exact e8
  rw [← e6, ← e7, ← e8]
  rw [← e9] at hC hok
  replace e10 := e10.symm
  clear e6 e7 e8 e9
  have HD : Hid (s.doubts.length = s.dl) := h.doubts.1
  obtain ⟨ia, il, ic, la, ll, lc, da, dl, dc, oa, ol, oc, items, locks, doubts, over⟩ := s
  simp only [SV.val] at *
  obtain ⟨W, hW⟩ : ∃ W : World, W = (w.alloc (.cells #[.slice ia il ic, .slice la ll lc, .slice da dl dc, .slice oa ol oc] 31)).alloc (.cells #[.slice none 0 0, .slice none 0 0, .slice none 0 0, .slice none 0 0] 31) := ⟨_, rfl⟩
  rw [← hW] at hPre
  have HP : Hid (Pre w W ⟨ia, il, ic, la, ll, lc, da, dl, dc, oa, ol, oc, items, locks, doubts, over⟩) := hPre
  obtain ⟨d0, d1, d2, d3⟩ := hPre.cells _ (Below.refl _ _)
  simp only [] at d0 d1 d2 d3
  have hSW := hPre.st
  clear hPre h
  go_enter Try.func19, Try.ntmps19
  go_upto_region 1 with (fail)
  rw [← hW]
  clear hW
  cases S with
  | false =>
    try simp only [Bool.false_eq_true, ↓reduceIte] at hC
    go_wp2_with (first | (go_at_call 38; refine (hC _ hSW).mono ?_; rintro e w1 ⟨rfl, hb1⟩; have hS1 := hSW.below hb1; clear d0 d1 d2 d3; obtain ⟨d0, d1, d2, d3⟩ := HP.out.cells _ hb1; simp only [] at d0 d1 d2 d3; obtain ⟨⟨rz, r0, r1, r2, r3⟩, g0, g1, g2, g3⟩ := HP.out.out _ hb1) | (go_at_call 39; refine (within_any _ _ _ _).mono ?_; rintro e u ⟨rfl, hu⟩; rw [hu, e10]; clear hu))
    refine bodyPost_ret (v := .tuple #[.agg #[.slice none 0 0, .slice none 0 0, .slice none 0 0, .slice none 0 0], .slice none 0 0, .int .i64 9]) (by simp [results, Try.results19, go_sem, r0, r1, r2, r3]) rfl ?_
    obtain ⟨t1, t2⟩ := HP.out.done (r := SV.nil) hb1 (isStore_nil _) (fun b off e => by simp [SV.nil] at e) (.slice none 0 0) (.slice none 0 0) (.slice none 0 0) (.slice none 0 0)
    have hE : E = 9 := by rw [eE.out]; rfl
    have hT : T = [] := by rw [eT.out, hE]; rfl
    have hD : D = PS.nil := by rw [eD.out, hE]; rfl
    rw [hE, hT, hD]
    exact ⟨SV.nil, none, 0, rfl, ownStore_nil _ _, rfl, isRow_nil _ _ _, t2, fun b off e => by cases e⟩
  | true =>
  try simp only [↓reduceIte] at hC
  obtain ⟨⟨q1, q2, q3⟩, hag⟩ := hok rfl
  try simp only [] at q1 q2 q3
  cases Q with
  | false =>
    go_wp2_with (first | (go_at_call 38; refine (hC _ hSW).mono ?_; rintro e w1 ⟨rfl, hb1⟩; have hS1 := hSW.below hb1; clear d0 d1 d2 d3; obtain ⟨d0, d1, d2, d3⟩ := HP.out.cells _ hb1; simp only [] at d0 d1 d2 d3; obtain ⟨⟨rz, r0, r1, r2, r3⟩, g0, g1, g2, g3⟩ := HP.out.out _ hb1) | (go_at_call 39; refine (within_any _ _ _ _).mono ?_; rintro e u ⟨rfl, hu⟩; rw [hu, e10]; clear hu))
    refine bodyPost_ret (v := .tuple #[.agg #[.slice none 0 0, .slice none 0 0, .slice none 0 0, .slice none 0 0], .slice none 0 0, .int .i64 2]) (by simp [results, Try.results19, go_sem, r0, r1, r2, r3]) rfl ?_
    obtain ⟨t1, t2⟩ := HP.out.done (r := SV.nil) hb1 (isStore_nil _) (fun b off e => by simp [SV.nil] at e) (.slice none 0 0) (.slice none 0 0) (.slice none 0 0) (.slice none 0 0)
    have hE : E = 2 := by rw [eE.out]; rfl
    have hT : T = [] := by rw [eT.out, hE]; rfl
    have hD : D = PS.nil := by rw [eD.out, hE]; rfl
    rw [hE, hT, hD]
    exact ⟨SV.nil, none, 0, rfl, ownStore_nil _ _, rfl, isRow_nil _ _ _, t2, fun b off e => by cases e⟩
  | true =>
    have hE : E = 0 := by rw [eE.out]; rfl
    have hT : T = toldT p doubts := by rw [eT.out, hE]; rfl
    have hD : D = ⟨items, locks, doubts.map (agedD p), over⟩ := by rw [eD.out, hE]; rfl
    have HF : Hid (E = 0 ∧ T = toldT p doubts ∧ D = ⟨items, locks, doubts.map (agedD p), over⟩) := ⟨hE, hT, hD⟩
    clear hT hD hE eE eT eD hok
    have HAG : Hid (∀ i, i < dl → 0 ≤ (doubts.getD i default).age ∧ (doubts.getD i default).age ≤ 1048576) := hag
    clear hag
    go_upto_region 7 with (first | (go_at_call 38; refine (hC _ hSW).mono ?_; rintro e w1 ⟨rfl, hb1⟩; have hS1 := hSW.below hb1; clear d0 d1 d2 d3; obtain ⟨d0, d1, d2, d3⟩ := HP.out.cells _ hb1; simp only [] at d0 d1 d2 d3; obtain ⟨⟨rz, r0, r1, r2, r3⟩, g0, g1, g2, g3⟩ := HP.out.out _ hb1) | (go_at_call 39; refine (within_any _ _ _ _).mono ?_; rintro e u ⟨rfl, hu⟩; rw [hu, e10]; clear hu) | (go_at_call 40; refine (hOwn _ hS1 (by omega) (by omega) (by omega)).mono ?_; rintro e w2 ⟨⟨a0, n0, c0, a1, n1, c1, a2, n2, c2, a3, n3, c3, items', locks', doubts', over'⟩, rfl, hsame, hown, hb2⟩; obtain ⟨v1, v2, v3, v4, v5, v6, v7, v8⟩ := hsame; simp only [] at v1 v2 v3 v4 v5 v6 v7 v8; obtain rfl := v1.symm; obtain rfl := v2.symm; obtain rfl := v3.symm; obtain rfl := v4.symm; obtain rfl := v5.symm; obtain rfl := v6.symm; obtain rfl := v7.symm; obtain rfl := v8.symm; simp only []))
    have hbW : Below W.heap.size W w2 := hb1.trans (hb2.mono hb1.size)
    obtain ⟨X, hX⟩ : ∃ X : World, X = w2.alloc (.cells #[.slice a0 il c0, .slice a1 ll c1, .slice a2 dl c2, .slice a3 ol c3] 31) := ⟨_, rfl⟩
    have hM0 : Made W X W.heap.size w2.heap.size ⟨a0, il, c0, a1, ll, c1, a2, dl, c2, a3, ol, c3, items, locks, doubts, over⟩ := by
      have hb3 : Below w2.heap.size w2 X := by rw [hX]; exact (Below.refl _ _).alloc (Nat.le_refl _) _
      refine Made.new (hown.base hb1.size) hbW hb3 (Nat.le_refl _) ?_ hbW.size
      rw [hX]
      exact boxn_new w2 #[.slice a0 il c0, .slice a1 ll c1, .slice a2 dl c2, .slice a3 ol c3] 31 4 rfl
    rw [← hX]
    clear hX hown hb2 hbW hOwn hC
    obtain ⟨m, em⟩ : ∃ m, m = w2.heap.size := ⟨_, rfl⟩
    rw [← em] at hM0 ⊢
    clear em hb1 d0 d1 d2 d3 r0 r1 r2 r3 g0 g1 g2 g3 rz hS1 hSW
    have U0 := hM0.under
    have HU : Hid (Under ⟨a0, il, c0, a1, ll, c1, a2, dl, c2, a3, ol, c3, items, locks, doubts, over⟩ m X.heap.size) := U0
    have zX := Nat.le_trans hM0.sz (Nat.le_refl _)
    clear U0
    obtain ⟨mz, x0, x1, x2, x3, f0, f1, f2, f3⟩ := hM0.cells
    simp only [] at x0 x1 x2 x3
    go_wp2
    clear x0 x1 x2 x3 f0 f1 f2 f3 mz
    go_loopw [27, 9] (fun i t wr => ∃ (k : Nat) (ta : Option Addr) (tc : Nat) (ts : List (Int × Int)), i = .int .i64 (k : Int) ∧ t = .slice ta ts.length tc ∧ k ≤ dl ∧ wr.ownsRow X.heap.size 43 2 (.slice ta ts.length tc) ts.length (flat txCells ts) ∧ Hid (ts = toldT p (doubts.take k)) ∧ ts.length ≤ k ∧ X.heap.size ≤ wr.heap.size ∧ Made W wr W.heap.size m ⟨a0, il, c0, a1, ll, c1, a2, dl, c2, a3, ol, c3, items, locks, ((doubts.take k).map (agedD p) ++ doubts.drop k), over⟩) (fun i _ _ => dl - (intOf i).toNat)
    case atStart => exact ⟨0, none, 0, [], rfl, rfl, Nat.zero_le _, World.ownsRow_nil _ _ _ _, rfl, Nat.le_refl _, Nat.le_refl _, hM0⟩
    case round =>
      obtain ⟨k, ta, tc, ts, rfl, rfl, hk, hto, hts, htk, zwr, hM⟩ := hrel
      obtain ⟨mz, x0, x1, x2, x3, f0, f1, f2, f3⟩ := hM.cells
      simp only [] at x0 x1 x2 x3
      by_cases hlt : k < dl
      · have hlt' : (k : Int) < (dl : Int) := by omega
        obtain ⟨g, off, rfl, _, _⟩ := hM.own.isStore.doubts.2.2.2.2 (by show 0 < dl; omega)
        have hkl : k < doubts.length := by rw [HD.out]; exact hlt
        have HMS : Hid (((doubts.take k).map (agedD p) ++ doubts.drop k).set k (agedD p (doubts.getD k default)) = (doubts.take (k + 1)).map (agedD p) ++ doubts.drop (k + 1)) := mid_set _ _ hkl
        have HTO : Hid (toldT p (doubts.take (k + 1)) = ts ++ (if p ≤ (doubts.getD k default).age + 1 then [(doubts.getD k default).t] else [])) := by rw [hts.out]; exact told_at p doubts hkl
        have HMG : Hid (((doubts.take k).map (agedD p) ++ doubts.drop k).getD k default = doubts.getD k default) := mid_get _ _ hkl
        have hag := HAG.out k hlt
        obtain ⟨d, ed⟩ : ∃ d, d = doubts.getD k default := ⟨_, rfl⟩
        rw [← ed] at HMS HTO HMG hag
        clear ed
        obtain ⟨⟨tsi, tnu⟩, ag⟩ := d
        simp only [] at hag HTO
        have HM1 : Hid (∀ v, Made W (wr.setCell ⟨g, k * 3 + 2, none⟩ (.int .i64 v)) W.heap.size m ⟨a0, il, c0, a1, ll, c1, some ⟨g, off, none⟩, dl, c2, a3, ol, c3, items, locks, ((doubts.take k).map (agedD p) ++ doubts.drop k).set k ⟨(tsi, tnu), v⟩, over⟩) := fun v => hM.cell_doubts (g := g) (off := off) rfl (i := k) (j := 2) hlt (by decide) (.int .i64 v) ⟨(tsi, tnu), v⟩ (by simp only []; rw [HMG.out]; rfl)
        obtain ⟨rfl, hCg, hgz, hgm, hcl, _⟩ := hM.one_doubts (g := g) (off := off) rfl hlt default
        simp only [] at hcl
        rw [HMG.out] at hcl
        have hgX : g < X.heap.size := HU.out.doubts g rfl
        have e0 := (hcl 0 (by decide)).2.2
        have e1 := (hcl 1 (by decide)).2.2
        have e2 := (hcl 2 (by decide)).2.2
        have h2' := (hcl 2 (by decide)).1
        simp only [DbV.cells, List.getElem?_cons_zero, List.getElem?_cons_succ, Nat.add_zero] at e0 e1 e2
        clear hcl
        have hwr : IntKind.i64.wrap (ag + 1) = ag + 1 := by apply wrap_in <;> omega
        by_cases hp : p ≤ ag + 1
        · have HTT : Hid (toldT p (doubts.take (k + 1)) = ts ++ [(tsi, tnu)]) := by show _ = _; rw [HTO.out, if_pos hp]
          have HMM : Hid (((doubts.take k).map (agedD p) ++ doubts.drop k).set k ⟨(tsi, tnu), 0⟩ = (doubts.take (k + 1)).map (agedD p) ++ doubts.drop (k + 1)) := by show _ = _; rw [← HMS.out]; simp [agedD, hp]
          clear HTO HMS
          obtain ⟨V, hV⟩ : ∃ V, V = wr.setCell ⟨g, k * 3 + 2, none⟩ (.int .i64 (ag + 1)) := ⟨_, rfl⟩
          have hM1 := HM1.out (ag + 1)
          rw [← hV] at hM1
          have to1 : V.ownsRow X.heap.size 43 2 (.slice ta ts.length tc) ts.length (flat txCells ts) := by rw [hV]; exact hto.kept (grown_setCell wr ⟨g, k * 3 + 2, none⟩ _) (ne_own (fun q e => (hto.lt q e).1) hgX)
          have zV : X.heap.size ≤ V.heap.size := by rw [hV]; simpa using zwr
          have HG1 : Hid ((((doubts.take k).map (agedD p) ++ doubts.drop k).set k ⟨(tsi, tnu), ag + 1⟩).getD k default = ⟨(tsi, tnu), ag + 1⟩) := set_getD _ _ _ (by simp; omega)
          have HSS : Hid ((((doubts.take k).map (agedD p) ++ doubts.drop k).set k ⟨(tsi, tnu), ag + 1⟩).set k ⟨(tsi, tnu), 0⟩ = ((doubts.take k).map (agedD p) ++ doubts.drop k).set k ⟨(tsi, tnu), 0⟩) := List.set_set ..
          go_upto_region 14 with (fail)
          rw [← hV]
          clear hV e0 e1 e2 h2' x0 x1 x2 x3 f0 f1 f2 f3 mz
          obtain ⟨_, _, _, _, hcl, _⟩ := hM1.one_doubts (g := g) (off := 0) rfl hlt default
          simp only [] at hcl
          rw [HG1.out] at hcl
          have e0 := (hcl 0 (by decide)).2.2
          have e1 := (hcl 1 (by decide)).2.2
          have e2 := (hcl 2 (by decide)).2.2
          simp only [DbV.cells, List.getElem?_cons_zero, List.getElem?_cons_succ, Nat.add_zero] at e0 e1 e2
          clear hcl
          go_upto_region 15 with (at_builtin; go_loud (refine wpList_append_row E4 (by rfl) _ _ (by rfl) X.heap.size (.slice ta ts.length tc) ts.length ts (by rfl) (own_below to1 ((Below.refl _ _).alloc (Nat.le_refl _) _)) _ 1 1 [(tsi, tnu)] (by rfl) (isOne _ _ _ _ rfl rfl) (by unfold maxLen; omega) (by omega) (by simp; omega) ?_; intro a5 c5 w5 own5 gr5 at5))
          have hM5 := (hM1.below ((Below.refl _ _).alloc (Nat.le_refl _) _)).aside (B := X.heap.size) ⟨HU.out.m, HU.out.items, HU.out.locks, HU.out.doubts, HU.out.over⟩ gr5 (fun q hq => (to1.lt q hq).1) zX
          clear e0 e1 e2
          have hM6 := hM5.cell_doubts (g := g) (off := 0) rfl (i := k) (j := 2) hlt (by decide) (.int .i64 0) ⟨(tsi, tnu), 0⟩ (by simp only []; rw [HG1.out]; rfl)
          simp only [] at hM6
          rw [HSS.out, HMM.out] at hM6
          obtain ⟨_, _, _, _, hcl, _⟩ := hM5.one_doubts (g := g) (off := 0) rfl hlt default
          simp only [] at hcl
          rw [HG1.out] at hcl
          have e2 := (hcl 2 (by decide)).2.2
          have h2' := (hcl 2 (by decide)).1
          simp only [DbV.cells, List.getElem?_cons_zero, List.getElem?_cons_succ] at e2
          clear hcl
          have z5 : X.heap.size ≤ w5.heap.size := Nat.le_trans (by simp; omega) gr5.size
          go_wp2
          go_roundw
          case rel =>
            have el : (ts ++ [(tsi, tnu)]).length = ts.length + 1 := by simp
            refine ⟨k + 1, a5, c5, ts ++ [(tsi, tnu)], by go_num, by rw [el], by omega, ?_, HTT.out.symm, by rw [el]; omega, by simpa using z5, hM6⟩
            rw [el]
            exact own5.kept (grown_setCell w5 ⟨g, k * 3 + 2, none⟩ (.int .i64 0)) (ne_own (fun q e => (own5.lt q e).1) hgX)
          case measure => simp [intOf]; omega
        · have HTT : Hid (toldT p (doubts.take (k + 1)) = ts) := by show _ = _; rw [HTO.out, if_neg hp]; simp
          have HMM : Hid (((doubts.take k).map (agedD p) ++ doubts.drop k).set k ⟨(tsi, tnu), ag + 1⟩ = (doubts.take (k + 1)).map (agedD p) ++ doubts.drop (k + 1)) := by show _ = _; rw [← HMS.out]; simp [agedD, hp]
          clear HTO HMS
          have hp' : ¬ p ≤ ag + 1 := hp
          go_wp2
          go_roundw
          case rel =>
            refine ⟨k + 1, ta, tc, ts, by go_num, rfl, by omega, ?_, HTT.out.symm, by omega, by simpa using zwr, ?_⟩
            · exact hto.kept (grown_setCell wr ⟨g, k * 3 + 2, none⟩ (.int .i64 (ag + 1))) (ne_own (fun q e => (hto.lt q e).1) hgX)
            · rw [← HMM.out]; exact HM1.out _
          case measure => simp [intOf]; omega
      · obtain rfl : dl = k := by omega
        obtain ⟨⟨rz, r0, r1, r2, r3⟩, g0, g1, g2, g3⟩ := HP.out.out _ hM.bel
        have HTW : Hid (doubts.take dl = doubts) := List.take_of_length_le (by rw [HD.out]; exact Nat.le_refl _)
        have HDW : Hid (doubts.drop dl = []) := List.drop_eq_nil_of_le (by rw [HD.out]; exact Nat.le_refl _)
        rw [HTW.out, HDW.out, List.append_nil] at hM
        rw [HTW.out] at hts
        go_wp2
        refine bodyPost_ret (v := .tuple #[.agg #[.slice a0 il c0, .slice a1 ll c1, .slice a2 dl c2, .slice a3 ol c3], .slice ta ts.length tc, .int .i64 0]) (by simp [results, Try.results19, go_sem, r0, r1, r2, r3]) rfl ?_
        obtain ⟨_, t1, t2⟩ := HP.out.made hM (.slice a0 il c0) (.slice a1 ll c1) (.slice a2 dl c2) (.slice a3 ol c3)
        obtain ⟨y1, y2, y3⟩ := HF.out
        rw [y1, y2, y3, ← hts.out]
        have z1 := HP.out.z1
        have hb : ∀ (U : World) (j : Nat) (v : Value), U.ownsRow X.heap.size 43 2 (.slice ta ts.length tc) ts.length (flat txCells ts) → (U.setCell ⟨w.heap.size + 1, j, none⟩ v).ownsRow X.heap.size 43 2 (.slice ta ts.length tc) ts.length (flat txCells ts) := fun U j v hh => ownsRow_setCell_below hh (by show w.heap.size + 1 < X.heap.size; omega) v
        have hT4 := own_isRow tx_len (hb _ 3 (.slice a3 ol c3) (hb _ 2 (.slice a2 dl c2) (hb _ 1 (.slice a1 ll c1) (hb _ 0 (.slice a0 il c0) hto)))) rfl
        have zX9 : w.heap.size ≤ X.heap.size := by omega
        exact ⟨⟨a0, il, c0, a1, ll, c1, a2, dl, c2, a3, ol, c3, items, locks, doubts.map (agedD p), over⟩, ta, tc, rfl, t1, rfl, hT4.1, t2, fun b off e => ⟨Nat.le_trans zX9 (hT4.2 b off e).1, (hT4.2 b off e).2⟩⟩
theorem age_any_own (s : SV) (p : Int) (w : World) (h : IsStore w s) (hwf : ∀ t ∈ s.over, TxWf t) (h4 : s.ol * 16 ≤ 140737488351232) :
    Calls Try.prog 19 #[s.val, .int .i64 p] w fun e w' => ∃ (r : SV) (ta : Option Addr) (tc : Nat), e = .returned (.tuple #[r.val, .slice ta (ageTold s p).length tc, .int .i64 (ageErr s p)]) ∧ OwnStore w' w.heap.size r ∧ r.data = ageData s p ∧ IsTxns w' ta (ageTold s p).length tc (ageTold s p) ∧ Below w.heap.size w w' :=
  (age_any_at s p w h hwf h4).mono fun e w' ⟨r, ta, tc, q1, q2, q3, q4, q5, q6⟩ => ⟨r, ta, tc, q1, q2, q3, q4, q5⟩
theorem age_any (s : SV) (p : Int) (w : World) (h : IsStore w s) (hwf : ∀ t ∈ s.over, TxWf t) (h4 : s.ol * 16 ≤ 140737488351232) :
    Calls Try.prog 19 #[s.val, .int .i64 p] w fun e w' => ∃ (r : SV) (ta : Option Addr) (tc : Nat), e = .returned (.tuple #[r.val, .slice ta (ageTold s p).length tc, .int .i64 (ageErr s p)]) ∧ IsStore w' r ∧ r.data = ageData s p ∧ IsTxns w' ta (ageTold s p).length tc (ageTold s p) ∧ Below w.heap.size w w' :=
  (age_any_own s p w h hwf h4).mono fun e w' ⟨r, ta, tc, q1, q2, q3⟩ => ⟨r, ta, tc, q1, q2.isStore, q3⟩
end Go.Proofs.Ytmkobbgedhlcfaa.St
/- What a tick makes of a site's label, on plain data; and a box with an answer in which messages are put one behind the other. -/
namespace Go.Proofs.Ytmkobbgedhlcfaa.Pt
open Go.ChangeShapes Go.WideShapes Go.ChangeAt Go.RowKit
open Go.Proofs.Ytmkobbgedhlcfaa.St (SV PS IsStore IsRow storeOK TxWf BoxN boxn_new ageErr ageData ageTold toldT IsTxns OwnStore flat Elem isOne grown_setCell own_below own_isRow ne_own isRow_nil)
set_option linter.unusedVariables false

def doubtsMsg (me : Int) (t : Int × Int) : MV := ⟨9, me, t.1, t.1, t.2, 0, 0, 0, 0, 0, false, 0⟩
def tickMsgs (s me : Int) (ts : List (Int × Int)) : List MV := (ts.filter fun t => inR t.1 0 (s - 1)).map (doubtsMsg me)
def tickD (s : Int) (ls : List (Int × Int)) (p l me : Int) (n : Nat) (ss : List SV) : AD :=
  if siteErr s ls p l me n ss = 0 then ⟨ageData (ss.getD l.toNat default) p, tickMsgs s me (ageTold (ss.getD l.toNat default) p), [], []⟩ else AD.nil
theorem tick_at (s me : Int) (ts : List (Int × Int)) {k : Nat} (hk : k < ts.length) : tickMsgs s me (ts.take (k + 1)) = tickMsgs s me (ts.take k) ++ (if inR (ts.getD k default).1 0 (s - 1) then [doubtsMsg me (ts.getD k default)] else []) := by
  unfold tickMsgs
  rw [St.take_at hk, List.filter_append, List.map_append]
  congr 1
  generalize ts.getD k default = t
  by_cases h : inR t.1 0 (s - 1) = true <;> simp [h]
theorem tick_len (s me : Int) (ts : List (Int × Int)) : (tickMsgs s me ts).length ≤ ts.length := by
  unfold tickMsgs
  rw [List.length_map]
  exact List.length_filter_le _ _
/-- What siteErr grants. -/
theorem site_ok {s : Int} {ls : List (Int × Int)} {p l me : Int} {n : Nat} {ss : List SV} (h : siteErr s ls p l me n ss = 0) (hn : ss.length = n) :
    cfgFault s ls p = 0 ∧ (0 ≤ l ∧ l < (n : Int)) ∧ (0 ≤ me ∧ me ≤ s - 1) ∧ n = ls.length ∧ ∀ i, i < n → storeOK (ss.getD i default) = true := by
  unfold siteErr at h
  split at h
  · rename_i h1
    split at h
    · rename_i h2
      split at h
      · rename_i h3
        split at h
        · rename_i h4
          split at h
          · rename_i h5
            have h2' := plc_true h2
            refine ⟨h1, by omega, inR_of h3, h4, fun i hi => List.all_eq_true.1 h5 _ ?_⟩
            simp [List.getD, show i < ss.length by omega]
          · simp at h
        · simp at h
      · simp at h
    · simp at h
  · rename_i h1; exact absurd h h1

theorem msInfo : (Try.prog.info? 54).map (fun i => (i.zero, i.size, i.bytes)) = some (some (.agg #[.int .i64 0, .int .i64 0, .int .i64 0, .int .i64 0, .int .i64 0, .int .i64 0, .int .i64 0, .int .i64 0, .int .i64 0, .int .i64 0, .bool false, .int .i64 0]), 12, 96) := by kernel_rfl
theorem msElem : ∃ i, Elem 12 mcells 54 32 i (.agg #[.int .i64 0, .int .i64 0, .int .i64 0, .int .i64 0, .int .i64 0, .int .i64 0, .int .i64 0, .int .i64 0, .int .i64 0, .int .i64 0, .bool false, .int .i64 0]) 96 := by
  obtain ⟨j0, hj, lj0, lj1, lj2⟩ := info_parts msInfo
  exact ⟨j0, mcells_len, by decide, mcells_one, Try.underlying32, hj, lj0, lj1, lj2, rfl⟩
/-- An answer's box at A, made since Y: four slices of a store, messages in a row of the call's own from B on, no records, no notes. -/
structure TB (Y V : World) (A B : Nat) (r : SV) (a1 : Option Addr) (c1 : Nat) (ms : List MV) : Prop where
  box : BoxN V A 7 [.slice r.ia r.il r.ic, .slice r.la r.ll r.lc, .slice r.da r.dl r.dc, .slice r.oa r.ol r.oc, .slice a1 ms.length c1, .slice none 0 0, .slice none 0 0]
  row : V.ownsRow B 54 12 (.slice a1 ms.length c1) ms.length (flat mcells ms)
  bel : Below Y.heap.size Y V
  le : Y.heap.size ≤ A ∧ A < B ∧ B ≤ V.heap.size
theorem TB.below {Y V V' : World} {A B : Nat} {r : SV} {a1 : Option Addr} {c1 : Nat} {ms : List MV} (h : TB Y V A B r a1 c1 ms) (hb : Below V.heap.size V V') : TB Y V' A B r a1 c1 ms :=
  ⟨h.box.below hb h.box.lt, own_below h.row hb, h.bel.trans (hb.mono h.bel.size), h.le.1, h.le.2.1, Nat.le_trans h.le.2.2 hb.size⟩
theorem TB.put {Y V w5 : World} {A B : Nat} {r : SV} {a1 : Option Addr} {c1 : Nat} {ms : List MV} (h : TB Y V A B r a1 c1 ms) {a5 : Option Addr} {c5 : Nat} {m : MV} (gr : V.grownBy w5 (Value.slice a1 ms.length c1).ownBlock) (own : w5.ownsRow B 54 12 (.slice a5 (ms.length + 1) c5) (ms.length + 1) (flat mcells (ms ++ [m]))) :
    (w5.cell? ⟨A, 4, none⟩ = some (.slice a1 ms.length c1) ∧ w5.frozen? ⟨A, 4, none⟩ = false ∧ A < w5.heap.size) ∧ TB Y (w5.setCell ⟨A, 4, none⟩ (.slice a5 (ms.length + 1) c5)) A B r a5 c5 (ms ++ [m]) := by
  have hA : (Value.slice a1 ms.length c1).ownBlock ≠ some A := fun e => by have := (h.row.lt A e).1; have := h.le; omega
  have b5 : BoxN w5 A 7 _ := h.box.grown gr (fun e => hA e.symm)
  have el : (ms ++ [m]).length = ms.length + 1 := by simp
  have hA5 : (Value.slice a5 (ms.length + 1) c5).ownBlock ≠ some A := fun e => by have := (own.lt A e).1; have := h.le; omega
  refine ⟨⟨(b5.c 4 (by decide)).1, (b5.c 4 (by decide)).2, b5.lt⟩, ?_, ?_, ?_, ?_⟩
  · rw [el]; exact b5.set 4 (by decide) _
  · rw [el]; exact own.kept (grown_setCell w5 ⟨A, 4, none⟩ _) (.inr hA5)
  · exact (h.bel.grown gr h.bel.size (fun q hq => by have := (h.row.lt q hq).1; have := h.le; omega)).setCell (p := ⟨A, 4, none⟩) h.le.1 _
  · have := gr.size; have := h.le; exact ⟨h.le.1, h.le.2.1, by simp; omega⟩
theorem TB.new {Y : World} {r : SV} : TB Y (Y.alloc (.cells #[.slice r.ia r.il r.ic, .slice r.la r.ll r.lc, .slice r.da r.dl r.dc, .slice r.oa r.ol r.oc, .slice none 0 0, .slice none 0 0, .slice none 0 0] 36)) Y.heap.size (Y.heap.size + 1) r none 0 [] :=
  ⟨boxn_new Y #[.slice r.ia r.il r.ic, .slice r.la r.ll r.lc, .slice r.da r.dl r.dc, .slice r.oa r.ol r.oc, .slice none 0 0, .slice none 0 0, .slice none 0 0] 36 7 rfl, World.ownsRow_nil _ _ _ _, (Below.refl _ _).alloc (Nat.le_refl _) _, Nat.le_refl _, by omega, by simp⟩
/-- What the box says when all is put. -/
theorem TB.ans {Y V : World} {A B C : Nat} {r : SV} {a1 : Option Addr} {c1 : Nat} {ms : List MV} (h : TB Y V A B r a1 c1 ms) (hs : OwnStore Y C r) (hC : C ≤ Y.heap.size) {Q : Nat} (hQ : Q < C) {V' : World} (hg : V.grownBy V' (some Q)) :
    IsAns V' ⟨r, a1, ms.length, c1, none, 0, 0, none, 0, 0, ms, [], []⟩ ∧ AnsV.far ⟨r, a1, ms.length, c1, none, 0, 0, none, 0, 0, ms, [], []⟩ C := by
  have hs' := hs.isStore.below h.bel
  have hm := (own_isRow mcells_len h.row rfl)
  have hf : AnsV.far ⟨r, a1, ms.length, c1, none, 0, 0, none, 0, 0, ms, [], []⟩ C :=
    ⟨fun b o e => (hs.items.lt b (by rw [show r.ia = _ from e]; rfl)).1, fun b o e => (hs.locks.lt b (by rw [show r.la = _ from e]; rfl)).1, fun b o e => (hs.doubts.lt b (by rw [show r.da = _ from e]; rfl)).1, fun b o e => (hs.over.lt b (by rw [show r.oa = _ from e]; rfl)).1, fun b o e => by have := hm.2 b o e; have := h.le; omega, (fun b o e => by cases e), (fun b o e => by cases e)⟩
  have hi : IsAns V ⟨r, a1, ms.length, c1, none, 0, 0, none, 0, 0, ms, [], []⟩ := ⟨hs', hm.1, isRow_nil _ _ _, isRow_nil _ _ _⟩
  exact ⟨hi.grown hg hf hQ, hf⟩

end Go.Proofs.Ytmkobbgedhlcfaa.Pt
/- The contract of part.Tick. -/
namespace Go.Proofs.Ytmkobbgedhlcfaa.Pt
open Go.ChangeShapes Go.WideShapes Go.ChangeAt Go.RowKit
open Go.Proofs.Ytmkobbgedhlcfaa.St (SV PS IsStore IsRow storeOK TxWf BoxN boxn_new ageErr ageData ageTold toldT IsTxns OwnStore flat Elem isOne grown_setCell own_below own_isRow ne_own isRow_nil)
set_option linter.unusedVariables false

theorem qA {W V : World} (h : Below W.heap.size W V) (ob : Obj) : Below W.heap.size W (V.alloc ob) := h.alloc h.size ob
theorem qD {W V : World} (h : Below W.heap.size W V) : Below W.heap.size W V.drew := h.drew
theorem qS {W V : World} (h : Below W.heap.size W V) {b i : Nat} (hb : W.heap.size ≤ b) (v : Value) : Below W.heap.size W (V.setCell ⟨b, i, none⟩ v) := h.setCell (p := ⟨b, i, none⟩) hb v
theorem qT {W V U : World} (h : Below W.heap.size W V) (h2 : Below V.heap.size V U) : Below W.heap.size W U := h.trans (h2.mono h.size)
theorem grown_one {w u : World} {b i : Nat} {v : Value} (h : w.grownBy u (some b)) : w.grownBy (u.setCell ⟨b, i, none⟩ v) (some b) := h.trans (grown_setCell u ⟨b, i, none⟩ v)
theorem grown7 (w : World) (b : Nat) (v0 v1 v2 v3 v4 v5 v6 : Value) : w.grownBy (((((((w.setCell ⟨b, 0, none⟩ v0).setCell ⟨b, 1, none⟩ v1).setCell ⟨b, 2, none⟩ v2).setCell ⟨b, 3, none⟩ v3).setCell ⟨b, 4, none⟩ v4).setCell ⟨b, 5, none⟩ v5).setCell ⟨b, 6, none⟩ v6) (some b) :=
  grown_one (grown_one (grown_one (grown_one (grown_one (grown_one (grown_one (World.grownBy.refl _ _)))))))
theorem row_four {α : Type} [Inhabited α] {k : Nat} {cells : α → List Value} {U : World} {a : Option Addr} {n c : Nat} {xs : List α} (h : IsRow k cells U a n c xs) {g : Nat} (hn : ∀ b off, a = some ⟨b, off, none⟩ → b ≠ g) (v0 v1 v2 v3 : Value) :
    IsRow k cells ((((U.setCell ⟨g, 0, none⟩ v0).setCell ⟨g, 1, none⟩ v1).setCell ⟨g, 2, none⟩ v2).setCell ⟨g, 3, none⟩ v3) a n c xs :=
  row_grown h (grown_one (grown_one (grown_one (grown_one (World.grownBy.refl _ _)))) : U.grownBy _ (some g)) (fun b off e e' => hn b off e (by simpa using e'))

set_option maxRecDepth 100000 in
set_option maxHeartbeats 8000000 in
theorem tick_any (s p : Int) (a : Option Addr) (len cap : Nat) (ls : List (Int × Int)) (l me : Int) (sa : Option Addr) (n sc : Nat) (ss : List SV) (w : World) (hl : IsLabs w a len cap ls) (hS : IsStores w sa n sc ss) (hov : ∀ i, i < n → (ss.getD i default).ol * 16 ≤ 140737488351232) :
    Calls Try.prog 7 #[.agg #[.int .i64 s, .slice a len cap, .int .i64 p], .int .i64 l, .int .i64 me, .slice sa n sc] w fun e w' => ∃ v : AnsV, e = .returned (.tuple #[v.val, .int .i64 (siteErr s ls p l me n ss)]) ∧ IsAns w' v ∧ v.data = tickD s ls p l me n ss ∧ Below w.heap.size w w' ∧ v.far w.heap.size := by
  obtain ⟨iM, EM⟩ := msElem
  have hRf := fun w' h1 h2 => refuse_any s p a len cap ls l me sa n sc ss w' h1 h2
  have hok := fun h => site_ok (s := s) (ls := ls) (p := p) (l := l) (me := me) (n := n) (ss := ss) h hS.row.1
  have HD : Hid (tickD s ls p l me n ss = if siteErr s ls p l me n ss = 0 then ⟨ageData (ss.getD l.toNat default) p, tickMsgs s me (ageTold (ss.getD l.toNat default) p), [], []⟩ else AD.nil) := rfl
  obtain ⟨TD, eTD⟩ : ∃ x, x = tickD s ls p l me n ss := ⟨_, rfl⟩
  rw [← eTD] at HD ⊢
  clear eTD
  obtain ⟨E, eE⟩ : ∃ x, x = siteErr s ls p l me n ss := ⟨_, rfl⟩
  rw [← eE] at hRf hok HD ⊢
  clear eE
  obtain ⟨W, hW⟩ : ∃ W : World, W = (w.alloc (.cells #[.int .i64 s, .slice a len cap, .int .i64 p] 24)).alloc (.cells #[.slice none 0 0, .slice none 0 0, .slice none 0 0, .slice none 0 0, .slice none 0 0, .slice none 0 0, .slice none 0 0] 36) := ⟨_, rfl⟩
  have hB : Below w.heap.size w W := by rw [hW]; exact ((Below.refl _ _).alloc (Nat.le_refl _) _).alloc (by simp) _
  have z1 : w.heap.size + 1 < W.heap.size := by rw [hW]; simp
  have z0 : w.heap.size < W.heap.size := by omega
  have cb : BoxN W w.heap.size 3 [.int .i64 s, .slice a len cap, .int .i64 p] := by
    rw [hW]; exact (boxn_new w #[.int .i64 s, .slice a len cap, .int .i64 p] 24 3 rfl).below ((Below.refl _ _).alloc (Nat.le_refl _) _) (by simp)
  have qb : BoxN W (w.heap.size + 1) 7 [.slice none 0 0, .slice none 0 0, .slice none 0 0, .slice none 0 0, .slice none 0 0, .slice none 0 0, .slice none 0 0] := by
    rw [hW]; simpa using boxn_new (w.alloc (.cells #[.int .i64 s, .slice a len cap, .int .i64 p] 24)) #[.slice none 0 0, .slice none 0 0, .slice none 0 0, .slice none 0 0, .slice none 0 0, .slice none 0 0, .slice none 0 0] 36 7 rfl
  have KC : Hid (∀ V : World, Below W.heap.size W V → V.cell? ⟨w.heap.size, 0, none⟩ = some (.int .i64 s) ∧ V.cell? ⟨w.heap.size, 1, none⟩ = some (.slice a len cap) ∧ V.cell? ⟨w.heap.size, 2, none⟩ = some (.int .i64 p)) := fun V hV => ⟨(hV.cell (p := ⟨w.heap.size, 0, none⟩) z0).trans (cb.c 0 (by decide)).1, (hV.cell (p := ⟨w.heap.size, 1, none⟩) z0).trans (cb.c 1 (by decide)).1, (hV.cell (p := ⟨w.heap.size, 2, none⟩) z0).trans (cb.c 2 (by decide)).1⟩
  have KQ : Hid (∀ V : World, Below W.heap.size W V → V.cell? ⟨w.heap.size + 1, 0, none⟩ = some (.slice none 0 0) ∧ V.cell? ⟨w.heap.size + 1, 1, none⟩ = some (.slice none 0 0) ∧ V.cell? ⟨w.heap.size + 1, 2, none⟩ = some (.slice none 0 0) ∧ V.cell? ⟨w.heap.size + 1, 3, none⟩ = some (.slice none 0 0) ∧ V.cell? ⟨w.heap.size + 1, 4, none⟩ = some (.slice none 0 0) ∧ V.cell? ⟨w.heap.size + 1, 5, none⟩ = some (.slice none 0 0) ∧ V.cell? ⟨w.heap.size + 1, 6, none⟩ = some (.slice none 0 0) ∧ V.frozen? ⟨w.heap.size + 1, 0, none⟩ = false ∧ V.frozen? ⟨w.heap.size + 1, 1, none⟩ = false ∧ V.frozen? ⟨w.heap.size + 1, 2, none⟩ = false ∧ V.frozen? ⟨w.heap.size + 1, 3, none⟩ = false ∧ V.frozen? ⟨w.heap.size + 1, 4, none⟩ = false ∧ V.frozen? ⟨w.heap.size + 1, 5, none⟩ = false ∧ V.frozen? ⟨w.heap.size + 1, 6, none⟩ = false) := fun V hV => ⟨(hV.cell (p := ⟨w.heap.size + 1, 0, none⟩) z1).trans (qb.c 0 (by decide)).1, (hV.cell (p := ⟨w.heap.size + 1, 1, none⟩) z1).trans (qb.c 1 (by decide)).1, (hV.cell (p := ⟨w.heap.size + 1, 2, none⟩) z1).trans (qb.c 2 (by decide)).1, (hV.cell (p := ⟨w.heap.size + 1, 3, none⟩) z1).trans (qb.c 3 (by decide)).1, (hV.cell (p := ⟨w.heap.size + 1, 4, none⟩) z1).trans (qb.c 4 (by decide)).1, (hV.cell (p := ⟨w.heap.size + 1, 5, none⟩) z1).trans (qb.c 5 (by decide)).1, (hV.cell (p := ⟨w.heap.size + 1, 6, none⟩) z1).trans (qb.c 6 (by decide)).1, (hV.frozen (p := ⟨w.heap.size + 1, 0, none⟩) z1).trans (qb.c 0 (by decide)).2, (hV.frozen (p := ⟨w.heap.size + 1, 1, none⟩) z1).trans (qb.c 1 (by decide)).2, (hV.frozen (p := ⟨w.heap.size + 1, 2, none⟩) z1).trans (qb.c 2 (by decide)).2, (hV.frozen (p := ⟨w.heap.size + 1, 3, none⟩) z1).trans (qb.c 3 (by decide)).2, (hV.frozen (p := ⟨w.heap.size + 1, 4, none⟩) z1).trans (qb.c 4 (by decide)).2, (hV.frozen (p := ⟨w.heap.size + 1, 5, none⟩) z1).trans (qb.c 5 (by decide)).2, (hV.frozen (p := ⟨w.heap.size + 1, 6, none⟩) z1).trans (qb.c 6 (by decide)).2⟩
  have HS : Hid (∀ V : World, Below W.heap.size W V → IsLabs V a len cap ls ∧ IsStores V sa n sc ss ∧ Below w.heap.size w V) := fun V hV => by
    have hv := hB.trans (hV.mono hB.size)
    exact ⟨hl.below hv, hS.below hv, hv⟩
  clear cb qb
  obtain ⟨c0, c1, c2⟩ := KC.out _ (Below.refl _ _)
  obtain ⟨hl1, hs1, _⟩ := HS.out _ (Below.refl _ _)
  go_enter Try.func7, Try.ntmps7
  go_upto_region 1 with (fail)
  rw [← hW]
  clear hW
  go_upto_region 2 with (go_at_call 18; refine (hRf _ hl1 hs1).mono ?_; rintro e w1 ⟨rfl, hb1⟩)
  clear c0 c1 c2 hl1 hs1
  have zw1 := hb1.size
  by_cases hE : E = 0
  · obtain ⟨hcf, ⟨hl0, hln⟩, hme, hnl, hso⟩ := hok hE
    obtain ⟨q1, q2, q3, q4, q5, q6, q7⟩ := cfg_zero hcf
    subst hE
    obtain ⟨k, rfl⟩ : ∃ k : Nat, l = (k : Int) := ⟨l.toNat, by omega⟩
    have hk : k < n := by omega
    have hkn : (k : Int) < (n : Int) := by omega
    have hkc : k < sc := Nat.lt_of_lt_of_le hk hS.row.2.1
    have hov := hov k hk
    have hA0 : ageErr (ss.getD k default) p = 0 := by
      unfold ageErr
      rw [hso k hk, show St.inR p 1 1048576 = true from St.inR_true q6 q7]
      rfl
    have HTD : Hid (TD = ⟨ageData (ss.getD k default) p, tickMsgs s me (ageTold (ss.getD k default) p), [], []⟩) := by
      show _ = _
      rw [HD.out, if_pos rfl, Int.toNat_natCast]
    have HT24 : Hid ((ageTold (ss.getD k default) p).length ≤ 24) := by
      show _ ≤ _
      unfold ageTold
      rw [if_pos hA0]
      have := St.told_len p (ss.getD k default).doubts
      have h2 := (hS.each k hk).1
      have := (St.ok_sizes (hso k hk) h2).2.2
      have := h2.doubts.1
      omega
    clear hok HD hso hnl hcf q3 q4 q5 hme
    have hAge : ∀ U, Below w1.heap.size w1 U → Calls Try.prog 19 #[(ss.getD k default).val, .int .i64 p] U fun e w' => ∃ (r : SV) (ta : Option Addr) (tc : Nat), e = .returned (.tuple #[r.val, .slice ta (ageTold (ss.getD k default) p).length tc, .int .i64 0]) ∧ OwnStore w' U.heap.size r ∧ r.data = ageData (ss.getD k default) p ∧ IsTxns w' ta (ageTold (ss.getD k default) p).length tc (ageTold (ss.getD k default) p) ∧ Below U.heap.size U w' ∧ (∀ b off, ta = some ⟨b, off, none⟩ → U.heap.size ≤ b ∧ b < w'.heap.size) := fun U hU => by
      have hIs := ((HS.out _ hb1).2.1.below hU).each k hk |>.1
      have hwf := (hS.each k hk).2
      have := St.age_any_at (ss.getD k default) p U hIs hwf hov
      rw [hA0] at this
      exact this
    obtain ⟨b, off, hsa, hblt, y0, y1, y2, y3⟩ := (HS.out _ hb1).2.1.at hk
    subst hsa
    obtain ⟨T, eT⟩ : ∃ T, T = ageTold (ss.getD k default) p := ⟨_, rfl⟩
    obtain ⟨D, eD⟩ : ∃ D, D = ageData (ss.getD k default) p := ⟨_, rfl⟩
    rw [← eT, ← eD] at hAge HTD
    rw [← eT] at HT24
    clear eT eD hA0
    obtain ⟨⟨xa0, xn0, xc0, xa1, xn1, xc1, xa2, xn2, xc2, xa3, xn3, xc3, xi, xl, xd, xo⟩, eX⟩ : ∃ x, x = ss.getD k default := ⟨_, rfl⟩
    rw [← eX] at hAge y0 y1 y2 y3
    clear eX
    simp only [SV.val] at hAge y0 y1 y2 y3
    have HAge : Hid (∀ U, Below w1.heap.size w1 U → Calls Try.prog 19 #[.agg #[.slice xa0 xn0 xc0, .slice xa1 xn1 xc1, .slice xa2 xn2 xc2, .slice xa3 xn3 xc3], .int .i64 p] U fun e w' => ∃ (r : SV) (ta : Option Addr) (tc : Nat), e = .returned (.tuple #[r.val, .slice ta T.length tc, .int .i64 0]) ∧ OwnStore w' U.heap.size r ∧ r.data = D ∧ IsTxns w' ta T.length tc T ∧ Below U.heap.size U w' ∧ (∀ b off, ta = some ⟨b, off, none⟩ → U.heap.size ≤ b ∧ b < w'.heap.size)) := hAge
    clear hAge
    have zc2 := (KC.out _ hb1).2.2
    have zq : w.heap.size < w1.heap.size := by omega
    have KX : Hid (∀ U, Below w1.heap.size w1 U → U.cell? ⟨b, off + k * 4, none⟩ = some (.slice xa0 xn0 xc0) ∧ U.cell? ⟨b, off + k * 4 + 1, none⟩ = some (.slice xa1 xn1 xc1) ∧ U.cell? ⟨b, off + k * 4 + 2, none⟩ = some (.slice xa2 xn2 xc2) ∧ U.cell? ⟨b, off + k * 4 + 3, none⟩ = some (.slice xa3 xn3 xc3) ∧ U.cell? ⟨w.heap.size, 2, none⟩ = some (.int .i64 p)) := fun U hU =>
      ⟨(hU.cell (p := ⟨b, off + k * 4, none⟩) hblt).trans y0, (hU.cell (p := ⟨b, off + k * 4 + 1, none⟩) hblt).trans y1, (hU.cell (p := ⟨b, off + k * 4 + 2, none⟩) hblt).trans y2, (hU.cell (p := ⟨b, off + k * 4 + 3, none⟩) hblt).trans y3, (hU.cell (p := ⟨w.heap.size, 2, none⟩) zq).trans zc2⟩
    clear y0 y1 y2 y3 zc2
    go_upto_region 4 with (fail)
    go_cut [11, 12, 13] (fun s11 s12 s13 wc => ∃ (g : Nat) (r : SV) (ta : Option Addr) (tc : Nat), s11 = .pointer (some ⟨g, 0, none⟩) ∧ s12 = .slice ta T.length tc ∧ s13 = .int .i64 0 ∧ BoxN wc g 4 r.box ∧ OwnStore wc w1.heap.size r ∧ r.data = D ∧ IsTxns wc ta T.length tc T ∧ Below w1.heap.size w1 wc)
    case first =>
      go_region_held3 (fun U => U.cell? ⟨b, off + k * 4, none⟩ = some (.slice xa0 xn0 xc0) ∧ U.cell? ⟨b, off + k * 4 + 1, none⟩ = some (.slice xa1 xn1 xc1) ∧ U.cell? ⟨b, off + k * 4 + 2, none⟩ = some (.slice xa2 xn2 xc2) ∧ U.cell? ⟨b, off + k * 4 + 3, none⟩ = some (.slice xa3 xn3 xc3) ∧ U.cell? ⟨w.heap.size, 2, none⟩ = some (.int .i64 p))
        (exact KX.out _ (by (with_reducible repeat (first | exact Below.refl _ _ | exact hu2 | refine qD ?_ | refine qA ?_ _ | refine qS ?_ (by first | omega | (simp; done)) _)); done))
        ((go_at_call 19; refine (HAge.out _ (by (with_reducible repeat (first | exact Below.refl _ _ | exact hu2 | refine qD ?_ | refine qA ?_ _ | refine qS ?_ (by first | omega | (simp; done)) _)); done)).mono ?_; rintro e w2 ⟨⟨ra0, rn0, rc0, ra1, rn1, rc1, ra2, rn2, rc2, ra3, rn3, rc3, ri, rl, rd, ro⟩, ta, tc, rfl, hO2', hd2, hT2, hb2, hta⟩; simp only [SV.val]; have hu2 : Below w1.heap.size w1 w2 := qT (by (with_reducible repeat (first | exact Below.refl _ _ | exact hu2 | refine qD ?_ | refine qA ?_ _ | refine qS ?_ (by first | omega | (simp; done)) _)); done) hb2; have zu2 := hu2.size; (first | (have bx3 : BoxN w2 w1.heap.size 4 [.slice none 0 0, .slice none 0 0, .slice none 0 0, .slice none 0 0] := (boxn_new w1.drew #[.slice none 0 0, .slice none 0 0, .slice none 0 0, .slice none 0 0] 31 4 rfl).below hb2 (by simp); have s0 : _ = some (Value.slice none 0 0) := (bx3.c 0 (by decide)).1; have g0 := (bx3.c 0 (by decide)).2; have s1 : _ = some (Value.slice none 0 0) := (bx3.c 1 (by decide)).1; have g1 := (bx3.c 1 (by decide)).2; have s2 : _ = some (Value.slice none 0 0) := (bx3.c 2 (by decide)).1; have g2 := (bx3.c 2 (by decide)).2; have s3 : _ = some (Value.slice none 0 0) := (bx3.c 3 (by decide)).1; have g3 := (bx3.c 3 (by decide)).2; have zbx3 := bx3.lt) | skip)))
      all_goals
        go_wp2_with fail
        go_meet
        case rel => first | exact ⟨_, ⟨ra0, rn0, rc0, ra1, rn1, rc1, ra2, rn2, rc2, ra3, rn3, rc3, ri, rl, rd, ro⟩, ta, tc, rfl, rfl, rfl, (((bx3.set 0 (by decide) (.slice ra0 rn0 rc0)).set 1 (by decide) (.slice ra1 rn1 rc1)).set 2 (by decide) (.slice ra2 rn2 rc2)).set 3 (by decide) (.slice ra3 rn3 rc3), (hO2'.four (b := w1.heap.size) (by simp) _ _ _ _).base (by simp), hd2, row_four hT2 (fun b off e => by have := hta b off e; simp at this; omega) _ _ _ _, by (with_reducible repeat (first | exact Below.refl _ _ | exact hu2 | refine qD ?_ | refine qA ?_ _ | refine qS ?_ (by first | omega | (simp; done)) _)); done⟩ | exact ⟨_, ⟨ra0, rn0, rc0, ra1, rn1, rc1, ra2, rn2, rc2, ra3, rn3, rc3, ri, rl, rd, ro⟩, ta, tc, rfl, rfl, rfl, boxn_new w2 #[.slice ra0 rn0 rc0, .slice ra1 rn1 rc1, .slice ra2 rn2 rc2, .slice ra3 rn3 rc3] _ 4 rfl, (hO2'.below ((Below.refl _ _).alloc (Nat.le_refl _) _)).base (by first | omega | (simp; done) | (simp; omega)), hd2, St.IsRow.below hT2 ((Below.refl _ _).alloc (Nat.le_refl _) _), by (with_reducible repeat (first | exact Below.refl _ _ | exact hu2 | refine qD ?_ | refine qA ?_ _ | refine qS ?_ (by first | omega | (simp; done)) _)); done⟩
    case rest =>
      obtain ⟨g, ⟨ra0, rn0, rc0, ra1, rn1, rc1, ra2, rn2, rc2, ra3, rn3, rc3, ri, rl, rd, ro⟩, ta, tc, rfl, rfl, rfl, bxg, hO, hd, hT, bY⟩ := hcut
      obtain ⟨Y, eY⟩ : ∃ Y, Y = wc := ⟨_, rfl⟩
      rw [← eY] at bxg hO hT bY ⊢
      clear eY KX HAge
      simp only [SV.box] at bxg
      have bWY : Below W.heap.size W Y := hb1.trans (bY.mono zw1)
      have HO : Hid (OwnStore Y w1.heap.size ⟨ra0, rn0, rc0, ra1, rn1, rc1, ra2, rn2, rc2, ra3, rn3, rc3, ri, rl, rd, ro⟩) := hO
      clear hO
      have x0 := (bxg.c 0 (by decide)).1
      have x1 := (bxg.c 1 (by decide)).1
      have x2 := (bxg.c 2 (by decide)).1
      have x3 := (bxg.c 3 (by decide)).1
      simp only [List.getD_cons_zero, List.getD_cons_succ] at x0 x1 x2 x3
      have zg := bxg.lt
      go_upto_region 8 with (fail)
      obtain ⟨X, eX⟩ : ∃ X : World, X = Y.alloc (.cells #[.slice ra0 rn0 rc0, .slice ra1 rn1 rc1, .slice ra2 rn2 rc2, .slice ra3 rn3 rc3, .slice none 0 0, .slice none 0 0, .slice none 0 0] 36) := ⟨_, rfl⟩
      have hTB : TB Y X Y.heap.size (Y.heap.size + 1) ⟨ra0, rn0, rc0, ra1, rn1, rc1, ra2, rn2, rc2, ra3, rn3, rc3, ri, rl, rd, ro⟩ none 0 [] := by rw [eX]; exact TB.new (r := ⟨ra0, rn0, rc0, ra1, rn1, rc1, ra2, rn2, rc2, ra3, rn3, rc3, ri, rl, rd, ro⟩)
      rw [← eX]
      clear eX x0 x1 x2 x3 zg bxg
      have zY := bY.size
      have zQY : w.heap.size + 1 < Y.heap.size := by omega
      have HTl : Hid (T.length = T.length) := rfl
      have hmx : T.length ≤ 24 := HT24.out
      go_wp2
      go_loopw [45, 16] (fun s45 s16 wr => ∃ (i : Nat) (a1 : Option Addr) (c1 : Nat) (ms : List MV), s45 = .int .i64 (i : Int) ∧ i ≤ T.length ∧ ms.length ≤ i ∧ TB Y wr Y.heap.size (Y.heap.size + 1) ⟨ra0, rn0, rc0, ra1, rn1, rc1, ra2, rn2, rc2, ra3, rn3, rc3, ri, rl, rd, ro⟩ a1 c1 ms ∧ Hid (ms = tickMsgs s me (T.take i))) (fun s45 _ _ => T.length - (intOf s45).toNat)
      case atStart => exact ⟨0, none, 0, [], rfl, by omega, by simp, hTB, by show _ = _; simp [tickMsgs]⟩
      case round =>
        obtain ⟨i, a1, c1, ms, rfl, hi, hmi, hR, hms⟩ := hrel
        clear hTB
        by_cases hlt : i < T.length
        · have hlt' : (i : Int) < (T.length : Int) := by omega
          obtain ⟨b1, o1, rfl, zb1, hc⟩ := (St.IsRow.below hT hR.bel).2.2.2.2 (by omega)
          have t0 := hc i hlt 0 (by decide)
          have t1 := hc i hlt 1 (by decide)
          have HAT := tick_at s me T hlt
          obtain ⟨⟨tsi, tnu⟩, et⟩ : ∃ t, t = T.getD i default := ⟨_, rfl⟩
          rw [← et] at t0 t1 HAT
          simp only [] at HAT
          simp only [St.txCells, List.getElem?_cons_zero, List.getElem?_cons_succ, Nat.add_zero] at t0 t1
          have HA : Hid (tickMsgs s me (T.take (i + 1)) = tickMsgs s me (T.take i) ++ if inR tsi 0 (s - 1) = true then [doubtsMsg me (tsi, tnu)] else []) := HAT
          clear HAT et hc
          go_upto_region 11 with (fail)
          obtain ⟨U1, eU1⟩ : ∃ U : World, U = wr.alloc (.cells #[.int .i64 tsi, .int .i64 tnu] 43) := ⟨_, rfl⟩
          have bU1 : Below wr.heap.size wr U1 := by rw [eU1]; exact (Below.refl _ _).alloc (Nat.le_refl _) _
          have v0 : U1.cell? ⟨wr.heap.size, 0, none⟩ = some (.int .i64 tsi) := by rw [eU1]; go_simp
          have v1 : U1.cell? ⟨wr.heap.size, 1, none⟩ = some (.int .i64 tnu) := by rw [eU1]; go_simp
          have zU1 : wr.heap.size < U1.heap.size := by rw [eU1]; simp
          rw [← eU1]
          clear eU1 t0 t1
          have hR1 := hR.below bU1
          obtain ⟨c0, c1', c2⟩ := KC.out _ (bWY.trans (hR1.bel.mono bWY.size))
          have hSi := fun u => site_any s p a len cap tsi u ⟨q1, q2⟩
          cases hin : inR tsi 0 (s - 1) with
          | true =>
            rw [hin] at HA hSi
            simp only [if_true] at HA
            go_upto_region 12 with (go_at_call 20; refine (hSi _).mono ?_; rintro e U2 ⟨rfl, bU2⟩)
            have hR2 := hR1.below bU2
            have v0' := (bU2.cell (p := ⟨wr.heap.size, 0, none⟩) zU1).trans v0
            have v1' := (bU2.cell (p := ⟨wr.heap.size, 1, none⟩) zU1).trans v1
            have zU2 : wr.heap.size < U2.heap.size := Nat.lt_of_lt_of_le zU1 bU2.size
            have d4 := (hR2.box.c 4 (by decide)).1
            simp only [List.getD_cons_zero, List.getD_cons_succ] at d4
            have zA := hR2.box.lt
            clear v0 v1 c0 c1' c2
            obtain ⟨U3, eU3⟩ : ∃ U : World, U = U2.alloc (.cells #[.int .i64 9, .int .i64 me, .int .i64 tsi, .int .i64 tsi, .int .i64 tnu, .int .i64 0, .int .i64 0, .int .i64 0, .int .i64 0, .int .i64 0, .bool false, .int .i64 0] 54) := ⟨_, rfl⟩
            have bU3 : Below U2.heap.size U2 U3 := by rw [eU3]; exact (Below.refl _ _).alloc (Nat.le_refl _) _
            have hR3 := hR2.below bU3
            have hone : IsRow 12 mcells U3 (some ⟨U2.heap.size, 0, none⟩) 1 1 [doubtsMsg me (tsi, tnu)] := by rw [eU3]; exact isOne _ _ _ _ rfl rfl
            have HPut := fun a5 c5 w5 gr own => hR3.put (w5 := w5) (a5 := a5) (c5 := c5) (m := doubtsMsg me (tsi, tnu)) gr own
            go_wp2_with (at_builtin; rw [← eU3]; go_loud (refine St.wpList_append_row EM (by rfl) _ _ (by rfl) (Y.heap.size + 1) (.slice a1 ms.length c1) ms.length ms (by rfl) hR3.row _ 1 1 [doubtsMsg me (tsi, tnu)] (by rfl) hone (by unfold maxLen; omega) (by omega) hR3.le.2.2 ?_; intro a5 c5 w5 own5 gr5 at5; obtain ⟨⟨p4, f4, zA5⟩, hR6⟩ := HPut a5 c5 w5 gr5 own5))
            have HMS : Hid (ms ++ [doubtsMsg me (tsi, tnu)] = tickMsgs s me (T.take (i + 1))) := by show _ = _; rw [HA.out, hms.out]
            go_roundw
            case rel => exact ⟨i + 1, a5, c5, _, by go_num, by omega, by simp; omega, hR6, HMS⟩
            case measure => simp [intOf]; omega
          | false =>
            rw [hin] at HA hSi
            simp only [Bool.false_eq_true, if_false, List.append_nil] at HA
            go_wp2_with (go_at_call 20; refine (hSi _).mono ?_; rintro e U2 ⟨rfl, bU2⟩)
            go_roundw
            case rel => exact ⟨i + 1, a1, c1, ms, by go_num, by omega, by omega, hR1.below bU2, by show _ = _; rw [HA.out, hms.out]⟩
            case measure => simp [intOf]; omega
        · obtain rfl : i = T.length := by omega
          obtain ⟨k0, k1, k2, k3, k4, k5, k6, h0, h1, h2, h3, h4, h5, h6⟩ := KQ.out _ (bWY.trans (hR.bel.mono bWY.size))
          have v0 := (hR.box.c 0 (by decide)).1
          have v1 := (hR.box.c 1 (by decide)).1
          have v2 := (hR.box.c 2 (by decide)).1
          have v3 := (hR.box.c 3 (by decide)).1
          have v4 := (hR.box.c 4 (by decide)).1
          have v5 := (hR.box.c 5 (by decide)).1
          have v6 := (hR.box.c 6 (by decide)).1
          simp only [List.getD_cons_zero, List.getD_cons_succ] at v0 v1 v2 v3 v4 v5 v6
          have zA := hR.box.lt
          have zQ : w.heap.size + 1 < wr.heap.size := Nat.lt_of_lt_of_le zQY hR.bel.size
          have gF : wr.grownBy (((((((wr.setCell ⟨w.heap.size + 1, 0, none⟩ (.slice ra0 rn0 rc0)).setCell ⟨w.heap.size + 1, 1, none⟩ (.slice ra1 rn1 rc1)).setCell ⟨w.heap.size + 1, 2, none⟩ (.slice ra2 rn2 rc2)).setCell ⟨w.heap.size + 1, 3, none⟩ (.slice ra3 rn3 rc3)).setCell ⟨w.heap.size + 1, 4, none⟩ (.slice a1 ms.length c1)).setCell ⟨w.heap.size + 1, 5, none⟩ (.slice none 0 0)).setCell ⟨w.heap.size + 1, 6, none⟩ (.slice none 0 0)) (some (w.heap.size + 1)) := grown7 wr _ _ _ _ _ _ _ _
          obtain ⟨hAns, hFar⟩ := hR.ans HO.out zY (by omega : w.heap.size + 1 < w1.heap.size) gF
          have hbF : Below w.heap.size w (((((((wr.setCell ⟨w.heap.size + 1, 0, none⟩ (.slice ra0 rn0 rc0)).setCell ⟨w.heap.size + 1, 1, none⟩ (.slice ra1 rn1 rc1)).setCell ⟨w.heap.size + 1, 2, none⟩ (.slice ra2 rn2 rc2)).setCell ⟨w.heap.size + 1, 3, none⟩ (.slice ra3 rn3 rc3)).setCell ⟨w.heap.size + 1, 4, none⟩ (.slice a1 ms.length c1)).setCell ⟨w.heap.size + 1, 5, none⟩ (.slice none 0 0)).setCell ⟨w.heap.size + 1, 6, none⟩ (.slice none 0 0)) := ((HS.out _ (bWY.trans (hR.bel.mono bWY.size))).2.2).grown gF (HS.out _ (bWY.trans (hR.bel.mono bWY.size))).2.2.size (fun q hq => by simp at hq; omega)
          have HM : Hid (ms = tickMsgs s me T) := by show _ = _; rw [hms.out, List.take_length]
          go_wp2
          refine bodyPost_ret (v := .tuple #[.agg #[.slice ra0 rn0 rc0, .slice ra1 rn1 rc1, .slice ra2 rn2 rc2, .slice ra3 rn3 rc3, .slice a1 ms.length c1, .slice none 0 0, .slice none 0 0], .int .i64 0]) (by simp [results, Try.results7, go_sem, k0, k1, k2, k3, k4, k5, k6]) rfl ⟨_, rfl, hAns, ?_, hbF, hFar.mono (by omega)⟩
          rw [HTD.out, ← hd, ← HM.out]
          rfl
  · obtain ⟨k0, k1, k2, k3, k4, k5, k6, h0, h1, h2, h3, h4, h5, h6⟩ := KQ.out _ hb1
    have hwE := (HS.out _ hb1).2.2
    have HN : Hid (TD = AD.nil) := by show _ = _; rw [HD.out, if_neg hE]
    have zQ : w.heap.size + 1 < w1.heap.size := by omega
    clear HD hok
    go_wp2
    refine bodyPost_ret (v := .tuple #[.agg #[.slice none 0 0, .slice none 0 0, .slice none 0 0, .slice none 0 0, .slice none 0 0, .slice none 0 0, .slice none 0 0], .int .i64 E]) (by simp [results, Try.results7, go_sem, k0, k1, k2, k3, k4, k5, k6]) rfl ⟨AnsV.nil, rfl, isAns_nil _, by rw [HN.out]; rfl, ?_, AnsV.far_nil _⟩
    exact hwE.grown (grown7 w1 (w.heap.size + 1) _ _ _ _ _ _ _) hwE.size (fun q hq => by simp at hq; omega)

end Go.Proofs.Ytmkobbgedhlcfaa.Pt
