/- The contract of the document's ReadOf. -/
import Derived.Test.YtkpolhcgbldleaaSRead
import Derived.Test.YtkpolhcgbldleaaSCopy
import Derived.Test.YtkpolhcgbldleaaSRefFind
import Derived.Test.YtkpolhcgbldleaaSOthers
namespace Go.Proofs.Ytkpolhcgbldleaa.St
open Go.ChangeShapes Go.WideShapes Go.ChangeAt Go.RowKit
set_option linter.unusedVariables false

theorem oth_none {t : Int × Int} {key : Int} {l : List LkV} (h : idxI (byT t key) l < 0) : decide (0 < l.countP (othW t key)) = l.any (wrT key) := by
  have hn : l.any (byT t key) = false := by rw [← idxI_any]; simp; omega
  rw [Bool.eq_iff_iff]
  simp only [decide_eq_true_eq, List.countP_pos_iff, List.any_eq_true]
  constructor
  · rintro ⟨k, hk, e⟩
    refine ⟨k, hk, ?_⟩
    simp [othW, othR] at e
    simp [wrT, e]
  · rintro ⟨k, hk, e⟩
    refine ⟨k, hk, ?_⟩
    have := List.any_eq_false.1 hn k hk
    simp [wrT] at e
    simp [byT, e.2] at this
    simp [othW, othR, e, this]
theorem oth_all {t : Int × Int} {key : Int} {l : List LkV} : decide (0 < l.countP (othR t key)) = l.any (othR t key) := by
  rw [Bool.eq_iff_iff]
  simp only [decide_eq_true_eq, List.countP_pos_iff, List.any_eq_true]

set_option maxRecDepth 100000 in
set_option maxHeartbeats 8000000 in
theorem readRef_any (s : SV) (t : Int × Int) (key : Int) (w : World) (h : IsStore w s) (h1 : s.il * 24 ≤ 140737488351232) (h2 : s.ll * 48 ≤ 140737488351232) (h3 : s.dl * 24 ≤ 140737488351232) (h4 : s.ol * 16 ≤ 140737488351232) :
    Calls Try.prog 15 #[s.val, .agg #[.int .i64 t.1, .int .i64 t.2], .int .i64 key] w fun e w' => ∃ r : SV, e = .returned (.tuple #[r.val, .int .i64 (readVal s t key), .int .i64 (readVer s t key), .int .i64 (readErr s t key)]) ∧ IsStore w' r ∧ r.data = readData s t key ∧ Below w.heap.size w w' := by
  obtain ⟨i2, E2⟩ := lkElem
  obtain ⟨i3, E3⟩ := dbElem
  have hC : ∀ w', IsStore w' s → Calls Try.prog 36 #[s.val, .agg #[.int .i64 t.1, .int .i64 t.2], .int .i64 key] w' fun e w'' => e = .returned (.int .i64 (refErr s t key)) ∧ Below w'.heap.size w' w'' := fun w' h1 => askFault_any s t key w' h1
  have hIt := fun w' h1 => itemOf_any s key w' h1
  have hLo := fun w' h1 => lockOf_any s t key w' h1
  have hOt := fun w' h1 => others_any s t key w' h1
  have hOv := fun w' h1 => isOver_ref s t w' h1
  have hDo := fun w' h1 => doubtOf_ref s t w' h1
  have hCp := fun w' k => storeCopy_any s w' k h1 h2 h3 h4
  have hok : refErr s t key = 0 → s.il ≤ 8 ∧ s.ll ≤ 24 ∧ s.dl ≤ 24 := fun e => ok_sizes (by cases hs : storeOK s with | true => rfl | false => simp [refErr, hs] at e) h
  obtain ⟨E, e0⟩ : ∃ R : Int, R = readErr s t key := ⟨_, rfl⟩
  obtain ⟨D, e1⟩ : ∃ R, R = readData s t key := ⟨_, rfl⟩
  obtain ⟨V1, e2⟩ : ∃ R : Int, R = readVal s t key := ⟨_, rfl⟩
  obtain ⟨V2, e3⟩ : ∃ R : Int, R = readVer s t key := ⟨_, rfl⟩
  obtain ⟨F, e4⟩ : ∃ R : Int, R = refErr s t key := ⟨_, rfl⟩
  obtain ⟨i, e5⟩ : ∃ R : Int, R = idxI (byT t key) s.locks := ⟨_, rfl⟩
  obtain ⟨j, e6⟩ : ∃ R : Int, R = idxI (dbT t) s.doubts := ⟨_, rfl⟩
  obtain ⟨I, e7⟩ : ∃ R, R = itemAt s.items key := ⟨_, rfl⟩
  obtain ⟨O, e8⟩ : ∃ R, R = decide (t ∈ s.over) := ⟨_, rfl⟩
  obtain ⟨A, e9⟩ : ∃ R, R = s.locks.countP (othR t key) := ⟨_, rfl⟩
  obtain ⟨B, e10⟩ : ∃ R, R = s.locks.countP (othW t key) := ⟨_, rfl⟩
  have hi := idxI_lt (p := byT t key) (l := s.locks)
  rw [h.locks.1] at hi
  have HON : Hid (i < 0 → decide (0 < B) = s.locks.any (wrT key)) := by rw [e5, e10]; exact fun h => oth_none h
  have eE : Hid (E = if F = 0 then (if i < 0 then (if O then 13 else if s.locks.any (wrT key) then 11 else if 24 ≤ s.ll then 8 else 0) else 0) else F) := by show _ = _; rw [e4, e5, e8, ← h.locks.1]; simpa [readErr, rrErr] using e0
  have eD : Hid (D = if E = 0 then (if i < 0 then ⟨s.items, s.locks ++ [⟨t, key, false, 0, 0⟩], if j < 0 then s.doubts ++ [⟨t, 0⟩] else s.doubts, s.over⟩ else ⟨s.items, s.locks, s.doubts, s.over⟩) else PS.nil) := by
    rw [e0, e1]
    unfold readData
    by_cases hE : readErr s t key = 0
    · rw [if_pos hE, if_pos hE, e5]
      by_cases h0 : idxI (byT t key) s.locks < 0
      · rw [if_pos h0, if_pos h0]
        have hL : holdL s.locks ⟨t, key, false, 0, 0⟩ = s.locks ++ [⟨t, key, false, 0, 0⟩] := by unfold holdL; rw [if_neg (by simp only []; omega)]
        have hD : holdD s.doubts t = if j < 0 then s.doubts ++ [⟨t, 0⟩] else s.doubts := by
          unfold holdD
          rw [← idxI_any, ← e6]
          by_cases hj : j < 0
          · rw [if_pos hj, if_neg (by simp; omega)]
          · rw [if_neg hj, if_pos (by simp; omega)]
        rw [hL, hD]
        rfl
      · rw [if_neg h0, if_neg h0]
        rfl
    · rw [if_neg hE, if_neg hE]
      rfl
  have eV1 : Hid (V1 = if E = 0 then (if 0 ≤ i ∧ (s.locks.getD i.toNat default).write = true then (s.locks.getD i.toNat default).value else I.value) else 0) := by rw [e0, e5, e7]; exact e2
  have eV2 : Hid (V2 = if E = 0 then I.version else 0) := by rw [e0, e7]; exact e3
  have HBAD : Hid (E ≠ 0 → V1 = 0 ∧ V2 = 0 ∧ D = PS.nil) := fun hE => ⟨by rw [eV1.out, if_neg hE], by rw [eV2.out, if_neg hE], by rw [eD.out, if_neg hE]⟩
  rw [← e0, ← e1, ← e2, ← e3]
  rw [← e4] at hC hok
  rw [← e5] at hLo hi
  rw [← e6] at hDo
  rw [← e7] at hIt
  rw [← e8] at hOv
  rw [← e9, ← e10] at hOt
  clear e0 e1 e2 e3 e4 e5 e6 e7 e8 e9 e10
  obtain ⟨ik, iv, iw⟩ := I
  simp only [ItV.val] at hIt eV1 eV2
  have hh := h
  obtain ⟨ia, il, ic, la, ll, lc, da, dl, dc, oa, ol, oc, items, locks, doubts, over⟩ := s
  obtain ⟨ts, tn⟩ := t
  simp only [SV.val] at *
  obtain ⟨AW, eAW⟩ : ∃ R, R = locks.any (wrT key) := ⟨_, rfl⟩
  rw [← eAW] at HON eE
  clear eAW
  obtain ⟨W, hW⟩ : ∃ W : World, W = (((w.alloc (.cells #[.slice ia il ic, .slice la ll lc, .slice da dl dc, .slice oa ol oc] 27)).alloc (.cells #[.int .i64 ts, .int .i64 tn] 36)).alloc (.cells #[.slice none 0 0, .slice none 0 0, .slice none 0 0, .slice none 0 0] 27)) := ⟨_, rfl⟩
  have hB : Below w.heap.size w W := by rw [hW]; exact ((((Below.refl _ _).alloc (Nat.le_refl _) _).alloc (by simp) _).alloc (by simp; omega) _)
  have zW : W.heap.size = w.heap.size + 3 := by rw [hW]; simp
  have zb0 : w.heap.size < W.heap.size := by omega
  have zb1 : w.heap.size + 1 < W.heap.size := by omega
  have zb2 : w.heap.size + 1 + 1 < W.heap.size := by omega
  have HZW : Hid (W.heap.size = w.heap.size + 3) := zW
  clear zW
  have c0 : W.cell? ⟨w.heap.size, 0, none⟩ = some (.slice ia il ic) := by rw [hW]; go_simp
  have c1 : W.cell? ⟨w.heap.size, 1, none⟩ = some (.slice la ll lc) := by rw [hW]; go_simp
  have c2 : W.cell? ⟨w.heap.size, 2, none⟩ = some (.slice da dl dc) := by rw [hW]; go_simp
  have c3 : W.cell? ⟨w.heap.size, 3, none⟩ = some (.slice oa ol oc) := by rw [hW]; go_simp
  have t0 : W.cell? ⟨w.heap.size + 1, 0, none⟩ = some (.int .i64 ts) := by rw [hW]; go_simp
  have t1 : W.cell? ⟨w.heap.size + 1, 1, none⟩ = some (.int .i64 tn) := by rw [hW]; go_simp
  have r0 : W.cell? ⟨w.heap.size + 1 + 1, 0, none⟩ = some (.slice none 0 0) := by rw [hW]; go_simp
  have r1 : W.cell? ⟨w.heap.size + 1 + 1, 1, none⟩ = some (.slice none 0 0) := by rw [hW]; go_simp
  have r2 : W.cell? ⟨w.heap.size + 1 + 1, 2, none⟩ = some (.slice none 0 0) := by rw [hW]; go_simp
  have r3 : W.cell? ⟨w.heap.size + 1 + 1, 3, none⟩ = some (.slice none 0 0) := by rw [hW]; go_simp
  have rf0 : W.frozen? ⟨w.heap.size + 1 + 1, 0, none⟩ = false := by rw [hW]; go_simp
  have rf1 : W.frozen? ⟨w.heap.size + 1 + 1, 1, none⟩ = false := by rw [hW]; go_simp
  have rf2 : W.frozen? ⟨w.heap.size + 1 + 1, 2, none⟩ = false := by rw [hW]; go_simp
  have rf3 : W.frozen? ⟨w.heap.size + 1 + 1, 3, none⟩ = false := by rw [hW]; go_simp
  have rz : w.heap.size + 1 + 1 < W.heap.size := zb2
  have KA : Hid (∀ U : World, Below W.heap.size W U → U.cell? ⟨w.heap.size, 0, none⟩ = some (.slice ia il ic) ∧ U.cell? ⟨w.heap.size, 1, none⟩ = some (.slice la ll lc) ∧ U.cell? ⟨w.heap.size, 2, none⟩ = some (.slice da dl dc) ∧ U.cell? ⟨w.heap.size, 3, none⟩ = some (.slice oa ol oc) ∧ U.cell? ⟨w.heap.size + 1, 0, none⟩ = some (.int .i64 ts) ∧ U.cell? ⟨w.heap.size + 1, 1, none⟩ = some (.int .i64 tn) ∧ U.cell? ⟨w.heap.size + 1 + 1, 0, none⟩ = some (.slice none 0 0) ∧ U.cell? ⟨w.heap.size + 1 + 1, 1, none⟩ = some (.slice none 0 0) ∧ U.cell? ⟨w.heap.size + 1 + 1, 2, none⟩ = some (.slice none 0 0) ∧ U.cell? ⟨w.heap.size + 1 + 1, 3, none⟩ = some (.slice none 0 0) ∧ U.frozen? ⟨w.heap.size + 1 + 1, 0, none⟩ = false ∧ U.frozen? ⟨w.heap.size + 1 + 1, 1, none⟩ = false ∧ U.frozen? ⟨w.heap.size + 1 + 1, 2, none⟩ = false ∧ U.frozen? ⟨w.heap.size + 1 + 1, 3, none⟩ = false ∧ w.heap.size + 1 + 1 < U.heap.size) := fun U hU => ⟨(hU.cell (p := ⟨w.heap.size, 0, none⟩) zb0).trans c0, (hU.cell (p := ⟨w.heap.size, 1, none⟩) zb0).trans c1, (hU.cell (p := ⟨w.heap.size, 2, none⟩) zb0).trans c2, (hU.cell (p := ⟨w.heap.size, 3, none⟩) zb0).trans c3, (hU.cell (p := ⟨w.heap.size + 1, 0, none⟩) zb1).trans t0, (hU.cell (p := ⟨w.heap.size + 1, 1, none⟩) zb1).trans t1, (hU.cell (p := ⟨w.heap.size + 1 + 1, 0, none⟩) zb2).trans r0, (hU.cell (p := ⟨w.heap.size + 1 + 1, 1, none⟩) zb2).trans r1, (hU.cell (p := ⟨w.heap.size + 1 + 1, 2, none⟩) zb2).trans r2, (hU.cell (p := ⟨w.heap.size + 1 + 1, 3, none⟩) zb2).trans r3, (hU.frozen (p := ⟨w.heap.size + 1 + 1, 0, none⟩) zb2).trans rf0, (hU.frozen (p := ⟨w.heap.size + 1 + 1, 1, none⟩) zb2).trans rf1, (hU.frozen (p := ⟨w.heap.size + 1 + 1, 2, none⟩) zb2).trans rf2, (hU.frozen (p := ⟨w.heap.size + 1 + 1, 3, none⟩) zb2).trans rf3, Nat.lt_of_lt_of_le zb2 hU.size⟩
  have HBW : Hid (∀ b off, la = some ⟨b, off, none⟩ → 0 < ll → b ≠ w.heap.size + 1 + 1) := fun b off e hp => by
    obtain ⟨b', off', e', hl, _⟩ := hh.locks.2.2.2.2 hp
    simp only [] at e'
    rw [e] at e'
    simp at e'
    omega
  have hSW := hh.below hB
  have HS : Hid (∀ U : World, Below W.heap.size W U → IsStore U ⟨ia, il, ic, la, ll, lc, da, dl, dc, oa, ol, oc, items, locks, doubts, over⟩) := fun U hU => hSW.below hU
  clear hh h
  go_enter Try.func15, Try.ntmps15
  go_upto_region 1 with (fail)
  rw [← hW]
  clear hW
  by_cases hF : F = 0
  · subst hF
    obtain ⟨q1, q2, q3⟩ := hok rfl
    clear hok
    go_upto_region 5 with (first
      | (go_at_call 36; refine (hC _ hSW).mono ?_; rintro e w1 ⟨rfl, hb1⟩; clear c0 c1 c2 c3 t0 t1 r0 r1 r2 r3 rf0 rf1 rf2 rf3 rz; obtain ⟨c0, c1, c2, c3, t0, t1, r0, r1, r2, r3, rf0, rf1, rf2, rf3, rz⟩ := KA.out _ hb1; have hS1 := HS.out _ hb1)
      | (go_at_call 9; refine (hCp _ hS1).mono ?_; rintro e w2 ⟨⟨a0, n0, u0, a1, n1, u1, a2, n2, u2, a3, n3, u3, items', locks', doubts', over'⟩, rfl, hsame, hown, hb2'⟩; obtain ⟨v1, v2, v3, v4, v5, v6, v7, v8⟩ := hsame; simp only [] at v1 v2 v3 v4 v5 v6 v7 v8; obtain rfl := v1.symm; obtain rfl := v2.symm; obtain rfl := v3.symm; obtain rfl := v4.symm; obtain rfl := v5.symm; obtain rfl := v6.symm; obtain rfl := v7.symm; obtain rfl := v8.symm; simp only []; have hb2 : Below W.heap.size W w2 := hb1.trans (hb2'.mono hb1.size)))
    obtain ⟨X, hX⟩ : ∃ X : World, X = w2.alloc (.cells #[.slice a0 il u0, .slice a1 ll u1, .slice a2 dl u2, .slice a3 ol u3] 27) := ⟨_, rfl⟩
    have hM0 : Made W X W.heap.size w2.heap.size ⟨a0, il, u0, a1, ll, u1, a2, dl, u2, a3, ol, u3, items, locks, doubts, over⟩ := by
      have hb3 : Below w2.heap.size w2 X := by rw [hX]; exact (Below.refl _ _).alloc (Nat.le_refl _) _
      refine Made.new (hown.base hb1.size) hb2 hb3 (Nat.le_refl _) ?_ hb2.size
      rw [hX]
      exact boxn_new w2 #[.slice a0 il u0, .slice a1 ll u1, .slice a2 dl u2, .slice a3 ol u3] 27 4 rfl
    rw [← hX]
    obtain ⟨m, em⟩ : ∃ m, m = w2.heap.size := ⟨_, rfl⟩
    have zm : W.heap.size ≤ m := by rw [em]; exact hb2.size
    rw [← em] at hM0 ⊢
    clear hX hown em c0 c1 c2 c3 t0 t1 r0 r1 r2 r3 rf0 rf1 rf2 rf3 rz hS1
    obtain ⟨c0, c1, c2, c3, t0, t1, r0, r1, r2, r3, rf0, rf1, rf2, rf3, rz⟩ := KA.out _ hM0.bel
    have hI1 := (HS.out _ hM0.bel).items
    simp only [] at hI1
    go_upto_region 6 with (go_at_call 37; refine (hIt _ hI1).mono ?_; rintro e w3 ⟨rfl, hb3⟩; simp only [])
    obtain ⟨Y, hY⟩ : ∃ Y : World, Y = w3.alloc (.cells #[.int .i64 ik, .int .i64 iv, .int .i64 iw] 61) := ⟨_, rfl⟩
    have bx : BoxN Y w3.heap.size 3 [.int .i64 ik, .int .i64 iv, .int .i64 iw] := by rw [hY]; exact boxn_new w3 #[.int .i64 ik, .int .i64 iv, .int .i64 iw] 61 3 rfl
    have hbXY : Below X.heap.size X Y := by rw [hY]; exact hb3.alloc hb3.size _
    rw [← hY]
    obtain ⟨mx, emx⟩ : ∃ mx, mx = w3.heap.size := ⟨_, rfl⟩
    have zXm : X.heap.size ≤ mx := by rw [emx]; exact hb3.size
    have zmx : m < mx := by rw [emx]; exact Nat.lt_of_lt_of_le hM0.box.lt hb3.size
    rw [← emx] at bx ⊢
    clear hY emx c0 c1 c2 c3 t0 t1 r0 r1 r2 r3 rf0 rf1 rf2 rf3 rz hI1 hb3
    have hM1 := hM0.below hbXY
    have HM : Hid (∀ U, Below Y.heap.size Y U → Made W U W.heap.size m ⟨a0, il, u0, a1, ll, u1, a2, dl, u2, a3, ol, u3, items, locks, doubts, over⟩ ∧ BoxN U mx 3 [.int .i64 ik, .int .i64 iv, .int .i64 iw]) := fun U hU => ⟨hM1.below hU, bx.below hU bx.lt⟩
    have HOX : Hid (Off ⟨a0, il, u0, a1, ll, u1, a2, dl, u2, a3, ol, u3, items, locks, doubts, over⟩ mx) := Off.of_lt hM0.own zXm
    have hbWY := hM1.bel
    clear hM0 hbXY bx
    obtain ⟨c0, c1, c2, c3, t0, t1, r0, r1, r2, r3, rf0, rf1, rf2, rf3, rz⟩ := KA.out _ hbWY
    have hL1 := (HS.out _ hbWY).locks
    simp only [] at hL1
    go_upto_region 7 with (go_at_call 38; refine (hLo _ hL1).mono ?_; rintro e w4 ⟨rfl, hb4⟩)
    clear c0 c1 c2 c3 t0 t1 r0 r1 r2 r3 rf0 rf1 rf2 rf3 rz hL1
    have hbW4 := hbWY.trans (hb4.mono hbWY.size)
    obtain ⟨c0, c1, c2, c3, t0, t1, r0, r1, r2, r3, rf0, rf1, rf2, rf3, rz⟩ := KA.out _ hbW4

    obtain ⟨hM4, bx4⟩ := HM.out _ hb4
    by_cases h0 : i < 0
    · have h0' : ¬ 0 ≤ i := by omega
      have hon := HON.out h0
      have hS4 := HS.out _ hbW4
      have hL4 := hS4.locks
      simp only [] at hL4
      go_upto_region 11 with (go_at_call 39; refine (hOt _ hL4).mono ?_; rintro e w5 ⟨rfl, hb5'⟩; have hb5 := hb4.trans (hb5'.mono hb4.size))
      clear c0 c1 c2 c3 t0 t1 r0 r1 r2 r3 rf0 rf1 rf2 rf3 rz hL4 hS4
      have hbW5 := hbWY.trans (hb5.mono hbWY.size)
      obtain ⟨c0, c1, c2, c3, t0, t1, r0, r1, r2, r3, rf0, rf1, rf2, rf3, rz⟩ := KA.out _ hbW5
      have hO5 := (HS.out _ hbW5).over
      simp only [] at hO5
      cases O with
      | true =>
        have hEE : E = 13 := by rw [eE.out]; simp [h0]
        have hE : E ≠ 0 := by rw [hEE]; decide
        go_upto_region 12 with (go_at_call 40; refine (hOv _ hO5).mono ?_; rintro e w6 ⟨rfl, hb6'⟩; have hb6 := hbW5.trans (hb6'.mono hbW5.size); clear c0 c1 c2 c3 t0 t1 r0 r1 r2 r3 rf0 rf1 rf2 rf3 rz; obtain ⟨c0, c1, c2, c3, t0, t1, r0, r1, r2, r3, rf0, rf1, rf2, rf3, rz⟩ := KA.out _ hb6)
        go_wp2
        refine bodyPost_ret (v := .tuple #[.agg #[.slice none 0 0, .slice none 0 0, .slice none 0 0, .slice none 0 0], .int .i64 0, .int .i64 0, .int .i64 13]) (by simp [results, Try.results15, go_sem, r0, r1, r2, r3]) rfl ?_
        obtain ⟨y1, y2, y3⟩ := HBAD.out hE
        rw [y1, y2, y3]
        try rw [hEE]
        exact ⟨SV.nil, rfl, isStore_nil _, rfl, below_four (hB.trans (hb6.mono hB.size)) (by omega) (.slice none 0 0) (.slice none 0 0) (.slice none 0 0) (.slice none 0 0)⟩
      | false =>
        go_upto_region 13 with (go_at_call 40; refine (hOv _ hO5).mono ?_; rintro e w6 ⟨rfl, hb6'⟩; have hb6 := hb5.trans (hb6'.mono hb5.size))
        clear c0 c1 c2 c3 t0 t1 r0 r1 r2 r3 rf0 rf1 rf2 rf3 rz hO5
        have hbW6 := hbWY.trans (hb6.mono hbWY.size)
        obtain ⟨c0, c1, c2, c3, t0, t1, r0, r1, r2, r3, rf0, rf1, rf2, rf3, rz⟩ := KA.out _ hbW6
        by_cases hBp : 0 < B
        · have hAW : AW = true := by rw [← hon]; simp [hBp]
          have hEE : E = 11 := by rw [eE.out]; simp [h0, hAW]
          have hE : E ≠ 0 := by rw [hEE]; decide
          have hBp' : (0 : Int) < (B : Int) := by omega
          go_wp2
          refine bodyPost_ret (v := .tuple #[.agg #[.slice none 0 0, .slice none 0 0, .slice none 0 0, .slice none 0 0], .int .i64 0, .int .i64 0, .int .i64 11]) (by simp [results, Try.results15, go_sem, r0, r1, r2, r3]) rfl ?_
          obtain ⟨y1, y2, y3⟩ := HBAD.out hE
          rw [y1, y2, y3]
          try rw [hEE]
          exact ⟨SV.nil, rfl, isStore_nil _, rfl, below_four (hB.trans (hbW6.mono hB.size)) (by omega) (.slice none 0 0) (.slice none 0 0) (.slice none 0 0) (.slice none 0 0)⟩
        · have hAW : AW = false := by rw [← hon]; simp [hBp]
          have hBp' : ¬ (0 : Int) < (B : Int) := by omega
          by_cases h24 : 24 ≤ ll
          · have h24' : (24 : Int) ≤ (ll : Int) := by omega
            have hEE : E = 8 := by rw [eE.out]; simp [h0, hAW, h24]
            have hE : E ≠ 0 := by rw [hEE]; decide
            go_wp2
            refine bodyPost_ret (v := .tuple #[.agg #[.slice none 0 0, .slice none 0 0, .slice none 0 0, .slice none 0 0], .int .i64 0, .int .i64 0, .int .i64 8]) (by simp [results, Try.results15, go_sem, r0, r1, r2, r3]) rfl ?_
            obtain ⟨y1, y2, y3⟩ := HBAD.out hE
            rw [y1, y2, y3]
            try rw [hEE]
            exact ⟨SV.nil, rfl, isStore_nil _, rfl, below_four (hB.trans (hbW6.mono hB.size)) (by omega) (.slice none 0 0) (.slice none 0 0) (.slice none 0 0) (.slice none 0 0)⟩
          · have h24' : ¬ (24 : Int) ≤ (ll : Int) := by omega
            have hE : E = 0 := by rw [eE.out]; simp [hAW, h24]
            have y1 : Hid (V1 = iv) := by show _ = _; rw [eV1.out, if_pos hE, if_neg (by omega)]
            have y2 : Hid (V2 = iw) := by show _ = _; rw [eV2.out, if_pos hE]
            have yD0 : Hid (D = ⟨items, locks ++ [⟨(ts, tn), key, false, 0, 0⟩], if j < 0 then doubts ++ [⟨(ts, tn), 0⟩] else doubts, over⟩) := by show _ = _; rw [eD.out, if_pos hE, if_pos h0]
            obtain ⟨hM6, bx6⟩ := HM.out _ hb6
            obtain ⟨mz, x0, x1, x2, x3, g0, g1, g2, g3⟩ := hM6.cells
            simp only [] at x0 x1 x2 x3
            have z6 := hM6.sz
            have bxl := bx6.lt
            go_upto_region 18 with (at_builtin; go_loud (refine wpList_append_row E2 (by rfl) _ _ (by rfl) W.heap.size (.slice a1 ll u1) ll locks (by rfl) (own_below hM6.own.locks ((Below.refl _ _).alloc (Nat.le_refl _) _)) _ 1 1 [⟨(ts, tn), key, false, 0, 0⟩] (by rfl) (isOne _ _ _ _ rfl rfl) (by unfold maxLen; omega) (by omega) (by simp; omega) ?_; intro a7 c7 w7 own7 gr7 at7; obtain ⟨cl7, fz7, hM7⟩ := hM6.put_locks ((Below.refl _ _).alloc (Nat.le_refl _) _) gr7 own7 at7; simp only [] at cl7))
            have bx7 := ((bx6.below ((Below.refl _ _).alloc (o := .cells #[.int .i64 ts, .int .i64 tn, .int .i64 key, .bool false, .int .i64 0, .int .i64 0] 63) (Nat.le_refl _)) bx6.lt).grown gr7 (fun e => HOX.out.l e.symm)).far (k := 1) (v := .slice a7 (ll + 1) c7) (c := m) (by omega)
            have f7 : Off ⟨a0, il, u0, a7, ll + 1, c7, a2, dl, u2, a3, ol, u3, items, locks ++ [⟨(ts, tn), key, false, 0, 0⟩], doubts, over⟩ mx := HOX.out.put_locks at7 (by simp; omega)
            obtain ⟨U7, hU7⟩ : ∃ U7 : World, U7 = w7.setCell ⟨m, 1, none⟩ (.slice a7 (ll + 1) c7) := ⟨_, rfl⟩
            rw [← hU7] at hM7 bx7 ⊢
            clear hU7 cl7 fz7 own7 gr7 at7 c0 c1 c2 c3 t0 t1 r0 r1 r2 r3 rf0 rf1 rf2 rf3 rz x0 x1 x2 x3 g0 g1 g2 g3 mz bxl hM6 bx6
            clear w7
            obtain ⟨c0, c1, c2, c3, t0, t1, r0, r1, r2, r3, rf0, rf1, rf2, rf3, rz⟩ := KA.out _ hM7.bel
            have hD7 := (HS.out _ hM7.bel).doubts
            simp only [] at hD7
            by_cases hj : j < 0
            · go_upto_region 19 with (go_at_call 41; refine (hDo _ hD7).mono ?_; rintro e w8 ⟨rfl, hb8⟩)
              have yD : Hid (D = ⟨items, locks ++ [⟨(ts, tn), key, false, 0, 0⟩], doubts ++ [⟨(ts, tn), 0⟩], over⟩) := by show _ = _; rw [yD0.out, if_pos hj]
              have hM8 := hM7.below hb8
              have bx8 := bx7.below hb8 bx7.lt
              clear c0 c1 c2 c3 t0 t1 r0 r1 r2 r3 rf0 rf1 rf2 rf3 rz hD7
              obtain ⟨c0, c1, c2, c3, t0, t1, r0, r1, r2, r3, rf0, rf1, rf2, rf3, rz⟩ := KA.out _ hM8.bel
              obtain ⟨mz, x0, x1, x2, x3, g0, g1, g2, g3⟩ := hM8.cells
              simp only [] at x0 x1 x2 x3
              have z8 := hM8.sz
              have bxl := bx8.lt
              go_upto_region 20 with (at_builtin; go_loud (refine wpList_append_row E3 (by rfl) _ _ (by rfl) W.heap.size (.slice a2 dl u2) dl doubts (by rfl) (own_below hM8.own.doubts ((Below.refl _ _).alloc (Nat.le_refl _) _)) _ 1 1 [⟨(ts, tn), 0⟩] (by rfl) (isOne _ _ _ _ rfl rfl) (by unfold maxLen; omega) (by omega) (by simp; omega) ?_; intro a9 c9 w9 own9 gr9 at9; obtain ⟨cl9, fz9, hM9⟩ := hM8.put_doubts ((Below.refl _ _).alloc (Nat.le_refl _) _) gr9 own9 at9; simp only [] at cl9))
              have bx9 := ((bx8.below ((Below.refl _ _).alloc (o := .cells #[.int .i64 ts, .int .i64 tn, .int .i64 0] 65) (Nat.le_refl _)) bx8.lt).grown gr9 (fun e => f7.d e.symm)).far (k := 2) (v := .slice a9 (dl + 1) c9) (c := m) (by omega)
              obtain ⟨U9, hU9⟩ : ∃ U9 : World, U9 = w9.setCell ⟨m, 2, none⟩ (.slice a9 (dl + 1) c9) := ⟨_, rfl⟩
              rw [← hU9] at hM9 bx9 ⊢
              clear hU9 cl9 fz9 own9 gr9 at9 x0 x1 x2 x3 g0 g1 g2 g3 mz bxl hM8 bx8 hM7 bx7
              clear w9
              have hD5 : Below U9.heap.size U9 U9.drew := (Below.refl _ _).drew
              clear c0 c1 c2 c3 t0 t1 r0 r1 r2 r3 rf0 rf1 rf2 rf3 rz
              obtain ⟨c0, c1, c2, c3, t0, t1, r0, r1, r2, r3, rf0, rf1, rf2, rf3, rz⟩ := KA.out _ hM9.bel
              have KY : U9.cell? ⟨m, 0, none⟩ = some (.slice a0 il u0) ∧ U9.cell? ⟨m, 1, none⟩ = some (.slice a7 (ll + 1) c7) ∧ U9.cell? ⟨m, 2, none⟩ = some (.slice a9 (dl + 1) c9) ∧ U9.cell? ⟨m, 3, none⟩ = some (.slice a3 ol u3) ∧ U9.cell? ⟨mx, 1, none⟩ = some (.int .i64 iv) ∧ U9.cell? ⟨mx, 2, none⟩ = some (.int .i64 iw) := by
                have hU := Below.refl U9.heap.size U9
                obtain ⟨_, h0, h1, h2, h3, _⟩ := (hM9.below hU).cells
                have bb := bx9.below hU bx9.lt
                exact ⟨h0, h1, h2, h3, (bb.c 1 (by decide)).1, (bb.c 2 (by decide)).1⟩
              obtain ⟨l0, l1, l2, l3, l4, l5⟩ := KY
              have mzz := hM9.box.lt
              have bzz := bx9.lt
              go_region
              all_goals
                go_wp2
                refine bodyPost_ret (v := .tuple #[.agg #[.slice a0 il u0, .slice a7 (ll + 1) c7, .slice a9 (dl + 1) c9, .slice a3 ol u3], .int .i64 iv, .int .i64 iw, .int .i64 0]) (by simp [results, Try.results15, go_sem, r0, r1, r2, r3]) rfl ?_
                rw [y1.out, y2.out, yD.out]
                try rw [hE]
                exact ⟨⟨a0, il, u0, a7, ll + 1, c7, a9, dl + 1, c9, a3, ol, u3, items, locks ++ [⟨(ts, tn), key, false, 0, 0⟩], doubts ++ [⟨(ts, tn), 0⟩], over⟩, rfl, ((hM9.own.four (b := w.heap.size + 1 + 1) (by omega) (.slice a0 il u0) (.slice a7 (ll + 1) c7) (.slice a9 (dl + 1) c9) (.slice a3 ol u3)).below ((Below.refl _ _).drew)).isStore, rfl, (below_four (hB.trans (hM9.bel.mono hB.size)) (by omega) (.slice a0 il u0) (.slice a7 (ll + 1) c7) (.slice a9 (dl + 1) c9) (.slice a3 ol u3)).drew⟩
            · go_upto_region 20 with (go_at_call 41; refine (hDo _ hD7).mono ?_; rintro e w8 ⟨rfl, hb8⟩)
              have yD : Hid (D = ⟨items, locks ++ [⟨(ts, tn), key, false, 0, 0⟩], doubts, over⟩) := by show _ = _; rw [yD0.out, if_neg (by omega)]
              have hM8 := hM7.below hb8
              have bx8 := bx7.below hb8 bx7.lt
              have hD5 : Below w8.heap.size w8 w8.drew := (Below.refl _ _).drew
              clear c0 c1 c2 c3 t0 t1 r0 r1 r2 r3 rf0 rf1 rf2 rf3 rz
              obtain ⟨c0, c1, c2, c3, t0, t1, r0, r1, r2, r3, rf0, rf1, rf2, rf3, rz⟩ := KA.out _ hM8.bel
              have KY : w8.cell? ⟨m, 0, none⟩ = some (.slice a0 il u0) ∧ w8.cell? ⟨m, 1, none⟩ = some (.slice a7 (ll + 1) c7) ∧ w8.cell? ⟨m, 2, none⟩ = some (.slice a2 dl u2) ∧ w8.cell? ⟨m, 3, none⟩ = some (.slice a3 ol u3) ∧ w8.cell? ⟨mx, 1, none⟩ = some (.int .i64 iv) ∧ w8.cell? ⟨mx, 2, none⟩ = some (.int .i64 iw) := by
                have hU := Below.refl w8.heap.size w8
                obtain ⟨_, h0, h1, h2, h3, _⟩ := (hM8.below hU).cells
                have bb := bx8.below hU bx8.lt
                exact ⟨h0, h1, h2, h3, (bb.c 1 (by decide)).1, (bb.c 2 (by decide)).1⟩
              obtain ⟨l0, l1, l2, l3, l4, l5⟩ := KY
              have mzz := hM8.box.lt
              have bzz := bx8.lt
              go_region
              all_goals
                go_wp2
                refine bodyPost_ret (v := .tuple #[.agg #[.slice a0 il u0, .slice a7 (ll + 1) c7, .slice a2 dl u2, .slice a3 ol u3], .int .i64 iv, .int .i64 iw, .int .i64 0]) (by simp [results, Try.results15, go_sem, r0, r1, r2, r3]) rfl ?_
                rw [y1.out, y2.out, yD.out]
                try rw [hE]
                exact ⟨⟨a0, il, u0, a7, ll + 1, c7, a2, dl, u2, a3, ol, u3, items, locks ++ [⟨(ts, tn), key, false, 0, 0⟩], doubts, over⟩, rfl, ((hM8.own.four (b := w.heap.size + 1 + 1) (by omega) (.slice a0 il u0) (.slice a7 (ll + 1) c7) (.slice a2 dl u2) (.slice a3 ol u3)).below ((Below.refl _ _).drew)).isStore, rfl, (below_four (hB.trans (hM8.bel.mono hB.size)) (by omega) (.slice a0 il u0) (.slice a7 (ll + 1) c7) (.slice a2 dl u2) (.slice a3 ol u3)).drew⟩
    · have h0' : 0 ≤ i := by omega
      obtain ⟨k, rfl⟩ : ∃ k : Nat, i = (k : Int) := ⟨i.toNat, by omega⟩
      have hk : k < ll := by omega
      have hk' : (k : Int) < (ll : Int) := by omega
      have hE : E = 0 := by rw [eE.out]; simp [h0]
      have yD : Hid (D = ⟨items, locks, doubts, over⟩) := by show _ = _; rw [eD.out, if_pos hE, if_neg h0]
      have y2 : Hid (V2 = iw) := by show _ = _; rw [eV2.out, if_pos hE]
      have y1 : Hid (V1 = if (locks.getD k default).write = true then (locks.getD k default).value else iv) := by
        show _ = _
        rw [eV1.out, if_pos hE]
        have : (0 : Int) ≤ (k : Int) := by omega
        simp only [this, true_and, Int.toNat_natCast]
      obtain ⟨b, off, rfl, zb, hc⟩ := (HS.out _ hbW4).locks.2.2.2.2 (by show 0 < ll; omega)
      have hcells := hc k hk
      simp only [] at hcells
      obtain ⟨x, ex⟩ : ∃ x, x = locks.getD k default := ⟨_, rfl⟩
      rw [← ex] at hcells y1
      clear ex hc
      obtain ⟨⟨ks, kn⟩, kk, kw, kv, ka⟩ := x
      have e3 := hcells 3 (by decide)
      have e4 := hcells 4 (by decide)
      simp only [LkV.cells, List.getElem?_cons_zero, List.getElem?_cons_succ] at e3 e4
      simp only [] at y1
      clear hcells
      cases kw with
      | true =>
        have HZB : Hid (∀ U, Below w4.heap.size w4 U → U.cell? ⟨b, off + k * 6 + 4, none⟩ = some (.int .i64 kv) ∧ U.cell? ⟨w.heap.size, 1, none⟩ = some (.slice (some ⟨b, off, none⟩) ll lc)) := fun U hU => ⟨(hU.cell (p := ⟨b, off + k * 6 + 4, none⟩) zb).trans e4, (hU.cell (p := ⟨w.heap.size, 1, none⟩) (by have := hbW4.size; show w.heap.size < _; omega)).trans c1⟩
        go_upto_region 8 with (fail)
        have hbres : b ≠ w.heap.size + 1 + 1 := HBW.out b off rfl (by omega)
        have hD5 : Below w4.heap.size w4 w4.drew := (Below.refl _ _).drew
        clear c0 c1 c2 c3 t0 t1 r0 r1 r2 r3 rf0 rf1 rf2 rf3 rz
        obtain ⟨c0, c1, c2, c3, t0, t1, r0, r1, r2, r3, rf0, rf1, rf2, rf3, rz⟩ := KA.out _ hM4.bel
        have KY : w4.cell? ⟨m, 0, none⟩ = some (.slice a0 il u0) ∧ w4.cell? ⟨m, 1, none⟩ = some (.slice a1 ll u1) ∧ w4.cell? ⟨m, 2, none⟩ = some (.slice a2 dl u2) ∧ w4.cell? ⟨m, 3, none⟩ = some (.slice a3 ol u3) ∧ w4.cell? ⟨w.heap.size, 1, none⟩ = some (.slice (some ⟨b, off, none⟩) ll lc) ∧ w4.cell? ⟨b, off + k * 6 + 4, none⟩ = some (.int .i64 kv) ∧ w4.cell? ⟨mx, 2, none⟩ = some (.int .i64 iw) := by
          have hU := Below.refl w4.heap.size w4
          obtain ⟨_, h0, h1, h2, h3, _⟩ := (hM4.below hU).cells
          have bb := bx4.below hU bx4.lt
          obtain ⟨z1, z2⟩ := HZB.out _ hU
          exact ⟨h0, h1, h2, h3, z2, z1, (bb.c 2 (by decide)).1⟩
        obtain ⟨l0, l1, l2, l3, l4, l5, l6⟩ := KY
        have mzz := hM4.box.lt
        have bzz := bx4.lt
        go_region
        all_goals
          go_wp2
          refine bodyPost_ret (v := .tuple #[.agg #[.slice a0 il u0, .slice a1 ll u1, .slice a2 dl u2, .slice a3 ol u3], .int .i64 kv, .int .i64 iw, .int .i64 0]) (by simp [results, Try.results15, go_sem, r0, r1, r2, r3]) rfl ?_
          rw [y1.out, y2.out, yD.out]
          try rw [hE]
          exact ⟨⟨a0, il, u0, a1, ll, u1, a2, dl, u2, a3, ol, u3, items, locks, doubts, over⟩, rfl, ((hM4.own.four (b := w.heap.size + 1 + 1) (by omega) (.slice a0 il u0) (.slice a1 ll u1) (.slice a2 dl u2) (.slice a3 ol u3)).below ((Below.refl _ _).drew)).isStore, rfl, (below_four (hB.trans (hM4.bel.mono hB.size)) (by omega) (.slice a0 il u0) (.slice a1 ll u1) (.slice a2 dl u2) (.slice a3 ol u3)).drew⟩
      | false =>
        go_upto_region 20 with (fail)
        have hD5 : Below w4.heap.size w4 w4.drew := (Below.refl _ _).drew
        clear c0 c1 c2 c3 t0 t1 r0 r1 r2 r3 rf0 rf1 rf2 rf3 rz
        obtain ⟨c0, c1, c2, c3, t0, t1, r0, r1, r2, r3, rf0, rf1, rf2, rf3, rz⟩ := KA.out _ hM4.bel
        have KY : w4.cell? ⟨m, 0, none⟩ = some (.slice a0 il u0) ∧ w4.cell? ⟨m, 1, none⟩ = some (.slice a1 ll u1) ∧ w4.cell? ⟨m, 2, none⟩ = some (.slice a2 dl u2) ∧ w4.cell? ⟨m, 3, none⟩ = some (.slice a3 ol u3) ∧ w4.cell? ⟨mx, 1, none⟩ = some (.int .i64 iv) ∧ w4.cell? ⟨mx, 2, none⟩ = some (.int .i64 iw) := by
          have hU := Below.refl w4.heap.size w4
          obtain ⟨_, h0, h1, h2, h3, _⟩ := (hM4.below hU).cells
          have bb := bx4.below hU bx4.lt
          exact ⟨h0, h1, h2, h3, (bb.c 1 (by decide)).1, (bb.c 2 (by decide)).1⟩
        obtain ⟨l0, l1, l2, l3, l4, l5⟩ := KY
        have mzz := hM4.box.lt
        have bzz := bx4.lt
        go_region
        all_goals
          go_wp2
          refine bodyPost_ret (v := .tuple #[.agg #[.slice a0 il u0, .slice a1 ll u1, .slice a2 dl u2, .slice a3 ol u3], .int .i64 iv, .int .i64 iw, .int .i64 0]) (by simp [results, Try.results15, go_sem, r0, r1, r2, r3]) rfl ?_
          rw [y1.out, y2.out, yD.out]
          try rw [hE]
          exact ⟨⟨a0, il, u0, a1, ll, u1, a2, dl, u2, a3, ol, u3, items, locks, doubts, over⟩, rfl, ((hM4.own.four (b := w.heap.size + 1 + 1) (by omega) (.slice a0 il u0) (.slice a1 ll u1) (.slice a2 dl u2) (.slice a3 ol u3)).below ((Below.refl _ _).drew)).isStore, rfl, (below_four (hB.trans (hM4.bel.mono hB.size)) (by omega) (.slice a0 il u0) (.slice a1 ll u1) (.slice a2 dl u2) (.slice a3 ol u3)).drew⟩
  · have hE : E ≠ 0 := by rw [eE.out, if_neg hF]; exact hF
    have hEE : E = F := by rw [eE.out, if_neg hF]
    go_upto_region 2 with (go_at_call 36; refine (hC _ hSW).mono ?_; rintro e w1 ⟨rfl, hb1⟩; clear c0 c1 c2 c3 t0 t1 r0 r1 r2 r3 rf0 rf1 rf2 rf3 rz; obtain ⟨c0, c1, c2, c3, t0, t1, r0, r1, r2, r3, rf0, rf1, rf2, rf3, rz⟩ := KA.out _ hb1)
    go_wp2
    refine bodyPost_ret (v := .tuple #[.agg #[.slice none 0 0, .slice none 0 0, .slice none 0 0, .slice none 0 0], .int .i64 0, .int .i64 0, .int .i64 F]) (by simp [results, Try.results15, go_sem, r0, r1, r2, r3]) rfl ?_
    obtain ⟨y1, y2, y3⟩ := HBAD.out hE
    rw [y1, y2, y3]
    try rw [hEE]
    exact ⟨SV.nil, rfl, isStore_nil _, rfl, below_four (hB.trans (hb1.mono hB.size)) (by omega) (.slice none 0 0) (.slice none 0 0) (.slice none 0 0) (.slice none 0 0)⟩
end Go.Proofs.Ytkpolhcgbldleaa.St
