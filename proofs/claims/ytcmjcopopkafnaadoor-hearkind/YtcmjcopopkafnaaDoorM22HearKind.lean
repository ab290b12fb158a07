/- Texts of this claim, one behind the other. -/
import Derived.Test.YtcmjcopopkafnaaDoorM18HearKind
import Derived.Test.YtcmjcopopkafnaaDoorM15HearKind
import Derived.Test.YtcmjcopopkafnaaDoorM20HearKind
import Derived.Test.YtcmjcopopkafnaaDoorM21HearKind
/- The contract of store.End. -/
namespace Go.Proofs.YtcmjcopopkafnaaDoor.St
open Go.ChangeShapes Go.WideShapes Go.ChangeAt Go.RowKit
set_option linter.unusedVariables false

theorem asksG_lt {α : Type} {fn : Nat} {cps : Array Value} {val : α → Value} {p : α → Bool} {w : World} {row : Option Nat} (hE : Enters Tryd.prog fn) (h : ∀ (x : α) (w' : World), w.grownBy w' row → Calls Tryd.prog fn (#[val x] ++ cps) w' fun e w'' => e = .returned (.bool (p x)) ∧ Below w'.heap.size w' w'') : AsksG fn cps val p row w := ⟨hE, h⟩
theorem of_asksG (b0 : Nat) (t : Int × Int) (w : World) (row : Option Nat) (c00 : w.cell? ⟨b0, 0, none⟩ = some (.int .i64 t.1)) (c01 : w.cell? ⟨b0, 1, none⟩ = some (.int .i64 t.2)) (z0 : b0 < w.heap.size) (hne : some b0 ≠ row) : AsksG 84 #[.pointer (some ⟨b0, 0, none⟩)] LkV.val (ofT t) row w := by
  refine ⟨(of_asks b0 t w c00 c01 z0).1, fun x w' hg => ?_⟩
  have k0 : w'.cell? ⟨b0, 0, none⟩ = some (.int .i64 t.1) := by rw [World.cell?_of_block (a := ⟨b0, 0, none⟩) (hg.block b0 z0 hne)]; exact c00
  have k1 : w'.cell? ⟨b0, 1, none⟩ = some (.int .i64 t.2) := by rw [World.cell?_of_block (a := ⟨b0, 1, none⟩) (hg.block b0 z0 hne)]; exact c01
  exact (of_asks b0 t w' k0 k1 (Nat.lt_of_lt_of_le z0 hg.size)).2 x w' (Below.refl _ _)
theorem doubtOf_asksG (b0 : Nat) (t : Int × Int) (w : World) (row : Option Nat) (c00 : w.cell? ⟨b0, 0, none⟩ = some (.int .i64 t.1)) (c01 : w.cell? ⟨b0, 1, none⟩ = some (.int .i64 t.2)) (z0 : b0 < w.heap.size) (hne : some b0 ≠ row) : AsksG 86 #[.pointer (some ⟨b0, 0, none⟩)] DbV.val (dbT t) row w := by
  refine ⟨(doubtOf_asks b0 t w c00 c01 z0).1, fun x w' hg => ?_⟩
  have k0 : w'.cell? ⟨b0, 0, none⟩ = some (.int .i64 t.1) := by rw [World.cell?_of_block (a := ⟨b0, 0, none⟩) (hg.block b0 z0 hne)]; exact c00
  have k1 : w'.cell? ⟨b0, 1, none⟩ = some (.int .i64 t.2) := by rw [World.cell?_of_block (a := ⟨b0, 1, none⟩) (hg.block b0 z0 hne)]; exact c01
  exact (doubtOf_asks b0 t w' k0 k1 (Nat.lt_of_lt_of_le z0 hg.size)).2 x w' (Below.refl _ _)
/-- store.of, with where its box lies. -/
theorem of_at (t : Int × Int) (w : World) :
    Calls Tryd.prog 55 #[.agg #[.int .i64 t.1, .int .i64 t.2]] w fun e w' => e = .returned (.func (.func 84) #[] #[.pointer (some ⟨w.heap.size, 0, none⟩)]) ∧ w'.cell? ⟨w.heap.size, 0, none⟩ = some (.int .i64 t.1) ∧ w'.cell? ⟨w.heap.size, 1, none⟩ = some (.int .i64 t.2) ∧ w.heap.size < w'.heap.size ∧ Below w.heap.size w w' := by
  obtain ⟨ts, tn⟩ := t
  obtain ⟨W, hW⟩ : ∃ W : World, W = (w.alloc (.cells #[.int .i64 ts, .int .i64 tn] 30)) := ⟨_, rfl⟩
  have hB : Below w.heap.size w W := by rw [hW]; exact ((Below.refl _ _).alloc (Nat.le_refl _) _)
  have zW : w.heap.size < W.heap.size := by rw [hW]; simp
  have c00 : W.cell? ⟨w.heap.size, 0, none⟩ = some (.int .i64 ts) := by rw [hW]; go_simp
  have c01 : W.cell? ⟨w.heap.size, 1, none⟩ = some (.int .i64 tn) := by rw [hW]; go_simp
  go_enter Tryd.func55, Tryd.ntmps55
  go_wp2
  rw [← hW]
  go_ret
  exact ⟨rfl, c00, c01, zW, hB⟩
theorem doubtOf_at (t : Int × Int) (w : World) :
    Calls Tryd.prog 57 #[.agg #[.int .i64 t.1, .int .i64 t.2]] w fun e w' => e = .returned (.func (.func 86) #[] #[.pointer (some ⟨w.heap.size, 0, none⟩)]) ∧ w'.cell? ⟨w.heap.size, 0, none⟩ = some (.int .i64 t.1) ∧ w'.cell? ⟨w.heap.size, 1, none⟩ = some (.int .i64 t.2) ∧ w.heap.size < w'.heap.size ∧ Below w.heap.size w w' := by
  obtain ⟨ts, tn⟩ := t
  obtain ⟨W, hW⟩ : ∃ W : World, W = (w.alloc (.cells #[.int .i64 ts, .int .i64 tn] 30)) := ⟨_, rfl⟩
  have hB : Below w.heap.size w W := by rw [hW]; exact ((Below.refl _ _).alloc (Nat.le_refl _) _)
  have zW : w.heap.size < W.heap.size := by rw [hW]; simp
  have c00 : W.cell? ⟨w.heap.size, 0, none⟩ = some (.int .i64 ts) := by rw [hW]; go_simp
  have c01 : W.cell? ⟨w.heap.size, 1, none⟩ = some (.int .i64 tn) := by rw [hW]; go_simp
  go_enter Tryd.func57, Tryd.ntmps57
  go_wp2
  rw [← hW]
  go_ret
  exact ⟨rfl, c00, c01, zW, hB⟩

set_option maxRecDepth 100000 in
set_option maxHeartbeats 8000000 in
theorem end_own (s : SV) (t : Int × Int) (yes : Bool) (w : World) (h : IsStore w s) (hwf : ∀ t ∈ s.over, TxWf t) (h4 : s.ol * 16 ≤ 140737488351232) :
    Calls Tryd.prog 19 #[s.val, .agg #[.int .i64 t.1, .int .i64 t.2], .bool yes] w fun e w' => ∃ r : SV, e = .returned (.tuple #[r.val, .int .i64 (endErr s t yes)]) ∧ OwnStore w' w.heap.size r ∧ r.data = endData s t yes ∧ Below w.heap.size w w' := by
  obtain ⟨i4, E4⟩ := txElem
  have hC : ∀ w', IsStore w' s → Calls Tryd.prog 51 #[s.val, .agg #[.int .i64 t.1, .int .i64 t.2]] w' fun e w'' => e = .returned (.int .i64 (endErr s t yes)) ∧ Below w'.heap.size w' w'' := fun w' h1 => refuseTxn_any s t w' h1 hwf
  have hOwn := fun w' h1 k1 k2 k3 => own_any s w' h1 k1 k2 k3 (by omega)
  have hWO := fun w' h1 h2 => writesOf_any s t w' h1 h2
  have hOv := fun w' h1 => isOver_any s t w' h1
  have hOf := fun w' => of_at t w'
  have hDo := fun w' => doubtOf_at t w'
  have hok : endErr s t yes = 0 → (s.il ≤ 8 ∧ s.ll ≤ 24 ∧ s.dl ≤ 24) ∧ ∀ y ∈ s.items, 0 ≤ y.version ∧ y.version ≤ 1048576 := fun e => by
    have hs : storeOK s = true := by cases hs : storeOK s with | true => rfl | false => simp [endErr, hs] at e
    refine ⟨ok_sizes hs h, ?_⟩
    have hi := (ok_parts hs).1
    have : ∀ (l : List ItV) (lo : Int), itemsOK lo l = true → ∀ y ∈ l, 0 ≤ y.version ∧ y.version ≤ 1048576 := by
      intro l
      induction l with
      | nil => intro lo _ y hy; simp at hy
      | cons x r ih =>
        intro lo hh y hy
        simp only [itemsOK, Bool.and_eq_true] at hh
        rcases List.mem_cons.1 hy with rfl | hy
        · have := inR_of hh.1.2; omega
        · exact ih _ hh.2 y hy
    exact this _ _ hi
  obtain ⟨E, e0⟩ : ∃ R : Int, R = endErr s t yes := ⟨_, rfl⟩
  obtain ⟨D, e1⟩ : ∃ R, R = endData s t yes := ⟨_, rfl⟩
  obtain ⟨O, e2⟩ : ∃ R, R = decide (t ∈ s.over) := ⟨_, rfl⟩
  obtain ⟨F, e3⟩ : ∃ R, R = s.locks.filter (wOf t) := ⟨_, rfl⟩
  obtain ⟨KL, e5⟩ : ∃ R, R = keep (ofT t) s.locks := ⟨_, rfl⟩
  obtain ⟨KD, e6⟩ : ∃ R, R = keep (dbT t) s.doubts := ⟨_, rfl⟩
  have HKL : Hid (KL = keep (ofT t) s.locks) := e5
  have HKD : Hid (KD = keep (dbT t) s.doubts) := e6
  have HFl : Hid (F.length ≤ s.ll) := by show _ ≤ _; rw [e3, ← h.locks.1]; exact List.length_filter_le ..
  have eD : Hid (D = if E = 0 then ⟨if yes then putAll s.items F else s.items, KL, KD, if O then s.over else s.over ++ [t]⟩ else PS.nil) := by
    show _ = _
    rw [e0, e1, e2, e3, e5, e6]
    unfold endData
    simp only [decide_eq_true_eq]
  have HBAD : Hid (E ≠ 0 → D = PS.nil) := fun hE => by rw [eD.out, if_neg hE]
  rw [← e0, ← e1]
  rw [← e0] at hC hok
  rw [← e2] at hOv
  rw [← e3] at hWO
  clear e0 e1 e2 e3 e5 e6
  have hh := h
  obtain ⟨ia, il, ic, la, ll, lc, da, dl, dc, oa, ol, oc, items, locks, doubts, over⟩ := s
  obtain ⟨ts, tn⟩ := t
  simp only [SV.val] at *
  obtain ⟨W, hW⟩ : ∃ W : World, W = (((w.alloc (.cells #[.slice ia il ic, .slice la ll lc, .slice da dl dc, .slice oa ol oc] 41)).alloc (.cells #[.int .i64 ts, .int .i64 tn] 30)).alloc (.cells #[.slice none 0 0, .slice none 0 0, .slice none 0 0, .slice none 0 0] 41)) := ⟨_, rfl⟩
  have hB : Below w.heap.size w W := by rw [hW]; exact ((((Below.refl _ _).alloc (Nat.le_refl _) _).alloc (by simp) _).alloc (by simp; omega) _)
  have zW : W.heap.size = w.heap.size + 3 := by rw [hW]; simp
  have zb0 : w.heap.size < W.heap.size := by omega
  have zb1 : w.heap.size + 1 < W.heap.size := by omega
  have zb2 : w.heap.size + 1 + 1 < W.heap.size := by omega
  have HZW : Hid (W.heap.size = w.heap.size + 3) := zW
  clear zW
  have c0 : W.cell? ⟨w.heap.size, 0, none⟩ = some (.slice ia il ic) := by rw [hW]; go_simp
  have c1 : W.cell? ⟨w.heap.size, 1, none⟩ = some (.slice la ll lc) := by rw [hW]; go_simp
  have c2 : W.cell? ⟨w.heap.size, 2, none⟩ = some (.slice da dl dc) := by rw [hW]; go_simp
  have c3 : W.cell? ⟨w.heap.size, 3, none⟩ = some (.slice oa ol oc) := by rw [hW]; go_simp
  have t0 : W.cell? ⟨w.heap.size + 1, 0, none⟩ = some (.int .i64 ts) := by rw [hW]; go_simp
  have t1 : W.cell? ⟨w.heap.size + 1, 1, none⟩ = some (.int .i64 tn) := by rw [hW]; go_simp
  have r0 : W.cell? ⟨w.heap.size + 1 + 1, 0, none⟩ = some (.slice none 0 0) := by rw [hW]; go_simp
  have r1 : W.cell? ⟨w.heap.size + 1 + 1, 1, none⟩ = some (.slice none 0 0) := by rw [hW]; go_simp
  have r2 : W.cell? ⟨w.heap.size + 1 + 1, 2, none⟩ = some (.slice none 0 0) := by rw [hW]; go_simp
  have r3 : W.cell? ⟨w.heap.size + 1 + 1, 3, none⟩ = some (.slice none 0 0) := by rw [hW]; go_simp
  have rf0 : W.frozen? ⟨w.heap.size + 1 + 1, 0, none⟩ = false := by rw [hW]; go_simp
  have rf1 : W.frozen? ⟨w.heap.size + 1 + 1, 1, none⟩ = false := by rw [hW]; go_simp
  have rf2 : W.frozen? ⟨w.heap.size + 1 + 1, 2, none⟩ = false := by rw [hW]; go_simp
  have rf3 : W.frozen? ⟨w.heap.size + 1 + 1, 3, none⟩ = false := by rw [hW]; go_simp
  have rz : w.heap.size + 1 + 1 < W.heap.size := zb2
  have KA : Hid (∀ U : World, Below W.heap.size W U → U.cell? ⟨w.heap.size, 0, none⟩ = some (.slice ia il ic) ∧ U.cell? ⟨w.heap.size, 1, none⟩ = some (.slice la ll lc) ∧ U.cell? ⟨w.heap.size, 2, none⟩ = some (.slice da dl dc) ∧ U.cell? ⟨w.heap.size, 3, none⟩ = some (.slice oa ol oc) ∧ U.cell? ⟨w.heap.size + 1, 0, none⟩ = some (.int .i64 ts) ∧ U.cell? ⟨w.heap.size + 1, 1, none⟩ = some (.int .i64 tn) ∧ U.cell? ⟨w.heap.size + 1 + 1, 0, none⟩ = some (.slice none 0 0) ∧ U.cell? ⟨w.heap.size + 1 + 1, 1, none⟩ = some (.slice none 0 0) ∧ U.cell? ⟨w.heap.size + 1 + 1, 2, none⟩ = some (.slice none 0 0) ∧ U.cell? ⟨w.heap.size + 1 + 1, 3, none⟩ = some (.slice none 0 0) ∧ U.frozen? ⟨w.heap.size + 1 + 1, 0, none⟩ = false ∧ U.frozen? ⟨w.heap.size + 1 + 1, 1, none⟩ = false ∧ U.frozen? ⟨w.heap.size + 1 + 1, 2, none⟩ = false ∧ U.frozen? ⟨w.heap.size + 1 + 1, 3, none⟩ = false ∧ w.heap.size + 1 + 1 < U.heap.size) := fun U hU => ⟨(hU.cell (p := ⟨w.heap.size, 0, none⟩) zb0).trans c0, (hU.cell (p := ⟨w.heap.size, 1, none⟩) zb0).trans c1, (hU.cell (p := ⟨w.heap.size, 2, none⟩) zb0).trans c2, (hU.cell (p := ⟨w.heap.size, 3, none⟩) zb0).trans c3, (hU.cell (p := ⟨w.heap.size + 1, 0, none⟩) zb1).trans t0, (hU.cell (p := ⟨w.heap.size + 1, 1, none⟩) zb1).trans t1, (hU.cell (p := ⟨w.heap.size + 1 + 1, 0, none⟩) zb2).trans r0, (hU.cell (p := ⟨w.heap.size + 1 + 1, 1, none⟩) zb2).trans r1, (hU.cell (p := ⟨w.heap.size + 1 + 1, 2, none⟩) zb2).trans r2, (hU.cell (p := ⟨w.heap.size + 1 + 1, 3, none⟩) zb2).trans r3, (hU.frozen (p := ⟨w.heap.size + 1 + 1, 0, none⟩) zb2).trans rf0, (hU.frozen (p := ⟨w.heap.size + 1 + 1, 1, none⟩) zb2).trans rf1, (hU.frozen (p := ⟨w.heap.size + 1 + 1, 2, none⟩) zb2).trans rf2, (hU.frozen (p := ⟨w.heap.size + 1 + 1, 3, none⟩) zb2).trans rf3, Nat.lt_of_lt_of_le zb2 hU.size⟩
  have hSW := hh.below hB
  have HS : Hid (∀ U : World, Below W.heap.size W U → IsStore U ⟨ia, il, ic, la, ll, lc, da, dl, dc, oa, ol, oc, items, locks, doubts, over⟩) := fun U hU => hSW.below hU
  clear hh h
  go_enter Tryd.func19, Tryd.ntmps19
  go_upto_region 1 with (fail)
  rw [← hW]
  clear hW
  by_cases hE0 : E = 0
  · obtain ⟨⟨q1, q2, q3⟩, hver⟩ := hok hE0
    have HVER : Hid (∀ y ∈ items, 0 ≤ y.version ∧ y.version ≤ 1048576) := hver
    clear hok hver
    subst hE0
    have hFl := HFl.out
    go_upto_region 5 with (first
      | (go_at_call 51; refine (hC _ hSW).mono ?_; rintro e w1 ⟨rfl, hb1⟩; clear c0 c1 c2 c3 t0 t1 r0 r1 r2 r3 rf0 rf1 rf2 rf3 rz; obtain ⟨c0, c1, c2, c3, t0, t1, r0, r1, r2, r3, rf0, rf1, rf2, rf3, rz⟩ := KA.out _ hb1; have hS1 := hSW.below hb1)
      | (go_at_call 25; refine (hOwn _ hS1 (by omega) (by omega) (by omega)).mono ?_; rintro e w2 ⟨⟨a0, n0, u0, a1, n1, u1, a2, n2, u2, a3, n3, u3, items', locks', doubts', over'⟩, rfl, hsame, hown, hb2'⟩; obtain ⟨v1, v2, v3, v4, v5, v6, v7, v8⟩ := hsame; simp only [] at v1 v2 v3 v4 v5 v6 v7 v8; obtain rfl := v1.symm; obtain rfl := v2.symm; obtain rfl := v3.symm; obtain rfl := v4.symm; obtain rfl := v5.symm; obtain rfl := v6.symm; obtain rfl := v7.symm; obtain rfl := v8.symm; simp only []; have hb2 : Below W.heap.size W w2 := hb1.trans (hb2'.mono hb1.size)))
    obtain ⟨X, hX⟩ : ∃ X : World, X = w2.alloc (.cells #[.slice a0 il u0, .slice a1 ll u1, .slice a2 dl u2, .slice a3 ol u3] 41) := ⟨_, rfl⟩
    have hM0 : Made W X W.heap.size w2.heap.size ⟨a0, il, u0, a1, ll, u1, a2, dl, u2, a3, ol, u3, items, locks, doubts, over⟩ := by
      have hb3 : Below w2.heap.size w2 X := by rw [hX]; exact (Below.refl _ _).alloc (Nat.le_refl _) _
      refine Made.new (hown.base hb1.size) hb2 hb3 (Nat.le_refl _) ?_ hb2.size
      rw [hX]
      exact boxn_new w2 #[.slice a0 il u0, .slice a1 ll u1, .slice a2 dl u2, .slice a3 ol u3] 41 4 rfl
    rw [← hX]
    obtain ⟨m, em⟩ : ∃ m, m = w2.heap.size := ⟨_, rfl⟩
    have zm : W.heap.size ≤ m := by rw [em]; exact hb2.size
    rw [← em] at hM0 ⊢
    clear hX hown em c0 c1 c2 c3 t0 t1 r0 r1 r2 r3 rf0 rf1 rf2 rf3 rz hS1 hC hOwn hb2 hb2' hb1
    clear w2
    cases yes with
    | false =>
      go_upto_region 11 with (fail)
      have UL : Hid (∀ q, (Value.slice a1 ll u1).ownBlock = some q → q < X.heap.size) := hM0.under.locks
      have hDq : Below X.heap.size X X.drew := (Below.refl _ _).drew
      have hMq := hM0.below hDq
      obtain ⟨mz, x0, x1, x2, x3, g0, g1, g2, g3⟩ := hMq.cells
      simp only [] at x0 x1 x2 x3
      obtain ⟨c0, c1, c2, c3, t0, t1, r0, r1, r2, r3, rf0, rf1, rf2, rf3, rz⟩ := KA.out _ hMq.bel
      go_cut [43] (fun _ wc => Made W wc W.heap.size m ⟨a0, il, u0, a1, KL.length, u1, a2, dl, u2, a3, ol, u3, items, KL, doubts, over⟩)
      case first =>
        go_region_with (first | ((go_at_call 55; refine (hOf _).mono ?_; rintro e w4 ⟨rfl, k0, k1, kz, hb4⟩; have hM4 := hMq.below hb4; obtain ⟨mz4, y0, y1, y2, y3, j0, j1, j2, j3⟩ := hM4.cells; simp only [] at y0 y1 y2 y3; have hDel := deleteLock_any 84 #[.pointer (some ⟨X.drew.heap.size, 0, none⟩)] (ofT (ts, tn)) W.heap.size a1 ll u1 locks w4 hM4.own.locks (of_asksG X.drew.heap.size (ts, tn) w4 _ k0 k1 kz (fun e => Nat.lt_irrefl _ (UL.out _ e.symm))); rw [← HKL.out] at hDel)) | ((go_at_call 54; refine hDel.mono ?_; rintro e w5 ⟨rfl, own5, gr5⟩; obtain ⟨cl5, fz5, hM5⟩ := hM4.put_locks (Below.refl _ _) gr5 own5 (at_same _ _ _ _ _); simp only [] at cl5)))
        all_goals (go_wp2; go_meet; exact hM5)
      case rest =>
        have hMb := hcut
        go_upto_region 12 with (fail)
        clear hMq x0 x1 x2 x3 g0 g1 g2 g3 mz c0 c1 c2 c3 t0 t1 r0 r1 r2 r3 rf0 rf1 rf2 rf3 rz hcut hDq UL
        have UD : Hid (∀ q, (Value.slice a2 dl u2).ownBlock = some q → q < wc.heap.size) := hMb.under.doubts
        have hDq : Below wc.heap.size wc wc.drew := (Below.refl _ _).drew
        have hMq := hMb.below hDq
        obtain ⟨mz, x0, x1, x2, x3, g0, g1, g2, g3⟩ := hMq.cells
        simp only [] at x0 x1 x2 x3
        obtain ⟨c0, c1, c2, c3, t0, t1, r0, r1, r2, r3, rf0, rf1, rf2, rf3, rz⟩ := KA.out _ hMq.bel
        rename World => wd1
        go_cut [49] (fun _ wc => Made W wc W.heap.size m ⟨a0, il, u0, a1, KL.length, u1, a2, KD.length, u2, a3, ol, u3, items, KL, KD, over⟩)
        case first =>
          go_region_with (first | ((go_at_call 57; refine (hDo _).mono ?_; rintro e w4 ⟨rfl, k0, k1, kz, hb4⟩; have hM4 := hMq.below hb4; obtain ⟨mz4, y0, y1, y2, y3, j0, j1, j2, j3⟩ := hM4.cells; simp only [] at y0 y1 y2 y3; have hDel := deleteDoubt_any 86 #[.pointer (some ⟨wd1.drew.heap.size, 0, none⟩)] (dbT (ts, tn)) W.heap.size a2 dl u2 doubts w4 hM4.own.doubts (doubtOf_asksG wd1.drew.heap.size (ts, tn) w4 _ k0 k1 kz (fun e => Nat.lt_irrefl _ (UD.out _ e.symm))); rw [← HKD.out] at hDel)) | ((go_at_call 56; refine hDel.mono ?_; rintro e w5 ⟨rfl, own5, gr5⟩; obtain ⟨cl5, fz5, hM5⟩ := hM4.put_doubts (Below.refl _ _) gr5 own5 (at_same _ _ _ _ _); simp only [] at cl5)))
          all_goals (go_wp2; go_meet; exact hM5)
        case rest =>
          have hMc := hcut
          clear hMq hMb x0 x1 x2 x3 g0 g1 g2 g3 mz c0 c1 c2 c3 t0 t1 r0 r1 r2 r3 rf0 rf1 rf2 rf3 rz hcut hDq UD
          obtain ⟨c0, c1, c2, c3, t0, t1, r0, r1, r2, r3, rf0, rf1, rf2, rf3, rz⟩ := KA.out _ hMc.bel
          have hOc := (HS.out _ hMc.bel).over
          simp only [] at hOc
          cases O with
          | true =>
            have yD : Hid (D = ⟨items, KL, KD, over⟩) := by show _ = _; rw [eD.out]; first | rfl | (simp; done)
            go_upto_region 15 with (go_at_call 58; refine (hOv _ hOc).mono ?_; rintro e w6 ⟨rfl, hb6⟩)
            have hMd := hMc.below hb6
            clear c0 c1 c2 c3 t0 t1 r0 r1 r2 r3 rf0 rf1 rf2 rf3 rz
            obtain ⟨c0, c1, c2, c3, t0, t1, r0, r1, r2, r3, rf0, rf1, rf2, rf3, rz⟩ := KA.out _ hMd.bel
            obtain ⟨mz, x0, x1, x2, x3, g0, g1, g2, g3⟩ := hMd.cells
            simp only [] at x0 x1 x2 x3
            go_wp2
            refine bodyPost_ret (v := .tuple #[.agg #[.slice a0 il u0, .slice a1 KL.length u1, .slice a2 KD.length u2, .slice a3 ol u3], .int .i64 0]) (by simp [results, Tryd.results19, go_sem, r0, r1, r2, r3]) rfl ?_
            rw [yD.out]
            exact ⟨⟨a0, il, u0, a1, KL.length, u1, a2, KD.length, u2, a3, ol, u3, items, KL, KD, over⟩, rfl, (hMd.own.four (b := w.heap.size + 1 + 1) (by omega) (.slice a0 il u0) (.slice a1 KL.length u1) (.slice a2 KD.length u2) (.slice a3 ol u3)).base hB.size, rfl, below_four (hB.trans (hMd.bel.mono hB.size)) (by omega) (.slice a0 il u0) (.slice a1 KL.length u1) (.slice a2 KD.length u2) (.slice a3 ol u3)⟩
          | false =>
            have yD : Hid (D = ⟨items, KL, KD, over ++ [(ts, tn)]⟩) := by show _ = _; rw [eD.out]; first | rfl | (simp; done)
            go_upto_region 14 with (go_at_call 58; refine (hOv _ hOc).mono ?_; rintro e w6 ⟨rfl, hb6⟩)
            have hMd := hMc.below hb6
            clear c0 c1 c2 c3 t0 t1 r0 r1 r2 r3 rf0 rf1 rf2 rf3 rz
            obtain ⟨c0, c1, c2, c3, t0, t1, r0, r1, r2, r3, rf0, rf1, rf2, rf3, rz⟩ := KA.out _ hMd.bel
            obtain ⟨mz, x0, x1, x2, x3, g0, g1, g2, g3⟩ := hMd.cells
            simp only [] at x0 x1 x2 x3
            have zd := hMd.sz
            have hol := hMd.own.over
            simp only [] at hol
            go_upto_region 15 with (at_builtin; go_loud (refine wpList_append_row E4 (by rfl) _ _ (by rfl) W.heap.size (.slice a3 ol u3) ol over (by rfl) (own_below hol ((Below.refl _ _).alloc (Nat.le_refl _) _)) _ 1 1 [(ts, tn)] (by rfl) (isOne _ _ _ _ rfl rfl) (by unfold maxLen; omega) (by omega) (by simp; omega) ?_; intro a7 c7 w7 own7 gr7 at7; obtain ⟨cl7, fz7, hM7⟩ := hMd.put_over ((Below.refl _ _).alloc (Nat.le_refl _) _) gr7 own7 at7; simp only [] at cl7))
            obtain ⟨U7, hU7⟩ : ∃ U7 : World, U7 = w7.setCell ⟨m, 3, none⟩ (.slice a7 (ol + 1) c7) := ⟨_, rfl⟩
            rw [← hU7] at hM7 ⊢
            clear hU7 cl7 fz7 own7 gr7 at7 c0 c1 c2 c3 t0 t1 r0 r1 r2 r3 rf0 rf1 rf2 rf3 rz x0 x1 x2 x3 g0 g1 g2 g3 mz hMd
            obtain ⟨c0, c1, c2, c3, t0, t1, r0, r1, r2, r3, rf0, rf1, rf2, rf3, rz⟩ := KA.out _ hM7.bel
            obtain ⟨mz, x0, x1, x2, x3, g0, g1, g2, g3⟩ := hM7.cells
            simp only [] at x0 x1 x2 x3
            go_wp2
            refine bodyPost_ret (v := .tuple #[.agg #[.slice a0 il u0, .slice a1 KL.length u1, .slice a2 KD.length u2, .slice a7 (ol + 1) c7], .int .i64 0]) (by simp [results, Tryd.results19, go_sem, r0, r1, r2, r3]) rfl ?_
            rw [yD.out]
            exact ⟨⟨a0, il, u0, a1, KL.length, u1, a2, KD.length, u2, a7, ol + 1, c7, items, KL, KD, over ++ [(ts, tn)]⟩, rfl, (hM7.own.four (b := w.heap.size + 1 + 1) (by omega) (.slice a0 il u0) (.slice a1 KL.length u1) (.slice a2 KD.length u2) (.slice a7 (ol + 1) c7)).base hB.size, rfl, below_four (hB.trans (hM7.bel.mono hB.size)) (by omega) (.slice a0 il u0) (.slice a1 KL.length u1) (.slice a2 KD.length u2) (.slice a7 (ol + 1) c7)⟩
    | true =>
        obtain ⟨c0, c1, c2, c3, t0, t1, r0, r1, r2, r3, rf0, rf1, rf2, rf3, rz⟩ := KA.out _ hM0.bel
        have hLX := (HS.out _ hM0.bel).locks
        simp only [] at hLX
        have UX := hM0.under
        go_wp2_with (go_at_call 52; go_loud (refine (hWO _ hLX (by omega)).mono ?_; rintro e w3 ⟨ao, cp, rfl, hF3, hloc, hb3⟩))
        have hM3 := hM0.below hb3
        have HLOC : Hid (∀ b off, ao = some ⟨b, off, none⟩ → X.heap.size ≤ b ∧ b < w3.heap.size) := hloc
        have HUX : Hid (∀ q, (Value.slice a0 il u0).ownBlock = some q → q < X.heap.size) := UX.items
        have HMX : Hid (m < X.heap.size) := UX.m
        clear c0 c1 c2 c3 t0 t1 r0 r1 r2 r3 rf0 rf1 rf2 rf3 rz hLX hM0 hloc UX
        go_loopw [26, 11] (fun i _ wr => ∃ (k : Nat) (a : Option Addr) (n c : Nat) (its : List ItV), i = .int .i64 (k : Int) ∧ k ≤ F.length ∧ n ≤ il + k ∧ Hid (its = putAll items (F.take k)) ∧ Hid (∀ y ∈ its, 0 ≤ y.version ∧ y.version ≤ 1048576 + (k : Int)) ∧ Made W wr W.heap.size m ⟨a, n, c, a1, ll, u1, a2, dl, u2, a3, ol, u3, its, locks, doubts, over⟩ ∧ IsLocks wr ao F.length cp F ∧ Hid (∀ b off, ao = some ⟨b, off, none⟩ → X.heap.size ≤ b ∧ b < wr.heap.size ∧ (Value.slice a n c).ownBlock ≠ some b)) (fun i _ _ => F.length - (intOf i).toNat)
        case atStart => exact ⟨0, a0, il, u0, items, rfl, Nat.zero_le _, by omega, rfl, fun y hy => by have := HVER.out y hy; simp; omega, hM3, hF3, fun b off e => ⟨(HLOC.out b off e).1, (HLOC.out b off e).2, fun e2 => by have := HUX.out b e2; have := (HLOC.out b off e).1; omega⟩⟩
        case round =>
          obtain ⟨k, a, n, c, its, rfl, hk, hn, hits, hvr, hM, hF, hfar⟩ := hrel
          by_cases hlt : k < F.length
          · have hlt' : (k : Int) < (F.length : Int) := by omega
            obtain ⟨b, off, rfl, zb, hc⟩ := hF.2.2.2.2 (by omega)
            have hcells := hc k hlt
            have HPA : Hid (putAll items (F.take (k + 1)) = putI (F.getD k default).key (F.getD k default).value its) := by show _ = _; rw [hits.out]; exact putAll_at hlt
            obtain ⟨x, ex⟩ : ∃ x, x = F.getD k default := ⟨_, rfl⟩
            rw [← ex] at hcells HPA
            clear ex hc
            obtain ⟨⟨ks, kn⟩, kk, kw, kv, ka⟩ := x
            have e0 := hcells 0 (by decide)
            have e1 := hcells 1 (by decide)
            have e2 := hcells 2 (by decide)
            have e3 := hcells 3 (by decide)
            have e4 := hcells 4 (by decide)
            have e5 := hcells 5 (by decide)
            simp only [LkV.cells, List.getElem?_cons_zero, List.getElem?_cons_succ, Nat.add_zero] at e0 e1 e2 e3 e4 e5
            clear hcells
            simp only [] at HPA
            obtain ⟨Y, hY⟩ : ∃ Y : World, Y = wr.alloc (.cells #[.int .i64 ks, .int .i64 kn, .int .i64 kk, .bool kw, .int .i64 kv, .int .i64 ka] 101) := ⟨_, rfl⟩
            have bY : Below wr.heap.size wr Y := by rw [hY]; exact (Below.refl _ _).alloc (Nat.le_refl _) _
            have bk := boxn_new wr #[.int .i64 ks, .int .i64 kn, .int .i64 kk, .bool kw, .int .i64 kv, .int .i64 ka] 101 6 rfl
            rw [← hY] at bk
            go_upto_region 9 with (fail)
            rw [← hY]
            clear hY e0 e1 e2 e3 e4 e5
            have hMY := hM.below bY
            have hFY := hF.below bY
            obtain ⟨mz, x0, x1, x2, x3, g0, g1, g2, g3⟩ := hMY.cells
            simp only [] at x0 x1 x2 x3
            have k2 := (bk.c 2 (by decide)).1
            have k4 := (bk.c 4 (by decide)).1
            simp only [List.getD_cons_zero, List.getD_cons_succ] at k2 k4
            have bkl := bk.lt
            have HFAR := hfar.out b off rfl
            have hPut := put_any W.heap.size a n c its kk kv Y hMY.own.items hMY.sz (by omega) (fun y hy => by have := hvr.out y hy; omega)
            have HBD := put_bd kk kv (v := 1048576 + (k : Int)) (by omega) its hvr.out
            go_upto_region 10 with (go_at_call 53; refine hPut.mono ?_; rintro e w5 ⟨a5, n5, c5, rfl, own5, gr5, at5, hn5⟩; obtain ⟨cl5, fz5, hM5⟩ := hMY.putg_items gr5 own5 at5; simp only [] at cl5)
            have hF5 : IsLocks (w5.setCell ⟨m, 0, none⟩ (.slice a5 n5 c5)) (some ⟨b, off, none⟩) F.length cp F := by
              obtain ⟨r1, r2, r3, r4, r5⟩ := hFY
              refine ⟨r1, r2, r3, r4, fun hp => ?_⟩
              obtain ⟨b', off', e', hl', hc'⟩ := r5 hp
              simp at e'
              obtain ⟨rfl, rfl⟩ := e'
              have hbm : b ≠ m := by have := HMX.out; omega
              refine ⟨b, off, rfl, by have := gr5.size; simp; omega, fun i hi q hq => ?_⟩
              rw [World.cell?_of_block (a := ⟨b, off + i * 6 + q, none⟩) (Below.heap_setCell w5 ⟨m, 0, none⟩ _ b hbm), World.cell?_of_block (a := ⟨b, off + i * 6 + q, none⟩) (gr5.block b hl' (fun e => HFAR.2.2 e.symm))]
              exact hc' i hi q hq
            have HF5 : Hid (∀ b' off', some (⟨b, off, none⟩ : Addr) = some ⟨b', off', none⟩ → X.heap.size ≤ b' ∧ b' < (w5.setCell ⟨m, 0, none⟩ (.slice a5 n5 c5)).heap.size ∧ (Value.slice a5 n5 c5).ownBlock ≠ some b') := by
              intro b' off' e
              simp at e
              obtain ⟨rfl, rfl⟩ := e
              have h1 := gr5.size
              have h2 := bY.size
              refine ⟨HFAR.1, by simp; omega, fun e => ?_⟩
              rcases at5 b e with e2 | e2
              · exact HFAR.2.2 e2
              · have := HFAR.2.1; omega
            have HV5 : Hid (∀ y ∈ putI kk kv its, 0 ≤ y.version ∧ y.version ≤ 1048576 + ((k + 1 : Nat) : Int)) := fun y hy => by have := HBD.2 y hy; omega
            clear hvr hits HBD
            go_wp2
            go_roundw
            case rel => exact ⟨k + 1, a5, n5, c5, putI kk kv its, by go_num, by omega, by omega, HPA.out.symm, HV5, hM5, hF5, HF5⟩
            case measure => simp [intOf]; omega
          · have HEQ : Hid (its = putAll items F) := by show _ = _; rw [hits.out, List.take_of_length_le (by omega)]
            rw [HEQ.out] at hM
            clear hvr hits
            go_wp2
            have UL : Hid (∀ q, (Value.slice a1 ll u1).ownBlock = some q → q < wr.heap.size) := hM.under.locks
            have hDq : Below wr.heap.size wr wr.drew := (Below.refl _ _).drew
            have hMq := hM.below hDq
            obtain ⟨mz, x0, x1, x2, x3, g0, g1, g2, g3⟩ := hMq.cells
            simp only [] at x0 x1 x2 x3
            obtain ⟨c0, c1, c2, c3, t0, t1, r0, r1, r2, r3, rf0, rf1, rf2, rf3, rz⟩ := KA.out _ hMq.bel
            go_cut [43] (fun _ wc => Made W wc W.heap.size m ⟨a, n, c, a1, KL.length, u1, a2, dl, u2, a3, ol, u3, (putAll items F), KL, doubts, over⟩)
            case first =>
              go_region_with (first | ((go_at_call 55; refine (hOf _).mono ?_; rintro e w4 ⟨rfl, k0, k1, kz, hb4⟩; have hM4 := hMq.below hb4; obtain ⟨mz4, y0, y1, y2, y3, j0, j1, j2, j3⟩ := hM4.cells; simp only [] at y0 y1 y2 y3; have hDel := deleteLock_any 84 #[.pointer (some ⟨wr.drew.heap.size, 0, none⟩)] (ofT (ts, tn)) W.heap.size a1 ll u1 locks w4 hM4.own.locks (of_asksG wr.drew.heap.size (ts, tn) w4 _ k0 k1 kz (fun e => Nat.lt_irrefl _ (UL.out _ e.symm))); rw [← HKL.out] at hDel)) | ((go_at_call 54; refine hDel.mono ?_; rintro e w5 ⟨rfl, own5, gr5⟩; obtain ⟨cl5, fz5, hM5⟩ := hM4.put_locks (Below.refl _ _) gr5 own5 (at_same _ _ _ _ _); simp only [] at cl5)))
              all_goals (go_wp2; go_meet; exact hM5)
            case rest =>
              have hMb := hcut
              go_upto_region 12 with (fail)
              clear hMq x0 x1 x2 x3 g0 g1 g2 g3 mz c0 c1 c2 c3 t0 t1 r0 r1 r2 r3 rf0 rf1 rf2 rf3 rz hcut hDq UL
              have UD : Hid (∀ q, (Value.slice a2 dl u2).ownBlock = some q → q < wc.heap.size) := hMb.under.doubts
              have hDq : Below wc.heap.size wc wc.drew := (Below.refl _ _).drew
              have hMq := hMb.below hDq
              obtain ⟨mz, x0, x1, x2, x3, g0, g1, g2, g3⟩ := hMq.cells
              simp only [] at x0 x1 x2 x3
              obtain ⟨c0, c1, c2, c3, t0, t1, r0, r1, r2, r3, rf0, rf1, rf2, rf3, rz⟩ := KA.out _ hMq.bel
              rename World => wd1
              go_cut [49] (fun _ wc => Made W wc W.heap.size m ⟨a, n, c, a1, KL.length, u1, a2, KD.length, u2, a3, ol, u3, (putAll items F), KL, KD, over⟩)
              case first =>
                go_region_with (first | ((go_at_call 57; refine (hDo _).mono ?_; rintro e w4 ⟨rfl, k0, k1, kz, hb4⟩; have hM4 := hMq.below hb4; obtain ⟨mz4, y0, y1, y2, y3, j0, j1, j2, j3⟩ := hM4.cells; simp only [] at y0 y1 y2 y3; have hDel := deleteDoubt_any 86 #[.pointer (some ⟨wd1.drew.heap.size, 0, none⟩)] (dbT (ts, tn)) W.heap.size a2 dl u2 doubts w4 hM4.own.doubts (doubtOf_asksG wd1.drew.heap.size (ts, tn) w4 _ k0 k1 kz (fun e => Nat.lt_irrefl _ (UD.out _ e.symm))); rw [← HKD.out] at hDel)) | ((go_at_call 56; refine hDel.mono ?_; rintro e w5 ⟨rfl, own5, gr5⟩; obtain ⟨cl5, fz5, hM5⟩ := hM4.put_doubts (Below.refl _ _) gr5 own5 (at_same _ _ _ _ _); simp only [] at cl5)))
                all_goals (go_wp2; go_meet; exact hM5)
              case rest =>
                have hMc := hcut
                clear hMq hMb x0 x1 x2 x3 g0 g1 g2 g3 mz c0 c1 c2 c3 t0 t1 r0 r1 r2 r3 rf0 rf1 rf2 rf3 rz hcut hDq UD
                obtain ⟨c0, c1, c2, c3, t0, t1, r0, r1, r2, r3, rf0, rf1, rf2, rf3, rz⟩ := KA.out _ hMc.bel
                have hOc := (HS.out _ hMc.bel).over
                simp only [] at hOc
                cases O with
                | true =>
                  have yD : Hid (D = ⟨(putAll items F), KL, KD, over⟩) := by show _ = _; rw [eD.out]; first | rfl | (simp; done)
                  go_upto_region 15 with (go_at_call 58; refine (hOv _ hOc).mono ?_; rintro e w6 ⟨rfl, hb6⟩)
                  have hMd := hMc.below hb6
                  clear c0 c1 c2 c3 t0 t1 r0 r1 r2 r3 rf0 rf1 rf2 rf3 rz
                  obtain ⟨c0, c1, c2, c3, t0, t1, r0, r1, r2, r3, rf0, rf1, rf2, rf3, rz⟩ := KA.out _ hMd.bel
                  obtain ⟨mz, x0, x1, x2, x3, g0, g1, g2, g3⟩ := hMd.cells
                  simp only [] at x0 x1 x2 x3
                  go_wp2
                  refine bodyPost_ret (v := .tuple #[.agg #[.slice a n c, .slice a1 KL.length u1, .slice a2 KD.length u2, .slice a3 ol u3], .int .i64 0]) (by simp [results, Tryd.results19, go_sem, r0, r1, r2, r3]) rfl ?_
                  rw [yD.out]
                  exact ⟨⟨a, n, c, a1, KL.length, u1, a2, KD.length, u2, a3, ol, u3, (putAll items F), KL, KD, over⟩, rfl, (hMd.own.four (b := w.heap.size + 1 + 1) (by omega) (.slice a n c) (.slice a1 KL.length u1) (.slice a2 KD.length u2) (.slice a3 ol u3)).base hB.size, rfl, below_four (hB.trans (hMd.bel.mono hB.size)) (by omega) (.slice a n c) (.slice a1 KL.length u1) (.slice a2 KD.length u2) (.slice a3 ol u3)⟩
                | false =>
                  have yD : Hid (D = ⟨(putAll items F), KL, KD, over ++ [(ts, tn)]⟩) := by show _ = _; rw [eD.out]; first | rfl | (simp; done)
                  go_upto_region 14 with (go_at_call 58; refine (hOv _ hOc).mono ?_; rintro e w6 ⟨rfl, hb6⟩)
                  have hMd := hMc.below hb6
                  clear c0 c1 c2 c3 t0 t1 r0 r1 r2 r3 rf0 rf1 rf2 rf3 rz
                  obtain ⟨c0, c1, c2, c3, t0, t1, r0, r1, r2, r3, rf0, rf1, rf2, rf3, rz⟩ := KA.out _ hMd.bel
                  obtain ⟨mz, x0, x1, x2, x3, g0, g1, g2, g3⟩ := hMd.cells
                  simp only [] at x0 x1 x2 x3
                  have zd := hMd.sz
                  have hol := hMd.own.over
                  simp only [] at hol
                  go_upto_region 15 with (at_builtin; go_loud (refine wpList_append_row E4 (by rfl) _ _ (by rfl) W.heap.size (.slice a3 ol u3) ol over (by rfl) (own_below hol ((Below.refl _ _).alloc (Nat.le_refl _) _)) _ 1 1 [(ts, tn)] (by rfl) (isOne _ _ _ _ rfl rfl) (by unfold maxLen; omega) (by omega) (by simp; omega) ?_; intro a7 c7 w7 own7 gr7 at7; obtain ⟨cl7, fz7, hM7⟩ := hMd.put_over ((Below.refl _ _).alloc (Nat.le_refl _) _) gr7 own7 at7; simp only [] at cl7))
                  obtain ⟨U7, hU7⟩ : ∃ U7 : World, U7 = w7.setCell ⟨m, 3, none⟩ (.slice a7 (ol + 1) c7) := ⟨_, rfl⟩
                  rw [← hU7] at hM7 ⊢
                  clear hU7 cl7 fz7 own7 gr7 at7 c0 c1 c2 c3 t0 t1 r0 r1 r2 r3 rf0 rf1 rf2 rf3 rz x0 x1 x2 x3 g0 g1 g2 g3 mz hMd
                  obtain ⟨c0, c1, c2, c3, t0, t1, r0, r1, r2, r3, rf0, rf1, rf2, rf3, rz⟩ := KA.out _ hM7.bel
                  obtain ⟨mz, x0, x1, x2, x3, g0, g1, g2, g3⟩ := hM7.cells
                  simp only [] at x0 x1 x2 x3
                  go_wp2
                  refine bodyPost_ret (v := .tuple #[.agg #[.slice a n c, .slice a1 KL.length u1, .slice a2 KD.length u2, .slice a7 (ol + 1) c7], .int .i64 0]) (by simp [results, Tryd.results19, go_sem, r0, r1, r2, r3]) rfl ?_
                  rw [yD.out]
                  exact ⟨⟨a, n, c, a1, KL.length, u1, a2, KD.length, u2, a7, ol + 1, c7, (putAll items F), KL, KD, over ++ [(ts, tn)]⟩, rfl, (hM7.own.four (b := w.heap.size + 1 + 1) (by omega) (.slice a n c) (.slice a1 KL.length u1) (.slice a2 KD.length u2) (.slice a7 (ol + 1) c7)).base hB.size, rfl, below_four (hB.trans (hM7.bel.mono hB.size)) (by omega) (.slice a n c) (.slice a1 KL.length u1) (.slice a2 KD.length u2) (.slice a7 (ol + 1) c7)⟩
  · have hE : E ≠ 0 := hE0
    have hEE : E = E := rfl
    go_wp2_with (go_at_call 51; refine (hC _ hSW).mono ?_; rintro e w1 ⟨rfl, hb1⟩; clear c0 c1 c2 c3 t0 t1 r0 r1 r2 r3 rf0 rf1 rf2 rf3 rz; obtain ⟨c0, c1, c2, c3, t0, t1, r0, r1, r2, r3, rf0, rf1, rf2, rf3, rz⟩ := KA.out _ hb1)
    refine bodyPost_ret (v := .tuple #[.agg #[.slice none 0 0, .slice none 0 0, .slice none 0 0, .slice none 0 0], .int .i64 E]) (by simp [results, Tryd.results19, go_sem, r0, r1, r2, r3]) rfl ?_
    have y3 := HBAD.out hE
    rw [y3]
    try rw [hEE]
    exact ⟨SV.nil, rfl, ownStore_nil _ _, rfl, below_four (hB.trans (hb1.mono hB.size)) (by omega) (.slice none 0 0) (.slice none 0 0) (.slice none 0 0) (.slice none 0 0)⟩
theorem end_any (s : SV) (t : Int × Int) (yes : Bool) (w : World) (h : IsStore w s) (hwf : ∀ t ∈ s.over, TxWf t) (h4 : s.ol * 16 ≤ 140737488351232) :
    Calls Tryd.prog 19 #[s.val, .agg #[.int .i64 t.1, .int .i64 t.2], .bool yes] w fun e w' => ∃ r : SV, e = .returned (.tuple #[r.val, .int .i64 (endErr s t yes)]) ∧ IsStore w' r ∧ r.data = endData s t yes ∧ Below w.heap.size w w' :=
  (end_own s t yes w h hwf h4).mono fun e w' ⟨r, q1, q2, q3⟩ => ⟨r, q1, q2.isStore, q3⟩
end Go.Proofs.YtcmjcopopkafnaaDoor.St
/- What hearing makes of a site's label, on plain data; the contracts of part.back, part.isTold and part.damage. -/
namespace Go.Proofs.YtcmjcopopkafnaaDoor.Pt
open Go.ChangeShapes Go.WideShapes Go.ChangeAt Go.RowKit
open Go.Proofs.YtcmjcopopkafnaaDoor.St (SV PS IsStore IsRow storeOK TxWf BoxN boxn_new OwnStore flat flat_append Elem isOne grown_setCell own_below own_isRow isRow_nil cntErr cntIs endErr endData txOK readVal readVer readErr readData peekVal peekVer peekErr writeErr writeData stillIs refErr)
set_option linter.unusedVariables false

def backM (kind : Int) (m : MV) : MV := ⟨kind, m.dst, m.frm, m.site, m.num, 0, 0, 0, 0, 0, false, 0⟩
def toldE (e : Int) : Bool := e == 0 || e == 11 || e == 8
def mtx (m : MV) : Int × Int := (m.site, m.num)
def gotM (l : Int) (own low : SV) (m : MV) : MV :=
  ⟨5, m.dst, m.frm, m.site, m.num, m.label, m.key, if m.label = l then readVal own (mtx m) m.key else peekVal low m.key, if m.label = l then readVer own (mtx m) m.key else peekVer low m.key, m.ask, false, if m.label = l then readErr own (mtx m) m.key else peekErr low m.key⟩
def readD (l : Int) (own low : SV) (m : MV) (v : AD) : AD :=
  ⟨if m.label = l ∧ readErr own (mtx m) m.key = 0 then readData own (mtx m) m.key else v.st, if toldE (gotM l own low m).code then [gotM l own low m] else v.ms, v.rs, v.ns⟩
def wrE (own : SV) (room : Int) (m : MV) : Int :=
  if writeErr own (mtx m) m.key m.value m.ask = 0 ∧ room < 500 then 8 else writeErr own (mtx m) m.key m.value m.ask
def doneM (own : SV) (room : Int) (m : MV) : MV := ⟨6, m.dst, m.frm, m.site, m.num, 0, m.key, 0, 0, m.ask, false, wrE own room m⟩
def writeD (own : SV) (room : Int) (m : MV) (v : AD) : AD :=
  ⟨if wrE own room m = 0 then writeData own (mtx m) m.key m.value m.ask else v.st, if toldE (wrE own room m) then [doneM own room m] else v.ms, if wrE own room m = 0 then [⟨1, m.site, m.num, m.key, m.value, m.ask, false⟩] else v.rs, v.ns⟩
def sureM (l : Int) (own low : SV) (m : MV) : MV :=
  ⟨7, m.dst, m.frm, m.site, m.num, m.label, m.key, 0, m.version, 0, if m.label = l then stillIs own (mtx m) m.key m.version else peekErr low m.key == 0 && peekVer low m.key == m.version, 0⟩
def checkD (l : Int) (own low : SV) (m : MV) (v : AD) : AD := ⟨v.st, [sureM l own low m], v.rs, v.ns⟩
def dmgd (m : MV) (n : NV) : Bool := (n.site == m.site && n.num == m.num) && (n.yes != m.yes) && !n.dmg
def dmgN (m : MV) (n : NV) : NV := if dmgd m n then ⟨n.site, n.num, n.yes, true⟩ else n
def decideD (own : SV) (m : MV) (v : AD) : AD :=
  ⟨endData own (mtx m) m.yes, [backM 8 m], if v.ns.any (dmgd m) || decide (0 < cntIs own (mtx m)) then [⟨2, m.site, m.num, 0, 0, 0, m.yes⟩] else v.rs, v.ns.map (dmgN m)⟩

theorem isTold_any (e : Int) (w : World) : Calls Tryd.prog 66 #[.int .i64 e] w fun r w' => r = .returned (.bool (toldE e)) ∧ w' = w := by
  unfold toldE
  go_enter Tryd.func66, Tryd.ntmps66
  by_cases h0 : e = 0
  · subst h0; go_wp2; go_ret; exact ⟨rfl, rfl⟩
  · have h0' : (e == 0) = false := by simp [h0]
    by_cases h1 : e = 11
    · subst h1; go_wp2; go_ret; exact ⟨rfl, rfl⟩
    · have h1' : (e == 11) = false := by simp [h1]
      rw [h0', h1']
      go_wp2
      go_ret
      exact ⟨by simp, rfl⟩
theorem back_any (kind0 : Int) (m : MV) (w : World) : Calls Tryd.prog 65 #[.int .i64 kind0, m.val] w fun e w' => e = .returned (backM kind0 m).val ∧ Below w.heap.size w w' := by
  obtain ⟨kind, frm, dst, site, num, label, key, value, version, ask, yes, code⟩ := m
  simp only [MV.val, backM]
  have hb : Below w.heap.size w ((w.alloc (.cells #[.int .i64 kind, .int .i64 frm, .int .i64 dst, .int .i64 site, .int .i64 num, .int .i64 label, .int .i64 key, .int .i64 value, .int .i64 version, .int .i64 ask, .bool yes, .int .i64 code] 33)).alloc (.cells #[.int .i64 kind0, .int .i64 dst, .int .i64 frm, .int .i64 site, .int .i64 num, .int .i64 0, .int .i64 0, .int .i64 0, .int .i64 0, .int .i64 0, .bool false, .int .i64 0] 33)) := ((Below.refl _ _).alloc (Nat.le_refl _) _).alloc (by simp) _
  go_enter Tryd.func65, Tryd.ntmps65
  go_wp2
  refine bodyPost_ret (v := .agg #[.int .i64 kind0, .int .i64 dst, .int .i64 frm, .int .i64 site, .int .i64 num, .int .i64 0, .int .i64 0, .int .i64 0, .int .i64 0, .int .i64 0, .bool false, .int .i64 0]) (by simp [results, Tryd.results65, go_sem]) rfl ⟨rfl, ?_⟩
  exact hb
theorem grown_trans {w u v : World} {r : Option Nat} (h : w.grownBy u r) (h2 : u.grownBy v r) : w.grownBy v r :=
  ⟨h2.os.trans h.os, h2.tape.trans h.tape, h2.output.trans h.output, Nat.le_trans h.size h2.size, fun k hk hr => (h2.block k (Nat.lt_of_lt_of_le hk h.size) hr).trans (h.block k hk hr)⟩
theorem flat_set {k : Nat} (n : NV) (xs ys : List NV) : (flat NV.cells (xs ++ n :: ys)).set (xs.length * 4 + 3) (.bool true) = flat NV.cells (xs ++ ⟨n.site, n.num, n.yes, true⟩ :: ys) := by
  have h1 : (flat NV.cells xs).length = xs.length * 4 := St.flat_len ncells_len xs
  rw [flat_append, flat_append, List.set_append_right _ _ (by omega), h1]
  congr 1
  rw [show xs.length * 4 + 3 - xs.length * 4 = 3 by omega]
  rfl
set_option maxRecDepth 100000 in
set_option maxHeartbeats 4000000 in
theorem damage_any (na : Option Addr) (nn nc : Nat) (ns : List NV) (m : MV) (B : Nat) (w : World) (own : w.ownsRow B 145 4 (.slice na nn nc) nn (flat NV.cells ns)) (hln : ns.length = nn) :
    Calls Tryd.prog 68 #[.slice na nn nc, m.val] w fun e w' => e = .returned (.bool (ns.any (dmgd m))) ∧ w'.ownsRow B 145 4 (.slice na nn nc) nn (flat NV.cells (ns.map (dmgN m))) ∧ w.grownBy w' (Value.slice na nn nc).ownBlock := by
  have HL : Hid (ns.length = nn) := hln
  clear hln
  obtain ⟨ANY, eANY⟩ : ∃ x, x = ns.any (dmgd m) := ⟨_, rfl⟩
  have HA : Hid (∀ k, k = nn → (ns.take k).any (dmgd m) = ANY) := fun k hk => by rw [eANY, List.take_of_length_le (by rw [HL.out, hk]; exact Nat.le_refl _)]
  rw [← eANY]
  clear eANY
  obtain ⟨RES, eRES⟩ : ∃ x, x = ns.map (dmgN m) := ⟨_, rfl⟩
  have HR : Hid (∀ k, k = nn → (ns.take k).map (dmgN m) ++ ns.drop k = RES) := fun k hk => by rw [eRES, List.take_of_length_le (by rw [HL.out, hk]; exact Nat.le_refl _), List.drop_of_length_le (by rw [HL.out, hk]; exact Nat.le_refl _), List.append_nil]
  rw [← eRES]
  clear eRES
  obtain ⟨M, eM⟩ : ∃ M : MV, M = m := ⟨_, rfl⟩
  rw [← eM] at HA HR
  obtain ⟨kind, frm, dst, site, num, label, key, value, version, ask, yes, code⟩ := m
  have HM : Hid (M.site = site ∧ M.num = num ∧ M.yes = yes) := by subst eM; exact ⟨rfl, rfl, rfl⟩
  clear eM
  simp only [MV.val]
  obtain ⟨W, hW⟩ : ∃ W : World, W = w.alloc (.cells #[.int .i64 kind, .int .i64 frm, .int .i64 dst, .int .i64 site, .int .i64 num, .int .i64 label, .int .i64 key, .int .i64 value, .int .i64 version, .int .i64 ask, .bool yes, .int .i64 code] 33) := ⟨_, rfl⟩
  have gW : w.grownBy W (Value.slice na nn nc).ownBlock := by rw [hW]; exact World.grownBy_alloc _ _ _
  have ownW : W.ownsRow B 145 4 (.slice na nn nc) nn (flat NV.cells ns) := own_below own (by rw [hW]; exact (Below.refl _ _).alloc (Nat.le_refl _) _)
  have z0 : w.heap.size < W.heap.size := by rw [hW]; simp
  have hne : ∀ g, (Value.slice na nn nc).ownBlock = some g → g < w.heap.size := fun g e => (own.lt g e).2
  have bxM : BoxN W w.heap.size 12 [.int .i64 kind, .int .i64 frm, .int .i64 dst, .int .i64 site, .int .i64 num, .int .i64 label, .int .i64 key, .int .i64 value, .int .i64 version, .int .i64 ask, .bool yes, .int .i64 code] := by rw [hW]; exact boxn_new w #[.int .i64 kind, .int .i64 frm, .int .i64 dst, .int .i64 site, .int .i64 num, .int .i64 label, .int .i64 key, .int .i64 value, .int .i64 version, .int .i64 ask, .bool yes, .int .i64 code] 33 12 rfl
  have KM : Hid (∀ U : World, W.grownBy U (Value.slice na nn nc).ownBlock → BoxN U w.heap.size 12 [.int .i64 kind, .int .i64 frm, .int .i64 dst, .int .i64 site, .int .i64 num, .int .i64 label, .int .i64 key, .int .i64 value, .int .i64 version, .int .i64 ask, .bool yes, .int .i64 code]) := fun U hU => bxM.grown hU (fun e => by have := hne _ e.symm; omega)
  have hmx : nn ≤ nc ∧ nc ≤ 9223372036854775807 := by
    obtain ⟨a', cap', e, h1, h2, _⟩ := St.own_form own
    simp at e
    obtain ⟨rfl, rfl⟩ := e
    exact ⟨h1, by unfold maxLen at h2; omega⟩
  obtain ⟨hnc, hnx⟩ := hmx
  go_enter Tryd.func68, Tryd.ntmps68
  go_upto_region 3 with (fail)
  rw [← hW]
  clear hW
  clear own bxM
  go_loopw [5, 10] (fun an i wr => ∃ k : Nat, k ≤ nn ∧ i = .int .i64 (k : Int) ∧ an = .bool ((ns.take k).any (dmgd M)) ∧ wr.ownsRow B 145 4 (.slice na nn nc) nn (flat NV.cells ((ns.take k).map (dmgN M) ++ ns.drop k)) ∧ W.grownBy wr (Value.slice na nn nc).ownBlock) (fun _ i _ => nn - (intOf i).toNat)
  case atStart => exact ⟨0, Nat.zero_le _, rfl, rfl, by simpa using ownW, World.grownBy.refl _ _⟩
  case round =>
    obtain ⟨k, hk, rfl, rfl, own, hg⟩ := hrel
    have bxm := KM.out _ hg
    have zm := bxm.lt
    have zs := hg.size
    by_cases hlt : k < nn
    · have hlt' : (k : Int) < (nn : Int) := by omega
      have hkc : k < nc := by omega
      have hkl : k < ns.length := by rw [HL.out]; exact hlt
      have HT : Hid (ns.take (k + 1) = ns.take k ++ [ns.getD k default]) := St.take_at hkl
      have HDr : Hid (ns.drop k = ns.getD k default :: ns.drop (k + 1)) := by
        show _ = _
        rw [List.drop_eq_getElem_cons hkl]; simp [List.getD, hkl]
      have HLk : Hid (((ns.take k).map (dmgN M)).length = k) := by show _ = _; simp; omega
      obtain ⟨⟨n1, n2, ny, nd⟩, en⟩ : ∃ x, x = ns.getD k default := ⟨_, rfl⟩
      rw [← en] at HT HDr
      clear en
      obtain ⟨hrow, hbk⟩ := own_isRow ncells_len own (by simp [HL.out]; omega)
      obtain ⟨b, off, hna, hbl, hc⟩ := hrow.2.2.2.2 (by omega)
      have hoff : off = 0 := by
        rcases own.2 with ⟨e, _⟩ | ⟨g, cap', cur, e, _⟩
        · simp at e; rw [hna] at e; simp at e
        · simp at e; rw [hna] at e; simp at e; exact e.1.2
      subst hoff
      subst hna
      have e1 := hc k hlt
      rw [HDr.out] at e1
      have hgt : ((ns.take k).map (dmgN M) ++ (⟨n1, n2, ny, nd⟩ : NV) :: ns.drop (k + 1)).getD k default = ⟨n1, n2, ny, nd⟩ := by
        have := HLk.out
        rw [List.getD_eq_getElem?_getD, List.getElem?_append_right (by omega), this]; simp
      rw [hgt] at e1
      have x0 := e1 0 (by decide)
      have x1 := e1 1 (by decide)
      have x2 := e1 2 (by decide)
      have x3 := e1 3 (by decide)
      simp only [NV.cells, List.getElem?_cons_zero, List.getElem?_cons_succ, Nat.add_zero, Nat.zero_add] at x0 x1 x2 x3
      have f3 := (St.own_there own (k := k * 4 + 3) (by omega)).2
      have hbW : b ≠ w.heap.size := by have := hne b rfl; omega
      have m3 := (bxm.c 3 (by decide)).1
      have m4 := (bxm.c 4 (by decide)).1
      have m10 := (bxm.c 10 (by decide)).1
      simp only [List.getD_cons_zero, List.getD_cons_succ] at m3 m4 m10
      clear hc e1 hgt hrow hbk bxm
      obtain ⟨U, eU⟩ : ∃ U : World, U = wr.alloc (.cells #[.int .i64 n1, .int .i64 n2, .bool ny, .bool nd] 145) := ⟨_, rfl⟩
      have bU : Below wr.heap.size wr U := by rw [eU]; exact (Below.refl _ _).alloc (Nat.le_refl _) _
      obtain ⟨US, eUS⟩ : ∃ U : World, U = (wr.setCell ⟨b, k * 4 + 3, none⟩ (.bool true)).alloc (.cells #[.int .i64 n1, .int .i64 n2, .bool ny, .bool nd] 145) := ⟨_, rfl⟩
      have bUS : Below (wr.setCell ⟨b, k * 4 + 3, none⟩ (.bool true)).heap.size (wr.setCell ⟨b, k * 4 + 3, none⟩ (.bool true)) US := by rw [eUS]; exact (Below.refl _ _).alloc (Nat.le_refl _) _
      have ownU := own_below own bU
      have gU : W.grownBy U (Value.slice (some ⟨b, 0, none⟩) nn nc).ownBlock := grown_trans hg (by rw [eU]; exact World.grownBy_alloc _ _ _)
      have HNo : Hid (∀ d : Bool, dmgd M ⟨n1, n2, ny, nd⟩ = d → d = false → dmgN M ⟨n1, n2, ny, nd⟩ = ⟨n1, n2, ny, nd⟩) := fun d h1 h2 => by unfold dmgN; rw [h1, h2]; rfl
      have HYes : Hid (dmgd M ⟨n1, n2, ny, nd⟩ = true → dmgN M ⟨n1, n2, ny, nd⟩ = ⟨n1, n2, ny, true⟩) := fun h => by unfold dmgN; rw [h]; rfl
      have HNEXT : Hid (dmgd M ⟨n1, n2, ny, nd⟩ = false → (ns.take (k + 1)).any (dmgd M) = (ns.take k).any (dmgd M) ∧ U.ownsRow B 145 4 (.slice (some ⟨b, 0, none⟩) nn nc) nn (flat NV.cells ((ns.take (k + 1)).map (dmgN M) ++ ns.drop (k + 1)))) := fun h => by
        refine ⟨by rw [HT.out, List.any_append]; simp [h], ?_⟩
        rw [HT.out, List.map_append, List.append_assoc]
        simp only [List.map_cons, List.map_nil, List.singleton_append, HNo.out _ h rfl]
        rw [← HDr.out]
        exact ownU
      have HSET : Hid (dmgd M ⟨n1, n2, ny, nd⟩ = true → (ns.take (k + 1)).any (dmgd M) = true ∧ US.ownsRow B 145 4 (.slice (some ⟨b, 0, none⟩) nn nc) nn (flat NV.cells ((ns.take (k + 1)).map (dmgN M) ++ ns.drop (k + 1)))) := fun h => by
        refine ⟨by rw [HT.out, List.any_append]; simp [h], ?_⟩
        have h1 := St.own_setk own (k := k * 4 + 3) (by omega) (.bool true)
        replace h1 := own_below h1 bUS
        rw [HDr.out] at h1
        have h2 := flat_set (k := 0) ⟨n1, n2, ny, nd⟩ ((ns.take k).map (dmgN M)) (ns.drop (k + 1))
        rw [HLk.out] at h2
        rw [h2] at h1
        rw [HT.out, List.map_append, List.append_assoc]
        simp only [List.map_cons, List.map_nil, List.singleton_append, HYes.out h]
        exact h1
      have GS : Hid (W.grownBy US (Value.slice (some ⟨b, 0, none⟩) nn nc).ownBlock) := grown_trans hg (grown_trans (grown_setCell wr ⟨b, k * 4 + 3, none⟩ (.bool true)) (by rw [eUS]; exact World.grownBy_alloc _ _ _))
      have HG : Hid (W.grownBy U (Value.slice (some ⟨b, 0, none⟩) nn nc).ownBlock) := gU
      have HDM : Hid (dmgd M ⟨n1, n2, ny, nd⟩ = ((n1 == site && n2 == num) && (ny != yes) && !nd)) := by show _ = _; unfold dmgd; rw [HM.out.1, HM.out.2.1, HM.out.2.2]
      clear own ownU gU hg hne gW ownW
      by_cases c1 : n1 = site
      · by_cases c2 : n2 = num
        · have c12 : (n1 == site && n2 == num) = true := by simp [c1, c2]
          subst c1
          subst c2
          by_cases c3 : ny = yes
          · subst c3
            have hd := HDM.out
            rw [c12] at hd
            simp at hd
            obtain ⟨hA1, hO1⟩ := HNEXT.out hd
            go_wp2
            rw [← eU]
            go_roundw
            case rel => exact ⟨k + 1, by omega, by go_num, by rw [hA1], hO1, HG.out⟩
            case measure => simp [intOf]; omega
          · have c3' : (ny == yes) = false := by simp [c3]
            by_cases c4 : nd = true
            · subst c4
              have hd := HDM.out
              simp at hd
              obtain ⟨hA1, hO1⟩ := HNEXT.out hd
              go_wp2
              rw [← eU]
              go_roundw
              case rel => exact ⟨k + 1, by omega, by go_num, by rw [hA1], hO1, HG.out⟩
              case measure => simp [intOf]; omega
            · have c4' : nd = false := by simpa using c4
              subst c4'
              have hd := HDM.out
              rw [c12] at hd
              have hd' : dmgd M ⟨n1, n2, ny, false⟩ = true := by rw [hd]; simp [c3]
              obtain ⟨hA1, hO1⟩ := HSET.out hd'
              go_wp2
              rw [← eUS]
              go_roundw
              case rel => exact ⟨k + 1, by omega, by go_num, by rw [hA1], hO1, GS.out⟩
              case measure => simp [intOf]; omega
        · subst c1
          have hd := HDM.out
          have c2' : (n2 == num) = false := by simp [c2]
          rw [c2'] at hd
          simp at hd
          obtain ⟨hA1, hO1⟩ := HNEXT.out hd
          go_wp2
          rw [← eU]
          go_roundw
          case rel => exact ⟨k + 1, by omega, by go_num, by rw [hA1], hO1, HG.out⟩
          case measure => simp [intOf]; omega
      · have hd := HDM.out
        have c1' : (n1 == site) = false := by simp [c1]
        rw [c1'] at hd
        simp at hd
        obtain ⟨hA1, hO1⟩ := HNEXT.out hd
        go_wp2
        rw [← eU]
        go_roundw
        case rel => exact ⟨k + 1, by omega, by go_num, by rw [hA1], hO1, HG.out⟩
        case measure => simp [intOf]; omega
    · obtain rfl : nn = k := by omega
      go_wp2
      go_ret
      rw [HR.out _ rfl] at own
      exact ⟨by rw [HA.out _ rfl]; rfl, own, grown_trans gW hg⟩

end Go.Proofs.YtcmjcopopkafnaaDoor.Pt
/- An answer that is being made in a box: what is put into it, field by field, and what leaves it alone. -/
namespace Go.Proofs.YtcmjcopopkafnaaDoor.Pt
open Go.ChangeShapes Go.WideShapes Go.ChangeAt Go.RowKit
open Go.Proofs.YtcmjcopopkafnaaDoor.St (SV PS IsStore IsRow storeOK TxWf BoxN boxn_new OwnStore flat flat_append Elem isOne grown_setCell own_below own_isRow isRow_nil)
set_option linter.unusedVariables false

/-- Where a list lies: among what was there ahead of the call, or at C or above. -/
def Clr (lo C : Nat) (a : Option Addr) (n : Nat) : Prop := 0 < n → ∀ b off, a = some ⟨b, off, none⟩ → b < lo ∨ C ≤ b
theorem clr_old {α : Type} [Inhabited α] {k : Nat} {cells : α → List Value} {w : World} {a : Option Addr} {n c : Nat} {xs : List α} (h : IsRow k cells w a n c xs) (C : Nat) : Clr w.heap.size C a n := fun hp b off e => by
  obtain ⟨b', off', e', hl, _⟩ := h.2.2.2.2 hp
  rw [e] at e'
  simp at e'
  exact Or.inl (by rw [e'.1]; exact hl)
theorem clr_own {w : World} {B : Nat} {te : TypeId} {k : Nat} {a : Option Addr} {n c m : Nat} {xs : List Value} (h : w.ownsRow B te k (.slice a n c) m xs) (lo : Nat) {C : Nat} (hC : C ≤ B) : Clr lo C a n := fun hp b off e => by
  subst e
  exact Or.inr (Nat.le_trans hC (h.lt b rfl).1)
theorem row_step {α : Type} [Inhabited α] {k : Nat} {cells : α → List Value} {U U' : World} {a : Option Addr} {n c lo C q : Nat} {xs : List α} (h : IsRow k cells U a n c xs) (hc : Clr lo C a n) (hg : U.grownBy U' (some q)) (h1 : lo ≤ q) (h2 : q < C) : IsRow k cells U' a n c xs := by
  obtain ⟨e1, e2, e3, e4, e5⟩ := h
  refine ⟨e1, e2, e3, e4, fun hp => ?_⟩
  obtain ⟨b, off, e, hl, hcs⟩ := e5 hp
  have hb := hc hp b off e
  refine ⟨b, off, e, Nat.lt_of_lt_of_le hl hg.size, fun i hi j hj => ?_⟩
  rw [World.cell?_of_block (a := ⟨b, off + i * k + j, none⟩) (hg.block b hl (fun e' => by simp at e'; omega))]
  exact hcs i hi j hj
structure AnsV.clr (v : AnsV) (lo C : Nat) : Prop where
  ia : Clr lo C v.st.ia v.st.il
  la : Clr lo C v.st.la v.st.ll
  da : Clr lo C v.st.da v.st.dl
  oa : Clr lo C v.st.oa v.st.ol
  ma : Clr lo C v.ma v.ml
  ra : Clr lo C v.ra v.rl
  na : Clr lo C v.na v.nl
theorem IsAns.step {U U' : World} {v : AnsV} {lo C q : Nat} (h : IsAns U v) (hc : v.clr lo C) (hg : U.grownBy U' (some q)) (h1 : lo ≤ q) (h2 : q < C) : IsAns U' v :=
  ⟨⟨row_step h.st.items hc.ia hg h1 h2, row_step h.st.locks hc.la hg h1 h2, row_step h.st.doubts hc.da hg h1 h2, row_step h.st.over hc.oa hg h1 h2⟩, row_step h.ms hc.ma hg h1 h2, row_step h.rs hc.ra hg h1 h2, row_step h.ns hc.na hg h1 h2⟩
theorem IsAns.clr {w : World} {v : AnsV} (h : IsAns w v) (C : Nat) : v.clr w.heap.size C :=
  ⟨clr_old h.st.items C, clr_old h.st.locks C, clr_old h.st.doubts C, clr_old h.st.over C, clr_old h.ms C, clr_old h.rs C, clr_old h.ns C⟩
/-- The answer in the box at w's size; the result's box stands behind two others. Nothing of what was there changed, but for one block. -/
structure Half (w X : World) (nb : Option Nat) (C : Nat) (v0 v : AnsV) : Prop where
  A : BoxN X w.heap.size 7 v.cells
  Q : BoxN X (w.heap.size + 2) 7 [.slice none 0 0, .slice none 0 0, .slice none 0 0, .slice none 0 0, .slice none 0 0, .slice none 0 0, .slice none 0 0]
  ans : IsAns X v
  clr : v.clr w.heap.size C
  gr : w.grownBy X nb
  C3 : w.heap.size + 3 ≤ C
  nb : ∀ g, nb = some g → g < w.heap.size
  far : ∀ B, v0.far B → B ≤ w.heap.size → v.far B
theorem grown_of_below {w X : World} (h : Below w.heap.size w X) (nb : Option Nat) : w.grownBy X nb := ⟨h.os, h.tape, h.output, h.size, fun k hk _ => h.block k hk⟩
theorem below_of_grown {w X : World} (h : w.grownBy X none) : Below w.heap.size w X := grownN h
theorem grown_put {w X : World} {nb : Option Nat} (h : w.grownBy X nb) {q : Nat} (hq : w.heap.size ≤ q) (i : Nat) (u : Value) : w.grownBy (X.setCell ⟨q, i, none⟩ u) nb :=
  ⟨h.os, h.tape, h.output, by simpa using h.size, fun k hk hr => (Below.heap_setCell X ⟨q, i, none⟩ u k (by simp; omega)).trans (h.block k hk hr)⟩
theorem Half.start {w X : World} {v : AnsV} {C : Nat} (hv : IsAns w v) (hX : Below w.heap.size w X) (hA : BoxN X w.heap.size 7 v.cells) (hQ : BoxN X (w.heap.size + 2) 7 [.slice none 0 0, .slice none 0 0, .slice none 0 0, .slice none 0 0, .slice none 0 0, .slice none 0 0, .slice none 0 0]) (hC : w.heap.size + 3 ≤ C) (nb : Option Nat) (hnb : ∀ g, nb = some g → g < w.heap.size) : Half w X nb C v v :=
  ⟨hA, hQ, hv.below hX, hv.clr C, grown_of_below hX nb, hC, hnb, fun B h _ => h⟩
theorem Half.below {w X X' : World} {nb : Option Nat} {C : Nat} {v0 v : AnsV} (h : Half w X nb C v0 v) (hb : Below X.heap.size X X') : Half w X' nb C v0 v :=
  ⟨h.A.below hb h.A.lt, h.Q.below hb h.Q.lt, h.ans.below hb, h.clr, grown_trans h.gr (grown_of_below hb nb), h.C3, h.nb, h.far⟩
theorem Half.aside {w X : World} {nb : Option Nat} {C : Nat} {v0 v : AnsV} (h : Half w X nb C v0 v) {q : Nat} (h1 : w.heap.size + 3 ≤ q) (h2 : q < C) (i : Nat) (u : Value) : Half w (X.setCell ⟨q, i, none⟩ u) nb C v0 v :=
  ⟨h.A.far (by omega), h.Q.far (by omega), h.ans.step h.clr (grown_setCell X ⟨q, i, none⟩ u) (by simp; omega) h2, h.clr, grown_put h.gr (by omega) i u, h.C3, h.nb, h.far⟩
theorem grown4 (w : World) (b : Nat) (v0 v1 v2 v3 : Value) : w.grownBy ((((w.setCell ⟨b, 0, none⟩ (v0)).setCell ⟨b, 1, none⟩ (v1)).setCell ⟨b, 2, none⟩ (v2)).setCell ⟨b, 3, none⟩ (v3)) (some b) := grown_one (grown_one (grown_one (grown_one (World.grownBy.refl _ _))))
theorem Half.store {w X : World} {nb : Option Nat} {C B : Nat} {v0 : AnsV} {st : SV} {ma : Option Addr} {ml mc : Nat} {ra : Option Addr} {rl rc : Nat} {na : Option Addr} {nl nc : Nat} {ms : List MV} {rs : List RV} {ns : List NV} (h : Half w X nb C v0 ⟨st, ma, ml, mc, ra, rl, rc, na, nl, nc, ms, rs, ns⟩) {r : SV} (hO : OwnStore X B r) (hB : C ≤ B) :
    Half w ((((X.setCell ⟨w.heap.size, 0, none⟩ (.slice r.ia r.il r.ic)).setCell ⟨w.heap.size, 1, none⟩ (.slice r.la r.ll r.lc)).setCell ⟨w.heap.size, 2, none⟩ (.slice r.da r.dl r.dc)).setCell ⟨w.heap.size, 3, none⟩ (.slice r.oa r.ol r.oc)) nb C v0 ⟨r, ma, ml, mc, ra, rl, rc, na, nl, nc, ms, rs, ns⟩ := by
  have g := grown4 X w.heap.size (.slice r.ia r.il r.ic) (.slice r.la r.ll r.lc) (.slice r.da r.dl r.dc) (.slice r.oa r.ol r.oc)
  have hC3 := h.C3
  have hc : AnsV.clr ⟨r, ma, ml, mc, ra, rl, rc, na, nl, nc, ms, rs, ns⟩ w.heap.size C := ⟨clr_own hO.items _ hB, clr_own hO.locks _ hB, clr_own hO.doubts _ hB, clr_own hO.over _ hB, h.clr.ma, h.clr.ra, h.clr.na⟩
  have ha : IsAns X ⟨r, ma, ml, mc, ra, rl, rc, na, nl, nc, ms, rs, ns⟩ := ⟨hO.isStore, h.ans.ms, h.ans.rs, h.ans.ns⟩
  refine ⟨?_, (((h.Q.far (by omega)).far (by omega)).far (by omega)).far (by omega), ha.step hc g (Nat.le_refl _) (by omega), hc, ?_, h.C3, h.nb, fun B' hf hB' => ?_⟩
  · exact (((h.A.set 0 (by decide) _).set 1 (by decide) _).set 2 (by decide) _).set 3 (by decide) _
  · exact grown_put (grown_put (grown_put (grown_put h.gr (Nat.le_refl _) _ _) (Nat.le_refl _) _ _) (Nat.le_refl _) _ _) (Nat.le_refl _) _ _
  · have hf' := h.far B' hf hB'
    have hBB : B' ≤ B := by omega
    exact ⟨fun b o e => Nat.le_trans hBB (hO.items.lt b (by rw [show r.ia = _ from e]; rfl)).1, fun b o e => Nat.le_trans hBB (hO.locks.lt b (by rw [show r.la = _ from e]; rfl)).1, fun b o e => Nat.le_trans hBB (hO.doubts.lt b (by rw [show r.da = _ from e]; rfl)).1, fun b o e => Nat.le_trans hBB (hO.over.lt b (by rw [show r.oa = _ from e]; rfl)).1, hf'.ma, hf'.ra, hf'.na⟩
theorem Half.msg {w X : World} {nb : Option Nat} {C mb : Nat} {v0 : AnsV} {st : SV} {ma : Option Addr} {ml mc : Nat} {ra : Option Addr} {rl rc : Nat} {na : Option Addr} {nl nc : Nat} {ms : List MV} {rs : List RV} {ns : List NV} (h : Half w X nb C v0 ⟨st, ma, ml, mc, ra, rl, rc, na, nl, nc, ms, rs, ns⟩) {g : MV} (hR : IsRow 12 mcells X (some ⟨mb, 0, none⟩) 1 1 [g]) (hB : C ≤ mb) :
    Half w (X.setCell ⟨w.heap.size, 4, none⟩ (.slice (some ⟨mb, 0, none⟩) 1 1)) nb C v0 ⟨st, some ⟨mb, 0, none⟩, 1, 1, ra, rl, rc, na, nl, nc, [g], rs, ns⟩ := by
  have hC3 := h.C3
  have hc : AnsV.clr ⟨st, some ⟨mb, 0, none⟩, 1, 1, ra, rl, rc, na, nl, nc, [g], rs, ns⟩ w.heap.size C := ⟨h.clr.ia, h.clr.la, h.clr.da, h.clr.oa, fun _ b off e => by simp at e; exact Or.inr (by omega), h.clr.ra, h.clr.na⟩
  have ha : IsAns X ⟨st, some ⟨mb, 0, none⟩, 1, 1, ra, rl, rc, na, nl, nc, [g], rs, ns⟩ := ⟨h.ans.st, hR, h.ans.rs, h.ans.ns⟩
  refine ⟨h.A.set 4 (by decide) _, h.Q.far (by omega), ha.step hc (grown_setCell X ⟨w.heap.size, 4, none⟩ _) (Nat.le_refl _) (by simp; omega), hc, grown_put h.gr (Nat.le_refl _) _ _, h.C3, h.nb, fun B' hf hB' => ?_⟩
  have hf' := h.far B' hf hB'
  exact ⟨hf'.ia, hf'.la, hf'.da, hf'.oa, (fun b o e => by simp at e; omega), hf'.ra, hf'.na⟩
theorem Half.rcd {w X : World} {nb : Option Nat} {C mb : Nat} {v0 : AnsV} {st : SV} {ma : Option Addr} {ml mc : Nat} {ra : Option Addr} {rl rc : Nat} {na : Option Addr} {nl nc : Nat} {ms : List MV} {rs : List RV} {ns : List NV} (h : Half w X nb C v0 ⟨st, ma, ml, mc, ra, rl, rc, na, nl, nc, ms, rs, ns⟩) {g : RV} (hR : IsRow 8 RV.cells X (some ⟨mb, 0, none⟩) 1 1 [g]) (hB : C ≤ mb) :
    Half w (X.setCell ⟨w.heap.size, 5, none⟩ (.slice (some ⟨mb, 0, none⟩) 1 1)) nb C v0 ⟨st, ma, ml, mc, some ⟨mb, 0, none⟩, 1, 1, na, nl, nc, ms, [g], ns⟩ := by
  have hC3 := h.C3
  have hc : AnsV.clr ⟨st, ma, ml, mc, some ⟨mb, 0, none⟩, 1, 1, na, nl, nc, ms, [g], ns⟩ w.heap.size C := ⟨h.clr.ia, h.clr.la, h.clr.da, h.clr.oa, h.clr.ma, fun _ b off e => by simp at e; exact Or.inr (by omega), h.clr.na⟩
  have ha : IsAns X ⟨st, ma, ml, mc, some ⟨mb, 0, none⟩, 1, 1, na, nl, nc, ms, [g], ns⟩ := ⟨h.ans.st, h.ans.ms, hR, h.ans.ns⟩
  refine ⟨h.A.set 5 (by decide) _, h.Q.far (by omega), ha.step hc (grown_setCell X ⟨w.heap.size, 5, none⟩ _) (Nat.le_refl _) (by simp; omega), hc, grown_put h.gr (Nat.le_refl _) _ _, h.C3, h.nb, fun B' hf hB' => ?_⟩
  have hf' := h.far B' hf hB'
  exact ⟨hf'.ia, hf'.la, hf'.da, hf'.oa, hf'.ma, (fun b o e => by simp at e; omega), hf'.na⟩
/-- The answer is told. -/
theorem Half.fin {w X : World} {nb : Option Nat} {C : Nat} {v0 v : AnsV} (h : Half w X nb C v0 v) (u0 u1 u2 u3 u4 u5 u6 : Value) : IsAns (((((((X.setCell ⟨w.heap.size + 2, 0, none⟩ (u0)).setCell ⟨w.heap.size + 2, 1, none⟩ (u1)).setCell ⟨w.heap.size + 2, 2, none⟩ (u2)).setCell ⟨w.heap.size + 2, 3, none⟩ (u3)).setCell ⟨w.heap.size + 2, 4, none⟩ (u4)).setCell ⟨w.heap.size + 2, 5, none⟩ (u5)).setCell ⟨w.heap.size + 2, 6, none⟩ (u6)) v ∧ w.grownBy (((((((X.setCell ⟨w.heap.size + 2, 0, none⟩ (u0)).setCell ⟨w.heap.size + 2, 1, none⟩ (u1)).setCell ⟨w.heap.size + 2, 2, none⟩ (u2)).setCell ⟨w.heap.size + 2, 3, none⟩ (u3)).setCell ⟨w.heap.size + 2, 4, none⟩ (u4)).setCell ⟨w.heap.size + 2, 5, none⟩ (u5)).setCell ⟨w.heap.size + 2, 6, none⟩ (u6)) nb := by
  have hC3 := h.C3
  refine ⟨h.ans.step h.clr (grown7 X (w.heap.size + 2) u0 u1 u2 u3 u4 u5 u6) (by omega) (by omega), ?_⟩
  exact grown_put (grown_put (grown_put (grown_put (grown_put (grown_put (grown_put h.gr (by omega) _ _) (by omega) _ _) (by omega) _ _) (by omega) _ _) (by omega) _ _) (by omega) _ _) (by omega) _ _
/-- Three boxes: an answer, a message, the result's. -/
theorem three {w : World} {a m q : Array Value} {ta tm : TypeId} (ha : a.size = 7) (hm : m.size = 12) (hq : q.size = 7) : BoxN (((w.alloc (.cells a ta)).alloc (.cells m tm)).alloc (.cells q ta)) w.heap.size 7 a.toList ∧ BoxN (((w.alloc (.cells a ta)).alloc (.cells m tm)).alloc (.cells q ta)) (w.heap.size + 1) 12 m.toList ∧ BoxN (((w.alloc (.cells a ta)).alloc (.cells m tm)).alloc (.cells q ta)) (w.heap.size + 2) 7 q.toList ∧ Below w.heap.size w (((w.alloc (.cells a ta)).alloc (.cells m tm)).alloc (.cells q ta)) ∧ (((w.alloc (.cells a ta)).alloc (.cells m tm)).alloc (.cells q ta)).heap.size = w.heap.size + 3 := by
  refine ⟨?_, ?_, ?_, (((Below.refl _ _).alloc (Nat.le_refl _) _).alloc (by simp) _).alloc (by simp; omega) _, by simp⟩
  · have h1 := boxn_new w a ta 7 ha
    have h2 := h1.below ((Below.refl _ _).alloc (Nat.le_refl _) (.cells m tm)) h1.lt
    exact h2.below ((Below.refl _ _).alloc (Nat.le_refl _) _) h2.lt
  · have h1 := boxn_new (w.alloc (.cells a ta)) m tm 12 hm
    have h2 := h1.below ((Below.refl _ _).alloc (Nat.le_refl _) (.cells q ta)) h1.lt
    simpa using h2
  · have h1 := boxn_new ((w.alloc (.cells a ta)).alloc (.cells m tm)) q ta 7 hq
    simpa using h1
theorem Half.msg2 {w X : World} {nb : Option Nat} {C : Nat} {v0 : AnsV} {st : SV} {ma : Option Addr} {ml mc : Nat} {ra : Option Addr} {rl rc : Nat} {na : Option Addr} {nl nc : Nat} {ms : List MV} {rs : List RV} {ns : List NV} (h : Half w X nb C v0 ⟨st, ma, ml, mc, ra, rl, rc, na, nl, nc, ms, rs, ns⟩) {g : MV} {cs : Array Value} {ty : TypeId} (hc : cs.toList = mcells g) (hk : cs.size = 12) (hB : C ≤ X.heap.size) :
    Half w ((X.setCell ⟨w.heap.size, 4, none⟩ (.slice (some ⟨X.heap.size, 0, none⟩) 1 1)).alloc (.cells cs ty)) nb C v0 ⟨st, some ⟨X.heap.size, 0, none⟩, 1, 1, ra, rl, rc, na, nl, nc, [g], rs, ns⟩ := by
  have hC3 := h.C3
  have hr : IsRow 12 mcells ((X.setCell ⟨w.heap.size, 4, none⟩ (.slice (some ⟨X.heap.size, 0, none⟩) 1 1)).alloc (.cells cs ty)) (some ⟨X.heap.size, 0, none⟩) 1 1 [g] := by
    have := isOne (X.setCell ⟨w.heap.size, 4, none⟩ (.slice (some ⟨X.heap.size, 0, none⟩) 1 1)) cs ty g hc hk
    simpa using this
  have ba : Below (X.setCell ⟨w.heap.size, 4, none⟩ (.slice (some ⟨X.heap.size, 0, none⟩) 1 1)).heap.size (X.setCell ⟨w.heap.size, 4, none⟩ (.slice (some ⟨X.heap.size, 0, none⟩) 1 1)) ((X.setCell ⟨w.heap.size, 4, none⟩ (.slice (some ⟨X.heap.size, 0, none⟩) 1 1)).alloc (.cells cs ty)) := (Below.refl _ _).alloc (Nat.le_refl _) _
  have hA := h.A.set 4 (by decide) (.slice (some ⟨X.heap.size, 0, none⟩) 1 1)
  have hQ : BoxN (X.setCell ⟨w.heap.size, 4, none⟩ (.slice (some ⟨X.heap.size, 0, none⟩) 1 1)) (w.heap.size + 2) 7 _ := h.Q.far (by omega)
  have i1 := (h.ans.step h.clr (grown_setCell X ⟨w.heap.size, 4, none⟩ (.slice (some ⟨X.heap.size, 0, none⟩) 1 1)) (Nat.le_refl _) (by simp; omega)).below ba
  refine ⟨hA.below ba hA.lt, hQ.below ba hQ.lt, ⟨i1.st, hr, i1.rs, i1.ns⟩, ⟨h.clr.ia, h.clr.la, h.clr.da, h.clr.oa, fun _ b off e => by simp at e; exact Or.inr (by omega), h.clr.ra, h.clr.na⟩, grown_trans (grown_put h.gr (Nat.le_refl _) _ _) (grown_of_below ba nb), h.C3, h.nb, fun B' hf hB' => ?_⟩
  have hf' := h.far B' hf hB'
  exact ⟨hf'.ia, hf'.la, hf'.da, hf'.oa, (fun b o e => by simp at e; omega), hf'.ra, hf'.na⟩
theorem Half.rcd2 {w X : World} {nb : Option Nat} {C : Nat} {v0 : AnsV} {st : SV} {ma : Option Addr} {ml mc : Nat} {ra : Option Addr} {rl rc : Nat} {na : Option Addr} {nl nc : Nat} {ms : List MV} {rs : List RV} {ns : List NV} (h : Half w X nb C v0 ⟨st, ma, ml, mc, ra, rl, rc, na, nl, nc, ms, rs, ns⟩) {g : RV} {cs : Array Value} {ty : TypeId} (hc : cs.toList = g.cells) (hk : cs.size = 8) (hB : C ≤ X.heap.size) :
    Half w ((X.setCell ⟨w.heap.size, 5, none⟩ (.slice (some ⟨X.heap.size, 0, none⟩) 1 1)).alloc (.cells cs ty)) nb C v0 ⟨st, ma, ml, mc, some ⟨X.heap.size, 0, none⟩, 1, 1, na, nl, nc, ms, [g], ns⟩ := by
  have hC3 := h.C3
  have hr : IsRow 8 RV.cells ((X.setCell ⟨w.heap.size, 5, none⟩ (.slice (some ⟨X.heap.size, 0, none⟩) 1 1)).alloc (.cells cs ty)) (some ⟨X.heap.size, 0, none⟩) 1 1 [g] := by
    have := isOne (X.setCell ⟨w.heap.size, 5, none⟩ (.slice (some ⟨X.heap.size, 0, none⟩) 1 1)) cs ty g hc hk
    simpa using this
  have ba : Below (X.setCell ⟨w.heap.size, 5, none⟩ (.slice (some ⟨X.heap.size, 0, none⟩) 1 1)).heap.size (X.setCell ⟨w.heap.size, 5, none⟩ (.slice (some ⟨X.heap.size, 0, none⟩) 1 1)) ((X.setCell ⟨w.heap.size, 5, none⟩ (.slice (some ⟨X.heap.size, 0, none⟩) 1 1)).alloc (.cells cs ty)) := (Below.refl _ _).alloc (Nat.le_refl _) _
  have hA := h.A.set 5 (by decide) (.slice (some ⟨X.heap.size, 0, none⟩) 1 1)
  have hQ : BoxN (X.setCell ⟨w.heap.size, 5, none⟩ (.slice (some ⟨X.heap.size, 0, none⟩) 1 1)) (w.heap.size + 2) 7 _ := h.Q.far (by omega)
  have i1 := (h.ans.step h.clr (grown_setCell X ⟨w.heap.size, 5, none⟩ (.slice (some ⟨X.heap.size, 0, none⟩) 1 1)) (Nat.le_refl _) (by simp; omega)).below ba
  refine ⟨hA.below ba hA.lt, hQ.below ba hQ.lt, ⟨i1.st, i1.ms, hr, i1.ns⟩, ⟨h.clr.ia, h.clr.la, h.clr.da, h.clr.oa, h.clr.ma, fun _ b off e => by simp at e; exact Or.inr (by omega), h.clr.na⟩, grown_trans (grown_put h.gr (Nat.le_refl _) _ _) (grown_of_below ba nb), h.C3, h.nb, fun B' hf hB' => ?_⟩
  have hf' := h.far B' hf hB'
  exact ⟨hf'.ia, hf'.la, hf'.da, hf'.oa, hf'.ma, (fun b o e => by simp at e; omega), hf'.na⟩
theorem Half.dmg {w X X' : World} {nb : Option Nat} {C B : Nat} {v0 : AnsV} {r : SV} {na : Option Addr} {nl nc : Nat} {ns ns' : List NV} (h : Half w X nb C v0 ⟨r, none, 0, 0, none, 0, 0, na, nl, nc, [], [], ns⟩) (hO : OwnStore X B r) (hB : C ≤ B) (hg : X.grownBy X' nb) (hn : IsNotes X' na nl nc ns') : Half w X' nb C v0 ⟨r, none, 0, 0, none, 0, 0, na, nl, nc, [], [], ns'⟩ := by
  have hC3 := h.C3
  have ne : ∀ g, w.heap.size ≤ g → some g ≠ nb := fun g hgw e => by have := h.nb g e.symm; omega
  have ne2 : ∀ {te : TypeId} {k n : Nat} {a : Option Addr} {m c : Nat} {xs : List Value}, X.ownsRow B te k (.slice a m c) n xs → ∀ b off, a = some ⟨b, off, none⟩ → some b ≠ nb := fun ho b off e => by
    subst e
    exact ne b (by have := (ho.lt b rfl).1; omega)
  refine ⟨h.A.grown hg (ne _ (Nat.le_refl _)), h.Q.grown hg (ne _ (by omega)), ⟨⟨row_grown h.ans.st.items hg (ne2 hO.items), row_grown h.ans.st.locks hg (ne2 hO.locks), row_grown h.ans.st.doubts hg (ne2 hO.doubts), row_grown h.ans.st.over hg (ne2 hO.over)⟩, isRow_nil _ _ _, isRow_nil _ _ _, hn⟩, ⟨h.clr.ia, h.clr.la, h.clr.da, h.clr.oa, h.clr.ma, h.clr.ra, h.clr.na⟩, grown_trans h.gr hg, h.C3, h.nb, fun B' hf hB' => ?_⟩
  have hf' := h.far B' hf hB'
  exact ⟨hf'.ia, hf'.la, hf'.da, hf'.oa, hf'.ma, hf'.ra, hf'.na⟩
theorem bxDr {u : World} {q n : Nat} {vs : List Value} (h : BoxN u q n vs) : BoxN u.drew q n vs := h.below (Below.refl _ _).drew h.lt
theorem cllS {u : World} {Q b i : Nat} {x : Value} (h : u.cell? ⟨b, i, none⟩ = some x) (hb : b ≠ Q) (j : Nat) (v : Value) : (u.setCell ⟨Q, j, none⟩ v).cell? ⟨b, i, none⟩ = some x := by
  rw [World.cell?_of_block (a := ⟨b, i, none⟩) (Below.heap_setCell u ⟨Q, j, none⟩ v b hb)]; exact h
theorem ownS {u : World} {B : Nat} {r : SV} (h : OwnStore u B r) {q : Nat} (hq : q < B) (i : Nat) (v : Value) : OwnStore (u.setCell ⟨q, i, none⟩ v) B r := by
  have hg := grown_setCell u ⟨q, i, none⟩ v
  have ne : ∀ {te : TypeId} {k n : Nat} {x : Value} {xs : List Value}, u.ownsRow B te k x n xs → x.ownBlock = none ∨ x.ownBlock ≠ some q := fun h => by
    exact Or.inr (fun e => absurd (h.lt q e).1 (by omega))
  exact ⟨h.items.kept hg (ne h.items), h.locks.kept hg (ne h.locks), h.doubts.kept hg (ne h.doubts), h.over.kept hg (ne h.over), h.ap_il, h.ap_id, h.ap_io, h.ap_ld, h.ap_lo, h.ap_do⟩

end Go.Proofs.YtcmjcopopkafnaaDoor.Pt
