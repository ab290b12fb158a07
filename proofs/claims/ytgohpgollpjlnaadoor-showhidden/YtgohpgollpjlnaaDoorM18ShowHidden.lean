/- Texts of this claim, one behind the other. -/
import Derived.Test.YtgohpgollpjlnaaDoorM14ShowHidden
import Derived.Test.YtgohpgollpjlnaaDoorM8ShowHidden
import Derived.Test.YtgohpgollpjlnaaDoorProg
import Derived.WalkKit
import Derived.ProofKit
import Derived.Below
import Derived.OpenShut
import Derived.Test.YtgohpgollpjlnaaDoorA0ShowHidden
import Derived.Test.YtgohpgollpjlnaaDoorA15ShowHidden
import Derived.Test.YtgohpgollpjlnaaDoorA17ShowHidden
import Derived.Deep.Cut
import Derived.Deep.RegionHeld3
/- The contract of store.End. -/
namespace Go.Proofs.YtgohpgollpjlnaaDoor.St
open Go.ChangeShapes Go.WideShapes Go.ChangeAt Go.RowKit
set_option linter.unusedVariables false

theorem asksG_lt {α : Type} {fn : Nat} {cps : Array Value} {val : α → Value} {p : α → Bool} {w : World} {row : Option Nat} (hE : Enters Tryd.prog fn) (h : ∀ (x : α) (w' : World), w.grownBy w' row → Calls Tryd.prog fn (#[val x] ++ cps) w' fun e w'' => e = .returned (.bool (p x)) ∧ Below w'.heap.size w' w'') : AsksG fn cps val p row w := ⟨hE, h⟩
theorem of_asksG (b0 : Nat) (t : Int × Int) (w : World) (row : Option Nat) (c00 : w.cell? ⟨b0, 0, none⟩ = some (.int .i64 t.1)) (c01 : w.cell? ⟨b0, 1, none⟩ = some (.int .i64 t.2)) (z0 : b0 < w.heap.size) (hne : some b0 ≠ row) : AsksG 101 #[.pointer (some ⟨b0, 0, none⟩)] LkV.val (ofT t) row w := by
  refine ⟨(of_asks b0 t w c00 c01 z0).1, fun x w' hg => ?_⟩
  have k0 : w'.cell? ⟨b0, 0, none⟩ = some (.int .i64 t.1) := by rw [World.cell?_of_block (a := ⟨b0, 0, none⟩) (hg.block b0 z0 hne)]; exact c00
  have k1 : w'.cell? ⟨b0, 1, none⟩ = some (.int .i64 t.2) := by rw [World.cell?_of_block (a := ⟨b0, 1, none⟩) (hg.block b0 z0 hne)]; exact c01
  exact (of_asks b0 t w' k0 k1 (Nat.lt_of_lt_of_le z0 hg.size)).2 x w' (Below.refl _ _)
theorem doubtOf_asksG (b0 : Nat) (t : Int × Int) (w : World) (row : Option Nat) (c00 : w.cell? ⟨b0, 0, none⟩ = some (.int .i64 t.1)) (c01 : w.cell? ⟨b0, 1, none⟩ = some (.int .i64 t.2)) (z0 : b0 < w.heap.size) (hne : some b0 ≠ row) : AsksG 103 #[.pointer (some ⟨b0, 0, none⟩)] DbV.val (dbT t) row w := by
  refine ⟨(doubtOf_asks b0 t w c00 c01 z0).1, fun x w' hg => ?_⟩
  have k0 : w'.cell? ⟨b0, 0, none⟩ = some (.int .i64 t.1) := by rw [World.cell?_of_block (a := ⟨b0, 0, none⟩) (hg.block b0 z0 hne)]; exact c00
  have k1 : w'.cell? ⟨b0, 1, none⟩ = some (.int .i64 t.2) := by rw [World.cell?_of_block (a := ⟨b0, 1, none⟩) (hg.block b0 z0 hne)]; exact c01
  exact (doubtOf_asks b0 t w' k0 k1 (Nat.lt_of_lt_of_le z0 hg.size)).2 x w' (Below.refl _ _)
/-- store.of, with where its box lies. -/
theorem of_at (t : Int × Int) (w : World) :
    Calls Tryd.prog 69 #[.agg #[.int .i64 t.1, .int .i64 t.2]] w fun e w' => e = .returned (.func (.func 101) #[] #[.pointer (some ⟨w.heap.size, 0, none⟩)]) ∧ w'.cell? ⟨w.heap.size, 0, none⟩ = some (.int .i64 t.1) ∧ w'.cell? ⟨w.heap.size, 1, none⟩ = some (.int .i64 t.2) ∧ w.heap.size < w'.heap.size ∧ Below w.heap.size w w' := by
  obtain ⟨ts, tn⟩ := t
  obtain ⟨W, hW⟩ : ∃ W : World, W = (w.alloc (.cells #[.int .i64 ts, .int .i64 tn] 23)) := ⟨_, rfl⟩
  have hB : Below w.heap.size w W := by rw [hW]; exact ((Below.refl _ _).alloc (Nat.le_refl _) _)
  have zW : w.heap.size < W.heap.size := by rw [hW]; simp
  have c00 : W.cell? ⟨w.heap.size, 0, none⟩ = some (.int .i64 ts) := by rw [hW]; go_simp
  have c01 : W.cell? ⟨w.heap.size, 1, none⟩ = some (.int .i64 tn) := by rw [hW]; go_simp
  go_enter Tryd.func69, Tryd.ntmps69
  go_wp2
  rw [← hW]
  go_ret
  exact ⟨rfl, c00, c01, zW, hB⟩
theorem doubtOf_at (t : Int × Int) (w : World) :
    Calls Tryd.prog 71 #[.agg #[.int .i64 t.1, .int .i64 t.2]] w fun e w' => e = .returned (.func (.func 103) #[] #[.pointer (some ⟨w.heap.size, 0, none⟩)]) ∧ w'.cell? ⟨w.heap.size, 0, none⟩ = some (.int .i64 t.1) ∧ w'.cell? ⟨w.heap.size, 1, none⟩ = some (.int .i64 t.2) ∧ w.heap.size < w'.heap.size ∧ Below w.heap.size w w' := by
  obtain ⟨ts, tn⟩ := t
  obtain ⟨W, hW⟩ : ∃ W : World, W = (w.alloc (.cells #[.int .i64 ts, .int .i64 tn] 23)) := ⟨_, rfl⟩
  have hB : Below w.heap.size w W := by rw [hW]; exact ((Below.refl _ _).alloc (Nat.le_refl _) _)
  have zW : w.heap.size < W.heap.size := by rw [hW]; simp
  have c00 : W.cell? ⟨w.heap.size, 0, none⟩ = some (.int .i64 ts) := by rw [hW]; go_simp
  have c01 : W.cell? ⟨w.heap.size, 1, none⟩ = some (.int .i64 tn) := by rw [hW]; go_simp
  go_enter Tryd.func71, Tryd.ntmps71
  go_wp2
  rw [← hW]
  go_ret
  exact ⟨rfl, c00, c01, zW, hB⟩

set_option maxRecDepth 100000 in
set_option maxHeartbeats 8000000 in
theorem end_own (s : SV) (t : Int × Int) (yes : Bool) (w : World) (h : IsStore w s) (hwf : ∀ t ∈ s.over, TxWf t) (h4 : s.ol * 16 ≤ 140737488351232) :
    Calls Tryd.prog 36 #[s.val, .agg #[.int .i64 t.1, .int .i64 t.2], .bool yes] w fun e w' => ∃ r : SV, e = .returned (.tuple #[r.val, .int .i64 (endErr s t yes)]) ∧ OwnStore w' w.heap.size r ∧ r.data = endData s t yes ∧ Below w.heap.size w w' := by
  obtain ⟨i4, E4⟩ := txElem
  have hC : ∀ w', IsStore w' s → Calls Tryd.prog 37 #[s.val, .agg #[.int .i64 t.1, .int .i64 t.2]] w' fun e w'' => e = .returned (.int .i64 (endErr s t yes)) ∧ Below w'.heap.size w' w'' := fun w' h1 => refuseTxn_any s t w' h1 hwf
  have hOwn := fun w' h1 k1 k2 k3 => own_any s w' h1 k1 k2 k3 (by omega)
  have hWO := fun w' h1 h2 => writesOf_any s t w' h1 h2
  have hOv := fun w' h1 => isOver_any s t w' h1
  have hOf := fun w' => of_at t w'
  have hDo := fun w' => doubtOf_at t w'
  have hok : endErr s t yes = 0 → (s.il ≤ 8 ∧ s.ll ≤ 24 ∧ s.dl ≤ 24) ∧ ∀ y ∈ s.items, 0 ≤ y.version ∧ y.version ≤ 1048576 := fun e => by
    have hs : storeOK s = true := by cases hs : storeOK s with | true => rfl | false => simp [endErr, hs] at e
    refine ⟨ok_sizes hs h, ?_⟩
    have hi := (ok_parts hs).1
    have : ∀ (l : List ItV) (lo : Int), itemsOK lo l = true → ∀ y ∈ l, 0 ≤ y.version ∧ y.version ≤ 1048576 := by
      intro l
      induction l with
      | nil => intro lo _ y hy; simp at hy
      | cons x r ih =>
        intro lo hh y hy
        simp only [itemsOK, Bool.and_eq_true] at hh
        rcases List.mem_cons.1 hy with rfl | hy
        · have := inR_of hh.1.2; omega
        · exact ih _ hh.2 y hy
    exact this _ _ hi
  obtain ⟨E, e0⟩ : ∃ R : Int, R = endErr s t yes := ⟨_, rfl⟩
  obtain ⟨D, e1⟩ : ∃ R, R = endData s t yes := ⟨_, rfl⟩
  obtain ⟨O, e2⟩ : ∃ R, R = decide (t ∈ s.over) := ⟨_, rfl⟩
  obtain ⟨F, e3⟩ : ∃ R, R = s.locks.filter (wOf t) := ⟨_, rfl⟩
  obtain ⟨KL, e5⟩ : ∃ R, R = keep (ofT t) s.locks := ⟨_, rfl⟩
  obtain ⟨KD, e6⟩ : ∃ R, R = keep (dbT t) s.doubts := ⟨_, rfl⟩
  have HKL : Hid (KL = keep (ofT t) s.locks) := e5
  have HKD : Hid (KD = keep (dbT t) s.doubts) := e6
  have HFl : Hid (F.length ≤ s.ll) := by show _ ≤ _; rw [e3, ← h.locks.1]; exact List.length_filter_le ..
  have eD : Hid (D = if E = 0 then ⟨if yes then putAll s.items F else s.items, KL, KD, if O then s.over else s.over ++ [t]⟩ else PS.nil) := by
    show _ = _
    rw [e0, e1, e2, e3, e5, e6]
    unfold endData
    simp only [decide_eq_true_eq]
  have HBAD : Hid (E ≠ 0 → D = PS.nil) := fun hE => by rw [eD.out, if_neg hE]
  rw [← e0, ← e1]
  rw [← e0] at hC hok
  rw [← e2] at hOv
  rw [← e3] at hWO
  clear e0 e1 e2 e3 e5 e6
  have hh := h
  obtain ⟨ia, il, ic, la, ll, lc, da, dl, dc, oa, ol, oc, items, locks, doubts, over⟩ := s
  obtain ⟨ts, tn⟩ := t
  simp only [SV.val] at *
  obtain ⟨W, hW⟩ : ∃ W : World, W = (((w.alloc (.cells #[.slice ia il ic, .slice la ll lc, .slice da dl dc, .slice oa ol oc] 55)).alloc (.cells #[.int .i64 ts, .int .i64 tn] 23)).alloc (.cells #[.slice none 0 0, .slice none 0 0, .slice none 0 0, .slice none 0 0] 55)) := ⟨_, rfl⟩
  have hB : Below w.heap.size w W := by rw [hW]; exact ((((Below.refl _ _).alloc (Nat.le_refl _) _).alloc (by simp) _).alloc (by simp; omega) _)
  have zW : W.heap.size = w.heap.size + 3 := by rw [hW]; simp
  have zb0 : w.heap.size < W.heap.size := by omega
  have zb1 : w.heap.size + 1 < W.heap.size := by omega
  have zb2 : w.heap.size + 1 + 1 < W.heap.size := by omega
  have HZW : Hid (W.heap.size = w.heap.size + 3) := zW
  clear zW
  have c0 : W.cell? ⟨w.heap.size, 0, none⟩ = some (.slice ia il ic) := by rw [hW]; go_simp
  have c1 : W.cell? ⟨w.heap.size, 1, none⟩ = some (.slice la ll lc) := by rw [hW]; go_simp
  have c2 : W.cell? ⟨w.heap.size, 2, none⟩ = some (.slice da dl dc) := by rw [hW]; go_simp
  have c3 : W.cell? ⟨w.heap.size, 3, none⟩ = some (.slice oa ol oc) := by rw [hW]; go_simp
  have t0 : W.cell? ⟨w.heap.size + 1, 0, none⟩ = some (.int .i64 ts) := by rw [hW]; go_simp
  have t1 : W.cell? ⟨w.heap.size + 1, 1, none⟩ = some (.int .i64 tn) := by rw [hW]; go_simp
  have r0 : W.cell? ⟨w.heap.size + 1 + 1, 0, none⟩ = some (.slice none 0 0) := by rw [hW]; go_simp
  have r1 : W.cell? ⟨w.heap.size + 1 + 1, 1, none⟩ = some (.slice none 0 0) := by rw [hW]; go_simp
  have r2 : W.cell? ⟨w.heap.size + 1 + 1, 2, none⟩ = some (.slice none 0 0) := by rw [hW]; go_simp
  have r3 : W.cell? ⟨w.heap.size + 1 + 1, 3, none⟩ = some (.slice none 0 0) := by rw [hW]; go_simp
  have rf0 : W.frozen? ⟨w.heap.size + 1 + 1, 0, none⟩ = false := by rw [hW]; go_simp
  have rf1 : W.frozen? ⟨w.heap.size + 1 + 1, 1, none⟩ = false := by rw [hW]; go_simp
  have rf2 : W.frozen? ⟨w.heap.size + 1 + 1, 2, none⟩ = false := by rw [hW]; go_simp
  have rf3 : W.frozen? ⟨w.heap.size + 1 + 1, 3, none⟩ = false := by rw [hW]; go_simp
  have rz : w.heap.size + 1 + 1 < W.heap.size := zb2
  have KA : Hid (∀ U : World, Below W.heap.size W U → U.cell? ⟨w.heap.size, 0, none⟩ = some (.slice ia il ic) ∧ U.cell? ⟨w.heap.size, 1, none⟩ = some (.slice la ll lc) ∧ U.cell? ⟨w.heap.size, 2, none⟩ = some (.slice da dl dc) ∧ U.cell? ⟨w.heap.size, 3, none⟩ = some (.slice oa ol oc) ∧ U.cell? ⟨w.heap.size + 1, 0, none⟩ = some (.int .i64 ts) ∧ U.cell? ⟨w.heap.size + 1, 1, none⟩ = some (.int .i64 tn) ∧ U.cell? ⟨w.heap.size + 1 + 1, 0, none⟩ = some (.slice none 0 0) ∧ U.cell? ⟨w.heap.size + 1 + 1, 1, none⟩ = some (.slice none 0 0) ∧ U.cell? ⟨w.heap.size + 1 + 1, 2, none⟩ = some (.slice none 0 0) ∧ U.cell? ⟨w.heap.size + 1 + 1, 3, none⟩ = some (.slice none 0 0) ∧ U.frozen? ⟨w.heap.size + 1 + 1, 0, none⟩ = false ∧ U.frozen? ⟨w.heap.size + 1 + 1, 1, none⟩ = false ∧ U.frozen? ⟨w.heap.size + 1 + 1, 2, none⟩ = false ∧ U.frozen? ⟨w.heap.size + 1 + 1, 3, none⟩ = false ∧ w.heap.size + 1 + 1 < U.heap.size) := fun U hU => ⟨(hU.cell (p := ⟨w.heap.size, 0, none⟩) zb0).trans c0, (hU.cell (p := ⟨w.heap.size, 1, none⟩) zb0).trans c1, (hU.cell (p := ⟨w.heap.size, 2, none⟩) zb0).trans c2, (hU.cell (p := ⟨w.heap.size, 3, none⟩) zb0).trans c3, (hU.cell (p := ⟨w.heap.size + 1, 0, none⟩) zb1).trans t0, (hU.cell (p := ⟨w.heap.size + 1, 1, none⟩) zb1).trans t1, (hU.cell (p := ⟨w.heap.size + 1 + 1, 0, none⟩) zb2).trans r0, (hU.cell (p := ⟨w.heap.size + 1 + 1, 1, none⟩) zb2).trans r1, (hU.cell (p := ⟨w.heap.size + 1 + 1, 2, none⟩) zb2).trans r2, (hU.cell (p := ⟨w.heap.size + 1 + 1, 3, none⟩) zb2).trans r3, (hU.frozen (p := ⟨w.heap.size + 1 + 1, 0, none⟩) zb2).trans rf0, (hU.frozen (p := ⟨w.heap.size + 1 + 1, 1, none⟩) zb2).trans rf1, (hU.frozen (p := ⟨w.heap.size + 1 + 1, 2, none⟩) zb2).trans rf2, (hU.frozen (p := ⟨w.heap.size + 1 + 1, 3, none⟩) zb2).trans rf3, Nat.lt_of_lt_of_le zb2 hU.size⟩
  have hSW := hh.below hB
  have HS : Hid (∀ U : World, Below W.heap.size W U → IsStore U ⟨ia, il, ic, la, ll, lc, da, dl, dc, oa, ol, oc, items, locks, doubts, over⟩) := fun U hU => hSW.below hU
  clear hh h
  go_enter Tryd.func36, Tryd.ntmps36
  go_upto_region 1 with (fail)
  rw [← hW]
  clear hW
  by_cases hE0 : E = 0
  · obtain ⟨⟨q1, q2, q3⟩, hver⟩ := hok hE0
    have HVER : Hid (∀ y ∈ items, 0 ≤ y.version ∧ y.version ≤ 1048576) := hver
    clear hok hver
    subst hE0
    have hFl := HFl.out
    go_upto_region 5 with (first
      | (go_at_call 37; refine (hC _ hSW).mono ?_; rintro e w1 ⟨rfl, hb1⟩; clear c0 c1 c2 c3 t0 t1 r0 r1 r2 r3 rf0 rf1 rf2 rf3 rz; obtain ⟨c0, c1, c2, c3, t0, t1, r0, r1, r2, r3, rf0, rf1, rf2, rf3, rz⟩ := KA.out _ hb1; have hS1 := hSW.below hb1)
      | (go_at_call 63; refine (hOwn _ hS1 (by omega) (by omega) (by omega)).mono ?_; rintro e w2 ⟨⟨a0, n0, u0, a1, n1, u1, a2, n2, u2, a3, n3, u3, items', locks', doubts', over'⟩, rfl, hsame, hown, hb2'⟩; obtain ⟨v1, v2, v3, v4, v5, v6, v7, v8⟩ := hsame; simp only [] at v1 v2 v3 v4 v5 v6 v7 v8; obtain rfl := v1.symm; obtain rfl := v2.symm; obtain rfl := v3.symm; obtain rfl := v4.symm; obtain rfl := v5.symm; obtain rfl := v6.symm; obtain rfl := v7.symm; obtain rfl := v8.symm; simp only []; have hb2 : Below W.heap.size W w2 := hb1.trans (hb2'.mono hb1.size)))
    obtain ⟨X, hX⟩ : ∃ X : World, X = w2.alloc (.cells #[.slice a0 il u0, .slice a1 ll u1, .slice a2 dl u2, .slice a3 ol u3] 55) := ⟨_, rfl⟩
    have hM0 : Made W X W.heap.size w2.heap.size ⟨a0, il, u0, a1, ll, u1, a2, dl, u2, a3, ol, u3, items, locks, doubts, over⟩ := by
      have hb3 : Below w2.heap.size w2 X := by rw [hX]; exact (Below.refl _ _).alloc (Nat.le_refl _) _
      refine Made.new (hown.base hb1.size) hb2 hb3 (Nat.le_refl _) ?_ hb2.size
      rw [hX]
      exact boxn_new w2 #[.slice a0 il u0, .slice a1 ll u1, .slice a2 dl u2, .slice a3 ol u3] 55 4 rfl
    rw [← hX]
    obtain ⟨m, em⟩ : ∃ m, m = w2.heap.size := ⟨_, rfl⟩
    have zm : W.heap.size ≤ m := by rw [em]; exact hb2.size
    rw [← em] at hM0 ⊢
    clear hX hown em c0 c1 c2 c3 t0 t1 r0 r1 r2 r3 rf0 rf1 rf2 rf3 rz hS1 hC hOwn hb2 hb2' hb1
    clear w2
    cases yes with
    | false =>
      go_upto_region 11 with (fail)
      have UL : Hid (∀ q, (Value.slice a1 ll u1).ownBlock = some q → q < X.heap.size) := hM0.under.locks
      have hDq : Below X.heap.size X X.drew := (Below.refl _ _).drew
      have hMq := hM0.below hDq
      obtain ⟨mz, x0, x1, x2, x3, g0, g1, g2, g3⟩ := hMq.cells
      simp only [] at x0 x1 x2 x3
      obtain ⟨c0, c1, c2, c3, t0, t1, r0, r1, r2, r3, rf0, rf1, rf2, rf3, rz⟩ := KA.out _ hMq.bel
      go_cut [43] (fun _ wc => Made W wc W.heap.size m ⟨a0, il, u0, a1, KL.length, u1, a2, dl, u2, a3, ol, u3, items, KL, doubts, over⟩)
      case first =>
        go_region_with (first | ((go_at_call 69; refine (hOf _).mono ?_; rintro e w4 ⟨rfl, k0, k1, kz, hb4⟩; have hM4 := hMq.below hb4; obtain ⟨mz4, y0, y1, y2, y3, j0, j1, j2, j3⟩ := hM4.cells; simp only [] at y0 y1 y2 y3; have hDel := deleteLock_any 101 #[.pointer (some ⟨X.drew.heap.size, 0, none⟩)] (ofT (ts, tn)) W.heap.size a1 ll u1 locks w4 hM4.own.locks (of_asksG X.drew.heap.size (ts, tn) w4 _ k0 k1 kz (fun e => Nat.lt_irrefl _ (UL.out _ e.symm))); rw [← HKL.out] at hDel)) | ((go_at_call 68; refine hDel.mono ?_; rintro e w5 ⟨rfl, own5, gr5⟩; obtain ⟨cl5, fz5, hM5⟩ := hM4.put_locks (Below.refl _ _) gr5 own5 (at_same _ _ _ _ _); simp only [] at cl5)))
        all_goals (go_wp2; go_meet; exact hM5)
      case rest =>
        have hMb := hcut
        go_upto_region 12 with (fail)
        clear hMq x0 x1 x2 x3 g0 g1 g2 g3 mz c0 c1 c2 c3 t0 t1 r0 r1 r2 r3 rf0 rf1 rf2 rf3 rz hcut hDq UL
        have UD : Hid (∀ q, (Value.slice a2 dl u2).ownBlock = some q → q < wc.heap.size) := hMb.under.doubts
        have hDq : Below wc.heap.size wc wc.drew := (Below.refl _ _).drew
        have hMq := hMb.below hDq
        obtain ⟨mz, x0, x1, x2, x3, g0, g1, g2, g3⟩ := hMq.cells
        simp only [] at x0 x1 x2 x3
        obtain ⟨c0, c1, c2, c3, t0, t1, r0, r1, r2, r3, rf0, rf1, rf2, rf3, rz⟩ := KA.out _ hMq.bel
        rename World => wd1
        go_cut [49] (fun _ wc => Made W wc W.heap.size m ⟨a0, il, u0, a1, KL.length, u1, a2, KD.length, u2, a3, ol, u3, items, KL, KD, over⟩)
        case first =>
          go_region_with (first | ((go_at_call 71; refine (hDo _).mono ?_; rintro e w4 ⟨rfl, k0, k1, kz, hb4⟩; have hM4 := hMq.below hb4; obtain ⟨mz4, y0, y1, y2, y3, j0, j1, j2, j3⟩ := hM4.cells; simp only [] at y0 y1 y2 y3; have hDel := deleteDoubt_any 103 #[.pointer (some ⟨wd1.drew.heap.size, 0, none⟩)] (dbT (ts, tn)) W.heap.size a2 dl u2 doubts w4 hM4.own.doubts (doubtOf_asksG wd1.drew.heap.size (ts, tn) w4 _ k0 k1 kz (fun e => Nat.lt_irrefl _ (UD.out _ e.symm))); rw [← HKD.out] at hDel)) | ((go_at_call 70; refine hDel.mono ?_; rintro e w5 ⟨rfl, own5, gr5⟩; obtain ⟨cl5, fz5, hM5⟩ := hM4.put_doubts (Below.refl _ _) gr5 own5 (at_same _ _ _ _ _); simp only [] at cl5)))
          all_goals (go_wp2; go_meet; exact hM5)
        case rest =>
          have hMc := hcut
          clear hMq hMb x0 x1 x2 x3 g0 g1 g2 g3 mz c0 c1 c2 c3 t0 t1 r0 r1 r2 r3 rf0 rf1 rf2 rf3 rz hcut hDq UD
          obtain ⟨c0, c1, c2, c3, t0, t1, r0, r1, r2, r3, rf0, rf1, rf2, rf3, rz⟩ := KA.out _ hMc.bel
          have hOc := (HS.out _ hMc.bel).over
          simp only [] at hOc
          cases O with
          | true =>
            have yD : Hid (D = ⟨items, KL, KD, over⟩) := by show _ = _; rw [eD.out]; first | rfl | (simp; done)
            go_upto_region 15 with (go_at_call 72; refine (hOv _ hOc).mono ?_; rintro e w6 ⟨rfl, hb6⟩)
            have hMd := hMc.below hb6
            clear c0 c1 c2 c3 t0 t1 r0 r1 r2 r3 rf0 rf1 rf2 rf3 rz
            obtain ⟨c0, c1, c2, c3, t0, t1, r0, r1, r2, r3, rf0, rf1, rf2, rf3, rz⟩ := KA.out _ hMd.bel
            obtain ⟨mz, x0, x1, x2, x3, g0, g1, g2, g3⟩ := hMd.cells
            simp only [] at x0 x1 x2 x3
            go_wp2
            refine bodyPost_ret (v := .tuple #[.agg #[.slice a0 il u0, .slice a1 KL.length u1, .slice a2 KD.length u2, .slice a3 ol u3], .int .i64 0]) (by simp [results, Tryd.results36, go_sem, r0, r1, r2, r3]) rfl ?_
            rw [yD.out]
            exact ⟨⟨a0, il, u0, a1, KL.length, u1, a2, KD.length, u2, a3, ol, u3, items, KL, KD, over⟩, rfl, (hMd.own.four (b := w.heap.size + 1 + 1) (by omega) (.slice a0 il u0) (.slice a1 KL.length u1) (.slice a2 KD.length u2) (.slice a3 ol u3)).base hB.size, rfl, below_four (hB.trans (hMd.bel.mono hB.size)) (by omega) (.slice a0 il u0) (.slice a1 KL.length u1) (.slice a2 KD.length u2) (.slice a3 ol u3)⟩
          | false =>
            have yD : Hid (D = ⟨items, KL, KD, over ++ [(ts, tn)]⟩) := by show _ = _; rw [eD.out]; first | rfl | (simp; done)
            go_upto_region 14 with (go_at_call 72; refine (hOv _ hOc).mono ?_; rintro e w6 ⟨rfl, hb6⟩)
            have hMd := hMc.below hb6
            clear c0 c1 c2 c3 t0 t1 r0 r1 r2 r3 rf0 rf1 rf2 rf3 rz
            obtain ⟨c0, c1, c2, c3, t0, t1, r0, r1, r2, r3, rf0, rf1, rf2, rf3, rz⟩ := KA.out _ hMd.bel
            obtain ⟨mz, x0, x1, x2, x3, g0, g1, g2, g3⟩ := hMd.cells
            simp only [] at x0 x1 x2 x3
            have zd := hMd.sz
            have hol := hMd.own.over
            simp only [] at hol
            go_upto_region 15 with (at_builtin; go_loud (refine wpList_append_row E4 (by rfl) _ _ (by rfl) W.heap.size (.slice a3 ol u3) ol over (by rfl) (own_below hol ((Below.refl _ _).alloc (Nat.le_refl _) _)) _ 1 1 [(ts, tn)] (by rfl) (isOne _ _ _ _ rfl rfl) (by unfold maxLen; omega) (by omega) (by simp; omega) ?_; intro a7 c7 w7 own7 gr7 at7; obtain ⟨cl7, fz7, hM7⟩ := hMd.put_over ((Below.refl _ _).alloc (Nat.le_refl _) _) gr7 own7 at7; simp only [] at cl7))
            obtain ⟨U7, hU7⟩ : ∃ U7 : World, U7 = w7.setCell ⟨m, 3, none⟩ (.slice a7 (ol + 1) c7) := ⟨_, rfl⟩
            rw [← hU7] at hM7 ⊢
            clear hU7 cl7 fz7 own7 gr7 at7 c0 c1 c2 c3 t0 t1 r0 r1 r2 r3 rf0 rf1 rf2 rf3 rz x0 x1 x2 x3 g0 g1 g2 g3 mz hMd
            obtain ⟨c0, c1, c2, c3, t0, t1, r0, r1, r2, r3, rf0, rf1, rf2, rf3, rz⟩ := KA.out _ hM7.bel
            obtain ⟨mz, x0, x1, x2, x3, g0, g1, g2, g3⟩ := hM7.cells
            simp only [] at x0 x1 x2 x3
            go_wp2
            refine bodyPost_ret (v := .tuple #[.agg #[.slice a0 il u0, .slice a1 KL.length u1, .slice a2 KD.length u2, .slice a7 (ol + 1) c7], .int .i64 0]) (by simp [results, Tryd.results36, go_sem, r0, r1, r2, r3]) rfl ?_
            rw [yD.out]
            exact ⟨⟨a0, il, u0, a1, KL.length, u1, a2, KD.length, u2, a7, ol + 1, c7, items, KL, KD, over ++ [(ts, tn)]⟩, rfl, (hM7.own.four (b := w.heap.size + 1 + 1) (by omega) (.slice a0 il u0) (.slice a1 KL.length u1) (.slice a2 KD.length u2) (.slice a7 (ol + 1) c7)).base hB.size, rfl, below_four (hB.trans (hM7.bel.mono hB.size)) (by omega) (.slice a0 il u0) (.slice a1 KL.length u1) (.slice a2 KD.length u2) (.slice a7 (ol + 1) c7)⟩
    | true =>
        obtain ⟨c0, c1, c2, c3, t0, t1, r0, r1, r2, r3, rf0, rf1, rf2, rf3, rz⟩ := KA.out _ hM0.bel
        have hLX := (HS.out _ hM0.bel).locks
        simp only [] at hLX
        have UX := hM0.under
        go_wp2_with (go_at_call 38; go_loud (refine (hWO _ hLX (by omega)).mono ?_; rintro e w3 ⟨ao, cp, rfl, hF3, hloc, hb3⟩))
        have hM3 := hM0.below hb3
        have HLOC : Hid (∀ b off, ao = some ⟨b, off, none⟩ → X.heap.size ≤ b ∧ b < w3.heap.size) := hloc
        have HUX : Hid (∀ q, (Value.slice a0 il u0).ownBlock = some q → q < X.heap.size) := UX.items
        have HMX : Hid (m < X.heap.size) := UX.m
        clear c0 c1 c2 c3 t0 t1 r0 r1 r2 r3 rf0 rf1 rf2 rf3 rz hLX hM0 hloc UX
        go_loopw [26, 11] (fun i _ wr => ∃ (k : Nat) (a : Option Addr) (n c : Nat) (its : List ItV), i = .int .i64 (k : Int) ∧ k ≤ F.length ∧ n ≤ il + k ∧ Hid (its = putAll items (F.take k)) ∧ Hid (∀ y ∈ its, 0 ≤ y.version ∧ y.version ≤ 1048576 + (k : Int)) ∧ Made W wr W.heap.size m ⟨a, n, c, a1, ll, u1, a2, dl, u2, a3, ol, u3, its, locks, doubts, over⟩ ∧ IsLocks wr ao F.length cp F ∧ Hid (∀ b off, ao = some ⟨b, off, none⟩ → X.heap.size ≤ b ∧ b < wr.heap.size ∧ (Value.slice a n c).ownBlock ≠ some b)) (fun i _ _ => F.length - (intOf i).toNat)
        case atStart => exact ⟨0, a0, il, u0, items, rfl, Nat.zero_le _, by omega, rfl, fun y hy => by have := HVER.out y hy; simp; omega, hM3, hF3, fun b off e => ⟨(HLOC.out b off e).1, (HLOC.out b off e).2, fun e2 => by have := HUX.out b e2; have := (HLOC.out b off e).1; omega⟩⟩
        case round =>
          obtain ⟨k, a, n, c, its, rfl, hk, hn, hits, hvr, hM, hF, hfar⟩ := hrel
          by_cases hlt : k < F.length
          · have hlt' : (k : Int) < (F.length : Int) := by omega
            obtain ⟨b, off, rfl, zb, hc⟩ := hF.2.2.2.2 (by omega)
            have hcells := hc k hlt
            have HPA : Hid (putAll items (F.take (k + 1)) = putI (F.getD k default).key (F.getD k default).value its) := by show _ = _; rw [hits.out]; exact putAll_at hlt
            obtain ⟨x, ex⟩ : ∃ x, x = F.getD k default := ⟨_, rfl⟩
            rw [← ex] at hcells HPA
            clear ex hc
            obtain ⟨⟨ks, kn⟩, kk, kw, kv, ka⟩ := x
            have e0 := hcells 0 (by decide)
            have e1 := hcells 1 (by decide)
            have e2 := hcells 2 (by decide)
            have e3 := hcells 3 (by decide)
            have e4 := hcells 4 (by decide)
            have e5 := hcells 5 (by decide)
            simp only [LkV.cells, List.getElem?_cons_zero, List.getElem?_cons_succ, Nat.add_zero] at e0 e1 e2 e3 e4 e5
            clear hcells
            simp only [] at HPA
            obtain ⟨Y, hY⟩ : ∃ Y : World, Y = wr.alloc (.cells #[.int .i64 ks, .int .i64 kn, .int .i64 kk, .bool kw, .int .i64 kv, .int .i64 ka] 111) := ⟨_, rfl⟩
            have bY : Below wr.heap.size wr Y := by rw [hY]; exact (Below.refl _ _).alloc (Nat.le_refl _) _
            have bk := boxn_new wr #[.int .i64 ks, .int .i64 kn, .int .i64 kk, .bool kw, .int .i64 kv, .int .i64 ka] 111 6 rfl
            rw [← hY] at bk
            go_upto_region 9 with (fail)
            rw [← hY]
            clear hY e0 e1 e2 e3 e4 e5
            have hMY := hM.below bY
            have hFY := hF.below bY
            obtain ⟨mz, x0, x1, x2, x3, g0, g1, g2, g3⟩ := hMY.cells
            simp only [] at x0 x1 x2 x3
            have k2 := (bk.c 2 (by decide)).1
            have k4 := (bk.c 4 (by decide)).1
            simp only [List.getD_cons_zero, List.getD_cons_succ] at k2 k4
            have bkl := bk.lt
            have HFAR := hfar.out b off rfl
            have hPut := put_any W.heap.size a n c its kk kv Y hMY.own.items hMY.sz (by omega) (fun y hy => by have := hvr.out y hy; omega)
            have HBD := put_bd kk kv (v := 1048576 + (k : Int)) (by omega) its hvr.out
            go_upto_region 10 with (go_at_call 67; refine hPut.mono ?_; rintro e w5 ⟨a5, n5, c5, rfl, own5, gr5, at5, hn5⟩; obtain ⟨cl5, fz5, hM5⟩ := hMY.putg_items gr5 own5 at5; simp only [] at cl5)
            have hF5 : IsLocks (w5.setCell ⟨m, 0, none⟩ (.slice a5 n5 c5)) (some ⟨b, off, none⟩) F.length cp F := by
              obtain ⟨r1, r2, r3, r4, r5⟩ := hFY
              refine ⟨r1, r2, r3, r4, fun hp => ?_⟩
              obtain ⟨b', off', e', hl', hc'⟩ := r5 hp
              simp at e'
              obtain ⟨rfl, rfl⟩ := e'
              have hbm : b ≠ m := by have := HMX.out; omega
              refine ⟨b, off, rfl, by have := gr5.size; simp; omega, fun i hi q hq => ?_⟩
              rw [World.cell?_of_block (a := ⟨b, off + i * 6 + q, none⟩) (Below.heap_setCell w5 ⟨m, 0, none⟩ _ b hbm), World.cell?_of_block (a := ⟨b, off + i * 6 + q, none⟩) (gr5.block b hl' (fun e => HFAR.2.2 e.symm))]
              exact hc' i hi q hq
            have HF5 : Hid (∀ b' off', some (⟨b, off, none⟩ : Addr) = some ⟨b', off', none⟩ → X.heap.size ≤ b' ∧ b' < (w5.setCell ⟨m, 0, none⟩ (.slice a5 n5 c5)).heap.size ∧ (Value.slice a5 n5 c5).ownBlock ≠ some b') := by
              intro b' off' e
              simp at e
              obtain ⟨rfl, rfl⟩ := e
              have h1 := gr5.size
              have h2 := bY.size
              refine ⟨HFAR.1, by simp; omega, fun e => ?_⟩
              rcases at5 b e with e2 | e2
              · exact HFAR.2.2 e2
              · have := HFAR.2.1; omega
            have HV5 : Hid (∀ y ∈ putI kk kv its, 0 ≤ y.version ∧ y.version ≤ 1048576 + ((k + 1 : Nat) : Int)) := fun y hy => by have := HBD.2 y hy; omega
            clear hvr hits HBD
            go_wp2
            go_roundw
            case rel => exact ⟨k + 1, a5, n5, c5, putI kk kv its, by go_num, by omega, by omega, HPA.out.symm, HV5, hM5, hF5, HF5⟩
            case measure => simp [intOf]; omega
          · have HEQ : Hid (its = putAll items F) := by show _ = _; rw [hits.out, List.take_of_length_le (by omega)]
            rw [HEQ.out] at hM
            clear hvr hits
            go_wp2
            have UL : Hid (∀ q, (Value.slice a1 ll u1).ownBlock = some q → q < wr.heap.size) := hM.under.locks
            have hDq : Below wr.heap.size wr wr.drew := (Below.refl _ _).drew
            have hMq := hM.below hDq
            obtain ⟨mz, x0, x1, x2, x3, g0, g1, g2, g3⟩ := hMq.cells
            simp only [] at x0 x1 x2 x3
            obtain ⟨c0, c1, c2, c3, t0, t1, r0, r1, r2, r3, rf0, rf1, rf2, rf3, rz⟩ := KA.out _ hMq.bel
            go_cut [43] (fun _ wc => Made W wc W.heap.size m ⟨a, n, c, a1, KL.length, u1, a2, dl, u2, a3, ol, u3, (putAll items F), KL, doubts, over⟩)
            case first =>
              go_region_with (first | ((go_at_call 69; refine (hOf _).mono ?_; rintro e w4 ⟨rfl, k0, k1, kz, hb4⟩; have hM4 := hMq.below hb4; obtain ⟨mz4, y0, y1, y2, y3, j0, j1, j2, j3⟩ := hM4.cells; simp only [] at y0 y1 y2 y3; have hDel := deleteLock_any 101 #[.pointer (some ⟨wr.drew.heap.size, 0, none⟩)] (ofT (ts, tn)) W.heap.size a1 ll u1 locks w4 hM4.own.locks (of_asksG wr.drew.heap.size (ts, tn) w4 _ k0 k1 kz (fun e => Nat.lt_irrefl _ (UL.out _ e.symm))); rw [← HKL.out] at hDel)) | ((go_at_call 68; refine hDel.mono ?_; rintro e w5 ⟨rfl, own5, gr5⟩; obtain ⟨cl5, fz5, hM5⟩ := hM4.put_locks (Below.refl _ _) gr5 own5 (at_same _ _ _ _ _); simp only [] at cl5)))
              all_goals (go_wp2; go_meet; exact hM5)
            case rest =>
              have hMb := hcut
              go_upto_region 12 with (fail)
              clear hMq x0 x1 x2 x3 g0 g1 g2 g3 mz c0 c1 c2 c3 t0 t1 r0 r1 r2 r3 rf0 rf1 rf2 rf3 rz hcut hDq UL
              have UD : Hid (∀ q, (Value.slice a2 dl u2).ownBlock = some q → q < wc.heap.size) := hMb.under.doubts
              have hDq : Below wc.heap.size wc wc.drew := (Below.refl _ _).drew
              have hMq := hMb.below hDq
              obtain ⟨mz, x0, x1, x2, x3, g0, g1, g2, g3⟩ := hMq.cells
              simp only [] at x0 x1 x2 x3
              obtain ⟨c0, c1, c2, c3, t0, t1, r0, r1, r2, r3, rf0, rf1, rf2, rf3, rz⟩ := KA.out _ hMq.bel
              rename World => wd1
              go_cut [49] (fun _ wc => Made W wc W.heap.size m ⟨a, n, c, a1, KL.length, u1, a2, KD.length, u2, a3, ol, u3, (putAll items F), KL, KD, over⟩)
              case first =>
                go_region_with (first | ((go_at_call 71; refine (hDo _).mono ?_; rintro e w4 ⟨rfl, k0, k1, kz, hb4⟩; have hM4 := hMq.below hb4; obtain ⟨mz4, y0, y1, y2, y3, j0, j1, j2, j3⟩ := hM4.cells; simp only [] at y0 y1 y2 y3; have hDel := deleteDoubt_any 103 #[.pointer (some ⟨wd1.drew.heap.size, 0, none⟩)] (dbT (ts, tn)) W.heap.size a2 dl u2 doubts w4 hM4.own.doubts (doubtOf_asksG wd1.drew.heap.size (ts, tn) w4 _ k0 k1 kz (fun e => Nat.lt_irrefl _ (UD.out _ e.symm))); rw [← HKD.out] at hDel)) | ((go_at_call 70; refine hDel.mono ?_; rintro e w5 ⟨rfl, own5, gr5⟩; obtain ⟨cl5, fz5, hM5⟩ := hM4.put_doubts (Below.refl _ _) gr5 own5 (at_same _ _ _ _ _); simp only [] at cl5)))
                all_goals (go_wp2; go_meet; exact hM5)
              case rest =>
                have hMc := hcut
                clear hMq hMb x0 x1 x2 x3 g0 g1 g2 g3 mz c0 c1 c2 c3 t0 t1 r0 r1 r2 r3 rf0 rf1 rf2 rf3 rz hcut hDq UD
                obtain ⟨c0, c1, c2, c3, t0, t1, r0, r1, r2, r3, rf0, rf1, rf2, rf3, rz⟩ := KA.out _ hMc.bel
                have hOc := (HS.out _ hMc.bel).over
                simp only [] at hOc
                cases O with
                | true =>
                  have yD : Hid (D = ⟨(putAll items F), KL, KD, over⟩) := by show _ = _; rw [eD.out]; first | rfl | (simp; done)
                  go_upto_region 15 with (go_at_call 72; refine (hOv _ hOc).mono ?_; rintro e w6 ⟨rfl, hb6⟩)
                  have hMd := hMc.below hb6
                  clear c0 c1 c2 c3 t0 t1 r0 r1 r2 r3 rf0 rf1 rf2 rf3 rz
                  obtain ⟨c0, c1, c2, c3, t0, t1, r0, r1, r2, r3, rf0, rf1, rf2, rf3, rz⟩ := KA.out _ hMd.bel
                  obtain ⟨mz, x0, x1, x2, x3, g0, g1, g2, g3⟩ := hMd.cells
                  simp only [] at x0 x1 x2 x3
                  go_wp2
                  refine bodyPost_ret (v := .tuple #[.agg #[.slice a n c, .slice a1 KL.length u1, .slice a2 KD.length u2, .slice a3 ol u3], .int .i64 0]) (by simp [results, Tryd.results36, go_sem, r0, r1, r2, r3]) rfl ?_
                  rw [yD.out]
                  exact ⟨⟨a, n, c, a1, KL.length, u1, a2, KD.length, u2, a3, ol, u3, (putAll items F), KL, KD, over⟩, rfl, (hMd.own.four (b := w.heap.size + 1 + 1) (by omega) (.slice a n c) (.slice a1 KL.length u1) (.slice a2 KD.length u2) (.slice a3 ol u3)).base hB.size, rfl, below_four (hB.trans (hMd.bel.mono hB.size)) (by omega) (.slice a n c) (.slice a1 KL.length u1) (.slice a2 KD.length u2) (.slice a3 ol u3)⟩
                | false =>
                  have yD : Hid (D = ⟨(putAll items F), KL, KD, over ++ [(ts, tn)]⟩) := by show _ = _; rw [eD.out]; first | rfl | (simp; done)
                  go_upto_region 14 with (go_at_call 72; refine (hOv _ hOc).mono ?_; rintro e w6 ⟨rfl, hb6⟩)
                  have hMd := hMc.below hb6
                  clear c0 c1 c2 c3 t0 t1 r0 r1 r2 r3 rf0 rf1 rf2 rf3 rz
                  obtain ⟨c0, c1, c2, c3, t0, t1, r0, r1, r2, r3, rf0, rf1, rf2, rf3, rz⟩ := KA.out _ hMd.bel
                  obtain ⟨mz, x0, x1, x2, x3, g0, g1, g2, g3⟩ := hMd.cells
                  simp only [] at x0 x1 x2 x3
                  have zd := hMd.sz
                  have hol := hMd.own.over
                  simp only [] at hol
                  go_upto_region 15 with (at_builtin; go_loud (refine wpList_append_row E4 (by rfl) _ _ (by rfl) W.heap.size (.slice a3 ol u3) ol over (by rfl) (own_below hol ((Below.refl _ _).alloc (Nat.le_refl _) _)) _ 1 1 [(ts, tn)] (by rfl) (isOne _ _ _ _ rfl rfl) (by unfold maxLen; omega) (by omega) (by simp; omega) ?_; intro a7 c7 w7 own7 gr7 at7; obtain ⟨cl7, fz7, hM7⟩ := hMd.put_over ((Below.refl _ _).alloc (Nat.le_refl _) _) gr7 own7 at7; simp only [] at cl7))
                  obtain ⟨U7, hU7⟩ : ∃ U7 : World, U7 = w7.setCell ⟨m, 3, none⟩ (.slice a7 (ol + 1) c7) := ⟨_, rfl⟩
                  rw [← hU7] at hM7 ⊢
                  clear hU7 cl7 fz7 own7 gr7 at7 c0 c1 c2 c3 t0 t1 r0 r1 r2 r3 rf0 rf1 rf2 rf3 rz x0 x1 x2 x3 g0 g1 g2 g3 mz hMd
                  obtain ⟨c0, c1, c2, c3, t0, t1, r0, r1, r2, r3, rf0, rf1, rf2, rf3, rz⟩ := KA.out _ hM7.bel
                  obtain ⟨mz, x0, x1, x2, x3, g0, g1, g2, g3⟩ := hM7.cells
                  simp only [] at x0 x1 x2 x3
                  go_wp2
                  refine bodyPost_ret (v := .tuple #[.agg #[.slice a n c, .slice a1 KL.length u1, .slice a2 KD.length u2, .slice a7 (ol + 1) c7], .int .i64 0]) (by simp [results, Tryd.results36, go_sem, r0, r1, r2, r3]) rfl ?_
                  rw [yD.out]
                  exact ⟨⟨a, n, c, a1, KL.length, u1, a2, KD.length, u2, a7, ol + 1, c7, (putAll items F), KL, KD, over ++ [(ts, tn)]⟩, rfl, (hM7.own.four (b := w.heap.size + 1 + 1) (by omega) (.slice a n c) (.slice a1 KL.length u1) (.slice a2 KD.length u2) (.slice a7 (ol + 1) c7)).base hB.size, rfl, below_four (hB.trans (hM7.bel.mono hB.size)) (by omega) (.slice a n c) (.slice a1 KL.length u1) (.slice a2 KD.length u2) (.slice a7 (ol + 1) c7)⟩
  · have hE : E ≠ 0 := hE0
    have hEE : E = E := rfl
    go_wp2_with (go_at_call 37; refine (hC _ hSW).mono ?_; rintro e w1 ⟨rfl, hb1⟩; clear c0 c1 c2 c3 t0 t1 r0 r1 r2 r3 rf0 rf1 rf2 rf3 rz; obtain ⟨c0, c1, c2, c3, t0, t1, r0, r1, r2, r3, rf0, rf1, rf2, rf3, rz⟩ := KA.out _ hb1)
    refine bodyPost_ret (v := .tuple #[.agg #[.slice none 0 0, .slice none 0 0, .slice none 0 0, .slice none 0 0], .int .i64 E]) (by simp [results, Tryd.results36, go_sem, r0, r1, r2, r3]) rfl ?_
    have y3 := HBAD.out hE
    rw [y3]
    try rw [hEE]
    exact ⟨SV.nil, rfl, ownStore_nil _ _, rfl, below_four (hB.trans (hb1.mono hB.size)) (by omega) (.slice none 0 0) (.slice none 0 0) (.slice none 0 0) (.slice none 0 0)⟩
theorem end_any (s : SV) (t : Int × Int) (yes : Bool) (w : World) (h : IsStore w s) (hwf : ∀ t ∈ s.over, TxWf t) (h4 : s.ol * 16 ≤ 140737488351232) :
    Calls Tryd.prog 36 #[s.val, .agg #[.int .i64 t.1, .int .i64 t.2], .bool yes] w fun e w' => ∃ r : SV, e = .returned (.tuple #[r.val, .int .i64 (endErr s t yes)]) ∧ IsStore w' r ∧ r.data = endData s t yes ∧ Below w.heap.size w w' :=
  (end_own s t yes w h hwf h4).mono fun e w' ⟨r, q1, q2, q3⟩ => ⟨r, q1, q2.isStore, q3⟩
end Go.Proofs.YtgohpgollpjlnaaDoor.St
/- The contract of picked: a number from 0 on below another one. -/
namespace Go.Proofs.YtgohpgollpjlnaaDoor
open Go.ChangeShapes Go.WideShapes Go.ChangeAt Go.RowKit

def pk (n m : Int) : Int := (if n < 0 then -(n + 1) else n) % m
theorem pk_bd (n m : Int) (h : 0 < m) : 0 ≤ pk n m ∧ pk n m < m := ⟨Int.emod_nonneg _ (by omega), Int.emod_lt_of_pos _ h⟩
theorem pk_neg {n m : Int} (h : n < 0) : pk n m = (-(n + 1)) % m := by simp [pk, h]
theorem pk_pos {n m : Int} (h : ¬ n < 0) : pk n m = n % m := by simp [pk, h]

theorem i64_bd {n : Int} (h : (Lit.int .i64 n).wf = true) : -9223372036854775808 ≤ n ∧ n ≤ 9223372036854775807 := by
  have := bounds_i64 h
  omega

theorem picked_any (n m : Int) (w : World) (hn : -9223372036854775808 ≤ n ∧ n ≤ 9223372036854775807) (hm : 0 < m) (hm2 : m ≤ 9223372036854775807) :
    Calls Tryd.prog 13 #[.int .i64 n, .int .i64 m] w fun e w' => e = .returned (.int .i64 (pk n m)) ∧ w' = w := by
  obtain ⟨h1, h2⟩ := hn
  by_cases h : n < 0
  · rw [pk_neg h]
    go_enter Tryd.func13, Tryd.ntmps13
    go_wp2
    go_ret
    exact ⟨ret_int (by rw [← Int.tmod_eq_emod_of_nonneg (by omega), Int.neg_tmod]), rfl⟩
  · rw [pk_pos h]
    have h0 : 0 ≤ n := by omega
    go_enter Tryd.func13, Tryd.ntmps13
    go_wp2
    go_ret
    exact ⟨rfl, rfl⟩

end Go.Proofs.YtgohpgollpjlnaaDoor
/- The contract of reredoskeep.Store: what transactions do, one by one, leaves a store that may be. -/
namespace Go.Proofs.YtgohpgollpjlnaaDoor.St
open Go.ChangeShapes Go.WideShapes Go.ChangeAt Go.RowKit
set_option linter.unusedVariables false

theorem nS {W V : World} (h : Below W.heap.size W V) {b i : Nat} (hb : W.heap.size ≤ b) (v : Value) : Below W.heap.size W (V.setCell ⟨b, i, none⟩ v) := h.setCell (p := ⟨b, i, none⟩) hb v
theorem nT {W V U : World} (h : Below W.heap.size W V) (h2 : Below V.heap.size V U) : Below W.heap.size W U := h.trans (h2.mono h.size)
theorem boxn_drew {u : World} {b n : Nat} {vs : List Value} (h : BoxN u b n vs) : BoxN u.drew b n vs := h.below (B := u.heap.size) ((Below.refl _ _).drew) h.lt
theorem isT_of (a b : Int) (ha : 0 ≤ a ∧ a < 2) (hb : 0 ≤ b ∧ b < 2) : isT (a, 1 + b) := by
  have h1 : a = 0 ∨ a = 1 := by omega
  have h2 : b = 0 ∨ b = 1 := by omega
  rcases h1 with rfl | rfl <;> rcases h2 with rfl | rfl <;> simp [isT]
set_option maxRecDepth 100000 in
set_option maxHeartbeats 8000000 in
theorem store_made (a : Option Addr) (len cap : Nat) (rs : List RV) (M : Int) (w : World) (h : IsRaws w a len cap rs) (hM : 0 ≤ M ∧ M ≤ 40) :
    Calls Tryd.prog 16 #[.slice a len cap, .int .i64 M] w fun e w' => ∃ r : SV, e = .returned r.val ∧ OwnStore w' w.heap.size r ∧ Gd r.data 961 ∧ Below w.heap.size w w' := by
  obtain ⟨M0, M40⟩ := hM
  have hmx : len ≤ maxLen := Nat.le_trans h.row.2.1 h.row.2.2.1
  unfold maxLen at hmx
  obtain ⟨W, hW⟩ : ∃ W : World, W = (w.alloc (.cells #[.slice none 0 0, .slice none 0 0, .slice none 0 0, .slice none 0 0] 55)).alloc (.cells #[.slice none 0 0, .slice none 0 0, .slice none 0 0, .slice none 0 0] 55) := ⟨_, rfl⟩
  have hP := pre_of w SV.nil (isStore_nil w)
  simp only [SV.nil] at hP
  rw [← hW] at hP
  have hp1 := hP.par
  have hp2 := hP.res
  have hB := hP.bel
  clear hP
  go_enter Tryd.func16, Tryd.ntmps16
  go_upto_region 2 with (fail)
  rw [← hW]
  clear hW
  go_wp2
  go_loopw [6, 7, 8, 9, 10, 11, 12, 13, 14, 15, 16] (fun s6 _ _ _ _ _ _ _ _ _ _ wr => ∃ (k : Nat) (r : SV), s6 = .int .i64 (k : Int) ∧ k ≤ len ∧ (k : Int) ≤ M ∧ Gd r.data (1 + 24 * k) ∧ OwnStore wr (w.heap.size + 2) r ∧ BoxN wr (w.heap.size + 1) 4 r.box ∧ BoxN wr w.heap.size 4 SV.nil.box ∧ Below w.heap.size w wr) (fun s6 _ _ _ _ _ _ _ _ _ _ _ => len - (intOf s6).toNat)
  case atStart => exact ⟨0, SV.nil, rfl, Nat.zero_le _, M0, gd_nil, ownStore_nil _ _, hp2, hp1, hB⟩
  case round =>
    clear hp1 hp2 hB
    obtain ⟨k, ⟨a0, n0, u0, a1, n1, u1, a2, n2, u2, a3, n3, u3, xi, xl, xd, xo⟩, rfl, hk, hkM, hG, hO, hbx, hbr, hb⟩ := hrel
    by_cases hlt : k < len ∧ (k : Int) < M
    · obtain ⟨hlt, hltM⟩ := hlt
      have hlt' : (k : Int) < (len : Int) := by omega
      have hlen : rs.length = len := h.row.1
      have hrok := h.ok _ (getD_mem (l := rs) (i := k) (by omega))
      obtain ⟨b, off, rfl, zb, hc⟩ := h.row.2.2.2.2 (by omega)
      have hcells := hc k hlt
      obtain ⟨x, ex⟩ : ∃ x, x = rs.getD k default := ⟨_, rfl⟩
      rw [← ex] at hcells hrok
      clear ex hc hlen
      obtain ⟨kd, ra, rb, rc, rd, re⟩ := x
      obtain ⟨okd, ora, orb, orc, ord, ore⟩ := hrok
      have KE0 : Hid (∀ U, Below w.heap.size w U → U.cell? ⟨b, off + k * 6, none⟩ = some (.int .i64 kd) ∧ U.cell? ⟨b, off + k * 6 + 1, none⟩ = some (.int .i64 ra) ∧ U.cell? ⟨b, off + k * 6 + 2, none⟩ = some (.int .i64 rb) ∧ U.cell? ⟨b, off + k * 6 + 3, none⟩ = some (.int .i64 rc) ∧ U.cell? ⟨b, off + k * 6 + 4, none⟩ = some (.int .i64 rd) ∧ U.cell? ⟨b, off + k * 6 + 5, none⟩ = some (.int .i64 re)) := fun U hU => by
        have e0 := (hU.cell (p := ⟨b, off + k * 6, none⟩) zb).trans (hcells 0 (by decide))
        have e1 := (hU.cell (p := ⟨b, off + k * 6 + 1, none⟩) zb).trans (hcells 1 (by decide))
        have e2 := (hU.cell (p := ⟨b, off + k * 6 + 2, none⟩) zb).trans (hcells 2 (by decide))
        have e3 := (hU.cell (p := ⟨b, off + k * 6 + 3, none⟩) zb).trans (hcells 3 (by decide))
        have e4 := (hU.cell (p := ⟨b, off + k * 6 + 4, none⟩) zb).trans (hcells 4 (by decide))
        have e5 := (hU.cell (p := ⟨b, off + k * 6 + 5, none⟩) zb).trans (hcells 5 (by decide))
        simp only [RV.cells, List.getElem?_cons_zero, List.getElem?_cons_succ] at e0 e1 e2 e3 e4 e5
        exact ⟨e0, e1, e2, e3, e4, e5⟩
      clear hcells
      have zr : b < wr.heap.size := Nat.lt_of_lt_of_le zb hb.size
      have bA' := pk_bd ra 2 (by decide)
      have bB' := pk_bd rb 2 (by decide)
      have bC' := pk_bd rc 5 (by decide)
      have bK' := pk_bd kd 5 (by decide)
      have bV' := pk_bd rd 100 (by decide)
      have bQ' := pk_bd re 5 (by decide)
      simp only [Bd] at okd ora orb orc ord ore
      have hw1 : IntKind.i64.wrap (1 + pk rb 2) = 1 + pk rb 2 := by apply wrap_in <;> omega
      have hisT : Hid (isT (pk ra 2, 1 + pk rb 2)) := isT_of _ _ bA' bB'
      go_upto_region 5 with (fail)
      go_cut [7] (fun s7 wc => ∃ q : Nat, s7 = .pointer (some ⟨q, 0, none⟩) ∧ BoxN wc q 2 [.int .i64 (pk ra 2), .int .i64 (1 + pk rb 2)] ∧ Below wr.heap.size wr wc)
      case first =>
        have KE2 : Hid (∀ U, Below wr.heap.size wr U → U.cell? ⟨b, off + k * 6 + 1, none⟩ = some (.int .i64 ra) ∧ U.cell? ⟨b, off + k * 6 + 2, none⟩ = some (.int .i64 rb)) := fun U hU => by
          have := KE0.out U (hb.trans (hU.mono hb.size))
          exact ⟨this.2.1, this.2.2.1⟩
        go_region_held3 (fun U => U.cell? ⟨b, off + k * 6 + 1, none⟩ = some (.int .i64 ra) ∧ U.cell? ⟨b, off + k * 6 + 2, none⟩ = some (.int .i64 rb))
          (exact KE2.out _ (by (with_reducible repeat (first | exact Below.refl _ _ | refine nD ?_ | refine nA ?_ _ | refine nS ?_ (by simp) _)); done))
          (((go_at_call 13; refine (picked_any _ _ _ (by assumption) (by decide) (by decide)).mono ?_; rintro e u ⟨rfl, hu⟩; rw [hu]; clear hu)))
        all_goals
          go_wp2_with fail
          go_meet
          case rel => exact ⟨_, rfl, by first | exact boxn_drew (boxn_new wr #[.int .i64 (pk ra 2), .int .i64 (1 + pk rb 2)] _ 2 rfl) | exact boxn_new _ #[.int .i64 (pk ra 2), .int .i64 (1 + pk rb 2)] _ 2 rfl | exact ((boxn_new _ #[.int .i64 0, .int .i64 0] _ 2 rfl).set 0 (by decide) (.int .i64 (pk ra 2))).set 1 (by decide) (.int .i64 (1 + pk rb 2)), by (with_reducible repeat (first | exact Below.refl _ _ | refine nD ?_ | refine nA ?_ _ | refine nS ?_ (by simp) _)); done⟩
      case rest =>
        obtain ⟨q, rfl, bt, bF⟩ := hcut
        obtain ⟨X, eX⟩ : ∃ X, X = wc := ⟨_, rfl⟩
        rw [← eX] at bt bF ⊢
        clear eX
        have hOX := hO.below bF
        have hbxX := hbx.below bF hbx.lt
        have hbrX := hbr.below bF hbr.lt
        have hbX : Below w.heap.size w X := hb.trans (bF.mono hb.size)
        have zwX : w.heap.size + 1 < X.heap.size := hbxX.lt
        clear hO hbx hbr hb bF zr
        obtain ⟨e0, e1, e2, e3, e4, e5⟩ := KE0.out X hbX
        have zX : b < X.heap.size := Nat.lt_of_lt_of_le zb hbX.size
        have t0 := (bt.c 0 (by decide)).1
        have t1 := (bt.c 1 (by decide)).1
        simp only [SV.box] at hbxX
        have x0 := (hbxX.c 0 (by decide)).1
        have x1 := (hbxX.c 1 (by decide)).1
        have x2 := (hbxX.c 2 (by decide)).1
        have x3 := (hbxX.c 3 (by decide)).1
        simp only [List.getD_cons_zero, List.getD_cons_succ] at t0 t1 x0 x1 x2 x3
        have ztq := bt.lt
        have hSX := hOX.isStore
        have hwf := hG.wf
        have h4 := hG.h4 hSX
        have KX : Hid (∀ U, Below X.heap.size X U → U.cell? ⟨w.heap.size + 1, 0, none⟩ = some (.slice a0 n0 u0) ∧ U.cell? ⟨w.heap.size + 1, 1, none⟩ = some (.slice a1 n1 u1) ∧ U.cell? ⟨w.heap.size + 1, 2, none⟩ = some (.slice a2 n2 u2) ∧ U.cell? ⟨w.heap.size + 1, 3, none⟩ = some (.slice a3 n3 u3) ∧ U.cell? ⟨q, 0, none⟩ = some (.int .i64 (pk ra 2)) ∧ U.cell? ⟨q, 1, none⟩ = some (.int .i64 (1 + pk rb 2)) ∧ U.cell? ⟨b, off + k * 6 + 4, none⟩ = some (.int .i64 rd) ∧ U.cell? ⟨b, off + k * 6 + 5, none⟩ = some (.int .i64 re)) := fun U hU =>
          ⟨(hU.cell (p := ⟨w.heap.size + 1, 0, none⟩) zwX).trans x0, (hU.cell (p := ⟨w.heap.size + 1, 1, none⟩) zwX).trans x1, (hU.cell (p := ⟨w.heap.size + 1, 2, none⟩) zwX).trans x2, (hU.cell (p := ⟨w.heap.size + 1, 3, none⟩) zwX).trans x3, (hU.cell (p := ⟨q, 0, none⟩) ztq).trans t0, (hU.cell (p := ⟨q, 1, none⟩) ztq).trans t1, (hU.cell (p := ⟨b, off + k * 6 + 4, none⟩) zX).trans e4, (hU.cell (p := ⟨b, off + k * 6 + 5, none⟩) zX).trans e5⟩
        have HSX : Hid (∀ U, Below X.heap.size X U → IsStore U ⟨a0, n0, u0, a1, n1, u1, a2, n2, u2, a3, n3, u3, xi, xl, xd, xo⟩) := fun U hU => hSX.below hU
        have hZ : pk kd 5 = 0 ∨ pk kd 5 = 1 ∨ pk kd 5 = 2 ∨ pk kd 5 = 3 ∨ pk kd 5 = 4 := by omega
        rcases hZ with hZ | hZ | hZ | hZ | hZ
        ·
          have hCall := fun w' h1 => read_own ⟨a0, n0, u0, a1, n1, u1, a2, n2, u2, a3, n3, u3, xi, xl, xd, xo⟩ (pk ra 2, 1 + pk rb 2) (pk rc 5) w' h1 hwf h4
          have HGd : Hid (readErr ⟨a0, n0, u0, a1, n1, u1, a2, n2, u2, a3, n3, u3, xi, xl, xd, xo⟩ (pk ra 2, 1 + pk rb 2) (pk rc 5) = 0 → Gd (readData ⟨a0, n0, u0, a1, n1, u1, a2, n2, u2, a3, n3, u3, xi, xl, xd, xo⟩ (pk ra 2, 1 + pk rb 2) (pk rc 5)) (1 + 24 * ((k + 1 : Nat) : Int))) := fun he => (gd_read hG hisT.out (by omega) he).mono (by omega)
          obtain ⟨E, eE⟩ : ∃ E, E = readErr ⟨a0, n0, u0, a1, n1, u1, a2, n2, u2, a3, n3, u3, xi, xl, xd, xo⟩ (pk ra 2, 1 + pk rb 2) (pk rc 5) := ⟨_, rfl⟩
          obtain ⟨D, eD⟩ : ∃ D, D = readData ⟨a0, n0, u0, a1, n1, u1, a2, n2, u2, a3, n3, u3, xi, xl, xd, xo⟩ (pk ra 2, 1 + pk rb 2) (pk rc 5) := ⟨_, rfl⟩
          obtain ⟨V1, eV1⟩ : ∃ E, E = readVal ⟨a0, n0, u0, a1, n1, u1, a2, n2, u2, a3, n3, u3, xi, xl, xd, xo⟩ (pk ra 2, 1 + pk rb 2) (pk rc 5) := ⟨_, rfl⟩
          obtain ⟨V2, eV2⟩ : ∃ E, E = readVer ⟨a0, n0, u0, a1, n1, u1, a2, n2, u2, a3, n3, u3, xi, xl, xd, xo⟩ (pk ra 2, 1 + pk rb 2) (pk rc 5) := ⟨_, rfl⟩
          rw [← eE, ← eD] at HGd
          simp only [← eE, ← eD, ← eV1, ← eV2, SV.val] at hCall
          clear eE eD eV1 eV2
          go_upto_region 14 with (first | (go_at_call 13; refine (picked_any _ _ _ (by assumption) (by decide) (by decide)).mono ?_; rintro e u ⟨rfl, hu⟩; rw [hu]; clear hu; (try rw [hZ]); (try rw [hY])) | (go_at_call 34; refine (hCall _ hSX).mono ?_; rintro e w2 ⟨⟨b0, m0, v0, b1, m1, v1, b2, m2, v2, b3, m3, v3, yi, yl, yd, yo⟩, rfl, hO2', hd2, hb2⟩; simp only []))
          obtain ⟨Y, hY⟩ : ∃ Y : World, Y = w2.alloc (.cells #[.slice b0 m0 v0, .slice b1 m1 v1, .slice b2 m2 v2, .slice b3 m3 v3] 55) := ⟨_, rfl⟩
          have bYw : Below w2.heap.size w2 Y := by rw [hY]; exact (Below.refl _ _).alloc (Nat.le_refl _) _
          have hb2x : BoxN Y w2.heap.size 4 [.slice b0 m0 v0, .slice b1 m1 v1, .slice b2 m2 v2, .slice b3 m3 v3] := by rw [hY]; exact boxn_new w2 #[.slice b0 m0 v0, .slice b1 m1 v1, .slice b2 m2 v2, .slice b3 m3 v3] 55 4 rfl
          have bY : Below X.heap.size X Y := nT hb2 bYw
          have hbY : Below w.heap.size w Y := hbX.trans (bY.mono hbX.size)
          have hO2 : OwnStore Y (w.heap.size + 2) ⟨b0, m0, v0, b1, m1, v1, b2, m2, v2, b3, m3, v3, yi, yl, yd, yo⟩ := (hO2'.below bYw).base (by omega)
          rw [← hY]
          clear hY hO2' bYw x0 x1 x2 x3 t0 t1 e0 e1 e2 e3 e4 e5
          have zyl := hbY.size
          have hbm := hbxX.below bY hbxX.lt
          have hbn := hbrX.below bY hbrX.lt
          have x0 := (hb2x.c 0 (by decide)).1
          have x1 := (hb2x.c 1 (by decide)).1
          have x2 := (hb2x.c 2 (by decide)).1
          have x3 := (hb2x.c 3 (by decide)).1
          have y0 := (hbm.c 0 (by decide)).1
          have y1 := (hbm.c 1 (by decide)).1
          have y2 := (hbm.c 2 (by decide)).1
          have y3 := (hbm.c 3 (by decide)).1
          have f0 := (hbm.c 0 (by decide)).2
          have f1 := (hbm.c 1 (by decide)).2
          have f2 := (hbm.c 2 (by decide)).2
          have f3 := (hbm.c 3 (by decide)).2
          simp only [List.getD_cons_zero, List.getD_cons_succ] at x0 x1 x2 x3 y0 y1 y2 y3
          have zq2 := hb2x.lt
          have zbm := hbm.lt
          by_cases hE : E = 0
          · subst hE
            have hG2 : Gd (SV.data ⟨b0, m0, v0, b1, m1, v1, b2, m2, v2, b3, m3, v3, yi, yl, yd, yo⟩) (1 + 24 * ((k + 1 : Nat) : Int)) := by rw [hd2]; exact HGd.out rfl
            obtain ⟨V, hV⟩ : ∃ V : World, V = (((Y.setCell ⟨w.heap.size + 1, 0, none⟩ (.slice b0 m0 v0)).setCell ⟨w.heap.size + 1, 1, none⟩ (.slice b1 m1 v1)).setCell ⟨w.heap.size + 1, 2, none⟩ (.slice b2 m2 v2)).setCell ⟨w.heap.size + 1, 3, none⟩ (.slice b3 m3 v3) := ⟨_, rfl⟩
            have hOV : OwnStore V (w.heap.size + 2) ⟨b0, m0, v0, b1, m1, v1, b2, m2, v2, b3, m3, v3, yi, yl, yd, yo⟩ := by rw [hV]; exact hO2.four (by omega) _ _ _ _
            have bV : BoxN V (w.heap.size + 1) 4 [.slice b0 m0 v0, .slice b1 m1 v1, .slice b2 m2 v2, .slice b3 m3 v3] := by rw [hV]; exact (((hbm.set 0 (by decide) _).set 1 (by decide) _).set 2 (by decide) _).set 3 (by decide) _
            have bVn : BoxN V w.heap.size 4 SV.nil.box := by rw [hV]; exact (((hbn.far (by omega)).far (by omega)).far (by omega)).far (by omega)
            have hbV : Below w.heap.size w V := by rw [hV]; exact below_four hbY (by omega) _ _ _ _
            go_upto_region 4 with (fail)
            rw [← hV]
            clear hV x0 x1 x2 x3 y0 y1 y2 y3 f0 f1 f2 f3 zq2 zbm
            go_wp2
            go_roundw
            case rel => exact ⟨k + 1, ⟨b0, m0, v0, b1, m1, v1, b2, m2, v2, b3, m3, v3, yi, yl, yd, yo⟩, by go_num, by omega, by omega, hG2, hOV, bV, bVn, hbV⟩
            case measure => simp [intOf]; omega
          · have hOk := hOX.below bY
            have hGk : Gd (SV.data ⟨a0, n0, u0, a1, n1, u1, a2, n2, u2, a3, n3, u3, xi, xl, xd, xo⟩) (1 + 24 * ((k + 1 : Nat) : Int)) := hG.mono (by omega)
            go_wp2
            go_roundw
            case rel => exact ⟨k + 1, ⟨a0, n0, u0, a1, n1, u1, a2, n2, u2, a3, n3, u3, xi, xl, xd, xo⟩, by go_num, by omega, by omega, hGk, hOk, hbm, hbn, hbY⟩
            case measure => simp [intOf]; omega
        ·
          have hCall := fun w' h1 => read_own ⟨a0, n0, u0, a1, n1, u1, a2, n2, u2, a3, n3, u3, xi, xl, xd, xo⟩ (pk ra 2, 1 + pk rb 2) (pk rc 5) w' h1 hwf h4
          have HGd : Hid (readErr ⟨a0, n0, u0, a1, n1, u1, a2, n2, u2, a3, n3, u3, xi, xl, xd, xo⟩ (pk ra 2, 1 + pk rb 2) (pk rc 5) = 0 → Gd (readData ⟨a0, n0, u0, a1, n1, u1, a2, n2, u2, a3, n3, u3, xi, xl, xd, xo⟩ (pk ra 2, 1 + pk rb 2) (pk rc 5)) (1 + 24 * ((k + 1 : Nat) : Int))) := fun he => (gd_read hG hisT.out (by omega) he).mono (by omega)
          obtain ⟨E, eE⟩ : ∃ E, E = readErr ⟨a0, n0, u0, a1, n1, u1, a2, n2, u2, a3, n3, u3, xi, xl, xd, xo⟩ (pk ra 2, 1 + pk rb 2) (pk rc 5) := ⟨_, rfl⟩
          obtain ⟨D, eD⟩ : ∃ D, D = readData ⟨a0, n0, u0, a1, n1, u1, a2, n2, u2, a3, n3, u3, xi, xl, xd, xo⟩ (pk ra 2, 1 + pk rb 2) (pk rc 5) := ⟨_, rfl⟩
          obtain ⟨V1, eV1⟩ : ∃ E, E = readVal ⟨a0, n0, u0, a1, n1, u1, a2, n2, u2, a3, n3, u3, xi, xl, xd, xo⟩ (pk ra 2, 1 + pk rb 2) (pk rc 5) := ⟨_, rfl⟩
          obtain ⟨V2, eV2⟩ : ∃ E, E = readVer ⟨a0, n0, u0, a1, n1, u1, a2, n2, u2, a3, n3, u3, xi, xl, xd, xo⟩ (pk ra 2, 1 + pk rb 2) (pk rc 5) := ⟨_, rfl⟩
          rw [← eE, ← eD] at HGd
          simp only [← eE, ← eD, ← eV1, ← eV2, SV.val] at hCall
          clear eE eD eV1 eV2
          go_upto_region 14 with (first | (go_at_call 13; refine (picked_any _ _ _ (by assumption) (by decide) (by decide)).mono ?_; rintro e u ⟨rfl, hu⟩; rw [hu]; clear hu; (try rw [hZ]); (try rw [hY])) | (go_at_call 34; refine (hCall _ hSX).mono ?_; rintro e w2 ⟨⟨b0, m0, v0, b1, m1, v1, b2, m2, v2, b3, m3, v3, yi, yl, yd, yo⟩, rfl, hO2', hd2, hb2⟩; simp only []))
          obtain ⟨Y, hY⟩ : ∃ Y : World, Y = w2.alloc (.cells #[.slice b0 m0 v0, .slice b1 m1 v1, .slice b2 m2 v2, .slice b3 m3 v3] 55) := ⟨_, rfl⟩
          have bYw : Below w2.heap.size w2 Y := by rw [hY]; exact (Below.refl _ _).alloc (Nat.le_refl _) _
          have hb2x : BoxN Y w2.heap.size 4 [.slice b0 m0 v0, .slice b1 m1 v1, .slice b2 m2 v2, .slice b3 m3 v3] := by rw [hY]; exact boxn_new w2 #[.slice b0 m0 v0, .slice b1 m1 v1, .slice b2 m2 v2, .slice b3 m3 v3] 55 4 rfl
          have bY : Below X.heap.size X Y := nT hb2 bYw
          have hbY : Below w.heap.size w Y := hbX.trans (bY.mono hbX.size)
          have hO2 : OwnStore Y (w.heap.size + 2) ⟨b0, m0, v0, b1, m1, v1, b2, m2, v2, b3, m3, v3, yi, yl, yd, yo⟩ := (hO2'.below bYw).base (by omega)
          rw [← hY]
          clear hY hO2' bYw x0 x1 x2 x3 t0 t1 e0 e1 e2 e3 e4 e5
          have zyl := hbY.size
          have hbm := hbxX.below bY hbxX.lt
          have hbn := hbrX.below bY hbrX.lt
          have x0 := (hb2x.c 0 (by decide)).1
          have x1 := (hb2x.c 1 (by decide)).1
          have x2 := (hb2x.c 2 (by decide)).1
          have x3 := (hb2x.c 3 (by decide)).1
          have y0 := (hbm.c 0 (by decide)).1
          have y1 := (hbm.c 1 (by decide)).1
          have y2 := (hbm.c 2 (by decide)).1
          have y3 := (hbm.c 3 (by decide)).1
          have f0 := (hbm.c 0 (by decide)).2
          have f1 := (hbm.c 1 (by decide)).2
          have f2 := (hbm.c 2 (by decide)).2
          have f3 := (hbm.c 3 (by decide)).2
          simp only [List.getD_cons_zero, List.getD_cons_succ] at x0 x1 x2 x3 y0 y1 y2 y3
          have zq2 := hb2x.lt
          have zbm := hbm.lt
          by_cases hE : E = 0
          · subst hE
            have hG2 : Gd (SV.data ⟨b0, m0, v0, b1, m1, v1, b2, m2, v2, b3, m3, v3, yi, yl, yd, yo⟩) (1 + 24 * ((k + 1 : Nat) : Int)) := by rw [hd2]; exact HGd.out rfl
            obtain ⟨V, hV⟩ : ∃ V : World, V = (((Y.setCell ⟨w.heap.size + 1, 0, none⟩ (.slice b0 m0 v0)).setCell ⟨w.heap.size + 1, 1, none⟩ (.slice b1 m1 v1)).setCell ⟨w.heap.size + 1, 2, none⟩ (.slice b2 m2 v2)).setCell ⟨w.heap.size + 1, 3, none⟩ (.slice b3 m3 v3) := ⟨_, rfl⟩
            have hOV : OwnStore V (w.heap.size + 2) ⟨b0, m0, v0, b1, m1, v1, b2, m2, v2, b3, m3, v3, yi, yl, yd, yo⟩ := by rw [hV]; exact hO2.four (by omega) _ _ _ _
            have bV : BoxN V (w.heap.size + 1) 4 [.slice b0 m0 v0, .slice b1 m1 v1, .slice b2 m2 v2, .slice b3 m3 v3] := by rw [hV]; exact (((hbm.set 0 (by decide) _).set 1 (by decide) _).set 2 (by decide) _).set 3 (by decide) _
            have bVn : BoxN V w.heap.size 4 SV.nil.box := by rw [hV]; exact (((hbn.far (by omega)).far (by omega)).far (by omega)).far (by omega)
            have hbV : Below w.heap.size w V := by rw [hV]; exact below_four hbY (by omega) _ _ _ _
            go_upto_region 4 with (fail)
            rw [← hV]
            clear hV x0 x1 x2 x3 y0 y1 y2 y3 f0 f1 f2 f3 zq2 zbm
            go_wp2
            go_roundw
            case rel => exact ⟨k + 1, ⟨b0, m0, v0, b1, m1, v1, b2, m2, v2, b3, m3, v3, yi, yl, yd, yo⟩, by go_num, by omega, by omega, hG2, hOV, bV, bVn, hbV⟩
            case measure => simp [intOf]; omega
          · have hOk := hOX.below bY
            have hGk : Gd (SV.data ⟨a0, n0, u0, a1, n1, u1, a2, n2, u2, a3, n3, u3, xi, xl, xd, xo⟩) (1 + 24 * ((k + 1 : Nat) : Int)) := hG.mono (by omega)
            go_wp2
            go_roundw
            case rel => exact ⟨k + 1, ⟨a0, n0, u0, a1, n1, u1, a2, n2, u2, a3, n3, u3, xi, xl, xd, xo⟩, by go_num, by omega, by omega, hGk, hOk, hbm, hbn, hbY⟩
            case measure => simp [intOf]; omega
        ·
          have hCall := fun w' h1 => write_own ⟨a0, n0, u0, a1, n1, u1, a2, n2, u2, a3, n3, u3, xi, xl, xd, xo⟩ (pk ra 2, 1 + pk rb 2) (pk rc 5) (pk rd 100) (pk re 5) w' h1 hwf h4
          have HGd : Hid (writeErr ⟨a0, n0, u0, a1, n1, u1, a2, n2, u2, a3, n3, u3, xi, xl, xd, xo⟩ (pk ra 2, 1 + pk rb 2) (pk rc 5) (pk rd 100) (pk re 5) = 0 → Gd (writeData ⟨a0, n0, u0, a1, n1, u1, a2, n2, u2, a3, n3, u3, xi, xl, xd, xo⟩ (pk ra 2, 1 + pk rb 2) (pk rc 5) (pk rd 100) (pk re 5)) (1 + 24 * ((k + 1 : Nat) : Int))) := fun he => (gd_write hG hisT.out (by omega) he).mono (by omega)
          obtain ⟨E, eE⟩ : ∃ E, E = writeErr ⟨a0, n0, u0, a1, n1, u1, a2, n2, u2, a3, n3, u3, xi, xl, xd, xo⟩ (pk ra 2, 1 + pk rb 2) (pk rc 5) (pk rd 100) (pk re 5) := ⟨_, rfl⟩
          obtain ⟨D, eD⟩ : ∃ D, D = writeData ⟨a0, n0, u0, a1, n1, u1, a2, n2, u2, a3, n3, u3, xi, xl, xd, xo⟩ (pk ra 2, 1 + pk rb 2) (pk rc 5) (pk rd 100) (pk re 5) := ⟨_, rfl⟩
          rw [← eE, ← eD] at HGd
          simp only [← eE, ← eD, SV.val] at hCall
          clear eE eD
          go_upto_region 18 with ((go_at_call 13; refine (picked_any _ _ _ (by assumption) (by decide) (by decide)).mono ?_; rintro e u ⟨rfl, hu⟩; rw [hu]; clear hu; (try rw [hZ]); (try rw [hY])))
          go_cut [13, 14] (fun sp se wc => ∃ (q2 : Nat) (r2 : SV), sp = .pointer (some ⟨q2, 0, none⟩) ∧ se = .int .i64 E ∧ BoxN wc q2 4 r2.box ∧ OwnStore wc (w.heap.size + 2) r2 ∧ r2.data = D ∧ Below X.heap.size X wc)
          case first =>
            clear x0 x1 x2 x3 t0 t1 e0 e1 e2 e3 e4 e5
            go_region_held3 (fun U => U.cell? ⟨w.heap.size + 1, 0, none⟩ = some (.slice a0 n0 u0) ∧ U.cell? ⟨w.heap.size + 1, 1, none⟩ = some (.slice a1 n1 u1) ∧ U.cell? ⟨w.heap.size + 1, 2, none⟩ = some (.slice a2 n2 u2) ∧ U.cell? ⟨w.heap.size + 1, 3, none⟩ = some (.slice a3 n3 u3) ∧ U.cell? ⟨q, 0, none⟩ = some (.int .i64 (pk ra 2)) ∧ U.cell? ⟨q, 1, none⟩ = some (.int .i64 (1 + pk rb 2)) ∧ U.cell? ⟨b, off + k * 6 + 4, none⟩ = some (.int .i64 rd) ∧ U.cell? ⟨b, off + k * 6 + 5, none⟩ = some (.int .i64 re))
              (exact KX.out _ (by (with_reducible repeat (first | exact Below.refl _ _ | exact hu2 | refine nD ?_ | refine nA ?_ _ | refine nS ?_ (by first | omega | (simp; done)) _)); done))
              (first | (go_at_call 13; refine (picked_any _ _ _ (by assumption) (by decide) (by decide)).mono ?_; rintro e u ⟨rfl, hu⟩; rw [hu]; clear hu; (try rw [hZ]); (try rw [hY])) | (go_at_call 35; refine (hCall _ (HSX.out _ (by (with_reducible repeat (first | exact Below.refl _ _ | exact hu2 | refine nD ?_ | refine nA ?_ _ | refine nS ?_ (by first | omega | (simp; done)) _)); done))).mono ?_; rintro e w2 ⟨⟨b0, m0, v0, b1, m1, v1, b2, m2, v2, b3, m3, v3, yi, yl, yd, yo⟩, rfl, hO2', hd2, hb2⟩; simp only []; have hu2 : Below X.heap.size X w2 := nT (by (with_reducible repeat (first | exact Below.refl _ _ | exact hu2 | refine nD ?_ | refine nA ?_ _ | refine nS ?_ (by first | omega | (simp; done)) _)); done) hb2; have zu2 := hu2.size; (first | (have bx3 : BoxN w2 X.heap.size 4 [.slice none 0 0, .slice none 0 0, .slice none 0 0, .slice none 0 0] := (boxn_new X.drew #[.slice none 0 0, .slice none 0 0, .slice none 0 0, .slice none 0 0] 55 4 rfl).below hb2 (by simp); have s0 : _ = some (Value.slice none 0 0) := (bx3.c 0 (by decide)).1; have s1 : _ = some (Value.slice none 0 0) := (bx3.c 1 (by decide)).1; have s2 : _ = some (Value.slice none 0 0) := (bx3.c 2 (by decide)).1; have s3 : _ = some (Value.slice none 0 0) := (bx3.c 3 (by decide)).1; have g0 := (bx3.c 0 (by decide)).2; have g1 := (bx3.c 1 (by decide)).2; have g2 := (bx3.c 2 (by decide)).2; have g3 := (bx3.c 3 (by decide)).2; have zbx3 := bx3.lt) | skip)))
            all_goals
              go_wp2_with fail
              go_meet
              case rel => first | exact ⟨_, ⟨b0, m0, v0, b1, m1, v1, b2, m2, v2, b3, m3, v3, yi, yl, yd, yo⟩, rfl, rfl, (((bx3.set 0 (by decide) (.slice b0 m0 v0)).set 1 (by decide) (.slice b1 m1 v1)).set 2 (by decide) (.slice b2 m2 v2)).set 3 (by decide) (.slice b3 m3 v3), (hO2'.four (b := X.heap.size) (by simp) _ _ _ _).base (by simp; omega), hd2, by (with_reducible repeat (first | exact Below.refl _ _ | exact hu2 | refine nD ?_ | refine nA ?_ _ | refine nS ?_ (by first | omega | (simp; done)) _)); done⟩ | exact ⟨_, ⟨b0, m0, v0, b1, m1, v1, b2, m2, v2, b3, m3, v3, yi, yl, yd, yo⟩, rfl, rfl, boxn_new w2 #[.slice b0 m0 v0, .slice b1 m1 v1, .slice b2 m2 v2, .slice b3 m3 v3] _ 4 rfl, (hO2'.below ((Below.refl _ _).alloc (Nat.le_refl _) _)).base (by first | omega | (simp; omega)), hd2, by (with_reducible repeat (first | exact Below.refl _ _ | exact hu2 | refine nD ?_ | refine nA ?_ _ | refine nS ?_ (by first | omega | (simp; done)) _)); done⟩
          case rest =>
            obtain ⟨q2, ⟨b0, m0, v0, b1, m1, v1, b2, m2, v2, b3, m3, v3, yi, yl, yd, yo⟩, rfl, rfl, hb2x, hO2, hd2, bY⟩ := hcut
            obtain ⟨Y, eY⟩ : ∃ Y, Y = wc := ⟨_, rfl⟩
            rw [← eY] at hb2x hO2 bY ⊢
            simp only [SV.box] at hb2x
            clear eY x0 x1 x2 x3 t0 t1 e0 e1 e2 e3 e4 e5
            have hbY : Below w.heap.size w Y := hbX.trans (bY.mono hbX.size)
            have zyl := hbY.size
            have hbm := hbxX.below bY hbxX.lt
            have hbn := hbrX.below bY hbrX.lt
            have x0 := (hb2x.c 0 (by decide)).1
            have x1 := (hb2x.c 1 (by decide)).1
            have x2 := (hb2x.c 2 (by decide)).1
            have x3 := (hb2x.c 3 (by decide)).1
            have y0 := (hbm.c 0 (by decide)).1
            have y1 := (hbm.c 1 (by decide)).1
            have y2 := (hbm.c 2 (by decide)).1
            have y3 := (hbm.c 3 (by decide)).1
            have f0 := (hbm.c 0 (by decide)).2
            have f1 := (hbm.c 1 (by decide)).2
            have f2 := (hbm.c 2 (by decide)).2
            have f3 := (hbm.c 3 (by decide)).2
            simp only [List.getD_cons_zero, List.getD_cons_succ] at x0 x1 x2 x3 y0 y1 y2 y3
            have zq2 := hb2x.lt
            have zbm := hbm.lt
            by_cases hE : E = 0
            · subst hE
              have hG2 : Gd (SV.data ⟨b0, m0, v0, b1, m1, v1, b2, m2, v2, b3, m3, v3, yi, yl, yd, yo⟩) (1 + 24 * ((k + 1 : Nat) : Int)) := by rw [hd2]; exact HGd.out rfl
              obtain ⟨V, hV⟩ : ∃ V : World, V = (((Y.setCell ⟨w.heap.size + 1, 0, none⟩ (.slice b0 m0 v0)).setCell ⟨w.heap.size + 1, 1, none⟩ (.slice b1 m1 v1)).setCell ⟨w.heap.size + 1, 2, none⟩ (.slice b2 m2 v2)).setCell ⟨w.heap.size + 1, 3, none⟩ (.slice b3 m3 v3) := ⟨_, rfl⟩
              have hOV : OwnStore V (w.heap.size + 2) ⟨b0, m0, v0, b1, m1, v1, b2, m2, v2, b3, m3, v3, yi, yl, yd, yo⟩ := by rw [hV]; exact hO2.four (by omega) _ _ _ _
              have bV : BoxN V (w.heap.size + 1) 4 [.slice b0 m0 v0, .slice b1 m1 v1, .slice b2 m2 v2, .slice b3 m3 v3] := by rw [hV]; exact (((hbm.set 0 (by decide) _).set 1 (by decide) _).set 2 (by decide) _).set 3 (by decide) _
              have bVn : BoxN V w.heap.size 4 SV.nil.box := by rw [hV]; exact (((hbn.far (by omega)).far (by omega)).far (by omega)).far (by omega)
              have hbV : Below w.heap.size w V := by rw [hV]; exact below_four hbY (by omega) _ _ _ _
              go_upto_region 4 with (fail)
              rw [← hV]
              clear hV x0 x1 x2 x3 y0 y1 y2 y3 f0 f1 f2 f3 zq2 zbm
              go_wp2
              go_roundw
              case rel => exact ⟨k + 1, ⟨b0, m0, v0, b1, m1, v1, b2, m2, v2, b3, m3, v3, yi, yl, yd, yo⟩, by go_num, by omega, by omega, hG2, hOV, bV, bVn, hbV⟩
              case measure => simp [intOf]; omega
            · have hOk := hOX.below bY
              have hGk : Gd (SV.data ⟨a0, n0, u0, a1, n1, u1, a2, n2, u2, a3, n3, u3, xi, xl, xd, xo⟩) (1 + 24 * ((k + 1 : Nat) : Int)) := hG.mono (by omega)
              go_wp2
              go_roundw
              case rel => exact ⟨k + 1, ⟨a0, n0, u0, a1, n1, u1, a2, n2, u2, a3, n3, u3, xi, xl, xd, xo⟩, by go_num, by omega, by omega, hGk, hOk, hbm, hbn, hbY⟩
              case measure => simp [intOf]; omega
        ·
          have hCall := fun w' h1 => write_own ⟨a0, n0, u0, a1, n1, u1, a2, n2, u2, a3, n3, u3, xi, xl, xd, xo⟩ (pk ra 2, 1 + pk rb 2) (pk rc 5) (pk rd 100) (pk re 5) w' h1 hwf h4
          have HGd : Hid (writeErr ⟨a0, n0, u0, a1, n1, u1, a2, n2, u2, a3, n3, u3, xi, xl, xd, xo⟩ (pk ra 2, 1 + pk rb 2) (pk rc 5) (pk rd 100) (pk re 5) = 0 → Gd (writeData ⟨a0, n0, u0, a1, n1, u1, a2, n2, u2, a3, n3, u3, xi, xl, xd, xo⟩ (pk ra 2, 1 + pk rb 2) (pk rc 5) (pk rd 100) (pk re 5)) (1 + 24 * ((k + 1 : Nat) : Int))) := fun he => (gd_write hG hisT.out (by omega) he).mono (by omega)
          obtain ⟨E, eE⟩ : ∃ E, E = writeErr ⟨a0, n0, u0, a1, n1, u1, a2, n2, u2, a3, n3, u3, xi, xl, xd, xo⟩ (pk ra 2, 1 + pk rb 2) (pk rc 5) (pk rd 100) (pk re 5) := ⟨_, rfl⟩
          obtain ⟨D, eD⟩ : ∃ D, D = writeData ⟨a0, n0, u0, a1, n1, u1, a2, n2, u2, a3, n3, u3, xi, xl, xd, xo⟩ (pk ra 2, 1 + pk rb 2) (pk rc 5) (pk rd 100) (pk re 5) := ⟨_, rfl⟩
          rw [← eE, ← eD] at HGd
          simp only [← eE, ← eD, SV.val] at hCall
          clear eE eD
          go_upto_region 18 with ((go_at_call 13; refine (picked_any _ _ _ (by assumption) (by decide) (by decide)).mono ?_; rintro e u ⟨rfl, hu⟩; rw [hu]; clear hu; (try rw [hZ]); (try rw [hY])))
          go_cut [13, 14] (fun sp se wc => ∃ (q2 : Nat) (r2 : SV), sp = .pointer (some ⟨q2, 0, none⟩) ∧ se = .int .i64 E ∧ BoxN wc q2 4 r2.box ∧ OwnStore wc (w.heap.size + 2) r2 ∧ r2.data = D ∧ Below X.heap.size X wc)
          case first =>
            clear x0 x1 x2 x3 t0 t1 e0 e1 e2 e3 e4 e5
            go_region_held3 (fun U => U.cell? ⟨w.heap.size + 1, 0, none⟩ = some (.slice a0 n0 u0) ∧ U.cell? ⟨w.heap.size + 1, 1, none⟩ = some (.slice a1 n1 u1) ∧ U.cell? ⟨w.heap.size + 1, 2, none⟩ = some (.slice a2 n2 u2) ∧ U.cell? ⟨w.heap.size + 1, 3, none⟩ = some (.slice a3 n3 u3) ∧ U.cell? ⟨q, 0, none⟩ = some (.int .i64 (pk ra 2)) ∧ U.cell? ⟨q, 1, none⟩ = some (.int .i64 (1 + pk rb 2)) ∧ U.cell? ⟨b, off + k * 6 + 4, none⟩ = some (.int .i64 rd) ∧ U.cell? ⟨b, off + k * 6 + 5, none⟩ = some (.int .i64 re))
              (exact KX.out _ (by (with_reducible repeat (first | exact Below.refl _ _ | exact hu2 | refine nD ?_ | refine nA ?_ _ | refine nS ?_ (by first | omega | (simp; done)) _)); done))
              (first | (go_at_call 13; refine (picked_any _ _ _ (by assumption) (by decide) (by decide)).mono ?_; rintro e u ⟨rfl, hu⟩; rw [hu]; clear hu; (try rw [hZ]); (try rw [hY])) | (go_at_call 35; refine (hCall _ (HSX.out _ (by (with_reducible repeat (first | exact Below.refl _ _ | exact hu2 | refine nD ?_ | refine nA ?_ _ | refine nS ?_ (by first | omega | (simp; done)) _)); done))).mono ?_; rintro e w2 ⟨⟨b0, m0, v0, b1, m1, v1, b2, m2, v2, b3, m3, v3, yi, yl, yd, yo⟩, rfl, hO2', hd2, hb2⟩; simp only []; have hu2 : Below X.heap.size X w2 := nT (by (with_reducible repeat (first | exact Below.refl _ _ | exact hu2 | refine nD ?_ | refine nA ?_ _ | refine nS ?_ (by first | omega | (simp; done)) _)); done) hb2; have zu2 := hu2.size; (first | (have bx3 : BoxN w2 X.heap.size 4 [.slice none 0 0, .slice none 0 0, .slice none 0 0, .slice none 0 0] := (boxn_new X.drew #[.slice none 0 0, .slice none 0 0, .slice none 0 0, .slice none 0 0] 55 4 rfl).below hb2 (by simp); have s0 : _ = some (Value.slice none 0 0) := (bx3.c 0 (by decide)).1; have s1 : _ = some (Value.slice none 0 0) := (bx3.c 1 (by decide)).1; have s2 : _ = some (Value.slice none 0 0) := (bx3.c 2 (by decide)).1; have s3 : _ = some (Value.slice none 0 0) := (bx3.c 3 (by decide)).1; have g0 := (bx3.c 0 (by decide)).2; have g1 := (bx3.c 1 (by decide)).2; have g2 := (bx3.c 2 (by decide)).2; have g3 := (bx3.c 3 (by decide)).2; have zbx3 := bx3.lt) | skip)))
            all_goals
              go_wp2_with fail
              go_meet
              case rel => first | exact ⟨_, ⟨b0, m0, v0, b1, m1, v1, b2, m2, v2, b3, m3, v3, yi, yl, yd, yo⟩, rfl, rfl, (((bx3.set 0 (by decide) (.slice b0 m0 v0)).set 1 (by decide) (.slice b1 m1 v1)).set 2 (by decide) (.slice b2 m2 v2)).set 3 (by decide) (.slice b3 m3 v3), (hO2'.four (b := X.heap.size) (by simp) _ _ _ _).base (by simp; omega), hd2, by (with_reducible repeat (first | exact Below.refl _ _ | exact hu2 | refine nD ?_ | refine nA ?_ _ | refine nS ?_ (by first | omega | (simp; done)) _)); done⟩ | exact ⟨_, ⟨b0, m0, v0, b1, m1, v1, b2, m2, v2, b3, m3, v3, yi, yl, yd, yo⟩, rfl, rfl, boxn_new w2 #[.slice b0 m0 v0, .slice b1 m1 v1, .slice b2 m2 v2, .slice b3 m3 v3] _ 4 rfl, (hO2'.below ((Below.refl _ _).alloc (Nat.le_refl _) _)).base (by first | omega | (simp; omega)), hd2, by (with_reducible repeat (first | exact Below.refl _ _ | exact hu2 | refine nD ?_ | refine nA ?_ _ | refine nS ?_ (by first | omega | (simp; done)) _)); done⟩
          case rest =>
            obtain ⟨q2, ⟨b0, m0, v0, b1, m1, v1, b2, m2, v2, b3, m3, v3, yi, yl, yd, yo⟩, rfl, rfl, hb2x, hO2, hd2, bY⟩ := hcut
            obtain ⟨Y, eY⟩ : ∃ Y, Y = wc := ⟨_, rfl⟩
            rw [← eY] at hb2x hO2 bY ⊢
            simp only [SV.box] at hb2x
            clear eY x0 x1 x2 x3 t0 t1 e0 e1 e2 e3 e4 e5
            have hbY : Below w.heap.size w Y := hbX.trans (bY.mono hbX.size)
            have zyl := hbY.size
            have hbm := hbxX.below bY hbxX.lt
            have hbn := hbrX.below bY hbrX.lt
            have x0 := (hb2x.c 0 (by decide)).1
            have x1 := (hb2x.c 1 (by decide)).1
            have x2 := (hb2x.c 2 (by decide)).1
            have x3 := (hb2x.c 3 (by decide)).1
            have y0 := (hbm.c 0 (by decide)).1
            have y1 := (hbm.c 1 (by decide)).1
            have y2 := (hbm.c 2 (by decide)).1
            have y3 := (hbm.c 3 (by decide)).1
            have f0 := (hbm.c 0 (by decide)).2
            have f1 := (hbm.c 1 (by decide)).2
            have f2 := (hbm.c 2 (by decide)).2
            have f3 := (hbm.c 3 (by decide)).2
            simp only [List.getD_cons_zero, List.getD_cons_succ] at x0 x1 x2 x3 y0 y1 y2 y3
            have zq2 := hb2x.lt
            have zbm := hbm.lt
            by_cases hE : E = 0
            · subst hE
              have hG2 : Gd (SV.data ⟨b0, m0, v0, b1, m1, v1, b2, m2, v2, b3, m3, v3, yi, yl, yd, yo⟩) (1 + 24 * ((k + 1 : Nat) : Int)) := by rw [hd2]; exact HGd.out rfl
              obtain ⟨V, hV⟩ : ∃ V : World, V = (((Y.setCell ⟨w.heap.size + 1, 0, none⟩ (.slice b0 m0 v0)).setCell ⟨w.heap.size + 1, 1, none⟩ (.slice b1 m1 v1)).setCell ⟨w.heap.size + 1, 2, none⟩ (.slice b2 m2 v2)).setCell ⟨w.heap.size + 1, 3, none⟩ (.slice b3 m3 v3) := ⟨_, rfl⟩
              have hOV : OwnStore V (w.heap.size + 2) ⟨b0, m0, v0, b1, m1, v1, b2, m2, v2, b3, m3, v3, yi, yl, yd, yo⟩ := by rw [hV]; exact hO2.four (by omega) _ _ _ _
              have bV : BoxN V (w.heap.size + 1) 4 [.slice b0 m0 v0, .slice b1 m1 v1, .slice b2 m2 v2, .slice b3 m3 v3] := by rw [hV]; exact (((hbm.set 0 (by decide) _).set 1 (by decide) _).set 2 (by decide) _).set 3 (by decide) _
              have bVn : BoxN V w.heap.size 4 SV.nil.box := by rw [hV]; exact (((hbn.far (by omega)).far (by omega)).far (by omega)).far (by omega)
              have hbV : Below w.heap.size w V := by rw [hV]; exact below_four hbY (by omega) _ _ _ _
              go_upto_region 4 with (fail)
              rw [← hV]
              clear hV x0 x1 x2 x3 y0 y1 y2 y3 f0 f1 f2 f3 zq2 zbm
              go_wp2
              go_roundw
              case rel => exact ⟨k + 1, ⟨b0, m0, v0, b1, m1, v1, b2, m2, v2, b3, m3, v3, yi, yl, yd, yo⟩, by go_num, by omega, by omega, hG2, hOV, bV, bVn, hbV⟩
              case measure => simp [intOf]; omega
            · have hOk := hOX.below bY
              have hGk : Gd (SV.data ⟨a0, n0, u0, a1, n1, u1, a2, n2, u2, a3, n3, u3, xi, xl, xd, xo⟩) (1 + 24 * ((k + 1 : Nat) : Int)) := hG.mono (by omega)
              go_wp2
              go_roundw
              case rel => exact ⟨k + 1, ⟨a0, n0, u0, a1, n1, u1, a2, n2, u2, a3, n3, u3, xi, xl, xd, xo⟩, by go_num, by omega, by omega, hGk, hOk, hbm, hbn, hbY⟩
              case measure => simp [intOf]; omega
        ·
          have hY2 : pk rd 2 = 0 ∨ pk rd 2 = 1 := by have := pk_bd rd 2 (by decide); omega
          rcases hY2 with hY | hY
          ·
            have hCall := fun w' h1 => end_own ⟨a0, n0, u0, a1, n1, u1, a2, n2, u2, a3, n3, u3, xi, xl, xd, xo⟩ (pk ra 2, 1 + pk rb 2) false w' h1 hwf h4
            have HGd : Hid (endErr ⟨a0, n0, u0, a1, n1, u1, a2, n2, u2, a3, n3, u3, xi, xl, xd, xo⟩ (pk ra 2, 1 + pk rb 2) false = 0 → Gd (endData ⟨a0, n0, u0, a1, n1, u1, a2, n2, u2, a3, n3, u3, xi, xl, xd, xo⟩ (pk ra 2, 1 + pk rb 2) false) (1 + 24 * ((k + 1 : Nat) : Int))) := fun he => (gd_end hG (by omega) (by omega) hisT.out he).mono (by omega)
            obtain ⟨E, eE⟩ : ∃ E, E = endErr ⟨a0, n0, u0, a1, n1, u1, a2, n2, u2, a3, n3, u3, xi, xl, xd, xo⟩ (pk ra 2, 1 + pk rb 2) false := ⟨_, rfl⟩
            obtain ⟨D, eD⟩ : ∃ D, D = endData ⟨a0, n0, u0, a1, n1, u1, a2, n2, u2, a3, n3, u3, xi, xl, xd, xo⟩ (pk ra 2, 1 + pk rb 2) false := ⟨_, rfl⟩
            rw [← eE, ← eD] at HGd
            simp only [← eE, ← eD, SV.val] at hCall
            clear eE eD
            go_upto_region 8 with ((go_at_call 13; refine (picked_any _ _ _ (by assumption) (by decide) (by decide)).mono ?_; rintro e u ⟨rfl, hu⟩; rw [hu]; clear hu; (try rw [hZ]); (try rw [hY])))
            go_cut [15, 16] (fun sp se wc => ∃ (q2 : Nat) (r2 : SV), sp = .pointer (some ⟨q2, 0, none⟩) ∧ se = .int .i64 E ∧ BoxN wc q2 4 r2.box ∧ OwnStore wc (w.heap.size + 2) r2 ∧ r2.data = D ∧ Below X.heap.size X wc)
            case first =>
              clear x0 x1 x2 x3 t0 t1 e0 e1 e2 e3 e4 e5
              go_region_held3 (fun U => U.cell? ⟨w.heap.size + 1, 0, none⟩ = some (.slice a0 n0 u0) ∧ U.cell? ⟨w.heap.size + 1, 1, none⟩ = some (.slice a1 n1 u1) ∧ U.cell? ⟨w.heap.size + 1, 2, none⟩ = some (.slice a2 n2 u2) ∧ U.cell? ⟨w.heap.size + 1, 3, none⟩ = some (.slice a3 n3 u3) ∧ U.cell? ⟨q, 0, none⟩ = some (.int .i64 (pk ra 2)) ∧ U.cell? ⟨q, 1, none⟩ = some (.int .i64 (1 + pk rb 2)) ∧ U.cell? ⟨b, off + k * 6 + 4, none⟩ = some (.int .i64 rd) ∧ U.cell? ⟨b, off + k * 6 + 5, none⟩ = some (.int .i64 re))
                (exact KX.out _ (by (with_reducible repeat (first | exact Below.refl _ _ | exact hu2 | refine nD ?_ | refine nA ?_ _ | refine nS ?_ (by first | omega | (simp; done)) _)); done))
                (first | (go_at_call 13; refine (picked_any _ _ _ (by assumption) (by decide) (by decide)).mono ?_; rintro e u ⟨rfl, hu⟩; rw [hu]; clear hu; (try rw [hZ]); (try rw [hY])) | (go_at_call 36; refine (hCall _ (HSX.out _ (by (with_reducible repeat (first | exact Below.refl _ _ | exact hu2 | refine nD ?_ | refine nA ?_ _ | refine nS ?_ (by first | omega | (simp; done)) _)); done))).mono ?_; rintro e w2 ⟨⟨b0, m0, v0, b1, m1, v1, b2, m2, v2, b3, m3, v3, yi, yl, yd, yo⟩, rfl, hO2', hd2, hb2⟩; simp only []; have hu2 : Below X.heap.size X w2 := nT (by (with_reducible repeat (first | exact Below.refl _ _ | exact hu2 | refine nD ?_ | refine nA ?_ _ | refine nS ?_ (by first | omega | (simp; done)) _)); done) hb2; have zu2 := hu2.size; (first | (have bx3 : BoxN w2 X.heap.size 4 [.slice none 0 0, .slice none 0 0, .slice none 0 0, .slice none 0 0] := (boxn_new X.drew #[.slice none 0 0, .slice none 0 0, .slice none 0 0, .slice none 0 0] 55 4 rfl).below hb2 (by simp); have s0 : _ = some (Value.slice none 0 0) := (bx3.c 0 (by decide)).1; have s1 : _ = some (Value.slice none 0 0) := (bx3.c 1 (by decide)).1; have s2 : _ = some (Value.slice none 0 0) := (bx3.c 2 (by decide)).1; have s3 : _ = some (Value.slice none 0 0) := (bx3.c 3 (by decide)).1; have g0 := (bx3.c 0 (by decide)).2; have g1 := (bx3.c 1 (by decide)).2; have g2 := (bx3.c 2 (by decide)).2; have g3 := (bx3.c 3 (by decide)).2; have zbx3 := bx3.lt) | skip)))
              all_goals
                go_wp2_with fail
                go_meet
                case rel => first | exact ⟨_, ⟨b0, m0, v0, b1, m1, v1, b2, m2, v2, b3, m3, v3, yi, yl, yd, yo⟩, rfl, rfl, (((bx3.set 0 (by decide) (.slice b0 m0 v0)).set 1 (by decide) (.slice b1 m1 v1)).set 2 (by decide) (.slice b2 m2 v2)).set 3 (by decide) (.slice b3 m3 v3), (hO2'.four (b := X.heap.size) (by simp) _ _ _ _).base (by simp; omega), hd2, by (with_reducible repeat (first | exact Below.refl _ _ | exact hu2 | refine nD ?_ | refine nA ?_ _ | refine nS ?_ (by first | omega | (simp; done)) _)); done⟩ | exact ⟨_, ⟨b0, m0, v0, b1, m1, v1, b2, m2, v2, b3, m3, v3, yi, yl, yd, yo⟩, rfl, rfl, boxn_new w2 #[.slice b0 m0 v0, .slice b1 m1 v1, .slice b2 m2 v2, .slice b3 m3 v3] _ 4 rfl, (hO2'.below ((Below.refl _ _).alloc (Nat.le_refl _) _)).base (by first | omega | (simp; omega)), hd2, by (with_reducible repeat (first | exact Below.refl _ _ | exact hu2 | refine nD ?_ | refine nA ?_ _ | refine nS ?_ (by first | omega | (simp; done)) _)); done⟩
            case rest =>
              obtain ⟨q2, ⟨b0, m0, v0, b1, m1, v1, b2, m2, v2, b3, m3, v3, yi, yl, yd, yo⟩, rfl, rfl, hb2x, hO2, hd2, bY⟩ := hcut
              obtain ⟨Y, eY⟩ : ∃ Y, Y = wc := ⟨_, rfl⟩
              rw [← eY] at hb2x hO2 bY ⊢
              simp only [SV.box] at hb2x
              clear eY x0 x1 x2 x3 t0 t1 e0 e1 e2 e3 e4 e5
              have hbY : Below w.heap.size w Y := hbX.trans (bY.mono hbX.size)
              have zyl := hbY.size
              have hbm := hbxX.below bY hbxX.lt
              have hbn := hbrX.below bY hbrX.lt
              have x0 := (hb2x.c 0 (by decide)).1
              have x1 := (hb2x.c 1 (by decide)).1
              have x2 := (hb2x.c 2 (by decide)).1
              have x3 := (hb2x.c 3 (by decide)).1
              have y0 := (hbm.c 0 (by decide)).1
              have y1 := (hbm.c 1 (by decide)).1
              have y2 := (hbm.c 2 (by decide)).1
              have y3 := (hbm.c 3 (by decide)).1
              have f0 := (hbm.c 0 (by decide)).2
              have f1 := (hbm.c 1 (by decide)).2
              have f2 := (hbm.c 2 (by decide)).2
              have f3 := (hbm.c 3 (by decide)).2
              simp only [List.getD_cons_zero, List.getD_cons_succ] at x0 x1 x2 x3 y0 y1 y2 y3
              have zq2 := hb2x.lt
              have zbm := hbm.lt
              by_cases hE : E = 0
              · subst hE
                have hG2 : Gd (SV.data ⟨b0, m0, v0, b1, m1, v1, b2, m2, v2, b3, m3, v3, yi, yl, yd, yo⟩) (1 + 24 * ((k + 1 : Nat) : Int)) := by rw [hd2]; exact HGd.out rfl
                obtain ⟨V, hV⟩ : ∃ V : World, V = (((Y.setCell ⟨w.heap.size + 1, 0, none⟩ (.slice b0 m0 v0)).setCell ⟨w.heap.size + 1, 1, none⟩ (.slice b1 m1 v1)).setCell ⟨w.heap.size + 1, 2, none⟩ (.slice b2 m2 v2)).setCell ⟨w.heap.size + 1, 3, none⟩ (.slice b3 m3 v3) := ⟨_, rfl⟩
                have hOV : OwnStore V (w.heap.size + 2) ⟨b0, m0, v0, b1, m1, v1, b2, m2, v2, b3, m3, v3, yi, yl, yd, yo⟩ := by rw [hV]; exact hO2.four (by omega) _ _ _ _
                have bV : BoxN V (w.heap.size + 1) 4 [.slice b0 m0 v0, .slice b1 m1 v1, .slice b2 m2 v2, .slice b3 m3 v3] := by rw [hV]; exact (((hbm.set 0 (by decide) _).set 1 (by decide) _).set 2 (by decide) _).set 3 (by decide) _
                have bVn : BoxN V w.heap.size 4 SV.nil.box := by rw [hV]; exact (((hbn.far (by omega)).far (by omega)).far (by omega)).far (by omega)
                have hbV : Below w.heap.size w V := by rw [hV]; exact below_four hbY (by omega) _ _ _ _
                go_upto_region 4 with (fail)
                rw [← hV]
                clear hV x0 x1 x2 x3 y0 y1 y2 y3 f0 f1 f2 f3 zq2 zbm
                go_wp2
                go_roundw
                case rel => exact ⟨k + 1, ⟨b0, m0, v0, b1, m1, v1, b2, m2, v2, b3, m3, v3, yi, yl, yd, yo⟩, by go_num, by omega, by omega, hG2, hOV, bV, bVn, hbV⟩
                case measure => simp [intOf]; omega
              · have hOk := hOX.below bY
                have hGk : Gd (SV.data ⟨a0, n0, u0, a1, n1, u1, a2, n2, u2, a3, n3, u3, xi, xl, xd, xo⟩) (1 + 24 * ((k + 1 : Nat) : Int)) := hG.mono (by omega)
                go_wp2
                go_roundw
                case rel => exact ⟨k + 1, ⟨a0, n0, u0, a1, n1, u1, a2, n2, u2, a3, n3, u3, xi, xl, xd, xo⟩, by go_num, by omega, by omega, hGk, hOk, hbm, hbn, hbY⟩
                case measure => simp [intOf]; omega
          ·
            have hCall := fun w' h1 => end_own ⟨a0, n0, u0, a1, n1, u1, a2, n2, u2, a3, n3, u3, xi, xl, xd, xo⟩ (pk ra 2, 1 + pk rb 2) true w' h1 hwf h4
            have HGd : Hid (endErr ⟨a0, n0, u0, a1, n1, u1, a2, n2, u2, a3, n3, u3, xi, xl, xd, xo⟩ (pk ra 2, 1 + pk rb 2) true = 0 → Gd (endData ⟨a0, n0, u0, a1, n1, u1, a2, n2, u2, a3, n3, u3, xi, xl, xd, xo⟩ (pk ra 2, 1 + pk rb 2) true) (1 + 24 * ((k + 1 : Nat) : Int))) := fun he => (gd_end hG (by omega) (by omega) hisT.out he).mono (by omega)
            obtain ⟨E, eE⟩ : ∃ E, E = endErr ⟨a0, n0, u0, a1, n1, u1, a2, n2, u2, a3, n3, u3, xi, xl, xd, xo⟩ (pk ra 2, 1 + pk rb 2) true := ⟨_, rfl⟩
            obtain ⟨D, eD⟩ : ∃ D, D = endData ⟨a0, n0, u0, a1, n1, u1, a2, n2, u2, a3, n3, u3, xi, xl, xd, xo⟩ (pk ra 2, 1 + pk rb 2) true := ⟨_, rfl⟩
            rw [← eE, ← eD] at HGd
            simp only [← eE, ← eD, SV.val] at hCall
            clear eE eD
            go_upto_region 8 with ((go_at_call 13; refine (picked_any _ _ _ (by assumption) (by decide) (by decide)).mono ?_; rintro e u ⟨rfl, hu⟩; rw [hu]; clear hu; (try rw [hZ]); (try rw [hY])))
            go_cut [15, 16] (fun sp se wc => ∃ (q2 : Nat) (r2 : SV), sp = .pointer (some ⟨q2, 0, none⟩) ∧ se = .int .i64 E ∧ BoxN wc q2 4 r2.box ∧ OwnStore wc (w.heap.size + 2) r2 ∧ r2.data = D ∧ Below X.heap.size X wc)
            case first =>
              clear x0 x1 x2 x3 t0 t1 e0 e1 e2 e3 e4 e5
              go_region_held3 (fun U => U.cell? ⟨w.heap.size + 1, 0, none⟩ = some (.slice a0 n0 u0) ∧ U.cell? ⟨w.heap.size + 1, 1, none⟩ = some (.slice a1 n1 u1) ∧ U.cell? ⟨w.heap.size + 1, 2, none⟩ = some (.slice a2 n2 u2) ∧ U.cell? ⟨w.heap.size + 1, 3, none⟩ = some (.slice a3 n3 u3) ∧ U.cell? ⟨q, 0, none⟩ = some (.int .i64 (pk ra 2)) ∧ U.cell? ⟨q, 1, none⟩ = some (.int .i64 (1 + pk rb 2)) ∧ U.cell? ⟨b, off + k * 6 + 4, none⟩ = some (.int .i64 rd) ∧ U.cell? ⟨b, off + k * 6 + 5, none⟩ = some (.int .i64 re))
                (exact KX.out _ (by (with_reducible repeat (first | exact Below.refl _ _ | exact hu2 | refine nD ?_ | refine nA ?_ _ | refine nS ?_ (by first | omega | (simp; done)) _)); done))
                (first | (go_at_call 13; refine (picked_any _ _ _ (by assumption) (by decide) (by decide)).mono ?_; rintro e u ⟨rfl, hu⟩; rw [hu]; clear hu; (try rw [hZ]); (try rw [hY])) | (go_at_call 36; refine (hCall _ (HSX.out _ (by (with_reducible repeat (first | exact Below.refl _ _ | exact hu2 | refine nD ?_ | refine nA ?_ _ | refine nS ?_ (by first | omega | (simp; done)) _)); done))).mono ?_; rintro e w2 ⟨⟨b0, m0, v0, b1, m1, v1, b2, m2, v2, b3, m3, v3, yi, yl, yd, yo⟩, rfl, hO2', hd2, hb2⟩; simp only []; have hu2 : Below X.heap.size X w2 := nT (by (with_reducible repeat (first | exact Below.refl _ _ | exact hu2 | refine nD ?_ | refine nA ?_ _ | refine nS ?_ (by first | omega | (simp; done)) _)); done) hb2; have zu2 := hu2.size; (first | (have bx3 : BoxN w2 X.heap.size 4 [.slice none 0 0, .slice none 0 0, .slice none 0 0, .slice none 0 0] := (boxn_new X.drew #[.slice none 0 0, .slice none 0 0, .slice none 0 0, .slice none 0 0] 55 4 rfl).below hb2 (by simp); have s0 : _ = some (Value.slice none 0 0) := (bx3.c 0 (by decide)).1; have s1 : _ = some (Value.slice none 0 0) := (bx3.c 1 (by decide)).1; have s2 : _ = some (Value.slice none 0 0) := (bx3.c 2 (by decide)).1; have s3 : _ = some (Value.slice none 0 0) := (bx3.c 3 (by decide)).1; have g0 := (bx3.c 0 (by decide)).2; have g1 := (bx3.c 1 (by decide)).2; have g2 := (bx3.c 2 (by decide)).2; have g3 := (bx3.c 3 (by decide)).2; have zbx3 := bx3.lt) | skip)))
              all_goals
                go_wp2_with fail
                go_meet
                case rel => first | exact ⟨_, ⟨b0, m0, v0, b1, m1, v1, b2, m2, v2, b3, m3, v3, yi, yl, yd, yo⟩, rfl, rfl, (((bx3.set 0 (by decide) (.slice b0 m0 v0)).set 1 (by decide) (.slice b1 m1 v1)).set 2 (by decide) (.slice b2 m2 v2)).set 3 (by decide) (.slice b3 m3 v3), (hO2'.four (b := X.heap.size) (by simp) _ _ _ _).base (by simp; omega), hd2, by (with_reducible repeat (first | exact Below.refl _ _ | exact hu2 | refine nD ?_ | refine nA ?_ _ | refine nS ?_ (by first | omega | (simp; done)) _)); done⟩ | exact ⟨_, ⟨b0, m0, v0, b1, m1, v1, b2, m2, v2, b3, m3, v3, yi, yl, yd, yo⟩, rfl, rfl, boxn_new w2 #[.slice b0 m0 v0, .slice b1 m1 v1, .slice b2 m2 v2, .slice b3 m3 v3] _ 4 rfl, (hO2'.below ((Below.refl _ _).alloc (Nat.le_refl _) _)).base (by first | omega | (simp; omega)), hd2, by (with_reducible repeat (first | exact Below.refl _ _ | exact hu2 | refine nD ?_ | refine nA ?_ _ | refine nS ?_ (by first | omega | (simp; done)) _)); done⟩
            case rest =>
              obtain ⟨q2, ⟨b0, m0, v0, b1, m1, v1, b2, m2, v2, b3, m3, v3, yi, yl, yd, yo⟩, rfl, rfl, hb2x, hO2, hd2, bY⟩ := hcut
              obtain ⟨Y, eY⟩ : ∃ Y, Y = wc := ⟨_, rfl⟩
              rw [← eY] at hb2x hO2 bY ⊢
              simp only [SV.box] at hb2x
              clear eY x0 x1 x2 x3 t0 t1 e0 e1 e2 e3 e4 e5
              have hbY : Below w.heap.size w Y := hbX.trans (bY.mono hbX.size)
              have zyl := hbY.size
              have hbm := hbxX.below bY hbxX.lt
              have hbn := hbrX.below bY hbrX.lt
              have x0 := (hb2x.c 0 (by decide)).1
              have x1 := (hb2x.c 1 (by decide)).1
              have x2 := (hb2x.c 2 (by decide)).1
              have x3 := (hb2x.c 3 (by decide)).1
              have y0 := (hbm.c 0 (by decide)).1
              have y1 := (hbm.c 1 (by decide)).1
              have y2 := (hbm.c 2 (by decide)).1
              have y3 := (hbm.c 3 (by decide)).1
              have f0 := (hbm.c 0 (by decide)).2
              have f1 := (hbm.c 1 (by decide)).2
              have f2 := (hbm.c 2 (by decide)).2
              have f3 := (hbm.c 3 (by decide)).2
              simp only [List.getD_cons_zero, List.getD_cons_succ] at x0 x1 x2 x3 y0 y1 y2 y3
              have zq2 := hb2x.lt
              have zbm := hbm.lt
              by_cases hE : E = 0
              · subst hE
                have hG2 : Gd (SV.data ⟨b0, m0, v0, b1, m1, v1, b2, m2, v2, b3, m3, v3, yi, yl, yd, yo⟩) (1 + 24 * ((k + 1 : Nat) : Int)) := by rw [hd2]; exact HGd.out rfl
                obtain ⟨V, hV⟩ : ∃ V : World, V = (((Y.setCell ⟨w.heap.size + 1, 0, none⟩ (.slice b0 m0 v0)).setCell ⟨w.heap.size + 1, 1, none⟩ (.slice b1 m1 v1)).setCell ⟨w.heap.size + 1, 2, none⟩ (.slice b2 m2 v2)).setCell ⟨w.heap.size + 1, 3, none⟩ (.slice b3 m3 v3) := ⟨_, rfl⟩
                have hOV : OwnStore V (w.heap.size + 2) ⟨b0, m0, v0, b1, m1, v1, b2, m2, v2, b3, m3, v3, yi, yl, yd, yo⟩ := by rw [hV]; exact hO2.four (by omega) _ _ _ _
                have bV : BoxN V (w.heap.size + 1) 4 [.slice b0 m0 v0, .slice b1 m1 v1, .slice b2 m2 v2, .slice b3 m3 v3] := by rw [hV]; exact (((hbm.set 0 (by decide) _).set 1 (by decide) _).set 2 (by decide) _).set 3 (by decide) _
                have bVn : BoxN V w.heap.size 4 SV.nil.box := by rw [hV]; exact (((hbn.far (by omega)).far (by omega)).far (by omega)).far (by omega)
                have hbV : Below w.heap.size w V := by rw [hV]; exact below_four hbY (by omega) _ _ _ _
                go_upto_region 4 with (fail)
                rw [← hV]
                clear hV x0 x1 x2 x3 y0 y1 y2 y3 f0 f1 f2 f3 zq2 zbm
                go_wp2
                go_roundw
                case rel => exact ⟨k + 1, ⟨b0, m0, v0, b1, m1, v1, b2, m2, v2, b3, m3, v3, yi, yl, yd, yo⟩, by go_num, by omega, by omega, hG2, hOV, bV, bVn, hbV⟩
                case measure => simp [intOf]; omega
              · have hOk := hOX.below bY
                have hGk : Gd (SV.data ⟨a0, n0, u0, a1, n1, u1, a2, n2, u2, a3, n3, u3, xi, xl, xd, xo⟩) (1 + 24 * ((k + 1 : Nat) : Int)) := hG.mono (by omega)
                go_wp2
                go_roundw
                case rel => exact ⟨k + 1, ⟨a0, n0, u0, a1, n1, u1, a2, n2, u2, a3, n3, u3, xi, xl, xd, xo⟩, by go_num, by omega, by omega, hGk, hOk, hbm, hbn, hbY⟩
                case measure => simp [intOf]; omega
    · have hfin : Gd (SV.data ⟨a0, n0, u0, a1, n1, u1, a2, n2, u2, a3, n3, u3, xi, xl, xd, xo⟩) 961 := hG.mono (by omega)
      simp only [SV.box] at hbx
      have x0 := (hbx.c 0 (by decide)).1
      have x1 := (hbx.c 1 (by decide)).1
      have x2 := (hbx.c 2 (by decide)).1
      have x3 := (hbx.c 3 (by decide)).1
      have r0 := (hbr.c 0 (by decide)).1
      have r1 := (hbr.c 1 (by decide)).1
      have r2 := (hbr.c 2 (by decide)).1
      have r3 := (hbr.c 3 (by decide)).1
      have f0 := (hbr.c 0 (by decide)).2
      have f1 := (hbr.c 1 (by decide)).2
      have f2 := (hbr.c 2 (by decide)).2
      have f3 := (hbr.c 3 (by decide)).2
      simp only [List.getD_cons_zero, List.getD_cons_succ, SV.nil, SV.box] at x0 x1 x2 x3 r0 r1 r2 r3
      have z1 := hbx.lt
      have z0 := hbr.lt
      have hkl : ¬ ((k : Int) < (len : Int)) ∨ ((k : Int) < (len : Int) ∧ ¬ ((k : Int) < M)) := by
        by_cases hq : (k : Int) < (len : Int)
        · exact .inr ⟨hq, fun e => hlt ⟨by omega, e⟩⟩
        · exact .inl hq
      rcases hkl with hq | ⟨hq, hq2⟩
      all_goals
        go_wp2
        refine bodyPost_ret (v := .agg #[.slice a0 n0 u0, .slice a1 n1 u1, .slice a2 n2 u2, .slice a3 n3 u3]) (by simp [results, Tryd.results16, go_sem, r0, r1, r2, r3]) rfl ?_
        exact ⟨⟨a0, n0, u0, a1, n1, u1, a2, n2, u2, a3, n3, u3, xi, xl, xd, xo⟩, rfl, (hO.four (b := w.heap.size) (by omega) _ _ _ _).base (by omega), hfin, below_four hb (Nat.le_refl _) _ _ _ _⟩
end Go.Proofs.YtgohpgollpjlnaaDoor.St
