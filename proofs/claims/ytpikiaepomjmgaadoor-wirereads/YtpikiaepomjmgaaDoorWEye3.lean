/- The contracts of the document's reader: yes, first, who. -/
import Derived.Test.YtpikiaepomjmgaaDoorWEye2
namespace Go.Proofs.YtpikiaepomjmgaaDoor
open Go.ChangeShapes Go.WideShapes Go.ChangeAt Go.RowKit
set_option linter.unusedVariables false

theorem num_down {st : RS} {k : Nat} (h : (st.num k).2.wrong = 0) : st.wrong = 0 := by
  by_cases hw : st.wrong = 0
  · exact hw
  · rw [num_stays hw] at h
    exact absurd h hw

set_option maxRecDepth 100000 in
set_option maxHeartbeats 2000000 in
theorem eyeYes_any (R L : Nat) (bs : List Int) (st : RS) (w : World) (h : EyeTo w R L bs st) :
    Calls Tryd.prog 25 #[.pointer (some ⟨R, 0, none⟩)] w fun r w' => ∃ n : Int, r = .returned (.bool (n == 1)) ∧ ((st.num 1).2.wrong = 0 → n = (st.num 1).1) ∧ EyeTo w' R L bs (if 1 < n then (st.num 1).2.refuse 4 else (st.num 1).2) ∧ w.grownBy w' (some R) := by
  have hN : ∀ w', EyeTo w' R L bs st → Calls Tryd.prog 23 #[.pointer (some ⟨R, 0, none⟩), .int .i64 1] w' fun r w'' => ∃ n : Int, r = .returned (.int .i64 n) ∧ (0 ≤ n ∧ n < 4294967296) ∧ ((st.num 1).2.wrong = 0 → n = (st.num 1).1) ∧ EyeTo w'' R L bs (st.num 1).2 ∧ w'.grownBy w'' (some R) := fun w' h1 => eyeNum_any R L bs st 1 w' h1 (by omega)
  have hS := fun w' h1 => stop_any R L bs (st.num 1).2 4 w' h1 (by omega)
  obtain ⟨S, eS⟩ : ∃ S, S = st.num 1 := ⟨_, rfl⟩
  rw [← eS] at hN hS ⊢
  clear eS
  go_enter Tryd.func25, Tryd.ntmps25
  go_upto_region 2 with (go_at_call 23; refine (hN _ h).mono ?_; rintro e w1 ⟨n, rfl, ⟨n0, n1⟩, hn, h1, hg1⟩)
  by_cases hn2 : 1 < n
  · have hne : (n == 1) = false := by simp; omega
    go_wp2_with (go_at_call 50; refine (hS _ h1).mono ?_; rintro e w2 ⟨rfl, h2, hg2⟩)
    go_ret
    exact ⟨n, by rw [hne]; rfl, hn, by rw [if_pos hn2]; exact h2, hg1.trans hg2⟩
  · go_wp2
    go_ret
    exact ⟨n, rfl, hn, by rw [if_neg (by omega)]; exact h1, hg1⟩

set_option maxRecDepth 100000 in
set_option maxHeartbeats 2000000 in
theorem eyeFirst_any (R L : Nat) (bs : List Int) (st : RS) (most : Int) (w : World) (h : EyeTo w R L bs st) (h0 : 0 ≤ (st.num 1).1) :
    Calls Tryd.prog 22 #[.pointer (some ⟨R, 0, none⟩), .int .i64 most] w fun r w' => r = .returned (.int .i64 (if (st.kind (most + 1)).2.wrong = 0 then (st.kind (most + 1)).1 else 0)) ∧ EyeTo w' R L bs (st.kind (most + 1)).2 ∧ w.grownBy w' (some R) := by
  have hN : ∀ w', EyeTo w' R L bs st → Calls Tryd.prog 23 #[.pointer (some ⟨R, 0, none⟩), .int .i64 1] w' fun r w'' => ∃ n : Int, r = .returned (.int .i64 n) ∧ (0 ≤ n ∧ n < 4294967296) ∧ ((st.num 1).2.wrong = 0 → n = (st.num 1).1) ∧ EyeTo w'' R L bs (st.num 1).2 ∧ w'.grownBy w'' (some R) := fun w' h1 => eyeNum_any R L bs st 1 w' h1 (by omega)
  have hS := fun w' h1 => stop_any R L bs (st.num 1).2 3 w' h1 (by omega)
  have HK : Hid (st.kind (most + 1) = if (st.num 1).1 = 0 ∨ most + 1 ≤ (st.num 1).1 then (0, (st.num 1).2.refuse 3) else st.num 1) := rfl
  obtain ⟨K, eK⟩ : ∃ K, K = st.kind (most + 1) := ⟨_, rfl⟩
  rw [← eK] at HK ⊢
  obtain ⟨S, eS⟩ : ∃ S, S = st.num 1 := ⟨_, rfl⟩
  rw [← eS] at hN hS HK h0
  clear eS eK
  obtain ⟨m, rs⟩ := S
  simp only [] at hN hS HK h0
  obtain ⟨A, eA⟩ : ∃ A, A = if K.2.wrong = 0 then K.1 else 0 := ⟨_, rfl⟩
  have HA : Hid (A = if K.2.wrong = 0 then K.1 else 0) := eA
  rw [← eA]
  clear eA
  obtain ⟨K1, K2⟩ := K
  simp only [] at HA ⊢
  go_enter Tryd.func22, Tryd.ntmps22
  go_upto_region 2 with (go_at_call 23; refine (hN _ h).mono ?_; rintro e w1 ⟨n, rfl, ⟨n0, n1⟩, hn, h1, hg1⟩)
  have h1' := h1
  obtain ⟨a1, l1, p1, q1, hE1⟩ := h1'
  have c2 := hE1.c2
  have z1 := hE1.lt
  by_cases hw : rs.wrong = 0
  · have hnm := hn hw
    subst hnm
    clear hn
    rw [hw] at c2
    by_cases hbad : n = 0 ∨ most + 1 ≤ n
    · have hK := HK.out
      rw [if_pos hbad] at hK
      simp only [Prod.mk.injEq] at hK
      have hin : inR n 1 most = false := inR_false (by omega)
      have h3 : (rs.refuse 3).wrong = 3 := by simp [RS.refuse, hw]
      have HA2 : Hid (A = 0) := by show _ = _; rw [HA.out, hK.2, if_neg (by rw [h3]; decide)]
      have HK2 : Hid (K2 = rs.refuse 3) := hK.2
      clear hK HK HA hbad
      go_upto_region 4 with (first | (go_at_call 49; refine (in_any _ _ _ _).mono ?_; rintro e u ⟨rfl, hu⟩; rw [hu, hin]; clear hu) | (go_at_call 50; refine (hS _ h1).mono ?_; rintro e w2 ⟨rfl, h2, hg2⟩))
      have h2' := h2
      obtain ⟨a2, l2, p2, q2, hE2⟩ := h2'
      have d2 := hE2.c2
      rw [h3] at d2
      have z2 := hE2.lt
      clear c2 z1 h3
      go_wp2
      go_ret
      exact ⟨by rw [HA2.out]; rfl, by rw [HK2.out]; exact h2, hg1.trans hg2⟩
    · have hK := HK.out
      rw [if_neg hbad] at hK
      simp only [Prod.mk.injEq] at hK
      have hin : inR n 1 most = true := inR_true (by omega) (by omega)
      have HA2 : Hid (A = n) := by show _ = _; rw [HA.out, hK.2, hK.1, if_pos hw]
      have HK2 : Hid (K2 = rs) := hK.2
      clear hK HK HA hbad
      go_wp2_with (go_at_call 49; refine (in_any _ _ _ _).mono ?_; rintro e u ⟨rfl, hu⟩; rw [hu, hin]; clear hu)
      go_ret
      exact ⟨by rw [HA2.out]; rfl, by rw [HK2.out]; exact h1, hg1⟩
  · have hK2 : K2 = rs := by
      have hK := HK.out
      split at hK
      · simp only [Prod.mk.injEq] at hK
        rw [hK.2]
        simp [RS.refuse, hw]
      · simp only [Prod.mk.injEq] at hK
        exact hK.2
    have HA2 : Hid (A = 0) := by show _ = _; rw [HA.out, hK2, if_neg hw]
    have HK2 : Hid (K2 = rs) := hK2
    obtain ⟨W, eW⟩ : ∃ x, x = rs.wrong := ⟨_, rfl⟩
    rw [← eW] at c2 hw
    clear HK HA hK2 hn eW
    have hw2 : (W == 0) = false := by simp [hw]
    go_wp2
    go_ret
    exact ⟨by rw [HA2.out]; rfl, by rw [HK2.out]; exact h1, hg1⟩

set_option maxRecDepth 100000 in
set_option maxHeartbeats 2000000 in
theorem eyeWho_any (R L : Nat) (bs : List Int) (st : RS) (w : World) (h : EyeTo w R L bs st) :
    Calls Tryd.prog 24 #[.pointer (some ⟨R, 0, none⟩)] w fun r w' => ∃ n m : Int, r = .returned (.agg #[.int .i64 n, .int .i64 m]) ∧ ((st.num 1).2.wrong = 0 → n = (st.num 1).1) ∧ (((st.num 1).2.num 3).2.wrong = 0 → m = ((st.num 1).2.num 3).1) ∧ EyeTo w' R L bs ((st.num 1).2.num 3).2 ∧ w.grownBy w' (some R) := by
  have hN : ∀ w', EyeTo w' R L bs st → Calls Tryd.prog 23 #[.pointer (some ⟨R, 0, none⟩), .int .i64 1] w' fun r w'' => ∃ n : Int, r = .returned (.int .i64 n) ∧ (0 ≤ n ∧ n < 4294967296) ∧ ((st.num 1).2.wrong = 0 → n = (st.num 1).1) ∧ EyeTo w'' R L bs (st.num 1).2 ∧ w'.grownBy w'' (some R) := fun w' h1 => eyeNum_any R L bs st 1 w' h1 (by omega)
  have hM : ∀ w', EyeTo w' R L bs (st.num 1).2 → Calls Tryd.prog 23 #[.pointer (some ⟨R, 0, none⟩), .int .i64 3] w' fun r w'' => ∃ n : Int, r = .returned (.int .i64 n) ∧ (0 ≤ n ∧ n < 4294967296) ∧ (((st.num 1).2.num 3).2.wrong = 0 → n = ((st.num 1).2.num 3).1) ∧ EyeTo w'' R L bs ((st.num 1).2.num 3).2 ∧ w'.grownBy w'' (some R) := fun w' h1 => eyeNum_any R L bs (st.num 1).2 3 w' h1 (by omega)
  obtain ⟨S, eS⟩ : ∃ S, S = st.num 1 := ⟨_, rfl⟩
  rw [← eS] at hN hM ⊢
  obtain ⟨T, eT⟩ : ∃ T, T = S.2.num 3 := ⟨_, rfl⟩
  rw [← eT] at hM ⊢
  clear eS eT
  have zR := h.lt
  obtain ⟨W, hW⟩ : ∃ W : World, W = w.alloc (.cells #[.int .i64 0, .int .i64 0] 27) := ⟨_, rfl⟩
  have bW : Below w.heap.size w W := by rw [hW]; exact (Below.refl _ _).alloc (Nat.le_refl _) _
  have hgW : w.grownBy W (some R) := ⟨bW.os, bW.tape, bW.output, bW.size, fun k hk _ => bW.block k hk⟩
  have c0 : W.cell? ⟨w.heap.size, 0, none⟩ = some (.int .i64 0) := by rw [hW]; go_simp
  have c1 : W.cell? ⟨w.heap.size, 1, none⟩ = some (.int .i64 0) := by rw [hW]; go_simp
  have f0 : W.frozen? ⟨w.heap.size, 0, none⟩ = false := by rw [hW]; go_simp
  have f1 : W.frozen? ⟨w.heap.size, 1, none⟩ = false := by rw [hW]; go_simp
  have zW : w.heap.size < W.heap.size := by rw [hW]; simp
  have hEW := h.below bW
  have hne : w.heap.size ≠ R := by omega
  have KW : Hid (∀ U, W.grownBy U (some R) → U.cell? ⟨w.heap.size, 0, none⟩ = some (.int .i64 0) ∧ U.cell? ⟨w.heap.size, 1, none⟩ = some (.int .i64 0) ∧ U.frozen? ⟨w.heap.size, 0, none⟩ = false ∧ U.frozen? ⟨w.heap.size, 1, none⟩ = false ∧ w.heap.size < U.heap.size) := fun U hU => by
    have hb := hU.block w.heap.size zW (by simpa using hne)
    exact ⟨(World.cell?_of_block (a := ⟨w.heap.size, 0, none⟩) hb).trans c0, (World.cell?_of_block (a := ⟨w.heap.size, 1, none⟩) hb).trans c1, (World.frozen?_of_block (a := ⟨w.heap.size, 0, none⟩) hb).trans f0, (World.frozen?_of_block (a := ⟨w.heap.size, 1, none⟩) hb).trans f1, Nat.lt_of_lt_of_le zW hU.size⟩
  go_enter Tryd.func24, Tryd.ntmps24
  go_upto_region 1 with (fail)
  rw [← hW]
  clear hW
  go_upto_region 2 with (go_at_call 23; refine (hN _ hEW).mono ?_; rintro e w1 ⟨n, rfl, _, hn, h1, hg1⟩)
  go_upto_region 3 with (go_at_call 23; refine (hM _ h1).mono ?_; rintro e w2 ⟨m, rfl, _, hm, h2, hg2⟩)
  have hgU := hg1.trans hg2
  clear c0 c1 f0 f1
  obtain ⟨c0, c1, f0, f1, zU⟩ := KW.out _ hgU
  have hE2 : EyeTo ((w2.setCell ⟨w.heap.size, 0, none⟩ (.int .i64 n)).setCell ⟨w.heap.size, 1, none⟩ (.int .i64 m)) R L bs T.2 := by
    have hLR := h.lt
    obtain ⟨aa, la, ca, pa, hEE⟩ := id h
    have hL := hEE.hL
    have g1 : w2.grownBy ((w2.setCell ⟨w.heap.size, 0, none⟩ (.int .i64 n)).setCell ⟨w.heap.size, 1, none⟩ (.int .i64 m)) (some w.heap.size) := grown_set (grown_set (grownR_refl _ _))
    exact h2.grown g1 (fun k hk => by simp at hk; omega)
  have hgF : w.grownBy ((w2.setCell ⟨w.heap.size, 0, none⟩ (.int .i64 n)).setCell ⟨w.heap.size, 1, none⟩ (.int .i64 m)) (some R) := by
    have g := hgW.trans hgU
    refine ⟨g.os, g.tape, g.output, by simpa using g.size, fun k hk hk2 => ?_⟩
    rw [Below.heap_setCell _ ⟨w.heap.size, 1, none⟩ _ k (by simp; omega), Below.heap_setCell _ ⟨w.heap.size, 0, none⟩ _ k (by simp; omega)]
    exact g.block k hk hk2
  go_wp2
  refine bodyPost_ret (v := .agg #[.int .i64 n, .int .i64 m]) (by simp [results, Tryd.results24, go_sem, c0, c1]) rfl ?_
  exact ⟨n, m, rfl, hn, hm, hE2, hgF⟩
end Go.Proofs.YtpikiaepomjmgaaDoor
