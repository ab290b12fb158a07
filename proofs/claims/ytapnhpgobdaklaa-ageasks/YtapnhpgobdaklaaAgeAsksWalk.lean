/- The walk of the law AgeAsks. -/
import Derived.Test.YtapnhpgobdaklaaSAge
import Derived.Test.YtapnhpgobdaklaaSWrite
import Derived.Test.YtapnhpgobdaklaaPicked
namespace Go.Proofs.Ytapnhpgobdaklaa
open Go.ChangeShapes Go.WideShapes Go.ChangeAt Go.RowKit St
set_option linter.unusedVariables false

def oneL : LkV := ⟨(0, 1), 3, true, 4, 1⟩
def oneS (a : Int) : PS := ⟨[], [oneL], [⟨(0, 1), a⟩], []⟩
theorem one_parts {s : SV} {a : Int} (h : s.data = oneS a) : s.items = [] ∧ s.locks = [oneL] ∧ s.doubts = [⟨(0, 1), a⟩] ∧ s.over = [] := by
  simp only [SV.data, oneS, PS.mk.injEq] at h
  exact h
theorem one_ok {s : SV} {a : Int} (h : s.data = oneS a) (h1 : 0 ≤ a) (h2 : a ≤ 1048576) : storeOK s = true := by
  obtain ⟨e1, e2, e3, e4⟩ := one_parts h
  have ha : inR a 0 1048576 = true := inR_true h1 h2
  have hl : locksOK [oneL] = true := by decide
  have hd : doubtsOK [⟨(0, 1), a⟩] [oneL] [] = true := by
    simp [doubtsOK, doubtsGo, ha, oneL, ofT, dbT]
  simp only [storeOK, e1, e2, e3, e4, hl, hd]
  decide
theorem one_age {s : SV} {a p : Int} (h : s.data = oneS a) (h1 : 0 ≤ a) (h2 : a ≤ 1048576) (p1 : 1 ≤ p) (p2 : p ≤ 1048576) : ageErr s p = 0 ∧ ageData s p = oneS (if p ≤ a + 1 then 0 else a + 1) ∧ ageTold s p = if p ≤ a + 1 then [(0, 1)] else [] := by
  have hok := one_ok h h1 h2
  have hp : inR p 1 1048576 = true := inR_true p1 p2
  have hE : ageErr s p = 0 := by simp [ageErr, hok, hp]
  obtain ⟨e1, e2, e3, e4⟩ := one_parts h
  refine ⟨hE, ?_, ?_⟩
  · simp only [ageData, hE, e1, e2, e3, e4, ↓reduceIte, List.map_cons, List.map_nil, agedD, oneS]
    split <;> rfl
  · simp only [ageTold, hE, e3, ↓reduceIte, toldT]
    by_cases hc : p ≤ a + 1 <;> simp [hc]
theorem step_mod {P k : Nat} (h1 : 1 ≤ P) (h6 : P ≤ 6) : (P ≤ k % P + 1 → (k + 1) % P = 0 ∧ (k + 1) / P = k / P + 1) ∧ (¬ P ≤ k % P + 1 → (k + 1) % P = k % P + 1 ∧ (k + 1) / P = k / P) := by
  have : P = 1 ∨ P = 2 ∨ P = 3 ∨ P = 4 ∨ P = 5 ∨ P = 6 := by omega
  rcases this with rfl | rfl | rfl | rfl | rfl | rfl <;> omega

set_option maxRecDepth 100000 in
set_option maxHeartbeats 4000000 in
theorem ageAsks_walk (p ticks : Int) (w : World) (hp : (Lit.int .i64 p).wf = true) (ht : (Lit.int .i64 ticks).wf = true) :
    Calls Try.prog 3 #[.int .i64 p, .int .i64 ticks] w fun e w' => e = .returned (.bool true) ∧ Below w.heap.size w w' := by
  have hp1 := fun w' => picked_any p 6 w' (i64_bd hp) (by decide) (by decide)
  have hp2 := fun w' => picked_any ticks 40 w' (i64_bd ht) (by decide) (by decide)
  have hb1 := pk_bd p 6 (by decide)
  have hb2 := pk_bd ticks 40 (by decide)
  obtain ⟨P0, eP0⟩ : ∃ R : Nat, (R : Int) = pk p 6 := ⟨(pk p 6).toNat, by omega⟩
  obtain ⟨n, en⟩ : ∃ R : Nat, (R : Int) = pk ticks 40 := ⟨(pk ticks 40).toNat, by omega⟩
  rw [← eP0] at hp1 hb1
  rw [← en] at hp2 hb2
  clear eP0 en
  have hWr : ∀ w', Calls Try.prog 10 #[.agg #[.slice none 0 0, .slice none 0 0, .slice none 0 0, .slice none 0 0], .agg #[.int .i64 0, .int .i64 1], .int .i64 3, .int .i64 4, .int .i64 1] w' fun e w'' => ∃ r : SV, e = .returned (.tuple #[r.val, .int .i64 0]) ∧ OwnStore w'' w'.heap.size r ∧ r.data = oneS 0 ∧ Below w'.heap.size w' w'' := fun w' =>
    (write_own SV.nil (0, 1) 3 4 1 w' (isStore_nil _) (fun t h => by simp [SV.nil] at h) (by decide)).mono fun e w'' ⟨r, q1, q2, q3, q4⟩ => ⟨r, by rw [q1]; rfl, q2, by rw [q3]; rfl, q4⟩
  obtain ⟨P, eP⟩ : ∃ P : Nat, P = 1 + P0 := ⟨_, rfl⟩
  have hP1 : 1 ≤ P := by omega
  have hP6 : P ≤ 6 := by omega
  have ePi : (1 : Int) + (P0 : Int) = (P : Int) := by omega
  have HAG : Hid (∀ (r : SV) (a : Nat) (w' : World), OwnStore w' w.heap.size r → r.data = oneS (a : Int) → a < 6 → Calls Try.prog 11 #[r.val, .int .i64 (P : Int)] w' fun e w'' => ∃ (q : SV) (ta : Option Addr) (tc : Nat), e = .returned (.tuple #[q.val, .slice ta (if P ≤ a + 1 then 1 else 0) tc, .int .i64 0]) ∧ OwnStore w'' w'.heap.size q ∧ q.data = oneS ((if P ≤ a + 1 then 0 else a + 1 : Nat) : Int) ∧ Below w'.heap.size w' w'') := by
    intro r a w' ho hd ha
    obtain ⟨e1, e2, e3, e4⟩ := one_parts hd
    have hS := ho.isStore
    have hol : r.ol = 0 := by have := hS.over.1; rw [e4] at this; simpa using this.symm
    refine (age_any_own r (P : Int) w' hS (by rw [e4]; simp) (by rw [hol]; decide)).mono fun e w'' ⟨q, ta, tc, q1, q2, q3, q4, q5⟩ => ?_
    obtain ⟨y1, y2, y3⟩ := one_age hd (by omega) (by omega) (p := (P : Int)) (by omega) (by omega)
    refine ⟨q, ta, tc, ?_, q2, ?_, q5⟩
    · rw [q1, y1, y3]
      by_cases hc : P ≤ a + 1
      · rw [if_pos (by omega), if_pos hc]; rfl
      · rw [if_neg (by omega), if_neg hc]; rfl
    · rw [q3, y2]
      by_cases hc : P ≤ a + 1
      · rw [if_pos (by omega), if_pos hc]; rfl
      · rw [if_neg (by omega), if_neg hc]; rfl
  have hw1 : IntKind.i64.wrap (1 + (P0 : Int)) = (P : Int) := by rw [wrap_in (by omega) (by omega)]; exact ePi
  clear eP ePi hb1
  go_enter Try.func3, Try.ntmps3
  have tok : True := trivial
  go_upto_region 4 with (first
    | (go_at_call 9; clear tok; refine (hp1 _).mono ?_; rintro e u ⟨rfl, hu⟩; rw [hu]; clear hu)
    | (go_at_call 9; refine (hp2 _).mono ?_; rintro e u ⟨rfl, hu⟩; rw [hu]; clear hu)
    | (go_at_call 10; refine (hWr _).mono ?_; rintro e w1 ⟨⟨a0, n0, u0, a1, n1, u1, a2, n2, u2, a3, n3, u3, xi, xl, xd, xo⟩, rfl, hown, hdat, hbw⟩; simp only [SV.val]))
  obtain ⟨X, hX⟩ : ∃ X : World, X = w1.alloc (.cells #[.slice a0 n0 u0, .slice a1 n1 u1, .slice a2 n2 u2, .slice a3 n3 u3] 28) := ⟨_, rfl⟩
  have bX : Below w1.heap.size w1 X := by rw [hX]; exact (Below.refl _ _).alloc (Nat.le_refl _) _
  have bx : BoxN X w1.heap.size 4 [.slice a0 n0 u0, .slice a1 n1 u1, .slice a2 n2 u2, .slice a3 n3 u3] := by rw [hX]; exact boxn_new w1 #[.slice a0 n0 u0, .slice a1 n1 u1, .slice a2 n2 u2, .slice a3 n3 u3] 28 4 rfl
  have hO0 := hown.below bX
  have off0 := Off.of_lt hown (Nat.le_refl _)
  have hbX : Below w.heap.size w X := hbw.trans (bX.mono hbw.size)
  rw [← hX]
  obtain ⟨m, em⟩ : ∃ m, m = w1.heap.size := ⟨_, rfl⟩
  have hmw : w.heap.size ≤ m := by rw [em]; exact hbw.size
  rw [← em] at bx off0 ⊢
  clear hX em hown bX hbw
  clear w1
  go_wp2
  go_loopw [9, 10, 11, 12, 13] (fun s9 s10 _ _ _ wr => ∃ (k : Nat) (r : SV), s9 = .int .i64 ((k / P : Nat) : Int) ∧ s10 = .int .i64 (k : Int) ∧ k ≤ n ∧ r.data = oneS ((k % P : Nat) : Int) ∧ OwnStore wr w.heap.size r ∧ Off r m ∧ BoxN wr m 4 r.box ∧ Below w.heap.size w wr) (fun _ s10 _ _ _ _ => n - (intOf s10).toNat)
  case atStart => exact ⟨0, ⟨a0, n0, u0, a1, n1, u1, a2, n2, u2, a3, n3, u3, xi, xl, xd, xo⟩, by simp, rfl, Nat.zero_le _, by simpa using hdat, hO0, off0, bx, hbX⟩
  case round =>
    clear hO0 off0 bx hbX hdat hWr
    obtain ⟨k, ⟨a0, n0, u0, a1, n1, u1, a2, n2, u2, a3, n3, u3, xi, xl, xd, xo⟩, rfl, rfl, hk, hd, hO, hoff, hbx, hb⟩ := hrel
    simp only [SV.box] at hbx
    have x0 := (hbx.c 0 (by decide)).1
    have x1 := (hbx.c 1 (by decide)).1
    have x2 := (hbx.c 2 (by decide)).1
    have x3 := (hbx.c 3 (by decide)).1
    simp only [List.getD_cons_zero, List.getD_cons_succ] at x0 x1 x2 x3
    have bxl := hbx.lt
    obtain ⟨Q, eQ⟩ : ∃ Q, Q = k / P := ⟨_, rfl⟩
    obtain ⟨R, eR⟩ : ∃ R, R = k % P := ⟨_, rfl⟩
    have hQk : Q ≤ k := by rw [eQ]; exact Nat.div_le_self _ _
    have hRP : R < P := by rw [eR]; exact Nat.mod_lt _ hP1
    have HQ : Hid (k / P = Q) := eQ.symm
    have HR : Hid (k % P = R) := eR.symm
    rw [← eR] at hd
    rw [← eQ]
    clear eQ eR
    have hn40 : n < 40 := by omega
    by_cases hlt : k < n
    · have hlt' : (k : Int) < (n : Int) := by omega
      have hA := HAG.out ⟨a0, n0, u0, a1, n1, u1, a2, n2, u2, a3, n3, u3, xi, xl, xd, xo⟩ R wr hO hd (by omega)
      simp only [SV.val] at hA
      have hw2 : IntKind.i64.wrap ((Q : Int) + 1) = (Q : Int) + 1 := by apply wrap_in <;> omega
      by_cases hc : P ≤ R + 1
      ·
        rw [if_pos hc, if_pos hc] at hA
        have HN : Hid ((k + 1) % P = 0 ∧ (k + 1) / P = Q + 1) := by have hs := (step_mod (k := k) hP1 hP6).1 (by rw [HR.out]; exact hc); rw [HQ.out] at hs; exact hs
        go_upto_region 9 with (go_at_call 11; refine hA.mono ?_; rintro e w2 ⟨⟨b0, m0, v0, b1, m1, v1, b2, m2, v2, b3, m3, v3, yi, yl, yd, yo⟩, ta, tc, rfl, hO2, hd2, hb2⟩; simp only [])
        obtain ⟨Y, hY⟩ : ∃ Y : World, Y = w2.alloc (.cells #[.slice b0 m0 v0, .slice b1 m1 v1, .slice b2 m2 v2, .slice b3 m3 v3] 28) := ⟨_, rfl⟩
        have bY : Below w2.heap.size w2 Y := by rw [hY]; exact (Below.refl _ _).alloc (Nat.le_refl _) _
        have by' : BoxN Y w2.heap.size 4 [.slice b0 m0 v0, .slice b1 m1 v1, .slice b2 m2 v2, .slice b3 m3 v3] := by rw [hY]; exact boxn_new w2 #[.slice b0 m0 v0, .slice b1 m1 v1, .slice b2 m2 v2, .slice b3 m3 v3] 28 4 rfl
        have hbwY := hb2.trans (bY.mono hb2.size)
        have bmY := hbx.below hbwY hbx.lt
        have hOY := hO2.below bY
        rw [← hY]
        clear hY x0 x1 x2 x3
        have x0 := (by'.c 0 (by decide)).1
        have x1 := (by'.c 1 (by decide)).1
        have x2 := (by'.c 2 (by decide)).1
        have x3 := (by'.c 3 (by decide)).1
        have y0 := (bmY.c 0 (by decide)).1
        have y1 := (bmY.c 1 (by decide)).1
        have y2 := (bmY.c 2 (by decide)).1
        have y3 := (bmY.c 3 (by decide)).1
        have f0 := (bmY.c 0 (by decide)).2
        have f1 := (bmY.c 1 (by decide)).2
        have f2 := (bmY.c 2 (by decide)).2
        have f3 := (bmY.c 3 (by decide)).2
        simp only [List.getD_cons_zero, List.getD_cons_succ] at x0 x1 x2 x3 y0 y1 y2 y3
        have byl := by'.lt
        have bml := bmY.lt
        obtain ⟨Z, hZ⟩ : ∃ Z : World, Z = (((Y.setCell ⟨m, 0, none⟩ (.slice b0 m0 v0)).setCell ⟨m, 1, none⟩ (.slice b1 m1 v1)).setCell ⟨m, 2, none⟩ (.slice b2 m2 v2)).setCell ⟨m, 3, none⟩ (.slice b3 m3 v3) := ⟨_, rfl⟩
        have hOZ : OwnStore Z wr.heap.size ⟨b0, m0, v0, b1, m1, v1, b2, m2, v2, b3, m3, v3, yi, yl, yd, yo⟩ := by rw [hZ]; exact hOY.four hbx.lt _ _ _ _
        have bZ : BoxN Z m 4 [.slice b0 m0 v0, .slice b1 m1 v1, .slice b2 m2 v2, .slice b3 m3 v3] := by rw [hZ]; exact (((bmY.set 0 (by decide) _).set 1 (by decide) _).set 2 (by decide) _).set 3 (by decide) _
        have hbZ : Below w.heap.size w Z := by rw [hZ]; exact below_four (hb.trans (hbwY.mono hb.size)) hmw _ _ _ _
        go_upto_region 12 with (fail)
        rw [← hZ]
        clear hZ x0 x1 x2 x3 y0 y1 y2 y3 f0 f1 f2 f3 byl bml
        go_wp2
        go_roundw
        case rel =>
          obtain ⟨z1, z2⟩ := HN.out
          exact ⟨k + 1, ⟨b0, m0, v0, b1, m1, v1, b2, m2, v2, b3, m3, v3, yi, yl, yd, yo⟩, by rw [z2]; simp, by go_num, by omega, by rw [z1]; exact hd2, hOZ.base hb.size, Off.of_ge hOZ hbx.lt, bZ, hbZ⟩
        case measure => simp [intOf]; omega
      ·
        rw [if_neg hc, if_neg hc] at hA
        have HN : Hid ((k + 1) % P = R + 1 ∧ (k + 1) / P = Q) := by have hs := (step_mod (k := k) hP1 hP6).2 (by rw [HR.out]; exact hc); rw [HQ.out, HR.out] at hs; exact hs
        go_upto_region 9 with (go_at_call 11; refine hA.mono ?_; rintro e w2 ⟨⟨b0, m0, v0, b1, m1, v1, b2, m2, v2, b3, m3, v3, yi, yl, yd, yo⟩, ta, tc, rfl, hO2, hd2, hb2⟩; simp only [])
        obtain ⟨Y, hY⟩ : ∃ Y : World, Y = w2.alloc (.cells #[.slice b0 m0 v0, .slice b1 m1 v1, .slice b2 m2 v2, .slice b3 m3 v3] 28) := ⟨_, rfl⟩
        have bY : Below w2.heap.size w2 Y := by rw [hY]; exact (Below.refl _ _).alloc (Nat.le_refl _) _
        have by' : BoxN Y w2.heap.size 4 [.slice b0 m0 v0, .slice b1 m1 v1, .slice b2 m2 v2, .slice b3 m3 v3] := by rw [hY]; exact boxn_new w2 #[.slice b0 m0 v0, .slice b1 m1 v1, .slice b2 m2 v2, .slice b3 m3 v3] 28 4 rfl
        have hbwY := hb2.trans (bY.mono hb2.size)
        have bmY := hbx.below hbwY hbx.lt
        have hOY := hO2.below bY
        rw [← hY]
        clear hY x0 x1 x2 x3
        have x0 := (by'.c 0 (by decide)).1
        have x1 := (by'.c 1 (by decide)).1
        have x2 := (by'.c 2 (by decide)).1
        have x3 := (by'.c 3 (by decide)).1
        have y0 := (bmY.c 0 (by decide)).1
        have y1 := (bmY.c 1 (by decide)).1
        have y2 := (bmY.c 2 (by decide)).1
        have y3 := (bmY.c 3 (by decide)).1
        have f0 := (bmY.c 0 (by decide)).2
        have f1 := (bmY.c 1 (by decide)).2
        have f2 := (bmY.c 2 (by decide)).2
        have f3 := (bmY.c 3 (by decide)).2
        simp only [List.getD_cons_zero, List.getD_cons_succ] at x0 x1 x2 x3 y0 y1 y2 y3
        have byl := by'.lt
        have bml := bmY.lt
        obtain ⟨Z, hZ⟩ : ∃ Z : World, Z = (((Y.setCell ⟨m, 0, none⟩ (.slice b0 m0 v0)).setCell ⟨m, 1, none⟩ (.slice b1 m1 v1)).setCell ⟨m, 2, none⟩ (.slice b2 m2 v2)).setCell ⟨m, 3, none⟩ (.slice b3 m3 v3) := ⟨_, rfl⟩
        have hOZ : OwnStore Z wr.heap.size ⟨b0, m0, v0, b1, m1, v1, b2, m2, v2, b3, m3, v3, yi, yl, yd, yo⟩ := by rw [hZ]; exact hOY.four hbx.lt _ _ _ _
        have bZ : BoxN Z m 4 [.slice b0 m0 v0, .slice b1 m1 v1, .slice b2 m2 v2, .slice b3 m3 v3] := by rw [hZ]; exact (((bmY.set 0 (by decide) _).set 1 (by decide) _).set 2 (by decide) _).set 3 (by decide) _
        have hbZ : Below w.heap.size w Z := by rw [hZ]; exact below_four (hb.trans (hbwY.mono hb.size)) hmw _ _ _ _
        go_upto_region 12 with (fail)
        rw [← hZ]
        clear hZ x0 x1 x2 x3 y0 y1 y2 y3 f0 f1 f2 f3 byl bml
        go_wp2
        go_roundw
        case rel =>
          obtain ⟨z1, z2⟩ := HN.out
          exact ⟨k + 1, ⟨b0, m0, v0, b1, m1, v1, b2, m2, v2, b3, m3, v3, yi, yl, yd, yo⟩, by rw [z2], by go_num, by omega, by rw [z1]; exact hd2, hOZ.base hb.size, Off.of_ge hOZ hbx.lt, bZ, hbZ⟩
        case measure => simp [intOf]; omega
    · obtain rfl : k = n := by omega
      have htd : IntKind.i64.wrap ((k : Int).tdiv (P : Int)) = (Q : Int) := by
        have : (k : Int).tdiv (P : Int) = ((k / P : Nat) : Int) := rfl
        rw [this, HQ.out]
        apply wrap_in <;> omega
      have htd0 : (k : Int).tdiv (P : Int) = (Q : Int) := by
        have : (k : Int).tdiv (P : Int) = ((k / P : Nat) : Int) := rfl
        rw [this, HQ.out]
      have hdv : (k : Int) / (P : Int) = (Q : Int) := by rw [← HQ.out]; exact (Int.natCast_ediv k P).symm
      have hPz : ¬ ((P : Int) = 0) := by omega
      have hn1 : n2 = 1 := by
        have h1 := hO.isStore.doubts.1
        have h2 := (one_parts hd).2.2.1
        simp only [] at h1 h2
        rw [h2] at h1
        simpa using h1.symm
      subst hn1
      go_wp2
      go_ret
      exact ⟨rfl, hb⟩
end Go.Proofs.Ytapnhpgobdaklaa
