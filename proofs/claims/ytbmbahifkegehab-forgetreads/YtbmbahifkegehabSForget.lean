/- The contracts of store.Forget, and of the functions that it hands on. -/
import Derived.Test.YtbmbahifkegehabSForget0
import Derived.Test.YtbmbahifkegehabSMade
import Derived.Test.YtbmbahifkegehabSCheck
import Derived.Test.YtbmbahifkegehabSOf
import Derived.Test.YtbmbahifkegehabSAgePlain
import Derived.Deep.RegionHeld3
namespace Go.Proofs.Ytbmbahifkegehab.St
open Go.ChangeShapes Go.WideShapes Go.ChangeAt Go.RowKit
set_option linter.unusedVariables false

def rdT (k : LkV) : Bool := !k.write
def noL (ls : List LkV) (d : DbV) : Bool := !(ls.any (ofT d.t))
def zeroD (d : DbV) : DbV := ⟨d.t, 0⟩
def forgetErr (s : SV) : Int := if storeOK s then 0 else 9
def forgetData (s : SV) : PS := if forgetErr s = 0 then ⟨s.items, keep rdT s.locks, (keep (noL (keep rdT s.locks)) s.doubts).map zeroD, s.over⟩ else PS.nil

set_option maxHeartbeats 1000000 in
theorem forget1_asks (w : World) (row : Option Nat) : AsksG 43 #[] LkV.val rdT row w := by
  refine ⟨enters_of Try.func43 (by kernel_rfl) rfl, fun x w' hb => ?_⟩
  obtain ⟨⟨site, num⟩, key, write, value, ask⟩ := x
  simp only [LkV.val] at *
  have hA : ∀ o, Below w'.heap.size w' (w'.alloc o) := fun o => (Below.refl _ _).alloc (Nat.le_refl _) _
  show Calls Try.prog 43 #[_] w' _
  go_enter Try.func43, Try.ntmps43
  go_wp2
  go_ret
  exact ⟨rfl, hA _⟩

set_option maxRecDepth 100000 in
set_option maxHeartbeats 2000000 in
theorem forget2_asks (m g : Nat) (la : Option Addr) (ll lc : Nat) (ls : List LkV) (w : World) (hm : w.cell? ⟨m, 1, none⟩ = some (.slice la ll lc)) (zm : m < w.heap.size) (hne : m ≠ g) (hL : IsLocks w la ll lc ls) (hap : ∀ b off, la = some ⟨b, off, none⟩ → b ≠ g) :
    AsksG 44 #[.pointer (some ⟨m, 0, none⟩)] DbV.val (noL ls) (some g) w := by
  refine ⟨enters_of Try.func44 (by kernel_rfl) rfl, fun x w' hg => ?_⟩
  have hm' : w'.cell? ⟨m, 1, none⟩ = some (.slice la ll lc) := by
    rw [World.cell?_of_block (a := ⟨m, 1, none⟩) (hg.block m zm (by simpa using hne))]
    exact hm
  have zm' : m < w'.heap.size := Nat.lt_of_lt_of_le zm hg.size
  have hL' : IsLocks w' la ll lc ls := by
    obtain ⟨r1, r2, r3, r4, r5⟩ := hL
    refine ⟨r1, r2, r3, r4, fun hp => ?_⟩
    obtain ⟨b, off, e, hl, hc⟩ := r5 hp
    refine ⟨b, off, e, Nat.lt_of_lt_of_le hl hg.size, fun i hi q hq => ?_⟩
    rw [World.cell?_of_block (a := ⟨b, off + i * 6 + q, none⟩) (hg.block b hl (by simpa using hap b off e))]
    exact hc i hi q hq
  clear hg hm zm hL hap hne
  have hOf := fun w' => of_any x.t w'
  have hCn := fun fn cps w' h1 h2 => containsLock_any fn cps (ofT x.t) la ll lc ls w' h1 h2
  obtain ⟨N, eN⟩ : ∃ N, N = ls.any (ofT x.t) := ⟨_, rfl⟩
  have HN : Hid (noL ls x = !N) := by rw [eN]; rfl
  rw [← eN] at hCn
  obtain ⟨R, eR⟩ : ∃ R, R = noL ls x := ⟨_, rfl⟩
  rw [← eR] at HN ⊢
  clear eN eR
  obtain ⟨⟨site, num⟩, age⟩ := x
  simp only [DbV.val] at *
  show Calls Try.prog 44 #[_, .pointer (some ⟨m, 0, none⟩)] w' _
  obtain ⟨W, hW⟩ : ∃ W : World, W = w'.alloc (.cells #[.int .i64 site, .int .i64 num, .int .i64 age] 63) := ⟨_, rfl⟩
  have hB : Below w'.heap.size w' W := by rw [hW]; exact (Below.refl _ _).alloc (Nat.le_refl _) _
  have bx := boxn_new w' #[.int .i64 site, .int .i64 num, .int .i64 age] 63 3 rfl
  rw [← hW] at bx
  have KA : Hid (∀ U, Below W.heap.size W U → U.cell? ⟨m, 1, none⟩ = some (.slice la ll lc) ∧ U.cell? ⟨w'.heap.size, 0, none⟩ = some (.int .i64 site) ∧ U.cell? ⟨w'.heap.size, 1, none⟩ = some (.int .i64 num)) := fun U hU => by
    have h2 := hB.trans (hU.mono hB.size)
    have hp := bx.below hU bx.lt
    exact ⟨(h2.cell (p := ⟨m, 1, none⟩) zm').trans hm', (hp.c 0 (by decide)).1, (hp.c 1 (by decide)).1⟩
  have HLk : Hid (∀ U, Below W.heap.size W U → IsLocks U la ll lc ls) := fun U hU => hL'.below (hB.trans (hU.mono hB.size))
  clear bx hm' hL'
  go_enter Try.func44, Try.ntmps44
  go_upto_region 1 with (fail)
  rw [← hW]
  clear hW
  have hD : Below W.heap.size W W.drew := (Below.refl _ _).drew
  go_region_held3 (fun U => U.cell? ⟨m, 1, none⟩ = some (.slice la ll lc) ∧ U.cell? ⟨w'.heap.size, 0, none⟩ = some (.int .i64 site) ∧ U.cell? ⟨w'.heap.size, 1, none⟩ = some (.int .i64 num))
    (with_reducible first | exact KA.out _ hb3 | exact KA.out _ hb2 | exact KA.out _ hD | exact KA.out _ (Below.refl _ _))
    (first
      | ((go_at_call 23; refine (hOf _).mono ?_; rintro e w2 ⟨bb, rfl, hAs, hb2'⟩; have hb2 : Below W.heap.size W w2 := hD.trans (hb2'.mono hD.size); have hTT := HLk.out _ hb2))
      | ((go_at_call 41; refine (hCn _ _ _ hTT hAs).mono ?_; rintro e w3 ⟨rfl, hb3'⟩; have hb3 : Below W.heap.size W w3 := hb2.trans (hb3'.mono hb2.size))))
  all_goals
    go_wp2
    go_ret
    exact ⟨by rw [HN.out]; rfl, hB.trans (hb3.mono hB.size)⟩

set_option maxRecDepth 100000 in
set_option maxHeartbeats 8000000 in
theorem forget_own (s : SV) (w : World) (h : IsStore w s) (hwf : ∀ t ∈ s.over, TxWf t) (h4 : s.ol * 16 ≤ 140737488351232) :
    Calls Try.prog 17 #[s.val] w fun e w' => ∃ r : SV, e = .returned (.tuple #[r.val, .int .i64 (forgetErr s)]) ∧ OwnStore w' w.heap.size r ∧ r.data = forgetData s ∧ Below w.heap.size w w' := by
  have hC := fun w' h1 => check_any s w' h1 hwf
  have hOwn := fun w' h1 k1 k2 k3 => own_any s w' h1 k1 k2 k3 h4
  have hok : storeOK s = true → s.il ≤ 8 ∧ s.ll ≤ 24 ∧ s.dl ≤ 24 := fun e => ok_sizes e h
  obtain ⟨E, e0⟩ : ∃ R : Int, R = forgetErr s := ⟨_, rfl⟩
  obtain ⟨D, e1⟩ : ∃ R, R = forgetData s := ⟨_, rfl⟩
  obtain ⟨S, e2⟩ : ∃ R, R = storeOK s := ⟨_, rfl⟩
  have eE : Hid (E = if S then 0 else 9) := by rw [e2]; exact e0
  obtain ⟨KL, e3⟩ : ∃ R, R = keep rdT s.locks := ⟨_, rfl⟩
  obtain ⟨KDl, e4⟩ : ∃ R, R = keep (noL KL) s.doubts := ⟨_, rfl⟩
  have eD : Hid (D = if E = 0 then ⟨s.items, KL, KDl.map zeroD, s.over⟩ else PS.nil) := by rw [e0, e4, e3]; exact e1
  have HKL : Hid (KL = keep rdT s.locks) := e3
  have HKD : Hid (KDl = keep (noL KL) s.doubts) := e4
  rw [← e0, ← e1]
  rw [← e2] at hC hok
  clear e0 e1 e2 e3 e4
  have hh := h
  obtain ⟨ia, il, ic, la, ll, lc, da, dl, dc, oa, ol, oc, items, locks, doubts, over⟩ := s
  simp only [SV.val] at *
  obtain ⟨W, hW⟩ : ∃ W : World, W = ((w.alloc (.cells #[.slice ia il ic, .slice la ll lc, .slice da dl dc, .slice oa ol oc] 28)).alloc (.cells #[.slice none 0 0, .slice none 0 0, .slice none 0 0, .slice none 0 0] 28)) := ⟨_, rfl⟩
  have hB : Below w.heap.size w W := by rw [hW]; exact (((Below.refl _ _).alloc (Nat.le_refl _) _).alloc (by simp) _)
  have zW : W.heap.size = w.heap.size + 2 := by rw [hW]; simp
  have zb0 : w.heap.size < W.heap.size := by omega
  have zb1 : w.heap.size + 1 < W.heap.size := by omega
  have HZW : Hid (W.heap.size = w.heap.size + 2) := zW
  clear zW
  have c0 : W.cell? ⟨w.heap.size, 0, none⟩ = some (.slice ia il ic) := by rw [hW]; go_simp
  have c1 : W.cell? ⟨w.heap.size, 1, none⟩ = some (.slice la ll lc) := by rw [hW]; go_simp
  have c2 : W.cell? ⟨w.heap.size, 2, none⟩ = some (.slice da dl dc) := by rw [hW]; go_simp
  have c3 : W.cell? ⟨w.heap.size, 3, none⟩ = some (.slice oa ol oc) := by rw [hW]; go_simp
  have r0 : W.cell? ⟨w.heap.size + 1, 0, none⟩ = some (.slice none 0 0) := by rw [hW]; go_simp
  have r1 : W.cell? ⟨w.heap.size + 1, 1, none⟩ = some (.slice none 0 0) := by rw [hW]; go_simp
  have r2 : W.cell? ⟨w.heap.size + 1, 2, none⟩ = some (.slice none 0 0) := by rw [hW]; go_simp
  have r3 : W.cell? ⟨w.heap.size + 1, 3, none⟩ = some (.slice none 0 0) := by rw [hW]; go_simp
  have rf0 : W.frozen? ⟨w.heap.size + 1, 0, none⟩ = false := by rw [hW]; go_simp
  have rf1 : W.frozen? ⟨w.heap.size + 1, 1, none⟩ = false := by rw [hW]; go_simp
  have rf2 : W.frozen? ⟨w.heap.size + 1, 2, none⟩ = false := by rw [hW]; go_simp
  have rf3 : W.frozen? ⟨w.heap.size + 1, 3, none⟩ = false := by rw [hW]; go_simp
  have rz : w.heap.size + 1 < W.heap.size := zb1
  have KA : Hid (∀ U : World, Below W.heap.size W U → U.cell? ⟨w.heap.size, 0, none⟩ = some (.slice ia il ic) ∧ U.cell? ⟨w.heap.size, 1, none⟩ = some (.slice la ll lc) ∧ U.cell? ⟨w.heap.size, 2, none⟩ = some (.slice da dl dc) ∧ U.cell? ⟨w.heap.size, 3, none⟩ = some (.slice oa ol oc) ∧ U.cell? ⟨w.heap.size + 1, 0, none⟩ = some (.slice none 0 0) ∧ U.cell? ⟨w.heap.size + 1, 1, none⟩ = some (.slice none 0 0) ∧ U.cell? ⟨w.heap.size + 1, 2, none⟩ = some (.slice none 0 0) ∧ U.cell? ⟨w.heap.size + 1, 3, none⟩ = some (.slice none 0 0) ∧ U.frozen? ⟨w.heap.size + 1, 0, none⟩ = false ∧ U.frozen? ⟨w.heap.size + 1, 1, none⟩ = false ∧ U.frozen? ⟨w.heap.size + 1, 2, none⟩ = false ∧ U.frozen? ⟨w.heap.size + 1, 3, none⟩ = false ∧ w.heap.size + 1 < U.heap.size) := fun U hU => ⟨(hU.cell (p := ⟨w.heap.size, 0, none⟩) zb0).trans c0, (hU.cell (p := ⟨w.heap.size, 1, none⟩) zb0).trans c1, (hU.cell (p := ⟨w.heap.size, 2, none⟩) zb0).trans c2, (hU.cell (p := ⟨w.heap.size, 3, none⟩) zb0).trans c3, (hU.cell (p := ⟨w.heap.size + 1, 0, none⟩) zb1).trans r0, (hU.cell (p := ⟨w.heap.size + 1, 1, none⟩) zb1).trans r1, (hU.cell (p := ⟨w.heap.size + 1, 2, none⟩) zb1).trans r2, (hU.cell (p := ⟨w.heap.size + 1, 3, none⟩) zb1).trans r3, (hU.frozen (p := ⟨w.heap.size + 1, 0, none⟩) zb1).trans rf0, (hU.frozen (p := ⟨w.heap.size + 1, 1, none⟩) zb1).trans rf1, (hU.frozen (p := ⟨w.heap.size + 1, 2, none⟩) zb1).trans rf2, (hU.frozen (p := ⟨w.heap.size + 1, 3, none⟩) zb1).trans rf3, Nat.lt_of_lt_of_le zb1 hU.size⟩
  have hSW := hh.below hB
  clear hh h
  go_enter Try.func17, Try.ntmps17
  go_upto_region 1 with (fail)
  rw [← hW]
  clear hW
  cases S with
  | false =>
    try simp only [Bool.false_eq_true, ↓reduceIte] at hC
    have hE : E = 9 := by rw [eE.out]; rfl
    have hD : D = PS.nil := by rw [eD.out, hE]; rfl
    go_wp2_with (go_at_call 14; refine (hC _ hSW).mono ?_; rintro e w1 ⟨rfl, hb1⟩; clear c0 c1 c2 c3 r0 r1 r2 r3 rf0 rf1 rf2 rf3 rz; obtain ⟨c0, c1, c2, c3, r0, r1, r2, r3, rf0, rf1, rf2, rf3, rz⟩ := KA.out _ hb1)
    refine bodyPost_ret (v := .tuple #[.agg #[.slice none 0 0, .slice none 0 0, .slice none 0 0, .slice none 0 0], .int .i64 9]) (by simp [results, Try.results17, go_sem, r0, r1, r2, r3]) rfl ?_
    rw [hD]
    try rw [hE]
    exact ⟨SV.nil, rfl, ownStore_nil _ _, rfl, below_four (hB.trans (hb1.mono hB.size)) (by omega) (.slice none 0 0) (.slice none 0 0) (.slice none 0 0) (.slice none 0 0)⟩
  | true =>
    try simp only [↓reduceIte] at hC
    obtain ⟨q1, q2, q3⟩ := hok rfl
    clear hok
    have hE : E = 0 := by rw [eE.out]; rfl
    have yD : Hid (D = ⟨items, KL, KDl.map zeroD, over⟩) := by show _ = _; rw [eD.out, if_pos hE]
    go_upto_region 5 with (first
      | (go_at_call 14; refine (hC _ hSW).mono ?_; rintro e w1 ⟨rfl, hb1⟩; clear c0 c1 c2 c3 r0 r1 r2 r3 rf0 rf1 rf2 rf3 rz; obtain ⟨c0, c1, c2, c3, r0, r1, r2, r3, rf0, rf1, rf2, rf3, rz⟩ := KA.out _ hb1; have hS1 := hSW.below hb1)
      | (go_at_call 19; refine (hOwn _ hS1 (by omega) (by omega) (by omega)).mono ?_; rintro e w2 ⟨⟨a0, n0, u0, a1, n1, u1, a2, n2, u2, a3, n3, u3, items', locks', doubts', over'⟩, rfl, hsame, hown, hb2'⟩; obtain ⟨v1, v2, v3, v4, v5, v6, v7, v8⟩ := hsame; simp only [] at v1 v2 v3 v4 v5 v6 v7 v8; obtain rfl := v1.symm; obtain rfl := v2.symm; obtain rfl := v3.symm; obtain rfl := v4.symm; obtain rfl := v5.symm; obtain rfl := v6.symm; obtain rfl := v7.symm; obtain rfl := v8.symm; simp only []; have hb2 : Below W.heap.size W w2 := hb1.trans (hb2'.mono hb1.size)))
    obtain ⟨X, hX⟩ : ∃ X : World, X = w2.alloc (.cells #[.slice a0 il u0, .slice a1 ll u1, .slice a2 dl u2, .slice a3 ol u3] 28) := ⟨_, rfl⟩
    have hM0 : Made W X W.heap.size w2.heap.size ⟨a0, il, u0, a1, ll, u1, a2, dl, u2, a3, ol, u3, items, locks, doubts, over⟩ := by
      have hb3 : Below w2.heap.size w2 X := by rw [hX]; exact (Below.refl _ _).alloc (Nat.le_refl _) _
      refine Made.new (hown.base hb1.size) hb2 hb3 (Nat.le_refl _) ?_ hb2.size
      rw [hX]
      exact boxn_new w2 #[.slice a0 il u0, .slice a1 ll u1, .slice a2 dl u2, .slice a3 ol u3] 28 4 rfl
    rw [← hX]
    obtain ⟨m, em⟩ : ∃ m, m = w2.heap.size := ⟨_, rfl⟩
    have zm : W.heap.size ≤ m := by rw [em]; exact hb2.size
    rw [← em] at hM0 ⊢
    clear hX hown em c0 c1 c2 c3 r0 r1 r2 r3 rf0 rf1 rf2 rf3 rz hS1 hC hOwn hb2 hb2' hb1
    clear w2
    obtain ⟨mz, x0, x1, x2, x3, g0, g1, g2, g3⟩ := hM0.cells
    simp only [] at x0 x1 x2 x3
    have hD1 := deleteLock_any 43 #[] rdT W.heap.size a1 ll u1 locks X hM0.own.locks (forget1_asks X _)
    rw [← HKL.out] at hD1
    go_upto_region 6 with (go_at_call 22; refine hD1.mono ?_; rintro e w3 ⟨rfl, own3, gr3⟩; obtain ⟨cl3, fz3, hM3⟩ := hM0.put_locks (Below.refl _ _) gr3 own3 (at_same _ _ _ _ _); simp only [] at cl3)
    obtain ⟨X3, hX3⟩ : ∃ X3 : World, X3 = w3.setCell ⟨m, 1, none⟩ (.slice a1 KL.length u1) := ⟨_, rfl⟩
    rw [← hX3] at hM3 ⊢
    clear hX3 cl3 fz3 own3 gr3 x0 x1 x2 x3 g0 g1 g2 g3 mz hM0 hD1
    clear w3
    obtain ⟨mz, x0, x1, x2, x3, g0, g1, g2, g3⟩ := hM3.cells
    simp only [] at x0 x1 x2 x3
    have hD2 : Calls Try.prog 24 #[.slice a2 dl u2, .func (.func 44) #[] #[.pointer (some ⟨m, 0, none⟩)]] X3 fun e w' => e = .returned (.slice a2 (keep (noL KL) doubts).length u2) ∧ w'.ownsRow W.heap.size 63 3 (.slice a2 (keep (noL KL) doubts).length u2) (keep (noL KL) doubts).length (flat DbV.cells (keep (noL KL) doubts)) ∧ X3.grownBy w' (Value.slice a2 dl u2).ownBlock := by
      refine deleteDoubt_any 44 #[.pointer (some ⟨m, 0, none⟩)] (noL KL) W.heap.size a2 dl u2 doubts X3 hM3.own.doubts ?_
      cases ea : a2 with
      | none =>
        refine forget2_none ?_
        exact fun g => forget2_asks m (X3.heap.size + g) a1 KL.length u1 KL X3 x1 mz (by omega) hM3.own.isStore.locks (fun b off e => by have := (own_isRow lk_len hM3.own.locks (own_len lk_len (by decide) hM3.own.locks)).2 b off e; omega)
      | some ad =>
        have ho := hM3.own.doubts
        simp only [] at ho
        rw [ea] at ho
        obtain ⟨g, rfl⟩ : ∃ g, ad = ⟨g, 0, none⟩ := by
          rcases ho.2 with ⟨hv, _⟩ | ⟨g', cap', cur, hv, _⟩
          · simp at hv
          · simp at hv; exact ⟨g', hv.1⟩
        refine forget2_asks m g a1 KL.length u1 KL X3 x1 mz ?_ hM3.own.isStore.locks ?_
        · intro e2
          exact hM3.far_d (by simp only [ea]; rw [e2]; rfl)
        · intro b off e e2
          have h1 := hM3.own.ap_ld
          simp only [] at h1
          rw [ea] at h1
          obtain ⟨off', rfl⟩ : ∃ o', a1 = some ⟨b, o', none⟩ := ⟨off, e⟩
          exact h1 g (by rw [← e2]; exact own_block hM3.own.locks) rfl
    rw [← HKD.out] at hD2
    go_upto_region 7 with (go_at_call 24; refine hD2.mono ?_; rintro e w4 ⟨rfl, own4, gr4⟩; obtain ⟨cl4, fz4, hM4⟩ := hM3.put_doubts (Below.refl _ _) gr4 own4 (at_same _ _ _ _ _); simp only [] at cl4)
    obtain ⟨X4, hX4⟩ : ∃ X4 : World, X4 = w4.setCell ⟨m, 2, none⟩ (.slice a2 KDl.length u2) := ⟨_, rfl⟩
    rw [← hX4] at hM4 ⊢
    clear hX4 cl4 fz4 own4 gr4 x0 x1 x2 x3 g0 g1 g2 g3 mz hM3 hD2
    clear w4
    have HLd : Hid (KDl.length ≤ 24) := by
      show _ ≤ 24
      rw [HKD.out]
      have h1 : (keep (noL KL) doubts).length ≤ doubts.length := List.length_filter_le ..
      have h2 := hSW.doubts.1
      simp only [] at h2
      omega
    have hLd := HLd.out
    obtain ⟨mz, x0, x1, x2, x3, g0, g1, g2, g3⟩ := hM4.cells
    simp only [] at x0 x1 x2 x3
    go_wp2
    clear x0 x1 x2 x3 g0 g1 g2 g3 mz
    go_loopw [27, 6] (fun i _ wr => ∃ k : Nat, i = .int .i64 (k : Int) ∧ k ≤ KDl.length ∧ Made W wr W.heap.size m ⟨a0, il, u0, a1, KL.length, u1, a2, KDl.length, u2, a3, ol, u3, items, KL, (KDl.take k).map zeroD ++ KDl.drop k, over⟩) (fun i _ _ => KDl.length - (intOf i).toNat)
    case atStart => exact ⟨0, rfl, Nat.zero_le _, hM4⟩
    case round =>
      obtain ⟨k, rfl, hk, hM⟩ := hrel
      obtain ⟨mz, x0, x1, x2, x3, g0, g1, g2, g3⟩ := hM.cells
      simp only [] at x0 x1 x2 x3
      by_cases hlt : k < KDl.length
      · have hlt' : (k : Int) < (KDl.length : Int) := by omega
        obtain ⟨g, off, rfl, _, _⟩ := hM.own.isStore.doubts.2.2.2.2 (by show 0 < KDl.length; omega)
        have HMS : Hid (((KDl.take k).map zeroD ++ KDl.drop k).set k (zeroD (KDl.getD k default)) = (KDl.take (k + 1)).map zeroD ++ KDl.drop (k + 1)) := mid_set _ _ hlt
        have HMG : Hid (((KDl.take k).map zeroD ++ KDl.drop k).getD k default = KDl.getD k default) := mid_get _ _ hlt
        have hM1 := hM.cell_doubts (g := g) (off := off) rfl (i := k) (j := 2) hlt (by decide) (.int .i64 0) (zeroD (KDl.getD k default)) (by simp only []; rw [HMG.out]; rfl)
        obtain ⟨rfl, hCg, hgz, hgm, hcl, _⟩ := hM.one_doubts (g := g) (off := off) rfl hlt default
        simp only [] at hcl hM1
        rw [HMS.out] at hM1
        obtain ⟨v2, e2⟩ := Option.isSome_iff_exists.1 (hcl 2 (by decide)).2.1
        have h2' := (hcl 2 (by decide)).1
        clear hcl
        go_wp2
        go_roundw
        case rel => exact ⟨k + 1, by go_num, by omega, hM1⟩
        case measure => simp [intOf]; omega
      · obtain rfl : KDl.length = k := by omega
        obtain ⟨c0, c1, c2, c3, r0, r1, r2, r3, rf0, rf1, rf2, rf3, rz⟩ := KA.out _ hM.bel
        have HTW : Hid (KDl.take KDl.length = KDl) := List.take_length
        have HDW : Hid (KDl.drop KDl.length = []) := List.drop_length
        rw [HTW.out, HDW.out, List.append_nil] at hM
        go_wp2
        refine bodyPost_ret (v := .tuple #[.agg #[.slice a0 il u0, .slice a1 KL.length u1, .slice a2 KDl.length u2, .slice a3 ol u3], .int .i64 0]) (by simp [results, Try.results17, go_sem, r0, r1, r2, r3]) rfl ?_
        rw [yD.out]
        try rw [hE]
        exact ⟨⟨a0, il, u0, a1, KL.length, u1, a2, KDl.length, u2, a3, ol, u3, items, KL, KDl.map zeroD, over⟩, rfl, (hM.own.four (b := w.heap.size + 1) (by omega) (.slice a0 il u0) (.slice a1 KL.length u1) (.slice a2 KDl.length u2) (.slice a3 ol u3)).base hB.size, rfl, below_four (hB.trans (hM.bel.mono hB.size)) (by omega) (.slice a0 il u0) (.slice a1 KL.length u1) (.slice a2 KDl.length u2) (.slice a3 ol u3)⟩
theorem forget_any (s : SV) (w : World) (h : IsStore w s) (hwf : ∀ t ∈ s.over, TxWf t) (h4 : s.ol * 16 ≤ 140737488351232) :
    Calls Try.prog 17 #[s.val] w fun e w' => ∃ r : SV, e = .returned (.tuple #[r.val, .int .i64 (forgetErr s)]) ∧ IsStore w' r ∧ r.data = forgetData s ∧ Below w.heap.size w w' :=
  (forget_own s w h hwf h4).mono fun e w' ⟨r, q1, q2, q3⟩ => ⟨r, q1, q2.isStore, q3⟩
end Go.Proofs.Ytbmbahifkegehab.St
