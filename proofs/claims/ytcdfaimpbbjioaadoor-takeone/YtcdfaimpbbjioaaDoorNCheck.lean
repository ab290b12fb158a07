/- Contracts of net's place, mayBe and Check: what is on its way may be, or not. -/
import Derived.Test.YtcdfaimpbbjioaaDoorNBase
import Derived.Test.YtcdfaimpbbjioaaDoorWCheckM
import Derived.Test.YtcdfaimpbbjioaaDoorWMay
namespace Go.Proofs.YtcdfaimpbbjioaaDoor.Nt
open Go.ChangeShapes Go.WideShapes Go.ChangeAt Go.RowKit
set_option linter.unusedVariables false

theorem may_sites {s : Int} {ls : List (Int × Int)} {p : Int} {m : MV} (h : msgFault s ls p m = 0) : (0 ≤ m.frm ∧ m.frm ≤ s - 1) ∧ (0 ≤ m.dst ∧ m.dst ≤ s - 1) := by
  obtain ⟨_, _, hr, _⟩ := may_msg h
  simp only [msgRange, Bool.and_eq_true] at hr
  exact ⟨inR_of hr.1.1.1, inR_of hr.1.1.2⟩

theorem place_any (s pp : Int) (a : Option Addr) (len cap : Nat) (f t : Int) (w : World) (h1 : 1 ≤ s) (h2 : s ≤ 4) (hf : 0 ≤ f ∧ f ≤ s - 1) (ht : 0 ≤ t ∧ t ≤ s - 1) :
    Calls Tryd.prog 19 #[.agg #[.int .i64 s, .slice a len cap, .int .i64 pp], .int .i64 f, .int .i64 t] w fun e w' => e = .returned (.int .i64 (f * s + t)) ∧ Below w.heap.size w w' := by
  obtain ⟨b1, b2, b3⟩ := mul_bd h1 h2 hf.1 hf.2
  obtain ⟨q, eq⟩ : ∃ q, q = f * s := ⟨_, rfl⟩
  have k1 : IntKind.i64.wrap (f * s) = q := by rw [eq]; exact wrapI (by omega)
  rw [← eq] at b1 b2 b3 ⊢
  have k2 : IntKind.i64.wrap (q + t) = q + t := wrapI (by omega)
  clear eq
  have hB : Below w.heap.size w (w.alloc (.cells #[.int .i64 s, .slice a len cap, .int .i64 pp] 26)) := (Below.refl _ _).alloc (Nat.le_refl _) _
  go_enter Tryd.func19, Tryd.ntmps19
  go_wp2
  go_ret
  exact ⟨rfl, hB⟩


set_option maxRecDepth 100000 in
set_option maxHeartbeats 4000000 in
theorem mayBe_any (s p : Int) (a : Option Addr) (len cap : Nat) (ls : List (Int × Int)) (at0 : Nat) (la : Option Addr) (ll lc : Nat) (ms : List MV) (w : World) (hcf : cfgFault s ls p = 0) (hat : at0 ≤ 16) (h : IsLabs w a len cap ls) (hL : IsMsgs w la ll lc ms) (hm : HasAt w 0 mHas) (ht : TopsAt w) :
    Calls Tryd.prog 20 #[.agg #[.int .i64 s, .slice a len cap, .int .i64 p], .int .i64 (at0 : Int), .slice la ll lc] w fun e w' => e = .returned (.bool (flOK s ls p at0 ms)) ∧ Below w.heap.size w w' := by
  have hgT : 1 < w.heap.size := World.block_lt_of_cell? w _ ht.1
  have hgM : 0 < w.heap.size := hm.lt (by decide)
  obtain ⟨s1, s4, _⟩ := cfg_zero hcf
  have hln : ms.length = ll := hL.1
  have hmx : ll ≤ maxLen := Nat.le_trans hL.2.1 hL.2.2.1
  unfold maxLen at hmx
  obtain ⟨W, hW⟩ : ∃ W : World, W = w.alloc (.cells #[.int .i64 s, .slice a len cap, .int .i64 p] 26) := ⟨_, rfl⟩
  have hB : Below w.heap.size w W := by rw [hW]; exact (Below.refl _ _).alloc (Nat.le_refl _) _
  have z0 : w.heap.size < W.heap.size := by rw [hW]; simp
  have c0 : W.cell? ⟨w.heap.size, 0, none⟩ = some (.int .i64 s) := by rw [hW]; go_simp
  have c1 : W.cell? ⟨w.heap.size, 1, none⟩ = some (.slice a len cap) := by rw [hW]; go_simp
  have c2 : W.cell? ⟨w.heap.size, 2, none⟩ = some (.int .i64 p) := by rw [hW]; go_simp
  have KA : Hid (∀ U : World, Below W.heap.size W U → U.cell? ⟨w.heap.size, 0, none⟩ = some (.int .i64 s) ∧ U.cell? ⟨w.heap.size, 1, none⟩ = some (.slice a len cap) ∧ U.cell? ⟨w.heap.size, 2, none⟩ = some (.int .i64 p)) := fun U hU =>
    ⟨(hU.cell (p := ⟨w.heap.size, 0, none⟩) z0).trans c0, (hU.cell (p := ⟨w.heap.size, 1, none⟩) z0).trans c1, (hU.cell (p := ⟨w.heap.size, 2, none⟩) z0).trans c2⟩
  have HS : Hid (∀ U : World, Below W.heap.size W U → IsLabs U a len cap ls ∧ HasAt U 0 mHas ∧ TopsAt U ∧ IsMsgs U la ll lc ms) := fun U hU => by
    have hv := hB.trans (hU.mono hB.size)
    exact ⟨h.below hv, hm.below hv hgM, ht.below hv hgT, hL.below hv⟩
  have HN : Hid (ms.length = ll) := hln
  clear c0 c1 c2 hm ht hln h hL
  go_enter Tryd.func20, Tryd.ntmps20
  go_upto_region 1 with (fail)
  rw [← hW]
  clear hW
  by_cases h30 : 30 < ll
  · have h30' : (30 : Int) < (ll : Int) := by omega
    go_wp2
    go_ret
    exact ⟨ret_bool (flOK_long (by rw [HN.out]; exact h30)).symm, hB⟩
  have h30' : ¬ (30 : Int) < (ll : Int) := by omega
  go_wp2
  go_loopw [14] (fun i wr => ∃ k : Nat, k ≤ ll ∧ i = .int .i64 k ∧ Hid (∀ j, j < k → msgFault s ls p (ms.getD j default) = 0 ∧ (ms.getD j default).frm * s + (ms.getD j default).dst = (at0 : Int)) ∧ Below W.heap.size W wr) (fun i _ => ll - (intOf i).toNat)
  case atStart => exact ⟨0, Nat.zero_le _, rfl, (fun j hj => absurd hj (Nat.not_lt_zero j)), Below.refl _ _⟩
  case round =>
    obtain ⟨k, hk, rfl, hgood, hb⟩ := hrel
    by_cases hlt : k < ll
    · have hlt' : (k : Int) < (ll : Int) := by omega
      obtain ⟨hl1, hm1, ht1, hL1⟩ := HS.out _ hb
      obtain ⟨c0, c1, c2⟩ := KA.out _ hb
      obtain ⟨b, off, rfl, hlb, hc⟩ := hL1.2.2.2.2 (by omega)
      have hck := fun w' h' hm' ht' => checkMessage_any s p a len cap ls (ms.getD k default) w' h' hm' ht'
      have hcells := hc k hlt
      have HBAD : Hid (msgFault s ls p (ms.getD k default) ≠ 0 ∨ (ms.getD k default).frm * s + (ms.getD k default).dst ≠ (at0 : Int) → flOK s ls p at0 ms = false) := fun hh => flOK_bad (by rw [HN.out]; exact hlt) hh
      have HSUC : Hid (msgFault s ls p (ms.getD k default) = 0 → (ms.getD k default).frm * s + (ms.getD k default).dst = (at0 : Int) → ∀ j, j < k + 1 → msgFault s ls p (ms.getD j default) = 0 ∧ (ms.getD j default).frm * s + (ms.getD j default).dst = (at0 : Int)) := fun h1 h2 j hj => by
        by_cases e : j = k
        · subst e; exact ⟨h1, h2⟩
        · exact hgood.out j (by omega)
      have hsit : msgFault s ls p (ms.getD k default) = 0 → _ := fun h => may_sites h
      obtain ⟨m, em⟩ : ∃ m, m = ms.getD k default := ⟨_, rfl⟩
      rw [← em] at hck hcells HBAD HSUC hsit
      clear em hc hL1
      obtain ⟨kind, frm, dst, site, num, label, key, value, version, ask, yes, code⟩ := m

      have a0 := hcells 0 (by decide)
      have a1 := hcells 1 (by decide)
      have a2 := hcells 2 (by decide)
      have a3 := hcells 3 (by decide)
      have a4 := hcells 4 (by decide)
      have a5 := hcells 5 (by decide)
      have a6 := hcells 6 (by decide)
      have a7 := hcells 7 (by decide)
      have a8 := hcells 8 (by decide)
      have a9 := hcells 9 (by decide)
      have a10 := hcells 10 (by decide)
      have a11 := hcells 11 (by decide)
      simp only [mcells, List.getElem?_cons_zero, List.getElem?_cons_succ, Nat.add_zero] at a0 a1 a2 a3 a4 a5 a6 a7 a8 a9 a10 a11
      clear hcells
      simp only [MV.val] at hck
      simp only [] at hsit HBAD HSUC
      obtain ⟨FV, eF⟩ : ∃ FV, FV = msgFault s ls p ⟨kind, frm, dst, site, num, label, key, value, version, ask, yes, code⟩ := ⟨_, rfl⟩
      rw [← eF] at hck hsit HBAD HSUC
      clear eF
      go_upto_region 6 with (fail)
      obtain ⟨V, hV⟩ : ∃ V : World, V = wr.alloc (.cells #[.int .i64 kind, .int .i64 frm, .int .i64 dst, .int .i64 site, .int .i64 num, .int .i64 label, .int .i64 key, .int .i64 value, .int .i64 version, .int .i64 ask, .bool yes, .int .i64 code] 40) := ⟨_, rfl⟩
      have hbV : Below wr.heap.size wr V := by rw [hV]; exact (Below.refl _ _).alloc (Nat.le_refl _) _
      have zV : wr.heap.size < V.heap.size := by rw [hV]; simp
      have m0 : V.cell? ⟨wr.heap.size, 0, none⟩ = some (.int .i64 kind) := by rw [hV]; go_simp
      have m1 : V.cell? ⟨wr.heap.size, 1, none⟩ = some (.int .i64 frm) := by rw [hV]; go_simp
      have m2 : V.cell? ⟨wr.heap.size, 2, none⟩ = some (.int .i64 dst) := by rw [hV]; go_simp
      have m3 : V.cell? ⟨wr.heap.size, 3, none⟩ = some (.int .i64 site) := by rw [hV]; go_simp
      have m4 : V.cell? ⟨wr.heap.size, 4, none⟩ = some (.int .i64 num) := by rw [hV]; go_simp
      have m5 : V.cell? ⟨wr.heap.size, 5, none⟩ = some (.int .i64 label) := by rw [hV]; go_simp
      have m6 : V.cell? ⟨wr.heap.size, 6, none⟩ = some (.int .i64 key) := by rw [hV]; go_simp
      have m7 : V.cell? ⟨wr.heap.size, 7, none⟩ = some (.int .i64 value) := by rw [hV]; go_simp
      have m8 : V.cell? ⟨wr.heap.size, 8, none⟩ = some (.int .i64 version) := by rw [hV]; go_simp
      have m9 : V.cell? ⟨wr.heap.size, 9, none⟩ = some (.int .i64 ask) := by rw [hV]; go_simp
      have m10 : V.cell? ⟨wr.heap.size, 10, none⟩ = some (.bool yes) := by rw [hV]; go_simp
      have m11 : V.cell? ⟨wr.heap.size, 11, none⟩ = some (.int .i64 code) := by rw [hV]; go_simp
      rw [← hV]
      clear hV
      have hbW : Below W.heap.size W V := hb.trans (hbV.mono hb.size)
      obtain ⟨n0, n1, n2⟩ := KA.out _ hbW
      obtain ⟨hl2, hm2, ht2, _⟩ := HS.out _ hbW
      clear c0 c1 c2 a0 a1 a2 a3 a4 a5 a6 a7 a8 a9 a10 a11
      have KM : Hid (∀ U : World, Below V.heap.size V U → (U.cell? ⟨w.heap.size, 0, none⟩ = some (.int .i64 s) ∧ U.cell? ⟨w.heap.size, 1, none⟩ = some (.slice a len cap) ∧ U.cell? ⟨w.heap.size, 2, none⟩ = some (.int .i64 p)) ∧ U.cell? ⟨wr.heap.size, 1, none⟩ = some (.int .i64 frm) ∧ U.cell? ⟨wr.heap.size, 2, none⟩ = some (.int .i64 dst)) := fun U hU =>
        ⟨KA.out _ (hbW.trans (hU.mono hbW.size)), (hU.cell (p := ⟨wr.heap.size, 1, none⟩) zV).trans m1, (hU.cell (p := ⟨wr.heap.size, 2, none⟩) zV).trans m2⟩
      by_cases hF0 : FV = 0
      · obtain ⟨sf, sd⟩ := hsit hF0
        have hpl := fun w' => place_any s p a len cap frm dst w' s1 s4 sf sd
        obtain ⟨q, eq⟩ : ∃ q, q = frm * s + dst := ⟨_, rfl⟩
        rw [← eq] at hpl
        have HQ : Hid (q = frm * s + dst) := eq
        clear eq
        by_cases hq : q = (at0 : Int)
        · go_wp2_with (first | (go_at_call 18; refine (hck _ hl2 hm2 ht2).mono ?_; rintro e w1 ⟨rfl, hb1⟩; obtain ⟨⟨r0, r1, r2⟩, r3, r4⟩ := KM.out _ hb1; rw [hF0]) | (go_at_call 19; refine (hpl _).mono ?_; rintro e w2 ⟨rfl, hb2⟩; rw [hq]))
          go_roundw
          case rel => exact ⟨k + 1, by omega, by go_num, HSUC.out hF0 (HQ.out.symm.trans hq), hbW.trans ((hb1.trans (hb2.mono hb1.size)).mono hbW.size)⟩
          case measure => simp [intOf]; omega
        · go_wp2_with (first | (go_at_call 18; refine (hck _ hl2 hm2 ht2).mono ?_; rintro e w1 ⟨rfl, hb1⟩; obtain ⟨⟨r0, r1, r2⟩, r3, r4⟩ := KM.out _ hb1; rw [hF0]) | (go_at_call 19; refine (hpl _).mono ?_; rintro e w2 ⟨rfl, hb2⟩))
          go_ret
          exact ⟨ret_bool (HBAD.out (.inr (by rw [← HQ.out]; exact hq))).symm, hB.trans ((hbW.trans ((hb1.trans (hb2.mono hb1.size)).mono hbW.size)).mono hB.size)⟩
      · go_wp2_with (go_at_call 18; refine (hck _ hl2 hm2 ht2).mono ?_; rintro e w1 ⟨rfl, hb1⟩)
        go_ret
        exact ⟨ret_bool (HBAD.out (.inl hF0)).symm, hB.trans ((hbW.trans (hb1.mono hbW.size)).mono hB.size)⟩
    · go_wp2
      go_ret
      exact ⟨ret_bool (flOK_good (by rw [HN.out]; omega) (fun j hj => hgood.out j (by rw [HN.out] at hj; omega))).symm, hB.trans (hb.mono hB.size)⟩


set_option maxRecDepth 100000 in
set_option maxHeartbeats 4000000 in
theorem netCheck_any (s p : Int) (a : Option Addr) (len cap : Nat) (ls : List (Int × Int)) (fa : Option Addr) (fl fc : Nat) (fs : List FL) (w : World) (h : IsLabs w a len cap ls) (hL : IsFly w fa fl fc fs) (hm : HasAt w 0 mHas) (ht : TopsAt w) :
    Calls Tryd.prog 11 #[.agg #[.int .i64 s, .slice a len cap, .int .i64 p], .slice fa fl fc] w fun e w' => e = .returned (.int .i64 (flyFault s ls p fs)) ∧ Below w.heap.size w w' := by
  have hgT : 1 < w.heap.size := World.block_lt_of_cell? w _ ht.1
  have hgM : 0 < w.heap.size := hm.lt (by decide)
  have hCk := fun w' h1 => check_any s p a len cap ls w' h1
  have hln : fs.length = fl := hL.row.1
  have hmx : fl ≤ maxLen := Nat.le_trans hL.row.2.1 hL.row.2.2.1
  unfold maxLen at hmx
  obtain ⟨W, hW⟩ : ∃ W : World, W = w.alloc (.cells #[.int .i64 s, .slice a len cap, .int .i64 p] 26) := ⟨_, rfl⟩
  have hB : Below w.heap.size w W := by rw [hW]; exact (Below.refl _ _).alloc (Nat.le_refl _) _
  have z0 : w.heap.size < W.heap.size := by rw [hW]; simp
  have c0 : W.cell? ⟨w.heap.size, 0, none⟩ = some (.int .i64 s) := by rw [hW]; go_simp
  have c1 : W.cell? ⟨w.heap.size, 1, none⟩ = some (.slice a len cap) := by rw [hW]; go_simp
  have c2 : W.cell? ⟨w.heap.size, 2, none⟩ = some (.int .i64 p) := by rw [hW]; go_simp
  have KA : Hid (∀ U : World, Below W.heap.size W U → U.cell? ⟨w.heap.size, 0, none⟩ = some (.int .i64 s) ∧ U.cell? ⟨w.heap.size, 1, none⟩ = some (.slice a len cap) ∧ U.cell? ⟨w.heap.size, 2, none⟩ = some (.int .i64 p)) := fun U hU =>
    ⟨(hU.cell (p := ⟨w.heap.size, 0, none⟩) z0).trans c0, (hU.cell (p := ⟨w.heap.size, 1, none⟩) z0).trans c1, (hU.cell (p := ⟨w.heap.size, 2, none⟩) z0).trans c2⟩
  have HS : Hid (∀ U : World, Below W.heap.size W U → IsLabs U a len cap ls ∧ HasAt U 0 mHas ∧ TopsAt U ∧ IsFly U fa fl fc fs) := fun U hU => by
    have hv := hB.trans (hU.mono hB.size)
    exact ⟨h.below hv, hm.below hv hgM, ht.below hv hgT, hL.below hv⟩
  have hLW := h.below hB
  have HN : Hid (fs.length = fl) := hln
  obtain ⟨R, eR⟩ : ∃ R : Int, R = flyFault s ls p fs := ⟨_, rfl⟩
  have HR : Hid (R = flyFault s ls p fs) := eR
  rw [← eR]
  clear hm ht hln h hL eR
  go_enter Tryd.func11, Tryd.ntmps11
  go_upto_region 1 with (fail)
  rw [← hW]
  clear hW
  by_cases hcf : cfgFault s ls p = 0
  · obtain ⟨s1, s4, _⟩ := cfg_zero hcf
    obtain ⟨q1, q2, _⟩ := sq_bd s1 s4
    rw [hcf] at hCk
    obtain ⟨q, eq⟩ : ∃ q, q = s * s := ⟨_, rfl⟩
    have kq : IntKind.i64.wrap (s * s) = q := by rw [eq]; exact wrapI (by omega)
    rw [← eq] at q1 q2
    have HQ : Hid (q = s * s) := eq
    clear eq
    go_upto_region 4 with (go_at_call 16; refine (hCk _ hLW).mono ?_; rintro e w1 ⟨rfl, hb1⟩)
    obtain ⟨d0, d1, d2⟩ := KA.out _ hb1
    clear c0 c1 c2
    by_cases hq : (fl : Int) = q
    · rw [← hq] at kq
      go_wp2
      go_loopw [23] (fun i wr => ∃ k : Nat, k ≤ fl ∧ i = .int .i64 k ∧ Hid (∀ j, j < k → flOK s ls p j (fs.getD j default).ms = true) ∧ Below W.heap.size W wr) (fun i _ => fl - (intOf i).toNat)
      case atStart => exact ⟨0, Nat.zero_le _, rfl, (fun j hj => absurd hj (Nat.not_lt_zero j)), hb1⟩
      case round =>
        obtain ⟨k, hk, rfl, hgood, hb⟩ := hrel
        by_cases hlt : k < fl
        · have hlt' : (k : Int) < (fl : Int) := by omega
          obtain ⟨hl2, hm2, ht2, hL2⟩ := HS.out _ hb
          obtain ⟨c0, c1, c2⟩ := KA.out _ hb
          obtain ⟨b, off, rfl, hbl, hcell, hM⟩ := hL2.at hlt
          have hmb := fun w' h1 h2 h3 h4 => mayBe_any s p a len cap ls k (fs.getD k default).a (fs.getD k default).len (fs.getD k default).cap (fs.getD k default).ms w' hcf (by omega) h1 h2 h3 h4
          have HBAD : Hid (flOK s ls p k (fs.getD k default).ms = false → R = 9) := fun hh => by
            rw [HR.out]
            simp only [flyFault, hcf, HN.out, flyOK_false (by rw [HN.out]; exact hlt) hh]
            simp
          have HSUC : Hid (flOK s ls p k (fs.getD k default).ms = true → ∀ j, j < k + 1 → flOK s ls p j (fs.getD j default).ms = true) := fun h1 j hj => by
            by_cases e : j = k
            · subst e; exact h1
            · exact hgood.out j (by omega)
          obtain ⟨B, eB⟩ : ∃ B, B = flOK s ls p k (fs.getD k default).ms := ⟨_, rfl⟩
          rw [← eB] at hmb HBAD HSUC
          obtain ⟨f, ef⟩ : ∃ f, f = fs.getD k default := ⟨_, rfl⟩
          rw [← ef] at hmb hcell hM
          clear eB ef hL2
          obtain ⟨xa, xl, xc, xs⟩ := f
          simp only [] at hmb hcell hM
          cases B with
          | true =>
            go_wp2_with (go_at_call 20; refine (hmb _ hl2 hM hm2 ht2).mono ?_; rintro e w2 ⟨rfl, hb2⟩)
            go_roundw
            case rel => exact ⟨k + 1, by omega, by go_num, HSUC.out (by simp), hb.trans (hb2.mono hb.size)⟩
            case measure => simp [intOf]; omega
          | false =>
            go_wp2_with (go_at_call 20; refine (hmb _ hl2 hM hm2 ht2).mono ?_; rintro e w2 ⟨rfl, hb2⟩)
            go_ret
            exact ⟨ret_int (HBAD.out (by simp)).symm, hB.trans ((hb.trans (hb2.mono hb.size)).mono hB.size)⟩
        · go_wp2
          go_ret
          refine ⟨ret_int ?_, hB.trans (hb.mono hB.size)⟩
          rw [HR.out]
          have := flyOK_true (fs := fs) (fun j hj => hgood.out j (by rw [HN.out] at hj; omega))
          simp [flyFault, hcf, this, HN.out, ← HQ.out, hq]
    · go_wp2
      go_ret
      refine ⟨ret_int ?_, hB.trans (hb1.mono hB.size)⟩
      rw [HR.out]
      simp [flyFault, hcf, HN.out, ← HQ.out, hq]
  · have HC : Hid (R = cfgFault s ls p) := by
      show _ = _
      rw [HR.out]
      simp [flyFault, hcf]
    obtain ⟨C, eC⟩ : ∃ C, C = cfgFault s ls p := ⟨_, rfl⟩
    rw [← eC] at hCk hcf HC
    clear eC
    go_wp2_with (go_at_call 16; refine (hCk _ hLW).mono ?_; rintro e w1 ⟨rfl, hb1⟩)
    go_ret
    exact ⟨ret_int HC.out.symm, hB.trans (hb1.mono hB.size)⟩

end Go.Proofs.YtcdfaimpbbjioaaDoor.Nt
