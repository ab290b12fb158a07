/- The contract of the document's FlyingFault. -/
import Derived.Test.YtpkbklhjpaaiiaaDoorNBase
import Derived.Test.YtpkbklhjpaaiiaaDoorWFaultM
import Derived.Test.YtpkbklhjpaaiiaaDoorWMay
import Derived.Deep.RegionHeld3
import Derived.Deep.Cut
import Derived.Deep.CutBlock
namespace Go.Proofs.YtpkbklhjpaaiiaaDoor.Nt
open Go.ChangeShapes Go.WideShapes Go.ChangeAt Go.RowKit
set_option linter.unusedVariables false

theorem may_sites' {s : Int} {ls : List (Int × Int)} {p : Int} {m : MV} (h : msgFault s ls p m = 0) : (0 ≤ m.frm ∧ m.frm ≤ s - 1) ∧ (0 ≤ m.dst ∧ m.dst ≤ s - 1) := by
  obtain ⟨_, _, hr, _⟩ := may_msg h
  simp only [msgRange, Bool.and_eq_true] at hr
  exact ⟨inR_of hr.1.1.1, inR_of hr.1.1.2⟩

set_option maxRecDepth 100000 in
set_option maxHeartbeats 4000000 in
theorem flyingFault_any (s p : Int) (a : Option Addr) (len cap : Nat) (ls : List (Int × Int)) (fa : Option Addr) (fl fc : Nat) (fs : List FL) (w : World) (h : IsLabs w a len cap ls) (hL : IsFly w fa fl fc fs) :
    Calls Tryd.prog 7 #[.agg #[.int .i64 s, .slice a len cap, .int .i64 p], .slice fa fl fc] w fun e w' => e = .returned (.int .i64 (flyFault s ls p fs)) ∧ Below w.heap.size w w' := by
  have hCk := fun w' h1 => fault_any s p a len cap ls w' h1
  have hmx : fl ≤ maxLen := Nat.le_trans hL.row.2.1 hL.row.2.2.1
  unfold maxLen at hmx
  have HN : Hid (fs.length = fl) := hL.row.1
  obtain ⟨W, hW⟩ : ∃ W : World, W = w.alloc (.cells #[.int .i64 s, .slice a len cap, .int .i64 p] 24) := ⟨_, rfl⟩
  have hB : Below w.heap.size w W := by rw [hW]; exact (Below.refl _ _).alloc (Nat.le_refl _) _
  have z0 : w.heap.size < W.heap.size := by rw [hW]; simp
  have c0 : W.cell? ⟨w.heap.size, 0, none⟩ = some (.int .i64 s) := by rw [hW]; go_simp
  have c1 : W.cell? ⟨w.heap.size, 1, none⟩ = some (.slice a len cap) := by rw [hW]; go_simp
  have c2 : W.cell? ⟨w.heap.size, 2, none⟩ = some (.int .i64 p) := by rw [hW]; go_simp
  have KA : Hid (∀ U : World, Below W.heap.size W U → U.cell? ⟨w.heap.size, 0, none⟩ = some (.int .i64 s) ∧ U.cell? ⟨w.heap.size, 1, none⟩ = some (.slice a len cap) ∧ U.cell? ⟨w.heap.size, 2, none⟩ = some (.int .i64 p)) := fun U hU =>
    ⟨(hU.cell (p := ⟨w.heap.size, 0, none⟩) z0).trans c0, (hU.cell (p := ⟨w.heap.size, 1, none⟩) z0).trans c1, (hU.cell (p := ⟨w.heap.size, 2, none⟩) z0).trans c2⟩
  have HS : Hid (∀ U : World, Below W.heap.size W U → IsLabs U a len cap ls ∧ IsFly U fa fl fc fs) := fun U hU => by
    have hv := hB.trans (hU.mono hB.size)
    exact ⟨h.below hv, hL.below hv⟩
  have hLW := h.below hB
  obtain ⟨R, eR⟩ : ∃ R : Int, R = flyFault s ls p fs := ⟨_, rfl⟩
  have HR : Hid (R = flyFault s ls p fs) := eR
  rw [← eR]
  clear h hL eR
  go_enter Tryd.func7, Tryd.ntmps7
  go_upto_region 1 with (fail)
  rw [← hW]
  clear hW
  by_cases hcf : cfgFault s ls p = 0
  · obtain ⟨s1, s4, _⟩ := cfg_zero hcf
    obtain ⟨q1, q2, _⟩ := sq_bd s1 s4
    rw [hcf] at hCk
    obtain ⟨q, eq⟩ : ∃ q, q = s * s := ⟨_, rfl⟩
    have kq : IntKind.i64.wrap (s * s) = q := by rw [eq]; exact wrapI (by omega)
    rw [← eq] at q1 q2
    have HQ : Hid (q = s * s) := eq
    clear eq
    go_upto_region 4 with (go_at_call 16; refine (hCk _ hLW).mono ?_; rintro e w1 ⟨rfl, hb1⟩)
    obtain ⟨d0, d1, d2⟩ := KA.out _ hb1
    clear c0 c1 c2
    by_cases hq : (fl : Int) = q
    · rw [← hq] at kq
      go_wp2
      go_loopw [6] (fun i wr => ∃ k : Nat, k ≤ fl ∧ i = .int .i64 k ∧ Hid (∀ j, j < k → flOK s ls p j (fs.getD j default).ms = true) ∧ Below W.heap.size W wr) (fun i _ => fl - (intOf i).toNat)
      case atStart => exact ⟨0, Nat.zero_le _, rfl, (fun j hj => absurd hj (Nat.not_lt_zero j)), hb1⟩
      case round =>
        obtain ⟨k, hk, rfl, hgood, hb⟩ := hrel
        rename World => wo
        by_cases hlt : k < fl
        · have hlt' : (k : Int) < (fl : Int) := by omega
          obtain ⟨hl2, hL2⟩ := HS.out _ hb
          obtain ⟨b, off, rfl, hbl, hcell, hM⟩ := hL2.at hlt
          have HBAD : Hid (flOK s ls p k (fs.getD k default).ms = false → R = 9) := fun hh => by
            rw [HR.out]
            simp only [flyFault, hcf, HN.out, flyOK_false (by rw [HN.out]; exact hlt) hh]
            simp
          have HSUC : Hid (flOK s ls p k (fs.getD k default).ms = true → ∀ j, j < k + 1 → flOK s ls p j (fs.getD j default).ms = true) := fun h1 j hj => by
            by_cases e : j = k
            · subst e; exact h1
            · exact hgood.out j (by omega)
          have KC : Hid (∀ U : World, Below wo.heap.size wo U → U.cell? ⟨b, off + k, none⟩ = some (.slice (fs.getD k default).a (fs.getD k default).len (fs.getD k default).cap) ∧ IsMsgs U (fs.getD k default).a (fs.getD k default).len (fs.getD k default).cap (fs.getD k default).ms) := fun U hU => ⟨(hU.cell (p := ⟨b, off + k, none⟩) hbl).trans hcell, hM.below hU⟩
          obtain ⟨f, ef⟩ : ∃ f, f = fs.getD k default := ⟨_, rfl⟩
          rw [← ef] at hcell hM HBAD HSUC KC
          clear ef hL2
          obtain ⟨xa, xl, xc, ms⟩ := f
          simp only [] at hcell hM HBAD HSUC KC
          have hxm : xl ≤ maxLen := Nat.le_trans hM.2.1 hM.2.2.1
          unfold maxLen at hxm
          have HX : Hid (ms.length = xl) := hM.1
          clear hM
          by_cases h30 : 30 < xl
          · have h30' : (30 : Int) < (xl : Int) := by omega
            go_wp2
            go_ret
            exact ⟨ret_int (HBAD.out (flOK_long (by rw [HX.out]; exact h30))).symm, hB.trans (hb.mono hB.size)⟩
          have h30' : ¬ (30 : Int) < (xl : Int) := by omega
          go_upto_region 12 with (fail)
          go_loopw [7] (fun i wr => ∃ j : Nat, j ≤ xl ∧ i = .int .i64 j ∧ Hid (∀ i, i < j → msgFault s ls p (ms.getD i default) = 0 ∧ (ms.getD i default).frm * s + (ms.getD i default).dst = (k : Int)) ∧ Below wo.heap.size wo wr) (fun i _ => xl - (intOf i).toNat)
          case atStart => exact ⟨0, Nat.zero_le _, rfl, (fun j hj => absurd hj (Nat.not_lt_zero j)), Below.refl _ _⟩
          case round =>
            obtain ⟨j, hj, rfl, hgj, hq⟩ := hrel
            obtain ⟨hcq, hMq⟩ := KC.out _ hq
            have hWq : Below W.heap.size W wr := hb.trans (hq.mono hb.size)
            by_cases hjl : j < xl
            · have hjl' : (j : Int) < (xl : Int) := by omega
              obtain ⟨hl3, _⟩ := HS.out _ hWq
              obtain ⟨c0, c1, c2⟩ := KA.out _ hWq
              obtain ⟨b2, off2, rfl, hlb2, hc⟩ := hMq.2.2.2.2 (by omega)
              have hck := fun w' h' => messageFault_any s p a len cap ls (ms.getD j default) w' h'
              have hcells := hc j hjl
              have HBM : Hid (msgFault s ls p (ms.getD j default) ≠ 0 ∨ (ms.getD j default).frm * s + (ms.getD j default).dst ≠ (k : Int) → R = 9) := fun hh => HBAD.out (flOK_bad (by rw [HX.out]; exact hjl) hh)
              have HSM : Hid (msgFault s ls p (ms.getD j default) = 0 → (ms.getD j default).frm * s + (ms.getD j default).dst = (k : Int) → ∀ i, i < j + 1 → msgFault s ls p (ms.getD i default) = 0 ∧ (ms.getD i default).frm * s + (ms.getD i default).dst = (k : Int)) := fun h1 h2 i hi => by
                by_cases e : i = j
                · subst e; exact ⟨h1, h2⟩
                · exact hgj.out i (by omega)
              have hsit : msgFault s ls p (ms.getD j default) = 0 → _ := fun h => may_sites' h
              obtain ⟨m, em⟩ : ∃ m, m = ms.getD j default := ⟨_, rfl⟩
              rw [← em] at hck hcells HBM HSM hsit
              clear em hc hMq
              obtain ⟨kind, frm, dst, site, num, label, key, value, version, ask, yes, code⟩ := m
              have a0 := hcells 0 (by decide)
              have a1 := hcells 1 (by decide)
              have a2 := hcells 2 (by decide)
              have a3 := hcells 3 (by decide)
              have a4 := hcells 4 (by decide)
              have a5 := hcells 5 (by decide)
              have a6 := hcells 6 (by decide)
              have a7 := hcells 7 (by decide)
              have a8 := hcells 8 (by decide)
              have a9 := hcells 9 (by decide)
              have a10 := hcells 10 (by decide)
              have a11 := hcells 11 (by decide)
              simp only [mcells, List.getElem?_cons_zero, List.getElem?_cons_succ, Nat.add_zero] at a0 a1 a2 a3 a4 a5 a6 a7 a8 a9 a10 a11
              clear hcells
              simp only [MV.val] at hck
              simp only [] at hsit HBM HSM
              obtain ⟨FV, eF⟩ : ∃ FV, FV = msgFault s ls p ⟨kind, frm, dst, site, num, label, key, value, version, ask, yes, code⟩ := ⟨_, rfl⟩
              rw [← eF] at hck hsit HBM HSM
              clear eF
              go_upto_region 15 with (fail)
              obtain ⟨V, hV⟩ : ∃ V : World, V = wr.alloc (.cells #[.int .i64 kind, .int .i64 frm, .int .i64 dst, .int .i64 site, .int .i64 num, .int .i64 label, .int .i64 key, .int .i64 value, .int .i64 version, .int .i64 ask, .bool yes, .int .i64 code] 38) := ⟨_, rfl⟩
              have hbV : Below wr.heap.size wr V := by rw [hV]; exact (Below.refl _ _).alloc (Nat.le_refl _) _
              have zV : wr.heap.size < V.heap.size := by rw [hV]; simp
              have m0 : V.cell? ⟨wr.heap.size, 0, none⟩ = some (.int .i64 kind) := by rw [hV]; go_simp
              have m1 : V.cell? ⟨wr.heap.size, 1, none⟩ = some (.int .i64 frm) := by rw [hV]; go_simp
              have m2 : V.cell? ⟨wr.heap.size, 2, none⟩ = some (.int .i64 dst) := by rw [hV]; go_simp
              have m3 : V.cell? ⟨wr.heap.size, 3, none⟩ = some (.int .i64 site) := by rw [hV]; go_simp
              have m4 : V.cell? ⟨wr.heap.size, 4, none⟩ = some (.int .i64 num) := by rw [hV]; go_simp
              have m5 : V.cell? ⟨wr.heap.size, 5, none⟩ = some (.int .i64 label) := by rw [hV]; go_simp
              have m6 : V.cell? ⟨wr.heap.size, 6, none⟩ = some (.int .i64 key) := by rw [hV]; go_simp
              have m7 : V.cell? ⟨wr.heap.size, 7, none⟩ = some (.int .i64 value) := by rw [hV]; go_simp
              have m8 : V.cell? ⟨wr.heap.size, 8, none⟩ = some (.int .i64 version) := by rw [hV]; go_simp
              have m9 : V.cell? ⟨wr.heap.size, 9, none⟩ = some (.int .i64 ask) := by rw [hV]; go_simp
              have m10 : V.cell? ⟨wr.heap.size, 10, none⟩ = some (.bool yes) := by rw [hV]; go_simp
              have m11 : V.cell? ⟨wr.heap.size, 11, none⟩ = some (.int .i64 code) := by rw [hV]; go_simp
              rw [← hV]
              clear hV
              have hbW : Below W.heap.size W V := hWq.trans (hbV.mono hWq.size)
              obtain ⟨n0, n1, n2⟩ := KA.out _ hbW
              obtain ⟨hl4, _⟩ := HS.out _ hbW
              clear c0 c1 c2 a0 a1 a2 a3 a4 a5 a6 a7 a8 a9 a10 a11
              have KM : Hid (∀ U : World, Below V.heap.size V U → (U.cell? ⟨w.heap.size, 0, none⟩ = some (.int .i64 s) ∧ U.cell? ⟨w.heap.size, 1, none⟩ = some (.slice a len cap) ∧ U.cell? ⟨w.heap.size, 2, none⟩ = some (.int .i64 p)) ∧ U.cell? ⟨wr.heap.size, 1, none⟩ = some (.int .i64 frm) ∧ U.cell? ⟨wr.heap.size, 2, none⟩ = some (.int .i64 dst)) := fun U hU =>
                ⟨KA.out _ (hbW.trans (hU.mono hbW.size)), (hU.cell (p := ⟨wr.heap.size, 1, none⟩) zV).trans m1, (hU.cell (p := ⟨wr.heap.size, 2, none⟩) zV).trans m2⟩
              by_cases hF0 : FV = 0
              · obtain ⟨sf, sd⟩ := hsit hF0
                obtain ⟨u1, u2, u3⟩ := mul_bd s1 s4 sf.1 sf.2
                obtain ⟨q', eq'⟩ : ∃ q', q' = frm * s := ⟨_, rfl⟩
                have k1 : IntKind.i64.wrap (frm * s) = q' := by rw [eq']; exact wrapI (by omega)
                rw [← eq'] at u1 u2 u3
                have k2 : IntKind.i64.wrap (q' + dst) = q' + dst := wrapI (by omega)
                have HQ' : Hid (q' = frm * s) := eq'
                clear eq'
                by_cases hqk : q' + dst = (k : Int)
                · rw [hqk] at k2
                  go_wp2_with (go_at_call 17; refine (hck _ hl4).mono ?_; rintro e w2 ⟨rfl, hb2⟩; obtain ⟨⟨r0, r1, r2⟩, r3, r4⟩ := KM.out _ hb2; rw [hF0])
                  go_roundw
                  case rel => exact ⟨j + 1, by omega, by go_num, HSM.out hF0 (by rw [← HQ'.out]; exact hqk), hq.trans ((hbV.trans (hb2.mono hbV.size)).mono hq.size)⟩
                  case measure => simp [intOf]; omega
                · go_wp2_with (go_at_call 17; refine (hck _ hl4).mono ?_; rintro e w2 ⟨rfl, hb2⟩; obtain ⟨⟨r0, r1, r2⟩, r3, r4⟩ := KM.out _ hb2; rw [hF0])
                  go_ret
                  exact ⟨ret_int (HBM.out (.inr (by rw [← HQ'.out]; exact hqk))).symm, hB.trans ((hbW.trans (hb2.mono hbW.size)).mono hB.size)⟩
              · go_wp2_with (go_at_call 17; refine (hck _ hl4).mono ?_; rintro e w2 ⟨rfl, hb2⟩)
                go_ret
                exact ⟨ret_int (HBM.out (.inl hF0)).symm, hB.trans ((hbW.trans (hb2.mono hbW.size)).mono hB.size)⟩
            · go_wp2
              go_roundw
              case rel => exact ⟨k + 1, by omega, by go_num, HSUC.out (flOK_good (by rw [HX.out]; omega) (fun i hi => hgj.out i (by rw [HX.out] at hi; omega))), hWq⟩
              case measure => simp [intOf]; omega
        · go_wp2
          go_ret
          refine ⟨ret_int ?_, hB.trans (hb.mono hB.size)⟩
          rw [HR.out]
          have := flyOK_true (fs := fs) (fun j hj => hgood.out j (by rw [HN.out] at hj; omega))
          simp [flyFault, hcf, this, HN.out, ← HQ.out, hq]
    · go_wp2
      go_ret
      refine ⟨ret_int ?_, hB.trans (hb1.mono hB.size)⟩
      rw [HR.out]
      simp [flyFault, hcf, HN.out, ← HQ.out, hq]
  · have HC : Hid (R = cfgFault s ls p) := by
      show _ = _
      rw [HR.out]
      simp [flyFault, hcf]
    obtain ⟨C, eC⟩ : ∃ C, C = cfgFault s ls p := ⟨_, rfl⟩
    rw [← eC] at hCk hcf HC
    clear eC
    go_wp2_with (go_at_call 16; refine (hCk _ hLW).mono ?_; rintro e w1 ⟨rfl, hb1⟩)
    go_ret
    exact ⟨ret_int HC.out.symm, hB.trans (hb1.mono hB.size)⟩
end Go.Proofs.YtpkbklhjpaaiiaaDoor.Nt
