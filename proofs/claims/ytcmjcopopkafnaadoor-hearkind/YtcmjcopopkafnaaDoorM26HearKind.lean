/- Texts of this claim, one behind the other. -/
import Derived.Test.YtcmjcopopkafnaaDoorM22HearKind
import Derived.Lib.QuietBelow
import Derived.Deep.RegionHeld3
import Derived.Deep.RegionLaw
import Derived.Deep.DeepCutAuto
import Derived.Test.YtcmjcopopkafnaaDoorM24HearKind
import Derived.Test.YtcmjcopopkafnaaDoorM25HearKind
import Derived.Test.YtcmjcopopkafnaaDoorProg
import Derived.WalkKit
import Derived.ProofKit
import Derived.Below
import Derived.OpenShut
import Derived.Test.YtcmjcopopkafnaaDoorA0HearKind
/- The contract of part.decide. -/
namespace Go.Proofs.YtcmjcopopkafnaaDoor.Pt
open Go.ChangeShapes Go.WideShapes Go.ChangeAt Go.RowKit
open Go.Proofs.YtcmjcopopkafnaaDoor.St (SV PS IsStore IsRow storeOK TxWf BoxN boxn_new OwnStore flat flat_append Elem isOne grown_setCell own_below own_isRow isRow_nil cntErr cntIs endErr endData txOK readVal readVer readErr readData peekVal peekVer peekErr writeErr writeData stillIs refErr)
set_option linter.unusedVariables false


set_option maxRecDepth 100000 in
set_option maxHeartbeats 8000000 in
theorem partDecide_any (st : SV) (va6 : Option Addr) (vn6 vc6 : Nat) (vns : List NV) (m : MV) (w : World) (N0 : Nat) (hst : IsStore w st) (hwf : ∀ t ∈ st.over, TxWf t) (h4 : st.ol * 16 ≤ 140737488351232) (own : w.ownsRow N0 145 4 (.slice va6 vn6 vc6) vn6 (flat NV.cells vns)) (hln : vns.length = vn6) :
    Calls Tryd.prog 30 #[AnsV.val ⟨st, none, 0, 0, none, 0, 0, va6, vn6, vc6, [], [], vns⟩, m.val] w fun e w' => ∃ v' : AnsV, e = .returned v'.val ∧ IsAns w' v' ∧ v'.data = decideD st m (AnsV.data ⟨st, none, 0, 0, none, 0, 0, va6, vn6, vc6, [], [], vns⟩) ∧ w.grownBy w' (Value.slice va6 vn6 vc6).ownBlock ∧ ∀ B, AnsV.far ⟨st, none, 0, 0, none, 0, 0, va6, vn6, vc6, [], [], vns⟩ B → B ≤ w.heap.size → v'.far B := by
  have hCn := fun U hU => St.writes_count st (mtx m) U hU hwf
  have hEn := fun U hU => St.end_own st (mtx m) m.yes U hU hwf h4
  have hDm := fun (U : World) (hU : U.ownsRow N0 145 4 (.slice va6 vn6 vc6) vn6 (flat NV.cells vns)) => damage_any va6 vn6 vc6 vns m N0 U hU hln
  have hNt := (own_isRow ncells_len own hln).1
  have HRD : Hid (decideD st m (AnsV.data ⟨st, none, 0, 0, none, 0, 0, va6, vn6, vc6, [], [], vns⟩) = ⟨endData st (mtx m) m.yes, [backM 8 m], if vns.any (dmgd m) || decide (0 < cntIs st (mtx m)) then [⟨2, m.site, m.num, 0, 0, 0, m.yes⟩] else [], vns.map (dmgN m)⟩) := rfl
  obtain ⟨RD, eRD⟩ : ∃ x, x = decideD st m (AnsV.data ⟨st, none, 0, 0, none, 0, 0, va6, vn6, vc6, [], [], vns⟩) := ⟨_, rfl⟩
  rw [← eRD] at HRD ⊢
  clear eRD
  obtain ⟨EDt, eEDt⟩ : ∃ x, x = endData st (mtx m) m.yes := ⟨_, rfl⟩
  rw [← eEDt] at HRD hEn
  clear eEDt
  obtain ⟨EE, eEE⟩ : ∃ x, x = endErr st (mtx m) m.yes := ⟨_, rfl⟩
  rw [← eEE] at hEn
  clear eEE
  obtain ⟨CI, eCI⟩ : ∃ x, x = cntIs st (mtx m) := ⟨_, rfl⟩
  rw [← eCI] at HRD hCn
  clear eCI
  obtain ⟨CE, eCE⟩ : ∃ x, x = cntErr st (mtx m) := ⟨_, rfl⟩
  rw [← eCE] at hCn
  clear eCE
  obtain ⟨DA, eDA⟩ : ∃ x, x = vns.any (dmgd m) := ⟨_, rfl⟩
  rw [← eDA] at HRD hDm
  clear eDA
  obtain ⟨DN, eDN⟩ : ∃ x, x = vns.map (dmgN m) := ⟨_, rfl⟩
  have HLN : Hid (DN.length = vn6) := by show _ = _; rw [eDN]; simpa using hln
  rw [← eDN] at HRD hDm
  clear eDN
  obtain ⟨NB, eNB⟩ : ∃ x, x = (Value.slice va6 vn6 vc6).ownBlock := ⟨_, rfl⟩
  have hNB : ∀ g, NB = some g → g < w.heap.size := fun g e => by rw [eNB] at e; exact (own.lt g e).2
  rw [← eNB] at hDm ⊢
  clear eNB
  have HV : Hid (IsAns w ⟨st, none, 0, 0, none, 0, 0, va6, vn6, vc6, [], [], vns⟩) := ⟨hst, isRow_nil _ _ _, isRow_nil _ _ _, hNt⟩
  have HOwn : Hid (w.ownsRow N0 145 4 (.slice va6 vn6 vc6) vn6 (flat NV.cells vns)) := own
  have HNB : Hid (∀ g, NB = some g → g < w.heap.size) := hNB
  clear hst hwf h4 own hln hNt hNB
  obtain ⟨M, eM⟩ : ∃ M : MV, M = m := ⟨_, rfl⟩
  skip
  obtain ⟨va0, vn0, vc0, va1, vn1, vc1, va2, vn2, vc2, va3, vn3, vc3, vi, vl, vd, vo⟩ := st
  obtain ⟨kind, frm, dst, site, num, label, key, value, version, ask, yes, code⟩ := m
  simp only [AnsV.val, MV.val]
  obtain ⟨W, hW⟩ : ∃ W : World, W = ((w.alloc (.cells #[.slice va0 vn0 vc0, .slice va1 vn1 vc1, .slice va2 vn2 vc2, .slice va3 vn3 vc3, .slice none 0 0, .slice none 0 0, .slice va6 vn6 vc6] 48)).alloc (.cells #[.int .i64 kind, .int .i64 frm, .int .i64 dst, .int .i64 site, .int .i64 num, .int .i64 label, .int .i64 key, .int .i64 value, .int .i64 version, .int .i64 ask, .bool yes, .int .i64 code] 33)).alloc (.cells #[.slice none 0 0, .slice none 0 0, .slice none 0 0, .slice none 0 0, .slice none 0 0, .slice none 0 0, .slice none 0 0] 48) := ⟨_, rfl⟩
  obtain ⟨bxA, bxM, bxQ, hB, eS⟩ := three (w := w) (a := #[.slice va0 vn0 vc0, .slice va1 vn1 vc1, .slice va2 vn2 vc2, .slice va3 vn3 vc3, .slice none 0 0, .slice none 0 0, .slice va6 vn6 vc6]) (m := #[.int .i64 kind, .int .i64 frm, .int .i64 dst, .int .i64 site, .int .i64 num, .int .i64 label, .int .i64 key, .int .i64 value, .int .i64 version, .int .i64 ask, .bool yes, .int .i64 code]) (q := #[.slice none 0 0, .slice none 0 0, .slice none 0 0, .slice none 0 0, .slice none 0 0, .slice none 0 0, .slice none 0 0]) (ta := 48) (tm := 33) rfl rfl rfl
  rw [← hW] at bxA bxM bxQ hB eS
  have HSZ : Hid (W.heap.size = w.heap.size + 3) := eS
  have zW : w.heap.size + 2 < W.heap.size := by omega
  have KA : Hid (∀ U : World, Below W.heap.size W U → BoxN U w.heap.size 7 [.slice va0 vn0 vc0, .slice va1 vn1 vc1, .slice va2 vn2 vc2, .slice va3 vn3 vc3, .slice none 0 0, .slice none 0 0, .slice va6 vn6 vc6]) := fun U hU => bxA.below hU bxA.lt
  have KM : Hid (∀ U : World, Below W.heap.size W U → BoxN U (w.heap.size + 1) 12 [.int .i64 kind, .int .i64 frm, .int .i64 dst, .int .i64 site, .int .i64 num, .int .i64 label, .int .i64 key, .int .i64 value, .int .i64 version, .int .i64 ask, .bool yes, .int .i64 code]) := fun U hU => bxM.below hU bxM.lt
  have KQ : Hid (∀ U : World, Below W.heap.size W U → BoxN U (w.heap.size + 2) 7 [.slice none 0 0, .slice none 0 0, .slice none 0 0, .slice none 0 0, .slice none 0 0, .slice none 0 0, .slice none 0 0]) := fun U hU => bxQ.below hU bxQ.lt
  have KW : Hid (∀ U : World, Below W.heap.size W U → Below w.heap.size w U) := fun U hU => hB.trans (hU.mono hB.size)
  clear eS bxA bxQ hB
  go_enter Tryd.func30, Tryd.ntmps30
  go_upto_region 1 with (fail)
  rw [← hW]
  clear hW

  have hwW := KW.out _ (Below.refl _ _)
  have HCn : Hid (∀ U, Below w.heap.size w U → Calls Tryd.prog 21 #[.agg #[.slice va0 vn0 vc0, .slice va1 vn1 vc1, .slice va2 vn2 vc2, .slice va3 vn3 vc3], .agg #[.int .i64 site, .int .i64 num]] U fun e w' => e = .returned (.tuple #[.int .i64 CI, .int .i64 CE]) ∧ Below U.heap.size U w') := fun U hU => hCn U (HV.out.st.below hU)
  have HEn : Hid (∀ U, Below w.heap.size w U → Calls Tryd.prog 19 #[.agg #[.slice va0 vn0 vc0, .slice va1 vn1 vc1, .slice va2 vn2 vc2, .slice va3 vn3 vc3], .agg #[.int .i64 site, .int .i64 num], .bool yes] U fun e w' => ∃ r : SV, e = .returned (.tuple #[r.val, .int .i64 EE]) ∧ OwnStore w' U.heap.size r ∧ r.data = EDt ∧ Below U.heap.size U w') := fun U hU => hEn U (HV.out.st.below hU)
  have HDm : Hid (∀ U : World, U.ownsRow N0 145 4 (.slice va6 vn6 vc6) vn6 (flat NV.cells vns) → Calls Tryd.prog 68 #[.slice va6 vn6 vc6, .agg #[.int .i64 kind, .int .i64 frm, .int .i64 dst, .int .i64 site, .int .i64 num, .int .i64 label, .int .i64 key, .int .i64 value, .int .i64 version, .int .i64 ask, .bool yes, .int .i64 code]] U fun e w' => e = .returned (.bool DA) ∧ w'.ownsRow N0 145 4 (.slice va6 vn6 vc6) vn6 (flat NV.cells DN) ∧ U.grownBy w' NB) := hDm
  clear hCn hEn hDm
  have bxA := KA.out _ (Below.refl _ _)
  have a0 : W.cell? ⟨w.heap.size, 0, none⟩ = some (.slice va0 vn0 vc0) := (bxA.c 0 (by decide)).1
  have a1 : W.cell? ⟨w.heap.size, 1, none⟩ = some (.slice va1 vn1 vc1) := (bxA.c 1 (by decide)).1
  have a2 : W.cell? ⟨w.heap.size, 2, none⟩ = some (.slice va2 vn2 vc2) := (bxA.c 2 (by decide)).1
  have a3 : W.cell? ⟨w.heap.size, 3, none⟩ = some (.slice va3 vn3 vc3) := (bxA.c 3 (by decide)).1
  have m3 : W.cell? ⟨w.heap.size + 1, 3, none⟩ = some (.int .i64 site) := (bxM.c 3 (by decide)).1
  have m4 : W.cell? ⟨w.heap.size + 1, 4, none⟩ = some (.int .i64 num) := (bxM.c 4 (by decide)).1
  have zA := bxA.lt
  have zM := bxM.lt
  go_upto_region 2 with (go_at_call 21; refine (HCn.out _ hwW).mono ?_; rintro e u1 ⟨rfl, hb1⟩)
  clear a0 a1 a2 a3 m3 m4 bxA bxM HCn
  have bxA := KA.out _ hb1
  have bxM := KM.out _ hb1
  have hw1 := KW.out _ hb1
  have z1 := hb1.size
  have a0 : u1.cell? ⟨w.heap.size, 0, none⟩ = some (.slice va0 vn0 vc0) := (bxA.c 0 (by decide)).1
  have a1 : u1.cell? ⟨w.heap.size, 1, none⟩ = some (.slice va1 vn1 vc1) := (bxA.c 1 (by decide)).1
  have a2 : u1.cell? ⟨w.heap.size, 2, none⟩ = some (.slice va2 vn2 vc2) := (bxA.c 2 (by decide)).1
  have a3 : u1.cell? ⟨w.heap.size, 3, none⟩ = some (.slice va3 vn3 vc3) := (bxA.c 3 (by decide)).1
  have m3 : u1.cell? ⟨w.heap.size + 1, 3, none⟩ = some (.int .i64 site) := (bxM.c 3 (by decide)).1
  have m4 : u1.cell? ⟨w.heap.size + 1, 4, none⟩ = some (.int .i64 num) := (bxM.c 4 (by decide)).1
  have m10 : u1.cell? ⟨w.heap.size + 1, 10, none⟩ = some (.bool yes) := (bxM.c 10 (by decide)).1
  have zA1 := bxA.lt
  have zM1 := bxM.lt
  go_upto_region 3 with (go_at_call 19; refine (HEn.out _ hw1).mono ?_; rintro e u2 ⟨⟨ra0, rn0, rc0, ra1, rn1, rc1, ra2, rn2, rc2, ra3, rn3, rc3, ri, rl, rd, ro⟩, rfl, hO2, hd2, hb2⟩; simp only [SV.val]; have bxA2 := bxA.below hb2 bxA.lt; have zA2 := bxA2.lt; have x0 : u2.cell? ⟨w.heap.size, 0, none⟩ = some (.slice va0 vn0 vc0) := (bxA2.c 0 (by decide)).1; have xf0 := (bxA2.c 0 (by decide)).2; have x1 : u2.cell? ⟨w.heap.size, 1, none⟩ = some (.slice va1 vn1 vc1) := (bxA2.c 1 (by decide)).1; have xf1 := (bxA2.c 1 (by decide)).2; have x2 : u2.cell? ⟨w.heap.size, 2, none⟩ = some (.slice va2 vn2 vc2) := (bxA2.c 2 (by decide)).1; have xf2 := (bxA2.c 2 (by decide)).2; have x3 : u2.cell? ⟨w.heap.size, 3, none⟩ = some (.slice va3 vn3 vc3) := (bxA2.c 3 (by decide)).1; have xf3 := (bxA2.c 3 (by decide)).2)
  have hw2 := hw1.trans (hb2.mono hw1.size)
  have bW2 : Below W.heap.size W u2 := hb1.trans (hb2.mono z1)
  have zu2 := hb2.size
  have hC3 : w.heap.size + 3 ≤ u1.heap.size := by have := HSZ.out; omega
  have hH2 := Half.start (C := u1.heap.size) HV.out hw2 (KA.out _ bW2) (KQ.out _ bW2) hC3 NB HNB.out
  have hH3 := Half.store hH2 hO2 (Nat.le_refl _)
  simp only [] at hH3
  have hO3 := ownS (ownS (ownS (ownS hO2 (q := w.heap.size) (by omega) 0 (.slice ra0 rn0 rc0)) (q := w.heap.size) (by omega) 1 (.slice ra1 rn1 rc1)) (q := w.heap.size) (by omega) 2 (.slice ra2 rn2 rc2)) (q := w.heap.size) (by omega) 3 (.slice ra3 rn3 rc3)
  have hneM : w.heap.size + 1 ≠ w.heap.size := by omega
  have bxM2 := KM.out _ bW2
  have bxM3 : BoxN ((((u2.setCell ⟨w.heap.size, 0, none⟩ (.slice ra0 rn0 rc0)).setCell ⟨w.heap.size, 1, none⟩ (.slice ra1 rn1 rc1)).setCell ⟨w.heap.size, 2, none⟩ (.slice ra2 rn2 rc2)).setCell ⟨w.heap.size, 3, none⟩ (.slice ra3 rn3 rc3)) (w.heap.size + 1) 12 [.int .i64 kind, .int .i64 frm, .int .i64 dst, .int .i64 site, .int .i64 num, .int .i64 label, .int .i64 key, .int .i64 value, .int .i64 version, .int .i64 ask, .bool yes, .int .i64 code] := (((bxM2.far hneM).far hneM).far hneM).far hneM
  have hw3 : Below w.heap.size w ((((u2.setCell ⟨w.heap.size, 0, none⟩ (.slice ra0 rn0 rc0)).setCell ⟨w.heap.size, 1, none⟩ (.slice ra1 rn1 rc1)).setCell ⟨w.heap.size, 2, none⟩ (.slice ra2 rn2 rc2)).setCell ⟨w.heap.size, 3, none⟩ (.slice ra3 rn3 rc3)) := (((hw2.setCell (p := ⟨w.heap.size, 0, none⟩) (Nat.le_refl _) _).setCell (p := ⟨w.heap.size, 1, none⟩) (Nat.le_refl _) _).setCell (p := ⟨w.heap.size, 2, none⟩) (Nat.le_refl _) _).setCell (p := ⟨w.heap.size, 3, none⟩) (Nat.le_refl _) _
  have hsz3 : u1.heap.size ≤ ((((u2.setCell ⟨w.heap.size, 0, none⟩ (.slice ra0 rn0 rc0)).setCell ⟨w.heap.size, 1, none⟩ (.slice ra1 rn1 rc1)).setCell ⟨w.heap.size, 2, none⟩ (.slice ra2 rn2 rc2)).setCell ⟨w.heap.size, 3, none⟩ (.slice ra3 rn3 rc3)).heap.size := by simpa using zu2
  obtain ⟨X3, eX3⟩ : ∃ x, x = ((((u2.setCell ⟨w.heap.size, 0, none⟩ (.slice ra0 rn0 rc0)).setCell ⟨w.heap.size, 1, none⟩ (.slice ra1 rn1 rc1)).setCell ⟨w.heap.size, 2, none⟩ (.slice ra2 rn2 rc2)).setCell ⟨w.heap.size, 3, none⟩ (.slice ra3 rn3 rc3)) := ⟨_, rfl⟩
  rw [← eX3] at hH3 hO3 bxM3 hw3 hsz3 ⊢
  clear eX3 a0 a1 a2 a3 m3 m4 m10 x0 xf0 x1 xf1 x2 xf2 x3 xf3 bxA2 bxM2 hH2 bxA bxM HEn
  have ownX := own_below HOwn.out hw3
  have m0 : X3.cell? ⟨w.heap.size + 1, 0, none⟩ = some (.int .i64 kind) := (bxM3.c 0 (by decide)).1
  have m1 : X3.cell? ⟨w.heap.size + 1, 1, none⟩ = some (.int .i64 frm) := (bxM3.c 1 (by decide)).1
  have m2 : X3.cell? ⟨w.heap.size + 1, 2, none⟩ = some (.int .i64 dst) := (bxM3.c 2 (by decide)).1
  have m3 : X3.cell? ⟨w.heap.size + 1, 3, none⟩ = some (.int .i64 site) := (bxM3.c 3 (by decide)).1
  have m4 : X3.cell? ⟨w.heap.size + 1, 4, none⟩ = some (.int .i64 num) := (bxM3.c 4 (by decide)).1
  have m5 : X3.cell? ⟨w.heap.size + 1, 5, none⟩ = some (.int .i64 label) := (bxM3.c 5 (by decide)).1
  have m6 : X3.cell? ⟨w.heap.size + 1, 6, none⟩ = some (.int .i64 key) := (bxM3.c 6 (by decide)).1
  have m7 : X3.cell? ⟨w.heap.size + 1, 7, none⟩ = some (.int .i64 value) := (bxM3.c 7 (by decide)).1
  have m8 : X3.cell? ⟨w.heap.size + 1, 8, none⟩ = some (.int .i64 version) := (bxM3.c 8 (by decide)).1
  have m9 : X3.cell? ⟨w.heap.size + 1, 9, none⟩ = some (.int .i64 ask) := (bxM3.c 9 (by decide)).1
  have m10 : X3.cell? ⟨w.heap.size + 1, 10, none⟩ = some (.bool yes) := (bxM3.c 10 (by decide)).1
  have m11 : X3.cell? ⟨w.heap.size + 1, 11, none⟩ = some (.int .i64 code) := (bxM3.c 11 (by decide)).1
  have a6 : X3.cell? ⟨w.heap.size, 6, none⟩ = some (.slice va6 vn6 vc6) := (hH3.A.c 6 (by decide)).1
  have zA3 := hH3.A.lt
  have zM3 := bxM3.lt
  obtain ⟨ANS, eANS⟩ : ∃ x : Bool, x = (DA || decide (0 < CI)) := ⟨_, rfl⟩
  rw [← eANS] at HRD
  have hcase : (DA = true → ANS = true) ∧ (DA = false → 0 < CI → ANS = true) ∧ (DA = false → ¬ 0 < CI → ANS = false) := by
    refine ⟨fun h => by rw [eANS, h]; rfl, fun h h2 => by rw [eANS, h]; simpa using h2, fun h h2 => by rw [eANS, h]; simp only [Bool.false_or, decide_eq_false_iff_not]; exact h2⟩
  clear eANS
  have HDmT : Hid (DA = true → DA = true) := fun h => h
  by_cases hDA : DA = true
  · have hAN := hcase.1 hDA
    subst hDA
    clear hcase
    go_upto_region 4 with (go_at_call 68; refine (HDm.out _ ownX).mono ?_; rintro e u3 ⟨rfl, own3, hg3⟩)
    have hn4 := (own_isRow ncells_len own3 HLN.out).1
    have hH4 := Half.dmg hH3 hO3 (Nat.le_refl _) hg3 hn4
    have bxM4 : BoxN u3 (w.heap.size + 1) 12 [.int .i64 kind, .int .i64 frm, .int .i64 dst, .int .i64 site, .int .i64 num, .int .i64 label, .int .i64 key, .int .i64 value, .int .i64 version, .int .i64 ask, .bool yes, .int .i64 code] := bxM3.grown hg3 (fun e => by have := HNB.out _ e.symm; omega)
    have HC4 : Hid (u1.heap.size ≤ u3.heap.size) := Nat.le_trans hsz3 hg3.size
    have zA4 := hH4.A.lt
    have zM4 := bxM4.lt
    clear m0 m1 m2 m3 m4 m5 m6 m7 m8 m9 m10 m11 a6 hH3 hO3 bxM3 ownX HDm
    have m3 : u3.cell? ⟨w.heap.size + 1, 3, none⟩ = some (.int .i64 site) := (bxM4.c 3 (by decide)).1
    have m4 : u3.cell? ⟨w.heap.size + 1, 4, none⟩ = some (.int .i64 num) := (bxM4.c 4 (by decide)).1
    have m10 : u3.cell? ⟨w.heap.size + 1, 10, none⟩ = some (.bool yes) := (bxM4.c 10 (by decide)).1
    have a5 : u3.cell? ⟨w.heap.size, 5, none⟩ = some (.slice none 0 0) := (hH4.A.c 5 (by decide)).1
    have af5 := (hH4.A.c 5 (by decide)).2
    go_upto_region 5 with (fail)
    have hH5 := Half.rcd2 hH4 (g := ⟨2, site, num, 0, 0, 0, yes⟩) (cs := #[.int .i64 2, .int .i64 site, .int .i64 num, .int .i64 0, .int .i64 0, .int .i64 0, .bool yes, .slice none 0 0]) (ty := 69) rfl rfl HC4.out
    have bs5 : Below (u3.setCell ⟨w.heap.size, 5, none⟩ (.slice (some ⟨u3.heap.size, 0, none⟩) 1 1)).heap.size (u3.setCell ⟨w.heap.size, 5, none⟩ (.slice (some ⟨u3.heap.size, 0, none⟩) 1 1)) ((u3.setCell ⟨w.heap.size, 5, none⟩ (.slice (some ⟨u3.heap.size, 0, none⟩) 1 1)).alloc (.cells #[.int .i64 2, .int .i64 site, .int .i64 num, .int .i64 0, .int .i64 0, .int .i64 0, .bool yes, .slice none 0 0] 69)) := (Below.refl _ _).alloc (Nat.le_refl _) _
    have bxM5a : BoxN (u3.setCell ⟨w.heap.size, 5, none⟩ (.slice (some ⟨u3.heap.size, 0, none⟩) 1 1)) (w.heap.size + 1) 12 [.int .i64 kind, .int .i64 frm, .int .i64 dst, .int .i64 site, .int .i64 num, .int .i64 label, .int .i64 key, .int .i64 value, .int .i64 version, .int .i64 ask, .bool yes, .int .i64 code] := bxM4.far hneM
    have bxM5 := bxM5a.below bs5 bxM5a.lt
    obtain ⟨X5, eX5⟩ : ∃ x, x = (u3.setCell ⟨w.heap.size, 5, none⟩ (.slice (some ⟨u3.heap.size, 0, none⟩) 1 1)).alloc (.cells #[.int .i64 2, .int .i64 site, .int .i64 num, .int .i64 0, .int .i64 0, .int .i64 0, .bool yes, .slice none 0 0] 69) := ⟨_, rfl⟩
    have HC5 : Hid (u1.heap.size ≤ X5.heap.size) := by show _ ≤ _; rw [eX5]; have := HC4.out; simp; omega
    rw [← eX5] at hH5 bxM5 ⊢
    clear eX5 bxM5a bs5 m3 m4 m10 a5 af5
    have HBk : Hid (Calls Tryd.prog 65 #[.int .i64 8, .agg #[.int .i64 kind, .int .i64 frm, .int .i64 dst, .int .i64 site, .int .i64 num, .int .i64 label, .int .i64 key, .int .i64 value, .int .i64 version, .int .i64 ask, .bool yes, .int .i64 code]] X5 fun e w' => e = .returned (.agg #[.int .i64 8, .int .i64 dst, .int .i64 frm, .int .i64 site, .int .i64 num, .int .i64 0, .int .i64 0, .int .i64 0, .int .i64 0, .int .i64 0, .bool false, .int .i64 0]) ∧ Below X5.heap.size X5 w') := back_any 8 ⟨kind, frm, dst, site, num, label, key, value, version, ask, yes, code⟩ X5
    have m0 : X5.cell? ⟨w.heap.size + 1, 0, none⟩ = some (.int .i64 kind) := (bxM5.c 0 (by decide)).1
    have m1 : X5.cell? ⟨w.heap.size + 1, 1, none⟩ = some (.int .i64 frm) := (bxM5.c 1 (by decide)).1
    have m2 : X5.cell? ⟨w.heap.size + 1, 2, none⟩ = some (.int .i64 dst) := (bxM5.c 2 (by decide)).1
    have m3 : X5.cell? ⟨w.heap.size + 1, 3, none⟩ = some (.int .i64 site) := (bxM5.c 3 (by decide)).1
    have m4 : X5.cell? ⟨w.heap.size + 1, 4, none⟩ = some (.int .i64 num) := (bxM5.c 4 (by decide)).1
    have m5 : X5.cell? ⟨w.heap.size + 1, 5, none⟩ = some (.int .i64 label) := (bxM5.c 5 (by decide)).1
    have m6 : X5.cell? ⟨w.heap.size + 1, 6, none⟩ = some (.int .i64 key) := (bxM5.c 6 (by decide)).1
    have m7 : X5.cell? ⟨w.heap.size + 1, 7, none⟩ = some (.int .i64 value) := (bxM5.c 7 (by decide)).1
    have m8 : X5.cell? ⟨w.heap.size + 1, 8, none⟩ = some (.int .i64 version) := (bxM5.c 8 (by decide)).1
    have m9 : X5.cell? ⟨w.heap.size + 1, 9, none⟩ = some (.int .i64 ask) := (bxM5.c 9 (by decide)).1
    have m10 : X5.cell? ⟨w.heap.size + 1, 10, none⟩ = some (.bool yes) := (bxM5.c 10 (by decide)).1
    have m11 : X5.cell? ⟨w.heap.size + 1, 11, none⟩ = some (.int .i64 code) := (bxM5.c 11 (by decide)).1
    have zM5 := bxM5.lt
    go_upto_region 6 with (go_at_call 65; refine HBk.out.mono ?_; rintro e u6 ⟨rfl, hb6⟩; have hH6 := hH5.below hb6; have a4 : u6.cell? ⟨w.heap.size, 4, none⟩ = some (.slice none 0 0) := (hH6.A.c 4 (by decide)).1; have af4 := (hH6.A.c 4 (by decide)).2; have zA6 := hH6.A.lt)
    have z6 := hb6.size
    have hH9 := Half.msg2 hH6 (g := ⟨8, dst, frm, site, num, 0, 0, 0, 0, 0, false, 0⟩) (cs := #[.int .i64 8, .int .i64 dst, .int .i64 frm, .int .i64 site, .int .i64 num, .int .i64 0, .int .i64 0, .int .i64 0, .int .i64 0, .int .i64 0, .bool false, .int .i64 0]) (ty := 33) rfl rfl (Nat.le_trans HC5.out z6)
    obtain ⟨X9, eX9⟩ : ∃ x, x = (u6.setCell ⟨w.heap.size, 4, none⟩ (.slice (some ⟨u6.heap.size, 0, none⟩) 1 1)).alloc (.cells #[.int .i64 8, .int .i64 dst, .int .i64 frm, .int .i64 site, .int .i64 num, .int .i64 0, .int .i64 0, .int .i64 0, .int .i64 0, .int .i64 0, .bool false, .int .i64 0] 33) := ⟨_, rfl⟩
    rw [← eX9] at hH9 ⊢
    clear eX9 a4 af4 zA6 m0 m1 m2 m3 m4 m5 m6 m7 m8 m9 m10 m11
    have hF := hH9.fin (.slice ra0 rn0 rc0) (.slice ra1 rn1 rc1) (.slice ra2 rn2 rc2) (.slice ra3 rn3 rc3) (.slice (some ⟨u6.heap.size, 0, none⟩) 1 1) (.slice (some ⟨u3.heap.size, 0, none⟩) 1 1) (.slice va6 vn6 vc6)
    have k0 : X9.cell? ⟨w.heap.size, 0, none⟩ = some (.slice ra0 rn0 rc0) := (hH9.A.c 0 (by decide)).1
    have q0 : X9.cell? ⟨w.heap.size + 2, 0, none⟩ = some (.slice none 0 0) := (hH9.Q.c 0 (by decide)).1
    have qf0 := (hH9.Q.c 0 (by decide)).2
    have k1 : X9.cell? ⟨w.heap.size, 1, none⟩ = some (.slice ra1 rn1 rc1) := (hH9.A.c 1 (by decide)).1
    have q1 : X9.cell? ⟨w.heap.size + 2, 1, none⟩ = some (.slice none 0 0) := (hH9.Q.c 1 (by decide)).1
    have qf1 := (hH9.Q.c 1 (by decide)).2
    have k2 : X9.cell? ⟨w.heap.size, 2, none⟩ = some (.slice ra2 rn2 rc2) := (hH9.A.c 2 (by decide)).1
    have q2 : X9.cell? ⟨w.heap.size + 2, 2, none⟩ = some (.slice none 0 0) := (hH9.Q.c 2 (by decide)).1
    have qf2 := (hH9.Q.c 2 (by decide)).2
    have k3 : X9.cell? ⟨w.heap.size, 3, none⟩ = some (.slice ra3 rn3 rc3) := (hH9.A.c 3 (by decide)).1
    have q3 : X9.cell? ⟨w.heap.size + 2, 3, none⟩ = some (.slice none 0 0) := (hH9.Q.c 3 (by decide)).1
    have qf3 := (hH9.Q.c 3 (by decide)).2
    have k4 : X9.cell? ⟨w.heap.size, 4, none⟩ = some (.slice (some ⟨u6.heap.size, 0, none⟩) 1 1) := (hH9.A.c 4 (by decide)).1
    have q4 : X9.cell? ⟨w.heap.size + 2, 4, none⟩ = some (.slice none 0 0) := (hH9.Q.c 4 (by decide)).1
    have qf4 := (hH9.Q.c 4 (by decide)).2
    have k5 : X9.cell? ⟨w.heap.size, 5, none⟩ = some (.slice (some ⟨u3.heap.size, 0, none⟩) 1 1) := (hH9.A.c 5 (by decide)).1
    have q5 : X9.cell? ⟨w.heap.size + 2, 5, none⟩ = some (.slice none 0 0) := (hH9.Q.c 5 (by decide)).1
    have qf5 := (hH9.Q.c 5 (by decide)).2
    have k6 : X9.cell? ⟨w.heap.size, 6, none⟩ = some (.slice va6 vn6 vc6) := (hH9.A.c 6 (by decide)).1
    have q6 : X9.cell? ⟨w.heap.size + 2, 6, none⟩ = some (.slice none 0 0) := (hH9.Q.c 6 (by decide)).1
    have qf6 := (hH9.Q.c 6 (by decide)).2
    have zk := hH9.A.lt
    have zq := hH9.Q.lt
    go_wp2
    refine bodyPost_ret (v := .agg #[.slice ra0 rn0 rc0, .slice ra1 rn1 rc1, .slice ra2 rn2 rc2, .slice ra3 rn3 rc3, .slice (some ⟨u6.heap.size, 0, none⟩) 1 1, .slice (some ⟨u3.heap.size, 0, none⟩) 1 1, .slice va6 vn6 vc6]) (by simp [results, Tryd.results30, go_sem, q0, q1, q2, q3, q4, q5, q6]) rfl ⟨_, rfl, hF.1, by rw [HRD.out]; simp [AnsV.data, hd2, hAN, backM], hF.2, hH9.far⟩
  · have hDA : DA = false := by simpa using hDA
    by_cases hci : 0 < CI
    · have hAN := hcase.2.1 hDA hci
      subst hDA
      clear hcase
      go_upto_region 4 with (go_at_call 68; refine (HDm.out _ ownX).mono ?_; rintro e u3 ⟨rfl, own3, hg3⟩)
      have hn4 := (own_isRow ncells_len own3 HLN.out).1
      have hH4 := Half.dmg hH3 hO3 (Nat.le_refl _) hg3 hn4
      have bxM4 : BoxN u3 (w.heap.size + 1) 12 [.int .i64 kind, .int .i64 frm, .int .i64 dst, .int .i64 site, .int .i64 num, .int .i64 label, .int .i64 key, .int .i64 value, .int .i64 version, .int .i64 ask, .bool yes, .int .i64 code] := bxM3.grown hg3 (fun e => by have := HNB.out _ e.symm; omega)
      have HC4 : Hid (u1.heap.size ≤ u3.heap.size) := Nat.le_trans hsz3 hg3.size
      have zA4 := hH4.A.lt
      have zM4 := bxM4.lt
      clear m0 m1 m2 m3 m4 m5 m6 m7 m8 m9 m10 m11 a6 hH3 hO3 bxM3 ownX HDm
      have m3 : u3.cell? ⟨w.heap.size + 1, 3, none⟩ = some (.int .i64 site) := (bxM4.c 3 (by decide)).1
      have m4 : u3.cell? ⟨w.heap.size + 1, 4, none⟩ = some (.int .i64 num) := (bxM4.c 4 (by decide)).1
      have m10 : u3.cell? ⟨w.heap.size + 1, 10, none⟩ = some (.bool yes) := (bxM4.c 10 (by decide)).1
      have a5 : u3.cell? ⟨w.heap.size, 5, none⟩ = some (.slice none 0 0) := (hH4.A.c 5 (by decide)).1
      have af5 := (hH4.A.c 5 (by decide)).2
      go_upto_region 5 with (fail)
      have hH5 := Half.rcd2 hH4 (g := ⟨2, site, num, 0, 0, 0, yes⟩) (cs := #[.int .i64 2, .int .i64 site, .int .i64 num, .int .i64 0, .int .i64 0, .int .i64 0, .bool yes, .slice none 0 0]) (ty := 69) rfl rfl HC4.out
      have bs5 : Below (u3.setCell ⟨w.heap.size, 5, none⟩ (.slice (some ⟨u3.heap.size, 0, none⟩) 1 1)).heap.size (u3.setCell ⟨w.heap.size, 5, none⟩ (.slice (some ⟨u3.heap.size, 0, none⟩) 1 1)) ((u3.setCell ⟨w.heap.size, 5, none⟩ (.slice (some ⟨u3.heap.size, 0, none⟩) 1 1)).alloc (.cells #[.int .i64 2, .int .i64 site, .int .i64 num, .int .i64 0, .int .i64 0, .int .i64 0, .bool yes, .slice none 0 0] 69)) := (Below.refl _ _).alloc (Nat.le_refl _) _
      have bxM5a : BoxN (u3.setCell ⟨w.heap.size, 5, none⟩ (.slice (some ⟨u3.heap.size, 0, none⟩) 1 1)) (w.heap.size + 1) 12 [.int .i64 kind, .int .i64 frm, .int .i64 dst, .int .i64 site, .int .i64 num, .int .i64 label, .int .i64 key, .int .i64 value, .int .i64 version, .int .i64 ask, .bool yes, .int .i64 code] := bxM4.far hneM
      have bxM5 := bxM5a.below bs5 bxM5a.lt
      obtain ⟨X5, eX5⟩ : ∃ x, x = (u3.setCell ⟨w.heap.size, 5, none⟩ (.slice (some ⟨u3.heap.size, 0, none⟩) 1 1)).alloc (.cells #[.int .i64 2, .int .i64 site, .int .i64 num, .int .i64 0, .int .i64 0, .int .i64 0, .bool yes, .slice none 0 0] 69) := ⟨_, rfl⟩
      have HC5 : Hid (u1.heap.size ≤ X5.heap.size) := by show _ ≤ _; rw [eX5]; have := HC4.out; simp; omega
      rw [← eX5] at hH5 bxM5 ⊢
      clear eX5 bxM5a bs5 m3 m4 m10 a5 af5
      have HBk : Hid (Calls Tryd.prog 65 #[.int .i64 8, .agg #[.int .i64 kind, .int .i64 frm, .int .i64 dst, .int .i64 site, .int .i64 num, .int .i64 label, .int .i64 key, .int .i64 value, .int .i64 version, .int .i64 ask, .bool yes, .int .i64 code]] X5 fun e w' => e = .returned (.agg #[.int .i64 8, .int .i64 dst, .int .i64 frm, .int .i64 site, .int .i64 num, .int .i64 0, .int .i64 0, .int .i64 0, .int .i64 0, .int .i64 0, .bool false, .int .i64 0]) ∧ Below X5.heap.size X5 w') := back_any 8 ⟨kind, frm, dst, site, num, label, key, value, version, ask, yes, code⟩ X5
      have m0 : X5.cell? ⟨w.heap.size + 1, 0, none⟩ = some (.int .i64 kind) := (bxM5.c 0 (by decide)).1
      have m1 : X5.cell? ⟨w.heap.size + 1, 1, none⟩ = some (.int .i64 frm) := (bxM5.c 1 (by decide)).1
      have m2 : X5.cell? ⟨w.heap.size + 1, 2, none⟩ = some (.int .i64 dst) := (bxM5.c 2 (by decide)).1
      have m3 : X5.cell? ⟨w.heap.size + 1, 3, none⟩ = some (.int .i64 site) := (bxM5.c 3 (by decide)).1
      have m4 : X5.cell? ⟨w.heap.size + 1, 4, none⟩ = some (.int .i64 num) := (bxM5.c 4 (by decide)).1
      have m5 : X5.cell? ⟨w.heap.size + 1, 5, none⟩ = some (.int .i64 label) := (bxM5.c 5 (by decide)).1
      have m6 : X5.cell? ⟨w.heap.size + 1, 6, none⟩ = some (.int .i64 key) := (bxM5.c 6 (by decide)).1
      have m7 : X5.cell? ⟨w.heap.size + 1, 7, none⟩ = some (.int .i64 value) := (bxM5.c 7 (by decide)).1
      have m8 : X5.cell? ⟨w.heap.size + 1, 8, none⟩ = some (.int .i64 version) := (bxM5.c 8 (by decide)).1
      have m9 : X5.cell? ⟨w.heap.size + 1, 9, none⟩ = some (.int .i64 ask) := (bxM5.c 9 (by decide)).1
      have m10 : X5.cell? ⟨w.heap.size + 1, 10, none⟩ = some (.bool yes) := (bxM5.c 10 (by decide)).1
      have m11 : X5.cell? ⟨w.heap.size + 1, 11, none⟩ = some (.int .i64 code) := (bxM5.c 11 (by decide)).1
      have zM5 := bxM5.lt
      go_upto_region 6 with (go_at_call 65; refine HBk.out.mono ?_; rintro e u6 ⟨rfl, hb6⟩; have hH6 := hH5.below hb6; have a4 : u6.cell? ⟨w.heap.size, 4, none⟩ = some (.slice none 0 0) := (hH6.A.c 4 (by decide)).1; have af4 := (hH6.A.c 4 (by decide)).2; have zA6 := hH6.A.lt)
      have z6 := hb6.size
      have hH9 := Half.msg2 hH6 (g := ⟨8, dst, frm, site, num, 0, 0, 0, 0, 0, false, 0⟩) (cs := #[.int .i64 8, .int .i64 dst, .int .i64 frm, .int .i64 site, .int .i64 num, .int .i64 0, .int .i64 0, .int .i64 0, .int .i64 0, .int .i64 0, .bool false, .int .i64 0]) (ty := 33) rfl rfl (Nat.le_trans HC5.out z6)
      obtain ⟨X9, eX9⟩ : ∃ x, x = (u6.setCell ⟨w.heap.size, 4, none⟩ (.slice (some ⟨u6.heap.size, 0, none⟩) 1 1)).alloc (.cells #[.int .i64 8, .int .i64 dst, .int .i64 frm, .int .i64 site, .int .i64 num, .int .i64 0, .int .i64 0, .int .i64 0, .int .i64 0, .int .i64 0, .bool false, .int .i64 0] 33) := ⟨_, rfl⟩
      rw [← eX9] at hH9 ⊢
      clear eX9 a4 af4 zA6 m0 m1 m2 m3 m4 m5 m6 m7 m8 m9 m10 m11
      have hF := hH9.fin (.slice ra0 rn0 rc0) (.slice ra1 rn1 rc1) (.slice ra2 rn2 rc2) (.slice ra3 rn3 rc3) (.slice (some ⟨u6.heap.size, 0, none⟩) 1 1) (.slice (some ⟨u3.heap.size, 0, none⟩) 1 1) (.slice va6 vn6 vc6)
      have k0 : X9.cell? ⟨w.heap.size, 0, none⟩ = some (.slice ra0 rn0 rc0) := (hH9.A.c 0 (by decide)).1
      have q0 : X9.cell? ⟨w.heap.size + 2, 0, none⟩ = some (.slice none 0 0) := (hH9.Q.c 0 (by decide)).1
      have qf0 := (hH9.Q.c 0 (by decide)).2
      have k1 : X9.cell? ⟨w.heap.size, 1, none⟩ = some (.slice ra1 rn1 rc1) := (hH9.A.c 1 (by decide)).1
      have q1 : X9.cell? ⟨w.heap.size + 2, 1, none⟩ = some (.slice none 0 0) := (hH9.Q.c 1 (by decide)).1
      have qf1 := (hH9.Q.c 1 (by decide)).2
      have k2 : X9.cell? ⟨w.heap.size, 2, none⟩ = some (.slice ra2 rn2 rc2) := (hH9.A.c 2 (by decide)).1
      have q2 : X9.cell? ⟨w.heap.size + 2, 2, none⟩ = some (.slice none 0 0) := (hH9.Q.c 2 (by decide)).1
      have qf2 := (hH9.Q.c 2 (by decide)).2
      have k3 : X9.cell? ⟨w.heap.size, 3, none⟩ = some (.slice ra3 rn3 rc3) := (hH9.A.c 3 (by decide)).1
      have q3 : X9.cell? ⟨w.heap.size + 2, 3, none⟩ = some (.slice none 0 0) := (hH9.Q.c 3 (by decide)).1
      have qf3 := (hH9.Q.c 3 (by decide)).2
      have k4 : X9.cell? ⟨w.heap.size, 4, none⟩ = some (.slice (some ⟨u6.heap.size, 0, none⟩) 1 1) := (hH9.A.c 4 (by decide)).1
      have q4 : X9.cell? ⟨w.heap.size + 2, 4, none⟩ = some (.slice none 0 0) := (hH9.Q.c 4 (by decide)).1
      have qf4 := (hH9.Q.c 4 (by decide)).2
      have k5 : X9.cell? ⟨w.heap.size, 5, none⟩ = some (.slice (some ⟨u3.heap.size, 0, none⟩) 1 1) := (hH9.A.c 5 (by decide)).1
      have q5 : X9.cell? ⟨w.heap.size + 2, 5, none⟩ = some (.slice none 0 0) := (hH9.Q.c 5 (by decide)).1
      have qf5 := (hH9.Q.c 5 (by decide)).2
      have k6 : X9.cell? ⟨w.heap.size, 6, none⟩ = some (.slice va6 vn6 vc6) := (hH9.A.c 6 (by decide)).1
      have q6 : X9.cell? ⟨w.heap.size + 2, 6, none⟩ = some (.slice none 0 0) := (hH9.Q.c 6 (by decide)).1
      have qf6 := (hH9.Q.c 6 (by decide)).2
      have zk := hH9.A.lt
      have zq := hH9.Q.lt
      go_wp2
      refine bodyPost_ret (v := .agg #[.slice ra0 rn0 rc0, .slice ra1 rn1 rc1, .slice ra2 rn2 rc2, .slice ra3 rn3 rc3, .slice (some ⟨u6.heap.size, 0, none⟩) 1 1, .slice (some ⟨u3.heap.size, 0, none⟩) 1 1, .slice va6 vn6 vc6]) (by simp [results, Tryd.results30, go_sem, q0, q1, q2, q3, q4, q5, q6]) rfl ⟨_, rfl, hF.1, by rw [HRD.out]; simp [AnsV.data, hd2, hAN, backM], hF.2, hH9.far⟩
    · have hAN := hcase.2.2 hDA hci
      have hci2 : CI ≤ 0 := by omega
      subst hDA
      clear hcase
      go_upto_region 5 with (go_at_call 68; refine (HDm.out _ ownX).mono ?_; rintro e u3 ⟨rfl, own3, hg3⟩)
      have hn4 := (own_isRow ncells_len own3 HLN.out).1
      have hH4 := Half.dmg hH3 hO3 (Nat.le_refl _) hg3 hn4
      have bxM4 : BoxN u3 (w.heap.size + 1) 12 [.int .i64 kind, .int .i64 frm, .int .i64 dst, .int .i64 site, .int .i64 num, .int .i64 label, .int .i64 key, .int .i64 value, .int .i64 version, .int .i64 ask, .bool yes, .int .i64 code] := bxM3.grown hg3 (fun e => by have := HNB.out _ e.symm; omega)
      have HC4 : Hid (u1.heap.size ≤ u3.heap.size) := Nat.le_trans hsz3 hg3.size
      have zA4 := hH4.A.lt
      have zM4 := bxM4.lt
      clear m0 m1 m2 m3 m4 m5 m6 m7 m8 m9 m10 m11 a6 hH3 hO3 bxM3 ownX HDm
      have hH5 := hH4
      have bxM5 := bxM4
      have HC5 := HC4
      obtain ⟨X5, eX5⟩ : ∃ x, x = u3 := ⟨_, rfl⟩
      rw [← eX5] at hH5 bxM5 HC5 ⊢
      clear eX5
      have HBk : Hid (Calls Tryd.prog 65 #[.int .i64 8, .agg #[.int .i64 kind, .int .i64 frm, .int .i64 dst, .int .i64 site, .int .i64 num, .int .i64 label, .int .i64 key, .int .i64 value, .int .i64 version, .int .i64 ask, .bool yes, .int .i64 code]] X5 fun e w' => e = .returned (.agg #[.int .i64 8, .int .i64 dst, .int .i64 frm, .int .i64 site, .int .i64 num, .int .i64 0, .int .i64 0, .int .i64 0, .int .i64 0, .int .i64 0, .bool false, .int .i64 0]) ∧ Below X5.heap.size X5 w') := back_any 8 ⟨kind, frm, dst, site, num, label, key, value, version, ask, yes, code⟩ X5
      have m0 : X5.cell? ⟨w.heap.size + 1, 0, none⟩ = some (.int .i64 kind) := (bxM5.c 0 (by decide)).1
      have m1 : X5.cell? ⟨w.heap.size + 1, 1, none⟩ = some (.int .i64 frm) := (bxM5.c 1 (by decide)).1
      have m2 : X5.cell? ⟨w.heap.size + 1, 2, none⟩ = some (.int .i64 dst) := (bxM5.c 2 (by decide)).1
      have m3 : X5.cell? ⟨w.heap.size + 1, 3, none⟩ = some (.int .i64 site) := (bxM5.c 3 (by decide)).1
      have m4 : X5.cell? ⟨w.heap.size + 1, 4, none⟩ = some (.int .i64 num) := (bxM5.c 4 (by decide)).1
      have m5 : X5.cell? ⟨w.heap.size + 1, 5, none⟩ = some (.int .i64 label) := (bxM5.c 5 (by decide)).1
      have m6 : X5.cell? ⟨w.heap.size + 1, 6, none⟩ = some (.int .i64 key) := (bxM5.c 6 (by decide)).1
      have m7 : X5.cell? ⟨w.heap.size + 1, 7, none⟩ = some (.int .i64 value) := (bxM5.c 7 (by decide)).1
      have m8 : X5.cell? ⟨w.heap.size + 1, 8, none⟩ = some (.int .i64 version) := (bxM5.c 8 (by decide)).1
      have m9 : X5.cell? ⟨w.heap.size + 1, 9, none⟩ = some (.int .i64 ask) := (bxM5.c 9 (by decide)).1
      have m10 : X5.cell? ⟨w.heap.size + 1, 10, none⟩ = some (.bool yes) := (bxM5.c 10 (by decide)).1
      have m11 : X5.cell? ⟨w.heap.size + 1, 11, none⟩ = some (.int .i64 code) := (bxM5.c 11 (by decide)).1
      have zM5 := bxM5.lt
      go_upto_region 6 with (go_at_call 65; refine HBk.out.mono ?_; rintro e u6 ⟨rfl, hb6⟩; have hH6 := hH5.below hb6; have a4 : u6.cell? ⟨w.heap.size, 4, none⟩ = some (.slice none 0 0) := (hH6.A.c 4 (by decide)).1; have af4 := (hH6.A.c 4 (by decide)).2; have zA6 := hH6.A.lt)
      have z6 := hb6.size
      have hH9 := Half.msg2 hH6 (g := ⟨8, dst, frm, site, num, 0, 0, 0, 0, 0, false, 0⟩) (cs := #[.int .i64 8, .int .i64 dst, .int .i64 frm, .int .i64 site, .int .i64 num, .int .i64 0, .int .i64 0, .int .i64 0, .int .i64 0, .int .i64 0, .bool false, .int .i64 0]) (ty := 33) rfl rfl (Nat.le_trans HC5.out z6)
      obtain ⟨X9, eX9⟩ : ∃ x, x = (u6.setCell ⟨w.heap.size, 4, none⟩ (.slice (some ⟨u6.heap.size, 0, none⟩) 1 1)).alloc (.cells #[.int .i64 8, .int .i64 dst, .int .i64 frm, .int .i64 site, .int .i64 num, .int .i64 0, .int .i64 0, .int .i64 0, .int .i64 0, .int .i64 0, .bool false, .int .i64 0] 33) := ⟨_, rfl⟩
      rw [← eX9] at hH9 ⊢
      clear eX9 a4 af4 zA6 m0 m1 m2 m3 m4 m5 m6 m7 m8 m9 m10 m11
      have hF := hH9.fin (.slice ra0 rn0 rc0) (.slice ra1 rn1 rc1) (.slice ra2 rn2 rc2) (.slice ra3 rn3 rc3) (.slice (some ⟨u6.heap.size, 0, none⟩) 1 1) (.slice none 0 0) (.slice va6 vn6 vc6)
      have k0 : X9.cell? ⟨w.heap.size, 0, none⟩ = some (.slice ra0 rn0 rc0) := (hH9.A.c 0 (by decide)).1
      have q0 : X9.cell? ⟨w.heap.size + 2, 0, none⟩ = some (.slice none 0 0) := (hH9.Q.c 0 (by decide)).1
      have qf0 := (hH9.Q.c 0 (by decide)).2
      have k1 : X9.cell? ⟨w.heap.size, 1, none⟩ = some (.slice ra1 rn1 rc1) := (hH9.A.c 1 (by decide)).1
      have q1 : X9.cell? ⟨w.heap.size + 2, 1, none⟩ = some (.slice none 0 0) := (hH9.Q.c 1 (by decide)).1
      have qf1 := (hH9.Q.c 1 (by decide)).2
      have k2 : X9.cell? ⟨w.heap.size, 2, none⟩ = some (.slice ra2 rn2 rc2) := (hH9.A.c 2 (by decide)).1
      have q2 : X9.cell? ⟨w.heap.size + 2, 2, none⟩ = some (.slice none 0 0) := (hH9.Q.c 2 (by decide)).1
      have qf2 := (hH9.Q.c 2 (by decide)).2
      have k3 : X9.cell? ⟨w.heap.size, 3, none⟩ = some (.slice ra3 rn3 rc3) := (hH9.A.c 3 (by decide)).1
      have q3 : X9.cell? ⟨w.heap.size + 2, 3, none⟩ = some (.slice none 0 0) := (hH9.Q.c 3 (by decide)).1
      have qf3 := (hH9.Q.c 3 (by decide)).2
      have k4 : X9.cell? ⟨w.heap.size, 4, none⟩ = some (.slice (some ⟨u6.heap.size, 0, none⟩) 1 1) := (hH9.A.c 4 (by decide)).1
      have q4 : X9.cell? ⟨w.heap.size + 2, 4, none⟩ = some (.slice none 0 0) := (hH9.Q.c 4 (by decide)).1
      have qf4 := (hH9.Q.c 4 (by decide)).2
      have k5 : X9.cell? ⟨w.heap.size, 5, none⟩ = some (.slice none 0 0) := (hH9.A.c 5 (by decide)).1
      have q5 : X9.cell? ⟨w.heap.size + 2, 5, none⟩ = some (.slice none 0 0) := (hH9.Q.c 5 (by decide)).1
      have qf5 := (hH9.Q.c 5 (by decide)).2
      have k6 : X9.cell? ⟨w.heap.size, 6, none⟩ = some (.slice va6 vn6 vc6) := (hH9.A.c 6 (by decide)).1
      have q6 : X9.cell? ⟨w.heap.size + 2, 6, none⟩ = some (.slice none 0 0) := (hH9.Q.c 6 (by decide)).1
      have qf6 := (hH9.Q.c 6 (by decide)).2
      have zk := hH9.A.lt
      have zq := hH9.Q.lt
      go_wp2
      refine bodyPost_ret (v := .agg #[.slice ra0 rn0 rc0, .slice ra1 rn1 rc1, .slice ra2 rn2 rc2, .slice ra3 rn3 rc3, .slice (some ⟨u6.heap.size, 0, none⟩) 1 1, .slice none 0 0, .slice va6 vn6 vc6]) (by simp [results, Tryd.results30, go_sem, q0, q1, q2, q3, q4, q5, q6]) rfl ⟨_, rfl, hF.1, by rw [HRD.out]; simp [AnsV.data, hd2, hAN, backM], hF.2, hH9.far⟩
end Go.Proofs.YtcmjcopopkafnaaDoor.Pt
/- The contract of part.Hear. -/
namespace Go.Proofs.YtcmjcopopkafnaaDoor.Pt
open Go.ChangeShapes Go.WideShapes Go.ChangeAt Go.RowKit
open Go.Proofs.YtcmjcopopkafnaaDoor.St (SV PS IsStore IsRow storeOK TxWf BoxN boxn_new OwnStore flat flat_append Elem isOne grown_setCell own_below own_isRow isRow_nil cntErr cntIs endErr endData txOK readVal readVer readErr readData peekVal peekVer peekErr writeErr writeData stillIs refErr)
set_option linter.unusedVariables false

def hearV (l : Int) (ss : List SV) (room : Int) (m : MV) (v : AD) (own low : SV) : AD :=
  if m.kind = 1 then readD l own low m v else if m.kind = 2 then writeD own room m v else if m.kind = 3 then checkD l own low m v else decideD own m v
def hearD (s : Int) (ls : List (Int × Int)) (p l me : Int) (n : Nat) (ss : List SV) (ns : List NV) (room : Int) (m : MV) : AD :=
  if hearErr s ls p l me n ss m = 0 then hearV l ss room m ⟨(ss.getD l.toNat default).data, [], [], ns⟩ (ss.getD l.toNat default) (ss.getD m.label.toNat default) else AD.nil
theorem hearV_same {l : Int} {ss : List SV} {room : Int} {m : MV} {v : AD} {s r low : SV} (h : s.same r) : hearV l ss room m v r low = hearV l ss room m v s low := by
  obtain ⟨sa0, sn0, sc0, sa1, sn1, sc1, sa2, sn2, sc2, sa3, sn3, sc3, si, sl, sd, so⟩ := s
  obtain ⟨ra0, rn0, rc0, ra1, rn1, rc1, ra2, rn2, rc2, ra3, rn3, rc3, ri, rl, rd, ro⟩ := r
  obtain ⟨h1, h2, h3, h4, h5, h6, h7, h8⟩ := h
  simp only at h1 h2 h3 h4 h5 h6 h7 h8
  subst h1 h2 h3 h4 h5 h6 h7 h8
  rfl
theorem data_same {s r : SV} (h : s.same r) : r.data = s.data := by
  obtain ⟨sa0, sn0, sc0, sa1, sn1, sc1, sa2, sn2, sc2, sa3, sn3, sc3, si, sl, sd, so⟩ := s
  obtain ⟨ra0, rn0, rc0, ra1, rn1, rc1, ra2, rn2, rc2, ra3, rn3, rc3, ri, rl, rd, ro⟩ := r
  obtain ⟨h1, h2, h3, h4, h5, h6, h7, h8⟩ := h
  simp only at h1 h2 h3 h4 h5 h6 h7 h8
  subst h1 h2 h3 h4 h5 h6 h7 h8
  rfl
set_option maxRecDepth 100000 in
set_option maxHeartbeats 8000000 in
theorem hear_any (s p : Int) (a : Option Addr) (len cap : Nat) (ls : List (Int × Int)) (l me : Int) (sa : Option Addr) (n sc : Nat) (ss : List SV) (na : Option Addr) (nn nc : Nat) (ns : List NV) (room : Int) (m : MV) (w : World) (hl : IsLabs w a len cap ls) (hS : IsStores w sa n sc ss) (hN : IsNotes w na nn nc ns) (hn24 : nn * 24 ≤ 140737488351232) (hov : ∀ i, i < n → (ss.getD i default).ol * 16 ≤ 140737488351232) (hHa : HasAt w 0 mHas) (hTo : TopsAt w) :
    Calls Tryd.prog 12 #[.agg #[.int .i64 s, .slice a len cap, .int .i64 p], .int .i64 l, .int .i64 me, .slice sa n sc, .slice na nn nc, .int .i64 room, m.val] w fun e w' => ∃ v : AnsV, e = .returned (.tuple #[v.val, .int .i64 (hearErr s ls p l me n ss m)]) ∧ IsAns w' v ∧ v.data = hearD s ls p l me n ss ns room m ∧ Below w.heap.size w w' ∧ v.far w.heap.size := by
  have hgT : 1 < w.heap.size := World.block_lt_of_cell? w _ hTo.1
  have hgM : 0 < w.heap.size := hHa.lt (by decide)
  have HRf : Hid (∀ U, Below w.heap.size w U → Calls Tryd.prog 24 #[.agg #[.int .i64 s, .slice a len cap, .int .i64 p], .int .i64 l, .int .i64 me, .slice sa n sc, m.val] U fun e w' => e = .returned (.int .i64 (hearErr s ls p l me n ss m)) ∧ Below U.heap.size U w') := fun U hU => refuseHear_any s p a len cap ls l me sa n sc ss m U (hl.below hU) (hS.below hU) (hHa.below hU hgM) (hTo.below hU hgT)
  have hok := fun h => hear_ok (s := s) (ls := ls) (p := p) (l := l) (me := me) (n := n) (ss := ss) (m := m) h
  have hok2 := fun h => site_ok (s := s) (ls := ls) (p := p) (l := l) (me := me) (n := n) (ss := ss) h hS.row.1
  have hml := fun h => msg_lab (s := s) (ls := ls) (p := p) (m := m) h
  have HD : Hid (hearD s ls p l me n ss ns room m = if hearErr s ls p l me n ss m = 0 then hearV l ss room m ⟨(ss.getD l.toNat default).data, [], [], ns⟩ (ss.getD l.toNat default) (ss.getD m.label.toNat default) else AD.nil) := rfl
  obtain ⟨TD, eTD⟩ : ∃ x, x = hearD s ls p l me n ss ns room m := ⟨_, rfl⟩
  rw [← eTD] at HD ⊢
  clear eTD
  obtain ⟨E, eE⟩ : ∃ x, x = hearErr s ls p l me n ss m := ⟨_, rfl⟩
  rw [← eE] at HRf hok HD ⊢
  clear eE
  have HS0 : Hid (∀ V : World, Below w.heap.size w V → IsStores V sa n sc ss ∧ IsNotes V na nn nc ns) := fun V hV => ⟨hS.below hV, St.IsRow.below hN hV⟩
  have HSt : Hid (IsStores w sa n sc ss) := hS
  have HNl : Hid (ns.length = nn) := hN.1
  obtain ⟨M, eM⟩ : ∃ M : MV, M = m := ⟨_, rfl⟩
  have HM : Hid (M = m) := eM
  rw [← eM] at hok hml HD
  obtain ⟨kind, frm, dst, site, num, label, key, value, version, ask, yes, code⟩ := m
  simp only [MV.val] at HRf ⊢
  have HK : Hid (M.kind = kind ∧ M.label = label) := by rw [eM]; exact ⟨rfl, rfl⟩
  clear eM hl hS hN hHa hTo
  obtain ⟨W, hW⟩ : ∃ W : World, W = ((w.alloc (.cells #[.int .i64 s, .slice a len cap, .int .i64 p] 27)).alloc (.cells #[.int .i64 kind, .int .i64 frm, .int .i64 dst, .int .i64 site, .int .i64 num, .int .i64 label, .int .i64 key, .int .i64 value, .int .i64 version, .int .i64 ask, .bool yes, .int .i64 code] 33)).alloc (.cells #[.slice none 0 0, .slice none 0 0, .slice none 0 0, .slice none 0 0, .slice none 0 0, .slice none 0 0, .slice none 0 0] 48) := ⟨_, rfl⟩
  have hB : Below w.heap.size w W := by rw [hW]; exact (((Below.refl _ _).alloc (Nat.le_refl _) _).alloc (by simp) _).alloc (by simp; omega) _
  have eS : W.heap.size = w.heap.size + 3 := by rw [hW]; simp
  have HSZ : Hid (W.heap.size = w.heap.size + 3) := eS
  have zW : w.heap.size + 2 < W.heap.size := by omega
  have bxC : BoxN W w.heap.size 3 [.int .i64 s, .slice a len cap, .int .i64 p] := by
    rw [hW]
    have h1 := boxn_new w #[.int .i64 s, .slice a len cap, .int .i64 p] 27 3 rfl
    have h2 := h1.below ((Below.refl _ _).alloc (Nat.le_refl _) (.cells #[.int .i64 kind, .int .i64 frm, .int .i64 dst, .int .i64 site, .int .i64 num, .int .i64 label, .int .i64 key, .int .i64 value, .int .i64 version, .int .i64 ask, .bool yes, .int .i64 code] 33)) h1.lt
    exact h2.below ((Below.refl _ _).alloc (Nat.le_refl _) _) h2.lt
  have bxM : BoxN W (w.heap.size + 1) 12 [.int .i64 kind, .int .i64 frm, .int .i64 dst, .int .i64 site, .int .i64 num, .int .i64 label, .int .i64 key, .int .i64 value, .int .i64 version, .int .i64 ask, .bool yes, .int .i64 code] := by
    rw [hW]
    have h1 := boxn_new (w.alloc (.cells #[.int .i64 s, .slice a len cap, .int .i64 p] 27)) #[.int .i64 kind, .int .i64 frm, .int .i64 dst, .int .i64 site, .int .i64 num, .int .i64 label, .int .i64 key, .int .i64 value, .int .i64 version, .int .i64 ask, .bool yes, .int .i64 code] 33 12 rfl
    have h2 := h1.below ((Below.refl _ _).alloc (Nat.le_refl _) (.cells #[.slice none 0 0, .slice none 0 0, .slice none 0 0, .slice none 0 0, .slice none 0 0, .slice none 0 0, .slice none 0 0] 48)) h1.lt
    simpa using h2
  have bxQ : BoxN W (w.heap.size + 2) 7 [.slice none 0 0, .slice none 0 0, .slice none 0 0, .slice none 0 0, .slice none 0 0, .slice none 0 0, .slice none 0 0] := by
    rw [hW]
    have h1 := boxn_new ((w.alloc (.cells #[.int .i64 s, .slice a len cap, .int .i64 p] 27)).alloc (.cells #[.int .i64 kind, .int .i64 frm, .int .i64 dst, .int .i64 site, .int .i64 num, .int .i64 label, .int .i64 key, .int .i64 value, .int .i64 version, .int .i64 ask, .bool yes, .int .i64 code] 33)) #[.slice none 0 0, .slice none 0 0, .slice none 0 0, .slice none 0 0, .slice none 0 0, .slice none 0 0, .slice none 0 0] 48 7 rfl
    simpa using h1
  have KM : Hid (∀ U : World, Below W.heap.size W U → BoxN U (w.heap.size + 1) 12 [.int .i64 kind, .int .i64 frm, .int .i64 dst, .int .i64 site, .int .i64 num, .int .i64 label, .int .i64 key, .int .i64 value, .int .i64 version, .int .i64 ask, .bool yes, .int .i64 code]) := fun U hU => bxM.below hU bxM.lt
  have KQ : Hid (∀ U : World, Below W.heap.size W U → BoxN U (w.heap.size + 2) 7 [.slice none 0 0, .slice none 0 0, .slice none 0 0, .slice none 0 0, .slice none 0 0, .slice none 0 0, .slice none 0 0]) := fun U hU => bxQ.below hU bxQ.lt
  have KW : Hid (∀ U : World, Below W.heap.size W U → Below w.heap.size w U) := fun U hU => hB.trans (hU.mono hB.size)
  clear eS bxQ
  go_enter Tryd.func12, Tryd.ntmps12
  go_upto_region 1 with (fail)
  rw [← hW]
  clear hW
  have c0 : W.cell? ⟨w.heap.size, 0, none⟩ = some (.int .i64 s) := (bxC.c 0 (by decide)).1
  have c1 : W.cell? ⟨w.heap.size, 1, none⟩ = some (.slice a len cap) := (bxC.c 1 (by decide)).1
  have c2 : W.cell? ⟨w.heap.size, 2, none⟩ = some (.int .i64 p) := (bxC.c 2 (by decide)).1
  have d0 : W.cell? ⟨w.heap.size + 1, 0, none⟩ = some (.int .i64 kind) := (bxM.c 0 (by decide)).1
  have d1 : W.cell? ⟨w.heap.size + 1, 1, none⟩ = some (.int .i64 frm) := (bxM.c 1 (by decide)).1
  have d2 : W.cell? ⟨w.heap.size + 1, 2, none⟩ = some (.int .i64 dst) := (bxM.c 2 (by decide)).1
  have d3 : W.cell? ⟨w.heap.size + 1, 3, none⟩ = some (.int .i64 site) := (bxM.c 3 (by decide)).1
  have d4 : W.cell? ⟨w.heap.size + 1, 4, none⟩ = some (.int .i64 num) := (bxM.c 4 (by decide)).1
  have d5 : W.cell? ⟨w.heap.size + 1, 5, none⟩ = some (.int .i64 label) := (bxM.c 5 (by decide)).1
  have d6 : W.cell? ⟨w.heap.size + 1, 6, none⟩ = some (.int .i64 key) := (bxM.c 6 (by decide)).1
  have d7 : W.cell? ⟨w.heap.size + 1, 7, none⟩ = some (.int .i64 value) := (bxM.c 7 (by decide)).1
  have d8 : W.cell? ⟨w.heap.size + 1, 8, none⟩ = some (.int .i64 version) := (bxM.c 8 (by decide)).1
  have d9 : W.cell? ⟨w.heap.size + 1, 9, none⟩ = some (.int .i64 ask) := (bxM.c 9 (by decide)).1
  have d10 : W.cell? ⟨w.heap.size + 1, 10, none⟩ = some (.bool yes) := (bxM.c 10 (by decide)).1
  have d11 : W.cell? ⟨w.heap.size + 1, 11, none⟩ = some (.int .i64 code) := (bxM.c 11 (by decide)).1
  have zc := bxC.lt
  have zm := bxM.lt
  go_upto_region 2 with (go_at_call 24; refine (HRf.out _ hB).mono ?_; rintro e w1 ⟨rfl, hb1⟩)
  clear c0 c1 c2 d0 d1 d2 d3 d4 d5 d6 d7 d8 d9 d10 d11 zc zm bxC bxM HRf
  have hw1 := KW.out _ hb1
  have z1 := hb1.size
  by_cases hE : E = 0
  · obtain ⟨hs0, hm0, hdst, hkd⟩ := hok hE
    obtain ⟨hcf, ⟨hl0, hln⟩, hme, hnl, hso⟩ := hok2 hs0
    obtain ⟨hb0, hbn⟩ := hml hm0
    subst hE
    rw [HK.out.1] at hkd
    rw [HK.out.2, ← hnl] at hbn
    rw [HK.out.2] at hb0
    obtain ⟨k, rfl⟩ : ∃ k : Nat, l = (k : Int) := ⟨l.toNat, by omega⟩
    have hk : k < n := by omega
    have hkn : (k : Int) < (n : Int) := by omega
    have hkc : k < sc := Nat.lt_of_lt_of_le hk HSt.out.row.2.1
    have HTD : Hid (TD = hearV k ss room M ⟨(ss.getD k default).data, [], [], ns⟩ (ss.getD k default) (ss.getD M.label.toNat default)) := by show _ = _; rw [HD.out, if_pos rfl, Int.toNat_natCast]
    have hsz := St.ok_sizes (hso k hk) (HSt.out.each k hk).1
    have HFs : Hid (∀ U, Below w.heap.size w U → Calls Tryd.prog 25 #[(ss.getD k default).val] U fun e w' => ∃ r : SV, e = .returned r.val ∧ (ss.getD k default).same r ∧ OwnStore w' U.heap.size r ∧ Below U.heap.size U w') := fun U hU => St.own_any (ss.getD k default) U (((HS0.out U hU).1.each k hk).1) (by omega) (by omega) (by omega) (hov k hk)
    have HFn : Hid (∀ U, Below w.heap.size w U → Calls Tryd.prog 26 #[.slice na nn nc] U fun e w' => NotesNew U w' e nn ns) := fun U hU => freshNotes_any na nn nc ns U (HS0.out U hU).2 hn24
    have HWF : Hid ((∀ t ∈ (ss.getD k default).over, TxWf t) ∧ (ss.getD k default).ol * 16 ≤ 140737488351232) := ⟨(HSt.out.each k hk).2, hov k hk⟩
    clear hok hok2 hml HD hso hnl hcf hme hs0 hm0 hov
    obtain ⟨b, off, hsa, hblt, y0, y1, y2, y3⟩ := (HS0.out _ hw1).1.at hk
    obtain ⟨OWN, eX⟩ : ∃ x, x = ss.getD k default := ⟨_, rfl⟩
    rw [← eX] at HFs HTD HWF y0 y1 y2 y3
    clear eX
    obtain ⟨⟨xa0, xn0, xc0, xa1, xn1, xc1, xa2, xn2, xc2, xa3, xn3, xc3, xi, xl, xd, xo⟩, eX2⟩ : ∃ x, x = OWN := ⟨_, rfl⟩
    rw [← eX2] at HFs y0 y1 y2 y3
    have HOW : Hid (OWN = ⟨xa0, xn0, xc0, xa1, xn1, xc1, xa2, xn2, xc2, xa3, xn3, xc3, xi, xl, xd, xo⟩) := eX2.symm
    clear eX2
    subst hsa
    simp only [SV.val] at HFs y0 y1 y2 y3
    go_upto_region 5 with (first | (go_at_call 25; refine (HFs.out _ hw1).mono ?_; rintro e u1 ⟨⟨ra0, rn0, rc0, ra1, rn1, rc1, ra2, rn2, rc2, ra3, rn3, rc3, ri, rl, rd, ro⟩, rfl, hsm, hO1, hb2⟩; have hu1 : Below w.heap.size w u1 := hw1.trans (hb2.mono hw1.size)) | (go_at_call 26; refine (HFn.out _ hu1).mono ?_; rintro e u2 ⟨na1, nc1, rfl, own2, hb3⟩))
    clear y0 y1 y2 y3 HFs HFn
    have bW1 : Below W.heap.size W u1 := hb1.trans (hb2.mono z1)
    have bW2 : Below W.heap.size W u2 := bW1.trans (hb3.mono bW1.size)
    have z2 := hb2.size
    have z3 := hb3.size
    have bX : Below u2.heap.size u2 (u2.alloc (.cells #[.slice ra0 rn0 rc0, .slice ra1 rn1 rc1, .slice ra2 rn2 rc2, .slice ra3 rn3 rc3, .slice none 0 0, .slice none 0 0, .slice na1 nn nc1] 48)) := (Below.refl _ _).alloc (Nat.le_refl _) _
    have bWX := bW2.trans (bX.mono bW2.size)
    have bxA : BoxN (u2.alloc (.cells #[.slice ra0 rn0 rc0, .slice ra1 rn1 rc1, .slice ra2 rn2 rc2, .slice ra3 rn3 rc3, .slice none 0 0, .slice none 0 0, .slice na1 nn nc1] 48)) u2.heap.size 7 [.slice ra0 rn0 rc0, .slice ra1 rn1 rc1, .slice ra2 rn2 rc2, .slice ra3 rn3 rc3, .slice none 0 0, .slice none 0 0, .slice na1 nn nc1] := boxn_new u2 #[.slice ra0 rn0 rc0, .slice ra1 rn1 rc1, .slice ra2 rn2 rc2, .slice ra3 rn3 rc3, .slice none 0 0, .slice none 0 0, .slice na1 nn nc1] 48 7 rfl
    have ownX := own_below own2 bX
    have hOX := (hO1.below hb3).below bX
    obtain ⟨X, eX⟩ : ∃ x, x = u2.alloc (.cells #[.slice ra0 rn0 rc0, .slice ra1 rn1 rc1, .slice ra2 rn2 rc2, .slice ra3 rn3 rc3, .slice none 0 0, .slice none 0 0, .slice na1 nn nc1] 48) := ⟨_, rfl⟩
    rw [← eX] at bX bWX bxA ownX hOX ⊢
    clear eX
    have zX := bWX.size
    have hwX := KW.out _ bWX
    have hNtX := (own_isRow ncells_len ownX HNl.out).1
    have hA : IsAns X ⟨⟨ra0, rn0, rc0, ra1, rn1, rc1, ra2, rn2, rc2, ra3, rn3, rc3, ri, rl, rd, ro⟩, none, 0, 0, none, 0, 0, na1, nn, nc1, [], [], ns⟩ := ⟨hOX.isStore, isRow_nil _ _ _, isRow_nil _ _ _, hNtX⟩
    have hfar : AnsV.far ⟨⟨ra0, rn0, rc0, ra1, rn1, rc1, ra2, rn2, rc2, ra3, rn3, rc3, ri, rl, rd, ro⟩, none, 0, 0, none, 0, 0, na1, nn, nc1, [], [], ns⟩ W.heap.size := ⟨fun b o e => Nat.le_trans z1 (hOX.items.lt b (by rw [show ra0 = _ from e]; rfl)).1, fun b o e => Nat.le_trans z1 (hOX.locks.lt b (by rw [show ra1 = _ from e]; rfl)).1, fun b o e => Nat.le_trans z1 (hOX.doubts.lt b (by rw [show ra2 = _ from e]; rfl)).1, fun b o e => Nat.le_trans z1 (hOX.over.lt b (by rw [show ra3 = _ from e]; rfl)).1, (fun b o e => by cases e), (fun b o e => by cases e), fun b o e => Nat.le_trans bW1.size (ownX.lt b (by rw [show na1 = _ from e]; rfl)).1⟩
    have hnB : ∀ g, (Value.slice na1 nn nc1).ownBlock = some g → W.heap.size ≤ g := fun g e => Nat.le_trans bW1.size (ownX.lt g e).1
    have hsm2 : OWN.same ⟨ra0, rn0, rc0, ra1, rn1, rc1, ra2, rn2, rc2, ra3, rn3, rc3, ri, rl, rd, ro⟩ := by rw [HOW.out]; exact hsm
    have HV2 : Hid (TD = hearV k ss room M (AnsV.data ⟨⟨ra0, rn0, rc0, ra1, rn1, rc1, ra2, rn2, rc2, ra3, rn3, rc3, ri, rl, rd, ro⟩, none, 0, 0, none, 0, 0, na1, nn, nc1, [], [], ns⟩) ⟨ra0, rn0, rc0, ra1, rn1, rc1, ra2, rn2, rc2, ra3, rn3, rc3, ri, rl, rd, ro⟩ (ss.getD M.label.toNat default)) := by
      show _ = _
      rw [hearV_same hsm2, HTD.out, ← data_same hsm2]
      rfl
    have HWr : Hid ((∀ t ∈ ro, TxWf t) ∧ rn3 * 16 ≤ 140737488351232) := by
      obtain ⟨e1, e2, e3, e4, e5, e6, e7, e8⟩ := hsm2
      simp only at e4 e8
      have h1 := HWF.out
      rw [← e4, ← e8] at h1
      exact h1
    have hSX := (HS0.out _ hwX).1
    have bxM := KM.out _ bWX
    have bxQ := KQ.out _ bWX
    clear hsm hsm2 HTD HWF HOW hO1 own2 hOX hNtX HS0 HSt
    have d0 : X.cell? ⟨w.heap.size + 1, 0, none⟩ = some (.int .i64 kind) := (bxM.c 0 (by decide)).1
    have d1 : X.cell? ⟨w.heap.size + 1, 1, none⟩ = some (.int .i64 frm) := (bxM.c 1 (by decide)).1
    have d2 : X.cell? ⟨w.heap.size + 1, 2, none⟩ = some (.int .i64 dst) := (bxM.c 2 (by decide)).1
    have d3 : X.cell? ⟨w.heap.size + 1, 3, none⟩ = some (.int .i64 site) := (bxM.c 3 (by decide)).1
    have d4 : X.cell? ⟨w.heap.size + 1, 4, none⟩ = some (.int .i64 num) := (bxM.c 4 (by decide)).1
    have d5 : X.cell? ⟨w.heap.size + 1, 5, none⟩ = some (.int .i64 label) := (bxM.c 5 (by decide)).1
    have d6 : X.cell? ⟨w.heap.size + 1, 6, none⟩ = some (.int .i64 key) := (bxM.c 6 (by decide)).1
    have d7 : X.cell? ⟨w.heap.size + 1, 7, none⟩ = some (.int .i64 value) := (bxM.c 7 (by decide)).1
    have d8 : X.cell? ⟨w.heap.size + 1, 8, none⟩ = some (.int .i64 version) := (bxM.c 8 (by decide)).1
    have d9 : X.cell? ⟨w.heap.size + 1, 9, none⟩ = some (.int .i64 ask) := (bxM.c 9 (by decide)).1
    have d10 : X.cell? ⟨w.heap.size + 1, 10, none⟩ = some (.bool yes) := (bxM.c 10 (by decide)).1
    have d11 : X.cell? ⟨w.heap.size + 1, 11, none⟩ = some (.int .i64 code) := (bxM.c 11 (by decide)).1
    have a0 : X.cell? ⟨u2.heap.size, 0, none⟩ = some (.slice ra0 rn0 rc0) := (bxA.c 0 (by decide)).1
    have a1 : X.cell? ⟨u2.heap.size, 1, none⟩ = some (.slice ra1 rn1 rc1) := (bxA.c 1 (by decide)).1
    have a2 : X.cell? ⟨u2.heap.size, 2, none⟩ = some (.slice ra2 rn2 rc2) := (bxA.c 2 (by decide)).1
    have a3 : X.cell? ⟨u2.heap.size, 3, none⟩ = some (.slice ra3 rn3 rc3) := (bxA.c 3 (by decide)).1
    have a4 : X.cell? ⟨u2.heap.size, 4, none⟩ = some (.slice none 0 0) := (bxA.c 4 (by decide)).1
    have a5 : X.cell? ⟨u2.heap.size, 5, none⟩ = some (.slice none 0 0) := (bxA.c 5 (by decide)).1
    have a6 : X.cell? ⟨u2.heap.size, 6, none⟩ = some (.slice na1 nn nc1) := (bxA.c 6 (by decide)).1
    have zM := bxM.lt
    have zA := bxA.lt
    have zQ := bxQ.lt
    rcases hkd with hkk | hkk | hkk | hkk
    · skip
      subst hkk
      have hcall := partRead_any ⟨⟨ra0, rn0, rc0, ra1, rn1, rc1, ra2, rn2, rc2, ra3, rn3, rc3, ri, rl, rd, ro⟩, none, 0, 0, none, 0, 0, na1, nn, nc1, [], [], ns⟩ k (some ⟨b, off, none⟩) n sc ss M X hA HWr.out.1 HWr.out.2 hSX (fun _ => by rw [HK.out.2]; exact ⟨hb0, hbn⟩)
      rw [HM.out] at hcall
      simp only [AnsV.val, MV.val] at hcall
      have HTK : Hid (TD = readD k ⟨ra0, rn0, rc0, ra1, rn1, rc1, ra2, rn2, rc2, ra3, rn3, rc3, ri, rl, rd, ro⟩ (ss.getD (MV.label ⟨1, frm, dst, site, num, label, key, value, version, ask, yes, code⟩).toNat default) ⟨1, frm, dst, site, num, label, key, value, version, ask, yes, code⟩ (AnsV.data ⟨⟨ra0, rn0, rc0, ra1, rn1, rc1, ra2, rn2, rc2, ra3, rn3, rc3, ri, rl, rd, ro⟩, none, 0, 0, none, 0, 0, na1, nn, nc1, [], [], ns⟩)) := by
        show _ = _
        rw [HV2.out, HM.out]
        rfl
      have HC : Hid (Calls Tryd.prog 27 #[.agg #[.slice ra0 rn0 rc0, .slice ra1 rn1 rc1, .slice ra2 rn2 rc2, .slice ra3 rn3 rc3, .slice none 0 0, .slice none 0 0, .slice na1 nn nc1], .int .i64 (k : Int), .slice (some ⟨b, off, none⟩) n sc, .agg #[.int .i64 1, .int .i64 frm, .int .i64 dst, .int .i64 site, .int .i64 num, .int .i64 label, .int .i64 key, .int .i64 value, .int .i64 version, .int .i64 ask, .bool yes, .int .i64 code]] X _) := hcall
      clear hcall HV2 HK HM
      go_wp2_with (go_at_call 27; refine HC.out.mono ?_; rintro e u9 ⟨⟨⟨pa0, pn0, pc0, pa1, pn1, pc1, pa2, pn2, pc2, pa3, pn3, pc3, pi, pl, pd, po⟩, pa4, pn4, pc4, pa5, pn5, pc5, pa6, pn6, pc6, pms, prs, pns⟩, rfl, hI9, hd9, hb9, hf9⟩; have bW9 : Below W.heap.size W u9 := bWX.trans (hb9.mono zX); have bxQ9 := KQ.out _ bW9; have zQ9 := bxQ9.lt; have q0 : u9.cell? ⟨w.heap.size + 2, 0, none⟩ = some (.slice none 0 0) := (bxQ9.c 0 (by decide)).1; have qf0 := (bxQ9.c 0 (by decide)).2; have q1 : u9.cell? ⟨w.heap.size + 2, 1, none⟩ = some (.slice none 0 0) := (bxQ9.c 1 (by decide)).1; have qf1 := (bxQ9.c 1 (by decide)).2; have q2 : u9.cell? ⟨w.heap.size + 2, 2, none⟩ = some (.slice none 0 0) := (bxQ9.c 2 (by decide)).1; have qf2 := (bxQ9.c 2 (by decide)).2; have q3 : u9.cell? ⟨w.heap.size + 2, 3, none⟩ = some (.slice none 0 0) := (bxQ9.c 3 (by decide)).1; have qf3 := (bxQ9.c 3 (by decide)).2; have q4 : u9.cell? ⟨w.heap.size + 2, 4, none⟩ = some (.slice none 0 0) := (bxQ9.c 4 (by decide)).1; have qf4 := (bxQ9.c 4 (by decide)).2; have q5 : u9.cell? ⟨w.heap.size + 2, 5, none⟩ = some (.slice none 0 0) := (bxQ9.c 5 (by decide)).1; have qf5 := (bxQ9.c 5 (by decide)).2; have q6 : u9.cell? ⟨w.heap.size + 2, 6, none⟩ = some (.slice none 0 0) := (bxQ9.c 6 (by decide)).1; have qf6 := (bxQ9.c 6 (by decide)).2)
      have hf9' := hf9 _ hfar zX
      have gF := grown7 u9 (w.heap.size + 2) (.slice pa0 pn0 pc0) (.slice pa1 pn1 pc1) (.slice pa2 pn2 pc2) (.slice pa3 pn3 pc3) (.slice pa4 pn4 pc4) (.slice pa5 pn5 pc5) (.slice pa6 pn6 pc6)
      have hIF := hI9.grown gF hf9' zW
      have hw9 := KW.out _ bW9
      have hbF := hw9.grown gF hw9.size (fun q hq => by simp at hq; omega)
      refine bodyPost_ret (v := .tuple #[.agg #[.slice pa0 pn0 pc0, .slice pa1 pn1 pc1, .slice pa2 pn2 pc2, .slice pa3 pn3 pc3, .slice pa4 pn4 pc4, .slice pa5 pn5 pc5, .slice pa6 pn6 pc6], .int .i64 0]) (by simp [results, Tryd.results12, go_sem, q0, q1, q2, q3, q4, q5, q6]) rfl ⟨_, rfl, hIF, ?_, hbF, hf9'.mono (by omega)⟩
      rw [HTK.out]; exact hd9
    · skip
      subst hkk
      have hcall := partWrite_any ⟨⟨ra0, rn0, rc0, ra1, rn1, rc1, ra2, rn2, rc2, ra3, rn3, rc3, ri, rl, rd, ro⟩, none, 0, 0, none, 0, 0, na1, nn, nc1, [], [], ns⟩ room M X hA HWr.out.1 HWr.out.2
      rw [HM.out] at hcall
      simp only [AnsV.val, MV.val] at hcall
      have HTK : Hid (TD = writeD ⟨ra0, rn0, rc0, ra1, rn1, rc1, ra2, rn2, rc2, ra3, rn3, rc3, ri, rl, rd, ro⟩ room ⟨2, frm, dst, site, num, label, key, value, version, ask, yes, code⟩ (AnsV.data ⟨⟨ra0, rn0, rc0, ra1, rn1, rc1, ra2, rn2, rc2, ra3, rn3, rc3, ri, rl, rd, ro⟩, none, 0, 0, none, 0, 0, na1, nn, nc1, [], [], ns⟩)) := by
        show _ = _
        rw [HV2.out, HM.out]
        rfl
      have HC : Hid (Calls Tryd.prog 28 #[.agg #[.slice ra0 rn0 rc0, .slice ra1 rn1 rc1, .slice ra2 rn2 rc2, .slice ra3 rn3 rc3, .slice none 0 0, .slice none 0 0, .slice na1 nn nc1], .int .i64 room, .agg #[.int .i64 2, .int .i64 frm, .int .i64 dst, .int .i64 site, .int .i64 num, .int .i64 label, .int .i64 key, .int .i64 value, .int .i64 version, .int .i64 ask, .bool yes, .int .i64 code]] X _) := hcall
      clear hcall HV2 HK HM
      go_wp2_with (go_at_call 28; refine HC.out.mono ?_; rintro e u9 ⟨⟨⟨pa0, pn0, pc0, pa1, pn1, pc1, pa2, pn2, pc2, pa3, pn3, pc3, pi, pl, pd, po⟩, pa4, pn4, pc4, pa5, pn5, pc5, pa6, pn6, pc6, pms, prs, pns⟩, rfl, hI9, hd9, hb9, hf9⟩; have bW9 : Below W.heap.size W u9 := bWX.trans (hb9.mono zX); have bxQ9 := KQ.out _ bW9; have zQ9 := bxQ9.lt; have q0 : u9.cell? ⟨w.heap.size + 2, 0, none⟩ = some (.slice none 0 0) := (bxQ9.c 0 (by decide)).1; have qf0 := (bxQ9.c 0 (by decide)).2; have q1 : u9.cell? ⟨w.heap.size + 2, 1, none⟩ = some (.slice none 0 0) := (bxQ9.c 1 (by decide)).1; have qf1 := (bxQ9.c 1 (by decide)).2; have q2 : u9.cell? ⟨w.heap.size + 2, 2, none⟩ = some (.slice none 0 0) := (bxQ9.c 2 (by decide)).1; have qf2 := (bxQ9.c 2 (by decide)).2; have q3 : u9.cell? ⟨w.heap.size + 2, 3, none⟩ = some (.slice none 0 0) := (bxQ9.c 3 (by decide)).1; have qf3 := (bxQ9.c 3 (by decide)).2; have q4 : u9.cell? ⟨w.heap.size + 2, 4, none⟩ = some (.slice none 0 0) := (bxQ9.c 4 (by decide)).1; have qf4 := (bxQ9.c 4 (by decide)).2; have q5 : u9.cell? ⟨w.heap.size + 2, 5, none⟩ = some (.slice none 0 0) := (bxQ9.c 5 (by decide)).1; have qf5 := (bxQ9.c 5 (by decide)).2; have q6 : u9.cell? ⟨w.heap.size + 2, 6, none⟩ = some (.slice none 0 0) := (bxQ9.c 6 (by decide)).1; have qf6 := (bxQ9.c 6 (by decide)).2)
      have hf9' := hf9 _ hfar zX
      have gF := grown7 u9 (w.heap.size + 2) (.slice pa0 pn0 pc0) (.slice pa1 pn1 pc1) (.slice pa2 pn2 pc2) (.slice pa3 pn3 pc3) (.slice pa4 pn4 pc4) (.slice pa5 pn5 pc5) (.slice pa6 pn6 pc6)
      have hIF := hI9.grown gF hf9' zW
      have hw9 := KW.out _ bW9
      have hbF := hw9.grown gF hw9.size (fun q hq => by simp at hq; omega)
      refine bodyPost_ret (v := .tuple #[.agg #[.slice pa0 pn0 pc0, .slice pa1 pn1 pc1, .slice pa2 pn2 pc2, .slice pa3 pn3 pc3, .slice pa4 pn4 pc4, .slice pa5 pn5 pc5, .slice pa6 pn6 pc6], .int .i64 0]) (by simp [results, Tryd.results12, go_sem, q0, q1, q2, q3, q4, q5, q6]) rfl ⟨_, rfl, hIF, ?_, hbF, hf9'.mono (by omega)⟩
      rw [HTK.out]; exact hd9
    · skip
      subst hkk
      have hcall := partCheck_any ⟨⟨ra0, rn0, rc0, ra1, rn1, rc1, ra2, rn2, rc2, ra3, rn3, rc3, ri, rl, rd, ro⟩, none, 0, 0, none, 0, 0, na1, nn, nc1, [], [], ns⟩ k (some ⟨b, off, none⟩) n sc ss M X hA HWr.out.1 hSX (fun _ => by rw [HK.out.2]; exact ⟨hb0, hbn⟩)
      rw [HM.out] at hcall
      simp only [AnsV.val, MV.val] at hcall
      have HTK : Hid (TD = checkD k ⟨ra0, rn0, rc0, ra1, rn1, rc1, ra2, rn2, rc2, ra3, rn3, rc3, ri, rl, rd, ro⟩ (ss.getD (MV.label ⟨3, frm, dst, site, num, label, key, value, version, ask, yes, code⟩).toNat default) ⟨3, frm, dst, site, num, label, key, value, version, ask, yes, code⟩ (AnsV.data ⟨⟨ra0, rn0, rc0, ra1, rn1, rc1, ra2, rn2, rc2, ra3, rn3, rc3, ri, rl, rd, ro⟩, none, 0, 0, none, 0, 0, na1, nn, nc1, [], [], ns⟩)) := by
        show _ = _
        rw [HV2.out, HM.out]
        rfl
      have HC : Hid (Calls Tryd.prog 29 #[.agg #[.slice ra0 rn0 rc0, .slice ra1 rn1 rc1, .slice ra2 rn2 rc2, .slice ra3 rn3 rc3, .slice none 0 0, .slice none 0 0, .slice na1 nn nc1], .int .i64 (k : Int), .slice (some ⟨b, off, none⟩) n sc, .agg #[.int .i64 3, .int .i64 frm, .int .i64 dst, .int .i64 site, .int .i64 num, .int .i64 label, .int .i64 key, .int .i64 value, .int .i64 version, .int .i64 ask, .bool yes, .int .i64 code]] X _) := hcall
      clear hcall HV2 HK HM
      go_wp2_with (go_at_call 29; refine HC.out.mono ?_; rintro e u9 ⟨⟨⟨pa0, pn0, pc0, pa1, pn1, pc1, pa2, pn2, pc2, pa3, pn3, pc3, pi, pl, pd, po⟩, pa4, pn4, pc4, pa5, pn5, pc5, pa6, pn6, pc6, pms, prs, pns⟩, rfl, hI9, hd9, hb9, hf9⟩; have bW9 : Below W.heap.size W u9 := bWX.trans (hb9.mono zX); have bxQ9 := KQ.out _ bW9; have zQ9 := bxQ9.lt; have q0 : u9.cell? ⟨w.heap.size + 2, 0, none⟩ = some (.slice none 0 0) := (bxQ9.c 0 (by decide)).1; have qf0 := (bxQ9.c 0 (by decide)).2; have q1 : u9.cell? ⟨w.heap.size + 2, 1, none⟩ = some (.slice none 0 0) := (bxQ9.c 1 (by decide)).1; have qf1 := (bxQ9.c 1 (by decide)).2; have q2 : u9.cell? ⟨w.heap.size + 2, 2, none⟩ = some (.slice none 0 0) := (bxQ9.c 2 (by decide)).1; have qf2 := (bxQ9.c 2 (by decide)).2; have q3 : u9.cell? ⟨w.heap.size + 2, 3, none⟩ = some (.slice none 0 0) := (bxQ9.c 3 (by decide)).1; have qf3 := (bxQ9.c 3 (by decide)).2; have q4 : u9.cell? ⟨w.heap.size + 2, 4, none⟩ = some (.slice none 0 0) := (bxQ9.c 4 (by decide)).1; have qf4 := (bxQ9.c 4 (by decide)).2; have q5 : u9.cell? ⟨w.heap.size + 2, 5, none⟩ = some (.slice none 0 0) := (bxQ9.c 5 (by decide)).1; have qf5 := (bxQ9.c 5 (by decide)).2; have q6 : u9.cell? ⟨w.heap.size + 2, 6, none⟩ = some (.slice none 0 0) := (bxQ9.c 6 (by decide)).1; have qf6 := (bxQ9.c 6 (by decide)).2)
      have hf9' := hf9 _ hfar zX
      have gF := grown7 u9 (w.heap.size + 2) (.slice pa0 pn0 pc0) (.slice pa1 pn1 pc1) (.slice pa2 pn2 pc2) (.slice pa3 pn3 pc3) (.slice pa4 pn4 pc4) (.slice pa5 pn5 pc5) (.slice pa6 pn6 pc6)
      have hIF := hI9.grown gF hf9' zW
      have hw9 := KW.out _ bW9
      have hbF := hw9.grown gF hw9.size (fun q hq => by simp at hq; omega)
      refine bodyPost_ret (v := .tuple #[.agg #[.slice pa0 pn0 pc0, .slice pa1 pn1 pc1, .slice pa2 pn2 pc2, .slice pa3 pn3 pc3, .slice pa4 pn4 pc4, .slice pa5 pn5 pc5, .slice pa6 pn6 pc6], .int .i64 0]) (by simp [results, Tryd.results12, go_sem, q0, q1, q2, q3, q4, q5, q6]) rfl ⟨_, rfl, hIF, ?_, hbF, hf9'.mono (by omega)⟩
      rw [HTK.out]; exact hd9
    · skip
      subst hkk
      have hcall := partDecide_any ⟨ra0, rn0, rc0, ra1, rn1, rc1, ra2, rn2, rc2, ra3, rn3, rc3, ri, rl, rd, ro⟩ na1 nn nc1 ns M X u1.heap.size hA.st HWr.out.1 HWr.out.2 ownX HNl.out
      rw [HM.out] at hcall
      simp only [AnsV.val, MV.val] at hcall
      have HTK : Hid (TD = decideD ⟨ra0, rn0, rc0, ra1, rn1, rc1, ra2, rn2, rc2, ra3, rn3, rc3, ri, rl, rd, ro⟩ ⟨4, frm, dst, site, num, label, key, value, version, ask, yes, code⟩ (AnsV.data ⟨⟨ra0, rn0, rc0, ra1, rn1, rc1, ra2, rn2, rc2, ra3, rn3, rc3, ri, rl, rd, ro⟩, none, 0, 0, none, 0, 0, na1, nn, nc1, [], [], ns⟩)) := by
        show _ = _
        rw [HV2.out, HM.out]
        rfl
      have HC : Hid (Calls Tryd.prog 30 #[.agg #[.slice ra0 rn0 rc0, .slice ra1 rn1 rc1, .slice ra2 rn2 rc2, .slice ra3 rn3 rc3, .slice none 0 0, .slice none 0 0, .slice na1 nn nc1], .agg #[.int .i64 4, .int .i64 frm, .int .i64 dst, .int .i64 site, .int .i64 num, .int .i64 label, .int .i64 key, .int .i64 value, .int .i64 version, .int .i64 ask, .bool yes, .int .i64 code]] X _) := hcall
      clear hcall HV2 HK HM
      go_wp2_with (go_at_call 30; refine HC.out.mono ?_; rintro e u9 ⟨⟨⟨pa0, pn0, pc0, pa1, pn1, pc1, pa2, pn2, pc2, pa3, pn3, pc3, pi, pl, pd, po⟩, pa4, pn4, pc4, pa5, pn5, pc5, pa6, pn6, pc6, pms, prs, pns⟩, rfl, hI9, hd9, hg9, hf9⟩; have bW9 : Below W.heap.size W u9 := bWX.grown hg9 zX (fun q hq => hnB q hq); have bxQ9 := KQ.out _ bW9; have zQ9 := bxQ9.lt; have q0 : u9.cell? ⟨w.heap.size + 2, 0, none⟩ = some (.slice none 0 0) := (bxQ9.c 0 (by decide)).1; have qf0 := (bxQ9.c 0 (by decide)).2; have q1 : u9.cell? ⟨w.heap.size + 2, 1, none⟩ = some (.slice none 0 0) := (bxQ9.c 1 (by decide)).1; have qf1 := (bxQ9.c 1 (by decide)).2; have q2 : u9.cell? ⟨w.heap.size + 2, 2, none⟩ = some (.slice none 0 0) := (bxQ9.c 2 (by decide)).1; have qf2 := (bxQ9.c 2 (by decide)).2; have q3 : u9.cell? ⟨w.heap.size + 2, 3, none⟩ = some (.slice none 0 0) := (bxQ9.c 3 (by decide)).1; have qf3 := (bxQ9.c 3 (by decide)).2; have q4 : u9.cell? ⟨w.heap.size + 2, 4, none⟩ = some (.slice none 0 0) := (bxQ9.c 4 (by decide)).1; have qf4 := (bxQ9.c 4 (by decide)).2; have q5 : u9.cell? ⟨w.heap.size + 2, 5, none⟩ = some (.slice none 0 0) := (bxQ9.c 5 (by decide)).1; have qf5 := (bxQ9.c 5 (by decide)).2; have q6 : u9.cell? ⟨w.heap.size + 2, 6, none⟩ = some (.slice none 0 0) := (bxQ9.c 6 (by decide)).1; have qf6 := (bxQ9.c 6 (by decide)).2)
      have hf9' := hf9 _ hfar zX
      have gF := grown7 u9 (w.heap.size + 2) (.slice pa0 pn0 pc0) (.slice pa1 pn1 pc1) (.slice pa2 pn2 pc2) (.slice pa3 pn3 pc3) (.slice pa4 pn4 pc4) (.slice pa5 pn5 pc5) (.slice pa6 pn6 pc6)
      have hIF := hI9.grown gF hf9' zW
      have hw9 := KW.out _ bW9
      have hbF := hw9.grown gF hw9.size (fun q hq => by simp at hq; omega)
      refine bodyPost_ret (v := .tuple #[.agg #[.slice pa0 pn0 pc0, .slice pa1 pn1 pc1, .slice pa2 pn2 pc2, .slice pa3 pn3 pc3, .slice pa4 pn4 pc4, .slice pa5 pn5 pc5, .slice pa6 pn6 pc6], .int .i64 0]) (by simp [results, Tryd.results12, go_sem, q0, q1, q2, q3, q4, q5, q6]) rfl ⟨_, rfl, hIF, ?_, hbF, hf9'.mono (by omega)⟩
      rw [HTK.out]; exact hd9
  · have qb := KQ.out _ hb1
    have hwE := hw1
    have HN0 : Hid (TD = AD.nil) := by show _ = _; rw [HD.out, if_neg hE]
    have zQ : w.heap.size + 2 < w1.heap.size := by omega
    have hE2 : (E == 0) = false := by simp [hE]
    have k0 : w1.cell? ⟨w.heap.size + 2, 0, none⟩ = some (.slice none 0 0) := (qb.c 0 (by decide)).1
    have h0 := (qb.c 0 (by decide)).2
    have k1 : w1.cell? ⟨w.heap.size + 2, 1, none⟩ = some (.slice none 0 0) := (qb.c 1 (by decide)).1
    have h1 := (qb.c 1 (by decide)).2
    have k2 : w1.cell? ⟨w.heap.size + 2, 2, none⟩ = some (.slice none 0 0) := (qb.c 2 (by decide)).1
    have h2 := (qb.c 2 (by decide)).2
    have k3 : w1.cell? ⟨w.heap.size + 2, 3, none⟩ = some (.slice none 0 0) := (qb.c 3 (by decide)).1
    have h3 := (qb.c 3 (by decide)).2
    have k4 : w1.cell? ⟨w.heap.size + 2, 4, none⟩ = some (.slice none 0 0) := (qb.c 4 (by decide)).1
    have h4 := (qb.c 4 (by decide)).2
    have k5 : w1.cell? ⟨w.heap.size + 2, 5, none⟩ = some (.slice none 0 0) := (qb.c 5 (by decide)).1
    have h5 := (qb.c 5 (by decide)).2
    have k6 : w1.cell? ⟨w.heap.size + 2, 6, none⟩ = some (.slice none 0 0) := (qb.c 6 (by decide)).1
    have h6 := (qb.c 6 (by decide)).2
    clear HD hok hok2 hml
    go_wp2
    refine bodyPost_ret (v := .tuple #[.agg #[.slice none 0 0, .slice none 0 0, .slice none 0 0, .slice none 0 0, .slice none 0 0, .slice none 0 0, .slice none 0 0], .int .i64 E]) (by simp [results, Tryd.results12, go_sem, k0, k1, k2, k3, k4, k5, k6]) rfl ⟨AnsV.nil, rfl, isAns_nil _, by rw [HN0.out]; rfl, ?_, AnsV.far_nil _⟩
    exact hwE.grown (grown7 w1 (w.heap.size + 2) _ _ _ _ _ _ _) hwE.size (fun q hq => by simp at hq; omega)

end Go.Proofs.YtcmjcopopkafnaaDoor.Pt
/- The contract of picked: a number from 0 on below another one. -/
namespace Go.Proofs.YtcmjcopopkafnaaDoor
open Go.ChangeShapes Go.WideShapes Go.ChangeAt Go.RowKit

def pk (n m : Int) : Int := (if n < 0 then -(n + 1) else n) % m
theorem pk_bd (n m : Int) (h : 0 < m) : 0 ≤ pk n m ∧ pk n m < m := ⟨Int.emod_nonneg _ (by omega), Int.emod_lt_of_pos _ h⟩
theorem pk_neg {n m : Int} (h : n < 0) : pk n m = (-(n + 1)) % m := by simp [pk, h]
theorem pk_pos {n m : Int} (h : ¬ n < 0) : pk n m = n % m := by simp [pk, h]

theorem i64_bd {n : Int} (h : (Lit.int .i64 n).wf = true) : -9223372036854775808 ≤ n ∧ n ≤ 9223372036854775807 := by
  have := bounds_i64 h
  omega

theorem picked_any (n m : Int) (w : World) (hn : -9223372036854775808 ≤ n ∧ n ≤ 9223372036854775807) (hm : 0 < m) (hm2 : m ≤ 9223372036854775807) :
    Calls Tryd.prog 10 #[.int .i64 n, .int .i64 m] w fun e w' => e = .returned (.int .i64 (pk n m)) ∧ w' = w := by
  obtain ⟨h1, h2⟩ := hn
  by_cases h : n < 0
  · rw [pk_neg h]
    go_enter Tryd.func10, Tryd.ntmps10
    go_wp2
    go_ret
    exact ⟨ret_int (by rw [← Int.tmod_eq_emod_of_nonneg (by omega), Int.neg_tmod]), rfl⟩
  · rw [pk_pos h]
    have h0 : 0 ≤ n := by omega
    go_enter Tryd.func10, Tryd.ntmps10
    go_wp2
    go_ret
    exact ⟨rfl, rfl⟩

end Go.Proofs.YtcmjcopopkafnaaDoor
