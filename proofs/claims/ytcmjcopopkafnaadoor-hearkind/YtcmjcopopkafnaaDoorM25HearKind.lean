/- Texts of this claim, one behind the other. -/
import Derived.Test.YtcmjcopopkafnaaDoorM22HearKind
import Derived.Lib.QuietBelow
import Derived.Deep.RegionHeld3
import Derived.Deep.RegionLaw
import Derived.Deep.DeepCutAuto
/- The contract of part.write. -/
namespace Go.Proofs.YtcmjcopopkafnaaDoor.Pt
open Go.ChangeShapes Go.WideShapes Go.ChangeAt Go.RowKit
open Go.Proofs.YtcmjcopopkafnaaDoor.St (SV PS IsStore IsRow storeOK TxWf BoxN boxn_new OwnStore flat flat_append Elem isOne grown_setCell own_below own_isRow isRow_nil cntErr cntIs endErr endData txOK readVal readVer readErr readData peekVal peekVer peekErr writeErr writeData stillIs refErr)
set_option linter.unusedVariables false


set_option maxRecDepth 100000 in
set_option maxHeartbeats 8000000 in
theorem partWrite_any (v : AnsV) (room : Int) (m : MV) (w : World) (hv : IsAns w v) (hwf : ∀ t ∈ v.st.over, TxWf t) (h4 : v.st.ol * 16 ≤ 140737488351232) :
    Calls Tryd.prog 28 #[v.val, .int .i64 room, m.val] w fun e w' => ∃ v' : AnsV, e = .returned v'.val ∧ IsAns w' v' ∧ v'.data = writeD v.st room m v.data ∧ Below w.heap.size w w' ∧ ∀ B, v.far B → B ≤ w.heap.size → v'.far B := by
  have hWr := fun U hU => St.write_own v.st (mtx m) m.key m.value m.ask U hU hwf h4
  have HRD : Hid (writeD v.st room m v.data = ⟨if (if writeErr v.st (mtx m) m.key m.value m.ask = 0 ∧ room < 500 then 8 else writeErr v.st (mtx m) m.key m.value m.ask) = 0 then writeData v.st (mtx m) m.key m.value m.ask else v.st.data, if toldE (if writeErr v.st (mtx m) m.key m.value m.ask = 0 ∧ room < 500 then 8 else writeErr v.st (mtx m) m.key m.value m.ask) then [⟨6, m.dst, m.frm, m.site, m.num, 0, m.key, 0, 0, m.ask, false, if writeErr v.st (mtx m) m.key m.value m.ask = 0 ∧ room < 500 then 8 else writeErr v.st (mtx m) m.key m.value m.ask⟩] else v.ms, if (if writeErr v.st (mtx m) m.key m.value m.ask = 0 ∧ room < 500 then 8 else writeErr v.st (mtx m) m.key m.value m.ask) = 0 then [⟨1, m.site, m.num, m.key, m.value, m.ask, false⟩] else v.rs, v.ns⟩) := rfl
  obtain ⟨RD, eRD⟩ : ∃ x, x = writeD v.st room m v.data := ⟨_, rfl⟩
  rw [← eRD] at HRD ⊢
  clear eRD
  obtain ⟨WE, eWE⟩ : ∃ x, x = writeErr v.st (mtx m) m.key m.value m.ask := ⟨_, rfl⟩
  rw [← eWE] at HRD hWr
  clear eWE
  obtain ⟨WDt, eWDt⟩ : ∃ x, x = writeData v.st (mtx m) m.key m.value m.ask := ⟨_, rfl⟩
  rw [← eWDt] at HRD hWr
  clear eWDt
  have HV : Hid (IsAns w v) := hv
  clear hv hwf h4
  obtain ⟨M, eM⟩ : ∃ M : MV, M = m := ⟨_, rfl⟩
  obtain ⟨V, eV⟩ : ∃ V : AnsV, V = v := ⟨_, rfl⟩
  obtain ⟨⟨va0, vn0, vc0, va1, vn1, vc1, va2, vn2, vc2, va3, vn3, vc3, vi, vl, vd, vo⟩, va4, vn4, vc4, va5, vn5, vc5, va6, vn6, vc6, vms, vrs, vns⟩ := v
  obtain ⟨kind, frm, dst, site, num, label, key, value, version, ask, yes, code⟩ := m
  simp only [AnsV.val, MV.val]
  obtain ⟨W, hW⟩ : ∃ W : World, W = ((w.alloc (.cells #[.slice va0 vn0 vc0, .slice va1 vn1 vc1, .slice va2 vn2 vc2, .slice va3 vn3 vc3, .slice va4 vn4 vc4, .slice va5 vn5 vc5, .slice va6 vn6 vc6] 48)).alloc (.cells #[.int .i64 kind, .int .i64 frm, .int .i64 dst, .int .i64 site, .int .i64 num, .int .i64 label, .int .i64 key, .int .i64 value, .int .i64 version, .int .i64 ask, .bool yes, .int .i64 code] 33)).alloc (.cells #[.slice none 0 0, .slice none 0 0, .slice none 0 0, .slice none 0 0, .slice none 0 0, .slice none 0 0, .slice none 0 0] 48) := ⟨_, rfl⟩
  obtain ⟨bxA, bxM, bxQ, hB, eS⟩ := three (w := w) (a := #[.slice va0 vn0 vc0, .slice va1 vn1 vc1, .slice va2 vn2 vc2, .slice va3 vn3 vc3, .slice va4 vn4 vc4, .slice va5 vn5 vc5, .slice va6 vn6 vc6]) (m := #[.int .i64 kind, .int .i64 frm, .int .i64 dst, .int .i64 site, .int .i64 num, .int .i64 label, .int .i64 key, .int .i64 value, .int .i64 version, .int .i64 ask, .bool yes, .int .i64 code]) (q := #[.slice none 0 0, .slice none 0 0, .slice none 0 0, .slice none 0 0, .slice none 0 0, .slice none 0 0, .slice none 0 0]) (ta := 48) (tm := 33) rfl rfl rfl
  rw [← hW] at bxA bxM bxQ hB eS
  have HSZ : Hid (W.heap.size = w.heap.size + 3) := eS
  have zW : w.heap.size + 2 < W.heap.size := by omega
  have KA : Hid (∀ U : World, Below W.heap.size W U → BoxN U w.heap.size 7 [.slice va0 vn0 vc0, .slice va1 vn1 vc1, .slice va2 vn2 vc2, .slice va3 vn3 vc3, .slice va4 vn4 vc4, .slice va5 vn5 vc5, .slice va6 vn6 vc6]) := fun U hU => bxA.below hU bxA.lt
  have KM : Hid (∀ U : World, Below W.heap.size W U → BoxN U (w.heap.size + 1) 12 [.int .i64 kind, .int .i64 frm, .int .i64 dst, .int .i64 site, .int .i64 num, .int .i64 label, .int .i64 key, .int .i64 value, .int .i64 version, .int .i64 ask, .bool yes, .int .i64 code]) := fun U hU => bxM.below hU bxM.lt
  have KQ : Hid (∀ U : World, Below W.heap.size W U → BoxN U (w.heap.size + 2) 7 [.slice none 0 0, .slice none 0 0, .slice none 0 0, .slice none 0 0, .slice none 0 0, .slice none 0 0, .slice none 0 0]) := fun U hU => bxQ.below hU bxQ.lt
  have KW : Hid (∀ U : World, Below W.heap.size W U → Below w.heap.size w U) := fun U hU => hB.trans (hU.mono hB.size)
  clear eS bxA bxQ hB
  go_enter Tryd.func28, Tryd.ntmps28
  go_upto_region 1 with (fail)
  rw [← hW]
  clear hW

  have HBk : Hid (Calls Tryd.prog 65 #[.int .i64 6, .agg #[.int .i64 kind, .int .i64 frm, .int .i64 dst, .int .i64 site, .int .i64 num, .int .i64 label, .int .i64 key, .int .i64 value, .int .i64 version, .int .i64 ask, .bool yes, .int .i64 code]] W fun e w' => e = .returned (.agg #[.int .i64 6, .int .i64 dst, .int .i64 frm, .int .i64 site, .int .i64 num, .int .i64 0, .int .i64 0, .int .i64 0, .int .i64 0, .int .i64 0, .bool false, .int .i64 0]) ∧ Below W.heap.size W w') := back_any 6 ⟨kind, frm, dst, site, num, label, key, value, version, ask, yes, code⟩ W
  have m0 : W.cell? ⟨w.heap.size + 1, 0, none⟩ = some (.int .i64 kind) := (bxM.c 0 (by decide)).1
  have m1 : W.cell? ⟨w.heap.size + 1, 1, none⟩ = some (.int .i64 frm) := (bxM.c 1 (by decide)).1
  have m2 : W.cell? ⟨w.heap.size + 1, 2, none⟩ = some (.int .i64 dst) := (bxM.c 2 (by decide)).1
  have m3 : W.cell? ⟨w.heap.size + 1, 3, none⟩ = some (.int .i64 site) := (bxM.c 3 (by decide)).1
  have m4 : W.cell? ⟨w.heap.size + 1, 4, none⟩ = some (.int .i64 num) := (bxM.c 4 (by decide)).1
  have m5 : W.cell? ⟨w.heap.size + 1, 5, none⟩ = some (.int .i64 label) := (bxM.c 5 (by decide)).1
  have m6 : W.cell? ⟨w.heap.size + 1, 6, none⟩ = some (.int .i64 key) := (bxM.c 6 (by decide)).1
  have m7 : W.cell? ⟨w.heap.size + 1, 7, none⟩ = some (.int .i64 value) := (bxM.c 7 (by decide)).1
  have m8 : W.cell? ⟨w.heap.size + 1, 8, none⟩ = some (.int .i64 version) := (bxM.c 8 (by decide)).1
  have m9 : W.cell? ⟨w.heap.size + 1, 9, none⟩ = some (.int .i64 ask) := (bxM.c 9 (by decide)).1
  have m10 : W.cell? ⟨w.heap.size + 1, 10, none⟩ = some (.bool yes) := (bxM.c 10 (by decide)).1
  have m11 : W.cell? ⟨w.heap.size + 1, 11, none⟩ = some (.int .i64 code) := (bxM.c 11 (by decide)).1
  have zm := bxM.lt
  go_upto_region 2 with (go_at_call 65; refine HBk.out.mono ?_; rintro e w1 ⟨rfl, hb1⟩)
  clear m0 m1 m2 m3 m4 m5 m6 m7 m8 m9 m10 m11 zm HBk bxM
  have z1 := hb1.size
  go_cut [] (fun wc => BoxN wc w1.heap.size 12 [.int .i64 6, .int .i64 dst, .int .i64 frm, .int .i64 site, .int .i64 num, .int .i64 0, .int .i64 key, .int .i64 0, .int .i64 0, .int .i64 ask, .bool false, .int .i64 0] ∧ Below w1.heap.size w1 wc)
  case first =>
    have bxm := KM.out _ hb1
    have m6 : w1.cell? ⟨w.heap.size + 1, 6, none⟩ = some (.int .i64 key) := (bxm.c 6 (by decide)).1
    have m9 : w1.cell? ⟨w.heap.size + 1, 9, none⟩ = some (.int .i64 ask) := (bxm.c 9 (by decide)).1
    have zm := bxm.lt
    clear bxm hWr HRD
    go_region
    all_goals
      go_wp2_with fail
      go_meet
      case rel => exact ⟨bxDr (boxn_new w1 #[.int .i64 6, .int .i64 dst, .int .i64 frm, .int .i64 site, .int .i64 num, .int .i64 0, .int .i64 key, .int .i64 0, .int .i64 0, .int .i64 ask, .bool false, .int .i64 0] 33 12 rfl), ((Below.refl _ _).alloc (Nat.le_refl _) _).drew⟩
  case rest =>
    obtain ⟨bxG, hbY⟩ := hcut
    obtain ⟨Y, eY⟩ : ∃ Y, Y = wc := ⟨_, rfl⟩
    rw [← eY] at bxG hbY ⊢
    clear eY
    have bWY : Below W.heap.size W Y := hb1.trans (hbY.mono z1)
    have zY := bWY.size
    have bxA := KA.out _ bWY
    have bxM := KM.out _ bWY
    have zG := bxG.lt
    have zM := bxM.lt
    have zA := bxA.lt
    have hwY := KW.out _ bWY
    have HWr : Hid (∀ U, Below w.heap.size w U → Calls Tryd.prog 18 #[.agg #[.slice va0 vn0 vc0, .slice va1 vn1 vc1, .slice va2 vn2 vc2, .slice va3 vn3 vc3], .agg #[.int .i64 site, .int .i64 num], .int .i64 key, .int .i64 value, .int .i64 ask] U fun e w' => ∃ r : SV, e = .returned (.tuple #[r.val, .int .i64 WE]) ∧ OwnStore w' U.heap.size r ∧ r.data = WDt ∧ Below U.heap.size U w') := fun U hU => hWr U (HV.out.st.below hU)
    clear hWr
    have a0 : Y.cell? ⟨w.heap.size, 0, none⟩ = some (.slice va0 vn0 vc0) := (bxA.c 0 (by decide)).1
    have a1 : Y.cell? ⟨w.heap.size, 1, none⟩ = some (.slice va1 vn1 vc1) := (bxA.c 1 (by decide)).1
    have a2 : Y.cell? ⟨w.heap.size, 2, none⟩ = some (.slice va2 vn2 vc2) := (bxA.c 2 (by decide)).1
    have a3 : Y.cell? ⟨w.heap.size, 3, none⟩ = some (.slice va3 vn3 vc3) := (bxA.c 3 (by decide)).1
    have m3 : Y.cell? ⟨w.heap.size + 1, 3, none⟩ = some (.int .i64 site) := (bxM.c 3 (by decide)).1
    have m4 : Y.cell? ⟨w.heap.size + 1, 4, none⟩ = some (.int .i64 num) := (bxM.c 4 (by decide)).1
    have m6 : Y.cell? ⟨w.heap.size + 1, 6, none⟩ = some (.int .i64 key) := (bxM.c 6 (by decide)).1
    have m7 : Y.cell? ⟨w.heap.size + 1, 7, none⟩ = some (.int .i64 value) := (bxM.c 7 (by decide)).1
    have m9 : Y.cell? ⟨w.heap.size + 1, 9, none⟩ = some (.int .i64 ask) := (bxM.c 9 (by decide)).1
    go_upto_region 4 with (go_at_call 18; refine (HWr.out _ hwY).mono ?_; rintro e u2 ⟨⟨ra0, rn0, rc0, ra1, rn1, rc1, ra2, rn2, rc2, ra3, rn3, rc3, ri, rl, rd, ro⟩, rfl, hO2, hd2, hb2⟩; simp only [SV.val])
    have hwu : Below w.heap.size w u2 := hwY.trans (hb2.mono hwY.size)
    have bWu : Below W.heap.size W u2 := bWY.trans (hb2.mono zY)
    have zu2 := hb2.size
    have hC3 : w.heap.size + 3 ≤ Y.heap.size := by have := HSZ.out; omega
    have hq1 : w.heap.size + 3 ≤ w1.heap.size := by have := HSZ.out; omega
    have bN : Below u2.heap.size u2 (u2.alloc (.cells #[.slice ra0 rn0 rc0, .slice ra1 rn1 rc1, .slice ra2 rn2 rc2, .slice ra3 rn3 rc3] 41)) := (Below.refl _ _).alloc (Nat.le_refl _) _
    have hH2 := (Half.start (C := Y.heap.size) HV.out hwu (KA.out _ bWu) (KQ.out _ bWu) hC3 none (fun g e => by cases e)).below bN
    have hO3 := hO2.below bN
    have bxG2 := bxG.below hb2 bxG.lt
    have bxG3 := bxG2.below bN bxG2.lt
    have bxM2 := KM.out _ bWu
    have bxM3 := bxM2.below bN bxM2.lt
    have bxN3 : BoxN (u2.alloc (.cells #[.slice ra0 rn0 rc0, .slice ra1 rn1 rc1, .slice ra2 rn2 rc2, .slice ra3 rn3 rc3] 41)) u2.heap.size 4 [.slice ra0 rn0 rc0, .slice ra1 rn1 rc1, .slice ra2 rn2 rc2, .slice ra3 rn3 rc3] := boxn_new u2 #[.slice ra0 rn0 rc0, .slice ra1 rn1 rc1, .slice ra2 rn2 rc2, .slice ra3 rn3 rc3] 41 4 rfl
    have HCX : Hid (Y.heap.size ≤ (u2.alloc (.cells #[.slice ra0 rn0 rc0, .slice ra1 rn1 rc1, .slice ra2 rn2 rc2, .slice ra3 rn3 rc3] 41)).heap.size) := by show _ ≤ _; simp; omega
    obtain ⟨X2, eX2⟩ : ∃ x, x = u2.alloc (.cells #[.slice ra0 rn0 rc0, .slice ra1 rn1 rc1, .slice ra2 rn2 rc2, .slice ra3 rn3 rc3] 41) := ⟨_, rfl⟩
    rw [← eX2] at hH2 hO3 bxG3 bxM3 bxN3 HCX ⊢
    clear eX2 bxG2 bxM2 bN HWr bxA bxM bxG a0 a1 a2 a3 m3 m4 m6 m7 m9
    have zG3 := bxG3.lt
    have g11 : X2.cell? ⟨w1.heap.size, 11, none⟩ = some (.int .i64 0) := (bxG3.c 11 (by decide)).1
    have gf11 := (bxG3.c 11 (by decide)).2
    by_cases hE : WE = 0
    · subst hE
      by_cases hr : room < 500
      · go_upto_region 10 with (fail)
        have hHc := hH2.aside hq1 zG 11 (.int .i64 8)
        have bxGc : BoxN (X2.setCell ⟨w1.heap.size, 11, none⟩ (.int .i64 8)) w1.heap.size 12 [.int .i64 6, .int .i64 dst, .int .i64 frm, .int .i64 site, .int .i64 num, .int .i64 0, .int .i64 key, .int .i64 0, .int .i64 0, .int .i64 ask, .bool false, .int .i64 8] := bxG3.set 11 (by decide) _
        obtain ⟨Xc, eXc⟩ : ∃ x, x = X2.setCell ⟨w1.heap.size, 11, none⟩ (.int .i64 8) := ⟨_, rfl⟩
        have HCXc : Hid (Y.heap.size ≤ Xc.heap.size) := by show _ ≤ _; rw [eXc]; simpa using HCX.out
        rw [← eXc] at hHc bxGc ⊢
        clear eXc g11 gf11
        clear HCX
        have HCX := HCXc
        have hT : toldE 8 = true := rfl
        have HT9 : Hid (Calls Tryd.prog 66 #[.int .i64 8] Xc fun e w' => e = .returned (.bool true) ∧ w' = Xc) := by
          have := isTold_any 8 Xc
          rw [hT] at this; exact this
        have g11 : Xc.cell? ⟨w1.heap.size, 11, none⟩ = some (.int .i64 8) := (bxGc.c 11 (by decide)).1
        have zg := bxGc.lt
        have g0 : Xc.cell? ⟨w1.heap.size, 0, none⟩ = some (.int .i64 6) := (bxGc.c 0 (by decide)).1
        have g1 : Xc.cell? ⟨w1.heap.size, 1, none⟩ = some (.int .i64 dst) := (bxGc.c 1 (by decide)).1
        have g2 : Xc.cell? ⟨w1.heap.size, 2, none⟩ = some (.int .i64 frm) := (bxGc.c 2 (by decide)).1
        have g3 : Xc.cell? ⟨w1.heap.size, 3, none⟩ = some (.int .i64 site) := (bxGc.c 3 (by decide)).1
        have g4 : Xc.cell? ⟨w1.heap.size, 4, none⟩ = some (.int .i64 num) := (bxGc.c 4 (by decide)).1
        have g5 : Xc.cell? ⟨w1.heap.size, 5, none⟩ = some (.int .i64 0) := (bxGc.c 5 (by decide)).1
        have g6 : Xc.cell? ⟨w1.heap.size, 6, none⟩ = some (.int .i64 key) := (bxGc.c 6 (by decide)).1
        have g7 : Xc.cell? ⟨w1.heap.size, 7, none⟩ = some (.int .i64 0) := (bxGc.c 7 (by decide)).1
        have g8 : Xc.cell? ⟨w1.heap.size, 8, none⟩ = some (.int .i64 0) := (bxGc.c 8 (by decide)).1
        have g9 : Xc.cell? ⟨w1.heap.size, 9, none⟩ = some (.int .i64 ask) := (bxGc.c 9 (by decide)).1
        have g10 : Xc.cell? ⟨w1.heap.size, 10, none⟩ = some (.bool false) := (bxGc.c 10 (by decide)).1
        have a4 := (hHc.A.c 4 (by decide)).1
        have af4 := (hHc.A.c 4 (by decide)).2
        have zA := hHc.A.lt
        simp only [AnsV.cells, List.getD_cons_zero, List.getD_cons_succ] at a4
        go_upto_region 12 with (go_at_call 66; refine HT9.out.mono ?_; rintro e u9 ⟨rfl, hu9⟩; rw [hu9]; clear hu9)
        have hH9 := Half.msg2 hHc (g := ⟨6, dst, frm, site, num, 0, key, 0, 0, ask, false, 8⟩) (cs := #[.int .i64 6, .int .i64 dst, .int .i64 frm, .int .i64 site, .int .i64 num, .int .i64 0, .int .i64 key, .int .i64 0, .int .i64 0, .int .i64 ask, .bool false, .int .i64 8]) (ty := 33) rfl rfl HCX.out
        obtain ⟨X9, eX9⟩ : ∃ x, x = (Xc.setCell ⟨w.heap.size, 4, none⟩ (.slice (some ⟨Xc.heap.size, 0, none⟩) 1 1)).alloc (.cells #[.int .i64 6, .int .i64 dst, .int .i64 frm, .int .i64 site, .int .i64 num, .int .i64 0, .int .i64 key, .int .i64 0, .int .i64 0, .int .i64 ask, .bool false, .int .i64 8] 33) := ⟨_, rfl⟩
        rw [← eX9] at hH9 ⊢
        clear eX9 g0 g1 g2 g3 g4 g5 g6 g7 g8 g9 g10 g11 a4 af4 zA
        have hF := hH9.fin (.slice va0 vn0 vc0) (.slice va1 vn1 vc1) (.slice va2 vn2 vc2) (.slice va3 vn3 vc3) (.slice (some ⟨Xc.heap.size, 0, none⟩) 1 1) (.slice va5 vn5 vc5) (.slice va6 vn6 vc6)
        have k0 : X9.cell? ⟨w.heap.size, 0, none⟩ = some (.slice va0 vn0 vc0) := (hH9.A.c 0 (by decide)).1
        have q0 : X9.cell? ⟨w.heap.size + 2, 0, none⟩ = some (.slice none 0 0) := (hH9.Q.c 0 (by decide)).1
        have qf0 := (hH9.Q.c 0 (by decide)).2
        have k1 : X9.cell? ⟨w.heap.size, 1, none⟩ = some (.slice va1 vn1 vc1) := (hH9.A.c 1 (by decide)).1
        have q1 : X9.cell? ⟨w.heap.size + 2, 1, none⟩ = some (.slice none 0 0) := (hH9.Q.c 1 (by decide)).1
        have qf1 := (hH9.Q.c 1 (by decide)).2
        have k2 : X9.cell? ⟨w.heap.size, 2, none⟩ = some (.slice va2 vn2 vc2) := (hH9.A.c 2 (by decide)).1
        have q2 : X9.cell? ⟨w.heap.size + 2, 2, none⟩ = some (.slice none 0 0) := (hH9.Q.c 2 (by decide)).1
        have qf2 := (hH9.Q.c 2 (by decide)).2
        have k3 : X9.cell? ⟨w.heap.size, 3, none⟩ = some (.slice va3 vn3 vc3) := (hH9.A.c 3 (by decide)).1
        have q3 : X9.cell? ⟨w.heap.size + 2, 3, none⟩ = some (.slice none 0 0) := (hH9.Q.c 3 (by decide)).1
        have qf3 := (hH9.Q.c 3 (by decide)).2
        have k4 : X9.cell? ⟨w.heap.size, 4, none⟩ = some (.slice (some ⟨Xc.heap.size, 0, none⟩) 1 1) := (hH9.A.c 4 (by decide)).1
        have q4 : X9.cell? ⟨w.heap.size + 2, 4, none⟩ = some (.slice none 0 0) := (hH9.Q.c 4 (by decide)).1
        have qf4 := (hH9.Q.c 4 (by decide)).2
        have k5 : X9.cell? ⟨w.heap.size, 5, none⟩ = some (.slice va5 vn5 vc5) := (hH9.A.c 5 (by decide)).1
        have q5 : X9.cell? ⟨w.heap.size + 2, 5, none⟩ = some (.slice none 0 0) := (hH9.Q.c 5 (by decide)).1
        have qf5 := (hH9.Q.c 5 (by decide)).2
        have k6 : X9.cell? ⟨w.heap.size, 6, none⟩ = some (.slice va6 vn6 vc6) := (hH9.A.c 6 (by decide)).1
        have q6 : X9.cell? ⟨w.heap.size + 2, 6, none⟩ = some (.slice none 0 0) := (hH9.Q.c 6 (by decide)).1
        have qf6 := (hH9.Q.c 6 (by decide)).2
        have zk := hH9.A.lt
        have zq := hH9.Q.lt
        go_wp2
        refine bodyPost_ret (v := .agg #[.slice va0 vn0 vc0, .slice va1 vn1 vc1, .slice va2 vn2 vc2, .slice va3 vn3 vc3, .slice (some ⟨Xc.heap.size, 0, none⟩) 1 1, .slice va5 vn5 vc5, .slice va6 vn6 vc6]) (by simp [results, Tryd.results28, go_sem, q0, q1, q2, q3, q4, q5, q6]) rfl ⟨_, rfl, hF.1, by rw [HRD.out]; simp [AnsV.data, hT, hr], below_of_grown hF.2, hH9.far⟩
      · have hr2 : 500 ≤ room := by omega
        clear g11 gf11
        have n0 : X2.cell? ⟨u2.heap.size, 0, none⟩ = some (.slice ra0 rn0 rc0) := (bxN3.c 0 (by decide)).1
        have n1 : X2.cell? ⟨u2.heap.size, 1, none⟩ = some (.slice ra1 rn1 rc1) := (bxN3.c 1 (by decide)).1
        have n2 : X2.cell? ⟨u2.heap.size, 2, none⟩ = some (.slice ra2 rn2 rc2) := (bxN3.c 2 (by decide)).1
        have n3 : X2.cell? ⟨u2.heap.size, 3, none⟩ = some (.slice ra3 rn3 rc3) := (bxN3.c 3 (by decide)).1
        have a0 : X2.cell? ⟨w.heap.size, 0, none⟩ = some (.slice va0 vn0 vc0) := (hH2.A.c 0 (by decide)).1
        have af0 := (hH2.A.c 0 (by decide)).2
        have a1 : X2.cell? ⟨w.heap.size, 1, none⟩ = some (.slice va1 vn1 vc1) := (hH2.A.c 1 (by decide)).1
        have af1 := (hH2.A.c 1 (by decide)).2
        have a2 : X2.cell? ⟨w.heap.size, 2, none⟩ = some (.slice va2 vn2 vc2) := (hH2.A.c 2 (by decide)).1
        have af2 := (hH2.A.c 2 (by decide)).2
        have a3 : X2.cell? ⟨w.heap.size, 3, none⟩ = some (.slice va3 vn3 vc3) := (hH2.A.c 3 (by decide)).1
        have af3 := (hH2.A.c 3 (by decide)).2
        have zN3 := bxN3.lt
        have zA3 := hH2.A.lt
        go_upto_region 8 with (fail)
        have hH3 := Half.store hH2 hO3 (Nat.le_refl _)
        simp only [] at hH3
        have hneG : w1.heap.size ≠ w.heap.size := by omega
        have hneM : w.heap.size + 1 ≠ w.heap.size := by omega
        have bxG4 : BoxN ((((X2.setCell ⟨w.heap.size, 0, none⟩ (.slice ra0 rn0 rc0)).setCell ⟨w.heap.size, 1, none⟩ (.slice ra1 rn1 rc1)).setCell ⟨w.heap.size, 2, none⟩ (.slice ra2 rn2 rc2)).setCell ⟨w.heap.size, 3, none⟩ (.slice ra3 rn3 rc3)) w1.heap.size 12 [.int .i64 6, .int .i64 dst, .int .i64 frm, .int .i64 site, .int .i64 num, .int .i64 0, .int .i64 key, .int .i64 0, .int .i64 0, .int .i64 ask, .bool false, .int .i64 0] := (((bxG3.far hneG).far hneG).far hneG).far hneG
        have bxM4 : BoxN ((((X2.setCell ⟨w.heap.size, 0, none⟩ (.slice ra0 rn0 rc0)).setCell ⟨w.heap.size, 1, none⟩ (.slice ra1 rn1 rc1)).setCell ⟨w.heap.size, 2, none⟩ (.slice ra2 rn2 rc2)).setCell ⟨w.heap.size, 3, none⟩ (.slice ra3 rn3 rc3)) (w.heap.size + 1) 12 [.int .i64 kind, .int .i64 frm, .int .i64 dst, .int .i64 site, .int .i64 num, .int .i64 label, .int .i64 key, .int .i64 value, .int .i64 version, .int .i64 ask, .bool yes, .int .i64 code] := (((bxM3.far hneM).far hneM).far hneM).far hneM
        obtain ⟨X3, eX3⟩ : ∃ x, x = ((((X2.setCell ⟨w.heap.size, 0, none⟩ (.slice ra0 rn0 rc0)).setCell ⟨w.heap.size, 1, none⟩ (.slice ra1 rn1 rc1)).setCell ⟨w.heap.size, 2, none⟩ (.slice ra2 rn2 rc2)).setCell ⟨w.heap.size, 3, none⟩ (.slice ra3 rn3 rc3)) := ⟨_, rfl⟩
        have HCX3 : Hid (Y.heap.size ≤ X3.heap.size) := by show _ ≤ _; rw [eX3]; simpa using HCX.out
        rw [← eX3] at hH3 bxG4 bxM4 ⊢
        clear eX3 HCX n0 n1 n2 n3 a0 a1 a2 a3 af0 af1 af2 af3
        have m3 : X3.cell? ⟨w.heap.size + 1, 3, none⟩ = some (.int .i64 site) := (bxM4.c 3 (by decide)).1
        have m4 : X3.cell? ⟨w.heap.size + 1, 4, none⟩ = some (.int .i64 num) := (bxM4.c 4 (by decide)).1
        have m6 : X3.cell? ⟨w.heap.size + 1, 6, none⟩ = some (.int .i64 key) := (bxM4.c 6 (by decide)).1
        have m7 : X3.cell? ⟨w.heap.size + 1, 7, none⟩ = some (.int .i64 value) := (bxM4.c 7 (by decide)).1
        have m9 : X3.cell? ⟨w.heap.size + 1, 9, none⟩ = some (.int .i64 ask) := (bxM4.c 9 (by decide)).1
        have a5 : X3.cell? ⟨w.heap.size, 5, none⟩ = some (.slice va5 vn5 vc5) := (hH3.A.c 5 (by decide)).1
        have af5 := (hH3.A.c 5 (by decide)).2
        have zM4 := bxM4.lt
        have zA4 := hH3.A.lt
        go_upto_region 9 with (fail)
        have hH4 := Half.rcd2 hH3 (g := ⟨1, site, num, key, value, ask, false⟩) (cs := #[.int .i64 1, .int .i64 site, .int .i64 num, .int .i64 key, .int .i64 value, .int .i64 ask, .bool false, .slice none 0 0]) (ty := 69) rfl rfl HCX3.out
        have bs5 : Below (X3.setCell ⟨w.heap.size, 5, none⟩ (.slice (some ⟨X3.heap.size, 0, none⟩) 1 1)).heap.size (X3.setCell ⟨w.heap.size, 5, none⟩ (.slice (some ⟨X3.heap.size, 0, none⟩) 1 1)) ((X3.setCell ⟨w.heap.size, 5, none⟩ (.slice (some ⟨X3.heap.size, 0, none⟩) 1 1)).alloc (.cells #[.int .i64 1, .int .i64 site, .int .i64 num, .int .i64 key, .int .i64 value, .int .i64 ask, .bool false, .slice none 0 0] 69)) := (Below.refl _ _).alloc (Nat.le_refl _) _
        have bxG5a : BoxN (X3.setCell ⟨w.heap.size, 5, none⟩ (.slice (some ⟨X3.heap.size, 0, none⟩) 1 1)) w1.heap.size 12 [.int .i64 6, .int .i64 dst, .int .i64 frm, .int .i64 site, .int .i64 num, .int .i64 0, .int .i64 key, .int .i64 0, .int .i64 0, .int .i64 ask, .bool false, .int .i64 0] := bxG4.far hneG
        have bxG5 := bxG5a.below bs5 bxG5a.lt
        obtain ⟨X4, eX4⟩ : ∃ x, x = (X3.setCell ⟨w.heap.size, 5, none⟩ (.slice (some ⟨X3.heap.size, 0, none⟩) 1 1)).alloc (.cells #[.int .i64 1, .int .i64 site, .int .i64 num, .int .i64 key, .int .i64 value, .int .i64 ask, .bool false, .slice none 0 0] 69) := ⟨_, rfl⟩
        have HCX4 : Hid (Y.heap.size ≤ X4.heap.size) := by show _ ≤ _; rw [eX4]; have := HCX3.out; simp; omega
        rw [← eX4] at hH4 bxG5 ⊢
        clear eX4 bxG5a bs5 m3 m4 m6 m7 m9 a5 af5
        have g11 : X4.cell? ⟨w1.heap.size, 11, none⟩ = some (.int .i64 0) := (bxG5.c 11 (by decide)).1
        have gf11 := (bxG5.c 11 (by decide)).2
        have zG5 := bxG5.lt
        go_upto_region 10 with (fail)
        have hHc := hH4.aside hq1 zG 11 (.int .i64 0)
        have bxGc : BoxN (X4.setCell ⟨w1.heap.size, 11, none⟩ (.int .i64 0)) w1.heap.size 12 [.int .i64 6, .int .i64 dst, .int .i64 frm, .int .i64 site, .int .i64 num, .int .i64 0, .int .i64 key, .int .i64 0, .int .i64 0, .int .i64 ask, .bool false, .int .i64 0] := bxG5.set 11 (by decide) _
        obtain ⟨Xc, eXc⟩ : ∃ x, x = X4.setCell ⟨w1.heap.size, 11, none⟩ (.int .i64 0) := ⟨_, rfl⟩
        have HCXc : Hid (Y.heap.size ≤ Xc.heap.size) := by show _ ≤ _; rw [eXc]; simpa using HCX4.out
        rw [← eXc] at hHc bxGc ⊢
        clear eXc g11 gf11
        have HCX := HCXc
        have hT : toldE 0 = true := rfl
        have HT9 : Hid (Calls Tryd.prog 66 #[.int .i64 0] Xc fun e w' => e = .returned (.bool true) ∧ w' = Xc) := by
          have := isTold_any 0 Xc
          rw [hT] at this; exact this
        have g11 : Xc.cell? ⟨w1.heap.size, 11, none⟩ = some (.int .i64 0) := (bxGc.c 11 (by decide)).1
        have zg := bxGc.lt
        have g0 : Xc.cell? ⟨w1.heap.size, 0, none⟩ = some (.int .i64 6) := (bxGc.c 0 (by decide)).1
        have g1 : Xc.cell? ⟨w1.heap.size, 1, none⟩ = some (.int .i64 dst) := (bxGc.c 1 (by decide)).1
        have g2 : Xc.cell? ⟨w1.heap.size, 2, none⟩ = some (.int .i64 frm) := (bxGc.c 2 (by decide)).1
        have g3 : Xc.cell? ⟨w1.heap.size, 3, none⟩ = some (.int .i64 site) := (bxGc.c 3 (by decide)).1
        have g4 : Xc.cell? ⟨w1.heap.size, 4, none⟩ = some (.int .i64 num) := (bxGc.c 4 (by decide)).1
        have g5 : Xc.cell? ⟨w1.heap.size, 5, none⟩ = some (.int .i64 0) := (bxGc.c 5 (by decide)).1
        have g6 : Xc.cell? ⟨w1.heap.size, 6, none⟩ = some (.int .i64 key) := (bxGc.c 6 (by decide)).1
        have g7 : Xc.cell? ⟨w1.heap.size, 7, none⟩ = some (.int .i64 0) := (bxGc.c 7 (by decide)).1
        have g8 : Xc.cell? ⟨w1.heap.size, 8, none⟩ = some (.int .i64 0) := (bxGc.c 8 (by decide)).1
        have g9 : Xc.cell? ⟨w1.heap.size, 9, none⟩ = some (.int .i64 ask) := (bxGc.c 9 (by decide)).1
        have g10 : Xc.cell? ⟨w1.heap.size, 10, none⟩ = some (.bool false) := (bxGc.c 10 (by decide)).1
        have a4 := (hHc.A.c 4 (by decide)).1
        have af4 := (hHc.A.c 4 (by decide)).2
        have zA := hHc.A.lt
        simp only [AnsV.cells, List.getD_cons_zero, List.getD_cons_succ] at a4
        go_upto_region 12 with (go_at_call 66; refine HT9.out.mono ?_; rintro e u9 ⟨rfl, hu9⟩; rw [hu9]; clear hu9)
        have hH9 := Half.msg2 hHc (g := ⟨6, dst, frm, site, num, 0, key, 0, 0, ask, false, 0⟩) (cs := #[.int .i64 6, .int .i64 dst, .int .i64 frm, .int .i64 site, .int .i64 num, .int .i64 0, .int .i64 key, .int .i64 0, .int .i64 0, .int .i64 ask, .bool false, .int .i64 0]) (ty := 33) rfl rfl HCX.out
        obtain ⟨X9, eX9⟩ : ∃ x, x = (Xc.setCell ⟨w.heap.size, 4, none⟩ (.slice (some ⟨Xc.heap.size, 0, none⟩) 1 1)).alloc (.cells #[.int .i64 6, .int .i64 dst, .int .i64 frm, .int .i64 site, .int .i64 num, .int .i64 0, .int .i64 key, .int .i64 0, .int .i64 0, .int .i64 ask, .bool false, .int .i64 0] 33) := ⟨_, rfl⟩
        rw [← eX9] at hH9 ⊢
        clear eX9 g0 g1 g2 g3 g4 g5 g6 g7 g8 g9 g10 g11 a4 af4 zA
        have hF := hH9.fin (.slice ra0 rn0 rc0) (.slice ra1 rn1 rc1) (.slice ra2 rn2 rc2) (.slice ra3 rn3 rc3) (.slice (some ⟨Xc.heap.size, 0, none⟩) 1 1) (.slice (some ⟨X3.heap.size, 0, none⟩) 1 1) (.slice va6 vn6 vc6)
        have k0 : X9.cell? ⟨w.heap.size, 0, none⟩ = some (.slice ra0 rn0 rc0) := (hH9.A.c 0 (by decide)).1
        have q0 : X9.cell? ⟨w.heap.size + 2, 0, none⟩ = some (.slice none 0 0) := (hH9.Q.c 0 (by decide)).1
        have qf0 := (hH9.Q.c 0 (by decide)).2
        have k1 : X9.cell? ⟨w.heap.size, 1, none⟩ = some (.slice ra1 rn1 rc1) := (hH9.A.c 1 (by decide)).1
        have q1 : X9.cell? ⟨w.heap.size + 2, 1, none⟩ = some (.slice none 0 0) := (hH9.Q.c 1 (by decide)).1
        have qf1 := (hH9.Q.c 1 (by decide)).2
        have k2 : X9.cell? ⟨w.heap.size, 2, none⟩ = some (.slice ra2 rn2 rc2) := (hH9.A.c 2 (by decide)).1
        have q2 : X9.cell? ⟨w.heap.size + 2, 2, none⟩ = some (.slice none 0 0) := (hH9.Q.c 2 (by decide)).1
        have qf2 := (hH9.Q.c 2 (by decide)).2
        have k3 : X9.cell? ⟨w.heap.size, 3, none⟩ = some (.slice ra3 rn3 rc3) := (hH9.A.c 3 (by decide)).1
        have q3 : X9.cell? ⟨w.heap.size + 2, 3, none⟩ = some (.slice none 0 0) := (hH9.Q.c 3 (by decide)).1
        have qf3 := (hH9.Q.c 3 (by decide)).2
        have k4 : X9.cell? ⟨w.heap.size, 4, none⟩ = some (.slice (some ⟨Xc.heap.size, 0, none⟩) 1 1) := (hH9.A.c 4 (by decide)).1
        have q4 : X9.cell? ⟨w.heap.size + 2, 4, none⟩ = some (.slice none 0 0) := (hH9.Q.c 4 (by decide)).1
        have qf4 := (hH9.Q.c 4 (by decide)).2
        have k5 : X9.cell? ⟨w.heap.size, 5, none⟩ = some (.slice (some ⟨X3.heap.size, 0, none⟩) 1 1) := (hH9.A.c 5 (by decide)).1
        have q5 : X9.cell? ⟨w.heap.size + 2, 5, none⟩ = some (.slice none 0 0) := (hH9.Q.c 5 (by decide)).1
        have qf5 := (hH9.Q.c 5 (by decide)).2
        have k6 : X9.cell? ⟨w.heap.size, 6, none⟩ = some (.slice va6 vn6 vc6) := (hH9.A.c 6 (by decide)).1
        have q6 : X9.cell? ⟨w.heap.size + 2, 6, none⟩ = some (.slice none 0 0) := (hH9.Q.c 6 (by decide)).1
        have qf6 := (hH9.Q.c 6 (by decide)).2
        have zk := hH9.A.lt
        have zq := hH9.Q.lt
        go_wp2
        refine bodyPost_ret (v := .agg #[.slice ra0 rn0 rc0, .slice ra1 rn1 rc1, .slice ra2 rn2 rc2, .slice ra3 rn3 rc3, .slice (some ⟨Xc.heap.size, 0, none⟩) 1 1, .slice (some ⟨X3.heap.size, 0, none⟩) 1 1, .slice va6 vn6 vc6]) (by simp [results, Tryd.results28, go_sem, q0, q1, q2, q3, q4, q5, q6]) rfl ⟨_, rfl, hF.1, by rw [HRD.out]; simp [AnsV.data, hT, Int.not_lt.mpr hr2, hd2], below_of_grown hF.2, hH9.far⟩
    · have hE2 : (WE == 0) = false := by simp [hE]
      go_upto_region 10 with (fail)
      have hHc := hH2.aside hq1 zG 11 (.int .i64 WE)
      have bxGc : BoxN (X2.setCell ⟨w1.heap.size, 11, none⟩ (.int .i64 WE)) w1.heap.size 12 [.int .i64 6, .int .i64 dst, .int .i64 frm, .int .i64 site, .int .i64 num, .int .i64 0, .int .i64 key, .int .i64 0, .int .i64 0, .int .i64 ask, .bool false, .int .i64 WE] := bxG3.set 11 (by decide) _
      obtain ⟨Xc, eXc⟩ : ∃ x, x = X2.setCell ⟨w1.heap.size, 11, none⟩ (.int .i64 WE) := ⟨_, rfl⟩
      have HCXc : Hid (Y.heap.size ≤ Xc.heap.size) := by show _ ≤ _; rw [eXc]; simpa using HCX.out
      rw [← eXc] at hHc bxGc ⊢
      clear eXc g11 gf11
      clear HCX
      have HCX := HCXc
      by_cases hT : toldE WE = true
      · have hT0 := hT
        have HT9 : Hid (Calls Tryd.prog 66 #[.int .i64 WE] Xc fun e w' => e = .returned (.bool true) ∧ w' = Xc) := by
          have := isTold_any WE Xc
          rw [hT] at this; exact this
        have g11 : Xc.cell? ⟨w1.heap.size, 11, none⟩ = some (.int .i64 WE) := (bxGc.c 11 (by decide)).1
        have zg := bxGc.lt
        have g0 : Xc.cell? ⟨w1.heap.size, 0, none⟩ = some (.int .i64 6) := (bxGc.c 0 (by decide)).1
        have g1 : Xc.cell? ⟨w1.heap.size, 1, none⟩ = some (.int .i64 dst) := (bxGc.c 1 (by decide)).1
        have g2 : Xc.cell? ⟨w1.heap.size, 2, none⟩ = some (.int .i64 frm) := (bxGc.c 2 (by decide)).1
        have g3 : Xc.cell? ⟨w1.heap.size, 3, none⟩ = some (.int .i64 site) := (bxGc.c 3 (by decide)).1
        have g4 : Xc.cell? ⟨w1.heap.size, 4, none⟩ = some (.int .i64 num) := (bxGc.c 4 (by decide)).1
        have g5 : Xc.cell? ⟨w1.heap.size, 5, none⟩ = some (.int .i64 0) := (bxGc.c 5 (by decide)).1
        have g6 : Xc.cell? ⟨w1.heap.size, 6, none⟩ = some (.int .i64 key) := (bxGc.c 6 (by decide)).1
        have g7 : Xc.cell? ⟨w1.heap.size, 7, none⟩ = some (.int .i64 0) := (bxGc.c 7 (by decide)).1
        have g8 : Xc.cell? ⟨w1.heap.size, 8, none⟩ = some (.int .i64 0) := (bxGc.c 8 (by decide)).1
        have g9 : Xc.cell? ⟨w1.heap.size, 9, none⟩ = some (.int .i64 ask) := (bxGc.c 9 (by decide)).1
        have g10 : Xc.cell? ⟨w1.heap.size, 10, none⟩ = some (.bool false) := (bxGc.c 10 (by decide)).1
        have a4 := (hHc.A.c 4 (by decide)).1
        have af4 := (hHc.A.c 4 (by decide)).2
        have zA := hHc.A.lt
        simp only [AnsV.cells, List.getD_cons_zero, List.getD_cons_succ] at a4
        go_upto_region 12 with (go_at_call 66; refine HT9.out.mono ?_; rintro e u9 ⟨rfl, hu9⟩; rw [hu9]; clear hu9)
        have hH9 := Half.msg2 hHc (g := ⟨6, dst, frm, site, num, 0, key, 0, 0, ask, false, WE⟩) (cs := #[.int .i64 6, .int .i64 dst, .int .i64 frm, .int .i64 site, .int .i64 num, .int .i64 0, .int .i64 key, .int .i64 0, .int .i64 0, .int .i64 ask, .bool false, .int .i64 WE]) (ty := 33) rfl rfl HCX.out
        obtain ⟨X9, eX9⟩ : ∃ x, x = (Xc.setCell ⟨w.heap.size, 4, none⟩ (.slice (some ⟨Xc.heap.size, 0, none⟩) 1 1)).alloc (.cells #[.int .i64 6, .int .i64 dst, .int .i64 frm, .int .i64 site, .int .i64 num, .int .i64 0, .int .i64 key, .int .i64 0, .int .i64 0, .int .i64 ask, .bool false, .int .i64 WE] 33) := ⟨_, rfl⟩
        rw [← eX9] at hH9 ⊢
        clear eX9 g0 g1 g2 g3 g4 g5 g6 g7 g8 g9 g10 g11 a4 af4 zA
        have hF := hH9.fin (.slice va0 vn0 vc0) (.slice va1 vn1 vc1) (.slice va2 vn2 vc2) (.slice va3 vn3 vc3) (.slice (some ⟨Xc.heap.size, 0, none⟩) 1 1) (.slice va5 vn5 vc5) (.slice va6 vn6 vc6)
        have k0 : X9.cell? ⟨w.heap.size, 0, none⟩ = some (.slice va0 vn0 vc0) := (hH9.A.c 0 (by decide)).1
        have q0 : X9.cell? ⟨w.heap.size + 2, 0, none⟩ = some (.slice none 0 0) := (hH9.Q.c 0 (by decide)).1
        have qf0 := (hH9.Q.c 0 (by decide)).2
        have k1 : X9.cell? ⟨w.heap.size, 1, none⟩ = some (.slice va1 vn1 vc1) := (hH9.A.c 1 (by decide)).1
        have q1 : X9.cell? ⟨w.heap.size + 2, 1, none⟩ = some (.slice none 0 0) := (hH9.Q.c 1 (by decide)).1
        have qf1 := (hH9.Q.c 1 (by decide)).2
        have k2 : X9.cell? ⟨w.heap.size, 2, none⟩ = some (.slice va2 vn2 vc2) := (hH9.A.c 2 (by decide)).1
        have q2 : X9.cell? ⟨w.heap.size + 2, 2, none⟩ = some (.slice none 0 0) := (hH9.Q.c 2 (by decide)).1
        have qf2 := (hH9.Q.c 2 (by decide)).2
        have k3 : X9.cell? ⟨w.heap.size, 3, none⟩ = some (.slice va3 vn3 vc3) := (hH9.A.c 3 (by decide)).1
        have q3 : X9.cell? ⟨w.heap.size + 2, 3, none⟩ = some (.slice none 0 0) := (hH9.Q.c 3 (by decide)).1
        have qf3 := (hH9.Q.c 3 (by decide)).2
        have k4 : X9.cell? ⟨w.heap.size, 4, none⟩ = some (.slice (some ⟨Xc.heap.size, 0, none⟩) 1 1) := (hH9.A.c 4 (by decide)).1
        have q4 : X9.cell? ⟨w.heap.size + 2, 4, none⟩ = some (.slice none 0 0) := (hH9.Q.c 4 (by decide)).1
        have qf4 := (hH9.Q.c 4 (by decide)).2
        have k5 : X9.cell? ⟨w.heap.size, 5, none⟩ = some (.slice va5 vn5 vc5) := (hH9.A.c 5 (by decide)).1
        have q5 : X9.cell? ⟨w.heap.size + 2, 5, none⟩ = some (.slice none 0 0) := (hH9.Q.c 5 (by decide)).1
        have qf5 := (hH9.Q.c 5 (by decide)).2
        have k6 : X9.cell? ⟨w.heap.size, 6, none⟩ = some (.slice va6 vn6 vc6) := (hH9.A.c 6 (by decide)).1
        have q6 : X9.cell? ⟨w.heap.size + 2, 6, none⟩ = some (.slice none 0 0) := (hH9.Q.c 6 (by decide)).1
        have qf6 := (hH9.Q.c 6 (by decide)).2
        have zk := hH9.A.lt
        have zq := hH9.Q.lt
        go_wp2
        refine bodyPost_ret (v := .agg #[.slice va0 vn0 vc0, .slice va1 vn1 vc1, .slice va2 vn2 vc2, .slice va3 vn3 vc3, .slice (some ⟨Xc.heap.size, 0, none⟩) 1 1, .slice va5 vn5 vc5, .slice va6 vn6 vc6]) (by simp [results, Tryd.results28, go_sem, q0, q1, q2, q3, q4, q5, q6]) rfl ⟨_, rfl, hF.1, by rw [HRD.out]; simp [AnsV.data, hT, hE], below_of_grown hF.2, hH9.far⟩
      · replace hT : toldE WE = false := by simpa using hT
        have HT9 : Hid (Calls Tryd.prog 66 #[.int .i64 WE] Xc fun e w' => e = .returned (.bool false) ∧ w' = Xc) := by
          have := isTold_any WE Xc
          rw [hT] at this; exact this
        have g11 : Xc.cell? ⟨w1.heap.size, 11, none⟩ = some (.int .i64 WE) := (bxGc.c 11 (by decide)).1
        have zg := bxGc.lt
        go_upto_region 12 with (go_at_call 66; refine HT9.out.mono ?_; rintro e u9 ⟨rfl, hu9⟩; rw [hu9]; clear hu9)
        have hH9 := hHc
        have hF := hH9.fin (.slice va0 vn0 vc0) (.slice va1 vn1 vc1) (.slice va2 vn2 vc2) (.slice va3 vn3 vc3) (.slice va4 vn4 vc4) (.slice va5 vn5 vc5) (.slice va6 vn6 vc6)
        have k0 : Xc.cell? ⟨w.heap.size, 0, none⟩ = some (.slice va0 vn0 vc0) := (hH9.A.c 0 (by decide)).1
        have q0 : Xc.cell? ⟨w.heap.size + 2, 0, none⟩ = some (.slice none 0 0) := (hH9.Q.c 0 (by decide)).1
        have qf0 := (hH9.Q.c 0 (by decide)).2
        have k1 : Xc.cell? ⟨w.heap.size, 1, none⟩ = some (.slice va1 vn1 vc1) := (hH9.A.c 1 (by decide)).1
        have q1 : Xc.cell? ⟨w.heap.size + 2, 1, none⟩ = some (.slice none 0 0) := (hH9.Q.c 1 (by decide)).1
        have qf1 := (hH9.Q.c 1 (by decide)).2
        have k2 : Xc.cell? ⟨w.heap.size, 2, none⟩ = some (.slice va2 vn2 vc2) := (hH9.A.c 2 (by decide)).1
        have q2 : Xc.cell? ⟨w.heap.size + 2, 2, none⟩ = some (.slice none 0 0) := (hH9.Q.c 2 (by decide)).1
        have qf2 := (hH9.Q.c 2 (by decide)).2
        have k3 : Xc.cell? ⟨w.heap.size, 3, none⟩ = some (.slice va3 vn3 vc3) := (hH9.A.c 3 (by decide)).1
        have q3 : Xc.cell? ⟨w.heap.size + 2, 3, none⟩ = some (.slice none 0 0) := (hH9.Q.c 3 (by decide)).1
        have qf3 := (hH9.Q.c 3 (by decide)).2
        have k4 : Xc.cell? ⟨w.heap.size, 4, none⟩ = some (.slice va4 vn4 vc4) := (hH9.A.c 4 (by decide)).1
        have q4 : Xc.cell? ⟨w.heap.size + 2, 4, none⟩ = some (.slice none 0 0) := (hH9.Q.c 4 (by decide)).1
        have qf4 := (hH9.Q.c 4 (by decide)).2
        have k5 : Xc.cell? ⟨w.heap.size, 5, none⟩ = some (.slice va5 vn5 vc5) := (hH9.A.c 5 (by decide)).1
        have q5 : Xc.cell? ⟨w.heap.size + 2, 5, none⟩ = some (.slice none 0 0) := (hH9.Q.c 5 (by decide)).1
        have qf5 := (hH9.Q.c 5 (by decide)).2
        have k6 : Xc.cell? ⟨w.heap.size, 6, none⟩ = some (.slice va6 vn6 vc6) := (hH9.A.c 6 (by decide)).1
        have q6 : Xc.cell? ⟨w.heap.size + 2, 6, none⟩ = some (.slice none 0 0) := (hH9.Q.c 6 (by decide)).1
        have qf6 := (hH9.Q.c 6 (by decide)).2
        have zk := hH9.A.lt
        have zq := hH9.Q.lt
        go_wp2
        refine bodyPost_ret (v := .agg #[.slice va0 vn0 vc0, .slice va1 vn1 vc1, .slice va2 vn2 vc2, .slice va3 vn3 vc3, .slice va4 vn4 vc4, .slice va5 vn5 vc5, .slice va6 vn6 vc6]) (by simp [results, Tryd.results28, go_sem, q0, q1, q2, q3, q4, q5, q6]) rfl ⟨_, rfl, hF.1, by rw [HRD.out]; simp [AnsV.data, hT, hE], below_of_grown hF.2, hH9.far⟩
end Go.Proofs.YtcmjcopopkafnaaDoor.Pt
/- The contract of part.check. -/
namespace Go.Proofs.YtcmjcopopkafnaaDoor.Pt
open Go.ChangeShapes Go.WideShapes Go.ChangeAt Go.RowKit
open Go.Proofs.YtcmjcopopkafnaaDoor.St (SV PS IsStore IsRow storeOK TxWf BoxN boxn_new OwnStore flat flat_append Elem isOne grown_setCell own_below own_isRow isRow_nil cntErr cntIs endErr endData txOK readVal readVer readErr readData peekVal peekVer peekErr writeErr writeData stillIs refErr)
set_option linter.unusedVariables false


set_option maxRecDepth 100000 in
set_option maxHeartbeats 8000000 in
theorem partCheck_any (v : AnsV) (l : Int) (sa : Option Addr) (n sc : Nat) (ss : List SV) (m : MV) (w : World) (hv : IsAns w v) (hwf : ∀ t ∈ v.st.over, TxWf t) (hS : IsStores w sa n sc ss) (hm : m.label ≠ l → 0 ≤ m.label ∧ m.label < (n : Int)) :
    Calls Tryd.prog 29 #[v.val, .int .i64 l, .slice sa n sc, m.val] w fun e w' => ∃ v' : AnsV, e = .returned v'.val ∧ IsAns w' v' ∧ v'.data = checkD l v.st (ss.getD m.label.toNat default) m v.data ∧ Below w.heap.size w w' ∧ ∀ B, v.far B → B ≤ w.heap.size → v'.far B := by
  have hSt := fun U hU => St.still_any v.st (mtx m) m.key m.version U hU hwf
  have hPk : m.label ≠ l → ∀ U, IsStores U sa n sc ss → Calls Tryd.prog 16 #[(ss.getD m.label.toNat default).val, .int .i64 m.key] U fun e w' => e = .returned (.tuple #[.int .i64 (peekVal (ss.getD m.label.toNat default) m.key), .int .i64 (peekVer (ss.getD m.label.toNat default) m.key), .int .i64 (peekErr (ss.getD m.label.toNat default) m.key)]) ∧ Below U.heap.size U w' := fun hne U hU => by
    have := hm hne
    have hn : m.label.toNat < n := by omega
    exact St.peek_any (ss.getD m.label.toNat default) m.key U (hU.each _ hn).1 (hU.each _ hn).2
  have HRD : Hid (checkD l v.st (ss.getD m.label.toNat default) m v.data = ⟨v.st.data, [⟨7, m.dst, m.frm, m.site, m.num, m.label, m.key, 0, m.version, 0, if m.label = l then stillIs v.st (mtx m) m.key m.version else peekErr (ss.getD m.label.toNat default) m.key == 0 && peekVer (ss.getD m.label.toNat default) m.key == m.version, 0⟩], v.rs, v.ns⟩) := rfl
  obtain ⟨RD, eRD⟩ : ∃ x, x = checkD l v.st (ss.getD m.label.toNat default) m v.data := ⟨_, rfl⟩
  rw [← eRD] at HRD ⊢
  clear eRD
  obtain ⟨SI, eSI⟩ : ∃ x, x = stillIs v.st (mtx m) m.key m.version := ⟨_, rfl⟩
  rw [← eSI] at HRD hSt
  clear eSI
  obtain ⟨SE, eSE⟩ : ∃ x, x = refErr v.st (mtx m) m.key := ⟨_, rfl⟩
  rw [← eSE] at hSt
  clear eSE
  obtain ⟨PE, ePE⟩ : ∃ x, x = peekErr (ss.getD m.label.toNat default) m.key := ⟨_, rfl⟩
  rw [← ePE] at HRD hPk
  clear ePE
  obtain ⟨PVr, ePVr⟩ : ∃ x, x = peekVer (ss.getD m.label.toNat default) m.key := ⟨_, rfl⟩
  rw [← ePVr] at HRD hPk
  clear ePVr
  obtain ⟨PVl, ePVl⟩ : ∃ x, x = peekVal (ss.getD m.label.toNat default) m.key := ⟨_, rfl⟩
  rw [← ePVl] at hPk
  clear ePVl
  have HV : Hid (IsAns w v) := hv
  have HSt : Hid (IsStores w sa n sc ss) := hS
  clear hv hS hwf
  obtain ⟨M, eM⟩ : ∃ M : MV, M = m := ⟨_, rfl⟩
  obtain ⟨V, eV⟩ : ∃ V : AnsV, V = v := ⟨_, rfl⟩
  obtain ⟨⟨va0, vn0, vc0, va1, vn1, vc1, va2, vn2, vc2, va3, vn3, vc3, vi, vl, vd, vo⟩, va4, vn4, vc4, va5, vn5, vc5, va6, vn6, vc6, vms, vrs, vns⟩ := v
  obtain ⟨kind, frm, dst, site, num, label, key, value, version, ask, yes, code⟩ := m
  simp only [AnsV.val, MV.val]
  obtain ⟨W, hW⟩ : ∃ W : World, W = ((w.alloc (.cells #[.slice va0 vn0 vc0, .slice va1 vn1 vc1, .slice va2 vn2 vc2, .slice va3 vn3 vc3, .slice va4 vn4 vc4, .slice va5 vn5 vc5, .slice va6 vn6 vc6] 48)).alloc (.cells #[.int .i64 kind, .int .i64 frm, .int .i64 dst, .int .i64 site, .int .i64 num, .int .i64 label, .int .i64 key, .int .i64 value, .int .i64 version, .int .i64 ask, .bool yes, .int .i64 code] 33)).alloc (.cells #[.slice none 0 0, .slice none 0 0, .slice none 0 0, .slice none 0 0, .slice none 0 0, .slice none 0 0, .slice none 0 0] 48) := ⟨_, rfl⟩
  obtain ⟨bxA, bxM, bxQ, hB, eS⟩ := three (w := w) (a := #[.slice va0 vn0 vc0, .slice va1 vn1 vc1, .slice va2 vn2 vc2, .slice va3 vn3 vc3, .slice va4 vn4 vc4, .slice va5 vn5 vc5, .slice va6 vn6 vc6]) (m := #[.int .i64 kind, .int .i64 frm, .int .i64 dst, .int .i64 site, .int .i64 num, .int .i64 label, .int .i64 key, .int .i64 value, .int .i64 version, .int .i64 ask, .bool yes, .int .i64 code]) (q := #[.slice none 0 0, .slice none 0 0, .slice none 0 0, .slice none 0 0, .slice none 0 0, .slice none 0 0, .slice none 0 0]) (ta := 48) (tm := 33) rfl rfl rfl
  rw [← hW] at bxA bxM bxQ hB eS
  have HSZ : Hid (W.heap.size = w.heap.size + 3) := eS
  have zW : w.heap.size + 2 < W.heap.size := by omega
  have KA : Hid (∀ U : World, Below W.heap.size W U → BoxN U w.heap.size 7 [.slice va0 vn0 vc0, .slice va1 vn1 vc1, .slice va2 vn2 vc2, .slice va3 vn3 vc3, .slice va4 vn4 vc4, .slice va5 vn5 vc5, .slice va6 vn6 vc6]) := fun U hU => bxA.below hU bxA.lt
  have KM : Hid (∀ U : World, Below W.heap.size W U → BoxN U (w.heap.size + 1) 12 [.int .i64 kind, .int .i64 frm, .int .i64 dst, .int .i64 site, .int .i64 num, .int .i64 label, .int .i64 key, .int .i64 value, .int .i64 version, .int .i64 ask, .bool yes, .int .i64 code]) := fun U hU => bxM.below hU bxM.lt
  have KQ : Hid (∀ U : World, Below W.heap.size W U → BoxN U (w.heap.size + 2) 7 [.slice none 0 0, .slice none 0 0, .slice none 0 0, .slice none 0 0, .slice none 0 0, .slice none 0 0, .slice none 0 0]) := fun U hU => bxQ.below hU bxQ.lt
  have KW : Hid (∀ U : World, Below W.heap.size W U → Below w.heap.size w U) := fun U hU => hB.trans (hU.mono hB.size)
  clear eS bxA bxQ hB
  go_enter Tryd.func29, Tryd.ntmps29
  go_upto_region 1 with (fail)
  rw [← hW]
  clear hW

  have HBk : Hid (Calls Tryd.prog 65 #[.int .i64 7, .agg #[.int .i64 kind, .int .i64 frm, .int .i64 dst, .int .i64 site, .int .i64 num, .int .i64 label, .int .i64 key, .int .i64 value, .int .i64 version, .int .i64 ask, .bool yes, .int .i64 code]] W fun e w' => e = .returned (.agg #[.int .i64 7, .int .i64 dst, .int .i64 frm, .int .i64 site, .int .i64 num, .int .i64 0, .int .i64 0, .int .i64 0, .int .i64 0, .int .i64 0, .bool false, .int .i64 0]) ∧ Below W.heap.size W w') := back_any 7 ⟨kind, frm, dst, site, num, label, key, value, version, ask, yes, code⟩ W
  have m0 : W.cell? ⟨w.heap.size + 1, 0, none⟩ = some (.int .i64 kind) := (bxM.c 0 (by decide)).1
  have m1 : W.cell? ⟨w.heap.size + 1, 1, none⟩ = some (.int .i64 frm) := (bxM.c 1 (by decide)).1
  have m2 : W.cell? ⟨w.heap.size + 1, 2, none⟩ = some (.int .i64 dst) := (bxM.c 2 (by decide)).1
  have m3 : W.cell? ⟨w.heap.size + 1, 3, none⟩ = some (.int .i64 site) := (bxM.c 3 (by decide)).1
  have m4 : W.cell? ⟨w.heap.size + 1, 4, none⟩ = some (.int .i64 num) := (bxM.c 4 (by decide)).1
  have m5 : W.cell? ⟨w.heap.size + 1, 5, none⟩ = some (.int .i64 label) := (bxM.c 5 (by decide)).1
  have m6 : W.cell? ⟨w.heap.size + 1, 6, none⟩ = some (.int .i64 key) := (bxM.c 6 (by decide)).1
  have m7 : W.cell? ⟨w.heap.size + 1, 7, none⟩ = some (.int .i64 value) := (bxM.c 7 (by decide)).1
  have m8 : W.cell? ⟨w.heap.size + 1, 8, none⟩ = some (.int .i64 version) := (bxM.c 8 (by decide)).1
  have m9 : W.cell? ⟨w.heap.size + 1, 9, none⟩ = some (.int .i64 ask) := (bxM.c 9 (by decide)).1
  have m10 : W.cell? ⟨w.heap.size + 1, 10, none⟩ = some (.bool yes) := (bxM.c 10 (by decide)).1
  have m11 : W.cell? ⟨w.heap.size + 1, 11, none⟩ = some (.int .i64 code) := (bxM.c 11 (by decide)).1
  have zm := bxM.lt
  go_upto_region 2 with (go_at_call 65; refine HBk.out.mono ?_; rintro e w1 ⟨rfl, hb1⟩)
  clear m0 m1 m2 m3 m4 m5 m6 m7 m8 m9 m10 m11 zm HBk bxM
  have z1 := hb1.size
  go_cut [] (fun wc => BoxN wc w1.heap.size 12 [.int .i64 7, .int .i64 dst, .int .i64 frm, .int .i64 site, .int .i64 num, .int .i64 label, .int .i64 key, .int .i64 0, .int .i64 version, .int .i64 0, .bool false, .int .i64 0] ∧ Below w1.heap.size w1 wc)
  case first =>
    have bxm := KM.out _ hb1
    have m5 : w1.cell? ⟨w.heap.size + 1, 5, none⟩ = some (.int .i64 label) := (bxm.c 5 (by decide)).1
    have m6 : w1.cell? ⟨w.heap.size + 1, 6, none⟩ = some (.int .i64 key) := (bxm.c 6 (by decide)).1
    have m8 : w1.cell? ⟨w.heap.size + 1, 8, none⟩ = some (.int .i64 version) := (bxm.c 8 (by decide)).1
    have zm := bxm.lt
    clear bxm hSt hPk hm HRD
    go_region
    all_goals
      go_wp2_with fail
      go_meet
      case rel => exact ⟨bxDr (boxn_new w1 #[.int .i64 7, .int .i64 dst, .int .i64 frm, .int .i64 site, .int .i64 num, .int .i64 label, .int .i64 key, .int .i64 0, .int .i64 version, .int .i64 0, .bool false, .int .i64 0] 33 12 rfl), ((Below.refl _ _).alloc (Nat.le_refl _) _).drew⟩
  case rest =>
    obtain ⟨bxG, hbY⟩ := hcut
    obtain ⟨Y, eY⟩ : ∃ Y, Y = wc := ⟨_, rfl⟩
    rw [← eY] at bxG hbY ⊢
    clear eY
    have bWY : Below W.heap.size W Y := hb1.trans (hbY.mono z1)
    have zY := bWY.size
    have bxA := KA.out _ bWY
    have bxM := KM.out _ bWY
    have bxQ := KQ.out _ bWY
    have zG := bxG.lt
    have zM := bxM.lt
    have zA := bxA.lt
    have m5 : Y.cell? ⟨w.heap.size + 1, 5, none⟩ = some (.int .i64 label) := (bxM.c 5 (by decide)).1
    have hwY := KW.out _ bWY
    have hC3 : w.heap.size + 3 ≤ Y.heap.size := by have := HSZ.out; omega
    have hq1 : w.heap.size + 3 ≤ w1.heap.size := by have := HSZ.out; omega
    have hH0 := Half.start (C := Y.heap.size) HV.out hwY bxA bxQ hC3 none (fun g e => by cases e)
    by_cases hlb : label = l
    · subst hlb
      have HSl : Hid (∀ U, Below w.heap.size w U → Calls Tryd.prog 67 #[.agg #[.slice va0 vn0 vc0, .slice va1 vn1 vc1, .slice va2 vn2 vc2, .slice va3 vn3 vc3], .agg #[.int .i64 site, .int .i64 num], .int .i64 key, .int .i64 version] U fun e w' => e = .returned (.tuple #[.bool SI, .int .i64 SE]) ∧ Below U.heap.size U w') := fun U hU => hSt U (HV.out.st.below hU)
      clear hSt hPk hm
      have a0 : Y.cell? ⟨w.heap.size, 0, none⟩ = some (.slice va0 vn0 vc0) := (bxA.c 0 (by decide)).1
      have a1 : Y.cell? ⟨w.heap.size, 1, none⟩ = some (.slice va1 vn1 vc1) := (bxA.c 1 (by decide)).1
      have a2 : Y.cell? ⟨w.heap.size, 2, none⟩ = some (.slice va2 vn2 vc2) := (bxA.c 2 (by decide)).1
      have a3 : Y.cell? ⟨w.heap.size, 3, none⟩ = some (.slice va3 vn3 vc3) := (bxA.c 3 (by decide)).1
      have m3 : Y.cell? ⟨w.heap.size + 1, 3, none⟩ = some (.int .i64 site) := (bxM.c 3 (by decide)).1
      have m4 : Y.cell? ⟨w.heap.size + 1, 4, none⟩ = some (.int .i64 num) := (bxM.c 4 (by decide)).1
      have m6 : Y.cell? ⟨w.heap.size + 1, 6, none⟩ = some (.int .i64 key) := (bxM.c 6 (by decide)).1
      have m8 : Y.cell? ⟨w.heap.size + 1, 8, none⟩ = some (.int .i64 version) := (bxM.c 8 (by decide)).1
      go_upto_region 7 with (go_at_call 67; refine (HSl.out _ hwY).mono ?_; rintro e u2 ⟨rfl, hb2⟩; have bxG2 := bxG.below hb2 bxG.lt; have zG2 := bxG2.lt; have g10 : u2.cell? ⟨w1.heap.size, 10, none⟩ = some (.bool false) := (bxG2.c 10 (by decide)).1; have gf10 := (bxG2.c 10 (by decide)).2)
      have hH2 := (hH0.below hb2).aside hq1 zG 10 (.bool SI)
      have bxG3 : BoxN (u2.setCell ⟨w1.heap.size, 10, none⟩ (.bool SI)) w1.heap.size 12 [.int .i64 7, .int .i64 dst, .int .i64 frm, .int .i64 site, .int .i64 num, .int .i64 label, .int .i64 key, .int .i64 0, .int .i64 version, .int .i64 0, .bool SI, .int .i64 0] := bxG2.set 10 (by decide) _
      obtain ⟨X2, eX2⟩ : ∃ x, x = u2.setCell ⟨w1.heap.size, 10, none⟩ (.bool SI) := ⟨_, rfl⟩
      have HCX : Hid (Y.heap.size ≤ X2.heap.size) := by show _ ≤ _; rw [eX2]; simpa using hb2.size
      rw [← eX2] at hH2 bxG3 ⊢
      clear eX2 hH0 g10 gf10 bxG2 a0 a1 a2 a3 m3 m4 m5 m6 m8 bxA bxM bxQ bxG HSl
      have g0 : X2.cell? ⟨w1.heap.size, 0, none⟩ = some (.int .i64 7) := (bxG3.c 0 (by decide)).1
      have g1 : X2.cell? ⟨w1.heap.size, 1, none⟩ = some (.int .i64 dst) := (bxG3.c 1 (by decide)).1
      have g2 : X2.cell? ⟨w1.heap.size, 2, none⟩ = some (.int .i64 frm) := (bxG3.c 2 (by decide)).1
      have g3 : X2.cell? ⟨w1.heap.size, 3, none⟩ = some (.int .i64 site) := (bxG3.c 3 (by decide)).1
      have g4 : X2.cell? ⟨w1.heap.size, 4, none⟩ = some (.int .i64 num) := (bxG3.c 4 (by decide)).1
      have g5 : X2.cell? ⟨w1.heap.size, 5, none⟩ = some (.int .i64 label) := (bxG3.c 5 (by decide)).1
      have g6 : X2.cell? ⟨w1.heap.size, 6, none⟩ = some (.int .i64 key) := (bxG3.c 6 (by decide)).1
      have g7 : X2.cell? ⟨w1.heap.size, 7, none⟩ = some (.int .i64 0) := (bxG3.c 7 (by decide)).1
      have g8 : X2.cell? ⟨w1.heap.size, 8, none⟩ = some (.int .i64 version) := (bxG3.c 8 (by decide)).1
      have g9 : X2.cell? ⟨w1.heap.size, 9, none⟩ = some (.int .i64 0) := (bxG3.c 9 (by decide)).1
      have g10 : X2.cell? ⟨w1.heap.size, 10, none⟩ = some (.bool SI) := (bxG3.c 10 (by decide)).1
      have g11 : X2.cell? ⟨w1.heap.size, 11, none⟩ = some (.int .i64 0) := (bxG3.c 11 (by decide)).1
      have zg := bxG3.lt
      have a4 := (hH2.A.c 4 (by decide)).1
      have af4 := (hH2.A.c 4 (by decide)).2
      have zA9 := hH2.A.lt
      simp only [AnsV.cells, List.getD_cons_zero, List.getD_cons_succ] at a4
      go_upto_region 8 with (fail)
      have hH9 := Half.msg2 hH2 (g := ⟨7, dst, frm, site, num, label, key, 0, version, 0, SI, 0⟩) (cs := #[.int .i64 7, .int .i64 dst, .int .i64 frm, .int .i64 site, .int .i64 num, .int .i64 label, .int .i64 key, .int .i64 0, .int .i64 version, .int .i64 0, .bool SI, .int .i64 0]) (ty := 33) rfl rfl HCX.out
      obtain ⟨X9, eX9⟩ : ∃ x, x = (X2.setCell ⟨w.heap.size, 4, none⟩ (.slice (some ⟨X2.heap.size, 0, none⟩) 1 1)).alloc (.cells #[.int .i64 7, .int .i64 dst, .int .i64 frm, .int .i64 site, .int .i64 num, .int .i64 label, .int .i64 key, .int .i64 0, .int .i64 version, .int .i64 0, .bool SI, .int .i64 0] 33) := ⟨_, rfl⟩
      rw [← eX9] at hH9 ⊢
      clear eX9 g0 g1 g2 g3 g4 g5 g6 g7 g8 g9 g10 g11 a4 af4 zA9
      have hF := hH9.fin (.slice va0 vn0 vc0) (.slice va1 vn1 vc1) (.slice va2 vn2 vc2) (.slice va3 vn3 vc3) (.slice (some ⟨X2.heap.size, 0, none⟩) 1 1) (.slice va5 vn5 vc5) (.slice va6 vn6 vc6)
      have k0 : X9.cell? ⟨w.heap.size, 0, none⟩ = some (.slice va0 vn0 vc0) := (hH9.A.c 0 (by decide)).1
      have q0 : X9.cell? ⟨w.heap.size + 2, 0, none⟩ = some (.slice none 0 0) := (hH9.Q.c 0 (by decide)).1
      have qf0 := (hH9.Q.c 0 (by decide)).2
      have k1 : X9.cell? ⟨w.heap.size, 1, none⟩ = some (.slice va1 vn1 vc1) := (hH9.A.c 1 (by decide)).1
      have q1 : X9.cell? ⟨w.heap.size + 2, 1, none⟩ = some (.slice none 0 0) := (hH9.Q.c 1 (by decide)).1
      have qf1 := (hH9.Q.c 1 (by decide)).2
      have k2 : X9.cell? ⟨w.heap.size, 2, none⟩ = some (.slice va2 vn2 vc2) := (hH9.A.c 2 (by decide)).1
      have q2 : X9.cell? ⟨w.heap.size + 2, 2, none⟩ = some (.slice none 0 0) := (hH9.Q.c 2 (by decide)).1
      have qf2 := (hH9.Q.c 2 (by decide)).2
      have k3 : X9.cell? ⟨w.heap.size, 3, none⟩ = some (.slice va3 vn3 vc3) := (hH9.A.c 3 (by decide)).1
      have q3 : X9.cell? ⟨w.heap.size + 2, 3, none⟩ = some (.slice none 0 0) := (hH9.Q.c 3 (by decide)).1
      have qf3 := (hH9.Q.c 3 (by decide)).2
      have k4 : X9.cell? ⟨w.heap.size, 4, none⟩ = some (.slice (some ⟨X2.heap.size, 0, none⟩) 1 1) := (hH9.A.c 4 (by decide)).1
      have q4 : X9.cell? ⟨w.heap.size + 2, 4, none⟩ = some (.slice none 0 0) := (hH9.Q.c 4 (by decide)).1
      have qf4 := (hH9.Q.c 4 (by decide)).2
      have k5 : X9.cell? ⟨w.heap.size, 5, none⟩ = some (.slice va5 vn5 vc5) := (hH9.A.c 5 (by decide)).1
      have q5 : X9.cell? ⟨w.heap.size + 2, 5, none⟩ = some (.slice none 0 0) := (hH9.Q.c 5 (by decide)).1
      have qf5 := (hH9.Q.c 5 (by decide)).2
      have k6 : X9.cell? ⟨w.heap.size, 6, none⟩ = some (.slice va6 vn6 vc6) := (hH9.A.c 6 (by decide)).1
      have q6 : X9.cell? ⟨w.heap.size + 2, 6, none⟩ = some (.slice none 0 0) := (hH9.Q.c 6 (by decide)).1
      have qf6 := (hH9.Q.c 6 (by decide)).2
      have zk := hH9.A.lt
      have zq := hH9.Q.lt
      go_wp2
      refine bodyPost_ret (v := .agg #[.slice va0 vn0 vc0, .slice va1 vn1 vc1, .slice va2 vn2 vc2, .slice va3 vn3 vc3, .slice (some ⟨X2.heap.size, 0, none⟩) 1 1, .slice va5 vn5 vc5, .slice va6 vn6 vc6]) (by simp [results, Tryd.results29, go_sem, q0, q1, q2, q3, q4, q5, q6]) rfl ⟨_, rfl, hF.1, by rw [HRD.out]; simp [AnsV.data], below_of_grown hF.2, hH9.far⟩
    · obtain ⟨hl0, hln⟩ := hm hlb
      obtain ⟨k, rfl⟩ : ∃ k : Nat, label = (k : Int) := ⟨label.toNat, by omega⟩
      have hk : k < n := by omega
      have hkn : (k : Int) < (n : Int) := by omega
      have hlb2 : ((k : Int) == l) = false := by simpa using hlb
      have hkc : k < sc := Nat.lt_of_lt_of_le hk HSt.out.row.2.1
      obtain ⟨b, off, hsa, hblt, y0, y1, y2, y3⟩ := HSt.out.at hk
      subst hsa
      have hPk2 := hPk hlb
      simp only [Int.toNat_natCast] at hPk2
      have HPk : Hid (∀ U, Below w.heap.size w U → Calls Tryd.prog 16 #[(ss.getD k default).val, .int .i64 key] U fun e w' => e = .returned (.tuple #[.int .i64 PVl, .int .i64 PVr, .int .i64 PE]) ∧ Below U.heap.size U w') := fun U hU => hPk2 U (HSt.out.below hU)
      have HY0 : Hid (∀ U, Below w.heap.size w U → U.cell? ⟨b, off + k * 4, none⟩ = some (.slice (ss.getD k default).ia (ss.getD k default).il (ss.getD k default).ic) ∧ U.cell? ⟨b, off + k * 4 + 1, none⟩ = some (.slice (ss.getD k default).la (ss.getD k default).ll (ss.getD k default).lc) ∧ U.cell? ⟨b, off + k * 4 + 2, none⟩ = some (.slice (ss.getD k default).da (ss.getD k default).dl (ss.getD k default).dc) ∧ U.cell? ⟨b, off + k * 4 + 3, none⟩ = some (.slice (ss.getD k default).oa (ss.getD k default).ol (ss.getD k default).oc)) := fun U hU => ⟨(hU.cell (p := ⟨b, off + k * 4, none⟩) hblt).trans y0, (hU.cell (p := ⟨b, off + k * 4 + 1, none⟩) hblt).trans y1, (hU.cell (p := ⟨b, off + k * 4 + 2, none⟩) hblt).trans y2, (hU.cell (p := ⟨b, off + k * 4 + 3, none⟩) hblt).trans y3⟩
      clear hSt hPk hm hPk2 y0 y1 y2 y3
      obtain ⟨⟨ya0, yn0, yc0, ya1, yn1, yc1, ya2, yn2, yc2, ya3, yn3, yc3, yi, yl, yd, yo⟩, eX⟩ : ∃ x, x = ss.getD k default := ⟨_, rfl⟩
      rw [← eX] at HPk HY0
      clear eX
      simp only [SV.val] at HPk HY0
      have KX : Hid (∀ U, Below Y.heap.size Y U → U.cell? ⟨w.heap.size + 1, 5, none⟩ = some (.int .i64 (k : Int)) ∧ U.cell? ⟨w.heap.size + 1, 6, none⟩ = some (.int .i64 key) ∧ U.cell? ⟨b, off + k * 4, none⟩ = some (.slice ya0 yn0 yc0) ∧ U.cell? ⟨b, off + k * 4 + 1, none⟩ = some (.slice ya1 yn1 yc1) ∧ U.cell? ⟨b, off + k * 4 + 2, none⟩ = some (.slice ya2 yn2 yc2) ∧ U.cell? ⟨b, off + k * 4 + 3, none⟩ = some (.slice ya3 yn3 yc3)) := fun U hU => by
        have h1 := KM.out _ (bWY.trans (hU.mono zY))
        obtain ⟨c0, c1, c2, c3⟩ := HY0.out _ (hwY.trans (hU.mono hwY.size))
        exact ⟨(h1.c 5 (by decide)).1, (h1.c 6 (by decide)).1, c0, c1, c2, c3⟩
      have HH0 : Hid (Half w Y none Y.heap.size _ _) := hH0
      have HbG : Hid (BoxN Y w1.heap.size 12 [.int .i64 7, .int .i64 dst, .int .i64 frm, .int .i64 site, .int .i64 num, .int .i64 (k : Int), .int .i64 key, .int .i64 0, .int .i64 version, .int .i64 0, .bool false, .int .i64 0]) := bxG
      have HwY : Hid (Below w.heap.size w Y) := hwY
      clear hH0 bxG bxA bxM bxQ hwY
      go_upto_region 5 with (fail)
      clear m5
      go_cut [11, 12] (fun s11 s12 wc => s11 = .int .i64 PVr ∧ s12 = .int .i64 PE ∧ Below Y.heap.size Y wc)
      case first =>
        go_region_held3 (fun U => U.cell? ⟨w.heap.size + 1, 5, none⟩ = some (.int .i64 (k : Int)) ∧ U.cell? ⟨w.heap.size + 1, 6, none⟩ = some (.int .i64 key) ∧ U.cell? ⟨b, off + k * 4, none⟩ = some (.slice ya0 yn0 yc0) ∧ U.cell? ⟨b, off + k * 4 + 1, none⟩ = some (.slice ya1 yn1 yc1) ∧ U.cell? ⟨b, off + k * 4 + 2, none⟩ = some (.slice ya2 yn2 yc2) ∧ U.cell? ⟨b, off + k * 4 + 3, none⟩ = some (.slice ya3 yn3 yc3))
          ((refine KX.out _ ?_; (with_reducible repeat (first | exact Below.refl _ _ | exact hu2 | refine qD ?_)); done))
          ((go_at_call 16; refine (HPk.out _ (HwY.out.trans ((show Below Y.heap.size Y _ by (with_reducible repeat (first | exact Below.refl _ _ | exact hu2 | refine qD ?_)); done).mono HwY.out.size))).mono ?_; rintro e u2 ⟨rfl, hb2⟩; have hu2 : Below Y.heap.size Y u2 := qT (by (with_reducible repeat (first | exact Below.refl _ _ | exact hu2 | refine qD ?_)); done) hb2))
        all_goals
          go_wp2_with fail
          go_meet
          case rel => exact ⟨rfl, rfl, by (with_reducible repeat (first | exact Below.refl _ _ | exact hu2 | refine qD ?_)); done⟩
      case rest =>
        obtain ⟨rfl, rfl, hb4⟩ := hcut
        obtain ⟨X4, eX4⟩ : ∃ x, x = wc := ⟨_, rfl⟩
        rw [← eX4] at hb4 ⊢
        clear eX4 KX HPk HY0
        have bxG4 := HbG.out.below hb4 HbG.out.lt
        have bxM4 := KM.out _ (bWY.trans (hb4.mono zY))
        have hH4 := HH0.out.below hb4
        have zG4 := bxG4.lt
        have zM4 := bxM4.lt
        have m8 : X4.cell? ⟨w.heap.size + 1, 8, none⟩ = some (.int .i64 version) := (bxM4.c 8 (by decide)).1
        have g10 : X4.cell? ⟨w1.heap.size, 10, none⟩ = some (.bool false) := (bxG4.c 10 (by decide)).1
        have gf10 := (bxG4.c 10 (by decide)).2
        obtain ⟨PY, ePY⟩ : ∃ x, x = (PE == 0 && PVr == version) := ⟨_, rfl⟩
        rw [← ePY] at HRD
        have hstep : (PE = 0 → PY = (PVr == version)) ∧ (¬ PE = 0 → PY = false) := by
          refine ⟨fun h => by rw [ePY, h]; simp, fun h => by rw [ePY]; simp [h]⟩
        clear ePY
        have hH5 := hH4.aside hq1 zG 10 (.bool PY)
        have bxG5 : BoxN (X4.setCell ⟨w1.heap.size, 10, none⟩ (.bool PY)) w1.heap.size 12 [.int .i64 7, .int .i64 dst, .int .i64 frm, .int .i64 site, .int .i64 num, .int .i64 (k : Int), .int .i64 key, .int .i64 0, .int .i64 version, .int .i64 0, .bool PY, .int .i64 0] := bxG4.set 10 (by decide) _
        obtain ⟨X2, eX2⟩ : ∃ x, x = X4.setCell ⟨w1.heap.size, 10, none⟩ (.bool PY) := ⟨_, rfl⟩
        have HCX : Hid (Y.heap.size ≤ X2.heap.size) := by show _ ≤ _; rw [eX2]; simpa using hb4.size
        rw [← eX2] at hH5 bxG5
        by_cases hE : PE = 0
        · have h1 := hstep.1 hE
          subst hE
          clear hstep
          go_upto_region 7 with (fail)
          rw [← h1, ← eX2]
          clear eX2 h1 g10 gf10 m8 bxG4 hH4 bxM4
          have g0 : X2.cell? ⟨w1.heap.size, 0, none⟩ = some (.int .i64 7) := (bxG5.c 0 (by decide)).1
          have g1 : X2.cell? ⟨w1.heap.size, 1, none⟩ = some (.int .i64 dst) := (bxG5.c 1 (by decide)).1
          have g2 : X2.cell? ⟨w1.heap.size, 2, none⟩ = some (.int .i64 frm) := (bxG5.c 2 (by decide)).1
          have g3 : X2.cell? ⟨w1.heap.size, 3, none⟩ = some (.int .i64 site) := (bxG5.c 3 (by decide)).1
          have g4 : X2.cell? ⟨w1.heap.size, 4, none⟩ = some (.int .i64 num) := (bxG5.c 4 (by decide)).1
          have g5 : X2.cell? ⟨w1.heap.size, 5, none⟩ = some (.int .i64 (k : Int)) := (bxG5.c 5 (by decide)).1
          have g6 : X2.cell? ⟨w1.heap.size, 6, none⟩ = some (.int .i64 key) := (bxG5.c 6 (by decide)).1
          have g7 : X2.cell? ⟨w1.heap.size, 7, none⟩ = some (.int .i64 0) := (bxG5.c 7 (by decide)).1
          have g8 : X2.cell? ⟨w1.heap.size, 8, none⟩ = some (.int .i64 version) := (bxG5.c 8 (by decide)).1
          have g9 : X2.cell? ⟨w1.heap.size, 9, none⟩ = some (.int .i64 0) := (bxG5.c 9 (by decide)).1
          have g10 : X2.cell? ⟨w1.heap.size, 10, none⟩ = some (.bool PY) := (bxG5.c 10 (by decide)).1
          have g11 : X2.cell? ⟨w1.heap.size, 11, none⟩ = some (.int .i64 0) := (bxG5.c 11 (by decide)).1
          have zg := bxG5.lt
          have a4 := (hH5.A.c 4 (by decide)).1
          have af4 := (hH5.A.c 4 (by decide)).2
          have zA9 := hH5.A.lt
          simp only [AnsV.cells, List.getD_cons_zero, List.getD_cons_succ] at a4
          go_upto_region 8 with (fail)
          have hH9 := Half.msg2 hH5 (g := ⟨7, dst, frm, site, num, (k : Int), key, 0, version, 0, PY, 0⟩) (cs := #[.int .i64 7, .int .i64 dst, .int .i64 frm, .int .i64 site, .int .i64 num, .int .i64 (k : Int), .int .i64 key, .int .i64 0, .int .i64 version, .int .i64 0, .bool PY, .int .i64 0]) (ty := 33) rfl rfl HCX.out
          obtain ⟨X9, eX9⟩ : ∃ x, x = (X2.setCell ⟨w.heap.size, 4, none⟩ (.slice (some ⟨X2.heap.size, 0, none⟩) 1 1)).alloc (.cells #[.int .i64 7, .int .i64 dst, .int .i64 frm, .int .i64 site, .int .i64 num, .int .i64 (k : Int), .int .i64 key, .int .i64 0, .int .i64 version, .int .i64 0, .bool PY, .int .i64 0] 33) := ⟨_, rfl⟩
          rw [← eX9] at hH9 ⊢
          clear eX9 g0 g1 g2 g3 g4 g5 g6 g7 g8 g9 g10 g11 a4 af4 zA9
          have hF := hH9.fin (.slice va0 vn0 vc0) (.slice va1 vn1 vc1) (.slice va2 vn2 vc2) (.slice va3 vn3 vc3) (.slice (some ⟨X2.heap.size, 0, none⟩) 1 1) (.slice va5 vn5 vc5) (.slice va6 vn6 vc6)
          have k0 : X9.cell? ⟨w.heap.size, 0, none⟩ = some (.slice va0 vn0 vc0) := (hH9.A.c 0 (by decide)).1
          have q0 : X9.cell? ⟨w.heap.size + 2, 0, none⟩ = some (.slice none 0 0) := (hH9.Q.c 0 (by decide)).1
          have qf0 := (hH9.Q.c 0 (by decide)).2
          have k1 : X9.cell? ⟨w.heap.size, 1, none⟩ = some (.slice va1 vn1 vc1) := (hH9.A.c 1 (by decide)).1
          have q1 : X9.cell? ⟨w.heap.size + 2, 1, none⟩ = some (.slice none 0 0) := (hH9.Q.c 1 (by decide)).1
          have qf1 := (hH9.Q.c 1 (by decide)).2
          have k2 : X9.cell? ⟨w.heap.size, 2, none⟩ = some (.slice va2 vn2 vc2) := (hH9.A.c 2 (by decide)).1
          have q2 : X9.cell? ⟨w.heap.size + 2, 2, none⟩ = some (.slice none 0 0) := (hH9.Q.c 2 (by decide)).1
          have qf2 := (hH9.Q.c 2 (by decide)).2
          have k3 : X9.cell? ⟨w.heap.size, 3, none⟩ = some (.slice va3 vn3 vc3) := (hH9.A.c 3 (by decide)).1
          have q3 : X9.cell? ⟨w.heap.size + 2, 3, none⟩ = some (.slice none 0 0) := (hH9.Q.c 3 (by decide)).1
          have qf3 := (hH9.Q.c 3 (by decide)).2
          have k4 : X9.cell? ⟨w.heap.size, 4, none⟩ = some (.slice (some ⟨X2.heap.size, 0, none⟩) 1 1) := (hH9.A.c 4 (by decide)).1
          have q4 : X9.cell? ⟨w.heap.size + 2, 4, none⟩ = some (.slice none 0 0) := (hH9.Q.c 4 (by decide)).1
          have qf4 := (hH9.Q.c 4 (by decide)).2
          have k5 : X9.cell? ⟨w.heap.size, 5, none⟩ = some (.slice va5 vn5 vc5) := (hH9.A.c 5 (by decide)).1
          have q5 : X9.cell? ⟨w.heap.size + 2, 5, none⟩ = some (.slice none 0 0) := (hH9.Q.c 5 (by decide)).1
          have qf5 := (hH9.Q.c 5 (by decide)).2
          have k6 : X9.cell? ⟨w.heap.size, 6, none⟩ = some (.slice va6 vn6 vc6) := (hH9.A.c 6 (by decide)).1
          have q6 : X9.cell? ⟨w.heap.size + 2, 6, none⟩ = some (.slice none 0 0) := (hH9.Q.c 6 (by decide)).1
          have qf6 := (hH9.Q.c 6 (by decide)).2
          have zk := hH9.A.lt
          have zq := hH9.Q.lt
          go_wp2
          refine bodyPost_ret (v := .agg #[.slice va0 vn0 vc0, .slice va1 vn1 vc1, .slice va2 vn2 vc2, .slice va3 vn3 vc3, .slice (some ⟨X2.heap.size, 0, none⟩) 1 1, .slice va5 vn5 vc5, .slice va6 vn6 vc6]) (by simp [results, Tryd.results29, go_sem, q0, q1, q2, q3, q4, q5, q6]) rfl ⟨_, rfl, hF.1, by rw [HRD.out]; simp [AnsV.data, hlb], below_of_grown hF.2, hH9.far⟩
        · have h1 := hstep.2 hE
          have hE2 : (PE == 0) = false := by simp [hE]
          subst h1
          clear hstep
          go_upto_region 7 with (fail)
          rw [← eX2]
          clear eX2 g10 gf10 m8 bxG4 hH4 bxM4
          have g0 : X2.cell? ⟨w1.heap.size, 0, none⟩ = some (.int .i64 7) := (bxG5.c 0 (by decide)).1
          have g1 : X2.cell? ⟨w1.heap.size, 1, none⟩ = some (.int .i64 dst) := (bxG5.c 1 (by decide)).1
          have g2 : X2.cell? ⟨w1.heap.size, 2, none⟩ = some (.int .i64 frm) := (bxG5.c 2 (by decide)).1
          have g3 : X2.cell? ⟨w1.heap.size, 3, none⟩ = some (.int .i64 site) := (bxG5.c 3 (by decide)).1
          have g4 : X2.cell? ⟨w1.heap.size, 4, none⟩ = some (.int .i64 num) := (bxG5.c 4 (by decide)).1
          have g5 : X2.cell? ⟨w1.heap.size, 5, none⟩ = some (.int .i64 (k : Int)) := (bxG5.c 5 (by decide)).1
          have g6 : X2.cell? ⟨w1.heap.size, 6, none⟩ = some (.int .i64 key) := (bxG5.c 6 (by decide)).1
          have g7 : X2.cell? ⟨w1.heap.size, 7, none⟩ = some (.int .i64 0) := (bxG5.c 7 (by decide)).1
          have g8 : X2.cell? ⟨w1.heap.size, 8, none⟩ = some (.int .i64 version) := (bxG5.c 8 (by decide)).1
          have g9 : X2.cell? ⟨w1.heap.size, 9, none⟩ = some (.int .i64 0) := (bxG5.c 9 (by decide)).1
          have g10 : X2.cell? ⟨w1.heap.size, 10, none⟩ = some (.bool false) := (bxG5.c 10 (by decide)).1
          have g11 : X2.cell? ⟨w1.heap.size, 11, none⟩ = some (.int .i64 0) := (bxG5.c 11 (by decide)).1
          have zg := bxG5.lt
          have a4 := (hH5.A.c 4 (by decide)).1
          have af4 := (hH5.A.c 4 (by decide)).2
          have zA9 := hH5.A.lt
          simp only [AnsV.cells, List.getD_cons_zero, List.getD_cons_succ] at a4
          go_upto_region 8 with (fail)
          have hH9 := Half.msg2 hH5 (g := ⟨7, dst, frm, site, num, (k : Int), key, 0, version, 0, false, 0⟩) (cs := #[.int .i64 7, .int .i64 dst, .int .i64 frm, .int .i64 site, .int .i64 num, .int .i64 (k : Int), .int .i64 key, .int .i64 0, .int .i64 version, .int .i64 0, .bool false, .int .i64 0]) (ty := 33) rfl rfl HCX.out
          obtain ⟨X9, eX9⟩ : ∃ x, x = (X2.setCell ⟨w.heap.size, 4, none⟩ (.slice (some ⟨X2.heap.size, 0, none⟩) 1 1)).alloc (.cells #[.int .i64 7, .int .i64 dst, .int .i64 frm, .int .i64 site, .int .i64 num, .int .i64 (k : Int), .int .i64 key, .int .i64 0, .int .i64 version, .int .i64 0, .bool false, .int .i64 0] 33) := ⟨_, rfl⟩
          rw [← eX9] at hH9 ⊢
          clear eX9 g0 g1 g2 g3 g4 g5 g6 g7 g8 g9 g10 g11 a4 af4 zA9
          have hF := hH9.fin (.slice va0 vn0 vc0) (.slice va1 vn1 vc1) (.slice va2 vn2 vc2) (.slice va3 vn3 vc3) (.slice (some ⟨X2.heap.size, 0, none⟩) 1 1) (.slice va5 vn5 vc5) (.slice va6 vn6 vc6)
          have k0 : X9.cell? ⟨w.heap.size, 0, none⟩ = some (.slice va0 vn0 vc0) := (hH9.A.c 0 (by decide)).1
          have q0 : X9.cell? ⟨w.heap.size + 2, 0, none⟩ = some (.slice none 0 0) := (hH9.Q.c 0 (by decide)).1
          have qf0 := (hH9.Q.c 0 (by decide)).2
          have k1 : X9.cell? ⟨w.heap.size, 1, none⟩ = some (.slice va1 vn1 vc1) := (hH9.A.c 1 (by decide)).1
          have q1 : X9.cell? ⟨w.heap.size + 2, 1, none⟩ = some (.slice none 0 0) := (hH9.Q.c 1 (by decide)).1
          have qf1 := (hH9.Q.c 1 (by decide)).2
          have k2 : X9.cell? ⟨w.heap.size, 2, none⟩ = some (.slice va2 vn2 vc2) := (hH9.A.c 2 (by decide)).1
          have q2 : X9.cell? ⟨w.heap.size + 2, 2, none⟩ = some (.slice none 0 0) := (hH9.Q.c 2 (by decide)).1
          have qf2 := (hH9.Q.c 2 (by decide)).2
          have k3 : X9.cell? ⟨w.heap.size, 3, none⟩ = some (.slice va3 vn3 vc3) := (hH9.A.c 3 (by decide)).1
          have q3 : X9.cell? ⟨w.heap.size + 2, 3, none⟩ = some (.slice none 0 0) := (hH9.Q.c 3 (by decide)).1
          have qf3 := (hH9.Q.c 3 (by decide)).2
          have k4 : X9.cell? ⟨w.heap.size, 4, none⟩ = some (.slice (some ⟨X2.heap.size, 0, none⟩) 1 1) := (hH9.A.c 4 (by decide)).1
          have q4 : X9.cell? ⟨w.heap.size + 2, 4, none⟩ = some (.slice none 0 0) := (hH9.Q.c 4 (by decide)).1
          have qf4 := (hH9.Q.c 4 (by decide)).2
          have k5 : X9.cell? ⟨w.heap.size, 5, none⟩ = some (.slice va5 vn5 vc5) := (hH9.A.c 5 (by decide)).1
          have q5 : X9.cell? ⟨w.heap.size + 2, 5, none⟩ = some (.slice none 0 0) := (hH9.Q.c 5 (by decide)).1
          have qf5 := (hH9.Q.c 5 (by decide)).2
          have k6 : X9.cell? ⟨w.heap.size, 6, none⟩ = some (.slice va6 vn6 vc6) := (hH9.A.c 6 (by decide)).1
          have q6 : X9.cell? ⟨w.heap.size + 2, 6, none⟩ = some (.slice none 0 0) := (hH9.Q.c 6 (by decide)).1
          have qf6 := (hH9.Q.c 6 (by decide)).2
          have zk := hH9.A.lt
          have zq := hH9.Q.lt
          go_wp2
          refine bodyPost_ret (v := .agg #[.slice va0 vn0 vc0, .slice va1 vn1 vc1, .slice va2 vn2 vc2, .slice va3 vn3 vc3, .slice (some ⟨X2.heap.size, 0, none⟩) 1 1, .slice va5 vn5 vc5, .slice va6 vn6 vc6]) (by simp [results, Tryd.results29, go_sem, q0, q1, q2, q3, q4, q5, q6]) rfl ⟨_, rfl, hF.1, by rw [HRD.out]; simp [AnsV.data, hlb], below_of_grown hF.2, hH9.far⟩
end Go.Proofs.YtcmjcopopkafnaaDoor.Pt
