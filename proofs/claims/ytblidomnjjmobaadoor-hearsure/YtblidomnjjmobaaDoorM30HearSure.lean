/- Texts of this claim, one behind the other. -/
import Derived.Test.YtblidomnjjmobaaDoorM28HearSure
import Derived.Test.YtblidomnjjmobaaDoorM21HearSure
import Derived.Test.YtblidomnjjmobaaDoorM29HearSure
import Derived.Test.YtblidomnjjmobaaDoorM10HearSure
import Derived.Deep.RegionHeld3
import Derived.Deep.DeepCutAuto
import Derived.Test.YtblidomnjjmobaaDoorM23HearSure
import Derived.Lib.LaidTab
import Derived.OpenShut
/- What Peek tells of a store that may be. -/
namespace Go.Proofs.YtblidomnjjmobaaDoor.St
open Go.ChangeShapes Go.WideShapes Go.ChangeAt Go.RowKit
set_option linter.unusedVariables false

theorem peek_is {s : SV} {k : Int} (ho : OKP s.data) (hk : inR k 0 7 = true) :
    (s.locks.any (wrT k) = true → peekErr s k = 11 ∧ peekVal s k = 0 ∧ peekVer s k = 0) ∧ (s.locks.any (wrT k) = false → peekErr s k = 0 ∧ peekVal s k = (itemAt s.items k).value ∧ peekVer s k = (itemAt s.items k).version) := by
  have hE : peekErr s k = if s.locks.any (wrT k) then 11 else 0 := by
    unfold peekErr
    rw [if_pos ho.ok, if_pos hk]
  constructor
  · intro h
    rw [h] at hE
    have hE' : peekErr s k = 11 := hE
    exact ⟨hE', by unfold peekVal; rw [hE']; rfl, by unfold peekVer; rw [hE']; rfl⟩
  · intro h
    rw [h] at hE
    have hE' : peekErr s k = 0 := hE
    exact ⟨hE', by unfold peekVal; rw [if_pos hE'], by unfold peekVer; rw [if_pos hE']⟩
end Go.Proofs.YtblidomnjjmobaaDoor.St
/- The walk of the law HearSure: at any numbers it returns true and leaves what was in memory. -/
namespace Go.Proofs.YtblidomnjjmobaaDoor.Pt
open Go.ChangeShapes Go.WideShapes Go.ChangeAt Go.RowKit
open Go.Proofs.YtblidomnjjmobaaDoor.St (SV PS IsStore IsRow storeOK TxWf BoxN boxn_new OwnStore flat isOne own_isRow isRow_nil IsRaws Gd OKP cntErr cntIs endErr endData txOK wOf ofT readVal readVer readErr readData peekVal peekVer peekErr writeErr writeData stillIs refErr)
set_option linter.unusedVariables false

theorem bd_of2 {v : Int} (wv : (Lit.int .i64 v).wf = true) : -9223372036854775808 ≤ v ∧ v ≤ 9223372036854775807 := by
  simp [Lit.wf, IntKind.min, IntKind.max, IntKind.signed, IntKind.bits] at wv
  omega
theorem gd_fresh6 {p : PS} {v : Int} (h : Gd p v) : St.Fresh p ((0 : Int), (6 : Int)) := by
  have key : ¬ St.isT ((0 : Int), (6 : Int)) := by
    simp only [St.isT, List.mem_cons, List.not_mem_nil, or_false, Prod.mk.injEq]
    omega
  refine ⟨fun k hk e => key (e ▸ (h.lt k hk).1), fun e => key (h.ot _ e), fun d hd e => ?_, by decide⟩
  obtain ⟨k, hk, e2⟩ := h.ok.dl d hd
  exact key (by rw [← e, ← e2]; exact (h.lt k hk).1)
theorem itemAt_nn {k : Int} : ∀ {l : List St.ItV}, (∀ x ∈ l, 0 ≤ x.version) → 0 ≤ (St.itemAt l k).version
  | [], _ => Int.le_refl _
  | x :: r, h => by
    rw [St.itemAt_cons]
    split
    · exact h x (by simp)
    · exact itemAt_nn fun y hy => h y (by simp [hy])
set_option maxRecDepth 100000 in
set_option maxHeartbeats 8000000 in
theorem hearSure_walk (a : Option Addr) (len cap : Nat) (rs : List St.RV) (key value : Int) (w : World) (hr : IsRaws w a len cap rs) (wk1 : (Lit.int .i64 key).wf = true) (wv1 : (Lit.int .i64 value).wf = true) (hHa : HasAt w 0 mHas) (hTo : TopsAt w) :
    Calls Tryd.prog 5 #[.slice a len cap, .int .i64 key, .int .i64 value] w fun e w' => e = .returned (.bool true) ∧ Below w.heap.size w w' := by
  have bdk := bd_of2 wk1
  have bdv := bd_of2 wv1
  clear wk1 wv1
  have hkp := pk_bd key 8 (by omega)
  have hPKK := fun u => picked_any key 8 u bdk (by omega) (by omega)
  obtain ⟨KK, eKK⟩ : ∃ x, x = pk key 8 := ⟨_, rfl⟩
  rw [← eKK] at hkp hPKK
  clear eKK
  obtain ⟨lKK, uKK⟩ := hkp
  have hkp := pk_bd value 99 (by omega)
  have hPKV := fun u => picked_any value 99 u bdv (by omega) (by omega)
  obtain ⟨KV, eKV⟩ : ∃ x, x = pk value 99 := ⟨_, rfl⟩
  rw [← eKV] at hkp hPKV
  clear eKV
  obtain ⟨lKV, uKV⟩ := hkp
  have hTw := fun u => two_any 0 u (by omega)
  have e03 : (1 : Int) + pk 0 3 = 1 := by decide
  rw [e03] at hTw
  clear e03
  have hgT : 1 < w.heap.size := World.block_lt_of_cell? w _ hTo.1
  have hgM : 0 < w.heap.size := hHa.lt (by decide)
  have KT : Hid (∀ U, Below w.heap.size w U → HasAt U 0 mHas ∧ TopsAt U) := fun U hU => ⟨hHa.below hU hgM, hTo.below hU hgT⟩
  clear hHa hTo hgT hgM
  have bw : Below w.heap.size w w := Below.refl _ _
  go_enter Tryd.func5, Tryd.ntmps5
  go_upto_region 2 with (go_at_call 9; refine (hTw _).mono ?_; rintro e w1 ⟨g0, rfl, hl, hg0, hb1⟩)
  replace bw := bw.trans (hb1.mono bw.size)
  replace hr := hr.below hb1
  obtain ⟨X1, eX1⟩ : ∃ X : World, X = w1.alloc (.cells #[.int .i64 1, .slice (some ⟨g0, 0, none⟩) 2 2, .int .i64 3] 27) := ⟨_, rfl⟩
  have cb : BoxN X1 w1.heap.size 3 [.int .i64 1, .slice (some ⟨g0, 0, none⟩) 2 2, .int .i64 3] := by rw [eX1]; exact boxn_new w1 #[.int .i64 1, .slice (some ⟨g0, 0, none⟩) 2 2, .int .i64 3] 27 3 rfl
  have bX1 : Below w1.heap.size w1 X1 := by rw [eX1]; exact (Below.refl _ _).alloc (Nat.le_refl _) _
  rw [← eX1]
  clear eX1
  replace bw := bw.trans (bX1.mono bw.size)
  replace hr := hr.below bX1
  replace hl := hl.below bX1
  go_upto_region 3 with (go_at_call 12; refine (St.store_made a len cap rs 25 _ hr (by omega)).mono ?_; rintro e w2 ⟨⟨ra0, rn0, rc0, ra1, rn1, rc1, ra2, rn2, rc2, ra3, rn3, rc3, ri, rl, rd, ro⟩, rfl, hO, hG, hb2⟩; simp only [SV.val])
  replace cb := cb.below hb2 cb.lt
  replace bw := bw.trans (hb2.mono bw.size)
  replace hr := hr.below hb2
  replace hl := hl.below hb2
  have hS := hO.isStore
  clear hO hr
  obtain ⟨X2, eX2⟩ : ∃ X : World, X = w2.alloc (.cells #[.slice ra0 rn0 rc0, .slice ra1 rn1 rc1, .slice ra2 rn2 rc2, .slice ra3 rn3 rc3] 41) := ⟨_, rfl⟩
  have sb : BoxN X2 w2.heap.size 4 [.slice ra0 rn0 rc0, .slice ra1 rn1 rc1, .slice ra2 rn2 rc2, .slice ra3 rn3 rc3] := by rw [eX2]; exact boxn_new w2 #[.slice ra0 rn0 rc0, .slice ra1 rn1 rc1, .slice ra2 rn2 rc2, .slice ra3 rn3 rc3] 41 4 rfl
  have bX2 : Below w2.heap.size w2 X2 := by rw [eX2]; exact (Below.refl _ _).alloc (Nat.le_refl _) _
  rw [← eX2]
  clear eX2
  replace cb := cb.below bX2 cb.lt
  replace bw := bw.trans (bX2.mono bw.size)
  replace hl := hl.below bX2
  replace hS := hS.below bX2
  go_upto_region 4 with (go_at_call 11; refine (hPKK _).mono ?_; rintro e u ⟨rfl, hu⟩; rw [hu]; clear hu)
  clear hPKK
  have hok : storeOK ⟨ra0, rn0, rc0, ra1, rn1, rc1, ra2, rn2, rc2, ra3, rn3, rc3, ri, rl, rd, ro⟩ = true := hG.ok.ok
  have hwf := hG.wf
  have h4o := hG.h4 hS
  have hver : ∀ y ∈ ri, y.version ≤ 1048000 := fun y hy => by have := hG.ver y hy; omega
  have hFr := gd_fresh6 hG
  have h22 : rl.length ≤ 22 := by have := hG.locks20; simp only [SV.data] at this; omega
  have hk7 : inR KK 0 7 = true := St.inR_true lKK (by omega)
  obtain ⟨hpB, hpF⟩ := St.peek_is (s := ⟨ra0, rn0, rc0, ra1, rn1, rc1, ra2, rn2, rc2, ra3, rn3, rc3, ri, rl, rd, ro⟩) (k := KK) hG.ok hk7
  obtain ⟨hfB, hfO⟩ := St.write_fresh (s := ⟨ra0, rn0, rc0, ra1, rn1, rc1, ra2, rn2, rc2, ra3, rn3, rc3, ri, rl, rd, ro⟩) (x := ((0 : Int), (6 : Int))) (k := KK) (va := KV) (ask := 1) hG.ok h22 hFr hk7 (St.inR_true lKV (by omega)) (by decide) hver
  have hPk := fun U h1 => St.peek_any ⟨ra0, rn0, rc0, ra1, rn1, rc1, ra2, rn2, rc2, ra3, rn3, rc3, ri, rl, rd, ro⟩ KK U h1 hwf
  have hWt := fun U h1 => St.write_own ⟨ra0, rn0, rc0, ra1, rn1, rc1, ra2, rn2, rc2, ra3, rn3, rc3, ri, rl, rd, ro⟩ ((0 : Int), (6 : Int)) KK KV 1 U h1 hwf h4o
  have hCk := fun U h1 => St.check_any ⟨ra0, rn0, rc0, ra1, rn1, rc1, ra2, rn2, rc2, ra3, rn3, rc3, ri, rl, rd, ro⟩ U h1 hwf
  rw [if_pos hok] at hCk
  obtain ⟨PE, ePE⟩ : ∃ x, x = peekErr ⟨ra0, rn0, rc0, ra1, rn1, rc1, ra2, rn2, rc2, ra3, rn3, rc3, ri, rl, rd, ro⟩ KK := ⟨_, rfl⟩
  obtain ⟨PV, ePV⟩ : ∃ x, x = peekVal ⟨ra0, rn0, rc0, ra1, rn1, rc1, ra2, rn2, rc2, ra3, rn3, rc3, ri, rl, rd, ro⟩ KK := ⟨_, rfl⟩
  obtain ⟨PW, ePW⟩ : ∃ x, x = peekVer ⟨ra0, rn0, rc0, ra1, rn1, rc1, ra2, rn2, rc2, ra3, rn3, rc3, ri, rl, rd, ro⟩ KK := ⟨_, rfl⟩
  obtain ⟨WE, eWE⟩ : ∃ x, x = writeErr ⟨ra0, rn0, rc0, ra1, rn1, rc1, ra2, rn2, rc2, ra3, rn3, rc3, ri, rl, rd, ro⟩ ((0 : Int), (6 : Int)) KK KV 1 := ⟨_, rfl⟩
  obtain ⟨WD, eWD⟩ : ∃ x, x = writeData ⟨ra0, rn0, rc0, ra1, rn1, rc1, ra2, rn2, rc2, ra3, rn3, rc3, ri, rl, rd, ro⟩ ((0 : Int), (6 : Int)) KK KV 1 := ⟨_, rfl⟩
  have HPE : Hid (PE = peekErr ⟨ra0, rn0, rc0, ra1, rn1, rc1, ra2, rn2, rc2, ra3, rn3, rc3, ri, rl, rd, ro⟩ KK ∧ PW = peekVer ⟨ra0, rn0, rc0, ra1, rn1, rc1, ra2, rn2, rc2, ra3, rn3, rc3, ri, rl, rd, ro⟩ KK) := ⟨ePE, ePW⟩
  rw [← ePE, ← ePV, ← ePW] at hPk
  rw [← eWE, ← eWD] at hWt
  have HF : Hid ((PE = 11 ∨ PE = 0) ∧ (PE = 0 → PW = (St.itemAt ri KK).version) ∧ (WE = 11 ∨ (WE = 0 ∧ St.Plus (SV.data ⟨ra0, rn0, rc0, ra1, rn1, rc1, ra2, rn2, rc2, ra3, rn3, rc3, ri, rl, rd, ro⟩) WD ⟨((0 : Int), (6 : Int)), KK, true, KV, 1⟩ ∧ OKP WD ∧ rl.any (St.othT ((0 : Int), (6 : Int)) KK) = false))) := by
    refine ⟨?_, ?_, ?_⟩
    · rw [ePE]
      cases hany : rl.any (St.wrT KK) with
      | true => exact Or.inl (hpB hany).1
      | false => exact Or.inr (hpF hany).1
    · intro h
      rw [ePW]
      rw [ePE] at h
      cases hany : rl.any (St.wrT KK) with
      | true => rw [(hpB hany).1] at h; simp at h
      | false => exact (hpF hany).2.2
    · rw [eWE, eWD]
      cases hany : rl.any (St.othT ((0 : Int), (6 : Int)) KK) with
      | true => exact Or.inl (hfB hany)
      | false => exact Or.inr ⟨(hfO hany).1, St.Plus.of (hfO hany).2, St.write_ok (hfO hany).1, rfl⟩
  clear hpB hpF hfB hfO ePE ePV ePW eWE eWD h22
  simp only [SV.val] at hPk hWt hCk
  have sb_0 : X2.cell? ⟨w2.heap.size, 0, none⟩ = some (.slice ra0 rn0 rc0) := (sb.c 0 (by decide)).1
  have sb_1 : X2.cell? ⟨w2.heap.size, 1, none⟩ = some (.slice ra1 rn1 rc1) := (sb.c 1 (by decide)).1
  have sb_2 : X2.cell? ⟨w2.heap.size, 2, none⟩ = some (.slice ra2 rn2 rc2) := (sb.c 2 (by decide)).1
  have sb_3 : X2.cell? ⟨w2.heap.size, 3, none⟩ = some (.slice ra3 rn3 rc3) := (sb.c 3 (by decide)).1
  have sb_z := sb.lt
  go_upto_region 5 with (go_at_call 17; refine (hPk _ hS).mono ?_; rintro e w3 ⟨rfl, hb3⟩)
  clear hPk
  clear sb_0 sb_1 sb_2 sb_3 sb_z
  replace cb := cb.below hb3 cb.lt
  replace sb := sb.below hb3 sb.lt
  replace bw := bw.trans (hb3.mono bw.size)
  replace hl := hl.below hb3
  replace hS := hS.below hb3
  have KX : Hid (∀ U, Below w3.heap.size w3 U → U.cell? ⟨w2.heap.size, 0, none⟩ = some (.slice ra0 rn0 rc0) ∧ U.cell? ⟨w2.heap.size, 1, none⟩ = some (.slice ra1 rn1 rc1) ∧ U.cell? ⟨w2.heap.size, 2, none⟩ = some (.slice ra2 rn2 rc2) ∧ U.cell? ⟨w2.heap.size, 3, none⟩ = some (.slice ra3 rn3 rc3)) := fun U hU => by
    have h1 := sb.below hU sb.lt
    exact ⟨(h1.c 0 (by decide)).1, (h1.c 1 (by decide)).1, (h1.c 2 (by decide)).1, (h1.c 3 (by decide)).1⟩
  have HWt : Hid (∀ U, Below w3.heap.size w3 U → Calls Tryd.prog 19 #[.agg #[.slice ra0 rn0 rc0, .slice ra1 rn1 rc1, .slice ra2 rn2 rc2, .slice ra3 rn3 rc3], .agg #[.int .i64 0, .int .i64 6], .int .i64 KK, .int .i64 KV, .int .i64 1] U fun e w' => ∃ r : SV, e = .returned (.tuple #[r.val, .int .i64 WE]) ∧ OwnStore w' U.heap.size r ∧ r.data = WD ∧ Below U.heap.size U w') := fun U hU => hWt U (hS.below hU)
  clear hWt
  go_cut [13, 14] (fun s13 s14 wc => ∃ (g : Nat) (r : SV), s13 = .pointer (some ⟨g, 0, none⟩) ∧ s14 = .int .i64 WE ∧ BoxN wc g 4 r.box ∧ OwnStore wc w3.heap.size r ∧ r.data = WD ∧ Below w3.heap.size w3 wc)
  case first =>
    clear cb sb hl bw hS hG hok hwf h4o hver hFr hk7 HPE HF hCk
    go_region_held3 (fun U => U.cell? ⟨w2.heap.size, 0, none⟩ = some (.slice ra0 rn0 rc0) ∧ U.cell? ⟨w2.heap.size, 1, none⟩ = some (.slice ra1 rn1 rc1) ∧ U.cell? ⟨w2.heap.size, 2, none⟩ = some (.slice ra2 rn2 rc2) ∧ U.cell? ⟨w2.heap.size, 3, none⟩ = some (.slice ra3 rn3 rc3))
      (exact KX.out _ (by (with_reducible repeat (first | exact Below.refl _ _ | exact hu2 | refine qD ?_ | refine qA ?_ _ | refine qS ?_ (by first | omega | (simp; done)) _)); done))
      (first | (go_at_call 11; refine (hPKV _).mono ?_; rintro e u ⟨rfl, hu⟩; rw [hu]; clear hu) | (go_at_call 19; refine (HWt.out _ (by (with_reducible repeat (first | exact Below.refl _ _ | exact hu2 | refine qD ?_ | refine qA ?_ _ | refine qS ?_ (by first | omega | (simp; done)) _)); done)).mono ?_; rintro e w2' ⟨⟨qa0, qn0, qc0, qa1, qn1, qc1, qa2, qn2, qc2, qa3, qn3, qc3, qi, ql, qd, qo⟩, rfl, hO2', hd2, hb2'⟩; simp only [SV.val]; have hu2 : Below w3.heap.size w3 w2' := qT (by (with_reducible repeat (first | exact Below.refl _ _ | exact hu2 | refine qD ?_ | refine qA ?_ _ | refine qS ?_ (by first | omega | (simp; done)) _)); done) hb2'; have zu2 := hu2.size; (first | (have bx3 : BoxN w2' w3.heap.size 4 [.slice none 0 0, .slice none 0 0, .slice none 0 0, .slice none 0 0] := (boxn_new w3.drew #[.slice none 0 0, .slice none 0 0, .slice none 0 0, .slice none 0 0] 41 4 rfl).below hb2' (by simp); have s0 : _ = some (Value.slice none 0 0) := (bx3.c 0 (by decide)).1; have g0 := (bx3.c 0 (by decide)).2; have s1 : _ = some (Value.slice none 0 0) := (bx3.c 1 (by decide)).1; have g1 := (bx3.c 1 (by decide)).2; have s2 : _ = some (Value.slice none 0 0) := (bx3.c 2 (by decide)).1; have g2 := (bx3.c 2 (by decide)).2; have s3 : _ = some (Value.slice none 0 0) := (bx3.c 3 (by decide)).1; have g3 := (bx3.c 3 (by decide)).2; have zbx3 := bx3.lt) | skip)))
    all_goals
      go_wp2_with fail
      go_meet
      case rel => first | exact ⟨_, ⟨qa0, qn0, qc0, qa1, qn1, qc1, qa2, qn2, qc2, qa3, qn3, qc3, qi, ql, qd, qo⟩, rfl, rfl, (((bx3.set 0 (by decide) (.slice qa0 qn0 qc0)).set 1 (by decide) (.slice qa1 qn1 qc1)).set 2 (by decide) (.slice qa2 qn2 qc2)).set 3 (by decide) (.slice qa3 qn3 qc3), (hO2'.four (b := w3.heap.size) (by simp) _ _ _ _).base (by simp), hd2, by (with_reducible repeat (first | exact Below.refl _ _ | exact hu2 | refine qD ?_ | refine qA ?_ _ | refine qS ?_ (by first | omega | (simp; done)) _)); done⟩ | exact ⟨_, ⟨qa0, qn0, qc0, qa1, qn1, qc1, qa2, qn2, qc2, qa3, qn3, qc3, qi, ql, qd, qo⟩, rfl, rfl, boxn_new w2' #[.slice qa0 qn0 qc0, .slice qa1 qn1 qc1, .slice qa2 qn2 qc2, .slice qa3 qn3 qc3] _ 4 rfl, (hO2'.below ((Below.refl _ _).alloc (Nat.le_refl _) _)).base (by first | omega | (simp; done) | (simp; omega)), hd2, by (with_reducible repeat (first | exact Below.refl _ _ | exact hu2 | refine qD ?_ | refine qA ?_ _ | refine qS ?_ (by first | omega | (simp; done)) _)); done⟩
  case rest =>
    obtain ⟨gs, ⟨qa0, qn0, qc0, qa1, qn1, qc1, qa2, qn2, qc2, qa3, qn3, qc3, qi, ql, qd, qo⟩, rfl, rfl, ub, hO, hd, hb5⟩ := hcut
    obtain ⟨X5, eX5⟩ : ∃ X, X = wc := ⟨_, rfl⟩
    rw [← eX5] at ub hO hb5 ⊢
    clear eX5 KX HWt hPKV
    simp only [SV.box] at ub
    replace cb := cb.below hb5 cb.lt
    replace sb := sb.below hb5 sb.lt
    replace bw := bw.trans (hb5.mono bw.size)
    replace hl := hl.below hb5
    replace hS := hS.below hb5
    have hSu := hO.isStore
    clear hO
    have sb_0 : X5.cell? ⟨w2.heap.size, 0, none⟩ = some (.slice ra0 rn0 rc0) := (sb.c 0 (by decide)).1
    have sb_1 : X5.cell? ⟨w2.heap.size, 1, none⟩ = some (.slice ra1 rn1 rc1) := (sb.c 1 (by decide)).1
    have sb_2 : X5.cell? ⟨w2.heap.size, 2, none⟩ = some (.slice ra2 rn2 rc2) := (sb.c 2 (by decide)).1
    have sb_3 : X5.cell? ⟨w2.heap.size, 3, none⟩ = some (.slice ra3 rn3 rc3) := (sb.c 3 (by decide)).1
    have sb_z := sb.lt
    go_upto_region 8 with (go_at_call 14; refine (hCk _ hS).mono ?_; rintro e w6 ⟨rfl, hb6⟩)
    clear hCk
    clear sb_0 sb_1 sb_2 sb_3 sb_z
    replace cb := cb.below hb6 cb.lt
    replace sb := sb.below hb6 sb.lt
    replace ub := ub.below hb6 ub.lt
    replace bw := bw.trans (hb6.mono bw.size)
    replace hl := hl.below hb6
    replace hS := hS.below hb6
    replace hSu := hSu.below hb6
    obtain ⟨hP, hPW, hWc⟩ := HF.out
    clear HF
    rcases hP with hP | hP
    · subst hP
      go_wp2
      go_ret
      exact ⟨by simp, bw⟩
    subst hP
    rcases hWc with hWc | ⟨hWc, hPl, hokW, hno⟩
    · subst hWc
      go_wp2
      go_ret
      exact ⟨by simp, bw⟩
    subst hWc
    have HPW : Hid (PW = (St.itemAt ri KK).version) := hPW rfl
    have pw0 : 0 ≤ PW := by rw [HPW.out]; exact itemAt_nn fun y hy => by have := St.itemsOK_ge ri 0 hG.ok.items y hy; omega
    have pw1 : PW ≤ 1048576 := by rw [HPW.out]; exact Int.le_trans (St.itemAt_bd (v := 961) (by omega) (fun y hy => hG.ver y hy)) (by omega)
    clear hPW
    rw [← hd] at hPl hokW
    clear hd
    have hokQ := hokW.ok
    have hwfQ := St.OKP.wf hokW
    have hovQ : qo = ro := hPl.over
    have hro4 : ro.length ≤ 4 := hG.over4
    have h4Q : qn3 * 16 ≤ 140737488351232 := ol_of (s := ⟨qa0, qn0, qc0, qa1, qn1, qc1, qa2, qn2, qc2, qa3, qn3, qc3, qi, ql, qd, qo⟩) hSu (k := 5) (by show qo.length ≤ 5; rw [hovQ]; omega) (by omega)
    obtain ⟨eT, okT, itT, lkT, ovT⟩ := St.end_plus (yes := true) hFr hPl hokW hver
    obtain ⟨eF, okF, itF, lkF, ovF⟩ := St.end_plus (yes := false) hFr hPl hokW hver
    have hEt := fun U h1 => St.end_own ⟨qa0, qn0, qc0, qa1, qn1, qc1, qa2, qn2, qc2, qa3, qn3, qc3, qi, ql, qd, qo⟩ ((0 : Int), (6 : Int)) true U h1 hwfQ h4Q
    have hEf := fun U h1 => St.end_own ⟨qa0, qn0, qc0, qa1, qn1, qc1, qa2, qn2, qc2, qa3, qn3, qc3, qi, ql, qd, qo⟩ ((0 : Int), (6 : Int)) false U h1 hwfQ h4Q
    rw [eT] at hEt
    rw [eF] at hEf
    clear eT eF
    obtain ⟨TD, eTD⟩ : ∃ x, x = endData ⟨qa0, qn0, qc0, qa1, qn1, qc1, qa2, qn2, qc2, qa3, qn3, qc3, qi, ql, qd, qo⟩ ((0 : Int), (6 : Int)) true := ⟨_, rfl⟩
    obtain ⟨FD, eFD⟩ : ∃ x, x = endData ⟨qa0, qn0, qc0, qa1, qn1, qc1, qa2, qn2, qc2, qa3, qn3, qc3, qi, ql, qd, qo⟩ ((0 : Int), (6 : Int)) false := ⟨_, rfl⟩
    rw [← eTD] at hEt okT itT lkT ovT
    rw [← eFD] at hEf okF itF lkF ovF
    clear eTD eFD
    have HT : Hid (OKP TD ∧ TD.items = St.putI KK KV ri ∧ TD.locks = rl ∧ TD.over = ro ++ [((0 : Int), (6 : Int))]) := ⟨okT, itT, lkT, ovT⟩
    have HFF : Hid (OKP FD ∧ FD.items = ri ∧ FD.locks = rl ∧ FD.over = ro ++ [((0 : Int), (6 : Int))]) := ⟨okF, itF, lkF, ovF⟩
    clear okT itT lkT ovT okF itF lkF ovF
    have hnw : rl.any (St.wrT KK) = false := St.oth_wr hFr hno
    have HY1 : Hid ((peekErr ⟨ra0, rn0, rc0, ra1, rn1, rc1, ra2, rn2, rc2, ra3, rn3, rc3, ri, rl, rd, ro⟩ KK == 0 && peekVer ⟨ra0, rn0, rc0, ra1, rn1, rc1, ra2, rn2, rc2, ra3, rn3, rc3, ri, rl, rd, ro⟩ KK == PW) = true) := by show _ = _; rw [← HPE.out.1, ← HPE.out.2]; simp
    have HY2 : Hid ((peekErr ⟨qa0, qn0, qc0, qa1, qn1, qc1, qa2, qn2, qc2, qa3, qn3, qc3, qi, ql, qd, qo⟩ KK == 0 && peekVer ⟨qa0, qn0, qc0, qa1, qn1, qc1, qa2, qn2, qc2, qa3, qn3, qc3, qi, ql, qd, qo⟩ KK == PW) = false) := by
      show _ = _
      have h1 := ((St.peek_is (s := ⟨qa0, qn0, qc0, qa1, qn1, qc1, qa2, qn2, qc2, qa3, qn3, qc3, qi, ql, qd, qo⟩) (k := KK) hokW hk7).1 (St.wr_plus hPl).1).1
      rw [h1]; rfl
    have HR4 : Hid (ro.length ≤ 4) := hro4
    have HNW : Hid (rl.any (St.wrT KK) = false) := hnw
    have HIO : Hid (St.itemsOK 0 ri = true) := hG.ok.items
    have HHQ : Hid (storeOK ⟨qa0, qn0, qc0, qa1, qn1, qc1, qa2, qn2, qc2, qa3, qn3, qc3, qi, ql, qd, qo⟩ = true ∧ (∀ t ∈ qo, TxWf t) ∧ qn3 * 16 ≤ 140737488351232) := ⟨hokQ, hwfQ, h4Q⟩
    have HHR : Hid (storeOK ⟨ra0, rn0, rc0, ra1, rn1, rc1, ra2, rn2, rc2, ra3, rn3, rc3, ri, rl, rd, ro⟩ = true ∧ (∀ t ∈ ro, TxWf t) ∧ rn3 * 16 ≤ 140737488351232) := ⟨hok, hwf, h4o⟩
    clear hokQ hwfQ hovQ hro4 h4Q hnw hno hok hwf h4o hver hFr hPl hokW HPE
    simp only [SV.val] at hEt hEf
    have ub_0 : w6.cell? ⟨gs, 0, none⟩ = some (.slice qa0 qn0 qc0) := (ub.c 0 (by decide)).1
    have ub_1 : w6.cell? ⟨gs, 1, none⟩ = some (.slice qa1 qn1 qc1) := (ub.c 1 (by decide)).1
    have ub_2 : w6.cell? ⟨gs, 2, none⟩ = some (.slice qa2 qn2 qc2) := (ub.c 2 (by decide)).1
    have ub_3 : w6.cell? ⟨gs, 3, none⟩ = some (.slice qa3 qn3 qc3) := (ub.c 3 (by decide)).1
    have ub_z := ub.lt
    go_upto_region 11 with (go_at_call 20; refine (hEt _ hSu).mono ?_; rintro e w7 ⟨⟨sa0, sn0, sc0, sa1, sn1, sc1, sa2, sn2, sc2, sa3, sn3, sc3, si, sl, sd, so⟩, rfl, hO, hdT, hb7⟩)
    clear hEt
    clear ub_0 ub_1 ub_2 ub_3 ub_z
    replace cb := cb.below hb7 cb.lt
    replace sb := sb.below hb7 sb.lt
    replace ub := ub.below hb7 ub.lt
    replace bw := bw.trans (hb7.mono bw.size)
    replace hl := hl.below hb7
    replace hS := hS.below hb7
    replace hSu := hSu.below hb7
    have hSt := hO.isStore
    clear hO
    obtain ⟨X6, eX6⟩ : ∃ X : World, X = w7.alloc (.cells #[.slice sa0 sn0 sc0, .slice sa1 sn1 sc1, .slice sa2 sn2 sc2, .slice sa3 sn3 sc3] 41) := ⟨_, rfl⟩
    have tb : BoxN X6 w7.heap.size 4 [.slice sa0 sn0 sc0, .slice sa1 sn1 sc1, .slice sa2 sn2 sc2, .slice sa3 sn3 sc3] := by rw [eX6]; exact boxn_new w7 #[.slice sa0 sn0 sc0, .slice sa1 sn1 sc1, .slice sa2 sn2 sc2, .slice sa3 sn3 sc3] 41 4 rfl
    have bX6 : Below w7.heap.size w7 X6 := by rw [eX6]; exact (Below.refl _ _).alloc (Nat.le_refl _) _
    rw [← eX6]
    clear eX6
    replace cb := cb.below bX6 cb.lt
    replace sb := sb.below bX6 sb.lt
    replace ub := ub.below bX6 ub.lt
    replace bw := bw.trans (bX6.mono bw.size)
    replace hl := hl.below bX6
    replace hS := hS.below bX6
    replace hSu := hSu.below bX6
    replace hSt := hSt.below bX6
    have ub_0 : X6.cell? ⟨gs, 0, none⟩ = some (.slice qa0 qn0 qc0) := (ub.c 0 (by decide)).1
    have ub_1 : X6.cell? ⟨gs, 1, none⟩ = some (.slice qa1 qn1 qc1) := (ub.c 1 (by decide)).1
    have ub_2 : X6.cell? ⟨gs, 2, none⟩ = some (.slice qa2 qn2 qc2) := (ub.c 2 (by decide)).1
    have ub_3 : X6.cell? ⟨gs, 3, none⟩ = some (.slice qa3 qn3 qc3) := (ub.c 3 (by decide)).1
    have ub_z := ub.lt
    go_upto_region 12 with (go_at_call 20; refine (hEf _ hSu).mono ?_; rintro e w8 ⟨⟨za0, zn0, zc0, za1, zn1, zc1, za2, zn2, zc2, za3, zn3, zc3, zi, zl, zd, zo⟩, rfl, hO, hdF, hb8⟩)
    clear hEf
    clear ub_0 ub_1 ub_2 ub_3 ub_z
    replace cb := cb.below hb8 cb.lt
    replace sb := sb.below hb8 sb.lt
    replace ub := ub.below hb8 ub.lt
    replace tb := tb.below hb8 tb.lt
    replace bw := bw.trans (hb8.mono bw.size)
    replace hl := hl.below hb8
    replace hS := hS.below hb8
    replace hSu := hSu.below hb8
    replace hSt := hSt.below hb8
    have hSz := hO.isStore
    clear hO
    obtain ⟨X7, eX7⟩ : ∃ X : World, X = w8.alloc (.cells #[.slice za0 zn0 zc0, .slice za1 zn1 zc1, .slice za2 zn2 zc2, .slice za3 zn3 zc3] 41) := ⟨_, rfl⟩
    have zb : BoxN X7 w8.heap.size 4 [.slice za0 zn0 zc0, .slice za1 zn1 zc1, .slice za2 zn2 zc2, .slice za3 zn3 zc3] := by rw [eX7]; exact boxn_new w8 #[.slice za0 zn0 zc0, .slice za1 zn1 zc1, .slice za2 zn2 zc2, .slice za3 zn3 zc3] 41 4 rfl
    have bX7 : Below w8.heap.size w8 X7 := by rw [eX7]; exact (Below.refl _ _).alloc (Nat.le_refl _) _
    rw [← eX7]
    clear eX7
    replace cb := cb.below bX7 cb.lt
    replace sb := sb.below bX7 sb.lt
    replace ub := ub.below bX7 ub.lt
    replace tb := tb.below bX7 tb.lt
    replace bw := bw.trans (bX7.mono bw.size)
    replace hl := hl.below bX7
    replace hS := hS.below bX7
    replace hSu := hSu.below bX7
    replace hSt := hSt.below bX7
    replace hSz := hSz.below bX7
    go_upto_region 13 with (fail)
    obtain ⟨X8, eX8⟩ : ∃ X : World, X = X7.alloc (.cells #[.int .i64 3, .int .i64 0, .int .i64 0, .int .i64 0, .int .i64 1, .int .i64 0, .int .i64 KK, .int .i64 0, .int .i64 PW, .int .i64 0, .bool false, .int .i64 0] 33) := ⟨_, rfl⟩
    have mb : BoxN X8 X7.heap.size 12 [.int .i64 3, .int .i64 0, .int .i64 0, .int .i64 0, .int .i64 1, .int .i64 0, .int .i64 KK, .int .i64 0, .int .i64 PW, .int .i64 0, .bool false, .int .i64 0] := by rw [eX8]; exact boxn_new X7 #[.int .i64 3, .int .i64 0, .int .i64 0, .int .i64 0, .int .i64 1, .int .i64 0, .int .i64 KK, .int .i64 0, .int .i64 PW, .int .i64 0, .bool false, .int .i64 0] 33 12 rfl
    have bX8 : Below X7.heap.size X7 X8 := by rw [eX8]; exact (Below.refl _ _).alloc (Nat.le_refl _) _
    rw [← eX8]
    clear eX8
    replace cb := cb.below bX8 cb.lt
    replace sb := sb.below bX8 sb.lt
    replace ub := ub.below bX8 ub.lt
    replace tb := tb.below bX8 tb.lt
    replace zb := zb.below bX8 zb.lt
    replace bw := bw.trans (bX8.mono bw.size)
    replace hl := hl.below bX8
    replace hS := hS.below bX8
    replace hSu := hSu.below bX8
    replace hSt := hSt.below bX8
    replace hSz := hSz.below bX8
    go_upto_region 14 with (fail)
    have okT : OKP (SV.data ⟨sa0, sn0, sc0, sa1, sn1, sc1, sa2, sn2, sc2, sa3, sn3, sc3, si, sl, sd, so⟩) := by rw [hdT]; exact HT.out.1
    have okF : OKP (SV.data ⟨za0, zn0, zc0, za1, zn1, zc1, za2, zn2, zc2, za3, zn3, zc3, zi, zl, zd, zo⟩) := by rw [hdF]; exact HFF.out.1
    have siT : si = St.putI KK KV ri := (congrArg PS.items hdT).trans HT.out.2.1
    have slT : sl = rl := (congrArg PS.locks hdT).trans HT.out.2.2.1
    have soT : so = ro ++ [((0 : Int), (6 : Int))] := (congrArg PS.over hdT).trans HT.out.2.2.2
    have siF : zi = ri := (congrArg PS.items hdF).trans HFF.out.2.1
    have slF : zl = rl := (congrArg PS.locks hdF).trans HFF.out.2.2.1
    have soF : zo = ro ++ [((0 : Int), (6 : Int))] := (congrArg PS.over hdF).trans HFF.out.2.2.2
    have HHT : Hid (storeOK ⟨sa0, sn0, sc0, sa1, sn1, sc1, sa2, sn2, sc2, sa3, sn3, sc3, si, sl, sd, so⟩ = true ∧ (∀ t ∈ so, TxWf t) ∧ sn3 * 16 ≤ 140737488351232) := ⟨okT.ok, St.OKP.wf okT, ol_of (s := ⟨sa0, sn0, sc0, sa1, sn1, sc1, sa2, sn2, sc2, sa3, sn3, sc3, si, sl, sd, so⟩) hSt (k := 5) (by show so.length ≤ 5; rw [soT, List.length_append]; have := HR4.out; simp; omega) (by omega)⟩
    have HHZ : Hid (storeOK ⟨za0, zn0, zc0, za1, zn1, zc1, za2, zn2, zc2, za3, zn3, zc3, zi, zl, zd, zo⟩ = true ∧ (∀ t ∈ zo, TxWf t) ∧ zn3 * 16 ≤ 140737488351232) := ⟨okF.ok, St.OKP.wf okF, ol_of (s := ⟨za0, zn0, zc0, za1, zn1, zc1, za2, zn2, zc2, za3, zn3, zc3, zi, zl, zd, zo⟩) hSz (k := 5) (by show zo.length ≤ 5; rw [soF, List.length_append]; have := HR4.out; simp; omega) (by omega)⟩
    have HY3 : Hid ((peekErr ⟨sa0, sn0, sc0, sa1, sn1, sc1, sa2, sn2, sc2, sa3, sn3, sc3, si, sl, sd, so⟩ KK == 0 && peekVer ⟨sa0, sn0, sc0, sa1, sn1, sc1, sa2, sn2, sc2, sa3, sn3, sc3, si, sl, sd, so⟩ KK == PW) = false) := by
      show _ = _
      have h1 := (St.peek_is (s := ⟨sa0, sn0, sc0, sa1, sn1, sc1, sa2, sn2, sc2, sa3, sn3, sc3, si, sl, sd, so⟩) (k := KK) okT hk7).2 (by rw [slT]; exact HNW.out)
      rw [h1.1, h1.2.2]
      simp only [siT, St.itemAt_put KK KV ri 0 HIO.out, ← HPW.out]
      simp
      omega
    have HY4 : Hid ((peekErr ⟨za0, zn0, zc0, za1, zn1, zc1, za2, zn2, zc2, za3, zn3, zc3, zi, zl, zd, zo⟩ KK == 0 && peekVer ⟨za0, zn0, zc0, za1, zn1, zc1, za2, zn2, zc2, za3, zn3, zc3, zi, zl, zd, zo⟩ KK == PW) = true) := by
      show _ = _
      have h1 := (St.peek_is (s := ⟨za0, zn0, zc0, za1, zn1, zc1, za2, zn2, zc2, za3, zn3, zc3, zi, zl, zd, zo⟩) (k := KK) okF hk7).2 (by rw [slF]; exact HNW.out)
      rw [h1.1, h1.2.2]
      simp only [siF, ← HPW.out]
      simp
    have H1 : Hid (∀ U, Below X8.heap.size X8 U → Calls Tryd.prog 21 #[.agg #[.slice ra0 rn0 rc0, .slice ra1 rn1 rc1, .slice ra2 rn2 rc2, .slice ra3 rn3 rc3], .pointer (some ⟨w1.heap.size, 0, none⟩), .pointer (some ⟨X7.heap.size, 0, none⟩)] U fun e w' => e = .returned (.bool true) ∧ Below U.heap.size U w') := fun U hU => by
      have hKT := KT.out _ (bw.trans (hU.mono bw.size))
      have h := sure_any g0 (w1.heap.size) (X7.heap.size) ⟨ra0, rn0, rc0, ra1, rn1, rc1, ra2, rn2, rc2, ra3, rn3, rc3, ri, rl, rd, ro⟩ KK PW U (cb.below hU cb.lt) (mb.below hU mb.lt) (hl.below hU) (hS.below hU) HHR.out.1 HHR.out.2.1 HHR.out.2.2 pw0 pw1 lKK (by omega) hKT.1 hKT.2
      rw [HY1.out] at h
      exact h
    have H2 : Hid (∀ U, Below X8.heap.size X8 U → Calls Tryd.prog 21 #[.agg #[.slice qa0 qn0 qc0, .slice qa1 qn1 qc1, .slice qa2 qn2 qc2, .slice qa3 qn3 qc3], .pointer (some ⟨w1.heap.size, 0, none⟩), .pointer (some ⟨X7.heap.size, 0, none⟩)] U fun e w' => e = .returned (.bool false) ∧ Below U.heap.size U w') := fun U hU => by
      have hKT := KT.out _ (bw.trans (hU.mono bw.size))
      have h := sure_any g0 (w1.heap.size) (X7.heap.size) ⟨qa0, qn0, qc0, qa1, qn1, qc1, qa2, qn2, qc2, qa3, qn3, qc3, qi, ql, qd, qo⟩ KK PW U (cb.below hU cb.lt) (mb.below hU mb.lt) (hl.below hU) (hSu.below hU) HHQ.out.1 HHQ.out.2.1 HHQ.out.2.2 pw0 pw1 lKK (by omega) hKT.1 hKT.2
      rw [HY2.out] at h
      exact h
    have H3 : Hid (∀ U, Below X8.heap.size X8 U → Calls Tryd.prog 21 #[.agg #[.slice sa0 sn0 sc0, .slice sa1 sn1 sc1, .slice sa2 sn2 sc2, .slice sa3 sn3 sc3], .pointer (some ⟨w1.heap.size, 0, none⟩), .pointer (some ⟨X7.heap.size, 0, none⟩)] U fun e w' => e = .returned (.bool false) ∧ Below U.heap.size U w') := fun U hU => by
      have hKT := KT.out _ (bw.trans (hU.mono bw.size))
      have h := sure_any g0 (w1.heap.size) (X7.heap.size) ⟨sa0, sn0, sc0, sa1, sn1, sc1, sa2, sn2, sc2, sa3, sn3, sc3, si, sl, sd, so⟩ KK PW U (cb.below hU cb.lt) (mb.below hU mb.lt) (hl.below hU) (hSt.below hU) HHT.out.1 HHT.out.2.1 HHT.out.2.2 pw0 pw1 lKK (by omega) hKT.1 hKT.2
      rw [HY3.out] at h
      exact h
    have H4 : Hid (∀ U, Below X8.heap.size X8 U → Calls Tryd.prog 21 #[.agg #[.slice za0 zn0 zc0, .slice za1 zn1 zc1, .slice za2 zn2 zc2, .slice za3 zn3 zc3], .pointer (some ⟨w1.heap.size, 0, none⟩), .pointer (some ⟨X7.heap.size, 0, none⟩)] U fun e w' => e = .returned (.bool true) ∧ Below U.heap.size U w') := fun U hU => by
      have hKT := KT.out _ (bw.trans (hU.mono bw.size))
      have h := sure_any g0 (w1.heap.size) (X7.heap.size) ⟨za0, zn0, zc0, za1, zn1, zc1, za2, zn2, zc2, za3, zn3, zc3, zi, zl, zd, zo⟩ KK PW U (cb.below hU cb.lt) (mb.below hU mb.lt) (hl.below hU) (hSz.below hU) HHZ.out.1 HHZ.out.2.1 HHZ.out.2.2 pw0 pw1 lKK (by omega) hKT.1 hKT.2
      rw [HY4.out] at h
      exact h
    clear okT okF siT slT soT siF slF soF hdT hdF HY1 HY2 HY3 HY4 HHR HHQ HHT HHZ HT HFF HR4 HNW HIO HPW
    have tok1 : True := trivial
    have tok2 : True := trivial
    have tok3 : True := trivial
    have sb_0 : X8.cell? ⟨w2.heap.size, 0, none⟩ = some (.slice ra0 rn0 rc0) := (sb.c 0 (by decide)).1
    have sb_1 : X8.cell? ⟨w2.heap.size, 1, none⟩ = some (.slice ra1 rn1 rc1) := (sb.c 1 (by decide)).1
    have sb_2 : X8.cell? ⟨w2.heap.size, 2, none⟩ = some (.slice ra2 rn2 rc2) := (sb.c 2 (by decide)).1
    have sb_3 : X8.cell? ⟨w2.heap.size, 3, none⟩ = some (.slice ra3 rn3 rc3) := (sb.c 3 (by decide)).1
    have sb_z := sb.lt
    have ub_0 : X8.cell? ⟨gs, 0, none⟩ = some (.slice qa0 qn0 qc0) := (ub.c 0 (by decide)).1
    have ub_1 : X8.cell? ⟨gs, 1, none⟩ = some (.slice qa1 qn1 qc1) := (ub.c 1 (by decide)).1
    have ub_2 : X8.cell? ⟨gs, 2, none⟩ = some (.slice qa2 qn2 qc2) := (ub.c 2 (by decide)).1
    have ub_3 : X8.cell? ⟨gs, 3, none⟩ = some (.slice qa3 qn3 qc3) := (ub.c 3 (by decide)).1
    have ub_z := ub.lt
    have tb_0 : X8.cell? ⟨w7.heap.size, 0, none⟩ = some (.slice sa0 sn0 sc0) := (tb.c 0 (by decide)).1
    have tb_1 : X8.cell? ⟨w7.heap.size, 1, none⟩ = some (.slice sa1 sn1 sc1) := (tb.c 1 (by decide)).1
    have tb_2 : X8.cell? ⟨w7.heap.size, 2, none⟩ = some (.slice sa2 sn2 sc2) := (tb.c 2 (by decide)).1
    have tb_3 : X8.cell? ⟨w7.heap.size, 3, none⟩ = some (.slice sa3 sn3 sc3) := (tb.c 3 (by decide)).1
    have tb_z := tb.lt
    have zb_0 : X8.cell? ⟨w8.heap.size, 0, none⟩ = some (.slice za0 zn0 zc0) := (zb.c 0 (by decide)).1
    have zb_1 : X8.cell? ⟨w8.heap.size, 1, none⟩ = some (.slice za1 zn1 zc1) := (zb.c 1 (by decide)).1
    have zb_2 : X8.cell? ⟨w8.heap.size, 2, none⟩ = some (.slice za2 zn2 zc2) := (zb.c 2 (by decide)).1
    have zb_3 : X8.cell? ⟨w8.heap.size, 3, none⟩ = some (.slice za3 zn3 zc3) := (zb.c 3 (by decide)).1
    have zb_z := zb.lt
    go_wp2_with (go_at_call 21; first | (clear tok1; refine (H1.out _ (Below.refl _ _)).mono ?_; rintro e v1 ⟨rfl, hv1⟩; have sbv1 := sb.below hv1 sb.lt; have sbv1_0 : v1.cell? ⟨w2.heap.size, 0, none⟩ = some (.slice ra0 rn0 rc0) := (sbv1.c 0 (by decide)).1; have sbv1_1 : v1.cell? ⟨w2.heap.size, 1, none⟩ = some (.slice ra1 rn1 rc1) := (sbv1.c 1 (by decide)).1; have sbv1_2 : v1.cell? ⟨w2.heap.size, 2, none⟩ = some (.slice ra2 rn2 rc2) := (sbv1.c 2 (by decide)).1; have sbv1_3 : v1.cell? ⟨w2.heap.size, 3, none⟩ = some (.slice ra3 rn3 rc3) := (sbv1.c 3 (by decide)).1; have sbv1_z := sbv1.lt; have ubv1 := ub.below hv1 ub.lt; have ubv1_0 : v1.cell? ⟨gs, 0, none⟩ = some (.slice qa0 qn0 qc0) := (ubv1.c 0 (by decide)).1; have ubv1_1 : v1.cell? ⟨gs, 1, none⟩ = some (.slice qa1 qn1 qc1) := (ubv1.c 1 (by decide)).1; have ubv1_2 : v1.cell? ⟨gs, 2, none⟩ = some (.slice qa2 qn2 qc2) := (ubv1.c 2 (by decide)).1; have ubv1_3 : v1.cell? ⟨gs, 3, none⟩ = some (.slice qa3 qn3 qc3) := (ubv1.c 3 (by decide)).1; have ubv1_z := ubv1.lt; have tbv1 := tb.below hv1 tb.lt; have tbv1_0 : v1.cell? ⟨w7.heap.size, 0, none⟩ = some (.slice sa0 sn0 sc0) := (tbv1.c 0 (by decide)).1; have tbv1_1 : v1.cell? ⟨w7.heap.size, 1, none⟩ = some (.slice sa1 sn1 sc1) := (tbv1.c 1 (by decide)).1; have tbv1_2 : v1.cell? ⟨w7.heap.size, 2, none⟩ = some (.slice sa2 sn2 sc2) := (tbv1.c 2 (by decide)).1; have tbv1_3 : v1.cell? ⟨w7.heap.size, 3, none⟩ = some (.slice sa3 sn3 sc3) := (tbv1.c 3 (by decide)).1; have tbv1_z := tbv1.lt; have zbv1 := zb.below hv1 zb.lt; have zbv1_0 : v1.cell? ⟨w8.heap.size, 0, none⟩ = some (.slice za0 zn0 zc0) := (zbv1.c 0 (by decide)).1; have zbv1_1 : v1.cell? ⟨w8.heap.size, 1, none⟩ = some (.slice za1 zn1 zc1) := (zbv1.c 1 (by decide)).1; have zbv1_2 : v1.cell? ⟨w8.heap.size, 2, none⟩ = some (.slice za2 zn2 zc2) := (zbv1.c 2 (by decide)).1; have zbv1_3 : v1.cell? ⟨w8.heap.size, 3, none⟩ = some (.slice za3 zn3 zc3) := (zbv1.c 3 (by decide)).1; have zbv1_z := zbv1.lt) | (clear tok2; refine (H2.out _ hv1).mono ?_; rintro e v2 ⟨rfl, hv2'⟩; have hv2 := hv1.trans (hv2'.mono hv1.size); have sbv2 := sb.below hv2 sb.lt; have sbv2_0 : v2.cell? ⟨w2.heap.size, 0, none⟩ = some (.slice ra0 rn0 rc0) := (sbv2.c 0 (by decide)).1; have sbv2_1 : v2.cell? ⟨w2.heap.size, 1, none⟩ = some (.slice ra1 rn1 rc1) := (sbv2.c 1 (by decide)).1; have sbv2_2 : v2.cell? ⟨w2.heap.size, 2, none⟩ = some (.slice ra2 rn2 rc2) := (sbv2.c 2 (by decide)).1; have sbv2_3 : v2.cell? ⟨w2.heap.size, 3, none⟩ = some (.slice ra3 rn3 rc3) := (sbv2.c 3 (by decide)).1; have sbv2_z := sbv2.lt; have ubv2 := ub.below hv2 ub.lt; have ubv2_0 : v2.cell? ⟨gs, 0, none⟩ = some (.slice qa0 qn0 qc0) := (ubv2.c 0 (by decide)).1; have ubv2_1 : v2.cell? ⟨gs, 1, none⟩ = some (.slice qa1 qn1 qc1) := (ubv2.c 1 (by decide)).1; have ubv2_2 : v2.cell? ⟨gs, 2, none⟩ = some (.slice qa2 qn2 qc2) := (ubv2.c 2 (by decide)).1; have ubv2_3 : v2.cell? ⟨gs, 3, none⟩ = some (.slice qa3 qn3 qc3) := (ubv2.c 3 (by decide)).1; have ubv2_z := ubv2.lt; have tbv2 := tb.below hv2 tb.lt; have tbv2_0 : v2.cell? ⟨w7.heap.size, 0, none⟩ = some (.slice sa0 sn0 sc0) := (tbv2.c 0 (by decide)).1; have tbv2_1 : v2.cell? ⟨w7.heap.size, 1, none⟩ = some (.slice sa1 sn1 sc1) := (tbv2.c 1 (by decide)).1; have tbv2_2 : v2.cell? ⟨w7.heap.size, 2, none⟩ = some (.slice sa2 sn2 sc2) := (tbv2.c 2 (by decide)).1; have tbv2_3 : v2.cell? ⟨w7.heap.size, 3, none⟩ = some (.slice sa3 sn3 sc3) := (tbv2.c 3 (by decide)).1; have tbv2_z := tbv2.lt; have zbv2 := zb.below hv2 zb.lt; have zbv2_0 : v2.cell? ⟨w8.heap.size, 0, none⟩ = some (.slice za0 zn0 zc0) := (zbv2.c 0 (by decide)).1; have zbv2_1 : v2.cell? ⟨w8.heap.size, 1, none⟩ = some (.slice za1 zn1 zc1) := (zbv2.c 1 (by decide)).1; have zbv2_2 : v2.cell? ⟨w8.heap.size, 2, none⟩ = some (.slice za2 zn2 zc2) := (zbv2.c 2 (by decide)).1; have zbv2_3 : v2.cell? ⟨w8.heap.size, 3, none⟩ = some (.slice za3 zn3 zc3) := (zbv2.c 3 (by decide)).1; have zbv2_z := zbv2.lt) | (clear tok3; refine (H3.out _ hv2).mono ?_; rintro e v3 ⟨rfl, hv3'⟩; have hv3 := hv2.trans (hv3'.mono hv2.size); have sbv3 := sb.below hv3 sb.lt; have sbv3_0 : v3.cell? ⟨w2.heap.size, 0, none⟩ = some (.slice ra0 rn0 rc0) := (sbv3.c 0 (by decide)).1; have sbv3_1 : v3.cell? ⟨w2.heap.size, 1, none⟩ = some (.slice ra1 rn1 rc1) := (sbv3.c 1 (by decide)).1; have sbv3_2 : v3.cell? ⟨w2.heap.size, 2, none⟩ = some (.slice ra2 rn2 rc2) := (sbv3.c 2 (by decide)).1; have sbv3_3 : v3.cell? ⟨w2.heap.size, 3, none⟩ = some (.slice ra3 rn3 rc3) := (sbv3.c 3 (by decide)).1; have sbv3_z := sbv3.lt; have ubv3 := ub.below hv3 ub.lt; have ubv3_0 : v3.cell? ⟨gs, 0, none⟩ = some (.slice qa0 qn0 qc0) := (ubv3.c 0 (by decide)).1; have ubv3_1 : v3.cell? ⟨gs, 1, none⟩ = some (.slice qa1 qn1 qc1) := (ubv3.c 1 (by decide)).1; have ubv3_2 : v3.cell? ⟨gs, 2, none⟩ = some (.slice qa2 qn2 qc2) := (ubv3.c 2 (by decide)).1; have ubv3_3 : v3.cell? ⟨gs, 3, none⟩ = some (.slice qa3 qn3 qc3) := (ubv3.c 3 (by decide)).1; have ubv3_z := ubv3.lt; have tbv3 := tb.below hv3 tb.lt; have tbv3_0 : v3.cell? ⟨w7.heap.size, 0, none⟩ = some (.slice sa0 sn0 sc0) := (tbv3.c 0 (by decide)).1; have tbv3_1 : v3.cell? ⟨w7.heap.size, 1, none⟩ = some (.slice sa1 sn1 sc1) := (tbv3.c 1 (by decide)).1; have tbv3_2 : v3.cell? ⟨w7.heap.size, 2, none⟩ = some (.slice sa2 sn2 sc2) := (tbv3.c 2 (by decide)).1; have tbv3_3 : v3.cell? ⟨w7.heap.size, 3, none⟩ = some (.slice sa3 sn3 sc3) := (tbv3.c 3 (by decide)).1; have tbv3_z := tbv3.lt; have zbv3 := zb.below hv3 zb.lt; have zbv3_0 : v3.cell? ⟨w8.heap.size, 0, none⟩ = some (.slice za0 zn0 zc0) := (zbv3.c 0 (by decide)).1; have zbv3_1 : v3.cell? ⟨w8.heap.size, 1, none⟩ = some (.slice za1 zn1 zc1) := (zbv3.c 1 (by decide)).1; have zbv3_2 : v3.cell? ⟨w8.heap.size, 2, none⟩ = some (.slice za2 zn2 zc2) := (zbv3.c 2 (by decide)).1; have zbv3_3 : v3.cell? ⟨w8.heap.size, 3, none⟩ = some (.slice za3 zn3 zc3) := (zbv3.c 3 (by decide)).1; have zbv3_z := zbv3.lt) | (refine (H4.out _ hv3).mono ?_; rintro e v4 ⟨rfl, hv4'⟩; have hv4 := hv3.trans (hv4'.mono hv3.size)))
    go_ret
    exact ⟨by simp, bw.trans (hv4.mono bw.size)⟩
end Go.Proofs.YtblidomnjjmobaaDoor.Pt
/- What the listed tables of package wire hold, cell by cell, out of their reading as data. -/
namespace Go.Proofs.YtblidomnjjmobaaDoor
open Go.ChangeShapes Go.WideShapes Go.ChangeAt Go.RowKit

def bRow {H : Type} (bs : List Bool) : DataW H := .agg (bs.map fun b => .lit (.bool b))
def bTab {H : Type} (tb : List (List Bool)) : DataW H := .agg (tb.map bRow)

section
variable {H : Type} {enc : TypeId × Value → H} {W : World} {base : Nat} {sp : Nat → Bool} {held : Bool}

theorem c1b : Tryd.prog.cellsOf 4 = 1 := by kernel_rfl
theorem c8b : Tryd.prog.cellsOf 100 = 8 := by kernel_rfl

theorem row_of {fuel : Nat} {cs : List Value} {bs : List Bool} {p : List MemPlace} (hb : bs.length = 8) (h : DataW.trod enc Tryd.prog W base sp held fuel 100 cs = some (bRow bs, p)) (j : Nat) (hj : j < 8) : cs[j]? = some (.bool (bs.getD j false)) := by
  obtain ⟨xs, m, rfl, hx, hl, hn, hel⟩ := DataW.trod_array Tryd.underlying100 h
  have hxs : xs.map (·.1) = bs.map fun b => (DataW.lit (.bool b) : DataW H) := by
    have := congrArg Prod.fst hx
    simpa [bRow] using this.symm
  have h1 := hel j hj
  rw [c1b, List.getElem?_eq_getElem (by omega)] at h1
  obtain ⟨b, hc, hx1⟩ := DataW.trod_bool Tryd.underlying4 h1
  have e1 : cs[j]? = some (.bool b) := by
    have := congrArg (·[0]?) hc
    simpa [List.getElem?_take, List.getElem?_drop] using this
  have e2 : (xs.map (·.1))[j]? = some (DataW.lit (.bool b) : DataW H) := by
    rw [List.getElem?_map, List.getElem?_eq_getElem (by omega), hx1]; rfl
  rw [hxs] at e2
  have hjb : j < bs.length := by omega
  simp [hjb] at e2
  rw [e1]
  simp [List.getD, hjb, e2]

theorem tab_of {fuel n : Nat} {t : TypeId} {cs : List Value} {tb : List (List Bool)} {p : List MemPlace} (ht : Tryd.prog.underlying t = some (.array n 100)) (hn : tb.length = n) (hb : ∀ i, i < n → (tb.getD i []).length = 8) (h : DataW.trod enc Tryd.prog W base sp held fuel t cs = some (bTab tb, p)) (i j : Nat) (hi : i < n) (hj : j < 8) : cs[i * 8 + j]? = some (.bool ((tb.getD i []).getD j false)) := by
  obtain ⟨xs, m, rfl, hx, hl, hlen, hel⟩ := DataW.trod_array ht h
  have hxs : xs.map (·.1) = tb.map bRow := by
    have := congrArg Prod.fst hx
    simpa [bTab] using this.symm
  have h1 := hel i hi
  rw [c8b, List.getElem?_eq_getElem (by omega)] at h1
  have e2 : (xs.map (·.1))[i]? = (tb.map (bRow (H := H)))[i]? := by rw [hxs]
  have hit : i < tb.length := by omega
  have hix : i < xs.length := by omega
  simp [hix, hit] at e2
  obtain ⟨d, q, hxi⟩ : ∃ d q, xs[i] = (d, q) := ⟨_, _, rfl⟩
  have e3 : d = bRow (tb.getD i []) := by
    rw [hxi] at e2
    simp [List.getD, hit]
    exact e2
  rw [hxi, e3] at h1
  have := row_of (hb i hi) h1 j hj
  rw [List.getElem?_take, if_pos hj, List.getElem?_drop] at this
  exact this

theorem has_of {fuel n g : Nat} {t : TypeId} {cs : Array Value} {tb : List (List Bool)} {p : List MemPlace} {name : String} (hg : Tryd.prog.globalNamed name = some g) (hv : W.var? Tryd.prog name = some cs) (ht : Tryd.prog.underlying t = some (.array n 100)) (hn : tb.length = n) (hb : ∀ i, i < n → (tb.getD i []).length = 8)
    (h : DataW.trod enc Tryd.prog W base sp held fuel t cs.toList = some (bTab tb, p)) : HasAt W g tb := by
  intro i j hi hj
  rw [World.var?_cell hg hv, ← Array.getElem?_toList]
  exact tab_of ht hn hb h i j (by omega) hj

theorem mHas_rows : ∀ i, i < 10 → (mHas.getD i []).length = 8 := by decide
theorem rHas_rows : ∀ i, i < 7 → (rHas.getD i []).length = 8 := by decide

theorem tops_of {fuel : Nat} {cs : Array Value} {p : List MemPlace} {name : String} (hg : Tryd.prog.globalNamed name = some 1) (hv : W.var? Tryd.prog name = some cs)
    (h : DataW.trod enc Tryd.prog W base sp held fuel 92 cs.toList = some (Lib.tabData .i64 topL, p)) : TopsAt W := by
  have e := Lib.cells_of_tab Tryd.underlying92 Tryd.underlying3 (by kernel_rfl) (by kernel_rfl) h
  have c : ∀ i, W.cell? ⟨1, i, none⟩ = (topL.map fun z => Value.int .i64 z)[i]? := by
    intro i
    rw [World.var?_cell hg hv, ← Array.getElem?_toList, e]
  unfold TopsAt
  simp only [c]
  simp [topL]
end
end Go.Proofs.YtblidomnjjmobaaDoor
