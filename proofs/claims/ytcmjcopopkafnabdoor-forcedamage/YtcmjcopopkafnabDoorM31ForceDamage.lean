/- Texts of this claim, one behind the other. -/
import Derived.Test.YtcmjcopopkafnabDoorM29ForceDamage
import Derived.Test.YtcmjcopopkafnabDoorM30ForceDamage
import Derived.Test.YtcmjcopopkafnabDoorM23ForceDamage
import Derived.Lib.LaidTab
import Derived.OpenShut
/- The walk of the law ForceDamage: at any numbers it returns true and leaves what was in memory. -/
namespace Go.Proofs.YtcmjcopopkafnabDoor.Pt
open Go.ChangeShapes Go.WideShapes Go.ChangeAt Go.RowKit
open Go.Proofs.YtcmjcopopkafnabDoor.St (SV PS IsStore IsRow storeOK TxWf BoxN boxn_new OwnStore flat isOne own_isRow isRow_nil IsRaws Gd OKP cntErr cntIs endErr endData txOK wOf ofT readVal readVer readErr readData peekVal peekVer peekErr writeErr writeData stillIs refErr)
set_option linter.unusedVariables false

theorem force_two2 {r : SV} {t : Int × Int} (hok : storeOK r = true) (ht : txOK t = true) (hc : cntIs r t = 1) : forceErr 1 LS2 3 0 0 2 [r, SV.nil] 0 t = 0 := by
  have h1 : cntErr r t = 0 := by unfold cntErr; rw [hok, ht]; rfl
  unfold forceErr
  rw [if_pos (site_two hok nil_ok (by omega) (by omega))]
  show (if cntErr r t = 0 then (if cntIs r t = 0 then 6 else if 60 ≤ 0 then 8 else 0) else _) = _
  rw [if_pos h1, hc]
  rfl
theorem fresh_nil : St.Fresh SV.nil.data ((0 : Int), (1 : Int)) := ⟨fun k hk => by simp [SV.nil, SV.data] at hk, by simp [SV.nil, SV.data], fun d hd => by simp [SV.nil, SV.data] at hd, by decide⟩
theorem write_nil {KV : Int} (h0 : 0 ≤ KV) (h1 : KV < 99) : writeErr SV.nil ((0 : Int), (1 : Int)) 2 KV 1 = 0 ∧ St.Plus SV.nil.data (writeData SV.nil ((0 : Int), (1 : Int)) 2 KV 1) ⟨(0, 1), 2, true, KV, 1⟩ ∧ OKP (writeData SV.nil ((0 : Int), (1 : Int)) 2 KV 1) := by
  have ho : OKP SV.nil.data := St.OKP.of nil_ok
  have h := (St.write_fresh (s := SV.nil) (x := ((0 : Int), (1 : Int))) (k := 2) (va := KV) (ask := 1) ho (by simp [SV.nil]) fresh_nil (by decide) (St.inR_true h0 (by omega)) (by decide) (fun y hy => by simp [SV.nil] at hy)).2 (by simp [SV.nil])
  exact ⟨h.1, St.Plus.of h.2, St.write_ok h.1⟩
set_option maxRecDepth 100000 in
set_option maxHeartbeats 8000000 in
theorem forceDamage_walk (v : Int) (yes word : Bool) (w : World) (wv : (Lit.int .i64 v).wf = true) (hHa : HasAt w 0 mHas) (hTo : TopsAt w) :
    Calls Tryd.prog 3 #[.int .i64 v, .bool yes, .bool word] w fun e w' => e = .returned (.bool true) ∧ Below w.heap.size w w' := by
  have hbd : -9223372036854775808 ≤ v ∧ v ≤ 9223372036854775807 := by
    simp [Lit.wf, IntKind.min, IntKind.max, IntKind.signed, IntKind.bits] at wv
    omega
  have hkp := pk_bd v 99 (by omega)
  have hPk := fun u => picked_any v 99 u hbd (by omega) (by omega)
  obtain ⟨KV, eKV⟩ : ∃ x, x = pk v 99 := ⟨_, rfl⟩
  rw [← eKV] at hkp hPk
  clear eKV
  obtain ⟨kv0, kv9⟩ := hkp
  have hTw := fun u => two_any 0 u (by omega)
  have e03 : (1 : Int) + pk 0 3 = 1 := by decide
  rw [e03] at hTw
  clear e03 wv hbd
  have hgT : 1 < w.heap.size := World.block_lt_of_cell? w _ hTo.1
  have hgM : 0 < w.heap.size := hHa.lt (by decide)
  have KT : Hid (∀ U, Below w.heap.size w U → HasAt U 0 mHas ∧ TopsAt U) := fun U hU => ⟨hHa.below hU hgM, hTo.below hU hgT⟩
  clear hHa hTo hgT hgM
  have htx : txOK ((0 : Int), (1 : Int)) = true := by decide
  obtain ⟨hwE, hPl, hokW⟩ := write_nil kv0 kv9
  have hWt := fun U => St.write_own SV.nil ((0 : Int), (1 : Int)) 2 KV 1 U (St.isStore_nil _) (by simp [SV.nil]) (by decide)
  rw [hwE] at hWt
  obtain ⟨WD, eWD⟩ : ∃ x, x = writeData SV.nil ((0 : Int), (1 : Int)) 2 KV 1 := ⟨_, rfl⟩
  rw [← eWD] at hWt hPl hokW
  clear eWD hwE
  simp only [SV.nil, SV.val] at hWt
  have HWt : Hid (∀ U, Calls Tryd.prog 5 #[.agg #[.slice none 0 0, .slice none 0 0, .slice none 0 0, .slice none 0 0], .agg #[.int .i64 0, .int .i64 1], .int .i64 2, .int .i64 KV, .int .i64 1] U fun e w' => ∃ r : SV, e = .returned (.tuple #[r.val, .int .i64 0]) ∧ OwnStore w' U.heap.size r ∧ r.data = WD ∧ Below U.heap.size U w') := hWt
  clear hWt
  have HPl : Hid (St.Plus SV.nil.data WD ⟨(0, 1), 2, true, KV, 1⟩ ∧ OKP WD) := ⟨hPl, hokW⟩
  clear hPl hokW
  have bw : Below w.heap.size w w := Below.refl _ _
  go_enter Tryd.func3, Tryd.ntmps3
  go_upto_region 2 with (go_at_call 4; refine (hTw _).mono ?_; rintro e w1 ⟨g0, rfl, hl, hg0, hb1⟩)
  replace bw := bw.trans (hb1.mono bw.size)
  obtain ⟨X1, eX1⟩ : ∃ X : World, X = w1.alloc (.cells #[.int .i64 1, .slice (some ⟨g0, 0, none⟩) 2 2, .int .i64 3] 24) := ⟨_, rfl⟩
  have cb : BoxN X1 w1.heap.size 3 [.int .i64 1, .slice (some ⟨g0, 0, none⟩) 2 2, .int .i64 3] := by rw [eX1]; exact boxn_new w1 #[.int .i64 1, .slice (some ⟨g0, 0, none⟩) 2 2, .int .i64 3] 24 3 rfl
  have bX1 : Below w1.heap.size w1 X1 := by rw [eX1]; exact (Below.refl _ _).alloc (Nat.le_refl _) _
  rw [← eX1]
  clear eX1
  replace bw := bw.trans (bX1.mono bw.size)
  replace hl := hl.below bX1
  go_upto_region 3 with (fail)
  obtain ⟨X2, eX2⟩ : ∃ X : World, X = X1.alloc (.cells #[.int .i64 0, .int .i64 1] 27) := ⟨_, rfl⟩
  have tb : BoxN X2 X1.heap.size 2 [.int .i64 0, .int .i64 1] := by rw [eX2]; exact boxn_new X1 #[.int .i64 0, .int .i64 1] 27 2 rfl
  have bX2 : Below X1.heap.size X1 X2 := by rw [eX2]; exact (Below.refl _ _).alloc (Nat.le_refl _) _
  rw [← eX2]
  clear eX2
  replace cb := cb.below bX2 cb.lt
  replace bw := bw.trans (bX2.mono bw.size)
  replace hl := hl.below bX2
  have zt := tb.lt
  have KX : Hid (∀ U, Below X2.heap.size X2 U → U.cell? ⟨X1.heap.size, 0, none⟩ = some (.int .i64 0) ∧ U.cell? ⟨X1.heap.size, 1, none⟩ = some (.int .i64 1)) := fun U hU => by
    have h1 := tb.below hU tb.lt
    exact ⟨(h1.c 0 (by decide)).1, (h1.c 1 (by decide)).1⟩
  clear zt
  go_cut [9, 10] (fun s9 s10 wc => ∃ (g : Nat) (r : SV), s9 = .pointer (some ⟨g, 0, none⟩) ∧ s10 = .int .i64 0 ∧ BoxN wc g 4 r.box ∧ OwnStore wc X2.heap.size r ∧ r.data = WD ∧ Below X2.heap.size X2 wc)
  case first =>
    clear tb cb hl bw
    go_region_held3 (fun U => U.cell? ⟨X1.heap.size, 0, none⟩ = some (.int .i64 0) ∧ U.cell? ⟨X1.heap.size, 1, none⟩ = some (.int .i64 1))
      (exact KX.out _ (by (with_reducible repeat (first | exact Below.refl _ _ | exact hu2 | refine qD ?_ | refine qA ?_ _ | refine qS ?_ (by first | omega | (simp; done)) _)); done))
      (first | (go_at_call 6; refine (hPk _).mono ?_; rintro e u ⟨rfl, hu⟩; rw [hu]; clear hu) | (go_at_call 5; refine (HWt.out _).mono ?_; rintro e w2 ⟨⟨ra0, rn0, rc0, ra1, rn1, rc1, ra2, rn2, rc2, ra3, rn3, rc3, ri, rl, rd, ro⟩, rfl, hO2', hd2, hb2⟩; simp only [SV.val]; have hu2 : Below X2.heap.size X2 w2 := qT (by (with_reducible repeat (first | exact Below.refl _ _ | exact hu2 | refine qD ?_ | refine qA ?_ _ | refine qS ?_ (by first | omega | (simp; done)) _)); done) hb2; have zu2 := hu2.size; (first | (have bx3 : BoxN w2 X2.heap.size 4 [.slice none 0 0, .slice none 0 0, .slice none 0 0, .slice none 0 0] := (boxn_new X2.drew #[.slice none 0 0, .slice none 0 0, .slice none 0 0, .slice none 0 0] 33 4 rfl).below hb2 (by simp); have s0 : _ = some (Value.slice none 0 0) := (bx3.c 0 (by decide)).1; have g0 := (bx3.c 0 (by decide)).2; have s1 : _ = some (Value.slice none 0 0) := (bx3.c 1 (by decide)).1; have g1 := (bx3.c 1 (by decide)).2; have s2 : _ = some (Value.slice none 0 0) := (bx3.c 2 (by decide)).1; have g2 := (bx3.c 2 (by decide)).2; have s3 : _ = some (Value.slice none 0 0) := (bx3.c 3 (by decide)).1; have g3 := (bx3.c 3 (by decide)).2; have zbx3 := bx3.lt) | skip)))
    all_goals
      go_wp2_with fail
      go_meet
      case rel => first | exact ⟨_, ⟨ra0, rn0, rc0, ra1, rn1, rc1, ra2, rn2, rc2, ra3, rn3, rc3, ri, rl, rd, ro⟩, rfl, rfl, (((bx3.set 0 (by decide) (.slice ra0 rn0 rc0)).set 1 (by decide) (.slice ra1 rn1 rc1)).set 2 (by decide) (.slice ra2 rn2 rc2)).set 3 (by decide) (.slice ra3 rn3 rc3), (hO2'.four (b := X2.heap.size) (by simp) _ _ _ _).base (by simp), hd2, by (with_reducible repeat (first | exact Below.refl _ _ | exact hu2 | refine qD ?_ | refine qA ?_ _ | refine qS ?_ (by first | omega | (simp; done)) _)); done⟩ | exact ⟨_, ⟨ra0, rn0, rc0, ra1, rn1, rc1, ra2, rn2, rc2, ra3, rn3, rc3, ri, rl, rd, ro⟩, rfl, rfl, boxn_new w2 #[.slice ra0 rn0 rc0, .slice ra1 rn1 rc1, .slice ra2 rn2 rc2, .slice ra3 rn3 rc3] _ 4 rfl, (hO2'.below ((Below.refl _ _).alloc (Nat.le_refl _) _)).base (by first | omega | (simp; done) | (simp; omega)), hd2, by (with_reducible repeat (first | exact Below.refl _ _ | exact hu2 | refine qD ?_ | refine qA ?_ _ | refine qS ?_ (by first | omega | (simp; done)) _)); done⟩
  case rest =>
    obtain ⟨gs, ⟨ra0, rn0, rc0, ra1, rn1, rc1, ra2, rn2, rc2, ra3, rn3, rc3, ri, rl, rd, ro⟩, rfl, rfl, sb, hO, hd, hb3⟩ := hcut
    obtain ⟨Z, eZ⟩ : ∃ X, X = wc := ⟨_, rfl⟩
    rw [← eZ] at sb hO hb3 ⊢
    clear eZ KX HWt
    simp only [SV.box] at sb
    replace cb := cb.below hb3 cb.lt
    replace tb := tb.below hb3 tb.lt
    replace bw := bw.trans (hb3.mono bw.size)
    replace hl := hl.below hb3
    have hS := hO.isStore
    have hPl := HPl.out.1
    have hokP := HPl.out.2
    rw [← hd] at hPl hokP
    clear hO HPl
    have hokr := hokP.ok
    have hwf := St.OKP.wf hokP
    have hover : ro = [] := hPl.over
    have h4o : rn3 * 16 ≤ 140737488351232 := ol_of (s := ⟨ra0, rn0, rc0, ra1, rn1, rc1, ra2, rn2, rc2, ra3, rn3, rc3, ri, rl, rd, ro⟩) hS (k := 0) (by simp [hover]) (by omega)
    obtain ⟨hcE, hcI⟩ := St.cnt_plus fresh_nil hPl hokP
    have hver0 : ∀ y ∈ ri, y.version ≤ 1048000 := fun y hy => by have h9 : ri = [] := hPl.items; rw [h9] at hy; simp at hy
    have hFE := force_two2 (r := ⟨ra0, rn0, rc0, ra1, rn1, rc1, ra2, rn2, rc2, ra3, rn3, rc3, ri, rl, rd, ro⟩) (t := ((0 : Int), (1 : Int))) hokr htx hcI
    have hF1 := fun sa sc w' h1 h2 => force_any 1 3 (some ⟨g0, 0, none⟩) 2 2 LS2 0 0 sa 2 sc [⟨ra0, rn0, rc0, ra1, rn1, rc1, ra2, rn2, rc2, ra3, rn3, rc3, ri, rl, rd, ro⟩, SV.nil] none 0 0 [] ((0 : Int), (1 : Int)) yes w' h1 h2 (isRow_nil _ _ _) (by omega) (ov2 (r := ⟨ra0, rn0, rc0, ra1, rn1, rc1, ra2, rn2, rc2, ra3, rn3, rc3, ri, rl, rd, ro⟩) (q := SV.nil) h4o (by decide))
    have HD1 : Hid (forceD 1 LS2 3 0 0 2 [⟨ra0, rn0, rc0, ra1, rn1, rc1, ra2, rn2, rc2, ra3, rn3, rc3, ri, rl, rd, ro⟩, SV.nil] 0 [] ((0 : Int), (1 : Int)) yes = ⟨endData ⟨ra0, rn0, rc0, ra1, rn1, rc1, ra2, rn2, rc2, ra3, rn3, rc3, ri, rl, rd, ro⟩ (0, 1) yes, [], [⟨6, 0, 1, 0, 0, 0, yes⟩], [⟨0, 1, yes, false⟩]⟩) := by
      show _ = _
      unfold forceD
      rw [hFE]
      rfl
    rw [hFE] at hF1
    have HOver : Hid (ro = []) := hover
    have HVer : Hid (∀ y ∈ ri, y.version ≤ 1048000) := hver0
    clear hFE hcE hcI hPl hd hover
    simp only [] at hF1
    have cb_0 : Z.cell? ⟨w1.heap.size, 0, none⟩ = some (.int .i64 1) := (cb.c 0 (by decide)).1
    have cb_1 : Z.cell? ⟨w1.heap.size, 1, none⟩ = some (.slice (some ⟨g0, 0, none⟩) 2 2) := (cb.c 1 (by decide)).1
    have cb_2 : Z.cell? ⟨w1.heap.size, 2, none⟩ = some (.int .i64 3) := (cb.c 2 (by decide)).1
    have cb_z := cb.lt
    have sb_0 : Z.cell? ⟨gs, 0, none⟩ = some (.slice ra0 rn0 rc0) := (sb.c 0 (by decide)).1
    have sb_1 : Z.cell? ⟨gs, 1, none⟩ = some (.slice ra1 rn1 rc1) := (sb.c 1 (by decide)).1
    have sb_2 : Z.cell? ⟨gs, 2, none⟩ = some (.slice ra2 rn2 rc2) := (sb.c 2 (by decide)).1
    have sb_3 : Z.cell? ⟨gs, 3, none⟩ = some (.slice ra3 rn3 rc3) := (sb.c 3 (by decide)).1
    have sb_z := sb.lt
    have tb_0 : Z.cell? ⟨X1.heap.size, 0, none⟩ = some (.int .i64 0) := (tb.c 0 (by decide)).1
    have tb_1 : Z.cell? ⟨X1.heap.size, 1, none⟩ = some (.int .i64 1) := (tb.c 1 (by decide)).1
    have tb_z := tb.lt
    obtain ⟨Y1, eY1⟩ : ∃ X : World, X = Z.alloc (.cells #[.slice ra0 rn0 rc0, .slice ra1 rn1 rc1, .slice ra2 rn2 rc2, .slice ra3 rn3 rc3, .slice none 0 0, .slice none 0 0, .slice none 0 0, .slice none 0 0] 33) := ⟨_, rfl⟩
    have hSS : IsStores Y1 (some ⟨Z.heap.size, 0, none⟩) 2 2 [⟨ra0, rn0, rc0, ra1, rn1, rc1, ra2, rn2, rc2, ra3, rn3, rc3, ri, rl, rd, ro⟩, SV.nil] := by rw [eY1]; exact two_stores (r := ⟨ra0, rn0, rc0, ra1, rn1, rc1, ra2, rn2, rc2, ra3, rn3, rc3, ri, rl, rd, ro⟩) hS hwf
    have bY1 : Below Z.heap.size Z Y1 := by rw [eY1]; exact (Below.refl _ _).alloc (Nat.le_refl _) _
    go_upto_region 5 with (go_at_call 7; rw [← eY1]; refine (hF1 _ _ _ (hl.below bY1) hSS).mono ?_; rintro e w5 ⟨⟨⟨va0, vn0, vc0, va1, vn1, vc1, va2, vn2, vc2, va3, vn3, vc3, vi, vl, vd, vo⟩, va4, vn4, vc4, va5, vn5, vc5, va6, vn6, vc6, vms, vrs, vns⟩, rfl, hI, hd, hb5, _⟩; simp only [AnsV.val])
    clear hF1 hSS eY1
    have hc5 : Below Z.heap.size Z w5 := bY1.trans (hb5.mono bY1.size)
    clear cb_0 cb_1 cb_2 cb_z sb_0 sb_1 sb_2 sb_3 sb_z tb_0 tb_1 tb_z
    clear sb hS
    replace cb := cb.below hc5 cb.lt
    replace tb := tb.below hc5 tb.lt
    replace bw := bw.trans (hc5.mono bw.size)
    replace hl := hl.below hc5
    obtain ⟨X3, eX3⟩ : ∃ X : World, X = w5.alloc (.cells #[.slice va0 vn0 vc0, .slice va1 vn1 vc1, .slice va2 vn2 vc2, .slice va3 vn3 vc3, .slice va4 vn4 vc4, .slice va5 vn5 vc5, .slice va6 vn6 vc6] 42) := ⟨_, rfl⟩
    have ab : BoxN X3 w5.heap.size 7 [.slice va0 vn0 vc0, .slice va1 vn1 vc1, .slice va2 vn2 vc2, .slice va3 vn3 vc3, .slice va4 vn4 vc4, .slice va5 vn5 vc5, .slice va6 vn6 vc6] := by rw [eX3]; exact boxn_new w5 #[.slice va0 vn0 vc0, .slice va1 vn1 vc1, .slice va2 vn2 vc2, .slice va3 vn3 vc3, .slice va4 vn4 vc4, .slice va5 vn5 vc5, .slice va6 vn6 vc6] 42 7 rfl
    have bX3 : Below w5.heap.size w5 X3 := by rw [eX3]; exact (Below.refl _ _).alloc (Nat.le_refl _) _
    rw [← eX3]
    clear eX3
    replace cb := cb.below bX3 cb.lt
    replace tb := tb.below bX3 tb.lt
    replace bw := bw.trans (bX3.mono bw.size)
    replace hl := hl.below bX3
    replace hI := hI.below bX3
    rw [HD1.out] at hd
    have ed : SV.data ⟨va0, vn0, vc0, va1, vn1, vc1, va2, vn2, vc2, va3, vn3, vc3, vi, vl, vd, vo⟩ = endData ⟨ra0, rn0, rc0, ra1, rn1, rc1, ra2, rn2, rc2, ra3, rn3, rc3, ri, rl, rd, ro⟩ (0, 1) yes := congrArg AD.st hd
    have en : vns = [⟨0, 1, yes, false⟩] := congrArg AD.ns hd
    have hnl : vn6 = 1 := by have := hI.ns.1; simp only [] at this; rw [en] at this; exact this.symm
    clear hd HD1
    subst en
    subst hnl
    obtain ⟨hokE, hin, hno, hEE2, hED2, hlk, hovv⟩ := St.end_again (s := ⟨ra0, rn0, rc0, ra1, rn1, rc1, ra2, rn2, rc2, ra3, rn3, rc3, ri, rl, rd, ro⟩) (yes := yes) hokP htx hver0 (u := ⟨va0, vn0, vc0, va1, vn1, vc1, va2, vn2, vc2, va3, vn3, vc3, vi, vl, vd, vo⟩) ed word
    have hwfE := St.OKP.wf hokE
    have hC2 : cntIs ⟨va0, vn0, vc0, va1, vn1, vc1, va2, vn2, vc2, va3, vn3, vc3, vi, vl, vd, vo⟩ (0, 1) = 0 := cnt_end2 (s := ⟨ra0, rn0, rc0, ra1, rn1, rc1, ra2, rn2, rc2, ra3, rn3, rc3, ri, rl, rd, ro⟩) (yes := yes) (St.end_err hokP htx) ed
    have hovE : vo.length ≤ 1 := by
      rcases hovv with e | e
      · have e' : vo = ro := e
        rw [e', HOver.out]; simp
      · have e' : vo = ro ++ [(0, 1)] := e
        rw [e', HOver.out]; simp
    have holE : vn3 * 16 ≤ 140737488351232 := ol_of (s := ⟨va0, vn0, vc0, va1, vn1, vc1, va2, vn2, vc2, va3, vn3, vc3, vi, vl, vd, vo⟩) hI.st (k := 1) hovE (by omega)
    have hHr := fun sa sc na nc w' h1 h2 hN h3 h4 => hear_any 1 3 (some ⟨g0, 0, none⟩) 2 2 LS2 0 0 sa 2 sc [⟨va0, vn0, vc0, va1, vn1, vc1, va2, vn2, vc2, va3, vn3, vc3, vi, vl, vd, vo⟩, SV.nil] na 1 nc [⟨0, 1, yes, false⟩] 0 ⟨4, 0, 0, 0, 1, 0, 0, 0, 0, 0, word, 0⟩ w' h1 h2 hN (by omega) (ov2 (r := ⟨va0, vn0, vc0, va1, vn1, vc1, va2, vn2, vc2, va3, vn3, vc3, vi, vl, vd, vo⟩) (q := SV.nil) holE (by decide)) h3 h4
    have hE2 := decide_two (r := ⟨va0, vn0, vc0, va1, vn1, vc1, va2, vn2, vc2, va3, vn3, vc3, vi, vl, vd, vo⟩) (n := 1) (yes := word) hokE.ok (by omega) (by omega)
    obtain ⟨D, eD⟩ : ∃ x, x = (yes != word) := ⟨_, rfl⟩
    have HD2 : Hid (hearD 1 LS2 3 0 0 2 [⟨va0, vn0, vc0, va1, vn1, vc1, va2, vn2, vc2, va3, vn3, vc3, vi, vl, vd, vo⟩, SV.nil] [⟨0, 1, yes, false⟩] 0 ⟨4, 0, 0, 0, 1, 0, 0, 0, 0, 0, word, 0⟩ = ⟨SV.data ⟨va0, vn0, vc0, va1, vn1, vc1, va2, vn2, vc2, va3, vn3, vc3, vi, vl, vd, vo⟩, [⟨8, 0, 0, 0, 1, 0, 0, 0, 0, 0, false, 0⟩], if D then [⟨2, 0, 1, 0, 0, 0, word⟩] else [], [⟨0, 1, yes, D⟩]⟩) := by
      show _ = _
      unfold hearD
      rw [if_pos hE2]
      show decideD ⟨va0, vn0, vc0, va1, vn1, vc1, va2, vn2, vc2, va3, vn3, vc3, vi, vl, vd, vo⟩ ⟨4, 0, 0, 0, 1, 0, 0, 0, 0, 0, word, 0⟩ ⟨SV.data ⟨va0, vn0, vc0, va1, vn1, vc1, va2, vn2, vc2, va3, vn3, vc3, vi, vl, vd, vo⟩, [], [], [⟨0, 1, yes, false⟩]⟩ = _
      unfold decideD
      have e1 : cntIs ⟨va0, vn0, vc0, va1, vn1, vc1, va2, vn2, vc2, va3, vn3, vc3, vi, vl, vd, vo⟩ (mtx ⟨4, 0, 0, 0, 1, 0, 0, 0, 0, 0, word, 0⟩) = 0 := hC2
      have e2 : endData ⟨va0, vn0, vc0, va1, vn1, vc1, va2, vn2, vc2, va3, vn3, vc3, vi, vl, vd, vo⟩ (mtx ⟨4, 0, 0, 0, 1, 0, 0, 0, 0, 0, word, 0⟩) word = SV.data ⟨va0, vn0, vc0, va1, vn1, vc1, va2, vn2, vc2, va3, vn3, vc3, vi, vl, vd, vo⟩ := hED2
      simp only [e1, e2, eD]
      cases yes <;> cases word <;> rfl
    rw [hE2] at hHr
    have HDD : Hid (D = (yes != word)) := eD
    have hSa := hI.st
    have hNa := hI.ns
    simp only [] at hSa hNa
    simp only [MV.val] at hHr
    clear hI hin hno hEE2 hlk hovv holE hE2 eD hokr hwf h4o hver0
    have tb_0 : X3.cell? ⟨X1.heap.size, 0, none⟩ = some (.int .i64 0) := (tb.c 0 (by decide)).1
    have tb_1 : X3.cell? ⟨X1.heap.size, 1, none⟩ = some (.int .i64 1) := (tb.c 1 (by decide)).1
    have tb_z := tb.lt
    go_upto_region 6 with (fail)
    clear tb_0 tb_1 tb_z
    obtain ⟨X4, eX4⟩ : ∃ X : World, X = X3.alloc (.cells #[.int .i64 4, .int .i64 0, .int .i64 0, .int .i64 0, .int .i64 1, .int .i64 0, .int .i64 0, .int .i64 0, .int .i64 0, .int .i64 0, .bool word, .int .i64 0] 47) := ⟨_, rfl⟩
    have mb : BoxN X4 X3.heap.size 12 [.int .i64 4, .int .i64 0, .int .i64 0, .int .i64 0, .int .i64 1, .int .i64 0, .int .i64 0, .int .i64 0, .int .i64 0, .int .i64 0, .bool word, .int .i64 0] := by rw [eX4]; exact boxn_new X3 #[.int .i64 4, .int .i64 0, .int .i64 0, .int .i64 0, .int .i64 1, .int .i64 0, .int .i64 0, .int .i64 0, .int .i64 0, .int .i64 0, .bool word, .int .i64 0] 47 12 rfl
    have bX4 : Below X3.heap.size X3 X4 := by rw [eX4]; exact (Below.refl _ _).alloc (Nat.le_refl _) _
    rw [← eX4]
    clear eX4
    replace cb := cb.below bX4 cb.lt
    replace tb := tb.below bX4 tb.lt
    replace ab := ab.below bX4 ab.lt
    replace bw := bw.trans (bX4.mono bw.size)
    replace hl := hl.below bX4
    replace hSa := hSa.below bX4
    replace hNa := St.IsRow.below hNa bX4
    have cb_0 : X4.cell? ⟨w1.heap.size, 0, none⟩ = some (.int .i64 1) := (cb.c 0 (by decide)).1
    have cb_1 : X4.cell? ⟨w1.heap.size, 1, none⟩ = some (.slice (some ⟨g0, 0, none⟩) 2 2) := (cb.c 1 (by decide)).1
    have cb_2 : X4.cell? ⟨w1.heap.size, 2, none⟩ = some (.int .i64 3) := (cb.c 2 (by decide)).1
    have cb_z := cb.lt
    have ab_0 : X4.cell? ⟨w5.heap.size, 0, none⟩ = some (.slice va0 vn0 vc0) := (ab.c 0 (by decide)).1
    have ab_1 : X4.cell? ⟨w5.heap.size, 1, none⟩ = some (.slice va1 vn1 vc1) := (ab.c 1 (by decide)).1
    have ab_2 : X4.cell? ⟨w5.heap.size, 2, none⟩ = some (.slice va2 vn2 vc2) := (ab.c 2 (by decide)).1
    have ab_3 : X4.cell? ⟨w5.heap.size, 3, none⟩ = some (.slice va3 vn3 vc3) := (ab.c 3 (by decide)).1
    have ab_6 : X4.cell? ⟨w5.heap.size, 6, none⟩ = some (.slice va6 1 vc6) := (ab.c 6 (by decide)).1
    have ab_z := ab.lt
    have mb_0 : X4.cell? ⟨X3.heap.size, 0, none⟩ = some (.int .i64 4) := (mb.c 0 (by decide)).1
    have mb_1 : X4.cell? ⟨X3.heap.size, 1, none⟩ = some (.int .i64 0) := (mb.c 1 (by decide)).1
    have mb_2 : X4.cell? ⟨X3.heap.size, 2, none⟩ = some (.int .i64 0) := (mb.c 2 (by decide)).1
    have mb_3 : X4.cell? ⟨X3.heap.size, 3, none⟩ = some (.int .i64 0) := (mb.c 3 (by decide)).1
    have mb_4 : X4.cell? ⟨X3.heap.size, 4, none⟩ = some (.int .i64 1) := (mb.c 4 (by decide)).1
    have mb_5 : X4.cell? ⟨X3.heap.size, 5, none⟩ = some (.int .i64 0) := (mb.c 5 (by decide)).1
    have mb_6 : X4.cell? ⟨X3.heap.size, 6, none⟩ = some (.int .i64 0) := (mb.c 6 (by decide)).1
    have mb_7 : X4.cell? ⟨X3.heap.size, 7, none⟩ = some (.int .i64 0) := (mb.c 7 (by decide)).1
    have mb_8 : X4.cell? ⟨X3.heap.size, 8, none⟩ = some (.int .i64 0) := (mb.c 8 (by decide)).1
    have mb_9 : X4.cell? ⟨X3.heap.size, 9, none⟩ = some (.int .i64 0) := (mb.c 9 (by decide)).1
    have mb_10 : X4.cell? ⟨X3.heap.size, 10, none⟩ = some (.bool word) := (mb.c 10 (by decide)).1
    have mb_11 : X4.cell? ⟨X3.heap.size, 11, none⟩ = some (.int .i64 0) := (mb.c 11 (by decide)).1
    have mb_z := mb.lt
    obtain ⟨Y2, eY2⟩ : ∃ X : World, X = X4.alloc (.cells #[.slice va0 vn0 vc0, .slice va1 vn1 vc1, .slice va2 vn2 vc2, .slice va3 vn3 vc3, .slice none 0 0, .slice none 0 0, .slice none 0 0, .slice none 0 0] 33) := ⟨_, rfl⟩
    have hSS : IsStores Y2 (some ⟨X4.heap.size, 0, none⟩) 2 2 [⟨va0, vn0, vc0, va1, vn1, vc1, va2, vn2, vc2, va3, vn3, vc3, vi, vl, vd, vo⟩, SV.nil] := by rw [eY2]; exact two_stores (r := ⟨va0, vn0, vc0, va1, vn1, vc1, va2, vn2, vc2, va3, vn3, vc3, vi, vl, vd, vo⟩) hSa hwfE
    have bY2 : Below X4.heap.size X4 Y2 := by rw [eY2]; exact (Below.refl _ _).alloc (Nat.le_refl _) _
    have hKT := KT.out _ (bw.trans (bY2.mono bw.size))
    go_upto_region 7 with (go_at_call 8; rw [← eY2]; refine (hHr _ _ _ _ _ (hl.below bY2) hSS (St.IsRow.below hNa bY2) hKT.1 hKT.2).mono ?_; rintro e w6 ⟨⟨⟨ua0, un0, uc0, ua1, un1, uc1, ua2, un2, uc2, ua3, un3, uc3, ui, ul, ud, uo⟩, ua4, un4, uc4, ua5, un5, uc5, ua6, un6, uc6, ums, urs, uns⟩, rfl, hJ, hd, hb6, _⟩; simp only [AnsV.val])
    clear hHr hSS eY2 hKT
    have hc6 : Below X4.heap.size X4 w6 := bY2.trans (hb6.mono bY2.size)
    clear cb_0 cb_1 cb_2 cb_z ab_0 ab_1 ab_2 ab_3 ab_6 ab_z mb_0 mb_1 mb_2 mb_3 mb_4 mb_5 mb_6 mb_7 mb_8 mb_9 mb_10 mb_11 mb_z
    replace cb := cb.below hc6 cb.lt
    replace tb := tb.below hc6 tb.lt
    replace ab := ab.below hc6 ab.lt
    replace mb := mb.below hc6 mb.lt
    replace bw := bw.trans (hc6.mono bw.size)
    replace hl := hl.below hc6
    replace hSa := hSa.below hc6
    replace hNa := St.IsRow.below hNa hc6
    obtain ⟨X5, eX5⟩ : ∃ X : World, X = w6.alloc (.cells #[.slice ua0 un0 uc0, .slice ua1 un1 uc1, .slice ua2 un2 uc2, .slice ua3 un3 uc3, .slice ua4 un4 uc4, .slice ua5 un5 uc5, .slice ua6 un6 uc6] 42) := ⟨_, rfl⟩
    have bb : BoxN X5 w6.heap.size 7 [.slice ua0 un0 uc0, .slice ua1 un1 uc1, .slice ua2 un2 uc2, .slice ua3 un3 uc3, .slice ua4 un4 uc4, .slice ua5 un5 uc5, .slice ua6 un6 uc6] := by rw [eX5]; exact boxn_new w6 #[.slice ua0 un0 uc0, .slice ua1 un1 uc1, .slice ua2 un2 uc2, .slice ua3 un3 uc3, .slice ua4 un4 uc4, .slice ua5 un5 uc5, .slice ua6 un6 uc6] 42 7 rfl
    have bX5 : Below w6.heap.size w6 X5 := by rw [eX5]; exact (Below.refl _ _).alloc (Nat.le_refl _) _
    rw [← eX5]
    clear eX5
    replace cb := cb.below bX5 cb.lt
    replace tb := tb.below bX5 tb.lt
    replace ab := ab.below bX5 ab.lt
    replace mb := mb.below bX5 mb.lt
    replace bw := bw.trans (bX5.mono bw.size)
    replace hl := hl.below bX5
    replace hSa := hSa.below bX5
    replace hNa := St.IsRow.below hNa bX5
    replace hJ := hJ.below bX5
    rw [HD2.out] at hd
    have ed2 : SV.data ⟨ua0, un0, uc0, ua1, un1, uc1, ua2, un2, uc2, ua3, un3, uc3, ui, ul, ud, uo⟩ = SV.data ⟨va0, vn0, vc0, va1, vn1, vc1, va2, vn2, vc2, va3, vn3, vc3, vi, vl, vd, vo⟩ := congrArg AD.st hd
    have er : urs = if D then [⟨2, 0, 1, 0, 0, 0, word⟩] else [] := congrArg AD.rs hd
    have en : uns = [⟨0, 1, yes, D⟩] := congrArg AD.ns hd
    have hnl : un6 = 1 := by have := hJ.ns.1; simp only [] at this; rw [en] at this; exact this.symm
    have HRL : Hid (un5 = if D then 1 else 0) := by
      show _ = _
      have h1 : urs.length = un5 := hJ.rs.1
      rw [← h1, er]
      cases D <;> rfl
    clear hd HD2 er
    subst en
    subst hnl
    have hokU : OKP (SV.data ⟨ua0, un0, uc0, ua1, un1, uc1, ua2, un2, uc2, ua3, un3, uc3, ui, ul, ud, uo⟩) := by rw [ed2]; exact hokE
    have hwfU := St.OKP.wf hokU
    have hC3 : cntIs ⟨ua0, un0, uc0, ua1, un1, uc1, ua2, un2, uc2, ua3, un3, uc3, ui, ul, ud, uo⟩ (0, 1) = 0 := cnt_end2 (s := ⟨ra0, rn0, rc0, ra1, rn1, rc1, ra2, rn2, rc2, ra3, rn3, rc3, ri, rl, rd, ro⟩) (yes := yes) (St.end_err hokP htx) (by rw [ed2]; exact ed)
    have hED3 : endData ⟨ua0, un0, uc0, ua1, un1, uc1, ua2, un2, uc2, ua3, un3, uc3, ui, ul, ud, uo⟩ (0, 1) word = SV.data ⟨ua0, un0, uc0, ua1, un1, uc1, ua2, un2, uc2, ua3, un3, uc3, ui, ul, ud, uo⟩ := (St.end_again (s := ⟨ra0, rn0, rc0, ra1, rn1, rc1, ra2, rn2, rc2, ra3, rn3, rc3, ri, rl, rd, ro⟩) (yes := yes) hokP htx (fun y hy => HVer.out y hy) (u := ⟨ua0, un0, uc0, ua1, un1, uc1, ua2, un2, uc2, ua3, un3, uc3, ui, ul, ud, uo⟩) (by rw [ed2]; exact ed) word).2.2.2.2.1
    have hov3 : uo.length ≤ 1 := by have e9 : uo = vo := congrArg PS.over ed2; rw [e9]; exact hovE
    have holU : un3 * 16 ≤ 140737488351232 := ol_of (s := ⟨ua0, un0, uc0, ua1, un1, uc1, ua2, un2, uc2, ua3, un3, uc3, ui, ul, ud, uo⟩) hJ.st (k := 1) hov3 (by omega)
    have hHr := fun sa sc na nc w' h1 h2 hN h3 h4 => hear_any 1 3 (some ⟨g0, 0, none⟩) 2 2 LS2 0 0 sa 2 sc [⟨ua0, un0, uc0, ua1, un1, uc1, ua2, un2, uc2, ua3, un3, uc3, ui, ul, ud, uo⟩, SV.nil] na 1 nc [⟨0, 1, yes, D⟩] 0 ⟨4, 0, 0, 0, 1, 0, 0, 0, 0, 0, word, 0⟩ w' h1 h2 hN (by omega) (ov2 (r := ⟨ua0, un0, uc0, ua1, un1, uc1, ua2, un2, uc2, ua3, un3, uc3, ui, ul, ud, uo⟩) (q := SV.nil) holU (by decide)) h3 h4
    have hE3 := decide_two (r := ⟨ua0, un0, uc0, ua1, un1, uc1, ua2, un2, uc2, ua3, un3, uc3, ui, ul, ud, uo⟩) (n := 1) (yes := word) hokU.ok (by omega) (by omega)
    have HD3 : Hid ((hearD 1 LS2 3 0 0 2 [⟨ua0, un0, uc0, ua1, un1, uc1, ua2, un2, uc2, ua3, un3, uc3, ui, ul, ud, uo⟩, SV.nil] [⟨0, 1, yes, D⟩] 0 ⟨4, 0, 0, 0, 1, 0, 0, 0, 0, 0, word, 0⟩).rs = []) := by
      show _ = _
      unfold hearD
      rw [if_pos hE3]
      show (decideD ⟨ua0, un0, uc0, ua1, un1, uc1, ua2, un2, uc2, ua3, un3, uc3, ui, ul, ud, uo⟩ ⟨4, 0, 0, 0, 1, 0, 0, 0, 0, 0, word, 0⟩ ⟨SV.data ⟨ua0, un0, uc0, ua1, un1, uc1, ua2, un2, uc2, ua3, un3, uc3, ui, ul, ud, uo⟩, [], [], [⟨0, 1, yes, D⟩]⟩).rs = _
      unfold decideD
      have e1 : cntIs ⟨ua0, un0, uc0, ua1, un1, uc1, ua2, un2, uc2, ua3, un3, uc3, ui, ul, ud, uo⟩ (mtx ⟨4, 0, 0, 0, 1, 0, 0, 0, 0, 0, word, 0⟩) = 0 := hC3
      simp only [e1, HDD.out]
      cases yes <;> cases word <;> rfl
    rw [hE3] at hHr
    have hSb := hJ.st
    have hNb := hJ.ns
    simp only [] at hSb hNb
    simp only [MV.val] at hHr
    clear hJ hokU hC3 hED3 hov3 holU hE3 hokE hokP hC2 hovE hED2 ed hwfE HVer
    have cb_0 : X5.cell? ⟨w1.heap.size, 0, none⟩ = some (.int .i64 1) := (cb.c 0 (by decide)).1
    have cb_1 : X5.cell? ⟨w1.heap.size, 1, none⟩ = some (.slice (some ⟨g0, 0, none⟩) 2 2) := (cb.c 1 (by decide)).1
    have cb_2 : X5.cell? ⟨w1.heap.size, 2, none⟩ = some (.int .i64 3) := (cb.c 2 (by decide)).1
    have cb_z := cb.lt
    have bb_0 : X5.cell? ⟨w6.heap.size, 0, none⟩ = some (.slice ua0 un0 uc0) := (bb.c 0 (by decide)).1
    have bb_1 : X5.cell? ⟨w6.heap.size, 1, none⟩ = some (.slice ua1 un1 uc1) := (bb.c 1 (by decide)).1
    have bb_2 : X5.cell? ⟨w6.heap.size, 2, none⟩ = some (.slice ua2 un2 uc2) := (bb.c 2 (by decide)).1
    have bb_3 : X5.cell? ⟨w6.heap.size, 3, none⟩ = some (.slice ua3 un3 uc3) := (bb.c 3 (by decide)).1
    have bb_6 : X5.cell? ⟨w6.heap.size, 6, none⟩ = some (.slice ua6 1 uc6) := (bb.c 6 (by decide)).1
    have bb_z := bb.lt
    have mb_0 : X5.cell? ⟨X3.heap.size, 0, none⟩ = some (.int .i64 4) := (mb.c 0 (by decide)).1
    have mb_1 : X5.cell? ⟨X3.heap.size, 1, none⟩ = some (.int .i64 0) := (mb.c 1 (by decide)).1
    have mb_2 : X5.cell? ⟨X3.heap.size, 2, none⟩ = some (.int .i64 0) := (mb.c 2 (by decide)).1
    have mb_3 : X5.cell? ⟨X3.heap.size, 3, none⟩ = some (.int .i64 0) := (mb.c 3 (by decide)).1
    have mb_4 : X5.cell? ⟨X3.heap.size, 4, none⟩ = some (.int .i64 1) := (mb.c 4 (by decide)).1
    have mb_5 : X5.cell? ⟨X3.heap.size, 5, none⟩ = some (.int .i64 0) := (mb.c 5 (by decide)).1
    have mb_6 : X5.cell? ⟨X3.heap.size, 6, none⟩ = some (.int .i64 0) := (mb.c 6 (by decide)).1
    have mb_7 : X5.cell? ⟨X3.heap.size, 7, none⟩ = some (.int .i64 0) := (mb.c 7 (by decide)).1
    have mb_8 : X5.cell? ⟨X3.heap.size, 8, none⟩ = some (.int .i64 0) := (mb.c 8 (by decide)).1
    have mb_9 : X5.cell? ⟨X3.heap.size, 9, none⟩ = some (.int .i64 0) := (mb.c 9 (by decide)).1
    have mb_10 : X5.cell? ⟨X3.heap.size, 10, none⟩ = some (.bool word) := (mb.c 10 (by decide)).1
    have mb_11 : X5.cell? ⟨X3.heap.size, 11, none⟩ = some (.int .i64 0) := (mb.c 11 (by decide)).1
    have mb_z := mb.lt
    obtain ⟨Y3, eY3⟩ : ∃ X : World, X = X5.alloc (.cells #[.slice ua0 un0 uc0, .slice ua1 un1 uc1, .slice ua2 un2 uc2, .slice ua3 un3 uc3, .slice none 0 0, .slice none 0 0, .slice none 0 0, .slice none 0 0] 33) := ⟨_, rfl⟩
    have hSS : IsStores Y3 (some ⟨X5.heap.size, 0, none⟩) 2 2 [⟨ua0, un0, uc0, ua1, un1, uc1, ua2, un2, uc2, ua3, un3, uc3, ui, ul, ud, uo⟩, SV.nil] := by rw [eY3]; exact two_stores (r := ⟨ua0, un0, uc0, ua1, un1, uc1, ua2, un2, uc2, ua3, un3, uc3, ui, ul, ud, uo⟩) hSb hwfU
    have bY3 : Below X5.heap.size X5 Y3 := by rw [eY3]; exact (Below.refl _ _).alloc (Nat.le_refl _) _
    have hKT := KT.out _ (bw.trans (bY3.mono bw.size))
    go_upto_region 10 with (go_at_call 8; rw [← eY3]; refine (hHr _ _ _ _ _ (hl.below bY3) hSS (St.IsRow.below hNb bY3) hKT.1 hKT.2).mono ?_; rintro e w8 ⟨⟨⟨ya0, yn0, yc0, ya1, yn1, yc1, ya2, yn2, yc2, ya3, yn3, yc3, yi, yl, yd, yo⟩, ya4, yn4, yc4, ya5, yn5, yc5, ya6, yn6, yc6, yms, yrs, yns⟩, rfl, hQ, hd, hb8, _⟩; simp only [AnsV.val])
    clear hHr hSS eY3 hKT hwfU
    have hc8 : Below X5.heap.size X5 w8 := bY3.trans (hb8.mono bY3.size)
    clear cb_0 cb_1 cb_2 cb_z bb_0 bb_1 bb_2 bb_3 bb_6 bb_z mb_0 mb_1 mb_2 mb_3 mb_4 mb_5 mb_6 mb_7 mb_8 mb_9 mb_10 mb_11 mb_z
    replace cb := cb.below hc8 cb.lt
    replace tb := tb.below hc8 tb.lt
    replace ab := ab.below hc8 ab.lt
    replace mb := mb.below hc8 mb.lt
    replace bb := bb.below hc8 bb.lt
    replace bw := bw.trans (hc8.mono bw.size)
    replace hl := hl.below hc8
    replace hSa := hSa.below hc8
    replace hNa := St.IsRow.below hNa hc8
    replace hSb := hSb.below hc8
    replace hNb := St.IsRow.below hNb hc8
    obtain ⟨X6, eX6⟩ : ∃ X : World, X = w8.alloc (.cells #[.slice ya0 yn0 yc0, .slice ya1 yn1 yc1, .slice ya2 yn2 yc2, .slice ya3 yn3 yc3, .slice ya4 yn4 yc4, .slice ya5 yn5 yc5, .slice ya6 yn6 yc6] 42) := ⟨_, rfl⟩
    have db : BoxN X6 w8.heap.size 7 [.slice ya0 yn0 yc0, .slice ya1 yn1 yc1, .slice ya2 yn2 yc2, .slice ya3 yn3 yc3, .slice ya4 yn4 yc4, .slice ya5 yn5 yc5, .slice ya6 yn6 yc6] := by rw [eX6]; exact boxn_new w8 #[.slice ya0 yn0 yc0, .slice ya1 yn1 yc1, .slice ya2 yn2 yc2, .slice ya3 yn3 yc3, .slice ya4 yn4 yc4, .slice ya5 yn5 yc5, .slice ya6 yn6 yc6] 42 7 rfl
    have bX6 : Below w8.heap.size w8 X6 := by rw [eX6]; exact (Below.refl _ _).alloc (Nat.le_refl _) _
    rw [← eX6]
    clear eX6
    replace cb := cb.below bX6 cb.lt
    replace tb := tb.below bX6 tb.lt
    replace ab := ab.below bX6 ab.lt
    replace mb := mb.below bX6 mb.lt
    replace bb := bb.below bX6 bb.lt
    replace bw := bw.trans (bX6.mono bw.size)
    replace hl := hl.below bX6
    replace hSa := hSa.below bX6
    replace hNa := St.IsRow.below hNa bX6
    replace hSb := hSb.below bX6
    replace hNb := St.IsRow.below hNb bX6
    replace hQ := hQ.below bX6
    have er : yrs = [] := (congrArg AD.rs hd).trans HD3.out
    have hrl : yn5 = 0 := by have := hQ.rs.1; simp only [] at this; rw [er] at this; exact this.symm
    clear hd HD3 er hQ
    subst hrl
    obtain ⟨n1, no, rfl, zn1, hnc⟩ := hNb.2.2.2.2 (by omega)
    have n2 := hnc 0 (by omega) 3 (by decide)
    simp only [List.getD_cons_zero, NV.cells, List.getElem?_cons_zero, List.getElem?_cons_succ, Nat.zero_mul, Nat.add_zero] at n2
    clear hnc
    have hSm := fun U (hU : Below X6.heap.size X6 U) => St.keptStore_any ⟨va0, vn0, vc0, va1, vn1, vc1, va2, vn2, vc2, va3, vn3, vc3, vi, vl, vd, vo⟩ ⟨ua0, un0, uc0, ua1, un1, uc1, ua2, un2, uc2, ua3, un3, uc3, ui, ul, ud, uo⟩ U (hSa.below hU) (hSb.below hU) ed2.symm
    simp only [SV.val] at hSm
    have ab_0 : X6.cell? ⟨w5.heap.size, 0, none⟩ = some (.slice va0 vn0 vc0) := (ab.c 0 (by decide)).1
    have ab_1 : X6.cell? ⟨w5.heap.size, 1, none⟩ = some (.slice va1 vn1 vc1) := (ab.c 1 (by decide)).1
    have ab_2 : X6.cell? ⟨w5.heap.size, 2, none⟩ = some (.slice va2 vn2 vc2) := (ab.c 2 (by decide)).1
    have ab_3 : X6.cell? ⟨w5.heap.size, 3, none⟩ = some (.slice va3 vn3 vc3) := (ab.c 3 (by decide)).1
    have ab_z := ab.lt
    have bb_0 : X6.cell? ⟨w6.heap.size, 0, none⟩ = some (.slice ua0 un0 uc0) := (bb.c 0 (by decide)).1
    have bb_1 : X6.cell? ⟨w6.heap.size, 1, none⟩ = some (.slice ua1 un1 uc1) := (bb.c 1 (by decide)).1
    have bb_2 : X6.cell? ⟨w6.heap.size, 2, none⟩ = some (.slice ua2 un2 uc2) := (bb.c 2 (by decide)).1
    have bb_3 : X6.cell? ⟨w6.heap.size, 3, none⟩ = some (.slice ua3 un3 uc3) := (bb.c 3 (by decide)).1
    have bb_5 : X6.cell? ⟨w6.heap.size, 5, none⟩ = some (.slice ua5 un5 uc5) := (bb.c 5 (by decide)).1
    have bb_6 : X6.cell? ⟨w6.heap.size, 6, none⟩ = some (.slice (some ⟨n1, no, none⟩) 1 uc6) := (bb.c 6 (by decide)).1
    have bb_z := bb.lt
    have db_5 : X6.cell? ⟨w8.heap.size, 5, none⟩ = some (.slice ya5 0 yc5) := (db.c 5 (by decide)).1
    have db_z := db.lt
    by_cases hyw : yes = word
    · subst hyw
      have hDf : D = false := by rw [HDD.out]; simp
      subst hDf
      have hrl : un5 = 0 := by rw [HRL.out]; rfl
      subst hrl
      go_wp2_with (go_at_call 9; refine (hSm _ (Below.refl _ _)).mono ?_; rintro e w9 ⟨rfl, hb9⟩)
      all_goals
        go_ret
        exact ⟨by simp, bw.trans (hb9.mono bw.size)⟩
    · have hyw2 : (yes == word) = false := by simpa using hyw
      have hDt : D = true := by rw [HDD.out]; simpa using hyw
      subst hDt
      have hrl : un5 = 1 := by rw [HRL.out]; rfl
      subst hrl
      go_wp2_with (go_at_call 9; refine (hSm _ (Below.refl _ _)).mono ?_; rintro e w9 ⟨rfl, hb9⟩)
      all_goals
        go_ret
        exact ⟨by simp, bw.trans (hb9.mono bw.size)⟩
end Go.Proofs.YtcmjcopopkafnabDoor.Pt
/- What the listed tables of package wire hold, cell by cell, out of their reading as data. -/
namespace Go.Proofs.YtcmjcopopkafnabDoor
open Go.ChangeShapes Go.WideShapes Go.ChangeAt Go.RowKit

def bRow {H : Type} (bs : List Bool) : DataW H := .agg (bs.map fun b => .lit (.bool b))
def bTab {H : Type} (tb : List (List Bool)) : DataW H := .agg (tb.map bRow)

section
variable {H : Type} {enc : TypeId × Value → H} {W : World} {base : Nat} {sp : Nat → Bool} {held : Bool}

theorem c1b : Tryd.prog.cellsOf 4 = 1 := by kernel_rfl
theorem c8b : Tryd.prog.cellsOf 122 = 8 := by kernel_rfl

theorem row_of {fuel : Nat} {cs : List Value} {bs : List Bool} {p : List MemPlace} (hb : bs.length = 8) (h : DataW.trod enc Tryd.prog W base sp held fuel 122 cs = some (bRow bs, p)) (j : Nat) (hj : j < 8) : cs[j]? = some (.bool (bs.getD j false)) := by
  obtain ⟨xs, m, rfl, hx, hl, hn, hel⟩ := DataW.trod_array Tryd.underlying122 h
  have hxs : xs.map (·.1) = bs.map fun b => (DataW.lit (.bool b) : DataW H) := by
    have := congrArg Prod.fst hx
    simpa [bRow] using this.symm
  have h1 := hel j hj
  rw [c1b, List.getElem?_eq_getElem (by omega)] at h1
  obtain ⟨b, hc, hx1⟩ := DataW.trod_bool Tryd.underlying4 h1
  have e1 : cs[j]? = some (.bool b) := by
    have := congrArg (·[0]?) hc
    simpa [List.getElem?_take, List.getElem?_drop] using this
  have e2 : (xs.map (·.1))[j]? = some (DataW.lit (.bool b) : DataW H) := by
    rw [List.getElem?_map, List.getElem?_eq_getElem (by omega), hx1]; rfl
  rw [hxs] at e2
  have hjb : j < bs.length := by omega
  simp [hjb] at e2
  rw [e1]
  simp [List.getD, hjb, e2]

theorem tab_of {fuel n : Nat} {t : TypeId} {cs : List Value} {tb : List (List Bool)} {p : List MemPlace} (ht : Tryd.prog.underlying t = some (.array n 122)) (hn : tb.length = n) (hb : ∀ i, i < n → (tb.getD i []).length = 8) (h : DataW.trod enc Tryd.prog W base sp held fuel t cs = some (bTab tb, p)) (i j : Nat) (hi : i < n) (hj : j < 8) : cs[i * 8 + j]? = some (.bool ((tb.getD i []).getD j false)) := by
  obtain ⟨xs, m, rfl, hx, hl, hlen, hel⟩ := DataW.trod_array ht h
  have hxs : xs.map (·.1) = tb.map bRow := by
    have := congrArg Prod.fst hx
    simpa [bTab] using this.symm
  have h1 := hel i hi
  rw [c8b, List.getElem?_eq_getElem (by omega)] at h1
  have e2 : (xs.map (·.1))[i]? = (tb.map (bRow (H := H)))[i]? := by rw [hxs]
  have hit : i < tb.length := by omega
  have hix : i < xs.length := by omega
  simp [hix, hit] at e2
  obtain ⟨d, q, hxi⟩ : ∃ d q, xs[i] = (d, q) := ⟨_, _, rfl⟩
  have e3 : d = bRow (tb.getD i []) := by
    rw [hxi] at e2
    simp [List.getD, hit]
    exact e2
  rw [hxi, e3] at h1
  have := row_of (hb i hi) h1 j hj
  rw [List.getElem?_take, if_pos hj, List.getElem?_drop] at this
  exact this

theorem has_of {fuel n g : Nat} {t : TypeId} {cs : Array Value} {tb : List (List Bool)} {p : List MemPlace} {name : String} (hg : Tryd.prog.globalNamed name = some g) (hv : W.var? Tryd.prog name = some cs) (ht : Tryd.prog.underlying t = some (.array n 122)) (hn : tb.length = n) (hb : ∀ i, i < n → (tb.getD i []).length = 8)
    (h : DataW.trod enc Tryd.prog W base sp held fuel t cs.toList = some (bTab tb, p)) : HasAt W g tb := by
  intro i j hi hj
  rw [World.var?_cell hg hv, ← Array.getElem?_toList]
  exact tab_of ht hn hb h i j (by omega) hj

theorem mHas_rows : ∀ i, i < 10 → (mHas.getD i []).length = 8 := by decide
theorem rHas_rows : ∀ i, i < 7 → (rHas.getD i []).length = 8 := by decide

theorem tops_of {fuel : Nat} {cs : Array Value} {p : List MemPlace} {name : String} (hg : Tryd.prog.globalNamed name = some 1) (hv : W.var? Tryd.prog name = some cs)
    (h : DataW.trod enc Tryd.prog W base sp held fuel 115 cs.toList = some (Lib.tabData .i64 topL, p)) : TopsAt W := by
  have e := Lib.cells_of_tab Tryd.underlying115 Tryd.underlying3 (by kernel_rfl) (by kernel_rfl) h
  have c : ∀ i, W.cell? ⟨1, i, none⟩ = (topL.map fun z => Value.int .i64 z)[i]? := by
    intro i
    rw [World.var?_cell hg hv, ← Array.getElem?_toList, e]
  unfold TopsAt
  simp only [c]
  simp [topL]
end
end Go.Proofs.YtcmjcopopkafnabDoor
