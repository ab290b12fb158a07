/- Texts of this claim, one behind the other. -/
import Derived.Test.YtblidomnjjmobaaDoorM29HearDecide
import Derived.Test.YtblidomnjjmobaaDoorM23HearDecide
import Derived.Lib.LaidTab
import Derived.OpenShut
/- The walk of the law HearDecide: at any numbers it returns true and leaves what was in memory. -/
namespace Go.Proofs.YtblidomnjjmobaaDoor.Pt
open Go.ChangeShapes Go.WideShapes Go.ChangeAt Go.RowKit
open Go.Proofs.YtblidomnjjmobaaDoor.St (SV PS IsStore IsRow storeOK TxWf BoxN boxn_new OwnStore flat isOne own_isRow isRow_nil IsRaws Gd OKP cntErr cntIs endErr endData txOK wOf ofT readVal readVer readErr readData peekVal peekVer peekErr writeErr writeData stillIs refErr)
set_option linter.unusedVariables false

set_option maxRecDepth 100000 in
set_option maxHeartbeats 4000000 in
theorem hearDecide_walk (a : Option Addr) (len cap : Nat) (rs : List St.RV) (rv : St.RV) (yes : Bool) (w : World) (hr : IsRaws w a len cap rs) (hrv : rv.ok) (hHa : HasAt w 0 mHas) (hTo : TopsAt w) :
    Calls Tryd.prog 7 #[.slice a len cap, rv.val, .bool yes] w fun e w' => e = .returned (.bool true) ∧ Below w.heap.size w w' := by
  obtain ⟨wk, wa, wb, wc', wd, we⟩ := rv
  have hab := hrv.2.1
  simp only [St.RV.val] at hab ⊢
  have hkp := pk_bd wa 4 (by omega)
  have hPk := fun u => picked_any wa 4 u hab (by omega) (by omega)
  obtain ⟨KA, eKA⟩ : ∃ x, x = pk wa 4 := ⟨_, rfl⟩
  rw [← eKA] at hkp hPk
  clear eKA hrv
  obtain ⟨ka0, ka4⟩ := hkp
  have hTw := fun u => two_any 0 u (by omega)
  have e03 : (1 : Int) + pk 0 3 = 1 := by decide
  rw [e03] at hTw
  clear e03
  have hgT : 1 < w.heap.size := World.block_lt_of_cell? w _ hTo.1
  have hgM : 0 < w.heap.size := hHa.lt (by decide)
  have KT : Hid (∀ U, Below w.heap.size w U → HasAt U 0 mHas ∧ TopsAt U) := fun U hU => ⟨hHa.below hU hgM, hTo.below hU hgT⟩
  clear hHa hTo hgT hgM
  have htx : txOK ((0 : Int), 1 + KA) = true := by unfold St.txOK; rw [St.inR_true (by simp) (by simp), St.inR_true (by simp; omega) (by simp; omega)]; rfl
  have hwrap : IntKind.i64.wrap (1 + KA) = 1 + KA := by simp [IntKind.wrap, IntKind.bits, IntKind.signed]; omega
  obtain ⟨W, hW⟩ : ∃ W : World, W = w.alloc (.cells #[.int .i64 wk, .int .i64 wa, .int .i64 wb, .int .i64 wc', .int .i64 wd, .int .i64 we] 24) := ⟨_, rfl⟩
  have bw : Below w.heap.size w W := by rw [hW]; exact (Below.refl _ _).alloc (Nat.le_refl _) _
  have rb : BoxN W w.heap.size 6 [.int .i64 wk, .int .i64 wa, .int .i64 wb, .int .i64 wc', .int .i64 wd, .int .i64 we] := by rw [hW]; exact boxn_new w #[.int .i64 wk, .int .i64 wa, .int .i64 wb, .int .i64 wc', .int .i64 wd, .int .i64 we] 24 6 rfl
  replace hr := hr.below bw
  go_enter Tryd.func7, Tryd.ntmps7
  go_upto_region 1 with (fail)
  rw [← hW]
  clear hW
  go_upto_region 2 with (go_at_call 9; refine (hTw _).mono ?_; rintro e w1 ⟨g0, rfl, hl, hg0, hb1⟩)
  replace rb := rb.below hb1 rb.lt
  replace bw := bw.trans (hb1.mono bw.size)
  replace hr := hr.below hb1
  obtain ⟨X1, eX1⟩ : ∃ X : World, X = w1.alloc (.cells #[.int .i64 1, .slice (some ⟨g0, 0, none⟩) 2 2, .int .i64 3] 27) := ⟨_, rfl⟩
  have cb : BoxN X1 w1.heap.size 3 [.int .i64 1, .slice (some ⟨g0, 0, none⟩) 2 2, .int .i64 3] := by rw [eX1]; exact boxn_new w1 #[.int .i64 1, .slice (some ⟨g0, 0, none⟩) 2 2, .int .i64 3] 27 3 rfl
  have bX1 : Below w1.heap.size w1 X1 := by rw [eX1]; exact (Below.refl _ _).alloc (Nat.le_refl _) _
  rw [← eX1]
  clear eX1
  replace rb := rb.below bX1 rb.lt
  replace bw := bw.trans (bX1.mono bw.size)
  replace hr := hr.below bX1
  replace hl := hl.below bX1
  go_upto_region 3 with (go_at_call 12; refine (St.store_made a len cap rs 25 _ hr (by omega)).mono ?_; rintro e w2 ⟨⟨ra0, rn0, rc0, ra1, rn1, rc1, ra2, rn2, rc2, ra3, rn3, rc3, ri, rl, rd, ro⟩, rfl, hO, hG, hb2⟩; simp only [SV.val])
  replace rb := rb.below hb2 rb.lt
  replace cb := cb.below hb2 cb.lt
  replace bw := bw.trans (hb2.mono bw.size)
  replace hr := hr.below hb2
  replace hl := hl.below hb2
  have hS := hO.isStore
  clear hO hr
  obtain ⟨X2, eX2⟩ : ∃ X : World, X = w2.alloc (.cells #[.slice ra0 rn0 rc0, .slice ra1 rn1 rc1, .slice ra2 rn2 rc2, .slice ra3 rn3 rc3] 41) := ⟨_, rfl⟩
  have sb : BoxN X2 w2.heap.size 4 [.slice ra0 rn0 rc0, .slice ra1 rn1 rc1, .slice ra2 rn2 rc2, .slice ra3 rn3 rc3] := by rw [eX2]; exact boxn_new w2 #[.slice ra0 rn0 rc0, .slice ra1 rn1 rc1, .slice ra2 rn2 rc2, .slice ra3 rn3 rc3] 41 4 rfl
  have bX2 : Below w2.heap.size w2 X2 := by rw [eX2]; exact (Below.refl _ _).alloc (Nat.le_refl _) _
  rw [← eX2]
  clear eX2
  replace rb := rb.below bX2 rb.lt
  replace cb := cb.below bX2 cb.lt
  replace bw := bw.trans (bX2.mono bw.size)
  replace hl := hl.below bX2
  replace hS := hS.below bX2
  have rb_1 : X2.cell? ⟨w.heap.size, 1, none⟩ = some (.int .i64 wa) := (rb.c 1 (by decide)).1
  have rb_z := rb.lt
  go_upto_region 4 with (go_at_call 11; refine (hPk _).mono ?_; rintro e u ⟨rfl, hu⟩; rw [hu]; clear hu)
  clear rb_1 rb_z
  clear rb
  obtain ⟨X3, eX3⟩ : ∃ X : World, X = X2.alloc (.cells #[.int .i64 4, .int .i64 0, .int .i64 0, .int .i64 0, .int .i64 (1 + KA), .int .i64 0, .int .i64 0, .int .i64 0, .int .i64 0, .int .i64 0, .bool yes, .int .i64 0] 33) := ⟨_, rfl⟩
  have mb : BoxN X3 X2.heap.size 12 [.int .i64 4, .int .i64 0, .int .i64 0, .int .i64 0, .int .i64 (1 + KA), .int .i64 0, .int .i64 0, .int .i64 0, .int .i64 0, .int .i64 0, .bool yes, .int .i64 0] := by rw [eX3]; exact boxn_new X2 #[.int .i64 4, .int .i64 0, .int .i64 0, .int .i64 0, .int .i64 (1 + KA), .int .i64 0, .int .i64 0, .int .i64 0, .int .i64 0, .int .i64 0, .bool yes, .int .i64 0] 33 12 rfl
  have bX3 : Below X2.heap.size X2 X3 := by rw [eX3]; exact (Below.refl _ _).alloc (Nat.le_refl _) _
  rw [← eX3]
  clear eX3
  replace cb := cb.below bX3 cb.lt
  replace sb := sb.below bX3 sb.lt
  replace bw := bw.trans (bX3.mono bw.size)
  replace hl := hl.below bX3
  replace hS := hS.below bX3
  have hok : storeOK ⟨ra0, rn0, rc0, ra1, rn1, rc1, ra2, rn2, rc2, ra3, rn3, rc3, ri, rl, rd, ro⟩ = true := hG.ok.ok
  have hwf := hG.wf
  have h4o := hG.h4 hS
  have hver : ∀ y ∈ ri, y.version ≤ 1048000 := fun y hy => by have := hG.ver y hy; omega
  have hHr := fun sa sc w' h1 h2 h3 h4 => hear_any 1 3 (some ⟨g0, 0, none⟩) 2 2 LS2 0 0 sa 2 sc [⟨ra0, rn0, rc0, ra1, rn1, rc1, ra2, rn2, rc2, ra3, rn3, rc3, ri, rl, rd, ro⟩, SV.nil] none 0 0 [] 0 ⟨4, 0, 0, 0, 1 + KA, 0, 0, 0, 0, 0, yes, 0⟩ w' h1 h2 (isRow_nil _ _ _) (by omega) (ov2 (r := ⟨ra0, rn0, rc0, ra1, rn1, rc1, ra2, rn2, rc2, ra3, rn3, rc3, ri, rl, rd, ro⟩) (q := SV.nil) h4o (by decide)) h3 h4
  have hE1 := decide_two (r := ⟨ra0, rn0, rc0, ra1, rn1, rc1, ra2, rn2, rc2, ra3, rn3, rc3, ri, rl, rd, ro⟩) (n := 1 + KA) (yes := yes) hok (by omega) (by omega)
  have HD1 : Hid (hearD 1 LS2 3 0 0 2 [⟨ra0, rn0, rc0, ra1, rn1, rc1, ra2, rn2, rc2, ra3, rn3, rc3, ri, rl, rd, ro⟩, SV.nil] [] 0 ⟨4, 0, 0, 0, 1 + KA, 0, 0, 0, 0, 0, yes, 0⟩ = ⟨endData ⟨ra0, rn0, rc0, ra1, rn1, rc1, ra2, rn2, rc2, ra3, rn3, rc3, ri, rl, rd, ro⟩ (0, 1 + KA) yes, [⟨8, 0, 0, 0, 1 + KA, 0, 0, 0, 0, 0, false, 0⟩], if decide (0 < cntIs ⟨ra0, rn0, rc0, ra1, rn1, rc1, ra2, rn2, rc2, ra3, rn3, rc3, ri, rl, rd, ro⟩ (0, 1 + KA)) then [⟨2, 0, 1 + KA, 0, 0, 0, yes⟩] else [], []⟩) := by
    show _ = _
    unfold hearD
    rw [if_pos hE1]
    rfl
  rw [hE1] at hHr
  have hWr := fun u h1 => St.writes_count ⟨ra0, rn0, rc0, ra1, rn1, rc1, ra2, rn2, rc2, ra3, rn3, rc3, ri, rl, rd, ro⟩ (0, 1 + KA) u h1 hwf
  have hcE : cntErr ⟨ra0, rn0, rc0, ra1, rn1, rc1, ra2, rn2, rc2, ra3, rn3, rc3, ri, rl, rd, ro⟩ (0, 1 + KA) = 0 := St.end_err (yes := yes) hG.ok htx
  rw [hcE] at hWr
  obtain ⟨cn0, cn1⟩ := cnt_nn ⟨ra0, rn0, rc0, ra1, rn1, rc1, ra2, rn2, rc2, ra3, rn3, rc3, ri, rl, rd, ro⟩ (0, 1 + KA)
  have hcn := hG.locks20
  have HCN : Hid (cntIs ⟨ra0, rn0, rc0, ra1, rn1, rc1, ra2, rn2, rc2, ra3, rn3, rc3, ri, rl, rd, ro⟩ (0, 1 + KA) ≤ 20) := by show _ ≤ _; simp only [SV.data] at hcn; simp only [] at cn1; omega
  obtain ⟨ED, eED⟩ : ∃ x, x = endData ⟨ra0, rn0, rc0, ra1, rn1, rc1, ra2, rn2, rc2, ra3, rn3, rc3, ri, rl, rd, ro⟩ (0, 1 + KA) yes := ⟨_, rfl⟩
  have HED : Hid (ED = endData ⟨ra0, rn0, rc0, ra1, rn1, rc1, ra2, rn2, rc2, ra3, rn3, rc3, ri, rl, rd, ro⟩ (0, 1 + KA) yes) := eED
  obtain ⟨CI, eCI⟩ : ∃ x, x = cntIs ⟨ra0, rn0, rc0, ra1, rn1, rc1, ra2, rn2, rc2, ra3, rn3, rc3, ri, rl, rd, ro⟩ (0, 1 + KA) := ⟨_, rfl⟩
  rw [← eCI] at hWr HD1 cn0 HCN
  rw [← eED] at HD1
  clear eED eCI cn1 hcn
  simp only [SV.val, MV.val] at hWr hHr
  have cb_0 : X3.cell? ⟨w1.heap.size, 0, none⟩ = some (.int .i64 1) := (cb.c 0 (by decide)).1
  have cb_1 : X3.cell? ⟨w1.heap.size, 1, none⟩ = some (.slice (some ⟨g0, 0, none⟩) 2 2) := (cb.c 1 (by decide)).1
  have cb_2 : X3.cell? ⟨w1.heap.size, 2, none⟩ = some (.int .i64 3) := (cb.c 2 (by decide)).1
  have cb_z := cb.lt
  have sb_0 : X3.cell? ⟨w2.heap.size, 0, none⟩ = some (.slice ra0 rn0 rc0) := (sb.c 0 (by decide)).1
  have sb_1 : X3.cell? ⟨w2.heap.size, 1, none⟩ = some (.slice ra1 rn1 rc1) := (sb.c 1 (by decide)).1
  have sb_2 : X3.cell? ⟨w2.heap.size, 2, none⟩ = some (.slice ra2 rn2 rc2) := (sb.c 2 (by decide)).1
  have sb_3 : X3.cell? ⟨w2.heap.size, 3, none⟩ = some (.slice ra3 rn3 rc3) := (sb.c 3 (by decide)).1
  have sb_z := sb.lt
  have mb_0 : X3.cell? ⟨X2.heap.size, 0, none⟩ = some (.int .i64 4) := (mb.c 0 (by decide)).1
  have mb_1 : X3.cell? ⟨X2.heap.size, 1, none⟩ = some (.int .i64 0) := (mb.c 1 (by decide)).1
  have mb_2 : X3.cell? ⟨X2.heap.size, 2, none⟩ = some (.int .i64 0) := (mb.c 2 (by decide)).1
  have mb_3 : X3.cell? ⟨X2.heap.size, 3, none⟩ = some (.int .i64 0) := (mb.c 3 (by decide)).1
  have mb_4 : X3.cell? ⟨X2.heap.size, 4, none⟩ = some (.int .i64 (1 + KA)) := (mb.c 4 (by decide)).1
  have mb_5 : X3.cell? ⟨X2.heap.size, 5, none⟩ = some (.int .i64 0) := (mb.c 5 (by decide)).1
  have mb_6 : X3.cell? ⟨X2.heap.size, 6, none⟩ = some (.int .i64 0) := (mb.c 6 (by decide)).1
  have mb_7 : X3.cell? ⟨X2.heap.size, 7, none⟩ = some (.int .i64 0) := (mb.c 7 (by decide)).1
  have mb_8 : X3.cell? ⟨X2.heap.size, 8, none⟩ = some (.int .i64 0) := (mb.c 8 (by decide)).1
  have mb_9 : X3.cell? ⟨X2.heap.size, 9, none⟩ = some (.int .i64 0) := (mb.c 9 (by decide)).1
  have mb_10 : X3.cell? ⟨X2.heap.size, 10, none⟩ = some (.bool yes) := (mb.c 10 (by decide)).1
  have mb_11 : X3.cell? ⟨X2.heap.size, 11, none⟩ = some (.int .i64 0) := (mb.c 11 (by decide)).1
  have mb_z := mb.lt
  obtain ⟨Y1, eY1⟩ : ∃ X : World, X = X3.alloc (.cells #[.slice ra0 rn0 rc0, .slice ra1 rn1 rc1, .slice ra2 rn2 rc2, .slice ra3 rn3 rc3, .slice none 0 0, .slice none 0 0, .slice none 0 0, .slice none 0 0] 41) := ⟨_, rfl⟩
  have hSS : IsStores Y1 (some ⟨X3.heap.size, 0, none⟩) 2 2 [⟨ra0, rn0, rc0, ra1, rn1, rc1, ra2, rn2, rc2, ra3, rn3, rc3, ri, rl, rd, ro⟩, SV.nil] := by rw [eY1]; exact two_stores (r := ⟨ra0, rn0, rc0, ra1, rn1, rc1, ra2, rn2, rc2, ra3, rn3, rc3, ri, rl, rd, ro⟩) hS hwf
  have bY1 : Below X3.heap.size X3 Y1 := by rw [eY1]; exact (Below.refl _ _).alloc (Nat.le_refl _) _
  have hKT := KT.out _ (bw.trans (bY1.mono bw.size))
  go_upto_region 5 with (go_at_call 13; rw [← eY1]; refine (hHr _ _ _ (hl.below bY1) hSS hKT.1 hKT.2).mono ?_; rintro e w5 ⟨⟨⟨va0, vn0, vc0, va1, vn1, vc1, va2, vn2, vc2, va3, vn3, vc3, vi, vl, vd, vo⟩, va4, vn4, vc4, va5, vn5, vc5, va6, vn6, vc6, vms, vrs, vns⟩, rfl, hI, hd, hb5, _⟩; simp only [AnsV.val])
  clear hHr hSS eY1 hKT
  have hc5 : Below X3.heap.size X3 w5 := bY1.trans (hb5.mono bY1.size)
  clear cb_0 cb_1 cb_2 cb_z sb_0 sb_1 sb_2 sb_3 sb_z mb_0 mb_1 mb_2 mb_3 mb_4 mb_5 mb_6 mb_7 mb_8 mb_9 mb_10 mb_11 mb_z
  replace cb := cb.below hc5 cb.lt
  replace sb := sb.below hc5 sb.lt
  replace mb := mb.below hc5 mb.lt
  replace bw := bw.trans (hc5.mono bw.size)
  replace hl := hl.below hc5
  replace hS := hS.below hc5
  obtain ⟨X4, eX4⟩ : ∃ X : World, X = w5.alloc (.cells #[.slice va0 vn0 vc0, .slice va1 vn1 vc1, .slice va2 vn2 vc2, .slice va3 vn3 vc3, .slice va4 vn4 vc4, .slice va5 vn5 vc5, .slice va6 vn6 vc6] 48) := ⟨_, rfl⟩
  have ab : BoxN X4 w5.heap.size 7 [.slice va0 vn0 vc0, .slice va1 vn1 vc1, .slice va2 vn2 vc2, .slice va3 vn3 vc3, .slice va4 vn4 vc4, .slice va5 vn5 vc5, .slice va6 vn6 vc6] := by rw [eX4]; exact boxn_new w5 #[.slice va0 vn0 vc0, .slice va1 vn1 vc1, .slice va2 vn2 vc2, .slice va3 vn3 vc3, .slice va4 vn4 vc4, .slice va5 vn5 vc5, .slice va6 vn6 vc6] 48 7 rfl
  have bX4 : Below w5.heap.size w5 X4 := by rw [eX4]; exact (Below.refl _ _).alloc (Nat.le_refl _) _
  rw [← eX4]
  clear eX4
  replace cb := cb.below bX4 cb.lt
  replace sb := sb.below bX4 sb.lt
  replace mb := mb.below bX4 mb.lt
  replace bw := bw.trans (bX4.mono bw.size)
  replace hl := hl.below bX4
  replace hS := hS.below bX4
  replace hI := hI.below bX4
  rw [HD1.out] at hd
  have ed : SV.data ⟨va0, vn0, vc0, va1, vn1, vc1, va2, vn2, vc2, va3, vn3, vc3, vi, vl, vd, vo⟩ = ED := congrArg AD.st hd
  have em : vms = [⟨8, 0, 0, 0, 1 + KA, 0, 0, 0, 0, 0, false, 0⟩] := congrArg AD.ms hd
  have er : vrs = if decide (0 < CI) then [⟨2, 0, 1 + KA, 0, 0, 0, yes⟩] else [] := congrArg AD.rs hd
  have hml : vn4 = 1 := by have := hI.ms.1; simp only [] at this; rw [em] at this; exact this.symm
  have HRL : Hid (vn5 = if 0 < CI then 1 else 0) := by
    show _ = _
    have h1 : vrs.length = vn5 := hI.rs.1
    rw [← h1, er]
    by_cases h : 0 < CI <;> simp [h]
  clear er hd HD1
  subst em
  subst hml
  obtain ⟨hokE, hin, hno, hEE2, hED2, hlk, hovv⟩ := St.end_again (s := ⟨ra0, rn0, rc0, ra1, rn1, rc1, ra2, rn2, rc2, ra3, rn3, rc3, ri, rl, rd, ro⟩) (yes := yes) hG.ok htx hver (u := ⟨va0, vn0, vc0, va1, vn1, vc1, va2, vn2, vc2, va3, vn3, vc3, vi, vl, vd, vo⟩) (by rw [ed]; exact HED.out) yes
  have hwfE := St.OKP.wf hokE
  have hC2 : cntIs ⟨va0, vn0, vc0, va1, vn1, vc1, va2, vn2, vc2, va3, vn3, vc3, vi, vl, vd, vo⟩ (0, 1 + KA) = 0 := cnt_end2 (s := ⟨ra0, rn0, rc0, ra1, rn1, rc1, ra2, rn2, rc2, ra3, rn3, rc3, ri, rl, rd, ro⟩) (yes := yes) (St.end_err hG.ok htx) (by rw [ed]; exact HED.out)
  have holE : vn3 * 16 ≤ 140737488351232 := by
    refine ol_of (s := ⟨va0, vn0, vc0, va1, vn1, vc1, va2, vn2, vc2, va3, vn3, vc3, vi, vl, vd, vo⟩) hI.st (k := 5) ?_ (by omega)
    have h4 := hG.over4
    simp only [SV.data] at h4
    rcases hovv with e | e
    · rw [e]; exact Nat.le_trans h4 (by omega)
    · rw [e]; simp; omega
  have hHr := fun sa sc w' h1 h2 h3 h4 => hear_any 1 3 (some ⟨g0, 0, none⟩) 2 2 LS2 0 0 sa 2 sc [⟨va0, vn0, vc0, va1, vn1, vc1, va2, vn2, vc2, va3, vn3, vc3, vi, vl, vd, vo⟩, SV.nil] none 0 0 [] 0 ⟨4, 0, 0, 0, 1 + KA, 0, 0, 0, 0, 0, yes, 0⟩ w' h1 h2 (isRow_nil _ _ _) (by omega) (ov2 (r := ⟨va0, vn0, vc0, va1, vn1, vc1, va2, vn2, vc2, va3, vn3, vc3, vi, vl, vd, vo⟩) (q := SV.nil) holE (by decide)) h3 h4
  have hE2 := decide_two (r := ⟨va0, vn0, vc0, va1, vn1, vc1, va2, vn2, vc2, va3, vn3, vc3, vi, vl, vd, vo⟩) (n := 1 + KA) (yes := yes) hokE.ok (by omega) (by omega)
  have HD2 : Hid (hearD 1 LS2 3 0 0 2 [⟨va0, vn0, vc0, va1, vn1, vc1, va2, vn2, vc2, va3, vn3, vc3, vi, vl, vd, vo⟩, SV.nil] [] 0 ⟨4, 0, 0, 0, 1 + KA, 0, 0, 0, 0, 0, yes, 0⟩ = ⟨SV.data ⟨va0, vn0, vc0, va1, vn1, vc1, va2, vn2, vc2, va3, vn3, vc3, vi, vl, vd, vo⟩, [⟨8, 0, 0, 0, 1 + KA, 0, 0, 0, 0, 0, false, 0⟩], [], []⟩) := by
    show _ = _
    unfold hearD
    rw [if_pos hE2]
    show decideD ⟨va0, vn0, vc0, va1, vn1, vc1, va2, vn2, vc2, va3, vn3, vc3, vi, vl, vd, vo⟩ ⟨4, 0, 0, 0, 1 + KA, 0, 0, 0, 0, 0, yes, 0⟩ ⟨SV.data ⟨va0, vn0, vc0, va1, vn1, vc1, va2, vn2, vc2, va3, vn3, vc3, vi, vl, vd, vo⟩, [], [], []⟩ = _
    unfold decideD
    have e1 : cntIs ⟨va0, vn0, vc0, va1, vn1, vc1, va2, vn2, vc2, va3, vn3, vc3, vi, vl, vd, vo⟩ (mtx ⟨4, 0, 0, 0, 1 + KA, 0, 0, 0, 0, 0, yes, 0⟩) = 0 := hC2
    have e2 : endData ⟨va0, vn0, vc0, va1, vn1, vc1, va2, vn2, vc2, va3, vn3, vc3, vi, vl, vd, vo⟩ (mtx ⟨4, 0, 0, 0, 1 + KA, 0, 0, 0, 0, 0, yes, 0⟩) yes = SV.data ⟨va0, vn0, vc0, va1, vn1, vc1, va2, vn2, vc2, va3, vn3, vc3, vi, vl, vd, vo⟩ := hED2
    rw [e1, e2]
    rfl
  rw [hE2] at hHr
  have hSa := hI.st
  have hMa := hI.ms
  simp only [] at hSa hMa
  simp only [MV.val] at hHr
  clear hI hokE hin hno hEE2 hED2 hlk hovv hC2 holE hG hver hok hwf h4o hcE htx hE1 hE2 ed HED
  have cb_0 : X4.cell? ⟨w1.heap.size, 0, none⟩ = some (.int .i64 1) := (cb.c 0 (by decide)).1
  have cb_1 : X4.cell? ⟨w1.heap.size, 1, none⟩ = some (.slice (some ⟨g0, 0, none⟩) 2 2) := (cb.c 1 (by decide)).1
  have cb_2 : X4.cell? ⟨w1.heap.size, 2, none⟩ = some (.int .i64 3) := (cb.c 2 (by decide)).1
  have cb_z := cb.lt
  have ab_0 : X4.cell? ⟨w5.heap.size, 0, none⟩ = some (.slice va0 vn0 vc0) := (ab.c 0 (by decide)).1
  have ab_1 : X4.cell? ⟨w5.heap.size, 1, none⟩ = some (.slice va1 vn1 vc1) := (ab.c 1 (by decide)).1
  have ab_2 : X4.cell? ⟨w5.heap.size, 2, none⟩ = some (.slice va2 vn2 vc2) := (ab.c 2 (by decide)).1
  have ab_3 : X4.cell? ⟨w5.heap.size, 3, none⟩ = some (.slice va3 vn3 vc3) := (ab.c 3 (by decide)).1
  have ab_z := ab.lt
  have mb_0 : X4.cell? ⟨X2.heap.size, 0, none⟩ = some (.int .i64 4) := (mb.c 0 (by decide)).1
  have mb_1 : X4.cell? ⟨X2.heap.size, 1, none⟩ = some (.int .i64 0) := (mb.c 1 (by decide)).1
  have mb_2 : X4.cell? ⟨X2.heap.size, 2, none⟩ = some (.int .i64 0) := (mb.c 2 (by decide)).1
  have mb_3 : X4.cell? ⟨X2.heap.size, 3, none⟩ = some (.int .i64 0) := (mb.c 3 (by decide)).1
  have mb_4 : X4.cell? ⟨X2.heap.size, 4, none⟩ = some (.int .i64 (1 + KA)) := (mb.c 4 (by decide)).1
  have mb_5 : X4.cell? ⟨X2.heap.size, 5, none⟩ = some (.int .i64 0) := (mb.c 5 (by decide)).1
  have mb_6 : X4.cell? ⟨X2.heap.size, 6, none⟩ = some (.int .i64 0) := (mb.c 6 (by decide)).1
  have mb_7 : X4.cell? ⟨X2.heap.size, 7, none⟩ = some (.int .i64 0) := (mb.c 7 (by decide)).1
  have mb_8 : X4.cell? ⟨X2.heap.size, 8, none⟩ = some (.int .i64 0) := (mb.c 8 (by decide)).1
  have mb_9 : X4.cell? ⟨X2.heap.size, 9, none⟩ = some (.int .i64 0) := (mb.c 9 (by decide)).1
  have mb_10 : X4.cell? ⟨X2.heap.size, 10, none⟩ = some (.bool yes) := (mb.c 10 (by decide)).1
  have mb_11 : X4.cell? ⟨X2.heap.size, 11, none⟩ = some (.int .i64 0) := (mb.c 11 (by decide)).1
  have mb_z := mb.lt
  obtain ⟨Y2, eY2⟩ : ∃ X : World, X = X4.alloc (.cells #[.slice va0 vn0 vc0, .slice va1 vn1 vc1, .slice va2 vn2 vc2, .slice va3 vn3 vc3, .slice none 0 0, .slice none 0 0, .slice none 0 0, .slice none 0 0] 41) := ⟨_, rfl⟩
  have hSS : IsStores Y2 (some ⟨X4.heap.size, 0, none⟩) 2 2 [⟨va0, vn0, vc0, va1, vn1, vc1, va2, vn2, vc2, va3, vn3, vc3, vi, vl, vd, vo⟩, SV.nil] := by rw [eY2]; exact two_stores (r := ⟨va0, vn0, vc0, va1, vn1, vc1, va2, vn2, vc2, va3, vn3, vc3, vi, vl, vd, vo⟩) hSa hwfE
  have bY2 : Below X4.heap.size X4 Y2 := by rw [eY2]; exact (Below.refl _ _).alloc (Nat.le_refl _) _
  have hKT := KT.out _ (bw.trans (bY2.mono bw.size))
  go_upto_region 6 with (go_at_call 13; rw [← eY2]; refine (hHr _ _ _ (hl.below bY2) hSS hKT.1 hKT.2).mono ?_; rintro e w6 ⟨⟨⟨ua0, un0, uc0, ua1, un1, uc1, ua2, un2, uc2, ua3, un3, uc3, ui, ul, ud, uo⟩, ua4, un4, uc4, ua5, un5, uc5, ua6, un6, uc6, ums, urs, uns⟩, rfl, hJ, hd, hb6, _⟩; simp only [AnsV.val])
  clear hHr hSS eY2 hKT hwfE
  have hc6 : Below X4.heap.size X4 w6 := bY2.trans (hb6.mono bY2.size)
  clear cb_0 cb_1 cb_2 cb_z ab_0 ab_1 ab_2 ab_3 ab_z mb_0 mb_1 mb_2 mb_3 mb_4 mb_5 mb_6 mb_7 mb_8 mb_9 mb_10 mb_11 mb_z
  replace cb := cb.below hc6 cb.lt
  replace sb := sb.below hc6 sb.lt
  replace mb := mb.below hc6 mb.lt
  replace ab := ab.below hc6 ab.lt
  replace bw := bw.trans (hc6.mono bw.size)
  replace hl := hl.below hc6
  replace hS := hS.below hc6
  replace hSa := hSa.below hc6
  replace hMa := St.IsRow.below hMa hc6
  obtain ⟨X5, eX5⟩ : ∃ X : World, X = w6.alloc (.cells #[.slice ua0 un0 uc0, .slice ua1 un1 uc1, .slice ua2 un2 uc2, .slice ua3 un3 uc3, .slice ua4 un4 uc4, .slice ua5 un5 uc5, .slice ua6 un6 uc6] 48) := ⟨_, rfl⟩
  have bb : BoxN X5 w6.heap.size 7 [.slice ua0 un0 uc0, .slice ua1 un1 uc1, .slice ua2 un2 uc2, .slice ua3 un3 uc3, .slice ua4 un4 uc4, .slice ua5 un5 uc5, .slice ua6 un6 uc6] := by rw [eX5]; exact boxn_new w6 #[.slice ua0 un0 uc0, .slice ua1 un1 uc1, .slice ua2 un2 uc2, .slice ua3 un3 uc3, .slice ua4 un4 uc4, .slice ua5 un5 uc5, .slice ua6 un6 uc6] 48 7 rfl
  have bX5 : Below w6.heap.size w6 X5 := by rw [eX5]; exact (Below.refl _ _).alloc (Nat.le_refl _) _
  rw [← eX5]
  clear eX5
  replace cb := cb.below bX5 cb.lt
  replace sb := sb.below bX5 sb.lt
  replace mb := mb.below bX5 mb.lt
  replace ab := ab.below bX5 ab.lt
  replace bw := bw.trans (bX5.mono bw.size)
  replace hl := hl.below bX5
  replace hS := hS.below bX5
  replace hSa := hSa.below bX5
  replace hMa := St.IsRow.below hMa bX5
  replace hJ := hJ.below bX5
  rw [HD2.out] at hd
  have ed2 : SV.data ⟨ua0, un0, uc0, ua1, un1, uc1, ua2, un2, uc2, ua3, un3, uc3, ui, ul, ud, uo⟩ = SV.data ⟨va0, vn0, vc0, va1, vn1, vc1, va2, vn2, vc2, va3, vn3, vc3, vi, vl, vd, vo⟩ := congrArg AD.st hd
  have em : ums = [⟨8, 0, 0, 0, 1 + KA, 0, 0, 0, 0, 0, false, 0⟩] := congrArg AD.ms hd
  have er : urs = [] := congrArg AD.rs hd
  have hml : un4 = 1 := by have := hJ.ms.1; simp only [] at this; rw [em] at this; exact this.symm
  have hrl : un5 = 0 := by have := hJ.rs.1; simp only [] at this; rw [er] at this; exact this.symm
  clear hd HD2
  subst em
  subst er
  subst hml
  subst hrl
  have hSb := hJ.st
  have hMb := hJ.ms
  simp only [] at hSb hMb
  clear hJ
  have sb_0 : X5.cell? ⟨w2.heap.size, 0, none⟩ = some (.slice ra0 rn0 rc0) := (sb.c 0 (by decide)).1
  have sb_1 : X5.cell? ⟨w2.heap.size, 1, none⟩ = some (.slice ra1 rn1 rc1) := (sb.c 1 (by decide)).1
  have sb_2 : X5.cell? ⟨w2.heap.size, 2, none⟩ = some (.slice ra2 rn2 rc2) := (sb.c 2 (by decide)).1
  have sb_3 : X5.cell? ⟨w2.heap.size, 3, none⟩ = some (.slice ra3 rn3 rc3) := (sb.c 3 (by decide)).1
  have sb_z := sb.lt
  have mb_3 : X5.cell? ⟨X2.heap.size, 3, none⟩ = some (.int .i64 0) := (mb.c 3 (by decide)).1
  have mb_4 : X5.cell? ⟨X2.heap.size, 4, none⟩ = some (.int .i64 (1 + KA)) := (mb.c 4 (by decide)).1
  have mb_z := mb.lt
  go_upto_region 7 with (go_at_call 22; refine (hWr _ hS).mono ?_; rintro e w7 ⟨rfl, hb7⟩)
  clear hWr
  clear sb_0 sb_1 sb_2 sb_3 sb_z mb_3 mb_4 mb_z
  replace cb := cb.below hb7 cb.lt
  replace sb := sb.below hb7 sb.lt
  replace mb := mb.below hb7 mb.lt
  replace ab := ab.below hb7 ab.lt
  replace bb := bb.below hb7 bb.lt
  replace bw := bw.trans (hb7.mono bw.size)
  replace hl := hl.below hb7
  replace hS := hS.below hb7
  replace hSa := hSa.below hb7
  replace hMa := St.IsRow.below hMa hb7
  replace hSb := hSb.below hb7
  replace hMb := St.IsRow.below hMb hb7
  have ab_4 : w7.cell? ⟨w5.heap.size, 4, none⟩ = some (.slice va4 1 vc4) := (ab.c 4 (by decide)).1
  have ab_z := ab.lt
  have bb_4 : w7.cell? ⟨w6.heap.size, 4, none⟩ = some (.slice ua4 1 uc4) := (bb.c 4 (by decide)).1
  have bb_z := bb.lt
  obtain ⟨m1, mo, rfl, zm1, hmc⟩ := hMa.2.2.2.2 (by omega)
  obtain ⟨n1, no, rfl, zn1, hnc⟩ := hMb.2.2.2.2 (by omega)
  have p0 := hmc 0 (by omega) 0 (by decide)
  have q0 := hnc 0 (by omega) 0 (by decide)
  have p1 := hmc 0 (by omega) 1 (by decide)
  have q1 := hnc 0 (by omega) 1 (by decide)
  have p2 := hmc 0 (by omega) 2 (by decide)
  have q2 := hnc 0 (by omega) 2 (by decide)
  have p3 := hmc 0 (by omega) 3 (by decide)
  have q3 := hnc 0 (by omega) 3 (by decide)
  have p4 := hmc 0 (by omega) 4 (by decide)
  have q4 := hnc 0 (by omega) 4 (by decide)
  have p5 := hmc 0 (by omega) 5 (by decide)
  have q5 := hnc 0 (by omega) 5 (by decide)
  have p6 := hmc 0 (by omega) 6 (by decide)
  have q6 := hnc 0 (by omega) 6 (by decide)
  have p7 := hmc 0 (by omega) 7 (by decide)
  have q7 := hnc 0 (by omega) 7 (by decide)
  have p8 := hmc 0 (by omega) 8 (by decide)
  have q8 := hnc 0 (by omega) 8 (by decide)
  have p9 := hmc 0 (by omega) 9 (by decide)
  have q9 := hnc 0 (by omega) 9 (by decide)
  have p10 := hmc 0 (by omega) 10 (by decide)
  have q10 := hnc 0 (by omega) 10 (by decide)
  have p11 := hmc 0 (by omega) 11 (by decide)
  have q11 := hnc 0 (by omega) 11 (by decide)
  simp only [List.getD_cons_zero, mcells, List.getElem?_cons_zero, List.getElem?_cons_succ, Nat.zero_mul, Nat.add_zero] at p0 q0 p1 q1 p2 q2 p3 q3 p4 q4 p5 q5 p6 q6 p7 q7 p8 q8 p9 q9 p10 q10 p11 q11
  clear hmc hnc
  have ax0 : w7.cell? ⟨w5.heap.size, 0, none⟩ = some (.slice va0 vn0 vc0) := (ab.c 0 (by decide)).1
  have ax1 : w7.cell? ⟨w5.heap.size, 1, none⟩ = some (.slice va1 vn1 vc1) := (ab.c 1 (by decide)).1
  have ax2 : w7.cell? ⟨w5.heap.size, 2, none⟩ = some (.slice va2 vn2 vc2) := (ab.c 2 (by decide)).1
  have ax3 : w7.cell? ⟨w5.heap.size, 3, none⟩ = some (.slice va3 vn3 vc3) := (ab.c 3 (by decide)).1
  have ax5 : w7.cell? ⟨w5.heap.size, 5, none⟩ = some (.slice va5 vn5 vc5) := (ab.c 5 (by decide)).1
  have axz := ab.lt
  have bx0 : w7.cell? ⟨w6.heap.size, 0, none⟩ = some (.slice ua0 un0 uc0) := (bb.c 0 (by decide)).1
  have bx1 : w7.cell? ⟨w6.heap.size, 1, none⟩ = some (.slice ua1 un1 uc1) := (bb.c 1 (by decide)).1
  have bx2 : w7.cell? ⟨w6.heap.size, 2, none⟩ = some (.slice ua2 un2 uc2) := (bb.c 2 (by decide)).1
  have bx3 : w7.cell? ⟨w6.heap.size, 3, none⟩ = some (.slice ua3 un3 uc3) := (bb.c 3 (by decide)).1
  have bx5 : w7.cell? ⟨w6.heap.size, 5, none⟩ = some (.slice ua5 0 uc5) := (bb.c 5 (by decide)).1
  have bxz := bb.lt
  have hSm := fun U (hU : Below w7.heap.size w7 U) => St.keptStore_any ⟨va0, vn0, vc0, va1, vn1, vc1, va2, vn2, vc2, va3, vn3, vc3, vi, vl, vd, vo⟩ ⟨ua0, un0, uc0, ua1, un1, uc1, ua2, un2, uc2, ua3, un3, uc3, ui, ul, ud, uo⟩ U (hSa.below hU) (hSb.below hU) ed2.symm
  simp only [SV.val] at hSm
  by_cases hci : 0 < CI
  · have hrl : vn5 = 1 := by rw [HRL.out, if_pos hci]
    subst hrl
    have hc1 : 1 ≤ CI := by omega
    go_quiet (fail)
    have bq := below_drewN (Below.refl w7.heap.size w7) nq
    go_wp2_with (go_at_call 18; refine (hSm _ bq).mono ?_; rintro e w9 ⟨rfl, hb9⟩)
    all_goals
      go_ret
      exact ⟨by simp, (bw.trans (bq.mono bw.size)).trans (hb9.mono (bw.trans (bq.mono bw.size)).size)⟩
  · have hrl : vn5 = 0 := by rw [HRL.out, if_neg hci]
    subst hrl
    have hc0 : CI = 0 := by omega
    subst hc0
    go_quiet (fail)
    have bq := below_drewN (Below.refl w7.heap.size w7) nq
    go_wp2_with (go_at_call 18; refine (hSm _ bq).mono ?_; rintro e w9 ⟨rfl, hb9⟩)
    all_goals
      go_ret
      exact ⟨by simp, (bw.trans (bq.mono bw.size)).trans (hb9.mono (bw.trans (bq.mono bw.size)).size)⟩
end Go.Proofs.YtblidomnjjmobaaDoor.Pt
/- What the listed tables of package wire hold, cell by cell, out of their reading as data. -/
namespace Go.Proofs.YtblidomnjjmobaaDoor
open Go.ChangeShapes Go.WideShapes Go.ChangeAt Go.RowKit

def bRow {H : Type} (bs : List Bool) : DataW H := .agg (bs.map fun b => .lit (.bool b))
def bTab {H : Type} (tb : List (List Bool)) : DataW H := .agg (tb.map bRow)

section
variable {H : Type} {enc : TypeId × Value → H} {W : World} {base : Nat} {sp : Nat → Bool} {held : Bool}

theorem c1b : Tryd.prog.cellsOf 4 = 1 := by kernel_rfl
theorem c8b : Tryd.prog.cellsOf 100 = 8 := by kernel_rfl

theorem row_of {fuel : Nat} {cs : List Value} {bs : List Bool} {p : List MemPlace} (hb : bs.length = 8) (h : DataW.trod enc Tryd.prog W base sp held fuel 100 cs = some (bRow bs, p)) (j : Nat) (hj : j < 8) : cs[j]? = some (.bool (bs.getD j false)) := by
  obtain ⟨xs, m, rfl, hx, hl, hn, hel⟩ := DataW.trod_array Tryd.underlying100 h
  have hxs : xs.map (·.1) = bs.map fun b => (DataW.lit (.bool b) : DataW H) := by
    have := congrArg Prod.fst hx
    simpa [bRow] using this.symm
  have h1 := hel j hj
  rw [c1b, List.getElem?_eq_getElem (by omega)] at h1
  obtain ⟨b, hc, hx1⟩ := DataW.trod_bool Tryd.underlying4 h1
  have e1 : cs[j]? = some (.bool b) := by
    have := congrArg (·[0]?) hc
    simpa [List.getElem?_take, List.getElem?_drop] using this
  have e2 : (xs.map (·.1))[j]? = some (DataW.lit (.bool b) : DataW H) := by
    rw [List.getElem?_map, List.getElem?_eq_getElem (by omega), hx1]; rfl
  rw [hxs] at e2
  have hjb : j < bs.length := by omega
  simp [hjb] at e2
  rw [e1]
  simp [List.getD, hjb, e2]

theorem tab_of {fuel n : Nat} {t : TypeId} {cs : List Value} {tb : List (List Bool)} {p : List MemPlace} (ht : Tryd.prog.underlying t = some (.array n 100)) (hn : tb.length = n) (hb : ∀ i, i < n → (tb.getD i []).length = 8) (h : DataW.trod enc Tryd.prog W base sp held fuel t cs = some (bTab tb, p)) (i j : Nat) (hi : i < n) (hj : j < 8) : cs[i * 8 + j]? = some (.bool ((tb.getD i []).getD j false)) := by
  obtain ⟨xs, m, rfl, hx, hl, hlen, hel⟩ := DataW.trod_array ht h
  have hxs : xs.map (·.1) = tb.map bRow := by
    have := congrArg Prod.fst hx
    simpa [bTab] using this.symm
  have h1 := hel i hi
  rw [c8b, List.getElem?_eq_getElem (by omega)] at h1
  have e2 : (xs.map (·.1))[i]? = (tb.map (bRow (H := H)))[i]? := by rw [hxs]
  have hit : i < tb.length := by omega
  have hix : i < xs.length := by omega
  simp [hix, hit] at e2
  obtain ⟨d, q, hxi⟩ : ∃ d q, xs[i] = (d, q) := ⟨_, _, rfl⟩
  have e3 : d = bRow (tb.getD i []) := by
    rw [hxi] at e2
    simp [List.getD, hit]
    exact e2
  rw [hxi, e3] at h1
  have := row_of (hb i hi) h1 j hj
  rw [List.getElem?_take, if_pos hj, List.getElem?_drop] at this
  exact this

theorem has_of {fuel n g : Nat} {t : TypeId} {cs : Array Value} {tb : List (List Bool)} {p : List MemPlace} {name : String} (hg : Tryd.prog.globalNamed name = some g) (hv : W.var? Tryd.prog name = some cs) (ht : Tryd.prog.underlying t = some (.array n 100)) (hn : tb.length = n) (hb : ∀ i, i < n → (tb.getD i []).length = 8)
    (h : DataW.trod enc Tryd.prog W base sp held fuel t cs.toList = some (bTab tb, p)) : HasAt W g tb := by
  intro i j hi hj
  rw [World.var?_cell hg hv, ← Array.getElem?_toList]
  exact tab_of ht hn hb h i j (by omega) hj

theorem mHas_rows : ∀ i, i < 10 → (mHas.getD i []).length = 8 := by decide
theorem rHas_rows : ∀ i, i < 7 → (rHas.getD i []).length = 8 := by decide

theorem tops_of {fuel : Nat} {cs : Array Value} {p : List MemPlace} {name : String} (hg : Tryd.prog.globalNamed name = some 1) (hv : W.var? Tryd.prog name = some cs)
    (h : DataW.trod enc Tryd.prog W base sp held fuel 92 cs.toList = some (Lib.tabData .i64 topL, p)) : TopsAt W := by
  have e := Lib.cells_of_tab Tryd.underlying92 Tryd.underlying3 (by kernel_rfl) (by kernel_rfl) h
  have c : ∀ i, W.cell? ⟨1, i, none⟩ = (topL.map fun z => Value.int .i64 z)[i]? := by
    intro i
    rw [World.var?_cell hg hv, ← Array.getElem?_toList, e]
  unfold TopsAt
  simp only [c]
  simp [topL]
end
end Go.Proofs.YtblidomnjjmobaaDoor
