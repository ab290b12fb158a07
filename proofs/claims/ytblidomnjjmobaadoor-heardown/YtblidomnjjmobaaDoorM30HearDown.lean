/- Texts of this claim, one behind the other. -/
import Derived.Test.YtblidomnjjmobaaDoorM28HearDown
import Derived.Test.YtblidomnjjmobaaDoorM21HearDown
import Derived.Test.YtblidomnjjmobaaDoorM26HearDown
import Derived.Test.YtblidomnjjmobaaDoorM5HearDown
import Derived.Deep.DeepCutAuto
import Derived.Deep.CutBlock
import Derived.Test.YtblidomnjjmobaaDoorM29HearDown
import Derived.Lib.QuietBelow
/- What Peek tells of a store that may be. -/
namespace Go.Proofs.YtblidomnjjmobaaDoor.St
open Go.ChangeShapes Go.WideShapes Go.ChangeAt Go.RowKit
set_option linter.unusedVariables false

theorem peek_is {s : SV} {k : Int} (ho : OKP s.data) (hk : inR k 0 7 = true) :
    (s.locks.any (wrT k) = true → peekErr s k = 11 ∧ peekVal s k = 0 ∧ peekVer s k = 0) ∧ (s.locks.any (wrT k) = false → peekErr s k = 0 ∧ peekVal s k = (itemAt s.items k).value ∧ peekVer s k = (itemAt s.items k).version) := by
  have hE : peekErr s k = if s.locks.any (wrT k) then 11 else 0 := by
    unfold peekErr
    rw [if_pos ho.ok, if_pos hk]
  constructor
  · intro h
    rw [h] at hE
    have hE' : peekErr s k = 11 := hE
    exact ⟨hE', by unfold peekVal; rw [hE']; rfl, by unfold peekVer; rw [hE']; rfl⟩
  · intro h
    rw [h] at hE
    have hE' : peekErr s k = 0 := hE
    exact ⟨hE', by unfold peekVal; rw [if_pos hE'], by unfold peekVer; rw [if_pos hE']⟩
end Go.Proofs.YtblidomnjjmobaaDoor.St
/- The contract of Txn of raw numbers. -/
namespace Go.Proofs.YtblidomnjjmobaaDoor
open Go.ChangeShapes Go.WideShapes Go.ChangeAt Go.RowKit
set_option linter.unusedVariables false

theorem below_set {B : Nat} {a u : World} (b j : Nat) (v : Value) (h : Below B a u) (hb : B ≤ b) : Below B a (u.setCell ⟨b, j, none⟩ v) := h.setCell (p := ⟨b, j, none⟩) hb v

theorem txnR_any (s p : Int) (ad : Option Addr) (len cap : Nat) (a b : Int) (w : World) (hs : 1 ≤ s ∧ s ≤ 4) (ha : -9223372036854775808 ≤ a ∧ a ≤ 9223372036854775807) (hb : -9223372036854775808 ≤ b ∧ b ≤ 9223372036854775807) :
    Calls Tryd.prog 16 #[.agg #[.int .i64 s, .slice ad len cap, .int .i64 p], .int .i64 a, .int .i64 b] w fun e w' => e = .returned (.agg #[.int .i64 (pk a s), .int .i64 (1 + pk b 6)]) ∧ Below w.heap.size w w' := by
  obtain ⟨s1, s4⟩ := hs
  have z := pk_bd b 6 (by decide)
  have cA := fun w' => picked_any a s w' ha (by omega) (by omega)
  have cB := fun w' => picked_any b 6 w' hb (by decide) (by decide)
  obtain ⟨A, eA⟩ : ∃ x, x = pk a s := ⟨_, rfl⟩
  obtain ⟨B, eB⟩ : ∃ x, x = pk b 6 := ⟨_, rfl⟩
  rw [← eA] at cA ⊢
  rw [← eB] at cB z ⊢
  clear eA eB
  obtain ⟨z1, z2⟩ := z
  go_enter Tryd.func16, Tryd.ntmps16
  go_wp2_with (first | (go_at_call_of 11 (Value.int .i64 s); refine (cA _).mono ?_; rintro e u1 ⟨rfl, hu1⟩; rw [hu1]; clear hu1 u1) | (go_at_call_of 11 (Value.int .i64 6); refine (cB _).mono ?_; rintro e u1 ⟨rfl, hu1⟩; rw [hu1]; clear hu1 u1))
  refine bodyPost_ret (v := .agg #[.int .i64 A, .int .i64 (1 + B)]) (by simp [results, Tryd.results16, go_sem]) rfl ⟨rfl, ?_⟩
  exact ((Below.refl _ _).alloc (Nat.le_refl _) _).alloc (by simp) _
end Go.Proofs.YtblidomnjjmobaaDoor
/- The walk of the law HearDown: at any numbers it returns true and leaves what was in memory. -/
namespace Go.Proofs.YtblidomnjjmobaaDoor.Pt
open Go.ChangeShapes Go.WideShapes Go.ChangeAt Go.RowKit
open Go.Proofs.YtblidomnjjmobaaDoor.St (SV PS IsStore IsRow storeOK TxWf BoxN boxn_new OwnStore flat isOne own_isRow isRow_nil IsRaws Gd OKP cntErr cntIs endErr endData txOK wOf ofT readVal readVer readErr readData peekVal peekVer peekErr writeErr writeData stillIs refErr)
set_option linter.unusedVariables false

/-- Two stores in a slice that was just made. -/
theorem two_of {u : World} {r q : SV} (h : IsStore u r) (hw : ∀ t ∈ r.over, TxWf t) (h' : IsStore u q) (hw' : ∀ t ∈ q.over, TxWf t) : IsStores (u.alloc (.cells #[.slice r.ia r.il r.ic, .slice r.la r.ll r.lc, .slice r.da r.dl r.dc, .slice r.oa r.ol r.oc, .slice q.ia q.il q.ic, .slice q.la q.ll q.lc, .slice q.da q.dl q.dc, .slice q.oa q.ol q.oc] 41)) (some ⟨u.heap.size, 0, none⟩) 2 2 [r, q] := by
  have hb : (u.alloc (.cells #[.slice r.ia r.il r.ic, .slice r.la r.ll r.lc, .slice r.da r.dl r.dc, .slice r.oa r.ol r.oc, .slice q.ia q.il q.ic, .slice q.la q.ll q.lc, .slice q.da q.dl q.dc, .slice q.oa q.ol q.oc] 41)).heap[u.heap.size]? = some (.cells #[.slice r.ia r.il r.ic, .slice r.la r.ll r.lc, .slice r.da r.dl r.dc, .slice r.oa r.ol r.oc, .slice q.ia q.il q.ic, .slice q.la q.ll q.lc, .slice q.da q.dl q.dc, .slice q.oa q.ol q.oc] 41 (0, 0)) := heap_alloc_new u _
  refine ⟨⟨rfl, Nat.le_refl _, by unfold maxLen; omega, fun e => by simp at e, fun _ => ⟨u.heap.size, 0, rfl, by simp, fun i hi j hj => ?_⟩⟩, fun i hi => ?_⟩
  · rw [cell_of_row _ u.heap.size _ _ 41 (0, 0) hb]
    rcases (by omega : i = 0 ∨ i = 1) with rfl | rfl <;> rcases (by omega : j = 0 ∨ j = 1 ∨ j = 2 ∨ j = 3) with rfl | rfl | rfl | rfl <;> rfl
  · rcases (by omega : i = 0 ∨ i = 1) with rfl | rfl
    · exact ⟨h.below ((Below.refl _ _).alloc (Nat.le_refl _) _), hw⟩
    · exact ⟨h'.below ((Below.refl _ _).alloc (Nat.le_refl _) _), hw'⟩
theorem read_down {r q : SV} {s n k : Int} (h1 : storeOK r = true) (h2 : storeOK q = true) (s0 : s = 0) (n1 : 1 ≤ n) (n2 : n ≤ 1048576) (k1 : 0 ≤ k) (k2 : k ≤ 7) : hearErr 1 LS2 3 1 0 2 [r, q] ⟨1, 0, 0, s, n, 0, k, 0, 0, 1, false, 0⟩ = 0 := by
  subst s0
  have hm : msgFault 1 LS2 3 ⟨1, 0, 0, 0, n, 0, k, 0, 0, 1, false, 0⟩ = 0 := by
    refine mf_ok cfg2 rfl ?_ ?_
    · unfold msgRange txnOK partsOK
      simp only [MV.parts, topL, inTops, inT n1 n2, inT k1 k2]
      rfl
    · simp [msgForm, MV.parts, mHasOf, mHas, hasAll, bit]
  have ha : abvAt LS2 1 0 = true := by decide
  unfold hearErr
  rw [if_pos (site_two h1 h2 (by omega) (by omega)), if_pos hm, if_pos rfl, if_pos (by simp)]
  exact if_pos ha
set_option maxRecDepth 100000 in
set_option maxHeartbeats 8000000 in
theorem hearDown_walk (a : Option Addr) (len cap : Nat) (rs : List St.RV) (a2 : Option Addr) (len2 cap2 : Nat) (rs2 : List St.RV) (rv : St.RV) (key : Int) (w : World) (hr : IsRaws w a len cap rs) (hr2 : IsRaws w a2 len2 cap2 rs2) (hrv : rv.ok) (wk1 : (Lit.int .i64 key).wf = true) (hHa : HasAt w 0 mHas) (hTo : TopsAt w) :
    Calls Tryd.prog 4 #[.slice a len cap, .slice a2 len2 cap2, rv.val, .int .i64 key] w fun e w' => e = .returned (.bool true) ∧ Below w.heap.size w w' := by
  obtain ⟨wk, wa, wb, wc', wd, we⟩ := rv
  have hab := hrv.2.1
  have hbb := hrv.2.2.1
  simp only [St.RV.val] at hab hbb ⊢
  have hab2 : -9223372036854775808 ≤ wa ∧ wa ≤ 9223372036854775807 := hab
  have hbb2 : -9223372036854775808 ≤ wb ∧ wb ≤ 9223372036854775807 := hbb
  have bdk : -9223372036854775808 ≤ key ∧ key ≤ 9223372036854775807 := by
    simp [Lit.wf, IntKind.min, IntKind.max, IntKind.signed, IntKind.bits] at wk1
    omega
  clear wk1 hrv
  have hkp := pk_bd key 8 (by omega)
  have hPKK := fun u => picked_any key 8 u bdk (by omega) (by omega)
  obtain ⟨KK, eKK⟩ : ∃ x, x = pk key 8 := ⟨_, rfl⟩
  rw [← eKK] at hkp hPKK
  clear eKK
  obtain ⟨lKK, uKK⟩ := hkp
  have hTw := fun u => two_any 0 u (by omega)
  have e03 : (1 : Int) + pk 0 3 = 1 := by decide
  rw [e03] at hTw
  clear e03
  have hgT : 1 < w.heap.size := World.block_lt_of_cell? w _ hTo.1
  have hgM : 0 < w.heap.size := hHa.lt (by decide)
  have KT : Hid (∀ U, Below w.heap.size w U → HasAt U 0 mHas ∧ TopsAt U) := fun U hU => ⟨hHa.below hU hgM, hTo.below hU hgT⟩
  clear hHa hTo hgT hgM
  obtain ⟨W, hW⟩ : ∃ W : World, W = w.alloc (.cells #[.int .i64 wk, .int .i64 wa, .int .i64 wb, .int .i64 wc', .int .i64 wd, .int .i64 we] 24) := ⟨_, rfl⟩
  have bw : Below w.heap.size w W := by rw [hW]; exact (Below.refl _ _).alloc (Nat.le_refl _) _
  have rb : BoxN W w.heap.size 6 [.int .i64 wk, .int .i64 wa, .int .i64 wb, .int .i64 wc', .int .i64 wd, .int .i64 we] := by rw [hW]; exact boxn_new w #[.int .i64 wk, .int .i64 wa, .int .i64 wb, .int .i64 wc', .int .i64 wd, .int .i64 we] 24 6 rfl
  replace hr := hr.below bw
  replace hr2 := hr2.below bw
  go_enter Tryd.func4, Tryd.ntmps4
  go_upto_region 1 with (fail)
  rw [← hW]
  clear hW
  go_upto_region 2 with (go_at_call 9; refine (hTw _).mono ?_; rintro e w1 ⟨g0, rfl, hl, hg0, hb1⟩)
  replace rb := rb.below hb1 rb.lt
  replace bw := bw.trans (hb1.mono bw.size)
  replace hr := hr.below hb1
  replace hr2 := hr2.below hb1
  obtain ⟨X1, eX1⟩ : ∃ X : World, X = w1.alloc (.cells #[.int .i64 1, .slice (some ⟨g0, 0, none⟩) 2 2, .int .i64 3] 27) := ⟨_, rfl⟩
  have cb : BoxN X1 w1.heap.size 3 [.int .i64 1, .slice (some ⟨g0, 0, none⟩) 2 2, .int .i64 3] := by rw [eX1]; exact boxn_new w1 #[.int .i64 1, .slice (some ⟨g0, 0, none⟩) 2 2, .int .i64 3] 27 3 rfl
  have bX1 : Below w1.heap.size w1 X1 := by rw [eX1]; exact (Below.refl _ _).alloc (Nat.le_refl _) _
  rw [← eX1]
  clear eX1
  replace rb := rb.below bX1 rb.lt
  replace bw := bw.trans (bX1.mono bw.size)
  replace hr := hr.below bX1
  replace hr2 := hr2.below bX1
  replace hl := hl.below bX1
  have HS1 : Hid (∀ U, Below X1.heap.size X1 U → Calls Tryd.prog 12 #[.slice a len cap, .int .i64 25] U fun e w' => ∃ r : SV, e = .returned r.val ∧ OwnStore w' U.heap.size r ∧ Gd r.data 961 ∧ Below U.heap.size U w') := fun U hU => St.store_made a len cap rs 25 U (hr.below hU) (by omega)
  have HS2 : Hid (∀ U, Below X1.heap.size X1 U → Calls Tryd.prog 12 #[.slice a2 len2 cap2, .int .i64 10] U fun e w' => ∃ r : SV, e = .returned r.val ∧ OwnStore w' U.heap.size r ∧ Gd r.data 961 ∧ Below U.heap.size U w') := fun U hU => St.store_made a2 len2 cap2 rs2 10 U (hr2.below hU) (by omega)
  have tok : True := trivial
  go_upto_region 3 with (go_at_call 12; first | (clear tok; refine (HS1.out _ (Below.refl _ _)).mono ?_; rintro e w2 ⟨⟨ra0, rn0, rc0, ra1, rn1, rc1, ra2, rn2, rc2, ra3, rn3, rc3, ri, rl, rd, ro⟩, rfl, hO, hG, hb2⟩; simp only [SV.val]) | (refine (HS2.out _ hb2).mono ?_; rintro e w3 ⟨⟨qa0, qn0, qc0, qa1, qn1, qc1, qa2, qn2, qc2, qa3, qn3, qc3, qi, ql, qd, qo⟩, rfl, hO3, hG3, hb3⟩; simp only [SV.val]))
  have hb23 : Below X1.heap.size X1 w3 := hb2.trans (hb3.mono hb2.size)
  clear hr hr2 HS1 HS2
  replace rb := rb.below hb23 rb.lt
  replace cb := cb.below hb23 cb.lt
  replace bw := bw.trans (hb23.mono bw.size)
  replace hl := hl.below hb23
  have hS := hO.isStore.below hb3
  have hSq := hO3.isStore
  clear hO hO3
  have hwf := hG.wf
  have hwq := hG3.wf
  have hSS := two_of (r := ⟨ra0, rn0, rc0, ra1, rn1, rc1, ra2, rn2, rc2, ra3, rn3, rc3, ri, rl, rd, ro⟩) (q := ⟨qa0, qn0, qc0, qa1, qn1, qc1, qa2, qn2, qc2, qa3, qn3, qc3, qi, ql, qd, qo⟩) hS hwf hSq hwq
  simp only [] at hSS
  obtain ⟨X2, eX2⟩ : ∃ X : World, X = w3.alloc (.cells #[.slice ra0 rn0 rc0, .slice ra1 rn1 rc1, .slice ra2 rn2 rc2, .slice ra3 rn3 rc3, .slice qa0 qn0 qc0, .slice qa1 qn1 qc1, .slice qa2 qn2 qc2, .slice qa3 qn3 qc3] 41) := ⟨_, rfl⟩
  have sb : BoxN X2 w3.heap.size 8 [.slice ra0 rn0 rc0, .slice ra1 rn1 rc1, .slice ra2 rn2 rc2, .slice ra3 rn3 rc3, .slice qa0 qn0 qc0, .slice qa1 qn1 qc1, .slice qa2 qn2 qc2, .slice qa3 qn3 qc3] := by rw [eX2]; exact boxn_new w3 #[.slice ra0 rn0 rc0, .slice ra1 rn1 rc1, .slice ra2 rn2 rc2, .slice ra3 rn3 rc3, .slice qa0 qn0 qc0, .slice qa1 qn1 qc1, .slice qa2 qn2 qc2, .slice qa3 qn3 qc3] 41 8 rfl
  have bX2 : Below w3.heap.size w3 X2 := by rw [eX2]; exact (Below.refl _ _).alloc (Nat.le_refl _) _
  rw [← eX2] at hSS ⊢
  clear eX2
  replace rb := rb.below bX2 rb.lt
  replace cb := cb.below bX2 cb.lt
  replace bw := bw.trans (bX2.mono bw.size)
  replace hl := hl.below bX2
  replace hS := hS.below bX2
  replace hSq := hSq.below bX2
  go_upto_region 4 with (go_at_call 11; refine (hPKK _).mono ?_; rintro e u ⟨rfl, hu⟩; rw [hu]; clear hu)
  have cb_0 : X2.cell? ⟨w1.heap.size, 0, none⟩ = some (.int .i64 1) := (cb.c 0 (by decide)).1
  have cb_1 : X2.cell? ⟨w1.heap.size, 1, none⟩ = some (.slice (some ⟨g0, 0, none⟩) 2 2) := (cb.c 1 (by decide)).1
  have cb_2 : X2.cell? ⟨w1.heap.size, 2, none⟩ = some (.int .i64 3) := (cb.c 2 (by decide)).1
  have cb_z := cb.lt
  have rb_1 : X2.cell? ⟨w.heap.size, 1, none⟩ = some (.int .i64 wa) := (rb.c 1 (by decide)).1
  have rb_2 : X2.cell? ⟨w.heap.size, 2, none⟩ = some (.int .i64 wb) := (rb.c 2 (by decide)).1
  have rb_z := rb.lt
  have hTx := txnR_any 1 3 (some ⟨g0, 0, none⟩) 2 2 wa wb X2 (by omega) hab2 hbb2
  go_upto_region 5 with (go_at_call 16; refine hTx.mono ?_; rintro e w4 ⟨rfl, hb4⟩)
  clear hTx
  have kS := pk_bd wa 1 (by omega)
  have kB := pk_bd wb 6 (by omega)
  have hKS : pk wa 1 = 0 := by omega
  rw [hKS]
  clear hKS
  obtain ⟨KM, eKM⟩ : ∃ x, x = 1 + pk wb 6 := ⟨_, rfl⟩
  have lKM : 1 ≤ KM := by omega
  have uKM : KM ≤ 6 := by omega
  rw [← eKM]
  clear eKM kS kB
  clear cb_0 cb_1 cb_2 cb_z rb_1 rb_2 rb_z
  clear rb hPKK
  replace cb := cb.below hb4 cb.lt
  replace sb := sb.below hb4 sb.lt
  replace bw := bw.trans (hb4.mono bw.size)
  replace hl := hl.below hb4
  replace hS := hS.below hb4
  replace hSq := hSq.below hb4
  replace hSS := hSS.below hb4
  obtain ⟨X3, eX3⟩ : ∃ X : World, X = w4.alloc (.cells #[.int .i64 1, .int .i64 0, .int .i64 0, .int .i64 0, .int .i64 KM, .int .i64 0, .int .i64 KK, .int .i64 0, .int .i64 0, .int .i64 1, .bool false, .int .i64 0] 33) := ⟨_, rfl⟩
  have mb : BoxN X3 w4.heap.size 12 [.int .i64 1, .int .i64 0, .int .i64 0, .int .i64 0, .int .i64 KM, .int .i64 0, .int .i64 KK, .int .i64 0, .int .i64 0, .int .i64 1, .bool false, .int .i64 0] := by rw [eX3]; exact boxn_new w4 #[.int .i64 1, .int .i64 0, .int .i64 0, .int .i64 0, .int .i64 KM, .int .i64 0, .int .i64 KK, .int .i64 0, .int .i64 0, .int .i64 1, .bool false, .int .i64 0] 33 12 rfl
  have bX3 : Below w4.heap.size w4 X3 := by rw [eX3]; exact (Below.refl _ _).alloc (Nat.le_refl _) _
  rw [← eX3]
  clear eX3
  replace cb := cb.below bX3 cb.lt
  replace sb := sb.below bX3 sb.lt
  replace bw := bw.trans (bX3.mono bw.size)
  replace hl := hl.below bX3
  replace hS := hS.below bX3
  replace hSq := hSq.below bX3
  replace hSS := hSS.below bX3
  have hok : storeOK ⟨ra0, rn0, rc0, ra1, rn1, rc1, ra2, rn2, rc2, ra3, rn3, rc3, ri, rl, rd, ro⟩ = true := hG.ok.ok
  have hoq : storeOK ⟨qa0, qn0, qc0, qa1, qn1, qc1, qa2, qn2, qc2, qa3, qn3, qc3, qi, ql, qd, qo⟩ = true := hG3.ok.ok
  have h4o := hG.h4 hS
  have h4q := hG3.h4 hSq
  obtain ⟨hpB, hpF⟩ := St.peek_is (s := ⟨ra0, rn0, rc0, ra1, rn1, rc1, ra2, rn2, rc2, ra3, rn3, rc3, ri, rl, rd, ro⟩) (k := KK) hG.ok (St.inR_true lKK (by omega))
  have hHr := fun w' h1 h2 h3 h4 => hear_any 1 3 (some ⟨g0, 0, none⟩) 2 2 LS2 1 0 (some ⟨w3.heap.size, 0, none⟩) 2 2 [⟨ra0, rn0, rc0, ra1, rn1, rc1, ra2, rn2, rc2, ra3, rn3, rc3, ri, rl, rd, ro⟩, ⟨qa0, qn0, qc0, qa1, qn1, qc1, qa2, qn2, qc2, qa3, qn3, qc3, qi, ql, qd, qo⟩] none 0 0 [] 6000 ⟨1, 0, 0, 0, KM, 0, KK, 0, 0, 1, false, 0⟩ w' h1 h2 (isRow_nil _ _ _) (by omega) (ov2 (r := ⟨ra0, rn0, rc0, ra1, rn1, rc1, ra2, rn2, rc2, ra3, rn3, rc3, ri, rl, rd, ro⟩) (q := ⟨qa0, qn0, qc0, qa1, qn1, qc1, qa2, qn2, qc2, qa3, qn3, qc3, qi, ql, qd, qo⟩) h4o h4q) h3 h4
  have hE1 := read_down (r := ⟨ra0, rn0, rc0, ra1, rn1, rc1, ra2, rn2, rc2, ra3, rn3, rc3, ri, rl, rd, ro⟩) (q := ⟨qa0, qn0, qc0, qa1, qn1, qc1, qa2, qn2, qc2, qa3, qn3, qc3, qi, ql, qd, qo⟩) (s := 0) (n := KM) (k := KK) hok hoq rfl lKM (by omega) lKK (by omega)
  have hPkc := fun U h1 => St.peek_any ⟨ra0, rn0, rc0, ra1, rn1, rc1, ra2, rn2, rc2, ra3, rn3, rc3, ri, rl, rd, ro⟩ KK U h1 hwf
  obtain ⟨PE, PV, PW, hcase, HD1, hPE, hPV, hPW⟩ : ∃ PE PV PW : Int, ((PE = 11 ∧ PV = 0 ∧ PW = 0) ∨ PE = 0) ∧ Hid (hearD 1 LS2 3 1 0 2 [⟨ra0, rn0, rc0, ra1, rn1, rc1, ra2, rn2, rc2, ra3, rn3, rc3, ri, rl, rd, ro⟩, ⟨qa0, qn0, qc0, qa1, qn1, qc1, qa2, qn2, qc2, qa3, qn3, qc3, qi, ql, qd, qo⟩] [] 6000 ⟨1, 0, 0, 0, KM, 0, KK, 0, 0, 1, false, 0⟩ = ⟨SV.data ⟨qa0, qn0, qc0, qa1, qn1, qc1, qa2, qn2, qc2, qa3, qn3, qc3, qi, ql, qd, qo⟩, [⟨5, 0, 0, 0, KM, 0, KK, PV, PW, 1, false, PE⟩], [], []⟩) ∧ peekErr ⟨ra0, rn0, rc0, ra1, rn1, rc1, ra2, rn2, rc2, ra3, rn3, rc3, ri, rl, rd, ro⟩ KK = PE ∧ peekVal ⟨ra0, rn0, rc0, ra1, rn1, rc1, ra2, rn2, rc2, ra3, rn3, rc3, ri, rl, rd, ro⟩ KK = PV ∧ peekVer ⟨ra0, rn0, rc0, ra1, rn1, rc1, ra2, rn2, rc2, ra3, rn3, rc3, ri, rl, rd, ro⟩ KK = PW := by
    have hD : hearD 1 LS2 3 1 0 2 [⟨ra0, rn0, rc0, ra1, rn1, rc1, ra2, rn2, rc2, ra3, rn3, rc3, ri, rl, rd, ro⟩, ⟨qa0, qn0, qc0, qa1, qn1, qc1, qa2, qn2, qc2, qa3, qn3, qc3, qi, ql, qd, qo⟩] [] 6000 ⟨1, 0, 0, 0, KM, 0, KK, 0, 0, 1, false, 0⟩ = readD 1 ⟨qa0, qn0, qc0, qa1, qn1, qc1, qa2, qn2, qc2, qa3, qn3, qc3, qi, ql, qd, qo⟩ ⟨ra0, rn0, rc0, ra1, rn1, rc1, ra2, rn2, rc2, ra3, rn3, rc3, ri, rl, rd, ro⟩ ⟨1, 0, 0, 0, KM, 0, KK, 0, 0, 1, false, 0⟩ ⟨SV.data ⟨qa0, qn0, qc0, qa1, qn1, qc1, qa2, qn2, qc2, qa3, qn3, qc3, qi, ql, qd, qo⟩, [], [], []⟩ := by unfold hearD; rw [if_pos hE1]; rfl
    have hD2 : readD 1 ⟨qa0, qn0, qc0, qa1, qn1, qc1, qa2, qn2, qc2, qa3, qn3, qc3, qi, ql, qd, qo⟩ ⟨ra0, rn0, rc0, ra1, rn1, rc1, ra2, rn2, rc2, ra3, rn3, rc3, ri, rl, rd, ro⟩ ⟨1, 0, 0, 0, KM, 0, KK, 0, 0, 1, false, 0⟩ ⟨SV.data ⟨qa0, qn0, qc0, qa1, qn1, qc1, qa2, qn2, qc2, qa3, qn3, qc3, qi, ql, qd, qo⟩, [], [], []⟩ = ⟨SV.data ⟨qa0, qn0, qc0, qa1, qn1, qc1, qa2, qn2, qc2, qa3, qn3, qc3, qi, ql, qd, qo⟩, if toldE (peekErr ⟨ra0, rn0, rc0, ra1, rn1, rc1, ra2, rn2, rc2, ra3, rn3, rc3, ri, rl, rd, ro⟩ KK) then [⟨5, 0, 0, 0, KM, 0, KK, peekVal ⟨ra0, rn0, rc0, ra1, rn1, rc1, ra2, rn2, rc2, ra3, rn3, rc3, ri, rl, rd, ro⟩ KK, peekVer ⟨ra0, rn0, rc0, ra1, rn1, rc1, ra2, rn2, rc2, ra3, rn3, rc3, ri, rl, rd, ro⟩ KK, 1, false, peekErr ⟨ra0, rn0, rc0, ra1, rn1, rc1, ra2, rn2, rc2, ra3, rn3, rc3, ri, rl, rd, ro⟩ KK⟩] else [], [], []⟩ := by
      unfold readD gotM
      simp
    refine ⟨_, _, _, ?_, ?_, rfl, rfl, rfl⟩
    · cases hany : rl.any (St.wrT KK) with
      | true => exact Or.inl (hpB hany)
      | false => exact Or.inr (hpF hany).1
    · show _ = _
      rw [hD, hD2]
      have ht : toldE (peekErr ⟨ra0, rn0, rc0, ra1, rn1, rc1, ra2, rn2, rc2, ra3, rn3, rc3, ri, rl, rd, ro⟩ KK) = true := by
        cases hany : rl.any (St.wrT KK) with
        | true => rw [(hpB hany).1]; rfl
        | false => rw [(hpF hany).1]; rfl
      rw [ht]
      rfl
  rw [hE1] at hHr
  rw [hPE, hPV, hPW] at hPkc
  clear hPE hPV hPW hpB hpF hE1
  simp only [SV.val, MV.val] at hPkc hHr
  have cb_0 : X3.cell? ⟨w1.heap.size, 0, none⟩ = some (.int .i64 1) := (cb.c 0 (by decide)).1
  have cb_1 : X3.cell? ⟨w1.heap.size, 1, none⟩ = some (.slice (some ⟨g0, 0, none⟩) 2 2) := (cb.c 1 (by decide)).1
  have cb_2 : X3.cell? ⟨w1.heap.size, 2, none⟩ = some (.int .i64 3) := (cb.c 2 (by decide)).1
  have cb_z := cb.lt
  have mb_0 : X3.cell? ⟨w4.heap.size, 0, none⟩ = some (.int .i64 1) := (mb.c 0 (by decide)).1
  have mb_1 : X3.cell? ⟨w4.heap.size, 1, none⟩ = some (.int .i64 0) := (mb.c 1 (by decide)).1
  have mb_2 : X3.cell? ⟨w4.heap.size, 2, none⟩ = some (.int .i64 0) := (mb.c 2 (by decide)).1
  have mb_3 : X3.cell? ⟨w4.heap.size, 3, none⟩ = some (.int .i64 0) := (mb.c 3 (by decide)).1
  have mb_4 : X3.cell? ⟨w4.heap.size, 4, none⟩ = some (.int .i64 KM) := (mb.c 4 (by decide)).1
  have mb_5 : X3.cell? ⟨w4.heap.size, 5, none⟩ = some (.int .i64 0) := (mb.c 5 (by decide)).1
  have mb_6 : X3.cell? ⟨w4.heap.size, 6, none⟩ = some (.int .i64 KK) := (mb.c 6 (by decide)).1
  have mb_7 : X3.cell? ⟨w4.heap.size, 7, none⟩ = some (.int .i64 0) := (mb.c 7 (by decide)).1
  have mb_8 : X3.cell? ⟨w4.heap.size, 8, none⟩ = some (.int .i64 0) := (mb.c 8 (by decide)).1
  have mb_9 : X3.cell? ⟨w4.heap.size, 9, none⟩ = some (.int .i64 1) := (mb.c 9 (by decide)).1
  have mb_10 : X3.cell? ⟨w4.heap.size, 10, none⟩ = some (.bool false) := (mb.c 10 (by decide)).1
  have mb_11 : X3.cell? ⟨w4.heap.size, 11, none⟩ = some (.int .i64 0) := (mb.c 11 (by decide)).1
  have mb_z := mb.lt
  have hKT := KT.out _ bw
  go_upto_region 6 with (go_at_call 13; refine (hHr _ hl hSS hKT.1 hKT.2).mono ?_; rintro e w5 ⟨⟨⟨va0, vn0, vc0, va1, vn1, vc1, va2, vn2, vc2, va3, vn3, vc3, vi, vl, vd, vo⟩, va4, vn4, vc4, va5, vn5, vc5, va6, vn6, vc6, vms, vrs, vns⟩, rfl, hI, hd, hb5, _⟩; simp only [AnsV.val])
  clear hHr hKT
  clear cb_0 cb_1 cb_2 cb_z mb_0 mb_1 mb_2 mb_3 mb_4 mb_5 mb_6 mb_7 mb_8 mb_9 mb_10 mb_11 mb_z
  replace cb := cb.below hb5 cb.lt
  replace sb := sb.below hb5 sb.lt
  replace mb := mb.below hb5 mb.lt
  replace bw := bw.trans (hb5.mono bw.size)
  replace hl := hl.below hb5
  replace hS := hS.below hb5
  replace hSq := hSq.below hb5
  replace hSS := hSS.below hb5
  obtain ⟨X4, eX4⟩ : ∃ X : World, X = w5.alloc (.cells #[.slice va0 vn0 vc0, .slice va1 vn1 vc1, .slice va2 vn2 vc2, .slice va3 vn3 vc3, .slice va4 vn4 vc4, .slice va5 vn5 vc5, .slice va6 vn6 vc6] 48) := ⟨_, rfl⟩
  have ab : BoxN X4 w5.heap.size 7 [.slice va0 vn0 vc0, .slice va1 vn1 vc1, .slice va2 vn2 vc2, .slice va3 vn3 vc3, .slice va4 vn4 vc4, .slice va5 vn5 vc5, .slice va6 vn6 vc6] := by rw [eX4]; exact boxn_new w5 #[.slice va0 vn0 vc0, .slice va1 vn1 vc1, .slice va2 vn2 vc2, .slice va3 vn3 vc3, .slice va4 vn4 vc4, .slice va5 vn5 vc5, .slice va6 vn6 vc6] 48 7 rfl
  have bX4 : Below w5.heap.size w5 X4 := by rw [eX4]; exact (Below.refl _ _).alloc (Nat.le_refl _) _
  rw [← eX4]
  clear eX4
  replace cb := cb.below bX4 cb.lt
  replace sb := sb.below bX4 sb.lt
  replace mb := mb.below bX4 mb.lt
  replace bw := bw.trans (bX4.mono bw.size)
  replace hl := hl.below bX4
  replace hS := hS.below bX4
  replace hSq := hSq.below bX4
  replace hSS := hSS.below bX4
  replace hI := hI.below bX4
  rw [HD1.out] at hd
  have ed : SV.data ⟨va0, vn0, vc0, va1, vn1, vc1, va2, vn2, vc2, va3, vn3, vc3, vi, vl, vd, vo⟩ = SV.data ⟨qa0, qn0, qc0, qa1, qn1, qc1, qa2, qn2, qc2, qa3, qn3, qc3, qi, ql, qd, qo⟩ := congrArg AD.st hd
  have em : vms = [⟨5, 0, 0, 0, KM, 0, KK, PV, PW, 1, false, PE⟩] := congrArg AD.ms hd
  have er : vrs = [] := congrArg AD.rs hd
  have hml : vn4 = 1 := by have := hI.ms.1; simp only [] at this; rw [em] at this; exact this.symm
  have hrl : vn5 = 0 := by have := hI.rs.1; simp only [] at this; rw [er] at this; exact this.symm
  clear hd HD1
  subst em
  subst er
  subst hml
  subst hrl
  have hSa := hI.st
  have hMa := hI.ms
  simp only [] at hSa hMa
  clear hI
  have sb_0 : X4.cell? ⟨w3.heap.size, 0, none⟩ = some (.slice ra0 rn0 rc0) := (sb.c 0 (by decide)).1
  have sb_1 : X4.cell? ⟨w3.heap.size, 1, none⟩ = some (.slice ra1 rn1 rc1) := (sb.c 1 (by decide)).1
  have sb_2 : X4.cell? ⟨w3.heap.size, 2, none⟩ = some (.slice ra2 rn2 rc2) := (sb.c 2 (by decide)).1
  have sb_3 : X4.cell? ⟨w3.heap.size, 3, none⟩ = some (.slice ra3 rn3 rc3) := (sb.c 3 (by decide)).1
  have sb_z := sb.lt
  go_upto_region 7 with (go_at_call 17; refine (hPkc _ hS).mono ?_; rintro e w6 ⟨rfl, hb6⟩)
  clear hPkc
  clear sb_0 sb_1 sb_2 sb_3 sb_z
  replace cb := cb.below hb6 cb.lt
  replace sb := sb.below hb6 sb.lt
  replace mb := mb.below hb6 mb.lt
  replace ab := ab.below hb6 ab.lt
  replace bw := bw.trans (hb6.mono bw.size)
  replace hl := hl.below hb6
  replace hS := hS.below hb6
  replace hSq := hSq.below hb6
  replace hSS := hSS.below hb6
  replace hSa := hSa.below hb6
  replace hMa := St.IsRow.below hMa hb6
  have hSm := fun U (hU : Below w6.heap.size w6 U) => St.keptStore_any ⟨va0, vn0, vc0, va1, vn1, vc1, va2, vn2, vc2, va3, vn3, vc3, vi, vl, vd, vo⟩ ⟨qa0, qn0, qc0, qa1, qn1, qc1, qa2, qn2, qc2, qa3, qn3, qc3, qi, ql, qd, qo⟩ U (hSa.below hU) (hSq.below hU) ed
  simp only [SV.val] at hSm
  have ab_0 : w6.cell? ⟨w5.heap.size, 0, none⟩ = some (.slice va0 vn0 vc0) := (ab.c 0 (by decide)).1
  have ab_1 : w6.cell? ⟨w5.heap.size, 1, none⟩ = some (.slice va1 vn1 vc1) := (ab.c 1 (by decide)).1
  have ab_2 : w6.cell? ⟨w5.heap.size, 2, none⟩ = some (.slice va2 vn2 vc2) := (ab.c 2 (by decide)).1
  have ab_3 : w6.cell? ⟨w5.heap.size, 3, none⟩ = some (.slice va3 vn3 vc3) := (ab.c 3 (by decide)).1
  have ab_4 : w6.cell? ⟨w5.heap.size, 4, none⟩ = some (.slice va4 1 vc4) := (ab.c 4 (by decide)).1
  have ab_5 : w6.cell? ⟨w5.heap.size, 5, none⟩ = some (.slice va5 0 vc5) := (ab.c 5 (by decide)).1
  have ab_z := ab.lt
  have sb_4 : w6.cell? ⟨w3.heap.size, 4, none⟩ = some (.slice qa0 qn0 qc0) := (sb.c 4 (by decide)).1
  have sb_5 : w6.cell? ⟨w3.heap.size, 5, none⟩ = some (.slice qa1 qn1 qc1) := (sb.c 5 (by decide)).1
  have sb_6 : w6.cell? ⟨w3.heap.size, 6, none⟩ = some (.slice qa2 qn2 qc2) := (sb.c 6 (by decide)).1
  have sb_7 : w6.cell? ⟨w3.heap.size, 7, none⟩ = some (.slice qa3 qn3 qc3) := (sb.c 7 (by decide)).1
  have sb_z := sb.lt
  have qab_0 := fun d os => cell_regrown ab_0 d os
  have qab_1 := fun d os => cell_regrown ab_1 d os
  have qab_2 := fun d os => cell_regrown ab_2 d os
  have qab_3 := fun d os => cell_regrown ab_3 d os
  have qab_4 := fun d os => cell_regrown ab_4 d os
  have qab_5 := fun d os => cell_regrown ab_5 d os
  have qsb_4 := fun d os => cell_regrown sb_4 d os
  have qsb_5 := fun d os => cell_regrown sb_5 d os
  have qsb_6 := fun d os => cell_regrown sb_6 d os
  have qsb_7 := fun d os => cell_regrown sb_7 d os
  refine wp_region_quiet_below (by kernel_rfl) (by kernel_rfl) ?_
  repeat (go_big_quiet_step ((exact Calls.regrown_of (hSm _ (below_regrown _ _ _)))))
  refine wpQuiet_nil ?_
  intro _ hw'
  obtain ⟨⟨dq, osq⟩, hw''⟩ := hw'
  subst hw''
  have bQ := below_regrown w6 dq osq
  obtain ⟨Z, eZ⟩ : ∃ Z, Z = Go.Sort.grow (Go.redrawn w6 dq) osq := ⟨_, rfl⟩
  rw [← eZ] at bQ ⊢
  clear eZ qab_0 qab_1 qab_2 qab_3 qab_4 qab_5 qsb_4 qsb_5 qsb_6 qsb_7
  clear ab_0 ab_1 ab_2 ab_3 ab_4 ab_5 ab_z sb_4 sb_5 sb_6 sb_7 sb_z
  replace cb := cb.below bQ cb.lt
  replace sb := sb.below bQ sb.lt
  replace mb := mb.below bQ mb.lt
  replace ab := ab.below bQ ab.lt
  replace bw := bw.trans (bQ.mono bw.size)
  replace hl := hl.below bQ
  replace hS := hS.below bQ
  replace hSq := hSq.below bQ
  replace hSS := hSS.below bQ
  replace hSa := hSa.below bQ
  replace hMa := St.IsRow.below hMa bQ
  obtain ⟨m1, mo, rfl, zm1, hmc⟩ := hMa.2.2.2.2 (by omega)
  have p0 := hmc 0 (by omega) 0 (by decide)
  have p1 := hmc 0 (by omega) 1 (by decide)
  have p2 := hmc 0 (by omega) 2 (by decide)
  have p3 := hmc 0 (by omega) 3 (by decide)
  have p4 := hmc 0 (by omega) 4 (by decide)
  have p5 := hmc 0 (by omega) 5 (by decide)
  have p6 := hmc 0 (by omega) 6 (by decide)
  have p7 := hmc 0 (by omega) 7 (by decide)
  have p8 := hmc 0 (by omega) 8 (by decide)
  have p9 := hmc 0 (by omega) 9 (by decide)
  have p10 := hmc 0 (by omega) 10 (by decide)
  have p11 := hmc 0 (by omega) 11 (by decide)
  simp only [List.getD_cons_zero, mcells, List.getElem?_cons_zero, List.getElem?_cons_succ, Nat.zero_mul, Nat.add_zero] at p0 p1 p2 p3 p4 p5 p6 p7 p8 p9 p10 p11
  clear hmc
  have ab_4 : Z.cell? ⟨w5.heap.size, 4, none⟩ = some (.slice (some ⟨m1, mo, none⟩) 1 vc4) := (ab.c 4 (by decide)).1
  have ab_z := ab.lt
  rcases hcase with ⟨h1, h2, h3⟩ | h1
  · subst h1
    subst h2
    subst h3
    go_wp2
    all_goals
      go_ret
      exact ⟨by simp, bw.alloc bw.size _⟩
  · subst h1
    go_wp2
    all_goals
      go_ret
      exact ⟨by simp, bw.alloc bw.size _⟩
end Go.Proofs.YtblidomnjjmobaaDoor.Pt
