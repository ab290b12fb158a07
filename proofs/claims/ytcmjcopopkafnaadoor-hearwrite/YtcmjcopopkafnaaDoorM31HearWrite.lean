/- Texts of this claim, one behind the other. -/
import Derived.Test.YtcmjcopopkafnaaDoorM30HearWrite
import Derived.Test.YtcmjcopopkafnaaDoorM7HearWrite
import Derived.LoopTactic
import Derived.Deep.QuietTactic
import Derived.BigQuiet
import Derived.Test.YtcmjcopopkafnaaDoorM29HearWrite
import Derived.Lib.QuietBelow
import Derived.Test.YtcmjcopopkafnaaDoorM23HearWrite
import Derived.Lib.LaidTab
import Derived.OpenShut
/- Contracts of sameInts and sameRecord: at the same numbers, at the same record, they return true and leave what was in memory. -/
namespace Go.Proofs.YtcmjcopopkafnaaDoor
open Go.Proofs.YtcmjcopopkafnaaDoor.St (BoxN boxn_new)
open Go.ChangeShapes Go.WideShapes Go.ChangeAt Go.RowKit
set_option linter.unusedVariables false

set_option maxHeartbeats 1000000 in
theorem sameInts_rec (a b : Option Addr) (n cap cap' : Nat) (zs : List Int) (w : World) (h : IsInts w a n cap zs) (h' : IsInts w b n cap' zs) :
    Calls Tryd.prog 59 #[.slice a n cap, .slice b n cap'] w fun e w' => e = .returned (.bool true) ∧ Below w.heap.size w w' := by
  have hmx : n ≤ maxLen := Nat.le_trans h.2.1 h.2.2.1
  unfold maxLen at hmx
  go_enter Tryd.func59, Tryd.ntmps59
  go_wp2
  go_loopw [5] (fun i wr => ∃ k : Nat, k ≤ n ∧ i = .int .i64 k ∧ Below w.heap.size w wr) (fun i _ => n - (intOf i).toNat)
  case atStart => exact ⟨0, Nat.zero_le _, rfl, Below.refl _ _⟩
  case round =>
    obtain ⟨k, hk, rfl, hb⟩ := hrel
    by_cases hlt : k < n
    · have hlt' : (k : Int) < (n : Int) := by omega
      obtain ⟨b1, o1, rfl, _, c1⟩ := (h.below hb).2.2.2.2 (by omega)
      obtain ⟨b2, o2, rfl, _, c2⟩ := (h'.below hb).2.2.2.2 (by omega)
      have e1 := c1 k hlt
      have e2 := c2 k hlt
      obtain ⟨z, hz⟩ : ∃ z, z = zs.getD k 0 := ⟨_, rfl⟩
      rw [← hz] at e1 e2
      clear hz c1 c2
      go_wp2
      go_quiet (fail)
      go_wp2
      go_roundw
      case rel => exact ⟨k + 1, by omega, by go_num, below_drewN hb nq⟩
      case measure => simp [intOf]; omega
    · go_wp2
      go_ret
      exact ⟨rfl, hb⟩

set_option maxRecDepth 100000 in
set_option maxHeartbeats 4000000 in
theorem sameRecord_any (kind site num key value ask : Int) (yes : Bool) (sa sa' : Option Addr) (sl sc sc' : Nat) (zs : List Int) (w : World) (h : IsInts w sa sl sc zs) (h' : IsInts w sa' sl sc' zs) :
    Calls Tryd.prog 22 #[.agg #[.int .i64 kind, .int .i64 site, .int .i64 num, .int .i64 key, .int .i64 value, .int .i64 ask, .bool yes, .slice sa sl sc], .agg #[.int .i64 kind, .int .i64 site, .int .i64 num, .int .i64 key, .int .i64 value, .int .i64 ask, .bool yes, .slice sa' sl sc']] w fun e w' => e = .returned (.bool true) ∧ Below w.heap.size w w' := by
  obtain ⟨W, hW⟩ : ∃ W : World, W = (w.alloc (.cells #[.int .i64 kind, .int .i64 site, .int .i64 num, .int .i64 key, .int .i64 value, .int .i64 ask, .bool yes, .slice sa sl sc] 69)).alloc (.cells #[.int .i64 kind, .int .i64 site, .int .i64 num, .int .i64 key, .int .i64 value, .int .i64 ask, .bool yes, .slice sa' sl sc'] 69) := ⟨_, rfl⟩
  have hB : Below w.heap.size w W := by rw [hW]; exact ((Below.refl _ _).alloc (Nat.le_refl _) _).alloc (by simp) _
  have bx1 : BoxN W w.heap.size 8 [.int .i64 kind, .int .i64 site, .int .i64 num, .int .i64 key, .int .i64 value, .int .i64 ask, .bool yes, .slice sa sl sc] := by
    rw [hW]
    exact (boxn_new w #[.int .i64 kind, .int .i64 site, .int .i64 num, .int .i64 key, .int .i64 value, .int .i64 ask, .bool yes, .slice sa sl sc] 69 8 rfl).below ((Below.refl _ _).alloc (Nat.le_refl _) _) (by simp)
  have bx2 : BoxN W (w.heap.size + 1) 8 [.int .i64 kind, .int .i64 site, .int .i64 num, .int .i64 key, .int .i64 value, .int .i64 ask, .bool yes, .slice sa' sl sc'] := by
    rw [hW]
    simpa using boxn_new (w.alloc (.cells #[.int .i64 kind, .int .i64 site, .int .i64 num, .int .i64 key, .int .i64 value, .int .i64 ask, .bool yes, .slice sa sl sc] 69)) #[.int .i64 kind, .int .i64 site, .int .i64 num, .int .i64 key, .int .i64 value, .int .i64 ask, .bool yes, .slice sa' sl sc'] 69 8 rfl
  have hS := sameInts_rec sa sa' sl sc sc' zs W (h.below hB) (h'.below hB)
  have a0 : W.cell? ⟨w.heap.size, 0, none⟩ = some (.int .i64 kind) := (bx1.c 0 (by omega)).1
  have a1 : W.cell? ⟨w.heap.size, 1, none⟩ = some (.int .i64 site) := (bx1.c 1 (by omega)).1
  have a2 : W.cell? ⟨w.heap.size, 2, none⟩ = some (.int .i64 num) := (bx1.c 2 (by omega)).1
  have a3 : W.cell? ⟨w.heap.size, 3, none⟩ = some (.int .i64 key) := (bx1.c 3 (by omega)).1
  have a4 : W.cell? ⟨w.heap.size, 4, none⟩ = some (.int .i64 value) := (bx1.c 4 (by omega)).1
  have a5 : W.cell? ⟨w.heap.size, 5, none⟩ = some (.int .i64 ask) := (bx1.c 5 (by omega)).1
  have a6 : W.cell? ⟨w.heap.size, 6, none⟩ = some (.bool yes) := (bx1.c 6 (by omega)).1
  have a7 : W.cell? ⟨w.heap.size, 7, none⟩ = some (.slice sa sl sc) := (bx1.c 7 (by omega)).1
  have b0 : W.cell? ⟨w.heap.size + 1, 0, none⟩ = some (.int .i64 kind) := (bx2.c 0 (by omega)).1
  have b1 : W.cell? ⟨w.heap.size + 1, 1, none⟩ = some (.int .i64 site) := (bx2.c 1 (by omega)).1
  have b2 : W.cell? ⟨w.heap.size + 1, 2, none⟩ = some (.int .i64 num) := (bx2.c 2 (by omega)).1
  have b3 : W.cell? ⟨w.heap.size + 1, 3, none⟩ = some (.int .i64 key) := (bx2.c 3 (by omega)).1
  have b4 : W.cell? ⟨w.heap.size + 1, 4, none⟩ = some (.int .i64 value) := (bx2.c 4 (by omega)).1
  have b5 : W.cell? ⟨w.heap.size + 1, 5, none⟩ = some (.int .i64 ask) := (bx2.c 5 (by omega)).1
  have b6 : W.cell? ⟨w.heap.size + 1, 6, none⟩ = some (.bool yes) := (bx2.c 6 (by omega)).1
  have b7 : W.cell? ⟨w.heap.size + 1, 7, none⟩ = some (.slice sa' sl sc') := (bx2.c 7 (by omega)).1
  clear bx1 bx2
  go_enter Tryd.func22, Tryd.ntmps22
  go_upto_region 1 with (fail)
  rw [← hW]
  clear hW
  go_wp2_with (go_at_call 59; refine hS.mono ?_; rintro e u ⟨rfl, hbu⟩)
  go_ret
  exact ⟨rfl, hB.trans (hbu.mono hB.size)⟩
end Go.Proofs.YtcmjcopopkafnaaDoor
/- The walk of the law HearWrite: at any numbers it returns true and leaves what was in memory. -/
namespace Go.Proofs.YtcmjcopopkafnaaDoor.Pt
open Go.ChangeShapes Go.WideShapes Go.ChangeAt Go.RowKit
open Go.Proofs.YtcmjcopopkafnaaDoor.St (SV PS IsStore IsRow storeOK TxWf BoxN boxn_new OwnStore flat isOne own_isRow isRow_nil IsRaws Gd OKP cntErr cntIs endErr endData txOK wOf ofT readVal readVer readErr readData peekVal peekVer peekErr writeErr writeData stillIs refErr)
set_option linter.unusedVariables false

theorem isInts_nil (u : World) : IsInts u none 0 0 [] := ⟨rfl, Nat.le_refl _, by unfold maxLen; omega, fun i => by simp, fun h => absurd h (by omega)⟩
theorem bd_of {v : Int} (wv : (Lit.int .i64 v).wf = true) : -9223372036854775808 ≤ v ∧ v ≤ 9223372036854775807 := by
  simp [Lit.wf, IntKind.min, IntKind.max, IntKind.signed, IntKind.bits] at wv
  omega
theorem gd_fresh0 {p : PS} {v : Int} (h : Gd p v) {b : Int} (h3 : 3 ≤ b) (h4 : b ≤ 100) : St.Fresh p ((0 : Int), b) := by
  have key : ¬ St.isT ((0 : Int), b) := by
    simp only [St.isT, List.mem_cons, List.not_mem_nil, or_false, Prod.mk.injEq]
    omega
  refine ⟨fun k hk e => key (e ▸ (h.lt k hk).1), fun e => key (h.ot _ e), fun d hd e => ?_, ?_⟩
  · obtain ⟨k, hk, e2⟩ := h.ok.dl d hd
    exact key (by rw [← e, ← e2]; exact (h.lt k hk).1)
  · simp only [txOK, Bool.and_eq_true]
    exact ⟨St.inR_true (by decide) (by decide), St.inR_true (by show (1 : Int) ≤ b; omega) (by show b ≤ 1048576; omega)⟩
theorem write_two {r : SV} {n k v : Int} (h1 : storeOK r = true) (n1 : 1 ≤ n) (n2 : n ≤ 1048576) (k1 : 0 ≤ k) (k2 : k ≤ 7) (v1 : 0 ≤ v) (v2 : v ≤ 1073741824) : hearErr 1 LS2 3 0 0 2 [r, SV.nil] ⟨2, 0, 0, 0, n, 0, k, v, 0, 1, false, 0⟩ = 0 := by
  have hm : msgFault 1 LS2 3 ⟨2, 0, 0, 0, n, 0, k, v, 0, 1, false, 0⟩ = 0 := by
    refine mf_ok cfg2 rfl ?_ ?_
    · unfold msgRange txnOK partsOK
      simp only [MV.parts, topL, inTops, inT n1 n2, inT k1 k2, inT v1 v2]
      rfl
    · simp [msgForm, MV.parts, mHasOf, mHas, hasAll, bit]
  unfold hearErr
  rw [if_pos (site_two h1 nil_ok (by omega) (by omega)), if_pos hm, if_pos rfl, if_neg (by simp), if_pos (by simp)]
set_option maxRecDepth 100000 in
set_option maxHeartbeats 8000000 in
theorem hearWrite_walk (a : Option Addr) (len cap : Nat) (rs : List St.RV) (rv : St.RV) (key value room : Int) (w : World) (hr : IsRaws w a len cap rs) (hrv : rv.ok) (wk1 : (Lit.int .i64 key).wf = true) (wv1 : (Lit.int .i64 value).wf = true) (wr1 : (Lit.int .i64 room).wf = true) (hHa : HasAt w 0 mHas) (hTo : TopsAt w) :
    Calls Tryd.prog 6 #[.slice a len cap, rv.val, .int .i64 key, .int .i64 value, .int .i64 room] w fun e w' => e = .returned (.bool true) ∧ Below w.heap.size w w' := by
  obtain ⟨wk, wa, wb, wc', wd, we⟩ := rv
  have hab := hrv.2.1
  simp only [St.RV.val] at hab ⊢
  have bdk := bd_of wk1
  have bdv := bd_of wv1
  have bdr := bd_of wr1
  clear wk1 wv1 wr1
  have hab2 : -9223372036854775808 ≤ wa ∧ wa ≤ 9223372036854775807 := hab
  have hkp := pk_bd key 8 (by omega)
  have hPKK := fun u => picked_any key 8 u bdk (by omega) (by omega)
  obtain ⟨KK, eKK⟩ : ∃ x, x = pk key 8 := ⟨_, rfl⟩
  rw [← eKK] at hkp hPKK
  clear eKK
  obtain ⟨lKK, uKK⟩ := hkp
  have hkp := pk_bd room 1000 (by omega)
  have hPKN := fun u => picked_any room 1000 u bdr (by omega) (by omega)
  obtain ⟨KN, eKN⟩ : ∃ x, x = pk room 1000 := ⟨_, rfl⟩
  rw [← eKN] at hkp hPKN
  clear eKN
  obtain ⟨lKN, uKN⟩ := hkp
  clear hrv
  have hTw := fun u => two_any 0 u (by omega)
  have e03 : (1 : Int) + pk 0 3 = 1 := by decide
  rw [e03] at hTw
  clear e03
  have hgT : 1 < w.heap.size := World.block_lt_of_cell? w _ hTo.1
  have hgM : 0 < w.heap.size := hHa.lt (by decide)
  have KT : Hid (∀ U, Below w.heap.size w U → HasAt U 0 mHas ∧ TopsAt U) := fun U hU => ⟨hHa.below hU hgM, hTo.below hU hgT⟩
  clear hHa hTo hgT hgM
  have kA := pk_bd wa 9 (by omega)
  have kV := pk_bd value 99 (by omega)
  have hwrap : IntKind.i64.wrap (5 + pk wa 9) = 5 + pk wa 9 := by simp [IntKind.wrap, IntKind.bits, IntKind.signed]; omega
  obtain ⟨W, hW⟩ : ∃ W : World, W = w.alloc (.cells #[.int .i64 wk, .int .i64 wa, .int .i64 wb, .int .i64 wc', .int .i64 wd, .int .i64 we] 24) := ⟨_, rfl⟩
  have bw : Below w.heap.size w W := by rw [hW]; exact (Below.refl _ _).alloc (Nat.le_refl _) _
  have rb : BoxN W w.heap.size 6 [.int .i64 wk, .int .i64 wa, .int .i64 wb, .int .i64 wc', .int .i64 wd, .int .i64 we] := by rw [hW]; exact boxn_new w #[.int .i64 wk, .int .i64 wa, .int .i64 wb, .int .i64 wc', .int .i64 wd, .int .i64 we] 24 6 rfl
  replace hr := hr.below bw
  go_enter Tryd.func6, Tryd.ntmps6
  go_upto_region 1 with (fail)
  rw [← hW]
  clear hW
  go_upto_region 2 with (go_at_call 8; refine (hTw _).mono ?_; rintro e w1 ⟨g0, rfl, hl, hg0, hb1⟩)
  replace rb := rb.below hb1 rb.lt
  replace bw := bw.trans (hb1.mono bw.size)
  replace hr := hr.below hb1
  obtain ⟨X1, eX1⟩ : ∃ X : World, X = w1.alloc (.cells #[.int .i64 1, .slice (some ⟨g0, 0, none⟩) 2 2, .int .i64 3] 27) := ⟨_, rfl⟩
  have cb : BoxN X1 w1.heap.size 3 [.int .i64 1, .slice (some ⟨g0, 0, none⟩) 2 2, .int .i64 3] := by rw [eX1]; exact boxn_new w1 #[.int .i64 1, .slice (some ⟨g0, 0, none⟩) 2 2, .int .i64 3] 27 3 rfl
  have bX1 : Below w1.heap.size w1 X1 := by rw [eX1]; exact (Below.refl _ _).alloc (Nat.le_refl _) _
  rw [← eX1]
  clear eX1
  replace rb := rb.below bX1 rb.lt
  replace bw := bw.trans (bX1.mono bw.size)
  replace hr := hr.below bX1
  replace hl := hl.below bX1
  go_upto_region 3 with (go_at_call 11; refine (St.store_made a len cap rs 25 _ hr (by omega)).mono ?_; rintro e w2 ⟨⟨ra0, rn0, rc0, ra1, rn1, rc1, ra2, rn2, rc2, ra3, rn3, rc3, ri, rl, rd, ro⟩, rfl, hO, hG, hb2⟩; simp only [SV.val])
  replace rb := rb.below hb2 rb.lt
  replace cb := cb.below hb2 cb.lt
  replace bw := bw.trans (hb2.mono bw.size)
  replace hr := hr.below hb2
  replace hl := hl.below hb2
  have hS := hO.isStore
  clear hO hr
  obtain ⟨X2, eX2⟩ : ∃ X : World, X = w2.alloc (.cells #[.slice ra0 rn0 rc0, .slice ra1 rn1 rc1, .slice ra2 rn2 rc2, .slice ra3 rn3 rc3] 41) := ⟨_, rfl⟩
  have sb : BoxN X2 w2.heap.size 4 [.slice ra0 rn0 rc0, .slice ra1 rn1 rc1, .slice ra2 rn2 rc2, .slice ra3 rn3 rc3] := by rw [eX2]; exact boxn_new w2 #[.slice ra0 rn0 rc0, .slice ra1 rn1 rc1, .slice ra2 rn2 rc2, .slice ra3 rn3 rc3] 41 4 rfl
  have bX2 : Below w2.heap.size w2 X2 := by rw [eX2]; exact (Below.refl _ _).alloc (Nat.le_refl _) _
  rw [← eX2]
  clear eX2
  replace rb := rb.below bX2 rb.lt
  replace cb := cb.below bX2 cb.lt
  replace bw := bw.trans (bX2.mono bw.size)
  replace hl := hl.below bX2
  replace hS := hS.below bX2
  have rb_1 : X2.cell? ⟨w.heap.size, 1, none⟩ = some (.int .i64 wa) := (rb.c 1 (by decide)).1
  have rb_z := rb.lt
  go_upto_region 4 with (go_at_call 10; refine (hPKK _).mono ?_; rintro e u ⟨rfl, hu⟩; rw [hu]; clear hu)
  go_upto_region 5 with (go_at_call 10; refine (hPKN _).mono ?_; rintro e u ⟨rfl, hu⟩; rw [hu]; clear hu)
  go_upto_region 6 with (go_at_call 10; refine (picked_any _ _ _ (by assumption) (by decide) (by decide)).mono ?_; rintro e u ⟨rfl, hu⟩; rw [hu]; clear hu)
  obtain ⟨KA, eKA⟩ : ∃ x, x = pk wa 9 := ⟨_, rfl⟩
  obtain ⟨KV, eKV⟩ : ∃ x, x = pk value 99 := ⟨_, rfl⟩
  rw [← eKA] at kA hwrap ⊢
  rw [← eKV] at kV ⊢
  clear eKA eKV
  obtain ⟨lKA, uKA⟩ := kA
  obtain ⟨lKV, uKV⟩ := kV
  clear rb_1 rb_z
  clear rb hPKK hPKN
  obtain ⟨X3, eX3⟩ : ∃ X : World, X = X2.alloc (.cells #[.int .i64 2, .int .i64 0, .int .i64 0, .int .i64 0, .int .i64 (5 + KA), .int .i64 0, .int .i64 KK, .int .i64 KV, .int .i64 0, .int .i64 1, .bool false, .int .i64 0] 33) := ⟨_, rfl⟩
  have mb : BoxN X3 X2.heap.size 12 [.int .i64 2, .int .i64 0, .int .i64 0, .int .i64 0, .int .i64 (5 + KA), .int .i64 0, .int .i64 KK, .int .i64 KV, .int .i64 0, .int .i64 1, .bool false, .int .i64 0] := by rw [eX3]; exact boxn_new X2 #[.int .i64 2, .int .i64 0, .int .i64 0, .int .i64 0, .int .i64 (5 + KA), .int .i64 0, .int .i64 KK, .int .i64 KV, .int .i64 0, .int .i64 1, .bool false, .int .i64 0] 33 12 rfl
  have bX3 : Below X2.heap.size X2 X3 := by rw [eX3]; exact (Below.refl _ _).alloc (Nat.le_refl _) _
  rw [← eX3]
  clear eX3
  replace cb := cb.below bX3 cb.lt
  replace sb := sb.below bX3 sb.lt
  replace bw := bw.trans (bX3.mono bw.size)
  replace hl := hl.below bX3
  replace hS := hS.below bX3
  have hok : storeOK ⟨ra0, rn0, rc0, ra1, rn1, rc1, ra2, rn2, rc2, ra3, rn3, rc3, ri, rl, rd, ro⟩ = true := hG.ok.ok
  have hwf := hG.wf
  have h4o := hG.h4 hS
  have hver : ∀ y ∈ ri, y.version ≤ 1048000 := fun y hy => by have := hG.ver y hy; omega
  have hFr := gd_fresh0 hG (b := 5 + KA) (by omega) (by omega)
  have h22 : rl.length ≤ 22 := by have := hG.locks20; simp only [SV.data] at this; omega
  obtain ⟨hfB, hfO⟩ := St.write_fresh (s := ⟨ra0, rn0, rc0, ra1, rn1, rc1, ra2, rn2, rc2, ra3, rn3, rc3, ri, rl, rd, ro⟩) (x := ((0 : Int), 5 + KA)) (k := KK) (va := KV) (ask := 1) hG.ok h22 hFr (St.inR_true lKK (by omega)) (St.inR_true lKV (by omega)) (by decide) hver
  have hHr := fun sa sc w' h1 h2 h3 h4 => hear_any 1 3 (some ⟨g0, 0, none⟩) 2 2 LS2 0 0 sa 2 sc [⟨ra0, rn0, rc0, ra1, rn1, rc1, ra2, rn2, rc2, ra3, rn3, rc3, ri, rl, rd, ro⟩, SV.nil] none 0 0 [] KN ⟨2, 0, 0, 0, 5 + KA, 0, KK, KV, 0, 1, false, 0⟩ w' h1 h2 (isRow_nil _ _ _) (by omega) (ov2 (r := ⟨ra0, rn0, rc0, ra1, rn1, rc1, ra2, rn2, rc2, ra3, rn3, rc3, ri, rl, rd, ro⟩) (q := SV.nil) h4o (by decide)) h3 h4
  have hE1 := write_two (r := ⟨ra0, rn0, rc0, ra1, rn1, rc1, ra2, rn2, rc2, ra3, rn3, rc3, ri, rl, rd, ro⟩) (n := 5 + KA) (k := KK) (v := KV) hok (by omega) (by omega) lKK (by omega) lKV (by omega)
  have hWt := fun U h1 => St.write_own ⟨ra0, rn0, rc0, ra1, rn1, rc1, ra2, rn2, rc2, ra3, rn3, rc3, ri, rl, rd, ro⟩ ((0 : Int), 5 + KA) KK KV 1 U h1 hwf h4o
  obtain ⟨E, WE, hcase, HD1, hWE⟩ : ∃ E WE : Int, ((WE = 11 ∧ E = 11) ∨ (WE = 0 ∧ KN < 500 ∧ E = 8) ∨ (WE = 0 ∧ 500 ≤ KN ∧ E = 0 ∧ St.Plus (SV.data ⟨ra0, rn0, rc0, ra1, rn1, rc1, ra2, rn2, rc2, ra3, rn3, rc3, ri, rl, rd, ro⟩) (writeData ⟨ra0, rn0, rc0, ra1, rn1, rc1, ra2, rn2, rc2, ra3, rn3, rc3, ri, rl, rd, ro⟩ ((0 : Int), 5 + KA) KK KV 1) ⟨((0 : Int), 5 + KA), KK, true, KV, 1⟩ ∧ OKP (writeData ⟨ra0, rn0, rc0, ra1, rn1, rc1, ra2, rn2, rc2, ra3, rn3, rc3, ri, rl, rd, ro⟩ ((0 : Int), 5 + KA) KK KV 1))) ∧ Hid (hearD 1 LS2 3 0 0 2 [⟨ra0, rn0, rc0, ra1, rn1, rc1, ra2, rn2, rc2, ra3, rn3, rc3, ri, rl, rd, ro⟩, SV.nil] [] KN ⟨2, 0, 0, 0, 5 + KA, 0, KK, KV, 0, 1, false, 0⟩ = ⟨if E = 0 then writeData ⟨ra0, rn0, rc0, ra1, rn1, rc1, ra2, rn2, rc2, ra3, rn3, rc3, ri, rl, rd, ro⟩ ((0 : Int), 5 + KA) KK KV 1 else SV.data ⟨ra0, rn0, rc0, ra1, rn1, rc1, ra2, rn2, rc2, ra3, rn3, rc3, ri, rl, rd, ro⟩, [⟨6, 0, 0, 0, 5 + KA, 0, KK, 0, 0, 1, false, E⟩], if E = 0 then [⟨1, 0, 5 + KA, KK, KV, 1, false⟩] else [], []⟩) ∧ writeErr ⟨ra0, rn0, rc0, ra1, rn1, rc1, ra2, rn2, rc2, ra3, rn3, rc3, ri, rl, rd, ro⟩ ((0 : Int), 5 + KA) KK KV 1 = WE := by
    have hD : hearD 1 LS2 3 0 0 2 [⟨ra0, rn0, rc0, ra1, rn1, rc1, ra2, rn2, rc2, ra3, rn3, rc3, ri, rl, rd, ro⟩, SV.nil] [] KN ⟨2, 0, 0, 0, 5 + KA, 0, KK, KV, 0, 1, false, 0⟩ = writeD ⟨ra0, rn0, rc0, ra1, rn1, rc1, ra2, rn2, rc2, ra3, rn3, rc3, ri, rl, rd, ro⟩ KN ⟨2, 0, 0, 0, 5 + KA, 0, KK, KV, 0, 1, false, 0⟩ ⟨SV.data ⟨ra0, rn0, rc0, ra1, rn1, rc1, ra2, rn2, rc2, ra3, rn3, rc3, ri, rl, rd, ro⟩, [], [], []⟩ := by unfold hearD; rw [if_pos hE1]; rfl
    have hmt : mtx ⟨2, 0, 0, 0, 5 + KA, 0, KK, KV, 0, 1, false, 0⟩ = ((0 : Int), 5 + KA) := rfl
    cases hany : rl.any (St.othT ((0 : Int), 5 + KA) KK) with
    | true =>
      have h := hfB hany
      refine ⟨11, 11, Or.inl ⟨rfl, rfl⟩, ?_, h⟩
      show _ = _
      rw [hD]; unfold writeD doneM wrE
      simp only [hmt, h]
      rfl
    | false =>
      obtain ⟨h, hdt⟩ := hfO hany
      by_cases hk : KN < 500
      · refine ⟨8, 0, Or.inr (Or.inl ⟨rfl, hk, rfl⟩), ?_, h⟩
        show _ = _
        rw [hD]; unfold writeD doneM wrE
        simp only [hmt, h, hk, and_self, if_true]
        rfl
      · refine ⟨0, 0, Or.inr (Or.inr ⟨rfl, by omega, rfl, St.Plus.of hdt, St.write_ok h⟩), ?_, h⟩
        show _ = _
        rw [hD]; unfold writeD doneM wrE
        simp only [hmt, h, hk, and_false, if_false]
        rfl
  rw [hE1] at hHr
  rw [hWE] at hWt
  obtain ⟨WDt, eWDt⟩ : ∃ x, x = writeData ⟨ra0, rn0, rc0, ra1, rn1, rc1, ra2, rn2, rc2, ra3, rn3, rc3, ri, rl, rd, ro⟩ ((0 : Int), 5 + KA) KK KV 1 := ⟨_, rfl⟩
  rw [← eWDt] at hcase HD1 hWt
  clear eWDt hfB hfO hWE hE1 h22 hver
  have HFr : Hid (St.Fresh (SV.data ⟨ra0, rn0, rc0, ra1, rn1, rc1, ra2, rn2, rc2, ra3, rn3, rc3, ri, rl, rd, ro⟩) ((0 : Int), 5 + KA)) := hFr
  have HCase : Hid ((WE = 11 ∧ E = 11) ∨ (WE = 0 ∧ KN < 500 ∧ E = 8) ∨ (WE = 0 ∧ 500 ≤ KN ∧ E = 0 ∧ St.Plus (SV.data ⟨ra0, rn0, rc0, ra1, rn1, rc1, ra2, rn2, rc2, ra3, rn3, rc3, ri, rl, rd, ro⟩) WDt ⟨((0 : Int), 5 + KA), KK, true, KV, 1⟩ ∧ OKP WDt)) := hcase
  clear hFr hcase
  simp only [SV.val, MV.val] at hWt hHr
  have cb_0 : X3.cell? ⟨w1.heap.size, 0, none⟩ = some (.int .i64 1) := (cb.c 0 (by decide)).1
  have cb_1 : X3.cell? ⟨w1.heap.size, 1, none⟩ = some (.slice (some ⟨g0, 0, none⟩) 2 2) := (cb.c 1 (by decide)).1
  have cb_2 : X3.cell? ⟨w1.heap.size, 2, none⟩ = some (.int .i64 3) := (cb.c 2 (by decide)).1
  have cb_z := cb.lt
  have sb_0 : X3.cell? ⟨w2.heap.size, 0, none⟩ = some (.slice ra0 rn0 rc0) := (sb.c 0 (by decide)).1
  have sb_1 : X3.cell? ⟨w2.heap.size, 1, none⟩ = some (.slice ra1 rn1 rc1) := (sb.c 1 (by decide)).1
  have sb_2 : X3.cell? ⟨w2.heap.size, 2, none⟩ = some (.slice ra2 rn2 rc2) := (sb.c 2 (by decide)).1
  have sb_3 : X3.cell? ⟨w2.heap.size, 3, none⟩ = some (.slice ra3 rn3 rc3) := (sb.c 3 (by decide)).1
  have sb_z := sb.lt
  have mb_0 : X3.cell? ⟨X2.heap.size, 0, none⟩ = some (.int .i64 2) := (mb.c 0 (by decide)).1
  have mb_1 : X3.cell? ⟨X2.heap.size, 1, none⟩ = some (.int .i64 0) := (mb.c 1 (by decide)).1
  have mb_2 : X3.cell? ⟨X2.heap.size, 2, none⟩ = some (.int .i64 0) := (mb.c 2 (by decide)).1
  have mb_3 : X3.cell? ⟨X2.heap.size, 3, none⟩ = some (.int .i64 0) := (mb.c 3 (by decide)).1
  have mb_4 : X3.cell? ⟨X2.heap.size, 4, none⟩ = some (.int .i64 (5 + KA)) := (mb.c 4 (by decide)).1
  have mb_5 : X3.cell? ⟨X2.heap.size, 5, none⟩ = some (.int .i64 0) := (mb.c 5 (by decide)).1
  have mb_6 : X3.cell? ⟨X2.heap.size, 6, none⟩ = some (.int .i64 KK) := (mb.c 6 (by decide)).1
  have mb_7 : X3.cell? ⟨X2.heap.size, 7, none⟩ = some (.int .i64 KV) := (mb.c 7 (by decide)).1
  have mb_8 : X3.cell? ⟨X2.heap.size, 8, none⟩ = some (.int .i64 0) := (mb.c 8 (by decide)).1
  have mb_9 : X3.cell? ⟨X2.heap.size, 9, none⟩ = some (.int .i64 1) := (mb.c 9 (by decide)).1
  have mb_10 : X3.cell? ⟨X2.heap.size, 10, none⟩ = some (.bool false) := (mb.c 10 (by decide)).1
  have mb_11 : X3.cell? ⟨X2.heap.size, 11, none⟩ = some (.int .i64 0) := (mb.c 11 (by decide)).1
  have mb_z := mb.lt
  obtain ⟨Y1, eY1⟩ : ∃ X : World, X = X3.alloc (.cells #[.slice ra0 rn0 rc0, .slice ra1 rn1 rc1, .slice ra2 rn2 rc2, .slice ra3 rn3 rc3, .slice none 0 0, .slice none 0 0, .slice none 0 0, .slice none 0 0] 41) := ⟨_, rfl⟩
  have hSS : IsStores Y1 (some ⟨X3.heap.size, 0, none⟩) 2 2 [⟨ra0, rn0, rc0, ra1, rn1, rc1, ra2, rn2, rc2, ra3, rn3, rc3, ri, rl, rd, ro⟩, SV.nil] := by rw [eY1]; exact two_stores (r := ⟨ra0, rn0, rc0, ra1, rn1, rc1, ra2, rn2, rc2, ra3, rn3, rc3, ri, rl, rd, ro⟩) hS hwf
  have bY1 : Below X3.heap.size X3 Y1 := by rw [eY1]; exact (Below.refl _ _).alloc (Nat.le_refl _) _
  have hKT := KT.out _ (bw.trans (bY1.mono bw.size))
  go_upto_region 7 with (go_at_call 12; rw [← eY1]; refine (hHr _ _ _ (hl.below bY1) hSS hKT.1 hKT.2).mono ?_; rintro e w5 ⟨⟨⟨va0, vn0, vc0, va1, vn1, vc1, va2, vn2, vc2, va3, vn3, vc3, vi, vl, vd, vo⟩, va4, vn4, vc4, va5, vn5, vc5, va6, vn6, vc6, vms, vrs, vns⟩, rfl, hI, hd, hb5, _⟩; simp only [AnsV.val])
  clear hHr hSS eY1 hKT
  have hc5 : Below X3.heap.size X3 w5 := bY1.trans (hb5.mono bY1.size)
  clear cb_0 cb_1 cb_2 cb_z sb_0 sb_1 sb_2 sb_3 sb_z mb_0 mb_1 mb_2 mb_3 mb_4 mb_5 mb_6 mb_7 mb_8 mb_9 mb_10 mb_11 mb_z
  replace cb := cb.below hc5 cb.lt
  replace sb := sb.below hc5 sb.lt
  replace mb := mb.below hc5 mb.lt
  replace bw := bw.trans (hc5.mono bw.size)
  replace hl := hl.below hc5
  replace hS := hS.below hc5
  obtain ⟨X4, eX4⟩ : ∃ X : World, X = w5.alloc (.cells #[.slice va0 vn0 vc0, .slice va1 vn1 vc1, .slice va2 vn2 vc2, .slice va3 vn3 vc3, .slice va4 vn4 vc4, .slice va5 vn5 vc5, .slice va6 vn6 vc6] 48) := ⟨_, rfl⟩
  have ab : BoxN X4 w5.heap.size 7 [.slice va0 vn0 vc0, .slice va1 vn1 vc1, .slice va2 vn2 vc2, .slice va3 vn3 vc3, .slice va4 vn4 vc4, .slice va5 vn5 vc5, .slice va6 vn6 vc6] := by rw [eX4]; exact boxn_new w5 #[.slice va0 vn0 vc0, .slice va1 vn1 vc1, .slice va2 vn2 vc2, .slice va3 vn3 vc3, .slice va4 vn4 vc4, .slice va5 vn5 vc5, .slice va6 vn6 vc6] 48 7 rfl
  have bX4 : Below w5.heap.size w5 X4 := by rw [eX4]; exact (Below.refl _ _).alloc (Nat.le_refl _) _
  rw [← eX4]
  clear eX4
  replace cb := cb.below bX4 cb.lt
  replace sb := sb.below bX4 sb.lt
  replace mb := mb.below bX4 mb.lt
  replace bw := bw.trans (bX4.mono bw.size)
  replace hl := hl.below bX4
  replace hS := hS.below bX4
  replace hI := hI.below bX4
  rw [HD1.out] at hd
  have ed : SV.data ⟨va0, vn0, vc0, va1, vn1, vc1, va2, vn2, vc2, va3, vn3, vc3, vi, vl, vd, vo⟩ = if E = 0 then WDt else SV.data ⟨ra0, rn0, rc0, ra1, rn1, rc1, ra2, rn2, rc2, ra3, rn3, rc3, ri, rl, rd, ro⟩ := congrArg AD.st hd
  have em : vms = [⟨6, 0, 0, 0, 5 + KA, 0, KK, 0, 0, 1, false, E⟩] := congrArg AD.ms hd
  have er : vrs = if E = 0 then [⟨1, 0, 5 + KA, KK, KV, 1, false⟩] else [] := congrArg AD.rs hd
  have hml : vn4 = 1 := by have := hI.ms.1; simp only [] at this; rw [em] at this; exact this.symm
  clear hd HD1
  subst em
  subst hml
  have HED : Hid (SV.data ⟨va0, vn0, vc0, va1, vn1, vc1, va2, vn2, vc2, va3, vn3, vc3, vi, vl, vd, vo⟩ = if E = 0 then WDt else SV.data ⟨ra0, rn0, rc0, ra1, rn1, rc1, ra2, rn2, rc2, ra3, rn3, rc3, ri, rl, rd, ro⟩) := ed
  have HER : Hid (vrs = if E = 0 then [⟨1, 0, 5 + KA, KK, KV, 1, false⟩] else []) := er
  clear ed er
  have sb_0 : X4.cell? ⟨w2.heap.size, 0, none⟩ = some (.slice ra0 rn0 rc0) := (sb.c 0 (by decide)).1
  have sb_1 : X4.cell? ⟨w2.heap.size, 1, none⟩ = some (.slice ra1 rn1 rc1) := (sb.c 1 (by decide)).1
  have sb_2 : X4.cell? ⟨w2.heap.size, 2, none⟩ = some (.slice ra2 rn2 rc2) := (sb.c 2 (by decide)).1
  have sb_3 : X4.cell? ⟨w2.heap.size, 3, none⟩ = some (.slice ra3 rn3 rc3) := (sb.c 3 (by decide)).1
  have sb_z := sb.lt
  have mb_3 : X4.cell? ⟨X2.heap.size, 3, none⟩ = some (.int .i64 0) := (mb.c 3 (by decide)).1
  have mb_4 : X4.cell? ⟨X2.heap.size, 4, none⟩ = some (.int .i64 (5 + KA)) := (mb.c 4 (by decide)).1
  have mb_7 : X4.cell? ⟨X2.heap.size, 7, none⟩ = some (.int .i64 KV) := (mb.c 7 (by decide)).1
  have mb_z := mb.lt
  go_upto_region 8 with (go_at_call 18; refine (hWt _ hS).mono ?_; rintro e w6 ⟨⟨qa0, qn0, qc0, qa1, qn1, qc1, qa2, qn2, qc2, qa3, qn3, qc3, qi, ql, qd, qo⟩, rfl, _, _, hb6⟩)
  clear hWt
  clear sb_0 sb_1 sb_2 sb_3 sb_z mb_3 mb_4 mb_7 mb_z
  replace cb := cb.below hb6 cb.lt
  replace sb := sb.below hb6 sb.lt
  replace mb := mb.below hb6 mb.lt
  replace ab := ab.below hb6 ab.lt
  replace bw := bw.trans (hb6.mono bw.size)
  replace hl := hl.below hb6
  replace hS := hS.below hb6
  replace hI := hI.below hb6
  obtain ⟨X5, eX5⟩ : ∃ X : World, X = w6.alloc (.cells #[.slice qa0 qn0 qc0, .slice qa1 qn1 qc1, .slice qa2 qn2 qc2, .slice qa3 qn3 qc3] 41) := ⟨_, rfl⟩
  have qb : BoxN X5 w6.heap.size 4 [.slice qa0 qn0 qc0, .slice qa1 qn1 qc1, .slice qa2 qn2 qc2, .slice qa3 qn3 qc3] := by rw [eX5]; exact boxn_new w6 #[.slice qa0 qn0 qc0, .slice qa1 qn1 qc1, .slice qa2 qn2 qc2, .slice qa3 qn3 qc3] 41 4 rfl
  have bX5 : Below w6.heap.size w6 X5 := by rw [eX5]; exact (Below.refl _ _).alloc (Nat.le_refl _) _
  rw [← eX5]
  clear eX5
  replace cb := cb.below bX5 cb.lt
  replace sb := sb.below bX5 sb.lt
  replace mb := mb.below bX5 mb.lt
  replace ab := ab.below bX5 ab.lt
  replace bw := bw.trans (bX5.mono bw.size)
  replace hl := hl.below bX5
  replace hS := hS.below bX5
  replace hI := hI.below bX5
  clear qb
  have hMa := hI.ms
  have hRa := hI.rs
  have hSa := hI.st
  simp only [] at hMa hRa hSa
  clear hI
  obtain ⟨m1, mo, rfl, zm1, hmc⟩ := hMa.2.2.2.2 (by omega)
  have p0 := hmc 0 (by omega) 0 (by decide)
  have p11 := hmc 0 (by omega) 11 (by decide)
  simp only [List.getD_cons_zero, mcells, List.getElem?_cons_zero, List.getElem?_cons_succ, Nat.zero_mul, Nat.add_zero] at p0 p11
  clear hmc hMa
  rcases HCase.out with ⟨hw0, he0⟩ | ⟨hw0, hk0, he0⟩ | ⟨hw0, hk0, he0, hPl, hokW⟩
  · subst hw0
    subst he0
    have hrl : vn5 = 0 := by
      have h1 : vrs.length = vn5 := hRa.1
      rw [← h1, HER.out]; rfl
    subst hrl
    have ed : SV.data ⟨va0, vn0, vc0, va1, vn1, vc1, va2, vn2, vc2, va3, vn3, vc3, vi, vl, vd, vo⟩ = SV.data ⟨ra0, rn0, rc0, ra1, rn1, rc1, ra2, rn2, rc2, ra3, rn3, rc3, ri, rl, rd, ro⟩ := HED.out
    have hSm := St.keptStore_any ⟨va0, vn0, vc0, va1, vn1, vc1, va2, vn2, vc2, va3, vn3, vc3, vi, vl, vd, vo⟩ ⟨ra0, rn0, rc0, ra1, rn1, rc1, ra2, rn2, rc2, ra3, rn3, rc3, ri, rl, rd, ro⟩ X5 hSa hS ed
    simp only [SV.val] at hSm
    have ab_0 : X5.cell? ⟨w5.heap.size, 0, none⟩ = some (.slice va0 vn0 vc0) := (ab.c 0 (by decide)).1
    have ab_1 : X5.cell? ⟨w5.heap.size, 1, none⟩ = some (.slice va1 vn1 vc1) := (ab.c 1 (by decide)).1
    have ab_2 : X5.cell? ⟨w5.heap.size, 2, none⟩ = some (.slice va2 vn2 vc2) := (ab.c 2 (by decide)).1
    have ab_3 : X5.cell? ⟨w5.heap.size, 3, none⟩ = some (.slice va3 vn3 vc3) := (ab.c 3 (by decide)).1
    have ab_4 : X5.cell? ⟨w5.heap.size, 4, none⟩ = some (.slice (some ⟨m1, mo, none⟩) 1 vc4) := (ab.c 4 (by decide)).1
    have ab_5 : X5.cell? ⟨w5.heap.size, 5, none⟩ = some (.slice va5 0 vc5) := (ab.c 5 (by decide)).1
    have ab_6 : X5.cell? ⟨w5.heap.size, 6, none⟩ = some (.slice va6 vn6 vc6) := (ab.c 6 (by decide)).1
    have ab_z := ab.lt
    have sb_0 : X5.cell? ⟨w2.heap.size, 0, none⟩ = some (.slice ra0 rn0 rc0) := (sb.c 0 (by decide)).1
    have sb_1 : X5.cell? ⟨w2.heap.size, 1, none⟩ = some (.slice ra1 rn1 rc1) := (sb.c 1 (by decide)).1
    have sb_2 : X5.cell? ⟨w2.heap.size, 2, none⟩ = some (.slice ra2 rn2 rc2) := (sb.c 2 (by decide)).1
    have sb_3 : X5.cell? ⟨w2.heap.size, 3, none⟩ = some (.slice ra3 rn3 rc3) := (sb.c 3 (by decide)).1
    have sb_z := sb.lt
    go_wp2_with (go_at_call 17; refine hSm.mono ?_; rintro e w9 ⟨rfl, hb9⟩)
    all_goals
      go_ret
      exact ⟨by simp, bw.trans (hb9.mono bw.size)⟩
  · subst hw0
    subst he0
    have hrl : vn5 = 0 := by
      have h1 : vrs.length = vn5 := hRa.1
      rw [← h1, HER.out]; rfl
    subst hrl
    have ed : SV.data ⟨va0, vn0, vc0, va1, vn1, vc1, va2, vn2, vc2, va3, vn3, vc3, vi, vl, vd, vo⟩ = SV.data ⟨ra0, rn0, rc0, ra1, rn1, rc1, ra2, rn2, rc2, ra3, rn3, rc3, ri, rl, rd, ro⟩ := HED.out
    have hSm := St.keptStore_any ⟨va0, vn0, vc0, va1, vn1, vc1, va2, vn2, vc2, va3, vn3, vc3, vi, vl, vd, vo⟩ ⟨ra0, rn0, rc0, ra1, rn1, rc1, ra2, rn2, rc2, ra3, rn3, rc3, ri, rl, rd, ro⟩ X5 hSa hS ed
    simp only [SV.val] at hSm
    have ab_0 : X5.cell? ⟨w5.heap.size, 0, none⟩ = some (.slice va0 vn0 vc0) := (ab.c 0 (by decide)).1
    have ab_1 : X5.cell? ⟨w5.heap.size, 1, none⟩ = some (.slice va1 vn1 vc1) := (ab.c 1 (by decide)).1
    have ab_2 : X5.cell? ⟨w5.heap.size, 2, none⟩ = some (.slice va2 vn2 vc2) := (ab.c 2 (by decide)).1
    have ab_3 : X5.cell? ⟨w5.heap.size, 3, none⟩ = some (.slice va3 vn3 vc3) := (ab.c 3 (by decide)).1
    have ab_4 : X5.cell? ⟨w5.heap.size, 4, none⟩ = some (.slice (some ⟨m1, mo, none⟩) 1 vc4) := (ab.c 4 (by decide)).1
    have ab_5 : X5.cell? ⟨w5.heap.size, 5, none⟩ = some (.slice va5 0 vc5) := (ab.c 5 (by decide)).1
    have ab_6 : X5.cell? ⟨w5.heap.size, 6, none⟩ = some (.slice va6 vn6 vc6) := (ab.c 6 (by decide)).1
    have ab_z := ab.lt
    have sb_0 : X5.cell? ⟨w2.heap.size, 0, none⟩ = some (.slice ra0 rn0 rc0) := (sb.c 0 (by decide)).1
    have sb_1 : X5.cell? ⟨w2.heap.size, 1, none⟩ = some (.slice ra1 rn1 rc1) := (sb.c 1 (by decide)).1
    have sb_2 : X5.cell? ⟨w2.heap.size, 2, none⟩ = some (.slice ra2 rn2 rc2) := (sb.c 2 (by decide)).1
    have sb_3 : X5.cell? ⟨w2.heap.size, 3, none⟩ = some (.slice ra3 rn3 rc3) := (sb.c 3 (by decide)).1
    have sb_z := sb.lt
    go_wp2_with (go_at_call 17; refine hSm.mono ?_; rintro e w9 ⟨rfl, hb9⟩)
    all_goals
      go_ret
      exact ⟨by simp, bw.trans (hb9.mono bw.size)⟩
  · subst hw0
    subst he0
    have er : vrs = [⟨1, 0, 5 + KA, KK, KV, 1, false⟩] := HER.out
    have hrl : vn5 = 1 := by
      have h1 : vrs.length = vn5 := hRa.1
      rw [← h1, er]; rfl
    subst hrl
    subst er
    have ed : SV.data ⟨va0, vn0, vc0, va1, vn1, vc1, va2, vn2, vc2, va3, vn3, vc3, vi, vl, vd, vo⟩ = WDt := HED.out
    rw [← ed] at hPl hokW
    obtain ⟨hcE, hcI⟩ := St.cnt_plus HFr.out hPl hokW
    have hCn := St.writes_count ⟨va0, vn0, vc0, va1, vn1, vc1, va2, vn2, vc2, va3, vn3, vc3, vi, vl, vd, vo⟩ ((0 : Int), 5 + KA) X5 hSa (St.OKP.wf hokW)
    rw [hcE, hcI] at hCn
    simp only [SV.val] at hCn
    have hk1 : ¬ KN < 500 := by omega
    have ab_0 : X5.cell? ⟨w5.heap.size, 0, none⟩ = some (.slice va0 vn0 vc0) := (ab.c 0 (by decide)).1
    have ab_1 : X5.cell? ⟨w5.heap.size, 1, none⟩ = some (.slice va1 vn1 vc1) := (ab.c 1 (by decide)).1
    have ab_2 : X5.cell? ⟨w5.heap.size, 2, none⟩ = some (.slice va2 vn2 vc2) := (ab.c 2 (by decide)).1
    have ab_3 : X5.cell? ⟨w5.heap.size, 3, none⟩ = some (.slice va3 vn3 vc3) := (ab.c 3 (by decide)).1
    have ab_4 : X5.cell? ⟨w5.heap.size, 4, none⟩ = some (.slice (some ⟨m1, mo, none⟩) 1 vc4) := (ab.c 4 (by decide)).1
    have ab_5 : X5.cell? ⟨w5.heap.size, 5, none⟩ = some (.slice va5 1 vc5) := (ab.c 5 (by decide)).1
    have ab_6 : X5.cell? ⟨w5.heap.size, 6, none⟩ = some (.slice va6 vn6 vc6) := (ab.c 6 (by decide)).1
    have ab_z := ab.lt
    have mb_3 : X5.cell? ⟨X2.heap.size, 3, none⟩ = some (.int .i64 0) := (mb.c 3 (by decide)).1
    have mb_4 : X5.cell? ⟨X2.heap.size, 4, none⟩ = some (.int .i64 (5 + KA)) := (mb.c 4 (by decide)).1
    have mb_7 : X5.cell? ⟨X2.heap.size, 7, none⟩ = some (.int .i64 KV) := (mb.c 7 (by decide)).1
    have mb_z := mb.lt
    go_upto_region 13 with (go_at_call 21; refine hCn.mono ?_; rintro e w7 ⟨rfl, hb7⟩)
    clear ab_0 ab_1 ab_2 ab_3 ab_4 ab_5 ab_6 ab_z mb_3 mb_4 mb_7 mb_z
    replace p11 := (hb7.cell (p := ⟨m1, mo + 11, none⟩) zm1).trans p11
    clear p0 hCn hPl hokW HFr HCase HED HER
    obtain ⟨r1, ro1, rfl, zr1, hrc⟩ := hRa.2.2.2.2 (by omega)
    have o0 := hrc 0 (by omega) 0 (by decide)
    have o1 := hrc 0 (by omega) 1 (by decide)
    have o2 := hrc 0 (by omega) 2 (by decide)
    have o3 := hrc 0 (by omega) 3 (by decide)
    have o4 := hrc 0 (by omega) 4 (by decide)
    have o5 := hrc 0 (by omega) 5 (by decide)
    have o6 := hrc 0 (by omega) 6 (by decide)
    have o7 := hrc 0 (by omega) 7 (by decide)
    simp only [List.getD_cons_zero, RV.cells, List.getElem?_cons_zero, List.getElem?_cons_succ, Nat.zero_mul, Nat.add_zero] at o0 o1 o2 o3 o4 o5 o6 o7
    clear hrc hRa
    replace o0 := (hb7.cell (p := ⟨r1, ro1, none⟩) zr1).trans o0
    replace o1 := (hb7.cell (p := ⟨r1, ro1 + 1, none⟩) zr1).trans o1
    replace o2 := (hb7.cell (p := ⟨r1, ro1 + 2, none⟩) zr1).trans o2
    replace o3 := (hb7.cell (p := ⟨r1, ro1 + 3, none⟩) zr1).trans o3
    replace o4 := (hb7.cell (p := ⟨r1, ro1 + 4, none⟩) zr1).trans o4
    replace o5 := (hb7.cell (p := ⟨r1, ro1 + 5, none⟩) zr1).trans o5
    replace o6 := (hb7.cell (p := ⟨r1, ro1 + 6, none⟩) zr1).trans o6
    replace o7 := (hb7.cell (p := ⟨r1, ro1 + 7, none⟩) zr1).trans o7
    skip
    replace cb := cb.below hb7 cb.lt
    replace sb := sb.below hb7 sb.lt
    replace mb := mb.below hb7 mb.lt
    replace ab := ab.below hb7 ab.lt
    replace bw := bw.trans (hb7.mono bw.size)
    replace hl := hl.below hb7
    replace hS := hS.below hb7
    replace hSa := hSa.below hb7
    have ab_4 : w7.cell? ⟨w5.heap.size, 4, none⟩ = some (.slice (some ⟨m1, mo, none⟩) 1 vc4) := (ab.c 4 (by decide)).1
    have ab_5 : w7.cell? ⟨w5.heap.size, 5, none⟩ = some (.slice (some ⟨r1, ro1, none⟩) 1 vc5) := (ab.c 5 (by decide)).1
    have ab_z := ab.lt
    have mb_3 : w7.cell? ⟨X2.heap.size, 3, none⟩ = some (.int .i64 0) := (mb.c 3 (by decide)).1
    have mb_4 : w7.cell? ⟨X2.heap.size, 4, none⟩ = some (.int .i64 (5 + KA)) := (mb.c 4 (by decide)).1
    have mb_7 : w7.cell? ⟨X2.heap.size, 7, none⟩ = some (.int .i64 KV) := (mb.c 7 (by decide)).1
    have mb_z := mb.lt
    have hSr := fun U => sameRecord_any 1 0 (5 + KA) KK KV 1 false none none 0 0 0 [] U (isInts_nil U) (isInts_nil U)
    replace ab_4 := fun d os => cell_regrown ab_4 d os
    replace ab_5 := fun d os => cell_regrown ab_5 d os
    replace mb_3 := fun d os => cell_regrown mb_3 d os
    replace mb_4 := fun d os => cell_regrown mb_4 d os
    replace mb_7 := fun d os => cell_regrown mb_7 d os
    replace p11 := fun d os => cell_regrown p11 d os
    replace o0 := fun d os => cell_regrown o0 d os
    replace o1 := fun d os => cell_regrown o1 d os
    replace o2 := fun d os => cell_regrown o2 d os
    replace o3 := fun d os => cell_regrown o3 d os
    replace o4 := fun d os => cell_regrown o4 d os
    replace o5 := fun d os => cell_regrown o5 d os
    replace o6 := fun d os => cell_regrown o6 d os
    replace o7 := fun d os => cell_regrown o7 d os
    refine wp_region_quiet_below (by kernel_rfl) (by kernel_rfl) ?_
    repeat (go_big_quiet_step ((exact Calls.regrown_of (hSr _))))
    refine wpQuiet_nil ?_
    intro _ hw'
    obtain ⟨⟨dq, osq⟩, hw''⟩ := hw'
    subst hw''
    have bQ := bw.trans ((below_regrown w7 dq osq).mono bw.size)
    go_wp2
    go_ret
    exact ⟨by simp, bQ⟩
end Go.Proofs.YtcmjcopopkafnaaDoor.Pt
/- What the listed tables of package wire hold, cell by cell, out of their reading as data. -/
namespace Go.Proofs.YtcmjcopopkafnaaDoor
open Go.ChangeShapes Go.WideShapes Go.ChangeAt Go.RowKit

def bRow {H : Type} (bs : List Bool) : DataW H := .agg (bs.map fun b => .lit (.bool b))
def bTab {H : Type} (tb : List (List Bool)) : DataW H := .agg (tb.map bRow)

section
variable {H : Type} {enc : TypeId × Value → H} {W : World} {base : Nat} {sp : Nat → Bool} {held : Bool}

theorem c1b : Tryd.prog.cellsOf 4 = 1 := by kernel_rfl
theorem c8b : Tryd.prog.cellsOf 96 = 8 := by kernel_rfl

theorem row_of {fuel : Nat} {cs : List Value} {bs : List Bool} {p : List MemPlace} (hb : bs.length = 8) (h : DataW.trod enc Tryd.prog W base sp held fuel 96 cs = some (bRow bs, p)) (j : Nat) (hj : j < 8) : cs[j]? = some (.bool (bs.getD j false)) := by
  obtain ⟨xs, m, rfl, hx, hl, hn, hel⟩ := DataW.trod_array Tryd.underlying96 h
  have hxs : xs.map (·.1) = bs.map fun b => (DataW.lit (.bool b) : DataW H) := by
    have := congrArg Prod.fst hx
    simpa [bRow] using this.symm
  have h1 := hel j hj
  rw [c1b, List.getElem?_eq_getElem (by omega)] at h1
  obtain ⟨b, hc, hx1⟩ := DataW.trod_bool Tryd.underlying4 h1
  have e1 : cs[j]? = some (.bool b) := by
    have := congrArg (·[0]?) hc
    simpa [List.getElem?_take, List.getElem?_drop] using this
  have e2 : (xs.map (·.1))[j]? = some (DataW.lit (.bool b) : DataW H) := by
    rw [List.getElem?_map, List.getElem?_eq_getElem (by omega), hx1]; rfl
  rw [hxs] at e2
  have hjb : j < bs.length := by omega
  simp [hjb] at e2
  rw [e1]
  simp [List.getD, hjb, e2]

theorem tab_of {fuel n : Nat} {t : TypeId} {cs : List Value} {tb : List (List Bool)} {p : List MemPlace} (ht : Tryd.prog.underlying t = some (.array n 96)) (hn : tb.length = n) (hb : ∀ i, i < n → (tb.getD i []).length = 8) (h : DataW.trod enc Tryd.prog W base sp held fuel t cs = some (bTab tb, p)) (i j : Nat) (hi : i < n) (hj : j < 8) : cs[i * 8 + j]? = some (.bool ((tb.getD i []).getD j false)) := by
  obtain ⟨xs, m, rfl, hx, hl, hlen, hel⟩ := DataW.trod_array ht h
  have hxs : xs.map (·.1) = tb.map bRow := by
    have := congrArg Prod.fst hx
    simpa [bTab] using this.symm
  have h1 := hel i hi
  rw [c8b, List.getElem?_eq_getElem (by omega)] at h1
  have e2 : (xs.map (·.1))[i]? = (tb.map (bRow (H := H)))[i]? := by rw [hxs]
  have hit : i < tb.length := by omega
  have hix : i < xs.length := by omega
  simp [hix, hit] at e2
  obtain ⟨d, q, hxi⟩ : ∃ d q, xs[i] = (d, q) := ⟨_, _, rfl⟩
  have e3 : d = bRow (tb.getD i []) := by
    rw [hxi] at e2
    simp [List.getD, hit]
    exact e2
  rw [hxi, e3] at h1
  have := row_of (hb i hi) h1 j hj
  rw [List.getElem?_take, if_pos hj, List.getElem?_drop] at this
  exact this

theorem has_of {fuel n g : Nat} {t : TypeId} {cs : Array Value} {tb : List (List Bool)} {p : List MemPlace} {name : String} (hg : Tryd.prog.globalNamed name = some g) (hv : W.var? Tryd.prog name = some cs) (ht : Tryd.prog.underlying t = some (.array n 96)) (hn : tb.length = n) (hb : ∀ i, i < n → (tb.getD i []).length = 8)
    (h : DataW.trod enc Tryd.prog W base sp held fuel t cs.toList = some (bTab tb, p)) : HasAt W g tb := by
  intro i j hi hj
  rw [World.var?_cell hg hv, ← Array.getElem?_toList]
  exact tab_of ht hn hb h i j (by omega) hj

theorem mHas_rows : ∀ i, i < 10 → (mHas.getD i []).length = 8 := by decide
theorem rHas_rows : ∀ i, i < 7 → (rHas.getD i []).length = 8 := by decide

theorem tops_of {fuel : Nat} {cs : Array Value} {p : List MemPlace} {name : String} (hg : Tryd.prog.globalNamed name = some 1) (hv : W.var? Tryd.prog name = some cs)
    (h : DataW.trod enc Tryd.prog W base sp held fuel 88 cs.toList = some (Lib.tabData .i64 topL, p)) : TopsAt W := by
  have e := Lib.cells_of_tab Tryd.underlying88 Tryd.underlying3 (by kernel_rfl) (by kernel_rfl) h
  have c : ∀ i, W.cell? ⟨1, i, none⟩ = (topL.map fun z => Value.int .i64 z)[i]? := by
    intro i
    rw [World.var?_cell hg hv, ← Array.getElem?_toList, e]
  unfold TopsAt
  simp only [c]
  simp [topL]
end
end Go.Proofs.YtcmjcopopkafnaaDoor
