/- Texts of this claim, one behind the other. -/
import Derived.Test.YtmkobbgedhlcfaaM11ForceOnce
import Derived.Test.YtmkobbgedhlcfaaM18ForceOnce
import Derived.Test.YtmkobbgedhlcfaaM19ForceOnce
import Derived.Test.YtmkobbgedhlcfaaM22ForceOnce
/- Two stores, one of them empty, as a slice that was just made. -/
namespace Go.Proofs.Ytmkobbgedhlcfaa.Pt
open Go.ChangeShapes Go.WideShapes Go.ChangeAt Go.RowKit
open Go.Proofs.Ytmkobbgedhlcfaa.St (SV IsStore IsRow storeOK TxWf)
set_option linter.unusedVariables false

/-- Two stores, one of them empty. -/
theorem two_stores {u : World} {r : SV} (h : IsStore u r) (hw : ∀ t ∈ r.over, TxWf t) : IsStores (u.alloc (.cells #[.slice r.ia r.il r.ic, .slice r.la r.ll r.lc, .slice r.da r.dl r.dc, .slice r.oa r.ol r.oc, .slice none 0 0, .slice none 0 0, .slice none 0 0, .slice none 0 0] 31)) (some ⟨u.heap.size, 0, none⟩) 2 2 [r, SV.nil] := by
  have hb : (u.alloc (.cells #[.slice r.ia r.il r.ic, .slice r.la r.ll r.lc, .slice r.da r.dl r.dc, .slice r.oa r.ol r.oc, .slice none 0 0, .slice none 0 0, .slice none 0 0, .slice none 0 0] 31)).heap[u.heap.size]? = some (.cells #[.slice r.ia r.il r.ic, .slice r.la r.ll r.lc, .slice r.da r.dl r.dc, .slice r.oa r.ol r.oc, .slice none 0 0, .slice none 0 0, .slice none 0 0, .slice none 0 0] 31 (0, 0)) := heap_alloc_new u _
  refine ⟨⟨rfl, Nat.le_refl _, by unfold maxLen; omega, fun e => by simp at e, fun _ => ⟨u.heap.size, 0, rfl, by simp, fun i hi j hj => ?_⟩⟩, fun i hi => ?_⟩
  · rw [cell_of_row _ u.heap.size _ _ 31 (0, 0) hb]
    rcases (by omega : i = 0 ∨ i = 1) with rfl | rfl <;> rcases (by omega : j = 0 ∨ j = 1 ∨ j = 2 ∨ j = 3) with rfl | rfl | rfl | rfl <;> rfl
  · rcases (by omega : i = 0 ∨ i = 1) with rfl | rfl
    · exact ⟨h.below ((Below.refl _ _).alloc (Nat.le_refl _) _), hw⟩
    · exact ⟨St.isStore_nil _, by simp [SV.nil]⟩
theorem nil_ok : storeOK SV.nil = true := by decide
end Go.Proofs.Ytmkobbgedhlcfaa.Pt
/- The walk of the law ForceOnce: at any numbers it returns true and leaves what was in memory. -/
namespace Go.Proofs.Ytmkobbgedhlcfaa.Pt
open Go.ChangeShapes Go.WideShapes Go.ChangeAt Go.RowKit
open Go.Proofs.Ytmkobbgedhlcfaa.St (SV PS IsStore IsRow storeOK TxWf BoxN boxn_new OwnStore flat isOne own_isRow isRow_nil IsRaws Gd cntErr cntIs endErr endData txOK wOf ofT)
set_option linter.unusedVariables false

theorem force_two {r : SV} {nn : Nat} {t : Int × Int} (hok : storeOK r = true) (hn : nn < 60) (ht : txOK t = true) :
    cntErr r t = 0 ∧ forceErr 1 LS2 3 0 0 2 [r, SV.nil] nn t = if cntIs r t = 0 then 6 else 0 := by
  have h1 : cntErr r t = 0 := by unfold cntErr; rw [hok, ht]; rfl
  have h2 : siteErr 1 LS2 3 0 0 2 [r, SV.nil] = 0 := by
    unfold siteErr
    rw [if_pos (cfg_two (by omega) (by omega) (by omega) (by omega)), if_pos (by decide), if_pos (inR_true (by omega) (by omega)), if_pos (by decide), if_pos (by simp [hok, nil_ok])]
  refine ⟨h1, ?_⟩
  unfold forceErr
  rw [if_pos h2]
  show (if cntErr r t = 0 then (if cntIs r t = 0 then 6 else if 60 ≤ nn then 8 else 0) else _) = _
  rw [if_pos h1, if_neg (by omega : ¬ 60 ≤ nn)]
theorem cnt_end {s q : SV} {t : Int × Int} {yes : Bool} (he : endErr s t yes = 0) (hd : q.data = endData s t yes) : cntIs q t = 0 := by
  unfold cntIs
  split
  · have hl : q.locks = (endData s t yes).locks := congrArg PS.locks hd
    have : q.locks.filter (wOf t) = [] := by
      rw [hl]
      unfold endData
      rw [if_pos he]
      rw [List.filter_eq_nil_iff]
      intro k hk
      have := (St.mem_keep.1 hk).2
      simp only [ofT, decide_eq_false_iff_not] at this
      simp [wOf, this]
    rw [this]; rfl
  · rfl

set_option maxRecDepth 100000 in
set_option maxHeartbeats 4000000 in
theorem forceOnce_walk (a : Option Addr) (len cap : Nat) (rs : List St.RV) (rv : St.RV) (yes : Bool) (w : World) (hr : IsRaws w a len cap rs) (hrv : rv.ok) :
    Calls Try.prog 6 #[.slice a len cap, rv.val, .bool yes] w fun e w' => e = .returned (.bool true) ∧ Below w.heap.size w w' := by
  obtain ⟨wk, wa, wb, wc', wd, we⟩ := rv
  have hab := hrv.2.1
  simp only [St.RV.val] at hab ⊢
  have hkp := pk_bd wa 4 (by omega)
  have hPk := fun u => picked_any wa 4 u hab (by omega) (by omega)
  obtain ⟨KA, eKA⟩ : ∃ x, x = pk wa 4 := ⟨_, rfl⟩
  rw [← eKA] at hkp hPk
  clear eKA hrv
  obtain ⟨ka0, ka4⟩ := hkp
  have hTw := fun u => two_any 0 u (by omega)
  have e03 : (1 : Int) + pk 0 3 = 1 := by decide
  rw [e03] at hTw
  clear e03
  have htx : txOK ((0 : Int), 1 + KA) = true := by unfold St.txOK; rw [St.inR_true (by simp) (by simp), St.inR_true (by simp; omega) (by simp; omega)]; rfl
  have hwrap : IntKind.i64.wrap (1 + KA) = 1 + KA := by simp [IntKind.wrap, IntKind.bits, IntKind.signed]; omega
  obtain ⟨W, hW⟩ : ∃ W : World, W = w.alloc (.cells #[.int .i64 wk, .int .i64 wa, .int .i64 wb, .int .i64 wc', .int .i64 wd, .int .i64 we] 58) := ⟨_, rfl⟩
  have bW : Below w.heap.size w W := by rw [hW]; exact (Below.refl _ _).alloc (Nat.le_refl _) _
  have j1 : W.cell? ⟨w.heap.size, 1, none⟩ = some (.int .i64 wa) := by rw [hW]; go_simp
  have zW : w.heap.size < W.heap.size := by rw [hW]; simp
  go_enter Try.func6, Try.ntmps6
  go_upto_region 1 with (fail)
  rw [← hW]
  clear hW
  go_upto_region 2 with (go_at_call 13; refine (hTw _).mono ?_; rintro e w1 ⟨g0, rfl, hl1, hg0, hb1⟩)
  obtain ⟨X1, eX1⟩ : ∃ X : World, X = w1.alloc (.cells #[.int .i64 1, .slice (some ⟨g0, 0, none⟩) 2 2, .int .i64 3] 24) := ⟨_, rfl⟩
  have cb1 : BoxN X1 w1.heap.size 3 [.int .i64 1, .slice (some ⟨g0, 0, none⟩) 2 2, .int .i64 3] := by rw [eX1]; exact boxn_new w1 #[.int .i64 1, .slice (some ⟨g0, 0, none⟩) 2 2, .int .i64 3] 24 3 rfl
  have bX1 : Below w1.heap.size w1 X1 := by rw [eX1]; exact (Below.refl _ _).alloc (Nat.le_refl _) _
  rw [← eX1]
  clear eX1
  have b01 : Below W.heap.size W X1 := hb1.trans (bX1.mono hb1.size)
  have hl2 := hl1.below bX1
  have bw1 := bW.trans (b01.mono bW.size)
  have hr1 := hr.below bw1
  go_upto_region 3 with (go_at_call 15; refine (St.store_made a len cap rs 25 _ hr1 (by omega)).mono ?_; rintro e w2 ⟨⟨ra0, rn0, rc0, ra1, rn1, rc1, ra2, rn2, rc2, ra3, rn3, rc3, ri, rl, rd, ro⟩, rfl, hO2, hG, hb2⟩; simp only [SV.val])
  obtain ⟨X2, eX2⟩ : ∃ X : World, X = w2.alloc (.cells #[.slice ra0 rn0 rc0, .slice ra1 rn1 rc1, .slice ra2 rn2 rc2, .slice ra3 rn3 rc3] 31) := ⟨_, rfl⟩
  have sb2 : BoxN X2 w2.heap.size 4 [.slice ra0 rn0 rc0, .slice ra1 rn1 rc1, .slice ra2 rn2 rc2, .slice ra3 rn3 rc3] := by rw [eX2]; exact boxn_new w2 #[.slice ra0 rn0 rc0, .slice ra1 rn1 rc1, .slice ra2 rn2 rc2, .slice ra3 rn3 rc3] 31 4 rfl
  have bX2 : Below w2.heap.size w2 X2 := by rw [eX2]; exact (Below.refl _ _).alloc (Nat.le_refl _) _
  rw [← eX2]
  clear eX2
  have b12 : Below X1.heap.size X1 X2 := hb2.trans (bX2.mono hb2.size)
  have b02 : Below W.heap.size W X2 := b01.trans (b12.mono b01.size)
  have j2 := (b02.cell (p := ⟨w.heap.size, 1, none⟩) zW).trans j1
  have zj : w.heap.size < X2.heap.size := Nat.lt_of_lt_of_le zW b02.size
  clear j1
  go_upto_region 4 with (go_at_call 14; refine (hPk _).mono ?_; rintro e u ⟨rfl, hu⟩; rw [hu]; clear hu)
  obtain ⟨X3, eX3⟩ : ∃ X : World, X = X2.alloc (.cells #[.int .i64 0, .int .i64 (1 + KA)] 43) := ⟨_, rfl⟩
  have tb3 : BoxN X3 X2.heap.size 2 [.int .i64 0, .int .i64 (1 + KA)] := by rw [eX3]; exact boxn_new X2 #[.int .i64 0, .int .i64 (1 + KA)] 43 2 rfl
  have b23 : Below X2.heap.size X2 X3 := by rw [eX3]; exact (Below.refl _ _).alloc (Nat.le_refl _) _
  rw [← eX3]
  clear eX3 j2 zj
  have cb3 := (cb1.below b12 cb1.lt).below b23 (cb1.below b12 cb1.lt).lt
  have sb3 := sb2.below b23 sb2.lt
  have hl3 := (hl2.below b12).below b23
  have hS3 := (hO2.isStore.below bX2).below b23
  have bw3 := (bw1.trans (b12.mono bw1.size)).trans (b23.mono (bw1.trans (b12.mono bw1.size)).size)
  have hok : storeOK ⟨ra0, rn0, rc0, ra1, rn1, rc1, ra2, rn2, rc2, ra3, rn3, rc3, ri, rl, rd, ro⟩ = true := hG.ok.ok
  have hwf := hG.wf
  have h4o := hG.h4 hO2.isStore
  obtain ⟨hcE, hfE⟩ := force_two (nn := 0) (t := (0, 1 + KA)) hok (by omega) htx
  have hEE : endErr ⟨ra0, rn0, rc0, ra1, rn1, rc1, ra2, rn2, rc2, ra3, rn3, rc3, ri, rl, rd, ro⟩ (0, 1 + KA) yes = 0 := hcE
  obtain ⟨hok2, _⟩ := St.end_ok (s := ⟨ra0, rn0, rc0, ra1, rn1, rc1, ra2, rn2, rc2, ra3, rn3, rc3, ri, rl, rd, ro⟩) hEE (v := 961) (by omega) (by omega) hG.ver
  have hOv : (endData ⟨ra0, rn0, rc0, ra1, rn1, rc1, ra2, rn2, rc2, ra3, rn3, rc3, ri, rl, rd, ro⟩ (0, 1 + KA) yes).over.length ≤ 5 ∧ ∀ t ∈ (endData ⟨ra0, rn0, rc0, ra1, rn1, rc1, ra2, rn2, rc2, ra3, rn3, rc3, ri, rl, rd, ro⟩ (0, 1 + KA) yes).over, TxWf t := by
    have h4 := hG.over4
    have hw : ∀ t ∈ ro, TxWf t := hwf
    unfold St.endData
    rw [if_pos hEE]
    dsimp only
    split
    · exact ⟨Nat.le_trans h4 (by omega), hw⟩
    · refine ⟨by have : ro.length ≤ 4 := h4; simp; omega, fun t ht => ?_⟩
      rcases List.mem_append.1 ht with ht | ht
      · exact hw t ht
      · simp at ht; subst ht; rcases (by omega : KA = 0 ∨ KA = 1 ∨ KA = 2 ∨ KA = 3) with e | e | e | e <;> rw [e] <;> exact ⟨by decide, by decide⟩
  have hov1 : ∀ i, i < 2 → (([⟨ra0, rn0, rc0, ra1, rn1, rc1, ra2, rn2, rc2, ra3, rn3, rc3, ri, rl, rd, ro⟩, SV.nil] : List SV).getD i default).ol * 16 ≤ 140737488351232 := fun i hi => by
    rcases (by omega : i = 0 ∨ i = 1) with rfl | rfl
    · exact h4o
    · show 0 * 16 ≤ _; omega
  have hWr := fun u h1 => St.writes_count ⟨ra0, rn0, rc0, ra1, rn1, rc1, ra2, rn2, rc2, ra3, rn3, rc3, ri, rl, rd, ro⟩ (0, 1 + KA) u h1 hwf
  have hF1 := fun sa sc w' h1 h2 => force_any 1 3 (some ⟨g0, 0, none⟩) 2 2 LS2 0 0 sa 2 sc [⟨ra0, rn0, rc0, ra1, rn1, rc1, ra2, rn2, rc2, ra3, rn3, rc3, ri, rl, rd, ro⟩, SV.nil] none 0 0 [] (0, 1 + KA) yes w' h1 h2 (isRow_nil _ _ _) (by omega) hov1
  have HD1 : Hid (forceD 1 LS2 3 0 0 2 [⟨ra0, rn0, rc0, ra1, rn1, rc1, ra2, rn2, rc2, ra3, rn3, rc3, ri, rl, rd, ro⟩, SV.nil] 0 [] (0, 1 + KA) yes = if (if cntIs ⟨ra0, rn0, rc0, ra1, rn1, rc1, ra2, rn2, rc2, ra3, rn3, rc3, ri, rl, rd, ro⟩ (0, 1 + KA) = 0 then (6 : Int) else 0) = 0 then ⟨endData ⟨ra0, rn0, rc0, ra1, rn1, rc1, ra2, rn2, rc2, ra3, rn3, rc3, ri, rl, rd, ro⟩ (0, 1 + KA) yes, [], [⟨6, 0, 1 + KA, 0, 0, 0, yes⟩], [⟨0, 1 + KA, yes, false⟩]⟩ else AD.nil) := by
    show _ = _
    unfold forceD
    rw [hfE]
    rfl
  rw [hfE] at hF1
  rw [hcE] at hWr
  obtain ⟨CI, eCI⟩ : ∃ x, x = cntIs ⟨ra0, rn0, rc0, ra1, rn1, rc1, ra2, rn2, rc2, ra3, rn3, rc3, ri, rl, rd, ro⟩ (0, 1 + KA) := ⟨_, rfl⟩
  rw [← eCI] at hF1 hWr HD1
  clear eCI hfE
  have c0 := (cb3.c 0 (by decide)).1
  have c1 := (cb3.c 1 (by decide)).1
  have c2 := (cb3.c 2 (by decide)).1
  have zc := cb3.lt
  have x0 := (sb3.c 0 (by decide)).1
  have x1 := (sb3.c 1 (by decide)).1
  have x2 := (sb3.c 2 (by decide)).1
  have x3 := (sb3.c 3 (by decide)).1
  have zs := sb3.lt
  have y0 := (tb3.c 0 (by decide)).1
  have y1 := (tb3.c 1 (by decide)).1
  have zt := tb3.lt
  simp only [List.getD_cons_zero, List.getD_cons_succ] at c0 c1 c2 x0 x1 x2 x3 y0 y1
  simp only [SV.val] at hWr
  go_upto_region 5 with (go_at_call 17; refine (hWr _ hS3).mono ?_; rintro e w4 ⟨rfl, hb4⟩)
  have cb4 := cb3.below hb4 cb3.lt
  have sb4 := sb3.below hb4 sb3.lt
  have tb4 := tb3.below hb4 tb3.lt
  have hl4 := hl3.below hb4
  have hS4 := hS3.below hb4
  have bw4 := bw3.trans (hb4.mono bw3.size)
  clear c0 c1 c2 zc x0 x1 x2 x3 zs y0 y1 zt
  have c0 := (cb4.c 0 (by decide)).1
  have c1 := (cb4.c 1 (by decide)).1
  have c2 := (cb4.c 2 (by decide)).1
  have zc := cb4.lt
  have x0 := (sb4.c 0 (by decide)).1
  have x1 := (sb4.c 1 (by decide)).1
  have x2 := (sb4.c 2 (by decide)).1
  have x3 := (sb4.c 3 (by decide)).1
  have zs := sb4.lt
  have y0 := (tb4.c 0 (by decide)).1
  have y1 := (tb4.c 1 (by decide)).1
  have zt := tb4.lt
  simp only [List.getD_cons_zero, List.getD_cons_succ] at c0 c1 c2 x0 x1 x2 x3 y0 y1
  obtain ⟨X5, eX5⟩ : ∃ X : World, X = w4.alloc (.cells #[.slice ra0 rn0 rc0, .slice ra1 rn1 rc1, .slice ra2 rn2 rc2, .slice ra3 rn3 rc3, .slice none 0 0, .slice none 0 0, .slice none 0 0, .slice none 0 0] 31) := ⟨_, rfl⟩
  have hSS5 : IsStores X5 (some ⟨w4.heap.size, 0, none⟩) 2 2 [⟨ra0, rn0, rc0, ra1, rn1, rc1, ra2, rn2, rc2, ra3, rn3, rc3, ri, rl, rd, ro⟩, SV.nil] := by rw [eX5]; exact two_stores (r := ⟨ra0, rn0, rc0, ra1, rn1, rc1, ra2, rn2, rc2, ra3, rn3, rc3, ri, rl, rd, ro⟩) hS4 hwf
  have b45 : Below w4.heap.size w4 X5 := by rw [eX5]; exact (Below.refl _ _).alloc (Nat.le_refl _) _
  go_upto_region 6 with (go_at_call 10; rw [← eX5]; refine (hF1 _ _ _ (hl4.below b45) hSS5).mono ?_; rintro e w5 ⟨⟨⟨va0, vn0, vc0, va1, vn1, vc1, va2, vn2, vc2, va3, vn3, vc3, vi, vl, vd, vo⟩, va4, vn4, vc4, va5, vn5, vc5, va6, vn6, vc6, vms, vrs, vns⟩, rfl, hI5, hd5, hb5, _⟩; simp only [AnsV.val])
  clear hF1 hSS5 eX5
  obtain ⟨X6, eX6⟩ : ∃ X : World, X = w5.alloc (.cells #[.slice va0 vn0 vc0, .slice va1 vn1 vc1, .slice va2 vn2 vc2, .slice va3 vn3 vc3, .slice va4 vn4 vc4, .slice va5 vn5 vc5, .slice va6 vn6 vc6] 36) := ⟨_, rfl⟩
  have ab6 : BoxN X6 w5.heap.size 7 [.slice va0 vn0 vc0, .slice va1 vn1 vc1, .slice va2 vn2 vc2, .slice va3 vn3 vc3, .slice va4 vn4 vc4, .slice va5 vn5 vc5, .slice va6 vn6 vc6] := by rw [eX6]; exact boxn_new w5 #[.slice va0 vn0 vc0, .slice va1 vn1 vc1, .slice va2 vn2 vc2, .slice va3 vn3 vc3, .slice va4 vn4 vc4, .slice va5 vn5 vc5, .slice va6 vn6 vc6] 36 7 rfl
  have b56 : Below w5.heap.size w5 X6 := by rw [eX6]; exact (Below.refl _ _).alloc (Nat.le_refl _) _
  rw [← eX6]
  clear eX6 c0 c1 c2 zc x0 x1 x2 x3 zs y0 y1 zt
  have b46 : Below w4.heap.size w4 X6 := b45.trans ((hb5.trans (b56.mono hb5.size)).mono b45.size)
  have cb6 := cb4.below b46 cb4.lt
  have tb6 := tb4.below b46 tb4.lt
  have hI6 := hI5.below b56
  have hl6 := hl4.below b46
  have bw6 := bw4.trans (b46.mono bw4.size)
  have a0 := (ab6.c 0 (by decide)).1
  have a1 := (ab6.c 1 (by decide)).1
  have a2 := (ab6.c 2 (by decide)).1
  have a3 := (ab6.c 3 (by decide)).1
  have a5 := (ab6.c 5 (by decide)).1
  have a6 := (ab6.c 6 (by decide)).1
  have za := ab6.lt
  simp only [List.getD_cons_zero, List.getD_cons_succ] at a0 a1 a2 a3 a5 a6
  rw [HD1.out] at hd5
  clear hok h4o hov1 hb1 bX1 b01 bw1 hr1 hO2 hb2 bX2 b12 b02 b23 cb1 cb3 cb4 sb2 sb3 sb4 tb3 tb4 hl1 hl2 hl3 hl4 hS3 hS4 bw3 bw4 hb4 b45 hb5 b56 b46 hI5 hG hWr HD1
  by_cases hC : CI = 0
  · subst hC
    simp only [if_true] at hd5 ⊢
    have en : vns = [] := congrArg AD.ns hd5
    have hnl : vns.length = vn6 := hI6.ns.1
    rw [en] at hnl
    have hn0 : vn6 = 0 := hnl.symm
    subst hn0
    go_wp2
    go_ret
    exact ⟨by simp, bw6⟩
  · have hC2 : (CI == 0) = false := by simp [hC]
    simp only [if_neg hC, if_true] at hd5 ⊢
    have ed : SV.data ⟨va0, vn0, vc0, va1, vn1, vc1, va2, vn2, vc2, va3, vn3, vc3, vi, vl, vd, vo⟩ = endData ⟨ra0, rn0, rc0, ra1, rn1, rc1, ra2, rn2, rc2, ra3, rn3, rc3, ri, rl, rd, ro⟩ (0, 1 + KA) yes := congrArg AD.st hd5
    have er : vrs = [⟨6, 0, 1 + KA, 0, 0, 0, yes⟩] := congrArg AD.rs hd5
    have en : vns = [⟨0, 1 + KA, yes, false⟩] := congrArg AD.ns hd5
    have hnl : vn6 = 1 := by have := hI6.ns.1; simp only [] at this; rw [en] at this; exact this.symm
    have hrl : vn5 = 1 := by have := hI6.rs.1; simp only [] at this; rw [er] at this; exact this.symm
    subst en
    subst er
    subst hnl
    subst hrl
    have hI6n := hI6.ns
    have hI6r := hI6.rs
    have hI6s := hI6.st
    simp only [] at hI6n hI6r hI6s
    have hokE : storeOK ⟨va0, vn0, vc0, va1, vn1, vc1, va2, vn2, vc2, va3, vn3, vc3, vi, vl, vd, vo⟩ = true := St.OKP.ok (by rw [ed]; exact hok2)
    have hwfE : ∀ t ∈ vo, TxWf t := by have := hOv.2; rw [← ed] at this; exact this
    have holE : vn3 * 16 ≤ 140737488351232 := by
      have h5 := hOv.1
      rw [← ed] at h5
      have : vo.length = vn3 := hI6s.over.1
      have h5' : vo.length ≤ 5 := h5
      omega
    obtain ⟨hcE2, hfE2⟩ := force_two (r := ⟨va0, vn0, vc0, va1, vn1, vc1, va2, vn2, vc2, va3, vn3, vc3, vi, vl, vd, vo⟩) (nn := 1) (t := (0, 1 + KA)) hokE (by omega) htx
    rw [cnt_end (s := ⟨ra0, rn0, rc0, ra1, rn1, rc1, ra2, rn2, rc2, ra3, rn3, rc3, ri, rl, rd, ro⟩) (q := ⟨va0, vn0, vc0, va1, vn1, vc1, va2, vn2, vc2, va3, vn3, vc3, vi, vl, vd, vo⟩) hEE ed, if_pos rfl] at hfE2
    have hov2 : ∀ i, i < 2 → (([⟨va0, vn0, vc0, va1, vn1, vc1, va2, vn2, vc2, va3, vn3, vc3, vi, vl, vd, vo⟩, SV.nil] : List SV).getD i default).ol * 16 ≤ 140737488351232 := fun i hi => by
      rcases (by omega : i = 0 ∨ i = 1) with rfl | rfl
      · exact holE
      · show 0 * 16 ≤ _; omega
    have hF2 := fun sa sc w' h1 h2 h3 => force_any 1 3 (some ⟨g0, 0, none⟩) 2 2 LS2 0 0 sa 2 sc [⟨va0, vn0, vc0, va1, vn1, vc1, va2, vn2, vc2, va3, vn3, vc3, vi, vl, vd, vo⟩, SV.nil] va6 1 vc6 [⟨0, 1 + KA, yes, false⟩] (0, 1 + KA) yes w' h1 h2 h3 (by omega) hov2
    rw [hfE2] at hF2
    have c0 := (cb6.c 0 (by decide)).1
    have c1 := (cb6.c 1 (by decide)).1
    have c2 := (cb6.c 2 (by decide)).1
    have zc := cb6.lt
    have y0 := (tb6.c 0 (by decide)).1
    have y1 := (tb6.c 1 (by decide)).1
    have zt := tb6.lt
    simp only [List.getD_cons_zero, List.getD_cons_succ] at c0 c1 c2 y0 y1
    obtain ⟨X7, eX7⟩ : ∃ X : World, X = X6.alloc (.cells #[.slice va0 vn0 vc0, .slice va1 vn1 vc1, .slice va2 vn2 vc2, .slice va3 vn3 vc3, .slice none 0 0, .slice none 0 0, .slice none 0 0, .slice none 0 0] 31) := ⟨_, rfl⟩
    have hSS7 : IsStores X7 (some ⟨X6.heap.size, 0, none⟩) 2 2 [⟨va0, vn0, vc0, va1, vn1, vc1, va2, vn2, vc2, va3, vn3, vc3, vi, vl, vd, vo⟩, SV.nil] := by rw [eX7]; exact two_stores (r := ⟨va0, vn0, vc0, va1, vn1, vc1, va2, vn2, vc2, va3, vn3, vc3, vi, vl, vd, vo⟩) hI6s hwfE
    have b67 : Below X6.heap.size X6 X7 := by rw [eX7]; exact (Below.refl _ _).alloc (Nat.le_refl _) _
    clear ed hokE hwfE holE hcE2 hfE2 hov2 hOv hok2 hEE hcE
    go_upto_region 11 with (go_at_call 10; rw [← eX7]; refine (hF2 _ _ _ (hl6.below b67) hSS7 (St.IsRow.below hI6n b67)).mono ?_; rintro e w8 ⟨⟨⟨ua0, un0, uc0, ua1, un1, uc1, ua2, un2, uc2, ua3, un3, uc3, ui, ul, ud, uo⟩, ua4, un4, uc4, ua5, un5, uc5, ua6, un6, uc6, ums, urs, uns⟩, rfl, _, _, hb8, _⟩; simp only [AnsV.val])
    obtain ⟨X9, eX9⟩ : ∃ X : World, X = w8.alloc (.cells #[.slice ua0 un0 uc0, .slice ua1 un1 uc1, .slice ua2 un2 uc2, .slice ua3 un3 uc3, .slice ua4 un4 uc4, .slice ua5 un5 uc5, .slice ua6 un6 uc6] 36) := ⟨_, rfl⟩
    have b69 : Below X6.heap.size X6 X9 := by rw [eX9]; exact b67.trans ((hb8.trans ((Below.refl _ _).alloc (Nat.le_refl _) _ |>.mono hb8.size)).mono b67.size)
    rw [← eX9]
    clear eX9 eX7 hSS7 hF2 c0 c1 c2 zc y0 y1 zt a0 a1 a2 a3 a5 a6 za
    have ab9 := ab6.below b69 ab6.lt
    have tb9 := tb6.below b69 tb6.lt
    have bw9 := bw6.trans (b69.mono bw6.size)
    have hn9 := St.IsRow.below hI6n b69
    have hr9 := St.IsRow.below hI6r b69
    have a5 := (ab9.c 5 (by decide)).1
    have a6 := (ab9.c 6 (by decide)).1
    have za := ab9.lt
    have y0 := (tb9.c 0 (by decide)).1
    have y1 := (tb9.c 1 (by decide)).1
    have zt := tb9.lt
    simp only [List.getD_cons_zero, List.getD_cons_succ] at a5 a6 y0 y1
    obtain ⟨nb, no, rfl, znb, hnc⟩ := hn9.2.2.2.2 (by omega)
    obtain ⟨rbk, rof, rfl, zrb, hrc⟩ := hr9.2.2.2.2 (by omega)
    have n0 := hnc 0 (by omega) 0 (by decide)
    have n1 := hnc 0 (by omega) 1 (by decide)
    have n2 := hnc 0 (by omega) 2 (by decide)
    have n3 := hnc 0 (by omega) 3 (by decide)
    have m0 := hrc 0 (by omega) 0 (by decide)
    simp only [List.getD_cons_zero, NV.cells, RV.cells, List.getElem?_cons_zero, List.getElem?_cons_succ, Nat.zero_mul, Nat.add_zero] at n0 n1 n2 n3 m0
    clear hnc hrc hn9 hr9 ab9 tb9 hI6 hI6n hI6r hI6s
    go_quiet (fail)
    go_wp2
    go_ret
    exact ⟨by simp, bw9.trans ((below_drewN (Below.refl _ _) nq).mono bw9.size)⟩
end Go.Proofs.Ytmkobbgedhlcfaa.Pt
