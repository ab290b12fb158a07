/- The walk of the law RebuildGood: at any numbers it returns true and leaves what was in memory. -/
import Derived.Test.YtcfhhjnbkpgpeaaDoorM43RebuildGood
import Derived.Test.YtcfhhjnbkpgpeaaDoorM27RebuildGood
import Derived.OwnWalk
namespace Go.Proofs.YtcfhhjnbkpgpeaaDoor.Rb
open Go.ChangeShapes Go.WideShapes Go.ChangeAt Go.RowKit
open Go.Proofs.YtcfhhjnbkpgpeaaDoor.St Go.Proofs.YtcfhhjnbkpgpeaaDoor.Co Go.Proofs.YtcfhhjnbkpgpeaaDoor.Pt
set_option linter.unusedVariables false

set_option maxRecDepth 100000 in
set_option maxHeartbeats 16000000 in
theorem rebuildGood_walk (s : Int) (a : Option Addr) (len cap : Nat) (rs : List Go.Proofs.YtcfhhjnbkpgpeaaDoor.RV) (me : Int) (w : World) (hs : (Lit.int .i64 s).wf = true) (hr : Go.Proofs.YtcfhhjnbkpgpeaaDoor.IsRaws w a len cap rs) (hme : (Lit.int .i64 me).wf = true) (hHa : HasAt w 0 rHas) (hTo : TopsAt w) :
    Calls Tryd.prog 5 #[.int .i64 s, .slice a len cap, .int .i64 me] w fun e w' => e = .returned (.bool true) ∧ Below w.heap.size w w' := by
  have bds : -9223372036854775808 ≤ s ∧ s ≤ 9223372036854775807 := by
    simp [Lit.wf, IntKind.min, IntKind.max, IntKind.signed, IntKind.bits] at hs
    omega
  clear hs
  have bdme : -9223372036854775808 ≤ me ∧ me ≤ 9223372036854775807 := by
    simp [Lit.wf, IntKind.min, IntKind.max, IntKind.signed, IntKind.bits] at hme
    omega
  clear hme
  have hgT : 1 < w.heap.size := World.block_lt_of_cell? w _ hTo.1
  have hgM : 0 < w.heap.size := hHa.lt (by decide)
  have KT : Hid (∀ U, Below w.heap.size w U → HasAt U 0 rHas ∧ TopsAt U) := fun U hU => ⟨hHa.below hU hgM, hTo.below hU hgT⟩
  clear hHa hTo hgT hgM
  have hsp := pk_bd s 3 (by omega)
  have hTw := fun u => two_any s u bds
  obtain ⟨S1, eS1⟩ : ∃ x, x = 1 + pk s 3 := ⟨_, rfl⟩
  rw [← eS1] at hTw
  have hS1 : 1 ≤ S1 := by omega
  have hS3 : S1 ≤ 3 := by omega
  have hc2 : cfgFault S1 LS2 3 = 0 := cfg_two hS1 (by omega) (by omega) (by omega)
  clear eS1 hsp
  have bw : Below w.heap.size w w := Below.refl _ _
  have hkp := pk_bd me S1 (by omega)
  have hPK := fun u => picked_any me S1 u bdme (by omega) (by omega)
  obtain ⟨KM, eK⟩ : ∃ x, x = pk me S1 := ⟨_, rfl⟩
  rw [← eK] at hPK hkp
  clear eK
  go_enter Tryd.func5, Tryd.ntmps5
  go_upto_region 2 with (go_at_call 7; refine (hTw _).mono ?_; rintro e w1 ⟨g0, rfl, hlab, hg0, hb1⟩)
  clear hTw
  replace bw := bw.trans (hb1.mono bw.size)
  replace hr := hr.below hb1
  obtain ⟨X1, eX1⟩ : ∃ X : World, X = w1.alloc (.cells #[.int .i64 S1, .slice (some ⟨g0, 0, none⟩) 2 2, .int .i64 3] 24) := ⟨_, rfl⟩
  have cb : BoxN X1 w1.heap.size 3 [.int .i64 S1, .slice (some ⟨g0, 0, none⟩) 2 2, .int .i64 3] := by rw [eX1]; exact boxn_new w1 #[.int .i64 S1, .slice (some ⟨g0, 0, none⟩) 2 2, .int .i64 3] 24 3 rfl
  have bX1 : Below w1.heap.size w1 X1 := by rw [eX1]; exact (Below.refl _ _).alloc (Nat.le_refl _) _
  rw [← eX1]
  clear eX1
  replace bw := bw.trans (bX1.mono bw.size)
  replace hr := hr.below bX1
  replace hlab := hlab.below bX1
  have cb_0 : X1.cell? ⟨w1.heap.size, 0, none⟩ = some (.int .i64 S1) := (cb.c 0 (by decide)).1
  have cb_z := cb.lt
  go_upto_region 3 with (go_at_call 8; refine (hPK _).mono ?_; rintro e u ⟨rfl, hu⟩; rw [hu]; clear hu)
  clear cb_0 cb_z
  clear hPK
  have KC : Hid (∀ U, Below X1.heap.size X1 U → U.cell? ⟨w1.heap.size, 0, none⟩ = some (.int .i64 S1) ∧ U.cell? ⟨w1.heap.size, 1, none⟩ = some (.slice (some ⟨g0, 0, none⟩) 2 2) ∧ U.cell? ⟨w1.heap.size, 2, none⟩ = some (.int .i64 3) ∧ w1.heap.size < U.heap.size) := fun U hU => ⟨((cb.below hU cb.lt).c 0 (by decide)).1, ((cb.below hU cb.lt).c 1 (by decide)).1, ((cb.below hU cb.lt).c 2 (by decide)).1, (cb.below hU cb.lt).lt⟩
  have HRc : Hid (∀ U, Below X1.heap.size X1 U → Calls Tryd.prog 16 #[.agg #[.int .i64 S1, .slice (some ⟨g0, 0, none⟩) 2 2, .int .i64 3], .slice a len cap, .int .i64 40] U fun e w' => ∃ (ao : Option Addr) (cp : Nat) (ys : List Go.Proofs.YtcfhhjnbkpgpeaaDoor.RcV), e = .returned (.slice ao ys.length cp) ∧ RecsAt w' ao ys.length cp (ys.map toM) ∧ (∀ y ∈ ys, recFault S1 LS2 3 y = 0) ∧ (ys.length : Int) ≤ 40 ∧ Below U.heap.size U w') := fun U hU => by
    refine (records_upto S1 3 (some ⟨g0, 0, none⟩) 2 2 LS2 a len cap rs 40 U hc2 hS1 hS3 (hr.below hU) ⟨by omega, by omega⟩).mono ?_
    rintro e w' ⟨ao, cp, ys, rfl, h1, h2, h3, h4, h5⟩
    exact ⟨ao, cp, ys, rfl, isRecs_at h1 h4, h2, h3, h5⟩
  have HRb : Hid (∀ U ao cp (ys : List Go.Proofs.YtcfhhjnbkpgpeaaDoor.RcV), Below X1.heap.size X1 U → RecsAt U ao ys.length cp (ys.map toM) → (∀ y ∈ ys, recFault S1 LS2 3 y = 0) → (ys.length : Int) ≤ 40 → Calls Tryd.prog 9 #[.agg #[.int .i64 S1, .slice (some ⟨g0, 0, none⟩) 2 2, .int .i64 3], .int .i64 KM, .slice ao ys.length cp] U fun e w' => ∃ (q : Rt) (na : Option Addr) (nl nc : Nat) (nx : Int), e = .returned (.tuple #[q.s.val, .agg #[.int .i64 nx, .slice q.a q.js.length q.c], .slice na nl nc, .int .i64 0]) ∧ RbAt U.heap.size w' q ∧ (storeOK q.s = true ∧ (∀ t ∈ q.s.over, TxWf t) ∧ dkErr S1 LS2 3 nx q.js = 0) ∧ Below U.heap.size U w') := fun U ao cp ys hU h1 h2 h3 => by
    have hall : ∀ r ∈ (ys.map toM).map RcM.p, recFault S1 LS2 3 (RcP.v r) = 0 := fun r hr => by
      obtain ⟨x, hx, rfl⟩ := List.mem_map.1 hr
      obtain ⟨y, hy, rfl⟩ := List.mem_map.1 hx
      rw [← recFault_v S1 LS2 3 (toM y) (h1.ints _ hx).1]
      exact h2 y hy
    have hT := KT.out U (bw.trans (hU.mono bw.size))
    refine (rebuild_ok S1 3 (some ⟨g0, 0, none⟩) 2 2 LS2 KM ao ys.length cp (ys.map toM) U (hlab.below hU) h1 hT.1 hT.2 (by omega) (rbErr_ok hc2 (by omega) hall)).mono ?_
    rintro e w' ⟨q, na, nc, rfl, h5, h6, h7, h8⟩
    have hlen : ((ys.map toM).map RcM.p).length ≤ 1000 := by simp; omega
    have hso := recStore_ok hlen (fun r hr => (rec_tx (hall r hr)).1)
    have hok : OKP q.s.data := by rw [h6]; exact hso.okp
    have hdk := recDesk_ok (nl := 2) (me := KM) (fun r hr => (rec_tx (hall r hr)).2)
    refine ⟨q, na, _, nc, _, rfl, h5, ⟨OKP.ok hok, OKP.wf hok, dk_zero hc2 ?_⟩, h8⟩
    rw [h7]
    exact hdk
  clear hr
  refine wp_region_inv (by kernel_rfl) [24, 25, 26, 27, 28, 29, 23, 30, 31, 32, 33, 9, 10, 11, 12] (fun L T u => ∃ (ao : Option Addr) (cp : Nat) (ys : List Go.Proofs.YtcfhhjnbkpgpeaaDoor.RcV) (q : Rt) (na : Option Addr) (nl : Nat) (nc : Nat) (nx : Int) (Bq : Nat) (A : Nat) (D : Nat), Below X1.heap.size X1 u ∧ (L 0 = true → T 24 = .agg #[.int .i64 S1, .slice (some ⟨g0, 0, none⟩) 2 2, .int .i64 3]) ∧ (L 1 = true → T 25 = .int .i64 KM) ∧ (L 2 = true → T 26 = .agg #[.int .i64 S1, .slice (some ⟨g0, 0, none⟩) 2 2, .int .i64 3]) ∧ (L 3 = true → T 27 = .slice a len cap) ∧ (L 4 = true → T 28 = .slice ao ys.length cp) ∧ (L 5 = true → T 29 = .tuple #[.agg #[.slice q.s.ia q.s.il q.s.ic, .slice q.s.la q.s.ll q.s.lc, .slice q.s.da q.s.dl q.s.dc, .slice q.s.oa q.s.ol q.s.oc], .agg #[.int .i64 nx, .slice q.a q.js.length q.c], .slice na nl nc, .int .i64 0]) ∧ (L 6 = true → T 23 = .tuple #[.agg #[.slice q.s.ia q.s.il q.s.ic, .slice q.s.la q.s.ll q.s.lc, .slice q.s.da q.s.dl q.s.dc, .slice q.s.oa q.s.ol q.s.oc], .agg #[.int .i64 nx, .slice q.a q.js.length q.c], .slice na nl nc, .int .i64 0]) ∧ (L 7 = true → T 30 = .agg #[.slice q.s.ia q.s.il q.s.ic, .slice q.s.la q.s.ll q.s.lc, .slice q.s.da q.s.dl q.s.dc, .slice q.s.oa q.s.ol q.s.oc]) ∧ (L 8 = true → T 31 = .agg #[.int .i64 nx, .slice q.a q.js.length q.c]) ∧ (L 9 = true → T 32 = .slice na nl nc) ∧ (L 10 = true → T 33 = .int .i64 0) ∧ (L 15 = true → T 11 = .slice na nl nc) ∧ (L 16 = true → T 12 = .int .i64 0) ∧ (L 4 = true → L 5 = false → (RecsAt u ao ys.length cp (ys.map toM) ∧ (∀ y ∈ ys, recFault S1 LS2 3 y = 0) ∧ (ys.length : Int) ≤ 40)) ∧ (L 5 = true → RbAt Bq u q) ∧ (L 5 = true → (storeOK q.s = true ∧ (∀ t ∈ q.s.over, TxWf t) ∧ dkErr S1 LS2 3 nx q.js = 0)) ∧ (L 11 = true → (T 9 = .pointer (some ⟨A, 0, none⟩) ∧ X1.heap.size ≤ A ∧ A < u.heap.size)) ∧ (L 11 = true → L 13 = false → BoxN u A 4 [.slice none 0 0, .slice none 0 0, .slice none 0 0, .slice none 0 0]) ∧ (L 13 = true → BoxN u A 4 [.slice q.s.ia q.s.il q.s.ic, .slice q.s.la q.s.ll q.s.lc, .slice q.s.da q.s.dl q.s.dc, .slice q.s.oa q.s.ol q.s.oc]) ∧ (L 5 = true → L 11 = true → FarV A (q.rows)) ∧ (L 12 = true → (T 10 = .pointer (some ⟨D, 0, none⟩) ∧ X1.heap.size ≤ D ∧ D < u.heap.size)) ∧ (L 12 = true → L 14 = false → BoxN u D 2 [.int .i64 0, .slice none 0 0]) ∧ (L 14 = true → BoxN u D 2 [.int .i64 nx, .slice q.a q.js.length q.c]) ∧ (L 5 = true → L 12 = true → FarV D (q.rows)) ∧ (L 11 = true → L 12 = true → A ≠ D)) (by decide) (by kernel_rfl) (by kernel_rfl) ?_ ?_ ?_
  · exact ⟨none, 0, default, default, none, 0, 0, default, 0, 0, 0, (Below.refl _ _).drew, nofun, nofun, nofun, nofun, nofun, nofun, nofun, nofun, nofun, nofun, nofun, nofun, nofun, nofun, nofun, nofun, nofun, nofun, nofun, nofun, nofun, nofun, nofun, nofun, nofun⟩
  · refine ⟨?_, ?_, ?_, ?_, ?_, ?_, ?_, ?_, ?_, ?_, ?_, ?_, ?_, ?_, ?_, ?_, ?_, trivial⟩
    · rintro L T u hd hk hcl ⟨ao, cp, ys, q, na, nl, nc, nx, Bq, A, D, hb, p0, p1, p2, p3, p4, p5, p6, p7, p8, p9, p10, p15, p16, rs28, lv, pl, pa11, bz11, bv11, fr11_lv, pa12, bz12, bv12, fr12_lv, ne11_12⟩ K hK
      simp only [fr, Act.put, List.setIfInBounds_toArray, List.set_cons_zero, List.set_cons_succ, updO] at hK ⊢
      simp [Region.binds] at hd
      obtain ⟨x0, x1, x2, x3⟩ := KC.out u hb
      rw [if_pos (by rfl)]
      simp only [Oper.wpv]
      go_simp
      exact hK _ _ ⟨ao, cp, ys, q, na, nl, nc, nx, Bq, A, D, hb, fun _ => rfl, p1, p2, p3, p4, p5, p6, p7, p8, p9, p10, p15, p16, rs28, lv, pl, pa11, bz11, bv11, fr11_lv, pa12, bz12, bv12, fr12_lv, ne11_12⟩
    · rintro L T u hd hk hcl ⟨ao, cp, ys, q, na, nl, nc, nx, Bq, A, D, hb, p0, p1, p2, p3, p4, p5, p6, p7, p8, p9, p10, p15, p16, rs28, lv, pl, pa11, bz11, bv11, fr11_lv, pa12, bz12, bv12, fr12_lv, ne11_12⟩ K hK
      simp only [fr, Act.put, List.setIfInBounds_toArray, List.set_cons_zero, List.set_cons_succ, updO] at hK ⊢
      simp [Region.binds] at hd
      rw [if_pos (by rfl)]
      simp only [Oper.wpv]
      go_simp
      exact hK _ _ ⟨ao, cp, ys, q, na, nl, nc, nx, Bq, A, D, hb, p0, fun _ => rfl, p2, p3, p4, p5, p6, p7, p8, p9, p10, p15, p16, rs28, lv, pl, pa11, bz11, bv11, fr11_lv, pa12, bz12, bv12, fr12_lv, ne11_12⟩
    · rintro L T u hd hk hcl ⟨ao, cp, ys, q, na, nl, nc, nx, Bq, A, D, hb, p0, p1, p2, p3, p4, p5, p6, p7, p8, p9, p10, p15, p16, rs28, lv, pl, pa11, bz11, bv11, fr11_lv, pa12, bz12, bv12, fr12_lv, ne11_12⟩ K hK
      simp only [fr, Act.put, List.setIfInBounds_toArray, List.set_cons_zero, List.set_cons_succ, updO] at hK ⊢
      simp [Region.binds] at hd
      obtain ⟨x0, x1, x2, x3⟩ := KC.out u hb
      rw [if_pos (by rfl)]
      simp only [Oper.wpv]
      go_simp
      exact hK _ _ ⟨ao, cp, ys, q, na, nl, nc, nx, Bq, A, D, hb, p0, p1, fun _ => rfl, p3, p4, p5, p6, p7, p8, p9, p10, p15, p16, rs28, lv, pl, pa11, bz11, bv11, fr11_lv, pa12, bz12, bv12, fr12_lv, ne11_12⟩
    · rintro L T u hd hk hcl ⟨ao, cp, ys, q, na, nl, nc, nx, Bq, A, D, hb, p0, p1, p2, p3, p4, p5, p6, p7, p8, p9, p10, p15, p16, rs28, lv, pl, pa11, bz11, bv11, fr11_lv, pa12, bz12, bv12, fr12_lv, ne11_12⟩ K hK
      simp only [fr, Act.put, List.setIfInBounds_toArray, List.set_cons_zero, List.set_cons_succ, updO] at hK ⊢
      simp [Region.binds] at hd
      rw [if_pos (by rfl)]
      simp only [Oper.wpv]
      go_simp
      exact hK _ _ ⟨ao, cp, ys, q, na, nl, nc, nx, Bq, A, D, hb, p0, p1, p2, fun _ => rfl, p4, p5, p6, p7, p8, p9, p10, p15, p16, rs28, lv, pl, pa11, bz11, bv11, fr11_lv, pa12, bz12, bv12, fr12_lv, ne11_12⟩
    · rintro L T u hd hk hcl ⟨ao, cp, ys, q, na, nl, nc, nx, Bq, A, D, hb, p0, p1, p2, p3, p4, p5, p6, p7, p8, p9, p10, p15, p16, rs28, lv, pl, pa11, bz11, bv11, fr11_lv, pa12, bz12, bv12, fr12_lv, ne11_12⟩ K hK
      simp only [fr, Act.put, List.setIfInBounds_toArray, List.set_cons_zero, List.set_cons_succ, updO] at hK ⊢
      simp [Region.binds] at hd
      have g2 := p2 (by simp [hd])
      have g3 := p3 (by simp [hd])
      have k5 := hcl 5 _ rfl
      simp [Region.binds] at k5
      have k6 := hcl 6 _ rfl
      simp [Region.binds] at k6
      have k7 := hcl 7 _ rfl
      simp [Region.binds] at k7
      have k8 := hcl 8 _ rfl
      simp [Region.binds] at k8
      have k9 := hcl 9 _ rfl
      simp [Region.binds] at k9
      have k10 := hcl 10 _ rfl
      simp [Region.binds] at k10
      have k13 := hcl 13 _ rfl
      simp [Region.binds] at k13
      have k14 := hcl 14 _ rfl
      simp [Region.binds] at k14
      have k15 := hcl 15 _ rfl
      simp [Region.binds] at k15
      have k16 := hcl 16 _ rfl
      simp [Region.binds] at k16
      rw [if_pos (by rfl)]
      simp only [Oper.wpv]
      go_simp
      refine (HRc.out u hb).mono ?_
      rintro e u1 ⟨ao, cp, ys, rfl, hA1, hA2, hA3, hg⟩
      exact hK _ _ ⟨ao, cp, ys, q, na, nl, nc, nx, Bq, A, D, nT hb hg, p0, p1, p2, p3, fun _ => rfl, fun h => absurd (show L 5 = true from h) (by intro hh; have a5 := k5 hh; simp [hk] at a5), fun h => absurd (show L 6 = true from h) (by intro hh; have a6 := k6 hh; have a5 := k5 (by simp [a6]); simp [hk] at a5), fun h => absurd (show L 7 = true from h) (by intro hh; have a7 := k7 hh; have a6 := k6 (by simp [a7]); have a5 := k5 (by simp [a6]); simp [hk] at a5), fun h => absurd (show L 8 = true from h) (by intro hh; have a8 := k8 hh; have a6 := k6 (by simp [a8]); have a5 := k5 (by simp [a6]); simp [hk] at a5), fun h => absurd (show L 9 = true from h) (by intro hh; have a9 := k9 hh; have a6 := k6 (by simp [a9]); have a5 := k5 (by simp [a6]); simp [hk] at a5), fun h => absurd (show L 10 = true from h) (by intro hh; have a10 := k10 hh; have a6 := k6 (by simp [a10]); have a5 := k5 (by simp [a6]); simp [hk] at a5), fun h => absurd (show L 15 = true from h) (by intro hh; have a15 := k15 hh; have a9 := k9 (by simp [a15]); have a6 := k6 (by simp [a9]); have a5 := k5 (by simp [a6]); simp [hk] at a5), fun h => absurd (show L 16 = true from h) (by intro hh; have a16 := k16 hh; have a10 := k10 (by simp [a16]); have a6 := k6 (by simp [a10]); have a5 := k5 (by simp [a6]); simp [hk] at a5), fun _ _ => ⟨hA1, hA2, hA3⟩, fun h => absurd (show L 5 = true from h) (by intro hh; have a5 := k5 hh; simp [hk] at a5), fun h => absurd (show L 5 = true from h) (by intro hh; have a5 := k5 hh; simp [hk] at a5), fun h0 => ⟨(pa11 h0).1, (pa11 h0).2.1, Nat.lt_of_lt_of_le (pa11 h0).2.2 hg.size⟩, fun h0 h1 => (bz11 h0 h1).below hg (bz11 h0 h1).lt, fun h => absurd (show L 13 = true from h) (by intro hh; have a13 := k13 hh; have a7 := k7 (by simp [a13]); have a6 := k6 (by simp [a7]); have a5 := k5 (by simp [a6]); simp [hk] at a5), fun h _ => absurd (show L 5 = true from h) (by intro hh; have a5 := k5 hh; simp [hk] at a5), fun h0 => ⟨(pa12 h0).1, (pa12 h0).2.1, Nat.lt_of_lt_of_le (pa12 h0).2.2 hg.size⟩, fun h0 h1 => (bz12 h0 h1).below hg (bz12 h0 h1).lt, fun h => absurd (show L 14 = true from h) (by intro hh; have a14 := k14 hh; have a8 := k8 (by simp [a14]); have a6 := k6 (by simp [a8]); have a5 := k5 (by simp [a6]); simp [hk] at a5), fun h _ => absurd (show L 5 = true from h) (by intro hh; have a5 := k5 hh; simp [hk] at a5), ne11_12⟩
    · rintro L T u hd hk hcl ⟨ao, cp, ys, q, na, nl, nc, nx, Bq, A, D, hb, p0, p1, p2, p3, p4, p5, p6, p7, p8, p9, p10, p15, p16, rs28, lv, pl, pa11, bz11, bv11, fr11_lv, pa12, bz12, bv12, fr12_lv, ne11_12⟩ K hK
      simp only [fr, Act.put, List.setIfInBounds_toArray, List.set_cons_zero, List.set_cons_succ, updO] at hK ⊢
      simp [Region.binds] at hd
      have g0 := p0 (by simp [hd])
      have g1 := p1 (by simp [hd])
      have g4 := p4 (by simp [hd])
      obtain ⟨r1, r2, r3⟩ := rs28 (by simp [hd]) hk
      have k6 := hcl 6 _ rfl
      simp [Region.binds] at k6
      have k7 := hcl 7 _ rfl
      simp [Region.binds] at k7
      have k8 := hcl 8 _ rfl
      simp [Region.binds] at k8
      have k9 := hcl 9 _ rfl
      simp [Region.binds] at k9
      have k10 := hcl 10 _ rfl
      simp [Region.binds] at k10
      have k13 := hcl 13 _ rfl
      simp [Region.binds] at k13
      have k14 := hcl 14 _ rfl
      simp [Region.binds] at k14
      have k15 := hcl 15 _ rfl
      simp [Region.binds] at k15
      have k16 := hcl 16 _ rfl
      simp [Region.binds] at k16
      rw [if_pos (by rfl)]
      simp only [Oper.wpv]
      go_simp
      refine (HRb.out u ao cp ys hb r1 r2 r3).mono ?_
      rintro e u1 ⟨q, na, nl, nc, nx, rfl, hB1, hB2, hg⟩
      simp only [SV.val]
      exact hK _ _ ⟨ao, cp, ys, q, na, nl, nc, nx, u.heap.size, A, D, nT hb hg, p0, p1, p2, p3, p4, fun _ => rfl, fun h => absurd (show L 6 = true from h) (by intro hh; have a6 := k6 hh; simp [hk] at a6), fun h => absurd (show L 7 = true from h) (by intro hh; have a7 := k7 hh; have a6 := k6 (by simp [a7]); simp [hk] at a6), fun h => absurd (show L 8 = true from h) (by intro hh; have a8 := k8 hh; have a6 := k6 (by simp [a8]); simp [hk] at a6), fun h => absurd (show L 9 = true from h) (by intro hh; have a9 := k9 hh; have a6 := k6 (by simp [a9]); simp [hk] at a6), fun h => absurd (show L 10 = true from h) (by intro hh; have a10 := k10 hh; have a6 := k6 (by simp [a10]); simp [hk] at a6), fun h => absurd (show L 15 = true from h) (by intro hh; have a15 := k15 hh; have a9 := k9 (by simp [a15]); have a6 := k6 (by simp [a9]); simp [hk] at a6), fun h => absurd (show L 16 = true from h) (by intro hh; have a16 := k16 hh; have a10 := k10 (by simp [a16]); have a6 := k6 (by simp [a10]); simp [hk] at a6), fun _ h => Bool.noConfusion (show true = false from h), fun _ => hB1, fun _ => hB2, fun h0 => ⟨(pa11 h0).1, (pa11 h0).2.1, Nat.lt_of_lt_of_le (pa11 h0).2.2 hg.size⟩, fun h0 h1 => (bz11 h0 h1).below hg (bz11 h0 h1).lt, fun h => absurd (show L 13 = true from h) (by intro hh; have a13 := k13 hh; have a7 := k7 (by simp [a13]); have a6 := k6 (by simp [a7]); simp [hk] at a6), fun _ h1 => (hB1).farOld ((pa11 (show L 11 = true from h1)).2.2), fun h0 => ⟨(pa12 h0).1, (pa12 h0).2.1, Nat.lt_of_lt_of_le (pa12 h0).2.2 hg.size⟩, fun h0 h1 => (bz12 h0 h1).below hg (bz12 h0 h1).lt, fun h => absurd (show L 14 = true from h) (by intro hh; have a14 := k14 hh; have a8 := k8 (by simp [a14]); have a6 := k6 (by simp [a8]); simp [hk] at a6), fun _ h1 => (hB1).farOld ((pa12 (show L 12 = true from h1)).2.2), ne11_12⟩
    · rintro L T u hd hk hcl ⟨ao, cp, ys, q, na, nl, nc, nx, Bq, A, D, hb, p0, p1, p2, p3, p4, p5, p6, p7, p8, p9, p10, p15, p16, rs28, lv, pl, pa11, bz11, bv11, fr11_lv, pa12, bz12, bv12, fr12_lv, ne11_12⟩ K hK
      simp only [fr, Act.put, List.setIfInBounds_toArray, List.set_cons_zero, List.set_cons_succ, updO] at hK ⊢
      simp [Region.binds] at hd
      have g5 := p5 (by simp [hd])
      rw [if_pos (by rfl)]
      simp only [Oper.wpv]
      go_simp
      exact hK _ _ ⟨ao, cp, ys, q, na, nl, nc, nx, Bq, A, D, hb, p0, p1, p2, p3, p4, p5, fun _ => rfl, p7, p8, p9, p10, p15, p16, rs28, lv, pl, pa11, bz11, bv11, fr11_lv, pa12, bz12, bv12, fr12_lv, ne11_12⟩
    · rintro L T u hd hk hcl ⟨ao, cp, ys, q, na, nl, nc, nx, Bq, A, D, hb, p0, p1, p2, p3, p4, p5, p6, p7, p8, p9, p10, p15, p16, rs28, lv, pl, pa11, bz11, bv11, fr11_lv, pa12, bz12, bv12, fr12_lv, ne11_12⟩ K hK
      simp only [fr, Act.put, List.setIfInBounds_toArray, List.set_cons_zero, List.set_cons_succ, updO] at hK ⊢
      simp [Region.binds] at hd
      have g6 := p6 (by simp [hd])
      rw [if_pos (by rfl)]
      simp only [Oper.wpv]
      go_simp
      exact hK _ _ ⟨ao, cp, ys, q, na, nl, nc, nx, Bq, A, D, hb, p0, p1, p2, p3, p4, p5, p6, fun _ => rfl, p8, p9, p10, p15, p16, rs28, lv, pl, pa11, bz11, bv11, fr11_lv, pa12, bz12, bv12, fr12_lv, ne11_12⟩
    · rintro L T u hd hk hcl ⟨ao, cp, ys, q, na, nl, nc, nx, Bq, A, D, hb, p0, p1, p2, p3, p4, p5, p6, p7, p8, p9, p10, p15, p16, rs28, lv, pl, pa11, bz11, bv11, fr11_lv, pa12, bz12, bv12, fr12_lv, ne11_12⟩ K hK
      simp only [fr, Act.put, List.setIfInBounds_toArray, List.set_cons_zero, List.set_cons_succ, updO] at hK ⊢
      simp [Region.binds] at hd
      have g6 := p6 (by simp [hd])
      rw [if_pos (by rfl)]
      simp only [Oper.wpv]
      go_simp
      exact hK _ _ ⟨ao, cp, ys, q, na, nl, nc, nx, Bq, A, D, hb, p0, p1, p2, p3, p4, p5, p6, p7, fun _ => rfl, p9, p10, p15, p16, rs28, lv, pl, pa11, bz11, bv11, fr11_lv, pa12, bz12, bv12, fr12_lv, ne11_12⟩
    · rintro L T u hd hk hcl ⟨ao, cp, ys, q, na, nl, nc, nx, Bq, A, D, hb, p0, p1, p2, p3, p4, p5, p6, p7, p8, p9, p10, p15, p16, rs28, lv, pl, pa11, bz11, bv11, fr11_lv, pa12, bz12, bv12, fr12_lv, ne11_12⟩ K hK
      simp only [fr, Act.put, List.setIfInBounds_toArray, List.set_cons_zero, List.set_cons_succ, updO] at hK ⊢
      simp [Region.binds] at hd
      have g6 := p6 (by simp [hd])
      rw [if_pos (by rfl)]
      simp only [Oper.wpv]
      go_simp
      exact hK _ _ ⟨ao, cp, ys, q, na, nl, nc, nx, Bq, A, D, hb, p0, p1, p2, p3, p4, p5, p6, p7, p8, fun _ => rfl, p10, p15, p16, rs28, lv, pl, pa11, bz11, bv11, fr11_lv, pa12, bz12, bv12, fr12_lv, ne11_12⟩
    · rintro L T u hd hk hcl ⟨ao, cp, ys, q, na, nl, nc, nx, Bq, A, D, hb, p0, p1, p2, p3, p4, p5, p6, p7, p8, p9, p10, p15, p16, rs28, lv, pl, pa11, bz11, bv11, fr11_lv, pa12, bz12, bv12, fr12_lv, ne11_12⟩ K hK
      simp only [fr, Act.put, List.setIfInBounds_toArray, List.set_cons_zero, List.set_cons_succ, updO] at hK ⊢
      simp [Region.binds] at hd
      have g6 := p6 (by simp [hd])
      rw [if_pos (by rfl)]
      simp only [Oper.wpv]
      go_simp
      exact hK _ _ ⟨ao, cp, ys, q, na, nl, nc, nx, Bq, A, D, hb, p0, p1, p2, p3, p4, p5, p6, p7, p8, p9, fun _ => rfl, p15, p16, rs28, lv, pl, pa11, bz11, bv11, fr11_lv, pa12, bz12, bv12, fr12_lv, ne11_12⟩
    · rintro L T u hd hk hcl ⟨ao, cp, ys, q, na, nl, nc, nx, Bq, A, D, hb, p0, p1, p2, p3, p4, p5, p6, p7, p8, p9, p10, p15, p16, rs28, lv, pl, pa11, bz11, bv11, fr11_lv, pa12, bz12, bv12, fr12_lv, ne11_12⟩ K hK
      simp only [fr, Act.put, List.setIfInBounds_toArray, List.set_cons_zero, List.set_cons_succ, updO] at hK ⊢
      simp [Region.binds] at hd
      have kst := hcl 13 _ rfl
      simp [Region.binds] at kst
      rw [if_pos (by rfl)]
      simp only [Oper.wpv]
      go_simp
      have hg : Below u.heap.size u _ := (Below.refl u.heap.size u).alloc (Nat.le_refl _) (.cells #[.slice none 0 0, .slice none 0 0, .slice none 0 0, .slice none 0 0] 38)
      exact hK _ _ ⟨ao, cp, ys, q, na, nl, nc, nx, Bq, u.heap.size, D, nT hb hg, p0, p1, p2, p3, p4, p5, p6, p7, p8, p9, p10, p15, p16, fun h0 h1 => ⟨(rs28 h0 h1).1.below hg, (rs28 h0 h1).2⟩, fun h0 => (lv h0).below hg, pl, fun _ => ⟨rfl, hb.size, by simp⟩, fun _ _ => boxn_new u #[.slice none 0 0, .slice none 0 0, .slice none 0 0, .slice none 0 0] 38 4 rfl, fun h => absurd (show L 13 = true from h) (by intro hh; have := kst hh; simp [hk] at this), fun h0 _ => (lv (show L 5 = true from h0)).farNew, fun h0 => ⟨(pa12 h0).1, (pa12 h0).2.1, Nat.lt_of_lt_of_le (pa12 h0).2.2 hg.size⟩, fun h0 h1 => (bz12 h0 h1).below hg (bz12 h0 h1).lt, fun h0 => (bv12 h0).below hg (bv12 h0).lt, fr12_lv, fun _ h1 => Nat.ne_of_gt (pa12 (show L 12 = true from h1)).2.2⟩
    · rintro L T u hd hk hcl ⟨ao, cp, ys, q, na, nl, nc, nx, Bq, A, D, hb, p0, p1, p2, p3, p4, p5, p6, p7, p8, p9, p10, p15, p16, rs28, lv, pl, pa11, bz11, bv11, fr11_lv, pa12, bz12, bv12, fr12_lv, ne11_12⟩ K hK
      simp only [fr, Act.put, List.setIfInBounds_toArray, List.set_cons_zero, List.set_cons_succ, updO] at hK ⊢
      simp [Region.binds] at hd
      have kst := hcl 14 _ rfl
      simp [Region.binds] at kst
      rw [if_pos (by rfl)]
      simp only [Oper.wpv]
      go_simp
      have hg : Below u.heap.size u _ := (Below.refl u.heap.size u).alloc (Nat.le_refl _) (.cells #[.int .i64 0, .slice none 0 0] 41)
      exact hK _ _ ⟨ao, cp, ys, q, na, nl, nc, nx, Bq, A, u.heap.size, nT hb hg, p0, p1, p2, p3, p4, p5, p6, p7, p8, p9, p10, p15, p16, fun h0 h1 => ⟨(rs28 h0 h1).1.below hg, (rs28 h0 h1).2⟩, fun h0 => (lv h0).below hg, pl, fun h0 => ⟨(pa11 h0).1, (pa11 h0).2.1, Nat.lt_of_lt_of_le (pa11 h0).2.2 hg.size⟩, fun h0 h1 => (bz11 h0 h1).below hg (bz11 h0 h1).lt, fun h0 => (bv11 h0).below hg (bv11 h0).lt, fr11_lv, fun _ => ⟨rfl, hb.size, by simp⟩, fun _ _ => boxn_new u #[.int .i64 0, .slice none 0 0] 41 2 rfl, fun h => absurd (show L 14 = true from h) (by intro hh; have := kst hh; simp [hk] at this), fun h0 _ => (lv (show L 5 = true from h0)).farNew, fun h0 _ => Nat.ne_of_lt (pa11 (show L 11 = true from h0)).2.2⟩
    · rintro L T u hd hk hcl ⟨ao, cp, ys, q, na, nl, nc, nx, Bq, A, D, hb, p0, p1, p2, p3, p4, p5, p6, p7, p8, p9, p10, p15, p16, rs28, lv, pl, pa11, bz11, bv11, fr11_lv, pa12, bz12, bv12, fr12_lv, ne11_12⟩ K hK
      simp only [fr, Act.put, List.setIfInBounds_toArray, List.set_cons_zero, List.set_cons_succ, updO] at hK ⊢
      simp [Region.binds] at hd
      have g7 := p7 (by simp [hd])
      have g11 := pa11 (by simp [hd])
      have HK11 : L 11 = true := by simp [hd]
      obtain ⟨gA, gB, gC⟩ := pa11 HK11
      have bz := bz11 HK11 hk
      have z0 : u.cell? ⟨A, 0, none⟩ = some (.slice none 0 0) := (bz.c 0 (by decide)).1
      have zf0 := (bz.c 0 (by decide)).2
      have z1 : u.cell? ⟨A, 1, none⟩ = some (.slice none 0 0) := (bz.c 1 (by decide)).1
      have zf1 := (bz.c 1 (by decide)).2
      have z2 : u.cell? ⟨A, 2, none⟩ = some (.slice none 0 0) := (bz.c 2 (by decide)).1
      have zf2 := (bz.c 2 (by decide)).2
      have z3 : u.cell? ⟨A, 3, none⟩ = some (.slice none 0 0) := (bz.c 3 (by decide)).1
      have zf3 := (bz.c 3 (by decide)).2
      clear g11
      have kst12 := hcl 14 _ rfl
      simp [Region.binds] at kst12
      have k7 := hcl 7 _ rfl
      simp [Region.binds] at k7
      have k6 := hcl 6 _ rfl
      simp [Region.binds] at k6
      have a7 : L 7 = true := by simp [hd]
      have a6 : L 6 = true := by simp [k7 a7]
      have a5 : L 5 = true := by simp [k6 a6]
      have HR5 : L 5 = true := a5
      rw [if_pos (by rfl)]
      simp only [Oper.wpv]
      go_simp
      exact hK _ _ ⟨ao, cp, ys, q, na, nl, nc, nx, Bq, A, D, ((((hb.setCell (p := ⟨A, 0, none⟩) gB _).setCell (p := ⟨A, 1, none⟩) gB _).setCell (p := ⟨A, 2, none⟩) gB _).setCell (p := ⟨A, 3, none⟩) gB _), p0, p1, p2, p3, p4, p5, p6, p7, p8, p9, p10, p15, p16, fun h0 h1 => Bool.noConfusion ((show L 5 = false from h1).symm.trans HR5), fun h0 => RbAt.aside4 (lv h0) (fr11_lv h0 HK11) _ _ _ _, pl, fun h0 => ⟨(pa11 h0).1, (pa11 h0).2.1, by simpa using (pa11 h0).2.2⟩, fun h0 h1 => Bool.noConfusion (show true = false from h1), fun _ => ((((bz.set 0 (by decide) _).set 1 (by decide) _).set 2 (by decide) _).set 3 (by decide) _), fr11_lv, fun h0 => ⟨(pa12 h0).1, (pa12 h0).2.1, by simpa using (pa12 h0).2.2⟩, fun h0 h1 => (((((bz12 h0 h1).far ((ne11_12 HK11 (show L 12 = true from h0)).symm)).far ((ne11_12 HK11 (show L 12 = true from h0)).symm)).far ((ne11_12 HK11 (show L 12 = true from h0)).symm)).far ((ne11_12 HK11 (show L 12 = true from h0)).symm)), fun h0 => (((((bv12 h0).far ((ne11_12 HK11 (kst12 (show L 14 = true from h0)).1).symm)).far ((ne11_12 HK11 (kst12 (show L 14 = true from h0)).1).symm)).far ((ne11_12 HK11 (kst12 (show L 14 = true from h0)).1).symm)).far ((ne11_12 HK11 (kst12 (show L 14 = true from h0)).1).symm)), fr12_lv, ne11_12⟩
    · rintro L T u hd hk hcl ⟨ao, cp, ys, q, na, nl, nc, nx, Bq, A, D, hb, p0, p1, p2, p3, p4, p5, p6, p7, p8, p9, p10, p15, p16, rs28, lv, pl, pa11, bz11, bv11, fr11_lv, pa12, bz12, bv12, fr12_lv, ne11_12⟩ K hK
      simp only [fr, Act.put, List.setIfInBounds_toArray, List.set_cons_zero, List.set_cons_succ, updO] at hK ⊢
      simp [Region.binds] at hd
      have g8 := p8 (by simp [hd])
      have g12 := pa12 (by simp [hd])
      have HK12 : L 12 = true := by simp [hd]
      obtain ⟨gA, gB, gC⟩ := pa12 HK12
      have bz := bz12 HK12 hk
      have z0 : u.cell? ⟨D, 0, none⟩ = some (.int .i64 0) := (bz.c 0 (by decide)).1
      have zf0 := (bz.c 0 (by decide)).2
      have z1 : u.cell? ⟨D, 1, none⟩ = some (.slice none 0 0) := (bz.c 1 (by decide)).1
      have zf1 := (bz.c 1 (by decide)).2
      clear g12
      have kst11 := hcl 13 _ rfl
      simp [Region.binds] at kst11
      have k8 := hcl 8 _ rfl
      simp [Region.binds] at k8
      have k6 := hcl 6 _ rfl
      simp [Region.binds] at k6
      have a8 : L 8 = true := by simp [hd]
      have a6 : L 6 = true := by simp [k8 a8]
      have a5 : L 5 = true := by simp [k6 a6]
      have HR5 : L 5 = true := a5
      rw [if_pos (by rfl)]
      simp only [Oper.wpv]
      go_simp
      exact hK _ _ ⟨ao, cp, ys, q, na, nl, nc, nx, Bq, A, D, ((hb.setCell (p := ⟨D, 0, none⟩) gB _).setCell (p := ⟨D, 1, none⟩) gB _), p0, p1, p2, p3, p4, p5, p6, p7, p8, p9, p10, p15, p16, fun h0 h1 => Bool.noConfusion ((show L 5 = false from h1).symm.trans HR5), fun h0 => RbAt.aside2 (lv h0) (fr12_lv h0 HK12) _ _, pl, fun h0 => ⟨(pa11 h0).1, (pa11 h0).2.1, by simpa using (pa11 h0).2.2⟩, fun h0 h1 => (((bz11 h0 h1).far ((ne11_12 (show L 11 = true from h0) HK12))).far ((ne11_12 (show L 11 = true from h0) HK12))), fun h0 => (((bv11 h0).far ((ne11_12 (kst11 (show L 13 = true from h0)).1 HK12))).far ((ne11_12 (kst11 (show L 13 = true from h0)).1 HK12))), fr11_lv, fun h0 => ⟨(pa12 h0).1, (pa12 h0).2.1, by simpa using (pa12 h0).2.2⟩, fun h0 h1 => Bool.noConfusion (show true = false from h1), fun _ => ((bz.set 0 (by decide) _).set 1 (by decide) _), fr12_lv, ne11_12⟩
    · rintro L T u hd hk hcl ⟨ao, cp, ys, q, na, nl, nc, nx, Bq, A, D, hb, p0, p1, p2, p3, p4, p5, p6, p7, p8, p9, p10, p15, p16, rs28, lv, pl, pa11, bz11, bv11, fr11_lv, pa12, bz12, bv12, fr12_lv, ne11_12⟩ K hK
      simp only [fr, Act.put, List.setIfInBounds_toArray, List.set_cons_zero, List.set_cons_succ, updO] at hK ⊢
      simp [Region.binds] at hd
      have g9 := p9 (by simp [hd])
      rw [if_pos (by rfl)]
      simp only [Oper.wpv]
      go_simp
      exact hK _ _ ⟨ao, cp, ys, q, na, nl, nc, nx, Bq, A, D, hb, p0, p1, p2, p3, p4, p5, p6, p7, p8, p9, p10, fun _ => rfl, p16, rs28, lv, pl, pa11, bz11, bv11, fr11_lv, pa12, bz12, bv12, fr12_lv, ne11_12⟩
    · rintro L T u hd hk hcl ⟨ao, cp, ys, q, na, nl, nc, nx, Bq, A, D, hb, p0, p1, p2, p3, p4, p5, p6, p7, p8, p9, p10, p15, p16, rs28, lv, pl, pa11, bz11, bv11, fr11_lv, pa12, bz12, bv12, fr12_lv, ne11_12⟩ K hK
      simp only [fr, Act.put, List.setIfInBounds_toArray, List.set_cons_zero, List.set_cons_succ, updO] at hK ⊢
      simp [Region.binds] at hd
      have g10 := p10 (by simp [hd])
      rw [if_pos (by rfl)]
      simp only [Oper.wpv]
      go_simp
      exact hK _ _ ⟨ao, cp, ys, q, na, nl, nc, nx, Bq, A, D, hb, p0, p1, p2, p3, p4, p5, p6, p7, p8, p9, p10, p15, fun _ => rfl, rs28, lv, pl, pa11, bz11, bv11, fr11_lv, pa12, bz12, bv12, fr12_lv, ne11_12⟩
  · rintro L T u hl ⟨ao, cp, ys, q, na, nl, nc, nx, Bq, A, D, hb, p0, p1, p2, p3, p4, p5, p6, p7, p8, p9, p10, p15, p16, rs28, lv, pl, pa11, bz11, bv11, fr11_lv, pa12, bz12, bv12, fr12_lv, ne11_12⟩
    simp only [fr, Act.put, List.setIfInBounds_toArray, List.set_cons_zero, List.set_cons_succ]
    have h9 := pa11 (hl 11 (by decide))
    have h10 := pa12 (hl 12 (by decide))
    have h11 := p15 (hl 15 (by decide))
    have h12 := p16 (hl 16 (by decide))
    have sb := bv11 (hl 13 (by decide))
    have db := bv12 (hl 14 (by decide))
    have hq := lv (hl 5 (by decide))
    have hpl := pl (hl 5 (by decide))
    clear p0 p1 p2 p3 p4 p5 p6 p7 p8 p9 p10 p15 p16 rs28 lv pl pa11 bz11 bv11 fr11_lv pa12 bz12 bv12 fr12_lv ne11_12 KC HRc HRb
    rw [h9.1, h10.1, h11, h12]
    clear h9 h10 h11 h12 hl
    
    replace cb := cb.below hb cb.lt
    replace bw := bw.trans (hb.mono bw.size)
    replace hlab := hlab.below hb
    have hIs := hq.st.isStore
    have hIj := hq.jb.is
    clear hq
    obtain ⟨p1, p2, p3⟩ := hpl
    have HR2 : Hid (Calls Tryd.prog 9 #[.agg #[.int .i64 S1, .slice (some ⟨g0, 0, none⟩) 2 2, .int .i64 3], .int .i64 S1, .slice none 0 0] u fun e w' => e = .returned (.tuple #[.agg #[.slice none 0 0, .slice none 0 0, .slice none 0 0, .slice none 0 0], .agg #[.int .i64 0, .slice none 0 0], .slice none 0 0, .int .i64 2]) ∧ Below u.heap.size u w') := by
      have hT := KT.out u bw
      exact rebuild_no S1 3 (some ⟨g0, 0, none⟩) 2 2 LS2 S1 none 0 0 [] u hlab (recsAt_nil u) hT.1 hT.2 (by omega) (rbErr_site hc2 (by omega)) (by decide)
    clear KT
    have cb_0 : u.cell? ⟨w1.heap.size, 0, none⟩ = some (.int .i64 S1) := (cb.c 0 (by decide)).1
    have cb_1 : u.cell? ⟨w1.heap.size, 1, none⟩ = some (.slice (some ⟨g0, 0, none⟩) 2 2) := (cb.c 1 (by decide)).1
    have cb_2 : u.cell? ⟨w1.heap.size, 2, none⟩ = some (.int .i64 3) := (cb.c 2 (by decide)).1
    have cb_z := cb.lt
    go_upto_region 5 with (go_at_call 9; refine HR2.out.mono ?_; rintro e y1 ⟨rfl, hb2⟩)
    clear cb_0 cb_1 cb_2 cb_z
    clear HR2
    replace cb := cb.below hb2 cb.lt
    replace sb := sb.below hb2 sb.lt
    replace db := db.below hb2 db.lt
    replace bw := bw.trans (hb2.mono bw.size)
    replace hlab := hlab.below hb2
    replace hIs := hIs.below hb2
    replace hIj := IsJobs.below hIj hb2
    obtain ⟨X2, eX2⟩ : ∃ X : World, X = y1.alloc (.cells #[.slice none 0 0, .slice none 0 0, .slice none 0 0, .slice none 0 0] 38) := ⟨_, rfl⟩
    have eb : BoxN X2 y1.heap.size 4 [.slice none 0 0, .slice none 0 0, .slice none 0 0, .slice none 0 0] := by rw [eX2]; exact boxn_new y1 #[.slice none 0 0, .slice none 0 0, .slice none 0 0, .slice none 0 0] 38 4 rfl
    have bX2 : Below y1.heap.size y1 X2 := by rw [eX2]; exact (Below.refl _ _).alloc (Nat.le_refl _) _
    rw [← eX2]
    clear eX2
    replace cb := cb.below bX2 cb.lt
    replace sb := sb.below bX2 sb.lt
    replace db := db.below bX2 db.lt
    replace bw := bw.trans (bX2.mono bw.size)
    replace hlab := hlab.below bX2
    replace hIs := hIs.below bX2
    replace hIj := IsJobs.below hIj bX2
    obtain ⟨X3, eX3⟩ : ∃ X : World, X = X2.alloc (.cells #[.int .i64 0, .slice none 0 0] 41) := ⟨_, rfl⟩
    have fb : BoxN X3 X2.heap.size 2 [.int .i64 0, .slice none 0 0] := by rw [eX3]; exact boxn_new X2 #[.int .i64 0, .slice none 0 0] 41 2 rfl
    have bX3 : Below X2.heap.size X2 X3 := by rw [eX3]; exact (Below.refl _ _).alloc (Nat.le_refl _) _
    rw [← eX3]
    clear eX3
    replace cb := cb.below bX3 cb.lt
    replace sb := sb.below bX3 sb.lt
    replace db := db.below bX3 db.lt
    replace eb := eb.below bX3 eb.lt
    replace bw := bw.trans (bX3.mono bw.size)
    replace hlab := hlab.below bX3
    replace hIs := hIs.below bX3
    replace hIj := IsJobs.below hIj bX3
    have hCk := fun U (hU : Below X3.heap.size X3 U) => St.check_any q.s U (hIs.below hU) p2
    simp only [p1, if_true, SV.val] at hCk
    have hCd := fun U (hU : Below X3.heap.size X3 U) => deskCheck_any S1 3 (some ⟨g0, 0, none⟩) 2 2 LS2 nx q.a q.js.length q.c q.js U (hlab.below hU) (IsJobs.below hIj hU)
    simp only [p3] at hCd
    have KB : Hid (∀ U, Below X3.heap.size X3 U → BoxN U w1.heap.size 3 [.int .i64 S1, .slice (some ⟨g0, 0, none⟩) 2 2, .int .i64 3] ∧ BoxN U D 2 [.int .i64 nx, .slice q.a q.js.length q.c] ∧ Below w.heap.size w U) := fun U hU => ⟨cb.below hU cb.lt, db.below hU db.lt, bw.trans (hU.mono bw.size)⟩
    clear p1 p2 p3 hIs hIj
    have sb_0 : X3.cell? ⟨A, 0, none⟩ = some (.slice q.s.ia q.s.il q.s.ic) := (sb.c 0 (by decide)).1
    have sb_1 : X3.cell? ⟨A, 1, none⟩ = some (.slice q.s.la q.s.ll q.s.lc) := (sb.c 1 (by decide)).1
    have sb_2 : X3.cell? ⟨A, 2, none⟩ = some (.slice q.s.da q.s.dl q.s.dc) := (sb.c 2 (by decide)).1
    have sb_3 : X3.cell? ⟨A, 3, none⟩ = some (.slice q.s.oa q.s.ol q.s.oc) := (sb.c 3 (by decide)).1
    have sb_z := sb.lt
    clear cb sb db eb fb bw hlab
    go_wp2_with (first
      | (go_at_call 17; refine (hCk _ (Below.refl _ _)).mono ?_; rintro e y3 ⟨rfl, hb3⟩; obtain ⟨cb, db, bw⟩ := KB.out y3 hb3; have c0 := (cb.c 0 (by decide)).1; have c1 := (cb.c 1 (by decide)).1; have c2 := (cb.c 2 (by decide)).1; have cz := cb.lt; have d0 := (db.c 0 (by decide)).1; have d1 := (db.c 1 (by decide)).1; have dz := db.lt; simp only [List.getD_cons_zero, List.getD_cons_succ] at c0 c1 c2 d0 d1; have hCd2 := hCd y3 hb3; clear hCd cb db)
      | (go_at_call 14; refine hCd2.mono ?_; rintro e y4 ⟨rfl, hb4⟩))
    go_ret
    exact ⟨rfl, bw.trans (hb4.mono bw.size)⟩
end Go.Proofs.YtcfhhjnbkpgpeaaDoor.Rb
