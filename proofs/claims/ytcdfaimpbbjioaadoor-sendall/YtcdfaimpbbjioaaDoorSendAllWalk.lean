/- The walk of the law SendAll: what is sent is on its way, in its order. -/
import Derived.Test.YtcdfaimpbbjioaaDoorNSentPlain
import Derived.Test.YtcdfaimpbbjioaaDoorNEmpty
import Derived.Lib.QuietBelow
namespace Go.Proofs.YtcdfaimpbbjioaaDoor
open Go.ChangeShapes Go.WideShapes Go.ChangeAt Go.RowKit
set_option linter.unusedVariables false

set_option maxRecDepth 100000 in
set_option maxHeartbeats 4000000 in
theorem sendAll_walk (s : Int) (a : Option Addr) (len cap : Nat) (zs : List Int) (ra : Option Addr) (rl rc : Nat) (rs : List RV) (w : World) (hs : (Lit.int .i64 s).wf = true) (h : IsInts w a len cap zs) (hr : IsRaws w ra rl rc rs) (hm : HasAt w 0 mHas) (ht : TopsAt w) :
    Calls Tryd.prog 3 #[.int .i64 s, .slice a len cap, .slice ra rl rc] w fun e w' => e = .returned (.bool true) ∧ Below w.heap.size w w' := by
  have hs' := i64_bd hs
  have hgT : 1 < w.heap.size := World.block_lt_of_cell? w _ ht.1
  have hgM : 0 < w.heap.size := hm.lt (by decide)
  go_enter Tryd.func3, Tryd.ntmps3
  go_upto_region 2 with (go_at_call 6; refine (cfg_good s a len cap zs _ hs' h).mono ?_; rintro e w1 ⟨S, P, g, n, cp, L, rfl, hC1, hb1⟩)
  obtain ⟨W, hW⟩ : ∃ W : World, W = w1.alloc (.cells #[.int .i64 S, .slice (some ⟨g, 0, none⟩) n cp, .int .i64 P] 26) := ⟨_, rfl⟩
  have hBW : Below w1.heap.size w1 W := by rw [hW]; exact (Below.refl _ _).alloc (Nat.le_refl _) _
  have hB : Below w.heap.size w W := hb1.trans (hBW.mono hb1.size)
  have z0 : w1.heap.size < W.heap.size := by rw [hW]; simp
  have c0 : W.cell? ⟨w1.heap.size, 0, none⟩ = some (.int .i64 S) := by rw [hW]; go_simp
  have c1 : W.cell? ⟨w1.heap.size, 1, none⟩ = some (.slice (some ⟨g, 0, none⟩) n cp) := by rw [hW]; go_simp
  have c2 : W.cell? ⟨w1.heap.size, 2, none⟩ = some (.int .i64 P) := by rw [hW]; go_simp
  rw [← hW]
  clear hW
  have KA : Hid (∀ U : World, Below W.heap.size W U → U.cell? ⟨w1.heap.size, 0, none⟩ = some (.int .i64 S) ∧ U.cell? ⟨w1.heap.size, 1, none⟩ = some (.slice (some ⟨g, 0, none⟩) n cp) ∧ U.cell? ⟨w1.heap.size, 2, none⟩ = some (.int .i64 P)) := fun U hU =>
    ⟨(hU.cell (p := ⟨w1.heap.size, 0, none⟩) z0).trans c0, (hU.cell (p := ⟨w1.heap.size, 1, none⟩) z0).trans c1, (hU.cell (p := ⟨w1.heap.size, 2, none⟩) z0).trans c2⟩
  have HS : Hid (∀ U : World, Below W.heap.size W U → GoodC U S P g n cp L ∧ IsRaws U ra rl rc rs ∧ HasAt U 0 mHas ∧ TopsAt U) := fun U hU => by
    have hv := hB.trans (hU.mono hB.size)
    exact ⟨hC1.below (hBW.trans (hU.mono hBW.size)), hr.below hv, hm.below hv hgM, ht.below hv hgT⟩
  have hcf := hC1.ok
  have s1 := hC1.s1
  have s3 := hC1.s3
  obtain ⟨q1, q2, q3⟩ := Nt.sq_bd s1 (by omega)
  obtain ⟨N, hN⟩ : ∃ N : Nat, (N : Int) = S * S := ⟨(S * S).toNat, by omega⟩
  have HN : Hid ((N : Int) = S * S) := hN
  have kN : IntKind.i64.wrap (S * S) = (N : Int) := by rw [hN]; exact Nt.wrapI (by omega)
  have hN9 : N ≤ 16 := by omega
  clear hN q1 q2 q3 hm ht hr hC1 h
  obtain ⟨x1, x2, _, _⟩ := HS.out W (Below.refl _ _)
  go_upto_region 3 with (go_at_call 7; refine (Nt.messages_any S P g n cp L ra rl rc rs 25 _ x1 x2 (by omega)).mono ?_; rintro e w2 ⟨ma, mc, ms, rfl, hM2, hgood, hl25, hb2⟩)
  have HG : Hid (∀ y ∈ ms, msgFault S L P y = 0) := hgood
  have hl : ms.length ≤ 25 := by omega
  clear c0 c1 c2 x1 x2 hgood
  obtain ⟨c0, c1, c2⟩ := KA.out _ hb2
  have x1 := (HS.out _ hb2).1
  go_upto_region 4 with (go_at_call 8; refine (Nt.empty_any S P _ n cp L _ hcf x1.labs N HN.out).mono ?_; rintro e w3 ⟨g3, rfl, hO3, hb3'⟩)
  have hb3 : Below W.heap.size W w3 := hb2.trans (hb3'.mono hb2.size)
  have hM3 := hM2.below hb3'
  clear c0 c1 c2 x1 hM2
  obtain ⟨c0, c1, c2⟩ := KA.out _ hb3
  obtain ⟨x1, _, x3, x4⟩ := HS.out _ hb3
  have HSE : Hid (Nt.sendErr S L P (List.replicate N default) ms = 0) := by
    show _ = _
    unfold Nt.sendErr
    rw [if_neg (by rw [Nt.fault_empty hcf HN.out]; simp)]
    exact Nt.msgsFault_ok fun k hk => HG.out _ (Nt.getD_mem hk)
  go_upto_region 5 with (go_at_call 9; refine (Nt.send_any S P _ n cp L _ N N _ ma ms.length mc ms _ x1.labs hO3.isFly.2.1 hM3 x3 x4).mono ?_; rintro e w4 ⟨hA4, hb4'⟩; unfold Nt.SendAns at hA4; rw [if_pos HSE.out, Nt.mss_rep] at hA4; obtain ⟨g4, gs, rfl, hO4, hms4⟩ := hA4)
  have hb4 : Below W.heap.size W w4 := hb3.trans (hb4'.mono hb3.size)
  have hM4 := hM3.below hb4'
  obtain ⟨hff, hgl, htot, hway⟩ := Nt.fault_sent hcf HN.out HG.out (by omega) hms4
  have HFF : Hid (Nt.flyFault S L P gs = 0) := hff
  have HGL : Hid (gs.length = N) := hgl
  have HTOT : Hid (Nt.total (Nt.mss gs) = ms.length) := htot
  have HWAY : Hid (∀ q, (gs.getD q default).ms = Nt.way S q ms) := hway
  have hF4 := hO4.isFly.2.1
  have HFL : Hid (∀ U : World, Below w4.heap.size w4 U → Nt.IsFly U (some ⟨g4, 0, none⟩) N N gs ∧ Nt.IsMsgs U ma ms.length mc ms) := fun U hU => ⟨hF4.below hU, hM4.below hU⟩
  have hCt := Nt.count_any _ N N gs w4 hF4 hN9 (fun i hi => by rw [HWAY.out]; exact Nat.le_trans (Nt.way_le _ _ _) (by omega))
  rw [HTOT.out] at hCt
  have hCk := fun U (hU : Below w4.heap.size w4 U) => by
    obtain ⟨y1, _, y3, y4⟩ := HS.out _ (hb4.trans (hU.mono hb4.size))
    exact Nt.netCheck_any S P _ n cp L _ N N gs U y1.labs (hF4.below hU) y3 y4
  rw [HFF.out] at hCk
  clear c0 c1 c2 x1 x3 x4 hO3 hM3 hff hgl htot hway hms4
  obtain ⟨c0, c1, c2⟩ := KA.out _ hb4
  have K4 : Hid (∀ U : World, Below w4.heap.size w4 U → U.cell? ⟨w1.heap.size, 0, none⟩ = some (.int .i64 S) ∧ U.cell? ⟨w1.heap.size, 1, none⟩ = some (.slice (some ⟨g, 0, none⟩) n cp) ∧ U.cell? ⟨w1.heap.size, 2, none⟩ = some (.int .i64 P)) := fun U hU => KA.out _ (hb4.trans (hU.mono hb4.size))
  go_upto_region 7 with (first | (go_at_call 10; refine hCt.mono ?_; rintro e w5 ⟨rfl, hb5⟩; obtain ⟨c0', c1', c2'⟩ := K4.out _ hb5) | (go_at_call 11; refine (hCk _ hb5).mono ?_; rintro e w6 ⟨rfl, hb6'⟩; have hb6 : Below w4.heap.size w4 w6 := hb5.trans (hb6'.mono hb5.size)))
  go_wp2
  go_loopw [66] (fun i wr => ∃ k : Nat, k ≤ N ∧ i = .int .i64 k ∧ Below w4.heap.size w4 wr) (fun i _ => N - (intOf i).toNat)
  case atStart => exact ⟨0, Nat.zero_le _, rfl, hb6⟩
  case round =>
    obtain ⟨k, hk, rfl, hb⟩ := hrel
    rename World => wo
    by_cases hlt : k < N
    · have hlt' : (k : Int) < (N : Int) := by omega
      obtain ⟨hFo, _⟩ := HFL.out _ hb
      obtain ⟨b, off, e, hbl, hcell, hQ⟩ := hFo.at hlt
      simp only [Option.some.injEq, Addr.mk.injEq, and_true] at e
      obtain ⟨rfl, rfl⟩ := e
      simp only [Nat.zero_add] at hcell
      have hqw := HWAY.out k
      have HQ : Hid (∀ U, Below wo.heap.size wo U → Nt.IsMsgs U (gs.getD k default).a (gs.getD k default).len (gs.getD k default).cap (gs.getD k default).ms) := fun U hU => hQ.below hU
      obtain ⟨f, ef⟩ : ∃ f, f = gs.getD k default := ⟨_, rfl⟩
      rw [← ef] at hcell hqw HQ
      clear ef hQ
      obtain ⟨xa, xl, xc, xs⟩ := f
      simp only [] at hcell hqw HQ
      have HXW : Hid (xs = Nt.way S k ms) := hqw
      clear hqw
      go_upto_region 12 with (fail)
      go_loopw [14, 73] (fun t i wr => ∃ (j T : Nat), j ≤ ms.length ∧ t = .int .i64 (T : Int) ∧ i = .int .i64 j ∧ Hid (T = (Nt.way S k (ms.take j)).length) ∧ T ≤ 25 ∧ Below wo.heap.size wo wr) (fun _ i _ => ms.length - (intOf i).toNat)
      case atStart => exact ⟨0, 0, Nat.zero_le _, rfl, rfl, rfl, by omega, Below.refl _ _⟩
      case round =>
        obtain ⟨j, T, hj, rfl, rfl, hT, hT25, hq⟩ := hrel
        have hq4 : Below w4.heap.size w4 wr := hb.trans (hq.mono hb.size)
        by_cases hjl : j < ms.length
        · have hjl' : (j : Int) < (ms.length : Int) := by omega
          obtain ⟨_, hMr⟩ := HFL.out _ hq4
          obtain ⟨c0, c1, c2⟩ := K4.out _ hq4
          have hQr := HQ.out _ hq
          obtain ⟨b2, off2, rfl, hlb2, hc⟩ := hMr.2.2.2.2 (by omega)
          have hcells := hc j hjl
          have hmf := HG.out _ (Nt.getD_mem hjl)
          obtain ⟨hpl, hpN⟩ := Nt.place_of hmf s1 (by omega) HN.out
          have hsit := Nt.may_sites hmf
          have HSTEP : Hid ((Nt.way S k (ms.take (j + 1))).length = T + if Nt.plcN S (ms.getD j default) = k then 1 else 0) := by show _ = _; rw [Nt.way_step hjl, hT.out]
          have HAT : Hid (Nt.plcN S (ms.getD j default) = k → T < xs.length ∧ xs.getD T default = ms.getD j default) := fun e => by
            rw [HXW.out, hT.out]
            exact Nt.way_at hjl e
          have HLE : Hid ((Nt.way S k (ms.take (j + 1))).length ≤ 25) := Nat.le_trans (Nt.way_le _ _ _) (by simp; omega)
          obtain ⟨m, em⟩ : ∃ m, m = ms.getD j default := ⟨_, rfl⟩
          rw [← em] at hcells hpl hpN hsit HSTEP HAT
          obtain ⟨pl, epl⟩ : ∃ pl, pl = Nt.plcN S m := ⟨_, rfl⟩
          rw [← epl] at hpl hpN HSTEP HAT
          clear em hc hmf epl
          obtain ⟨kind, frm, dst, site, num, label, key, value, version, ask, yes, code⟩ := m
          simp only [] at hpl hsit
          have a0 := hcells 0 (by decide)
          have a1 := hcells 1 (by decide)
          have a2 := hcells 2 (by decide)
          have a3 := hcells 3 (by decide)
          have a4 := hcells 4 (by decide)
          have a5 := hcells 5 (by decide)
          have a6 := hcells 6 (by decide)
          have a7 := hcells 7 (by decide)
          have a8 := hcells 8 (by decide)
          have a9 := hcells 9 (by decide)
          have a10 := hcells 10 (by decide)
          have a11 := hcells 11 (by decide)
          simp only [Nt.mcells, List.getElem?_cons_zero, List.getElem?_cons_succ, Nat.add_zero] at a0 a1 a2 a3 a4 a5 a6 a7 a8 a9 a10 a11
          clear hcells
          obtain ⟨sf, sd⟩ := hsit
          obtain ⟨u1, u2, u3⟩ := Nt.mul_bd s1 (by omega) sf.1 sf.2
          obtain ⟨q', eq'⟩ : ∃ q', q' = frm * S := ⟨_, rfl⟩
          have k1 : IntKind.i64.wrap (frm * S) = q' := by rw [eq']; exact Nt.wrapI (by omega)
          rw [← eq'] at u1 u2 u3 hpl
          have k2 : IntKind.i64.wrap (q' + dst) = (pl : Int) := by rw [hpl]; exact Nt.wrapI (by omega)
          clear eq' u1 u2 u3 hpl
          go_upto_region 14 with (fail)
          obtain ⟨V, hV⟩ : ∃ V : World, V = wr.alloc (.cells #[.int .i64 kind, .int .i64 frm, .int .i64 dst, .int .i64 site, .int .i64 num, .int .i64 label, .int .i64 key, .int .i64 value, .int .i64 version, .int .i64 ask, .bool yes, .int .i64 code] 40) := ⟨_, rfl⟩
          have hbV : Below wr.heap.size wr V := by rw [hV]; exact (Below.refl _ _).alloc (Nat.le_refl _) _
          have zV : wr.heap.size < V.heap.size := by rw [hV]; simp
          have m0 : V.cell? ⟨wr.heap.size, 0, none⟩ = some (.int .i64 kind) := by rw [hV]; go_simp
          have m1 : V.cell? ⟨wr.heap.size, 1, none⟩ = some (.int .i64 frm) := by rw [hV]; go_simp
          have m2 : V.cell? ⟨wr.heap.size, 2, none⟩ = some (.int .i64 dst) := by rw [hV]; go_simp
          have m3 : V.cell? ⟨wr.heap.size, 3, none⟩ = some (.int .i64 site) := by rw [hV]; go_simp
          have m4 : V.cell? ⟨wr.heap.size, 4, none⟩ = some (.int .i64 num) := by rw [hV]; go_simp
          have m5 : V.cell? ⟨wr.heap.size, 5, none⟩ = some (.int .i64 label) := by rw [hV]; go_simp
          have m6 : V.cell? ⟨wr.heap.size, 6, none⟩ = some (.int .i64 key) := by rw [hV]; go_simp
          have m7 : V.cell? ⟨wr.heap.size, 7, none⟩ = some (.int .i64 value) := by rw [hV]; go_simp
          have m8 : V.cell? ⟨wr.heap.size, 8, none⟩ = some (.int .i64 version) := by rw [hV]; go_simp
          have m9 : V.cell? ⟨wr.heap.size, 9, none⟩ = some (.int .i64 ask) := by rw [hV]; go_simp
          have m10 : V.cell? ⟨wr.heap.size, 10, none⟩ = some (.bool yes) := by rw [hV]; go_simp
          have m11 : V.cell? ⟨wr.heap.size, 11, none⟩ = some (.int .i64 code) := by rw [hV]; go_simp
          rw [← hV]
          clear hV
          have hbW : Below wo.heap.size wo V := hq.trans (hbV.mono hq.size)
          obtain ⟨n0, n1, n2⟩ := K4.out _ (hb.trans (hbW.mono hb.size))
          have hQv := HQ.out _ hbW
          clear c0 c1 c2 a0 a1 a2 a3 a4 a5 a6 a7 a8 a9 a10 a11 hQr
          by_cases hpk : pl = k
          · subst hpk
            obtain ⟨hTx, hTe⟩ := HAT.out rfl
            rw [hQv.1] at hTx
            have hTx' : (T : Int) < (xl : Int) := by omega
            obtain ⟨b3, off3, rfl, hlb3, hc3⟩ := hQv.2.2.2.2 (by omega)
            have hcx := hc3 T hTx
            rw [hTe] at hcx
            have y0 := hcx 0 (by decide)
            have y1 := hcx 1 (by decide)
            have y2 := hcx 2 (by decide)
            have y3 := hcx 3 (by decide)
            have y4 := hcx 4 (by decide)
            have y5 := hcx 5 (by decide)
            have y6 := hcx 6 (by decide)
            have y7 := hcx 7 (by decide)
            have y8 := hcx 8 (by decide)
            have y9 := hcx 9 (by decide)
            have y10 := hcx 10 (by decide)
            have y11 := hcx 11 (by decide)
            simp only [Nt.mcells, List.getElem?_cons_zero, List.getElem?_cons_succ, Nat.add_zero] at y0 y1 y2 y3 y4 y5 y6 y7 y8 y9 y10 y11
            clear hcx hc3 hTe
            have HT1 : Hid (T + 1 = (Nt.way S pl (ms.take (j + 1))).length) := by show _ = _; rw [HSTEP.out, if_pos rfl]
            have hT24 : T + 1 ≤ 25 := by rw [HT1.out]; exact HLE.out
            go_upto_region 15 with (fail)
            go_quiet (fail)
            go_wp2
            go_roundw
            case rel => exact ⟨j + 1, T + 1, by omega, by go_num, by go_num, HT1, hT24, below_drewN hbW nq⟩
            case measure => simp [intOf]; omega
          · have hpk' : ¬ (pl : Int) = (k : Int) := by omega
            go_wp2
            go_roundw
            case rel => exact ⟨j + 1, T, by omega, rfl, by go_num, by show _ = _; rw [HSTEP.out, if_neg hpk]; rfl, hT25, hbW⟩
            case measure => simp [intOf]; omega
        · go_wp2
          go_roundw
          case rel => exact ⟨k + 1, by omega, by go_num, hq4⟩
          case measure => simp [intOf]; omega
    · go_wp2
      go_ret
      exact ⟨rfl, hB.trans ((hb4.trans (hb.mono hb4.size)).mono hB.size)⟩
end Go.Proofs.YtcdfaimpbbjioaaDoor
