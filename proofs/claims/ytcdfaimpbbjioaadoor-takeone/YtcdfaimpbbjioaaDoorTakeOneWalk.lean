/- The walk of the law TakeOne: what is taken is on its way no more; what is copied once more than before. -/
import Derived.Test.YtcdfaimpbbjioaaDoorNTakePlain
import Derived.Test.YtcdfaimpbbjioaaDoorNEmpty
import Derived.Lib.QuietBelow
import Derived.Deep.DeepCutAuto
namespace Go.Proofs.YtcdfaimpbbjioaaDoor
open Go.ChangeShapes Go.WideShapes Go.ChangeAt Go.RowKit
set_option linter.unusedVariables false

set_option maxRecDepth 100000 in
set_option maxHeartbeats 16000000 in
theorem takeOne_walk (s : Int) (a : Option Addr) (len cap : Nat) (zs : List Int) (ra : Option Addr) (rl rc : Nat) (rs : List RV) (pk0 wh : Int) (w : World) (hs : (Lit.int .i64 s).wf = true) (h : IsInts w a len cap zs) (hr : IsRaws w ra rl rc rs) (hpk : (Lit.int .i64 pk0).wf = true) (hwh : (Lit.int .i64 wh).wf = true) (hm : HasAt w 0 mHas) (ht : TopsAt w) :
    Calls Tryd.prog 5 #[.int .i64 s, .slice a len cap, .slice ra rl rc, .int .i64 pk0, .int .i64 wh] w fun e w' => e = .returned (.bool true) ∧ Below w.heap.size w w' := by
  have hs' := i64_bd hs
  have hpk' := i64_bd hpk
  have hwh' := i64_bd hwh

  have hgT : 1 < w.heap.size := World.block_lt_of_cell? w _ ht.1
  have hgM : 0 < w.heap.size := hm.lt (by decide)
  go_enter Tryd.func5, Tryd.ntmps5
  go_upto_region 2 with (go_at_call 6; refine (cfg_good s a len cap zs _ hs' h).mono ?_; rintro e w1 ⟨S, P, g, n, cp, L, rfl, hC1, hb1⟩)
  obtain ⟨W, hW⟩ : ∃ W : World, W = w1.alloc (.cells #[.int .i64 S, .slice (some ⟨g, 0, none⟩) n cp, .int .i64 P] 26) := ⟨_, rfl⟩
  have hBW : Below w1.heap.size w1 W := by rw [hW]; exact (Below.refl _ _).alloc (Nat.le_refl _) _
  have hB : Below w.heap.size w W := hb1.trans (hBW.mono hb1.size)
  have z0 : w1.heap.size < W.heap.size := by rw [hW]; simp
  have c0 : W.cell? ⟨w1.heap.size, 0, none⟩ = some (.int .i64 S) := by rw [hW]; go_simp
  have c1 : W.cell? ⟨w1.heap.size, 1, none⟩ = some (.slice (some ⟨g, 0, none⟩) n cp) := by rw [hW]; go_simp
  have c2 : W.cell? ⟨w1.heap.size, 2, none⟩ = some (.int .i64 P) := by rw [hW]; go_simp
  rw [← hW]
  clear hW
  have KA : Hid (∀ U : World, Below W.heap.size W U → U.cell? ⟨w1.heap.size, 0, none⟩ = some (.int .i64 S) ∧ U.cell? ⟨w1.heap.size, 1, none⟩ = some (.slice (some ⟨g, 0, none⟩) n cp) ∧ U.cell? ⟨w1.heap.size, 2, none⟩ = some (.int .i64 P)) := fun U hU =>
    ⟨(hU.cell (p := ⟨w1.heap.size, 0, none⟩) z0).trans c0, (hU.cell (p := ⟨w1.heap.size, 1, none⟩) z0).trans c1, (hU.cell (p := ⟨w1.heap.size, 2, none⟩) z0).trans c2⟩
  have HS : Hid (∀ U : World, Below W.heap.size W U → GoodC U S P g n cp L ∧ IsRaws U ra rl rc rs ∧ HasAt U 0 mHas ∧ TopsAt U) := fun U hU => by
    have hv := hB.trans (hU.mono hB.size)
    exact ⟨hC1.below (hBW.trans (hU.mono hBW.size)), hr.below hv, hm.below hv hgM, ht.below hv hgT⟩
  have hcf := hC1.ok
  have s1 := hC1.s1
  have s3 := hC1.s3
  obtain ⟨q1, q2, q3⟩ := Nt.sq_bd s1 (by omega)
  obtain ⟨N, hN⟩ : ∃ N : Nat, (N : Int) = S * S := ⟨(S * S).toNat, by omega⟩
  have HN : Hid ((N : Int) = S * S) := hN
  have kN : IntKind.i64.wrap (S * S) = (N : Int) := by rw [hN]; exact Nt.wrapI (by omega)
  have hN9 : N ≤ 16 := by omega
  clear hN q1 q2 q3 hm ht hr hC1 h
  obtain ⟨x1, x2, _, _⟩ := HS.out W (Below.refl _ _)
  go_upto_region 3 with (go_at_call 7; refine (Nt.messages_any S P g n cp L ra rl rc rs 20 _ x1 x2 (by omega)).mono ?_; rintro e w2 ⟨ma, mc, ms, rfl, hM2, hgood, hl20, hb2⟩)
  have HG : Hid (∀ y ∈ ms, msgFault S L P y = 0) := hgood
  have hl : ms.length ≤ 20 := by omega
  clear c0 c1 c2 x1 x2 hgood
  obtain ⟨c0, c1, c2⟩ := KA.out _ hb2
  have x1 := (HS.out _ hb2).1
  go_upto_region 4 with (go_at_call 8; refine (Nt.empty_any S P _ n cp L _ hcf x1.labs N HN.out).mono ?_; rintro e w3 ⟨g3, rfl, hO3, hb3'⟩)
  have hb3 : Below W.heap.size W w3 := hb2.trans (hb3'.mono hb2.size)
  have hM3 := hM2.below hb3'
  clear c0 c1 c2 x1 hM2
  obtain ⟨c0, c1, c2⟩ := KA.out _ hb3
  obtain ⟨x1, _, x3, x4⟩ := HS.out _ hb3
  have HSE : Hid (Nt.sendErr S L P (List.replicate N default) ms = 0) := by
    show _ = _
    unfold Nt.sendErr
    rw [if_neg (by rw [Nt.fault_empty hcf HN.out]; simp)]
    exact Nt.msgsFault_ok fun k hk => HG.out _ (Nt.getD_mem hk)
  go_upto_region 5 with (go_at_call 9; refine (Nt.send_any S P _ n cp L _ N N _ ma ms.length mc ms _ x1.labs hO3.isFly.2.1 hM3 x3 x4).mono ?_; rintro e w4 ⟨hA4, hb4'⟩; unfold Nt.SendAns at hA4; rw [if_pos HSE.out, Nt.mss_rep] at hA4; obtain ⟨g4, gs, rfl, hO4, hms4⟩ := hA4)
  have hb4 : Below W.heap.size W w4 := hb3.trans (hb4'.mono hb3.size)
  have hM4 := hM3.below hb4'
  obtain ⟨hff, hgl, htot, hway⟩ := Nt.fault_sent hcf HN.out HG.out (by omega) hms4
  have HFF : Hid (Nt.flyFault S L P gs = 0) := hff
  have HGL : Hid (gs.length = N) := hgl
  have HTOT : Hid (Nt.total (Nt.mss gs) = ms.length) := htot
  have HWAY : Hid (∀ q, (gs.getD q default).ms = Nt.way S q ms) := hway
  have hF4 := hO4.isFly.2.1
  have HFL : Hid (∀ U : World, Below w4.heap.size w4 U → Nt.IsFly U (some ⟨g4, 0, none⟩) N N gs ∧ Nt.IsMsgs U ma ms.length mc ms) := fun U hU => ⟨hF4.below hU, hM4.below hU⟩
  have h30 : ∀ i, (gs.getD i default).ms.length ≤ 20 := fun i => by rw [HWAY.out]; exact Nat.le_trans (Nt.way_le _ _ _) hl
  have H30 : Hid (∀ i, (gs.getD i default).ms.length ≤ 20) := h30
  clear h30
  clear c0 c1 c2 x1 x3 x4 hO3 hM3 hff hgl htot hway
  have HMS4 : Hid (Nt.mss gs = Nt.sent S (List.replicate N []) ms) := hms4
  clear hms4
  obtain ⟨c0, c1, c2⟩ := KA.out _ hb4
  have K4 : Hid (∀ U : World, Below w4.heap.size w4 U → U.cell? ⟨w1.heap.size, 0, none⟩ = some (.int .i64 S) ∧ U.cell? ⟨w1.heap.size, 1, none⟩ = some (.slice (some ⟨g, 0, none⟩) n cp) ∧ U.cell? ⟨w1.heap.size, 2, none⟩ = some (.int .i64 P)) := fun U hU => KA.out _ (hb4.trans (hU.mono hb4.size))
  have H4 : Hid (∀ U : World, Below w4.heap.size w4 U → GoodC U S P g n cp L ∧ HasAt U 0 mHas ∧ TopsAt U) := fun U hU => by
    obtain ⟨y1, _, y3, y4⟩ := HS.out _ (hb4.trans (hU.mono hb4.size))
    exact ⟨y1, y3, y4⟩
  have hfin4 : Below w.heap.size w w4 := hB.trans (hb4.mono hB.size)
  go_upto_region 7 with (fail)
  by_cases hms0 : ms.length = 0
  · have hms0' : (ms.length : Int) = 0 := by omega
    have hTE : Nt.takeErr S L P gs 0 0 0 3 = 6 := by
      rw [Nt.te_rest HFF.out (.inr (.inl rfl)) (inR_true (by omega) (by omega)) (inR_true (by omega) (by omega)) (by omega)]
      have : (Nt.atWay S (Nt.mss gs) 0 0).length = 0 := by
        unfold Nt.atWay
        rw [Nt.mss_at, HWAY.out]
        have := Nt.way_le S ((0 : Int) * S + 0).toNat ms
        omega
      rw [if_pos this]
    have HTE : Hid (Nt.takeErr S L P gs 0 0 0 3 = 6) := hTE
    clear hTE
    obtain ⟨x1, x3, x4⟩ := H4.out _ (Below.refl _ _)
    go_upto_region 9 with (go_at_call 14; refine (Nt.take_any S P _ n cp L _ N N gs 0 0 0 3 _ (by omega) x1.labs hF4 x3 x4).mono ?_; rintro e w6 ⟨hA6, hb6⟩; obtain ⟨ta, tl, tc, ⟨t0, t1, t2, t3, t4, t5, t6, t7, t8, t9, t10, t11⟩, rfl⟩ := Nt.take_code hA6; rw [HTE.out]; simp only [MV.val]; clear hA6)
    go_wp2
    go_ret
    exact ⟨rfl, (hfin4.trans (hb6.mono hfin4.size)).alloc (Nat.le_trans hfin4.size hb6.size) _⟩
  · have hms0' : ¬ (ms.length : Int) = 0 := by omega
    have hml : 0 < ms.length := by omega
    have hml' : (0 : Int) < (ms.length : Int) := by omega
    obtain ⟨b2, off2, rfl, hlb2, hc⟩ := hM4.2.2.2.2 hml
    have hcells := hc 0 hml
    have hmf := HG.out _ (Nt.getD_mem hml)
    obtain ⟨hpl, hpN⟩ := Nt.place_of hmf s1 (by omega) HN.out
    have hsit := Nt.may_sites hmf
    have hwat := Nt.way_at (s := S) hml (rfl : Nt.plcN S (ms.getD 0 default) = Nt.plcN S (ms.getD 0 default))
    obtain ⟨m, em⟩ : ∃ m, m = ms.getD 0 default := ⟨_, rfl⟩
    rw [← em] at hcells hpl hpN hsit hwat
    have HP0 : Hid ((m.frm * S + m.dst).toNat = Nt.plcN S m) := rfl
    obtain ⟨q, eq⟩ : ∃ q, q = Nt.plcN S m := ⟨_, rfl⟩
    rw [← eq] at hpl hpN HP0 hwat
    clear em hc hmf eq
    obtain ⟨kind, frm, dst, site, num, label, key, value, version, ask, yes, code⟩ := m
    simp only [] at hpl hsit HP0
    have a1 := hcells 1 (by decide)
    have a2 := hcells 2 (by decide)
    simp only [Nt.mcells, List.getElem?_cons_zero, List.getElem?_cons_succ, Nat.zero_mul, Nat.add_zero] at a1 a2
    clear hcells
    obtain ⟨sf, sd⟩ := hsit
    obtain ⟨u1, u2, u3⟩ := Nt.mul_bd s1 (by omega) sf.1 sf.2
    obtain ⟨q', eq'⟩ : ∃ q', q' = frm * S := ⟨_, rfl⟩
    have k1 : IntKind.i64.wrap (frm * S) = q' := by rw [eq']; exact Nt.wrapI (by omega)
    rw [← eq'] at u1 u2 u3 hpl
    have k2 : IntKind.i64.wrap (q' + dst) = (q : Int) := by rw [hpl]; exact Nt.wrapI (by omega)
    clear eq' u1 u2 u3 hpl
    have KM : Hid (∀ U : World, Below w4.heap.size w4 U → U.cell? ⟨b2, off2 + 1, none⟩ = some (.int .i64 frm) ∧ U.cell? ⟨b2, off2 + 2, none⟩ = some (.int .i64 dst)) := fun U hU => ⟨(hU.cell (p := ⟨b2, off2 + 1, none⟩) hlb2).trans a1, (hU.cell (p := ⟨b2, off2 + 2, none⟩) hlb2).trans a2⟩
    go_upto_region 10 with (fail)
    go_quiet (fail)
    have hbq : Below w4.heap.size w4 (w4.drewN nq) := below_drewN (Below.refl _ _) nq
    obtain ⟨V, eV⟩ : ∃ V, V = w4.drewN nq := ⟨_, rfl⟩
    rw [← eV] at hbq ⊢
    clear eV c0 c1 c2 a1 a2
    have hb3 := pk_bd wh 3 (by decide)
    have hPk := fun w' => picked_any wh 3 w' hwh' (by omega) (by omega)
    obtain ⟨K0, eK0⟩ : ∃ K0 : Int, K0 = pk wh 3 := ⟨_, rfl⟩
    rw [← eK0] at hb3 hPk
    clear eK0
    obtain ⟨K, eK⟩ : ∃ K : Int, K = 2 + K0 := ⟨_, rfl⟩
    have wK : IntKind.i64.wrap (2 + K0) = K := by rw [eK]; exact Nt.wrapI (by omega)
    obtain ⟨hb3a, hb3b⟩ := hb3
    have HB3 : Hid (0 ≤ K0 ∧ K0 < 3) := ⟨hb3a, hb3b⟩
    have HK0 : Hid (K = 2 + K0) := eK
    clear hb3a hb3b eK
    go_upto_region 12 with (go_at_call 13; refine (hPk _).mono ?_; rintro e w5 ⟨rfl, hu5⟩; rw [hu5]; clear hu5)
    have eK := HK0.out
    have hb3 := HB3.out
    clear wK
    have hK : K = 2 ∨ K = 3 ∨ K = 4 := by omega
    clear eK hb3
    go_upto_region 13 with (go_at_call 13; refine (picked_any pk0 50 _ hpk' (by omega) (by omega)).mono ?_; rintro e w5 ⟨rfl, hu5⟩; rw [hu5]; clear hu5)
    have hb50 := pk_bd pk0 50 (by decide)
    obtain ⟨PP, eP⟩ : ∃ PP : Nat, (PP : Int) = pk pk0 50 := ⟨(pk pk0 50).toNat, by omega⟩
    rw [← eP] at hb50 ⊢
    clear eP
    have hqN : q < N := hpN
    have hqN' : (q : Int) < (N : Int) := by omega
    have hway : (gs.getD q default).ms = Nt.way S q ms := HWAY.out q
    have hatw : Nt.atWay S (Nt.mss gs) frm dst = (gs.getD q default).ms := by
      unfold Nt.atWay
      rw [HP0.out, Nt.mss_at]
    have hx20 := H30.out q
    have hx0 : 0 < (gs.getD q default).ms.length := by rw [hway]; exact Nat.lt_of_le_of_lt (Nat.zero_le _) hwat.1
    have HTE : Hid (∀ K : Int, K = 2 ∨ K = 3 ∨ K = 4 → Nt.takeErr S L P gs frm dst (PP : Int) K = 0) := fun K hK => by
      rw [Nt.te_rest HFF.out hK (inR_true sf.1 sf.2) (inR_true sd.1 sd.2) (by omega), hatw]
      rw [if_neg (by omega), if_neg (by omega)]
    have HAW : Hid (Nt.atWay S (Nt.mss gs) frm dst = (gs.getD q default).ms) := hatw
    have HFL2 : Hid (∀ U : World, Below w4.heap.size w4 U → U.cell? ⟨g4, q, none⟩ = some (.slice (gs.getD q default).a (gs.getD q default).len (gs.getD q default).cap) ∧ Nt.IsMsgs U (gs.getD q default).a (gs.getD q default).len (gs.getD q default).cap (gs.getD q default).ms) := fun U hU => by
      obtain ⟨b', off', e, _, hcl, hmm⟩ := (hF4.below hU).at hqN
      simp at e
      obtain ⟨rfl, rfl⟩ := e
      exact ⟨by simpa using hcl, hmm⟩
    obtain ⟨x, ex⟩ : ∃ x, x = gs.getD q default := ⟨_, rfl⟩
    rw [← ex] at HAW HFL2 hx20 hx0
    clear ex hway hatw
    obtain ⟨xa, xl, xc, xs⟩ := x
    simp only [] at HAW HFL2 hx20 hx0
    have hxl : xs.length = xl := (HFL2.out w4 (Below.refl _ _)).2.1
    rw [hxl] at hx20 hx0
    have HXL : Hid (xs.length = xl) := hxl
    clear hxl
    obtain ⟨I, eI⟩ : ∃ I : Nat, I = PP % xl := ⟨_, rfl⟩
    have hI : I < xl := by rw [eI]; exact Nat.mod_lt _ hx0
    have hmod : (PP : Int).tmod (xl : Int) = (I : Int) := by rw [eI, Int.tmod_eq_emod_of_nonneg (by omega)]; first | exact (Int.natCast_mod PP xl).symm | exact (Int.natCast_emod PP xl).symm | simp
    have HI : Hid (((PP : Int)).toNat % (Nt.atWay S (Nt.mss gs) frm dst).length = I) := by show _ = _; rw [HAW.out, HXL.out, eI, Int.toNat_natCast]
    have hI' : (I : Int) < (xl : Int) := by omega
    have hnz : ¬ (xl : Int) = 0 := by omega
    have wI : IntKind.i64.wrap (I : Int) = (I : Int) := Nt.wrapI (by omega)
    clear eI
    have HM : Hid ((Nt.atWay S (Nt.mss gs) frm dst).getD I default = xs.getD I default) := by show _ = _; rw [HAW.out]
    obtain ⟨tm, etm⟩ : ∃ tm, tm = xs.getD I default := ⟨_, rfl⟩
    rw [← etm] at HM
    have ETM : Hid (tm = xs.getD I default) := etm
    clear etm
    obtain ⟨t0, t1, t2, t3, t4, t5, t6, t7, t8, t9, t10, t11⟩ := tm
    have HTAKE : Hid (∀ (K : Int), K = 2 ∨ K = 3 ∨ K = 4 → ∀ U, Below V.heap.size V U → Calls Tryd.prog 14 #[.agg #[.int .i64 S, .slice (some ⟨g, 0, none⟩) n cp, .int .i64 P], .slice (some ⟨g4, 0, none⟩) N N, .int .i64 frm, .int .i64 dst, .int .i64 (PP : Int), .int .i64 K] U fun e w' => ∃ g6 gs6, e = .returned (.tuple #[.slice (some ⟨g6, 0, none⟩) N N, .agg #[.int .i64 t0, .int .i64 t1, .int .i64 t2, .int .i64 t3, .int .i64 t4, .int .i64 t5, .int .i64 t6, .int .i64 t7, .int .i64 t8, .int .i64 t9, .bool t10, .int .i64 t11], .int .i64 0]) ∧ Nt.OwnFly w' U.heap.size (.slice (some ⟨g6, 0, none⟩) N N) gs6 ∧ Nt.mss gs6 = Nt.takenL S (Nt.mss gs) frm dst K I ∧ Below U.heap.size U w') := fun K hK U hU => by
      have hU4 := hbq.trans (hU.mono hbq.size)
      obtain ⟨y1, y3, y4⟩ := H4.out _ hU4
      refine (Nt.take_any S P _ n cp L _ N N gs frm dst (PP : Int) K U (by omega) y1.labs (hF4.below hU4) y3 y4).mono ?_
      rintro e w' ⟨hA, hbA⟩
      unfold Nt.TakeAns at hA
      rw [if_pos (HTE.out K hK), HI.out, HM.out] at hA
      obtain ⟨g6, gs6, rfl, h1, h2⟩ := hA
      exact ⟨g6, gs6, rfl, h1, h2, hbA⟩
    have HTOT2 : Hid (∀ (K : Int) (gs6 : List Nt.FL), Nt.mss gs6 = Nt.takenL S (Nt.mss gs) frm dst K I → gs6.length = N ∧ (∀ i, (gs6.getD i default).ms.length ≤ 30) ∧ Nt.total (Nt.mss gs6) + (if K = 4 then 0 else 1) = ms.length + (if K = 4 then 1 else 0) ∧ (K = 4 → (gs6.getD q default).ms = xs ++ [⟨t0, t1, t2, t3, t4, t5, t6, t7, t8, t9, t10, t11⟩])) := fun K gs6 h6 => by
      have hql : (frm * S + dst).toNat < (Nt.mss gs).length := by rw [HP0.out, Nt.mss_len, HGL.out]; exact hqN
      have hlen : gs6.length = N := by rw [← Nt.mss_len, h6]; unfold Nt.takenL; rw [List.length_set, Nt.mss_len, HGL.out]
      have htt := Nt.taken_total (kind := K) hql (by rw [HAW.out, HXL.out]; exact hI)
      rw [← h6, HTOT.out] at htt
      have hgs : ∀ i, (gs6.getD i default).ms = if i = q then (if K = 4 then xs ++ [⟨t0, t1, t2, t3, t4, t5, t6, t7, t8, t9, t10, t11⟩] else xs.eraseIdx I) else (gs.getD i default).ms := fun i => by
        rw [← Nt.mss_at, h6]
        unfold Nt.takenL
        rw [Nt.getD_setL _ _ _ _ hql, HM.out, HAW.out, HP0.out, Nt.mss_at]
      refine ⟨hlen, fun i => ?_, htt, fun hk => ?_⟩
      · rw [hgs]
        split
        · split
          · rw [List.length_append, HXL.out]; simp; omega
          · have := List.length_eraseIdx_le xs I
            rw [HXL.out] at this
            omega
        · have := H30.out i
          omega
      · rw [hgs, if_pos rfl, if_pos hk]
    have KV : Hid (∀ U : World, Below V.heap.size V U → (U.cell? ⟨w1.heap.size, 0, none⟩ = some (.int .i64 S) ∧ U.cell? ⟨w1.heap.size, 1, none⟩ = some (.slice (some ⟨g, 0, none⟩) n cp) ∧ U.cell? ⟨w1.heap.size, 2, none⟩ = some (.int .i64 P)) ∧ U.cell? ⟨b2, off2 + 1, none⟩ = some (.int .i64 frm) ∧ U.cell? ⟨b2, off2 + 2, none⟩ = some (.int .i64 dst)) := fun U hU => ⟨K4.out _ (hbq.trans (hU.mono hbq.size)), KM.out _ (hbq.trans (hU.mono hbq.size))⟩
    have hD : Below V.heap.size V V.drew := (Below.refl _ _).drew
    obtain ⟨⟨c0, c1, c2⟩, a1, a2⟩ := KV.out _ (Below.refl _ _)
    have hzV := hbq.size
    clear hwat
    rcases hK with hK | hK | hK
    · subst hK
      go_cut [22, 23, 24] (fun v b e wc => ∃ (g6 : Nat) (gs6 : List Nt.FL) (bx : Nat), v = .slice (some ⟨g6, 0, none⟩) N N ∧ b = .pointer (some ⟨bx, 0, none⟩) ∧ e = .int .i64 0 ∧ Nt.BoxN wc bx 12 [.int .i64 t0, .int .i64 t1, .int .i64 t2, .int .i64 t3, .int .i64 t4, .int .i64 t5, .int .i64 t6, .int .i64 t7, .int .i64 t8, .int .i64 t9, .bool t10, .int .i64 t11] ∧ Nt.OwnFly wc V.heap.size (.slice (some ⟨g6, 0, none⟩) N N) gs6 ∧ Nt.mss gs6 = Nt.takenL S (Nt.mss gs) frm dst 2 I ∧ Below V.heap.size V wc)
      case first =>
        have HTKH : Hid (∀ U, Below V.heap.size V U → Calls Tryd.prog 14 #[.agg #[.int .i64 S, .slice (some ⟨g, 0, none⟩) n cp, .int .i64 P], .slice (some ⟨g4, 0, none⟩) N N, .int .i64 frm, .int .i64 dst, .int .i64 (PP : Int), .int .i64 2] U fun e w' => ∃ g6 gs6, e = .returned (.tuple #[.slice (some ⟨g6, 0, none⟩) N N, .agg #[.int .i64 t0, .int .i64 t1, .int .i64 t2, .int .i64 t3, .int .i64 t4, .int .i64 t5, .int .i64 t6, .int .i64 t7, .int .i64 t8, .int .i64 t9, .bool t10, .int .i64 t11], .int .i64 0]) ∧ Nt.OwnFly w' U.heap.size (.slice (some ⟨g6, 0, none⟩) N N) gs6 ∧ Nt.mss gs6 = Nt.takenL S (Nt.mss gs) frm dst 2 I ∧ Below U.heap.size U w') := HTAKE.out 2 (by omega)
        go_region_held3 (fun U => (U.cell? ⟨w1.heap.size, 0, none⟩ = some (.int .i64 S) ∧ U.cell? ⟨w1.heap.size, 1, none⟩ = some (.slice (some ⟨g, 0, none⟩) n cp) ∧ U.cell? ⟨w1.heap.size, 2, none⟩ = some (.int .i64 P)) ∧ U.cell? ⟨b2, off2 + 1, none⟩ = some (.int .i64 frm) ∧ U.cell? ⟨b2, off2 + 2, none⟩ = some (.int .i64 dst))
          (exact KV.out _ (by (with_reducible repeat (first | exact hu3 | exact hD | exact Below.refl _ _ | refine bD ?_ | refine bA ?_ _ | refine bS ?_ (by omega) _)); done))
          ((go_at_call 14; refine (HTKH.out _ (by (with_reducible repeat (first | exact hD | exact Below.refl _ _ | refine bD ?_ | refine bA ?_ _ | refine bS ?_ (by omega) _)); done)).mono ?_; rintro e u3 ⟨g6, gs6, rfl, hO6, hm6, hb3'⟩; have hu3 : Below V.heap.size V u3 := bT (by (with_reducible repeat (first | exact hD | exact Below.refl _ _ | refine bD ?_ | refine bA ?_ _ | refine bS ?_ (by omega) _)); done) hb3'; have z3 : V.heap.size ≤ u3.heap.size := hu3.size; (first | (have bx3 : Nt.BoxN u3 V.heap.size 12 [.int .i64 0, .int .i64 0, .int .i64 0, .int .i64 0, .int .i64 0, .int .i64 0, .int .i64 0, .int .i64 0, .int .i64 0, .int .i64 0, .bool false, .int .i64 0] := (Nt.boxn_new V.drew #[.int .i64 0, .int .i64 0, .int .i64 0, .int .i64 0, .int .i64 0, .int .i64 0, .int .i64 0, .int .i64 0, .int .i64 0, .int .i64 0, .bool false, .int .i64 0] 40 12 rfl).below hb3' (by simp); have s0 : _ = some (Value.int .i64 0) := (bx3.c 0 (by omega)).1; have g0' := (bx3.c 0 (by omega)).2; have s1 : _ = some (Value.int .i64 0) := (bx3.c 1 (by omega)).1; have g1' := (bx3.c 1 (by omega)).2; have s2 : _ = some (Value.int .i64 0) := (bx3.c 2 (by omega)).1; have g2' := (bx3.c 2 (by omega)).2; have s3 : _ = some (Value.int .i64 0) := (bx3.c 3 (by omega)).1; have g3' := (bx3.c 3 (by omega)).2; have s4 : _ = some (Value.int .i64 0) := (bx3.c 4 (by omega)).1; have g4' := (bx3.c 4 (by omega)).2; have s5 : _ = some (Value.int .i64 0) := (bx3.c 5 (by omega)).1; have g5' := (bx3.c 5 (by omega)).2; have s6 : _ = some (Value.int .i64 0) := (bx3.c 6 (by omega)).1; have g6' := (bx3.c 6 (by omega)).2; have s7 : _ = some (Value.int .i64 0) := (bx3.c 7 (by omega)).1; have g7' := (bx3.c 7 (by omega)).2; have s8 : _ = some (Value.int .i64 0) := (bx3.c 8 (by omega)).1; have g8' := (bx3.c 8 (by omega)).2; have s9 : _ = some (Value.int .i64 0) := (bx3.c 9 (by omega)).1; have g9' := (bx3.c 9 (by omega)).2; have s10 : _ = some (Value.bool false) := (bx3.c 10 (by omega)).1; have g10' := (bx3.c 10 (by omega)).2; have s11 : _ = some (Value.int .i64 0) := (bx3.c 11 (by omega)).1; have g11' := (bx3.c 11 (by omega)).2) | (have bx3 : Nt.BoxN u3 V.heap.size 12 [.int .i64 0, .int .i64 0, .int .i64 0, .int .i64 0, .int .i64 0, .int .i64 0, .int .i64 0, .int .i64 0, .int .i64 0, .int .i64 0, .bool false, .int .i64 0] := (Nt.boxn_new V #[.int .i64 0, .int .i64 0, .int .i64 0, .int .i64 0, .int .i64 0, .int .i64 0, .int .i64 0, .int .i64 0, .int .i64 0, .int .i64 0, .bool false, .int .i64 0] 40 12 rfl).below hb3' (by simp); have s0 : _ = some (Value.int .i64 0) := (bx3.c 0 (by omega)).1; have g0' := (bx3.c 0 (by omega)).2; have s1 : _ = some (Value.int .i64 0) := (bx3.c 1 (by omega)).1; have g1' := (bx3.c 1 (by omega)).2; have s2 : _ = some (Value.int .i64 0) := (bx3.c 2 (by omega)).1; have g2' := (bx3.c 2 (by omega)).2; have s3 : _ = some (Value.int .i64 0) := (bx3.c 3 (by omega)).1; have g3' := (bx3.c 3 (by omega)).2; have s4 : _ = some (Value.int .i64 0) := (bx3.c 4 (by omega)).1; have g4' := (bx3.c 4 (by omega)).2; have s5 : _ = some (Value.int .i64 0) := (bx3.c 5 (by omega)).1; have g5' := (bx3.c 5 (by omega)).2; have s6 : _ = some (Value.int .i64 0) := (bx3.c 6 (by omega)).1; have g6' := (bx3.c 6 (by omega)).2; have s7 : _ = some (Value.int .i64 0) := (bx3.c 7 (by omega)).1; have g7' := (bx3.c 7 (by omega)).2; have s8 : _ = some (Value.int .i64 0) := (bx3.c 8 (by omega)).1; have g8' := (bx3.c 8 (by omega)).2; have s9 : _ = some (Value.int .i64 0) := (bx3.c 9 (by omega)).1; have g9' := (bx3.c 9 (by omega)).2; have s10 : _ = some (Value.bool false) := (bx3.c 10 (by omega)).1; have g10' := (bx3.c 10 (by omega)).2; have s11 : _ = some (Value.int .i64 0) := (bx3.c 11 (by omega)).1; have g11' := (bx3.c 11 (by omega)).2) | skip)))
        all_goals
          have HM6 : Hid (Nt.mss gs6 = Nt.takenL S (Nt.mss gs) frm dst 2 I) := hm6
          clear hm6
          first
            | (have bxF := ((((((((((((bx3.set 0 (by omega) (.int .i64 t0)).set 1 (by omega) (.int .i64 t1)).set 2 (by omega) (.int .i64 t2)).set 3 (by omega) (.int .i64 t3)).set 4 (by omega) (.int .i64 t4)).set 5 (by omega) (.int .i64 t5)).set 6 (by omega) (.int .i64 t6)).set 7 (by omega) (.int .i64 t7)).set 8 (by omega) (.int .i64 t8)).set 9 (by omega) (.int .i64 t9)).set 10 (by omega) (.bool t10)).set 11 (by omega) (.int .i64 t11)); have oF := (Nt.OwnFly.foreign (Nt.OwnFly.foreign (Nt.OwnFly.foreign (Nt.OwnFly.foreign (Nt.OwnFly.foreign (Nt.OwnFly.foreign (Nt.OwnFly.foreign (Nt.OwnFly.foreign (Nt.OwnFly.foreign (Nt.OwnFly.foreign (Nt.OwnFly.foreign (Nt.OwnFly.foreign hO6 (b := V.heap.size) (by simp) 0 (.int .i64 t0)) (b := V.heap.size) (by simp) 1 (.int .i64 t1)) (b := V.heap.size) (by simp) 2 (.int .i64 t2)) (b := V.heap.size) (by simp) 3 (.int .i64 t3)) (b := V.heap.size) (by simp) 4 (.int .i64 t4)) (b := V.heap.size) (by simp) 5 (.int .i64 t5)) (b := V.heap.size) (by simp) 6 (.int .i64 t6)) (b := V.heap.size) (by simp) 7 (.int .i64 t7)) (b := V.heap.size) (by simp) 8 (.int .i64 t8)) (b := V.heap.size) (by simp) 9 (.int .i64 t9)) (b := V.heap.size) (by simp) 10 (.bool t10)) (b := V.heap.size) (by simp) 11 (.int .i64 t11)))
            | (have bxF : Nt.BoxN _ u3.heap.size 12 [.int .i64 t0, .int .i64 t1, .int .i64 t2, .int .i64 t3, .int .i64 t4, .int .i64 t5, .int .i64 t6, .int .i64 t7, .int .i64 t8, .int .i64 t9, .bool t10, .int .i64 t11] := Nt.boxn_new u3 #[.int .i64 t0, .int .i64 t1, .int .i64 t2, .int .i64 t3, .int .i64 t4, .int .i64 t5, .int .i64 t6, .int .i64 t7, .int .i64 t8, .int .i64 t9, .bool t10, .int .i64 t11] 40 12 rfl; have oF := Nt.OwnFly.below hO6 (Below.alloc (Below.refl _ _) (Nat.le_refl _) (.cells #[.int .i64 t0, .int .i64 t1, .int .i64 t2, .int .i64 t3, .int .i64 t4, .int .i64 t5, .int .i64 t6, .int .i64 t7, .int .i64 t8, .int .i64 t9, .bool t10, .int .i64 t11] 40)))
          go_wp2_with fail
          go_meet
          case rel => exact ⟨_, gs6, _, rfl, rfl, rfl, bxF, oF.base (by first | exact Nat.le_refl _ | (simp; done) | (simp; omega)), HM6.out, (by (with_reducible repeat (first | exact hu3 | exact hD | exact Below.refl _ _ | refine bD ?_ | refine bA ?_ _ | refine bS ?_ (by omega) _)); done)⟩
      case rest =>
        obtain ⟨g6, gs6, bx, rfl, rfl, rfl, bxF, hO6, hm6, bF⟩ := hcut
        obtain ⟨X, eX⟩ : ∃ X, X = wc := ⟨_, rfl⟩
        rw [← eX] at bxF hO6 bF ⊢
        clear eX
        obtain ⟨hgl6, h30', htt, hcopy⟩ := HTOT2.out 2 gs6 hm6
        have hX4 := hbq.trans (bF.mono hbq.size)
        obtain ⟨hgc, hMx⟩ := HFL2.out _ hX4
        obtain ⟨bb, offb, rfl, hlb, hc⟩ := hMx.2.2.2.2 hx0
        have hcells := hc I hI
        rw [← ETM.out] at hcells
        have a0' := hcells 0 (by decide)
        have a1' := hcells 1 (by decide)
        have a2' := hcells 2 (by decide)
        have a3' := hcells 3 (by decide)
        have a4' := hcells 4 (by decide)
        have a5' := hcells 5 (by decide)
        have a6' := hcells 6 (by decide)
        have a7' := hcells 7 (by decide)
        have a8' := hcells 8 (by decide)
        have a9' := hcells 9 (by decide)
        have a10' := hcells 10 (by decide)
        have a11' := hcells 11 (by decide)
        simp only [Nt.mcells, List.getElem?_cons_zero, List.getElem?_cons_succ, Nat.add_zero] at a0' a1' a2' a3' a4' a5' a6' a7' a8' a9' a10' a11'
        clear hcells hc
        have e0 : X.cell? ⟨bx, 0, none⟩ = some (.int .i64 t0) := (bxF.c 0 (by omega)).1
        have e1 : X.cell? ⟨bx, 1, none⟩ = some (.int .i64 t1) := (bxF.c 1 (by omega)).1
        have e2 : X.cell? ⟨bx, 2, none⟩ = some (.int .i64 t2) := (bxF.c 2 (by omega)).1
        have e3 : X.cell? ⟨bx, 3, none⟩ = some (.int .i64 t3) := (bxF.c 3 (by omega)).1
        have e4 : X.cell? ⟨bx, 4, none⟩ = some (.int .i64 t4) := (bxF.c 4 (by omega)).1
        have e5 : X.cell? ⟨bx, 5, none⟩ = some (.int .i64 t5) := (bxF.c 5 (by omega)).1
        have e6 : X.cell? ⟨bx, 6, none⟩ = some (.int .i64 t6) := (bxF.c 6 (by omega)).1
        have e7 : X.cell? ⟨bx, 7, none⟩ = some (.int .i64 t7) := (bxF.c 7 (by omega)).1
        have e8 : X.cell? ⟨bx, 8, none⟩ = some (.int .i64 t8) := (bxF.c 8 (by omega)).1
        have e9 : X.cell? ⟨bx, 9, none⟩ = some (.int .i64 t9) := (bxF.c 9 (by omega)).1
        have e10 : X.cell? ⟨bx, 10, none⟩ = some (.bool t10) := (bxF.c 10 (by omega)).1
        have e11 : X.cell? ⟨bx, 11, none⟩ = some (.int .i64 t11) := (bxF.c 11 (by omega)).1
        have hCt := fun U (hU : Below X.heap.size X U) => Nt.count_any _ N N gs6 U (hO6.below hU).isFly.2.1 hN9 (fun i _ => h30' i)
        obtain ⟨TT, eTT⟩ : ∃ TT, TT = Nt.total (Nt.mss gs6) := ⟨_, rfl⟩
        rw [← eTT] at hCt htt
        clear eTT
        simp at htt
        have HFinal : Hid (Below w.heap.size w X) := hfin4.trans (hX4.mono hfin4.size)
        go_upto_region 14 with (fail)
        go_quiet (fail)
        have hbx : Below X.heap.size X (X.drewN nq) := below_drewN (Below.refl _ _) nq
        obtain ⟨Y, eY⟩ : ∃ Y, Y = X.drewN nq := ⟨_, rfl⟩
        rw [← eY] at hbx ⊢
        clear eY
        have hTT : (TT : Int) = (ms.length : Int) - 1 := by omega
        have wT : IntKind.i64.wrap ((ms.length : Int) - 1) = (TT : Int) := by rw [hTT]; exact Nt.wrapI (by omega)
        clear a0' a1' a2' a3' a4' a5' a6' a7' a8' a9' a10' a11' e0 e1 e2 e3 e4 e5 e6 e7 e8 e9 e10 e11 hgc
        go_wp2_with (go_at_call 10; refine (hCt _ hbx).mono ?_; rintro e w7 ⟨rfl, hb7⟩)
        go_ret
        have hf := HFinal.out.trans (hbx.mono HFinal.out.size)
        exact ⟨rfl, hf.trans (hb7.mono hf.size)⟩
    · subst hK
      go_cut [22, 23, 24] (fun v b e wc => ∃ (g6 : Nat) (gs6 : List Nt.FL) (bx : Nat), v = .slice (some ⟨g6, 0, none⟩) N N ∧ b = .pointer (some ⟨bx, 0, none⟩) ∧ e = .int .i64 0 ∧ Nt.BoxN wc bx 12 [.int .i64 t0, .int .i64 t1, .int .i64 t2, .int .i64 t3, .int .i64 t4, .int .i64 t5, .int .i64 t6, .int .i64 t7, .int .i64 t8, .int .i64 t9, .bool t10, .int .i64 t11] ∧ Nt.OwnFly wc V.heap.size (.slice (some ⟨g6, 0, none⟩) N N) gs6 ∧ Nt.mss gs6 = Nt.takenL S (Nt.mss gs) frm dst 3 I ∧ Below V.heap.size V wc)
      case first =>
        have HTKH : Hid (∀ U, Below V.heap.size V U → Calls Tryd.prog 14 #[.agg #[.int .i64 S, .slice (some ⟨g, 0, none⟩) n cp, .int .i64 P], .slice (some ⟨g4, 0, none⟩) N N, .int .i64 frm, .int .i64 dst, .int .i64 (PP : Int), .int .i64 3] U fun e w' => ∃ g6 gs6, e = .returned (.tuple #[.slice (some ⟨g6, 0, none⟩) N N, .agg #[.int .i64 t0, .int .i64 t1, .int .i64 t2, .int .i64 t3, .int .i64 t4, .int .i64 t5, .int .i64 t6, .int .i64 t7, .int .i64 t8, .int .i64 t9, .bool t10, .int .i64 t11], .int .i64 0]) ∧ Nt.OwnFly w' U.heap.size (.slice (some ⟨g6, 0, none⟩) N N) gs6 ∧ Nt.mss gs6 = Nt.takenL S (Nt.mss gs) frm dst 3 I ∧ Below U.heap.size U w') := HTAKE.out 3 (by omega)
        go_region_held3 (fun U => (U.cell? ⟨w1.heap.size, 0, none⟩ = some (.int .i64 S) ∧ U.cell? ⟨w1.heap.size, 1, none⟩ = some (.slice (some ⟨g, 0, none⟩) n cp) ∧ U.cell? ⟨w1.heap.size, 2, none⟩ = some (.int .i64 P)) ∧ U.cell? ⟨b2, off2 + 1, none⟩ = some (.int .i64 frm) ∧ U.cell? ⟨b2, off2 + 2, none⟩ = some (.int .i64 dst))
          (exact KV.out _ (by (with_reducible repeat (first | exact hu3 | exact hD | exact Below.refl _ _ | refine bD ?_ | refine bA ?_ _ | refine bS ?_ (by omega) _)); done))
          ((go_at_call 14; refine (HTKH.out _ (by (with_reducible repeat (first | exact hD | exact Below.refl _ _ | refine bD ?_ | refine bA ?_ _ | refine bS ?_ (by omega) _)); done)).mono ?_; rintro e u3 ⟨g6, gs6, rfl, hO6, hm6, hb3'⟩; have hu3 : Below V.heap.size V u3 := bT (by (with_reducible repeat (first | exact hD | exact Below.refl _ _ | refine bD ?_ | refine bA ?_ _ | refine bS ?_ (by omega) _)); done) hb3'; have z3 : V.heap.size ≤ u3.heap.size := hu3.size; (first | (have bx3 : Nt.BoxN u3 V.heap.size 12 [.int .i64 0, .int .i64 0, .int .i64 0, .int .i64 0, .int .i64 0, .int .i64 0, .int .i64 0, .int .i64 0, .int .i64 0, .int .i64 0, .bool false, .int .i64 0] := (Nt.boxn_new V.drew #[.int .i64 0, .int .i64 0, .int .i64 0, .int .i64 0, .int .i64 0, .int .i64 0, .int .i64 0, .int .i64 0, .int .i64 0, .int .i64 0, .bool false, .int .i64 0] 40 12 rfl).below hb3' (by simp); have s0 : _ = some (Value.int .i64 0) := (bx3.c 0 (by omega)).1; have g0' := (bx3.c 0 (by omega)).2; have s1 : _ = some (Value.int .i64 0) := (bx3.c 1 (by omega)).1; have g1' := (bx3.c 1 (by omega)).2; have s2 : _ = some (Value.int .i64 0) := (bx3.c 2 (by omega)).1; have g2' := (bx3.c 2 (by omega)).2; have s3 : _ = some (Value.int .i64 0) := (bx3.c 3 (by omega)).1; have g3' := (bx3.c 3 (by omega)).2; have s4 : _ = some (Value.int .i64 0) := (bx3.c 4 (by omega)).1; have g4' := (bx3.c 4 (by omega)).2; have s5 : _ = some (Value.int .i64 0) := (bx3.c 5 (by omega)).1; have g5' := (bx3.c 5 (by omega)).2; have s6 : _ = some (Value.int .i64 0) := (bx3.c 6 (by omega)).1; have g6' := (bx3.c 6 (by omega)).2; have s7 : _ = some (Value.int .i64 0) := (bx3.c 7 (by omega)).1; have g7' := (bx3.c 7 (by omega)).2; have s8 : _ = some (Value.int .i64 0) := (bx3.c 8 (by omega)).1; have g8' := (bx3.c 8 (by omega)).2; have s9 : _ = some (Value.int .i64 0) := (bx3.c 9 (by omega)).1; have g9' := (bx3.c 9 (by omega)).2; have s10 : _ = some (Value.bool false) := (bx3.c 10 (by omega)).1; have g10' := (bx3.c 10 (by omega)).2; have s11 : _ = some (Value.int .i64 0) := (bx3.c 11 (by omega)).1; have g11' := (bx3.c 11 (by omega)).2) | (have bx3 : Nt.BoxN u3 V.heap.size 12 [.int .i64 0, .int .i64 0, .int .i64 0, .int .i64 0, .int .i64 0, .int .i64 0, .int .i64 0, .int .i64 0, .int .i64 0, .int .i64 0, .bool false, .int .i64 0] := (Nt.boxn_new V #[.int .i64 0, .int .i64 0, .int .i64 0, .int .i64 0, .int .i64 0, .int .i64 0, .int .i64 0, .int .i64 0, .int .i64 0, .int .i64 0, .bool false, .int .i64 0] 40 12 rfl).below hb3' (by simp); have s0 : _ = some (Value.int .i64 0) := (bx3.c 0 (by omega)).1; have g0' := (bx3.c 0 (by omega)).2; have s1 : _ = some (Value.int .i64 0) := (bx3.c 1 (by omega)).1; have g1' := (bx3.c 1 (by omega)).2; have s2 : _ = some (Value.int .i64 0) := (bx3.c 2 (by omega)).1; have g2' := (bx3.c 2 (by omega)).2; have s3 : _ = some (Value.int .i64 0) := (bx3.c 3 (by omega)).1; have g3' := (bx3.c 3 (by omega)).2; have s4 : _ = some (Value.int .i64 0) := (bx3.c 4 (by omega)).1; have g4' := (bx3.c 4 (by omega)).2; have s5 : _ = some (Value.int .i64 0) := (bx3.c 5 (by omega)).1; have g5' := (bx3.c 5 (by omega)).2; have s6 : _ = some (Value.int .i64 0) := (bx3.c 6 (by omega)).1; have g6' := (bx3.c 6 (by omega)).2; have s7 : _ = some (Value.int .i64 0) := (bx3.c 7 (by omega)).1; have g7' := (bx3.c 7 (by omega)).2; have s8 : _ = some (Value.int .i64 0) := (bx3.c 8 (by omega)).1; have g8' := (bx3.c 8 (by omega)).2; have s9 : _ = some (Value.int .i64 0) := (bx3.c 9 (by omega)).1; have g9' := (bx3.c 9 (by omega)).2; have s10 : _ = some (Value.bool false) := (bx3.c 10 (by omega)).1; have g10' := (bx3.c 10 (by omega)).2; have s11 : _ = some (Value.int .i64 0) := (bx3.c 11 (by omega)).1; have g11' := (bx3.c 11 (by omega)).2) | skip)))
        all_goals
          have HM6 : Hid (Nt.mss gs6 = Nt.takenL S (Nt.mss gs) frm dst 3 I) := hm6
          clear hm6
          first
            | (have bxF := ((((((((((((bx3.set 0 (by omega) (.int .i64 t0)).set 1 (by omega) (.int .i64 t1)).set 2 (by omega) (.int .i64 t2)).set 3 (by omega) (.int .i64 t3)).set 4 (by omega) (.int .i64 t4)).set 5 (by omega) (.int .i64 t5)).set 6 (by omega) (.int .i64 t6)).set 7 (by omega) (.int .i64 t7)).set 8 (by omega) (.int .i64 t8)).set 9 (by omega) (.int .i64 t9)).set 10 (by omega) (.bool t10)).set 11 (by omega) (.int .i64 t11)); have oF := (Nt.OwnFly.foreign (Nt.OwnFly.foreign (Nt.OwnFly.foreign (Nt.OwnFly.foreign (Nt.OwnFly.foreign (Nt.OwnFly.foreign (Nt.OwnFly.foreign (Nt.OwnFly.foreign (Nt.OwnFly.foreign (Nt.OwnFly.foreign (Nt.OwnFly.foreign (Nt.OwnFly.foreign hO6 (b := V.heap.size) (by simp) 0 (.int .i64 t0)) (b := V.heap.size) (by simp) 1 (.int .i64 t1)) (b := V.heap.size) (by simp) 2 (.int .i64 t2)) (b := V.heap.size) (by simp) 3 (.int .i64 t3)) (b := V.heap.size) (by simp) 4 (.int .i64 t4)) (b := V.heap.size) (by simp) 5 (.int .i64 t5)) (b := V.heap.size) (by simp) 6 (.int .i64 t6)) (b := V.heap.size) (by simp) 7 (.int .i64 t7)) (b := V.heap.size) (by simp) 8 (.int .i64 t8)) (b := V.heap.size) (by simp) 9 (.int .i64 t9)) (b := V.heap.size) (by simp) 10 (.bool t10)) (b := V.heap.size) (by simp) 11 (.int .i64 t11)))
            | (have bxF : Nt.BoxN _ u3.heap.size 12 [.int .i64 t0, .int .i64 t1, .int .i64 t2, .int .i64 t3, .int .i64 t4, .int .i64 t5, .int .i64 t6, .int .i64 t7, .int .i64 t8, .int .i64 t9, .bool t10, .int .i64 t11] := Nt.boxn_new u3 #[.int .i64 t0, .int .i64 t1, .int .i64 t2, .int .i64 t3, .int .i64 t4, .int .i64 t5, .int .i64 t6, .int .i64 t7, .int .i64 t8, .int .i64 t9, .bool t10, .int .i64 t11] 40 12 rfl; have oF := Nt.OwnFly.below hO6 (Below.alloc (Below.refl _ _) (Nat.le_refl _) (.cells #[.int .i64 t0, .int .i64 t1, .int .i64 t2, .int .i64 t3, .int .i64 t4, .int .i64 t5, .int .i64 t6, .int .i64 t7, .int .i64 t8, .int .i64 t9, .bool t10, .int .i64 t11] 40)))
          go_wp2_with fail
          go_meet
          case rel => exact ⟨_, gs6, _, rfl, rfl, rfl, bxF, oF.base (by first | exact Nat.le_refl _ | (simp; done) | (simp; omega)), HM6.out, (by (with_reducible repeat (first | exact hu3 | exact hD | exact Below.refl _ _ | refine bD ?_ | refine bA ?_ _ | refine bS ?_ (by omega) _)); done)⟩
      case rest =>
        obtain ⟨g6, gs6, bx, rfl, rfl, rfl, bxF, hO6, hm6, bF⟩ := hcut
        obtain ⟨X, eX⟩ : ∃ X, X = wc := ⟨_, rfl⟩
        rw [← eX] at bxF hO6 bF ⊢
        clear eX
        obtain ⟨hgl6, h30', htt, hcopy⟩ := HTOT2.out 3 gs6 hm6
        have hX4 := hbq.trans (bF.mono hbq.size)
        obtain ⟨hgc, hMx⟩ := HFL2.out _ hX4
        obtain ⟨bb, offb, rfl, hlb, hc⟩ := hMx.2.2.2.2 hx0
        have hcells := hc I hI
        rw [← ETM.out] at hcells
        have a0' := hcells 0 (by decide)
        have a1' := hcells 1 (by decide)
        have a2' := hcells 2 (by decide)
        have a3' := hcells 3 (by decide)
        have a4' := hcells 4 (by decide)
        have a5' := hcells 5 (by decide)
        have a6' := hcells 6 (by decide)
        have a7' := hcells 7 (by decide)
        have a8' := hcells 8 (by decide)
        have a9' := hcells 9 (by decide)
        have a10' := hcells 10 (by decide)
        have a11' := hcells 11 (by decide)
        simp only [Nt.mcells, List.getElem?_cons_zero, List.getElem?_cons_succ, Nat.add_zero] at a0' a1' a2' a3' a4' a5' a6' a7' a8' a9' a10' a11'
        clear hcells hc
        have e0 : X.cell? ⟨bx, 0, none⟩ = some (.int .i64 t0) := (bxF.c 0 (by omega)).1
        have e1 : X.cell? ⟨bx, 1, none⟩ = some (.int .i64 t1) := (bxF.c 1 (by omega)).1
        have e2 : X.cell? ⟨bx, 2, none⟩ = some (.int .i64 t2) := (bxF.c 2 (by omega)).1
        have e3 : X.cell? ⟨bx, 3, none⟩ = some (.int .i64 t3) := (bxF.c 3 (by omega)).1
        have e4 : X.cell? ⟨bx, 4, none⟩ = some (.int .i64 t4) := (bxF.c 4 (by omega)).1
        have e5 : X.cell? ⟨bx, 5, none⟩ = some (.int .i64 t5) := (bxF.c 5 (by omega)).1
        have e6 : X.cell? ⟨bx, 6, none⟩ = some (.int .i64 t6) := (bxF.c 6 (by omega)).1
        have e7 : X.cell? ⟨bx, 7, none⟩ = some (.int .i64 t7) := (bxF.c 7 (by omega)).1
        have e8 : X.cell? ⟨bx, 8, none⟩ = some (.int .i64 t8) := (bxF.c 8 (by omega)).1
        have e9 : X.cell? ⟨bx, 9, none⟩ = some (.int .i64 t9) := (bxF.c 9 (by omega)).1
        have e10 : X.cell? ⟨bx, 10, none⟩ = some (.bool t10) := (bxF.c 10 (by omega)).1
        have e11 : X.cell? ⟨bx, 11, none⟩ = some (.int .i64 t11) := (bxF.c 11 (by omega)).1
        have hCt := fun U (hU : Below X.heap.size X U) => Nt.count_any _ N N gs6 U (hO6.below hU).isFly.2.1 hN9 (fun i _ => h30' i)
        obtain ⟨TT, eTT⟩ : ∃ TT, TT = Nt.total (Nt.mss gs6) := ⟨_, rfl⟩
        rw [← eTT] at hCt htt
        clear eTT
        simp at htt
        have HFinal : Hid (Below w.heap.size w X) := hfin4.trans (hX4.mono hfin4.size)
        go_upto_region 14 with (fail)
        go_quiet (fail)
        have hbx : Below X.heap.size X (X.drewN nq) := below_drewN (Below.refl _ _) nq
        obtain ⟨Y, eY⟩ : ∃ Y, Y = X.drewN nq := ⟨_, rfl⟩
        rw [← eY] at hbx ⊢
        clear eY
        have hTT : (TT : Int) = (ms.length : Int) - 1 := by omega
        have wT : IntKind.i64.wrap ((ms.length : Int) - 1) = (TT : Int) := by rw [hTT]; exact Nt.wrapI (by omega)
        clear a0' a1' a2' a3' a4' a5' a6' a7' a8' a9' a10' a11' e0 e1 e2 e3 e4 e5 e6 e7 e8 e9 e10 e11 hgc
        go_wp2_with (go_at_call 10; refine (hCt _ hbx).mono ?_; rintro e w7 ⟨rfl, hb7⟩)
        go_ret
        have hf := HFinal.out.trans (hbx.mono HFinal.out.size)
        exact ⟨rfl, hf.trans (hb7.mono hf.size)⟩
    · subst hK
      go_cut [22, 23, 24] (fun v b e wc => ∃ (g6 : Nat) (gs6 : List Nt.FL) (bx : Nat), v = .slice (some ⟨g6, 0, none⟩) N N ∧ b = .pointer (some ⟨bx, 0, none⟩) ∧ e = .int .i64 0 ∧ Nt.BoxN wc bx 12 [.int .i64 t0, .int .i64 t1, .int .i64 t2, .int .i64 t3, .int .i64 t4, .int .i64 t5, .int .i64 t6, .int .i64 t7, .int .i64 t8, .int .i64 t9, .bool t10, .int .i64 t11] ∧ Nt.OwnFly wc V.heap.size (.slice (some ⟨g6, 0, none⟩) N N) gs6 ∧ Nt.mss gs6 = Nt.takenL S (Nt.mss gs) frm dst 4 I ∧ Below V.heap.size V wc)
      case first =>
        have HTKH : Hid (∀ U, Below V.heap.size V U → Calls Tryd.prog 14 #[.agg #[.int .i64 S, .slice (some ⟨g, 0, none⟩) n cp, .int .i64 P], .slice (some ⟨g4, 0, none⟩) N N, .int .i64 frm, .int .i64 dst, .int .i64 (PP : Int), .int .i64 4] U fun e w' => ∃ g6 gs6, e = .returned (.tuple #[.slice (some ⟨g6, 0, none⟩) N N, .agg #[.int .i64 t0, .int .i64 t1, .int .i64 t2, .int .i64 t3, .int .i64 t4, .int .i64 t5, .int .i64 t6, .int .i64 t7, .int .i64 t8, .int .i64 t9, .bool t10, .int .i64 t11], .int .i64 0]) ∧ Nt.OwnFly w' U.heap.size (.slice (some ⟨g6, 0, none⟩) N N) gs6 ∧ Nt.mss gs6 = Nt.takenL S (Nt.mss gs) frm dst 4 I ∧ Below U.heap.size U w') := HTAKE.out 4 (by omega)
        go_region_held3 (fun U => (U.cell? ⟨w1.heap.size, 0, none⟩ = some (.int .i64 S) ∧ U.cell? ⟨w1.heap.size, 1, none⟩ = some (.slice (some ⟨g, 0, none⟩) n cp) ∧ U.cell? ⟨w1.heap.size, 2, none⟩ = some (.int .i64 P)) ∧ U.cell? ⟨b2, off2 + 1, none⟩ = some (.int .i64 frm) ∧ U.cell? ⟨b2, off2 + 2, none⟩ = some (.int .i64 dst))
          (exact KV.out _ (by (with_reducible repeat (first | exact hu3 | exact hD | exact Below.refl _ _ | refine bD ?_ | refine bA ?_ _ | refine bS ?_ (by omega) _)); done))
          ((go_at_call 14; refine (HTKH.out _ (by (with_reducible repeat (first | exact hD | exact Below.refl _ _ | refine bD ?_ | refine bA ?_ _ | refine bS ?_ (by omega) _)); done)).mono ?_; rintro e u3 ⟨g6, gs6, rfl, hO6, hm6, hb3'⟩; have hu3 : Below V.heap.size V u3 := bT (by (with_reducible repeat (first | exact hD | exact Below.refl _ _ | refine bD ?_ | refine bA ?_ _ | refine bS ?_ (by omega) _)); done) hb3'; have z3 : V.heap.size ≤ u3.heap.size := hu3.size; (first | (have bx3 : Nt.BoxN u3 V.heap.size 12 [.int .i64 0, .int .i64 0, .int .i64 0, .int .i64 0, .int .i64 0, .int .i64 0, .int .i64 0, .int .i64 0, .int .i64 0, .int .i64 0, .bool false, .int .i64 0] := (Nt.boxn_new V.drew #[.int .i64 0, .int .i64 0, .int .i64 0, .int .i64 0, .int .i64 0, .int .i64 0, .int .i64 0, .int .i64 0, .int .i64 0, .int .i64 0, .bool false, .int .i64 0] 40 12 rfl).below hb3' (by simp); have s0 : _ = some (Value.int .i64 0) := (bx3.c 0 (by omega)).1; have g0' := (bx3.c 0 (by omega)).2; have s1 : _ = some (Value.int .i64 0) := (bx3.c 1 (by omega)).1; have g1' := (bx3.c 1 (by omega)).2; have s2 : _ = some (Value.int .i64 0) := (bx3.c 2 (by omega)).1; have g2' := (bx3.c 2 (by omega)).2; have s3 : _ = some (Value.int .i64 0) := (bx3.c 3 (by omega)).1; have g3' := (bx3.c 3 (by omega)).2; have s4 : _ = some (Value.int .i64 0) := (bx3.c 4 (by omega)).1; have g4' := (bx3.c 4 (by omega)).2; have s5 : _ = some (Value.int .i64 0) := (bx3.c 5 (by omega)).1; have g5' := (bx3.c 5 (by omega)).2; have s6 : _ = some (Value.int .i64 0) := (bx3.c 6 (by omega)).1; have g6' := (bx3.c 6 (by omega)).2; have s7 : _ = some (Value.int .i64 0) := (bx3.c 7 (by omega)).1; have g7' := (bx3.c 7 (by omega)).2; have s8 : _ = some (Value.int .i64 0) := (bx3.c 8 (by omega)).1; have g8' := (bx3.c 8 (by omega)).2; have s9 : _ = some (Value.int .i64 0) := (bx3.c 9 (by omega)).1; have g9' := (bx3.c 9 (by omega)).2; have s10 : _ = some (Value.bool false) := (bx3.c 10 (by omega)).1; have g10' := (bx3.c 10 (by omega)).2; have s11 : _ = some (Value.int .i64 0) := (bx3.c 11 (by omega)).1; have g11' := (bx3.c 11 (by omega)).2) | (have bx3 : Nt.BoxN u3 V.heap.size 12 [.int .i64 0, .int .i64 0, .int .i64 0, .int .i64 0, .int .i64 0, .int .i64 0, .int .i64 0, .int .i64 0, .int .i64 0, .int .i64 0, .bool false, .int .i64 0] := (Nt.boxn_new V #[.int .i64 0, .int .i64 0, .int .i64 0, .int .i64 0, .int .i64 0, .int .i64 0, .int .i64 0, .int .i64 0, .int .i64 0, .int .i64 0, .bool false, .int .i64 0] 40 12 rfl).below hb3' (by simp); have s0 : _ = some (Value.int .i64 0) := (bx3.c 0 (by omega)).1; have g0' := (bx3.c 0 (by omega)).2; have s1 : _ = some (Value.int .i64 0) := (bx3.c 1 (by omega)).1; have g1' := (bx3.c 1 (by omega)).2; have s2 : _ = some (Value.int .i64 0) := (bx3.c 2 (by omega)).1; have g2' := (bx3.c 2 (by omega)).2; have s3 : _ = some (Value.int .i64 0) := (bx3.c 3 (by omega)).1; have g3' := (bx3.c 3 (by omega)).2; have s4 : _ = some (Value.int .i64 0) := (bx3.c 4 (by omega)).1; have g4' := (bx3.c 4 (by omega)).2; have s5 : _ = some (Value.int .i64 0) := (bx3.c 5 (by omega)).1; have g5' := (bx3.c 5 (by omega)).2; have s6 : _ = some (Value.int .i64 0) := (bx3.c 6 (by omega)).1; have g6' := (bx3.c 6 (by omega)).2; have s7 : _ = some (Value.int .i64 0) := (bx3.c 7 (by omega)).1; have g7' := (bx3.c 7 (by omega)).2; have s8 : _ = some (Value.int .i64 0) := (bx3.c 8 (by omega)).1; have g8' := (bx3.c 8 (by omega)).2; have s9 : _ = some (Value.int .i64 0) := (bx3.c 9 (by omega)).1; have g9' := (bx3.c 9 (by omega)).2; have s10 : _ = some (Value.bool false) := (bx3.c 10 (by omega)).1; have g10' := (bx3.c 10 (by omega)).2; have s11 : _ = some (Value.int .i64 0) := (bx3.c 11 (by omega)).1; have g11' := (bx3.c 11 (by omega)).2) | skip)))
        all_goals
          have HM6 : Hid (Nt.mss gs6 = Nt.takenL S (Nt.mss gs) frm dst 4 I) := hm6
          clear hm6
          first
            | (have bxF := ((((((((((((bx3.set 0 (by omega) (.int .i64 t0)).set 1 (by omega) (.int .i64 t1)).set 2 (by omega) (.int .i64 t2)).set 3 (by omega) (.int .i64 t3)).set 4 (by omega) (.int .i64 t4)).set 5 (by omega) (.int .i64 t5)).set 6 (by omega) (.int .i64 t6)).set 7 (by omega) (.int .i64 t7)).set 8 (by omega) (.int .i64 t8)).set 9 (by omega) (.int .i64 t9)).set 10 (by omega) (.bool t10)).set 11 (by omega) (.int .i64 t11)); have oF := (Nt.OwnFly.foreign (Nt.OwnFly.foreign (Nt.OwnFly.foreign (Nt.OwnFly.foreign (Nt.OwnFly.foreign (Nt.OwnFly.foreign (Nt.OwnFly.foreign (Nt.OwnFly.foreign (Nt.OwnFly.foreign (Nt.OwnFly.foreign (Nt.OwnFly.foreign (Nt.OwnFly.foreign hO6 (b := V.heap.size) (by simp) 0 (.int .i64 t0)) (b := V.heap.size) (by simp) 1 (.int .i64 t1)) (b := V.heap.size) (by simp) 2 (.int .i64 t2)) (b := V.heap.size) (by simp) 3 (.int .i64 t3)) (b := V.heap.size) (by simp) 4 (.int .i64 t4)) (b := V.heap.size) (by simp) 5 (.int .i64 t5)) (b := V.heap.size) (by simp) 6 (.int .i64 t6)) (b := V.heap.size) (by simp) 7 (.int .i64 t7)) (b := V.heap.size) (by simp) 8 (.int .i64 t8)) (b := V.heap.size) (by simp) 9 (.int .i64 t9)) (b := V.heap.size) (by simp) 10 (.bool t10)) (b := V.heap.size) (by simp) 11 (.int .i64 t11)))
            | (have bxF : Nt.BoxN _ u3.heap.size 12 [.int .i64 t0, .int .i64 t1, .int .i64 t2, .int .i64 t3, .int .i64 t4, .int .i64 t5, .int .i64 t6, .int .i64 t7, .int .i64 t8, .int .i64 t9, .bool t10, .int .i64 t11] := Nt.boxn_new u3 #[.int .i64 t0, .int .i64 t1, .int .i64 t2, .int .i64 t3, .int .i64 t4, .int .i64 t5, .int .i64 t6, .int .i64 t7, .int .i64 t8, .int .i64 t9, .bool t10, .int .i64 t11] 40 12 rfl; have oF := Nt.OwnFly.below hO6 (Below.alloc (Below.refl _ _) (Nat.le_refl _) (.cells #[.int .i64 t0, .int .i64 t1, .int .i64 t2, .int .i64 t3, .int .i64 t4, .int .i64 t5, .int .i64 t6, .int .i64 t7, .int .i64 t8, .int .i64 t9, .bool t10, .int .i64 t11] 40)))
          go_wp2_with fail
          go_meet
          case rel => exact ⟨_, gs6, _, rfl, rfl, rfl, bxF, oF.base (by first | exact Nat.le_refl _ | (simp; done) | (simp; omega)), HM6.out, (by (with_reducible repeat (first | exact hu3 | exact hD | exact Below.refl _ _ | refine bD ?_ | refine bA ?_ _ | refine bS ?_ (by omega) _)); done)⟩
      case rest =>
        obtain ⟨g6, gs6, bx, rfl, rfl, rfl, bxF, hO6, hm6, bF⟩ := hcut
        obtain ⟨X, eX⟩ : ∃ X, X = wc := ⟨_, rfl⟩
        rw [← eX] at bxF hO6 bF ⊢
        clear eX
        obtain ⟨hgl6, h30', htt, hcopy⟩ := HTOT2.out 4 gs6 hm6
        have hX4 := hbq.trans (bF.mono hbq.size)
        obtain ⟨hgc, hMx⟩ := HFL2.out _ hX4
        obtain ⟨bb, offb, rfl, hlb, hc⟩ := hMx.2.2.2.2 hx0
        have hcells := hc I hI
        rw [← ETM.out] at hcells
        have a0' := hcells 0 (by decide)
        have a1' := hcells 1 (by decide)
        have a2' := hcells 2 (by decide)
        have a3' := hcells 3 (by decide)
        have a4' := hcells 4 (by decide)
        have a5' := hcells 5 (by decide)
        have a6' := hcells 6 (by decide)
        have a7' := hcells 7 (by decide)
        have a8' := hcells 8 (by decide)
        have a9' := hcells 9 (by decide)
        have a10' := hcells 10 (by decide)
        have a11' := hcells 11 (by decide)
        simp only [Nt.mcells, List.getElem?_cons_zero, List.getElem?_cons_succ, Nat.add_zero] at a0' a1' a2' a3' a4' a5' a6' a7' a8' a9' a10' a11'
        clear hcells hc
        have e0 : X.cell? ⟨bx, 0, none⟩ = some (.int .i64 t0) := (bxF.c 0 (by omega)).1
        have e1 : X.cell? ⟨bx, 1, none⟩ = some (.int .i64 t1) := (bxF.c 1 (by omega)).1
        have e2 : X.cell? ⟨bx, 2, none⟩ = some (.int .i64 t2) := (bxF.c 2 (by omega)).1
        have e3 : X.cell? ⟨bx, 3, none⟩ = some (.int .i64 t3) := (bxF.c 3 (by omega)).1
        have e4 : X.cell? ⟨bx, 4, none⟩ = some (.int .i64 t4) := (bxF.c 4 (by omega)).1
        have e5 : X.cell? ⟨bx, 5, none⟩ = some (.int .i64 t5) := (bxF.c 5 (by omega)).1
        have e6 : X.cell? ⟨bx, 6, none⟩ = some (.int .i64 t6) := (bxF.c 6 (by omega)).1
        have e7 : X.cell? ⟨bx, 7, none⟩ = some (.int .i64 t7) := (bxF.c 7 (by omega)).1
        have e8 : X.cell? ⟨bx, 8, none⟩ = some (.int .i64 t8) := (bxF.c 8 (by omega)).1
        have e9 : X.cell? ⟨bx, 9, none⟩ = some (.int .i64 t9) := (bxF.c 9 (by omega)).1
        have e10 : X.cell? ⟨bx, 10, none⟩ = some (.bool t10) := (bxF.c 10 (by omega)).1
        have e11 : X.cell? ⟨bx, 11, none⟩ = some (.int .i64 t11) := (bxF.c 11 (by omega)).1
        have hCt := fun U (hU : Below X.heap.size X U) => Nt.count_any _ N N gs6 U (hO6.below hU).isFly.2.1 hN9 (fun i _ => h30' i)
        obtain ⟨TT, eTT⟩ : ∃ TT, TT = Nt.total (Nt.mss gs6) := ⟨_, rfl⟩
        rw [← eTT] at hCt htt
        clear eTT
        simp at htt
        have HFinal : Hid (Below w.heap.size w X) := hfin4.trans (hX4.mono hfin4.size)
        go_upto_region 14 with (fail)
        go_quiet (fail)
        have hbx : Below X.heap.size X (X.drewN nq) := below_drewN (Below.refl _ _) nq
        obtain ⟨Y, eY⟩ : ∃ Y, Y = X.drewN nq := ⟨_, rfl⟩
        rw [← eY] at hbx ⊢
        clear eY
        have hTT : (TT : Int) = (ms.length : Int) + 1 := by omega
        have wT : IntKind.i64.wrap ((ms.length : Int) + 1) = (TT : Int) := by rw [hTT]; exact Nt.wrapI (by omega)
        clear a0' a1' a2' a3' a4' a5' a6' a7' a8' a9' a10' a11' e0 e1 e2 e3 e4 e5 e6 e7 e8 e9 e10 e11 hgc
        have hY4 := hX4.trans (hbx.mono hX4.size)
        obtain ⟨hgcY, _⟩ := HFL2.out _ hY4
        have bxY := bxF.below hbx bxF.lt
        have f0 : Y.cell? ⟨bx, 0, none⟩ = some (.int .i64 t0) := (bxY.c 0 (by omega)).1
        have f1 : Y.cell? ⟨bx, 1, none⟩ = some (.int .i64 t1) := (bxY.c 1 (by omega)).1
        have f2 : Y.cell? ⟨bx, 2, none⟩ = some (.int .i64 t2) := (bxY.c 2 (by omega)).1
        have f3 : Y.cell? ⟨bx, 3, none⟩ = some (.int .i64 t3) := (bxY.c 3 (by omega)).1
        have f4 : Y.cell? ⟨bx, 4, none⟩ = some (.int .i64 t4) := (bxY.c 4 (by omega)).1
        have f5 : Y.cell? ⟨bx, 5, none⟩ = some (.int .i64 t5) := (bxY.c 5 (by omega)).1
        have f6 : Y.cell? ⟨bx, 6, none⟩ = some (.int .i64 t6) := (bxY.c 6 (by omega)).1
        have f7 : Y.cell? ⟨bx, 7, none⟩ = some (.int .i64 t7) := (bxY.c 7 (by omega)).1
        have f8 : Y.cell? ⟨bx, 8, none⟩ = some (.int .i64 t8) := (bxY.c 8 (by omega)).1
        have f9 : Y.cell? ⟨bx, 9, none⟩ = some (.int .i64 t9) := (bxY.c 9 (by omega)).1
        have f10 : Y.cell? ⟨bx, 10, none⟩ = some (.bool t10) := (bxY.c 10 (by omega)).1
        have f11 : Y.cell? ⟨bx, 11, none⟩ = some (.int .i64 t11) := (bxY.c 11 (by omega)).1
        have hyc := hcopy rfl
        obtain ⟨b', off', e', _, hcq, hMq⟩ := (hO6.below hbx).isFly.2.1.at hqN
        simp only [Option.some.injEq, Addr.mk.injEq, and_true] at e'
        obtain ⟨rfl, rfl⟩ := e'
        simp only [Nat.zero_add] at hcq
        have hyl : (gs6.getD q default).len = xl + 1 := by rw [← hMq.1, hyc, List.length_append, HXL.out]; rfl
        rw [hyc] at hMq
        obtain ⟨x6, ex6⟩ : ∃ x6, x6 = gs6.getD q default := ⟨_, rfl⟩
        rw [← ex6] at hcq hMq hyl
        clear ex6 hyc
        obtain ⟨ya, yl, yc, ys⟩ := x6
        simp only [] at hcq hMq hyl
        subst hyl
        obtain ⟨bb6, off6, rfl, hlb6, hc6⟩ := hMq.2.2.2.2 (by omega)
        have hcells := hc6 xl (by omega)
        have hlast : (xs ++ [(⟨t0, t1, t2, t3, t4, t5, t6, t7, t8, t9, t10, t11⟩ : MV)]).getD xl default = ⟨t0, t1, t2, t3, t4, t5, t6, t7, t8, t9, t10, t11⟩ := by rw [← HXL.out]; simp [List.getD]
        rw [hlast] at hcells
        have a0' := hcells 0 (by decide)
        have a1' := hcells 1 (by decide)
        have a2' := hcells 2 (by decide)
        have a3' := hcells 3 (by decide)
        have a4' := hcells 4 (by decide)
        have a5' := hcells 5 (by decide)
        have a6' := hcells 6 (by decide)
        have a7' := hcells 7 (by decide)
        have a8' := hcells 8 (by decide)
        have a9' := hcells 9 (by decide)
        have a10' := hcells 10 (by decide)
        have a11' := hcells 11 (by decide)
        simp only [Nt.mcells, List.getElem?_cons_zero, List.getElem?_cons_succ, Nat.add_zero] at a0' a1' a2' a3' a4' a5' a6' a7' a8' a9' a10' a11'
        clear hcells hc6 hlast hMq
        have hxx : (xl : Int) < (xl : Int) + 1 := by omega
        have hCY := fun U (hU : Below Y.heap.size Y U) => hCt U (hbx.trans (hU.mono hbx.size))
        have HCY : Hid (∀ U, Below Y.heap.size Y U → _) := hCY
        have ga0 := fun d os => cell_regrown a0' d os
        have gf0 := fun d os => cell_regrown f0 d os
        have ga1 := fun d os => cell_regrown a1' d os
        have gf1 := fun d os => cell_regrown f1 d os
        have ga2 := fun d os => cell_regrown a2' d os
        have gf2 := fun d os => cell_regrown f2 d os
        have ga3 := fun d os => cell_regrown a3' d os
        have gf3 := fun d os => cell_regrown f3 d os
        have ga4 := fun d os => cell_regrown a4' d os
        have gf4 := fun d os => cell_regrown f4 d os
        have ga5 := fun d os => cell_regrown a5' d os
        have gf5 := fun d os => cell_regrown f5 d os
        have ga6 := fun d os => cell_regrown a6' d os
        have gf6 := fun d os => cell_regrown f6 d os
        have ga7 := fun d os => cell_regrown a7' d os
        have gf7 := fun d os => cell_regrown f7 d os
        have ga8 := fun d os => cell_regrown a8' d os
        have gf8 := fun d os => cell_regrown f8 d os
        have ga9 := fun d os => cell_regrown a9' d os
        have gf9 := fun d os => cell_regrown f9 d os
        have ga10 := fun d os => cell_regrown a10' d os
        have gf10 := fun d os => cell_regrown f10 d os
        have ga11 := fun d os => cell_regrown a11' d os
        have gf11 := fun d os => cell_regrown f11 d os
        have gc1 := fun d os => cell_regrown hgcY d os
        have gc2 := fun d os => cell_regrown hcq d os
        clear hCt hCY
        go_upto_region 17 with (fail)
        refine wp_region_quiet_below (by kernel_rfl) (by kernel_rfl) ?_
        repeat (go_big_quiet_step ((exact Calls.regrown_of (HCY.out _ (below_regrown _ _ _)))))
        refine wpQuiet_nil ?_
        intro _ hw'
        obtain ⟨⟨dq, osq⟩, hw''⟩ := hw'
        subst hw''
        go_wp2
        go_ret
        have hf := HFinal.out.trans (hbx.mono HFinal.out.size)
        exact ⟨rfl, hf.trans ((below_regrown Y dq osq).mono hf.size)⟩
end Go.Proofs.YtcdfaimpbbjioaaDoor
