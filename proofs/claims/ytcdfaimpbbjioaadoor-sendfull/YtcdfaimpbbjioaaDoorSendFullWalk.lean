/- The walk of the law SendFull: there is room for so many; what is more is lost. -/
import Derived.Test.YtcdfaimpbbjioaaDoorNTakePlain
import Derived.Test.YtcdfaimpbbjioaaDoorNEmpty
namespace Go.Proofs.YtcdfaimpbbjioaaDoor
open Go.ChangeShapes Go.WideShapes Go.ChangeAt Go.RowKit
set_option linter.unusedVariables false

set_option maxRecDepth 100000 in
set_option maxHeartbeats 4000000 in
theorem sendFull_walk (s : Int) (a : Option Addr) (len cap : Nat) (zs : List Int) (r : RV) (nn : Int) (w : World) (hs : (Lit.int .i64 s).wf = true) (h : IsInts w a len cap zs) (hr : r.ok) (hnn : (Lit.int .i64 nn).wf = true) (hm : HasAt w 0 mHas) (ht : TopsAt w) :
    Calls Tryd.prog 4 #[.int .i64 s, .slice a len cap, r.val, .int .i64 nn] w fun e w' => e = .returned (.bool true) ∧ Below w.heap.size w w' := by
  have hs' := i64_bd hs
  have hnn' := i64_bd hnn
  obtain ⟨kd, ra, rb, rc, rd, re⟩ := r
  obtain ⟨hkd, hra, hrb, hrc, hrd, hre⟩ := hr
  simp only [RV.val]
  obtain ⟨j0, E⟩ := Nt.msElem
  have hgT : 1 < w.heap.size := World.block_lt_of_cell? w _ ht.1
  have hgM : 0 < w.heap.size := hm.lt (by decide)
  obtain ⟨Q, hQ⟩ : ∃ Q : World, Q = w.alloc (.cells #[.int .i64 kd, .int .i64 ra, .int .i64 rb, .int .i64 rc, .int .i64 rd, .int .i64 re] 43) := ⟨_, rfl⟩
  have hBQ : Below w.heap.size w Q := by rw [hQ]; exact (Below.refl _ _).alloc (Nat.le_refl _) _
  have zQ : w.heap.size < Q.heap.size := by rw [hQ]; simp
  have r0 : Q.cell? ⟨w.heap.size, 0, none⟩ = some (.int .i64 kd) := by rw [hQ]; go_simp
  have r1 : Q.cell? ⟨w.heap.size, 1, none⟩ = some (.int .i64 ra) := by rw [hQ]; go_simp
  have r2 : Q.cell? ⟨w.heap.size, 2, none⟩ = some (.int .i64 rb) := by rw [hQ]; go_simp
  have r3 : Q.cell? ⟨w.heap.size, 3, none⟩ = some (.int .i64 rc) := by rw [hQ]; go_simp
  have r4 : Q.cell? ⟨w.heap.size, 4, none⟩ = some (.int .i64 rd) := by rw [hQ]; go_simp
  have r5 : Q.cell? ⟨w.heap.size, 5, none⟩ = some (.int .i64 re) := by rw [hQ]; go_simp
  go_enter Tryd.func4, Tryd.ntmps4
  go_upto_region 1 with (fail)
  rw [← hQ]
  clear hQ
  have hQi := h.below hBQ
  go_upto_region 2 with (go_at_call 6; refine (cfg_good s a len cap zs _ hs' hQi).mono ?_; rintro e w1 ⟨S, P, g, n, cp, L, rfl, hC1, hb1'⟩)
  have hb1 : Below w.heap.size w w1 := hBQ.trans (hb1'.mono hBQ.size)
  have zQ1 : w.heap.size < w1.heap.size := Nat.lt_of_lt_of_le zQ hb1'.size
  have u0 := (hb1'.cell (p := ⟨w.heap.size, 0, none⟩) zQ).trans r0
  have u1 := (hb1'.cell (p := ⟨w.heap.size, 1, none⟩) zQ).trans r1
  have u2 := (hb1'.cell (p := ⟨w.heap.size, 2, none⟩) zQ).trans r2
  have u3 := (hb1'.cell (p := ⟨w.heap.size, 3, none⟩) zQ).trans r3
  have u4 := (hb1'.cell (p := ⟨w.heap.size, 4, none⟩) zQ).trans r4
  have u5 := (hb1'.cell (p := ⟨w.heap.size, 5, none⟩) zQ).trans r5
  obtain ⟨W, hW⟩ : ∃ W : World, W = w1.alloc (.cells #[.int .i64 S, .slice (some ⟨g, 0, none⟩) n cp, .int .i64 P] 26) := ⟨_, rfl⟩
  have hBW : Below w1.heap.size w1 W := by rw [hW]; exact (Below.refl _ _).alloc (Nat.le_refl _) _
  have hB : Below w.heap.size w W := hb1.trans (hBW.mono hb1.size)
  have z0 : w1.heap.size < W.heap.size := by rw [hW]; simp
  have c0 : W.cell? ⟨w1.heap.size, 0, none⟩ = some (.int .i64 S) := by rw [hW]; go_simp
  have c1 : W.cell? ⟨w1.heap.size, 1, none⟩ = some (.slice (some ⟨g, 0, none⟩) n cp) := by rw [hW]; go_simp
  have c2 : W.cell? ⟨w1.heap.size, 2, none⟩ = some (.int .i64 P) := by rw [hW]; go_simp
  rw [← hW]
  clear hW
  have v0 := (hBW.cell (p := ⟨w.heap.size, 0, none⟩) zQ1).trans u0
  have v1 := (hBW.cell (p := ⟨w.heap.size, 1, none⟩) zQ1).trans u1
  have v2 := (hBW.cell (p := ⟨w.heap.size, 2, none⟩) zQ1).trans u2
  have v3 := (hBW.cell (p := ⟨w.heap.size, 3, none⟩) zQ1).trans u3
  have v4 := (hBW.cell (p := ⟨w.heap.size, 4, none⟩) zQ1).trans u4
  have v5 := (hBW.cell (p := ⟨w.heap.size, 5, none⟩) zQ1).trans u5
  clear r0 u0 r1 u1 r2 u2 r3 u3 r4 u4 r5 u5
  have KA : Hid (∀ U : World, Below W.heap.size W U → U.cell? ⟨w1.heap.size, 0, none⟩ = some (.int .i64 S) ∧ U.cell? ⟨w1.heap.size, 1, none⟩ = some (.slice (some ⟨g, 0, none⟩) n cp) ∧ U.cell? ⟨w1.heap.size, 2, none⟩ = some (.int .i64 P)) := fun U hU =>
    ⟨(hU.cell (p := ⟨w1.heap.size, 0, none⟩) z0).trans c0, (hU.cell (p := ⟨w1.heap.size, 1, none⟩) z0).trans c1, (hU.cell (p := ⟨w1.heap.size, 2, none⟩) z0).trans c2⟩
  have HS : Hid (∀ U : World, Below W.heap.size W U → GoodC U S P g n cp L ∧ HasAt U 0 mHas ∧ TopsAt U) := fun U hU => by
    have hv := hB.trans (hU.mono hB.size)
    exact ⟨hC1.below (hBW.trans (hU.mono hBW.size)), hm.below hv hgM, ht.below hv hgT⟩
  have hcf := hC1.ok
  have s1 := hC1.s1
  have s3 := hC1.s3
  obtain ⟨q1, q2, q3⟩ := Nt.sq_bd s1 (by omega)
  obtain ⟨N, hN⟩ : ∃ N : Nat, (N : Int) = S * S := ⟨(S * S).toNat, by omega⟩
  have HN : Hid ((N : Int) = S * S) := hN
  have hN9 : N ≤ 16 := by omega
  clear hN q1 q2 q3 hm ht hC1 h
  obtain ⟨x1, _, _⟩ := HS.out W (Below.refl _ _)
  go_upto_region 3 with (go_at_call 12; refine (msg_good S P g n cp L kd ra rb rc rd re _ x1 hkd hra hrb hrc hrd hre).mono ?_; rintro e w2 ⟨⟨kind, frm, dst, site, num, label, key, value, version, ask, yes, code⟩, rfl, hmf, hb2'⟩; simp only [MV.val])
  have HF : Hid (msgFault S L P ⟨kind, frm, dst, site, num, label, key, value, version, ask, yes, code⟩ = 0) := hmf
  clear hmf c0 c1 c2 x1 v0 v1 v2 v3 v4 v5
  obtain ⟨M, hMw⟩ : ∃ M : World, M = w2.alloc (.cells #[.int .i64 kind, .int .i64 frm, .int .i64 dst, .int .i64 site, .int .i64 num, .int .i64 label, .int .i64 key, .int .i64 value, .int .i64 version, .int .i64 ask, .bool yes, .int .i64 code] 40) := ⟨_, rfl⟩
  have hBM : Below w2.heap.size w2 M := by rw [hMw]; exact (Below.refl _ _).alloc (Nat.le_refl _) _
  have hb2 : Below W.heap.size W M := hb2'.trans (hBM.mono hb2'.size)
  have zM : w2.heap.size < M.heap.size := by rw [hMw]; simp
  have m0 : M.cell? ⟨w2.heap.size, 0, none⟩ = some (.int .i64 kind) := by rw [hMw]; go_simp
  have m1 : M.cell? ⟨w2.heap.size, 1, none⟩ = some (.int .i64 frm) := by rw [hMw]; go_simp
  have m2 : M.cell? ⟨w2.heap.size, 2, none⟩ = some (.int .i64 dst) := by rw [hMw]; go_simp
  have m3 : M.cell? ⟨w2.heap.size, 3, none⟩ = some (.int .i64 site) := by rw [hMw]; go_simp
  have m4 : M.cell? ⟨w2.heap.size, 4, none⟩ = some (.int .i64 num) := by rw [hMw]; go_simp
  have m5 : M.cell? ⟨w2.heap.size, 5, none⟩ = some (.int .i64 label) := by rw [hMw]; go_simp
  have m6 : M.cell? ⟨w2.heap.size, 6, none⟩ = some (.int .i64 key) := by rw [hMw]; go_simp
  have m7 : M.cell? ⟨w2.heap.size, 7, none⟩ = some (.int .i64 value) := by rw [hMw]; go_simp
  have m8 : M.cell? ⟨w2.heap.size, 8, none⟩ = some (.int .i64 version) := by rw [hMw]; go_simp
  have m9 : M.cell? ⟨w2.heap.size, 9, none⟩ = some (.int .i64 ask) := by rw [hMw]; go_simp
  have m10 : M.cell? ⟨w2.heap.size, 10, none⟩ = some (.bool yes) := by rw [hMw]; go_simp
  have m11 : M.cell? ⟨w2.heap.size, 11, none⟩ = some (.int .i64 code) := by rw [hMw]; go_simp
  rw [← hMw]
  clear hMw
  have KM : Hid (∀ U : World, Below M.heap.size M U → U.cell? ⟨w2.heap.size, 0, none⟩ = some (.int .i64 kind) ∧ U.cell? ⟨w2.heap.size, 1, none⟩ = some (.int .i64 frm) ∧ U.cell? ⟨w2.heap.size, 2, none⟩ = some (.int .i64 dst) ∧ U.cell? ⟨w2.heap.size, 3, none⟩ = some (.int .i64 site) ∧ U.cell? ⟨w2.heap.size, 4, none⟩ = some (.int .i64 num) ∧ U.cell? ⟨w2.heap.size, 5, none⟩ = some (.int .i64 label) ∧ U.cell? ⟨w2.heap.size, 6, none⟩ = some (.int .i64 key) ∧ U.cell? ⟨w2.heap.size, 7, none⟩ = some (.int .i64 value) ∧ U.cell? ⟨w2.heap.size, 8, none⟩ = some (.int .i64 version) ∧ U.cell? ⟨w2.heap.size, 9, none⟩ = some (.int .i64 ask) ∧ U.cell? ⟨w2.heap.size, 10, none⟩ = some (.bool yes) ∧ U.cell? ⟨w2.heap.size, 11, none⟩ = some (.int .i64 code)) := fun U hU => ⟨(hU.cell (p := ⟨w2.heap.size, 0, none⟩) zM).trans m0, (hU.cell (p := ⟨w2.heap.size, 1, none⟩) zM).trans m1, (hU.cell (p := ⟨w2.heap.size, 2, none⟩) zM).trans m2, (hU.cell (p := ⟨w2.heap.size, 3, none⟩) zM).trans m3, (hU.cell (p := ⟨w2.heap.size, 4, none⟩) zM).trans m4, (hU.cell (p := ⟨w2.heap.size, 5, none⟩) zM).trans m5, (hU.cell (p := ⟨w2.heap.size, 6, none⟩) zM).trans m6, (hU.cell (p := ⟨w2.heap.size, 7, none⟩) zM).trans m7, (hU.cell (p := ⟨w2.heap.size, 8, none⟩) zM).trans m8, (hU.cell (p := ⟨w2.heap.size, 9, none⟩) zM).trans m9, (hU.cell (p := ⟨w2.heap.size, 10, none⟩) zM).trans m10, (hU.cell (p := ⟨w2.heap.size, 11, none⟩) zM).trans m11⟩
  clear m0 m1 m2 m3 m4 m5 m6 m7 m8 m9 m10 m11
  go_upto_region 4 with (go_at_call 13; refine (picked_any nn 90 _ hnn' (by omega) (by omega)).mono ?_; rintro e w3 ⟨rfl, hu3⟩; rw [hu3]; clear hu3)
  have hpb := pk_bd nn 90 (by decide)
  obtain ⟨K, eK⟩ : ∃ K : Nat, (K : Int) = pk nn 90 := ⟨(pk nn 90).toNat, by omega⟩
  rw [← eK] at hpb ⊢
  clear eK
  have hK : K < 90 := by omega
  have hWM := hb2.size
  go_wp2
  go_loopw [12, 13] (fun v i wr => ∃ (a5 : Option Addr) (c5 j : Nat), v = .slice a5 j c5 ∧ i = .int .i64 (j : Int) ∧ j ≤ K ∧ wr.ownsRow M.heap.size 40 12 (.slice a5 j c5) j (Nt.flat Nt.mcells (List.replicate j ⟨kind, frm, dst, site, num, label, key, value, version, ask, yes, code⟩)) ∧ Below M.heap.size M wr) (fun _ i _ => K - (intOf i).toNat)
  case atStart => exact ⟨none, 0, 0, rfl, rfl, Nat.zero_le _, World.ownsRow_nil _ _ _ _, Below.refl _ _⟩
  case round =>
    obtain ⟨a5, c5, j, rfl, rfl, hj, hown, hq⟩ := hrel
    by_cases hjl : j < K
    · have hjl' : (j : Int) < (K : Int) := by omega
      obtain ⟨m0, m1, m2, m3, m4, m5, m6, m7, m8, m9, m10, m11⟩ := KM.out _ hq
      have zq := hq.size
      go_upto_region 7 with (at_builtin; go_loud (refine Nt.wpList_append_row E (by rfl) _ _ (by rfl) M.heap.size (.slice a5 j c5) j _ (by rfl) (Nt.own_below hown ((Below.refl _ _).alloc (Nat.le_refl _) _)) _ 1 1 [⟨kind, frm, dst, site, num, label, key, value, version, ask, yes, code⟩] (by rfl) (Nt.isMs_one _ _ _ _ _ _ _ _ _ _ _ _ _) (by unfold maxLen; omega) (by omega) (by simp; omega) ?_; intro a6 c6 w6 own6 gr6 at6))
      go_wp2
      go_roundw
      case rel =>
        refine ⟨a6, c6, j + 1, rfl, by go_num, by omega, ?_, ?_⟩
        · rw [List.replicate_succ']; exact own6
        · exact (hq.alloc hq.size _).grown gr6 (by simp; omega) (fun m hm => (hown.lt m hm).1)
      case measure => simp [intOf]; omega
    · obtain rfl : j = K := by omega
      have hMs := (Nt.own_isRow Nt.mcells_len hown (by simp)).1
      have hb3 : Below W.heap.size W wr := hb2.trans (hq.mono hb2.size)
      obtain ⟨c0, c1, c2⟩ := KA.out _ hb3
      have x1 := (HS.out _ hb3).1
      go_upto_region 10 with (go_at_call 8; refine (Nt.empty_any S P _ n cp L _ hcf x1.labs N HN.out).mono ?_; rintro e w4 ⟨g4, rfl, hO4, hb4'⟩)
      have hb4 : Below W.heap.size W w4 := hb3.trans (hb4'.mono hb3.size)
      have hM4 := hMs.below hb4'
      clear c0 c1 c2 x1 hMs
      obtain ⟨c0, c1, c2⟩ := KA.out _ hb4
      obtain ⟨x1, x3, x4⟩ := HS.out _ hb4
      have HSE : Hid (Nt.sendErr S L P (List.replicate N default) (List.replicate j ⟨kind, frm, dst, site, num, label, key, value, version, ask, yes, code⟩) = 0) := by
        show _ = _
        unfold Nt.sendErr
        rw [if_neg (by rw [Nt.fault_empty hcf HN.out]; simp)]
        exact Nt.msgsFault_ok fun k hk => by
          have hk' : k < j := by simpa using hk
          have e : (List.replicate j (⟨kind, frm, dst, site, num, label, key, value, version, ask, yes, code⟩ : MV)).getD k default = ⟨kind, frm, dst, site, num, label, key, value, version, ask, yes, code⟩ := by simp [List.getD, hk']
          rw [e]
          exact HF.out
      go_upto_region 11 with (go_at_call 9; refine (Nt.send_any S P _ n cp L _ N N _ a5 j c5 _ _ x1.labs hO4.isFly.2.1 hM4 x3 x4).mono ?_; rintro e w5 ⟨hA5, hb5'⟩; unfold Nt.SendAns at hA5; rw [if_pos HSE.out, Nt.mss_rep] at hA5; obtain ⟨g5, gs, rfl, hO5, hms5⟩ := hA5)
      have hb5 : Below W.heap.size W w5 := hb4.trans (hb5'.mono hb4.size)
      have hMw5 : Below M.heap.size M w5 := hq.trans ((hb4'.trans (hb5'.mono hb4'.size)).mono hq.size)
      obtain ⟨hff, hgl, htot, hway, h30⟩ := Nt.fault_rep hcf HN.out HF.out hms5
      have hF5 := hO5.isFly.2.1
      have hsit := Nt.may_sites HF.out
      simp only [] at hsit hway
      have hTE : Nt.takeErr S L P gs frm dst 0 4 = if j = 0 then 6 else if 30 ≤ j then 8 else 0 := by
        rw [Nt.te_rest hff (.inr (.inr rfl)) (inR_true hsit.1.1 hsit.1.2) (inR_true hsit.2.1 hsit.2.2) (by omega), hway, List.length_replicate]
        by_cases e0 : j = 0
        · subst e0; rfl
        · by_cases e1 : 30 ≤ j
          · rw [if_neg (by omega), if_pos ⟨rfl, by omega⟩, if_neg e0, if_pos e1]
          · rw [if_neg (by omega), if_neg (by omega), if_neg e0, if_neg e1]
      have HTE : Hid (Nt.takeErr S L P gs frm dst 0 4 = if j = 0 then 6 else if 30 ≤ j then 8 else 0) := hTE
      have hCt := fun U (hU : Below w5.heap.size w5 U) => Nt.count_any _ N N gs U (hF5.below hU) hN9 (fun i _ => h30 i)
      rw [htot] at hCt
      clear c0 c1 c2 x1 x3 x4 hO4 hM4 hff hgl htot hway hms5 hTE hsit h30
      obtain ⟨c0, c1, c2⟩ := KA.out _ hb5
      obtain ⟨x1, x3, x4⟩ := HS.out _ hb5
      obtain ⟨m0, m1, m2, m3, m4, m5, m6, m7, m8, m9, m10, m11⟩ := KM.out _ hMw5
      go_upto_region 12 with (go_at_call 14; refine (Nt.take_any S P _ n cp L _ N N gs frm dst 0 4 _ (by omega) x1.labs hF5 x3 x4).mono ?_; rintro e w6 ⟨hA6, hb6⟩; obtain ⟨ta, tl, tc, ⟨tk0, tk1, tk2, tk3, tk4, tk5, tk6, tk7, tk8, tk9, tk10, tk11⟩, rfl⟩ := Nt.take_code hA6; rw [HTE.out]; simp only [MV.val]; clear hA6)
      obtain ⟨V, hV⟩ : ∃ V : World, V = w6.alloc (.cells #[.int .i64 tk0, .int .i64 tk1, .int .i64 tk2, .int .i64 tk3, .int .i64 tk4, .int .i64 tk5, .int .i64 tk6, .int .i64 tk7, .int .i64 tk8, .int .i64 tk9, .bool tk10, .int .i64 tk11] 40) := ⟨_, rfl⟩
      have hbV : Below w6.heap.size w6 V := by rw [hV]; exact (Below.refl _ _).alloc (Nat.le_refl _) _
      have hb5V : Below w5.heap.size w5 V := hb6.trans (hbV.mono hb6.size)
      rw [← hV]
      clear hV
      have hCv := hCt _ hb5V
      have hfin : Below w.heap.size w V := hB.trans ((hb5.trans (hb5V.mono hb5.size)).mono hB.size)
      by_cases e0 : j = 0
      · subst e0
        rw [if_pos rfl]
        simp only [Nat.zero_min] at hCv
        go_wp2_with (go_at_call 10; refine hCv.mono ?_; rintro e w7 ⟨rfl, hb7⟩)
        go_ret
        exact ⟨rfl, hfin.trans (hb7.mono hfin.size)⟩
      · have e0' : ¬ (j : Int) = 0 := by omega
        rw [if_neg e0]
        by_cases e1 : 30 ≤ j
        · have e1' : (30 : Int) ≤ (j : Int) := by omega
          have e2' : ¬ (j : Int) < 30 := by omega
          rw [if_pos e1]
          rw [Nat.min_eq_right e1] at hCv
          go_wp2_with (go_at_call 10; refine hCv.mono ?_; rintro e w7 ⟨rfl, hb7⟩)
          all_goals
            go_ret
            exact ⟨rfl, hfin.trans (hb7.mono hfin.size)⟩
        · have e1' : ¬ (30 : Int) ≤ (j : Int) := by omega
          have e2' : (j : Int) < 30 := by omega
          have e3' : (j : Int) ≤ 30 := by omega
          rw [if_neg e1]
          rw [Nat.min_eq_left (by omega)] at hCv
          go_wp2_with (go_at_call 10; refine hCv.mono ?_; rintro e w7 ⟨rfl, hb7⟩)
          all_goals
            go_ret
            exact ⟨rfl, hfin.trans (hb7.mono hfin.size)⟩
end Go.Proofs.YtcdfaimpbbjioaaDoor
