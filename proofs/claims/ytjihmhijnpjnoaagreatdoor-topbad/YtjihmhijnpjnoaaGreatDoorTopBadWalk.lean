/- The walk of the law TopBad: at any numbers it returns true and leaves what was in memory. -/
import Derived.Test.YtjihmhijnpjnoaaGreatDoorClActs
import Derived.Test.YtjihmhijnpjnoaaGreatDoorLnActsN
import Derived.Test.YtjihmhijnpjnoaaGreatDoorKCfgP
import Derived.OwnWalk
namespace Go.Proofs.YtjihmhijnpjnoaaGreatDoor.Ln
open Go.ChangeShapes Go.WideShapes Go.ChangeAt Go.RowKit
open Go.Proofs.YtjihmhijnpjnoaaGreatDoor.St (BoxN boxn_new IsRow Elem own_isRow own_below)
set_option linter.unusedVariables false
theorem pickedX (n m : Int) (w : World) (hn : -9223372036854775808 ≤ n ∧ n ≤ 9223372036854775807) (h1 : 0 < m) (h2 : m ≤ 9223372036854775807) : Calls Tryz.prog 6 #[.int .i64 n, .int .i64 m] w fun e w' => e = .returned (.int .i64 (pk n m)) ∧ w' = w := by
  go_enter Tryz.func6, Tryz.ntmps6
  go_wp2_with (go_at_call 8; refine (picked_any n m _ hn h1 h2).mono ?_; rintro e u ⟨rfl, hu⟩; rw [hu]; clear hu)
  go_ret
  exact ⟨rfl, rfl⟩
theorem scr_none (ys : List AV) (n : Nat) : scrErr 0 [] 0 n ys = (0, 2) := by
  unfold scrErr
  rw [if_pos (by decide)]
  rfl
theorem scr_long {s p : Int} {ls : List (Int × Int)} (h : cfgFault s ls p = 0) (ys : List AV) (n : Nat) (hn : 3000 < n) : scrErr s ls p n ys = (0, 1) := by
  unfold scrErr
  rw [if_neg (by simpa using h), if_pos hn]
set_option maxRecDepth 100000 in
set_option maxHeartbeats 16000000 in
theorem topBad_walk (s : Int) (a1 : Option Addr) (len1 cap1 : Nat) (zs : List Int) (p : Int) (a3 : Option Addr) (len3 cap3 : Nat) (rs : List RV) (at0 : Int) (w : World) (hs : (Lit.int .i64 s).wf = true) (hz : IsInts w a1 len1 cap1 zs) (hp : (Lit.int .i64 p).wf = true) (hr : IsRaws w a3 len3 cap3 rs) (hat0 : (Lit.int .i64 at0).wf = true) (hha : Tab w 0 7 aHas) (hhc : Tab w 1 4 cHas) (hht : CTops w) :
    Calls Tryz.prog 3 #[.int .i64 s, .slice a1 len1 cap1, .int .i64 p, .slice a3 len3 cap3, .int .i64 at0] w fun e w' => e = .returned (.bool true) ∧ Below w.heap.size w w' := by
  have bds : -9223372036854775808 ≤ s ∧ s ≤ 9223372036854775807 := by
    simp [Lit.wf, IntKind.min, IntKind.max, IntKind.signed, IntKind.bits] at hs
    omega
  clear hs
  have bdp : -9223372036854775808 ≤ p ∧ p ≤ 9223372036854775807 := by
    simp [Lit.wf, IntKind.min, IntKind.max, IntKind.signed, IntKind.bits] at hp
    omega
  clear hp
  have bdat0 : -9223372036854775808 ≤ at0 ∧ at0 ≤ 9223372036854775807 := by
    simp [Lit.wf, IntKind.min, IntKind.max, IntKind.signed, IntKind.bits] at hat0
    omega
  clear hat0
  have hT : LTabs w := ⟨hha, hhc, hht⟩
  clear hha hhc hht
  have bw : Below w.heap.size w w := Below.refl _ _
  have hCf := Kp.cfg_goodP s p a1 len1 cap1 zs w bds bdp hz
  clear hz
  go_enter Tryz.func3, Tryz.ntmps3
  go_upto_region 2 with (go_at_call 4; refine hCf.mono ?_; rintro e w1 ⟨S, P, g0, nl, cpl, LB, rfl, hG, hb1⟩)
  clear hCf
  replace bw := bw.trans (hb1.mono bw.size)
  replace hr := hr.below hb1
  replace hT := LTabs.below hT hb1
  obtain ⟨X1, eX1⟩ : ∃ X : World, X = w1.alloc (.cells #[.int .i64 S, .slice (some ⟨g0, 0, none⟩) nl cpl, .int .i64 P] 26) := ⟨_, rfl⟩
  have cb : BoxN X1 w1.heap.size 3 [.int .i64 S, .slice (some ⟨g0, 0, none⟩) nl cpl, .int .i64 P] := by rw [eX1]; exact boxn_new w1 #[.int .i64 S, .slice (some ⟨g0, 0, none⟩) nl cpl, .int .i64 P] 26 3 rfl
  have bX1 : Below w1.heap.size w1 X1 := by rw [eX1]; exact (Below.refl _ _).alloc (Nat.le_refl _) _
  rw [← eX1]
  clear eX1
  replace bw := bw.trans (bX1.mono bw.size)
  replace hr := hr.below bX1
  replace hT := LTabs.below hT bX1
  replace hG := hG.below bX1
  have HAc : Hid (Calls Tryz.prog 5 #[.agg #[.int .i64 S, .slice (some ⟨g0, 0, none⟩) nl cpl, .int .i64 P], .slice a3 len3 cap3, .int .i64 30, .bool true] X1 fun e w' => ∃ (ao : Option Addr) (cp : Nat) (ys : List AV), e = .returned (.slice ao ys.length cp) ∧ (∃ B : Nat, X1.heap.size ≤ B ∧ OwnActs w' B (.slice ao ys.length cp) ys) ∧ (∀ y ∈ ys, Fine S nl y) ∧ ys.length ≤ 32 ∧ Below X1.heap.size X1 w') := acts_most S P (some ⟨g0, 0, none⟩) nl cpl a3 len3 cap3 rs X1 ⟨hG.s1, by have := hG.s3; omega⟩ ⟨hG.n1, hG.n4⟩ hr 30 (by omega)
  have cb_0 : X1.cell? ⟨w1.heap.size, 0, none⟩ = some (.int .i64 S) := (cb.c 0 (by decide)).1
  have cb_1 : X1.cell? ⟨w1.heap.size, 1, none⟩ = some (.slice (some ⟨g0, 0, none⟩) nl cpl) := (cb.c 1 (by decide)).1
  have cb_2 : X1.cell? ⟨w1.heap.size, 2, none⟩ = some (.int .i64 P) := (cb.c 2 (by decide)).1
  have cb_z := cb.lt
  go_upto_region 3 with (go_at_call 5; refine HAc.out.mono ?_; rintro e y0 ⟨ao, cp, ys, rfl, ⟨B, hBB, hO⟩, hfine, hy32, hb0⟩)
  clear cb_0 cb_1 cb_2 cb_z
  clear HAc hr
  replace cb := cb.below hb0 cb.lt
  replace bw := bw.trans (hb0.mono bw.size)
  replace hT := LTabs.below hT hb0
  replace hG := hG.below hb0
  have hRow := OwnActs.isRow hO
  have hAct := hO.isActs.2
  have hKp := acts_keeps hAct
  clear hO
  obtain ⟨n, en⟩ : ∃ n, n = ys.length := ⟨_, rfl⟩
  rw [← en] at hRow hAct hy32 ⊢
  have HN : Hid (n = ys.length) := en
  clear en
  have hncp : n ≤ cp := hRow.2.1
  have hcpm : cp ≤ maxLen := hRow.2.2.1
  unfold maxLen at hcpm
  have hkp := pk_bd at0 ((n : Int) + 1) (by omega)
  have hPK := fun u => pickedX at0 ((n : Int) + 1) u bdat0 (by omega) (by omega)
  obtain ⟨KK, eK⟩ : ∃ KK : Nat, (KK : Int) = pk at0 ((n : Int) + 1) := ⟨(pk at0 ((n : Int) + 1)).toNat, by omega⟩
  rw [← eK] at hPK hkp
  have hKn : KK ≤ n := by omega
  have hwn : IntKind.i64.wrap ((n : Int) + 1) = (n : Int) + 1 := by simp [IntKind.wrap, IntKind.bits, IntKind.signed]; omega
  clear eK hkp
  go_upto_region 4 with (go_at_call 6; refine (hPK _).mono ?_; rintro e u ⟨rfl, hu⟩; rw [hu]; clear hu)
  clear hPK
  obtain ⟨iE, zE, EA⟩ := act_elem
  have HTk := act_take ao n cp KK (by omega)
  obtain ⟨pa, pc, HDr, HDR⟩ := act_drop ao n cp KK hKn hncp ys
  have HRw : Hid (∀ U, Below y0.heap.size y0 U → IsRow 12 AV.cells U ao n cp ys) := fun U hU => St.IsRow.below hRow hU
  have HRT : Hid (∀ U, Below y0.heap.size y0 U → IsRow 12 AV.cells U ao KK cp (ys.take KK)) := fun U hU => (HRw.out U hU).take KK hKn
  have HRD : Hid (∀ U, Below y0.heap.size y0 U → IsRow 12 AV.cells U pa (n - KK) pc (ys.drop KK)) := fun U hU => HDR U (HRw.out U hU)
  have hTl : (ys.take KK).length = KK := by have := HN.out; simp; omega
  clear HDR
  refine wp_region_inv (by kernel_rfl) [36, 37, 38, 39, 40, 41, 42, 43, 44, 45, 46, 14] (fun L T u => ∃ (b3 : Option Addr) (c3 : Nat) (A5 : Nat) (b6 : Option Addr) (c6 : Nat) (b10 : Option Addr) (c10 : Nat), Below y0.heap.size y0 u ∧ (L 0 = true → T 36 = .slice ao n cp) ∧ (L 1 = true → T 37 = .int .i64 (KK : Int)) ∧ (L 2 = true → T 38 = .slice ao KK cp) ∧ (L 3 = true → T 39 = .slice b3 KK c3) ∧ (L 3 = true → L 6 = false → u.ownsRow y0.heap.size 34 12 (.slice b3 KK c3) (KK) (St.flat AV.cells (ys.take KK))) ∧ (L 4 = true → T 40 = .agg #[.int .i64 9, .int .i64 0, .int .i64 0, .int .i64 0, .int .i64 0, .slice none 0 0, .int .i64 0, .int .i64 0, .int .i64 0, .int .i64 0, .int .i64 0, .string .empty]) ∧ (L 5 = true → T 41 = .slice (some ⟨A5, 0, none⟩) 1 1) ∧ (L 5 = true → L 6 = false → IsRow 12 AV.cells u (some ⟨A5, 0, none⟩) 1 1 [act9] ∧ A5 < u.heap.size) ∧ (L 6 = true → T 42 = .slice b6 (KK + 1) c6) ∧ (L 6 = true → L 10 = false → u.ownsRow y0.heap.size 34 12 (.slice b6 (KK + 1) c6) (KK + 1) (St.flat AV.cells (ys.take KK ++ [act9]))) ∧ (L 7 = true → T 43 = .slice ao n cp) ∧ (L 8 = true → T 44 = .int .i64 (KK : Int)) ∧ (L 9 = true → T 45 = .slice pa (n - KK) pc) ∧ (L 10 = true → T 46 = .slice b10 (KK + 1 + (n - KK)) c10) ∧ (L 10 = true → u.ownsRow y0.heap.size 34 12 (.slice b10 (KK + 1 + (n - KK)) c10) (KK + 1 + (n - KK)) (St.flat AV.cells (ys.take KK ++ [act9] ++ ys.drop KK))) ∧ (L 11 = true → T 14 = .slice b10 (KK + 1 + (n - KK)) c10)) (by decide) (by kernel_rfl) (by kernel_rfl) ?_ ?_ ?_
  · exact ⟨none, 0, 0, none, 0, none, 0, (Below.refl _ _).drew, nofun, nofun, nofun, nofun, nofun, nofun, nofun, nofun, nofun, nofun, nofun, nofun, nofun, nofun, nofun, nofun⟩
  · refine ⟨?_, ?_, ?_, ?_, ?_, ?_, ?_, ?_, ?_, ?_, ?_, ?_, trivial⟩
    · rintro L T u hd hk hcl ⟨b3, c3, A5, b6, c6, b10, c10, hb, f0, f1, f2, f3, f3w, f4, f5, f5w, f6, f6w, f7, f8, f9, f10, f10w, f11⟩ K hK
      simp only [fr, Act.put, List.setIfInBounds_toArray, List.set_cons_zero, List.set_cons_succ, updO] at hK ⊢
      simp [Region.binds] at hd
      rw [if_pos (by rfl)]
      simp only [Oper.wpv]
      go_simp
      exact hK _ _ ⟨b3, c3, A5, b6, c6, b10, c10, hb, fun _ => rfl, f1, f2, f3, f3w, f4, f5, f5w, f6, f6w, f7, f8, f9, f10, f10w, f11⟩
    · rintro L T u hd hk hcl ⟨b3, c3, A5, b6, c6, b10, c10, hb, f0, f1, f2, f3, f3w, f4, f5, f5w, f6, f6w, f7, f8, f9, f10, f10w, f11⟩ K hK
      simp only [fr, Act.put, List.setIfInBounds_toArray, List.set_cons_zero, List.set_cons_succ, updO] at hK ⊢
      simp [Region.binds] at hd
      rw [if_pos (by rfl)]
      simp only [Oper.wpv]
      go_simp
      exact hK _ _ ⟨b3, c3, A5, b6, c6, b10, c10, hb, f0, fun _ => rfl, f2, f3, f3w, f4, f5, f5w, f6, f6w, f7, f8, f9, f10, f10w, f11⟩
    · rintro L T u hd hk hcl ⟨b3, c3, A5, b6, c6, b10, c10, hb, f0, f1, f2, f3, f3w, f4, f5, f5w, f6, f6w, f7, f8, f9, f10, f10w, f11⟩ K hK
      simp only [fr, Act.put, List.setIfInBounds_toArray, List.set_cons_zero, List.set_cons_succ, updO] at hK ⊢
      simp [Region.binds] at hd
      have g0 := f0 (by simp [hd])
      have g1 := f1 (by simp [hd])
      have hTk := HTk u
      rw [if_pos (by rfl)]
      simp only [Oper.wpv]
      go_simp
      exact hK _ _ ⟨b3, c3, A5, b6, c6, b10, c10, hb, f0, f1, fun _ => rfl, f3, f3w, f4, f5, f5w, f6, f6w, f7, f8, f9, f10, f10w, f11⟩
    · rintro L T u hd hk hcl ⟨b3, c3, A5, b6, c6, b10, c10, hb, f0, f1, f2, f3, f3w, f4, f5, f5w, f6, f6w, f7, f8, f9, f10, f10w, f11⟩ K hK
      simp only [fr, Act.put, List.setIfInBounds_toArray, List.set_cons_zero, List.set_cons_succ, updO] at hK ⊢
      simp [Region.binds] at hd
      have g2 := f2 (by simp [hd])
      have k6 := hcl 6 _ rfl
      simp [Region.binds] at k6
      have k10 := hcl 10 _ rfl
      simp [Region.binds] at k10
      have k11 := hcl 11 _ rfl
      simp [Region.binds] at k11
      rw [if_pos (by rfl)]
      simp only [Oper.wpv]
      refine St.wpv_append_row EA (.const (.slice none 0 0)) (.tmp 38) (by rfl) y0.heap.size (.slice none 0 0) 0 [] (by rfl) (World.ownsRow_nil _ _ _ _) ao KK cp (ys.take KK) g2 (HRT.out u hb) (by unfold maxLen; omega) (by omega) hb.size ?_
      intro b3 c3 u3 own3 gr3 at3
      have hu3 : Below y0.heap.size y0 u3 := hb.grown gr3 hb.size (fun q hq => by cases hq)
      have hg : Below u.heap.size u u3 := (Below.refl _ _).grown gr3 (Nat.le_refl _) (fun q hq => by cases hq)
      simp only [Nat.zero_add, List.nil_append] at own3 at3 ⊢
      exact hK _ _ ⟨b3, c3, A5, b6, c6, b10, c10, hu3, f0, f1, f2, fun _ => rfl, fun _ _ => own3, f4, f5, fun h0 h1 => ⟨St.IsRow.below (f5w h0 h1).1 hg, Nat.lt_of_lt_of_le (f5w h0 h1).2 hg.size⟩, fun h => absurd (show L 6 = true from h) (by intro hh; have := k6 hh; simp [hk] at this), fun h _ => absurd (show L 6 = true from h) (by intro hh; have := k6 hh; simp [hk] at this), f7, f8, f9, fun h => absurd (show L 10 = true from h) (by intro hh; have := k10 hh; have h2 := k6 (by simp [this]); simp [hk] at h2), fun h => absurd (show L 10 = true from h) (by intro hh; have := k10 hh; have h2 := k6 (by simp [this]); simp [hk] at h2), fun h => absurd (show L 11 = true from h) (by intro hh; have := k11 hh; have h1 := k10 (by simp [this]); have h2 := k6 (by simp [h1]); simp [hk] at h2)⟩
    · rintro L T u hd hk hcl ⟨b3, c3, A5, b6, c6, b10, c10, hb, f0, f1, f2, f3, f3w, f4, f5, f5w, f6, f6w, f7, f8, f9, f10, f10w, f11⟩ K hK
      simp only [fr, Act.put, List.setIfInBounds_toArray, List.set_cons_zero, List.set_cons_succ, updO] at hK ⊢
      simp [Region.binds] at hd
      rw [if_pos (by rfl)]
      simp only [Oper.wpv]
      go_simp
      exact hK _ _ ⟨b3, c3, A5, b6, c6, b10, c10, hb, f0, f1, f2, f3, f3w, fun _ => rfl, f5, f5w, f6, f6w, f7, f8, f9, f10, f10w, f11⟩
    · rintro L T u hd hk hcl ⟨b3, c3, A5, b6, c6, b10, c10, hb, f0, f1, f2, f3, f3w, f4, f5, f5w, f6, f6w, f7, f8, f9, f10, f10w, f11⟩ K hK
      simp only [fr, Act.put, List.setIfInBounds_toArray, List.set_cons_zero, List.set_cons_succ, updO] at hK ⊢
      simp [Region.binds] at hd
      have g4 := f4 (by simp [hd])
      have hg : Below u.heap.size u (u.alloc (.cells #[.int .i64 9, .int .i64 0, .int .i64 0, .int .i64 0, .int .i64 0, .slice none 0 0, .int .i64 0, .int .i64 0, .int .i64 0, .int .i64 0, .int .i64 0, .string .empty] 34)) := (Below.refl _ _).alloc (Nat.le_refl _) _
      rw [if_pos (by rfl)]
      simp only [Oper.wpv]
      go_simp
      exact hK _ _ ⟨b3, c3, u.heap.size, b6, c6, b10, c10, (nT hb hg), f0, f1, f2, f3, fun h0 h1 => own_below (f3w h0 h1) hg, f4, fun _ => rfl, fun _ _ => ⟨row9 u, by simp⟩, f6, fun h0 h1 => own_below (f6w h0 h1) hg, f7, f8, f9, f10, fun h0 => own_below (f10w h0) hg, f11⟩
    · rintro L T u hd hk hcl ⟨b3, c3, A5, b6, c6, b10, c10, hb, f0, f1, f2, f3, f3w, f4, f5, f5w, f6, f6w, f7, f8, f9, f10, f10w, f11⟩ K hK
      simp only [fr, Act.put, List.setIfInBounds_toArray, List.set_cons_zero, List.set_cons_succ, updO] at hK ⊢
      simp [Region.binds] at hd
      have g3 := f3 (by simp [hd])
      have o3 := f3w (by simp [hd]) hk
      have g5 := f5 (by simp [hd])
      have r5 := (f5w (by simp [hd]) hk).1
      have k10 := hcl 10 _ rfl
      simp [Region.binds] at k10
      have k11 := hcl 11 _ rfl
      simp [Region.binds] at k11
      rw [if_pos (by rfl)]
      simp only [Oper.wpv]
      refine St.wpv_append_row EA (.tmp 39) (.tmp 41) (by rfl) y0.heap.size (.slice b3 KK c3) KK (ys.take KK) g3 o3 (some ⟨A5, 0, none⟩) 1 1 [act9] g5 r5 (by unfold maxLen; omega) (by omega) hb.size ?_
      intro b6 c6 u6 own6 gr6 at6
      have hu6 : Below y0.heap.size y0 u6 := hb.grown gr6 hb.size (fun q hq => (o3.lt q hq).1)
      exact hK _ _ ⟨b3, c3, A5, b6, c6, b10, c10, hu6, f0, f1, f2, f3, fun _ h => Bool.noConfusion (show true = false from h), f4, f5, fun _ h => Bool.noConfusion (show true = false from h), fun _ => rfl, fun _ _ => own6, f7, f8, f9, fun h => absurd (show L 10 = true from h) (by intro hh; have := k10 hh; simp [hk] at this), fun h => absurd (show L 10 = true from h) (by intro hh; have := k10 hh; simp [hk] at this), fun h => absurd (show L 11 = true from h) (by intro hh; have := k11 hh; have h1 := k10 (by simp [this]); simp [hk] at h1)⟩
    · rintro L T u hd hk hcl ⟨b3, c3, A5, b6, c6, b10, c10, hb, f0, f1, f2, f3, f3w, f4, f5, f5w, f6, f6w, f7, f8, f9, f10, f10w, f11⟩ K hK
      simp only [fr, Act.put, List.setIfInBounds_toArray, List.set_cons_zero, List.set_cons_succ, updO] at hK ⊢
      simp [Region.binds] at hd
      rw [if_pos (by rfl)]
      simp only [Oper.wpv]
      go_simp
      exact hK _ _ ⟨b3, c3, A5, b6, c6, b10, c10, hb, f0, f1, f2, f3, f3w, f4, f5, f5w, f6, f6w, fun _ => rfl, f8, f9, f10, f10w, f11⟩
    · rintro L T u hd hk hcl ⟨b3, c3, A5, b6, c6, b10, c10, hb, f0, f1, f2, f3, f3w, f4, f5, f5w, f6, f6w, f7, f8, f9, f10, f10w, f11⟩ K hK
      simp only [fr, Act.put, List.setIfInBounds_toArray, List.set_cons_zero, List.set_cons_succ, updO] at hK ⊢
      simp [Region.binds] at hd
      rw [if_pos (by rfl)]
      simp only [Oper.wpv]
      go_simp
      exact hK _ _ ⟨b3, c3, A5, b6, c6, b10, c10, hb, f0, f1, f2, f3, f3w, f4, f5, f5w, f6, f6w, f7, fun _ => rfl, f9, f10, f10w, f11⟩
    · rintro L T u hd hk hcl ⟨b3, c3, A5, b6, c6, b10, c10, hb, f0, f1, f2, f3, f3w, f4, f5, f5w, f6, f6w, f7, f8, f9, f10, f10w, f11⟩ K hK
      simp only [fr, Act.put, List.setIfInBounds_toArray, List.set_cons_zero, List.set_cons_succ, updO] at hK ⊢
      simp [Region.binds] at hd
      have g7 := f7 (by simp [hd])
      have g8 := f8 (by simp [hd])
      have hDr := HDr u
      rw [if_pos (by rfl)]
      simp only [Oper.wpv]
      go_simp
      exact hK _ _ ⟨b3, c3, A5, b6, c6, b10, c10, hb, f0, f1, f2, f3, f3w, f4, f5, f5w, f6, f6w, f7, f8, fun _ => rfl, f10, f10w, f11⟩
    · rintro L T u hd hk hcl ⟨b3, c3, A5, b6, c6, b10, c10, hb, f0, f1, f2, f3, f3w, f4, f5, f5w, f6, f6w, f7, f8, f9, f10, f10w, f11⟩ K hK
      simp only [fr, Act.put, List.setIfInBounds_toArray, List.set_cons_zero, List.set_cons_succ, updO] at hK ⊢
      simp [Region.binds] at hd
      have g6 := f6 (by simp [hd])
      have o6 := f6w (by simp [hd]) hk
      have g9 := f9 (by simp [hd])
      have k11 := hcl 11 _ rfl
      simp [Region.binds] at k11
      have k6 := hcl 6 _ rfl
      simp [Region.binds] at k6
      have h6 : L 6 = true := by simp [hd]
      rw [if_pos (by rfl)]
      simp only [Oper.wpv]
      refine St.wpv_append_row EA (.tmp 42) (.tmp 45) (by rfl) y0.heap.size (.slice b6 (KK + 1) c6) (KK + 1) (ys.take KK ++ [act9]) g6 o6 pa (n - KK) pc (ys.drop KK) g9 (HRD.out u hb) (by unfold maxLen; omega) (by omega) hb.size ?_
      intro b10 c10 u10 own10 gr10 at10
      have hu10 : Below y0.heap.size y0 u10 := hb.grown gr10 hb.size (fun q hq => (o6.lt q hq).1)
      exact hK _ _ ⟨b3, c3, A5, b6, c6, b10, c10, hu10, f0, f1, f2, f3, fun _ h => Bool.noConfusion ((show L 6 = false from h).symm.trans h6), f4, f5, fun _ h => Bool.noConfusion ((show L 6 = false from h).symm.trans h6), f6, fun _ h => Bool.noConfusion (show true = false from h), f7, f8, f9, fun _ => rfl, fun _ => own10, fun h => absurd (show L 11 = true from h) (by intro hh; have := k11 hh; simp [hk] at this)⟩
    · rintro L T u hd hk hcl ⟨b3, c3, A5, b6, c6, b10, c10, hb, f0, f1, f2, f3, f3w, f4, f5, f5w, f6, f6w, f7, f8, f9, f10, f10w, f11⟩ K hK
      simp only [fr, Act.put, List.setIfInBounds_toArray, List.set_cons_zero, List.set_cons_succ, updO] at hK ⊢
      simp [Region.binds] at hd
      have g10 := f10 (by simp [hd])
      rw [if_pos (by rfl)]
      simp only [Oper.wpv]
      go_simp
      exact hK _ _ ⟨b3, c3, A5, b6, c6, b10, c10, hb, f0, f1, f2, f3, f3w, f4, f5, f5w, f6, f6w, f7, f8, f9, f10, f10w, fun _ => rfl⟩
  · rintro L T u hl ⟨b3, c3, A5, b6, c6, b10, c10, hb, f0, f1, f2, f3, f3w, f4, f5, f5w, f6, f6w, f7, f8, f9, f10, f10w, f11⟩
    simp only [fr, Act.put, List.setIfInBounds_toArray, List.set_cons_zero, List.set_cons_succ]
    have hOw := f10w (hl 10 (by decide))
    have h14 := f11 (hl 11 (by decide))
    clear f0 f1 f2 f3 f3w f4 f5 f5w f6 f6w f7 f8 f9 f10 f10w f11 HTk HDr
    rw [h14]
    clear h14 hl
    replace cb := cb.below hb cb.lt
    replace bw := bw.trans (hb.mono bw.size)
    replace hT := LTabs.below hT hb
    replace hG := hG.below hb
    have hb9 := hb
    have NN : KK + 1 + (n - KK) = n + 1 := by omega
    rw [NN] at hOw ⊢
    have hBl : (ys.take KK ++ [act9] ++ ys.drop KK).length = n + 1 := by have := HN.out; simp; omega
    have hRb := (own_isRow AV.cells_len hOw hBl).1
    have hKb : ∀ y ∈ ys.take KK ++ [act9] ++ ys.drop KK, IsInts u y.ka y.kl y.kc y.keep := fun y hy => by
      rcases List.mem_append.1 hy with hy | hy
      · rcases List.mem_append.1 hy with hy | hy
        · exact (hKp y (List.mem_of_mem_take hy)).below hb9
        · simp at hy
          subst hy
          exact ints_nil u
      · exact (hKp y (List.mem_of_mem_drop hy)).below hb9
    have hAb := acts_of_row hRb hKb
    have hAs := hAct.below hb9
    have hF0 : cfgFault S LB P = 0 := hG.ok
    have hS1 : scrErr S LB P (n + 1) (ys.take KK ++ [act9] ++ ys.drop KK) = ((KK : Int), 3) := by
      unfold scrErr
      rw [if_neg (by simpa using hF0), if_neg (by omega)]
      have h8 := firstBad_bent (f := actFault S LB P) (x := act9) ys KK 0 (fun y hy => (hfine y hy).fault hF0 hG.nl.out.symm) (by rw [bad9 hF0]; decide) (by have := HN.out; omega)
      rw [h8, bad9 hF0]
      simp
    clear hRb hKb hOw hRow hAct hKp hfine
    have HR1 : Hid (Calls Tryz.prog 7 #[.agg #[.int .i64 S, .slice (some ⟨g0, 0, none⟩) nl cpl, .int .i64 P], .slice b10 (n + 1) c10] u fun e w' => e = .returned (.tuple #[.agg #[.slice none 0 0, .slice none 0 0, .int .i64 0, .slice none 0 0], .int .i64 (KK : Int), .int .i64 3]) ∧ Below u.heap.size u w') := by
      have h8 := run_refused S P (some ⟨g0, 0, none⟩) nl cpl LB b10 (n + 1) c10 (ys.take KK ++ [act9] ++ ys.drop KK) u hG.labs (by omega) (fun _ => hAb) hT (by rw [hS1]; show (3 : Int) ≠ 0; decide)
      rw [hS1] at h8
      exact h8
    have cb_0 : u.cell? ⟨w1.heap.size, 0, none⟩ = some (.int .i64 S) := (cb.c 0 (by decide)).1
    have cb_1 : u.cell? ⟨w1.heap.size, 1, none⟩ = some (.slice (some ⟨g0, 0, none⟩) nl cpl) := (cb.c 1 (by decide)).1
    have cb_2 : u.cell? ⟨w1.heap.size, 2, none⟩ = some (.int .i64 P) := (cb.c 2 (by decide)).1
    have cb_z := cb.lt
    go_upto_region 6 with (go_at_call 7; refine HR1.out.mono ?_; rintro e y1 ⟨rfl, hb2⟩)
    clear cb_0 cb_1 cb_2 cb_z
    clear HR1 hAb
    replace cb := cb.below hb2 cb.lt
    replace bw := bw.trans (hb2.mono bw.size)
    replace hT := LTabs.below hT hb2
    replace hG := hG.below hb2
    replace hAs := hAs.below hb2
    obtain ⟨X2, eX2⟩ : ∃ X : World, X = y1.alloc (.cells #[.slice none 0 0, .slice none 0 0, .int .i64 0, .slice none 0 0] 39) := ⟨_, rfl⟩
    have ob1 : BoxN X2 y1.heap.size 4 [.slice none 0 0, .slice none 0 0, .int .i64 0, .slice none 0 0] := by rw [eX2]; exact boxn_new y1 #[.slice none 0 0, .slice none 0 0, .int .i64 0, .slice none 0 0] 39 4 rfl
    have bX2 : Below y1.heap.size y1 X2 := by rw [eX2]; exact (Below.refl _ _).alloc (Nat.le_refl _) _
    rw [← eX2]
    clear eX2
    replace cb := cb.below bX2 cb.lt
    replace bw := bw.trans (bX2.mono bw.size)
    replace hT := LTabs.below hT bX2
    replace hG := hG.below bX2
    replace hAs := hAs.below bX2
    have HR2 : Hid (Calls Tryz.prog 7 #[.agg #[.int .i64 0, .slice none 0 0, .int .i64 0], .slice ao n cp] X2 fun e w' => e = .returned (.tuple #[.agg #[.slice none 0 0, .slice none 0 0, .int .i64 0, .slice none 0 0], .int .i64 0, .int .i64 2]) ∧ Below X2.heap.size X2 w') := by
      have h8 := run_refused 0 0 none 0 0 [] ao n cp ys X2 ⟨rfl, Nat.le_refl _, Nat.zero_le _, fun h9 => absurd h9 (by omega)⟩ (by omega) (fun _ => hAs) hT (by rw [scr_none]; decide)
      rw [scr_none] at h8
      exact h8
    go_upto_region 7 with (go_at_call 7; refine HR2.out.mono ?_; rintro e y2 ⟨rfl, hb3⟩)
    clear HR2
    replace cb := cb.below hb3 cb.lt
    replace ob1 := ob1.below hb3 ob1.lt
    replace bw := bw.trans (hb3.mono bw.size)
    replace hT := LTabs.below hT hb3
    replace hG := hG.below hb3
    replace hAs := hAs.below hb3
    obtain ⟨X3, eX3⟩ : ∃ X : World, X = y2.alloc (.cells #[.slice none 0 0, .slice none 0 0, .int .i64 0, .slice none 0 0] 39) := ⟨_, rfl⟩
    have ob2 : BoxN X3 y2.heap.size 4 [.slice none 0 0, .slice none 0 0, .int .i64 0, .slice none 0 0] := by rw [eX3]; exact boxn_new y2 #[.slice none 0 0, .slice none 0 0, .int .i64 0, .slice none 0 0] 39 4 rfl
    have bX3 : Below y2.heap.size y2 X3 := by rw [eX3]; exact (Below.refl _ _).alloc (Nat.le_refl _) _
    rw [← eX3]
    clear eX3
    replace cb := cb.below bX3 cb.lt
    replace ob1 := ob1.below bX3 ob1.lt
    replace bw := bw.trans (bX3.mono bw.size)
    replace hT := LTabs.below hT bX3
    replace hG := hG.below bX3
    replace hAs := hAs.below bX3
    obtain ⟨iA, hiA, hzA, hsA, hbA⟩ := info_parts actInfo
    have HMk : Hid (∀ u : World, ∃ w', (Instr.makeSlice 28 (.int .i64 3001) (.int .i64 3001)).run Tryz.prog u = .ok (.slice (some ⟨u.heap.size, 0, none⟩) 3001 3001) w' ∧ Below u.heap.size u w') := fun u => by
      obtain ⟨w', h1, h2, h3⟩ := run_makeSlice_full (P := Tryz.prog) (w := u) u.heap.size 28 34 iA _ 12 (by kernel_rfl) hiA hzA hsA .i64 .i64 3001 (by omega) (by rw [hbA]; omega) (by unfold maxLen; omega) (Nat.le_refl _)
      exact ⟨w', h1, (Below.refl _ _).grown h3 (Nat.le_refl _) (fun q hq => by cases hq)⟩
    have HR3 : Hid (∀ U g, Below X3.heap.size X3 U → Calls Tryz.prog 7 #[.agg #[.int .i64 S, .slice (some ⟨g0, 0, none⟩) nl cpl, .int .i64 P], .slice (some ⟨g, 0, none⟩) 3001 3001] U fun e w' => e = .returned (.tuple #[.agg #[.slice none 0 0, .slice none 0 0, .int .i64 0, .slice none 0 0], .int .i64 0, .int .i64 1]) ∧ Below U.heap.size U w') := fun U g hU => by
      have h8 := run_refused S P (some ⟨g0, 0, none⟩) nl cpl LB (some ⟨g, 0, none⟩) 3001 3001 [] U (hG.labs.below hU) (by omega) (fun h9 => absurd h9 (by omega)) (LTabs.below hT hU) (by rw [scr_long hF0 _ _ (by omega)]; decide)
      rw [scr_long hF0 _ _ (by omega)] at h8
      exact h8
    have KC : Hid (∀ U, Below X3.heap.size X3 U → U.cell? ⟨w1.heap.size, 0, none⟩ = some (.int .i64 S) ∧ U.cell? ⟨w1.heap.size, 1, none⟩ = some (.slice (some ⟨g0, 0, none⟩) nl cpl) ∧ U.cell? ⟨w1.heap.size, 2, none⟩ = some (.int .i64 P) ∧ w1.heap.size < U.heap.size) := fun U hU => ⟨((cb.below hU cb.lt).c 0 (by decide)).1, ((cb.below hU cb.lt).c 1 (by decide)).1, ((cb.below hU cb.lt).c 2 (by decide)).1, (cb.below hU cb.lt).lt⟩
    clear hiA hzA hsA hbA
    refine wp_region_inv (by kernel_rfl) [62, 63, 64, 61, 65, 66, 67, 21, 22, 23] (fun L T u => ∃ (G9 : Nat) (A : Nat), Below X3.heap.size X3 u ∧ (L 0 = true → T 62 = .agg #[.int .i64 S, .slice (some ⟨g0, 0, none⟩) nl cpl, .int .i64 P]) ∧ (L 1 = true → T 63 = .slice (some ⟨G9, 0, none⟩) 3001 3001) ∧ (L 2 = true → T 64 = .tuple #[.agg #[.slice none 0 0, .slice none 0 0, .int .i64 0, .slice none 0 0], .int .i64 0, .int .i64 1]) ∧ (L 3 = true → T 61 = .tuple #[.agg #[.slice none 0 0, .slice none 0 0, .int .i64 0, .slice none 0 0], .int .i64 0, .int .i64 1]) ∧ (L 4 = true → T 65 = .agg #[.slice none 0 0, .slice none 0 0, .int .i64 0, .slice none 0 0]) ∧ (L 5 = true → T 66 = .int .i64 0) ∧ (L 6 = true → T 67 = .int .i64 1) ∧ (L 9 = true → T 22 = .int .i64 0) ∧ (L 10 = true → T 23 = .int .i64 1) ∧ (L 7 = true → (T 21 = .pointer (some ⟨A, 0, none⟩) ∧ X3.heap.size ≤ A ∧ A < u.heap.size)) ∧ (L 7 = true → L 8 = false → BoxN u A 4 [.slice none 0 0, .slice none 0 0, .int .i64 0, .slice none 0 0]) ∧ (L 8 = true → BoxN u A 4 [.slice none 0 0, .slice none 0 0, .int .i64 0, .slice none 0 0])) (by decide) (by kernel_rfl) (by kernel_rfl) ?_ ?_ ?_
    · exact ⟨0, 0, (Below.refl _ _).drew, nofun, nofun, nofun, nofun, nofun, nofun, nofun, nofun, nofun, nofun, nofun, nofun⟩
    · refine ⟨?_, ?_, ?_, ?_, ?_, ?_, ?_, ?_, ?_, ?_, ?_, trivial⟩
      · rintro L T u hd hk hcl ⟨G9, A, hb, p0, p1, p2, p3, p4, p5, p6, p9, p10, pa7, bz7, bv7⟩ K hK
        simp only [fr, Act.put, List.setIfInBounds_toArray, List.set_cons_zero, List.set_cons_succ, updO] at hK ⊢
        simp [Region.binds] at hd
        obtain ⟨x0, x1, x2, x3⟩ := KC.out u hb
        rw [if_pos (by rfl)]
        simp only [Oper.wpv]
        go_simp
        exact hK _ _ ⟨G9, A, hb, fun _ => rfl, p1, p2, p3, p4, p5, p6, p9, p10, pa7, bz7, bv7⟩
      · rintro L T u hd hk hcl ⟨G9, A, hb, p0, p1, p2, p3, p4, p5, p6, p9, p10, pa7, bz7, bv7⟩ K hK
        simp only [fr, Act.put, List.setIfInBounds_toArray, List.set_cons_zero, List.set_cons_succ, updO] at hK ⊢
        simp [Region.binds] at hd
        have k2 := hcl 2 _ rfl
        simp [Region.binds] at k2
        have k3 := hcl 3 _ rfl
        simp [Region.binds] at k3
        have k4 := hcl 4 _ rfl
        simp [Region.binds] at k4
        have k5 := hcl 5 _ rfl
        simp [Region.binds] at k5
        have k6 := hcl 6 _ rfl
        simp [Region.binds] at k6
        have k8 := hcl 8 _ rfl
        simp [Region.binds] at k8
        have k9 := hcl 9 _ rfl
        simp [Region.binds] at k9
        have k10 := hcl 10 _ rfl
        simp [Region.binds] at k10
        obtain ⟨w9, hr9, hg⟩ := HMk.out u
        rw [if_pos (by rfl)]
        simp only [Oper.wpv]
        go_simp
        exact hK _ _ ⟨u.heap.size, A, (nT hb hg), p0, fun _ => rfl, p2, p3, p4, p5, p6, p9, p10, fun h0 => ⟨(pa7 h0).1, (pa7 h0).2.1, Nat.lt_of_lt_of_le (pa7 h0).2.2 hg.size⟩, fun h0 h1 => (bz7 h0 h1).below hg (bz7 h0 h1).lt, fun h0 => (bv7 h0).below hg (bv7 h0).lt⟩
      · rintro L T u hd hk hcl ⟨G9, A, hb, p0, p1, p2, p3, p4, p5, p6, p9, p10, pa7, bz7, bv7⟩ K hK
        simp only [fr, Act.put, List.setIfInBounds_toArray, List.set_cons_zero, List.set_cons_succ, updO] at hK ⊢
        simp [Region.binds] at hd
        have g0 := p0 (by simp [hd])
        have g1 := p1 (by simp [hd])
        rw [if_pos (by rfl)]
        simp only [Oper.wpv]
        go_simp
        refine (HR3.out _ _ hb).mono ?_
        rintro e u1 ⟨rfl, hg⟩
        exact hK _ _ ⟨G9, A, nT hb hg, p0, p1, fun _ => rfl, p3, p4, p5, p6, p9, p10, fun h0 => ⟨(pa7 h0).1, (pa7 h0).2.1, Nat.lt_of_lt_of_le (pa7 h0).2.2 hg.size⟩, fun h0 h1 => (bz7 h0 h1).below hg (bz7 h0 h1).lt, fun h0 => (bv7 h0).below hg (bv7 h0).lt⟩
      · rintro L T u hd hk hcl ⟨G9, A, hb, p0, p1, p2, p3, p4, p5, p6, p9, p10, pa7, bz7, bv7⟩ K hK
        simp only [fr, Act.put, List.setIfInBounds_toArray, List.set_cons_zero, List.set_cons_succ, updO] at hK ⊢
        simp [Region.binds] at hd
        have g2 := p2 (by simp [hd])
        rw [if_pos (by rfl)]
        simp only [Oper.wpv]
        go_simp
        exact hK _ _ ⟨G9, A, hb, p0, p1, p2, fun _ => rfl, p4, p5, p6, p9, p10, pa7, bz7, bv7⟩
      · rintro L T u hd hk hcl ⟨G9, A, hb, p0, p1, p2, p3, p4, p5, p6, p9, p10, pa7, bz7, bv7⟩ K hK
        simp only [fr, Act.put, List.setIfInBounds_toArray, List.set_cons_zero, List.set_cons_succ, updO] at hK ⊢
        simp [Region.binds] at hd
        have g3 := p3 (by simp [hd])
        rw [if_pos (by rfl)]
        simp only [Oper.wpv]
        go_simp
        exact hK _ _ ⟨G9, A, hb, p0, p1, p2, p3, fun _ => rfl, p5, p6, p9, p10, pa7, bz7, bv7⟩
      · rintro L T u hd hk hcl ⟨G9, A, hb, p0, p1, p2, p3, p4, p5, p6, p9, p10, pa7, bz7, bv7⟩ K hK
        simp only [fr, Act.put, List.setIfInBounds_toArray, List.set_cons_zero, List.set_cons_succ, updO] at hK ⊢
        simp [Region.binds] at hd
        have g3 := p3 (by simp [hd])
        rw [if_pos (by rfl)]
        simp only [Oper.wpv]
        go_simp
        exact hK _ _ ⟨G9, A, hb, p0, p1, p2, p3, p4, fun _ => rfl, p6, p9, p10, pa7, bz7, bv7⟩
      · rintro L T u hd hk hcl ⟨G9, A, hb, p0, p1, p2, p3, p4, p5, p6, p9, p10, pa7, bz7, bv7⟩ K hK
        simp only [fr, Act.put, List.setIfInBounds_toArray, List.set_cons_zero, List.set_cons_succ, updO] at hK ⊢
        simp [Region.binds] at hd
        have g3 := p3 (by simp [hd])
        rw [if_pos (by rfl)]
        simp only [Oper.wpv]
        go_simp
        exact hK _ _ ⟨G9, A, hb, p0, p1, p2, p3, p4, p5, fun _ => rfl, p9, p10, pa7, bz7, bv7⟩
      · rintro L T u hd hk hcl ⟨G9, A, hb, p0, p1, p2, p3, p4, p5, p6, p9, p10, pa7, bz7, bv7⟩ K hK
        simp only [fr, Act.put, List.setIfInBounds_toArray, List.set_cons_zero, List.set_cons_succ, updO] at hK ⊢
        simp [Region.binds] at hd
        have kst := hcl 8 _ rfl
        simp [Region.binds] at kst
        rw [if_pos (by rfl)]
        simp only [Oper.wpv]
        go_simp
        have hg : Below u.heap.size u _ := (Below.refl u.heap.size u).alloc (Nat.le_refl _) (.cells #[.slice none 0 0, .slice none 0 0, .int .i64 0, .slice none 0 0] 39)
        exact hK _ _ ⟨G9, u.heap.size, nT hb hg, p0, p1, p2, p3, p4, p5, p6, p9, p10, fun _ => ⟨rfl, hb.size, by simp⟩, fun _ _ => boxn_new u #[.slice none 0 0, .slice none 0 0, .int .i64 0, .slice none 0 0] 39 4 rfl, fun h => absurd (show L 8 = true from h) (by intro hh; have := kst hh; simp [hk] at this)⟩
      · rintro L T u hd hk hcl ⟨G9, A, hb, p0, p1, p2, p3, p4, p5, p6, p9, p10, pa7, bz7, bv7⟩ K hK
        simp only [fr, Act.put, List.setIfInBounds_toArray, List.set_cons_zero, List.set_cons_succ, updO] at hK ⊢
        simp [Region.binds] at hd
        have g4 := p4 (by simp [hd])
        have g7 := pa7 (by simp [hd])
        have HK7 : L 7 = true := by simp [hd]
        obtain ⟨gA, gB, gC⟩ := pa7 HK7
        have bz := bz7 HK7 hk
        have z0 : u.cell? ⟨A, 0, none⟩ = some (.slice none 0 0) := (bz.c 0 (by decide)).1
        have zf0 := (bz.c 0 (by decide)).2
        have z1 : u.cell? ⟨A, 1, none⟩ = some (.slice none 0 0) := (bz.c 1 (by decide)).1
        have zf1 := (bz.c 1 (by decide)).2
        have z2 : u.cell? ⟨A, 2, none⟩ = some (.int .i64 0) := (bz.c 2 (by decide)).1
        have zf2 := (bz.c 2 (by decide)).2
        have z3 : u.cell? ⟨A, 3, none⟩ = some (.slice none 0 0) := (bz.c 3 (by decide)).1
        have zf3 := (bz.c 3 (by decide)).2
        clear g7
        rw [if_pos (by rfl)]
        simp only [Oper.wpv]
        go_simp
        exact hK _ _ ⟨G9, A, ((((hb.setCell (p := ⟨A, 0, none⟩) gB _).setCell (p := ⟨A, 1, none⟩) gB _).setCell (p := ⟨A, 2, none⟩) gB _).setCell (p := ⟨A, 3, none⟩) gB _), p0, p1, p2, p3, p4, p5, p6, p9, p10, fun h0 => ⟨(pa7 h0).1, (pa7 h0).2.1, by simpa using (pa7 h0).2.2⟩, fun h0 h1 => Bool.noConfusion (show true = false from h1), fun _ => ((((bz.set 0 (by decide) _).set 1 (by decide) _).set 2 (by decide) _).set 3 (by decide) _)⟩
      · rintro L T u hd hk hcl ⟨G9, A, hb, p0, p1, p2, p3, p4, p5, p6, p9, p10, pa7, bz7, bv7⟩ K hK
        simp only [fr, Act.put, List.setIfInBounds_toArray, List.set_cons_zero, List.set_cons_succ, updO] at hK ⊢
        simp [Region.binds] at hd
        have g5 := p5 (by simp [hd])
        rw [if_pos (by rfl)]
        simp only [Oper.wpv]
        go_simp
        exact hK _ _ ⟨G9, A, hb, p0, p1, p2, p3, p4, p5, p6, fun _ => rfl, p10, pa7, bz7, bv7⟩
      · rintro L T u hd hk hcl ⟨G9, A, hb, p0, p1, p2, p3, p4, p5, p6, p9, p10, pa7, bz7, bv7⟩ K hK
        simp only [fr, Act.put, List.setIfInBounds_toArray, List.set_cons_zero, List.set_cons_succ, updO] at hK ⊢
        simp [Region.binds] at hd
        have g6 := p6 (by simp [hd])
        rw [if_pos (by rfl)]
        simp only [Oper.wpv]
        go_simp
        exact hK _ _ ⟨G9, A, hb, p0, p1, p2, p3, p4, p5, p6, p9, fun _ => rfl, pa7, bz7, bv7⟩
    · rintro L T u hl ⟨G9, A, hb, p0, p1, p2, p3, p4, p5, p6, p9, p10, pa7, bz7, bv7⟩
      simp only [fr, Act.put, List.setIfInBounds_toArray, List.set_cons_zero, List.set_cons_succ]
      have h21 := pa7 (hl 7 (by decide))
      have h22 := p9 (hl 9 (by decide))
      have h23 := p10 (hl 10 (by decide))
      clear p0 p1 p2 p3 p4 p5 p6 p9 p10 pa7 bz7 bv7 KC HR3 HMk
      rw [h21.1, h22, h23]
      clear h21 h22 h23 hl
      replace cb := cb.below hb cb.lt
      replace ob1 := ob1.below hb ob1.lt
      replace ob2 := ob2.below hb ob2.lt
      replace bw := bw.trans (hb.mono bw.size)
      replace hT := LTabs.below hT hb
      replace hG := hG.below hb
      replace hAs := hAs.below hb
      have ob1_0 : u.cell? ⟨y1.heap.size, 0, none⟩ = some (.slice none 0 0) := (ob1.c 0 (by decide)).1
      have ob1_z := ob1.lt
      clear cb ob2 hG hT hAs hb9
      go_wp2
      go_ret
      exact ⟨by simp, bw⟩
end Go.Proofs.YtjihmhijnpjnoaaGreatDoor.Ln
