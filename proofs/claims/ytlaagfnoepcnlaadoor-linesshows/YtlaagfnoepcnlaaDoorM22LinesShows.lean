/- Texts of this claim, one behind the other. -/
import Derived.Test.YtlaagfnoepcnlaaDoorM21LinesShows
import Derived.Test.YtlaagfnoepcnlaaDoorM14LinesShows
import Derived.Deep.DeepCutAuto
/- The document's actLine: acts of the kinds deliver, drop, copy, tick and start. -/
namespace Go.Proofs.YtlaagfnoepcnlaaDoor.Ln
open Go.ChangeShapes Go.WideShapes Go.ChangeAt Go.RowKit
open Go.Proofs.YtlaagfnoepcnlaaDoor.St (BoxN boxn_new own_below IsRow Elem flat flat_append own_isRow)
open Go.Proofs.YtlaagfnoepcnlaaDoor.Cn (ObAt)
open Go.Proofs.YtlaagfnoepcnlaaDoor.Dc (decS dec_ref decS_size)
set_option linter.unusedVariables false

theorem aWord_sz (k : Nat) : (aWord k).size ≤ 7 := by unfold aWord; split <;> decide
set_option maxRecDepth 100000 in
set_option maxHeartbeats 8000000 in
theorem pathLine_any (k site to1 label pick : Nat) (ka : Option Addr) (kl kc : Nat) (c0 c1 c2 c3 c4 : Int) (line : ByteArray) (w : World) (hk : k = 2 ∨ k = 3 ∨ k = 4) (hn : site ≤ 1048576 ∧ to1 ≤ 1048576 ∧ label ≤ 1048576 ∧ pick ≤ 1048576) :
    Calls Tryd.prog 27 #[.agg #[.int .i64 (k : Int), .int .i64 (site : Int), .int .i64 (to1 : Int), .int .i64 (label : Int), .int .i64 (pick : Int), .slice ka kl kc, .int .i64 c0, .int .i64 c1, .int .i64 c2, .int .i64 c3, .int .i64 c4, .string line]] w fun e w' => e = .returned (.string (aWord k ++ blankS [(site : Int), (to1 : Int), (label : Int), (pick : Int)] ++ ⟨#[10]⟩)) ∧ Below w.heap.size w w' := by
  obtain ⟨W, hW⟩ : ∃ W : World, W = w.alloc (.cells #[.int .i64 (k : Int), .int .i64 (site : Int), .int .i64 (to1 : Int), .int .i64 (label : Int), .int .i64 (pick : Int), .slice ka kl kc, .int .i64 c0, .int .i64 c1, .int .i64 c2, .int .i64 c3, .int .i64 c4, .string line] 41) := ⟨_, rfl⟩
  have bW : Below w.heap.size w W := by rw [hW]; exact (Below.refl _ _).alloc (Nat.le_refl _) _
  have oA : ObAt W w.heap.size #[.int .i64 (k : Int), .int .i64 (site : Int), .int .i64 (to1 : Int), .int .i64 (label : Int), .int .i64 (pick : Int), .slice ka kl kc, .int .i64 c0, .int .i64 c1, .int .i64 c2, .int .i64 c3, .int .i64 c4, .string line] 41 := by rw [hW]; exact ObAt.new w _ _
  have KX : Hid (∀ U, Below W.heap.size W U → U.cell? ⟨w.heap.size, 0, none⟩ = some (.int .i64 (k : Int)) ∧ U.cell? ⟨w.heap.size, 1, none⟩ = some (.int .i64 (site : Int)) ∧ U.cell? ⟨w.heap.size, 2, none⟩ = some (.int .i64 (to1 : Int)) ∧ U.cell? ⟨w.heap.size, 3, none⟩ = some (.int .i64 (label : Int)) ∧ U.cell? ⟨w.heap.size, 4, none⟩ = some (.int .i64 (pick : Int)) ∧ U.cell? ⟨w.heap.size, 5, none⟩ = some (.slice ka kl kc) ∧ U.cell? ⟨w.heap.size, 6, none⟩ = some (.int .i64 c0) ∧ U.cell? ⟨w.heap.size, 7, none⟩ = some (.int .i64 c1) ∧ U.cell? ⟨w.heap.size, 8, none⟩ = some (.int .i64 c2) ∧ U.cell? ⟨w.heap.size, 9, none⟩ = some (.int .i64 c3) ∧ U.cell? ⟨w.heap.size, 10, none⟩ = some (.int .i64 c4) ∧ U.cell? ⟨w.heap.size, 11, none⟩ = some (.string line) ∧ w.heap.size < U.heap.size) := fun U hU => ⟨(oA.below hU).cell 0, (oA.below hU).cell 1, (oA.below hU).cell 2, (oA.below hU).cell 3, (oA.below hU).cell 4, (oA.below hU).cell 5, (oA.below hU).cell 6, (oA.below hU).cell 7, (oA.below hU).cell 8, (oA.below hU).cell 9, (oA.below hU).cell 10, (oA.below hU).cell 11, (oA.below hU).lt⟩
  have k9 : k < 9 := by omega
  have k9' : (k : Int) < 9 := by omega
  have hAw : Hid (∀ U, Calls Tryd.prog 52 #[] U fun e w' => ∃ b, e = .returned (.slice (some ⟨b, 0, none⟩) 9 9) ∧ (b < w'.heap.size ∧ w'.cell? ⟨b, k, none⟩ = some (.string (aWord k))) ∧ Below U.heap.size U w') := fun U => (awRef_any U).mono fun e w' ⟨b, h1, h2, h3⟩ => ⟨b, h1, ⟨h2.1, h2.2 k k9⟩, h3⟩
  have hsz := aWord_sz k
  obtain ⟨S0, eS0⟩ : ∃ x, x = aWord k := ⟨_, rfl⟩
  rw [← eS0] at hAw hsz ⊢
  clear eS0 oA
  have HBl : Hid (∀ U b, BoxN U b 4 [.int .i64 (site : Int), .int .i64 (to1 : Int), .int .i64 (label : Int), .int .i64 (pick : Int)] → Calls Tryd.prog 53 #[.slice (some ⟨b, 0, none⟩) 4 4] U fun e w' => e = .returned (.string (blankS [(site : Int), (to1 : Int), (label : Int), (pick : Int)])) ∧ Below U.heap.size U w') := fun U b bx => blanked_any (some ⟨b, 0, none⟩) 4 4 [(site : Int), (to1 : Int), (label : Int), (pick : Int)] U (by omega) rfl (fun z hz => by simp at hz; omega) (fun _ => ⟨_, 0, rfl, bx.lt, fun i hi => by
      rw [Nat.zero_add, (bx.c i (by omega)).1]
      rcases (by omega : i = 0 ∨ i = 1 ∨ i = 2 ∨ i = 3) with rfl | rfl | rfl | rfl <;> rfl⟩)
  have hbs : (blankS [(site : Int), (to1 : Int), (label : Int), (pick : Int)]).size ≤ 200 := by
    show (blankL [(site : Int), (to1 : Int), (label : Int), (pick : Int)]).toArray.size ≤ 200
    have q := fun (m : Nat) (h : m ≤ 1048576) => Lib.itoa_length_le (m : Int) (by omega) (by omega)
    have q1 := q site hn.1
    have q2 := q to1 hn.2.1
    have q3 := q label hn.2.2.1
    have q4 := q pick hn.2.2.2
    simp only [List.size_toArray, blankL, List.length_append, List.length_cons, List.length_nil]
    omega
  obtain ⟨BS, eBS⟩ : ∃ x, x = blankS [(site : Int), (to1 : Int), (label : Int), (pick : Int)] := ⟨_, rfl⟩
  rw [← eBS] at HBl hbs ⊢
  obtain ⟨T1, t1⟩ : ∃ x : ByteArray, S0 ++ BS = x := ⟨_, rfl⟩
  have s1 : T1.size = S0.size + BS.size := by rw [← t1, ByteArray.size_append]
  have z1 : ¬ (9223372036854775807 < S0.size + BS.size) := by omega
  have z2 : ¬ (9223372036854775807 < T1.size + 1) := by omega
  rw [t1]
  clear eBS hsz hbs s1
  go_enter Tryd.func27, Tryd.ntmps27
  go_upto_region 1 with (fail)
  rw [← hW]
  clear hW
  refine wp_region_inv (by kernel_rfl) [7, 8, 9, 10, 11, 3] (fun L T u => ∃ (bL : Nat), Below W.heap.size W u ∧ (L 0 = true → T 7 = .slice (some ⟨bL, 0, none⟩) 9 9) ∧ (L 1 = true → T 8 = .pointer (some ⟨w.heap.size, 0, none⟩)) ∧ (L 2 = true → T 9 = .int .i64 (k : Int)) ∧ (L 3 = true → T 10 = .pointer (some ⟨bL, k, none⟩)) ∧ (L 4 = true → T 11 = .string S0) ∧ (L 5 = true → T 3 = .string S0) ∧ (L 0 = true → (bL < u.heap.size ∧ u.cell? ⟨bL, k, none⟩ = some (.string S0)))) (by decide) (by kernel_rfl) (by kernel_rfl) ?_ ?_ ?_
  · exact ⟨0, (Below.refl _ _).drew, nofun, nofun, nofun, nofun, nofun, nofun, nofun⟩
  · refine ⟨?_, ?_, ?_, ?_, ?_, ?_, trivial⟩
    · rintro L T u hd hk hcl ⟨bL, hb, p0, p1, p2, p3, p4, p5, wt⟩ K hK
      simp only [fr, Act.put, List.setIfInBounds_toArray, List.set_cons_zero, List.set_cons_succ, updO] at hK ⊢
      simp [Region.binds] at hd
      have k3 := hcl 3 _ rfl
      simp [Region.binds] at k3
      have k4 := hcl 4 _ rfl
      simp [Region.binds] at k4
      have k5 := hcl 5 _ rfl
      simp [Region.binds] at k5
      rw [if_pos (by rfl)]
      simp only [Oper.wpv]
      go_simp
      refine (hAw.out u).mono ?_
      rintro e u1 ⟨b8, rfl, h8, hg⟩
      exact hK _ _ ⟨b8, sT hb hg, fun _ => rfl, p1, p2, fun h => absurd (show L 3 = true from h) (by intro hh; have a3 := k3 hh; simp [hk] at a3), fun h => absurd (show L 4 = true from h) (by intro hh; have a4 := k4 hh; have a3 := k3 (by simp [a4]); simp [hk] at a3), fun h => absurd (show L 5 = true from h) (by intro hh; have a5 := k5 hh; have a4 := k4 (by simp [a5]); have a3 := k3 (by simp [a4]); simp [hk] at a3), fun _ => h8⟩
    · rintro L T u hd hk hcl ⟨bL, hb, p0, p1, p2, p3, p4, p5, wt⟩ K hK
      simp only [fr, Act.put, List.setIfInBounds_toArray, List.set_cons_zero, List.set_cons_succ, updO] at hK ⊢
      simp [Region.binds] at hd
      rw [if_pos (by rfl)]
      simp only [Oper.wpv]
      go_simp
      exact hK _ _ ⟨bL, hb, p0, fun _ => rfl, p2, p3, p4, p5, wt⟩
    · rintro L T u hd hk hcl ⟨bL, hb, p0, p1, p2, p3, p4, p5, wt⟩ K hK
      simp only [fr, Act.put, List.setIfInBounds_toArray, List.set_cons_zero, List.set_cons_succ, updO] at hK ⊢
      simp [Region.binds] at hd
      have g1 := p1 (by simp [hd])
      obtain ⟨x0, x1, x2, x3, x4, x5, x6, x7, x8, x9, x10, x11, zx⟩ := KX.out u hb
      rw [if_pos (by rfl)]
      simp only [Oper.wpv]
      go_simp
      exact hK _ _ ⟨bL, hb, p0, p1, fun _ => rfl, p3, p4, p5, wt⟩
    · rintro L T u hd hk hcl ⟨bL, hb, p0, p1, p2, p3, p4, p5, wt⟩ K hK
      simp only [fr, Act.put, List.setIfInBounds_toArray, List.set_cons_zero, List.set_cons_succ, updO] at hK ⊢
      simp [Region.binds] at hd
      have g0 := p0 (by simp [hd])
      have g2 := p2 (by simp [hd])
      have k0 : (0 : Int) ≤ (k : Int) := by omega
      rw [if_pos (by rfl)]
      simp only [Oper.wpv]
      go_simp
      exact hK _ _ ⟨bL, hb, p0, p1, p2, fun _ => rfl, p4, p5, wt⟩
    · rintro L T u hd hk hcl ⟨bL, hb, p0, p1, p2, p3, p4, p5, wt⟩ K hK
      simp only [fr, Act.put, List.setIfInBounds_toArray, List.set_cons_zero, List.set_cons_succ, updO] at hK ⊢
      simp [Region.binds] at hd
      have g3 := p3 (by simp [hd])
      have k3 := hcl 3 _ rfl
      simp [Region.binds] at k3
      have a3 : L 3 = true := by simp [hd]
      have a0 : L 0 = true := by simp [k3 a3]
      obtain ⟨w1, w2⟩ := wt a0
      obtain ⟨x0, x1, x2, x3, x4, x5, x6, x7, x8, x9, x10, x11, zx⟩ := KX.out u hb
      rw [if_pos (by rfl)]
      simp only [Oper.wpv]
      go_simp
      exact hK _ _ ⟨bL, hb, p0, p1, p2, p3, fun _ => rfl, p5, wt⟩
    · rintro L T u hd hk hcl ⟨bL, hb, p0, p1, p2, p3, p4, p5, wt⟩ K hK
      simp only [fr, Act.put, List.setIfInBounds_toArray, List.set_cons_zero, List.set_cons_succ, updO] at hK ⊢
      simp [Region.binds] at hd
      have g4 := p4 (by simp [hd])
      rw [if_pos (by rfl)]
      simp only [Oper.wpv]
      go_simp
      exact hK _ _ ⟨bL, hb, p0, p1, p2, p3, p4, fun _ => rfl, wt⟩
  · rintro L T u hl ⟨bL, hb, p0, p1, p2, p3, p4, p5, wt⟩
    simp only [fr, Act.put, List.setIfInBounds_toArray, List.set_cons_zero, List.set_cons_succ]
    have h3 := p5 (hl 5 (by decide))
    clear p0 p1 p2 p3 p4 p5 wt hAw
    rw [h3]
    clear h3
    obtain ⟨x0, x1, x2, x3, x4, x5, x6, x7, x8, x9, x10, x11, zx⟩ := KX.out u hb
    have bwu : Below w.heap.size w u := bW.trans (hb.mono bW.size)
    obtain ⟨Y, eY⟩ : ∃ Y : World, Y = u.alloc (.cells #[.int .i64 (site : Int), .int .i64 (to1 : Int), .int .i64 (label : Int), .int .i64 (pick : Int)] 3) := ⟨_, rfl⟩
    have bY : Below u.heap.size u Y := by rw [eY]; exact (Below.refl _ _).alloc (Nat.le_refl _) _
    have bx : BoxN Y u.heap.size 4 [.int .i64 (site : Int), .int .i64 (to1 : Int), .int .i64 (label : Int), .int .i64 (pick : Int)] := by rw [eY]; exact boxn_new u #[.int .i64 (site : Int), .int .i64 (to1 : Int), .int .i64 (label : Int), .int .i64 (pick : Int)] 3 4 rfl
    have hBl := HBl.out Y u.heap.size bx
    clear bx
    clear KX HBl
    rcases hk with rfl | rfl | rfl
    all_goals
      go_wp2_with (go_at_call 53; rw [← eY]; refine hBl.mono ?_; rintro e u2 ⟨rfl, bu2⟩)
      go_ret
      exact ⟨rfl, bwu.trans ((bY.trans (bu2.mono bY.size)).mono bwu.size)⟩
end Go.Proofs.YtlaagfnoepcnlaaDoor.Ln
/- The document's actLine: acts of the kinds tick, start and crash. -/
namespace Go.Proofs.YtlaagfnoepcnlaaDoor.Ln
open Go.ChangeShapes Go.WideShapes Go.ChangeAt Go.RowKit
open Go.Proofs.YtlaagfnoepcnlaaDoor.St (BoxN boxn_new own_below IsRow Elem flat flat_append own_isRow)
open Go.Proofs.YtlaagfnoepcnlaaDoor.Cn (ObAt)
open Go.Proofs.YtlaagfnoepcnlaaDoor.Dc (decS dec_ref decS_size)
set_option linter.unusedVariables false

theorem blankL_bd : ∀ (l : List Int), (∀ z ∈ l, 0 ≤ z ∧ z ≤ 9223372036854775807) → (blankL l).length ≤ 22 * l.length
  | [], _ => by simp [blankL]
  | z :: r, h => by
    have h1 := h z (by simp)
    have h2 := blankL_bd r (fun y hy => h y (by simp [hy]))
    have h3 := Lib.itoa_length_le z (by omega) (by omega)
    simp only [blankL, List.length_append, List.length_cons]
    omega
set_option maxRecDepth 100000 in
set_option maxHeartbeats 8000000 in
theorem tickLine_any (site to1 label pick : Int) (ka : Option Addr) (kl kc : Nat) (c0 c1 c2 c3 c4 : Int) (line : ByteArray) (w : World) :
    Calls Tryd.prog 27 #[.agg #[.int .i64 5, .int .i64 site, .int .i64 to1, .int .i64 label, .int .i64 pick, .slice ka kl kc, .int .i64 c0, .int .i64 c1, .int .i64 c2, .int .i64 c3, .int .i64 c4, .string line]] w fun e w' => e = .returned (.string (aWord 5 ++ ⟨#[10]⟩)) ∧ Below w.heap.size w w' := by
  obtain ⟨W, hW⟩ : ∃ W : World, W = w.alloc (.cells #[.int .i64 5, .int .i64 site, .int .i64 to1, .int .i64 label, .int .i64 pick, .slice ka kl kc, .int .i64 c0, .int .i64 c1, .int .i64 c2, .int .i64 c3, .int .i64 c4, .string line] 41) := ⟨_, rfl⟩
  have bW : Below w.heap.size w W := by rw [hW]; exact (Below.refl _ _).alloc (Nat.le_refl _) _
  have oA : ObAt W w.heap.size #[.int .i64 5, .int .i64 site, .int .i64 to1, .int .i64 label, .int .i64 pick, .slice ka kl kc, .int .i64 c0, .int .i64 c1, .int .i64 c2, .int .i64 c3, .int .i64 c4, .string line] 41 := by rw [hW]; exact ObAt.new w _ _
  have KX : Hid (∀ U, Below W.heap.size W U → U.cell? ⟨w.heap.size, 0, none⟩ = some (.int .i64 5) ∧ U.cell? ⟨w.heap.size, 1, none⟩ = some (.int .i64 site) ∧ U.cell? ⟨w.heap.size, 2, none⟩ = some (.int .i64 to1) ∧ U.cell? ⟨w.heap.size, 3, none⟩ = some (.int .i64 label) ∧ U.cell? ⟨w.heap.size, 4, none⟩ = some (.int .i64 pick) ∧ U.cell? ⟨w.heap.size, 5, none⟩ = some (.slice ka kl kc) ∧ U.cell? ⟨w.heap.size, 6, none⟩ = some (.int .i64 c0) ∧ U.cell? ⟨w.heap.size, 7, none⟩ = some (.int .i64 c1) ∧ U.cell? ⟨w.heap.size, 8, none⟩ = some (.int .i64 c2) ∧ U.cell? ⟨w.heap.size, 9, none⟩ = some (.int .i64 c3) ∧ U.cell? ⟨w.heap.size, 10, none⟩ = some (.int .i64 c4) ∧ U.cell? ⟨w.heap.size, 11, none⟩ = some (.string line) ∧ w.heap.size < U.heap.size) := fun U hU => ⟨(oA.below hU).cell 0, (oA.below hU).cell 1, (oA.below hU).cell 2, (oA.below hU).cell 3, (oA.below hU).cell 4, (oA.below hU).cell 5, (oA.below hU).cell 6, (oA.below hU).cell 7, (oA.below hU).cell 8, (oA.below hU).cell 9, (oA.below hU).cell 10, (oA.below hU).cell 11, (oA.below hU).lt⟩
  have hAw : Hid (∀ U, Calls Tryd.prog 52 #[] U fun e w' => ∃ b, e = .returned (.slice (some ⟨b, 0, none⟩) 9 9) ∧ (b < w'.heap.size ∧ w'.cell? ⟨b, 5, none⟩ = some (.string (aWord 5))) ∧ Below U.heap.size U w') := fun U => (awRef_any U).mono fun e w' ⟨b, h1, h2, h3⟩ => ⟨b, h1, ⟨h2.1, h2.2 5 (by omega)⟩, h3⟩
  have hsz := aWord_sz 5
  obtain ⟨S0, eS0⟩ : ∃ x, x = aWord 5 := ⟨_, rfl⟩
  rw [← eS0] at hAw hsz ⊢
  clear eS0 oA
  have z1 : ¬ (9223372036854775807 < S0.size + 1) := by omega
  obtain ⟨T1, t1⟩ : ∃ x : ByteArray, S0 ++ ⟨#[10]⟩ = x := ⟨_, rfl⟩
  rw [t1]
  go_enter Tryd.func27, Tryd.ntmps27
  go_upto_region 1 with (fail)
  rw [← hW]
  clear hW
  refine wp_region_inv (by kernel_rfl) [7, 8, 9, 10, 11, 3] (fun L T u => ∃ (bL : Nat), Below W.heap.size W u ∧ (L 0 = true → T 7 = .slice (some ⟨bL, 0, none⟩) 9 9) ∧ (L 1 = true → T 8 = .pointer (some ⟨w.heap.size, 0, none⟩)) ∧ (L 2 = true → T 9 = .int .i64 5) ∧ (L 3 = true → T 10 = .pointer (some ⟨bL, 5, none⟩)) ∧ (L 4 = true → T 11 = .string S0) ∧ (L 5 = true → T 3 = .string S0) ∧ (L 0 = true → (bL < u.heap.size ∧ u.cell? ⟨bL, 5, none⟩ = some (.string S0)))) (by decide) (by kernel_rfl) (by kernel_rfl) ?_ ?_ ?_
  · exact ⟨0, (Below.refl _ _).drew, nofun, nofun, nofun, nofun, nofun, nofun, nofun⟩
  · refine ⟨?_, ?_, ?_, ?_, ?_, ?_, trivial⟩
    · rintro L T u hd hk hcl ⟨bL, hb, p0, p1, p2, p3, p4, p5, wt⟩ K hK
      simp only [fr, Act.put, List.setIfInBounds_toArray, List.set_cons_zero, List.set_cons_succ, updO] at hK ⊢
      simp [Region.binds] at hd
      have k3 := hcl 3 _ rfl
      simp [Region.binds] at k3
      have k4 := hcl 4 _ rfl
      simp [Region.binds] at k4
      have k5 := hcl 5 _ rfl
      simp [Region.binds] at k5
      rw [if_pos (by rfl)]
      simp only [Oper.wpv]
      go_simp
      refine (hAw.out u).mono ?_
      rintro e u1 ⟨b8, rfl, h8, hg⟩
      exact hK _ _ ⟨b8, sT hb hg, fun _ => rfl, p1, p2, fun h => absurd (show L 3 = true from h) (by intro hh; have a3 := k3 hh; simp [hk] at a3), fun h => absurd (show L 4 = true from h) (by intro hh; have a4 := k4 hh; have a3 := k3 (by simp [a4]); simp [hk] at a3), fun h => absurd (show L 5 = true from h) (by intro hh; have a5 := k5 hh; have a4 := k4 (by simp [a5]); have a3 := k3 (by simp [a4]); simp [hk] at a3), fun _ => h8⟩
    · rintro L T u hd hk hcl ⟨bL, hb, p0, p1, p2, p3, p4, p5, wt⟩ K hK
      simp only [fr, Act.put, List.setIfInBounds_toArray, List.set_cons_zero, List.set_cons_succ, updO] at hK ⊢
      simp [Region.binds] at hd
      rw [if_pos (by rfl)]
      simp only [Oper.wpv]
      go_simp
      exact hK _ _ ⟨bL, hb, p0, fun _ => rfl, p2, p3, p4, p5, wt⟩
    · rintro L T u hd hk hcl ⟨bL, hb, p0, p1, p2, p3, p4, p5, wt⟩ K hK
      simp only [fr, Act.put, List.setIfInBounds_toArray, List.set_cons_zero, List.set_cons_succ, updO] at hK ⊢
      simp [Region.binds] at hd
      have g1 := p1 (by simp [hd])
      obtain ⟨x0, x1, x2, x3, x4, x5, x6, x7, x8, x9, x10, x11, zx⟩ := KX.out u hb
      rw [if_pos (by rfl)]
      simp only [Oper.wpv]
      go_simp
      exact hK _ _ ⟨bL, hb, p0, p1, fun _ => rfl, p3, p4, p5, wt⟩
    · rintro L T u hd hk hcl ⟨bL, hb, p0, p1, p2, p3, p4, p5, wt⟩ K hK
      simp only [fr, Act.put, List.setIfInBounds_toArray, List.set_cons_zero, List.set_cons_succ, updO] at hK ⊢
      simp [Region.binds] at hd
      have g0 := p0 (by simp [hd])
      have g2 := p2 (by simp [hd])
      rw [if_pos (by rfl)]
      simp only [Oper.wpv]
      go_simp
      exact hK _ _ ⟨bL, hb, p0, p1, p2, fun _ => rfl, p4, p5, wt⟩
    · rintro L T u hd hk hcl ⟨bL, hb, p0, p1, p2, p3, p4, p5, wt⟩ K hK
      simp only [fr, Act.put, List.setIfInBounds_toArray, List.set_cons_zero, List.set_cons_succ, updO] at hK ⊢
      simp [Region.binds] at hd
      have g3 := p3 (by simp [hd])
      have k3 := hcl 3 _ rfl
      simp [Region.binds] at k3
      have a3 : L 3 = true := by simp [hd]
      have a0 : L 0 = true := by simp [k3 a3]
      obtain ⟨w1, w2⟩ := wt a0
      obtain ⟨x0, x1, x2, x3, x4, x5, x6, x7, x8, x9, x10, x11, zx⟩ := KX.out u hb
      rw [if_pos (by rfl)]
      simp only [Oper.wpv]
      go_simp
      exact hK _ _ ⟨bL, hb, p0, p1, p2, p3, fun _ => rfl, p5, wt⟩
    · rintro L T u hd hk hcl ⟨bL, hb, p0, p1, p2, p3, p4, p5, wt⟩ K hK
      simp only [fr, Act.put, List.setIfInBounds_toArray, List.set_cons_zero, List.set_cons_succ, updO] at hK ⊢
      simp [Region.binds] at hd
      have g4 := p4 (by simp [hd])
      rw [if_pos (by rfl)]
      simp only [Oper.wpv]
      go_simp
      exact hK _ _ ⟨bL, hb, p0, p1, p2, p3, p4, fun _ => rfl, wt⟩
  · rintro L T u hl ⟨bL, hb, p0, p1, p2, p3, p4, p5, wt⟩
    simp only [fr, Act.put, List.setIfInBounds_toArray, List.set_cons_zero, List.set_cons_succ]
    have h3 := p5 (hl 5 (by decide))
    clear p0 p1 p2 p3 p4 p5 wt hAw
    rw [h3]
    clear h3
    have bwu : Below w.heap.size w u := bW.trans (hb.mono bW.size)
    clear bW
    obtain ⟨x0, x1, x2, x3, x4, x5, x6, x7, x8, x9, x10, x11, zx⟩ := KX.out u hb
    clear KX
    go_wp2
    go_ret
    exact ⟨rfl, bwu⟩
set_option maxRecDepth 100000 in
set_option maxHeartbeats 8000000 in
theorem startLine_any (site : Nat) (to1 label pick : Int) (ka : Option Addr) (kl kc : Nat) (c0 c1 c2 c3 c4 : Int) (line : ByteArray) (w : World) (hs : site ≤ 1048576) :
    Calls Tryd.prog 27 #[.agg #[.int .i64 7, .int .i64 (site : Int), .int .i64 to1, .int .i64 label, .int .i64 pick, .slice ka kl kc, .int .i64 c0, .int .i64 c1, .int .i64 c2, .int .i64 c3, .int .i64 c4, .string line]] w fun e w' => e = .returned (.string (aWord 7 ++ blankS [(site : Int)] ++ ⟨#[10]⟩)) ∧ Below w.heap.size w w' := by
  obtain ⟨W, hW⟩ : ∃ W : World, W = w.alloc (.cells #[.int .i64 7, .int .i64 (site : Int), .int .i64 to1, .int .i64 label, .int .i64 pick, .slice ka kl kc, .int .i64 c0, .int .i64 c1, .int .i64 c2, .int .i64 c3, .int .i64 c4, .string line] 41) := ⟨_, rfl⟩
  have bW : Below w.heap.size w W := by rw [hW]; exact (Below.refl _ _).alloc (Nat.le_refl _) _
  have oA : ObAt W w.heap.size #[.int .i64 7, .int .i64 (site : Int), .int .i64 to1, .int .i64 label, .int .i64 pick, .slice ka kl kc, .int .i64 c0, .int .i64 c1, .int .i64 c2, .int .i64 c3, .int .i64 c4, .string line] 41 := by rw [hW]; exact ObAt.new w _ _
  have KX : Hid (∀ U, Below W.heap.size W U → U.cell? ⟨w.heap.size, 0, none⟩ = some (.int .i64 7) ∧ U.cell? ⟨w.heap.size, 1, none⟩ = some (.int .i64 (site : Int)) ∧ U.cell? ⟨w.heap.size, 2, none⟩ = some (.int .i64 to1) ∧ U.cell? ⟨w.heap.size, 3, none⟩ = some (.int .i64 label) ∧ U.cell? ⟨w.heap.size, 4, none⟩ = some (.int .i64 pick) ∧ U.cell? ⟨w.heap.size, 5, none⟩ = some (.slice ka kl kc) ∧ U.cell? ⟨w.heap.size, 6, none⟩ = some (.int .i64 c0) ∧ U.cell? ⟨w.heap.size, 7, none⟩ = some (.int .i64 c1) ∧ U.cell? ⟨w.heap.size, 8, none⟩ = some (.int .i64 c2) ∧ U.cell? ⟨w.heap.size, 9, none⟩ = some (.int .i64 c3) ∧ U.cell? ⟨w.heap.size, 10, none⟩ = some (.int .i64 c4) ∧ U.cell? ⟨w.heap.size, 11, none⟩ = some (.string line) ∧ w.heap.size < U.heap.size) := fun U hU => ⟨(oA.below hU).cell 0, (oA.below hU).cell 1, (oA.below hU).cell 2, (oA.below hU).cell 3, (oA.below hU).cell 4, (oA.below hU).cell 5, (oA.below hU).cell 6, (oA.below hU).cell 7, (oA.below hU).cell 8, (oA.below hU).cell 9, (oA.below hU).cell 10, (oA.below hU).cell 11, (oA.below hU).lt⟩
  have hAw : Hid (∀ U, Calls Tryd.prog 52 #[] U fun e w' => ∃ b, e = .returned (.slice (some ⟨b, 0, none⟩) 9 9) ∧ (b < w'.heap.size ∧ w'.cell? ⟨b, 7, none⟩ = some (.string (aWord 7))) ∧ Below U.heap.size U w') := fun U => (awRef_any U).mono fun e w' ⟨b, h1, h2, h3⟩ => ⟨b, h1, ⟨h2.1, h2.2 7 (by omega)⟩, h3⟩
  have hsz := aWord_sz 7
  obtain ⟨S0, eS0⟩ : ∃ x, x = aWord 7 := ⟨_, rfl⟩
  rw [← eS0] at hAw hsz ⊢
  clear eS0 oA
  have HBl : Hid (∀ U b, BoxN U b 1 [.int .i64 (site : Int)] → Calls Tryd.prog 53 #[.slice (some ⟨b, 0, none⟩) 1 1] U fun e w' => e = .returned (.string (blankS [(site : Int)])) ∧ Below U.heap.size U w') := fun U b bx => blanked_any (some ⟨b, 0, none⟩) 1 1 [(site : Int)] U (by omega) rfl (fun z hz => by simp at hz; omega) (fun _ => ⟨_, 0, rfl, bx.lt, fun i hi => by
      rw [Nat.zero_add, (bx.c i (by omega)).1]
      obtain rfl : i = 0 := by omega
      rfl⟩)
  have hbs : (blankS [(site : Int)]).size ≤ 22 := by
    show (blankL [(site : Int)]).toArray.size ≤ 22
    rw [List.size_toArray]
    exact blankL_bd [(site : Int)] (fun z hz => by simp at hz; omega)
  obtain ⟨BS, eBS⟩ : ∃ x, x = blankS [(site : Int)] := ⟨_, rfl⟩
  rw [← eBS] at HBl hbs ⊢
  obtain ⟨T1, t1⟩ : ∃ x : ByteArray, S0 ++ BS = x := ⟨_, rfl⟩
  have s1 : T1.size = S0.size + BS.size := by rw [← t1, ByteArray.size_append]
  have z1 : ¬ (9223372036854775807 < S0.size + BS.size) := by omega
  have z2 : ¬ (9223372036854775807 < T1.size + 1) := by omega
  rw [t1]
  clear eBS hsz hbs s1
  go_enter Tryd.func27, Tryd.ntmps27
  go_upto_region 1 with (fail)
  rw [← hW]
  clear hW
  refine wp_region_inv (by kernel_rfl) [7, 8, 9, 10, 11, 3] (fun L T u => ∃ (bL : Nat), Below W.heap.size W u ∧ (L 0 = true → T 7 = .slice (some ⟨bL, 0, none⟩) 9 9) ∧ (L 1 = true → T 8 = .pointer (some ⟨w.heap.size, 0, none⟩)) ∧ (L 2 = true → T 9 = .int .i64 7) ∧ (L 3 = true → T 10 = .pointer (some ⟨bL, 7, none⟩)) ∧ (L 4 = true → T 11 = .string S0) ∧ (L 5 = true → T 3 = .string S0) ∧ (L 0 = true → (bL < u.heap.size ∧ u.cell? ⟨bL, 7, none⟩ = some (.string S0)))) (by decide) (by kernel_rfl) (by kernel_rfl) ?_ ?_ ?_
  · exact ⟨0, (Below.refl _ _).drew, nofun, nofun, nofun, nofun, nofun, nofun, nofun⟩
  · refine ⟨?_, ?_, ?_, ?_, ?_, ?_, trivial⟩
    · rintro L T u hd hk hcl ⟨bL, hb, p0, p1, p2, p3, p4, p5, wt⟩ K hK
      simp only [fr, Act.put, List.setIfInBounds_toArray, List.set_cons_zero, List.set_cons_succ, updO] at hK ⊢
      simp [Region.binds] at hd
      have k3 := hcl 3 _ rfl
      simp [Region.binds] at k3
      have k4 := hcl 4 _ rfl
      simp [Region.binds] at k4
      have k5 := hcl 5 _ rfl
      simp [Region.binds] at k5
      rw [if_pos (by rfl)]
      simp only [Oper.wpv]
      go_simp
      refine (hAw.out u).mono ?_
      rintro e u1 ⟨b8, rfl, h8, hg⟩
      exact hK _ _ ⟨b8, sT hb hg, fun _ => rfl, p1, p2, fun h => absurd (show L 3 = true from h) (by intro hh; have a3 := k3 hh; simp [hk] at a3), fun h => absurd (show L 4 = true from h) (by intro hh; have a4 := k4 hh; have a3 := k3 (by simp [a4]); simp [hk] at a3), fun h => absurd (show L 5 = true from h) (by intro hh; have a5 := k5 hh; have a4 := k4 (by simp [a5]); have a3 := k3 (by simp [a4]); simp [hk] at a3), fun _ => h8⟩
    · rintro L T u hd hk hcl ⟨bL, hb, p0, p1, p2, p3, p4, p5, wt⟩ K hK
      simp only [fr, Act.put, List.setIfInBounds_toArray, List.set_cons_zero, List.set_cons_succ, updO] at hK ⊢
      simp [Region.binds] at hd
      rw [if_pos (by rfl)]
      simp only [Oper.wpv]
      go_simp
      exact hK _ _ ⟨bL, hb, p0, fun _ => rfl, p2, p3, p4, p5, wt⟩
    · rintro L T u hd hk hcl ⟨bL, hb, p0, p1, p2, p3, p4, p5, wt⟩ K hK
      simp only [fr, Act.put, List.setIfInBounds_toArray, List.set_cons_zero, List.set_cons_succ, updO] at hK ⊢
      simp [Region.binds] at hd
      have g1 := p1 (by simp [hd])
      obtain ⟨x0, x1, x2, x3, x4, x5, x6, x7, x8, x9, x10, x11, zx⟩ := KX.out u hb
      rw [if_pos (by rfl)]
      simp only [Oper.wpv]
      go_simp
      exact hK _ _ ⟨bL, hb, p0, p1, fun _ => rfl, p3, p4, p5, wt⟩
    · rintro L T u hd hk hcl ⟨bL, hb, p0, p1, p2, p3, p4, p5, wt⟩ K hK
      simp only [fr, Act.put, List.setIfInBounds_toArray, List.set_cons_zero, List.set_cons_succ, updO] at hK ⊢
      simp [Region.binds] at hd
      have g0 := p0 (by simp [hd])
      have g2 := p2 (by simp [hd])
      rw [if_pos (by rfl)]
      simp only [Oper.wpv]
      go_simp
      exact hK _ _ ⟨bL, hb, p0, p1, p2, fun _ => rfl, p4, p5, wt⟩
    · rintro L T u hd hk hcl ⟨bL, hb, p0, p1, p2, p3, p4, p5, wt⟩ K hK
      simp only [fr, Act.put, List.setIfInBounds_toArray, List.set_cons_zero, List.set_cons_succ, updO] at hK ⊢
      simp [Region.binds] at hd
      have g3 := p3 (by simp [hd])
      have k3 := hcl 3 _ rfl
      simp [Region.binds] at k3
      have a3 : L 3 = true := by simp [hd]
      have a0 : L 0 = true := by simp [k3 a3]
      obtain ⟨w1, w2⟩ := wt a0
      obtain ⟨x0, x1, x2, x3, x4, x5, x6, x7, x8, x9, x10, x11, zx⟩ := KX.out u hb
      rw [if_pos (by rfl)]
      simp only [Oper.wpv]
      go_simp
      exact hK _ _ ⟨bL, hb, p0, p1, p2, p3, fun _ => rfl, p5, wt⟩
    · rintro L T u hd hk hcl ⟨bL, hb, p0, p1, p2, p3, p4, p5, wt⟩ K hK
      simp only [fr, Act.put, List.setIfInBounds_toArray, List.set_cons_zero, List.set_cons_succ, updO] at hK ⊢
      simp [Region.binds] at hd
      have g4 := p4 (by simp [hd])
      rw [if_pos (by rfl)]
      simp only [Oper.wpv]
      go_simp
      exact hK _ _ ⟨bL, hb, p0, p1, p2, p3, p4, fun _ => rfl, wt⟩
  · rintro L T u hl ⟨bL, hb, p0, p1, p2, p3, p4, p5, wt⟩
    simp only [fr, Act.put, List.setIfInBounds_toArray, List.set_cons_zero, List.set_cons_succ]
    have h3 := p5 (hl 5 (by decide))
    clear p0 p1 p2 p3 p4 p5 wt hAw
    rw [h3]
    clear h3
    have bwu : Below w.heap.size w u := bW.trans (hb.mono bW.size)
    clear bW
    obtain ⟨x0, x1, x2, x3, x4, x5, x6, x7, x8, x9, x10, x11, zx⟩ := KX.out u hb
    obtain ⟨Y, eY⟩ : ∃ Y : World, Y = u.alloc (.cells #[.int .i64 (site : Int)] 3) := ⟨_, rfl⟩
    have bY : Below u.heap.size u Y := by rw [eY]; exact (Below.refl _ _).alloc (Nat.le_refl _) _
    have bx : BoxN Y u.heap.size 1 [.int .i64 (site : Int)] := by rw [eY]; exact boxn_new u #[.int .i64 (site : Int)] 3 1 rfl
    have hBl := HBl.out Y u.heap.size bx
    clear bx KX HBl
    go_wp2_with (go_at_call 53; rw [← eY]; refine hBl.mono ?_; rintro e u2 ⟨rfl, bu2⟩)
    go_ret
    exact ⟨rfl, bwu.trans ((bY.trans (bu2.mono bY.size)).mono bwu.size)⟩
set_option maxRecDepth 100000 in
set_option maxHeartbeats 8000000 in
theorem crashLine_any (site : Nat) (to1 label pick : Int) (ka : Option Addr) (kl kc : Nat) (c0 c1 c2 c3 c4 : Int) (line : ByteArray) (keep : List Int) (w : World) (hs : site ≤ 1048576) (hkp : IsInts w ka kl kc keep) (hkl : kl ≤ 6) (hkn : ∀ z ∈ keep, 0 ≤ z ∧ z ≤ 9223372036854775807) :
    Calls Tryd.prog 27 #[.agg #[.int .i64 6, .int .i64 (site : Int), .int .i64 to1, .int .i64 label, .int .i64 pick, .slice ka kl kc, .int .i64 c0, .int .i64 c1, .int .i64 c2, .int .i64 c3, .int .i64 c4, .string line]] w fun e w' => e = .returned (.string (aWord 6 ++ blankS [(site : Int)] ++ blankS keep ++ ⟨#[10]⟩)) ∧ Below w.heap.size w w' := by
  obtain ⟨W, hW⟩ : ∃ W : World, W = w.alloc (.cells #[.int .i64 6, .int .i64 (site : Int), .int .i64 to1, .int .i64 label, .int .i64 pick, .slice ka kl kc, .int .i64 c0, .int .i64 c1, .int .i64 c2, .int .i64 c3, .int .i64 c4, .string line] 41) := ⟨_, rfl⟩
  have bW : Below w.heap.size w W := by rw [hW]; exact (Below.refl _ _).alloc (Nat.le_refl _) _
  have oA : ObAt W w.heap.size #[.int .i64 6, .int .i64 (site : Int), .int .i64 to1, .int .i64 label, .int .i64 pick, .slice ka kl kc, .int .i64 c0, .int .i64 c1, .int .i64 c2, .int .i64 c3, .int .i64 c4, .string line] 41 := by rw [hW]; exact ObAt.new w _ _
  have KX : Hid (∀ U, Below W.heap.size W U → U.cell? ⟨w.heap.size, 0, none⟩ = some (.int .i64 6) ∧ U.cell? ⟨w.heap.size, 1, none⟩ = some (.int .i64 (site : Int)) ∧ U.cell? ⟨w.heap.size, 2, none⟩ = some (.int .i64 to1) ∧ U.cell? ⟨w.heap.size, 3, none⟩ = some (.int .i64 label) ∧ U.cell? ⟨w.heap.size, 4, none⟩ = some (.int .i64 pick) ∧ U.cell? ⟨w.heap.size, 5, none⟩ = some (.slice ka kl kc) ∧ U.cell? ⟨w.heap.size, 6, none⟩ = some (.int .i64 c0) ∧ U.cell? ⟨w.heap.size, 7, none⟩ = some (.int .i64 c1) ∧ U.cell? ⟨w.heap.size, 8, none⟩ = some (.int .i64 c2) ∧ U.cell? ⟨w.heap.size, 9, none⟩ = some (.int .i64 c3) ∧ U.cell? ⟨w.heap.size, 10, none⟩ = some (.int .i64 c4) ∧ U.cell? ⟨w.heap.size, 11, none⟩ = some (.string line) ∧ w.heap.size < U.heap.size) := fun U hU => ⟨(oA.below hU).cell 0, (oA.below hU).cell 1, (oA.below hU).cell 2, (oA.below hU).cell 3, (oA.below hU).cell 4, (oA.below hU).cell 5, (oA.below hU).cell 6, (oA.below hU).cell 7, (oA.below hU).cell 8, (oA.below hU).cell 9, (oA.below hU).cell 10, (oA.below hU).cell 11, (oA.below hU).lt⟩
  have hAw : Hid (∀ U, Calls Tryd.prog 52 #[] U fun e w' => ∃ b, e = .returned (.slice (some ⟨b, 0, none⟩) 9 9) ∧ (b < w'.heap.size ∧ w'.cell? ⟨b, 6, none⟩ = some (.string (aWord 6))) ∧ Below U.heap.size U w') := fun U => (awRef_any U).mono fun e w' ⟨b, h1, h2, h3⟩ => ⟨b, h1, ⟨h2.1, h2.2 6 (by omega)⟩, h3⟩
  have hsz := aWord_sz 6
  obtain ⟨S0, eS0⟩ : ∃ x, x = aWord 6 := ⟨_, rfl⟩
  rw [← eS0] at hAw hsz ⊢
  clear eS0 oA
  have HBl : Hid (∀ U b, BoxN U b 1 [.int .i64 (site : Int)] → Calls Tryd.prog 53 #[.slice (some ⟨b, 0, none⟩) 1 1] U fun e w' => e = .returned (.string (blankS [(site : Int)])) ∧ Below U.heap.size U w') := fun U b bx => blanked_any (some ⟨b, 0, none⟩) 1 1 [(site : Int)] U (by omega) rfl (fun z hz => by simp at hz; omega) (fun _ => ⟨_, 0, rfl, bx.lt, fun i hi => by
      rw [Nat.zero_add, (bx.c i (by omega)).1]
      obtain rfl : i = 0 := by omega
      rfl⟩)
  have HKp : Hid (∀ U, Below W.heap.size W U → Calls Tryd.prog 53 #[.slice ka kl kc] U fun e w' => e = .returned (.string (blankS keep)) ∧ Below U.heap.size U w') := fun U hU => by
    have h := (hkp.below bW).below hU
    exact blanked_any ka kl kc keep U (by omega) h.1 hkn h.2.2.2.2
  have hbs : (blankS [(site : Int)]).size ≤ 22 := by
    show (blankL [(site : Int)]).toArray.size ≤ 22
    rw [List.size_toArray]
    exact blankL_bd [(site : Int)] (fun z hz => by simp at hz; omega)
  have hbk : (blankS keep).size ≤ 132 := by
    show (blankL keep).toArray.size ≤ 132
    rw [List.size_toArray]
    have := blankL_bd keep hkn
    have := hkp.1
    omega
  obtain ⟨BS, eBS⟩ : ∃ x, x = blankS [(site : Int)] := ⟨_, rfl⟩
  rw [← eBS] at HBl hbs ⊢
  obtain ⟨BK, eBK⟩ : ∃ x, x = blankS keep := ⟨_, rfl⟩
  rw [← eBK] at HKp hbk ⊢
  obtain ⟨T1, t1⟩ : ∃ x : ByteArray, S0 ++ BS = x := ⟨_, rfl⟩
  have s1 : T1.size = S0.size + BS.size := by rw [← t1, ByteArray.size_append]
  rw [t1]
  obtain ⟨T2, t2⟩ : ∃ x : ByteArray, T1 ++ BK = x := ⟨_, rfl⟩
  have s2 : T2.size = T1.size + BK.size := by rw [← t2, ByteArray.size_append]
  rw [t2]
  have HZ1 : Hid (S0 ++ BS = T1 ∧ ¬ (9223372036854775807 < S0.size + BS.size)) := ⟨t1, by omega⟩
  have HZ2 : Hid (T1 ++ BK = T2 ∧ ¬ (9223372036854775807 < T1.size + BK.size)) := ⟨t2, by omega⟩
  have z3 : ¬ (9223372036854775807 < T2.size + 1) := by omega
  clear eBS eBK hsz hbs hbk s1 s2 t1 t2 hkp
  go_enter Tryd.func27, Tryd.ntmps27
  go_upto_region 1 with (fail)
  rw [← hW]
  clear hW
  refine wp_region_inv (by kernel_rfl) [7, 8, 9, 10, 11, 3] (fun L T u => ∃ (bL : Nat), Below W.heap.size W u ∧ (L 0 = true → T 7 = .slice (some ⟨bL, 0, none⟩) 9 9) ∧ (L 1 = true → T 8 = .pointer (some ⟨w.heap.size, 0, none⟩)) ∧ (L 2 = true → T 9 = .int .i64 6) ∧ (L 3 = true → T 10 = .pointer (some ⟨bL, 6, none⟩)) ∧ (L 4 = true → T 11 = .string S0) ∧ (L 5 = true → T 3 = .string S0) ∧ (L 0 = true → (bL < u.heap.size ∧ u.cell? ⟨bL, 6, none⟩ = some (.string S0)))) (by decide) (by kernel_rfl) (by kernel_rfl) ?_ ?_ ?_
  · exact ⟨0, (Below.refl _ _).drew, nofun, nofun, nofun, nofun, nofun, nofun, nofun⟩
  · refine ⟨?_, ?_, ?_, ?_, ?_, ?_, trivial⟩
    · rintro L T u hd hk hcl ⟨bL, hb, p0, p1, p2, p3, p4, p5, wt⟩ K hK
      simp only [fr, Act.put, List.setIfInBounds_toArray, List.set_cons_zero, List.set_cons_succ, updO] at hK ⊢
      simp [Region.binds] at hd
      have k3 := hcl 3 _ rfl
      simp [Region.binds] at k3
      have k4 := hcl 4 _ rfl
      simp [Region.binds] at k4
      have k5 := hcl 5 _ rfl
      simp [Region.binds] at k5
      rw [if_pos (by rfl)]
      simp only [Oper.wpv]
      go_simp
      refine (hAw.out u).mono ?_
      rintro e u1 ⟨b8, rfl, h8, hg⟩
      exact hK _ _ ⟨b8, sT hb hg, fun _ => rfl, p1, p2, fun h => absurd (show L 3 = true from h) (by intro hh; have a3 := k3 hh; simp [hk] at a3), fun h => absurd (show L 4 = true from h) (by intro hh; have a4 := k4 hh; have a3 := k3 (by simp [a4]); simp [hk] at a3), fun h => absurd (show L 5 = true from h) (by intro hh; have a5 := k5 hh; have a4 := k4 (by simp [a5]); have a3 := k3 (by simp [a4]); simp [hk] at a3), fun _ => h8⟩
    · rintro L T u hd hk hcl ⟨bL, hb, p0, p1, p2, p3, p4, p5, wt⟩ K hK
      simp only [fr, Act.put, List.setIfInBounds_toArray, List.set_cons_zero, List.set_cons_succ, updO] at hK ⊢
      simp [Region.binds] at hd
      rw [if_pos (by rfl)]
      simp only [Oper.wpv]
      go_simp
      exact hK _ _ ⟨bL, hb, p0, fun _ => rfl, p2, p3, p4, p5, wt⟩
    · rintro L T u hd hk hcl ⟨bL, hb, p0, p1, p2, p3, p4, p5, wt⟩ K hK
      simp only [fr, Act.put, List.setIfInBounds_toArray, List.set_cons_zero, List.set_cons_succ, updO] at hK ⊢
      simp [Region.binds] at hd
      have g1 := p1 (by simp [hd])
      obtain ⟨x0, x1, x2, x3, x4, x5, x6, x7, x8, x9, x10, x11, zx⟩ := KX.out u hb
      rw [if_pos (by rfl)]
      simp only [Oper.wpv]
      go_simp
      exact hK _ _ ⟨bL, hb, p0, p1, fun _ => rfl, p3, p4, p5, wt⟩
    · rintro L T u hd hk hcl ⟨bL, hb, p0, p1, p2, p3, p4, p5, wt⟩ K hK
      simp only [fr, Act.put, List.setIfInBounds_toArray, List.set_cons_zero, List.set_cons_succ, updO] at hK ⊢
      simp [Region.binds] at hd
      have g0 := p0 (by simp [hd])
      have g2 := p2 (by simp [hd])
      rw [if_pos (by rfl)]
      simp only [Oper.wpv]
      go_simp
      exact hK _ _ ⟨bL, hb, p0, p1, p2, fun _ => rfl, p4, p5, wt⟩
    · rintro L T u hd hk hcl ⟨bL, hb, p0, p1, p2, p3, p4, p5, wt⟩ K hK
      simp only [fr, Act.put, List.setIfInBounds_toArray, List.set_cons_zero, List.set_cons_succ, updO] at hK ⊢
      simp [Region.binds] at hd
      have g3 := p3 (by simp [hd])
      have k3 := hcl 3 _ rfl
      simp [Region.binds] at k3
      have a3 : L 3 = true := by simp [hd]
      have a0 : L 0 = true := by simp [k3 a3]
      obtain ⟨w1, w2⟩ := wt a0
      obtain ⟨x0, x1, x2, x3, x4, x5, x6, x7, x8, x9, x10, x11, zx⟩ := KX.out u hb
      rw [if_pos (by rfl)]
      simp only [Oper.wpv]
      go_simp
      exact hK _ _ ⟨bL, hb, p0, p1, p2, p3, fun _ => rfl, p5, wt⟩
    · rintro L T u hd hk hcl ⟨bL, hb, p0, p1, p2, p3, p4, p5, wt⟩ K hK
      simp only [fr, Act.put, List.setIfInBounds_toArray, List.set_cons_zero, List.set_cons_succ, updO] at hK ⊢
      simp [Region.binds] at hd
      have g4 := p4 (by simp [hd])
      rw [if_pos (by rfl)]
      simp only [Oper.wpv]
      go_simp
      exact hK _ _ ⟨bL, hb, p0, p1, p2, p3, p4, fun _ => rfl, wt⟩
  · rintro L T u hl ⟨bL, hb, p0, p1, p2, p3, p4, p5, wt⟩
    simp only [fr, Act.put, List.setIfInBounds_toArray, List.set_cons_zero, List.set_cons_succ]
    have h3 := p5 (hl 5 (by decide))
    clear p0 p1 p2 p3 p4 p5 wt hAw
    rw [h3]
    clear h3
    have bwu : Below w.heap.size w u := bW.trans (hb.mono bW.size)
    clear bW
    obtain ⟨x0, x1, x2, x3, x4, x5, x6, x7, x8, x9, x10, x11, zx⟩ := KX.out u hb
    obtain ⟨v0, ev0⟩ : ∃ X : World, X = u := ⟨_, rfl⟩
    subst ev0
    have hb0 := hb
    clear hb
    go_upto_region 17 with (fail)
    clear x0 x1 x2 x3 x4 x5 x6 x7 x8 x9 x10 x11 zx
    refine wp_region_inv (by kernel_rfl) [86, 87, 88, 89, 90, 91, 92, 93, 94, 95, 3] (fun L T u => ∃ (bA : Nat), Below v0.heap.size v0 u ∧ (L 0 = true → T 86 = .string S0) ∧ (L 1 = true → T 87 = .pointer (some ⟨w.heap.size, 1, none⟩)) ∧ (L 2 = true → T 88 = .int .i64 (site : Int)) ∧ (L 4 = true → T 90 = .string BS) ∧ (L 5 = true → T 91 = .string T1) ∧ (L 6 = true → T 92 = .pointer (some ⟨w.heap.size, 5, none⟩)) ∧ (L 7 = true → T 93 = .slice ka kl kc) ∧ (L 8 = true → T 94 = .string BK) ∧ (L 9 = true → T 95 = .string T2) ∧ (L 10 = true → T 3 = .string T2) ∧ (L 10 = false → T 3 = .string S0) ∧ (L 3 = true → (T 89 = .slice (some ⟨bA, 0, none⟩) 1 1 ∧ v0.heap.size ≤ bA ∧ bA < u.heap.size)) ∧ (L 3 = true → BoxN u bA 1 [.int .i64 (site : Int)])) (by decide) (by kernel_rfl) (by kernel_rfl) ?_ ?_ ?_
    · exact ⟨0, (Below.refl _ _).drew, nofun, nofun, nofun, nofun, nofun, nofun, nofun, nofun, nofun, nofun, fun _ => rfl, nofun, nofun⟩
    · refine ⟨?_, ?_, ?_, ?_, ?_, ?_, ?_, ?_, ?_, ?_, ?_, trivial⟩
      · rintro L T u hd hk hcl ⟨bA, hb, p0, p1, p2, p4, p5, p6, p7, p8, p9, p10, q3, pa3, bv3⟩ K hK
        simp only [fr, Act.put, List.setIfInBounds_toArray, List.set_cons_zero, List.set_cons_succ, updO] at hK ⊢
        simp [Region.binds] at hd
        have k10 := hcl 10 _ rfl
        simp [Region.binds] at k10
        have k9 := hcl 9 _ rfl
        simp [Region.binds] at k9
        have k5 := hcl 5 _ rfl
        simp [Region.binds] at k5
        have hF10 : L 10 = false := by cases h : L 10 with | false => rfl | true => have a10 := k10 h; have a9 := k9 (by simp [a10]); have a5 := k5 (by simp [a9]); simp [hk] at a5
        have gq3 := q3 hF10
        rw [if_pos (by rfl)]
        simp only [Oper.wpv]
        go_simp
        exact hK _ _ ⟨bA, hb, fun _ => rfl, p1, p2, p4, p5, p6, p7, p8, p9, p10, q3, pa3, bv3⟩
      · rintro L T u hd hk hcl ⟨bA, hb, p0, p1, p2, p4, p5, p6, p7, p8, p9, p10, q3, pa3, bv3⟩ K hK
        simp only [fr, Act.put, List.setIfInBounds_toArray, List.set_cons_zero, List.set_cons_succ, updO] at hK ⊢
        simp [Region.binds] at hd
        rw [if_pos (by rfl)]
        simp only [Oper.wpv]
        go_simp
        exact hK _ _ ⟨bA, hb, p0, fun _ => rfl, p2, p4, p5, p6, p7, p8, p9, p10, q3, pa3, bv3⟩
      · rintro L T u hd hk hcl ⟨bA, hb, p0, p1, p2, p4, p5, p6, p7, p8, p9, p10, q3, pa3, bv3⟩ K hK
        simp only [fr, Act.put, List.setIfInBounds_toArray, List.set_cons_zero, List.set_cons_succ, updO] at hK ⊢
        simp [Region.binds] at hd
        have g1 := p1 (by simp [hd])
        obtain ⟨x0, x1, x2, x3, x4, x5, x6, x7, x8, x9, x10, x11, zx⟩ := KX.out u (sT hb0 hb)
        rw [if_pos (by rfl)]
        simp only [Oper.wpv]
        go_simp
        exact hK _ _ ⟨bA, hb, p0, p1, fun _ => rfl, p4, p5, p6, p7, p8, p9, p10, q3, pa3, bv3⟩
      · rintro L T u hd hk hcl ⟨bA, hb, p0, p1, p2, p4, p5, p6, p7, p8, p9, p10, q3, pa3, bv3⟩ K hK
        simp only [fr, Act.put, List.setIfInBounds_toArray, List.set_cons_zero, List.set_cons_succ, updO] at hK ⊢
        simp [Region.binds] at hd
        have g2 := p2 (by simp [hd])
        have k4 := hcl 4 _ rfl
        simp [Region.binds] at k4
        have k5 := hcl 5 _ rfl
        simp [Region.binds] at k5
        have k9 := hcl 9 _ rfl
        simp [Region.binds] at k9
        have k10 := hcl 10 _ rfl
        simp [Region.binds] at k10
        have hg : Below u.heap.size u (u.alloc (.cells #[.int .i64 (site : Int)] 3)) := (Below.refl _ _).alloc (Nat.le_refl _) _
        rw [if_pos (by rfl)]
        simp only [Oper.wpv]
        go_simp
        exact hK _ _ ⟨u.heap.size, (sT hb hg), p0, p1, p2, fun h => absurd (show L 4 = true from h) (by intro hh; have a4 := k4 hh; simp [hk] at a4), fun h => absurd (show L 5 = true from h) (by intro hh; have a5 := k5 hh; have a4 := k4 (by simp [a5]); simp [hk] at a4), p6, p7, p8, fun h => absurd (show L 9 = true from h) (by intro hh; have a9 := k9 hh; have a5 := k5 (by simp [a9]); have a4 := k4 (by simp [a5]); simp [hk] at a4), fun h => absurd (show L 10 = true from h) (by intro hh; have a10 := k10 hh; have a9 := k9 (by simp [a10]); have a5 := k5 (by simp [a9]); have a4 := k4 (by simp [a5]); simp [hk] at a4), q3, fun _ => ⟨rfl, hb.size, by simp⟩, fun _ => boxn_new u #[.int .i64 (site : Int)] 3 1 rfl⟩
      · rintro L T u hd hk hcl ⟨bA, hb, p0, p1, p2, p4, p5, p6, p7, p8, p9, p10, q3, pa3, bv3⟩ K hK
        simp only [fr, Act.put, List.setIfInBounds_toArray, List.set_cons_zero, List.set_cons_succ, updO] at hK ⊢
        simp [Region.binds] at hd
        have g3 := pa3 (by simp [hd])
        rw [if_pos (by rfl)]
        simp only [Oper.wpv]
        go_simp
        refine (HBl.out u bA (bv3 (by simp [hd]))).mono ?_
        rintro e u1 ⟨rfl, hg⟩
        exact hK _ _ ⟨bA, sT hb hg, p0, p1, p2, fun _ => rfl, p5, p6, p7, p8, p9, p10, q3, fun h0 => ⟨(pa3 h0).1, (pa3 h0).2.1, Nat.lt_of_lt_of_le (pa3 h0).2.2 hg.size⟩, fun h0 => (bv3 h0).below hg (bv3 h0).lt⟩
      · rintro L T u hd hk hcl ⟨bA, hb, p0, p1, p2, p4, p5, p6, p7, p8, p9, p10, q3, pa3, bv3⟩ K hK
        simp only [fr, Act.put, List.setIfInBounds_toArray, List.set_cons_zero, List.set_cons_succ, updO] at hK ⊢
        simp [Region.binds] at hd
        have g0 := p0 (by simp [hd])
        have g4 := p4 (by simp [hd])
        obtain ⟨q1, q2⟩ := HZ1.out
        rw [if_pos (by rfl)]
        simp only [Oper.wpv]
        go_simp
        exact hK _ _ ⟨bA, hb, p0, p1, p2, p4, fun _ => rfl, p6, p7, p8, p9, p10, q3, pa3, bv3⟩
      · rintro L T u hd hk hcl ⟨bA, hb, p0, p1, p2, p4, p5, p6, p7, p8, p9, p10, q3, pa3, bv3⟩ K hK
        simp only [fr, Act.put, List.setIfInBounds_toArray, List.set_cons_zero, List.set_cons_succ, updO] at hK ⊢
        simp [Region.binds] at hd
        rw [if_pos (by rfl)]
        simp only [Oper.wpv]
        go_simp
        exact hK _ _ ⟨bA, hb, p0, p1, p2, p4, p5, fun _ => rfl, p7, p8, p9, p10, q3, pa3, bv3⟩
      · rintro L T u hd hk hcl ⟨bA, hb, p0, p1, p2, p4, p5, p6, p7, p8, p9, p10, q3, pa3, bv3⟩ K hK
        simp only [fr, Act.put, List.setIfInBounds_toArray, List.set_cons_zero, List.set_cons_succ, updO] at hK ⊢
        simp [Region.binds] at hd
        have g6 := p6 (by simp [hd])
        obtain ⟨x0, x1, x2, x3, x4, x5, x6, x7, x8, x9, x10, x11, zx⟩ := KX.out u (sT hb0 hb)
        rw [if_pos (by rfl)]
        simp only [Oper.wpv]
        go_simp
        exact hK _ _ ⟨bA, hb, p0, p1, p2, p4, p5, p6, fun _ => rfl, p8, p9, p10, q3, pa3, bv3⟩
      · rintro L T u hd hk hcl ⟨bA, hb, p0, p1, p2, p4, p5, p6, p7, p8, p9, p10, q3, pa3, bv3⟩ K hK
        simp only [fr, Act.put, List.setIfInBounds_toArray, List.set_cons_zero, List.set_cons_succ, updO] at hK ⊢
        simp [Region.binds] at hd
        have g7 := p7 (by simp [hd])
        rw [if_pos (by rfl)]
        simp only [Oper.wpv]
        go_simp
        refine (HKp.out u (sT hb0 hb)).mono ?_
        rintro e u1 ⟨rfl, hg⟩
        exact hK _ _ ⟨bA, sT hb hg, p0, p1, p2, p4, p5, p6, p7, fun _ => rfl, p9, p10, q3, fun h0 => ⟨(pa3 h0).1, (pa3 h0).2.1, Nat.lt_of_lt_of_le (pa3 h0).2.2 hg.size⟩, fun h0 => (bv3 h0).below hg (bv3 h0).lt⟩
      · rintro L T u hd hk hcl ⟨bA, hb, p0, p1, p2, p4, p5, p6, p7, p8, p9, p10, q3, pa3, bv3⟩ K hK
        simp only [fr, Act.put, List.setIfInBounds_toArray, List.set_cons_zero, List.set_cons_succ, updO] at hK ⊢
        simp [Region.binds] at hd
        have g5 := p5 (by simp [hd])
        have g8 := p8 (by simp [hd])
        obtain ⟨q1, q2⟩ := HZ2.out
        rw [if_pos (by rfl)]
        simp only [Oper.wpv]
        go_simp
        exact hK _ _ ⟨bA, hb, p0, p1, p2, p4, p5, p6, p7, p8, fun _ => rfl, p10, q3, pa3, bv3⟩
      · rintro L T u hd hk hcl ⟨bA, hb, p0, p1, p2, p4, p5, p6, p7, p8, p9, p10, q3, pa3, bv3⟩ K hK
        simp only [fr, Act.put, List.setIfInBounds_toArray, List.set_cons_zero, List.set_cons_succ, updO] at hK ⊢
        simp [Region.binds] at hd
        have g9 := p9 (by simp [hd])
        rw [if_pos (by rfl)]
        simp only [Oper.wpv]
        go_simp
        exact hK _ _ ⟨bA, hb, p0, p1, p2, p4, p5, p6, p7, p8, p9, fun _ => rfl, fun h => Bool.noConfusion (show true = false from h), pa3, bv3⟩
    · rintro L T u hl ⟨bA, hb, p0, p1, p2, p4, p5, p6, p7, p8, p9, p10, q3, pa3, bv3⟩
      simp only [fr, Act.put, List.setIfInBounds_toArray, List.set_cons_zero, List.set_cons_succ]
      have h3 := p10 (hl 10 (by decide))
      clear p0 p1 p2 p4 p5 p6 p7 p8 p9 p10 q3 pa3 bv3 HBl HKp HZ1 HZ2 KX
      rw [h3]
      go_wp2
      go_ret
      exact ⟨rfl, bwu.trans (hb.mono bwu.size)⟩
end Go.Proofs.YtlaagfnoepcnlaaDoor.Ln
