/- Texts of this claim, one behind the other. -/
import Derived.Test.YtlaagfnoepcnlaaDoorM13LinesShows
import Derived.Test.YtlaagfnoepcnlaaDoorM14LinesShows
import Derived.Test.YtlaagfnoepcnlaaDoorM7LinesShows
import Derived.Test.YtlaagfnoepcnlaaDoorA3LinesShows
import Derived.Lib.LaidTab
import Derived.OpenShut
/- The contract of lines.checkCall. -/
namespace Go.Proofs.YtlaagfnoepcnlaaDoor.Ln
open Go.ChangeShapes Go.WideShapes Go.ChangeAt Go.RowKit
open Go.Proofs.YtlaagfnoepcnlaaDoor.St (BoxN boxn_new)
set_option linter.unusedVariables false

/-- A table of rows of n flags, as the program lays it. -/
def Tab (w : World) (g n : Nat) (t : List (List Bool)) : Prop := ∀ i j, i < t.length → j < n → w.cell? ⟨g, i * n + j, none⟩ = some (.bool ((t.getD i []).getD j false))
theorem Tab.below {w w' : World} {B g n : Nat} {t : List (List Bool)} (h : Tab w g n t) (hb : Below B w w') (hB : g < B) : Tab w' g n t := by
  intro i j hi hj
  rw [hb.cell (p := ⟨g, i * n + j, none⟩) hB]
  exact h i j hi hj
def CTops (w : World) : Prop := Nms w 3 cTops
theorem Tab.lt {w : World} {g n : Nat} {t : List (List Bool)} (h : Tab w g n t) (ht : 0 < t.length) (hn : 0 < n) : g < w.heap.size := World.block_lt_of_cell? w _ (h 0 0 ht hn)
theorem cHas_four (k : Nat) (hk : k < 6) : cHas.getD k [] = [(cHas.getD k []).getD 0 false, (cHas.getD k []).getD 1 false, (cHas.getD k []).getD 2 false, (cHas.getD k []).getD 3 false] := by
  rcases (by omega : k = 0 ∨ k = 1 ∨ k = 2 ∨ k = 3 ∨ k = 4 ∨ k = 5) with rfl | rfl | rfl | rfl | rfl | rfl <;> rfl

theorem nD {w u : World} {B : Nat} (h : Below B w u) : Below B w u.drew := h.drew
theorem nA {w u : World} (h : Below w.heap.size w u) (o : Obj) : Below w.heap.size w (u.alloc o) := h.alloc h.size o
theorem nT {w u v : World} (h : Below w.heap.size w u) (h2 : Below u.heap.size u v) : Below w.heap.size w v := h.trans (h2.mono h.size)
theorem nS {w u : World} {B : Nat} {b i : Nat} (h : Below B w u) (hb : B ≤ b) (v : Value) : Below B w (u.setCell ⟨b, i, none⟩ v) := h.setCell hb v
theorem Bools.of {w : World} {b : Nat} {hs : List Bool} {n : Nat} (h : BoxN w b n (hs.map Value.bool)) : Bools w b hs := by
  have hl := h.len
  simp at hl
  refine ⟨h.lt, fun i hi => ?_⟩
  rw [(h.c i (by omega)).1]
  simp [List.getD, hi]
theorem Nms.of {w : World} {b : Nat} {ps : List Int} {n : Nat} (h : BoxN w b n (ps.map (Value.int .i64))) : Nms w b ps := by
  have hl := h.len
  simp at hl
  refine ⟨h.lt, fun i hi => ?_⟩
  rw [(h.c i (by omega)).1]
  simp [List.getD, hi]

theorem idx4_0 (v0 v1 v2 v3 : Int) (w : World) : (Instr.index 113 (.agg #[.int .i64 v0, .int .i64 v1, .int .i64 v2, .int .i64 v3]) (.int .i64 0)).run Tryd.prog w = .ok (.int .i64 v0) w := by kernel_rfl
theorem idx4_1 (v0 v1 v2 v3 : Int) (w : World) : (Instr.index 113 (.agg #[.int .i64 v0, .int .i64 v1, .int .i64 v2, .int .i64 v3]) (.int .i64 1)).run Tryd.prog w = .ok (.int .i64 v1) w := by kernel_rfl
theorem idx4_2 (v0 v1 v2 v3 : Int) (w : World) : (Instr.index 113 (.agg #[.int .i64 v0, .int .i64 v1, .int .i64 v2, .int .i64 v3]) (.int .i64 2)).run Tryd.prog w = .ok (.int .i64 v2) w := by kernel_rfl
theorem idx4_3 (v0 v1 v2 v3 : Int) (w : World) : (Instr.index 113 (.agg #[.int .i64 v0, .int .i64 v1, .int .i64 v2, .int .i64 v3]) (.int .i64 3)).run Tryd.prog w = .ok (.int .i64 v3) w := by kernel_rfl

set_option maxRecDepth 100000 in
set_option maxHeartbeats 4000000 in
theorem checkCall_any (c0 c1 c2 c3 c4 : Int) (w : World) (hh : Tab w 2 4 cHas) (ht : CTops w) :
    Calls Tryd.prog 42 #[.agg #[.int .i64 c0, .int .i64 c1, .int .i64 c2, .int .i64 c3, .int .i64 c4]] w fun e w' => e = .returned (.int .i64 (callFault c0 c1 c2 c3 c4)) ∧ Below w.heap.size w w' := by
  have zh := hh.lt (by decide) (by decide)
  obtain ⟨F, eF⟩ : ∃ F, F = callFault c0 c1 c2 c3 c4 := ⟨_, rfl⟩
  have HF : Hid (F = callFault c0 c1 c2 c3 c4) := eF
  rw [← eF]
  clear eF
  obtain ⟨W, hW⟩ : ∃ W : World, W = w.alloc (.cells #[.int .i64 c0, .int .i64 c1, .int .i64 c2, .int .i64 c3, .int .i64 c4] 39) := ⟨_, rfl⟩
  have hB : Below w.heap.size w W := by rw [hW]; exact (Below.refl _ _).alloc (Nat.le_refl _) _
  have zW : w.heap.size < W.heap.size := by rw [hW]; simp
  have d0 : W.cell? ⟨w.heap.size, 0, none⟩ = some (.int .i64 c0) := by rw [hW]; go_simp
  have d1 : W.cell? ⟨w.heap.size, 1, none⟩ = some (.int .i64 c1) := by rw [hW]; go_simp
  have d2 : W.cell? ⟨w.heap.size, 2, none⟩ = some (.int .i64 c2) := by rw [hW]; go_simp
  have d3 : W.cell? ⟨w.heap.size, 3, none⟩ = some (.int .i64 c3) := by rw [hW]; go_simp
  have d4 : W.cell? ⟨w.heap.size, 4, none⟩ = some (.int .i64 c4) := by rw [hW]; go_simp
  go_enter Tryd.func42, Tryd.ntmps42
  go_upto_region 1 with (fail)
  rw [← hW]
  clear hW
  cases hK : inR c0 1 5 with
  | false =>
    have hf : Hid (F = 3) := by show _ = _; rw [HF.out, callFault, if_pos hK]
    go_wp2_with (go_at_call 36; refine (within_any _ _ _ _).mono ?_; rintro e u1 ⟨rfl, hu1⟩; rw [hu1]; clear hu1)
    go_ret
    exact ⟨ret_int hf.out.symm, hB⟩
  | true =>
    have kb := inR_of hK
    obtain ⟨k, rfl⟩ : ∃ k : Nat, c0 = k := ⟨c0.toNat, by omega⟩
    have k6 : k < 6 := by omega
    have k6' : (k : Int) < 6 := by omega
    have HF1 : Hid (F = if inTops cTops [c1, c2, c3, c4] = false then 2 else if only (cHas.getD k []) [c1, c2, c3, c4] = false then 4 else 0) := by
      show _ = _
      rw [HF.out, callFault, if_neg (by rw [hK]; simp), Int.toNat_natCast]
    clear HF
    go_upto_region 3 with (go_at_call 36; refine (within_any _ _ _ _).mono ?_; rintro e u1 ⟨rfl, hu1⟩; rw [hu1]; clear hu1)
    have EH := cHas_four k k6
    have f0 := (hh.below hB zh) k 0 k6 (by decide)
    have f1 := (hh.below hB zh) k 1 k6 (by decide)
    have f2 := (hh.below hB zh) k 2 k6 (by decide)
    have f3 := (hh.below hB zh) k 3 k6 (by decide)
    obtain ⟨h0, eh0⟩ : ∃ x, x = (cHas.getD k []).getD 0 false := ⟨_, rfl⟩
    obtain ⟨h1, eh1⟩ : ∃ x, x = (cHas.getD k []).getD 1 false := ⟨_, rfl⟩
    obtain ⟨h2, eh2⟩ : ∃ x, x = (cHas.getD k []).getD 2 false := ⟨_, rfl⟩
    obtain ⟨h3, eh3⟩ : ∃ x, x = (cHas.getD k []).getD 3 false := ⟨_, rfl⟩
    rw [← eh0, ← eh1, ← eh2, ← eh3] at EH
    rw [← eh0] at f0
    rw [← eh1] at f1
    rw [← eh2] at f2
    rw [← eh3] at f3
    clear eh0 eh1 eh2 eh3
    simp only [Nat.add_zero] at f0
    rw [EH] at HF1
    clear EH
    have zhW : 2 < W.heap.size := by omega

    have KC : Hid (∀ U : World, Below W.heap.size W U → (U.cell? ⟨w.heap.size, 0, none⟩ = some (.int .i64 (k : Int)) ∧ U.cell? ⟨w.heap.size, 1, none⟩ = some (.int .i64 c1) ∧ U.cell? ⟨w.heap.size, 2, none⟩ = some (.int .i64 c2) ∧ U.cell? ⟨w.heap.size, 3, none⟩ = some (.int .i64 c3) ∧ U.cell? ⟨w.heap.size, 4, none⟩ = some (.int .i64 c4)) ∧ U.cell? ⟨2, k * 4, none⟩ = some (.bool h0) ∧ U.cell? ⟨2, k * 4 + 1, none⟩ = some (.bool h1) ∧ U.cell? ⟨2, k * 4 + 2, none⟩ = some (.bool h2) ∧ U.cell? ⟨2, k * 4 + 3, none⟩ = some (.bool h3)) := fun U hU => ⟨⟨(hU.cell (p := ⟨w.heap.size, 0, none⟩) zW).trans d0, (hU.cell (p := ⟨w.heap.size, 1, none⟩) zW).trans d1, (hU.cell (p := ⟨w.heap.size, 2, none⟩) zW).trans d2, (hU.cell (p := ⟨w.heap.size, 3, none⟩) zW).trans d3, (hU.cell (p := ⟨w.heap.size, 4, none⟩) zW).trans d4⟩, (hU.cell (p := ⟨2, k * 4, none⟩) zhW).trans f0, (hU.cell (p := ⟨2, k * 4 + 1, none⟩) zhW).trans f1, (hU.cell (p := ⟨2, k * 4 + 2, none⟩) zhW).trans f2, (hU.cell (p := ⟨2, k * 4 + 3, none⟩) zhW).trans f3⟩
    clear d0 d1 d2 d3 d4 f0 f1 f2 f3
    go_cut [3, 4] (fun s3 s4 wc => ∃ b3 b4 : Nat, s3 = .pointer (some ⟨b3, 0, none⟩) ∧ s4 = .pointer (some ⟨b4, 0, none⟩) ∧ Bools wc b3 [h0, h1, h2, h3] ∧ Nms wc b4 [c1, c2, c3, c4] ∧ Below W.heap.size W wc)
    case first =>
      refine wp_region_inv (by kernel_rfl) [11, 12, 13, 14, 15, 16, 3, 4] (fun L T u => ∃ (b3 : Nat) (b4 : Nat), Below W.heap.size W u ∧ (L 0 = true → T 11 = .pointer (some ⟨w.heap.size, 0, none⟩)) ∧ (L 1 = true → T 12 = .int .i64 (k : Int)) ∧ (L 2 = true → T 13 = .pointer (some ⟨2, k * 4, none⟩)) ∧ (L 3 = true → T 14 = .agg #[.bool h0, .bool h1, .bool h2, .bool h3]) ∧ (L 4 = true → T 15 = .agg #[.int .i64 (k : Int), .int .i64 c1, .int .i64 c2, .int .i64 c3, .int .i64 c4]) ∧ (L 5 = true → T 16 = .agg #[.int .i64 c1, .int .i64 c2, .int .i64 c3, .int .i64 c4]) ∧ (L 6 = true → (T 3 = .pointer (some ⟨b3, 0, none⟩) ∧ W.heap.size ≤ b3 ∧ b3 < u.heap.size)) ∧ (L 7 = true → (T 4 = .pointer (some ⟨b4, 0, none⟩) ∧ W.heap.size ≤ b4 ∧ b4 < u.heap.size)) ∧ (L 6 = true → L 7 = true → b3 ≠ b4) ∧ (L 6 = true → L 8 = false → BoxN u b3 4 [.bool false, .bool false, .bool false, .bool false]) ∧ (L 7 = true → L 9 = false → BoxN u b4 4 [.int .i64 0, .int .i64 0, .int .i64 0, .int .i64 0]) ∧ (L 8 = true → BoxN u b3 4 [.bool h0, .bool h1, .bool h2, .bool h3]) ∧ (L 9 = true → BoxN u b4 4 [.int .i64 c1, .int .i64 c2, .int .i64 c3, .int .i64 c4])) (by decide) (by kernel_rfl) (by kernel_rfl) ?_ ?_ ?_
      · exact ⟨0, 0, (Below.refl _ _).drew, nofun, nofun, nofun, nofun, nofun, nofun, nofun, nofun, nofun, nofun, nofun, nofun, nofun⟩
      · refine ⟨?_, ?_, ?_, ?_, ?_, ?_, ?_, ?_, ?_, ?_, trivial⟩
        · rintro L T u hd hk hcl ⟨b3, b4, hb, p0, p1, p2, p3, p4, p5, p6, p7, ap, z3, z4, q3, q4⟩ K hK
          simp only [fr, Act.put, List.setIfInBounds_toArray, List.set_cons_zero, List.set_cons_succ, updO] at hK ⊢
          simp [Region.binds] at hd
          rw [if_pos (by rfl)]
          simp only [Oper.wpv]
          go_simp
          exact hK _ _ ⟨b3, b4, hb, fun _ => rfl, p1, p2, p3, p4, p5, p6, p7, ap, z3, z4, q3, q4⟩
        · rintro L T u hd hk hcl ⟨b3, b4, hb, p0, p1, p2, p3, p4, p5, p6, p7, ap, z3, z4, q3, q4⟩ K hK
          simp only [fr, Act.put, List.setIfInBounds_toArray, List.set_cons_zero, List.set_cons_succ, updO] at hK ⊢
          simp [Region.binds] at hd
          have e0 := p0 (by simp [hd])
          obtain ⟨⟨d0, d1, d2, d3, d4⟩, f0, f1, f2, f3⟩ := KC.out u hb
          rw [if_pos (by rfl)]
          simp only [Oper.wpv]
          go_simp
          exact hK _ _ ⟨b3, b4, hb, p0, fun _ => rfl, p2, p3, p4, p5, p6, p7, ap, z3, z4, q3, q4⟩
        · rintro L T u hd hk hcl ⟨b3, b4, hb, p0, p1, p2, p3, p4, p5, p6, p7, ap, z3, z4, q3, q4⟩ K hK
          simp only [fr, Act.put, List.setIfInBounds_toArray, List.set_cons_zero, List.set_cons_succ, updO] at hK ⊢
          simp [Region.binds] at hd
          have e0 := p1 (by simp [hd])
          have k0 : (0 : Int) ≤ (k : Int) := by omega
          rw [if_pos (by rfl)]
          simp only [Oper.wpv]
          go_simp
          exact hK _ _ ⟨b3, b4, hb, p0, p1, fun _ => rfl, p3, p4, p5, p6, p7, ap, z3, z4, q3, q4⟩
        · rintro L T u hd hk hcl ⟨b3, b4, hb, p0, p1, p2, p3, p4, p5, p6, p7, ap, z3, z4, q3, q4⟩ K hK
          simp only [fr, Act.put, List.setIfInBounds_toArray, List.set_cons_zero, List.set_cons_succ, updO] at hK ⊢
          simp [Region.binds] at hd
          have e0 := p2 (by simp [hd])
          obtain ⟨⟨d0, d1, d2, d3, d4⟩, f0, f1, f2, f3⟩ := KC.out u hb
          rw [if_pos (by rfl)]
          simp only [Oper.wpv]
          go_simp
          exact hK _ _ ⟨b3, b4, hb, p0, p1, p2, fun _ => rfl, p4, p5, p6, p7, ap, z3, z4, q3, q4⟩
        · rintro L T u hd hk hcl ⟨b3, b4, hb, p0, p1, p2, p3, p4, p5, p6, p7, ap, z3, z4, q3, q4⟩ K hK
          simp only [fr, Act.put, List.setIfInBounds_toArray, List.set_cons_zero, List.set_cons_succ, updO] at hK ⊢
          simp [Region.binds] at hd
          obtain ⟨⟨d0, d1, d2, d3, d4⟩, f0, f1, f2, f3⟩ := KC.out u hb
          rw [if_pos (by rfl)]
          simp only [Oper.wpv]
          go_simp
          exact hK _ _ ⟨b3, b4, hb, p0, p1, p2, p3, fun _ => rfl, p5, p6, p7, ap, z3, z4, q3, q4⟩
        · rintro L T u hd hk hcl ⟨b3, b4, hb, p0, p1, p2, p3, p4, p5, p6, p7, ap, z3, z4, q3, q4⟩ K hK
          simp only [fr, Act.put, List.setIfInBounds_toArray, List.set_cons_zero, List.set_cons_succ, updO] at hK ⊢
          simp [Region.binds] at hd
          have e0 := p4 (by simp [hd])
          rw [if_pos (by rfl)]
          simp only [Oper.wpv]
          go_simp
          refine (callParts_any _ _ _ _ _ _).mono ?_
          rintro e u1 ⟨rfl, hg⟩
          exact hK _ _ ⟨b3, b4, (nT hb hg), p0, p1, p2, p3, p4, fun _ => rfl, fun h0 => ⟨(p6 h0).1, (p6 h0).2.1, Nat.lt_of_lt_of_le (p6 h0).2.2 hg.size⟩, fun h0 => ⟨(p7 h0).1, (p7 h0).2.1, Nat.lt_of_lt_of_le (p7 h0).2.2 hg.size⟩, ap, fun h0 h1 => (z3 h0 h1).below hg (z3 h0 h1).lt, fun h0 h1 => (z4 h0 h1).below hg (z4 h0 h1).lt, fun h0 => (q3 h0).below hg (q3 h0).lt, fun h0 => (q4 h0).below hg (q4 h0).lt⟩
        · rintro L T u hd hk hcl ⟨b3, b4, hb, p0, p1, p2, p3, p4, p5, p6, p7, ap, z3, z4, q3, q4⟩ K hK
          simp only [fr, Act.put, List.setIfInBounds_toArray, List.set_cons_zero, List.set_cons_succ, updO] at hK ⊢
          simp [Region.binds] at hd
          have hg : Below u.heap.size u (u.alloc (.cells #[.bool false, .bool false, .bool false, .bool false] 111)) := (Below.refl _ _).alloc (Nat.le_refl _) _
          have c8 := hcl 8 _ rfl
          simp [Region.binds] at c8
          rw [if_pos (by rfl)]
          simp only [Oper.wpv]
          go_simp
          exact hK _ _ ⟨u.heap.size, b4, (nT hb hg), p0, p1, p2, p3, p4, p5, fun _ => ⟨rfl, hb.size, by simp⟩, fun h0 => ⟨(p7 h0).1, (p7 h0).2.1, Nat.lt_of_lt_of_le (p7 h0).2.2 hg.size⟩, fun _ h1 => (Nat.ne_of_lt (p7 h1).2.2).symm, fun _ _ => boxn_new u #[.bool false, .bool false, .bool false, .bool false] 111 4 rfl, fun h0 h1 => (z4 h0 h1).below hg (z4 h0 h1).lt, fun h => by have := c8 h; simp [hk] at this, fun h0 => (q4 h0).below hg (q4 h0).lt⟩
        · rintro L T u hd hk hcl ⟨b3, b4, hb, p0, p1, p2, p3, p4, p5, p6, p7, ap, z3, z4, q3, q4⟩ K hK
          simp only [fr, Act.put, List.setIfInBounds_toArray, List.set_cons_zero, List.set_cons_succ, updO] at hK ⊢
          simp [Region.binds] at hd
          have hg : Below u.heap.size u (u.alloc (.cells #[.int .i64 0, .int .i64 0, .int .i64 0, .int .i64 0] 113)) := (Below.refl _ _).alloc (Nat.le_refl _) _
          have c9 := hcl 9 _ rfl
          simp [Region.binds] at c9
          rw [if_pos (by rfl)]
          simp only [Oper.wpv]
          go_simp
          exact hK _ _ ⟨b3, u.heap.size, (nT hb hg), p0, p1, p2, p3, p4, p5, fun h0 => ⟨(p6 h0).1, (p6 h0).2.1, Nat.lt_of_lt_of_le (p6 h0).2.2 hg.size⟩, fun _ => ⟨rfl, hb.size, by simp⟩, fun h0 _ => Nat.ne_of_lt (p6 h0).2.2, fun h0 h1 => (z3 h0 h1).below hg (z3 h0 h1).lt, fun _ _ => boxn_new u #[.int .i64 0, .int .i64 0, .int .i64 0, .int .i64 0] 113 4 rfl, fun h0 => (q3 h0).below hg (q3 h0).lt, fun h => by have := c9 h; simp [hk] at this⟩
        · rintro L T u hd hk hcl ⟨b3, b4, hb, p0, p1, p2, p3, p4, p5, p6, p7, ap, z3, z4, q3, q4⟩ K hK
          simp only [fr, Act.put, List.setIfInBounds_toArray, List.set_cons_zero, List.set_cons_succ, updO] at hK ⊢
          simp [Region.binds] at hd
          have e3 := p3 (by simp [hd])
          obtain ⟨e0, l0, l1⟩ := p6 (by simp [hd])
          have bx := z3 (by simp [hd]) hk
          have x0 : _ = some _ := (bx.c 0 (by decide)).1
          have y0 := (bx.c 0 (by decide)).2
          have x1 : _ = some _ := (bx.c 1 (by decide)).1
          have y1 := (bx.c 1 (by decide)).2
          have x2 : _ = some _ := (bx.c 2 (by decide)).1
          have y2 := (bx.c 2 (by decide)).2
          have x3 : _ = some _ := (bx.c 3 (by decide)).1
          have y3 := (bx.c 3 (by decide)).2
          simp only [List.getD_cons_zero, List.getD_cons_succ] at x0 x1 x2 x3
          have c9 := hcl 9 _ rfl
          simp [Region.binds] at c9
          rw [if_pos (by rfl)]
          simp only [Oper.wpv]
          go_simp
          exact hK _ _ ⟨b3, b4, (nS (nS (nS (nS hb l0 _) l0 _) l0 _) l0 _), p0, p1, p2, p3, p4, p5, fun h0 => ⟨(p6 h0).1, (p6 h0).2.1, by simpa using (p6 h0).2.2⟩, fun h0 => ⟨(p7 h0).1, (p7 h0).2.1, by simpa using (p7 h0).2.2⟩, ap, fun _ h => Bool.noConfusion (show true = false from h), fun h0 h1 => (((((z4 h0 h1).far (Ne.symm (ap (by simp [hd]) h0))).far (Ne.symm (ap (by simp [hd]) h0))).far (Ne.symm (ap (by simp [hd]) h0))).far (Ne.symm (ap (by simp [hd]) h0))), fun _ => ((((bx.set 0 (by decide) (.bool h0)).set 1 (by decide) (.bool h1)).set 2 (by decide) (.bool h2)).set 3 (by decide) (.bool h3)), fun h0 => (((((q4 h0).far (Ne.symm (ap (by simp [hd]) (by simp [c9 h0])))).far (Ne.symm (ap (by simp [hd]) (by simp [c9 h0])))).far (Ne.symm (ap (by simp [hd]) (by simp [c9 h0])))).far (Ne.symm (ap (by simp [hd]) (by simp [c9 h0]))))⟩
        · rintro L T u hd hk hcl ⟨b3, b4, hb, p0, p1, p2, p3, p4, p5, p6, p7, ap, z3, z4, q3, q4⟩ K hK
          simp only [fr, Act.put, List.setIfInBounds_toArray, List.set_cons_zero, List.set_cons_succ, updO] at hK ⊢
          simp [Region.binds] at hd
          have e3 := p5 (by simp [hd])
          obtain ⟨e0, l0, l1⟩ := p7 (by simp [hd])
          have bx := z4 (by simp [hd]) hk
          have x0 : _ = some _ := (bx.c 0 (by decide)).1
          have y0 := (bx.c 0 (by decide)).2
          have x1 : _ = some _ := (bx.c 1 (by decide)).1
          have y1 := (bx.c 1 (by decide)).2
          have x2 : _ = some _ := (bx.c 2 (by decide)).1
          have y2 := (bx.c 2 (by decide)).2
          have x3 : _ = some _ := (bx.c 3 (by decide)).1
          have y3 := (bx.c 3 (by decide)).2
          simp only [List.getD_cons_zero, List.getD_cons_succ] at x0 x1 x2 x3
          have c8 := hcl 8 _ rfl
          simp [Region.binds] at c8
          rw [if_pos (by rfl)]
          simp only [Oper.wpv]
          go_simp
          exact hK _ _ ⟨b3, b4, (nS (nS (nS (nS hb l0 _) l0 _) l0 _) l0 _), p0, p1, p2, p3, p4, p5, fun h0 => ⟨(p6 h0).1, (p6 h0).2.1, by simpa using (p6 h0).2.2⟩, fun h0 => ⟨(p7 h0).1, (p7 h0).2.1, by simpa using (p7 h0).2.2⟩, ap, fun h0 h1 => (((((z3 h0 h1).far (ap h0 (by simp [hd]))).far (ap h0 (by simp [hd]))).far (ap h0 (by simp [hd]))).far (ap h0 (by simp [hd]))), fun _ h => Bool.noConfusion (show true = false from h), fun h0 => (((((q3 h0).far (ap (by simp [c8 h0]) (by simp [hd]))).far (ap (by simp [c8 h0]) (by simp [hd]))).far (ap (by simp [c8 h0]) (by simp [hd]))).far (ap (by simp [c8 h0]) (by simp [hd]))), fun _ => ((((bx.set 0 (by decide) (.int .i64 c1)).set 1 (by decide) (.int .i64 c2)).set 2 (by decide) (.int .i64 c3)).set 3 (by decide) (.int .i64 c4))⟩
      · rintro L T u hl ⟨b3, b4, hb, p0, p1, p2, p3, p4, p5, p6, p7, ap, z3, z4, q3, q4⟩
        simp only [fr, Act.put, List.setIfInBounds_toArray, List.set_cons_zero, List.set_cons_succ]
        obtain ⟨e3, _, _⟩ := p6 (hl 6 (by decide))
        obtain ⟨e4, _, _⟩ := p7 (hl 7 (by decide))
        have bx3 := q3 (hl 8 (by decide))
        have bx4 := q4 (hl 9 (by decide))
        have HE : Hid (T 3 = .pointer (some ⟨b3, 0, none⟩) ∧ T 4 = .pointer (some ⟨b4, 0, none⟩)) := ⟨e3, e4⟩
        clear e3 e4 p0 p1 p2 p3 p4 p5 p6 p7 ap z3 z4 q3 q4
        go_wp2_with fail
        go_meet
        case rel => exact ⟨b3, b4, HE.out.1, HE.out.2, Bools.of (hs := [h0, h1, h2, h3]) bx3, Nms.of (ps := [c1, c2, c3, c4]) bx4, hb⟩
    case rest =>
      obtain ⟨b3, b4, rfl, rfl, hB3, hN4, bX⟩ := hcut
      obtain ⟨X, eX⟩ : ∃ X, X = wc := ⟨_, rfl⟩
      rw [← eX] at hB3 hN4 bX ⊢
      clear eX KC
      have hT : CTops X := ht.below (hB.trans (bX.mono hB.size)) ht.1
      obtain ⟨zt, ct⟩ := hT
      have t0 := ct 0 (by decide)
      have t1 := ct 1 (by decide)
      have t2 := ct 2 (by decide)
      have t3 := ct 3 (by decide)
      simp only [cTops, List.getD_cons_zero, List.getD_cons_succ] at t0 t1 t2 t3
      have HOnly := fun U (hU : Below X.heap.size X U) => onlyHas_any b3 b4 4 [h0, h1, h2, h3] [c1, c2, c3, c4] U rfl rfl (by decide) (hB3.below hU hB3.1) (hN4.below hU hN4.1)
      have HO : Hid (∀ U, Below X.heap.size X U → Calls Tryd.prog 41 #[.slice (some ⟨b3, 0, none⟩) 4 4, .slice (some ⟨b4, 0, none⟩) 4 4] U fun e w' => e = .returned (.bool (only [h0, h1, h2, h3] [c1, c2, c3, c4])) ∧ w' = U) := HOnly
      clear HOnly
      have n0 := hN4.2 0 (by simp)
      have n1 := hN4.2 1 (by simp)
      have n2 := hN4.2 2 (by simp)
      have n3 := hN4.2 3 (by simp)
      simp only [List.getD_cons_zero, List.getD_cons_succ] at n0 n1 n2 n3
      have z3 := hB3.1
      have z4 := hN4.1
      have hBX := hB.trans (bX.mono hB.size)
      obtain ⟨O, eO⟩ : ∃ O, O = only [h0, h1, h2, h3] [c1, c2, c3, c4] := ⟨_, rfl⟩
      rw [← eO] at HF1 HO
      clear eO hh ht hB3 hN4
      clear ct
      go_upto_region 5 with (fail)
      have HT0 : Hid (inTops cTops [c1, c2, c3, c4] = inTops (cTops.drop 0) ([c1, c2, c3, c4].drop 0)) := rfl
      go_loop [5, 6, 18] (fun _ _ s18 => ∃ m : Nat, m ≤ 4 ∧ s18 = .int .i64 (m : Int) ∧ Hid (inTops cTops [c1, c2, c3, c4] = inTops (cTops.drop m) ([c1, c2, c3, c4].drop m))) (fun _ _ s18 => 4 - (intOf s18).toNat)
      case atStart => exact ⟨0, by omega, rfl, HT0.out⟩
      case round =>
        obtain ⟨m, hm, rfl, hat⟩ := hrel
        rcases (by omega : m = 0 ∨ m = 1 ∨ m = 2 ∨ m = 3 ∨ m = 4) with rfl | rfl | rfl | rfl | rfl
        · have hx := idx4_0 1048576 5 8 1073741824
          have hst : Hid (inTops cTops [c1, c2, c3, c4] = (inR c1 0 1048576 && inTops (cTops.drop 1) ([c1, c2, c3, c4].drop 1))) := by show _ = _; rw [hat.out]; exact inTops_at (by decide) (by simp)
          clear hat
          cases hr : inR c1 0 1048576 with
          | false =>
            have hf : Hid (F = 2) := by show _ = _; rw [HF1.out, if_pos (by rw [hst.out, hr]; rfl)]
            clear hst
            go_wp2_with (go_at_call 36; refine (within_any _ _ _ _).mono ?_; rintro e u1 ⟨rfl, hu1⟩; rw [hu1]; clear hu1)
            go_ret
            exact ⟨ret_int hf.out.symm, hBX⟩
          | true =>
            have hn : Hid (inTops cTops [c1, c2, c3, c4] = inTops (cTops.drop 1) ([c1, c2, c3, c4].drop 1)) := by show _ = _; rw [hst.out, hr]; rfl
            clear hst
            go_wp2_with (go_at_call 36; refine (within_any _ _ _ _).mono ?_; rintro e u1 ⟨rfl, hu1⟩; rw [hu1]; clear hu1)
            go_round
            case rel => exact ⟨1, by omega, by go_num, hn.out⟩
            case measure => simp [intOf]
        · have hx := idx4_1 1048576 5 8 1073741824
          have hst : Hid (inTops cTops [c1, c2, c3, c4] = (inR c2 0 5 && inTops (cTops.drop 2) ([c1, c2, c3, c4].drop 2))) := by show _ = _; rw [hat.out]; exact inTops_at (by decide) (by simp)
          clear hat
          cases hr : inR c2 0 5 with
          | false =>
            have hf : Hid (F = 2) := by show _ = _; rw [HF1.out, if_pos (by rw [hst.out, hr]; rfl)]
            clear hst
            go_wp2_with (go_at_call 36; refine (within_any _ _ _ _).mono ?_; rintro e u1 ⟨rfl, hu1⟩; rw [hu1]; clear hu1)
            go_ret
            exact ⟨ret_int hf.out.symm, hBX⟩
          | true =>
            have hn : Hid (inTops cTops [c1, c2, c3, c4] = inTops (cTops.drop 2) ([c1, c2, c3, c4].drop 2)) := by show _ = _; rw [hst.out, hr]; rfl
            clear hst
            go_wp2_with (go_at_call 36; refine (within_any _ _ _ _).mono ?_; rintro e u1 ⟨rfl, hu1⟩; rw [hu1]; clear hu1)
            go_round
            case rel => exact ⟨2, by omega, by go_num, hn.out⟩
            case measure => simp [intOf]
        · have hx := idx4_2 1048576 5 8 1073741824
          have hst : Hid (inTops cTops [c1, c2, c3, c4] = (inR c3 0 8 && inTops (cTops.drop 3) ([c1, c2, c3, c4].drop 3))) := by show _ = _; rw [hat.out]; exact inTops_at (by decide) (by simp)
          clear hat
          cases hr : inR c3 0 8 with
          | false =>
            have hf : Hid (F = 2) := by show _ = _; rw [HF1.out, if_pos (by rw [hst.out, hr]; rfl)]
            clear hst
            go_wp2_with (go_at_call 36; refine (within_any _ _ _ _).mono ?_; rintro e u1 ⟨rfl, hu1⟩; rw [hu1]; clear hu1)
            go_ret
            exact ⟨ret_int hf.out.symm, hBX⟩
          | true =>
            have hn : Hid (inTops cTops [c1, c2, c3, c4] = inTops (cTops.drop 3) ([c1, c2, c3, c4].drop 3)) := by show _ = _; rw [hst.out, hr]; rfl
            clear hst
            go_wp2_with (go_at_call 36; refine (within_any _ _ _ _).mono ?_; rintro e u1 ⟨rfl, hu1⟩; rw [hu1]; clear hu1)
            go_round
            case rel => exact ⟨3, by omega, by go_num, hn.out⟩
            case measure => simp [intOf]
        · have hx := idx4_3 1048576 5 8 1073741824
          have hst : Hid (inTops cTops [c1, c2, c3, c4] = (inR c4 0 1073741824 && inTops (cTops.drop 4) ([c1, c2, c3, c4].drop 4))) := by show _ = _; rw [hat.out]; exact inTops_at (by decide) (by simp)
          clear hat
          cases hr : inR c4 0 1073741824 with
          | false =>
            have hf : Hid (F = 2) := by show _ = _; rw [HF1.out, if_pos (by rw [hst.out, hr]; rfl)]
            clear hst
            go_wp2_with (go_at_call 36; refine (within_any _ _ _ _).mono ?_; rintro e u1 ⟨rfl, hu1⟩; rw [hu1]; clear hu1)
            go_ret
            exact ⟨ret_int hf.out.symm, hBX⟩
          | true =>
            have hn : Hid (inTops cTops [c1, c2, c3, c4] = inTops (cTops.drop 4) ([c1, c2, c3, c4].drop 4)) := by show _ = _; rw [hst.out, hr]; rfl
            clear hst
            go_wp2_with (go_at_call 36; refine (within_any _ _ _ _).mono ?_; rintro e u1 ⟨rfl, hu1⟩; rw [hu1]; clear hu1)
            go_round
            case rel => exact ⟨4, by omega, by go_num, hn.out⟩
            case measure => simp [intOf]
        · have HF2 : Hid (F = if O = false then 4 else 0) := by show _ = _; rw [HF1.out, if_neg (by rw [hat.out]; simp [cTops, inTops])]
          clear hat HF1
          go_upto_region 10 with (fail)
          go_region_with ((go_at_call 41; refine (HO.out _ ((Below.refl _ _).drew)).mono ?_; rintro e u2 ⟨rfl, hu⟩; rw [hu]; clear hu))
          cases O with
          | false =>
            go_wp2
            go_ret
            exact ⟨ret_int HF2.out.symm, hBX.drew⟩
          | true =>
            go_wp2
            go_ret
            exact ⟨ret_int HF2.out.symm, hBX.drew⟩
end Go.Proofs.YtlaagfnoepcnlaaDoor.Ln
/- What the listed tables of package lines hold, cell by cell, out of their reading as data; and how an act comes in as an argument. -/
namespace Go.Proofs.YtlaagfnoepcnlaaDoor.Ln
set_option maxRecDepth 10000
open Go.ChangeShapes Go.WideShapes Go.ChangeAt Go.RowKit Go.Joins Go.Deep

def bRow {H : Type} (bs : List Bool) : DataW H := .agg (bs.map fun b => .lit (.bool b))
def bTab {H : Type} (tb : List (List Bool)) : DataW H := .agg (tb.map bRow)

section
variable {H : Type} {enc : TypeId × Value → H} {W : World} {base : Nat} {sp : Nat → Bool} {held : Bool}

theorem c1b : Tryd.prog.cellsOf 4 = 1 := by kernel_rfl

theorem row_of {fuel N : Nat} {tr : TypeId} {cs : List Value} {bs : List Bool} {p : List MemPlace} (hr : Tryd.prog.underlying tr = some (.array N 4)) (hb : bs.length = N) (h : DataW.trod enc Tryd.prog W base sp held fuel tr cs = some (bRow bs, p)) (j : Nat) (hj : j < N) : cs[j]? = some (.bool (bs.getD j false)) := by
  obtain ⟨xs, m, rfl, hx, hl, hn, hel⟩ := DataW.trod_array hr h
  have hxs : xs.map (·.1) = bs.map fun b => (DataW.lit (.bool b) : DataW H) := by
    have := congrArg Prod.fst hx
    simpa [bRow] using this.symm
  have h1 := hel j hj
  rw [c1b, List.getElem?_eq_getElem (by omega)] at h1
  obtain ⟨b, hc, hx1⟩ := DataW.trod_bool Tryd.underlying4 h1
  have e1 : cs[j]? = some (.bool b) := by
    have := congrArg (·[0]?) hc
    simpa [List.getElem?_take, List.getElem?_drop] using this
  have e2 : (xs.map (·.1))[j]? = some (DataW.lit (.bool b) : DataW H) := by
    rw [List.getElem?_map, List.getElem?_eq_getElem (by omega), hx1]; rfl
  rw [hxs] at e2
  have hjb : j < bs.length := by omega
  simp [hjb] at e2
  rw [e1]
  simp [List.getD, hjb, e2]

theorem tab_of {fuel n N : Nat} {t tr : TypeId} {cs : List Value} {tb : List (List Bool)} {p : List MemPlace} (ht : Tryd.prog.underlying t = some (.array n tr)) (hr : Tryd.prog.underlying tr = some (.array N 4)) (hcr : Tryd.prog.cellsOf tr = N) (hn : tb.length = n) (hb : ∀ i, i < n → (tb.getD i []).length = N) (h : DataW.trod enc Tryd.prog W base sp held fuel t cs = some (bTab tb, p)) (i j : Nat) (hi : i < n) (hj : j < N) : cs[i * N + j]? = some (.bool ((tb.getD i []).getD j false)) := by
  obtain ⟨xs, m, rfl, hx, hl, hlen, hel⟩ := DataW.trod_array ht h
  have hxs : xs.map (·.1) = tb.map bRow := by
    have := congrArg Prod.fst hx
    simpa [bTab] using this.symm
  have h1 := hel i hi
  rw [hcr, List.getElem?_eq_getElem (by omega)] at h1
  have e2 : (xs.map (·.1))[i]? = (tb.map (bRow (H := H)))[i]? := by rw [hxs]
  have hit : i < tb.length := by omega
  have hix : i < xs.length := by omega
  simp [hix, hit] at e2
  obtain ⟨d, q, hxi⟩ : ∃ d q, xs[i] = (d, q) := ⟨_, _, rfl⟩
  have e3 : d = bRow (tb.getD i []) := by
    rw [hxi] at e2
    simp [List.getD, hit]
    exact e2
  rw [hxi, e3] at h1
  have := row_of hr (hb i hi) h1 j hj
  rw [List.getElem?_take, if_pos hj, List.getElem?_drop] at this
  exact this

theorem has_of {fuel n N g : Nat} {t tr : TypeId} {cs : Array Value} {tb : List (List Bool)} {p : List MemPlace} {name : String} (hg : Tryd.prog.globalNamed name = some g) (hv : W.var? Tryd.prog name = some cs) (ht : Tryd.prog.underlying t = some (.array n tr)) (hr : Tryd.prog.underlying tr = some (.array N 4)) (hcr : Tryd.prog.cellsOf tr = N) (hn : tb.length = n) (hb : ∀ i, i < n → (tb.getD i []).length = N)
    (h : DataW.trod enc Tryd.prog W base sp held fuel t cs.toList = some (bTab tb, p)) : Tab W g N tb := by
  intro i j hi hj
  rw [World.var?_cell hg hv, ← Array.getElem?_toList]
  exact tab_of ht hr hcr hn hb h i j (by omega) hj

theorem aHas_rows : ∀ i, i < 9 → (aHas.getD i []).length = 7 := by decide
theorem cHas_rows : ∀ i, i < 6 → (cHas.getD i []).length = 4 := by decide
theorem cells7b : Tryd.prog.cellsOf 80 = 7 := by kernel_rfl
theorem cells4b : Tryd.prog.cellsOf 111 = 4 := by kernel_rfl

theorem tops_of {fuel : Nat} {cs : Array Value} {p : List MemPlace} {name : String} (hg : Tryd.prog.globalNamed name = some 3) (hv : W.var? Tryd.prog name = some cs)
    (h : DataW.trod enc Tryd.prog W base sp held fuel 113 cs.toList = some (Lib.tabData .i64 cTops, p)) : CTops W := by
  have e := Lib.cells_of_tab Tryd.underlying113 Tryd.underlying3 (by kernel_rfl) (by kernel_rfl) h
  have c : ∀ i, W.cell? ⟨3, i, none⟩ = (cTops.map fun z => Value.int .i64 z)[i]? := by
    intro i
    rw [World.var?_cell hg hv, ← Array.getElem?_toList, e]
  refine ⟨World.block_lt_of_cell? W _ (c 0), fun i hi => ?_⟩
  rw [c i]
  simp [List.getD, hi]
end
section
variable {H : Type} {enc : TypeId × Value → H} {W : World} {base : Nat}
theorem op_act {v : Value} {d : DataW H} {p : List MemPlace} (hv : Value.okWide Tryd.prog W .any base 41 v) (h : DataW.Trod enc Tryd.prog W 0 (fun _ => true) true 41 v d p) :
    ∃ a : AV, v = .agg a.cells.toArray ∧ IsInts W a.ka a.kl a.kc a.keep := by
  obtain ⟨cs, rfl, hsz⟩ := okWide_struct Tryd.underlying41 hv
  obtain ⟨fuel, hf⟩ := h
  obtain ⟨a, hc, hI, _⟩ := trod_act hf
  refine ⟨a, ?_, hI⟩
  have : cs.toList = a.cells := by simpa [Value.cells] using hc
  rw [← this]
end
end Go.Proofs.YtlaagfnoepcnlaaDoor.Ln
/- A row of acts whose slice is nil has no room. -/
namespace Go.Proofs.YtlaagfnoepcnlaaDoor.Ln
open Go.ChangeShapes Go.WideShapes Go.ChangeAt Go.RowKit Go.Joins Go.Deep
variable {H : Type} {enc : TypeId × Value → H} {W : World}
theorem acts_nil {a : Option Addr} {len cap : Nat} {d : DataW H} {p : List MemPlace} (h : DataW.Trod enc Tryd.prog W 0 (fun _ => true) true 25 (.slice a len cap) d p) : a = none → cap = 0 := by
  obtain ⟨fuel, hf⟩ := h
  rcases open_slice Tryd.underlying25 hf with ⟨hcs, _⟩ | ⟨a', len', cap', m, n, D, Pl, hcs, _⟩
  · simp [Value.cells] at hcs
    intro _
    exact hcs.2.2
  · simp [Value.cells] at hcs
    obtain ⟨rfl, -, -⟩ := hcs
    nofun
end Go.Proofs.YtlaagfnoepcnlaaDoor.Ln
