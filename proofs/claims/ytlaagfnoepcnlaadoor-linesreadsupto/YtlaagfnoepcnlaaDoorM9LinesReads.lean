/- Texts of this claim, one behind the other. -/
import Derived.Test.YtlaagfnoepcnlaaDoorM7LinesReads
import Derived.Test.YtlaagfnoepcnlaaDoorM8LinesReads
import Derived.Test.YtlaagfnoepcnlaaDoorM6LinesReads
import Derived.Deep.QuietTactic
import Derived.BigQuiet
import Derived.Lib.QuietBelow
import Derived.Test.YtlaagfnoepcnlaaDoorA5LinesReads
import Derived.OwnWalk
import Derived.OneCell
/- The contract of lines.checkCall. -/
namespace Go.Proofs.YtlaagfnoepcnlaaDoor.Ln
open Go.ChangeShapes Go.WideShapes Go.ChangeAt Go.RowKit
open Go.Proofs.YtlaagfnoepcnlaaDoor.St (BoxN boxn_new)
set_option linter.unusedVariables false

/-- A table of rows of n flags, as the program lays it. -/
def Tab (w : World) (g n : Nat) (t : List (List Bool)) : Prop := ∀ i j, i < t.length → j < n → w.cell? ⟨g, i * n + j, none⟩ = some (.bool ((t.getD i []).getD j false))
theorem Tab.below {w w' : World} {B g n : Nat} {t : List (List Bool)} (h : Tab w g n t) (hb : Below B w w') (hB : g < B) : Tab w' g n t := by
  intro i j hi hj
  rw [hb.cell (p := ⟨g, i * n + j, none⟩) hB]
  exact h i j hi hj
def CTops (w : World) : Prop := Nms w 3 cTops
theorem Tab.lt {w : World} {g n : Nat} {t : List (List Bool)} (h : Tab w g n t) (ht : 0 < t.length) (hn : 0 < n) : g < w.heap.size := World.block_lt_of_cell? w _ (h 0 0 ht hn)
theorem cHas_four (k : Nat) (hk : k < 6) : cHas.getD k [] = [(cHas.getD k []).getD 0 false, (cHas.getD k []).getD 1 false, (cHas.getD k []).getD 2 false, (cHas.getD k []).getD 3 false] := by
  rcases (by omega : k = 0 ∨ k = 1 ∨ k = 2 ∨ k = 3 ∨ k = 4 ∨ k = 5) with rfl | rfl | rfl | rfl | rfl | rfl <;> rfl

theorem nD {w u : World} {B : Nat} (h : Below B w u) : Below B w u.drew := h.drew
theorem nA {w u : World} (h : Below w.heap.size w u) (o : Obj) : Below w.heap.size w (u.alloc o) := h.alloc h.size o
theorem nT {w u v : World} (h : Below w.heap.size w u) (h2 : Below u.heap.size u v) : Below w.heap.size w v := h.trans (h2.mono h.size)
theorem nS {w u : World} {B : Nat} {b i : Nat} (h : Below B w u) (hb : B ≤ b) (v : Value) : Below B w (u.setCell ⟨b, i, none⟩ v) := h.setCell hb v
theorem Bools.of {w : World} {b : Nat} {hs : List Bool} {n : Nat} (h : BoxN w b n (hs.map Value.bool)) : Bools w b hs := by
  have hl := h.len
  simp at hl
  refine ⟨h.lt, fun i hi => ?_⟩
  rw [(h.c i (by omega)).1]
  simp [List.getD, hi]
theorem Nms.of {w : World} {b : Nat} {ps : List Int} {n : Nat} (h : BoxN w b n (ps.map (Value.int .i64))) : Nms w b ps := by
  have hl := h.len
  simp at hl
  refine ⟨h.lt, fun i hi => ?_⟩
  rw [(h.c i (by omega)).1]
  simp [List.getD, hi]

theorem idx4_0 (v0 v1 v2 v3 : Int) (w : World) : (Instr.index 113 (.agg #[.int .i64 v0, .int .i64 v1, .int .i64 v2, .int .i64 v3]) (.int .i64 0)).run Tryd.prog w = .ok (.int .i64 v0) w := by kernel_rfl
theorem idx4_1 (v0 v1 v2 v3 : Int) (w : World) : (Instr.index 113 (.agg #[.int .i64 v0, .int .i64 v1, .int .i64 v2, .int .i64 v3]) (.int .i64 1)).run Tryd.prog w = .ok (.int .i64 v1) w := by kernel_rfl
theorem idx4_2 (v0 v1 v2 v3 : Int) (w : World) : (Instr.index 113 (.agg #[.int .i64 v0, .int .i64 v1, .int .i64 v2, .int .i64 v3]) (.int .i64 2)).run Tryd.prog w = .ok (.int .i64 v2) w := by kernel_rfl
theorem idx4_3 (v0 v1 v2 v3 : Int) (w : World) : (Instr.index 113 (.agg #[.int .i64 v0, .int .i64 v1, .int .i64 v2, .int .i64 v3]) (.int .i64 3)).run Tryd.prog w = .ok (.int .i64 v3) w := by kernel_rfl

set_option maxRecDepth 100000 in
set_option maxHeartbeats 4000000 in
theorem checkCall_any (c0 c1 c2 c3 c4 : Int) (w : World) (hh : Tab w 2 4 cHas) (ht : CTops w) :
    Calls Tryd.prog 42 #[.agg #[.int .i64 c0, .int .i64 c1, .int .i64 c2, .int .i64 c3, .int .i64 c4]] w fun e w' => e = .returned (.int .i64 (callFault c0 c1 c2 c3 c4)) ∧ Below w.heap.size w w' := by
  have zh := hh.lt (by decide) (by decide)
  obtain ⟨F, eF⟩ : ∃ F, F = callFault c0 c1 c2 c3 c4 := ⟨_, rfl⟩
  have HF : Hid (F = callFault c0 c1 c2 c3 c4) := eF
  rw [← eF]
  clear eF
  obtain ⟨W, hW⟩ : ∃ W : World, W = w.alloc (.cells #[.int .i64 c0, .int .i64 c1, .int .i64 c2, .int .i64 c3, .int .i64 c4] 39) := ⟨_, rfl⟩
  have hB : Below w.heap.size w W := by rw [hW]; exact (Below.refl _ _).alloc (Nat.le_refl _) _
  have zW : w.heap.size < W.heap.size := by rw [hW]; simp
  have d0 : W.cell? ⟨w.heap.size, 0, none⟩ = some (.int .i64 c0) := by rw [hW]; go_simp
  have d1 : W.cell? ⟨w.heap.size, 1, none⟩ = some (.int .i64 c1) := by rw [hW]; go_simp
  have d2 : W.cell? ⟨w.heap.size, 2, none⟩ = some (.int .i64 c2) := by rw [hW]; go_simp
  have d3 : W.cell? ⟨w.heap.size, 3, none⟩ = some (.int .i64 c3) := by rw [hW]; go_simp
  have d4 : W.cell? ⟨w.heap.size, 4, none⟩ = some (.int .i64 c4) := by rw [hW]; go_simp
  go_enter Tryd.func42, Tryd.ntmps42
  go_upto_region 1 with (fail)
  rw [← hW]
  clear hW
  cases hK : inR c0 1 5 with
  | false =>
    have hf : Hid (F = 3) := by show _ = _; rw [HF.out, callFault, if_pos hK]
    go_wp2_with (go_at_call 36; refine (within_any _ _ _ _).mono ?_; rintro e u1 ⟨rfl, hu1⟩; rw [hu1]; clear hu1)
    go_ret
    exact ⟨ret_int hf.out.symm, hB⟩
  | true =>
    have kb := inR_of hK
    obtain ⟨k, rfl⟩ : ∃ k : Nat, c0 = k := ⟨c0.toNat, by omega⟩
    have k6 : k < 6 := by omega
    have k6' : (k : Int) < 6 := by omega
    have HF1 : Hid (F = if inTops cTops [c1, c2, c3, c4] = false then 2 else if only (cHas.getD k []) [c1, c2, c3, c4] = false then 4 else 0) := by
      show _ = _
      rw [HF.out, callFault, if_neg (by rw [hK]; simp), Int.toNat_natCast]
    clear HF
    go_upto_region 3 with (go_at_call 36; refine (within_any _ _ _ _).mono ?_; rintro e u1 ⟨rfl, hu1⟩; rw [hu1]; clear hu1)
    have EH := cHas_four k k6
    have f0 := (hh.below hB zh) k 0 k6 (by decide)
    have f1 := (hh.below hB zh) k 1 k6 (by decide)
    have f2 := (hh.below hB zh) k 2 k6 (by decide)
    have f3 := (hh.below hB zh) k 3 k6 (by decide)
    obtain ⟨h0, eh0⟩ : ∃ x, x = (cHas.getD k []).getD 0 false := ⟨_, rfl⟩
    obtain ⟨h1, eh1⟩ : ∃ x, x = (cHas.getD k []).getD 1 false := ⟨_, rfl⟩
    obtain ⟨h2, eh2⟩ : ∃ x, x = (cHas.getD k []).getD 2 false := ⟨_, rfl⟩
    obtain ⟨h3, eh3⟩ : ∃ x, x = (cHas.getD k []).getD 3 false := ⟨_, rfl⟩
    rw [← eh0, ← eh1, ← eh2, ← eh3] at EH
    rw [← eh0] at f0
    rw [← eh1] at f1
    rw [← eh2] at f2
    rw [← eh3] at f3
    clear eh0 eh1 eh2 eh3
    simp only [Nat.add_zero] at f0
    rw [EH] at HF1
    clear EH
    have zhW : 2 < W.heap.size := by omega

    have KC : Hid (∀ U : World, Below W.heap.size W U → (U.cell? ⟨w.heap.size, 0, none⟩ = some (.int .i64 (k : Int)) ∧ U.cell? ⟨w.heap.size, 1, none⟩ = some (.int .i64 c1) ∧ U.cell? ⟨w.heap.size, 2, none⟩ = some (.int .i64 c2) ∧ U.cell? ⟨w.heap.size, 3, none⟩ = some (.int .i64 c3) ∧ U.cell? ⟨w.heap.size, 4, none⟩ = some (.int .i64 c4)) ∧ U.cell? ⟨2, k * 4, none⟩ = some (.bool h0) ∧ U.cell? ⟨2, k * 4 + 1, none⟩ = some (.bool h1) ∧ U.cell? ⟨2, k * 4 + 2, none⟩ = some (.bool h2) ∧ U.cell? ⟨2, k * 4 + 3, none⟩ = some (.bool h3)) := fun U hU => ⟨⟨(hU.cell (p := ⟨w.heap.size, 0, none⟩) zW).trans d0, (hU.cell (p := ⟨w.heap.size, 1, none⟩) zW).trans d1, (hU.cell (p := ⟨w.heap.size, 2, none⟩) zW).trans d2, (hU.cell (p := ⟨w.heap.size, 3, none⟩) zW).trans d3, (hU.cell (p := ⟨w.heap.size, 4, none⟩) zW).trans d4⟩, (hU.cell (p := ⟨2, k * 4, none⟩) zhW).trans f0, (hU.cell (p := ⟨2, k * 4 + 1, none⟩) zhW).trans f1, (hU.cell (p := ⟨2, k * 4 + 2, none⟩) zhW).trans f2, (hU.cell (p := ⟨2, k * 4 + 3, none⟩) zhW).trans f3⟩
    clear d0 d1 d2 d3 d4 f0 f1 f2 f3
    go_cut [3, 4] (fun s3 s4 wc => ∃ b3 b4 : Nat, s3 = .pointer (some ⟨b3, 0, none⟩) ∧ s4 = .pointer (some ⟨b4, 0, none⟩) ∧ Bools wc b3 [h0, h1, h2, h3] ∧ Nms wc b4 [c1, c2, c3, c4] ∧ Below W.heap.size W wc)
    case first =>
      refine wp_region_inv (by kernel_rfl) [11, 12, 13, 14, 15, 16, 3, 4] (fun L T u => ∃ (b3 : Nat) (b4 : Nat), Below W.heap.size W u ∧ (L 0 = true → T 11 = .pointer (some ⟨w.heap.size, 0, none⟩)) ∧ (L 1 = true → T 12 = .int .i64 (k : Int)) ∧ (L 2 = true → T 13 = .pointer (some ⟨2, k * 4, none⟩)) ∧ (L 3 = true → T 14 = .agg #[.bool h0, .bool h1, .bool h2, .bool h3]) ∧ (L 4 = true → T 15 = .agg #[.int .i64 (k : Int), .int .i64 c1, .int .i64 c2, .int .i64 c3, .int .i64 c4]) ∧ (L 5 = true → T 16 = .agg #[.int .i64 c1, .int .i64 c2, .int .i64 c3, .int .i64 c4]) ∧ (L 6 = true → (T 3 = .pointer (some ⟨b3, 0, none⟩) ∧ W.heap.size ≤ b3 ∧ b3 < u.heap.size)) ∧ (L 7 = true → (T 4 = .pointer (some ⟨b4, 0, none⟩) ∧ W.heap.size ≤ b4 ∧ b4 < u.heap.size)) ∧ (L 6 = true → L 7 = true → b3 ≠ b4) ∧ (L 6 = true → L 8 = false → BoxN u b3 4 [.bool false, .bool false, .bool false, .bool false]) ∧ (L 7 = true → L 9 = false → BoxN u b4 4 [.int .i64 0, .int .i64 0, .int .i64 0, .int .i64 0]) ∧ (L 8 = true → BoxN u b3 4 [.bool h0, .bool h1, .bool h2, .bool h3]) ∧ (L 9 = true → BoxN u b4 4 [.int .i64 c1, .int .i64 c2, .int .i64 c3, .int .i64 c4])) (by decide) (by kernel_rfl) (by kernel_rfl) ?_ ?_ ?_
      · exact ⟨0, 0, (Below.refl _ _).drew, nofun, nofun, nofun, nofun, nofun, nofun, nofun, nofun, nofun, nofun, nofun, nofun, nofun⟩
      · refine ⟨?_, ?_, ?_, ?_, ?_, ?_, ?_, ?_, ?_, ?_, trivial⟩
        · rintro L T u hd hk hcl ⟨b3, b4, hb, p0, p1, p2, p3, p4, p5, p6, p7, ap, z3, z4, q3, q4⟩ K hK
          simp only [fr, Act.put, List.setIfInBounds_toArray, List.set_cons_zero, List.set_cons_succ, updO] at hK ⊢
          simp [Region.binds] at hd
          rw [if_pos (by rfl)]
          simp only [Oper.wpv]
          go_simp
          exact hK _ _ ⟨b3, b4, hb, fun _ => rfl, p1, p2, p3, p4, p5, p6, p7, ap, z3, z4, q3, q4⟩
        · rintro L T u hd hk hcl ⟨b3, b4, hb, p0, p1, p2, p3, p4, p5, p6, p7, ap, z3, z4, q3, q4⟩ K hK
          simp only [fr, Act.put, List.setIfInBounds_toArray, List.set_cons_zero, List.set_cons_succ, updO] at hK ⊢
          simp [Region.binds] at hd
          have e0 := p0 (by simp [hd])
          obtain ⟨⟨d0, d1, d2, d3, d4⟩, f0, f1, f2, f3⟩ := KC.out u hb
          rw [if_pos (by rfl)]
          simp only [Oper.wpv]
          go_simp
          exact hK _ _ ⟨b3, b4, hb, p0, fun _ => rfl, p2, p3, p4, p5, p6, p7, ap, z3, z4, q3, q4⟩
        · rintro L T u hd hk hcl ⟨b3, b4, hb, p0, p1, p2, p3, p4, p5, p6, p7, ap, z3, z4, q3, q4⟩ K hK
          simp only [fr, Act.put, List.setIfInBounds_toArray, List.set_cons_zero, List.set_cons_succ, updO] at hK ⊢
          simp [Region.binds] at hd
          have e0 := p1 (by simp [hd])
          have k0 : (0 : Int) ≤ (k : Int) := by omega
          rw [if_pos (by rfl)]
          simp only [Oper.wpv]
          go_simp
          exact hK _ _ ⟨b3, b4, hb, p0, p1, fun _ => rfl, p3, p4, p5, p6, p7, ap, z3, z4, q3, q4⟩
        · rintro L T u hd hk hcl ⟨b3, b4, hb, p0, p1, p2, p3, p4, p5, p6, p7, ap, z3, z4, q3, q4⟩ K hK
          simp only [fr, Act.put, List.setIfInBounds_toArray, List.set_cons_zero, List.set_cons_succ, updO] at hK ⊢
          simp [Region.binds] at hd
          have e0 := p2 (by simp [hd])
          obtain ⟨⟨d0, d1, d2, d3, d4⟩, f0, f1, f2, f3⟩ := KC.out u hb
          rw [if_pos (by rfl)]
          simp only [Oper.wpv]
          go_simp
          exact hK _ _ ⟨b3, b4, hb, p0, p1, p2, fun _ => rfl, p4, p5, p6, p7, ap, z3, z4, q3, q4⟩
        · rintro L T u hd hk hcl ⟨b3, b4, hb, p0, p1, p2, p3, p4, p5, p6, p7, ap, z3, z4, q3, q4⟩ K hK
          simp only [fr, Act.put, List.setIfInBounds_toArray, List.set_cons_zero, List.set_cons_succ, updO] at hK ⊢
          simp [Region.binds] at hd
          obtain ⟨⟨d0, d1, d2, d3, d4⟩, f0, f1, f2, f3⟩ := KC.out u hb
          rw [if_pos (by rfl)]
          simp only [Oper.wpv]
          go_simp
          exact hK _ _ ⟨b3, b4, hb, p0, p1, p2, p3, fun _ => rfl, p5, p6, p7, ap, z3, z4, q3, q4⟩
        · rintro L T u hd hk hcl ⟨b3, b4, hb, p0, p1, p2, p3, p4, p5, p6, p7, ap, z3, z4, q3, q4⟩ K hK
          simp only [fr, Act.put, List.setIfInBounds_toArray, List.set_cons_zero, List.set_cons_succ, updO] at hK ⊢
          simp [Region.binds] at hd
          have e0 := p4 (by simp [hd])
          rw [if_pos (by rfl)]
          simp only [Oper.wpv]
          go_simp
          refine (callParts_any _ _ _ _ _ _).mono ?_
          rintro e u1 ⟨rfl, hg⟩
          exact hK _ _ ⟨b3, b4, (nT hb hg), p0, p1, p2, p3, p4, fun _ => rfl, fun h0 => ⟨(p6 h0).1, (p6 h0).2.1, Nat.lt_of_lt_of_le (p6 h0).2.2 hg.size⟩, fun h0 => ⟨(p7 h0).1, (p7 h0).2.1, Nat.lt_of_lt_of_le (p7 h0).2.2 hg.size⟩, ap, fun h0 h1 => (z3 h0 h1).below hg (z3 h0 h1).lt, fun h0 h1 => (z4 h0 h1).below hg (z4 h0 h1).lt, fun h0 => (q3 h0).below hg (q3 h0).lt, fun h0 => (q4 h0).below hg (q4 h0).lt⟩
        · rintro L T u hd hk hcl ⟨b3, b4, hb, p0, p1, p2, p3, p4, p5, p6, p7, ap, z3, z4, q3, q4⟩ K hK
          simp only [fr, Act.put, List.setIfInBounds_toArray, List.set_cons_zero, List.set_cons_succ, updO] at hK ⊢
          simp [Region.binds] at hd
          have hg : Below u.heap.size u (u.alloc (.cells #[.bool false, .bool false, .bool false, .bool false] 111)) := (Below.refl _ _).alloc (Nat.le_refl _) _
          have c8 := hcl 8 _ rfl
          simp [Region.binds] at c8
          rw [if_pos (by rfl)]
          simp only [Oper.wpv]
          go_simp
          exact hK _ _ ⟨u.heap.size, b4, (nT hb hg), p0, p1, p2, p3, p4, p5, fun _ => ⟨rfl, hb.size, by simp⟩, fun h0 => ⟨(p7 h0).1, (p7 h0).2.1, Nat.lt_of_lt_of_le (p7 h0).2.2 hg.size⟩, fun _ h1 => (Nat.ne_of_lt (p7 h1).2.2).symm, fun _ _ => boxn_new u #[.bool false, .bool false, .bool false, .bool false] 111 4 rfl, fun h0 h1 => (z4 h0 h1).below hg (z4 h0 h1).lt, fun h => by have := c8 h; simp [hk] at this, fun h0 => (q4 h0).below hg (q4 h0).lt⟩
        · rintro L T u hd hk hcl ⟨b3, b4, hb, p0, p1, p2, p3, p4, p5, p6, p7, ap, z3, z4, q3, q4⟩ K hK
          simp only [fr, Act.put, List.setIfInBounds_toArray, List.set_cons_zero, List.set_cons_succ, updO] at hK ⊢
          simp [Region.binds] at hd
          have hg : Below u.heap.size u (u.alloc (.cells #[.int .i64 0, .int .i64 0, .int .i64 0, .int .i64 0] 113)) := (Below.refl _ _).alloc (Nat.le_refl _) _
          have c9 := hcl 9 _ rfl
          simp [Region.binds] at c9
          rw [if_pos (by rfl)]
          simp only [Oper.wpv]
          go_simp
          exact hK _ _ ⟨b3, u.heap.size, (nT hb hg), p0, p1, p2, p3, p4, p5, fun h0 => ⟨(p6 h0).1, (p6 h0).2.1, Nat.lt_of_lt_of_le (p6 h0).2.2 hg.size⟩, fun _ => ⟨rfl, hb.size, by simp⟩, fun h0 _ => Nat.ne_of_lt (p6 h0).2.2, fun h0 h1 => (z3 h0 h1).below hg (z3 h0 h1).lt, fun _ _ => boxn_new u #[.int .i64 0, .int .i64 0, .int .i64 0, .int .i64 0] 113 4 rfl, fun h0 => (q3 h0).below hg (q3 h0).lt, fun h => by have := c9 h; simp [hk] at this⟩
        · rintro L T u hd hk hcl ⟨b3, b4, hb, p0, p1, p2, p3, p4, p5, p6, p7, ap, z3, z4, q3, q4⟩ K hK
          simp only [fr, Act.put, List.setIfInBounds_toArray, List.set_cons_zero, List.set_cons_succ, updO] at hK ⊢
          simp [Region.binds] at hd
          have e3 := p3 (by simp [hd])
          obtain ⟨e0, l0, l1⟩ := p6 (by simp [hd])
          have bx := z3 (by simp [hd]) hk
          have x0 : _ = some _ := (bx.c 0 (by decide)).1
          have y0 := (bx.c 0 (by decide)).2
          have x1 : _ = some _ := (bx.c 1 (by decide)).1
          have y1 := (bx.c 1 (by decide)).2
          have x2 : _ = some _ := (bx.c 2 (by decide)).1
          have y2 := (bx.c 2 (by decide)).2
          have x3 : _ = some _ := (bx.c 3 (by decide)).1
          have y3 := (bx.c 3 (by decide)).2
          simp only [List.getD_cons_zero, List.getD_cons_succ] at x0 x1 x2 x3
          have c9 := hcl 9 _ rfl
          simp [Region.binds] at c9
          rw [if_pos (by rfl)]
          simp only [Oper.wpv]
          go_simp
          exact hK _ _ ⟨b3, b4, (nS (nS (nS (nS hb l0 _) l0 _) l0 _) l0 _), p0, p1, p2, p3, p4, p5, fun h0 => ⟨(p6 h0).1, (p6 h0).2.1, by simpa using (p6 h0).2.2⟩, fun h0 => ⟨(p7 h0).1, (p7 h0).2.1, by simpa using (p7 h0).2.2⟩, ap, fun _ h => Bool.noConfusion (show true = false from h), fun h0 h1 => (((((z4 h0 h1).far (Ne.symm (ap (by simp [hd]) h0))).far (Ne.symm (ap (by simp [hd]) h0))).far (Ne.symm (ap (by simp [hd]) h0))).far (Ne.symm (ap (by simp [hd]) h0))), fun _ => ((((bx.set 0 (by decide) (.bool h0)).set 1 (by decide) (.bool h1)).set 2 (by decide) (.bool h2)).set 3 (by decide) (.bool h3)), fun h0 => (((((q4 h0).far (Ne.symm (ap (by simp [hd]) (by simp [c9 h0])))).far (Ne.symm (ap (by simp [hd]) (by simp [c9 h0])))).far (Ne.symm (ap (by simp [hd]) (by simp [c9 h0])))).far (Ne.symm (ap (by simp [hd]) (by simp [c9 h0]))))⟩
        · rintro L T u hd hk hcl ⟨b3, b4, hb, p0, p1, p2, p3, p4, p5, p6, p7, ap, z3, z4, q3, q4⟩ K hK
          simp only [fr, Act.put, List.setIfInBounds_toArray, List.set_cons_zero, List.set_cons_succ, updO] at hK ⊢
          simp [Region.binds] at hd
          have e3 := p5 (by simp [hd])
          obtain ⟨e0, l0, l1⟩ := p7 (by simp [hd])
          have bx := z4 (by simp [hd]) hk
          have x0 : _ = some _ := (bx.c 0 (by decide)).1
          have y0 := (bx.c 0 (by decide)).2
          have x1 : _ = some _ := (bx.c 1 (by decide)).1
          have y1 := (bx.c 1 (by decide)).2
          have x2 : _ = some _ := (bx.c 2 (by decide)).1
          have y2 := (bx.c 2 (by decide)).2
          have x3 : _ = some _ := (bx.c 3 (by decide)).1
          have y3 := (bx.c 3 (by decide)).2
          simp only [List.getD_cons_zero, List.getD_cons_succ] at x0 x1 x2 x3
          have c8 := hcl 8 _ rfl
          simp [Region.binds] at c8
          rw [if_pos (by rfl)]
          simp only [Oper.wpv]
          go_simp
          exact hK _ _ ⟨b3, b4, (nS (nS (nS (nS hb l0 _) l0 _) l0 _) l0 _), p0, p1, p2, p3, p4, p5, fun h0 => ⟨(p6 h0).1, (p6 h0).2.1, by simpa using (p6 h0).2.2⟩, fun h0 => ⟨(p7 h0).1, (p7 h0).2.1, by simpa using (p7 h0).2.2⟩, ap, fun h0 h1 => (((((z3 h0 h1).far (ap h0 (by simp [hd]))).far (ap h0 (by simp [hd]))).far (ap h0 (by simp [hd]))).far (ap h0 (by simp [hd]))), fun _ h => Bool.noConfusion (show true = false from h), fun h0 => (((((q3 h0).far (ap (by simp [c8 h0]) (by simp [hd]))).far (ap (by simp [c8 h0]) (by simp [hd]))).far (ap (by simp [c8 h0]) (by simp [hd]))).far (ap (by simp [c8 h0]) (by simp [hd]))), fun _ => ((((bx.set 0 (by decide) (.int .i64 c1)).set 1 (by decide) (.int .i64 c2)).set 2 (by decide) (.int .i64 c3)).set 3 (by decide) (.int .i64 c4))⟩
      · rintro L T u hl ⟨b3, b4, hb, p0, p1, p2, p3, p4, p5, p6, p7, ap, z3, z4, q3, q4⟩
        simp only [fr, Act.put, List.setIfInBounds_toArray, List.set_cons_zero, List.set_cons_succ]
        obtain ⟨e3, _, _⟩ := p6 (hl 6 (by decide))
        obtain ⟨e4, _, _⟩ := p7 (hl 7 (by decide))
        have bx3 := q3 (hl 8 (by decide))
        have bx4 := q4 (hl 9 (by decide))
        have HE : Hid (T 3 = .pointer (some ⟨b3, 0, none⟩) ∧ T 4 = .pointer (some ⟨b4, 0, none⟩)) := ⟨e3, e4⟩
        clear e3 e4 p0 p1 p2 p3 p4 p5 p6 p7 ap z3 z4 q3 q4
        go_wp2_with fail
        go_meet
        case rel => exact ⟨b3, b4, HE.out.1, HE.out.2, Bools.of (hs := [h0, h1, h2, h3]) bx3, Nms.of (ps := [c1, c2, c3, c4]) bx4, hb⟩
    case rest =>
      obtain ⟨b3, b4, rfl, rfl, hB3, hN4, bX⟩ := hcut
      obtain ⟨X, eX⟩ : ∃ X, X = wc := ⟨_, rfl⟩
      rw [← eX] at hB3 hN4 bX ⊢
      clear eX KC
      have hT : CTops X := ht.below (hB.trans (bX.mono hB.size)) ht.1
      obtain ⟨zt, ct⟩ := hT
      have t0 := ct 0 (by decide)
      have t1 := ct 1 (by decide)
      have t2 := ct 2 (by decide)
      have t3 := ct 3 (by decide)
      simp only [cTops, List.getD_cons_zero, List.getD_cons_succ] at t0 t1 t2 t3
      have HOnly := fun U (hU : Below X.heap.size X U) => onlyHas_any b3 b4 4 [h0, h1, h2, h3] [c1, c2, c3, c4] U rfl rfl (by decide) (hB3.below hU hB3.1) (hN4.below hU hN4.1)
      have HO : Hid (∀ U, Below X.heap.size X U → Calls Tryd.prog 41 #[.slice (some ⟨b3, 0, none⟩) 4 4, .slice (some ⟨b4, 0, none⟩) 4 4] U fun e w' => e = .returned (.bool (only [h0, h1, h2, h3] [c1, c2, c3, c4])) ∧ w' = U) := HOnly
      clear HOnly
      have n0 := hN4.2 0 (by simp)
      have n1 := hN4.2 1 (by simp)
      have n2 := hN4.2 2 (by simp)
      have n3 := hN4.2 3 (by simp)
      simp only [List.getD_cons_zero, List.getD_cons_succ] at n0 n1 n2 n3
      have z3 := hB3.1
      have z4 := hN4.1
      have hBX := hB.trans (bX.mono hB.size)
      obtain ⟨O, eO⟩ : ∃ O, O = only [h0, h1, h2, h3] [c1, c2, c3, c4] := ⟨_, rfl⟩
      rw [← eO] at HF1 HO
      clear eO hh ht hB3 hN4
      clear ct
      go_upto_region 5 with (fail)
      have HT0 : Hid (inTops cTops [c1, c2, c3, c4] = inTops (cTops.drop 0) ([c1, c2, c3, c4].drop 0)) := rfl
      go_loop [5, 6, 18] (fun _ _ s18 => ∃ m : Nat, m ≤ 4 ∧ s18 = .int .i64 (m : Int) ∧ Hid (inTops cTops [c1, c2, c3, c4] = inTops (cTops.drop m) ([c1, c2, c3, c4].drop m))) (fun _ _ s18 => 4 - (intOf s18).toNat)
      case atStart => exact ⟨0, by omega, rfl, HT0.out⟩
      case round =>
        obtain ⟨m, hm, rfl, hat⟩ := hrel
        rcases (by omega : m = 0 ∨ m = 1 ∨ m = 2 ∨ m = 3 ∨ m = 4) with rfl | rfl | rfl | rfl | rfl
        · have hx := idx4_0 1048576 5 8 1073741824
          have hst : Hid (inTops cTops [c1, c2, c3, c4] = (inR c1 0 1048576 && inTops (cTops.drop 1) ([c1, c2, c3, c4].drop 1))) := by show _ = _; rw [hat.out]; exact inTops_at (by decide) (by simp)
          clear hat
          cases hr : inR c1 0 1048576 with
          | false =>
            have hf : Hid (F = 2) := by show _ = _; rw [HF1.out, if_pos (by rw [hst.out, hr]; rfl)]
            clear hst
            go_wp2_with (go_at_call 36; refine (within_any _ _ _ _).mono ?_; rintro e u1 ⟨rfl, hu1⟩; rw [hu1]; clear hu1)
            go_ret
            exact ⟨ret_int hf.out.symm, hBX⟩
          | true =>
            have hn : Hid (inTops cTops [c1, c2, c3, c4] = inTops (cTops.drop 1) ([c1, c2, c3, c4].drop 1)) := by show _ = _; rw [hst.out, hr]; rfl
            clear hst
            go_wp2_with (go_at_call 36; refine (within_any _ _ _ _).mono ?_; rintro e u1 ⟨rfl, hu1⟩; rw [hu1]; clear hu1)
            go_round
            case rel => exact ⟨1, by omega, by go_num, hn.out⟩
            case measure => simp [intOf]
        · have hx := idx4_1 1048576 5 8 1073741824
          have hst : Hid (inTops cTops [c1, c2, c3, c4] = (inR c2 0 5 && inTops (cTops.drop 2) ([c1, c2, c3, c4].drop 2))) := by show _ = _; rw [hat.out]; exact inTops_at (by decide) (by simp)
          clear hat
          cases hr : inR c2 0 5 with
          | false =>
            have hf : Hid (F = 2) := by show _ = _; rw [HF1.out, if_pos (by rw [hst.out, hr]; rfl)]
            clear hst
            go_wp2_with (go_at_call 36; refine (within_any _ _ _ _).mono ?_; rintro e u1 ⟨rfl, hu1⟩; rw [hu1]; clear hu1)
            go_ret
            exact ⟨ret_int hf.out.symm, hBX⟩
          | true =>
            have hn : Hid (inTops cTops [c1, c2, c3, c4] = inTops (cTops.drop 2) ([c1, c2, c3, c4].drop 2)) := by show _ = _; rw [hst.out, hr]; rfl
            clear hst
            go_wp2_with (go_at_call 36; refine (within_any _ _ _ _).mono ?_; rintro e u1 ⟨rfl, hu1⟩; rw [hu1]; clear hu1)
            go_round
            case rel => exact ⟨2, by omega, by go_num, hn.out⟩
            case measure => simp [intOf]
        · have hx := idx4_2 1048576 5 8 1073741824
          have hst : Hid (inTops cTops [c1, c2, c3, c4] = (inR c3 0 8 && inTops (cTops.drop 3) ([c1, c2, c3, c4].drop 3))) := by show _ = _; rw [hat.out]; exact inTops_at (by decide) (by simp)
          clear hat
          cases hr : inR c3 0 8 with
          | false =>
            have hf : Hid (F = 2) := by show _ = _; rw [HF1.out, if_pos (by rw [hst.out, hr]; rfl)]
            clear hst
            go_wp2_with (go_at_call 36; refine (within_any _ _ _ _).mono ?_; rintro e u1 ⟨rfl, hu1⟩; rw [hu1]; clear hu1)
            go_ret
            exact ⟨ret_int hf.out.symm, hBX⟩
          | true =>
            have hn : Hid (inTops cTops [c1, c2, c3, c4] = inTops (cTops.drop 3) ([c1, c2, c3, c4].drop 3)) := by show _ = _; rw [hst.out, hr]; rfl
            clear hst
            go_wp2_with (go_at_call 36; refine (within_any _ _ _ _).mono ?_; rintro e u1 ⟨rfl, hu1⟩; rw [hu1]; clear hu1)
            go_round
            case rel => exact ⟨3, by omega, by go_num, hn.out⟩
            case measure => simp [intOf]
        · have hx := idx4_3 1048576 5 8 1073741824
          have hst : Hid (inTops cTops [c1, c2, c3, c4] = (inR c4 0 1073741824 && inTops (cTops.drop 4) ([c1, c2, c3, c4].drop 4))) := by show _ = _; rw [hat.out]; exact inTops_at (by decide) (by simp)
          clear hat
          cases hr : inR c4 0 1073741824 with
          | false =>
            have hf : Hid (F = 2) := by show _ = _; rw [HF1.out, if_pos (by rw [hst.out, hr]; rfl)]
            clear hst
            go_wp2_with (go_at_call 36; refine (within_any _ _ _ _).mono ?_; rintro e u1 ⟨rfl, hu1⟩; rw [hu1]; clear hu1)
            go_ret
            exact ⟨ret_int hf.out.symm, hBX⟩
          | true =>
            have hn : Hid (inTops cTops [c1, c2, c3, c4] = inTops (cTops.drop 4) ([c1, c2, c3, c4].drop 4)) := by show _ = _; rw [hst.out, hr]; rfl
            clear hst
            go_wp2_with (go_at_call 36; refine (within_any _ _ _ _).mono ?_; rintro e u1 ⟨rfl, hu1⟩; rw [hu1]; clear hu1)
            go_round
            case rel => exact ⟨4, by omega, by go_num, hn.out⟩
            case measure => simp [intOf]
        · have HF2 : Hid (F = if O = false then 4 else 0) := by show _ = _; rw [HF1.out, if_neg (by rw [hat.out]; simp [cTops, inTops])]
          clear hat HF1
          go_upto_region 10 with (fail)
          go_region_with ((go_at_call 41; refine (HO.out _ ((Below.refl _ _).drew)).mono ?_; rintro e u2 ⟨rfl, hu⟩; rw [hu]; clear hu))
          cases O with
          | false =>
            go_wp2
            go_ret
            exact ⟨ret_int HF2.out.symm, hBX.drew⟩
          | true =>
            go_wp2
            go_ret
            exact ⟨ret_int HF2.out.symm, hBX.drew⟩
end Go.Proofs.YtlaagfnoepcnlaaDoor.Ln
/- Contracts of label.hasLabel and label.hides: whether an act of a kind is of a label, and whether a label's place is one that another one does not see. -/
namespace Go.Proofs.YtlaagfnoepcnlaaDoor
open Go.ChangeShapes Go.WideShapes Go.ChangeAt Go.RowKit
set_option linter.unusedVariables false

end Go.Proofs.YtlaagfnoepcnlaaDoor
/- A slice of the call's own, of integers: a number stored into it; and that it is a slice of integers as one that came in. -/
namespace Go.Proofs.YtlaagfnoepcnlaaDoor
open Go.ChangeShapes Go.WideShapes Go.ChangeAt Go.RowKit

theorem Below.toGrown' {w w' : World} (h : Below w.heap.size w w') : w.grownBy w' none := ⟨h.os, h.tape, h.output, h.size, fun k hk _ => h.block k hk⟩
theorem own_below' {w w' : World} {base : Nat} {e : TypeId} {size : Nat} {v : Value} {n : Nat} {xs : List Value} (h : w.ownsRow base e size v n xs) (hb : Below w.heap.size w w') : w'.ownsRow base e size v n xs :=
  h.kept (Below.toGrown' hb) (by cases hv : v.ownBlock <;> simp)

theorem own_base {w : World} {b c : Nat} {e : TypeId} {size : Nat} {v : Value} {n : Nat} {xs : List Value} (h : w.ownsRow b e size v n xs) (hc : c ≤ b) : w.ownsRow c e size v n xs := by
  refine ⟨h.1, ?_⟩
  rcases h.2 with h2 | ⟨g, cap, cur, hv, hb, r⟩
  · exact .inl h2
  · exact .inr ⟨g, cap, cur, hv, Nat.le_trans hc hb, r⟩

/-- Two rows of the call's own whose elements are of two types lie in two blocks. -/
theorem own_apart {w : World} {b b' : Nat} {e e' : TypeId} {size size' : Nat} {v v' : Value} {n n' : Nat} {xs xs' : List Value} (h : w.ownsRow b e size v n xs) (h' : w.ownsRow b' e' size' v' n' xs') (hne : e ≠ e') : v.ownBlock = none ∨ v.ownBlock ≠ v'.ownBlock := by
  rcases h.2 with ⟨rfl, _⟩ | ⟨g, cap, cur, rfl, _, hg, _⟩
  · exact .inl rfl
  · right
    intro he
    rcases h'.2 with ⟨rfl, _⟩ | ⟨g', cap', cur', rfl, _, hg', _⟩
    · simp [Value.ownBlock] at he
    · simp [Value.ownBlock] at he
      subst he
      rw [hg] at hg'
      simp at hg'
      exact hne hg'.2

theorem own_form {w : World} {base : Nat} {e : TypeId} {size : Nat} {v : Value} {n : Nat} {xs : List Value} (h : w.ownsRow base e size v n xs) : ∃ ao cp, v = .slice ao n cp ∧ n ≤ cp ∧ cp ≤ maxLen := by
  rcases h.2 with ⟨rfl, rfl⟩ | ⟨g, cap, cur, rfl, _, _, h1, h2, _⟩
  · exact ⟨none, 0, rfl, Nat.le_refl _, Nat.zero_le _⟩
  · exact ⟨_, _, rfl, h1, h2⟩

/-- One number stored into the row. -/
theorem own_set {w : World} {base : Nat} {e : TypeId} {g n cap : Nat} {xs : List Value} (h : w.ownsRow base e 1 (.slice (some ⟨g, 0, none⟩) n cap) n xs) {k : Nat} (hk : k < n) (u : Value) :
    (w.setCell ⟨g, k, none⟩ u).ownsRow base e 1 (.slice (some ⟨g, 0, none⟩) n cap) n (xs.set k u) ∧ w.frozen? ⟨g, k, none⟩ = false ∧ (∃ v, w.cell? ⟨g, k, none⟩ = some v) := by
  obtain ⟨hl, h2⟩ := h
  rcases h2 with ⟨hv, hn⟩ | ⟨g', cap', cur, hv, hb, hg, h1, h3, hs, ht⟩
  · omega
  · simp at hv
    obtain ⟨rfl, rfl⟩ := hv
    have hkc : k < cur.size := by omega
    refine ⟨⟨by simpa using hl, .inr ⟨g, cap, cur.setIfInBounds k u, rfl, hb, heap_setCell_same w g k cur e u hg, h1, h3, by simpa using hs, ?_⟩⟩, by simp [World.frozen?, hg], ?_⟩
    · rw [← ht, Array.toList_setIfInBounds, List.take_set]
    · exact ⟨cur[k], by simp [World.cell?, hg, hkc]⟩

/-- A row of the call's own holds its numbers as one that came in does. -/
theorem ints_of_own {w : World} {base : Nat} {ao : Option Addr} {n cp : Nat} {zs : List Int} (h : w.ownsRow base 3 1 (.slice ao n cp) n (zs.map (Value.int .i64))) (hz : ∀ i, -9223372036854775808 ≤ zs.getD i 0 ∧ zs.getD i 0 ≤ 9223372036854775807) : IsInts w ao n cp zs := by
  have hl : zs.length = n := by have := h.1; simpa using this
  obtain ⟨ao', cp', e, h1, h2⟩ := own_form h
  simp at e
  obtain ⟨rfl, rfl⟩ := e
  refine ⟨hl, h1, h2, hz, fun hp => ?_⟩
  rcases h.2 with ⟨hv, hn⟩ | ⟨g, cap, cur, hv, hb, hg, _⟩
  · omega
  · simp at hv
    obtain ⟨rfl, rfl⟩ := hv
    refine ⟨g, 0, rfl, (h.lt g rfl).2, fun i hi => ?_⟩
    have hi' : i < zs.length := by omega
    have := h.cells (g := g) rfl i (.int .i64 (zs.getD i 0)) (by simp [List.getD, hi'])
    have e : (⟨g, 0, none⟩ : Addr).add i = ⟨g, 0 + i, none⟩ := by
      unfold Addr.add
      by_cases hj : i = 0 <;> simp [hj]
    rwa [e] at this
end Go.Proofs.YtlaagfnoepcnlaaDoor
