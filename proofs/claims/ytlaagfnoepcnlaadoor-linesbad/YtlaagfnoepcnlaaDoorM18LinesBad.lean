/- Texts of this claim, one behind the other. -/
import Derived.Test.YtlaagfnoepcnlaaDoorM17LinesBad
import Derived.Test.YtlaagfnoepcnlaaDoorM14LinesBad
import Derived.Test.YtlaagfnoepcnlaaDoorM13LinesBad
/- lines.appendCall: a call's words. -/
namespace Go.Proofs.YtlaagfnoepcnlaaDoor.Ln
open Go.ChangeShapes Go.WideShapes Go.ChangeAt Go.RowKit
open Go.Proofs.YtlaagfnoepcnlaaDoor.St (BoxN boxn_new own_below IsRow Elem flat flat_append own_isRow)
set_option linter.unusedVariables false

def cWord (k : Nat) : ByteArray := match k with
  | 1 => ⟨#[98, 101, 103, 105, 110]⟩
  | 2 => ⟨#[103, 101, 116]⟩
  | 3 => ⟨#[112, 117, 116]⟩
  | 4 => ⟨#[99, 111, 109, 109, 105, 116]⟩
  | 5 => ⟨#[114, 111, 108, 108, 98, 97, 99, 107]⟩
  | _ => ⟨#[]⟩
/-- The table of words. -/
def WTab (w : World) (g n : Nat) (f : Nat → ByteArray) : Prop := g < w.heap.size ∧ ∀ i, i < n → w.cell? ⟨g, i, none⟩ = some (.string (f i))
theorem WTab.below {w w' : World} {B g n : Nat} {f : Nat → ByteArray} (h : WTab w g n f) (hb : Below B w w') (hB : g < B) : WTab w' g n f :=
  ⟨Nat.lt_of_lt_of_le h.1 hb.size, fun i hi => (hb.cell (p := ⟨g, i, none⟩) hB).trans (h.2 i hi)⟩
def callW (c0 c1 c2 c3 c4 : Int) : List ByteArray := cWord c0.toNat :: numsW (cHas.getD c0.toNat []) [c1, c2, c3, c4]
set_option maxRecDepth 100000 in
set_option maxHeartbeats 8000000 in
theorem appendCall_any (B : Nat) (a : Option Addr) (c : Nat) (ws : List ByteArray) (k : Nat) (c1 c2 c3 c4 : Int) (w : World) (hB0 : B ≤ w.heap.size) (k6 : k < 6)
    (hO : w.ownsRow B 9 1 (.slice a ws.length c) ws.length (flat stC ws)) (hw : ws.length ≤ 900) (i1 : i64n c1) (i2 : i64n c2) (i3 : i64n c3) (i4 : i64n c4)
    (hT : ∀ U, Below B w U → Lib.TabIs Tryd.prog U "internal/strconv.uint64pow10" .u64 Lib.pow10Tab) (hh : Tab w 2 4 cHas) (hcw : WTab w 4 6 cWord) (hg1 : 2 < B) (hg2 : 4 < B) :
    Calls Tryd.prog 47 #[.slice a ws.length c, .agg #[.int .i64 (k : Int), .int .i64 c1, .int .i64 c2, .int .i64 c3, .int .i64 c4]] w fun e w' => WordsTo B w w' e (.slice a ws.length c) (ws ++ callW k c1 c2 c3 c4) := by
  obtain ⟨iE, ES⟩ := stElem
  have zh := hh.lt (by decide) (by decide)
  have k6' : (k : Int) < 6 := by omega
  obtain ⟨R, eR⟩ : ∃ R, R = ws ++ callW k c1 c2 c3 c4 := ⟨_, rfl⟩
  have HR : Hid (R = (ws ++ [cWord k]) ++ numsW (cHas.getD k []) [c1, c2, c3, c4]) := by show _ = _; rw [eR]; simp [callW]
  rw [← eR]
  clear eR
  obtain ⟨v0, ev0⟩ : ∃ v, v = Value.slice a ws.length c := ⟨_, rfl⟩
  have EV : Hid (v0 = Value.slice a ws.length c) := ev0
  rw [← ev0]
  clear ev0
  obtain ⟨W, hW⟩ : ∃ W : World, W = w.alloc (.cells #[.int .i64 (k : Int), .int .i64 c1, .int .i64 c2, .int .i64 c3, .int .i64 c4] 39) := ⟨_, rfl⟩
  have hB : Below w.heap.size w W := by rw [hW]; exact (Below.refl _ _).alloc (Nat.le_refl _) _
  have zW : w.heap.size < W.heap.size := by rw [hW]; simp
  have d0 : W.cell? ⟨w.heap.size, 0, none⟩ = some (.int .i64 (k : Int)) := by rw [hW]; go_simp
  have d1 : W.cell? ⟨w.heap.size, 1, none⟩ = some (.int .i64 c1) := by rw [hW]; go_simp
  have d2 : W.cell? ⟨w.heap.size, 2, none⟩ = some (.int .i64 c2) := by rw [hW]; go_simp
  have d3 : W.cell? ⟨w.heap.size, 3, none⟩ = some (.int .i64 c3) := by rw [hW]; go_simp
  have d4 : W.cell? ⟨w.heap.size, 4, none⟩ = some (.int .i64 c4) := by rw [hW]; go_simp
  have HCW : Hid (∀ U, Below w.heap.size w U → U.cell? ⟨4, k, none⟩ = some (.string (cWord k)) ∧ 4 < U.heap.size) := fun U hU => ⟨(hcw.below hU hcw.1).2 k k6, (hcw.below hU hcw.1).1⟩
  have HK : Hid (∀ U, Below W.heap.size W U → U.cell? ⟨w.heap.size, 0, none⟩ = some (.int .i64 (k : Int)) ∧ w.heap.size < U.heap.size) := fun U hU => ⟨(hU.cell (p := ⟨w.heap.size, 0, none⟩) zW).trans d0, Nat.lt_of_lt_of_le zW hU.size⟩
  have hhW : Tab W 2 4 cHas := hh.below hB zh
  go_enter Tryd.func47, Tryd.ntmps47
  go_upto_region 1 with (fail)
  rw [← hW]
  clear hW
  have EH := cHas_four k k6
  have f0 := (hhW) k 0 k6 (by decide)
  have f1 := (hhW) k 1 k6 (by decide)
  have f2 := (hhW) k 2 k6 (by decide)
  have f3 := (hhW) k 3 k6 (by decide)
  obtain ⟨h0, eh0⟩ : ∃ x, x = (cHas.getD k []).getD 0 false := ⟨_, rfl⟩
  obtain ⟨h1, eh1⟩ : ∃ x, x = (cHas.getD k []).getD 1 false := ⟨_, rfl⟩
  obtain ⟨h2, eh2⟩ : ∃ x, x = (cHas.getD k []).getD 2 false := ⟨_, rfl⟩
  obtain ⟨h3, eh3⟩ : ∃ x, x = (cHas.getD k []).getD 3 false := ⟨_, rfl⟩
  rw [← eh0, ← eh1, ← eh2, ← eh3] at EH
  rw [← eh0] at f0
  rw [← eh1] at f1
  rw [← eh2] at f2
  rw [← eh3] at f3
  clear eh0 eh1 eh2 eh3
  simp only [Nat.add_zero] at f0
  rw [EH] at HR
  clear EH
  have zhW : 2 < W.heap.size := by omega

  have KC : Hid (∀ U : World, Below W.heap.size W U → (U.cell? ⟨w.heap.size, 0, none⟩ = some (.int .i64 (k : Int)) ∧ U.cell? ⟨w.heap.size, 1, none⟩ = some (.int .i64 c1) ∧ U.cell? ⟨w.heap.size, 2, none⟩ = some (.int .i64 c2) ∧ U.cell? ⟨w.heap.size, 3, none⟩ = some (.int .i64 c3) ∧ U.cell? ⟨w.heap.size, 4, none⟩ = some (.int .i64 c4)) ∧ U.cell? ⟨2, k * 4, none⟩ = some (.bool h0) ∧ U.cell? ⟨2, k * 4 + 1, none⟩ = some (.bool h1) ∧ U.cell? ⟨2, k * 4 + 2, none⟩ = some (.bool h2) ∧ U.cell? ⟨2, k * 4 + 3, none⟩ = some (.bool h3)) := fun U hU => ⟨⟨(hU.cell (p := ⟨w.heap.size, 0, none⟩) zW).trans d0, (hU.cell (p := ⟨w.heap.size, 1, none⟩) zW).trans d1, (hU.cell (p := ⟨w.heap.size, 2, none⟩) zW).trans d2, (hU.cell (p := ⟨w.heap.size, 3, none⟩) zW).trans d3, (hU.cell (p := ⟨w.heap.size, 4, none⟩) zW).trans d4⟩, (hU.cell (p := ⟨2, k * 4, none⟩) zhW).trans f0, (hU.cell (p := ⟨2, k * 4 + 1, none⟩) zhW).trans f1, (hU.cell (p := ⟨2, k * 4 + 2, none⟩) zhW).trans f2, (hU.cell (p := ⟨2, k * 4 + 3, none⟩) zhW).trans f3⟩
  clear d0 d1 d2 d3 d4 f0 f1 f2 f3
  go_cut [5, 6] (fun s3 s4 wc => ∃ b3 b4 : Nat, s3 = .pointer (some ⟨b3, 0, none⟩) ∧ s4 = .pointer (some ⟨b4, 0, none⟩) ∧ Bools wc b3 [h0, h1, h2, h3] ∧ Nms wc b4 [c1, c2, c3, c4] ∧ Below W.heap.size W wc ∧ W.heap.size ≤ b3 ∧ W.heap.size ≤ b4)
  case first =>
    refine wp_region_inv (by kernel_rfl) [7, 8, 9, 10, 11, 12, 5, 6] (fun L T u => ∃ (b3 : Nat) (b4 : Nat), Below W.heap.size W u ∧ (L 0 = true → T 7 = .pointer (some ⟨w.heap.size, 0, none⟩)) ∧ (L 1 = true → T 8 = .int .i64 (k : Int)) ∧ (L 2 = true → T 9 = .pointer (some ⟨2, k * 4, none⟩)) ∧ (L 3 = true → T 10 = .agg #[.bool h0, .bool h1, .bool h2, .bool h3]) ∧ (L 4 = true → T 11 = .agg #[.int .i64 (k : Int), .int .i64 c1, .int .i64 c2, .int .i64 c3, .int .i64 c4]) ∧ (L 5 = true → T 12 = .agg #[.int .i64 c1, .int .i64 c2, .int .i64 c3, .int .i64 c4]) ∧ (L 6 = true → (T 5 = .pointer (some ⟨b3, 0, none⟩) ∧ W.heap.size ≤ b3 ∧ b3 < u.heap.size)) ∧ (L 7 = true → (T 6 = .pointer (some ⟨b4, 0, none⟩) ∧ W.heap.size ≤ b4 ∧ b4 < u.heap.size)) ∧ (L 6 = true → L 7 = true → b3 ≠ b4) ∧ (L 6 = true → L 8 = false → BoxN u b3 4 [.bool false, .bool false, .bool false, .bool false]) ∧ (L 7 = true → L 9 = false → BoxN u b4 4 [.int .i64 0, .int .i64 0, .int .i64 0, .int .i64 0]) ∧ (L 8 = true → BoxN u b3 4 [.bool h0, .bool h1, .bool h2, .bool h3]) ∧ (L 9 = true → BoxN u b4 4 [.int .i64 c1, .int .i64 c2, .int .i64 c3, .int .i64 c4])) (by decide) (by kernel_rfl) (by kernel_rfl) ?_ ?_ ?_
    · exact ⟨0, 0, (Below.refl _ _).drew, nofun, nofun, nofun, nofun, nofun, nofun, nofun, nofun, nofun, nofun, nofun, nofun, nofun⟩
    · refine ⟨?_, ?_, ?_, ?_, ?_, ?_, ?_, ?_, ?_, ?_, trivial⟩
      · rintro L T u hd hk hcl ⟨b3, b4, hb, p0, p1, p2, p3, p4, p5, p6, p7, ap, z3, z4, q3, q4⟩ K hK
        simp only [fr, Act.put, List.setIfInBounds_toArray, List.set_cons_zero, List.set_cons_succ, updO] at hK ⊢
        simp [Region.binds] at hd
        rw [if_pos (by rfl)]
        simp only [Oper.wpv]
        go_simp
        exact hK _ _ ⟨b3, b4, hb, fun _ => rfl, p1, p2, p3, p4, p5, p6, p7, ap, z3, z4, q3, q4⟩
      · rintro L T u hd hk hcl ⟨b3, b4, hb, p0, p1, p2, p3, p4, p5, p6, p7, ap, z3, z4, q3, q4⟩ K hK
        simp only [fr, Act.put, List.setIfInBounds_toArray, List.set_cons_zero, List.set_cons_succ, updO] at hK ⊢
        simp [Region.binds] at hd
        have e0 := p0 (by simp [hd])
        obtain ⟨⟨d0, d1, d2, d3, d4⟩, f0, f1, f2, f3⟩ := KC.out u hb
        rw [if_pos (by rfl)]
        simp only [Oper.wpv]
        go_simp
        exact hK _ _ ⟨b3, b4, hb, p0, fun _ => rfl, p2, p3, p4, p5, p6, p7, ap, z3, z4, q3, q4⟩
      · rintro L T u hd hk hcl ⟨b3, b4, hb, p0, p1, p2, p3, p4, p5, p6, p7, ap, z3, z4, q3, q4⟩ K hK
        simp only [fr, Act.put, List.setIfInBounds_toArray, List.set_cons_zero, List.set_cons_succ, updO] at hK ⊢
        simp [Region.binds] at hd
        have e0 := p1 (by simp [hd])
        have k0 : (0 : Int) ≤ (k : Int) := by omega
        rw [if_pos (by rfl)]
        simp only [Oper.wpv]
        go_simp
        exact hK _ _ ⟨b3, b4, hb, p0, p1, fun _ => rfl, p3, p4, p5, p6, p7, ap, z3, z4, q3, q4⟩
      · rintro L T u hd hk hcl ⟨b3, b4, hb, p0, p1, p2, p3, p4, p5, p6, p7, ap, z3, z4, q3, q4⟩ K hK
        simp only [fr, Act.put, List.setIfInBounds_toArray, List.set_cons_zero, List.set_cons_succ, updO] at hK ⊢
        simp [Region.binds] at hd
        have e0 := p2 (by simp [hd])
        obtain ⟨⟨d0, d1, d2, d3, d4⟩, f0, f1, f2, f3⟩ := KC.out u hb
        rw [if_pos (by rfl)]
        simp only [Oper.wpv]
        go_simp
        exact hK _ _ ⟨b3, b4, hb, p0, p1, p2, fun _ => rfl, p4, p5, p6, p7, ap, z3, z4, q3, q4⟩
      · rintro L T u hd hk hcl ⟨b3, b4, hb, p0, p1, p2, p3, p4, p5, p6, p7, ap, z3, z4, q3, q4⟩ K hK
        simp only [fr, Act.put, List.setIfInBounds_toArray, List.set_cons_zero, List.set_cons_succ, updO] at hK ⊢
        simp [Region.binds] at hd
        obtain ⟨⟨d0, d1, d2, d3, d4⟩, f0, f1, f2, f3⟩ := KC.out u hb
        rw [if_pos (by rfl)]
        simp only [Oper.wpv]
        go_simp
        exact hK _ _ ⟨b3, b4, hb, p0, p1, p2, p3, fun _ => rfl, p5, p6, p7, ap, z3, z4, q3, q4⟩
      · rintro L T u hd hk hcl ⟨b3, b4, hb, p0, p1, p2, p3, p4, p5, p6, p7, ap, z3, z4, q3, q4⟩ K hK
        simp only [fr, Act.put, List.setIfInBounds_toArray, List.set_cons_zero, List.set_cons_succ, updO] at hK ⊢
        simp [Region.binds] at hd
        have e0 := p4 (by simp [hd])
        rw [if_pos (by rfl)]
        simp only [Oper.wpv]
        go_simp
        refine (callParts_any _ _ _ _ _ _).mono ?_
        rintro e u1 ⟨rfl, hg⟩
        exact hK _ _ ⟨b3, b4, (nT hb hg), p0, p1, p2, p3, p4, fun _ => rfl, fun h0 => ⟨(p6 h0).1, (p6 h0).2.1, Nat.lt_of_lt_of_le (p6 h0).2.2 hg.size⟩, fun h0 => ⟨(p7 h0).1, (p7 h0).2.1, Nat.lt_of_lt_of_le (p7 h0).2.2 hg.size⟩, ap, fun h0 h1 => (z3 h0 h1).below hg (z3 h0 h1).lt, fun h0 h1 => (z4 h0 h1).below hg (z4 h0 h1).lt, fun h0 => (q3 h0).below hg (q3 h0).lt, fun h0 => (q4 h0).below hg (q4 h0).lt⟩
      · rintro L T u hd hk hcl ⟨b3, b4, hb, p0, p1, p2, p3, p4, p5, p6, p7, ap, z3, z4, q3, q4⟩ K hK
        simp only [fr, Act.put, List.setIfInBounds_toArray, List.set_cons_zero, List.set_cons_succ, updO] at hK ⊢
        simp [Region.binds] at hd
        have hg : Below u.heap.size u (u.alloc (.cells #[.bool false, .bool false, .bool false, .bool false] 111)) := (Below.refl _ _).alloc (Nat.le_refl _) _
        have c8 := hcl 8 _ rfl
        simp [Region.binds] at c8
        rw [if_pos (by rfl)]
        simp only [Oper.wpv]
        go_simp
        exact hK _ _ ⟨u.heap.size, b4, (nT hb hg), p0, p1, p2, p3, p4, p5, fun _ => ⟨rfl, hb.size, by simp⟩, fun h0 => ⟨(p7 h0).1, (p7 h0).2.1, Nat.lt_of_lt_of_le (p7 h0).2.2 hg.size⟩, fun _ h1 => (Nat.ne_of_lt (p7 h1).2.2).symm, fun _ _ => boxn_new u #[.bool false, .bool false, .bool false, .bool false] 111 4 rfl, fun h0 h1 => (z4 h0 h1).below hg (z4 h0 h1).lt, fun h => by have := c8 h; simp [hk] at this, fun h0 => (q4 h0).below hg (q4 h0).lt⟩
      · rintro L T u hd hk hcl ⟨b3, b4, hb, p0, p1, p2, p3, p4, p5, p6, p7, ap, z3, z4, q3, q4⟩ K hK
        simp only [fr, Act.put, List.setIfInBounds_toArray, List.set_cons_zero, List.set_cons_succ, updO] at hK ⊢
        simp [Region.binds] at hd
        have hg : Below u.heap.size u (u.alloc (.cells #[.int .i64 0, .int .i64 0, .int .i64 0, .int .i64 0] 113)) := (Below.refl _ _).alloc (Nat.le_refl _) _
        have c9 := hcl 9 _ rfl
        simp [Region.binds] at c9
        rw [if_pos (by rfl)]
        simp only [Oper.wpv]
        go_simp
        exact hK _ _ ⟨b3, u.heap.size, (nT hb hg), p0, p1, p2, p3, p4, p5, fun h0 => ⟨(p6 h0).1, (p6 h0).2.1, Nat.lt_of_lt_of_le (p6 h0).2.2 hg.size⟩, fun _ => ⟨rfl, hb.size, by simp⟩, fun h0 _ => Nat.ne_of_lt (p6 h0).2.2, fun h0 h1 => (z3 h0 h1).below hg (z3 h0 h1).lt, fun _ _ => boxn_new u #[.int .i64 0, .int .i64 0, .int .i64 0, .int .i64 0] 113 4 rfl, fun h0 => (q3 h0).below hg (q3 h0).lt, fun h => by have := c9 h; simp [hk] at this⟩
      · rintro L T u hd hk hcl ⟨b3, b4, hb, p0, p1, p2, p3, p4, p5, p6, p7, ap, z3, z4, q3, q4⟩ K hK
        simp only [fr, Act.put, List.setIfInBounds_toArray, List.set_cons_zero, List.set_cons_succ, updO] at hK ⊢
        simp [Region.binds] at hd
        have e3 := p3 (by simp [hd])
        obtain ⟨e0, l0, l1⟩ := p6 (by simp [hd])
        have bx := z3 (by simp [hd]) hk
        have x0 : _ = some _ := (bx.c 0 (by decide)).1
        have y0 := (bx.c 0 (by decide)).2
        have x1 : _ = some _ := (bx.c 1 (by decide)).1
        have y1 := (bx.c 1 (by decide)).2
        have x2 : _ = some _ := (bx.c 2 (by decide)).1
        have y2 := (bx.c 2 (by decide)).2
        have x3 : _ = some _ := (bx.c 3 (by decide)).1
        have y3 := (bx.c 3 (by decide)).2
        simp only [List.getD_cons_zero, List.getD_cons_succ] at x0 x1 x2 x3
        have c9 := hcl 9 _ rfl
        simp [Region.binds] at c9
        rw [if_pos (by rfl)]
        simp only [Oper.wpv]
        go_simp
        exact hK _ _ ⟨b3, b4, (nS (nS (nS (nS hb l0 _) l0 _) l0 _) l0 _), p0, p1, p2, p3, p4, p5, fun h0 => ⟨(p6 h0).1, (p6 h0).2.1, by simpa using (p6 h0).2.2⟩, fun h0 => ⟨(p7 h0).1, (p7 h0).2.1, by simpa using (p7 h0).2.2⟩, ap, fun _ h => Bool.noConfusion (show true = false from h), fun h0 h1 => (((((z4 h0 h1).far (Ne.symm (ap (by simp [hd]) h0))).far (Ne.symm (ap (by simp [hd]) h0))).far (Ne.symm (ap (by simp [hd]) h0))).far (Ne.symm (ap (by simp [hd]) h0))), fun _ => ((((bx.set 0 (by decide) (.bool h0)).set 1 (by decide) (.bool h1)).set 2 (by decide) (.bool h2)).set 3 (by decide) (.bool h3)), fun h0 => (((((q4 h0).far (Ne.symm (ap (by simp [hd]) (by simp [c9 h0])))).far (Ne.symm (ap (by simp [hd]) (by simp [c9 h0])))).far (Ne.symm (ap (by simp [hd]) (by simp [c9 h0])))).far (Ne.symm (ap (by simp [hd]) (by simp [c9 h0]))))⟩
      · rintro L T u hd hk hcl ⟨b3, b4, hb, p0, p1, p2, p3, p4, p5, p6, p7, ap, z3, z4, q3, q4⟩ K hK
        simp only [fr, Act.put, List.setIfInBounds_toArray, List.set_cons_zero, List.set_cons_succ, updO] at hK ⊢
        simp [Region.binds] at hd
        have e3 := p5 (by simp [hd])
        obtain ⟨e0, l0, l1⟩ := p7 (by simp [hd])
        have bx := z4 (by simp [hd]) hk
        have x0 : _ = some _ := (bx.c 0 (by decide)).1
        have y0 := (bx.c 0 (by decide)).2
        have x1 : _ = some _ := (bx.c 1 (by decide)).1
        have y1 := (bx.c 1 (by decide)).2
        have x2 : _ = some _ := (bx.c 2 (by decide)).1
        have y2 := (bx.c 2 (by decide)).2
        have x3 : _ = some _ := (bx.c 3 (by decide)).1
        have y3 := (bx.c 3 (by decide)).2
        simp only [List.getD_cons_zero, List.getD_cons_succ] at x0 x1 x2 x3
        have c8 := hcl 8 _ rfl
        simp [Region.binds] at c8
        rw [if_pos (by rfl)]
        simp only [Oper.wpv]
        go_simp
        exact hK _ _ ⟨b3, b4, (nS (nS (nS (nS hb l0 _) l0 _) l0 _) l0 _), p0, p1, p2, p3, p4, p5, fun h0 => ⟨(p6 h0).1, (p6 h0).2.1, by simpa using (p6 h0).2.2⟩, fun h0 => ⟨(p7 h0).1, (p7 h0).2.1, by simpa using (p7 h0).2.2⟩, ap, fun h0 h1 => (((((z3 h0 h1).far (ap h0 (by simp [hd]))).far (ap h0 (by simp [hd]))).far (ap h0 (by simp [hd]))).far (ap h0 (by simp [hd]))), fun _ h => Bool.noConfusion (show true = false from h), fun h0 => (((((q3 h0).far (ap (by simp [c8 h0]) (by simp [hd]))).far (ap (by simp [c8 h0]) (by simp [hd]))).far (ap (by simp [c8 h0]) (by simp [hd]))).far (ap (by simp [c8 h0]) (by simp [hd]))), fun _ => ((((bx.set 0 (by decide) (.int .i64 c1)).set 1 (by decide) (.int .i64 c2)).set 2 (by decide) (.int .i64 c3)).set 3 (by decide) (.int .i64 c4))⟩
    · rintro L T u hl ⟨b3, b4, hb, p0, p1, p2, p3, p4, p5, p6, p7, ap, z3, z4, q3, q4⟩
      simp only [fr, Act.put, List.setIfInBounds_toArray, List.set_cons_zero, List.set_cons_succ]
      obtain ⟨e3, l3, _⟩ := p6 (hl 6 (by decide))
      obtain ⟨e4, l4, _⟩ := p7 (hl 7 (by decide))
      have bx3 := q3 (hl 8 (by decide))
      have bx4 := q4 (hl 9 (by decide))
      have HE : Hid (T 5 = .pointer (some ⟨b3, 0, none⟩) ∧ T 6 = .pointer (some ⟨b4, 0, none⟩)) := ⟨e3, e4⟩
      clear e3 e4 p0 p1 p2 p3 p4 p5 p6 p7 ap z3 z4 q3 q4
      go_wp2_with fail
      go_meet
      case rel => exact ⟨b3, b4, HE.out.1, HE.out.2, Bools.of (hs := [h0, h1, h2, h3]) bx3, Nms.of (ps := [c1, c2, c3, c4]) bx4, hb, l3, l4⟩
  case rest =>
    obtain ⟨b5, b6, rfl, rfl, hB5, hN6, bX, l5, l6⟩ := hcut
    obtain ⟨X, eX⟩ : ∃ X, X = wc := ⟨_, rfl⟩
    rw [← eX] at hB5 hN6 bX ⊢
    clear eX KC
    obtain ⟨W1, eW1⟩ : ∃ x, x = cWord k := ⟨_, rfl⟩
    rw [← eW1] at HR HCW
    clear eW1
    have bwX : Below w.heap.size w X := hB.trans (bX.mono hB.size)
    have hO0 : w.ownsRow B 9 1 v0 ws.length (flat stC ws) := by rw [EV.out]; exact hO
    have HOX : Hid (∀ U, Below X.heap.size X U → U.ownsRow B 9 1 v0 ws.length (flat stC ws)) := fun U hU => own_below (own_below hO0 bwX) hU
    have HL : Hid (∀ g, v0.ownBlock = some g → B ≤ g ∧ g < w.heap.size) := fun g hg => hO0.lt g hg
    have HX0 : Hid (Gr w X v0 v0) := Gr.below bwX
    have HTa : Hid (∀ U, Below B w U → Lib.TabIs Tryd.prog U "internal/strconv.uint64pow10" .u64 Lib.pow10Tab) := hT
    have HKX : Hid (∀ U, Below X.heap.size X U → (U.cell? ⟨w.heap.size, 0, none⟩ = some (.int .i64 (k : Int)) ∧ w.heap.size < U.heap.size) ∧ U.cell? ⟨4, k, none⟩ = some (.string W1) ∧ 4 < U.heap.size) := fun U hU => ⟨HK.out U (bX.trans (hU.mono bX.size)), HCW.out U (bwX.trans (hU.mono bwX.size))⟩
    have HN : Hid (∀ (U : World) (a6 : Option Addr) (c6 : Nat), U.ownsRow B 9 1 (.slice a6 (ws.length + 1) c6) (ws.length + 1) (flat stC (ws ++ [W1])) → Gr X U v0 (.slice a6 (ws.length + 1) c6) → Calls Tryd.prog 45 #[.slice a6 (ws.length + 1) c6, .slice (some ⟨b5, 0, none⟩) 4 4, .slice (some ⟨b6, 0, none⟩) 4 4] U fun e w' => WordsTo B U w' e (.slice a6 (ws.length + 1) c6) ((ws ++ [W1]) ++ numsW [h0, h1, h2, h3] [c1, c2, c3, c4])) := fun U a6 c6 hOU hG => by
      have hl : (ws ++ [W1]).length = ws.length + 1 := by simp
      rw [← hl] at hOU hG ⊢
      have z5 : b5 < X.heap.size := hB5.1
      have z6 : b6 < X.heap.size := hN6.1
      have n5 : v0.ownBlock ≠ some b5 := fun e => by have := (HL.out b5 e).2; omega
      have n6 : v0.ownBlock ≠ some b6 := fun e => by have := (HL.out b6 e).2; omega
      have m5 : (Value.slice a6 (ws ++ [W1]).length c6).ownBlock ≠ some b5 := fun e => by
        rcases hG.own with e2 | ⟨g, e2, h2⟩
        · exact n5 (e2 ▸ e)
        · rw [e2] at e; cases e; omega
      have m6 : (Value.slice a6 (ws ++ [W1]).length c6).ownBlock ≠ some b6 := fun e => by
        rcases hG.own with e2 | ⟨g, e2, h2⟩
        · exact n6 (e2 ▸ e)
        · rw [e2] at e; cases e; omega
      have hGw := HX0.out.trans hG
      have hBU : Below B w U := hGw.bel B hB0 (fun g e => (HL.out g e).1)
      exact appendNumbers_any B a6 c6 (ws ++ [W1]) b5 0 4 4 b6 0 4 4 [h0, h1, h2, h3] [c1, c2, c3, c4] U (Nat.le_trans hB0 hBU.size) hOU (by simp; omega) (by omega) (by omega) rfl rfl (fun i hi => by
          rcases (by omega : i = 0 ∨ i = 1 ∨ i = 2 ∨ i = 3) with rfl | rfl | rfl | rfl
          · exact i1
          · exact i2
          · exact i3
          · exact i4) (Nat.lt_of_lt_of_le z5 hG.size) (Nat.lt_of_lt_of_le z6 hG.size) m5 m6 (fun i hi => by rw [Nat.zero_add]; exact (hG.cell (p := ⟨b5, i, none⟩) z5 n5).trans (hB5.2 i hi)) (fun i hi => by rw [Nat.zero_add]; exact (hG.cell (p := ⟨b6, i, none⟩) z6 n6).trans (hN6.2 i hi)) (fun Z hZ => HTa.out Z (hBU.trans hZ))
    have HF : Hid (∀ (U Z : World) (a6 : Option Addr) (c6 : Nat) (e : Ending), Gr X U v0 (.slice a6 (ws.length + 1) c6) → WordsTo B U Z e (.slice a6 (ws.length + 1) c6) ((ws ++ [W1]) ++ numsW [h0, h1, h2, h3] [c1, c2, c3, c4]) → ∃ a7 c7, e = .returned (.slice a7 R.length c7) ∧ Z.ownsRow B 9 1 (.slice a7 R.length c7) R.length (flat stC R) ∧ Gr w Z v0 (.slice a7 R.length c7)) := fun U Z a6 c6 e hG h => by
      rw [HR.out]
      obtain ⟨a7, c7, h1, h2, h3⟩ := h
      exact ⟨a7, c7, h1, h2, (HX0.out.trans hG).trans h3⟩
    have hlB : B ≤ X.heap.size := Nat.le_trans hB0 bwX.size
    clear hO hO0 hT hh hcw hhW HK HCW HR hB5 hN6 l5 l6 bX bwX hB zW zh EV i1 i2 i3 i4
    go_upto_region 2 with (fail)
    refine wp_region_inv (by kernel_rfl) [13, 14, 15, 16, 17, 18, 19, 20, 21, 22, 4] (fun L T u => ∃ (bA : Nat) (a6 : Option Addr) (c6 : Nat) (a7 : Option Addr) (c7 : Nat), True ∧ (L 0 = true → T 13 = v0) ∧ (L 1 = true → T 14 = .pointer (some ⟨w.heap.size, 0, none⟩)) ∧ (L 2 = true → T 15 = .int .i64 (k : Int)) ∧ (L 3 = true → T 16 = .pointer (some ⟨4, k, none⟩)) ∧ (L 4 = true → T 17 = .string W1) ∧ (L 5 = true → T 18 = .slice (some ⟨bA, 0, none⟩) 1 1) ∧ (L 6 = true → T 19 = .slice a6 (ws.length + 1) c6) ∧ (L 7 = true → T 20 = .slice (some ⟨b5, 0, none⟩) 4 4) ∧ (L 8 = true → T 21 = .slice (some ⟨b6, 0, none⟩) 4 4) ∧ (L 9 = true → T 22 = .slice a7 R.length c7) ∧ (L 10 = true → T 4 = .slice a7 R.length c7) ∧ (L 5 = true → L 6 = false → IsRow 1 stC u (some ⟨bA, 0, none⟩) 1 1 [W1]) ∧ (L 6 = false → Below X.heap.size X u) ∧ (L 6 = true → L 9 = false → (u.ownsRow B 9 1 (.slice a6 (ws.length + 1) c6) (ws.length + 1) (flat stC (ws ++ [W1])) ∧ Gr X u v0 (.slice a6 (ws.length + 1) c6))) ∧ (L 9 = true → (u.ownsRow B 9 1 (.slice a7 R.length c7) R.length (flat stC R) ∧ Gr w u v0 (.slice a7 R.length c7)))) (by decide) (by kernel_rfl) (by kernel_rfl) ?_ ?_ ?_
    · exact ⟨0, none, 0, none, 0, trivial, nofun, nofun, nofun, nofun, nofun, nofun, nofun, nofun, nofun, nofun, nofun, nofun, fun _ => (Below.refl _ _).drew, nofun, nofun⟩
    · refine ⟨?_, ?_, ?_, ?_, ?_, ?_, ?_, ?_, ?_, ?_, ?_, trivial⟩
      · rintro L T u hd hk hcl ⟨bA, a6, c6, a7, c7, hb, f0, f1, f2, f3, f4, f5, f6, f7, f8, f9, f10, r5, s0, s1, s2⟩ K hK
        simp only [fr, Act.put, List.setIfInBounds_toArray, List.set_cons_zero, List.set_cons_succ, updO] at hK ⊢
        simp [Region.binds] at hd
        rw [if_pos (by rfl)]
        simp only [Oper.wpv]
        go_simp
        exact hK _ _ ⟨bA, a6, c6, a7, c7, hb, fun _ => rfl, f1, f2, f3, f4, f5, f6, f7, f8, f9, f10, r5, s0, s1, s2⟩
      · rintro L T u hd hk hcl ⟨bA, a6, c6, a7, c7, hb, f0, f1, f2, f3, f4, f5, f6, f7, f8, f9, f10, r5, s0, s1, s2⟩ K hK
        simp only [fr, Act.put, List.setIfInBounds_toArray, List.set_cons_zero, List.set_cons_succ, updO] at hK ⊢
        simp [Region.binds] at hd
        rw [if_pos (by rfl)]
        simp only [Oper.wpv]
        go_simp
        exact hK _ _ ⟨bA, a6, c6, a7, c7, hb, f0, fun _ => rfl, f2, f3, f4, f5, f6, f7, f8, f9, f10, r5, s0, s1, s2⟩
      · rintro L T u hd hk hcl ⟨bA, a6, c6, a7, c7, hb, f0, f1, f2, f3, f4, f5, f6, f7, f8, f9, f10, r5, s0, s1, s2⟩ K hK
        simp only [fr, Act.put, List.setIfInBounds_toArray, List.set_cons_zero, List.set_cons_succ, updO] at hK ⊢
        simp [Region.binds] at hd
        have g1 := f1 (by simp [hd])
        have k3 := hcl 3 _ rfl
        simp [Region.binds] at k3
        have k4 := hcl 4 _ rfl
        simp [Region.binds] at k4
        have k5 := hcl 5 _ rfl
        simp [Region.binds] at k5
        have k6 := hcl 6 _ rfl
        simp [Region.binds] at k6
        have hE : L 6 = false := by cases h : L 6 with | false => rfl | true => have b6 := k6 h; have b5 := k5 (by simp [b6]); have b4 := k4 (by simp [b5]); have b3 := k3 (by simp [b4]); simp [hk] at b3
        obtain ⟨⟨x0, x1⟩, x2, x3⟩ := HKX.out u (s0 hE)
        rw [if_pos (by rfl)]
        simp only [Oper.wpv]
        go_simp
        exact hK _ _ ⟨bA, a6, c6, a7, c7, hb, f0, f1, fun _ => rfl, f3, f4, f5, f6, f7, f8, f9, f10, r5, s0, s1, s2⟩
      · rintro L T u hd hk hcl ⟨bA, a6, c6, a7, c7, hb, f0, f1, f2, f3, f4, f5, f6, f7, f8, f9, f10, r5, s0, s1, s2⟩ K hK
        simp only [fr, Act.put, List.setIfInBounds_toArray, List.set_cons_zero, List.set_cons_succ, updO] at hK ⊢
        simp [Region.binds] at hd
        have g2 := f2 (by simp [hd])
        have k0 : (0 : Int) ≤ (k : Int) := by omega
        rw [if_pos (by rfl)]
        simp only [Oper.wpv]
        go_simp
        exact hK _ _ ⟨bA, a6, c6, a7, c7, hb, f0, f1, f2, fun _ => rfl, f4, f5, f6, f7, f8, f9, f10, r5, s0, s1, s2⟩
      · rintro L T u hd hk hcl ⟨bA, a6, c6, a7, c7, hb, f0, f1, f2, f3, f4, f5, f6, f7, f8, f9, f10, r5, s0, s1, s2⟩ K hK
        simp only [fr, Act.put, List.setIfInBounds_toArray, List.set_cons_zero, List.set_cons_succ, updO] at hK ⊢
        simp [Region.binds] at hd
        have g3 := f3 (by simp [hd])
        have k5 := hcl 5 _ rfl
        simp [Region.binds] at k5
        have k6 := hcl 6 _ rfl
        simp [Region.binds] at k6
        have hE : L 6 = false := by cases h : L 6 with | false => rfl | true => have b6 := k6 h; have b5 := k5 (by simp [b6]); simp [hk] at b5
        obtain ⟨⟨x0, x1⟩, x2, x3⟩ := HKX.out u (s0 hE)
        rw [if_pos (by rfl)]
        simp only [Oper.wpv]
        go_simp
        exact hK _ _ ⟨bA, a6, c6, a7, c7, hb, f0, f1, f2, f3, fun _ => rfl, f5, f6, f7, f8, f9, f10, r5, s0, s1, s2⟩
      · rintro L T u hd hk hcl ⟨bA, a6, c6, a7, c7, hb, f0, f1, f2, f3, f4, f5, f6, f7, f8, f9, f10, r5, s0, s1, s2⟩ K hK
        simp only [fr, Act.put, List.setIfInBounds_toArray, List.set_cons_zero, List.set_cons_succ, updO] at hK ⊢
        simp [Region.binds] at hd
        have g4 := f4 (by simp [hd])
        have k6 := hcl 6 _ rfl
        simp [Region.binds] at k6
        have hE : L 6 = false := by cases h : L 6 with | false => rfl | true => have b6 := k6 h; simp [hk] at b6
        have hg : Below u.heap.size u (u.alloc (.cells #[.string W1] 9)) := (Below.refl _ _).alloc (Nat.le_refl _) _
        rw [if_pos (by rfl)]
        simp only [Oper.wpv]
        go_simp
        exact hK _ _ ⟨u.heap.size, a6, c6, a7, c7, trivial, f0, f1, f2, f3, f4, fun _ => rfl, f6, f7, f8, f9, f10, fun _ _ => words1 u W1 _ rfl, fun _ => sT (s0 hE) hg, fun h0 h1 => ⟨own_below ((s1 h0 h1)).1 hg, ((s1 h0 h1)).2.trans (Gr.below hg)⟩, fun h0 => ⟨own_below ((s2 h0)).1 hg, ((s2 h0)).2.trans (Gr.below hg)⟩⟩
      · rintro L T u hd hk hcl ⟨bA, a6, c6, a7, c7, hb, f0, f1, f2, f3, f4, f5, f6, f7, f8, f9, f10, r5, s0, s1, s2⟩ K hK
        simp only [fr, Act.put, List.setIfInBounds_toArray, List.set_cons_zero, List.set_cons_succ, updO] at hK ⊢
        simp [Region.binds] at hd
        have g0 := f0 (by simp [hd])
        have g5 := f5 (by simp [hd])
        have q5 := r5 (by simp [hd]) hk
        have q0 := s0 hk
        have hOu := HOX.out u q0
        have k9 := hcl 9 _ rfl
        simp [Region.binds] at k9
        have k10 := hcl 10 _ rfl
        simp [Region.binds] at k10
        rw [if_pos (by rfl)]
        simp only [Oper.wpv]
        refine St.wpv_append_row ES (.tmp 13) (.tmp 18) (by rfl) B v0 ws.length ws g0 hOu (some ⟨bA, 0, none⟩) 1 1 [W1] g5 q5 (by unfold maxLen; omega) (by omega) (Nat.le_trans hlB q0.size) ?_
        intro a8 c8 u6 own6 gr6 at6
        have hG6 : Gr X u6 v0 (.slice a8 (ws.length + 1) c8) := (Gr.below q0).trans (Gr.grown gr6 at6)
        exact hK _ _ ⟨bA, a8, c8, a7, c7, trivial, f0, f1, f2, f3, f4, f5, fun _ => rfl, f7, f8, f9, f10, fun _ h => Bool.noConfusion (show true = false from h), fun h => Bool.noConfusion (show true = false from h), fun _ _ => ⟨own6, hG6⟩, fun h => absurd (show L 9 = true from h) (by intro hh; have := k9 hh; simp [hk] at this)⟩
      · rintro L T u hd hk hcl ⟨bA, a6, c6, a7, c7, hb, f0, f1, f2, f3, f4, f5, f6, f7, f8, f9, f10, r5, s0, s1, s2⟩ K hK
        simp only [fr, Act.put, List.setIfInBounds_toArray, List.set_cons_zero, List.set_cons_succ, updO] at hK ⊢
        simp [Region.binds] at hd
        rw [if_pos (by rfl)]
        simp only [Oper.wpv]
        go_simp
        exact hK _ _ ⟨bA, a6, c6, a7, c7, hb, f0, f1, f2, f3, f4, f5, f6, fun _ => rfl, f8, f9, f10, r5, s0, s1, s2⟩
      · rintro L T u hd hk hcl ⟨bA, a6, c6, a7, c7, hb, f0, f1, f2, f3, f4, f5, f6, f7, f8, f9, f10, r5, s0, s1, s2⟩ K hK
        simp only [fr, Act.put, List.setIfInBounds_toArray, List.set_cons_zero, List.set_cons_succ, updO] at hK ⊢
        simp [Region.binds] at hd
        rw [if_pos (by rfl)]
        simp only [Oper.wpv]
        go_simp
        exact hK _ _ ⟨bA, a6, c6, a7, c7, hb, f0, f1, f2, f3, f4, f5, f6, f7, fun _ => rfl, f9, f10, r5, s0, s1, s2⟩
      · rintro L T u hd hk hcl ⟨bA, a6, c6, a7, c7, hb, f0, f1, f2, f3, f4, f5, f6, f7, f8, f9, f10, r5, s0, s1, s2⟩ K hK
        simp only [fr, Act.put, List.setIfInBounds_toArray, List.set_cons_zero, List.set_cons_succ, updO] at hK ⊢
        simp [Region.binds] at hd
        have g6 := f6 (by simp [hd])
        have g7 := f7 (by simp [hd])
        have g8 := f8 (by simp [hd])
        have q1 := s1 (by simp [hd]) hk
        have k10 := hcl 10 _ rfl
        simp [Region.binds] at k10
        rw [if_pos (by rfl)]
        simp only [Oper.wpv]
        go_simp
        refine (HN.out u a6 c6 q1.1 q1.2).mono ?_
        intro e u3 hWT
        obtain ⟨a8, c8, rfl, own8, gr8⟩ := HF.out u u3 a6 c6 e q1.2 hWT
        exact hK _ _ ⟨bA, a6, c6, a8, c8, trivial, f0, f1, f2, f3, f4, f5, f6, f7, f8, fun _ => rfl, fun h => absurd (show L 10 = true from h) (by intro hh; have := k10 hh; simp [hk] at this), fun _ h => absurd (show L 6 = false from h) (by simp [hd]), fun h => absurd (show L 6 = false from h) (by simp [hd]), fun _ h => Bool.noConfusion (show true = false from h), fun _ => ⟨own8, gr8⟩⟩
      · rintro L T u hd hk hcl ⟨bA, a6, c6, a7, c7, hb, f0, f1, f2, f3, f4, f5, f6, f7, f8, f9, f10, r5, s0, s1, s2⟩ K hK
        simp only [fr, Act.put, List.setIfInBounds_toArray, List.set_cons_zero, List.set_cons_succ, updO] at hK ⊢
        simp [Region.binds] at hd
        have g9 := f9 (by simp [hd])
        rw [if_pos (by rfl)]
        simp only [Oper.wpv]
        go_simp
        exact hK _ _ ⟨bA, a6, c6, a7, c7, hb, f0, f1, f2, f3, f4, f5, f6, f7, f8, f9, fun _ => rfl, r5, s0, s1, s2⟩
    · rintro L T u hl ⟨bA, a6, c6, a7, c7, hb, f0, f1, f2, f3, f4, f5, f6, f7, f8, f9, f10, r5, s0, s1, s2⟩
      simp only [fr, Act.put, List.setIfInBounds_toArray, List.set_cons_zero, List.set_cons_succ]
      have h4 := f10 (hl 10 (by decide))
      obtain ⟨o4, g4⟩ := s2 (hl 9 (by decide))
      clear f0 f1 f2 f3 f4 f5 f6 f7 f8 f9 f10 r5 s0 s1 s2 HOX HL HX0 HTa HKX HN HF
      rw [h4]
      clear h4
      go_wp2
      go_ret
      exact ⟨a7, c7, rfl, o4, g4⟩
end Go.Proofs.YtlaagfnoepcnlaaDoor.Ln
/- The contracts of bounds.Site, bounds.Label, of the test of a Keep's numbers, and of lines.inBounds. -/
namespace Go.Proofs.YtlaagfnoepcnlaaDoor.Ln
open Go.ChangeShapes Go.WideShapes Go.ChangeAt Go.RowKit
open Go.Proofs.YtlaagfnoepcnlaaDoor.St (BoxN boxn_new)
set_option linter.unusedVariables false

theorem site_any (s p : Int) (a : Option Addr) (len cap : Nat) (n : Int) (w : World) (hs : 1 ≤ s ∧ s ≤ 4) :
    Calls Tryd.prog 66 #[.agg #[.int .i64 s, .slice a len cap, .int .i64 p], .int .i64 n] w fun e w' => e = .returned (.bool (inR n 0 (s - 1))) ∧ Below w.heap.size w w' := by
  have hA : Below w.heap.size w (w.alloc (.cells #[.int .i64 s, .slice a len cap, .int .i64 p] 24)) := (Below.refl _ _).alloc (Nat.le_refl _) _
  obtain ⟨h1, h2⟩ := hs
  go_enter Tryd.func66, Tryd.ntmps66
  go_wp2_with (go_at_call 36; refine (within_any _ _ _ _).mono ?_; rintro e u1 ⟨rfl, hu1⟩; rw [hu1]; clear hu1)
  go_ret
  exact ⟨rfl, hA⟩
theorem plc_in (l : Int) (len : Nat) : plc l len = inR l 0 ((len : Int) - 1) := by unfold plc inR; rw [Bool.eq_iff_iff]; simp; omega
theorem label_any (s p : Int) (a : Option Addr) (len cap : Nat) (n : Int) (w : World) (hl : len ≤ 6) :
    Calls Tryd.prog 67 #[.agg #[.int .i64 s, .slice a len cap, .int .i64 p], .int .i64 n] w fun e w' => e = .returned (.bool (plc n len)) ∧ Below w.heap.size w w' := by
  have hA : Below w.heap.size w (w.alloc (.cells #[.int .i64 s, .slice a len cap, .int .i64 p] 24)) := (Below.refl _ _).alloc (Nat.le_refl _) _
  have h2 : (len : Int) ≤ 6 := by omega
  rw [plc_in]
  go_enter Tryd.func67, Tryd.ntmps67
  go_wp2_with (go_at_call 36; refine (within_any _ _ _ _).mono ?_; rintro e u1 ⟨rfl, hu1⟩; rw [hu1]; clear hu1)
  go_ret
  exact ⟨rfl, hA⟩
theorem keepFn_any (z : Int) (w : World) : Calls Tryd.prog 64 #[.int .i64 z] w fun e w' => e = .returned (.bool (!inR z 0 6000)) ∧ w' = w := by
  go_enter Tryd.func64, Tryd.ntmps64
  go_wp2_with (go_at_call 36; refine (within_any _ _ _ _).mono ?_; rintro e u1 ⟨rfl, hu1⟩; rw [hu1]; clear hu1)
  go_ret
  exact ⟨rfl, rfl⟩

theorem keep_at {zs : List Int} {k : Nat} (hk : k < zs.length) : keepIn (zs.drop k) = (inR (zs.getD k 0) 0 6000 && keepIn (zs.drop (k + 1))) := by
  unfold keepIn
  rw [List.drop_eq_getElem_cons hk, List.all_cons]
  simp [List.getD, hk]
set_option maxHeartbeats 1000000 in
theorem keepIdx_any (a : Option Addr) (len cap : Nat) (zs : List Int) (w : World) (h : IsInts w a len cap zs) :
    Calls Tryd.prog 82 #[.slice a len cap, .func (.func 64) #[] #[]] w fun e w' => ∃ i : Int, e = .returned (.int .i64 i) ∧ decide (0 ≤ i) = (!keepIn zs) ∧ w' = w := by
  obtain ⟨hlen, hcap, hmax, _, hmem⟩ := h
  have HL : Hid (zs.length = len) := hlen
  clear hlen
  unfold maxLen at hmax
  obtain ⟨R, eR⟩ : ∃ R, R = keepIn zs := ⟨_, rfl⟩
  have HR : Hid (R = keepIn (zs.drop 0)) := eR
  rw [← eR]
  clear eR
  go_enter Tryd.func82, Tryd.ntmps82
  go_wp2
  go_loop [5, 8] (fun _ s8 => ∃ (k : Nat), k ≤ len ∧ s8 = .int .i64 (k : Int) ∧ Hid (R = keepIn (zs.drop k))) (fun _ s8 => len - (intOf s8).toNat)
  case atStart => exact ⟨0, Nat.zero_le _, rfl, HR.out⟩
  case round =>
    obtain ⟨k, hk, rfl, hat⟩ := hrel
    by_cases hlt : k < len
    · have hlt' : (k : Int) < (len : Int) := by omega
      obtain ⟨b, off, rfl, zb, hc⟩ := hmem (by omega)
      have c1 := hc k hlt
      have hst : Hid (R = (inR (zs.getD k 0) 0 6000 && keepIn (zs.drop (k + 1)))) := by show _ = _; rw [hat.out]; exact keep_at (by rw [HL.out]; exact hlt)
      clear hat hc
      obtain ⟨X, eX⟩ : ∃ X, X = zs.getD k 0 := ⟨_, rfl⟩
      rw [← eX] at c1 hst
      clear eX
      cases hr : inR X 0 6000 with
      | true =>
        have hn : Hid (R = keepIn (zs.drop (k + 1))) := by show _ = _; rw [hst.out, hr]; rfl
        clear hst
        go_wp2_with (go_at_call 64; refine (keepFn_any _ _).mono ?_; rintro e u1 ⟨rfl, hu1⟩; rw [hu1]; clear hu1)
        go_round
        case rel => exact ⟨k + 1, by omega, by go_num, hn.out⟩
        case measure => simp [intOf]; omega
      | false =>
        have hn : Hid (R = false) := by show _ = _; rw [hst.out, hr]; rfl
        clear hst
        go_wp2_with (go_at_call 64; refine (keepFn_any _ _).mono ?_; rintro e u1 ⟨rfl, hu1⟩; rw [hu1]; clear hu1)
        go_ret
        exact ⟨k, rfl, by rw [hn.out]; simp, rfl⟩
    · have hn : Hid (R = true) := by show _ = _; rw [hat.out, List.drop_eq_nil_of_le (by rw [HL.out]; omega)]; rfl
      clear hat
      go_wp2
      go_ret
      exact ⟨-1, rfl, by rw [hn.out]; simp, rfl⟩
theorem keepAny_any (a : Option Addr) (len cap : Nat) (zs : List Int) (w : World) (h : IsInts w a len cap zs) :
    Calls Tryd.prog 65 #[.slice a len cap, .func (.func 64) #[] #[]] w fun e w' => e = .returned (.bool (!keepIn zs)) ∧ w' = w := by
  have hI := fun w' h1 => keepIdx_any a len cap zs w' h1
  obtain ⟨R, eR⟩ : ∃ R, R = !keepIn zs := ⟨_, rfl⟩
  rw [← eR] at hI ⊢
  clear eR
  go_enter Tryd.func65, Tryd.ntmps65
  go_wp2_with (go_at_call 82; refine (hI _ h).mono ?_; rintro e u1 ⟨i, rfl, hi, hu1⟩; rw [hu1]; clear hu1)
  go_ret
  exact ⟨rfl, rfl⟩

set_option maxRecDepth 100000 in
set_option maxHeartbeats 4000000 in
theorem inBounds_any (s p : Int) (a : Option Addr) (len cap : Nat) (v : AV) (w : World) (hs : 1 ≤ s ∧ s ≤ 4) (hl : len ≤ 6) (hk : IsInts w v.ka v.kl v.kc v.keep) :
    Calls Tryd.prog 39 #[.agg #[.int .i64 s, .slice a len cap, .int .i64 p], .agg v.cells.toArray] w fun e w' => e = .returned (.bool (actIn s len v)) ∧ Below w.heap.size w w' := by
  have hS := fun n w' => site_any s p a len cap n w' hs
  have hLb := fun n w' => label_any s p a len cap n w' hl
  obtain ⟨kind, site, to1, label, pick, ka, kl, kc, c0, c1, c2, c3, c4, line, keep⟩ := v
  simp only [AV.cells] at *
  obtain ⟨R, eR⟩ : ∃ R, R = actIn s len ⟨kind, site, to1, label, pick, ka, kl, kc, c0, c1, c2, c3, c4, line, keep⟩ := ⟨_, rfl⟩
  have HR : Hid (R = (decide (kl ≤ len) && keepIn keep && decide (line.size ≤ 60) && inR pick 0 1048576 && (inR site 0 (s - 1) && inR to1 0 (s - 1) && plc label len))) := eR
  rw [← eR]
  clear eR
  obtain ⟨W, hW⟩ : ∃ W : World, W = (w.alloc (.cells #[.int .i64 s, .slice a len cap, .int .i64 p] 24)).alloc (.cells #[.int .i64 kind, .int .i64 site, .int .i64 to1, .int .i64 label, .int .i64 pick, .slice ka kl kc, .int .i64 c0, .int .i64 c1, .int .i64 c2, .int .i64 c3, .int .i64 c4, .string line] 41) := ⟨_, rfl⟩
  have hB : Below w.heap.size w W := by rw [hW]; exact ((Below.refl _ _).alloc (Nat.le_refl _) _).alloc (by simp) _
  have zW : w.heap.size + 1 < W.heap.size := by rw [hW]; simp
  have hkW := hk.below hB
  have hKp := fun w' h' => keepAny_any ka kl kc keep w' h'
  obtain ⟨KI, eKI⟩ : ∃ KI, KI = keepIn keep := ⟨_, rfl⟩
  rw [← eKI] at HR hKp
  clear eKI hk
  have d0 : W.cell? ⟨w.heap.size, 0, none⟩ = some (.int .i64 s) := by rw [hW]; go_simp
  have d1 : W.cell? ⟨w.heap.size, 1, none⟩ = some (.slice a len cap) := by rw [hW]; go_simp
  have d2 : W.cell? ⟨w.heap.size, 2, none⟩ = some (.int .i64 p) := by rw [hW]; go_simp
  have e0 : W.cell? ⟨w.heap.size + 1, 0, none⟩ = some (.int .i64 kind) := by rw [hW]; go_simp
  have e1 : W.cell? ⟨w.heap.size + 1, 1, none⟩ = some (.int .i64 site) := by rw [hW]; go_simp
  have e2 : W.cell? ⟨w.heap.size + 1, 2, none⟩ = some (.int .i64 to1) := by rw [hW]; go_simp
  have e3 : W.cell? ⟨w.heap.size + 1, 3, none⟩ = some (.int .i64 label) := by rw [hW]; go_simp
  have e4 : W.cell? ⟨w.heap.size + 1, 4, none⟩ = some (.int .i64 pick) := by rw [hW]; go_simp
  have e5 : W.cell? ⟨w.heap.size + 1, 5, none⟩ = some (.slice ka kl kc) := by rw [hW]; go_simp
  have e6 : W.cell? ⟨w.heap.size + 1, 6, none⟩ = some (.int .i64 c0) := by rw [hW]; go_simp
  have e7 : W.cell? ⟨w.heap.size + 1, 7, none⟩ = some (.int .i64 c1) := by rw [hW]; go_simp
  have e8 : W.cell? ⟨w.heap.size + 1, 8, none⟩ = some (.int .i64 c2) := by rw [hW]; go_simp
  have e9 : W.cell? ⟨w.heap.size + 1, 9, none⟩ = some (.int .i64 c3) := by rw [hW]; go_simp
  have e10 : W.cell? ⟨w.heap.size + 1, 10, none⟩ = some (.int .i64 c4) := by rw [hW]; go_simp
  have e11 : W.cell? ⟨w.heap.size + 1, 11, none⟩ = some (.string line) := by rw [hW]; go_simp
  have KC : Hid (∀ U : World, Below W.heap.size W U → U.cell? ⟨w.heap.size, 0, none⟩ = some (.int .i64 s) ∧ U.cell? ⟨w.heap.size, 1, none⟩ = some (.slice a len cap) ∧ U.cell? ⟨w.heap.size, 2, none⟩ = some (.int .i64 p) ∧ U.cell? ⟨w.heap.size + 1, 0, none⟩ = some (.int .i64 kind) ∧ U.cell? ⟨w.heap.size + 1, 1, none⟩ = some (.int .i64 site) ∧ U.cell? ⟨w.heap.size + 1, 2, none⟩ = some (.int .i64 to1) ∧ U.cell? ⟨w.heap.size + 1, 3, none⟩ = some (.int .i64 label) ∧ U.cell? ⟨w.heap.size + 1, 4, none⟩ = some (.int .i64 pick) ∧ U.cell? ⟨w.heap.size + 1, 5, none⟩ = some (.slice ka kl kc) ∧ U.cell? ⟨w.heap.size + 1, 6, none⟩ = some (.int .i64 c0) ∧ U.cell? ⟨w.heap.size + 1, 7, none⟩ = some (.int .i64 c1) ∧ U.cell? ⟨w.heap.size + 1, 8, none⟩ = some (.int .i64 c2) ∧ U.cell? ⟨w.heap.size + 1, 9, none⟩ = some (.int .i64 c3) ∧ U.cell? ⟨w.heap.size + 1, 10, none⟩ = some (.int .i64 c4) ∧ U.cell? ⟨w.heap.size + 1, 11, none⟩ = some (.string line)) := fun U hU => ⟨(hU.cell (p := ⟨w.heap.size, 0, none⟩) (by show w.heap.size < _; omega)).trans d0, (hU.cell (p := ⟨w.heap.size, 1, none⟩) (by show w.heap.size < _; omega)).trans d1, (hU.cell (p := ⟨w.heap.size, 2, none⟩) (by show w.heap.size < _; omega)).trans d2, (hU.cell (p := ⟨w.heap.size + 1, 0, none⟩) zW).trans e0, (hU.cell (p := ⟨w.heap.size + 1, 1, none⟩) zW).trans e1, (hU.cell (p := ⟨w.heap.size + 1, 2, none⟩) zW).trans e2, (hU.cell (p := ⟨w.heap.size + 1, 3, none⟩) zW).trans e3, (hU.cell (p := ⟨w.heap.size + 1, 4, none⟩) zW).trans e4, (hU.cell (p := ⟨w.heap.size + 1, 5, none⟩) zW).trans e5, (hU.cell (p := ⟨w.heap.size + 1, 6, none⟩) zW).trans e6, (hU.cell (p := ⟨w.heap.size + 1, 7, none⟩) zW).trans e7, (hU.cell (p := ⟨w.heap.size + 1, 8, none⟩) zW).trans e8, (hU.cell (p := ⟨w.heap.size + 1, 9, none⟩) zW).trans e9, (hU.cell (p := ⟨w.heap.size + 1, 10, none⟩) zW).trans e10, (hU.cell (p := ⟨w.heap.size + 1, 11, none⟩) zW).trans e11⟩
  go_enter Tryd.func39, Tryd.ntmps39
  go_upto_region 2 with (fail)
  rw [← hW]
  clear hW
  by_cases h1 : kl ≤ len
  case neg =>
    have g1 : (len : Int) < (kl : Int) := by omega
    have hf : Hid (R = false) := by show _ = _; rw [HR.out]; simp [h1]
    go_wp2_with (fail)
    go_ret
    exact ⟨ret_bool hf.out.symm, hB⟩
  have g1 : ¬ (len : Int) < (kl : Int) := by omega
  cases KI with
  | false =>
    have hf : Hid (R = false) := by show _ = _; rw [HR.out]; simp
    go_wp2_with (first | (go_at_call 65; refine (hKp _ hkW).mono ?_; rintro e u1 ⟨rfl, hu1⟩; rw [hu1]; clear hu1))
    go_ret
    exact ⟨ret_bool hf.out.symm, hB⟩
  | true =>
    have HR1 : Hid (R = (decide (line.size ≤ 60) && inR pick 0 1048576 && (inR site 0 (s - 1) && inR to1 0 (s - 1) && plc label len))) := by show _ = _; rw [HR.out]; simp [h1]
    clear HR
    go_upto_region 4 with (first | (go_at_call 65; refine (hKp _ hkW).mono ?_; rintro e u1 ⟨rfl, hu1⟩; rw [hu1]; clear hu1))
    by_cases h2 : line.size ≤ 60
    case neg =>
      have g2 : (60 : Int) < (line.size : Int) := by omega
      have hf : Hid (R = false) := by show _ = _; rw [HR1.out]; simp [h2]
      go_wp2_with (fail)
      go_ret
      exact ⟨ret_bool hf.out.symm, hB⟩
    have g2 : ¬ (60 : Int) < (line.size : Int) := by omega
    cases h3 : inR pick 0 1048576 with
    | false =>
      have hf : Hid (R = false) := by show _ = _; rw [HR1.out, h3]; simp
      go_wp2_with (go_at_call 36; refine (within_any _ _ _ _).mono ?_; rintro e u1 ⟨rfl, hu1⟩; rw [hu1]; clear hu1)
      go_ret
      exact ⟨ret_bool hf.out.symm, hB⟩
    | true =>
      have HR2 : Hid (R = (inR site 0 (s - 1) && inR to1 0 (s - 1) && plc label len)) := by show _ = _; rw [HR1.out, h3]; simp [h2]
      clear HR1
      go_upto_region 6 with (go_at_call 36; refine (within_any _ _ _ _).mono ?_; rintro e u1 ⟨rfl, hu1⟩; rw [hu1]; clear hu1)
      have hbv : Below W.heap.size W W := Below.refl _ _
      cases h4 : inR site 0 (s - 1) with
      | false =>
        have hf : Hid (R = false) := by show _ = _; rw [HR2.out, h4]; simp
        clear HR2
        go_wp2_with (go_at_call 66; refine (hS _ _).mono ?_; rintro e u1 ⟨rfl, hb1⟩; replace hbv := hbv.trans (hb1.mono hbv.size); clear d0 d1 d2 e0 e1 e2 e3 e4 e5 e6 e7 e8 e9 e10 e11; obtain ⟨d0, d1, d2, e0, e1, e2, e3, e4, e5, e6, e7, e8, e9, e10, e11⟩ := KC.out _ hbv)
        go_ret
        exact ⟨ret_bool hf.out.symm, hB.trans (hbv.mono hB.size)⟩
      | true =>
        cases h5 : inR to1 0 (s - 1) with
        | false =>
          have hf : Hid (R = false) := by show _ = _; rw [HR2.out, h4, h5]; simp
          clear HR2
          go_wp2_with (go_at_call 66; refine (hS _ _).mono ?_; rintro e u1 ⟨rfl, hb1⟩; replace hbv := hbv.trans (hb1.mono hbv.size); clear d0 d1 d2 e0 e1 e2 e3 e4 e5 e6 e7 e8 e9 e10 e11; obtain ⟨d0, d1, d2, e0, e1, e2, e3, e4, e5, e6, e7, e8, e9, e10, e11⟩ := KC.out _ hbv)
          go_ret
          exact ⟨ret_bool hf.out.symm, hB.trans (hbv.mono hB.size)⟩
        | true =>
          have hf : Hid (R = plc label len) := by show _ = _; rw [HR2.out, h4, h5]; simp
          clear HR2
          go_wp2_with (first | (go_at_call 66; refine (hS _ _).mono ?_; rintro e u1 ⟨rfl, hb1⟩; replace hbv := hbv.trans (hb1.mono hbv.size); clear d0 d1 d2 e0 e1 e2 e3 e4 e5 e6 e7 e8 e9 e10 e11; obtain ⟨d0, d1, d2, e0, e1, e2, e3, e4, e5, e6, e7, e8, e9, e10, e11⟩ := KC.out _ hbv) | (go_at_call 67; refine (hLb _ _).mono ?_; rintro e u1 ⟨rfl, hb1⟩; replace hbv := hbv.trans (hb1.mono hbv.size)))
          go_ret
          exact ⟨ret_bool hf.out.symm, hB.trans (hbv.mono hB.size)⟩
end Go.Proofs.YtlaagfnoepcnlaaDoor.Ln
/- The contract of lines.Check. -/
namespace Go.Proofs.YtlaagfnoepcnlaaDoor.Ln
open Go.ChangeShapes Go.WideShapes Go.ChangeAt Go.RowKit
open Go.Proofs.YtlaagfnoepcnlaaDoor.St (BoxN boxn_new)
set_option linter.unusedVariables false

theorem aHas_seven (k : Nat) (hk : k < 9) : aHas.getD k [] = [(aHas.getD k []).getD 0 false, (aHas.getD k []).getD 1 false, (aHas.getD k []).getD 2 false, (aHas.getD k []).getD 3 false, (aHas.getD k []).getD 4 false, (aHas.getD k []).getD 5 false, (aHas.getD k []).getD 6 false] := by
  rcases (by omega : k = 0 ∨ k = 1 ∨ k = 2 ∨ k = 3 ∨ k = 4 ∨ k = 5 ∨ k = 6 ∨ k = 7 ∨ k = 8) with rfl | rfl | rfl | rfl | rfl | rfl | rfl | rfl | rfl <;> rfl
theorem aHas_call (k : Nat) (hk : k < 9) : (aHas.getD k []).getD 5 false = decide ((k : Int) = 1) := by
  rcases (by omega : k = 0 ∨ k = 1 ∨ k = 2 ∨ k = 3 ∨ k = 4 ∨ k = 5 ∨ k = 6 ∨ k = 7 ∨ k = 8) with rfl | rfl | rfl | rfl | rfl | rfl | rfl | rfl | rfl <;> rfl

set_option maxRecDepth 100000 in
set_option maxHeartbeats 8000000 in
theorem check_act (s p : Int) (a : Option Addr) (len cap : Nat) (ls : List (Int × Int)) (v : AV) (w : World) (h : IsLabs w a len cap ls) (hk : IsInts w v.ka v.kl v.kc v.keep)
    (hha : Tab w 0 7 aHas) (hhc : Tab w 2 4 cHas) (ht : CTops w) :
    Calls Tryd.prog 20 #[.agg #[.int .i64 s, .slice a len cap, .int .i64 p], .agg v.cells.toArray] w fun e w' => e = .returned (.int .i64 (actFault s ls p v)) ∧ Below w.heap.size w w' := by
  have zh := hha.lt (by decide) (by decide)
  have zc := hhc.lt (by decide) (by decide)
  have hAP := fun w' => actParts_any v w'
  obtain ⟨F, eF⟩ : ∃ F, F = actFault s ls p v := ⟨_, rfl⟩
  have hIn := fun w' (h1 : 1 ≤ s ∧ s ≤ 4) (h2 : len ≤ 6) (h3 : IsInts w' v.ka v.kl v.kc v.keep) => inBounds_any s p a len cap v w' h1 h2 h3
  obtain ⟨AI, eAI⟩ : ∃ AI, AI = actIn s len v := ⟨_, rfl⟩
  have hlen0 := h.1
  rw [← eAI] at hIn
  rw [← eF]
  have HF : Hid (F = if cfgFault s ls p ≠ 0 then cfgFault s ls p else if inR v.kind 1 8 = false then 3 else if AI = false then 2 else if only (aHas.getD v.kind.toNat []) (aParts v) = false then 4 else if v.kind = 1 then callFault v.c0 v.c1 v.c2 v.c3 v.c4 else 0) := by
    show _ = _
    rw [eF, eAI, actFault, hlen0]
  clear eF eAI
  obtain ⟨kind, site, to1, label, pick, ka, kl, kc, c0, c1, c2, c3, c4, line, keep⟩ := v
  simp only [AV.cells, aParts, List.map] at *
  obtain ⟨B1, eB1⟩ : ∃ B1, B1 = one (nz c0 c1 c2 c3 c4) := ⟨_, rfl⟩
  rw [← eB1] at HF hAP
  clear eB1
  obtain ⟨W, hW⟩ : ∃ W : World, W = (w.alloc (.cells #[.int .i64 s, .slice a len cap, .int .i64 p] 24)).alloc (.cells #[.int .i64 kind, .int .i64 site, .int .i64 to1, .int .i64 label, .int .i64 pick, .slice ka kl kc, .int .i64 c0, .int .i64 c1, .int .i64 c2, .int .i64 c3, .int .i64 c4, .string line] 41) := ⟨_, rfl⟩
  have hB : Below w.heap.size w W := by rw [hW]; exact ((Below.refl _ _).alloc (Nat.le_refl _) _).alloc (by simp) _
  have zW : w.heap.size + 1 < W.heap.size := by rw [hW]; simp
  have hLW := h.below hB
  have HK : Hid (∀ U, Below W.heap.size W U → IsInts U ka kl kc keep) := fun U hU => (hk.below hB).below hU
  have HTA : Hid (∀ U, Below W.heap.size W U → Tab U 0 7 aHas) := fun U hU => (hha.below hB zh).below hU (by omega)
  have HTC : Hid (∀ U, Below W.heap.size W U → Tab U 2 4 cHas ∧ CTops U) := fun U hU => ⟨(hhc.below hB zc).below hU (by omega), Nms.below (Nms.below ht hB ht.1) hU (by have := ht.1; omega)⟩
  clear hha hhc ht hk
  have d0 : W.cell? ⟨w.heap.size, 0, none⟩ = some (.int .i64 s) := by rw [hW]; go_simp
  have d1 : W.cell? ⟨w.heap.size, 1, none⟩ = some (.slice a len cap) := by rw [hW]; go_simp
  have d2 : W.cell? ⟨w.heap.size, 2, none⟩ = some (.int .i64 p) := by rw [hW]; go_simp
  have e0 : W.cell? ⟨w.heap.size + 1, 0, none⟩ = some (.int .i64 kind) := by rw [hW]; go_simp
  have e1 : W.cell? ⟨w.heap.size + 1, 1, none⟩ = some (.int .i64 site) := by rw [hW]; go_simp
  have e2 : W.cell? ⟨w.heap.size + 1, 2, none⟩ = some (.int .i64 to1) := by rw [hW]; go_simp
  have e3 : W.cell? ⟨w.heap.size + 1, 3, none⟩ = some (.int .i64 label) := by rw [hW]; go_simp
  have e4 : W.cell? ⟨w.heap.size + 1, 4, none⟩ = some (.int .i64 pick) := by rw [hW]; go_simp
  have e5 : W.cell? ⟨w.heap.size + 1, 5, none⟩ = some (.slice ka kl kc) := by rw [hW]; go_simp
  have e6 : W.cell? ⟨w.heap.size + 1, 6, none⟩ = some (.int .i64 c0) := by rw [hW]; go_simp
  have e7 : W.cell? ⟨w.heap.size + 1, 7, none⟩ = some (.int .i64 c1) := by rw [hW]; go_simp
  have e8 : W.cell? ⟨w.heap.size + 1, 8, none⟩ = some (.int .i64 c2) := by rw [hW]; go_simp
  have e9 : W.cell? ⟨w.heap.size + 1, 9, none⟩ = some (.int .i64 c3) := by rw [hW]; go_simp
  have e10 : W.cell? ⟨w.heap.size + 1, 10, none⟩ = some (.int .i64 c4) := by rw [hW]; go_simp
  have e11 : W.cell? ⟨w.heap.size + 1, 11, none⟩ = some (.string line) := by rw [hW]; go_simp
  have KC : Hid (∀ U : World, Below W.heap.size W U → U.cell? ⟨w.heap.size, 0, none⟩ = some (.int .i64 s) ∧ U.cell? ⟨w.heap.size, 1, none⟩ = some (.slice a len cap) ∧ U.cell? ⟨w.heap.size, 2, none⟩ = some (.int .i64 p) ∧ U.cell? ⟨w.heap.size + 1, 0, none⟩ = some (.int .i64 kind) ∧ U.cell? ⟨w.heap.size + 1, 1, none⟩ = some (.int .i64 site) ∧ U.cell? ⟨w.heap.size + 1, 2, none⟩ = some (.int .i64 to1) ∧ U.cell? ⟨w.heap.size + 1, 3, none⟩ = some (.int .i64 label) ∧ U.cell? ⟨w.heap.size + 1, 4, none⟩ = some (.int .i64 pick) ∧ U.cell? ⟨w.heap.size + 1, 5, none⟩ = some (.slice ka kl kc) ∧ U.cell? ⟨w.heap.size + 1, 6, none⟩ = some (.int .i64 c0) ∧ U.cell? ⟨w.heap.size + 1, 7, none⟩ = some (.int .i64 c1) ∧ U.cell? ⟨w.heap.size + 1, 8, none⟩ = some (.int .i64 c2) ∧ U.cell? ⟨w.heap.size + 1, 9, none⟩ = some (.int .i64 c3) ∧ U.cell? ⟨w.heap.size + 1, 10, none⟩ = some (.int .i64 c4) ∧ U.cell? ⟨w.heap.size + 1, 11, none⟩ = some (.string line)) := fun U hU => ⟨(hU.cell (p := ⟨w.heap.size, 0, none⟩) (by show w.heap.size < _; omega)).trans d0, (hU.cell (p := ⟨w.heap.size, 1, none⟩) (by show w.heap.size < _; omega)).trans d1, (hU.cell (p := ⟨w.heap.size, 2, none⟩) (by show w.heap.size < _; omega)).trans d2, (hU.cell (p := ⟨w.heap.size + 1, 0, none⟩) zW).trans e0, (hU.cell (p := ⟨w.heap.size + 1, 1, none⟩) zW).trans e1, (hU.cell (p := ⟨w.heap.size + 1, 2, none⟩) zW).trans e2, (hU.cell (p := ⟨w.heap.size + 1, 3, none⟩) zW).trans e3, (hU.cell (p := ⟨w.heap.size + 1, 4, none⟩) zW).trans e4, (hU.cell (p := ⟨w.heap.size + 1, 5, none⟩) zW).trans e5, (hU.cell (p := ⟨w.heap.size + 1, 6, none⟩) zW).trans e6, (hU.cell (p := ⟨w.heap.size + 1, 7, none⟩) zW).trans e7, (hU.cell (p := ⟨w.heap.size + 1, 8, none⟩) zW).trans e8, (hU.cell (p := ⟨w.heap.size + 1, 9, none⟩) zW).trans e9, (hU.cell (p := ⟨w.heap.size + 1, 10, none⟩) zW).trans e10, (hU.cell (p := ⟨w.heap.size + 1, 11, none⟩) zW).trans e11⟩
  go_enter Tryd.func20, Tryd.ntmps20
  go_upto_region 1 with (fail)
  rw [← hW]
  clear hW
  by_cases hF : cfgFault s ls p = 0
  case neg =>
    have hf : Hid (F = cfgFault s ls p) := by show _ = _; rw [HF.out, if_pos hF]
    clear HF
    go_wp2_with (go_at_call 19; refine (check_any s p a len cap ls _ hLW).mono ?_; rintro e w1 ⟨rfl, hb1⟩)
    go_ret
    exact ⟨ret_int hf.out.symm, hB.trans (hb1.mono hB.size)⟩
  obtain ⟨s1, s4, n1, n6, _, _, _⟩ := cfg_zero hF
  have l6 : len ≤ 6 := by omega
  have HF1 : Hid (F = if inR kind 1 8 = false then 3 else if AI = false then 2 else if only (aHas.getD kind.toNat []) [site, to1, label, pick, (kl : Int), B1, (line.size : Int)] = false then 4 else if kind = 1 then callFault c0 c1 c2 c3 c4 else 0) := by show _ = _; rw [HF.out, if_neg (by simpa using hF)]
  clear HF
  have HLn : Hid (ls.length = len) := hlen0
  clear hlen0 n1 n6 h
  go_upto_region 4 with (go_at_call 19; refine (check_any s p a len cap ls _ hLW).mono ?_; rintro e w1 ⟨rfl, hb1⟩)
  clear d0 d1 d2 e0 e1 e2 e3 e4 e5 e6 e7 e8 e9 e10 e11
  obtain ⟨d0, d1, d2, e0, e1, e2, e3, e4, e5, e6, e7, e8, e9, e10, e11⟩ := KC.out _ hb1
  cases hK : inR kind 1 8 with
  | false =>
    have hf : Hid (F = 3) := by show _ = _; rw [HF1.out, if_pos hK]
    clear HF1
    go_wp2_with (go_at_call 36; refine (within_any _ _ _ _).mono ?_; rintro e u1 ⟨rfl, hu1⟩; rw [hu1]; clear hu1)
    go_ret
    exact ⟨ret_int hf.out.symm, hB.trans (hb1.mono hB.size)⟩
  | true =>
    have kb := inR_of hK
    obtain ⟨k, rfl⟩ : ∃ k : Nat, kind = k := ⟨kind.toNat, by omega⟩
    have k9 : k < 9 := by omega
    have k9' : (k : Int) < 9 := by omega
    have HF2 : Hid (F = if AI = false then 2 else if only (aHas.getD k []) [site, to1, label, pick, (kl : Int), B1, (line.size : Int)] = false then 4 else if (k : Int) = 1 then callFault c0 c1 c2 c3 c4 else 0) := by show _ = _; rw [HF1.out, if_neg (by rw [hK]; simp), Int.toNat_natCast]
    clear HF1
    go_upto_region 6 with (go_at_call 36; refine (within_any _ _ _ _).mono ?_; rintro e u1 ⟨rfl, hu1⟩; rw [hu1]; clear hu1)
    cases AI with
    | false =>
      have hf : Hid (F = 2) := by show _ = _; rw [HF2.out, if_pos rfl]
      clear HF2
      go_wp2_with (go_at_call 39; refine (hIn _ ⟨s1, s4⟩ l6 (HK.out _ hb1)).mono ?_; rintro e w2 ⟨rfl, hb2⟩)
      go_ret
      exact ⟨ret_int hf.out.symm, hB.trans ((hb1.trans (hb2.mono hb1.size)).mono hB.size)⟩
    | true =>
      have HF3 : Hid (F = if only (aHas.getD k []) [site, to1, label, pick, (kl : Int), B1, (line.size : Int)] = false then 4 else if (k : Int) = 1 then callFault c0 c1 c2 c3 c4 else 0) := by show _ = _; rw [HF2.out, if_neg (by simp)]
      clear HF2
      go_upto_region 8 with (go_at_call 39; refine (hIn _ ⟨s1, s4⟩ l6 (HK.out _ hb1)).mono ?_; rintro e w2 ⟨rfl, hb2⟩)
      have hbV : Below W.heap.size W w2 := hb1.trans (hb2.mono hb1.size)
      obtain ⟨V, eV⟩ : ∃ V, V = w2 := ⟨_, rfl⟩
      rw [← eV] at hbV ⊢
      clear eV d0 d1 d2 e0 e1 e2 e3 e4 e5 e6 e7 e8 e9 e10 e11 hb2 hb1
      have zV : w.heap.size + 1 < V.heap.size := by have := hbV.size; omega
      have zhV : 0 < V.heap.size := by have := hbV.size; omega
      obtain ⟨d0, d1, d2, e0, e1, e2, e3, e4, e5, e6, e7, e8, e9, e10, e11⟩ := KC.out _ hbV
      have hTA := HTA.out V hbV
      have f0 := hTA k 0 k9 (by decide)
      have f1 := hTA k 1 k9 (by decide)
      have f2 := hTA k 2 k9 (by decide)
      have f3 := hTA k 3 k9 (by decide)
      have f4 := hTA k 4 k9 (by decide)
      have f5 := hTA k 5 k9 (by decide)
      have f6 := hTA k 6 k9 (by decide)
      have EH := aHas_seven k k9
      have ECl := aHas_call k k9
      obtain ⟨h0, eh0⟩ : ∃ x, x = (aHas.getD k []).getD 0 false := ⟨_, rfl⟩
      obtain ⟨h1, eh1⟩ : ∃ x, x = (aHas.getD k []).getD 1 false := ⟨_, rfl⟩
      obtain ⟨h2, eh2⟩ : ∃ x, x = (aHas.getD k []).getD 2 false := ⟨_, rfl⟩
      obtain ⟨h3, eh3⟩ : ∃ x, x = (aHas.getD k []).getD 3 false := ⟨_, rfl⟩
      obtain ⟨h4, eh4⟩ : ∃ x, x = (aHas.getD k []).getD 4 false := ⟨_, rfl⟩
      obtain ⟨h5, eh5⟩ : ∃ x, x = (aHas.getD k []).getD 5 false := ⟨_, rfl⟩
      obtain ⟨h6, eh6⟩ : ∃ x, x = (aHas.getD k []).getD 6 false := ⟨_, rfl⟩
      rw [← eh5] at ECl
      have HE5 : Hid (h5 = decide ((k : Int) = 1)) := ECl
      clear ECl
      rw [← eh0, ← eh1, ← eh2, ← eh3, ← eh4, ← eh5, ← eh6] at EH
      rw [← eh0] at f0
      rw [← eh1] at f1
      rw [← eh2] at f2
      rw [← eh3] at f3
      rw [← eh4] at f4
      rw [← eh5] at f5
      rw [← eh6] at f6
      clear eh0 eh1 eh2 eh3 eh4 eh5 eh6 hTA
      simp only [Nat.add_zero] at f0
      rw [EH] at HF3
      clear EH
      have KV : Hid (∀ U : World, Below V.heap.size V U → (U.cell? ⟨w.heap.size + 1, 0, none⟩ = some (.int .i64 (k : Int)) ∧ U.cell? ⟨w.heap.size + 1, 1, none⟩ = some (.int .i64 site) ∧ U.cell? ⟨w.heap.size + 1, 2, none⟩ = some (.int .i64 to1) ∧ U.cell? ⟨w.heap.size + 1, 3, none⟩ = some (.int .i64 label) ∧ U.cell? ⟨w.heap.size + 1, 4, none⟩ = some (.int .i64 pick) ∧ U.cell? ⟨w.heap.size + 1, 5, none⟩ = some (.slice ka kl kc) ∧ U.cell? ⟨w.heap.size + 1, 6, none⟩ = some (.int .i64 c0) ∧ U.cell? ⟨w.heap.size + 1, 7, none⟩ = some (.int .i64 c1) ∧ U.cell? ⟨w.heap.size + 1, 8, none⟩ = some (.int .i64 c2) ∧ U.cell? ⟨w.heap.size + 1, 9, none⟩ = some (.int .i64 c3) ∧ U.cell? ⟨w.heap.size + 1, 10, none⟩ = some (.int .i64 c4) ∧ U.cell? ⟨w.heap.size + 1, 11, none⟩ = some (.string line)) ∧ U.cell? ⟨0, k * 7, none⟩ = some (.bool h0) ∧ U.cell? ⟨0, k * 7 + 1, none⟩ = some (.bool h1) ∧ U.cell? ⟨0, k * 7 + 2, none⟩ = some (.bool h2) ∧ U.cell? ⟨0, k * 7 + 3, none⟩ = some (.bool h3) ∧ U.cell? ⟨0, k * 7 + 4, none⟩ = some (.bool h4) ∧ U.cell? ⟨0, k * 7 + 5, none⟩ = some (.bool h5) ∧ U.cell? ⟨0, k * 7 + 6, none⟩ = some (.bool h6)) := fun U hU => ⟨⟨(hU.cell (p := ⟨w.heap.size + 1, 0, none⟩) zV).trans e0, (hU.cell (p := ⟨w.heap.size + 1, 1, none⟩) zV).trans e1, (hU.cell (p := ⟨w.heap.size + 1, 2, none⟩) zV).trans e2, (hU.cell (p := ⟨w.heap.size + 1, 3, none⟩) zV).trans e3, (hU.cell (p := ⟨w.heap.size + 1, 4, none⟩) zV).trans e4, (hU.cell (p := ⟨w.heap.size + 1, 5, none⟩) zV).trans e5, (hU.cell (p := ⟨w.heap.size + 1, 6, none⟩) zV).trans e6, (hU.cell (p := ⟨w.heap.size + 1, 7, none⟩) zV).trans e7, (hU.cell (p := ⟨w.heap.size + 1, 8, none⟩) zV).trans e8, (hU.cell (p := ⟨w.heap.size + 1, 9, none⟩) zV).trans e9, (hU.cell (p := ⟨w.heap.size + 1, 10, none⟩) zV).trans e10, (hU.cell (p := ⟨w.heap.size + 1, 11, none⟩) zV).trans e11⟩, (hU.cell (p := ⟨0, k * 7, none⟩) zhV).trans f0, (hU.cell (p := ⟨0, k * 7 + 1, none⟩) zhV).trans f1, (hU.cell (p := ⟨0, k * 7 + 2, none⟩) zhV).trans f2, (hU.cell (p := ⟨0, k * 7 + 3, none⟩) zhV).trans f3, (hU.cell (p := ⟨0, k * 7 + 4, none⟩) zhV).trans f4, (hU.cell (p := ⟨0, k * 7 + 5, none⟩) zhV).trans f5, (hU.cell (p := ⟨0, k * 7 + 6, none⟩) zhV).trans f6⟩
      clear d0 d1 d2 e0 e1 e2 e3 e4 e5 e6 e7 e8 e9 e10 e11 f0 f1 f2 f3 f4 f5 f6
      go_cut [6, 7] (fun s6 s7 wc => ∃ b6 b7 : Nat, s6 = .pointer (some ⟨b6, 0, none⟩) ∧ s7 = .pointer (some ⟨b7, 0, none⟩) ∧ BoxN wc b6 7 [.bool h0, .bool h1, .bool h2, .bool h3, .bool h4, .bool h5, .bool h6] ∧ BoxN wc b7 7 [.int .i64 site, .int .i64 to1, .int .i64 label, .int .i64 pick, .int .i64 (kl : Int), .int .i64 B1, .int .i64 (line.size : Int)] ∧ Below V.heap.size V wc)
      case first =>
        refine wp_region_inv (by kernel_rfl) [21, 22, 23, 24, 25, 26, 6, 7] (fun L T u => ∃ (b6 : Nat) (b7 : Nat), Below V.heap.size V u ∧ (L 0 = true → T 21 = .pointer (some ⟨w.heap.size + 1, 0, none⟩)) ∧ (L 1 = true → T 22 = .int .i64 (k : Int)) ∧ (L 2 = true → T 23 = .pointer (some ⟨0, k * 7, none⟩)) ∧ (L 3 = true → T 24 = .agg #[.bool h0, .bool h1, .bool h2, .bool h3, .bool h4, .bool h5, .bool h6]) ∧ (L 4 = true → T 25 = .agg #[.int .i64 (k : Int), .int .i64 site, .int .i64 to1, .int .i64 label, .int .i64 pick, .slice ka kl kc, .int .i64 c0, .int .i64 c1, .int .i64 c2, .int .i64 c3, .int .i64 c4, .string line]) ∧ (L 5 = true → T 26 = .agg #[.int .i64 site, .int .i64 to1, .int .i64 label, .int .i64 pick, .int .i64 (kl : Int), .int .i64 B1, .int .i64 (line.size : Int)]) ∧ (L 6 = true → (T 6 = .pointer (some ⟨b6, 0, none⟩) ∧ V.heap.size ≤ b6 ∧ b6 < u.heap.size)) ∧ (L 7 = true → (T 7 = .pointer (some ⟨b7, 0, none⟩) ∧ V.heap.size ≤ b7 ∧ b7 < u.heap.size)) ∧ (L 6 = true → L 7 = true → b6 ≠ b7) ∧ (L 6 = true → L 8 = false → BoxN u b6 7 [.bool false, .bool false, .bool false, .bool false, .bool false, .bool false, .bool false]) ∧ (L 7 = true → L 9 = false → BoxN u b7 7 [.int .i64 0, .int .i64 0, .int .i64 0, .int .i64 0, .int .i64 0, .int .i64 0, .int .i64 0]) ∧ (L 8 = true → BoxN u b6 7 [.bool h0, .bool h1, .bool h2, .bool h3, .bool h4, .bool h5, .bool h6]) ∧ (L 9 = true → BoxN u b7 7 [.int .i64 site, .int .i64 to1, .int .i64 label, .int .i64 pick, .int .i64 (kl : Int), .int .i64 B1, .int .i64 (line.size : Int)])) (by decide) (by kernel_rfl) (by kernel_rfl) ?_ ?_ ?_
        · exact ⟨0, 0, (Below.refl _ _).drew, nofun, nofun, nofun, nofun, nofun, nofun, nofun, nofun, nofun, nofun, nofun, nofun, nofun⟩
        · refine ⟨?_, ?_, ?_, ?_, ?_, ?_, ?_, ?_, ?_, ?_, trivial⟩
          · rintro L T u hd hk hcl ⟨b6, b7, hb, p0, p1, p2, p3, p4, p5, p6, p7, ap, z6, z7, q6, q7⟩ K hK
            simp only [fr, Act.put, List.setIfInBounds_toArray, List.set_cons_zero, List.set_cons_succ, updO] at hK ⊢
            simp [Region.binds] at hd
            rw [if_pos (by rfl)]
            simp only [Oper.wpv]
            go_simp
            exact hK _ _ ⟨b6, b7, hb, fun _ => rfl, p1, p2, p3, p4, p5, p6, p7, ap, z6, z7, q6, q7⟩
          · rintro L T u hd hk hcl ⟨b6, b7, hb, p0, p1, p2, p3, p4, p5, p6, p7, ap, z6, z7, q6, q7⟩ K hK
            simp only [fr, Act.put, List.setIfInBounds_toArray, List.set_cons_zero, List.set_cons_succ, updO] at hK ⊢
            simp [Region.binds] at hd
            have g0 := p0 (by simp [hd])
            obtain ⟨⟨e0, e1, e2, e3, e4, e5, e6, e7, e8, e9, e10, e11⟩, f0, f1, f2, f3, f4, f5, f6⟩ := KV.out u hb
            rw [if_pos (by rfl)]
            simp only [Oper.wpv]
            go_simp
            exact hK _ _ ⟨b6, b7, hb, p0, fun _ => rfl, p2, p3, p4, p5, p6, p7, ap, z6, z7, q6, q7⟩
          · rintro L T u hd hk hcl ⟨b6, b7, hb, p0, p1, p2, p3, p4, p5, p6, p7, ap, z6, z7, q6, q7⟩ K hK
            simp only [fr, Act.put, List.setIfInBounds_toArray, List.set_cons_zero, List.set_cons_succ, updO] at hK ⊢
            simp [Region.binds] at hd
            have g0 := p1 (by simp [hd])
            have k0 : (0 : Int) ≤ (k : Int) := by omega
            rw [if_pos (by rfl)]
            simp only [Oper.wpv]
            go_simp
            exact hK _ _ ⟨b6, b7, hb, p0, p1, fun _ => rfl, p3, p4, p5, p6, p7, ap, z6, z7, q6, q7⟩
          · rintro L T u hd hk hcl ⟨b6, b7, hb, p0, p1, p2, p3, p4, p5, p6, p7, ap, z6, z7, q6, q7⟩ K hK
            simp only [fr, Act.put, List.setIfInBounds_toArray, List.set_cons_zero, List.set_cons_succ, updO] at hK ⊢
            simp [Region.binds] at hd
            have g0 := p2 (by simp [hd])
            obtain ⟨⟨e0, e1, e2, e3, e4, e5, e6, e7, e8, e9, e10, e11⟩, f0, f1, f2, f3, f4, f5, f6⟩ := KV.out u hb
            rw [if_pos (by rfl)]
            simp only [Oper.wpv]
            go_simp
            exact hK _ _ ⟨b6, b7, hb, p0, p1, p2, fun _ => rfl, p4, p5, p6, p7, ap, z6, z7, q6, q7⟩
          · rintro L T u hd hk hcl ⟨b6, b7, hb, p0, p1, p2, p3, p4, p5, p6, p7, ap, z6, z7, q6, q7⟩ K hK
            simp only [fr, Act.put, List.setIfInBounds_toArray, List.set_cons_zero, List.set_cons_succ, updO] at hK ⊢
            simp [Region.binds] at hd
            obtain ⟨⟨e0, e1, e2, e3, e4, e5, e6, e7, e8, e9, e10, e11⟩, f0, f1, f2, f3, f4, f5, f6⟩ := KV.out u hb
            rw [if_pos (by rfl)]
            simp only [Oper.wpv]
            go_simp
            exact hK _ _ ⟨b6, b7, hb, p0, p1, p2, p3, fun _ => rfl, p5, p6, p7, ap, z6, z7, q6, q7⟩
          · rintro L T u hd hk hcl ⟨b6, b7, hb, p0, p1, p2, p3, p4, p5, p6, p7, ap, z6, z7, q6, q7⟩ K hK
            simp only [fr, Act.put, List.setIfInBounds_toArray, List.set_cons_zero, List.set_cons_succ, updO] at hK ⊢
            simp [Region.binds] at hd
            have g0 := p4 (by simp [hd])
            rw [if_pos (by rfl)]
            simp only [Oper.wpv]
            go_simp
            refine (hAP _).mono ?_
            rintro e u1 ⟨rfl, hg⟩
            exact hK _ _ ⟨b6, b7, (nT hb hg), p0, p1, p2, p3, p4, fun _ => rfl, fun h0 => ⟨(p6 h0).1, (p6 h0).2.1, Nat.lt_of_lt_of_le (p6 h0).2.2 hg.size⟩, fun h0 => ⟨(p7 h0).1, (p7 h0).2.1, Nat.lt_of_lt_of_le (p7 h0).2.2 hg.size⟩, ap, fun h0 h1 => (z6 h0 h1).below hg (z6 h0 h1).lt, fun h0 h1 => (z7 h0 h1).below hg (z7 h0 h1).lt, fun h0 => (q6 h0).below hg (q6 h0).lt, fun h0 => (q7 h0).below hg (q7 h0).lt⟩
          · rintro L T u hd hk hcl ⟨b6, b7, hb, p0, p1, p2, p3, p4, p5, p6, p7, ap, z6, z7, q6, q7⟩ K hK
            simp only [fr, Act.put, List.setIfInBounds_toArray, List.set_cons_zero, List.set_cons_succ, updO] at hK ⊢
            simp [Region.binds] at hd
            have hg : Below u.heap.size u (u.alloc (.cells #[.bool false, .bool false, .bool false, .bool false, .bool false, .bool false, .bool false] 80)) := (Below.refl _ _).alloc (Nat.le_refl _) _
            have k8 := hcl 8 _ rfl
            simp [Region.binds] at k8
            rw [if_pos (by rfl)]
            simp only [Oper.wpv]
            go_simp
            exact hK _ _ ⟨u.heap.size, b7, (nT hb hg), p0, p1, p2, p3, p4, p5, fun _ => ⟨rfl, hb.size, by simp⟩, fun h0 => ⟨(p7 h0).1, (p7 h0).2.1, Nat.lt_of_lt_of_le (p7 h0).2.2 hg.size⟩, fun _ h1 => (Nat.ne_of_lt (p7 h1).2.2).symm, fun _ _ => boxn_new u #[.bool false, .bool false, .bool false, .bool false, .bool false, .bool false, .bool false] 80 7 rfl, fun h0 h1 => (z7 h0 h1).below hg (z7 h0 h1).lt, fun h => by have := k8 h; simp [hk] at this, fun h0 => (q7 h0).below hg (q7 h0).lt⟩
          · rintro L T u hd hk hcl ⟨b6, b7, hb, p0, p1, p2, p3, p4, p5, p6, p7, ap, z6, z7, q6, q7⟩ K hK
            simp only [fr, Act.put, List.setIfInBounds_toArray, List.set_cons_zero, List.set_cons_succ, updO] at hK ⊢
            simp [Region.binds] at hd
            have hg : Below u.heap.size u (u.alloc (.cells #[.int .i64 0, .int .i64 0, .int .i64 0, .int .i64 0, .int .i64 0, .int .i64 0, .int .i64 0] 82)) := (Below.refl _ _).alloc (Nat.le_refl _) _
            have k9c := hcl 9 _ rfl
            simp [Region.binds] at k9c
            rw [if_pos (by rfl)]
            simp only [Oper.wpv]
            go_simp
            exact hK _ _ ⟨b6, u.heap.size, (nT hb hg), p0, p1, p2, p3, p4, p5, fun h0 => ⟨(p6 h0).1, (p6 h0).2.1, Nat.lt_of_lt_of_le (p6 h0).2.2 hg.size⟩, fun _ => ⟨rfl, hb.size, by simp⟩, fun h0 _ => Nat.ne_of_lt (p6 h0).2.2, fun h0 h1 => (z6 h0 h1).below hg (z6 h0 h1).lt, fun _ _ => boxn_new u #[.int .i64 0, .int .i64 0, .int .i64 0, .int .i64 0, .int .i64 0, .int .i64 0, .int .i64 0] 82 7 rfl, fun h0 => (q6 h0).below hg (q6 h0).lt, fun h => by have := k9c h; simp [hk] at this⟩
          · rintro L T u hd hk hcl ⟨b6, b7, hb, p0, p1, p2, p3, p4, p5, p6, p7, ap, z6, z7, q6, q7⟩ K hK
            simp only [fr, Act.put, List.setIfInBounds_toArray, List.set_cons_zero, List.set_cons_succ, updO] at hK ⊢
            simp [Region.binds] at hd
            have g3 := p3 (by simp [hd])
            obtain ⟨g0, l0, l1⟩ := p6 (by simp [hd])
            have bx := z6 (by simp [hd]) hk
            have x0 : _ = some _ := (bx.c 0 (by decide)).1
            have y0 := (bx.c 0 (by decide)).2
            have x1 : _ = some _ := (bx.c 1 (by decide)).1
            have y1 := (bx.c 1 (by decide)).2
            have x2 : _ = some _ := (bx.c 2 (by decide)).1
            have y2 := (bx.c 2 (by decide)).2
            have x3 : _ = some _ := (bx.c 3 (by decide)).1
            have y3 := (bx.c 3 (by decide)).2
            have x4 : _ = some _ := (bx.c 4 (by decide)).1
            have y4 := (bx.c 4 (by decide)).2
            have x5 : _ = some _ := (bx.c 5 (by decide)).1
            have y5 := (bx.c 5 (by decide)).2
            have x6 : _ = some _ := (bx.c 6 (by decide)).1
            have y6 := (bx.c 6 (by decide)).2
            simp only [List.getD_cons_zero, List.getD_cons_succ] at x0 x1 x2 x3 x4 x5 x6
            have k9c := hcl 9 _ rfl
            simp [Region.binds] at k9c
            rw [if_pos (by rfl)]
            simp only [Oper.wpv]
            go_simp
            exact hK _ _ ⟨b6, b7, (nS (nS (nS (nS (nS (nS (nS hb l0 _) l0 _) l0 _) l0 _) l0 _) l0 _) l0 _), p0, p1, p2, p3, p4, p5, fun h0 => ⟨(p6 h0).1, (p6 h0).2.1, by simpa using (p6 h0).2.2⟩, fun h0 => ⟨(p7 h0).1, (p7 h0).2.1, by simpa using (p7 h0).2.2⟩, ap, fun _ h => Bool.noConfusion (show true = false from h), fun h0 h1 => ((((((((z7 h0 h1).far (Ne.symm (ap (by simp [hd]) h0))).far (Ne.symm (ap (by simp [hd]) h0))).far (Ne.symm (ap (by simp [hd]) h0))).far (Ne.symm (ap (by simp [hd]) h0))).far (Ne.symm (ap (by simp [hd]) h0))).far (Ne.symm (ap (by simp [hd]) h0))).far (Ne.symm (ap (by simp [hd]) h0))), fun _ => (((((((bx.set 0 (by decide) (.bool h0)).set 1 (by decide) (.bool h1)).set 2 (by decide) (.bool h2)).set 3 (by decide) (.bool h3)).set 4 (by decide) (.bool h4)).set 5 (by decide) (.bool h5)).set 6 (by decide) (.bool h6)), fun h0 => ((((((((q7 h0).far (Ne.symm (ap (by simp [hd]) (by simp [k9c h0])))).far (Ne.symm (ap (by simp [hd]) (by simp [k9c h0])))).far (Ne.symm (ap (by simp [hd]) (by simp [k9c h0])))).far (Ne.symm (ap (by simp [hd]) (by simp [k9c h0])))).far (Ne.symm (ap (by simp [hd]) (by simp [k9c h0])))).far (Ne.symm (ap (by simp [hd]) (by simp [k9c h0])))).far (Ne.symm (ap (by simp [hd]) (by simp [k9c h0]))))⟩
          · rintro L T u hd hk hcl ⟨b6, b7, hb, p0, p1, p2, p3, p4, p5, p6, p7, ap, z6, z7, q6, q7⟩ K hK
            simp only [fr, Act.put, List.setIfInBounds_toArray, List.set_cons_zero, List.set_cons_succ, updO] at hK ⊢
            simp [Region.binds] at hd
            have g3 := p5 (by simp [hd])
            obtain ⟨g0, l0, l1⟩ := p7 (by simp [hd])
            have bx := z7 (by simp [hd]) hk
            have x0 : _ = some _ := (bx.c 0 (by decide)).1
            have y0 := (bx.c 0 (by decide)).2
            have x1 : _ = some _ := (bx.c 1 (by decide)).1
            have y1 := (bx.c 1 (by decide)).2
            have x2 : _ = some _ := (bx.c 2 (by decide)).1
            have y2 := (bx.c 2 (by decide)).2
            have x3 : _ = some _ := (bx.c 3 (by decide)).1
            have y3 := (bx.c 3 (by decide)).2
            have x4 : _ = some _ := (bx.c 4 (by decide)).1
            have y4 := (bx.c 4 (by decide)).2
            have x5 : _ = some _ := (bx.c 5 (by decide)).1
            have y5 := (bx.c 5 (by decide)).2
            have x6 : _ = some _ := (bx.c 6 (by decide)).1
            have y6 := (bx.c 6 (by decide)).2
            simp only [List.getD_cons_zero, List.getD_cons_succ] at x0 x1 x2 x3 x4 x5 x6
            have k8 := hcl 8 _ rfl
            simp [Region.binds] at k8
            rw [if_pos (by rfl)]
            simp only [Oper.wpv]
            go_simp
            exact hK _ _ ⟨b6, b7, (nS (nS (nS (nS (nS (nS (nS hb l0 _) l0 _) l0 _) l0 _) l0 _) l0 _) l0 _), p0, p1, p2, p3, p4, p5, fun h0 => ⟨(p6 h0).1, (p6 h0).2.1, by simpa using (p6 h0).2.2⟩, fun h0 => ⟨(p7 h0).1, (p7 h0).2.1, by simpa using (p7 h0).2.2⟩, ap, fun h0 h1 => ((((((((z6 h0 h1).far (ap h0 (by simp [hd]))).far (ap h0 (by simp [hd]))).far (ap h0 (by simp [hd]))).far (ap h0 (by simp [hd]))).far (ap h0 (by simp [hd]))).far (ap h0 (by simp [hd]))).far (ap h0 (by simp [hd]))), fun _ h => Bool.noConfusion (show true = false from h), fun h0 => ((((((((q6 h0).far (ap (by simp [k8 h0]) (by simp [hd]))).far (ap (by simp [k8 h0]) (by simp [hd]))).far (ap (by simp [k8 h0]) (by simp [hd]))).far (ap (by simp [k8 h0]) (by simp [hd]))).far (ap (by simp [k8 h0]) (by simp [hd]))).far (ap (by simp [k8 h0]) (by simp [hd]))).far (ap (by simp [k8 h0]) (by simp [hd]))), fun _ => (((((((bx.set 0 (by decide) (.int .i64 site)).set 1 (by decide) (.int .i64 to1)).set 2 (by decide) (.int .i64 label)).set 3 (by decide) (.int .i64 pick)).set 4 (by decide) (.int .i64 (kl : Int))).set 5 (by decide) (.int .i64 B1)).set 6 (by decide) (.int .i64 (line.size : Int)))⟩
        · rintro L T u hl ⟨b6, b7, hb, p0, p1, p2, p3, p4, p5, p6, p7, ap, z6, z7, q6, q7⟩
          simp only [fr, Act.put, List.setIfInBounds_toArray, List.set_cons_zero, List.set_cons_succ]
          obtain ⟨g6, _, _⟩ := p6 (hl 6 (by decide))
          obtain ⟨g7, _, _⟩ := p7 (hl 7 (by decide))
          have bx6 := q6 (hl 8 (by decide))
          have bx7 := q7 (hl 9 (by decide))
          have HE : Hid (T 6 = .pointer (some ⟨b6, 0, none⟩) ∧ T 7 = .pointer (some ⟨b7, 0, none⟩)) := ⟨g6, g7⟩
          clear g6 g7 p0 p1 p2 p3 p4 p5 p6 p7 ap z6 z7 q6 q7
          go_wp2_with fail
          go_meet
          case rel => exact ⟨b6, b7, HE.out.1, HE.out.2, bx6, bx7, hb⟩
      case rest =>
        obtain ⟨b6, b7, rfl, rfl, bx6, bx7, bX⟩ := hcut
        obtain ⟨X, eX⟩ : ∃ X, X = wc := ⟨_, rfl⟩
        rw [← eX] at bx6 bx7 bX ⊢
        clear eX
        have hB6 := Bools.of (hs := [h0, h1, h2, h3, h4, h5, h6]) bx6
        have hN7 := Nms.of (ps := [site, to1, label, pick, (kl : Int), B1, (line.size : Int)]) bx7
        have HO : Hid (∀ U, Below X.heap.size X U → Calls Tryd.prog 41 #[.slice (some ⟨b6, 0, none⟩) 7 7, .slice (some ⟨b7, 0, none⟩) 7 7] U fun e w' => e = .returned (.bool (only [h0, h1, h2, h3, h4, h5, h6] [site, to1, label, pick, (kl : Int), B1, (line.size : Int)])) ∧ w' = U) := fun U hU => onlyHas_any b6 b7 7 [h0, h1, h2, h3, h4, h5, h6] [site, to1, label, pick, (kl : Int), B1, (line.size : Int)] U rfl rfl (by decide) (hB6.below hU hB6.1) (hN7.below hU hN7.1)
        obtain ⟨O, eO⟩ : ∃ O, O = only [h0, h1, h2, h3, h4, h5, h6] [site, to1, label, pick, (kl : Int), B1, (line.size : Int)] := ⟨_, rfl⟩
        rw [← eO] at HF3 HO
        clear eO hB6 hN7
        have b5 := (bx6.c 5 (by decide)).1
        simp only [List.getD_cons_zero, List.getD_cons_succ] at b5
        have z6 := bx6.lt
        have z7 := bx7.lt
        have hWX : Below W.heap.size W X := hbV.trans (bX.mono hbV.size)
        have hwX : Below w.heap.size w X := hB.trans (hWX.mono hB.size)
        obtain ⟨⟨e0, e1, e2, e3, e4, e5, e6, e7, e8, e9, e10, e11⟩, _⟩ := KV.out X bX
        obtain ⟨hTC, hCT⟩ := HTC.out X hWX
        have HC : Hid (∀ U, Below X.heap.size X U → Calls Tryd.prog 42 #[.agg #[.int .i64 c0, .int .i64 c1, .int .i64 c2, .int .i64 c3, .int .i64 c4]] U fun e w' => e = .returned (.int .i64 (callFault c0 c1 c2 c3 c4)) ∧ Below U.heap.size U w') := fun U hU => checkCall_any c0 c1 c2 c3 c4 U (hTC.below hU (by have := hWX.size; omega)) (Nms.below hCT hU hCT.1)
        clear hTC hCT HTC HTA KV KC bx6 bx7 HK
        go_upto_region 9 with (fail)
        go_region_with ((go_at_call 41; refine (HO.out _ ((Below.refl _ _).drew)).mono ?_; rintro e u2 ⟨rfl, hu⟩; rw [hu]; clear hu))
        cases O with
        | false =>
          have hf : Hid (F = 4) := by show _ = _; rw [HF3.out]; rfl
          clear HF3
          go_wp2
          go_ret
          exact ⟨ret_int hf.out.symm, hwX.drew⟩
        | true =>
          by_cases hk1 : (k : Int) = 1
          · have hf : Hid (F = callFault c0 c1 c2 c3 c4) := by show _ = _; rw [HF3.out, if_neg (by simp), if_pos hk1]
            have h5t : h5 = true := by rw [HE5.out]; simpa using hk1
            subst h5t
            clear HF3 hk1 HE5
            go_wp2_with (go_at_call 42; refine (HC.out _ ((Below.refl _ _).drew)).mono ?_; rintro e u3 ⟨rfl, hb3⟩)
            go_ret
            exact ⟨ret_int hf.out.symm, hwX.drew.trans (hb3.mono (by simpa using hwX.size))⟩
          · have hf : Hid (F = 0) := by show _ = _; rw [HF3.out, if_neg (by simp), if_neg hk1]
            have h5f : h5 = false := by rw [HE5.out]; simpa using hk1
            subst h5f
            clear HF3 hk1 HE5
            go_wp2
            go_ret
            exact ⟨ret_int hf.out.symm, hwX.drew⟩
end Go.Proofs.YtlaagfnoepcnlaaDoor.Ln
