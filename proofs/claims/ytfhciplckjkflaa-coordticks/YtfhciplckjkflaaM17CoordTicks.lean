/- Texts of this claim, one behind the other. -/
import Derived.Test.YtfhciplckjkflaaM16CoordTicks
import Derived.Test.YtfhciplckjkflaaProg
import Derived.WalkKit
import Derived.ProofKit
import Derived.Below
import Derived.Test.YtfhciplckjkflaaA0CoordTicks
import Derived.BigQuiet
import Derived.BigRegion
import Derived.RegionTactic
import Derived.Deep.RegionWith
import Derived.WalkSmall
import Derived.Test.YtfhciplckjkflaaM2CoordTicks
/- What the clerk's hands asks of a task; and the sites that have a hand in a transaction. -/
namespace Go.Proofs.Ytfhciplckjkflaa.Co
open Go.ChangeShapes Go.WideShapes Go.ChangeAt Go.RowKit
open Go.Proofs.Ytfhciplckjkflaa.St (BoxN boxn_new own_below grown_setCell IsRow Elem flat flat_append own_isRow idxI idxI_lt own_setk)
set_option linter.unusedVariables false

theorem nT {w u v : World} (h : Below w.heap.size w u) (h2 : Below u.heap.size u v) : Below w.heap.size w v := h.trans (h2.mono h.size)
/-- Has the task left something at that site? -/
def handAt (s : Int) (ls : List (Int × Int)) (p l site : Int) (t : TkV) : Bool := (t.label == l) && (homeNum s ls p t.key == site)
set_option maxRecDepth 100000 in
set_option maxHeartbeats 4000000 in
theorem hand_asks {w : World} {B q : Nat} {v : CkV} {ix : List (Nat × Nat)} {more : List Rw} (X : World) (h : Clerk w X B q v ix more) (ls : List (Int × Int)) (hl : IsLabs X v.a v.len v.cap ls) (bK bS : Nat) (site : Int) (cK : X.cell? ⟨bK, 0, none⟩ = some (.pointer (some ⟨q, 0, none⟩))) (zK : bK < X.heap.size) (cS : X.cell? ⟨bS, 0, none⟩ = some (.int .i64 site)) (zS : bS < X.heap.size) :
    Asks 74 #[.pointer (some ⟨bK, 0, none⟩), .pointer (some ⟨bS, 0, none⟩)] TkV.val (handAt v.s ls v.p v.l site) X := by
  refine ⟨enters_of Try.func74 (by kernel_rfl) rfl, fun x Y hb => ?_⟩
  have hY := h.below hb
  have hlY := hl.below hb
  have cK := (hb.cell (p := ⟨bK, 0, none⟩) zK).trans cK
  have cS := (hb.cell (p := ⟨bS, 0, none⟩) zS).trans cS
  have zK := Nat.lt_of_lt_of_le zK hb.size
  have zS := Nat.lt_of_lt_of_le zS hb.size
  have zq := hY.held.box.lt
  obtain ⟨write, label, key, value, version, ask, done, sure⟩ := x
  have HH : Hid (∀ U, Below Y.heap.size Y U → Calls Try.prog 51 #[.pointer (some ⟨q, 0, none⟩), .int .i64 key] U fun e U' => e = .returned (.int .i64 (homeNum v.s ls v.p key)) ∧ Below U.heap.size U U') := fun U hU => clerkHome_any U (hY.below hU) ls (hlY.below hU) key
  have q3 : Y.cell? ⟨q, 3, none⟩ = some (.int .i64 v.l) := (hY.held.box.c 3 (by decide)).1
  have HP : Hid (handAt v.s ls v.p v.l site ⟨write, label, key, value, version, ask, done, sure⟩ = ((label == v.l) && (homeNum v.s ls v.p key == site))) := rfl
  obtain ⟨H, eH⟩ : ∃ H, H = homeNum v.s ls v.p key := ⟨_, rfl⟩
  rw [← eH] at HH HP
  obtain ⟨R, eR⟩ : ∃ R, R = handAt v.s ls v.p v.l site ⟨write, label, key, value, version, ask, done, sure⟩ := ⟨_, rfl⟩
  rw [← eR] at HP ⊢
  clear eH eR h hl hY hlY hb
  obtain ⟨VL, eVL⟩ : ∃ x, x = v.l := ⟨_, rfl⟩
  rw [← eVL] at q3 HP
  clear eVL
  simp only [TkV.val]
  obtain ⟨W, hW⟩ : ∃ W : World, W = Y.alloc (.cells #[.bool write, .int .i64 label, .int .i64 key, .int .i64 value, .int .i64 version, .int .i64 ask, .bool done, .bool sure] 73) := ⟨_, rfl⟩
  have bW : Below Y.heap.size Y W := by rw [hW]; exact (Below.refl _ _).alloc (Nat.le_refl _) _
  have t1 : W.cell? ⟨Y.heap.size, 1, none⟩ = some (.int .i64 label) := by rw [hW]; go_simp
  have t2 : W.cell? ⟨Y.heap.size, 2, none⟩ = some (.int .i64 key) := by rw [hW]; go_simp
  have zW : Y.heap.size < W.heap.size := by rw [hW]; simp
  have KC : Hid (∀ U, Below W.heap.size W U → (U.cell? ⟨Y.heap.size, 1, none⟩ = some (.int .i64 label) ∧ U.cell? ⟨Y.heap.size, 2, none⟩ = some (.int .i64 key)) ∧ U.cell? ⟨bK, 0, none⟩ = some (.pointer (some ⟨q, 0, none⟩)) ∧ U.cell? ⟨bS, 0, none⟩ = some (.int .i64 site) ∧ U.cell? ⟨q, 3, none⟩ = some (.int .i64 VL)) := fun U hU => by
    have hv := bW.trans (hU.mono bW.size)
    exact ⟨⟨(hU.cell (p := ⟨Y.heap.size, 1, none⟩) zW).trans t1, (hU.cell (p := ⟨Y.heap.size, 2, none⟩) zW).trans t2⟩, (hv.cell (p := ⟨bK, 0, none⟩) zK).trans cK, (hv.cell (p := ⟨bS, 0, none⟩) zS).trans cS, (hv.cell (p := ⟨q, 3, none⟩) zq).trans q3⟩
  show Calls Try.prog 74 #[_, .pointer (some ⟨bK, 0, none⟩), .pointer (some ⟨bS, 0, none⟩)] Y _
  go_enter Try.func74, Try.ntmps74
  go_upto_region 1 with (fail)
  rw [← hW]
  clear hW t1 t2
  by_cases hlb : label = VL
  · have EB : Hid ((label == VL) = true) := by show _ = _; simpa using hlb
    have hf : Hid (R = (H == site)) := by show _ = _; rw [HP.out, EB.out]; rfl
    clear HP hlb
    refine wp_region_inv (by kernel_rfl) [5, 6, 7, 8, 9, 10, 11, 12, 13, 14, 15, 16, 17, 18, 19, 4] (fun L T u => Below W.heap.size W u ∧ (L 0 = true → T 5 = .pointer (some ⟨Y.heap.size, 1, none⟩)) ∧ (L 1 = true → T 6 = .int .i64 label) ∧ (L 2 = true → T 7 = .pointer (some ⟨q, 0, none⟩)) ∧ (L 3 = true → T 8 = .pointer (some ⟨q, 0, none⟩)) ∧ (L 4 = true → T 9 = .pointer (some ⟨q, 3, none⟩)) ∧ (L 5 = true → T 10 = .int .i64 VL) ∧ (L 6 = true → T 11 = .bool true) ∧ (L 7 = true → T 12 = .bool true) ∧ (L 8 = true → T 13 = .pointer (some ⟨q, 0, none⟩)) ∧ (L 9 = true → T 14 = .pointer (some ⟨Y.heap.size, 2, none⟩)) ∧ (L 10 = true → T 15 = .int .i64 key) ∧ (L 11 = true → T 16 = .int .i64 H) ∧ (L 12 = true → T 17 = .int .i64 site) ∧ (L 13 = true → T 18 = .bool (H == site)) ∧ (L 14 = true → T 19 = .bool (H == site)) ∧ (L 15 = true → T 4 = .bool (H == site))) (by decide) (by kernel_rfl) (by kernel_rfl) ?_ ?_ ?_
    · exact ⟨(Below.refl _ _).drew, nofun, nofun, nofun, nofun, nofun, nofun, nofun, nofun, nofun, nofun, nofun, nofun, nofun, nofun, nofun, nofun⟩
    · refine ⟨?_, ?_, ?_, ?_, ?_, ?_, ?_, ?_, ?_, ?_, ?_, ?_, ?_, ?_, ?_, ?_, trivial⟩
      · rintro L T u hd hk hcl ⟨hb, p0, p1, p2, p3, p4, p5, p6, p7, p8, p9, p10, p11, p12, p13, p14, p15⟩ K hK
        simp only [fr, Act.put, List.setIfInBounds_toArray, List.set_cons_zero, List.set_cons_succ, updO] at hK ⊢
        simp [Region.binds] at hd
        rw [if_pos (by first | rfl | simp [Region.wanted, yielded, gw])]
        simp only [Oper.wpv]
        go_simp
        exact hK _ _ ⟨hb, fun _ => rfl, p1, p2, p3, p4, p5, p6, p7, p8, p9, p10, p11, p12, p13, p14, p15⟩
      · rintro L T u hd hk hcl ⟨hb, p0, p1, p2, p3, p4, p5, p6, p7, p8, p9, p10, p11, p12, p13, p14, p15⟩ K hK
        simp only [fr, Act.put, List.setIfInBounds_toArray, List.set_cons_zero, List.set_cons_succ, updO] at hK ⊢
        simp [Region.binds] at hd
        have g0 := p0 (by simp [hd])
        obtain ⟨⟨x1, x2⟩, xK, xS, x3⟩ := KC.out u hb
        rw [if_pos (by first | rfl | simp [Region.wanted, yielded, gw])]
        simp only [Oper.wpv]
        go_simp
        exact hK _ _ ⟨hb, p0, fun _ => rfl, p2, p3, p4, p5, p6, p7, p8, p9, p10, p11, p12, p13, p14, p15⟩
      · rintro L T u hd hk hcl ⟨hb, p0, p1, p2, p3, p4, p5, p6, p7, p8, p9, p10, p11, p12, p13, p14, p15⟩ K hK
        simp only [fr, Act.put, List.setIfInBounds_toArray, List.set_cons_zero, List.set_cons_succ, updO] at hK ⊢
        simp [Region.binds] at hd
        obtain ⟨⟨x1, x2⟩, xK, xS, x3⟩ := KC.out u hb
        rw [if_pos (by first | rfl | simp [Region.wanted, yielded, gw])]
        simp only [Oper.wpv]
        go_simp
        exact hK _ _ ⟨hb, p0, p1, fun _ => rfl, p3, p4, p5, p6, p7, p8, p9, p10, p11, p12, p13, p14, p15⟩
      · rintro L T u hd hk hcl ⟨hb, p0, p1, p2, p3, p4, p5, p6, p7, p8, p9, p10, p11, p12, p13, p14, p15⟩ K hK
        simp only [fr, Act.put, List.setIfInBounds_toArray, List.set_cons_zero, List.set_cons_succ, updO] at hK ⊢
        simp [Region.binds] at hd
        have g2 := p2 (by simp [hd])
        rw [if_pos (by first | rfl | simp [Region.wanted, yielded, gw])]
        simp only [Oper.wpv]
        go_simp
        exact hK _ _ ⟨hb, p0, p1, p2, fun _ => rfl, p4, p5, p6, p7, p8, p9, p10, p11, p12, p13, p14, p15⟩
      · rintro L T u hd hk hcl ⟨hb, p0, p1, p2, p3, p4, p5, p6, p7, p8, p9, p10, p11, p12, p13, p14, p15⟩ K hK
        simp only [fr, Act.put, List.setIfInBounds_toArray, List.set_cons_zero, List.set_cons_succ, updO] at hK ⊢
        simp [Region.binds] at hd
        have g3 := p3 (by simp [hd])
        rw [if_pos (by first | rfl | simp [Region.wanted, yielded, gw])]
        simp only [Oper.wpv]
        go_simp
        exact hK _ _ ⟨hb, p0, p1, p2, p3, fun _ => rfl, p5, p6, p7, p8, p9, p10, p11, p12, p13, p14, p15⟩
      · rintro L T u hd hk hcl ⟨hb, p0, p1, p2, p3, p4, p5, p6, p7, p8, p9, p10, p11, p12, p13, p14, p15⟩ K hK
        simp only [fr, Act.put, List.setIfInBounds_toArray, List.set_cons_zero, List.set_cons_succ, updO] at hK ⊢
        simp [Region.binds] at hd
        have g4 := p4 (by simp [hd])
        obtain ⟨⟨x1, x2⟩, xK, xS, x3⟩ := KC.out u hb
        rw [if_pos (by first | rfl | simp [Region.wanted, yielded, gw])]
        simp only [Oper.wpv]
        go_simp
        exact hK _ _ ⟨hb, p0, p1, p2, p3, p4, fun _ => rfl, p6, p7, p8, p9, p10, p11, p12, p13, p14, p15⟩
      · rintro L T u hd hk hcl ⟨hb, p0, p1, p2, p3, p4, p5, p6, p7, p8, p9, p10, p11, p12, p13, p14, p15⟩ K hK
        simp only [fr, Act.put, List.setIfInBounds_toArray, List.set_cons_zero, List.set_cons_succ, updO] at hK ⊢
        simp [Region.binds] at hd
        have g1 := p1 (by simp [hd])
        have g5 := p5 (by simp [hd])
        have eb := EB.out
        rw [if_pos (by first | rfl | simp [Region.wanted, yielded, gw])]
        simp only [Oper.wpv]
        go_simp
        exact hK _ _ ⟨hb, p0, p1, p2, p3, p4, p5, fun _ => rfl, p7, p8, p9, p10, p11, p12, p13, p14, p15⟩
      · rintro L T u hd hk hcl ⟨hb, p0, p1, p2, p3, p4, p5, p6, p7, p8, p9, p10, p11, p12, p13, p14, p15⟩ K hK
        simp only [fr, Act.put, List.setIfInBounds_toArray, List.set_cons_zero, List.set_cons_succ, updO] at hK ⊢
        simp [Region.binds] at hd
        have g6 := p6 (by simp [hd])
        rw [if_pos (by first | rfl | simp [Region.wanted, yielded, gw])]
        simp only [Oper.wpv]
        go_simp
        exact hK _ _ ⟨hb, p0, p1, p2, p3, p4, p5, p6, fun _ => rfl, p8, p9, p10, p11, p12, p13, p14, p15⟩
      · rintro L T u hd hk hcl ⟨hb, p0, p1, p2, p3, p4, p5, p6, p7, p8, p9, p10, p11, p12, p13, p14, p15⟩ K hK
        simp only [fr, Act.put, List.setIfInBounds_toArray, List.set_cons_zero, List.set_cons_succ, updO] at hK ⊢
        simp [Region.binds] at hd
        have hwt : L 7 = true := by simp [hd]
        have gw := p7 hwt
        obtain ⟨⟨x1, x2⟩, xK, xS, x3⟩ := KC.out u hb
        rw [if_pos (by first | rfl | simp [Region.wanted, yielded, gw])]
        simp only [Oper.wpv]
        go_simp
        exact hK _ _ ⟨hb, p0, p1, p2, p3, p4, p5, p6, p7, fun _ => rfl, p9, p10, p11, p12, p13, p14, p15⟩
      · rintro L T u hd hk hcl ⟨hb, p0, p1, p2, p3, p4, p5, p6, p7, p8, p9, p10, p11, p12, p13, p14, p15⟩ K hK
        simp only [fr, Act.put, List.setIfInBounds_toArray, List.set_cons_zero, List.set_cons_succ, updO] at hK ⊢
        simp [Region.binds] at hd
        have hwt : L 7 = true := by simp [hd]
        have gw := p7 hwt
        rw [if_pos (by first | rfl | simp [Region.wanted, yielded, gw])]
        simp only [Oper.wpv]
        go_simp
        exact hK _ _ ⟨hb, p0, p1, p2, p3, p4, p5, p6, p7, p8, fun _ => rfl, p10, p11, p12, p13, p14, p15⟩
      · rintro L T u hd hk hcl ⟨hb, p0, p1, p2, p3, p4, p5, p6, p7, p8, p9, p10, p11, p12, p13, p14, p15⟩ K hK
        simp only [fr, Act.put, List.setIfInBounds_toArray, List.set_cons_zero, List.set_cons_succ, updO] at hK ⊢
        simp [Region.binds] at hd
        have hwt : L 7 = true := by simp [hd]
        have gw := p7 hwt
        have g9 := p9 (by simp [hd])
        obtain ⟨⟨x1, x2⟩, xK, xS, x3⟩ := KC.out u hb
        rw [if_pos (by first | rfl | simp [Region.wanted, yielded, gw])]
        simp only [Oper.wpv]
        go_simp
        exact hK _ _ ⟨hb, p0, p1, p2, p3, p4, p5, p6, p7, p8, p9, fun _ => rfl, p11, p12, p13, p14, p15⟩
      · rintro L T u hd hk hcl ⟨hb, p0, p1, p2, p3, p4, p5, p6, p7, p8, p9, p10, p11, p12, p13, p14, p15⟩ K hK
        simp only [fr, Act.put, List.setIfInBounds_toArray, List.set_cons_zero, List.set_cons_succ, updO] at hK ⊢
        simp [Region.binds] at hd
        have hwt : L 7 = true := by simp [hd]
        have gw := p7 hwt
        have g8 := p8 (by simp [hd])
        have g10 := p10 (by simp [hd])
        rw [if_pos (by first | rfl | simp [Region.wanted, yielded, gw])]
        simp only [Oper.wpv]
        go_simp
        refine (HH.out _ (bW.trans (hb.mono bW.size))).mono ?_
        rintro e u1 ⟨rfl, hg⟩
        exact hK _ _ ⟨(nT hb hg), p0, p1, p2, p3, p4, p5, p6, p7, p8, p9, p10, fun _ => rfl, p12, p13, p14, p15⟩
      · rintro L T u hd hk hcl ⟨hb, p0, p1, p2, p3, p4, p5, p6, p7, p8, p9, p10, p11, p12, p13, p14, p15⟩ K hK
        simp only [fr, Act.put, List.setIfInBounds_toArray, List.set_cons_zero, List.set_cons_succ, updO] at hK ⊢
        simp [Region.binds] at hd
        have hwt : L 7 = true := by simp [hd]
        have gw := p7 hwt
        obtain ⟨⟨x1, x2⟩, xK, xS, x3⟩ := KC.out u hb
        rw [if_pos (by first | rfl | simp [Region.wanted, yielded, gw])]
        simp only [Oper.wpv]
        go_simp
        exact hK _ _ ⟨hb, p0, p1, p2, p3, p4, p5, p6, p7, p8, p9, p10, p11, fun _ => rfl, p13, p14, p15⟩
      · rintro L T u hd hk hcl ⟨hb, p0, p1, p2, p3, p4, p5, p6, p7, p8, p9, p10, p11, p12, p13, p14, p15⟩ K hK
        simp only [fr, Act.put, List.setIfInBounds_toArray, List.set_cons_zero, List.set_cons_succ, updO] at hK ⊢
        simp [Region.binds] at hd
        have hwt : L 7 = true := by simp [hd]
        have gw := p7 hwt
        have g11 := p11 (by simp [hd])
        have g12 := p12 (by simp [hd])
        rw [if_pos (by first | rfl | simp [Region.wanted, yielded, gw])]
        simp only [Oper.wpv]
        go_simp
        exact hK _ _ ⟨hb, p0, p1, p2, p3, p4, p5, p6, p7, p8, p9, p10, p11, p12, fun _ => rfl, p14, p15⟩
      · rintro L T u hd hk hcl ⟨hb, p0, p1, p2, p3, p4, p5, p6, p7, p8, p9, p10, p11, p12, p13, p14, p15⟩ K hK
        simp only [fr, Act.put, List.setIfInBounds_toArray, List.set_cons_zero, List.set_cons_succ, updO] at hK ⊢
        simp [Region.binds] at hd
        have g7 := p7 (by simp [hd])
        have g13 := p13 (by simp [hd])
        rw [if_pos (by first | rfl | simp [Region.wanted, yielded, gw])]
        simp only [Oper.wpv]
        go_simp
        exact hK _ _ ⟨hb, p0, p1, p2, p3, p4, p5, p6, p7, p8, p9, p10, p11, p12, p13, fun _ => rfl, p15⟩
      · rintro L T u hd hk hcl ⟨hb, p0, p1, p2, p3, p4, p5, p6, p7, p8, p9, p10, p11, p12, p13, p14, p15⟩ K hK
        simp only [fr, Act.put, List.setIfInBounds_toArray, List.set_cons_zero, List.set_cons_succ, updO] at hK ⊢
        simp [Region.binds] at hd
        have g14 := p14 (by simp [hd])
        rw [if_pos (by first | rfl | simp [Region.wanted, yielded, gw])]
        simp only [Oper.wpv]
        go_simp
        exact hK _ _ ⟨hb, p0, p1, p2, p3, p4, p5, p6, p7, p8, p9, p10, p11, p12, p13, p14, fun _ => rfl⟩
    · rintro L T u hl ⟨hb, p0, p1, p2, p3, p4, p5, p6, p7, p8, p9, p10, p11, p12, p13, p14, p15⟩
      simp only [fr, Act.put, List.setIfInBounds_toArray, List.set_cons_zero, List.set_cons_succ]
      have g4 := p15 (hl 15 (by decide))
      clear p0 p1 p2 p3 p4 p5 p6 p7 p8 p9 p10 p11 p12 p13 p14 p15
      have HE : Hid (T 4 = .bool (H == site)) := g4
      clear g4
      go_wp2
      go_ret
      exact ⟨by rw [hf.out]; exact congrArg Ending.returned HE.out, bW.trans (hb.mono bW.size)⟩
  · have EB : Hid ((label == VL) = false) := by show _ = _; simpa using hlb
    have hf : Hid (R = false) := by show _ = _; rw [HP.out, EB.out]; rfl
    clear HP hlb
    refine wp_region_inv (by kernel_rfl) [5, 6, 7, 8, 9, 10, 11, 12, 13, 14, 15, 16, 17, 18, 19, 4] (fun L T u => Below W.heap.size W u ∧ (L 0 = true → T 5 = .pointer (some ⟨Y.heap.size, 1, none⟩)) ∧ (L 1 = true → T 6 = .int .i64 label) ∧ (L 2 = true → T 7 = .pointer (some ⟨q, 0, none⟩)) ∧ (L 3 = true → T 8 = .pointer (some ⟨q, 0, none⟩)) ∧ (L 4 = true → T 9 = .pointer (some ⟨q, 3, none⟩)) ∧ (L 5 = true → T 10 = .int .i64 VL) ∧ (L 6 = true → T 11 = .bool false) ∧ (L 7 = true → T 12 = .bool false) ∧ (L 14 = true → T 19 = .bool false) ∧ (L 15 = true → T 4 = .bool false)) (by decide) (by kernel_rfl) (by kernel_rfl) ?_ ?_ ?_
    · exact ⟨(Below.refl _ _).drew, nofun, nofun, nofun, nofun, nofun, nofun, nofun, nofun, nofun, nofun⟩
    · refine ⟨?_, ?_, ?_, ?_, ?_, ?_, ?_, ?_, ?_, ?_, ?_, ?_, ?_, ?_, ?_, ?_, trivial⟩
      · rintro L T u hd hk hcl ⟨hb, p0, p1, p2, p3, p4, p5, p6, p7, p14, p15⟩ K hK
        simp only [fr, Act.put, List.setIfInBounds_toArray, List.set_cons_zero, List.set_cons_succ, updO] at hK ⊢
        simp [Region.binds] at hd
        rw [if_pos (by first | rfl | simp [Region.wanted, yielded, gw])]
        simp only [Oper.wpv]
        go_simp
        exact hK _ _ ⟨hb, fun _ => rfl, p1, p2, p3, p4, p5, p6, p7, p14, p15⟩
      · rintro L T u hd hk hcl ⟨hb, p0, p1, p2, p3, p4, p5, p6, p7, p14, p15⟩ K hK
        simp only [fr, Act.put, List.setIfInBounds_toArray, List.set_cons_zero, List.set_cons_succ, updO] at hK ⊢
        simp [Region.binds] at hd
        have g0 := p0 (by simp [hd])
        obtain ⟨⟨x1, x2⟩, xK, xS, x3⟩ := KC.out u hb
        rw [if_pos (by first | rfl | simp [Region.wanted, yielded, gw])]
        simp only [Oper.wpv]
        go_simp
        exact hK _ _ ⟨hb, p0, fun _ => rfl, p2, p3, p4, p5, p6, p7, p14, p15⟩
      · rintro L T u hd hk hcl ⟨hb, p0, p1, p2, p3, p4, p5, p6, p7, p14, p15⟩ K hK
        simp only [fr, Act.put, List.setIfInBounds_toArray, List.set_cons_zero, List.set_cons_succ, updO] at hK ⊢
        simp [Region.binds] at hd
        obtain ⟨⟨x1, x2⟩, xK, xS, x3⟩ := KC.out u hb
        rw [if_pos (by first | rfl | simp [Region.wanted, yielded, gw])]
        simp only [Oper.wpv]
        go_simp
        exact hK _ _ ⟨hb, p0, p1, fun _ => rfl, p3, p4, p5, p6, p7, p14, p15⟩
      · rintro L T u hd hk hcl ⟨hb, p0, p1, p2, p3, p4, p5, p6, p7, p14, p15⟩ K hK
        simp only [fr, Act.put, List.setIfInBounds_toArray, List.set_cons_zero, List.set_cons_succ, updO] at hK ⊢
        simp [Region.binds] at hd
        have g2 := p2 (by simp [hd])
        rw [if_pos (by first | rfl | simp [Region.wanted, yielded, gw])]
        simp only [Oper.wpv]
        go_simp
        exact hK _ _ ⟨hb, p0, p1, p2, fun _ => rfl, p4, p5, p6, p7, p14, p15⟩
      · rintro L T u hd hk hcl ⟨hb, p0, p1, p2, p3, p4, p5, p6, p7, p14, p15⟩ K hK
        simp only [fr, Act.put, List.setIfInBounds_toArray, List.set_cons_zero, List.set_cons_succ, updO] at hK ⊢
        simp [Region.binds] at hd
        have g3 := p3 (by simp [hd])
        rw [if_pos (by first | rfl | simp [Region.wanted, yielded, gw])]
        simp only [Oper.wpv]
        go_simp
        exact hK _ _ ⟨hb, p0, p1, p2, p3, fun _ => rfl, p5, p6, p7, p14, p15⟩
      · rintro L T u hd hk hcl ⟨hb, p0, p1, p2, p3, p4, p5, p6, p7, p14, p15⟩ K hK
        simp only [fr, Act.put, List.setIfInBounds_toArray, List.set_cons_zero, List.set_cons_succ, updO] at hK ⊢
        simp [Region.binds] at hd
        have g4 := p4 (by simp [hd])
        obtain ⟨⟨x1, x2⟩, xK, xS, x3⟩ := KC.out u hb
        rw [if_pos (by first | rfl | simp [Region.wanted, yielded, gw])]
        simp only [Oper.wpv]
        go_simp
        exact hK _ _ ⟨hb, p0, p1, p2, p3, p4, fun _ => rfl, p6, p7, p14, p15⟩
      · rintro L T u hd hk hcl ⟨hb, p0, p1, p2, p3, p4, p5, p6, p7, p14, p15⟩ K hK
        simp only [fr, Act.put, List.setIfInBounds_toArray, List.set_cons_zero, List.set_cons_succ, updO] at hK ⊢
        simp [Region.binds] at hd
        have g1 := p1 (by simp [hd])
        have g5 := p5 (by simp [hd])
        have eb := EB.out
        rw [if_pos (by first | rfl | simp [Region.wanted, yielded, gw])]
        simp only [Oper.wpv]
        go_simp
        exact hK _ _ ⟨hb, p0, p1, p2, p3, p4, p5, fun _ => rfl, p7, p14, p15⟩
      · rintro L T u hd hk hcl ⟨hb, p0, p1, p2, p3, p4, p5, p6, p7, p14, p15⟩ K hK
        simp only [fr, Act.put, List.setIfInBounds_toArray, List.set_cons_zero, List.set_cons_succ, updO] at hK ⊢
        simp [Region.binds] at hd
        have g6 := p6 (by simp [hd])
        rw [if_pos (by first | rfl | simp [Region.wanted, yielded, gw])]
        simp only [Oper.wpv]
        go_simp
        exact hK _ _ ⟨hb, p0, p1, p2, p3, p4, p5, p6, fun _ => rfl, p14, p15⟩
      · rintro L T u hd hk hcl ⟨hb, p0, p1, p2, p3, p4, p5, p6, p7, p14, p15⟩ K hK
        simp only [fr, Act.put, List.setIfInBounds_toArray, List.set_cons_zero, List.set_cons_succ, updO] at hK ⊢
        simp [Region.binds] at hd
        have hwt : L 7 = true := by simp [hd]
        have gw := p7 hwt
        rw [if_neg (by simp [Region.wanted, yielded, gw])]
        exact hK _ _ ⟨hb, p0, p1, p2, p3, p4, p5, p6, p7, p14, p15⟩
      · rintro L T u hd hk hcl ⟨hb, p0, p1, p2, p3, p4, p5, p6, p7, p14, p15⟩ K hK
        simp only [fr, Act.put, List.setIfInBounds_toArray, List.set_cons_zero, List.set_cons_succ, updO] at hK ⊢
        simp [Region.binds] at hd
        have hwt : L 7 = true := by simp [hd]
        have gw := p7 hwt
        rw [if_neg (by simp [Region.wanted, yielded, gw])]
        exact hK _ _ ⟨hb, p0, p1, p2, p3, p4, p5, p6, p7, p14, p15⟩
      · rintro L T u hd hk hcl ⟨hb, p0, p1, p2, p3, p4, p5, p6, p7, p14, p15⟩ K hK
        simp only [fr, Act.put, List.setIfInBounds_toArray, List.set_cons_zero, List.set_cons_succ, updO] at hK ⊢
        simp [Region.binds] at hd
        have hwt : L 7 = true := by simp [hd]
        have gw := p7 hwt
        rw [if_neg (by simp [Region.wanted, yielded, gw])]
        exact hK _ _ ⟨hb, p0, p1, p2, p3, p4, p5, p6, p7, p14, p15⟩
      · rintro L T u hd hk hcl ⟨hb, p0, p1, p2, p3, p4, p5, p6, p7, p14, p15⟩ K hK
        simp only [fr, Act.put, List.setIfInBounds_toArray, List.set_cons_zero, List.set_cons_succ, updO] at hK ⊢
        simp [Region.binds] at hd
        have hwt : L 7 = true := by simp [hd]
        have gw := p7 hwt
        rw [if_neg (by simp [Region.wanted, yielded, gw])]
        exact hK _ _ ⟨hb, p0, p1, p2, p3, p4, p5, p6, p7, p14, p15⟩
      · rintro L T u hd hk hcl ⟨hb, p0, p1, p2, p3, p4, p5, p6, p7, p14, p15⟩ K hK
        simp only [fr, Act.put, List.setIfInBounds_toArray, List.set_cons_zero, List.set_cons_succ, updO] at hK ⊢
        simp [Region.binds] at hd
        have hwt : L 7 = true := by simp [hd]
        have gw := p7 hwt
        rw [if_neg (by simp [Region.wanted, yielded, gw])]
        exact hK _ _ ⟨hb, p0, p1, p2, p3, p4, p5, p6, p7, p14, p15⟩
      · rintro L T u hd hk hcl ⟨hb, p0, p1, p2, p3, p4, p5, p6, p7, p14, p15⟩ K hK
        simp only [fr, Act.put, List.setIfInBounds_toArray, List.set_cons_zero, List.set_cons_succ, updO] at hK ⊢
        simp [Region.binds] at hd
        have hwt : L 7 = true := by simp [hd]
        have gw := p7 hwt
        rw [if_neg (by simp [Region.wanted, yielded, gw])]
        exact hK _ _ ⟨hb, p0, p1, p2, p3, p4, p5, p6, p7, p14, p15⟩
      · rintro L T u hd hk hcl ⟨hb, p0, p1, p2, p3, p4, p5, p6, p7, p14, p15⟩ K hK
        simp only [fr, Act.put, List.setIfInBounds_toArray, List.set_cons_zero, List.set_cons_succ, updO] at hK ⊢
        simp [Region.binds] at hd
        have g7 := p7 (by simp [hd])
        rw [if_pos (by first | rfl | simp [Region.wanted, yielded, gw])]
        simp only [Oper.wpv]
        go_simp
        exact hK _ _ ⟨hb, p0, p1, p2, p3, p4, p5, p6, p7, fun _ => rfl, p15⟩
      · rintro L T u hd hk hcl ⟨hb, p0, p1, p2, p3, p4, p5, p6, p7, p14, p15⟩ K hK
        simp only [fr, Act.put, List.setIfInBounds_toArray, List.set_cons_zero, List.set_cons_succ, updO] at hK ⊢
        simp [Region.binds] at hd
        have g14 := p14 (by simp [hd])
        rw [if_pos (by first | rfl | simp [Region.wanted, yielded, gw])]
        simp only [Oper.wpv]
        go_simp
        exact hK _ _ ⟨hb, p0, p1, p2, p3, p4, p5, p6, p7, p14, fun _ => rfl⟩
    · rintro L T u hl ⟨hb, p0, p1, p2, p3, p4, p5, p6, p7, p14, p15⟩
      simp only [fr, Act.put, List.setIfInBounds_toArray, List.set_cons_zero, List.set_cons_succ]
      have g4 := p15 (hl 15 (by decide))
      clear p0 p1 p2 p3 p4 p5 p6 p7 p14 p15
      have HE : Hid (T 4 = .bool false) := g4
      clear g4
      go_wp2
      go_ret
      exact ⟨by rw [hf.out]; exact congrArg Ending.returned HE.out, bW.trans (hb.mono bW.size)⟩
end Go.Proofs.Ytfhciplckjkflaa.Co
/- The contract of label.Above: for labels of any numbers it returns whether the first dominates the other, and leaves what was in memory. -/
namespace Go.Proofs.Ytfhciplckjkflaa
open Go.ChangeShapes Go.WideShapes Go.ChangeAt Go.RowKit

/-- Dominance of labels, on numbers. -/
def abv (al ac bl bc : Int) : Bool := decide (bl ≤ al) && (bits .and .i64 ac bc == bc)

theorem abv_pos {al ac bl bc : Int} (h : bl ≤ al) : abv al ac bl bc = (bits .and .i64 ac bc == bc) := by simp [abv, h]
theorem abv_neg {al ac bl bc : Int} (h : al < bl) : abv al ac bl bc = false := by
  have : ¬ bl ≤ al := by omega
  simp [abv, this]

theorem above_any (al ac bl bc : Int) (w : World) :
    Calls Try.prog 87 #[.agg #[.int .i64 al, .int .i64 ac], .agg #[.int .i64 bl, .int .i64 bc]] w fun e w' => e = .returned (.bool (abv al ac bl bc)) ∧ Below w.heap.size w w' := by
  go_enter Try.func87, Try.ntmps87
  go_wp2
  · go_ret
    exact ⟨ret_bool (abv_pos ‹_›).symm, ((Below.refl _ _).alloc (Nat.le_refl _) _).alloc (by simp) _⟩
  · go_ret
    exact ⟨ret_bool (abv_neg ‹_›).symm, ((Below.refl _ _).alloc (Nat.le_refl _) _).alloc (by simp) _⟩

end Go.Proofs.Ytfhciplckjkflaa
/- The contract of bounds.Label, and what a place is. -/
namespace Go.Proofs.Ytfhciplckjkflaa.Se
open Go.ChangeShapes Go.WideShapes Go.ChangeAt Go.RowKit

/-- Is it the place of one of so many? -/
def plc (l : Int) (n : Nat) : Bool := decide (0 ≤ l ∧ l < (n : Int))
theorem plc_true {l : Int} {n : Nat} (h : plc l n = true) : 0 ≤ l ∧ l < (n : Int) := by simpa [plc] using h
theorem plc_false {l : Int} {n : Nat} (h : plc l n = false) : l < 0 ∨ (n : Int) ≤ l := by simp [plc] at h; omega

def labAtI (ls : List (Int × Int)) (l : Int) : Int × Int := ls.getD l.toNat (0, 0)

theorem isPlace_any (s p : Int) (a : Option Addr) (len cap : Nat) (l : Int) (w : World) (hl : len ≤ maxLen) :
    Calls Try.prog 40 #[.agg #[.int .i64 s, .slice a len cap, .int .i64 p], .int .i64 l] w fun e w' => e = .returned (.bool (plc l len)) ∧ Below w.heap.size w w' := by
  have hA : Below w.heap.size w (w.alloc (.cells #[.int .i64 s, .slice a len cap, .int .i64 p] 24)) := (Below.refl _ _).alloc (Nat.le_refl _) _
  unfold maxLen at hl
  have h2 : (len : Int) ≤ 9223372036854775807 := by omega
  have e : plc l len = inR l 0 ((len : Int) - 1) := by unfold plc inR; rw [Bool.eq_iff_iff]; simp; omega
  rw [e]
  clear e
  go_enter Try.func40, Try.ntmps40
  go_wp2_with (go_at_call 15; refine (within_any _ _ _ _).mono ?_; rintro e w1 ⟨rfl, hu1⟩; rw [hu1]; clear hu1)
  go_ret
  exact ⟨rfl, hA⟩

end Go.Proofs.Ytfhciplckjkflaa.Se
