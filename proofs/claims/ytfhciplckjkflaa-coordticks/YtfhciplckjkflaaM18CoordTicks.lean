/- Texts of this claim, one behind the other. -/
import Derived.Test.YtfhciplckjkflaaProg
import Derived.WalkKit
import Derived.ProofKit
import Derived.Below
import Derived.BigQuiet
import Derived.BigRegion
import Derived.RegionTactic
import Derived.Deep.RegionWith
import Derived.WalkSmall
import Derived.Test.YtfhciplckjkflaaM17CoordTicks
import Derived.Test.YtfhciplckjkflaaM7CoordTicks
import Derived.Test.YtfhciplckjkflaaM14CoordTicks
/- The contract of label.Sees: what it returns at every config and places. -/
namespace Go.Proofs.Ytfhciplckjkflaa.Se
open Go.ChangeShapes Go.WideShapes Go.ChangeAt Go.RowKit

def seesErr (s : Int) (ls : List (Int × Int)) (p a b : Int) : Int := if cfgFault s ls p = 0 then (if plc a ls.length && plc b ls.length then 0 else 6) else cfgFault s ls p
def seesB (s : Int) (ls : List (Int × Int)) (p a b : Int) : Bool := if seesErr s ls p a b = 0 then abv (labAtI ls a).1 (labAtI ls a).2 (labAtI ls b).1 (labAtI ls b).2 else false


theorem sees_bad {s : Int} {ls : List (Int × Int)} {p a b : Int} (h : cfgFault s ls p ≠ 0) : seesErr s ls p a b = cfgFault s ls p ∧ seesB s ls p a b = false := by
  unfold seesB seesErr
  simp [h]
theorem sees_none {s : Int} {ls : List (Int × Int)} {p a b : Int} (h : cfgFault s ls p = 0) (hp : plc a ls.length = false ∨ plc b ls.length = false) : seesErr s ls p a b = 6 ∧ seesB s ls p a b = false := by
  unfold seesB seesErr
  rcases hp with hp | hp <;> simp [h, hp]
theorem sees_ok {s : Int} {ls : List (Int × Int)} {p a b : Int} (h : cfgFault s ls p = 0) (ha : plc a ls.length = true) (hb : plc b ls.length = true) : seesErr s ls p a b = 0 ∧ seesB s ls p a b = abv (labAtI ls a).1 (labAtI ls a).2 (labAtI ls b).1 (labAtI ls b).2 := by
  unfold seesB seesErr
  simp [h, ha, hb]

set_option maxHeartbeats 8000000 in
theorem sees_any (s p : Int) (ad : Option Addr) (len cap : Nat) (ls : List (Int × Int)) (a b : Int) (w : World) (h : IsLabs w ad len cap ls) :
    Calls Try.prog 81 #[.agg #[.int .i64 s, .slice ad len cap, .int .i64 p], .int .i64 a, .int .i64 b] w fun e w' => e = .returned (.tuple #[.bool (seesB s ls p a b), .int .i64 (seesErr s ls p a b)]) ∧ Below w.heap.size w w' := by
  have hA : Below w.heap.size w (w.alloc (.cells #[.int .i64 s, .slice ad len cap, .int .i64 p] 24)) := (Below.refl _ _).alloc (Nat.le_refl _) _
  have hmx : len ≤ maxLen := Nat.le_trans h.2.1 h.2.2.1
  by_cases hF : cfgFault s ls p = 0
  · have hz := cfg_zero hF
    cases ha : plc a ls.length with
    | false =>
      rw [(sees_none hF (.inl ha)).1, (sees_none hF (.inl ha)).2]
      rw [h.1] at ha
      go_enter Try.func81, Try.ntmps81
      go_wp2_with (first
        | (go_at_call 65; refine (check_any s p ad len cap ls _ (h.below hA)).mono ?_; rintro e w1 ⟨rfl, hb1⟩; have hz1 : w.heap.size < w1.heap.size := (by have := hb1.size; simp at this; omega); obtain ⟨hc1, hf1⟩ := bcell hb1)
        | (go_at_call 40; refine (isPlace_any _ _ _ _ _ _ _ hmx).mono ?_; rintro e w2 ⟨rfl, hb2⟩))
      go_ret2
      exact ⟨rfl, hA.trans ((hb1.mono (by simp)).trans (hb2.mono (by omega)))⟩
    | true =>
      cases hb : plc b ls.length with
      | false =>
        rw [(sees_none hF (.inr hb)).1, (sees_none hF (.inr hb)).2]
        rw [h.1] at ha hb
        have tok : True := trivial
        go_enter Try.func81, Try.ntmps81
        go_wp2_with (first
          | (go_at_call 65; refine (check_any s p ad len cap ls _ (h.below hA)).mono ?_; rintro e w1 ⟨rfl, hb1⟩; have hz1 : w.heap.size < w1.heap.size := (by have := hb1.size; simp at this; omega); obtain ⟨hc1, hf1⟩ := bcell hb1)
          | (go_at_call 40; have _t := tok; refine (isPlace_any _ _ _ _ _ _ _ hmx).mono ?_; rintro e w2 ⟨rfl, hb2⟩; clear tok; obtain ⟨hc2, hf2⟩ := bcell hb2)
          | (go_at_call 40; refine (isPlace_any _ _ _ _ _ _ _ hmx).mono ?_; rintro e w3 ⟨rfl, hb3⟩))
        go_ret2
        have hz2 := hb2.size
        exact ⟨rfl, hA.trans ((hb1.mono (by simp)).trans ((hb2.mono (by omega)).trans (hb3.mono (by omega))))⟩
      | true =>
        rw [(sees_ok hF ha hb).1, (sees_ok hF ha hb).2]
        have ha' := plc_true ha
        have hb' := plc_true hb
        obtain ⟨i, rfl⟩ : ∃ i : Nat, a = i := ⟨a.toNat, by omega⟩
        obtain ⟨j, rfl⟩ : ∃ j : Nat, b = j := ⟨b.toNat, by omega⟩
        obtain ⟨hlen, _, _, hlab⟩ := id h
        obtain ⟨bk, off, rfl, hL⟩ := hlab (by omega)
        have hi : i < ls.length := by omega
        have hj : j < ls.length := by omega
        have hil : (i : Int) < (len : Int) := by omega
        have hjl : (j : Int) < (len : Int) := by omega
        rw [hlen] at ha hb
        obtain ⟨x, hx⟩ : ∃ x, x = labAtI ls i := ⟨_, rfl⟩
        obtain ⟨y, hy⟩ : ∃ y, y = labAtI ls j := ⟨_, rfl⟩
        rw [← hx, ← hy]
        have tok : True := trivial
        go_enter Try.func81, Try.ntmps81
        go_wp2_with (first
          | (go_at_call 65; refine (check_any s p _ len cap ls _ (h.below hA)).mono ?_; rintro e w1 ⟨rfl, hb1⟩; have hz1 : w.heap.size < w1.heap.size := (by have := hb1.size; simp at this; omega); obtain ⟨hc1, hf1⟩ := bcell hb1)
          | (go_at_call 40; have _t := tok; refine (isPlace_any _ _ _ _ _ _ _ hmx).mono ?_; rintro e w2 ⟨rfl, hb2⟩; clear tok; obtain ⟨hc2, hf2⟩ := bcell hb2)
          | (go_at_call 40; refine (isPlace_any _ _ _ _ _ _ _ hmx).mono ?_; rintro e w3 ⟨rfl, hb3⟩))
        have hz2 := hb2.size
        have hB : Below (w.heap.size + 1) (w.alloc (.cells #[.int .i64 s, .slice (some ⟨bk, off, none⟩) len cap, .int .i64 p] 24)) w3 := (hb1.mono (by simp)).trans ((hb2.mono (by omega)).trans (hb3.mono (by omega)))
        have hBw : Below w.heap.size w w3 := hA.trans (hB.mono (by omega))
        have d1 : w3.cell? ⟨w.heap.size, 1, none⟩ = some (.slice (some ⟨bk, off, none⟩) len cap) := by
          rw [hB.cell (p := ⟨w.heap.size, 1, none⟩) (by simp)]; go_simp
        have ri := (hL.below hBw).2 i hi
        have rj := (hL.below hBw).2 j hj
        have ex : ls.getD i (0, 0) = x := by rw [hx]; simp [labAtI]
        have ey : ls.getD j (0, 0) = y := by rw [hy]; simp [labAtI]
        rw [ex] at ri
        rw [ey] at rj
        obtain ⟨r0, r1⟩ := ri
        obtain ⟨r2, r3⟩ := rj
        clear hx hy ex ey hc1 hf1 hc2 hf2
        have hBd : Below w.heap.size w w3.drew := hBw.drew
        go_region_with (go_at_call 87; refine (above_any _ _ _ _ _).mono ?_; rintro e w4 ⟨rfl, hb4⟩)
        all_goals
          go_wp2
          go_ret2
          exact ⟨rfl, hBd.trans (hb4.mono hBd.size)⟩
  · rw [(sees_bad hF).1, (sees_bad hF).2]
    go_enter Try.func81, Try.ntmps81
    go_wp2_with (go_at_call 65; refine (check_any s p ad len cap ls _ (h.below hA)).mono ?_; rintro e w1 ⟨rfl, hb1⟩)
    go_ret2
    exact ⟨rfl, hA.trans (hb1.mono (by simp))⟩

end Go.Proofs.Ytfhciplckjkflaa.Se
/- The clerk's sees: is a place seen from the clerk's label? -/
namespace Go.Proofs.Ytfhciplckjkflaa.Co
open Go.ChangeShapes Go.WideShapes Go.ChangeAt Go.RowKit
open Go.Proofs.Ytfhciplckjkflaa.St (BoxN boxn_new own_below grown_setCell IsRow Elem flat flat_append own_isRow)
open Go.Proofs.Ytfhciplckjkflaa.Se (seesB seesErr sees_any)
set_option linter.unusedVariables false

set_option maxRecDepth 100000 in
set_option maxHeartbeats 4000000 in
theorem clerkSees_any {w : World} {B q : Nat} {v : CkV} {ix : List (Nat × Nat)} {more : List Rw} (X : World) (h : Clerk w X B q v ix more) (ls : List (Int × Int)) (hl : IsLabs X v.a v.len v.cap ls) (place : Int) :
    Calls Try.prog 70 #[.pointer (some ⟨q, 0, none⟩), .int .i64 place] X fun e X' => e = .returned (.bool (seesB v.s ls v.p v.l place)) ∧ Below X.heap.size X X' := by
  have HH : Hid (∀ U, Below X.heap.size X U → Calls Try.prog 81 #[.agg #[.int .i64 v.s, .slice v.a v.len v.cap, .int .i64 v.p], .int .i64 v.l, .int .i64 place] U fun e U' => e = .returned (.tuple #[.bool (seesB v.s ls v.p v.l place), .int .i64 (seesErr v.s ls v.p v.l place)]) ∧ Below U.heap.size U U') := fun U hU => sees_any v.s v.p v.a v.len v.cap ls v.l place U (hl.below hU)
  have KC : Hid (∀ U, Below X.heap.size X U → U.cell? ⟨q, 0, none⟩ = some (.int .i64 v.s) ∧ U.cell? ⟨q, 1, none⟩ = some (.slice v.a v.len v.cap) ∧ U.cell? ⟨q, 2, none⟩ = some (.int .i64 v.p) ∧ U.cell? ⟨q, 3, none⟩ = some (.int .i64 v.l)) := fun U hU => by
    have bx := (h.below hU).held.box
    exact ⟨(bx.c 0 (by decide)).1, (bx.c 1 (by decide)).1, (bx.c 2 (by decide)).1, (bx.c 3 (by decide)).1⟩
  obtain ⟨R, eR⟩ : ∃ R, R = seesB v.s ls v.p v.l place := ⟨_, rfl⟩
  obtain ⟨E, eE⟩ : ∃ E, E = seesErr v.s ls v.p v.l place := ⟨_, rfl⟩
  rw [← eR, ← eE] at HH
  rw [← eR]
  clear eR eE h hl
  obtain ⟨vs, es⟩ : ∃ x, x = v.s := ⟨_, rfl⟩
  obtain ⟨va, ea⟩ : ∃ x, x = v.a := ⟨_, rfl⟩
  obtain ⟨vn, en⟩ : ∃ x, x = v.len := ⟨_, rfl⟩
  obtain ⟨vc, ec⟩ : ∃ x, x = v.cap := ⟨_, rfl⟩
  obtain ⟨vp, ep⟩ : ∃ x, x = v.p := ⟨_, rfl⟩
  obtain ⟨vl, el⟩ : ∃ x, x = v.l := ⟨_, rfl⟩
  rw [← es, ← ea, ← en, ← ec, ← ep, ← el] at HH KC
  clear es ea en ec ep el
  go_enter Try.func70, Try.ntmps70
  go_upto_region 1 with (fail)
  refine wp_region_inv (by kernel_rfl) [8, 9, 10, 11, 12, 13, 14, 15, 16, 17, 7, 18, 19, 5, 6] (fun L T u => Below X.heap.size X u ∧ (L 0 = true → T 8 = .pointer (some ⟨q, 0, none⟩)) ∧ (L 1 = true → T 9 = .pointer (some ⟨q, 0, none⟩)) ∧ (L 2 = true → T 10 = .pointer (some ⟨q, 0, none⟩)) ∧ (L 3 = true → T 11 = .agg #[.int .i64 vs, .slice va vn vc, .int .i64 vp]) ∧ (L 4 = true → T 12 = .pointer (some ⟨q, 0, none⟩)) ∧ (L 5 = true → T 13 = .pointer (some ⟨q, 0, none⟩)) ∧ (L 6 = true → T 14 = .pointer (some ⟨q, 3, none⟩)) ∧ (L 7 = true → T 15 = .int .i64 vl) ∧ (L 8 = true → T 16 = .int .i64 place) ∧ (L 9 = true → T 17 = .tuple #[.bool R, .int .i64 E]) ∧ (L 10 = true → T 7 = .tuple #[.bool R, .int .i64 E]) ∧ (L 11 = true → T 18 = .bool R) ∧ (L 12 = true → T 19 = .int .i64 E) ∧ (L 13 = true → T 5 = .bool R) ∧ (L 14 = true → T 6 = .int .i64 E)) (by decide) (by kernel_rfl) (by kernel_rfl) ?_ ?_ ?_
  · exact ⟨(Below.refl _ _).drew, nofun, nofun, nofun, nofun, nofun, nofun, nofun, nofun, nofun, nofun, nofun, nofun, nofun, nofun, nofun⟩
  · refine ⟨?_, ?_, ?_, ?_, ?_, ?_, ?_, ?_, ?_, ?_, ?_, ?_, ?_, ?_, ?_, trivial⟩
    · rintro L T u hd hk hcl ⟨hb, p0, p1, p2, p3, p4, p5, p6, p7, p8, p9, p10, p11, p12, p13, p14⟩ K hK
      simp only [fr, Act.put, List.setIfInBounds_toArray, List.set_cons_zero, List.set_cons_succ, updO] at hK ⊢
      simp [Region.binds] at hd
      rw [if_pos (by rfl)]
      simp only [Oper.wpv]
      go_simp
      exact hK _ _ ⟨hb, fun _ => rfl, p1, p2, p3, p4, p5, p6, p7, p8, p9, p10, p11, p12, p13, p14⟩
    · rintro L T u hd hk hcl ⟨hb, p0, p1, p2, p3, p4, p5, p6, p7, p8, p9, p10, p11, p12, p13, p14⟩ K hK
      simp only [fr, Act.put, List.setIfInBounds_toArray, List.set_cons_zero, List.set_cons_succ, updO] at hK ⊢
      simp [Region.binds] at hd
      have g0 := p0 (by simp [hd])
      rw [if_pos (by rfl)]
      simp only [Oper.wpv]
      go_simp
      exact hK _ _ ⟨hb, p0, fun _ => rfl, p2, p3, p4, p5, p6, p7, p8, p9, p10, p11, p12, p13, p14⟩
    · rintro L T u hd hk hcl ⟨hb, p0, p1, p2, p3, p4, p5, p6, p7, p8, p9, p10, p11, p12, p13, p14⟩ K hK
      simp only [fr, Act.put, List.setIfInBounds_toArray, List.set_cons_zero, List.set_cons_succ, updO] at hK ⊢
      simp [Region.binds] at hd
      have g1 := p1 (by simp [hd])
      rw [if_pos (by rfl)]
      simp only [Oper.wpv]
      go_simp
      exact hK _ _ ⟨hb, p0, p1, fun _ => rfl, p3, p4, p5, p6, p7, p8, p9, p10, p11, p12, p13, p14⟩
    · rintro L T u hd hk hcl ⟨hb, p0, p1, p2, p3, p4, p5, p6, p7, p8, p9, p10, p11, p12, p13, p14⟩ K hK
      simp only [fr, Act.put, List.setIfInBounds_toArray, List.set_cons_zero, List.set_cons_succ, updO] at hK ⊢
      simp [Region.binds] at hd
      have g2 := p2 (by simp [hd])
      obtain ⟨x0, x1, x2, x3⟩ := KC.out u hb
      rw [if_pos (by rfl)]
      simp only [Oper.wpv]
      go_simp
      exact hK _ _ ⟨hb, p0, p1, p2, fun _ => rfl, p4, p5, p6, p7, p8, p9, p10, p11, p12, p13, p14⟩
    · rintro L T u hd hk hcl ⟨hb, p0, p1, p2, p3, p4, p5, p6, p7, p8, p9, p10, p11, p12, p13, p14⟩ K hK
      simp only [fr, Act.put, List.setIfInBounds_toArray, List.set_cons_zero, List.set_cons_succ, updO] at hK ⊢
      simp [Region.binds] at hd
      rw [if_pos (by rfl)]
      simp only [Oper.wpv]
      go_simp
      exact hK _ _ ⟨hb, p0, p1, p2, p3, fun _ => rfl, p5, p6, p7, p8, p9, p10, p11, p12, p13, p14⟩
    · rintro L T u hd hk hcl ⟨hb, p0, p1, p2, p3, p4, p5, p6, p7, p8, p9, p10, p11, p12, p13, p14⟩ K hK
      simp only [fr, Act.put, List.setIfInBounds_toArray, List.set_cons_zero, List.set_cons_succ, updO] at hK ⊢
      simp [Region.binds] at hd
      have g4 := p4 (by simp [hd])
      rw [if_pos (by rfl)]
      simp only [Oper.wpv]
      go_simp
      exact hK _ _ ⟨hb, p0, p1, p2, p3, p4, fun _ => rfl, p6, p7, p8, p9, p10, p11, p12, p13, p14⟩
    · rintro L T u hd hk hcl ⟨hb, p0, p1, p2, p3, p4, p5, p6, p7, p8, p9, p10, p11, p12, p13, p14⟩ K hK
      simp only [fr, Act.put, List.setIfInBounds_toArray, List.set_cons_zero, List.set_cons_succ, updO] at hK ⊢
      simp [Region.binds] at hd
      have g5 := p5 (by simp [hd])
      rw [if_pos (by rfl)]
      simp only [Oper.wpv]
      go_simp
      exact hK _ _ ⟨hb, p0, p1, p2, p3, p4, p5, fun _ => rfl, p7, p8, p9, p10, p11, p12, p13, p14⟩
    · rintro L T u hd hk hcl ⟨hb, p0, p1, p2, p3, p4, p5, p6, p7, p8, p9, p10, p11, p12, p13, p14⟩ K hK
      simp only [fr, Act.put, List.setIfInBounds_toArray, List.set_cons_zero, List.set_cons_succ, updO] at hK ⊢
      simp [Region.binds] at hd
      have g6 := p6 (by simp [hd])
      obtain ⟨x0, x1, x2, x3⟩ := KC.out u hb
      rw [if_pos (by rfl)]
      simp only [Oper.wpv]
      go_simp
      exact hK _ _ ⟨hb, p0, p1, p2, p3, p4, p5, p6, fun _ => rfl, p8, p9, p10, p11, p12, p13, p14⟩
    · rintro L T u hd hk hcl ⟨hb, p0, p1, p2, p3, p4, p5, p6, p7, p8, p9, p10, p11, p12, p13, p14⟩ K hK
      simp only [fr, Act.put, List.setIfInBounds_toArray, List.set_cons_zero, List.set_cons_succ, updO] at hK ⊢
      simp [Region.binds] at hd
      rw [if_pos (by rfl)]
      simp only [Oper.wpv]
      go_simp
      exact hK _ _ ⟨hb, p0, p1, p2, p3, p4, p5, p6, p7, fun _ => rfl, p9, p10, p11, p12, p13, p14⟩
    · rintro L T u hd hk hcl ⟨hb, p0, p1, p2, p3, p4, p5, p6, p7, p8, p9, p10, p11, p12, p13, p14⟩ K hK
      simp only [fr, Act.put, List.setIfInBounds_toArray, List.set_cons_zero, List.set_cons_succ, updO] at hK ⊢
      simp [Region.binds] at hd
      have g3 := p3 (by simp [hd])
      have g7 := p7 (by simp [hd])
      have g8 := p8 (by simp [hd])
      rw [if_pos (by rfl)]
      simp only [Oper.wpv]
      go_simp
      refine (HH.out _ hb).mono ?_
      rintro e u1 ⟨rfl, hg⟩
      exact hK _ _ ⟨(nT hb hg), p0, p1, p2, p3, p4, p5, p6, p7, p8, fun _ => rfl, p10, p11, p12, p13, p14⟩
    · rintro L T u hd hk hcl ⟨hb, p0, p1, p2, p3, p4, p5, p6, p7, p8, p9, p10, p11, p12, p13, p14⟩ K hK
      simp only [fr, Act.put, List.setIfInBounds_toArray, List.set_cons_zero, List.set_cons_succ, updO] at hK ⊢
      simp [Region.binds] at hd
      have g9 := p9 (by simp [hd])
      rw [if_pos (by rfl)]
      simp only [Oper.wpv]
      go_simp
      exact hK _ _ ⟨hb, p0, p1, p2, p3, p4, p5, p6, p7, p8, p9, fun _ => rfl, p11, p12, p13, p14⟩
    · rintro L T u hd hk hcl ⟨hb, p0, p1, p2, p3, p4, p5, p6, p7, p8, p9, p10, p11, p12, p13, p14⟩ K hK
      simp only [fr, Act.put, List.setIfInBounds_toArray, List.set_cons_zero, List.set_cons_succ, updO] at hK ⊢
      simp [Region.binds] at hd
      have g10 := p10 (by simp [hd])
      rw [if_pos (by rfl)]
      simp only [Oper.wpv]
      go_simp
      exact hK _ _ ⟨hb, p0, p1, p2, p3, p4, p5, p6, p7, p8, p9, p10, fun _ => rfl, p12, p13, p14⟩
    · rintro L T u hd hk hcl ⟨hb, p0, p1, p2, p3, p4, p5, p6, p7, p8, p9, p10, p11, p12, p13, p14⟩ K hK
      simp only [fr, Act.put, List.setIfInBounds_toArray, List.set_cons_zero, List.set_cons_succ, updO] at hK ⊢
      simp [Region.binds] at hd
      have g10 := p10 (by simp [hd])
      rw [if_pos (by rfl)]
      simp only [Oper.wpv]
      go_simp
      exact hK _ _ ⟨hb, p0, p1, p2, p3, p4, p5, p6, p7, p8, p9, p10, p11, fun _ => rfl, p13, p14⟩
    · rintro L T u hd hk hcl ⟨hb, p0, p1, p2, p3, p4, p5, p6, p7, p8, p9, p10, p11, p12, p13, p14⟩ K hK
      simp only [fr, Act.put, List.setIfInBounds_toArray, List.set_cons_zero, List.set_cons_succ, updO] at hK ⊢
      simp [Region.binds] at hd
      have g11 := p11 (by simp [hd])
      rw [if_pos (by rfl)]
      simp only [Oper.wpv]
      go_simp
      exact hK _ _ ⟨hb, p0, p1, p2, p3, p4, p5, p6, p7, p8, p9, p10, p11, p12, fun _ => rfl, p14⟩
    · rintro L T u hd hk hcl ⟨hb, p0, p1, p2, p3, p4, p5, p6, p7, p8, p9, p10, p11, p12, p13, p14⟩ K hK
      simp only [fr, Act.put, List.setIfInBounds_toArray, List.set_cons_zero, List.set_cons_succ, updO] at hK ⊢
      simp [Region.binds] at hd
      have g12 := p12 (by simp [hd])
      rw [if_pos (by rfl)]
      simp only [Oper.wpv]
      go_simp
      exact hK _ _ ⟨hb, p0, p1, p2, p3, p4, p5, p6, p7, p8, p9, p10, p11, p12, p13, fun _ => rfl⟩
  · rintro L T u hl ⟨hb, p0, p1, p2, p3, p4, p5, p6, p7, p8, p9, p10, p11, p12, p13, p14⟩
    simp only [fr, Act.put, List.setIfInBounds_toArray, List.set_cons_zero, List.set_cons_succ]
    have g13 := p13 (hl 13 (by decide))
    have HE : Hid (T 5 = .bool R) := g13
    clear p0 p1 p2 p3 p4 p5 p6 p7 p8 p9 p10 p11 p12 p13 p14 g13
    go_wp2
    go_ret
    exact ⟨congrArg Ending.returned HE.out, hb⟩
end Go.Proofs.Ytfhciplckjkflaa.Co
/- The clerk's refuseTask: what a client is told who asks for a task that cannot be. -/
namespace Go.Proofs.Ytfhciplckjkflaa.Co
open Go.ChangeShapes Go.WideShapes Go.ChangeAt Go.RowKit
open Go.Proofs.Ytfhciplckjkflaa.St (BoxN boxn_new own_below grown_setCell IsRow Elem flat flat_append own_isRow)
open Go.Proofs.Ytfhciplckjkflaa.Se (seesB seesErr sees_any)
set_option linter.unusedVariables false

/-- A client's call. -/
structure ClV where
  kind : Int
  n : Int
  label : Int
  key : Int
  value : Int
def ClV.val (x : ClV) : Value := .agg #[.int .i64 x.kind, .int .i64 x.n, .int .i64 x.label, .int .i64 x.key, .int .i64 x.value]
def taskErr (sees : Bool) (x : ClV) (j : JbV) : Int := if (inR x.key 0 7 && inR x.value 0 1073741824) = true then (if (x.kind == 2 && !sees) = true then 10 else if (decide (10 ≤ j.tl) || decide (1048576 ≤ j.asks)) = true then 8 else 0) else 2
set_option maxRecDepth 100000 in
set_option maxHeartbeats 4000000 in
theorem refuseTask_any {w : World} {B q : Nat} {v : CkV} {ix : List (Nat × Nat)} {more : List Rw} (X : World) (h : Clerk w X B q v ix more) (ls : List (Int × Int)) (hl : IsLabs X v.a v.len v.cap ls) {i g : Nat} (hi : i < v.jl) (eg : v.ja = some ⟨g, 0, none⟩) (x : ClV) :
    Calls Try.prog 48 #[.pointer (some ⟨q, 0, none⟩), .pointer (some ⟨g, i * 6, none⟩), x.val] X fun e X' => e = .returned (.int .i64 (taskErr (seesB v.s ls v.p v.l x.label) x (v.js.getD i default))) ∧ Below X.heap.size X X' := by
  obtain ⟨g', eg', _, zg, _, hc, hf⟩ := h.jobAt hi
  rw [eg] at eg'
  simp at eg'
  subst eg'
  obtain ⟨kind, n, label, key, value⟩ := x
  have HH : Hid (∀ U, Below X.heap.size X U → Calls Try.prog 70 #[.pointer (some ⟨q, 0, none⟩), .int .i64 label] U fun e U' => e = .returned (.bool (seesB v.s ls v.p v.l label)) ∧ Below U.heap.size U U') := fun U hU => clerkSees_any U (h.below hU) ls (hl.below hU) label
  have c2 := hc 2 (by decide)
  have c4 := hc 4 (by decide)
  simp only []
  obtain ⟨S, eS⟩ : ∃ S, S = seesB v.s ls v.p v.l label := ⟨_, rfl⟩
  rw [← eS] at HH ⊢
  obtain ⟨j, ej⟩ : ∃ j, j = v.js.getD i default := ⟨_, rfl⟩
  rw [← ej] at c2 c4 ⊢
  obtain ⟨jn, st, ta, tl, tc, aa, al, ac, asks, age, tasks, asked⟩ := j
  simp only [JbV.cells, List.getElem?_cons_zero, List.getElem?_cons_succ] at c2 c4
  have HE : Hid (taskErr S ⟨kind, n, label, key, value⟩ ⟨jn, st, ta, tl, tc, aa, al, ac, asks, age, tasks, asked⟩ = if (inR key 0 7 && inR value 0 1073741824) = true then (if (kind == 2 && !S) = true then 10 else if (decide (10 ≤ tl) || decide (1048576 ≤ asks)) = true then 8 else 0) else 2) := rfl
  obtain ⟨R, eR⟩ : ∃ R, R = taskErr S ⟨kind, n, label, key, value⟩ ⟨jn, st, ta, tl, tc, aa, al, ac, asks, age, tasks, asked⟩ := ⟨_, rfl⟩
  rw [← eR] at HE ⊢
  clear eS ej eR h hl hc hf
  simp only [ClV.val]
  obtain ⟨W, hW⟩ : ∃ W : World, W = X.alloc (.cells #[.int .i64 kind, .int .i64 n, .int .i64 label, .int .i64 key, .int .i64 value] 29) := ⟨_, rfl⟩
  have bW : Below X.heap.size X W := by rw [hW]; exact (Below.refl _ _).alloc (Nat.le_refl _) _
  have zW : X.heap.size < W.heap.size := by rw [hW]; simp
  have x0 : W.cell? ⟨X.heap.size, 0, none⟩ = some (.int .i64 kind) := by rw [hW]; go_simp
  have x2 : W.cell? ⟨X.heap.size, 2, none⟩ = some (.int .i64 label) := by rw [hW]; go_simp
  have x3 : W.cell? ⟨X.heap.size, 3, none⟩ = some (.int .i64 key) := by rw [hW]; go_simp
  have x4 : W.cell? ⟨X.heap.size, 4, none⟩ = some (.int .i64 value) := by rw [hW]; go_simp
  have HK : Hid (∀ U, Below W.heap.size W U → U.cell? ⟨g, i * 6 + 2, none⟩ = some (.slice ta tl tc) ∧ U.cell? ⟨g, i * 6 + 4, none⟩ = some (.int .i64 asks) ∧ g < U.heap.size ∧ Below X.heap.size X U) := fun U hU => by
    have hv := bW.trans (hU.mono bW.size)
    exact ⟨(hv.cell (p := ⟨g, i * 6 + 2, none⟩) zg).trans c2, (hv.cell (p := ⟨g, i * 6 + 4, none⟩) zg).trans c4, Nat.lt_of_lt_of_le zg hv.size, hv⟩
  clear c2 c4
  obtain ⟨KK, eKK⟩ : ∃ b, b = inR key 0 7 := ⟨_, rfl⟩
  obtain ⟨VV, eVV⟩ : ∃ b, b = inR value 0 1073741824 := ⟨_, rfl⟩
  have HKey := fun U => key_any key U
  have HVal := fun U => value_any value U
  rw [← eKK] at HE
  rw [← eVV] at HE
  simp only [← eKK] at HKey
  simp only [← eVV] at HVal
  clear eKK eVV
  cases KK with
  | false =>
    have hR : Hid (R = 2) := by show _ = _; rw [HE.out]; rfl
    clear HE
    go_enter Try.func48, Try.ntmps48
    go_upto_region 1 with (fail)
    rw [← hW]
    clear hW
    go_wp2_with (go_at_call 68; refine (HKey _).mono ?_; rintro e w1 ⟨rfl, hu1⟩; rw [hu1]; clear hu1)
    go_ret
    exact ⟨by rw [hR.out]; rfl, bW⟩
  | true =>
    cases VV with
    | false =>
      have hR : Hid (R = 2) := by show _ = _; rw [HE.out]; rfl
      clear HE
      go_enter Try.func48, Try.ntmps48
      go_upto_region 1 with (fail)
      rw [← hW]
      clear hW
      go_wp2_with (first | (go_at_call 68; refine (HKey _).mono ?_; rintro e w1 ⟨rfl, hu1⟩; rw [hu1]; clear hu1) | (go_at_call 69; refine (HVal _).mono ?_; rintro e w1 ⟨rfl, hu1⟩; rw [hu1]; clear hu1))
      go_ret
      exact ⟨by rw [hR.out]; rfl, bW⟩
    | true =>
      have hR : Hid (R = if (kind == 2 && !S) = true then 10 else if (decide (10 ≤ tl) || decide (1048576 ≤ asks)) = true then 8 else 0) := by show _ = _; rw [HE.out]; rfl
      clear HE
      go_enter Try.func48, Try.ntmps48
      go_upto_region 1 with (fail)
      rw [← hW]
      clear hW
      go_upto_region 3 with (first | (go_at_call 68; refine (HKey _).mono ?_; rintro e w1 ⟨rfl, hu1⟩; rw [hu1]; clear hu1) | (go_at_call 69; refine (HVal _).mono ?_; rintro e w1 ⟨rfl, hu1⟩; rw [hu1]; clear hu1))
      by_cases hk : kind = 2
      · subst hk
        cases S with
        | false =>
          have hR1 : Hid (R = 10) := by show _ = _; rw [hR.out]; rfl
          clear hR
          go_wp2_with (go_at_call 70; refine (HH.out _ bW).mono ?_; rintro e w1 ⟨rfl, hb1⟩)
          go_ret
          exact ⟨by rw [hR1.out]; rfl, bW.trans (hb1.mono bW.size)⟩
        | true =>
          have hR1 : Hid (R = if (decide (10 ≤ tl) || decide (1048576 ≤ asks)) = true then 8 else 0) := by show _ = _; rw [hR.out]; rfl
          clear hR
          go_upto_region 5 with (go_at_call 70; refine (HH.out _ bW).mono ?_; rintro e w1 ⟨rfl, hb1⟩)
          clear x0 x2 x3 x4
          obtain ⟨k2, k4, kg, kb⟩ := HK.out w1 hb1
          by_cases ht : 10 ≤ tl
          · have ht' : (10 : Int) ≤ (tl : Int) := by omega
            have hR2 : Hid (R = 8) := by show _ = _; rw [hR1.out, decide_eq_true ht]; rfl
            clear hR1 ht
            go_wp2
            go_ret
            exact ⟨by rw [hR2.out]; rfl, kb⟩
          · have ht' : ¬ (10 : Int) ≤ (tl : Int) := by omega
            by_cases ha : 1048576 ≤ asks
            · have hR2 : Hid (R = 8) := by show _ = _; rw [hR1.out, decide_eq_false ht, decide_eq_true ha]; rfl
              clear hR1 ht
              go_wp2
              go_ret
              exact ⟨by rw [hR2.out]; rfl, kb⟩
            · have hR2 : Hid (R = 0) := by show _ = _; rw [hR1.out, decide_eq_false ht, decide_eq_false ha]; rfl
              clear hR1 ht
              go_wp2
              go_ret
              exact ⟨by rw [hR2.out]; rfl, kb⟩
      · have hk2 : (kind == 2) = false := by simpa using hk
        have hR1 : Hid (R = if (decide (10 ≤ tl) || decide (1048576 ≤ asks)) = true then 8 else 0) := by show _ = _; rw [hR.out, hk2]; rfl
        clear hR hk2
        go_upto_region 5 with (fail)
        clear x0 x2 x3 x4
        obtain ⟨k2, k4, kg, kb⟩ := HK.out W (Below.refl _ _)
        by_cases ht : 10 ≤ tl
        · have ht' : (10 : Int) ≤ (tl : Int) := by omega
          have hR2 : Hid (R = 8) := by show _ = _; rw [hR1.out, decide_eq_true ht]; rfl
          clear hR1 ht
          go_wp2
          go_ret
          exact ⟨by rw [hR2.out]; rfl, kb⟩
        · have ht' : ¬ (10 : Int) ≤ (tl : Int) := by omega
          by_cases ha : 1048576 ≤ asks
          · have hR2 : Hid (R = 8) := by show _ = _; rw [hR1.out, decide_eq_false ht, decide_eq_true ha]; rfl
            clear hR1 ht
            go_wp2
            go_ret
            exact ⟨by rw [hR2.out]; rfl, kb⟩
          · have hR2 : Hid (R = 0) := by show _ = _; rw [hR1.out, decide_eq_false ht, decide_eq_false ha]; rfl
            clear hR1 ht
            go_wp2
            go_ret
            exact ⟨by rw [hR2.out]; rfl, kb⟩
end Go.Proofs.Ytfhciplckjkflaa.Co
