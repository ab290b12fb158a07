/- Texts of this claim, one behind the other. -/
import Derived.Test.YtgohpgollpjlnaaDoorM18ShowHidden
import Derived.Test.YtgohpgollpjlnaaDoorA15ShowHidden
import Derived.Test.YtgohpgollpjlnaaDoorA17ShowHidden
import Derived.Deep.Cut
import Derived.Deep.RegionHeld3
import Derived.Test.YtgohpgollpjlnaaDoorProg
import Derived.WalkKit
import Derived.ProofKit
import Derived.Below
import Derived.Deep.QuietTactic
import Derived.BigQuiet
import Derived.LoopTactic
import Derived.WalkSmall
import Derived.Test.YtgohpgollpjlnaaDoorA0ShowHidden
/- The contract of reredoskeep.Store, and what the store says: a fold over the raw numbers. -/
namespace Go.Proofs.YtgohpgollpjlnaaDoor.St
open Go.ChangeShapes Go.WideShapes Go.ChangeAt Go.RowKit
set_option linter.unusedVariables false

def PS.svd (p : PS) : SV := ⟨none, 0, 0, none, 0, 0, none, 0, 0, none, 0, 0, p.items, p.locks, p.doubts, p.over⟩
/-- What one raw number does to a store. -/
def mkStep (p : PS) : RV → PS
  | ⟨kd, ra, rb, rc, rd, re⟩ =>
    if pk kd 5 = 0 ∨ pk kd 5 = 1 then (if readErr p.svd (pk ra 2, 1 + pk rb 2) (pk rc 5) = 0 then readData p.svd (pk ra 2, 1 + pk rb 2) (pk rc 5) else p)
    else if pk kd 5 = 2 ∨ pk kd 5 = 3 then (if writeErr p.svd (pk ra 2, 1 + pk rb 2) (pk rc 5) (pk rd 100) (pk re 5) = 0 then writeData p.svd (pk ra 2, 1 + pk rb 2) (pk rc 5) (pk rd 100) (pk re 5) else p)
    else (if endErr p.svd (pk ra 2, 1 + pk rb 2) (decide (pk rd 2 = 1)) = 0 then endData p.svd (pk ra 2, 1 + pk rb 2) (decide (pk rd 2 = 1)) else p)
def mkTo (rs : List RV) (k : Nat) : PS := (rs.take k).foldl mkStep PS.nil
def mkAll (rs : List RV) (M : Int) : PS := mkTo rs (min rs.length M.toNat)
theorem mkTo_at {rs : List RV} {k : Nat} (h : k < rs.length) : mkTo rs (k + 1) = mkStep (mkTo rs k) (rs.getD k default) := by
  have e : rs.take (k + 1) = rs.take k ++ [rs.getD k default] := by
    rw [List.take_succ_eq_append_getElem h]; simp [List.getD, h]
  unfold mkTo
  rw [e, List.foldl_append]
  rfl
theorem mk_read {p : PS} {s : SV} (hp : s.data = p) {kd ra rb rc rd re : Int} (h : pk kd 5 = 0 ∨ pk kd 5 = 1) : mkStep p ⟨kd, ra, rb, rc, rd, re⟩ = if readErr s (pk ra 2, 1 + pk rb 2) (pk rc 5) = 0 then readData s (pk ra 2, 1 + pk rb 2) (pk rc 5) else s.data := by
  subst hp
  simp only [mkStep]
  rw [if_pos h]
  rfl
theorem mk_write {p : PS} {s : SV} (hp : s.data = p) {kd ra rb rc rd re : Int} (h : pk kd 5 = 2 ∨ pk kd 5 = 3) : mkStep p ⟨kd, ra, rb, rc, rd, re⟩ = if writeErr s (pk ra 2, 1 + pk rb 2) (pk rc 5) (pk rd 100) (pk re 5) = 0 then writeData s (pk ra 2, 1 + pk rb 2) (pk rc 5) (pk rd 100) (pk re 5) else s.data := by
  subst hp
  simp only [mkStep]
  rw [if_neg (by omega), if_pos h]
  rfl
theorem mk_end {p : PS} {s : SV} (hp : s.data = p) {kd ra rb rc rd re : Int} (h : pk kd 5 = 4) (y : Bool) (hy : decide (pk rd 2 = 1) = y) : mkStep p ⟨kd, ra, rb, rc, rd, re⟩ = if endErr s (pk ra 2, 1 + pk rb 2) y = 0 then endData s (pk ra 2, 1 + pk rb 2) y else s.data := by
  subst hp
  subst hy
  simp only [mkStep]
  rw [if_neg (by omega), if_neg (by omega)]
  rfl
set_option maxRecDepth 100000 in
set_option maxHeartbeats 8000000 in
theorem store_data (a : Option Addr) (len cap : Nat) (rs : List RV) (M : Int) (w : World) (h : IsRaws w a len cap rs) (hM : 0 ≤ M ∧ M ≤ 40) :
    Calls Tryd.prog 16 #[.slice a len cap, .int .i64 M] w fun e w' => ∃ r : SV, e = .returned r.val ∧ OwnStore w' w.heap.size r ∧ Gd r.data 961 ∧ r.data = mkAll rs M ∧ Below w.heap.size w w' := by
  obtain ⟨M0, M40⟩ := hM
  have hmx : len ≤ maxLen := Nat.le_trans h.row.2.1 h.row.2.2.1
  unfold maxLen at hmx
  obtain ⟨W, hW⟩ : ∃ W : World, W = (w.alloc (.cells #[.slice none 0 0, .slice none 0 0, .slice none 0 0, .slice none 0 0] 55)).alloc (.cells #[.slice none 0 0, .slice none 0 0, .slice none 0 0, .slice none 0 0] 55) := ⟨_, rfl⟩
  have hP := pre_of w SV.nil (isStore_nil w)
  simp only [SV.nil] at hP
  rw [← hW] at hP
  have hp1 := hP.par
  have hp2 := hP.res
  have hB := hP.bel
  clear hP
  go_enter Tryd.func16, Tryd.ntmps16
  go_upto_region 2 with (fail)
  rw [← hW]
  clear hW
  go_wp2
  go_loopw [6, 7, 8, 9, 10, 11, 12, 13, 14, 15, 16] (fun s6 _ _ _ _ _ _ _ _ _ _ wr => ∃ (k : Nat) (r : SV), s6 = .int .i64 (k : Int) ∧ k ≤ len ∧ (k : Int) ≤ M ∧ Gd r.data (1 + 24 * k) ∧ Hid (r.data = mkTo rs k) ∧ OwnStore wr (w.heap.size + 2) r ∧ BoxN wr (w.heap.size + 1) 4 r.box ∧ BoxN wr w.heap.size 4 SV.nil.box ∧ Below w.heap.size w wr) (fun s6 _ _ _ _ _ _ _ _ _ _ _ => len - (intOf s6).toNat)
  case atStart => exact ⟨0, SV.nil, rfl, Nat.zero_le _, M0, gd_nil, (by rfl : SV.nil.data = mkTo rs 0), ownStore_nil _ _, hp2, hp1, hB⟩
  case round =>
    clear hp1 hp2 hB
    obtain ⟨k, ⟨a0, n0, u0, a1, n1, u1, a2, n2, u2, a3, n3, u3, xi, xl, xd, xo⟩, rfl, hk, hkM, hG, hMk, hO, hbx, hbr, hb⟩ := hrel
    by_cases hlt : k < len ∧ (k : Int) < M
    · obtain ⟨hlt, hltM⟩ := hlt
      have hlt' : (k : Int) < (len : Int) := by omega
      have hlen : rs.length = len := h.row.1
      have hrok := h.ok _ (getD_mem (l := rs) (i := k) (by omega))
      obtain ⟨b, off, rfl, zb, hc⟩ := h.row.2.2.2.2 (by omega)
      have hcells := hc k hlt
      have HStep : Hid (mkTo rs (k + 1) = mkStep (mkTo rs k) (rs.getD k default)) := mkTo_at (by omega)
      obtain ⟨x, ex⟩ : ∃ x, x = rs.getD k default := ⟨_, rfl⟩
      rw [← ex] at hcells hrok HStep
      clear ex hc hlen
      obtain ⟨kd, ra, rb, rc, rd, re⟩ := x
      obtain ⟨okd, ora, orb, orc, ord, ore⟩ := hrok
      have KE0 : Hid (∀ U, Below w.heap.size w U → U.cell? ⟨b, off + k * 6, none⟩ = some (.int .i64 kd) ∧ U.cell? ⟨b, off + k * 6 + 1, none⟩ = some (.int .i64 ra) ∧ U.cell? ⟨b, off + k * 6 + 2, none⟩ = some (.int .i64 rb) ∧ U.cell? ⟨b, off + k * 6 + 3, none⟩ = some (.int .i64 rc) ∧ U.cell? ⟨b, off + k * 6 + 4, none⟩ = some (.int .i64 rd) ∧ U.cell? ⟨b, off + k * 6 + 5, none⟩ = some (.int .i64 re)) := fun U hU => by
        have e0 := (hU.cell (p := ⟨b, off + k * 6, none⟩) zb).trans (hcells 0 (by decide))
        have e1 := (hU.cell (p := ⟨b, off + k * 6 + 1, none⟩) zb).trans (hcells 1 (by decide))
        have e2 := (hU.cell (p := ⟨b, off + k * 6 + 2, none⟩) zb).trans (hcells 2 (by decide))
        have e3 := (hU.cell (p := ⟨b, off + k * 6 + 3, none⟩) zb).trans (hcells 3 (by decide))
        have e4 := (hU.cell (p := ⟨b, off + k * 6 + 4, none⟩) zb).trans (hcells 4 (by decide))
        have e5 := (hU.cell (p := ⟨b, off + k * 6 + 5, none⟩) zb).trans (hcells 5 (by decide))
        simp only [RV.cells, List.getElem?_cons_zero, List.getElem?_cons_succ] at e0 e1 e2 e3 e4 e5
        exact ⟨e0, e1, e2, e3, e4, e5⟩
      clear hcells
      have zr : b < wr.heap.size := Nat.lt_of_lt_of_le zb hb.size
      have bA' := pk_bd ra 2 (by decide)
      have bB' := pk_bd rb 2 (by decide)
      have bC' := pk_bd rc 5 (by decide)
      have bK' := pk_bd kd 5 (by decide)
      have bV' := pk_bd rd 100 (by decide)
      have bQ' := pk_bd re 5 (by decide)
      simp only [Bd] at okd ora orb orc ord ore
      have hw1 : IntKind.i64.wrap (1 + pk rb 2) = 1 + pk rb 2 := by apply wrap_in <;> omega
      have hisT : Hid (isT (pk ra 2, 1 + pk rb 2)) := isT_of _ _ bA' bB'
      go_upto_region 5 with (fail)
      go_cut [7] (fun s7 wc => ∃ q : Nat, s7 = .pointer (some ⟨q, 0, none⟩) ∧ BoxN wc q 2 [.int .i64 (pk ra 2), .int .i64 (1 + pk rb 2)] ∧ Below wr.heap.size wr wc)
      case first =>
        have KE2 : Hid (∀ U, Below wr.heap.size wr U → U.cell? ⟨b, off + k * 6 + 1, none⟩ = some (.int .i64 ra) ∧ U.cell? ⟨b, off + k * 6 + 2, none⟩ = some (.int .i64 rb)) := fun U hU => by
          have := KE0.out U (hb.trans (hU.mono hb.size))
          exact ⟨this.2.1, this.2.2.1⟩
        go_region_held3 (fun U => U.cell? ⟨b, off + k * 6 + 1, none⟩ = some (.int .i64 ra) ∧ U.cell? ⟨b, off + k * 6 + 2, none⟩ = some (.int .i64 rb))
          (exact KE2.out _ (by (with_reducible repeat (first | exact Below.refl _ _ | refine nD ?_ | refine nA ?_ _ | refine nS ?_ (by simp) _)); done))
          (((go_at_call 13; refine (picked_any _ _ _ (by assumption) (by decide) (by decide)).mono ?_; rintro e u ⟨rfl, hu⟩; rw [hu]; clear hu)))
        all_goals
          go_wp2_with fail
          go_meet
          case rel => exact ⟨_, rfl, by first | exact boxn_drew (boxn_new wr #[.int .i64 (pk ra 2), .int .i64 (1 + pk rb 2)] _ 2 rfl) | exact boxn_new _ #[.int .i64 (pk ra 2), .int .i64 (1 + pk rb 2)] _ 2 rfl | exact ((boxn_new _ #[.int .i64 0, .int .i64 0] _ 2 rfl).set 0 (by decide) (.int .i64 (pk ra 2))).set 1 (by decide) (.int .i64 (1 + pk rb 2)), by (with_reducible repeat (first | exact Below.refl _ _ | refine nD ?_ | refine nA ?_ _ | refine nS ?_ (by simp) _)); done⟩
      case rest =>
        obtain ⟨q, rfl, bt, bF⟩ := hcut
        obtain ⟨X, eX⟩ : ∃ X, X = wc := ⟨_, rfl⟩
        rw [← eX] at bt bF ⊢
        clear eX
        have hOX := hO.below bF
        have hbxX := hbx.below bF hbx.lt
        have hbrX := hbr.below bF hbr.lt
        have hbX : Below w.heap.size w X := hb.trans (bF.mono hb.size)
        have zwX : w.heap.size + 1 < X.heap.size := hbxX.lt
        clear hO hbx hbr hb bF zr
        obtain ⟨e0, e1, e2, e3, e4, e5⟩ := KE0.out X hbX
        have zX : b < X.heap.size := Nat.lt_of_lt_of_le zb hbX.size
        have t0 := (bt.c 0 (by decide)).1
        have t1 := (bt.c 1 (by decide)).1
        simp only [SV.box] at hbxX
        have x0 := (hbxX.c 0 (by decide)).1
        have x1 := (hbxX.c 1 (by decide)).1
        have x2 := (hbxX.c 2 (by decide)).1
        have x3 := (hbxX.c 3 (by decide)).1
        simp only [List.getD_cons_zero, List.getD_cons_succ] at t0 t1 x0 x1 x2 x3
        have ztq := bt.lt
        have hSX := hOX.isStore
        have hwf := hG.wf
        have h4 := hG.h4 hSX
        have KX : Hid (∀ U, Below X.heap.size X U → U.cell? ⟨w.heap.size + 1, 0, none⟩ = some (.slice a0 n0 u0) ∧ U.cell? ⟨w.heap.size + 1, 1, none⟩ = some (.slice a1 n1 u1) ∧ U.cell? ⟨w.heap.size + 1, 2, none⟩ = some (.slice a2 n2 u2) ∧ U.cell? ⟨w.heap.size + 1, 3, none⟩ = some (.slice a3 n3 u3) ∧ U.cell? ⟨q, 0, none⟩ = some (.int .i64 (pk ra 2)) ∧ U.cell? ⟨q, 1, none⟩ = some (.int .i64 (1 + pk rb 2)) ∧ U.cell? ⟨b, off + k * 6 + 4, none⟩ = some (.int .i64 rd) ∧ U.cell? ⟨b, off + k * 6 + 5, none⟩ = some (.int .i64 re)) := fun U hU =>
          ⟨(hU.cell (p := ⟨w.heap.size + 1, 0, none⟩) zwX).trans x0, (hU.cell (p := ⟨w.heap.size + 1, 1, none⟩) zwX).trans x1, (hU.cell (p := ⟨w.heap.size + 1, 2, none⟩) zwX).trans x2, (hU.cell (p := ⟨w.heap.size + 1, 3, none⟩) zwX).trans x3, (hU.cell (p := ⟨q, 0, none⟩) ztq).trans t0, (hU.cell (p := ⟨q, 1, none⟩) ztq).trans t1, (hU.cell (p := ⟨b, off + k * 6 + 4, none⟩) zX).trans e4, (hU.cell (p := ⟨b, off + k * 6 + 5, none⟩) zX).trans e5⟩
        have HSX : Hid (∀ U, Below X.heap.size X U → IsStore U ⟨a0, n0, u0, a1, n1, u1, a2, n2, u2, a3, n3, u3, xi, xl, xd, xo⟩) := fun U hU => hSX.below hU
        have hZ : pk kd 5 = 0 ∨ pk kd 5 = 1 ∨ pk kd 5 = 2 ∨ pk kd 5 = 3 ∨ pk kd 5 = 4 := by omega
        rcases hZ with hZ | hZ | hZ | hZ | hZ
        ·
          have hCall := fun w' h1 => read_own ⟨a0, n0, u0, a1, n1, u1, a2, n2, u2, a3, n3, u3, xi, xl, xd, xo⟩ (pk ra 2, 1 + pk rb 2) (pk rc 5) w' h1 hwf h4
          have HGd : Hid ((readErr ⟨a0, n0, u0, a1, n1, u1, a2, n2, u2, a3, n3, u3, xi, xl, xd, xo⟩ (pk ra 2, 1 + pk rb 2) (pk rc 5) = 0 → Gd (readData ⟨a0, n0, u0, a1, n1, u1, a2, n2, u2, a3, n3, u3, xi, xl, xd, xo⟩ (pk ra 2, 1 + pk rb 2) (pk rc 5)) (1 + 24 * ((k + 1 : Nat) : Int))) ∧ (readErr ⟨a0, n0, u0, a1, n1, u1, a2, n2, u2, a3, n3, u3, xi, xl, xd, xo⟩ (pk ra 2, 1 + pk rb 2) (pk rc 5) = 0 → readData ⟨a0, n0, u0, a1, n1, u1, a2, n2, u2, a3, n3, u3, xi, xl, xd, xo⟩ (pk ra 2, 1 + pk rb 2) (pk rc 5) = mkTo rs (k + 1)) ∧ (¬ readErr ⟨a0, n0, u0, a1, n1, u1, a2, n2, u2, a3, n3, u3, xi, xl, xd, xo⟩ (pk ra 2, 1 + pk rb 2) (pk rc 5) = 0 → SV.data ⟨a0, n0, u0, a1, n1, u1, a2, n2, u2, a3, n3, u3, xi, xl, xd, xo⟩ = mkTo rs (k + 1))) := ⟨fun he => (gd_read hG hisT.out (by omega) he).mono (by omega), fun he => by rw [HStep.out, mk_read hMk.out (by omega), if_pos he], fun he => by rw [HStep.out, mk_read hMk.out (by omega), if_neg he]⟩
          obtain ⟨E, eE⟩ : ∃ E, E = readErr ⟨a0, n0, u0, a1, n1, u1, a2, n2, u2, a3, n3, u3, xi, xl, xd, xo⟩ (pk ra 2, 1 + pk rb 2) (pk rc 5) := ⟨_, rfl⟩
          obtain ⟨D, eD⟩ : ∃ D, D = readData ⟨a0, n0, u0, a1, n1, u1, a2, n2, u2, a3, n3, u3, xi, xl, xd, xo⟩ (pk ra 2, 1 + pk rb 2) (pk rc 5) := ⟨_, rfl⟩
          obtain ⟨V1, eV1⟩ : ∃ E, E = readVal ⟨a0, n0, u0, a1, n1, u1, a2, n2, u2, a3, n3, u3, xi, xl, xd, xo⟩ (pk ra 2, 1 + pk rb 2) (pk rc 5) := ⟨_, rfl⟩
          obtain ⟨V2, eV2⟩ : ∃ E, E = readVer ⟨a0, n0, u0, a1, n1, u1, a2, n2, u2, a3, n3, u3, xi, xl, xd, xo⟩ (pk ra 2, 1 + pk rb 2) (pk rc 5) := ⟨_, rfl⟩
          rw [← eE, ← eD] at HGd
          simp only [← eE, ← eD, ← eV1, ← eV2, SV.val] at hCall
          clear eE eD eV1 eV2
          go_upto_region 14 with (first | (go_at_call 13; refine (picked_any _ _ _ (by assumption) (by decide) (by decide)).mono ?_; rintro e u ⟨rfl, hu⟩; rw [hu]; clear hu; (try rw [hZ]); (try rw [hY])) | (go_at_call 34; refine (hCall _ hSX).mono ?_; rintro e w2 ⟨⟨b0, m0, v0, b1, m1, v1, b2, m2, v2, b3, m3, v3, yi, yl, yd, yo⟩, rfl, hO2', hd2, hb2⟩; simp only []))
          obtain ⟨Y, hY⟩ : ∃ Y : World, Y = w2.alloc (.cells #[.slice b0 m0 v0, .slice b1 m1 v1, .slice b2 m2 v2, .slice b3 m3 v3] 55) := ⟨_, rfl⟩
          have bYw : Below w2.heap.size w2 Y := by rw [hY]; exact (Below.refl _ _).alloc (Nat.le_refl _) _
          have hb2x : BoxN Y w2.heap.size 4 [.slice b0 m0 v0, .slice b1 m1 v1, .slice b2 m2 v2, .slice b3 m3 v3] := by rw [hY]; exact boxn_new w2 #[.slice b0 m0 v0, .slice b1 m1 v1, .slice b2 m2 v2, .slice b3 m3 v3] 55 4 rfl
          have bY : Below X.heap.size X Y := nT hb2 bYw
          have hbY : Below w.heap.size w Y := hbX.trans (bY.mono hbX.size)
          have hO2 : OwnStore Y (w.heap.size + 2) ⟨b0, m0, v0, b1, m1, v1, b2, m2, v2, b3, m3, v3, yi, yl, yd, yo⟩ := (hO2'.below bYw).base (by omega)
          rw [← hY]
          clear hY hO2' bYw x0 x1 x2 x3 t0 t1 e0 e1 e2 e3 e4 e5
          have zyl := hbY.size
          have hbm := hbxX.below bY hbxX.lt
          have hbn := hbrX.below bY hbrX.lt
          have x0 := (hb2x.c 0 (by decide)).1
          have x1 := (hb2x.c 1 (by decide)).1
          have x2 := (hb2x.c 2 (by decide)).1
          have x3 := (hb2x.c 3 (by decide)).1
          have y0 := (hbm.c 0 (by decide)).1
          have y1 := (hbm.c 1 (by decide)).1
          have y2 := (hbm.c 2 (by decide)).1
          have y3 := (hbm.c 3 (by decide)).1
          have f0 := (hbm.c 0 (by decide)).2
          have f1 := (hbm.c 1 (by decide)).2
          have f2 := (hbm.c 2 (by decide)).2
          have f3 := (hbm.c 3 (by decide)).2
          simp only [List.getD_cons_zero, List.getD_cons_succ] at x0 x1 x2 x3 y0 y1 y2 y3
          have zq2 := hb2x.lt
          have zbm := hbm.lt
          by_cases hE : E = 0
          · subst hE
            have hG2 : Gd (SV.data ⟨b0, m0, v0, b1, m1, v1, b2, m2, v2, b3, m3, v3, yi, yl, yd, yo⟩) (1 + 24 * ((k + 1 : Nat) : Int)) := by rw [hd2]; exact HGd.out.1 rfl
            have hM2 : Hid (SV.data ⟨b0, m0, v0, b1, m1, v1, b2, m2, v2, b3, m3, v3, yi, yl, yd, yo⟩ = mkTo rs (k + 1)) := by show _ = _; rw [hd2]; exact HGd.out.2.1 rfl
            obtain ⟨V, hV⟩ : ∃ V : World, V = (((Y.setCell ⟨w.heap.size + 1, 0, none⟩ (.slice b0 m0 v0)).setCell ⟨w.heap.size + 1, 1, none⟩ (.slice b1 m1 v1)).setCell ⟨w.heap.size + 1, 2, none⟩ (.slice b2 m2 v2)).setCell ⟨w.heap.size + 1, 3, none⟩ (.slice b3 m3 v3) := ⟨_, rfl⟩
            have hOV : OwnStore V (w.heap.size + 2) ⟨b0, m0, v0, b1, m1, v1, b2, m2, v2, b3, m3, v3, yi, yl, yd, yo⟩ := by rw [hV]; exact hO2.four (by omega) _ _ _ _
            have bV : BoxN V (w.heap.size + 1) 4 [.slice b0 m0 v0, .slice b1 m1 v1, .slice b2 m2 v2, .slice b3 m3 v3] := by rw [hV]; exact (((hbm.set 0 (by decide) _).set 1 (by decide) _).set 2 (by decide) _).set 3 (by decide) _
            have bVn : BoxN V w.heap.size 4 SV.nil.box := by rw [hV]; exact (((hbn.far (by omega)).far (by omega)).far (by omega)).far (by omega)
            have hbV : Below w.heap.size w V := by rw [hV]; exact below_four hbY (by omega) _ _ _ _
            go_upto_region 4 with (fail)
            rw [← hV]
            clear hV x0 x1 x2 x3 y0 y1 y2 y3 f0 f1 f2 f3 zq2 zbm
            go_wp2
            go_roundw
            case rel => exact ⟨k + 1, ⟨b0, m0, v0, b1, m1, v1, b2, m2, v2, b3, m3, v3, yi, yl, yd, yo⟩, by go_num, by omega, by omega, hG2, hM2, hOV, bV, bVn, hbV⟩
            case measure => simp [intOf]; omega
          · have hOk := hOX.below bY
            have hM3 : Hid (SV.data ⟨a0, n0, u0, a1, n1, u1, a2, n2, u2, a3, n3, u3, xi, xl, xd, xo⟩ = mkTo rs (k + 1)) := HGd.out.2.2 hE
            have hGk : Gd (SV.data ⟨a0, n0, u0, a1, n1, u1, a2, n2, u2, a3, n3, u3, xi, xl, xd, xo⟩) (1 + 24 * ((k + 1 : Nat) : Int)) := hG.mono (by omega)
            go_wp2
            go_roundw
            case rel => exact ⟨k + 1, ⟨a0, n0, u0, a1, n1, u1, a2, n2, u2, a3, n3, u3, xi, xl, xd, xo⟩, by go_num, by omega, by omega, hGk, hM3, hOk, hbm, hbn, hbY⟩
            case measure => simp [intOf]; omega
        ·
          have hCall := fun w' h1 => read_own ⟨a0, n0, u0, a1, n1, u1, a2, n2, u2, a3, n3, u3, xi, xl, xd, xo⟩ (pk ra 2, 1 + pk rb 2) (pk rc 5) w' h1 hwf h4
          have HGd : Hid ((readErr ⟨a0, n0, u0, a1, n1, u1, a2, n2, u2, a3, n3, u3, xi, xl, xd, xo⟩ (pk ra 2, 1 + pk rb 2) (pk rc 5) = 0 → Gd (readData ⟨a0, n0, u0, a1, n1, u1, a2, n2, u2, a3, n3, u3, xi, xl, xd, xo⟩ (pk ra 2, 1 + pk rb 2) (pk rc 5)) (1 + 24 * ((k + 1 : Nat) : Int))) ∧ (readErr ⟨a0, n0, u0, a1, n1, u1, a2, n2, u2, a3, n3, u3, xi, xl, xd, xo⟩ (pk ra 2, 1 + pk rb 2) (pk rc 5) = 0 → readData ⟨a0, n0, u0, a1, n1, u1, a2, n2, u2, a3, n3, u3, xi, xl, xd, xo⟩ (pk ra 2, 1 + pk rb 2) (pk rc 5) = mkTo rs (k + 1)) ∧ (¬ readErr ⟨a0, n0, u0, a1, n1, u1, a2, n2, u2, a3, n3, u3, xi, xl, xd, xo⟩ (pk ra 2, 1 + pk rb 2) (pk rc 5) = 0 → SV.data ⟨a0, n0, u0, a1, n1, u1, a2, n2, u2, a3, n3, u3, xi, xl, xd, xo⟩ = mkTo rs (k + 1))) := ⟨fun he => (gd_read hG hisT.out (by omega) he).mono (by omega), fun he => by rw [HStep.out, mk_read hMk.out (by omega), if_pos he], fun he => by rw [HStep.out, mk_read hMk.out (by omega), if_neg he]⟩
          obtain ⟨E, eE⟩ : ∃ E, E = readErr ⟨a0, n0, u0, a1, n1, u1, a2, n2, u2, a3, n3, u3, xi, xl, xd, xo⟩ (pk ra 2, 1 + pk rb 2) (pk rc 5) := ⟨_, rfl⟩
          obtain ⟨D, eD⟩ : ∃ D, D = readData ⟨a0, n0, u0, a1, n1, u1, a2, n2, u2, a3, n3, u3, xi, xl, xd, xo⟩ (pk ra 2, 1 + pk rb 2) (pk rc 5) := ⟨_, rfl⟩
          obtain ⟨V1, eV1⟩ : ∃ E, E = readVal ⟨a0, n0, u0, a1, n1, u1, a2, n2, u2, a3, n3, u3, xi, xl, xd, xo⟩ (pk ra 2, 1 + pk rb 2) (pk rc 5) := ⟨_, rfl⟩
          obtain ⟨V2, eV2⟩ : ∃ E, E = readVer ⟨a0, n0, u0, a1, n1, u1, a2, n2, u2, a3, n3, u3, xi, xl, xd, xo⟩ (pk ra 2, 1 + pk rb 2) (pk rc 5) := ⟨_, rfl⟩
          rw [← eE, ← eD] at HGd
          simp only [← eE, ← eD, ← eV1, ← eV2, SV.val] at hCall
          clear eE eD eV1 eV2
          go_upto_region 14 with (first | (go_at_call 13; refine (picked_any _ _ _ (by assumption) (by decide) (by decide)).mono ?_; rintro e u ⟨rfl, hu⟩; rw [hu]; clear hu; (try rw [hZ]); (try rw [hY])) | (go_at_call 34; refine (hCall _ hSX).mono ?_; rintro e w2 ⟨⟨b0, m0, v0, b1, m1, v1, b2, m2, v2, b3, m3, v3, yi, yl, yd, yo⟩, rfl, hO2', hd2, hb2⟩; simp only []))
          obtain ⟨Y, hY⟩ : ∃ Y : World, Y = w2.alloc (.cells #[.slice b0 m0 v0, .slice b1 m1 v1, .slice b2 m2 v2, .slice b3 m3 v3] 55) := ⟨_, rfl⟩
          have bYw : Below w2.heap.size w2 Y := by rw [hY]; exact (Below.refl _ _).alloc (Nat.le_refl _) _
          have hb2x : BoxN Y w2.heap.size 4 [.slice b0 m0 v0, .slice b1 m1 v1, .slice b2 m2 v2, .slice b3 m3 v3] := by rw [hY]; exact boxn_new w2 #[.slice b0 m0 v0, .slice b1 m1 v1, .slice b2 m2 v2, .slice b3 m3 v3] 55 4 rfl
          have bY : Below X.heap.size X Y := nT hb2 bYw
          have hbY : Below w.heap.size w Y := hbX.trans (bY.mono hbX.size)
          have hO2 : OwnStore Y (w.heap.size + 2) ⟨b0, m0, v0, b1, m1, v1, b2, m2, v2, b3, m3, v3, yi, yl, yd, yo⟩ := (hO2'.below bYw).base (by omega)
          rw [← hY]
          clear hY hO2' bYw x0 x1 x2 x3 t0 t1 e0 e1 e2 e3 e4 e5
          have zyl := hbY.size
          have hbm := hbxX.below bY hbxX.lt
          have hbn := hbrX.below bY hbrX.lt
          have x0 := (hb2x.c 0 (by decide)).1
          have x1 := (hb2x.c 1 (by decide)).1
          have x2 := (hb2x.c 2 (by decide)).1
          have x3 := (hb2x.c 3 (by decide)).1
          have y0 := (hbm.c 0 (by decide)).1
          have y1 := (hbm.c 1 (by decide)).1
          have y2 := (hbm.c 2 (by decide)).1
          have y3 := (hbm.c 3 (by decide)).1
          have f0 := (hbm.c 0 (by decide)).2
          have f1 := (hbm.c 1 (by decide)).2
          have f2 := (hbm.c 2 (by decide)).2
          have f3 := (hbm.c 3 (by decide)).2
          simp only [List.getD_cons_zero, List.getD_cons_succ] at x0 x1 x2 x3 y0 y1 y2 y3
          have zq2 := hb2x.lt
          have zbm := hbm.lt
          by_cases hE : E = 0
          · subst hE
            have hG2 : Gd (SV.data ⟨b0, m0, v0, b1, m1, v1, b2, m2, v2, b3, m3, v3, yi, yl, yd, yo⟩) (1 + 24 * ((k + 1 : Nat) : Int)) := by rw [hd2]; exact HGd.out.1 rfl
            have hM2 : Hid (SV.data ⟨b0, m0, v0, b1, m1, v1, b2, m2, v2, b3, m3, v3, yi, yl, yd, yo⟩ = mkTo rs (k + 1)) := by show _ = _; rw [hd2]; exact HGd.out.2.1 rfl
            obtain ⟨V, hV⟩ : ∃ V : World, V = (((Y.setCell ⟨w.heap.size + 1, 0, none⟩ (.slice b0 m0 v0)).setCell ⟨w.heap.size + 1, 1, none⟩ (.slice b1 m1 v1)).setCell ⟨w.heap.size + 1, 2, none⟩ (.slice b2 m2 v2)).setCell ⟨w.heap.size + 1, 3, none⟩ (.slice b3 m3 v3) := ⟨_, rfl⟩
            have hOV : OwnStore V (w.heap.size + 2) ⟨b0, m0, v0, b1, m1, v1, b2, m2, v2, b3, m3, v3, yi, yl, yd, yo⟩ := by rw [hV]; exact hO2.four (by omega) _ _ _ _
            have bV : BoxN V (w.heap.size + 1) 4 [.slice b0 m0 v0, .slice b1 m1 v1, .slice b2 m2 v2, .slice b3 m3 v3] := by rw [hV]; exact (((hbm.set 0 (by decide) _).set 1 (by decide) _).set 2 (by decide) _).set 3 (by decide) _
            have bVn : BoxN V w.heap.size 4 SV.nil.box := by rw [hV]; exact (((hbn.far (by omega)).far (by omega)).far (by omega)).far (by omega)
            have hbV : Below w.heap.size w V := by rw [hV]; exact below_four hbY (by omega) _ _ _ _
            go_upto_region 4 with (fail)
            rw [← hV]
            clear hV x0 x1 x2 x3 y0 y1 y2 y3 f0 f1 f2 f3 zq2 zbm
            go_wp2
            go_roundw
            case rel => exact ⟨k + 1, ⟨b0, m0, v0, b1, m1, v1, b2, m2, v2, b3, m3, v3, yi, yl, yd, yo⟩, by go_num, by omega, by omega, hG2, hM2, hOV, bV, bVn, hbV⟩
            case measure => simp [intOf]; omega
          · have hOk := hOX.below bY
            have hM3 : Hid (SV.data ⟨a0, n0, u0, a1, n1, u1, a2, n2, u2, a3, n3, u3, xi, xl, xd, xo⟩ = mkTo rs (k + 1)) := HGd.out.2.2 hE
            have hGk : Gd (SV.data ⟨a0, n0, u0, a1, n1, u1, a2, n2, u2, a3, n3, u3, xi, xl, xd, xo⟩) (1 + 24 * ((k + 1 : Nat) : Int)) := hG.mono (by omega)
            go_wp2
            go_roundw
            case rel => exact ⟨k + 1, ⟨a0, n0, u0, a1, n1, u1, a2, n2, u2, a3, n3, u3, xi, xl, xd, xo⟩, by go_num, by omega, by omega, hGk, hM3, hOk, hbm, hbn, hbY⟩
            case measure => simp [intOf]; omega
        ·
          have hCall := fun w' h1 => write_own ⟨a0, n0, u0, a1, n1, u1, a2, n2, u2, a3, n3, u3, xi, xl, xd, xo⟩ (pk ra 2, 1 + pk rb 2) (pk rc 5) (pk rd 100) (pk re 5) w' h1 hwf h4
          have HGd : Hid ((writeErr ⟨a0, n0, u0, a1, n1, u1, a2, n2, u2, a3, n3, u3, xi, xl, xd, xo⟩ (pk ra 2, 1 + pk rb 2) (pk rc 5) (pk rd 100) (pk re 5) = 0 → Gd (writeData ⟨a0, n0, u0, a1, n1, u1, a2, n2, u2, a3, n3, u3, xi, xl, xd, xo⟩ (pk ra 2, 1 + pk rb 2) (pk rc 5) (pk rd 100) (pk re 5)) (1 + 24 * ((k + 1 : Nat) : Int))) ∧ (writeErr ⟨a0, n0, u0, a1, n1, u1, a2, n2, u2, a3, n3, u3, xi, xl, xd, xo⟩ (pk ra 2, 1 + pk rb 2) (pk rc 5) (pk rd 100) (pk re 5) = 0 → writeData ⟨a0, n0, u0, a1, n1, u1, a2, n2, u2, a3, n3, u3, xi, xl, xd, xo⟩ (pk ra 2, 1 + pk rb 2) (pk rc 5) (pk rd 100) (pk re 5) = mkTo rs (k + 1)) ∧ (¬ writeErr ⟨a0, n0, u0, a1, n1, u1, a2, n2, u2, a3, n3, u3, xi, xl, xd, xo⟩ (pk ra 2, 1 + pk rb 2) (pk rc 5) (pk rd 100) (pk re 5) = 0 → SV.data ⟨a0, n0, u0, a1, n1, u1, a2, n2, u2, a3, n3, u3, xi, xl, xd, xo⟩ = mkTo rs (k + 1))) := ⟨fun he => (gd_write hG hisT.out (by omega) he).mono (by omega), fun he => by rw [HStep.out, mk_write hMk.out (by omega), if_pos he], fun he => by rw [HStep.out, mk_write hMk.out (by omega), if_neg he]⟩
          obtain ⟨E, eE⟩ : ∃ E, E = writeErr ⟨a0, n0, u0, a1, n1, u1, a2, n2, u2, a3, n3, u3, xi, xl, xd, xo⟩ (pk ra 2, 1 + pk rb 2) (pk rc 5) (pk rd 100) (pk re 5) := ⟨_, rfl⟩
          obtain ⟨D, eD⟩ : ∃ D, D = writeData ⟨a0, n0, u0, a1, n1, u1, a2, n2, u2, a3, n3, u3, xi, xl, xd, xo⟩ (pk ra 2, 1 + pk rb 2) (pk rc 5) (pk rd 100) (pk re 5) := ⟨_, rfl⟩
          rw [← eE, ← eD] at HGd
          simp only [← eE, ← eD, SV.val] at hCall
          clear eE eD
          go_upto_region 18 with ((go_at_call 13; refine (picked_any _ _ _ (by assumption) (by decide) (by decide)).mono ?_; rintro e u ⟨rfl, hu⟩; rw [hu]; clear hu; (try rw [hZ]); (try rw [hY])))
          go_cut [13, 14] (fun sp se wc => ∃ (q2 : Nat) (r2 : SV), sp = .pointer (some ⟨q2, 0, none⟩) ∧ se = .int .i64 E ∧ BoxN wc q2 4 r2.box ∧ OwnStore wc (w.heap.size + 2) r2 ∧ r2.data = D ∧ Below X.heap.size X wc)
          case first =>
            clear x0 x1 x2 x3 t0 t1 e0 e1 e2 e3 e4 e5
            go_region_held3 (fun U => U.cell? ⟨w.heap.size + 1, 0, none⟩ = some (.slice a0 n0 u0) ∧ U.cell? ⟨w.heap.size + 1, 1, none⟩ = some (.slice a1 n1 u1) ∧ U.cell? ⟨w.heap.size + 1, 2, none⟩ = some (.slice a2 n2 u2) ∧ U.cell? ⟨w.heap.size + 1, 3, none⟩ = some (.slice a3 n3 u3) ∧ U.cell? ⟨q, 0, none⟩ = some (.int .i64 (pk ra 2)) ∧ U.cell? ⟨q, 1, none⟩ = some (.int .i64 (1 + pk rb 2)) ∧ U.cell? ⟨b, off + k * 6 + 4, none⟩ = some (.int .i64 rd) ∧ U.cell? ⟨b, off + k * 6 + 5, none⟩ = some (.int .i64 re))
              (exact KX.out _ (by (with_reducible repeat (first | exact Below.refl _ _ | exact hu2 | refine nD ?_ | refine nA ?_ _ | refine nS ?_ (by first | omega | (simp; done)) _)); done))
              (first | (go_at_call 13; refine (picked_any _ _ _ (by assumption) (by decide) (by decide)).mono ?_; rintro e u ⟨rfl, hu⟩; rw [hu]; clear hu; (try rw [hZ]); (try rw [hY])) | (go_at_call 35; refine (hCall _ (HSX.out _ (by (with_reducible repeat (first | exact Below.refl _ _ | exact hu2 | refine nD ?_ | refine nA ?_ _ | refine nS ?_ (by first | omega | (simp; done)) _)); done))).mono ?_; rintro e w2 ⟨⟨b0, m0, v0, b1, m1, v1, b2, m2, v2, b3, m3, v3, yi, yl, yd, yo⟩, rfl, hO2', hd2, hb2⟩; simp only []; have hu2 : Below X.heap.size X w2 := nT (by (with_reducible repeat (first | exact Below.refl _ _ | exact hu2 | refine nD ?_ | refine nA ?_ _ | refine nS ?_ (by first | omega | (simp; done)) _)); done) hb2; have zu2 := hu2.size; (first | (have bx3 : BoxN w2 X.heap.size 4 [.slice none 0 0, .slice none 0 0, .slice none 0 0, .slice none 0 0] := (boxn_new X.drew #[.slice none 0 0, .slice none 0 0, .slice none 0 0, .slice none 0 0] 55 4 rfl).below hb2 (by simp); have s0 : _ = some (Value.slice none 0 0) := (bx3.c 0 (by decide)).1; have s1 : _ = some (Value.slice none 0 0) := (bx3.c 1 (by decide)).1; have s2 : _ = some (Value.slice none 0 0) := (bx3.c 2 (by decide)).1; have s3 : _ = some (Value.slice none 0 0) := (bx3.c 3 (by decide)).1; have g0 := (bx3.c 0 (by decide)).2; have g1 := (bx3.c 1 (by decide)).2; have g2 := (bx3.c 2 (by decide)).2; have g3 := (bx3.c 3 (by decide)).2; have zbx3 := bx3.lt) | skip)))
            all_goals
              go_wp2_with fail
              go_meet
              case rel => first | exact ⟨_, ⟨b0, m0, v0, b1, m1, v1, b2, m2, v2, b3, m3, v3, yi, yl, yd, yo⟩, rfl, rfl, (((bx3.set 0 (by decide) (.slice b0 m0 v0)).set 1 (by decide) (.slice b1 m1 v1)).set 2 (by decide) (.slice b2 m2 v2)).set 3 (by decide) (.slice b3 m3 v3), (hO2'.four (b := X.heap.size) (by simp) _ _ _ _).base (by simp; omega), hd2, by (with_reducible repeat (first | exact Below.refl _ _ | exact hu2 | refine nD ?_ | refine nA ?_ _ | refine nS ?_ (by first | omega | (simp; done)) _)); done⟩ | exact ⟨_, ⟨b0, m0, v0, b1, m1, v1, b2, m2, v2, b3, m3, v3, yi, yl, yd, yo⟩, rfl, rfl, boxn_new w2 #[.slice b0 m0 v0, .slice b1 m1 v1, .slice b2 m2 v2, .slice b3 m3 v3] _ 4 rfl, (hO2'.below ((Below.refl _ _).alloc (Nat.le_refl _) _)).base (by first | omega | (simp; omega)), hd2, by (with_reducible repeat (first | exact Below.refl _ _ | exact hu2 | refine nD ?_ | refine nA ?_ _ | refine nS ?_ (by first | omega | (simp; done)) _)); done⟩
          case rest =>
            obtain ⟨q2, ⟨b0, m0, v0, b1, m1, v1, b2, m2, v2, b3, m3, v3, yi, yl, yd, yo⟩, rfl, rfl, hb2x, hO2, hd2, bY⟩ := hcut
            obtain ⟨Y, eY⟩ : ∃ Y, Y = wc := ⟨_, rfl⟩
            rw [← eY] at hb2x hO2 bY ⊢
            simp only [SV.box] at hb2x
            clear eY x0 x1 x2 x3 t0 t1 e0 e1 e2 e3 e4 e5
            have hbY : Below w.heap.size w Y := hbX.trans (bY.mono hbX.size)
            have zyl := hbY.size
            have hbm := hbxX.below bY hbxX.lt
            have hbn := hbrX.below bY hbrX.lt
            have x0 := (hb2x.c 0 (by decide)).1
            have x1 := (hb2x.c 1 (by decide)).1
            have x2 := (hb2x.c 2 (by decide)).1
            have x3 := (hb2x.c 3 (by decide)).1
            have y0 := (hbm.c 0 (by decide)).1
            have y1 := (hbm.c 1 (by decide)).1
            have y2 := (hbm.c 2 (by decide)).1
            have y3 := (hbm.c 3 (by decide)).1
            have f0 := (hbm.c 0 (by decide)).2
            have f1 := (hbm.c 1 (by decide)).2
            have f2 := (hbm.c 2 (by decide)).2
            have f3 := (hbm.c 3 (by decide)).2
            simp only [List.getD_cons_zero, List.getD_cons_succ] at x0 x1 x2 x3 y0 y1 y2 y3
            have zq2 := hb2x.lt
            have zbm := hbm.lt
            by_cases hE : E = 0
            · subst hE
              have hG2 : Gd (SV.data ⟨b0, m0, v0, b1, m1, v1, b2, m2, v2, b3, m3, v3, yi, yl, yd, yo⟩) (1 + 24 * ((k + 1 : Nat) : Int)) := by rw [hd2]; exact HGd.out.1 rfl
              have hM2 : Hid (SV.data ⟨b0, m0, v0, b1, m1, v1, b2, m2, v2, b3, m3, v3, yi, yl, yd, yo⟩ = mkTo rs (k + 1)) := by show _ = _; rw [hd2]; exact HGd.out.2.1 rfl
              obtain ⟨V, hV⟩ : ∃ V : World, V = (((Y.setCell ⟨w.heap.size + 1, 0, none⟩ (.slice b0 m0 v0)).setCell ⟨w.heap.size + 1, 1, none⟩ (.slice b1 m1 v1)).setCell ⟨w.heap.size + 1, 2, none⟩ (.slice b2 m2 v2)).setCell ⟨w.heap.size + 1, 3, none⟩ (.slice b3 m3 v3) := ⟨_, rfl⟩
              have hOV : OwnStore V (w.heap.size + 2) ⟨b0, m0, v0, b1, m1, v1, b2, m2, v2, b3, m3, v3, yi, yl, yd, yo⟩ := by rw [hV]; exact hO2.four (by omega) _ _ _ _
              have bV : BoxN V (w.heap.size + 1) 4 [.slice b0 m0 v0, .slice b1 m1 v1, .slice b2 m2 v2, .slice b3 m3 v3] := by rw [hV]; exact (((hbm.set 0 (by decide) _).set 1 (by decide) _).set 2 (by decide) _).set 3 (by decide) _
              have bVn : BoxN V w.heap.size 4 SV.nil.box := by rw [hV]; exact (((hbn.far (by omega)).far (by omega)).far (by omega)).far (by omega)
              have hbV : Below w.heap.size w V := by rw [hV]; exact below_four hbY (by omega) _ _ _ _
              go_upto_region 4 with (fail)
              rw [← hV]
              clear hV x0 x1 x2 x3 y0 y1 y2 y3 f0 f1 f2 f3 zq2 zbm
              go_wp2
              go_roundw
              case rel => exact ⟨k + 1, ⟨b0, m0, v0, b1, m1, v1, b2, m2, v2, b3, m3, v3, yi, yl, yd, yo⟩, by go_num, by omega, by omega, hG2, hM2, hOV, bV, bVn, hbV⟩
              case measure => simp [intOf]; omega
            · have hOk := hOX.below bY
              have hM3 : Hid (SV.data ⟨a0, n0, u0, a1, n1, u1, a2, n2, u2, a3, n3, u3, xi, xl, xd, xo⟩ = mkTo rs (k + 1)) := HGd.out.2.2 hE
              have hGk : Gd (SV.data ⟨a0, n0, u0, a1, n1, u1, a2, n2, u2, a3, n3, u3, xi, xl, xd, xo⟩) (1 + 24 * ((k + 1 : Nat) : Int)) := hG.mono (by omega)
              go_wp2
              go_roundw
              case rel => exact ⟨k + 1, ⟨a0, n0, u0, a1, n1, u1, a2, n2, u2, a3, n3, u3, xi, xl, xd, xo⟩, by go_num, by omega, by omega, hGk, hM3, hOk, hbm, hbn, hbY⟩
              case measure => simp [intOf]; omega
        ·
          have hCall := fun w' h1 => write_own ⟨a0, n0, u0, a1, n1, u1, a2, n2, u2, a3, n3, u3, xi, xl, xd, xo⟩ (pk ra 2, 1 + pk rb 2) (pk rc 5) (pk rd 100) (pk re 5) w' h1 hwf h4
          have HGd : Hid ((writeErr ⟨a0, n0, u0, a1, n1, u1, a2, n2, u2, a3, n3, u3, xi, xl, xd, xo⟩ (pk ra 2, 1 + pk rb 2) (pk rc 5) (pk rd 100) (pk re 5) = 0 → Gd (writeData ⟨a0, n0, u0, a1, n1, u1, a2, n2, u2, a3, n3, u3, xi, xl, xd, xo⟩ (pk ra 2, 1 + pk rb 2) (pk rc 5) (pk rd 100) (pk re 5)) (1 + 24 * ((k + 1 : Nat) : Int))) ∧ (writeErr ⟨a0, n0, u0, a1, n1, u1, a2, n2, u2, a3, n3, u3, xi, xl, xd, xo⟩ (pk ra 2, 1 + pk rb 2) (pk rc 5) (pk rd 100) (pk re 5) = 0 → writeData ⟨a0, n0, u0, a1, n1, u1, a2, n2, u2, a3, n3, u3, xi, xl, xd, xo⟩ (pk ra 2, 1 + pk rb 2) (pk rc 5) (pk rd 100) (pk re 5) = mkTo rs (k + 1)) ∧ (¬ writeErr ⟨a0, n0, u0, a1, n1, u1, a2, n2, u2, a3, n3, u3, xi, xl, xd, xo⟩ (pk ra 2, 1 + pk rb 2) (pk rc 5) (pk rd 100) (pk re 5) = 0 → SV.data ⟨a0, n0, u0, a1, n1, u1, a2, n2, u2, a3, n3, u3, xi, xl, xd, xo⟩ = mkTo rs (k + 1))) := ⟨fun he => (gd_write hG hisT.out (by omega) he).mono (by omega), fun he => by rw [HStep.out, mk_write hMk.out (by omega), if_pos he], fun he => by rw [HStep.out, mk_write hMk.out (by omega), if_neg he]⟩
          obtain ⟨E, eE⟩ : ∃ E, E = writeErr ⟨a0, n0, u0, a1, n1, u1, a2, n2, u2, a3, n3, u3, xi, xl, xd, xo⟩ (pk ra 2, 1 + pk rb 2) (pk rc 5) (pk rd 100) (pk re 5) := ⟨_, rfl⟩
          obtain ⟨D, eD⟩ : ∃ D, D = writeData ⟨a0, n0, u0, a1, n1, u1, a2, n2, u2, a3, n3, u3, xi, xl, xd, xo⟩ (pk ra 2, 1 + pk rb 2) (pk rc 5) (pk rd 100) (pk re 5) := ⟨_, rfl⟩
          rw [← eE, ← eD] at HGd
          simp only [← eE, ← eD, SV.val] at hCall
          clear eE eD
          go_upto_region 18 with ((go_at_call 13; refine (picked_any _ _ _ (by assumption) (by decide) (by decide)).mono ?_; rintro e u ⟨rfl, hu⟩; rw [hu]; clear hu; (try rw [hZ]); (try rw [hY])))
          go_cut [13, 14] (fun sp se wc => ∃ (q2 : Nat) (r2 : SV), sp = .pointer (some ⟨q2, 0, none⟩) ∧ se = .int .i64 E ∧ BoxN wc q2 4 r2.box ∧ OwnStore wc (w.heap.size + 2) r2 ∧ r2.data = D ∧ Below X.heap.size X wc)
          case first =>
            clear x0 x1 x2 x3 t0 t1 e0 e1 e2 e3 e4 e5
            go_region_held3 (fun U => U.cell? ⟨w.heap.size + 1, 0, none⟩ = some (.slice a0 n0 u0) ∧ U.cell? ⟨w.heap.size + 1, 1, none⟩ = some (.slice a1 n1 u1) ∧ U.cell? ⟨w.heap.size + 1, 2, none⟩ = some (.slice a2 n2 u2) ∧ U.cell? ⟨w.heap.size + 1, 3, none⟩ = some (.slice a3 n3 u3) ∧ U.cell? ⟨q, 0, none⟩ = some (.int .i64 (pk ra 2)) ∧ U.cell? ⟨q, 1, none⟩ = some (.int .i64 (1 + pk rb 2)) ∧ U.cell? ⟨b, off + k * 6 + 4, none⟩ = some (.int .i64 rd) ∧ U.cell? ⟨b, off + k * 6 + 5, none⟩ = some (.int .i64 re))
              (exact KX.out _ (by (with_reducible repeat (first | exact Below.refl _ _ | exact hu2 | refine nD ?_ | refine nA ?_ _ | refine nS ?_ (by first | omega | (simp; done)) _)); done))
              (first | (go_at_call 13; refine (picked_any _ _ _ (by assumption) (by decide) (by decide)).mono ?_; rintro e u ⟨rfl, hu⟩; rw [hu]; clear hu; (try rw [hZ]); (try rw [hY])) | (go_at_call 35; refine (hCall _ (HSX.out _ (by (with_reducible repeat (first | exact Below.refl _ _ | exact hu2 | refine nD ?_ | refine nA ?_ _ | refine nS ?_ (by first | omega | (simp; done)) _)); done))).mono ?_; rintro e w2 ⟨⟨b0, m0, v0, b1, m1, v1, b2, m2, v2, b3, m3, v3, yi, yl, yd, yo⟩, rfl, hO2', hd2, hb2⟩; simp only []; have hu2 : Below X.heap.size X w2 := nT (by (with_reducible repeat (first | exact Below.refl _ _ | exact hu2 | refine nD ?_ | refine nA ?_ _ | refine nS ?_ (by first | omega | (simp; done)) _)); done) hb2; have zu2 := hu2.size; (first | (have bx3 : BoxN w2 X.heap.size 4 [.slice none 0 0, .slice none 0 0, .slice none 0 0, .slice none 0 0] := (boxn_new X.drew #[.slice none 0 0, .slice none 0 0, .slice none 0 0, .slice none 0 0] 55 4 rfl).below hb2 (by simp); have s0 : _ = some (Value.slice none 0 0) := (bx3.c 0 (by decide)).1; have s1 : _ = some (Value.slice none 0 0) := (bx3.c 1 (by decide)).1; have s2 : _ = some (Value.slice none 0 0) := (bx3.c 2 (by decide)).1; have s3 : _ = some (Value.slice none 0 0) := (bx3.c 3 (by decide)).1; have g0 := (bx3.c 0 (by decide)).2; have g1 := (bx3.c 1 (by decide)).2; have g2 := (bx3.c 2 (by decide)).2; have g3 := (bx3.c 3 (by decide)).2; have zbx3 := bx3.lt) | skip)))
            all_goals
              go_wp2_with fail
              go_meet
              case rel => first | exact ⟨_, ⟨b0, m0, v0, b1, m1, v1, b2, m2, v2, b3, m3, v3, yi, yl, yd, yo⟩, rfl, rfl, (((bx3.set 0 (by decide) (.slice b0 m0 v0)).set 1 (by decide) (.slice b1 m1 v1)).set 2 (by decide) (.slice b2 m2 v2)).set 3 (by decide) (.slice b3 m3 v3), (hO2'.four (b := X.heap.size) (by simp) _ _ _ _).base (by simp; omega), hd2, by (with_reducible repeat (first | exact Below.refl _ _ | exact hu2 | refine nD ?_ | refine nA ?_ _ | refine nS ?_ (by first | omega | (simp; done)) _)); done⟩ | exact ⟨_, ⟨b0, m0, v0, b1, m1, v1, b2, m2, v2, b3, m3, v3, yi, yl, yd, yo⟩, rfl, rfl, boxn_new w2 #[.slice b0 m0 v0, .slice b1 m1 v1, .slice b2 m2 v2, .slice b3 m3 v3] _ 4 rfl, (hO2'.below ((Below.refl _ _).alloc (Nat.le_refl _) _)).base (by first | omega | (simp; omega)), hd2, by (with_reducible repeat (first | exact Below.refl _ _ | exact hu2 | refine nD ?_ | refine nA ?_ _ | refine nS ?_ (by first | omega | (simp; done)) _)); done⟩
          case rest =>
            obtain ⟨q2, ⟨b0, m0, v0, b1, m1, v1, b2, m2, v2, b3, m3, v3, yi, yl, yd, yo⟩, rfl, rfl, hb2x, hO2, hd2, bY⟩ := hcut
            obtain ⟨Y, eY⟩ : ∃ Y, Y = wc := ⟨_, rfl⟩
            rw [← eY] at hb2x hO2 bY ⊢
            simp only [SV.box] at hb2x
            clear eY x0 x1 x2 x3 t0 t1 e0 e1 e2 e3 e4 e5
            have hbY : Below w.heap.size w Y := hbX.trans (bY.mono hbX.size)
            have zyl := hbY.size
            have hbm := hbxX.below bY hbxX.lt
            have hbn := hbrX.below bY hbrX.lt
            have x0 := (hb2x.c 0 (by decide)).1
            have x1 := (hb2x.c 1 (by decide)).1
            have x2 := (hb2x.c 2 (by decide)).1
            have x3 := (hb2x.c 3 (by decide)).1
            have y0 := (hbm.c 0 (by decide)).1
            have y1 := (hbm.c 1 (by decide)).1
            have y2 := (hbm.c 2 (by decide)).1
            have y3 := (hbm.c 3 (by decide)).1
            have f0 := (hbm.c 0 (by decide)).2
            have f1 := (hbm.c 1 (by decide)).2
            have f2 := (hbm.c 2 (by decide)).2
            have f3 := (hbm.c 3 (by decide)).2
            simp only [List.getD_cons_zero, List.getD_cons_succ] at x0 x1 x2 x3 y0 y1 y2 y3
            have zq2 := hb2x.lt
            have zbm := hbm.lt
            by_cases hE : E = 0
            · subst hE
              have hG2 : Gd (SV.data ⟨b0, m0, v0, b1, m1, v1, b2, m2, v2, b3, m3, v3, yi, yl, yd, yo⟩) (1 + 24 * ((k + 1 : Nat) : Int)) := by rw [hd2]; exact HGd.out.1 rfl
              have hM2 : Hid (SV.data ⟨b0, m0, v0, b1, m1, v1, b2, m2, v2, b3, m3, v3, yi, yl, yd, yo⟩ = mkTo rs (k + 1)) := by show _ = _; rw [hd2]; exact HGd.out.2.1 rfl
              obtain ⟨V, hV⟩ : ∃ V : World, V = (((Y.setCell ⟨w.heap.size + 1, 0, none⟩ (.slice b0 m0 v0)).setCell ⟨w.heap.size + 1, 1, none⟩ (.slice b1 m1 v1)).setCell ⟨w.heap.size + 1, 2, none⟩ (.slice b2 m2 v2)).setCell ⟨w.heap.size + 1, 3, none⟩ (.slice b3 m3 v3) := ⟨_, rfl⟩
              have hOV : OwnStore V (w.heap.size + 2) ⟨b0, m0, v0, b1, m1, v1, b2, m2, v2, b3, m3, v3, yi, yl, yd, yo⟩ := by rw [hV]; exact hO2.four (by omega) _ _ _ _
              have bV : BoxN V (w.heap.size + 1) 4 [.slice b0 m0 v0, .slice b1 m1 v1, .slice b2 m2 v2, .slice b3 m3 v3] := by rw [hV]; exact (((hbm.set 0 (by decide) _).set 1 (by decide) _).set 2 (by decide) _).set 3 (by decide) _
              have bVn : BoxN V w.heap.size 4 SV.nil.box := by rw [hV]; exact (((hbn.far (by omega)).far (by omega)).far (by omega)).far (by omega)
              have hbV : Below w.heap.size w V := by rw [hV]; exact below_four hbY (by omega) _ _ _ _
              go_upto_region 4 with (fail)
              rw [← hV]
              clear hV x0 x1 x2 x3 y0 y1 y2 y3 f0 f1 f2 f3 zq2 zbm
              go_wp2
              go_roundw
              case rel => exact ⟨k + 1, ⟨b0, m0, v0, b1, m1, v1, b2, m2, v2, b3, m3, v3, yi, yl, yd, yo⟩, by go_num, by omega, by omega, hG2, hM2, hOV, bV, bVn, hbV⟩
              case measure => simp [intOf]; omega
            · have hOk := hOX.below bY
              have hM3 : Hid (SV.data ⟨a0, n0, u0, a1, n1, u1, a2, n2, u2, a3, n3, u3, xi, xl, xd, xo⟩ = mkTo rs (k + 1)) := HGd.out.2.2 hE
              have hGk : Gd (SV.data ⟨a0, n0, u0, a1, n1, u1, a2, n2, u2, a3, n3, u3, xi, xl, xd, xo⟩) (1 + 24 * ((k + 1 : Nat) : Int)) := hG.mono (by omega)
              go_wp2
              go_roundw
              case rel => exact ⟨k + 1, ⟨a0, n0, u0, a1, n1, u1, a2, n2, u2, a3, n3, u3, xi, xl, xd, xo⟩, by go_num, by omega, by omega, hGk, hM3, hOk, hbm, hbn, hbY⟩
              case measure => simp [intOf]; omega
        ·
          have hY2 : pk rd 2 = 0 ∨ pk rd 2 = 1 := by have := pk_bd rd 2 (by decide); omega
          rcases hY2 with hY | hY
          ·
            have hCall := fun w' h1 => end_own ⟨a0, n0, u0, a1, n1, u1, a2, n2, u2, a3, n3, u3, xi, xl, xd, xo⟩ (pk ra 2, 1 + pk rb 2) false w' h1 hwf h4
            have HGd : Hid ((endErr ⟨a0, n0, u0, a1, n1, u1, a2, n2, u2, a3, n3, u3, xi, xl, xd, xo⟩ (pk ra 2, 1 + pk rb 2) false = 0 → Gd (endData ⟨a0, n0, u0, a1, n1, u1, a2, n2, u2, a3, n3, u3, xi, xl, xd, xo⟩ (pk ra 2, 1 + pk rb 2) false) (1 + 24 * ((k + 1 : Nat) : Int))) ∧ (endErr ⟨a0, n0, u0, a1, n1, u1, a2, n2, u2, a3, n3, u3, xi, xl, xd, xo⟩ (pk ra 2, 1 + pk rb 2) false = 0 → endData ⟨a0, n0, u0, a1, n1, u1, a2, n2, u2, a3, n3, u3, xi, xl, xd, xo⟩ (pk ra 2, 1 + pk rb 2) false = mkTo rs (k + 1)) ∧ (¬ endErr ⟨a0, n0, u0, a1, n1, u1, a2, n2, u2, a3, n3, u3, xi, xl, xd, xo⟩ (pk ra 2, 1 + pk rb 2) false = 0 → SV.data ⟨a0, n0, u0, a1, n1, u1, a2, n2, u2, a3, n3, u3, xi, xl, xd, xo⟩ = mkTo rs (k + 1))) := ⟨fun he => (gd_end hG (by omega) (by omega) hisT.out he).mono (by omega), fun he => by rw [HStep.out, mk_end hMk.out (by omega) false (by rw [hY]; rfl), if_pos he], fun he => by rw [HStep.out, mk_end hMk.out (by omega) false (by rw [hY]; rfl), if_neg he]⟩
            obtain ⟨E, eE⟩ : ∃ E, E = endErr ⟨a0, n0, u0, a1, n1, u1, a2, n2, u2, a3, n3, u3, xi, xl, xd, xo⟩ (pk ra 2, 1 + pk rb 2) false := ⟨_, rfl⟩
            obtain ⟨D, eD⟩ : ∃ D, D = endData ⟨a0, n0, u0, a1, n1, u1, a2, n2, u2, a3, n3, u3, xi, xl, xd, xo⟩ (pk ra 2, 1 + pk rb 2) false := ⟨_, rfl⟩
            rw [← eE, ← eD] at HGd
            simp only [← eE, ← eD, SV.val] at hCall
            clear eE eD
            go_upto_region 8 with ((go_at_call 13; refine (picked_any _ _ _ (by assumption) (by decide) (by decide)).mono ?_; rintro e u ⟨rfl, hu⟩; rw [hu]; clear hu; (try rw [hZ]); (try rw [hY])))
            go_cut [15, 16] (fun sp se wc => ∃ (q2 : Nat) (r2 : SV), sp = .pointer (some ⟨q2, 0, none⟩) ∧ se = .int .i64 E ∧ BoxN wc q2 4 r2.box ∧ OwnStore wc (w.heap.size + 2) r2 ∧ r2.data = D ∧ Below X.heap.size X wc)
            case first =>
              clear x0 x1 x2 x3 t0 t1 e0 e1 e2 e3 e4 e5
              go_region_held3 (fun U => U.cell? ⟨w.heap.size + 1, 0, none⟩ = some (.slice a0 n0 u0) ∧ U.cell? ⟨w.heap.size + 1, 1, none⟩ = some (.slice a1 n1 u1) ∧ U.cell? ⟨w.heap.size + 1, 2, none⟩ = some (.slice a2 n2 u2) ∧ U.cell? ⟨w.heap.size + 1, 3, none⟩ = some (.slice a3 n3 u3) ∧ U.cell? ⟨q, 0, none⟩ = some (.int .i64 (pk ra 2)) ∧ U.cell? ⟨q, 1, none⟩ = some (.int .i64 (1 + pk rb 2)) ∧ U.cell? ⟨b, off + k * 6 + 4, none⟩ = some (.int .i64 rd) ∧ U.cell? ⟨b, off + k * 6 + 5, none⟩ = some (.int .i64 re))
                (exact KX.out _ (by (with_reducible repeat (first | exact Below.refl _ _ | exact hu2 | refine nD ?_ | refine nA ?_ _ | refine nS ?_ (by first | omega | (simp; done)) _)); done))
                (first | (go_at_call 13; refine (picked_any _ _ _ (by assumption) (by decide) (by decide)).mono ?_; rintro e u ⟨rfl, hu⟩; rw [hu]; clear hu; (try rw [hZ]); (try rw [hY])) | (go_at_call 36; refine (hCall _ (HSX.out _ (by (with_reducible repeat (first | exact Below.refl _ _ | exact hu2 | refine nD ?_ | refine nA ?_ _ | refine nS ?_ (by first | omega | (simp; done)) _)); done))).mono ?_; rintro e w2 ⟨⟨b0, m0, v0, b1, m1, v1, b2, m2, v2, b3, m3, v3, yi, yl, yd, yo⟩, rfl, hO2', hd2, hb2⟩; simp only []; have hu2 : Below X.heap.size X w2 := nT (by (with_reducible repeat (first | exact Below.refl _ _ | exact hu2 | refine nD ?_ | refine nA ?_ _ | refine nS ?_ (by first | omega | (simp; done)) _)); done) hb2; have zu2 := hu2.size; (first | (have bx3 : BoxN w2 X.heap.size 4 [.slice none 0 0, .slice none 0 0, .slice none 0 0, .slice none 0 0] := (boxn_new X.drew #[.slice none 0 0, .slice none 0 0, .slice none 0 0, .slice none 0 0] 55 4 rfl).below hb2 (by simp); have s0 : _ = some (Value.slice none 0 0) := (bx3.c 0 (by decide)).1; have s1 : _ = some (Value.slice none 0 0) := (bx3.c 1 (by decide)).1; have s2 : _ = some (Value.slice none 0 0) := (bx3.c 2 (by decide)).1; have s3 : _ = some (Value.slice none 0 0) := (bx3.c 3 (by decide)).1; have g0 := (bx3.c 0 (by decide)).2; have g1 := (bx3.c 1 (by decide)).2; have g2 := (bx3.c 2 (by decide)).2; have g3 := (bx3.c 3 (by decide)).2; have zbx3 := bx3.lt) | skip)))
              all_goals
                go_wp2_with fail
                go_meet
                case rel => first | exact ⟨_, ⟨b0, m0, v0, b1, m1, v1, b2, m2, v2, b3, m3, v3, yi, yl, yd, yo⟩, rfl, rfl, (((bx3.set 0 (by decide) (.slice b0 m0 v0)).set 1 (by decide) (.slice b1 m1 v1)).set 2 (by decide) (.slice b2 m2 v2)).set 3 (by decide) (.slice b3 m3 v3), (hO2'.four (b := X.heap.size) (by simp) _ _ _ _).base (by simp; omega), hd2, by (with_reducible repeat (first | exact Below.refl _ _ | exact hu2 | refine nD ?_ | refine nA ?_ _ | refine nS ?_ (by first | omega | (simp; done)) _)); done⟩ | exact ⟨_, ⟨b0, m0, v0, b1, m1, v1, b2, m2, v2, b3, m3, v3, yi, yl, yd, yo⟩, rfl, rfl, boxn_new w2 #[.slice b0 m0 v0, .slice b1 m1 v1, .slice b2 m2 v2, .slice b3 m3 v3] _ 4 rfl, (hO2'.below ((Below.refl _ _).alloc (Nat.le_refl _) _)).base (by first | omega | (simp; omega)), hd2, by (with_reducible repeat (first | exact Below.refl _ _ | exact hu2 | refine nD ?_ | refine nA ?_ _ | refine nS ?_ (by first | omega | (simp; done)) _)); done⟩
            case rest =>
              obtain ⟨q2, ⟨b0, m0, v0, b1, m1, v1, b2, m2, v2, b3, m3, v3, yi, yl, yd, yo⟩, rfl, rfl, hb2x, hO2, hd2, bY⟩ := hcut
              obtain ⟨Y, eY⟩ : ∃ Y, Y = wc := ⟨_, rfl⟩
              rw [← eY] at hb2x hO2 bY ⊢
              simp only [SV.box] at hb2x
              clear eY x0 x1 x2 x3 t0 t1 e0 e1 e2 e3 e4 e5
              have hbY : Below w.heap.size w Y := hbX.trans (bY.mono hbX.size)
              have zyl := hbY.size
              have hbm := hbxX.below bY hbxX.lt
              have hbn := hbrX.below bY hbrX.lt
              have x0 := (hb2x.c 0 (by decide)).1
              have x1 := (hb2x.c 1 (by decide)).1
              have x2 := (hb2x.c 2 (by decide)).1
              have x3 := (hb2x.c 3 (by decide)).1
              have y0 := (hbm.c 0 (by decide)).1
              have y1 := (hbm.c 1 (by decide)).1
              have y2 := (hbm.c 2 (by decide)).1
              have y3 := (hbm.c 3 (by decide)).1
              have f0 := (hbm.c 0 (by decide)).2
              have f1 := (hbm.c 1 (by decide)).2
              have f2 := (hbm.c 2 (by decide)).2
              have f3 := (hbm.c 3 (by decide)).2
              simp only [List.getD_cons_zero, List.getD_cons_succ] at x0 x1 x2 x3 y0 y1 y2 y3
              have zq2 := hb2x.lt
              have zbm := hbm.lt
              by_cases hE : E = 0
              · subst hE
                have hG2 : Gd (SV.data ⟨b0, m0, v0, b1, m1, v1, b2, m2, v2, b3, m3, v3, yi, yl, yd, yo⟩) (1 + 24 * ((k + 1 : Nat) : Int)) := by rw [hd2]; exact HGd.out.1 rfl
                have hM2 : Hid (SV.data ⟨b0, m0, v0, b1, m1, v1, b2, m2, v2, b3, m3, v3, yi, yl, yd, yo⟩ = mkTo rs (k + 1)) := by show _ = _; rw [hd2]; exact HGd.out.2.1 rfl
                obtain ⟨V, hV⟩ : ∃ V : World, V = (((Y.setCell ⟨w.heap.size + 1, 0, none⟩ (.slice b0 m0 v0)).setCell ⟨w.heap.size + 1, 1, none⟩ (.slice b1 m1 v1)).setCell ⟨w.heap.size + 1, 2, none⟩ (.slice b2 m2 v2)).setCell ⟨w.heap.size + 1, 3, none⟩ (.slice b3 m3 v3) := ⟨_, rfl⟩
                have hOV : OwnStore V (w.heap.size + 2) ⟨b0, m0, v0, b1, m1, v1, b2, m2, v2, b3, m3, v3, yi, yl, yd, yo⟩ := by rw [hV]; exact hO2.four (by omega) _ _ _ _
                have bV : BoxN V (w.heap.size + 1) 4 [.slice b0 m0 v0, .slice b1 m1 v1, .slice b2 m2 v2, .slice b3 m3 v3] := by rw [hV]; exact (((hbm.set 0 (by decide) _).set 1 (by decide) _).set 2 (by decide) _).set 3 (by decide) _
                have bVn : BoxN V w.heap.size 4 SV.nil.box := by rw [hV]; exact (((hbn.far (by omega)).far (by omega)).far (by omega)).far (by omega)
                have hbV : Below w.heap.size w V := by rw [hV]; exact below_four hbY (by omega) _ _ _ _
                go_upto_region 4 with (fail)
                rw [← hV]
                clear hV x0 x1 x2 x3 y0 y1 y2 y3 f0 f1 f2 f3 zq2 zbm
                go_wp2
                go_roundw
                case rel => exact ⟨k + 1, ⟨b0, m0, v0, b1, m1, v1, b2, m2, v2, b3, m3, v3, yi, yl, yd, yo⟩, by go_num, by omega, by omega, hG2, hM2, hOV, bV, bVn, hbV⟩
                case measure => simp [intOf]; omega
              · have hOk := hOX.below bY
                have hM3 : Hid (SV.data ⟨a0, n0, u0, a1, n1, u1, a2, n2, u2, a3, n3, u3, xi, xl, xd, xo⟩ = mkTo rs (k + 1)) := HGd.out.2.2 hE
                have hGk : Gd (SV.data ⟨a0, n0, u0, a1, n1, u1, a2, n2, u2, a3, n3, u3, xi, xl, xd, xo⟩) (1 + 24 * ((k + 1 : Nat) : Int)) := hG.mono (by omega)
                go_wp2
                go_roundw
                case rel => exact ⟨k + 1, ⟨a0, n0, u0, a1, n1, u1, a2, n2, u2, a3, n3, u3, xi, xl, xd, xo⟩, by go_num, by omega, by omega, hGk, hM3, hOk, hbm, hbn, hbY⟩
                case measure => simp [intOf]; omega
          ·
            have hCall := fun w' h1 => end_own ⟨a0, n0, u0, a1, n1, u1, a2, n2, u2, a3, n3, u3, xi, xl, xd, xo⟩ (pk ra 2, 1 + pk rb 2) true w' h1 hwf h4
            have HGd : Hid ((endErr ⟨a0, n0, u0, a1, n1, u1, a2, n2, u2, a3, n3, u3, xi, xl, xd, xo⟩ (pk ra 2, 1 + pk rb 2) true = 0 → Gd (endData ⟨a0, n0, u0, a1, n1, u1, a2, n2, u2, a3, n3, u3, xi, xl, xd, xo⟩ (pk ra 2, 1 + pk rb 2) true) (1 + 24 * ((k + 1 : Nat) : Int))) ∧ (endErr ⟨a0, n0, u0, a1, n1, u1, a2, n2, u2, a3, n3, u3, xi, xl, xd, xo⟩ (pk ra 2, 1 + pk rb 2) true = 0 → endData ⟨a0, n0, u0, a1, n1, u1, a2, n2, u2, a3, n3, u3, xi, xl, xd, xo⟩ (pk ra 2, 1 + pk rb 2) true = mkTo rs (k + 1)) ∧ (¬ endErr ⟨a0, n0, u0, a1, n1, u1, a2, n2, u2, a3, n3, u3, xi, xl, xd, xo⟩ (pk ra 2, 1 + pk rb 2) true = 0 → SV.data ⟨a0, n0, u0, a1, n1, u1, a2, n2, u2, a3, n3, u3, xi, xl, xd, xo⟩ = mkTo rs (k + 1))) := ⟨fun he => (gd_end hG (by omega) (by omega) hisT.out he).mono (by omega), fun he => by rw [HStep.out, mk_end hMk.out (by omega) true (by rw [hY]; rfl), if_pos he], fun he => by rw [HStep.out, mk_end hMk.out (by omega) true (by rw [hY]; rfl), if_neg he]⟩
            obtain ⟨E, eE⟩ : ∃ E, E = endErr ⟨a0, n0, u0, a1, n1, u1, a2, n2, u2, a3, n3, u3, xi, xl, xd, xo⟩ (pk ra 2, 1 + pk rb 2) true := ⟨_, rfl⟩
            obtain ⟨D, eD⟩ : ∃ D, D = endData ⟨a0, n0, u0, a1, n1, u1, a2, n2, u2, a3, n3, u3, xi, xl, xd, xo⟩ (pk ra 2, 1 + pk rb 2) true := ⟨_, rfl⟩
            rw [← eE, ← eD] at HGd
            simp only [← eE, ← eD, SV.val] at hCall
            clear eE eD
            go_upto_region 8 with ((go_at_call 13; refine (picked_any _ _ _ (by assumption) (by decide) (by decide)).mono ?_; rintro e u ⟨rfl, hu⟩; rw [hu]; clear hu; (try rw [hZ]); (try rw [hY])))
            go_cut [15, 16] (fun sp se wc => ∃ (q2 : Nat) (r2 : SV), sp = .pointer (some ⟨q2, 0, none⟩) ∧ se = .int .i64 E ∧ BoxN wc q2 4 r2.box ∧ OwnStore wc (w.heap.size + 2) r2 ∧ r2.data = D ∧ Below X.heap.size X wc)
            case first =>
              clear x0 x1 x2 x3 t0 t1 e0 e1 e2 e3 e4 e5
              go_region_held3 (fun U => U.cell? ⟨w.heap.size + 1, 0, none⟩ = some (.slice a0 n0 u0) ∧ U.cell? ⟨w.heap.size + 1, 1, none⟩ = some (.slice a1 n1 u1) ∧ U.cell? ⟨w.heap.size + 1, 2, none⟩ = some (.slice a2 n2 u2) ∧ U.cell? ⟨w.heap.size + 1, 3, none⟩ = some (.slice a3 n3 u3) ∧ U.cell? ⟨q, 0, none⟩ = some (.int .i64 (pk ra 2)) ∧ U.cell? ⟨q, 1, none⟩ = some (.int .i64 (1 + pk rb 2)) ∧ U.cell? ⟨b, off + k * 6 + 4, none⟩ = some (.int .i64 rd) ∧ U.cell? ⟨b, off + k * 6 + 5, none⟩ = some (.int .i64 re))
                (exact KX.out _ (by (with_reducible repeat (first | exact Below.refl _ _ | exact hu2 | refine nD ?_ | refine nA ?_ _ | refine nS ?_ (by first | omega | (simp; done)) _)); done))
                (first | (go_at_call 13; refine (picked_any _ _ _ (by assumption) (by decide) (by decide)).mono ?_; rintro e u ⟨rfl, hu⟩; rw [hu]; clear hu; (try rw [hZ]); (try rw [hY])) | (go_at_call 36; refine (hCall _ (HSX.out _ (by (with_reducible repeat (first | exact Below.refl _ _ | exact hu2 | refine nD ?_ | refine nA ?_ _ | refine nS ?_ (by first | omega | (simp; done)) _)); done))).mono ?_; rintro e w2 ⟨⟨b0, m0, v0, b1, m1, v1, b2, m2, v2, b3, m3, v3, yi, yl, yd, yo⟩, rfl, hO2', hd2, hb2⟩; simp only []; have hu2 : Below X.heap.size X w2 := nT (by (with_reducible repeat (first | exact Below.refl _ _ | exact hu2 | refine nD ?_ | refine nA ?_ _ | refine nS ?_ (by first | omega | (simp; done)) _)); done) hb2; have zu2 := hu2.size; (first | (have bx3 : BoxN w2 X.heap.size 4 [.slice none 0 0, .slice none 0 0, .slice none 0 0, .slice none 0 0] := (boxn_new X.drew #[.slice none 0 0, .slice none 0 0, .slice none 0 0, .slice none 0 0] 55 4 rfl).below hb2 (by simp); have s0 : _ = some (Value.slice none 0 0) := (bx3.c 0 (by decide)).1; have s1 : _ = some (Value.slice none 0 0) := (bx3.c 1 (by decide)).1; have s2 : _ = some (Value.slice none 0 0) := (bx3.c 2 (by decide)).1; have s3 : _ = some (Value.slice none 0 0) := (bx3.c 3 (by decide)).1; have g0 := (bx3.c 0 (by decide)).2; have g1 := (bx3.c 1 (by decide)).2; have g2 := (bx3.c 2 (by decide)).2; have g3 := (bx3.c 3 (by decide)).2; have zbx3 := bx3.lt) | skip)))
              all_goals
                go_wp2_with fail
                go_meet
                case rel => first | exact ⟨_, ⟨b0, m0, v0, b1, m1, v1, b2, m2, v2, b3, m3, v3, yi, yl, yd, yo⟩, rfl, rfl, (((bx3.set 0 (by decide) (.slice b0 m0 v0)).set 1 (by decide) (.slice b1 m1 v1)).set 2 (by decide) (.slice b2 m2 v2)).set 3 (by decide) (.slice b3 m3 v3), (hO2'.four (b := X.heap.size) (by simp) _ _ _ _).base (by simp; omega), hd2, by (with_reducible repeat (first | exact Below.refl _ _ | exact hu2 | refine nD ?_ | refine nA ?_ _ | refine nS ?_ (by first | omega | (simp; done)) _)); done⟩ | exact ⟨_, ⟨b0, m0, v0, b1, m1, v1, b2, m2, v2, b3, m3, v3, yi, yl, yd, yo⟩, rfl, rfl, boxn_new w2 #[.slice b0 m0 v0, .slice b1 m1 v1, .slice b2 m2 v2, .slice b3 m3 v3] _ 4 rfl, (hO2'.below ((Below.refl _ _).alloc (Nat.le_refl _) _)).base (by first | omega | (simp; omega)), hd2, by (with_reducible repeat (first | exact Below.refl _ _ | exact hu2 | refine nD ?_ | refine nA ?_ _ | refine nS ?_ (by first | omega | (simp; done)) _)); done⟩
            case rest =>
              obtain ⟨q2, ⟨b0, m0, v0, b1, m1, v1, b2, m2, v2, b3, m3, v3, yi, yl, yd, yo⟩, rfl, rfl, hb2x, hO2, hd2, bY⟩ := hcut
              obtain ⟨Y, eY⟩ : ∃ Y, Y = wc := ⟨_, rfl⟩
              rw [← eY] at hb2x hO2 bY ⊢
              simp only [SV.box] at hb2x
              clear eY x0 x1 x2 x3 t0 t1 e0 e1 e2 e3 e4 e5
              have hbY : Below w.heap.size w Y := hbX.trans (bY.mono hbX.size)
              have zyl := hbY.size
              have hbm := hbxX.below bY hbxX.lt
              have hbn := hbrX.below bY hbrX.lt
              have x0 := (hb2x.c 0 (by decide)).1
              have x1 := (hb2x.c 1 (by decide)).1
              have x2 := (hb2x.c 2 (by decide)).1
              have x3 := (hb2x.c 3 (by decide)).1
              have y0 := (hbm.c 0 (by decide)).1
              have y1 := (hbm.c 1 (by decide)).1
              have y2 := (hbm.c 2 (by decide)).1
              have y3 := (hbm.c 3 (by decide)).1
              have f0 := (hbm.c 0 (by decide)).2
              have f1 := (hbm.c 1 (by decide)).2
              have f2 := (hbm.c 2 (by decide)).2
              have f3 := (hbm.c 3 (by decide)).2
              simp only [List.getD_cons_zero, List.getD_cons_succ] at x0 x1 x2 x3 y0 y1 y2 y3
              have zq2 := hb2x.lt
              have zbm := hbm.lt
              by_cases hE : E = 0
              · subst hE
                have hG2 : Gd (SV.data ⟨b0, m0, v0, b1, m1, v1, b2, m2, v2, b3, m3, v3, yi, yl, yd, yo⟩) (1 + 24 * ((k + 1 : Nat) : Int)) := by rw [hd2]; exact HGd.out.1 rfl
                have hM2 : Hid (SV.data ⟨b0, m0, v0, b1, m1, v1, b2, m2, v2, b3, m3, v3, yi, yl, yd, yo⟩ = mkTo rs (k + 1)) := by show _ = _; rw [hd2]; exact HGd.out.2.1 rfl
                obtain ⟨V, hV⟩ : ∃ V : World, V = (((Y.setCell ⟨w.heap.size + 1, 0, none⟩ (.slice b0 m0 v0)).setCell ⟨w.heap.size + 1, 1, none⟩ (.slice b1 m1 v1)).setCell ⟨w.heap.size + 1, 2, none⟩ (.slice b2 m2 v2)).setCell ⟨w.heap.size + 1, 3, none⟩ (.slice b3 m3 v3) := ⟨_, rfl⟩
                have hOV : OwnStore V (w.heap.size + 2) ⟨b0, m0, v0, b1, m1, v1, b2, m2, v2, b3, m3, v3, yi, yl, yd, yo⟩ := by rw [hV]; exact hO2.four (by omega) _ _ _ _
                have bV : BoxN V (w.heap.size + 1) 4 [.slice b0 m0 v0, .slice b1 m1 v1, .slice b2 m2 v2, .slice b3 m3 v3] := by rw [hV]; exact (((hbm.set 0 (by decide) _).set 1 (by decide) _).set 2 (by decide) _).set 3 (by decide) _
                have bVn : BoxN V w.heap.size 4 SV.nil.box := by rw [hV]; exact (((hbn.far (by omega)).far (by omega)).far (by omega)).far (by omega)
                have hbV : Below w.heap.size w V := by rw [hV]; exact below_four hbY (by omega) _ _ _ _
                go_upto_region 4 with (fail)
                rw [← hV]
                clear hV x0 x1 x2 x3 y0 y1 y2 y3 f0 f1 f2 f3 zq2 zbm
                go_wp2
                go_roundw
                case rel => exact ⟨k + 1, ⟨b0, m0, v0, b1, m1, v1, b2, m2, v2, b3, m3, v3, yi, yl, yd, yo⟩, by go_num, by omega, by omega, hG2, hM2, hOV, bV, bVn, hbV⟩
                case measure => simp [intOf]; omega
              · have hOk := hOX.below bY
                have hM3 : Hid (SV.data ⟨a0, n0, u0, a1, n1, u1, a2, n2, u2, a3, n3, u3, xi, xl, xd, xo⟩ = mkTo rs (k + 1)) := HGd.out.2.2 hE
                have hGk : Gd (SV.data ⟨a0, n0, u0, a1, n1, u1, a2, n2, u2, a3, n3, u3, xi, xl, xd, xo⟩) (1 + 24 * ((k + 1 : Nat) : Int)) := hG.mono (by omega)
                go_wp2
                go_roundw
                case rel => exact ⟨k + 1, ⟨a0, n0, u0, a1, n1, u1, a2, n2, u2, a3, n3, u3, xi, xl, xd, xo⟩, by go_num, by omega, by omega, hGk, hM3, hOk, hbm, hbn, hbY⟩
                case measure => simp [intOf]; omega
    · have hMfin : SV.data ⟨a0, n0, u0, a1, n1, u1, a2, n2, u2, a3, n3, u3, xi, xl, xd, xo⟩ = mkAll rs M := by
        have hl9 : rs.length = len := h.row.1
        unfold mkAll
        rw [hMk.out]
        congr 1
        by_cases hq : (k : Int) < (len : Int)
        · have hq2 : ¬ ((k : Int) < M) := fun e => hlt ⟨by omega, e⟩
          omega
        · omega
      have hfin : Gd (SV.data ⟨a0, n0, u0, a1, n1, u1, a2, n2, u2, a3, n3, u3, xi, xl, xd, xo⟩) 961 := hG.mono (by omega)
      simp only [SV.box] at hbx
      have x0 := (hbx.c 0 (by decide)).1
      have x1 := (hbx.c 1 (by decide)).1
      have x2 := (hbx.c 2 (by decide)).1
      have x3 := (hbx.c 3 (by decide)).1
      have r0 := (hbr.c 0 (by decide)).1
      have r1 := (hbr.c 1 (by decide)).1
      have r2 := (hbr.c 2 (by decide)).1
      have r3 := (hbr.c 3 (by decide)).1
      have f0 := (hbr.c 0 (by decide)).2
      have f1 := (hbr.c 1 (by decide)).2
      have f2 := (hbr.c 2 (by decide)).2
      have f3 := (hbr.c 3 (by decide)).2
      simp only [List.getD_cons_zero, List.getD_cons_succ, SV.nil, SV.box] at x0 x1 x2 x3 r0 r1 r2 r3
      have z1 := hbx.lt
      have z0 := hbr.lt
      have hkl : ¬ ((k : Int) < (len : Int)) ∨ ((k : Int) < (len : Int) ∧ ¬ ((k : Int) < M)) := by
        by_cases hq : (k : Int) < (len : Int)
        · exact .inr ⟨hq, fun e => hlt ⟨by omega, e⟩⟩
        · exact .inl hq
      rcases hkl with hq | ⟨hq, hq2⟩
      all_goals
        go_wp2
        refine bodyPost_ret (v := .agg #[.slice a0 n0 u0, .slice a1 n1 u1, .slice a2 n2 u2, .slice a3 n3 u3]) (by simp [results, Tryd.results16, go_sem, r0, r1, r2, r3]) rfl ?_
        exact ⟨⟨a0, n0, u0, a1, n1, u1, a2, n2, u2, a3, n3, u3, xi, xl, xd, xo⟩, rfl, (hO.four (b := w.heap.size) (by omega) _ _ _ _).base (by omega), hfin, hMfin, below_four hb (Nat.le_refl _) _ _ _ _⟩
end Go.Proofs.YtgohpgollpjlnaaDoor.St
/- Contracts of slices.Index and slices.Contains at labels: Contains tells whether a label is among those of a slice; what was in memory stays. -/
namespace Go.Proofs.YtgohpgollpjlnaaDoor
open Go.ChangeShapes Go.WideShapes Go.ChangeAt Go.RowKit

/-- Labels that lie in memory one behind the other. -/
def Labs (w : World) (b off : Nat) (ls : List (Int × Int)) : Prop :=
  b < w.heap.size ∧ ∀ i, i < ls.length → w.cell? ⟨b, off + i * 2, none⟩ = some (.int .i64 (ls.getD i (0, 0)).1) ∧ w.cell? ⟨b, off + i * 2 + 1, none⟩ = some (.int .i64 (ls.getD i (0, 0)).2)

theorem Labs.below {w w' : World} {b off : Nat} {ls : List (Int × Int)} (h : Labs w b off ls) (hb : Below w.heap.size w w') : Labs w' b off ls := by
  obtain ⟨hc, _⟩ := bcell hb
  refine ⟨Nat.lt_of_lt_of_le h.1 hb.size, fun i hi => ?_⟩
  rw [hc _ _ h.1, hc _ _ h.1]
  exact h.2 i hi

theorem Labs.take {w : World} {b off : Nat} {ls : List (Int × Int)} (h : Labs w b off ls) (k : Nat) : Labs w b off (ls.take k) := by
  refine ⟨h.1, fun i hi => ?_⟩
  have hi' : i < k ∧ i < ls.length := by simp at hi; omega
  have := h.2 i hi'.2
  simpa [List.getD, List.getElem?_take, hi'.1] using this

theorem not_take_succ {ls : List (Int × Int)} {k : Nat} {p : Int × Int} (hk : k < ls.length) (h : p ∉ ls.take k) (hne : ¬ (p.1 = (ls.getD k (0, 0)).1 ∧ p.2 = (ls.getD k (0, 0)).2)) : p ∉ ls.take (k + 1) := by
  rw [List.take_succ_eq_append_getElem hk]
  simp only [List.mem_append, List.mem_singleton, not_or]
  refine ⟨h, fun e => hne ?_⟩
  simp [List.getD, hk, e]

theorem mem_of_getD {ls : List (Int × Int)} {k : Nat} {p : Int × Int} (hk : k < ls.length) (h1 : p.1 = (ls.getD k (0, 0)).1) (h2 : p.2 = (ls.getD k (0, 0)).2) : p ∈ ls := by
  have : p = ls[k] := by
    simp [List.getD, hk] at h1 h2
    exact Prod.ext h1 h2
  rw [this]
  exact List.getElem_mem hk

set_option maxHeartbeats 1000000 in
theorem index_any (b off cap : Nat) (ls : List (Int × Int)) (x y : Int) (w : World) (hl : ls.length ≤ 100) (h : Labs w b off ls) :
    Calls Tryd.prog 110 #[.slice (some ⟨b, off, none⟩) ls.length cap, .agg #[.int .i64 x, .int .i64 y]] w fun e w' => ∃ r : Int, e = .returned (.int .i64 r) ∧ (0 ≤ r ↔ (x, y) ∈ ls) ∧ Below w.heap.size w w' := by
  go_enter Tryd.func110, Tryd.ntmps110
  go_wp2
  go_loopw [8] (fun i wr => ∃ k : Nat, k ≤ ls.length ∧ i = .int .i64 k ∧ (x, y) ∉ ls.take k ∧ Below (w.heap.size + 1) (w.alloc (.cells #[.int .i64 x, .int .i64 y] 80)) wr) (fun i _ => ls.length - (intOf i).toNat)
  case atStart => exact ⟨0, Nat.zero_le _, rfl, by simp, Below.refl _ _⟩
  case round =>
    obtain ⟨k, hk, rfl, hno, hb⟩ := hrel
    by_cases hlt : k < ls.length
    · have hbw : Below w.heap.size w wr := ((Below.refl _ _).alloc (Nat.le_refl _) _).trans (hb.mono (by omega))
      have hr := (h.below hbw).2 k hlt
      obtain ⟨p, hp⟩ : ∃ p, p = (ls.getD k (0, 0)).1 := ⟨_, rfl⟩
      obtain ⟨q, hq⟩ : ∃ q, q = (ls.getD k (0, 0)).2 := ⟨_, rfl⟩
      rw [← hp, ← hq] at hr
      obtain ⟨c0, c1⟩ := hr
      have c2 : wr.cell? ⟨w.heap.size, 0, none⟩ = some (.int .i64 x) := by
        rw [hb.cell (p := ⟨w.heap.size, 0, none⟩) (by simp)]; go_simp
      have c3 : wr.cell? ⟨w.heap.size, 1, none⟩ = some (.int .i64 y) := by
        rw [hb.cell (p := ⟨w.heap.size, 1, none⟩) (by simp)]; go_simp
      by_cases e1 : x = p
      · by_cases e2 : y = q
        · have hm : (x, y) ∈ ls := mem_of_getD hlt (by rw [e1, hp]) (by rw [e2, hq])
          clear hp hq
          subst e1 e2
          go_wp2
          go_quiet (fail)
          go_wp2
          go_ret
          exact ⟨k, rfl, by simp [hm], below_drewN hbw nq⟩
        · have hn := not_take_succ (p := (x, y)) hlt hno (by rw [← hp, ← hq]; simp [e2])
          have e3 : (y == q) = false := by simpa using e2
          clear hp hq
          subst e1
          go_wp2
          go_quiet (fail)
          go_wp2
          go_roundw
          case rel => exact ⟨k + 1, by omega, by go_num, hn, below_drewN hb nq⟩
          case measure => simp [intOf]; omega
      · have hn := not_take_succ (p := (x, y)) hlt hno (by rw [← hp, ← hq]; simp [e1])
        have e3 : (x == p) = false := by simpa using e1
        clear hp hq
        go_wp2
        go_quiet (fail)
        go_wp2
        go_roundw
        case rel => exact ⟨k + 1, by omega, by go_num, hn, below_drewN hb nq⟩
        case measure => simp [intOf]; omega
    · have he : k = ls.length := by omega
      subst he
      rw [List.take_length] at hno
      go_wp2
      go_ret
      exact ⟨-1, rfl, by simp [hno], ((Below.refl _ _).alloc (Nat.le_refl _) _).trans (hb.mono (by omega))⟩

theorem contains_any (b off n cap : Nat) (ls : List (Int × Int)) (x y : Int) (w : World) (hn : ls.length = n) (hl : n ≤ 100) (h : Labs w b off ls) :
    Calls Tryd.prog 80 #[.slice (some ⟨b, off, none⟩) n cap, .agg #[.int .i64 x, .int .i64 y]] w fun e w' => e = .returned (.bool (decide ((x, y) ∈ ls))) ∧ Below w.heap.size w w' := by
  subst hn
  have hA : Below w.heap.size w (w.alloc (.cells #[.int .i64 x, .int .i64 y] 80)) := (Below.refl _ _).alloc (Nat.le_refl _) _
  go_enter Tryd.func80, Tryd.ntmps80
  go_wp2_with (go_at_call 110; refine (index_any _ _ _ _ _ _ _ hl (h.below hA)).mono ?_; rintro e w1 ⟨r, rfl, hr, hb1⟩)
  go_ret
  exact ⟨rfl, hA.trans (hb1.mono (by simp))⟩
end Go.Proofs.YtgohpgollpjlnaaDoor
/- What a config's fault is, on numbers: of the sites, the labels one by one, the patience; and contracts of the two small range tests. -/
namespace Go.Proofs.YtgohpgollpjlnaaDoor
open Go.ChangeShapes Go.WideShapes Go.ChangeAt Go.RowKit

def inB (l c : Int) : Bool := decide (0 ≤ l ∧ l ≤ 9 ∧ 0 ≤ c ∧ c ≤ 15)

/-- The fault of the first label that has one: 'seen' are those ahead. -/
def labFault (seen : List (Int × Int)) : List (Int × Int) → Int
  | [] => 0
  | a :: r => if inB a.1 a.2 = false then 2 else if a ∈ seen then 7 else labFault (seen ++ [a]) r

def cfgFault (s : Int) (ls : List (Int × Int)) (p : Int) : Int :=
  if s < 1 ∨ 4 < s then 2 else if ls.length < 1 ∨ 6 < ls.length then 1 else if labFault [] ls ≠ 0 then labFault [] ls else if p < 1 ∨ 1048576 < p then 2 else 0

theorem cfg_sites {s : Int} {ls : List (Int × Int)} {p : Int} (h : s < 1 ∨ 4 < s) : cfgFault s ls p = 2 := by simp [cfgFault, h]
theorem cfg_size {s : Int} {ls : List (Int × Int)} {p : Int} (h1 : 1 ≤ s) (h2 : s ≤ 4) (h : ls.length < 1 ∨ 6 < ls.length) : cfgFault s ls p = 1 := by
  unfold cfgFault
  rw [if_neg (by omega), if_pos h]
theorem cfg_lab {s : Int} {ls : List (Int × Int)} {p : Int} {f : Int} (h1 : 1 ≤ s) (h2 : s ≤ 4) (h3 : 1 ≤ ls.length) (h4 : ls.length ≤ 6) (h : labFault [] ls = f) (hf : f ≠ 0) : cfgFault s ls p = f := by
  unfold cfgFault
  rw [if_neg (by omega), if_neg (by omega), if_pos (by rw [h]; exact hf), h]
theorem cfg_late {s : Int} {ls : List (Int × Int)} {p : Int} (h1 : 1 ≤ s) (h2 : s ≤ 4) (h3 : 1 ≤ ls.length) (h4 : ls.length ≤ 6) (h : labFault [] ls = 0) (hp : p < 1 ∨ 1048576 < p) : cfgFault s ls p = 2 := by
  unfold cfgFault
  rw [if_neg (by omega), if_neg (by omega), if_neg (by simp [h]), if_pos hp]
theorem cfg_ok {s : Int} {ls : List (Int × Int)} {p : Int} (h1 : 1 ≤ s) (h2 : s ≤ 4) (h3 : 1 ≤ ls.length) (h4 : ls.length ≤ 6) (h : labFault [] ls = 0) (p1 : 1 ≤ p) (p2 : p ≤ 1048576) : cfgFault s ls p = 0 := by
  unfold cfgFault
  rw [if_neg (by omega), if_neg (by omega), if_neg (by simp [h]), if_neg (by omega)]

theorem cfg_zero {s : Int} {ls : List (Int × Int)} {p : Int} (h : cfgFault s ls p = 0) : 1 ≤ s ∧ s ≤ 4 ∧ 1 ≤ ls.length ∧ ls.length ≤ 6 ∧ labFault [] ls = 0 ∧ 1 ≤ p ∧ p ≤ 1048576 := by
  unfold cfgFault at h
  split at h
  · simp at h
  · split at h
    · simp at h
    · split at h
      · contradiction
      · split at h
        · simp at h
        · rename_i _ _ hz _
          have : labFault [] ls = 0 := Classical.not_not.1 hz
          omega

/-- Where the labels ahead of place k have no fault: the whole's fault is that of the rest. -/
def labAt (ls : List (Int × Int)) (k : Nat) : Prop := labFault [] ls = labFault (ls.take k) (ls.drop k)

theorem labAt_zero (ls : List (Int × Int)) : labAt ls 0 := by simp [labAt]
theorem drop_here {ls : List (Int × Int)} {k : Nat} (hk : k < ls.length) : ls.drop k = ls.getD k (0, 0) :: ls.drop (k + 1) := by
  rw [List.drop_eq_getElem_cons hk]; simp [List.getD, hk]
theorem take_here {ls : List (Int × Int)} {k : Nat} (hk : k < ls.length) : ls.take (k + 1) = ls.take k ++ [ls.getD k (0, 0)] := by
  rw [List.take_succ_eq_append_getElem hk]; simp [List.getD, hk]
theorem labAt_range {ls : List (Int × Int)} {k : Nat} (hk : k < ls.length) (h : labAt ls k) (hb : inB (ls.getD k (0, 0)).1 (ls.getD k (0, 0)).2 = false) : labFault [] ls = 2 := by
  rw [h, drop_here hk, labFault, if_pos hb]
theorem labAt_twice {ls : List (Int × Int)} {k : Nat} (hk : k < ls.length) (h : labAt ls k) (hb : inB (ls.getD k (0, 0)).1 (ls.getD k (0, 0)).2 = true) (hm : ls.getD k (0, 0) ∈ ls.take k) : labFault [] ls = 7 := by
  rw [h, drop_here hk, labFault, if_neg (by rw [hb]; simp), if_pos hm]
theorem labAt_succ {ls : List (Int × Int)} {k : Nat} (hk : k < ls.length) (h : labAt ls k) (hb : inB (ls.getD k (0, 0)).1 (ls.getD k (0, 0)).2 = true) (hm : ls.getD k (0, 0) ∉ ls.take k) : labAt ls (k + 1) := by
  unfold labAt
  rw [h, drop_here hk, labFault, if_neg (by rw [hb]; simp), if_neg hm, take_here hk]
theorem labAt_end {ls : List (Int × Int)} (h : labAt ls ls.length) : labFault [] ls = 0 := by
  rw [h, List.drop_length]; rfl

def inR (n lo hi : Int) : Bool := decide (lo ≤ n ∧ n ≤ hi)
theorem inR_true {n lo hi : Int} (h1 : lo ≤ n) (h2 : n ≤ hi) : inR n lo hi = true := by simp [inR, h1, h2]
theorem inR_false {n lo hi : Int} (h : n < lo ∨ hi < n) : inR n lo hi = false := by simp [inR]; omega
theorem inR_of {n lo hi : Int} (h : inR n lo hi = true) : lo ≤ n ∧ n ≤ hi := by simpa [inR] using h
theorem inR_not {n lo hi : Int} (h : inR n lo hi = false) : n < lo ∨ hi < n := by simp [inR] at h; omega

theorem within_any (n lo hi : Int) (w : World) :
    Calls Tryd.prog 78 #[.int .i64 n, .int .i64 lo, .int .i64 hi] w fun e w' => e = .returned (.bool (inR n lo hi)) ∧ w' = w := by
  go_enter Tryd.func78, Tryd.ntmps78
  go_wp2
  all_goals go_ret
  all_goals exact ⟨ret_bool (by unfold inR; rw [Bool.eq_iff_iff]; simp; omega), rfl⟩

theorem inB_of (x y : Int) : inB x y = (inR x 0 9 && inR y 0 15) := by
  unfold inB inR
  rw [Bool.eq_iff_iff]
  simp
  omega

theorem inBounds_any (l c : Int) (w : World) :
    Calls Tryd.prog 79 #[.agg #[.int .i64 l, .int .i64 c]] w fun e w' => e = .returned (.bool (inB l c)) ∧ Below w.heap.size w w' := by
  have hA : Below w.heap.size w (w.alloc (.cells #[.int .i64 l, .int .i64 c] 80)) := (Below.refl _ _).alloc (Nat.le_refl _) _
  rw [inB_of]
  cases h1 : inR l 0 9 with
  | false =>
    go_enter Tryd.func79, Tryd.ntmps79
    go_wp2_with (go_at_call 78; refine (within_any _ _ _ _).mono ?_; rintro e w1 ⟨rfl, hu1⟩; rw [hu1]; clear hu1)
    go_ret
    exact ⟨rfl, hA⟩
  | true =>
    go_enter Tryd.func79, Tryd.ntmps79
    go_wp2_with (go_at_call 78; refine (within_any _ _ _ _).mono ?_; rintro e w1 ⟨rfl, hu1⟩; rw [hu1]; clear hu1)
    go_ret
    exact ⟨by simp, hA⟩
end Go.Proofs.YtgohpgollpjlnaaDoor
