/- Texts of this claim, one behind the other. -/
import Derived.Test.YtgohpgollpjlnaaDoorM26ShowList
import Derived.Test.YtgohpgollpjlnaaDoorA4ShowList
import Derived.Test.YtgohpgollpjlnaaDoorM27ShowList
import Derived.Deep.Cut
import Derived.Deep.RegionHeld3
import Derived.Test.YtgohpgollpjlnaaDoorM12ShowList
import Derived.Test.YtgohpgollpjlnaaDoorM7ShowList
import Derived.Test.YtgohpgollpjlnaaDoorRows
import Derived.JoinedOf
import Derived.KernelRfl
/- The contract of reredoskeep.Store: what transactions do, one by one, leaves a store that may be. -/
namespace Go.Proofs.YtgohpgollpjlnaaDoor.St
open Go.ChangeShapes Go.WideShapes Go.ChangeAt Go.RowKit
set_option linter.unusedVariables false

theorem nS {W V : World} (h : Below W.heap.size W V) {b i : Nat} (hb : W.heap.size ≤ b) (v : Value) : Below W.heap.size W (V.setCell ⟨b, i, none⟩ v) := h.setCell (p := ⟨b, i, none⟩) hb v
theorem nT {W V U : World} (h : Below W.heap.size W V) (h2 : Below V.heap.size V U) : Below W.heap.size W U := h.trans (h2.mono h.size)
theorem boxn_drew {u : World} {b n : Nat} {vs : List Value} (h : BoxN u b n vs) : BoxN u.drew b n vs := h.below (B := u.heap.size) ((Below.refl _ _).drew) h.lt
theorem isT_of (a b : Int) (ha : 0 ≤ a ∧ a < 2) (hb : 0 ≤ b ∧ b < 2) : isT (a, 1 + b) := by
  have h1 : a = 0 ∨ a = 1 := by omega
  have h2 : b = 0 ∨ b = 1 := by omega
  rcases h1 with rfl | rfl <;> rcases h2 with rfl | rfl <;> simp [isT]
set_option maxRecDepth 100000 in
set_option maxHeartbeats 8000000 in
theorem store_made (a : Option Addr) (len cap : Nat) (rs : List RV) (M : Int) (w : World) (h : IsRaws w a len cap rs) (hM : 0 ≤ M ∧ M ≤ 40) :
    Calls Tryd.prog 16 #[.slice a len cap, .int .i64 M] w fun e w' => ∃ r : SV, e = .returned r.val ∧ OwnStore w' w.heap.size r ∧ Gd r.data 961 ∧ Below w.heap.size w w' := by
  obtain ⟨M0, M40⟩ := hM
  have hmx : len ≤ maxLen := Nat.le_trans h.row.2.1 h.row.2.2.1
  unfold maxLen at hmx
  obtain ⟨W, hW⟩ : ∃ W : World, W = (w.alloc (.cells #[.slice none 0 0, .slice none 0 0, .slice none 0 0, .slice none 0 0] 55)).alloc (.cells #[.slice none 0 0, .slice none 0 0, .slice none 0 0, .slice none 0 0] 55) := ⟨_, rfl⟩
  have hP := pre_of w SV.nil (isStore_nil w)
  simp only [SV.nil] at hP
  rw [← hW] at hP
  have hp1 := hP.par
  have hp2 := hP.res
  have hB := hP.bel
  clear hP
  go_enter Tryd.func16, Tryd.ntmps16
  go_upto_region 2 with (fail)
  rw [← hW]
  clear hW
  go_wp2
  go_loopw [6, 7, 8, 9, 10, 11, 12, 13, 14, 15, 16] (fun s6 _ _ _ _ _ _ _ _ _ _ wr => ∃ (k : Nat) (r : SV), s6 = .int .i64 (k : Int) ∧ k ≤ len ∧ (k : Int) ≤ M ∧ Gd r.data (1 + 24 * k) ∧ OwnStore wr (w.heap.size + 2) r ∧ BoxN wr (w.heap.size + 1) 4 r.box ∧ BoxN wr w.heap.size 4 SV.nil.box ∧ Below w.heap.size w wr) (fun s6 _ _ _ _ _ _ _ _ _ _ _ => len - (intOf s6).toNat)
  case atStart => exact ⟨0, SV.nil, rfl, Nat.zero_le _, M0, gd_nil, ownStore_nil _ _, hp2, hp1, hB⟩
  case round =>
    clear hp1 hp2 hB
    obtain ⟨k, ⟨a0, n0, u0, a1, n1, u1, a2, n2, u2, a3, n3, u3, xi, xl, xd, xo⟩, rfl, hk, hkM, hG, hO, hbx, hbr, hb⟩ := hrel
    by_cases hlt : k < len ∧ (k : Int) < M
    · obtain ⟨hlt, hltM⟩ := hlt
      have hlt' : (k : Int) < (len : Int) := by omega
      have hlen : rs.length = len := h.row.1
      have hrok := h.ok _ (getD_mem (l := rs) (i := k) (by omega))
      obtain ⟨b, off, rfl, zb, hc⟩ := h.row.2.2.2.2 (by omega)
      have hcells := hc k hlt
      obtain ⟨x, ex⟩ : ∃ x, x = rs.getD k default := ⟨_, rfl⟩
      rw [← ex] at hcells hrok
      clear ex hc hlen
      obtain ⟨kd, ra, rb, rc, rd, re⟩ := x
      obtain ⟨okd, ora, orb, orc, ord, ore⟩ := hrok
      have KE0 : Hid (∀ U, Below w.heap.size w U → U.cell? ⟨b, off + k * 6, none⟩ = some (.int .i64 kd) ∧ U.cell? ⟨b, off + k * 6 + 1, none⟩ = some (.int .i64 ra) ∧ U.cell? ⟨b, off + k * 6 + 2, none⟩ = some (.int .i64 rb) ∧ U.cell? ⟨b, off + k * 6 + 3, none⟩ = some (.int .i64 rc) ∧ U.cell? ⟨b, off + k * 6 + 4, none⟩ = some (.int .i64 rd) ∧ U.cell? ⟨b, off + k * 6 + 5, none⟩ = some (.int .i64 re)) := fun U hU => by
        have e0 := (hU.cell (p := ⟨b, off + k * 6, none⟩) zb).trans (hcells 0 (by decide))
        have e1 := (hU.cell (p := ⟨b, off + k * 6 + 1, none⟩) zb).trans (hcells 1 (by decide))
        have e2 := (hU.cell (p := ⟨b, off + k * 6 + 2, none⟩) zb).trans (hcells 2 (by decide))
        have e3 := (hU.cell (p := ⟨b, off + k * 6 + 3, none⟩) zb).trans (hcells 3 (by decide))
        have e4 := (hU.cell (p := ⟨b, off + k * 6 + 4, none⟩) zb).trans (hcells 4 (by decide))
        have e5 := (hU.cell (p := ⟨b, off + k * 6 + 5, none⟩) zb).trans (hcells 5 (by decide))
        simp only [RV.cells, List.getElem?_cons_zero, List.getElem?_cons_succ] at e0 e1 e2 e3 e4 e5
        exact ⟨e0, e1, e2, e3, e4, e5⟩
      clear hcells
      have zr : b < wr.heap.size := Nat.lt_of_lt_of_le zb hb.size
      have bA' := pk_bd ra 2 (by decide)
      have bB' := pk_bd rb 2 (by decide)
      have bC' := pk_bd rc 5 (by decide)
      have bK' := pk_bd kd 5 (by decide)
      have bV' := pk_bd rd 100 (by decide)
      have bQ' := pk_bd re 5 (by decide)
      simp only [Bd] at okd ora orb orc ord ore
      have hw1 : IntKind.i64.wrap (1 + pk rb 2) = 1 + pk rb 2 := by apply wrap_in <;> omega
      have hisT : Hid (isT (pk ra 2, 1 + pk rb 2)) := isT_of _ _ bA' bB'
      go_upto_region 5 with (fail)
      go_cut [7] (fun s7 wc => ∃ q : Nat, s7 = .pointer (some ⟨q, 0, none⟩) ∧ BoxN wc q 2 [.int .i64 (pk ra 2), .int .i64 (1 + pk rb 2)] ∧ Below wr.heap.size wr wc)
      case first =>
        have KE2 : Hid (∀ U, Below wr.heap.size wr U → U.cell? ⟨b, off + k * 6 + 1, none⟩ = some (.int .i64 ra) ∧ U.cell? ⟨b, off + k * 6 + 2, none⟩ = some (.int .i64 rb)) := fun U hU => by
          have := KE0.out U (hb.trans (hU.mono hb.size))
          exact ⟨this.2.1, this.2.2.1⟩
        go_region_held3 (fun U => U.cell? ⟨b, off + k * 6 + 1, none⟩ = some (.int .i64 ra) ∧ U.cell? ⟨b, off + k * 6 + 2, none⟩ = some (.int .i64 rb))
          (exact KE2.out _ (by (with_reducible repeat (first | exact Below.refl _ _ | refine nD ?_ | refine nA ?_ _ | refine nS ?_ (by simp) _)); done))
          (((go_at_call 13; refine (picked_any _ _ _ (by assumption) (by decide) (by decide)).mono ?_; rintro e u ⟨rfl, hu⟩; rw [hu]; clear hu)))
        all_goals
          go_wp2_with fail
          go_meet
          case rel => exact ⟨_, rfl, by first | exact boxn_drew (boxn_new wr #[.int .i64 (pk ra 2), .int .i64 (1 + pk rb 2)] _ 2 rfl) | exact boxn_new _ #[.int .i64 (pk ra 2), .int .i64 (1 + pk rb 2)] _ 2 rfl | exact ((boxn_new _ #[.int .i64 0, .int .i64 0] _ 2 rfl).set 0 (by decide) (.int .i64 (pk ra 2))).set 1 (by decide) (.int .i64 (1 + pk rb 2)), by (with_reducible repeat (first | exact Below.refl _ _ | refine nD ?_ | refine nA ?_ _ | refine nS ?_ (by simp) _)); done⟩
      case rest =>
        obtain ⟨q, rfl, bt, bF⟩ := hcut
        obtain ⟨X, eX⟩ : ∃ X, X = wc := ⟨_, rfl⟩
        rw [← eX] at bt bF ⊢
        clear eX
        have hOX := hO.below bF
        have hbxX := hbx.below bF hbx.lt
        have hbrX := hbr.below bF hbr.lt
        have hbX : Below w.heap.size w X := hb.trans (bF.mono hb.size)
        have zwX : w.heap.size + 1 < X.heap.size := hbxX.lt
        clear hO hbx hbr hb bF zr
        obtain ⟨e0, e1, e2, e3, e4, e5⟩ := KE0.out X hbX
        have zX : b < X.heap.size := Nat.lt_of_lt_of_le zb hbX.size
        have t0 := (bt.c 0 (by decide)).1
        have t1 := (bt.c 1 (by decide)).1
        simp only [SV.box] at hbxX
        have x0 := (hbxX.c 0 (by decide)).1
        have x1 := (hbxX.c 1 (by decide)).1
        have x2 := (hbxX.c 2 (by decide)).1
        have x3 := (hbxX.c 3 (by decide)).1
        simp only [List.getD_cons_zero, List.getD_cons_succ] at t0 t1 x0 x1 x2 x3
        have ztq := bt.lt
        have hSX := hOX.isStore
        have hwf := hG.wf
        have h4 := hG.h4 hSX
        have KX : Hid (∀ U, Below X.heap.size X U → U.cell? ⟨w.heap.size + 1, 0, none⟩ = some (.slice a0 n0 u0) ∧ U.cell? ⟨w.heap.size + 1, 1, none⟩ = some (.slice a1 n1 u1) ∧ U.cell? ⟨w.heap.size + 1, 2, none⟩ = some (.slice a2 n2 u2) ∧ U.cell? ⟨w.heap.size + 1, 3, none⟩ = some (.slice a3 n3 u3) ∧ U.cell? ⟨q, 0, none⟩ = some (.int .i64 (pk ra 2)) ∧ U.cell? ⟨q, 1, none⟩ = some (.int .i64 (1 + pk rb 2)) ∧ U.cell? ⟨b, off + k * 6 + 4, none⟩ = some (.int .i64 rd) ∧ U.cell? ⟨b, off + k * 6 + 5, none⟩ = some (.int .i64 re)) := fun U hU =>
          ⟨(hU.cell (p := ⟨w.heap.size + 1, 0, none⟩) zwX).trans x0, (hU.cell (p := ⟨w.heap.size + 1, 1, none⟩) zwX).trans x1, (hU.cell (p := ⟨w.heap.size + 1, 2, none⟩) zwX).trans x2, (hU.cell (p := ⟨w.heap.size + 1, 3, none⟩) zwX).trans x3, (hU.cell (p := ⟨q, 0, none⟩) ztq).trans t0, (hU.cell (p := ⟨q, 1, none⟩) ztq).trans t1, (hU.cell (p := ⟨b, off + k * 6 + 4, none⟩) zX).trans e4, (hU.cell (p := ⟨b, off + k * 6 + 5, none⟩) zX).trans e5⟩
        have HSX : Hid (∀ U, Below X.heap.size X U → IsStore U ⟨a0, n0, u0, a1, n1, u1, a2, n2, u2, a3, n3, u3, xi, xl, xd, xo⟩) := fun U hU => hSX.below hU
        have hZ : pk kd 5 = 0 ∨ pk kd 5 = 1 ∨ pk kd 5 = 2 ∨ pk kd 5 = 3 ∨ pk kd 5 = 4 := by omega
        rcases hZ with hZ | hZ | hZ | hZ | hZ
        ·
          have hCall := fun w' h1 => read_own ⟨a0, n0, u0, a1, n1, u1, a2, n2, u2, a3, n3, u3, xi, xl, xd, xo⟩ (pk ra 2, 1 + pk rb 2) (pk rc 5) w' h1 hwf h4
          have HGd : Hid (readErr ⟨a0, n0, u0, a1, n1, u1, a2, n2, u2, a3, n3, u3, xi, xl, xd, xo⟩ (pk ra 2, 1 + pk rb 2) (pk rc 5) = 0 → Gd (readData ⟨a0, n0, u0, a1, n1, u1, a2, n2, u2, a3, n3, u3, xi, xl, xd, xo⟩ (pk ra 2, 1 + pk rb 2) (pk rc 5)) (1 + 24 * ((k + 1 : Nat) : Int))) := fun he => (gd_read hG hisT.out (by omega) he).mono (by omega)
          obtain ⟨E, eE⟩ : ∃ E, E = readErr ⟨a0, n0, u0, a1, n1, u1, a2, n2, u2, a3, n3, u3, xi, xl, xd, xo⟩ (pk ra 2, 1 + pk rb 2) (pk rc 5) := ⟨_, rfl⟩
          obtain ⟨D, eD⟩ : ∃ D, D = readData ⟨a0, n0, u0, a1, n1, u1, a2, n2, u2, a3, n3, u3, xi, xl, xd, xo⟩ (pk ra 2, 1 + pk rb 2) (pk rc 5) := ⟨_, rfl⟩
          obtain ⟨V1, eV1⟩ : ∃ E, E = readVal ⟨a0, n0, u0, a1, n1, u1, a2, n2, u2, a3, n3, u3, xi, xl, xd, xo⟩ (pk ra 2, 1 + pk rb 2) (pk rc 5) := ⟨_, rfl⟩
          obtain ⟨V2, eV2⟩ : ∃ E, E = readVer ⟨a0, n0, u0, a1, n1, u1, a2, n2, u2, a3, n3, u3, xi, xl, xd, xo⟩ (pk ra 2, 1 + pk rb 2) (pk rc 5) := ⟨_, rfl⟩
          rw [← eE, ← eD] at HGd
          simp only [← eE, ← eD, ← eV1, ← eV2, SV.val] at hCall
          clear eE eD eV1 eV2
          go_upto_region 14 with (first | (go_at_call 13; refine (picked_any _ _ _ (by assumption) (by decide) (by decide)).mono ?_; rintro e u ⟨rfl, hu⟩; rw [hu]; clear hu; (try rw [hZ]); (try rw [hY])) | (go_at_call 34; refine (hCall _ hSX).mono ?_; rintro e w2 ⟨⟨b0, m0, v0, b1, m1, v1, b2, m2, v2, b3, m3, v3, yi, yl, yd, yo⟩, rfl, hO2', hd2, hb2⟩; simp only []))
          obtain ⟨Y, hY⟩ : ∃ Y : World, Y = w2.alloc (.cells #[.slice b0 m0 v0, .slice b1 m1 v1, .slice b2 m2 v2, .slice b3 m3 v3] 55) := ⟨_, rfl⟩
          have bYw : Below w2.heap.size w2 Y := by rw [hY]; exact (Below.refl _ _).alloc (Nat.le_refl _) _
          have hb2x : BoxN Y w2.heap.size 4 [.slice b0 m0 v0, .slice b1 m1 v1, .slice b2 m2 v2, .slice b3 m3 v3] := by rw [hY]; exact boxn_new w2 #[.slice b0 m0 v0, .slice b1 m1 v1, .slice b2 m2 v2, .slice b3 m3 v3] 55 4 rfl
          have bY : Below X.heap.size X Y := nT hb2 bYw
          have hbY : Below w.heap.size w Y := hbX.trans (bY.mono hbX.size)
          have hO2 : OwnStore Y (w.heap.size + 2) ⟨b0, m0, v0, b1, m1, v1, b2, m2, v2, b3, m3, v3, yi, yl, yd, yo⟩ := (hO2'.below bYw).base (by omega)
          rw [← hY]
          clear hY hO2' bYw x0 x1 x2 x3 t0 t1 e0 e1 e2 e3 e4 e5
          have zyl := hbY.size
          have hbm := hbxX.below bY hbxX.lt
          have hbn := hbrX.below bY hbrX.lt
          have x0 := (hb2x.c 0 (by decide)).1
          have x1 := (hb2x.c 1 (by decide)).1
          have x2 := (hb2x.c 2 (by decide)).1
          have x3 := (hb2x.c 3 (by decide)).1
          have y0 := (hbm.c 0 (by decide)).1
          have y1 := (hbm.c 1 (by decide)).1
          have y2 := (hbm.c 2 (by decide)).1
          have y3 := (hbm.c 3 (by decide)).1
          have f0 := (hbm.c 0 (by decide)).2
          have f1 := (hbm.c 1 (by decide)).2
          have f2 := (hbm.c 2 (by decide)).2
          have f3 := (hbm.c 3 (by decide)).2
          simp only [List.getD_cons_zero, List.getD_cons_succ] at x0 x1 x2 x3 y0 y1 y2 y3
          have zq2 := hb2x.lt
          have zbm := hbm.lt
          by_cases hE : E = 0
          · subst hE
            have hG2 : Gd (SV.data ⟨b0, m0, v0, b1, m1, v1, b2, m2, v2, b3, m3, v3, yi, yl, yd, yo⟩) (1 + 24 * ((k + 1 : Nat) : Int)) := by rw [hd2]; exact HGd.out rfl
            obtain ⟨V, hV⟩ : ∃ V : World, V = (((Y.setCell ⟨w.heap.size + 1, 0, none⟩ (.slice b0 m0 v0)).setCell ⟨w.heap.size + 1, 1, none⟩ (.slice b1 m1 v1)).setCell ⟨w.heap.size + 1, 2, none⟩ (.slice b2 m2 v2)).setCell ⟨w.heap.size + 1, 3, none⟩ (.slice b3 m3 v3) := ⟨_, rfl⟩
            have hOV : OwnStore V (w.heap.size + 2) ⟨b0, m0, v0, b1, m1, v1, b2, m2, v2, b3, m3, v3, yi, yl, yd, yo⟩ := by rw [hV]; exact hO2.four (by omega) _ _ _ _
            have bV : BoxN V (w.heap.size + 1) 4 [.slice b0 m0 v0, .slice b1 m1 v1, .slice b2 m2 v2, .slice b3 m3 v3] := by rw [hV]; exact (((hbm.set 0 (by decide) _).set 1 (by decide) _).set 2 (by decide) _).set 3 (by decide) _
            have bVn : BoxN V w.heap.size 4 SV.nil.box := by rw [hV]; exact (((hbn.far (by omega)).far (by omega)).far (by omega)).far (by omega)
            have hbV : Below w.heap.size w V := by rw [hV]; exact below_four hbY (by omega) _ _ _ _
            go_upto_region 4 with (fail)
            rw [← hV]
            clear hV x0 x1 x2 x3 y0 y1 y2 y3 f0 f1 f2 f3 zq2 zbm
            go_wp2
            go_roundw
            case rel => exact ⟨k + 1, ⟨b0, m0, v0, b1, m1, v1, b2, m2, v2, b3, m3, v3, yi, yl, yd, yo⟩, by go_num, by omega, by omega, hG2, hOV, bV, bVn, hbV⟩
            case measure => simp [intOf]; omega
          · have hOk := hOX.below bY
            have hGk : Gd (SV.data ⟨a0, n0, u0, a1, n1, u1, a2, n2, u2, a3, n3, u3, xi, xl, xd, xo⟩) (1 + 24 * ((k + 1 : Nat) : Int)) := hG.mono (by omega)
            go_wp2
            go_roundw
            case rel => exact ⟨k + 1, ⟨a0, n0, u0, a1, n1, u1, a2, n2, u2, a3, n3, u3, xi, xl, xd, xo⟩, by go_num, by omega, by omega, hGk, hOk, hbm, hbn, hbY⟩
            case measure => simp [intOf]; omega
        ·
          have hCall := fun w' h1 => read_own ⟨a0, n0, u0, a1, n1, u1, a2, n2, u2, a3, n3, u3, xi, xl, xd, xo⟩ (pk ra 2, 1 + pk rb 2) (pk rc 5) w' h1 hwf h4
          have HGd : Hid (readErr ⟨a0, n0, u0, a1, n1, u1, a2, n2, u2, a3, n3, u3, xi, xl, xd, xo⟩ (pk ra 2, 1 + pk rb 2) (pk rc 5) = 0 → Gd (readData ⟨a0, n0, u0, a1, n1, u1, a2, n2, u2, a3, n3, u3, xi, xl, xd, xo⟩ (pk ra 2, 1 + pk rb 2) (pk rc 5)) (1 + 24 * ((k + 1 : Nat) : Int))) := fun he => (gd_read hG hisT.out (by omega) he).mono (by omega)
          obtain ⟨E, eE⟩ : ∃ E, E = readErr ⟨a0, n0, u0, a1, n1, u1, a2, n2, u2, a3, n3, u3, xi, xl, xd, xo⟩ (pk ra 2, 1 + pk rb 2) (pk rc 5) := ⟨_, rfl⟩
          obtain ⟨D, eD⟩ : ∃ D, D = readData ⟨a0, n0, u0, a1, n1, u1, a2, n2, u2, a3, n3, u3, xi, xl, xd, xo⟩ (pk ra 2, 1 + pk rb 2) (pk rc 5) := ⟨_, rfl⟩
          obtain ⟨V1, eV1⟩ : ∃ E, E = readVal ⟨a0, n0, u0, a1, n1, u1, a2, n2, u2, a3, n3, u3, xi, xl, xd, xo⟩ (pk ra 2, 1 + pk rb 2) (pk rc 5) := ⟨_, rfl⟩
          obtain ⟨V2, eV2⟩ : ∃ E, E = readVer ⟨a0, n0, u0, a1, n1, u1, a2, n2, u2, a3, n3, u3, xi, xl, xd, xo⟩ (pk ra 2, 1 + pk rb 2) (pk rc 5) := ⟨_, rfl⟩
          rw [← eE, ← eD] at HGd
          simp only [← eE, ← eD, ← eV1, ← eV2, SV.val] at hCall
          clear eE eD eV1 eV2
          go_upto_region 14 with (first | (go_at_call 13; refine (picked_any _ _ _ (by assumption) (by decide) (by decide)).mono ?_; rintro e u ⟨rfl, hu⟩; rw [hu]; clear hu; (try rw [hZ]); (try rw [hY])) | (go_at_call 34; refine (hCall _ hSX).mono ?_; rintro e w2 ⟨⟨b0, m0, v0, b1, m1, v1, b2, m2, v2, b3, m3, v3, yi, yl, yd, yo⟩, rfl, hO2', hd2, hb2⟩; simp only []))
          obtain ⟨Y, hY⟩ : ∃ Y : World, Y = w2.alloc (.cells #[.slice b0 m0 v0, .slice b1 m1 v1, .slice b2 m2 v2, .slice b3 m3 v3] 55) := ⟨_, rfl⟩
          have bYw : Below w2.heap.size w2 Y := by rw [hY]; exact (Below.refl _ _).alloc (Nat.le_refl _) _
          have hb2x : BoxN Y w2.heap.size 4 [.slice b0 m0 v0, .slice b1 m1 v1, .slice b2 m2 v2, .slice b3 m3 v3] := by rw [hY]; exact boxn_new w2 #[.slice b0 m0 v0, .slice b1 m1 v1, .slice b2 m2 v2, .slice b3 m3 v3] 55 4 rfl
          have bY : Below X.heap.size X Y := nT hb2 bYw
          have hbY : Below w.heap.size w Y := hbX.trans (bY.mono hbX.size)
          have hO2 : OwnStore Y (w.heap.size + 2) ⟨b0, m0, v0, b1, m1, v1, b2, m2, v2, b3, m3, v3, yi, yl, yd, yo⟩ := (hO2'.below bYw).base (by omega)
          rw [← hY]
          clear hY hO2' bYw x0 x1 x2 x3 t0 t1 e0 e1 e2 e3 e4 e5
          have zyl := hbY.size
          have hbm := hbxX.below bY hbxX.lt
          have hbn := hbrX.below bY hbrX.lt
          have x0 := (hb2x.c 0 (by decide)).1
          have x1 := (hb2x.c 1 (by decide)).1
          have x2 := (hb2x.c 2 (by decide)).1
          have x3 := (hb2x.c 3 (by decide)).1
          have y0 := (hbm.c 0 (by decide)).1
          have y1 := (hbm.c 1 (by decide)).1
          have y2 := (hbm.c 2 (by decide)).1
          have y3 := (hbm.c 3 (by decide)).1
          have f0 := (hbm.c 0 (by decide)).2
          have f1 := (hbm.c 1 (by decide)).2
          have f2 := (hbm.c 2 (by decide)).2
          have f3 := (hbm.c 3 (by decide)).2
          simp only [List.getD_cons_zero, List.getD_cons_succ] at x0 x1 x2 x3 y0 y1 y2 y3
          have zq2 := hb2x.lt
          have zbm := hbm.lt
          by_cases hE : E = 0
          · subst hE
            have hG2 : Gd (SV.data ⟨b0, m0, v0, b1, m1, v1, b2, m2, v2, b3, m3, v3, yi, yl, yd, yo⟩) (1 + 24 * ((k + 1 : Nat) : Int)) := by rw [hd2]; exact HGd.out rfl
            obtain ⟨V, hV⟩ : ∃ V : World, V = (((Y.setCell ⟨w.heap.size + 1, 0, none⟩ (.slice b0 m0 v0)).setCell ⟨w.heap.size + 1, 1, none⟩ (.slice b1 m1 v1)).setCell ⟨w.heap.size + 1, 2, none⟩ (.slice b2 m2 v2)).setCell ⟨w.heap.size + 1, 3, none⟩ (.slice b3 m3 v3) := ⟨_, rfl⟩
            have hOV : OwnStore V (w.heap.size + 2) ⟨b0, m0, v0, b1, m1, v1, b2, m2, v2, b3, m3, v3, yi, yl, yd, yo⟩ := by rw [hV]; exact hO2.four (by omega) _ _ _ _
            have bV : BoxN V (w.heap.size + 1) 4 [.slice b0 m0 v0, .slice b1 m1 v1, .slice b2 m2 v2, .slice b3 m3 v3] := by rw [hV]; exact (((hbm.set 0 (by decide) _).set 1 (by decide) _).set 2 (by decide) _).set 3 (by decide) _
            have bVn : BoxN V w.heap.size 4 SV.nil.box := by rw [hV]; exact (((hbn.far (by omega)).far (by omega)).far (by omega)).far (by omega)
            have hbV : Below w.heap.size w V := by rw [hV]; exact below_four hbY (by omega) _ _ _ _
            go_upto_region 4 with (fail)
            rw [← hV]
            clear hV x0 x1 x2 x3 y0 y1 y2 y3 f0 f1 f2 f3 zq2 zbm
            go_wp2
            go_roundw
            case rel => exact ⟨k + 1, ⟨b0, m0, v0, b1, m1, v1, b2, m2, v2, b3, m3, v3, yi, yl, yd, yo⟩, by go_num, by omega, by omega, hG2, hOV, bV, bVn, hbV⟩
            case measure => simp [intOf]; omega
          · have hOk := hOX.below bY
            have hGk : Gd (SV.data ⟨a0, n0, u0, a1, n1, u1, a2, n2, u2, a3, n3, u3, xi, xl, xd, xo⟩) (1 + 24 * ((k + 1 : Nat) : Int)) := hG.mono (by omega)
            go_wp2
            go_roundw
            case rel => exact ⟨k + 1, ⟨a0, n0, u0, a1, n1, u1, a2, n2, u2, a3, n3, u3, xi, xl, xd, xo⟩, by go_num, by omega, by omega, hGk, hOk, hbm, hbn, hbY⟩
            case measure => simp [intOf]; omega
        ·
          have hCall := fun w' h1 => write_own ⟨a0, n0, u0, a1, n1, u1, a2, n2, u2, a3, n3, u3, xi, xl, xd, xo⟩ (pk ra 2, 1 + pk rb 2) (pk rc 5) (pk rd 100) (pk re 5) w' h1 hwf h4
          have HGd : Hid (writeErr ⟨a0, n0, u0, a1, n1, u1, a2, n2, u2, a3, n3, u3, xi, xl, xd, xo⟩ (pk ra 2, 1 + pk rb 2) (pk rc 5) (pk rd 100) (pk re 5) = 0 → Gd (writeData ⟨a0, n0, u0, a1, n1, u1, a2, n2, u2, a3, n3, u3, xi, xl, xd, xo⟩ (pk ra 2, 1 + pk rb 2) (pk rc 5) (pk rd 100) (pk re 5)) (1 + 24 * ((k + 1 : Nat) : Int))) := fun he => (gd_write hG hisT.out (by omega) he).mono (by omega)
          obtain ⟨E, eE⟩ : ∃ E, E = writeErr ⟨a0, n0, u0, a1, n1, u1, a2, n2, u2, a3, n3, u3, xi, xl, xd, xo⟩ (pk ra 2, 1 + pk rb 2) (pk rc 5) (pk rd 100) (pk re 5) := ⟨_, rfl⟩
          obtain ⟨D, eD⟩ : ∃ D, D = writeData ⟨a0, n0, u0, a1, n1, u1, a2, n2, u2, a3, n3, u3, xi, xl, xd, xo⟩ (pk ra 2, 1 + pk rb 2) (pk rc 5) (pk rd 100) (pk re 5) := ⟨_, rfl⟩
          rw [← eE, ← eD] at HGd
          simp only [← eE, ← eD, SV.val] at hCall
          clear eE eD
          go_upto_region 18 with ((go_at_call 13; refine (picked_any _ _ _ (by assumption) (by decide) (by decide)).mono ?_; rintro e u ⟨rfl, hu⟩; rw [hu]; clear hu; (try rw [hZ]); (try rw [hY])))
          go_cut [13, 14] (fun sp se wc => ∃ (q2 : Nat) (r2 : SV), sp = .pointer (some ⟨q2, 0, none⟩) ∧ se = .int .i64 E ∧ BoxN wc q2 4 r2.box ∧ OwnStore wc (w.heap.size + 2) r2 ∧ r2.data = D ∧ Below X.heap.size X wc)
          case first =>
            clear x0 x1 x2 x3 t0 t1 e0 e1 e2 e3 e4 e5
            go_region_held3 (fun U => U.cell? ⟨w.heap.size + 1, 0, none⟩ = some (.slice a0 n0 u0) ∧ U.cell? ⟨w.heap.size + 1, 1, none⟩ = some (.slice a1 n1 u1) ∧ U.cell? ⟨w.heap.size + 1, 2, none⟩ = some (.slice a2 n2 u2) ∧ U.cell? ⟨w.heap.size + 1, 3, none⟩ = some (.slice a3 n3 u3) ∧ U.cell? ⟨q, 0, none⟩ = some (.int .i64 (pk ra 2)) ∧ U.cell? ⟨q, 1, none⟩ = some (.int .i64 (1 + pk rb 2)) ∧ U.cell? ⟨b, off + k * 6 + 4, none⟩ = some (.int .i64 rd) ∧ U.cell? ⟨b, off + k * 6 + 5, none⟩ = some (.int .i64 re))
              (exact KX.out _ (by (with_reducible repeat (first | exact Below.refl _ _ | exact hu2 | refine nD ?_ | refine nA ?_ _ | refine nS ?_ (by first | omega | (simp; done)) _)); done))
              (first | (go_at_call 13; refine (picked_any _ _ _ (by assumption) (by decide) (by decide)).mono ?_; rintro e u ⟨rfl, hu⟩; rw [hu]; clear hu; (try rw [hZ]); (try rw [hY])) | (go_at_call 35; refine (hCall _ (HSX.out _ (by (with_reducible repeat (first | exact Below.refl _ _ | exact hu2 | refine nD ?_ | refine nA ?_ _ | refine nS ?_ (by first | omega | (simp; done)) _)); done))).mono ?_; rintro e w2 ⟨⟨b0, m0, v0, b1, m1, v1, b2, m2, v2, b3, m3, v3, yi, yl, yd, yo⟩, rfl, hO2', hd2, hb2⟩; simp only []; have hu2 : Below X.heap.size X w2 := nT (by (with_reducible repeat (first | exact Below.refl _ _ | exact hu2 | refine nD ?_ | refine nA ?_ _ | refine nS ?_ (by first | omega | (simp; done)) _)); done) hb2; have zu2 := hu2.size; (first | (have bx3 : BoxN w2 X.heap.size 4 [.slice none 0 0, .slice none 0 0, .slice none 0 0, .slice none 0 0] := (boxn_new X.drew #[.slice none 0 0, .slice none 0 0, .slice none 0 0, .slice none 0 0] 55 4 rfl).below hb2 (by simp); have s0 : _ = some (Value.slice none 0 0) := (bx3.c 0 (by decide)).1; have s1 : _ = some (Value.slice none 0 0) := (bx3.c 1 (by decide)).1; have s2 : _ = some (Value.slice none 0 0) := (bx3.c 2 (by decide)).1; have s3 : _ = some (Value.slice none 0 0) := (bx3.c 3 (by decide)).1; have g0 := (bx3.c 0 (by decide)).2; have g1 := (bx3.c 1 (by decide)).2; have g2 := (bx3.c 2 (by decide)).2; have g3 := (bx3.c 3 (by decide)).2; have zbx3 := bx3.lt) | skip)))
            all_goals
              go_wp2_with fail
              go_meet
              case rel => first | exact ⟨_, ⟨b0, m0, v0, b1, m1, v1, b2, m2, v2, b3, m3, v3, yi, yl, yd, yo⟩, rfl, rfl, (((bx3.set 0 (by decide) (.slice b0 m0 v0)).set 1 (by decide) (.slice b1 m1 v1)).set 2 (by decide) (.slice b2 m2 v2)).set 3 (by decide) (.slice b3 m3 v3), (hO2'.four (b := X.heap.size) (by simp) _ _ _ _).base (by simp; omega), hd2, by (with_reducible repeat (first | exact Below.refl _ _ | exact hu2 | refine nD ?_ | refine nA ?_ _ | refine nS ?_ (by first | omega | (simp; done)) _)); done⟩ | exact ⟨_, ⟨b0, m0, v0, b1, m1, v1, b2, m2, v2, b3, m3, v3, yi, yl, yd, yo⟩, rfl, rfl, boxn_new w2 #[.slice b0 m0 v0, .slice b1 m1 v1, .slice b2 m2 v2, .slice b3 m3 v3] _ 4 rfl, (hO2'.below ((Below.refl _ _).alloc (Nat.le_refl _) _)).base (by first | omega | (simp; omega)), hd2, by (with_reducible repeat (first | exact Below.refl _ _ | exact hu2 | refine nD ?_ | refine nA ?_ _ | refine nS ?_ (by first | omega | (simp; done)) _)); done⟩
          case rest =>
            obtain ⟨q2, ⟨b0, m0, v0, b1, m1, v1, b2, m2, v2, b3, m3, v3, yi, yl, yd, yo⟩, rfl, rfl, hb2x, hO2, hd2, bY⟩ := hcut
            obtain ⟨Y, eY⟩ : ∃ Y, Y = wc := ⟨_, rfl⟩
            rw [← eY] at hb2x hO2 bY ⊢
            simp only [SV.box] at hb2x
            clear eY x0 x1 x2 x3 t0 t1 e0 e1 e2 e3 e4 e5
            have hbY : Below w.heap.size w Y := hbX.trans (bY.mono hbX.size)
            have zyl := hbY.size
            have hbm := hbxX.below bY hbxX.lt
            have hbn := hbrX.below bY hbrX.lt
            have x0 := (hb2x.c 0 (by decide)).1
            have x1 := (hb2x.c 1 (by decide)).1
            have x2 := (hb2x.c 2 (by decide)).1
            have x3 := (hb2x.c 3 (by decide)).1
            have y0 := (hbm.c 0 (by decide)).1
            have y1 := (hbm.c 1 (by decide)).1
            have y2 := (hbm.c 2 (by decide)).1
            have y3 := (hbm.c 3 (by decide)).1
            have f0 := (hbm.c 0 (by decide)).2
            have f1 := (hbm.c 1 (by decide)).2
            have f2 := (hbm.c 2 (by decide)).2
            have f3 := (hbm.c 3 (by decide)).2
            simp only [List.getD_cons_zero, List.getD_cons_succ] at x0 x1 x2 x3 y0 y1 y2 y3
            have zq2 := hb2x.lt
            have zbm := hbm.lt
            by_cases hE : E = 0
            · subst hE
              have hG2 : Gd (SV.data ⟨b0, m0, v0, b1, m1, v1, b2, m2, v2, b3, m3, v3, yi, yl, yd, yo⟩) (1 + 24 * ((k + 1 : Nat) : Int)) := by rw [hd2]; exact HGd.out rfl
              obtain ⟨V, hV⟩ : ∃ V : World, V = (((Y.setCell ⟨w.heap.size + 1, 0, none⟩ (.slice b0 m0 v0)).setCell ⟨w.heap.size + 1, 1, none⟩ (.slice b1 m1 v1)).setCell ⟨w.heap.size + 1, 2, none⟩ (.slice b2 m2 v2)).setCell ⟨w.heap.size + 1, 3, none⟩ (.slice b3 m3 v3) := ⟨_, rfl⟩
              have hOV : OwnStore V (w.heap.size + 2) ⟨b0, m0, v0, b1, m1, v1, b2, m2, v2, b3, m3, v3, yi, yl, yd, yo⟩ := by rw [hV]; exact hO2.four (by omega) _ _ _ _
              have bV : BoxN V (w.heap.size + 1) 4 [.slice b0 m0 v0, .slice b1 m1 v1, .slice b2 m2 v2, .slice b3 m3 v3] := by rw [hV]; exact (((hbm.set 0 (by decide) _).set 1 (by decide) _).set 2 (by decide) _).set 3 (by decide) _
              have bVn : BoxN V w.heap.size 4 SV.nil.box := by rw [hV]; exact (((hbn.far (by omega)).far (by omega)).far (by omega)).far (by omega)
              have hbV : Below w.heap.size w V := by rw [hV]; exact below_four hbY (by omega) _ _ _ _
              go_upto_region 4 with (fail)
              rw [← hV]
              clear hV x0 x1 x2 x3 y0 y1 y2 y3 f0 f1 f2 f3 zq2 zbm
              go_wp2
              go_roundw
              case rel => exact ⟨k + 1, ⟨b0, m0, v0, b1, m1, v1, b2, m2, v2, b3, m3, v3, yi, yl, yd, yo⟩, by go_num, by omega, by omega, hG2, hOV, bV, bVn, hbV⟩
              case measure => simp [intOf]; omega
            · have hOk := hOX.below bY
              have hGk : Gd (SV.data ⟨a0, n0, u0, a1, n1, u1, a2, n2, u2, a3, n3, u3, xi, xl, xd, xo⟩) (1 + 24 * ((k + 1 : Nat) : Int)) := hG.mono (by omega)
              go_wp2
              go_roundw
              case rel => exact ⟨k + 1, ⟨a0, n0, u0, a1, n1, u1, a2, n2, u2, a3, n3, u3, xi, xl, xd, xo⟩, by go_num, by omega, by omega, hGk, hOk, hbm, hbn, hbY⟩
              case measure => simp [intOf]; omega
        ·
          have hCall := fun w' h1 => write_own ⟨a0, n0, u0, a1, n1, u1, a2, n2, u2, a3, n3, u3, xi, xl, xd, xo⟩ (pk ra 2, 1 + pk rb 2) (pk rc 5) (pk rd 100) (pk re 5) w' h1 hwf h4
          have HGd : Hid (writeErr ⟨a0, n0, u0, a1, n1, u1, a2, n2, u2, a3, n3, u3, xi, xl, xd, xo⟩ (pk ra 2, 1 + pk rb 2) (pk rc 5) (pk rd 100) (pk re 5) = 0 → Gd (writeData ⟨a0, n0, u0, a1, n1, u1, a2, n2, u2, a3, n3, u3, xi, xl, xd, xo⟩ (pk ra 2, 1 + pk rb 2) (pk rc 5) (pk rd 100) (pk re 5)) (1 + 24 * ((k + 1 : Nat) : Int))) := fun he => (gd_write hG hisT.out (by omega) he).mono (by omega)
          obtain ⟨E, eE⟩ : ∃ E, E = writeErr ⟨a0, n0, u0, a1, n1, u1, a2, n2, u2, a3, n3, u3, xi, xl, xd, xo⟩ (pk ra 2, 1 + pk rb 2) (pk rc 5) (pk rd 100) (pk re 5) := ⟨_, rfl⟩
          obtain ⟨D, eD⟩ : ∃ D, D = writeData ⟨a0, n0, u0, a1, n1, u1, a2, n2, u2, a3, n3, u3, xi, xl, xd, xo⟩ (pk ra 2, 1 + pk rb 2) (pk rc 5) (pk rd 100) (pk re 5) := ⟨_, rfl⟩
          rw [← eE, ← eD] at HGd
          simp only [← eE, ← eD, SV.val] at hCall
          clear eE eD
          go_upto_region 18 with ((go_at_call 13; refine (picked_any _ _ _ (by assumption) (by decide) (by decide)).mono ?_; rintro e u ⟨rfl, hu⟩; rw [hu]; clear hu; (try rw [hZ]); (try rw [hY])))
          go_cut [13, 14] (fun sp se wc => ∃ (q2 : Nat) (r2 : SV), sp = .pointer (some ⟨q2, 0, none⟩) ∧ se = .int .i64 E ∧ BoxN wc q2 4 r2.box ∧ OwnStore wc (w.heap.size + 2) r2 ∧ r2.data = D ∧ Below X.heap.size X wc)
          case first =>
            clear x0 x1 x2 x3 t0 t1 e0 e1 e2 e3 e4 e5
            go_region_held3 (fun U => U.cell? ⟨w.heap.size + 1, 0, none⟩ = some (.slice a0 n0 u0) ∧ U.cell? ⟨w.heap.size + 1, 1, none⟩ = some (.slice a1 n1 u1) ∧ U.cell? ⟨w.heap.size + 1, 2, none⟩ = some (.slice a2 n2 u2) ∧ U.cell? ⟨w.heap.size + 1, 3, none⟩ = some (.slice a3 n3 u3) ∧ U.cell? ⟨q, 0, none⟩ = some (.int .i64 (pk ra 2)) ∧ U.cell? ⟨q, 1, none⟩ = some (.int .i64 (1 + pk rb 2)) ∧ U.cell? ⟨b, off + k * 6 + 4, none⟩ = some (.int .i64 rd) ∧ U.cell? ⟨b, off + k * 6 + 5, none⟩ = some (.int .i64 re))
              (exact KX.out _ (by (with_reducible repeat (first | exact Below.refl _ _ | exact hu2 | refine nD ?_ | refine nA ?_ _ | refine nS ?_ (by first | omega | (simp; done)) _)); done))
              (first | (go_at_call 13; refine (picked_any _ _ _ (by assumption) (by decide) (by decide)).mono ?_; rintro e u ⟨rfl, hu⟩; rw [hu]; clear hu; (try rw [hZ]); (try rw [hY])) | (go_at_call 35; refine (hCall _ (HSX.out _ (by (with_reducible repeat (first | exact Below.refl _ _ | exact hu2 | refine nD ?_ | refine nA ?_ _ | refine nS ?_ (by first | omega | (simp; done)) _)); done))).mono ?_; rintro e w2 ⟨⟨b0, m0, v0, b1, m1, v1, b2, m2, v2, b3, m3, v3, yi, yl, yd, yo⟩, rfl, hO2', hd2, hb2⟩; simp only []; have hu2 : Below X.heap.size X w2 := nT (by (with_reducible repeat (first | exact Below.refl _ _ | exact hu2 | refine nD ?_ | refine nA ?_ _ | refine nS ?_ (by first | omega | (simp; done)) _)); done) hb2; have zu2 := hu2.size; (first | (have bx3 : BoxN w2 X.heap.size 4 [.slice none 0 0, .slice none 0 0, .slice none 0 0, .slice none 0 0] := (boxn_new X.drew #[.slice none 0 0, .slice none 0 0, .slice none 0 0, .slice none 0 0] 55 4 rfl).below hb2 (by simp); have s0 : _ = some (Value.slice none 0 0) := (bx3.c 0 (by decide)).1; have s1 : _ = some (Value.slice none 0 0) := (bx3.c 1 (by decide)).1; have s2 : _ = some (Value.slice none 0 0) := (bx3.c 2 (by decide)).1; have s3 : _ = some (Value.slice none 0 0) := (bx3.c 3 (by decide)).1; have g0 := (bx3.c 0 (by decide)).2; have g1 := (bx3.c 1 (by decide)).2; have g2 := (bx3.c 2 (by decide)).2; have g3 := (bx3.c 3 (by decide)).2; have zbx3 := bx3.lt) | skip)))
            all_goals
              go_wp2_with fail
              go_meet
              case rel => first | exact ⟨_, ⟨b0, m0, v0, b1, m1, v1, b2, m2, v2, b3, m3, v3, yi, yl, yd, yo⟩, rfl, rfl, (((bx3.set 0 (by decide) (.slice b0 m0 v0)).set 1 (by decide) (.slice b1 m1 v1)).set 2 (by decide) (.slice b2 m2 v2)).set 3 (by decide) (.slice b3 m3 v3), (hO2'.four (b := X.heap.size) (by simp) _ _ _ _).base (by simp; omega), hd2, by (with_reducible repeat (first | exact Below.refl _ _ | exact hu2 | refine nD ?_ | refine nA ?_ _ | refine nS ?_ (by first | omega | (simp; done)) _)); done⟩ | exact ⟨_, ⟨b0, m0, v0, b1, m1, v1, b2, m2, v2, b3, m3, v3, yi, yl, yd, yo⟩, rfl, rfl, boxn_new w2 #[.slice b0 m0 v0, .slice b1 m1 v1, .slice b2 m2 v2, .slice b3 m3 v3] _ 4 rfl, (hO2'.below ((Below.refl _ _).alloc (Nat.le_refl _) _)).base (by first | omega | (simp; omega)), hd2, by (with_reducible repeat (first | exact Below.refl _ _ | exact hu2 | refine nD ?_ | refine nA ?_ _ | refine nS ?_ (by first | omega | (simp; done)) _)); done⟩
          case rest =>
            obtain ⟨q2, ⟨b0, m0, v0, b1, m1, v1, b2, m2, v2, b3, m3, v3, yi, yl, yd, yo⟩, rfl, rfl, hb2x, hO2, hd2, bY⟩ := hcut
            obtain ⟨Y, eY⟩ : ∃ Y, Y = wc := ⟨_, rfl⟩
            rw [← eY] at hb2x hO2 bY ⊢
            simp only [SV.box] at hb2x
            clear eY x0 x1 x2 x3 t0 t1 e0 e1 e2 e3 e4 e5
            have hbY : Below w.heap.size w Y := hbX.trans (bY.mono hbX.size)
            have zyl := hbY.size
            have hbm := hbxX.below bY hbxX.lt
            have hbn := hbrX.below bY hbrX.lt
            have x0 := (hb2x.c 0 (by decide)).1
            have x1 := (hb2x.c 1 (by decide)).1
            have x2 := (hb2x.c 2 (by decide)).1
            have x3 := (hb2x.c 3 (by decide)).1
            have y0 := (hbm.c 0 (by decide)).1
            have y1 := (hbm.c 1 (by decide)).1
            have y2 := (hbm.c 2 (by decide)).1
            have y3 := (hbm.c 3 (by decide)).1
            have f0 := (hbm.c 0 (by decide)).2
            have f1 := (hbm.c 1 (by decide)).2
            have f2 := (hbm.c 2 (by decide)).2
            have f3 := (hbm.c 3 (by decide)).2
            simp only [List.getD_cons_zero, List.getD_cons_succ] at x0 x1 x2 x3 y0 y1 y2 y3
            have zq2 := hb2x.lt
            have zbm := hbm.lt
            by_cases hE : E = 0
            · subst hE
              have hG2 : Gd (SV.data ⟨b0, m0, v0, b1, m1, v1, b2, m2, v2, b3, m3, v3, yi, yl, yd, yo⟩) (1 + 24 * ((k + 1 : Nat) : Int)) := by rw [hd2]; exact HGd.out rfl
              obtain ⟨V, hV⟩ : ∃ V : World, V = (((Y.setCell ⟨w.heap.size + 1, 0, none⟩ (.slice b0 m0 v0)).setCell ⟨w.heap.size + 1, 1, none⟩ (.slice b1 m1 v1)).setCell ⟨w.heap.size + 1, 2, none⟩ (.slice b2 m2 v2)).setCell ⟨w.heap.size + 1, 3, none⟩ (.slice b3 m3 v3) := ⟨_, rfl⟩
              have hOV : OwnStore V (w.heap.size + 2) ⟨b0, m0, v0, b1, m1, v1, b2, m2, v2, b3, m3, v3, yi, yl, yd, yo⟩ := by rw [hV]; exact hO2.four (by omega) _ _ _ _
              have bV : BoxN V (w.heap.size + 1) 4 [.slice b0 m0 v0, .slice b1 m1 v1, .slice b2 m2 v2, .slice b3 m3 v3] := by rw [hV]; exact (((hbm.set 0 (by decide) _).set 1 (by decide) _).set 2 (by decide) _).set 3 (by decide) _
              have bVn : BoxN V w.heap.size 4 SV.nil.box := by rw [hV]; exact (((hbn.far (by omega)).far (by omega)).far (by omega)).far (by omega)
              have hbV : Below w.heap.size w V := by rw [hV]; exact below_four hbY (by omega) _ _ _ _
              go_upto_region 4 with (fail)
              rw [← hV]
              clear hV x0 x1 x2 x3 y0 y1 y2 y3 f0 f1 f2 f3 zq2 zbm
              go_wp2
              go_roundw
              case rel => exact ⟨k + 1, ⟨b0, m0, v0, b1, m1, v1, b2, m2, v2, b3, m3, v3, yi, yl, yd, yo⟩, by go_num, by omega, by omega, hG2, hOV, bV, bVn, hbV⟩
              case measure => simp [intOf]; omega
            · have hOk := hOX.below bY
              have hGk : Gd (SV.data ⟨a0, n0, u0, a1, n1, u1, a2, n2, u2, a3, n3, u3, xi, xl, xd, xo⟩) (1 + 24 * ((k + 1 : Nat) : Int)) := hG.mono (by omega)
              go_wp2
              go_roundw
              case rel => exact ⟨k + 1, ⟨a0, n0, u0, a1, n1, u1, a2, n2, u2, a3, n3, u3, xi, xl, xd, xo⟩, by go_num, by omega, by omega, hGk, hOk, hbm, hbn, hbY⟩
              case measure => simp [intOf]; omega
        ·
          have hY2 : pk rd 2 = 0 ∨ pk rd 2 = 1 := by have := pk_bd rd 2 (by decide); omega
          rcases hY2 with hY | hY
          ·
            have hCall := fun w' h1 => end_own ⟨a0, n0, u0, a1, n1, u1, a2, n2, u2, a3, n3, u3, xi, xl, xd, xo⟩ (pk ra 2, 1 + pk rb 2) false w' h1 hwf h4
            have HGd : Hid (endErr ⟨a0, n0, u0, a1, n1, u1, a2, n2, u2, a3, n3, u3, xi, xl, xd, xo⟩ (pk ra 2, 1 + pk rb 2) false = 0 → Gd (endData ⟨a0, n0, u0, a1, n1, u1, a2, n2, u2, a3, n3, u3, xi, xl, xd, xo⟩ (pk ra 2, 1 + pk rb 2) false) (1 + 24 * ((k + 1 : Nat) : Int))) := fun he => (gd_end hG (by omega) (by omega) hisT.out he).mono (by omega)
            obtain ⟨E, eE⟩ : ∃ E, E = endErr ⟨a0, n0, u0, a1, n1, u1, a2, n2, u2, a3, n3, u3, xi, xl, xd, xo⟩ (pk ra 2, 1 + pk rb 2) false := ⟨_, rfl⟩
            obtain ⟨D, eD⟩ : ∃ D, D = endData ⟨a0, n0, u0, a1, n1, u1, a2, n2, u2, a3, n3, u3, xi, xl, xd, xo⟩ (pk ra 2, 1 + pk rb 2) false := ⟨_, rfl⟩
            rw [← eE, ← eD] at HGd
            simp only [← eE, ← eD, SV.val] at hCall
            clear eE eD
            go_upto_region 8 with ((go_at_call 13; refine (picked_any _ _ _ (by assumption) (by decide) (by decide)).mono ?_; rintro e u ⟨rfl, hu⟩; rw [hu]; clear hu; (try rw [hZ]); (try rw [hY])))
            go_cut [15, 16] (fun sp se wc => ∃ (q2 : Nat) (r2 : SV), sp = .pointer (some ⟨q2, 0, none⟩) ∧ se = .int .i64 E ∧ BoxN wc q2 4 r2.box ∧ OwnStore wc (w.heap.size + 2) r2 ∧ r2.data = D ∧ Below X.heap.size X wc)
            case first =>
              clear x0 x1 x2 x3 t0 t1 e0 e1 e2 e3 e4 e5
              go_region_held3 (fun U => U.cell? ⟨w.heap.size + 1, 0, none⟩ = some (.slice a0 n0 u0) ∧ U.cell? ⟨w.heap.size + 1, 1, none⟩ = some (.slice a1 n1 u1) ∧ U.cell? ⟨w.heap.size + 1, 2, none⟩ = some (.slice a2 n2 u2) ∧ U.cell? ⟨w.heap.size + 1, 3, none⟩ = some (.slice a3 n3 u3) ∧ U.cell? ⟨q, 0, none⟩ = some (.int .i64 (pk ra 2)) ∧ U.cell? ⟨q, 1, none⟩ = some (.int .i64 (1 + pk rb 2)) ∧ U.cell? ⟨b, off + k * 6 + 4, none⟩ = some (.int .i64 rd) ∧ U.cell? ⟨b, off + k * 6 + 5, none⟩ = some (.int .i64 re))
                (exact KX.out _ (by (with_reducible repeat (first | exact Below.refl _ _ | exact hu2 | refine nD ?_ | refine nA ?_ _ | refine nS ?_ (by first | omega | (simp; done)) _)); done))
                (first | (go_at_call 13; refine (picked_any _ _ _ (by assumption) (by decide) (by decide)).mono ?_; rintro e u ⟨rfl, hu⟩; rw [hu]; clear hu; (try rw [hZ]); (try rw [hY])) | (go_at_call 36; refine (hCall _ (HSX.out _ (by (with_reducible repeat (first | exact Below.refl _ _ | exact hu2 | refine nD ?_ | refine nA ?_ _ | refine nS ?_ (by first | omega | (simp; done)) _)); done))).mono ?_; rintro e w2 ⟨⟨b0, m0, v0, b1, m1, v1, b2, m2, v2, b3, m3, v3, yi, yl, yd, yo⟩, rfl, hO2', hd2, hb2⟩; simp only []; have hu2 : Below X.heap.size X w2 := nT (by (with_reducible repeat (first | exact Below.refl _ _ | exact hu2 | refine nD ?_ | refine nA ?_ _ | refine nS ?_ (by first | omega | (simp; done)) _)); done) hb2; have zu2 := hu2.size; (first | (have bx3 : BoxN w2 X.heap.size 4 [.slice none 0 0, .slice none 0 0, .slice none 0 0, .slice none 0 0] := (boxn_new X.drew #[.slice none 0 0, .slice none 0 0, .slice none 0 0, .slice none 0 0] 55 4 rfl).below hb2 (by simp); have s0 : _ = some (Value.slice none 0 0) := (bx3.c 0 (by decide)).1; have s1 : _ = some (Value.slice none 0 0) := (bx3.c 1 (by decide)).1; have s2 : _ = some (Value.slice none 0 0) := (bx3.c 2 (by decide)).1; have s3 : _ = some (Value.slice none 0 0) := (bx3.c 3 (by decide)).1; have g0 := (bx3.c 0 (by decide)).2; have g1 := (bx3.c 1 (by decide)).2; have g2 := (bx3.c 2 (by decide)).2; have g3 := (bx3.c 3 (by decide)).2; have zbx3 := bx3.lt) | skip)))
              all_goals
                go_wp2_with fail
                go_meet
                case rel => first | exact ⟨_, ⟨b0, m0, v0, b1, m1, v1, b2, m2, v2, b3, m3, v3, yi, yl, yd, yo⟩, rfl, rfl, (((bx3.set 0 (by decide) (.slice b0 m0 v0)).set 1 (by decide) (.slice b1 m1 v1)).set 2 (by decide) (.slice b2 m2 v2)).set 3 (by decide) (.slice b3 m3 v3), (hO2'.four (b := X.heap.size) (by simp) _ _ _ _).base (by simp; omega), hd2, by (with_reducible repeat (first | exact Below.refl _ _ | exact hu2 | refine nD ?_ | refine nA ?_ _ | refine nS ?_ (by first | omega | (simp; done)) _)); done⟩ | exact ⟨_, ⟨b0, m0, v0, b1, m1, v1, b2, m2, v2, b3, m3, v3, yi, yl, yd, yo⟩, rfl, rfl, boxn_new w2 #[.slice b0 m0 v0, .slice b1 m1 v1, .slice b2 m2 v2, .slice b3 m3 v3] _ 4 rfl, (hO2'.below ((Below.refl _ _).alloc (Nat.le_refl _) _)).base (by first | omega | (simp; omega)), hd2, by (with_reducible repeat (first | exact Below.refl _ _ | exact hu2 | refine nD ?_ | refine nA ?_ _ | refine nS ?_ (by first | omega | (simp; done)) _)); done⟩
            case rest =>
              obtain ⟨q2, ⟨b0, m0, v0, b1, m1, v1, b2, m2, v2, b3, m3, v3, yi, yl, yd, yo⟩, rfl, rfl, hb2x, hO2, hd2, bY⟩ := hcut
              obtain ⟨Y, eY⟩ : ∃ Y, Y = wc := ⟨_, rfl⟩
              rw [← eY] at hb2x hO2 bY ⊢
              simp only [SV.box] at hb2x
              clear eY x0 x1 x2 x3 t0 t1 e0 e1 e2 e3 e4 e5
              have hbY : Below w.heap.size w Y := hbX.trans (bY.mono hbX.size)
              have zyl := hbY.size
              have hbm := hbxX.below bY hbxX.lt
              have hbn := hbrX.below bY hbrX.lt
              have x0 := (hb2x.c 0 (by decide)).1
              have x1 := (hb2x.c 1 (by decide)).1
              have x2 := (hb2x.c 2 (by decide)).1
              have x3 := (hb2x.c 3 (by decide)).1
              have y0 := (hbm.c 0 (by decide)).1
              have y1 := (hbm.c 1 (by decide)).1
              have y2 := (hbm.c 2 (by decide)).1
              have y3 := (hbm.c 3 (by decide)).1
              have f0 := (hbm.c 0 (by decide)).2
              have f1 := (hbm.c 1 (by decide)).2
              have f2 := (hbm.c 2 (by decide)).2
              have f3 := (hbm.c 3 (by decide)).2
              simp only [List.getD_cons_zero, List.getD_cons_succ] at x0 x1 x2 x3 y0 y1 y2 y3
              have zq2 := hb2x.lt
              have zbm := hbm.lt
              by_cases hE : E = 0
              · subst hE
                have hG2 : Gd (SV.data ⟨b0, m0, v0, b1, m1, v1, b2, m2, v2, b3, m3, v3, yi, yl, yd, yo⟩) (1 + 24 * ((k + 1 : Nat) : Int)) := by rw [hd2]; exact HGd.out rfl
                obtain ⟨V, hV⟩ : ∃ V : World, V = (((Y.setCell ⟨w.heap.size + 1, 0, none⟩ (.slice b0 m0 v0)).setCell ⟨w.heap.size + 1, 1, none⟩ (.slice b1 m1 v1)).setCell ⟨w.heap.size + 1, 2, none⟩ (.slice b2 m2 v2)).setCell ⟨w.heap.size + 1, 3, none⟩ (.slice b3 m3 v3) := ⟨_, rfl⟩
                have hOV : OwnStore V (w.heap.size + 2) ⟨b0, m0, v0, b1, m1, v1, b2, m2, v2, b3, m3, v3, yi, yl, yd, yo⟩ := by rw [hV]; exact hO2.four (by omega) _ _ _ _
                have bV : BoxN V (w.heap.size + 1) 4 [.slice b0 m0 v0, .slice b1 m1 v1, .slice b2 m2 v2, .slice b3 m3 v3] := by rw [hV]; exact (((hbm.set 0 (by decide) _).set 1 (by decide) _).set 2 (by decide) _).set 3 (by decide) _
                have bVn : BoxN V w.heap.size 4 SV.nil.box := by rw [hV]; exact (((hbn.far (by omega)).far (by omega)).far (by omega)).far (by omega)
                have hbV : Below w.heap.size w V := by rw [hV]; exact below_four hbY (by omega) _ _ _ _
                go_upto_region 4 with (fail)
                rw [← hV]
                clear hV x0 x1 x2 x3 y0 y1 y2 y3 f0 f1 f2 f3 zq2 zbm
                go_wp2
                go_roundw
                case rel => exact ⟨k + 1, ⟨b0, m0, v0, b1, m1, v1, b2, m2, v2, b3, m3, v3, yi, yl, yd, yo⟩, by go_num, by omega, by omega, hG2, hOV, bV, bVn, hbV⟩
                case measure => simp [intOf]; omega
              · have hOk := hOX.below bY
                have hGk : Gd (SV.data ⟨a0, n0, u0, a1, n1, u1, a2, n2, u2, a3, n3, u3, xi, xl, xd, xo⟩) (1 + 24 * ((k + 1 : Nat) : Int)) := hG.mono (by omega)
                go_wp2
                go_roundw
                case rel => exact ⟨k + 1, ⟨a0, n0, u0, a1, n1, u1, a2, n2, u2, a3, n3, u3, xi, xl, xd, xo⟩, by go_num, by omega, by omega, hGk, hOk, hbm, hbn, hbY⟩
                case measure => simp [intOf]; omega
          ·
            have hCall := fun w' h1 => end_own ⟨a0, n0, u0, a1, n1, u1, a2, n2, u2, a3, n3, u3, xi, xl, xd, xo⟩ (pk ra 2, 1 + pk rb 2) true w' h1 hwf h4
            have HGd : Hid (endErr ⟨a0, n0, u0, a1, n1, u1, a2, n2, u2, a3, n3, u3, xi, xl, xd, xo⟩ (pk ra 2, 1 + pk rb 2) true = 0 → Gd (endData ⟨a0, n0, u0, a1, n1, u1, a2, n2, u2, a3, n3, u3, xi, xl, xd, xo⟩ (pk ra 2, 1 + pk rb 2) true) (1 + 24 * ((k + 1 : Nat) : Int))) := fun he => (gd_end hG (by omega) (by omega) hisT.out he).mono (by omega)
            obtain ⟨E, eE⟩ : ∃ E, E = endErr ⟨a0, n0, u0, a1, n1, u1, a2, n2, u2, a3, n3, u3, xi, xl, xd, xo⟩ (pk ra 2, 1 + pk rb 2) true := ⟨_, rfl⟩
            obtain ⟨D, eD⟩ : ∃ D, D = endData ⟨a0, n0, u0, a1, n1, u1, a2, n2, u2, a3, n3, u3, xi, xl, xd, xo⟩ (pk ra 2, 1 + pk rb 2) true := ⟨_, rfl⟩
            rw [← eE, ← eD] at HGd
            simp only [← eE, ← eD, SV.val] at hCall
            clear eE eD
            go_upto_region 8 with ((go_at_call 13; refine (picked_any _ _ _ (by assumption) (by decide) (by decide)).mono ?_; rintro e u ⟨rfl, hu⟩; rw [hu]; clear hu; (try rw [hZ]); (try rw [hY])))
            go_cut [15, 16] (fun sp se wc => ∃ (q2 : Nat) (r2 : SV), sp = .pointer (some ⟨q2, 0, none⟩) ∧ se = .int .i64 E ∧ BoxN wc q2 4 r2.box ∧ OwnStore wc (w.heap.size + 2) r2 ∧ r2.data = D ∧ Below X.heap.size X wc)
            case first =>
              clear x0 x1 x2 x3 t0 t1 e0 e1 e2 e3 e4 e5
              go_region_held3 (fun U => U.cell? ⟨w.heap.size + 1, 0, none⟩ = some (.slice a0 n0 u0) ∧ U.cell? ⟨w.heap.size + 1, 1, none⟩ = some (.slice a1 n1 u1) ∧ U.cell? ⟨w.heap.size + 1, 2, none⟩ = some (.slice a2 n2 u2) ∧ U.cell? ⟨w.heap.size + 1, 3, none⟩ = some (.slice a3 n3 u3) ∧ U.cell? ⟨q, 0, none⟩ = some (.int .i64 (pk ra 2)) ∧ U.cell? ⟨q, 1, none⟩ = some (.int .i64 (1 + pk rb 2)) ∧ U.cell? ⟨b, off + k * 6 + 4, none⟩ = some (.int .i64 rd) ∧ U.cell? ⟨b, off + k * 6 + 5, none⟩ = some (.int .i64 re))
                (exact KX.out _ (by (with_reducible repeat (first | exact Below.refl _ _ | exact hu2 | refine nD ?_ | refine nA ?_ _ | refine nS ?_ (by first | omega | (simp; done)) _)); done))
                (first | (go_at_call 13; refine (picked_any _ _ _ (by assumption) (by decide) (by decide)).mono ?_; rintro e u ⟨rfl, hu⟩; rw [hu]; clear hu; (try rw [hZ]); (try rw [hY])) | (go_at_call 36; refine (hCall _ (HSX.out _ (by (with_reducible repeat (first | exact Below.refl _ _ | exact hu2 | refine nD ?_ | refine nA ?_ _ | refine nS ?_ (by first | omega | (simp; done)) _)); done))).mono ?_; rintro e w2 ⟨⟨b0, m0, v0, b1, m1, v1, b2, m2, v2, b3, m3, v3, yi, yl, yd, yo⟩, rfl, hO2', hd2, hb2⟩; simp only []; have hu2 : Below X.heap.size X w2 := nT (by (with_reducible repeat (first | exact Below.refl _ _ | exact hu2 | refine nD ?_ | refine nA ?_ _ | refine nS ?_ (by first | omega | (simp; done)) _)); done) hb2; have zu2 := hu2.size; (first | (have bx3 : BoxN w2 X.heap.size 4 [.slice none 0 0, .slice none 0 0, .slice none 0 0, .slice none 0 0] := (boxn_new X.drew #[.slice none 0 0, .slice none 0 0, .slice none 0 0, .slice none 0 0] 55 4 rfl).below hb2 (by simp); have s0 : _ = some (Value.slice none 0 0) := (bx3.c 0 (by decide)).1; have s1 : _ = some (Value.slice none 0 0) := (bx3.c 1 (by decide)).1; have s2 : _ = some (Value.slice none 0 0) := (bx3.c 2 (by decide)).1; have s3 : _ = some (Value.slice none 0 0) := (bx3.c 3 (by decide)).1; have g0 := (bx3.c 0 (by decide)).2; have g1 := (bx3.c 1 (by decide)).2; have g2 := (bx3.c 2 (by decide)).2; have g3 := (bx3.c 3 (by decide)).2; have zbx3 := bx3.lt) | skip)))
              all_goals
                go_wp2_with fail
                go_meet
                case rel => first | exact ⟨_, ⟨b0, m0, v0, b1, m1, v1, b2, m2, v2, b3, m3, v3, yi, yl, yd, yo⟩, rfl, rfl, (((bx3.set 0 (by decide) (.slice b0 m0 v0)).set 1 (by decide) (.slice b1 m1 v1)).set 2 (by decide) (.slice b2 m2 v2)).set 3 (by decide) (.slice b3 m3 v3), (hO2'.four (b := X.heap.size) (by simp) _ _ _ _).base (by simp; omega), hd2, by (with_reducible repeat (first | exact Below.refl _ _ | exact hu2 | refine nD ?_ | refine nA ?_ _ | refine nS ?_ (by first | omega | (simp; done)) _)); done⟩ | exact ⟨_, ⟨b0, m0, v0, b1, m1, v1, b2, m2, v2, b3, m3, v3, yi, yl, yd, yo⟩, rfl, rfl, boxn_new w2 #[.slice b0 m0 v0, .slice b1 m1 v1, .slice b2 m2 v2, .slice b3 m3 v3] _ 4 rfl, (hO2'.below ((Below.refl _ _).alloc (Nat.le_refl _) _)).base (by first | omega | (simp; omega)), hd2, by (with_reducible repeat (first | exact Below.refl _ _ | exact hu2 | refine nD ?_ | refine nA ?_ _ | refine nS ?_ (by first | omega | (simp; done)) _)); done⟩
            case rest =>
              obtain ⟨q2, ⟨b0, m0, v0, b1, m1, v1, b2, m2, v2, b3, m3, v3, yi, yl, yd, yo⟩, rfl, rfl, hb2x, hO2, hd2, bY⟩ := hcut
              obtain ⟨Y, eY⟩ : ∃ Y, Y = wc := ⟨_, rfl⟩
              rw [← eY] at hb2x hO2 bY ⊢
              simp only [SV.box] at hb2x
              clear eY x0 x1 x2 x3 t0 t1 e0 e1 e2 e3 e4 e5
              have hbY : Below w.heap.size w Y := hbX.trans (bY.mono hbX.size)
              have zyl := hbY.size
              have hbm := hbxX.below bY hbxX.lt
              have hbn := hbrX.below bY hbrX.lt
              have x0 := (hb2x.c 0 (by decide)).1
              have x1 := (hb2x.c 1 (by decide)).1
              have x2 := (hb2x.c 2 (by decide)).1
              have x3 := (hb2x.c 3 (by decide)).1
              have y0 := (hbm.c 0 (by decide)).1
              have y1 := (hbm.c 1 (by decide)).1
              have y2 := (hbm.c 2 (by decide)).1
              have y3 := (hbm.c 3 (by decide)).1
              have f0 := (hbm.c 0 (by decide)).2
              have f1 := (hbm.c 1 (by decide)).2
              have f2 := (hbm.c 2 (by decide)).2
              have f3 := (hbm.c 3 (by decide)).2
              simp only [List.getD_cons_zero, List.getD_cons_succ] at x0 x1 x2 x3 y0 y1 y2 y3
              have zq2 := hb2x.lt
              have zbm := hbm.lt
              by_cases hE : E = 0
              · subst hE
                have hG2 : Gd (SV.data ⟨b0, m0, v0, b1, m1, v1, b2, m2, v2, b3, m3, v3, yi, yl, yd, yo⟩) (1 + 24 * ((k + 1 : Nat) : Int)) := by rw [hd2]; exact HGd.out rfl
                obtain ⟨V, hV⟩ : ∃ V : World, V = (((Y.setCell ⟨w.heap.size + 1, 0, none⟩ (.slice b0 m0 v0)).setCell ⟨w.heap.size + 1, 1, none⟩ (.slice b1 m1 v1)).setCell ⟨w.heap.size + 1, 2, none⟩ (.slice b2 m2 v2)).setCell ⟨w.heap.size + 1, 3, none⟩ (.slice b3 m3 v3) := ⟨_, rfl⟩
                have hOV : OwnStore V (w.heap.size + 2) ⟨b0, m0, v0, b1, m1, v1, b2, m2, v2, b3, m3, v3, yi, yl, yd, yo⟩ := by rw [hV]; exact hO2.four (by omega) _ _ _ _
                have bV : BoxN V (w.heap.size + 1) 4 [.slice b0 m0 v0, .slice b1 m1 v1, .slice b2 m2 v2, .slice b3 m3 v3] := by rw [hV]; exact (((hbm.set 0 (by decide) _).set 1 (by decide) _).set 2 (by decide) _).set 3 (by decide) _
                have bVn : BoxN V w.heap.size 4 SV.nil.box := by rw [hV]; exact (((hbn.far (by omega)).far (by omega)).far (by omega)).far (by omega)
                have hbV : Below w.heap.size w V := by rw [hV]; exact below_four hbY (by omega) _ _ _ _
                go_upto_region 4 with (fail)
                rw [← hV]
                clear hV x0 x1 x2 x3 y0 y1 y2 y3 f0 f1 f2 f3 zq2 zbm
                go_wp2
                go_roundw
                case rel => exact ⟨k + 1, ⟨b0, m0, v0, b1, m1, v1, b2, m2, v2, b3, m3, v3, yi, yl, yd, yo⟩, by go_num, by omega, by omega, hG2, hOV, bV, bVn, hbV⟩
                case measure => simp [intOf]; omega
              · have hOk := hOX.below bY
                have hGk : Gd (SV.data ⟨a0, n0, u0, a1, n1, u1, a2, n2, u2, a3, n3, u3, xi, xl, xd, xo⟩) (1 + 24 * ((k + 1 : Nat) : Int)) := hG.mono (by omega)
                go_wp2
                go_roundw
                case rel => exact ⟨k + 1, ⟨a0, n0, u0, a1, n1, u1, a2, n2, u2, a3, n3, u3, xi, xl, xd, xo⟩, by go_num, by omega, by omega, hGk, hOk, hbm, hbn, hbY⟩
                case measure => simp [intOf]; omega
    · have hfin : Gd (SV.data ⟨a0, n0, u0, a1, n1, u1, a2, n2, u2, a3, n3, u3, xi, xl, xd, xo⟩) 961 := hG.mono (by omega)
      simp only [SV.box] at hbx
      have x0 := (hbx.c 0 (by decide)).1
      have x1 := (hbx.c 1 (by decide)).1
      have x2 := (hbx.c 2 (by decide)).1
      have x3 := (hbx.c 3 (by decide)).1
      have r0 := (hbr.c 0 (by decide)).1
      have r1 := (hbr.c 1 (by decide)).1
      have r2 := (hbr.c 2 (by decide)).1
      have r3 := (hbr.c 3 (by decide)).1
      have f0 := (hbr.c 0 (by decide)).2
      have f1 := (hbr.c 1 (by decide)).2
      have f2 := (hbr.c 2 (by decide)).2
      have f3 := (hbr.c 3 (by decide)).2
      simp only [List.getD_cons_zero, List.getD_cons_succ, SV.nil, SV.box] at x0 x1 x2 x3 r0 r1 r2 r3
      have z1 := hbx.lt
      have z0 := hbr.lt
      have hkl : ¬ ((k : Int) < (len : Int)) ∨ ((k : Int) < (len : Int) ∧ ¬ ((k : Int) < M)) := by
        by_cases hq : (k : Int) < (len : Int)
        · exact .inr ⟨hq, fun e => hlt ⟨by omega, e⟩⟩
        · exact .inl hq
      rcases hkl with hq | ⟨hq, hq2⟩
      all_goals
        go_wp2
        refine bodyPost_ret (v := .agg #[.slice a0 n0 u0, .slice a1 n1 u1, .slice a2 n2 u2, .slice a3 n3 u3]) (by simp [results, Tryd.results16, go_sem, r0, r1, r2, r3]) rfl ?_
        exact ⟨⟨a0, n0, u0, a1, n1, u1, a2, n2, u2, a3, n3, u3, xi, xl, xd, xo⟩, rfl, (hO.four (b := w.heap.size) (by omega) _ _ _ _).base (by omega), hfin, below_four hb (Nat.le_refl _) _ _ _ _⟩
end Go.Proofs.YtgohpgollpjlnaaDoor.St
/- The walk of the law ShowList: at any numbers it returns true and leaves what was in memory. -/
namespace Go.Proofs.YtgohpgollpjlnaaDoor.Cn
open Go.ChangeShapes Go.WideShapes Go.ChangeAt Go.RowKit
open Go.Proofs.YtgohpgollpjlnaaDoor.St (BoxN boxn_new SV IsStore IsRow DbV storeOK TxWf own_below txOK OwnStore Gd IsRaws)
open Go.Proofs.YtgohpgollpjlnaaDoor.Pt (IsStores NV IsNotes)
set_option linter.unusedVariables false

/-- One store, and no notes, in slices that were just made. -/
theorem one_store {u : World} {r : SV} (h : IsStore u r) (hw : ∀ t ∈ r.over, TxWf t) : IsStores (u.alloc (.cells #[.slice r.ia r.il r.ic, .slice r.la r.ll r.lc, .slice r.da r.dl r.dc, .slice r.oa r.ol r.oc] 55)) (some ⟨u.heap.size, 0, none⟩) 1 1 [r] := by
  have hb : (u.alloc (.cells #[.slice r.ia r.il r.ic, .slice r.la r.ll r.lc, .slice r.da r.dl r.dc, .slice r.oa r.ol r.oc] 55)).heap[u.heap.size]? = some (.cells #[.slice r.ia r.il r.ic, .slice r.la r.ll r.lc, .slice r.da r.dl r.dc, .slice r.oa r.ol r.oc] 55 (0, 0)) := heap_alloc_new u _
  refine ⟨⟨rfl, Nat.le_refl _, by unfold maxLen; omega, fun e => by simp at e, fun _ => ⟨u.heap.size, 0, rfl, by simp, fun i hi j hj => ?_⟩⟩, fun i hi => ?_⟩
  · rw [cell_of_row _ u.heap.size _ _ 55 (0, 0) hb]
    obtain rfl : i = 0 := by omega
    rcases (by omega : j = 0 ∨ j = 1 ∨ j = 2 ∨ j = 3) with rfl | rfl | rfl | rfl <;> rfl
  · obtain rfl : i = 0 := by omega
    exact ⟨h.below ((Below.refl _ _).alloc (Nat.le_refl _) _), hw⟩
theorem no_notes (u : World) (q : Nat) (hq : q = u.heap.size) : IsNLs (u.alloc (.cells #[.slice none 0 0] 49)) (some ⟨q, 0, none⟩) 1 1 [⟨none, 0, 0, []⟩] := by
  subst hq
  have hb : (u.alloc (.cells #[.slice none 0 0] 49)).heap[u.heap.size]? = some (.cells #[.slice none 0 0] 49 (0, 0)) := heap_alloc_new u _
  refine ⟨⟨rfl, Nat.le_refl _, by unfold maxLen; omega, fun e => by simp at e, fun _ => ⟨u.heap.size, 0, rfl, by simp, fun i hi j hj => ?_⟩⟩, fun i hi => ?_⟩
  · rw [cell_of_row _ u.heap.size _ _ 49 (0, 0) hb]
    obtain rfl : i = 0 := by omega
    obtain rfl : j = 0 := by omega
    rfl
  · obtain rfl : i = 0 := by omega
    exact St.isRow_nil _ _ _
theorem sh_one {r : SV} (h : storeOK r = true) : shErr 1 LS1 3 0 [r] [⟨none, 0, 0, []⟩] = 0 := by
  unfold shErr
  rw [if_pos cfg_one, if_pos (by decide), if_pos ⟨rfl, rfl⟩, if_pos]
  intro i hi
  have hi2 : i = 0 := by simp [LS1] at hi; omega
  subst hi2
  exact ⟨h, rfl⟩
/-- What is told of the one store. -/
theorem show_one (g0 : Nat) (r : SV) (u : World) (hl : IsLabs u (some ⟨g0, 0, none⟩) 1 1 LS1) (h : IsStore u r) (hw : ∀ t ∈ r.over, TxWf t) (hok : storeOK r = true) (xk xs xn : Int) (hk : xk ≠ 4) (hT : ∀ U, Below u.heap.size u U → Lib.TabIs Tryd.prog U "internal/strconv.uint64pow10" .u64 Lib.pow10Tab) :
    Calls Tryd.prog 11 #[.agg #[.int .i64 1, .slice (some ⟨g0, 0, none⟩) 1 1, .int .i64 3], .int .i64 0, .slice (some ⟨u.heap.size, 0, none⟩) 1 1, .slice (some ⟨u.heap.size + 1, 0, none⟩) 1 1, .agg #[.int .i64 xk, .int .i64 0, .int .i64 xs, .int .i64 xn, .bool false]] ((u.alloc (.cells #[.slice r.ia r.il r.ic, .slice r.la r.ll r.lc, .slice r.da r.dl r.dc, .slice r.oa r.ol r.oc] 55)).alloc (.cells #[.slice none 0 0] 49)) fun e w' => e = .returned (.tuple #[.string (showTxt LS1 0 [r] [⟨none, 0, 0, []⟩] ⟨xk, 0, xs, xn, false⟩), .int .i64 (kindErr xk)]) ∧ Below u.heap.size u w' := by
  have b1 : Below u.heap.size u (u.alloc (.cells #[.slice r.ia r.il r.ic, .slice r.la r.ll r.lc, .slice r.da r.dl r.dc, .slice r.oa r.ol r.oc] 55)) := (Below.refl _ _).alloc (Nat.le_refl _) _
  have b2 : Below u.heap.size u ((u.alloc (.cells #[.slice r.ia r.il r.ic, .slice r.la r.ll r.lc, .slice r.da r.dl r.dc, .slice r.oa r.ol r.oc] 55)).alloc (.cells #[.slice none 0 0] 49)) := b1.alloc (by simp) _
  have hS := (one_store h hw).below (w' := (u.alloc (.cells #[.slice r.ia r.il r.ic, .slice r.la r.ll r.lc, .slice r.da r.dl r.dc, .slice r.oa r.ol r.oc] 55)).alloc (.cells #[.slice none 0 0] 49)) ((Below.refl _ _).alloc (Nat.le_refl _) _)
  have hN := no_notes (u.alloc (.cells #[.slice r.ia r.il r.ic, .slice r.la r.ll r.lc, .slice r.da r.dl r.dc, .slice r.oa r.ol r.oc] 55)) (u.heap.size + 1) (by simp)
  refine (show_any 1 3 (some ⟨g0, 0, none⟩) 1 1 LS1 0 (some ⟨u.heap.size, 0, none⟩) 1 1 [r] (some ⟨u.heap.size + 1, 0, none⟩) 1 1 [⟨none, 0, 0, []⟩] xk 0 xs xn false _ (hl.below b2) hS hN (fun e => absurd e hk) (fun U hU => hT U (b2.trans (hU.mono b2.size)))).mono ?_
  rintro e w' ⟨rfl, h2⟩
  refine ⟨?_, b2.trans (h2.mono b2.size)⟩
  unfold showOut showErr
  rw [sh_one hok, if_pos rfl, if_pos rfl]
theorem list_one (r : SV) (xs xn : Int) : showTxt LS1 0 [r] [⟨none, 0, 0, []⟩] ⟨1, 0, xs, xn, false⟩ = ⟨(listDb 0 r r.doubts).toArray⟩ := by
  unfold showTxt
  rw [if_pos rfl]
  have : listGo LS1 0 0 [r] = listDb 0 r r.doubts := by
    simp only [listGo]
    rw [show ((0 : Nat) : Int) = 0 from rfl, sees_one]
    simp
  rw [this]
theorem stat_one (r : SV) (xs xn : Int) : showTxt LS1 0 [r] [⟨none, 0, 0, []⟩] ⟨2, 0, xs, xn, false⟩ = if prepB r (xs, xn) then ⟨#[112, 114, 101, 112, 97, 114, 101, 100, 10]⟩ else ⟨#[117, 110, 107, 110, 111, 119, 110, 10]⟩ := by
  unfold showTxt
  rw [if_neg (by simp), if_pos rfl]
  unfold stText
  rw [sees_one, Bool.true_and]
  rfl
theorem byte_at {l : List UInt8} {i : Nat} (h : i < l.length) (w : World) : (Instr.index 9 (.string ⟨l.toArray⟩) (.int .i64 (i : Int))).run Tryd.prog w = .ok (.int .u8 ((l.getD i 0).toNat : Int)) w := by
  have hs : (⟨l.toArray⟩ : ByteArray).size = l.length := by show l.toArray.size = _; simp
  have hi : 0 ≤ (i : Int) ∧ (i : Int) < ((⟨l.toArray⟩ : ByteArray).size : Int) := ⟨by omega, by rw [hs]; omega⟩
  rw [run_index_string w 9 ⟨l.toArray⟩ .i64 (i : Int) Tryd.underlying9, dif_pos hi]
  have e : (⟨l.toArray⟩ : ByteArray)[(i : Int).toNat]'(by rw [hs]; simpa using h) = l.getD i 0 := by
    show l.toArray[(i : Int).toNat]'_ = _
    simp [List.getD, h]
  rw [e]
theorem count_at {l : List UInt8} {i : Nat} (h : i < l.length) : (l.take (i + 1)).count 10 = (l.take i).count 10 + (if l.getD i 0 = 10 then 1 else 0) := by
  have e : l.take (i + 1) = l.take i ++ [l.getD i 0] := by
    rw [List.take_succ_eq_append_getElem h]; simp [List.getD, h]
  rw [e, List.count_append]
  congr 1
  rw [List.count_singleton]
  by_cases h10 : l.getD i 0 = 10
  · rw [if_pos h10, h10]; rfl
  · rw [if_neg h10]; simp only [beq_iff_eq, if_neg h10]
set_option maxRecDepth 100000 in
set_option maxHeartbeats 8000000 in
theorem showList_walk (a : Option Addr) (len cap : Nat) (rs : List St.RV) (w : World) (hr : IsRaws w a len cap rs) (hT : ∀ U, Below w.heap.size w U → Lib.TabIs Tryd.prog U "internal/strconv.uint64pow10" .u64 Lib.pow10Tab) :
    Calls Tryd.prog 8 #[.slice a len cap] w fun e w' => e = .returned (.bool true) ∧ Below w.heap.size w w' := by
  have HT : Hid (∀ U, Below w.heap.size w U → Lib.TabIs Tryd.prog U "internal/strconv.uint64pow10" .u64 Lib.pow10Tab) := hT
  clear hT
  have hLo := lone_any w
  go_enter Tryd.func8, Tryd.ntmps8
  go_upto_region 2 with (go_at_call 17; refine hLo.mono ?_; rintro e w1 ⟨g0, rfl, hl, hb1⟩)
  clear hLo
  obtain ⟨X1, eX1⟩ : ∃ X : World, X = w1.alloc (.cells #[.int .i64 1, .slice (some ⟨g0, 0, none⟩) 1 1, .int .i64 3] 32) := ⟨_, rfl⟩
  have oC : ObAt X1 w1.heap.size #[.int .i64 1, .slice (some ⟨g0, 0, none⟩) 1 1, .int .i64 3] 32 := by rw [eX1]; exact ObAt.new w1 _ _
  have bX1 : Below w1.heap.size w1 X1 := by rw [eX1]; exact (Below.refl _ _).alloc (Nat.le_refl _) _
  rw [← eX1]
  clear eX1
  have bwX := hb1.trans (bX1.mono hb1.size)
  have hSt := St.store_made a len cap rs 25 X1 (hr.below bwX) (by omega)
  go_upto_region 3 with (go_at_call 16; refine hSt.mono ?_; rintro e w2 ⟨⟨ra0, rn0, rc0, ra1, rn1, rc1, ra2, rn2, rc2, ra3, rn3, rc3, ri, rl, rd, ro⟩, rfl, hO, hG, hb2⟩; simp only [SV.val])
  clear hSt hr
  obtain ⟨X2, eX2⟩ : ∃ X : World, X = w2.alloc (.cells #[.slice ra0 rn0 rc0, .slice ra1 rn1 rc1, .slice ra2 rn2 rc2, .slice ra3 rn3 rc3] 55) := ⟨_, rfl⟩
  have oS : ObAt X2 w2.heap.size #[.slice ra0 rn0 rc0, .slice ra1 rn1 rc1, .slice ra2 rn2 rc2, .slice ra3 rn3 rc3] 55 := by rw [eX2]; exact ObAt.new w2 _ _
  have bX2 : Below w2.heap.size w2 X2 := by rw [eX2]; exact (Below.refl _ _).alloc (Nat.le_refl _) _
  rw [← eX2]
  clear eX2
  have bX12 : Below X1.heap.size X1 X2 := hb2.trans (bX2.mono hb2.size)
  have bw2 : Below w.heap.size w X2 := bwX.trans (bX12.mono bwX.size)
  have hok : storeOK ⟨ra0, rn0, rc0, ra1, rn1, rc1, ra2, rn2, rc2, ra3, rn3, rc3, ri, rl, rd, ro⟩ = true := hG.ok.ok
  have hwf := hG.wf
  have hIS : IsStore X2 ⟨ra0, rn0, rc0, ra1, rn1, rc1, ra2, rn2, rc2, ra3, rn3, rc3, ri, rl, rd, ro⟩ := hO.isStore.below bX2
  have oC2 := oC.below bX12
  have KV : Hid (∀ U, Below X2.heap.size X2 U → ObAt U w1.heap.size #[.int .i64 1, .slice (some ⟨g0, 0, none⟩) 1 1, .int .i64 3] 32 ∧ ObAt U w2.heap.size #[.slice ra0 rn0 rc0, .slice ra1 rn1 rc1, .slice ra2 rn2 rc2, .slice ra3 rn3 rc3] 55 ∧ IsLabs U (some ⟨g0, 0, none⟩) 1 1 LS1 ∧ IsStore U ⟨ra0, rn0, rc0, ra1, rn1, rc1, ra2, rn2, rc2, ra3, rn3, rc3, ri, rl, rd, ro⟩ ∧ Below w.heap.size w U) := fun U hU => ⟨oC2.below hU, oS.below hU, ((hl.below bX1).below bX12).below hU, hIS.below hU, bw2.trans (hU.mono bw2.size)⟩
  have KS : Hid (∀ U, Below X2.heap.size X2 U → ∀ xk xs xn : Int, xk ≠ 4 → Calls Tryd.prog 11 #[.agg #[.int .i64 1, .slice (some ⟨g0, 0, none⟩) 1 1, .int .i64 3], .int .i64 0, .slice (some ⟨U.heap.size, 0, none⟩) 1 1, .slice (some ⟨U.heap.size + 1, 0, none⟩) 1 1, .agg #[.int .i64 xk, .int .i64 0, .int .i64 xs, .int .i64 xn, .bool false]] ((U.alloc (.cells #[.slice ra0 rn0 rc0, .slice ra1 rn1 rc1, .slice ra2 rn2 rc2, .slice ra3 rn3 rc3] 55)).alloc (.cells #[.slice none 0 0] 49)) fun e w' => e = .returned (.tuple #[.string (showTxt LS1 0 [⟨ra0, rn0, rc0, ra1, rn1, rc1, ra2, rn2, rc2, ra3, rn3, rc3, ri, rl, rd, ro⟩] [⟨none, 0, 0, []⟩] ⟨xk, 0, xs, xn, false⟩), .int .i64 (kindErr xk)]) ∧ Below U.heap.size U w') := fun U hU xk xs xn hk => by
    obtain ⟨-, -, h1, h2, h3⟩ := KV.out U hU
    exact show_one g0 ⟨ra0, rn0, rc0, ra1, rn1, rc1, ra2, rn2, rc2, ra3, rn3, rc3, ri, rl, rd, ro⟩ U h1 h2 hwf hok xk xs xn hk (fun Z hZ => HT.out Z (h3.trans (hZ.mono h3.size)))
  have KW : Hid (∀ U, Below X2.heap.size X2 U → ∀ t1 t2 : Int, Calls Tryd.prog 18 #[.agg #[.slice ra0 rn0 rc0, .slice ra1 rn1 rc1, .slice ra2 rn2 rc2, .slice ra3 rn3 rc3], .agg #[.int .i64 t1, .int .i64 t2]] U fun e w' => e = .returned (.tuple #[.int .i64 (St.cntIs ⟨ra0, rn0, rc0, ra1, rn1, rc1, ra2, rn2, rc2, ra3, rn3, rc3, ri, rl, rd, ro⟩ (t1, t2)), .int .i64 (St.cntErr ⟨ra0, rn0, rc0, ra1, rn1, rc1, ra2, rn2, rc2, ra3, rn3, rc3, ri, rl, rd, ro⟩ (t1, t2))]) ∧ Below U.heap.size U w') := fun U hU t1 t2 => St.writes_count ⟨ra0, rn0, rc0, ra1, rn1, rc1, ra2, rn2, rc2, ra3, rn3, rc3, ri, rl, rd, ro⟩ (t1, t2) U (KV.out U hU).2.2.2.1 hwf
  have hnn := ok_nn hok
  have HP : Hid (∀ d ∈ rd, St.cntErr ⟨ra0, rn0, rc0, ra1, rn1, rc1, ra2, rn2, rc2, ra3, rn3, rc3, ri, rl, rd, ro⟩ d.t = 0 ∧ prepB ⟨ra0, rn0, rc0, ra1, rn1, rc1, ra2, rn2, rc2, ra3, rn3, rc3, ri, rl, rd, ro⟩ d.t = decide (0 < St.cntIs ⟨ra0, rn0, rc0, ra1, rn1, rc1, ra2, rn2, rc2, ra3, rn3, rc3, ri, rl, rd, ro⟩ d.t)) := fun d hd => prep_writes hok (hnn d hd).2.2.2
  obtain ⟨TX, eTX⟩ : ∃ l, l = listDb 0 ⟨ra0, rn0, rc0, ra1, rn1, rc1, ra2, rn2, rc2, ra3, rn3, rc3, ri, rl, rd, ro⟩ rd := ⟨_, rfl⟩
  have hcnt : TX.count 10 = prepN ⟨ra0, rn0, rc0, ra1, rn1, rc1, ra2, rn2, rc2, ra3, rn3, rc3, ri, rl, rd, ro⟩ rd := by rw [eTX]; exact list_ends (by omega) rd hnn
  have hsz := St.ok_sizes hok hIS
  have hdl : rn2 ≤ 24 := hsz.2.2
  have hrl : rd.length = rn2 := hIS.doubts.1
  have htl : TX.length ≤ 6000 := by
    have := listDb_len (k := 0) (s := ⟨ra0, rn0, rc0, ra1, rn1, rc1, ra2, rn2, rc2, ra3, rn3, rc3, ri, rl, rd, ro⟩) (by unfold i64; omega) rd (ok_i64 hok)
    rw [eTX]
    have h9 : rd.length ≤ 24 := by omega
    omega
  have hL1 : ∀ xs xn, showTxt LS1 0 [⟨ra0, rn0, rc0, ra1, rn1, rc1, ra2, rn2, rc2, ra3, rn3, rc3, ri, rl, rd, ro⟩] [⟨none, 0, 0, []⟩] ⟨1, 0, xs, xn, false⟩ = ⟨TX.toArray⟩ := fun xs xn => by rw [eTX]; exact list_one ⟨ra0, rn0, rc0, ra1, rn1, rc1, ra2, rn2, rc2, ra3, rn3, rc3, ri, rl, rd, ro⟩ xs xn
  have HPre : Hid (∀ i, i < rn2 → prepN ⟨ra0, rn0, rc0, ra1, rn1, rc1, ra2, rn2, rc2, ra3, rn3, rc3, ri, rl, rd, ro⟩ (rd.take (i + 1)) = prepN ⟨ra0, rn0, rc0, ra1, rn1, rc1, ra2, rn2, rc2, ra3, rn3, rc3, ri, rl, rd, ro⟩ (rd.take i) + (if prepB ⟨ra0, rn0, rc0, ra1, rn1, rc1, ra2, rn2, rc2, ra3, rn3, rc3, ri, rl, rd, ro⟩ (rd.getD i default).t then 1 else 0)) := fun i hi => prepN_at (by omega)
  have HN0 : Hid (prepN ⟨ra0, rn0, rc0, ra1, rn1, rc1, ra2, rn2, rc2, ra3, rn3, rc3, ri, rl, rd, ro⟩ (rd.take 0) = 0) := rfl
  have HNt : Hid (prepN ⟨ra0, rn0, rc0, ra1, rn1, rc1, ra2, rn2, rc2, ra3, rn3, rc3, ri, rl, rd, ro⟩ (rd.take rn2) = TX.count 10) := by show _ = _; rw [hcnt, List.take_of_length_le (by omega)]
  clear eTX hcnt hsz hG hO hnn hIS
  have c0 : X2.cell? ⟨w1.heap.size, 0, none⟩ = some (.int .i64 1) := oC2.cell 0
  have c1 : X2.cell? ⟨w1.heap.size, 1, none⟩ = some (.slice (some ⟨g0, 0, none⟩) 1 1) := oC2.cell 1
  have c2 : X2.cell? ⟨w1.heap.size, 2, none⟩ = some (.int .i64 3) := oC2.cell 2
  have zc := oC2.lt
  have s0 : X2.cell? ⟨w2.heap.size, 0, none⟩ = some (.slice ra0 rn0 rc0) := oS.cell 0
  have s1 : X2.cell? ⟨w2.heap.size, 1, none⟩ = some (.slice ra1 rn1 rc1) := oS.cell 1
  have s2 : X2.cell? ⟨w2.heap.size, 2, none⟩ = some (.slice ra2 rn2 rc2) := oS.cell 2
  have s3 : X2.cell? ⟨w2.heap.size, 3, none⟩ = some (.slice ra3 rn3 rc3) := oS.cell 3
  have zs := oS.lt
  have hSh := KS.out X2 (Below.refl _ _) 1 0 0 (by decide)
  rw [hL1, show kindErr 1 = 0 from rfl] at hSh
  clear oC oC2 oS hl
  go_upto_region 4 with (go_at_call 11; refine hSh.mono ?_; rintro e w3 ⟨rfl, hb3⟩)
  clear hSh c0 c1 c2 zc s0 s1 s2 s3 zs hL1
  have oS3 := (KV.out w3 hb3).2.1
  have s2 : w3.cell? ⟨w2.heap.size, 2, none⟩ = some (.slice ra2 rn2 rc2) := oS3.cell 2
  have zs := oS3.lt
  go_upto_region 6 with (fail)
  clear s2 zs oS3
  have hb30 : Below X2.heap.size X2 w3 := hb3
  go_loopw [32, 7, 9] (fun s32 s7 _ wr => ∃ (k : Nat), s32 = .int .i64 (k : Int) ∧ k ≤ rn2 ∧ s7 = .int .i64 (prepN ⟨ra0, rn0, rc0, ra1, rn1, rc1, ra2, rn2, rc2, ra3, rn3, rc3, ri, rl, rd, ro⟩ (rd.take k) : Int) ∧ Below X2.heap.size X2 wr ∧ Hid (prepN ⟨ra0, rn0, rc0, ra1, rn1, rc1, ra2, rn2, rc2, ra3, rn3, rc3, ri, rl, rd, ro⟩ (rd.take k) ≤ k)) (fun s32 _ _ _ => rn2 - (intOf s32).toNat)
  case atStart => exact ⟨0, rfl, by omega, rfl, hb30, by show _ ≤ _; exact Nat.le_refl 0⟩
  case round =>
    obtain ⟨k, rfl, hk, rfl, hbw, hIk⟩ := hrel
    clear hb30 hb3 HN0
    by_cases hlt : k < rn2
    · have hlt' : (k : Int) < (rn2 : Int) := by omega
      have HJ : Hid (k + 1 ≤ rn2) := hlt
      have hST := (KV.out wr hbw).2.2.2.1
      obtain ⟨b2, o2, rfl, zb2, hc⟩ := hST.doubts.2.2.2.2 (by show 0 < rn2; omega)
      have e0 := hc k hlt 0 (by decide)
      have e1 := hc k hlt 1 (by decide)
      have e2 := hc k hlt 2 (by decide)
      have HPk := HP.out (rd.getD k default) (by rw [List.getD, List.getElem?_eq_getElem (by omega)]; exact List.getElem_mem _)
      have HQ := HPre.out k hlt
      simp only [] at e0 e1 e2
      obtain ⟨d, ed⟩ : ∃ d, d = rd.getD k default := ⟨_, rfl⟩
      rw [← ed] at e0 e1 e2 HPk HQ
      clear ed hc hST
      obtain ⟨⟨t1, t2⟩, ag⟩ := d
      simp only [DbV.cells, List.getElem?_cons_zero, List.getElem?_cons_succ, Nat.add_zero] at e0 e1 e2 HPk HQ
      obtain ⟨HP1, HP2⟩ := HPk
      go_upto_region 8 with (fail)
      obtain ⟨Y, eY⟩ : ∃ X : World, X = wr.alloc (.cells #[.int .i64 t1, .int .i64 t2, .int .i64 ag] 60) := ⟨_, rfl⟩
      have oD : ObAt Y wr.heap.size #[.int .i64 t1, .int .i64 t2, .int .i64 ag] 60 := by rw [eY]; exact ObAt.new wr _ _
      have bY : Below wr.heap.size wr Y := by rw [eY]; exact (Below.refl _ _).alloc (Nat.le_refl _) _
      rw [← eY]
      clear eY e0 e1 e2
      have bYX := hbw.trans (bY.mono hbw.size)
      have KD : Hid (∀ U, Below Y.heap.size Y U → ObAt U wr.heap.size #[.int .i64 t1, .int .i64 t2, .int .i64 ag] 60) := fun U hU => oD.below hU
      obtain ⟨oCy, oSy, -, -, -⟩ := KV.out Y bYX
      have f0 : Y.cell? ⟨wr.heap.size, 0, none⟩ = some (.int .i64 t1) := oD.cell 0
      have f1 : Y.cell? ⟨wr.heap.size, 1, none⟩ = some (.int .i64 t2) := oD.cell 1
      have zf := oD.lt
      have s0 : Y.cell? ⟨w2.heap.size, 0, none⟩ = some (.slice ra0 rn0 rc0) := oSy.cell 0
      have s1 : Y.cell? ⟨w2.heap.size, 1, none⟩ = some (.slice ra1 rn1 rc1) := oSy.cell 1
      have s2 : Y.cell? ⟨w2.heap.size, 2, none⟩ = some (.slice (some ⟨b2, o2, none⟩) rn2 rc2) := oSy.cell 2
      have s3 : Y.cell? ⟨w2.heap.size, 3, none⟩ = some (.slice ra3 rn3 rc3) := oSy.cell 3
      have zs := oSy.lt
      have hWr := KW.out Y bYX t1 t2
      rw [HP1] at hWr
      obtain ⟨CN, eCN⟩ : ∃ x, x = St.cntIs ⟨ra0, rn0, rc0, ra1, rn1, rc1, some ⟨b2, o2, none⟩, rn2, rc2, ra3, rn3, rc3, ri, rl, rd, ro⟩ (t1, t2) := ⟨_, rfl⟩
      rw [← eCN] at hWr HP2
      obtain ⟨PB, ePB⟩ : ∃ x, x = prepB ⟨ra0, rn0, rc0, ra1, rn1, rc1, some ⟨b2, o2, none⟩, rn2, rc2, ra3, rn3, rc3, ri, rl, rd, ro⟩ (t1, t2) := ⟨_, rfl⟩
      rw [← ePB] at HP2 HQ
      clear eCN oD oCy oSy HP1
      go_upto_region 9 with (go_at_call 18; refine hWr.mono ?_; rintro e Z ⟨rfl, hbZ⟩)
      clear f0 f1 zf s0 s1 s2 s3 zs hWr
      have bZX := bYX.trans (hbZ.mono bYX.size)
      obtain ⟨oCz, oSz, -, -, -⟩ := KV.out Z bZX
      have oDz := KD.out Z hbZ
      have f0 : Z.cell? ⟨wr.heap.size, 0, none⟩ = some (.int .i64 t1) := oDz.cell 0
      have f1 : Z.cell? ⟨wr.heap.size, 1, none⟩ = some (.int .i64 t2) := oDz.cell 1
      have zf := oDz.lt
      have s0 : Z.cell? ⟨w2.heap.size, 0, none⟩ = some (.slice ra0 rn0 rc0) := oSz.cell 0
      have s1 : Z.cell? ⟨w2.heap.size, 1, none⟩ = some (.slice ra1 rn1 rc1) := oSz.cell 1
      have s2 : Z.cell? ⟨w2.heap.size, 2, none⟩ = some (.slice (some ⟨b2, o2, none⟩) rn2 rc2) := oSz.cell 2
      have s3 : Z.cell? ⟨w2.heap.size, 3, none⟩ = some (.slice ra3 rn3 rc3) := oSz.cell 3
      have zs := oSz.lt
      have c0 : Z.cell? ⟨w1.heap.size, 0, none⟩ = some (.int .i64 1) := oCz.cell 0
      have c1 : Z.cell? ⟨w1.heap.size, 1, none⟩ = some (.slice (some ⟨g0, 0, none⟩) 1 1) := oCz.cell 1
      have c2 : Z.cell? ⟨w1.heap.size, 2, none⟩ = some (.int .i64 3) := oCz.cell 2
      have zc := oCz.lt
      have hSh := KS.out Z bZX 2 t1 t2 (by decide)
      rw [stat_one, ← ePB, show kindErr 2 = 0 from rfl] at hSh
      clear oCz oSz oDz KD ePB
      have hwn : IntKind.i64.wrap ((prepN ⟨ra0, rn0, rc0, ra1, rn1, rc1, some ⟨b2, o2, none⟩, rn2, rc2, ra3, rn3, rc3, ri, rl, rd, ro⟩ (rd.take k) : Int) + 1) = ((prepN ⟨ra0, rn0, rc0, ra1, rn1, rc1, some ⟨b2, o2, none⟩, rn2, rc2, ra3, rn3, rc3, ri, rl, rd, ro⟩ (rd.take k) + 1 : Nat) : Int) := by have := hIk.out; simp [IntKind.wrap, IntKind.bits, IntKind.signed]; omega
      obtain ⟨PN, ePN⟩ : ∃ x, x = prepN ⟨ra0, rn0, rc0, ra1, rn1, rc1, some ⟨b2, o2, none⟩, rn2, rc2, ra3, rn3, rc3, ri, rl, rd, ro⟩ (rd.take k) := ⟨_, rfl⟩
      rw [← ePN] at hIk HQ hwn ⊢
      clear ePN
      cases PB with
      | true =>
        have hpos : (0 : Int) < CN := by simpa using HP2.symm
        simp only [if_true] at HQ hSh
        have HQ2 : Hid (prepN ⟨ra0, rn0, rc0, ra1, rn1, rc1, some ⟨b2, o2, none⟩, rn2, rc2, ra3, rn3, rc3, ri, rl, rd, ro⟩ (rd.take (k + 1)) = PN + 1) := HQ
        clear HP2 HQ
        go_wp2_with (go_at_call 11; refine hSh.mono ?_; rintro e Z2 ⟨rfl, hbZ2⟩)
        go_roundw
        case rel => exact ⟨k + 1, by go_num, HJ.out, by rw [HQ2.out]; simp, bZX.trans (hbZ2.mono bZX.size), by show _ ≤ _; rw [HQ2.out]; have := hIk.out; omega⟩
        case measure => have := HJ.out; simp [intOf]; omega
      | false =>
        have hpos : ¬ (0 : Int) < CN := by simpa using HP2.symm
        simp only [Bool.false_eq_true, if_false, Nat.add_zero] at HQ hSh
        have HQ2 : Hid (prepN ⟨ra0, rn0, rc0, ra1, rn1, rc1, some ⟨b2, o2, none⟩, rn2, rc2, ra3, rn3, rc3, ri, rl, rd, ro⟩ (rd.take (k + 1)) = PN) := HQ
        clear HP2 HQ hwn
        go_wp2_with (go_at_call 11; refine hSh.mono ?_; rintro e Z2 ⟨rfl, hbZ2⟩)
        go_roundw
        case rel => exact ⟨k + 1, by go_num, HJ.out, by rw [HQ2.out], bZX.trans (hbZ2.mono bZX.size), by show _ ≤ _; rw [HQ2.out]; have := hIk.out; omega⟩
        case measure => have := HJ.out; simp [intOf]; omega
    · obtain rfl : k = rn2 := by omega
      have hnl : ¬ ((k : Int) < (k : Int)) := by omega
      rw [HNt.out] at hIk ⊢
      clear HPre HP KW
      obtain ⟨wo, ewo⟩ : ∃ X : World, X = wr := ⟨_, rfl⟩
      subst ewo
      have HCT : Hid (∀ i, i < TX.length → (TX.take (i + 1)).count 10 = (TX.take i).count 10 + (if TX.getD i 0 = 10 then 1 else 0)) := fun i hi => count_at hi
      have HCe : Hid ((TX.take TX.length).count 10 = TX.count 10) := by show _ = _; rw [List.take_length]
      have HC0 : Hid ((TX.take 0).count 10 = 0) := rfl
      have HCl : Hid (∀ i, (TX.take i).count 10 ≤ TX.count 10) := fun i => List.Sublist.count_le _ (List.take_sublist i TX)
      have HBy : Hid (∀ i, i < TX.length → ∀ U : World, (Instr.index 9 (.string ⟨TX.toArray⟩) (.int .i64 (i : Int))).run Tryd.prog U = .ok (.int .u8 ((TX.getD i 0).toNat : Int)) U) := fun i hi U => byte_at hi U
      have hTs : (⟨TX.toArray⟩ : ByteArray).size = TX.length := by show TX.toArray.size = _; simp
      obtain ⟨TS, eTS⟩ : ∃ x : ByteArray, x = ⟨TX.toArray⟩ := ⟨_, rfl⟩
      rw [← eTS] at hTs HBy ⊢
      obtain ⟨CT, eCT⟩ : ∃ x, x = TX.count 10 := ⟨_, rfl⟩
      rw [← eCT] at hIk HCe HCl ⊢
      obtain ⟨TL, eTL⟩ : ∃ x, x = TX.length := ⟨_, rfl⟩
      rw [← eTL] at hTs htl HCT HCe HBy
      clear eTS eCT HNt
      have hct : CT ≤ 24 := by have := hIk.out; omega
      go_upto_region 18 with (fail)
      go_loopw [14, 7] (fun s14 s7 wr => ∃ (i : Nat), s14 = .int .i64 (i : Int) ∧ i ≤ TL ∧ s7 = .int .i64 ((CT - (TX.take i).count 10 : Nat) : Int) ∧ wr = wo) (fun s14 _ _ => TL - (intOf s14).toNat)
      case atStart => exact ⟨0, rfl, by omega, by rw [HC0.out]; rfl, rfl⟩
      case round =>
        obtain ⟨i, rfl, hi, rfl, rfl⟩ := hrel
        by_cases hlt2 : i < TL
        · have hlt3 : (i : Int) < (TL : Int) := by omega
          have HJ : Hid (i + 1 ≤ TL) := hlt2
          have hB := HBy.out i hlt2 wr
          have HQ := HCT.out i hlt2
          have hle := HCl.out (i + 1)
          obtain ⟨c, ec⟩ : ∃ c, c = TX.getD i 0 := ⟨_, rfl⟩
          rw [← ec] at hB HQ
          clear ec
          obtain ⟨A, eA⟩ : ∃ x, x = (TX.take i).count 10 := ⟨_, rfl⟩
          rw [← eA] at HQ ⊢
          clear eA
          by_cases h10 : c = 10
          · subst h10
            rw [if_pos rfl] at HQ
            have hwn : IntKind.i64.wrap (((CT - A : Nat) : Int) - 1) = ((CT - (A + 1) : Nat) : Int) := by rw [HQ] at hle; simp [IntKind.wrap, IntKind.bits, IntKind.signed]; omega
            have HQ2 : Hid ((TX.take (i + 1)).count 10 = A + 1) := HQ
            clear HQ hle
            have e10 : (((10 : UInt8).toNat : Nat) : Int) = 10 := rfl
            rw [e10] at hB
            go_wp2
            go_roundw
            case rel => exact ⟨i + 1, by go_num, HJ.out, by rw [HQ2.out], trivial⟩
            case measure => have := HJ.out; simp [intOf]; omega
          · rw [if_neg h10] at HQ
            have hne : (((c.toNat : Nat) : Int) == 10) = false := by
              have : c.toNat ≠ 10 := fun e => h10 (UInt8.toNat_inj.1 (by rw [e]; rfl))
              simp; omega
            have HQ2 : Hid ((TX.take (i + 1)).count 10 = A) := HQ
            clear HQ hle h10
            go_wp2
            go_roundw
            case rel => exact ⟨i + 1, by go_num, HJ.out, by rw [HQ2.out], trivial⟩
            case measure => have := HJ.out; simp [intOf]; omega
        · obtain rfl : i = TL := by omega
          have hnl2 : ¬ ((i : Int) < (i : Int)) := by omega
          rw [HCe.out, Nat.sub_self]
          obtain ⟨oCz, oSz, -, -, -⟩ := KV.out wr hbw
          have s0 : wr.cell? ⟨w2.heap.size, 0, none⟩ = some (.slice ra0 rn0 rc0) := oSz.cell 0
          have s1 : wr.cell? ⟨w2.heap.size, 1, none⟩ = some (.slice ra1 rn1 rc1) := oSz.cell 1
          have s2 : wr.cell? ⟨w2.heap.size, 2, none⟩ = some (.slice ra2 k rc2) := oSz.cell 2
          have s3 : wr.cell? ⟨w2.heap.size, 3, none⟩ = some (.slice ra3 rn3 rc3) := oSz.cell 3
          have zs := oSz.lt
          have c0 : wr.cell? ⟨w1.heap.size, 0, none⟩ = some (.int .i64 1) := oCz.cell 0
          have c1 : wr.cell? ⟨w1.heap.size, 1, none⟩ = some (.slice (some ⟨g0, 0, none⟩) 1 1) := oCz.cell 1
          have c2 : wr.cell? ⟨w1.heap.size, 2, none⟩ = some (.int .i64 3) := oCz.cell 2
          have zc := oCz.lt
          have hSh := KS.out wr hbw 3 0 0 (by decide)
          rw [show kindErr 3 = 3 from rfl] at hSh
          obtain ⟨T3, eT3⟩ : ∃ x, x = showTxt LS1 0 [⟨ra0, rn0, rc0, ra1, rn1, rc1, ra2, k, rc2, ra3, rn3, rc3, ri, rl, rd, ro⟩] [⟨none, 0, 0, []⟩] ⟨3, 0, 0, 0, false⟩ := ⟨_, rfl⟩
          rw [← eT3] at hSh
          have hwF := (KV.out wr hbw).2.2.2.2
          clear eT3 oCz oSz HCT HCe HC0 HCl HBy KV KS
          go_wp2_with (go_at_call 11; refine hSh.mono ?_; rintro e Z2 ⟨rfl, hbZ2⟩)
          go_ret
          exact ⟨rfl, hwF.trans (hbZ2.mono hwF.size)⟩
end Go.Proofs.YtgohpgollpjlnaaDoor.Cn
/- Closed facts of the row of ShowList, by the kernel. -/
namespace Go.Proofs.YtgohpgollpjlnaaDoor.showListProof
set_option maxRecDepth 100000
theorem c_inPlace : (Rows.showListRow.inPlace == Tryd.pinned.checked.prog.inPlace 8) = true := by kernel_rfl
end Go.Proofs.YtgohpgollpjlnaaDoor.showListProof
