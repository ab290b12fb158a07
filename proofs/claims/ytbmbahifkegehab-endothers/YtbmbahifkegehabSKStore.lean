/- The contract of reredoskeep.Store: what transactions do, one by one, leaves a store that may be. -/
import Derived.Test.YtbmbahifkegehabSKGood
import Derived.Test.YtbmbahifkegehabSKRaws
import Derived.Test.YtbmbahifkegehabSEnd
import Derived.Test.YtbmbahifkegehabPicked
import Derived.Deep.Cut
import Derived.Deep.RegionHeld3
namespace Go.Proofs.Ytbmbahifkegehab.St
open Go.ChangeShapes Go.WideShapes Go.ChangeAt Go.RowKit
set_option linter.unusedVariables false

theorem nS {W V : World} (h : Below W.heap.size W V) {b i : Nat} (hb : W.heap.size ≤ b) (v : Value) : Below W.heap.size W (V.setCell ⟨b, i, none⟩ v) := h.setCell (p := ⟨b, i, none⟩) hb v
theorem nT {W V U : World} (h : Below W.heap.size W V) (h2 : Below V.heap.size V U) : Below W.heap.size W U := h.trans (h2.mono h.size)
theorem boxn_drew {u : World} {b n : Nat} {vs : List Value} (h : BoxN u b n vs) : BoxN u.drew b n vs := h.below (B := u.heap.size) ((Below.refl _ _).drew) h.lt
theorem isT_of (a b : Int) (ha : 0 ≤ a ∧ a < 2) (hb : 0 ≤ b ∧ b < 2) : isT (a, 1 + b) := by
  have h1 : a = 0 ∨ a = 1 := by omega
  have h2 : b = 0 ∨ b = 1 := by omega
  rcases h1 with rfl | rfl <;> rcases h2 with rfl | rfl <;> simp [isT]
set_option maxRecDepth 100000 in
set_option maxHeartbeats 8000000 in
theorem store_made (a : Option Addr) (len cap : Nat) (rs : List RV) (M : Int) (w : World) (h : IsRaws w a len cap rs) (hM : 0 ≤ M ∧ M ≤ 40) :
    Calls Try.prog 7 #[.slice a len cap, .int .i64 M] w fun e w' => ∃ r : SV, e = .returned r.val ∧ OwnStore w' w.heap.size r ∧ Gd r.data 961 ∧ Below w.heap.size w w' := by
  obtain ⟨M0, M40⟩ := hM
  have hmx : len ≤ maxLen := Nat.le_trans h.row.2.1 h.row.2.2.1
  unfold maxLen at hmx
  obtain ⟨W, hW⟩ : ∃ W : World, W = (w.alloc (.cells #[.slice none 0 0, .slice none 0 0, .slice none 0 0, .slice none 0 0] 28)).alloc (.cells #[.slice none 0 0, .slice none 0 0, .slice none 0 0, .slice none 0 0] 28) := ⟨_, rfl⟩
  have hP := pre_of w SV.nil (isStore_nil w)
  simp only [SV.nil] at hP
  rw [← hW] at hP
  have hp1 := hP.par
  have hp2 := hP.res
  have hB := hP.bel
  clear hP
  go_enter Try.func7, Try.ntmps7
  go_upto_region 2 with (fail)
  rw [← hW]
  clear hW
  go_wp2
  go_loopw [6, 7, 8, 9, 10, 11, 12, 13, 14, 15, 16] (fun s6 _ _ _ _ _ _ _ _ _ _ wr => ∃ (k : Nat) (r : SV), s6 = .int .i64 (k : Int) ∧ k ≤ len ∧ (k : Int) ≤ M ∧ Gd r.data (1 + 24 * k) ∧ OwnStore wr (w.heap.size + 2) r ∧ BoxN wr (w.heap.size + 1) 4 r.box ∧ BoxN wr w.heap.size 4 SV.nil.box ∧ Below w.heap.size w wr) (fun s6 _ _ _ _ _ _ _ _ _ _ _ => len - (intOf s6).toNat)
  case atStart => exact ⟨0, SV.nil, rfl, Nat.zero_le _, M0, gd_nil, ownStore_nil _ _, hp2, hp1, hB⟩
  case round =>
    clear hp1 hp2 hB
    obtain ⟨k, ⟨a0, n0, u0, a1, n1, u1, a2, n2, u2, a3, n3, u3, xi, xl, xd, xo⟩, rfl, hk, hkM, hG, hO, hbx, hbr, hb⟩ := hrel
    by_cases hlt : k < len ∧ (k : Int) < M
    · obtain ⟨hlt, hltM⟩ := hlt
      have hlt' : (k : Int) < (len : Int) := by omega
      have hlen : rs.length = len := h.row.1
      have hrok := h.ok _ (getD_mem (l := rs) (i := k) (by omega))
      obtain ⟨b, off, rfl, zb, hc⟩ := h.row.2.2.2.2 (by omega)
      have hcells := hc k hlt
      obtain ⟨x, ex⟩ : ∃ x, x = rs.getD k default := ⟨_, rfl⟩
      rw [← ex] at hcells hrok
      clear ex hc hlen
      obtain ⟨kd, ra, rb, rc, rd, re⟩ := x
      obtain ⟨okd, ora, orb, orc, ord, ore⟩ := hrok
      have KE0 : Hid (∀ U, Below w.heap.size w U → U.cell? ⟨b, off + k * 6, none⟩ = some (.int .i64 kd) ∧ U.cell? ⟨b, off + k * 6 + 1, none⟩ = some (.int .i64 ra) ∧ U.cell? ⟨b, off + k * 6 + 2, none⟩ = some (.int .i64 rb) ∧ U.cell? ⟨b, off + k * 6 + 3, none⟩ = some (.int .i64 rc) ∧ U.cell? ⟨b, off + k * 6 + 4, none⟩ = some (.int .i64 rd) ∧ U.cell? ⟨b, off + k * 6 + 5, none⟩ = some (.int .i64 re)) := fun U hU => by
        have e0 := (hU.cell (p := ⟨b, off + k * 6, none⟩) zb).trans (hcells 0 (by decide))
        have e1 := (hU.cell (p := ⟨b, off + k * 6 + 1, none⟩) zb).trans (hcells 1 (by decide))
        have e2 := (hU.cell (p := ⟨b, off + k * 6 + 2, none⟩) zb).trans (hcells 2 (by decide))
        have e3 := (hU.cell (p := ⟨b, off + k * 6 + 3, none⟩) zb).trans (hcells 3 (by decide))
        have e4 := (hU.cell (p := ⟨b, off + k * 6 + 4, none⟩) zb).trans (hcells 4 (by decide))
        have e5 := (hU.cell (p := ⟨b, off + k * 6 + 5, none⟩) zb).trans (hcells 5 (by decide))
        simp only [RV.cells, List.getElem?_cons_zero, List.getElem?_cons_succ] at e0 e1 e2 e3 e4 e5
        exact ⟨e0, e1, e2, e3, e4, e5⟩
      clear hcells
      have zr : b < wr.heap.size := Nat.lt_of_lt_of_le zb hb.size
      have bA' := pk_bd ra 2 (by decide)
      have bB' := pk_bd rb 2 (by decide)
      have bC' := pk_bd rc 5 (by decide)
      have bK' := pk_bd kd 5 (by decide)
      have bV' := pk_bd rd 100 (by decide)
      have bQ' := pk_bd re 5 (by decide)
      simp only [Bd] at okd ora orb orc ord ore
      have hw1 : IntKind.i64.wrap (1 + pk rb 2) = 1 + pk rb 2 := by apply wrap_in <;> omega
      have hisT : Hid (isT (pk ra 2, 1 + pk rb 2)) := isT_of _ _ bA' bB'
      go_upto_region 5 with (fail)
      go_cut [7] (fun s7 wc => ∃ q : Nat, s7 = .pointer (some ⟨q, 0, none⟩) ∧ BoxN wc q 2 [.int .i64 (pk ra 2), .int .i64 (1 + pk rb 2)] ∧ Below wr.heap.size wr wc)
      case first =>
        have KE2 : Hid (∀ U, Below wr.heap.size wr U → U.cell? ⟨b, off + k * 6 + 1, none⟩ = some (.int .i64 ra) ∧ U.cell? ⟨b, off + k * 6 + 2, none⟩ = some (.int .i64 rb)) := fun U hU => by
          have := KE0.out U (hb.trans (hU.mono hb.size))
          exact ⟨this.2.1, this.2.2.1⟩
        go_region_held3 (fun U => U.cell? ⟨b, off + k * 6 + 1, none⟩ = some (.int .i64 ra) ∧ U.cell? ⟨b, off + k * 6 + 2, none⟩ = some (.int .i64 rb))
          (exact KE2.out _ (by (with_reducible repeat (first | exact Below.refl _ _ | refine nD ?_ | refine nA ?_ _ | refine nS ?_ (by simp) _)); done))
          (((go_at_call 8; refine (picked_any _ _ _ (by assumption) (by decide) (by decide)).mono ?_; rintro e u ⟨rfl, hu⟩; rw [hu]; clear hu)))
        all_goals
          go_wp2_with fail
          go_meet
          case rel => exact ⟨_, rfl, by first | exact boxn_drew (boxn_new wr #[.int .i64 (pk ra 2), .int .i64 (1 + pk rb 2)] _ 2 rfl) | exact boxn_new _ #[.int .i64 (pk ra 2), .int .i64 (1 + pk rb 2)] _ 2 rfl | exact ((boxn_new _ #[.int .i64 0, .int .i64 0] _ 2 rfl).set 0 (by decide) (.int .i64 (pk ra 2))).set 1 (by decide) (.int .i64 (1 + pk rb 2)), by (with_reducible repeat (first | exact Below.refl _ _ | refine nD ?_ | refine nA ?_ _ | refine nS ?_ (by simp) _)); done⟩
      case rest =>
        obtain ⟨q, rfl, bt, bF⟩ := hcut
        obtain ⟨X, eX⟩ : ∃ X, X = wc := ⟨_, rfl⟩
        rw [← eX] at bt bF ⊢
        clear eX
        have hOX := hO.below bF
        have hbxX := hbx.below bF hbx.lt
        have hbrX := hbr.below bF hbr.lt
        have hbX : Below w.heap.size w X := hb.trans (bF.mono hb.size)
        have zwX : w.heap.size + 1 < X.heap.size := hbxX.lt
        clear hO hbx hbr hb bF zr
        obtain ⟨e0, e1, e2, e3, e4, e5⟩ := KE0.out X hbX
        have zX : b < X.heap.size := Nat.lt_of_lt_of_le zb hbX.size
        have t0 := (bt.c 0 (by decide)).1
        have t1 := (bt.c 1 (by decide)).1
        simp only [SV.box] at hbxX
        have x0 := (hbxX.c 0 (by decide)).1
        have x1 := (hbxX.c 1 (by decide)).1
        have x2 := (hbxX.c 2 (by decide)).1
        have x3 := (hbxX.c 3 (by decide)).1
        simp only [List.getD_cons_zero, List.getD_cons_succ] at t0 t1 x0 x1 x2 x3
        have ztq := bt.lt
        have hSX := hOX.isStore
        have hwf := hG.wf
        have h4 := hG.h4 hSX
        have KX : Hid (∀ U, Below X.heap.size X U → U.cell? ⟨w.heap.size + 1, 0, none⟩ = some (.slice a0 n0 u0) ∧ U.cell? ⟨w.heap.size + 1, 1, none⟩ = some (.slice a1 n1 u1) ∧ U.cell? ⟨w.heap.size + 1, 2, none⟩ = some (.slice a2 n2 u2) ∧ U.cell? ⟨w.heap.size + 1, 3, none⟩ = some (.slice a3 n3 u3) ∧ U.cell? ⟨q, 0, none⟩ = some (.int .i64 (pk ra 2)) ∧ U.cell? ⟨q, 1, none⟩ = some (.int .i64 (1 + pk rb 2)) ∧ U.cell? ⟨b, off + k * 6 + 4, none⟩ = some (.int .i64 rd) ∧ U.cell? ⟨b, off + k * 6 + 5, none⟩ = some (.int .i64 re)) := fun U hU =>
          ⟨(hU.cell (p := ⟨w.heap.size + 1, 0, none⟩) zwX).trans x0, (hU.cell (p := ⟨w.heap.size + 1, 1, none⟩) zwX).trans x1, (hU.cell (p := ⟨w.heap.size + 1, 2, none⟩) zwX).trans x2, (hU.cell (p := ⟨w.heap.size + 1, 3, none⟩) zwX).trans x3, (hU.cell (p := ⟨q, 0, none⟩) ztq).trans t0, (hU.cell (p := ⟨q, 1, none⟩) ztq).trans t1, (hU.cell (p := ⟨b, off + k * 6 + 4, none⟩) zX).trans e4, (hU.cell (p := ⟨b, off + k * 6 + 5, none⟩) zX).trans e5⟩
        have HSX : Hid (∀ U, Below X.heap.size X U → IsStore U ⟨a0, n0, u0, a1, n1, u1, a2, n2, u2, a3, n3, u3, xi, xl, xd, xo⟩) := fun U hU => hSX.below hU
        have hZ : pk kd 5 = 0 ∨ pk kd 5 = 1 ∨ pk kd 5 = 2 ∨ pk kd 5 = 3 ∨ pk kd 5 = 4 := by omega
        rcases hZ with hZ | hZ | hZ | hZ | hZ
        ·
          have hCall := fun w' h1 => read_own ⟨a0, n0, u0, a1, n1, u1, a2, n2, u2, a3, n3, u3, xi, xl, xd, xo⟩ (pk ra 2, 1 + pk rb 2) (pk rc 5) w' h1 hwf h4
          have HGd : Hid (readErr ⟨a0, n0, u0, a1, n1, u1, a2, n2, u2, a3, n3, u3, xi, xl, xd, xo⟩ (pk ra 2, 1 + pk rb 2) (pk rc 5) = 0 → Gd (readData ⟨a0, n0, u0, a1, n1, u1, a2, n2, u2, a3, n3, u3, xi, xl, xd, xo⟩ (pk ra 2, 1 + pk rb 2) (pk rc 5)) (1 + 24 * ((k + 1 : Nat) : Int))) := fun he => (gd_read hG hisT.out (by omega) he).mono (by omega)
          obtain ⟨E, eE⟩ : ∃ E, E = readErr ⟨a0, n0, u0, a1, n1, u1, a2, n2, u2, a3, n3, u3, xi, xl, xd, xo⟩ (pk ra 2, 1 + pk rb 2) (pk rc 5) := ⟨_, rfl⟩
          obtain ⟨D, eD⟩ : ∃ D, D = readData ⟨a0, n0, u0, a1, n1, u1, a2, n2, u2, a3, n3, u3, xi, xl, xd, xo⟩ (pk ra 2, 1 + pk rb 2) (pk rc 5) := ⟨_, rfl⟩
          obtain ⟨V1, eV1⟩ : ∃ E, E = readVal ⟨a0, n0, u0, a1, n1, u1, a2, n2, u2, a3, n3, u3, xi, xl, xd, xo⟩ (pk ra 2, 1 + pk rb 2) (pk rc 5) := ⟨_, rfl⟩
          obtain ⟨V2, eV2⟩ : ∃ E, E = readVer ⟨a0, n0, u0, a1, n1, u1, a2, n2, u2, a3, n3, u3, xi, xl, xd, xo⟩ (pk ra 2, 1 + pk rb 2) (pk rc 5) := ⟨_, rfl⟩
          rw [← eE, ← eD] at HGd
          simp only [← eE, ← eD, ← eV1, ← eV2, SV.val] at hCall
          clear eE eD eV1 eV2
          go_upto_region 14 with (first | (go_at_call 8; refine (picked_any _ _ _ (by assumption) (by decide) (by decide)).mono ?_; rintro e u ⟨rfl, hu⟩; rw [hu]; clear hu; (try rw [hZ]); (try rw [hY])) | (go_at_call 10; refine (hCall _ hSX).mono ?_; rintro e w2 ⟨⟨b0, m0, v0, b1, m1, v1, b2, m2, v2, b3, m3, v3, yi, yl, yd, yo⟩, rfl, hO2', hd2, hb2⟩; simp only []))
          obtain ⟨Y, hY⟩ : ∃ Y : World, Y = w2.alloc (.cells #[.slice b0 m0 v0, .slice b1 m1 v1, .slice b2 m2 v2, .slice b3 m3 v3] 28) := ⟨_, rfl⟩
          have bYw : Below w2.heap.size w2 Y := by rw [hY]; exact (Below.refl _ _).alloc (Nat.le_refl _) _
          have hb2x : BoxN Y w2.heap.size 4 [.slice b0 m0 v0, .slice b1 m1 v1, .slice b2 m2 v2, .slice b3 m3 v3] := by rw [hY]; exact boxn_new w2 #[.slice b0 m0 v0, .slice b1 m1 v1, .slice b2 m2 v2, .slice b3 m3 v3] 28 4 rfl
          have bY : Below X.heap.size X Y := nT hb2 bYw
          have hbY : Below w.heap.size w Y := hbX.trans (bY.mono hbX.size)
          have hO2 : OwnStore Y (w.heap.size + 2) ⟨b0, m0, v0, b1, m1, v1, b2, m2, v2, b3, m3, v3, yi, yl, yd, yo⟩ := (hO2'.below bYw).base (by omega)
          rw [← hY]
          clear hY hO2' bYw x0 x1 x2 x3 t0 t1 e0 e1 e2 e3 e4 e5
          have zyl := hbY.size
          have hbm := hbxX.below bY hbxX.lt
          have hbn := hbrX.below bY hbrX.lt
          have x0 := (hb2x.c 0 (by decide)).1
          have x1 := (hb2x.c 1 (by decide)).1
          have x2 := (hb2x.c 2 (by decide)).1
          have x3 := (hb2x.c 3 (by decide)).1
          have y0 := (hbm.c 0 (by decide)).1
          have y1 := (hbm.c 1 (by decide)).1
          have y2 := (hbm.c 2 (by decide)).1
          have y3 := (hbm.c 3 (by decide)).1
          have f0 := (hbm.c 0 (by decide)).2
          have f1 := (hbm.c 1 (by decide)).2
          have f2 := (hbm.c 2 (by decide)).2
          have f3 := (hbm.c 3 (by decide)).2
          simp only [List.getD_cons_zero, List.getD_cons_succ] at x0 x1 x2 x3 y0 y1 y2 y3
          have zq2 := hb2x.lt
          have zbm := hbm.lt
          by_cases hE : E = 0
          · subst hE
            have hG2 : Gd (SV.data ⟨b0, m0, v0, b1, m1, v1, b2, m2, v2, b3, m3, v3, yi, yl, yd, yo⟩) (1 + 24 * ((k + 1 : Nat) : Int)) := by rw [hd2]; exact HGd.out rfl
            obtain ⟨V, hV⟩ : ∃ V : World, V = (((Y.setCell ⟨w.heap.size + 1, 0, none⟩ (.slice b0 m0 v0)).setCell ⟨w.heap.size + 1, 1, none⟩ (.slice b1 m1 v1)).setCell ⟨w.heap.size + 1, 2, none⟩ (.slice b2 m2 v2)).setCell ⟨w.heap.size + 1, 3, none⟩ (.slice b3 m3 v3) := ⟨_, rfl⟩
            have hOV : OwnStore V (w.heap.size + 2) ⟨b0, m0, v0, b1, m1, v1, b2, m2, v2, b3, m3, v3, yi, yl, yd, yo⟩ := by rw [hV]; exact hO2.four (by omega) _ _ _ _
            have bV : BoxN V (w.heap.size + 1) 4 [.slice b0 m0 v0, .slice b1 m1 v1, .slice b2 m2 v2, .slice b3 m3 v3] := by rw [hV]; exact (((hbm.set 0 (by decide) _).set 1 (by decide) _).set 2 (by decide) _).set 3 (by decide) _
            have bVn : BoxN V w.heap.size 4 SV.nil.box := by rw [hV]; exact (((hbn.far (by omega)).far (by omega)).far (by omega)).far (by omega)
            have hbV : Below w.heap.size w V := by rw [hV]; exact below_four hbY (by omega) _ _ _ _
            go_upto_region 4 with (fail)
            rw [← hV]
            clear hV x0 x1 x2 x3 y0 y1 y2 y3 f0 f1 f2 f3 zq2 zbm
            go_wp2
            go_roundw
            case rel => exact ⟨k + 1, ⟨b0, m0, v0, b1, m1, v1, b2, m2, v2, b3, m3, v3, yi, yl, yd, yo⟩, by go_num, by omega, by omega, hG2, hOV, bV, bVn, hbV⟩
            case measure => simp [intOf]; omega
          · have hOk := hOX.below bY
            have hGk : Gd (SV.data ⟨a0, n0, u0, a1, n1, u1, a2, n2, u2, a3, n3, u3, xi, xl, xd, xo⟩) (1 + 24 * ((k + 1 : Nat) : Int)) := hG.mono (by omega)
            go_wp2
            go_roundw
            case rel => exact ⟨k + 1, ⟨a0, n0, u0, a1, n1, u1, a2, n2, u2, a3, n3, u3, xi, xl, xd, xo⟩, by go_num, by omega, by omega, hGk, hOk, hbm, hbn, hbY⟩
            case measure => simp [intOf]; omega
        ·
          have hCall := fun w' h1 => read_own ⟨a0, n0, u0, a1, n1, u1, a2, n2, u2, a3, n3, u3, xi, xl, xd, xo⟩ (pk ra 2, 1 + pk rb 2) (pk rc 5) w' h1 hwf h4
          have HGd : Hid (readErr ⟨a0, n0, u0, a1, n1, u1, a2, n2, u2, a3, n3, u3, xi, xl, xd, xo⟩ (pk ra 2, 1 + pk rb 2) (pk rc 5) = 0 → Gd (readData ⟨a0, n0, u0, a1, n1, u1, a2, n2, u2, a3, n3, u3, xi, xl, xd, xo⟩ (pk ra 2, 1 + pk rb 2) (pk rc 5)) (1 + 24 * ((k + 1 : Nat) : Int))) := fun he => (gd_read hG hisT.out (by omega) he).mono (by omega)
          obtain ⟨E, eE⟩ : ∃ E, E = readErr ⟨a0, n0, u0, a1, n1, u1, a2, n2, u2, a3, n3, u3, xi, xl, xd, xo⟩ (pk ra 2, 1 + pk rb 2) (pk rc 5) := ⟨_, rfl⟩
          obtain ⟨D, eD⟩ : ∃ D, D = readData ⟨a0, n0, u0, a1, n1, u1, a2, n2, u2, a3, n3, u3, xi, xl, xd, xo⟩ (pk ra 2, 1 + pk rb 2) (pk rc 5) := ⟨_, rfl⟩
          obtain ⟨V1, eV1⟩ : ∃ E, E = readVal ⟨a0, n0, u0, a1, n1, u1, a2, n2, u2, a3, n3, u3, xi, xl, xd, xo⟩ (pk ra 2, 1 + pk rb 2) (pk rc 5) := ⟨_, rfl⟩
          obtain ⟨V2, eV2⟩ : ∃ E, E = readVer ⟨a0, n0, u0, a1, n1, u1, a2, n2, u2, a3, n3, u3, xi, xl, xd, xo⟩ (pk ra 2, 1 + pk rb 2) (pk rc 5) := ⟨_, rfl⟩
          rw [← eE, ← eD] at HGd
          simp only [← eE, ← eD, ← eV1, ← eV2, SV.val] at hCall
          clear eE eD eV1 eV2
          go_upto_region 14 with (first | (go_at_call 8; refine (picked_any _ _ _ (by assumption) (by decide) (by decide)).mono ?_; rintro e u ⟨rfl, hu⟩; rw [hu]; clear hu; (try rw [hZ]); (try rw [hY])) | (go_at_call 10; refine (hCall _ hSX).mono ?_; rintro e w2 ⟨⟨b0, m0, v0, b1, m1, v1, b2, m2, v2, b3, m3, v3, yi, yl, yd, yo⟩, rfl, hO2', hd2, hb2⟩; simp only []))
          obtain ⟨Y, hY⟩ : ∃ Y : World, Y = w2.alloc (.cells #[.slice b0 m0 v0, .slice b1 m1 v1, .slice b2 m2 v2, .slice b3 m3 v3] 28) := ⟨_, rfl⟩
          have bYw : Below w2.heap.size w2 Y := by rw [hY]; exact (Below.refl _ _).alloc (Nat.le_refl _) _
          have hb2x : BoxN Y w2.heap.size 4 [.slice b0 m0 v0, .slice b1 m1 v1, .slice b2 m2 v2, .slice b3 m3 v3] := by rw [hY]; exact boxn_new w2 #[.slice b0 m0 v0, .slice b1 m1 v1, .slice b2 m2 v2, .slice b3 m3 v3] 28 4 rfl
          have bY : Below X.heap.size X Y := nT hb2 bYw
          have hbY : Below w.heap.size w Y := hbX.trans (bY.mono hbX.size)
          have hO2 : OwnStore Y (w.heap.size + 2) ⟨b0, m0, v0, b1, m1, v1, b2, m2, v2, b3, m3, v3, yi, yl, yd, yo⟩ := (hO2'.below bYw).base (by omega)
          rw [← hY]
          clear hY hO2' bYw x0 x1 x2 x3 t0 t1 e0 e1 e2 e3 e4 e5
          have zyl := hbY.size
          have hbm := hbxX.below bY hbxX.lt
          have hbn := hbrX.below bY hbrX.lt
          have x0 := (hb2x.c 0 (by decide)).1
          have x1 := (hb2x.c 1 (by decide)).1
          have x2 := (hb2x.c 2 (by decide)).1
          have x3 := (hb2x.c 3 (by decide)).1
          have y0 := (hbm.c 0 (by decide)).1
          have y1 := (hbm.c 1 (by decide)).1
          have y2 := (hbm.c 2 (by decide)).1
          have y3 := (hbm.c 3 (by decide)).1
          have f0 := (hbm.c 0 (by decide)).2
          have f1 := (hbm.c 1 (by decide)).2
          have f2 := (hbm.c 2 (by decide)).2
          have f3 := (hbm.c 3 (by decide)).2
          simp only [List.getD_cons_zero, List.getD_cons_succ] at x0 x1 x2 x3 y0 y1 y2 y3
          have zq2 := hb2x.lt
          have zbm := hbm.lt
          by_cases hE : E = 0
          · subst hE
            have hG2 : Gd (SV.data ⟨b0, m0, v0, b1, m1, v1, b2, m2, v2, b3, m3, v3, yi, yl, yd, yo⟩) (1 + 24 * ((k + 1 : Nat) : Int)) := by rw [hd2]; exact HGd.out rfl
            obtain ⟨V, hV⟩ : ∃ V : World, V = (((Y.setCell ⟨w.heap.size + 1, 0, none⟩ (.slice b0 m0 v0)).setCell ⟨w.heap.size + 1, 1, none⟩ (.slice b1 m1 v1)).setCell ⟨w.heap.size + 1, 2, none⟩ (.slice b2 m2 v2)).setCell ⟨w.heap.size + 1, 3, none⟩ (.slice b3 m3 v3) := ⟨_, rfl⟩
            have hOV : OwnStore V (w.heap.size + 2) ⟨b0, m0, v0, b1, m1, v1, b2, m2, v2, b3, m3, v3, yi, yl, yd, yo⟩ := by rw [hV]; exact hO2.four (by omega) _ _ _ _
            have bV : BoxN V (w.heap.size + 1) 4 [.slice b0 m0 v0, .slice b1 m1 v1, .slice b2 m2 v2, .slice b3 m3 v3] := by rw [hV]; exact (((hbm.set 0 (by decide) _).set 1 (by decide) _).set 2 (by decide) _).set 3 (by decide) _
            have bVn : BoxN V w.heap.size 4 SV.nil.box := by rw [hV]; exact (((hbn.far (by omega)).far (by omega)).far (by omega)).far (by omega)
            have hbV : Below w.heap.size w V := by rw [hV]; exact below_four hbY (by omega) _ _ _ _
            go_upto_region 4 with (fail)
            rw [← hV]
            clear hV x0 x1 x2 x3 y0 y1 y2 y3 f0 f1 f2 f3 zq2 zbm
            go_wp2
            go_roundw
            case rel => exact ⟨k + 1, ⟨b0, m0, v0, b1, m1, v1, b2, m2, v2, b3, m3, v3, yi, yl, yd, yo⟩, by go_num, by omega, by omega, hG2, hOV, bV, bVn, hbV⟩
            case measure => simp [intOf]; omega
          · have hOk := hOX.below bY
            have hGk : Gd (SV.data ⟨a0, n0, u0, a1, n1, u1, a2, n2, u2, a3, n3, u3, xi, xl, xd, xo⟩) (1 + 24 * ((k + 1 : Nat) : Int)) := hG.mono (by omega)
            go_wp2
            go_roundw
            case rel => exact ⟨k + 1, ⟨a0, n0, u0, a1, n1, u1, a2, n2, u2, a3, n3, u3, xi, xl, xd, xo⟩, by go_num, by omega, by omega, hGk, hOk, hbm, hbn, hbY⟩
            case measure => simp [intOf]; omega
        ·
          have hCall := fun w' h1 => write_own ⟨a0, n0, u0, a1, n1, u1, a2, n2, u2, a3, n3, u3, xi, xl, xd, xo⟩ (pk ra 2, 1 + pk rb 2) (pk rc 5) (pk rd 100) (pk re 5) w' h1 hwf h4
          have HGd : Hid (writeErr ⟨a0, n0, u0, a1, n1, u1, a2, n2, u2, a3, n3, u3, xi, xl, xd, xo⟩ (pk ra 2, 1 + pk rb 2) (pk rc 5) (pk rd 100) (pk re 5) = 0 → Gd (writeData ⟨a0, n0, u0, a1, n1, u1, a2, n2, u2, a3, n3, u3, xi, xl, xd, xo⟩ (pk ra 2, 1 + pk rb 2) (pk rc 5) (pk rd 100) (pk re 5)) (1 + 24 * ((k + 1 : Nat) : Int))) := fun he => (gd_write hG hisT.out (by omega) he).mono (by omega)
          obtain ⟨E, eE⟩ : ∃ E, E = writeErr ⟨a0, n0, u0, a1, n1, u1, a2, n2, u2, a3, n3, u3, xi, xl, xd, xo⟩ (pk ra 2, 1 + pk rb 2) (pk rc 5) (pk rd 100) (pk re 5) := ⟨_, rfl⟩
          obtain ⟨D, eD⟩ : ∃ D, D = writeData ⟨a0, n0, u0, a1, n1, u1, a2, n2, u2, a3, n3, u3, xi, xl, xd, xo⟩ (pk ra 2, 1 + pk rb 2) (pk rc 5) (pk rd 100) (pk re 5) := ⟨_, rfl⟩
          rw [← eE, ← eD] at HGd
          simp only [← eE, ← eD, SV.val] at hCall
          clear eE eD
          go_upto_region 18 with ((go_at_call 8; refine (picked_any _ _ _ (by assumption) (by decide) (by decide)).mono ?_; rintro e u ⟨rfl, hu⟩; rw [hu]; clear hu; (try rw [hZ]); (try rw [hY])))
          go_cut [13, 14] (fun sp se wc => ∃ (q2 : Nat) (r2 : SV), sp = .pointer (some ⟨q2, 0, none⟩) ∧ se = .int .i64 E ∧ BoxN wc q2 4 r2.box ∧ OwnStore wc (w.heap.size + 2) r2 ∧ r2.data = D ∧ Below X.heap.size X wc)
          case first =>
            clear x0 x1 x2 x3 t0 t1 e0 e1 e2 e3 e4 e5
            go_region_held3 (fun U => U.cell? ⟨w.heap.size + 1, 0, none⟩ = some (.slice a0 n0 u0) ∧ U.cell? ⟨w.heap.size + 1, 1, none⟩ = some (.slice a1 n1 u1) ∧ U.cell? ⟨w.heap.size + 1, 2, none⟩ = some (.slice a2 n2 u2) ∧ U.cell? ⟨w.heap.size + 1, 3, none⟩ = some (.slice a3 n3 u3) ∧ U.cell? ⟨q, 0, none⟩ = some (.int .i64 (pk ra 2)) ∧ U.cell? ⟨q, 1, none⟩ = some (.int .i64 (1 + pk rb 2)) ∧ U.cell? ⟨b, off + k * 6 + 4, none⟩ = some (.int .i64 rd) ∧ U.cell? ⟨b, off + k * 6 + 5, none⟩ = some (.int .i64 re))
              (exact KX.out _ (by (with_reducible repeat (first | exact Below.refl _ _ | exact hu2 | refine nD ?_ | refine nA ?_ _ | refine nS ?_ (by first | omega | (simp; done)) _)); done))
              (first | (go_at_call 8; refine (picked_any _ _ _ (by assumption) (by decide) (by decide)).mono ?_; rintro e u ⟨rfl, hu⟩; rw [hu]; clear hu; (try rw [hZ]); (try rw [hY])) | (go_at_call 11; refine (hCall _ (HSX.out _ (by (with_reducible repeat (first | exact Below.refl _ _ | exact hu2 | refine nD ?_ | refine nA ?_ _ | refine nS ?_ (by first | omega | (simp; done)) _)); done))).mono ?_; rintro e w2 ⟨⟨b0, m0, v0, b1, m1, v1, b2, m2, v2, b3, m3, v3, yi, yl, yd, yo⟩, rfl, hO2', hd2, hb2⟩; simp only []; have hu2 : Below X.heap.size X w2 := nT (by (with_reducible repeat (first | exact Below.refl _ _ | exact hu2 | refine nD ?_ | refine nA ?_ _ | refine nS ?_ (by first | omega | (simp; done)) _)); done) hb2; have zu2 := hu2.size; (first | (have bx3 : BoxN w2 X.heap.size 4 [.slice none 0 0, .slice none 0 0, .slice none 0 0, .slice none 0 0] := (boxn_new X.drew #[.slice none 0 0, .slice none 0 0, .slice none 0 0, .slice none 0 0] 28 4 rfl).below hb2 (by simp); have s0 : _ = some (Value.slice none 0 0) := (bx3.c 0 (by decide)).1; have s1 : _ = some (Value.slice none 0 0) := (bx3.c 1 (by decide)).1; have s2 : _ = some (Value.slice none 0 0) := (bx3.c 2 (by decide)).1; have s3 : _ = some (Value.slice none 0 0) := (bx3.c 3 (by decide)).1; have g0 := (bx3.c 0 (by decide)).2; have g1 := (bx3.c 1 (by decide)).2; have g2 := (bx3.c 2 (by decide)).2; have g3 := (bx3.c 3 (by decide)).2; have zbx3 := bx3.lt) | skip)))
            all_goals
              go_wp2_with fail
              go_meet
              case rel => first | exact ⟨_, ⟨b0, m0, v0, b1, m1, v1, b2, m2, v2, b3, m3, v3, yi, yl, yd, yo⟩, rfl, rfl, (((bx3.set 0 (by decide) (.slice b0 m0 v0)).set 1 (by decide) (.slice b1 m1 v1)).set 2 (by decide) (.slice b2 m2 v2)).set 3 (by decide) (.slice b3 m3 v3), (hO2'.four (b := X.heap.size) (by simp) _ _ _ _).base (by simp; omega), hd2, by (with_reducible repeat (first | exact Below.refl _ _ | exact hu2 | refine nD ?_ | refine nA ?_ _ | refine nS ?_ (by first | omega | (simp; done)) _)); done⟩ | exact ⟨_, ⟨b0, m0, v0, b1, m1, v1, b2, m2, v2, b3, m3, v3, yi, yl, yd, yo⟩, rfl, rfl, boxn_new w2 #[.slice b0 m0 v0, .slice b1 m1 v1, .slice b2 m2 v2, .slice b3 m3 v3] _ 4 rfl, (hO2'.below ((Below.refl _ _).alloc (Nat.le_refl _) _)).base (by first | omega | (simp; omega)), hd2, by (with_reducible repeat (first | exact Below.refl _ _ | exact hu2 | refine nD ?_ | refine nA ?_ _ | refine nS ?_ (by first | omega | (simp; done)) _)); done⟩
          case rest =>
            obtain ⟨q2, ⟨b0, m0, v0, b1, m1, v1, b2, m2, v2, b3, m3, v3, yi, yl, yd, yo⟩, rfl, rfl, hb2x, hO2, hd2, bY⟩ := hcut
            obtain ⟨Y, eY⟩ : ∃ Y, Y = wc := ⟨_, rfl⟩
            rw [← eY] at hb2x hO2 bY ⊢
            simp only [SV.box] at hb2x
            clear eY x0 x1 x2 x3 t0 t1 e0 e1 e2 e3 e4 e5
            have hbY : Below w.heap.size w Y := hbX.trans (bY.mono hbX.size)
            have zyl := hbY.size
            have hbm := hbxX.below bY hbxX.lt
            have hbn := hbrX.below bY hbrX.lt
            have x0 := (hb2x.c 0 (by decide)).1
            have x1 := (hb2x.c 1 (by decide)).1
            have x2 := (hb2x.c 2 (by decide)).1
            have x3 := (hb2x.c 3 (by decide)).1
            have y0 := (hbm.c 0 (by decide)).1
            have y1 := (hbm.c 1 (by decide)).1
            have y2 := (hbm.c 2 (by decide)).1
            have y3 := (hbm.c 3 (by decide)).1
            have f0 := (hbm.c 0 (by decide)).2
            have f1 := (hbm.c 1 (by decide)).2
            have f2 := (hbm.c 2 (by decide)).2
            have f3 := (hbm.c 3 (by decide)).2
            simp only [List.getD_cons_zero, List.getD_cons_succ] at x0 x1 x2 x3 y0 y1 y2 y3
            have zq2 := hb2x.lt
            have zbm := hbm.lt
            by_cases hE : E = 0
            · subst hE
              have hG2 : Gd (SV.data ⟨b0, m0, v0, b1, m1, v1, b2, m2, v2, b3, m3, v3, yi, yl, yd, yo⟩) (1 + 24 * ((k + 1 : Nat) : Int)) := by rw [hd2]; exact HGd.out rfl
              obtain ⟨V, hV⟩ : ∃ V : World, V = (((Y.setCell ⟨w.heap.size + 1, 0, none⟩ (.slice b0 m0 v0)).setCell ⟨w.heap.size + 1, 1, none⟩ (.slice b1 m1 v1)).setCell ⟨w.heap.size + 1, 2, none⟩ (.slice b2 m2 v2)).setCell ⟨w.heap.size + 1, 3, none⟩ (.slice b3 m3 v3) := ⟨_, rfl⟩
              have hOV : OwnStore V (w.heap.size + 2) ⟨b0, m0, v0, b1, m1, v1, b2, m2, v2, b3, m3, v3, yi, yl, yd, yo⟩ := by rw [hV]; exact hO2.four (by omega) _ _ _ _
              have bV : BoxN V (w.heap.size + 1) 4 [.slice b0 m0 v0, .slice b1 m1 v1, .slice b2 m2 v2, .slice b3 m3 v3] := by rw [hV]; exact (((hbm.set 0 (by decide) _).set 1 (by decide) _).set 2 (by decide) _).set 3 (by decide) _
              have bVn : BoxN V w.heap.size 4 SV.nil.box := by rw [hV]; exact (((hbn.far (by omega)).far (by omega)).far (by omega)).far (by omega)
              have hbV : Below w.heap.size w V := by rw [hV]; exact below_four hbY (by omega) _ _ _ _
              go_upto_region 4 with (fail)
              rw [← hV]
              clear hV x0 x1 x2 x3 y0 y1 y2 y3 f0 f1 f2 f3 zq2 zbm
              go_wp2
              go_roundw
              case rel => exact ⟨k + 1, ⟨b0, m0, v0, b1, m1, v1, b2, m2, v2, b3, m3, v3, yi, yl, yd, yo⟩, by go_num, by omega, by omega, hG2, hOV, bV, bVn, hbV⟩
              case measure => simp [intOf]; omega
            · have hOk := hOX.below bY
              have hGk : Gd (SV.data ⟨a0, n0, u0, a1, n1, u1, a2, n2, u2, a3, n3, u3, xi, xl, xd, xo⟩) (1 + 24 * ((k + 1 : Nat) : Int)) := hG.mono (by omega)
              go_wp2
              go_roundw
              case rel => exact ⟨k + 1, ⟨a0, n0, u0, a1, n1, u1, a2, n2, u2, a3, n3, u3, xi, xl, xd, xo⟩, by go_num, by omega, by omega, hGk, hOk, hbm, hbn, hbY⟩
              case measure => simp [intOf]; omega
        ·
          have hCall := fun w' h1 => write_own ⟨a0, n0, u0, a1, n1, u1, a2, n2, u2, a3, n3, u3, xi, xl, xd, xo⟩ (pk ra 2, 1 + pk rb 2) (pk rc 5) (pk rd 100) (pk re 5) w' h1 hwf h4
          have HGd : Hid (writeErr ⟨a0, n0, u0, a1, n1, u1, a2, n2, u2, a3, n3, u3, xi, xl, xd, xo⟩ (pk ra 2, 1 + pk rb 2) (pk rc 5) (pk rd 100) (pk re 5) = 0 → Gd (writeData ⟨a0, n0, u0, a1, n1, u1, a2, n2, u2, a3, n3, u3, xi, xl, xd, xo⟩ (pk ra 2, 1 + pk rb 2) (pk rc 5) (pk rd 100) (pk re 5)) (1 + 24 * ((k + 1 : Nat) : Int))) := fun he => (gd_write hG hisT.out (by omega) he).mono (by omega)
          obtain ⟨E, eE⟩ : ∃ E, E = writeErr ⟨a0, n0, u0, a1, n1, u1, a2, n2, u2, a3, n3, u3, xi, xl, xd, xo⟩ (pk ra 2, 1 + pk rb 2) (pk rc 5) (pk rd 100) (pk re 5) := ⟨_, rfl⟩
          obtain ⟨D, eD⟩ : ∃ D, D = writeData ⟨a0, n0, u0, a1, n1, u1, a2, n2, u2, a3, n3, u3, xi, xl, xd, xo⟩ (pk ra 2, 1 + pk rb 2) (pk rc 5) (pk rd 100) (pk re 5) := ⟨_, rfl⟩
          rw [← eE, ← eD] at HGd
          simp only [← eE, ← eD, SV.val] at hCall
          clear eE eD
          go_upto_region 18 with ((go_at_call 8; refine (picked_any _ _ _ (by assumption) (by decide) (by decide)).mono ?_; rintro e u ⟨rfl, hu⟩; rw [hu]; clear hu; (try rw [hZ]); (try rw [hY])))
          go_cut [13, 14] (fun sp se wc => ∃ (q2 : Nat) (r2 : SV), sp = .pointer (some ⟨q2, 0, none⟩) ∧ se = .int .i64 E ∧ BoxN wc q2 4 r2.box ∧ OwnStore wc (w.heap.size + 2) r2 ∧ r2.data = D ∧ Below X.heap.size X wc)
          case first =>
            clear x0 x1 x2 x3 t0 t1 e0 e1 e2 e3 e4 e5
            go_region_held3 (fun U => U.cell? ⟨w.heap.size + 1, 0, none⟩ = some (.slice a0 n0 u0) ∧ U.cell? ⟨w.heap.size + 1, 1, none⟩ = some (.slice a1 n1 u1) ∧ U.cell? ⟨w.heap.size + 1, 2, none⟩ = some (.slice a2 n2 u2) ∧ U.cell? ⟨w.heap.size + 1, 3, none⟩ = some (.slice a3 n3 u3) ∧ U.cell? ⟨q, 0, none⟩ = some (.int .i64 (pk ra 2)) ∧ U.cell? ⟨q, 1, none⟩ = some (.int .i64 (1 + pk rb 2)) ∧ U.cell? ⟨b, off + k * 6 + 4, none⟩ = some (.int .i64 rd) ∧ U.cell? ⟨b, off + k * 6 + 5, none⟩ = some (.int .i64 re))
              (exact KX.out _ (by (with_reducible repeat (first | exact Below.refl _ _ | exact hu2 | refine nD ?_ | refine nA ?_ _ | refine nS ?_ (by first | omega | (simp; done)) _)); done))
              (first | (go_at_call 8; refine (picked_any _ _ _ (by assumption) (by decide) (by decide)).mono ?_; rintro e u ⟨rfl, hu⟩; rw [hu]; clear hu; (try rw [hZ]); (try rw [hY])) | (go_at_call 11; refine (hCall _ (HSX.out _ (by (with_reducible repeat (first | exact Below.refl _ _ | exact hu2 | refine nD ?_ | refine nA ?_ _ | refine nS ?_ (by first | omega | (simp; done)) _)); done))).mono ?_; rintro e w2 ⟨⟨b0, m0, v0, b1, m1, v1, b2, m2, v2, b3, m3, v3, yi, yl, yd, yo⟩, rfl, hO2', hd2, hb2⟩; simp only []; have hu2 : Below X.heap.size X w2 := nT (by (with_reducible repeat (first | exact Below.refl _ _ | exact hu2 | refine nD ?_ | refine nA ?_ _ | refine nS ?_ (by first | omega | (simp; done)) _)); done) hb2; have zu2 := hu2.size; (first | (have bx3 : BoxN w2 X.heap.size 4 [.slice none 0 0, .slice none 0 0, .slice none 0 0, .slice none 0 0] := (boxn_new X.drew #[.slice none 0 0, .slice none 0 0, .slice none 0 0, .slice none 0 0] 28 4 rfl).below hb2 (by simp); have s0 : _ = some (Value.slice none 0 0) := (bx3.c 0 (by decide)).1; have s1 : _ = some (Value.slice none 0 0) := (bx3.c 1 (by decide)).1; have s2 : _ = some (Value.slice none 0 0) := (bx3.c 2 (by decide)).1; have s3 : _ = some (Value.slice none 0 0) := (bx3.c 3 (by decide)).1; have g0 := (bx3.c 0 (by decide)).2; have g1 := (bx3.c 1 (by decide)).2; have g2 := (bx3.c 2 (by decide)).2; have g3 := (bx3.c 3 (by decide)).2; have zbx3 := bx3.lt) | skip)))
            all_goals
              go_wp2_with fail
              go_meet
              case rel => first | exact ⟨_, ⟨b0, m0, v0, b1, m1, v1, b2, m2, v2, b3, m3, v3, yi, yl, yd, yo⟩, rfl, rfl, (((bx3.set 0 (by decide) (.slice b0 m0 v0)).set 1 (by decide) (.slice b1 m1 v1)).set 2 (by decide) (.slice b2 m2 v2)).set 3 (by decide) (.slice b3 m3 v3), (hO2'.four (b := X.heap.size) (by simp) _ _ _ _).base (by simp; omega), hd2, by (with_reducible repeat (first | exact Below.refl _ _ | exact hu2 | refine nD ?_ | refine nA ?_ _ | refine nS ?_ (by first | omega | (simp; done)) _)); done⟩ | exact ⟨_, ⟨b0, m0, v0, b1, m1, v1, b2, m2, v2, b3, m3, v3, yi, yl, yd, yo⟩, rfl, rfl, boxn_new w2 #[.slice b0 m0 v0, .slice b1 m1 v1, .slice b2 m2 v2, .slice b3 m3 v3] _ 4 rfl, (hO2'.below ((Below.refl _ _).alloc (Nat.le_refl _) _)).base (by first | omega | (simp; omega)), hd2, by (with_reducible repeat (first | exact Below.refl _ _ | exact hu2 | refine nD ?_ | refine nA ?_ _ | refine nS ?_ (by first | omega | (simp; done)) _)); done⟩
          case rest =>
            obtain ⟨q2, ⟨b0, m0, v0, b1, m1, v1, b2, m2, v2, b3, m3, v3, yi, yl, yd, yo⟩, rfl, rfl, hb2x, hO2, hd2, bY⟩ := hcut
            obtain ⟨Y, eY⟩ : ∃ Y, Y = wc := ⟨_, rfl⟩
            rw [← eY] at hb2x hO2 bY ⊢
            simp only [SV.box] at hb2x
            clear eY x0 x1 x2 x3 t0 t1 e0 e1 e2 e3 e4 e5
            have hbY : Below w.heap.size w Y := hbX.trans (bY.mono hbX.size)
            have zyl := hbY.size
            have hbm := hbxX.below bY hbxX.lt
            have hbn := hbrX.below bY hbrX.lt
            have x0 := (hb2x.c 0 (by decide)).1
            have x1 := (hb2x.c 1 (by decide)).1
            have x2 := (hb2x.c 2 (by decide)).1
            have x3 := (hb2x.c 3 (by decide)).1
            have y0 := (hbm.c 0 (by decide)).1
            have y1 := (hbm.c 1 (by decide)).1
            have y2 := (hbm.c 2 (by decide)).1
            have y3 := (hbm.c 3 (by decide)).1
            have f0 := (hbm.c 0 (by decide)).2
            have f1 := (hbm.c 1 (by decide)).2
            have f2 := (hbm.c 2 (by decide)).2
            have f3 := (hbm.c 3 (by decide)).2
            simp only [List.getD_cons_zero, List.getD_cons_succ] at x0 x1 x2 x3 y0 y1 y2 y3
            have zq2 := hb2x.lt
            have zbm := hbm.lt
            by_cases hE : E = 0
            · subst hE
              have hG2 : Gd (SV.data ⟨b0, m0, v0, b1, m1, v1, b2, m2, v2, b3, m3, v3, yi, yl, yd, yo⟩) (1 + 24 * ((k + 1 : Nat) : Int)) := by rw [hd2]; exact HGd.out rfl
              obtain ⟨V, hV⟩ : ∃ V : World, V = (((Y.setCell ⟨w.heap.size + 1, 0, none⟩ (.slice b0 m0 v0)).setCell ⟨w.heap.size + 1, 1, none⟩ (.slice b1 m1 v1)).setCell ⟨w.heap.size + 1, 2, none⟩ (.slice b2 m2 v2)).setCell ⟨w.heap.size + 1, 3, none⟩ (.slice b3 m3 v3) := ⟨_, rfl⟩
              have hOV : OwnStore V (w.heap.size + 2) ⟨b0, m0, v0, b1, m1, v1, b2, m2, v2, b3, m3, v3, yi, yl, yd, yo⟩ := by rw [hV]; exact hO2.four (by omega) _ _ _ _
              have bV : BoxN V (w.heap.size + 1) 4 [.slice b0 m0 v0, .slice b1 m1 v1, .slice b2 m2 v2, .slice b3 m3 v3] := by rw [hV]; exact (((hbm.set 0 (by decide) _).set 1 (by decide) _).set 2 (by decide) _).set 3 (by decide) _
              have bVn : BoxN V w.heap.size 4 SV.nil.box := by rw [hV]; exact (((hbn.far (by omega)).far (by omega)).far (by omega)).far (by omega)
              have hbV : Below w.heap.size w V := by rw [hV]; exact below_four hbY (by omega) _ _ _ _
              go_upto_region 4 with (fail)
              rw [← hV]
              clear hV x0 x1 x2 x3 y0 y1 y2 y3 f0 f1 f2 f3 zq2 zbm
              go_wp2
              go_roundw
              case rel => exact ⟨k + 1, ⟨b0, m0, v0, b1, m1, v1, b2, m2, v2, b3, m3, v3, yi, yl, yd, yo⟩, by go_num, by omega, by omega, hG2, hOV, bV, bVn, hbV⟩
              case measure => simp [intOf]; omega
            · have hOk := hOX.below bY
              have hGk : Gd (SV.data ⟨a0, n0, u0, a1, n1, u1, a2, n2, u2, a3, n3, u3, xi, xl, xd, xo⟩) (1 + 24 * ((k + 1 : Nat) : Int)) := hG.mono (by omega)
              go_wp2
              go_roundw
              case rel => exact ⟨k + 1, ⟨a0, n0, u0, a1, n1, u1, a2, n2, u2, a3, n3, u3, xi, xl, xd, xo⟩, by go_num, by omega, by omega, hGk, hOk, hbm, hbn, hbY⟩
              case measure => simp [intOf]; omega
        ·
          have hY2 : pk rd 2 = 0 ∨ pk rd 2 = 1 := by have := pk_bd rd 2 (by decide); omega
          rcases hY2 with hY | hY
          ·
            have hCall := fun w' h1 => end_own ⟨a0, n0, u0, a1, n1, u1, a2, n2, u2, a3, n3, u3, xi, xl, xd, xo⟩ (pk ra 2, 1 + pk rb 2) false w' h1 hwf h4
            have HGd : Hid (endErr ⟨a0, n0, u0, a1, n1, u1, a2, n2, u2, a3, n3, u3, xi, xl, xd, xo⟩ (pk ra 2, 1 + pk rb 2) false = 0 → Gd (endData ⟨a0, n0, u0, a1, n1, u1, a2, n2, u2, a3, n3, u3, xi, xl, xd, xo⟩ (pk ra 2, 1 + pk rb 2) false) (1 + 24 * ((k + 1 : Nat) : Int))) := fun he => (gd_end hG (by omega) (by omega) hisT.out he).mono (by omega)
            obtain ⟨E, eE⟩ : ∃ E, E = endErr ⟨a0, n0, u0, a1, n1, u1, a2, n2, u2, a3, n3, u3, xi, xl, xd, xo⟩ (pk ra 2, 1 + pk rb 2) false := ⟨_, rfl⟩
            obtain ⟨D, eD⟩ : ∃ D, D = endData ⟨a0, n0, u0, a1, n1, u1, a2, n2, u2, a3, n3, u3, xi, xl, xd, xo⟩ (pk ra 2, 1 + pk rb 2) false := ⟨_, rfl⟩
            rw [← eE, ← eD] at HGd
            simp only [← eE, ← eD, SV.val] at hCall
            clear eE eD
            go_upto_region 8 with ((go_at_call 8; refine (picked_any _ _ _ (by assumption) (by decide) (by decide)).mono ?_; rintro e u ⟨rfl, hu⟩; rw [hu]; clear hu; (try rw [hZ]); (try rw [hY])))
            go_cut [15, 16] (fun sp se wc => ∃ (q2 : Nat) (r2 : SV), sp = .pointer (some ⟨q2, 0, none⟩) ∧ se = .int .i64 E ∧ BoxN wc q2 4 r2.box ∧ OwnStore wc (w.heap.size + 2) r2 ∧ r2.data = D ∧ Below X.heap.size X wc)
            case first =>
              clear x0 x1 x2 x3 t0 t1 e0 e1 e2 e3 e4 e5
              go_region_held3 (fun U => U.cell? ⟨w.heap.size + 1, 0, none⟩ = some (.slice a0 n0 u0) ∧ U.cell? ⟨w.heap.size + 1, 1, none⟩ = some (.slice a1 n1 u1) ∧ U.cell? ⟨w.heap.size + 1, 2, none⟩ = some (.slice a2 n2 u2) ∧ U.cell? ⟨w.heap.size + 1, 3, none⟩ = some (.slice a3 n3 u3) ∧ U.cell? ⟨q, 0, none⟩ = some (.int .i64 (pk ra 2)) ∧ U.cell? ⟨q, 1, none⟩ = some (.int .i64 (1 + pk rb 2)) ∧ U.cell? ⟨b, off + k * 6 + 4, none⟩ = some (.int .i64 rd) ∧ U.cell? ⟨b, off + k * 6 + 5, none⟩ = some (.int .i64 re))
                (exact KX.out _ (by (with_reducible repeat (first | exact Below.refl _ _ | exact hu2 | refine nD ?_ | refine nA ?_ _ | refine nS ?_ (by first | omega | (simp; done)) _)); done))
                (first | (go_at_call 8; refine (picked_any _ _ _ (by assumption) (by decide) (by decide)).mono ?_; rintro e u ⟨rfl, hu⟩; rw [hu]; clear hu; (try rw [hZ]); (try rw [hY])) | (go_at_call 9; refine (hCall _ (HSX.out _ (by (with_reducible repeat (first | exact Below.refl _ _ | exact hu2 | refine nD ?_ | refine nA ?_ _ | refine nS ?_ (by first | omega | (simp; done)) _)); done))).mono ?_; rintro e w2 ⟨⟨b0, m0, v0, b1, m1, v1, b2, m2, v2, b3, m3, v3, yi, yl, yd, yo⟩, rfl, hO2', hd2, hb2⟩; simp only []; have hu2 : Below X.heap.size X w2 := nT (by (with_reducible repeat (first | exact Below.refl _ _ | exact hu2 | refine nD ?_ | refine nA ?_ _ | refine nS ?_ (by first | omega | (simp; done)) _)); done) hb2; have zu2 := hu2.size; (first | (have bx3 : BoxN w2 X.heap.size 4 [.slice none 0 0, .slice none 0 0, .slice none 0 0, .slice none 0 0] := (boxn_new X.drew #[.slice none 0 0, .slice none 0 0, .slice none 0 0, .slice none 0 0] 28 4 rfl).below hb2 (by simp); have s0 : _ = some (Value.slice none 0 0) := (bx3.c 0 (by decide)).1; have s1 : _ = some (Value.slice none 0 0) := (bx3.c 1 (by decide)).1; have s2 : _ = some (Value.slice none 0 0) := (bx3.c 2 (by decide)).1; have s3 : _ = some (Value.slice none 0 0) := (bx3.c 3 (by decide)).1; have g0 := (bx3.c 0 (by decide)).2; have g1 := (bx3.c 1 (by decide)).2; have g2 := (bx3.c 2 (by decide)).2; have g3 := (bx3.c 3 (by decide)).2; have zbx3 := bx3.lt) | skip)))
              all_goals
                go_wp2_with fail
                go_meet
                case rel => first | exact ⟨_, ⟨b0, m0, v0, b1, m1, v1, b2, m2, v2, b3, m3, v3, yi, yl, yd, yo⟩, rfl, rfl, (((bx3.set 0 (by decide) (.slice b0 m0 v0)).set 1 (by decide) (.slice b1 m1 v1)).set 2 (by decide) (.slice b2 m2 v2)).set 3 (by decide) (.slice b3 m3 v3), (hO2'.four (b := X.heap.size) (by simp) _ _ _ _).base (by simp; omega), hd2, by (with_reducible repeat (first | exact Below.refl _ _ | exact hu2 | refine nD ?_ | refine nA ?_ _ | refine nS ?_ (by first | omega | (simp; done)) _)); done⟩ | exact ⟨_, ⟨b0, m0, v0, b1, m1, v1, b2, m2, v2, b3, m3, v3, yi, yl, yd, yo⟩, rfl, rfl, boxn_new w2 #[.slice b0 m0 v0, .slice b1 m1 v1, .slice b2 m2 v2, .slice b3 m3 v3] _ 4 rfl, (hO2'.below ((Below.refl _ _).alloc (Nat.le_refl _) _)).base (by first | omega | (simp; omega)), hd2, by (with_reducible repeat (first | exact Below.refl _ _ | exact hu2 | refine nD ?_ | refine nA ?_ _ | refine nS ?_ (by first | omega | (simp; done)) _)); done⟩
            case rest =>
              obtain ⟨q2, ⟨b0, m0, v0, b1, m1, v1, b2, m2, v2, b3, m3, v3, yi, yl, yd, yo⟩, rfl, rfl, hb2x, hO2, hd2, bY⟩ := hcut
              obtain ⟨Y, eY⟩ : ∃ Y, Y = wc := ⟨_, rfl⟩
              rw [← eY] at hb2x hO2 bY ⊢
              simp only [SV.box] at hb2x
              clear eY x0 x1 x2 x3 t0 t1 e0 e1 e2 e3 e4 e5
              have hbY : Below w.heap.size w Y := hbX.trans (bY.mono hbX.size)
              have zyl := hbY.size
              have hbm := hbxX.below bY hbxX.lt
              have hbn := hbrX.below bY hbrX.lt
              have x0 := (hb2x.c 0 (by decide)).1
              have x1 := (hb2x.c 1 (by decide)).1
              have x2 := (hb2x.c 2 (by decide)).1
              have x3 := (hb2x.c 3 (by decide)).1
              have y0 := (hbm.c 0 (by decide)).1
              have y1 := (hbm.c 1 (by decide)).1
              have y2 := (hbm.c 2 (by decide)).1
              have y3 := (hbm.c 3 (by decide)).1
              have f0 := (hbm.c 0 (by decide)).2
              have f1 := (hbm.c 1 (by decide)).2
              have f2 := (hbm.c 2 (by decide)).2
              have f3 := (hbm.c 3 (by decide)).2
              simp only [List.getD_cons_zero, List.getD_cons_succ] at x0 x1 x2 x3 y0 y1 y2 y3
              have zq2 := hb2x.lt
              have zbm := hbm.lt
              by_cases hE : E = 0
              · subst hE
                have hG2 : Gd (SV.data ⟨b0, m0, v0, b1, m1, v1, b2, m2, v2, b3, m3, v3, yi, yl, yd, yo⟩) (1 + 24 * ((k + 1 : Nat) : Int)) := by rw [hd2]; exact HGd.out rfl
                obtain ⟨V, hV⟩ : ∃ V : World, V = (((Y.setCell ⟨w.heap.size + 1, 0, none⟩ (.slice b0 m0 v0)).setCell ⟨w.heap.size + 1, 1, none⟩ (.slice b1 m1 v1)).setCell ⟨w.heap.size + 1, 2, none⟩ (.slice b2 m2 v2)).setCell ⟨w.heap.size + 1, 3, none⟩ (.slice b3 m3 v3) := ⟨_, rfl⟩
                have hOV : OwnStore V (w.heap.size + 2) ⟨b0, m0, v0, b1, m1, v1, b2, m2, v2, b3, m3, v3, yi, yl, yd, yo⟩ := by rw [hV]; exact hO2.four (by omega) _ _ _ _
                have bV : BoxN V (w.heap.size + 1) 4 [.slice b0 m0 v0, .slice b1 m1 v1, .slice b2 m2 v2, .slice b3 m3 v3] := by rw [hV]; exact (((hbm.set 0 (by decide) _).set 1 (by decide) _).set 2 (by decide) _).set 3 (by decide) _
                have bVn : BoxN V w.heap.size 4 SV.nil.box := by rw [hV]; exact (((hbn.far (by omega)).far (by omega)).far (by omega)).far (by omega)
                have hbV : Below w.heap.size w V := by rw [hV]; exact below_four hbY (by omega) _ _ _ _
                go_upto_region 4 with (fail)
                rw [← hV]
                clear hV x0 x1 x2 x3 y0 y1 y2 y3 f0 f1 f2 f3 zq2 zbm
                go_wp2
                go_roundw
                case rel => exact ⟨k + 1, ⟨b0, m0, v0, b1, m1, v1, b2, m2, v2, b3, m3, v3, yi, yl, yd, yo⟩, by go_num, by omega, by omega, hG2, hOV, bV, bVn, hbV⟩
                case measure => simp [intOf]; omega
              · have hOk := hOX.below bY
                have hGk : Gd (SV.data ⟨a0, n0, u0, a1, n1, u1, a2, n2, u2, a3, n3, u3, xi, xl, xd, xo⟩) (1 + 24 * ((k + 1 : Nat) : Int)) := hG.mono (by omega)
                go_wp2
                go_roundw
                case rel => exact ⟨k + 1, ⟨a0, n0, u0, a1, n1, u1, a2, n2, u2, a3, n3, u3, xi, xl, xd, xo⟩, by go_num, by omega, by omega, hGk, hOk, hbm, hbn, hbY⟩
                case measure => simp [intOf]; omega
          ·
            have hCall := fun w' h1 => end_own ⟨a0, n0, u0, a1, n1, u1, a2, n2, u2, a3, n3, u3, xi, xl, xd, xo⟩ (pk ra 2, 1 + pk rb 2) true w' h1 hwf h4
            have HGd : Hid (endErr ⟨a0, n0, u0, a1, n1, u1, a2, n2, u2, a3, n3, u3, xi, xl, xd, xo⟩ (pk ra 2, 1 + pk rb 2) true = 0 → Gd (endData ⟨a0, n0, u0, a1, n1, u1, a2, n2, u2, a3, n3, u3, xi, xl, xd, xo⟩ (pk ra 2, 1 + pk rb 2) true) (1 + 24 * ((k + 1 : Nat) : Int))) := fun he => (gd_end hG (by omega) (by omega) hisT.out he).mono (by omega)
            obtain ⟨E, eE⟩ : ∃ E, E = endErr ⟨a0, n0, u0, a1, n1, u1, a2, n2, u2, a3, n3, u3, xi, xl, xd, xo⟩ (pk ra 2, 1 + pk rb 2) true := ⟨_, rfl⟩
            obtain ⟨D, eD⟩ : ∃ D, D = endData ⟨a0, n0, u0, a1, n1, u1, a2, n2, u2, a3, n3, u3, xi, xl, xd, xo⟩ (pk ra 2, 1 + pk rb 2) true := ⟨_, rfl⟩
            rw [← eE, ← eD] at HGd
            simp only [← eE, ← eD, SV.val] at hCall
            clear eE eD
            go_upto_region 8 with ((go_at_call 8; refine (picked_any _ _ _ (by assumption) (by decide) (by decide)).mono ?_; rintro e u ⟨rfl, hu⟩; rw [hu]; clear hu; (try rw [hZ]); (try rw [hY])))
            go_cut [15, 16] (fun sp se wc => ∃ (q2 : Nat) (r2 : SV), sp = .pointer (some ⟨q2, 0, none⟩) ∧ se = .int .i64 E ∧ BoxN wc q2 4 r2.box ∧ OwnStore wc (w.heap.size + 2) r2 ∧ r2.data = D ∧ Below X.heap.size X wc)
            case first =>
              clear x0 x1 x2 x3 t0 t1 e0 e1 e2 e3 e4 e5
              go_region_held3 (fun U => U.cell? ⟨w.heap.size + 1, 0, none⟩ = some (.slice a0 n0 u0) ∧ U.cell? ⟨w.heap.size + 1, 1, none⟩ = some (.slice a1 n1 u1) ∧ U.cell? ⟨w.heap.size + 1, 2, none⟩ = some (.slice a2 n2 u2) ∧ U.cell? ⟨w.heap.size + 1, 3, none⟩ = some (.slice a3 n3 u3) ∧ U.cell? ⟨q, 0, none⟩ = some (.int .i64 (pk ra 2)) ∧ U.cell? ⟨q, 1, none⟩ = some (.int .i64 (1 + pk rb 2)) ∧ U.cell? ⟨b, off + k * 6 + 4, none⟩ = some (.int .i64 rd) ∧ U.cell? ⟨b, off + k * 6 + 5, none⟩ = some (.int .i64 re))
                (exact KX.out _ (by (with_reducible repeat (first | exact Below.refl _ _ | exact hu2 | refine nD ?_ | refine nA ?_ _ | refine nS ?_ (by first | omega | (simp; done)) _)); done))
                (first | (go_at_call 8; refine (picked_any _ _ _ (by assumption) (by decide) (by decide)).mono ?_; rintro e u ⟨rfl, hu⟩; rw [hu]; clear hu; (try rw [hZ]); (try rw [hY])) | (go_at_call 9; refine (hCall _ (HSX.out _ (by (with_reducible repeat (first | exact Below.refl _ _ | exact hu2 | refine nD ?_ | refine nA ?_ _ | refine nS ?_ (by first | omega | (simp; done)) _)); done))).mono ?_; rintro e w2 ⟨⟨b0, m0, v0, b1, m1, v1, b2, m2, v2, b3, m3, v3, yi, yl, yd, yo⟩, rfl, hO2', hd2, hb2⟩; simp only []; have hu2 : Below X.heap.size X w2 := nT (by (with_reducible repeat (first | exact Below.refl _ _ | exact hu2 | refine nD ?_ | refine nA ?_ _ | refine nS ?_ (by first | omega | (simp; done)) _)); done) hb2; have zu2 := hu2.size; (first | (have bx3 : BoxN w2 X.heap.size 4 [.slice none 0 0, .slice none 0 0, .slice none 0 0, .slice none 0 0] := (boxn_new X.drew #[.slice none 0 0, .slice none 0 0, .slice none 0 0, .slice none 0 0] 28 4 rfl).below hb2 (by simp); have s0 : _ = some (Value.slice none 0 0) := (bx3.c 0 (by decide)).1; have s1 : _ = some (Value.slice none 0 0) := (bx3.c 1 (by decide)).1; have s2 : _ = some (Value.slice none 0 0) := (bx3.c 2 (by decide)).1; have s3 : _ = some (Value.slice none 0 0) := (bx3.c 3 (by decide)).1; have g0 := (bx3.c 0 (by decide)).2; have g1 := (bx3.c 1 (by decide)).2; have g2 := (bx3.c 2 (by decide)).2; have g3 := (bx3.c 3 (by decide)).2; have zbx3 := bx3.lt) | skip)))
              all_goals
                go_wp2_with fail
                go_meet
                case rel => first | exact ⟨_, ⟨b0, m0, v0, b1, m1, v1, b2, m2, v2, b3, m3, v3, yi, yl, yd, yo⟩, rfl, rfl, (((bx3.set 0 (by decide) (.slice b0 m0 v0)).set 1 (by decide) (.slice b1 m1 v1)).set 2 (by decide) (.slice b2 m2 v2)).set 3 (by decide) (.slice b3 m3 v3), (hO2'.four (b := X.heap.size) (by simp) _ _ _ _).base (by simp; omega), hd2, by (with_reducible repeat (first | exact Below.refl _ _ | exact hu2 | refine nD ?_ | refine nA ?_ _ | refine nS ?_ (by first | omega | (simp; done)) _)); done⟩ | exact ⟨_, ⟨b0, m0, v0, b1, m1, v1, b2, m2, v2, b3, m3, v3, yi, yl, yd, yo⟩, rfl, rfl, boxn_new w2 #[.slice b0 m0 v0, .slice b1 m1 v1, .slice b2 m2 v2, .slice b3 m3 v3] _ 4 rfl, (hO2'.below ((Below.refl _ _).alloc (Nat.le_refl _) _)).base (by first | omega | (simp; omega)), hd2, by (with_reducible repeat (first | exact Below.refl _ _ | exact hu2 | refine nD ?_ | refine nA ?_ _ | refine nS ?_ (by first | omega | (simp; done)) _)); done⟩
            case rest =>
              obtain ⟨q2, ⟨b0, m0, v0, b1, m1, v1, b2, m2, v2, b3, m3, v3, yi, yl, yd, yo⟩, rfl, rfl, hb2x, hO2, hd2, bY⟩ := hcut
              obtain ⟨Y, eY⟩ : ∃ Y, Y = wc := ⟨_, rfl⟩
              rw [← eY] at hb2x hO2 bY ⊢
              simp only [SV.box] at hb2x
              clear eY x0 x1 x2 x3 t0 t1 e0 e1 e2 e3 e4 e5
              have hbY : Below w.heap.size w Y := hbX.trans (bY.mono hbX.size)
              have zyl := hbY.size
              have hbm := hbxX.below bY hbxX.lt
              have hbn := hbrX.below bY hbrX.lt
              have x0 := (hb2x.c 0 (by decide)).1
              have x1 := (hb2x.c 1 (by decide)).1
              have x2 := (hb2x.c 2 (by decide)).1
              have x3 := (hb2x.c 3 (by decide)).1
              have y0 := (hbm.c 0 (by decide)).1
              have y1 := (hbm.c 1 (by decide)).1
              have y2 := (hbm.c 2 (by decide)).1
              have y3 := (hbm.c 3 (by decide)).1
              have f0 := (hbm.c 0 (by decide)).2
              have f1 := (hbm.c 1 (by decide)).2
              have f2 := (hbm.c 2 (by decide)).2
              have f3 := (hbm.c 3 (by decide)).2
              simp only [List.getD_cons_zero, List.getD_cons_succ] at x0 x1 x2 x3 y0 y1 y2 y3
              have zq2 := hb2x.lt
              have zbm := hbm.lt
              by_cases hE : E = 0
              · subst hE
                have hG2 : Gd (SV.data ⟨b0, m0, v0, b1, m1, v1, b2, m2, v2, b3, m3, v3, yi, yl, yd, yo⟩) (1 + 24 * ((k + 1 : Nat) : Int)) := by rw [hd2]; exact HGd.out rfl
                obtain ⟨V, hV⟩ : ∃ V : World, V = (((Y.setCell ⟨w.heap.size + 1, 0, none⟩ (.slice b0 m0 v0)).setCell ⟨w.heap.size + 1, 1, none⟩ (.slice b1 m1 v1)).setCell ⟨w.heap.size + 1, 2, none⟩ (.slice b2 m2 v2)).setCell ⟨w.heap.size + 1, 3, none⟩ (.slice b3 m3 v3) := ⟨_, rfl⟩
                have hOV : OwnStore V (w.heap.size + 2) ⟨b0, m0, v0, b1, m1, v1, b2, m2, v2, b3, m3, v3, yi, yl, yd, yo⟩ := by rw [hV]; exact hO2.four (by omega) _ _ _ _
                have bV : BoxN V (w.heap.size + 1) 4 [.slice b0 m0 v0, .slice b1 m1 v1, .slice b2 m2 v2, .slice b3 m3 v3] := by rw [hV]; exact (((hbm.set 0 (by decide) _).set 1 (by decide) _).set 2 (by decide) _).set 3 (by decide) _
                have bVn : BoxN V w.heap.size 4 SV.nil.box := by rw [hV]; exact (((hbn.far (by omega)).far (by omega)).far (by omega)).far (by omega)
                have hbV : Below w.heap.size w V := by rw [hV]; exact below_four hbY (by omega) _ _ _ _
                go_upto_region 4 with (fail)
                rw [← hV]
                clear hV x0 x1 x2 x3 y0 y1 y2 y3 f0 f1 f2 f3 zq2 zbm
                go_wp2
                go_roundw
                case rel => exact ⟨k + 1, ⟨b0, m0, v0, b1, m1, v1, b2, m2, v2, b3, m3, v3, yi, yl, yd, yo⟩, by go_num, by omega, by omega, hG2, hOV, bV, bVn, hbV⟩
                case measure => simp [intOf]; omega
              · have hOk := hOX.below bY
                have hGk : Gd (SV.data ⟨a0, n0, u0, a1, n1, u1, a2, n2, u2, a3, n3, u3, xi, xl, xd, xo⟩) (1 + 24 * ((k + 1 : Nat) : Int)) := hG.mono (by omega)
                go_wp2
                go_roundw
                case rel => exact ⟨k + 1, ⟨a0, n0, u0, a1, n1, u1, a2, n2, u2, a3, n3, u3, xi, xl, xd, xo⟩, by go_num, by omega, by omega, hGk, hOk, hbm, hbn, hbY⟩
                case measure => simp [intOf]; omega
    · have hfin : Gd (SV.data ⟨a0, n0, u0, a1, n1, u1, a2, n2, u2, a3, n3, u3, xi, xl, xd, xo⟩) 961 := hG.mono (by omega)
      simp only [SV.box] at hbx
      have x0 := (hbx.c 0 (by decide)).1
      have x1 := (hbx.c 1 (by decide)).1
      have x2 := (hbx.c 2 (by decide)).1
      have x3 := (hbx.c 3 (by decide)).1
      have r0 := (hbr.c 0 (by decide)).1
      have r1 := (hbr.c 1 (by decide)).1
      have r2 := (hbr.c 2 (by decide)).1
      have r3 := (hbr.c 3 (by decide)).1
      have f0 := (hbr.c 0 (by decide)).2
      have f1 := (hbr.c 1 (by decide)).2
      have f2 := (hbr.c 2 (by decide)).2
      have f3 := (hbr.c 3 (by decide)).2
      simp only [List.getD_cons_zero, List.getD_cons_succ, SV.nil, SV.box] at x0 x1 x2 x3 r0 r1 r2 r3
      have z1 := hbx.lt
      have z0 := hbr.lt
      have hkl : ¬ ((k : Int) < (len : Int)) ∨ ((k : Int) < (len : Int) ∧ ¬ ((k : Int) < M)) := by
        by_cases hq : (k : Int) < (len : Int)
        · exact .inr ⟨hq, fun e => hlt ⟨by omega, e⟩⟩
        · exact .inl hq
      rcases hkl with hq | ⟨hq, hq2⟩
      all_goals
        go_wp2
        refine bodyPost_ret (v := .agg #[.slice a0 n0 u0, .slice a1 n1 u1, .slice a2 n2 u2, .slice a3 n3 u3]) (by simp [results, Try.results7, go_sem, r0, r1, r2, r3]) rfl ?_
        exact ⟨⟨a0, n0, u0, a1, n1, u1, a2, n2, u2, a3, n3, u3, xi, xl, xd, xo⟩, rfl, (hO.four (b := w.heap.size) (by omega) _ _ _ _).base (by omega), hfin, below_four hb (Nat.le_refl _) _ _ _ _⟩
end Go.Proofs.Ytbmbahifkegehab.St
