/- The law MessageTorn at every argument. -/
import Derived.Test.YtacmafecjcldfaaDoorMessageBackWalk
namespace Go.Proofs.YtacmafecjcldfaaDoor
open Go.ChangeShapes Go.WideShapes Go.ChangeAt Go.RowKit
set_option linter.unusedVariables false

set_option maxRecDepth 100000 in
set_option maxHeartbeats 4000000 in
theorem messageTorn_walk (s : Int) (a : Option Addr) (len cap : Nat) (zs : List Int) (r : RV) (at' : Int) (w : World) (hs : (Lit.int .i64 s).wf = true) (h : IsInts w a len cap zs) (hr : r.ok) (hat : (Lit.int .i64 at').wf = true) (hm : HasAt w 0 mHas) (hwd : WidsAt w) (ht : TopsAt w) :
    Calls Tryd.prog 5 #[.int .i64 s, .slice a len cap, r.val, .int .i64 at'] w fun e w' => e = .returned (.bool true) ∧ Below w.heap.size w w' := by
  have hat' := i64_bd hat
  have hs' := i64_bd hs
  obtain ⟨kd, ra, rb, rc, rd, re⟩ := r
  obtain ⟨hkd, hra, hrb, hrc, hrd, hre⟩ := hr
  simp only [RV.val]
  have hgT : 3 < w.heap.size := World.block_lt_of_cell? w _ ht.1
  have hgM : 0 < w.heap.size := hm.lt (by decide)
  have hgW : 2 < w.heap.size := hwd.lt
  have hCfg := fun w' h' => cfg_good s a len cap zs w' hs' h'
  obtain ⟨W0, hW0⟩ : ∃ W0 : World, W0 = w.alloc (.cells #[.int .i64 kd, .int .i64 ra, .int .i64 rb, .int .i64 rc, .int .i64 rd, .int .i64 re] 24) := ⟨_, rfl⟩
  have hB0 : Below w.heap.size w W0 := by rw [hW0]; exact (Below.refl _ _).alloc (Nat.le_refl _) _
  have zW0 : W0.heap.size = w.heap.size + 1 := by rw [hW0]; simp
  have d0 : W0.cell? ⟨w.heap.size, 0, none⟩ = some (.int .i64 kd) := by rw [hW0]; go_simp
  have d1 : W0.cell? ⟨w.heap.size, 1, none⟩ = some (.int .i64 ra) := by rw [hW0]; go_simp
  have d2 : W0.cell? ⟨w.heap.size, 2, none⟩ = some (.int .i64 rb) := by rw [hW0]; go_simp
  have d3 : W0.cell? ⟨w.heap.size, 3, none⟩ = some (.int .i64 rc) := by rw [hW0]; go_simp
  have d4 : W0.cell? ⟨w.heap.size, 4, none⟩ = some (.int .i64 rd) := by rw [hW0]; go_simp
  have d5 : W0.cell? ⟨w.heap.size, 5, none⟩ = some (.int .i64 re) := by rw [hW0]; go_simp
  have h0 := h.below hB0
  go_enter Tryd.func5, Tryd.ntmps5
  go_upto_region 1 with (fail)
  rw [← hW0]
  clear hW0
  go_upto_region 2 with (go_at_call 9; refine (hCfg _ h0).mono ?_; rintro e w1 ⟨S, P, g, n, cp, L, rfl, hC1, hb1⟩)
  obtain ⟨W, hW⟩ : ∃ W : World, W = w1.alloc (.cells #[.int .i64 S, .slice (some ⟨g, 0, none⟩) n cp, .int .i64 P] 27) := ⟨_, rfl⟩
  have zW : W.heap.size = w1.heap.size + 1 := by rw [hW]; simp
  have c0 : W.cell? ⟨w1.heap.size, 0, none⟩ = some (.int .i64 S) := by rw [hW]; go_simp
  have c1 : W.cell? ⟨w1.heap.size, 1, none⟩ = some (.slice (some ⟨g, 0, none⟩) n cp) := by rw [hW]; go_simp
  have c2 : W.cell? ⟨w1.heap.size, 2, none⟩ = some (.int .i64 P) := by rw [hW]; go_simp
  have hBW : Below w1.heap.size w1 W := by rw [hW]; exact (Below.refl _ _).alloc (Nat.le_refl _) _
  rw [← hW]
  clear hW
  have hCW := hC1.below hBW
  have hb1' : Below W0.heap.size W0 W := hb1.trans (hBW.mono hb1.size)
  have hBw : Below w.heap.size w W := hB0.trans (hb1'.mono hB0.size)
  have z01 := hb1.size
  have k0 : W.cell? ⟨w.heap.size, 0, none⟩ = some (.int .i64 kd) := (hb1'.cell (p := ⟨w.heap.size, 0, none⟩) (by show w.heap.size < _; omega)).trans d0
  have k1 : W.cell? ⟨w.heap.size, 1, none⟩ = some (.int .i64 ra) := (hb1'.cell (p := ⟨w.heap.size, 1, none⟩) (by show w.heap.size < _; omega)).trans d1
  have k2 : W.cell? ⟨w.heap.size, 2, none⟩ = some (.int .i64 rb) := (hb1'.cell (p := ⟨w.heap.size, 2, none⟩) (by show w.heap.size < _; omega)).trans d2
  have k3 : W.cell? ⟨w.heap.size, 3, none⟩ = some (.int .i64 rc) := (hb1'.cell (p := ⟨w.heap.size, 3, none⟩) (by show w.heap.size < _; omega)).trans d3
  have k4 : W.cell? ⟨w.heap.size, 4, none⟩ = some (.int .i64 rd) := (hb1'.cell (p := ⟨w.heap.size, 4, none⟩) (by show w.heap.size < _; omega)).trans d4
  have k5 : W.cell? ⟨w.heap.size, 5, none⟩ = some (.int .i64 re) := (hb1'.cell (p := ⟨w.heap.size, 5, none⟩) (by show w.heap.size < _; omega)).trans d5
  clear d0 d1 d2 d3 d4 d5 h0 hCfg hC1 hBW hb1 hb1'
  have KC : Hid (∀ U : World, Below W.heap.size W U → U.cell? ⟨w1.heap.size, 0, none⟩ = some (.int .i64 S) ∧ U.cell? ⟨w1.heap.size, 1, none⟩ = some (.slice (some ⟨g, 0, none⟩) n cp) ∧ U.cell? ⟨w1.heap.size, 2, none⟩ = some (.int .i64 P)) := by
    intro U hU
    exact ⟨(hU.cell (p := ⟨w1.heap.size, 0, none⟩) (by show w1.heap.size < _; omega)).trans c0, (hU.cell (p := ⟨w1.heap.size, 1, none⟩) (by show w1.heap.size < _; omega)).trans c1, (hU.cell (p := ⟨w1.heap.size, 2, none⟩) (by show w1.heap.size < _; omega)).trans c2⟩
  have zwW : w.heap.size < W.heap.size := by have := hBw.size; omega
  have KR : Hid (∀ U : World, Below W.heap.size W U → (U.cell? ⟨w1.heap.size, 0, none⟩ = some (.int .i64 S) ∧ U.cell? ⟨w1.heap.size, 1, none⟩ = some (.slice (some ⟨g, 0, none⟩) n cp) ∧ U.cell? ⟨w1.heap.size, 2, none⟩ = some (.int .i64 P)) ∧ U.cell? ⟨w.heap.size, 0, none⟩ = some (.int .i64 kd) ∧ U.cell? ⟨w.heap.size, 1, none⟩ = some (.int .i64 ra) ∧ U.cell? ⟨w.heap.size, 2, none⟩ = some (.int .i64 rb) ∧ U.cell? ⟨w.heap.size, 3, none⟩ = some (.int .i64 rc) ∧ U.cell? ⟨w.heap.size, 4, none⟩ = some (.int .i64 rd) ∧ U.cell? ⟨w.heap.size, 5, none⟩ = some (.int .i64 re)) := by
    intro U hU
    exact ⟨KC.out U hU, (hU.cell (p := ⟨w.heap.size, 0, none⟩) zwW).trans k0, (hU.cell (p := ⟨w.heap.size, 1, none⟩) zwW).trans k1, (hU.cell (p := ⟨w.heap.size, 2, none⟩) zwW).trans k2, (hU.cell (p := ⟨w.heap.size, 3, none⟩) zwW).trans k3, (hU.cell (p := ⟨w.heap.size, 4, none⟩) zwW).trans k4, (hU.cell (p := ⟨w.heap.size, 5, none⟩) zwW).trans k5⟩
  have KL : Hid (∀ U : World, Below W.heap.size W U → IsLabs U (some ⟨g, 0, none⟩) n cp L) := fun U hU => hCW.labs.below hU
  have KB : Hid (∀ U : World, Below W.heap.size W U → Below w.heap.size w U) := fun U hU => hBw.trans (hU.mono hBw.size)
  have KM : Hid (∀ U : World, Below W.heap.size W U → HasAt U 0 mHas) := fun U hU => hm.below (KB.out U hU) hgM
  have KW : Hid (∀ U : World, Below W.heap.size W U → WidsAt U) := fun U hU => hwd.below (KB.out U hU) hgW
  have KT : Hid (∀ U : World, Below W.heap.size W U → TopsAt U) := fun U hU => ht.below (KB.out U hU) hgT
  have hD : Below W.heap.size W W.drew := (Below.refl _ _).drew
  go_cut [10, 11] (fun s10 s11 wc => ∃ (m : MV) (a3 : Option Addr) (l3 c3 : Nat), s10 = .slice a3 l3 c3 ∧ s11 = .int .i64 0 ∧ msgFault S L P m = 0 ∧ IsB wc a3 l3 c3 (msgBytes m) ∧ Below W.heap.size W wc)
  case first =>
    go_region_held3 (fun U => (U.cell? ⟨w1.heap.size, 0, none⟩ = some (.int .i64 S) ∧ U.cell? ⟨w1.heap.size, 1, none⟩ = some (.slice (some ⟨g, 0, none⟩) n cp) ∧ U.cell? ⟨w1.heap.size, 2, none⟩ = some (.int .i64 P)) ∧ U.cell? ⟨w.heap.size, 0, none⟩ = some (.int .i64 kd) ∧ U.cell? ⟨w.heap.size, 1, none⟩ = some (.int .i64 ra) ∧ U.cell? ⟨w.heap.size, 2, none⟩ = some (.int .i64 rb) ∧ U.cell? ⟨w.heap.size, 3, none⟩ = some (.int .i64 rc) ∧ U.cell? ⟨w.heap.size, 4, none⟩ = some (.int .i64 rd) ∧ U.cell? ⟨w.heap.size, 5, none⟩ = some (.int .i64 re))
      (exact KR.out _ (by (with_reducible repeat (first | exact hw3 | exact hw2 | exact hD | exact Below.refl _ _ | refine bD ?_ | refine bA ?_ _)); done))
      (first
        | ((go_at_call 10; refine (msg_good S P g n cp L kd ra rb rc rd re _ (hCW.below hD) hkd hra hrb hrc hrd hre).mono ?_; rintro e w2 ⟨⟨kind, frm, dst, site, num, label, key, value, version, ask, yes, code⟩, rfl, hm0, hb2⟩; simp only [MV.val]; have hw2 : Below W.heap.size W w2 := bT hD hb2; have hEnc := fun w' h1 h2 h3 h4 => encodeMessage_any S P (some ⟨g, 0, none⟩) n cp L ⟨kind, frm, dst, site, num, label, key, value, version, ask, yes, code⟩ w' h1 h2 h3 h4; rw [hm0] at hEnc; simp only [if_true, MV.val] at hEnc))
        | ((go_at_call 11; refine (hEnc _ (KL.out _ hw2) (KM.out _ hw2) (KT.out _ hw2) (KW.out _ hw2)).mono ?_; rintro e w3 ⟨a3, l3, c3, rfl, hI3, hge3, hb3⟩; have hw3 := bT hw2 hb3)))
    all_goals
      have HM : Hid (msgFault S L P ⟨kind, frm, dst, site, num, label, key, value, version, ask, yes, code⟩ = 0) := hm0
      clear hm0
      go_wp2_with fail
      go_meet
      case rel => exact ⟨⟨kind, frm, dst, site, num, label, key, value, version, ask, yes, code⟩, a3, l3, c3, rfl, rfl, HM.out, hI3, hw3⟩
  case rest =>
    obtain ⟨m, a3, l3, c3, rfl, rfl, hm0, hI3, b3⟩ := hcut
    obtain ⟨X, eX⟩ : ∃ X, X = wc := ⟨_, rfl⟩
    rw [← eX] at hI3 b3 ⊢
    clear eX
    have hbl : 7 ≤ (msgBytes m).length := msgBytes_pos m
    have hbu := msgBytes_le m
    have l3u : l3 ≤ 22 := by have := hI3.1; omega
    have l3l : 7 ≤ l3 := by have := hI3.1; omega
    have l3i : (7 : Int) ≤ (l3 : Int) := by omega
    have l3c : l3 ≤ c3 := hI3.2.1
    have x1 : ¬ (l3 : Int) < 1 := by omega
    have x2 : (1 : Int) < (l3 : Int) := by omega
    have x3 : ¬ (l3 : Int) ≤ 1 := by omega
    have x4 : (1 : Int) ≤ (l3 : Int) := by omega
    have hDec := fun (j : Nat) (hj : j < (msgBytes m).length) w' h1 h2 h3 h4 h5 h6 => decodeMessage_any S P (some ⟨g, 0, none⟩) n cp L a3 j c3 ((msgBytes m).take j) w' h1 h2 h3 h4 h5 h6
    have hlt3 : ∀ b off, a3 = some ⟨b, off, none⟩ → b < X.heap.size := isB_lt' hI3 hbl
    have hpk := fun w' => picked_any at' (l3 : Int) w' hat' (by omega) (by omega)
    have pb := pk_bd at' (l3 : Int) (by omega)
    obtain ⟨j, ej⟩ : ∃ j : Nat, pk at' (l3 : Int) = j := ⟨(pk at' (l3 : Int)).toNat, by omega⟩
    rw [ej] at hpk pb
    clear ej
    have hjl : j < l3 := by omega
    have hjm : j < (msgBytes m).length := by have := hI3.1; omega
    have hjc : j ≤ c3 := by omega
    have hjc' : (j : Int) ≤ (c3 : Int) := by omega
    have hDj := hDec j hjm
    rw [msgOf_torn hm0 j hjm] at hDj
    simp only [MV.val, MV.zero] at hDj
    have hIj := hI3.take j c3 (by omega) hjc (Nat.le_refl _)
    have KI : Hid (∀ U : World, Below X.heap.size X U → IsB U a3 j c3 ((msgBytes m).take j)) := fun U hU => hIj.below hU
    have KX : Hid (∀ U : World, Below X.heap.size X U → U.cell? ⟨w1.heap.size, 0, none⟩ = some (.int .i64 S) ∧ U.cell? ⟨w1.heap.size, 1, none⟩ = some (.slice (some ⟨g, 0, none⟩) n cp) ∧ U.cell? ⟨w1.heap.size, 2, none⟩ = some (.int .i64 P)) := fun U hU => KC.out U (bT b3 hU)
    obtain ⟨q0, q1, q2⟩ := KC.out _ b3
    have hDX : Below X.heap.size X X.drew := (Below.refl _ _).drew
    clear hI3 hIj hDec hm0 hbl hbu hjm c0 c1 c2 k0 k1 k2 k3 k4 k5 hCW
    go_upto_region 3 with (fail)
    go_cut [13] (fun s13 wc => s13 = .int .i64 5 ∧ Below X.heap.size X wc)
    case first =>
      go_region_held3 (fun U => U.cell? ⟨w1.heap.size, 0, none⟩ = some (.int .i64 S) ∧ U.cell? ⟨w1.heap.size, 1, none⟩ = some (.slice (some ⟨g, 0, none⟩) n cp) ∧ U.cell? ⟨w1.heap.size, 2, none⟩ = some (.int .i64 P))
        (exact KX.out _ (by (with_reducible repeat (first | exact hu3 | exact hDX | exact Below.refl _ _ | refine bD ?_ | refine bA ?_ _ | refine bS ?_ (by omega) _)); done))
        (first
          | ((go_at_call 14; refine (hpk _).mono ?_; rintro e v ⟨rfl, hv⟩; rw [hv]; clear hv v))
          | ((go_at_call 12; refine (hDj _ (KL.out _ (bT b3 (by (with_reducible repeat (first | exact hDX | exact Below.refl _ _ | refine bD ?_ | refine bA ?_ _ | refine bS ?_ (by omega) _)); done))) (KI.out _ (by (with_reducible repeat (first | exact hDX | exact Below.refl _ _ | refine bD ?_ | refine bA ?_ _ | refine bS ?_ (by omega) _)); done)) (by first | exact hlt3 | exact fun b off e => Nat.lt_of_lt_of_le (hlt3 b off e) (by simp)) (KM.out _ (bT b3 (by (with_reducible repeat (first | exact hDX | exact Below.refl _ _ | refine bD ?_ | refine bA ?_ _ | refine bS ?_ (by omega) _)); done))) (KT.out _ (bT b3 (by (with_reducible repeat (first | exact hDX | exact Below.refl _ _ | refine bD ?_ | refine bA ?_ _ | refine bS ?_ (by omega) _)); done))) (KW.out _ (bT b3 (by (with_reducible repeat (first | exact hDX | exact Below.refl _ _ | refine bD ?_ | refine bA ?_ _ | refine bS ?_ (by omega) _)); done)))).mono ?_; rintro e u3 ⟨rfl, hb3'⟩; have hu3 : Below X.heap.size X u3 := bT (by (with_reducible repeat (first | exact hDX | exact Below.refl _ _ | refine bD ?_ | refine bA ?_ _ | refine bS ?_ (by omega) _)); done) hb3'; have z3 : X.heap.size ≤ u3.heap.size := hu3.size; (first | (have bx3 : BoxN u3 X.heap.size 12 [.int .i64 0, .int .i64 0, .int .i64 0, .int .i64 0, .int .i64 0, .int .i64 0, .int .i64 0, .int .i64 0, .int .i64 0, .int .i64 0, .bool false, .int .i64 0] := (boxn_new X.drew #[.int .i64 0, .int .i64 0, .int .i64 0, .int .i64 0, .int .i64 0, .int .i64 0, .int .i64 0, .int .i64 0, .int .i64 0, .int .i64 0, .bool false, .int .i64 0] 33 12 rfl).below hb3' (by simp); have s0 : _ = some (Value.int .i64 0) := (bx3.c 0 (by omega)).1; have g0 := (bx3.c 0 (by omega)).2; have s1 : _ = some (Value.int .i64 0) := (bx3.c 1 (by omega)).1; have g1 := (bx3.c 1 (by omega)).2; have s2 : _ = some (Value.int .i64 0) := (bx3.c 2 (by omega)).1; have g2 := (bx3.c 2 (by omega)).2; have s3 : _ = some (Value.int .i64 0) := (bx3.c 3 (by omega)).1; have g3 := (bx3.c 3 (by omega)).2; have s4 : _ = some (Value.int .i64 0) := (bx3.c 4 (by omega)).1; have g4 := (bx3.c 4 (by omega)).2; have s5 : _ = some (Value.int .i64 0) := (bx3.c 5 (by omega)).1; have g5 := (bx3.c 5 (by omega)).2; have s6 : _ = some (Value.int .i64 0) := (bx3.c 6 (by omega)).1; have g6 := (bx3.c 6 (by omega)).2; have s7 : _ = some (Value.int .i64 0) := (bx3.c 7 (by omega)).1; have g7 := (bx3.c 7 (by omega)).2; have s8 : _ = some (Value.int .i64 0) := (bx3.c 8 (by omega)).1; have g8 := (bx3.c 8 (by omega)).2; have s9 : _ = some (Value.int .i64 0) := (bx3.c 9 (by omega)).1; have g9 := (bx3.c 9 (by omega)).2; have s10 : _ = some (Value.bool false) := (bx3.c 10 (by omega)).1; have g10 := (bx3.c 10 (by omega)).2; have s11 : _ = some (Value.int .i64 0) := (bx3.c 11 (by omega)).1; have g11 := (bx3.c 11 (by omega)).2) | (have bx3 : BoxN u3 X.heap.size 12 [.int .i64 0, .int .i64 0, .int .i64 0, .int .i64 0, .int .i64 0, .int .i64 0, .int .i64 0, .int .i64 0, .int .i64 0, .int .i64 0, .bool false, .int .i64 0] := (boxn_new X #[.int .i64 0, .int .i64 0, .int .i64 0, .int .i64 0, .int .i64 0, .int .i64 0, .int .i64 0, .int .i64 0, .int .i64 0, .int .i64 0, .bool false, .int .i64 0] 33 12 rfl).below hb3' (by simp); have s0 : _ = some (Value.int .i64 0) := (bx3.c 0 (by omega)).1; have g0 := (bx3.c 0 (by omega)).2; have s1 : _ = some (Value.int .i64 0) := (bx3.c 1 (by omega)).1; have g1 := (bx3.c 1 (by omega)).2; have s2 : _ = some (Value.int .i64 0) := (bx3.c 2 (by omega)).1; have g2 := (bx3.c 2 (by omega)).2; have s3 : _ = some (Value.int .i64 0) := (bx3.c 3 (by omega)).1; have g3 := (bx3.c 3 (by omega)).2; have s4 : _ = some (Value.int .i64 0) := (bx3.c 4 (by omega)).1; have g4 := (bx3.c 4 (by omega)).2; have s5 : _ = some (Value.int .i64 0) := (bx3.c 5 (by omega)).1; have g5 := (bx3.c 5 (by omega)).2; have s6 : _ = some (Value.int .i64 0) := (bx3.c 6 (by omega)).1; have g6 := (bx3.c 6 (by omega)).2; have s7 : _ = some (Value.int .i64 0) := (bx3.c 7 (by omega)).1; have g7 := (bx3.c 7 (by omega)).2; have s8 : _ = some (Value.int .i64 0) := (bx3.c 8 (by omega)).1; have g8 := (bx3.c 8 (by omega)).2; have s9 : _ = some (Value.int .i64 0) := (bx3.c 9 (by omega)).1; have g9 := (bx3.c 9 (by omega)).2; have s10 : _ = some (Value.bool false) := (bx3.c 10 (by omega)).1; have g10 := (bx3.c 10 (by omega)).2; have s11 : _ = some (Value.int .i64 0) := (bx3.c 11 (by omega)).1; have g11 := (bx3.c 11 (by omega)).2) | skip))))
      all_goals
        go_wp2_with fail
        go_meet
        case rel => exact ⟨rfl, (by (with_reducible repeat (first | exact hu3 | exact hDX | exact Below.refl _ _ | refine bD ?_ | refine bA ?_ _ | refine bS ?_ (by omega) _)); done)⟩
    case rest =>
      obtain ⟨rfl, hbc⟩ := hcut
      go_wp2
      go_ret
      exact ⟨rfl, KB.out _ (bT b3 hbc)⟩
end Go.Proofs.YtacmafecjcldfaaDoor
