/- The law MessageFixed at every argument. -/
import Derived.Test.YtacmafecjcldfaaDoorMessageBackWalk
namespace Go.Proofs.YtacmafecjcldfaaDoor
open Go.ChangeShapes Go.WideShapes Go.ChangeAt Go.RowKit
set_option linter.unusedVariables false

set_option maxRecDepth 100000 in
set_option maxHeartbeats 4000000 in
theorem messageFixed_walk (s : Int) (a : Option Addr) (len cap : Nat) (zs : List Int) (ba : Option Addr) (bl bc : Nat) (bs : List Int) (w : World) (hs : (Lit.int .i64 s).wf = true) (h : IsInts w a len cap zs) (hI : IsB w ba bl bc bs) (hbl : bl ≤ 140737488351232) (hm : HasAt w 0 mHas) (hwd : WidsAt w) (ht : TopsAt w) :
    Calls Tryd.prog 4 #[.int .i64 s, .slice a len cap, .slice ba bl bc] w fun e w' => e = .returned (.bool true) ∧ Below w.heap.size w w' := by
  have hs' := i64_bd hs
  have hgT : 3 < w.heap.size := World.block_lt_of_cell? w _ ht.1
  have hgM : 0 < w.heap.size := hm.lt (by decide)
  have hgW : 2 < w.heap.size := hwd.lt
  have hCfg := fun w' h' => cfg_good s a len cap zs w' hs' h'
  have hbyt := hI.2.2.2.1
  go_enter Tryd.func4, Tryd.ntmps4
  go_upto_region 1 with (fail)
  go_upto_region 2 with (go_at_call 9; refine (hCfg _ h).mono ?_; rintro e w1 ⟨S, P, g, n, cp, L, rfl, hC1, hb1⟩)
  obtain ⟨W, hW⟩ : ∃ W : World, W = w1.alloc (.cells #[.int .i64 S, .slice (some ⟨g, 0, none⟩) n cp, .int .i64 P] 27) := ⟨_, rfl⟩
  have zW : w1.heap.size < W.heap.size := by rw [hW]; simp
  have c0 : W.cell? ⟨w1.heap.size, 0, none⟩ = some (.int .i64 S) := by rw [hW]; go_simp
  have c1 : W.cell? ⟨w1.heap.size, 1, none⟩ = some (.slice (some ⟨g, 0, none⟩) n cp) := by rw [hW]; go_simp
  have c2 : W.cell? ⟨w1.heap.size, 2, none⟩ = some (.int .i64 P) := by rw [hW]; go_simp
  have hBW : Below w1.heap.size w1 W := by rw [hW]; exact (Below.refl _ _).alloc (Nat.le_refl _) _
  rw [← hW]
  clear hW
  have hCW := hC1.below hBW
  have hBw : Below w.heap.size w W := hb1.trans (hBW.mono hb1.size)
  have hok := hCW.ok
  have KC : Hid (∀ U : World, Below W.heap.size W U → U.cell? ⟨w1.heap.size, 0, none⟩ = some (.int .i64 S) ∧ U.cell? ⟨w1.heap.size, 1, none⟩ = some (.slice (some ⟨g, 0, none⟩) n cp) ∧ U.cell? ⟨w1.heap.size, 2, none⟩ = some (.int .i64 P)) := by
    intro U hU
    exact ⟨(hU.cell (p := ⟨w1.heap.size, 0, none⟩) (by show w1.heap.size < _; omega)).trans c0, (hU.cell (p := ⟨w1.heap.size, 1, none⟩) (by show w1.heap.size < _; omega)).trans c1, (hU.cell (p := ⟨w1.heap.size, 2, none⟩) (by show w1.heap.size < _; omega)).trans c2⟩
  have KL : Hid (∀ U : World, Below W.heap.size W U → IsLabs U (some ⟨g, 0, none⟩) n cp L) := fun U hU => hCW.labs.below hU
  have KB : Hid (∀ U : World, Below W.heap.size W U → Below w.heap.size w U) := fun U hU => hBw.trans (hU.mono hBw.size)
  have KM : Hid (∀ U : World, Below W.heap.size W U → HasAt U 0 mHas) := fun U hU => hm.below (KB.out U hU) hgM
  have KW : Hid (∀ U : World, Below W.heap.size W U → WidsAt U) := fun U hU => hwd.below (KB.out U hU) hgW
  have KT : Hid (∀ U : World, Below W.heap.size W U → TopsAt U) := fun U hU => ht.below (KB.out U hU) hgT
  have KI : Hid (∀ U : World, Below W.heap.size W U → IsB U ba bl bc bs) := fun U hU => hI.below (KB.out U hU)
  have hD : Below W.heap.size W W.drew := (Below.refl _ _).drew
  obtain ⟨q0, q1, q2⟩ : W.cell? ⟨w1.heap.size, 0, none⟩ = some (.int .i64 S) ∧ W.cell? ⟨w1.heap.size, 1, none⟩ = some (.slice (some ⟨g, 0, none⟩) n cp) ∧ W.cell? ⟨w1.heap.size, 2, none⟩ = some (.int .i64 P) := ⟨c0, c1, c2⟩
  have hDec := fun ba bl bc w' h1 h2 h3 h4 h5 h6 => decodeMessage_any S P (some ⟨g, 0, none⟩) n cp L ba bl bc bs w' h1 h2 h3 h4 h5 h6
  have hDec0 := fun w' h1 h2 h3 h4 h5 h6 => decodeMessage_any S P (some ⟨g, 0, none⟩) n cp L none 0 0 [] w' h1 h2 h3 h4 h5 h6
  rw [msgOf_nil hok] at hDec0
  have hGood := @msgOf_fixed S L P bs hbyt
  have hBad := @msgOf_bad S L P bs
  obtain ⟨m, er, eMO⟩ : ∃ m e, msgOf S L P bs = (m, e) := ⟨_, _, rfl⟩
  rw [eMO] at hDec hGood hBad
  simp only at hDec hGood hBad
  clear eMO c0 c1 c2
  have hEnc := fun w' h1 h2 h3 h4 => encodeMessage_any S P (some ⟨g, 0, none⟩) n cp L m w' h1 h2 h3 h4
  obtain ⟨kind, frm, dst, site, num, label, key, value, version, ask, yes, code⟩ := m
  simp only [MV.val, MV.zero] at hDec hDec0 hEnc hBad
  go_cut [8, 9] (fun s8 s9 wc => ∃ q : Nat, s8 = .pointer (some ⟨q, 0, none⟩) ∧ s9 = .int .i64 er ∧ BoxN wc q 12 [.int .i64 kind, .int .i64 frm, .int .i64 dst, .int .i64 site, .int .i64 num, .int .i64 label, .int .i64 key, .int .i64 value, .int .i64 version, .int .i64 ask, .bool yes, .int .i64 code] ∧ Below W.heap.size W wc)
  case first =>
    go_region_held3 (fun U => U.cell? ⟨w1.heap.size, 0, none⟩ = some (.int .i64 S) ∧ U.cell? ⟨w1.heap.size, 1, none⟩ = some (.slice (some ⟨g, 0, none⟩) n cp) ∧ U.cell? ⟨w1.heap.size, 2, none⟩ = some (.int .i64 P))
      (exact KC.out _ (by (with_reducible repeat (first | exact hu3 | exact hu1 | exact hD | exact Below.refl _ _ | refine bD ?_ | refine bA ?_ _ | refine bS ?_ (by omega) _)); done))
      (first
        | ((refine step_append_bytes (by rfl) (.const (.slice none 0 0)) (.tmp 19) (by rfl) W.heap.size (.slice none 0 0) 0 [] (by rfl) (World.ownsRow_nil _ _ _ _) ba bl bc bs (by rfl) (KI.out _ (by (with_reducible repeat (first | exact hu1 | exact hD | exact Below.refl _ _ | refine bD ?_ | refine bA ?_ _ | refine bS ?_ (by omega) _)); done)) (by omega) (by first | exact Nat.le_refl _ | (simp; done) | (simp; omega)) ?_; intro a6 c6 u1 own1 gr1 at1; have hu1 : Below W.heap.size W u1 := bG (by (with_reducible repeat (first | exact hu1 | exact hD | exact Below.refl _ _ | refine bD ?_ | refine bA ?_ _ | refine bS ?_ (by omega) _)); done) gr1 (fun k hk => by cases hk); have z1 : W.heap.size ≤ u1.heap.size := hu1.size; (first | (have bx1 : BoxN u1 W.heap.size 12 [.int .i64 0, .int .i64 0, .int .i64 0, .int .i64 0, .int .i64 0, .int .i64 0, .int .i64 0, .int .i64 0, .int .i64 0, .int .i64 0, .bool false, .int .i64 0] := (boxn_new W.drew #[.int .i64 0, .int .i64 0, .int .i64 0, .int .i64 0, .int .i64 0, .int .i64 0, .int .i64 0, .int .i64 0, .int .i64 0, .int .i64 0, .bool false, .int .i64 0] 33 12 rfl).grown gr1 (by simp [Value.ownBlock])) | (have bx1 : BoxN u1 W.heap.size 12 [.int .i64 0, .int .i64 0, .int .i64 0, .int .i64 0, .int .i64 0, .int .i64 0, .int .i64 0, .int .i64 0, .int .i64 0, .int .i64 0, .bool false, .int .i64 0] := (boxn_new W #[.int .i64 0, .int .i64 0, .int .i64 0, .int .i64 0, .int .i64 0, .int .i64 0, .int .i64 0, .int .i64 0, .int .i64 0, .int .i64 0, .bool false, .int .i64 0] 33 12 rfl).grown gr1 (by simp [Value.ownBlock])) | skip); simp only [Nat.zero_add, List.nil_append] at own1 ⊢; obtain ⟨hI1, hge1⟩ := isB_slice own1 hbyt; have hlt1 : ∀ b off, a6 = some ⟨b, off, none⟩ → b < u1.heap.size := fun b off e => (own1.lt b (by rw [e]; rfl)).2))
        | ((go_at_call 12; refine (hDec a6 bl c6 _ (KL.out _ (by (with_reducible repeat (first | exact hu1 | exact hD | exact Below.refl _ _ | refine bD ?_ | refine bA ?_ _ | refine bS ?_ (by omega) _)); done)) (by first | exact hI1 | exact hI1.below ((Below.refl _ _).alloc (Nat.le_refl _) _)) (by first | exact hlt1 | exact fun b off e => Nat.lt_of_lt_of_le (hlt1 b off e) (by simp)) (KM.out _ (by (with_reducible repeat (first | exact hu1 | exact hD | exact Below.refl _ _ | refine bD ?_ | refine bA ?_ _ | refine bS ?_ (by omega) _)); done)) (KT.out _ (by (with_reducible repeat (first | exact hu1 | exact hD | exact Below.refl _ _ | refine bD ?_ | refine bA ?_ _ | refine bS ?_ (by omega) _)); done)) (KW.out _ (by (with_reducible repeat (first | exact hu1 | exact hD | exact Below.refl _ _ | refine bD ?_ | refine bA ?_ _ | refine bS ?_ (by omega) _)); done))).mono ?_; rintro e u3 ⟨rfl, hb3'⟩; have hu3 : Below W.heap.size W u3 := bT (by (with_reducible repeat (first | exact hu1 | exact hD | exact Below.refl _ _ | refine bD ?_ | refine bA ?_ _ | refine bS ?_ (by omega) _)); done) hb3'; have z3 : W.heap.size ≤ u3.heap.size := hu3.size; (first | (have bx3 := bx1.below hb3' bx1.lt; have s0 : _ = some (Value.int .i64 0) := (bx3.c 0 (by omega)).1; have g0 := (bx3.c 0 (by omega)).2; have s1 : _ = some (Value.int .i64 0) := (bx3.c 1 (by omega)).1; have g1 := (bx3.c 1 (by omega)).2; have s2 : _ = some (Value.int .i64 0) := (bx3.c 2 (by omega)).1; have g2 := (bx3.c 2 (by omega)).2; have s3 : _ = some (Value.int .i64 0) := (bx3.c 3 (by omega)).1; have g3 := (bx3.c 3 (by omega)).2; have s4 : _ = some (Value.int .i64 0) := (bx3.c 4 (by omega)).1; have g4 := (bx3.c 4 (by omega)).2; have s5 : _ = some (Value.int .i64 0) := (bx3.c 5 (by omega)).1; have g5 := (bx3.c 5 (by omega)).2; have s6 : _ = some (Value.int .i64 0) := (bx3.c 6 (by omega)).1; have g6 := (bx3.c 6 (by omega)).2; have s7 : _ = some (Value.int .i64 0) := (bx3.c 7 (by omega)).1; have g7 := (bx3.c 7 (by omega)).2; have s8 : _ = some (Value.int .i64 0) := (bx3.c 8 (by omega)).1; have g8 := (bx3.c 8 (by omega)).2; have s9 : _ = some (Value.int .i64 0) := (bx3.c 9 (by omega)).1; have g9 := (bx3.c 9 (by omega)).2; have s10 : _ = some (Value.bool false) := (bx3.c 10 (by omega)).1; have g10 := (bx3.c 10 (by omega)).2; have s11 : _ = some (Value.int .i64 0) := (bx3.c 11 (by omega)).1; have g11 := (bx3.c 11 (by omega)).2) | (have bx3 : BoxN u3 u1.heap.size 12 [.int .i64 0, .int .i64 0, .int .i64 0, .int .i64 0, .int .i64 0, .int .i64 0, .int .i64 0, .int .i64 0, .int .i64 0, .int .i64 0, .bool false, .int .i64 0] := (boxn_new u1 #[.int .i64 0, .int .i64 0, .int .i64 0, .int .i64 0, .int .i64 0, .int .i64 0, .int .i64 0, .int .i64 0, .int .i64 0, .int .i64 0, .bool false, .int .i64 0] 33 12 rfl).below hb3' (by simp); have s0 : _ = some (Value.int .i64 0) := (bx3.c 0 (by omega)).1; have g0 := (bx3.c 0 (by omega)).2; have s1 : _ = some (Value.int .i64 0) := (bx3.c 1 (by omega)).1; have g1 := (bx3.c 1 (by omega)).2; have s2 : _ = some (Value.int .i64 0) := (bx3.c 2 (by omega)).1; have g2 := (bx3.c 2 (by omega)).2; have s3 : _ = some (Value.int .i64 0) := (bx3.c 3 (by omega)).1; have g3 := (bx3.c 3 (by omega)).2; have s4 : _ = some (Value.int .i64 0) := (bx3.c 4 (by omega)).1; have g4 := (bx3.c 4 (by omega)).2; have s5 : _ = some (Value.int .i64 0) := (bx3.c 5 (by omega)).1; have g5 := (bx3.c 5 (by omega)).2; have s6 : _ = some (Value.int .i64 0) := (bx3.c 6 (by omega)).1; have g6 := (bx3.c 6 (by omega)).2; have s7 : _ = some (Value.int .i64 0) := (bx3.c 7 (by omega)).1; have g7 := (bx3.c 7 (by omega)).2; have s8 : _ = some (Value.int .i64 0) := (bx3.c 8 (by omega)).1; have g8 := (bx3.c 8 (by omega)).2; have s9 : _ = some (Value.int .i64 0) := (bx3.c 9 (by omega)).1; have g9 := (bx3.c 9 (by omega)).2; have s10 : _ = some (Value.bool false) := (bx3.c 10 (by omega)).1; have g10 := (bx3.c 10 (by omega)).2; have s11 : _ = some (Value.int .i64 0) := (bx3.c 11 (by omega)).1; have g11 := (bx3.c 11 (by omega)).2) | skip))))
    all_goals
      first
        | (have bxF := ((((((((((((bx3.set 0 (by omega) (.int .i64 kind)).set 1 (by omega) (.int .i64 frm)).set 2 (by omega) (.int .i64 dst)).set 3 (by omega) (.int .i64 site)).set 4 (by omega) (.int .i64 num)).set 5 (by omega) (.int .i64 label)).set 6 (by omega) (.int .i64 key)).set 7 (by omega) (.int .i64 value)).set 8 (by omega) (.int .i64 version)).set 9 (by omega) (.int .i64 ask)).set 10 (by omega) (.bool yes)).set 11 (by omega) (.int .i64 code)))
        | (have bxF : BoxN _ u3.heap.size 12 [.int .i64 kind, .int .i64 frm, .int .i64 dst, .int .i64 site, .int .i64 num, .int .i64 label, .int .i64 key, .int .i64 value, .int .i64 version, .int .i64 ask, .bool yes, .int .i64 code] := boxn_new u3 #[.int .i64 kind, .int .i64 frm, .int .i64 dst, .int .i64 site, .int .i64 num, .int .i64 label, .int .i64 key, .int .i64 value, .int .i64 version, .int .i64 ask, .bool yes, .int .i64 code] 33 12 rfl)
      go_wp2_with fail
      go_meet
      case rel => exact ⟨_, rfl, rfl, bxF, (by (with_reducible repeat (first | exact hu3 | exact hu1 | exact hD | exact Below.refl _ _ | refine bD ?_ | refine bA ?_ _ | refine bS ?_ (by omega) _)); done)⟩
  case rest =>
    obtain ⟨q, rfl, rfl, bxF, bF⟩ := hcut
    obtain ⟨X, eX⟩ : ∃ X, X = wc := ⟨_, rfl⟩
    rw [← eX] at bxF bF ⊢
    clear eX q0 q1 q2 hDec
    have qlt := bxF.lt
    obtain ⟨q0, q1, q2⟩ := KC.out _ bF
    have m0 : X.cell? ⟨q, 0, none⟩ = some (.int .i64 kind) := (bxF.c 0 (by omega)).1
    have m1 : X.cell? ⟨q, 1, none⟩ = some (.int .i64 frm) := (bxF.c 1 (by omega)).1
    have m2 : X.cell? ⟨q, 2, none⟩ = some (.int .i64 dst) := (bxF.c 2 (by omega)).1
    have m3 : X.cell? ⟨q, 3, none⟩ = some (.int .i64 site) := (bxF.c 3 (by omega)).1
    have m4 : X.cell? ⟨q, 4, none⟩ = some (.int .i64 num) := (bxF.c 4 (by omega)).1
    have m5 : X.cell? ⟨q, 5, none⟩ = some (.int .i64 label) := (bxF.c 5 (by omega)).1
    have m6 : X.cell? ⟨q, 6, none⟩ = some (.int .i64 key) := (bxF.c 6 (by omega)).1
    have m7 : X.cell? ⟨q, 7, none⟩ = some (.int .i64 value) := (bxF.c 7 (by omega)).1
    have m8 : X.cell? ⟨q, 8, none⟩ = some (.int .i64 version) := (bxF.c 8 (by omega)).1
    have m9 : X.cell? ⟨q, 9, none⟩ = some (.int .i64 ask) := (bxF.c 9 (by omega)).1
    have m10 : X.cell? ⟨q, 10, none⟩ = some (.bool yes) := (bxF.c 10 (by omega)).1
    have m11 : X.cell? ⟨q, 11, none⟩ = some (.int .i64 code) := (bxF.c 11 (by omega)).1
    by_cases hE : er = 0
    · subst hE
      obtain ⟨hG1, hG2⟩ := hGood rfl
      rw [hG2] at hEnc
      simp only [if_true] at hEnc
      rw [hG1] at hEnc
      clear hGood hBad hG1 hG2 hDec0
      go_upto_region 7 with (go_at_call 11; refine (hEnc _ (KL.out _ bF) (KM.out _ bF) (KT.out _ bF) (KW.out _ bF)).mono ?_; rintro e u4 ⟨a4, l4, c4, rfl, hI4, hge4, hb4⟩)
      have b4 := bT bF hb4
      have s1 := run_string hI4
      have s2 := run_string (KI.out _ b4)
      go_wp2
      go_ret
      exact ⟨rfl, KB.out _ b4⟩
    · have hz := hBad hE
      injection hz with h1 h2 h3 h4 h5 h6 h7 h8 h9 h10 h11 h12
      subst h1 h2 h3 h4 h5 h6 h7 h8 h9 h10 h11 h12
      clear hEnc hGood hBad
      go_upto_region 5 with (go_at_call 12; refine (hDec0 _ (KL.out _ bF) (isB_nil _) (fun b off e => by simp at e) (KM.out _ bF) (KT.out _ bF) (KW.out _ bF)).mono ?_; rintro e u4 ⟨rfl, hb4⟩)
      obtain ⟨Y, hY⟩ : ∃ Y : World, Y = u4.alloc (.cells #[.int .i64 0, .int .i64 0, .int .i64 0, .int .i64 0, .int .i64 0, .int .i64 0, .int .i64 0, .int .i64 0, .int .i64 0, .int .i64 0, .bool false, .int .i64 0] 33) := ⟨_, rfl⟩
      have bY : Below X.heap.size X Y := by rw [hY]; exact bA hb4 _
      rw [← hY]
      clear hY
      have bxY := bxF.below bY bxF.lt
      clear m0 m1 m2 m3 m4 m5 m6 m7 m8 m9 m10 m11
      have m0 : Y.cell? ⟨q, 0, none⟩ = some (.int .i64 0) := (bxY.c 0 (by omega)).1
      have m1 : Y.cell? ⟨q, 1, none⟩ = some (.int .i64 0) := (bxY.c 1 (by omega)).1
      have m2 : Y.cell? ⟨q, 2, none⟩ = some (.int .i64 0) := (bxY.c 2 (by omega)).1
      have m3 : Y.cell? ⟨q, 3, none⟩ = some (.int .i64 0) := (bxY.c 3 (by omega)).1
      have m4 : Y.cell? ⟨q, 4, none⟩ = some (.int .i64 0) := (bxY.c 4 (by omega)).1
      have m5 : Y.cell? ⟨q, 5, none⟩ = some (.int .i64 0) := (bxY.c 5 (by omega)).1
      have m6 : Y.cell? ⟨q, 6, none⟩ = some (.int .i64 0) := (bxY.c 6 (by omega)).1
      have m7 : Y.cell? ⟨q, 7, none⟩ = some (.int .i64 0) := (bxY.c 7 (by omega)).1
      have m8 : Y.cell? ⟨q, 8, none⟩ = some (.int .i64 0) := (bxY.c 8 (by omega)).1
      have m9 : Y.cell? ⟨q, 9, none⟩ = some (.int .i64 0) := (bxY.c 9 (by omega)).1
      have m10 : Y.cell? ⟨q, 10, none⟩ = some (.bool false) := (bxY.c 10 (by omega)).1
      have m11 : Y.cell? ⟨q, 11, none⟩ = some (.int .i64 0) := (bxY.c 11 (by omega)).1
      go_wp2
      go_ret
      exact ⟨rfl, KB.out _ (bT bF bY)⟩
end Go.Proofs.YtacmafecjcldfaaDoor
