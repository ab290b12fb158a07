/- The law RecordFixed at every argument. -/
import Derived.Test.YtacmafecjcldfaaDoorWRecOf
import Derived.Test.YtacmafecjcldfaaDoorWDecodeR
import Derived.Test.YtacmafecjcldfaaDoorWEncR
import Derived.Test.YtacmafecjcldfaaDoorKCfg
namespace Go.Proofs.YtacmafecjcldfaaDoor
open Go.ChangeShapes Go.WideShapes Go.ChangeAt Go.RowKit
set_option linter.unusedVariables false

theorem encodeRecord_ok (s p : Int) (a : Option Addr) (len cap : Nat) (ls : List (Int × Int)) (r : RcV) (bs : List Int) (sa : Option Addr) (sc : Nat) (w : World) (h : IsLabs w a len cap ls) (hi : IsInts w sa r.sl sc r.sites) (hm : HasAt w 1 rHas) (ht : TopsAt w) (hwd : WidsAt w) (hf : recFault s ls p r = 0) (hb : recBytes r = bs) :
    Calls Tryd.prog 16 #[.agg #[.int .i64 s, .slice a len cap, .int .i64 p], RcV.val { r with sa := sa, sc := sc }] w fun e w' => BytesAns w w' e bs 0 := by
  have h0 := encodeRecord_any s p a len cap ls { r with sa := sa, sc := sc } w h hi hm ht hwd
  have e : recFault s ls p { r with sa := sa, sc := sc } = 0 := hf
  rw [if_pos e, e, show recBytes { r with sa := sa, sc := sc } = bs from hb] at h0
  exact h0

set_option maxRecDepth 100000 in
set_option maxHeartbeats 4000000 in
theorem recordFixed_walk (s : Int) (a : Option Addr) (len cap : Nat) (zs : List Int) (ba : Option Addr) (bl bc : Nat) (bs : List Int) (w : World) (hs : (Lit.int .i64 s).wf = true) (h : IsInts w a len cap zs) (hI : IsB w ba bl bc bs) (hbl : bl ≤ 140737488351232) (hm : HasAt w 1 rHas) (hwd : WidsAt w) (ht : TopsAt w) :
    Calls Tryd.prog 7 #[.int .i64 s, .slice a len cap, .slice ba bl bc] w fun e w' => e = .returned (.bool true) ∧ Below w.heap.size w w' := by
  have hs' := i64_bd hs
  have hgT : 3 < w.heap.size := World.block_lt_of_cell? w _ ht.1
  have hgM : 1 < w.heap.size := hm.lt (by decide)
  have hgW : 2 < w.heap.size := hwd.lt
  have hCfg := fun w' h' => cfg_good s a len cap zs w' hs' h'
  have hbyt := hI.2.2.2.1
  go_enter Tryd.func7, Tryd.ntmps7
  go_upto_region 1 with (fail)
  go_upto_region 2 with (go_at_call 9; refine (hCfg _ h).mono ?_; rintro e w1 ⟨S, P, g, n, cp, L, rfl, hC1, hb1⟩)
  obtain ⟨W, hW⟩ : ∃ W : World, W = w1.alloc (.cells #[.int .i64 S, .slice (some ⟨g, 0, none⟩) n cp, .int .i64 P] 27) := ⟨_, rfl⟩
  have zW : w1.heap.size < W.heap.size := by rw [hW]; simp
  have c0 : W.cell? ⟨w1.heap.size, 0, none⟩ = some (.int .i64 S) := by rw [hW]; go_simp
  have c1 : W.cell? ⟨w1.heap.size, 1, none⟩ = some (.slice (some ⟨g, 0, none⟩) n cp) := by rw [hW]; go_simp
  have c2 : W.cell? ⟨w1.heap.size, 2, none⟩ = some (.int .i64 P) := by rw [hW]; go_simp
  have hBW : Below w1.heap.size w1 W := by rw [hW]; exact (Below.refl _ _).alloc (Nat.le_refl _) _
  rw [← hW]
  clear hW
  have hCW := hC1.below hBW
  have hBw : Below w.heap.size w W := hb1.trans (hBW.mono hb1.size)
  have hok := hCW.ok
  have KC : Hid (∀ U : World, Below W.heap.size W U → U.cell? ⟨w1.heap.size, 0, none⟩ = some (.int .i64 S) ∧ U.cell? ⟨w1.heap.size, 1, none⟩ = some (.slice (some ⟨g, 0, none⟩) n cp) ∧ U.cell? ⟨w1.heap.size, 2, none⟩ = some (.int .i64 P)) := by
    intro U hU
    exact ⟨(hU.cell (p := ⟨w1.heap.size, 0, none⟩) (by show w1.heap.size < _; omega)).trans c0, (hU.cell (p := ⟨w1.heap.size, 1, none⟩) (by show w1.heap.size < _; omega)).trans c1, (hU.cell (p := ⟨w1.heap.size, 2, none⟩) (by show w1.heap.size < _; omega)).trans c2⟩
  have KL : Hid (∀ U : World, Below W.heap.size W U → IsLabs U (some ⟨g, 0, none⟩) n cp L) := fun U hU => hCW.labs.below hU
  have KB : Hid (∀ U : World, Below W.heap.size W U → Below w.heap.size w U) := fun U hU => hBw.trans (hU.mono hBw.size)
  have KM : Hid (∀ U : World, Below W.heap.size W U → HasAt U 1 rHas) := fun U hU => hm.below (KB.out U hU) hgM
  have KW : Hid (∀ U : World, Below W.heap.size W U → WidsAt U) := fun U hU => hwd.below (KB.out U hU) hgW
  have KT : Hid (∀ U : World, Below W.heap.size W U → TopsAt U) := fun U hU => ht.below (KB.out U hU) hgT
  have KI : Hid (∀ U : World, Below W.heap.size W U → IsB U ba bl bc bs) := fun U hU => hI.below (KB.out U hU)
  have hD : Below W.heap.size W W.drew := (Below.refl _ _).drew
  obtain ⟨q0, q1, q2⟩ : W.cell? ⟨w1.heap.size, 0, none⟩ = some (.int .i64 S) ∧ W.cell? ⟨w1.heap.size, 1, none⟩ = some (.slice (some ⟨g, 0, none⟩) n cp) ∧ W.cell? ⟨w1.heap.size, 2, none⟩ = some (.int .i64 P) := ⟨c0, c1, c2⟩
  have hDec := fun ba bl bc w' h1 h2 h3 h4 h5 h6 => decodeRecord_any S P (some ⟨g, 0, none⟩) n cp L ba bl bc bs w' h1 h2 h3 h4 h5 h6
  have hDec0 := fun w' h1 h2 h3 h4 h5 h6 => decodeRecord_any S P (some ⟨g, 0, none⟩) n cp L none 0 0 [] w' h1 h2 h3 h4 h5 h6
  rw [recOf_nil hok] at hDec0
  have hGood := @recOf_fixed S L P bs hbyt
  have hBad := @recOf_bad S L P bs
  obtain ⟨m, er, eMO⟩ : ∃ m e, recOf S L P bs = (m, e) := ⟨_, _, rfl⟩
  rw [eMO] at hDec hGood hBad
  simp only at hDec hGood hBad
  clear eMO c0 c1 c2
  have hEnc := fun sa sc w' h1 h2 h3 h4 h5 h6 h7 => encodeRecord_ok S P (some ⟨g, 0, none⟩) n cp L m bs sa sc w' h1 h2 h3 h4 h5 h6 h7
  obtain ⟨kind, site, num, key, value, ask, yes, sa0, sl, sc0, sites⟩ := m
  simp only [DecRPost, RcV.val, RcV.zero] at hDec hDec0 hEnc hBad
  go_cut [8, 9] (fun s8 s9 wc => ∃ (q : Nat) (sa : Option Addr) (sc : Nat), s8 = .pointer (some ⟨q, 0, none⟩) ∧ s9 = .int .i64 er ∧ BoxN wc q 8 [.int .i64 kind, .int .i64 site, .int .i64 num, .int .i64 key, .int .i64 value, .int .i64 ask, .bool yes, .slice sa sl sc] ∧ IsInts wc sa sl sc sites ∧ Below W.heap.size W wc)
  case first =>
    go_region_held3 (fun U => U.cell? ⟨w1.heap.size, 0, none⟩ = some (.int .i64 S) ∧ U.cell? ⟨w1.heap.size, 1, none⟩ = some (.slice (some ⟨g, 0, none⟩) n cp) ∧ U.cell? ⟨w1.heap.size, 2, none⟩ = some (.int .i64 P))
      (exact KC.out _ (by (with_reducible repeat (first | exact hu3 | exact hu1 | exact hD | exact Below.refl _ _ | refine bD ?_ | refine bA ?_ _ | refine bS ?_ (by omega) _)); done))
      (first
        | ((refine step_append_bytes (by rfl) (.const (.slice none 0 0)) (.tmp 19) (by rfl) W.heap.size (.slice none 0 0) 0 [] (by rfl) (World.ownsRow_nil _ _ _ _) ba bl bc bs (by rfl) (KI.out _ (by (with_reducible repeat (first | exact hu1 | exact hD | exact Below.refl _ _ | refine bD ?_ | refine bA ?_ _ | refine bS ?_ (by omega) _)); done)) (by omega) (by first | exact Nat.le_refl _ | (simp; done) | (simp; omega)) ?_; intro a6 c6 u1 own1 gr1 at1; have hu1 : Below W.heap.size W u1 := bG (by (with_reducible repeat (first | exact hu1 | exact hD | exact Below.refl _ _ | refine bD ?_ | refine bA ?_ _ | refine bS ?_ (by omega) _)); done) gr1 (fun k hk => by cases hk); have z1 : W.heap.size ≤ u1.heap.size := hu1.size; (first | (have bx1 : BoxN u1 W.heap.size 8 [.int .i64 0, .int .i64 0, .int .i64 0, .int .i64 0, .int .i64 0, .int .i64 0, .bool false, .slice none 0 0] := (boxn_new W.drew #[.int .i64 0, .int .i64 0, .int .i64 0, .int .i64 0, .int .i64 0, .int .i64 0, .bool false, .slice none 0 0] 46 8 rfl).grown gr1 (by simp [Value.ownBlock])) | (have bx1 : BoxN u1 W.heap.size 8 [.int .i64 0, .int .i64 0, .int .i64 0, .int .i64 0, .int .i64 0, .int .i64 0, .bool false, .slice none 0 0] := (boxn_new W #[.int .i64 0, .int .i64 0, .int .i64 0, .int .i64 0, .int .i64 0, .int .i64 0, .bool false, .slice none 0 0] 46 8 rfl).grown gr1 (by simp [Value.ownBlock])) | skip); simp only [Nat.zero_add, List.nil_append] at own1 ⊢; obtain ⟨hI1, hge1⟩ := isB_slice own1 hbyt; have hlt1 : ∀ b off, a6 = some ⟨b, off, none⟩ → b < u1.heap.size := fun b off e => (own1.lt b (by rw [e]; rfl)).2))
        | ((go_at_call 17; refine (hDec a6 bl c6 _ (KL.out _ (by (with_reducible repeat (first | exact hu1 | exact hD | exact Below.refl _ _ | refine bD ?_ | refine bA ?_ _ | refine bS ?_ (by omega) _)); done)) (by first | exact hI1 | exact hI1.below ((Below.refl _ _).alloc (Nat.le_refl _) _)) (by first | exact hlt1 | exact fun b off e => Nat.lt_of_lt_of_le (hlt1 b off e) (by simp)) (KM.out _ (by (with_reducible repeat (first | exact hu1 | exact hD | exact Below.refl _ _ | refine bD ?_ | refine bA ?_ _ | refine bS ?_ (by omega) _)); done)) (KT.out _ (by (with_reducible repeat (first | exact hu1 | exact hD | exact Below.refl _ _ | refine bD ?_ | refine bA ?_ _ | refine bS ?_ (by omega) _)); done)) (KW.out _ (by (with_reducible repeat (first | exact hu1 | exact hD | exact Below.refl _ _ | refine bD ?_ | refine bA ?_ _ | refine bS ?_ (by omega) _)); done))).mono ?_; rintro e u3 ⟨sa, sc, rfl, hI3, hf3, hb3'⟩; have hu3 : Below W.heap.size W u3 := bT (by (with_reducible repeat (first | exact hu1 | exact hD | exact Below.refl _ _ | refine bD ?_ | refine bA ?_ _ | refine bS ?_ (by omega) _)); done) hb3'; have z3 : W.heap.size ≤ u3.heap.size := hu3.size; (first | (have bx3 := bx1.below hb3' bx1.lt; have hne3 := fun (b off : Nat) e => Nat.ne_of_lt (Nat.lt_of_lt_of_le bx1.lt (hf3 b off e).1); have s0 : _ = some (Value.int .i64 0) := (bx3.c 0 (by omega)).1; have g0 := (bx3.c 0 (by omega)).2; have s1 : _ = some (Value.int .i64 0) := (bx3.c 1 (by omega)).1; have g1 := (bx3.c 1 (by omega)).2; have s2 : _ = some (Value.int .i64 0) := (bx3.c 2 (by omega)).1; have g2 := (bx3.c 2 (by omega)).2; have s3 : _ = some (Value.int .i64 0) := (bx3.c 3 (by omega)).1; have g3 := (bx3.c 3 (by omega)).2; have s4 : _ = some (Value.int .i64 0) := (bx3.c 4 (by omega)).1; have g4 := (bx3.c 4 (by omega)).2; have s5 : _ = some (Value.int .i64 0) := (bx3.c 5 (by omega)).1; have g5 := (bx3.c 5 (by omega)).2; have s6 : _ = some (Value.bool false) := (bx3.c 6 (by omega)).1; have g6 := (bx3.c 6 (by omega)).2; have s7 : _ = some (Value.slice none 0 0) := (bx3.c 7 (by omega)).1; have g7 := (bx3.c 7 (by omega)).2) | (have bx3 : BoxN u3 u1.heap.size 8 [.int .i64 0, .int .i64 0, .int .i64 0, .int .i64 0, .int .i64 0, .int .i64 0, .bool false, .slice none 0 0] := (boxn_new u1 #[.int .i64 0, .int .i64 0, .int .i64 0, .int .i64 0, .int .i64 0, .int .i64 0, .bool false, .slice none 0 0] 46 8 rfl).below hb3' (by simp); have hne3 : ∀ b off, sa = some ⟨b, off, none⟩ → u1.heap.size ≠ b := fun b off e => Nat.ne_of_lt (Nat.lt_of_lt_of_le (by simp) (hf3 b off e).1); have s0 : _ = some (Value.int .i64 0) := (bx3.c 0 (by omega)).1; have g0 := (bx3.c 0 (by omega)).2; have s1 : _ = some (Value.int .i64 0) := (bx3.c 1 (by omega)).1; have g1 := (bx3.c 1 (by omega)).2; have s2 : _ = some (Value.int .i64 0) := (bx3.c 2 (by omega)).1; have g2 := (bx3.c 2 (by omega)).2; have s3 : _ = some (Value.int .i64 0) := (bx3.c 3 (by omega)).1; have g3 := (bx3.c 3 (by omega)).2; have s4 : _ = some (Value.int .i64 0) := (bx3.c 4 (by omega)).1; have g4 := (bx3.c 4 (by omega)).2; have s5 : _ = some (Value.int .i64 0) := (bx3.c 5 (by omega)).1; have g5 := (bx3.c 5 (by omega)).2; have s6 : _ = some (Value.bool false) := (bx3.c 6 (by omega)).1; have g6 := (bx3.c 6 (by omega)).2; have s7 : _ = some (Value.slice none 0 0) := (bx3.c 7 (by omega)).1; have g7 := (bx3.c 7 (by omega)).2) | skip))))
    all_goals
      first
        | (have bxF := ((((((((bx3.set 0 (by omega) (.int .i64 kind)).set 1 (by omega) (.int .i64 site)).set 2 (by omega) (.int .i64 num)).set 3 (by omega) (.int .i64 key)).set 4 (by omega) (.int .i64 value)).set 5 (by omega) (.int .i64 ask)).set 6 (by omega) (.bool yes)).set 7 (by omega) (.slice sa sl sc)))
        | (have bxF : BoxN _ u3.heap.size 8 [.int .i64 kind, .int .i64 site, .int .i64 num, .int .i64 key, .int .i64 value, .int .i64 ask, .bool yes, .slice sa sl sc] := boxn_new u3 #[.int .i64 kind, .int .i64 site, .int .i64 num, .int .i64 key, .int .i64 value, .int .i64 ask, .bool yes, .slice sa sl sc] 46 8 rfl)
      go_wp2_with fail
      go_meet
      case rel => exact ⟨_, sa, sc, rfl, rfl, bxF, (by (with_reducible repeat (first | exact hI3 | exact hne3 | refine isI_far ?_ ?_ | refine isI_alloc ?_ _)); done), (by (with_reducible repeat (first | exact hu3 | exact hu1 | exact hD | exact Below.refl _ _ | refine bD ?_ | refine bA ?_ _ | refine bS ?_ (by omega) _)); done)⟩
  case rest =>
    obtain ⟨q, sa, sc, rfl, rfl, bxF, hIX, bF⟩ := hcut
    obtain ⟨X, eX⟩ : ∃ X, X = wc := ⟨_, rfl⟩
    rw [← eX] at bxF hIX bF ⊢
    clear eX q0 q1 q2 hDec
    have qlt := bxF.lt
    obtain ⟨q0, q1, q2⟩ := KC.out _ bF
    have m0 : X.cell? ⟨q, 0, none⟩ = some (.int .i64 kind) := (bxF.c 0 (by omega)).1
    have m1 : X.cell? ⟨q, 1, none⟩ = some (.int .i64 site) := (bxF.c 1 (by omega)).1
    have m2 : X.cell? ⟨q, 2, none⟩ = some (.int .i64 num) := (bxF.c 2 (by omega)).1
    have m3 : X.cell? ⟨q, 3, none⟩ = some (.int .i64 key) := (bxF.c 3 (by omega)).1
    have m4 : X.cell? ⟨q, 4, none⟩ = some (.int .i64 value) := (bxF.c 4 (by omega)).1
    have m5 : X.cell? ⟨q, 5, none⟩ = some (.int .i64 ask) := (bxF.c 5 (by omega)).1
    have m6 : X.cell? ⟨q, 6, none⟩ = some (.bool yes) := (bxF.c 6 (by omega)).1
    have m7 : X.cell? ⟨q, 7, none⟩ = some (.slice sa sl sc) := (bxF.c 7 (by omega)).1
    by_cases hE : er = 0
    · subst hE
      obtain ⟨hG1, hG2⟩ := hGood rfl
      have hEnc' := fun sa sc w' h1 h2 h3 h4 h5 => hEnc sa sc w' h1 h2 h3 h4 h5 hG2 hG1
      clear hGood hBad hG1 hG2 hDec0 hEnc
      go_upto_region 7 with (go_at_call 16; refine (hEnc' sa sc _ (KL.out _ bF) hIX (KM.out _ bF) (KT.out _ bF) (KW.out _ bF)).mono ?_; rintro e u4 ⟨a4, l4, c4, rfl, hI4, hge4, hb4⟩)
      have b4 := bT bF hb4
      have s1 := run_string hI4
      have s2 := run_string (KI.out _ b4)
      go_wp2
      go_ret
      exact ⟨rfl, KB.out _ b4⟩
    · have hz := hBad hE
      injection hz with h1
      subst h1
      clear hEnc hGood hBad
      go_upto_region 5 with (go_at_call 17; refine (hDec0 _ (KL.out _ bF) (isB_nil _) (fun b off e => by simp at e) (KM.out _ bF) (KT.out _ bF) (KW.out _ bF)).mono ?_; rintro e u4 ⟨sa4, sc4, rfl, hI4, hf4, hb4⟩)
      obtain ⟨Y, hY⟩ : ∃ Y : World, Y = u4.alloc (.cells #[.int .i64 0, .int .i64 0, .int .i64 0, .int .i64 0, .int .i64 0, .int .i64 0, .bool false, .slice sa4 0 sc4] 46) := ⟨_, rfl⟩
      have bY : Below X.heap.size X Y := by rw [hY]; exact bA hb4 _
      rw [← hY]
      clear hY
      have bxY := bxF.below bY bxF.lt
      clear m0 m1 m2 m3 m4 m5 m6 m7
      have m0 : Y.cell? ⟨q, 0, none⟩ = some (.int .i64 0) := (bxY.c 0 (by omega)).1
      go_wp2
      go_ret
      exact ⟨rfl, KB.out _ (bT bF bY)⟩
end Go.Proofs.YtacmafecjcldfaaDoor
