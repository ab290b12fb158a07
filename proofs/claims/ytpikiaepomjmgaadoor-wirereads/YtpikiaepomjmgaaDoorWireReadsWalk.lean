/- The walk of the law WireReads: at any config and bytes it returns true and leaves what was in memory. -/
import Derived.Test.YtpikiaepomjmgaaDoorWRecRef2
import Derived.Test.YtpikiaepomjmgaaDoorWFaultR
import Derived.Test.YtpikiaepomjmgaaDoorSameL
import Derived.Test.YtpikiaepomjmgaaDoorOctets2
import Derived.Deep.RegionHeld3
namespace Go.Proofs.YtpikiaepomjmgaaDoor
open Go.ChangeShapes Go.WideShapes Go.ChangeAt Go.RowKit
set_option linter.unusedVariables false

theorem wA {W V : World} (h : Below W.heap.size W V) (ob : Obj) : Below W.heap.size W (V.alloc ob) := h.alloc h.size ob
theorem wD {W V : World} (h : Below W.heap.size W V) : Below W.heap.size W V.drew := h.drew
theorem wS {W V : World} (h : Below W.heap.size W V) {b i : Nat} (hb : W.heap.size ≤ b) (v : Value) : Below W.heap.size W (V.setCell ⟨b, i, none⟩ v) := h.setCell (p := ⟨b, i, none⟩) hb v
theorem wT {W V U : World} (h : Below W.heap.size W V) (h2 : Below V.heap.size V U) : Below W.heap.size W U := h.trans (h2.mono h.size)

theorem iS {U : World} {a : Option Addr} {n c : Nat} {zs : List Int} (h : IsInts U a n c zs) {b i : Nat} (hb : ∀ b' off, a = some ⟨b', off, none⟩ → b' ≠ b) (v : Value) : IsInts (U.setCell ⟨b, i, none⟩ v) a n c zs :=
  isI_grown h (grown_set (grownR_refl _ _) : U.grownBy (U.setCell ⟨b, i, none⟩ v) (some b)) (fun b' off e e' => hb b' off e (by simpa using e'))
theorem iD {U : World} {a : Option Addr} {n c : Nat} {zs : List Int} (h : IsInts U a n c zs) : IsInts U.drew a n c zs := h.below (Below.refl _ _).drew
theorem iA {U : World} {a : Option Addr} {n c : Nat} {zs : List Int} (h : IsInts U a n c zs) (o : Obj) : IsInts (U.alloc o) a n c zs := h.below ((Below.refl _ _).alloc (Nat.le_refl _) o)

set_option maxRecDepth 100000 in
set_option maxHeartbeats 4000000 in
theorem wireReads_walk (s : Int) (a : Option Addr) (len cap : Nat) (q : Int) (ls : List (Int × Int)) (ba : Option Addr) (bl bc : Nat) (bs : List Int) (w : World) (_ : (Lit.int .i64 s).wf = true) (h : IsLabs w a len cap ls) (_ : (Lit.int .i64 q).wf = true) (hI : IsB w ba bl bc bs) (hbl : bl ≤ 140737488351232) (hm : HasAt w 1 rHas) (hwd : WidsAt w) (ht : TopsAt w) :
    Calls Tryd.prog 4 #[.agg #[.int .i64 s, .slice a len cap, .int .i64 q], .slice ba bl bc] w fun e w' => e = .returned (.bool true) ∧ Below w.heap.size w w' := by
  have hgT : 3 < w.heap.size := World.block_lt_of_cell? w _ ht.1
  have hgM : 1 < w.heap.size := hm.lt (by decide)
  have hgW : 2 < w.heap.size := hwd.lt
  obtain ⟨W, hW⟩ : ∃ W : World, W = w.alloc (.cells #[.int .i64 s, .slice a len cap, .int .i64 q] 24) := ⟨_, rfl⟩
  have hBw : Below w.heap.size w W := by rw [hW]; exact (Below.refl _ _).alloc (Nat.le_refl _) _
  have z0 : w.heap.size < W.heap.size := by rw [hW]; simp
  have c0 : W.cell? ⟨w.heap.size, 0, none⟩ = some (.int .i64 s) := by rw [hW]; go_simp
  have c1 : W.cell? ⟨w.heap.size, 1, none⟩ = some (.slice a len cap) := by rw [hW]; go_simp
  have c2 : W.cell? ⟨w.heap.size, 2, none⟩ = some (.int .i64 q) := by rw [hW]; go_simp
  have KC : Hid (∀ U : World, Below W.heap.size W U → U.cell? ⟨w.heap.size, 0, none⟩ = some (.int .i64 s) ∧ U.cell? ⟨w.heap.size, 1, none⟩ = some (.slice a len cap) ∧ U.cell? ⟨w.heap.size, 2, none⟩ = some (.int .i64 q)) := by
    intro U hU
    exact ⟨(hU.cell (p := ⟨w.heap.size, 0, none⟩) z0).trans c0, (hU.cell (p := ⟨w.heap.size, 1, none⟩) z0).trans c1, (hU.cell (p := ⟨w.heap.size, 2, none⟩) z0).trans c2⟩
  have KB : Hid (∀ U : World, Below W.heap.size W U → Below w.heap.size w U) := fun U hU => hBw.trans (hU.mono hBw.size)
  have KL : Hid (∀ U : World, Below W.heap.size W U → IsLabs U a len cap ls) := fun U hU => h.below (KB.out U hU)
  have KM : Hid (∀ U : World, Below W.heap.size W U → HasAt U 1 rHas) := fun U hU => hm.below (KB.out U hU) hgM
  have KW : Hid (∀ U : World, Below W.heap.size W U → WidsAt U) := fun U hU => hwd.below (KB.out U hU) hgW
  have KT : Hid (∀ U : World, Below W.heap.size W U → TopsAt U) := fun U hU => ht.below (KB.out U hU) hgT
  have KI : Hid (∀ U : World, Below W.heap.size W U → IsB U ba bl bc bs) := fun U hU => hI.below (KB.out U hU)
  have hDec := fun ba bl bc w' h1 h2 h3 h4 h5 h6 => decodeRecord_any s q a len cap ls ba bl bc bs w' h1 h2 h3 h4 h5 h6
  have hRef := fun w' h1 h2 => recordOf_any s q a len cap ls ba bl bc bs w' h1 h2 (by omega) (fun m w' hh h2 => recordFault_any s q a len cap ls m w' hh h2)
  have hOct := fun w' h1 => octets_lt ba bl bc bs w' h1 (by omega)
  obtain ⟨m, er, eMO⟩ : ∃ m e, recOf s ls q bs = (m, e) := ⟨_, _, rfl⟩
  rw [eMO] at hDec hRef
  clear eMO
  obtain ⟨kind, site, num, key, value, ask, yes, sa0, sl, sc0, zs⟩ := m
  simp only [DecRPost, RcV.val] at hDec hRef
  go_enter Tryd.func4, Tryd.ntmps4
  go_upto_region 1 with (fail)
  rw [← hW]
  clear hW
  go_cut [5, 6] (fun s5 s6 wc => ∃ (g : Nat) (sa : Option Addr) (sc : Nat), s5 = .pointer (some ⟨g, 0, none⟩) ∧ s6 = .int .i64 er ∧ BoxN wc g 8 [.int .i64 kind, .int .i64 site, .int .i64 num, .int .i64 key, .int .i64 value, .int .i64 ask, .bool yes, .slice sa sl sc] ∧ IsInts wc sa sl sc zs ∧ Below W.heap.size W wc)
  case first =>
    go_region_held3 (fun U => U.cell? ⟨w.heap.size, 0, none⟩ = some (.int .i64 s) ∧ U.cell? ⟨w.heap.size, 1, none⟩ = some (.slice a len cap) ∧ U.cell? ⟨w.heap.size, 2, none⟩ = some (.int .i64 q))
      (exact KC.out _ (by (with_reducible repeat (first | exact hu3 | exact hu1 | exact Below.refl _ _ | refine wD ?_ | refine wA ?_ _ | refine wS ?_ (by omega) _)); done))
      (first
        | (go_at_call 7; refine (hOct _ (KI.out _ (by (with_reducible repeat (first | exact hu1 | exact Below.refl _ _ | refine wD ?_ | refine wA ?_ _ | refine wS ?_ (by omega) _)); done))).mono ?_; rintro e u1 ⟨a6, c6, rfl, hI1, hb1', hge1⟩; have hu1 : Below W.heap.size W u1 := wT (by (with_reducible repeat (first | exact hu1 | exact Below.refl _ _ | refine wD ?_ | refine wA ?_ _ | refine wS ?_ (by omega) _)); done) hb1'; have z1 : W.heap.size ≤ u1.heap.size := hu1.size; (first | (have bx1 : BoxN u1 W.heap.size 8 [.int .i64 0, .int .i64 0, .int .i64 0, .int .i64 0, .int .i64 0, .int .i64 0, .bool false, .slice none 0 0] := (boxn_new W.drew #[.int .i64 0, .int .i64 0, .int .i64 0, .int .i64 0, .int .i64 0, .int .i64 0, .bool false, .slice none 0 0] 37 8 rfl).below hb1' (by simp); have zbx1 := bx1.lt) | (have bx1 : BoxN u1 W.heap.size 8 [.int .i64 0, .int .i64 0, .int .i64 0, .int .i64 0, .int .i64 0, .int .i64 0, .bool false, .slice none 0 0] := (boxn_new W #[.int .i64 0, .int .i64 0, .int .i64 0, .int .i64 0, .int .i64 0, .int .i64 0, .bool false, .slice none 0 0] 37 8 rfl).below hb1' (by simp); have zbx1 := bx1.lt) | skip); have hlt1 : ∀ b off, a6 = some ⟨b, off, none⟩ → b < u1.heap.size := fun b off e => (hge1 b off e).2)
        | (go_at_call 9; refine (hDec a6 bl c6 _ (KL.out _ (by (with_reducible repeat (first | exact hu1 | exact Below.refl _ _ | refine wD ?_ | refine wA ?_ _ | refine wS ?_ (by omega) _)); done)) (by first | exact hI1 | exact hI1.below ((Below.refl _ _).alloc (Nat.le_refl _) _)) (by first | exact hlt1 | exact fun b off e => Nat.lt_of_lt_of_le (hlt1 b off e) (by simp)) (KM.out _ (by (with_reducible repeat (first | exact hu1 | exact Below.refl _ _ | refine wD ?_ | refine wA ?_ _ | refine wS ?_ (by omega) _)); done)) (KT.out _ (by (with_reducible repeat (first | exact hu1 | exact Below.refl _ _ | refine wD ?_ | refine wA ?_ _ | refine wS ?_ (by omega) _)); done)) (KW.out _ (by (with_reducible repeat (first | exact hu1 | exact Below.refl _ _ | refine wD ?_ | refine wA ?_ _ | refine wS ?_ (by omega) _)); done))).mono ?_; rintro e u3 ⟨sa, sc, rfl, hI3, hfar3, hb3'⟩; have hu3 : Below W.heap.size W u3 := wT (by (with_reducible repeat (first | exact hu1 | exact Below.refl _ _ | refine wD ?_ | refine wA ?_ _ | refine wS ?_ (by omega) _)); done) hb3'; have z3 : W.heap.size ≤ u3.heap.size := hu3.size; (first | (have bx3 := bx1.below hb3' bx1.lt; have s0 : _ = some (Value.int .i64 0) := (bx3.c 0 (by omega)).1; have g0 := (bx3.c 0 (by omega)).2; have s1 : _ = some (Value.int .i64 0) := (bx3.c 1 (by omega)).1; have g1 := (bx3.c 1 (by omega)).2; have s2 : _ = some (Value.int .i64 0) := (bx3.c 2 (by omega)).1; have g2 := (bx3.c 2 (by omega)).2; have s3 : _ = some (Value.int .i64 0) := (bx3.c 3 (by omega)).1; have g3 := (bx3.c 3 (by omega)).2; have s4 : _ = some (Value.int .i64 0) := (bx3.c 4 (by omega)).1; have g4 := (bx3.c 4 (by omega)).2; have s5 : _ = some (Value.int .i64 0) := (bx3.c 5 (by omega)).1; have g5 := (bx3.c 5 (by omega)).2; have s6 : _ = some (Value.bool false) := (bx3.c 6 (by omega)).1; have g6 := (bx3.c 6 (by omega)).2; have s7 : _ = some (Value.slice none 0 0) := (bx3.c 7 (by omega)).1; have g7 := (bx3.c 7 (by omega)).2; have zbx := bx3.lt) | (have bx3 : BoxN u3 u1.heap.size 8 [.int .i64 0, .int .i64 0, .int .i64 0, .int .i64 0, .int .i64 0, .int .i64 0, .bool false, .slice none 0 0] := (boxn_new u1 #[.int .i64 0, .int .i64 0, .int .i64 0, .int .i64 0, .int .i64 0, .int .i64 0, .bool false, .slice none 0 0] 37 8 rfl).below hb3' (by simp); have s0 : _ = some (Value.int .i64 0) := (bx3.c 0 (by omega)).1; have g0 := (bx3.c 0 (by omega)).2; have s1 : _ = some (Value.int .i64 0) := (bx3.c 1 (by omega)).1; have g1 := (bx3.c 1 (by omega)).2; have s2 : _ = some (Value.int .i64 0) := (bx3.c 2 (by omega)).1; have g2 := (bx3.c 2 (by omega)).2; have s3 : _ = some (Value.int .i64 0) := (bx3.c 3 (by omega)).1; have g3 := (bx3.c 3 (by omega)).2; have s4 : _ = some (Value.int .i64 0) := (bx3.c 4 (by omega)).1; have g4 := (bx3.c 4 (by omega)).2; have s5 : _ = some (Value.int .i64 0) := (bx3.c 5 (by omega)).1; have g5 := (bx3.c 5 (by omega)).2; have s6 : _ = some (Value.bool false) := (bx3.c 6 (by omega)).1; have g6 := (bx3.c 6 (by omega)).2; have s7 : _ = some (Value.slice none 0 0) := (bx3.c 7 (by omega)).1; have g7 := (bx3.c 7 (by omega)).2; have zbx := bx3.lt) | skip)))
    all_goals
      first
        | (have bxF := ((((((((bx3.set 0 (by omega) (.int .i64 kind)).set 1 (by omega) (.int .i64 site)).set 2 (by omega) (.int .i64 num)).set 3 (by omega) (.int .i64 key)).set 4 (by omega) (.int .i64 value)).set 5 (by omega) (.int .i64 ask)).set 6 (by omega) (.bool yes)).set 7 (by omega) (.slice sa sl sc)))
        | (have bxF : BoxN _ u3.heap.size 8 [.int .i64 kind, .int .i64 site, .int .i64 num, .int .i64 key, .int .i64 value, .int .i64 ask, .bool yes, .slice sa sl sc] := boxn_new u3 #[.int .i64 kind, .int .i64 site, .int .i64 num, .int .i64 key, .int .i64 value, .int .i64 ask, .bool yes, .slice sa sl sc] 37 8 rfl)
      go_wp2_with fail
      go_meet
      case rel => exact ⟨_, sa, sc, rfl, rfl, bxF, (by (with_reducible repeat (first | exact hI3 | refine iD ?_ | refine iA ?_ _ | refine iS ?_ (fun b off e => by have := hfar3 b off e; (try simp at this); omega) _)); done), (by (with_reducible repeat (first | exact hu3 | exact hu1 | exact Below.refl _ _ | refine wD ?_ | refine wA ?_ _ | refine wS ?_ (by omega) _)); done)⟩
  case rest =>
    obtain ⟨g, sa, sc, rfl, rfl, bxF, hIF, bF⟩ := hcut
    obtain ⟨X, eX⟩ : ∃ X, X = wc := ⟨_, rfl⟩
    rw [← eX] at bxF hIF bF ⊢
    clear eX c0 c1 c2 hDec
    have glt := bxF.lt
    obtain ⟨c0, c1, c2⟩ := KC.out _ bF
    have zX : w.heap.size < X.heap.size := Nat.lt_of_lt_of_le z0 bF.size
    go_upto_region 3 with (go_at_call 10; refine (hRef _ (KL.out _ bF) (KI.out _ bF)).mono ?_; rintro e u4 ⟨sa2, sc2, rfl, hI4, hfar4, hb4⟩)
    obtain ⟨Y, hY⟩ : ∃ Y : World, Y = u4.alloc (.cells #[.int .i64 kind, .int .i64 site, .int .i64 num, .int .i64 key, .int .i64 value, .int .i64 ask, .bool yes, .slice sa2 sl sc2] 37) := ⟨_, rfl⟩
    have bY : Below X.heap.size X Y := by rw [hY]; exact wA hb4 _
    have bxG : BoxN Y u4.heap.size 8 [.int .i64 kind, .int .i64 site, .int .i64 num, .int .i64 key, .int .i64 value, .int .i64 ask, .bool yes, .slice sa2 sl sc2] := by rw [hY]; exact boxn_new u4 #[.int .i64 kind, .int .i64 site, .int .i64 num, .int .i64 key, .int .i64 value, .int .i64 ask, .bool yes, .slice sa2 sl sc2] 37 8 rfl
    have bY4 : Below u4.heap.size u4 Y := by rw [hY]; exact (Below.refl _ _).alloc (Nat.le_refl _) _
    rw [← hY]
    clear hY
    have bxY := bxF.below bY bxF.lt
    clear c0 c1 c2 glt
    have gltY := bxY.lt
    have gltG := bxG.lt
    have m0 := (bxY.c 0 (by decide)).1
    have n0 := (bxG.c 0 (by decide)).1
    have m1 := (bxY.c 1 (by decide)).1
    have n1 := (bxG.c 1 (by decide)).1
    have m2 := (bxY.c 2 (by decide)).1
    have n2 := (bxG.c 2 (by decide)).1
    have m3 := (bxY.c 3 (by decide)).1
    have n3 := (bxG.c 3 (by decide)).1
    have m4 := (bxY.c 4 (by decide)).1
    have n4 := (bxG.c 4 (by decide)).1
    have m5 := (bxY.c 5 (by decide)).1
    have n5 := (bxG.c 5 (by decide)).1
    have m6 := (bxY.c 6 (by decide)).1
    have n6 := (bxG.c 6 (by decide)).1
    have m7 := (bxY.c 7 (by decide)).1
    have n7 := (bxG.c 7 (by decide)).1
    simp only [List.getD_cons_zero, List.getD_cons_succ] at m0 n0 m1 n1 m2 n2 m3 n3 m4 n4 m5 n5 m6 n6 m7 n7
    have hSm := sameRecord_any kind site num key value ask yes sa sa2 sl sc sc2 zs Y (hIF.below bY) (hI4.below bY4)
    go_wp2_with (go_at_call 11; refine hSm.mono ?_; rintro e u5 ⟨rfl, hb5⟩)
    go_ret
    exact ⟨by simp, KB.out _ (wT (wT bF bY) hb5)⟩
end Go.Proofs.YtpikiaepomjmgaaDoor
