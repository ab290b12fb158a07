/- Texts of this claim, one behind the other. -/
import Derived.Test.YtfloplkepmpaiaaDoorM20TapeKeeps
import Derived.Test.YtfloplkepmpaiaaDoorM16TapeKeeps
import Derived.BigQuiet
import Derived.Deep.DeepCutAuto
import Derived.Deep.CutBlock
import Derived.Test.YtfloplkepmpaiaaDoorM12TapeKeeps
import Derived.Test.YtfloplkepmpaiaaDoorM11TapeKeeps
/- The contract of tape.Crash: what was synced and so many bytes more, in new memory; or what is refused. -/
namespace Go.Proofs.YtfloplkepmpaiaaDoor
open Go.ChangeShapes Go.WideShapes Go.ChangeAt Go.RowKit
set_option linter.unusedVariables false

/-- How many bytes stay. -/
def crN (len : Nat) (y keep : Int) : Nat := if keep < (len : Int) - y then (y + keep).toNat else len
def crErr (len : Nat) (y keep : Int) : Int := if mayT len y then (if keep < 0 then 2 else 0) else 9
def crBs (len : Nat) (y keep : Int) (bs : List Int) : List Int := if crErr len y keep = 0 then bs.take (crN len y keep) else []
def crY (len : Nat) (y keep : Int) : Int := if crErr len y keep = 0 then (crN len y keep : Int) else 0
theorem crN_le {len : Nat} {y keep : Int} (h : mayT len y = true) (hk : 0 ≤ keep) : crN len y keep ≤ len := by
  have := mayT_of h
  unfold crN
  split <;> omega

theorem crash_any (a : Option Addr) (len cap : Nat) (bs : List Int) (y keep : Int) (w : World) (h : IsB w a len cap bs) (hk : -9223372036854775808 ≤ keep ∧ keep ≤ 9223372036854775807) :
    Calls Tryd.prog 17 #[.agg #[.slice a len cap, .int .i64 y], .int .i64 keep] w fun e w' => TapeAns w w' e (crBs len y keep bs) (crY len y keep) (crErr len y keep) := by
  have hl : len ≤ 9223372036854775807 := by have := h.2.1; have := h.2.2.1; unfold maxLen at this; omega
  obtain ⟨W, hW⟩ : ∃ W : World, W = (w.alloc (.cells #[.slice a len cap, .int .i64 y] 46)).alloc (.cells #[.slice none 0 0, .int .i64 0] 46) := ⟨_, rfl⟩
  have hB : Below w.heap.size w W := by rw [hW]; exact ((Below.refl _ _).alloc (Nat.le_refl _) _).alloc (by simp) _
  have zW : W.heap.size = w.heap.size + 2 := by rw [hW]; simp
  have d0 : W.cell? ⟨w.heap.size, 0, none⟩ = some (.slice a len cap) := by rw [hW]; go_simp
  have d1 : W.cell? ⟨w.heap.size, 1, none⟩ = some (.int .i64 y) := by rw [hW]; go_simp
  have r0 : W.cell? ⟨w.heap.size + 1, 0, none⟩ = some (.slice none 0 0) := by rw [hW]; go_simp
  have r1 : W.cell? ⟨w.heap.size + 1, 1, none⟩ = some (.int .i64 0) := by rw [hW]; go_simp
  have f0 : W.frozen? ⟨w.heap.size + 1, 0, none⟩ = false := by rw [hW]; go_simp
  have f1 : W.frozen? ⟨w.heap.size + 1, 1, none⟩ = false := by rw [hW]; go_simp
  have KC : Hid (∀ V : World, Below W.heap.size W V → V.cell? ⟨w.heap.size, 0, none⟩ = some (.slice a len cap) ∧ V.cell? ⟨w.heap.size, 1, none⟩ = some (.int .i64 y) ∧ V.cell? ⟨w.heap.size + 1, 0, none⟩ = some (.slice none 0 0) ∧ V.cell? ⟨w.heap.size + 1, 1, none⟩ = some (.int .i64 0) ∧ V.frozen? ⟨w.heap.size + 1, 0, none⟩ = false ∧ V.frozen? ⟨w.heap.size + 1, 1, none⟩ = false) := by
    intro V hV
    exact ⟨(hV.cell (p := ⟨w.heap.size, 0, none⟩) (by show w.heap.size < _; omega)).trans d0, (hV.cell (p := ⟨w.heap.size, 1, none⟩) (by show w.heap.size < _; omega)).trans d1, (hV.cell (p := ⟨w.heap.size + 1, 0, none⟩) (by show w.heap.size + 1 < _; omega)).trans r0, (hV.cell (p := ⟨w.heap.size + 1, 1, none⟩) (by show w.heap.size + 1 < _; omega)).trans r1, (hV.frozen (p := ⟨w.heap.size + 1, 0, none⟩) (by show w.heap.size + 1 < _; omega)).trans f0, (hV.frozen (p := ⟨w.heap.size + 1, 1, none⟩) (by show w.heap.size + 1 < _; omega)).trans f1⟩
  cases hm : mayT len y with
  | true =>
    have hmm := mayT_of hm
    have h6 : (len : Int) ≤ 6000 := by omega
    by_cases hk0 : keep < 0
    · have e1 : crErr len y keep = 2 := by unfold crErr; rw [hm]; simp [hk0]
      have e2 : crBs len y keep bs = [] := by unfold crBs; rw [e1]; simp
      have e3 : crY len y keep = 0 := by unfold crY; rw [e1]; simp
      rw [e1, e2, e3]
      go_enter Tryd.func17, Tryd.ntmps17
      go_upto_region 1 with (fail)
      rw [← hW]
      clear hW
      go_upto_region 4 with (go_at_call 31; refine (mayBe_any _ _ _ _ _ hl).mono ?_; rintro e w1 ⟨rfl, hb1⟩; rw [hm])
      clear d0 d1 r0 r1 f0 f1
      obtain ⟨k0, k1, k2, k3, k4, k5⟩ := KC.out _ hb1
      go_wp2
      refine bodyPost_ret (v := .tuple #[.agg #[.slice none 0 0, .int .i64 0], .int .i64 2]) (by simp [results, Tryd.results17, go_sem, k2, k3]) rfl ⟨none, 0, 0, rfl, isB_nil _, fun b off e => by simp at e, ?_⟩
      exact ((hB.trans (hb1.mono hB.size)).setCell (by simp) _).setCell (by simp) _
    · have e1 : crErr len y keep = 0 := by unfold crErr; rw [hm]; simp [hk0]
      have e2 : crBs len y keep bs = bs.take (crN len y keep) := by unfold crBs; rw [e1]; simp
      have e3 : crY len y keep = (crN len y keep : Int) := by unfold crY; rw [e1]; simp
      rw [e1, e2, e3]
      have hnl := crN_le hm (by omega : 0 ≤ keep)
      have hmin : Hid ((y + if (len : Int) - y < keep then (len : Int) - y else keep) = (crN len y keep : Int)) := by show _ = _; unfold crN; split <;> split <;> omega
      obtain ⟨n, hn⟩ : ∃ n, n = crN len y keep := ⟨_, rfl⟩
      rw [← hn] at hmin hnl ⊢
      clear hn e1 e2 e3
      go_enter Tryd.func17, Tryd.ntmps17
      go_upto_region 1 with (fail)
      rw [← hW]
      clear hW
      go_upto_region 5 with (go_at_call 31; refine (mayBe_any _ _ _ _ _ hl).mono ?_; rintro e w1 ⟨rfl, hb1⟩; rw [hm])
      clear d0 d1 r0 r1 f0 f1
      obtain ⟨k0, k1, k2, k3, k4, k5⟩ := KC.out _ hb1
      have hIB := h.below (hB.trans (hb1.mono hB.size))
      go_upto_region 6 with (fail)
      rw [hmin.out]
      clear hmin
      go_wp2_with (go_at_call 32; refine (cut_any a len cap bs n _ hIB (by omega) hnl).mono ?_; rintro e w2 ⟨a', rfl, hB2, hb2, hge⟩; have hW2 : Below W.heap.size W w2 := hb1.trans (hb2.mono hb1.size); clear k0 k1 k2 k3 k4 k5; obtain ⟨k0, k1, k2, k3, k4, k5⟩ := KC.out _ hW2)
      all_goals
        have hsz := hb1.size
        have hne : ∀ b off, a' = some ⟨b, off, none⟩ → b ≠ w.heap.size + 1 := fun b off e => by have := hge b off e; omega
        refine bodyPost_ret (v := .tuple #[.agg #[.slice a' n n, .int .i64 n], .int .i64 0]) (by simp [results, Tryd.results17, go_sem, k2, k3]) rfl ⟨a', n, n, rfl, (hB2.set _ _ hne).set _ _ hne, fun b off e => by have := hge b off e; omega, ?_⟩
        exact ((hB.trans (hW2.mono hB.size)).setCell (by simp) _).setCell (by simp) _
  | false =>
    have e1 : crErr len y keep = 9 := by unfold crErr; rw [hm]; simp
    have e2 : crBs len y keep bs = [] := by unfold crBs; rw [e1]; simp
    have e3 : crY len y keep = 0 := by unfold crY; rw [e1]; simp
    rw [e1, e2, e3]
    go_enter Tryd.func17, Tryd.ntmps17
    go_upto_region 1 with (fail)
    rw [← hW]
    clear hW
    go_upto_region 2 with (go_at_call 31; refine (mayBe_any _ _ _ _ _ hl).mono ?_; rintro e w1 ⟨rfl, hb1⟩; rw [hm])
    clear d0 d1 r0 r1 f0 f1
    obtain ⟨k0, k1, k2, k3, k4, k5⟩ := KC.out _ hb1
    go_wp2
    refine bodyPost_ret (v := .tuple #[.agg #[.slice none 0 0, .int .i64 0], .int .i64 9]) (by simp [results, Tryd.results17, go_sem, k2, k3]) rfl ⟨none, 0, 0, rfl, isB_nil _, fun b off e => by simp at e, ?_⟩
    exact ((hB.trans (hb1.mono hB.size)).setCell (by simp) _).setCell (by simp) _
end Go.Proofs.YtfloplkepmpaiaaDoor
/- The law CrashJust at every argument. -/
namespace Go.Proofs.YtfloplkepmpaiaaDoor
open Go.ChangeShapes Go.WideShapes Go.ChangeAt Go.RowKit
set_option linter.unusedVariables false

theorem isB_alloc {U : World} {a : Option Addr} {len cap : Nat} {bs : List Int} (h : IsB U a len cap bs) (ob : Obj) : IsB (U.alloc ob) a len cap bs := h.below ((Below.refl _ _).alloc (Nat.le_refl _) ob)

theorem isB_drewN {w : World} {a : Option Addr} {len cap : Nat} {bs : List Int} (h : IsB w a len cap bs) (n : Nat) : IsB (w.drewN n) a len cap bs := h.below (below_drewN (Below.refl _ _) n)

set_option maxRecDepth 100000 in
set_option maxHeartbeats 4000000 in
theorem crashJust_walk (s : Int) (a : Option Addr) (len cap : Nat) (zs : List Int) (aa : Option Addr) (alen acap : Nat) (rs : List RV) (at' keep : Int) (w : World) (hs : (Lit.int .i64 s).wf = true) (h : IsInts w a len cap zs) (hx : IsRaws w aa alen acap rs) (hat : (Lit.int .i64 at').wf = true) (hke : (Lit.int .i64 keep).wf = true) (hm : HasAt w 2 rHas) (hwd : WidsAt w) (ht : TopsAt w) :
    Calls Tryd.prog 7 #[.int .i64 s, .slice a len cap, .slice aa alen acap, .int .i64 at', .int .i64 keep] w fun e w' => e = .returned (.bool true) ∧ Below w.heap.size w w' := by
  have hat' := i64_bd hat
  have hke' := i64_bd hke
  have hs' := i64_bd hs
  have hgT : 3 < w.heap.size := World.block_lt_of_cell? w _ ht.1
  have hgM : 2 < w.heap.size := hm.lt (by decide)
  have hgW : 1 < w.heap.size := hwd.lt
  have hCfg := fun w' h' => cfg_good s a len cap zs w' hs' h'
  go_enter Tryd.func7, Tryd.ntmps7
  go_upto_region 1 with (fail)
  go_upto_region 2 with (go_at_call 8; refine (hCfg _ h).mono ?_; rintro e w1 ⟨S, P, g, n, cp, L, rfl, hC1, hb1⟩)
  obtain ⟨W, hW⟩ : ∃ W : World, W = w1.alloc (.cells #[.int .i64 S, .slice (some ⟨g, 0, none⟩) n cp, .int .i64 P] 27) := ⟨_, rfl⟩
  have zW : w1.heap.size < W.heap.size := by rw [hW]; simp
  have c0 : W.cell? ⟨w1.heap.size, 0, none⟩ = some (.int .i64 S) := by rw [hW]; go_simp
  have c1 : W.cell? ⟨w1.heap.size, 1, none⟩ = some (.slice (some ⟨g, 0, none⟩) n cp) := by rw [hW]; go_simp
  have c2 : W.cell? ⟨w1.heap.size, 2, none⟩ = some (.int .i64 P) := by rw [hW]; go_simp
  have hBW : Below w1.heap.size w1 W := by rw [hW]; exact (Below.refl _ _).alloc (Nat.le_refl _) _
  rw [← hW]
  clear hW
  have hCW := hC1.below hBW
  have hBw : Below w.heap.size w W := hb1.trans (hBW.mono hb1.size)
  have hok := hCW.ok
  have KC : Hid (∀ U : World, Below W.heap.size W U → U.cell? ⟨w1.heap.size, 0, none⟩ = some (.int .i64 S) ∧ U.cell? ⟨w1.heap.size, 1, none⟩ = some (.slice (some ⟨g, 0, none⟩) n cp) ∧ U.cell? ⟨w1.heap.size, 2, none⟩ = some (.int .i64 P)) := by
    intro U hU
    exact ⟨(hU.cell (p := ⟨w1.heap.size, 0, none⟩) (by show w1.heap.size < _; omega)).trans c0, (hU.cell (p := ⟨w1.heap.size, 1, none⟩) (by show w1.heap.size < _; omega)).trans c1, (hU.cell (p := ⟨w1.heap.size, 2, none⟩) (by show w1.heap.size < _; omega)).trans c2⟩
  have KL : Hid (∀ U : World, Below W.heap.size W U → IsLabs U (some ⟨g, 0, none⟩) n cp L) := fun U hU => hCW.labs.below hU
  have KB : Hid (∀ U : World, Below W.heap.size W U → Below w.heap.size w U) := fun U hU => hBw.trans (hU.mono hBw.size)
  have KM : Hid (∀ U : World, Below W.heap.size W U → HasAt U 2 rHas) := fun U hU => hm.below (KB.out U hU) hgM
  have KW : Hid (∀ U : World, Below W.heap.size W U → WidsAt U) := fun U hU => hwd.below (KB.out U hU) hgW
  have KT : Hid (∀ U : World, Below W.heap.size W U → TopsAt U) := fun U hU => ht.below (KB.out U hU) hgT
  have KR : Hid (∀ U : World, Below W.heap.size W U → IsRaws U aa alen acap rs) := fun U hU => hx.below (KB.out U hU)
  have hD : Below W.heap.size W W.drew := (Below.refl _ _).drew
  have hRecs := fun w' h' => records_any S P (some ⟨g, 0, none⟩) n cp L aa alen acap rs 20 w' hok hCW.s1 hCW.s3 h' (by omega)
  have hTap := fun ao cpo ys w' h1 h2 h3 h4 h5 h6 h7 => taped_any S P (some ⟨g, 0, none⟩) n cp L ao (List.length ys) cpo ys w' h1 h2 h3 h4 h5 h6 h7
  obtain ⟨q0, q1, q2⟩ := KC.out _ (Below.refl _ _)
  clear c0 c1 c2
  go_cut [12, 13] (fun s12 s13 wc => ∃ (q : Nat) (ta : Option Addr) (tl tc : Nat) (bs : List Int), s12 = .pointer (some ⟨q, 0, none⟩) ∧ s13 = .bool true ∧ BoxN wc q 2 [.slice ta tl tc, .int .i64 0] ∧ IsB wc ta tl tc bs ∧ tl ≤ 625 ∧ (∀ b off, ta = some ⟨b, off, none⟩ → b ≠ q) ∧ W.heap.size ≤ q ∧ Below W.heap.size W wc)
  case first =>
    go_region_held3 (fun U => U.cell? ⟨w1.heap.size, 0, none⟩ = some (.int .i64 S) ∧ U.cell? ⟨w1.heap.size, 1, none⟩ = some (.slice (some ⟨g, 0, none⟩) n cp) ∧ U.cell? ⟨w1.heap.size, 2, none⟩ = some (.int .i64 P))
      (exact KC.out _ (by (with_reducible repeat (first | exact hu3 | exact hu2 | exact hD | exact Below.refl _ _ | refine bD ?_ | refine bA ?_ _ | refine bS ?_ (by omega) _)); done))
      (first
        | ((go_at_call 13; refine (hRecs _ (KR.out _ (by (with_reducible repeat (first | exact hu2 | exact hD | exact Below.refl _ _ | refine bD ?_ | refine bA ?_ _ | refine bS ?_ (by omega) _)); done))).mono ?_; rintro e u2 ⟨ao, cpo, ys, rfl, hR2, hg2, h25, hb2'⟩; have hu2 : Below W.heap.size W u2 := bT (by (with_reducible repeat (first | exact hu2 | exact hD | exact Below.refl _ _ | refine bD ?_ | refine bA ?_ _ | refine bS ?_ (by omega) _)); done) hb2'; have z2 : W.heap.size ≤ u2.heap.size := hu2.size; (first | (have bx2 : BoxN u2 W.heap.size 2 [.slice none 0 0, .int .i64 0] := (boxn_new W.drew #[.slice none 0 0, .int .i64 0] 46 2 rfl).below hb2' (by simp)) | (have bx2 : BoxN u2 W.heap.size 2 [.slice none 0 0, .int .i64 0] := (boxn_new W #[.slice none 0 0, .int .i64 0] 46 2 rfl).below hb2' (by simp)) | skip)))
        | ((go_at_call 14; refine (hTap ao cpo ys _ (KL.out _ (by (with_reducible repeat (first | exact hu2 | exact hD | exact Below.refl _ _ | refine bD ?_ | refine bA ?_ _ | refine bS ?_ (by omega) _)); done)) (by first | exact hR2 | exact hR2.below ((Below.refl _ _).alloc (Nat.le_refl _) _)) hg2 h25 (KM.out _ (by (with_reducible repeat (first | exact hu2 | exact hD | exact Below.refl _ _ | refine bD ?_ | refine bA ?_ _ | refine bS ?_ (by omega) _)); done)) (KT.out _ (by (with_reducible repeat (first | exact hu2 | exact hD | exact Below.refl _ _ | refine bD ?_ | refine bA ?_ _ | refine bS ?_ (by omega) _)); done)) (KW.out _ (by (with_reducible repeat (first | exact hu2 | exact hD | exact Below.refl _ _ | refine bD ?_ | refine bA ?_ _ | refine bS ?_ (by omega) _)); done))).mono ?_; rintro e u3 ⟨ta, tl, tc, rfl, hI3, htl, hnew3, hb3'⟩; have hu3 : Below W.heap.size W u3 := bT (by (with_reducible repeat (first | exact hu2 | exact hD | exact Below.refl _ _ | refine bD ?_ | refine bA ?_ _ | refine bS ?_ (by omega) _)); done) hb3'; have z3 : W.heap.size ≤ u3.heap.size := hu3.size; (first | (have bx3 := bx2.below hb3' bx2.lt; have hne3 : ∀ b off, ta = some ⟨b, off, none⟩ → b ≠ W.heap.size := fun b off e => Ne.symm (Nat.ne_of_lt (Nat.lt_of_lt_of_le bx2.lt (hnew3 b off e).1)); have zq : W.heap.size ≤ W.heap.size := Nat.le_refl _; have s0 : _ = some (Value.slice none 0 0) := (bx3.c 0 (by omega)).1; have g0 := (bx3.c 0 (by omega)).2; have s1 : _ = some (Value.int .i64 0) := (bx3.c 1 (by omega)).1; have g1 := (bx3.c 1 (by omega)).2) | (have bx3 : BoxN u3 u2.heap.size 2 [.slice none 0 0, .int .i64 0] := (boxn_new u2 #[.slice none 0 0, .int .i64 0] 46 2 rfl).below hb3' (by simp); have hne3 : ∀ b off, ta = some ⟨b, off, none⟩ → b ≠ u2.heap.size := fun b off e => Ne.symm (Nat.ne_of_lt (Nat.lt_of_lt_of_le (by simp) (hnew3 b off e).1)); have s0 : _ = some (Value.slice none 0 0) := (bx3.c 0 (by omega)).1; have g0 := (bx3.c 0 (by omega)).2; have s1 : _ = some (Value.int .i64 0) := (bx3.c 1 (by omega)).1; have g1 := (bx3.c 1 (by omega)).2) | skip))))
    all_goals
      have HI3 : Hid (IsB u3 ta tl tc (tapeOf ys)) := hI3
      first
        | (have bxF := (bx3.set 0 (by omega) (.slice ta tl tc)).set 1 (by omega) (.int .i64 0))
        | (have bxF : BoxN _ u3.heap.size 2 [.slice ta tl tc, .int .i64 0] := boxn_new u3 #[.slice ta tl tc, .int .i64 0] 46 2 rfl
           have hne3 : ∀ b off, ta = some ⟨b, off, none⟩ → b ≠ u3.heap.size := fun b off e => Nat.ne_of_lt (hnew3 b off e).2)
      go_wp2_with fail
      go_meet
      case rel => exact ⟨_, ta, tl, tc, tapeOf ys, rfl, rfl, bxF, (by (with_reducible repeat (first | exact HI3.out | exact hne3 | refine IsB.set ?_ _ _ ?_ | refine isB_alloc ?_ _)); done), htl, hne3, (by omega), (by (with_reducible repeat (first | exact hu3 | exact hu2 | exact hD | exact Below.refl _ _ | refine bD ?_ | refine bA ?_ _ | refine bS ?_ (by omega) _)); done)⟩
  case rest =>
    obtain ⟨q, ta, tl, tc, bs, rfl, rfl, bxF, hI, htl, hneq, zq, bF⟩ := hcut
    obtain ⟨X, eX⟩ : ∃ X, X = wc := ⟨_, rfl⟩
    rw [← eX] at bxF hI bF ⊢
    clear eX hRecs hTap KR
    have hpk := fun w' => picked_any keep 200 w' hke' (by decide) (by decide)
    have pb := pk_bd keep 200 (by decide)
    obtain ⟨kn, ek⟩ : ∃ j : Nat, pk keep 200 = j := ⟨(pk keep 200).toNat, by omega⟩
    rw [ek] at hpk pb
    clear ek
    have hpj := fun w' => picked_any at' ((tl : Int) + 1) w' hat' (by omega) (by omega)
    have pj := pk_bd at' ((tl : Int) + 1) (by omega)
    obtain ⟨jn, ej⟩ : ∃ j : Nat, pk at' ((tl : Int) + 1) = j := ⟨(pk at' ((tl : Int) + 1)).toNat, by omega⟩
    rw [ej] at hpj pj
    clear ej
    have hkn : kn < 200 := by omega
    have hjn : jn ≤ tl := by omega
    have tlc : tl ≤ tc := hI.2.1
    have qlt := bxF.lt
    have m0 : X.cell? ⟨q, 0, none⟩ = some (.slice ta tl tc) := (bxF.c 0 (by omega)).1
    have m1 : X.cell? ⟨q, 1, none⟩ = some (.int .i64 0) := (bxF.c 1 (by omega)).1
    have f1 : X.frozen? ⟨q, 1, none⟩ = false := (bxF.c 1 (by omega)).2
    clear q0 q1 q2
    go_upto_region 4 with (go_at_call 12; refine (hpk _).mono ?_; rintro e v ⟨rfl, hv⟩; rw [hv]; clear hv v)
    go_upto_region 5 with (go_at_call 12; refine (hpj _).mono ?_; rintro e v ⟨rfl, hv⟩; rw [hv]; clear hv v)
    obtain ⟨Y, hY⟩ : ∃ Y : World, Y = X.setCell ⟨q, 1, none⟩ (.int .i64 (jn : Int)) := ⟨_, rfl⟩
    have bxY : BoxN Y q 2 [.slice ta tl tc, .int .i64 (jn : Int)] := by rw [hY]; exact bxF.set 1 (by omega) _
    have hIY : IsB Y ta tl tc bs := by rw [hY]; exact hI.set _ _ hneq
    have bY : Below W.heap.size W Y := by rw [hY]; exact bS bF zq _
    rw [← hY]
    clear hY bxF hI bF m0 m1 f1 hpk hpj
    have hmay : mayT tl (jn : Int) = true := by simp [mayT]; omega
    obtain ⟨N, eN⟩ : ∃ N, N = crN tl (jn : Int) (kn : Int) := ⟨_, rfl⟩
    have hNle : N ≤ tl := by rw [eN]; exact crN_le hmay (by omega)
    have hCr := fun w' h' => crash_any ta tl tc bs (jn : Int) (kn : Int) w' h' (by omega)
    have hCb := fun w' h' => crash_any ta tl tc bs (jn : Int) (-1 - (kn : Int)) w' h' (by omega)
    have e0 : crErr tl (jn : Int) (kn : Int) = 0 := by unfold crErr; rw [hmay]; simp
    have e2 : crErr tl (jn : Int) (-1 - (kn : Int)) = 2 := by unfold crErr; rw [hmay]; simp; omega
    unfold crBs crY at hCr hCb
    rw [e0, ← eN] at hCr
    rw [e2] at hCb
    simp only [if_true, show ¬ ((2 : Int) = 0) from by decide, if_false] at hCr hCb
    have hcase : ((kn : Int) < (tl : Int) - (jn : Int) ∧ (N : Int) = (jn : Int) + (kn : Int)) ∨ (¬ (kn : Int) < (tl : Int) - (jn : Int) ∧ N = tl) := by
      unfold crN at eN
      by_cases hh : (kn : Int) < (tl : Int) - (jn : Int)
      · rw [if_pos hh] at eN
        exact .inl ⟨hh, by omega⟩
      · rw [if_neg hh] at eN
        exact .inr ⟨hh, eN⟩
    have HC : Hid (((kn : Int) < (tl : Int) - (jn : Int) ∧ (N : Int) = (jn : Int) + (kn : Int)) ∨ (¬ (kn : Int) < (tl : Int) - (jn : Int) ∧ N = tl)) := hcase
    clear eN e0 e2 hcase hmay
    have m0 : Y.cell? ⟨q, 0, none⟩ = some (.slice ta tl tc) := (bxY.c 0 (by omega)).1
    have m1 : Y.cell? ⟨q, 1, none⟩ = some (.int .i64 (jn : Int)) := (bxY.c 1 (by omega)).1
    go_upto_region 6 with (go_at_call 17; refine (hCr _ hIY).mono ?_; rintro e w5 ⟨a5, l5, c5, rfl, hI5, hnew5, hb5⟩)
    obtain ⟨V, hV⟩ : ∃ V : World, V = w5.alloc (.cells #[.slice a5 l5 c5, .int .i64 (N : Int)] 46) := ⟨_, rfl⟩
    have b5V : Below w5.heap.size w5 V := by rw [hV]; exact (Below.refl _ _).alloc (Nat.le_refl _) _
    have vb : BoxN V w5.heap.size 2 [.slice a5 l5 c5, .int .i64 (N : Int)] := by rw [hV]; simpa using boxn_new w5 #[.slice a5 l5 c5, .int .i64 (N : Int)] 46 2 rfl
    rw [← hV]
    clear hV m0 m1
    have bYV : Below Y.heap.size Y V := hb5.trans (b5V.mono hb5.size)
    have bV : Below W.heap.size W V := bT bY bYV
    have bxV := bxY.below bYV bxY.lt
    have hIV := hIY.below bYV
    have hI5V := hI5.below b5V
    have hlN : N = l5 := by have := hI5.1; have := hIY.1; simp at *; omega
    subst hlN
    have m0 : V.cell? ⟨q, 0, none⟩ = some (.slice ta tl tc) := (bxV.c 0 (by omega)).1
    have m1 : V.cell? ⟨q, 1, none⟩ = some (.int .i64 (jn : Int)) := (bxV.c 1 (by omega)).1
    go_cut [17] (fun s17 wc => s17 = .int .i64 (N : Int) ∧ wc = V)
    case first =>
      have hC := HC.out
      rcases (by omega : ((jn : Int) + (kn : Int) < (tl : Int) ∧ (N : Int) = (jn : Int) + (kn : Int)) ∨ ((jn : Int) + (kn : Int) = (tl : Int) ∧ (N : Int) = (jn : Int) + (kn : Int)) ∨ ((tl : Int) < (jn : Int) + (kn : Int) ∧ (N : Int) = (tl : Int))) with ⟨h1, h2⟩ | ⟨h1, h2⟩ | ⟨h1, h2⟩
      · have x1 : ¬ (tl : Int) < (jn : Int) + (kn : Int) := by omega
        have x2 : (jn : Int) + (kn : Int) ≤ (tl : Int) := by omega
        have x3 : ¬ (tl : Int) ≤ (jn : Int) + (kn : Int) := by omega
        have HN : Hid ((N : Int) = (jn : Int) + (kn : Int) ∨ (N : Int) = (tl : Int)) := by first | exact .inl h2 | exact .inr h2
        have H2 : Hid ((jn : Int) + (kn : Int) < (tl : Int) ∧ (N : Int) = (jn : Int) + (kn : Int) ∨ (tl : Int) < (jn : Int) + (kn : Int) ∧ (N : Int) = (tl : Int)) := by first | exact .inl ⟨h1, h2⟩ | exact .inr ⟨h1, h2⟩
        clear h2 hC
        go_wp2
        go_meet
        case rel => exact ⟨congrArg (Value.int .i64) (by have hn := H2.out; omega), rfl⟩
      · have x0 : ¬ (jn : Int) + (kn : Int) < (tl : Int) := by omega
        have x1 : ¬ (tl : Int) < (jn : Int) + (kn : Int) := by omega
        have x2 : (jn : Int) + (kn : Int) ≤ (tl : Int) := by omega
        have x3 : (tl : Int) ≤ (jn : Int) + (kn : Int) := by omega
        have HN : Hid ((N : Int) = (jn : Int) + (kn : Int)) := h2
        have H1 : Hid ((jn : Int) + (kn : Int) = (tl : Int)) := h1
        clear h2 hC h1
        go_wp2
        go_meet
        case rel => exact ⟨congrArg (Value.int .i64) (by have hn := HN.out; have h1 := H1.out; omega), rfl⟩
      · have x0 : ¬ (jn : Int) + (kn : Int) < (tl : Int) := by omega
        have x2 : ¬ (jn : Int) + (kn : Int) ≤ (tl : Int) := by omega
        have x3 : (tl : Int) ≤ (jn : Int) + (kn : Int) := by omega
        have HN : Hid ((N : Int) = (jn : Int) + (kn : Int) ∨ (N : Int) = (tl : Int)) := by first | exact .inl h2 | exact .inr h2
        have H2 : Hid ((jn : Int) + (kn : Int) < (tl : Int) ∧ (N : Int) = (jn : Int) + (kn : Int) ∨ (tl : Int) < (jn : Int) + (kn : Int) ∧ (N : Int) = (tl : Int)) := by first | exact .inl ⟨h1, h2⟩ | exact .inr ⟨h1, h2⟩
        clear h2 hC
        go_wp2
        go_meet
        case rel => exact ⟨congrArg (Value.int .i64) (by have hn := H2.out; omega), rfl⟩
    case rest =>
      obtain ⟨rfl, hwc⟩ := hcut
      rw [hwc]
      clear hwc
      go_upto_region 8 with (go_at_call 17; refine (hCb _ hIV).mono ?_; rintro e w7 ⟨a7, l7, c7, rfl, hI7, hnew7, hb7⟩)
      obtain ⟨Z, hZ⟩ : ∃ Z : World, Z = w7.alloc (.cells #[.slice a7 l7 c7, .int .i64 0] 46) := ⟨_, rfl⟩
      have b7Z : Below w7.heap.size w7 Z := by rw [hZ]; exact (Below.refl _ _).alloc (Nat.le_refl _) _
      rw [← hZ]
      clear hZ m0 m1
      have bVZ : Below V.heap.size V Z := hb7.trans (b7Z.mono hb7.size)
      have bZ : Below W.heap.size W Z := bT bV bVZ
      have bxZ := bxV.below bVZ bxV.lt
      have vbZ := vb.below bVZ vb.lt
      have hIZ := hIV.below bVZ
      have hI5Z := hI5V.below bVZ
      have hNc : N ≤ tc := by omega
      have hNc' : (N : Int) ≤ (tc : Int) := by omega
      have hIt := hIZ.take N tc (by omega) hNc (Nat.le_refl _)
      have r1 := fun k => run_string (isB_drewN hI5Z k)
      have r2 := fun k => run_string (isB_drewN hIt k)
      have m0 : Z.cell? ⟨q, 0, none⟩ = some (.slice ta tl tc) := (bxZ.c 0 (by omega)).1
      have m1 : Z.cell? ⟨q, 1, none⟩ = some (.int .i64 (jn : Int)) := (bxZ.c 1 (by omega)).1
      have v0 : Z.cell? ⟨w5.heap.size, 0, none⟩ = some (.slice a5 N c5) := (vbZ.c 0 (by omega)).1
      have v1 : Z.cell? ⟨w5.heap.size, 1, none⟩ = some (.int .i64 (N : Int)) := (vbZ.c 1 (by omega)).1
      go_quiet (fail)
      go_wp2
      go_ret
      first
        | exact ⟨rfl, KB.out _ bZ⟩
        | exact ⟨rfl, below_drewN (KB.out _ bZ) nq⟩
end Go.Proofs.YtfloplkepmpaiaaDoor
/- A record off bytes, on plain data. -/
namespace Go.Proofs.YtfloplkepmpaiaaDoor
open Go.ChangeShapes Go.WideShapes Go.ChangeAt Go.RowKit

/-- The record without where its sites lie. -/
def RcV.pl (r : RcV) : RcV := { r with sa := none, sc := 0 }
def RcV.zero : RcV := ⟨0, 0, 0, 0, 0, 0, false, none, 0, 0, []⟩
/-- The sites that are counted. -/
def RS.sites (r : RS) (n : Int) : List Int × RS := rdNums (List.replicate n.toNat 1) r
/-- A record of what was read: its parts, and the sites behind. -/
def recMk (k s n : Int) (p : List Int) (z : List Int) : RcV := ⟨k, s, n, p.getD 1 0, p.getD 2 0, p.getD 4 0, decide (p.getD 5 0 = 1), none, z.length, 0, z⟩
def decRecRS (r : RS) : RcV × RS :=
  (recMk (r.kind 7).1 ((r.kind 7).2.num 1).1 (((r.kind 7).2.num 1).2.num 3).1
      (decParts 0 (rHasOf (r.kind 7).1) widL (((r.kind 7).2.num 1).2.num 3).2).1
      ((decParts 0 (rHasOf (r.kind 7).1) widL (((r.kind 7).2.num 1).2.num 3).2).2.sites ((decParts 0 (rHasOf (r.kind 7).1) widL (((r.kind 7).2.num 1).2.num 3).2).1.getD 7 0)).1,
   ((decParts 0 (rHasOf (r.kind 7).1) widL (((r.kind 7).2.num 1).2.num 3).2).2.sites ((decParts 0 (rHasOf (r.kind 7).1) widL (((r.kind 7).2.num 1).2.num 3).2).1.getD 7 0)).2)
/-- What DecodeRecord answers. -/
def recOf (s : Int) (ls : List (Int × Int)) (p : Int) (b : List Int) : RcV × Int :=
  if cfgFault s ls p ≠ 0 then (RcV.zero, cfgFault s ls p)
  else if (decRecRS ⟨b, 0⟩).2.fin.wrong ≠ 0 then (RcV.zero, (decRecRS ⟨b, 0⟩).2.fin.wrong)
  else if recFault s ls p (decRecRS ⟨b, 0⟩).1 ≠ 0 then (RcV.zero, recFault s ls p (decRecRS ⟨b, 0⟩).1)
  else ((decRecRS ⟨b, 0⟩).1, 0)
end Go.Proofs.YtfloplkepmpaiaaDoor
