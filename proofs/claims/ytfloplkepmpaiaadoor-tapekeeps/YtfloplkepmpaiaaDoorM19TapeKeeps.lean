/- Texts of this claim, one behind the other. -/
import Derived.Test.YtfloplkepmpaiaaDoorM12TapeKeeps
import Derived.Test.YtfloplkepmpaiaaDoorM11TapeKeeps
import Derived.Test.YtfloplkepmpaiaaDoorM18TapeKeeps
import Derived.Deep.DeepCutAuto
import Derived.Deep.CutBlock
import Derived.Test.YtfloplkepmpaiaaDoorM17TapeKeeps
import Derived.Test.YtfloplkepmpaiaaDoorM15TapeKeeps
import Derived.ArgAppend
/- The contract of wire.CheckRecord: at every config and record it returns the fault that recFault tells, and leaves what was in memory. -/
namespace Go.Proofs.YtfloplkepmpaiaaDoor
open Go.ChangeShapes Go.WideShapes Go.ChangeAt Go.RowKit
set_option linter.unusedVariables false

theorem rHas_eight (k : Nat) (hk : k < 7) : rHas.getD k [] = [(rHas.getD k []).getD 0 false, (rHas.getD k []).getD 1 false, (rHas.getD k []).getD 2 false, (rHas.getD k []).getD 3 false, (rHas.getD k []).getD 4 false, (rHas.getD k []).getD 5 false, (rHas.getD k []).getD 6 false, (rHas.getD k []).getD 7 false] := by
  rcases (by omega : k = 0 ∨ k = 1 ∨ k = 2 ∨ k = 3 ∨ k = 4 ∨ k = 5 ∨ k = 6) with rfl | rfl | rfl | rfl | rfl | rfl | rfl <;> rfl

set_option maxRecDepth 100000 in
set_option maxHeartbeats 4000000 in
theorem checkRecord_any (s p : Int) (a : Option Addr) (len cap : Nat) (ls : List (Int × Int)) (r : RcV) (w : World) (h : IsLabs w a len cap ls) (hi : IsInts w r.sa r.sl r.sc r.sites) (hm : HasAt w 2 rHas) (ht : TopsAt w) :
    Calls Tryd.prog 50 #[.agg #[.int .i64 s, .slice a len cap, .int .i64 p], r.val] w fun e w' => e = .returned (.int .i64 (recFault s ls p r)) ∧ Below w.heap.size w w' := by
  have hgT : 3 < w.heap.size := World.block_lt_of_cell? w _ ht.1
  have hgM : 2 < w.heap.size := hm.lt (by decide)
  have hmx : r.sl ≤ maxLen := Nat.le_trans hi.2.1 hi.2.2.1
  have hPs := fun w' => recordParts_any r w' hmx
  obtain ⟨kind, site, num, key, value, ask, yes, sa, sl, sc, sites⟩ := r
  obtain ⟨M, eM⟩ : ∃ M : RcV, M = ⟨kind, site, num, key, value, ask, yes, sa, sl, sc, sites⟩ := ⟨_, rfl⟩
  have EM : Hid (M = ⟨kind, site, num, key, value, ask, yes, sa, sl, sc, sites⟩) := eM
  have hMF : ∀ v, recFault s ls p M = v → recFault s ls p ⟨kind, site, num, key, value, ask, yes, sa, sl, sc, sites⟩ = v := fun v hv => by rw [← eM]; exact hv
  have MF : Hid (∀ v, recFault s ls p M = v → recFault s ls p ⟨kind, site, num, key, value, ask, yes, sa, sl, sc, sites⟩ = v) := hMF
  clear hMF eM
  simp only [RcV.val] at hPs ⊢
  have hi' : IsInts w sa sl sc sites := hi
  clear hi
  have HM : Hid (sl ≤ maxLen) := hmx
  clear hmx
  obtain ⟨W, hW⟩ : ∃ W : World, W = (w.alloc (.cells #[.int .i64 s, .slice a len cap, .int .i64 p] 27)).alloc (.cells #[.int .i64 kind, .int .i64 site, .int .i64 num, .int .i64 key, .int .i64 value, .int .i64 ask, .bool yes, .slice sa sl sc] 53) := ⟨_, rfl⟩
  have hB : Below w.heap.size w W := by rw [hW]; exact ((Below.refl _ _).alloc (Nat.le_refl _) _).alloc (by simp) _
  have zW : W.heap.size = w.heap.size + 2 := by rw [hW]; simp
  have c0 : W.cell? ⟨w.heap.size, 0, none⟩ = some (.int .i64 s) := by rw [hW]; go_simp
  have c1 : W.cell? ⟨w.heap.size, 1, none⟩ = some (.slice a len cap) := by rw [hW]; go_simp
  have c2 : W.cell? ⟨w.heap.size, 2, none⟩ = some (.int .i64 p) := by rw [hW]; go_simp
  have d0 : W.cell? ⟨w.heap.size + 1, 0, none⟩ = some (.int .i64 kind) := by rw [hW]; go_simp
  have d1 : W.cell? ⟨w.heap.size + 1, 1, none⟩ = some (.int .i64 site) := by rw [hW]; go_simp
  have d2 : W.cell? ⟨w.heap.size + 1, 2, none⟩ = some (.int .i64 num) := by rw [hW]; go_simp
  have d3 : W.cell? ⟨w.heap.size + 1, 3, none⟩ = some (.int .i64 key) := by rw [hW]; go_simp
  have d4 : W.cell? ⟨w.heap.size + 1, 4, none⟩ = some (.int .i64 value) := by rw [hW]; go_simp
  have d5 : W.cell? ⟨w.heap.size + 1, 5, none⟩ = some (.int .i64 ask) := by rw [hW]; go_simp
  have d6 : W.cell? ⟨w.heap.size + 1, 6, none⟩ = some (.bool yes) := by rw [hW]; go_simp
  have d7 : W.cell? ⟨w.heap.size + 1, 7, none⟩ = some (.slice sa sl sc) := by rw [hW]; go_simp
  have hLW := h.below hB
  have hIW := hi'.below hB
  have tW : TopsAt W := ht.below hB (by omega)
  have mW : HasAt W 2 rHas := hm.below hB (by omega)
  go_enter Tryd.func50, Tryd.ntmps50
  go_upto_region 1 with (fail)
  rw [← hW]
  clear hW ht hm
  by_cases hF : cfgFault s ls p = 0
  · obtain ⟨s1, s4, n1, n6, _, _, _⟩ := cfg_zero hF
    have hlen : Hid (ls.length = len) := h.1
    have l6 : len ≤ 6 := by have := hlen.out; omega
    go_upto_region 4 with (go_at_call 28; refine (check_any s p a len cap ls _ hLW).mono ?_; rintro e w1 ⟨rfl, hb1⟩)
    have KC : Hid (∀ (U : World), Below W.heap.size W U → (U.cell? ⟨w.heap.size, 0, none⟩ = some (.int .i64 s) ∧ U.cell? ⟨w.heap.size, 1, none⟩ = some (.slice a len cap) ∧ U.cell? ⟨w.heap.size, 2, none⟩ = some (.int .i64 p)) ∧ (U.cell? ⟨w.heap.size + 1, 0, none⟩ = some (.int .i64 kind) ∧ U.cell? ⟨w.heap.size + 1, 1, none⟩ = some (.int .i64 site) ∧ U.cell? ⟨w.heap.size + 1, 2, none⟩ = some (.int .i64 num) ∧ U.cell? ⟨w.heap.size + 1, 3, none⟩ = some (.int .i64 key) ∧ U.cell? ⟨w.heap.size + 1, 4, none⟩ = some (.int .i64 value) ∧ U.cell? ⟨w.heap.size + 1, 5, none⟩ = some (.int .i64 ask) ∧ U.cell? ⟨w.heap.size + 1, 6, none⟩ = some (.bool yes) ∧ U.cell? ⟨w.heap.size + 1, 7, none⟩ = some (.slice sa sl sc))) := by
      intro V hV
      have e0 : ∀ o, V.cell? ⟨w.heap.size, o, none⟩ = W.cell? ⟨w.heap.size, o, none⟩ := fun o => hV.cell (p := ⟨w.heap.size, o, none⟩) (by show w.heap.size < _; omega)
      have e1 : ∀ o, V.cell? ⟨w.heap.size + 1, o, none⟩ = W.cell? ⟨w.heap.size + 1, o, none⟩ := fun o => hV.cell (p := ⟨w.heap.size + 1, o, none⟩) (by show w.heap.size + 1 < _; omega)
      simp only [e0, e1]
      exact ⟨⟨c0, c1, c2⟩, d0, d1, d2, d3, d4, d5, d6, d7⟩
    clear c0 c1 c2 d0 d1 d2 d3 d4 d5 d6 d7
    obtain ⟨⟨c0, c1, c2⟩, d0, d1, d2, d3, d4, d5, d6, d7⟩ := KC.out w1 hb1
    cases hK : inR kind 1 6 with
    | false =>
      have hf := MF.out 3 (rf_kind hF (by rw [EM.out]; exact hK))
      go_wp2_with (go_at_call 36; refine (within_any _ _ _ _).mono ?_; rintro e u1 ⟨rfl, hu1⟩; rw [hu1]; clear hu1)
      go_ret
      exact ⟨ret_int hf.symm, hB.trans (hb1.mono hB.size)⟩
    | true =>
      have kb := inR_of hK
      obtain ⟨k, rfl⟩ : ∃ k : Nat, kind = k := ⟨kind.toNat, by omega⟩
      have k10 : k < 7 := by omega
      have k9 : (k : Int) < 7 := by omega
      go_upto_region 6 with (go_at_call 36; refine (within_any _ _ _ _).mono ?_; rintro e u1 ⟨rfl, hu1⟩; rw [hu1]; clear hu1)
      go_upto_region 7 with (go_at_call 51; refine (hPs _).mono ?_; rintro e w2 ⟨rfl, hb2⟩)
      obtain ⟨V, hV⟩ : ∃ V : World, V = w2.alloc (.cells #[.int .i64 0, .int .i64 key, .int .i64 value, .int .i64 0, .int .i64 ask, .int .i64 (bit yes), .int .i64 0, .int .i64 (sl : Int)] 73) := ⟨_, rfl⟩
      have hbW : Below W.heap.size W V := by rw [hV]; exact (hb1.trans (hb2.mono hb1.size)).alloc (by have := hb1.size; have := hb2.size; omega) _
      have zV : V.heap.size = w2.heap.size + 1 := by rw [hV]; simp
      have zw2 : W.heap.size ≤ w2.heap.size := Nat.le_trans hb1.size hb2.size
      have e0 : V.cell? ⟨w2.heap.size, 0, none⟩ = some (.int .i64 0) := by rw [hV]; go_simp
      have e1 : V.cell? ⟨w2.heap.size, 1, none⟩ = some (.int .i64 key) := by rw [hV]; go_simp
      have e2 : V.cell? ⟨w2.heap.size, 2, none⟩ = some (.int .i64 value) := by rw [hV]; go_simp
      have e3 : V.cell? ⟨w2.heap.size, 3, none⟩ = some (.int .i64 0) := by rw [hV]; go_simp
      have e4 : V.cell? ⟨w2.heap.size, 4, none⟩ = some (.int .i64 ask) := by rw [hV]; go_simp
      have e5 : V.cell? ⟨w2.heap.size, 5, none⟩ = some (.int .i64 (bit yes)) := by rw [hV]; go_simp
      have e6 : V.cell? ⟨w2.heap.size, 6, none⟩ = some (.int .i64 0) := by rw [hV]; go_simp
      have e7 : V.cell? ⟨w2.heap.size, 7, none⟩ = some (.int .i64 (sl : Int)) := by rw [hV]; go_simp
      rw [← hV]
      clear hV
      have tV : TopsAt V := tW.below hbW (by omega)
      have mV : HasAt V 2 rHas := mW.below hbW (by omega)
      have iV : IsInts V sa sl sc sites := hIW.below hbW
      have EH : Hid (rHas.getD k [] = [(rHas.getD k []).getD 0 false, (rHas.getD k []).getD 1 false, (rHas.getD k []).getD 2 false, (rHas.getD k []).getD 3 false, (rHas.getD k []).getD 4 false, (rHas.getD k []).getD 5 false, (rHas.getD k []).getD 6 false, (rHas.getD k []).getD 7 false]) := rHas_eight k k10
      have f0 := mV k 0 k10 (by decide)
      have f1 := mV k 1 k10 (by decide)
      have f2 := mV k 2 k10 (by decide)
      have f3 := mV k 3 k10 (by decide)
      have f4 := mV k 4 k10 (by decide)
      have f5 := mV k 5 k10 (by decide)
      have f6 := mV k 6 k10 (by decide)
      have f7 := mV k 7 k10 (by decide)
      obtain ⟨h0, eh0⟩ : ∃ x, x = (rHas.getD k []).getD 0 false := ⟨_, rfl⟩
      obtain ⟨h1, eh1⟩ : ∃ x, x = (rHas.getD k []).getD 1 false := ⟨_, rfl⟩
      obtain ⟨h2, eh2⟩ : ∃ x, x = (rHas.getD k []).getD 2 false := ⟨_, rfl⟩
      obtain ⟨h3, eh3⟩ : ∃ x, x = (rHas.getD k []).getD 3 false := ⟨_, rfl⟩
      obtain ⟨h4, eh4⟩ : ∃ x, x = (rHas.getD k []).getD 4 false := ⟨_, rfl⟩
      obtain ⟨h5, eh5⟩ : ∃ x, x = (rHas.getD k []).getD 5 false := ⟨_, rfl⟩
      obtain ⟨h6, eh6⟩ : ∃ x, x = (rHas.getD k []).getD 6 false := ⟨_, rfl⟩
      obtain ⟨h7, eh7⟩ : ∃ x, x = (rHas.getD k []).getD 7 false := ⟨_, rfl⟩
      rw [← eh0, ← eh1, ← eh2, ← eh3, ← eh4, ← eh5, ← eh6, ← eh7] at EH
      rw [← eh0] at f0
      rw [← eh1] at f1
      rw [← eh2] at f2
      rw [← eh3] at f3
      rw [← eh4] at f4
      rw [← eh5] at f5
      rw [← eh6] at f6
      rw [← eh7] at f7
      clear eh0 eh1 eh2 eh3 eh4 eh5 eh6 eh7
      simp only [Nat.add_zero] at f0
      have KA : Hid (∀ (U : World), Below V.heap.size V U → (U.cell? ⟨w.heap.size, 0, none⟩ = some (.int .i64 s) ∧ U.cell? ⟨w.heap.size, 1, none⟩ = some (.slice a len cap) ∧ U.cell? ⟨w.heap.size, 2, none⟩ = some (.int .i64 p)) ∧ (U.cell? ⟨w.heap.size + 1, 0, none⟩ = some (.int .i64 k) ∧ U.cell? ⟨w.heap.size + 1, 1, none⟩ = some (.int .i64 site) ∧ U.cell? ⟨w.heap.size + 1, 2, none⟩ = some (.int .i64 num) ∧ U.cell? ⟨w.heap.size + 1, 3, none⟩ = some (.int .i64 key) ∧ U.cell? ⟨w.heap.size + 1, 4, none⟩ = some (.int .i64 value) ∧ U.cell? ⟨w.heap.size + 1, 5, none⟩ = some (.int .i64 ask) ∧ U.cell? ⟨w.heap.size + 1, 6, none⟩ = some (.bool yes) ∧ U.cell? ⟨w.heap.size + 1, 7, none⟩ = some (.slice sa sl sc)) ∧ (U.cell? ⟨w2.heap.size, 0, none⟩ = some (.int .i64 0) ∧ U.cell? ⟨w2.heap.size, 1, none⟩ = some (.int .i64 key) ∧ U.cell? ⟨w2.heap.size, 2, none⟩ = some (.int .i64 value) ∧ U.cell? ⟨w2.heap.size, 3, none⟩ = some (.int .i64 0) ∧ U.cell? ⟨w2.heap.size, 4, none⟩ = some (.int .i64 ask) ∧ U.cell? ⟨w2.heap.size, 5, none⟩ = some (.int .i64 (bit yes)) ∧ U.cell? ⟨w2.heap.size, 6, none⟩ = some (.int .i64 0) ∧ U.cell? ⟨w2.heap.size, 7, none⟩ = some (.int .i64 (sl : Int))) ∧ (U.cell? ⟨2, k * 8, none⟩ = some (.bool h0) ∧ U.cell? ⟨2, k * 8 + 1, none⟩ = some (.bool h1) ∧ U.cell? ⟨2, k * 8 + 2, none⟩ = some (.bool h2) ∧ U.cell? ⟨2, k * 8 + 3, none⟩ = some (.bool h3) ∧ U.cell? ⟨2, k * 8 + 4, none⟩ = some (.bool h4) ∧ U.cell? ⟨2, k * 8 + 5, none⟩ = some (.bool h5) ∧ U.cell? ⟨2, k * 8 + 6, none⟩ = some (.bool h6) ∧ U.cell? ⟨2, k * 8 + 7, none⟩ = some (.bool h7))) := by
        intro U hU
        have q1 : ∀ o, U.cell? ⟨w2.heap.size, o, none⟩ = V.cell? ⟨w2.heap.size, o, none⟩ := fun o => hU.cell (p := ⟨w2.heap.size, o, none⟩) (by show w2.heap.size < _; omega)
        have q2 : ∀ o, U.cell? ⟨2, o, none⟩ = V.cell? ⟨2, o, none⟩ := fun o => hU.cell (p := ⟨2, o, none⟩) (by show 2 < _; omega)
        obtain ⟨hc, hd⟩ := KC.out U (hbW.trans (hU.mono hbW.size))
        refine ⟨hc, hd, ?_, ?_⟩
        · simp only [q1]
          exact ⟨e0, e1, e2, e3, e4, e5, e6, e7⟩
        · simp only [q2]
          exact ⟨f0, f1, f2, f3, f4, f5, f6, f7⟩
      clear c0 c1 c2 d0 d1 d2 d3 d4 d5 d6 d7 e0 e1 e2 e3 e4 e5 e6 e7 f0 f1 f2 f3 f4 f5 f6 f7
      have hbv : Below V.heap.size V V := Below.refl _ _
      have hbw : Below w.heap.size w V := hB.trans (hbW.mono hB.size)
      obtain ⟨⟨c0, c1, c2⟩, ⟨d0, d1, d2, d3, d4, d5, d6, d7⟩, ⟨e0, e1, e2, e3, e4, e5, e6, e7⟩, ⟨f0, f1, f2, f3, f4, f5, f6, f7⟩⟩ := KA.out _ hbv
      have hRng : Hid (recRange s ls.length M = (txnOK s site num && partsOK len [0, key, value, 0, ask, bit yes, 0, (sl : Int)] && rising s 0 sites)) := by
        show recRange s ls.length M = _
        rw [EM.out, hlen.out]
        rfl
      cases g0 : txnOK s site num with
      | false =>
        have hf := MF.out 2 (rf_range hF (by rw [EM.out]; exact hK) (by rw [hRng.out, g0]; simp))
        go_wp2_with (first
          | (go_at_call 38; refine (txn_any site num s _ ⟨s1, s4⟩).mono ?_; rintro e u ⟨rfl, hu⟩; replace hbv := hbv.trans (hu.mono hbv.size); clear hu c0 c1 c2 d0 d1 d2 d3 d4 d5 d6 d7 e0 e1 e2 e3 e4 e5 e6 e7; obtain ⟨⟨c0, c1, c2⟩, ⟨d0, d1, d2, d3, d4, d5, d6, d7⟩, ⟨e0, e1, e2, e3, e4, e5, e6, e7⟩, ⟨f0, f1, f2, f3, f4, f5, f6, f7⟩⟩ := KA.out _ hbv)
          | (go_at_call 39; refine (inBoundsW_any s p a len cap 0 key value 0 ask (bit yes) 0 (sl : Int) _ l6 (tV.below hbv (by omega)) (by have := hbv.size; omega)).mono ?_; rintro e u ⟨rfl, hu⟩; replace hbv := hbv.trans (hu.mono hbv.size); clear hu c0 c1 c2 d0 d1 d2 d3 d4 d5 d6 d7 e0 e1 e2 e3 e4 e5 e6 e7; obtain ⟨⟨c0, c1, c2⟩, ⟨d0, d1, d2, d3, d4, d5, d6, d7⟩, ⟨e0, e1, e2, e3, e4, e5, e6, e7⟩, ⟨f0, f1, f2, f3, f4, f5, f6, f7⟩⟩ := KA.out _ hbv)
          | (go_at_call 56; refine (rising_any s p a len cap sa sl sc sites _ ⟨s1, s4⟩ (iV.below hbv)).mono ?_; rintro e u ⟨rfl, hu⟩; replace hbv := hbv.trans (hu.mono hbv.size); clear hu c0 c1 c2 d0 d1 d2 d3 d4 d5 d6 d7 e0 e1 e2 e3 e4 e5 e6 e7; obtain ⟨⟨c0, c1, c2⟩, ⟨d0, d1, d2, d3, d4, d5, d6, d7⟩, ⟨e0, e1, e2, e3, e4, e5, e6, e7⟩, ⟨f0, f1, f2, f3, f4, f5, f6, f7⟩⟩ := KA.out _ hbv))
        go_ret
        exact ⟨ret_int hf.symm, hbw.trans (hbv.mono hbw.size)⟩
      | true =>
      cases g1 : partsOK len [0, key, value, 0, ask, bit yes, 0, (sl : Int)] with
      | false =>
        have hf := MF.out 2 (rf_range hF (by rw [EM.out]; exact hK) (by rw [hRng.out, g0, g1]; simp))
        go_wp2_with (first
          | (go_at_call 38; refine (txn_any site num s _ ⟨s1, s4⟩).mono ?_; rintro e u ⟨rfl, hu⟩; replace hbv := hbv.trans (hu.mono hbv.size); clear hu c0 c1 c2 d0 d1 d2 d3 d4 d5 d6 d7 e0 e1 e2 e3 e4 e5 e6 e7; obtain ⟨⟨c0, c1, c2⟩, ⟨d0, d1, d2, d3, d4, d5, d6, d7⟩, ⟨e0, e1, e2, e3, e4, e5, e6, e7⟩, ⟨f0, f1, f2, f3, f4, f5, f6, f7⟩⟩ := KA.out _ hbv)
          | (go_at_call 39; refine (inBoundsW_any s p a len cap 0 key value 0 ask (bit yes) 0 (sl : Int) _ l6 (tV.below hbv (by omega)) (by have := hbv.size; omega)).mono ?_; rintro e u ⟨rfl, hu⟩; replace hbv := hbv.trans (hu.mono hbv.size); clear hu c0 c1 c2 d0 d1 d2 d3 d4 d5 d6 d7 e0 e1 e2 e3 e4 e5 e6 e7; obtain ⟨⟨c0, c1, c2⟩, ⟨d0, d1, d2, d3, d4, d5, d6, d7⟩, ⟨e0, e1, e2, e3, e4, e5, e6, e7⟩, ⟨f0, f1, f2, f3, f4, f5, f6, f7⟩⟩ := KA.out _ hbv)
          | (go_at_call 56; refine (rising_any s p a len cap sa sl sc sites _ ⟨s1, s4⟩ (iV.below hbv)).mono ?_; rintro e u ⟨rfl, hu⟩; replace hbv := hbv.trans (hu.mono hbv.size); clear hu c0 c1 c2 d0 d1 d2 d3 d4 d5 d6 d7 e0 e1 e2 e3 e4 e5 e6 e7; obtain ⟨⟨c0, c1, c2⟩, ⟨d0, d1, d2, d3, d4, d5, d6, d7⟩, ⟨e0, e1, e2, e3, e4, e5, e6, e7⟩, ⟨f0, f1, f2, f3, f4, f5, f6, f7⟩⟩ := KA.out _ hbv))
        go_ret
        exact ⟨ret_int hf.symm, hbw.trans (hbv.mono hbw.size)⟩
      | true =>
      cases g2 : rising s 0 sites with
      | false =>
        have hf := MF.out 2 (rf_range hF (by rw [EM.out]; exact hK) (by rw [hRng.out, g0, g1, g2]; simp))
        go_wp2_with (first
          | (go_at_call 38; refine (txn_any site num s _ ⟨s1, s4⟩).mono ?_; rintro e u ⟨rfl, hu⟩; replace hbv := hbv.trans (hu.mono hbv.size); clear hu c0 c1 c2 d0 d1 d2 d3 d4 d5 d6 d7 e0 e1 e2 e3 e4 e5 e6 e7; obtain ⟨⟨c0, c1, c2⟩, ⟨d0, d1, d2, d3, d4, d5, d6, d7⟩, ⟨e0, e1, e2, e3, e4, e5, e6, e7⟩, ⟨f0, f1, f2, f3, f4, f5, f6, f7⟩⟩ := KA.out _ hbv)
          | (go_at_call 39; refine (inBoundsW_any s p a len cap 0 key value 0 ask (bit yes) 0 (sl : Int) _ l6 (tV.below hbv (by omega)) (by have := hbv.size; omega)).mono ?_; rintro e u ⟨rfl, hu⟩; replace hbv := hbv.trans (hu.mono hbv.size); clear hu c0 c1 c2 d0 d1 d2 d3 d4 d5 d6 d7 e0 e1 e2 e3 e4 e5 e6 e7; obtain ⟨⟨c0, c1, c2⟩, ⟨d0, d1, d2, d3, d4, d5, d6, d7⟩, ⟨e0, e1, e2, e3, e4, e5, e6, e7⟩, ⟨f0, f1, f2, f3, f4, f5, f6, f7⟩⟩ := KA.out _ hbv)
          | (go_at_call 56; refine (rising_any s p a len cap sa sl sc sites _ ⟨s1, s4⟩ (iV.below hbv)).mono ?_; rintro e u ⟨rfl, hu⟩; replace hbv := hbv.trans (hu.mono hbv.size); clear hu c0 c1 c2 d0 d1 d2 d3 d4 d5 d6 d7 e0 e1 e2 e3 e4 e5 e6 e7; obtain ⟨⟨c0, c1, c2⟩, ⟨d0, d1, d2, d3, d4, d5, d6, d7⟩, ⟨e0, e1, e2, e3, e4, e5, e6, e7⟩, ⟨f0, f1, f2, f3, f4, f5, f6, f7⟩⟩ := KA.out _ hbv))
        go_ret
        exact ⟨ret_int hf.symm, hbw.trans (hbv.mono hbw.size)⟩
      | true =>
      go_upto_region 9 with (first
          | (go_at_call 38; refine (txn_any site num s _ ⟨s1, s4⟩).mono ?_; rintro e u ⟨rfl, hu⟩; replace hbv := hbv.trans (hu.mono hbv.size); clear hu c0 c1 c2 d0 d1 d2 d3 d4 d5 d6 d7 e0 e1 e2 e3 e4 e5 e6 e7; obtain ⟨⟨c0, c1, c2⟩, ⟨d0, d1, d2, d3, d4, d5, d6, d7⟩, ⟨e0, e1, e2, e3, e4, e5, e6, e7⟩, ⟨f0, f1, f2, f3, f4, f5, f6, f7⟩⟩ := KA.out _ hbv)
          | (go_at_call 39; refine (inBoundsW_any s p a len cap 0 key value 0 ask (bit yes) 0 (sl : Int) _ l6 (tV.below hbv (by omega)) (by have := hbv.size; omega)).mono ?_; rintro e u ⟨rfl, hu⟩; replace hbv := hbv.trans (hu.mono hbv.size); clear hu c0 c1 c2 d0 d1 d2 d3 d4 d5 d6 d7 e0 e1 e2 e3 e4 e5 e6 e7; obtain ⟨⟨c0, c1, c2⟩, ⟨d0, d1, d2, d3, d4, d5, d6, d7⟩, ⟨e0, e1, e2, e3, e4, e5, e6, e7⟩, ⟨f0, f1, f2, f3, f4, f5, f6, f7⟩⟩ := KA.out _ hbv)
          | (go_at_call 56; refine (rising_any s p a len cap sa sl sc sites _ ⟨s1, s4⟩ (iV.below hbv)).mono ?_; rintro e u ⟨rfl, hu⟩; replace hbv := hbv.trans (hu.mono hbv.size); clear hu c0 c1 c2 d0 d1 d2 d3 d4 d5 d6 d7 e0 e1 e2 e3 e4 e5 e6 e7; obtain ⟨⟨c0, c1, c2⟩, ⟨d0, d1, d2, d3, d4, d5, d6, d7⟩, ⟨e0, e1, e2, e3, e4, e5, e6, e7⟩, ⟨f0, f1, f2, f3, f4, f5, f6, f7⟩⟩ := KA.out _ hbv))
      have hbu : Below w.heap.size w u := hbw.trans (hbv.mono hbw.size)
      have cH := fun w' => hasAll_any h0 h1 h2 h3 h4 h5 h6 h7 0 key value 0 ask (bit yes) 0 (sl : Int) w'
      have hFrm : Hid (recForm M = hasAll [h0, h1, h2, h3, h4, h5, h6, h7] [0, key, value, 0, ask, bit yes, 0, (sl : Int)]) := by
        show recForm M = _
        rw [EM.out]
        unfold recForm rHasOf
        simp only [Int.toNat_natCast]
        rw [EH.out]
      have hKM : Hid (inR M.kind 1 6 = true) := by show inR M.kind 1 6 = true; rw [EM.out]; exact hK
      have hRM : Hid (recRange s ls.length M = true) := by show recRange s ls.length M = true; rw [hRng.out, g0, g1, g2]; rfl
      have Gd0 := fun d os => cell_regrown d0 d os
      have Ge0 := fun d os => cell_regrown e0 d os
      have Ge1 := fun d os => cell_regrown e1 d os
      have Ge2 := fun d os => cell_regrown e2 d os
      have Ge3 := fun d os => cell_regrown e3 d os
      have Ge4 := fun d os => cell_regrown e4 d os
      have Ge5 := fun d os => cell_regrown e5 d os
      have Ge6 := fun d os => cell_regrown e6 d os
      have Ge7 := fun d os => cell_regrown e7 d os
      have Gf0 := fun d os => cell_regrown f0 d os
      have Gf1 := fun d os => cell_regrown f1 d os
      have Gf2 := fun d os => cell_regrown f2 d os
      have Gf3 := fun d os => cell_regrown f3 d os
      have Gf4 := fun d os => cell_regrown f4 d os
      have Gf5 := fun d os => cell_regrown f5 d os
      have Gf6 := fun d os => cell_regrown f6 d os
      have Gf7 := fun d os => cell_regrown f7 d os
      cases hH : hasAll [h0, h1, h2, h3, h4, h5, h6, h7] [0, key, value, 0, ask, bit yes, 0, (sl : Int)] with
      | false =>
        have hf := MF.out 4 (rf_form hF hKM.out hRM.out (by rw [hFrm.out, hH]))
        rw [hH] at cH
        clear hH
        refine wp_region_quiet_below (by kernel_rfl) (by kernel_rfl) ?_
        repeat (go_big_quiet_step (exact Calls.regrown_of (cH _)))
        refine wpQuiet_nil ?_
        intro _ hw'
        obtain ⟨⟨dq, osq⟩, hw''⟩ := hw'
        subst hw''
        have hBr := below_regrown u dq osq
        go_wp2
        go_ret
        exact ⟨ret_int hf.symm, hbu.trans (hBr.mono hbu.size)⟩
      | true =>
        have hf := MF.out 0 (rf_ok hF hKM.out hRM.out (by rw [hFrm.out, hH]))
        rw [hH] at cH
        clear hH
        refine wp_region_quiet_below (by kernel_rfl) (by kernel_rfl) ?_
        repeat (go_big_quiet_step (exact Calls.regrown_of (cH _)))
        refine wpQuiet_nil ?_
        intro _ hw'
        obtain ⟨⟨dq, osq⟩, hw''⟩ := hw'
        subst hw''
        have hBr := below_regrown u dq osq
        go_wp2
        go_ret
        exact ⟨ret_int hf.symm, hbu.trans (hBr.mono hbu.size)⟩
  · have hf := MF.out _ (rf_cfg hF)
    go_wp2_with (go_at_call 28; refine (check_any s p a len cap ls _ hLW).mono ?_; rintro e w1 ⟨rfl, hb1⟩)
    go_ret
    exact ⟨ret_int hf.symm, hB.trans (hb1.mono hB.size)⟩
end Go.Proofs.YtfloplkepmpaiaaDoor
/- The contract of wire.EncodeRecord: a record that may be as its bytes, in new memory; else the fault that recFault tells. -/
namespace Go.Proofs.YtfloplkepmpaiaaDoor
open Go.ChangeShapes Go.WideShapes Go.ChangeAt Go.RowKit
set_option linter.unusedVariables false

def RcV.parts (r : RcV) : List Int := [0, r.key, r.value, 0, r.ask, bit r.yes, 0, (r.sl : Int)]
def recBytes (r : RcV) : List Int := ([r.kind] ++ (r.site :: be r.num 3)) ++ encParts (rHasOf r.kind) widL r.parts ++ r.sites

theorem may_rec {s : Int} {ls : List (Int × Int)} {p : Int} {m : RcV} (h : recFault s ls p m = 0) : cfgFault s ls p = 0 ∧ inR m.kind 1 6 = true ∧ recRange s ls.length m = true ∧ recForm m = true := by
  unfold recFault at h
  split at h
  · omega
  split at h
  · omega
  split at h
  · omega
  split at h
  · omega
  simp_all

theorem rising_mem {s : Int} : ∀ (l : List Int) (lo : Int), rising s lo l = true → 0 ≤ lo → ∀ x ∈ l, lo ≤ x ∧ x ≤ s - 1 := by
  intro l
  induction l with
  | nil => intro lo _ _ x hx; simp at hx
  | cons a l ih =>
    intro lo h h0 x hx
    simp only [rising, Bool.and_eq_true] at h
    have ha := inR_of h.1
    rcases List.mem_cons.1 hx with rfl | hx
    · exact ha
    · have := ih (a + 1) h.2 (by omega) x hx
      omega

theorem rHas_8 (k : Nat) (hk : k < 7) : rHas.getD k [] = [(rHas.getD k []).getD 0 false, (rHas.getD k []).getD 1 false, (rHas.getD k []).getD 2 false, (rHas.getD k []).getD 3 false, (rHas.getD k []).getD 4 false, (rHas.getD k []).getD 5 false, (rHas.getD k []).getD 6 false, (rHas.getD k []).getD 7 false] := by
  rcases (by omega : k = 0 ∨ k = 1 ∨ k = 2 ∨ k = 3 ∨ k = 4 ∨ k = 5 ∨ k = 6) with rfl | rfl | rfl | rfl | rfl | rfl | rfl <;> rfl

def widthL : List Nat → Nat
  | [] => 0
  | k :: ks => k + widthL ks

theorem encParts_len : ∀ (hs : List Bool) (ws : List Nat) (ps : List Int), (encParts hs ws ps).length ≤ widthL ws := by
  intro hs
  induction hs with
  | nil => intro ws ps; simp [encParts]
  | cons h hs ih =>
    intro ws ps
    cases ws with
    | nil => simp [encParts]
    | cons k ws =>
      cases ps with
      | nil => simp [encParts]
      | cons q ps =>
        have := ih ws ps
        simp only [encParts, widthL, List.length_append]
        cases h <;> simp [be_len] <;> omega

set_option maxRecDepth 100000 in
set_option maxHeartbeats 4000000 in
theorem encodeRecord_any (s p : Int) (a : Option Addr) (len cap : Nat) (ls : List (Int × Int)) (r : RcV) (w : World) (h : IsLabs w a len cap ls) (hi : IsInts w r.sa r.sl r.sc r.sites) (hm : HasAt w 2 rHas) (ht : TopsAt w) (hwd : WidsAt w) :
    Calls Tryd.prog 33 #[.agg #[.int .i64 s, .slice a len cap, .int .i64 p], r.val] w fun e w' => BytesAns w w' e (if recFault s ls p r = 0 then recBytes r else []) (recFault s ls p r) := by
  have hgT : 3 < w.heap.size := World.block_lt_of_cell? w _ ht.1
  have hgM : 2 < w.heap.size := hm.lt (by decide)
  have hgW : 1 < w.heap.size := hwd.lt
  have hmx : r.sl ≤ maxLen := Nat.le_trans hi.2.1 hi.2.2.1
  have hPs := fun w' => recordParts_any r w' hmx
  have hCk := fun w' h1 h2 h3 h4 => checkRecord_any s p a len cap ls r w' h1 h2 h3 h4
  have hMay := @may_rec s ls p r
  have EB : Hid (∀ (hs : List Bool), rHasOf r.kind = hs → recBytes r = ([r.kind] ++ (r.site :: be r.num 3)) ++ encParts hs widL [0, r.key, r.value, 0, r.ask, bit r.yes, 0, (r.sl : Int)] ++ r.sites) := by
    show ∀ (hs : List Bool), rHasOf r.kind = hs → recBytes r = _
    intro hs e
    rw [← e]
    rfl
  obtain ⟨kind, site, num, key, value, ask, yes, sa, sl, sc, sites⟩ := r
  simp only [RcV.val] at hPs hCk hMay EB hi hmx ⊢
  obtain ⟨FV, eFV⟩ : ∃ FV, FV = recFault s ls p ⟨kind, site, num, key, value, ask, yes, sa, sl, sc, sites⟩ := ⟨_, rfl⟩
  obtain ⟨MB, eMB⟩ : ∃ MB, MB = recBytes ⟨kind, site, num, key, value, ask, yes, sa, sl, sc, sites⟩ := ⟨_, rfl⟩
  rw [← eFV] at hCk hMay ⊢
  rw [← eMB] at EB ⊢
  clear eFV eMB
  obtain ⟨W, hW⟩ : ∃ W : World, W = (w.alloc (.cells #[.int .i64 s, .slice a len cap, .int .i64 p] 27)).alloc (.cells #[.int .i64 kind, .int .i64 site, .int .i64 num, .int .i64 key, .int .i64 value, .int .i64 ask, .bool yes, .slice sa sl sc] 53) := ⟨_, rfl⟩
  have hB : Below w.heap.size w W := by rw [hW]; exact ((Below.refl _ _).alloc (Nat.le_refl _) _).alloc (by simp) _
  have zW : W.heap.size = w.heap.size + 2 := by rw [hW]; simp
  have c0 : W.cell? ⟨w.heap.size, 0, none⟩ = some (.int .i64 s) := by rw [hW]; go_simp
  have c1 : W.cell? ⟨w.heap.size, 1, none⟩ = some (.slice a len cap) := by rw [hW]; go_simp
  have c2 : W.cell? ⟨w.heap.size, 2, none⟩ = some (.int .i64 p) := by rw [hW]; go_simp
  have d0 : W.cell? ⟨w.heap.size + 1, 0, none⟩ = some (.int .i64 kind) := by rw [hW]; go_simp
  have d1 : W.cell? ⟨w.heap.size + 1, 1, none⟩ = some (.int .i64 site) := by rw [hW]; go_simp
  have d2 : W.cell? ⟨w.heap.size + 1, 2, none⟩ = some (.int .i64 num) := by rw [hW]; go_simp
  have d3 : W.cell? ⟨w.heap.size + 1, 3, none⟩ = some (.int .i64 key) := by rw [hW]; go_simp
  have d4 : W.cell? ⟨w.heap.size + 1, 4, none⟩ = some (.int .i64 value) := by rw [hW]; go_simp
  have d5 : W.cell? ⟨w.heap.size + 1, 5, none⟩ = some (.int .i64 ask) := by rw [hW]; go_simp
  have d6 : W.cell? ⟨w.heap.size + 1, 6, none⟩ = some (.bool yes) := by rw [hW]; go_simp
  have d7 : W.cell? ⟨w.heap.size + 1, 7, none⟩ = some (.slice sa sl sc) := by rw [hW]; go_simp
  have hLW := h.below hB
  have hIW := hi.below hB
  have tW : TopsAt W := ht.below hB (by omega)
  have mW : HasAt W 2 rHas := hm.below hB (by omega)
  have wW : WidsAt W := hwd.below hB (by omega)
  have z1 : w.heap.size + 1 < W.heap.size := by omega
  have z0 : w.heap.size < W.heap.size := by omega
  have zM : 2 < W.heap.size := by omega
  go_enter Tryd.func33, Tryd.ntmps33
  go_upto_region 1 with (fail)
  rw [← hW]
  clear hW
  go_upto_region 2 with (go_at_call 50; refine (hCk _ hLW hIW mW tW).mono ?_; rintro e w1 ⟨rfl, hb1⟩)
  obtain ⟨hc, hf⟩ := bcell hb1
  by_cases hF : FV = 0
  · have hF0 := hF
    subst hF
    obtain ⟨hcf, hk, hr, hform⟩ := hMay rfl
    clear hMay
    obtain ⟨s1, s4, n1, n6, _, _, _⟩ := cfg_zero hcf
    have kb := inR_of hk
    have hr' := hr
    simp only [recRange, txnOK, partsOK, inTops, topL, Bool.and_eq_true] at hr'
    have b3 := inR_of hr'.1.1.1
    have bl := inR_of hr'.1.2.1.1.2.2.2.2.2.2.2.1
    have hmem : ∀ x ∈ sites, 0 ≤ x ∧ x < 256 := fun x hx => by have := rising_mem sites 0 hr'.2 (by omega) x hx; omega
    clear hr hr' hform hcf hk
    obtain ⟨k, rfl⟩ : ∃ k : Nat, kind = k := ⟨kind.toNat, by omega⟩
    have k7 : k < 7 := by omega
    have k7' : (k : Int) < 7 := by omega
    have u1 := u8_id (n := (k : Int)) (by omega) (by omega)
    obtain ⟨V, hV⟩ : ∃ V : World, V = w1.alloc (.cells #[.int .u8 (k : Int)] 5) := ⟨_, rfl⟩
    have oV : V.ownsRow W.heap.size 5 1 (.slice (some ⟨w1.heap.size, 0, none⟩) 1 1) 1 (bytesV [(k : Int)]) := by rw [hV]; exact own_lit1 _ hb1.size
    have hWV : Below W.heap.size W V := by rw [hV]; exact hb1.alloc hb1.size _
    rw [hV] at oV hWV
    clear hV V
    have y1 : w.heap.size + 1 < w1.heap.size := by have := hb1.size; omega
    have y0 : w.heap.size < w1.heap.size := by have := hb1.size; omega
    have hst : 0 ≤ site ∧ site < 256 := by omega
    go_upto_region 4 with (fail)
    go_upto_region 5 with (go_at_call 24; refine (appendTxn_any W.heap.size _ 1 1 [(k : Int)] site num _ hst (by omega) hWV.size oV).mono ?_; rintro e w2 ⟨a2, v2, rfl, own2, gr2, by2⟩)
    have hW2 : Below W.heap.size W w2 := hWV.grown gr2 hWV.size (fun q hq => (oV.lt q hq).1)
    clear hc hf
    have EH : Hid (rHas.getD k [] = [(rHas.getD k []).getD 0 false, (rHas.getD k []).getD 1 false, (rHas.getD k []).getD 2 false, (rHas.getD k []).getD 3 false, (rHas.getD k []).getD 4 false, (rHas.getD k []).getD 5 false, (rHas.getD k []).getD 6 false, (rHas.getD k []).getD 7 false]) := rHas_8 k k7
    have f0 := mW k 0 k7 (by decide)
    have f1 := mW k 1 k7 (by decide)
    have f2 := mW k 2 k7 (by decide)
    have f3 := mW k 3 k7 (by decide)
    have f4 := mW k 4 k7 (by decide)
    have f5 := mW k 5 k7 (by decide)
    have f6 := mW k 6 k7 (by decide)
    have f7 := mW k 7 k7 (by decide)
    obtain ⟨h0, eh0⟩ : ∃ x, x = (rHas.getD k []).getD 0 false := ⟨_, rfl⟩
    obtain ⟨h1, eh1⟩ : ∃ x, x = (rHas.getD k []).getD 1 false := ⟨_, rfl⟩
    obtain ⟨h2, eh2⟩ : ∃ x, x = (rHas.getD k []).getD 2 false := ⟨_, rfl⟩
    obtain ⟨h3, eh3⟩ : ∃ x, x = (rHas.getD k []).getD 3 false := ⟨_, rfl⟩
    obtain ⟨h4, eh4⟩ : ∃ x, x = (rHas.getD k []).getD 4 false := ⟨_, rfl⟩
    obtain ⟨h5, eh5⟩ : ∃ x, x = (rHas.getD k []).getD 5 false := ⟨_, rfl⟩
    obtain ⟨h6, eh6⟩ : ∃ x, x = (rHas.getD k []).getD 6 false := ⟨_, rfl⟩
    obtain ⟨h7, eh7⟩ : ∃ x, x = (rHas.getD k []).getD 7 false := ⟨_, rfl⟩
    rw [← eh0, ← eh1, ← eh2, ← eh3, ← eh4, ← eh5, ← eh6, ← eh7] at EH
    rw [← eh0] at f0
    rw [← eh1] at f1
    rw [← eh2] at f2
    rw [← eh3] at f3
    rw [← eh4] at f4
    rw [← eh5] at f5
    rw [← eh6] at f6
    rw [← eh7] at f7
    clear eh0 eh1 eh2 eh3 eh4 eh5 eh6 eh7
    simp only [Nat.add_zero] at f0
    obtain ⟨hb0, ehb0⟩ : ∃ hb0, hb0 = ([(k : Int)] ++ (site :: be num 3)) ++ encParts [h0, h1, h2, h3, h4, h5, h6, h7] widL [0, key, value, 0, ask, bit yes, 0, (sl : Int)] := ⟨_, rfl⟩
    have EB2 : Hid (MB = hb0 ++ sites) := by rw [ehb0]; exact EB.out _ (by simpa [rHasOf] using EH.out)
    have E0 : Hid (hb0 = ([(k : Int)] ++ (site :: be num 3)) ++ encParts [h0, h1, h2, h3, h4, h5, h6, h7] widL [0, key, value, 0, ask, bit yes, 0, (sl : Int)]) := ehb0
    have hb0len : hb0.length ≤ 20 := by
      rw [ehb0]
      have := encParts_len [h0, h1, h2, h3, h4, h5, h6, h7] widL [0, key, value, 0, ask, bit yes, 0, (sl : Int)]
      rw [show widthL widL = 15 from rfl] at this
      simp [be_len]
      omega
    have hbyt0 : Byt hb0 := by
      rw [ehb0]
      refine Byt.app (Byt.app ?_ ?_) (encParts_byt _ _ _)
      · intro x hx; simp at hx; omega
      · intro x hx
        rcases List.mem_cons.1 hx with rfl | hx
        · omega
        · exact be_byt _ _ x hx
    clear EB EH ehb0
    have hD : Below w2.heap.size w2 w2.drew := (Below.refl _ _).drew
    have hWD : Below W.heap.size W w2.drew := hW2.trans (hD.mono hW2.size)
    have oD := own_bel own2 hD
    have KC : Hid (∀ V : World, Below W.heap.size W V → ∀ b o, b < W.heap.size → V.cell? ⟨b, o, none⟩ = W.cell? ⟨b, o, none⟩) := fun V hV b o hb => hV.cell (p := ⟨b, o, none⟩) hb
    have hc := KC.out _ hW2
    obtain ⟨hlen, hcap, hmax, hbd, hmemI⟩ := hIW
    have HL : Hid (sites.length = sl) := hlen
    clear hlen
    have sl4 : sl ≤ 4 := by omega
    have HZ : Hid (W.heap.size = w.heap.size + 2) := zW
    clear zW
    go_cut [7] (fun s7 wc => ∃ a4 v4, s7 = .slice a4 hb0.length v4 ∧ wc.ownsRow W.heap.size 5 1 (.slice a4 hb0.length v4) hb0.length (bytesV hb0) ∧ Below W.heap.size W wc)
    case first =>
      go_region_held3 (fun V => ∀ b o, b < W.heap.size → V.cell? ⟨b, o, none⟩ = W.cell? ⟨b, o, none⟩)
        (first | exact KC.out _ hW2 | exact KC.out _ hWD | exact KC.out _ hW3 | exact KC.out _ hW4)
        (first
          | ((go_at_call 51; refine (hPs _).mono ?_; rintro e w3 ⟨rfl, hb3⟩; have hW3 : Below W.heap.size W w3 := hWD.trans (hb3.mono hWD.size); have o3 := own_bel oD hb3; have wd3 := wW.below hW3 (by omega)))
          | ((go_at_call 25; refine (appendParts_any W.heap.size a2 v2 5 _ h0 h1 h2 h3 h4 h5 h6 h7 0 key value 0 ask (bit yes) 0 (sl : Int) _ wd3 (by omega) hW3.size (by omega) o3).mono ?_; rintro e w4 ⟨a4, v4, cs, rfl, own4, ecs0, gr4, by4⟩; have ecs : Hid (cs = _) := ecs0; clear ecs0; have hW4 : Below W.heap.size W w4 := hW3.grown gr4 hW3.size (fun q hq => (o3.lt q hq).1))))
      all_goals
        have hcs : cs = hb0 := by rw [ecs.out, E0.out]
        clear ecs
        subst hcs
        go_wp2_with fail
        go_meet
        case rel => exact ⟨a4, v4, rfl, own4, hW4⟩
    case rest =>
      have zW := HZ.out
      obtain ⟨a4, v4, rfl, own4, hW4⟩ := hcut
      have hc4 := KC.out _ hW4
      clear hc
      go_wp2
      go_loopw [7, 34] (fun s7 s34 wr => ∃ (j : Nat) (a5 : Option Addr) (v5 : Nat) (cs : List Int), j ≤ sl ∧ s34 = .int .i64 j ∧ s7 = .slice a5 cs.length v5 ∧ wr.ownsRow W.heap.size 5 1 (.slice a5 cs.length v5) cs.length (bytesV cs) ∧ Hid (cs = hb0 ++ sites.take j) ∧ cs.length ≤ 20 + j ∧ Below W.heap.size W wr) (fun _ i _ => sl - (intOf i).toNat)
      case atStart => exact ⟨0, a4, v4, hb0, by omega, rfl, rfl, own4, by show hb0 = _; simp, by omega, hW4⟩
      case round =>
        obtain ⟨j, a5, v5, cs, hj, rfl, rfl, own5, hcs, hcl, hW5⟩ := hrel
        have hc5 := KC.out _ hW5
        by_cases hjl : j < sl
        · obtain ⟨b, off, rfl, hbl, hcell⟩ := hmemI (by omega)
          have hr := hcell j hjl
          rw [← hW5.cell (p := ⟨b, off + j, none⟩) hbl] at hr
          have hjs : j < sites.length := by have := HL.out; omega
          have hx := hmem sites[j] (List.getElem_mem hjs)
          have hget : sites.getD j 0 = sites[j] := by simp [List.getD, hjs]
          rw [← hget] at hx
          have hcs' : Hid (cs ++ [sites.getD j 0] = hb0 ++ sites.take (j + 1)) := by
            show cs ++ [sites.getD j 0] = _
            rw [hcs.out, List.append_assoc, List.take_succ_eq_append_getElem hjs, hget]
          obtain ⟨x, ex⟩ : ∃ x, x = sites.getD j 0 := ⟨_, rfl⟩
          rw [← ex] at hr hx hcs'
          clear ex hget
          obtain ⟨x0, x1⟩ := hx
          have u5 := u8_id x0 x1
          have hjl' : (j : Int) < (sl : Int) := by omega
          have hone := isB_one wr x x0 x1
          clear hcs
          go_wp2_with (at_builtin; go_loud (refine wpList_append_bytes (by rfl) _ _ (by rfl) W.heap.size _ cs.length cs (by rfl) (own5.alloc _) (some ⟨wr.heap.size, 0, none⟩) 1 1 [x] (by rfl) hone (by omega) (by have := hW5.size; simp; omega) ?_))
          intro v' w6 own6 gr6 at6
          obtain ⟨a6, c6, rfl⟩ := own_slice own6
          have hW6 : Below W.heap.size W w6 := (hW5.alloc hW5.size _).grown gr6 (by have := hW5.size; simp; omega) (fun q hq => (own5.lt q hq).1)
          have hl6 : (cs ++ [x]).length = cs.length + 1 := by simp
          clear gr6 at6
          go_wp2
          go_roundw
          case rel => exact ⟨j + 1, a6, c6, cs ++ [x], by omega, by go_num, by rw [hl6], by rw [hl6]; first | exact own6 | (rw [zW]; exact own6), hcs', by rw [hl6]; omega, hW6⟩
          case measure => simp [intOf]; omega
        · have hje : j = sl := by omega
          subst hje
          have hfin : Hid (MB = cs) := by
            show MB = cs
            have e : sites.take j = sites := List.take_of_length_le (by have := HL.out; omega)
            rw [EB2.out, hcs.out, e]
          have hbyt : Byt cs := by
            rw [← hfin.out, EB2.out]
            exact Byt.app hbyt0 hmem
          obtain ⟨hI, hge⟩ := isB_slice own5 hbyt
          have hwW5 := hB.trans (hW5.mono hB.size)
          go_wp2
          go_ret2
          refine ⟨a5, cs.length, v5, rfl, ?_, fun b off e => by have := hge b off e; omega, hwW5⟩
          first | (simpa [hfin.out] using hI) | (rw [if_pos rfl, hfin.out]; exact hI)
  · go_wp2
    go_ret2
    (try rw [if_neg hF])
    exact ⟨none, 0, 0, rfl, isB_nil _, fun b off e => by simp at e, hB.trans (hb1.mono hB.size)⟩
end Go.Proofs.YtfloplkepmpaiaaDoor
/- The contract of tape.Append. -/
namespace Go.Proofs.YtfloplkepmpaiaaDoor
open Go.ChangeShapes Go.WideShapes Go.ChangeAt Go.RowKit
set_option linter.unusedVariables false

theorem recBytes_bd {s : Int} {ls : List (Int × Int)} {p : Int} {r : RcV} (h : recFault s ls p r = 0) (hl : r.sites.length = r.sl) : 5 ≤ (recBytes r).length ∧ (recBytes r).length ≤ 24 := by
  obtain ⟨_, _, hr, _⟩ := may_rec h
  simp only [recRange, partsOK, inTops, topL, Bool.and_eq_true] at hr
  have bl := inR_of hr.1.2.1.1.2.2.2.2.2.2.2.1
  have := encParts_len (rHasOf r.kind) widL r.parts
  rw [show widthL widL = 15 from rfl] at this
  simp [recBytes, be_len]
  omega

/-- What Append answers. -/
def apErr (tl : Nat) (y : Int) (f : Int) (rb : List Int) : Int := if mayT tl y then (if f ≠ 0 then f else if 6000 < tl + 1 + rb.length then 8 else 0) else 9
def apBs (tbs : List Int) (e : Int) (rb : List Int) : List Int := if e = 0 then tbs ++ ((rb.length : Int) :: rb) else []
def apY (y e : Int) : Int := if e = 0 then y else 0

set_option maxRecDepth 100000 in
set_option maxHeartbeats 4000000 in
theorem append_any (s p : Int) (a : Option Addr) (len cap : Nat) (ls : List (Int × Int)) (ta : Option Addr) (tl tc : Nat) (tbs : List Int) (y : Int) (r : RcV) (w : World) (h : IsLabs w a len cap ls) (hT : IsB w ta tl tc tbs) (hi : IsInts w r.sa r.sl r.sc r.sites) (hm : HasAt w 2 rHas) (ht : TopsAt w) (hwd : WidsAt w) :
    Calls Tryd.prog 16 #[.agg #[.int .i64 s, .slice a len cap, .int .i64 p], .agg #[.slice ta tl tc, .int .i64 y], r.val] w fun e w' => TapeAns w w' e (apBs tbs (apErr tl y (recFault s ls p r) (recBytes r)) (recBytes r)) (apY y (apErr tl y (recFault s ls p r) (recBytes r))) (apErr tl y (recFault s ls p r) (recBytes r)) := by
  have hgT : 3 < w.heap.size := World.block_lt_of_cell? w _ ht.1
  have hgM : 2 < w.heap.size := hm.lt (by decide)
  have hgW : 1 < w.heap.size := hwd.lt
  obtain ⟨i0, hin, li0, li1, li2⟩ := info_parts byteInfo
  have hl : tl ≤ 9223372036854775807 := by have := hT.2.1; have := hT.2.2.1; unfold maxLen at this; omega
  have hMb := fun w' => mayBe_any ta tl tc y w' hl
  have hEn := fun w' h1 h2 h3 h4 h5 => encodeRecord_any s p a len cap ls r w' h1 h2 h3 h4 h5
  have hBd := @recBytes_bd s ls p r
  have hil := hi.1
  obtain ⟨FV, eFV⟩ : ∃ x, x = recFault s ls p r := ⟨_, rfl⟩
  obtain ⟨rb, erb⟩ : ∃ x, x = recBytes r := ⟨_, rfl⟩
  rw [← eFV, ← erb] at hEn hBd ⊢
  clear eFV erb
  obtain ⟨kind, site, num, key, value, ask, yes, sa, sl, sc, sites⟩ := r
  simp only [RcV.val] at hEn hi hil hBd ⊢
  obtain ⟨W, hW⟩ : ∃ W : World, W = (((w.alloc (.cells #[.int .i64 s, .slice a len cap, .int .i64 p] 27)).alloc (.cells #[.slice ta tl tc, .int .i64 y] 46)).alloc (.cells #[.int .i64 kind, .int .i64 site, .int .i64 num, .int .i64 key, .int .i64 value, .int .i64 ask, .bool yes, .slice sa sl sc] 53)).alloc (.cells #[.slice none 0 0, .int .i64 0] 46) := ⟨_, rfl⟩
  have hB : Below w.heap.size w W := by rw [hW]; exact ((((Below.refl _ _).alloc (Nat.le_refl _) _).alloc (by simp) _).alloc (by simp; omega) _).alloc (by simp; omega) _
  have zW : w.heap.size + 3 < W.heap.size := by rw [hW]; simp
  have c0 : W.cell? ⟨w.heap.size, 0, none⟩ = some (.int .i64 s) := by rw [hW]; go_simp
  have c1 : W.cell? ⟨w.heap.size, 1, none⟩ = some (.slice a len cap) := by rw [hW]; go_simp
  have c2 : W.cell? ⟨w.heap.size, 2, none⟩ = some (.int .i64 p) := by rw [hW]; go_simp
  have t0 : W.cell? ⟨w.heap.size + 1, 0, none⟩ = some (.slice ta tl tc) := by rw [hW]; go_simp
  have t1 : W.cell? ⟨w.heap.size + 1, 1, none⟩ = some (.int .i64 y) := by rw [hW]; go_simp
  have d0 : W.cell? ⟨w.heap.size + 2, 0, none⟩ = some (.int .i64 kind) := by rw [hW]; go_simp
  have d1 : W.cell? ⟨w.heap.size + 2, 1, none⟩ = some (.int .i64 site) := by rw [hW]; go_simp
  have d2 : W.cell? ⟨w.heap.size + 2, 2, none⟩ = some (.int .i64 num) := by rw [hW]; go_simp
  have d3 : W.cell? ⟨w.heap.size + 2, 3, none⟩ = some (.int .i64 key) := by rw [hW]; go_simp
  have d4 : W.cell? ⟨w.heap.size + 2, 4, none⟩ = some (.int .i64 value) := by rw [hW]; go_simp
  have d5 : W.cell? ⟨w.heap.size + 2, 5, none⟩ = some (.int .i64 ask) := by rw [hW]; go_simp
  have d6 : W.cell? ⟨w.heap.size + 2, 6, none⟩ = some (.bool yes) := by rw [hW]; go_simp
  have d7 : W.cell? ⟨w.heap.size + 2, 7, none⟩ = some (.slice sa sl sc) := by rw [hW]; go_simp
  have rbW : BoxN W (w.heap.size + 3) 2 [.slice none 0 0, .int .i64 0] := by
    have := boxn_new (((w.alloc (.cells #[.int .i64 s, .slice a len cap, .int .i64 p] 27)).alloc (.cells #[.slice ta tl tc, .int .i64 y] 46)).alloc (.cells #[.int .i64 kind, .int .i64 site, .int .i64 num, .int .i64 key, .int .i64 value, .int .i64 ask, .bool yes, .slice sa sl sc] 53)) #[.slice none 0 0, .int .i64 0] 46 2 rfl
    rw [hW]
    simpa using this
  have KC : Hid (∀ V : World, Below W.heap.size W V → ∀ b o, b < W.heap.size → V.cell? ⟨b, o, none⟩ = W.cell? ⟨b, o, none⟩) := fun V hV b o hb => hV.cell (p := ⟨b, o, none⟩) hb
  have KR : Hid (∀ V : World, Below W.heap.size W V → V.cell? ⟨w.heap.size + 3, 0, none⟩ = some (.slice none 0 0) ∧ V.cell? ⟨w.heap.size + 3, 1, none⟩ = some (.int .i64 0) ∧ V.frozen? ⟨w.heap.size + 3, 0, none⟩ = false ∧ V.frozen? ⟨w.heap.size + 3, 1, none⟩ = false) := by
    intro V hV
    have hb := rbW.below hV (by omega)
    exact ⟨(hb.c 0 (by omega)).1, (hb.c 1 (by omega)).1, (hb.c 0 (by omega)).2, (hb.c 1 (by omega)).2⟩
  have z0 : w.heap.size < W.heap.size := by omega
  have z1 : w.heap.size + 1 < W.heap.size := by omega
  have z2 : w.heap.size + 2 < W.heap.size := by omega
  obtain ⟨AE, eAE⟩ : ∃ x, x = apErr tl y FV rb := ⟨_, rfl⟩
  obtain ⟨AB, eAB⟩ : ∃ x, x = apBs tbs AE rb := ⟨_, rfl⟩
  obtain ⟨AY, eAY⟩ : ∃ x, x = apY y AE := ⟨_, rfl⟩
  rw [← eAE, ← eAB, ← eAY]
  have EA : Hid (AE = apErr tl y FV rb) := eAE
  have EB : Hid (AB = apBs tbs AE rb) := eAB
  have EY : Hid (AY = apY y AE) := eAY
  clear eAE eAB eAY
  go_enter Tryd.func16, Tryd.ntmps16
  go_upto_region 1 with (fail)
  rw [← hW]
  clear hW rbW
  cases hmay : mayT tl y with
  | false =>
    have e0 : apErr tl y FV rb = 9 := by unfold apErr; rw [hmay]; simp
    have fE : AE = 9 := EA.out.trans e0
    have fB : Hid (AB = []) := by show AB = []; rw [EB.out, fE]; rfl
    have fY : Hid (AY = 0) := by show AY = 0; rw [EY.out, fE]; rfl
    have fH : Hid (AE = 9) := fE
    clear e0 fE
    go_upto_region 2 with (go_at_call 31; refine (hMb _).mono ?_; rintro e w1 ⟨rfl, hb1⟩; rw [hmay])
    obtain ⟨r0, r1, f0, f1⟩ := KR.out _ hb1
    have hw1 := hB.trans (hb1.mono hB.size)
    go_wp2
    refine bodyPost_ret (v := .tuple #[.agg #[.slice none 0 0, .int .i64 0], .int .i64 9]) (by simp [results, Tryd.results16, go_sem, r0, r1]) rfl ⟨none, 0, 0, by rw [fH.out, fY.out], by rw [fB.out]; exact isB_nil _, fun b off e => by simp at e, ?_⟩
    exact (hw1.setCell (by show w.heap.size ≤ w.heap.size + 3; omega) _).setCell (by show w.heap.size ≤ w.heap.size + 3; omega) _
  | true =>
    have hm6 := mayT_of hmay
    go_upto_region 3 with (go_at_call 31; refine (hMb _).mono ?_; rintro e w1 ⟨rfl, hb1⟩; rw [hmay])
    have hc1 := KC.out _ hb1
    have hw1 := hB.trans (hb1.mono hB.size)
    go_upto_region 4 with (go_at_call 33; refine (hEn _ (h.below hw1) (hi.below hw1) (hm.below hw1 hgM) (ht.below hw1 hgT) (hwd.below hw1 hgW)).mono ?_; rintro e w2 ⟨a2, l2, q2, rfl, hI2, hge2, hb2⟩)
    have hW2 : Below W.heap.size W w2 := hb1.trans (hb2.mono hb1.size)
    have hw2 := hB.trans (hW2.mono hB.size)
    have hc2 := KC.out _ hW2
    clear hc1
    by_cases hF : FV = 0
    · subst hF
      simp only [if_true] at hI2
      obtain ⟨b5, b24⟩ := hBd rfl hil
      have l2e : l2 = rb.length := hI2.1.symm
      have hl2 : 5 ≤ l2 ∧ l2 ≤ 24 := by omega
      by_cases hfull : 6000 < tl + 1 + rb.length
      · have e0 : apErr tl y 0 rb = 8 := by unfold apErr; rw [hmay]; simp [hfull]
        have fE : AE = 8 := EA.out.trans e0
        have fB : Hid (AB = []) := by show AB = []; rw [EB.out, fE]; rfl
        have fY : Hid (AY = 0) := by show AY = 0; rw [EY.out, fE]; rfl
        have fH : Hid (AE = 8) := fE
        clear e0 fE
        have hf' : (6000 : Int) < (tl : Int) + 1 + (l2 : Int) := by omega
        clear l2e
        go_upto_region 8 with (fail)
        obtain ⟨r0, r1, f0, f1⟩ := KR.out _ hW2
        clear hc2
        go_wp2
        refine bodyPost_ret (v := .tuple #[.agg #[.slice none 0 0, .int .i64 0], .int .i64 8]) (by simp [results, Tryd.results16, go_sem, r0, r1]) rfl ⟨none, 0, 0, by rw [fH.out, fY.out], by rw [fB.out]; exact isB_nil _, fun b off e => by simp at e, ?_⟩
        exact (hw2.setCell (by show w.heap.size ≤ w.heap.size + 3; omega) _).setCell (by show w.heap.size ≤ w.heap.size + 3; omega) _
      · have e0 : apErr tl y 0 rb = 0 := by unfold apErr; rw [hmay]; simp [hfull]
        have fE : AE = 0 := EA.out.trans e0
        have fB : Hid (AB = tbs ++ ((rb.length : Int) :: rb)) := by show AB = _; rw [EB.out, fE]; rfl
        have fY : Hid (AY = y) := by show AY = y; rw [EY.out, fE]; rfl
        have fH : Hid (AE = 0) := fE
        clear e0 fE
        have hf' : ¬ (6000 : Int) < (tl : Int) + 1 + (l2 : Int) := by omega
        have hl6 : (tl : Int) ≤ 6000 := by omega
        have HL2 : Hid (l2 = rb.length) := l2e
        have hl24 : (l2 : Int) ≤ 24 := by omega
        have hu8 := u8_id (n := (l2 : Int)) (by omega) (by omega)
        clear l2e b5 b24
        have hT2 := hT.below hw2
        have htc : tl ≤ tc := hT.2.1
        have htc' : (tl : Int) ≤ (tc : Int) := by omega
        go_upto_region 9 with (fail)
        have hone := isB_one w2 (l2 : Int) (by omega) (by omega)
        go_upto_region 10 with (at_builtin; go_loud (refine wpList_append_grows _ (by rfl) (.tmp 40) (.tmp 44) 29 (by rfl) 5 i0 (.int .u8 0) 1 1 Tryd.underlying29 hin li0 li1 li2 rfl (by decide) ta tl tl (bytesV tbs) (by rfl) ?g1 ?g2 ?g3 ⟨w2.heap.size, 0, none⟩ 1 1 [.int .u8 (l2 : Int)] (by rfl) rfl (cell_one_new w2 _ _) (by intro u hu; simp at hu; subst hu; rfl) (by omega) (by unfold maxLen; omega) (by omega) ?g4))
        case g1 => exact fun e => by have := hT.2.2.2.2.1 e; omega
        case g2 => have := hT.1; simp [bytesV]; omega
        case g3 =>
          intro b e jj u hu
          have hjt : jj < tbs.length := by have := (List.getElem?_eq_some_iff.1 hu).1; simpa [bytesV] using this
          obtain ⟨bb, off, e', hlt, hc⟩ := hT2.2.2.2.2.2 (by have := hT.1; omega)
          rw [e] at e'
          cases e'
          have hal : Below w2.heap.size w2 (w2.alloc (.cells #[.int .u8 (l2 : Int)] 5)) := (Below.refl _ _).alloc (Nat.le_refl _) _
          rw [adr_add, hal.cell (p := ⟨bb, off + jj, none⟩) hlt, hc jj (by have := hT.1; omega), ← hu]
          simp [bytesV, List.getD, hjt]
        intro v' w3 own3 gr3
        obtain ⟨a3, c3, rfl⟩ := own_slice own3
        have eV : bytesV tbs ++ [Value.int .u8 (l2 : Int)] = bytesV (tbs ++ [(l2 : Int)]) := by simp [bytesV]
        rw [eV] at own3
        clear eV
        have hAl : Below w2.heap.size w2 (w2.alloc (.cells #[.int .u8 (l2 : Int)] 5)) := (Below.refl _ _).alloc (Nat.le_refl _) _
        have hb3 : Below w2.heap.size w2 w3 := hAl.grown gr3 hAl.size (fun k hk => by cases hk)
        have hW3 : Below W.heap.size W w3 := hW2.trans (hb3.mono hW2.size)
        have z3 := hb3.size
        have zW2 := hW2.size
        have g3z := gr3.size
        have hI3 := hI2.below hb3
        clear hc2 gr3
        have hc3 := KC.out _ hW3
        have hD : Below w3.heap.size w3 w3.drew := (Below.refl _ _).drew
        have hWD : Below W.heap.size W w3.drew := hW3.trans (hD.mono hW3.size)
        have oD := own_bel own3 hD
        have hID := hI3.below hD
        go_upto_region 10 with (fail)
        have zb : w2.heap.size + 1 ≤ w3.drew.heap.size := by simpa using g3z
        go_region_held3 (fun V => ∀ b o, b < W.heap.size → b ≠ w.heap.size + 3 → V.cell? ⟨b, o, none⟩ = W.cell? ⟨b, o, none⟩)
          (first | exact fun b o hb _ => KC.out _ hWD b o hb | exact fun b o hb _ => KC.out _ hW4 b o hb | exact fun b o hb hne => by rw [World.cell?_of_block (a := ⟨b, o, none⟩) (Below.heap_setCell _ _ _ b (by exact hne)), World.cell?_of_block (a := ⟨b, o, none⟩) (Below.heap_setCell _ _ _ b (by exact hne))]; exact KC.out _ hW4 b o hb)
          (first
            | ((refine step_append_bytes (by rfl) (.tmp 46) (.tmp 47) (by rfl) (w2.heap.size + 1) (.slice a3 (tl + 1) c3) (tl + 1) (tbs ++ [(l2 : Int)]) (by rfl) oD a2 l2 q2 rb (by rfl) hID (by omega) zb ?_; intro a4 c4 w4 own4 gr4 at4; have hW4 : Below W.heap.size W w4 := hWD.grown gr4 hWD.size (fun k hk => by have := (oD.lt k hk).1; omega); obtain ⟨r0, r1, f0, f1⟩ := KR.out _ hW4)))
        all_goals
          have hbyt : Byt ((tbs ++ [(l2 : Int)]) ++ rb) := (hT.2.2.2.1.app (fun x hx => by simp at hx; omega)).app hI3.2.2.2.1
          obtain ⟨hIF, hgeF⟩ := isB_slice own4 hbyt
          have hne : ∀ b off, a4 = some ⟨b, off, none⟩ → b ≠ w.heap.size + 3 := fun b off e => by have := hgeF b off e; omega
          have hwF := hB.trans (hW4.mono hB.size)
          have eL : (tbs ++ [(l2 : Int)]) ++ rb = tbs ++ ((rb.length : Int) :: rb) := by rw [← HL2.out]; simp
          rw [eL] at hIF
          go_wp2
          refine bodyPost_ret (v := .tuple #[.agg #[.slice a4 (tl + 1 + l2) c4, .int .i64 y], .int .i64 0]) (by simp [results, Tryd.results16, go_sem, r0, r1]) rfl ⟨a4, tl + 1 + l2, c4, by rw [fH.out, fY.out], by rw [fB.out]; exact (hIF.set _ _ hne).set _ _ hne, fun b off e => by have := hgeF b off e; omega, ?_⟩
          exact (hwF.setCell (by show w.heap.size ≤ w.heap.size + 3; omega) _).setCell (by show w.heap.size ≤ w.heap.size + 3; omega) _
    · have e0 : apErr tl y FV rb = FV := by unfold apErr; rw [hmay]; simp [hF]
      have e1 : apBs tbs FV rb = [] := by unfold apBs; rw [if_neg hF]
      have e2 : apY y FV = 0 := by unfold apY; rw [if_neg hF]
      have fE : AE = FV := EA.out.trans e0
      have fB : Hid (AB = []) := by show AB = []; rw [EB.out, fE]; exact e1
      have fY : Hid (AY = 0) := by show AY = 0; rw [EY.out, fE]; exact e2
      have fH : Hid (AE = FV) := fE
      clear e0 e1 e2 fE
      go_upto_region 5 with (fail)
      obtain ⟨r0, r1, f0, f1⟩ := KR.out _ hW2
      clear hc2
      go_wp2
      refine bodyPost_ret (v := .tuple #[.agg #[.slice none 0 0, .int .i64 0], .int .i64 FV]) (by simp [results, Tryd.results16, go_sem, r0, r1]) rfl ⟨none, 0, 0, by rw [fH.out, fY.out], by rw [fB.out]; exact isB_nil _, fun b off e => by simp at e, ?_⟩
      exact (hw2.setCell (by show w.heap.size ≤ w.heap.size + 3; omega) _).setCell (by show w.heap.size ≤ w.heap.size + 3; omega) _
end Go.Proofs.YtfloplkepmpaiaaDoor
