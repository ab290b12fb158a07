/- The contract of wire.CheckMessage: at every config and message it returns the fault that msgFault tells, and leaves what was in memory. -/
import Derived.Test.YtdjnaahkcnklhabDoorM24CommitAsks
import Derived.Lib.QuietBelow
namespace Go.Proofs.YtdjnaahkcnklhabDoor
open Go.ChangeShapes Go.WideShapes Go.ChangeAt Go.RowKit
set_option linter.unusedVariables false

/-- A table of which kind has which parts, as the program lays it. -/
def HasAt (w : World) (g : Nat) (t : List (List Bool)) : Prop := ∀ i j, i < t.length → j < 8 → w.cell? ⟨g, i * 8 + j, none⟩ = some (.bool ((t.getD i []).getD j false))
theorem HasAt.below {w w' : World} {B g : Nat} {t : List (List Bool)} (h : HasAt w g t) (hb : Below B w w') (hB : g < B) : HasAt w' g t := by
  intro i j hi hj
  rw [hb.cell (p := ⟨g, i * 8 + j, none⟩) hB]
  exact h i j hi hj

theorem HasAt.lt {w : World} {g : Nat} {t : List (List Bool)} (h : HasAt w g t) (ht : 0 < t.length) : g < w.heap.size := World.block_lt_of_cell? w _ (h 0 0 ht (by decide))

theorem mHas_eight (k : Nat) (hk : k < 10) : mHas.getD k [] = [(mHas.getD k []).getD 0 false, (mHas.getD k []).getD 1 false, (mHas.getD k []).getD 2 false, (mHas.getD k []).getD 3 false, (mHas.getD k []).getD 4 false, (mHas.getD k []).getD 5 false, (mHas.getD k []).getD 6 false, (mHas.getD k []).getD 7 false] := by
  rcases (by omega : k = 0 ∨ k = 1 ∨ k = 2 ∨ k = 3 ∨ k = 4 ∨ k = 5 ∨ k = 6 ∨ k = 7 ∨ k = 8 ∨ k = 9) with rfl | rfl | rfl | rfl | rfl | rfl | rfl | rfl | rfl | rfl <;> rfl

set_option maxRecDepth 100000 in
set_option maxHeartbeats 4000000 in
theorem checkMessage_any (s p : Int) (a : Option Addr) (len cap : Nat) (ls : List (Int × Int)) (m : MV) (w : World) (h : IsLabs w a len cap ls) (hm : HasAt w 0 mHas) (ht : TopsAt w) :
    Calls Tryd.prog 56 #[.agg #[.int .i64 s, .slice a len cap, .int .i64 p], m.val] w fun e w' => e = .returned (.int .i64 (msgFault s ls p m)) ∧ Below w.heap.size w w' := by
  have hPs := fun w' => messageParts_any m w'
  have hgT : 1 < w.heap.size := World.block_lt_of_cell? w _ ht.1
  have hgM : 0 < w.heap.size := hm.lt (by decide)
  obtain ⟨kind, frm, dst, site, num, label, key, value, version, ask, yes, code⟩ := m
  obtain ⟨M, eM⟩ : ∃ M : MV, M = ⟨kind, frm, dst, site, num, label, key, value, version, ask, yes, code⟩ := ⟨_, rfl⟩
  have EM : Hid (M = ⟨kind, frm, dst, site, num, label, key, value, version, ask, yes, code⟩) := eM
  rw [← eM]
  rw [eM]
  have hMF : ∀ v, msgFault s ls p M = v → msgFault s ls p ⟨kind, frm, dst, site, num, label, key, value, version, ask, yes, code⟩ = v := fun v hv => by rw [← eM]; exact hv
  have MF : Hid (∀ v, msgFault s ls p M = v → msgFault s ls p ⟨kind, frm, dst, site, num, label, key, value, version, ask, yes, code⟩ = v) := hMF
  clear hMF eM
  simp only [MV.val] at hPs ⊢
  obtain ⟨W, hW⟩ : ∃ W : World, W = (w.alloc (.cells #[.int .i64 s, .slice a len cap, .int .i64 p] 25)).alloc (.cells #[.int .i64 kind, .int .i64 frm, .int .i64 dst, .int .i64 site, .int .i64 num, .int .i64 label, .int .i64 key, .int .i64 value, .int .i64 version, .int .i64 ask, .bool yes, .int .i64 code] 46) := ⟨_, rfl⟩
  have hB : Below w.heap.size w W := by rw [hW]; exact ((Below.refl _ _).alloc (Nat.le_refl _) _).alloc (by simp) _
  have zW : W.heap.size = w.heap.size + 2 := by rw [hW]; simp
  have c0 : W.cell? ⟨w.heap.size, 0, none⟩ = some (.int .i64 s) := by rw [hW]; go_simp
  have c1 : W.cell? ⟨w.heap.size, 1, none⟩ = some (.slice a len cap) := by rw [hW]; go_simp
  have c2 : W.cell? ⟨w.heap.size, 2, none⟩ = some (.int .i64 p) := by rw [hW]; go_simp
  have d0 : W.cell? ⟨w.heap.size + 1, 0, none⟩ = some (.int .i64 kind) := by rw [hW]; go_simp
  have d1 : W.cell? ⟨w.heap.size + 1, 1, none⟩ = some (.int .i64 frm) := by rw [hW]; go_simp
  have d2 : W.cell? ⟨w.heap.size + 1, 2, none⟩ = some (.int .i64 dst) := by rw [hW]; go_simp
  have d3 : W.cell? ⟨w.heap.size + 1, 3, none⟩ = some (.int .i64 site) := by rw [hW]; go_simp
  have d4 : W.cell? ⟨w.heap.size + 1, 4, none⟩ = some (.int .i64 num) := by rw [hW]; go_simp
  have d5 : W.cell? ⟨w.heap.size + 1, 5, none⟩ = some (.int .i64 label) := by rw [hW]; go_simp
  have d6 : W.cell? ⟨w.heap.size + 1, 6, none⟩ = some (.int .i64 key) := by rw [hW]; go_simp
  have d7 : W.cell? ⟨w.heap.size + 1, 7, none⟩ = some (.int .i64 value) := by rw [hW]; go_simp
  have d8 : W.cell? ⟨w.heap.size + 1, 8, none⟩ = some (.int .i64 version) := by rw [hW]; go_simp
  have d9 : W.cell? ⟨w.heap.size + 1, 9, none⟩ = some (.int .i64 ask) := by rw [hW]; go_simp
  have d10 : W.cell? ⟨w.heap.size + 1, 10, none⟩ = some (.bool yes) := by rw [hW]; go_simp
  have d11 : W.cell? ⟨w.heap.size + 1, 11, none⟩ = some (.int .i64 code) := by rw [hW]; go_simp
  have hLW := h.below hB
  have tW : TopsAt W := ht.below hB (by omega)
  have mW : HasAt W 0 mHas := hm.below hB (by omega)
  go_enter Tryd.func56, Tryd.ntmps56
  go_upto_region 1 with (fail)
  rw [← hW]
  clear hW ht hm
  by_cases hF : cfgFault s ls p = 0
  · obtain ⟨s1, s4, n1, n6, _, _, _⟩ := cfg_zero hF
    have hlen : Hid (ls.length = len) := h.1
    have l6 : len ≤ 6 := by have := hlen.out; omega
    go_upto_region 4 with (go_at_call 36; refine (check_any s p a len cap ls _ hLW).mono ?_; rintro e w1 ⟨rfl, hb1⟩)
    have KC : Hid (∀ (V : World), Below W.heap.size W V → (V.cell? ⟨w.heap.size, 0, none⟩ = some (.int .i64 s) ∧ V.cell? ⟨w.heap.size, 1, none⟩ = some (.slice a len cap) ∧ V.cell? ⟨w.heap.size, 2, none⟩ = some (.int .i64 p)) ∧
        V.cell? ⟨w.heap.size + 1, 0, none⟩ = some (.int .i64 kind) ∧ V.cell? ⟨w.heap.size + 1, 1, none⟩ = some (.int .i64 frm) ∧ V.cell? ⟨w.heap.size + 1, 2, none⟩ = some (.int .i64 dst) ∧ V.cell? ⟨w.heap.size + 1, 3, none⟩ = some (.int .i64 site) ∧ V.cell? ⟨w.heap.size + 1, 4, none⟩ = some (.int .i64 num) ∧ V.cell? ⟨w.heap.size + 1, 5, none⟩ = some (.int .i64 label) ∧ V.cell? ⟨w.heap.size + 1, 6, none⟩ = some (.int .i64 key) ∧ V.cell? ⟨w.heap.size + 1, 7, none⟩ = some (.int .i64 value) ∧ V.cell? ⟨w.heap.size + 1, 8, none⟩ = some (.int .i64 version) ∧ V.cell? ⟨w.heap.size + 1, 9, none⟩ = some (.int .i64 ask) ∧ V.cell? ⟨w.heap.size + 1, 10, none⟩ = some (.bool yes) ∧ V.cell? ⟨w.heap.size + 1, 11, none⟩ = some (.int .i64 code)) := by
      intro V hV
      have e0 : ∀ o, V.cell? ⟨w.heap.size, o, none⟩ = W.cell? ⟨w.heap.size, o, none⟩ := fun o => hV.cell (p := ⟨w.heap.size, o, none⟩) (by show w.heap.size < _; omega)
      have e1 : ∀ o, V.cell? ⟨w.heap.size + 1, o, none⟩ = W.cell? ⟨w.heap.size + 1, o, none⟩ := fun o => hV.cell (p := ⟨w.heap.size + 1, o, none⟩) (by show w.heap.size + 1 < _; omega)
      simp only [e0, e1]
      exact ⟨⟨c0, c1, c2⟩, d0, d1, d2, d3, d4, d5, d6, d7, d8, d9, d10, d11⟩
    clear c0 c1 c2 d0 d1 d2 d3 d4 d5 d6 d7 d8 d9 d10 d11
    obtain ⟨⟨c0, c1, c2⟩, d0, d1, d2, d3, d4, d5, d6, d7, d8, d9, d10, d11⟩ := KC.out w1 hb1
    cases hK : inR kind 1 9 with
    | false =>
      have hf := MF.out 3 (mf_kind hF (by rw [EM.out]; exact hK))
      go_wp2_with (go_at_call 18; refine (within_any _ _ _ _).mono ?_; rintro e u1 ⟨rfl, hu1⟩; rw [hu1]; clear hu1)
      go_ret
      exact ⟨ret_int hf.symm, hB.trans (hb1.mono hB.size)⟩
    | true =>
      have kb := inR_of hK
      obtain ⟨k, rfl⟩ : ∃ k : Nat, kind = k := ⟨kind.toNat, by omega⟩
      have k10 : k < 10 := by omega
      have k9 : (k : Int) < 10 := by omega
      go_upto_region 6 with (go_at_call 18; refine (within_any _ _ _ _).mono ?_; rintro e u1 ⟨rfl, hu1⟩; rw [hu1]; clear hu1)
      go_upto_region 7 with (go_at_call 77; refine (hPs _).mono ?_; rintro e w2 ⟨rfl, hb2⟩)
      obtain ⟨V, hV⟩ : ∃ V : World, V = w2.alloc (.cells #[.int .i64 label, .int .i64 key, .int .i64 value, .int .i64 version, .int .i64 ask, .int .i64 (bit yes), .int .i64 code, .int .i64 0] 125) := ⟨_, rfl⟩
      have hbW : Below W.heap.size W V := by rw [hV]; exact (hb1.trans (hb2.mono hb1.size)).alloc (by have := hb1.size; have := hb2.size; omega) _
      have zV : V.heap.size = w2.heap.size + 1 := by rw [hV]; simp
      have zw2 : W.heap.size ≤ w2.heap.size := Nat.le_trans hb1.size hb2.size
      have e0 : V.cell? ⟨w2.heap.size, 0, none⟩ = some (.int .i64 label) := by rw [hV]; go_simp
      have e1 : V.cell? ⟨w2.heap.size, 1, none⟩ = some (.int .i64 key) := by rw [hV]; go_simp
      have e2 : V.cell? ⟨w2.heap.size, 2, none⟩ = some (.int .i64 value) := by rw [hV]; go_simp
      have e3 : V.cell? ⟨w2.heap.size, 3, none⟩ = some (.int .i64 version) := by rw [hV]; go_simp
      have e4 : V.cell? ⟨w2.heap.size, 4, none⟩ = some (.int .i64 ask) := by rw [hV]; go_simp
      have e5 : V.cell? ⟨w2.heap.size, 5, none⟩ = some (.int .i64 (bit yes)) := by rw [hV]; go_simp
      have e6 : V.cell? ⟨w2.heap.size, 6, none⟩ = some (.int .i64 code) := by rw [hV]; go_simp
      have e7 : V.cell? ⟨w2.heap.size, 7, none⟩ = some (.int .i64 0) := by rw [hV]; go_simp
      rw [← hV]
      clear hV
      have tV : TopsAt V := tW.below hbW (by omega)
      have mV : HasAt V 0 mHas := mW.below hbW (by omega)
      have EH : Hid (mHas.getD k [] = [(mHas.getD k []).getD 0 false, (mHas.getD k []).getD 1 false, (mHas.getD k []).getD 2 false, (mHas.getD k []).getD 3 false, (mHas.getD k []).getD 4 false, (mHas.getD k []).getD 5 false, (mHas.getD k []).getD 6 false, (mHas.getD k []).getD 7 false]) := mHas_eight k k10
      have f0 := mV k 0 k10 (by decide)
      have f1 := mV k 1 k10 (by decide)
      have f2 := mV k 2 k10 (by decide)
      have f3 := mV k 3 k10 (by decide)
      have f4 := mV k 4 k10 (by decide)
      have f5 := mV k 5 k10 (by decide)
      have f6 := mV k 6 k10 (by decide)
      have f7 := mV k 7 k10 (by decide)
      obtain ⟨h0, eh0⟩ : ∃ x, x = (mHas.getD k []).getD 0 false := ⟨_, rfl⟩
      obtain ⟨h1, eh1⟩ : ∃ x, x = (mHas.getD k []).getD 1 false := ⟨_, rfl⟩
      obtain ⟨h2, eh2⟩ : ∃ x, x = (mHas.getD k []).getD 2 false := ⟨_, rfl⟩
      obtain ⟨h3, eh3⟩ : ∃ x, x = (mHas.getD k []).getD 3 false := ⟨_, rfl⟩
      obtain ⟨h4, eh4⟩ : ∃ x, x = (mHas.getD k []).getD 4 false := ⟨_, rfl⟩
      obtain ⟨h5, eh5⟩ : ∃ x, x = (mHas.getD k []).getD 5 false := ⟨_, rfl⟩
      obtain ⟨h6, eh6⟩ : ∃ x, x = (mHas.getD k []).getD 6 false := ⟨_, rfl⟩
      obtain ⟨h7, eh7⟩ : ∃ x, x = (mHas.getD k []).getD 7 false := ⟨_, rfl⟩
      rw [← eh0, ← eh1, ← eh2, ← eh3, ← eh4, ← eh5, ← eh6, ← eh7] at EH
      rw [← eh0] at f0
      rw [← eh1] at f1
      rw [← eh2] at f2
      rw [← eh3] at f3
      rw [← eh4] at f4
      rw [← eh5] at f5
      rw [← eh6] at f6
      rw [← eh7] at f7
      clear eh0 eh1 eh2 eh3 eh4 eh5 eh6 eh7
      simp only [Nat.add_zero] at f0
      have KA : Hid (∀ (U : World), Below V.heap.size V U → (U.cell? ⟨w.heap.size, 0, none⟩ = some (.int .i64 s) ∧ U.cell? ⟨w.heap.size, 1, none⟩ = some (.slice a len cap) ∧ U.cell? ⟨w.heap.size, 2, none⟩ = some (.int .i64 p)) ∧ (U.cell? ⟨w.heap.size + 1, 0, none⟩ = some (.int .i64 k) ∧ U.cell? ⟨w.heap.size + 1, 1, none⟩ = some (.int .i64 frm) ∧ U.cell? ⟨w.heap.size + 1, 2, none⟩ = some (.int .i64 dst) ∧ U.cell? ⟨w.heap.size + 1, 3, none⟩ = some (.int .i64 site) ∧ U.cell? ⟨w.heap.size + 1, 4, none⟩ = some (.int .i64 num) ∧ U.cell? ⟨w.heap.size + 1, 5, none⟩ = some (.int .i64 label) ∧ U.cell? ⟨w.heap.size + 1, 6, none⟩ = some (.int .i64 key) ∧ U.cell? ⟨w.heap.size + 1, 7, none⟩ = some (.int .i64 value) ∧ U.cell? ⟨w.heap.size + 1, 8, none⟩ = some (.int .i64 version) ∧ U.cell? ⟨w.heap.size + 1, 9, none⟩ = some (.int .i64 ask) ∧ U.cell? ⟨w.heap.size + 1, 10, none⟩ = some (.bool yes) ∧ U.cell? ⟨w.heap.size + 1, 11, none⟩ = some (.int .i64 code)) ∧ (U.cell? ⟨w2.heap.size, 0, none⟩ = some (.int .i64 label) ∧ U.cell? ⟨w2.heap.size, 1, none⟩ = some (.int .i64 key) ∧ U.cell? ⟨w2.heap.size, 2, none⟩ = some (.int .i64 value) ∧ U.cell? ⟨w2.heap.size, 3, none⟩ = some (.int .i64 version) ∧ U.cell? ⟨w2.heap.size, 4, none⟩ = some (.int .i64 ask) ∧ U.cell? ⟨w2.heap.size, 5, none⟩ = some (.int .i64 (bit yes)) ∧ U.cell? ⟨w2.heap.size, 6, none⟩ = some (.int .i64 code) ∧ U.cell? ⟨w2.heap.size, 7, none⟩ = some (.int .i64 0)) ∧ (U.cell? ⟨0, k * 8, none⟩ = some (.bool h0) ∧ U.cell? ⟨0, k * 8 + 1, none⟩ = some (.bool h1) ∧ U.cell? ⟨0, k * 8 + 2, none⟩ = some (.bool h2) ∧ U.cell? ⟨0, k * 8 + 3, none⟩ = some (.bool h3) ∧ U.cell? ⟨0, k * 8 + 4, none⟩ = some (.bool h4) ∧ U.cell? ⟨0, k * 8 + 5, none⟩ = some (.bool h5) ∧ U.cell? ⟨0, k * 8 + 6, none⟩ = some (.bool h6) ∧ U.cell? ⟨0, k * 8 + 7, none⟩ = some (.bool h7))) := by
        intro U hU
        have q1 : ∀ o, U.cell? ⟨w2.heap.size, o, none⟩ = V.cell? ⟨w2.heap.size, o, none⟩ := fun o => hU.cell (p := ⟨w2.heap.size, o, none⟩) (by show w2.heap.size < _; omega)
        have q2 : ∀ o, U.cell? ⟨0, o, none⟩ = V.cell? ⟨0, o, none⟩ := fun o => hU.cell (p := ⟨0, o, none⟩) (by show 0 < _; omega)
        obtain ⟨hc, hd⟩ := KC.out U (hbW.trans (hU.mono hbW.size))
        refine ⟨hc, hd, ?_, ?_⟩
        · simp only [q1]
          exact ⟨e0, e1, e2, e3, e4, e5, e6, e7⟩
        · simp only [q2]
          exact ⟨f0, f1, f2, f3, f4, f5, f6, f7⟩
      clear c0 c1 c2 d0 d1 d2 d3 d4 d5 d6 d7 d8 d9 d10 d11 e0 e1 e2 e3 e4 e5 e6 e7 f0 f1 f2 f3 f4 f5 f6 f7
      have hbv : Below V.heap.size V V := Below.refl _ _
      have hbw : Below w.heap.size w V := hB.trans (hbW.mono hB.size)
      obtain ⟨⟨c0, c1, c2⟩, ⟨d0, d1, d2, d3, d4, d5, d6, d7, d8, d9, d10, d11⟩, ⟨e0, e1, e2, e3, e4, e5, e6, e7⟩, ⟨f0, f1, f2, f3, f4, f5, f6, f7⟩⟩ := KA.out _ hbv
      have hRng : Hid (msgRange s ls.length M = (inR frm 0 (s - 1) && inR dst 0 (s - 1) && txnOK s site num && partsOK len [label, key, value, version, ask, bit yes, code, 0])) := by
        show msgRange s ls.length M = _
        rw [EM.out, hlen.out]
        rfl
      cases g1 : inR frm 0 (s - 1) with
      | false =>
        have hf := MF.out 2 (mf_range hF (by rw [EM.out]; exact hK) (by rw [hRng.out, g1]; rfl))
        go_wp2_with (first
          | (go_at_call 40; refine (site_any s p a len cap _ _ ⟨s1, s4⟩).mono ?_; rintro e u ⟨rfl, hu⟩; replace hbv := hbv.trans (hu.mono hbv.size); clear hu c0 c1 c2 d0 d1 d2 d3 d4 d5 d6 d7 d8 d9 d10 d11 e0 e1 e2 e3 e4 e5 e6 e7; obtain ⟨⟨c0, c1, c2⟩, ⟨d0, d1, d2, d3, d4, d5, d6, d7, d8, d9, d10, d11⟩, ⟨e0, e1, e2, e3, e4, e5, e6, e7⟩, ⟨f0, f1, f2, f3, f4, f5, f6, f7⟩⟩ := KA.out _ hbv)
          | (go_at_call 78; refine (txn_any site num s _ ⟨s1, s4⟩).mono ?_; rintro e u ⟨rfl, hu⟩; replace hbv := hbv.trans (hu.mono hbv.size); clear hu c0 c1 c2 d0 d1 d2 d3 d4 d5 d6 d7 d8 d9 d10 d11 e0 e1 e2 e3 e4 e5 e6 e7; obtain ⟨⟨c0, c1, c2⟩, ⟨d0, d1, d2, d3, d4, d5, d6, d7, d8, d9, d10, d11⟩, ⟨e0, e1, e2, e3, e4, e5, e6, e7⟩, ⟨f0, f1, f2, f3, f4, f5, f6, f7⟩⟩ := KA.out _ hbv)
          | (go_at_call 79; refine (inBoundsW_any s p a len cap label key value version ask (bit yes) code 0 _ l6 (tV.below hbv (by omega)) (by have := hbv.size; omega)).mono ?_; rintro e u ⟨rfl, hu⟩; replace hbv := hbv.trans (hu.mono hbv.size); clear hu c0 c1 c2 d0 d1 d2 d3 d4 d5 d6 d7 d8 d9 d10 d11 e0 e1 e2 e3 e4 e5 e6 e7; obtain ⟨⟨c0, c1, c2⟩, ⟨d0, d1, d2, d3, d4, d5, d6, d7, d8, d9, d10, d11⟩, ⟨e0, e1, e2, e3, e4, e5, e6, e7⟩, ⟨f0, f1, f2, f3, f4, f5, f6, f7⟩⟩ := KA.out _ hbv))
        go_ret
        exact ⟨ret_int hf.symm, hbw.trans (hbv.mono hbw.size)⟩
      | true =>
      cases g2 : inR dst 0 (s - 1) with
      | false =>
        have hf := MF.out 2 (mf_range hF (by rw [EM.out]; exact hK) (by rw [hRng.out, g1, g2]; rfl))
        go_wp2_with (first
          | (go_at_call 40; refine (site_any s p a len cap _ _ ⟨s1, s4⟩).mono ?_; rintro e u ⟨rfl, hu⟩; replace hbv := hbv.trans (hu.mono hbv.size); clear hu c0 c1 c2 d0 d1 d2 d3 d4 d5 d6 d7 d8 d9 d10 d11 e0 e1 e2 e3 e4 e5 e6 e7; obtain ⟨⟨c0, c1, c2⟩, ⟨d0, d1, d2, d3, d4, d5, d6, d7, d8, d9, d10, d11⟩, ⟨e0, e1, e2, e3, e4, e5, e6, e7⟩, ⟨f0, f1, f2, f3, f4, f5, f6, f7⟩⟩ := KA.out _ hbv)
          | (go_at_call 78; refine (txn_any site num s _ ⟨s1, s4⟩).mono ?_; rintro e u ⟨rfl, hu⟩; replace hbv := hbv.trans (hu.mono hbv.size); clear hu c0 c1 c2 d0 d1 d2 d3 d4 d5 d6 d7 d8 d9 d10 d11 e0 e1 e2 e3 e4 e5 e6 e7; obtain ⟨⟨c0, c1, c2⟩, ⟨d0, d1, d2, d3, d4, d5, d6, d7, d8, d9, d10, d11⟩, ⟨e0, e1, e2, e3, e4, e5, e6, e7⟩, ⟨f0, f1, f2, f3, f4, f5, f6, f7⟩⟩ := KA.out _ hbv)
          | (go_at_call 79; refine (inBoundsW_any s p a len cap label key value version ask (bit yes) code 0 _ l6 (tV.below hbv (by omega)) (by have := hbv.size; omega)).mono ?_; rintro e u ⟨rfl, hu⟩; replace hbv := hbv.trans (hu.mono hbv.size); clear hu c0 c1 c2 d0 d1 d2 d3 d4 d5 d6 d7 d8 d9 d10 d11 e0 e1 e2 e3 e4 e5 e6 e7; obtain ⟨⟨c0, c1, c2⟩, ⟨d0, d1, d2, d3, d4, d5, d6, d7, d8, d9, d10, d11⟩, ⟨e0, e1, e2, e3, e4, e5, e6, e7⟩, ⟨f0, f1, f2, f3, f4, f5, f6, f7⟩⟩ := KA.out _ hbv))
        go_ret
        exact ⟨ret_int hf.symm, hbw.trans (hbv.mono hbw.size)⟩
      | true =>
      cases g3 : txnOK s site num with
      | false =>
        have hf := MF.out 2 (mf_range hF (by rw [EM.out]; exact hK) (by rw [hRng.out, g1, g2, g3]; rfl))
        go_wp2_with (first
          | (go_at_call 40; refine (site_any s p a len cap _ _ ⟨s1, s4⟩).mono ?_; rintro e u ⟨rfl, hu⟩; replace hbv := hbv.trans (hu.mono hbv.size); clear hu c0 c1 c2 d0 d1 d2 d3 d4 d5 d6 d7 d8 d9 d10 d11 e0 e1 e2 e3 e4 e5 e6 e7; obtain ⟨⟨c0, c1, c2⟩, ⟨d0, d1, d2, d3, d4, d5, d6, d7, d8, d9, d10, d11⟩, ⟨e0, e1, e2, e3, e4, e5, e6, e7⟩, ⟨f0, f1, f2, f3, f4, f5, f6, f7⟩⟩ := KA.out _ hbv)
          | (go_at_call 78; refine (txn_any site num s _ ⟨s1, s4⟩).mono ?_; rintro e u ⟨rfl, hu⟩; replace hbv := hbv.trans (hu.mono hbv.size); clear hu c0 c1 c2 d0 d1 d2 d3 d4 d5 d6 d7 d8 d9 d10 d11 e0 e1 e2 e3 e4 e5 e6 e7; obtain ⟨⟨c0, c1, c2⟩, ⟨d0, d1, d2, d3, d4, d5, d6, d7, d8, d9, d10, d11⟩, ⟨e0, e1, e2, e3, e4, e5, e6, e7⟩, ⟨f0, f1, f2, f3, f4, f5, f6, f7⟩⟩ := KA.out _ hbv)
          | (go_at_call 79; refine (inBoundsW_any s p a len cap label key value version ask (bit yes) code 0 _ l6 (tV.below hbv (by omega)) (by have := hbv.size; omega)).mono ?_; rintro e u ⟨rfl, hu⟩; replace hbv := hbv.trans (hu.mono hbv.size); clear hu c0 c1 c2 d0 d1 d2 d3 d4 d5 d6 d7 d8 d9 d10 d11 e0 e1 e2 e3 e4 e5 e6 e7; obtain ⟨⟨c0, c1, c2⟩, ⟨d0, d1, d2, d3, d4, d5, d6, d7, d8, d9, d10, d11⟩, ⟨e0, e1, e2, e3, e4, e5, e6, e7⟩, ⟨f0, f1, f2, f3, f4, f5, f6, f7⟩⟩ := KA.out _ hbv))
        go_ret
        exact ⟨ret_int hf.symm, hbw.trans (hbv.mono hbw.size)⟩
      | true =>
      cases g4 : partsOK len [label, key, value, version, ask, bit yes, code, 0] with
      | false =>
        have hf := MF.out 2 (mf_range hF (by rw [EM.out]; exact hK) (by rw [hRng.out, g1, g2, g3, g4]; rfl))
        go_wp2_with (first
          | (go_at_call 40; refine (site_any s p a len cap _ _ ⟨s1, s4⟩).mono ?_; rintro e u ⟨rfl, hu⟩; replace hbv := hbv.trans (hu.mono hbv.size); clear hu c0 c1 c2 d0 d1 d2 d3 d4 d5 d6 d7 d8 d9 d10 d11 e0 e1 e2 e3 e4 e5 e6 e7; obtain ⟨⟨c0, c1, c2⟩, ⟨d0, d1, d2, d3, d4, d5, d6, d7, d8, d9, d10, d11⟩, ⟨e0, e1, e2, e3, e4, e5, e6, e7⟩, ⟨f0, f1, f2, f3, f4, f5, f6, f7⟩⟩ := KA.out _ hbv)
          | (go_at_call 78; refine (txn_any site num s _ ⟨s1, s4⟩).mono ?_; rintro e u ⟨rfl, hu⟩; replace hbv := hbv.trans (hu.mono hbv.size); clear hu c0 c1 c2 d0 d1 d2 d3 d4 d5 d6 d7 d8 d9 d10 d11 e0 e1 e2 e3 e4 e5 e6 e7; obtain ⟨⟨c0, c1, c2⟩, ⟨d0, d1, d2, d3, d4, d5, d6, d7, d8, d9, d10, d11⟩, ⟨e0, e1, e2, e3, e4, e5, e6, e7⟩, ⟨f0, f1, f2, f3, f4, f5, f6, f7⟩⟩ := KA.out _ hbv)
          | (go_at_call 79; refine (inBoundsW_any s p a len cap label key value version ask (bit yes) code 0 _ l6 (tV.below hbv (by omega)) (by have := hbv.size; omega)).mono ?_; rintro e u ⟨rfl, hu⟩; replace hbv := hbv.trans (hu.mono hbv.size); clear hu c0 c1 c2 d0 d1 d2 d3 d4 d5 d6 d7 d8 d9 d10 d11 e0 e1 e2 e3 e4 e5 e6 e7; obtain ⟨⟨c0, c1, c2⟩, ⟨d0, d1, d2, d3, d4, d5, d6, d7, d8, d9, d10, d11⟩, ⟨e0, e1, e2, e3, e4, e5, e6, e7⟩, ⟨f0, f1, f2, f3, f4, f5, f6, f7⟩⟩ := KA.out _ hbv))
        go_ret
        exact ⟨ret_int hf.symm, hbw.trans (hbv.mono hbw.size)⟩
      | true =>
      go_upto_region 9 with (first
          | (go_at_call 40; refine (site_any s p a len cap _ _ ⟨s1, s4⟩).mono ?_; rintro e u ⟨rfl, hu⟩; replace hbv := hbv.trans (hu.mono hbv.size); clear hu c0 c1 c2 d0 d1 d2 d3 d4 d5 d6 d7 d8 d9 d10 d11 e0 e1 e2 e3 e4 e5 e6 e7; obtain ⟨⟨c0, c1, c2⟩, ⟨d0, d1, d2, d3, d4, d5, d6, d7, d8, d9, d10, d11⟩, ⟨e0, e1, e2, e3, e4, e5, e6, e7⟩, ⟨f0, f1, f2, f3, f4, f5, f6, f7⟩⟩ := KA.out _ hbv)
          | (go_at_call 78; refine (txn_any site num s _ ⟨s1, s4⟩).mono ?_; rintro e u ⟨rfl, hu⟩; replace hbv := hbv.trans (hu.mono hbv.size); clear hu c0 c1 c2 d0 d1 d2 d3 d4 d5 d6 d7 d8 d9 d10 d11 e0 e1 e2 e3 e4 e5 e6 e7; obtain ⟨⟨c0, c1, c2⟩, ⟨d0, d1, d2, d3, d4, d5, d6, d7, d8, d9, d10, d11⟩, ⟨e0, e1, e2, e3, e4, e5, e6, e7⟩, ⟨f0, f1, f2, f3, f4, f5, f6, f7⟩⟩ := KA.out _ hbv)
          | (go_at_call 79; refine (inBoundsW_any s p a len cap label key value version ask (bit yes) code 0 _ l6 (tV.below hbv (by omega)) (by have := hbv.size; omega)).mono ?_; rintro e u ⟨rfl, hu⟩; replace hbv := hbv.trans (hu.mono hbv.size); clear hu c0 c1 c2 d0 d1 d2 d3 d4 d5 d6 d7 d8 d9 d10 d11 e0 e1 e2 e3 e4 e5 e6 e7; obtain ⟨⟨c0, c1, c2⟩, ⟨d0, d1, d2, d3, d4, d5, d6, d7, d8, d9, d10, d11⟩, ⟨e0, e1, e2, e3, e4, e5, e6, e7⟩, ⟨f0, f1, f2, f3, f4, f5, f6, f7⟩⟩ := KA.out _ hbv))
      have hbu : Below w.heap.size w u := hbw.trans (hbv.mono hbw.size)
      have cH := fun w' => hasAll_any h0 h1 h2 h3 h4 h5 h6 h7 label key value version ask (bit yes) code 0 w'
      have hFrm : Hid (msgForm M = (hasAll [h0, h1, h2, h3, h4, h5, h6, h7] [label, key, value, version, ask, bit yes, code, 0] && (code == 0 || (value == 0 && version == 0)))) := by
        show msgForm M = _
        rw [EM.out]
        unfold msgForm mHasOf
        simp only [Int.toNat_natCast]
        rw [EH.out]
        rfl
      have hKM : Hid (inR M.kind 1 9 = true) := by show inR M.kind 1 9 = true; rw [EM.out]; exact hK
      have hRM : Hid (msgRange s ls.length M = true) := by show msgRange s ls.length M = true; rw [hRng.out, g1, g2, g3, g4]; rfl
      have Gd0 := fun d os => cell_regrown d0 d os
      have Gd7 := fun d os => cell_regrown d7 d os
      have Gd8 := fun d os => cell_regrown d8 d os
      have Gd11 := fun d os => cell_regrown d11 d os
      have Ge0 := fun d os => cell_regrown e0 d os
      have Ge1 := fun d os => cell_regrown e1 d os
      have Ge2 := fun d os => cell_regrown e2 d os
      have Ge3 := fun d os => cell_regrown e3 d os
      have Ge4 := fun d os => cell_regrown e4 d os
      have Ge5 := fun d os => cell_regrown e5 d os
      have Ge6 := fun d os => cell_regrown e6 d os
      have Ge7 := fun d os => cell_regrown e7 d os
      have Gf0 := fun d os => cell_regrown f0 d os
      have Gf1 := fun d os => cell_regrown f1 d os
      have Gf2 := fun d os => cell_regrown f2 d os
      have Gf3 := fun d os => cell_regrown f3 d os
      have Gf4 := fun d os => cell_regrown f4 d os
      have Gf5 := fun d os => cell_regrown f5 d os
      have Gf6 := fun d os => cell_regrown f6 d os
      have Gf7 := fun d os => cell_regrown f7 d os
      cases hH : hasAll [h0, h1, h2, h3, h4, h5, h6, h7] [label, key, value, version, ask, bit yes, code, 0] with
      | false =>
        have hf := MF.out 4 (mf_form hF hKM.out hRM.out (by rw [hFrm.out, hH]; rfl))
        rw [hH] at cH
        clear hH
        refine wp_region_quiet_below (by kernel_rfl) (by kernel_rfl) ?_
        repeat (go_big_quiet_step (exact Calls.regrown_of (cH _)))
        refine wpQuiet_nil ?_
        intro _ hw'
        obtain ⟨⟨dq, osq⟩, hw''⟩ := hw'
        subst hw''
        have hBr := below_regrown u dq osq
        go_wp2
        go_ret
        exact ⟨ret_int hf.symm, hbu.trans (hBr.mono hbu.size)⟩
      | true =>
        have hH' : Hid (hasAll [h0, h1, h2, h3, h4, h5, h6, h7] [label, key, value, version, ask, bit yes, code, 0] = true) := hH
        rw [hH] at cH
        clear hH
        by_cases q0 : code = 0
        · have hf := MF.out 0 (mf_ok hF hKM.out hRM.out (by rw [hFrm.out, hH'.out, q0]; rfl))
          have q1 : (code == 0) = true := by simp [q0]
          have q2 : (code != 0) = false := by simp [q0]
          clear q0
          refine wp_region_quiet_below (by kernel_rfl) (by kernel_rfl) ?_
          repeat (go_big_quiet_step (exact Calls.regrown_of (cH _)))
          refine wpQuiet_nil ?_
          intro _ hw'
          obtain ⟨⟨dq, osq⟩, hw''⟩ := hw'
          subst hw''
          have hBr := below_regrown u dq osq
          go_wp2
          go_ret
          exact ⟨ret_int hf.symm, hbu.trans (hBr.mono hbu.size)⟩
        · have q1 : (code == 0) = false := by simpa using q0
          have q2 : (code != 0) = true := by simpa using q0
          by_cases q3 : value = 0
          · by_cases q4 : version = 0
            · have hf := MF.out 0 (mf_ok hF hKM.out hRM.out (by rw [hFrm.out, hH'.out, q3, q4]; simp))
              have q5 : (value == 0) = true := by simp [q3]
              have q6 : (version == 0) = true := by simp [q4]
              have q7 : (value != 0) = false := by simp [q3]
              have q8 : (version != 0) = false := by simp [q4]
              clear q0 q3 q4
              refine wp_region_quiet_below (by kernel_rfl) (by kernel_rfl) ?_
              repeat (go_big_quiet_step (exact Calls.regrown_of (cH _)))
              refine wpQuiet_nil ?_
              intro _ hw'
              obtain ⟨⟨dq, osq⟩, hw''⟩ := hw'
              subst hw''
              have hBr := below_regrown u dq osq
              go_wp2
              go_ret
              exact ⟨ret_int hf.symm, hbu.trans (hBr.mono hbu.size)⟩
            · have q6 : (version == 0) = false := by simpa using q4
              have hf := MF.out 4 (mf_form hF hKM.out hRM.out (by rw [hFrm.out, hH'.out, q1, q6]; simp))
              have q5 : (value == 0) = true := by simp [q3]
              have q7 : (value != 0) = false := by simp [q3]
              have q8 : (version != 0) = true := by simpa using q4
              clear q0 q3 q4
              refine wp_region_quiet_below (by kernel_rfl) (by kernel_rfl) ?_
              repeat (go_big_quiet_step (exact Calls.regrown_of (cH _)))
              refine wpQuiet_nil ?_
              intro _ hw'
              obtain ⟨⟨dq, osq⟩, hw''⟩ := hw'
              subst hw''
              have hBr := below_regrown u dq osq
              go_wp2
              go_ret
              exact ⟨ret_int hf.symm, hbu.trans (hBr.mono hbu.size)⟩
          · have q5 : (value == 0) = false := by simpa using q3
            have hf := MF.out 4 (mf_form hF hKM.out hRM.out (by rw [hFrm.out, hH'.out, q1, q5]; simp))
            have q7 : (value != 0) = true := by simpa using q3
            clear q0 q3
            refine wp_region_quiet_below (by kernel_rfl) (by kernel_rfl) ?_
            repeat (go_big_quiet_step (exact Calls.regrown_of (cH _)))
            refine wpQuiet_nil ?_
            intro _ hw'
            obtain ⟨⟨dq, osq⟩, hw''⟩ := hw'
            subst hw''
            have hBr := below_regrown u dq osq
            go_wp2
            go_ret
            exact ⟨ret_int hf.symm, hbu.trans (hBr.mono hbu.size)⟩
  · have hf := MF.out _ (mf_cfg hF)
    go_wp2_with (go_at_call 36; refine (check_any s p a len cap ls _ hLW).mono ?_; rintro e w1 ⟨rfl, hb1⟩)
    go_ret
    exact ⟨ret_int hf.symm, hB.trans (hb1.mono hB.size)⟩
end Go.Proofs.YtdjnaahkcnklhabDoor
