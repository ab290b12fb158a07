/- Texts of this claim, one behind the other. -/
import Derived.Test.YtflfcjbgkpfgkaaDoorM12TapeRecovers
import Derived.Test.YtflfcjbgkpfgkaaDoorM22TapeRecovers
import Derived.Lib.QuietBelow
import Derived.Test.YtflfcjbgkpfgkaaDoorM26TapeRecovers
/- The contract of the document's answer MessageFault: at every config and message it returns the fault that msgFault tells, and leaves what was in memory. -/
namespace Go.Proofs.YtflfcjbgkpfgkaaDoor
open Go.ChangeShapes Go.WideShapes Go.ChangeAt Go.RowKit
set_option linter.unusedVariables false

theorem labelMay_any (s p : Int) (a : Option Addr) (len cap : Nat) (l : Int) (w : World) (hl : len ≤ 6) :
    Calls Tryd.prog 60 #[.agg #[.int .i64 s, .slice a len cap, .int .i64 p], .int .i64 l] w fun e w' => e = .returned (.bool (plc l len)) ∧ Below w.heap.size w w' := by
  have hA : Below w.heap.size w (w.alloc (.cells #[.int .i64 s, .slice a len cap, .int .i64 p] 24)) := (Below.refl _ _).alloc (Nat.le_refl _) _
  have h2 : (len : Int) ≤ 6 := by omega
  have e : plc l len = inR l 0 ((len : Int) - 1) := by unfold plc inR; rw [Bool.eq_iff_iff]; simp; omega
  rw [e]
  clear e
  go_enter Tryd.func60, Tryd.ntmps60
  go_wp2_with (go_at_call 57; refine (in_any _ _ _ _).mono ?_; rintro e w2 ⟨rfl, hu⟩; rw [hu]; clear hu)
  go_ret
  exact ⟨rfl, hA⟩

theorem txnMay_any (s p : Int) (a : Option Addr) (len cap : Nat) (site num : Int) (w : World) (hs : 1 ≤ s ∧ s ≤ 4) :
    Calls Tryd.prog 59 #[.agg #[.int .i64 s, .slice a len cap, .int .i64 p], .agg #[.int .i64 site, .int .i64 num]] w fun e w' => e = .returned (.bool (txnOK s site num)) ∧ Below w.heap.size w w' := by
  have hA : Below w.heap.size w ((w.alloc (.cells #[.int .i64 s, .slice a len cap, .int .i64 p] 24)).alloc (.cells #[.int .i64 site, .int .i64 num] 27)) := ((Below.refl _ _).alloc (Nat.le_refl _) _).alloc (by simp) _
  obtain ⟨h1, h2⟩ := hs
  unfold txnOK
  cases hr : inR site 0 (s - 1) with
  | false =>
    go_enter Tryd.func59, Tryd.ntmps59
    go_wp2_with (go_at_call 57; refine (in_any _ _ _ _).mono ?_; rintro e w1 ⟨rfl, hu1⟩; rw [hu1]; clear hu1)
    go_ret
    exact ⟨rfl, hA⟩
  | true =>
    go_enter Tryd.func59, Tryd.ntmps59
    go_wp2_with (go_at_call 57; refine (in_any _ _ _ _).mono ?_; rintro e w1 ⟨rfl, hu1⟩; rw [hu1]; clear hu1)
    go_ret
    exact ⟨by simp, hA⟩

theorem range_of (s : Int) (n : Nat) (kind frm dst site num label key value version ask code : Int) (yes : Bool) : msgRange s n ⟨kind, frm, dst, site, num, label, key, value, version, ask, yes, code⟩ = (inR frm 0 (s - 1) && inR dst 0 (s - 1) && txnOK s site num && plc label n && inR key 0 7 && inR value 0 1073741824 && inR version 0 1048576 && inR ask 0 1048576 && isCd code) ∨ 6 < n := by
  by_cases hn : 6 < n
  · exact .inr hn
  · left
    unfold msgRange partsOK MV.parts
    have e1 : (inTops topL [label, key, value, version, ask, bit yes, code, 0] && plc label n && isCd code) = (plc label n && inR key 0 7 && inR value 0 1073741824 && inR version 0 1048576 && inR ask 0 1048576 && isCd code) := by
      have hb : inR (bit yes) 0 1 = true := by cases yes <;> rfl
      have h0 : inR 0 0 4 = true := rfl
      simp only [inTops, topL, hb, h0, Bool.and_true]
      rw [Bool.eq_iff_iff]
      simp only [Bool.and_eq_true]
      constructor
      · rintro ⟨⟨⟨h1, h2, h3, h4, h5, h6⟩, h7⟩, h8⟩
        exact ⟨⟨⟨⟨⟨h7, h2⟩, h3⟩, h4⟩, h5⟩, h8⟩
      · rintro ⟨⟨⟨⟨⟨h7, h2⟩, h3⟩, h4⟩, h5⟩, h8⟩
        refine ⟨⟨⟨?_, h2, h3, h4, h5, ?_⟩, h7⟩, h8⟩
        · have h9 := plc_true h7
          exact inR_true (n := label) (lo := 0) (hi := 5) (by omega) (by omega)
        · unfold isCd at h8
          simp at h8
          exact ⟨trivial, inR_true (n := code) (lo := 0) (hi := 11) (by omega) (by omega)⟩
    have e2 : ∀ l : Int, [l, key, value, version, ask, bit yes, code, 0].getD 0 0 = l := fun _ => rfl
    have e3 : ∀ l : Int, [label, key, value, version, ask, bit yes, l, 0].getD 6 0 = l := fun _ => rfl
    simp only [e2, e3]
    rw [e1]
    simp only [Bool.and_assoc]

theorem form_1 (frm dst site num label key value version ask code : Int) (yes : Bool) : msgForm ⟨1, frm, dst, site, num, label, key, value, version, ask, yes, code⟩ = decide (value = 0 ∧ version = 0 ∧ yes = false ∧ code = 0) := by
  rw [Bool.eq_iff_iff, decide_eq_true_eq]
  cases yes <;> simp [msgForm, mHasOf, mHas, hasAll, MV.parts, bit] <;> omega
theorem form_2 (frm dst site num label key value version ask code : Int) (yes : Bool) : msgForm ⟨2, frm, dst, site, num, label, key, value, version, ask, yes, code⟩ = decide (label = 0 ∧ version = 0 ∧ yes = false ∧ code = 0) := by
  rw [Bool.eq_iff_iff, decide_eq_true_eq]
  cases yes <;> simp [msgForm, mHasOf, mHas, hasAll, MV.parts, bit] <;> omega
theorem form_3 (frm dst site num label key value version ask code : Int) (yes : Bool) : msgForm ⟨3, frm, dst, site, num, label, key, value, version, ask, yes, code⟩ = decide (value = 0 ∧ ask = 0 ∧ yes = false ∧ code = 0) := by
  rw [Bool.eq_iff_iff, decide_eq_true_eq]
  cases yes <;> simp [msgForm, mHasOf, mHas, hasAll, MV.parts, bit] <;> omega
theorem form_4 (frm dst site num label key value version ask code : Int) (yes : Bool) : msgForm ⟨4, frm, dst, site, num, label, key, value, version, ask, yes, code⟩ = decide (label = 0 ∧ key = 0 ∧ value = 0 ∧ version = 0 ∧ ask = 0 ∧ code = 0) := by
  rw [Bool.eq_iff_iff, decide_eq_true_eq]
  cases yes <;> simp [msgForm, mHasOf, mHas, hasAll, MV.parts, bit] <;> omega
theorem form_5 (frm dst site num label key value version ask code : Int) (yes : Bool) : msgForm ⟨5, frm, dst, site, num, label, key, value, version, ask, yes, code⟩ = decide (yes = false ∧ (code = 0 ∨ (value = 0 ∧ version = 0))) := by
  rw [Bool.eq_iff_iff, decide_eq_true_eq]
  cases yes <;> simp [msgForm, mHasOf, mHas, hasAll, MV.parts, bit] <;> omega
theorem form_6 (frm dst site num label key value version ask code : Int) (yes : Bool) : msgForm ⟨6, frm, dst, site, num, label, key, value, version, ask, yes, code⟩ = decide (label = 0 ∧ value = 0 ∧ version = 0 ∧ yes = false) := by
  rw [Bool.eq_iff_iff, decide_eq_true_eq]
  cases yes <;> simp [msgForm, mHasOf, mHas, hasAll, MV.parts, bit] <;> omega
theorem form_7 (frm dst site num label key value version ask code : Int) (yes : Bool) : msgForm ⟨7, frm, dst, site, num, label, key, value, version, ask, yes, code⟩ = decide (value = 0 ∧ ask = 0 ∧ code = 0) := by
  rw [Bool.eq_iff_iff, decide_eq_true_eq]
  cases yes <;> simp [msgForm, mHasOf, mHas, hasAll, MV.parts, bit] <;> omega
theorem form_8 (frm dst site num label key value version ask code : Int) (yes : Bool) : msgForm ⟨8, frm, dst, site, num, label, key, value, version, ask, yes, code⟩ = decide (label = 0 ∧ key = 0 ∧ value = 0 ∧ version = 0 ∧ ask = 0 ∧ yes = false ∧ code = 0) := by
  rw [Bool.eq_iff_iff, decide_eq_true_eq]
  cases yes <;> simp [msgForm, mHasOf, mHas, hasAll, MV.parts, bit] <;> omega
theorem form_9 (frm dst site num label key value version ask code : Int) (yes : Bool) : msgForm ⟨9, frm, dst, site, num, label, key, value, version, ask, yes, code⟩ = decide (label = 0 ∧ key = 0 ∧ value = 0 ∧ version = 0 ∧ ask = 0 ∧ yes = false ∧ code = 0) := by
  rw [Bool.eq_iff_iff, decide_eq_true_eq]
  cases yes <;> simp [msgForm, mHasOf, mHas, hasAll, MV.parts, bit] <;> omega

set_option maxRecDepth 100000 in
set_option maxHeartbeats 8000000 in
theorem messageFault_any (s p : Int) (a : Option Addr) (len cap : Nat) (ls : List (Int × Int)) (m : MV) (w : World) (h : IsLabs w a len cap ls) :
    Calls Tryd.prog 32 #[.agg #[.int .i64 s, .slice a len cap, .int .i64 p], m.val] w fun e w' => e = .returned (.int .i64 (msgFault s ls p m)) ∧ Below w.heap.size w w' := by
  obtain ⟨kind, frm, dst, site, num, label, key, value, version, ask, yes, code⟩ := m
  obtain ⟨M, eM⟩ : ∃ M : MV, M = ⟨kind, frm, dst, site, num, label, key, value, version, ask, yes, code⟩ := ⟨_, rfl⟩
  have EM : Hid (M = ⟨kind, frm, dst, site, num, label, key, value, version, ask, yes, code⟩) := eM
  have hMF : ∀ v, msgFault s ls p M = v → msgFault s ls p ⟨kind, frm, dst, site, num, label, key, value, version, ask, yes, code⟩ = v := fun v hv => by rw [← eM]; exact hv
  have MF : Hid (∀ v, msgFault s ls p M = v → msgFault s ls p ⟨kind, frm, dst, site, num, label, key, value, version, ask, yes, code⟩ = v) := hMF
  clear hMF eM
  simp only [MV.val]
  obtain ⟨W, hW⟩ : ∃ W : World, W = (w.alloc (.cells #[.int .i64 s, .slice a len cap, .int .i64 p] 24)).alloc (.cells #[.int .i64 kind, .int .i64 frm, .int .i64 dst, .int .i64 site, .int .i64 num, .int .i64 label, .int .i64 key, .int .i64 value, .int .i64 version, .int .i64 ask, .bool yes, .int .i64 code] 30) := ⟨_, rfl⟩
  have hB : Below w.heap.size w W := by rw [hW]; exact ((Below.refl _ _).alloc (Nat.le_refl _) _).alloc (by simp) _
  have zW : W.heap.size = w.heap.size + 2 := by rw [hW]; simp
  have c0 : W.cell? ⟨w.heap.size, 0, none⟩ = some (.int .i64 s) := by rw [hW]; go_simp
  have c1 : W.cell? ⟨w.heap.size, 1, none⟩ = some (.slice a len cap) := by rw [hW]; go_simp
  have c2 : W.cell? ⟨w.heap.size, 2, none⟩ = some (.int .i64 p) := by rw [hW]; go_simp
  have d0 : W.cell? ⟨w.heap.size + 1, 0, none⟩ = some (.int .i64 kind) := by rw [hW]; go_simp
  have d1 : W.cell? ⟨w.heap.size + 1, 1, none⟩ = some (.int .i64 frm) := by rw [hW]; go_simp
  have d2 : W.cell? ⟨w.heap.size + 1, 2, none⟩ = some (.int .i64 dst) := by rw [hW]; go_simp
  have d3 : W.cell? ⟨w.heap.size + 1, 3, none⟩ = some (.int .i64 site) := by rw [hW]; go_simp
  have d4 : W.cell? ⟨w.heap.size + 1, 4, none⟩ = some (.int .i64 num) := by rw [hW]; go_simp
  have d5 : W.cell? ⟨w.heap.size + 1, 5, none⟩ = some (.int .i64 label) := by rw [hW]; go_simp
  have d6 : W.cell? ⟨w.heap.size + 1, 6, none⟩ = some (.int .i64 key) := by rw [hW]; go_simp
  have d7 : W.cell? ⟨w.heap.size + 1, 7, none⟩ = some (.int .i64 value) := by rw [hW]; go_simp
  have d8 : W.cell? ⟨w.heap.size + 1, 8, none⟩ = some (.int .i64 version) := by rw [hW]; go_simp
  have d9 : W.cell? ⟨w.heap.size + 1, 9, none⟩ = some (.int .i64 ask) := by rw [hW]; go_simp
  have d10 : W.cell? ⟨w.heap.size + 1, 10, none⟩ = some (.bool yes) := by rw [hW]; go_simp
  have d11 : W.cell? ⟨w.heap.size + 1, 11, none⟩ = some (.int .i64 code) := by rw [hW]; go_simp
  have hLW := h.below hB
  go_enter Tryd.func32, Tryd.ntmps32
  go_upto_region 1 with (fail)
  rw [← hW]
  clear hW
  by_cases hF : cfgFault s ls p = 0
  · obtain ⟨s1, s4, n1, n6, _, _, _⟩ := cfg_zero hF
    have hlen : Hid (ls.length = len) := h.1
    have l6 : len ≤ 6 := by have := hlen.out; omega
    have KA : Hid (∀ (U : World), Below W.heap.size W U → (U.cell? ⟨w.heap.size, 0, none⟩ = some (.int .i64 s) ∧ U.cell? ⟨w.heap.size, 1, none⟩ = some (.slice a len cap) ∧ U.cell? ⟨w.heap.size, 2, none⟩ = some (.int .i64 p)) ∧ U.cell? ⟨w.heap.size + 1, 0, none⟩ = some (.int .i64 kind) ∧ U.cell? ⟨w.heap.size + 1, 1, none⟩ = some (.int .i64 frm) ∧ U.cell? ⟨w.heap.size + 1, 2, none⟩ = some (.int .i64 dst) ∧ U.cell? ⟨w.heap.size + 1, 3, none⟩ = some (.int .i64 site) ∧ U.cell? ⟨w.heap.size + 1, 4, none⟩ = some (.int .i64 num) ∧ U.cell? ⟨w.heap.size + 1, 5, none⟩ = some (.int .i64 label) ∧ U.cell? ⟨w.heap.size + 1, 6, none⟩ = some (.int .i64 key) ∧ U.cell? ⟨w.heap.size + 1, 7, none⟩ = some (.int .i64 value) ∧ U.cell? ⟨w.heap.size + 1, 8, none⟩ = some (.int .i64 version) ∧ U.cell? ⟨w.heap.size + 1, 9, none⟩ = some (.int .i64 ask) ∧ U.cell? ⟨w.heap.size + 1, 10, none⟩ = some (.bool yes) ∧ U.cell? ⟨w.heap.size + 1, 11, none⟩ = some (.int .i64 code)) := by
      intro V hV
      have e0 : ∀ o, V.cell? ⟨w.heap.size, o, none⟩ = W.cell? ⟨w.heap.size, o, none⟩ := fun o => hV.cell (p := ⟨w.heap.size, o, none⟩) (by show w.heap.size < _; omega)
      have e1 : ∀ o, V.cell? ⟨w.heap.size + 1, o, none⟩ = W.cell? ⟨w.heap.size + 1, o, none⟩ := fun o => hV.cell (p := ⟨w.heap.size + 1, o, none⟩) (by show w.heap.size + 1 < _; omega)
      simp only [e0, e1]
      exact ⟨⟨c0, c1, c2⟩, d0, d1, d2, d3, d4, d5, d6, d7, d8, d9, d10, d11⟩
    go_upto_region 4 with (go_at_call 27; refine (fault_any s p a len cap ls _ hLW).mono ?_; rintro e w1 ⟨rfl, hb1⟩)
    have hbv := hb1
    clear hb1
    clear c0 c1 c2 d0 d1 d2 d3 d4 d5 d6 d7 d8 d9 d10 d11
    obtain ⟨⟨c0, c1, c2⟩, d0, d1, d2, d3, d4, d5, d6, d7, d8, d9, d10, d11⟩ := KA.out _ hbv
    have hRng : Hid (msgRange s ls.length M = (inR frm 0 (s - 1) && inR dst 0 (s - 1) && txnOK s site num && plc label len && inR key 0 7 && inR value 0 1073741824 && inR version 0 1048576 && inR ask 0 1048576 && isCd code)) := by
      show msgRange s ls.length M = _
      rw [EM.out, hlen.out]
      rcases range_of s len kind frm dst site num label key value version ask code yes with e | e
      · exact e
      · omega
    cases hK : inR kind 1 9 with
    | false =>
      have hf := MF.out 3 (mf_kind hF (by rw [EM.out]; exact hK))
      go_wp2_with (go_at_call 57; refine (in_any _ _ _ _).mono ?_; rintro e v ⟨rfl, hv⟩; rw [hv]; clear hv v)
      go_ret
      exact ⟨ret_int hf.symm, hB.trans (hbv.mono hB.size)⟩
    | true =>
    have hKM : Hid (inR M.kind 1 9 = true) := by show inR M.kind 1 9 = true; rw [EM.out]; exact hK
    go_upto_region 6 with (go_at_call 57; refine (in_any _ _ _ _).mono ?_; rintro e v ⟨rfl, hv⟩; rw [hv]; clear hv v)
    cases g0 : inR frm 0 (s - 1) with
    | false =>
      have hf := MF.out 2 (mf_range hF hKM.out (by rw [hRng.out, g0]; simp))
      go_wp2_with (first | (go_at_call 57; refine (in_any _ _ _ _).mono ?_; rintro e v ⟨rfl, hv⟩; rw [hv]; clear hv v) | (go_at_call 59; refine (txnMay_any s p a len cap site num _ ⟨s1, s4⟩).mono ?_; rintro e u ⟨rfl, hu⟩; replace hbv := hbv.trans (hu.mono hbv.size); clear hu; clear c0 c1 c2 d0 d1 d2 d3 d4 d5 d6 d7 d8 d9 d10 d11; obtain ⟨⟨c0, c1, c2⟩, d0, d1, d2, d3, d4, d5, d6, d7, d8, d9, d10, d11⟩ := KA.out _ hbv) | (go_at_call 60; refine (labelMay_any s p a len cap label _ l6).mono ?_; rintro e u ⟨rfl, hu⟩; replace hbv := hbv.trans (hu.mono hbv.size); clear hu; clear c0 c1 c2 d0 d1 d2 d3 d4 d5 d6 d7 d8 d9 d10 d11; obtain ⟨⟨c0, c1, c2⟩, d0, d1, d2, d3, d4, d5, d6, d7, d8, d9, d10, d11⟩ := KA.out _ hbv))
      go_ret
      exact ⟨ret_int hf.symm, hB.trans (hbv.mono hB.size)⟩
    | true =>
    cases g1 : inR dst 0 (s - 1) with
    | false =>
      have hf := MF.out 2 (mf_range hF hKM.out (by rw [hRng.out, g0, g1]; simp))
      go_wp2_with (first | (go_at_call 57; refine (in_any _ _ _ _).mono ?_; rintro e v ⟨rfl, hv⟩; rw [hv]; clear hv v) | (go_at_call 59; refine (txnMay_any s p a len cap site num _ ⟨s1, s4⟩).mono ?_; rintro e u ⟨rfl, hu⟩; replace hbv := hbv.trans (hu.mono hbv.size); clear hu; clear c0 c1 c2 d0 d1 d2 d3 d4 d5 d6 d7 d8 d9 d10 d11; obtain ⟨⟨c0, c1, c2⟩, d0, d1, d2, d3, d4, d5, d6, d7, d8, d9, d10, d11⟩ := KA.out _ hbv) | (go_at_call 60; refine (labelMay_any s p a len cap label _ l6).mono ?_; rintro e u ⟨rfl, hu⟩; replace hbv := hbv.trans (hu.mono hbv.size); clear hu; clear c0 c1 c2 d0 d1 d2 d3 d4 d5 d6 d7 d8 d9 d10 d11; obtain ⟨⟨c0, c1, c2⟩, d0, d1, d2, d3, d4, d5, d6, d7, d8, d9, d10, d11⟩ := KA.out _ hbv))
      go_ret
      exact ⟨ret_int hf.symm, hB.trans (hbv.mono hB.size)⟩
    | true =>
    cases g2 : txnOK s site num with
    | false =>
      have hf := MF.out 2 (mf_range hF hKM.out (by rw [hRng.out, g0, g1, g2]; simp))
      go_wp2_with (first | (go_at_call 57; refine (in_any _ _ _ _).mono ?_; rintro e v ⟨rfl, hv⟩; rw [hv]; clear hv v) | (go_at_call 59; refine (txnMay_any s p a len cap site num _ ⟨s1, s4⟩).mono ?_; rintro e u ⟨rfl, hu⟩; replace hbv := hbv.trans (hu.mono hbv.size); clear hu; clear c0 c1 c2 d0 d1 d2 d3 d4 d5 d6 d7 d8 d9 d10 d11; obtain ⟨⟨c0, c1, c2⟩, d0, d1, d2, d3, d4, d5, d6, d7, d8, d9, d10, d11⟩ := KA.out _ hbv) | (go_at_call 60; refine (labelMay_any s p a len cap label _ l6).mono ?_; rintro e u ⟨rfl, hu⟩; replace hbv := hbv.trans (hu.mono hbv.size); clear hu; clear c0 c1 c2 d0 d1 d2 d3 d4 d5 d6 d7 d8 d9 d10 d11; obtain ⟨⟨c0, c1, c2⟩, d0, d1, d2, d3, d4, d5, d6, d7, d8, d9, d10, d11⟩ := KA.out _ hbv))
      go_ret
      exact ⟨ret_int hf.symm, hB.trans (hbv.mono hB.size)⟩
    | true =>
    cases g3 : plc label len with
    | false =>
      have hf := MF.out 2 (mf_range hF hKM.out (by rw [hRng.out, g0, g1, g2, g3]; simp))
      go_wp2_with (first | (go_at_call 57; refine (in_any _ _ _ _).mono ?_; rintro e v ⟨rfl, hv⟩; rw [hv]; clear hv v) | (go_at_call 59; refine (txnMay_any s p a len cap site num _ ⟨s1, s4⟩).mono ?_; rintro e u ⟨rfl, hu⟩; replace hbv := hbv.trans (hu.mono hbv.size); clear hu; clear c0 c1 c2 d0 d1 d2 d3 d4 d5 d6 d7 d8 d9 d10 d11; obtain ⟨⟨c0, c1, c2⟩, d0, d1, d2, d3, d4, d5, d6, d7, d8, d9, d10, d11⟩ := KA.out _ hbv) | (go_at_call 60; refine (labelMay_any s p a len cap label _ l6).mono ?_; rintro e u ⟨rfl, hu⟩; replace hbv := hbv.trans (hu.mono hbv.size); clear hu; clear c0 c1 c2 d0 d1 d2 d3 d4 d5 d6 d7 d8 d9 d10 d11; obtain ⟨⟨c0, c1, c2⟩, d0, d1, d2, d3, d4, d5, d6, d7, d8, d9, d10, d11⟩ := KA.out _ hbv))
      go_ret
      exact ⟨ret_int hf.symm, hB.trans (hbv.mono hB.size)⟩
    | true =>
    cases g4 : inR key 0 7 with
    | false =>
      have hf := MF.out 2 (mf_range hF hKM.out (by rw [hRng.out, g0, g1, g2, g3, g4]; simp))
      go_wp2_with (first | (go_at_call 57; refine (in_any _ _ _ _).mono ?_; rintro e v ⟨rfl, hv⟩; rw [hv]; clear hv v) | (go_at_call 59; refine (txnMay_any s p a len cap site num _ ⟨s1, s4⟩).mono ?_; rintro e u ⟨rfl, hu⟩; replace hbv := hbv.trans (hu.mono hbv.size); clear hu; clear c0 c1 c2 d0 d1 d2 d3 d4 d5 d6 d7 d8 d9 d10 d11; obtain ⟨⟨c0, c1, c2⟩, d0, d1, d2, d3, d4, d5, d6, d7, d8, d9, d10, d11⟩ := KA.out _ hbv) | (go_at_call 60; refine (labelMay_any s p a len cap label _ l6).mono ?_; rintro e u ⟨rfl, hu⟩; replace hbv := hbv.trans (hu.mono hbv.size); clear hu; clear c0 c1 c2 d0 d1 d2 d3 d4 d5 d6 d7 d8 d9 d10 d11; obtain ⟨⟨c0, c1, c2⟩, d0, d1, d2, d3, d4, d5, d6, d7, d8, d9, d10, d11⟩ := KA.out _ hbv))
      go_ret
      exact ⟨ret_int hf.symm, hB.trans (hbv.mono hB.size)⟩
    | true =>
    cases g5 : inR value 0 1073741824 with
    | false =>
      have hf := MF.out 2 (mf_range hF hKM.out (by rw [hRng.out, g0, g1, g2, g3, g4, g5]; simp))
      go_wp2_with (first | (go_at_call 57; refine (in_any _ _ _ _).mono ?_; rintro e v ⟨rfl, hv⟩; rw [hv]; clear hv v) | (go_at_call 59; refine (txnMay_any s p a len cap site num _ ⟨s1, s4⟩).mono ?_; rintro e u ⟨rfl, hu⟩; replace hbv := hbv.trans (hu.mono hbv.size); clear hu; clear c0 c1 c2 d0 d1 d2 d3 d4 d5 d6 d7 d8 d9 d10 d11; obtain ⟨⟨c0, c1, c2⟩, d0, d1, d2, d3, d4, d5, d6, d7, d8, d9, d10, d11⟩ := KA.out _ hbv) | (go_at_call 60; refine (labelMay_any s p a len cap label _ l6).mono ?_; rintro e u ⟨rfl, hu⟩; replace hbv := hbv.trans (hu.mono hbv.size); clear hu; clear c0 c1 c2 d0 d1 d2 d3 d4 d5 d6 d7 d8 d9 d10 d11; obtain ⟨⟨c0, c1, c2⟩, d0, d1, d2, d3, d4, d5, d6, d7, d8, d9, d10, d11⟩ := KA.out _ hbv))
      go_ret
      exact ⟨ret_int hf.symm, hB.trans (hbv.mono hB.size)⟩
    | true =>
    cases g6 : inR version 0 1048576 with
    | false =>
      have hf := MF.out 2 (mf_range hF hKM.out (by rw [hRng.out, g0, g1, g2, g3, g4, g5, g6]; simp))
      go_wp2_with (first | (go_at_call 57; refine (in_any _ _ _ _).mono ?_; rintro e v ⟨rfl, hv⟩; rw [hv]; clear hv v) | (go_at_call 59; refine (txnMay_any s p a len cap site num _ ⟨s1, s4⟩).mono ?_; rintro e u ⟨rfl, hu⟩; replace hbv := hbv.trans (hu.mono hbv.size); clear hu; clear c0 c1 c2 d0 d1 d2 d3 d4 d5 d6 d7 d8 d9 d10 d11; obtain ⟨⟨c0, c1, c2⟩, d0, d1, d2, d3, d4, d5, d6, d7, d8, d9, d10, d11⟩ := KA.out _ hbv) | (go_at_call 60; refine (labelMay_any s p a len cap label _ l6).mono ?_; rintro e u ⟨rfl, hu⟩; replace hbv := hbv.trans (hu.mono hbv.size); clear hu; clear c0 c1 c2 d0 d1 d2 d3 d4 d5 d6 d7 d8 d9 d10 d11; obtain ⟨⟨c0, c1, c2⟩, d0, d1, d2, d3, d4, d5, d6, d7, d8, d9, d10, d11⟩ := KA.out _ hbv))
      go_ret
      exact ⟨ret_int hf.symm, hB.trans (hbv.mono hB.size)⟩
    | true =>
    cases g7 : inR ask 0 1048576 with
    | false =>
      have hf := MF.out 2 (mf_range hF hKM.out (by rw [hRng.out, g0, g1, g2, g3, g4, g5, g6, g7]; simp))
      go_wp2_with (first | (go_at_call 57; refine (in_any _ _ _ _).mono ?_; rintro e v ⟨rfl, hv⟩; rw [hv]; clear hv v) | (go_at_call 59; refine (txnMay_any s p a len cap site num _ ⟨s1, s4⟩).mono ?_; rintro e u ⟨rfl, hu⟩; replace hbv := hbv.trans (hu.mono hbv.size); clear hu; clear c0 c1 c2 d0 d1 d2 d3 d4 d5 d6 d7 d8 d9 d10 d11; obtain ⟨⟨c0, c1, c2⟩, d0, d1, d2, d3, d4, d5, d6, d7, d8, d9, d10, d11⟩ := KA.out _ hbv) | (go_at_call 60; refine (labelMay_any s p a len cap label _ l6).mono ?_; rintro e u ⟨rfl, hu⟩; replace hbv := hbv.trans (hu.mono hbv.size); clear hu; clear c0 c1 c2 d0 d1 d2 d3 d4 d5 d6 d7 d8 d9 d10 d11; obtain ⟨⟨c0, c1, c2⟩, d0, d1, d2, d3, d4, d5, d6, d7, d8, d9, d10, d11⟩ := KA.out _ hbv))
      go_ret
      exact ⟨ret_int hf.symm, hB.trans (hbv.mono hB.size)⟩
    | true =>
    go_upto_region 8 with (first | (go_at_call 57; refine (in_any _ _ _ _).mono ?_; rintro e v ⟨rfl, hv⟩; rw [hv]; clear hv v) | (go_at_call 59; refine (txnMay_any s p a len cap site num _ ⟨s1, s4⟩).mono ?_; rintro e u ⟨rfl, hu⟩; replace hbv := hbv.trans (hu.mono hbv.size); clear hu; clear c0 c1 c2 d0 d1 d2 d3 d4 d5 d6 d7 d8 d9 d10 d11; obtain ⟨⟨c0, c1, c2⟩, d0, d1, d2, d3, d4, d5, d6, d7, d8, d9, d10, d11⟩ := KA.out _ hbv) | (go_at_call 60; refine (labelMay_any s p a len cap label _ l6).mono ?_; rintro e u ⟨rfl, hu⟩; replace hbv := hbv.trans (hu.mono hbv.size); clear hu; clear c0 c1 c2 d0 d1 d2 d3 d4 d5 d6 d7 d8 d9 d10 d11; obtain ⟨⟨c0, c1, c2⟩, d0, d1, d2, d3, d4, d5, d6, d7, d8, d9, d10, d11⟩ := KA.out _ hbv))
    by_cases q0 : code ≠ 0 ∧ code ≠ 11 ∧ code ≠ 8
    · obtain ⟨q1, q2, q3⟩ := q0
      have hf := MF.out 2 (mf_range hF hKM.out (by rw [hRng.out]; simp [isCd, q1, q2, q3]))
      have q4 : (code == 0) = false := by simpa using q1
      have q5 : (code == 11) = false := by simpa using q2
      have q6 : (code == 8) = false := by simpa using q3
      have q7 : (code != 0) = true := by simpa using q1
      have q8 : (code != 11) = true := by simpa using q2
      have q9 : (code != 8) = true := by simpa using q3
      go_wp2
      go_ret
      exact ⟨ret_int hf.symm, hB.trans (hbv.mono hB.size)⟩
    have hcd : isCd code = true := by unfold isCd; simp; omega
    have hRM : Hid (msgRange s ls.length M = true) := by show msgRange s ls.length M = true; rw [hRng.out, g0, g1, g2, g3, g4, g5, g6, g7, hcd]; rfl
    clear g0 g1 g2 g3 g4 g5 g6 g7 hcd
    have zu : w.heap.size + 1 < u.heap.size := by have := hbv.size; omega
    have zu' : w.heap.size < u.heap.size := by omega
    have hF' : Hid (cfgFault s ls p = 0) := hF
    have hBU : Hid (Below w.heap.size w u) := hB.trans (hbv.mono hB.size)
    have q00 : code = 0 ∨ code = 11 ∨ code = 8 := by omega
    clear q0 KA hRng c0 c1 c2 hLW h hF n1 n6 s1 s4 l6 hlen hB hbv zW
    rcases q00 with rfl | rfl | rfl
    all_goals
      rcases kind_cases hK with rfl | rfl | rfl | rfl | rfl | rfl | rfl | rfl | rfl
      all_goals
        go_wp2
        all_goals
          go_ret
          refine ⟨ret_int (Eq.symm ?_), hBU.out.alloc (by omega) _⟩
          first
          | exact MF.out 0 (mf_ok hF'.out hKM.out hRM.out (by
              rw [EM.out]
              (first | rw [form_1] | rw [form_2] | rw [form_3] | rw [form_4] | rw [form_5] | rw [form_6] | rw [form_7] | rw [form_8] | rw [form_9])
              refine decide_eq_true ?_
              and_intros
              all_goals first | omega | simpa using ‹¬ yes = true›))
          | exact MF.out 4 (mf_form hF'.out hKM.out hRM.out (by
              rw [EM.out]
              (first | rw [form_1] | rw [form_2] | rw [form_3] | rw [form_4] | rw [form_5] | rw [form_6] | rw [form_7] | rw [form_8] | rw [form_9])
              refine decide_eq_false ?_
              intro hh
              first
              | omega
              | (have hy : yes = true := by assumption
                 simp [hy] at hh)))
  · have hf := MF.out _ (mf_cfg hF)
    go_wp2_with (go_at_call 27; refine (fault_any s p a len cap ls _ hLW).mono ?_; rintro e w1 ⟨rfl, hb1⟩)
    go_ret
    exact ⟨ret_int hf.symm, hB.trans (hb1.mono hB.size)⟩
end Go.Proofs.YtflfcjbgkpfgkaaDoor
/- The contract of the document's answer RecordFault: at every config and record it returns the fault that recFault tells, and leaves what was in memory. -/
namespace Go.Proofs.YtflfcjbgkpfgkaaDoor
open Go.ChangeShapes Go.WideShapes Go.ChangeAt Go.RowKit
set_option linter.unusedVariables false

theorem rising_len (s : Int) : ∀ (zs : List Int) (low : Int), rising s low zs = true → zs = [] ∨ (zs.length : Int) ≤ s - low := by
  intro zs
  induction zs with
  | nil => intro low _; exact .inl rfl
  | cons n r ih =>
    intro low h
    right
    simp only [rising, Bool.and_eq_true] at h
    have h1 := inR_of h.1
    rcases ih (n + 1) h.2 with e | e
    · rw [e]
      simp
      omega
    · simp
      omega

theorem rrange_of (s : Int) (n : Nat) (kind site num key value ask : Int) (yes : Bool) (sa : Option Addr) (sl sc : Nat) (sites : List Int) (hs : s ≤ 4) (h1 : 1 ≤ n) (h6 : n ≤ 6) (hl : sites.length = sl) :
    recRange s n ⟨kind, site, num, key, value, ask, yes, sa, sl, sc, sites⟩ = (txnOK s site num && inR key 0 7 && inR value 0 1073741824 && inR ask 0 1048576 && rising s 0 sites) := by
  have hp : partsOK n [0, key, value, 0, ask, bit yes, 0, (sl : Int)] = (inR key 0 7 && inR value 0 1073741824 && inR ask 0 1048576 && inR (sl : Int) 0 4) := by
    have hb : inR (bit yes) 0 1 = true := by cases yes <;> rfl
    have a1 : inR 0 0 5 = true := rfl
    have a2 : inR 0 0 1048576 = true := rfl
    have a3 : inR 0 0 11 = true := rfl
    have a4 : plc 0 n = true := by simp [plc]; omega
    have a5 : isCd 0 = true := rfl
    unfold partsOK
    simp only [inTops, topL, List.getD_cons_zero, hb, a1, a2, a3, a4, Bool.and_true, Bool.true_and]
    simp only [List.getD, List.getElem?_cons_succ, List.getElem?_cons_zero, Option.getD_some, a5, Bool.and_true, Bool.and_assoc]
  have e : recRange s n ⟨kind, site, num, key, value, ask, yes, sa, sl, sc, sites⟩ = (txnOK s site num && partsOK n [0, key, value, 0, ask, bit yes, 0, (sl : Int)] && rising s 0 sites) := rfl
  rw [e, hp]
  cases hr : rising s 0 sites with
  | false => simp
  | true =>
    have hL : inR (sl : Int) 0 4 = true := by
      rcases rising_len s sites 0 hr with e | e
      · rw [e] at hl
        exact inR_true (by omega) (by simp at hl; omega)
      · exact inR_true (by omega) (by omega)
    rw [hL]
    simp only [Bool.and_true, Bool.and_assoc]

theorem rkind_cases {k : Int} (h : inR k 1 6 = true) : k = 1 ∨ k = 2 ∨ k = 3 ∨ k = 4 ∨ k = 5 ∨ k = 6 := by
  have := inR_of h
  omega

theorem rform_1 (site num key value ask : Int) (yes : Bool) (sa : Option Addr) (sl sc : Nat) (sites : List Int) : recForm ⟨1, site, num, key, value, ask, yes, sa, sl, sc, sites⟩ = decide (yes = false ∧ sl = 0) := by
  rw [Bool.eq_iff_iff, decide_eq_true_eq]
  cases yes <;> simp [recForm, rHasOf, rHas, hasAll, bit] <;> omega
theorem rform_2 (site num key value ask : Int) (yes : Bool) (sa : Option Addr) (sl sc : Nat) (sites : List Int) : recForm ⟨2, site, num, key, value, ask, yes, sa, sl, sc, sites⟩ = decide (key = 0 ∧ value = 0 ∧ ask = 0 ∧ sl = 0) := by
  rw [Bool.eq_iff_iff, decide_eq_true_eq]
  cases yes <;> simp [recForm, rHasOf, rHas, hasAll, bit] <;> omega
theorem rform_3 (site num key value ask : Int) (yes : Bool) (sa : Option Addr) (sl sc : Nat) (sites : List Int) : recForm ⟨3, site, num, key, value, ask, yes, sa, sl, sc, sites⟩ = decide (key = 0 ∧ value = 0 ∧ ask = 0 ∧ yes = false) := by
  rw [Bool.eq_iff_iff, decide_eq_true_eq]
  cases yes <;> simp [recForm, rHasOf, rHas, hasAll, bit] <;> omega
theorem rform_4 (site num key value ask : Int) (yes : Bool) (sa : Option Addr) (sl sc : Nat) (sites : List Int) : recForm ⟨4, site, num, key, value, ask, yes, sa, sl, sc, sites⟩ = decide (key = 0 ∧ value = 0 ∧ ask = 0 ∧ yes = false ∧ sl = 0) := by
  rw [Bool.eq_iff_iff, decide_eq_true_eq]
  cases yes <;> simp [recForm, rHasOf, rHas, hasAll, bit] <;> omega
theorem rform_5 (site num key value ask : Int) (yes : Bool) (sa : Option Addr) (sl sc : Nat) (sites : List Int) : recForm ⟨5, site, num, key, value, ask, yes, sa, sl, sc, sites⟩ = decide (key = 0 ∧ value = 0 ∧ ask = 0 ∧ yes = false ∧ sl = 0) := by
  rw [Bool.eq_iff_iff, decide_eq_true_eq]
  cases yes <;> simp [recForm, rHasOf, rHas, hasAll, bit] <;> omega
theorem rform_6 (site num key value ask : Int) (yes : Bool) (sa : Option Addr) (sl sc : Nat) (sites : List Int) : recForm ⟨6, site, num, key, value, ask, yes, sa, sl, sc, sites⟩ = decide (key = 0 ∧ value = 0 ∧ ask = 0 ∧ sl = 0) := by
  rw [Bool.eq_iff_iff, decide_eq_true_eq]
  cases yes <;> simp [recForm, rHasOf, rHas, hasAll, bit] <;> omega

set_option maxRecDepth 100000 in
set_option maxHeartbeats 4000000 in
theorem recordFault_any (s p : Int) (a : Option Addr) (len cap : Nat) (ls : List (Int × Int)) (r : RcV) (w : World) (h : IsLabs w a len cap ls) (hi : IsInts w r.sa r.sl r.sc r.sites) :
    Calls Tryd.prog 62 #[.agg #[.int .i64 s, .slice a len cap, .int .i64 p], r.val] w fun e w' => e = .returned (.int .i64 (recFault s ls p r)) ∧ Below w.heap.size w w' := by
  obtain ⟨kind, site, num, key, value, ask, yes, sa, sl, sc, sites⟩ := r
  obtain ⟨M, eM⟩ : ∃ M : RcV, M = ⟨kind, site, num, key, value, ask, yes, sa, sl, sc, sites⟩ := ⟨_, rfl⟩
  have EM : Hid (M = ⟨kind, site, num, key, value, ask, yes, sa, sl, sc, sites⟩) := eM
  have hMF : ∀ v, recFault s ls p M = v → recFault s ls p ⟨kind, site, num, key, value, ask, yes, sa, sl, sc, sites⟩ = v := fun v hv => by rw [← eM]; exact hv
  have MF : Hid (∀ v, recFault s ls p M = v → recFault s ls p ⟨kind, site, num, key, value, ask, yes, sa, sl, sc, sites⟩ = v) := hMF
  clear hMF eM
  simp only [RcV.val]
  have hi' : IsInts w sa sl sc sites := hi
  clear hi
  obtain ⟨W, hW⟩ : ∃ W : World, W = (w.alloc (.cells #[.int .i64 s, .slice a len cap, .int .i64 p] 24)).alloc (.cells #[.int .i64 kind, .int .i64 site, .int .i64 num, .int .i64 key, .int .i64 value, .int .i64 ask, .bool yes, .slice sa sl sc] 56) := ⟨_, rfl⟩
  have hB : Below w.heap.size w W := by rw [hW]; exact ((Below.refl _ _).alloc (Nat.le_refl _) _).alloc (by simp) _
  have zW : W.heap.size = w.heap.size + 2 := by rw [hW]; simp
  have c0 : W.cell? ⟨w.heap.size, 0, none⟩ = some (.int .i64 s) := by rw [hW]; go_simp
  have c1 : W.cell? ⟨w.heap.size, 1, none⟩ = some (.slice a len cap) := by rw [hW]; go_simp
  have c2 : W.cell? ⟨w.heap.size, 2, none⟩ = some (.int .i64 p) := by rw [hW]; go_simp
  have d0 : W.cell? ⟨w.heap.size + 1, 0, none⟩ = some (.int .i64 kind) := by rw [hW]; go_simp
  have d1 : W.cell? ⟨w.heap.size + 1, 1, none⟩ = some (.int .i64 site) := by rw [hW]; go_simp
  have d2 : W.cell? ⟨w.heap.size + 1, 2, none⟩ = some (.int .i64 num) := by rw [hW]; go_simp
  have d3 : W.cell? ⟨w.heap.size + 1, 3, none⟩ = some (.int .i64 key) := by rw [hW]; go_simp
  have d4 : W.cell? ⟨w.heap.size + 1, 4, none⟩ = some (.int .i64 value) := by rw [hW]; go_simp
  have d5 : W.cell? ⟨w.heap.size + 1, 5, none⟩ = some (.int .i64 ask) := by rw [hW]; go_simp
  have d6 : W.cell? ⟨w.heap.size + 1, 6, none⟩ = some (.bool yes) := by rw [hW]; go_simp
  have d7 : W.cell? ⟨w.heap.size + 1, 7, none⟩ = some (.slice sa sl sc) := by rw [hW]; go_simp
  have hLW := h.below hB
  have hIW := hi'.below hB
  go_enter Tryd.func62, Tryd.ntmps62
  go_upto_region 1 with (fail)
  rw [← hW]
  clear hW
  by_cases hF : cfgFault s ls p = 0
  · obtain ⟨s1, s4, n1, n6, _, _, _⟩ := cfg_zero hF
    have hlen : Hid (ls.length = len) := h.1
    have HL : Hid (sites.length = sl) := hi'.1
    have hmx : sl ≤ 140737488355328 ∨ True := .inr trivial
    have hcm : sl ≤ maxLen := Nat.le_trans hi'.2.1 hi'.2.2.1
    unfold maxLen at hcm
    have KA : Hid (∀ (U : World), Below W.heap.size W U → (U.cell? ⟨w.heap.size, 0, none⟩ = some (.int .i64 s) ∧ U.cell? ⟨w.heap.size, 1, none⟩ = some (.slice a len cap) ∧ U.cell? ⟨w.heap.size, 2, none⟩ = some (.int .i64 p)) ∧ (U.cell? ⟨w.heap.size + 1, 0, none⟩ = some (.int .i64 kind) ∧ U.cell? ⟨w.heap.size + 1, 1, none⟩ = some (.int .i64 site) ∧ U.cell? ⟨w.heap.size + 1, 2, none⟩ = some (.int .i64 num) ∧ U.cell? ⟨w.heap.size + 1, 3, none⟩ = some (.int .i64 key) ∧ U.cell? ⟨w.heap.size + 1, 4, none⟩ = some (.int .i64 value) ∧ U.cell? ⟨w.heap.size + 1, 5, none⟩ = some (.int .i64 ask) ∧ U.cell? ⟨w.heap.size + 1, 6, none⟩ = some (.bool yes) ∧ U.cell? ⟨w.heap.size + 1, 7, none⟩ = some (.slice sa sl sc))) := by
      intro V hV
      have e0 : ∀ o, V.cell? ⟨w.heap.size, o, none⟩ = W.cell? ⟨w.heap.size, o, none⟩ := fun o => hV.cell (p := ⟨w.heap.size, o, none⟩) (by show w.heap.size < _; omega)
      have e1 : ∀ o, V.cell? ⟨w.heap.size + 1, o, none⟩ = W.cell? ⟨w.heap.size + 1, o, none⟩ := fun o => hV.cell (p := ⟨w.heap.size + 1, o, none⟩) (by show w.heap.size + 1 < _; omega)
      simp only [e0, e1]
      exact ⟨⟨c0, c1, c2⟩, d0, d1, d2, d3, d4, d5, d6, d7⟩
    go_upto_region 4 with (go_at_call 27; refine (fault_any s p a len cap ls _ hLW).mono ?_; rintro e w1 ⟨rfl, hb1⟩)
    have hbv := hb1
    clear hb1
    clear c0 c1 c2 d0 d1 d2 d3 d4 d5 d6 d7
    obtain ⟨⟨c0, c1, c2⟩, d0, d1, d2, d3, d4, d5, d6, d7⟩ := KA.out _ hbv
    have hRng : Hid (recRange s ls.length M = (txnOK s site num && inR key 0 7 && inR value 0 1073741824 && inR ask 0 1048576 && rising s 0 sites)) := by
      show recRange s ls.length M = _
      rw [EM.out]
      exact rrange_of s ls.length kind site num key value ask yes sa sl sc sites s4 n1 n6 HL.out
    cases hK : inR kind 1 6 with
    | false =>
      have hf := MF.out 3 (rf_kind hF (by rw [EM.out]; exact hK))
      go_wp2_with (go_at_call 57; refine (in_any _ _ _ _).mono ?_; rintro e v ⟨rfl, hv⟩; rw [hv]; clear hv v)
      go_ret
      exact ⟨ret_int hf.symm, hB.trans (hbv.mono hB.size)⟩
    | true =>
    have hKM : Hid (inR M.kind 1 6 = true) := by show inR M.kind 1 6 = true; rw [EM.out]; exact hK
    go_upto_region 6 with (go_at_call 57; refine (in_any _ _ _ _).mono ?_; rintro e v ⟨rfl, hv⟩; rw [hv]; clear hv v)
    cases g0 : txnOK s site num with
    | false =>
      have hf := MF.out 2 (rf_range hF hKM.out (by rw [hRng.out, g0]; simp))
      go_wp2_with (first | (go_at_call 57; refine (in_any _ _ _ _).mono ?_; rintro e v ⟨rfl, hv⟩; rw [hv]; clear hv v) | (go_at_call 59; refine (txnMay_any s p a len cap site num _ ⟨s1, s4⟩).mono ?_; rintro e u ⟨rfl, hu⟩; replace hbv := hbv.trans (hu.mono hbv.size); clear hu; clear c0 c1 c2 d0 d1 d2 d3 d4 d5 d6 d7; obtain ⟨⟨c0, c1, c2⟩, d0, d1, d2, d3, d4, d5, d6, d7⟩ := KA.out _ hbv))
      go_ret
      exact ⟨ret_int hf.symm, hB.trans (hbv.mono hB.size)⟩
    | true =>
    cases g1 : inR key 0 7 with
    | false =>
      have hf := MF.out 2 (rf_range hF hKM.out (by rw [hRng.out, g0, g1]; simp))
      go_wp2_with (first | (go_at_call 57; refine (in_any _ _ _ _).mono ?_; rintro e v ⟨rfl, hv⟩; rw [hv]; clear hv v) | (go_at_call 59; refine (txnMay_any s p a len cap site num _ ⟨s1, s4⟩).mono ?_; rintro e u ⟨rfl, hu⟩; replace hbv := hbv.trans (hu.mono hbv.size); clear hu; clear c0 c1 c2 d0 d1 d2 d3 d4 d5 d6 d7; obtain ⟨⟨c0, c1, c2⟩, d0, d1, d2, d3, d4, d5, d6, d7⟩ := KA.out _ hbv))
      go_ret
      exact ⟨ret_int hf.symm, hB.trans (hbv.mono hB.size)⟩
    | true =>
    cases g2 : inR value 0 1073741824 with
    | false =>
      have hf := MF.out 2 (rf_range hF hKM.out (by rw [hRng.out, g0, g1, g2]; simp))
      go_wp2_with (first | (go_at_call 57; refine (in_any _ _ _ _).mono ?_; rintro e v ⟨rfl, hv⟩; rw [hv]; clear hv v) | (go_at_call 59; refine (txnMay_any s p a len cap site num _ ⟨s1, s4⟩).mono ?_; rintro e u ⟨rfl, hu⟩; replace hbv := hbv.trans (hu.mono hbv.size); clear hu; clear c0 c1 c2 d0 d1 d2 d3 d4 d5 d6 d7; obtain ⟨⟨c0, c1, c2⟩, d0, d1, d2, d3, d4, d5, d6, d7⟩ := KA.out _ hbv))
      go_ret
      exact ⟨ret_int hf.symm, hB.trans (hbv.mono hB.size)⟩
    | true =>
    cases g3 : inR ask 0 1048576 with
    | false =>
      have hf := MF.out 2 (rf_range hF hKM.out (by rw [hRng.out, g0, g1, g2, g3]; simp))
      go_wp2_with (first | (go_at_call 57; refine (in_any _ _ _ _).mono ?_; rintro e v ⟨rfl, hv⟩; rw [hv]; clear hv v) | (go_at_call 59; refine (txnMay_any s p a len cap site num _ ⟨s1, s4⟩).mono ?_; rintro e u ⟨rfl, hu⟩; replace hbv := hbv.trans (hu.mono hbv.size); clear hu; clear c0 c1 c2 d0 d1 d2 d3 d4 d5 d6 d7; obtain ⟨⟨c0, c1, c2⟩, d0, d1, d2, d3, d4, d5, d6, d7⟩ := KA.out _ hbv))
      go_ret
      exact ⟨ret_int hf.symm, hB.trans (hbv.mono hB.size)⟩
    | true =>
    have hRr : Hid (recRange s ls.length M = rising s 0 sites) := by show recRange s ls.length M = _; rw [hRng.out, g0, g1, g2, g3]; simp
    have cIn := fun n w' => Calls.mono (in_any n 0 (s - 1) w') (fun e w'' hh => show e = .returned (.bool (inR n 0 (s - 1))) ∧ Below w'.heap.size w' w'' from ⟨hh.1, by rw [hh.2]; exact Below.refl _ _⟩)
    go_upto_region 9 with (first | (go_at_call 57; refine (in_any _ _ _ _).mono ?_; rintro e v ⟨rfl, hv⟩; rw [hv]; clear hv v) | (go_at_call 59; refine (txnMay_any s p a len cap site num _ ⟨s1, s4⟩).mono ?_; rintro e u ⟨rfl, hu⟩; replace hbv := hbv.trans (hu.mono hbv.size); clear hu; clear c0 c1 c2 d0 d1 d2 d3 d4 d5 d6 d7; obtain ⟨⟨c0, c1, c2⟩, d0, d1, d2, d3, d4, d5, d6, d7⟩ := KA.out _ hbv))
    clear hRng g0 g1 g2 g3
    have hIu := hIW.below hbv
    have hBu : Below w.heap.size w u := hB.trans (hbv.mono hB.size)
    obtain ⟨_, _, _, _, hmem⟩ := hIu
    go_loopw [6] (fun i wr => ∃ (k : Nat) (l : Int), k ≤ sl ∧ i = .int .i64 k ∧ 0 ≤ l ∧ l ≤ 4 ∧ (k = 0 → l = 0) ∧ (0 < k → sites.getD (k - 1) 0 = l - 1 ∧ 1 ≤ l) ∧ Hid (rising s 0 sites = rising s l (sites.drop k)) ∧ Below u.heap.size u wr) (fun i _ => sl - (intOf i).toNat)
    case atStart => exact ⟨0, 0, by omega, rfl, by omega, by omega, fun _ => rfl, fun h => absurd h (by omega), rfl, Below.refl _ _⟩
    case round =>
      obtain ⟨k, l, hk, rfl, l0, l4, hk0, hkp, hat, hbr⟩ := hrel
      have hbx : Below W.heap.size W wr := hbv.trans (hbr.mono hbv.size)
      have hbw : Below w.heap.size w wr := hBu.trans (hbr.mono hBu.size)
      clear c0 c1 c2 d0 d1 d2 d3 d4 d5 d6 d7
      obtain ⟨⟨c0, c1, c2⟩, d0, d1, d2, d3, d4, d5, d6, d7⟩ := KA.out _ hbx
      by_cases hlt : k < sl
      · obtain ⟨b, off, rfl, hbl, hcell⟩ := hmem (by omega)
        have hr := hcell k hlt
        rw [← hbr.cell (p := ⟨b, off + k, none⟩) hbl] at hr
        have hdrop := drop_int (zs := sites) (k := k) (by have := HL.out; omega)
        obtain ⟨n, en⟩ : ∃ n, n = sites.getD k 0 := ⟨_, rfl⟩
        rw [← en] at hr hdrop
        have hdrop' : Hid (sites.drop k = n :: sites.drop (k + 1)) := hdrop
        have EN : Hid (n = sites.getD k 0) := en
        clear hdrop en
        have hlt' : (k : Int) < (sl : Int) := by omega
        have cN := cIn n
        have Gc0 := fun d os => cell_regrown c0 d os
        have Gd7 := fun d os => cell_regrown d7 d os
        have Gr := fun d os => cell_regrown hr d os
        cases e : inR n 0 (s - 1) with
        | false =>
          rw [e] at cN
          have hf := MF.out 2 (rf_range hF hKM.out (by
            rw [hRr.out, hat.out, hdrop'.out]
            have := inR_not e
            have e' : inR n l (s - 1) = false := inR_false (by omega)
            simp [rising, e']))
          clear e
          go_upto_region 11 with (fail)
          refine wp_region_quiet_below (by kernel_rfl) (by kernel_rfl) ?_
          repeat (go_big_quiet_step (exact Calls.regrown_of (cN _)))
          refine wpQuiet_nil ?_
          intro _ hw'
          obtain ⟨⟨dq, osq⟩, hw''⟩ := hw'
          subst hw''
          have hBr := below_regrown wr dq osq
          go_wp2
          go_ret
          exact ⟨ret_int hf.symm, hbw.trans (hBr.mono hbw.size)⟩
        | true =>
          rw [e] at cN
          have eb := inR_of e
          clear e
          by_cases hz : k = 0
          · subst hz
            simp only [Nat.add_zero] at hr
            have Gr0 := fun d os => cell_regrown hr d os
            have hlt0 : (0 : Int) < (sl : Int) := by omega
            have hl0 := hk0 rfl
            have hn : Hid (rising s 0 sites = rising s (n + 1) (sites.drop (0 + 1))) := by
              show rising s 0 sites = _
              rw [hat.out, hdrop'.out]
              have e' : inR n l (s - 1) = true := inR_true (by omega) (by omega)
              simp [rising, e']
            have EN' : Hid (sites.getD (0 + 1 - 1) 0 = n + 1 - 1 ∧ 1 ≤ n + 1) := ⟨by have := EN.out; simp at this ⊢; omega, by omega⟩
            clear hk0 hkp hat
            go_upto_region 11 with (fail)
            refine wp_region_quiet_below (by kernel_rfl) (by kernel_rfl) ?_
            repeat (go_big_quiet_step (exact Calls.regrown_of (cN _)))
            refine wpQuiet_nil ?_
            intro _ hw'
            obtain ⟨⟨dq, osq⟩, hw''⟩ := hw'
            subst hw''
            have hBr := below_regrown wr dq osq
            go_wp2
            go_roundw
            case rel => exact ⟨0 + 1, n + 1, by omega, by go_num, by omega, by omega, fun h => absurd h (by omega), fun _ => EN'.out, hn, hbr.trans (hBr.mono hbr.size)⟩
            case measure => simp [intOf]; omega
          · obtain ⟨j, rfl⟩ : ∃ j, k = j + 1 := ⟨k - 1, by omega⟩
            obtain ⟨hpv, hl1⟩ := hkp (by omega)
            simp only [Nat.add_sub_cancel] at hpv
            have hr2 := hcell j (by omega)
            rw [← hbr.cell (p := ⟨b, off + j, none⟩) hbl, hpv] at hr2
            have Gr2 := fun d os => cell_regrown hr2 d os
            have hpos : (0 : Int) < (j : Int) + 1 := by omega
            have hjl : (j : Int) < (sl : Int) := by omega
            have hj1 : (j : Int) + 1 < (sl : Int) := by omega
            by_cases hle : n ≤ l - 1
            · have hf := MF.out 2 (rf_range hF hKM.out (by
                rw [hRr.out, hat.out, hdrop'.out]
                have e' : inR n l (s - 1) = false := inR_false (by omega)
                simp [rising, e']))
              have hdd : decide (n ≤ l - 1) = true := by simpa using hle
              clear hk0 hkp hat hpv
              go_upto_region 11 with (fail)
              refine wp_region_quiet_below (by kernel_rfl) (by kernel_rfl) ?_
              repeat (go_big_quiet_step (exact Calls.regrown_of (cN _)))
              refine wpQuiet_nil ?_
              intro _ hw'
              obtain ⟨⟨dq, osq⟩, hw''⟩ := hw'
              subst hw''
              have hBr := below_regrown wr dq osq
              go_wp2
              go_ret
              exact ⟨ret_int hf.symm, hbw.trans (hBr.mono hbw.size)⟩
            · have hn : Hid (rising s 0 sites = rising s (n + 1) (sites.drop (j + 1 + 1))) := by
                show rising s 0 sites = _
                rw [hat.out, hdrop'.out]
                have e' : inR n l (s - 1) = true := inR_true (by omega) (by omega)
                simp [rising, e']
              have EN' : Hid (sites.getD (j + 1 + 1 - 1) 0 = n + 1 - 1 ∧ 1 ≤ n + 1) := ⟨by have := EN.out; simp at this ⊢; omega, by omega⟩
              have hdd : decide (n ≤ l - 1) = false := by simpa using hle
              clear hk0 hkp hat hpv
              go_upto_region 11 with (fail)
              refine wp_region_quiet_below (by kernel_rfl) (by kernel_rfl) ?_
              repeat (go_big_quiet_step (exact Calls.regrown_of (cN _)))
              refine wpQuiet_nil ?_
              intro _ hw'
              obtain ⟨⟨dq, osq⟩, hw''⟩ := hw'
              subst hw''
              have hBr := below_regrown wr dq osq
              go_wp2
              go_roundw
              case rel => exact ⟨j + 1 + 1, n + 1, by omega, by go_num, by omega, by omega, fun h => absurd h (by omega), fun _ => EN'.out, hn, hbr.trans (hBr.mono hbr.size)⟩
              case measure => simp [intOf]; omega
      · have he : k = sl := by omega
        have hRM : Hid (recRange s ls.length M = true) := by
          show recRange s ls.length M = true
          rw [hRr.out, hat.out, he, ← HL.out, List.drop_length]
          rfl
        subst he
        clear hat hk0 hkp
        go_upto_region 13 with (fail)
        rcases rkind_cases hK with rfl | rfl | rfl | rfl | rfl | rfl
        · cases yes with
          | true =>
            go_wp2
            go_ret
            exact ⟨ret_int (MF.out 4 (rf_form hF hKM.out hRM.out (by rw [EM.out, rform_1]; simp [*]))).symm, hbw⟩
          | false =>
          rcases Nat.eq_zero_or_pos k with qz | qz
          · subst qz
            go_wp2
            go_ret
            exact ⟨ret_int (MF.out 0 (rf_ok hF hKM.out hRM.out (by rw [EM.out, rform_1]; simp [*]))).symm, hbw⟩
          · have qn : (0 : Int) < (k : Int) := by omega
            have q0 : ¬ k = 0 := by omega
            go_wp2
            go_ret
            exact ⟨ret_int (MF.out 4 (rf_form hF hKM.out hRM.out (by rw [EM.out, rform_1]; simp [*]))).symm, hbw⟩
        · rcases Classical.em (key ≠ 0) with qkey | qkey
          · have r1 : (key == 0) = false := by simpa using qkey
            have r2 : (key != 0) = true := by simpa using qkey
            go_wp2
            go_ret
            exact ⟨ret_int (MF.out 4 (rf_form hF hKM.out hRM.out (by rw [EM.out, rform_2]; simp [*]))).symm, hbw⟩
          obtain rfl : key = 0 := Classical.not_not.1 qkey
          clear qkey
          · rcases Classical.em (value ≠ 0) with qvalue | qvalue
            · have r1 : (value == 0) = false := by simpa using qvalue
              have r2 : (value != 0) = true := by simpa using qvalue
              go_wp2
              go_ret
              exact ⟨ret_int (MF.out 4 (rf_form hF hKM.out hRM.out (by rw [EM.out, rform_2]; simp [*]))).symm, hbw⟩
            obtain rfl : value = 0 := Classical.not_not.1 qvalue
            clear qvalue
            · rcases Classical.em (ask ≠ 0) with qask | qask
              · have r1 : (ask == 0) = false := by simpa using qask
                have r2 : (ask != 0) = true := by simpa using qask
                go_wp2
                go_ret
                exact ⟨ret_int (MF.out 4 (rf_form hF hKM.out hRM.out (by rw [EM.out, rform_2]; simp [*]))).symm, hbw⟩
              obtain rfl : ask = 0 := Classical.not_not.1 qask
              clear qask
              rcases Nat.eq_zero_or_pos k with qz | qz
              · subst qz
                go_wp2
                go_ret
                exact ⟨ret_int (MF.out 0 (rf_ok hF hKM.out hRM.out (by rw [EM.out, rform_2]; simp [*]))).symm, hbw⟩
              · have qn : (0 : Int) < (k : Int) := by omega
                have q0 : ¬ k = 0 := by omega
                go_wp2
                go_ret
                exact ⟨ret_int (MF.out 4 (rf_form hF hKM.out hRM.out (by rw [EM.out, rform_2]; simp [*]))).symm, hbw⟩
        · rcases Classical.em (key ≠ 0) with qkey | qkey
          · have r1 : (key == 0) = false := by simpa using qkey
            have r2 : (key != 0) = true := by simpa using qkey
            go_wp2
            go_ret
            exact ⟨ret_int (MF.out 4 (rf_form hF hKM.out hRM.out (by rw [EM.out, rform_3]; simp [*]))).symm, hbw⟩
          obtain rfl : key = 0 := Classical.not_not.1 qkey
          clear qkey
          · rcases Classical.em (value ≠ 0) with qvalue | qvalue
            · have r1 : (value == 0) = false := by simpa using qvalue
              have r2 : (value != 0) = true := by simpa using qvalue
              go_wp2
              go_ret
              exact ⟨ret_int (MF.out 4 (rf_form hF hKM.out hRM.out (by rw [EM.out, rform_3]; simp [*]))).symm, hbw⟩
            obtain rfl : value = 0 := Classical.not_not.1 qvalue
            clear qvalue
            · rcases Classical.em (ask ≠ 0) with qask | qask
              · have r1 : (ask == 0) = false := by simpa using qask
                have r2 : (ask != 0) = true := by simpa using qask
                go_wp2
                go_ret
                exact ⟨ret_int (MF.out 4 (rf_form hF hKM.out hRM.out (by rw [EM.out, rform_3]; simp [*]))).symm, hbw⟩
              obtain rfl : ask = 0 := Classical.not_not.1 qask
              clear qask
              cases yes with
              | true =>
                go_wp2
                go_ret
                exact ⟨ret_int (MF.out 4 (rf_form hF hKM.out hRM.out (by rw [EM.out, rform_3]; simp [*]))).symm, hbw⟩
              | false =>
              go_wp2
              go_ret
              exact ⟨ret_int (MF.out 0 (rf_ok hF hKM.out hRM.out (by rw [EM.out, rform_3]; simp [*]))).symm, hbw⟩
        · rcases Classical.em (key ≠ 0) with qkey | qkey
          · have r1 : (key == 0) = false := by simpa using qkey
            have r2 : (key != 0) = true := by simpa using qkey
            go_wp2
            go_ret
            exact ⟨ret_int (MF.out 4 (rf_form hF hKM.out hRM.out (by rw [EM.out, rform_4]; simp [*]))).symm, hbw⟩
          obtain rfl : key = 0 := Classical.not_not.1 qkey
          clear qkey
          · rcases Classical.em (value ≠ 0) with qvalue | qvalue
            · have r1 : (value == 0) = false := by simpa using qvalue
              have r2 : (value != 0) = true := by simpa using qvalue
              go_wp2
              go_ret
              exact ⟨ret_int (MF.out 4 (rf_form hF hKM.out hRM.out (by rw [EM.out, rform_4]; simp [*]))).symm, hbw⟩
            obtain rfl : value = 0 := Classical.not_not.1 qvalue
            clear qvalue
            · rcases Classical.em (ask ≠ 0) with qask | qask
              · have r1 : (ask == 0) = false := by simpa using qask
                have r2 : (ask != 0) = true := by simpa using qask
                go_wp2
                go_ret
                exact ⟨ret_int (MF.out 4 (rf_form hF hKM.out hRM.out (by rw [EM.out, rform_4]; simp [*]))).symm, hbw⟩
              obtain rfl : ask = 0 := Classical.not_not.1 qask
              clear qask
              cases yes with
              | true =>
                go_wp2
                go_ret
                exact ⟨ret_int (MF.out 4 (rf_form hF hKM.out hRM.out (by rw [EM.out, rform_4]; simp [*]))).symm, hbw⟩
              | false =>
              rcases Nat.eq_zero_or_pos k with qz | qz
              · subst qz
                go_wp2
                go_ret
                exact ⟨ret_int (MF.out 0 (rf_ok hF hKM.out hRM.out (by rw [EM.out, rform_4]; simp [*]))).symm, hbw⟩
              · have qn : (0 : Int) < (k : Int) := by omega
                have q0 : ¬ k = 0 := by omega
                go_wp2
                go_ret
                exact ⟨ret_int (MF.out 4 (rf_form hF hKM.out hRM.out (by rw [EM.out, rform_4]; simp [*]))).symm, hbw⟩
        · rcases Classical.em (key ≠ 0) with qkey | qkey
          · have r1 : (key == 0) = false := by simpa using qkey
            have r2 : (key != 0) = true := by simpa using qkey
            go_wp2
            go_ret
            exact ⟨ret_int (MF.out 4 (rf_form hF hKM.out hRM.out (by rw [EM.out, rform_5]; simp [*]))).symm, hbw⟩
          obtain rfl : key = 0 := Classical.not_not.1 qkey
          clear qkey
          · rcases Classical.em (value ≠ 0) with qvalue | qvalue
            · have r1 : (value == 0) = false := by simpa using qvalue
              have r2 : (value != 0) = true := by simpa using qvalue
              go_wp2
              go_ret
              exact ⟨ret_int (MF.out 4 (rf_form hF hKM.out hRM.out (by rw [EM.out, rform_5]; simp [*]))).symm, hbw⟩
            obtain rfl : value = 0 := Classical.not_not.1 qvalue
            clear qvalue
            · rcases Classical.em (ask ≠ 0) with qask | qask
              · have r1 : (ask == 0) = false := by simpa using qask
                have r2 : (ask != 0) = true := by simpa using qask
                go_wp2
                go_ret
                exact ⟨ret_int (MF.out 4 (rf_form hF hKM.out hRM.out (by rw [EM.out, rform_5]; simp [*]))).symm, hbw⟩
              obtain rfl : ask = 0 := Classical.not_not.1 qask
              clear qask
              cases yes with
              | true =>
                go_wp2
                go_ret
                exact ⟨ret_int (MF.out 4 (rf_form hF hKM.out hRM.out (by rw [EM.out, rform_5]; simp [*]))).symm, hbw⟩
              | false =>
              rcases Nat.eq_zero_or_pos k with qz | qz
              · subst qz
                go_wp2
                go_ret
                exact ⟨ret_int (MF.out 0 (rf_ok hF hKM.out hRM.out (by rw [EM.out, rform_5]; simp [*]))).symm, hbw⟩
              · have qn : (0 : Int) < (k : Int) := by omega
                have q0 : ¬ k = 0 := by omega
                go_wp2
                go_ret
                exact ⟨ret_int (MF.out 4 (rf_form hF hKM.out hRM.out (by rw [EM.out, rform_5]; simp [*]))).symm, hbw⟩
        · rcases Classical.em (key ≠ 0) with qkey | qkey
          · have r1 : (key == 0) = false := by simpa using qkey
            have r2 : (key != 0) = true := by simpa using qkey
            go_wp2
            go_ret
            exact ⟨ret_int (MF.out 4 (rf_form hF hKM.out hRM.out (by rw [EM.out, rform_6]; simp [*]))).symm, hbw⟩
          obtain rfl : key = 0 := Classical.not_not.1 qkey
          clear qkey
          · rcases Classical.em (value ≠ 0) with qvalue | qvalue
            · have r1 : (value == 0) = false := by simpa using qvalue
              have r2 : (value != 0) = true := by simpa using qvalue
              go_wp2
              go_ret
              exact ⟨ret_int (MF.out 4 (rf_form hF hKM.out hRM.out (by rw [EM.out, rform_6]; simp [*]))).symm, hbw⟩
            obtain rfl : value = 0 := Classical.not_not.1 qvalue
            clear qvalue
            · rcases Classical.em (ask ≠ 0) with qask | qask
              · have r1 : (ask == 0) = false := by simpa using qask
                have r2 : (ask != 0) = true := by simpa using qask
                go_wp2
                go_ret
                exact ⟨ret_int (MF.out 4 (rf_form hF hKM.out hRM.out (by rw [EM.out, rform_6]; simp [*]))).symm, hbw⟩
              obtain rfl : ask = 0 := Classical.not_not.1 qask
              clear qask
              rcases Nat.eq_zero_or_pos k with qz | qz
              · subst qz
                go_wp2
                go_ret
                exact ⟨ret_int (MF.out 0 (rf_ok hF hKM.out hRM.out (by rw [EM.out, rform_6]; simp [*]))).symm, hbw⟩
              · have qn : (0 : Int) < (k : Int) := by omega
                have q0 : ¬ k = 0 := by omega
                go_wp2
                go_ret
                exact ⟨ret_int (MF.out 4 (rf_form hF hKM.out hRM.out (by rw [EM.out, rform_6]; simp [*]))).symm, hbw⟩
  · have hf := MF.out _ (rf_cfg hF)
    go_wp2_with (go_at_call 27; refine (fault_any s p a len cap ls _ hLW).mono ?_; rintro e w1 ⟨rfl, hb1⟩)
    go_ret
    exact ⟨ret_int hf.symm, hB.trans (hb1.mono hB.size)⟩
end Go.Proofs.YtflfcjbgkpfgkaaDoor
/- The walk of the law TapeRecovers: at any config and tape it returns true and leaves what was in memory. -/
namespace Go.Proofs.YtflfcjbgkpfgkaaDoor
open Go.ChangeShapes Go.WideShapes Go.ChangeAt Go.RowKit
set_option linter.unusedVariables false

/-- What Recover and TapeRecovered both answer: records, a tape, an error. -/
def RA (w w' : World) (e : Ending) (ys : List RcV) (bs : List Int) (z err : Int) : Prop :=
  ∃ (ao : Option Addr) (cp : Nat) (zs : List RcV) (ua : Option Addr) (ul uc : Nat), e = .returned (.tuple #[.slice ao ys.length cp, .agg #[.slice ua ul uc, .int .i64 z], .int .i64 err]) ∧ IsRecs w' ao ys.length cp zs ∧ zs.map RcV.pl = ys.map RcV.pl ∧ IsB w' ua ul uc bs ∧ Below w.heap.size w w'
def recYs (s : Int) (ls : List (Int × Int)) (p : Int) (tl : Nat) (bs : List Int) (y : Int) : List RcV := if mayT tl y = true ∧ cfgFault s ls p = 0 then (wholeOf s ls p bs).1 else []
def recBs (s : Int) (ls : List (Int × Int)) (p : Int) (tl : Nat) (bs : List Int) (y : Int) : List Int := if mayT tl y = true ∧ cfgFault s ls p = 0 then bs.take (wholeOf s ls p bs).2 else []
def recZ (s : Int) (ls : List (Int × Int)) (p : Int) (tl : Nat) (bs : List Int) (y : Int) : Int := if mayT tl y = true ∧ cfgFault s ls p = 0 then (if ((wholeOf s ls p bs).2 : Int) < y then ((wholeOf s ls p bs).2 : Int) else y) else 0
def recE (s : Int) (ls : List (Int × Int)) (p : Int) (tl : Nat) (y : Int) : Int := if mayT tl y = true then cfgFault s ls p else 9
theorem isRecs_nil (w : World) : IsRecs w none 0 0 [] := ⟨rfl, Nat.le_refl _, Nat.zero_le _, (fun y hy => by cases hy), fun h => absurd h (by omega)⟩
theorem RA.bad {w w' : World} {e : Ending} {err : Int} (h : e = .returned (.tuple #[.slice none 0 0, .agg #[.slice none 0 0, .int .i64 0], .int .i64 err]) ∧ Below w.heap.size w w') : RA w w' e [] [] 0 err :=
  ⟨none, 0, [], none, 0, 0, h.1, isRecs_nil _, rfl, isB_nil _, h.2⟩
theorem recover_ra (s p : Int) (a : Option Addr) (len cap : Nat) (ls : List (Int × Int)) (ta : Option Addr) (tl tc : Nat) (bs : List Int) (y : Int) (w : World) (h : IsLabs w a len cap ls) (hT : IsB w ta tl tc bs) (hm : HasAt w 1 rHas) (ht : TopsAt w) (hwd : WidsAt w) :
    Calls Tryd.prog 10 #[.agg #[.int .i64 s, .slice a len cap, .int .i64 p], .agg #[.slice ta tl tc, .int .i64 y]] w fun e w' => RA w w' e (recYs s ls p tl bs y) (recBs s ls p tl bs y) (recZ s ls p tl bs y) (recE s ls p tl y) := by
  have hl : tl ≤ 9223372036854775807 := by have := hT.2.1; have := hT.2.2.1; unfold maxLen at this; omega
  unfold recYs recBs recZ recE
  cases hmy : mayT tl y with
  | false =>
    simp only [Bool.false_eq_true, false_and, if_false]
    exact (recover_state s p a len cap ta tl tc y w hl hmy).mono fun e w' hh => RA.bad hh
  | true =>
    by_cases hc : cfgFault s ls p = 0
    · simp only [hc, and_self, if_true]
      refine (recover_ok s p a len cap ls ta tl tc bs y w h hT hmy hc hm ht hwd).mono ?_
      rintro e w' ⟨ao, cp, ys, k, ua, z, rfl, hR, ⟨hpl, hn⟩, hq, hU, hz, _, _, _, hb⟩
      have hll : (wholeOf s ls p bs).1.length = ys.length := by have := congrArg List.length hpl; simpa using this.symm
      subst hn
      refine ⟨ao, cp, ys, ua, _, _, by rw [hll, ← hz], by rw [hll]; exact hR, hpl, hU, hb⟩
    · simp only [hc, and_false, if_false, if_true]
      exact (recover_cfg s p a len cap ls ta tl tc y w h hl hmy hc).mono fun e w' hh => RA.bad hh
theorem recovered_ra (s p : Int) (a : Option Addr) (len cap : Nat) (ls : List (Int × Int)) (ta : Option Addr) (tl tc : Nat) (bs : List Int) (y : Int) (w : World) (h : IsLabs w a len cap ls) (hT : IsB w ta tl tc bs) :
    Calls Tryd.prog 11 #[.agg #[.int .i64 s, .slice a len cap, .int .i64 p], .agg #[.slice ta tl tc, .int .i64 y]] w fun e w' => RA w w' e (recYs s ls p tl bs y) (recBs s ls p tl bs y) (recZ s ls p tl bs y) (recE s ls p tl y) := by
  have hl : tl ≤ 9223372036854775807 := by have := hT.2.1; have := hT.2.2.1; unfold maxLen at this; omega
  unfold recYs recBs recZ recE
  cases hmy : mayT tl y with
  | false =>
    simp only [Bool.false_eq_true, false_and, if_false]
    exact (recovered_state s p a len cap ls ta tl tc y w h hl hmy).mono fun e w' hh => RA.bad hh
  | true =>
    by_cases hc : cfgFault s ls p = 0
    · simp only [hc, and_self, if_true]
      refine (tapeRecovered_any s p a len cap ls ta tl tc bs y w h hT hmy hc (fun ba bl bc bs w' h1 h2 h3 => recordOf_any s p a len cap ls ba bl bc bs w' h1 h2 h3 (fun m w' hh h2 => recordFault_any s p a len cap ls m w' hh h2))).mono ?_
      rintro e w' ⟨ao, cp, ys, k, ua, uc, z, rfl, hR, ⟨hpl, hn⟩, hq, hU, hz, hb⟩
      have hll : (wholeOf s ls p bs).1.length = ys.length := by have := congrArg List.length hpl; simpa using this.symm
      subst hn
      refine ⟨ao, cp, ys, ua, _, _, by rw [hll, ← hz], by rw [hll]; exact hR, hpl, hU, hb⟩
    · simp only [hc, and_false, if_false, if_true]
      exact (recovered_cfg s p a len cap ls ta tl tc y w h hl hmy hc).mono fun e w' hh => RA.bad hh

set_option maxRecDepth 100000 in
set_option maxHeartbeats 4000000 in
theorem tapeRecovers_walk (s : Int) (a : Option Addr) (len cap : Nat) (q : Int) (ls : List (Int × Int)) (ta : Option Addr) (tl tc : Nat) (tbs : List Int) (y : Int) (w : World) (_ : (Lit.int .i64 s).wf = true) (h : IsLabs w a len cap ls) (_ : (Lit.int .i64 q).wf = true) (hT : IsB w ta tl tc tbs) (_ : -9223372036854775808 ≤ y ∧ y ≤ 9223372036854775807) (htl : tl ≤ 140737488351232) (hm : HasAt w 1 rHas) (hwd : WidsAt w) (ht : TopsAt w) :
    Calls Tryd.prog 4 #[.agg #[.int .i64 s, .slice a len cap, .int .i64 q], .agg #[.slice ta tl tc, .int .i64 y]] w fun e w' => e = .returned (.bool true) ∧ Below w.heap.size w w' := by
  have hgT : 3 < w.heap.size := World.block_lt_of_cell? w _ ht.1
  have hgM : 1 < w.heap.size := hm.lt (by decide)
  have hgW : 2 < w.heap.size := hwd.lt
  have hR1 := fun ta tc w' h1 h2 h3 h4 h5 => recover_ra s q a len cap ls ta tl tc tbs y w' h1 h2 h3 h4 h5
  have hR2 := fun w' h1 h2 => recovered_ra s q a len cap ls ta tl tc tbs y w' h1 h2
  obtain ⟨YS, eYS⟩ : ∃ x, x = recYs s ls q tl tbs y := ⟨_, rfl⟩
  obtain ⟨BS, eBS⟩ : ∃ x, x = recBs s ls q tl tbs y := ⟨_, rfl⟩
  obtain ⟨ZZ, eZZ⟩ : ∃ x, x = recZ s ls q tl tbs y := ⟨_, rfl⟩
  obtain ⟨EE, eEE⟩ : ∃ x, x = recE s ls q tl y := ⟨_, rfl⟩
  rw [← eYS, ← eBS, ← eZZ, ← eEE] at hR1 hR2
  clear eYS eBS eZZ eEE
  obtain ⟨W, hW⟩ : ∃ W : World, W = (w.alloc (.cells #[.int .i64 s, .slice a len cap, .int .i64 q] 24)).alloc (.cells #[.slice ta tl tc, .int .i64 y] 36) := ⟨_, rfl⟩
  have hB : Below w.heap.size w W := by rw [hW]; exact ((Below.refl _ _).alloc (Nat.le_refl _) _).alloc (by simp) _
  have z1 : w.heap.size + 1 < W.heap.size := by rw [hW]; simp
  have z0 : w.heap.size < W.heap.size := by omega
  have c0 : W.cell? ⟨w.heap.size, 0, none⟩ = some (.int .i64 s) := by rw [hW]; go_simp
  have c1 : W.cell? ⟨w.heap.size, 1, none⟩ = some (.slice a len cap) := by rw [hW]; go_simp
  have c2 : W.cell? ⟨w.heap.size, 2, none⟩ = some (.int .i64 q) := by rw [hW]; go_simp
  have t0 : W.cell? ⟨w.heap.size + 1, 0, none⟩ = some (.slice ta tl tc) := by rw [hW]; go_simp
  have t1 : W.cell? ⟨w.heap.size + 1, 1, none⟩ = some (.int .i64 y) := by rw [hW]; go_simp
  have KA : Hid (∀ V : World, Below W.heap.size W V → V.cell? ⟨w.heap.size, 0, none⟩ = some (.int .i64 s) ∧ V.cell? ⟨w.heap.size, 1, none⟩ = some (.slice a len cap) ∧ V.cell? ⟨w.heap.size, 2, none⟩ = some (.int .i64 q) ∧ V.cell? ⟨w.heap.size + 1, 0, none⟩ = some (.slice ta tl tc) ∧ V.cell? ⟨w.heap.size + 1, 1, none⟩ = some (.int .i64 y)) := fun V hV =>
    ⟨(hV.cell (p := ⟨w.heap.size, 0, none⟩) z0).trans c0, (hV.cell (p := ⟨w.heap.size, 1, none⟩) z0).trans c1, (hV.cell (p := ⟨w.heap.size, 2, none⟩) z0).trans c2, (hV.cell (p := ⟨w.heap.size + 1, 0, none⟩) z1).trans t0, (hV.cell (p := ⟨w.heap.size + 1, 1, none⟩) z1).trans t1⟩
  have HS : Hid (∀ V : World, Below W.heap.size W V → IsLabs V a len cap ls ∧ IsB V ta tl tc tbs ∧ HasAt V 1 rHas ∧ TopsAt V ∧ WidsAt V) := fun V hV => by
    have hv := hB.trans (hV.mono hB.size)
    exact ⟨h.below hv, hT.below hv, hm.below hv hgM, ht.below hv hgT, hwd.below hv hgW⟩
  have hTW := (HS.out _ (Below.refl _ _)).2.1
  go_enter Tryd.func4, Tryd.ntmps4
  go_upto_region 1 with (fail)
  rw [← hW]
  clear hW
  go_upto_region 2 with (go_at_call 9; refine (tapes_any ta tl tc tbs y _ hTW (by omega)).mono ?_; rintro e w1 ⟨a1, cap1, rfl, hN1, hb1⟩)
  obtain ⟨V1, hV1, k0, k1, zV1, bV1⟩ := boxT w1 a1 tl cap1 y
  rw [← hV1]
  clear hV1
  have hWV : Below W.heap.size W V1 := hb1.trans (bV1.mono hb1.size)
  clear c0 c1 c2 t0 t1
  obtain ⟨c0, c1, c2, t0, t1⟩ := KA.out _ hWV
  obtain ⟨x1, _, x3, x4, x5⟩ := HS.out _ hWV
  have hNV := hN1.1.below bV1
  go_upto_region 3 with (go_at_call 10; refine (hR1 a1 cap1 _ x1 hNV x3 x4 x5).mono ?_; rintro e w2 ⟨ao, cp, ys, ua, ul, uc, rfl, hRa, hpa, hUa, hb2⟩)
  obtain ⟨V2, hV2, p0', p1', zV2, bV2⟩ := boxT w2 ua ul uc ZZ
  rw [← hV2]
  clear hV2 c0 c1 c2 t0 t1 x1 x3 x4 x5
  have h12 : Below V1.heap.size V1 V2 := hb2.trans (bV2.mono hb2.size)
  have hW2 : Below W.heap.size W V2 := hWV.trans (h12.mono hWV.size)
  obtain ⟨c0, c1, c2, t0, t1⟩ := KA.out _ hW2
  obtain ⟨x1, x2, _, _, _⟩ := HS.out _ hW2
  go_upto_region 4 with (go_at_call 11; refine (hR2 _ x1 x2).mono ?_; rintro e w3 ⟨bo, bp, zs, va, vl, vc, rfl, hRb, hpb, hUb, hb3⟩)
  obtain ⟨V3, hV3, y0', y1', zV3, bV3⟩ := boxT w3 va vl vc ZZ
  rw [← hV3]
  clear hV3 c0 c1 c2 t0 t1 x1 x2
  have h23 : Below V2.heap.size V2 V3 := hb3.trans (bV3.mono hb3.size)
  have h13 : Below V1.heap.size V1 V3 := h12.trans (h23.mono h12.size)
  have hW3 : Below W.heap.size W V3 := hW2.trans (h23.mono hW2.size)
  obtain ⟨_, _, _, t0, t1⟩ := KA.out _ hW3
  have p0 := (h23.cell (p := ⟨w2.heap.size, 0, none⟩) (by show w2.heap.size < _; omega)).trans p0'
  have p1 := (h23.cell (p := ⟨w2.heap.size, 1, none⟩) (by show w2.heap.size < _; omega)).trans p1'
  have q0 := (h13.cell (p := ⟨w1.heap.size, 0, none⟩) (by show w1.heap.size < _; omega)).trans k0
  have q1 := (h13.cell (p := ⟨w1.heap.size, 1, none⟩) (by show w1.heap.size < _; omega)).trans k1
  have hRa3 := (hRa.below bV2).below h23
  have hRb3 := hRb.below bV3
  have hUa3 := (hUa.below bV2).below h23
  have hUb3 := hUb.below bV3
  have sR := sameRecords_pl ao bo YS.length cp bp ys zs V3 hRa3 hRb3 (hpa.trans hpb.symm)
  have s1 := fun U (hU : Below V3.heap.size V3 U) => sameTape_any ua ul uc BS ZZ va vl vc BS ZZ U (hUa3.below hU) (hUb3.below hU) rfl rfl
  have hN3 := hNV.below h13
  have hT3 := (HS.out _ hW3).2.1
  have s2 := fun U (hU : Below V3.heap.size V3 U) => sameTape_any a1 tl cap1 tbs y ta tl tc tbs y U (hN3.below hU) (hT3.below hU) rfl rfl
  have zz1 : w1.heap.size < V3.heap.size := Nat.lt_of_lt_of_le (by omega : w1.heap.size < V1.heap.size) h13.size
  have zz2 : w2.heap.size < V3.heap.size := Nat.lt_of_lt_of_le (by omega : w2.heap.size < V2.heap.size) h23.size
  have zz3 : w3.heap.size < V3.heap.size := by omega
  have zzw : w.heap.size + 1 < V3.heap.size := Nat.lt_of_lt_of_le z1 hW3.size
  have KQ : Hid (∀ U, Below V3.heap.size V3 U → (U.cell? ⟨w1.heap.size, 0, none⟩ = some (.slice a1 tl cap1) ∧ U.cell? ⟨w1.heap.size, 1, none⟩ = some (.int .i64 y)) ∧ (U.cell? ⟨w.heap.size + 1, 0, none⟩ = some (.slice ta tl tc) ∧ U.cell? ⟨w.heap.size + 1, 1, none⟩ = some (.int .i64 y)) ∧ (U.cell? ⟨w2.heap.size, 0, none⟩ = some (.slice ua ul uc) ∧ U.cell? ⟨w2.heap.size, 1, none⟩ = some (.int .i64 ZZ)) ∧ U.cell? ⟨w3.heap.size, 0, none⟩ = some (.slice va vl vc) ∧ U.cell? ⟨w3.heap.size, 1, none⟩ = some (.int .i64 ZZ)) := fun U hU => ⟨⟨(hU.cell (p := ⟨w1.heap.size, 0, none⟩) zz1).trans q0, (hU.cell (p := ⟨w1.heap.size, 1, none⟩) zz1).trans q1⟩, ⟨(hU.cell (p := ⟨w.heap.size + 1, 0, none⟩) zzw).trans t0, (hU.cell (p := ⟨w.heap.size + 1, 1, none⟩) zzw).trans t1⟩, ⟨(hU.cell (p := ⟨w2.heap.size, 0, none⟩) zz2).trans p0, (hU.cell (p := ⟨w2.heap.size, 1, none⟩) zz2).trans p1⟩, (hU.cell (p := ⟨w3.heap.size, 0, none⟩) zz3).trans y0', (hU.cell (p := ⟨w3.heap.size, 1, none⟩) zz3).trans y1'⟩
  clear zV1 zV2 zV3 hN3 hT3 q0 q1 t0 t1 p0 p1 p0' p1' y0' y1' k0 k1
  clear hRa hRb hpa hpb hUa hUb hRa3 hRb3 hUa3 hUb3
  go_wp2_with (first
    | (go_at_call 12; refine sR.mono ?_; rintro e w7 ⟨rfl, hb7⟩; obtain ⟨⟨q0, q1⟩, ⟨t0, t1⟩, ⟨p0, p1⟩, y0, y1⟩ := KQ.out _ hb7)
    | (go_at_call 13; refine (s1 _ hb7).mono ?_; rintro e w8 ⟨rfl, hb8'⟩; clear s1; have hb8 : Below V3.heap.size V3 w8 := hb7.trans (hb8'.mono hb7.size); clear q0 q1 t0 t1 p0 p1 y0 y1; obtain ⟨⟨q0, q1⟩, ⟨t0, t1⟩, ⟨p0, p1⟩, y0, y1⟩ := KQ.out _ hb8)
    | (go_at_call 13; refine (s2 _ hb8).mono ?_; rintro e w9 ⟨rfl, hb9'⟩; have hb9 : Below V3.heap.size V3 w9 := hb8.trans (hb9'.mono hb8.size)))
  go_ret
  have hf := hB.trans (hW3.mono hB.size)
  exact ⟨rfl, hf.trans (hb9.mono hf.size)⟩
end Go.Proofs.YtflfcjbgkpfgkaaDoor
