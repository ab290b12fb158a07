/- The contract of the document's answer MessageFault: at every config and message it returns the fault that msgFault tells, and leaves what was in memory. -/
import Derived.Test.YtpikiaepomjmgaaDoorWParts
import Derived.Test.YtpikiaepomjmgaaDoorFault
namespace Go.Proofs.YtpikiaepomjmgaaDoor
open Go.ChangeShapes Go.WideShapes Go.ChangeAt Go.RowKit
set_option linter.unusedVariables false

theorem labelMay_any (s p : Int) (a : Option Addr) (len cap : Nat) (l : Int) (w : World) (hl : len ≤ 6) :
    Calls Tryd.prog 52 #[.agg #[.int .i64 s, .slice a len cap, .int .i64 p], .int .i64 l] w fun e w' => e = .returned (.bool (plc l len)) ∧ Below w.heap.size w w' := by
  have hA : Below w.heap.size w (w.alloc (.cells #[.int .i64 s, .slice a len cap, .int .i64 p] 24)) := (Below.refl _ _).alloc (Nat.le_refl _) _
  have h2 : (len : Int) ≤ 6 := by omega
  have e : plc l len = inR l 0 ((len : Int) - 1) := by unfold plc inR; rw [Bool.eq_iff_iff]; simp; omega
  rw [e]
  clear e
  go_enter Tryd.func52, Tryd.ntmps52
  go_wp2_with (go_at_call 49; refine (in_any _ _ _ _).mono ?_; rintro e w2 ⟨rfl, hu⟩; rw [hu]; clear hu)
  go_ret
  exact ⟨rfl, hA⟩

theorem txnMay_any (s p : Int) (a : Option Addr) (len cap : Nat) (site num : Int) (w : World) (hs : 1 ≤ s ∧ s ≤ 4) :
    Calls Tryd.prog 51 #[.agg #[.int .i64 s, .slice a len cap, .int .i64 p], .agg #[.int .i64 site, .int .i64 num]] w fun e w' => e = .returned (.bool (txnOK s site num)) ∧ Below w.heap.size w w' := by
  have hA : Below w.heap.size w ((w.alloc (.cells #[.int .i64 s, .slice a len cap, .int .i64 p] 24)).alloc (.cells #[.int .i64 site, .int .i64 num] 27)) := ((Below.refl _ _).alloc (Nat.le_refl _) _).alloc (by simp) _
  obtain ⟨h1, h2⟩ := hs
  unfold txnOK
  cases hr : inR site 0 (s - 1) with
  | false =>
    go_enter Tryd.func51, Tryd.ntmps51
    go_wp2_with (go_at_call 49; refine (in_any _ _ _ _).mono ?_; rintro e w1 ⟨rfl, hu1⟩; rw [hu1]; clear hu1)
    go_ret
    exact ⟨rfl, hA⟩
  | true =>
    go_enter Tryd.func51, Tryd.ntmps51
    go_wp2_with (go_at_call 49; refine (in_any _ _ _ _).mono ?_; rintro e w1 ⟨rfl, hu1⟩; rw [hu1]; clear hu1)
    go_ret
    exact ⟨by simp, hA⟩

theorem range_of (s : Int) (n : Nat) (kind frm dst site num label key value version ask code : Int) (yes : Bool) : msgRange s n ⟨kind, frm, dst, site, num, label, key, value, version, ask, yes, code⟩ = (inR frm 0 (s - 1) && inR dst 0 (s - 1) && txnOK s site num && plc label n && inR key 0 7 && inR value 0 1073741824 && inR version 0 1048576 && inR ask 0 1048576 && isCd code) ∨ 6 < n := by
  by_cases hn : 6 < n
  · exact .inr hn
  · left
    unfold msgRange partsOK MV.parts
    have e1 : (inTops topL [label, key, value, version, ask, bit yes, code, 0] && plc label n && isCd code) = (plc label n && inR key 0 7 && inR value 0 1073741824 && inR version 0 1048576 && inR ask 0 1048576 && isCd code) := by
      have hb : inR (bit yes) 0 1 = true := by cases yes <;> rfl
      have h0 : inR 0 0 4 = true := rfl
      simp only [inTops, topL, hb, h0, Bool.and_true]
      rw [Bool.eq_iff_iff]
      simp only [Bool.and_eq_true]
      constructor
      · rintro ⟨⟨⟨h1, h2, h3, h4, h5, h6⟩, h7⟩, h8⟩
        exact ⟨⟨⟨⟨⟨h7, h2⟩, h3⟩, h4⟩, h5⟩, h8⟩
      · rintro ⟨⟨⟨⟨⟨h7, h2⟩, h3⟩, h4⟩, h5⟩, h8⟩
        refine ⟨⟨⟨?_, h2, h3, h4, h5, ?_⟩, h7⟩, h8⟩
        · have h9 := plc_true h7
          exact inR_true (n := label) (lo := 0) (hi := 5) (by omega) (by omega)
        · unfold isCd at h8
          simp at h8
          exact ⟨trivial, inR_true (n := code) (lo := 0) (hi := 11) (by omega) (by omega)⟩
    have e2 : ∀ l : Int, [l, key, value, version, ask, bit yes, code, 0].getD 0 0 = l := fun _ => rfl
    have e3 : ∀ l : Int, [label, key, value, version, ask, bit yes, l, 0].getD 6 0 = l := fun _ => rfl
    simp only [e2, e3]
    rw [e1]
    simp only [Bool.and_assoc]

theorem form_1 (frm dst site num label key value version ask code : Int) (yes : Bool) : msgForm ⟨1, frm, dst, site, num, label, key, value, version, ask, yes, code⟩ = decide (value = 0 ∧ version = 0 ∧ yes = false ∧ code = 0) := by
  rw [Bool.eq_iff_iff, decide_eq_true_eq]
  cases yes <;> simp [msgForm, mHasOf, mHas, hasAll, MV.parts, bit] <;> omega
theorem form_2 (frm dst site num label key value version ask code : Int) (yes : Bool) : msgForm ⟨2, frm, dst, site, num, label, key, value, version, ask, yes, code⟩ = decide (label = 0 ∧ version = 0 ∧ yes = false ∧ code = 0) := by
  rw [Bool.eq_iff_iff, decide_eq_true_eq]
  cases yes <;> simp [msgForm, mHasOf, mHas, hasAll, MV.parts, bit] <;> omega
theorem form_3 (frm dst site num label key value version ask code : Int) (yes : Bool) : msgForm ⟨3, frm, dst, site, num, label, key, value, version, ask, yes, code⟩ = decide (value = 0 ∧ ask = 0 ∧ yes = false ∧ code = 0) := by
  rw [Bool.eq_iff_iff, decide_eq_true_eq]
  cases yes <;> simp [msgForm, mHasOf, mHas, hasAll, MV.parts, bit] <;> omega
theorem form_4 (frm dst site num label key value version ask code : Int) (yes : Bool) : msgForm ⟨4, frm, dst, site, num, label, key, value, version, ask, yes, code⟩ = decide (label = 0 ∧ key = 0 ∧ value = 0 ∧ version = 0 ∧ ask = 0 ∧ code = 0) := by
  rw [Bool.eq_iff_iff, decide_eq_true_eq]
  cases yes <;> simp [msgForm, mHasOf, mHas, hasAll, MV.parts, bit] <;> omega
theorem form_5 (frm dst site num label key value version ask code : Int) (yes : Bool) : msgForm ⟨5, frm, dst, site, num, label, key, value, version, ask, yes, code⟩ = decide (yes = false ∧ (code = 0 ∨ (value = 0 ∧ version = 0))) := by
  rw [Bool.eq_iff_iff, decide_eq_true_eq]
  cases yes <;> simp [msgForm, mHasOf, mHas, hasAll, MV.parts, bit] <;> omega
theorem form_6 (frm dst site num label key value version ask code : Int) (yes : Bool) : msgForm ⟨6, frm, dst, site, num, label, key, value, version, ask, yes, code⟩ = decide (label = 0 ∧ value = 0 ∧ version = 0 ∧ yes = false) := by
  rw [Bool.eq_iff_iff, decide_eq_true_eq]
  cases yes <;> simp [msgForm, mHasOf, mHas, hasAll, MV.parts, bit] <;> omega
theorem form_7 (frm dst site num label key value version ask code : Int) (yes : Bool) : msgForm ⟨7, frm, dst, site, num, label, key, value, version, ask, yes, code⟩ = decide (value = 0 ∧ ask = 0 ∧ code = 0) := by
  rw [Bool.eq_iff_iff, decide_eq_true_eq]
  cases yes <;> simp [msgForm, mHasOf, mHas, hasAll, MV.parts, bit] <;> omega
theorem form_8 (frm dst site num label key value version ask code : Int) (yes : Bool) : msgForm ⟨8, frm, dst, site, num, label, key, value, version, ask, yes, code⟩ = decide (label = 0 ∧ key = 0 ∧ value = 0 ∧ version = 0 ∧ ask = 0 ∧ yes = false ∧ code = 0) := by
  rw [Bool.eq_iff_iff, decide_eq_true_eq]
  cases yes <;> simp [msgForm, mHasOf, mHas, hasAll, MV.parts, bit] <;> omega
theorem form_9 (frm dst site num label key value version ask code : Int) (yes : Bool) : msgForm ⟨9, frm, dst, site, num, label, key, value, version, ask, yes, code⟩ = decide (label = 0 ∧ key = 0 ∧ value = 0 ∧ version = 0 ∧ ask = 0 ∧ yes = false ∧ code = 0) := by
  rw [Bool.eq_iff_iff, decide_eq_true_eq]
  cases yes <;> simp [msgForm, mHasOf, mHas, hasAll, MV.parts, bit] <;> omega

set_option maxRecDepth 100000 in
set_option maxHeartbeats 8000000 in
theorem messageFault_any (s p : Int) (a : Option Addr) (len cap : Nat) (ls : List (Int × Int)) (m : MV) (w : World) (h : IsLabs w a len cap ls) :
    Calls Tryd.prog 26 #[.agg #[.int .i64 s, .slice a len cap, .int .i64 p], m.val] w fun e w' => e = .returned (.int .i64 (msgFault s ls p m)) ∧ Below w.heap.size w w' := by
  obtain ⟨kind, frm, dst, site, num, label, key, value, version, ask, yes, code⟩ := m
  obtain ⟨M, eM⟩ : ∃ M : MV, M = ⟨kind, frm, dst, site, num, label, key, value, version, ask, yes, code⟩ := ⟨_, rfl⟩
  have EM : Hid (M = ⟨kind, frm, dst, site, num, label, key, value, version, ask, yes, code⟩) := eM
  have hMF : ∀ v, msgFault s ls p M = v → msgFault s ls p ⟨kind, frm, dst, site, num, label, key, value, version, ask, yes, code⟩ = v := fun v hv => by rw [← eM]; exact hv
  have MF : Hid (∀ v, msgFault s ls p M = v → msgFault s ls p ⟨kind, frm, dst, site, num, label, key, value, version, ask, yes, code⟩ = v) := hMF
  clear hMF eM
  simp only [MV.val]
  obtain ⟨W, hW⟩ : ∃ W : World, W = (w.alloc (.cells #[.int .i64 s, .slice a len cap, .int .i64 p] 24)).alloc (.cells #[.int .i64 kind, .int .i64 frm, .int .i64 dst, .int .i64 site, .int .i64 num, .int .i64 label, .int .i64 key, .int .i64 value, .int .i64 version, .int .i64 ask, .bool yes, .int .i64 code] 30) := ⟨_, rfl⟩
  have hB : Below w.heap.size w W := by rw [hW]; exact ((Below.refl _ _).alloc (Nat.le_refl _) _).alloc (by simp) _
  have zW : W.heap.size = w.heap.size + 2 := by rw [hW]; simp
  have c0 : W.cell? ⟨w.heap.size, 0, none⟩ = some (.int .i64 s) := by rw [hW]; go_simp
  have c1 : W.cell? ⟨w.heap.size, 1, none⟩ = some (.slice a len cap) := by rw [hW]; go_simp
  have c2 : W.cell? ⟨w.heap.size, 2, none⟩ = some (.int .i64 p) := by rw [hW]; go_simp
  have d0 : W.cell? ⟨w.heap.size + 1, 0, none⟩ = some (.int .i64 kind) := by rw [hW]; go_simp
  have d1 : W.cell? ⟨w.heap.size + 1, 1, none⟩ = some (.int .i64 frm) := by rw [hW]; go_simp
  have d2 : W.cell? ⟨w.heap.size + 1, 2, none⟩ = some (.int .i64 dst) := by rw [hW]; go_simp
  have d3 : W.cell? ⟨w.heap.size + 1, 3, none⟩ = some (.int .i64 site) := by rw [hW]; go_simp
  have d4 : W.cell? ⟨w.heap.size + 1, 4, none⟩ = some (.int .i64 num) := by rw [hW]; go_simp
  have d5 : W.cell? ⟨w.heap.size + 1, 5, none⟩ = some (.int .i64 label) := by rw [hW]; go_simp
  have d6 : W.cell? ⟨w.heap.size + 1, 6, none⟩ = some (.int .i64 key) := by rw [hW]; go_simp
  have d7 : W.cell? ⟨w.heap.size + 1, 7, none⟩ = some (.int .i64 value) := by rw [hW]; go_simp
  have d8 : W.cell? ⟨w.heap.size + 1, 8, none⟩ = some (.int .i64 version) := by rw [hW]; go_simp
  have d9 : W.cell? ⟨w.heap.size + 1, 9, none⟩ = some (.int .i64 ask) := by rw [hW]; go_simp
  have d10 : W.cell? ⟨w.heap.size + 1, 10, none⟩ = some (.bool yes) := by rw [hW]; go_simp
  have d11 : W.cell? ⟨w.heap.size + 1, 11, none⟩ = some (.int .i64 code) := by rw [hW]; go_simp
  have hLW := h.below hB
  go_enter Tryd.func26, Tryd.ntmps26
  go_upto_region 1 with (fail)
  rw [← hW]
  clear hW
  by_cases hF : cfgFault s ls p = 0
  · obtain ⟨s1, s4, n1, n6, _, _, _⟩ := cfg_zero hF
    have hlen : Hid (ls.length = len) := h.1
    have l6 : len ≤ 6 := by have := hlen.out; omega
    have KA : Hid (∀ (U : World), Below W.heap.size W U → (U.cell? ⟨w.heap.size, 0, none⟩ = some (.int .i64 s) ∧ U.cell? ⟨w.heap.size, 1, none⟩ = some (.slice a len cap) ∧ U.cell? ⟨w.heap.size, 2, none⟩ = some (.int .i64 p)) ∧ U.cell? ⟨w.heap.size + 1, 0, none⟩ = some (.int .i64 kind) ∧ U.cell? ⟨w.heap.size + 1, 1, none⟩ = some (.int .i64 frm) ∧ U.cell? ⟨w.heap.size + 1, 2, none⟩ = some (.int .i64 dst) ∧ U.cell? ⟨w.heap.size + 1, 3, none⟩ = some (.int .i64 site) ∧ U.cell? ⟨w.heap.size + 1, 4, none⟩ = some (.int .i64 num) ∧ U.cell? ⟨w.heap.size + 1, 5, none⟩ = some (.int .i64 label) ∧ U.cell? ⟨w.heap.size + 1, 6, none⟩ = some (.int .i64 key) ∧ U.cell? ⟨w.heap.size + 1, 7, none⟩ = some (.int .i64 value) ∧ U.cell? ⟨w.heap.size + 1, 8, none⟩ = some (.int .i64 version) ∧ U.cell? ⟨w.heap.size + 1, 9, none⟩ = some (.int .i64 ask) ∧ U.cell? ⟨w.heap.size + 1, 10, none⟩ = some (.bool yes) ∧ U.cell? ⟨w.heap.size + 1, 11, none⟩ = some (.int .i64 code)) := by
      intro V hV
      have e0 : ∀ o, V.cell? ⟨w.heap.size, o, none⟩ = W.cell? ⟨w.heap.size, o, none⟩ := fun o => hV.cell (p := ⟨w.heap.size, o, none⟩) (by show w.heap.size < _; omega)
      have e1 : ∀ o, V.cell? ⟨w.heap.size + 1, o, none⟩ = W.cell? ⟨w.heap.size + 1, o, none⟩ := fun o => hV.cell (p := ⟨w.heap.size + 1, o, none⟩) (by show w.heap.size + 1 < _; omega)
      simp only [e0, e1]
      exact ⟨⟨c0, c1, c2⟩, d0, d1, d2, d3, d4, d5, d6, d7, d8, d9, d10, d11⟩
    go_upto_region 4 with (go_at_call 21; refine (fault_any s p a len cap ls _ hLW).mono ?_; rintro e w1 ⟨rfl, hb1⟩)
    have hbv := hb1
    clear hb1
    clear c0 c1 c2 d0 d1 d2 d3 d4 d5 d6 d7 d8 d9 d10 d11
    obtain ⟨⟨c0, c1, c2⟩, d0, d1, d2, d3, d4, d5, d6, d7, d8, d9, d10, d11⟩ := KA.out _ hbv
    have hRng : Hid (msgRange s ls.length M = (inR frm 0 (s - 1) && inR dst 0 (s - 1) && txnOK s site num && plc label len && inR key 0 7 && inR value 0 1073741824 && inR version 0 1048576 && inR ask 0 1048576 && isCd code)) := by
      show msgRange s ls.length M = _
      rw [EM.out, hlen.out]
      rcases range_of s len kind frm dst site num label key value version ask code yes with e | e
      · exact e
      · omega
    cases hK : inR kind 1 9 with
    | false =>
      have hf := MF.out 3 (mf_kind hF (by rw [EM.out]; exact hK))
      go_wp2_with (go_at_call 49; refine (in_any _ _ _ _).mono ?_; rintro e v ⟨rfl, hv⟩; rw [hv]; clear hv v)
      go_ret
      exact ⟨ret_int hf.symm, hB.trans (hbv.mono hB.size)⟩
    | true =>
    have hKM : Hid (inR M.kind 1 9 = true) := by show inR M.kind 1 9 = true; rw [EM.out]; exact hK
    go_upto_region 6 with (go_at_call 49; refine (in_any _ _ _ _).mono ?_; rintro e v ⟨rfl, hv⟩; rw [hv]; clear hv v)
    cases g0 : inR frm 0 (s - 1) with
    | false =>
      have hf := MF.out 2 (mf_range hF hKM.out (by rw [hRng.out, g0]; simp))
      go_wp2_with (first | (go_at_call 49; refine (in_any _ _ _ _).mono ?_; rintro e v ⟨rfl, hv⟩; rw [hv]; clear hv v) | (go_at_call 51; refine (txnMay_any s p a len cap site num _ ⟨s1, s4⟩).mono ?_; rintro e u ⟨rfl, hu⟩; replace hbv := hbv.trans (hu.mono hbv.size); clear hu; clear c0 c1 c2 d0 d1 d2 d3 d4 d5 d6 d7 d8 d9 d10 d11; obtain ⟨⟨c0, c1, c2⟩, d0, d1, d2, d3, d4, d5, d6, d7, d8, d9, d10, d11⟩ := KA.out _ hbv) | (go_at_call 52; refine (labelMay_any s p a len cap label _ l6).mono ?_; rintro e u ⟨rfl, hu⟩; replace hbv := hbv.trans (hu.mono hbv.size); clear hu; clear c0 c1 c2 d0 d1 d2 d3 d4 d5 d6 d7 d8 d9 d10 d11; obtain ⟨⟨c0, c1, c2⟩, d0, d1, d2, d3, d4, d5, d6, d7, d8, d9, d10, d11⟩ := KA.out _ hbv))
      go_ret
      exact ⟨ret_int hf.symm, hB.trans (hbv.mono hB.size)⟩
    | true =>
    cases g1 : inR dst 0 (s - 1) with
    | false =>
      have hf := MF.out 2 (mf_range hF hKM.out (by rw [hRng.out, g0, g1]; simp))
      go_wp2_with (first | (go_at_call 49; refine (in_any _ _ _ _).mono ?_; rintro e v ⟨rfl, hv⟩; rw [hv]; clear hv v) | (go_at_call 51; refine (txnMay_any s p a len cap site num _ ⟨s1, s4⟩).mono ?_; rintro e u ⟨rfl, hu⟩; replace hbv := hbv.trans (hu.mono hbv.size); clear hu; clear c0 c1 c2 d0 d1 d2 d3 d4 d5 d6 d7 d8 d9 d10 d11; obtain ⟨⟨c0, c1, c2⟩, d0, d1, d2, d3, d4, d5, d6, d7, d8, d9, d10, d11⟩ := KA.out _ hbv) | (go_at_call 52; refine (labelMay_any s p a len cap label _ l6).mono ?_; rintro e u ⟨rfl, hu⟩; replace hbv := hbv.trans (hu.mono hbv.size); clear hu; clear c0 c1 c2 d0 d1 d2 d3 d4 d5 d6 d7 d8 d9 d10 d11; obtain ⟨⟨c0, c1, c2⟩, d0, d1, d2, d3, d4, d5, d6, d7, d8, d9, d10, d11⟩ := KA.out _ hbv))
      go_ret
      exact ⟨ret_int hf.symm, hB.trans (hbv.mono hB.size)⟩
    | true =>
    cases g2 : txnOK s site num with
    | false =>
      have hf := MF.out 2 (mf_range hF hKM.out (by rw [hRng.out, g0, g1, g2]; simp))
      go_wp2_with (first | (go_at_call 49; refine (in_any _ _ _ _).mono ?_; rintro e v ⟨rfl, hv⟩; rw [hv]; clear hv v) | (go_at_call 51; refine (txnMay_any s p a len cap site num _ ⟨s1, s4⟩).mono ?_; rintro e u ⟨rfl, hu⟩; replace hbv := hbv.trans (hu.mono hbv.size); clear hu; clear c0 c1 c2 d0 d1 d2 d3 d4 d5 d6 d7 d8 d9 d10 d11; obtain ⟨⟨c0, c1, c2⟩, d0, d1, d2, d3, d4, d5, d6, d7, d8, d9, d10, d11⟩ := KA.out _ hbv) | (go_at_call 52; refine (labelMay_any s p a len cap label _ l6).mono ?_; rintro e u ⟨rfl, hu⟩; replace hbv := hbv.trans (hu.mono hbv.size); clear hu; clear c0 c1 c2 d0 d1 d2 d3 d4 d5 d6 d7 d8 d9 d10 d11; obtain ⟨⟨c0, c1, c2⟩, d0, d1, d2, d3, d4, d5, d6, d7, d8, d9, d10, d11⟩ := KA.out _ hbv))
      go_ret
      exact ⟨ret_int hf.symm, hB.trans (hbv.mono hB.size)⟩
    | true =>
    cases g3 : plc label len with
    | false =>
      have hf := MF.out 2 (mf_range hF hKM.out (by rw [hRng.out, g0, g1, g2, g3]; simp))
      go_wp2_with (first | (go_at_call 49; refine (in_any _ _ _ _).mono ?_; rintro e v ⟨rfl, hv⟩; rw [hv]; clear hv v) | (go_at_call 51; refine (txnMay_any s p a len cap site num _ ⟨s1, s4⟩).mono ?_; rintro e u ⟨rfl, hu⟩; replace hbv := hbv.trans (hu.mono hbv.size); clear hu; clear c0 c1 c2 d0 d1 d2 d3 d4 d5 d6 d7 d8 d9 d10 d11; obtain ⟨⟨c0, c1, c2⟩, d0, d1, d2, d3, d4, d5, d6, d7, d8, d9, d10, d11⟩ := KA.out _ hbv) | (go_at_call 52; refine (labelMay_any s p a len cap label _ l6).mono ?_; rintro e u ⟨rfl, hu⟩; replace hbv := hbv.trans (hu.mono hbv.size); clear hu; clear c0 c1 c2 d0 d1 d2 d3 d4 d5 d6 d7 d8 d9 d10 d11; obtain ⟨⟨c0, c1, c2⟩, d0, d1, d2, d3, d4, d5, d6, d7, d8, d9, d10, d11⟩ := KA.out _ hbv))
      go_ret
      exact ⟨ret_int hf.symm, hB.trans (hbv.mono hB.size)⟩
    | true =>
    cases g4 : inR key 0 7 with
    | false =>
      have hf := MF.out 2 (mf_range hF hKM.out (by rw [hRng.out, g0, g1, g2, g3, g4]; simp))
      go_wp2_with (first | (go_at_call 49; refine (in_any _ _ _ _).mono ?_; rintro e v ⟨rfl, hv⟩; rw [hv]; clear hv v) | (go_at_call 51; refine (txnMay_any s p a len cap site num _ ⟨s1, s4⟩).mono ?_; rintro e u ⟨rfl, hu⟩; replace hbv := hbv.trans (hu.mono hbv.size); clear hu; clear c0 c1 c2 d0 d1 d2 d3 d4 d5 d6 d7 d8 d9 d10 d11; obtain ⟨⟨c0, c1, c2⟩, d0, d1, d2, d3, d4, d5, d6, d7, d8, d9, d10, d11⟩ := KA.out _ hbv) | (go_at_call 52; refine (labelMay_any s p a len cap label _ l6).mono ?_; rintro e u ⟨rfl, hu⟩; replace hbv := hbv.trans (hu.mono hbv.size); clear hu; clear c0 c1 c2 d0 d1 d2 d3 d4 d5 d6 d7 d8 d9 d10 d11; obtain ⟨⟨c0, c1, c2⟩, d0, d1, d2, d3, d4, d5, d6, d7, d8, d9, d10, d11⟩ := KA.out _ hbv))
      go_ret
      exact ⟨ret_int hf.symm, hB.trans (hbv.mono hB.size)⟩
    | true =>
    cases g5 : inR value 0 1073741824 with
    | false =>
      have hf := MF.out 2 (mf_range hF hKM.out (by rw [hRng.out, g0, g1, g2, g3, g4, g5]; simp))
      go_wp2_with (first | (go_at_call 49; refine (in_any _ _ _ _).mono ?_; rintro e v ⟨rfl, hv⟩; rw [hv]; clear hv v) | (go_at_call 51; refine (txnMay_any s p a len cap site num _ ⟨s1, s4⟩).mono ?_; rintro e u ⟨rfl, hu⟩; replace hbv := hbv.trans (hu.mono hbv.size); clear hu; clear c0 c1 c2 d0 d1 d2 d3 d4 d5 d6 d7 d8 d9 d10 d11; obtain ⟨⟨c0, c1, c2⟩, d0, d1, d2, d3, d4, d5, d6, d7, d8, d9, d10, d11⟩ := KA.out _ hbv) | (go_at_call 52; refine (labelMay_any s p a len cap label _ l6).mono ?_; rintro e u ⟨rfl, hu⟩; replace hbv := hbv.trans (hu.mono hbv.size); clear hu; clear c0 c1 c2 d0 d1 d2 d3 d4 d5 d6 d7 d8 d9 d10 d11; obtain ⟨⟨c0, c1, c2⟩, d0, d1, d2, d3, d4, d5, d6, d7, d8, d9, d10, d11⟩ := KA.out _ hbv))
      go_ret
      exact ⟨ret_int hf.symm, hB.trans (hbv.mono hB.size)⟩
    | true =>
    cases g6 : inR version 0 1048576 with
    | false =>
      have hf := MF.out 2 (mf_range hF hKM.out (by rw [hRng.out, g0, g1, g2, g3, g4, g5, g6]; simp))
      go_wp2_with (first | (go_at_call 49; refine (in_any _ _ _ _).mono ?_; rintro e v ⟨rfl, hv⟩; rw [hv]; clear hv v) | (go_at_call 51; refine (txnMay_any s p a len cap site num _ ⟨s1, s4⟩).mono ?_; rintro e u ⟨rfl, hu⟩; replace hbv := hbv.trans (hu.mono hbv.size); clear hu; clear c0 c1 c2 d0 d1 d2 d3 d4 d5 d6 d7 d8 d9 d10 d11; obtain ⟨⟨c0, c1, c2⟩, d0, d1, d2, d3, d4, d5, d6, d7, d8, d9, d10, d11⟩ := KA.out _ hbv) | (go_at_call 52; refine (labelMay_any s p a len cap label _ l6).mono ?_; rintro e u ⟨rfl, hu⟩; replace hbv := hbv.trans (hu.mono hbv.size); clear hu; clear c0 c1 c2 d0 d1 d2 d3 d4 d5 d6 d7 d8 d9 d10 d11; obtain ⟨⟨c0, c1, c2⟩, d0, d1, d2, d3, d4, d5, d6, d7, d8, d9, d10, d11⟩ := KA.out _ hbv))
      go_ret
      exact ⟨ret_int hf.symm, hB.trans (hbv.mono hB.size)⟩
    | true =>
    cases g7 : inR ask 0 1048576 with
    | false =>
      have hf := MF.out 2 (mf_range hF hKM.out (by rw [hRng.out, g0, g1, g2, g3, g4, g5, g6, g7]; simp))
      go_wp2_with (first | (go_at_call 49; refine (in_any _ _ _ _).mono ?_; rintro e v ⟨rfl, hv⟩; rw [hv]; clear hv v) | (go_at_call 51; refine (txnMay_any s p a len cap site num _ ⟨s1, s4⟩).mono ?_; rintro e u ⟨rfl, hu⟩; replace hbv := hbv.trans (hu.mono hbv.size); clear hu; clear c0 c1 c2 d0 d1 d2 d3 d4 d5 d6 d7 d8 d9 d10 d11; obtain ⟨⟨c0, c1, c2⟩, d0, d1, d2, d3, d4, d5, d6, d7, d8, d9, d10, d11⟩ := KA.out _ hbv) | (go_at_call 52; refine (labelMay_any s p a len cap label _ l6).mono ?_; rintro e u ⟨rfl, hu⟩; replace hbv := hbv.trans (hu.mono hbv.size); clear hu; clear c0 c1 c2 d0 d1 d2 d3 d4 d5 d6 d7 d8 d9 d10 d11; obtain ⟨⟨c0, c1, c2⟩, d0, d1, d2, d3, d4, d5, d6, d7, d8, d9, d10, d11⟩ := KA.out _ hbv))
      go_ret
      exact ⟨ret_int hf.symm, hB.trans (hbv.mono hB.size)⟩
    | true =>
    go_upto_region 8 with (first | (go_at_call 49; refine (in_any _ _ _ _).mono ?_; rintro e v ⟨rfl, hv⟩; rw [hv]; clear hv v) | (go_at_call 51; refine (txnMay_any s p a len cap site num _ ⟨s1, s4⟩).mono ?_; rintro e u ⟨rfl, hu⟩; replace hbv := hbv.trans (hu.mono hbv.size); clear hu; clear c0 c1 c2 d0 d1 d2 d3 d4 d5 d6 d7 d8 d9 d10 d11; obtain ⟨⟨c0, c1, c2⟩, d0, d1, d2, d3, d4, d5, d6, d7, d8, d9, d10, d11⟩ := KA.out _ hbv) | (go_at_call 52; refine (labelMay_any s p a len cap label _ l6).mono ?_; rintro e u ⟨rfl, hu⟩; replace hbv := hbv.trans (hu.mono hbv.size); clear hu; clear c0 c1 c2 d0 d1 d2 d3 d4 d5 d6 d7 d8 d9 d10 d11; obtain ⟨⟨c0, c1, c2⟩, d0, d1, d2, d3, d4, d5, d6, d7, d8, d9, d10, d11⟩ := KA.out _ hbv))
    by_cases q0 : code ≠ 0 ∧ code ≠ 11 ∧ code ≠ 8
    · obtain ⟨q1, q2, q3⟩ := q0
      have hf := MF.out 2 (mf_range hF hKM.out (by rw [hRng.out]; simp [isCd, q1, q2, q3]))
      have q4 : (code == 0) = false := by simpa using q1
      have q5 : (code == 11) = false := by simpa using q2
      have q6 : (code == 8) = false := by simpa using q3
      have q7 : (code != 0) = true := by simpa using q1
      have q8 : (code != 11) = true := by simpa using q2
      have q9 : (code != 8) = true := by simpa using q3
      go_wp2
      go_ret
      exact ⟨ret_int hf.symm, hB.trans (hbv.mono hB.size)⟩
    have hcd : isCd code = true := by unfold isCd; simp; omega
    have hRM : Hid (msgRange s ls.length M = true) := by show msgRange s ls.length M = true; rw [hRng.out, g0, g1, g2, g3, g4, g5, g6, g7, hcd]; rfl
    clear g0 g1 g2 g3 g4 g5 g6 g7 hcd
    have zu : w.heap.size + 1 < u.heap.size := by have := hbv.size; omega
    have zu' : w.heap.size < u.heap.size := by omega
    have hF' : Hid (cfgFault s ls p = 0) := hF
    have hBU : Hid (Below w.heap.size w u) := hB.trans (hbv.mono hB.size)
    have q00 : code = 0 ∨ code = 11 ∨ code = 8 := by omega
    clear q0 KA hRng c0 c1 c2 hLW h hF n1 n6 s1 s4 l6 hlen hB hbv zW
    rcases q00 with rfl | rfl | rfl
    all_goals
      rcases kind_cases hK with rfl | rfl | rfl | rfl | rfl | rfl | rfl | rfl | rfl
      all_goals
        go_wp2
        all_goals
          go_ret
          refine ⟨ret_int (Eq.symm ?_), hBU.out.alloc (by omega) _⟩
          first
          | exact MF.out 0 (mf_ok hF'.out hKM.out hRM.out (by
              rw [EM.out]
              (first | rw [form_1] | rw [form_2] | rw [form_3] | rw [form_4] | rw [form_5] | rw [form_6] | rw [form_7] | rw [form_8] | rw [form_9])
              refine decide_eq_true ?_
              and_intros
              all_goals first | omega | simpa using ‹¬ yes = true›))
          | exact MF.out 4 (mf_form hF'.out hKM.out hRM.out (by
              rw [EM.out]
              (first | rw [form_1] | rw [form_2] | rw [form_3] | rw [form_4] | rw [form_5] | rw [form_6] | rw [form_7] | rw [form_8] | rw [form_9])
              refine decide_eq_false ?_
              intro hh
              first
              | omega
              | (have hy : yes = true := by assumption
                 simp [hy] at hh)))
  · have hf := MF.out _ (mf_cfg hF)
    go_wp2_with (go_at_call 21; refine (fault_any s p a len cap ls _ hLW).mono ?_; rintro e w1 ⟨rfl, hb1⟩)
    go_ret
    exact ⟨ret_int hf.symm, hB.trans (hb1.mono hB.size)⟩
end Go.Proofs.YtpikiaepomjmgaaDoor
