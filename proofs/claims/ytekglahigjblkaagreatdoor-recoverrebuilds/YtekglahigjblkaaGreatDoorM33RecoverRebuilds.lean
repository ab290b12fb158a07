/- Texts of this claim, one behind the other. -/
import Derived.Test.YtekglahigjblkaaGreatDoorA30RecoverRebuilds
import Derived.Test.YtekglahigjblkaaGreatDoorM23RecoverRebuilds
import Derived.Test.YtekglahigjblkaaGreatDoorM26RecoverRebuilds
import Derived.Test.YtekglahigjblkaaGreatDoorM28RecoverRebuilds
import Derived.Lib.QuietBelow
/- A job laid into a row of its own. -/
namespace Go.Proofs.YtekglahigjblkaaGreatDoor.Rb
open Go.ChangeShapes Go.WideShapes Go.ChangeAt Go.RowKit
open Go.Proofs.YtekglahigjblkaaGreatDoor.St Go.Proofs.YtekglahigjblkaaGreatDoor.Co
set_option linter.unusedVariables false

set_option maxRecDepth 100000 in
theorem wpv_job {o : Oper} {A : Act} {w : World} {K : Value → World → Prop} {Q : Exit → Act → World → Prop} (x : Operand) (ho : o.op = .buildSlice 32 1 #[(0, x)]) {n0 n1 n4 n5 : Int} {a2 a3 : Option Addr} {l2 c2 l3 c3 : Nat} (hx : A.eval x = .agg #[.int .i64 n0, .int .i64 n1, .slice a2 l2 c2, .slice a3 l3 c3, .int .i64 n4, .int .i64 n5]) (h : K (.slice (some ⟨w.heap.size, 0, none⟩) 1 1) (w.alloc (.cells #[.int .i64 n0, .int .i64 n1, .slice a2 l2 c2, .slice a3 l3 c3, .int .i64 n4, .int .i64 n5] 64))) : Oper.wpv Tryz.prog o A w K Q := by
  unfold Oper.wpv execOp
  simp only [ho, List.map_toArray, List.map_cons, List.map_nil, hx]
  simp [go_sem]
  exact h
end Go.Proofs.YtekglahigjblkaaGreatDoor.Rb
/- The contract of the document's answer MessageFault: at every config and message it returns the fault that msgFault tells, and leaves what was in memory. -/
namespace Go.Proofs.YtekglahigjblkaaGreatDoor
open Go.ChangeShapes Go.WideShapes Go.ChangeAt Go.RowKit
set_option linter.unusedVariables false

theorem txnMay_any (s p : Int) (a : Option Addr) (len cap : Nat) (site num : Int) (w : World) (hs : 1 ≤ s ∧ s ≤ 4) :
    Calls Tryz.prog 32 #[.agg #[.int .i64 s, .slice a len cap, .int .i64 p], .agg #[.int .i64 site, .int .i64 num]] w fun e w' => e = .returned (.bool (txnOK s site num)) ∧ Below w.heap.size w w' := by
  have hA : Below w.heap.size w ((w.alloc (.cells #[.int .i64 s, .slice a len cap, .int .i64 p] 24)).alloc (.cells #[.int .i64 site, .int .i64 num] 51)) := ((Below.refl _ _).alloc (Nat.le_refl _) _).alloc (by simp) _
  obtain ⟨h1, h2⟩ := hs
  unfold txnOK
  cases hr : inR site 0 (s - 1) with
  | false =>
    go_enter Tryz.func32, Tryz.ntmps32
    go_wp2_with (go_at_call 14; refine (in_any _ _ _ _).mono ?_; rintro e w1 ⟨rfl, hu1⟩; rw [hu1]; clear hu1)
    go_ret
    exact ⟨rfl, hA⟩
  | true =>
    go_enter Tryz.func32, Tryz.ntmps32
    go_wp2_with (go_at_call 14; refine (in_any _ _ _ _).mono ?_; rintro e w1 ⟨rfl, hu1⟩; rw [hu1]; clear hu1)
    go_ret
    exact ⟨by simp, hA⟩

theorem range_of (s : Int) (n : Nat) (kind frm dst site num label key value version ask code : Int) (yes : Bool) : msgRange s n ⟨kind, frm, dst, site, num, label, key, value, version, ask, yes, code⟩ = (inR frm 0 (s - 1) && inR dst 0 (s - 1) && txnOK s site num && plc label n && inR key 0 7 && inR value 0 1073741824 && inR version 0 1048576 && inR ask 0 1048576 && isCd code) ∨ 6 < n := by
  by_cases hn : 6 < n
  · exact .inr hn
  · left
    unfold msgRange partsOK MV.parts
    have e1 : (inTops topL [label, key, value, version, ask, bit yes, code, 0] && plc label n && isCd code) = (plc label n && inR key 0 7 && inR value 0 1073741824 && inR version 0 1048576 && inR ask 0 1048576 && isCd code) := by
      have hb : inR (bit yes) 0 1 = true := by cases yes <;> rfl
      have h0 : inR 0 0 4 = true := rfl
      simp only [inTops, topL, hb, h0, Bool.and_true]
      rw [Bool.eq_iff_iff]
      simp only [Bool.and_eq_true]
      constructor
      · rintro ⟨⟨⟨h1, h2, h3, h4, h5, h6⟩, h7⟩, h8⟩
        exact ⟨⟨⟨⟨⟨h7, h2⟩, h3⟩, h4⟩, h5⟩, h8⟩
      · rintro ⟨⟨⟨⟨⟨h7, h2⟩, h3⟩, h4⟩, h5⟩, h8⟩
        refine ⟨⟨⟨?_, h2, h3, h4, h5, ?_⟩, h7⟩, h8⟩
        · have h9 := plc_true h7
          exact inR_true (n := label) (lo := 0) (hi := 5) (by omega) (by omega)
        · unfold isCd at h8
          simp at h8
          exact ⟨trivial, inR_true (n := code) (lo := 0) (hi := 11) (by omega) (by omega)⟩
    have e2 : ∀ l : Int, [l, key, value, version, ask, bit yes, code, 0].getD 0 0 = l := fun _ => rfl
    have e3 : ∀ l : Int, [label, key, value, version, ask, bit yes, l, 0].getD 6 0 = l := fun _ => rfl
    simp only [e2, e3]
    rw [e1]
    simp only [Bool.and_assoc]

theorem form_1 (frm dst site num label key value version ask code : Int) (yes : Bool) : msgForm ⟨1, frm, dst, site, num, label, key, value, version, ask, yes, code⟩ = decide (value = 0 ∧ version = 0 ∧ yes = false ∧ code = 0) := by
  rw [Bool.eq_iff_iff, decide_eq_true_eq]
  cases yes <;> simp [msgForm, mHasOf, mHas, hasAll, MV.parts, bit] <;> omega
theorem form_2 (frm dst site num label key value version ask code : Int) (yes : Bool) : msgForm ⟨2, frm, dst, site, num, label, key, value, version, ask, yes, code⟩ = decide (label = 0 ∧ version = 0 ∧ yes = false ∧ code = 0) := by
  rw [Bool.eq_iff_iff, decide_eq_true_eq]
  cases yes <;> simp [msgForm, mHasOf, mHas, hasAll, MV.parts, bit] <;> omega
theorem form_3 (frm dst site num label key value version ask code : Int) (yes : Bool) : msgForm ⟨3, frm, dst, site, num, label, key, value, version, ask, yes, code⟩ = decide (value = 0 ∧ ask = 0 ∧ yes = false ∧ code = 0) := by
  rw [Bool.eq_iff_iff, decide_eq_true_eq]
  cases yes <;> simp [msgForm, mHasOf, mHas, hasAll, MV.parts, bit] <;> omega
theorem form_4 (frm dst site num label key value version ask code : Int) (yes : Bool) : msgForm ⟨4, frm, dst, site, num, label, key, value, version, ask, yes, code⟩ = decide (label = 0 ∧ key = 0 ∧ value = 0 ∧ version = 0 ∧ ask = 0 ∧ code = 0) := by
  rw [Bool.eq_iff_iff, decide_eq_true_eq]
  cases yes <;> simp [msgForm, mHasOf, mHas, hasAll, MV.parts, bit] <;> omega
theorem form_5 (frm dst site num label key value version ask code : Int) (yes : Bool) : msgForm ⟨5, frm, dst, site, num, label, key, value, version, ask, yes, code⟩ = decide (yes = false ∧ (code = 0 ∨ (value = 0 ∧ version = 0))) := by
  rw [Bool.eq_iff_iff, decide_eq_true_eq]
  cases yes <;> simp [msgForm, mHasOf, mHas, hasAll, MV.parts, bit] <;> omega
theorem form_6 (frm dst site num label key value version ask code : Int) (yes : Bool) : msgForm ⟨6, frm, dst, site, num, label, key, value, version, ask, yes, code⟩ = decide (label = 0 ∧ value = 0 ∧ version = 0 ∧ yes = false) := by
  rw [Bool.eq_iff_iff, decide_eq_true_eq]
  cases yes <;> simp [msgForm, mHasOf, mHas, hasAll, MV.parts, bit] <;> omega
theorem form_7 (frm dst site num label key value version ask code : Int) (yes : Bool) : msgForm ⟨7, frm, dst, site, num, label, key, value, version, ask, yes, code⟩ = decide (value = 0 ∧ ask = 0 ∧ code = 0) := by
  rw [Bool.eq_iff_iff, decide_eq_true_eq]
  cases yes <;> simp [msgForm, mHasOf, mHas, hasAll, MV.parts, bit] <;> omega
theorem form_8 (frm dst site num label key value version ask code : Int) (yes : Bool) : msgForm ⟨8, frm, dst, site, num, label, key, value, version, ask, yes, code⟩ = decide (label = 0 ∧ key = 0 ∧ value = 0 ∧ version = 0 ∧ ask = 0 ∧ yes = false ∧ code = 0) := by
  rw [Bool.eq_iff_iff, decide_eq_true_eq]
  cases yes <;> simp [msgForm, mHasOf, mHas, hasAll, MV.parts, bit] <;> omega
theorem form_9 (frm dst site num label key value version ask code : Int) (yes : Bool) : msgForm ⟨9, frm, dst, site, num, label, key, value, version, ask, yes, code⟩ = decide (label = 0 ∧ key = 0 ∧ value = 0 ∧ version = 0 ∧ ask = 0 ∧ yes = false ∧ code = 0) := by
  rw [Bool.eq_iff_iff, decide_eq_true_eq]
  cases yes <;> simp [msgForm, mHasOf, mHas, hasAll, MV.parts, bit] <;> omega

end Go.Proofs.YtekglahigjblkaaGreatDoor
/- The contract of the document's answer RecordFault: at every config and record it returns the fault that recFault tells, and leaves what was in memory. -/
namespace Go.Proofs.YtekglahigjblkaaGreatDoor
open Go.ChangeShapes Go.WideShapes Go.ChangeAt Go.RowKit
set_option linter.unusedVariables false

theorem rising_len (s : Int) : ∀ (zs : List Int) (low : Int), rising s low zs = true → zs = [] ∨ (zs.length : Int) ≤ s - low := by
  intro zs
  induction zs with
  | nil => intro low _; exact .inl rfl
  | cons n r ih =>
    intro low h
    right
    simp only [rising, Bool.and_eq_true] at h
    have h1 := inR_of h.1
    rcases ih (n + 1) h.2 with e | e
    · rw [e]
      simp
      omega
    · simp
      omega

theorem rrange_of (s : Int) (n : Nat) (kind site num key value ask : Int) (yes : Bool) (sa : Option Addr) (sl sc : Nat) (sites : List Int) (hs : s ≤ 4) (h1 : 1 ≤ n) (h6 : n ≤ 6) (hl : sites.length = sl) :
    recRange s n ⟨kind, site, num, key, value, ask, yes, sa, sl, sc, sites⟩ = (txnOK s site num && inR key 0 7 && inR value 0 1073741824 && inR ask 0 1048576 && rising s 0 sites) := by
  have hp : partsOK n [0, key, value, 0, ask, bit yes, 0, (sl : Int)] = (inR key 0 7 && inR value 0 1073741824 && inR ask 0 1048576 && inR (sl : Int) 0 4) := by
    have hb : inR (bit yes) 0 1 = true := by cases yes <;> rfl
    have a1 : inR 0 0 5 = true := rfl
    have a2 : inR 0 0 1048576 = true := rfl
    have a3 : inR 0 0 11 = true := rfl
    have a4 : plc 0 n = true := by simp [plc]; omega
    have a5 : isCd 0 = true := rfl
    unfold partsOK
    simp only [inTops, topL, List.getD_cons_zero, hb, a1, a2, a3, a4, Bool.and_true, Bool.true_and]
    simp only [List.getD, List.getElem?_cons_succ, List.getElem?_cons_zero, Option.getD_some, a5, Bool.and_true, Bool.and_assoc]
  have e : recRange s n ⟨kind, site, num, key, value, ask, yes, sa, sl, sc, sites⟩ = (txnOK s site num && partsOK n [0, key, value, 0, ask, bit yes, 0, (sl : Int)] && rising s 0 sites) := rfl
  rw [e, hp]
  cases hr : rising s 0 sites with
  | false => simp
  | true =>
    have hL : inR (sl : Int) 0 4 = true := by
      rcases rising_len s sites 0 hr with e | e
      · rw [e] at hl
        exact inR_true (by omega) (by simp at hl; omega)
      · exact inR_true (by omega) (by omega)
    rw [hL]
    simp only [Bool.and_true, Bool.and_assoc]

theorem rkind_cases {k : Int} (h : inR k 1 6 = true) : k = 1 ∨ k = 2 ∨ k = 3 ∨ k = 4 ∨ k = 5 ∨ k = 6 := by
  have := inR_of h
  omega

theorem rform_1 (site num key value ask : Int) (yes : Bool) (sa : Option Addr) (sl sc : Nat) (sites : List Int) : recForm ⟨1, site, num, key, value, ask, yes, sa, sl, sc, sites⟩ = decide (yes = false ∧ sl = 0) := by
  rw [Bool.eq_iff_iff, decide_eq_true_eq]
  cases yes <;> simp [recForm, rHasOf, rHas, hasAll, bit] <;> omega
theorem rform_2 (site num key value ask : Int) (yes : Bool) (sa : Option Addr) (sl sc : Nat) (sites : List Int) : recForm ⟨2, site, num, key, value, ask, yes, sa, sl, sc, sites⟩ = decide (key = 0 ∧ value = 0 ∧ ask = 0 ∧ sl = 0) := by
  rw [Bool.eq_iff_iff, decide_eq_true_eq]
  cases yes <;> simp [recForm, rHasOf, rHas, hasAll, bit] <;> omega
theorem rform_3 (site num key value ask : Int) (yes : Bool) (sa : Option Addr) (sl sc : Nat) (sites : List Int) : recForm ⟨3, site, num, key, value, ask, yes, sa, sl, sc, sites⟩ = decide (key = 0 ∧ value = 0 ∧ ask = 0 ∧ yes = false) := by
  rw [Bool.eq_iff_iff, decide_eq_true_eq]
  cases yes <;> simp [recForm, rHasOf, rHas, hasAll, bit] <;> omega
theorem rform_4 (site num key value ask : Int) (yes : Bool) (sa : Option Addr) (sl sc : Nat) (sites : List Int) : recForm ⟨4, site, num, key, value, ask, yes, sa, sl, sc, sites⟩ = decide (key = 0 ∧ value = 0 ∧ ask = 0 ∧ yes = false ∧ sl = 0) := by
  rw [Bool.eq_iff_iff, decide_eq_true_eq]
  cases yes <;> simp [recForm, rHasOf, rHas, hasAll, bit] <;> omega
theorem rform_5 (site num key value ask : Int) (yes : Bool) (sa : Option Addr) (sl sc : Nat) (sites : List Int) : recForm ⟨5, site, num, key, value, ask, yes, sa, sl, sc, sites⟩ = decide (key = 0 ∧ value = 0 ∧ ask = 0 ∧ yes = false ∧ sl = 0) := by
  rw [Bool.eq_iff_iff, decide_eq_true_eq]
  cases yes <;> simp [recForm, rHasOf, rHas, hasAll, bit] <;> omega
theorem rform_6 (site num key value ask : Int) (yes : Bool) (sa : Option Addr) (sl sc : Nat) (sites : List Int) : recForm ⟨6, site, num, key, value, ask, yes, sa, sl, sc, sites⟩ = decide (key = 0 ∧ value = 0 ∧ ask = 0 ∧ sl = 0) := by
  rw [Bool.eq_iff_iff, decide_eq_true_eq]
  cases yes <;> simp [recForm, rHasOf, rHas, hasAll, bit] <;> omega

set_option maxRecDepth 100000 in
set_option maxHeartbeats 4000000 in
theorem recordFault_any (s p : Int) (a : Option Addr) (len cap : Nat) (ls : List (Int × Int)) (r : RcV) (w : World) (h : IsLabs w a len cap ls) (hi : IsInts w r.sa r.sl r.sc r.sites) :
    Calls Tryz.prog 15 #[.agg #[.int .i64 s, .slice a len cap, .int .i64 p], r.val] w fun e w' => e = .returned (.int .i64 (recFault s ls p r)) ∧ Below w.heap.size w w' := by
  obtain ⟨kind, site, num, key, value, ask, yes, sa, sl, sc, sites⟩ := r
  obtain ⟨M, eM⟩ : ∃ M : RcV, M = ⟨kind, site, num, key, value, ask, yes, sa, sl, sc, sites⟩ := ⟨_, rfl⟩
  have EM : Hid (M = ⟨kind, site, num, key, value, ask, yes, sa, sl, sc, sites⟩) := eM
  have hMF : ∀ v, recFault s ls p M = v → recFault s ls p ⟨kind, site, num, key, value, ask, yes, sa, sl, sc, sites⟩ = v := fun v hv => by rw [← eM]; exact hv
  have MF : Hid (∀ v, recFault s ls p M = v → recFault s ls p ⟨kind, site, num, key, value, ask, yes, sa, sl, sc, sites⟩ = v) := hMF
  clear hMF eM
  simp only [RcV.val]
  have hi' : IsInts w sa sl sc sites := hi
  clear hi
  obtain ⟨W, hW⟩ : ∃ W : World, W = (w.alloc (.cells #[.int .i64 s, .slice a len cap, .int .i64 p] 24)).alloc (.cells #[.int .i64 kind, .int .i64 site, .int .i64 num, .int .i64 key, .int .i64 value, .int .i64 ask, .bool yes, .slice sa sl sc] 54) := ⟨_, rfl⟩
  have hB : Below w.heap.size w W := by rw [hW]; exact ((Below.refl _ _).alloc (Nat.le_refl _) _).alloc (by simp) _
  have zW : W.heap.size = w.heap.size + 2 := by rw [hW]; simp
  have c0 : W.cell? ⟨w.heap.size, 0, none⟩ = some (.int .i64 s) := by rw [hW]; go_simp
  have c1 : W.cell? ⟨w.heap.size, 1, none⟩ = some (.slice a len cap) := by rw [hW]; go_simp
  have c2 : W.cell? ⟨w.heap.size, 2, none⟩ = some (.int .i64 p) := by rw [hW]; go_simp
  have d0 : W.cell? ⟨w.heap.size + 1, 0, none⟩ = some (.int .i64 kind) := by rw [hW]; go_simp
  have d1 : W.cell? ⟨w.heap.size + 1, 1, none⟩ = some (.int .i64 site) := by rw [hW]; go_simp
  have d2 : W.cell? ⟨w.heap.size + 1, 2, none⟩ = some (.int .i64 num) := by rw [hW]; go_simp
  have d3 : W.cell? ⟨w.heap.size + 1, 3, none⟩ = some (.int .i64 key) := by rw [hW]; go_simp
  have d4 : W.cell? ⟨w.heap.size + 1, 4, none⟩ = some (.int .i64 value) := by rw [hW]; go_simp
  have d5 : W.cell? ⟨w.heap.size + 1, 5, none⟩ = some (.int .i64 ask) := by rw [hW]; go_simp
  have d6 : W.cell? ⟨w.heap.size + 1, 6, none⟩ = some (.bool yes) := by rw [hW]; go_simp
  have d7 : W.cell? ⟨w.heap.size + 1, 7, none⟩ = some (.slice sa sl sc) := by rw [hW]; go_simp
  have hLW := h.below hB
  have hIW := hi'.below hB
  go_enter Tryz.func15, Tryz.ntmps15
  go_upto_region 1 with (fail)
  rw [← hW]
  clear hW
  by_cases hF : cfgFault s ls p = 0
  · obtain ⟨s1, s4, n1, n6, _, _, _⟩ := cfg_zero hF
    have hlen : Hid (ls.length = len) := h.1
    have HL : Hid (sites.length = sl) := hi'.1
    have hmx : sl ≤ 140737488355328 ∨ True := .inr trivial
    have hcm : sl ≤ maxLen := Nat.le_trans hi'.2.1 hi'.2.2.1
    unfold maxLen at hcm
    have KA : Hid (∀ (U : World), Below W.heap.size W U → (U.cell? ⟨w.heap.size, 0, none⟩ = some (.int .i64 s) ∧ U.cell? ⟨w.heap.size, 1, none⟩ = some (.slice a len cap) ∧ U.cell? ⟨w.heap.size, 2, none⟩ = some (.int .i64 p)) ∧ (U.cell? ⟨w.heap.size + 1, 0, none⟩ = some (.int .i64 kind) ∧ U.cell? ⟨w.heap.size + 1, 1, none⟩ = some (.int .i64 site) ∧ U.cell? ⟨w.heap.size + 1, 2, none⟩ = some (.int .i64 num) ∧ U.cell? ⟨w.heap.size + 1, 3, none⟩ = some (.int .i64 key) ∧ U.cell? ⟨w.heap.size + 1, 4, none⟩ = some (.int .i64 value) ∧ U.cell? ⟨w.heap.size + 1, 5, none⟩ = some (.int .i64 ask) ∧ U.cell? ⟨w.heap.size + 1, 6, none⟩ = some (.bool yes) ∧ U.cell? ⟨w.heap.size + 1, 7, none⟩ = some (.slice sa sl sc))) := by
      intro V hV
      have e0 : ∀ o, V.cell? ⟨w.heap.size, o, none⟩ = W.cell? ⟨w.heap.size, o, none⟩ := fun o => hV.cell (p := ⟨w.heap.size, o, none⟩) (by show w.heap.size < _; omega)
      have e1 : ∀ o, V.cell? ⟨w.heap.size + 1, o, none⟩ = W.cell? ⟨w.heap.size + 1, o, none⟩ := fun o => hV.cell (p := ⟨w.heap.size + 1, o, none⟩) (by show w.heap.size + 1 < _; omega)
      simp only [e0, e1]
      exact ⟨⟨c0, c1, c2⟩, d0, d1, d2, d3, d4, d5, d6, d7⟩
    go_upto_region 4 with (go_at_call 13; refine (fault_any s p a len cap ls _ hLW).mono ?_; rintro e w1 ⟨rfl, hb1⟩)
    have hbv := hb1
    clear hb1
    clear c0 c1 c2 d0 d1 d2 d3 d4 d5 d6 d7
    obtain ⟨⟨c0, c1, c2⟩, d0, d1, d2, d3, d4, d5, d6, d7⟩ := KA.out _ hbv
    have hRng : Hid (recRange s ls.length M = (txnOK s site num && inR key 0 7 && inR value 0 1073741824 && inR ask 0 1048576 && rising s 0 sites)) := by
      show recRange s ls.length M = _
      rw [EM.out]
      exact rrange_of s ls.length kind site num key value ask yes sa sl sc sites s4 n1 n6 HL.out
    cases hK : inR kind 1 6 with
    | false =>
      have hf := MF.out 3 (rf_kind hF (by rw [EM.out]; exact hK))
      go_wp2_with (go_at_call 14; refine (in_any _ _ _ _).mono ?_; rintro e v ⟨rfl, hv⟩; rw [hv]; clear hv v)
      go_ret
      exact ⟨ret_int hf.symm, hB.trans (hbv.mono hB.size)⟩
    | true =>
    have hKM : Hid (inR M.kind 1 6 = true) := by show inR M.kind 1 6 = true; rw [EM.out]; exact hK
    go_upto_region 6 with (go_at_call 14; refine (in_any _ _ _ _).mono ?_; rintro e v ⟨rfl, hv⟩; rw [hv]; clear hv v)
    cases g0 : txnOK s site num with
    | false =>
      have hf := MF.out 2 (rf_range hF hKM.out (by rw [hRng.out, g0]; simp))
      go_wp2_with (first | (go_at_call 14; refine (in_any _ _ _ _).mono ?_; rintro e v ⟨rfl, hv⟩; rw [hv]; clear hv v) | (go_at_call 32; refine (txnMay_any s p a len cap site num _ ⟨s1, s4⟩).mono ?_; rintro e u ⟨rfl, hu⟩; replace hbv := hbv.trans (hu.mono hbv.size); clear hu; clear c0 c1 c2 d0 d1 d2 d3 d4 d5 d6 d7; obtain ⟨⟨c0, c1, c2⟩, d0, d1, d2, d3, d4, d5, d6, d7⟩ := KA.out _ hbv))
      go_ret
      exact ⟨ret_int hf.symm, hB.trans (hbv.mono hB.size)⟩
    | true =>
    cases g1 : inR key 0 7 with
    | false =>
      have hf := MF.out 2 (rf_range hF hKM.out (by rw [hRng.out, g0, g1]; simp))
      go_wp2_with (first | (go_at_call 14; refine (in_any _ _ _ _).mono ?_; rintro e v ⟨rfl, hv⟩; rw [hv]; clear hv v) | (go_at_call 32; refine (txnMay_any s p a len cap site num _ ⟨s1, s4⟩).mono ?_; rintro e u ⟨rfl, hu⟩; replace hbv := hbv.trans (hu.mono hbv.size); clear hu; clear c0 c1 c2 d0 d1 d2 d3 d4 d5 d6 d7; obtain ⟨⟨c0, c1, c2⟩, d0, d1, d2, d3, d4, d5, d6, d7⟩ := KA.out _ hbv))
      go_ret
      exact ⟨ret_int hf.symm, hB.trans (hbv.mono hB.size)⟩
    | true =>
    cases g2 : inR value 0 1073741824 with
    | false =>
      have hf := MF.out 2 (rf_range hF hKM.out (by rw [hRng.out, g0, g1, g2]; simp))
      go_wp2_with (first | (go_at_call 14; refine (in_any _ _ _ _).mono ?_; rintro e v ⟨rfl, hv⟩; rw [hv]; clear hv v) | (go_at_call 32; refine (txnMay_any s p a len cap site num _ ⟨s1, s4⟩).mono ?_; rintro e u ⟨rfl, hu⟩; replace hbv := hbv.trans (hu.mono hbv.size); clear hu; clear c0 c1 c2 d0 d1 d2 d3 d4 d5 d6 d7; obtain ⟨⟨c0, c1, c2⟩, d0, d1, d2, d3, d4, d5, d6, d7⟩ := KA.out _ hbv))
      go_ret
      exact ⟨ret_int hf.symm, hB.trans (hbv.mono hB.size)⟩
    | true =>
    cases g3 : inR ask 0 1048576 with
    | false =>
      have hf := MF.out 2 (rf_range hF hKM.out (by rw [hRng.out, g0, g1, g2, g3]; simp))
      go_wp2_with (first | (go_at_call 14; refine (in_any _ _ _ _).mono ?_; rintro e v ⟨rfl, hv⟩; rw [hv]; clear hv v) | (go_at_call 32; refine (txnMay_any s p a len cap site num _ ⟨s1, s4⟩).mono ?_; rintro e u ⟨rfl, hu⟩; replace hbv := hbv.trans (hu.mono hbv.size); clear hu; clear c0 c1 c2 d0 d1 d2 d3 d4 d5 d6 d7; obtain ⟨⟨c0, c1, c2⟩, d0, d1, d2, d3, d4, d5, d6, d7⟩ := KA.out _ hbv))
      go_ret
      exact ⟨ret_int hf.symm, hB.trans (hbv.mono hB.size)⟩
    | true =>
    have hRr : Hid (recRange s ls.length M = rising s 0 sites) := by show recRange s ls.length M = _; rw [hRng.out, g0, g1, g2, g3]; simp
    have cIn := fun n w' => Calls.mono (in_any n 0 (s - 1) w') (fun e w'' hh => show e = .returned (.bool (inR n 0 (s - 1))) ∧ Below w'.heap.size w' w'' from ⟨hh.1, by rw [hh.2]; exact Below.refl _ _⟩)
    go_upto_region 9 with (first | (go_at_call 14; refine (in_any _ _ _ _).mono ?_; rintro e v ⟨rfl, hv⟩; rw [hv]; clear hv v) | (go_at_call 32; refine (txnMay_any s p a len cap site num _ ⟨s1, s4⟩).mono ?_; rintro e u ⟨rfl, hu⟩; replace hbv := hbv.trans (hu.mono hbv.size); clear hu; clear c0 c1 c2 d0 d1 d2 d3 d4 d5 d6 d7; obtain ⟨⟨c0, c1, c2⟩, d0, d1, d2, d3, d4, d5, d6, d7⟩ := KA.out _ hbv))
    clear hRng g0 g1 g2 g3
    have hIu := hIW.below hbv
    have hBu : Below w.heap.size w u := hB.trans (hbv.mono hB.size)
    obtain ⟨_, _, _, _, hmem⟩ := hIu
    go_loopw [6] (fun i wr => ∃ (k : Nat) (l : Int), k ≤ sl ∧ i = .int .i64 k ∧ 0 ≤ l ∧ l ≤ 4 ∧ (k = 0 → l = 0) ∧ (0 < k → sites.getD (k - 1) 0 = l - 1 ∧ 1 ≤ l) ∧ Hid (rising s 0 sites = rising s l (sites.drop k)) ∧ Below u.heap.size u wr) (fun i _ => sl - (intOf i).toNat)
    case atStart => exact ⟨0, 0, by omega, rfl, by omega, by omega, fun _ => rfl, fun h => absurd h (by omega), rfl, Below.refl _ _⟩
    case round =>
      obtain ⟨k, l, hk, rfl, l0, l4, hk0, hkp, hat, hbr⟩ := hrel
      have hbx : Below W.heap.size W wr := hbv.trans (hbr.mono hbv.size)
      have hbw : Below w.heap.size w wr := hBu.trans (hbr.mono hBu.size)
      clear c0 c1 c2 d0 d1 d2 d3 d4 d5 d6 d7
      obtain ⟨⟨c0, c1, c2⟩, d0, d1, d2, d3, d4, d5, d6, d7⟩ := KA.out _ hbx
      by_cases hlt : k < sl
      · obtain ⟨b, off, rfl, hbl, hcell⟩ := hmem (by omega)
        have hr := hcell k hlt
        rw [← hbr.cell (p := ⟨b, off + k, none⟩) hbl] at hr
        have hdrop := drop_int (zs := sites) (k := k) (by have := HL.out; omega)
        obtain ⟨n, en⟩ : ∃ n, n = sites.getD k 0 := ⟨_, rfl⟩
        rw [← en] at hr hdrop
        have hdrop' : Hid (sites.drop k = n :: sites.drop (k + 1)) := hdrop
        have EN : Hid (n = sites.getD k 0) := en
        clear hdrop en
        have hlt' : (k : Int) < (sl : Int) := by omega
        have cN := cIn n
        have Gc0 := fun d os => cell_regrown c0 d os
        have Gd7 := fun d os => cell_regrown d7 d os
        have Gr := fun d os => cell_regrown hr d os
        cases e : inR n 0 (s - 1) with
        | false =>
          rw [e] at cN
          have hf := MF.out 2 (rf_range hF hKM.out (by
            rw [hRr.out, hat.out, hdrop'.out]
            have := inR_not e
            have e' : inR n l (s - 1) = false := inR_false (by omega)
            simp [rising, e']))
          clear e
          go_upto_region 11 with (fail)
          refine wp_region_quiet_below (by kernel_rfl) (by kernel_rfl) ?_
          repeat (go_big_quiet_step (exact Calls.regrown_of (cN _)))
          refine wpQuiet_nil ?_
          intro _ hw'
          obtain ⟨⟨dq, osq⟩, hw''⟩ := hw'
          subst hw''
          have hBr := below_regrown wr dq osq
          go_wp2
          go_ret
          exact ⟨ret_int hf.symm, hbw.trans (hBr.mono hbw.size)⟩
        | true =>
          rw [e] at cN
          have eb := inR_of e
          clear e
          by_cases hz : k = 0
          · subst hz
            simp only [Nat.add_zero] at hr
            have Gr0 := fun d os => cell_regrown hr d os
            have hlt0 : (0 : Int) < (sl : Int) := by omega
            have hl0 := hk0 rfl
            have hn : Hid (rising s 0 sites = rising s (n + 1) (sites.drop (0 + 1))) := by
              show rising s 0 sites = _
              rw [hat.out, hdrop'.out]
              have e' : inR n l (s - 1) = true := inR_true (by omega) (by omega)
              simp [rising, e']
            have EN' : Hid (sites.getD (0 + 1 - 1) 0 = n + 1 - 1 ∧ 1 ≤ n + 1) := ⟨by have := EN.out; simp at this ⊢; omega, by omega⟩
            clear hk0 hkp hat
            go_upto_region 11 with (fail)
            refine wp_region_quiet_below (by kernel_rfl) (by kernel_rfl) ?_
            repeat (go_big_quiet_step (exact Calls.regrown_of (cN _)))
            refine wpQuiet_nil ?_
            intro _ hw'
            obtain ⟨⟨dq, osq⟩, hw''⟩ := hw'
            subst hw''
            have hBr := below_regrown wr dq osq
            go_wp2
            go_roundw
            case rel => exact ⟨0 + 1, n + 1, by omega, by go_num, by omega, by omega, fun h => absurd h (by omega), fun _ => EN'.out, hn, hbr.trans (hBr.mono hbr.size)⟩
            case measure => simp [intOf]; omega
          · obtain ⟨j, rfl⟩ : ∃ j, k = j + 1 := ⟨k - 1, by omega⟩
            obtain ⟨hpv, hl1⟩ := hkp (by omega)
            simp only [Nat.add_sub_cancel] at hpv
            have hr2 := hcell j (by omega)
            rw [← hbr.cell (p := ⟨b, off + j, none⟩) hbl, hpv] at hr2
            have Gr2 := fun d os => cell_regrown hr2 d os
            have hpos : (0 : Int) < (j : Int) + 1 := by omega
            have hjl : (j : Int) < (sl : Int) := by omega
            have hj1 : (j : Int) + 1 < (sl : Int) := by omega
            by_cases hle : n ≤ l - 1
            · have hf := MF.out 2 (rf_range hF hKM.out (by
                rw [hRr.out, hat.out, hdrop'.out]
                have e' : inR n l (s - 1) = false := inR_false (by omega)
                simp [rising, e']))
              have hdd : decide (n ≤ l - 1) = true := by simpa using hle
              clear hk0 hkp hat hpv
              go_upto_region 11 with (fail)
              refine wp_region_quiet_below (by kernel_rfl) (by kernel_rfl) ?_
              repeat (go_big_quiet_step (exact Calls.regrown_of (cN _)))
              refine wpQuiet_nil ?_
              intro _ hw'
              obtain ⟨⟨dq, osq⟩, hw''⟩ := hw'
              subst hw''
              have hBr := below_regrown wr dq osq
              go_wp2
              go_ret
              exact ⟨ret_int hf.symm, hbw.trans (hBr.mono hbw.size)⟩
            · have hn : Hid (rising s 0 sites = rising s (n + 1) (sites.drop (j + 1 + 1))) := by
                show rising s 0 sites = _
                rw [hat.out, hdrop'.out]
                have e' : inR n l (s - 1) = true := inR_true (by omega) (by omega)
                simp [rising, e']
              have EN' : Hid (sites.getD (j + 1 + 1 - 1) 0 = n + 1 - 1 ∧ 1 ≤ n + 1) := ⟨by have := EN.out; simp at this ⊢; omega, by omega⟩
              have hdd : decide (n ≤ l - 1) = false := by simpa using hle
              clear hk0 hkp hat hpv
              go_upto_region 11 with (fail)
              refine wp_region_quiet_below (by kernel_rfl) (by kernel_rfl) ?_
              repeat (go_big_quiet_step (exact Calls.regrown_of (cN _)))
              refine wpQuiet_nil ?_
              intro _ hw'
              obtain ⟨⟨dq, osq⟩, hw''⟩ := hw'
              subst hw''
              have hBr := below_regrown wr dq osq
              go_wp2
              go_roundw
              case rel => exact ⟨j + 1 + 1, n + 1, by omega, by go_num, by omega, by omega, fun h => absurd h (by omega), fun _ => EN'.out, hn, hbr.trans (hBr.mono hbr.size)⟩
              case measure => simp [intOf]; omega
      · have he : k = sl := by omega
        have hRM : Hid (recRange s ls.length M = true) := by
          show recRange s ls.length M = true
          rw [hRr.out, hat.out, he, ← HL.out, List.drop_length]
          rfl
        subst he
        clear hat hk0 hkp
        go_upto_region 13 with (fail)
        rcases rkind_cases hK with rfl | rfl | rfl | rfl | rfl | rfl
        · cases yes with
          | true =>
            go_wp2
            go_ret
            exact ⟨ret_int (MF.out 4 (rf_form hF hKM.out hRM.out (by rw [EM.out, rform_1]; simp [*]))).symm, hbw⟩
          | false =>
          rcases Nat.eq_zero_or_pos k with qz | qz
          · subst qz
            go_wp2
            go_ret
            exact ⟨ret_int (MF.out 0 (rf_ok hF hKM.out hRM.out (by rw [EM.out, rform_1]; simp [*]))).symm, hbw⟩
          · have qn : (0 : Int) < (k : Int) := by omega
            have q0 : ¬ k = 0 := by omega
            go_wp2
            go_ret
            exact ⟨ret_int (MF.out 4 (rf_form hF hKM.out hRM.out (by rw [EM.out, rform_1]; simp [*]))).symm, hbw⟩
        · rcases Classical.em (key ≠ 0) with qkey | qkey
          · have r1 : (key == 0) = false := by simpa using qkey
            have r2 : (key != 0) = true := by simpa using qkey
            go_wp2
            go_ret
            exact ⟨ret_int (MF.out 4 (rf_form hF hKM.out hRM.out (by rw [EM.out, rform_2]; simp [*]))).symm, hbw⟩
          obtain rfl : key = 0 := Classical.not_not.1 qkey
          clear qkey
          · rcases Classical.em (value ≠ 0) with qvalue | qvalue
            · have r1 : (value == 0) = false := by simpa using qvalue
              have r2 : (value != 0) = true := by simpa using qvalue
              go_wp2
              go_ret
              exact ⟨ret_int (MF.out 4 (rf_form hF hKM.out hRM.out (by rw [EM.out, rform_2]; simp [*]))).symm, hbw⟩
            obtain rfl : value = 0 := Classical.not_not.1 qvalue
            clear qvalue
            · rcases Classical.em (ask ≠ 0) with qask | qask
              · have r1 : (ask == 0) = false := by simpa using qask
                have r2 : (ask != 0) = true := by simpa using qask
                go_wp2
                go_ret
                exact ⟨ret_int (MF.out 4 (rf_form hF hKM.out hRM.out (by rw [EM.out, rform_2]; simp [*]))).symm, hbw⟩
              obtain rfl : ask = 0 := Classical.not_not.1 qask
              clear qask
              rcases Nat.eq_zero_or_pos k with qz | qz
              · subst qz
                go_wp2
                go_ret
                exact ⟨ret_int (MF.out 0 (rf_ok hF hKM.out hRM.out (by rw [EM.out, rform_2]; simp [*]))).symm, hbw⟩
              · have qn : (0 : Int) < (k : Int) := by omega
                have q0 : ¬ k = 0 := by omega
                go_wp2
                go_ret
                exact ⟨ret_int (MF.out 4 (rf_form hF hKM.out hRM.out (by rw [EM.out, rform_2]; simp [*]))).symm, hbw⟩
        · rcases Classical.em (key ≠ 0) with qkey | qkey
          · have r1 : (key == 0) = false := by simpa using qkey
            have r2 : (key != 0) = true := by simpa using qkey
            go_wp2
            go_ret
            exact ⟨ret_int (MF.out 4 (rf_form hF hKM.out hRM.out (by rw [EM.out, rform_3]; simp [*]))).symm, hbw⟩
          obtain rfl : key = 0 := Classical.not_not.1 qkey
          clear qkey
          · rcases Classical.em (value ≠ 0) with qvalue | qvalue
            · have r1 : (value == 0) = false := by simpa using qvalue
              have r2 : (value != 0) = true := by simpa using qvalue
              go_wp2
              go_ret
              exact ⟨ret_int (MF.out 4 (rf_form hF hKM.out hRM.out (by rw [EM.out, rform_3]; simp [*]))).symm, hbw⟩
            obtain rfl : value = 0 := Classical.not_not.1 qvalue
            clear qvalue
            · rcases Classical.em (ask ≠ 0) with qask | qask
              · have r1 : (ask == 0) = false := by simpa using qask
                have r2 : (ask != 0) = true := by simpa using qask
                go_wp2
                go_ret
                exact ⟨ret_int (MF.out 4 (rf_form hF hKM.out hRM.out (by rw [EM.out, rform_3]; simp [*]))).symm, hbw⟩
              obtain rfl : ask = 0 := Classical.not_not.1 qask
              clear qask
              cases yes with
              | true =>
                go_wp2
                go_ret
                exact ⟨ret_int (MF.out 4 (rf_form hF hKM.out hRM.out (by rw [EM.out, rform_3]; simp [*]))).symm, hbw⟩
              | false =>
              go_wp2
              go_ret
              exact ⟨ret_int (MF.out 0 (rf_ok hF hKM.out hRM.out (by rw [EM.out, rform_3]; simp [*]))).symm, hbw⟩
        · rcases Classical.em (key ≠ 0) with qkey | qkey
          · have r1 : (key == 0) = false := by simpa using qkey
            have r2 : (key != 0) = true := by simpa using qkey
            go_wp2
            go_ret
            exact ⟨ret_int (MF.out 4 (rf_form hF hKM.out hRM.out (by rw [EM.out, rform_4]; simp [*]))).symm, hbw⟩
          obtain rfl : key = 0 := Classical.not_not.1 qkey
          clear qkey
          · rcases Classical.em (value ≠ 0) with qvalue | qvalue
            · have r1 : (value == 0) = false := by simpa using qvalue
              have r2 : (value != 0) = true := by simpa using qvalue
              go_wp2
              go_ret
              exact ⟨ret_int (MF.out 4 (rf_form hF hKM.out hRM.out (by rw [EM.out, rform_4]; simp [*]))).symm, hbw⟩
            obtain rfl : value = 0 := Classical.not_not.1 qvalue
            clear qvalue
            · rcases Classical.em (ask ≠ 0) with qask | qask
              · have r1 : (ask == 0) = false := by simpa using qask
                have r2 : (ask != 0) = true := by simpa using qask
                go_wp2
                go_ret
                exact ⟨ret_int (MF.out 4 (rf_form hF hKM.out hRM.out (by rw [EM.out, rform_4]; simp [*]))).symm, hbw⟩
              obtain rfl : ask = 0 := Classical.not_not.1 qask
              clear qask
              cases yes with
              | true =>
                go_wp2
                go_ret
                exact ⟨ret_int (MF.out 4 (rf_form hF hKM.out hRM.out (by rw [EM.out, rform_4]; simp [*]))).symm, hbw⟩
              | false =>
              rcases Nat.eq_zero_or_pos k with qz | qz
              · subst qz
                go_wp2
                go_ret
                exact ⟨ret_int (MF.out 0 (rf_ok hF hKM.out hRM.out (by rw [EM.out, rform_4]; simp [*]))).symm, hbw⟩
              · have qn : (0 : Int) < (k : Int) := by omega
                have q0 : ¬ k = 0 := by omega
                go_wp2
                go_ret
                exact ⟨ret_int (MF.out 4 (rf_form hF hKM.out hRM.out (by rw [EM.out, rform_4]; simp [*]))).symm, hbw⟩
        · rcases Classical.em (key ≠ 0) with qkey | qkey
          · have r1 : (key == 0) = false := by simpa using qkey
            have r2 : (key != 0) = true := by simpa using qkey
            go_wp2
            go_ret
            exact ⟨ret_int (MF.out 4 (rf_form hF hKM.out hRM.out (by rw [EM.out, rform_5]; simp [*]))).symm, hbw⟩
          obtain rfl : key = 0 := Classical.not_not.1 qkey
          clear qkey
          · rcases Classical.em (value ≠ 0) with qvalue | qvalue
            · have r1 : (value == 0) = false := by simpa using qvalue
              have r2 : (value != 0) = true := by simpa using qvalue
              go_wp2
              go_ret
              exact ⟨ret_int (MF.out 4 (rf_form hF hKM.out hRM.out (by rw [EM.out, rform_5]; simp [*]))).symm, hbw⟩
            obtain rfl : value = 0 := Classical.not_not.1 qvalue
            clear qvalue
            · rcases Classical.em (ask ≠ 0) with qask | qask
              · have r1 : (ask == 0) = false := by simpa using qask
                have r2 : (ask != 0) = true := by simpa using qask
                go_wp2
                go_ret
                exact ⟨ret_int (MF.out 4 (rf_form hF hKM.out hRM.out (by rw [EM.out, rform_5]; simp [*]))).symm, hbw⟩
              obtain rfl : ask = 0 := Classical.not_not.1 qask
              clear qask
              cases yes with
              | true =>
                go_wp2
                go_ret
                exact ⟨ret_int (MF.out 4 (rf_form hF hKM.out hRM.out (by rw [EM.out, rform_5]; simp [*]))).symm, hbw⟩
              | false =>
              rcases Nat.eq_zero_or_pos k with qz | qz
              · subst qz
                go_wp2
                go_ret
                exact ⟨ret_int (MF.out 0 (rf_ok hF hKM.out hRM.out (by rw [EM.out, rform_5]; simp [*]))).symm, hbw⟩
              · have qn : (0 : Int) < (k : Int) := by omega
                have q0 : ¬ k = 0 := by omega
                go_wp2
                go_ret
                exact ⟨ret_int (MF.out 4 (rf_form hF hKM.out hRM.out (by rw [EM.out, rform_5]; simp [*]))).symm, hbw⟩
        · rcases Classical.em (key ≠ 0) with qkey | qkey
          · have r1 : (key == 0) = false := by simpa using qkey
            have r2 : (key != 0) = true := by simpa using qkey
            go_wp2
            go_ret
            exact ⟨ret_int (MF.out 4 (rf_form hF hKM.out hRM.out (by rw [EM.out, rform_6]; simp [*]))).symm, hbw⟩
          obtain rfl : key = 0 := Classical.not_not.1 qkey
          clear qkey
          · rcases Classical.em (value ≠ 0) with qvalue | qvalue
            · have r1 : (value == 0) = false := by simpa using qvalue
              have r2 : (value != 0) = true := by simpa using qvalue
              go_wp2
              go_ret
              exact ⟨ret_int (MF.out 4 (rf_form hF hKM.out hRM.out (by rw [EM.out, rform_6]; simp [*]))).symm, hbw⟩
            obtain rfl : value = 0 := Classical.not_not.1 qvalue
            clear qvalue
            · rcases Classical.em (ask ≠ 0) with qask | qask
              · have r1 : (ask == 0) = false := by simpa using qask
                have r2 : (ask != 0) = true := by simpa using qask
                go_wp2
                go_ret
                exact ⟨ret_int (MF.out 4 (rf_form hF hKM.out hRM.out (by rw [EM.out, rform_6]; simp [*]))).symm, hbw⟩
              obtain rfl : ask = 0 := Classical.not_not.1 qask
              clear qask
              rcases Nat.eq_zero_or_pos k with qz | qz
              · subst qz
                go_wp2
                go_ret
                exact ⟨ret_int (MF.out 0 (rf_ok hF hKM.out hRM.out (by rw [EM.out, rform_6]; simp [*]))).symm, hbw⟩
              · have qn : (0 : Int) < (k : Int) := by omega
                have q0 : ¬ k = 0 := by omega
                go_wp2
                go_ret
                exact ⟨ret_int (MF.out 4 (rf_form hF hKM.out hRM.out (by rw [EM.out, rform_6]; simp [*]))).symm, hbw⟩
  · have hf := MF.out _ (rf_cfg hF)
    go_wp2_with (go_at_call 13; refine (fault_any s p a len cap ls _ hLW).mono ?_; rintro e w1 ⟨rfl, hb1⟩)
    go_ret
    exact ⟨ret_int hf.symm, hB.trans (hb1.mono hB.size)⟩
end Go.Proofs.YtekglahigjblkaaGreatDoor
