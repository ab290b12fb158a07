/- Texts of this claim, one behind the other. -/
import Derived.Test.YtifdjlhgcbkamaaM4PartForces
import Derived.Test.YtifdjlhgcbkamaaM6PartForces
import Derived.Test.YtifdjlhgcbkamaaM9PartForces
import Derived.Test.YtifdjlhgcbkamaaM10PartForces
import Derived.Deep.Cut
/- What part asks of a config and of stores: contracts of bounds.Site, bounds.Label and labelMay, of part.refuse and of the document's siteFault. -/
namespace Go.Proofs.Ytifdjlhgcbkamaa.Pt
open Go.ChangeShapes Go.WideShapes Go.ChangeAt Go.RowKit
open Go.Proofs.Ytifdjlhgcbkamaa.St (SV IsStore IsRow storeOK TxWf)
set_option linter.unusedVariables false

def plc (l : Int) (n : Nat) : Bool := decide (0 ≤ l ∧ l < (n : Int))
theorem plc_true {l : Int} {n : Nat} (h : plc l n = true) : 0 ≤ l ∧ l < (n : Int) := by simpa [plc] using h
theorem site_any (s p : Int) (a : Option Addr) (len cap : Nat) (n : Int) (w : World) (hs : 1 ≤ s ∧ s ≤ 4) :
    Calls Try.prog 30 #[.agg #[.int .i64 s, .slice a len cap, .int .i64 p], .int .i64 n] w fun e w' => e = .returned (.bool (inR n 0 (s - 1))) ∧ Below w.heap.size w w' := by
  have hA : Below w.heap.size w (w.alloc (.cells #[.int .i64 s, .slice a len cap, .int .i64 p] 24)) := (Below.refl _ _).alloc (Nat.le_refl _) _
  obtain ⟨h1, h2⟩ := hs
  go_enter Try.func30, Try.ntmps30
  go_wp2_with (go_at_call 56; refine (within_any _ _ _ _).mono ?_; rintro e w1 ⟨rfl, hu1⟩; rw [hu1]; clear hu1)
  go_ret
  exact ⟨rfl, hA⟩
theorem plc_in (l : Int) (len : Nat) : plc l len = inR l 0 ((len : Int) - 1) := by unfold plc inR; rw [Bool.eq_iff_iff]; simp; omega
theorem place_any (s p : Int) (a : Option Addr) (len cap : Nat) (l : Int) (w : World) (hl : len ≤ 6) :
    Calls Try.prog 54 #[.agg #[.int .i64 s, .slice a len cap, .int .i64 p], .int .i64 l] w fun e w' => e = .returned (.bool (plc l len)) ∧ Below w.heap.size w w' := by
  have hA : Below w.heap.size w (w.alloc (.cells #[.int .i64 s, .slice a len cap, .int .i64 p] 24)) := (Below.refl _ _).alloc (Nat.le_refl _) _
  have h2 : (len : Int) ≤ 6 := by omega
  rw [plc_in]
  go_enter Try.func54, Try.ntmps54
  go_wp2_with (go_at_call 56; refine (within_any _ _ _ _).mono ?_; rintro e w1 ⟨rfl, hu1⟩; rw [hu1]; clear hu1)
  go_ret
  exact ⟨rfl, hA⟩
theorem labelMay_any (s p : Int) (a : Option Addr) (len cap : Nat) (l : Int) (w : World) (hl : len ≤ 6) :
    Calls Try.prog 44 #[.agg #[.int .i64 s, .slice a len cap, .int .i64 p], .int .i64 l] w fun e w' => e = .returned (.bool (plc l len)) ∧ Below w.heap.size w w' := by
  have hA : Below w.heap.size w (w.alloc (.cells #[.int .i64 s, .slice a len cap, .int .i64 p] 24)) := (Below.refl _ _).alloc (Nat.le_refl _) _
  have h2 : (len : Int) ≤ 6 := by omega
  rw [plc_in]
  go_enter Try.func44, Try.ntmps44
  go_wp2_with (go_at_call 45; refine (in_any _ _ _ _).mono ?_; rintro e w1 ⟨rfl, hu1⟩; rw [hu1]; clear hu1)
  go_ret
  exact ⟨rfl, hA⟩

instance : Inhabited SV := ⟨SV.nil⟩
/-- Stores, one behind the other, each four slices. -/
structure IsStores (w : World) (a : Option Addr) (n cap : Nat) (ss : List SV) : Prop where
  row : IsRow 4 SV.box w a n cap ss
  each : ∀ i, i < n → IsStore w (ss.getD i default) ∧ ∀ t ∈ (ss.getD i default).over, TxWf t
theorem IsStores.below {w w' : World} {a : Option Addr} {n cap : Nat} {ss : List SV} (h : IsStores w a n cap ss) (hb : Below w.heap.size w w') : IsStores w' a n cap ss :=
  ⟨h.row.below hb, fun i hi => ⟨(h.each i hi).1.below hb, (h.each i hi).2⟩⟩
theorem IsStores.at {w : World} {a : Option Addr} {n cap : Nat} {ss : List SV} (h : IsStores w a n cap ss) {k : Nat} (hk : k < n) : ∃ b off, a = some ⟨b, off, none⟩ ∧ b < w.heap.size ∧ w.cell? ⟨b, off + k * 4, none⟩ = some (.slice (ss.getD k default).ia (ss.getD k default).il (ss.getD k default).ic) ∧ w.cell? ⟨b, off + k * 4 + 1, none⟩ = some (.slice (ss.getD k default).la (ss.getD k default).ll (ss.getD k default).lc) ∧ w.cell? ⟨b, off + k * 4 + 2, none⟩ = some (.slice (ss.getD k default).da (ss.getD k default).dl (ss.getD k default).dc) ∧ w.cell? ⟨b, off + k * 4 + 3, none⟩ = some (.slice (ss.getD k default).oa (ss.getD k default).ol (ss.getD k default).oc) := by
  obtain ⟨b, off, e, hl, hc⟩ := h.row.2.2.2.2 (by omega)
  exact ⟨b, off, e, hl, hc k hk 0 (by decide), hc k hk 1 (by decide), hc k hk 2 (by decide), hc k hk 3 (by decide)⟩

def siteErr (s : Int) (ls : List (Int × Int)) (p l me : Int) (n : Nat) (ss : List SV) : Int :=
  if cfgFault s ls p = 0 then (if plc l ls.length then (if inR me 0 (s - 1) then (if n = ls.length then (if ss.all storeOK then 0 else 9) else 9) else 2) else 6) else cfgFault s ls p
theorem all_at {ss : List SV} {k : Nat} (hk : k < ss.length) : (ss.take (k + 1)).all storeOK = ((ss.take k).all storeOK && storeOK (ss.getD k default)) := by
  rw [St.take_at hk, List.all_append]
  simp
theorem all_not {ss : List SV} {k : Nat} (hk : k < ss.length) (h : storeOK (ss.getD k default) = false) : ss.all storeOK = false := by
  rw [List.all_eq_false]
  exact ⟨ss.getD k default, by simp [List.getD, hk], fun e => by rw [h] at e; cases e⟩

set_option maxRecDepth 100000 in
set_option maxHeartbeats 4000000 in
theorem refuse_any (s p : Int) (a : Option Addr) (len cap : Nat) (ls : List (Int × Int)) (l me : Int) (sa : Option Addr) (n sc : Nat) (ss : List SV) (w : World) (hl : IsLabs w a len cap ls) (hS : IsStores w sa n sc ss) :
    Calls Try.prog 28 #[.agg #[.int .i64 s, .slice a len cap, .int .i64 p], .int .i64 l, .int .i64 me, .slice sa n sc] w fun e w' => e = .returned (.int .i64 (siteErr s ls p l me n ss)) ∧ Below w.heap.size w w' := by
  have hCk := fun w' h1 => check_any s p a len cap ls w' h1
  obtain ⟨E, eE0⟩ : ∃ R : Int, R = siteErr s ls p l me n ss := ⟨_, rfl⟩
  have hz := fun (e : cfgFault s ls p = 0) => cfg_zero e
  obtain ⟨F, eF⟩ : ∃ R : Int, R = cfgFault s ls p := ⟨_, rfl⟩
  have hll : ls.length = len := hl.1
  have eE : Hid (E = if F = 0 then (if plc l len then (if inR me 0 (s - 1) then (if n = len then (if ss.all storeOK then 0 else 9) else 9) else 2) else 6) else F) := by rw [eF, ← hll]; exact eE0
  rw [← eE0]
  rw [← eF] at hCk hz
  clear eF eE0
  have HN : Hid (ss.length = n) := hS.row.1
  have hnm : n ≤ maxLen := Nat.le_trans hS.row.2.1 hS.row.2.2.1
  have hlm : len ≤ maxLen := Nat.le_trans hl.2.1 hl.2.2.1
  unfold maxLen at hnm hlm
  obtain ⟨W, hW⟩ : ∃ W : World, W = w.alloc (.cells #[.int .i64 s, .slice a len cap, .int .i64 p] 24) := ⟨_, rfl⟩
  have hB : Below w.heap.size w W := by rw [hW]; exact (Below.refl _ _).alloc (Nat.le_refl _) _
  have bx := St.boxn_new w #[.int .i64 s, .slice a len cap, .int .i64 p] 24 3 rfl
  rw [← hW] at bx
  have KA : Hid (∀ U, Below W.heap.size W U → U.cell? ⟨w.heap.size, 0, none⟩ = some (.int .i64 s) ∧ U.cell? ⟨w.heap.size, 1, none⟩ = some (.slice a len cap) ∧ U.cell? ⟨w.heap.size, 2, none⟩ = some (.int .i64 p)) := fun U hU => by
    have hp := bx.below hU bx.lt
    exact ⟨(hp.c 0 (by decide)).1, (hp.c 1 (by decide)).1, (hp.c 2 (by decide)).1⟩
  obtain ⟨d0, d1, d2⟩ := KA.out _ (Below.refl _ _)
  have hlW := hl.below hB
  have HS : Hid (∀ U, Below W.heap.size W U → IsStores U sa n sc ss) := fun U hU => (hS.below hB).below hU
  clear bx hl hS
  go_enter Try.func28, Try.ntmps28
  go_upto_region 1 with (fail)
  rw [← hW]
  clear hW
  by_cases hF : F = 0
  · obtain ⟨s1, s2, l1, l2, _, p1, p2⟩ := hz hF
    rw [hll] at l1 l2
    clear hz
    subst hF
    have hPl := fun w' => place_any s p a len cap l w' l2
    have hSi := fun w' => site_any s p a len cap me w' ⟨s1, s2⟩
    obtain ⟨P, eP⟩ : ∃ R, R = plc l len := ⟨_, rfl⟩
    obtain ⟨I, eI⟩ : ∃ R, R = inR me 0 (s - 1) := ⟨_, rfl⟩
    rw [← eP] at hPl eE
    rw [← eI] at hSi eE
    clear eP
    replace eI := eI.symm
    have hws : IntKind.i64.wrap (s - 1) = s - 1 := by rw [IntKind.wrap_i64]; omega
    cases P with
    | false =>
      go_wp2_with (first | (go_at_call 53; refine (hCk _ hlW).mono ?_; rintro e w1 ⟨rfl, hb1⟩; have hW1 := hb1; clear d0 d1 d2; obtain ⟨d0, d1, d2⟩ := KA.out _ hW1) | (go_at_call 54; refine (hPl _).mono ?_; rintro e w2 ⟨rfl, hb2⟩; have hW2 := hW1.trans (hb2.mono hW1.size); clear d0 d1 d2; obtain ⟨d0, d1, d2⟩ := KA.out _ hW2))
      go_ret
      exact ⟨by rw [eE.out]; rfl, hB.trans (hW2.mono hB.size)⟩
    | true =>
      cases I with
      | false =>
        go_wp2_with (first | (go_at_call 53; refine (hCk _ hlW).mono ?_; rintro e w1 ⟨rfl, hb1⟩; have hW1 := hb1; clear d0 d1 d2; obtain ⟨d0, d1, d2⟩ := KA.out _ hW1) | (go_at_call 54; refine (hPl _).mono ?_; rintro e w2 ⟨rfl, hb2⟩; have hW2 := hW1.trans (hb2.mono hW1.size); clear d0 d1 d2; obtain ⟨d0, d1, d2⟩ := KA.out _ hW2) | (go_at_call 30; refine (hSi _).mono ?_; rintro e w3 ⟨rfl, hb3⟩; have hW3 := hW2.trans (hb3.mono hW2.size); clear d0 d1 d2; obtain ⟨d0, d1, d2⟩ := KA.out _ hW3))
        skip
        go_ret
        exact ⟨by rw [eE.out]; rfl, hB.trans (hW3.mono hB.size)⟩
      | true =>
        by_cases hnl : n = len
        · subst hnl
          go_upto_region 10 with (first | (go_at_call 53; refine (hCk _ hlW).mono ?_; rintro e w1 ⟨rfl, hb1⟩; have hW1 := hb1; clear d0 d1 d2; obtain ⟨d0, d1, d2⟩ := KA.out _ hW1) | (go_at_call 54; refine (hPl _).mono ?_; rintro e w2 ⟨rfl, hb2⟩; have hW2 := hW1.trans (hb2.mono hW1.size); clear d0 d1 d2; obtain ⟨d0, d1, d2⟩ := KA.out _ hW2) | (go_at_call 30; refine (hSi _).mono ?_; rintro e w3 ⟨rfl, hb3⟩; have hW3 := hW2.trans (hb3.mono hW2.size); clear d0 d1 d2; obtain ⟨d0, d1, d2⟩ := KA.out _ hW3))
          go_wp2
          go_loopw [34, 11, 12] (fun i _ _ wr => ∃ k : Nat, i = .int .i64 (k : Int) ∧ k ≤ n ∧ Hid ((ss.take k).all storeOK = true) ∧ Below W.heap.size W wr) (fun i _ _ _ => n - (intOf i).toNat)
          case atStart => exact ⟨0, rfl, Nat.zero_le _, rfl, hW3⟩
          case round =>
            obtain ⟨k, rfl, hk, hal, hb⟩ := hrel
            by_cases hlt : k < n
            · have hlt' : (k : Int) < (n : Int) := by omega
              have hSw := HS.out _ hb
              obtain ⟨b, off, rfl, zb, e0, e1, e2, e3⟩ := hSw.at hlt
              have hEk := hSw.each k hlt
              have HAT : Hid ((ss.take (k + 1)).all storeOK = ((ss.take k).all storeOK && storeOK (ss.getD k default))) := all_at (by rw [HN.out]; exact hlt)
              have HNO : Hid (storeOK (ss.getD k default) = false → ss.all storeOK = false) := all_not (by rw [HN.out]; exact hlt)
              obtain ⟨x, ex⟩ : ∃ x, x = ss.getD k default := ⟨_, rfl⟩
              rw [← ex] at e0 e1 e2 e3 hEk HAT HNO
              clear ex
              have hSC : ∀ w', Below wr.heap.size wr w' → Calls Try.prog 55 #[x.val] w' fun e w'' => e = .returned (.int .i64 (if storeOK x then 0 else 9)) ∧ Below w'.heap.size w' w'' := fun w' hw => St.check_any x w' (hEk.1.below hw) hEk.2
              obtain ⟨O, eO⟩ : ∃ O, O = storeOK x := ⟨_, rfl⟩
              rw [← eO] at hSC HAT HNO
              clear eO hEk
              obtain ⟨ia, il, ic, la, ll, lc, da, dl, dc, oa, ol, oc, items, locks, doubts, over⟩ := x
              simp only [SV.val] at hSC
              simp only [] at e0 e1 e2 e3
              have bW := hb.size
              cases O with
              | false =>
                have hbad := HNO.out rfl
                simp only [Bool.false_eq_true, ↓reduceIte] at hSC
                go_wp2_with (go_at_call 55; refine (hSC _ ((Below.refl _ _).alloc (Nat.le_refl _) _)).mono ?_; rintro e w5 ⟨rfl, hb5⟩)
                go_ret
                exact ⟨by rw [eE.out, hbad]; simp, hB.trans (((hb.alloc hb.size _).trans (hb5.mono (by simp; omega))).mono hB.size)⟩
              | true =>
                simp only [↓reduceIte] at hSC
                go_wp2_with (go_at_call 55; refine (hSC _ ((Below.refl _ _).alloc (Nat.le_refl _) _)).mono ?_; rintro e w5 ⟨rfl, hb5⟩)
                go_roundw
                case rel => exact ⟨k + 1, by go_num, by omega, by show _ = _; rw [HAT.out, hal.out]; rfl, (hb.alloc hb.size _).trans (hb5.mono (by simp; omega))⟩
                case measure => simp [intOf]; omega
            · have hall : ss.all storeOK = true := by
                have := hal.out
                rw [List.take_of_length_le (by rw [HN.out]; omega)] at this
                exact this
              go_wp2
              go_ret
              exact ⟨by rw [eE.out, hall]; simp, hB.trans (hb.mono hB.size)⟩
        · have hnl' : ¬ ((n : Int) = (len : Int)) := by omega
          go_wp2_with (first | (go_at_call 53; refine (hCk _ hlW).mono ?_; rintro e w1 ⟨rfl, hb1⟩; have hW1 := hb1; clear d0 d1 d2; obtain ⟨d0, d1, d2⟩ := KA.out _ hW1) | (go_at_call 54; refine (hPl _).mono ?_; rintro e w2 ⟨rfl, hb2⟩; have hW2 := hW1.trans (hb2.mono hW1.size); clear d0 d1 d2; obtain ⟨d0, d1, d2⟩ := KA.out _ hW2) | (go_at_call 30; refine (hSi _).mono ?_; rintro e w3 ⟨rfl, hb3⟩; have hW3 := hW2.trans (hb3.mono hW2.size); clear d0 d1 d2; obtain ⟨d0, d1, d2⟩ := KA.out _ hW3))
          go_ret
          exact ⟨by rw [eE.out]; simp [hnl], hB.trans (hW3.mono hB.size)⟩
  · go_wp2_with (go_at_call 53; refine (hCk _ hlW).mono ?_; rintro e w1 ⟨rfl, hb1⟩; have hW1 := hb1; clear d0 d1 d2; obtain ⟨d0, d1, d2⟩ := KA.out _ hW1)
    go_ret
    exact ⟨by rw [eE.out, if_neg hF]; rfl, hB.trans (hW1.mono hB.size)⟩

set_option maxRecDepth 100000 in
set_option maxHeartbeats 4000000 in
theorem siteFault_any (s p : Int) (a : Option Addr) (len cap : Nat) (ls : List (Int × Int)) (l me : Int) (sa : Option Addr) (n sc : Nat) (ss : List SV) (w : World) (hl : IsLabs w a len cap ls) (hS : IsStores w sa n sc ss) :
    Calls Try.prog 21 #[.agg #[.int .i64 s, .slice a len cap, .int .i64 p], .int .i64 l, .int .i64 me, .slice sa n sc] w fun e w' => e = .returned (.int .i64 (siteErr s ls p l me n ss)) ∧ Below w.heap.size w w' := by
  have hCk := fun w' h1 => fault_any s p a len cap ls w' h1
  obtain ⟨E, eE0⟩ : ∃ R : Int, R = siteErr s ls p l me n ss := ⟨_, rfl⟩
  have hz := fun (e : cfgFault s ls p = 0) => cfg_zero e
  obtain ⟨F, eF⟩ : ∃ R : Int, R = cfgFault s ls p := ⟨_, rfl⟩
  have hll : ls.length = len := hl.1
  have eE : Hid (E = if F = 0 then (if plc l len then (if inR me 0 (s - 1) then (if n = len then (if ss.all storeOK then 0 else 9) else 9) else 2) else 6) else F) := by rw [eF, ← hll]; exact eE0
  rw [← eE0]
  rw [← eF] at hCk hz
  clear eF eE0
  have HN : Hid (ss.length = n) := hS.row.1
  have hnm : n ≤ maxLen := Nat.le_trans hS.row.2.1 hS.row.2.2.1
  have hlm : len ≤ maxLen := Nat.le_trans hl.2.1 hl.2.2.1
  unfold maxLen at hnm hlm
  obtain ⟨W, hW⟩ : ∃ W : World, W = w.alloc (.cells #[.int .i64 s, .slice a len cap, .int .i64 p] 24) := ⟨_, rfl⟩
  have hB : Below w.heap.size w W := by rw [hW]; exact (Below.refl _ _).alloc (Nat.le_refl _) _
  have bx := St.boxn_new w #[.int .i64 s, .slice a len cap, .int .i64 p] 24 3 rfl
  rw [← hW] at bx
  have KA : Hid (∀ U, Below W.heap.size W U → U.cell? ⟨w.heap.size, 0, none⟩ = some (.int .i64 s) ∧ U.cell? ⟨w.heap.size, 1, none⟩ = some (.slice a len cap) ∧ U.cell? ⟨w.heap.size, 2, none⟩ = some (.int .i64 p)) := fun U hU => by
    have hp := bx.below hU bx.lt
    exact ⟨(hp.c 0 (by decide)).1, (hp.c 1 (by decide)).1, (hp.c 2 (by decide)).1⟩
  obtain ⟨d0, d1, d2⟩ := KA.out _ (Below.refl _ _)
  have hlW := hl.below hB
  have HS : Hid (∀ U, Below W.heap.size W U → IsStores U sa n sc ss) := fun U hU => (hS.below hB).below hU
  clear bx hl hS
  go_enter Try.func21, Try.ntmps21
  go_upto_region 1 with (fail)
  rw [← hW]
  clear hW
  by_cases hF : F = 0
  · obtain ⟨s1, s2, l1, l2, _, p1, p2⟩ := hz hF
    rw [hll] at l1 l2
    clear hz
    subst hF
    have hPl := fun w' => labelMay_any s p a len cap l w' l2
    have hSi := fun w' => site_any s p a len cap me w' ⟨s1, s2⟩
    obtain ⟨P, eP⟩ : ∃ R, R = plc l len := ⟨_, rfl⟩
    obtain ⟨I, eI⟩ : ∃ R, R = inR me 0 (s - 1) := ⟨_, rfl⟩
    rw [← eP] at hPl eE
    rw [← eI] at hSi eE
    clear eP
    replace eI := eI.symm
    have hws : IntKind.i64.wrap (s - 1) = s - 1 := by rw [IntKind.wrap_i64]; omega
    cases P with
    | false =>
      go_wp2_with (first | (go_at_call 43; refine (hCk _ hlW).mono ?_; rintro e w1 ⟨rfl, hb1⟩; have hW1 := hb1; clear d0 d1 d2; obtain ⟨d0, d1, d2⟩ := KA.out _ hW1) | (go_at_call 44; refine (hPl _).mono ?_; rintro e w2 ⟨rfl, hb2⟩; have hW2 := hW1.trans (hb2.mono hW1.size); clear d0 d1 d2; obtain ⟨d0, d1, d2⟩ := KA.out _ hW2))
      go_ret
      exact ⟨by rw [eE.out]; rfl, hB.trans (hW2.mono hB.size)⟩
    | true =>
      cases I with
      | false =>
        go_wp2_with (first | (go_at_call 43; refine (hCk _ hlW).mono ?_; rintro e w1 ⟨rfl, hb1⟩; have hW1 := hb1; clear d0 d1 d2; obtain ⟨d0, d1, d2⟩ := KA.out _ hW1) | (go_at_call 44; refine (hPl _).mono ?_; rintro e w2 ⟨rfl, hb2⟩; have hW2 := hW1.trans (hb2.mono hW1.size); clear d0 d1 d2; obtain ⟨d0, d1, d2⟩ := KA.out _ hW2) | (go_at_call 45; refine (in_any _ _ _ _).mono ?_; rintro e w3 ⟨rfl, hu3⟩; rw [hu3]; clear hu3))
        skip
        go_ret
        exact ⟨by rw [eE.out]; rfl, hB.trans (hW2.mono hB.size)⟩
      | true =>
        by_cases hnl : n = len
        · subst hnl
          go_upto_region 10 with (first | (go_at_call 43; refine (hCk _ hlW).mono ?_; rintro e w1 ⟨rfl, hb1⟩; have hW1 := hb1; clear d0 d1 d2; obtain ⟨d0, d1, d2⟩ := KA.out _ hW1) | (go_at_call 44; refine (hPl _).mono ?_; rintro e w2 ⟨rfl, hb2⟩; have hW2 := hW1.trans (hb2.mono hW1.size); clear d0 d1 d2; obtain ⟨d0, d1, d2⟩ := KA.out _ hW2) | (go_at_call 45; refine (in_any _ _ _ _).mono ?_; rintro e w3 ⟨rfl, hu3⟩; rw [hu3]; clear hu3))
          go_wp2
          go_loopw [10] (fun i wr => ∃ k : Nat, i = .int .i64 (k : Int) ∧ k ≤ n ∧ Hid ((ss.take k).all storeOK = true) ∧ Below W.heap.size W wr) (fun i _ => n - (intOf i).toNat)
          case atStart => exact ⟨0, rfl, Nat.zero_le _, rfl, hW2⟩
          case round =>
            obtain ⟨k, rfl, hk, hal, hb⟩ := hrel
            by_cases hlt : k < n
            · have hlt' : (k : Int) < (n : Int) := by omega
              have hSw := HS.out _ hb
              obtain ⟨b, off, rfl, zb, e0, e1, e2, e3⟩ := hSw.at hlt
              have hEk := hSw.each k hlt
              have HAT : Hid ((ss.take (k + 1)).all storeOK = ((ss.take k).all storeOK && storeOK (ss.getD k default))) := all_at (by rw [HN.out]; exact hlt)
              have HNO : Hid (storeOK (ss.getD k default) = false → ss.all storeOK = false) := all_not (by rw [HN.out]; exact hlt)
              obtain ⟨x, ex⟩ : ∃ x, x = ss.getD k default := ⟨_, rfl⟩
              rw [← ex] at e0 e1 e2 e3 hEk HAT HNO
              clear ex
              have hSC : ∀ w', Below wr.heap.size wr w' → Calls Try.prog 46 #[x.val] w' fun e w'' => e = .returned (.bool (storeOK x)) ∧ Below w'.heap.size w' w'' := fun w' hw => St.storeMay_any x w' (hEk.1.below hw)
              obtain ⟨O, eO⟩ : ∃ O, O = storeOK x := ⟨_, rfl⟩
              rw [← eO] at hSC HAT HNO
              clear eO hEk
              obtain ⟨ia, il, ic, la, ll, lc, da, dl, dc, oa, ol, oc, items, locks, doubts, over⟩ := x
              simp only [SV.val] at hSC
              simp only [] at e0 e1 e2 e3
              have bW := hb.size
              cases O with
              | false =>
                have hbad := HNO.out rfl
                skip
                go_wp2_with (go_at_call 46; refine (hSC _ (Below.refl _ _)).mono ?_; rintro e w5 ⟨rfl, hb5⟩)
                go_ret
                exact ⟨by rw [eE.out, hbad]; simp, hB.trans ((hb.trans (hb5.mono hb.size)).mono hB.size)⟩
              | true =>
                skip
                go_wp2_with (go_at_call 46; refine (hSC _ (Below.refl _ _)).mono ?_; rintro e w5 ⟨rfl, hb5⟩)
                go_roundw
                case rel => exact ⟨k + 1, by go_num, by omega, by show _ = _; rw [HAT.out, hal.out]; rfl, hb.trans (hb5.mono hb.size)⟩
                case measure => simp [intOf]; omega
            · have hall : ss.all storeOK = true := by
                have := hal.out
                rw [List.take_of_length_le (by rw [HN.out]; omega)] at this
                exact this
              go_wp2
              go_ret
              exact ⟨by rw [eE.out, hall]; simp, hB.trans (hb.mono hB.size)⟩
        · have hnl' : ¬ ((n : Int) = (len : Int)) := by omega
          go_wp2_with (first | (go_at_call 43; refine (hCk _ hlW).mono ?_; rintro e w1 ⟨rfl, hb1⟩; have hW1 := hb1; clear d0 d1 d2; obtain ⟨d0, d1, d2⟩ := KA.out _ hW1) | (go_at_call 44; refine (hPl _).mono ?_; rintro e w2 ⟨rfl, hb2⟩; have hW2 := hW1.trans (hb2.mono hW1.size); clear d0 d1 d2; obtain ⟨d0, d1, d2⟩ := KA.out _ hW2) | (go_at_call 45; refine (in_any _ _ _ _).mono ?_; rintro e w3 ⟨rfl, hu3⟩; rw [hu3]; clear hu3))
          go_ret
          exact ⟨by rw [eE.out]; simp [hnl], hB.trans (hW2.mono hB.size)⟩
  · go_wp2_with (go_at_call 43; refine (hCk _ hlW).mono ?_; rintro e w1 ⟨rfl, hb1⟩; have hW1 := hb1; clear d0 d1 d2; obtain ⟨d0, d1, d2⟩ := KA.out _ hW1)
    go_ret
    exact ⟨by rw [eE.out, if_neg hF]; rfl, hB.trans (hW1.mono hB.size)⟩
end Go.Proofs.Ytifdjlhgcbkamaa.Pt
/- How a call that is handed a store and answers one begins: a box for the store, a box for the answer. -/
namespace Go.Proofs.Ytifdjlhgcbkamaa.St
open Go.ChangeShapes Go.WideShapes Go.ChangeAt Go.RowKit
set_option linter.unusedVariables false

structure Pre (w W : World) (s : SV) : Prop where
  bel : Below w.heap.size w W
  sz : W.heap.size = w.heap.size + 2
  st : IsStore W s
  par : BoxN W w.heap.size 4 s.box
  res : BoxN W (w.heap.size + 1) 4 SV.nil.box
theorem pre_of (w : World) (s : SV) (h : IsStore w s) : Pre w ((w.alloc (.cells #[.slice s.ia s.il s.ic, .slice s.la s.ll s.lc, .slice s.da s.dl s.dc, .slice s.oa s.ol s.oc] 34)).alloc (.cells #[.slice none 0 0, .slice none 0 0, .slice none 0 0, .slice none 0 0] 34)) s := by
  have h1 : Below w.heap.size w (w.alloc (.cells #[.slice s.ia s.il s.ic, .slice s.la s.ll s.lc, .slice s.da s.dl s.dc, .slice s.oa s.ol s.oc] 34)) := (Below.refl _ _).alloc (Nat.le_refl _) _
  have h2 : Below w.heap.size w ((w.alloc (.cells #[.slice s.ia s.il s.ic, .slice s.la s.ll s.lc, .slice s.da s.dl s.dc, .slice s.oa s.ol s.oc] 34)).alloc (.cells #[.slice none 0 0, .slice none 0 0, .slice none 0 0, .slice none 0 0] 34)) := h1.alloc (by simp) _
  have b1 := boxn_new w #[.slice s.ia s.il s.ic, .slice s.la s.ll s.lc, .slice s.da s.dl s.dc, .slice s.oa s.ol s.oc] 34 4 rfl
  have b2 := boxn_new (w.alloc (.cells #[.slice s.ia s.il s.ic, .slice s.la s.ll s.lc, .slice s.da s.dl s.dc, .slice s.oa s.ol s.oc] 34)) #[.slice none 0 0, .slice none 0 0, .slice none 0 0, .slice none 0 0] 34 4 rfl
  refine ⟨h2, by simp, h.below h2, ?_, by simpa [SV.nil, SV.box] using b2⟩
  refine b1.below (B := (w.alloc (.cells #[.slice s.ia s.il s.ic, .slice s.la s.ll s.lc, .slice s.da s.dl s.dc, .slice s.oa s.ol s.oc] 34)).heap.size) ((Below.refl _ _).alloc (Nat.le_refl _) _) (by simp)
theorem Pre.z0 {w W : World} {s : SV} (h : Pre w W s) : w.heap.size < W.heap.size := by have := h.sz; omega
theorem Pre.z1 {w W : World} {s : SV} (h : Pre w W s) : w.heap.size + 1 < W.heap.size := by have := h.sz; omega
theorem Pre.cells {w W : World} {s : SV} (h : Pre w W s) (U : World) (hU : Below W.heap.size W U) : U.cell? ⟨w.heap.size, 0, none⟩ = some (.slice s.ia s.il s.ic) ∧ U.cell? ⟨w.heap.size, 1, none⟩ = some (.slice s.la s.ll s.lc) ∧ U.cell? ⟨w.heap.size, 2, none⟩ = some (.slice s.da s.dl s.dc) ∧ U.cell? ⟨w.heap.size, 3, none⟩ = some (.slice s.oa s.ol s.oc) := by
  have hp := h.par.below hU h.z0
  exact ⟨(hp.c 0 (by decide)).1, (hp.c 1 (by decide)).1, (hp.c 2 (by decide)).1, (hp.c 3 (by decide)).1⟩
theorem Pre.out {w W : World} {s : SV} (h : Pre w W s) (U : World) (hU : Below W.heap.size W U) : (w.heap.size + 1 < U.heap.size ∧ U.cell? ⟨w.heap.size + 1, 0, none⟩ = some (.slice none 0 0) ∧ U.cell? ⟨w.heap.size + 1, 1, none⟩ = some (.slice none 0 0) ∧ U.cell? ⟨w.heap.size + 1, 2, none⟩ = some (.slice none 0 0) ∧ U.cell? ⟨w.heap.size + 1, 3, none⟩ = some (.slice none 0 0)) ∧ U.frozen? ⟨w.heap.size + 1, 0, none⟩ = false ∧ U.frozen? ⟨w.heap.size + 1, 1, none⟩ = false ∧ U.frozen? ⟨w.heap.size + 1, 2, none⟩ = false ∧ U.frozen? ⟨w.heap.size + 1, 3, none⟩ = false := by
  have hp := h.res.below hU h.z1
  exact ⟨⟨hp.lt, (hp.c 0 (by decide)).1, (hp.c 1 (by decide)).1, (hp.c 2 (by decide)).1, (hp.c 3 (by decide)).1⟩, (hp.c 0 (by decide)).2, (hp.c 1 (by decide)).2, (hp.c 2 (by decide)).2, (hp.c 3 (by decide)).2⟩
theorem Pre.below {w W U : World} {s : SV} (h : Pre w W s) (hU : Below W.heap.size W U) : Below w.heap.size w U := h.bel.trans (hU.mono h.bel.size)
/-- What is told to the answer's box. -/
theorem Pre.done {w W U : World} {s r : SV} (h : Pre w W s) (hU : Below W.heap.size W U) (hr : IsStore U r) (hn : ∀ b off, (r.ia = some ⟨b, off, none⟩ ∧ 0 < r.il) ∨ (r.la = some ⟨b, off, none⟩ ∧ 0 < r.ll) ∨ (r.da = some ⟨b, off, none⟩ ∧ 0 < r.dl) ∨ (r.oa = some ⟨b, off, none⟩ ∧ 0 < r.ol) → b ≠ w.heap.size + 1) (p0 p1 p2 p3 : Value) :
    IsStore ((((U.setCell ⟨w.heap.size + 1, 0, none⟩ p0).setCell ⟨w.heap.size + 1, 1, none⟩ p1).setCell ⟨w.heap.size + 1, 2, none⟩ p2).setCell ⟨w.heap.size + 1, 3, none⟩ p3) r ∧ Below w.heap.size w ((((U.setCell ⟨w.heap.size + 1, 0, none⟩ p0).setCell ⟨w.heap.size + 1, 1, none⟩ p1).setCell ⟨w.heap.size + 1, 2, none⟩ p2).setCell ⟨w.heap.size + 1, 3, none⟩ p3) := by
  have far : ∀ {α : Type} [Inhabited α] {k : Nat} {cells : α → List Value} {U : World} {a : Option Addr} {n c : Nat} {xs : List α} (j : Nat) (v : Value), (∀ b off, a = some ⟨b, off, none⟩ ∧ 0 < n → b ≠ w.heap.size + 1) → IsRow k cells U a n c xs → IsRow k cells (U.setCell ⟨w.heap.size + 1, j, none⟩ v) a n c xs := by
    intro α _ k cells U a n c xs j v hne hR
    obtain ⟨r1, r2, r3, r4, r5⟩ := hR
    refine ⟨r1, r2, r3, r4, fun hp => ?_⟩
    obtain ⟨b, off, e, hl, hc⟩ := r5 hp
    refine ⟨b, off, e, by simpa using hl, fun i hi q hq => ?_⟩
    rw [World.cell?_of_block (a := ⟨b, off + i * k + q, none⟩) (Below.heap_setCell U ⟨w.heap.size + 1, j, none⟩ v b (hne b off ⟨e, hp⟩))]
    exact hc i hi q hq
  have n1 := fun b off (q : r.ia = some ⟨b, off, none⟩ ∧ 0 < r.il) => hn b off (.inl q)
  have n2 := fun b off (q : r.la = some ⟨b, off, none⟩ ∧ 0 < r.ll) => hn b off (.inr (.inl q))
  have n3 := fun b off (q : r.da = some ⟨b, off, none⟩ ∧ 0 < r.dl) => hn b off (.inr (.inr (.inl q)))
  have n4 := fun b off (q : r.oa = some ⟨b, off, none⟩ ∧ 0 < r.ol) => hn b off (.inr (.inr (.inr q)))
  refine ⟨⟨far 3 _ n1 (far 2 _ n1 (far 1 _ n1 (far 0 _ n1 hr.items))), far 3 _ n2 (far 2 _ n2 (far 1 _ n2 (far 0 _ n2 hr.locks))), far 3 _ n3 (far 2 _ n3 (far 1 _ n3 (far 0 _ n3 hr.doubts))), far 3 _ n4 (far 2 _ n4 (far 1 _ n4 (far 0 _ n4 hr.over)))⟩, ?_⟩
  refine Below.setCell (Below.setCell (Below.setCell (Below.setCell (h.below hU) ?_ _) ?_ _) ?_ _) ?_ _
  all_goals exact Nat.le_succ _
/-- The same of a store that was made behind the two boxes. -/
theorem Pre.made {w W U : World} {s r : SV} {m : Nat} (h : Pre w W s) (hM : Made W U W.heap.size m r) (p0 p1 p2 p3 : Value) :
    IsStore ((((U.setCell ⟨w.heap.size + 1, 0, none⟩ p0).setCell ⟨w.heap.size + 1, 1, none⟩ p1).setCell ⟨w.heap.size + 1, 2, none⟩ p2).setCell ⟨w.heap.size + 1, 3, none⟩ p3) r ∧ OwnStore ((((U.setCell ⟨w.heap.size + 1, 0, none⟩ p0).setCell ⟨w.heap.size + 1, 1, none⟩ p1).setCell ⟨w.heap.size + 1, 2, none⟩ p2).setCell ⟨w.heap.size + 1, 3, none⟩ p3) w.heap.size r ∧ Below w.heap.size w ((((U.setCell ⟨w.heap.size + 1, 0, none⟩ p0).setCell ⟨w.heap.size + 1, 1, none⟩ p1).setCell ⟨w.heap.size + 1, 2, none⟩ p2).setCell ⟨w.heap.size + 1, 3, none⟩ p3) := by
  have z1 := h.z1
  have ho : OwnStore ((((U.setCell ⟨w.heap.size + 1, 0, none⟩ p0).setCell ⟨w.heap.size + 1, 1, none⟩ p1).setCell ⟨w.heap.size + 1, 2, none⟩ p2).setCell ⟨w.heap.size + 1, 3, none⟩ p3) W.heap.size r :=
    (((hM.own.box (p := ⟨w.heap.size + 1, 0, none⟩) z1 p0).box (p := ⟨w.heap.size + 1, 1, none⟩) z1 p1).box (p := ⟨w.heap.size + 1, 2, none⟩) z1 p2).box (p := ⟨w.heap.size + 1, 3, none⟩) z1 p3
  refine ⟨ho.isStore, ho.base h.bel.size, ?_⟩
  refine Below.setCell (Below.setCell (Below.setCell (Below.setCell (h.below hM.bel) ?_ _) ?_ _) ?_ _) ?_ _
  all_goals exact Nat.le_succ _
end Go.Proofs.Ytifdjlhgcbkamaa.St
/- Contracts of sameTxns and sameStore: at the same data they return true, and leave what was in memory. -/
namespace Go.Proofs.Ytifdjlhgcbkamaa.St
open Go.ChangeShapes Go.WideShapes Go.ChangeAt Go.RowKit
set_option linter.unusedVariables false

set_option maxRecDepth 100000 in
set_option maxHeartbeats 2000000 in
theorem sameTxns_any (a b : Option Addr) (n cap cap' : Nat) (xs : List (Int × Int)) (w : World) (h : IsTxns w a n cap xs) (h' : IsTxns w b n cap' xs) :
    Calls Try.prog 51 #[.slice a n cap, .slice b n cap'] w fun e w' => e = .returned (.bool true) ∧ Below w.heap.size w w' := by
  have hmx : n ≤ maxLen := Nat.le_trans h.2.1 h.2.2.1
  unfold maxLen at hmx
  go_enter Try.func51, Try.ntmps51
  go_wp2
  go_loopw [5] (fun i wr => ∃ k : Nat, k ≤ n ∧ i = .int .i64 k ∧ Below w.heap.size w wr) (fun i _ => n - (intOf i).toNat)
  case atStart => exact ⟨0, Nat.zero_le _, rfl, Below.refl _ _⟩
  case round =>
    obtain ⟨k, hk, rfl, hb⟩ := hrel
    by_cases hlt : k < n
    · have hlt' : (k : Int) < (n : Int) := by omega
      obtain ⟨b1, o1, rfl, _, c1⟩ := (h.below hb).2.2.2.2 (by omega)
      obtain ⟨b2, o2, rfl, _, c2⟩ := (h'.below hb).2.2.2.2 (by omega)
      have e1 := c1 k hlt
      have e2 := c2 k hlt
      obtain ⟨z, hz⟩ : ∃ z, z = xs.getD k default := ⟨_, rfl⟩
      rw [← hz] at e1 e2
      clear hz c1 c2
      obtain ⟨q0, q1⟩ := z
      have x0 := e1 0 (by decide)
      have x1 := e1 1 (by decide)
      have y0 := e2 0 (by decide)
      have y1 := e2 1 (by decide)
      simp only [txCells, List.getElem?_cons_zero, List.getElem?_cons_succ, Nat.add_zero] at x0 x1 y0 y1
      clear e1 e2
      go_wp2
      go_quiet (fail)
      go_wp2
      go_roundw
      case rel => exact ⟨k + 1, by omega, by go_num, below_drewN hb nq⟩
      case measure => simp [intOf]; omega
    · go_wp2
      go_ret
      exact ⟨rfl, hb⟩

set_option maxRecDepth 100000 in
set_option maxHeartbeats 8000000 in
theorem sameStore_any (x y : SV) (w : World) (h : IsStore w x) (h' : IsStore w y) (hd : x.data = y.data) :
    Calls Try.prog 24 #[x.val, y.val] w fun e w' => e = .returned (.bool true) ∧ Below w.heap.size w w' := by
  obtain ⟨ia, il, ic, la, ll, lc, da, dl, dc, oa, ol, oc, items, locks, doubts, over⟩ := x
  obtain ⟨ja, jl, jc, ma, ml, mc, ea, el, ec, pa, pl, pc, items', locks', doubts', over'⟩ := y
  simp only [SV.data, PS.mk.injEq] at hd
  obtain ⟨rfl, rfl, rfl, rfl⟩ := hd
  obtain rfl : il = jl := h.items.1.symm.trans h'.items.1
  obtain rfl : ll = ml := h.locks.1.symm.trans h'.locks.1
  obtain rfl : dl = el := h.doubts.1.symm.trans h'.doubts.1
  obtain rfl : ol = pl := h.over.1.symm.trans h'.over.1
  simp only [SV.val]
  have m1 : il ≤ maxLen := Nat.le_trans h.items.2.1 h.items.2.2.1
  have m2 : ll ≤ maxLen := Nat.le_trans h.locks.2.1 h.locks.2.2.1
  have m3 : dl ≤ maxLen := Nat.le_trans h.doubts.2.1 h.doubts.2.2.1
  unfold maxLen at m1 m2 m3
  have hT := fun w' k k' => sameTxns_any oa pa ol oc pc over w' k k'
  obtain ⟨W, hW⟩ : ∃ W : World, W = (w.alloc (.cells #[.slice ia il ic, .slice la ll lc, .slice da dl dc, .slice oa ol oc] 34)).alloc (.cells #[.slice ja il jc, .slice ma ll mc, .slice ea dl ec, .slice pa ol pc] 34) := ⟨_, rfl⟩
  have hB : Below w.heap.size w W := by rw [hW]; exact ((Below.refl _ _).alloc (Nat.le_refl _) _).alloc (by simp) _
  have zW : W.heap.size = w.heap.size + 2 := by rw [hW]; simp
  have z0 : w.heap.size < W.heap.size := by omega
  have z1 : w.heap.size + 1 < W.heap.size := by omega
  clear zW
  have c0 : W.cell? ⟨w.heap.size, 0, none⟩ = some (.slice ia il ic) := by rw [hW]; go_simp
  have d0 : W.cell? ⟨w.heap.size + 1, 0, none⟩ = some (.slice ja il jc) := by rw [hW]; go_simp
  have c1 : W.cell? ⟨w.heap.size, 1, none⟩ = some (.slice la ll lc) := by rw [hW]; go_simp
  have d1 : W.cell? ⟨w.heap.size + 1, 1, none⟩ = some (.slice ma ll mc) := by rw [hW]; go_simp
  have c2 : W.cell? ⟨w.heap.size, 2, none⟩ = some (.slice da dl dc) := by rw [hW]; go_simp
  have d2 : W.cell? ⟨w.heap.size + 1, 2, none⟩ = some (.slice ea dl ec) := by rw [hW]; go_simp
  have c3 : W.cell? ⟨w.heap.size, 3, none⟩ = some (.slice oa ol oc) := by rw [hW]; go_simp
  have d3 : W.cell? ⟨w.heap.size + 1, 3, none⟩ = some (.slice pa ol pc) := by rw [hW]; go_simp
  have KA : Hid (∀ U : World, Below W.heap.size W U → U.cell? ⟨w.heap.size, 0, none⟩ = some (.slice ia il ic) ∧ U.cell? ⟨w.heap.size + 1, 0, none⟩ = some (.slice ja il jc) ∧ U.cell? ⟨w.heap.size, 1, none⟩ = some (.slice la ll lc) ∧ U.cell? ⟨w.heap.size + 1, 1, none⟩ = some (.slice ma ll mc) ∧ U.cell? ⟨w.heap.size, 2, none⟩ = some (.slice da dl dc) ∧ U.cell? ⟨w.heap.size + 1, 2, none⟩ = some (.slice ea dl ec) ∧ U.cell? ⟨w.heap.size, 3, none⟩ = some (.slice oa ol oc) ∧ U.cell? ⟨w.heap.size + 1, 3, none⟩ = some (.slice pa ol pc)) := fun U hU => ⟨(hU.cell (p := ⟨w.heap.size, 0, none⟩) z0).trans c0, (hU.cell (p := ⟨w.heap.size + 1, 0, none⟩) z1).trans d0, (hU.cell (p := ⟨w.heap.size, 1, none⟩) z0).trans c1, (hU.cell (p := ⟨w.heap.size + 1, 1, none⟩) z1).trans d1, (hU.cell (p := ⟨w.heap.size, 2, none⟩) z0).trans c2, (hU.cell (p := ⟨w.heap.size + 1, 2, none⟩) z1).trans d2, (hU.cell (p := ⟨w.heap.size, 3, none⟩) z0).trans c3, (hU.cell (p := ⟨w.heap.size + 1, 3, none⟩) z1).trans d3⟩
  have HS : Hid (∀ U, Below W.heap.size W U → IsStore U ⟨ia, il, ic, la, ll, lc, da, dl, dc, oa, ol, oc, items, locks, doubts, over⟩) := fun U hU => (h.below hB).below hU
  have HS' : Hid (∀ U, Below W.heap.size W U → IsStore U ⟨ja, il, jc, ma, ll, mc, ea, dl, ec, pa, ol, pc, items, locks, doubts, over⟩) := fun U hU => (h'.below hB).below hU
  have ho := (h.below hB).over
  have ho' := (h'.below hB).over
  simp only [] at ho ho'
  clear h h'
  go_enter Try.func24, Try.ntmps24
  go_upto_region 1 with (fail)
  rw [← hW]
  clear hW
  go_upto_region 3 with (go_at_call 51; refine (hT _ ho ho').mono ?_; rintro e w1 ⟨rfl, hb0⟩)
  go_wp2
  clear c0 c1 c2 c3 d0 d1 d2 d3 ho ho' hT
  go_loopw [5] (fun i wr => ∃ k : Nat, k ≤ il ∧ i = .int .i64 k ∧ Below W.heap.size W wr) (fun i _ => il - (intOf i).toNat)
  case atStart => exact ⟨0, Nat.zero_le _, rfl, hb0⟩
  case round =>
    obtain ⟨k, hk, rfl, hb⟩ := hrel
    obtain ⟨c0, d0, c1, d1, c2, d2, c3, d3⟩ := KA.out _ hb
    by_cases hlt : k < il
    · have hlt' : (k : Int) < (il : Int) := by omega
      obtain ⟨b1, o1, rfl, _, k1⟩ := (HS.out _ hb).items.2.2.2.2 (by show 0 < il; omega)
      obtain ⟨b2, o2, rfl, _, k2⟩ := (HS'.out _ hb).items.2.2.2.2 (by show 0 < il; omega)
      have e1 := k1 k hlt
      have e2 := k2 k hlt
      simp only [] at e1 e2
      obtain ⟨z, hz⟩ : ∃ z, z = items.getD k default := ⟨_, rfl⟩
      rw [← hz] at e1 e2
      clear hz k1 k2
      obtain ⟨q0, q1, q2⟩ := z
      have x0 := e1 0 (by decide)
      have y0 := e2 0 (by decide)
      have x1 := e1 1 (by decide)
      have y1 := e2 1 (by decide)
      have x2 := e1 2 (by decide)
      have y2 := e2 2 (by decide)
      simp only [ItV.cells, List.getElem?_cons_zero, List.getElem?_cons_succ, Nat.add_zero] at x0 y0 x1 y1 x2 y2
      clear e1 e2
      go_wp2
      go_quiet (fail)
      go_wp2
      go_roundw
      case rel => exact ⟨k + 1, by omega, by go_num, below_drewN hb nq⟩
      case measure => simp [intOf]; omega
    · have hb1 := hb
      go_wp2
      clear c0 c1 c2 c3 d0 d1 d2 d3 hlt hb hk
      go_loopw [6] (fun i wr => ∃ k : Nat, k ≤ ll ∧ i = .int .i64 k ∧ Below W.heap.size W wr) (fun i _ => ll - (intOf i).toNat)
      case atStart => exact ⟨0, Nat.zero_le _, rfl, hb1⟩
      case round =>
        obtain ⟨k, hk, rfl, hb⟩ := hrel
        obtain ⟨c0, d0, c1, d1, c2, d2, c3, d3⟩ := KA.out _ hb
        by_cases hlt : k < ll
        · have hlt' : (k : Int) < (ll : Int) := by omega
          obtain ⟨b1, o1, rfl, _, k1⟩ := (HS.out _ hb).locks.2.2.2.2 (by show 0 < ll; omega)
          obtain ⟨b2, o2, rfl, _, k2⟩ := (HS'.out _ hb).locks.2.2.2.2 (by show 0 < ll; omega)
          have e1 := k1 k hlt
          have e2 := k2 k hlt
          simp only [] at e1 e2
          obtain ⟨z, hz⟩ : ∃ z, z = locks.getD k default := ⟨_, rfl⟩
          rw [← hz] at e1 e2
          clear hz k1 k2
          obtain ⟨⟨q0, q1⟩, q2, q3, q4, q5⟩ := z
          have x0 := e1 0 (by decide)
          have y0 := e2 0 (by decide)
          have x1 := e1 1 (by decide)
          have y1 := e2 1 (by decide)
          have x2 := e1 2 (by decide)
          have y2 := e2 2 (by decide)
          have x3 := e1 3 (by decide)
          have y3 := e2 3 (by decide)
          have x4 := e1 4 (by decide)
          have y4 := e2 4 (by decide)
          have x5 := e1 5 (by decide)
          have y5 := e2 5 (by decide)
          simp only [LkV.cells, List.getElem?_cons_zero, List.getElem?_cons_succ, Nat.add_zero] at x0 y0 x1 y1 x2 y2 x3 y3 x4 y4 x5 y5
          clear e1 e2
          go_wp2
          go_quiet (fail)
          go_wp2
          go_roundw
          case rel => exact ⟨k + 1, by omega, by go_num, below_drewN hb nq⟩
          case measure => simp [intOf]; omega
        · have hb2 := hb
          go_wp2
          clear c0 c1 c2 c3 d0 d1 d2 d3 hlt hb hk
          go_loopw [7] (fun i wr => ∃ k : Nat, k ≤ dl ∧ i = .int .i64 k ∧ Below W.heap.size W wr) (fun i _ => dl - (intOf i).toNat)
          case atStart => exact ⟨0, Nat.zero_le _, rfl, hb2⟩
          case round =>
            obtain ⟨k, hk, rfl, hb⟩ := hrel
            obtain ⟨c0, d0, c1, d1, c2, d2, c3, d3⟩ := KA.out _ hb
            by_cases hlt : k < dl
            · have hlt' : (k : Int) < (dl : Int) := by omega
              obtain ⟨b1, o1, rfl, _, k1⟩ := (HS.out _ hb).doubts.2.2.2.2 (by show 0 < dl; omega)
              obtain ⟨b2, o2, rfl, _, k2⟩ := (HS'.out _ hb).doubts.2.2.2.2 (by show 0 < dl; omega)
              have e1 := k1 k hlt
              have e2 := k2 k hlt
              simp only [] at e1 e2
              obtain ⟨z, hz⟩ : ∃ z, z = doubts.getD k default := ⟨_, rfl⟩
              rw [← hz] at e1 e2
              clear hz k1 k2
              obtain ⟨⟨q0, q1⟩, q2⟩ := z
              have x0 := e1 0 (by decide)
              have y0 := e2 0 (by decide)
              have x1 := e1 1 (by decide)
              have y1 := e2 1 (by decide)
              have x2 := e1 2 (by decide)
              have y2 := e2 2 (by decide)
              simp only [DbV.cells, List.getElem?_cons_zero, List.getElem?_cons_succ, Nat.add_zero] at x0 y0 x1 y1 x2 y2
              clear e1 e2
              go_wp2
              go_quiet (fail)
              go_wp2
              go_roundw
              case rel => exact ⟨k + 1, by omega, by go_num, below_drewN hb nq⟩
              case measure => simp [intOf]; omega
            · go_wp2
              go_ret
              exact ⟨rfl, hB.trans (hb.mono hB.size)⟩
end Go.Proofs.Ytifdjlhgcbkamaa.St
