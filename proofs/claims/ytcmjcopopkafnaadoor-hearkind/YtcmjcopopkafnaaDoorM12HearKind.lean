/- Texts of this claim, one behind the other. -/
import Derived.Test.YtcmjcopopkafnaaDoorM6HearKind
import Derived.Test.YtcmjcopopkafnaaDoorM8HearKind
import Derived.Test.YtcmjcopopkafnaaDoorM10HearKind
import Derived.Test.YtcmjcopopkafnaaDoorM11HearKind
import Derived.Deep.Cut
/- What part asks of a config and of stores: contracts of bounds.Site, bounds.Label and labelMay, of part.refuse and of the document's siteFault. -/
namespace Go.Proofs.YtcmjcopopkafnaaDoor.Pt
open Go.ChangeShapes Go.WideShapes Go.ChangeAt Go.RowKit
open Go.Proofs.YtcmjcopopkafnaaDoor.St (SV IsStore IsRow storeOK TxWf)
set_option linter.unusedVariables false

def plc (l : Int) (n : Nat) : Bool := decide (0 ≤ l ∧ l < (n : Int))
theorem plc_true {l : Int} {n : Nat} (h : plc l n = true) : 0 ≤ l ∧ l < (n : Int) := by simpa [plc] using h
theorem site_any (s p : Int) (a : Option Addr) (len cap : Nat) (n : Int) (w : World) (hs : 1 ≤ s ∧ s ≤ 4) :
    Calls Tryd.prog 38 #[.agg #[.int .i64 s, .slice a len cap, .int .i64 p], .int .i64 n] w fun e w' => e = .returned (.bool (inR n 0 (s - 1))) ∧ Below w.heap.size w w' := by
  have hA : Below w.heap.size w (w.alloc (.cells #[.int .i64 s, .slice a len cap, .int .i64 p] 27)) := (Below.refl _ _).alloc (Nat.le_refl _) _
  obtain ⟨h1, h2⟩ := hs
  go_enter Tryd.func38, Tryd.ntmps38
  go_wp2_with (go_at_call 36; refine (within_any _ _ _ _).mono ?_; rintro e w1 ⟨rfl, hu1⟩; rw [hu1]; clear hu1)
  go_ret
  exact ⟨rfl, hA⟩
theorem plc_in (l : Int) (len : Nat) : plc l len = inR l 0 ((len : Int) - 1) := by unfold plc inR; rw [Bool.eq_iff_iff]; simp; omega
theorem place_any (s p : Int) (a : Option Addr) (len cap : Nat) (l : Int) (w : World) (hl : len ≤ 6) :
    Calls Tryd.prog 76 #[.agg #[.int .i64 s, .slice a len cap, .int .i64 p], .int .i64 l] w fun e w' => e = .returned (.bool (plc l len)) ∧ Below w.heap.size w w' := by
  have hA : Below w.heap.size w (w.alloc (.cells #[.int .i64 s, .slice a len cap, .int .i64 p] 27)) := (Below.refl _ _).alloc (Nat.le_refl _) _
  have h2 : (len : Int) ≤ 6 := by omega
  rw [plc_in]
  go_enter Tryd.func76, Tryd.ntmps76
  go_wp2_with (go_at_call 36; refine (within_any _ _ _ _).mono ?_; rintro e w1 ⟨rfl, hu1⟩; rw [hu1]; clear hu1)
  go_ret
  exact ⟨rfl, hA⟩
instance : Inhabited SV := ⟨SV.nil⟩
/-- Stores, one behind the other, each four slices. -/
structure IsStores (w : World) (a : Option Addr) (n cap : Nat) (ss : List SV) : Prop where
  row : IsRow 4 SV.box w a n cap ss
  each : ∀ i, i < n → IsStore w (ss.getD i default) ∧ ∀ t ∈ (ss.getD i default).over, TxWf t
theorem IsStores.below {w w' : World} {a : Option Addr} {n cap : Nat} {ss : List SV} (h : IsStores w a n cap ss) (hb : Below w.heap.size w w') : IsStores w' a n cap ss :=
  ⟨h.row.below hb, fun i hi => ⟨(h.each i hi).1.below hb, (h.each i hi).2⟩⟩
theorem IsStores.at {w : World} {a : Option Addr} {n cap : Nat} {ss : List SV} (h : IsStores w a n cap ss) {k : Nat} (hk : k < n) : ∃ b off, a = some ⟨b, off, none⟩ ∧ b < w.heap.size ∧ w.cell? ⟨b, off + k * 4, none⟩ = some (.slice (ss.getD k default).ia (ss.getD k default).il (ss.getD k default).ic) ∧ w.cell? ⟨b, off + k * 4 + 1, none⟩ = some (.slice (ss.getD k default).la (ss.getD k default).ll (ss.getD k default).lc) ∧ w.cell? ⟨b, off + k * 4 + 2, none⟩ = some (.slice (ss.getD k default).da (ss.getD k default).dl (ss.getD k default).dc) ∧ w.cell? ⟨b, off + k * 4 + 3, none⟩ = some (.slice (ss.getD k default).oa (ss.getD k default).ol (ss.getD k default).oc) := by
  obtain ⟨b, off, e, hl, hc⟩ := h.row.2.2.2.2 (by omega)
  exact ⟨b, off, e, hl, hc k hk 0 (by decide), hc k hk 1 (by decide), hc k hk 2 (by decide), hc k hk 3 (by decide)⟩

def siteErr (s : Int) (ls : List (Int × Int)) (p l me : Int) (n : Nat) (ss : List SV) : Int :=
  if cfgFault s ls p = 0 then (if plc l ls.length then (if inR me 0 (s - 1) then (if n = ls.length then (if ss.all storeOK then 0 else 9) else 9) else 2) else 6) else cfgFault s ls p
theorem all_at {ss : List SV} {k : Nat} (hk : k < ss.length) : (ss.take (k + 1)).all storeOK = ((ss.take k).all storeOK && storeOK (ss.getD k default)) := by
  rw [St.take_at hk, List.all_append]
  simp
theorem all_not {ss : List SV} {k : Nat} (hk : k < ss.length) (h : storeOK (ss.getD k default) = false) : ss.all storeOK = false := by
  rw [List.all_eq_false]
  exact ⟨ss.getD k default, by simp [List.getD, hk], fun e => by rw [h] at e; cases e⟩

set_option maxRecDepth 100000 in
set_option maxHeartbeats 4000000 in
theorem refuse_any (s p : Int) (a : Option Addr) (len cap : Nat) (ls : List (Int × Int)) (l me : Int) (sa : Option Addr) (n sc : Nat) (ss : List SV) (w : World) (hl : IsLabs w a len cap ls) (hS : IsStores w sa n sc ss) :
    Calls Tryd.prog 63 #[.agg #[.int .i64 s, .slice a len cap, .int .i64 p], .int .i64 l, .int .i64 me, .slice sa n sc] w fun e w' => e = .returned (.int .i64 (siteErr s ls p l me n ss)) ∧ Below w.heap.size w w' := by
  have hCk := fun w' h1 => check_any s p a len cap ls w' h1
  obtain ⟨E, eE0⟩ : ∃ R : Int, R = siteErr s ls p l me n ss := ⟨_, rfl⟩
  have hz := fun (e : cfgFault s ls p = 0) => cfg_zero e
  obtain ⟨F, eF⟩ : ∃ R : Int, R = cfgFault s ls p := ⟨_, rfl⟩
  have hll : ls.length = len := hl.1
  have eE : Hid (E = if F = 0 then (if plc l len then (if inR me 0 (s - 1) then (if n = len then (if ss.all storeOK then 0 else 9) else 9) else 2) else 6) else F) := by rw [eF, ← hll]; exact eE0
  rw [← eE0]
  rw [← eF] at hCk hz
  clear eF eE0
  have HN : Hid (ss.length = n) := hS.row.1
  have hnm : n ≤ maxLen := Nat.le_trans hS.row.2.1 hS.row.2.2.1
  have hlm : len ≤ maxLen := Nat.le_trans hl.2.1 hl.2.2.1
  unfold maxLen at hnm hlm
  obtain ⟨W, hW⟩ : ∃ W : World, W = w.alloc (.cells #[.int .i64 s, .slice a len cap, .int .i64 p] 27) := ⟨_, rfl⟩
  have hB : Below w.heap.size w W := by rw [hW]; exact (Below.refl _ _).alloc (Nat.le_refl _) _
  have bx := St.boxn_new w #[.int .i64 s, .slice a len cap, .int .i64 p] 27 3 rfl
  rw [← hW] at bx
  have KA : Hid (∀ U, Below W.heap.size W U → U.cell? ⟨w.heap.size, 0, none⟩ = some (.int .i64 s) ∧ U.cell? ⟨w.heap.size, 1, none⟩ = some (.slice a len cap) ∧ U.cell? ⟨w.heap.size, 2, none⟩ = some (.int .i64 p)) := fun U hU => by
    have hp := bx.below hU bx.lt
    exact ⟨(hp.c 0 (by decide)).1, (hp.c 1 (by decide)).1, (hp.c 2 (by decide)).1⟩
  obtain ⟨d0, d1, d2⟩ := KA.out _ (Below.refl _ _)
  have hlW := hl.below hB
  have HS : Hid (∀ U, Below W.heap.size W U → IsStores U sa n sc ss) := fun U hU => (hS.below hB).below hU
  clear bx hl hS
  go_enter Tryd.func63, Tryd.ntmps63
  go_upto_region 1 with (fail)
  rw [← hW]
  clear hW
  by_cases hF : F = 0
  · obtain ⟨s1, s2, l1, l2, _, p1, p2⟩ := hz hF
    rw [hll] at l1 l2
    clear hz
    subst hF
    have hPl := fun w' => place_any s p a len cap l w' l2
    have hSi := fun w' => site_any s p a len cap me w' ⟨s1, s2⟩
    obtain ⟨P, eP⟩ : ∃ R, R = plc l len := ⟨_, rfl⟩
    obtain ⟨I, eI⟩ : ∃ R, R = inR me 0 (s - 1) := ⟨_, rfl⟩
    rw [← eP] at hPl eE
    rw [← eI] at hSi eE
    clear eP
    replace eI := eI.symm
    have hws : IntKind.i64.wrap (s - 1) = s - 1 := by rw [IntKind.wrap_i64]; omega
    cases P with
    | false =>
      go_wp2_with (first | (go_at_call 35; refine (hCk _ hlW).mono ?_; rintro e w1 ⟨rfl, hb1⟩; have hW1 := hb1; clear d0 d1 d2; obtain ⟨d0, d1, d2⟩ := KA.out _ hW1) | (go_at_call 76; refine (hPl _).mono ?_; rintro e w2 ⟨rfl, hb2⟩; have hW2 := hW1.trans (hb2.mono hW1.size); clear d0 d1 d2; obtain ⟨d0, d1, d2⟩ := KA.out _ hW2))
      go_ret
      exact ⟨by rw [eE.out]; rfl, hB.trans (hW2.mono hB.size)⟩
    | true =>
      cases I with
      | false =>
        go_wp2_with (first | (go_at_call 35; refine (hCk _ hlW).mono ?_; rintro e w1 ⟨rfl, hb1⟩; have hW1 := hb1; clear d0 d1 d2; obtain ⟨d0, d1, d2⟩ := KA.out _ hW1) | (go_at_call 76; refine (hPl _).mono ?_; rintro e w2 ⟨rfl, hb2⟩; have hW2 := hW1.trans (hb2.mono hW1.size); clear d0 d1 d2; obtain ⟨d0, d1, d2⟩ := KA.out _ hW2) | (go_at_call 38; refine (hSi _).mono ?_; rintro e w3 ⟨rfl, hb3⟩; have hW3 := hW2.trans (hb3.mono hW2.size); clear d0 d1 d2; obtain ⟨d0, d1, d2⟩ := KA.out _ hW3))
        skip
        go_ret
        exact ⟨by rw [eE.out]; rfl, hB.trans (hW3.mono hB.size)⟩
      | true =>
        by_cases hnl : n = len
        · subst hnl
          go_upto_region 10 with (first | (go_at_call 35; refine (hCk _ hlW).mono ?_; rintro e w1 ⟨rfl, hb1⟩; have hW1 := hb1; clear d0 d1 d2; obtain ⟨d0, d1, d2⟩ := KA.out _ hW1) | (go_at_call 76; refine (hPl _).mono ?_; rintro e w2 ⟨rfl, hb2⟩; have hW2 := hW1.trans (hb2.mono hW1.size); clear d0 d1 d2; obtain ⟨d0, d1, d2⟩ := KA.out _ hW2) | (go_at_call 38; refine (hSi _).mono ?_; rintro e w3 ⟨rfl, hb3⟩; have hW3 := hW2.trans (hb3.mono hW2.size); clear d0 d1 d2; obtain ⟨d0, d1, d2⟩ := KA.out _ hW3))
          go_wp2
          go_loopw [34, 11, 12] (fun i _ _ wr => ∃ k : Nat, i = .int .i64 (k : Int) ∧ k ≤ n ∧ Hid ((ss.take k).all storeOK = true) ∧ Below W.heap.size W wr) (fun i _ _ _ => n - (intOf i).toNat)
          case atStart => exact ⟨0, rfl, Nat.zero_le _, rfl, hW3⟩
          case round =>
            obtain ⟨k, rfl, hk, hal, hb⟩ := hrel
            by_cases hlt : k < n
            · have hlt' : (k : Int) < (n : Int) := by omega
              have hSw := HS.out _ hb
              obtain ⟨b, off, rfl, zb, e0, e1, e2, e3⟩ := hSw.at hlt
              have hEk := hSw.each k hlt
              have HAT : Hid ((ss.take (k + 1)).all storeOK = ((ss.take k).all storeOK && storeOK (ss.getD k default))) := all_at (by rw [HN.out]; exact hlt)
              have HNO : Hid (storeOK (ss.getD k default) = false → ss.all storeOK = false) := all_not (by rw [HN.out]; exact hlt)
              obtain ⟨x, ex⟩ : ∃ x, x = ss.getD k default := ⟨_, rfl⟩
              rw [← ex] at e0 e1 e2 e3 hEk HAT HNO
              clear ex
              have hSC : ∀ w', Below wr.heap.size wr w' → Calls Tryd.prog 13 #[x.val] w' fun e w'' => e = .returned (.int .i64 (if storeOK x then 0 else 9)) ∧ Below w'.heap.size w' w'' := fun w' hw => St.check_any x w' (hEk.1.below hw) hEk.2
              obtain ⟨O, eO⟩ : ∃ O, O = storeOK x := ⟨_, rfl⟩
              rw [← eO] at hSC HAT HNO
              clear eO hEk
              obtain ⟨ia, il, ic, la, ll, lc, da, dl, dc, oa, ol, oc, items, locks, doubts, over⟩ := x
              simp only [SV.val] at hSC
              simp only [] at e0 e1 e2 e3
              have bW := hb.size
              cases O with
              | false =>
                have hbad := HNO.out rfl
                simp only [Bool.false_eq_true, ↓reduceIte] at hSC
                go_wp2_with (go_at_call 13; refine (hSC _ ((Below.refl _ _).alloc (Nat.le_refl _) _)).mono ?_; rintro e w5 ⟨rfl, hb5⟩)
                go_ret
                exact ⟨by rw [eE.out, hbad]; simp, hB.trans (((hb.alloc hb.size _).trans (hb5.mono (by simp; omega))).mono hB.size)⟩
              | true =>
                simp only [↓reduceIte] at hSC
                go_wp2_with (go_at_call 13; refine (hSC _ ((Below.refl _ _).alloc (Nat.le_refl _) _)).mono ?_; rintro e w5 ⟨rfl, hb5⟩)
                go_roundw
                case rel => exact ⟨k + 1, by go_num, by omega, by show _ = _; rw [HAT.out, hal.out]; rfl, (hb.alloc hb.size _).trans (hb5.mono (by simp; omega))⟩
                case measure => simp [intOf]; omega
            · have hall : ss.all storeOK = true := by
                have := hal.out
                rw [List.take_of_length_le (by rw [HN.out]; omega)] at this
                exact this
              go_wp2
              go_ret
              exact ⟨by rw [eE.out, hall]; simp, hB.trans (hb.mono hB.size)⟩
        · have hnl' : ¬ ((n : Int) = (len : Int)) := by omega
          go_wp2_with (first | (go_at_call 35; refine (hCk _ hlW).mono ?_; rintro e w1 ⟨rfl, hb1⟩; have hW1 := hb1; clear d0 d1 d2; obtain ⟨d0, d1, d2⟩ := KA.out _ hW1) | (go_at_call 76; refine (hPl _).mono ?_; rintro e w2 ⟨rfl, hb2⟩; have hW2 := hW1.trans (hb2.mono hW1.size); clear d0 d1 d2; obtain ⟨d0, d1, d2⟩ := KA.out _ hW2) | (go_at_call 38; refine (hSi _).mono ?_; rintro e w3 ⟨rfl, hb3⟩; have hW3 := hW2.trans (hb3.mono hW2.size); clear d0 d1 d2; obtain ⟨d0, d1, d2⟩ := KA.out _ hW3))
          go_ret
          exact ⟨by rw [eE.out]; simp [hnl], hB.trans (hW3.mono hB.size)⟩
  · go_wp2_with (go_at_call 35; refine (hCk _ hlW).mono ?_; rintro e w1 ⟨rfl, hb1⟩; have hW1 := hb1; clear d0 d1 d2; obtain ⟨d0, d1, d2⟩ := KA.out _ hW1)
    go_ret
    exact ⟨by rw [eE.out, if_neg hF]; rfl, hB.trans (hW1.mono hB.size)⟩

end Go.Proofs.YtcmjcopopkafnaaDoor.Pt
/- How a call that is handed a store and answers one begins: a box for the store, a box for the answer. -/
namespace Go.Proofs.YtcmjcopopkafnaaDoor.St
open Go.ChangeShapes Go.WideShapes Go.ChangeAt Go.RowKit
set_option linter.unusedVariables false

structure Pre (w W : World) (s : SV) : Prop where
  bel : Below w.heap.size w W
  sz : W.heap.size = w.heap.size + 2
  st : IsStore W s
  par : BoxN W w.heap.size 4 s.box
  res : BoxN W (w.heap.size + 1) 4 SV.nil.box
theorem pre_of (w : World) (s : SV) (h : IsStore w s) : Pre w ((w.alloc (.cells #[.slice s.ia s.il s.ic, .slice s.la s.ll s.lc, .slice s.da s.dl s.dc, .slice s.oa s.ol s.oc] 41)).alloc (.cells #[.slice none 0 0, .slice none 0 0, .slice none 0 0, .slice none 0 0] 41)) s := by
  have h1 : Below w.heap.size w (w.alloc (.cells #[.slice s.ia s.il s.ic, .slice s.la s.ll s.lc, .slice s.da s.dl s.dc, .slice s.oa s.ol s.oc] 41)) := (Below.refl _ _).alloc (Nat.le_refl _) _
  have h2 : Below w.heap.size w ((w.alloc (.cells #[.slice s.ia s.il s.ic, .slice s.la s.ll s.lc, .slice s.da s.dl s.dc, .slice s.oa s.ol s.oc] 41)).alloc (.cells #[.slice none 0 0, .slice none 0 0, .slice none 0 0, .slice none 0 0] 41)) := h1.alloc (by simp) _
  have b1 := boxn_new w #[.slice s.ia s.il s.ic, .slice s.la s.ll s.lc, .slice s.da s.dl s.dc, .slice s.oa s.ol s.oc] 41 4 rfl
  have b2 := boxn_new (w.alloc (.cells #[.slice s.ia s.il s.ic, .slice s.la s.ll s.lc, .slice s.da s.dl s.dc, .slice s.oa s.ol s.oc] 41)) #[.slice none 0 0, .slice none 0 0, .slice none 0 0, .slice none 0 0] 41 4 rfl
  refine ⟨h2, by simp, h.below h2, ?_, by simpa [SV.nil, SV.box] using b2⟩
  refine b1.below (B := (w.alloc (.cells #[.slice s.ia s.il s.ic, .slice s.la s.ll s.lc, .slice s.da s.dl s.dc, .slice s.oa s.ol s.oc] 41)).heap.size) ((Below.refl _ _).alloc (Nat.le_refl _) _) (by simp)
theorem Pre.z0 {w W : World} {s : SV} (h : Pre w W s) : w.heap.size < W.heap.size := by have := h.sz; omega
theorem Pre.z1 {w W : World} {s : SV} (h : Pre w W s) : w.heap.size + 1 < W.heap.size := by have := h.sz; omega
theorem Pre.cells {w W : World} {s : SV} (h : Pre w W s) (U : World) (hU : Below W.heap.size W U) : U.cell? ⟨w.heap.size, 0, none⟩ = some (.slice s.ia s.il s.ic) ∧ U.cell? ⟨w.heap.size, 1, none⟩ = some (.slice s.la s.ll s.lc) ∧ U.cell? ⟨w.heap.size, 2, none⟩ = some (.slice s.da s.dl s.dc) ∧ U.cell? ⟨w.heap.size, 3, none⟩ = some (.slice s.oa s.ol s.oc) := by
  have hp := h.par.below hU h.z0
  exact ⟨(hp.c 0 (by decide)).1, (hp.c 1 (by decide)).1, (hp.c 2 (by decide)).1, (hp.c 3 (by decide)).1⟩
theorem Pre.out {w W : World} {s : SV} (h : Pre w W s) (U : World) (hU : Below W.heap.size W U) : (w.heap.size + 1 < U.heap.size ∧ U.cell? ⟨w.heap.size + 1, 0, none⟩ = some (.slice none 0 0) ∧ U.cell? ⟨w.heap.size + 1, 1, none⟩ = some (.slice none 0 0) ∧ U.cell? ⟨w.heap.size + 1, 2, none⟩ = some (.slice none 0 0) ∧ U.cell? ⟨w.heap.size + 1, 3, none⟩ = some (.slice none 0 0)) ∧ U.frozen? ⟨w.heap.size + 1, 0, none⟩ = false ∧ U.frozen? ⟨w.heap.size + 1, 1, none⟩ = false ∧ U.frozen? ⟨w.heap.size + 1, 2, none⟩ = false ∧ U.frozen? ⟨w.heap.size + 1, 3, none⟩ = false := by
  have hp := h.res.below hU h.z1
  exact ⟨⟨hp.lt, (hp.c 0 (by decide)).1, (hp.c 1 (by decide)).1, (hp.c 2 (by decide)).1, (hp.c 3 (by decide)).1⟩, (hp.c 0 (by decide)).2, (hp.c 1 (by decide)).2, (hp.c 2 (by decide)).2, (hp.c 3 (by decide)).2⟩
theorem Pre.below {w W U : World} {s : SV} (h : Pre w W s) (hU : Below W.heap.size W U) : Below w.heap.size w U := h.bel.trans (hU.mono h.bel.size)
/-- What is told to the answer's box. -/
theorem Pre.done {w W U : World} {s r : SV} (h : Pre w W s) (hU : Below W.heap.size W U) (hr : IsStore U r) (hn : ∀ b off, (r.ia = some ⟨b, off, none⟩ ∧ 0 < r.il) ∨ (r.la = some ⟨b, off, none⟩ ∧ 0 < r.ll) ∨ (r.da = some ⟨b, off, none⟩ ∧ 0 < r.dl) ∨ (r.oa = some ⟨b, off, none⟩ ∧ 0 < r.ol) → b ≠ w.heap.size + 1) (p0 p1 p2 p3 : Value) :
    IsStore ((((U.setCell ⟨w.heap.size + 1, 0, none⟩ p0).setCell ⟨w.heap.size + 1, 1, none⟩ p1).setCell ⟨w.heap.size + 1, 2, none⟩ p2).setCell ⟨w.heap.size + 1, 3, none⟩ p3) r ∧ Below w.heap.size w ((((U.setCell ⟨w.heap.size + 1, 0, none⟩ p0).setCell ⟨w.heap.size + 1, 1, none⟩ p1).setCell ⟨w.heap.size + 1, 2, none⟩ p2).setCell ⟨w.heap.size + 1, 3, none⟩ p3) := by
  have far : ∀ {α : Type} [Inhabited α] {k : Nat} {cells : α → List Value} {U : World} {a : Option Addr} {n c : Nat} {xs : List α} (j : Nat) (v : Value), (∀ b off, a = some ⟨b, off, none⟩ ∧ 0 < n → b ≠ w.heap.size + 1) → IsRow k cells U a n c xs → IsRow k cells (U.setCell ⟨w.heap.size + 1, j, none⟩ v) a n c xs := by
    intro α _ k cells U a n c xs j v hne hR
    obtain ⟨r1, r2, r3, r4, r5⟩ := hR
    refine ⟨r1, r2, r3, r4, fun hp => ?_⟩
    obtain ⟨b, off, e, hl, hc⟩ := r5 hp
    refine ⟨b, off, e, by simpa using hl, fun i hi q hq => ?_⟩
    rw [World.cell?_of_block (a := ⟨b, off + i * k + q, none⟩) (Below.heap_setCell U ⟨w.heap.size + 1, j, none⟩ v b (hne b off ⟨e, hp⟩))]
    exact hc i hi q hq
  have n1 := fun b off (q : r.ia = some ⟨b, off, none⟩ ∧ 0 < r.il) => hn b off (.inl q)
  have n2 := fun b off (q : r.la = some ⟨b, off, none⟩ ∧ 0 < r.ll) => hn b off (.inr (.inl q))
  have n3 := fun b off (q : r.da = some ⟨b, off, none⟩ ∧ 0 < r.dl) => hn b off (.inr (.inr (.inl q)))
  have n4 := fun b off (q : r.oa = some ⟨b, off, none⟩ ∧ 0 < r.ol) => hn b off (.inr (.inr (.inr q)))
  refine ⟨⟨far 3 _ n1 (far 2 _ n1 (far 1 _ n1 (far 0 _ n1 hr.items))), far 3 _ n2 (far 2 _ n2 (far 1 _ n2 (far 0 _ n2 hr.locks))), far 3 _ n3 (far 2 _ n3 (far 1 _ n3 (far 0 _ n3 hr.doubts))), far 3 _ n4 (far 2 _ n4 (far 1 _ n4 (far 0 _ n4 hr.over)))⟩, ?_⟩
  refine Below.setCell (Below.setCell (Below.setCell (Below.setCell (h.below hU) ?_ _) ?_ _) ?_ _) ?_ _
  all_goals exact Nat.le_succ _
/-- The same of a store that was made behind the two boxes. -/
theorem Pre.made {w W U : World} {s r : SV} {m : Nat} (h : Pre w W s) (hM : Made W U W.heap.size m r) (p0 p1 p2 p3 : Value) :
    IsStore ((((U.setCell ⟨w.heap.size + 1, 0, none⟩ p0).setCell ⟨w.heap.size + 1, 1, none⟩ p1).setCell ⟨w.heap.size + 1, 2, none⟩ p2).setCell ⟨w.heap.size + 1, 3, none⟩ p3) r ∧ OwnStore ((((U.setCell ⟨w.heap.size + 1, 0, none⟩ p0).setCell ⟨w.heap.size + 1, 1, none⟩ p1).setCell ⟨w.heap.size + 1, 2, none⟩ p2).setCell ⟨w.heap.size + 1, 3, none⟩ p3) w.heap.size r ∧ Below w.heap.size w ((((U.setCell ⟨w.heap.size + 1, 0, none⟩ p0).setCell ⟨w.heap.size + 1, 1, none⟩ p1).setCell ⟨w.heap.size + 1, 2, none⟩ p2).setCell ⟨w.heap.size + 1, 3, none⟩ p3) := by
  have z1 := h.z1
  have ho : OwnStore ((((U.setCell ⟨w.heap.size + 1, 0, none⟩ p0).setCell ⟨w.heap.size + 1, 1, none⟩ p1).setCell ⟨w.heap.size + 1, 2, none⟩ p2).setCell ⟨w.heap.size + 1, 3, none⟩ p3) W.heap.size r :=
    (((hM.own.box (p := ⟨w.heap.size + 1, 0, none⟩) z1 p0).box (p := ⟨w.heap.size + 1, 1, none⟩) z1 p1).box (p := ⟨w.heap.size + 1, 2, none⟩) z1 p2).box (p := ⟨w.heap.size + 1, 3, none⟩) z1 p3
  refine ⟨ho.isStore, ho.base h.bel.size, ?_⟩
  refine Below.setCell (Below.setCell (Below.setCell (Below.setCell (h.below hM.bel) ?_ _) ?_ _) ?_ _) ?_ _
  all_goals exact Nat.le_succ _
end Go.Proofs.YtcmjcopopkafnaaDoor.St
/- Contracts of sameTxns and sameStore: at the same data they return true, and leave what was in memory. -/
namespace Go.Proofs.YtcmjcopopkafnaaDoor.St
open Go.ChangeShapes Go.WideShapes Go.ChangeAt Go.RowKit
set_option linter.unusedVariables false

end Go.Proofs.YtcmjcopopkafnaaDoor.St
