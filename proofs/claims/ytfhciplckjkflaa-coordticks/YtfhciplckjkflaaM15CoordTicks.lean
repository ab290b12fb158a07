/- Texts of this claim, one behind the other. -/
import Derived.Test.YtfhciplckjkflaaM8CoordTicks
import Derived.Test.YtfhciplckjkflaaM11CoordTicks
import Derived.Test.YtfhciplckjkflaaM14CoordTicks
import Derived.Deep.DeepCutAuto
import Derived.Test.YtfhciplckjkflaaM10CoordTicks
import Derived.Deep.RegionLaw
import Derived.Deep.RegionHeld3
/- The document's deskFault (P7.2), and the place of a job as an index. -/
namespace Go.Proofs.Ytfhciplckjkflaa.Cd
open Go.ChangeShapes Go.WideShapes Go.ChangeAt Go.RowKit
open Go.Proofs.Ytfhciplckjkflaa.St (BoxN boxn_new own_below IsRow flat idxI)
open Go.Proofs.Ytfhciplckjkflaa.Co
set_option linter.unusedVariables false

theorem jbAt_find {n : Int} : ∀ (js : List JbV) (k : Nat), jbAt n k js = match js.findIdx? (isN n) with | some i => ((k + i : Nat) : Int) | none => -1
  | [], k => rfl
  | j :: r, k => by
    rw [jbAt, List.findIdx?_cons]
    by_cases h : j.n = n
    · rw [if_pos h]
      have e : isN n j = true := by simp [isN, h]
      rw [e]
      simp
    · rw [if_neg h, jbAt_find r (k + 1)]
      have e : isN n j = false := by simp [isN, h]
      rw [e]
      simp only [Bool.false_eq_true, if_false]
      cases r.findIdx? (isN n) with
      | none => rfl
      | some i =>
        show ((k + 1 + i : Nat) : Int) = ((k + (i + 1) : Nat) : Int)
        omega
theorem jbAt_idx (n : Int) (js : List JbV) : jbAt n 0 js = idxI (isN n) js := by
  rw [jbAt_find]
  unfold idxI
  cases js.findIdx? (isN n) with
  | none => rfl
  | some i => simp
set_option maxRecDepth 100000 in
set_option maxHeartbeats 8000000 in
theorem refDesk_any (s p : Int) (a : Option Addr) (len cap : Nat) (ls : List (Int × Int)) (l me nx : Int) (ja : Option Addr) (jl jc : Nat) (js : List JbV) (w : World) (h : IsLabs w a len cap ls) (hj : IsJobs w ja jl jc js) :
    Calls Try.prog 25 #[.agg #[.int .i64 s, .slice a len cap, .int .i64 p], .int .i64 l, .int .i64 me, .agg #[.int .i64 nx, .slice ja jl jc]] w fun e w' => e = .returned (.int .i64 (rfErr s ls p l me nx js)) ∧ Below w.heap.size w w' := by
  obtain ⟨W, hW⟩ : ∃ W : World, W = (w.alloc (.cells #[.int .i64 s, .slice a len cap, .int .i64 p] 24)).alloc (.cells #[.int .i64 nx, .slice ja jl jc] 27) := ⟨_, rfl⟩
  have bW : Below w.heap.size w W := by rw [hW]; exact ((Below.refl _ _).alloc (Nat.le_refl _) _).alloc (by simp) _
  have b0 : BoxN W w.heap.size 3 [.int .i64 s, .slice a len cap, .int .i64 p] := by
    rw [hW]
    have h8 := boxn_new w #[.int .i64 s, .slice a len cap, .int .i64 p] 24 3 rfl
    exact h8.below ((Below.refl _ _).alloc (Nat.le_refl _) _) h8.lt
  have b1 : BoxN W (w.heap.size + 1) 2 [.int .i64 nx, .slice ja jl jc] := by
    rw [hW]
    have h8 := boxn_new (w.alloc (.cells #[.int .i64 s, .slice a len cap, .int .i64 p] 24)) #[.int .i64 nx, .slice ja jl jc] 27 2 rfl
    simpa using h8
  have KB : Hid (∀ U, Below W.heap.size W U → (U.cell? ⟨w.heap.size, 0, none⟩ = some (.int .i64 s) ∧ U.cell? ⟨w.heap.size, 1, none⟩ = some (.slice a len cap) ∧ U.cell? ⟨w.heap.size, 2, none⟩ = some (.int .i64 p) ∧ w.heap.size < U.heap.size) ∧ (U.cell? ⟨w.heap.size + 1, 0, none⟩ = some (.int .i64 nx) ∧ U.cell? ⟨w.heap.size + 1, 1, none⟩ = some (.slice ja jl jc) ∧ w.heap.size + 1 < U.heap.size) ∧ Below w.heap.size w U) := fun U hU => by
    have h1 := b0.below hU b0.lt
    have h2 := b1.below hU b1.lt
    exact ⟨⟨(h1.c 0 (by decide)).1, (h1.c 1 (by decide)).1, (h1.c 2 (by decide)).1, h1.lt⟩, ⟨(h2.c 0 (by decide)).1, (h2.c 1 (by decide)).1, h2.lt⟩, bW.trans (hU.mono bW.size)⟩
  have hD := deskFault_any s p a len cap ls nx ja jl jc js W (h.below bW) (hj.below bW)
  obtain ⟨D, eD⟩ : ∃ D, D = dkErr s ls p nx js := ⟨_, rfl⟩
  have HRf : Hid (rfErr s ls p l me nx js = if D = 0 then (if inR l 0 ((ls.length : Int) - 1) then (if inR me 0 (s - 1) then 0 else 2) else 6) else D) := by show _ = _; rw [eD]; rfl
  have HZ : Hid (D = 0 → len ≤ 6 ∧ 1 ≤ s ∧ s ≤ 4) := fun e => by
    have h1 := (dk_zero (eD.symm.trans e)).1
    have h2 := cfg_zero h1
    have h3 : ls.length = len := h.1
    omega
  have HLn : Hid (ls.length = len) := h.1
  rw [← eD] at hD
  obtain ⟨E, eE⟩ : ∃ E, E = rfErr s ls p l me nx js := ⟨_, rfl⟩
  have HE : Hid (E = rfErr s ls p l me nx js) := eE
  rw [← eE]
  clear eE eD h hj b0 b1 bW
  go_enter Try.func25, Try.ntmps25
  go_upto_region 1 with (fail)
  rw [← hW]
  clear hW
  obtain ⟨⟨c0, c1, c2, cz⟩, ⟨d0, d1, dz⟩, -⟩ := KB.out W (Below.refl _ _)
  by_cases hD0 : D = 0
  · obtain ⟨l6, s1, s4⟩ := HZ.out hD0
    have HE2 : Hid (E = if inR l 0 ((len : Int) - 1) then (if inR me 0 (s - 1) then 0 else 2) else 6) := by show _ = _; rw [HE.out, HRf.out, if_pos hD0, HLn.out]
    subst hD0
    have hPl := fun w' => labelMay_any s p a len cap l w' l6
    have hws : IntKind.i64.wrap (s - 1) = s - 1 := by rw [IntKind.wrap_i64]; omega
    obtain ⟨P, eP⟩ : ∃ P, P = inR l 0 ((len : Int) - 1) := ⟨_, rfl⟩
    obtain ⟨I, eI⟩ : ∃ I, I = inR me 0 (s - 1) := ⟨_, rfl⟩
    have HI : Hid (∀ w', Calls Try.prog 26 #[.int .i64 me, .int .i64 0, .int .i64 (s - 1)] w' fun e w2 => e = .returned (.bool I) ∧ Below w'.heap.size w' w2) := fun w' => in_eq eI.symm w'
    have HP : Hid (∀ w', Calls Try.prog 58 #[.agg #[.int .i64 s, .slice a len cap, .int .i64 p], .int .i64 l] w' fun e w2 => e = .returned (.bool P) ∧ Below w'.heap.size w' w2) := fun w' => by rw [eP]; exact hPl w'
    rw [← eP, ← eI] at HE2
    clear eP eI hPl HRf HE
    cases P with
    | false =>
      have HE3 : Hid (E = 6) := HE2.out
      clear HE2
      go_wp2_with (first | (go_at_call 57; refine hD.mono ?_; rintro e w1 ⟨rfl, hb1⟩; clear c0 c1 c2 cz d0 d1 dz; obtain ⟨⟨c0, c1, c2, cz⟩, ⟨d0, d1, dz⟩, hfin⟩ := KB.out w1 hb1) | (go_at_call 58; refine (HP.out _).mono ?_; rintro e w2 ⟨rfl, hb2⟩; have hb12 := hb1.trans (hb2.mono hb1.size); clear c0 c1 c2 cz d0 d1 dz hfin; obtain ⟨⟨c0, c1, c2, cz⟩, ⟨d0, d1, dz⟩, hfin⟩ := KB.out w2 hb12))
      go_ret
      exact ⟨by rw [HE3.out]; rfl, hfin⟩
    | true =>
      cases I with
      | false =>
        have HE3 : Hid (E = 2) := HE2.out
        clear HE2
        go_wp2_with (first | (go_at_call 57; refine hD.mono ?_; rintro e w1 ⟨rfl, hb1⟩; clear c0 c1 c2 cz d0 d1 dz; obtain ⟨⟨c0, c1, c2, cz⟩, ⟨d0, d1, dz⟩, hfin⟩ := KB.out w1 hb1) | (go_at_call 58; refine (HP.out _).mono ?_; rintro e w2 ⟨rfl, hb2⟩; have hb12 := hb1.trans (hb2.mono hb1.size); clear c0 c1 c2 cz d0 d1 dz hfin; obtain ⟨⟨c0, c1, c2, cz⟩, ⟨d0, d1, dz⟩, hfin⟩ := KB.out w2 hb12) | (go_at_call 26; refine (HI.out _).mono ?_; rintro e w3 ⟨rfl, hb3⟩; have hb13 := hb12.trans (hb3.mono hb12.size); clear c0 c1 c2 cz d0 d1 dz hfin; obtain ⟨-, -, hfin⟩ := KB.out w3 hb13))
        go_ret
        exact ⟨by rw [HE3.out]; rfl, hfin⟩
      | true =>
        have HE3 : Hid (E = 0) := HE2.out
        clear HE2
        go_wp2_with (first | (go_at_call 57; refine hD.mono ?_; rintro e w1 ⟨rfl, hb1⟩; clear c0 c1 c2 cz d0 d1 dz; obtain ⟨⟨c0, c1, c2, cz⟩, ⟨d0, d1, dz⟩, hfin⟩ := KB.out w1 hb1) | (go_at_call 58; refine (HP.out _).mono ?_; rintro e w2 ⟨rfl, hb2⟩; have hb12 := hb1.trans (hb2.mono hb1.size); clear c0 c1 c2 cz d0 d1 dz hfin; obtain ⟨⟨c0, c1, c2, cz⟩, ⟨d0, d1, dz⟩, hfin⟩ := KB.out w2 hb12) | (go_at_call 26; refine (HI.out _).mono ?_; rintro e w3 ⟨rfl, hb3⟩; have hb13 := hb12.trans (hb3.mono hb12.size); clear c0 c1 c2 cz d0 d1 dz hfin; obtain ⟨-, -, hfin⟩ := KB.out w3 hb13))
        go_ret
        exact ⟨by rw [HE3.out]; rfl, hfin⟩
  · have HE3 : Hid (E = D) := by show _ = _; rw [HE.out, HRf.out, if_neg hD0]
    have hD1 : (D == 0) = false := beq_eq_false_iff_ne.2 hD0
    clear HE HRf
    go_wp2_with (go_at_call 57; refine hD.mono ?_; rintro e w1 ⟨rfl, hb1⟩; clear c0 c1 c2 cz d0 d1 dz; obtain ⟨⟨c0, c1, c2, cz⟩, ⟨d0, d1, dz⟩, hfin⟩ := KB.out w1 hb1)
    go_ret
    exact ⟨by rw [HE3.out]; rfl, hfin⟩
end Go.Proofs.Ytfhciplckjkflaa.Cd
/- The document's DeskCopy: a desk in memory of the call's own. -/
namespace Go.Proofs.Ytfhciplckjkflaa.Cd
open Go.ChangeShapes Go.WideShapes Go.ChangeAt Go.RowKit
open Go.Proofs.Ytfhciplckjkflaa.St (BoxN boxn_new own_below grown_setCell IsRow Elem flat flat_append own_isRow)
open Go.Proofs.Ytfhciplckjkflaa.Co
set_option linter.unusedVariables false

/-- A cell of another box is told. -/
theorem heldAside {w X : World} {B q n : Nat} {vs : List Value} {rows : List Rw} (h : Held w X B q n vs rows) {r : Nat} (hr : ∀ (i : Nat) (s : Rw), rows[i]? = some s → s.v.ownBlock ≠ some r) (hq : r ≠ q) (hB : B ≤ r) (j : Nat) (u : Value) : Held w (X.setCell ⟨r, j, none⟩ u) B q n vs rows :=
  ⟨h.box.far hq.symm, h.own.aside hr j u, h.apart, h.le, h.bel.setCell (p := ⟨r, j, none⟩) hB u⟩
set_option maxRecDepth 100000 in
set_option maxHeartbeats 8000000 in
theorem deskCopy_any (next : Int) (ja : Option Addr) (jl jc : Nat) (js : List JbV) (w : World) (h : IsJobs w ja jl jc js) (h6 : jl * 80 ≤ 140737488351232) (h10 : ∀ j ∈ js, j.tl * 56 ≤ 140737488351232 ∧ j.al * 8 ≤ 140737488351232) :
    Calls Try.prog 5 #[.agg #[.int .i64 next, .slice ja jl jc]] w fun e w' => DeskNew w w' e next jl js := by
  obtain ⟨iJ, EJ⟩ := jbElem
  have HL : Hid (js.length = jl) := h.row.1
  obtain ⟨W, hW⟩ : ∃ W : World, W = ((w.alloc (.cells #[.int .i64 next, .slice ja jl jc] 27)).alloc (.cells #[.int .i64 0, .slice none 0 0] 27)).alloc (.cells #[.int .i64 next, .slice none 0 0] 27) := ⟨_, rfl⟩
  have hB : Below w.heap.size w W := by rw [hW]; exact (((Below.refl _ _).alloc (Nat.le_refl _) _).alloc (by simp) _).alloc (by simp; omega) _
  have zW : W.heap.size = w.heap.size + 3 := by rw [hW]; simp
  have b0 : BoxN W w.heap.size 2 [.int .i64 next, .slice ja jl jc] := by
    rw [hW]
    have h8 := boxn_new w #[.int .i64 next, .slice ja jl jc] 27 2 rfl
    exact (h8.below ((Below.refl _ _).alloc (Nat.le_refl _) _) h8.lt).below ((Below.refl _ _).alloc (Nat.le_refl _) _) (Nat.lt_of_lt_of_le h8.lt (by simp))
  have b1 : BoxN W (w.heap.size + 1) 2 [.int .i64 0, .slice none 0 0] := by
    rw [hW]
    have h8 := boxn_new (w.alloc (.cells #[.int .i64 next, .slice ja jl jc] 27)) #[.int .i64 0, .slice none 0 0] 27 2 rfl
    have h9 := h8.below ((Below.refl _ _).alloc (Nat.le_refl _) (.cells #[.int .i64 next, .slice none 0 0] 27)) h8.lt
    simpa using h9
  have b2 : BoxN W (w.heap.size + 2) 2 [.int .i64 next, .slice none 0 0] := by
    rw [hW]
    have h8 := boxn_new ((w.alloc (.cells #[.int .i64 next, .slice ja jl jc] 27)).alloc (.cells #[.int .i64 0, .slice none 0 0] 27)) #[.int .i64 next, .slice none 0 0] 27 2 rfl
    simpa using h8
  have d0 : W.cell? ⟨w.heap.size, 0, none⟩ = some (.int .i64 next) := (b0.c 0 (by decide)).1
  have d1 : W.cell? ⟨w.heap.size, 1, none⟩ = some (.slice ja jl jc) := (b0.c 1 (by decide)).1
  have HJ : Hid (∀ U, Below w.heap.size w U → IsJobs U ja jl jc js) := fun U hU => h.below hU
  have KA : Hid (∀ U, Below (w.heap.size + 2) W U → BoxN U w.heap.size 2 [.int .i64 next, .slice ja jl jc] ∧ BoxN U (w.heap.size + 1) 2 [.int .i64 0, .slice none 0 0] ∧ Below w.heap.size w U) := fun U hU => ⟨b0.below hU (by omega), b1.below hU (by omega), hB.trans (hU.mono (by omega))⟩
  have hH0 : Held W W (w.heap.size + 2) (w.heap.size + 2) 2 [.int .i64 next, .slice none 0 0] [jobRow none 0 0 []] := ⟨b2, (deskAt_nil W (w.heap.size + 2)).own, fun i r e => by
    cases i with
    | zero => simp at e; subst e; simp [jobRow, Value.ownBlock]
    | succ i => simp at e, Nat.le_refl _, Below.refl _ _⟩
  clear h
  go_enter Try.func5, Try.ntmps5
  have e0 : w.cell? ⟨w.heap.size, 0, none⟩ = none ∨ True := Or.inr trivial
  clear e0
  go_upto_region 3 with (fail)
  rw [← hW]
  clear hW b0 b1 b2
  go_loopw [4] (fun s4 wr => ∃ (k : Nat) (a' : Option Addr) (c' : Nat) (js' : List JbV) (ix : List (Nat × Nat)) (more : List Rw), k ≤ jl ∧ s4 = .int .i64 (k : Int) ∧ Hid (Held W wr (w.heap.size + 2) (w.heap.size + 2) 2 [.int .i64 next, .slice a' k c'] (jobRow a' k c' js' :: more)) ∧ Hid (DeskAt wr (w.heap.size + 2) a' k c' js' ix more) ∧ Hid (js'.map JbV.bare = (js.take k).map JbV.bare)) (fun s4 _ => jl - (intOf s4).toNat)
  case atStart => exact ⟨0, none, 0, [], [], [], Nat.zero_le _, rfl, hH0, deskAt_nil _ _, by show _ = _; simp⟩
  case round =>
    clear d0 d1 hH0
    obtain ⟨k, a', c', js', ix, more, hk, rfl, hH, hD, hbare⟩ := hrel
    obtain ⟨c0, c1, hbw⟩ := KA.out wr hH.out.bel
    have d0 : wr.cell? ⟨w.heap.size, 0, none⟩ = some (.int .i64 next) := (c0.c 0 (by decide)).1
    have d1 : wr.cell? ⟨w.heap.size, 1, none⟩ = some (.slice ja jl jc) := (c0.c 1 (by decide)).1
    have dz := c0.lt
    by_cases hlt : k < jl
    · have hlt' : (k : Int) < (jl : Int) := by omega
      have hJr := HJ.out wr hbw
      obtain ⟨b, off, rfl, zb, hc⟩ := hJr.row.2.2.2.2 (by omega)
      have hjc : k < jc := Nat.lt_of_lt_of_le hlt hJr.row.2.1
      have hcells := hc k hlt
      have hkl : k < js.length := by rw [HL.out]; exact hlt
      have hin := mem_at hkl
      have hJk := hJr.each _ hin
      have h10k := h10 _ hin
      have hpush := fun {js2 : List JbV} {j : JbV} => bare_at hkl (js2 := js2) (j := j)
      obtain ⟨x, ex⟩ : ∃ x, x = js.getD k default := ⟨_, rfl⟩
      rw [← ex] at hcells hJk h10k hpush
      clear ex hin hc hJr
      obtain ⟨jn, st, ta, tl, tc, aa, al, ac, asks, age, tasks, asked⟩ := x
      obtain ⟨h10t, h10a⟩ := h10k
      simp only [] at h10t h10a
      have a0 := hcells 0 (by decide)
      have a1 := hcells 1 (by decide)
      have a2 := hcells 2 (by decide)
      have a3 := hcells 3 (by decide)
      have a4 := hcells 4 (by decide)
      have a5 := hcells 5 (by decide)
      simp [JbV.cells] at a0 a1 a2 a3 a4 a5
      clear hcells
      obtain ⟨V, hV⟩ : ∃ V : World, V = wr.alloc (.cells #[.int .i64 jn, .int .i64 st, .slice ta tl tc, .slice aa al ac, .int .i64 asks, .int .i64 age] 47) := ⟨_, rfl⟩
      have bV : Below wr.heap.size wr V := by rw [hV]; exact (Below.refl _ _).alloc (Nat.le_refl _) _
      have bxV : BoxN V wr.heap.size 6 [.int .i64 jn, .int .i64 st, .slice ta tl tc, .slice aa al ac, .int .i64 asks, .int .i64 age] := by rw [hV]; exact boxn_new wr #[.int .i64 jn, .int .i64 st, .slice ta tl tc, .slice aa al ac, .int .i64 asks, .int .i64 age] 47 6 rfl
      have hJV := hJk.below bV
      have hHV := hH.out.below bV
      have hqw : (w.heap.size + 2) < wr.heap.size := hH.out.box.lt
      have hWr : (w.heap.size + 2) ≤ wr.heap.size := by omega
      have v2 : V.cell? ⟨wr.heap.size, 2, none⟩ = some (.slice ta tl tc) := (bxV.c 2 (by decide)).1
      have g2 := (bxV.c 2 (by decide)).2
      have zV := bxV.lt
      have HT : Hid (Calls Try.prog 12 #[.slice ta tl tc] V fun e w' => ∃ a5 c5, e = .returned (.slice a5 tl c5) ∧ w'.ownsRow V.heap.size 73 8 (.slice a5 tl c5) tl (flat TkV.cells tasks) ∧ Below V.heap.size V w') := tasksCopy_any ta tl tc tasks V hJV.tasks (by omega)
      have hapV : ∀ (i : Nat) (r : Rw), (jobRow a' k c' js' :: more)[i]? = some r → r.v.ownBlock ≠ some wr.heap.size := fun i r e e2 => by have := ((hH.out.own.own i r e).lt _ e2).2; omega
      clear c0 c1
      go_upto_region 6 with (fail)
      rw [← hV]
      clear hV d0 d1 dz a0 a1 a2 a3 a4 a5
      go_upto_region 7 with (go_at_call 12; refine HT.out.mono ?_; rintro e w5 ⟨a5, c5, rfl, own5, hb5⟩; have bx5 := bxV.below hb5 bxV.lt; have p2 : w5.cell? ⟨wr.heap.size, 2, none⟩ = some (.slice ta tl tc) := (bx5.c 2 (by decide)).1; have pf2 := (bx5.c 2 (by decide)).2; have z5 := bx5.lt)
      obtain ⟨Y, eY⟩ : ∃ Y : World, Y = w5.setCell ⟨wr.heap.size, 2, none⟩ (.slice a5 tl c5) := ⟨_, rfl⟩
      have bxY : BoxN Y wr.heap.size 6 [.int .i64 jn, .int .i64 st, .slice a5 tl c5, .slice aa al ac, .int .i64 asks, .int .i64 age] := by rw [eY]; exact bx5.set 2 (by decide) (.slice a5 tl c5)
      have ne5 : (Value.slice a5 tl c5).ownBlock ≠ some wr.heap.size := fun e => by have := (own5.lt _ e).1; omega
      have hH5 := hHV.add hb5 (r := taskRow a5 tl c5 tasks) own5
      have apY := hH5.own.asideNew hapV ne5
      have hHY : Held W Y (w.heap.size + 2) (w.heap.size + 2) 2 [.int .i64 next, .slice a' k c'] ((jobRow a' k c' js' :: more) ++ [taskRow a5 tl c5 tasks]) := by rw [eY]; exact heldAside hH5 apY (by omega) hWr 2 _
      have bwY : Below wr.heap.size wr Y := by rw [eY]; exact (bV.trans (hb5.mono bV.size)).setCell (p := ⟨wr.heap.size, 2, none⟩) (Nat.le_refl _) _
      rw [← eY]
      clear eY p2 pf2 z5 v2 g2 zV HT
      have hsY := hJk.asked.below bwY
      have y3 : Y.cell? ⟨wr.heap.size, 3, none⟩ = some (.slice aa al ac) := (bxY.c 3 (by decide)).1
      have zY := bxY.lt
      have HI : Hid (Calls Try.prog 13 #[.slice aa al ac] Y fun e w' => ∃ a5 c5, e = .returned (.slice a5 al c5) ∧ w'.ownsRow Y.heap.size 3 1 (.slice a5 al c5) al (flat inCell asked) ∧ Below Y.heap.size Y w') := intsCopy_any aa al ac asked Y hsY (by omega)
      go_upto_region 8 with (go_at_call 13; refine HI.out.mono ?_; rintro e w6 ⟨a6, c6, rfl, own6, hb6⟩; have bx6 := bxY.below hb6 bxY.lt; have p3 : w6.cell? ⟨wr.heap.size, 3, none⟩ = some (.slice aa al ac) := (bx6.c 3 (by decide)).1; have pf3 := (bx6.c 3 (by decide)).2; have z6 := bx6.lt)
      obtain ⟨Z, eZ⟩ : ∃ Z : World, Z = w6.setCell ⟨wr.heap.size, 3, none⟩ (.slice a6 al c6) := ⟨_, rfl⟩
      have bxZ : BoxN Z wr.heap.size 6 [.int .i64 jn, .int .i64 st, .slice a5 tl c5, .slice a6 al c6, .int .i64 asks, .int .i64 age] := by rw [eZ]; exact bx6.set 3 (by decide) (.slice a6 al c6)
      have ne6 : (Value.slice a6 al c6).ownBlock ≠ some wr.heap.size := fun e => by have := (own6.lt _ e).1; have := bxY.lt; omega
      have hH6 := hHY.add hb6 (r := siteRow a6 al c6 asked) own6
      have apZ := hH6.own.asideNew apY ne6
      have hHZ : Held W Z (w.heap.size + 2) (w.heap.size + 2) 2 [.int .i64 next, .slice a' k c'] (((jobRow a' k c' js' :: more) ++ [taskRow a5 tl c5 tasks]) ++ [siteRow a6 al c6 asked]) := by rw [eZ]; exact heldAside hH6 apZ (by omega) hWr 3 _
      rw [← eZ]
      clear eZ p3 pf3 z6 y3 zY HI
      have x0 : Z.cell? ⟨wr.heap.size, 0, none⟩ = some (.int .i64 jn) := (bxZ.c 0 (by decide)).1
      have x1 : Z.cell? ⟨wr.heap.size, 1, none⟩ = some (.int .i64 st) := (bxZ.c 1 (by decide)).1
      have x2 : Z.cell? ⟨wr.heap.size, 2, none⟩ = some (.slice a5 tl c5) := (bxZ.c 2 (by decide)).1
      have x3 : Z.cell? ⟨wr.heap.size, 3, none⟩ = some (.slice a6 al c6) := (bxZ.c 3 (by decide)).1
      have x4 : Z.cell? ⟨wr.heap.size, 4, none⟩ = some (.int .i64 asks) := (bxZ.c 4 (by decide)).1
      have x5 : Z.cell? ⟨wr.heap.size, 5, none⟩ = some (.int .i64 age) := (bxZ.c 5 (by decide)).1
      have zZ := bxZ.lt
      have o1 : Z.cell? ⟨w.heap.size + 2, 1, none⟩ = some (.slice a' k c') := (hHZ.box.c 1 (by decide)).1
      have oz := hHZ.box.lt
      obtain ⟨U, eU⟩ : ∃ U : World, U = Z.alloc (.cells #[.int .i64 jn, .int .i64 st, .slice a5 tl c5, .slice a6 al c6, .int .i64 asks, .int .i64 age] 47) := ⟨_, rfl⟩
      have bU : Below Z.heap.size Z U := by rw [eU]; exact (Below.refl _ _).alloc (Nat.le_refl _) _
      have hone : IsRow 6 JbV.cells U (some ⟨Z.heap.size, 0, none⟩) 1 1 [(⟨jn, st, a5, tl, c5, a6, al, c6, asks, age, tasks, asked⟩ : JbV)] := by
        rw [eU]
        exact rowOne (cells := JbV.cells) (k := 6) Z #[.int .i64 jn, .int .i64 st, .slice a5 tl c5, .slice a6 al c6, .int .i64 asks, .int .i64 age] 47 (⟨jn, st, a5, tl, c5, a6, al, c6, asks, age, tasks, asked⟩ : JbV) rfl rfl
      have hHU := hHZ.below bU
      have own0 := hHU.own.own 0 (jobRow a' k c' js') rfl
      simp only [jobRow] at own0
      have hBU : (w.heap.size + 2) ≤ U.heap.size := by have := hHU.box.lt; omega
      have HPut : Hid (∀ (a7 : Option Addr) (c7 : Nat) (w7 : World), U.grownBy w7 (Value.slice a' k c').ownBlock → w7.ownsRow (w.heap.size + 2) 47 6 (.slice a7 (k + 1) c7) (k + 1) (flat JbV.cells (js' ++ [(⟨jn, st, a5, tl, c5, a6, al, c6, asks, age, tasks, asked⟩ : JbV)])) → ((Value.slice a7 (k + 1) c7).ownBlock = (Value.slice a' k c').ownBlock ∨ (Value.slice a7 (k + 1) c7).ownBlock = some U.heap.size) → Held W w7 (w.heap.size + 2) (w.heap.size + 2) 2 [.int .i64 next, .slice a' k c'] (jobRow a7 (k + 1) c7 (js' ++ [(⟨jn, st, a5, tl, c5, a6, al, c6, asks, age, tasks, asked⟩ : JbV)]) :: (more ++ [taskRow a5 tl c5 tasks, siteRow a6 al c6 asked]))) := fun a7 c7 w7 g7 o7 t7 => by
        have h9 := hHU.grow (i := 0) (r := jobRow a' k c' js') (r' := jobRow a7 (k + 1) c7 (js' ++ [(⟨jn, st, a5, tl, c5, a6, al, c6, asks, age, tasks, asked⟩ : JbV)])) rfl g7 o7 t7
        simpa using h9
      have HDk : Hid (∀ (X : World) (a7 : Option Addr) (c7 : Nat) (vs : List Value), Held W X (w.heap.size + 2) (w.heap.size + 2) 2 vs (jobRow a7 (k + 1) c7 (js' ++ [(⟨jn, st, a5, tl, c5, a6, al, c6, asks, age, tasks, asked⟩ : JbV)]) :: (more ++ [taskRow a5 tl c5 tasks, siteRow a6 al c6 asked])) → DeskAt X (w.heap.size + 2) a7 (k + 1) c7 (js' ++ [(⟨jn, st, a5, tl, c5, a6, al, c6, asks, age, tasks, asked⟩ : JbV)]) (ix ++ [(more.length, more.length + 1)]) (more ++ [taskRow a5 tl c5 tasks, siteRow a6 al c6 asked])) := fun X a7 c7 vs hX => by
        refine ⟨hX.own, hD.out.jobs.push hD.out.inn (⟨jn, st, a5, tl, c5, a6, al, c6, asks, age, tasks, asked⟩ : JbV), by simp [hD.out.len], fun j hj => ?_, ix_push hD.out.inn⟩
        rcases List.mem_append.1 hj with hj | hj
        · exact hD.out.fit j hj
        · simp at hj; subst hj; exact ⟨hJk.tasks.1, hJk.asked.1⟩
      have HBr : Hid ((js' ++ [(⟨jn, st, a5, tl, c5, a6, al, c6, asks, age, tasks, asked⟩ : JbV)]).map JbV.bare = (js.take (k + 1)).map JbV.bare) := hpush hbare.out rfl
      have hz0 : Z.heap.size ≤ U.heap.size := bU.size
      clear bwY hsY hJV hJk hHV hH5 hHY hH6 hHZ hHU apY apZ hapV ne5 ne6 own5 own6 hb5 hb6 bx5 bx6 bxV bxY bxZ hH hD hbare hpush bV hbw h10t h10a
      go_wp2_with (at_builtin; go_loud (rw [← eU]; refine St.wpList_append_row EJ (by rfl) _ _ (by rfl) (w.heap.size + 2) (.slice a' k c') k js' (by rfl) own0 _ 1 1 [(⟨jn, st, a5, tl, c5, a6, al, c6, asks, age, tasks, asked⟩ : JbV)] (by rfl) hone (by unfold maxLen; omega) (by omega) hBU ?_; intro a7 c7 w7 own7 gr7 at7; have hH7 : Hid (Held W w7 (w.heap.size + 2) (w.heap.size + 2) 2 [.int .i64 next, .slice a' k c'] (jobRow a7 (k + 1) c7 (js' ++ [(⟨jn, st, a5, tl, c5, a6, al, c6, asks, age, tasks, asked⟩ : JbV)]) :: (more ++ [taskRow a5 tl c5 tasks, siteRow a6 al c6 asked]))) := HPut.out a7 c7 w7 gr7 own7 at7; have r1 : w7.cell? ⟨w.heap.size + 2, 1, none⟩ = some (.slice a' k c') := (hH7.out.box.c 1 (by decide)).1; have rf1 := (hH7.out.box.c 1 (by decide)).2; have rz := hH7.out.box.lt; clear x0 x1 x2 x3 x4 x5 zZ o1 oz hone own0 gr7 at7 own7 bU hBU hz0))
      go_roundw
      case rel =>
        have hH8 := hH7.out.tell 1 (by decide) (.slice a7 (k + 1) c7)
        exact ⟨k + 1, a7, c7, _, _, _, by omega, by go_num, hH8, HDk.out _ a7 c7 _ hH8, HBr⟩
      case measure => simp [intOf]; omega
    · obtain rfl : k = jl := by omega
      have hlt' : ¬ (k : Int) < (k : Int) := by omega
      have hHo := hH.out
      have e0 : wr.cell? ⟨w.heap.size + 2, 0, none⟩ = some (.int .i64 next) := (hHo.box.c 0 (by decide)).1
      have e1 : wr.cell? ⟨w.heap.size + 2, 1, none⟩ = some (.slice a' k c') := (hHo.box.c 1 (by decide)).1
      have ez := hHo.box.lt
      have q0 : wr.cell? ⟨w.heap.size + 1, 0, none⟩ = some (.int .i64 0) := (c1.c 0 (by decide)).1
      have q1 : wr.cell? ⟨w.heap.size + 1, 1, none⟩ = some (.slice none 0 0) := (c1.c 1 (by decide)).1
      have f0 := (c1.c 0 (by decide)).2
      have f1 := (c1.c 1 (by decide)).2
      have z1 := c1.lt
      have ap : ∀ (i : Nat) (r : Rw), (jobRow a' k c' js' :: more)[i]? = some r → r.v.ownBlock ≠ some (w.heap.size + 1) := fun i r e e2 => by have := ((hHo.own.own i r e).lt _ e2).1; omega
      have hO2 := (hHo.own.aside ap 0 (.int .i64 next)).aside ap 1 (.slice a' k c')
      have hb2 : Below w.heap.size w ((wr.setCell ⟨w.heap.size + 1, 0, none⟩ (.int .i64 next)).setCell ⟨w.heap.size + 1, 1, none⟩ (.slice a' k c')) := (hbw.setCell (p := ⟨w.heap.size + 1, 0, none⟩) (Nat.le_succ _) _).setCell (p := ⟨w.heap.size + 1, 1, none⟩) (Nat.le_succ _) _
      have hfin : Hid (js'.map JbV.bare = js.map JbV.bare) := by show _ = _; rw [hbare.out, List.take_of_length_le (by rw [HL.out]; omega)]
      have hDo := hD.out
      clear c0 c1 hHo
      go_wp2
      refine bodyPost_ret (v := .agg #[.int .i64 next, .slice a' k c']) (by simp [results, Try.results5, go_sem, q0, q1]) rfl ⟨a', c', js', ix, more, rfl, ⟨hO2.base (by omega), hDo.jobs, hDo.len, hDo.fit, hDo.inn⟩, hfin.out, hb2⟩
end Go.Proofs.Ytfhciplckjkflaa.Cd
/- The contracts of the clerk's reply and send. -/
namespace Go.Proofs.Ytfhciplckjkflaa.Co
open Go.ChangeShapes Go.WideShapes Go.ChangeAt Go.RowKit
open Go.Proofs.Ytfhciplckjkflaa.St (BoxN boxn_new own_below grown_setCell IsRow Elem flat flat_append own_isRow)
set_option linter.unusedVariables false

theorem jD {W V : World} (h : Below W.heap.size W V) : Below W.heap.size W V.drew := h.drew
theorem jT {W V U : World} (h : Below W.heap.size W V) (h2 : Below V.heap.size V U) : Below W.heap.size W U := h.trans (h2.mono h.size)
set_option maxRecDepth 100000 in
set_option maxHeartbeats 4000000 in
theorem reply_any {w : World} {B q : Nat} {v : CkV} {ix : List (Nat × Nat)} {more : List Rw} (X : World) (h : Clerk w X B q v ix more) (r : RpV) (hn : (v.pl + 1) * 48 ≤ 140737488355328) :
    Calls Try.prog 20 #[.pointer (some ⟨q, 0, none⟩), r.val] X fun e X' => e = .returned (.tuple #[]) ∧ ∃ a5 c5, Clerk w X' B q { v with pa := a5, pl := v.pl + 1, pc := c5, ps := v.ps ++ [⟨v.me, r.kind, r.n, r.key, r.value, r.code⟩] } ix more := by
  obtain ⟨iR, ER⟩ := rpElem
  obtain ⟨site, kind, n, key, value, code⟩ := r
  simp only [RpV.val]
  obtain ⟨U, eU⟩ : ∃ U : World, U = ((X.alloc (.cells #[.int .i64 v.me, .int .i64 kind, .int .i64 n, .int .i64 key, .int .i64 value, .int .i64 code] 62)).alloc (.cells #[.int .i64 v.me, .int .i64 kind, .int .i64 n, .int .i64 key, .int .i64 value, .int .i64 code] 62)).drew := ⟨_, rfl⟩
  have bU : Below X.heap.size X U := by rw [eU]; exact (((Below.refl _ _).alloc (Nat.le_refl _) _).alloc (by simp) _).drew
  have hU := h.below bU
  have hone : IsRow 6 RpV.cells U (some ⟨X.heap.size + 1, 0, none⟩) 1 1 [(⟨v.me, kind, n, key, value, code⟩ : RpV)] := by
    rw [eU]
    have := rowOne (cells := RpV.cells) (k := 6) (X.alloc (.cells #[.int .i64 v.me, .int .i64 kind, .int .i64 n, .int .i64 key, .int .i64 value, .int .i64 code] 62)) #[.int .i64 v.me, .int .i64 kind, .int .i64 n, .int .i64 key, .int .i64 value, .int .i64 code] 62 (⟨v.me, kind, n, key, value, code⟩ : RpV) rfl rfl
    refine St.IsRow.below (w := (X.alloc (.cells #[.int .i64 v.me, .int .i64 kind, .int .i64 n, .int .i64 key, .int .i64 value, .int .i64 code] 62)).alloc (.cells #[.int .i64 v.me, .int .i64 kind, .int .i64 n, .int .i64 key, .int .i64 value, .int .i64 code] 62)) ?_ (Below.refl _ _).drew
    simpa using this
  have ownU := hU.held.own.own 3 ⟨62, 6, .slice v.pa v.pl v.pc, v.pl, flat RpV.cells v.ps⟩ rfl
  simp only [] at ownU
  have hap := hU.held.apart 3 ⟨62, 6, .slice v.pa v.pl v.pc, v.pl, flat RpV.cells v.ps⟩ rfl
  have bx := h.held.box
  have q4 : X.cell? ⟨q, 4, none⟩ = some (.int .i64 v.me) := (bx.c 4 (by decide)).1
  have q9 : X.cell? ⟨q, 9, none⟩ = some (.slice v.pa v.pl v.pc) := (bx.c 9 (by decide)).1
  have zq := bx.lt
  have hB : B ≤ U.heap.size := Nat.le_trans h.held.le (Nat.le_of_lt (Nat.lt_of_lt_of_le zq bU.size))
  have HU : Hid (Clerk w U B q v ix more) := hU
  clear bx hU h
  go_enter Try.func20, Try.ntmps20
  go_upto_region 2 with (fail)
  go_region_law (rw [← eU]; refine St.step_append_row ER (by rfl) (.tmp 14) (.tmp 16) (by rfl) B (.slice v.pa v.pl v.pc) v.pl v.ps (by rfl) ownU _ 1 1 [(⟨v.me, kind, n, key, value, code⟩ : RpV)] (by rfl) hone (by unfold maxLen; omega) (by omega) hB ?_; intro a5 c5 w5 own5 gr5 at5; have bq := HU.out.held.box.grown gr5 (fun e => hap e.symm); have p9 : w5.cell? ⟨q, 9, none⟩ = some (.slice v.pa v.pl v.pc) := (bq.c 9 (by decide)).1; have pf9 := (bq.c 9 (by decide)).2; have zq5 := bq.lt)
  all_goals
    go_wp2
    exact bodyPost_end (v := .tuple #[]) (by simp [results, Try.results20, go_sem]) rfl ⟨rfl, a5, c5, HU.out.rep gr5 own5 at5⟩

theorem txn_any {w : World} {B q : Nat} {v : CkV} {ix : List (Nat × Nat)} {more : List Rw} (X : World) (h : Clerk w X B q v ix more) (n : Int) :
    Calls Try.prog 44 #[.pointer (some ⟨q, 0, none⟩), .int .i64 n] X fun e X' => e = .returned (.agg #[.int .i64 v.me, .int .i64 n]) ∧ Below X.heap.size X X' := by
  have bx := h.held.box
  have q4 : X.cell? ⟨q, 4, none⟩ = some (.int .i64 v.me) := (bx.c 4 (by decide)).1
  have zq := bx.lt
  have bA : Below X.heap.size X (X.alloc (.cells #[.int .i64 v.me, .int .i64 n] 67)) := (Below.refl _ _).alloc (Nat.le_refl _) _
  clear bx h
  go_enter Try.func44, Try.ntmps44
  go_wp2
  refine bodyPost_ret (v := .agg #[.int .i64 v.me, .int .i64 n]) (by simp [results, Try.results44, go_sem]) rfl ⟨rfl, ?_⟩
  exact bA
set_option maxRecDepth 100000 in
set_option maxHeartbeats 4000000 in
theorem send_any {w : World} {B q : Nat} {v : CkV} {ix : List (Nat × Nat)} {more : List Rw} (X : World) (h : Clerk w X B q v ix more) (n2 dst2 : Int) (m : MV) (hn : (v.ml + 1) * 96 ≤ 140737488355328) :
    Calls Try.prog 50 #[.pointer (some ⟨q, 0, none⟩), .int .i64 n2, .int .i64 dst2, m.val] X fun e X' => e = .returned (.tuple #[]) ∧ ∃ a5 c5, Clerk w X' B q { v with ma := a5, ml := v.ml + 1, mc := c5, ms := v.ms ++ [⟨m.kind, v.me, dst2, v.me, n2, m.label, m.key, m.value, m.version, m.ask, m.yes, m.code⟩] } ix more := by
  obtain ⟨iM, EM⟩ := msElem
  obtain ⟨kind, frm, dst, site, num, label, key, value, version, ask, yes, code⟩ := m
  simp only [MV.val]
  obtain ⟨W, hW⟩ : ∃ W : World, W = X.alloc (.cells #[.int .i64 kind, .int .i64 frm, .int .i64 dst, .int .i64 site, .int .i64 num, .int .i64 label, .int .i64 key, .int .i64 value, .int .i64 version, .int .i64 ask, .bool yes, .int .i64 code] 75) := ⟨_, rfl⟩
  have bW : Below X.heap.size X W := by rw [hW]; exact (Below.refl _ _).alloc (Nat.le_refl _) _
  have bxm : BoxN W X.heap.size 12 [.int .i64 kind, .int .i64 frm, .int .i64 dst, .int .i64 site, .int .i64 num, .int .i64 label, .int .i64 key, .int .i64 value, .int .i64 version, .int .i64 ask, .bool yes, .int .i64 code] := by rw [hW]; exact boxn_new X #[.int .i64 kind, .int .i64 frm, .int .i64 dst, .int .i64 site, .int .i64 num, .int .i64 label, .int .i64 key, .int .i64 value, .int .i64 version, .int .i64 ask, .bool yes, .int .i64 code] 75 12 rfl
  have zW : X.heap.size < W.heap.size := bxm.lt
  have hqX : q < X.heap.size := h.held.box.lt
  have KQ : Hid (∀ U, Below W.heap.size W U → U.cell? ⟨q, 4, none⟩ = some (.int .i64 v.me)) := fun U hU => ((h.below (bW.trans (hU.mono bW.size))).held.box.c 4 (by decide)).1
  have PS : Hid (∀ (U : World) (i : Nat) (x : Value), U.cell? ⟨q, 4, none⟩ = some (.int .i64 v.me) → (U.setCell ⟨X.heap.size, i, none⟩ x).cell? ⟨q, 4, none⟩ = some (.int .i64 v.me)) := fun U i x e => by
    rw [World.cell?_of_block (a := ⟨q, 4, none⟩) (Below.heap_setCell U ⟨X.heap.size, i, none⟩ x q (by simp; omega))]; exact e
  have HTx : Hid (∀ U, Below W.heap.size W U → Calls Try.prog 44 #[.pointer (some ⟨q, 0, none⟩), .int .i64 n2] U fun e U' => e = .returned (.agg #[.int .i64 v.me, .int .i64 n2]) ∧ Below U.heap.size U U') := fun U hU => txn_any U (h.below (bW.trans (hU.mono bW.size))) n2
  have HC : Hid (Clerk w X B q v ix more) := h
  have Hm : Hid (BoxN W X.heap.size 12 [.int .i64 kind, .int .i64 frm, .int .i64 dst, .int .i64 site, .int .i64 num, .int .i64 label, .int .i64 key, .int .i64 value, .int .i64 version, .int .i64 ask, .bool yes, .int .i64 code]) := bxm
  clear h bxm
  go_enter Try.func50, Try.ntmps50
  go_upto_region 1 with (fail)
  rw [← hW]
  clear hW
  go_cut [] (fun wc => BoxN wc X.heap.size 12 [.int .i64 kind, .int .i64 v.me, .int .i64 dst2, .int .i64 v.me, .int .i64 n2, .int .i64 label, .int .i64 key, .int .i64 value, .int .i64 version, .int .i64 ask, .bool yes, .int .i64 code] ∧ Below X.heap.size X wc)
  case first =>
    go_region_held3 (fun U => U.cell? ⟨q, 4, none⟩ = some (.int .i64 v.me))
      (((with_reducible repeat (first | refine PS.out _ _ _ ?_ | (refine KQ.out _ ?_; (repeat (first | exact Below.refl _ _ | exact hu1 | refine jD ?_)); done))); done))
      ((go_at_call 44; refine (HTx.out _ (by (with_reducible repeat (first | exact Below.refl _ _ | refine jD ?_)); done)).mono ?_; rintro e u1 ⟨rfl, hb1⟩; have hu1 : Below W.heap.size W u1 := jT (by (with_reducible repeat (first | exact Below.refl _ _ | refine jD ?_)); done) hb1; have bx1 := Hm.out.below hu1 Hm.out.lt; have zb1 := bx1.lt; have c1 : u1.cell? ⟨X.heap.size, 1, none⟩ = some (.int .i64 frm) := (bx1.c 1 (by decide)).1; have f1 := (bx1.c 1 (by decide)).2; have c2 : u1.cell? ⟨X.heap.size, 2, none⟩ = some (.int .i64 dst) := (bx1.c 2 (by decide)).1; have f2 := (bx1.c 2 (by decide)).2; have c3 : u1.cell? ⟨X.heap.size, 3, none⟩ = some (.int .i64 site) := (bx1.c 3 (by decide)).1; have f3 := (bx1.c 3 (by decide)).2; have c4 : u1.cell? ⟨X.heap.size, 4, none⟩ = some (.int .i64 num) := (bx1.c 4 (by decide)).1; have f4 := (bx1.c 4 (by decide)).2))
    all_goals
      go_wp2_with fail
      go_meet
      case rel => exact ⟨(((bx1.set 1 (by decide) (.int .i64 v.me)).set 2 (by decide) (.int .i64 dst2)).set 3 (by decide) (.int .i64 v.me)).set 4 (by decide) (.int .i64 n2), ((((bW.trans (hu1.mono bW.size)).setCell (p := ⟨X.heap.size, 1, none⟩) (Nat.le_refl _) _).setCell (p := ⟨X.heap.size, 2, none⟩) (Nat.le_refl _) _).setCell (p := ⟨X.heap.size, 3, none⟩) (Nat.le_refl _) _).setCell (p := ⟨X.heap.size, 4, none⟩) (Nat.le_refl _) _⟩
  case rest =>
    obtain ⟨bx, bY⟩ := hcut
    obtain ⟨Y, eY⟩ : ∃ Y, Y = wc := ⟨_, rfl⟩
    rw [← eY] at bx bY ⊢
    clear eY KQ PS HTx Hm
    obtain ⟨U, eU⟩ : ∃ U : World, U = (Y.alloc (.cells #[.int .i64 kind, .int .i64 v.me, .int .i64 dst2, .int .i64 v.me, .int .i64 n2, .int .i64 label, .int .i64 key, .int .i64 value, .int .i64 version, .int .i64 ask, .bool yes, .int .i64 code] 75)).drew := ⟨_, rfl⟩
    have bU : Below Y.heap.size Y U := by rw [eU]; exact ((Below.refl _ _).alloc (Nat.le_refl _) _).drew
    have hY := HC.out.below bY
    have hU := hY.below bU
    have hone : IsRow 12 mcells U (some ⟨Y.heap.size, 0, none⟩) 1 1 [(⟨kind, v.me, dst2, v.me, n2, label, key, value, version, ask, yes, code⟩ : MV)] := by
      rw [eU]
      exact St.IsRow.below (rowOne (cells := mcells) (k := 12) Y #[.int .i64 kind, .int .i64 v.me, .int .i64 dst2, .int .i64 v.me, .int .i64 n2, .int .i64 label, .int .i64 key, .int .i64 value, .int .i64 version, .int .i64 ask, .bool yes, .int .i64 code] 75 (⟨kind, v.me, dst2, v.me, n2, label, key, value, version, ask, yes, code⟩ : MV) rfl rfl) (Below.refl _ _).drew
    have ownU := hU.held.own.own 1 ⟨75, 12, .slice v.ma v.ml v.mc, v.ml, flat mcells v.ms⟩ rfl
    simp only [] at ownU
    have hap := hU.held.apart 1 ⟨75, 12, .slice v.ma v.ml v.mc, v.ml, flat mcells v.ms⟩ rfl
    have bq0 := hY.held.box
    have q7 : Y.cell? ⟨q, 7, none⟩ = some (.slice v.ma v.ml v.mc) := (bq0.c 7 (by decide)).1
    have zq := bq0.lt
    have zm := bx.lt
    have hB : B ≤ U.heap.size := Nat.le_trans hY.held.le (Nat.le_of_lt (Nat.lt_of_lt_of_le zq bU.size))
    have HU : Hid (Clerk w U B q v ix more) := hU
    have x0 : Y.cell? ⟨X.heap.size, 0, none⟩ = some (.int .i64 kind) := (bx.c 0 (by decide)).1
    have x1 : Y.cell? ⟨X.heap.size, 1, none⟩ = some (.int .i64 v.me) := (bx.c 1 (by decide)).1
    have x2 : Y.cell? ⟨X.heap.size, 2, none⟩ = some (.int .i64 dst2) := (bx.c 2 (by decide)).1
    have x3 : Y.cell? ⟨X.heap.size, 3, none⟩ = some (.int .i64 v.me) := (bx.c 3 (by decide)).1
    have x4 : Y.cell? ⟨X.heap.size, 4, none⟩ = some (.int .i64 n2) := (bx.c 4 (by decide)).1
    have x5 : Y.cell? ⟨X.heap.size, 5, none⟩ = some (.int .i64 label) := (bx.c 5 (by decide)).1
    have x6 : Y.cell? ⟨X.heap.size, 6, none⟩ = some (.int .i64 key) := (bx.c 6 (by decide)).1
    have x7 : Y.cell? ⟨X.heap.size, 7, none⟩ = some (.int .i64 value) := (bx.c 7 (by decide)).1
    have x8 : Y.cell? ⟨X.heap.size, 8, none⟩ = some (.int .i64 version) := (bx.c 8 (by decide)).1
    have x9 : Y.cell? ⟨X.heap.size, 9, none⟩ = some (.int .i64 ask) := (bx.c 9 (by decide)).1
    have x10 : Y.cell? ⟨X.heap.size, 10, none⟩ = some (.bool yes) := (bx.c 10 (by decide)).1
    have x11 : Y.cell? ⟨X.heap.size, 11, none⟩ = some (.int .i64 code) := (bx.c 11 (by decide)).1
    clear bx bq0 hU hY HC
    go_upto_region 2 with (fail)
    go_region_law (rw [← eU]; refine St.step_append_row EM (by rfl) (.tmp 24) (.tmp 26) (by rfl) B (.slice v.ma v.ml v.mc) v.ml v.ms (by rfl) ownU _ 1 1 [(⟨kind, v.me, dst2, v.me, n2, label, key, value, version, ask, yes, code⟩ : MV)] (by rfl) hone (by unfold maxLen; omega) (by omega) hB ?_; intro a5 c5 w5 own5 gr5 at5; have bq := HU.out.held.box.grown gr5 (fun e => hap e.symm); have p7 : w5.cell? ⟨q, 7, none⟩ = some (.slice v.ma v.ml v.mc) := (bq.c 7 (by decide)).1; have pf7 := (bq.c 7 (by decide)).2; have zq5 := bq.lt)
    all_goals
      go_wp2
      exact bodyPost_end (v := .tuple #[]) (by simp [results, Try.results50, go_sem]) rfl ⟨rfl, a5, c5, HU.out.msg gr5 own5 at5⟩
end Go.Proofs.Ytfhciplckjkflaa.Co
