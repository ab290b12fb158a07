/- Texts of this claim, one behind the other. -/
import Derived.Test.YtekglahigjblkaaGreatDoorM23RecoverRebuilds
import Derived.Test.YtekglahigjblkaaGreatDoorM22RecoverRebuilds
import Derived.Test.YtekglahigjblkaaGreatDoorA30RecoverRebuilds
/- The document's jobAt, intsCopy, without. -/
namespace Go.Proofs.YtekglahigjblkaaGreatDoor.Rb
open Go.ChangeShapes Go.WideShapes Go.ChangeAt Go.RowKit
open Go.Proofs.YtekglahigjblkaaGreatDoor.St Go.Proofs.YtekglahigjblkaaGreatDoor.Co
set_option linter.unusedVariables false

/-- The place of a job; -1: there is none. -/
def jbAt (n : Int) : Nat → List JbV → Int
  | _, [] => -1
  | k, j :: r => if j.n = n then (k : Int) else jbAt n (k + 1) r
theorem jbAt_at {n : Int} {js : List JbV} {k : Nat} (hk : k < js.length) : jbAt n k (js.drop k) = if (js.getD k default).n = n then (k : Int) else jbAt n (k + 1) (js.drop (k + 1)) := by
  rw [List.drop_eq_getElem_cons hk, jbAt]
  have : js.getD k default = js[k] := by simp [List.getD, hk]
  rw [this]
theorem jbAt_no {n : Int} : ∀ (js : List JbV) (k : Nat), jbAt n k js = -1 ∨ ∃ i, i < js.length ∧ jbAt n k js = ((k + i : Nat) : Int) ∧ (js.getD i default).n = n ∧ ∀ q, q < i → (js.getD q default).n ≠ n
  | [], k => Or.inl rfl
  | j :: r, k => by
    rw [jbAt]
    by_cases h : j.n = n
    · rw [if_pos h]
      exact Or.inr ⟨0, by simp, rfl, h, fun q hq => absurd hq (Nat.not_lt_zero q)⟩
    · rw [if_neg h]
      rcases jbAt_no r (k + 1) with h1 | ⟨i, h1, h2, h3, h4⟩
      · exact Or.inl h1
      · refine Or.inr ⟨i + 1, by simp; omega, by rw [h2]; congr 1; omega, by simpa using h3, fun q hq => ?_⟩
        cases q with
        | zero => simpa using h
        | succ q => have := h4 q (by omega); simpa using this
theorem jbAt_none {n : Int} : ∀ (js : List JbV) (k : Nat), (jbAt n k js = -1) = (js.any (isNr n) = false)
  | [], k => by simp [jbAt]
  | j :: r, k => by
    rw [jbAt, List.any_cons]
    by_cases h : j.n = n
    · rw [if_pos h]
      simp [isNr, h]
    · rw [if_neg h, jbAt_none r (k + 1)]
      simp [isNr, h]
set_option maxRecDepth 100000 in
set_option maxHeartbeats 4000000 in
theorem jobAt_any (next : Int) (a : Option Addr) (len cap : Nat) (js : List JbV) (n : Int) (w : World) (h : IsJobRow w a len cap js) :
    Calls Tryz.prog 18 #[.agg #[.int .i64 next, .slice a len cap], .int .i64 n] w fun e w' => e = .returned (.int .i64 (jbAt n 0 js)) ∧ Below w.heap.size w w' := by
  obtain ⟨R, eR⟩ : ∃ R, R = jbAt n 0 js := ⟨_, rfl⟩
  have HR : Hid (R = jbAt n 0 (js.drop 0)) := eR
  rw [← eR]
  clear eR
  have hmx : len ≤ maxLen := Nat.le_trans h.2.1 h.2.2.1
  unfold maxLen at hmx
  have hjl : js.length = len := h.1
  obtain ⟨W, hW⟩ : ∃ W : World, W = w.alloc (.cells #[.int .i64 next, .slice a len cap] 34) := ⟨_, rfl⟩
  have bW : Below w.heap.size w W := by rw [hW]; exact (Below.refl _ _).alloc (Nat.le_refl _) _
  have bx : BoxN W w.heap.size 2 [.int .i64 next, .slice a len cap] := by rw [hW]; exact boxn_new w #[.int .i64 next, .slice a len cap] 34 2 rfl
  have KV : Hid (∀ U, Below W.heap.size W U → U.cell? ⟨w.heap.size, 1, none⟩ = some (.slice a len cap) ∧ w.heap.size < U.heap.size ∧ IsJobRow U a len cap js ∧ Below w.heap.size w U) := fun U hU => by
    have h1 := bx.below hU bx.lt
    have h9 := bW.trans (hU.mono bW.size)
    exact ⟨(h1.c 1 (by decide)).1, h1.lt, h.below h9, h9⟩
  clear h bx bW
  go_enter Tryz.func18, Tryz.ntmps18
  go_upto_region 2 with (fail)
  rw [← hW]
  clear hW
  go_loopw [5] (fun s5 wr => ∃ k : Nat, s5 = .int .i64 (k : Int) ∧ k ≤ len ∧ Hid (R = jbAt n k (js.drop k)) ∧ Below W.heap.size W wr) (fun s5 _ => len - (intOf s5).toNat)
  case atStart => exact ⟨0, rfl, by omega, HR, Below.refl _ _⟩
  case round =>
    clear HR
    obtain ⟨k, rfl, hk, hR, hb⟩ := hrel
    obtain ⟨c1, zc, hrow, hbw⟩ := KV.out wr hb
    by_cases hlt : k < len
    · have hlt' : (k : Int) < (len : Int) := by omega
      obtain ⟨b, off, rfl, zb, hc⟩ := hrow.2.2.2.2 (by omega)
      have h0 := hc k hlt 0 (by decide)
      rw [Nat.add_zero] at h0
      obtain ⟨m, em⟩ : ∃ m, m = (js.getD k default).n := ⟨_, rfl⟩
      have h0' : wr.cell? ⟨b, off + k * 6, none⟩ = some (.int .i64 m) := by rw [h0, em]; rfl
      have HR2 : Hid (R = if m = n then (k : Int) else jbAt n (k + 1) (js.drop (k + 1))) := by show _ = _; rw [hR.out, jbAt_at (by omega), em]
      clear hc h0 em hR hrow
      by_cases hmn : m = n
      · have hE : R = (k : Int) := by rw [HR2.out, if_pos hmn]
        subst hmn
        clear HR2
        go_wp2
        go_ret
        exact ⟨by first | (rw [hE]; done) | (rw [hE]; rfl) | rfl, hbw⟩
      · have HR3 : Hid (R = jbAt n (k + 1) (js.drop (k + 1))) := by show _ = _; rw [HR2.out, if_neg hmn]
        have hk1 : IntKind.i64.wrap ((k : Int) + 1) = (k : Int) + 1 := by rw [IntKind.wrap_i64]; omega
        clear HR2
        go_wp2
        go_roundw
        case rel => exact ⟨k + 1, by go_num, by omega, HR3, hb⟩
        case measure => simp [intOf]; omega
    · obtain rfl : k = len := by omega
      have hnl : ¬ ((k : Int) < (k : Int)) := by omega
      have hE : R = -1 := by rw [hR.out, List.drop_of_length_le (by omega)]; rfl
      clear hR hrow
      go_wp2
      go_ret
      exact ⟨by first | (rw [hE]; done) | (rw [hE]; rfl) | rfl, hbw⟩
theorem in1 (X : World) (n : Int) (q : Nat) (hq : q = X.heap.size) : IsRow 1 inCell (X.alloc (.cells #[.int .i64 n] 3)) (some ⟨q, 0, none⟩) 1 1 [n] := by
  subst hq
  have b := boxn_new X #[.int .i64 n] 3 1 rfl
  refine ⟨rfl, Nat.le_refl _, by unfold maxLen; omega, nofun, fun _ => ⟨_, 0, rfl, b.lt, fun i hi j hj => ?_⟩⟩
  obtain rfl : i = 0 := by omega
  obtain rfl : j = 0 := by omega
  exact (b.c 0 (by decide)).1
set_option maxRecDepth 100000 in
set_option maxHeartbeats 4000000 in
theorem intsCopy_any (a : Option Addr) (n c : Nat) (zs : List Int) (w : World) (h : IsSites w a n c zs) (hn : n ≤ 8000000000000) :
    Calls Tryz.prog 19 #[.slice a n c] w fun e w' => ∃ a5 c5, e = .returned (.slice a5 n c5) ∧ w'.ownsRow w.heap.size 3 1 (.slice a5 n c5) n (flat inCell zs) ∧ Below w.heap.size w w' := by
  obtain ⟨iE, EI⟩ := inElem
  have hzl : zs.length = n := h.1
  have HS : Hid (∀ U, Below w.heap.size w U → IsSites U a n c zs) := fun U hU => h.below hU
  clear h
  go_enter Tryz.func19, Tryz.ntmps19
  go_upto_region 3 with (fail)
  go_loopw [3, 4] (fun s3 s4 wr => ∃ (a5 : Option Addr) (c5 k : Nat), s3 = .slice a5 k c5 ∧ s4 = .int .i64 (k : Int) ∧ k ≤ n ∧ Hid (wr.ownsRow w.heap.size 3 1 (.slice a5 k c5) k (flat inCell (zs.take k))) ∧ Hid (Below w.heap.size w wr)) (fun _ s4 _ => n - (intOf s4).toNat)
  case atStart => exact ⟨none, 0, 0, rfl, rfl, by omega, ⟨rfl, Or.inl ⟨rfl, rfl⟩⟩, Below.refl _ _⟩
  case round =>
    obtain ⟨a5, c5, k, rfl, rfl, hk, HOw, HB⟩ := hrel
    obtain ⟨wo, ewo⟩ : ∃ X : World, X = wr := ⟨_, rfl⟩
    subst ewo
    by_cases hlt : k < n
    · have hlt' : (k : Int) < (n : Int) := by omega
      obtain ⟨b, off, rfl, zb, hc⟩ := (HS.out wo HB.out).2.2.2.2 (by omega)
      have h0 := hc k hlt 0 (by decide)
      rw [Nat.add_zero, Nat.mul_one] at h0
      obtain ⟨m, em⟩ : ∃ m, m = zs.getD k default := ⟨_, rfl⟩
      have h0' : wo.cell? ⟨b, off + k, none⟩ = some (.int .i64 m) := by rw [h0, em]; rfl
      have htk : zs.take (k + 1) = zs.take k ++ [m] := by
        rw [List.take_succ_eq_append_getElem (by omega), em]
        simp [List.getD, show k < zs.length by omega]
      have hk1 : IntKind.i64.wrap ((k : Int) + 1) = ((k + 1 : Nat) : Int) := by rw [IntKind.wrap_i64]; omega
      have HFn : Hid (∀ (w5 : World), (wo.alloc (.cells #[.int .i64 m] 3)).grownBy w5 (Value.slice a5 k c5).ownBlock → Below w.heap.size w w5) := fun w5 h8 => by
        have b1 : Below w.heap.size w (wo.alloc (.cells #[.int .i64 m] 3)) := HB.out.alloc HB.out.size _
        exact b1.grown h8 b1.size (fun g hg => (HOw.out.lt g hg).1)
      have hz1 : w.heap.size ≤ wo.heap.size := HB.out.size
      have hO1 := HOw.out
      have hl : (zs.take k).length = k := by rw [List.length_take]; omega
      have HTk : Hid (zs.take (k + 1) = zs.take k ++ [m]) := htk
      obtain ⟨us, eus⟩ : ∃ us, us = zs.take k := ⟨_, rfl⟩
      rw [← eus] at hO1 hl HTk
      clear hc h0 em htk HS HOw eus
      go_wp2_with (at_builtin; go_loud (refine St.wpList_append_row EI (by rfl) _ _ (by rfl) w.heap.size (.slice a5 k c5) k us (by rfl) (own_below hO1 ((Below.refl _ _).alloc (Nat.le_refl _) _)) _ 1 1 [m] (by rfl) (in1 wo m _ rfl) (by unfold maxLen; omega) (by omega) (by simp; omega) ?_; intro a6 c6 w5 own5 gr5 at5; have HF5 : Hid (Below w.heap.size w w5) := HFn.out w5 gr5))
      go_roundw
      case rel => exact ⟨a6, c6, k + 1, rfl, by go_num, by omega, by rw [HTk.out]; exact own5, HF5⟩
      case measure => simp [intOf]; omega
    · obtain rfl : k = n := by omega
      have hnl : ¬ ((k : Int) < (k : Int)) := by omega
      have hO1 := HOw.out
      rw [List.take_of_length_le (by omega)] at hO1
      have HO2 : Hid (wo.ownsRow w.heap.size 3 1 (.slice a5 k c5) k (flat inCell zs)) := hO1
      clear HS HOw hO1
      go_wp2
      go_ret
      exact ⟨a5, c5, rfl, HO2.out, HB.out⟩
theorem jobCell1 (X : World) (j : JbV) (q : Nat) (hq : q = X.heap.size) : IsJobRow (X.alloc (.cells j.cells.toArray 64)) (some ⟨q, 0, none⟩) 1 1 [j] := by
  subst hq
  have b := boxn_new X j.cells.toArray 64 6 rfl
  refine ⟨rfl, Nat.le_refl _, by unfold maxLen; omega, nofun, fun _ => ⟨_, 0, rfl, b.lt, fun i hi q hq => ?_⟩⟩
  obtain rfl : i = 0 := by omega
  rw [Nat.zero_mul, Nat.zero_add, (b.c q hq).1]
  have hl : q < j.cells.length := hq
  simp [List.getD, List.getElem?_eq_getElem hl]
/-- What is left without one of them, so far. -/
def woAt (js : List JbV) (i k : Nat) : List JbV := if k ≤ i then js.take k else js.take i ++ (js.take k).drop (i + 1)
theorem woAt_same (js : List JbV) (i : Nat) (h : i < js.length) : woAt js i (i + 1) = woAt js i i := by
  unfold woAt
  rw [if_neg (by omega), if_pos (Nat.le_refl _), List.drop_of_length_le (by rw [List.length_take]; omega), List.append_nil]
theorem woAt_more (js : List JbV) (i k : Nat) (hk : k < js.length) (hne : k ≠ i) : woAt js i (k + 1) = woAt js i k ++ [js.getD k default] := by
  have hg : js.getD k default = js[k] := by simp [List.getD, hk]
  unfold woAt
  by_cases h : k + 1 ≤ i
  · rw [if_pos h, if_pos (by omega), List.take_succ_eq_append_getElem hk, hg]
  · rw [if_neg h, if_neg (by omega), List.take_succ_eq_append_getElem hk, List.drop_append_of_le_length (by rw [List.length_take]; omega), List.append_assoc, hg]
theorem woAt_len (js : List JbV) (i k : Nat) : (woAt js i k).length ≤ k := by
  unfold woAt
  split
  · rw [List.length_take]; omega
  · rw [List.length_append, List.length_drop, List.length_take, List.length_take]; omega
set_option maxRecDepth 100000 in
set_option maxHeartbeats 4000000 in
theorem without_any (a : Option Addr) (n c : Nat) (js : List JbV) (i : Nat) (w : World) (h : IsJobRow w a n c js) (hn : n ≤ 1000) (hi : i < n) :
    Calls Tryz.prog 20 #[.slice a n c, .int .i64 (i : Int)] w fun e w' => ∃ a5 c5 m, e = .returned (.slice a5 m c5) ∧ m = (woAt js i n).length ∧ w'.ownsRow w.heap.size 64 6 (.slice a5 m c5) m (flat JbV.cells (woAt js i n)) ∧ Below w.heap.size w w' := by
  obtain ⟨iE, EJ⟩ := jbElem
  have hjl : js.length = n := h.1
  have HS : Hid (∀ U, Below w.heap.size w U → IsJobRow U a n c js) := fun U hU => h.below hU
  clear h
  go_enter Tryz.func20, Tryz.ntmps20
  go_upto_region 3 with (fail)
  go_loopw [5, 6] (fun s5 s6 wr => ∃ (a5 : Option Addr) (c5 k m : Nat), s5 = .slice a5 m c5 ∧ s6 = .int .i64 (k : Int) ∧ k ≤ n ∧ m ≤ k ∧ Hid (m = (woAt js i k).length) ∧ Hid (wr.ownsRow w.heap.size 64 6 (.slice a5 m c5) m (flat JbV.cells (woAt js i k))) ∧ Hid (Below w.heap.size w wr)) (fun _ s6 _ => n - (intOf s6).toNat)
  case atStart => exact ⟨none, 0, 0, 0, rfl, rfl, by omega, Nat.le_refl _, (show 0 = (woAt js i 0).length by simp [woAt]), (show w.ownsRow w.heap.size 64 6 (.slice none 0 0) 0 (flat JbV.cells (woAt js i 0)) by rw [show woAt js i 0 = [] by simp [woAt]]; exact World.ownsRow_nil _ _ _ _), Below.refl _ _⟩
  case round =>
    obtain ⟨a5, c5, k, m, rfl, rfl, hk, hmk, HM, HOw, HB⟩ := hrel
    obtain ⟨wo, ewo⟩ : ∃ X : World, X = wr := ⟨_, rfl⟩
    subst ewo
    by_cases hlt : k < n
    · have hlt' : (k : Int) < (n : Int) := by omega
      have hk1 : IntKind.i64.wrap ((k : Int) + 1) = ((k + 1 : Nat) : Int) := by rw [IntKind.wrap_i64]; omega
      by_cases hki : k = i
      · subst hki
        have e := woAt_same js k (by omega)
        have HM2 : Hid (m = (woAt js k (k + 1)).length) := by show _ = _; rw [e]; exact HM.out
        have HO2 : Hid (wo.ownsRow w.heap.size 64 6 (.slice a5 m c5) m (flat JbV.cells (woAt js k (k + 1)))) := by rw [e]; exact HOw.out
        clear e HM HOw HS
        go_wp2
        go_roundw
        case rel => exact ⟨a5, c5, k + 1, m, rfl, by go_num, by omega, by omega, HM2, HO2, HB⟩
        case measure => simp [intOf]; omega
      · have hki' : ¬ (k : Int) = (i : Int) := by omega
        have hki'' : ((k : Int) == (i : Int)) = false := beq_eq_false_iff_ne.2 hki'
        obtain ⟨b, off, rfl, zb, hc⟩ := (HS.out wo HB.out).2.2.2.2 (by omega)
        have e := woAt_more js i k (by omega) hki
        obtain ⟨j, ej⟩ : ∃ j, j = js.getD k default := ⟨_, rfl⟩
        rw [← ej] at e
        have hc' := hc k hlt
        rw [← ej] at hc'
        obtain ⟨jn, jst, jta, jtl, jtc, jaa, jal, jac, jas, jag, jts, jak⟩ := j
        have h0 := (hc' 0 (by decide)).trans (show _ = some (Value.int .i64 jn) from rfl)
        rw [Nat.add_zero] at h0
        have h1 := (hc' 1 (by decide)).trans (show _ = some (Value.int .i64 jst) from rfl)
        have h2 := (hc' 2 (by decide)).trans (show _ = some (Value.slice jta jtl jtc) from rfl)
        have h3 := (hc' 3 (by decide)).trans (show _ = some (Value.slice jaa jal jac) from rfl)
        have h4 := (hc' 4 (by decide)).trans (show _ = some (Value.int .i64 jas) from rfl)
        have h5 := (hc' 5 (by decide)).trans (show _ = some (Value.int .i64 jag) from rfl)
        have HM2 : Hid (m + 1 = (woAt js i (k + 1)).length) := by show _ = _; rw [e, List.length_append, ← HM.out]; rfl
        have HE : Hid (woAt js i (k + 1) = woAt js i k ++ [⟨jn, jst, jta, jtl, jtc, jaa, jal, jac, jas, jag, jts, jak⟩]) := e
        have hul : (woAt js i k).length = m := HM.out.symm
        obtain ⟨us, eus⟩ : ∃ us, us = woAt js i k := ⟨_, rfl⟩
        have hO1 := HOw.out
        rw [← eus] at hO1 HE hul
        have HFn : Hid (∀ (w5 : World), (wo.alloc (.cells #[.int .i64 jn, .int .i64 jst, .slice jta jtl jtc, .slice jaa jal jac, .int .i64 jas, .int .i64 jag] 64)).grownBy w5 (Value.slice a5 m c5).ownBlock → Below w.heap.size w w5) := fun w5 h8 => by
          have b1 : Below w.heap.size w (wo.alloc (.cells #[.int .i64 jn, .int .i64 jst, .slice jta jtl jtc, .slice jaa jal jac, .int .i64 jas, .int .i64 jag] 64)) := HB.out.alloc HB.out.size _
          exact b1.grown h8 b1.size (fun g hg => (HOw.out.lt g hg).1)
        have hz1 : w.heap.size ≤ wo.heap.size := HB.out.size
        clear hc hc' ej e HM HOw HS eus
        go_wp2_with (at_builtin; go_loud (refine St.wpList_append_row EJ (by rfl) _ _ (by rfl) w.heap.size (.slice a5 m c5) m us (by rfl) (own_below hO1 ((Below.refl _ _).alloc (Nat.le_refl _) _)) _ 1 1 [(⟨jn, jst, jta, jtl, jtc, jaa, jal, jac, jas, jag, jts, jak⟩ : JbV)] (by rfl) (jobCell1 wo ⟨jn, jst, jta, jtl, jtc, jaa, jal, jac, jas, jag, jts, jak⟩ _ rfl) (by unfold maxLen; omega) (by omega) (by simp; omega) ?_; intro a6 c6 w5 own5 gr5 at5; have HF5 : Hid (Below w.heap.size w w5) := HFn.out w5 gr5))
        go_roundw
        case rel => exact ⟨a6, c6, k + 1, m + 1, rfl, by go_num, by omega, by omega, HM2, by rw [HE.out]; exact own5, HF5⟩
        case measure => simp [intOf]; omega
    · obtain rfl : k = n := by omega
      have hnl : ¬ ((k : Int) < (k : Int)) := by omega
      clear HS
      go_wp2
      go_ret
      exact ⟨a5, c5, m, rfl, HM.out, HOw.out, HB.out⟩
/-- Without the first of them, where there is one of each number alone. -/
theorem wo_keep {n : Int} : ∀ (js : List JbV) (i : Nat), i < js.length → (js.getD i default).n = n → js.Pairwise (fun a b => a.n ≠ b.n) → js.take i ++ js.drop (i + 1) = Co.keep (isNr n) js
  | [], i, h, _, _ => by simp at h
  | j :: r, 0, _, h, hp => by
    have h0 : j.n = n := by simpa using h
    have hr : Co.keep (isNr n) r = r := by
      unfold Co.keep
      rw [List.filter_eq_self]
      intro x hx
      have := (List.pairwise_cons.1 hp).1 x hx
      simp [isNr]
      intro e
      exact this (by rw [h0, e])
    rw [show Co.keep (isNr n) (j :: r) = Co.keep (isNr n) r by simp [Co.keep, isNr, h0], hr]
    rfl
  | j :: r, i + 1, hi, h, hp => by
    have hi2 : i < r.length := by simpa using hi
    have h2 : (r.getD i default).n = n := by simpa using h
    have h0 : j.n ≠ n := fun e => by
      have hm : r.getD i default ∈ r := by simp [List.getD, hi2]
      have := (List.pairwise_cons.1 hp).1 _ hm
      exact this (by rw [e, h2])
    have ih := wo_keep r i hi2 h2 (List.pairwise_cons.1 hp).2
    rw [show Co.keep (isNr n) (j :: r) = j :: Co.keep (isNr n) r by simp [Co.keep, isNr, h0], ← ih]
    rfl
theorem woAt_all (js : List JbV) (i : Nat) (h : i < js.length) : woAt js i js.length = js.take i ++ js.drop (i + 1) := by
  unfold woAt
  rw [if_neg (by omega), List.take_of_length_le (Nat.le_refl _)]
end Go.Proofs.YtekglahigjblkaaGreatDoor.Rb
/- What a store has that is made of raw numbers: few transactions, few keys; what Read, Write and End leave so. -/
namespace Go.Proofs.YtekglahigjblkaaGreatDoor.St
open Go.ChangeShapes Go.WideShapes Go.ChangeAt Go.RowKit
set_option linter.unusedVariables false

def isT (t : Int × Int) : Prop := t ∈ [((0 : Int), (1 : Int)), (0, 2), (1, 1), (1, 2)]
structure Gd (p : PS) (v : Int) : Prop where
  ok : OKP p
  ver : ∀ x ∈ p.items, x.version ≤ v
  ik : ∀ x ∈ p.items, x.key ≤ 4
  lt : ∀ k ∈ p.locks, isT k.t ∧ k.key ≤ 4
  ot : ∀ t ∈ p.over, isT t
  da0 : ∀ d ∈ p.doubts, d.age = 0
theorem gd_nil : Gd PS.nil 1 := ⟨(okP_iff _).1 (by decide), by simp [PS.nil], by simp [PS.nil], by simp [PS.nil], by simp [PS.nil], by simp [PS.nil]⟩
theorem Gd.mono {p : PS} {v u : Int} (h : Gd p v) (hu : v ≤ u) : Gd p u := ⟨h.ok, fun x hx => by have := h.ver x hx; omega, h.ik, h.lt, h.ot, h.da0⟩
theorem holdL_mem {l : List LkV} {k o : LkV} (h : o ∈ holdL l k) : o = k ∨ o ∈ l := by
  unfold holdL at h
  split at h
  · rcases mem_set h with e | ⟨j, hj, _, e⟩
    · exact .inl e
    · exact .inr (e ▸ List.getElem_mem hj)
  · rcases List.mem_append.1 h with h | h
    · exact .inr h
    · simp at h; exact .inl h
theorem holdD0 {l : List DbV} {t : Int × Int} (h : ∀ d ∈ l, d.age = 0) : ∀ d ∈ holdD l t, d.age = 0 := by
  intro d hd
  unfold holdD at hd
  split at hd
  · exact h d hd
  · rcases List.mem_append.1 hd with hd | hd
    · exact h d hd
    · simp at hd; rw [hd]
theorem gd_read {s : SV} {v : Int} (h : Gd s.data v) {t : Int × Int} {key : Int} (ht : isT t) (hk : key ≤ 4) (he : readErr s t key = 0) : Gd (readData s t key) v := by
  have hok := read_ok he
  have e : readData s t key = if idxI (byT t key) s.locks < 0 then ⟨s.items, holdL s.locks ⟨t, key, false, 0, 0⟩, holdD s.doubts t, s.over⟩ else ⟨s.items, s.locks, s.doubts, s.over⟩ := by unfold readData; rw [if_pos he]
  rw [e] at hok ⊢
  split
  · rename_i hi
    rw [if_pos hi] at hok
    refine ⟨hok, h.ver, h.ik, fun k hk2 => ?_, h.ot, holdD0 h.da0⟩
    rcases holdL_mem hk2 with rfl | hk2
    · exact ⟨ht, hk⟩
    · exact h.lt k hk2
  · exact h
theorem gd_write {s : SV} {v : Int} (h : Gd s.data v) {t : Int × Int} {key value ask : Int} (ht : isT t) (hk : key ≤ 4) (he : writeErr s t key value ask = 0) : Gd (writeData s t key value ask) v := by
  have hok := write_ok he
  have e : writeData s t key value ask = ⟨s.items, holdL s.locks ⟨t, key, true, value, ask⟩, holdD s.doubts t, s.over⟩ := by unfold writeData; rw [if_pos he]
  rw [e] at hok ⊢
  refine ⟨hok, h.ver, h.ik, fun k hk2 => ?_, h.ot, holdD0 h.da0⟩
  rcases holdL_mem hk2 with rfl | hk2
  · exact ⟨ht, hk⟩
  · exact h.lt k hk2
theorem gd_end {s : SV} {v : Int} (h : Gd s.data v) (v1 : 1 ≤ v) (v2 : v ≤ 1048000) {t : Int × Int} {yes : Bool} (ht : isT t) (he : endErr s t yes = 0) : Gd (endData s t yes) (v + 24) := by
  obtain ⟨hok, hver⟩ := end_ok he v1 v2 h.ver
  have e : endData s t yes = ⟨if yes then putAll s.items (s.locks.filter (wOf t)) else s.items, keep (ofT t) s.locks, keep (dbT t) s.doubts, if t ∈ s.over then s.over else s.over ++ [t]⟩ := by unfold endData; rw [if_pos he]
  rw [e] at hok hver ⊢
  refine ⟨hok, hver, ?_, fun k hk2 => h.lt k (mem_keep.1 hk2).1, ?_, fun d hd => h.da0 d (mem_keep.1 hd).1⟩
  · show ∀ x ∈ (if yes then putAll s.items (s.locks.filter (wOf t)) else s.items), x.key ≤ 4
    split
    · exact putAll_keys (fun k => k ≤ 4) _ _ (fun k hk => (h.lt k (List.mem_filter.1 hk).1).2) h.ik
    · exact h.ik
  · show ∀ x ∈ (if t ∈ s.over then s.over else s.over ++ [t]), isT x
    split
    · exact h.ot
    · intro x hx
      rcases List.mem_append.1 hx with hx | hx
      · exact h.ot x hx
      · simp at hx; subst hx; exact ht
theorem nodup_le {α : Type} [BEq α] [LawfulBEq α] : ∀ (l m : List α), l.Nodup → (∀ x ∈ l, x ∈ m) → l.length ≤ m.length
  | [], m, _, _ => Nat.zero_le _
  | x :: r, m, h1, h2 => by
    rw [List.nodup_cons] at h1
    have hx := h2 x (by simp)
    have := nodup_le r (m.erase x) h1.2 (fun y hy => (List.mem_erase_of_ne (a := y) (b := x) (fun e => h1.1 (by rw [← e]; exact hy))).2 (h2 y (by simp [hy])))
    rw [List.length_erase_of_mem hx] at this
    have hp := List.length_pos_of_mem hx
    simp only [List.length_cons]
    omega
theorem Gd.over4 {p : PS} {v : Int} (h : Gd p v) : p.over.length ≤ 4 := nodup_le p.over _ h.ok.ov h.ot
theorem Gd.locks20 {p : PS} {v : Int} (h : Gd p v) : p.locks.length ≤ 20 := by
  have hn : (p.locks.map (fun k => (k.t, k.key))).Nodup := by
    rw [List.Nodup, List.pairwise_map]
    refine h.ok.nag.imp ?_
    intro a b hab e
    simp only [Prod.mk.injEq] at e
    simp [against, e.1, e.2] at hab
  have := nodup_le _ [(((0 : Int), (1 : Int)), (0 : Int)), ((0, 1), 1), ((0, 1), 2), ((0, 1), 3), ((0, 1), 4), ((0, 2), 0), ((0, 2), 1), ((0, 2), 2), ((0, 2), 3), ((0, 2), 4), ((1, 1), 0), ((1, 1), 1), ((1, 1), 2), ((1, 1), 3), ((1, 1), 4), ((1, 2), 0), ((1, 2), 1), ((1, 2), 2), ((1, 2), 3), ((1, 2), 4)] hn (fun x hx => by
    obtain ⟨k, hk, rfl⟩ := List.mem_map.1 hx
    obtain ⟨h1, h2⟩ := h.lt k hk
    have h3 := h.ok.lk k hk
    simp only [lockOK, Bool.and_eq_true] at h3
    have h4 := inR_of h3.1.1.1.2
    have h5 : k.key = 0 ∨ k.key = 1 ∨ k.key = 2 ∨ k.key = 3 ∨ k.key = 4 := by omega
    simp only [isT, List.mem_cons, List.not_mem_nil, or_false] at h1
    rcases h1 with e1 | e1 | e1 | e1 <;> rcases h5 with e2 | e2 | e2 | e2 | e2 <;> rw [e1, e2] <;> decide)
  simpa using this
theorem Gd.wf {s : SV} {v : Int} (h : Gd s.data v) : ∀ t ∈ s.over, TxWf t := by
  intro t ht
  have := h.ot t ht
  simp only [isT, List.mem_cons, List.not_mem_nil, or_false] at this
  rcases this with e | e | e | e <;> rw [e] <;> exact ⟨by decide, by decide⟩
theorem Gd.h4 {s : SV} {w : World} {v : Int} (h : Gd s.data v) (hs : IsStore w s) : s.ol * 16 ≤ 140737488351232 := by
  have h1 := h.over4
  have h2 : s.over.length = s.ol := hs.over.1
  have h3 : s.over.length ≤ 4 := h1
  omega
end Go.Proofs.YtekglahigjblkaaGreatDoor.St
/- What is rebuilt may be: the store and the desk of records, on plain data. -/
namespace Go.Proofs.YtekglahigjblkaaGreatDoor.Rb
open Go.ChangeShapes Go.WideShapes Go.ChangeAt Go.RowKit
open Go.Proofs.YtekglahigjblkaaGreatDoor.St Go.Proofs.YtekglahigjblkaaGreatDoor.Co Go.Proofs.YtekglahigjblkaaGreatDoor.Pt
set_option linter.unusedVariables false

/-- A store that is being rebuilt; who is over is kept beside. -/
structure RsOK (p : PS) (v : Int) : Prop where
  ok : OKP { p with over := [] }
  ver : ∀ x ∈ p.items, x.version ≤ v
  nd : p.over.Nodup
  ovt : ∀ t ∈ p.over, txOK t = true
  lo : ∀ k ∈ p.locks, k.t ∉ p.over
theorem RsOK.okp {p : PS} {v : Int} (h : RsOK p v) : OKP p :=
  ⟨h.ok.items, h.ok.l24, h.ok.lk, h.ok.nag, h.nd, h.ovt, h.ok.da, h.ok.dl, h.ok.dn, fun d hd ho => by
    obtain ⟨k, hk, e⟩ := h.ok.dl d hd
    exact h.lo k hk (by rw [e]; exact ho), h.ok.ld⟩
theorem RsOK.mono {p : PS} {v u : Int} (h : RsOK p v) (hu : v ≤ u) : RsOK p u := ⟨h.ok, fun x hx => by have := h.ver x hx; omega, h.nd, h.ovt, h.lo⟩
theorem rs_nil : RsOK PS.nil 1 := ⟨gd_nil.ok, by simp [PS.nil], by simp [PS.nil], by simp [PS.nil], by simp [PS.nil]⟩
theorem OKP.noOver {p : PS} (h : OKP p) : OKP { p with over := [] } := ⟨h.items, h.l24, h.lk, h.nag, List.nodup_nil, (fun t ht => by cases ht), h.da, h.dl, h.dn, (fun d hd ho => by cases ho), h.ld⟩
theorem rs_step {p : PS} {v : Int} {r : RcP} (h : RsOK p v) (v1 : 1 ≤ v) (v2 : v ≤ 1048000) (ht : txOK r.tx = true) : RsOK (stStep p r) (v + 24) := by
  unfold stStep
  by_cases ho : r.tx ∈ p.over
  · rw [if_pos ho]
    exact h.mono (by omega)
  · rw [if_neg ho]
    by_cases hk : r.kind = 1
    · rw [if_pos hk]
      unfold PS.wr
      by_cases he : writeErr (PS.sv { p with over := [] }) r.tx r.key r.value r.ask = 0
      · rw [if_pos he]
        have hok := write_ok he
        have e : writeData (PS.sv { p with over := [] }) r.tx r.key r.value r.ask = ⟨p.items, holdL p.locks ⟨r.tx, r.key, true, r.value, r.ask⟩, holdD p.doubts r.tx, []⟩ := by unfold writeData; rw [if_pos he]; rfl
        rw [e] at hok ⊢
        refine ⟨hok, fun x hx => by have := h.ver x hx; omega, h.nd, h.ovt, fun k hk2 => ?_⟩
        rcases holdL_mem hk2 with rfl | hk2
        · exact ho
        · exact h.lo k hk2
      · rw [if_neg he]
        exact ⟨h.ok, fun x hx => by have := h.ver x hx; omega, h.nd, h.ovt, h.lo⟩
    · rw [if_neg hk]
      by_cases hk2 : r.kind = 2 ∨ r.kind = 6
      · rw [if_pos hk2]
        unfold PS.en
        have hst : storeOK (PS.sv { p with over := [] }) = true := OKP.ok (s := PS.sv { p with over := [] }) h.ok
        have he : endErr (PS.sv { p with over := [] }) r.tx r.yes = 0 := by unfold endErr; rw [if_pos hst, if_pos ht]
        obtain ⟨hok, hver⟩ := end_ok he v1 v2 h.ver
        have e : endData (PS.sv { p with over := [] }) r.tx r.yes = ⟨if r.yes then putAll p.items (p.locks.filter (wOf r.tx)) else p.items, St.keep (ofT r.tx) p.locks, St.keep (dbT r.tx) p.doubts, [r.tx]⟩ := by unfold endData; rw [if_pos he]; simp [PS.sv]
        rw [e] at hok hver ⊢
        refine ⟨(OKP.noOver hok :), hver, ?_, ?_, fun k hk3 => ?_⟩
        · exact List.nodup_append.2 ⟨h.nd, by simp, fun x hx y hy e8 => by simp at hy; subst hy; subst e8; exact ho hx⟩
        · intro t ht2
          rcases List.mem_append.1 ht2 with ht2 | ht2
          · exact h.ovt t ht2
          · simp at ht2; subst ht2; exact ht
        · obtain ⟨h8, h9⟩ := St.mem_keep.1 hk3
          intro h7
          rcases List.mem_append.1 h7 with h7 | h7
          · exact h.lo k h8 h7
          · simp at h7
            simp [ofT, h7] at h9
      · rw [if_neg hk2]
        exact h.mono (by omega)
theorem rs_fold : ∀ (l : List RcP) (p : PS) (v : Int), RsOK p v → 1 ≤ v → v + 24 * (l.length : Int) ≤ 1048000 → (∀ r ∈ l, txOK r.tx = true) → RsOK (l.foldl stStep p) (v + 24 * (l.length : Int)) := by
  intro l
  induction l with
  | nil => intro p v h _ _ _; simpa using h
  | cons a r ih =>
    intro p v h h1 h2 h3
    simp only [List.length_cons] at h2 ⊢
    have h4 := ih (stStep p a) (v + 24) (rs_step h h1 (by omega) (h3 a (by simp))) (by omega) (by omega) (fun x hx => h3 x (by simp [hx]))
    rw [List.foldl_cons]
    exact h4.mono (by omega)
theorem recStore_ok {rs : List RcP} (hl : rs.length ≤ 1000) (h : ∀ r ∈ rs, txOK r.tx = true) : RsOK (recStore rs) 24001 := (rs_fold rs PS.nil 1 rs_nil (by omega) (by omega) h).mono (by omega)
/-- Who is over stays so, in its place. -/
theorem over_stays : ∀ (l : List RcP) (p : PS), ∃ m, (l.foldl stStep p).over = p.over ++ m := by
  intro l
  induction l with
  | nil => intro p; exact ⟨[], by simp⟩
  | cons a r ih =>
    intro p
    obtain ⟨m, hm⟩ := ih (stStep p a)
    have : ∃ m, (stStep p a).over = p.over ++ m := by
      unfold stStep
      split
      · exact ⟨[], by simp⟩
      · split
        · exact ⟨[], by simp⟩
        · split
          · exact ⟨[a.tx], rfl⟩
          · exact ⟨[], by simp⟩
    obtain ⟨m2, hm2⟩ := this
    exact ⟨m2 ++ m, by rw [List.foldl_cons, hm, hm2, List.append_assoc]⟩
/-- Put at its place. -/
def insS (x : JbV) : List JbV → List JbV
  | [] => [x]
  | j :: r => if x.n < j.n then x :: j :: r else j :: insS x r
theorem tellAt_cons (j : JbV) (r : List JbV) (n : Int) : tellAt (j :: r) n = if n < j.n then 0 else tellAt r n + 1 := by
  unfold tellAt idxI
  rw [List.findIdx?_cons]
  by_cases h : n < j.n
  · simp [isAb, h]
  · simp only [isAb, h, decide_false, Bool.false_eq_true, ↓reduceIte]
    cases e : List.findIdx? (isAb n) r with
    | none =>
      simp
    | some k =>
      simp
      omega
theorem insJ_insS (x : JbV) : ∀ (js : List JbV), insJ js (tellAt js x.n) x = insS x js := by
  intro js
  induction js with
  | nil => rfl
  | cons j r ih =>
    rw [tellAt_cons, insS]
    by_cases h : x.n < j.n
    · rw [if_pos h, if_pos h]; rfl
    · rw [if_neg h, if_neg h, ← ih]; rfl
theorem jbsGo_low {s nl next a b : Int} (h : a ≤ b) : ∀ {l : List JbV}, jbsGo s nl next b l = true → jbsGo s nl next a l = true := by
  intro l hl
  cases l with
  | nil => rfl
  | cons j r =>
    simp only [jbsGo, Bool.and_eq_true] at hl ⊢
    have := inR_ofR hl.1.1
    exact ⟨⟨by simp [inR]; omega, hl.1.2⟩, hl.2⟩
theorem jbsGo_next {s nl next next' : Int} (h : next ≤ next') : ∀ {l : List JbV} {a : Int}, jbsGo s nl next a l = true → jbsGo s nl next' a l = true := by
  intro l
  induction l with
  | nil => intro a _; rfl
  | cons j r ih =>
    intro a hl
    simp only [jbsGo, Bool.and_eq_true] at hl ⊢
    have := inR_ofR hl.1.1
    exact ⟨⟨by simp [inR]; omega, hl.1.2⟩, ih hl.2⟩
theorem jbsGo_keep {s nl next : Int} (p : JbV → Bool) : ∀ {l : List JbV} {a : Int}, jbsGo s nl next a l = true → jbsGo s nl next a (Co.keep p l) = true := by
  intro l
  induction l with
  | nil => intro a _; rfl
  | cons j r ih =>
    intro a hl
    simp only [jbsGo, Bool.and_eq_true] at hl
    have h1 := inR_ofR hl.1.1
    have h2 := ih hl.2
    unfold Co.keep at h2 ⊢
    cases e : p j with
    | true =>
      rw [List.filter_cons_of_neg (by simp [e])]
      exact jbsGo_low (by omega) h2
    | false =>
      rw [List.filter_cons_of_pos (by simp [e])]
      simp only [jbsGo, Bool.and_eq_true]
      exact ⟨⟨hl.1.1, hl.1.2⟩, h2⟩
theorem jbsGo_ins {s nl next : Int} {x : JbV} (hx : jbOK s nl x = true) (hn : x.n ≤ next - 1) : ∀ {l : List JbV} {a : Int}, a ≤ x.n → l.any (isNr x.n) = false → jbsGo s nl next a l = true → jbsGo s nl next a (insS x l) = true := by
  intro l
  induction l with
  | nil =>
    intro a ha _ _
    simp only [insS, jbsGo, Bool.and_eq_true, hx, and_true]
    simp [inR]; omega
  | cons j r ih =>
    intro a ha hno hl
    simp only [List.any_cons, Bool.or_eq_false_iff] at hno
    have hne : ¬ j.n = x.n := by simpa [isNr] using hno.1
    rw [insS]
    have hl' := hl
    simp only [jbsGo, Bool.and_eq_true] at hl
    have h1 := inR_ofR hl.1.1
    by_cases h : x.n < j.n
    · rw [if_pos h]
      rw [jbsGo]
      simp only [Bool.and_eq_true, hx, and_true]
      refine ⟨by simp [inR]; omega, ?_⟩
      simp only [jbsGo, Bool.and_eq_true]
      exact ⟨⟨by simp [inR]; omega, hl.1.2⟩, hl.2⟩
    · rw [if_neg h]
      simp only [jbsGo, Bool.and_eq_true]
      exact ⟨⟨hl.1.1, hl.1.2⟩, ih (by omega) hno.2 hl.2⟩
theorem rise_rising (s : Int) : ∀ (l : List Int) (a : Int), rise s a l = rising s a l := by
  intro l
  induction l with
  | nil => intro a; rfl
  | cons x r ih => intro a; rw [rise, rising, ih]
/-- A desk that is being rebuilt. -/
def DkOK (s nl : Int) (p : Int × List JbV) : Prop := (1 ≤ p.1 ∧ p.1 ≤ 1048577) ∧ p.2.length ≤ 6 ∧ jbsGo s nl p.1 1 p.2 = true
theorem dk_step {s nl me : Int} {p : Int × List JbV} {r : RcP} (h : DkOK s nl p) (hn : 1 ≤ r.num ∧ r.num ≤ 1048576) (hz : rising s 0 r.zs = true) : DkOK s nl (dkStep me p r) := by
  have hlen := dkStep_len me p r h.2.1
  revert hlen
  unfold dkStep
  split
  · split
    · intro hlen
      refine ⟨h.1, hlen, ?_⟩
      show jbsGo s nl p.1 1 (tellP p.1 p.2 r) = true
      unfold tellP
      split
      · exact h.2.2
      · rename_i h8
        have h8' : tellNo p.1 p.2 r = false := by simpa using h8
        unfold tellNo at h8'
        simp only [Bool.or_eq_false_iff, decide_eq_false_iff_not] at h8'
        obtain ⟨q1, q2, q3, q4⟩ := h8'
        have hj : jbOK s nl (tellJ r) = true := by
          unfold jbOK tellJ
          simp only [rise_rising, hz]
          have : 0 < r.zs.length := by omega
          simp [inR, tksOK, tksGo, this]
        have h9 := insJ_insS (tellJ r) p.2
        have e : (tellJ r).n = r.num := rfl
        rw [e] at h9
        rw [h9]
        exact jbsGo_ins hj (by rw [e]; omega) (by rw [e]; omega) (by rw [e]; exact q4) h.2.2
    · split
      · intro hlen
        exact ⟨h.1, hlen, jbsGo_keep _ h.2.2⟩
      · split
        · intro hlen
          refine ⟨?_, hlen, jbsGo_next (by show p.1 ≤ max p.1 (r.num + 1); omega) h.2.2⟩
          show 1 ≤ max p.1 (r.num + 1) ∧ max p.1 (r.num + 1) ≤ 1048577
          have := h.1
          omega
        · intro _; exact h
  · intro _; exact h
theorem recDesk_ok {s nl me : Int} {rs : List RcP} (h : ∀ r ∈ rs, (1 ≤ r.num ∧ r.num ≤ 1048576) ∧ rising s 0 r.zs = true) : DkOK s nl (recDesk me rs) := by
  have key : ∀ (l : List RcP) (p : Int × List JbV), DkOK s nl p → (∀ r ∈ l, (1 ≤ r.num ∧ r.num ≤ 1048576) ∧ rising s 0 r.zs = true) → DkOK s nl (l.foldl (dkStep me) p) := by
    intro l
    induction l with
    | nil => intro p hp _; exact hp
    | cons a r ih => intro p hp hl; exact ih _ (dk_step hp (hl a (by simp)).1 (hl a (by simp)).2) (fun x hx => hl x (by simp [hx]))
  exact key rs _ ⟨by omega, by simp, rfl⟩ h
theorem jbsGo_bare {s nl next : Int} : ∀ (l : List JbV) (a : Int), jbsGo s nl next a (l.map JbV.bare) = jbsGo s nl next a l := by
  intro l
  induction l with
  | nil => intro a; rfl
  | cons j r ih => intro a; simp only [List.map_cons, jbsGo, ih]; rfl
theorem dk_zero {s : Int} {ls : List (Int × Int)} {p next : Int} {js : List JbV} (hc : cfgFault s ls p = 0) (h : DkOK s ls.length (next, js.map JbV.bare)) : dkErr s ls p next js = 0 := by
  obtain ⟨h1, h2, h3⟩ := h
  simp only [List.length_map] at h2
  rw [jbsGo_bare] at h3
  have h2' : js.length ≤ 6 := h2
  have h1' : 1 ≤ next ∧ next ≤ 1048577 := h1
  unfold dkErr
  rw [if_pos hc, if_pos]
  simp only [Bool.and_eq_true, jbsOK]
  refine ⟨by simp [inR]; omega, by simpa using h2', h3⟩
end Go.Proofs.YtekglahigjblkaaGreatDoor.Rb
