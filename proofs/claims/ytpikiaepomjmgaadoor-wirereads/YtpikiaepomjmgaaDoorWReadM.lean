/- The contract of wire.readMessage. -/
import Derived.Test.YtpikiaepomjmgaaDoorWRParts
import Derived.Test.YtpikiaepomjmgaaDoorWCheckM
import Derived.Test.YtpikiaepomjmgaaDoorWDecM1
namespace Go.Proofs.YtpikiaepomjmgaaDoor
open Go.ChangeShapes Go.WideShapes Go.ChangeAt Go.RowKit
set_option linter.unusedVariables false

/-- A box of n cells. -/
structure BoxN (u : World) (b n : Nat) (vs : List Value) : Prop where
  len : vs.length = n
  lt : b < u.heap.size
  c : ∀ i, i < n → u.cell? ⟨b, i, none⟩ = some (vs.getD i (.bool false)) ∧ u.frozen? ⟨b, i, none⟩ = false

theorem BoxN.grown {u u' : World} {b n : Nat} {vs : List Value} {row : Option Nat} (h : BoxN u b n vs) (hg : u.grownBy u' row) (hne : some b ≠ row) : BoxN u' b n vs := by
  have e := hg.block b h.lt hne
  refine ⟨h.len, Nat.lt_of_lt_of_le h.lt hg.size, fun i hi => ⟨?_, ?_⟩⟩
  · rw [World.cell?_of_block (a := ⟨b, i, none⟩) e]; exact (h.c i hi).1
  · rw [World.frozen?_of_block (a := ⟨b, i, none⟩) e]; exact (h.c i hi).2
theorem BoxN.set {u : World} {b n : Nat} {vs : List Value} (h : BoxN u b n vs) (k : Nat) (hk : k < n) (v : Value) : BoxN (u.setCell ⟨b, k, none⟩ v) b n (vs.set k v) := by
  refine ⟨by simp [h.len], by simpa using h.lt, fun i hi => ⟨?_, ?_⟩⟩
  · by_cases hik : k = i
    · subst hik
      rw [World.cell?_setCell_same u ⟨b, k, none⟩ _ (h.c k hk).1]
      simp [List.getD, h.len, hk]
    · rw [rp_ne hik, (h.c i hi).1]
      simp [List.getD, hik]
  · rw [rp_frozen]; exact (h.c i hi).2
theorem BoxN.far {u : World} {b n c k : Nat} {vs : List Value} {v : Value} (h : BoxN u b n vs) (hne : b ≠ c) : BoxN (u.setCell ⟨c, k, none⟩ v) b n vs := by
  have e : (u.setCell ⟨c, k, none⟩ v).heap[b]? = u.heap[b]? := Below.heap_setCell u _ _ b hne
  refine ⟨h.len, by simpa using h.lt, fun i hi => ⟨?_, ?_⟩⟩
  · rw [World.cell?_of_block (a := ⟨b, i, none⟩) e]; exact (h.c i hi).1
  · rw [World.frozen?_of_block (a := ⟨b, i, none⟩) e]; exact (h.c i hi).2

/-- All that readMessage has in memory. -/
structure RMAt (w V : World) (M R L : Nat) (vs : List Value) (st : RS) : Prop where
  mb : BoxN V M 12 vs
  rb : BoxN V w.heap.size 12 [.int .i64 0, .int .i64 0, .int .i64 0, .int .i64 0, .int .i64 0, .int .i64 0, .int .i64 0, .int .i64 0, .int .i64 0, .int .i64 0, .bool false, .int .i64 0]
  rd : RdTo V R L st
  gr : w.grownBy V (some R)
  mlt : w.heap.size < M
  rlt : R < w.heap.size

theorem RMAt.set {w V : World} {M R L : Nat} {vs : List Value} {st : RS} (h : RMAt w V M R L vs st) (k : Nat) (hk : k < 12) (v : Value) : RMAt w (V.setCell ⟨M, k, none⟩ v) M R L (vs.set k v) st := by
  have hm := h.mlt
  have hr := h.rlt
  refine ⟨h.mb.set k hk v, h.rb.far (by omega), ?_, ?_, hm, hr⟩
  · refine h.rd.grown (grown_set (R := M) (grownR_refl V (some M))) (fun q hq => ?_)
    have := h.rd.hL
    simp at hq
    omega
  · have hg := h.gr
    refine ⟨hg.os, hg.tape, hg.output, by simpa using hg.size, fun q hq hne => ?_⟩
    rw [Below.heap_setCell V _ _ q (by show q ≠ M; omega)]
    exact hg.block q hq hne
theorem RMAt.call {w V V' : World} {M R L : Nat} {vs : List Value} {st st' : RS} (h : RMAt w V M R L vs st) (hg : V.grownBy V' (some R)) (hr' : RdTo V' R L st') : RMAt w V' M R L vs st' := by
  have hm := h.mlt
  have hr := h.rlt
  exact ⟨h.mb.grown hg (by simp; omega), h.rb.grown hg (by simp; omega), hr', grownR_trans h.gr hg, hm, hr⟩
theorem RMAt.alloc {w V : World} {M R L : Nat} {vs : List Value} {st : RS} (h : RMAt w V M R L vs st) (ob : Obj) : RMAt w (V.alloc ob) M R L vs st := by
  have ha := World.grownBy_alloc V ob none
  have hg := h.gr
  exact ⟨h.mb.grown ha (by simp), h.rb.grown ha (by simp), h.rd.grown ha (fun q hq => by cases hq), ⟨ha.os.trans hg.os, ha.tape.trans hg.tape, ha.output.trans hg.output, Nat.le_trans hg.size ha.size, fun q hq hne => (ha.block q (Nat.lt_of_lt_of_le hq hg.size) (by simp)).trans (hg.block q hq hne)⟩, h.mlt, h.rlt⟩

set_option maxRecDepth 100000 in
set_option maxHeartbeats 4000000 in
theorem readMessage_any (R L : Nat) (st : RS) (w : World) (h : RdTo w R L st) (hm : HasAt w 0 mHas) (hwd : WidsAt w) (hgm : 0 < L) (hgw : 2 < L) (hkb : 0 ≤ (st.kind 10).1) :
    Calls Tryd.prog 18 #[.pointer (some ⟨R, 0, none⟩)] w fun e w' => ∃ v, e = .returned v ∧ v = (decMsgRS st).1.val ∧ RdTo w' R L (decMsgRS st).2 ∧ w.grownBy w' (some R) := by
  have hLR := h.hL
  have hRw := h.lt
  have hk9 : (st.kind 10).1 < 10 := by
    unfold RS.kind
    split
    · exact (by decide : (0 : Int) < 10)
    · omega
  have hK := fun w' hh => kindR_any R L st 10 w' hh (by omega)
  obtain ⟨k, r1, e1⟩ : ∃ n r, st.kind 10 = (n, r) := ⟨_, _, rfl⟩
  obtain ⟨n2, r2, e2⟩ : ∃ n r, r1.num 1 = (n, r) := ⟨_, _, rfl⟩
  obtain ⟨n3, r3, e3⟩ : ∃ n r, r2.num 1 = (n, r) := ⟨_, _, rfl⟩
  obtain ⟨n4, r4, e4⟩ : ∃ n r, r3.num 1 = (n, r) := ⟨_, _, rfl⟩
  obtain ⟨n5, r5, e5⟩ : ∃ n r, r4.num 3 = (n, r) := ⟨_, _, rfl⟩
  have hN2 := fun w' hh => number_any R L r1 1 w' hh (by omega)
  have hN3 := fun w' hh => number_any R L r2 1 w' hh (by omega)
  have hT := fun w' hh hr => txnRd_any R L r3 w' hh hr
  rw [e1] at hK hkb hk9
  rw [e2] at hN2
  rw [e3] at hN3
  rw [e4] at hT
  simp only at hK hN2 hN3 hT hkb hk9
  rw [e5] at hT
  simp only at hT
  obtain ⟨kn, rfl⟩ : ∃ kn : Nat, k = kn := ⟨k.toNat, by omega⟩
  have k10 : kn < 10 := by omega
  have k9 : (kn : Int) < 10 := by omega
  have ED : Hid (∀ d, decParts 0 (mHas.getD kn []) widL r5 = d → decMsgRS st = (⟨(kn : Int), n2, n3, n4, n5, d.1.getD 0 0, d.1.getD 1 0, d.1.getD 2 0, d.1.getD 3 0, d.1.getD 4 0, decide (d.1.getD 5 0 = 1), d.1.getD 6 0⟩, d.2)) := by
    show ∀ d, _ → _
    intro d hd
    rw [← hd]
    unfold decMsgRS
    rw [e1]
    simp only [e2, e3, e4, e5, mHasOf, Int.toNat_natCast]
  clear e1 e2 e3 e4 e5
  obtain ⟨W, hW⟩ : ∃ W : World, W = w.alloc (.cells #[.int .i64 0, .int .i64 0, .int .i64 0, .int .i64 0, .int .i64 0, .int .i64 0, .int .i64 0, .int .i64 0, .int .i64 0, .int .i64 0, .bool false, .int .i64 0] 30) := ⟨_, rfl⟩
  have hG : w.grownBy W none := by rw [hW]; exact World.grownBy_alloc w _ none
  have zW : W.heap.size = w.heap.size + 1 := by rw [hW]; simp
  have rbW : BoxN W w.heap.size 12 [.int .i64 0, .int .i64 0, .int .i64 0, .int .i64 0, .int .i64 0, .int .i64 0, .int .i64 0, .int .i64 0, .int .i64 0, .int .i64 0, .bool false, .int .i64 0] := by
    refine ⟨rfl, by omega, fun i hi => ?_⟩
    rw [hW]
    rcases (by omega : i = 0 ∨ i = 1 ∨ i = 2 ∨ i = 3 ∨ i = 4 ∨ i = 5 ∨ i = 6 ∨ i = 7 ∨ i = 8 ∨ i = 9 ∨ i = 10 ∨ i = 11) with rfl | rfl | rfl | rfl | rfl | rfl | rfl | rfl | rfl | rfl | rfl | rfl <;> exact ⟨by go_simp; first | done | rfl, by go_simp⟩
  have hRW := h.grown hG (fun q hq => by cases hq)
  go_enter Tryd.func18, Tryd.ntmps18
  go_upto_region 1 with (fail)
  rw [← hW]
  clear hW
  go_upto_region 2 with (go_at_call 39; refine (hK _ hRW).mono ?_; rintro e w1 ⟨rfl, h1, hg1⟩)
  obtain ⟨V1, hV1⟩ : ∃ V : World, V = w1.alloc (.cells #[.int .i64 (kn : Int), .int .i64 0, .int .i64 0, .int .i64 0, .int .i64 0, .int .i64 0, .int .i64 0, .int .i64 0, .int .i64 0, .int .i64 0, .bool false, .int .i64 0] 30) := ⟨_, rfl⟩
  have A1 : RMAt w V1 w1.heap.size R L [.int .i64 (kn : Int), .int .i64 0, .int .i64 0, .int .i64 0, .int .i64 0, .int .i64 0, .int .i64 0, .int .i64 0, .int .i64 0, .int .i64 0, .bool false, .int .i64 0] r1 := by
    have ha := World.grownBy_alloc w1 (.cells #[.int .i64 (kn : Int), .int .i64 0, .int .i64 0, .int .i64 0, .int .i64 0, .int .i64 0, .int .i64 0, .int .i64 0, .int .i64 0, .int .i64 0, .bool false, .int .i64 0] 30) none
    have s1 := hg1.size
    refine ⟨⟨rfl, by rw [hV1]; simp, fun i hi => ?_⟩, ?_, ?_, ?_, by omega, hRw⟩
    · rw [hV1]
      rcases (by omega : i = 0 ∨ i = 1 ∨ i = 2 ∨ i = 3 ∨ i = 4 ∨ i = 5 ∨ i = 6 ∨ i = 7 ∨ i = 8 ∨ i = 9 ∨ i = 10 ∨ i = 11) with rfl | rfl | rfl | rfl | rfl | rfl | rfl | rfl | rfl | rfl | rfl | rfl <;> exact ⟨by go_simp; first | done | rfl, by go_simp⟩
    · rw [hV1]; exact (rbW.grown hg1 (by simp; omega)).grown ha (by simp)
    · rw [hV1]; exact h1.grown ha (fun q hq => by cases hq)
    · rw [hV1]
      exact ⟨ha.os.trans (hg1.os.trans hG.os), ha.tape.trans (hg1.tape.trans hG.tape), ha.output.trans (hg1.output.trans hG.output), by have := ha.size; omega, fun q hq hne => (ha.block q (by omega) (by simp)).trans ((hg1.block q (by omega) hne).trans (hG.block q hq (by simp)))⟩
  rw [← hV1]
  clear hV1
  obtain ⟨M, hM⟩ : ∃ M, M = w1.heap.size := ⟨_, rfl⟩
  rw [← hM] at A1 ⊢
  clear hM h1 hg1 hRW rbW
  go_upto_region 3 with (go_at_call 40; refine (hN2 _ A1.rd).mono ?_; rintro e u ⟨rfl, hu, hgu⟩; have Q := A1.call hgu hu; obtain ⟨q0, q1⟩ := Q.mb.c 1 (by omega))
  have A2 := Q.set 1 (by omega) (.int .i64 n2)
  obtain ⟨V2, hV2⟩ : ∃ V : World, V = u.setCell ⟨M, 1, none⟩ (.int .i64 n2) := ⟨_, rfl⟩
  rw [← hV2] at A2 ⊢
  clear hV2 Q q0 q1 hu hgu A1
  replace A2 : RMAt w V2 M R L [.int .i64 (kn : Int), .int .i64 n2, .int .i64 0, .int .i64 0, .int .i64 0, .int .i64 0, .int .i64 0, .int .i64 0, .int .i64 0, .int .i64 0, .bool false, .int .i64 0] r2 := A2
  go_upto_region 4 with (go_at_call 40; refine (hN3 _ A2.rd).mono ?_; rintro e u ⟨rfl, hu, hgu⟩; have Q := A2.call hgu hu; obtain ⟨q0, q1⟩ := Q.mb.c 2 (by omega))
  have A3 := Q.set 2 (by omega) (.int .i64 n3)
  obtain ⟨V3, hV3⟩ : ∃ V : World, V = u.setCell ⟨M, 2, none⟩ (.int .i64 n3) := ⟨_, rfl⟩
  rw [← hV3] at A3 ⊢
  clear hV3 Q q0 q1 hu hgu A2
  replace A3 : RMAt w V3 M R L [.int .i64 (kn : Int), .int .i64 n2, .int .i64 n3, .int .i64 0, .int .i64 0, .int .i64 0, .int .i64 0, .int .i64 0, .int .i64 0, .int .i64 0, .bool false, .int .i64 0] r3 := A3
  go_upto_region 5 with (go_at_call 41; refine (hT _ A3.rd A3.rd.lt).mono ?_; rintro e u ⟨rfl, hu, hgu⟩; have Q := A3.call hgu hu; obtain ⟨q0, q1⟩ := Q.mb.c 3 (by omega); obtain ⟨q2, q3⟩ := Q.mb.c 4 (by omega))
  have A4 := (Q.set 3 (by omega) (.int .i64 n4)).set 4 (by omega) (.int .i64 n5)
  obtain ⟨V4, hV4⟩ : ∃ V : World, V = (u.setCell ⟨M, 3, none⟩ (.int .i64 n4)).setCell ⟨M, 4, none⟩ (.int .i64 n5) := ⟨_, rfl⟩
  rw [← hV4] at A4 ⊢
  clear hV4 Q q0 q1 q2 q3 hu hgu A3
  replace A4 : RMAt w V4 M R L [.int .i64 (kn : Int), .int .i64 n2, .int .i64 n3, .int .i64 n4, .int .i64 n5, .int .i64 0, .int .i64 0, .int .i64 0, .int .i64 0, .int .i64 0, .bool false, .int .i64 0] r5 := A4
  have EH : Hid (mHas.getD kn [] = [(mHas.getD kn []).getD 0 false, (mHas.getD kn []).getD 1 false, (mHas.getD kn []).getD 2 false, (mHas.getD kn []).getD 3 false, (mHas.getD kn []).getD 4 false, (mHas.getD kn []).getD 5 false, (mHas.getD kn []).getD 6 false, (mHas.getD kn []).getD 7 false]) := mHas_eight kn k10
  have hmV : HasAt V4 0 mHas := fun i j hi hj => A4.gr.cell (hm i j hi hj) (by simp; omega)
  have wV : WidsAt V4 := hwd.grown A4.gr (by simp; omega)
  have f0 := hmV kn 0 k10 (by decide)
  have f1 := hmV kn 1 k10 (by decide)
  have f2 := hmV kn 2 k10 (by decide)
  have f3 := hmV kn 3 k10 (by decide)
  have f4 := hmV kn 4 k10 (by decide)
  have f5 := hmV kn 5 k10 (by decide)
  have f6 := hmV kn 6 k10 (by decide)
  have f7 := hmV kn 7 k10 (by decide)
  obtain ⟨h0, eh0⟩ : ∃ x, x = (mHas.getD kn []).getD 0 false := ⟨_, rfl⟩
  obtain ⟨h1, eh1⟩ : ∃ x, x = (mHas.getD kn []).getD 1 false := ⟨_, rfl⟩
  obtain ⟨h2, eh2⟩ : ∃ x, x = (mHas.getD kn []).getD 2 false := ⟨_, rfl⟩
  obtain ⟨h3, eh3⟩ : ∃ x, x = (mHas.getD kn []).getD 3 false := ⟨_, rfl⟩
  obtain ⟨h4, eh4⟩ : ∃ x, x = (mHas.getD kn []).getD 4 false := ⟨_, rfl⟩
  obtain ⟨h5, eh5⟩ : ∃ x, x = (mHas.getD kn []).getD 5 false := ⟨_, rfl⟩
  obtain ⟨h6, eh6⟩ : ∃ x, x = (mHas.getD kn []).getD 6 false := ⟨_, rfl⟩
  obtain ⟨h7, eh7⟩ : ∃ x, x = (mHas.getD kn []).getD 7 false := ⟨_, rfl⟩
  rw [← eh0, ← eh1, ← eh2, ← eh3, ← eh4, ← eh5, ← eh6, ← eh7] at EH
  rw [← eh0] at f0
  rw [← eh1] at f1
  rw [← eh2] at f2
  rw [← eh3] at f3
  rw [← eh4] at f4
  rw [← eh5] at f5
  rw [← eh6] at f6
  rw [← eh7] at f7
  clear eh0 eh1 eh2 eh3 eh4 eh5 eh6 eh7
  simp only [Nat.add_zero] at f0
  obtain ⟨k0, _⟩ := A4.mb.c 0 (by omega)
  have k0' : V4.cell? ⟨M, 0, none⟩ = some (.int .i64 (kn : Int)) := k0
  clear k0
  go_upto_region 6 with (go_at_call 42; refine (partsR_any R L r5 h0 h1 h2 h3 h4 h5 h6 h7 _ A4.rd wV hgw).mono ?_; rintro e u ⟨v, rfl, q0, q1, q2, q3, q4, q5, q6, q7, rfl, hq, hu, hgu⟩)
  have A5 := (A4.call hgu hu).alloc (.cells #[.int .i64 q0, .int .i64 q1, .int .i64 q2, .int .i64 q3, .int .i64 q4, .int .i64 q5, .int .i64 q6, .int .i64 q7] 77)
  obtain ⟨V5, hV5⟩ : ∃ V : World, V = u.alloc (.cells #[.int .i64 q0, .int .i64 q1, .int .i64 q2, .int .i64 q3, .int .i64 q4, .int .i64 q5, .int .i64 q6, .int .i64 q7] 77) := ⟨_, rfl⟩
  have P5 : BoxN V5 u.heap.size 8 [.int .i64 q0, .int .i64 q1, .int .i64 q2, .int .i64 q3, .int .i64 q4, .int .i64 q5, .int .i64 q6, .int .i64 q7] := by
    refine ⟨rfl, by rw [hV5]; simp, fun i hi => ?_⟩
    rw [hV5]
    rcases (by omega : i = 0 ∨ i = 1 ∨ i = 2 ∨ i = 3 ∨ i = 4 ∨ i = 5 ∨ i = 6 ∨ i = 7) with rfl | rfl | rfl | rfl | rfl | rfl | rfl | rfl <;> exact ⟨by go_simp; first | done | rfl, by go_simp⟩
  have hMP : u.heap.size ≠ M := by have := (A4.call hgu hu).mb.lt; omega
  rw [← hV5] at A5 ⊢
  clear hV5
  obtain ⟨Pb, hPb⟩ : ∃ Pb, Pb = u.heap.size := ⟨_, rfl⟩
  rw [← hPb] at P5 hMP ⊢
  have hD : decMsgRS st = (⟨(kn : Int), n2, n3, n4, n5, q0, q1, q2, q3, q4, (q5 == 1), q6⟩, (decParts 0 [h0, h1, h2, h3, h4, h5, h6, h7] widL r5).2) := by
    rw [ED.out _ rfl, EH.out, hq]
    rfl
  obtain ⟨rF, erF⟩ : ∃ r, r = (decParts 0 [h0, h1, h2, h3, h4, h5, h6, h7] widL r5).2 := ⟨_, rfl⟩
  rw [← erF] at hD A5 hu
  have HD : Hid (decMsgRS st = (⟨(kn : Int), n2, n3, n4, n5, q0, q1, q2, q3, q4, (q5 == 1), q6⟩, rF)) := hD
  clear hPb hu hgu A4 hD erF hq ED EH f0 f1 f2 f3 f4 f5 f6 f7 hmV wV k0' hK hN2 hN3 hT
  obtain ⟨x0, _⟩ := P5.c 0 (by omega)
  replace x0 : V5.cell? ⟨Pb, 0, none⟩ = some (.int .i64 q0) := x0
  obtain ⟨y0, y1⟩ := A5.mb.c 5 (by omega)
  replace y0 : V5.cell? ⟨M, 5, none⟩ = some (.int .i64 0) := y0
  go_upto_region 7 with (fail)
  have A6 := A5.set 5 (by omega) (.int .i64 q0)
  have P6 := P5.far (c := M) (k := 5) (v := .int .i64 q0) hMP
  obtain ⟨V6, hV6⟩ : ∃ V : World, V = V5.setCell ⟨M, 5, none⟩ (.int .i64 q0) := ⟨_, rfl⟩
  rw [← hV6] at A6 P6 ⊢
  clear hV6 x0 y0 y1 A5 P5
  replace A6 : RMAt w V6 M R L [.int .i64 (kn : Int), .int .i64 n2, .int .i64 n3, .int .i64 n4, .int .i64 n5, .int .i64 q0, .int .i64 0, .int .i64 0, .int .i64 0, .int .i64 0, .bool false, .int .i64 0] rF := A6
  obtain ⟨x0, _⟩ := P6.c 1 (by omega)
  replace x0 : V6.cell? ⟨Pb, 1, none⟩ = some (.int .i64 q1) := x0
  obtain ⟨y0, y1⟩ := A6.mb.c 6 (by omega)
  replace y0 : V6.cell? ⟨M, 6, none⟩ = some (.int .i64 0) := y0
  go_upto_region 8 with (fail)
  have A7 := A6.set 6 (by omega) (.int .i64 q1)
  have P7 := P6.far (c := M) (k := 6) (v := .int .i64 q1) hMP
  obtain ⟨V7, hV7⟩ : ∃ V : World, V = V6.setCell ⟨M, 6, none⟩ (.int .i64 q1) := ⟨_, rfl⟩
  rw [← hV7] at A7 P7 ⊢
  clear hV7 x0 y0 y1 A6 P6
  replace A7 : RMAt w V7 M R L [.int .i64 (kn : Int), .int .i64 n2, .int .i64 n3, .int .i64 n4, .int .i64 n5, .int .i64 q0, .int .i64 q1, .int .i64 0, .int .i64 0, .int .i64 0, .bool false, .int .i64 0] rF := A7
  obtain ⟨x0, _⟩ := P7.c 2 (by omega)
  replace x0 : V7.cell? ⟨Pb, 2, none⟩ = some (.int .i64 q2) := x0
  obtain ⟨y0, y1⟩ := A7.mb.c 7 (by omega)
  replace y0 : V7.cell? ⟨M, 7, none⟩ = some (.int .i64 0) := y0
  go_upto_region 9 with (fail)
  have A8 := A7.set 7 (by omega) (.int .i64 q2)
  have P8 := P7.far (c := M) (k := 7) (v := .int .i64 q2) hMP
  obtain ⟨V8, hV8⟩ : ∃ V : World, V = V7.setCell ⟨M, 7, none⟩ (.int .i64 q2) := ⟨_, rfl⟩
  rw [← hV8] at A8 P8 ⊢
  clear hV8 x0 y0 y1 A7 P7
  replace A8 : RMAt w V8 M R L [.int .i64 (kn : Int), .int .i64 n2, .int .i64 n3, .int .i64 n4, .int .i64 n5, .int .i64 q0, .int .i64 q1, .int .i64 q2, .int .i64 0, .int .i64 0, .bool false, .int .i64 0] rF := A8
  obtain ⟨x0, _⟩ := P8.c 3 (by omega)
  replace x0 : V8.cell? ⟨Pb, 3, none⟩ = some (.int .i64 q3) := x0
  obtain ⟨y0, y1⟩ := A8.mb.c 8 (by omega)
  replace y0 : V8.cell? ⟨M, 8, none⟩ = some (.int .i64 0) := y0
  go_upto_region 10 with (fail)
  have A9 := A8.set 8 (by omega) (.int .i64 q3)
  have P9 := P8.far (c := M) (k := 8) (v := .int .i64 q3) hMP
  obtain ⟨V9, hV9⟩ : ∃ V : World, V = V8.setCell ⟨M, 8, none⟩ (.int .i64 q3) := ⟨_, rfl⟩
  rw [← hV9] at A9 P9 ⊢
  clear hV9 x0 y0 y1 A8 P8
  replace A9 : RMAt w V9 M R L [.int .i64 (kn : Int), .int .i64 n2, .int .i64 n3, .int .i64 n4, .int .i64 n5, .int .i64 q0, .int .i64 q1, .int .i64 q2, .int .i64 q3, .int .i64 0, .bool false, .int .i64 0] rF := A9
  obtain ⟨x0, _⟩ := P9.c 4 (by omega)
  replace x0 : V9.cell? ⟨Pb, 4, none⟩ = some (.int .i64 q4) := x0
  obtain ⟨y0, y1⟩ := A9.mb.c 9 (by omega)
  replace y0 : V9.cell? ⟨M, 9, none⟩ = some (.int .i64 0) := y0
  go_upto_region 11 with (fail)
  have A10 := A9.set 9 (by omega) (.int .i64 q4)
  have P10 := P9.far (c := M) (k := 9) (v := .int .i64 q4) hMP
  obtain ⟨V10, hV10⟩ : ∃ V : World, V = V9.setCell ⟨M, 9, none⟩ (.int .i64 q4) := ⟨_, rfl⟩
  rw [← hV10] at A10 P10 ⊢
  clear hV10 x0 y0 y1 A9 P9
  replace A10 : RMAt w V10 M R L [.int .i64 (kn : Int), .int .i64 n2, .int .i64 n3, .int .i64 n4, .int .i64 n5, .int .i64 q0, .int .i64 q1, .int .i64 q2, .int .i64 q3, .int .i64 q4, .bool false, .int .i64 0] rF := A10
  obtain ⟨x0, _⟩ := P10.c 5 (by omega)
  replace x0 : V10.cell? ⟨Pb, 5, none⟩ = some (.int .i64 q5) := x0
  obtain ⟨y0, y1⟩ := A10.mb.c 10 (by omega)
  replace y0 : V10.cell? ⟨M, 10, none⟩ = some (.bool false) := y0
  go_upto_region 12 with (fail)
  have A11 := A10.set 10 (by omega) (.bool (q5 == 1))
  have P11 := P10.far (c := M) (k := 10) (v := .bool (q5 == 1)) hMP
  obtain ⟨V11, hV11⟩ : ∃ V : World, V = V10.setCell ⟨M, 10, none⟩ (.bool (q5 == 1)) := ⟨_, rfl⟩
  rw [← hV11] at A11 P11 ⊢
  clear hV11 x0 y0 y1 A10 P10
  replace A11 : RMAt w V11 M R L [.int .i64 (kn : Int), .int .i64 n2, .int .i64 n3, .int .i64 n4, .int .i64 n5, .int .i64 q0, .int .i64 q1, .int .i64 q2, .int .i64 q3, .int .i64 q4, .bool (q5 == 1), .int .i64 0] rF := A11
  obtain ⟨x0, _⟩ := P11.c 6 (by omega)
  replace x0 : V11.cell? ⟨Pb, 6, none⟩ = some (.int .i64 q6) := x0
  obtain ⟨y0, y1⟩ := A11.mb.c 11 (by omega)
  replace y0 : V11.cell? ⟨M, 11, none⟩ = some (.int .i64 0) := y0
  go_upto_region 13 with (fail)
  have A12 := A11.set 11 (by omega) (.int .i64 q6)
  have P12 := P11.far (c := M) (k := 11) (v := .int .i64 q6) hMP
  obtain ⟨V12, hV12⟩ : ∃ V : World, V = V11.setCell ⟨M, 11, none⟩ (.int .i64 q6) := ⟨_, rfl⟩
  rw [← hV12] at A12 P12 ⊢
  clear hV12 x0 y0 y1 A11 P11
  replace A12 : RMAt w V12 M R L [.int .i64 (kn : Int), .int .i64 n2, .int .i64 n3, .int .i64 n4, .int .i64 n5, .int .i64 q0, .int .i64 q1, .int .i64 q2, .int .i64 q3, .int .i64 q4, .bool (q5 == 1), .int .i64 q6] rF := A12
  have mlt := A12.mlt
  have rlt := A12.rlt
  have m0 : V12.cell? ⟨M, 0, none⟩ = some (.int .i64 (kn : Int)) := (A12.mb.c 0 (by omega)).1
  have s0 : V12.cell? ⟨w.heap.size, 0, none⟩ = some (.int .i64 0) := (A12.rb.c 0 (by omega)).1
  have g0 : V12.frozen? ⟨w.heap.size, 0, none⟩ = false := (A12.rb.c 0 (by omega)).2
  have m1 : V12.cell? ⟨M, 1, none⟩ = some (.int .i64 n2) := (A12.mb.c 1 (by omega)).1
  have s1 : V12.cell? ⟨w.heap.size, 1, none⟩ = some (.int .i64 0) := (A12.rb.c 1 (by omega)).1
  have g1 : V12.frozen? ⟨w.heap.size, 1, none⟩ = false := (A12.rb.c 1 (by omega)).2
  have m2 : V12.cell? ⟨M, 2, none⟩ = some (.int .i64 n3) := (A12.mb.c 2 (by omega)).1
  have s2 : V12.cell? ⟨w.heap.size, 2, none⟩ = some (.int .i64 0) := (A12.rb.c 2 (by omega)).1
  have g2 : V12.frozen? ⟨w.heap.size, 2, none⟩ = false := (A12.rb.c 2 (by omega)).2
  have m3 : V12.cell? ⟨M, 3, none⟩ = some (.int .i64 n4) := (A12.mb.c 3 (by omega)).1
  have s3 : V12.cell? ⟨w.heap.size, 3, none⟩ = some (.int .i64 0) := (A12.rb.c 3 (by omega)).1
  have g3 : V12.frozen? ⟨w.heap.size, 3, none⟩ = false := (A12.rb.c 3 (by omega)).2
  have m4 : V12.cell? ⟨M, 4, none⟩ = some (.int .i64 n5) := (A12.mb.c 4 (by omega)).1
  have s4 : V12.cell? ⟨w.heap.size, 4, none⟩ = some (.int .i64 0) := (A12.rb.c 4 (by omega)).1
  have g4 : V12.frozen? ⟨w.heap.size, 4, none⟩ = false := (A12.rb.c 4 (by omega)).2
  have m5 : V12.cell? ⟨M, 5, none⟩ = some (.int .i64 q0) := (A12.mb.c 5 (by omega)).1
  have s5 : V12.cell? ⟨w.heap.size, 5, none⟩ = some (.int .i64 0) := (A12.rb.c 5 (by omega)).1
  have g5 : V12.frozen? ⟨w.heap.size, 5, none⟩ = false := (A12.rb.c 5 (by omega)).2
  have m6 : V12.cell? ⟨M, 6, none⟩ = some (.int .i64 q1) := (A12.mb.c 6 (by omega)).1
  have s6 : V12.cell? ⟨w.heap.size, 6, none⟩ = some (.int .i64 0) := (A12.rb.c 6 (by omega)).1
  have g6 : V12.frozen? ⟨w.heap.size, 6, none⟩ = false := (A12.rb.c 6 (by omega)).2
  have m7 : V12.cell? ⟨M, 7, none⟩ = some (.int .i64 q2) := (A12.mb.c 7 (by omega)).1
  have s7 : V12.cell? ⟨w.heap.size, 7, none⟩ = some (.int .i64 0) := (A12.rb.c 7 (by omega)).1
  have g7 : V12.frozen? ⟨w.heap.size, 7, none⟩ = false := (A12.rb.c 7 (by omega)).2
  have m8 : V12.cell? ⟨M, 8, none⟩ = some (.int .i64 q3) := (A12.mb.c 8 (by omega)).1
  have s8 : V12.cell? ⟨w.heap.size, 8, none⟩ = some (.int .i64 0) := (A12.rb.c 8 (by omega)).1
  have g8 : V12.frozen? ⟨w.heap.size, 8, none⟩ = false := (A12.rb.c 8 (by omega)).2
  have m9 : V12.cell? ⟨M, 9, none⟩ = some (.int .i64 q4) := (A12.mb.c 9 (by omega)).1
  have s9 : V12.cell? ⟨w.heap.size, 9, none⟩ = some (.int .i64 0) := (A12.rb.c 9 (by omega)).1
  have g9 : V12.frozen? ⟨w.heap.size, 9, none⟩ = false := (A12.rb.c 9 (by omega)).2
  have m10 : V12.cell? ⟨M, 10, none⟩ = some (.bool (q5 == 1)) := (A12.mb.c 10 (by omega)).1
  have s10 : V12.cell? ⟨w.heap.size, 10, none⟩ = some (.bool false) := (A12.rb.c 10 (by omega)).1
  have g10 : V12.frozen? ⟨w.heap.size, 10, none⟩ = false := (A12.rb.c 10 (by omega)).2
  have m11 : V12.cell? ⟨M, 11, none⟩ = some (.int .i64 q6) := (A12.mb.c 11 (by omega)).1
  have s11 : V12.cell? ⟨w.heap.size, 11, none⟩ = some (.int .i64 0) := (A12.rb.c 11 (by omega)).1
  have g11 : V12.frozen? ⟨w.heap.size, 11, none⟩ = false := (A12.rb.c 11 (by omega)).2
  have hset : V12.grownBy _ (some w.heap.size) := grown_set (i := 11) (v := .int .i64 q6) (grown_set (i := 10) (v := .bool (q5 == 1)) (grown_set (i := 9) (v := .int .i64 q4) (grown_set (i := 8) (v := .int .i64 q3) (grown_set (i := 7) (v := .int .i64 q2) (grown_set (i := 6) (v := .int .i64 q1) (grown_set (i := 5) (v := .int .i64 q0) (grown_set (i := 4) (v := .int .i64 n5) (grown_set (i := 3) (v := .int .i64 n4) (grown_set (i := 2) (v := .int .i64 n3) (grown_set (i := 1) (v := .int .i64 n2) (grown_set (i := 0) (v := .int .i64 (kn : Int)) (grownR_refl V12 (some w.heap.size)))))))))))))
  have hrdF := A12.rd.grown hset (fun q hq => by have := A12.rd.hL; simp at hq; omega)
  have hgrF := A12.gr
  clear A12 P12
  go_wp2
  refine bodyPost_ret (v := .agg #[.int .i64 (kn : Int), .int .i64 n2, .int .i64 n3, .int .i64 n4, .int .i64 n5, .int .i64 q0, .int .i64 q1, .int .i64 q2, .int .i64 q3, .int .i64 q4, .bool (q5 == 1), .int .i64 q6]) (by simp [results, Tryd.results18, go_sem, s0, s1, s2, s3, s4, s5, s6, s7, s8, s9, s10, s11]) rfl ⟨_, rfl, by rw [HD.out]; rfl, by rw [HD.out]; exact hrdF, ?_⟩
  exact ⟨hset.os.trans hgrF.os, hset.tape.trans hgrF.tape, hset.output.trans hgrF.output, Nat.le_trans hgrF.size hset.size, fun q hq hne => (hset.block q (by have := hgrF.size; omega) (by simp; omega)).trans (hgrF.block q hq hne)⟩
end Go.Proofs.YtpikiaepomjmgaaDoor